/- A law's argument that is a slice of arrays of integers. No program. -/
import Derived.Test.YtpdjdejlhjcicaaRowsB
namespace Go.Proofs.Ytpdjdejlhjcicaa
set_option linter.unusedVariables false
open Go.RowKit Go.ChangeShapes Go.WideShapes

open Go.Deep in
theorem open_arrs {H : Type} {enc : TypeId × Value → H} {P : Program} {W : World} {base : Nat} {t e q : TypeId} {s : Nat} {v : Value} {d : DataW H} {p : List MemPlace} (ht : P.underlying t = some (.slice e)) (he : P.underlying e = some (.array s q)) (hq : P.underlying q = some (.int .i64)) (cq : P.cellsOf q = 1) (ce : P.cellsOf e = s) (h0 : 0 < s)
    (hv : Value.okWide P W .any base t v) (h : DataW.Trod enc P W 0 (fun _ => true) true t v d p) (hlt : ∀ x ∈ p, x.block < W.heap.size) :
    ∃ (r : Option Addr) (n cap : Nat) (F : Nat → Int), v = .slice r n cap ∧ n ≤ cap ∧ cap ≤ maxLen ∧ SlF s W r n F ∧ Fits64 F ∧ (r = none → cap = 0) := by
  obtain ⟨a0, len, cap, rfl⟩ := okWide_slice ht hv
  obtain ⟨fuel, hf⟩ := h
  rcases open_slice ht hf with ⟨hcs, _⟩ | ⟨a, len', cap', m, k, D, Pl, hcs, _, hl, hm, hmm, hx, hi⟩
  · simp [Value.cells] at hcs
    obtain ⟨rfl, rfl, rfl⟩ := hcs
    exact ⟨none, 0, 0, fun _ => 0, rfl, Nat.le_refl _, Nat.zero_le _, fun h => absurd h (by omega), fun _ => by dsimp only; omega, fun _ => rfl⟩
  · simp [Value.cells] at hcs
    obtain ⟨rfl, rfl, rfl⟩ := hcs
    simp only [if_true] at hmm
    subst hmm
    simp only [Prod.mk.injEq] at hx
    have cell : ∀ i, i < m → ∀ j, j < s → ∃ x : Int, W.cell? (a.add (i * s + j)) = some (.int .i64 x) ∧ -9223372036854775808 ≤ x ∧ x ≤ 9223372036854775807 := by
      intro i him j hj
      obtain ⟨cs, hc, hd⟩ := hi i him
      rw [ce] at hc
      obtain ⟨ys, k', _, hy, _, hyl, hg⟩ := DataW.trod_array he hd
      obtain ⟨_, hcl, hat⟩ := World.cells?_some hc
      have h1 := hg j hj
      have e1 : (List.drop j cs).take 1 = [cs[j]'(by omega)] := by rw [List.drop_eq_getElem_cons (by omega)]; rfl
      rw [cq, Nat.mul_one, e1, List.getElem?_eq_getElem (by omega)] at h1
      obtain ⟨x, hx1, _, hw⟩ := DataW.trod_int hq h1
      refine ⟨x, ?_, i64_of hw⟩
      rw [← Go.Deep.add_add, hat j (by omega), List.getElem?_eq_getElem (by omega)]
      rw [show cs[j]'(by omega) = Value.int .i64 x by simpa using hx1]
    refine ⟨some a, len, m, fun j => match W.cell? (a.add j) with | some (.int _ x) => if -9223372036854775808 ≤ x ∧ x ≤ 9223372036854775807 then x else 0 | _ => 0, rfl, hl, hm, fun hn => ?_, fun j => ?_, fun h => by cases h⟩
    · obtain ⟨x0, hx0, _⟩ := cell 0 (by omega) 0 h0
      rw [Nat.zero_mul, Nat.zero_add] at hx0
      obtain ⟨b, off, rfl, hb⟩ := spot_none hx0
      refine ⟨b, off, rfl, hb, fun j hj => ?_⟩
      have hjm : j / s < m := Nat.lt_of_lt_of_le (by rw [Nat.div_lt_iff_lt_mul h0, Nat.mul_comm]; exact hj) hl
      obtain ⟨x, hx, hb1, hb2⟩ := cell (j / s) hjm (j % s) (Nat.mod_lt _ h0)
      rw [show j / s * s + j % s = j by rw [Nat.mul_comm]; exact Nat.div_add_mod j s] at hx
      rw [← add_plain]
      dsimp only
      rw [hx]
      dsimp only
      rw [if_pos ⟨hb1, hb2⟩]
    · dsimp only
      split
      · split
        · assumption
        · omega
      · omega
end Go.Proofs.Ytpdjdejlhjcicaa
