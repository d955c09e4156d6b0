/- An argument that is a slice of slices of integers. -/
import Derived.Test.YtbnenkmkkookdaaParts
import Derived.Deep.Matrix
namespace Go.Proofs.Ytbnenkmkkookdaa
set_option linter.unusedVariables false
open Go.RowKit Go.ChangeShapes Go.WideShapes

theorem spot_none {w : World} {a : Addr} {u : Value} (h : w.cell? (a.add 0) = some u) : ∃ b off, a = ⟨b, off, none⟩ ∧ b < w.heap.size := by
  obtain ⟨b, off, spot⟩ := a
  have hspot : spot = none := by simpa [Addr.add] using World.cell?_spot h
  subst hspot
  rw [add_plain] at h
  exact ⟨b, off, rfl, block_lt_of_cell h⟩

open Go.Deep in
/-- The slice v reads as these rows of integers. -/
theorem open_rows {H : Type} {enc : TypeId × Value → H} {P : Program} {W : World} {base : Nat} {t e q : TypeId} {v : Value} {d : DataW H} {p : List MemPlace} (ht : P.underlying t = some (.slice e)) (he : P.underlying e = some (.slice q)) (hq : P.underlying q = some (.int .u8)) (ce : P.cellsOf e = 1) (cq : P.cellsOf q = 1)
    (hv : Value.okWide P W .any base t v) (h : DataW.Trod enc P W 0 (fun _ => true) true t v d p) :
    ∃ xss : List (List Int), SlR W v xss ∧ ∀ xs ∈ xss, ∀ x ∈ xs, (Lit.int .u8 x).wf = true := by
  obtain ⟨a0, len, cap, rfl⟩ := okWide_slice ht hv
  obtain ⟨fuel, hf⟩ := h
  rcases open_int_rows ht he hq ce cq hf with ⟨hcs, _⟩ | ⟨a, len', cap', A, L, C, Z, hcs, _, hl, hm, hx, hrow⟩
  · simp [Value.cells] at hcs
    obtain ⟨rfl, rfl, rfl⟩ := hcs
    exact ⟨[], ⟨[], ⟨none, 0, rfl, fun h => absurd rfl h⟩, rfl, fun i u hi => by simp at hi⟩, fun xs hxs => by cases hxs⟩
  · simp [Value.cells] at hcs
    obtain ⟨rfl, rfl, rfl⟩ := hcs
    refine ⟨(List.range len).map fun r => (Z r).take (L r), ⟨(List.range len).map fun r => .slice (A r) (L r) (C r), ?_, by simp, ?_⟩, ?_⟩
    · refine ⟨some a, cap, by simp, fun hne => ?_⟩
      have h0 : 0 < len := by
        rcases Nat.eq_zero_or_pos len with h | h
        · subst h; simp at hne
        · exact h
      obtain ⟨b, off, rfl, hb⟩ := spot_none (hrow 0 (by omega)).1
      refine ⟨b, off, rfl, hb, by simpa using hl, hm, fun i u hi => ?_⟩
      have hi' : i < len := by
        by_cases h : i < len
        · exact h
        · rw [List.getElem?_eq_none (by simp; omega)] at hi; cases hi
      simp [hi'] at hi
      subst hi
      rw [← add_plain]
      exact (hrow i (by omega)).1
    · intro i u hi
      have hi' : i < len := by
        by_cases h : i < len
        · exact h
        · rw [List.getElem?_eq_none (by simp; omega)] at hi; cases hi
      simp [hi'] at hi
      subst hi
      obtain ⟨_, hLC, hC, hZ, _, hN, hA⟩ := hrow i (by omega)
      have e1 : ((List.range len).map fun r => (Z r).take (L r)).getD i [] = (Z i).take (L i) := by simp [List.getD, hi']
      have e2 : ((Z i).take (L i)).length = L i := by rw [List.length_take]; omega
      rw [e1]
      refine ⟨A i, C i, by rw [e2], fun hne => ?_⟩
      have h0 : 0 < L i := by
        rcases Nat.eq_zero_or_pos (L i) with h | h
        · rw [h] at hne; simp at hne
        · exact h
      cases hAi : A i with
      | none => have := hN hAi; omega
      | some a' =>
        obtain ⟨_, hc⟩ := hA a' hAi
        obtain ⟨b', off', rfl, hb⟩ := spot_none (hc 0 (by omega))
        refine ⟨b', off', rfl, hb, by rw [e2]; exact hLC, hC, fun c hcl => ?_⟩
        rw [e2] at hcl
        rw [← add_plain, hc c (by omega)]
        simp [List.getD, hcl]
    · intro xs hxs x hx
      obtain ⟨r, hr, rfl⟩ := List.mem_map.1 hxs
      exact (hrow r (by have := List.mem_range.1 hr; omega)).2.2.2.2.1 x (List.mem_of_mem_take hx)
end Go.Proofs.Ytbnenkmkkookdaa
