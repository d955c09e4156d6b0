/- A law's arguments: a shape, a list of bools (stage 22). (by wip/tools/exp.py of XEnvS.src) -/
import Derived.Test.YtgdlinfgcfjciaaEnvR
import Derived.Deep.Fields
import Derived.ChangeArms
namespace Go.Proofs.Ytgdlinfgcfjciaa
set_option linter.unusedVariables false
set_option maxRecDepth 100000
open Go.RowKit Go.ChangeShapes Go.WideShapes Go.Deep

theorem cells_shape : Try.prog.cellsOf 23 = 4 := by kernel_rfl
theorem fieldE_of_trod {H : Type} {enc : TypeId × Value → H} {P : Program} {W : World} {fuel : Nat} {cs : List Value} {o : Nat} {t : TypeId} {x : DataW H × List MemPlace} (ho : o < cs.length) (h : DataW.trod enc P W 0 (fun _ => true) true fuel t ((cs.drop o).take 1) = some x) :
    DataW.trod enc P W 0 (fun _ => true) true fuel t [cs[o]] = some x := by
  have e : (cs.drop o).take 1 = [cs[o]] := by rw [List.drop_eq_getElem_cons ho]; rfl
  rw [e] at h
  exact h
theorem open_shape {H : Type} {enc : TypeId × Value → H} {W : World} {base : Nat} {v : Value} {d : DataW H} {p : List MemPlace}
    (hv : Value.okWide Try.prog W .any base 23 v) (h : DataW.Trod enc Try.prog W 0 (fun _ => true) true 23 v d p) :
    ∃ a d s r, v = shV a d s r := by
  obtain ⟨cs, rfl, hsz⟩ : ∃ cs, v = .agg cs ∧ cs.size = 4 := by
    simp only [Value.okWide, Try.underlying23] at hv
    obtain ⟨cs, h1, h2, _⟩ := hv
    exact ⟨cs, h1, h2.trans cells_shape⟩
  obtain ⟨fuel, hf⟩ := h
  obtain ⟨xs, m, _, hxe, _, hxl, hg⟩ := DataW.trod_struct Try.underlying23 hf
  obtain ⟨l⟩ := cs
  have hl : l.length = 4 := by simpa using hsz
  have hg : ∀ (i : Nat) (f : Field), _ → DataW.trod enc Try.prog W 0 (fun _ => true) true m f.type ((l.drop f.offset).take (Try.prog.cellsOf f.type)) = xs[i]? := hg
  have hxl : xs.length = 4 := hxl
  have h0 := hg 0 _ rfl
  have h1 := hg 1 _ rfl
  have h2 := hg 2 _ rfl
  have h3 := hg 3 _ rfl
  rw [List.getElem?_eq_getElem (by omega)] at h0 h1 h2 h3
  obtain ⟨a, e0, _, w0⟩ := DataW.trod_int Try.underlying3 (fieldE_of_trod (o := 0) (by omega) h0)
  obtain ⟨b, e1, _, w1⟩ := DataW.trod_int Try.underlying3 (fieldE_of_trod (o := 1) (by omega) h1)
  obtain ⟨c, e2, _, w2⟩ := DataW.trod_int Try.underlying3 (fieldE_of_trod (o := 2) (by omega) h2)
  obtain ⟨e, e3, _, w3⟩ := DataW.trod_int Try.underlying3 (fieldE_of_trod (o := 3) (by omega) h3)
  simp only [List.cons.injEq, and_true] at e0 e1 e2 e3
  refine ⟨a, b, c, e, ?_⟩
  unfold shV
  congr 2
  match l, hl with
  | [c0, c1, c2, c3], _ =>
    simp at e0 e1 e2 e3
    rw [e0, e1, e2, e3]
def SlB (w : World) (p : Option Addr) (n : Nat) (B : Nat → Bool) : Prop := 0 < n → ∃ g o, p = some ⟨g, o, none⟩ ∧ g < w.heap.size ∧ ∀ i, i < n → w.cell? ⟨g, o + i, none⟩ = some (.bool (B i))
theorem SlB.old {w w' : World} {p : Option Addr} {n : Nat} {B : Nat → Bool} (h : SlB w p n B) (k : Old w w') : SlB w' p n B := fun hn => by
  obtain ⟨g, o, h1, h2, h3⟩ := h hn
  exact ⟨g, o, h1, Nat.lt_of_lt_of_le h2 k.size, fun i hi => (k.cell (a := ⟨g, o + i, none⟩) h2).trans (h3 i hi)⟩
open Go.Deep in
theorem open_bools {H : Type} {enc : TypeId × Value → H} {W : World} {base : Nat} {v : Value} {d : DataW H} {p : List MemPlace}
    (hv : Value.okWide Try.prog W .any base 24 v) (h : DataW.Trod enc Try.prog W 0 (fun _ => true) true 24 v d p) (hlt : ∀ x ∈ p, x.block < W.heap.size) :
    ∃ q n cap B, v = .slice q n cap ∧ n ≤ cap ∧ cap ≤ maxLen ∧ SlB W q n B := by
  obtain ⟨a0, len, cap, rfl⟩ := okWide_slice Try.underlying24 hv
  obtain ⟨fuel, hf⟩ := h
  have c1 : Try.prog.cellsOf 4 = 1 := by kernel_rfl
  rcases open_slice Try.underlying24 hf with ⟨hcs, _⟩ | ⟨a, len', cap', m, k, D, Pl, hcs, _, hl, hm, hmm, hx, hi⟩
  · simp [Value.cells] at hcs
    obtain ⟨rfl, rfl, rfl⟩ := hcs
    exact ⟨none, 0, 0, fun _ => false, rfl, Nat.le_refl _, Nat.zero_le _, fun h => absurd h (by omega)⟩
  · simp [Value.cells] at hcs
    obtain ⟨rfl, rfl, rfl⟩ := hcs
    simp only [if_true] at hmm
    subst hmm
    have one : ∀ i, i < m → ∃ b : Bool, W.cell? (a.add i) = some (.bool b) := by
      intro i him
      obtain ⟨cs, hc, hd⟩ := hi i him
      rw [c1, Nat.mul_one] at hc
      obtain ⟨b, rfl, _⟩ := DataW.trod_bool Try.underlying4 hd
      obtain ⟨_, _, hat⟩ := World.cells?_some hc
      have := hat 0 (by simp)
      rw [Go.Deep.add_add, Nat.add_zero] at this
      exact ⟨b, by rw [this]; rfl⟩
    refine ⟨some a, len, m, fun i => if h : i < m then (one i h).choose else false, rfl, hl, hm, fun hn => ?_⟩
    obtain ⟨b0, h0⟩ := one 0 (by omega)
    obtain ⟨b, off, rfl, hb⟩ := spot_none h0
    refine ⟨b, off, rfl, hb, fun i hin => ?_⟩
    dsimp only
    rw [dif_pos (show i < m by omega), ← add_plain]
    exact (one i (by omega)).choose_spec
end Go.Proofs.Ytgdlinfgcfjciaa

