/- A law's argument that is a Meta. -/
import Derived.Test.YtoicpkkcamejcaaWaveA
import Derived.Deep.Fields
import Derived.ChangeArms
namespace Go.Proofs.Ytoicpkkcamejcaa
set_option linter.unusedVariables false
set_option maxRecDepth 100000
open Go.RowKit Go.ChangeShapes Go.WideShapes Go.Deep

theorem cells_meta : Try.prog.cellsOf 28 = 9 := by kernel_rfl
/-- One field of a struct by value. -/
theorem field_of_trod {H : Type} {enc : TypeId × Value → H} {P : Program} {W : World} {fuel : Nat} {cs : List Value} {o : Nat} {t : TypeId} {x : DataW H × List MemPlace} (ho : o < cs.length) (h : DataW.trod enc P W 0 (fun _ => true) true fuel t ((cs.drop o).take 1) = some x) :
    DataW.trod enc P W 0 (fun _ => true) true fuel t [cs[o]] = some x := by
  have e : (cs.drop o).take 1 = [cs[o]] := by rw [List.drop_eq_getElem_cons ho]; rfl
  rw [e] at h
  exact h
theorem open_meta {H : Type} {enc : TypeId × Value → H} {W : World} {base : Nat} {v : Value} {d : DataW H} {p : List MemPlace}
    (hv : Value.okWide Try.prog W .any base 28 v) (h : DataW.Trod enc Try.prog W 0 (fun _ => true) true 28 v d p) :
    ∃ s n r c lp a b x y, v = metaV s n r c lp a b x y ∧ s.size ≤ 9223372036854775807 ∧ (∀ z ∈ [n, r, c, a, b, x, y], -9223372036854775808 ≤ z ∧ z ≤ 9223372036854775807) := by
  obtain ⟨cs, rfl, hsz⟩ : ∃ cs, v = .agg cs ∧ cs.size = 9 := by
    simp only [Value.okWide, Try.underlying28] at hv
    obtain ⟨cs, h1, h2, _⟩ := hv
    exact ⟨cs, h1, h2.trans cells_meta⟩
  obtain ⟨fuel, hf⟩ := h
  obtain ⟨xs, m, _, hxe, _, hxl, hg⟩ := DataW.trod_struct Try.underlying28 hf
  obtain ⟨l⟩ := cs
  have hl : l.length = 9 := by simpa using hsz
  have hg : ∀ (i : Nat) (f : Field), _ → DataW.trod enc Try.prog W 0 (fun _ => true) true m f.type ((l.drop f.offset).take (Try.prog.cellsOf f.type)) = xs[i]? := hg
  have hxl : xs.length = 9 := hxl
  have h0 := hg 0 _ rfl
  have h1 := hg 1 _ rfl
  have h2 := hg 2 _ rfl
  have h3 := hg 3 _ rfl
  have h4 := hg 4 _ rfl
  have h5 := hg 5 _ rfl
  have h6 := hg 6 _ rfl
  have h7 := hg 7 _ rfl
  have h8 := hg 8 _ rfl
  rw [List.getElem?_eq_getElem (by omega)] at h0 h1 h2 h3 h4 h5 h6 h7 h8
  obtain ⟨s, e0, _, w0⟩ := DataW.trod_string Try.underlying9 (field_of_trod (o := 0) (by omega) h0)
  obtain ⟨n, e1, _, w1⟩ := DataW.trod_int Try.underlying3 (field_of_trod (o := 1) (by omega) h1)
  obtain ⟨r, e2, _, w2⟩ := DataW.trod_int Try.underlying3 (field_of_trod (o := 2) (by omega) h2)
  obtain ⟨c, e3, _, w3⟩ := DataW.trod_int Try.underlying3 (field_of_trod (o := 3) (by omega) h3)
  obtain ⟨lp, e4, _⟩ := DataW.trod_bool Try.underlying4 (field_of_trod (o := 4) (by omega) h4)
  obtain ⟨a, e5, _, w5⟩ := DataW.trod_int Try.underlying3 (field_of_trod (o := 5) (by omega) h5)
  obtain ⟨b, e6, _, w6⟩ := DataW.trod_int Try.underlying3 (field_of_trod (o := 6) (by omega) h6)
  obtain ⟨x, e7, _, w7⟩ := DataW.trod_int Try.underlying3 (field_of_trod (o := 7) (by omega) h7)
  obtain ⟨y, e8, _, w8⟩ := DataW.trod_int Try.underlying3 (field_of_trod (o := 8) (by omega) h8)
  simp only [List.cons.injEq, and_true] at e0 e1 e2 e3 e4 e5 e6 e7 e8
  refine ⟨s, n, r, c, lp, a, b, x, y, ?_, by unfold maxLen at w0; omega, ?_⟩
  · unfold metaV
    congr 2
    match l, hl with
    | [c0, c1, c2, c3, c4, c5, c6, c7, c8], _ =>
      simp at e0 e1 e2 e3 e4 e5 e6 e7 e8
      rw [e0, e1, e2, e3, e4, e5, e6, e7, e8]
  · intro z hz
    simp only [List.mem_cons, List.not_mem_nil, or_false] at hz
    rcases hz with rfl | rfl | rfl | rfl | rfl | rfl | rfl
    · exact i64_of w1
    · exact i64_of w2
    · exact i64_of w3
    · exact i64_of w5
    · exact i64_of w6
    · exact i64_of w7
    · exact i64_of w8
end Go.Proofs.Ytoicpkkcamejcaa
