/- A law's argument that is a sample, or a list of samples. -/
import Derived.Test.YtmdninfmidmmhaaMetaArg
import Derived.Test.YtmdninfmidmmhaaWaveB
import Derived.Test.YtmdninfmidmmhaaRowsB
import Derived.Deep.Matrix
namespace Go.Proofs.Ytmdninfmidmmhaa
set_option linter.unusedVariables false
set_option maxRecDepth 100000
open Go.RowKit Go.ChangeShapes Go.WideShapes Go.Deep

theorem cells_sample : Try.prog.cellsOf 24 = 6 := by kernel_rfl
theorem list6 {α : Type} (l : List α) (h : l.length = 6) : l = [l[0], l[1], l[2], l[3], l[4], l[5]] := by
  match l, h with
  | [c0, c1, c2, c3, c4, c5], _ => rfl
theorem sample_of_trod {H : Type} {enc : TypeId × Value → H} {W : World} {fuel : Nat} {l : List Value} {x : DataW H × List MemPlace} (hl : l.length = 6)
    (hf : DataW.trod enc Try.prog W 0 (fun _ => true) true fuel 24 l = some x) :
    ∃ S : Smp, l = S.cells.toList ∧ SmOk W S := by
  obtain ⟨xs, m, _, hxe, _, hxl, hg⟩ := DataW.trod_struct Try.underlying24 hf
  have hg : ∀ (i : Nat) (f : Field), _ → DataW.trod enc Try.prog W 0 (fun _ => true) true m f.type ((l.drop f.offset).take (Try.prog.cellsOf f.type)) = xs[i]? := hg
  have hxl : xs.length = 6 := hxl
  have h0 := hg 0 _ rfl
  have h1 := hg 1 _ rfl
  have h2 := hg 2 _ rfl
  have h3 := hg 3 _ rfl
  have h4 := hg 4 _ rfl
  have h5 := hg 5 _ rfl
  rw [List.getElem?_eq_getElem (by omega)] at h0 h1 h2 h3 h4 h5
  obtain ⟨s, e0, _, w0⟩ := DataW.trod_string Try.underlying9 (field_of_trod (o := 0) (by omega) h0)
  obtain ⟨r, e1, _, w1⟩ := DataW.trod_int Try.underlying3 (field_of_trod (o := 1) (by omega) h1)
  obtain ⟨lp, e2, _⟩ := DataW.trod_bool Try.underlying4 (field_of_trod (o := 2) (by omega) h2)
  obtain ⟨a, e3, _, w3⟩ := DataW.trod_int Try.underlying3 (field_of_trod (o := 3) (by omega) h3)
  obtain ⟨b, e4, _, w4⟩ := DataW.trod_int Try.underlying3 (field_of_trod (o := 4) (by omega) h4)
  simp only [List.cons.injEq, and_true] at e0 e1 e2 e3 e4
  have hrows := open_int_rows Try.underlying22 Try.underlying31 Try.underlying3 (by kernel_rfl) (by kernel_rfl) (field_of_trod (o := 5) (by omega) h5)
  obtain ⟨p, n, c, Q, M, C, X, e5, hle, hcap, hR⟩ : ∃ p n c Q M C X, l[5] = .slice p n c ∧ n ≤ c ∧ c ≤ maxLen ∧ Rws W p n Q M C X := by
    rcases hrows with ⟨hcs, _⟩ | ⟨a, len, cap, A, L, C, Z, hcs, _, hl', hm, hx, hrow⟩
    · exact ⟨none, 0, 0, fun _ => none, fun _ => 0, fun _ => 0, fun _ _ => 0, by simpa using hcs, Nat.le_refl _, Nat.zero_le _, ⟨fun h => by omega, fun i hi => by omega⟩⟩
    · refine ⟨some a, len, cap, A, L, C, fun i j => (Z i).getD j 0, by simpa using hcs, hl', hm, ⟨fun h0 => ?_, fun i hi => ?_⟩⟩
      · obtain ⟨b, off, rfl, hb⟩ := spot_none (hrow 0 (by omega)).1
        refine ⟨b, off, rfl, hb, fun i hi => ?_⟩
        rw [← add_plain]
        exact (hrow i (by omega)).1
      · obtain ⟨_, hLC, hC, hZ, _, hN, hA⟩ := hrow i (by omega)
        refine ⟨hLC, hC, fun h0 => ?_⟩
        cases hAi : A i with
        | none => have := hN hAi; omega
        | some a' =>
          obtain ⟨_, hc⟩ := hA a' hAi
          obtain ⟨b', off', rfl, hb⟩ := spot_none (hc 0 (by omega))
          refine ⟨b', off', rfl, hb, fun j hj => ?_⟩
          rw [← add_plain]
          exact hc j (by omega)
  refine ⟨⟨s, r, lp, a, b, p, n, c, Q, M, C, X⟩, ?_, ⟨by unfold maxLen at w0; show s.size ≤ _; omega, hle, hcap, hR⟩⟩
  rw [list6 l hl, e0, e1, e2, e3, e4, e5]
  rfl
theorem open_sample {H : Type} {enc : TypeId × Value → H} {W : World} {base : Nat} {v : Value} {d : DataW H} {p : List MemPlace}
    (hv : Value.okWide Try.prog W .any base 24 v) (h : DataW.Trod enc Try.prog W 0 (fun _ => true) true 24 v d p) (hlt : ∀ x ∈ p, x.block < W.heap.size) :
    ∃ S : Smp, v = S.val ∧ SmOk W S := by
  obtain ⟨cs, rfl, hsz⟩ : ∃ cs, v = .agg cs ∧ cs.size = 6 := by
    simp only [Value.okWide, Try.underlying24] at hv
    obtain ⟨cs, h1, h2, _⟩ := hv
    exact ⟨cs, h1, h2.trans cells_sample⟩
  obtain ⟨fuel, hf⟩ := h
  obtain ⟨l⟩ := cs
  obtain ⟨S, e, hS⟩ := sample_of_trod (l := l) (by simpa using hsz) hf
  refine ⟨S, ?_, hS⟩
  unfold Smp.val
  congr 1
  have e : l = S.cells.toList := e
  rw [e]
end Go.Proofs.Ytmdninfmidmmhaa
