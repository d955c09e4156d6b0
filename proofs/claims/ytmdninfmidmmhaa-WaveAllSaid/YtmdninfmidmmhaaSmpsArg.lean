/- A law's argument that is a list of samples. -/
import Derived.Test.YtmdninfmidmmhaaSampArg
import Derived.Test.YtmdninfmidmmhaaWaveE
namespace Go.Proofs.Ytmdninfmidmmhaa
set_option linter.unusedVariables false
set_option maxRecDepth 100000
open Go.RowKit Go.ChangeShapes Go.WideShapes

def noSmp : Smp := ⟨⟨#[]⟩, 0, false, 0, 0, none, 0, 0, fun _ => none, fun _ => 0, fun _ => 0, fun _ _ => 0⟩
open Go.Deep in
theorem open_samples {H : Type} {enc : TypeId × Value → H} {W : World} {base : Nat} {v : Value} {d : DataW H} {p : List MemPlace}
    (hv : Value.okWide Try.prog W .any base 38 v) (h : DataW.Trod enc Try.prog W 0 (fun _ => true) true 38 v d p) (hlt : ∀ x ∈ p, x.block < W.heap.size) :
    ∃ q n cap L, v = .slice q n cap ∧ n ≤ cap ∧ cap ≤ maxLen ∧ SmsS W q n L := by
  obtain ⟨a0, len, cap, rfl⟩ := okWide_slice Try.underlying38 hv
  obtain ⟨fuel, hf⟩ := h
  rcases open_slice Try.underlying38 hf with ⟨hcs, _⟩ | ⟨a, len', cap', m, k, D, Pl, hcs, _, hl, hm, hmm, hx, hi⟩
  · simp [Value.cells] at hcs
    obtain ⟨rfl, rfl, rfl⟩ := hcs
    exact ⟨none, 0, 0, fun _ => noSmp, rfl, Nat.le_refl _, Nat.zero_le _, ⟨fun h => by omega, fun i hi => by omega⟩⟩
  · simp [Value.cells] at hcs
    obtain ⟨rfl, rfl, rfl⟩ := hcs
    simp only [if_true] at hmm
    subst hmm
    have sm : ∀ i, i < m → ∃ S : Smp, (∀ f v, S.cells[f]? = some v → W.cell? (a.add (i * 6 + f)) = some v) ∧ SmOk W S := by
      intro i him
      obtain ⟨cs, hc, hd⟩ := hi i him
      rw [cells_sample] at hc
      obtain ⟨_, hcl, hat⟩ := World.cells?_some hc
      obtain ⟨S, e, hS⟩ := sample_of_trod hcl hd
      refine ⟨S, fun f v hfv => ?_, hS⟩
      have hf6 : f < 6 := by
        rcases Nat.lt_or_ge f 6 with h | h
        · exact h
        · rw [Array.getElem?_eq_none (by show 6 ≤ f; exact h)] at hfv; cases hfv
      rw [← Go.Deep.add_add, hat f (by omega), e]
      simpa using hfv
    refine ⟨some a, len, m, fun i => if h : i < m then (sm i h).choose else noSmp, rfl, hl, hm, ⟨fun hn => ?_, fun i hin => ?_⟩⟩
    · obtain ⟨S0, h0, _⟩ := sm 0 (by omega)
      have hx0 : W.cell? (a.add 0) = some (.string S0.s) := h0 0 _ rfl
      obtain ⟨b, off, rfl, hb⟩ := spot_none hx0
      refine ⟨b, off, rfl, hb, fun i hin f v hfv => ?_⟩
      rw [dif_pos (by omega)] at hfv
      have := (sm i (by omega)).choose_spec.1 f v hfv
      rw [add_plain, ← Nat.add_assoc] at this
      exact this
    · rw [dif_pos (by omega)]
      exact (sm i (by omega)).choose_spec.2
end Go.Proofs.Ytmdninfmidmmhaa
