/- Spectra of at most 24 bits, told: which frames may be, that they have room, and that exact ones tell them as they are. No program. -/
import Derived.Test.YtcepfbflgngmjaaFitP
import Derived.Test.YtcepfbflgngmjaaSpecL
import Derived.Test.YtcepfbflgngmjaaFrBytesL
import Derived.Test.YtcepfbflgngmjaaNearL
namespace Go.Proofs.Ytcepfbflgngmjaa
set_option linter.unusedVariables false
set_option maxRecDepth 100000
open Go.RowKit

/-- All numbers of a spectrum need at most 24 bits, their signs apart. -/
def smallP (f : Nat → Int) : Prop := ∀ k, k < 16 → -8388607 ≤ f k ∧ f k ≤ 8388607
instance (f : Nat → Int) : Decidable (smallP f) := by unfold smallP; infer_instance
theorem pw23 : pw 23 = 8388608 := rfl
theorem width24 (a : Int) (h0 : 0 ≤ a) (h1 : a ≤ 9223372036854775807) : widthI a ≤ 24 ↔ a ≤ 8388607 := by
  rw [widthI_le a 24 (by omega) h1 (by omega) (by omega), fitB_mid _ _ (by omega) (by omega), decide_eq_true_eq, show ((24 : Int) - 1).toNat = 23 from rfl, pw23]
  omega
theorem absI_small (v : Int) (h0 : -9223372036854775808 ≤ v) (h1 : v ≤ 9223372036854775807) : absI v ≤ 8388607 ↔ -8388607 ≤ v ∧ v ≤ 8388607 := by
  unfold absI
  split
  · omega
  · split <;> omega
theorem small_width (f : Nat → Int) (hf : Fits64 f) : widthI (peakL (part f 0 16)) ≤ 24 ↔ smallP f := by
  have hp := peakL_in _ (part_in hf 0 16)
  rw [width24 _ hp.1 hp.2, peakL_le]
  constructor
  · rintro ⟨_, h⟩ k hk
    have := h (f k) (mem_part.2 ⟨k, hk, by rw [Nat.zero_add]⟩)
    exact (absI_small _ (hf k).1 (hf k).2).1 this
  · intro h
    refine ⟨by omega, fun x hx => ?_⟩
    obtain ⟨j, hj, rfl⟩ := mem_part.1 hx
    rw [Nat.zero_add]
    exact (absI_small _ (hf j).1 (hf j).2).2 (h j hj)
theorem small_near {f : Nat → Int} (h : smallP f) : nearP f := fun k hk => by have := h k hk; omega
/-- What is left of a spectrum without its first k tones. -/
theorem take_mem_succ (l : List Nat) (k i : Nat) (h : k < l.length) : i ∈ l.take (k + 1) ↔ i ∈ l.take k ∨ i = l.getD k 0 := by
  rw [List.take_add_one, List.getElem?_eq_getElem h, List.mem_append, List.getD_eq_getElem?_getD, List.getElem?_eq_getElem h]
  simp
theorem tone_place (f : Nat → Int) (k : Nat) (hkl : k < (findL f).length) : (findL f).getD k 0 < 16 := by
  rw [List.getD_eq_getElem?_getD, List.getElem?_eq_getElem hkl]
  exact (mem_findL.1 (List.getElem_mem hkl)).1.1
theorem gone (f : Nat → Int) (hn : nearP f) : ∀ k, k ≤ (findL f).length → ∀ j, j < 16 → addTo (-1) f (toneF f) k j = if j ∈ (findL f).take k then 0 else f j
  | 0, _, j, _ => by simp [addTo]
  | k + 1, hk, j, hj => by
    have ih := gone f hn k (by omega)
    have hkl : k < (findL f).length := by omega
    have hp16 := tone_place f k hkl
    have hnot : (findL f).getD k 0 ∉ (findL f).take k := by
      intro hm
      obtain ⟨q, hq, e⟩ := List.getElem_of_mem hm
      rw [List.length_take] at hq
      rw [List.getElem_take, List.getD_eq_getElem?_getD, List.getElem?_eq_getElem hkl] at e
      have := List.pairwise_iff_getElem.1 (findL_rising f) q k (by omega) hkl (by omega)
      simp only [Option.getD_some] at e
      omega
    show addOne (-1) (addTo (-1) f (toneF f) k) (toneF f (2 * k)) (toneF f (2 * k + 1)) j = _
    rw [toneF_even, toneF_odd, addOne_yes _ _ _ _ hp16]
    dsimp only
    by_cases e : j = (findL f).getD k 0
    · rw [if_pos e, if_pos ((take_mem_succ _ _ _ hkl).2 (.inr e)), ih _ hp16, if_neg hnot]
      have := hn _ hp16
      rw [show (-1 : Int) * f ((findL f).getD k 0) = - f ((findL f).getD k 0) by omega, IntWalk.wrap64_in (- f ((findL f).getD k 0)) (by omega), IntWalk.wrap64_in _ (by omega)]
      omega
    · rw [if_neg e, ih j hj]
      by_cases h : j ∈ (findL f).take k
      · rw [if_pos h, if_pos ((take_mem_succ _ _ _ hkl).2 (.inl h))]
      · rw [if_neg h, if_neg (fun h' => by rcases (take_mem_succ _ _ _ hkl).1 h' with h' | h'; exact h h'; exact e h')]
theorem rest_small {f : Nat → Int} (h : smallP f) (tones : Bool) : smallP (restF2 f tones) := fun k hk => by
  have hle : tnN f tones ≤ (findL f).length := by unfold tnN; split <;> omega
  unfold restF2
  rw [gone f (small_near h) _ hle k hk]
  split
  · omega
  · exact h k hk
theorem tone_fits {f : Nat → Int} (hf : Fits64 f) : Fits64 (toneF f) := fun j => by
  unfold toneF
  split
  · have : (findL f).getD (j / 2) 0 < 16 := by
      by_cases h : j / 2 < (findL f).length
      · exact tone_place f _ h
      · simp [Nat.not_lt.1 h]
    omega
  · exact hf _
/-- Steps are no greater than what they tell. -/
theorem near_small (v : Int) (n : Nat) (h1 : -8388607 ≤ v) (h2 : v ≤ 8388607) : -8388607 ≤ nearI v (pw n) ∧ nearI v (pw n) ≤ 8388607 := by
  have hp := pw_pos n
  by_cases hn0 : n = 0
  · subst hn0
    have e : pw 0 = 1 := rfl
    unfold nearI
    rw [e]
    split <;> omega
  · have h2' : 2 ≤ pw n := by have := pw_mono 1 n (by omega); rw [show pw 1 = 2 from rfl] at this; exact this
    generalize pw n = p at *
    have a1 : v / p ≤ 4194303 := by
      have : v / p < 4194304 := Int.ediv_lt_of_lt_mul (by omega) (by omega)
      omega
    have a2 : -8388607 ≤ v / p := Int.le_ediv_of_mul_le (by omega) (by omega)
    unfold nearI
    split <;> omega
/-- At the greatest scale all that is left is -1, 0 or 1. -/
theorem near_last (v : Int) (h1 : -8388607 ≤ v) (h2 : v ≤ 8388607) : -1 ≤ nearI v 8388608 ∧ nearI v 8388608 ≤ 1 := by
  unfold nearI
  split <;> omega
theorem wide_small {X s : Nat → Int} (hX : smallP X) (k : Nat) : 0 ≤ wideF (toldR stepI X s) k ∧ wideF (toldR stepI X s) k ≤ 24 := by
  refine ⟨(wideF_bd _ k).1, wideTo_le _ 24 (by omega) 16 k fun j hj _ => ?_⟩
  have hq : -8388607 ≤ toldR stepI X s j ∧ toldR stepI X s j ≤ 8388607 := by
    unfold toldR
    split
    · exact near_small _ _ (hX j hj).1 (hX j hj).2
    · show -8388607 ≤ (0 : Int) ∧ (0 : Int) ≤ 8388607
      omega
  rw [widthI_le _ 24 (by omega) (by omega) (by omega) (by omega), fitB_mid _ _ (by omega) (by omega), decide_eq_true_eq, show ((24 : Int) - 1).toNat = 23 from rfl, pw23]
  omega
theorem step_small {X s : Nat → Int} (hX : smallP X) (j : Nat) (hj : j < 16) : -8388607 ≤ toldR stepI X s j ∧ toldR stepI X s j ≤ 8388607 := by
  unfold toldR
  split
  · exact near_small _ _ (hX j hj).1 (hX j hj).2
  · show -8388607 ≤ (0 : Int) ∧ (0 : Int) ≤ 8388607
    omega
/-- Such a frame may be. -/
theorem tol_may {g s X : Nat → Int} {n : Nat} {T : Nat → Int} (hg : rightP g) (hs : ∀ k, k < 4 → 0 ≤ s k ∧ s k ≤ 23) (hX : smallP X) (hn : n ≤ 2)
    (ht : ∀ k, k < n → 0 ≤ T (2 * k) ∧ T (2 * k) ≤ 15 ∧ fitB (T (2 * k + 1)) 24 = true ∧ (0 < k → T (2 * (k - 1)) < T (2 * k))) : FrP (tolN g s X) n T where
  hg k hk := by unfold tolN; rw [frN_g _ _ _ _ _ hk]; exact hg k hk
  hs k hk := by unfold tolN; rw [frN_s _ _ _ _ _ hk]; exact hs k hk
  hw k hk := by unfold tolN; rw [frN_u _ _ _ _ _ hk]; exact wide_small hX k
  hq k hk := by
    unfold tolN
    rw [frN_q, frN_u _ _ _ _ _ (by omega)]
    have h1 := step_small (s := s) hX k hk
    have h2 := wide_small (s := s) hX (k / 4)
    exact widthI_fit _ _ (by omega) (by omega) (by omega) (wideTo_ge _ 16 k hk)
  hn := hn
  ht := ht
theorem tones_may {f : Nat → Int} (hf : smallP f) (n : Nat) (hn : n ≤ (findL f).length) : ∀ k, k < n → 0 ≤ toneF f (2 * k) ∧ toneF f (2 * k) ≤ 15 ∧ fitB (toneF f (2 * k + 1)) 24 = true ∧ (0 < k → toneF f (2 * (k - 1)) < toneF f (2 * k)) := fun k hk => by
  have hkl : k < (findL f).length := by omega
  have hp := tone_place f k hkl
  rw [toneF_even, toneF_odd, toneF_even]
  refine ⟨by omega, by omega, ?_, fun h0 => ?_⟩
  · have := hf _ hp
    rw [fitB_mid _ _ (by omega) (by omega), decide_eq_true_eq, show ((24 : Int) - 1).toNat = 23 from rfl, pw23]
    omega
  · have := List.pairwise_iff_getElem.1 (findL_rising f) (k - 1) k (by omega) hkl (by omega)
    rw [List.getD_eq_getElem?_getD, List.getElem?_eq_getElem (by omega), List.getD_eq_getElem?_getD, List.getElem?_eq_getElem hkl]
    simp only [Option.getD_some]
    omega
/-- Where the search ends there is room. -/
theorem stop_room {X : Nat → Int} {t n : Nat} {room : Int} (h : StopAt X t room n) (hX : smallP X) (ht : t ≤ 2) (hr : 192 ≤ room) : costN X t n ≤ room := by
  rcases h.st with h1 | h1
  · obtain ⟨hs, _⟩ := scl_inv X t room n h.no
    have hw : ∀ k, k < 4 → wideF (toldR stepI X (sclN X n)) k ≤ 2 := fun k hk => by
      have hno := bestTo_none _ _ _ 4 h1 k hk
      have hsk := hs k hk
      by_cases hu : 0 < wideF (toldR stepI X (sclN X n)) k
      · have h23 : sclN X n k = 23 := by
          by_cases h : sclN X n k < 23
          · exact absurd ⟨hu, h⟩ hno
          · omega
        refine wideTo_le _ 2 (by omega) 16 k fun j hj e => ?_
        have hsc : scalesP (sclN X n) := fun k hk => hs k hk
        have hq : toldR stepI X (sclN X n) j = nearI (X j) 8388608 := by
          unfold toldR
          rw [if_pos hsc]
          unfold toldF stepI
          rw [e, h23]
          rfl
        rw [hq]
        have := near_last (X j) (hX j hj).1 (hX j hj).2
        rw [widthI_le _ 2 (by omega) (by omega) (by omega) (by omega), fitB_mid _ _ (by omega) (by omega), decide_eq_true_eq, show ((2 : Int) - 1).toNat = 1 from rfl, show pw 1 = 2 from rfl]
        omega
      · omega
    have a := hw 0 (by omega); have b := hw 1 (by omega); have c := hw 2 (by omega); have d := hw 3 (by omega)
    unfold costN
    rw [sum_four]
    omega
  · exact h1
/-- Exact: steps are the numbers themselves. -/
def zeroS : Nat → Int := fun _ => 0
theorem zeroS_ok : scalesP zeroS := fun k _ => by unfold zeroS; omega
theorem step_exact (f : Nat → Int) : toldR stepI f zeroS = f := by
  funext k
  unfold toldR
  rw [if_pos zeroS_ok]
  show nearI (f k) 1 = f k
  unfold nearI
  split <;> omega
theorem val_exact {f : Nat → Int} (hf : Fits64 f) : toldR valI f zeroS = f := by
  funext k
  unfold toldR
  rw [if_pos zeroS_ok]
  show wrap64 (f k * 1) = f k
  rw [Int.mul_one]
  exact IntWalk.wrap64_in _ ⟨(hf k).1, (hf k).2⟩
theorem spec_exact {f g : Nat → Int} (hf : smallP f) (T : Nat → Int) (k : Nat) (hk : k < 16) : specF (tolN g zeroS f) 0 T k = f k := by
  have hs : stS (tolN g zeroS f) = fun k => tolN g zeroS f (5 + k) := rfl
  have hq : ∀ k, k < 16 → stQ (tolN g zeroS f) k = f k := fun k hk => by
    unfold stQ
    rw [if_pos hk]
    unfold tolN
    rw [frN_q, step_exact]
  have hsc : scalesP (stS (tolN g zeroS f)) := fun k hk => by
    unfold stS tolN
    rw [frN_s _ _ _ _ _ hk]
    unfold zeroS
    omega
  unfold specF clampTo
  rw [if_pos hk]
  show clampI (specV (tolN g zeroS f) k) _ _ = _
  have hv : specV (tolN g zeroS f) k = f k := by
    unfold specV toldR
    rw [if_pos hsc]
    unfold toldF
    rw [hq k hk]
    have e : stS (tolN g zeroS f) (k / 4) = 0 := by
      unfold stS tolN
      rw [frN_s _ _ _ _ _ (by omega)]
      rfl
    rw [e]
    show wrap64 (f k * 1) = f k
    rw [Int.mul_one]
    have := hf k hk
    exact IntWalk.wrap64_in _ (by omega)
  rw [hv]
  have := hf k hk
  exact clampI_in _ _ _ (by omega) (by omega)
theorem exact_may {f g : Nat → Int} (hg : rightP g) (hf : smallP f) (T : Nat → Int) : FrP (tolN g zeroS f) 0 T := tol_may hg (fun k _ => by unfold zeroS; omega) hf (by omega) (fun k hk => by omega)
theorem err_none (L : List Bool) (size : Int) (h : (L.length : Int) ≤ 8 * size) (h2 : size ≤ 2147483647) : bytesErr L 0 size = 0 := by
  unfold bytesErr nb
  rw [if_neg (by simp), if_neg (by omega), if_neg (by omega)]
theorem gain_zero : rightP zeroS := fun k _ => by unfold zeroS; omega
/-- Gains alone. -/
theorem gains_may (g : Nat → Int) (T : Nat → Int) : FrP (frN g zeroS zeroS zeroS) 0 T ↔ rightP g := by
  constructor
  · intro h k hk
    have := h.hg k hk
    rwa [frN_g _ _ _ _ _ hk] at this
  · intro h
    refine ⟨fun k hk => by rw [frN_g _ _ _ _ _ hk]; exact h k hk, fun k hk => ?_, fun k hk => ?_, fun k hk => ?_, by omega, fun k hk => by omega⟩
    · rw [frN_s _ _ _ _ _ hk]; unfold zeroS; omega
    · rw [frN_u _ _ _ _ _ hk]; unfold zeroS; omega
    · rw [frN_q]; rw [frN_u _ _ _ _ _ (by omega)]; rfl
end Go.Proofs.Ytcepfbflgngmjaa
