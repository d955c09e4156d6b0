/- Contract of lap.meet, with either way (by wip/tools/lape.py). -/
import Derived.Test.YtpdjdejlhjcicaaLapB
import Derived.Test.YtpdjdejlhjcicaaLapD
import Derived.Test.YtpdjdejlhjcicaaMeet
namespace Go.Proofs.Ytpdjdejlhjcicaa
set_option linter.unusedVariables false
open Go.RowKit

theorem part_rev (f : Nat → Int) (a j : Nat) (h : j < 8) : (part f a 8).reverse.getD j 0 = f (a + (7 - j)) := by
  rw [List.getD_eq_getElem?_getD, List.getElem?_reverse (by rw [part_len]; exact h), part_len, ← List.getD_eq_getElem?_getD, show 8 - 1 - j = 7 - j by omega]
  exact part_getD f a 8 (7 - j) (by omega)
/-- The edges below k are turned; the blocks X are as they were. -/
def MeetR (wa wb : Way) (X : Nat → Prop) (w : World) (pt : Option Addr) (n : Nat) (F : Nat → Int) (k : Nat) (wr : World) : Prop :=
  OwnR 16 X wr pt n (meetTo wa wb k F) ∧ Kept X w wr

set_option maxRecDepth 100000 in
set_option maxHeartbeats 4000000 in
theorem meetTurn_any (X : Nat → Prop) (pt : Option Addr) (n cap : Nat) (F : Nat → Int) (w : World) (h : OwnR 16 X w pt n F) (hX : ∀ q, X q → q < w.heap.size) (hn : n ≤ 17179869184) :
    Calls Try.prog 34 #[.slice pt n cap, .func (.func 35) #[.agg T8] #[]] w fun e w' => e = .returned (.tuple #[]) ∧ OwnR 16 X w' pt n (meetTo turnWA turnWB n F) ∧ Kept X w w' := by
  have H0 : Hid (MeetR turnWA turnWB X w pt n F 1 w) := ⟨by rw [meetTo_one]; exact h, Kept.refl _ _⟩
  have HE0 : Hid (n ≤ 1 → meetTo turnWA turnWB n F = F) := fun hn => by
    rcases (by omega : n = 0 ∨ n = 1) with rfl | rfl
    · funext q
      obtain ⟨b, r, rfl, hr, _, _⟩ := split16 q
      by_cases h8 : 8 ≤ r
      · rw [meetTo_hi _ _ _ _ _ _ hr h8, if_neg (by omega)]
      · rw [meetTo_lo _ _ _ _ _ _ (by omega), if_neg (by omega)]
    · exact meetTo_one _ _ _
  have HX := Lib.hid hX
  have hR : (Value.agg T8) = .agg T8 := rfl
  clear h hR hX
  generalize hT : T8 = R
  have HR := Lib.hid hT
  clear hT
  go_enter Try.func34, Try.ntmps34
  go_wp2_with fail
  go_loopw [4] (fun i wr => ∃ k : Nat, 1 ≤ k ∧ (k ≤ n ∨ k = 1) ∧ i = .int .i64 k ∧ Hid (MeetR turnWA turnWB X w pt n F k wr)) (fun i _ => n - (intOf i).toNat)
  case atStart => exact ⟨1, by omega, by omega, rfl, H0⟩
  case round =>
    obtain ⟨k, hk1, hk, rfl, HS⟩ := hrel
    clear H0
    by_cases hlt : k < n
    · obtain ⟨j, rfl⟩ : ∃ j, k = j + 1 := ⟨k - 1, by omega⟩
      obtain ⟨g, rfl, xg, hc⟩ := HS.out.1 (by omega)
      obtain ⟨M, hM⟩ : ∃ M, M = meetTo turnWA turnWB (j + 1) F := ⟨_, rfl⟩
      rw [← hM] at hc
      have hstep := meetTo_step turnWA turnWB F j
      rw [← hM] at hstep
      have HStep := Lib.hid hstep
      have HC := Lib.hid hc
      have HK := Lib.hid HS.out.2
      have hgl := hc.lt
      have e1 : (((j + 1 : Nat) : Int)) = (j : Int) + 1 := by omega
      have q1 : wrap64 ((j : Int) + 1 - 1) = j := by rw [show (j : Int) + 1 - 1 = j by omega]; exact IntWalk.wrap64_in _ (by omega)
      have hS1 := fun o w => slice_arr_lo (P := Try.prog) (t := 28) 16 8 Try.block_under Try.block_len Try.block_elem (by omega) g o w
      have hS2 := fun o w => slice_arr_hi (P := Try.prog) (t := 28) 16 8 Try.block_under Try.block_len Try.block_elem (by omega) (by omega) g o w
      rw [show ((8 : Nat) : Int) = 8 from rfl] at hS1 hS2
      have HF1 := Lib.hid (Flip_any (some ⟨g, j * 16 + 8, none⟩) 8 8 (part M (j * 16 + 8) 8) wr (hc.sl (j * 16 + 8) 8 8 (by omega) (by omega) (by unfold maxLen; omega)) (by omega))
      clear hstep hc HS hM
      go_wp2_with fail
      refine HF1.out.mono ?_
      rintro e w1 ⟨v1, rfl, hv1, ho1⟩
      obtain ⟨ga, ca, rfl, xga, hca1, hca2, hA⟩ := hv1.cells (by rw [List.length_reverse, part_len]; omega)
      rw [List.length_reverse, part_len] at hA hca1 ⊢
      have xga' : ¬ X ga := fun e => xga (Nat.lt_of_lt_of_le (HX.out _ e) HK.out.size)
      have hne : ga ≠ g := fun e => xga (by rw [e]; exact hgl)
      have HP := Lib.hid (PTurn_any X ga g (16 * n) ((j + 1) * 16) ca 16 (fun i => (part M (j * 16 + 8) 8).reverse.getD i 0) M w1 hA (HC.out.old ho1) (by omega) hne xga' xg (fun q hq => Nat.lt_of_lt_of_le (HX.out q hq) (Nat.le_trans HK.out.size ho1.size)))
      rw [HR.out] at HP
      have HK1 : Hid (Kept X w w1) := HK.out.trans (ho1.kept fun q hq => Nat.lt_of_lt_of_le (HX.out q hq) HK.out.size)
      clear HF1 hv1 ho1 hA HK HC
      go_wp2_with fail
      refine HP.out.mono ?_
      rintro e w2 ⟨rfl, hA2, hC2, hK2⟩
      have hfA : metA turnWA (fun i => (part M (j * 16 + 8) 8).reverse.getD i 0) (fun k => M ((j + 1) * 16 + k)) = fun i => turnWA ((part M (j * 16 + 8) 8).reverse.getD i 0) (M ((j + 1) * 16 + i)) (turnP i) (turnU i) := rfl
      obtain ⟨fA, hfA⟩ : ∃ f, f = metA turnWA (fun i => (part M (j * 16 + 8) 8).reverse.getD i 0) (fun k => M ((j + 1) * 16 + k)) := ⟨_, rfl⟩
      rw [← hfA] at hA2
      have HFA : Hid (∀ i, i < 8 → fA i = turnWA (M (j * 16 + 8 + (7 - i))) (M ((j + 1) * 16 + i)) (turnP i) (turnU i)) := fun i hi => by rw [hfA]; unfold metA; dsimp only; rw [part_rev _ _ _ hi]
      have HF2 := Lib.hid (Flip_any (some ⟨ga, 0, none⟩) 8 ca (part fA 0 8) w2 (hA2.sl 0 8 ca (by omega) hca1 hca2) (by omega))
      have HC2 := Lib.hid hC2
      have HK2 : Hid (Kept X w w2) := HK1.out.trans hK2
      clear hfA HP hA2 hC2 hK2 HK1
      go_wp2_with fail
      refine HF2.out.mono ?_
      rintro e w3 ⟨v3, rfl, hv3, ho3⟩
      obtain ⟨gc, cc, rfl, _, _, _, hG⟩ := hv3.cells (by rw [List.length_reverse, part_len]; omega)
      rw [List.length_reverse, part_len] at hG ⊢
      have HC3 := Lib.hid (HC2.out.old ho3)
      have HSrc : Hid (∀ i, i < 8 → w3.cell? ⟨gc, 0 + i, none⟩ = some (.int .i64 (fA (7 - i)))) := fun i hi => by
        rw [Nat.zero_add, hG.cell i hi, part_rev _ _ _ hi, Nat.zero_add]
      have HT : Hid (w3.there g (j * 16 + 8) 8) := HC3.out.there _ _ (by omega)
      have HN : Hid (MeetR turnWA turnWB X w (some ⟨g, 0, none⟩) n F (j + 1 + 1) (w3.setCells g (j * 16 + 8) (rowL 8 fun i => fA (7 - i)))) := by
        refine ⟨fun _ => ⟨g, rfl, xg, ?_⟩, (HK2.out.trans (ho3.kept fun q hq => Nat.lt_of_lt_of_le (HX.out q hq) HK2.out.size)).trans (Kept.setCells _ xg _ _)⟩
        refine (HC3.out.setCells (j * 16 + 8) 8 (by omega) _).ext fun q hq => ?_
        rw [← HStep.out]
        unfold patch
        dsimp only
        split
        · rw [HFA.out _ (by omega)]
        · split
          · unfold metA
            dsimp only
            rw [part_rev _ _ _ (by omega)]
          · rfl
      clear HF2 hv3 ho3 hG HC2 HC3 HK2 HFA HStep HX
      go_wp2_with (with_reducible refine wpList_copy_blk rfl _ _ 22 22 rfl 2 Try.underlying22 Try.int64_cells 8 (fun i => fA (7 - i)) g (j * 16 + 8) 8 8 gc 0 8 cc rfl rfl (by decide) HSrc.out HT.out ?_)
      go_roundw
      case rel => exact ⟨j + 1 + 1, by omega, by omega, by go_num, HN⟩
      case measure => simp [intOf]; omega
    · have HE : Hid (OwnR 16 X wr pt n (meetTo turnWA turnWB n F) ∧ Kept X w wr) := by
        refine ⟨?_, HS.out.2⟩
        by_cases h1 : n ≤ 1
        · rw [HE0.out h1]
          have := HS.out.1
          rcases hk with h | rfl
          · obtain rfl : k = 1 := by omega
            rwa [meetTo_one] at this
          · rwa [meetTo_one] at this
        · obtain rfl : k = n := by omega
          exact HS.out.1
      have hlt' : n ≤ k := by omega
      clear HS HE0 HX HR
      go_wp2_with fail
      go_end0
      exact ⟨rfl, HE.out⟩
set_option maxRecDepth 100000 in
set_option maxHeartbeats 4000000 in
theorem meetBack_any (X : Nat → Prop) (pt : Option Addr) (n cap : Nat) (F : Nat → Int) (w : World) (h : OwnR 16 X w pt n F) (hX : ∀ q, X q → q < w.heap.size) (hn : n ≤ 17179869184) :
    Calls Try.prog 34 #[.slice pt n cap, .func (.func 37) #[.agg T8] #[]] w fun e w' => e = .returned (.tuple #[]) ∧ OwnR 16 X w' pt n (meetTo backWA backWB n F) ∧ Kept X w w' := by
  have H0 : Hid (MeetR backWA backWB X w pt n F 1 w) := ⟨by rw [meetTo_one]; exact h, Kept.refl _ _⟩
  have HE0 : Hid (n ≤ 1 → meetTo backWA backWB n F = F) := fun hn => by
    rcases (by omega : n = 0 ∨ n = 1) with rfl | rfl
    · funext q
      obtain ⟨b, r, rfl, hr, _, _⟩ := split16 q
      by_cases h8 : 8 ≤ r
      · rw [meetTo_hi _ _ _ _ _ _ hr h8, if_neg (by omega)]
      · rw [meetTo_lo _ _ _ _ _ _ (by omega), if_neg (by omega)]
    · exact meetTo_one _ _ _
  have HX := Lib.hid hX
  have hR : (Value.agg T8) = .agg T8 := rfl
  clear h hR hX
  generalize hT : T8 = R
  have HR := Lib.hid hT
  clear hT
  go_enter Try.func34, Try.ntmps34
  go_wp2_with fail
  go_loopw [4] (fun i wr => ∃ k : Nat, 1 ≤ k ∧ (k ≤ n ∨ k = 1) ∧ i = .int .i64 k ∧ Hid (MeetR backWA backWB X w pt n F k wr)) (fun i _ => n - (intOf i).toNat)
  case atStart => exact ⟨1, by omega, by omega, rfl, H0⟩
  case round =>
    obtain ⟨k, hk1, hk, rfl, HS⟩ := hrel
    clear H0
    by_cases hlt : k < n
    · obtain ⟨j, rfl⟩ : ∃ j, k = j + 1 := ⟨k - 1, by omega⟩
      obtain ⟨g, rfl, xg, hc⟩ := HS.out.1 (by omega)
      obtain ⟨M, hM⟩ : ∃ M, M = meetTo backWA backWB (j + 1) F := ⟨_, rfl⟩
      rw [← hM] at hc
      have hstep := meetTo_step backWA backWB F j
      rw [← hM] at hstep
      have HStep := Lib.hid hstep
      have HC := Lib.hid hc
      have HK := Lib.hid HS.out.2
      have hgl := hc.lt
      have e1 : (((j + 1 : Nat) : Int)) = (j : Int) + 1 := by omega
      have q1 : wrap64 ((j : Int) + 1 - 1) = j := by rw [show (j : Int) + 1 - 1 = j by omega]; exact IntWalk.wrap64_in _ (by omega)
      have hS1 := fun o w => slice_arr_lo (P := Try.prog) (t := 28) 16 8 Try.block_under Try.block_len Try.block_elem (by omega) g o w
      have hS2 := fun o w => slice_arr_hi (P := Try.prog) (t := 28) 16 8 Try.block_under Try.block_len Try.block_elem (by omega) (by omega) g o w
      rw [show ((8 : Nat) : Int) = 8 from rfl] at hS1 hS2
      have HF1 := Lib.hid (Flip_any (some ⟨g, j * 16 + 8, none⟩) 8 8 (part M (j * 16 + 8) 8) wr (hc.sl (j * 16 + 8) 8 8 (by omega) (by omega) (by unfold maxLen; omega)) (by omega))
      clear hstep hc HS hM
      go_wp2_with fail
      refine HF1.out.mono ?_
      rintro e w1 ⟨v1, rfl, hv1, ho1⟩
      obtain ⟨ga, ca, rfl, xga, hca1, hca2, hA⟩ := hv1.cells (by rw [List.length_reverse, part_len]; omega)
      rw [List.length_reverse, part_len] at hA hca1 ⊢
      have xga' : ¬ X ga := fun e => xga (Nat.lt_of_lt_of_le (HX.out _ e) HK.out.size)
      have hne : ga ≠ g := fun e => xga (by rw [e]; exact hgl)
      have HP := Lib.hid (PBack_any X ga g (16 * n) ((j + 1) * 16) ca 16 (fun i => (part M (j * 16 + 8) 8).reverse.getD i 0) M w1 hA (HC.out.old ho1) (by omega) hne xga' xg (fun q hq => Nat.lt_of_lt_of_le (HX.out q hq) (Nat.le_trans HK.out.size ho1.size)))
      rw [HR.out] at HP
      have HK1 : Hid (Kept X w w1) := HK.out.trans (ho1.kept fun q hq => Nat.lt_of_lt_of_le (HX.out q hq) HK.out.size)
      clear HF1 hv1 ho1 hA HK HC
      go_wp2_with fail
      refine HP.out.mono ?_
      rintro e w2 ⟨rfl, hA2, hC2, hK2⟩
      have hfA : metA backWA (fun i => (part M (j * 16 + 8) 8).reverse.getD i 0) (fun k => M ((j + 1) * 16 + k)) = fun i => backWA ((part M (j * 16 + 8) 8).reverse.getD i 0) (M ((j + 1) * 16 + i)) (turnP i) (turnU i) := rfl
      obtain ⟨fA, hfA⟩ : ∃ f, f = metA backWA (fun i => (part M (j * 16 + 8) 8).reverse.getD i 0) (fun k => M ((j + 1) * 16 + k)) := ⟨_, rfl⟩
      rw [← hfA] at hA2
      have HFA : Hid (∀ i, i < 8 → fA i = backWA (M (j * 16 + 8 + (7 - i))) (M ((j + 1) * 16 + i)) (turnP i) (turnU i)) := fun i hi => by rw [hfA]; unfold metA; dsimp only; rw [part_rev _ _ _ hi]
      have HF2 := Lib.hid (Flip_any (some ⟨ga, 0, none⟩) 8 ca (part fA 0 8) w2 (hA2.sl 0 8 ca (by omega) hca1 hca2) (by omega))
      have HC2 := Lib.hid hC2
      have HK2 : Hid (Kept X w w2) := HK1.out.trans hK2
      clear hfA HP hA2 hC2 hK2 HK1
      go_wp2_with fail
      refine HF2.out.mono ?_
      rintro e w3 ⟨v3, rfl, hv3, ho3⟩
      obtain ⟨gc, cc, rfl, _, _, _, hG⟩ := hv3.cells (by rw [List.length_reverse, part_len]; omega)
      rw [List.length_reverse, part_len] at hG ⊢
      have HC3 := Lib.hid (HC2.out.old ho3)
      have HSrc : Hid (∀ i, i < 8 → w3.cell? ⟨gc, 0 + i, none⟩ = some (.int .i64 (fA (7 - i)))) := fun i hi => by
        rw [Nat.zero_add, hG.cell i hi, part_rev _ _ _ hi, Nat.zero_add]
      have HT : Hid (w3.there g (j * 16 + 8) 8) := HC3.out.there _ _ (by omega)
      have HN : Hid (MeetR backWA backWB X w (some ⟨g, 0, none⟩) n F (j + 1 + 1) (w3.setCells g (j * 16 + 8) (rowL 8 fun i => fA (7 - i)))) := by
        refine ⟨fun _ => ⟨g, rfl, xg, ?_⟩, (HK2.out.trans (ho3.kept fun q hq => Nat.lt_of_lt_of_le (HX.out q hq) HK2.out.size)).trans (Kept.setCells _ xg _ _)⟩
        refine (HC3.out.setCells (j * 16 + 8) 8 (by omega) _).ext fun q hq => ?_
        rw [← HStep.out]
        unfold patch
        dsimp only
        split
        · rw [HFA.out _ (by omega)]
        · split
          · unfold metA
            dsimp only
            rw [part_rev _ _ _ (by omega)]
          · rfl
      clear HF2 hv3 ho3 hG HC2 HC3 HK2 HFA HStep HX
      go_wp2_with (with_reducible refine wpList_copy_blk rfl _ _ 22 22 rfl 2 Try.underlying22 Try.int64_cells 8 (fun i => fA (7 - i)) g (j * 16 + 8) 8 8 gc 0 8 cc rfl rfl (by decide) HSrc.out HT.out ?_)
      go_roundw
      case rel => exact ⟨j + 1 + 1, by omega, by omega, by go_num, HN⟩
      case measure => simp [intOf]; omega
    · have HE : Hid (OwnR 16 X wr pt n (meetTo backWA backWB n F) ∧ Kept X w wr) := by
        refine ⟨?_, HS.out.2⟩
        by_cases h1 : n ≤ 1
        · rw [HE0.out h1]
          have := HS.out.1
          rcases hk with h | rfl
          · obtain rfl : k = 1 := by omega
            rwa [meetTo_one] at this
          · rwa [meetTo_one] at this
        · obtain rfl : k = n := by omega
          exact HS.out.1
      have hlt' : n ≤ k := by omega
      clear HS HE0 HX HR
      go_wp2_with fail
      go_end0
      exact ⟨rfl, HE.out⟩
end Go.Proofs.Ytpdjdejlhjcicaa
