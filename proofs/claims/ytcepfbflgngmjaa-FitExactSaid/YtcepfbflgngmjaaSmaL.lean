/- What the laws of stage 12 call: wide, right, awake. (by wip/tools/exp.py of XSmaL.src) -/
import Derived.Test.YtcepfbflgngmjaaFitG
namespace Go.Proofs.Ytcepfbflgngmjaa
set_option linter.unusedVariables false
set_option maxRecDepth 100000
set_option linter.unusedSimpArgs false
open Go.RowKit Go.ChangeShapes Go.WideShapes

theorem wide_any (f : Nat → Int) (w : World) (hf : Fits64 f) :
    Calls Try.prog 14 #[.agg (rowN 16 (blk f))] w fun e w' => e = .returned (.bool (decide (¬ smallP f))) ∧ Old w w' := by
  have HB : Hid ((w.alloc (.cells (rowN 16 (blk f)) 23)).heap[w.heap.size]? = some (.cells (rowN 16 (blk f)) 23 (0, 0))) := Lib.hid (heap_alloc_new _ _)
  have HX := Lib.hid hf
  obtain ⟨D, hD⟩ : ∃ D, decide (¬ smallP f) = D := ⟨_, rfl⟩
  have HD := Lib.hid hD
  rw [hD]
  clear hD hf
  go_enter Try.func14, Try.ntmps14
  go_wp2_with fail
  go_loop [3] (fun i => ∃ k : Nat, k ≤ 16 ∧ i = .int .i64 k ∧ Hid (∀ j, j < k → -8388607 ≤ f j ∧ f j ≤ 8388607)) (fun i => 16 - (intOf i).toNat)
  case atStart => exact ⟨0, by omega, rfl, Lib.hid fun j hj => by omega⟩
  case round =>
    obtain ⟨k, hk, rfl, hj⟩ := hrel
    by_cases hlt : k < 16
    · have k1 : (0 : Int) ≤ k := by omega
      have k2 : (k : Int) < 16 := by omega
      have cb := (cell_of_row _ _ _ _ _ _ HB.out).trans (blk_at 16 f k hlt)
      have hx := HX.out k
      have ha := absI_bd (f k) hx.1 hx.2
      have HA := Lib.hid (fun w => Abs_any (f k) w hx.1 hx.2)
      have HW := Lib.hid (fun w => Width_any (absI (f k)) w (by omega) (by omega))
      have h24 := width24 (absI (f k)) ha.1 ha.2
      have hsm := absI_small (f k) hx.1 hx.2
      have HS : Hid (widthI (absI (f k)) ≤ 24 ↔ -8388607 ≤ f k ∧ f k ≤ 8388607) := Lib.hid (h24.trans hsm)
      have HN : Hid ((-8388607 ≤ f k ∧ f k ≤ 8388607) → ∀ j, j < k + 1 → -8388607 ≤ f j ∧ f j ≤ 8388607) := Lib.hid fun h j hj' => by
        rcases Nat.lt_succ_iff_lt_or_eq.1 hj' with h' | rfl
        · exact hj.out j h'
        · exact h
      have HY : Hid (¬ (-8388607 ≤ f k ∧ f k ≤ 8388607) → ¬ smallP f) := Lib.hid fun h h' => h (h' k hlt)
      clear h24 hsm hx ha
      generalize widthI (absI (f k)) = y at *
      generalize absI (f k) = a at *
      generalize f k = x at *
      go_wp2_with fail
      refine (HA.out _).mono ?_
      rintro e w1 ⟨rfl, rfl⟩
      go_wp2_with fail
      refine (HW.out _).mono ?_
      rintro e w1 ⟨rfl, rfl⟩
      by_cases c : y ≤ 24
      · have HN2 := Lib.hid (HN.out (HS.out.1 c))
        clear HN HY HS
        go_wp2_with fail
        go_round
        case rel => exact ⟨k + 1, by omega, by go_num, HN2⟩
        case measure => simp [intOf]; omega
      · have hd : D = true := by rw [← HD.out]; exact decide_eq_true (HY.out fun h => c (HS.out.2 h))
        have c' : 24 < y := by omega
        have Hd := Lib.hid hd
        clear HN HY HS hd c
        go_wp2_with fail
        go_ret
        exact ⟨by rw [Hd.out]; rfl, Old.alloc _ _⟩
    · obtain rfl : k = 16 := by omega
      have hd : D = false := by rw [← HD.out]; exact decide_eq_false (fun h => h hj.out)
      have Hd := Lib.hid hd
      clear hd hj
      go_wp2_with fail
      go_ret
      exact ⟨by rw [Hd.out]; rfl, Old.alloc _ _⟩
theorem lright_any (g : Nat → Int) (w : World) :
    Calls Try.prog 15 #[.agg (rowN 4 (blk g))] w fun e w' => e = .returned (.bool (decide (rightP g))) ∧ Old w w' := by
  have HB : Hid ((w.alloc (.cells (rowN 4 (blk g)) 24)).heap[w.heap.size]? = some (.cells (rowN 4 (blk g)) 24 (0, 0))) := Lib.hid (heap_alloc_new _ _)
  go_enter Try.func15, Try.ntmps15
  go_wp2_with fail
  go_loop [3] (fun i => ∃ k : Nat, k ≤ 4 ∧ i = .int .i64 k ∧ Hid (∀ j, j < k → 0 ≤ g j ∧ g j ≤ 3)) (fun i => 4 - (intOf i).toNat)
  case atStart => exact ⟨0, by omega, rfl, Lib.hid fun j hj => by omega⟩
  case round =>
    obtain ⟨k, hk, rfl, hj⟩ := hrel
    by_cases hlt : k < 4
    · have k1 : (0 : Int) ≤ k := by omega
      have k2 : (k : Int) < 4 := by omega
      have cb := (cell_of_row _ _ _ _ _ _ HB.out).trans (blk_at 4 g k hlt)
      have HN : Hid ((0 ≤ g k ∧ g k ≤ 3) → ∀ j, j < k + 1 → 0 ≤ g j ∧ g j ≤ 3) := Lib.hid fun h j hj' => by
        rcases Nat.lt_succ_iff_lt_or_eq.1 hj' with h' | rfl
        · exact hj.out j h'
        · exact h
      have HY : Hid (¬ (0 ≤ g k ∧ g k ≤ 3) → decide (rightP g) = false) := Lib.hid fun h => decide_eq_false fun h' => h (h' k hlt)
      generalize g k = x at *
      by_cases c1 : x < 0
      · have hd := Lib.hid (HY.out (by omega))
        clear HY HN
        go_wp2_with fail
        go_ret
        exact ⟨by rw [hd.out]; rfl, Old.alloc _ _⟩
      · have c1' : 0 ≤ x := by omega
        by_cases c2 : 3 < x
        · have hd := Lib.hid (HY.out (by omega))
          clear HY HN c1
          go_wp2_with fail
          go_ret
          exact ⟨by rw [hd.out]; rfl, Old.alloc _ _⟩
        · have c2' : x ≤ 3 := by omega
          have HN2 := Lib.hid (HN.out ⟨c1', c2'⟩)
          clear HY HN c1 c2
          go_wp2_with fail
          go_round
          case rel => exact ⟨k + 1, by omega, by go_num, HN2⟩
          case measure => simp [intOf]; omega
    · obtain rfl : k = 4 := by omega
      have hd : decide (rightP g) = true := decide_eq_true hj.out
      have Hd := Lib.hid hd
      clear hd hj
      go_wp2_with fail
      go_ret
      exact ⟨by rw [Hd.out]; rfl, Old.alloc _ _⟩

def fAw : Nat → Int := fun k => if k = 0 then 1000 else if k = 1 then -3 else 0
theorem fAw_build : Try.prog.built 23 [(0, .int .i64 1000), (1, .int .i64 (-3))] = some (rowN 16 (blk fAw)) := by kernel_rfl
theorem block_build0 : Try.prog.built 23 [] = some (rowN 16 (blk zeroS)) := by kernel_rfl
theorem four_build0 : Try.prog.built 24 [] = some (rowN 4 (blk zeroS)) := by kernel_rfl
theorem frame_build0 : Try.prog.built 29 [] = some (rowN 29 (frC zeroS (.slice none 0 0))) := by kernel_rfl
theorem fAw_row : rowN 16 (blk fAw) = #[.int .i64 1000, .int .i64 (-3), .int .i64 0, .int .i64 0, .int .i64 0, .int .i64 0, .int .i64 0, .int .i64 0, .int .i64 0, .int .i64 0, .int .i64 0, .int .i64 0, .int .i64 0, .int .i64 0, .int .i64 0, .int .i64 0] := rfl
theorem fAw_fits : Fits64 fAw := fun k => by unfold fAw; split <;> (try split) <;> omega
theorem fAw_small : smallP fAw := fun k _ => by unfold fAw; split <;> (try split) <;> omega
theorem zeroS_fits : Fits64 zeroS := fun _ => by unfold zeroS; omega
theorem no_tones (w : World) (T : Nat → Int) : SlF 2 w none 0 T := fun h => absurd h (by omega)
theorem exact_zero : sameP (tolN zeroS zeroS zeroS) 0 (fun _ => 0) zeroS 0 (fun _ => 0) := by
  refine ⟨rfl, fun j hj => by omega, fun k _ _ => ?_⟩
  unfold tolN
  rw [step_exact]
  have hw : ∀ j, wideF zeroS j = 0 := fun j => by
    have h1 := wideTo_le zeroS 0 (by omega) 16 j (fun k _ _ => by rw [show widthI (zeroS k) = 0 from rfl]; omega)
    have h2 := (wideF_bd zeroS j).1
    have h3 : wideF zeroS j = wideTo zeroS 16 j := rfl
    omega
  unfold frN
  split
  · rfl
  · split
    · rfl
    · split
      · exact hw _
      · rfl
set_option maxHeartbeats 4000000 in
theorem awake_any (w : World) : Calls Try.prog 7 #[] w fun e w' => e = .returned (.bool true) ∧ Old w w' := by
  have Hs16 : Hid ((Try.prog.info? 23).map (·.size) = some 16) := Lib.hid (by kernel_rfl)
  have Hs29 : Hid ((Try.prog.info? 29).map (·.size) = some 29) := Lib.hid (by kernel_rfl)
  have HFr := Lib.hid (fun w => frame_exact fAw zeroS 55 w fAw_fits ⟨by omega, by omega⟩ ⟨fAw_small, gain_zero⟩)
  have hsp := fun w => Spectrum_any (tolN zeroS zeroS fAw) none 0 0 (fun _ => 0) w (no_tones w _) (Nat.le_refl _) (Nat.zero_le _) (exact_may gain_zero fAw_small _)
  have hrow : rowN 16 (blk (specF (tolN zeroS zeroS fAw) 0 fun _ => 0)) = rowN 16 (blk fAw) := rowN_ext _ _ _ fun k hk => by unfold blk; rw [spec_exact fAw_small _ k hk]
  rw [hrow] at hsp
  have HSp := Lib.hid hsp
  have HEx := Lib.hid (fun w => Exact_any zeroS w zeroS_fits)
  have hsa := fun w => Same_any (tolN zeroS zeroS zeroS) zeroS none none 0 0 0 0 (fun _ => 0) (fun _ => 0) w (no_tones w _) (no_tones w _) (Nat.zero_le _) (Nat.zero_le _)
  rw [decide_eq_true exact_zero] at hsa
  have HSa := Lib.hid hsa
  have hE := fun w => eq_sixteen (P := Try.prog) fAw fAw w
  rw [eqB_true.2 fun _ _ => rfl] at hE
  have H1 : Hid ((rowN 16 (blk fAw)).all (·.oneCell') = true) := Lib.hid (blk_one _ _)
  have HB0 := Lib.hid block_build0
  have HB9 := Lib.hid frame_build0
  obtain ⟨R, hR⟩ : ∃ R, rowN 16 (blk fAw) = R := ⟨_, rfl⟩
  have hRs : R.size = 16 := by rw [← hR, rowN_size]
  have hRw := fAw_row
  rw [hR] at HFr HSp hE H1 hRw
  obtain ⟨F, hF⟩ : ∃ F, tolN zeroS zeroS fAw = F := ⟨_, rfl⟩
  rw [hF] at HFr HSp
  obtain ⟨G, hG⟩ : ∃ G, tolN zeroS zeroS zeroS = G := ⟨_, rfl⟩
  rw [hG] at HEx HSa
  have HRw := Lib.hid hRw
  have HRs := Lib.hid hRs
  have H29 : Hid ((rowN 29 (frC F (.slice none 0 0))).all (·.oneCell') = true) := Lib.hid (frC_one _ _ rfl)
  clear hsp hrow hsa hR hRs hRw hF hG
  obtain ⟨W0, hW0⟩ : ∃ W0, W0 = w.alloc (.cells R 23) := ⟨_, rfl⟩
  have hb : W0.heap[w.heap.size]? = some (.cells R 23 (0, 0)) := by rw [hW0]; exact heap_alloc_new _ _
  have ho : Old w W0 := by rw [hW0]; exact Old.alloc _ _
  have HW0 := Lib.hid hW0
  have HB := Lib.hid hb
  have HO := Lib.hid ho
  clear hW0 hb ho
  go_enter Try.func7, Try.ntmps7
  go_wp2_with fail
  rw [← HRw.out, ← row4_zeroS, ← HW0.out]
  clear HW0
  refine (HFr.out _).mono ?_
  rintro e w1 ⟨rfl, o1⟩
  have o2 := o1.alloc' (.cells (rowN 29 (frC F (.slice none 0 0))) 29)
  have HO2 := Lib.hid (HO.out.trans o2)
  have HB2 := Lib.hid ((o2.block _ (lt_of_block HB.out)).trans HB.out)
  have HF2 := Lib.hid (heap_alloc_new w1 (.cells (rowN 29 (frC F (.slice none 0 0))) 29))
  clear o1 o2 HO HB HFr
  go_wp2_with (with_reducible refine wpList_store_row rfl 29 _ _ rfl w1.heap.size (rowN 29 (frC F (.slice none 0 0))) rfl rfl 29 _ (heap_alloc_new _ _) (by rw [rowN_size]; exact Hs29.out) (by rw [rowN_size]; kernel_rfl) H29.out ?_; rw [World.setRow_alloc_new])
  obtain ⟨W2, hW2⟩ : ∃ W2, W2 = w1.alloc (.cells (rowN 29 (frC F (.slice none 0 0))) 29) := ⟨_, rfl⟩
  obtain ⟨fb, hfb⟩ : ∃ fb, fb = w1.heap.size := ⟨_, rfl⟩
  rw [← hW2] at HO2 HB2 HF2
  rw [← hfb] at HF2
  rw [← hW2, ← hfb]
  clear hW2 hfb H29 H1 HRw
  have HK : Hid (∀ V, Old W2 V → V.heap[w.heap.size]? = some (.cells R 23 (0, 0)) ∧ V.heap[fb]? = some (.cells (rowN 29 (frC F (.slice none 0 0))) 29 (0, 0))) := Lib.hid fun V k => ⟨(k.block _ (lt_of_block HB2.out)).trans HB2.out, (k.block _ (lt_of_block HF2.out)).trans HF2.out⟩
  clear HB2 HF2
  refine wp_region_held_drew (S := (fun w' => w'.heap[w.heap.size]? = some (.cells R 23 (0, 0)) ∧ w'.heap[fb]? = some (.cells (rowN 29 (frC F (.slice none 0 0))) 29 (0, 0)))) (by kernel_rfl) ?_ (fun hHeld => ?_)
  · (try dsimp only); exact HK.out _ ((Old.refl W2).drew)
  refine wpAnyH_take (i := 0) (oi := ⟨some _, _, _, _, _, _⟩) (v := ?_) rfl (by kernel_rfl) (by kernel_rfl) (by kernel_rfl) (fun _ _ _ h => h) (Or.inl ⟨by kernel_rfl, ?_⟩) (by assumption) ?_; rotate_left; (intro w hSw; (try dsimp only at hSw); go_simp; try with_reducible rfl); try simp only [Act.put, List.setIfInBounds_toArray, List.set_cons_zero, List.set_cons_succ]
  refine wpAnyH_take (i := 1) (oi := ⟨some _, _, _, _, _, _⟩) (v := ?_) rfl (by kernel_rfl) (by kernel_rfl) (by kernel_rfl) (fun _ _ _ h => h) (Or.inl ⟨by kernel_rfl, ?_⟩) (by assumption) ?_; rotate_left; (intro w hSw; (try dsimp only at hSw); go_simp; try with_reducible rfl); try simp only [Act.put, List.setIfInBounds_toArray, List.set_cons_zero, List.set_cons_succ]
  refine wpAnyH_take (i := 2) (oi := ⟨some _, _, _, _, _, _⟩) (v := ?_) rfl (by kernel_rfl) (by kernel_rfl) (by kernel_rfl) (fun _ _ _ h => h) (Or.inl ⟨by kernel_rfl, ?_⟩) (by assumption) ?_; rotate_left; (intro w hSw; (try dsimp only at hSw); go_simp; try with_reducible rfl); try simp only [Act.put, List.setIfInBounds_toArray, List.set_cons_zero, List.set_cons_succ]
  refine wpAnyH_take (i := 3) (oi := ⟨some _, _, _, _, _, _⟩) (v := .agg (rowN 29 (frC F (.slice none 0 0)))) rfl (by kernel_rfl) (by kernel_rfl) (by kernel_rfl) (fun _ _ _ h => h) (yieldsIf_load_row (by kernel_rfl) 29 (.tmp 2) rfl fb rfl 29 (rowN 29 (frC F (.slice none 0 0))) (0, 0) _ (fun _ h => h.2) Try.underlying29 rfl (by rw [rowN_size]; exact Hs29.out)) (by assumption) ?_; try simp only [Act.put, List.setIfInBounds_toArray, List.set_cons_zero, List.set_cons_succ]
  refine wpAnyH_take (i := 5) (oi := ⟨some _, _, _, _, _, _⟩) (v := .agg R) rfl (by kernel_rfl) (by kernel_rfl) (by kernel_rfl) (fun _ _ _ h => h) (yieldsIf_load_row (by kernel_rfl) 23 (.tmp 1) rfl w.heap.size rfl 23 R (0, 0) _ (fun _ h => h.1) Try.underlying23 rfl (by rw [HRs.out]; exact Hs16.out)) (by assumption) ?_; try simp only [Act.put, List.setIfInBounds_toArray, List.set_cons_zero, List.set_cons_succ]
  refine wpAnyH_ready (rs := [4]) (by kernel_rfl) (by simp) ?_
  refine AllReadyH.cons (o := ⟨_, _, _, _, _, _⟩) rfl (fun K hK => ?_) AllReadyH.nil
  go_simp
  refine (HSp.out _).mono ?_
  rintro e V1 ⟨rfl, o1'⟩
  have O1 := Lib.hid (((Old.refl W2).drew).trans o1')
  clear o1'
  go_wp2_with fail
  refine hK.out _ _ ?_ (fun hHeld => ?_)
  · (try dsimp only); exact HK.out _ O1.out
  clear hK K
  try simp only [Act.put, List.setIfInBounds_toArray, List.set_cons_zero, List.set_cons_succ]
  refine wpAnyH_take (i := 6) (oi := ⟨some _, _, _, _, _, _⟩) (v := ?_) rfl (by kernel_rfl) (by kernel_rfl) (by kernel_rfl) (fun _ _ _ h => h) (Or.inl ⟨by kernel_rfl, ?_⟩) (by assumption) ?_; rotate_left; (intro w hSw; (try dsimp only at hSw); go_simp; try with_reducible rfl); try simp only [Act.put, List.setIfInBounds_toArray, List.set_cons_zero, List.set_cons_succ]
  refine wpAnyH_take (i := 7) (oi := ⟨some _, _, _, _, _, _⟩) (v := ?_) rfl (by kernel_rfl) (by kernel_rfl) (by kernel_rfl) (fun _ _ _ h => h) (Or.inl ⟨by kernel_rfl, ?_⟩) (by assumption) ?_; rotate_left; (intro w hSw; (try dsimp only at hSw); go_simp; try with_reducible rfl); try simp only [Act.put, List.setIfInBounds_toArray, List.set_cons_zero, List.set_cons_succ]
  refine wpAnyH_take (i := 8) (oi := ⟨some _, _, _, _, _, _⟩) (v := ?_) rfl (by kernel_rfl) (by kernel_rfl) (by kernel_rfl) (fun _ _ _ h => h) (Or.inl ⟨by kernel_rfl, ?_⟩) (by assumption) ?_; rotate_left; (intro w hSw; (try dsimp only at hSw); go_simp; try with_reducible rfl); try simp only [Act.put, List.setIfInBounds_toArray, List.set_cons_zero, List.set_cons_succ]
  refine wpAnyH_take (i := 9) (oi := ⟨some _, _, _, _, _, _⟩) (v := .agg (rowN 16 (blk zeroS))) rfl (by kernel_rfl) (by kernel_rfl) (by kernel_rfl) (fun _ _ _ h => h) (yieldsIf_build (by kernel_rfl) 23 _ rfl [] _ (by kernel_rfl) HB0.out) (by assumption) ?_; try simp only [Act.put, List.setIfInBounds_toArray, List.set_cons_zero, List.set_cons_succ]
  refine wpAnyH_take (i := 11) (oi := ⟨some _, _, _, _, _, _⟩) (v := .agg (rowN 29 (frC zeroS (.slice none 0 0)))) rfl (by kernel_rfl) (by kernel_rfl) (by kernel_rfl) (fun _ _ _ h => h) (yieldsIf_build (by kernel_rfl) 29 _ rfl [] _ (by kernel_rfl) HB9.out) (by assumption) ?_; try simp only [Act.put, List.setIfInBounds_toArray, List.set_cons_zero, List.set_cons_succ]
  refine wpAnyH_ready (rs := [10]) (by kernel_rfl) (by simp) ?_
  refine AllReadyH.cons (o := ⟨_, _, _, _, _, _⟩) rfl (fun K hK => ?_) AllReadyH.nil
  go_simp
  refine (HEx.out _).mono ?_
  rintro e V2 ⟨rfl, o2'⟩
  have O2 := Lib.hid (O1.out.trans o2')
  clear o2'
  go_wp2_with fail
  refine hK.out _ _ ?_ (fun hHeld => ?_)
  · (try dsimp only); exact HK.out _ O2.out
  clear hK K
  try simp only [Act.put, List.setIfInBounds_toArray, List.set_cons_zero, List.set_cons_succ]
  refine wpAnyH_ready (rs := [12]) (by kernel_rfl) (by simp) ?_
  refine AllReadyH.cons (o := ⟨_, _, _, _, _, _⟩) rfl (fun K hK => ?_) AllReadyH.nil
  go_simp
  refine (HSa.out _).mono ?_
  rintro e V3 ⟨rfl, o3'⟩
  have O3 := Lib.hid (O2.out.trans o3')
  clear o3'
  go_wp2_with fail
  refine hK.out _ _ ?_ (fun hHeld => ?_)
  · (try dsimp only); exact HK.out _ O3.out
  clear hK K
  try simp only [Act.put, List.setIfInBounds_toArray, List.set_cons_zero, List.set_cons_succ]
  refine wpAnyH_take (i := 13) (oi := ⟨some _, _, _, _, _, _⟩) (v := ?_) rfl (by kernel_rfl) (by kernel_rfl) (by kernel_rfl) (fun _ _ _ h => h) (Or.inl ⟨by kernel_rfl, ?_⟩) (by assumption) ?_; rotate_left; (intro w hSw; (try dsimp only at hSw); go_simp; try with_reducible rfl); try simp only [Act.put, List.setIfInBounds_toArray, List.set_cons_zero, List.set_cons_succ]
  refine wpAnyH_take (i := 14) (oi := ⟨some _, _, _, _, _, _⟩) (v := ?_) rfl (by kernel_rfl) (by kernel_rfl) (by kernel_rfl) (fun _ _ _ h => h) (Or.inl ⟨by kernel_rfl, ?_⟩) (by assumption) ?_; rotate_left; (intro w hSw; (try dsimp only at hSw); go_simp; try with_reducible rfl); try simp only [Act.put, List.setIfInBounds_toArray, List.set_cons_zero, List.set_cons_succ]
  refine wpAnyH_done (by kernel_rfl) ?_ _
  have HR := Lib.hid (HO2.out.trans O3.out)
  clear HK HSp HEx HSa
  go_wp2_with fail
  go_ret
  exact ⟨rfl, HR.out⟩
end Go.Proofs.Ytcepfbflgngmjaa

