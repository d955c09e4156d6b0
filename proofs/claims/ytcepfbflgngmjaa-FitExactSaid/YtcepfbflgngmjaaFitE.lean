/- Package fit's contracts, fourth part: isSize, isTold, Exact, Off, Frame. (by wip/tools/exp.py of XFitE.src) -/
import Derived.Test.YtcepfbflgngmjaaFitQ
import Derived.Test.YtcepfbflgngmjaaFitD
namespace Go.Proofs.Ytcepfbflgngmjaa
set_option linter.unusedVariables false
set_option maxRecDepth 100000
set_option linter.unusedSimpArgs false
open Go.RowKit Go.ChangeShapes Go.WideShapes

theorem isSize_any (k : Int) (w : World) :
    Calls Try.prog 31 #[.int .i64 k] w fun e w' => e = .returned (.bool (decide (24 ≤ k ∧ k ≤ 96))) ∧ w = w' := by
  by_cases a : 24 ≤ k <;> by_cases b : k ≤ 96 <;> try (exfalso; omega)
  · have e : decide (24 ≤ k ∧ k ≤ 96) = true := decide_eq_true ⟨a, b⟩
    rw [e]; clear e
    go_enter Try.func31, Try.ntmps31
    go_wp2
    go_ret
    exact ⟨rfl, rfl⟩
  · have e : decide (24 ≤ k ∧ k ≤ 96) = false := decide_eq_false (by omega)
    rw [e]; clear e
    have b' : 96 < k := by omega
    go_enter Try.func31, Try.ntmps31
    go_wp2
    go_ret
    exact ⟨rfl, rfl⟩
  · have e : decide (24 ≤ k ∧ k ≤ 96) = false := decide_eq_false (by omega)
    rw [e]; clear e
    have a' : k < 24 := by omega
    go_enter Try.func31, Try.ntmps31
    go_wp2
    go_ret
    exact ⟨rfl, rfl⟩
theorem frame_build1 (g : Nat → Int) : Try.prog.built 29 [(0, .agg (rowN 4 (blk g)))] = some (rowN 29 (frC (frN g zeroS zeroS zeroS) (.slice none 0 0))) := by kernel_rfl
set_option maxHeartbeats 1000000 in
theorem isTold_any (f g : Nat → Int) (w : World) (hf : Fits64 f) :
    Calls Try.prog 32 #[.agg (rowN 16 (blk f)), .agg (rowN 4 (blk g))] w fun e w' => e = .returned (.bool (decide (smallP f ∧ rightP g))) ∧ Old w w' := by
  have Hs4 : Hid ((Try.prog.info? 24).map (·.size) = some 4) := Lib.hid (by kernel_rfl)
  obtain ⟨W0, hW0⟩ : ∃ W0, W0 = ((w.alloc (.cells (rowN 16 (blk f)) 23)).alloc (.cells (rowN 4 (blk g)) 24)) := ⟨_, rfl⟩
  have hb : W0.heap[w.heap.size]? = some (.cells (rowN 16 (blk f)) 23 (0, 0)) := by rw [hW0]; exact heap_alloc2_old w _ _
  have hg : W0.heap[w.heap.size + 1]? = some (.cells (rowN 4 (blk g)) 24 (0, 0)) := by rw [hW0]; exact heap_alloc2_new w _ _
  have ho : Old w W0 := by rw [hW0]; exact (Old.alloc w _).alloc' _
  have hS : ∀ (b : Nat) (w : World), (Instr.sliceAt 23 (.pointer (some ⟨b, 0, none⟩)) none none none).run Try.prog w = .ok (.slice (some ⟨b, 0, none⟩) 16 16) w := fun b w => by
    have hl : Try.prog.arrayLen 23 = 16 := by kernel_rfl
    have hz : (sizeOf (Try.prog.elem 23)).run Try.prog w = .ok 1 w := by kernel_rfl
    rw [run_sliceAt_array_all w 23 _ (by kernel_rfl), hz, hl]
    rfl
  have HPk := Lib.hid (Peak_any _ _ _ _ W0 (part_SlI hb 0 16 16 (by omega) (by omega) (by omega)) (part_in hf 0 16) (by omega))
  have hpb := peakL_in _ (part_in hf 0 16)
  have HWd := Lib.hid (fun w => Width_any (peakL (part f 0 16)) w (by omega) (by omega))
  have hsm := small_width f hf
  have HR := Lib.hid (fun w => FRight_any (frN g zeroS zeroS zeroS) none 0 0 (fun _ => 0) w (fun h => absurd h (by omega)) (fun _ => by dsimp only; omega) (Nat.le_refl _) (Nat.zero_le _))
  have hfr : decide (FrP (frN g zeroS zeroS zeroS) 0 (fun _ => 0)) = decide (rightP g) := decide_eq_decide.2 (gains_may g _)
  rw [hfr] at HR
  have HBd := Lib.hid (frame_build1 g)
  have HG := Lib.hid hg
  have HO := Lib.hid ho
  have HW0 := Lib.hid hW0
  have Hsm := Lib.hid hsm
  clear hb hg ho hW0 hsm hfr hpb
  generalize peakL (part f 0 16) = pk at *
  generalize widthI pk = wk at *
  generalize frN g zeroS zeroS zeroS = F at *
  obtain ⟨D, hD⟩ : ∃ D, decide (smallP f ∧ rightP g) = D := ⟨_, rfl⟩
  have HD := Lib.hid hD
  rw [hD]
  clear hD
  go_enter Try.func32, Try.ntmps32
  go_wp2_with fail
  rw [← HW0.out]
  clear HW0
  refine HPk.out.mono ?_
  rintro e w1 ⟨rfl, rfl⟩
  go_wp2_with fail
  refine (HWd.out _).mono ?_
  rintro e w1 ⟨rfl, rfl⟩
  by_cases c : wk ≤ 24
  · have e : decide (smallP f ∧ rightP g) = decide (rightP g) := decide_eq_decide.2 ⟨fun h => h.2, fun h => ⟨Hsm.out.1 c, h⟩⟩
    have He := Lib.hid (HD.out.symm.trans e)
    clear e Hsm
    go_wp2_with (first | (with_reducible refine wpList_load_row_w (by kernel_rfl) 24 _ rfl (w.heap.size + 1) rfl 24 (rowN 4 (blk g)) (0, 0) _ HG.out Try.underlying24 rfl (by rw [rowN_size]; exact Hs4.out) ?_) | (refine wpList_build_w (by kernel_rfl) 29 _ rfl [(0, .agg (rowN 4 (blk g)))] _ (by kernel_rfl) HBd.out ?_))
    refine (HR.out _).mono ?_
    rintro e w2 ⟨rfl, o2⟩
    have HO2 := Lib.hid (HO.out.trans o2)
    clear o2
    go_wp2_with fail
    go_ret
    exact ⟨by rw [He.out]; rfl, HO2.out⟩
  · have e : decide (smallP f ∧ rightP g) = false := decide_eq_false fun h => c (Hsm.out.2 h.1)
    have He := Lib.hid (HD.out.symm.trans e)
    clear e Hsm
    go_wp2_with fail
    go_ret
    exact ⟨by rw [He.out]; rfl, HO.out⟩
theorem scales_zero : (Try.prog.built 51 []) = some (rowN 4 (blk zeroS)) := by kernel_rfl
theorem row4_zeroS : rowN 4 (blk zeroS) = #[.int .i64 0, .int .i64 0, .int .i64 0, .int .i64 0] := rfl
set_option maxHeartbeats 1000000 in
theorem Exact_any (f : Nat → Int) (w : World) (hf : Fits64 f) :
    Calls Try.prog 19 #[.agg (rowN 16 (blk f))] w fun e w' => e = .returned (.agg (rowN 29 (frC (tolN zeroS zeroS f) (.slice none 0 0)))) ∧ Old w w' := by
  have Hs16 : Hid ((Try.prog.info? 23).map (·.size) = some 16) := Lib.hid (by kernel_rfl)
  have Hs29 : Hid ((Try.prog.info? 29).map (·.size) = some 29) := Lib.hid (by kernel_rfl)
  obtain ⟨z, hz⟩ : ∃ z : Array Value, z = rowN 29 (frC (fun _ => 0) (.slice none 0 0)) := ⟨_, rfl⟩
  have hzs : z.size = 29 := by rw [hz, rowN_size]
  rw [frC_zero] at hz
  obtain ⟨W0, hW0⟩ : ∃ W0, W0 = ((w.alloc (.cells (rowN 16 (blk f)) 23)).alloc (.cells z 29)) := ⟨_, rfl⟩
  have hb : W0.heap[w.heap.size]? = some (.cells (rowN 16 (blk f)) 23 (0, 0)) := by rw [hW0]; exact heap_alloc2_old w _ _
  have hr : W0.heap[w.heap.size + 1]? = some (.cells z 29 (0, 0)) := by rw [hW0]; exact heap_alloc2_new w _ _
  have ho : Old w W0 := by rw [hW0]; exact (Old.alloc w _).alloc' _
  have hT := fun w => Told_any f zeroS w hf
  rw [show (fun _ => (0 : Int)) = zeroS from rfl] at hT
  obtain ⟨F, hF⟩ : ∃ F, tolN zeroS zeroS f = F := ⟨_, rfl⟩
  rw [hF] at hT ⊢
  have HT := Lib.hid hT
  have Hb := Lib.hid hb
  have Hr := Lib.hid hr
  have HO := Lib.hid ho
  have HW0 := Lib.hid hW0
  have Hz := Lib.hid hz
  have Hzs := Lib.hid hzs
  clear hb hr ho hW0 hz hzs hT hF
  go_enter Try.func19, Try.ntmps19
  go_wp2_with (rw [← Hz.out, ← HW0.out]; with_reducible refine wpList_load_row rfl 23 _ rfl w.heap.size rfl 23 (rowN 16 (blk f)) (0, 0) _ Hb.out Try.underlying23 rfl (by rw [rowN_size]; exact Hs16.out) ?_)
  rw [← row4_zeroS]
  refine (HT.out _).mono ?_
  rintro e w1 ⟨rfl, o1⟩
  have HR1 := Lib.hid ((o1.block _ (lt_of_block Hr.out)).trans Hr.out)
  have hrr := row_ret HR1.out (HO.out.trans o1) (by omega) (rowN 29 (frC F (.slice none 0 0)))
  have HRR := Lib.hid hrr
  have H1 : Hid ((rowN 29 (frC F (.slice none 0 0))).all (·.oneCell') = true) := Lib.hid (frC_one _ _ rfl)
  clear o1 hrr Hb Hr HO HT HW0
  go_wp2_with (with_reducible refine wpList_store_row rfl 29 _ _ rfl (w.heap.size + 1) (rowN 29 (frC F (.slice none 0 0))) rfl rfl 29 _ HR1.out (by rw [rowN_size]; exact Hs29.out) (by rw [rowN_size]; exact Hzs.out) H1.out ?_)
  exact bodyPost_ret (results_cell_row rfl _ _ (w.heap.size + 1) 29 (rowN 29 (frC F (.slice none 0 0))) (0, 0) _ rfl HRR.out.1 Try.underlying29 rfl (by rw [rowN_size]; exact Hs29.out)) rfl ⟨rfl, HRR.out.2⟩
set_option maxHeartbeats 2000000 in
theorem Off_any (f : Nat → Int) (F : Nat → Int) (p : Option Addr) (n cap : Nat) (T : Nat → Int) (w : World) (hT : SlF 2 w p n T) (hn : n ≤ cap) (hc : cap ≤ maxLen) (hF : FrP F n T) :
    Calls Try.prog 22 #[.agg (rowN 16 (blk f)), .agg (rowN 29 (frC F (.slice p n cap)))] w fun e w' => e = .returned (.int .i64 (peakL (part (farI f (specF F n T)) 0 16))) ∧ Old w w' := by
  have Hs16 : Hid ((Try.prog.info? 23).map (·.size) = some 16) := Lib.hid (by kernel_rfl)
  have Hs29 : Hid ((Try.prog.info? 29).map (·.size) = some 29) := Lib.hid (by kernel_rfl)
  obtain ⟨W0, hW0⟩ : ∃ W0, W0 = ((w.alloc (.cells (rowN 16 (blk f)) 23)).alloc (.cells (rowN 29 (frC F (.slice p n cap))) 29)) := ⟨_, rfl⟩
  have hb : W0.heap[w.heap.size]? = some (.cells (rowN 16 (blk f)) 23 (0, 0)) := by rw [hW0]; exact heap_alloc2_old w _ _
  have hr : W0.heap[w.heap.size + 1]? = some (.cells (rowN 29 (frC F (.slice p n cap))) 29 (0, 0)) := by rw [hW0]; exact heap_alloc2_new w _ _
  have ho : Old w W0 := by rw [hW0]; exact (Old.alloc w _).alloc' _
  have HK : Hid (∀ V, Old W0 V → V.heap[w.heap.size]? = some (.cells (rowN 16 (blk f)) 23 (0, 0)) ∧ V.heap[w.heap.size + 1]? = some (.cells (rowN 29 (frC F (.slice p n cap))) 29 (0, 0))) := Lib.hid fun V k => ⟨(k.block _ (lt_of_block hb)).trans hb, (k.block _ (lt_of_block hr)).trans hr⟩
  have HSp : Hid (∀ V, Old W0 V → Calls Try.prog 20 #[.agg (rowN 29 (frC F (.slice p n cap)))] V fun e w' => e = .returned (.agg (rowN 16 (blk (specF F n T)))) ∧ Old V w') := Lib.hid fun V k => Spectrum_any F p n cap T V (hT.old (ho.trans k)) hn hc hF
  have HN := Lib.hid (fun w => Noise_any f (specF F n T) w)
  have HO := Lib.hid ho
  have HW0 := Lib.hid hW0
  clear hb hr ho hW0 hT hF
  generalize specF F n T = g at *
  obtain ⟨pk, hpk⟩ : ∃ pk, peakL (part (farI f g) 0 16) = pk := ⟨_, rfl⟩
  rw [hpk] at HN ⊢
  clear hpk
  go_enter Try.func22, Try.ntmps22
  go_wp2_with fail
  rw [← HW0.out]
  refine wp_region_held_drew (S := (fun w' => w'.heap[w.heap.size]? = some (.cells (rowN 16 (blk f)) 23 (0, 0)) ∧ w'.heap[w.heap.size + 1]? = some (.cells (rowN 29 (frC F (.slice p n cap))) 29 (0, 0)))) (by kernel_rfl) ?_ (fun hHeld => ?_)
  · (try dsimp only); exact HK.out _ ((Old.refl W0).drew)
  refine wpAnyH_take (i := 0) (oi := ⟨some _, _, _, _, _, _⟩) (v := .agg (rowN 16 (blk f))) rfl (by kernel_rfl) (by kernel_rfl) (by kernel_rfl) (fun _ _ _ h => h) (yieldsIf_load_row (by kernel_rfl) 23 (.tmp 2) rfl w.heap.size rfl 23 (rowN 16 (blk f)) (0, 0) _ (fun _ h => h.1) Try.underlying23 rfl (by rw [rowN_size]; exact Hs16.out)) (by assumption) ?_; try simp only [Act.put, List.setIfInBounds_toArray, List.set_cons_zero, List.set_cons_succ]
  refine wpAnyH_take (i := 1) (oi := ⟨some _, _, _, _, _, _⟩) (v := .agg (rowN 29 (frC F (.slice p n cap)))) rfl (by kernel_rfl) (by kernel_rfl) (by kernel_rfl) (fun _ _ _ h => h) (yieldsIf_load_row (by kernel_rfl) 29 (.tmp 3) rfl (w.heap.size + 1) rfl 29 (rowN 29 (frC F (.slice p n cap))) (0, 0) _ (fun _ h => h.2) Try.underlying29 rfl (by rw [rowN_size]; exact Hs29.out)) (by assumption) ?_; try simp only [Act.put, List.setIfInBounds_toArray, List.set_cons_zero, List.set_cons_succ]
  refine wpAnyH_ready (rs := [2]) (by kernel_rfl) (by simp) ?_
  refine AllReadyH.cons (o := ⟨_, _, _, _, _, _⟩) rfl (fun K hK => ?_) AllReadyH.nil
  go_simp
  refine (HSp.out _ ((Old.refl W0).drew)).mono ?_
  rintro e V1 ⟨rfl, o1'⟩
  have O1 := Lib.hid (((Old.refl W0).drew).trans o1')
  clear o1'
  go_wp2_with fail
  refine hK.out _ _ ?_ (fun hHeld => ?_)
  · (try dsimp only); exact HK.out _ O1.out
  clear hK K
  try simp only [Act.put, List.setIfInBounds_toArray, List.set_cons_zero, List.set_cons_succ]
  refine wpAnyH_ready (rs := [3]) (by kernel_rfl) (by simp) ?_
  refine AllReadyH.cons (o := ⟨_, _, _, _, _, _⟩) rfl (fun K hK => ?_) AllReadyH.nil
  go_simp
  refine (HN.out _).mono ?_
  rintro e V2 ⟨rfl, o2'⟩
  have O2 := Lib.hid (O1.out.trans o2')
  clear o2'
  go_wp2_with fail
  refine hK.out _ _ ?_ (fun hHeld => ?_)
  · (try dsimp only); exact HK.out _ O2.out
  clear hK K
  try simp only [Act.put, List.setIfInBounds_toArray, List.set_cons_zero, List.set_cons_succ]
  refine wpAnyH_take (i := 4) (oi := ⟨some _, _, _, _, _, _⟩) (v := ?_) rfl (by kernel_rfl) (by kernel_rfl) (by kernel_rfl) (fun _ _ _ h => h) (Or.inl ⟨by kernel_rfl, ?_⟩) (by assumption) ?_; rotate_left; (intro w hSw; (try dsimp only at hSw); go_simp; try with_reducible rfl); try simp only [Act.put, List.setIfInBounds_toArray, List.set_cons_zero, List.set_cons_succ]
  refine wpAnyH_done (by kernel_rfl) ?_ _
  have HR := Lib.hid (HO.out.trans O2.out)
  clear HK HSp HN
  go_wp2_with fail
  go_ret
  exact ⟨rfl, HR.out⟩
end Go.Proofs.Ytcepfbflgngmjaa

