/- What the search finds of whatever spectrum, room and mask is what the law finds: FitSearches holds at every input; no condition. -/
import Derived.Test.YtcepfbflgngmjaaRows
import Derived.Test.YtcepfbflgngmjaaSmaL
import Derived.Test.YtcepfbflgngmjaaSeaL
import Derived.Test.YtcepfbflgngmjaaNearL
import Derived.Deep.RegionHeld
namespace Go.Proofs.Ytcepfbflgngmjaa.fitSearches
open Go.ChangeShapes Go.WideShapes Go.ChangeAt Go.RowKit
set_option linter.unusedVariables false

set_option maxRecDepth 100000 in
set_option maxHeartbeats 8000000 in
theorem walk (f g : Nat → Int) (room : Int) (tones : Bool) (w : World) (h0 : ∀ k, 16 ≤ k → f k = 0) :
    Calls Try.prog 3 #[.agg (rowN 16 (blk f)), .agg (rowN 4 (blk g)), .int .i64 room, .bool tones] w fun e w' => e = .returned (.bool true) ∧ Old w w' := by
  have HA := Lib.hid (fun w => awake_any w)
  have Hs4 : Hid ((Try.prog.info? 24).map (·.size) = some 4) := Lib.hid (by kernel_rfl)
  have Hs16 : Hid ((Try.prog.info? 23).map (·.size) = some 16) := Lib.hid (by kernel_rfl)
  have Hs29 : Hid ((Try.prog.info? 29).map (·.size) = some 29) := Lib.hid (by kernel_rfl)
  obtain ⟨W0, hW0⟩ : ∃ W0, W0 = ((w.alloc (.cells (rowN 16 (blk f)) 23)).alloc (.cells (rowN 4 (blk g)) 24)) := ⟨_, rfl⟩
  have hb : W0.heap[w.heap.size]? = some (.cells (rowN 16 (blk f)) 23 (0, 0)) := by rw [hW0]; exact heap_alloc2_old w _ _
  have hg : W0.heap[w.heap.size + 1]? = some (.cells (rowN 4 (blk g)) 24 (0, 0)) := by rw [hW0]; exact heap_alloc2_new w _ _
  have ho : Old w W0 := by rw [hW0]; exact (Old.alloc w _).alloc' _
  have HK0 : Hid (∀ V, Old W0 V → V.heap[w.heap.size]? = some (.cells (rowN 16 (blk f)) 23 (0, 0)) ∧ V.heap[w.heap.size + 1]? = some (.cells (rowN 4 (blk g)) 24 (0, 0))) := Lib.hid fun V k => ⟨(k.block _ (lt_of_block hb)).trans hb, (k.block _ (lt_of_block hg)).trans hg⟩
  have HW0 := Lib.hid hW0
  have HO := Lib.hid ho
  clear hb hg ho hW0
  have hN := fun w => near_any f w
  by_cases hn : nearP f
  · rw [decide_eq_true hn] at hN
    have HN := Lib.hid hN
    have hf := near_fits hn h0
    have hSe := fun w => Search_any f g room tones w hf
    have hLs := fun w => LSearch_any f g room tones w hf
    have HMk := Lib.hid (fun w => Mask_any f w hf)
    have HLm := Lib.hid (fun w => LMask_any f w hf)
    obtain ⟨X, hX⟩ : ∃ X, restF2 f tones = X := ⟨_, rfl⟩
    obtain ⟨t, ht⟩ : ∃ t, tnN f tones = t := ⟨_, rfl⟩
    rw [hX, ht] at hSe hLs
    have HSe := Lib.hid hSe
    have HLs := Lib.hid hLs
    have hE := fun w => eq_four (P := Try.prog) (maskI f) (maskI f) w
    rw [eqB_true.2 fun _ _ => rfl] at hE
    obtain ⟨M, hM⟩ : ∃ M, rowN 4 (blk (maskI f)) = M := ⟨_, rfl⟩
    rw [hM] at HMk HLm hE
    clear hn hN h0 hf hSe hLs hX ht hM
    go_enter Try.func3, Try.ntmps3
    go_wp2_with (rw [← HW0.out]; with_reducible refine wpList_load_row rfl 23 _ rfl w.heap.size rfl 23 (rowN 16 (blk f)) (0, 0) _ (HK0.out _ (Old.refl _)).1 Try.underlying23 rfl (by rw [rowN_size]; exact Hs16.out) ?_)
    clear HW0
    refine (HN.out _).mono ?_
    rintro e V1 ⟨rfl, o1⟩
    have HK1 := Lib.hid (HK0.out _ o1)
    have HO1 := Lib.hid o1
    clear o1 HN
    go_wp2_with (first | (with_reducible refine wpList_load_row rfl 23 _ rfl w.heap.size rfl 23 (rowN 16 (blk f)) (0, 0) _ HK1.out.1 Try.underlying23 rfl (by rw [rowN_size]; exact Hs16.out) ?_) | (with_reducible refine wpList_load_row rfl 24 _ rfl (w.heap.size + 1) rfl 24 (rowN 4 (blk g)) (0, 0) _ HK1.out.2 Try.underlying24 rfl (by rw [rowN_size]; exact Hs4.out) ?_))
    refine (HSe.out _).mono ?_
    rintro e V2 ⟨n, p, cap, rfl, hst, t2, tc, cm, hsl, _, o2⟩
    obtain ⟨F, hF⟩ : ∃ F, tolN g (sclN X n) X = F := ⟨_, rfl⟩
    rw [hF]
    have H1 : Hid ((rowN 29 (frC F (.slice p t cap))).all (·.oneCell') = true) := Lib.hid (frC_one _ _ rfl)
    have o3 := o2.alloc' (.cells (rowN 29 (frC F (.slice p t cap))) 29)
    have HO3 := Lib.hid (HO1.out.trans o3)
    have HK3 := Lib.hid (HK0.out _ HO3.out)
    have HF3 := Lib.hid (heap_alloc_new V2 (.cells (rowN 29 (frC F (.slice p t cap))) 29))
    have HSl := Lib.hid (hsl.old (Old.alloc V2 (.cells (rowN 29 (frC F (.slice p t cap))) 29)))
    have HSt := Lib.hid hst
    have HFd := Lib.hid hF
    clear o2 o3 hsl hst HK1 HO1 HSe hF
    obtain ⟨V3, hV3⟩ : ∃ V3, V3 = V2.alloc (.cells (rowN 29 (frC F (.slice p t cap))) 29) := ⟨_, rfl⟩
    obtain ⟨fb, hfb⟩ : ∃ fb, fb = V2.heap.size := ⟨_, rfl⟩
    rw [← hV3] at HO3 HK3 HSl
    rw [← hV3, ← hfb] at HF3
    have HV3 := Lib.hid hV3
    have Hfb := Lib.hid hfb
    clear hV3 hfb
    go_wp2_with (first | (with_reducible refine wpList_store_row rfl 29 _ _ rfl V2.heap.size (rowN 29 (frC F (.slice p t cap))) rfl rfl 29 _ (heap_alloc_new _ _) (by rw [rowN_size]; exact Hs29.out) (by rw [rowN_size]; kernel_rfl) H1.out ?_; rw [World.setRow_alloc_new, ← HV3.out, ← Hfb.out]) | (with_reducible refine wpList_load_row rfl 23 _ rfl w.heap.size rfl 23 (rowN 16 (blk f)) (0, 0) _ HK3.out.1 Try.underlying23 rfl (by rw [rowN_size]; exact Hs16.out) ?_) | (with_reducible refine wpList_load_row rfl 24 _ rfl (w.heap.size + 1) rfl 24 (rowN 4 (blk g)) (0, 0) _ HK3.out.2 Try.underlying24 rfl (by rw [rowN_size]; exact Hs4.out) ?_))
    clear HV3 Hfb H1
    refine (HLs.out _).mono ?_
    rintro e V4 ⟨n', p', cap', rfl, hst', _, tc', cm', hsl', _, o4⟩
    obtain rfl : n = n' := HSt.out.one hst'
    rw [HFd.out]
    have H1 : Hid ((rowN 29 (frC F (.slice p' t cap'))).all (·.oneCell') = true) := Lib.hid (frC_one _ _ rfl)
    have o5 := o4.alloc' (.cells (rowN 29 (frC F (.slice p' t cap'))) 29)
    have HO5 := Lib.hid (HO3.out.trans o5)
    have HK5 := Lib.hid (HK0.out _ HO5.out)
    have HF5 := Lib.hid ((o5.block _ (lt_of_block HF3.out)).trans HF3.out)
    have HG5 := Lib.hid (heap_alloc_new V4 (.cells (rowN 29 (frC F (.slice p' t cap'))) 29))
    have HSl5 := Lib.hid (HSl.out.old o5)
    have HSl6 := Lib.hid (hsl'.old (Old.alloc V4 (.cells (rowN 29 (frC F (.slice p' t cap'))) 29)))
    clear o4 o5 hsl' hst' HSt HK3 HO3 HLs HF3 HSl HFd
    go_wp2_with (with_reducible refine wpList_store_row rfl 29 _ _ rfl V4.heap.size (rowN 29 (frC F (.slice p' t cap'))) rfl rfl 29 _ (heap_alloc_new _ _) (by rw [rowN_size]; exact Hs29.out) (by rw [rowN_size]; kernel_rfl) H1.out ?_; rw [World.setRow_alloc_new])
    obtain ⟨V5, hV5⟩ : ∃ V5, V5 = V4.alloc (.cells (rowN 29 (frC F (.slice p' t cap'))) 29) := ⟨_, rfl⟩
    obtain ⟨gb, hgb⟩ : ∃ gb, gb = V4.heap.size := ⟨_, rfl⟩
    rw [← hV5] at HO5 HK5 HF5 HSl5 HSl6
    rw [← hV5, ← hgb] at HG5
    rw [← hV5, ← hgb]
    have HSame : Hid (∀ V, Old V5 V → Calls Try.prog 12 #[.agg (rowN 29 (frC F (.slice p t cap))), .agg (rowN 29 (frC F (.slice p' t cap')))] V fun e w' => e = .returned (.bool true) ∧ Old V w') := Lib.hid fun V k => by
      have := Same_any F F p p' t t cap cap' (toneF f) (toneF f) V (HSl5.out.old k) (HSl6.out.old k) (by omega) (by omega)
      rw [decide_eq_true ⟨rfl, fun _ _ => rfl, fun _ _ _ => rfl⟩] at this
      exact this
    have HK : Hid (∀ V, Old V5 V → V.heap[w.heap.size]? = some (.cells (rowN 16 (blk f)) 23 (0, 0)) ∧ V.heap[fb]? = some (.cells (rowN 29 (frC F (.slice p t cap))) 29 (0, 0)) ∧ V.heap[gb]? = some (.cells (rowN 29 (frC F (.slice p' t cap'))) 29 (0, 0))) := Lib.hid fun V k => ⟨(HK0.out _ (HO5.out.trans k)).1, (k.block _ (lt_of_block HF5.out)).trans HF5.out, (k.block _ (lt_of_block HG5.out)).trans HG5.out⟩
    clear hV5 hgb H1 HK5 HF5 HG5 HSl5 HSl6 tc tc' cm cm'
    refine wp_region_held_drew (S := (fun w' => w'.heap[w.heap.size]? = some (.cells (rowN 16 (blk f)) 23 (0, 0)) ∧ w'.heap[fb]? = some (.cells (rowN 29 (frC F (.slice p t cap))) 29 (0, 0)) ∧ w'.heap[gb]? = some (.cells (rowN 29 (frC F (.slice p' t cap'))) 29 (0, 0)))) (by kernel_rfl) ?_ (fun hHeld => ?_)
    · (try dsimp only); exact HK.out _ ((Old.refl V5).drew)
    refine wpAnyH_take (i := 0) (oi := ⟨some _, _, _, _, _, _⟩) (v := .agg (rowN 16 (blk f))) rfl (by kernel_rfl) (by kernel_rfl) (by kernel_rfl) (fun _ _ _ h => h) (yieldsIf_load_row (by kernel_rfl) 23 (.tmp 4) rfl w.heap.size rfl 23 (rowN 16 (blk f)) (0, 0) _ (fun _ h => h.1) Try.underlying23 rfl (by rw [rowN_size]; exact Hs16.out)) (by assumption) ?_; try simp only [Act.put, List.setIfInBounds_toArray, List.set_cons_zero, List.set_cons_succ]
    refine wpAnyH_take (i := 2) (oi := ⟨some _, _, _, _, _, _⟩) (v := .agg (rowN 16 (blk f))) rfl (by kernel_rfl) (by kernel_rfl) (by kernel_rfl) (fun _ _ _ h => h) (yieldsIf_load_row (by kernel_rfl) 23 (.tmp 4) rfl w.heap.size rfl 23 (rowN 16 (blk f)) (0, 0) _ (fun _ h => h.1) Try.underlying23 rfl (by rw [rowN_size]; exact Hs16.out)) (by assumption) ?_; try simp only [Act.put, List.setIfInBounds_toArray, List.set_cons_zero, List.set_cons_succ]
    refine wpAnyH_ready (rs := [1]) (by kernel_rfl) (by simp) ?_
    refine AllReadyH.cons (o := ⟨_, _, _, _, _, _⟩) rfl (fun K hK => ?_) AllReadyH.nil
    go_simp
    refine (HMk.out _).mono ?_
    rintro e U1 ⟨rfl, oo⟩
    have O1 := Lib.hid (((Old.refl V5).drew).trans oo)
    clear oo
    go_wp2_with fail
    refine hK.out _ _ ?_ (fun hHeld => ?_)
    · (try dsimp only); exact HK.out _ O1.out
    clear hK K
    try simp only [Act.put, List.setIfInBounds_toArray, List.set_cons_zero, List.set_cons_succ]
    refine wpAnyH_ready (rs := [3]) (by kernel_rfl) (by simp) ?_
    refine AllReadyH.cons (o := ⟨_, _, _, _, _, _⟩) rfl (fun K hK => ?_) AllReadyH.nil
    go_simp
    refine (HLm.out _).mono ?_
    rintro e U2 ⟨rfl, oo⟩
    have O2 := Lib.hid (O1.out.trans oo)
    clear oo
    go_wp2_with fail
    refine hK.out _ _ ?_ (fun hHeld => ?_)
    · (try dsimp only); exact HK.out _ O2.out
    clear hK K
    try simp only [Act.put, List.setIfInBounds_toArray, List.set_cons_zero, List.set_cons_succ]
    refine wpAnyH_take (i := 4) (oi := ⟨some _, _, _, _, _, _⟩) (v := ?_) rfl (by kernel_rfl) (by kernel_rfl) (by kernel_rfl) (fun _ _ _ h => h) (Or.inl ⟨by kernel_rfl, ?_⟩) (by assumption) ?_; rotate_left; (intro w hSw; (try dsimp only at hSw); go_simp; try with_reducible rfl); try simp only [Act.put, List.setIfInBounds_toArray, List.set_cons_zero, List.set_cons_succ]
    refine wpAnyH_take (i := 5) (oi := ⟨some _, _, _, _, _, _⟩) (v := ?_) rfl (by kernel_rfl) (by kernel_rfl) (by kernel_rfl) (fun _ _ _ h => h) (Or.inl ⟨by kernel_rfl, ?_⟩) (by assumption) ?_; rotate_left; (intro w hSw; (try dsimp only at hSw); go_simp; try with_reducible rfl); try simp only [Act.put, List.setIfInBounds_toArray, List.set_cons_zero, List.set_cons_succ]
    refine wpAnyH_take (i := 6) (oi := ⟨some _, _, _, _, _, _⟩) (v := .agg (rowN 29 (frC F (.slice p t cap)))) rfl (by kernel_rfl) (by kernel_rfl) (by kernel_rfl) (fun _ _ _ h => h) (yieldsIf_load_row (by kernel_rfl) 29 (.tmp 9) rfl fb rfl 29 (rowN 29 (frC F (.slice p t cap))) (0, 0) _ (fun _ h => h.2.1) Try.underlying29 rfl (by rw [rowN_size]; exact Hs29.out)) (by assumption) ?_; try simp only [Act.put, List.setIfInBounds_toArray, List.set_cons_zero, List.set_cons_succ]
    refine wpAnyH_take (i := 7) (oi := ⟨some _, _, _, _, _, _⟩) (v := .agg (rowN 29 (frC F (.slice p' t cap')))) rfl (by kernel_rfl) (by kernel_rfl) (by kernel_rfl) (fun _ _ _ h => h) (yieldsIf_load_row (by kernel_rfl) 29 (.tmp 11) rfl gb rfl 29 (rowN 29 (frC F (.slice p' t cap'))) (0, 0) _ (fun _ h => h.2.2) Try.underlying29 rfl (by rw [rowN_size]; exact Hs29.out)) (by assumption) ?_; try simp only [Act.put, List.setIfInBounds_toArray, List.set_cons_zero, List.set_cons_succ]
    refine wpAnyH_ready (rs := [8]) (by kernel_rfl) (by simp) ?_
    refine AllReadyH.cons (o := ⟨_, _, _, _, _, _⟩) rfl (fun K hK => ?_) AllReadyH.nil
    go_simp
    refine (HSame.out _ O2.out).mono ?_
    rintro e U3 ⟨rfl, oo⟩
    have O3 := Lib.hid (O2.out.trans oo)
    clear oo
    go_wp2_with fail
    refine hK.out _ _ ?_ (fun hHeld => ?_)
    · (try dsimp only); exact HK.out _ O3.out
    clear hK K
    try simp only [Act.put, List.setIfInBounds_toArray, List.set_cons_zero, List.set_cons_succ]
    refine wpAnyH_take (i := 9) (oi := ⟨some _, _, _, _, _, _⟩) (v := ?_) rfl (by kernel_rfl) (by kernel_rfl) (by kernel_rfl) (fun _ _ _ h => h) (Or.inl ⟨by kernel_rfl, ?_⟩) (by assumption) ?_; rotate_left; (intro w hSw; (try dsimp only at hSw); go_simp; try with_reducible rfl); try simp only [Act.put, List.setIfInBounds_toArray, List.set_cons_zero, List.set_cons_succ]
    refine wpAnyH_take (i := 10) (oi := ⟨some _, _, _, _, _, _⟩) (v := ?_) rfl (by kernel_rfl) (by kernel_rfl) (by kernel_rfl) (fun _ _ _ h => h) (Or.inl ⟨by kernel_rfl, ?_⟩) (by assumption) ?_; rotate_left; (intro w hSw; (try dsimp only at hSw); go_simp; try with_reducible rfl); try simp only [Act.put, List.setIfInBounds_toArray, List.set_cons_zero, List.set_cons_succ]
    refine wpAnyH_take (i := 11) (oi := ⟨some _, _, _, _, _, _⟩) (v := ?_) rfl (by kernel_rfl) (by kernel_rfl) (by kernel_rfl) (fun _ _ _ h => h) (Or.inl ⟨by kernel_rfl, ?_⟩) (by assumption) ?_; rotate_left; (intro w hSw; (try dsimp only at hSw); go_simp; try with_reducible rfl); try simp only [Act.put, List.setIfInBounds_toArray, List.set_cons_zero, List.set_cons_succ]
    refine wpAnyH_take (i := 12) (oi := ⟨some _, _, _, _, _, _⟩) (v := ?_) rfl (by kernel_rfl) (by kernel_rfl) (by kernel_rfl) (fun _ _ _ h => h) (Or.inl ⟨by kernel_rfl, ?_⟩) (by assumption) ?_; rotate_left; (intro w hSw; (try dsimp only at hSw); go_simp; try with_reducible rfl); try simp only [Act.put, List.setIfInBounds_toArray, List.set_cons_zero, List.set_cons_succ]
    refine wpAnyH_take (i := 13) (oi := ⟨some _, _, _, _, _, _⟩) (v := ?_) rfl (by kernel_rfl) (by kernel_rfl) (by kernel_rfl) (fun _ _ _ h => h) (Or.inl ⟨by kernel_rfl, ?_⟩) (by assumption) ?_; rotate_left; (intro w hSw; (try dsimp only at hSw); go_simp; try with_reducible rfl); try simp only [Act.put, List.setIfInBounds_toArray, List.set_cons_zero, List.set_cons_succ]
    refine wpAnyH_take (i := 14) (oi := ⟨some _, _, _, _, _, _⟩) (v := ?_) rfl (by kernel_rfl) (by kernel_rfl) (by kernel_rfl) (fun _ _ _ h => h) (Or.inl ⟨by kernel_rfl, ?_⟩) (by assumption) ?_; rotate_left; (intro w hSw; (try dsimp only at hSw); go_simp; try with_reducible rfl); try simp only [Act.put, List.setIfInBounds_toArray, List.set_cons_zero, List.set_cons_succ]
    refine wpAnyH_take (i := 15) (oi := ⟨some _, _, _, _, _, _⟩) (v := ?_) rfl (by kernel_rfl) (by kernel_rfl) (by kernel_rfl) (fun _ _ _ h => h) (Or.inl ⟨by kernel_rfl, ?_⟩) (by assumption) ?_; rotate_left; (intro w hSw; (try dsimp only at hSw); go_simp; try with_reducible rfl); try simp only [Act.put, List.setIfInBounds_toArray, List.set_cons_zero, List.set_cons_succ]
    refine wpAnyH_ready (rs := [16]) (by kernel_rfl) (by simp) ?_
    refine AllReadyH.cons (o := ⟨_, _, _, _, _, _⟩) rfl (fun K hK => ?_) AllReadyH.nil
    go_simp
    refine (HA.out _).mono ?_
    rintro e U4 ⟨rfl, oo⟩
    have O4 := Lib.hid (O3.out.trans oo)
    clear oo
    go_wp2_with fail
    refine hK.out _ _ ?_ (fun hHeld => ?_)
    · (try dsimp only); exact HK.out _ O4.out
    clear hK K
    try simp only [Act.put, List.setIfInBounds_toArray, List.set_cons_zero, List.set_cons_succ]
    refine wpAnyH_take (i := 17) (oi := ⟨some _, _, _, _, _, _⟩) (v := ?_) rfl (by kernel_rfl) (by kernel_rfl) (by kernel_rfl) (fun _ _ _ h => h) (Or.inl ⟨by kernel_rfl, ?_⟩) (by assumption) ?_; rotate_left; (intro w hSw; (try dsimp only at hSw); go_simp; try with_reducible rfl); try simp only [Act.put, List.setIfInBounds_toArray, List.set_cons_zero, List.set_cons_succ]
    refine wpAnyH_take (i := 18) (oi := ⟨some _, _, _, _, _, _⟩) (v := ?_) rfl (by kernel_rfl) (by kernel_rfl) (by kernel_rfl) (fun _ _ _ h => h) (Or.inl ⟨by kernel_rfl, ?_⟩) (by assumption) ?_; rotate_left; (intro w hSw; (try dsimp only at hSw); go_simp; try with_reducible rfl); try simp only [Act.put, List.setIfInBounds_toArray, List.set_cons_zero, List.set_cons_succ]
    refine wpAnyH_done (by kernel_rfl) ?_ _
    have HR := Lib.hid (HO.out.trans (HO5.out.trans O4.out))
    clear HK HK0 HMk HLm HSame HA
    go_wp2_with fail
    go_ret
    exact ⟨rfl, HR.out⟩
  · rw [decide_eq_false hn] at hN
    have HN := Lib.hid hN
    clear hn hN h0
    go_enter Try.func3, Try.ntmps3
    go_wp2_with (rw [← HW0.out]; with_reducible refine wpList_load_row rfl 23 _ rfl w.heap.size rfl 23 (rowN 16 (blk f)) (0, 0) _ (HK0.out _ (Old.refl _)).1 Try.underlying23 rfl (by rw [rowN_size]; exact Hs16.out) ?_)
    refine (HN.out _).mono ?_
    rintro e V ⟨rfl, ov⟩
    have HOv := Lib.hid (HO.out.trans ov)
    clear ov HK0 HW0
    go_wp2_with fail
    refine (HA.out _).mono ?_
    rintro e V1 ⟨rfl, o1⟩
    have HO1 := Lib.hid (HOv.out.trans o1)
    clear o1
    go_wp2_with fail
    go_ret
    exact ⟨rfl, HO1.out⟩


theorem own : ownKnob Try.prog.godebug = none := by kernel_rfl
theorem laidOut : laidOutB Try.prog = true := by kernel_rfl

set_option maxRecDepth 100000 in
theorem lifted (os : Os) (started : os.Started) (H : Type) (enc : TypeId × Value → H) :
    ReturnsInHanded {} Try.checked os 3 .any (Rows.fitSearchesSpec.pre6 enc Try.prog Try.f3 Rows.fitSearchesRow.domain false) (Rows.fitSearchesSpec.post enc Try.prog Try.f3 false true false false) := by
  refine returnsInHanded_of_change (C := Try.checked) own started (by kernel_rfl) Try.func3
    (ChangeSpec.witness6 (enc := enc) (C := Try.checked) false ⟨#[], #[.agg #[.int .i64 0, .int .i64 0, .int .i64 0, .int .i64 0, .int .i64 0, .int .i64 0, .int .i64 0, .int .i64 0, .int .i64 0, .int .i64 0, .int .i64 0, .int .i64 0, .int .i64 0, .int .i64 0, .int .i64 0, .int .i64 0], .agg #[.int .i64 0, .int .i64 0, .int .i64 0, .int .i64 0], .int .i64 0, .bool false], []⟩ 8 (by kernel_rfl) (by kernel_rfl) (by kernel_rfl) (by kernel_rfl)) ?_
  intro W base args ds gs before hval0 hW hcnd _
  have hval : ∀ (j : Nat) t v, Try.f3.params[j]? = some t → args[j]? = some v → Value.okWide Try.prog W .any base t v := hval0
  have hW' := hW
  have hlt : ∀ p ∈ before, p.block < W.heap.size := fun p hp => hW'.lt p hp
  obtain ⟨p, q, hA0, hV, rfl, hfz, hnd⟩ := hW
  have hA : DataW.TrodAll enc Try.prog W 0 (fun _ => true) true Try.f3.params.toList args.toList ds p := hA0
  rw [Try.params3] at hA hval
  obtain ⟨v0, vs0, d0, ds0, p0, q0, hargs, rfl, rfl, h0, r0⟩ := trodAll_cons hA
  obtain ⟨v1, vs1, d1, ds1, p1, q1, rfl, rfl, rfl, h1, r1⟩ := trodAll_cons r0
  obtain ⟨v2, vs2, d2, ds2, p2, q2, rfl, rfl, rfl, h2, r2⟩ := trodAll_cons r1
  obtain ⟨v3, vs3, d3, ds3, p3, q3, rfl, rfl, rfl, h3, r3⟩ := trodAll_cons r2
  obtain ⟨rfl, rfl, rfl⟩ := trodAll_nil r3
  obtain rfl : args = #[v0, v1, v2, v3] := by cases args; simp_all
  obtain ⟨rfl, rfl⟩ := trodVars_none hV
  obtain ⟨f0, rfl, hf0, hz0⟩ := open_ints64 Try.underlying23 Try.underlying2 (by kernel_rfl) (by kernel_rfl) (hval 0 23 v0 rfl rfl) h0
  obtain ⟨f1, rfl, hf1, hz1⟩ := open_ints64 Try.underlying24 Try.underlying3 (by kernel_rfl) (by kernel_rfl) (hval 1 24 v1 rfl rfl) h1
  obtain ⟨a2, rfl, _, _, w2⟩ := open_int Try.underlying3 (hval 2 3 v2 rfl rfl) h2
  obtain ⟨b3, rfl, _, _⟩ := open_bool Try.underlying4 (hval 3 4 v3 rfl rfl) h3
  refine (walk f0 f1 a2 b3 W hz0).mono fun e W' ⟨he, hg⟩ => ?_
  subst he
  exact ⟨_, rfl, law_done laidOut Try.underlying4 rfl (by kernel_rfl) rfl hW' rfl hg⟩

theorem over : Rows.fitSearchesRow.holds Try.pinned (OpenSpec.ofChange Rows.fitSearchesSpec) :=
  OpenClaim.holds_of_wide 3 Try.f3 rfl rfl rfl rfl rfl rfl rfl ⟨rfl, rfl, rfl, rfl, rfl⟩ rfl rfl rfl rfl rfl (by kernel_rfl) Try.func3 (by kernel_rfl)
    (of_decide_eq_true (by kernel_rfl)) (by unfold Func.isWrapper; first | (rw [if_pos (by decide +kernel)]; kernel_rfl) | (rw [if_neg (by decide +kernel)]; exact ⟨rfl, rfl⟩))
    (fun os started H enc _ => lifted os started H enc)

theorem proved : Rows.FitSearchesSaid :=
  over
end Go.Proofs.Ytcepfbflgngmjaa.fitSearches
