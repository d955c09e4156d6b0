/- Package fit's contracts, fifth part: Frame. -/
import Derived.Test.YtcepfbflgngmjaaFitE
namespace Go.Proofs.Ytcepfbflgngmjaa
set_option linter.unusedVariables false
set_option maxRecDepth 100000
set_option linter.unusedSimpArgs false
open Go.RowKit Go.ChangeShapes Go.WideShapes

theorem frame_no (f g : Nat → Int) (size : Int) (w : World) (hf : Fits64 f) (er : Int)
    (h : (¬ (24 ≤ size ∧ size ≤ 96) ∧ er = 12) ∨ ((24 ≤ size ∧ size ≤ 96) ∧ ¬ (smallP f ∧ rightP g) ∧ er = 5)) :
    Calls Try.prog 13 #[.agg (rowN 16 (blk f)), .agg (rowN 4 (blk g)), .int .i64 size] w fun e w' => e = .returned (.tuple #[.agg (rowN 29 (frC zeroS (.slice none 0 0))), .int .i64 er]) ∧ Old w w' := by
  have Hs4 : Hid ((Try.prog.info? 24).map (·.size) = some 4) := Lib.hid (by kernel_rfl)
  have Hs16 : Hid ((Try.prog.info? 23).map (·.size) = some 16) := Lib.hid (by kernel_rfl)
  have Hs29 : Hid ((Try.prog.info? 29).map (·.size) = some 29) := Lib.hid (by kernel_rfl)
  obtain ⟨z, hz⟩ : ∃ z : Array Value, z = rowN 29 (frC zeroS (.slice none 0 0)) := ⟨_, rfl⟩
  have hzs : z.size = 29 := by rw [hz, rowN_size]
  have hz1 : z.all (·.oneCell') = true := by rw [hz]; exact frC_one _ _ rfl
  rw [← hz]
  rw [show rowN 29 (frC zeroS (.slice none 0 0)) = _ from frC_zero] at hz
  obtain ⟨W0, hW0⟩ : ∃ W0, W0 = (((w.alloc (.cells (rowN 16 (blk f)) 23)).alloc (.cells (rowN 4 (blk g)) 24)).alloc (.cells z 29)) := ⟨_, rfl⟩
  have h0 : SeSt w z f g W0 := by rw [hW0]; exact SeSt.start w z f g
  have H0 := Lib.hid h0
  have Hz := Lib.hid hz
  have Hz1 := Lib.hid hz1
  have Hi : Hid ((Try.prog.info? 29).map (·.size) = some z.size) := by unfold Hid; rw [hzs]; exact Hs29.out
  have HW0 := Lib.hid hW0
  clear h0 hz hzs hz1 hW0
  have hS := fun w => isSize_any size w
  rcases h with ⟨h, rfl⟩ | ⟨h, h2, rfl⟩
  · rw [decide_eq_false h] at hS
    have HS := Lib.hid hS
    have hrr := row_ret H0.out.r H0.out.old (by omega) z
    have HRR := Lib.hid hrr
    clear hS h hrr
    go_enter Try.func13, Try.ntmps13
    go_wp2_with fail
    rw [← Hz.out, ← HW0.out]
    clear HW0
    refine (HS.out _).mono ?_
    rintro e w1 ⟨rfl, rfl⟩
    go_wp2_with (rw [← Hz.out]; with_reducible refine wpList_store_row rfl 29 _ _ rfl (w.heap.size + 1 + 1) z rfl rfl 29 _ H0.out.r Hi.out rfl Hz1.out ?_)
    exact bodyPost_ret (results_row_tmp2 rfl _ _ (w.heap.size + 1 + 1) 29 z (0, 0) _ rfl HRR.out.1 Try.underlying29 rfl Hi.out) rfl ⟨rfl, HRR.out.2⟩
  · rw [decide_eq_true h] at hS
    have HS := Lib.hid hS
    have hT := fun w => isTold_any f g w hf
    rw [decide_eq_false h2] at hT
    have HT := Lib.hid hT
    clear hS h h2 hT hf
    go_enter Try.func13, Try.ntmps13
    go_wp2_with fail
    rw [← Hz.out, ← HW0.out]
    clear HW0
    refine (HS.out _).mono ?_
    rintro e w1 ⟨rfl, rfl⟩
    go_wp2_with (first | (with_reducible refine wpList_load_row rfl 23 _ rfl w.heap.size rfl 23 (rowN 16 (blk f)) (0, 0) _ H0.out.b Try.underlying23 rfl (by rw [rowN_size]; exact Hs16.out) ?_) | (with_reducible refine wpList_load_row rfl 24 _ rfl (w.heap.size + 1) rfl 24 (rowN 4 (blk g)) (0, 0) _ H0.out.g Try.underlying24 rfl (by rw [rowN_size]; exact Hs4.out) ?_))
    refine (HT.out _).mono ?_
    rintro e w1 ⟨rfl, o1⟩
    have h1 := H0.out.keep o1
    have H1 := Lib.hid h1
    have hrr := row_ret h1.r h1.old (by omega) z
    have HRR := Lib.hid hrr
    clear o1 h1 hrr H0
    go_wp2_with (rw [← Hz.out]; with_reducible refine wpList_store_row rfl 29 _ _ rfl (w.heap.size + 1 + 1) z rfl rfl 29 _ H1.out.r Hi.out rfl Hz1.out ?_)
    exact bodyPost_ret (results_row_tmp2 rfl _ _ (w.heap.size + 1 + 1) 29 z (0, 0) _ rfl HRR.out.1 Try.underlying29 rfl Hi.out) rfl ⟨rfl, HRR.out.2⟩
set_option maxHeartbeats 1000000 in
theorem frame_exact (f g : Nat → Int) (size : Int) (w : World) (hf : Fits64 f) (h : 55 ≤ size ∧ size ≤ 96) (h2 : smallP f ∧ rightP g) :
    Calls Try.prog 13 #[.agg (rowN 16 (blk f)), .agg (rowN 4 (blk g)), .int .i64 size] w fun e w' => e = .returned (.tuple #[.agg (rowN 29 (frC (tolN zeroS zeroS f) (.slice none 0 0))), .int .i64 0]) ∧ Old w w' := by
  have Hs4 : Hid ((Try.prog.info? 24).map (·.size) = some 4) := Lib.hid (by kernel_rfl)
  have Hs16 : Hid ((Try.prog.info? 23).map (·.size) = some 16) := Lib.hid (by kernel_rfl)
  have Hs29 : Hid ((Try.prog.info? 29).map (·.size) = some 29) := Lib.hid (by kernel_rfl)
  obtain ⟨z, hz⟩ : ∃ z : Array Value, z = rowN 29 (frC (fun _ => 0) (.slice none 0 0)) := ⟨_, rfl⟩
  have hzs : z.size = 29 := by rw [hz, rowN_size]
  rw [frC_zero] at hz
  obtain ⟨W0, hW0⟩ : ∃ W0, W0 = (((w.alloc (.cells (rowN 16 (blk f)) 23)).alloc (.cells (rowN 4 (blk g)) 24)).alloc (.cells z 29)) := ⟨_, rfl⟩
  have h0 : SeSt w z f g W0 := by rw [hW0]; exact SeSt.start w z f g
  have H0 := Lib.hid h0
  have Hz := Lib.hid hz
  have Hzs := Lib.hid hzs
  have HW0 := Lib.hid hW0
  clear h0 hz hzs hW0
  have hS := fun w => isSize_any size w
  rw [decide_eq_true ⟨by omega, h.2⟩] at hS
  have HS := Lib.hid hS
  have hT := fun w => isTold_any f g w hf
  rw [decide_eq_true h2] at hT
  have HT := Lib.hid hT
  have HE := Lib.hid (fun w => Exact_any f w hf)
  obtain ⟨h55, h96⟩ := h
  clear hS h2 hT hf
  generalize tolN zeroS zeroS f = F at *
  have H1 : Hid ((rowN 29 (frC F (.slice none 0 0))).all (·.oneCell') = true) := Lib.hid (frC_one _ _ rfl)
  go_enter Try.func13, Try.ntmps13
  go_wp2_with fail
  rw [← Hz.out, ← HW0.out]
  clear HW0
  refine (HS.out _).mono ?_
  rintro e w1 ⟨rfl, rfl⟩
  go_wp2_with (first | (with_reducible refine wpList_load_row rfl 23 _ rfl w.heap.size rfl 23 (rowN 16 (blk f)) (0, 0) _ H0.out.b Try.underlying23 rfl (by rw [rowN_size]; exact Hs16.out) ?_) | (with_reducible refine wpList_load_row rfl 24 _ rfl (w.heap.size + 1) rfl 24 (rowN 4 (blk g)) (0, 0) _ H0.out.g Try.underlying24 rfl (by rw [rowN_size]; exact Hs4.out) ?_))
  refine (HT.out _).mono ?_
  rintro e w1 ⟨rfl, o1⟩
  have HA := Lib.hid (H0.out.keep o1)
  clear o1 H0
  go_wp2_with (with_reducible refine wpList_load_row rfl 23 _ rfl w.heap.size rfl 23 (rowN 16 (blk f)) (0, 0) _ HA.out.b Try.underlying23 rfl (by rw [rowN_size]; exact Hs16.out) ?_)
  refine (HE.out _).mono ?_
  rintro e w2 ⟨rfl, o2⟩
  have hb := HA.out.keep o2
  have HB := Lib.hid hb
  have hrr := row_ret hb.r hb.old (by omega) (rowN 29 (frC F (.slice none 0 0)))
  have HRR := Lib.hid hrr
  clear o2 hb hrr HA
  go_wp2_with (with_reducible refine wpList_store_row rfl 29 _ _ rfl (w.heap.size + 1 + 1) (rowN 29 (frC F (.slice none 0 0))) rfl rfl 29 _ HB.out.r (by rw [rowN_size]; exact Hs29.out) (by rw [rowN_size]; exact Hzs.out) H1.out ?_)
  exact bodyPost_ret (results_row_tmp2 rfl _ _ (w.heap.size + 1 + 1) 29 (rowN 29 (frC F (.slice none 0 0))) (0, 0) _ rfl HRR.out.1 Try.underlying29 rfl (by rw [rowN_size]; exact Hs29.out)) rfl ⟨rfl, HRR.out.2⟩
set_option maxHeartbeats 2000000 in
theorem frame_search (f g : Nat → Int) (size : Int) (w : World) (hf : Fits64 f) (h : 24 ≤ size ∧ size < 55) (h2 : smallP f ∧ rightP g) :
    Calls Try.prog 13 #[.agg (rowN 16 (blk f)), .agg (rowN 4 (blk g)), .int .i64 size] w fun e w' => ∃ n p cap, e = .returned (.tuple #[.agg (rowN 29 (frC (tolN g (sclN (restF2 f true) n) (restF2 f true)) (.slice p (tnN f true) cap))), .int .i64 0]) ∧ StopAt (restF2 f true) (tnN f true) (8 * size) n ∧ tnN f true ≤ 2 ∧ tnN f true ≤ cap ∧ cap ≤ maxLen ∧ SlF 2 w' p (tnN f true) (toneF f) ∧ Old w w' := by
  have Hs4 : Hid ((Try.prog.info? 24).map (·.size) = some 4) := Lib.hid (by kernel_rfl)
  have Hs16 : Hid ((Try.prog.info? 23).map (·.size) = some 16) := Lib.hid (by kernel_rfl)
  have Hs29 : Hid ((Try.prog.info? 29).map (·.size) = some 29) := Lib.hid (by kernel_rfl)
  obtain ⟨z, hz⟩ : ∃ z : Array Value, z = rowN 29 (frC (fun _ => 0) (.slice none 0 0)) := ⟨_, rfl⟩
  have hzs : z.size = 29 := by rw [hz, rowN_size]
  rw [frC_zero] at hz
  obtain ⟨W0, hW0⟩ : ∃ W0, W0 = (((w.alloc (.cells (rowN 16 (blk f)) 23)).alloc (.cells (rowN 4 (blk g)) 24)).alloc (.cells z 29)) := ⟨_, rfl⟩
  have h0 : SeSt w z f g W0 := by rw [hW0]; exact SeSt.start w z f g
  have H0 := Lib.hid h0
  have Hz := Lib.hid hz
  have Hzs := Lib.hid hzs
  have HW0 := Lib.hid hW0
  clear h0 hz hzs hW0
  have hS := fun w => isSize_any size w
  rw [decide_eq_true ⟨h.1, by omega⟩] at hS
  have HS := Lib.hid hS
  have hT := fun w => isTold_any f g w hf
  rw [decide_eq_true h2] at hT
  have HT := Lib.hid hT
  have hSe := fun w => Search_any f g (8 * size) true w hf
  obtain ⟨h24, h55⟩ := h
  obtain ⟨room, hroom⟩ : ∃ room, 8 * size = room := ⟨_, rfl⟩
  rw [hroom] at hSe ⊢
  obtain ⟨X, hX⟩ : ∃ X, restF2 f true = X := ⟨_, rfl⟩
  obtain ⟨t, ht⟩ : ∃ t, tnN f true = t := ⟨_, rfl⟩
  rw [hX, ht] at hSe ⊢
  have HSe := Lib.hid hSe
  have Hroom := Lib.hid hroom
  clear hS h2 hT hf hSe hX ht hroom
  go_enter Try.func13, Try.ntmps13
  go_wp2_with fail
  rw [← Hz.out, ← HW0.out]
  clear HW0
  refine (HS.out _).mono ?_
  rintro e w1 ⟨rfl, rfl⟩
  go_wp2_with (first | (with_reducible refine wpList_load_row rfl 23 _ rfl w.heap.size rfl 23 (rowN 16 (blk f)) (0, 0) _ H0.out.b Try.underlying23 rfl (by rw [rowN_size]; exact Hs16.out) ?_) | (with_reducible refine wpList_load_row rfl 24 _ rfl (w.heap.size + 1) rfl 24 (rowN 4 (blk g)) (0, 0) _ H0.out.g Try.underlying24 rfl (by rw [rowN_size]; exact Hs4.out) ?_))
  refine (HT.out _).mono ?_
  rintro e w1 ⟨rfl, o1⟩
  have HA := Lib.hid (H0.out.keep o1)
  clear o1 H0
  go_wp2_with (first | (with_reducible refine wpList_load_row rfl 23 _ rfl w.heap.size rfl 23 (rowN 16 (blk f)) (0, 0) _ HA.out.b Try.underlying23 rfl (by rw [rowN_size]; exact Hs16.out) ?_) | (with_reducible refine wpList_load_row rfl 24 _ rfl (w.heap.size + 1) rfl 24 (rowN 4 (blk g)) (0, 0) _ HA.out.g Try.underlying24 rfl (by rw [rowN_size]; exact Hs4.out) ?_))
  rw [Hroom.out]
  refine (HSe.out _).mono ?_
  rintro e w2 ⟨n, p, cap, rfl, hst, t2, tc, cm, hsl, hq, o2⟩
  obtain ⟨F, hF⟩ : ∃ F, tolN g (sclN X n) X = F := ⟨_, rfl⟩
  rw [hF]
  have H1 : Hid ((rowN 29 (frC F (.slice p t cap))).all (·.oneCell') = true) := Lib.hid (frC_one _ _ rfl)
  have o3 := o2.alloc' (.cells (rowN 29 (frC F (.slice p t cap))) 29)
  have hb := HA.out.keep o3
  have hfr := heap_alloc_new w2 (.cells (rowN 29 (frC F (.slice p t cap))) 29)
  have HB := Lib.hid hb
  have HFr := Lib.hid hfr
  have hrr := row_ret hb.r hb.old (by omega) (rowN 29 (frC F (.slice p t cap)))
  have HRR := Lib.hid hrr
  have hsl3 := hsl.old (Old.alloc w2 (.cells (rowN 29 (frC F (.slice p t cap))) 29))
  have HRest : Hid (StopAt X t room n ∧ t ≤ 2 ∧ t ≤ cap ∧ cap ≤ maxLen ∧ SlF 2 ((w2.alloc (.cells (rowN 29 (frC F (.slice p t cap))) 29)).setRow (w.heap.size + 1 + 1) (rowN 29 (frC F (.slice p t cap)))) p t (toneF f)) := by
    refine Lib.hid ⟨hst, t2, tc, cm, fun h0 => ?_⟩
    obtain ⟨gg, oo, e1, e2, e3⟩ := hsl3 h0
    have hne : gg ≠ w.heap.size + 1 + 1 := by
      have h5 := hq gg (by rw [e1]; rfl)
      have h6 := lt_of_block HA.out.r
      omega
    exact ⟨gg, oo, e1, Nat.lt_of_lt_of_le e2 (by simp), fun j hj => (World.cell?_of_block (setRow_other _ _ _ _ hne)).trans (e3 j hj)⟩
  have HF := Lib.hid hF
  clear o2 o3 hb hfr hrr HA hst t2 tc cm hsl hsl3 hF hq
  go_wp2_with (first | (with_reducible refine wpList_store_row rfl 29 _ _ rfl w2.heap.size (rowN 29 (frC F (.slice p t cap))) rfl rfl 29 _ (heap_alloc_new _ _) (by rw [rowN_size]; exact Hs29.out) (by rw [rowN_size]; kernel_rfl) H1.out ?_; rw [World.setRow_alloc_new]) | (with_reducible refine wpList_load_row rfl 29 _ rfl w2.heap.size rfl 29 (rowN 29 (frC F (.slice p t cap))) (0, 0) _ HFr.out Try.underlying29 rfl (by rw [rowN_size]; exact Hs29.out) ?_) | (with_reducible refine wpList_store_row rfl 29 _ _ rfl (w.heap.size + 1 + 1) (rowN 29 (frC F (.slice p t cap))) rfl rfl 29 _ HB.out.r (by rw [rowN_size]; exact Hs29.out) (by rw [rowN_size]; exact Hzs.out) H1.out ?_))
  exact bodyPost_ret (results_row_tmp2 rfl _ _ (w.heap.size + 1 + 1) 29 (rowN 29 (frC F (.slice p t cap))) (0, 0) _ rfl HRR.out.1 Try.underlying29 rfl (by rw [rowN_size]; exact Hs29.out)) rfl ⟨n, p, cap, by rw [HF.out]; rfl, HRest.out.1, HRest.out.2.1, HRest.out.2.2.1, HRest.out.2.2.2.1, HRest.out.2.2.2.2, HRR.out.2⟩
end Go.Proofs.Ytcepfbflgngmjaa
