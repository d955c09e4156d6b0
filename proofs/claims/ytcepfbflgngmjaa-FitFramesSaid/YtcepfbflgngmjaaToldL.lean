/- What the laws of stage 12 call: told. (by wip/tools/toldl.py, exp.py) -/
import Derived.Test.YtcepfbflgngmjaaFitD
namespace Go.Proofs.Ytcepfbflgngmjaa
set_option linter.unusedVariables false
set_option maxRecDepth 100000
set_option linter.unusedSimpArgs false
open Go.RowKit Go.ChangeShapes Go.WideShapes

/-- The boxes of a spectrum, gains, scales, and a result. -/
structure LtSt (w : World) (z : Array Value) (f g s : Nat → Int) (W : World) : Prop where
  b : W.heap[w.heap.size]? = some (.cells (rowN 16 (blk f)) 23 (0, 0))
  g : W.heap[w.heap.size + 1]? = some (.cells (rowN 4 (blk g)) 24 (0, 0))
  s : W.heap[w.heap.size + 1 + 1]? = some (.cells (rowN 4 (blk s)) 24 (0, 0))
  r : W.heap[w.heap.size + 1 + 1 + 1]? = some (.cells z 29 (0, 0))
  old : Old w W
namespace LtSt
variable {w W W' : World} {z : Array Value} {f g s : Nat → Int}
theorem keep (h : LtSt w z f g s W) (k : Old W W') : LtSt w z f g s W' := ⟨(k.block _ (lt_of_block h.b)).trans h.b, (k.block _ (lt_of_block h.g)).trans h.g, (k.block _ (lt_of_block h.s)).trans h.s, (k.block _ (lt_of_block h.r)).trans h.r, h.old.trans k⟩
theorem start (w : World) (z : Array Value) (f g s : Nat → Int) : LtSt w z f g s ((((w.alloc (.cells (rowN 16 (blk f)) 23)).alloc (.cells (rowN 4 (blk g)) 24)).alloc (.cells (rowN 4 (blk s)) 24)).alloc (.cells z 29)) := by
  have o1 := Old.alloc w (.cells (rowN 16 (blk f)) 23)
  have n1 := heap_alloc_new w (.cells (rowN 16 (blk f)) 23)
  obtain ⟨w1, h1⟩ : ∃ w1, w1 = w.alloc (.cells (rowN 16 (blk f)) 23) := ⟨_, rfl⟩
  have s1 : w1.heap.size = w.heap.size + 1 := by rw [h1]; simp
  have n2 := heap_alloc_new w1 (.cells (rowN 4 (blk g)) 24)
  obtain ⟨w2, h2⟩ : ∃ w2, w2 = w1.alloc (.cells (rowN 4 (blk g)) 24) := ⟨_, rfl⟩
  have s2 : w2.heap.size = w.heap.size + 1 + 1 := by rw [h2]; simp [s1]
  have n3 := heap_alloc_new w2 (.cells (rowN 4 (blk s)) 24)
  obtain ⟨w3, h3⟩ : ∃ w3, w3 = w2.alloc (.cells (rowN 4 (blk s)) 24) := ⟨_, rfl⟩
  have s3 : w3.heap.size = w.heap.size + 1 + 1 + 1 := by rw [h3]; simp [s2]
  have n4 := heap_alloc_new w3 (.cells z 29)
  have q1 : Old w1 w2 := by rw [h2]; exact Old.alloc _ _
  have q2 : Old w2 w3 := by rw [h3]; exact Old.alloc _ _
  have q3 := Old.alloc w3 (.cells z 29)
  rw [← h1] at n1 o1
  rw [← h2] at n2
  rw [← h3] at n3
  rw [← h1, ← h2, ← h3]
  rw [s1] at n2
  rw [s2] at n3
  rw [s3] at n4
  exact ⟨(((q1.trans q2).trans q3).block _ (by rw [s1]; omega)).trans n1, ((q2.trans q3).block _ (by rw [s2]; omega)).trans n2, (q3.block _ (by rw [s3]; omega)).trans n3, n4, o1.trans ((q1.trans q2).trans q3)⟩
end LtSt
set_option maxHeartbeats 8000000 in
theorem LTold_any (f g s : Nat → Int) (p : Option Addr) (n cap : Nat) (T : Nat → Int) (w : World) (hf : Fits64 f) (hT : SlF 2 w p n T) (hn : n ≤ 9223372036854775807) :
    Calls Try.prog 16 #[.agg (rowN 16 (blk f)), .agg (rowN 4 (blk g)), .agg (rowN 4 (blk s)), .slice p n cap] w fun e w' => e = .returned (.agg (rowN 29 (frC (tolN g s (addTo (-1) f T n)) (.slice p n cap)))) ∧ Old w w' := by
  have Hs4 : Hid ((Try.prog.info? 24).map (·.size) = some 4) := Lib.hid (by kernel_rfl)
  have Hs16 : Hid ((Try.prog.info? 23).map (·.size) = some 16) := Lib.hid (by kernel_rfl)
  have Hs29 : Hid ((Try.prog.info? 29).map (·.size) = some 29) := Lib.hid (by kernel_rfl)
  obtain ⟨z, hz⟩ : ∃ z : Array Value, z = rowN 29 (frC (fun _ => 0) (.slice none 0 0)) := ⟨_, rfl⟩
  have hzs : z.size = 29 := by rw [hz, rowN_size]
  rw [frC_zero] at hz
  obtain ⟨W0, hW0⟩ : ∃ W0, W0 = ((((w.alloc (.cells (rowN 16 (blk f)) 23)).alloc (.cells (rowN 4 (blk g)) 24)).alloc (.cells (rowN 4 (blk s)) 24)).alloc (.cells z 29)) := ⟨_, rfl⟩
  have h0 : LtSt w z f g s W0 := by rw [hW0]; exact LtSt.start w z f g s
  have hX := addTo_fits (-1) T hf n
  have HOut : Hid (∀ V, Old W0 V → Calls Try.prog 24 #[.agg (rowN 16 (blk f)), .slice p n cap] V fun e w' => e = .returned (.agg (rowN 16 (blk (addTo (-1) f T n)))) ∧ Old V w') := Lib.hid fun V hV => Out_any f p n cap T V (hT.old (h0.old.trans hV)) hn
  obtain ⟨X, hXd⟩ : ∃ X, addTo (-1) f T n = X := ⟨_, rfl⟩
  rw [hXd] at hX HOut ⊢
  have HSt : Hid (∀ V, Old W0 V → Calls Try.prog 33 #[.agg (rowN 16 (blk X)), .agg (rowN 4 (blk s))] V fun e w' => e = .returned (.agg (rowN 16 (blk (toldR stepI X s)))) ∧ Old V w') := Lib.hid fun V _ => Steps_any X s V hX
  have HQf := Lib.hid (told_fits s hX)
  unfold tolN
  obtain ⟨q, hq⟩ : ∃ q, toldR stepI X s = q := ⟨_, rfl⟩
  rw [hq] at HSt HQf ⊢
  obtain ⟨F, hF⟩ : ∃ F, frN g s (wideF q) q = F := ⟨_, rfl⟩
  have hbd := frame_build5 g s (wideF q) q p n cap
  rw [hF] at hbd ⊢
  have HBd := Lib.hid hbd
  have HWd := Lib.hid (fun w => Widths_any q w HQf.out)
  have H0 := Lib.hid h0
  have Hz := Lib.hid hz
  have Hzs := Lib.hid hzs
  have HW0 := Lib.hid hW0
  have H1 : Hid ((rowN 16 (blk q)).all (·.oneCell') = true) := Lib.hid (blk_one _ _)
  have HK : Hid (∀ W, Old W0 W → (W.heap[w.heap.size]? = some (.cells (rowN 16 (blk f)) 23 (0, 0)) ∧ W.heap[w.heap.size + 1 + 1]? = some (.cells (rowN 4 (blk s)) 24 (0, 0)))) := Lib.hid fun W k => ⟨(H0.out.keep k).b, (H0.out.keep k).s⟩
  clear h0 hX hXd hq hF hbd hz hzs hW0 hT hf
  go_enter Try.func16, Try.ntmps16
  go_upto_region 1 with (fail)
  rw [← Hz.out, ← HW0.out]
  clear Hz HW0
  go_cut [9] (fun v wx => ∃ qb, v = .pointer (some ⟨qb, 0, none⟩) ∧ wx.heap[qb]? = some (.cells (rowN 16 (blk q)) 23 (0, 0)) ∧ Old W0 wx)
  case first =>
    refine wp_region_held_drew (S := (fun w' => w'.heap[w.heap.size]? = some (.cells (rowN 16 (blk f)) 23 (0, 0)) ∧ w'.heap[w.heap.size + 1 + 1]? = some (.cells (rowN 4 (blk s)) 24 (0, 0)))) (by kernel_rfl) ?_ (fun hHeld => ?_)
    · (try dsimp only); exact HK.out _ ((Old.refl W0).drew)
    have O0 : Hid (Old W0 W0.drew) := Lib.hid ((Old.refl W0).drew)
    refine wpAnyH_take (i := 0) (oi := ⟨some _, _, _, _, _, _⟩) (v := .agg (rowN 16 (blk f))) rfl (by kernel_rfl) (by kernel_rfl) (by kernel_rfl) (fun _ _ _ h => h) (yieldsIf_load_row (by kernel_rfl) 23 (.tmp 4) rfl w.heap.size rfl 23 (rowN 16 (blk f)) (0, 0) _ (fun _ h => h.1) Try.underlying23 rfl (by rw [rowN_size]; exact Hs16.out)) (by assumption) ?_; try simp only [Act.put, List.setIfInBounds_toArray, List.set_cons_zero, List.set_cons_succ]
    refine wpAnyH_take (i := 1) (oi := ⟨some _, _, _, _, _, _⟩) (v := ?_) rfl (by kernel_rfl) (by kernel_rfl) (by kernel_rfl) (fun _ _ _ h => h) (Or.inl ⟨by kernel_rfl, ?_⟩) (by assumption) ?_; rotate_left; (intro w hSw; (try dsimp only at hSw); go_simp; try with_reducible rfl); try simp only [Act.put, List.setIfInBounds_toArray, List.set_cons_zero, List.set_cons_succ]
    refine wpAnyH_take (i := 3) (oi := ⟨some _, _, _, _, _, _⟩) (v := .agg (rowN 4 (blk s))) rfl (by kernel_rfl) (by kernel_rfl) (by kernel_rfl) (fun _ _ _ h => h) (yieldsIf_load_row (by kernel_rfl) 24 (.tmp 6) rfl (w.heap.size + 1 + 1) rfl 24 (rowN 4 (blk s)) (0, 0) _ (fun _ h => h.2) Try.underlying24 rfl (by rw [rowN_size]; exact Hs4.out)) (by assumption) ?_; try simp only [Act.put, List.setIfInBounds_toArray, List.set_cons_zero, List.set_cons_succ]
    refine wpAnyH_ready (rs := [2, 5]) (by kernel_rfl) (by simp) ?_
    refine AllReadyH.cons (o := ⟨_, _, _, _, _, _⟩) rfl (fun K hK => ?_) (AllReadyH.cons (o := ⟨_, _, _, _, _, _⟩) rfl (fun K hK => ?_) AllReadyH.nil)
    · skip
      go_simp
      refine (HOut.out _ O0.out).mono ?_
      rintro e V1 ⟨rfl, oo⟩
      have O1 := Lib.hid (O0.out.trans oo)
      clear oo
      go_wp2_with fail
      refine hK.out _ _ ?_ (fun hHeld => ?_)
      · (try dsimp only); exact HK.out _ O1.out
      clear hK K
      try simp only [Act.put, List.setIfInBounds_toArray, List.set_cons_zero, List.set_cons_succ]
      refine wpAnyH_ready (rs := [4, 5]) (by kernel_rfl) (by simp) ?_
      refine AllReadyH.cons (o := ⟨_, _, _, _, _, _⟩) rfl (fun K hK => ?_) (AllReadyH.cons (o := ⟨_, _, _, _, _, _⟩) rfl (fun K hK => ?_) AllReadyH.nil)
      · skip
        go_simp
        refine (HSt.out _ O1.out).mono ?_
        rintro e V2 ⟨rfl, oo⟩
        have O2 := Lib.hid (O1.out.trans oo)
        clear oo
        go_wp2_with fail
        refine hK.out _ _ ?_ (fun hHeld => ?_)
        · (try dsimp only); exact HK.out _ O2.out
        clear hK K
        try simp only [Act.put, List.setIfInBounds_toArray, List.set_cons_zero, List.set_cons_succ]
        refine wpAnyH_ready (rs := [5]) (by kernel_rfl) (by simp) ?_
        refine AllReadyH.cons (o := ⟨_, _, _, _, _, _⟩) rfl (fun K hK => ?_) AllReadyH.nil
        go_simp
        obtain ⟨V3, hV⟩ : ∃ V, V = (V2).alloc (.cells #[.int .i64 0, .int .i64 0, .int .i64 0, .int .i64 0, .int .i64 0, .int .i64 0, .int .i64 0, .int .i64 0, .int .i64 0, .int .i64 0, .int .i64 0, .int .i64 0, .int .i64 0, .int .i64 0, .int .i64 0, .int .i64 0] 23) := ⟨_, rfl⟩
        obtain ⟨qb, hqb⟩ : ∃ qb, qb = (V2).heap.size := ⟨_, rfl⟩
        have O3 := Lib.hid (show Old W0 V3 by rw [hV]; exact O2.out.alloc' _)
        have HQ3 : Hid (V3.heap[qb]? = some (.cells #[.int .i64 0, .int .i64 0, .int .i64 0, .int .i64 0, .int .i64 0, .int .i64 0, .int .i64 0, .int .i64 0, .int .i64 0, .int .i64 0, .int .i64 0, .int .i64 0, .int .i64 0, .int .i64 0, .int .i64 0, .int .i64 0] 23 (0, 0))) := Lib.hid (by rw [hV, hqb]; exact heap_alloc_new _ _)
        have HG : Hid (W0.heap.size ≤ qb) := Lib.hid (by rw [hqb]; exact O2.out.size)
        rw [← hV, ← hqb]
        clear hV hqb
        refine hK.out _ _ ?_ (fun hHeld => ?_)
        · (try dsimp only); exact HK.out _ O3.out
        clear hK K
        try simp only [Act.put, List.setIfInBounds_toArray, List.set_cons_zero, List.set_cons_succ]
        refine wpAnyH_ready (rs := [6]) (by kernel_rfl) (by simp) ?_
        refine AllReadyH.cons (o := ⟨_, _, _, _, _, _⟩) rfl (fun K hK => ?_) AllReadyH.nil
        have HQ := Lib.hid (show V3.heap[qb]? = some (.cells #[.int .i64 0, .int .i64 0, .int .i64 0, .int .i64 0, .int .i64 0, .int .i64 0, .int .i64 0, .int .i64 0, .int .i64 0, .int .i64 0, .int .i64 0, .int .i64 0, .int .i64 0, .int .i64 0, .int .i64 0, .int .i64 0] 23 (0, 0)) from HQ3.out)
        have HR := Lib.hid (row_ret HQ.out O3.out HG.out (rowN 16 (blk q)))
        rw [if_pos (by kernel_rfl)]
        refine wp_store_row 23 _ _ rfl qb (rowN 16 (blk q)) rfl rfl 23 _ HQ.out (by rw [rowN_size]; exact Hs16.out) (by rw [rowN_size]; rfl) H1.out ?_
        refine hK.out _ _ ?_ (fun hHeld => ?_)
        · (try dsimp only); exact HK.out _ HR.out.2
        clear hK K
        try simp only [Act.put, List.setIfInBounds_toArray, List.set_cons_zero, List.set_cons_succ]
        refine wpAnyH_done (by kernel_rfl) ?_ _
        go_wp2_with fail
        go_meet
        exact ⟨_, rfl, HR.out.1, HR.out.2⟩
      · skip
        go_simp
        obtain ⟨V2, hV⟩ : ∃ V, V = (V1).alloc (.cells #[.int .i64 0, .int .i64 0, .int .i64 0, .int .i64 0, .int .i64 0, .int .i64 0, .int .i64 0, .int .i64 0, .int .i64 0, .int .i64 0, .int .i64 0, .int .i64 0, .int .i64 0, .int .i64 0, .int .i64 0, .int .i64 0] 23) := ⟨_, rfl⟩
        obtain ⟨qb, hqb⟩ : ∃ qb, qb = (V1).heap.size := ⟨_, rfl⟩
        have O2 := Lib.hid (show Old W0 V2 by rw [hV]; exact O1.out.alloc' _)
        have HQ2 : Hid (V2.heap[qb]? = some (.cells #[.int .i64 0, .int .i64 0, .int .i64 0, .int .i64 0, .int .i64 0, .int .i64 0, .int .i64 0, .int .i64 0, .int .i64 0, .int .i64 0, .int .i64 0, .int .i64 0, .int .i64 0, .int .i64 0, .int .i64 0, .int .i64 0] 23 (0, 0))) := Lib.hid (by rw [hV, hqb]; exact heap_alloc_new _ _)
        have HG : Hid (W0.heap.size ≤ qb) := Lib.hid (by rw [hqb]; exact O1.out.size)
        rw [← hV, ← hqb]
        clear hV hqb
        refine hK.out _ _ ?_ (fun hHeld => ?_)
        · (try dsimp only); exact HK.out _ O2.out
        clear hK K
        try simp only [Act.put, List.setIfInBounds_toArray, List.set_cons_zero, List.set_cons_succ]
        refine wpAnyH_ready (rs := [4]) (by kernel_rfl) (by simp) ?_
        refine AllReadyH.cons (o := ⟨_, _, _, _, _, _⟩) rfl (fun K hK => ?_) AllReadyH.nil
        go_simp
        refine (HSt.out _ O2.out).mono ?_
        rintro e V3 ⟨rfl, oo⟩
        have O3 := Lib.hid (O2.out.trans oo)
        have HQ3 := Lib.hid ((oo.block _ (lt_of_block HQ2.out)).trans HQ2.out)
        clear oo
        go_wp2_with fail
        refine hK.out _ _ ?_ (fun hHeld => ?_)
        · (try dsimp only); exact HK.out _ O3.out
        clear hK K
        try simp only [Act.put, List.setIfInBounds_toArray, List.set_cons_zero, List.set_cons_succ]
        refine wpAnyH_ready (rs := [6]) (by kernel_rfl) (by simp) ?_
        refine AllReadyH.cons (o := ⟨_, _, _, _, _, _⟩) rfl (fun K hK => ?_) AllReadyH.nil
        have HQ := Lib.hid (show V3.heap[qb]? = some (.cells #[.int .i64 0, .int .i64 0, .int .i64 0, .int .i64 0, .int .i64 0, .int .i64 0, .int .i64 0, .int .i64 0, .int .i64 0, .int .i64 0, .int .i64 0, .int .i64 0, .int .i64 0, .int .i64 0, .int .i64 0, .int .i64 0] 23 (0, 0)) from HQ3.out)
        have HR := Lib.hid (row_ret HQ.out O3.out HG.out (rowN 16 (blk q)))
        rw [if_pos (by kernel_rfl)]
        refine wp_store_row 23 _ _ rfl qb (rowN 16 (blk q)) rfl rfl 23 _ HQ.out (by rw [rowN_size]; exact Hs16.out) (by rw [rowN_size]; rfl) H1.out ?_
        refine hK.out _ _ ?_ (fun hHeld => ?_)
        · (try dsimp only); exact HK.out _ HR.out.2
        clear hK K
        try simp only [Act.put, List.setIfInBounds_toArray, List.set_cons_zero, List.set_cons_succ]
        refine wpAnyH_done (by kernel_rfl) ?_ _
        go_wp2_with fail
        go_meet
        exact ⟨_, rfl, HR.out.1, HR.out.2⟩
    · skip
      go_simp
      obtain ⟨V1, hV⟩ : ∃ V, V = (W0.alloc (.cells #[.int .i64 0, .int .i64 0, .int .i64 0, .int .i64 0, .int .i64 0, .int .i64 0, .int .i64 0, .int .i64 0, .int .i64 0, .int .i64 0, .int .i64 0, .int .i64 0, .int .i64 0, .int .i64 0, .int .i64 0, .int .i64 0] 23)).drew := ⟨_, rfl⟩
      obtain ⟨qb, hqb⟩ : ∃ qb, qb = W0.heap.size := ⟨_, rfl⟩
      have O1 := Lib.hid (show Old W0 V1 by rw [hV]; exact (Old.alloc W0 _).drew)
      have HQ1 : Hid (V1.heap[qb]? = some (.cells #[.int .i64 0, .int .i64 0, .int .i64 0, .int .i64 0, .int .i64 0, .int .i64 0, .int .i64 0, .int .i64 0, .int .i64 0, .int .i64 0, .int .i64 0, .int .i64 0, .int .i64 0, .int .i64 0, .int .i64 0, .int .i64 0] 23 (0, 0))) := Lib.hid (by rw [hV, hqb]; exact heap_alloc_new W0 _)
      have HG : Hid (W0.heap.size ≤ qb) := Lib.hid (by rw [hqb]; exact Nat.le_refl _)
      rw [← hV, ← hqb]
      clear hV hqb
      refine hK.out _ _ ?_ (fun hHeld => ?_)
      · (try dsimp only); exact HK.out _ O1.out
      clear hK K
      try simp only [Act.put, List.setIfInBounds_toArray, List.set_cons_zero, List.set_cons_succ]
      refine wpAnyH_ready (rs := [2]) (by kernel_rfl) (by simp) ?_
      refine AllReadyH.cons (o := ⟨_, _, _, _, _, _⟩) rfl (fun K hK => ?_) AllReadyH.nil
      go_simp
      refine (HOut.out _ O1.out).mono ?_
      rintro e V2 ⟨rfl, oo⟩
      have O2 := Lib.hid (O1.out.trans oo)
      have HQ2 := Lib.hid ((oo.block _ (lt_of_block HQ1.out)).trans HQ1.out)
      clear oo
      go_wp2_with fail
      refine hK.out _ _ ?_ (fun hHeld => ?_)
      · (try dsimp only); exact HK.out _ O2.out
      clear hK K
      try simp only [Act.put, List.setIfInBounds_toArray, List.set_cons_zero, List.set_cons_succ]
      refine wpAnyH_ready (rs := [4]) (by kernel_rfl) (by simp) ?_
      refine AllReadyH.cons (o := ⟨_, _, _, _, _, _⟩) rfl (fun K hK => ?_) AllReadyH.nil
      go_simp
      refine (HSt.out _ O2.out).mono ?_
      rintro e V3 ⟨rfl, oo⟩
      have O3 := Lib.hid (O2.out.trans oo)
      have HQ3 := Lib.hid ((oo.block _ (lt_of_block HQ2.out)).trans HQ2.out)
      clear oo
      go_wp2_with fail
      refine hK.out _ _ ?_ (fun hHeld => ?_)
      · (try dsimp only); exact HK.out _ O3.out
      clear hK K
      try simp only [Act.put, List.setIfInBounds_toArray, List.set_cons_zero, List.set_cons_succ]
      refine wpAnyH_ready (rs := [6]) (by kernel_rfl) (by simp) ?_
      refine AllReadyH.cons (o := ⟨_, _, _, _, _, _⟩) rfl (fun K hK => ?_) AllReadyH.nil
      have HQ := Lib.hid (show V3.heap[qb]? = some (.cells #[.int .i64 0, .int .i64 0, .int .i64 0, .int .i64 0, .int .i64 0, .int .i64 0, .int .i64 0, .int .i64 0, .int .i64 0, .int .i64 0, .int .i64 0, .int .i64 0, .int .i64 0, .int .i64 0, .int .i64 0, .int .i64 0] 23 (0, 0)) from HQ3.out)
      have HR := Lib.hid (row_ret HQ.out O3.out HG.out (rowN 16 (blk q)))
      rw [if_pos (by kernel_rfl)]
      refine wp_store_row 23 _ _ rfl qb (rowN 16 (blk q)) rfl rfl 23 _ HQ.out (by rw [rowN_size]; exact Hs16.out) (by rw [rowN_size]; rfl) H1.out ?_
      refine hK.out _ _ ?_ (fun hHeld => ?_)
      · (try dsimp only); exact HK.out _ HR.out.2
      clear hK K
      try simp only [Act.put, List.setIfInBounds_toArray, List.set_cons_zero, List.set_cons_succ]
      refine wpAnyH_done (by kernel_rfl) ?_ _
      go_wp2_with fail
      go_meet
      exact ⟨_, rfl, HR.out.1, HR.out.2⟩
  case rest =>
    obtain ⟨qb, rfl, hqb, ho⟩ := hcut
    obtain ⟨W2, rfl⟩ : ∃ V, V = wc := ⟨_, rfl⟩
    have HA := Lib.hid (H0.out.keep ho)
    have HB := Lib.hid hqb
    clear hqb ho HK HOut HSt H0 H1
    have HK : Hid (∀ W, Old W2 W → (W.heap[w.heap.size + 1]? = some (.cells (rowN 4 (blk g)) 24 (0, 0)) ∧ W.heap[w.heap.size + 1 + 1]? = some (.cells (rowN 4 (blk s)) 24 (0, 0)) ∧ W.heap[qb]? = some (.cells (rowN 16 (blk q)) 23 (0, 0)))) := Lib.hid fun W k => ⟨(HA.out.keep k).g, (HA.out.keep k).s, (k.block _ (lt_of_block HB.out)).trans HB.out⟩
    go_wp2_with fail
    refine wp_region_held_drew (S := (fun w' => w'.heap[w.heap.size + 1]? = some (.cells (rowN 4 (blk g)) 24 (0, 0)) ∧ w'.heap[w.heap.size + 1 + 1]? = some (.cells (rowN 4 (blk s)) 24 (0, 0)) ∧ w'.heap[qb]? = some (.cells (rowN 16 (blk q)) 23 (0, 0)))) (by kernel_rfl) ?_ (fun hHeld => ?_)
    · (try dsimp only); exact HK.out _ ((Old.refl W2).drew)
    refine wpAnyH_take (i := 0) (oi := ⟨some _, _, _, _, _, _⟩) (v := .agg (rowN 4 (blk g))) rfl (by kernel_rfl) (by kernel_rfl) (by kernel_rfl) (fun _ _ _ h => h) (yieldsIf_load_row (by kernel_rfl) 24 (.tmp 5) rfl (w.heap.size + 1) rfl 24 (rowN 4 (blk g)) (0, 0) _ (fun _ h => h.1) Try.underlying24 rfl (by rw [rowN_size]; exact Hs4.out)) (by assumption) ?_; try simp only [Act.put, List.setIfInBounds_toArray, List.set_cons_zero, List.set_cons_succ]
    refine wpAnyH_take (i := 1) (oi := ⟨some _, _, _, _, _, _⟩) (v := ?_) rfl (by kernel_rfl) (by kernel_rfl) (by kernel_rfl) (fun _ _ _ h => h) (Or.inl ⟨by kernel_rfl, ?_⟩) (by assumption) ?_; rotate_left; (intro w hSw; (try dsimp only at hSw); go_simp; try with_reducible rfl); try simp only [Act.put, List.setIfInBounds_toArray, List.set_cons_zero, List.set_cons_succ]
    refine wpAnyH_take (i := 2) (oi := ⟨some _, _, _, _, _, _⟩) (v := .agg (rowN 4 (blk s))) rfl (by kernel_rfl) (by kernel_rfl) (by kernel_rfl) (fun _ _ _ h => h) (yieldsIf_load_row (by kernel_rfl) 24 (.tmp 6) rfl (w.heap.size + 1 + 1) rfl 24 (rowN 4 (blk s)) (0, 0) _ (fun _ h => h.2.1) Try.underlying24 rfl (by rw [rowN_size]; exact Hs4.out)) (by assumption) ?_; try simp only [Act.put, List.setIfInBounds_toArray, List.set_cons_zero, List.set_cons_succ]
    refine wpAnyH_take (i := 3) (oi := ⟨some _, _, _, _, _, _⟩) (v := .agg (rowN 16 (blk q))) rfl (by kernel_rfl) (by kernel_rfl) (by kernel_rfl) (fun _ _ _ h => h) (yieldsIf_load_row (by kernel_rfl) 23 (.tmp 9) rfl qb rfl 23 (rowN 16 (blk q)) (0, 0) _ (fun _ h => h.2.2) Try.underlying23 rfl (by rw [rowN_size]; exact Hs16.out)) (by assumption) ?_; try simp only [Act.put, List.setIfInBounds_toArray, List.set_cons_zero, List.set_cons_succ]
    refine wpAnyH_take (i := 5) (oi := ⟨some _, _, _, _, _, _⟩) (v := .agg (rowN 16 (blk q))) rfl (by kernel_rfl) (by kernel_rfl) (by kernel_rfl) (fun _ _ _ h => h) (yieldsIf_load_row (by kernel_rfl) 23 (.tmp 9) rfl qb rfl 23 (rowN 16 (blk q)) (0, 0) _ (fun _ h => h.2.2) Try.underlying23 rfl (by rw [rowN_size]; exact Hs16.out)) (by assumption) ?_; try simp only [Act.put, List.setIfInBounds_toArray, List.set_cons_zero, List.set_cons_succ]
    refine wpAnyH_ready (rs := [4]) (by kernel_rfl) (by simp) ?_
    refine AllReadyH.cons (o := ⟨_, _, _, _, _, _⟩) rfl (fun K hK => ?_) AllReadyH.nil
    go_simp
    refine (HWd.out _).mono ?_
    rintro e V1 ⟨rfl, o1'⟩
    have o1 := ((Old.refl W2).drew).trans o1'
    clear o1'
    have HA1 := Lib.hid (HA.out.keep o1)
    have HK1 := Lib.hid (HK.out _ o1)
    clear HA HK HB HWd o1
    go_wp2_with fail
    refine hK.out _ _ ?_ (fun hHeld => ?_)
    · (try dsimp only); exact HK1.out
    clear hK K
    try simp only [Act.put, List.setIfInBounds_toArray, List.set_cons_zero, List.set_cons_succ]
    refine wpAnyH_take (i := 6) (oi := ⟨some _, _, _, _, _, _⟩) (v := .agg (rowN 29 (frC F (.slice p n cap)))) rfl (by kernel_rfl) (by kernel_rfl) (by kernel_rfl) (fun _ _ _ h => h) (yieldsIf_build (by kernel_rfl) 29 _ rfl [(0, .agg (rowN 4 (blk g))), (1, .slice p n cap), (2, .agg (rowN 4 (blk s))), (3, .agg (rowN 4 (blk (wideF q)))), (4, .agg (rowN 16 (blk q)))] _ (by kernel_rfl) HBd.out) (by assumption) ?_; try simp only [Act.put, List.setIfInBounds_toArray, List.set_cons_zero, List.set_cons_succ]
    have H29 : Hid ((rowN 29 (frC F (.slice p n cap))).all (·.oneCell') = true) := Lib.hid (frC_one _ _ rfl)
    have hr := row_ret HA1.out.r HA1.out.old (by omega) (rowN 29 (frC F (.slice p n cap)))
    have HR := Lib.hid hr
    have HK2 : Hid ((V1.setRow (w.heap.size + 1 + 1 + 1) (rowN 29 (frC F (.slice p n cap)))).heap[w.heap.size + 1]? = some (.cells (rowN 4 (blk g)) 24 (0, 0)) ∧ (V1.setRow (w.heap.size + 1 + 1 + 1) (rowN 29 (frC F (.slice p n cap)))).heap[w.heap.size + 1 + 1]? = some (.cells (rowN 4 (blk s)) 24 (0, 0)) ∧ (V1.setRow (w.heap.size + 1 + 1 + 1) (rowN 29 (frC F (.slice p n cap)))).heap[qb]? = some (.cells (rowN 16 (blk q)) 23 (0, 0))) := by
      refine ⟨(setRow_other _ _ _ _ (by omega)).trans HK1.out.1, (setRow_other _ _ _ _ (by omega)).trans HK1.out.2.1, (setRow_other _ _ _ _ fun e => ?_).trans HK1.out.2.2⟩
      have h1 := HK1.out.2.2
      rw [e, HA1.out.r] at h1
      cases h1
    refine wpAnyH_ready (rs := [7]) (by kernel_rfl) (by simp) ?_
    refine AllReadyH.cons (o := ⟨_, _, _, _, _, _⟩) rfl (fun K hK => ?_) AllReadyH.nil
    rw [if_pos (by kernel_rfl)]
    refine wp_store_row 29 _ _ rfl (w.heap.size + 1 + 1 + 1) (rowN 29 (frC F (.slice p n cap))) rfl rfl 29 _ HA1.out.r (by rw [rowN_size]; exact Hs29.out) (by rw [rowN_size]; exact Hzs.out) H29.out ?_
    refine hK.out _ _ ?_ (fun hHeld => ?_)
    · (try dsimp only); exact HK2.out
    clear hK K
    try simp only [Act.put, List.setIfInBounds_toArray, List.set_cons_zero, List.set_cons_succ]
    refine wpAnyH_done (by kernel_rfl) ?_ _
    go_wp2_with fail
    exact bodyPost_ret (results_cell_row rfl _ _ (w.heap.size + 1 + 1 + 1) 29 (rowN 29 (frC F (.slice p n cap))) (0, 0) _ rfl HR.out.1 Try.underlying29 rfl (by rw [rowN_size]; exact Hs29.out)) rfl ⟨rfl, HR.out.2⟩
end Go.Proofs.Ytcepfbflgngmjaa

