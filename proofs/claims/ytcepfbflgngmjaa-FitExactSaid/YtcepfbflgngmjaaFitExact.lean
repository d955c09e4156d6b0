/- Any spectrum whose peak needs at most 24 bits is told as it is in frames of 55 bytes and more, and off in others by what Off tells: FitExact holds at every input; no condition. -/
import Derived.Test.YtcepfbflgngmjaaRows
import Derived.Test.YtcepfbflgngmjaaSmaL
import Derived.Test.YtcepfbflgngmjaaNearL
import Derived.Deep.RegionHeld
import Derived.BigQuiet
namespace Go.Proofs.Ytcepfbflgngmjaa.fitExact
open Go.ChangeShapes Go.WideShapes Go.ChangeAt Go.RowKit
set_option linter.unusedVariables false

theorem part_snoc (f : Nat → Int) (a n : Nat) : part f a (n + 1) = part f a n ++ [f (a + n)] := by simp [part, List.range_succ]
theorem part_congr {f g : Nat → Int} {a n : Nat} (h : ∀ j, j < n → f (a + j) = g (a + j)) : part f a n = part g a n := by
  unfold part
  exact List.map_congr_left fun j hj => h j (List.mem_range.1 hj)
theorem peakL_one (xs : List Int) (x : Int) : peakL (xs ++ [x]) = max (peakL xs) (absI x) := by simp [peakL]
/-- A spectrum that is told as it is is off by nothing. -/
theorem off_none {f s : Nat → Int} (h : ∀ k, k < 16 → s k = f k) : peakL (part (farI f s) 0 16) = 0 := by
  rw [part_congr (g := fun _ => 0) fun j hj => by
    rw [Nat.zero_add]
    unfold farI
    rw [h j hj, show f j - f j = 0 by omega]
    exact IntWalk.wrap64_in 0 (by omega)]
  decide
theorem far_abs {f s : Int} (h1 : -8388607 ≤ f) (h2 : f ≤ 8388607) (h3 : -2147483648 ≤ s) (h4 : s ≤ 2147483648) : absI (wrap64 (f - s)) = absI (s - f) := by
  rw [IntWalk.wrap64_in _ (by omega)]
  unfold absI
  rw [if_neg (show ¬ (f - s = -9223372036854775808) by omega), if_neg (show ¬ (s - f = -9223372036854775808) by omega)]
  split <;> split <;> omega
theorem spec_bd (F : Nat → Int) (n : Nat) (T : Nat → Int) (k : Nat) (hk : k < 16) : -2147483648 ≤ specF F n T k ∧ specF F n T k ≤ 2147483648 := by
  unfold specF clampTo
  rw [if_pos hk, clampI_eq]
  omega
set_option maxRecDepth 100000 in
set_option maxHeartbeats 16000000 in
theorem walk_no (f g : Nat → Int) (size : Int) (w : World) (hf : nearP f → Fits64 f) (h : ¬ (nearP f ∧ smallP f ∧ rightP g ∧ 24 ≤ size ∧ size ≤ 96)) :
    Calls Try.prog 5 #[.agg (rowN 16 (blk f)), .agg (rowN 4 (blk g)), .int .i64 size] w fun e w' => e = .returned (.bool true) ∧ Old w w' := by
  have Hs4 : Hid ((Try.prog.info? 24).map (·.size) = some 4) := Lib.hid (by kernel_rfl)
  have Hs16 : Hid ((Try.prog.info? 23).map (·.size) = some 16) := Lib.hid (by kernel_rfl)
  have Hs29 : Hid ((Try.prog.info? 29).map (·.size) = some 29) := Lib.hid (by kernel_rfl)
  have HA := Lib.hid (fun w => awake_any w)
  obtain ⟨W0, hW0⟩ : ∃ W0, W0 = ((w.alloc (.cells (rowN 16 (blk f)) 23)).alloc (.cells (rowN 4 (blk g)) 24)) := ⟨_, rfl⟩
  have hb : W0.heap[w.heap.size]? = some (.cells (rowN 16 (blk f)) 23 (0, 0)) := by rw [hW0]; exact heap_alloc2_old w _ _
  have hg : W0.heap[w.heap.size + 1]? = some (.cells (rowN 4 (blk g)) 24 (0, 0)) := by rw [hW0]; exact heap_alloc2_new w _ _
  have ho : Old w W0 := by rw [hW0]; exact (Old.alloc w _).alloc' _
  have HK0 : Hid (∀ V, Old W0 V → V.heap[w.heap.size]? = some (.cells (rowN 16 (blk f)) 23 (0, 0)) ∧ V.heap[w.heap.size + 1]? = some (.cells (rowN 4 (blk g)) 24 (0, 0))) := Lib.hid fun V k => ⟨(k.block _ (lt_of_block hb)).trans hb, (k.block _ (lt_of_block hg)).trans hg⟩
  have HW0 := Lib.hid hW0
  have HO := Lib.hid ho
  clear hb hg ho hW0
  have hN := fun w => near_any f w
  have hRi := fun w => lright_any g w
  by_cases hn : nearP f
  · rw [decide_eq_true hn] at hN
    have HN := Lib.hid hN
    have hWi := fun w => wide_any f w (hf hn)
    clear hN hf
    by_cases hs : smallP f
    · rw [decide_eq_false (fun h => h hs)] at hWi
      have HWi := Lib.hid hWi
      by_cases hr : rightP g
      · rw [decide_eq_true hr] at hRi
        have HRi := Lib.hid hRi
        by_cases hlo : size < 24
        · clear hWi hRi h hr hs hn
          go_enter Try.func5, Try.ntmps5
          go_wp2_with (rw [← HW0.out]; with_reducible refine wpList_load_row rfl 23 _ rfl w.heap.size rfl 23 (rowN 16 (blk f)) (0, 0) _ (HK0.out _ (Old.refl _)).1 Try.underlying23 rfl (by rw [rowN_size]; exact Hs16.out) ?_)
          clear HW0
          refine (HN.out _).mono ?_
          rintro e V1 ⟨rfl, o1⟩
          have HK1 := Lib.hid (HK0.out _ o1)
          have HO1 := Lib.hid o1
          clear o1 HN
          go_wp2_with (with_reducible refine wpList_load_row_w (by kernel_rfl) 23 _ rfl w.heap.size rfl 23 (rowN 16 (blk f)) (0, 0) _ HK1.out.1 Try.underlying23 rfl (by rw [rowN_size]; exact Hs16.out) ?_)
          refine (HWi.out _).mono ?_
          rintro e V2 ⟨rfl, o2⟩
          have HO2 := Lib.hid (HO1.out.trans o2)
          have HK2 := Lib.hid (HK0.out _ HO2.out)
          clear o2 HK1 HO1 HWi
          go_wp2_with (with_reducible refine wpList_load_row_w (by kernel_rfl) 24 _ rfl (w.heap.size + 1) rfl 24 (rowN 4 (blk g)) (0, 0) _ HK2.out.2 Try.underlying24 rfl (by rw [rowN_size]; exact Hs4.out) ?_)
          refine (HRi.out _).mono ?_
          rintro e V3 ⟨rfl, o3⟩
          have HO3 := Lib.hid (HO2.out.trans o3)
          have HK3 := Lib.hid (HK0.out _ HO3.out)
          clear o3 HK2 HO2 HRi
          go_wp2_with fail
          refine (HA.out _).mono ?_
          rintro e U9 ⟨rfl, o9⟩
          have HR := Lib.hid (HO.out.trans (HO3.out.trans o9))
          clear o9 HA HK0
          go_wp2_with fail
          go_ret
          exact ⟨rfl, HR.out⟩
        · have hlo' : 24 ≤ size := by omega
          have hhi : 96 < size := by
            by_cases h96 : size ≤ 96
            · exact absurd ⟨hn, hs, hr, hlo', h96⟩ h
            · omega
          clear hWi hRi h hr hs hn hlo
          go_enter Try.func5, Try.ntmps5
          go_wp2_with (rw [← HW0.out]; with_reducible refine wpList_load_row rfl 23 _ rfl w.heap.size rfl 23 (rowN 16 (blk f)) (0, 0) _ (HK0.out _ (Old.refl _)).1 Try.underlying23 rfl (by rw [rowN_size]; exact Hs16.out) ?_)
          clear HW0
          refine (HN.out _).mono ?_
          rintro e V1 ⟨rfl, o1⟩
          have HK1 := Lib.hid (HK0.out _ o1)
          have HO1 := Lib.hid o1
          clear o1 HN
          go_wp2_with (with_reducible refine wpList_load_row_w (by kernel_rfl) 23 _ rfl w.heap.size rfl 23 (rowN 16 (blk f)) (0, 0) _ HK1.out.1 Try.underlying23 rfl (by rw [rowN_size]; exact Hs16.out) ?_)
          refine (HWi.out _).mono ?_
          rintro e V2 ⟨rfl, o2⟩
          have HO2 := Lib.hid (HO1.out.trans o2)
          have HK2 := Lib.hid (HK0.out _ HO2.out)
          clear o2 HK1 HO1 HWi
          go_wp2_with (with_reducible refine wpList_load_row_w (by kernel_rfl) 24 _ rfl (w.heap.size + 1) rfl 24 (rowN 4 (blk g)) (0, 0) _ HK2.out.2 Try.underlying24 rfl (by rw [rowN_size]; exact Hs4.out) ?_)
          refine (HRi.out _).mono ?_
          rintro e V3 ⟨rfl, o3⟩
          have HO3 := Lib.hid (HO2.out.trans o3)
          have HK3 := Lib.hid (HK0.out _ HO3.out)
          clear o3 HK2 HO2 HRi
          go_wp2_with fail
          refine (HA.out _).mono ?_
          rintro e U9 ⟨rfl, o9⟩
          have HR := Lib.hid (HO.out.trans (HO3.out.trans o9))
          clear o9 HA HK0
          go_wp2_with fail
          go_ret
          exact ⟨rfl, HR.out⟩
      · rw [decide_eq_false hr] at hRi
        have HRi := Lib.hid hRi
        clear hWi hRi h hr hs hn
        go_enter Try.func5, Try.ntmps5
        go_wp2_with (rw [← HW0.out]; with_reducible refine wpList_load_row rfl 23 _ rfl w.heap.size rfl 23 (rowN 16 (blk f)) (0, 0) _ (HK0.out _ (Old.refl _)).1 Try.underlying23 rfl (by rw [rowN_size]; exact Hs16.out) ?_)
        clear HW0
        refine (HN.out _).mono ?_
        rintro e V1 ⟨rfl, o1⟩
        have HK1 := Lib.hid (HK0.out _ o1)
        have HO1 := Lib.hid o1
        clear o1 HN
        go_wp2_with (with_reducible refine wpList_load_row_w (by kernel_rfl) 23 _ rfl w.heap.size rfl 23 (rowN 16 (blk f)) (0, 0) _ HK1.out.1 Try.underlying23 rfl (by rw [rowN_size]; exact Hs16.out) ?_)
        refine (HWi.out _).mono ?_
        rintro e V2 ⟨rfl, o2⟩
        have HO2 := Lib.hid (HO1.out.trans o2)
        have HK2 := Lib.hid (HK0.out _ HO2.out)
        clear o2 HK1 HO1 HWi
        go_wp2_with (with_reducible refine wpList_load_row_w (by kernel_rfl) 24 _ rfl (w.heap.size + 1) rfl 24 (rowN 4 (blk g)) (0, 0) _ HK2.out.2 Try.underlying24 rfl (by rw [rowN_size]; exact Hs4.out) ?_)
        refine (HRi.out _).mono ?_
        rintro e V3 ⟨rfl, o3⟩
        have HO3 := Lib.hid (HO2.out.trans o3)
        have HK3 := Lib.hid (HK0.out _ HO3.out)
        clear o3 HK2 HO2 HRi
        go_wp2_with fail
        refine (HA.out _).mono ?_
        rintro e U9 ⟨rfl, o9⟩
        have HR := Lib.hid (HO.out.trans (HO3.out.trans o9))
        clear o9 HA HK0
        go_wp2_with fail
        go_ret
        exact ⟨rfl, HR.out⟩
    · rw [decide_eq_true hs] at hWi
      have HWi := Lib.hid hWi
      clear hWi hRi h hs hn
      go_enter Try.func5, Try.ntmps5
      go_wp2_with (rw [← HW0.out]; with_reducible refine wpList_load_row rfl 23 _ rfl w.heap.size rfl 23 (rowN 16 (blk f)) (0, 0) _ (HK0.out _ (Old.refl _)).1 Try.underlying23 rfl (by rw [rowN_size]; exact Hs16.out) ?_)
      clear HW0
      refine (HN.out _).mono ?_
      rintro e V1 ⟨rfl, o1⟩
      have HK1 := Lib.hid (HK0.out _ o1)
      have HO1 := Lib.hid o1
      clear o1 HN
      go_wp2_with (with_reducible refine wpList_load_row_w (by kernel_rfl) 23 _ rfl w.heap.size rfl 23 (rowN 16 (blk f)) (0, 0) _ HK1.out.1 Try.underlying23 rfl (by rw [rowN_size]; exact Hs16.out) ?_)
      refine (HWi.out _).mono ?_
      rintro e V2 ⟨rfl, o2⟩
      have HO2 := Lib.hid (HO1.out.trans o2)
      have HK2 := Lib.hid (HK0.out _ HO2.out)
      clear o2 HK1 HO1 HWi
      go_wp2_with fail
      refine (HA.out _).mono ?_
      rintro e U9 ⟨rfl, o9⟩
      have HR := Lib.hid (HO.out.trans (HO2.out.trans o9))
      clear o9 HA HK0
      go_wp2_with fail
      go_ret
      exact ⟨rfl, HR.out⟩
  · rw [decide_eq_false hn] at hN
    have HN := Lib.hid hN
    clear hN hf hRi hn h
    go_enter Try.func5, Try.ntmps5
    go_wp2_with (rw [← HW0.out]; with_reducible refine wpList_load_row rfl 23 _ rfl w.heap.size rfl 23 (rowN 16 (blk f)) (0, 0) _ (HK0.out _ (Old.refl _)).1 Try.underlying23 rfl (by rw [rowN_size]; exact Hs16.out) ?_)
    clear HW0
    refine (HN.out _).mono ?_
    rintro e V1 ⟨rfl, o1⟩
    have HK1 := Lib.hid (HK0.out _ o1)
    have HO1 := Lib.hid o1
    clear o1 HN
    go_wp2_with fail
    refine (HA.out _).mono ?_
    rintro e U9 ⟨rfl, o9⟩
    have HR := Lib.hid (HO.out.trans (HO1.out.trans o9))
    clear o9 HA HK0
    go_wp2_with fail
    go_ret
    exact ⟨rfl, HR.out⟩
set_option maxRecDepth 100000 in
set_option maxHeartbeats 16000000 in
theorem walk_exact (f g : Nat → Int) (size : Int) (w : World) (hf : Fits64 f) (hs : smallP f) (hr : rightP g) (h : 55 ≤ size ∧ size ≤ 96) :
    Calls Try.prog 5 #[.agg (rowN 16 (blk f)), .agg (rowN 4 (blk g)), .int .i64 size] w fun e w' => e = .returned (.bool true) ∧ Old w w' := by
  obtain ⟨N, rfl⟩ : ∃ N : Nat, size = N := ⟨size.toNat, by omega⟩
  have Hs4 : Hid ((Try.prog.info? 24).map (·.size) = some 4) := Lib.hid (by kernel_rfl)
  have Hs16 : Hid ((Try.prog.info? 23).map (·.size) = some 16) := Lib.hid (by kernel_rfl)
  have Hs29 : Hid ((Try.prog.info? 29).map (·.size) = some 29) := Lib.hid (by kernel_rfl)
  have HA := Lib.hid (fun w => awake_any w)
  obtain ⟨W0, hW0⟩ : ∃ W0, W0 = ((w.alloc (.cells (rowN 16 (blk f)) 23)).alloc (.cells (rowN 4 (blk g)) 24)) := ⟨_, rfl⟩
  have hb : W0.heap[w.heap.size]? = some (.cells (rowN 16 (blk f)) 23 (0, 0)) := by rw [hW0]; exact heap_alloc2_old w _ _
  have hg : W0.heap[w.heap.size + 1]? = some (.cells (rowN 4 (blk g)) 24 (0, 0)) := by rw [hW0]; exact heap_alloc2_new w _ _
  have ho : Old w W0 := by rw [hW0]; exact (Old.alloc w _).alloc' _
  have HK0 : Hid (∀ V, Old W0 V → V.heap[w.heap.size]? = some (.cells (rowN 16 (blk f)) 23 (0, 0)) ∧ V.heap[w.heap.size + 1]? = some (.cells (rowN 4 (blk g)) 24 (0, 0))) := Lib.hid fun V k => ⟨(k.block _ (lt_of_block hb)).trans hb, (k.block _ (lt_of_block hg)).trans hg⟩
  have HW0 := Lib.hid hW0
  have HO := Lib.hid ho
  clear hb hg ho hW0
  have hN := fun w => near_any f w
  rw [decide_eq_true (small_near hs)] at hN
  have HN := Lib.hid hN
  have hWi := fun w => wide_any f w hf
  rw [decide_eq_false (fun h => h hs)] at hWi
  have HWi := Lib.hid hWi
  have hRi := fun w => lright_any g w
  rw [decide_eq_true hr] at hRi
  have HRi := Lib.hid hRi
  have hEx := fun w => Exact_any f w hf
  have hmayE := exact_may gain_zero hs (fun _ => 0)
  have hspE := fun w => Spectrum_any (tolN zeroS zeroS f) none 0 0 (fun _ => 0) w (no_tones w _) (Nat.le_refl _) (Nat.zero_le _) hmayE
  have hrow : rowN 16 (blk (specF (tolN zeroS zeroS f) 0 fun _ => 0)) = rowN 16 (blk f) := rowN_ext _ _ _ fun k hk => by unfold blk; rw [spec_exact hs _ k hk]
  rw [hrow] at hspE
  have hoffE := fun w => Off_any f (tolN zeroS zeroS f) none 0 0 (fun _ => 0) w (no_tones w _) (Nat.le_refl _) (Nat.zero_le _) hmayE
  rw [off_none (fun k hk => spec_exact hs _ k hk)] at hoffE
  have hE := fun w => eq_sixteen (P := Try.prog) f f w
  rw [eqB_true.2 fun _ _ => rfl] at hE
  have HSm := Lib.hid hs
  have hFm := fun w => frame_exact f g N w hf h ⟨hs, hr⟩
  have hsame := fun w => Same_any (tolN zeroS zeroS f) (tolN zeroS zeroS f) none none 0 0 0 0 (fun _ => 0) (fun _ => 0) w (no_tones w _) (no_tones w _) (Nat.zero_le _) (Nat.zero_le _)
  rw [decide_eq_true ⟨rfl, fun _ _ => rfl, fun _ _ _ => rfl⟩] at hsame
  obtain ⟨E, hEd⟩ : ∃ E, tolN zeroS zeroS f = E := ⟨_, rfl⟩
  rw [hEd] at hEx hspE hoffE hFm hsame
  have HSame := Lib.hid hsame
  have HEx := Lib.hid hEx
  have HSpE := Lib.hid hspE
  have HOffE := Lib.hid hoffE
  have HFm := Lib.hid hFm
  obtain ⟨hlo, hhi⟩ := h
  clear hN hWi hRi hEx hspE hoffE hFm hrow hmayE hEd hs hr hf hsame
  go_enter Try.func5, Try.ntmps5
  go_wp2_with (rw [← HW0.out]; with_reducible refine wpList_load_row rfl 23 _ rfl w.heap.size rfl 23 (rowN 16 (blk f)) (0, 0) _ (HK0.out _ (Old.refl _)).1 Try.underlying23 rfl (by rw [rowN_size]; exact Hs16.out) ?_)
  clear HW0
  refine (HN.out _).mono ?_
  rintro e V1 ⟨rfl, o1⟩
  have HK1 := Lib.hid (HK0.out _ o1)
  have HO1 := Lib.hid o1
  clear o1 HN
  go_wp2_with (with_reducible refine wpList_load_row_w (by kernel_rfl) 23 _ rfl w.heap.size rfl 23 (rowN 16 (blk f)) (0, 0) _ HK1.out.1 Try.underlying23 rfl (by rw [rowN_size]; exact Hs16.out) ?_)
  refine (HWi.out _).mono ?_
  rintro e V2 ⟨rfl, o2⟩
  have HO2 := Lib.hid (HO1.out.trans o2)
  have HK2 := Lib.hid (HK0.out _ HO2.out)
  clear o2 HK1 HO1 HWi
  go_wp2_with (with_reducible refine wpList_load_row_w (by kernel_rfl) 24 _ rfl (w.heap.size + 1) rfl 24 (rowN 4 (blk g)) (0, 0) _ HK2.out.2 Try.underlying24 rfl (by rw [rowN_size]; exact Hs4.out) ?_)
  refine (HRi.out _).mono ?_
  rintro e V3 ⟨rfl, o3⟩
  have HO3 := Lib.hid (HO2.out.trans o3)
  have HK3 := Lib.hid (HK0.out _ HO3.out)
  clear o3 HK2 HO2 HRi
  go_wp2_with (with_reducible refine wpList_load_row rfl 23 _ rfl w.heap.size rfl 23 (rowN 16 (blk f)) (0, 0) _ HK3.out.1 Try.underlying23 rfl (by rw [rowN_size]; exact Hs16.out) ?_)
  refine (HEx.out _).mono ?_
  rintro e V4 ⟨rfl, o4⟩
  have H1 : Hid ((rowN 29 (frC E (.slice none 0 0))).all (·.oneCell') = true) := Lib.hid (frC_one _ _ rfl)
  have oo := o4.alloc' (.cells (rowN 29 (frC E (.slice none 0 0))) 29)
  have HOV5 := Lib.hid (HO3.out.trans oo)
  have HKV5 := Lib.hid (HK0.out _ HOV5.out)
  have HFV5 := Lib.hid (heap_alloc_new V4 (.cells (rowN 29 (frC E (.slice none 0 0))) 29))
  obtain ⟨V5, hV⟩ : ∃ V, V = V4.alloc (.cells (rowN 29 (frC E (.slice none 0 0))) 29) := ⟨_, rfl⟩
  obtain ⟨fb, hfb⟩ : ∃ q, q = V4.heap.size := ⟨_, rfl⟩
  rw [← hV] at HOV5 HKV5 
  rw [← hV, ← hfb] at HFV5
  have HVV5 := Lib.hid hV
  have HqV5 := Lib.hid hfb
  clear hV hfb oo
  clear o4 HK3 HO3 HEx
  go_wp2_with (first | (with_reducible refine wpList_store_row rfl 29 _ _ rfl V4.heap.size (rowN 29 (frC E (.slice none 0 0))) rfl rfl 29 _ (heap_alloc_new _ _) (by rw [rowN_size]; exact Hs29.out) (by rw [rowN_size]; kernel_rfl) H1.out ?_; rw [World.setRow_alloc_new, ← HVV5.out, ← HqV5.out]) | (with_reducible refine wpList_load_row rfl 23 _ rfl w.heap.size rfl 23 (rowN 16 (blk f)) (0, 0) _ HKV5.out.1 Try.underlying23 rfl (by rw [rowN_size]; exact Hs16.out) ?_) | (with_reducible refine wpList_load_row rfl 24 _ rfl (w.heap.size + 1) rfl 24 (rowN 4 (blk g)) (0, 0) _ HKV5.out.2 Try.underlying24 rfl (by rw [rowN_size]; exact Hs4.out) ?_))
  clear HVV5 HqV5 H1
  refine (HFm.out _).mono ?_
  rintro e V6 ⟨rfl, o6⟩
  have H1 : Hid ((rowN 29 (frC E (.slice none 0 0))).all (·.oneCell') = true) := Lib.hid (frC_one _ _ rfl)
  have oo := o6.alloc' (.cells (rowN 29 (frC E (.slice none 0 0))) 29)
  have HOV7 := Lib.hid (HOV5.out.trans oo)
  have HKV7 := Lib.hid (HK0.out _ HOV7.out)
  have HFV7 := Lib.hid (heap_alloc_new V6 (.cells (rowN 29 (frC E (.slice none 0 0))) 29))
  have HX7 := Lib.hid (((o6.alloc' (.cells (rowN 29 (frC E (.slice none 0 0))) 29)).block _ (lt_of_block HFV5.out)).trans HFV5.out)
  obtain ⟨V7, hV⟩ : ∃ V, V = V6.alloc (.cells (rowN 29 (frC E (.slice none 0 0))) 29) := ⟨_, rfl⟩
  obtain ⟨gb, hfb⟩ : ∃ q, q = V6.heap.size := ⟨_, rfl⟩
  rw [← hV] at HOV7 HKV7 HX7
  rw [← hV, ← hfb] at HFV7
  have HVV7 := Lib.hid hV
  have HqV7 := Lib.hid hfb
  clear hV hfb oo
  clear o6 HKV5 HOV5 HFV5 HFm
  go_wp2_with (first | (with_reducible refine wpList_store_row rfl 29 _ _ rfl V6.heap.size (rowN 29 (frC E (.slice none 0 0))) rfl rfl 29 _ (heap_alloc_new _ _) (by rw [rowN_size]; exact Hs29.out) (by rw [rowN_size]; kernel_rfl) H1.out ?_; rw [World.setRow_alloc_new, ← HVV7.out, ← HqV7.out]) | (with_reducible refine wpList_load_row rfl 29 _ rfl gb rfl 29 (rowN 29 (frC E (.slice none 0 0))) (0, 0) _ HFV7.out Try.underlying29 rfl (by rw [rowN_size]; exact Hs29.out) ?_))
  clear HVV7 HqV7 H1
  refine (HSpE.out _).mono ?_
  rintro e V8 ⟨rfl, o8⟩
  obtain ⟨S, hS⟩ : ∃ S, S = f := ⟨_, rfl⟩
  have hSb : ∀ k, k < 16 → -2147483648 ≤ S k ∧ S k ≤ 2147483648 := fun k hk => by rw [hS]; have := HSm.out k hk; omega
  have hoff := fun W (k : Old V8 W) => HOffE.out W
  rw [show (0 : Int) = peakL (part (farI f S) 0 16) from (off_none fun k hk => by rw [hS]).symm] at hoff
  have hE2 : ∀ w, (binOp .eql 23 (.agg (rowN 16 (blk S))) (.agg (rowN 16 (blk f)))).run Try.prog w = .ok (.bool true) w := by rw [hS]; exact hE
  have HOff := Lib.hid hoff
  have HSb := Lib.hid hSb
  have H1 : Hid ((rowN 16 (blk S)).all (·.oneCell') = true) := Lib.hid (blk_one _ _)
  have oo := o8.alloc' (.cells (rowN 16 (blk S)) 23)
  have HO9 := Lib.hid (HOV7.out.trans oo)
  have HX9 := Lib.hid ((oo.block _ (lt_of_block HX7.out)).trans HX7.out)
  have HF9 := Lib.hid ((oo.block _ (lt_of_block HFV7.out)).trans HFV7.out)
  have HS9 := Lib.hid (heap_alloc_new V8 (.cells (rowN 16 (blk S)) 23))
  have H89 := Lib.hid (Old.alloc V8 (.cells (rowN 16 (blk S)) 23))
  have HSd := Lib.hid hS
  clear hoff hSb o8 oo HX7 HFV7 HOV7 HKV7 hS
  rw [HSd.out] at H1
  go_wp2_with (with_reducible refine wpList_store_row rfl 23 _ _ rfl V8.heap.size (rowN 16 (blk f)) rfl rfl 23 _ (heap_alloc_new _ _) (by rw [rowN_size]; exact Hs16.out) (by rw [rowN_size]; kernel_rfl) H1.out ?_; rw [World.setRow_alloc_new])
  rw [← HSd.out] at H1
  obtain ⟨V9, hV9⟩ : ∃ V, V = V8.alloc (.cells (rowN 16 (blk f)) 23) := ⟨_, rfl⟩
  rw [HSd.out] at HO9 HX9 HF9 HS9 H89
  obtain ⟨sb, hsb⟩ : ∃ q, q = V8.heap.size := ⟨_, rfl⟩
  rw [← hV9] at HO9 HX9 HF9 H89
  rw [← hV9, ← hsb] at HS9
  rw [← hV9, ← hsb]
  rw [← HSd.out] at HS9
  clear hV9 hsb H1
  have HK9 : Hid (∀ V, Old V9 V → V.heap[w.heap.size]? = some (.cells (rowN 16 (blk f)) 23 (0, 0)) ∧ V.heap[fb]? = some (.cells (rowN 29 (frC E (.slice none 0 0))) 29 (0, 0)) ∧ V.heap[gb]? = some (.cells (rowN 29 (frC E (.slice none 0 0))) 29 (0, 0)) ∧ V.heap[sb]? = some (.cells (rowN 16 (blk S)) 23 (0, 0))) := Lib.hid fun V k => ⟨(HK0.out _ (HO9.out.trans k)).1, (k.block _ (lt_of_block HX9.out)).trans HX9.out, (k.block _ (lt_of_block HF9.out)).trans HF9.out, (k.block _ (lt_of_block HS9.out)).trans HS9.out⟩
  clear HX9 HF9 HS9
  go_loopw [11, 12] (fun a i wr => ∃ k : Nat, k ≤ 16 ∧ i = .int .i64 k ∧ a = .int .i64 (peakL (part (farI f S) 0 k)) ∧ Hid (Old V9 wr)) (fun _ i _ => 16 - (intOf i).toNat)
  case atStart => exact ⟨0, by omega, rfl, rfl, Lib.hid (Old.refl _)⟩
  case round =>
    obtain ⟨k, hk, rfl, rfl, ho⟩ := hrel
    obtain ⟨wo, rfl⟩ : ∃ V, V = wr := ⟨_, rfl⟩
    by_cases hlt : k < 16
    · have k1 : (0 : Int) ≤ k := by omega
      have k2 : (k : Int) < 16 := by omega
      obtain ⟨x1, x2, x3, x4⟩ := HK9.out _ ho.out
      have c1 := (cell_of_row _ _ _ _ _ _ x1).trans (blk_at 16 f k hlt)
      have c2 := (cell_of_row _ _ _ _ _ _ x4).trans (blk_at 16 S k hlt)
      obtain ⟨a1, a2⟩ := HSm.out k hlt
      obtain ⟨b1, b2⟩ := HSb.out k hlt
      have hnx : peakL (part (farI f S) 0 (k + 1)) = max (peakL (part (farI f S) 0 k)) (absI (S k - f k)) := by
        rw [part_snoc, peakL_one, Nat.zero_add]
        unfold farI
        rw [far_abs a1 a2 b1 b2]
      have HNx := Lib.hid hnx
      have hpb := peakL_in (part (farI f S) 0 k) (part_in (farI_fits f S) 0 k)
      clear x1 x2 x3 x4 hnx
      generalize peakL (part (farI f S) 0 k) = m at *
      generalize f k = x at *
      generalize S k = y at *
      obtain ⟨v, hv⟩ : ∃ v, y - x = v := ⟨_, rfl⟩
      have q1 : wrap64 (y - x) = v := by rw [IntWalk.wrap64_in _ (by omega)]; exact hv
      have q2 : IntKind.i64.wrap (y - x) = v := by rw [IntWalk.i64_in _ (by omega)]; exact hv
      have HAb := Lib.hid (fun w => Abs_any v w (by omega) (by omega))
      have hab := absI_bd v (by omega) (by omega)
      rw [hv] at HNx
      clear hv
      generalize absI v = a at *
      go_wp2_with fail
      go_quiet ((go_at_call 21; with_reducible exact Calls.quiet_of_same ((HAb.out _).mono fun _ _ hh => ⟨hh.1, hh.2.symm⟩)))
      by_cases c : m < a
      · have hmx : max m a = a := by omega
        rw [hmx] at HNx
        clear hmx
        go_wp2_with fail
        go_roundw
        case rel => exact ⟨k + 1, by omega, by go_num, by rw [HNx.out], Lib.hid (ho.out.drewN _)⟩
        case measure => simp [intOf]; omega
      · have hmx : max m a = m := by omega
        rw [hmx] at HNx
        clear hmx
        go_wp2_with fail
        go_roundw
        case rel => exact ⟨k + 1, by omega, by go_num, by rw [HNx.out], Lib.hid (ho.out.drewN _)⟩
        case measure => simp [intOf]; omega
    · obtain rfl : k = 16 := by omega
      have HOf2 : Hid (∀ W, Old wo W → Calls Try.prog 22 #[.agg (rowN 16 (blk f)), .agg (rowN 29 (frC E (.slice none 0 0)))] W fun e w' => e = .returned (.int .i64 (peakL (part (farI f S) 0 16))) ∧ Old W w') := Lib.hid fun W k => HOff.out W (H89.out.trans (ho.out.trans k))
      have HKo : Hid (∀ V, Old wo V → V.heap[w.heap.size]? = some (.cells (rowN 16 (blk f)) 23 (0, 0)) ∧ V.heap[fb]? = some (.cells (rowN 29 (frC E (.slice none 0 0))) 29 (0, 0)) ∧ V.heap[gb]? = some (.cells (rowN 29 (frC E (.slice none 0 0))) 29 (0, 0)) ∧ V.heap[sb]? = some (.cells (rowN 16 (blk S)) 23 (0, 0))) := Lib.hid fun V k => HK9.out V (ho.out.trans k)
      have HOo := Lib.hid (HO9.out.trans ho.out)
      obtain ⟨m, hm⟩ : ∃ m, peakL (part (farI f S) 0 16) = m := ⟨_, rfl⟩
      rw [hm] at HOf2 ⊢
      clear hm HOff HK9 HO9 H89 ho HSb hk
      go_wp2_with fail
      refine wp_region_held_drew (S := (fun w' => w'.heap[w.heap.size]? = some (.cells (rowN 16 (blk f)) 23 (0, 0)) ∧ w'.heap[fb]? = some (.cells (rowN 29 (frC E (.slice none 0 0))) 29 (0, 0)) ∧ w'.heap[gb]? = some (.cells (rowN 29 (frC E (.slice none 0 0))) 29 (0, 0)) ∧ w'.heap[sb]? = some (.cells (rowN 16 (blk S)) 23 (0, 0)))) (by kernel_rfl) ?_ (fun hHeld => ?_)
      · (try dsimp only); exact HKo.out _ ((Old.refl wo).drew)
      have O0 : Hid (Old wo wo.drew) := Lib.hid ((Old.refl wo).drew)
      have hd55 : decide ((N : Int) < 55) = false := decide_eq_false (by omega)
      refine wpAnyH_take (i := 0) (oi := ⟨some _, _, _, _, _, _⟩) (v := ?_) rfl (by kernel_rfl) (by kernel_rfl) (by kernel_rfl) (fun _ _ _ h => h) (Or.inl ⟨by kernel_rfl, ?_⟩) (by assumption) ?_; rotate_left; (intro w hSw; (try dsimp only at hSw); go_simp; try with_reducible rfl); try simp only [Act.put, List.setIfInBounds_toArray, List.set_cons_zero, List.set_cons_succ]
      refine wpAnyH_take (i := 1) (oi := ⟨some _, _, _, _, _, _⟩) (v := ?_) rfl (by kernel_rfl) (by kernel_rfl) (by kernel_rfl) (fun _ _ _ h => h) (Or.inl ⟨by kernel_rfl, ?_⟩) (by assumption) ?_; rotate_left; (intro w hSw; (try dsimp only at hSw); go_simp; try with_reducible rfl); try simp only [Act.put, List.setIfInBounds_toArray, List.set_cons_zero, List.set_cons_succ]
      refine wpAnyH_take (i := 2) (oi := ⟨some _, _, _, _, _, _⟩) (v := ?_) rfl (by kernel_rfl) (by kernel_rfl) (by kernel_rfl) (fun _ _ _ h => h) (Or.inl ⟨by kernel_rfl, ?_⟩) (by assumption) ?_; rotate_left; (intro w hSw; (try dsimp only at hSw); go_simp; try with_reducible rfl); try simp only [Act.put, List.setIfInBounds_toArray, List.set_cons_zero, List.set_cons_succ]
      refine wpAnyH_take (i := 3) (oi := ⟨some _, _, _, _, _, _⟩) (v := .agg (rowN 16 (blk f))) rfl (by kernel_rfl) (by kernel_rfl) (by kernel_rfl) (fun _ _ _ h => h) (yieldsIf_load_row (by kernel_rfl) 23 (.tmp 3) rfl w.heap.size rfl 23 (rowN 16 (blk f)) (0, 0) _ (fun _ h => h.1) Try.underlying23 rfl (by rw [rowN_size]; exact Hs16.out)) (by assumption) ?_; try simp only [Act.put, List.setIfInBounds_toArray, List.set_cons_zero, List.set_cons_succ]
      refine wpAnyH_take (i := 4) (oi := ⟨some _, _, _, _, _, _⟩) (v := .agg (rowN 29 (frC E (.slice none 0 0)))) rfl (by kernel_rfl) (by kernel_rfl) (by kernel_rfl) (fun _ _ _ h => h) (yieldsIf_load_row (by kernel_rfl) 29 (.tmp 8) rfl gb rfl 29 (rowN 29 (frC E (.slice none 0 0))) (0, 0) _ (fun _ h => h.2.2.1) Try.underlying29 rfl (by rw [rowN_size]; exact Hs29.out)) (by assumption) ?_; try simp only [Act.put, List.setIfInBounds_toArray, List.set_cons_zero, List.set_cons_succ]
      refine wpAnyH_take (i := 6) (oi := ⟨some _, _, _, _, _, _⟩) (v := ?_) rfl (by kernel_rfl) (by kernel_rfl) (by kernel_rfl) (fun _ _ _ h => h) (Or.inl ⟨by kernel_rfl, ?_⟩) (by assumption) ?_; rotate_left; (intro w hSw; (try dsimp only at hSw); go_simp; try with_reducible rfl); try simp only [Act.put, List.setIfInBounds_toArray, List.set_cons_zero, List.set_cons_succ]
      refine wpAnyH_ready (rs := [5]) (by kernel_rfl) (by simp) ?_
      refine AllReadyH.cons (o := ⟨_, _, _, _, _, _⟩) rfl (fun K hK => ?_) AllReadyH.nil
      go_simp
      refine (HOf2.out _ O0.out).mono ?_
      rintro e U1 ⟨rfl, oo⟩
      have O1 := Lib.hid (O0.out.trans oo)
      clear oo
      go_wp2_with fail
      refine hK.out _ _ ?_ (fun hHeld => ?_)
      · (try dsimp only); exact HKo.out _ O1.out
      clear hK K
      try simp only [Act.put, List.setIfInBounds_toArray, List.set_cons_zero, List.set_cons_succ]
      refine wpAnyH_take (i := 7) (oi := ⟨some _, _, _, _, _, _⟩) (v := ?_) rfl (by kernel_rfl) (by kernel_rfl) (by kernel_rfl) (fun _ _ _ h => h) (Or.inl ⟨by kernel_rfl, ?_⟩) (by assumption) ?_; rotate_left; (intro w hSw; (try dsimp only at hSw); go_simp; try with_reducible rfl); try simp only [Act.put, List.setIfInBounds_toArray, List.set_cons_zero, List.set_cons_succ]
      refine wpAnyH_take (i := 8) (oi := ⟨some _, _, _, _, _, _⟩) (v := ?_) rfl (by kernel_rfl) (by kernel_rfl) (by kernel_rfl) (fun _ _ _ h => h) (Or.inl ⟨by kernel_rfl, ?_⟩) (by assumption) ?_; rotate_left; (intro w hSw; (try dsimp only at hSw); go_simp; try with_reducible rfl); try simp only [Act.put, List.setIfInBounds_toArray, List.set_cons_zero, List.set_cons_succ]
      refine wpAnyH_take (i := 9) (oi := ⟨some _, _, _, _, _, _⟩) (v := ?_) rfl (by kernel_rfl) (by kernel_rfl) (by kernel_rfl) (fun _ _ _ h => h) (Or.inl ⟨by kernel_rfl, ?_⟩) (by assumption) ?_; rotate_left; (intro w hSw; (try dsimp only at hSw); go_simp; try with_reducible rfl); try simp only [Act.put, List.setIfInBounds_toArray, List.set_cons_zero, List.set_cons_succ]
      refine wpAnyH_take (i := 10) (oi := ⟨some _, _, _, _, _, _⟩) (v := ?_) rfl (by kernel_rfl) (by kernel_rfl) (by kernel_rfl) (fun _ _ _ h => h) (Or.inl ⟨by kernel_rfl, ?_⟩) (by assumption) ?_; rotate_left; (intro w hSw; (try dsimp only at hSw); go_simp; try with_reducible rfl); try simp only [Act.put, List.setIfInBounds_toArray, List.set_cons_zero, List.set_cons_succ]
      refine wpAnyH_take (i := 11) (oi := ⟨some _, _, _, _, _, _⟩) (v := ?_) rfl (by kernel_rfl) (by kernel_rfl) (by kernel_rfl) (fun _ _ _ h => h) (Or.inl ⟨by kernel_rfl, ?_⟩) (by assumption) ?_; rotate_left; (intro w hSw; (try dsimp only at hSw); go_simp; try with_reducible rfl); try simp only [Act.put, List.setIfInBounds_toArray, List.set_cons_zero, List.set_cons_succ]
      refine wpAnyH_take (i := 12) (oi := ⟨some _, _, _, _, _, _⟩) (v := ?_) rfl (by kernel_rfl) (by kernel_rfl) (by kernel_rfl) (fun _ _ _ h => h) (Or.inl ⟨by kernel_rfl, ?_⟩) (by assumption) ?_; rotate_left; (intro w hSw; (try dsimp only at hSw); go_simp; try with_reducible rfl); try simp only [Act.put, List.setIfInBounds_toArray, List.set_cons_zero, List.set_cons_succ]
      refine wpAnyH_take (i := 13) (oi := ⟨some _, _, _, _, _, _⟩) (v := .agg (rowN 16 (blk S))) rfl (by kernel_rfl) (by kernel_rfl) (by kernel_rfl) (fun _ _ _ h => h) (yieldsIf_load_row (by kernel_rfl) 23 (.tmp 10) rfl sb rfl 23 (rowN 16 (blk S)) (0, 0) _ (fun _ h => h.2.2.2) Try.underlying23 rfl (by rw [rowN_size]; exact Hs16.out)) (by assumption) ?_; try simp only [Act.put, List.setIfInBounds_toArray, List.set_cons_zero, List.set_cons_succ]
      refine wpAnyH_take (i := 14) (oi := ⟨some _, _, _, _, _, _⟩) (v := .agg (rowN 16 (blk f))) rfl (by kernel_rfl) (by kernel_rfl) (by kernel_rfl) (fun _ _ _ h => h) (yieldsIf_load_row (by kernel_rfl) 23 (.tmp 3) rfl w.heap.size rfl 23 (rowN 16 (blk f)) (0, 0) _ (fun _ h => h.1) Try.underlying23 rfl (by rw [rowN_size]; exact Hs16.out)) (by assumption) ?_; try simp only [Act.put, List.setIfInBounds_toArray, List.set_cons_zero, List.set_cons_succ]
      refine wpAnyH_take (i := 15) (oi := ⟨some _, _, _, _, _, _⟩) (v := ?_) rfl (by kernel_rfl) (by kernel_rfl) (by kernel_rfl) (fun _ _ _ h => h) (Or.inl ⟨by kernel_rfl, ?_⟩) (by assumption) ?_; rotate_left; (intro w hSw; (try dsimp only at hSw); go_simp; try with_reducible rfl); try simp only [Act.put, List.setIfInBounds_toArray, List.set_cons_zero, List.set_cons_succ]
      refine wpAnyH_take (i := 16) (oi := ⟨some _, _, _, _, _, _⟩) (v := ?_) rfl (by kernel_rfl) (by kernel_rfl) (by kernel_rfl) (fun _ _ _ h => h) (Or.inl ⟨by kernel_rfl, ?_⟩) (by assumption) ?_; rotate_left; (intro w hSw; (try dsimp only at hSw); go_simp; try with_reducible rfl); try simp only [Act.put, List.setIfInBounds_toArray, List.set_cons_zero, List.set_cons_succ]
      refine wpAnyH_take (i := 17) (oi := ⟨some _, _, _, _, _, _⟩) (v := .agg (rowN 29 (frC E (.slice none 0 0)))) rfl (by kernel_rfl) (by kernel_rfl) (by kernel_rfl) (fun _ _ _ h => h) (yieldsIf_load_row (by kernel_rfl) 29 (.tmp 8) rfl gb rfl 29 (rowN 29 (frC E (.slice none 0 0))) (0, 0) _ (fun _ h => h.2.2.1) Try.underlying29 rfl (by rw [rowN_size]; exact Hs29.out)) (by assumption) ?_; try simp only [Act.put, List.setIfInBounds_toArray, List.set_cons_zero, List.set_cons_succ]
      refine wpAnyH_take (i := 18) (oi := ⟨some _, _, _, _, _, _⟩) (v := .agg (rowN 29 (frC E (.slice none 0 0)))) rfl (by kernel_rfl) (by kernel_rfl) (by kernel_rfl) (fun _ _ _ h => h) (yieldsIf_load_row (by kernel_rfl) 29 (.tmp 7) rfl fb rfl 29 (rowN 29 (frC E (.slice none 0 0))) (0, 0) _ (fun _ h => h.2.1) Try.underlying29 rfl (by rw [rowN_size]; exact Hs29.out)) (by assumption) ?_; try simp only [Act.put, List.setIfInBounds_toArray, List.set_cons_zero, List.set_cons_succ]
      refine wpAnyH_ready (rs := [19]) (by kernel_rfl) (by simp) ?_
      refine AllReadyH.cons (o := ⟨_, _, _, _, _, _⟩) rfl (fun K hK => ?_) AllReadyH.nil
      go_simp
      refine (HSame.out _).mono ?_
      rintro e U2 ⟨rfl, oo⟩
      have O2 := Lib.hid (O1.out.trans oo)
      clear oo
      go_wp2_with fail
      refine hK.out _ _ ?_ (fun hHeld => ?_)
      · (try dsimp only); exact HKo.out _ O2.out
      clear hK K
      try simp only [Act.put, List.setIfInBounds_toArray, List.set_cons_zero, List.set_cons_succ]
      refine wpAnyH_take (i := 20) (oi := ⟨some _, _, _, _, _, _⟩) (v := ?_) rfl (by kernel_rfl) (by kernel_rfl) (by kernel_rfl) (fun _ _ _ h => h) (Or.inl ⟨by kernel_rfl, ?_⟩) (by assumption) ?_; rotate_left; (intro w hSw; (try dsimp only at hSw); go_simp; try with_reducible rfl); try simp only [Act.put, List.setIfInBounds_toArray, List.set_cons_zero, List.set_cons_succ]
      refine wpAnyH_take (i := 21) (oi := ⟨some _, _, _, _, _, _⟩) (v := ?_) rfl (by kernel_rfl) (by kernel_rfl) (by kernel_rfl) (fun _ _ _ h => h) (Or.inl ⟨by kernel_rfl, ?_⟩) (by assumption) ?_; rotate_left; (intro w hSw; (try dsimp only at hSw); go_simp; try with_reducible rfl); try simp only [Act.put, List.setIfInBounds_toArray, List.set_cons_zero, List.set_cons_succ]
      refine wpAnyH_take (i := 22) (oi := ⟨some _, _, _, _, _, _⟩) (v := ?_) rfl (by kernel_rfl) (by kernel_rfl) (by kernel_rfl) (fun _ _ _ h => h) (Or.inl ⟨by kernel_rfl, ?_⟩) (by assumption) ?_; rotate_left; (intro w hSw; (try dsimp only at hSw); go_simp; try with_reducible rfl); try simp only [Act.put, List.setIfInBounds_toArray, List.set_cons_zero, List.set_cons_succ]
      refine wpAnyH_take (i := 23) (oi := ⟨some _, _, _, _, _, _⟩) (v := ?_) rfl (by kernel_rfl) (by kernel_rfl) (by kernel_rfl) (fun _ _ _ h => h) (Or.inl ⟨by kernel_rfl, ?_⟩) (by assumption) ?_; rotate_left; (intro w hSw; (try dsimp only at hSw); go_simp; try with_reducible rfl); try simp only [Act.put, List.setIfInBounds_toArray, List.set_cons_zero, List.set_cons_succ]
      refine wpAnyH_take (i := 24) (oi := ⟨some _, _, _, _, _, _⟩) (v := .agg (rowN 16 (blk f))) rfl (by kernel_rfl) (by kernel_rfl) (by kernel_rfl) (fun _ _ _ h => h) (yieldsIf_load_row (by kernel_rfl) 23 (.tmp 3) rfl w.heap.size rfl 23 (rowN 16 (blk f)) (0, 0) _ (fun _ h => h.1) Try.underlying23 rfl (by rw [rowN_size]; exact Hs16.out)) (by assumption) ?_; try simp only [Act.put, List.setIfInBounds_toArray, List.set_cons_zero, List.set_cons_succ]
      refine wpAnyH_take (i := 25) (oi := ⟨some _, _, _, _, _, _⟩) (v := .agg (rowN 29 (frC E (.slice none 0 0)))) rfl (by kernel_rfl) (by kernel_rfl) (by kernel_rfl) (fun _ _ _ h => h) (yieldsIf_load_row (by kernel_rfl) 29 (.tmp 7) rfl fb rfl 29 (rowN 29 (frC E (.slice none 0 0))) (0, 0) _ (fun _ h => h.2.1) Try.underlying29 rfl (by rw [rowN_size]; exact Hs29.out)) (by assumption) ?_; try simp only [Act.put, List.setIfInBounds_toArray, List.set_cons_zero, List.set_cons_succ]
      refine wpAnyH_ready (rs := [26]) (by kernel_rfl) (by simp) ?_
      refine AllReadyH.cons (o := ⟨_, _, _, _, _, _⟩) rfl (fun K hK => ?_) AllReadyH.nil
      go_simp
      refine (HOffE.out _).mono ?_
      rintro e U3 ⟨rfl, oo⟩
      have O3 := Lib.hid (O2.out.trans oo)
      clear oo
      go_wp2_with fail
      refine hK.out _ _ ?_ (fun hHeld => ?_)
      · (try dsimp only); exact HKo.out _ O3.out
      clear hK K
      try simp only [Act.put, List.setIfInBounds_toArray, List.set_cons_zero, List.set_cons_succ]
      refine wpAnyH_take (i := 27) (oi := ⟨some _, _, _, _, _, _⟩) (v := ?_) rfl (by kernel_rfl) (by kernel_rfl) (by kernel_rfl) (fun _ _ _ h => h) (Or.inl ⟨by kernel_rfl, ?_⟩) (by assumption) ?_; rotate_left; (intro w hSw; (try dsimp only at hSw); go_simp; try with_reducible rfl); try simp only [Act.put, List.setIfInBounds_toArray, List.set_cons_zero, List.set_cons_succ]
      refine wpAnyH_take (i := 28) (oi := ⟨some _, _, _, _, _, _⟩) (v := ?_) rfl (by kernel_rfl) (by kernel_rfl) (by kernel_rfl) (fun _ _ _ h => h) (Or.inl ⟨by kernel_rfl, ?_⟩) (by assumption) ?_; rotate_left; (intro w hSw; (try dsimp only at hSw); go_simp; try with_reducible rfl); try simp only [Act.put, List.setIfInBounds_toArray, List.set_cons_zero, List.set_cons_succ]
      refine wpAnyH_take (i := 29) (oi := ⟨some _, _, _, _, _, _⟩) (v := ?_) rfl (by kernel_rfl) (by kernel_rfl) (by kernel_rfl) (fun _ _ _ h => h) (Or.inl ⟨by kernel_rfl, ?_⟩) (by assumption) ?_; rotate_left; (intro w hSw; (try dsimp only at hSw); go_simp; try with_reducible rfl); try simp only [Act.put, List.setIfInBounds_toArray, List.set_cons_zero, List.set_cons_succ]
      refine wpAnyH_take (i := 30) (oi := ⟨some _, _, _, _, _, _⟩) (v := .agg (rowN 29 (frC E (.slice none 0 0)))) rfl (by kernel_rfl) (by kernel_rfl) (by kernel_rfl) (fun _ _ _ h => h) (yieldsIf_load_row (by kernel_rfl) 29 (.tmp 7) rfl fb rfl 29 (rowN 29 (frC E (.slice none 0 0))) (0, 0) _ (fun _ h => h.2.1) Try.underlying29 rfl (by rw [rowN_size]; exact Hs29.out)) (by assumption) ?_; try simp only [Act.put, List.setIfInBounds_toArray, List.set_cons_zero, List.set_cons_succ]
      refine wpAnyH_take (i := 32) (oi := ⟨some _, _, _, _, _, _⟩) (v := .agg (rowN 16 (blk f))) rfl (by kernel_rfl) (by kernel_rfl) (by kernel_rfl) (fun _ _ _ h => h) (yieldsIf_load_row (by kernel_rfl) 23 (.tmp 3) rfl w.heap.size rfl 23 (rowN 16 (blk f)) (0, 0) _ (fun _ h => h.1) Try.underlying23 rfl (by rw [rowN_size]; exact Hs16.out)) (by assumption) ?_; try simp only [Act.put, List.setIfInBounds_toArray, List.set_cons_zero, List.set_cons_succ]
      refine wpAnyH_ready (rs := [31]) (by kernel_rfl) (by simp) ?_
      refine AllReadyH.cons (o := ⟨_, _, _, _, _, _⟩) rfl (fun K hK => ?_) AllReadyH.nil
      go_simp
      refine (HSpE.out _).mono ?_
      rintro e U4 ⟨rfl, oo⟩
      have O4 := Lib.hid (O3.out.trans oo)
      clear oo
      go_wp2_with fail
      refine hK.out _ _ ?_ (fun hHeld => ?_)
      · (try dsimp only); exact HKo.out _ O4.out
      clear hK K
      try simp only [Act.put, List.setIfInBounds_toArray, List.set_cons_zero, List.set_cons_succ]
      refine wpAnyH_take (i := 33) (oi := ⟨some _, _, _, _, _, _⟩) (v := ?_) rfl (by kernel_rfl) (by kernel_rfl) (by kernel_rfl) (fun _ _ _ h => h) (Or.inl ⟨by kernel_rfl, ?_⟩) (by assumption) ?_; rotate_left; (intro w hSw; (try dsimp only at hSw); go_simp; try with_reducible rfl); try simp only [Act.put, List.setIfInBounds_toArray, List.set_cons_zero, List.set_cons_succ]
      refine wpAnyH_take (i := 34) (oi := ⟨some _, _, _, _, _, _⟩) (v := ?_) rfl (by kernel_rfl) (by kernel_rfl) (by kernel_rfl) (fun _ _ _ h => h) (Or.inl ⟨by kernel_rfl, ?_⟩) (by assumption) ?_; rotate_left; (intro w hSw; (try dsimp only at hSw); go_simp; try with_reducible rfl); try simp only [Act.put, List.setIfInBounds_toArray, List.set_cons_zero, List.set_cons_succ]
      refine wpAnyH_take (i := 35) (oi := ⟨some _, _, _, _, _, _⟩) (v := ?_) rfl (by kernel_rfl) (by kernel_rfl) (by kernel_rfl) (fun _ _ _ h => h) (Or.inl ⟨by kernel_rfl, ?_⟩) (by assumption) ?_; rotate_left; (intro w hSw; (try dsimp only at hSw); go_simp; try with_reducible rfl); try simp only [Act.put, List.setIfInBounds_toArray, List.set_cons_zero, List.set_cons_succ]
      refine wpAnyH_ready (rs := [36]) (by kernel_rfl) (by simp) ?_
      refine AllReadyH.cons (o := ⟨_, _, _, _, _, _⟩) rfl (fun K hK => ?_) AllReadyH.nil
      go_simp
      refine (HA.out _).mono ?_
      rintro e U5 ⟨rfl, oo⟩
      have O5 := Lib.hid (O4.out.trans oo)
      clear oo
      go_wp2_with fail
      refine hK.out _ _ ?_ (fun hHeld => ?_)
      · (try dsimp only); exact HKo.out _ O5.out
      clear hK K
      try simp only [Act.put, List.setIfInBounds_toArray, List.set_cons_zero, List.set_cons_succ]
      refine wpAnyH_take (i := 37) (oi := ⟨some _, _, _, _, _, _⟩) (v := ?_) rfl (by kernel_rfl) (by kernel_rfl) (by kernel_rfl) (fun _ _ _ h => h) (Or.inl ⟨by kernel_rfl, ?_⟩) (by assumption) ?_; rotate_left; (intro w hSw; (try dsimp only at hSw); go_simp; try with_reducible rfl); try simp only [Act.put, List.setIfInBounds_toArray, List.set_cons_zero, List.set_cons_succ]
      refine wpAnyH_take (i := 38) (oi := ⟨some _, _, _, _, _, _⟩) (v := ?_) rfl (by kernel_rfl) (by kernel_rfl) (by kernel_rfl) (fun _ _ _ h => h) (Or.inl ⟨by kernel_rfl, ?_⟩) (by assumption) ?_; rotate_left; (intro w hSw; (try dsimp only at hSw); go_simp; try with_reducible rfl); try simp only [Act.put, List.setIfInBounds_toArray, List.set_cons_zero, List.set_cons_succ]
      refine wpAnyH_done (by kernel_rfl) ?_ _
      have HR := Lib.hid (HO.out.trans (HOo.out.trans O5.out))
      clear HKo HOf2 HA HK0
      go_wp2_with fail
      go_ret
      exact ⟨rfl, HR.out⟩
set_option maxRecDepth 100000 in
set_option maxHeartbeats 16000000 in
theorem walk_search (f g : Nat → Int) (size : Int) (w : World) (hf : Fits64 f) (hs : smallP f) (hr : rightP g) (h : 24 ≤ size ∧ size < 55) :
    Calls Try.prog 5 #[.agg (rowN 16 (blk f)), .agg (rowN 4 (blk g)), .int .i64 size] w fun e w' => e = .returned (.bool true) ∧ Old w w' := by
  obtain ⟨N, rfl⟩ : ∃ N : Nat, size = N := ⟨size.toNat, by omega⟩
  have Hs4 : Hid ((Try.prog.info? 24).map (·.size) = some 4) := Lib.hid (by kernel_rfl)
  have Hs16 : Hid ((Try.prog.info? 23).map (·.size) = some 16) := Lib.hid (by kernel_rfl)
  have Hs29 : Hid ((Try.prog.info? 29).map (·.size) = some 29) := Lib.hid (by kernel_rfl)
  have HA := Lib.hid (fun w => awake_any w)
  obtain ⟨W0, hW0⟩ : ∃ W0, W0 = ((w.alloc (.cells (rowN 16 (blk f)) 23)).alloc (.cells (rowN 4 (blk g)) 24)) := ⟨_, rfl⟩
  have hb : W0.heap[w.heap.size]? = some (.cells (rowN 16 (blk f)) 23 (0, 0)) := by rw [hW0]; exact heap_alloc2_old w _ _
  have hg : W0.heap[w.heap.size + 1]? = some (.cells (rowN 4 (blk g)) 24 (0, 0)) := by rw [hW0]; exact heap_alloc2_new w _ _
  have ho : Old w W0 := by rw [hW0]; exact (Old.alloc w _).alloc' _
  have HK0 : Hid (∀ V, Old W0 V → V.heap[w.heap.size]? = some (.cells (rowN 16 (blk f)) 23 (0, 0)) ∧ V.heap[w.heap.size + 1]? = some (.cells (rowN 4 (blk g)) 24 (0, 0))) := Lib.hid fun V k => ⟨(k.block _ (lt_of_block hb)).trans hb, (k.block _ (lt_of_block hg)).trans hg⟩
  have HW0 := Lib.hid hW0
  have HO := Lib.hid ho
  clear hb hg ho hW0
  have hN := fun w => near_any f w
  rw [decide_eq_true (small_near hs)] at hN
  have HN := Lib.hid hN
  have hWi := fun w => wide_any f w hf
  rw [decide_eq_false (fun h => h hs)] at hWi
  have HWi := Lib.hid hWi
  have hRi := fun w => lright_any g w
  rw [decide_eq_true hr] at hRi
  have HRi := Lib.hid hRi
  have hEx := fun w => Exact_any f w hf
  have hmayE := exact_may gain_zero hs (fun _ => 0)
  have hspE := fun w => Spectrum_any (tolN zeroS zeroS f) none 0 0 (fun _ => 0) w (no_tones w _) (Nat.le_refl _) (Nat.zero_le _) hmayE
  have hrow : rowN 16 (blk (specF (tolN zeroS zeroS f) 0 fun _ => 0)) = rowN 16 (blk f) := rowN_ext _ _ _ fun k hk => by unfold blk; rw [spec_exact hs _ k hk]
  rw [hrow] at hspE
  have hoffE := fun w => Off_any f (tolN zeroS zeroS f) none 0 0 (fun _ => 0) w (no_tones w _) (Nat.le_refl _) (Nat.zero_le _) hmayE
  rw [off_none (fun k hk => spec_exact hs _ k hk)] at hoffE
  have hE := fun w => eq_sixteen (P := Try.prog) f f w
  rw [eqB_true.2 fun _ _ => rfl] at hE
  have HSm := Lib.hid hs
  have hFm := fun w => frame_search f g N w hf h ⟨hs, hr⟩
  have HXs := Lib.hid (rest_small hs true)
  have HTm := Lib.hid (tones_may hs (tnN f true) (Nat.le_refl _))
  have HRt := Lib.hid hr
  obtain ⟨X, hX⟩ : ∃ X, restF2 f true = X := ⟨_, rfl⟩
  obtain ⟨t, ht⟩ : ∃ t, tnN f true = t := ⟨_, rfl⟩
  obtain ⟨room, hroom⟩ : ∃ room, 8 * (N : Int) = room := ⟨_, rfl⟩
  rw [hX] at HXs
  rw [ht] at HTm
  rw [hX, ht, hroom] at hFm
  obtain ⟨E, hEd⟩ : ∃ E, tolN zeroS zeroS f = E := ⟨_, rfl⟩
  rw [hEd] at hEx hspE hoffE
  clear hX ht hroom
  have HEx := Lib.hid hEx
  have HSpE := Lib.hid hspE
  have HOffE := Lib.hid hoffE
  have HFm := Lib.hid hFm
  obtain ⟨hlo, hhi⟩ := h
  clear hN hWi hRi hEx hspE hoffE hFm hrow hmayE hEd hs hr hf
  go_enter Try.func5, Try.ntmps5
  go_wp2_with (rw [← HW0.out]; with_reducible refine wpList_load_row rfl 23 _ rfl w.heap.size rfl 23 (rowN 16 (blk f)) (0, 0) _ (HK0.out _ (Old.refl _)).1 Try.underlying23 rfl (by rw [rowN_size]; exact Hs16.out) ?_)
  clear HW0
  refine (HN.out _).mono ?_
  rintro e V1 ⟨rfl, o1⟩
  have HK1 := Lib.hid (HK0.out _ o1)
  have HO1 := Lib.hid o1
  clear o1 HN
  go_wp2_with (with_reducible refine wpList_load_row_w (by kernel_rfl) 23 _ rfl w.heap.size rfl 23 (rowN 16 (blk f)) (0, 0) _ HK1.out.1 Try.underlying23 rfl (by rw [rowN_size]; exact Hs16.out) ?_)
  refine (HWi.out _).mono ?_
  rintro e V2 ⟨rfl, o2⟩
  have HO2 := Lib.hid (HO1.out.trans o2)
  have HK2 := Lib.hid (HK0.out _ HO2.out)
  clear o2 HK1 HO1 HWi
  go_wp2_with (with_reducible refine wpList_load_row_w (by kernel_rfl) 24 _ rfl (w.heap.size + 1) rfl 24 (rowN 4 (blk g)) (0, 0) _ HK2.out.2 Try.underlying24 rfl (by rw [rowN_size]; exact Hs4.out) ?_)
  refine (HRi.out _).mono ?_
  rintro e V3 ⟨rfl, o3⟩
  have HO3 := Lib.hid (HO2.out.trans o3)
  have HK3 := Lib.hid (HK0.out _ HO3.out)
  clear o3 HK2 HO2 HRi
  go_wp2_with (with_reducible refine wpList_load_row rfl 23 _ rfl w.heap.size rfl 23 (rowN 16 (blk f)) (0, 0) _ HK3.out.1 Try.underlying23 rfl (by rw [rowN_size]; exact Hs16.out) ?_)
  refine (HEx.out _).mono ?_
  rintro e V4 ⟨rfl, o4⟩
  have H1 : Hid ((rowN 29 (frC E (.slice none 0 0))).all (·.oneCell') = true) := Lib.hid (frC_one _ _ rfl)
  have oo := o4.alloc' (.cells (rowN 29 (frC E (.slice none 0 0))) 29)
  have HOV5 := Lib.hid (HO3.out.trans oo)
  have HKV5 := Lib.hid (HK0.out _ HOV5.out)
  have HFV5 := Lib.hid (heap_alloc_new V4 (.cells (rowN 29 (frC E (.slice none 0 0))) 29))
  obtain ⟨V5, hV⟩ : ∃ V, V = V4.alloc (.cells (rowN 29 (frC E (.slice none 0 0))) 29) := ⟨_, rfl⟩
  obtain ⟨fb, hfb⟩ : ∃ q, q = V4.heap.size := ⟨_, rfl⟩
  rw [← hV] at HOV5 HKV5 
  rw [← hV, ← hfb] at HFV5
  have HVV5 := Lib.hid hV
  have HqV5 := Lib.hid hfb
  clear hV hfb oo
  clear o4 HK3 HO3 HEx
  go_wp2_with (first | (with_reducible refine wpList_store_row rfl 29 _ _ rfl V4.heap.size (rowN 29 (frC E (.slice none 0 0))) rfl rfl 29 _ (heap_alloc_new _ _) (by rw [rowN_size]; exact Hs29.out) (by rw [rowN_size]; kernel_rfl) H1.out ?_; rw [World.setRow_alloc_new, ← HVV5.out, ← HqV5.out]) | (with_reducible refine wpList_load_row rfl 23 _ rfl w.heap.size rfl 23 (rowN 16 (blk f)) (0, 0) _ HKV5.out.1 Try.underlying23 rfl (by rw [rowN_size]; exact Hs16.out) ?_) | (with_reducible refine wpList_load_row rfl 24 _ rfl (w.heap.size + 1) rfl 24 (rowN 4 (blk g)) (0, 0) _ HKV5.out.2 Try.underlying24 rfl (by rw [rowN_size]; exact Hs4.out) ?_))
  clear HVV5 HqV5 H1
  refine (HFm.out _).mono ?_
  rintro e V6 ⟨n, p, cap, rfl, hst, t2, tc, cm, hsl, o6⟩
  obtain ⟨F, hF⟩ : ∃ F, tolN g (sclN X n) X = F := ⟨_, rfl⟩
  have hmay : FrP F t (toneF f) := by rw [← hF]; exact tol_may HRt.out (scl_inv X t room n hst.no).1 HXs.out t2 HTm.out
  have HMay := Lib.hid hmay
  have Hcm := Lib.hid cm
  have Htc := Lib.hid tc
  rw [hF]
  clear hF hst hmay cm tc HXs HTm HRt
  have H1 : Hid ((rowN 29 (frC F (.slice p t cap))).all (·.oneCell') = true) := Lib.hid (frC_one _ _ rfl)
  have oo := o6.alloc' (.cells (rowN 29 (frC F (.slice p t cap))) 29)
  have HOV7 := Lib.hid (HOV5.out.trans oo)
  have HKV7 := Lib.hid (HK0.out _ HOV7.out)
  have HFV7 := Lib.hid (heap_alloc_new V6 (.cells (rowN 29 (frC F (.slice p t cap))) 29))
  have HX7 := Lib.hid (((o6.alloc' (.cells (rowN 29 (frC F (.slice p t cap))) 29)).block _ (lt_of_block HFV5.out)).trans HFV5.out)
  have HSl := Lib.hid (hsl.old (Old.alloc V6 (.cells (rowN 29 (frC F (.slice p t cap))) 29)))
  obtain ⟨V7, hV⟩ : ∃ V, V = V6.alloc (.cells (rowN 29 (frC F (.slice p t cap))) 29) := ⟨_, rfl⟩
  obtain ⟨gb, hfb⟩ : ∃ q, q = V6.heap.size := ⟨_, rfl⟩
  rw [← hV] at HOV7 HKV7 HX7 HSl
  rw [← hV, ← hfb] at HFV7
  have HVV7 := Lib.hid hV
  have HqV7 := Lib.hid hfb
  clear hV hfb oo
  clear o6 HKV5 HOV5 HFV5 HFm hsl
  go_wp2_with (first | (with_reducible refine wpList_store_row rfl 29 _ _ rfl V6.heap.size (rowN 29 (frC F (.slice p t cap))) rfl rfl 29 _ (heap_alloc_new _ _) (by rw [rowN_size]; exact Hs29.out) (by rw [rowN_size]; kernel_rfl) H1.out ?_; rw [World.setRow_alloc_new, ← HVV7.out, ← HqV7.out]) | (with_reducible refine wpList_load_row rfl 29 _ rfl gb rfl 29 (rowN 29 (frC F (.slice p t cap))) (0, 0) _ HFV7.out Try.underlying29 rfl (by rw [rowN_size]; exact Hs29.out) ?_))
  clear HVV7 HqV7 H1
  refine (Spectrum_any F p t cap (toneF f) _ HSl.out Htc.out Hcm.out HMay.out).mono ?_
  rintro e V8 ⟨rfl, o8⟩
  obtain ⟨S, hS⟩ : ∃ S, specF F t (toneF f) = S := ⟨_, rfl⟩
  have hSb : ∀ k, k < 16 → -2147483648 ≤ S k ∧ S k ≤ 2147483648 := fun k hk => by rw [← hS]; exact spec_bd _ _ _ k hk
  have hoff := fun W (k : Old V8 W) => Off_any f F p t cap (toneF f) W (HSl.out.old (o8.trans k)) Htc.out Hcm.out HMay.out
  rw [hS] at hoff ⊢
  have HOff := Lib.hid hoff
  have HSb := Lib.hid hSb
  have H1 : Hid ((rowN 16 (blk S)).all (·.oneCell') = true) := Lib.hid (blk_one _ _)
  have oo := o8.alloc' (.cells (rowN 16 (blk S)) 23)
  have HO9 := Lib.hid (HOV7.out.trans oo)
  have HX9 := Lib.hid ((oo.block _ (lt_of_block HX7.out)).trans HX7.out)
  have HF9 := Lib.hid ((oo.block _ (lt_of_block HFV7.out)).trans HFV7.out)
  have HS9 := Lib.hid (heap_alloc_new V8 (.cells (rowN 16 (blk S)) 23))
  have H89 := Lib.hid (Old.alloc V8 (.cells (rowN 16 (blk S)) 23))
  clear hoff hSb o8 oo HX7 HFV7 HOV7 HKV7 hS HSl
  go_wp2_with (with_reducible refine wpList_store_row rfl 23 _ _ rfl V8.heap.size (rowN 16 (blk S)) rfl rfl 23 _ (heap_alloc_new _ _) (by rw [rowN_size]; exact Hs16.out) (by rw [rowN_size]; kernel_rfl) H1.out ?_; rw [World.setRow_alloc_new])
  obtain ⟨V9, hV9⟩ : ∃ V, V = V8.alloc (.cells (rowN 16 (blk S)) 23) := ⟨_, rfl⟩
  obtain ⟨sb, hsb⟩ : ∃ q, q = V8.heap.size := ⟨_, rfl⟩
  rw [← hV9] at HO9 HX9 HF9 H89
  rw [← hV9, ← hsb] at HS9
  rw [← hV9, ← hsb]
  clear hV9 hsb H1
  have HK9 : Hid (∀ V, Old V9 V → V.heap[w.heap.size]? = some (.cells (rowN 16 (blk f)) 23 (0, 0)) ∧ V.heap[fb]? = some (.cells (rowN 29 (frC E (.slice none 0 0))) 29 (0, 0)) ∧ V.heap[gb]? = some (.cells (rowN 29 (frC F (.slice p t cap))) 29 (0, 0)) ∧ V.heap[sb]? = some (.cells (rowN 16 (blk S)) 23 (0, 0))) := Lib.hid fun V k => ⟨(HK0.out _ (HO9.out.trans k)).1, (k.block _ (lt_of_block HX9.out)).trans HX9.out, (k.block _ (lt_of_block HF9.out)).trans HF9.out, (k.block _ (lt_of_block HS9.out)).trans HS9.out⟩
  clear HX9 HF9 HS9
  go_loopw [11, 12] (fun a i wr => ∃ k : Nat, k ≤ 16 ∧ i = .int .i64 k ∧ a = .int .i64 (peakL (part (farI f S) 0 k)) ∧ Hid (Old V9 wr)) (fun _ i _ => 16 - (intOf i).toNat)
  case atStart => exact ⟨0, by omega, rfl, rfl, Lib.hid (Old.refl _)⟩
  case round =>
    obtain ⟨k, hk, rfl, rfl, ho⟩ := hrel
    obtain ⟨wo, rfl⟩ : ∃ V, V = wr := ⟨_, rfl⟩
    by_cases hlt : k < 16
    · have k1 : (0 : Int) ≤ k := by omega
      have k2 : (k : Int) < 16 := by omega
      obtain ⟨x1, x2, x3, x4⟩ := HK9.out _ ho.out
      have c1 := (cell_of_row _ _ _ _ _ _ x1).trans (blk_at 16 f k hlt)
      have c2 := (cell_of_row _ _ _ _ _ _ x4).trans (blk_at 16 S k hlt)
      obtain ⟨a1, a2⟩ := HSm.out k hlt
      obtain ⟨b1, b2⟩ := HSb.out k hlt
      have hnx : peakL (part (farI f S) 0 (k + 1)) = max (peakL (part (farI f S) 0 k)) (absI (S k - f k)) := by
        rw [part_snoc, peakL_one, Nat.zero_add]
        unfold farI
        rw [far_abs a1 a2 b1 b2]
      have HNx := Lib.hid hnx
      have hpb := peakL_in (part (farI f S) 0 k) (part_in (farI_fits f S) 0 k)
      clear x1 x2 x3 x4 hnx
      generalize peakL (part (farI f S) 0 k) = m at *
      generalize f k = x at *
      generalize S k = y at *
      obtain ⟨v, hv⟩ : ∃ v, y - x = v := ⟨_, rfl⟩
      have q1 : wrap64 (y - x) = v := by rw [IntWalk.wrap64_in _ (by omega)]; exact hv
      have q2 : IntKind.i64.wrap (y - x) = v := by rw [IntWalk.i64_in _ (by omega)]; exact hv
      have HAb := Lib.hid (fun w => Abs_any v w (by omega) (by omega))
      have hab := absI_bd v (by omega) (by omega)
      rw [hv] at HNx
      clear hv
      generalize absI v = a at *
      go_wp2_with fail
      go_quiet ((go_at_call 21; with_reducible exact Calls.quiet_of_same ((HAb.out _).mono fun _ _ hh => ⟨hh.1, hh.2.symm⟩)))
      by_cases c : m < a
      · have hmx : max m a = a := by omega
        rw [hmx] at HNx
        clear hmx
        go_wp2_with fail
        go_roundw
        case rel => exact ⟨k + 1, by omega, by go_num, by rw [HNx.out], Lib.hid (ho.out.drewN _)⟩
        case measure => simp [intOf]; omega
      · have hmx : max m a = m := by omega
        rw [hmx] at HNx
        clear hmx
        go_wp2_with fail
        go_roundw
        case rel => exact ⟨k + 1, by omega, by go_num, by rw [HNx.out], Lib.hid (ho.out.drewN _)⟩
        case measure => simp [intOf]; omega
    · obtain rfl : k = 16 := by omega
      have HOf2 : Hid (∀ W, Old wo W → Calls Try.prog 22 #[.agg (rowN 16 (blk f)), .agg (rowN 29 (frC F (.slice p t cap)))] W fun e w' => e = .returned (.int .i64 (peakL (part (farI f S) 0 16))) ∧ Old W w') := Lib.hid fun W k => HOff.out W (H89.out.trans (ho.out.trans k))
      have HKo : Hid (∀ V, Old wo V → V.heap[w.heap.size]? = some (.cells (rowN 16 (blk f)) 23 (0, 0)) ∧ V.heap[fb]? = some (.cells (rowN 29 (frC E (.slice none 0 0))) 29 (0, 0)) ∧ V.heap[gb]? = some (.cells (rowN 29 (frC F (.slice p t cap))) 29 (0, 0)) ∧ V.heap[sb]? = some (.cells (rowN 16 (blk S)) 23 (0, 0))) := Lib.hid fun V k => HK9.out V (ho.out.trans k)
      have HOo := Lib.hid (HO9.out.trans ho.out)
      obtain ⟨m, hm⟩ : ∃ m, peakL (part (farI f S) 0 16) = m := ⟨_, rfl⟩
      rw [hm] at HOf2 ⊢
      clear hm HOff HK9 HO9 H89 ho HSb hk
      go_wp2_with fail
      refine wp_region_held_drew (S := (fun w' => w'.heap[w.heap.size]? = some (.cells (rowN 16 (blk f)) 23 (0, 0)) ∧ w'.heap[fb]? = some (.cells (rowN 29 (frC E (.slice none 0 0))) 29 (0, 0)) ∧ w'.heap[gb]? = some (.cells (rowN 29 (frC F (.slice p t cap))) 29 (0, 0)) ∧ w'.heap[sb]? = some (.cells (rowN 16 (blk S)) 23 (0, 0)))) (by kernel_rfl) ?_ (fun hHeld => ?_)
      · (try dsimp only); exact HKo.out _ ((Old.refl wo).drew)
      have O0 : Hid (Old wo wo.drew) := Lib.hid ((Old.refl wo).drew)
      refine wpAnyH_take (i := 0) (oi := ⟨some _, _, _, _, _, _⟩) (v := ?_) rfl (by kernel_rfl) (by kernel_rfl) (by kernel_rfl) (fun _ _ _ h => h) (Or.inl ⟨by kernel_rfl, ?_⟩) (by assumption) ?_; rotate_left; (intro w hSw; (try dsimp only at hSw); go_simp; try with_reducible rfl); try simp only [Act.put, List.setIfInBounds_toArray, List.set_cons_zero, List.set_cons_succ]
      refine wpAnyH_take (i := 1) (oi := ⟨some _, _, _, _, _, _⟩) (v := ?_) rfl (by kernel_rfl) (by kernel_rfl) (by kernel_rfl) (fun _ _ _ h => h) (Or.inl ⟨by kernel_rfl, ?_⟩) (by assumption) ?_; rotate_left; (intro w hSw; (try dsimp only at hSw); go_simp; try with_reducible rfl); try simp only [Act.put, List.setIfInBounds_toArray, List.set_cons_zero, List.set_cons_succ]
      refine wpAnyH_take (i := 2) (oi := ⟨some _, _, _, _, _, _⟩) (v := ?_) rfl (by kernel_rfl) (by kernel_rfl) (by kernel_rfl) (fun _ _ _ h => h) (Or.inl ⟨by kernel_rfl, ?_⟩) (by assumption) ?_; rotate_left; (intro w hSw; (try dsimp only at hSw); go_simp; try with_reducible rfl); try simp only [Act.put, List.setIfInBounds_toArray, List.set_cons_zero, List.set_cons_succ]
      refine wpAnyH_take (i := 3) (oi := ⟨some _, _, _, _, _, _⟩) (v := .agg (rowN 16 (blk f))) rfl (by kernel_rfl) (by kernel_rfl) (by kernel_rfl) (fun _ _ _ h => h) (yieldsIf_load_row (by kernel_rfl) 23 (.tmp 3) rfl w.heap.size rfl 23 (rowN 16 (blk f)) (0, 0) _ (fun _ h => h.1) Try.underlying23 rfl (by rw [rowN_size]; exact Hs16.out)) (by assumption) ?_; try simp only [Act.put, List.setIfInBounds_toArray, List.set_cons_zero, List.set_cons_succ]
      refine wpAnyH_take (i := 4) (oi := ⟨some _, _, _, _, _, _⟩) (v := .agg (rowN 29 (frC F (.slice p t cap)))) rfl (by kernel_rfl) (by kernel_rfl) (by kernel_rfl) (fun _ _ _ h => h) (yieldsIf_load_row (by kernel_rfl) 29 (.tmp 8) rfl gb rfl 29 (rowN 29 (frC F (.slice p t cap))) (0, 0) _ (fun _ h => h.2.2.1) Try.underlying29 rfl (by rw [rowN_size]; exact Hs29.out)) (by assumption) ?_; try simp only [Act.put, List.setIfInBounds_toArray, List.set_cons_zero, List.set_cons_succ]
      refine wpAnyH_take (i := 6) (oi := ⟨some _, _, _, _, _, _⟩) (v := ?_) rfl (by kernel_rfl) (by kernel_rfl) (by kernel_rfl) (fun _ _ _ h => h) (Or.inl ⟨by kernel_rfl, ?_⟩) (by assumption) ?_; rotate_left; (intro w hSw; (try dsimp only at hSw); go_simp; try with_reducible rfl); try simp only [Act.put, List.setIfInBounds_toArray, List.set_cons_zero, List.set_cons_succ]
      refine wpAnyH_ready (rs := [5]) (by kernel_rfl) (by simp) ?_
      refine AllReadyH.cons (o := ⟨_, _, _, _, _, _⟩) rfl (fun K hK => ?_) AllReadyH.nil
      go_simp
      refine (HOf2.out _ O0.out).mono ?_
      rintro e U1 ⟨rfl, oo⟩
      have O1 := Lib.hid (O0.out.trans oo)
      clear oo
      go_wp2_with fail
      refine hK.out _ _ ?_ (fun hHeld => ?_)
      · (try dsimp only); exact HKo.out _ O1.out
      clear hK K
      try simp only [Act.put, List.setIfInBounds_toArray, List.set_cons_zero, List.set_cons_succ]
      refine wpAnyH_take (i := 7) (oi := ⟨some _, _, _, _, _, _⟩) (v := ?_) rfl (by kernel_rfl) (by kernel_rfl) (by kernel_rfl) (fun _ _ _ h => h) (Or.inl ⟨by kernel_rfl, ?_⟩) (by assumption) ?_; rotate_left; (intro w hSw; (try dsimp only at hSw); go_simp; try with_reducible rfl); try simp only [Act.put, List.setIfInBounds_toArray, List.set_cons_zero, List.set_cons_succ]
      refine wpAnyH_take (i := 8) (oi := ⟨some _, _, _, _, _, _⟩) (v := ?_) rfl (by kernel_rfl) (by kernel_rfl) (by kernel_rfl) (fun _ _ _ h => h) (Or.inl ⟨by kernel_rfl, ?_⟩) (by assumption) ?_; rotate_left; (intro w hSw; (try dsimp only at hSw); go_simp; try with_reducible rfl); try simp only [Act.put, List.setIfInBounds_toArray, List.set_cons_zero, List.set_cons_succ]
      refine wpAnyH_take (i := 9) (oi := ⟨some _, _, _, _, _, _⟩) (v := ?_) rfl (by kernel_rfl) (by kernel_rfl) (by kernel_rfl) (fun _ _ _ h => h) (Or.inl ⟨by kernel_rfl, ?_⟩) (by assumption) ?_; rotate_left; (intro w hSw; (try dsimp only at hSw); go_simp; try with_reducible rfl); try simp only [Act.put, List.setIfInBounds_toArray, List.set_cons_zero, List.set_cons_succ]
      refine wpAnyH_take (i := 10) (oi := ⟨some _, _, _, _, _, _⟩) (v := ?_) rfl (by kernel_rfl) (by kernel_rfl) (by kernel_rfl) (fun _ _ _ h => h) (Or.inl ⟨by kernel_rfl, ?_⟩) (by assumption) ?_; rotate_left; (intro w hSw; (try dsimp only at hSw); go_simp; try with_reducible rfl); try simp only [Act.put, List.setIfInBounds_toArray, List.set_cons_zero, List.set_cons_succ]
      refine wpAnyH_take (i := 11) (oi := ⟨some _, _, _, _, _, _⟩) (v := ?_) rfl (by kernel_rfl) (by kernel_rfl) (by kernel_rfl) (fun _ _ _ h => h) (Or.inl ⟨by kernel_rfl, ?_⟩) (by assumption) ?_; rotate_left; (intro w hSw; (try dsimp only at hSw); go_simp; try with_reducible rfl); try simp only [Act.put, List.setIfInBounds_toArray, List.set_cons_zero, List.set_cons_succ]
      refine wpAnyH_take (i := 12) (oi := ⟨some _, _, _, _, _, _⟩) (v := ?_) rfl (by kernel_rfl) (by kernel_rfl) (by kernel_rfl) (fun _ _ _ h => h) (Or.inl ⟨by kernel_rfl, ?_⟩) (by assumption) ?_; rotate_left; (intro w hSw; (try dsimp only at hSw); go_simp; try with_reducible rfl); try simp only [Act.put, List.setIfInBounds_toArray, List.set_cons_zero, List.set_cons_succ]
      refine wpAnyH_take (i := 13) (oi := ⟨some _, _, _, _, _, _⟩) (v := undef) rfl (by kernel_rfl) (by kernel_rfl) (by kernel_rfl) (fun _ _ _ h => h) (Or.inr ⟨by kernel_rfl, rfl⟩) (by assumption) ?_; try simp only [Act.put, List.setIfInBounds_toArray, List.set_cons_zero, List.set_cons_succ]
      refine wpAnyH_take (i := 14) (oi := ⟨some _, _, _, _, _, _⟩) (v := undef) rfl (by kernel_rfl) (by kernel_rfl) (by kernel_rfl) (fun _ _ _ h => h) (Or.inr ⟨by kernel_rfl, rfl⟩) (by assumption) ?_; try simp only [Act.put, List.setIfInBounds_toArray, List.set_cons_zero, List.set_cons_succ]
      refine wpAnyH_take (i := 15) (oi := ⟨some _, _, _, _, _, _⟩) (v := undef) rfl (by kernel_rfl) (by kernel_rfl) (by kernel_rfl) (fun _ _ _ h => h) (Or.inr ⟨by kernel_rfl, rfl⟩) (by assumption) ?_; try simp only [Act.put, List.setIfInBounds_toArray, List.set_cons_zero, List.set_cons_succ]
      refine wpAnyH_take (i := 16) (oi := ⟨some _, _, _, _, _, _⟩) (v := undef) rfl (by kernel_rfl) (by kernel_rfl) (by kernel_rfl) (fun _ _ _ h => h) (Or.inr ⟨by kernel_rfl, rfl⟩) (by assumption) ?_; try simp only [Act.put, List.setIfInBounds_toArray, List.set_cons_zero, List.set_cons_succ]
      refine wpAnyH_take (i := 17) (oi := ⟨some _, _, _, _, _, _⟩) (v := undef) rfl (by kernel_rfl) (by kernel_rfl) (by kernel_rfl) (fun _ _ _ h => h) (Or.inr ⟨by kernel_rfl, rfl⟩) (by assumption) ?_; try simp only [Act.put, List.setIfInBounds_toArray, List.set_cons_zero, List.set_cons_succ]
      refine wpAnyH_take (i := 18) (oi := ⟨some _, _, _, _, _, _⟩) (v := undef) rfl (by kernel_rfl) (by kernel_rfl) (by kernel_rfl) (fun _ _ _ h => h) (Or.inr ⟨by kernel_rfl, rfl⟩) (by assumption) ?_; try simp only [Act.put, List.setIfInBounds_toArray, List.set_cons_zero, List.set_cons_succ]
      refine wpAnyH_take (i := 19) (oi := ⟨some _, _, _, _, _, _⟩) (v := undef) rfl (by kernel_rfl) (by kernel_rfl) (by kernel_rfl) (fun _ _ _ h => h) (Or.inr ⟨by kernel_rfl, rfl⟩) (by assumption) ?_; try simp only [Act.put, List.setIfInBounds_toArray, List.set_cons_zero, List.set_cons_succ]
      refine wpAnyH_take (i := 20) (oi := ⟨some _, _, _, _, _, _⟩) (v := undef) rfl (by kernel_rfl) (by kernel_rfl) (by kernel_rfl) (fun _ _ _ h => h) (Or.inr ⟨by kernel_rfl, rfl⟩) (by assumption) ?_; try simp only [Act.put, List.setIfInBounds_toArray, List.set_cons_zero, List.set_cons_succ]
      refine wpAnyH_take (i := 21) (oi := ⟨some _, _, _, _, _, _⟩) (v := ?_) rfl (by kernel_rfl) (by kernel_rfl) (by kernel_rfl) (fun _ _ _ h => h) (Or.inl ⟨by kernel_rfl, ?_⟩) (by assumption) ?_; rotate_left; (intro w hSw; (try dsimp only at hSw); go_simp; try with_reducible rfl); try simp only [Act.put, List.setIfInBounds_toArray, List.set_cons_zero, List.set_cons_succ]
      refine wpAnyH_take (i := 22) (oi := ⟨some _, _, _, _, _, _⟩) (v := ?_) rfl (by kernel_rfl) (by kernel_rfl) (by kernel_rfl) (fun _ _ _ h => h) (Or.inl ⟨by kernel_rfl, ?_⟩) (by assumption) ?_; rotate_left; (intro w hSw; (try dsimp only at hSw); go_simp; try with_reducible rfl); try simp only [Act.put, List.setIfInBounds_toArray, List.set_cons_zero, List.set_cons_succ]
      refine wpAnyH_take (i := 23) (oi := ⟨some _, _, _, _, _, _⟩) (v := ?_) rfl (by kernel_rfl) (by kernel_rfl) (by kernel_rfl) (fun _ _ _ h => h) (Or.inl ⟨by kernel_rfl, ?_⟩) (by assumption) ?_; rotate_left; (intro w hSw; (try dsimp only at hSw); go_simp; try with_reducible rfl); try simp only [Act.put, List.setIfInBounds_toArray, List.set_cons_zero, List.set_cons_succ]
      refine wpAnyH_take (i := 24) (oi := ⟨some _, _, _, _, _, _⟩) (v := .agg (rowN 16 (blk f))) rfl (by kernel_rfl) (by kernel_rfl) (by kernel_rfl) (fun _ _ _ h => h) (yieldsIf_load_row (by kernel_rfl) 23 (.tmp 3) rfl w.heap.size rfl 23 (rowN 16 (blk f)) (0, 0) _ (fun _ h => h.1) Try.underlying23 rfl (by rw [rowN_size]; exact Hs16.out)) (by assumption) ?_; try simp only [Act.put, List.setIfInBounds_toArray, List.set_cons_zero, List.set_cons_succ]
      refine wpAnyH_take (i := 25) (oi := ⟨some _, _, _, _, _, _⟩) (v := .agg (rowN 29 (frC E (.slice none 0 0)))) rfl (by kernel_rfl) (by kernel_rfl) (by kernel_rfl) (fun _ _ _ h => h) (yieldsIf_load_row (by kernel_rfl) 29 (.tmp 7) rfl fb rfl 29 (rowN 29 (frC E (.slice none 0 0))) (0, 0) _ (fun _ h => h.2.1) Try.underlying29 rfl (by rw [rowN_size]; exact Hs29.out)) (by assumption) ?_; try simp only [Act.put, List.setIfInBounds_toArray, List.set_cons_zero, List.set_cons_succ]
      refine wpAnyH_ready (rs := [26]) (by kernel_rfl) (by simp) ?_
      refine AllReadyH.cons (o := ⟨_, _, _, _, _, _⟩) rfl (fun K hK => ?_) AllReadyH.nil
      go_simp
      refine (HOffE.out _).mono ?_
      rintro e U2 ⟨rfl, oo⟩
      have O2 := Lib.hid (O1.out.trans oo)
      clear oo
      go_wp2_with fail
      refine hK.out _ _ ?_ (fun hHeld => ?_)
      · (try dsimp only); exact HKo.out _ O2.out
      clear hK K
      try simp only [Act.put, List.setIfInBounds_toArray, List.set_cons_zero, List.set_cons_succ]
      refine wpAnyH_take (i := 27) (oi := ⟨some _, _, _, _, _, _⟩) (v := ?_) rfl (by kernel_rfl) (by kernel_rfl) (by kernel_rfl) (fun _ _ _ h => h) (Or.inl ⟨by kernel_rfl, ?_⟩) (by assumption) ?_; rotate_left; (intro w hSw; (try dsimp only at hSw); go_simp; try with_reducible rfl); try simp only [Act.put, List.setIfInBounds_toArray, List.set_cons_zero, List.set_cons_succ]
      refine wpAnyH_take (i := 28) (oi := ⟨some _, _, _, _, _, _⟩) (v := ?_) rfl (by kernel_rfl) (by kernel_rfl) (by kernel_rfl) (fun _ _ _ h => h) (Or.inl ⟨by kernel_rfl, ?_⟩) (by assumption) ?_; rotate_left; (intro w hSw; (try dsimp only at hSw); go_simp; try with_reducible rfl); try simp only [Act.put, List.setIfInBounds_toArray, List.set_cons_zero, List.set_cons_succ]
      refine wpAnyH_take (i := 29) (oi := ⟨some _, _, _, _, _, _⟩) (v := ?_) rfl (by kernel_rfl) (by kernel_rfl) (by kernel_rfl) (fun _ _ _ h => h) (Or.inl ⟨by kernel_rfl, ?_⟩) (by assumption) ?_; rotate_left; (intro w hSw; (try dsimp only at hSw); go_simp; try with_reducible rfl); try simp only [Act.put, List.setIfInBounds_toArray, List.set_cons_zero, List.set_cons_succ]
      refine wpAnyH_take (i := 30) (oi := ⟨some _, _, _, _, _, _⟩) (v := .agg (rowN 29 (frC E (.slice none 0 0)))) rfl (by kernel_rfl) (by kernel_rfl) (by kernel_rfl) (fun _ _ _ h => h) (yieldsIf_load_row (by kernel_rfl) 29 (.tmp 7) rfl fb rfl 29 (rowN 29 (frC E (.slice none 0 0))) (0, 0) _ (fun _ h => h.2.1) Try.underlying29 rfl (by rw [rowN_size]; exact Hs29.out)) (by assumption) ?_; try simp only [Act.put, List.setIfInBounds_toArray, List.set_cons_zero, List.set_cons_succ]
      refine wpAnyH_take (i := 32) (oi := ⟨some _, _, _, _, _, _⟩) (v := .agg (rowN 16 (blk f))) rfl (by kernel_rfl) (by kernel_rfl) (by kernel_rfl) (fun _ _ _ h => h) (yieldsIf_load_row (by kernel_rfl) 23 (.tmp 3) rfl w.heap.size rfl 23 (rowN 16 (blk f)) (0, 0) _ (fun _ h => h.1) Try.underlying23 rfl (by rw [rowN_size]; exact Hs16.out)) (by assumption) ?_; try simp only [Act.put, List.setIfInBounds_toArray, List.set_cons_zero, List.set_cons_succ]
      refine wpAnyH_ready (rs := [31]) (by kernel_rfl) (by simp) ?_
      refine AllReadyH.cons (o := ⟨_, _, _, _, _, _⟩) rfl (fun K hK => ?_) AllReadyH.nil
      go_simp
      refine (HSpE.out _).mono ?_
      rintro e U3 ⟨rfl, oo⟩
      have O3 := Lib.hid (O2.out.trans oo)
      clear oo
      go_wp2_with fail
      refine hK.out _ _ ?_ (fun hHeld => ?_)
      · (try dsimp only); exact HKo.out _ O3.out
      clear hK K
      try simp only [Act.put, List.setIfInBounds_toArray, List.set_cons_zero, List.set_cons_succ]
      refine wpAnyH_take (i := 33) (oi := ⟨some _, _, _, _, _, _⟩) (v := ?_) rfl (by kernel_rfl) (by kernel_rfl) (by kernel_rfl) (fun _ _ _ h => h) (Or.inl ⟨by kernel_rfl, ?_⟩) (by assumption) ?_; rotate_left; (intro w hSw; (try dsimp only at hSw); go_simp; try with_reducible rfl); try simp only [Act.put, List.setIfInBounds_toArray, List.set_cons_zero, List.set_cons_succ]
      refine wpAnyH_take (i := 34) (oi := ⟨some _, _, _, _, _, _⟩) (v := ?_) rfl (by kernel_rfl) (by kernel_rfl) (by kernel_rfl) (fun _ _ _ h => h) (Or.inl ⟨by kernel_rfl, ?_⟩) (by assumption) ?_; rotate_left; (intro w hSw; (try dsimp only at hSw); go_simp; try with_reducible rfl); try simp only [Act.put, List.setIfInBounds_toArray, List.set_cons_zero, List.set_cons_succ]
      refine wpAnyH_take (i := 35) (oi := ⟨some _, _, _, _, _, _⟩) (v := ?_) rfl (by kernel_rfl) (by kernel_rfl) (by kernel_rfl) (fun _ _ _ h => h) (Or.inl ⟨by kernel_rfl, ?_⟩) (by assumption) ?_; rotate_left; (intro w hSw; (try dsimp only at hSw); go_simp; try with_reducible rfl); try simp only [Act.put, List.setIfInBounds_toArray, List.set_cons_zero, List.set_cons_succ]
      refine wpAnyH_ready (rs := [36]) (by kernel_rfl) (by simp) ?_
      refine AllReadyH.cons (o := ⟨_, _, _, _, _, _⟩) rfl (fun K hK => ?_) AllReadyH.nil
      go_simp
      refine (HA.out _).mono ?_
      rintro e U4 ⟨rfl, oo⟩
      have O4 := Lib.hid (O3.out.trans oo)
      clear oo
      go_wp2_with fail
      refine hK.out _ _ ?_ (fun hHeld => ?_)
      · (try dsimp only); exact HKo.out _ O4.out
      clear hK K
      try simp only [Act.put, List.setIfInBounds_toArray, List.set_cons_zero, List.set_cons_succ]
      refine wpAnyH_take (i := 37) (oi := ⟨some _, _, _, _, _, _⟩) (v := ?_) rfl (by kernel_rfl) (by kernel_rfl) (by kernel_rfl) (fun _ _ _ h => h) (Or.inl ⟨by kernel_rfl, ?_⟩) (by assumption) ?_; rotate_left; (intro w hSw; (try dsimp only at hSw); go_simp; try with_reducible rfl); try simp only [Act.put, List.setIfInBounds_toArray, List.set_cons_zero, List.set_cons_succ]
      refine wpAnyH_take (i := 38) (oi := ⟨some _, _, _, _, _, _⟩) (v := ?_) rfl (by kernel_rfl) (by kernel_rfl) (by kernel_rfl) (fun _ _ _ h => h) (Or.inl ⟨by kernel_rfl, ?_⟩) (by assumption) ?_; rotate_left; (intro w hSw; (try dsimp only at hSw); go_simp; try with_reducible rfl); try simp only [Act.put, List.setIfInBounds_toArray, List.set_cons_zero, List.set_cons_succ]
      refine wpAnyH_done (by kernel_rfl) ?_ _
      have HR := Lib.hid (HO.out.trans (HOo.out.trans O4.out))
      clear HKo HOf2 HA HK0
      go_wp2_with fail
      go_ret
      exact ⟨rfl, HR.out⟩
theorem walk (f g : Nat → Int) (size : Int) (w : World) (h0 : ∀ k, 16 ≤ k → f k = 0) :
    Calls Try.prog 5 #[.agg (rowN 16 (blk f)), .agg (rowN 4 (blk g)), .int .i64 size] w fun e w' => e = .returned (.bool true) ∧ Old w w' := by
  by_cases h : nearP f ∧ smallP f ∧ rightP g ∧ 24 ≤ size ∧ size ≤ 96
  · have hf := near_fits h.1 h0
    by_cases h55 : 55 ≤ size
    · exact walk_exact f g size w hf h.2.1 h.2.2.1 ⟨h55, h.2.2.2.2⟩
    · exact walk_search f g size w hf h.2.1 h.2.2.1 ⟨h.2.2.2.1, by omega⟩
  · exact walk_no f g size w (fun hn => near_fits hn h0) h


theorem own : ownKnob Try.prog.godebug = none := by kernel_rfl
theorem laidOut : laidOutB Try.prog = true := by kernel_rfl

set_option maxRecDepth 100000 in
theorem lifted (os : Os) (started : os.Started) (H : Type) (enc : TypeId × Value → H) :
    ReturnsInHanded {} Try.checked os 5 .any (Rows.fitExactSpec.pre6 enc Try.prog Try.f5 Rows.fitExactRow.domain false) (Rows.fitExactSpec.post enc Try.prog Try.f5 false true false false) := by
  refine returnsInHanded_of_change (C := Try.checked) own started (by kernel_rfl) Try.func5
    (ChangeSpec.witness6 (enc := enc) (C := Try.checked) false ⟨#[], #[.agg #[.int .i64 0, .int .i64 0, .int .i64 0, .int .i64 0, .int .i64 0, .int .i64 0, .int .i64 0, .int .i64 0, .int .i64 0, .int .i64 0, .int .i64 0, .int .i64 0, .int .i64 0, .int .i64 0, .int .i64 0, .int .i64 0], .agg #[.int .i64 0, .int .i64 0, .int .i64 0, .int .i64 0], .int .i64 0], []⟩ 8 (by kernel_rfl) (by kernel_rfl) (by kernel_rfl) (by kernel_rfl)) ?_
  intro W base args ds gs before hval0 hW hcnd _
  have hval : ∀ (j : Nat) t v, Try.f5.params[j]? = some t → args[j]? = some v → Value.okWide Try.prog W .any base t v := hval0
  have hW' := hW
  have hlt : ∀ p ∈ before, p.block < W.heap.size := fun p hp => hW'.lt p hp
  obtain ⟨p, q, hA0, hV, rfl, hfz, hnd⟩ := hW
  have hA : DataW.TrodAll enc Try.prog W 0 (fun _ => true) true Try.f5.params.toList args.toList ds p := hA0
  rw [Try.params5] at hA hval
  obtain ⟨v0, vs0, d0, ds0, p0, q0, hargs, rfl, rfl, h0, r0⟩ := trodAll_cons hA
  obtain ⟨v1, vs1, d1, ds1, p1, q1, rfl, rfl, rfl, h1, r1⟩ := trodAll_cons r0
  obtain ⟨v2, vs2, d2, ds2, p2, q2, rfl, rfl, rfl, h2, r2⟩ := trodAll_cons r1
  obtain ⟨rfl, rfl, rfl⟩ := trodAll_nil r2
  obtain rfl : args = #[v0, v1, v2] := by cases args; simp_all
  obtain ⟨rfl, rfl⟩ := trodVars_none hV
  obtain ⟨f0, rfl, hf0, hz0⟩ := open_ints64 Try.underlying23 Try.underlying2 (by kernel_rfl) (by kernel_rfl) (hval 0 23 v0 rfl rfl) h0
  obtain ⟨f1, rfl, hf1, hz1⟩ := open_ints64 Try.underlying24 Try.underlying3 (by kernel_rfl) (by kernel_rfl) (hval 1 24 v1 rfl rfl) h1
  obtain ⟨a2, rfl, _, _, w2⟩ := open_int Try.underlying3 (hval 2 3 v2 rfl rfl) h2
  refine (walk f0 f1 a2 W hz0).mono fun e W' ⟨he, hg⟩ => ?_
  subst he
  exact ⟨_, rfl, law_done laidOut Try.underlying4 rfl (by kernel_rfl) rfl hW' rfl hg⟩

theorem over : Rows.fitExactRow.holds Try.pinned (OpenSpec.ofChange Rows.fitExactSpec) :=
  OpenClaim.holds_of_wide 5 Try.f5 rfl rfl rfl rfl rfl rfl rfl ⟨rfl, rfl, rfl, rfl, rfl⟩ rfl rfl rfl rfl rfl (by kernel_rfl) Try.func5 (by kernel_rfl)
    (of_decide_eq_true (by kernel_rfl)) (by unfold Func.isWrapper; first | (rw [if_pos (by decide +kernel)]; kernel_rfl) | (rw [if_neg (by decide +kernel)]; exact ⟨rfl, rfl⟩))
    (fun os started H enc _ => lifted os started H enc)

theorem proved : Rows.FitExactSaid :=
  over
end Go.Proofs.Ytcepfbflgngmjaa.fitExact
