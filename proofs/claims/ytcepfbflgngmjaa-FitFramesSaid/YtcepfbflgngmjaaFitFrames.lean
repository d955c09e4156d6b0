/- The frame of whatever spectrum, gains and size, or why there is none, is what the law tells, and has room: FitFrames holds at every input; no condition. -/
import Derived.Test.YtcepfbflgngmjaaRows
import Derived.Test.YtcepfbflgngmjaaSmaL
import Derived.Test.YtcepfbflgngmjaaSeaL
import Derived.Test.YtcepfbflgngmjaaNearL
import Derived.Test.YtcepfbflgngmjaaFrBytesL
import Derived.Deep.RegionHeld
namespace Go.Proofs.Ytcepfbflgngmjaa.fitFrames
open Go.ChangeShapes Go.WideShapes Go.ChangeAt Go.RowKit
set_option linter.unusedVariables false

theorem slF_kept {X : Nat → Prop} {s n : Nat} {w w' : World} {p : Option Addr} {F : Nat → Int} (h : SlF s w p n F) (k : Kept X w w') (hX : 0 < n → ∀ a, p = some a → X a.block) : SlF s w' p n F := fun h0 => by
  obtain ⟨g, o, e1, e2, e3⟩ := h h0
  have hg := hX h0 _ e1
  exact ⟨g, o, e1, Nat.lt_of_lt_of_le e2 k.size, fun j hj => (World.cell?_of_block (k.block g hg)).trans (e3 j hj)⟩
set_option maxRecDepth 100000 in
set_option maxHeartbeats 8000000 in
theorem walk_far (f g : Nat → Int) (size : Int) (w : World) (hn : ¬ nearP f) :
    Calls Try.prog 4 #[.agg (rowN 16 (blk f)), .agg (rowN 4 (blk g)), .int .i64 size] w fun e w' => e = .returned (.bool true) ∧ Old w w' := by
  have Hs4 : Hid ((Try.prog.info? 24).map (·.size) = some 4) := Lib.hid (by kernel_rfl)
  have Hs16 : Hid ((Try.prog.info? 23).map (·.size) = some 16) := Lib.hid (by kernel_rfl)
  have Hs29 : Hid ((Try.prog.info? 29).map (·.size) = some 29) := Lib.hid (by kernel_rfl)
  have HA := Lib.hid (fun w => awake_any w)
  obtain ⟨W0, hW0⟩ : ∃ W0, W0 = ((w.alloc (.cells (rowN 16 (blk f)) 23)).alloc (.cells (rowN 4 (blk g)) 24)) := ⟨_, rfl⟩
  have hb : W0.heap[w.heap.size]? = some (.cells (rowN 16 (blk f)) 23 (0, 0)) := by rw [hW0]; exact heap_alloc2_old w _ _
  have hg : W0.heap[w.heap.size + 1]? = some (.cells (rowN 4 (blk g)) 24 (0, 0)) := by rw [hW0]; exact heap_alloc2_new w _ _
  have ho : Old w W0 := by rw [hW0]; exact (Old.alloc w _).alloc' _
  have HK0 : Hid (∀ V, Old W0 V → V.heap[w.heap.size]? = some (.cells (rowN 16 (blk f)) 23 (0, 0)) ∧ V.heap[w.heap.size + 1]? = some (.cells (rowN 4 (blk g)) 24 (0, 0))) := Lib.hid fun V k => ⟨(k.block _ (lt_of_block hb)).trans hb, (k.block _ (lt_of_block hg)).trans hg⟩
  have HW0 := Lib.hid hW0
  have HO := Lib.hid ho
  clear hb hg ho hW0
  have hN := fun w => near_any f w
  rw [decide_eq_false hn] at hN
  have HN := Lib.hid hN
  clear hn hN
  go_enter Try.func4, Try.ntmps4
  go_wp2_with (rw [← HW0.out]; with_reducible refine wpList_load_row rfl 23 _ rfl w.heap.size rfl 23 (rowN 16 (blk f)) (0, 0) _ (HK0.out _ (Old.refl _)).1 Try.underlying23 rfl (by rw [rowN_size]; exact Hs16.out) ?_)
  clear HW0
  refine (HN.out _).mono ?_
  rintro e V1 ⟨rfl, o1⟩
  have HK1 := Lib.hid (HK0.out _ o1)
  have HO1 := Lib.hid o1
  clear o1 HN
  go_wp2_with fail
  refine (HA.out _).mono ?_
  rintro e U9 ⟨rfl, o9⟩
  have HR := Lib.hid (HO.out.trans (HO1.out.trans o9))
  clear o9 HA HK0
  go_wp2_with fail
  go_ret
  exact ⟨rfl, HR.out⟩
set_option maxRecDepth 100000 in
set_option maxHeartbeats 8000000 in
theorem walk_no (f g : Nat → Int) (size : Int) (w : World) (hn : nearP f) (hf : Fits64 f) (er : Int) (h : (¬ (24 ≤ size ∧ size ≤ 96) ∧ er = 12) ∨ ((24 ≤ size ∧ size ≤ 96) ∧ ¬ (smallP f ∧ rightP g) ∧ er = 5)) :
    Calls Try.prog 4 #[.agg (rowN 16 (blk f)), .agg (rowN 4 (blk g)), .int .i64 size] w fun e w' => e = .returned (.bool true) ∧ Old w w' := by
  have Hs4 : Hid ((Try.prog.info? 24).map (·.size) = some 4) := Lib.hid (by kernel_rfl)
  have Hs16 : Hid ((Try.prog.info? 23).map (·.size) = some 16) := Lib.hid (by kernel_rfl)
  have Hs29 : Hid ((Try.prog.info? 29).map (·.size) = some 29) := Lib.hid (by kernel_rfl)
  have HA := Lib.hid (fun w => awake_any w)
  obtain ⟨W0, hW0⟩ : ∃ W0, W0 = ((w.alloc (.cells (rowN 16 (blk f)) 23)).alloc (.cells (rowN 4 (blk g)) 24)) := ⟨_, rfl⟩
  have hb : W0.heap[w.heap.size]? = some (.cells (rowN 16 (blk f)) 23 (0, 0)) := by rw [hW0]; exact heap_alloc2_old w _ _
  have hg : W0.heap[w.heap.size + 1]? = some (.cells (rowN 4 (blk g)) 24 (0, 0)) := by rw [hW0]; exact heap_alloc2_new w _ _
  have ho : Old w W0 := by rw [hW0]; exact (Old.alloc w _).alloc' _
  have HK0 : Hid (∀ V, Old W0 V → V.heap[w.heap.size]? = some (.cells (rowN 16 (blk f)) 23 (0, 0)) ∧ V.heap[w.heap.size + 1]? = some (.cells (rowN 4 (blk g)) 24 (0, 0))) := Lib.hid fun V k => ⟨(k.block _ (lt_of_block hb)).trans hb, (k.block _ (lt_of_block hg)).trans hg⟩
  have HW0 := Lib.hid hW0
  have HO := Lib.hid ho
  clear hb hg ho hW0
  have hN := fun w => near_any f w
  rw [decide_eq_true hn] at hN
  have HN := Lib.hid hN
  have hFm := fun w => frame_no f g size w hf er h
  have hWi := fun w => wide_any f w hf
  have hRi := fun w => lright_any g w
  have hS0 := fun w => Same_any zeroS zeroS none none 0 0 0 0 (fun _ => 0) (fun _ => 0) w (no_tones w _) (no_tones w _) (Nat.zero_le _) (Nat.zero_le _)
  rw [decide_eq_true ⟨rfl, fun _ _ => rfl, fun _ _ _ => rfl⟩] at hS0
  obtain ⟨Z, hZ⟩ : ∃ Z : Array Value, Z = rowN 29 (frC zeroS (.slice none 0 0)) := ⟨_, rfl⟩
  have hZs : Z.size = 29 := by rw [hZ, rowN_size]
  have hz1 : Z.all (·.oneCell') = true := by rw [hZ]; exact frC_one _ _ rfl
  rw [← hZ] at hFm hS0
  rw [show rowN 29 (frC zeroS (.slice none 0 0)) = _ from frC_zero] at hZ
  have HFm := Lib.hid hFm
  have HS0 := Lib.hid hS0
  have Hz := Lib.hid hZ
  have Hzs := Lib.hid hZs
  have Hz1 := Lib.hid hz1
  have Hi : Hid ((Try.prog.info? 29).map (·.size) = some Z.size) := by unfold Hid; rw [hZs]; exact Hs29.out
  clear hN hFm hS0 hZ hZs hz1 hn hf
  rcases h with ⟨h, rfl⟩ | ⟨h, h2, rfl⟩
  · clear hWi hRi
    by_cases hlo : size < 24
    · clear h
      go_enter Try.func4, Try.ntmps4
      go_wp2_with (rw [← HW0.out]; with_reducible refine wpList_load_row rfl 23 _ rfl w.heap.size rfl 23 (rowN 16 (blk f)) (0, 0) _ (HK0.out _ (Old.refl _)).1 Try.underlying23 rfl (by rw [rowN_size]; exact Hs16.out) ?_)
      clear HW0
      refine (HN.out _).mono ?_
      rintro e V1 ⟨rfl, o1⟩
      have HK1 := Lib.hid (HK0.out _ o1)
      have HO1 := Lib.hid o1
      clear o1 HN
      go_wp2_with (first | (with_reducible refine wpList_load_row rfl 23 _ rfl w.heap.size rfl 23 (rowN 16 (blk f)) (0, 0) _ HK1.out.1 Try.underlying23 rfl (by rw [rowN_size]; exact Hs16.out) ?_) | (with_reducible refine wpList_load_row rfl 24 _ rfl (w.heap.size + 1) rfl 24 (rowN 4 (blk g)) (0, 0) _ HK1.out.2 Try.underlying24 rfl (by rw [rowN_size]; exact Hs4.out) ?_))
      refine (HFm.out _).mono ?_
      rintro e V2 ⟨rfl, o2⟩
      have oo := o2.alloc' (.cells (Z) 29)
      have HOV3 := Lib.hid (HO1.out.trans oo)
      have HKV3 := Lib.hid (HK0.out _ HOV3.out)
      have HFV3 := Lib.hid (heap_alloc_new V2 (.cells (Z) 29))
      obtain ⟨V3, hV⟩ : ∃ V, V = V2.alloc (.cells (Z) 29) := ⟨_, rfl⟩
      obtain ⟨fb, hfb⟩ : ∃ q, q = V2.heap.size := ⟨_, rfl⟩
      rw [← hV] at HOV3 HKV3 
      rw [← hV, ← hfb] at HFV3
      have HVV3 := Lib.hid hV
      have HqV3 := Lib.hid hfb
      clear hV hfb oo
      clear o2 HK1 HFm
      go_wp2_with (first | (with_reducible refine wpList_store_row rfl 29 _ _ rfl V2.heap.size (Z) rfl rfl 29 _ (heap_alloc_new _ _) Hi.out (by rw [Hzs.out]; kernel_rfl) Hz1.out ?_; rw [World.setRow_alloc_new, ← HVV3.out, ← HqV3.out]) | (with_reducible refine wpList_load_row rfl 29 _ rfl fb rfl 29 (Z) (0, 0) _ HFV3.out Try.underlying29 rfl Hi.out ?_))
      rw [← Hz.out]
      refine (HS0.out _).mono ?_
      rintro e U3 ⟨rfl, u3⟩
      have HO6 := Lib.hid (HOV3.out.trans u3)
      clear u3
      go_wp2_with fail
      refine (HA.out _).mono ?_
      rintro e U9 ⟨rfl, o9⟩
      have HR := Lib.hid (HO.out.trans (HO6.out.trans o9))
      clear o9 HA HK0
      go_wp2_with fail
      go_ret
      exact ⟨rfl, HR.out⟩
    · have hhi : 96 < size := by omega
      have hlo' : 24 ≤ size := by omega
      clear h hlo
      go_enter Try.func4, Try.ntmps4
      go_wp2_with (rw [← HW0.out]; with_reducible refine wpList_load_row rfl 23 _ rfl w.heap.size rfl 23 (rowN 16 (blk f)) (0, 0) _ (HK0.out _ (Old.refl _)).1 Try.underlying23 rfl (by rw [rowN_size]; exact Hs16.out) ?_)
      clear HW0
      refine (HN.out _).mono ?_
      rintro e V1 ⟨rfl, o1⟩
      have HK1 := Lib.hid (HK0.out _ o1)
      have HO1 := Lib.hid o1
      clear o1 HN
      go_wp2_with (first | (with_reducible refine wpList_load_row rfl 23 _ rfl w.heap.size rfl 23 (rowN 16 (blk f)) (0, 0) _ HK1.out.1 Try.underlying23 rfl (by rw [rowN_size]; exact Hs16.out) ?_) | (with_reducible refine wpList_load_row rfl 24 _ rfl (w.heap.size + 1) rfl 24 (rowN 4 (blk g)) (0, 0) _ HK1.out.2 Try.underlying24 rfl (by rw [rowN_size]; exact Hs4.out) ?_))
      refine (HFm.out _).mono ?_
      rintro e V2 ⟨rfl, o2⟩
      have oo := o2.alloc' (.cells (Z) 29)
      have HOV3 := Lib.hid (HO1.out.trans oo)
      have HKV3 := Lib.hid (HK0.out _ HOV3.out)
      have HFV3 := Lib.hid (heap_alloc_new V2 (.cells (Z) 29))
      obtain ⟨V3, hV⟩ : ∃ V, V = V2.alloc (.cells (Z) 29) := ⟨_, rfl⟩
      obtain ⟨fb, hfb⟩ : ∃ q, q = V2.heap.size := ⟨_, rfl⟩
      rw [← hV] at HOV3 HKV3 
      rw [← hV, ← hfb] at HFV3
      have HVV3 := Lib.hid hV
      have HqV3 := Lib.hid hfb
      clear hV hfb oo
      clear o2 HK1 HFm
      go_wp2_with (first | (with_reducible refine wpList_store_row rfl 29 _ _ rfl V2.heap.size (Z) rfl rfl 29 _ (heap_alloc_new _ _) Hi.out (by rw [Hzs.out]; kernel_rfl) Hz1.out ?_; rw [World.setRow_alloc_new, ← HVV3.out, ← HqV3.out]) | (with_reducible refine wpList_load_row rfl 29 _ rfl fb rfl 29 (Z) (0, 0) _ HFV3.out Try.underlying29 rfl Hi.out ?_))
      rw [← Hz.out]
      refine (HS0.out _).mono ?_
      rintro e U3 ⟨rfl, u3⟩
      have HO6 := Lib.hid (HOV3.out.trans u3)
      clear u3
      go_wp2_with fail
      refine (HA.out _).mono ?_
      rintro e U9 ⟨rfl, o9⟩
      have HR := Lib.hid (HO.out.trans (HO6.out.trans o9))
      clear o9 HA HK0
      go_wp2_with fail
      go_ret
      exact ⟨rfl, HR.out⟩
  · obtain ⟨hlo, hhi⟩ := h
    by_cases hs : smallP f
    · have hr : ¬ rightP g := fun h => h2 ⟨hs, h⟩
      rw [decide_eq_false (fun h => h hs)] at hWi
      rw [decide_eq_false hr] at hRi
      have HWi := Lib.hid hWi
      have HRi := Lib.hid hRi
      clear hWi hRi hr hs h2
      go_enter Try.func4, Try.ntmps4
      go_wp2_with (rw [← HW0.out]; with_reducible refine wpList_load_row rfl 23 _ rfl w.heap.size rfl 23 (rowN 16 (blk f)) (0, 0) _ (HK0.out _ (Old.refl _)).1 Try.underlying23 rfl (by rw [rowN_size]; exact Hs16.out) ?_)
      clear HW0
      refine (HN.out _).mono ?_
      rintro e V1 ⟨rfl, o1⟩
      have HK1 := Lib.hid (HK0.out _ o1)
      have HO1 := Lib.hid o1
      clear o1 HN
      go_wp2_with (first | (with_reducible refine wpList_load_row rfl 23 _ rfl w.heap.size rfl 23 (rowN 16 (blk f)) (0, 0) _ HK1.out.1 Try.underlying23 rfl (by rw [rowN_size]; exact Hs16.out) ?_) | (with_reducible refine wpList_load_row rfl 24 _ rfl (w.heap.size + 1) rfl 24 (rowN 4 (blk g)) (0, 0) _ HK1.out.2 Try.underlying24 rfl (by rw [rowN_size]; exact Hs4.out) ?_))
      refine (HFm.out _).mono ?_
      rintro e V2 ⟨rfl, o2⟩
      have oo := o2.alloc' (.cells (Z) 29)
      have HOV3 := Lib.hid (HO1.out.trans oo)
      have HKV3 := Lib.hid (HK0.out _ HOV3.out)
      have HFV3 := Lib.hid (heap_alloc_new V2 (.cells (Z) 29))
      obtain ⟨V3, hV⟩ : ∃ V, V = V2.alloc (.cells (Z) 29) := ⟨_, rfl⟩
      obtain ⟨fb, hfb⟩ : ∃ q, q = V2.heap.size := ⟨_, rfl⟩
      rw [← hV] at HOV3 HKV3 
      rw [← hV, ← hfb] at HFV3
      have HVV3 := Lib.hid hV
      have HqV3 := Lib.hid hfb
      clear hV hfb oo
      clear o2 HK1 HFm
      go_wp2_with (first | (with_reducible refine wpList_store_row rfl 29 _ _ rfl V2.heap.size (Z) rfl rfl 29 _ (heap_alloc_new _ _) Hi.out (by rw [Hzs.out]; kernel_rfl) Hz1.out ?_; rw [World.setRow_alloc_new, ← HVV3.out, ← HqV3.out]) | (with_reducible refine wpList_load_row rfl 23 _ rfl w.heap.size rfl 23 (rowN 16 (blk f)) (0, 0) _ HKV3.out.1 Try.underlying23 rfl (by rw [rowN_size]; exact Hs16.out) ?_))
      refine (HWi.out _).mono ?_
      rintro e U1 ⟨rfl, u1⟩
      have HK4 := Lib.hid (HK0.out _ (HOV3.out.trans u1))
      have HF4 := Lib.hid ((u1.block _ (lt_of_block HFV3.out)).trans HFV3.out)
      have HO4 := Lib.hid (HOV3.out.trans u1)
      clear u1 HKV3 HFV3 HOV3
      go_wp2_with (with_reducible refine wpList_load_row_w (by kernel_rfl) 24 _ rfl (w.heap.size + 1) rfl 24 (rowN 4 (blk g)) (0, 0) _ HK4.out.2 Try.underlying24 rfl (by rw [rowN_size]; exact Hs4.out) ?_)
      refine (HRi.out _).mono ?_
      rintro e U2 ⟨rfl, u2⟩
      have HF5 := Lib.hid ((u2.block _ (lt_of_block HF4.out)).trans HF4.out)
      have HO5 := Lib.hid (HO4.out.trans u2)
      clear u2 HF4 HO4
      go_wp2_with (with_reducible refine wpList_load_row rfl 29 _ rfl fb rfl 29 (Z) (0, 0) _ HF5.out Try.underlying29 rfl Hi.out ?_)
      rw [← Hz.out]
      refine (HS0.out _).mono ?_
      rintro e U3 ⟨rfl, u3⟩
      have HO6 := Lib.hid (HO5.out.trans u3)
      clear u3
      go_wp2_with fail
      refine (HA.out _).mono ?_
      rintro e U9 ⟨rfl, o9⟩
      have HR := Lib.hid (HO.out.trans (HO6.out.trans o9))
      clear o9 HA HK0
      go_wp2_with fail
      go_ret
      exact ⟨rfl, HR.out⟩
    · rw [decide_eq_true hs] at hWi
      have HWi := Lib.hid hWi
      clear hWi hRi hs h2
      go_enter Try.func4, Try.ntmps4
      go_wp2_with (rw [← HW0.out]; with_reducible refine wpList_load_row rfl 23 _ rfl w.heap.size rfl 23 (rowN 16 (blk f)) (0, 0) _ (HK0.out _ (Old.refl _)).1 Try.underlying23 rfl (by rw [rowN_size]; exact Hs16.out) ?_)
      clear HW0
      refine (HN.out _).mono ?_
      rintro e V1 ⟨rfl, o1⟩
      have HK1 := Lib.hid (HK0.out _ o1)
      have HO1 := Lib.hid o1
      clear o1 HN
      go_wp2_with (first | (with_reducible refine wpList_load_row rfl 23 _ rfl w.heap.size rfl 23 (rowN 16 (blk f)) (0, 0) _ HK1.out.1 Try.underlying23 rfl (by rw [rowN_size]; exact Hs16.out) ?_) | (with_reducible refine wpList_load_row rfl 24 _ rfl (w.heap.size + 1) rfl 24 (rowN 4 (blk g)) (0, 0) _ HK1.out.2 Try.underlying24 rfl (by rw [rowN_size]; exact Hs4.out) ?_))
      refine (HFm.out _).mono ?_
      rintro e V2 ⟨rfl, o2⟩
      have oo := o2.alloc' (.cells (Z) 29)
      have HOV3 := Lib.hid (HO1.out.trans oo)
      have HKV3 := Lib.hid (HK0.out _ HOV3.out)
      have HFV3 := Lib.hid (heap_alloc_new V2 (.cells (Z) 29))
      obtain ⟨V3, hV⟩ : ∃ V, V = V2.alloc (.cells (Z) 29) := ⟨_, rfl⟩
      obtain ⟨fb, hfb⟩ : ∃ q, q = V2.heap.size := ⟨_, rfl⟩
      rw [← hV] at HOV3 HKV3 
      rw [← hV, ← hfb] at HFV3
      have HVV3 := Lib.hid hV
      have HqV3 := Lib.hid hfb
      clear hV hfb oo
      clear o2 HK1 HFm
      go_wp2_with (first | (with_reducible refine wpList_store_row rfl 29 _ _ rfl V2.heap.size (Z) rfl rfl 29 _ (heap_alloc_new _ _) Hi.out (by rw [Hzs.out]; kernel_rfl) Hz1.out ?_; rw [World.setRow_alloc_new, ← HVV3.out, ← HqV3.out]) | (with_reducible refine wpList_load_row rfl 23 _ rfl w.heap.size rfl 23 (rowN 16 (blk f)) (0, 0) _ HKV3.out.1 Try.underlying23 rfl (by rw [rowN_size]; exact Hs16.out) ?_))
      refine (HWi.out _).mono ?_
      rintro e U1 ⟨rfl, u1⟩
      have HK4 := Lib.hid (HK0.out _ (HOV3.out.trans u1))
      have HF4 := Lib.hid ((u1.block _ (lt_of_block HFV3.out)).trans HFV3.out)
      have HO4 := Lib.hid (HOV3.out.trans u1)
      clear u1 HKV3 HFV3 HOV3
      go_wp2_with (with_reducible refine wpList_load_row rfl 29 _ rfl fb rfl 29 (Z) (0, 0) _ HF4.out Try.underlying29 rfl Hi.out ?_)
      rw [← Hz.out]
      refine (HS0.out _).mono ?_
      rintro e U3 ⟨rfl, u3⟩
      have HO6 := Lib.hid (HO4.out.trans u3)
      clear u3
      go_wp2_with fail
      refine (HA.out _).mono ?_
      rintro e U9 ⟨rfl, o9⟩
      have HR := Lib.hid (HO.out.trans (HO6.out.trans o9))
      clear o9 HA HK0
      go_wp2_with fail
      go_ret
      exact ⟨rfl, HR.out⟩
set_option maxRecDepth 100000 in
set_option maxHeartbeats 8000000 in
theorem walk_exact (f g : Nat → Int) (size : Int) (w : World) (hf : Fits64 f) (hs : smallP f) (hr : rightP g) (h : 55 ≤ size ∧ size ≤ 96) :
    Calls Try.prog 4 #[.agg (rowN 16 (blk f)), .agg (rowN 4 (blk g)), .int .i64 size] w fun e w' => e = .returned (.bool true) ∧ Old w w' := by
  obtain ⟨N, rfl⟩ : ∃ N : Nat, size = N := ⟨size.toNat, by omega⟩
  have Hs4 : Hid ((Try.prog.info? 24).map (·.size) = some 4) := Lib.hid (by kernel_rfl)
  have Hs16 : Hid ((Try.prog.info? 23).map (·.size) = some 16) := Lib.hid (by kernel_rfl)
  have Hs29 : Hid ((Try.prog.info? 29).map (·.size) = some 29) := Lib.hid (by kernel_rfl)
  have HA := Lib.hid (fun w => awake_any w)
  obtain ⟨W0, hW0⟩ : ∃ W0, W0 = ((w.alloc (.cells (rowN 16 (blk f)) 23)).alloc (.cells (rowN 4 (blk g)) 24)) := ⟨_, rfl⟩
  have hb : W0.heap[w.heap.size]? = some (.cells (rowN 16 (blk f)) 23 (0, 0)) := by rw [hW0]; exact heap_alloc2_old w _ _
  have hg : W0.heap[w.heap.size + 1]? = some (.cells (rowN 4 (blk g)) 24 (0, 0)) := by rw [hW0]; exact heap_alloc2_new w _ _
  have ho : Old w W0 := by rw [hW0]; exact (Old.alloc w _).alloc' _
  have HK0 : Hid (∀ V, Old W0 V → V.heap[w.heap.size]? = some (.cells (rowN 16 (blk f)) 23 (0, 0)) ∧ V.heap[w.heap.size + 1]? = some (.cells (rowN 4 (blk g)) 24 (0, 0))) := Lib.hid fun V k => ⟨(k.block _ (lt_of_block hb)).trans hb, (k.block _ (lt_of_block hg)).trans hg⟩
  have HW0 := Lib.hid hW0
  have HO := Lib.hid ho
  clear hb hg ho hW0
  have hN := fun w => near_any f w
  rw [decide_eq_true (small_near hs)] at hN
  have HN := Lib.hid hN
  have hWi := fun w => wide_any f w hf
  rw [decide_eq_false (fun h => h hs)] at hWi
  have HWi := Lib.hid hWi
  have hRi := fun w => lright_any g w
  rw [decide_eq_true hr] at hRi
  have HRi := Lib.hid hRi
  have hTo := fun w => LTold_any f zeroS zeroS none 0 0 (fun _ => 0) w hf (no_tones w _) (by omega)
  rw [show addTo (-1) f (fun _ => 0) 0 = f from rfl] at hTo
  have hFm := fun w => frame_exact f g N w hf h ⟨hs, hr⟩
  have hmay := exact_may gain_zero hs (fun _ => 0)
  have herr : bytesErr (enc (tolN zeroS zeroS f) 0 (fun _ => 0)) 0 (N : Int) = 0 := err_none _ _ (by
    rw [enc_len hmay]
    have h0 := hmay.hw 0 (by omega); have h1 := hmay.hw 1 (by omega); have h2 := hmay.hw 2 (by omega); have h3 := hmay.hw 3 (by omega)
    unfold costI
    rw [sum_four]
    omega) (by omega)
  obtain ⟨F, hF⟩ : ∃ F, tolN zeroS zeroS f = F := ⟨_, rfl⟩
  rw [hF] at hFm hTo hmay herr
  have HFm := Lib.hid hFm
  have HTo := Lib.hid hTo
  have HMay := Lib.hid hmay
  have HErr := Lib.hid herr
  have hsame := fun w => Same_any F F none none 0 0 0 0 (fun _ => 0) (fun _ => 0) w (no_tones w _) (no_tones w _) (Nat.zero_le _) (Nat.zero_le _)
  rw [decide_eq_true ⟨rfl, fun _ _ => rfl, fun _ _ _ => rfl⟩] at hsame
  have HSame := Lib.hid hsame
  have hright := fun w => FRight_any F none 0 0 (fun _ => 0) w (no_tones w _) (fun _ => by dsimp only; omega) (Nat.le_refl _) (Nat.zero_le _)
  rw [decide_eq_true hmay] at hright
  have HRight := Lib.hid hright
  obtain ⟨h55, h96⟩ := h
  clear hs hr hf hmay herr hsame hright hF
  clear hN hWi hRi hTo hFm
  go_enter Try.func4, Try.ntmps4
  go_wp2_with (rw [← HW0.out]; with_reducible refine wpList_load_row rfl 23 _ rfl w.heap.size rfl 23 (rowN 16 (blk f)) (0, 0) _ (HK0.out _ (Old.refl _)).1 Try.underlying23 rfl (by rw [rowN_size]; exact Hs16.out) ?_)
  clear HW0
  refine (HN.out _).mono ?_
  rintro e V1 ⟨rfl, o1⟩
  have HK1 := Lib.hid (HK0.out _ o1)
  have HO1 := Lib.hid o1
  clear o1 HN
  go_wp2_with (first | (with_reducible refine wpList_load_row rfl 23 _ rfl w.heap.size rfl 23 (rowN 16 (blk f)) (0, 0) _ HK1.out.1 Try.underlying23 rfl (by rw [rowN_size]; exact Hs16.out) ?_) | (with_reducible refine wpList_load_row rfl 24 _ rfl (w.heap.size + 1) rfl 24 (rowN 4 (blk g)) (0, 0) _ HK1.out.2 Try.underlying24 rfl (by rw [rowN_size]; exact Hs4.out) ?_))
  refine (HFm.out _).mono ?_
  rintro e V2 ⟨rfl, o2⟩
  have H1 : Hid ((rowN 29 (frC F (.slice none 0 0))).all (·.oneCell') = true) := Lib.hid (frC_one _ _ rfl)
  have oo := o2.alloc' (.cells (rowN 29 (frC F (.slice none 0 0))) 29)
  have HOV3 := Lib.hid (HO1.out.trans oo)
  have HKV3 := Lib.hid (HK0.out _ HOV3.out)
  have HFV3 := Lib.hid (heap_alloc_new V2 (.cells (rowN 29 (frC F (.slice none 0 0))) 29))
  obtain ⟨V3, hV⟩ : ∃ V, V = V2.alloc (.cells (rowN 29 (frC F (.slice none 0 0))) 29) := ⟨_, rfl⟩
  obtain ⟨fb, hfb⟩ : ∃ q, q = V2.heap.size := ⟨_, rfl⟩
  rw [← hV] at HOV3 HKV3 
  rw [← hV, ← hfb] at HFV3
  have HVV3 := Lib.hid hV
  have HqV3 := Lib.hid hfb
  clear hV hfb oo
  clear o2 HK1 HFm
  go_wp2_with (first | (with_reducible refine wpList_store_row rfl 29 _ _ rfl V2.heap.size (rowN 29 (frC F (.slice none 0 0))) rfl rfl 29 _ (heap_alloc_new _ _) (by rw [rowN_size]; exact Hs29.out) (by rw [rowN_size]; kernel_rfl) H1.out ?_; rw [World.setRow_alloc_new, ← HVV3.out, ← HqV3.out]) | (with_reducible refine wpList_load_row rfl 23 _ rfl w.heap.size rfl 23 (rowN 16 (blk f)) (0, 0) _ HKV3.out.1 Try.underlying23 rfl (by rw [rowN_size]; exact Hs16.out) ?_))
  clear HVV3 HqV3 H1
  refine (HWi.out _).mono ?_
  rintro e U1 ⟨rfl, u1⟩
  have HO4 := Lib.hid (HOV3.out.trans u1)
  have HK4 := Lib.hid (HK0.out _ HO4.out)
  have HF4 := Lib.hid ((u1.block _ (lt_of_block HFV3.out)).trans HFV3.out)
  clear u1 HKV3 HFV3 HOV3
  go_wp2_with (with_reducible refine wpList_load_row_w (by kernel_rfl) 24 _ rfl (w.heap.size + 1) rfl 24 (rowN 4 (blk g)) (0, 0) _ HK4.out.2 Try.underlying24 rfl (by rw [rowN_size]; exact Hs4.out) ?_)
  refine (HRi.out _).mono ?_
  rintro e U2 ⟨rfl, u2⟩
  have HO5 := Lib.hid (HO4.out.trans u2)
  have HK5 := Lib.hid (HK0.out _ HO5.out)
  have HF5 := Lib.hid ((u2.block _ (lt_of_block HF4.out)).trans HF4.out)
  clear u2 HK4 HF4 HO4
  go_wp2_with (with_reducible refine wpList_load_row rfl 23 _ rfl w.heap.size rfl 23 (rowN 16 (blk f)) (0, 0) _ HK5.out.1 Try.underlying23 rfl (by rw [rowN_size]; exact Hs16.out) ?_)
  rw [← row4_zeroS]
  refine (HTo.out _).mono ?_
  rintro e V4 ⟨rfl, o4⟩
  have H1 : Hid ((rowN 29 (frC F (.slice none 0 0))).all (·.oneCell') = true) := Lib.hid (frC_one _ _ rfl)
  have oo := o4.alloc' (.cells (rowN 29 (frC F (.slice none 0 0))) 29)
  have HOV5 := Lib.hid (HO5.out.trans oo)
  have HKV5 := Lib.hid (HK0.out _ HOV5.out)
  have HFV5 := Lib.hid (heap_alloc_new V4 (.cells (rowN 29 (frC F (.slice none 0 0))) 29))
  have HF6 := Lib.hid (((o4.alloc' (.cells (rowN 29 (frC F (.slice none 0 0))) 29)).block _ (lt_of_block HF5.out)).trans HF5.out)
  obtain ⟨V5, hV⟩ : ∃ V, V = V4.alloc (.cells (rowN 29 (frC F (.slice none 0 0))) 29) := ⟨_, rfl⟩
  obtain ⟨gb, hfb⟩ : ∃ q, q = V4.heap.size := ⟨_, rfl⟩
  rw [← hV] at HOV5 HKV5 HF6
  rw [← hV, ← hfb] at HFV5
  have HVV5 := Lib.hid hV
  have HqV5 := Lib.hid hfb
  clear hV hfb oo
  clear o4 HK5 HF5 HO5
  go_wp2_with (first | (with_reducible refine wpList_store_row rfl 29 _ _ rfl V4.heap.size (rowN 29 (frC F (.slice none 0 0))) rfl rfl 29 _ (heap_alloc_new _ _) (by rw [rowN_size]; exact Hs29.out) (by rw [rowN_size]; kernel_rfl) H1.out ?_; rw [World.setRow_alloc_new, ← HVV5.out, ← HqV5.out]) | (with_reducible refine wpList_load_row rfl 29 _ rfl fb rfl 29 (rowN 29 (frC F (.slice none 0 0))) (0, 0) _ HF6.out Try.underlying29 rfl (by rw [rowN_size]; exact Hs29.out) ?_))
  clear HVV5 HqV5 H1 HKV5 HTo HWi HRi
  have HO9 := HOV5
  have HF9 := HF6
  have HG9 := HFV5
  obtain ⟨V9, rfl⟩ : ∃ V, V = V5 := ⟨_, rfl⟩
  have HBy := Lib.hid (FBytes_yes F none 0 0 (fun _ => 0) N V9 (no_tones _ _) (fun _ => by dsimp only; omega) (Nat.le_refl _) (Nat.zero_le _) HMay.out)
  have HSm := Lib.hid (fun W (k : Old V9 W) => HSame.out W)
  have HRg := Lib.hid (fun W (k : Old V9 W) => HRight.out W)
  refine HBy.out.mono ?_
  rintro e V10 ⟨o10, hh⟩
  rcases hh with ⟨h0, rfl⟩ | ⟨h0, yb, rfl, hyg, hyb⟩
  · exact absurd HErr.out h0
  rw [Int.toNat_natCast]
  have HO10 := Lib.hid (HO9.out.trans o10)
  have HF10 := Lib.hid ((o10.block _ (lt_of_block HF9.out)).trans HF9.out)
  have HG10 := Lib.hid ((o10.block _ (lt_of_block HG9.out)).trans HG9.out)
  have Ho10 := Lib.hid o10
  clear h0 hyg hyb o10 HBy HF9 HG9 HO9
  go_wp2_with (first | (with_reducible refine wpList_load_row_w (by kernel_rfl) 29 _ rfl fb rfl 29 (rowN 29 (frC F (.slice none 0 0))) (0, 0) _ HF10.out Try.underlying29 rfl (by rw [rowN_size]; exact Hs29.out) ?_) | (with_reducible refine wpList_load_row_w (by kernel_rfl) 29 _ rfl gb rfl 29 (rowN 29 (frC F (.slice none 0 0))) (0, 0) _ HG10.out Try.underlying29 rfl (by rw [rowN_size]; exact Hs29.out) ?_))
  refine (HSm.out _ Ho10.out).mono ?_
  rintro e V11 ⟨rfl, o11⟩
  have HO11 := Lib.hid (HO10.out.trans o11)
  have Ho11 := Lib.hid (Ho10.out.trans o11)
  have HF11 := Lib.hid ((o11.block _ (lt_of_block HF10.out)).trans HF10.out)
  clear o11 HF10 HG10 HO10 Ho10 HSm
  go_wp2_with (with_reducible refine wpList_load_row_w (by kernel_rfl) 29 _ rfl fb rfl 29 (rowN 29 (frC F (.slice none 0 0))) (0, 0) _ HF11.out Try.underlying29 rfl (by rw [rowN_size]; exact Hs29.out) ?_)
  refine (HRg.out _ Ho11.out).mono ?_
  rintro e V12 ⟨rfl, o12⟩
  have HO12 := Lib.hid (HO11.out.trans o12)
  clear o12 HF11 HO11 Ho11 HRg
  go_wp2_with fail
  refine (HA.out _).mono ?_
  rintro e U9 ⟨rfl, o9⟩
  have HR := Lib.hid (HO.out.trans (HO12.out.trans o9))
  clear o9 HA HK0
  go_wp2_with fail
  go_ret
  exact ⟨rfl, HR.out⟩
set_option maxRecDepth 100000 in
set_option maxHeartbeats 8000000 in
theorem walk_search (f g : Nat → Int) (size : Int) (w : World) (hf : Fits64 f) (hs : smallP f) (hr : rightP g) (h : 24 ≤ size ∧ size < 55) :
    Calls Try.prog 4 #[.agg (rowN 16 (blk f)), .agg (rowN 4 (blk g)), .int .i64 size] w fun e w' => e = .returned (.bool true) ∧ Old w w' := by
  obtain ⟨N, rfl⟩ : ∃ N : Nat, size = N := ⟨size.toNat, by omega⟩
  have Hs4 : Hid ((Try.prog.info? 24).map (·.size) = some 4) := Lib.hid (by kernel_rfl)
  have Hs16 : Hid ((Try.prog.info? 23).map (·.size) = some 16) := Lib.hid (by kernel_rfl)
  have Hs29 : Hid ((Try.prog.info? 29).map (·.size) = some 29) := Lib.hid (by kernel_rfl)
  have HA := Lib.hid (fun w => awake_any w)
  obtain ⟨W0, hW0⟩ : ∃ W0, W0 = ((w.alloc (.cells (rowN 16 (blk f)) 23)).alloc (.cells (rowN 4 (blk g)) 24)) := ⟨_, rfl⟩
  have hb : W0.heap[w.heap.size]? = some (.cells (rowN 16 (blk f)) 23 (0, 0)) := by rw [hW0]; exact heap_alloc2_old w _ _
  have hg : W0.heap[w.heap.size + 1]? = some (.cells (rowN 4 (blk g)) 24 (0, 0)) := by rw [hW0]; exact heap_alloc2_new w _ _
  have ho : Old w W0 := by rw [hW0]; exact (Old.alloc w _).alloc' _
  have HK0 : Hid (∀ V, Old W0 V → V.heap[w.heap.size]? = some (.cells (rowN 16 (blk f)) 23 (0, 0)) ∧ V.heap[w.heap.size + 1]? = some (.cells (rowN 4 (blk g)) 24 (0, 0))) := Lib.hid fun V k => ⟨(k.block _ (lt_of_block hb)).trans hb, (k.block _ (lt_of_block hg)).trans hg⟩
  have HW0 := Lib.hid hW0
  have HO := Lib.hid ho
  clear hb hg ho hW0
  have hN := fun w => near_any f w
  rw [decide_eq_true (small_near hs)] at hN
  have HN := Lib.hid hN
  have hWi := fun w => wide_any f w hf
  rw [decide_eq_false (fun h => h hs)] at hWi
  have HWi := Lib.hid hWi
  have hRi := fun w => lright_any g w
  rw [decide_eq_true hr] at hRi
  have HRi := Lib.hid hRi
  have hTo := fun w => LTold_any f zeroS zeroS none 0 0 (fun _ => 0) w hf (no_tones w _) (by omega)
  rw [show addTo (-1) f (fun _ => 0) 0 = f from rfl] at hTo
  have hFm := fun w => frame_search f g N w hf h ⟨hs, hr⟩
  have hLs := fun w => LSearch_any f g (8 * N) true w hf
  have HXs := Lib.hid (rest_small hs true)
  have HTm := Lib.hid (tones_may hs (tnN f true) (Nat.le_refl _))
  have HTf := Lib.hid (tone_fits hf)
  have HRt := Lib.hid hr
  obtain ⟨X, hX⟩ : ∃ X, restF2 f true = X := ⟨_, rfl⟩
  obtain ⟨t, ht⟩ : ∃ t, tnN f true = t := ⟨_, rfl⟩
  obtain ⟨room, hroom⟩ : ∃ room, 8 * (N : Int) = room := ⟨_, rfl⟩
  obtain ⟨E, hE⟩ : ∃ E, tolN zeroS zeroS f = E := ⟨_, rfl⟩
  rw [hX] at HXs
  rw [ht] at HTm
  rw [hX, ht, hroom] at hFm hLs
  rw [hE] at hTo
  have HFm := Lib.hid hFm
  have HLs := Lib.hid hLs
  have HTo := Lib.hid hTo
  have Hroom := Lib.hid hroom
  have Hr192 : Hid (192 ≤ room) := Lib.hid (by omega)
  obtain ⟨h24, h55⟩ := h
  clear hs hr hf hX ht hroom hE
  clear hN hWi hRi hTo hFm
  clear hLs
  go_enter Try.func4, Try.ntmps4
  go_wp2_with (rw [← HW0.out]; with_reducible refine wpList_load_row rfl 23 _ rfl w.heap.size rfl 23 (rowN 16 (blk f)) (0, 0) _ (HK0.out _ (Old.refl _)).1 Try.underlying23 rfl (by rw [rowN_size]; exact Hs16.out) ?_)
  clear HW0
  refine (HN.out _).mono ?_
  rintro e V1 ⟨rfl, o1⟩
  have HK1 := Lib.hid (HK0.out _ o1)
  have HO1 := Lib.hid o1
  clear o1 HN
  go_wp2_with (first | (with_reducible refine wpList_load_row rfl 23 _ rfl w.heap.size rfl 23 (rowN 16 (blk f)) (0, 0) _ HK1.out.1 Try.underlying23 rfl (by rw [rowN_size]; exact Hs16.out) ?_) | (with_reducible refine wpList_load_row rfl 24 _ rfl (w.heap.size + 1) rfl 24 (rowN 4 (blk g)) (0, 0) _ HK1.out.2 Try.underlying24 rfl (by rw [rowN_size]; exact Hs4.out) ?_))
  try rw [Hroom.out]
  refine (HFm.out _).mono ?_
  rintro e V2 ⟨n, p, cap, rfl, hst, t2, tc, cm, hsl, o2⟩
  obtain ⟨F, hF⟩ : ∃ F, tolN g (sclN X n) X = F := ⟨_, rfl⟩
  have hmay : FrP F t (toneF f) := by rw [← hF]; exact tol_may HRt.out (scl_inv X t room n hst.no).1 HXs.out t2 HTm.out
  have hcost : costI F t ≤ room := by
    have := stop_room hst HXs.out t2 Hr192.out
    have e : costI F t = costN X t n := by
      rw [← hF]
      unfold costI costN tolN
      rw [sum_four, sum_four, frN_u _ _ _ _ 0 (by omega), frN_u _ _ _ _ 1 (by omega), frN_u _ _ _ _ 2 (by omega), frN_u _ _ _ _ 3 (by omega)]
    omega
  have HFd := Lib.hid hF
  have HSt := Lib.hid hst
  have HMay := Lib.hid hmay
  have HCost := Lib.hid hcost
  have Hcm := Lib.hid cm
  have Htc := Lib.hid tc
  rw [hF]
  clear hF hst hmay hcost cm tc HXs HTm Hr192 HRt
  have H1 : Hid ((rowN 29 (frC F (.slice p t cap))).all (·.oneCell') = true) := Lib.hid (frC_one _ _ rfl)
  have oo := o2.alloc' (.cells (rowN 29 (frC F (.slice p t cap))) 29)
  have HOV3 := Lib.hid (HO1.out.trans oo)
  have HKV3 := Lib.hid (HK0.out _ HOV3.out)
  have HFV3 := Lib.hid (heap_alloc_new V2 (.cells (rowN 29 (frC F (.slice p t cap))) 29))
  have HSl := Lib.hid (hsl.old (Old.alloc V2 (.cells (rowN 29 (frC F (.slice p t cap))) 29)))
  obtain ⟨V3, hV⟩ : ∃ V, V = V2.alloc (.cells (rowN 29 (frC F (.slice p t cap))) 29) := ⟨_, rfl⟩
  obtain ⟨fb, hfb⟩ : ∃ q, q = V2.heap.size := ⟨_, rfl⟩
  rw [← hV] at HOV3 HKV3 HSl
  rw [← hV, ← hfb] at HFV3
  have HVV3 := Lib.hid hV
  have HqV3 := Lib.hid hfb
  clear hV hfb oo
  clear o2 HK1 HFm hsl
  go_wp2_with (first | (with_reducible refine wpList_store_row rfl 29 _ _ rfl V2.heap.size (rowN 29 (frC F (.slice p t cap))) rfl rfl 29 _ (heap_alloc_new _ _) (by rw [rowN_size]; exact Hs29.out) (by rw [rowN_size]; kernel_rfl) H1.out ?_; rw [World.setRow_alloc_new, ← HVV3.out, ← HqV3.out]) | (with_reducible refine wpList_load_row rfl 23 _ rfl w.heap.size rfl 23 (rowN 16 (blk f)) (0, 0) _ HKV3.out.1 Try.underlying23 rfl (by rw [rowN_size]; exact Hs16.out) ?_))
  clear HVV3 HqV3 H1
  refine (HWi.out _).mono ?_
  rintro e U1 ⟨rfl, u1⟩
  have HO4 := Lib.hid (HOV3.out.trans u1)
  have HK4 := Lib.hid (HK0.out _ HO4.out)
  have HF4 := Lib.hid ((u1.block _ (lt_of_block HFV3.out)).trans HFV3.out)
  have HSl4 := Lib.hid (HSl.out.old u1)
  clear u1 HKV3 HFV3 HOV3 HSl
  go_wp2_with (with_reducible refine wpList_load_row_w (by kernel_rfl) 24 _ rfl (w.heap.size + 1) rfl 24 (rowN 4 (blk g)) (0, 0) _ HK4.out.2 Try.underlying24 rfl (by rw [rowN_size]; exact Hs4.out) ?_)
  refine (HRi.out _).mono ?_
  rintro e U2 ⟨rfl, u2⟩
  have HO5 := Lib.hid (HO4.out.trans u2)
  have HK5 := Lib.hid (HK0.out _ HO5.out)
  have HF5 := Lib.hid ((u2.block _ (lt_of_block HF4.out)).trans HF4.out)
  have HSl5 := Lib.hid (HSl4.out.old u2)
  clear u2 HK4 HF4 HO4 HSl4
  go_wp2_with (with_reducible refine wpList_load_row rfl 23 _ rfl w.heap.size rfl 23 (rowN 16 (blk f)) (0, 0) _ HK5.out.1 Try.underlying23 rfl (by rw [rowN_size]; exact Hs16.out) ?_)
  rw [← row4_zeroS]
  refine (HTo.out _).mono ?_
  rintro e V4 ⟨rfl, o4⟩
  have H1 : Hid ((rowN 29 (frC E (.slice none 0 0))).all (·.oneCell') = true) := Lib.hid (frC_one _ _ rfl)
  have Hlt5 : Hid (U2.heap.size ≤ V4.heap.size) := Lib.hid o4.size
  have oo := o4.alloc' (.cells (rowN 29 (frC E (.slice none 0 0))) 29)
  have HOV5 := Lib.hid (HO5.out.trans oo)
  have HKV5 := Lib.hid (HK0.out _ HOV5.out)
  have HFV5 := Lib.hid (heap_alloc_new V4 (.cells (rowN 29 (frC E (.slice none 0 0))) 29))
  have HF6 := Lib.hid (((o4.alloc' (.cells (rowN 29 (frC E (.slice none 0 0))) 29)).block _ (lt_of_block HF5.out)).trans HF5.out)
  have HSl6 := Lib.hid (HSl5.out.old (o4.alloc' (.cells (rowN 29 (frC E (.slice none 0 0))) 29)))
  obtain ⟨V5, hV⟩ : ∃ V, V = V4.alloc (.cells (rowN 29 (frC E (.slice none 0 0))) 29) := ⟨_, rfl⟩
  obtain ⟨gb, hfb⟩ : ∃ q, q = V4.heap.size := ⟨_, rfl⟩
  rw [← hV] at HOV5 HKV5 HF6 HSl6
  rw [← hV, ← hfb] at HFV5
  have HVV5 := Lib.hid hV
  have HqV5 := Lib.hid hfb
  clear hV hfb oo
  clear o4 HK5
  go_wp2_with (first | (with_reducible refine wpList_store_row rfl 29 _ _ rfl V4.heap.size (rowN 29 (frC E (.slice none 0 0))) rfl rfl 29 _ (heap_alloc_new _ _) (by rw [rowN_size]; exact Hs29.out) (by rw [rowN_size]; kernel_rfl) H1.out ?_; rw [World.setRow_alloc_new, ← HVV5.out, ← HqV5.out]) | (with_reducible refine wpList_load_row rfl 23 _ rfl w.heap.size rfl 23 (rowN 16 (blk f)) (0, 0) _ HKV5.out.1 Try.underlying23 rfl (by rw [rowN_size]; exact Hs16.out) ?_) | (with_reducible refine wpList_load_row rfl 24 _ rfl (w.heap.size + 1) rfl 24 (rowN 4 (blk g)) (0, 0) _ HKV5.out.2 Try.underlying24 rfl (by rw [rowN_size]; exact Hs4.out) ?_))
  rw [Hroom.out]
  refine (HLs.out _).mono ?_
  rintro e V6 ⟨n', p', cap', rfl, hst', _, tc', cm', hsl', hq', o6⟩
  obtain rfl : n = n' := HSt.out.one hst'
  rw [HFd.out]
  have H2 : Hid ((rowN 29 (frC F (.slice p' t cap'))).all (·.oneCell') = true) := Lib.hid (frC_one _ _ rfl)
  have Hgb : Hid (gb < V6.heap.size) := Lib.hid (Nat.lt_of_lt_of_le (lt_of_block HFV5.out) o6.size)
  have Hq' : Hid (∀ b, (Value.slice p' t cap').ownBlock = some b → gb < b) := Lib.hid fun b hb => Nat.lt_of_lt_of_le (lt_of_block HFV5.out) (hq' b hb)
  have oo := o6.alloc' (.cells (rowN 29 (frC F (.slice p' t cap'))) 29)
  have HOV7 := Lib.hid (HOV5.out.trans oo)
  have HKV7 := Lib.hid (HK0.out _ HOV7.out)
  have HFV7 := Lib.hid (heap_alloc_new V6 (.cells (rowN 29 (frC F (.slice p' t cap'))) 29))
  have HF7 := Lib.hid (((o6.alloc' (.cells (rowN 29 (frC F (.slice p' t cap'))) 29)).block _ (lt_of_block HF6.out)).trans HF6.out)
  have HG7 := Lib.hid (((o6.alloc' (.cells (rowN 29 (frC F (.slice p' t cap'))) 29)).block _ (lt_of_block HFV5.out)).trans HFV5.out)
  have HSl7 := Lib.hid (HSl6.out.old (o6.alloc' (.cells (rowN 29 (frC F (.slice p' t cap'))) 29)))
  have HSl8 := Lib.hid (hsl'.old (Old.alloc V6 (.cells (rowN 29 (frC F (.slice p' t cap'))) 29)))
  obtain ⟨V7, hV⟩ : ∃ V, V = V6.alloc (.cells (rowN 29 (frC F (.slice p' t cap'))) 29) := ⟨_, rfl⟩
  obtain ⟨hb, hfb⟩ : ∃ q, q = V6.heap.size := ⟨_, rfl⟩
  rw [← hV] at HOV7 HKV7 HF7 HG7 HSl7 HSl8
  rw [← hV, ← hfb] at HFV7
  have HVV7 := Lib.hid hV
  have HqV7 := Lib.hid hfb
  clear hV hfb oo
  have Hge : Hid (U2.heap.size ≤ gb) := Lib.hid (by have h1 := Hlt5.out; have h2 := HqV5.out; omega)
  have Hfb : Hid (fb < gb) := Lib.hid (Nat.lt_of_lt_of_le (lt_of_block HF5.out) Hge.out)
  have hg0 : W0.heap.size ≤ gb := Nat.le_trans HO5.out.size Hge.out
  obtain ⟨V9, hV9⟩ : ∃ V, V = V7.setRow gb (rowN 29 (frC F (.slice p' t cap'))) := ⟨_, rfl⟩
  have hr9 := row_ret HG7.out HOV7.out hg0 (rowN 29 (frC F (.slice p' t cap')))
  have hkb : Kept (butOf V7 gb) V7 V9 := by rw [hV9]; exact ⟨rfl, rfl, by simp, fun k hk => setRow_other _ _ _ _ hk.2⟩
  have HO9 := Lib.hid (show Old W0 V9 by rw [hV9]; exact hr9.2)
  have HG9 := Lib.hid (show V9.heap[gb]? = some (.cells (rowN 29 (frC F (.slice p' t cap'))) 29 (0, 0)) by rw [hV9]; exact hr9.1)
  have HF9 := Lib.hid ((hkb.block fb ⟨lt_of_block HF7.out, by have := Hfb.out; omega⟩).trans HF7.out)
  have HSlp := Lib.hid (slF_kept HSl7.out hkb fun h0 a ha => by
    obtain ⟨g1, o1, e1, e2, _⟩ := HSl5.out h0
    obtain ⟨g2, o2, e3, e4, _⟩ := HSl7.out h0
    rw [e1] at ha e3
    cases ha
    cases e3
    exact ⟨e4, by have := Hge.out; show g1 ≠ gb; omega⟩)
  have HSlq := Lib.hid (slF_kept HSl8.out hkb fun h0 a ha => by
    obtain ⟨g2, o2, e3, e4, _⟩ := HSl8.out h0
    have hlt := Hq'.out g2 (by rw [e3]; rfl)
    rw [e3] at ha
    cases ha
    exact ⟨e4, by show g2 ≠ gb; omega⟩)
  have HV9 := Lib.hid hV9
  clear hg0 hr9 hkb hV9 hsl' hq' hst' o6 HF5 HO5 HSl5 HSl6 HSl7 HSl8 Hlt5 Hge Hgb Hq' HF6 HFV5 HOV5 HKV5 HKV7 HTo HWi HRi HLs HSt HFd H1 HVV5 HqV5 HOV7
  go_wp2_with (first | (with_reducible refine wpList_store_row rfl 29 _ _ rfl V6.heap.size (rowN 29 (frC F (.slice p' t cap'))) rfl rfl 29 _ (heap_alloc_new _ _) (by rw [rowN_size]; exact Hs29.out) (by rw [rowN_size]; kernel_rfl) H2.out ?_; rw [World.setRow_alloc_new, ← HVV7.out, ← HqV7.out]) | (with_reducible refine wpList_load_row rfl 29 _ rfl hb rfl 29 (rowN 29 (frC F (.slice p' t cap'))) (0, 0) _ HFV7.out Try.underlying29 rfl (by rw [rowN_size]; exact Hs29.out) ?_) | (with_reducible refine wpList_store_row rfl 29 _ _ rfl gb (rowN 29 (frC F (.slice p' t cap'))) rfl rfl 29 _ HG7.out (by rw [rowN_size]; exact Hs29.out) (by rw [rowN_size, rowN_size]) H2.out ?_; rw [← HV9.out]) | (with_reducible refine wpList_load_row rfl 29 _ rfl fb rfl 29 (rowN 29 (frC F (.slice p t cap))) (0, 0) _ HF9.out Try.underlying29 rfl (by rw [rowN_size]; exact Hs29.out) ?_))
  clear HV9 HVV7 HqV7 H2 HG7 HFV7 HF7
  have HBy := Lib.hid (FBytes_yes F p t cap (toneF f) N V9 HSlp.out HTf.out Htc.out Hcm.out HMay.out)
  have HSm : Hid (∀ W, Old V9 W → Calls Try.prog 12 #[.agg (rowN 29 (frC F (.slice p t cap))), .agg (rowN 29 (frC F (.slice p' t cap')))] W fun e w' => e = .returned (.bool true) ∧ Old W w') := Lib.hid fun W k => by
    have := Same_any F F p p' t t cap cap' (toneF f) (toneF f) W (HSlp.out.old k) (HSlq.out.old k) (by unfold maxLen; omega) (by unfold maxLen; omega)
    rw [decide_eq_true ⟨rfl, fun _ _ => rfl, fun _ _ _ => rfl⟩] at this
    exact this
  have HRg : Hid (∀ W, Old V9 W → Calls Try.prog 18 #[.agg (rowN 29 (frC F (.slice p t cap)))] W fun e w' => e = .returned (.bool true) ∧ Old W w') := Lib.hid fun W k => by
    have := FRight_any F p t cap (toneF f) W (HSlp.out.old k) HTf.out Htc.out Hcm.out
    rw [decide_eq_true HMay.out] at this
    exact this
  refine HBy.out.mono ?_
  rintro e V10 ⟨o10, hh⟩
  rcases hh with ⟨h0, rfl⟩ | ⟨h0, yb, rfl, hyg, hyb⟩
  · exact absurd (err_none _ _ (by rw [enc_len HMay.out, Hroom.out]; exact HCost.out) (by omega)) h0
  rw [Int.toNat_natCast]
  have HO10 := Lib.hid (HO9.out.trans o10)
  have HF10 := Lib.hid ((o10.block _ (lt_of_block HF9.out)).trans HF9.out)
  have HG10 := Lib.hid ((o10.block _ (lt_of_block HG9.out)).trans HG9.out)
  have Ho10 := Lib.hid o10
  clear h0 hyg hyb o10 HBy HF9 HG9 HO9
  go_wp2_with (first | (with_reducible refine wpList_load_row_w (by kernel_rfl) 29 _ rfl fb rfl 29 (rowN 29 (frC F (.slice p t cap))) (0, 0) _ HF10.out Try.underlying29 rfl (by rw [rowN_size]; exact Hs29.out) ?_) | (with_reducible refine wpList_load_row_w (by kernel_rfl) 29 _ rfl gb rfl 29 (rowN 29 (frC F (.slice p' t cap'))) (0, 0) _ HG10.out Try.underlying29 rfl (by rw [rowN_size]; exact Hs29.out) ?_))
  refine (HSm.out _ Ho10.out).mono ?_
  rintro e V11 ⟨rfl, o11⟩
  have HO11 := Lib.hid (HO10.out.trans o11)
  have Ho11 := Lib.hid (Ho10.out.trans o11)
  have HF11 := Lib.hid ((o11.block _ (lt_of_block HF10.out)).trans HF10.out)
  clear o11 HF10 HG10 HO10 Ho10 HSm
  go_wp2_with (with_reducible refine wpList_load_row_w (by kernel_rfl) 29 _ rfl fb rfl 29 (rowN 29 (frC F (.slice p t cap))) (0, 0) _ HF11.out Try.underlying29 rfl (by rw [rowN_size]; exact Hs29.out) ?_)
  refine (HRg.out _ Ho11.out).mono ?_
  rintro e V12 ⟨rfl, o12⟩
  have HO12 := Lib.hid (HO11.out.trans o12)
  clear o12 HF11 HO11 Ho11 HRg
  go_wp2_with fail
  refine (HA.out _).mono ?_
  rintro e U9 ⟨rfl, o9⟩
  have HR := Lib.hid (HO.out.trans (HO12.out.trans o9))
  clear o9 HA HK0
  go_wp2_with fail
  go_ret
  exact ⟨rfl, HR.out⟩
theorem walk (f g : Nat → Int) (size : Int) (w : World) (h0 : ∀ k, 16 ≤ k → f k = 0) :
    Calls Try.prog 4 #[.agg (rowN 16 (blk f)), .agg (rowN 4 (blk g)), .int .i64 size] w fun e w' => e = .returned (.bool true) ∧ Old w w' := by
  by_cases hn : nearP f
  · have hf := near_fits hn h0
    by_cases hz : 24 ≤ size ∧ size ≤ 96
    · by_cases hg : smallP f ∧ rightP g
      · by_cases h55 : 55 ≤ size
        · exact walk_exact f g size w hf hg.1 hg.2 ⟨h55, hz.2⟩
        · exact walk_search f g size w hf hg.1 hg.2 ⟨hz.1, by omega⟩
      · exact walk_no f g size w hn hf 5 (.inr ⟨hz, hg, rfl⟩)
    · exact walk_no f g size w hn hf 12 (.inl ⟨hz, rfl⟩)
  · exact walk_far f g size w hn


theorem own : ownKnob Try.prog.godebug = none := by kernel_rfl
theorem laidOut : laidOutB Try.prog = true := by kernel_rfl

set_option maxRecDepth 100000 in
theorem lifted (os : Os) (started : os.Started) (H : Type) (enc : TypeId × Value → H) :
    ReturnsInHanded {} Try.checked os 4 .any (Rows.fitFramesSpec.pre6 enc Try.prog Try.f4 Rows.fitFramesRow.domain false) (Rows.fitFramesSpec.post enc Try.prog Try.f4 false true false false) := by
  refine returnsInHanded_of_change (C := Try.checked) own started (by kernel_rfl) Try.func4
    (ChangeSpec.witness6 (enc := enc) (C := Try.checked) false ⟨#[], #[.agg #[.int .i64 0, .int .i64 0, .int .i64 0, .int .i64 0, .int .i64 0, .int .i64 0, .int .i64 0, .int .i64 0, .int .i64 0, .int .i64 0, .int .i64 0, .int .i64 0, .int .i64 0, .int .i64 0, .int .i64 0, .int .i64 0], .agg #[.int .i64 0, .int .i64 0, .int .i64 0, .int .i64 0], .int .i64 0], []⟩ 8 (by kernel_rfl) (by kernel_rfl) (by kernel_rfl) (by kernel_rfl)) ?_
  intro W base args ds gs before hval0 hW hcnd _
  have hval : ∀ (j : Nat) t v, Try.f4.params[j]? = some t → args[j]? = some v → Value.okWide Try.prog W .any base t v := hval0
  have hW' := hW
  have hlt : ∀ p ∈ before, p.block < W.heap.size := fun p hp => hW'.lt p hp
  obtain ⟨p, q, hA0, hV, rfl, hfz, hnd⟩ := hW
  have hA : DataW.TrodAll enc Try.prog W 0 (fun _ => true) true Try.f4.params.toList args.toList ds p := hA0
  rw [Try.params4] at hA hval
  obtain ⟨v0, vs0, d0, ds0, p0, q0, hargs, rfl, rfl, h0, r0⟩ := trodAll_cons hA
  obtain ⟨v1, vs1, d1, ds1, p1, q1, rfl, rfl, rfl, h1, r1⟩ := trodAll_cons r0
  obtain ⟨v2, vs2, d2, ds2, p2, q2, rfl, rfl, rfl, h2, r2⟩ := trodAll_cons r1
  obtain ⟨rfl, rfl, rfl⟩ := trodAll_nil r2
  obtain rfl : args = #[v0, v1, v2] := by cases args; simp_all
  obtain ⟨rfl, rfl⟩ := trodVars_none hV
  obtain ⟨f0, rfl, hf0, hz0⟩ := open_ints64 Try.underlying23 Try.underlying2 (by kernel_rfl) (by kernel_rfl) (hval 0 23 v0 rfl rfl) h0
  obtain ⟨f1, rfl, hf1, hz1⟩ := open_ints64 Try.underlying24 Try.underlying3 (by kernel_rfl) (by kernel_rfl) (hval 1 24 v1 rfl rfl) h1
  obtain ⟨a2, rfl, _, _, w2⟩ := open_int Try.underlying3 (hval 2 3 v2 rfl rfl) h2
  refine (walk f0 f1 a2 W hz0).mono fun e W' ⟨he, hg⟩ => ?_
  subst he
  exact ⟨_, rfl, law_done laidOut Try.underlying4 rfl (by kernel_rfl) rfl hW' rfl hg⟩

theorem over : Rows.fitFramesRow.holds Try.pinned (OpenSpec.ofChange Rows.fitFramesSpec) :=
  OpenClaim.holds_of_wide 4 Try.f4 rfl rfl rfl rfl rfl rfl rfl ⟨rfl, rfl, rfl, rfl, rfl⟩ rfl rfl rfl rfl rfl (by kernel_rfl) Try.func4 (by kernel_rfl)
    (of_decide_eq_true (by kernel_rfl)) (by unfold Func.isWrapper; first | (rw [if_pos (by decide +kernel)]; kernel_rfl) | (rw [if_neg (by decide +kernel)]; exact ⟨rfl, rfl⟩))
    (fun os started H enc _ => lifted os started H enc)

theorem proved : Rows.FitFramesSaid :=
  over
end Go.Proofs.Ytcepfbflgngmjaa.fitFrames
