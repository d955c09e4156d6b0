/- The law's own disk: other. -/
import Derived.Test.YtnccbghpdfcaeaaPlainF
import Derived.BigQuiet
namespace Go.Proofs.Ytnccbghpdfcaeaa
set_option linter.unusedVariables false
set_option linter.unusedSimpArgs false
set_option maxRecDepth 100000
open Go.RowKit Go.ChangeShapes Go.WideShapes

def opC (kd pg n z : Int) : Array Value := #[.int .i64 kd, .int .i64 pg, .int .i64 n, .int .u8 z]
theorem cell4 {w : World} {b : Nat} {x y z u : Value} {t : TypeId} (h : w.heap[b]? = some (.cells #[x, y, z, u] t (0, 0))) :
    w.cell? ⟨b, 0, none⟩ = some x ∧ w.cell? ⟨b, 1, none⟩ = some y ∧ w.cell? ⟨b, 2, none⟩ = some z ∧ w.cell? ⟨b, 3, none⟩ = some u := by
  simp [World.cell?, h]
theorem lawOther_out (B : PlB) (x : Pln) (kd pg n z : Int) (w : World) (h : PlAt w B x) (hn : x.N ≤ 8) (hi : pg < 0 ∨ (x.N : Int) ≤ pg) :
    Calls Try.prog 9 #[.pointer (some ⟨B.q, 0, none⟩), .agg #[.int .i64 kd, .int .i64 pg, .int .i64 n, .int .u8 z]] w fun e w' => e = .returned (.int .i64 5) ∧ Old w w' := by
  have HO := Lib.hid (Old.alloc w (.cells #[.int .i64 kd, .int .i64 pg, .int .i64 n, .int .u8 z] 31))
  obtain ⟨_, c1, _, _, _, _, _, _⟩ := (h.old HO.out).cells
  obtain ⟨N, hN⟩ : ∃ N, N = x.N := ⟨_, rfl⟩
  rw [← hN] at c1 hi hn
  clear h hN
  by_cases h0 : pg < 0
  · have q0 : decide (pg < 0) = true := decide_eq_true h0
    clear hi
    go_enter Try.func9, Try.ntmps9
    go_wp2_with fail
    go_quiet (fail)
    go_wp2_with fail
    go_ret
    exact ⟨rfl, HO.out.drewN _⟩
  · have h1 : (N : Int) ≤ pg := by omega
    have q0 : decide (pg < 0) = false := decide_eq_false h0
    clear hi
    go_enter Try.func9, Try.ntmps9
    go_wp2_with fail
    go_quiet (fail)
    go_wp2_with fail
    go_ret
    exact ⟨rfl, HO.out.drewN _⟩
theorem lawOther_arg (B : PlB) (x : Pln) (k : Nat) (n z : Int) (w : World) (h : PlAt w B x) (hn : x.N ≤ 8) (hk : k < x.N) (hi : n < 0 ∨ 63 < n) :
    Calls Try.prog 9 #[.pointer (some ⟨B.q, 0, none⟩), .agg #[.int .i64 4, .int .i64 k, .int .i64 n, .int .u8 z]] w fun e w' => e = .returned (.int .i64 1) ∧ Old w w' := by
  have HO := Lib.hid (Old.alloc w (.cells #[.int .i64 4, .int .i64 k, .int .i64 n, .int .u8 z] 31))
  obtain ⟨_, c1, _, _, _, _, _, _⟩ := (h.old HO.out).cells
  obtain ⟨N, hN⟩ : ∃ N, N = x.N := ⟨_, rfl⟩
  rw [← hN] at c1 hk hn
  have h1 : ¬ (N : Int) ≤ k := by omega
  have q0 : decide ((k : Int) < 0) = false := decide_eq_false (by omega)
  have HB := Lib.hid (heap_alloc_new w (.cells #[.int .i64 4, .int .i64 k, .int .i64 n, .int .u8 z] 31))
  clear h hN
  by_cases h0 : n < 0
  · have q1 : decide (n < 0) = true := decide_eq_true h0
    clear hi
    go_enter Try.func9, Try.ntmps9
    go_wp2_with fail
    go_quiet (fail)
    go_wp2_with fail
    go_ret
    exact ⟨rfl, HO.out.drewN _⟩
  · have h2 : 63 < n := by omega
    have q1 : decide (n < 0) = false := decide_eq_false h0
    clear hi
    go_enter Try.func9, Try.ntmps9
    go_wp2_with fail
    go_quiet (fail)
    go_wp2_with fail
    go_ret
    exact ⟨rfl, HO.out.drewN _⟩
set_option maxHeartbeats 2000000 in
theorem lawOther_fail (B : PlB) (x : Pln) (k : Nat) (n z : Int) (w : World) (h : PlAt w B x) (hn : x.N ≤ 8) (hk : k < x.N) :
    Calls Try.prog 9 #[.pointer (some ⟨B.q, 0, none⟩), .agg #[.int .i64 3, .int .i64 k, .int .i64 n, .int .u8 z]] w fun e w' => e = .returned (.int .i64 0) ∧ PlAt w' B { x with FF := updI x.FF k (if n < 0 then -1 else n) } ∧ Kept (butP w B) w w' := by
  obtain ⟨V, hV⟩ : ∃ V, V = (if n < 0 then -1 else n) := ⟨_, rfl⟩
  rw [← hV]
  have HV := Lib.hid hV
  clear hV
  have HO := Lib.hid (Old.alloc w (.cells #[.int .i64 3, .int .i64 k, .int .i64 n, .int .u8 z] 31))
  have HA := Lib.hid (h.old HO.out)
  have HB := Lib.hid (heap_alloc_new w (.cells #[.int .i64 3, .int .i64 k, .int .i64 n, .int .u8 z] 31))
  have HKp := Lib.hid (show Kept (butP w B) w (w.alloc (.cells #[.int .i64 3, .int .i64 k, .int .i64 n, .int .u8 z] 31)) from HO.out.kept fun j hj => hj.1)
  obtain ⟨_, c1, _, _, _, _, _, _⟩ := HA.out.cells
  have HK := Lib.hid hk
  obtain ⟨N, hN⟩ : ∃ N, N = x.N := ⟨_, rfl⟩
  have HN := Lib.hid hN
  rw [← hN] at c1 hk hn
  have h1 : ¬ (N : Int) ≤ k := by omega
  have q0 : decide ((k : Int) < 0) = false := decide_eq_false (by omega)
  have q2 : decide (N ≤ k) = false := decide_eq_false (by omega)
  have HGl := Lib.hid h.lts
  clear h hN
  go_enter Try.func9, Try.ntmps9
  go_wp2_with fail
  go_quiet (fail)
  have HA1 := Lib.hid (HA.out.old ((Old.refl _).drewN nq))
  have HB1 := Lib.hid (show ((w.alloc (.cells #[.int .i64 3, .int .i64 k, .int .i64 n, .int .u8 z] 31)).drewN nq).heap[w.heap.size]? = _ from HB.out)
  have HK1 := Lib.hid (HKp.out.drewN nq)
  have HG1 := Lib.hid (show w.heap.size ≠ B.q ∧ w.heap.size ≠ B.gf ∧ w.heap.size ≠ B.ga ∧ w.heap.size ≠ B.gx from by
    have := HGl.out; omega)
  clear HA HB HKp HO c1
  generalize (w.alloc (.cells #[.int .i64 3, .int .i64 k, .int .i64 n, .int .u8 z] 31)).drewN nq = W1 at *
  generalize w.heap.size = g at HB1 HG1 ⊢
  obtain ⟨e0, e1, e2, e3⟩ := cell4 HB1.out
  obtain ⟨_, c1, c2, c3, _, _, _, _⟩ := HA1.out.cells
  have ff := HA1.out.ff.frz k HK.out
  have fa := HA1.out.at_.frz k HK.out
  have fx := HA1.out.xx.fz k HK.out
  have vf := HA1.out.ff.cell k HK.out
  have va := HA1.out.at_.cell k HK.out
  have vx := HA1.out.xx.at_ k HK.out
  rw [← HN.out] at c1 c2 c3
  have h1' : (k : Int) < N := by omega
  have HW2 := Lib.hid (show PlAt ((W1.setCell ⟨B.gf, k, none⟩ (.int .i64 n)).drew) B { x with FF := updI x.FF k n } from HA1.out.drew.setF HK.out n)
  have HK2 := Lib.hid (show Kept (butP w B) w ((W1.setCell ⟨B.gf, k, none⟩ (.int .i64 n)).drew) from butP.setCell HK1.out.drew (a := ⟨B.gf, k, none⟩) (.inr (.inl rfl)) _)
  have HB2 := Lib.hid (show ((W1.setCell ⟨B.gf, k, none⟩ (.int .i64 n)).drew).heap[g]? = _ from (Below.heap_setCell _ _ _ _ HG1.out.2.1).trans HB1.out)
  have eFF : ∀ v, updI (updI x.FF k n) k v = updI x.FF k v := fun v => by
    funext j
    unfold updI
    by_cases e : j = k
    · rw [if_pos e, if_pos e]
    · rw [if_neg e, if_neg e, if_neg e]
  have HeF := Lib.hid eFF
  clear eFF
  by_cases h0 : n < 0
  · have hv : V = -1 := by rw [HV.out, if_pos h0]
    have q3 : decide (n < 0) = true := decide_eq_true h0
    go_wp2_with fail
    refine wp_region_still_tail 9 (by kernel_rfl) (by kernel_rfl) ?_
    simp only [List.take_succ_cons, List.take_zero, List.drop_succ_cons, List.drop_zero]
    iterate 9 (with_reducible refine wpStill_step (fun K hK => ?_); go_simp; with_reducible refine hK _ ?_; clear hK K)
    with_reducible refine wpStill_nil ?_
    change wpList _ _ _ _ _ W1.drew
    go_upto_region 8 with (fail)
    generalize ((W1.setCell ⟨B.gf, k, none⟩ (.int .i64 n)).drew) = W2 at *
    clear e0 e1 e2 e3 c1 c2 c3 ff fa fx vf va vx
    obtain ⟨e0, e1, e2, e3⟩ := cell4 HB2.out
    obtain ⟨_, c1, _, _, _, _, _, _⟩ := HW2.out.cells
    have ff := HW2.out.ff.frz k HK.out
    have vf := HW2.out.ff.cell k HK.out
    dsimp only at c1 vf
    rw [← HN.out] at c1
    have HW3 := Lib.hid (show PlAt ((W2.setCell ⟨B.gf, k, none⟩ (.int .i64 (-1))).drew) B { x with FF := updI x.FF k (-1) } by have := HW2.out.drew.setF HK.out (-1); dsimp only at this; rw [HeF.out] at this; exact this)
    have HK3 := Lib.hid (show Kept (butP w B) w ((W2.setCell ⟨B.gf, k, none⟩ (.int .i64 (-1))).drew) from butP.setCell HK2.out.drew (a := ⟨B.gf, k, none⟩) (.inr (.inl rfl)) _)
    go_wp2_with fail
    refine wp_region_still_tail 7 (by kernel_rfl) (by kernel_rfl) ?_
    simp only [List.take_succ_cons, List.take_zero, List.drop_succ_cons, List.drop_zero]
    iterate 7 (with_reducible refine wpStill_step (fun K hK => ?_); go_simp; with_reducible refine hK _ ?_; clear hK K)
    with_reducible refine wpStill_nil ?_
    change wpList _ _ _ _ _ W2.drew
    go_wp2_with fail
    go_ret
    exact ⟨rfl, by rw [hv]; exact HW3.out, HK3.out⟩
  · have hv : V = n := by rw [HV.out, if_neg h0]
    have q3 : decide (n < 0) = false := decide_eq_false h0
    go_wp2_with fail
    refine wp_region_still_tail 9 (by kernel_rfl) (by kernel_rfl) ?_
    simp only [List.take_succ_cons, List.take_zero, List.drop_succ_cons, List.drop_zero]
    iterate 9 (with_reducible refine wpStill_step (fun K hK => ?_); go_simp; with_reducible refine hK _ ?_; clear hK K)
    with_reducible refine wpStill_nil ?_
    change wpList _ _ _ _ _ W1.drew
    go_upto_region 8 with (fail)
    generalize ((W1.setCell ⟨B.gf, k, none⟩ (.int .i64 n)).drew) = W2 at *
    clear e0 e1 e2 e3 c1 c2 c3 ff fa fx vf va vx
    obtain ⟨e0, e1, e2, e3⟩ := cell4 HB2.out
    go_wp2_with fail
    go_ret
    exact ⟨rfl, by rw [hv]; exact HW2.out, HK2.out⟩
set_option maxHeartbeats 2000000 in
theorem lawOther_spoil (B : PlB) (x : Pln) (k : Nat) (n z : Int) (w : World) (h : PlAt w B x) (hn : x.N ≤ 8) (hk : k < x.N) (h63 : 0 ≤ n ∧ n ≤ 63) :
    Calls Try.prog 9 #[.pointer (some ⟨B.q, 0, none⟩), .agg #[.int .i64 4, .int .i64 k, .int .i64 n, .int .u8 z]] w fun e w' => e = .returned (.int .i64 0) ∧ PlAt w' B { x with AT := updI x.AT k n, XX := updI x.XX k z } ∧ Kept (butP w B) w w' := by
  have HO := Lib.hid (Old.alloc w (.cells #[.int .i64 4, .int .i64 k, .int .i64 n, .int .u8 z] 31))
  have HA := Lib.hid (h.old HO.out)
  have HB := Lib.hid (heap_alloc_new w (.cells #[.int .i64 4, .int .i64 k, .int .i64 n, .int .u8 z] 31))
  have HKp := Lib.hid (show Kept (butP w B) w (w.alloc (.cells #[.int .i64 4, .int .i64 k, .int .i64 n, .int .u8 z] 31)) from HO.out.kept fun j hj => hj.1)
  obtain ⟨_, c1, _, _, _, _, _, _⟩ := HA.out.cells
  have HK := Lib.hid hk
  obtain ⟨N, hN⟩ : ∃ N, N = x.N := ⟨_, rfl⟩
  have HN := Lib.hid hN
  rw [← hN] at c1 hk hn
  have h1 : ¬ (N : Int) ≤ k := by omega
  have q0 : decide ((k : Int) < 0) = false := decide_eq_false (by omega)
  have q2 : decide (N ≤ k) = false := decide_eq_false (by omega)
  have HGl := Lib.hid h.lts
  clear h hN
  go_enter Try.func9, Try.ntmps9
  go_wp2_with fail
  go_quiet (fail)
  have HA1 := Lib.hid (HA.out.old ((Old.refl _).drewN nq))
  have HB1 := Lib.hid (show ((w.alloc (.cells #[.int .i64 4, .int .i64 k, .int .i64 n, .int .u8 z] 31)).drewN nq).heap[w.heap.size]? = _ from HB.out)
  have HK1 := Lib.hid (HKp.out.drewN nq)
  have HG1 := Lib.hid (show w.heap.size ≠ B.q ∧ w.heap.size ≠ B.gf ∧ w.heap.size ≠ B.ga ∧ w.heap.size ≠ B.gx from by
    have := HGl.out; omega)
  clear HA HB HKp HO c1
  generalize (w.alloc (.cells #[.int .i64 4, .int .i64 k, .int .i64 n, .int .u8 z] 31)).drewN nq = W1 at *
  generalize w.heap.size = g at HB1 HG1 ⊢
  obtain ⟨e0, e1, e2, e3⟩ := cell4 HB1.out
  obtain ⟨_, c1, c2, c3, _, _, _, _⟩ := HA1.out.cells
  have ff := HA1.out.ff.frz k HK.out
  have fa := HA1.out.at_.frz k HK.out
  have fx := HA1.out.xx.fz k HK.out
  have vf := HA1.out.ff.cell k HK.out
  have va := HA1.out.at_.cell k HK.out
  have vx := HA1.out.xx.at_ k HK.out
  rw [← HN.out] at c1 c2 c3
  have h1' : (k : Int) < N := by omega
  have q3 : decide (n < 0) = false := decide_eq_false (by omega)
  have q4 : ¬ 63 < n := by omega
  have q5 : ¬ n < 0 := by omega
  have HW2 := Lib.hid (show PlAt ((W1.setCell ⟨B.ga, k, none⟩ (.int .i64 n)).drew) B { x with AT := updI x.AT k n } from HA1.out.drew.setA HK.out n)
  have HK2 := Lib.hid (show Kept (butP w B) w ((W1.setCell ⟨B.ga, k, none⟩ (.int .i64 n)).drew) from butP.setCell HK1.out.drew (a := ⟨B.ga, k, none⟩) (.inr (.inr (.inl rfl))) _)
  have HB2 := Lib.hid (show ((W1.setCell ⟨B.ga, k, none⟩ (.int .i64 n)).drew).heap[g]? = _ from (Below.heap_setCell _ _ _ _ HG1.out.2.2.1).trans HB1.out)
  have h00 : True := trivial
  · go_wp2_with fail
    refine wp_region_still_tail 9 (by kernel_rfl) (by kernel_rfl) ?_
    simp only [List.take_succ_cons, List.take_zero, List.drop_succ_cons, List.drop_zero]
    iterate 9 (with_reducible refine wpStill_step (fun K hK => ?_); go_simp; with_reducible refine hK _ ?_; clear hK K)
    with_reducible refine wpStill_nil ?_
    change wpList _ _ _ _ _ W1.drew
    go_upto_region 14 with (fail)
    generalize ((W1.setCell ⟨B.ga, k, none⟩ (.int .i64 n)).drew) = W2 at *
    clear e0 e1 e2 e3 c1 c2 c3 ff fa fx vf va vx
    obtain ⟨e0, e1, e2, e3⟩ := cell4 HB2.out
    obtain ⟨_, _, _, cz, _, _, _, _⟩ := HW2.out.cells
    have ff := HW2.out.xx.fz k HK.out
    have vf := HW2.out.xx.at_ k HK.out
    dsimp only at cz vf
    rw [← HN.out] at cz
    have HW3 := Lib.hid (show PlAt ((W2.setCell ⟨B.gx, k, none⟩ (.int .u8 z)).drew) B { x with AT := updI x.AT k n, XX := updI x.XX k z } from HW2.out.drew.setX HK.out z)
    have HK3 := Lib.hid (show Kept (butP w B) w ((W2.setCell ⟨B.gx, k, none⟩ (.int .u8 z)).drew) from butP.setCell HK2.out.drew (a := ⟨B.gx, k, none⟩) (.inr (.inr (.inr rfl))) _)
    refine wp_region_still_tail 9 (by kernel_rfl) (by kernel_rfl) ?_
    simp only [List.take_succ_cons, List.take_zero, List.drop_succ_cons, List.drop_zero]
    iterate 9 (with_reducible refine wpStill_step (fun K hK => ?_); go_simp; with_reducible refine hK _ ?_; clear hK K)
    with_reducible refine wpStill_nil ?_
    change wpList _ _ _ _ _ W2.drew
    go_wp2_with fail
    go_ret
    exact ⟨rfl, HW3.out, HK3.out⟩
set_option maxHeartbeats 2000000 in
theorem lawOther_heal (B : PlB) (x : Pln) (k : Nat) (n z : Int) (w : World) (h : PlAt w B x) (hn : x.N ≤ 8) (hk : k < x.N) :
    Calls Try.prog 9 #[.pointer (some ⟨B.q, 0, none⟩), .agg #[.int .i64 5, .int .i64 k, .int .i64 n, .int .u8 z]] w fun e w' => e = .returned (.int .i64 0) ∧ PlAt w' B { x with FF := updI x.FF k 0, XX := updI x.XX k 0 } ∧ Kept (butP w B) w w' := by
  have HO := Lib.hid (Old.alloc w (.cells #[.int .i64 5, .int .i64 k, .int .i64 n, .int .u8 z] 31))
  have HA := Lib.hid (h.old HO.out)
  have HB := Lib.hid (heap_alloc_new w (.cells #[.int .i64 5, .int .i64 k, .int .i64 n, .int .u8 z] 31))
  have HKp := Lib.hid (show Kept (butP w B) w (w.alloc (.cells #[.int .i64 5, .int .i64 k, .int .i64 n, .int .u8 z] 31)) from HO.out.kept fun j hj => hj.1)
  obtain ⟨_, c1, _, _, _, _, _, _⟩ := HA.out.cells
  have HK := Lib.hid hk
  obtain ⟨N, hN⟩ : ∃ N, N = x.N := ⟨_, rfl⟩
  have HN := Lib.hid hN
  rw [← hN] at c1 hk hn
  have h1 : ¬ (N : Int) ≤ k := by omega
  have q0 : decide ((k : Int) < 0) = false := decide_eq_false (by omega)
  have q2 : decide (N ≤ k) = false := decide_eq_false (by omega)
  have HGl := Lib.hid h.lts
  clear h hN
  go_enter Try.func9, Try.ntmps9
  go_wp2_with fail
  go_quiet (fail)
  have HA1 := Lib.hid (HA.out.old ((Old.refl _).drewN nq))
  have HB1 := Lib.hid (show ((w.alloc (.cells #[.int .i64 5, .int .i64 k, .int .i64 n, .int .u8 z] 31)).drewN nq).heap[w.heap.size]? = _ from HB.out)
  have HK1 := Lib.hid (HKp.out.drewN nq)
  have HG1 := Lib.hid (show w.heap.size ≠ B.q ∧ w.heap.size ≠ B.gf ∧ w.heap.size ≠ B.ga ∧ w.heap.size ≠ B.gx from by
    have := HGl.out; omega)
  clear HA HB HKp HO c1
  generalize (w.alloc (.cells #[.int .i64 5, .int .i64 k, .int .i64 n, .int .u8 z] 31)).drewN nq = W1 at *
  generalize w.heap.size = g at HB1 HG1 ⊢
  obtain ⟨e0, e1, e2, e3⟩ := cell4 HB1.out
  obtain ⟨_, c1, c2, c3, _, _, _, _⟩ := HA1.out.cells
  have ff := HA1.out.ff.frz k HK.out
  have fa := HA1.out.at_.frz k HK.out
  have fx := HA1.out.xx.fz k HK.out
  have vf := HA1.out.ff.cell k HK.out
  have va := HA1.out.at_.cell k HK.out
  have vx := HA1.out.xx.at_ k HK.out
  rw [← HN.out] at c1 c2 c3
  have h1' : (k : Int) < N := by omega
  have HW2 := Lib.hid (show PlAt ((W1.setCell ⟨B.gf, k, none⟩ (.int .i64 0)).drew) B { x with FF := updI x.FF k 0 } from HA1.out.drew.setF HK.out 0)
  have HK2 := Lib.hid (show Kept (butP w B) w ((W1.setCell ⟨B.gf, k, none⟩ (.int .i64 0)).drew) from butP.setCell HK1.out.drew (a := ⟨B.gf, k, none⟩) (.inr (.inl rfl)) _)
  have HB2 := Lib.hid (show ((W1.setCell ⟨B.gf, k, none⟩ (.int .i64 0)).drew).heap[g]? = _ from (Below.heap_setCell _ _ _ _ HG1.out.2.1).trans HB1.out)
  have h00 : True := trivial
  · go_wp2_with fail
    refine wp_region_still_tail 7 (by kernel_rfl) (by kernel_rfl) ?_
    simp only [List.take_succ_cons, List.take_zero, List.drop_succ_cons, List.drop_zero]
    iterate 7 (with_reducible refine wpStill_step (fun K hK => ?_); go_simp; with_reducible refine hK _ ?_; clear hK K)
    with_reducible refine wpStill_nil ?_
    change wpList _ _ _ _ _ W1.drew
    go_upto_region 5 with (fail)
    generalize ((W1.setCell ⟨B.gf, k, none⟩ (.int .i64 0)).drew) = W2 at *
    clear e0 e1 e2 e3 c1 c2 c3 ff fa fx vf va vx
    obtain ⟨e0, e1, e2, e3⟩ := cell4 HB2.out
    obtain ⟨_, _, _, cz, _, _, _, _⟩ := HW2.out.cells
    have ff := HW2.out.xx.fz k HK.out
    have vf := HW2.out.xx.at_ k HK.out
    dsimp only at cz vf
    rw [← HN.out] at cz
    have HW3 := Lib.hid (show PlAt ((W2.setCell ⟨B.gx, k, none⟩ (.int .u8 0)).drew) B { x with FF := updI x.FF k 0, XX := updI x.XX k 0 } from HW2.out.drew.setX HK.out 0)
    have HK3 := Lib.hid (show Kept (butP w B) w ((W2.setCell ⟨B.gx, k, none⟩ (.int .u8 0)).drew) from butP.setCell HK2.out.drew (a := ⟨B.gx, k, none⟩) (.inr (.inr (.inr rfl))) _)
    refine wp_region_still_tail 7 (by kernel_rfl) (by kernel_rfl) ?_
    simp only [List.take_succ_cons, List.take_zero, List.drop_succ_cons, List.drop_zero]
    iterate 7 (with_reducible refine wpStill_step (fun K hK => ?_); go_simp; with_reducible refine hK _ ?_; clear hK K)
    with_reducible refine wpStill_nil ?_
    change wpList _ _ _ _ _ W2.drew
    go_wp2_with fail
    go_ret
    exact ⟨rfl, HW3.out, HK3.out⟩
end Go.Proofs.Ytnccbghpdfcaeaa
