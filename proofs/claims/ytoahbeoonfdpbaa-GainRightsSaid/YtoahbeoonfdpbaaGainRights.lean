/- GainRights: which gains may be, and the gain of any place. -/
import Derived.Test.YtoahbeoonfdpbaaRows
import Derived.Test.YtoahbeoonfdpbaaAwake
import Derived.Deep.RegionHeld
namespace Go.Proofs.Ytoahbeoonfdpbaa.gainRights
open Go.ChangeShapes Go.WideShapes Go.ChangeAt Go.RowKit
set_option linter.unusedVariables false

set_option maxRecDepth 100000 in
set_option maxHeartbeats 4000000 in
theorem walk (g : Nat → Int) (i : Int) (w : World) (h1 : -9223372036854775808 ≤ i) (h2 : i ≤ 9223372036854775807) : Calls Try.prog 4 #[.agg (rowN 4 (blk g)), .int .i64 i] w fun e w' => e = .returned (.bool true) ∧ Old w w' := by
  have HA := Lib.hid (fun w => awake_any w)
  have HRt := Lib.hid (fun w => Right_any g w)
  have Hrt := Lib.hid (fun w => right_any g w)
  have HFl := Lib.hid (fun w => Flat_any g w)
  have hAt := fun w => At_any g i w h1 h2
  have hE : ∀ w, (binOp .eql 26 (.agg (rowN 4 (blk g))) (.agg #[.int .i64 0, .int .i64 0, .int .i64 0, .int .i64 0])).run Try.prog w = .ok (.bool (eqB 4 g fun _ => 0)) w := fun w => by
    rw [← row4_zero]
    exact eql_ints Try.underlying26 Try.underlying3 (by kernel_rfl) (by kernel_rfl) g _ w
  generalize (eqB 4 g fun _ => 0) = q at *
  have Hs : Hid ((Try.prog.info? 26).map (·.size) = some 4) := Lib.hid (by kernel_rfl)
  have hb : Hid ((w.alloc (.cells (rowN 4 (blk g)) 26)).heap[w.heap.size]? = some (.cells (rowN 4 (blk g)) 26 (0, 0))) := Lib.hid (heap_alloc_new _ _)
  by_cases a : i < 0
  · have e : atI g i = 0 := by unfold atI; rw [if_neg (by omega)]
    rw [e] at hAt
    have HAt := Lib.hid hAt
    clear hAt e
    have HO : Hid (Old w (w.alloc (.cells (rowN 4 (blk g)) 26))) := Lib.hid (Old.alloc _ _)
    have hb1 := hb
    generalize decide (rightP g) = d at *
    go_enter Try.func4, Try.ntmps4
    have keep1 : ∀ V : World, Old (w.alloc (.cells (rowN 4 (blk g)) 26)).drew V → V.heap[w.heap.size]? = some (.cells (rowN 4 (blk g)) 26 (0, 0)) := fun V hV => (hV.block _ (lt_of_block hb1.out)).trans hb1.out
    have HK := Lib.hid keep1
    clear keep1
    go_wp2_with fail
    refine wp_region_held_drew (S := (fun w' => w'.heap[w.heap.size]? = some (.cells (rowN 4 (blk g)) 26 (0, 0)))) (by kernel_rfl) ?_ (fun hHeld => ?_)
    · (try dsimp only); first | exact HK.out _ (Old.refl _) | exact HK.out _ hV1 | exact HK.out _ (hV1.trans hV2) | exact HK.out _ ((hV1.trans hV2).trans hV3) | exact HK.out _ (((hV1.trans hV2).trans hV3).trans hV4) | exact HK.out _ ((((hV1.trans hV2).trans hV3).trans hV4).trans hV5)
    refine wpAnyH_take (i := 0) (oi := ⟨some _, _, _, _, _, _⟩) (v := .agg (rowN 4 (blk g))) rfl (by kernel_rfl) (by kernel_rfl) (by kernel_rfl) (fun _ _ _ h => h) (yieldsIf_load_row (by kernel_rfl) 26 (.tmp 2) rfl w.heap.size rfl 26 (rowN 4 (blk g)) (0, 0) _ (fun _ h => h) Try.underlying26 rfl (by rw [rowN_size]; exact Hs.out)) (by assumption) ?_; try simp only [Act.put, List.setIfInBounds_toArray, List.set_cons_zero, List.set_cons_succ]
    refine wpAnyH_take (i := 2) (oi := ⟨some _, _, _, _, _, _⟩) (v := .agg (rowN 4 (blk g))) rfl (by kernel_rfl) (by kernel_rfl) (by kernel_rfl) (fun _ _ _ h => h) (yieldsIf_load_row (by kernel_rfl) 26 (.tmp 2) rfl w.heap.size rfl 26 (rowN 4 (blk g)) (0, 0) _ (fun _ h => h) Try.underlying26 rfl (by rw [rowN_size]; exact Hs.out)) (by assumption) ?_; try simp only [Act.put, List.setIfInBounds_toArray, List.set_cons_zero, List.set_cons_succ]
    refine wpAnyH_ready (rs := [1]) (by kernel_rfl) (by simp) ?_
    refine AllReadyH.cons (o := ⟨some _, _, _, _, _, _⟩) rfl (fun K hK => ?_) AllReadyH.nil
    go_simp
    refine (HRt.out _).mono ?_; rintro e V1 ⟨rfl, hV1⟩
    go_wp2_with fail
    refine hK.out _ _ ?_ (fun hHeld => ?_)
    · (try dsimp only); first | exact HK.out _ (Old.refl _) | exact HK.out _ hV1 | exact HK.out _ (hV1.trans hV2) | exact HK.out _ ((hV1.trans hV2).trans hV3) | exact HK.out _ (((hV1.trans hV2).trans hV3).trans hV4) | exact HK.out _ ((((hV1.trans hV2).trans hV3).trans hV4).trans hV5)
    clear hK K
    try simp only [Act.put, List.setIfInBounds_toArray, List.set_cons_zero, List.set_cons_succ]
    refine wpAnyH_ready (rs := [3]) (by kernel_rfl) (by simp) ?_
    refine AllReadyH.cons (o := ⟨some _, _, _, _, _, _⟩) rfl (fun K hK => ?_) AllReadyH.nil
    go_simp
    refine (Hrt.out _).mono ?_; rintro e V2 ⟨rfl, hV2⟩
    go_wp2_with fail
    refine hK.out _ _ ?_ (fun hHeld => ?_)
    · (try dsimp only); first | exact HK.out _ (Old.refl _) | exact HK.out _ hV1 | exact HK.out _ (hV1.trans hV2) | exact HK.out _ ((hV1.trans hV2).trans hV3) | exact HK.out _ (((hV1.trans hV2).trans hV3).trans hV4) | exact HK.out _ ((((hV1.trans hV2).trans hV3).trans hV4).trans hV5)
    clear hK K
    try simp only [Act.put, List.setIfInBounds_toArray, List.set_cons_zero, List.set_cons_succ]
    refine wpAnyH_take (i := 4) (oi := ⟨some _, _, _, _, _, _⟩) (v := ?_) rfl (by kernel_rfl) (by kernel_rfl) (by kernel_rfl) (fun _ _ _ h => h) (Or.inl ⟨by kernel_rfl, ?_⟩) (by assumption) ?_; rotate_left; (intro w hSw; (try dsimp only at hSw); go_simp; try with_reducible rfl); try simp only [Act.put, List.setIfInBounds_toArray, List.set_cons_zero, List.set_cons_succ]
    refine wpAnyH_take (i := 5) (oi := ⟨some _, _, _, _, _, _⟩) (v := ?_) rfl (by kernel_rfl) (by kernel_rfl) (by kernel_rfl) (fun _ _ _ h => h) (Or.inl ⟨by kernel_rfl, ?_⟩) (by assumption) ?_; rotate_left; (intro w hSw; (try dsimp only at hSw); go_simp; try with_reducible rfl); try simp only [Act.put, List.setIfInBounds_toArray, List.set_cons_zero, List.set_cons_succ]
    refine wpAnyH_take (i := 6) (oi := ⟨some _, _, _, _, _, _⟩) (v := .agg (rowN 4 (blk g))) rfl (by kernel_rfl) (by kernel_rfl) (by kernel_rfl) (fun _ _ _ h => h) (yieldsIf_load_row (by kernel_rfl) 26 (.tmp 2) rfl w.heap.size rfl 26 (rowN 4 (blk g)) (0, 0) _ (fun _ h => h) Try.underlying26 rfl (by rw [rowN_size]; exact Hs.out)) (by assumption) ?_; try simp only [Act.put, List.setIfInBounds_toArray, List.set_cons_zero, List.set_cons_succ]
    refine wpAnyH_take (i := 7) (oi := ⟨some _, _, _, _, _, _⟩) (v := ?_) rfl (by kernel_rfl) (by kernel_rfl) (by kernel_rfl) (fun _ _ _ h => h) (Or.inl ⟨by kernel_rfl, ?_⟩) (by assumption) ?_; rotate_left; (intro w hSw; (try dsimp only at hSw); go_simp; try with_reducible rfl); try simp only [Act.put, List.setIfInBounds_toArray, List.set_cons_zero, List.set_cons_succ]
    refine wpAnyH_take (i := 9) (oi := ⟨some _, _, _, _, _, _⟩) (v := ?_) rfl (by kernel_rfl) (by kernel_rfl) (by kernel_rfl) (fun _ _ _ h => h) (Or.inl ⟨by kernel_rfl, ?_⟩) (by assumption) ?_; rotate_left; (intro w hSw; (try dsimp only at hSw); go_simp; try with_reducible rfl); try simp only [Act.put, List.setIfInBounds_toArray, List.set_cons_zero, List.set_cons_succ]
    refine wpAnyH_ready (rs := [8]) (by kernel_rfl) (by simp) ?_
    refine AllReadyH.cons (o := ⟨some _, _, _, _, _, _⟩) rfl (fun K hK => ?_) AllReadyH.nil
    go_simp
    refine (HAt.out _).mono ?_; rintro e V3 ⟨rfl, hV3⟩
    go_wp2_with fail
    refine hK.out _ _ ?_ (fun hHeld => ?_)
    · (try dsimp only); first | exact HK.out _ (Old.refl _) | exact HK.out _ hV1 | exact HK.out _ (hV1.trans hV2) | exact HK.out _ ((hV1.trans hV2).trans hV3) | exact HK.out _ (((hV1.trans hV2).trans hV3).trans hV4) | exact HK.out _ ((((hV1.trans hV2).trans hV3).trans hV4).trans hV5)
    clear hK K
    try simp only [Act.put, List.setIfInBounds_toArray, List.set_cons_zero, List.set_cons_succ]
    refine wpAnyH_take (i := 10) (oi := ⟨some _, _, _, _, _, _⟩) (v := ?_) rfl (by kernel_rfl) (by kernel_rfl) (by kernel_rfl) (fun _ _ _ h => h) (Or.inl ⟨by kernel_rfl, ?_⟩) (by assumption) ?_; rotate_left; (intro w hSw; (try dsimp only at hSw); go_simp; try with_reducible rfl); try simp only [Act.put, List.setIfInBounds_toArray, List.set_cons_zero, List.set_cons_succ]
    refine wpAnyH_take (i := 11) (oi := ⟨some _, _, _, _, _, _⟩) (v := ?_) rfl (by kernel_rfl) (by kernel_rfl) (by kernel_rfl) (fun _ _ _ h => h) (Or.inl ⟨by kernel_rfl, ?_⟩) (by assumption) ?_; rotate_left; (intro w hSw; (try dsimp only at hSw); go_simp; try with_reducible rfl); try simp only [Act.put, List.setIfInBounds_toArray, List.set_cons_zero, List.set_cons_succ]
    refine wpAnyH_take (i := 12) (oi := ⟨some _, _, _, _, _, _⟩) (v := ?_) rfl (by kernel_rfl) (by kernel_rfl) (by kernel_rfl) (fun _ _ _ h => h) (Or.inl ⟨by kernel_rfl, ?_⟩) (by assumption) ?_; rotate_left; (intro w hSw; (try dsimp only at hSw); go_simp; try with_reducible rfl); try simp only [Act.put, List.setIfInBounds_toArray, List.set_cons_zero, List.set_cons_succ]
    refine wpAnyH_take (i := 13) (oi := ⟨some _, _, _, _, _, _⟩) (v := .agg (rowN 4 (blk g))) rfl (by kernel_rfl) (by kernel_rfl) (by kernel_rfl) (fun _ _ _ h => h) (yieldsIf_load_row (by kernel_rfl) 26 (.tmp 2) rfl w.heap.size rfl 26 (rowN 4 (blk g)) (0, 0) _ (fun _ h => h) Try.underlying26 rfl (by rw [rowN_size]; exact Hs.out)) (by assumption) ?_; try simp only [Act.put, List.setIfInBounds_toArray, List.set_cons_zero, List.set_cons_succ]
    refine wpAnyH_take (i := 15) (oi := ⟨some _, _, _, _, _, _⟩) (v := .agg (rowN 4 (blk g))) rfl (by kernel_rfl) (by kernel_rfl) (by kernel_rfl) (fun _ _ _ h => h) (yieldsIf_load_row (by kernel_rfl) 26 (.tmp 2) rfl w.heap.size rfl 26 (rowN 4 (blk g)) (0, 0) _ (fun _ h => h) Try.underlying26 rfl (by rw [rowN_size]; exact Hs.out)) (by assumption) ?_; try simp only [Act.put, List.setIfInBounds_toArray, List.set_cons_zero, List.set_cons_succ]
    refine wpAnyH_take (i := 16) (oi := ⟨some _, _, _, _, _, _⟩) (v := ?_) rfl (by kernel_rfl) (by kernel_rfl) (by kernel_rfl) (fun _ _ _ h => h) (Or.inl ⟨by kernel_rfl, ?_⟩) (by assumption) ?_; rotate_left; (intro w hSw; (try dsimp only at hSw); go_simp; try with_reducible rfl); try simp only [Act.put, List.setIfInBounds_toArray, List.set_cons_zero, List.set_cons_succ]
    refine wpAnyH_take (i := 17) (oi := ⟨some _, _, _, _, _, _⟩) (v := ?_) rfl (by kernel_rfl) (by kernel_rfl) (by kernel_rfl) (fun _ _ _ h => h) (Or.inl ⟨by kernel_rfl, ?_⟩) (by assumption) ?_; rotate_left; (intro w hSw; (try dsimp only at hSw); go_simp; try with_reducible rfl); try simp only [Act.put, List.setIfInBounds_toArray, List.set_cons_zero, List.set_cons_succ]
    refine wpAnyH_ready (rs := [14]) (by kernel_rfl) (by simp) ?_
    refine AllReadyH.cons (o := ⟨some _, _, _, _, _, _⟩) rfl (fun K hK => ?_) AllReadyH.nil
    go_simp
    refine (HFl.out _).mono ?_; rintro e V4 ⟨rfl, hV4⟩
    go_wp2_with fail
    refine hK.out _ _ ?_ (fun hHeld => ?_)
    · (try dsimp only); first | exact HK.out _ (Old.refl _) | exact HK.out _ hV1 | exact HK.out _ (hV1.trans hV2) | exact HK.out _ ((hV1.trans hV2).trans hV3) | exact HK.out _ (((hV1.trans hV2).trans hV3).trans hV4) | exact HK.out _ ((((hV1.trans hV2).trans hV3).trans hV4).trans hV5)
    clear hK K
    try simp only [Act.put, List.setIfInBounds_toArray, List.set_cons_zero, List.set_cons_succ]
    refine wpAnyH_take (i := 18) (oi := ⟨some _, _, _, _, _, _⟩) (v := ?_) rfl (by kernel_rfl) (by kernel_rfl) (by kernel_rfl) (fun _ _ _ h => h) (Or.inl ⟨by kernel_rfl, ?_⟩) (by assumption) ?_; rotate_left; (intro w hSw; (try dsimp only at hSw); go_simp; try with_reducible rfl); try simp only [Act.put, List.setIfInBounds_toArray, List.set_cons_zero, List.set_cons_succ]
    refine wpAnyH_take (i := 19) (oi := ⟨some _, _, _, _, _, _⟩) (v := ?_) rfl (by kernel_rfl) (by kernel_rfl) (by kernel_rfl) (fun _ _ _ h => h) (Or.inl ⟨by kernel_rfl, ?_⟩) (by assumption) ?_; rotate_left; (intro w hSw; (try dsimp only at hSw); go_simp; try with_reducible rfl); try simp only [Act.put, List.setIfInBounds_toArray, List.set_cons_zero, List.set_cons_succ]
    refine wpAnyH_take (i := 20) (oi := ⟨some _, _, _, _, _, _⟩) (v := ?_) rfl (by kernel_rfl) (by kernel_rfl) (by kernel_rfl) (fun _ _ _ h => h) (Or.inl ⟨by kernel_rfl, ?_⟩) (by assumption) ?_; rotate_left; (intro w hSw; (try dsimp only at hSw); go_simp; try with_reducible rfl); try simp only [Act.put, List.setIfInBounds_toArray, List.set_cons_zero, List.set_cons_succ]
    refine wpAnyH_ready (rs := [21]) (by kernel_rfl) (by simp) ?_
    refine AllReadyH.cons (o := ⟨some _, _, _, _, _, _⟩) rfl (fun K hK => ?_) AllReadyH.nil
    go_simp
    refine (HA.out _).mono ?_; rintro e V5 ⟨rfl, hV5⟩
    go_wp2_with fail
    refine hK.out _ _ ?_ (fun hHeld => ?_)
    · (try dsimp only); first | exact HK.out _ (Old.refl _) | exact HK.out _ hV1 | exact HK.out _ (hV1.trans hV2) | exact HK.out _ ((hV1.trans hV2).trans hV3) | exact HK.out _ (((hV1.trans hV2).trans hV3).trans hV4) | exact HK.out _ ((((hV1.trans hV2).trans hV3).trans hV4).trans hV5)
    clear hK K
    try simp only [Act.put, List.setIfInBounds_toArray, List.set_cons_zero, List.set_cons_succ]
    refine wpAnyH_take (i := 22) (oi := ⟨some _, _, _, _, _, _⟩) (v := ?_) rfl (by kernel_rfl) (by kernel_rfl) (by kernel_rfl) (fun _ _ _ h => h) (Or.inl ⟨by kernel_rfl, ?_⟩) (by assumption) ?_; rotate_left; (intro w hSw; (try dsimp only at hSw); go_simp; try with_reducible rfl); try simp only [Act.put, List.setIfInBounds_toArray, List.set_cons_zero, List.set_cons_succ]
    refine wpAnyH_take (i := 23) (oi := ⟨some _, _, _, _, _, _⟩) (v := ?_) rfl (by kernel_rfl) (by kernel_rfl) (by kernel_rfl) (fun _ _ _ h => h) (Or.inl ⟨by kernel_rfl, ?_⟩) (by assumption) ?_; rotate_left; (intro w hSw; (try dsimp only at hSw); go_simp; try with_reducible rfl); try simp only [Act.put, List.setIfInBounds_toArray, List.set_cons_zero, List.set_cons_succ]
    refine wpAnyH_done (by kernel_rfl) ?_ _
    have hfin : Hid (Old w V5) := (((((HO.out.drew).trans hV1).trans hV2).trans hV3).trans hV4).trans hV5
    clear hV1 hV2 hV3 hV4 hV5
    go_wp2_with fail
    go_ret
    exact ⟨rfl, hfin.out⟩
  · have a' : 0 ≤ i := by omega
    clear a
    by_cases b : 16 ≤ i
    · have e : atI g i = 0 := by unfold atI; rw [if_neg (by omega)]
      rw [e] at hAt
      have HAt := Lib.hid hAt
      clear hAt e
      have HO : Hid (Old w (w.alloc (.cells (rowN 4 (blk g)) 26))) := Lib.hid (Old.alloc _ _)
      have hb1 := hb
      generalize decide (rightP g) = d at *
      go_enter Try.func4, Try.ntmps4
      have keep1 : ∀ V : World, Old (w.alloc (.cells (rowN 4 (blk g)) 26)).drew V → V.heap[w.heap.size]? = some (.cells (rowN 4 (blk g)) 26 (0, 0)) := fun V hV => (hV.block _ (lt_of_block hb1.out)).trans hb1.out
      have HK := Lib.hid keep1
      clear keep1
      go_wp2_with fail
      refine wp_region_held_drew (S := (fun w' => w'.heap[w.heap.size]? = some (.cells (rowN 4 (blk g)) 26 (0, 0)))) (by kernel_rfl) ?_ (fun hHeld => ?_)
      · (try dsimp only); first | exact HK.out _ (Old.refl _) | exact HK.out _ hV1 | exact HK.out _ (hV1.trans hV2) | exact HK.out _ ((hV1.trans hV2).trans hV3) | exact HK.out _ (((hV1.trans hV2).trans hV3).trans hV4) | exact HK.out _ ((((hV1.trans hV2).trans hV3).trans hV4).trans hV5)
      refine wpAnyH_take (i := 0) (oi := ⟨some _, _, _, _, _, _⟩) (v := .agg (rowN 4 (blk g))) rfl (by kernel_rfl) (by kernel_rfl) (by kernel_rfl) (fun _ _ _ h => h) (yieldsIf_load_row (by kernel_rfl) 26 (.tmp 2) rfl w.heap.size rfl 26 (rowN 4 (blk g)) (0, 0) _ (fun _ h => h) Try.underlying26 rfl (by rw [rowN_size]; exact Hs.out)) (by assumption) ?_; try simp only [Act.put, List.setIfInBounds_toArray, List.set_cons_zero, List.set_cons_succ]
      refine wpAnyH_take (i := 2) (oi := ⟨some _, _, _, _, _, _⟩) (v := .agg (rowN 4 (blk g))) rfl (by kernel_rfl) (by kernel_rfl) (by kernel_rfl) (fun _ _ _ h => h) (yieldsIf_load_row (by kernel_rfl) 26 (.tmp 2) rfl w.heap.size rfl 26 (rowN 4 (blk g)) (0, 0) _ (fun _ h => h) Try.underlying26 rfl (by rw [rowN_size]; exact Hs.out)) (by assumption) ?_; try simp only [Act.put, List.setIfInBounds_toArray, List.set_cons_zero, List.set_cons_succ]
      refine wpAnyH_ready (rs := [1]) (by kernel_rfl) (by simp) ?_
      refine AllReadyH.cons (o := ⟨some _, _, _, _, _, _⟩) rfl (fun K hK => ?_) AllReadyH.nil
      go_simp
      refine (HRt.out _).mono ?_; rintro e V1 ⟨rfl, hV1⟩
      go_wp2_with fail
      refine hK.out _ _ ?_ (fun hHeld => ?_)
      · (try dsimp only); first | exact HK.out _ (Old.refl _) | exact HK.out _ hV1 | exact HK.out _ (hV1.trans hV2) | exact HK.out _ ((hV1.trans hV2).trans hV3) | exact HK.out _ (((hV1.trans hV2).trans hV3).trans hV4) | exact HK.out _ ((((hV1.trans hV2).trans hV3).trans hV4).trans hV5)
      clear hK K
      try simp only [Act.put, List.setIfInBounds_toArray, List.set_cons_zero, List.set_cons_succ]
      refine wpAnyH_ready (rs := [3]) (by kernel_rfl) (by simp) ?_
      refine AllReadyH.cons (o := ⟨some _, _, _, _, _, _⟩) rfl (fun K hK => ?_) AllReadyH.nil
      go_simp
      refine (Hrt.out _).mono ?_; rintro e V2 ⟨rfl, hV2⟩
      go_wp2_with fail
      refine hK.out _ _ ?_ (fun hHeld => ?_)
      · (try dsimp only); first | exact HK.out _ (Old.refl _) | exact HK.out _ hV1 | exact HK.out _ (hV1.trans hV2) | exact HK.out _ ((hV1.trans hV2).trans hV3) | exact HK.out _ (((hV1.trans hV2).trans hV3).trans hV4) | exact HK.out _ ((((hV1.trans hV2).trans hV3).trans hV4).trans hV5)
      clear hK K
      try simp only [Act.put, List.setIfInBounds_toArray, List.set_cons_zero, List.set_cons_succ]
      refine wpAnyH_take (i := 4) (oi := ⟨some _, _, _, _, _, _⟩) (v := ?_) rfl (by kernel_rfl) (by kernel_rfl) (by kernel_rfl) (fun _ _ _ h => h) (Or.inl ⟨by kernel_rfl, ?_⟩) (by assumption) ?_; rotate_left; (intro w hSw; (try dsimp only at hSw); go_simp; try with_reducible rfl); try simp only [Act.put, List.setIfInBounds_toArray, List.set_cons_zero, List.set_cons_succ]
      refine wpAnyH_take (i := 5) (oi := ⟨some _, _, _, _, _, _⟩) (v := ?_) rfl (by kernel_rfl) (by kernel_rfl) (by kernel_rfl) (fun _ _ _ h => h) (Or.inl ⟨by kernel_rfl, ?_⟩) (by assumption) ?_; rotate_left; (intro w hSw; (try dsimp only at hSw); go_simp; try with_reducible rfl); try simp only [Act.put, List.setIfInBounds_toArray, List.set_cons_zero, List.set_cons_succ]
      refine wpAnyH_take (i := 6) (oi := ⟨some _, _, _, _, _, _⟩) (v := .agg (rowN 4 (blk g))) rfl (by kernel_rfl) (by kernel_rfl) (by kernel_rfl) (fun _ _ _ h => h) (yieldsIf_load_row (by kernel_rfl) 26 (.tmp 2) rfl w.heap.size rfl 26 (rowN 4 (blk g)) (0, 0) _ (fun _ h => h) Try.underlying26 rfl (by rw [rowN_size]; exact Hs.out)) (by assumption) ?_; try simp only [Act.put, List.setIfInBounds_toArray, List.set_cons_zero, List.set_cons_succ]
      refine wpAnyH_take (i := 7) (oi := ⟨some _, _, _, _, _, _⟩) (v := ?_) rfl (by kernel_rfl) (by kernel_rfl) (by kernel_rfl) (fun _ _ _ h => h) (Or.inl ⟨by kernel_rfl, ?_⟩) (by assumption) ?_; rotate_left; (intro w hSw; (try dsimp only at hSw); go_simp; try with_reducible rfl); try simp only [Act.put, List.setIfInBounds_toArray, List.set_cons_zero, List.set_cons_succ]
      refine wpAnyH_take (i := 9) (oi := ⟨some _, _, _, _, _, _⟩) (v := ?_) rfl (by kernel_rfl) (by kernel_rfl) (by kernel_rfl) (fun _ _ _ h => h) (Or.inl ⟨by kernel_rfl, ?_⟩) (by assumption) ?_; rotate_left; (intro w hSw; (try dsimp only at hSw); go_simp; try with_reducible rfl); try simp only [Act.put, List.setIfInBounds_toArray, List.set_cons_zero, List.set_cons_succ]
      refine wpAnyH_ready (rs := [8]) (by kernel_rfl) (by simp) ?_
      refine AllReadyH.cons (o := ⟨some _, _, _, _, _, _⟩) rfl (fun K hK => ?_) AllReadyH.nil
      go_simp
      refine (HAt.out _).mono ?_; rintro e V3 ⟨rfl, hV3⟩
      go_wp2_with fail
      refine hK.out _ _ ?_ (fun hHeld => ?_)
      · (try dsimp only); first | exact HK.out _ (Old.refl _) | exact HK.out _ hV1 | exact HK.out _ (hV1.trans hV2) | exact HK.out _ ((hV1.trans hV2).trans hV3) | exact HK.out _ (((hV1.trans hV2).trans hV3).trans hV4) | exact HK.out _ ((((hV1.trans hV2).trans hV3).trans hV4).trans hV5)
      clear hK K
      try simp only [Act.put, List.setIfInBounds_toArray, List.set_cons_zero, List.set_cons_succ]
      refine wpAnyH_take (i := 10) (oi := ⟨some _, _, _, _, _, _⟩) (v := ?_) rfl (by kernel_rfl) (by kernel_rfl) (by kernel_rfl) (fun _ _ _ h => h) (Or.inl ⟨by kernel_rfl, ?_⟩) (by assumption) ?_; rotate_left; (intro w hSw; (try dsimp only at hSw); go_simp; try with_reducible rfl); try simp only [Act.put, List.setIfInBounds_toArray, List.set_cons_zero, List.set_cons_succ]
      refine wpAnyH_take (i := 11) (oi := ⟨some _, _, _, _, _, _⟩) (v := ?_) rfl (by kernel_rfl) (by kernel_rfl) (by kernel_rfl) (fun _ _ _ h => h) (Or.inl ⟨by kernel_rfl, ?_⟩) (by assumption) ?_; rotate_left; (intro w hSw; (try dsimp only at hSw); go_simp; try with_reducible rfl); try simp only [Act.put, List.setIfInBounds_toArray, List.set_cons_zero, List.set_cons_succ]
      refine wpAnyH_take (i := 12) (oi := ⟨some _, _, _, _, _, _⟩) (v := ?_) rfl (by kernel_rfl) (by kernel_rfl) (by kernel_rfl) (fun _ _ _ h => h) (Or.inl ⟨by kernel_rfl, ?_⟩) (by assumption) ?_; rotate_left; (intro w hSw; (try dsimp only at hSw); go_simp; try with_reducible rfl); try simp only [Act.put, List.setIfInBounds_toArray, List.set_cons_zero, List.set_cons_succ]
      refine wpAnyH_take (i := 13) (oi := ⟨some _, _, _, _, _, _⟩) (v := .agg (rowN 4 (blk g))) rfl (by kernel_rfl) (by kernel_rfl) (by kernel_rfl) (fun _ _ _ h => h) (yieldsIf_load_row (by kernel_rfl) 26 (.tmp 2) rfl w.heap.size rfl 26 (rowN 4 (blk g)) (0, 0) _ (fun _ h => h) Try.underlying26 rfl (by rw [rowN_size]; exact Hs.out)) (by assumption) ?_; try simp only [Act.put, List.setIfInBounds_toArray, List.set_cons_zero, List.set_cons_succ]
      refine wpAnyH_take (i := 15) (oi := ⟨some _, _, _, _, _, _⟩) (v := .agg (rowN 4 (blk g))) rfl (by kernel_rfl) (by kernel_rfl) (by kernel_rfl) (fun _ _ _ h => h) (yieldsIf_load_row (by kernel_rfl) 26 (.tmp 2) rfl w.heap.size rfl 26 (rowN 4 (blk g)) (0, 0) _ (fun _ h => h) Try.underlying26 rfl (by rw [rowN_size]; exact Hs.out)) (by assumption) ?_; try simp only [Act.put, List.setIfInBounds_toArray, List.set_cons_zero, List.set_cons_succ]
      refine wpAnyH_take (i := 16) (oi := ⟨some _, _, _, _, _, _⟩) (v := ?_) rfl (by kernel_rfl) (by kernel_rfl) (by kernel_rfl) (fun _ _ _ h => h) (Or.inl ⟨by kernel_rfl, ?_⟩) (by assumption) ?_; rotate_left; (intro w hSw; (try dsimp only at hSw); go_simp; try with_reducible rfl); try simp only [Act.put, List.setIfInBounds_toArray, List.set_cons_zero, List.set_cons_succ]
      refine wpAnyH_take (i := 17) (oi := ⟨some _, _, _, _, _, _⟩) (v := ?_) rfl (by kernel_rfl) (by kernel_rfl) (by kernel_rfl) (fun _ _ _ h => h) (Or.inl ⟨by kernel_rfl, ?_⟩) (by assumption) ?_; rotate_left; (intro w hSw; (try dsimp only at hSw); go_simp; try with_reducible rfl); try simp only [Act.put, List.setIfInBounds_toArray, List.set_cons_zero, List.set_cons_succ]
      refine wpAnyH_ready (rs := [14]) (by kernel_rfl) (by simp) ?_
      refine AllReadyH.cons (o := ⟨some _, _, _, _, _, _⟩) rfl (fun K hK => ?_) AllReadyH.nil
      go_simp
      refine (HFl.out _).mono ?_; rintro e V4 ⟨rfl, hV4⟩
      go_wp2_with fail
      refine hK.out _ _ ?_ (fun hHeld => ?_)
      · (try dsimp only); first | exact HK.out _ (Old.refl _) | exact HK.out _ hV1 | exact HK.out _ (hV1.trans hV2) | exact HK.out _ ((hV1.trans hV2).trans hV3) | exact HK.out _ (((hV1.trans hV2).trans hV3).trans hV4) | exact HK.out _ ((((hV1.trans hV2).trans hV3).trans hV4).trans hV5)
      clear hK K
      try simp only [Act.put, List.setIfInBounds_toArray, List.set_cons_zero, List.set_cons_succ]
      refine wpAnyH_take (i := 18) (oi := ⟨some _, _, _, _, _, _⟩) (v := ?_) rfl (by kernel_rfl) (by kernel_rfl) (by kernel_rfl) (fun _ _ _ h => h) (Or.inl ⟨by kernel_rfl, ?_⟩) (by assumption) ?_; rotate_left; (intro w hSw; (try dsimp only at hSw); go_simp; try with_reducible rfl); try simp only [Act.put, List.setIfInBounds_toArray, List.set_cons_zero, List.set_cons_succ]
      refine wpAnyH_take (i := 19) (oi := ⟨some _, _, _, _, _, _⟩) (v := ?_) rfl (by kernel_rfl) (by kernel_rfl) (by kernel_rfl) (fun _ _ _ h => h) (Or.inl ⟨by kernel_rfl, ?_⟩) (by assumption) ?_; rotate_left; (intro w hSw; (try dsimp only at hSw); go_simp; try with_reducible rfl); try simp only [Act.put, List.setIfInBounds_toArray, List.set_cons_zero, List.set_cons_succ]
      refine wpAnyH_take (i := 20) (oi := ⟨some _, _, _, _, _, _⟩) (v := ?_) rfl (by kernel_rfl) (by kernel_rfl) (by kernel_rfl) (fun _ _ _ h => h) (Or.inl ⟨by kernel_rfl, ?_⟩) (by assumption) ?_; rotate_left; (intro w hSw; (try dsimp only at hSw); go_simp; try with_reducible rfl); try simp only [Act.put, List.setIfInBounds_toArray, List.set_cons_zero, List.set_cons_succ]
      refine wpAnyH_ready (rs := [21]) (by kernel_rfl) (by simp) ?_
      refine AllReadyH.cons (o := ⟨some _, _, _, _, _, _⟩) rfl (fun K hK => ?_) AllReadyH.nil
      go_simp
      refine (HA.out _).mono ?_; rintro e V5 ⟨rfl, hV5⟩
      go_wp2_with fail
      refine hK.out _ _ ?_ (fun hHeld => ?_)
      · (try dsimp only); first | exact HK.out _ (Old.refl _) | exact HK.out _ hV1 | exact HK.out _ (hV1.trans hV2) | exact HK.out _ ((hV1.trans hV2).trans hV3) | exact HK.out _ (((hV1.trans hV2).trans hV3).trans hV4) | exact HK.out _ ((((hV1.trans hV2).trans hV3).trans hV4).trans hV5)
      clear hK K
      try simp only [Act.put, List.setIfInBounds_toArray, List.set_cons_zero, List.set_cons_succ]
      refine wpAnyH_take (i := 22) (oi := ⟨some _, _, _, _, _, _⟩) (v := ?_) rfl (by kernel_rfl) (by kernel_rfl) (by kernel_rfl) (fun _ _ _ h => h) (Or.inl ⟨by kernel_rfl, ?_⟩) (by assumption) ?_; rotate_left; (intro w hSw; (try dsimp only at hSw); go_simp; try with_reducible rfl); try simp only [Act.put, List.setIfInBounds_toArray, List.set_cons_zero, List.set_cons_succ]
      refine wpAnyH_take (i := 23) (oi := ⟨some _, _, _, _, _, _⟩) (v := ?_) rfl (by kernel_rfl) (by kernel_rfl) (by kernel_rfl) (fun _ _ _ h => h) (Or.inl ⟨by kernel_rfl, ?_⟩) (by assumption) ?_; rotate_left; (intro w hSw; (try dsimp only at hSw); go_simp; try with_reducible rfl); try simp only [Act.put, List.setIfInBounds_toArray, List.set_cons_zero, List.set_cons_succ]
      refine wpAnyH_done (by kernel_rfl) ?_ _
      have hfin : Hid (Old w V5) := (((((HO.out.drew).trans hV1).trans hV2).trans hV3).trans hV4).trans hV5
      clear hV1 hV2 hV3 hV4 hV5
      go_wp2_with fail
      go_ret
      exact ⟨rfl, hfin.out⟩
    · have b' : i < 16 := by omega
      clear b
      have hm : (i / 4).toNat < 4 := by omega
      have q2 : 0 ≤ i / 4 := by omega
      have q3 : i / 4 < 4 := by omega
      have HD : Hid (decide (0 ≤ i) = true ∧ decide (i < 16) = true) := ⟨by simp; omega, by simp; omega⟩
      have hr := Hrt.out
      by_cases r : rightP g
      · have e : atI g i = g (i / 4).toNat := by unfold atI; rw [if_pos ⟨a', b', r⟩]
        rw [e] at hAt
        rw [decide_eq_true r] at hr
        have HAt := Lib.hid hAt
        have HR := Lib.hid hr
        clear hAt e hr r
        generalize decide (rightP g) = d at *
        go_enter Try.func4, Try.ntmps4
        go_wp2_with (with_reducible refine wpList_load_row_w (by first | kernel_rfl | (rw [HD.out.1, HD.out.2]; kernel_rfl)) 26 _ rfl w.heap.size rfl 26 (rowN 4 (blk g)) (0, 0) _ hb.out Try.underlying26 rfl (by rw [rowN_size]; exact Hs.out) ?_)
        refine (HR.out _).mono ?_
        rintro e w1 ⟨rfl, ho⟩
        have hb1 : Hid (w1.heap[w.heap.size]? = some (.cells (rowN 4 (blk g)) 26 (0, 0))) := Lib.hid ((ho.block _ (lt_of_block hb.out)).trans hb.out)
        have hc : w1.cell? ⟨w.heap.size, (i / 4).toNat, none⟩ = some (.int .i64 (g (i / 4).toNat)) := (cell_of_row _ _ _ _ _ _ hb1.out).trans (blk_at 4 g _ hm)
        have HO := Lib.hid ((Old.alloc w _).trans ho)
        clear ho
        have keep1 : ∀ V : World, Old (w1).drew V → V.heap[w.heap.size]? = some (.cells (rowN 4 (blk g)) 26 (0, 0)) := fun V hV => (hV.block _ (lt_of_block hb1.out)).trans hb1.out
        have HK := Lib.hid keep1
        clear keep1
        go_wp2_with fail
        refine wp_region_held_drew (S := (fun w' => w'.heap[w.heap.size]? = some (.cells (rowN 4 (blk g)) 26 (0, 0)))) (by kernel_rfl) ?_ (fun hHeld => ?_)
        · (try dsimp only); first | exact HK.out _ (Old.refl _) | exact HK.out _ hV1 | exact HK.out _ (hV1.trans hV2) | exact HK.out _ ((hV1.trans hV2).trans hV3) | exact HK.out _ (((hV1.trans hV2).trans hV3).trans hV4) | exact HK.out _ ((((hV1.trans hV2).trans hV3).trans hV4).trans hV5)
        refine wpAnyH_take (i := 0) (oi := ⟨some _, _, _, _, _, _⟩) (v := .agg (rowN 4 (blk g))) rfl (by kernel_rfl) (by kernel_rfl) (by kernel_rfl) (fun _ _ _ h => h) (yieldsIf_load_row (by kernel_rfl) 26 (.tmp 2) rfl w.heap.size rfl 26 (rowN 4 (blk g)) (0, 0) _ (fun _ h => h) Try.underlying26 rfl (by rw [rowN_size]; exact Hs.out)) (by assumption) ?_; try simp only [Act.put, List.setIfInBounds_toArray, List.set_cons_zero, List.set_cons_succ]
        refine wpAnyH_take (i := 2) (oi := ⟨some _, _, _, _, _, _⟩) (v := .agg (rowN 4 (blk g))) rfl (by kernel_rfl) (by kernel_rfl) (by kernel_rfl) (fun _ _ _ h => h) (yieldsIf_load_row (by kernel_rfl) 26 (.tmp 2) rfl w.heap.size rfl 26 (rowN 4 (blk g)) (0, 0) _ (fun _ h => h) Try.underlying26 rfl (by rw [rowN_size]; exact Hs.out)) (by assumption) ?_; try simp only [Act.put, List.setIfInBounds_toArray, List.set_cons_zero, List.set_cons_succ]
        refine wpAnyH_ready (rs := [1]) (by kernel_rfl) (by simp) ?_
        refine AllReadyH.cons (o := ⟨some _, _, _, _, _, _⟩) rfl (fun K hK => ?_) AllReadyH.nil
        go_simp
        refine (HRt.out _).mono ?_; rintro e V1 ⟨rfl, hV1⟩
        go_wp2_with fail
        refine hK.out _ _ ?_ (fun hHeld => ?_)
        · (try dsimp only); first | exact HK.out _ (Old.refl _) | exact HK.out _ hV1 | exact HK.out _ (hV1.trans hV2) | exact HK.out _ ((hV1.trans hV2).trans hV3) | exact HK.out _ (((hV1.trans hV2).trans hV3).trans hV4) | exact HK.out _ ((((hV1.trans hV2).trans hV3).trans hV4).trans hV5)
        clear hK K
        try simp only [Act.put, List.setIfInBounds_toArray, List.set_cons_zero, List.set_cons_succ]
        refine wpAnyH_ready (rs := [3]) (by kernel_rfl) (by simp) ?_
        refine AllReadyH.cons (o := ⟨some _, _, _, _, _, _⟩) rfl (fun K hK => ?_) AllReadyH.nil
        go_simp
        refine (Hrt.out _).mono ?_; rintro e V2 ⟨rfl, hV2⟩
        go_wp2_with fail
        refine hK.out _ _ ?_ (fun hHeld => ?_)
        · (try dsimp only); first | exact HK.out _ (Old.refl _) | exact HK.out _ hV1 | exact HK.out _ (hV1.trans hV2) | exact HK.out _ ((hV1.trans hV2).trans hV3) | exact HK.out _ (((hV1.trans hV2).trans hV3).trans hV4) | exact HK.out _ ((((hV1.trans hV2).trans hV3).trans hV4).trans hV5)
        clear hK K
        try simp only [Act.put, List.setIfInBounds_toArray, List.set_cons_zero, List.set_cons_succ]
        refine wpAnyH_take (i := 4) (oi := ⟨some _, _, _, _, _, _⟩) (v := ?_) rfl (by kernel_rfl) (by kernel_rfl) (by kernel_rfl) (fun _ _ _ h => h) (Or.inl ⟨by kernel_rfl, ?_⟩) (by assumption) ?_; rotate_left; (intro w hSw; (try dsimp only at hSw); go_simp; try with_reducible rfl); try simp only [Act.put, List.setIfInBounds_toArray, List.set_cons_zero, List.set_cons_succ]
        refine wpAnyH_take (i := 5) (oi := ⟨some _, _, _, _, _, _⟩) (v := ?_) rfl (by kernel_rfl) (by kernel_rfl) (by kernel_rfl) (fun _ _ _ h => h) (Or.inl ⟨by kernel_rfl, ?_⟩) (by assumption) ?_; rotate_left; (intro w hSw; (try dsimp only at hSw); go_simp; try with_reducible rfl); try simp only [Act.put, List.setIfInBounds_toArray, List.set_cons_zero, List.set_cons_succ]
        refine wpAnyH_take (i := 6) (oi := ⟨some _, _, _, _, _, _⟩) (v := .agg (rowN 4 (blk g))) rfl (by kernel_rfl) (by kernel_rfl) (by kernel_rfl) (fun _ _ _ h => h) (yieldsIf_load_row (by kernel_rfl) 26 (.tmp 2) rfl w.heap.size rfl 26 (rowN 4 (blk g)) (0, 0) _ (fun _ h => h) Try.underlying26 rfl (by rw [rowN_size]; exact Hs.out)) (by assumption) ?_; try simp only [Act.put, List.setIfInBounds_toArray, List.set_cons_zero, List.set_cons_succ]
        refine wpAnyH_take (i := 7) (oi := ⟨some _, _, _, _, _, _⟩) (v := ?_) rfl (by kernel_rfl) (by kernel_rfl) (by kernel_rfl) (fun _ _ _ h => h) (Or.inl ⟨by kernel_rfl, ?_⟩) (by assumption) ?_; rotate_left; (intro w hSw; (try dsimp only at hSw); go_simp; try with_reducible rfl); try simp only [Act.put, List.setIfInBounds_toArray, List.set_cons_zero, List.set_cons_succ]
        refine wpAnyH_take (i := 9) (oi := ⟨some _, _, _, _, _, _⟩) (v := ?_) rfl (by kernel_rfl) (by kernel_rfl) (by kernel_rfl) (fun _ _ _ h => h) (Or.inl ⟨by kernel_rfl, ?_⟩) (by assumption) ?_; rotate_left; (intro w hSw; (try dsimp only at hSw); go_simp; try with_reducible rfl); try simp only [Act.put, List.setIfInBounds_toArray, List.set_cons_zero, List.set_cons_succ]
        refine wpAnyH_ready (rs := [8]) (by kernel_rfl) (by simp) ?_
        refine AllReadyH.cons (o := ⟨some _, _, _, _, _, _⟩) rfl (fun K hK => ?_) AllReadyH.nil
        go_simp
        refine (HAt.out _).mono ?_; rintro e V3 ⟨rfl, hV3⟩
        go_wp2_with fail
        refine hK.out _ _ ?_ (fun hHeld => ?_)
        · (try dsimp only); first | exact HK.out _ (Old.refl _) | exact HK.out _ hV1 | exact HK.out _ (hV1.trans hV2) | exact HK.out _ ((hV1.trans hV2).trans hV3) | exact HK.out _ (((hV1.trans hV2).trans hV3).trans hV4) | exact HK.out _ ((((hV1.trans hV2).trans hV3).trans hV4).trans hV5)
        clear hK K
        try simp only [Act.put, List.setIfInBounds_toArray, List.set_cons_zero, List.set_cons_succ]
        refine wpAnyH_take (i := 10) (oi := ⟨some _, _, _, _, _, _⟩) (v := ?_) rfl (by kernel_rfl) (by kernel_rfl) (by kernel_rfl) (fun _ _ _ h => h) (Or.inl ⟨by kernel_rfl, ?_⟩) (by assumption) ?_; rotate_left; (intro w hSw; (try dsimp only at hSw); go_simp; try with_reducible rfl); try simp only [Act.put, List.setIfInBounds_toArray, List.set_cons_zero, List.set_cons_succ]
        refine wpAnyH_take (i := 11) (oi := ⟨some _, _, _, _, _, _⟩) (v := ?_) rfl (by kernel_rfl) (by kernel_rfl) (by kernel_rfl) (fun _ _ _ h => h) (Or.inl ⟨by kernel_rfl, ?_⟩) (by assumption) ?_; rotate_left; (intro w hSw; (try dsimp only at hSw); go_simp; try with_reducible rfl); try simp only [Act.put, List.setIfInBounds_toArray, List.set_cons_zero, List.set_cons_succ]
        refine wpAnyH_take (i := 12) (oi := ⟨some _, _, _, _, _, _⟩) (v := ?_) rfl (by kernel_rfl) (by kernel_rfl) (by kernel_rfl) (fun _ _ _ h => h) (Or.inl ⟨by kernel_rfl, ?_⟩) (by assumption) ?_; rotate_left; (intro w hSw; (try dsimp only at hSw); go_simp; try with_reducible rfl); try simp only [Act.put, List.setIfInBounds_toArray, List.set_cons_zero, List.set_cons_succ]
        refine wpAnyH_take (i := 13) (oi := ⟨some _, _, _, _, _, _⟩) (v := .agg (rowN 4 (blk g))) rfl (by kernel_rfl) (by kernel_rfl) (by kernel_rfl) (fun _ _ _ h => h) (yieldsIf_load_row (by kernel_rfl) 26 (.tmp 2) rfl w.heap.size rfl 26 (rowN 4 (blk g)) (0, 0) _ (fun _ h => h) Try.underlying26 rfl (by rw [rowN_size]; exact Hs.out)) (by assumption) ?_; try simp only [Act.put, List.setIfInBounds_toArray, List.set_cons_zero, List.set_cons_succ]
        refine wpAnyH_take (i := 15) (oi := ⟨some _, _, _, _, _, _⟩) (v := .agg (rowN 4 (blk g))) rfl (by kernel_rfl) (by kernel_rfl) (by kernel_rfl) (fun _ _ _ h => h) (yieldsIf_load_row (by kernel_rfl) 26 (.tmp 2) rfl w.heap.size rfl 26 (rowN 4 (blk g)) (0, 0) _ (fun _ h => h) Try.underlying26 rfl (by rw [rowN_size]; exact Hs.out)) (by assumption) ?_; try simp only [Act.put, List.setIfInBounds_toArray, List.set_cons_zero, List.set_cons_succ]
        refine wpAnyH_take (i := 16) (oi := ⟨some _, _, _, _, _, _⟩) (v := ?_) rfl (by kernel_rfl) (by kernel_rfl) (by kernel_rfl) (fun _ _ _ h => h) (Or.inl ⟨by kernel_rfl, ?_⟩) (by assumption) ?_; rotate_left; (intro w hSw; (try dsimp only at hSw); go_simp; try with_reducible rfl); try simp only [Act.put, List.setIfInBounds_toArray, List.set_cons_zero, List.set_cons_succ]
        refine wpAnyH_take (i := 17) (oi := ⟨some _, _, _, _, _, _⟩) (v := ?_) rfl (by kernel_rfl) (by kernel_rfl) (by kernel_rfl) (fun _ _ _ h => h) (Or.inl ⟨by kernel_rfl, ?_⟩) (by assumption) ?_; rotate_left; (intro w hSw; (try dsimp only at hSw); go_simp; try with_reducible rfl); try simp only [Act.put, List.setIfInBounds_toArray, List.set_cons_zero, List.set_cons_succ]
        refine wpAnyH_ready (rs := [14]) (by kernel_rfl) (by simp) ?_
        refine AllReadyH.cons (o := ⟨some _, _, _, _, _, _⟩) rfl (fun K hK => ?_) AllReadyH.nil
        go_simp
        refine (HFl.out _).mono ?_; rintro e V4 ⟨rfl, hV4⟩
        go_wp2_with fail
        refine hK.out _ _ ?_ (fun hHeld => ?_)
        · (try dsimp only); first | exact HK.out _ (Old.refl _) | exact HK.out _ hV1 | exact HK.out _ (hV1.trans hV2) | exact HK.out _ ((hV1.trans hV2).trans hV3) | exact HK.out _ (((hV1.trans hV2).trans hV3).trans hV4) | exact HK.out _ ((((hV1.trans hV2).trans hV3).trans hV4).trans hV5)
        clear hK K
        try simp only [Act.put, List.setIfInBounds_toArray, List.set_cons_zero, List.set_cons_succ]
        refine wpAnyH_take (i := 18) (oi := ⟨some _, _, _, _, _, _⟩) (v := ?_) rfl (by kernel_rfl) (by kernel_rfl) (by kernel_rfl) (fun _ _ _ h => h) (Or.inl ⟨by kernel_rfl, ?_⟩) (by assumption) ?_; rotate_left; (intro w hSw; (try dsimp only at hSw); go_simp; try with_reducible rfl); try simp only [Act.put, List.setIfInBounds_toArray, List.set_cons_zero, List.set_cons_succ]
        refine wpAnyH_take (i := 19) (oi := ⟨some _, _, _, _, _, _⟩) (v := ?_) rfl (by kernel_rfl) (by kernel_rfl) (by kernel_rfl) (fun _ _ _ h => h) (Or.inl ⟨by kernel_rfl, ?_⟩) (by assumption) ?_; rotate_left; (intro w hSw; (try dsimp only at hSw); go_simp; try with_reducible rfl); try simp only [Act.put, List.setIfInBounds_toArray, List.set_cons_zero, List.set_cons_succ]
        refine wpAnyH_take (i := 20) (oi := ⟨some _, _, _, _, _, _⟩) (v := ?_) rfl (by kernel_rfl) (by kernel_rfl) (by kernel_rfl) (fun _ _ _ h => h) (Or.inl ⟨by kernel_rfl, ?_⟩) (by assumption) ?_; rotate_left; (intro w hSw; (try dsimp only at hSw); go_simp; try with_reducible rfl); try simp only [Act.put, List.setIfInBounds_toArray, List.set_cons_zero, List.set_cons_succ]
        refine wpAnyH_ready (rs := [21]) (by kernel_rfl) (by simp) ?_
        refine AllReadyH.cons (o := ⟨some _, _, _, _, _, _⟩) rfl (fun K hK => ?_) AllReadyH.nil
        go_simp
        refine (HA.out _).mono ?_; rintro e V5 ⟨rfl, hV5⟩
        go_wp2_with fail
        refine hK.out _ _ ?_ (fun hHeld => ?_)
        · (try dsimp only); first | exact HK.out _ (Old.refl _) | exact HK.out _ hV1 | exact HK.out _ (hV1.trans hV2) | exact HK.out _ ((hV1.trans hV2).trans hV3) | exact HK.out _ (((hV1.trans hV2).trans hV3).trans hV4) | exact HK.out _ ((((hV1.trans hV2).trans hV3).trans hV4).trans hV5)
        clear hK K
        try simp only [Act.put, List.setIfInBounds_toArray, List.set_cons_zero, List.set_cons_succ]
        refine wpAnyH_take (i := 22) (oi := ⟨some _, _, _, _, _, _⟩) (v := ?_) rfl (by kernel_rfl) (by kernel_rfl) (by kernel_rfl) (fun _ _ _ h => h) (Or.inl ⟨by kernel_rfl, ?_⟩) (by assumption) ?_; rotate_left; (intro w hSw; (try dsimp only at hSw); go_simp; try with_reducible rfl); try simp only [Act.put, List.setIfInBounds_toArray, List.set_cons_zero, List.set_cons_succ]
        refine wpAnyH_take (i := 23) (oi := ⟨some _, _, _, _, _, _⟩) (v := ?_) rfl (by kernel_rfl) (by kernel_rfl) (by kernel_rfl) (fun _ _ _ h => h) (Or.inl ⟨by kernel_rfl, ?_⟩) (by assumption) ?_; rotate_left; (intro w hSw; (try dsimp only at hSw); go_simp; try with_reducible rfl); try simp only [Act.put, List.setIfInBounds_toArray, List.set_cons_zero, List.set_cons_succ]
        refine wpAnyH_done (by kernel_rfl) ?_ _
        have hfin : Hid (Old w V5) := (((((HO.out.drew).trans hV1).trans hV2).trans hV3).trans hV4).trans hV5
        clear hV1 hV2 hV3 hV4 hV5
        go_wp2_with fail
        go_ret
        exact ⟨rfl, hfin.out⟩
      · have e : atI g i = 0 := by unfold atI; rw [if_neg (fun h => r h.2.2)]
        rw [e] at hAt
        rw [decide_eq_false r] at hr
        have HAt := Lib.hid hAt
        have HR := Lib.hid hr
        clear hAt e hr r
        generalize decide (rightP g) = d at *
        go_enter Try.func4, Try.ntmps4
        go_wp2_with (with_reducible refine wpList_load_row_w (by first | kernel_rfl | (rw [HD.out.1, HD.out.2]; kernel_rfl)) 26 _ rfl w.heap.size rfl 26 (rowN 4 (blk g)) (0, 0) _ hb.out Try.underlying26 rfl (by rw [rowN_size]; exact Hs.out) ?_)
        refine (HR.out _).mono ?_
        rintro e w1 ⟨rfl, ho⟩
        have hb1 : Hid (w1.heap[w.heap.size]? = some (.cells (rowN 4 (blk g)) 26 (0, 0))) := Lib.hid ((ho.block _ (lt_of_block hb.out)).trans hb.out)
        have HO := Lib.hid ((Old.alloc w _).trans ho)
        clear ho
        have keep1 : ∀ V : World, Old (w1).drew V → V.heap[w.heap.size]? = some (.cells (rowN 4 (blk g)) 26 (0, 0)) := fun V hV => (hV.block _ (lt_of_block hb1.out)).trans hb1.out
        have HK := Lib.hid keep1
        clear keep1
        go_wp2_with fail
        refine wp_region_held_drew (S := (fun w' => w'.heap[w.heap.size]? = some (.cells (rowN 4 (blk g)) 26 (0, 0)))) (by kernel_rfl) ?_ (fun hHeld => ?_)
        · (try dsimp only); first | exact HK.out _ (Old.refl _) | exact HK.out _ hV1 | exact HK.out _ (hV1.trans hV2) | exact HK.out _ ((hV1.trans hV2).trans hV3) | exact HK.out _ (((hV1.trans hV2).trans hV3).trans hV4) | exact HK.out _ ((((hV1.trans hV2).trans hV3).trans hV4).trans hV5)
        refine wpAnyH_take (i := 0) (oi := ⟨some _, _, _, _, _, _⟩) (v := .agg (rowN 4 (blk g))) rfl (by kernel_rfl) (by kernel_rfl) (by kernel_rfl) (fun _ _ _ h => h) (yieldsIf_load_row (by kernel_rfl) 26 (.tmp 2) rfl w.heap.size rfl 26 (rowN 4 (blk g)) (0, 0) _ (fun _ h => h) Try.underlying26 rfl (by rw [rowN_size]; exact Hs.out)) (by assumption) ?_; try simp only [Act.put, List.setIfInBounds_toArray, List.set_cons_zero, List.set_cons_succ]
        refine wpAnyH_take (i := 2) (oi := ⟨some _, _, _, _, _, _⟩) (v := .agg (rowN 4 (blk g))) rfl (by kernel_rfl) (by kernel_rfl) (by kernel_rfl) (fun _ _ _ h => h) (yieldsIf_load_row (by kernel_rfl) 26 (.tmp 2) rfl w.heap.size rfl 26 (rowN 4 (blk g)) (0, 0) _ (fun _ h => h) Try.underlying26 rfl (by rw [rowN_size]; exact Hs.out)) (by assumption) ?_; try simp only [Act.put, List.setIfInBounds_toArray, List.set_cons_zero, List.set_cons_succ]
        refine wpAnyH_ready (rs := [1]) (by kernel_rfl) (by simp) ?_
        refine AllReadyH.cons (o := ⟨some _, _, _, _, _, _⟩) rfl (fun K hK => ?_) AllReadyH.nil
        go_simp
        refine (HRt.out _).mono ?_; rintro e V1 ⟨rfl, hV1⟩
        go_wp2_with fail
        refine hK.out _ _ ?_ (fun hHeld => ?_)
        · (try dsimp only); first | exact HK.out _ (Old.refl _) | exact HK.out _ hV1 | exact HK.out _ (hV1.trans hV2) | exact HK.out _ ((hV1.trans hV2).trans hV3) | exact HK.out _ (((hV1.trans hV2).trans hV3).trans hV4) | exact HK.out _ ((((hV1.trans hV2).trans hV3).trans hV4).trans hV5)
        clear hK K
        try simp only [Act.put, List.setIfInBounds_toArray, List.set_cons_zero, List.set_cons_succ]
        refine wpAnyH_ready (rs := [3]) (by kernel_rfl) (by simp) ?_
        refine AllReadyH.cons (o := ⟨some _, _, _, _, _, _⟩) rfl (fun K hK => ?_) AllReadyH.nil
        go_simp
        refine (Hrt.out _).mono ?_; rintro e V2 ⟨rfl, hV2⟩
        go_wp2_with fail
        refine hK.out _ _ ?_ (fun hHeld => ?_)
        · (try dsimp only); first | exact HK.out _ (Old.refl _) | exact HK.out _ hV1 | exact HK.out _ (hV1.trans hV2) | exact HK.out _ ((hV1.trans hV2).trans hV3) | exact HK.out _ (((hV1.trans hV2).trans hV3).trans hV4) | exact HK.out _ ((((hV1.trans hV2).trans hV3).trans hV4).trans hV5)
        clear hK K
        try simp only [Act.put, List.setIfInBounds_toArray, List.set_cons_zero, List.set_cons_succ]
        refine wpAnyH_take (i := 4) (oi := ⟨some _, _, _, _, _, _⟩) (v := ?_) rfl (by kernel_rfl) (by kernel_rfl) (by kernel_rfl) (fun _ _ _ h => h) (Or.inl ⟨by kernel_rfl, ?_⟩) (by assumption) ?_; rotate_left; (intro w hSw; (try dsimp only at hSw); go_simp; try with_reducible rfl); try simp only [Act.put, List.setIfInBounds_toArray, List.set_cons_zero, List.set_cons_succ]
        refine wpAnyH_take (i := 5) (oi := ⟨some _, _, _, _, _, _⟩) (v := ?_) rfl (by kernel_rfl) (by kernel_rfl) (by kernel_rfl) (fun _ _ _ h => h) (Or.inl ⟨by kernel_rfl, ?_⟩) (by assumption) ?_; rotate_left; (intro w hSw; (try dsimp only at hSw); go_simp; try with_reducible rfl); try simp only [Act.put, List.setIfInBounds_toArray, List.set_cons_zero, List.set_cons_succ]
        refine wpAnyH_take (i := 6) (oi := ⟨some _, _, _, _, _, _⟩) (v := .agg (rowN 4 (blk g))) rfl (by kernel_rfl) (by kernel_rfl) (by kernel_rfl) (fun _ _ _ h => h) (yieldsIf_load_row (by kernel_rfl) 26 (.tmp 2) rfl w.heap.size rfl 26 (rowN 4 (blk g)) (0, 0) _ (fun _ h => h) Try.underlying26 rfl (by rw [rowN_size]; exact Hs.out)) (by assumption) ?_; try simp only [Act.put, List.setIfInBounds_toArray, List.set_cons_zero, List.set_cons_succ]
        refine wpAnyH_take (i := 7) (oi := ⟨some _, _, _, _, _, _⟩) (v := ?_) rfl (by kernel_rfl) (by kernel_rfl) (by kernel_rfl) (fun _ _ _ h => h) (Or.inl ⟨by kernel_rfl, ?_⟩) (by assumption) ?_; rotate_left; (intro w hSw; (try dsimp only at hSw); go_simp; try with_reducible rfl); try simp only [Act.put, List.setIfInBounds_toArray, List.set_cons_zero, List.set_cons_succ]
        refine wpAnyH_take (i := 9) (oi := ⟨some _, _, _, _, _, _⟩) (v := ?_) rfl (by kernel_rfl) (by kernel_rfl) (by kernel_rfl) (fun _ _ _ h => h) (Or.inl ⟨by kernel_rfl, ?_⟩) (by assumption) ?_; rotate_left; (intro w hSw; (try dsimp only at hSw); go_simp; try with_reducible rfl); try simp only [Act.put, List.setIfInBounds_toArray, List.set_cons_zero, List.set_cons_succ]
        refine wpAnyH_ready (rs := [8]) (by kernel_rfl) (by simp) ?_
        refine AllReadyH.cons (o := ⟨some _, _, _, _, _, _⟩) rfl (fun K hK => ?_) AllReadyH.nil
        go_simp
        refine (HAt.out _).mono ?_; rintro e V3 ⟨rfl, hV3⟩
        go_wp2_with fail
        refine hK.out _ _ ?_ (fun hHeld => ?_)
        · (try dsimp only); first | exact HK.out _ (Old.refl _) | exact HK.out _ hV1 | exact HK.out _ (hV1.trans hV2) | exact HK.out _ ((hV1.trans hV2).trans hV3) | exact HK.out _ (((hV1.trans hV2).trans hV3).trans hV4) | exact HK.out _ ((((hV1.trans hV2).trans hV3).trans hV4).trans hV5)
        clear hK K
        try simp only [Act.put, List.setIfInBounds_toArray, List.set_cons_zero, List.set_cons_succ]
        refine wpAnyH_take (i := 10) (oi := ⟨some _, _, _, _, _, _⟩) (v := ?_) rfl (by kernel_rfl) (by kernel_rfl) (by kernel_rfl) (fun _ _ _ h => h) (Or.inl ⟨by kernel_rfl, ?_⟩) (by assumption) ?_; rotate_left; (intro w hSw; (try dsimp only at hSw); go_simp; try with_reducible rfl); try simp only [Act.put, List.setIfInBounds_toArray, List.set_cons_zero, List.set_cons_succ]
        refine wpAnyH_take (i := 11) (oi := ⟨some _, _, _, _, _, _⟩) (v := ?_) rfl (by kernel_rfl) (by kernel_rfl) (by kernel_rfl) (fun _ _ _ h => h) (Or.inl ⟨by kernel_rfl, ?_⟩) (by assumption) ?_; rotate_left; (intro w hSw; (try dsimp only at hSw); go_simp; try with_reducible rfl); try simp only [Act.put, List.setIfInBounds_toArray, List.set_cons_zero, List.set_cons_succ]
        refine wpAnyH_take (i := 12) (oi := ⟨some _, _, _, _, _, _⟩) (v := ?_) rfl (by kernel_rfl) (by kernel_rfl) (by kernel_rfl) (fun _ _ _ h => h) (Or.inl ⟨by kernel_rfl, ?_⟩) (by assumption) ?_; rotate_left; (intro w hSw; (try dsimp only at hSw); go_simp; try with_reducible rfl); try simp only [Act.put, List.setIfInBounds_toArray, List.set_cons_zero, List.set_cons_succ]
        refine wpAnyH_take (i := 13) (oi := ⟨some _, _, _, _, _, _⟩) (v := .agg (rowN 4 (blk g))) rfl (by kernel_rfl) (by kernel_rfl) (by kernel_rfl) (fun _ _ _ h => h) (yieldsIf_load_row (by kernel_rfl) 26 (.tmp 2) rfl w.heap.size rfl 26 (rowN 4 (blk g)) (0, 0) _ (fun _ h => h) Try.underlying26 rfl (by rw [rowN_size]; exact Hs.out)) (by assumption) ?_; try simp only [Act.put, List.setIfInBounds_toArray, List.set_cons_zero, List.set_cons_succ]
        refine wpAnyH_take (i := 15) (oi := ⟨some _, _, _, _, _, _⟩) (v := .agg (rowN 4 (blk g))) rfl (by kernel_rfl) (by kernel_rfl) (by kernel_rfl) (fun _ _ _ h => h) (yieldsIf_load_row (by kernel_rfl) 26 (.tmp 2) rfl w.heap.size rfl 26 (rowN 4 (blk g)) (0, 0) _ (fun _ h => h) Try.underlying26 rfl (by rw [rowN_size]; exact Hs.out)) (by assumption) ?_; try simp only [Act.put, List.setIfInBounds_toArray, List.set_cons_zero, List.set_cons_succ]
        refine wpAnyH_take (i := 16) (oi := ⟨some _, _, _, _, _, _⟩) (v := ?_) rfl (by kernel_rfl) (by kernel_rfl) (by kernel_rfl) (fun _ _ _ h => h) (Or.inl ⟨by kernel_rfl, ?_⟩) (by assumption) ?_; rotate_left; (intro w hSw; (try dsimp only at hSw); go_simp; try with_reducible rfl); try simp only [Act.put, List.setIfInBounds_toArray, List.set_cons_zero, List.set_cons_succ]
        refine wpAnyH_take (i := 17) (oi := ⟨some _, _, _, _, _, _⟩) (v := ?_) rfl (by kernel_rfl) (by kernel_rfl) (by kernel_rfl) (fun _ _ _ h => h) (Or.inl ⟨by kernel_rfl, ?_⟩) (by assumption) ?_; rotate_left; (intro w hSw; (try dsimp only at hSw); go_simp; try with_reducible rfl); try simp only [Act.put, List.setIfInBounds_toArray, List.set_cons_zero, List.set_cons_succ]
        refine wpAnyH_ready (rs := [14]) (by kernel_rfl) (by simp) ?_
        refine AllReadyH.cons (o := ⟨some _, _, _, _, _, _⟩) rfl (fun K hK => ?_) AllReadyH.nil
        go_simp
        refine (HFl.out _).mono ?_; rintro e V4 ⟨rfl, hV4⟩
        go_wp2_with fail
        refine hK.out _ _ ?_ (fun hHeld => ?_)
        · (try dsimp only); first | exact HK.out _ (Old.refl _) | exact HK.out _ hV1 | exact HK.out _ (hV1.trans hV2) | exact HK.out _ ((hV1.trans hV2).trans hV3) | exact HK.out _ (((hV1.trans hV2).trans hV3).trans hV4) | exact HK.out _ ((((hV1.trans hV2).trans hV3).trans hV4).trans hV5)
        clear hK K
        try simp only [Act.put, List.setIfInBounds_toArray, List.set_cons_zero, List.set_cons_succ]
        refine wpAnyH_take (i := 18) (oi := ⟨some _, _, _, _, _, _⟩) (v := ?_) rfl (by kernel_rfl) (by kernel_rfl) (by kernel_rfl) (fun _ _ _ h => h) (Or.inl ⟨by kernel_rfl, ?_⟩) (by assumption) ?_; rotate_left; (intro w hSw; (try dsimp only at hSw); go_simp; try with_reducible rfl); try simp only [Act.put, List.setIfInBounds_toArray, List.set_cons_zero, List.set_cons_succ]
        refine wpAnyH_take (i := 19) (oi := ⟨some _, _, _, _, _, _⟩) (v := ?_) rfl (by kernel_rfl) (by kernel_rfl) (by kernel_rfl) (fun _ _ _ h => h) (Or.inl ⟨by kernel_rfl, ?_⟩) (by assumption) ?_; rotate_left; (intro w hSw; (try dsimp only at hSw); go_simp; try with_reducible rfl); try simp only [Act.put, List.setIfInBounds_toArray, List.set_cons_zero, List.set_cons_succ]
        refine wpAnyH_take (i := 20) (oi := ⟨some _, _, _, _, _, _⟩) (v := ?_) rfl (by kernel_rfl) (by kernel_rfl) (by kernel_rfl) (fun _ _ _ h => h) (Or.inl ⟨by kernel_rfl, ?_⟩) (by assumption) ?_; rotate_left; (intro w hSw; (try dsimp only at hSw); go_simp; try with_reducible rfl); try simp only [Act.put, List.setIfInBounds_toArray, List.set_cons_zero, List.set_cons_succ]
        refine wpAnyH_ready (rs := [21]) (by kernel_rfl) (by simp) ?_
        refine AllReadyH.cons (o := ⟨some _, _, _, _, _, _⟩) rfl (fun K hK => ?_) AllReadyH.nil
        go_simp
        refine (HA.out _).mono ?_; rintro e V5 ⟨rfl, hV5⟩
        go_wp2_with fail
        refine hK.out _ _ ?_ (fun hHeld => ?_)
        · (try dsimp only); first | exact HK.out _ (Old.refl _) | exact HK.out _ hV1 | exact HK.out _ (hV1.trans hV2) | exact HK.out _ ((hV1.trans hV2).trans hV3) | exact HK.out _ (((hV1.trans hV2).trans hV3).trans hV4) | exact HK.out _ ((((hV1.trans hV2).trans hV3).trans hV4).trans hV5)
        clear hK K
        try simp only [Act.put, List.setIfInBounds_toArray, List.set_cons_zero, List.set_cons_succ]
        refine wpAnyH_take (i := 22) (oi := ⟨some _, _, _, _, _, _⟩) (v := ?_) rfl (by kernel_rfl) (by kernel_rfl) (by kernel_rfl) (fun _ _ _ h => h) (Or.inl ⟨by kernel_rfl, ?_⟩) (by assumption) ?_; rotate_left; (intro w hSw; (try dsimp only at hSw); go_simp; try with_reducible rfl); try simp only [Act.put, List.setIfInBounds_toArray, List.set_cons_zero, List.set_cons_succ]
        refine wpAnyH_take (i := 23) (oi := ⟨some _, _, _, _, _, _⟩) (v := ?_) rfl (by kernel_rfl) (by kernel_rfl) (by kernel_rfl) (fun _ _ _ h => h) (Or.inl ⟨by kernel_rfl, ?_⟩) (by assumption) ?_; rotate_left; (intro w hSw; (try dsimp only at hSw); go_simp; try with_reducible rfl); try simp only [Act.put, List.setIfInBounds_toArray, List.set_cons_zero, List.set_cons_succ]
        refine wpAnyH_done (by kernel_rfl) ?_ _
        have hfin : Hid (Old w V5) := (((((HO.out.drew).trans hV1).trans hV2).trans hV3).trans hV4).trans hV5
        clear hV1 hV2 hV3 hV4 hV5
        go_wp2_with fail
        go_ret
        exact ⟨rfl, hfin.out⟩


theorem own : ownKnob Try.prog.godebug = none := by kernel_rfl
theorem laidOut : laidOutB Try.prog = true := by kernel_rfl

set_option maxRecDepth 100000 in
theorem lifted (os : Os) (started : os.Started) (H : Type) (enc : TypeId × Value → H) :
    ReturnsInHanded {} Try.checked os 4 .any (Rows.gainRightsSpec.pre6 enc Try.prog Try.f4 Rows.gainRightsRow.domain false) (Rows.gainRightsSpec.post enc Try.prog Try.f4 false true false false) := by
  refine returnsInHanded_of_change (C := Try.checked) own started (by kernel_rfl) Try.func4
    (ChangeSpec.witness6 (enc := enc) (C := Try.checked) false ⟨#[], #[.agg #[.int .i64 0, .int .i64 0, .int .i64 0, .int .i64 0], .int .i64 0], []⟩ 8 (by kernel_rfl) (by kernel_rfl) (by kernel_rfl) (by kernel_rfl)) ?_
  intro W base args ds gs before hval0 hW hcnd _
  have hval : ∀ (j : Nat) t v, Try.f4.params[j]? = some t → args[j]? = some v → Value.okWide Try.prog W .any base t v := hval0
  have hW' := hW
  have hlt : ∀ p ∈ before, p.block < W.heap.size := fun p hp => hW'.lt p hp
  obtain ⟨p, q, hA0, hV, rfl, hfz, hnd⟩ := hW
  have hA : DataW.TrodAll enc Try.prog W 0 (fun _ => true) true Try.f4.params.toList args.toList ds p := hA0
  rw [Try.params4] at hA hval
  obtain ⟨v0, vs0, d0, ds0, p0, q0, hargs, rfl, rfl, h0, r0⟩ := trodAll_cons hA
  obtain ⟨v1, vs1, d1, ds1, p1, q1, rfl, rfl, rfl, h1, r1⟩ := trodAll_cons r0
  obtain ⟨rfl, rfl, rfl⟩ := trodAll_nil r1
  obtain rfl : args = #[v0, v1] := by cases args; simp_all
  obtain ⟨rfl, rfl⟩ := trodVars_none hV
  obtain ⟨f0, rfl, hf0, hz0⟩ := open_ints64 Try.underlying26 Try.underlying3 (by kernel_rfl) (by kernel_rfl) (hval 0 26 v0 rfl rfl) h0
  obtain ⟨a1, rfl, _, _, w1⟩ := open_int Try.underlying3 (hval 1 3 v1 rfl rfl) h1
  refine (walk f0 a1 W (i64_of w1).1 (i64_of w1).2).mono fun e W' ⟨he, hg⟩ => ?_
  subst he
  exact ⟨_, rfl, law_done laidOut Try.underlying4 rfl (by kernel_rfl) rfl hW' rfl hg⟩

theorem over : Rows.gainRightsRow.holds Try.pinned (OpenSpec.ofChange Rows.gainRightsSpec) :=
  OpenClaim.holds_of_wide 4 Try.f4 rfl rfl rfl rfl rfl rfl rfl ⟨rfl, rfl, rfl, rfl, rfl⟩ rfl rfl rfl rfl rfl (by kernel_rfl) Try.func4 (by kernel_rfl)
    (of_decide_eq_true (by kernel_rfl)) (by unfold Func.isWrapper; first | (rw [if_pos (by decide +kernel)]; kernel_rfl) | (rw [if_neg (by decide +kernel)]; exact ⟨rfl, rfl⟩))
    (fun os started H enc _ => lifted os started H enc)

theorem proved : Rows.GainRightsSaid :=
  over
end Go.Proofs.Ytoahbeoonfdpbaa.gainRights
