/- NetBounds: no number of a spectrum is greater than the bound. -/
import Derived.Test.YtekfkepkhcdohaaRows
import Derived.Test.YtekfkepkhcdohaaFwd
import Derived.Test.YtekfkepkhcdohaaAwake
namespace Go.Proofs.Ytekfkepkhcdohaa.netBounds
open Go.ChangeShapes Go.WideShapes Go.ChangeAt Go.RowKit
set_option linter.unusedVariables false

set_option maxRecDepth 100000 in
set_option maxHeartbeats 4000000 in
theorem walk (f : Nat → Int) (w : World) (h0 : ∀ k, 16 ≤ k → f k = 0) : Calls Try.prog 4 #[.agg (rowN 16 (blk f))] w fun e w' => e = .returned (.bool true) ∧ Old w w' := by
  have hnear := fun w => near_any f w
  have HA := Lib.hid (fun w => awake_any w)
  have Hs : Hid ((Try.prog.info? 23).map (·.size) = some 16) := Lib.hid (by kernel_rfl)
  have hb : Hid ((w.alloc (.cells (rowN 16 (blk f)) 23)).heap[w.heap.size]? = some (.cells (rowN 16 (blk f)) 23 (0, 0))) := Lib.hid (World.alloc_heap_new _ _)
  by_cases hnr : nearP f
  · rw [decide_eq_true hnr] at hnear
    have HR := Lib.hid hnear
    have HNR := Lib.hid hnr
    clear hnear hnr
    go_enter Try.func4, Try.ntmps4
    go_wp2_with (with_reducible refine wpList_load_row rfl 23 _ rfl w.heap.size rfl 23 (rowN 16 (blk f)) (0, 0) _ hb.out Try.underlying23 rfl (by rw [rowN_size]; exact Hs.out) ?_)
    refine (HR.out _).mono ?_
    rintro e w1 ⟨rfl, ho⟩
    have hb1 : Hid (w1.heap[w.heap.size]? = some (.cells (rowN 16 (blk f)) 23 (0, 0))) := Lib.hid ((ho.block _ (lt_of_block hb.out)).trans hb.out)
    have HO := Lib.hid ((Old.alloc w _).trans ho)
    clear ho HR hb
    have hc : Hid (∀ k, k < 16 → w1.cell? ⟨w.heap.size, k, none⟩ = some (.int .i64 (f k))) := Lib.hid fun k hk => (cell_of_row _ _ _ _ _ _ hb1.out).trans (blk_at 16 f k hk)
    go_wp2_with fail
    go_loop [3, 4] (fun mo i => ∃ (k : Nat) (m : Int), k ≤ 16 ∧ i = .int .i64 k ∧ mo = .int .i64 m ∧ 0 ≤ m ∧ m ≤ 4294967296 ∧ Hid (∀ j, j < k → -m ≤ f j ∧ f j ≤ m)) (fun _ i => 16 - (intOf i).toNat)
    case atStart => exact ⟨0, 0, by omega, rfl, rfl, by omega, by omega, fun j hj => by omega⟩
    case round =>
      obtain ⟨k, m, hk, rfl, rfl, m0, m1, hj⟩ := hrel
      by_cases hlt : k < 16
      · have i1 : (0 : Int) ≤ k := by omega
        have i2 : (k : Int) < 16 := by omega
        have hcell := hc.out k hlt
        have hx := HNR.out k hlt
        have hj' := hj.out
        obtain ⟨x, hxe⟩ : ∃ x, f k = x := ⟨_, rfl⟩
        rw [hxe] at hcell hx
        obtain ⟨x1, x2⟩ := hx
        have hneg : wrap64 (-x) = -x := IntWalk.wrap64_in _ (by omega)
        have hneg' : IntKind.i64.wrap (-x) = -x := IntWalk.i64_in _ (by omega)
        have HX := Lib.hid hxe
        have HJ := Lib.hid hj'
        clear hxe hj hj'
        have nxt : ∀ m' : Int, m ≤ m' → -m' ≤ x → x ≤ m' → Hid (∀ j, j < k + 1 → -m' ≤ f j ∧ f j ≤ m') := fun m' a b c j hj => by
          rcases Nat.lt_succ_iff_lt_or_eq.1 hj with h | rfl
          · have := HJ.out j h; omega
          · rw [HX.out]; exact ⟨b, c⟩
        have NX := Lib.hid nxt
        clear nxt
        by_cases c1 : m < x
        · have c2 : ¬ x < -x := by omega
          go_wp2_with fail
          go_round
          case rel => exact ⟨k + 1, x, by omega, by go_num, rfl, by omega, by omega, NX.out x (by omega) (by omega) (by omega)⟩
          case measure => simp [intOf]; omega
        · by_cases c2 : m < -x
          · go_wp2_with fail
            go_round
            case rel => exact ⟨k + 1, -x, by omega, by go_num, rfl, by omega, by omega, NX.out (-x) (by omega) (by omega) (by omega)⟩
            case measure => simp [intOf]; omega
          · go_wp2_with fail
            go_round
            case rel => exact ⟨k + 1, m, by omega, by go_num, rfl, by omega, by omega, NX.out m (by omega) (by omega) (by omega)⟩
            case measure => simp [intOf]; omega
      · obtain rfl : k = 16 := by omega
        have hB := fun w => Bound_any m w m0 m1
        have hW : Within m f := fun k => by
          by_cases h : k < 16
          · exact hj.out k h
          · rw [h0 k (by omega)]; omega
        have hF := fwd_near m0 m1 hW
        obtain ⟨bv, hbv⟩ : ∃ bv, bv = 81 * m + 160 := ⟨_, rfl⟩
        rw [← hbv] at hB hF
        have b1 : 160 ≤ bv := by omega
        have b2 : bv ≤ 347892350976 + 160 := by omega
        have e1 : wrap64 (81 * m) = 81 * m := IntWalk.wrap64_in _ (by omega)
        have e2 : wrap64 (81 * m + 160) = bv := by rw [hbv]; exact IntWalk.wrap64_in _ (by omega)
        have e3 : wrap64 (-bv) = -bv := IntWalk.wrap64_in _ (by omega)
        have e4 : 81 * m + 160 = bv := hbv.symm
        have HB := Lib.hid hB
        have HF := Lib.hid hF
        have HN := Lib.hid (fun w => New_any w)
        have HFw := Lib.hid (fun w => Forward_any f w)
        clear hB hF hW hj hbv HNR hc
        go_wp2_with fail
        refine (HB.out _).mono ?_
        rintro e w2 ⟨rfl, rfl⟩
        go_upto_region 14 with (fail)
        go_cut [6] (fun v6 wx => ∃ bs, v6 = .pointer (some ⟨bs, 0, none⟩) ∧ wx.heap[bs]? = some (.cells (rowN 16 (blk (fwdN 4 f))) 23 (0, 0)) ∧ Old w wx)
        case first =>
          have H1 : Hid ((rowN 16 (blk (fwdN 4 f))).all (·.oneCell') = true) := Lib.hid (blk_one _ _)
          have keep1 : ∀ V : World, Old w1.drew V → V.heap[w.heap.size]? = some (.cells (rowN 16 (blk f)) 23 (0, 0)) := fun V hV => (hV.block _ (lt_of_block hb1.out)).trans hb1.out
          have HK := Lib.hid keep1
          clear keep1
          refine wp_region_held_drew (S := fun w' => w'.heap[w.heap.size]? = some (.cells (rowN 16 (blk f)) 23 (0, 0))) (by kernel_rfl) ?_ (fun hHeld => ?_)
          · exact HK.out _ (Old.refl _)
          refine wpAnyH_take (i := 1) (oi := ⟨some _, _, _, _, _, _⟩) (v := .agg (rowN 16 (blk f))) rfl (by kernel_rfl) (by kernel_rfl) (by kernel_rfl) (fun _ _ _ h => h) (yieldsIf_load_row (by kernel_rfl) 23 (.tmp 1) rfl w.heap.size rfl 23 (rowN 16 (blk f)) (0, 0) _ (fun _ h => h) Try.underlying23 rfl (by rw [rowN_size]; exact Hs.out)) (by assumption) ?_; try simp only [Act.put, List.setIfInBounds_toArray, List.set_cons_zero, List.set_cons_succ]
          refine wpAnyH_ready (rs := [0, 3]) (by kernel_rfl) (by simp) ?_
          refine AllReadyH.cons (o := ⟨some _, _, _, _, _, _⟩) rfl (fun K hK => ?_) (AllReadyH.cons (o := ⟨some _, _, _, _, _, _⟩) rfl (fun K hK => ?_) AllReadyH.nil)
          · skip
            go_simp
            refine (HN.out _).mono ?_
            rintro e V0 ⟨rfl, o0⟩
            go_wp2_with fail
            refine hK.out _ _ (HK.out _ ((Old.refl w1.drew).trans o0)) (fun hHeld => ?_)
            clear hK K
            try simp only [Act.put, List.setIfInBounds_toArray, List.set_cons_zero, List.set_cons_succ]
            refine wpAnyH_ready (rs := [2, 3]) (by kernel_rfl) (by simp) ?_
            refine AllReadyH.cons (o := ⟨some _, _, _, _, _, _⟩) rfl (fun K hK => ?_) (AllReadyH.cons (o := ⟨some _, _, _, _, _, _⟩) rfl (fun K hK => ?_) AllReadyH.nil)
            · skip
              go_simp
              refine (HFw.out _).mono ?_
              rintro e V1 ⟨rfl, o1⟩
              go_wp2_with fail
              refine hK.out _ _ (HK.out _ (((Old.refl w1.drew).trans o0).trans o1)) (fun hHeld => ?_)
              clear hK K
              try simp only [Act.put, List.setIfInBounds_toArray, List.set_cons_zero, List.set_cons_succ]
              refine wpAnyH_ready (rs := [3]) (by kernel_rfl) (by simp) ?_
              refine AllReadyH.cons (o := ⟨some _, _, _, _, _, _⟩) rfl (fun K hK => ?_) AllReadyH.nil
              go_simp
              refine hK.out _ _ (HK.out _ ((((Old.refl w1.drew).trans o0).trans o1).alloc' _)) (fun hHeld => ?_)
              clear hK K
              try simp only [Act.put, List.setIfInBounds_toArray, List.set_cons_zero, List.set_cons_succ]
              have hbs : (V1.alloc (.cells #[.int .i64 0, .int .i64 0, .int .i64 0, .int .i64 0, .int .i64 0, .int .i64 0, .int .i64 0, .int .i64 0, .int .i64 0, .int .i64 0, .int .i64 0, .int .i64 0, .int .i64 0, .int .i64 0, .int .i64 0, .int .i64 0] 23)).heap[V1.heap.size]? = some (.cells #[.int .i64 0, .int .i64 0, .int .i64 0, .int .i64 0, .int .i64 0, .int .i64 0, .int .i64 0, .int .i64 0, .int .i64 0, .int .i64 0, .int .i64 0, .int .i64 0, .int .i64 0, .int .i64 0, .int .i64 0, .int .i64 0] 23 (0, 0)) := by
                exact World.alloc_heap_new _ _
              refine wpAnyH_ready (rs := [4]) (by kernel_rfl) (by simp) ?_
              refine AllReadyH.cons (o := ⟨none, _, _, _, _, _⟩) rfl (fun K hK => ?_) AllReadyH.nil
              rw [if_pos (by kernel_rfl)]
              refine wp_store_row 23 (.tmp 6) (.tmp 43) rfl (V1.heap.size) (rowN 16 (blk (fwdN 4 f))) rfl rfl 23 _ hbs (by rw [rowN_size]; exact Hs.out) (by rw [rowN_size]; rfl) H1.out ?_
              have hne : w.heap.size ≠ V1.heap.size := by
                have h1 := HO.out.size
                have h2 := lt_of_block hb1.out
                have h3 := ((((Old.refl w1.drew).trans o0).trans o1)).size
                have h4 : w1.drew.heap.size = w1.heap.size := rfl
                (try simp only [World.size_alloc] at h3); (try simp only [World.size_alloc])
                omega
              have hst : ((V1.alloc (.cells #[.int .i64 0, .int .i64 0, .int .i64 0, .int .i64 0, .int .i64 0, .int .i64 0, .int .i64 0, .int .i64 0, .int .i64 0, .int .i64 0, .int .i64 0, .int .i64 0, .int .i64 0, .int .i64 0, .int .i64 0, .int .i64 0] 23)).setRow (V1.heap.size) (rowN 16 (blk (fwdN 4 f)))).heap[V1.heap.size]? = some (.cells (rowN 16 (blk (fwdN 4 f))) 23 (0, 0)) ∧ Old w ((V1.alloc (.cells #[.int .i64 0, .int .i64 0, .int .i64 0, .int .i64 0, .int .i64 0, .int .i64 0, .int .i64 0, .int .i64 0, .int .i64 0, .int .i64 0, .int .i64 0, .int .i64 0, .int .i64 0, .int .i64 0, .int .i64 0, .int .i64 0] 23)).setRow (V1.heap.size) (rowN 16 (blk (fwdN 4 f)))) := by
                refine ⟨setRow_heap _ _ _ _ _ _ hbs, (HO.out.drew.trans ((((Old.refl w1.drew).trans o0).trans o1).alloc' _)).after (X := fun k => k < w.heap.size) ⟨rfl, rfl, by simp, fun k hk => setRow_other _ _ _ _ ?_⟩ fun _ h => h⟩
                have h1 := HO.out.size
                have h3 := ((((Old.refl w1.drew).trans o0).trans o1)).size
                have h4 : w1.drew.heap.size = w1.heap.size := rfl
                (try simp only [World.size_alloc] at h3); (try simp only [World.size_alloc])
                omega
              have HST := Lib.hid hst
              refine hK.out _ _ ((setRow_other _ _ _ _ hne).trans (HK.out _ ((((Old.refl w1.drew).trans o0).trans o1).alloc' _))) (fun hHeld => ?_)
              clear hK K hst hne hbs
              try simp only [Act.put]
              refine wpAnyH_done (by kernel_rfl) ?_ _
              go_wp2_with fail
              go_meet
              exact ⟨_, rfl, HST.out.1, HST.out.2⟩
            · skip
              go_simp
              refine hK.out _ _ (HK.out _ (((Old.refl w1.drew).trans o0).alloc' _)) (fun hHeld => ?_)
              clear hK K
              try simp only [Act.put, List.setIfInBounds_toArray, List.set_cons_zero, List.set_cons_succ]
              refine wpAnyH_ready (rs := [2]) (by kernel_rfl) (by simp) ?_
              refine AllReadyH.cons (o := ⟨some _, _, _, _, _, _⟩) rfl (fun K hK => ?_) AllReadyH.nil
              go_simp
              refine (HFw.out _).mono ?_
              rintro e V2 ⟨rfl, o2⟩
              go_wp2_with fail
              refine hK.out _ _ (HK.out _ ((((Old.refl w1.drew).trans o0).alloc' _).trans o2)) (fun hHeld => ?_)
              clear hK K
              try simp only [Act.put, List.setIfInBounds_toArray, List.set_cons_zero, List.set_cons_succ]
              have hbs : V2.heap[V0.heap.size]? = some (.cells #[.int .i64 0, .int .i64 0, .int .i64 0, .int .i64 0, .int .i64 0, .int .i64 0, .int .i64 0, .int .i64 0, .int .i64 0, .int .i64 0, .int .i64 0, .int .i64 0, .int .i64 0, .int .i64 0, .int .i64 0, .int .i64 0] 23 (0, 0)) := by
                exact (o2.block _ (by simp)).trans (World.alloc_heap_new _ _)
              refine wpAnyH_ready (rs := [4]) (by kernel_rfl) (by simp) ?_
              refine AllReadyH.cons (o := ⟨none, _, _, _, _, _⟩) rfl (fun K hK => ?_) AllReadyH.nil
              rw [if_pos (by kernel_rfl)]
              refine wp_store_row 23 (.tmp 6) (.tmp 43) rfl (V0.heap.size) (rowN 16 (blk (fwdN 4 f))) rfl rfl 23 _ hbs (by rw [rowN_size]; exact Hs.out) (by rw [rowN_size]; rfl) H1.out ?_
              have hne : w.heap.size ≠ V0.heap.size := by
                have h1 := HO.out.size
                have h2 := lt_of_block hb1.out
                have h3 := (((Old.refl w1.drew).trans o0)).size
                have h4 : w1.drew.heap.size = w1.heap.size := rfl
                (try simp only [World.size_alloc] at h3); (try simp only [World.size_alloc])
                omega
              have hst : (V2.setRow (V0.heap.size) (rowN 16 (blk (fwdN 4 f)))).heap[V0.heap.size]? = some (.cells (rowN 16 (blk (fwdN 4 f))) 23 (0, 0)) ∧ Old w (V2.setRow (V0.heap.size) (rowN 16 (blk (fwdN 4 f)))) := by
                refine ⟨setRow_heap _ _ _ _ _ _ hbs, (HO.out.drew.trans ((((Old.refl w1.drew).trans o0).alloc' _).trans o2)).after (X := fun k => k < w.heap.size) ⟨rfl, rfl, by simp, fun k hk => setRow_other _ _ _ _ ?_⟩ fun _ h => h⟩
                have h1 := HO.out.size
                have h3 := (((Old.refl w1.drew).trans o0)).size
                have h4 : w1.drew.heap.size = w1.heap.size := rfl
                (try simp only [World.size_alloc] at h3); (try simp only [World.size_alloc])
                omega
              have HST := Lib.hid hst
              refine hK.out _ _ ((setRow_other _ _ _ _ hne).trans (HK.out _ ((((Old.refl w1.drew).trans o0).alloc' _).trans o2))) (fun hHeld => ?_)
              clear hK K hst hne hbs
              try simp only [Act.put]
              refine wpAnyH_done (by kernel_rfl) ?_ _
              go_wp2_with fail
              go_meet
              exact ⟨_, rfl, HST.out.1, HST.out.2⟩
          · skip
            go_simp
            refine hK.out _ _ (HK.out _ ((Old.refl w1.drew).alloc' _)) (fun hHeld => ?_)
            clear hK K
            try simp only [Act.put, List.setIfInBounds_toArray, List.set_cons_zero, List.set_cons_succ]
            refine wpAnyH_ready (rs := [0]) (by kernel_rfl) (by simp) ?_
            refine AllReadyH.cons (o := ⟨some _, _, _, _, _, _⟩) rfl (fun K hK => ?_) AllReadyH.nil
            go_simp
            refine (HN.out _).mono ?_
            rintro e V1 ⟨rfl, o1⟩
            go_wp2_with fail
            refine hK.out _ _ (HK.out _ (((Old.refl w1.drew).alloc' _).trans o1)) (fun hHeld => ?_)
            clear hK K
            try simp only [Act.put, List.setIfInBounds_toArray, List.set_cons_zero, List.set_cons_succ]
            refine wpAnyH_ready (rs := [2]) (by kernel_rfl) (by simp) ?_
            refine AllReadyH.cons (o := ⟨some _, _, _, _, _, _⟩) rfl (fun K hK => ?_) AllReadyH.nil
            go_simp
            refine (HFw.out _).mono ?_
            rintro e V2 ⟨rfl, o2⟩
            go_wp2_with fail
            refine hK.out _ _ (HK.out _ ((((Old.refl w1.drew).alloc' _).trans o1).trans o2)) (fun hHeld => ?_)
            clear hK K
            try simp only [Act.put, List.setIfInBounds_toArray, List.set_cons_zero, List.set_cons_succ]
            have hbs : V2.heap[w1.drew.heap.size]? = some (.cells #[.int .i64 0, .int .i64 0, .int .i64 0, .int .i64 0, .int .i64 0, .int .i64 0, .int .i64 0, .int .i64 0, .int .i64 0, .int .i64 0, .int .i64 0, .int .i64 0, .int .i64 0, .int .i64 0, .int .i64 0, .int .i64 0] 23 (0, 0)) := by
              exact (o2.block _ (lt_of_block ((o1.block _ (by simp)).trans (World.alloc_heap_new _ _)))).trans ((o1.block _ (by simp)).trans (World.alloc_heap_new _ _))
            refine wpAnyH_ready (rs := [4]) (by kernel_rfl) (by simp) ?_
            refine AllReadyH.cons (o := ⟨none, _, _, _, _, _⟩) rfl (fun K hK => ?_) AllReadyH.nil
            rw [if_pos (by kernel_rfl)]
            refine wp_store_row 23 (.tmp 6) (.tmp 43) rfl (w1.drew.heap.size) (rowN 16 (blk (fwdN 4 f))) rfl rfl 23 _ hbs (by rw [rowN_size]; exact Hs.out) (by rw [rowN_size]; rfl) H1.out ?_
            have hne : w.heap.size ≠ w1.drew.heap.size := by
              have h1 := HO.out.size
              have h2 := lt_of_block hb1.out
              have h3 := ((Old.refl w1.drew)).size
              have h4 : w1.drew.heap.size = w1.heap.size := rfl
              (try simp only [World.size_alloc] at h3); (try simp only [World.size_alloc])
              omega
            have hst : (V2.setRow (w1.drew.heap.size) (rowN 16 (blk (fwdN 4 f)))).heap[w1.drew.heap.size]? = some (.cells (rowN 16 (blk (fwdN 4 f))) 23 (0, 0)) ∧ Old w (V2.setRow (w1.drew.heap.size) (rowN 16 (blk (fwdN 4 f)))) := by
              refine ⟨setRow_heap _ _ _ _ _ _ hbs, (HO.out.drew.trans ((((Old.refl w1.drew).alloc' _).trans o1).trans o2)).after (X := fun k => k < w.heap.size) ⟨rfl, rfl, by simp, fun k hk => setRow_other _ _ _ _ ?_⟩ fun _ h => h⟩
              have h1 := HO.out.size
              have h3 := ((Old.refl w1.drew)).size
              have h4 : w1.drew.heap.size = w1.heap.size := rfl
              (try simp only [World.size_alloc] at h3); (try simp only [World.size_alloc])
              omega
            have HST := Lib.hid hst
            refine hK.out _ _ ((setRow_other _ _ _ _ hne).trans (HK.out _ ((((Old.refl w1.drew).alloc' _).trans o1).trans o2))) (fun hHeld => ?_)
            clear hK K hst hne hbs
            try simp only [Act.put]
            refine wpAnyH_done (by kernel_rfl) ?_ _
            go_wp2_with fail
            go_meet
            exact ⟨_, rfl, HST.out.1, HST.out.2⟩
        case rest =>
          obtain ⟨bs, rfl, hbk, hOw⟩ := hcut
          have HC : Hid (∀ k, k < 16 → wc.cell? ⟨bs, k, none⟩ = some (.int .i64 (fwdN 4 f k))) := Lib.hid fun k hk => (cell_of_row _ _ _ _ _ _ hbk).trans (blk_at 16 _ k hk)
          have HOw := Lib.hid hOw
          clear hbk hOw hb1 HO
          go_wp2_with fail
          go_loop [7] (fun i => ∃ k : Nat, k ≤ 16 ∧ i = .int .i64 k) (fun i => 16 - (intOf i).toNat)
          case atStart => exact ⟨0, by omega, rfl⟩
          case round =>
            obtain ⟨k, hk, rfl⟩ := hrel
            by_cases hlt : k < 16
            · have i1 : (0 : Int) ≤ k := by omega
              have i2 : (k : Int) < 16 := by omega
              have hcell := HC.out k hlt
              obtain ⟨y1, y2⟩ := HF.out k
              generalize fwdN 4 f k = y at *
              have y3 : ¬ bv < y := by omega
              have y4 : ¬ y < -bv := by omega
              go_wp2_with fail
              go_round
              case rel => exact ⟨k + 1, by omega, by go_num⟩
              case measure => simp [intOf]; omega
            · obtain rfl : k = 16 := by omega
              go_wp2_with fail
              refine (HA.out _).mono ?_
              rintro e w9 ⟨rfl, ho9⟩
              have HO9 := Lib.hid (HOw.out.trans ho9)
              clear ho9
              go_wp2_with fail
              go_ret
              exact ⟨rfl, HO9.out⟩
  · rw [decide_eq_false hnr] at hnear
    have HR := Lib.hid hnear
    clear hnear hnr
    go_enter Try.func4, Try.ntmps4
    go_wp2_with (with_reducible refine wpList_load_row rfl 23 _ rfl w.heap.size rfl 23 (rowN 16 (blk f)) (0, 0) _ hb.out Try.underlying23 rfl (by rw [rowN_size]; exact Hs.out) ?_)
    refine (HR.out _).mono ?_
    rintro e w1 ⟨rfl, ho⟩
    have HO := Lib.hid ho
    clear ho HR
    go_wp2_with fail
    refine (HA.out _).mono ?_
    rintro e w2 ⟨rfl, ho2⟩
    have HO2 := Lib.hid ho2
    clear ho2
    go_wp2_with fail
    go_ret
    exact ⟨rfl, ((Old.alloc w _).trans HO.out).trans HO2.out⟩

theorem own : ownKnob Try.prog.godebug = none := by kernel_rfl
theorem laidOut : laidOutB Try.prog = true := by kernel_rfl

set_option maxRecDepth 100000 in
theorem lifted (os : Os) (started : os.Started) (H : Type) (enc : TypeId × Value → H) :
    ReturnsInHanded {} Try.checked os 4 .any (Rows.netBoundsSpec.pre6 enc Try.prog Try.f4 Rows.netBoundsRow.domain false) (Rows.netBoundsSpec.post enc Try.prog Try.f4 false true false false) := by
  refine returnsInHanded_of_change (C := Try.checked) own started (by kernel_rfl) Try.func4
    (ChangeSpec.witness6 (enc := enc) (C := Try.checked) false ⟨#[], #[.agg #[.int .i64 0, .int .i64 0, .int .i64 0, .int .i64 0, .int .i64 0, .int .i64 0, .int .i64 0, .int .i64 0, .int .i64 0, .int .i64 0, .int .i64 0, .int .i64 0, .int .i64 0, .int .i64 0, .int .i64 0, .int .i64 0]], []⟩ 8 (by kernel_rfl) (by kernel_rfl) (by kernel_rfl) (by kernel_rfl)) ?_
  intro W base args ds gs before hval0 hW hcnd _
  have hval : ∀ (j : Nat) t v, Try.f4.params[j]? = some t → args[j]? = some v → Value.okWide Try.prog W .any base t v := hval0
  have hW' := hW
  have hlt : ∀ p ∈ before, p.block < W.heap.size := fun p hp => hW'.lt p hp
  obtain ⟨p, q, hA0, hV, rfl, hfz, hnd⟩ := hW
  have hA : DataW.TrodAll enc Try.prog W 0 (fun _ => true) true Try.f4.params.toList args.toList ds p := hA0
  rw [Try.params4] at hA hval
  obtain ⟨v0, vs0, d0, ds0, p0, q0, hargs, rfl, rfl, h0, r0⟩ := trodAll_cons hA
  obtain ⟨rfl, rfl, rfl⟩ := trodAll_nil r0
  obtain rfl : args = #[v0] := by cases args; simp_all
  obtain ⟨rfl, rfl⟩ := trodVars_none hV
  obtain ⟨f0, rfl, hf0, hz0⟩ := open_ints64 Try.underlying23 Try.underlying2 (by kernel_rfl) (by kernel_rfl) (hval 0 23 v0 rfl rfl) h0
  refine (walk f0 W hz0).mono fun e W' ⟨he, hg⟩ => ?_
  subst he
  exact ⟨_, rfl, law_done laidOut Try.underlying4 rfl (by kernel_rfl) rfl hW' rfl hg⟩

theorem over : Rows.netBoundsRow.holds Try.pinned (OpenSpec.ofChange Rows.netBoundsSpec) :=
  OpenClaim.holds_of_wide 4 Try.f4 rfl rfl rfl rfl rfl rfl rfl ⟨rfl, rfl, rfl, rfl, rfl⟩ rfl rfl rfl rfl rfl (by kernel_rfl) Try.func4 (by kernel_rfl)
    (of_decide_eq_true (by kernel_rfl)) (by unfold Func.isWrapper; first | (rw [if_pos (by decide +kernel)]; kernel_rfl) | (rw [if_neg (by decide +kernel)]; exact ⟨rfl, rfl⟩))
    (fun os started H enc _ => lifted os started H enc)

theorem proved : Rows.NetBoundsSaid :=
  over
end Go.Proofs.Ytekfkepkhcdohaa.netBounds
