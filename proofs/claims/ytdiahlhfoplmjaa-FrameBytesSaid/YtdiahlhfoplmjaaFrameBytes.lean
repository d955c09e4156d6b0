/- FrameBytes: which frames may be, any one's bytes, and that it is read again. -/
import Derived.Test.YtdiahlhfoplmjaaRows
import Derived.Test.YtdiahlhfoplmjaaAwake
import Derived.Test.YtdiahlhfoplmjaaFew
import Derived.Test.YtdiahlhfoplmjaaSameW
import Derived.Test.YtdiahlhfoplmjaaRightW
import Derived.Test.YtdiahlhfoplmjaaMany
import Derived.Test.YtdiahlhfoplmjaaBytesW
import Derived.Test.YtdiahlhfoplmjaaFrReadL
import Derived.Test.YtdiahlhfoplmjaaConvL
import Derived.Test.YtdiahlhfoplmjaaFrArg
import Derived.Deep.RegionHeld
namespace Go.Proofs.Ytdiahlhfoplmjaa.frameBytes
open Go.ChangeShapes Go.WideShapes Go.ChangeAt Go.RowKit
set_option linter.unusedVariables false

set_option maxRecDepth 100000 in
set_option maxHeartbeats 4000000 in
theorem walk (F : Nat → Int) (p : Option Addr) (n c : Nat) (T : Nat → Int) (size : Int) (w : World) (hT : SlF 2 w p n T) (hf : Fits64 T) (hn : n ≤ c) (hc : c ≤ maxLen) (hz : -9223372036854775808 ≤ size ∧ size ≤ 9223372036854775807) :
    Calls Try.prog 3 #[.agg (rowN 29 (frC F (.slice p n c))), .int .i64 size] w fun e w' => e = .returned (.bool true) ∧ Old w w' := by
  have Hs29 : Hid ((Try.prog.info? 27).map (·.size) = some 29) := Lib.hid (by kernel_rfl)
  have HA : Hid (FrB 27 (w.alloc (.cells (rowN 29 (frC F (.slice p n c))) 27)) w.heap.size F (.slice p n c)) := Lib.hid (FrB.new w F _)
  have HO : Hid (Old w (w.alloc (.cells (rowN 29 (frC F (.slice p n c))) 27))) := Lib.hid (Old.alloc _ _)
  have hfa := fun w => Few_any F p n c w hn hc
  have HAw := Lib.hid (fun w => awake_any w)
  obtain ⟨k5, hk5⟩ : ∃ k5, min n 5 = k5 := ⟨_, rfl⟩
  rw [hk5] at hfa
  have k5n : k5 ≤ n := by omega
  have k5c : k5 ≤ c := by omega
  have k55 : k5 ≤ 5 := by omega
  have k5m : k5 ≤ maxLen := by unfold maxLen at hc ⊢; omega
  have HFa := Lib.hid hfa
  have HT := Lib.hid hT
  have hr := fun (W : World) (h : Old w W) => FRight_any F p k5 c T W ((hT.old h).less k5n) hf k5c hc
  have hr2 := fun (W : World) (h : Old w W) => right_any F p k5 c T W ((hT.old h).less k5n) hf k5c hc
  have H1a : Hid ((rowN 29 (frC F (.slice p k5 c))).all (·.oneCell') = true) := Lib.hid (frC_one _ _ rfl)
  obtain ⟨z0, z1⟩ := hz
  clear hfa hk5 hn
  by_cases hP : FrP F k5 T
  · rw [decide_eq_true hP] at hr hr2
    have HR := Lib.hid hr
    have HR2 := Lib.hid hr2
    have HP := Lib.hid hP
    have HBy := Lib.hid (fun (W : World) sz (h : Old w W) => FBytes_yes F p k5 c T sz W ((hT.old h).less k5n) hf k5c hc hP)
    have hbt := fun (W : World) (h : Old w W) => Bits_any F p k5 c W hP.hw k55
    have hmy := fun (W : World) (h : Old w W) => many_any F p k5 c W hP.hw k55
    obtain ⟨cst, hcst⟩ : ∃ cst, costI F k5 = cst := ⟨_, rfl⟩
    have hcb := cost_bd hP
    have hlen := enc_len hP
    rw [hcst] at hbt hmy hcb hlen
    have HBt := Lib.hid hbt
    have HMy := Lib.hid hmy
    obtain ⟨cb0, cb1⟩ := hcb
    have HBw' := Lib.hid (fun (W : World) N (h : Old w W) hN hl => bytes_any F p k5 c T N W ((hT.old h).less k5n) k5c hc hP hN hl)
    have HRd' := Lib.hid (fun (W : World) v N (h : SlI W .u8 v (padded (enc F k5 T) N)) (hN : N ≤ 200) => FRead_any v (padded (enc F k5 T) N) W h (isBytes_padded _ _) (by rw [length_padded]; omega))
    have HLen := Lib.hid hlen
    clear hr hr2 hbt hmy hcst hT hf hP hc hlen
    by_cases hs : 200 < size
    · have HN : Hid ((200 : Int).toNat = 200) := Lib.hid rfl
      have HErr : Hid (bytesErr (enc F k5 T) 0 200 = 0) := Lib.hid (by
        have := HLen.out
        unfold bytesErr nb; rw [if_neg (by simp), if_neg (by omega), if_neg (by omega)])
      have HTl := Lib.hid (tells_padded (enc F k5 T) 200 (by have := HLen.out; omega))
      have HBw := Lib.hid (fun W h => HBw'.out W 200 h (by omega) (by have := HLen.out; omega))
      have HRd := Lib.hid (fun W v h => HRd'.out W v 200 h (by omega))
      clear HBw' HRd' HLen
      go_enter Try.func3, Try.ntmps3
      go_wp2_with (with_reducible refine wpList_load_row rfl 27 _ rfl w.heap.size rfl 27 (rowN 29 (frC F (.slice p n c))) (0, 0) _ HA.out.blk Try.underlying27 rfl (by rw [rowN_size]; exact Hs29.out) ?_)
      refine (HFa.out _).mono ?_
      rintro e w1 ⟨rfl, ho1⟩
      have HA1 := Lib.hid (HA.out.old ho1)
      have hr1 := row_ret HA1.out.blk (HO.out.trans ho1) (Nat.le_refl _) (rowN 29 (frC F (.slice p k5 c)))
      have HV := Lib.hid (HA1.out.row F (.slice p k5 c))
      have HOv := Lib.hid hr1.2
      clear ho1 hr1 HA HO HFa
      go_wp2_with (first | (with_reducible refine wpList_store_row rfl 27 _ _ rfl w.heap.size (rowN 29 (frC F (.slice p k5 c))) rfl rfl 27 _ HA1.out.blk (by rw [rowN_size]; exact Hs29.out) (by rw [rowN_size, rowN_size]) H1a.out ?_) | (with_reducible refine wpList_load_row rfl 27 _ rfl w.heap.size rfl 27 (rowN 29 (frC F (.slice p k5 c))) (0, 0) _ (HV.out.blk) Try.underlying27 rfl (by rw [rowN_size]; exact Hs29.out) ?_))
      obtain ⟨V, hV⟩ : ∃ V, V = w1.setRow w.heap.size (rowN 29 (frC F (.slice p k5 c))) := ⟨_, rfl⟩
      rw [← hV] at HV HOv ⊢
      clear hV HA1
      refine (HBy.out V (200) HOv.out).mono ?_
      rintro e w2 ⟨oo, hh⟩
      obtain ⟨g, rfl, hgb⟩ : ∃ g, e = .returned (.tuple #[.slice (some ⟨g, 0, none⟩) 200 200, .int .i64 0]) ∧ w2.heap[g]? = some (.cells ((padded (enc F k5 T) 200).map (Value.int .u8)).toArray 5 (0, 0)) := by
        rcases hh with ⟨h0, _⟩ | ⟨_, g, h1, _, h2⟩
        · exact absurd HErr.out h0
        · rw [HN.out] at h1 h2; exact ⟨g, h1, h2⟩
      have HSl := Lib.hid (row_SlI hgb (length_padded _ _) (by unfold maxLen; omega))
      clear hh hgb HErr
      have HSb := Lib.hid (fun W (h : Old w2 W) => HSl.out.old h)
      clear HSl
      have HK := Lib.hid (fun W (h : Old w2 W) => HV.out.old (oo.trans h))
      have HOb := Lib.hid (HOv.out.trans oo)
      clear oo HV HOv HBy
      go_wp2_with fail
      refine wp_region_held_drew (S := (fun w' => FrB 27 w' w.heap.size F (.slice p k5 c))) (by kernel_rfl) ?_ (fun hHeld => ?_)
      · (try dsimp only); exact HK.out _ ((Old.refl w2).drew)
      refine wpAnyH_take (i := 0) (oi := ⟨some _, _, _, _, _, _⟩) (v := .agg (rowN 29 (frC F (.slice p k5 c)))) rfl (by kernel_rfl) (by kernel_rfl) (by kernel_rfl) (fun _ _ _ h => h) (yieldsIf_load_row (by kernel_rfl) 27 (.tmp 2) rfl (w.heap.size) rfl 27 (rowN 29 (frC F (.slice p k5 c))) (0, 0) _ (fun _ h => (h).blk) Try.underlying27 rfl (by rw [rowN_size]; exact Hs29.out)) (by assumption) ?_; try simp only [Act.put, List.setIfInBounds_toArray, List.set_cons_zero, List.set_cons_succ]
      refine wpAnyH_take (i := 2) (oi := ⟨some _, _, _, _, _, _⟩) (v := .agg (rowN 29 (frC F (.slice p k5 c)))) rfl (by kernel_rfl) (by kernel_rfl) (by kernel_rfl) (fun _ _ _ h => h) (yieldsIf_load_row (by kernel_rfl) 27 (.tmp 2) rfl (w.heap.size) rfl 27 (rowN 29 (frC F (.slice p k5 c))) (0, 0) _ (fun _ h => (h).blk) Try.underlying27 rfl (by rw [rowN_size]; exact Hs29.out)) (by assumption) ?_; try simp only [Act.put, List.setIfInBounds_toArray, List.set_cons_zero, List.set_cons_succ]
      refine wpAnyH_ready (rs := [1]) (by kernel_rfl) (by simp) ?_
      refine AllReadyH.cons (o := ⟨_, _, _, _, _, _⟩) rfl (fun K hK => ?_) AllReadyH.nil
      go_simp
      refine (HR.out _ (HOb.out.trans ((Old.refl w2).drew))).mono ?_
      rintro e V1 ⟨rfl, o1⟩
      have o1' := ((Old.refl w2).drew).trans o1
      go_wp2_with fail
      refine hK.out _ _ ?_ (fun hHeld => ?_)
      · (try dsimp only); exact HK.out _ o1'
      clear hK K
      try simp only [Act.put, List.setIfInBounds_toArray, List.set_cons_zero, List.set_cons_succ]
      refine wpAnyH_ready (rs := [3]) (by kernel_rfl) (by simp) ?_
      refine AllReadyH.cons (o := ⟨_, _, _, _, _, _⟩) rfl (fun K hK => ?_) AllReadyH.nil
      go_simp
      refine (HR2.out _ (HOb.out.trans o1')).mono ?_
      rintro e V2 ⟨rfl, o2⟩
      have o2' := o1'.trans o2
      go_wp2_with fail
      refine hK.out _ _ ?_ (fun hHeld => ?_)
      · (try dsimp only); exact HK.out _ o2'
      clear hK K
      try simp only [Act.put, List.setIfInBounds_toArray, List.set_cons_zero, List.set_cons_succ]
      refine wpAnyH_take (i := 4) (oi := ⟨some _, _, _, _, _, _⟩) (v := ?_) rfl (by kernel_rfl) (by kernel_rfl) (by kernel_rfl) (fun _ _ _ h => h) (Or.inl ⟨by kernel_rfl, ?_⟩) (by assumption) ?_; rotate_left; (intro w hSw; (try dsimp only at hSw); go_simp; try with_reducible rfl); try simp only [Act.put, List.setIfInBounds_toArray, List.set_cons_zero, List.set_cons_succ]
      refine wpAnyH_done (by kernel_rfl) ?_ _
      have HKn := Lib.hid (fun W (h : Old V2 W) => HK.out W (o2'.trans h))
      have HObn := Lib.hid (HOb.out.trans o2')
      have HSbn := Lib.hid (fun W (h : Old V2 W) => HSb.out W (o2'.trans h))
      clear o1 o1' o2 o2' HK HOb HSb
      have HSb := HSbn
      clear HSbn
      obtain ⟨w3, rfl⟩ : ∃ X, X = V2 := ⟨_, rfl⟩
      have HK := HKn
      have HOb := HObn
      clear HKn HObn
      go_wp2_with (with_reducible refine wpList_load_row rfl 27 _ rfl w.heap.size rfl 27 (rowN 29 (frC F (.slice p k5 c))) (0, 0) _ ((HK.out _ (Old.refl _)).blk) Try.underlying27 rfl (by rw [rowN_size]; exact Hs29.out) ?_)
      refine (HR2.out _ HOb.out).mono ?_
      rintro e w4 ⟨rfl, oo⟩
      have HKn := Lib.hid (fun W (h : Old w4 W) => HK.out W (oo.trans h))
      have HObn := Lib.hid (HOb.out.trans oo)
      have HSbn := Lib.hid (fun W (h : Old w4 W) => HSb.out W (oo.trans h))
      clear oo HK HOb HSb
      have HSb := HSbn
      clear HSbn
      have HK := HKn
      have HOb := HObn
      clear HKn HObn
      go_wp2_with fail
      refine wp_region_held_drew (S := (fun w' => FrB 27 w' w.heap.size F (.slice p k5 c))) (by kernel_rfl) ?_ (fun hHeld => ?_)
      · (try dsimp only); exact HK.out _ ((Old.refl w4).drew)
      refine wpAnyH_take (i := 0) (oi := ⟨some _, _, _, _, _, _⟩) (v := .agg (rowN 29 (frC F (.slice p k5 c)))) rfl (by kernel_rfl) (by kernel_rfl) (by kernel_rfl) (fun _ _ _ h => h) (yieldsIf_load_row (by kernel_rfl) 27 (.tmp 2) rfl (w.heap.size) rfl 27 (rowN 29 (frC F (.slice p k5 c))) (0, 0) _ (fun _ h => (h).blk) Try.underlying27 rfl (by rw [rowN_size]; exact Hs29.out)) (by assumption) ?_; try simp only [Act.put, List.setIfInBounds_toArray, List.set_cons_zero, List.set_cons_succ]
      refine wpAnyH_take (i := 2) (oi := ⟨some _, _, _, _, _, _⟩) (v := .agg (rowN 29 (frC F (.slice p k5 c)))) rfl (by kernel_rfl) (by kernel_rfl) (by kernel_rfl) (fun _ _ _ h => h) (yieldsIf_load_row (by kernel_rfl) 27 (.tmp 2) rfl (w.heap.size) rfl 27 (rowN 29 (frC F (.slice p k5 c))) (0, 0) _ (fun _ h => (h).blk) Try.underlying27 rfl (by rw [rowN_size]; exact Hs29.out)) (by assumption) ?_; try simp only [Act.put, List.setIfInBounds_toArray, List.set_cons_zero, List.set_cons_succ]
      refine wpAnyH_ready (rs := [1]) (by kernel_rfl) (by simp) ?_
      refine AllReadyH.cons (o := ⟨_, _, _, _, _, _⟩) rfl (fun K hK => ?_) AllReadyH.nil
      go_simp
      refine (HBt.out _ (HOb.out.trans ((Old.refl w4).drew))).mono ?_
      rintro e V1 ⟨rfl, o1⟩
      have o1' := ((Old.refl w4).drew).trans o1
      go_wp2_with fail
      refine hK.out _ _ ?_ (fun hHeld => ?_)
      · (try dsimp only); exact HK.out _ o1'
      clear hK K
      try simp only [Act.put, List.setIfInBounds_toArray, List.set_cons_zero, List.set_cons_succ]
      refine wpAnyH_ready (rs := [3]) (by kernel_rfl) (by simp) ?_
      refine AllReadyH.cons (o := ⟨_, _, _, _, _, _⟩) rfl (fun K hK => ?_) AllReadyH.nil
      go_simp
      refine (HMy.out _ (HOb.out.trans o1')).mono ?_
      rintro e V2 ⟨rfl, o2⟩
      have o2' := o1'.trans o2
      go_wp2_with fail
      refine hK.out _ _ ?_ (fun hHeld => ?_)
      · (try dsimp only); exact HK.out _ o2'
      clear hK K
      try simp only [Act.put, List.setIfInBounds_toArray, List.set_cons_zero, List.set_cons_succ]
      refine wpAnyH_take (i := 4) (oi := ⟨some _, _, _, _, _, _⟩) (v := ?_) rfl (by kernel_rfl) (by kernel_rfl) (by kernel_rfl) (fun _ _ _ h => h) (Or.inl ⟨by kernel_rfl, ?_⟩) (by assumption) ?_; rotate_left; (intro w hSw; (try dsimp only at hSw); go_simp; try with_reducible rfl); try simp only [Act.put, List.setIfInBounds_toArray, List.set_cons_zero, List.set_cons_succ]
      refine wpAnyH_done (by kernel_rfl) ?_ _
      have HKn := Lib.hid (fun W (h : Old V2 W) => HK.out W (o2'.trans h))
      have HObn := Lib.hid (HOb.out.trans o2')
      have HSbn := Lib.hid (fun W (h : Old V2 W) => HSb.out W (o2'.trans h))
      clear o1 o1' o2 o2' HK HOb HSb
      have HSb := HSbn
      clear HSbn
      obtain ⟨w5, rfl⟩ : ∃ X, X = V2 := ⟨_, rfl⟩
      have HK := HKn
      have HOb := HObn
      clear HKn HObn
      go_wp2_with (with_reducible refine wpList_load_row rfl 27 _ rfl w.heap.size rfl 27 (rowN 29 (frC F (.slice p k5 c))) (0, 0) _ ((HK.out _ (Old.refl _)).blk) Try.underlying27 rfl (by rw [rowN_size]; exact Hs29.out) ?_)
      refine (HMy.out _ HOb.out).mono ?_
      rintro e w6 ⟨rfl, oo⟩
      have HKn := Lib.hid (fun W (h : Old w6 W) => HK.out W (oo.trans h))
      have HObn := Lib.hid (HOb.out.trans oo)
      have HSbn := Lib.hid (fun W (h : Old w6 W) => HSb.out W (oo.trans h))
      clear oo HK HOb HSb
      have HSb := HSbn
      clear HSbn
      have HK := HKn
      have HOb := HObn
      clear HKn HObn
      go_wp2_with fail
      refine (HRd.out _ _ (HSb.out _ (Old.refl _))).mono ?_
      rintro e w7 ⟨G, m, pg, cg, U, er, rfl, oo, hm, hcg, hU, hfU, _, _, _, hback⟩
      obtain ⟨rfl, hsame⟩ := hback F k5 T HP.out HTl.out
      have hs2 : sameP F k5 T G m U := ⟨hsame.1.symm, fun j hj => (hsame.2.1 j (by rw [hsame.1]; exact hj)).symm, fun k a1 a2 => (hsame.2.2 k a1 a2).symm⟩
      have ho8 : Old w6 (w7.alloc (.cells (rowN 29 (frC G (.slice pg m cg))) 27)) := oo.alloc' _
      have HK8 := Lib.hid (fun W (h : Old (w7.alloc (.cells (rowN 29 (frC G (.slice pg m cg))) 27)) W) => HK.out W (ho8.trans h))
      have HG8 := Lib.hid (fun W (h : Old (w7.alloc (.cells (rowN 29 (frC G (.slice pg m cg))) 27)) W) => (FrB.new (t := 27) w7 G (.slice pg m cg)).old h)
      have HS8 := Lib.hid (fun W (h : Old (w7.alloc (.cells (rowN 29 (frC G (.slice pg m cg))) 27)) W) => conv_slI (HSb.out W (ho8.trans h)))
      have HO8 := Lib.hid (HOb.out.trans ho8)
      have hsm := fun (W : World) (h : Old (w7.alloc (.cells (rowN 29 (frC G (.slice pg m cg))) 27)) W) => same_any F G p pg k5 m c cg T U W ((HT.out.old ((HOb.out.trans ho8).trans h)).less k5n) (hU.old ((Old.alloc w7 _).trans h)) k5m (Nat.le_trans hm hcg)
      rw [decide_eq_true hs2] at hsm
      have HSm := Lib.hid hsm
      have H1g : Hid ((rowN 29 (frC G (.slice pg m cg))).all (·.oneCell') = true) := Lib.hid (frC_one _ _ rfl)
      clear hsm ho8 hs2 hsame hback hU hfU oo HK HSb HOb HRd hm hcg
      obtain ⟨str, hstr⟩ : ∃ str, strOfNums (padded (enc F k5 T) 200) = str := ⟨_, rfl⟩
      rw [hstr] at HS8
      have HStr := Lib.hid hstr
      clear hstr
      go_wp2_with (with_reducible refine wpList_store_row rfl 27 _ _ rfl w7.heap.size (rowN 29 (frC G (.slice pg m cg))) rfl rfl 27 _ (heap_alloc_new _ _) (by rw [rowN_size]; exact Hs29.out) (by rw [rowN_size]; kernel_rfl) H1g.out ?_; rw [World.setRow_alloc_new])
      obtain ⟨w8, hw8⟩ : ∃ w8, w8 = w7.alloc (.cells (rowN 29 (frC G (.slice pg m cg))) 27) := ⟨_, rfl⟩
      rw [← hw8] at HK8 HG8 HS8 HO8 HSm ⊢
      clear hw8
      generalize w7.heap.size = bg at HG8 ⊢
      refine wp_region_held_drew (S := (fun w' => FrB 27 w' w.heap.size F (.slice p k5 c) ∧ FrB 27 w' bg G (.slice pg m cg) ∧ (convert 29 9 (.slice (some ⟨g, 0, none⟩) 200 200)).run Try.prog w' = .ok (.string str) w')) (by kernel_rfl) ?_ (fun hHeld => ?_)
      · (try dsimp only); exact ⟨HK8.out _ ((Old.refl w8).drew), HG8.out _ ((Old.refl w8).drew), HS8.out _ ((Old.refl w8).drew)⟩
      refine wpAnyH_take (i := 0) (oi := ⟨some _, _, _, _, _, _⟩) (v := ?_) rfl (by kernel_rfl) (by kernel_rfl) (by kernel_rfl) (fun _ _ _ h => h) (Or.inl ⟨by kernel_rfl, ?_⟩) (by assumption) ?_; rotate_left; (intro w hSw; (try dsimp only at hSw); go_simp; try with_reducible rfl); try simp only [Act.put, List.setIfInBounds_toArray, List.set_cons_zero, List.set_cons_succ]
      refine wpAnyH_take (i := 1) (oi := ⟨some _, _, _, _, _, _⟩) (v := ?_) rfl (by kernel_rfl) (by kernel_rfl) (by kernel_rfl) (fun _ _ _ h => h) (Or.inl ⟨by kernel_rfl, ?_⟩) (by assumption) ?_; rotate_left; (intro w hSw; (try dsimp only at hSw); go_simp; try with_reducible rfl); try simp only [Act.put, List.setIfInBounds_toArray, List.set_cons_zero, List.set_cons_succ]
      refine wpAnyH_take (i := 2) (oi := ⟨some _, _, _, _, _, _⟩) (v := ?_) rfl (by kernel_rfl) (by kernel_rfl) (by kernel_rfl) (fun _ _ _ h => h) (Or.inl ⟨by kernel_rfl, ?_⟩) (by assumption) ?_; rotate_left; (intro w hSw; (try dsimp only at hSw); go_simp; try with_reducible rfl); try simp only [Act.put, List.setIfInBounds_toArray, List.set_cons_zero, List.set_cons_succ]
      refine wpAnyH_take (i := 3) (oi := ⟨some _, _, _, _, _, _⟩) (v := ?_) rfl (by kernel_rfl) (by kernel_rfl) (by kernel_rfl) (fun _ _ _ h => h) (Or.inl ⟨by kernel_rfl, ?_⟩) (by assumption) ?_; rotate_left; (intro w hSw; (try dsimp only at hSw); go_simp; try with_reducible rfl); try simp only [Act.put, List.setIfInBounds_toArray, List.set_cons_zero, List.set_cons_succ]
      refine wpAnyH_take (i := 5) (oi := ⟨some _, _, _, _, _, _⟩) (v := .agg (rowN 29 (frC F (.slice p k5 c)))) rfl (by kernel_rfl) (by kernel_rfl) (by kernel_rfl) (fun _ _ _ h => h) (yieldsIf_load_row (by kernel_rfl) 27 (.tmp 2) rfl (w.heap.size) rfl 27 (rowN 29 (frC F (.slice p k5 c))) (0, 0) _ (fun _ h => (h.1).blk) Try.underlying27 rfl (by rw [rowN_size]; exact Hs29.out)) (by assumption) ?_; try simp only [Act.put, List.setIfInBounds_toArray, List.set_cons_zero, List.set_cons_succ]
      refine wpAnyH_take (i := 6) (oi := ⟨some _, _, _, _, _, _⟩) (v := ?_) rfl (by kernel_rfl) (by kernel_rfl) (by kernel_rfl) (fun _ _ _ h => h) (Or.inl ⟨by kernel_rfl, ?_⟩) (by assumption) ?_; rotate_left; (intro w hSw; (try dsimp only at hSw); go_simp; try with_reducible rfl); try simp only [Act.put, List.setIfInBounds_toArray, List.set_cons_zero, List.set_cons_succ]
      refine wpAnyH_take (i := 4) (oi := ⟨some _, _, _, _, _, _⟩) (v := .string str) rfl (by kernel_rfl) (by kernel_rfl) (by kernel_rfl) (fun _ _ _ h => h) (yieldsIf_conv (by kernel_rfl) 29 9 (.tmp 77) rfl (.string str) (fun _ h => h.2.2)) (by assumption) ?_; try simp only [Act.put, List.setIfInBounds_toArray, List.set_cons_zero, List.set_cons_succ]
      refine wpAnyH_ready (rs := [7]) (by kernel_rfl) (by simp) ?_
      refine AllReadyH.cons (o := ⟨_, _, _, _, _, _⟩) rfl (fun K hK => ?_) AllReadyH.nil
      go_simp
      refine (HBw.out _ (HO8.out.trans ((Old.refl w8).drew))).mono ?_
      rintro e V1 ⟨o1, g2, rfl, _, hg2⟩
      have hcv := conv_slI (row_SlI hg2 (length_padded _ _) (by unfold maxLen; omega))
      rw [HStr.out] at hcv
      have o1' := ((Old.refl w8).drew).trans o1
      clear hg2
      go_wp2_with fail
      refine hK.out _ _ ?_ (fun hHeld => ?_)
      · (try dsimp only); exact ⟨HK8.out _ o1', HG8.out _ o1', HS8.out _ o1'⟩
      clear hK K
      try simp only [Act.put, List.setIfInBounds_toArray, List.set_cons_zero, List.set_cons_succ]
      refine wpAnyH_ready (rs := [8]) (by kernel_rfl) (by simp) ?_
      refine AllReadyH.cons (o := ⟨_, _, _, _, _, _⟩) rfl (fun K hK => ?_) AllReadyH.nil
      go_simp
      go_wp2_with fail
      refine hK.out _ _ ?_ (fun hHeld => ?_)
      · (try dsimp only); exact ⟨HK8.out _ o1', HG8.out _ o1', HS8.out _ o1'⟩
      clear hK K
      try simp only [Act.put, List.setIfInBounds_toArray, List.set_cons_zero, List.set_cons_succ]
      clear hcv
      refine wpAnyH_take (i := 9) (oi := ⟨some _, _, _, _, _, _⟩) (v := ?_) rfl (by kernel_rfl) (by kernel_rfl) (by kernel_rfl) (fun _ _ _ h => h) (Or.inl ⟨by kernel_rfl, ?_⟩) (by assumption) ?_; rotate_left; (intro w hSw; (try dsimp only at hSw); go_simp; try with_reducible rfl); try simp only [Act.put, List.setIfInBounds_toArray, List.set_cons_zero, List.set_cons_succ]
      refine wpAnyH_take (i := 10) (oi := ⟨some _, _, _, _, _, _⟩) (v := ?_) rfl (by kernel_rfl) (by kernel_rfl) (by kernel_rfl) (fun _ _ _ h => h) (Or.inl ⟨by kernel_rfl, ?_⟩) (by assumption) ?_; rotate_left; (intro w hSw; (try dsimp only at hSw); go_simp; try with_reducible rfl); try simp only [Act.put, List.setIfInBounds_toArray, List.set_cons_zero, List.set_cons_succ]
      refine wpAnyH_take (i := 11) (oi := ⟨some _, _, _, _, _, _⟩) (v := ?_) rfl (by kernel_rfl) (by kernel_rfl) (by kernel_rfl) (fun _ _ _ h => h) (Or.inl ⟨by kernel_rfl, ?_⟩) (by assumption) ?_; rotate_left; (intro w hSw; (try dsimp only at hSw); go_simp; try with_reducible rfl); try simp only [Act.put, List.setIfInBounds_toArray, List.set_cons_zero, List.set_cons_succ]
      refine wpAnyH_take (i := 12) (oi := ⟨some _, _, _, _, _, _⟩) (v := ?_) rfl (by kernel_rfl) (by kernel_rfl) (by kernel_rfl) (fun _ _ _ h => h) (Or.inl ⟨by kernel_rfl, ?_⟩) (by assumption) ?_; rotate_left; (intro w hSw; (try dsimp only at hSw); go_simp; try with_reducible rfl); try simp only [Act.put, List.setIfInBounds_toArray, List.set_cons_zero, List.set_cons_succ]
      refine wpAnyH_take (i := 13) (oi := ⟨some _, _, _, _, _, _⟩) (v := ?_) rfl (by kernel_rfl) (by kernel_rfl) (by kernel_rfl) (fun _ _ _ h => h) (Or.inl ⟨by kernel_rfl, ?_⟩) (by assumption) ?_; rotate_left; (intro w hSw; (try dsimp only at hSw); go_simp; try with_reducible rfl); try simp only [Act.put, List.setIfInBounds_toArray, List.set_cons_zero, List.set_cons_succ]
      refine wpAnyH_take (i := 14) (oi := ⟨some _, _, _, _, _, _⟩) (v := ?_) rfl (by kernel_rfl) (by kernel_rfl) (by kernel_rfl) (fun _ _ _ h => h) (Or.inl ⟨by kernel_rfl, ?_⟩) (by assumption) ?_; rotate_left; (intro w hSw; (try dsimp only at hSw); go_simp; try with_reducible rfl); try simp only [Act.put, List.setIfInBounds_toArray, List.set_cons_zero, List.set_cons_succ]
      refine wpAnyH_take (i := 15) (oi := ⟨some _, _, _, _, _, _⟩) (v := ?_) rfl (by kernel_rfl) (by kernel_rfl) (by kernel_rfl) (fun _ _ _ h => h) (Or.inl ⟨by kernel_rfl, ?_⟩) (by assumption) ?_; rotate_left; (intro w hSw; (try dsimp only at hSw); go_simp; try with_reducible rfl); try simp only [Act.put, List.setIfInBounds_toArray, List.set_cons_zero, List.set_cons_succ]
      refine wpAnyH_take (i := 16) (oi := ⟨some _, _, _, _, _, _⟩) (v := .agg (rowN 29 (frC F (.slice p k5 c)))) rfl (by kernel_rfl) (by kernel_rfl) (by kernel_rfl) (fun _ _ _ h => h) (yieldsIf_load_row (by kernel_rfl) 27 (.tmp 2) rfl (w.heap.size) rfl 27 (rowN 29 (frC F (.slice p k5 c))) (0, 0) _ (fun _ h => (h.1).blk) Try.underlying27 rfl (by rw [rowN_size]; exact Hs29.out)) (by assumption) ?_; try simp only [Act.put, List.setIfInBounds_toArray, List.set_cons_zero, List.set_cons_succ]
      refine wpAnyH_take (i := 17) (oi := ⟨some _, _, _, _, _, _⟩) (v := .agg (rowN 29 (frC G (.slice pg m cg)))) rfl (by kernel_rfl) (by kernel_rfl) (by kernel_rfl) (fun _ _ _ h => h) (yieldsIf_load_row (by kernel_rfl) 27 (.tmp 7) rfl (bg) rfl 27 (rowN 29 (frC G (.slice pg m cg))) (0, 0) _ (fun _ h => (h.2.1).blk) Try.underlying27 rfl (by rw [rowN_size]; exact Hs29.out)) (by assumption) ?_; try simp only [Act.put, List.setIfInBounds_toArray, List.set_cons_zero, List.set_cons_succ]
      refine wpAnyH_ready (rs := [18]) (by kernel_rfl) (by simp) ?_
      refine AllReadyH.cons (o := ⟨_, _, _, _, _, _⟩) rfl (fun K hK => ?_) AllReadyH.nil
      go_simp
      refine (HSm.out _ o1').mono ?_
      rintro e V2 ⟨rfl, o2⟩
      have o2' := o1'.trans o2
      go_wp2_with fail
      refine hK.out _ _ ?_ (fun hHeld => ?_)
      · (try dsimp only); exact ⟨HK8.out _ o2', HG8.out _ o2', HS8.out _ o2'⟩
      clear hK K
      try simp only [Act.put, List.setIfInBounds_toArray, List.set_cons_zero, List.set_cons_succ]
      refine wpAnyH_take (i := 19) (oi := ⟨some _, _, _, _, _, _⟩) (v := ?_) rfl (by kernel_rfl) (by kernel_rfl) (by kernel_rfl) (fun _ _ _ h => h) (Or.inl ⟨by kernel_rfl, ?_⟩) (by assumption) ?_; rotate_left; (intro w hSw; (try dsimp only at hSw); go_simp; try with_reducible rfl); try simp only [Act.put, List.setIfInBounds_toArray, List.set_cons_zero, List.set_cons_succ]
      refine wpAnyH_take (i := 20) (oi := ⟨some _, _, _, _, _, _⟩) (v := ?_) rfl (by kernel_rfl) (by kernel_rfl) (by kernel_rfl) (fun _ _ _ h => h) (Or.inl ⟨by kernel_rfl, ?_⟩) (by assumption) ?_; rotate_left; (intro w hSw; (try dsimp only at hSw); go_simp; try with_reducible rfl); try simp only [Act.put, List.setIfInBounds_toArray, List.set_cons_zero, List.set_cons_succ]
      refine wpAnyH_ready (rs := [21]) (by kernel_rfl) (by simp) ?_
      refine AllReadyH.cons (o := ⟨_, _, _, _, _, _⟩) rfl (fun K hK => ?_) AllReadyH.nil
      go_simp
      refine (HAw.out _).mono ?_
      rintro e V3 ⟨rfl, o3⟩
      have o3' := o2'.trans o3
      go_wp2_with fail
      refine hK.out _ _ ?_ (fun hHeld => ?_)
      · (try dsimp only); exact ⟨HK8.out _ o3', HG8.out _ o3', HS8.out _ o3'⟩
      clear hK K
      try simp only [Act.put, List.setIfInBounds_toArray, List.set_cons_zero, List.set_cons_succ]
      refine wpAnyH_take (i := 22) (oi := ⟨some _, _, _, _, _, _⟩) (v := ?_) rfl (by kernel_rfl) (by kernel_rfl) (by kernel_rfl) (fun _ _ _ h => h) (Or.inl ⟨by kernel_rfl, ?_⟩) (by assumption) ?_; rotate_left; (intro w hSw; (try dsimp only at hSw); go_simp; try with_reducible rfl); try simp only [Act.put, List.setIfInBounds_toArray, List.set_cons_zero, List.set_cons_succ]
      refine wpAnyH_take (i := 23) (oi := ⟨some _, _, _, _, _, _⟩) (v := ?_) rfl (by kernel_rfl) (by kernel_rfl) (by kernel_rfl) (fun _ _ _ h => h) (Or.inl ⟨by kernel_rfl, ?_⟩) (by assumption) ?_; rotate_left; (intro w hSw; (try dsimp only at hSw); go_simp; try with_reducible rfl); try simp only [Act.put, List.setIfInBounds_toArray, List.set_cons_zero, List.set_cons_succ]
      refine wpAnyH_done (by kernel_rfl) ?_ _
      have HOz := Lib.hid (HO8.out.trans o3')
      clear o1 o1' o2 o2' o3 o3' HK8 HG8 HS8 HSm HBw HAw
      go_wp2_with fail
      go_ret
      exact ⟨rfl, HOz.out⟩
    · have hs' : size ≤ 200 := by omega
      clear hs
      by_cases hneg : size < 0
      · have HErr : Hid (bytesErr (enc F k5 T) 0 size = 1) := Lib.hid (by
          unfold bytesErr; rw [if_neg (by simp), if_pos (Or.inl hneg)])
        clear HBw' HRd' HLen
        go_enter Try.func3, Try.ntmps3
        go_wp2_with (with_reducible refine wpList_load_row rfl 27 _ rfl w.heap.size rfl 27 (rowN 29 (frC F (.slice p n c))) (0, 0) _ HA.out.blk Try.underlying27 rfl (by rw [rowN_size]; exact Hs29.out) ?_)
        refine (HFa.out _).mono ?_
        rintro e w1 ⟨rfl, ho1⟩
        have HA1 := Lib.hid (HA.out.old ho1)
        have hr1 := row_ret HA1.out.blk (HO.out.trans ho1) (Nat.le_refl _) (rowN 29 (frC F (.slice p k5 c)))
        have HV := Lib.hid (HA1.out.row F (.slice p k5 c))
        have HOv := Lib.hid hr1.2
        clear ho1 hr1 HA HO HFa
        go_wp2_with (first | (with_reducible refine wpList_store_row rfl 27 _ _ rfl w.heap.size (rowN 29 (frC F (.slice p k5 c))) rfl rfl 27 _ HA1.out.blk (by rw [rowN_size]; exact Hs29.out) (by rw [rowN_size, rowN_size]) H1a.out ?_) | (with_reducible refine wpList_load_row rfl 27 _ rfl w.heap.size rfl 27 (rowN 29 (frC F (.slice p k5 c))) (0, 0) _ (HV.out.blk) Try.underlying27 rfl (by rw [rowN_size]; exact Hs29.out) ?_))
        obtain ⟨V, hV⟩ : ∃ V, V = w1.setRow w.heap.size (rowN 29 (frC F (.slice p k5 c))) := ⟨_, rfl⟩
        rw [← hV] at HV HOv ⊢
        clear hV HA1
        refine (HBy.out V (size) HOv.out).mono ?_
        rintro e w2 ⟨oo, hh⟩
        obtain ⟨_, rfl⟩ : bytesErr (enc F k5 T) 0 (size) ≠ 0 ∧ e = .returned (.tuple #[.slice none 0 0, .int .i64 1]) := by
          rcases hh with ⟨h0, h1⟩ | ⟨h0, _⟩
          · exact ⟨h0, by rw [h1, HErr.out]⟩
          · rw [HErr.out] at h0; exact absurd h0 (by decide)
        clear hh HErr
        have HK := Lib.hid (fun W (h : Old w2 W) => HV.out.old (oo.trans h))
        have HOb := Lib.hid (HOv.out.trans oo)
        clear oo HV HOv HBy
        go_wp2_with fail
        refine wp_region_held_drew (S := (fun w' => FrB 27 w' w.heap.size F (.slice p k5 c))) (by kernel_rfl) ?_ (fun hHeld => ?_)
        · (try dsimp only); exact HK.out _ ((Old.refl w2).drew)
        refine wpAnyH_take (i := 0) (oi := ⟨some _, _, _, _, _, _⟩) (v := .agg (rowN 29 (frC F (.slice p k5 c)))) rfl (by kernel_rfl) (by kernel_rfl) (by kernel_rfl) (fun _ _ _ h => h) (yieldsIf_load_row (by kernel_rfl) 27 (.tmp 2) rfl (w.heap.size) rfl 27 (rowN 29 (frC F (.slice p k5 c))) (0, 0) _ (fun _ h => (h).blk) Try.underlying27 rfl (by rw [rowN_size]; exact Hs29.out)) (by assumption) ?_; try simp only [Act.put, List.setIfInBounds_toArray, List.set_cons_zero, List.set_cons_succ]
        refine wpAnyH_take (i := 2) (oi := ⟨some _, _, _, _, _, _⟩) (v := .agg (rowN 29 (frC F (.slice p k5 c)))) rfl (by kernel_rfl) (by kernel_rfl) (by kernel_rfl) (fun _ _ _ h => h) (yieldsIf_load_row (by kernel_rfl) 27 (.tmp 2) rfl (w.heap.size) rfl 27 (rowN 29 (frC F (.slice p k5 c))) (0, 0) _ (fun _ h => (h).blk) Try.underlying27 rfl (by rw [rowN_size]; exact Hs29.out)) (by assumption) ?_; try simp only [Act.put, List.setIfInBounds_toArray, List.set_cons_zero, List.set_cons_succ]
        refine wpAnyH_ready (rs := [1]) (by kernel_rfl) (by simp) ?_
        refine AllReadyH.cons (o := ⟨_, _, _, _, _, _⟩) rfl (fun K hK => ?_) AllReadyH.nil
        go_simp
        refine (HR.out _ (HOb.out.trans ((Old.refl w2).drew))).mono ?_
        rintro e V1 ⟨rfl, o1⟩
        have o1' := ((Old.refl w2).drew).trans o1
        go_wp2_with fail
        refine hK.out _ _ ?_ (fun hHeld => ?_)
        · (try dsimp only); exact HK.out _ o1'
        clear hK K
        try simp only [Act.put, List.setIfInBounds_toArray, List.set_cons_zero, List.set_cons_succ]
        refine wpAnyH_ready (rs := [3]) (by kernel_rfl) (by simp) ?_
        refine AllReadyH.cons (o := ⟨_, _, _, _, _, _⟩) rfl (fun K hK => ?_) AllReadyH.nil
        go_simp
        refine (HR2.out _ (HOb.out.trans o1')).mono ?_
        rintro e V2 ⟨rfl, o2⟩
        have o2' := o1'.trans o2
        go_wp2_with fail
        refine hK.out _ _ ?_ (fun hHeld => ?_)
        · (try dsimp only); exact HK.out _ o2'
        clear hK K
        try simp only [Act.put, List.setIfInBounds_toArray, List.set_cons_zero, List.set_cons_succ]
        refine wpAnyH_take (i := 4) (oi := ⟨some _, _, _, _, _, _⟩) (v := ?_) rfl (by kernel_rfl) (by kernel_rfl) (by kernel_rfl) (fun _ _ _ h => h) (Or.inl ⟨by kernel_rfl, ?_⟩) (by assumption) ?_; rotate_left; (intro w hSw; (try dsimp only at hSw); go_simp; try with_reducible rfl); try simp only [Act.put, List.setIfInBounds_toArray, List.set_cons_zero, List.set_cons_succ]
        refine wpAnyH_done (by kernel_rfl) ?_ _
        have HKn := Lib.hid (fun W (h : Old V2 W) => HK.out W (o2'.trans h))
        have HObn := Lib.hid (HOb.out.trans o2')
        clear o1 o1' o2 o2' HK HOb
        obtain ⟨w3, rfl⟩ : ∃ X, X = V2 := ⟨_, rfl⟩
        have HK := HKn
        have HOb := HObn
        clear HKn HObn
        go_wp2_with (with_reducible refine wpList_load_row rfl 27 _ rfl w.heap.size rfl 27 (rowN 29 (frC F (.slice p k5 c))) (0, 0) _ ((HK.out _ (Old.refl _)).blk) Try.underlying27 rfl (by rw [rowN_size]; exact Hs29.out) ?_)
        refine (HR2.out _ HOb.out).mono ?_
        rintro e w4 ⟨rfl, oo⟩
        have HKn := Lib.hid (fun W (h : Old w4 W) => HK.out W (oo.trans h))
        have HObn := Lib.hid (HOb.out.trans oo)
        clear oo HK HOb
        have HK := HKn
        have HOb := HObn
        clear HKn HObn
        go_wp2_with fail
        refine wp_region_held_drew (S := (fun w' => FrB 27 w' w.heap.size F (.slice p k5 c))) (by kernel_rfl) ?_ (fun hHeld => ?_)
        · (try dsimp only); exact HK.out _ ((Old.refl w4).drew)
        refine wpAnyH_take (i := 0) (oi := ⟨some _, _, _, _, _, _⟩) (v := .agg (rowN 29 (frC F (.slice p k5 c)))) rfl (by kernel_rfl) (by kernel_rfl) (by kernel_rfl) (fun _ _ _ h => h) (yieldsIf_load_row (by kernel_rfl) 27 (.tmp 2) rfl (w.heap.size) rfl 27 (rowN 29 (frC F (.slice p k5 c))) (0, 0) _ (fun _ h => (h).blk) Try.underlying27 rfl (by rw [rowN_size]; exact Hs29.out)) (by assumption) ?_; try simp only [Act.put, List.setIfInBounds_toArray, List.set_cons_zero, List.set_cons_succ]
        refine wpAnyH_take (i := 2) (oi := ⟨some _, _, _, _, _, _⟩) (v := .agg (rowN 29 (frC F (.slice p k5 c)))) rfl (by kernel_rfl) (by kernel_rfl) (by kernel_rfl) (fun _ _ _ h => h) (yieldsIf_load_row (by kernel_rfl) 27 (.tmp 2) rfl (w.heap.size) rfl 27 (rowN 29 (frC F (.slice p k5 c))) (0, 0) _ (fun _ h => (h).blk) Try.underlying27 rfl (by rw [rowN_size]; exact Hs29.out)) (by assumption) ?_; try simp only [Act.put, List.setIfInBounds_toArray, List.set_cons_zero, List.set_cons_succ]
        refine wpAnyH_ready (rs := [1]) (by kernel_rfl) (by simp) ?_
        refine AllReadyH.cons (o := ⟨_, _, _, _, _, _⟩) rfl (fun K hK => ?_) AllReadyH.nil
        go_simp
        refine (HBt.out _ (HOb.out.trans ((Old.refl w4).drew))).mono ?_
        rintro e V1 ⟨rfl, o1⟩
        have o1' := ((Old.refl w4).drew).trans o1
        go_wp2_with fail
        refine hK.out _ _ ?_ (fun hHeld => ?_)
        · (try dsimp only); exact HK.out _ o1'
        clear hK K
        try simp only [Act.put, List.setIfInBounds_toArray, List.set_cons_zero, List.set_cons_succ]
        refine wpAnyH_ready (rs := [3]) (by kernel_rfl) (by simp) ?_
        refine AllReadyH.cons (o := ⟨_, _, _, _, _, _⟩) rfl (fun K hK => ?_) AllReadyH.nil
        go_simp
        refine (HMy.out _ (HOb.out.trans o1')).mono ?_
        rintro e V2 ⟨rfl, o2⟩
        have o2' := o1'.trans o2
        go_wp2_with fail
        refine hK.out _ _ ?_ (fun hHeld => ?_)
        · (try dsimp only); exact HK.out _ o2'
        clear hK K
        try simp only [Act.put, List.setIfInBounds_toArray, List.set_cons_zero, List.set_cons_succ]
        refine wpAnyH_take (i := 4) (oi := ⟨some _, _, _, _, _, _⟩) (v := ?_) rfl (by kernel_rfl) (by kernel_rfl) (by kernel_rfl) (fun _ _ _ h => h) (Or.inl ⟨by kernel_rfl, ?_⟩) (by assumption) ?_; rotate_left; (intro w hSw; (try dsimp only at hSw); go_simp; try with_reducible rfl); try simp only [Act.put, List.setIfInBounds_toArray, List.set_cons_zero, List.set_cons_succ]
        refine wpAnyH_done (by kernel_rfl) ?_ _
        have HKn := Lib.hid (fun W (h : Old V2 W) => HK.out W (o2'.trans h))
        have HObn := Lib.hid (HOb.out.trans o2')
        clear o1 o1' o2 o2' HK HOb
        obtain ⟨w5, rfl⟩ : ∃ X, X = V2 := ⟨_, rfl⟩
        have HK := HKn
        have HOb := HObn
        clear HKn HObn
        go_wp2_with fail
        refine (HAw.out _).mono ?_
        rintro e wz ⟨rfl, oo⟩
        have HOz := Lib.hid (HOb.out.trans oo)
        clear oo HOb HK
        go_wp2_with fail
        go_ret
        exact ⟨rfl, HOz.out⟩
      · have hpos : 0 ≤ size := by omega
        clear hneg
        by_cases hl : 8 * size < cst
        · have HErr : Hid (bytesErr (enc F k5 T) 0 size = 3) := Lib.hid (by
            have := HLen.out
            unfold bytesErr nb; rw [if_neg (by simp), if_neg (by omega), if_pos (by omega)])
          clear HBw' HRd' HLen
          go_enter Try.func3, Try.ntmps3
          go_wp2_with (with_reducible refine wpList_load_row rfl 27 _ rfl w.heap.size rfl 27 (rowN 29 (frC F (.slice p n c))) (0, 0) _ HA.out.blk Try.underlying27 rfl (by rw [rowN_size]; exact Hs29.out) ?_)
          refine (HFa.out _).mono ?_
          rintro e w1 ⟨rfl, ho1⟩
          have HA1 := Lib.hid (HA.out.old ho1)
          have hr1 := row_ret HA1.out.blk (HO.out.trans ho1) (Nat.le_refl _) (rowN 29 (frC F (.slice p k5 c)))
          have HV := Lib.hid (HA1.out.row F (.slice p k5 c))
          have HOv := Lib.hid hr1.2
          clear ho1 hr1 HA HO HFa
          go_wp2_with (first | (with_reducible refine wpList_store_row rfl 27 _ _ rfl w.heap.size (rowN 29 (frC F (.slice p k5 c))) rfl rfl 27 _ HA1.out.blk (by rw [rowN_size]; exact Hs29.out) (by rw [rowN_size, rowN_size]) H1a.out ?_) | (with_reducible refine wpList_load_row rfl 27 _ rfl w.heap.size rfl 27 (rowN 29 (frC F (.slice p k5 c))) (0, 0) _ (HV.out.blk) Try.underlying27 rfl (by rw [rowN_size]; exact Hs29.out) ?_))
          obtain ⟨V, hV⟩ : ∃ V, V = w1.setRow w.heap.size (rowN 29 (frC F (.slice p k5 c))) := ⟨_, rfl⟩
          rw [← hV] at HV HOv ⊢
          clear hV HA1
          refine (HBy.out V (size) HOv.out).mono ?_
          rintro e w2 ⟨oo, hh⟩
          obtain ⟨_, rfl⟩ : bytesErr (enc F k5 T) 0 (size) ≠ 0 ∧ e = .returned (.tuple #[.slice none 0 0, .int .i64 3]) := by
            rcases hh with ⟨h0, h1⟩ | ⟨h0, _⟩
            · exact ⟨h0, by rw [h1, HErr.out]⟩
            · rw [HErr.out] at h0; exact absurd h0 (by decide)
          clear hh HErr
          have HK := Lib.hid (fun W (h : Old w2 W) => HV.out.old (oo.trans h))
          have HOb := Lib.hid (HOv.out.trans oo)
          clear oo HV HOv HBy
          go_wp2_with fail
          refine wp_region_held_drew (S := (fun w' => FrB 27 w' w.heap.size F (.slice p k5 c))) (by kernel_rfl) ?_ (fun hHeld => ?_)
          · (try dsimp only); exact HK.out _ ((Old.refl w2).drew)
          refine wpAnyH_take (i := 0) (oi := ⟨some _, _, _, _, _, _⟩) (v := .agg (rowN 29 (frC F (.slice p k5 c)))) rfl (by kernel_rfl) (by kernel_rfl) (by kernel_rfl) (fun _ _ _ h => h) (yieldsIf_load_row (by kernel_rfl) 27 (.tmp 2) rfl (w.heap.size) rfl 27 (rowN 29 (frC F (.slice p k5 c))) (0, 0) _ (fun _ h => (h).blk) Try.underlying27 rfl (by rw [rowN_size]; exact Hs29.out)) (by assumption) ?_; try simp only [Act.put, List.setIfInBounds_toArray, List.set_cons_zero, List.set_cons_succ]
          refine wpAnyH_take (i := 2) (oi := ⟨some _, _, _, _, _, _⟩) (v := .agg (rowN 29 (frC F (.slice p k5 c)))) rfl (by kernel_rfl) (by kernel_rfl) (by kernel_rfl) (fun _ _ _ h => h) (yieldsIf_load_row (by kernel_rfl) 27 (.tmp 2) rfl (w.heap.size) rfl 27 (rowN 29 (frC F (.slice p k5 c))) (0, 0) _ (fun _ h => (h).blk) Try.underlying27 rfl (by rw [rowN_size]; exact Hs29.out)) (by assumption) ?_; try simp only [Act.put, List.setIfInBounds_toArray, List.set_cons_zero, List.set_cons_succ]
          refine wpAnyH_ready (rs := [1]) (by kernel_rfl) (by simp) ?_
          refine AllReadyH.cons (o := ⟨_, _, _, _, _, _⟩) rfl (fun K hK => ?_) AllReadyH.nil
          go_simp
          refine (HR.out _ (HOb.out.trans ((Old.refl w2).drew))).mono ?_
          rintro e V1 ⟨rfl, o1⟩
          have o1' := ((Old.refl w2).drew).trans o1
          go_wp2_with fail
          refine hK.out _ _ ?_ (fun hHeld => ?_)
          · (try dsimp only); exact HK.out _ o1'
          clear hK K
          try simp only [Act.put, List.setIfInBounds_toArray, List.set_cons_zero, List.set_cons_succ]
          refine wpAnyH_ready (rs := [3]) (by kernel_rfl) (by simp) ?_
          refine AllReadyH.cons (o := ⟨_, _, _, _, _, _⟩) rfl (fun K hK => ?_) AllReadyH.nil
          go_simp
          refine (HR2.out _ (HOb.out.trans o1')).mono ?_
          rintro e V2 ⟨rfl, o2⟩
          have o2' := o1'.trans o2
          go_wp2_with fail
          refine hK.out _ _ ?_ (fun hHeld => ?_)
          · (try dsimp only); exact HK.out _ o2'
          clear hK K
          try simp only [Act.put, List.setIfInBounds_toArray, List.set_cons_zero, List.set_cons_succ]
          refine wpAnyH_take (i := 4) (oi := ⟨some _, _, _, _, _, _⟩) (v := ?_) rfl (by kernel_rfl) (by kernel_rfl) (by kernel_rfl) (fun _ _ _ h => h) (Or.inl ⟨by kernel_rfl, ?_⟩) (by assumption) ?_; rotate_left; (intro w hSw; (try dsimp only at hSw); go_simp; try with_reducible rfl); try simp only [Act.put, List.setIfInBounds_toArray, List.set_cons_zero, List.set_cons_succ]
          refine wpAnyH_done (by kernel_rfl) ?_ _
          have HKn := Lib.hid (fun W (h : Old V2 W) => HK.out W (o2'.trans h))
          have HObn := Lib.hid (HOb.out.trans o2')
          clear o1 o1' o2 o2' HK HOb
          obtain ⟨w3, rfl⟩ : ∃ X, X = V2 := ⟨_, rfl⟩
          have HK := HKn
          have HOb := HObn
          clear HKn HObn
          go_wp2_with (with_reducible refine wpList_load_row rfl 27 _ rfl w.heap.size rfl 27 (rowN 29 (frC F (.slice p k5 c))) (0, 0) _ ((HK.out _ (Old.refl _)).blk) Try.underlying27 rfl (by rw [rowN_size]; exact Hs29.out) ?_)
          refine (HR2.out _ HOb.out).mono ?_
          rintro e w4 ⟨rfl, oo⟩
          have HKn := Lib.hid (fun W (h : Old w4 W) => HK.out W (oo.trans h))
          have HObn := Lib.hid (HOb.out.trans oo)
          clear oo HK HOb
          have HK := HKn
          have HOb := HObn
          clear HKn HObn
          go_wp2_with fail
          refine wp_region_held_drew (S := (fun w' => FrB 27 w' w.heap.size F (.slice p k5 c))) (by kernel_rfl) ?_ (fun hHeld => ?_)
          · (try dsimp only); exact HK.out _ ((Old.refl w4).drew)
          refine wpAnyH_take (i := 0) (oi := ⟨some _, _, _, _, _, _⟩) (v := .agg (rowN 29 (frC F (.slice p k5 c)))) rfl (by kernel_rfl) (by kernel_rfl) (by kernel_rfl) (fun _ _ _ h => h) (yieldsIf_load_row (by kernel_rfl) 27 (.tmp 2) rfl (w.heap.size) rfl 27 (rowN 29 (frC F (.slice p k5 c))) (0, 0) _ (fun _ h => (h).blk) Try.underlying27 rfl (by rw [rowN_size]; exact Hs29.out)) (by assumption) ?_; try simp only [Act.put, List.setIfInBounds_toArray, List.set_cons_zero, List.set_cons_succ]
          refine wpAnyH_take (i := 2) (oi := ⟨some _, _, _, _, _, _⟩) (v := .agg (rowN 29 (frC F (.slice p k5 c)))) rfl (by kernel_rfl) (by kernel_rfl) (by kernel_rfl) (fun _ _ _ h => h) (yieldsIf_load_row (by kernel_rfl) 27 (.tmp 2) rfl (w.heap.size) rfl 27 (rowN 29 (frC F (.slice p k5 c))) (0, 0) _ (fun _ h => (h).blk) Try.underlying27 rfl (by rw [rowN_size]; exact Hs29.out)) (by assumption) ?_; try simp only [Act.put, List.setIfInBounds_toArray, List.set_cons_zero, List.set_cons_succ]
          refine wpAnyH_ready (rs := [1]) (by kernel_rfl) (by simp) ?_
          refine AllReadyH.cons (o := ⟨_, _, _, _, _, _⟩) rfl (fun K hK => ?_) AllReadyH.nil
          go_simp
          refine (HBt.out _ (HOb.out.trans ((Old.refl w4).drew))).mono ?_
          rintro e V1 ⟨rfl, o1⟩
          have o1' := ((Old.refl w4).drew).trans o1
          go_wp2_with fail
          refine hK.out _ _ ?_ (fun hHeld => ?_)
          · (try dsimp only); exact HK.out _ o1'
          clear hK K
          try simp only [Act.put, List.setIfInBounds_toArray, List.set_cons_zero, List.set_cons_succ]
          refine wpAnyH_ready (rs := [3]) (by kernel_rfl) (by simp) ?_
          refine AllReadyH.cons (o := ⟨_, _, _, _, _, _⟩) rfl (fun K hK => ?_) AllReadyH.nil
          go_simp
          refine (HMy.out _ (HOb.out.trans o1')).mono ?_
          rintro e V2 ⟨rfl, o2⟩
          have o2' := o1'.trans o2
          go_wp2_with fail
          refine hK.out _ _ ?_ (fun hHeld => ?_)
          · (try dsimp only); exact HK.out _ o2'
          clear hK K
          try simp only [Act.put, List.setIfInBounds_toArray, List.set_cons_zero, List.set_cons_succ]
          refine wpAnyH_take (i := 4) (oi := ⟨some _, _, _, _, _, _⟩) (v := ?_) rfl (by kernel_rfl) (by kernel_rfl) (by kernel_rfl) (fun _ _ _ h => h) (Or.inl ⟨by kernel_rfl, ?_⟩) (by assumption) ?_; rotate_left; (intro w hSw; (try dsimp only at hSw); go_simp; try with_reducible rfl); try simp only [Act.put, List.setIfInBounds_toArray, List.set_cons_zero, List.set_cons_succ]
          refine wpAnyH_done (by kernel_rfl) ?_ _
          have HKn := Lib.hid (fun W (h : Old V2 W) => HK.out W (o2'.trans h))
          have HObn := Lib.hid (HOb.out.trans o2')
          clear o1 o1' o2 o2' HK HOb
          obtain ⟨w5, rfl⟩ : ∃ X, X = V2 := ⟨_, rfl⟩
          have HK := HKn
          have HOb := HObn
          clear HKn HObn
          go_wp2_with (with_reducible refine wpList_load_row rfl 27 _ rfl w.heap.size rfl 27 (rowN 29 (frC F (.slice p k5 c))) (0, 0) _ ((HK.out _ (Old.refl _)).blk) Try.underlying27 rfl (by rw [rowN_size]; exact Hs29.out) ?_)
          refine (HMy.out _ HOb.out).mono ?_
          rintro e w6 ⟨rfl, oo⟩
          have HKn := Lib.hid (fun W (h : Old w6 W) => HK.out W (oo.trans h))
          have HObn := Lib.hid (HOb.out.trans oo)
          clear oo HK HOb
          have HK := HKn
          have HOb := HObn
          clear HKn HObn
          go_wp2_with fail
          refine (HAw.out _).mono ?_
          rintro e wz ⟨rfl, oo⟩
          have HOz := Lib.hid (HOb.out.trans oo)
          clear oo HOb HK
          go_wp2_with fail
          go_ret
          exact ⟨rfl, HOz.out⟩
        · have hl' : cst ≤ 8 * size := by omega
          clear hl
          obtain ⟨N, rfl⟩ := Int.eq_ofNat_of_zero_le hpos
          have hN200 : N ≤ 200 := by omega
          have HN : Hid (((N : Nat) : Int).toNat = N) := Lib.hid (Int.toNat_natCast N)
          have HErr : Hid (bytesErr (enc F k5 T) 0 N = 0) := Lib.hid (by
            have := HLen.out
            unfold bytesErr nb; rw [if_neg (by simp), if_neg (by omega), if_neg (by omega)])
          have HTl := Lib.hid (tells_padded (enc F k5 T) N (by have := HLen.out; omega))
          have HBw := Lib.hid (fun W h => HBw'.out W N h hN200 (by have := HLen.out; omega))
          have HRd := Lib.hid (fun W v h => HRd'.out W v N h hN200)
          clear HBw' HRd' HLen
          go_enter Try.func3, Try.ntmps3
          go_wp2_with (with_reducible refine wpList_load_row rfl 27 _ rfl w.heap.size rfl 27 (rowN 29 (frC F (.slice p n c))) (0, 0) _ HA.out.blk Try.underlying27 rfl (by rw [rowN_size]; exact Hs29.out) ?_)
          refine (HFa.out _).mono ?_
          rintro e w1 ⟨rfl, ho1⟩
          have HA1 := Lib.hid (HA.out.old ho1)
          have hr1 := row_ret HA1.out.blk (HO.out.trans ho1) (Nat.le_refl _) (rowN 29 (frC F (.slice p k5 c)))
          have HV := Lib.hid (HA1.out.row F (.slice p k5 c))
          have HOv := Lib.hid hr1.2
          clear ho1 hr1 HA HO HFa
          go_wp2_with (first | (with_reducible refine wpList_store_row rfl 27 _ _ rfl w.heap.size (rowN 29 (frC F (.slice p k5 c))) rfl rfl 27 _ HA1.out.blk (by rw [rowN_size]; exact Hs29.out) (by rw [rowN_size, rowN_size]) H1a.out ?_) | (with_reducible refine wpList_load_row rfl 27 _ rfl w.heap.size rfl 27 (rowN 29 (frC F (.slice p k5 c))) (0, 0) _ (HV.out.blk) Try.underlying27 rfl (by rw [rowN_size]; exact Hs29.out) ?_))
          obtain ⟨V, hV⟩ : ∃ V, V = w1.setRow w.heap.size (rowN 29 (frC F (.slice p k5 c))) := ⟨_, rfl⟩
          rw [← hV] at HV HOv ⊢
          clear hV HA1
          refine (HBy.out V (N) HOv.out).mono ?_
          rintro e w2 ⟨oo, hh⟩
          obtain ⟨g, rfl, hgb⟩ : ∃ g, e = .returned (.tuple #[.slice (some ⟨g, 0, none⟩) N N, .int .i64 0]) ∧ w2.heap[g]? = some (.cells ((padded (enc F k5 T) N).map (Value.int .u8)).toArray 5 (0, 0)) := by
            rcases hh with ⟨h0, _⟩ | ⟨_, g, h1, _, h2⟩
            · exact absurd HErr.out h0
            · rw [HN.out] at h1 h2; exact ⟨g, h1, h2⟩
          have HSl := Lib.hid (row_SlI hgb (length_padded _ _) (by unfold maxLen; omega))
          clear hh hgb HErr
          have HSb := Lib.hid (fun W (h : Old w2 W) => HSl.out.old h)
          clear HSl
          have HK := Lib.hid (fun W (h : Old w2 W) => HV.out.old (oo.trans h))
          have HOb := Lib.hid (HOv.out.trans oo)
          clear oo HV HOv HBy
          go_wp2_with fail
          refine wp_region_held_drew (S := (fun w' => FrB 27 w' w.heap.size F (.slice p k5 c))) (by kernel_rfl) ?_ (fun hHeld => ?_)
          · (try dsimp only); exact HK.out _ ((Old.refl w2).drew)
          refine wpAnyH_take (i := 0) (oi := ⟨some _, _, _, _, _, _⟩) (v := .agg (rowN 29 (frC F (.slice p k5 c)))) rfl (by kernel_rfl) (by kernel_rfl) (by kernel_rfl) (fun _ _ _ h => h) (yieldsIf_load_row (by kernel_rfl) 27 (.tmp 2) rfl (w.heap.size) rfl 27 (rowN 29 (frC F (.slice p k5 c))) (0, 0) _ (fun _ h => (h).blk) Try.underlying27 rfl (by rw [rowN_size]; exact Hs29.out)) (by assumption) ?_; try simp only [Act.put, List.setIfInBounds_toArray, List.set_cons_zero, List.set_cons_succ]
          refine wpAnyH_take (i := 2) (oi := ⟨some _, _, _, _, _, _⟩) (v := .agg (rowN 29 (frC F (.slice p k5 c)))) rfl (by kernel_rfl) (by kernel_rfl) (by kernel_rfl) (fun _ _ _ h => h) (yieldsIf_load_row (by kernel_rfl) 27 (.tmp 2) rfl (w.heap.size) rfl 27 (rowN 29 (frC F (.slice p k5 c))) (0, 0) _ (fun _ h => (h).blk) Try.underlying27 rfl (by rw [rowN_size]; exact Hs29.out)) (by assumption) ?_; try simp only [Act.put, List.setIfInBounds_toArray, List.set_cons_zero, List.set_cons_succ]
          refine wpAnyH_ready (rs := [1]) (by kernel_rfl) (by simp) ?_
          refine AllReadyH.cons (o := ⟨_, _, _, _, _, _⟩) rfl (fun K hK => ?_) AllReadyH.nil
          go_simp
          refine (HR.out _ (HOb.out.trans ((Old.refl w2).drew))).mono ?_
          rintro e V1 ⟨rfl, o1⟩
          have o1' := ((Old.refl w2).drew).trans o1
          go_wp2_with fail
          refine hK.out _ _ ?_ (fun hHeld => ?_)
          · (try dsimp only); exact HK.out _ o1'
          clear hK K
          try simp only [Act.put, List.setIfInBounds_toArray, List.set_cons_zero, List.set_cons_succ]
          refine wpAnyH_ready (rs := [3]) (by kernel_rfl) (by simp) ?_
          refine AllReadyH.cons (o := ⟨_, _, _, _, _, _⟩) rfl (fun K hK => ?_) AllReadyH.nil
          go_simp
          refine (HR2.out _ (HOb.out.trans o1')).mono ?_
          rintro e V2 ⟨rfl, o2⟩
          have o2' := o1'.trans o2
          go_wp2_with fail
          refine hK.out _ _ ?_ (fun hHeld => ?_)
          · (try dsimp only); exact HK.out _ o2'
          clear hK K
          try simp only [Act.put, List.setIfInBounds_toArray, List.set_cons_zero, List.set_cons_succ]
          refine wpAnyH_take (i := 4) (oi := ⟨some _, _, _, _, _, _⟩) (v := ?_) rfl (by kernel_rfl) (by kernel_rfl) (by kernel_rfl) (fun _ _ _ h => h) (Or.inl ⟨by kernel_rfl, ?_⟩) (by assumption) ?_; rotate_left; (intro w hSw; (try dsimp only at hSw); go_simp; try with_reducible rfl); try simp only [Act.put, List.setIfInBounds_toArray, List.set_cons_zero, List.set_cons_succ]
          refine wpAnyH_done (by kernel_rfl) ?_ _
          have HKn := Lib.hid (fun W (h : Old V2 W) => HK.out W (o2'.trans h))
          have HObn := Lib.hid (HOb.out.trans o2')
          have HSbn := Lib.hid (fun W (h : Old V2 W) => HSb.out W (o2'.trans h))
          clear o1 o1' o2 o2' HK HOb HSb
          have HSb := HSbn
          clear HSbn
          obtain ⟨w3, rfl⟩ : ∃ X, X = V2 := ⟨_, rfl⟩
          have HK := HKn
          have HOb := HObn
          clear HKn HObn
          go_wp2_with (with_reducible refine wpList_load_row rfl 27 _ rfl w.heap.size rfl 27 (rowN 29 (frC F (.slice p k5 c))) (0, 0) _ ((HK.out _ (Old.refl _)).blk) Try.underlying27 rfl (by rw [rowN_size]; exact Hs29.out) ?_)
          refine (HR2.out _ HOb.out).mono ?_
          rintro e w4 ⟨rfl, oo⟩
          have HKn := Lib.hid (fun W (h : Old w4 W) => HK.out W (oo.trans h))
          have HObn := Lib.hid (HOb.out.trans oo)
          have HSbn := Lib.hid (fun W (h : Old w4 W) => HSb.out W (oo.trans h))
          clear oo HK HOb HSb
          have HSb := HSbn
          clear HSbn
          have HK := HKn
          have HOb := HObn
          clear HKn HObn
          go_wp2_with fail
          refine wp_region_held_drew (S := (fun w' => FrB 27 w' w.heap.size F (.slice p k5 c))) (by kernel_rfl) ?_ (fun hHeld => ?_)
          · (try dsimp only); exact HK.out _ ((Old.refl w4).drew)
          refine wpAnyH_take (i := 0) (oi := ⟨some _, _, _, _, _, _⟩) (v := .agg (rowN 29 (frC F (.slice p k5 c)))) rfl (by kernel_rfl) (by kernel_rfl) (by kernel_rfl) (fun _ _ _ h => h) (yieldsIf_load_row (by kernel_rfl) 27 (.tmp 2) rfl (w.heap.size) rfl 27 (rowN 29 (frC F (.slice p k5 c))) (0, 0) _ (fun _ h => (h).blk) Try.underlying27 rfl (by rw [rowN_size]; exact Hs29.out)) (by assumption) ?_; try simp only [Act.put, List.setIfInBounds_toArray, List.set_cons_zero, List.set_cons_succ]
          refine wpAnyH_take (i := 2) (oi := ⟨some _, _, _, _, _, _⟩) (v := .agg (rowN 29 (frC F (.slice p k5 c)))) rfl (by kernel_rfl) (by kernel_rfl) (by kernel_rfl) (fun _ _ _ h => h) (yieldsIf_load_row (by kernel_rfl) 27 (.tmp 2) rfl (w.heap.size) rfl 27 (rowN 29 (frC F (.slice p k5 c))) (0, 0) _ (fun _ h => (h).blk) Try.underlying27 rfl (by rw [rowN_size]; exact Hs29.out)) (by assumption) ?_; try simp only [Act.put, List.setIfInBounds_toArray, List.set_cons_zero, List.set_cons_succ]
          refine wpAnyH_ready (rs := [1]) (by kernel_rfl) (by simp) ?_
          refine AllReadyH.cons (o := ⟨_, _, _, _, _, _⟩) rfl (fun K hK => ?_) AllReadyH.nil
          go_simp
          refine (HBt.out _ (HOb.out.trans ((Old.refl w4).drew))).mono ?_
          rintro e V1 ⟨rfl, o1⟩
          have o1' := ((Old.refl w4).drew).trans o1
          go_wp2_with fail
          refine hK.out _ _ ?_ (fun hHeld => ?_)
          · (try dsimp only); exact HK.out _ o1'
          clear hK K
          try simp only [Act.put, List.setIfInBounds_toArray, List.set_cons_zero, List.set_cons_succ]
          refine wpAnyH_ready (rs := [3]) (by kernel_rfl) (by simp) ?_
          refine AllReadyH.cons (o := ⟨_, _, _, _, _, _⟩) rfl (fun K hK => ?_) AllReadyH.nil
          go_simp
          refine (HMy.out _ (HOb.out.trans o1')).mono ?_
          rintro e V2 ⟨rfl, o2⟩
          have o2' := o1'.trans o2
          go_wp2_with fail
          refine hK.out _ _ ?_ (fun hHeld => ?_)
          · (try dsimp only); exact HK.out _ o2'
          clear hK K
          try simp only [Act.put, List.setIfInBounds_toArray, List.set_cons_zero, List.set_cons_succ]
          refine wpAnyH_take (i := 4) (oi := ⟨some _, _, _, _, _, _⟩) (v := ?_) rfl (by kernel_rfl) (by kernel_rfl) (by kernel_rfl) (fun _ _ _ h => h) (Or.inl ⟨by kernel_rfl, ?_⟩) (by assumption) ?_; rotate_left; (intro w hSw; (try dsimp only at hSw); go_simp; try with_reducible rfl); try simp only [Act.put, List.setIfInBounds_toArray, List.set_cons_zero, List.set_cons_succ]
          refine wpAnyH_done (by kernel_rfl) ?_ _
          have HKn := Lib.hid (fun W (h : Old V2 W) => HK.out W (o2'.trans h))
          have HObn := Lib.hid (HOb.out.trans o2')
          have HSbn := Lib.hid (fun W (h : Old V2 W) => HSb.out W (o2'.trans h))
          clear o1 o1' o2 o2' HK HOb HSb
          have HSb := HSbn
          clear HSbn
          obtain ⟨w5, rfl⟩ : ∃ X, X = V2 := ⟨_, rfl⟩
          have HK := HKn
          have HOb := HObn
          clear HKn HObn
          go_wp2_with (with_reducible refine wpList_load_row rfl 27 _ rfl w.heap.size rfl 27 (rowN 29 (frC F (.slice p k5 c))) (0, 0) _ ((HK.out _ (Old.refl _)).blk) Try.underlying27 rfl (by rw [rowN_size]; exact Hs29.out) ?_)
          refine (HMy.out _ HOb.out).mono ?_
          rintro e w6 ⟨rfl, oo⟩
          have HKn := Lib.hid (fun W (h : Old w6 W) => HK.out W (oo.trans h))
          have HObn := Lib.hid (HOb.out.trans oo)
          have HSbn := Lib.hid (fun W (h : Old w6 W) => HSb.out W (oo.trans h))
          clear oo HK HOb HSb
          have HSb := HSbn
          clear HSbn
          have HK := HKn
          have HOb := HObn
          clear HKn HObn
          go_wp2_with fail
          refine (HRd.out _ _ (HSb.out _ (Old.refl _))).mono ?_
          rintro e w7 ⟨G, m, pg, cg, U, er, rfl, oo, hm, hcg, hU, hfU, _, _, _, hback⟩
          obtain ⟨rfl, hsame⟩ := hback F k5 T HP.out HTl.out
          have hs2 : sameP F k5 T G m U := ⟨hsame.1.symm, fun j hj => (hsame.2.1 j (by rw [hsame.1]; exact hj)).symm, fun k a1 a2 => (hsame.2.2 k a1 a2).symm⟩
          have ho8 : Old w6 (w7.alloc (.cells (rowN 29 (frC G (.slice pg m cg))) 27)) := oo.alloc' _
          have HK8 := Lib.hid (fun W (h : Old (w7.alloc (.cells (rowN 29 (frC G (.slice pg m cg))) 27)) W) => HK.out W (ho8.trans h))
          have HG8 := Lib.hid (fun W (h : Old (w7.alloc (.cells (rowN 29 (frC G (.slice pg m cg))) 27)) W) => (FrB.new (t := 27) w7 G (.slice pg m cg)).old h)
          have HS8 := Lib.hid (fun W (h : Old (w7.alloc (.cells (rowN 29 (frC G (.slice pg m cg))) 27)) W) => conv_slI (HSb.out W (ho8.trans h)))
          have HO8 := Lib.hid (HOb.out.trans ho8)
          have hsm := fun (W : World) (h : Old (w7.alloc (.cells (rowN 29 (frC G (.slice pg m cg))) 27)) W) => same_any F G p pg k5 m c cg T U W ((HT.out.old ((HOb.out.trans ho8).trans h)).less k5n) (hU.old ((Old.alloc w7 _).trans h)) k5m (Nat.le_trans hm hcg)
          rw [decide_eq_true hs2] at hsm
          have HSm := Lib.hid hsm
          have H1g : Hid ((rowN 29 (frC G (.slice pg m cg))).all (·.oneCell') = true) := Lib.hid (frC_one _ _ rfl)
          clear hsm ho8 hs2 hsame hback hU hfU oo HK HSb HOb HRd hm hcg
          obtain ⟨str, hstr⟩ : ∃ str, strOfNums (padded (enc F k5 T) N) = str := ⟨_, rfl⟩
          rw [hstr] at HS8
          have HStr := Lib.hid hstr
          clear hstr
          go_wp2_with (with_reducible refine wpList_store_row rfl 27 _ _ rfl w7.heap.size (rowN 29 (frC G (.slice pg m cg))) rfl rfl 27 _ (heap_alloc_new _ _) (by rw [rowN_size]; exact Hs29.out) (by rw [rowN_size]; kernel_rfl) H1g.out ?_; rw [World.setRow_alloc_new])
          obtain ⟨w8, hw8⟩ : ∃ w8, w8 = w7.alloc (.cells (rowN 29 (frC G (.slice pg m cg))) 27) := ⟨_, rfl⟩
          rw [← hw8] at HK8 HG8 HS8 HO8 HSm ⊢
          clear hw8
          generalize w7.heap.size = bg at HG8 ⊢
          refine wp_region_held_drew (S := (fun w' => FrB 27 w' w.heap.size F (.slice p k5 c) ∧ FrB 27 w' bg G (.slice pg m cg) ∧ (convert 29 9 (.slice (some ⟨g, 0, none⟩) N N)).run Try.prog w' = .ok (.string str) w')) (by kernel_rfl) ?_ (fun hHeld => ?_)
          · (try dsimp only); exact ⟨HK8.out _ ((Old.refl w8).drew), HG8.out _ ((Old.refl w8).drew), HS8.out _ ((Old.refl w8).drew)⟩
          refine wpAnyH_take (i := 0) (oi := ⟨some _, _, _, _, _, _⟩) (v := ?_) rfl (by kernel_rfl) (by kernel_rfl) (by kernel_rfl) (fun _ _ _ h => h) (Or.inl ⟨by kernel_rfl, ?_⟩) (by assumption) ?_; rotate_left; (intro w hSw; (try dsimp only at hSw); go_simp; try with_reducible rfl); try simp only [Act.put, List.setIfInBounds_toArray, List.set_cons_zero, List.set_cons_succ]
          refine wpAnyH_take (i := 1) (oi := ⟨some _, _, _, _, _, _⟩) (v := ?_) rfl (by kernel_rfl) (by kernel_rfl) (by kernel_rfl) (fun _ _ _ h => h) (Or.inl ⟨by kernel_rfl, ?_⟩) (by assumption) ?_; rotate_left; (intro w hSw; (try dsimp only at hSw); go_simp; try with_reducible rfl); try simp only [Act.put, List.setIfInBounds_toArray, List.set_cons_zero, List.set_cons_succ]
          refine wpAnyH_take (i := 2) (oi := ⟨some _, _, _, _, _, _⟩) (v := ?_) rfl (by kernel_rfl) (by kernel_rfl) (by kernel_rfl) (fun _ _ _ h => h) (Or.inl ⟨by kernel_rfl, ?_⟩) (by assumption) ?_; rotate_left; (intro w hSw; (try dsimp only at hSw); go_simp; try with_reducible rfl); try simp only [Act.put, List.setIfInBounds_toArray, List.set_cons_zero, List.set_cons_succ]
          refine wpAnyH_take (i := 3) (oi := ⟨some _, _, _, _, _, _⟩) (v := ?_) rfl (by kernel_rfl) (by kernel_rfl) (by kernel_rfl) (fun _ _ _ h => h) (Or.inl ⟨by kernel_rfl, ?_⟩) (by assumption) ?_; rotate_left; (intro w hSw; (try dsimp only at hSw); go_simp; try with_reducible rfl); try simp only [Act.put, List.setIfInBounds_toArray, List.set_cons_zero, List.set_cons_succ]
          refine wpAnyH_take (i := 5) (oi := ⟨some _, _, _, _, _, _⟩) (v := .agg (rowN 29 (frC F (.slice p k5 c)))) rfl (by kernel_rfl) (by kernel_rfl) (by kernel_rfl) (fun _ _ _ h => h) (yieldsIf_load_row (by kernel_rfl) 27 (.tmp 2) rfl (w.heap.size) rfl 27 (rowN 29 (frC F (.slice p k5 c))) (0, 0) _ (fun _ h => (h.1).blk) Try.underlying27 rfl (by rw [rowN_size]; exact Hs29.out)) (by assumption) ?_; try simp only [Act.put, List.setIfInBounds_toArray, List.set_cons_zero, List.set_cons_succ]
          refine wpAnyH_take (i := 6) (oi := ⟨some _, _, _, _, _, _⟩) (v := ?_) rfl (by kernel_rfl) (by kernel_rfl) (by kernel_rfl) (fun _ _ _ h => h) (Or.inl ⟨by kernel_rfl, ?_⟩) (by assumption) ?_; rotate_left; (intro w hSw; (try dsimp only at hSw); go_simp; try with_reducible rfl); try simp only [Act.put, List.setIfInBounds_toArray, List.set_cons_zero, List.set_cons_succ]
          refine wpAnyH_take (i := 4) (oi := ⟨some _, _, _, _, _, _⟩) (v := .string str) rfl (by kernel_rfl) (by kernel_rfl) (by kernel_rfl) (fun _ _ _ h => h) (yieldsIf_conv (by kernel_rfl) 29 9 (.tmp 77) rfl (.string str) (fun _ h => h.2.2)) (by assumption) ?_; try simp only [Act.put, List.setIfInBounds_toArray, List.set_cons_zero, List.set_cons_succ]
          refine wpAnyH_ready (rs := [7]) (by kernel_rfl) (by simp) ?_
          refine AllReadyH.cons (o := ⟨_, _, _, _, _, _⟩) rfl (fun K hK => ?_) AllReadyH.nil
          go_simp
          refine (HBw.out _ (HO8.out.trans ((Old.refl w8).drew))).mono ?_
          rintro e V1 ⟨o1, g2, rfl, _, hg2⟩
          have hcv := conv_slI (row_SlI hg2 (length_padded _ _) (by unfold maxLen; omega))
          rw [HStr.out] at hcv
          have o1' := ((Old.refl w8).drew).trans o1
          clear hg2
          go_wp2_with fail
          refine hK.out _ _ ?_ (fun hHeld => ?_)
          · (try dsimp only); exact ⟨HK8.out _ o1', HG8.out _ o1', HS8.out _ o1'⟩
          clear hK K
          try simp only [Act.put, List.setIfInBounds_toArray, List.set_cons_zero, List.set_cons_succ]
          refine wpAnyH_ready (rs := [8]) (by kernel_rfl) (by simp) ?_
          refine AllReadyH.cons (o := ⟨_, _, _, _, _, _⟩) rfl (fun K hK => ?_) AllReadyH.nil
          go_simp
          go_wp2_with fail
          refine hK.out _ _ ?_ (fun hHeld => ?_)
          · (try dsimp only); exact ⟨HK8.out _ o1', HG8.out _ o1', HS8.out _ o1'⟩
          clear hK K
          try simp only [Act.put, List.setIfInBounds_toArray, List.set_cons_zero, List.set_cons_succ]
          clear hcv
          refine wpAnyH_take (i := 9) (oi := ⟨some _, _, _, _, _, _⟩) (v := ?_) rfl (by kernel_rfl) (by kernel_rfl) (by kernel_rfl) (fun _ _ _ h => h) (Or.inl ⟨by kernel_rfl, ?_⟩) (by assumption) ?_; rotate_left; (intro w hSw; (try dsimp only at hSw); go_simp; try with_reducible rfl); try simp only [Act.put, List.setIfInBounds_toArray, List.set_cons_zero, List.set_cons_succ]
          refine wpAnyH_take (i := 10) (oi := ⟨some _, _, _, _, _, _⟩) (v := ?_) rfl (by kernel_rfl) (by kernel_rfl) (by kernel_rfl) (fun _ _ _ h => h) (Or.inl ⟨by kernel_rfl, ?_⟩) (by assumption) ?_; rotate_left; (intro w hSw; (try dsimp only at hSw); go_simp; try with_reducible rfl); try simp only [Act.put, List.setIfInBounds_toArray, List.set_cons_zero, List.set_cons_succ]
          refine wpAnyH_take (i := 11) (oi := ⟨some _, _, _, _, _, _⟩) (v := ?_) rfl (by kernel_rfl) (by kernel_rfl) (by kernel_rfl) (fun _ _ _ h => h) (Or.inl ⟨by kernel_rfl, ?_⟩) (by assumption) ?_; rotate_left; (intro w hSw; (try dsimp only at hSw); go_simp; try with_reducible rfl); try simp only [Act.put, List.setIfInBounds_toArray, List.set_cons_zero, List.set_cons_succ]
          refine wpAnyH_take (i := 12) (oi := ⟨some _, _, _, _, _, _⟩) (v := ?_) rfl (by kernel_rfl) (by kernel_rfl) (by kernel_rfl) (fun _ _ _ h => h) (Or.inl ⟨by kernel_rfl, ?_⟩) (by assumption) ?_; rotate_left; (intro w hSw; (try dsimp only at hSw); go_simp; try with_reducible rfl); try simp only [Act.put, List.setIfInBounds_toArray, List.set_cons_zero, List.set_cons_succ]
          refine wpAnyH_take (i := 13) (oi := ⟨some _, _, _, _, _, _⟩) (v := ?_) rfl (by kernel_rfl) (by kernel_rfl) (by kernel_rfl) (fun _ _ _ h => h) (Or.inl ⟨by kernel_rfl, ?_⟩) (by assumption) ?_; rotate_left; (intro w hSw; (try dsimp only at hSw); go_simp; try with_reducible rfl); try simp only [Act.put, List.setIfInBounds_toArray, List.set_cons_zero, List.set_cons_succ]
          refine wpAnyH_take (i := 14) (oi := ⟨some _, _, _, _, _, _⟩) (v := ?_) rfl (by kernel_rfl) (by kernel_rfl) (by kernel_rfl) (fun _ _ _ h => h) (Or.inl ⟨by kernel_rfl, ?_⟩) (by assumption) ?_; rotate_left; (intro w hSw; (try dsimp only at hSw); go_simp; try with_reducible rfl); try simp only [Act.put, List.setIfInBounds_toArray, List.set_cons_zero, List.set_cons_succ]
          refine wpAnyH_take (i := 15) (oi := ⟨some _, _, _, _, _, _⟩) (v := ?_) rfl (by kernel_rfl) (by kernel_rfl) (by kernel_rfl) (fun _ _ _ h => h) (Or.inl ⟨by kernel_rfl, ?_⟩) (by assumption) ?_; rotate_left; (intro w hSw; (try dsimp only at hSw); go_simp; try with_reducible rfl); try simp only [Act.put, List.setIfInBounds_toArray, List.set_cons_zero, List.set_cons_succ]
          refine wpAnyH_take (i := 16) (oi := ⟨some _, _, _, _, _, _⟩) (v := .agg (rowN 29 (frC F (.slice p k5 c)))) rfl (by kernel_rfl) (by kernel_rfl) (by kernel_rfl) (fun _ _ _ h => h) (yieldsIf_load_row (by kernel_rfl) 27 (.tmp 2) rfl (w.heap.size) rfl 27 (rowN 29 (frC F (.slice p k5 c))) (0, 0) _ (fun _ h => (h.1).blk) Try.underlying27 rfl (by rw [rowN_size]; exact Hs29.out)) (by assumption) ?_; try simp only [Act.put, List.setIfInBounds_toArray, List.set_cons_zero, List.set_cons_succ]
          refine wpAnyH_take (i := 17) (oi := ⟨some _, _, _, _, _, _⟩) (v := .agg (rowN 29 (frC G (.slice pg m cg)))) rfl (by kernel_rfl) (by kernel_rfl) (by kernel_rfl) (fun _ _ _ h => h) (yieldsIf_load_row (by kernel_rfl) 27 (.tmp 7) rfl (bg) rfl 27 (rowN 29 (frC G (.slice pg m cg))) (0, 0) _ (fun _ h => (h.2.1).blk) Try.underlying27 rfl (by rw [rowN_size]; exact Hs29.out)) (by assumption) ?_; try simp only [Act.put, List.setIfInBounds_toArray, List.set_cons_zero, List.set_cons_succ]
          refine wpAnyH_ready (rs := [18]) (by kernel_rfl) (by simp) ?_
          refine AllReadyH.cons (o := ⟨_, _, _, _, _, _⟩) rfl (fun K hK => ?_) AllReadyH.nil
          go_simp
          refine (HSm.out _ o1').mono ?_
          rintro e V2 ⟨rfl, o2⟩
          have o2' := o1'.trans o2
          go_wp2_with fail
          refine hK.out _ _ ?_ (fun hHeld => ?_)
          · (try dsimp only); exact ⟨HK8.out _ o2', HG8.out _ o2', HS8.out _ o2'⟩
          clear hK K
          try simp only [Act.put, List.setIfInBounds_toArray, List.set_cons_zero, List.set_cons_succ]
          refine wpAnyH_take (i := 19) (oi := ⟨some _, _, _, _, _, _⟩) (v := ?_) rfl (by kernel_rfl) (by kernel_rfl) (by kernel_rfl) (fun _ _ _ h => h) (Or.inl ⟨by kernel_rfl, ?_⟩) (by assumption) ?_; rotate_left; (intro w hSw; (try dsimp only at hSw); go_simp; try with_reducible rfl); try simp only [Act.put, List.setIfInBounds_toArray, List.set_cons_zero, List.set_cons_succ]
          refine wpAnyH_take (i := 20) (oi := ⟨some _, _, _, _, _, _⟩) (v := ?_) rfl (by kernel_rfl) (by kernel_rfl) (by kernel_rfl) (fun _ _ _ h => h) (Or.inl ⟨by kernel_rfl, ?_⟩) (by assumption) ?_; rotate_left; (intro w hSw; (try dsimp only at hSw); go_simp; try with_reducible rfl); try simp only [Act.put, List.setIfInBounds_toArray, List.set_cons_zero, List.set_cons_succ]
          refine wpAnyH_ready (rs := [21]) (by kernel_rfl) (by simp) ?_
          refine AllReadyH.cons (o := ⟨_, _, _, _, _, _⟩) rfl (fun K hK => ?_) AllReadyH.nil
          go_simp
          refine (HAw.out _).mono ?_
          rintro e V3 ⟨rfl, o3⟩
          have o3' := o2'.trans o3
          go_wp2_with fail
          refine hK.out _ _ ?_ (fun hHeld => ?_)
          · (try dsimp only); exact ⟨HK8.out _ o3', HG8.out _ o3', HS8.out _ o3'⟩
          clear hK K
          try simp only [Act.put, List.setIfInBounds_toArray, List.set_cons_zero, List.set_cons_succ]
          refine wpAnyH_take (i := 22) (oi := ⟨some _, _, _, _, _, _⟩) (v := ?_) rfl (by kernel_rfl) (by kernel_rfl) (by kernel_rfl) (fun _ _ _ h => h) (Or.inl ⟨by kernel_rfl, ?_⟩) (by assumption) ?_; rotate_left; (intro w hSw; (try dsimp only at hSw); go_simp; try with_reducible rfl); try simp only [Act.put, List.setIfInBounds_toArray, List.set_cons_zero, List.set_cons_succ]
          refine wpAnyH_take (i := 23) (oi := ⟨some _, _, _, _, _, _⟩) (v := ?_) rfl (by kernel_rfl) (by kernel_rfl) (by kernel_rfl) (fun _ _ _ h => h) (Or.inl ⟨by kernel_rfl, ?_⟩) (by assumption) ?_; rotate_left; (intro w hSw; (try dsimp only at hSw); go_simp; try with_reducible rfl); try simp only [Act.put, List.setIfInBounds_toArray, List.set_cons_zero, List.set_cons_succ]
          refine wpAnyH_done (by kernel_rfl) ?_ _
          have HOz := Lib.hid (HO8.out.trans o3')
          clear o1 o1' o2 o2' o3 o3' HK8 HG8 HS8 HSm HBw HAw
          go_wp2_with fail
          go_ret
          exact ⟨rfl, HOz.out⟩
  · rw [decide_eq_false hP] at hr hr2
    have HR := Lib.hid hr
    have HR2 := Lib.hid hr2
    have HBn := Lib.hid (fun (W : World) sz (h : Old w W) => FBytes_no F p k5 c T sz W ((hT.old h).less k5n) hf k5c hc hP)
    clear hr hr2 hT hf hP hc
    by_cases hs : 200 < size
    · go_enter Try.func3, Try.ntmps3
      go_wp2_with (with_reducible refine wpList_load_row rfl 27 _ rfl w.heap.size rfl 27 (rowN 29 (frC F (.slice p n c))) (0, 0) _ HA.out.blk Try.underlying27 rfl (by rw [rowN_size]; exact Hs29.out) ?_)
      refine (HFa.out _).mono ?_
      rintro e w1 ⟨rfl, ho1⟩
      have HA1 := Lib.hid (HA.out.old ho1)
      have hr1 := row_ret HA1.out.blk (HO.out.trans ho1) (Nat.le_refl _) (rowN 29 (frC F (.slice p k5 c)))
      have HV := Lib.hid (HA1.out.row F (.slice p k5 c))
      have HOv := Lib.hid hr1.2
      clear ho1 hr1 HA HO HFa
      go_wp2_with (first | (with_reducible refine wpList_store_row rfl 27 _ _ rfl w.heap.size (rowN 29 (frC F (.slice p k5 c))) rfl rfl 27 _ HA1.out.blk (by rw [rowN_size]; exact Hs29.out) (by rw [rowN_size, rowN_size]) H1a.out ?_) | (with_reducible refine wpList_load_row rfl 27 _ rfl w.heap.size rfl 27 (rowN 29 (frC F (.slice p k5 c))) (0, 0) _ (HV.out.blk) Try.underlying27 rfl (by rw [rowN_size]; exact Hs29.out) ?_))
      obtain ⟨V, hV⟩ : ∃ V, V = w1.setRow w.heap.size (rowN 29 (frC F (.slice p k5 c))) := ⟨_, rfl⟩
      rw [← hV] at HV HOv ⊢
      clear hV HA1
      refine (HBn.out V (200) HOv.out).mono ?_
      rintro e w2 ⟨rfl, oo⟩
      have HK := Lib.hid (fun W (h : Old w2 W) => HV.out.old (oo.trans h))
      have HOb := Lib.hid (HOv.out.trans oo)
      clear oo HV HOv HBn
      go_wp2_with fail
      refine wp_region_held_drew (S := (fun w' => FrB 27 w' w.heap.size F (.slice p k5 c))) (by kernel_rfl) ?_ (fun hHeld => ?_)
      · (try dsimp only); exact HK.out _ ((Old.refl w2).drew)
      refine wpAnyH_take (i := 0) (oi := ⟨some _, _, _, _, _, _⟩) (v := .agg (rowN 29 (frC F (.slice p k5 c)))) rfl (by kernel_rfl) (by kernel_rfl) (by kernel_rfl) (fun _ _ _ h => h) (yieldsIf_load_row (by kernel_rfl) 27 (.tmp 2) rfl (w.heap.size) rfl 27 (rowN 29 (frC F (.slice p k5 c))) (0, 0) _ (fun _ h => (h).blk) Try.underlying27 rfl (by rw [rowN_size]; exact Hs29.out)) (by assumption) ?_; try simp only [Act.put, List.setIfInBounds_toArray, List.set_cons_zero, List.set_cons_succ]
      refine wpAnyH_take (i := 2) (oi := ⟨some _, _, _, _, _, _⟩) (v := .agg (rowN 29 (frC F (.slice p k5 c)))) rfl (by kernel_rfl) (by kernel_rfl) (by kernel_rfl) (fun _ _ _ h => h) (yieldsIf_load_row (by kernel_rfl) 27 (.tmp 2) rfl (w.heap.size) rfl 27 (rowN 29 (frC F (.slice p k5 c))) (0, 0) _ (fun _ h => (h).blk) Try.underlying27 rfl (by rw [rowN_size]; exact Hs29.out)) (by assumption) ?_; try simp only [Act.put, List.setIfInBounds_toArray, List.set_cons_zero, List.set_cons_succ]
      refine wpAnyH_ready (rs := [1]) (by kernel_rfl) (by simp) ?_
      refine AllReadyH.cons (o := ⟨_, _, _, _, _, _⟩) rfl (fun K hK => ?_) AllReadyH.nil
      go_simp
      refine (HR.out _ (HOb.out.trans ((Old.refl w2).drew))).mono ?_
      rintro e V1 ⟨rfl, o1⟩
      have o1' := ((Old.refl w2).drew).trans o1
      go_wp2_with fail
      refine hK.out _ _ ?_ (fun hHeld => ?_)
      · (try dsimp only); exact HK.out _ o1'
      clear hK K
      try simp only [Act.put, List.setIfInBounds_toArray, List.set_cons_zero, List.set_cons_succ]
      refine wpAnyH_ready (rs := [3]) (by kernel_rfl) (by simp) ?_
      refine AllReadyH.cons (o := ⟨_, _, _, _, _, _⟩) rfl (fun K hK => ?_) AllReadyH.nil
      go_simp
      refine (HR2.out _ (HOb.out.trans o1')).mono ?_
      rintro e V2 ⟨rfl, o2⟩
      have o2' := o1'.trans o2
      go_wp2_with fail
      refine hK.out _ _ ?_ (fun hHeld => ?_)
      · (try dsimp only); exact HK.out _ o2'
      clear hK K
      try simp only [Act.put, List.setIfInBounds_toArray, List.set_cons_zero, List.set_cons_succ]
      refine wpAnyH_take (i := 4) (oi := ⟨some _, _, _, _, _, _⟩) (v := ?_) rfl (by kernel_rfl) (by kernel_rfl) (by kernel_rfl) (fun _ _ _ h => h) (Or.inl ⟨by kernel_rfl, ?_⟩) (by assumption) ?_; rotate_left; (intro w hSw; (try dsimp only at hSw); go_simp; try with_reducible rfl); try simp only [Act.put, List.setIfInBounds_toArray, List.set_cons_zero, List.set_cons_succ]
      refine wpAnyH_done (by kernel_rfl) ?_ _
      have HKn := Lib.hid (fun W (h : Old V2 W) => HK.out W (o2'.trans h))
      have HObn := Lib.hid (HOb.out.trans o2')
      clear o1 o1' o2 o2' HK HOb
      obtain ⟨w3, rfl⟩ : ∃ X, X = V2 := ⟨_, rfl⟩
      have HK := HKn
      have HOb := HObn
      clear HKn HObn
      go_wp2_with (with_reducible refine wpList_load_row rfl 27 _ rfl w.heap.size rfl 27 (rowN 29 (frC F (.slice p k5 c))) (0, 0) _ ((HK.out _ (Old.refl _)).blk) Try.underlying27 rfl (by rw [rowN_size]; exact Hs29.out) ?_)
      refine (HR2.out _ HOb.out).mono ?_
      rintro e w4 ⟨rfl, oo⟩
      have HKn := Lib.hid (fun W (h : Old w4 W) => HK.out W (oo.trans h))
      have HObn := Lib.hid (HOb.out.trans oo)
      clear oo HK HOb
      have HK := HKn
      have HOb := HObn
      clear HKn HObn
      go_wp2_with fail
      refine (HAw.out _).mono ?_
      rintro e wz ⟨rfl, oo⟩
      have HOz := Lib.hid (HOb.out.trans oo)
      clear oo HOb HK
      go_wp2_with fail
      go_ret
      exact ⟨rfl, HOz.out⟩
    · have hs' : size ≤ 200 := by omega
      clear hs
      go_enter Try.func3, Try.ntmps3
      go_wp2_with (with_reducible refine wpList_load_row rfl 27 _ rfl w.heap.size rfl 27 (rowN 29 (frC F (.slice p n c))) (0, 0) _ HA.out.blk Try.underlying27 rfl (by rw [rowN_size]; exact Hs29.out) ?_)
      refine (HFa.out _).mono ?_
      rintro e w1 ⟨rfl, ho1⟩
      have HA1 := Lib.hid (HA.out.old ho1)
      have hr1 := row_ret HA1.out.blk (HO.out.trans ho1) (Nat.le_refl _) (rowN 29 (frC F (.slice p k5 c)))
      have HV := Lib.hid (HA1.out.row F (.slice p k5 c))
      have HOv := Lib.hid hr1.2
      clear ho1 hr1 HA HO HFa
      go_wp2_with (first | (with_reducible refine wpList_store_row rfl 27 _ _ rfl w.heap.size (rowN 29 (frC F (.slice p k5 c))) rfl rfl 27 _ HA1.out.blk (by rw [rowN_size]; exact Hs29.out) (by rw [rowN_size, rowN_size]) H1a.out ?_) | (with_reducible refine wpList_load_row rfl 27 _ rfl w.heap.size rfl 27 (rowN 29 (frC F (.slice p k5 c))) (0, 0) _ (HV.out.blk) Try.underlying27 rfl (by rw [rowN_size]; exact Hs29.out) ?_))
      obtain ⟨V, hV⟩ : ∃ V, V = w1.setRow w.heap.size (rowN 29 (frC F (.slice p k5 c))) := ⟨_, rfl⟩
      rw [← hV] at HV HOv ⊢
      clear hV HA1
      refine (HBn.out V (size) HOv.out).mono ?_
      rintro e w2 ⟨rfl, oo⟩
      have HK := Lib.hid (fun W (h : Old w2 W) => HV.out.old (oo.trans h))
      have HOb := Lib.hid (HOv.out.trans oo)
      clear oo HV HOv HBn
      go_wp2_with fail
      refine wp_region_held_drew (S := (fun w' => FrB 27 w' w.heap.size F (.slice p k5 c))) (by kernel_rfl) ?_ (fun hHeld => ?_)
      · (try dsimp only); exact HK.out _ ((Old.refl w2).drew)
      refine wpAnyH_take (i := 0) (oi := ⟨some _, _, _, _, _, _⟩) (v := .agg (rowN 29 (frC F (.slice p k5 c)))) rfl (by kernel_rfl) (by kernel_rfl) (by kernel_rfl) (fun _ _ _ h => h) (yieldsIf_load_row (by kernel_rfl) 27 (.tmp 2) rfl (w.heap.size) rfl 27 (rowN 29 (frC F (.slice p k5 c))) (0, 0) _ (fun _ h => (h).blk) Try.underlying27 rfl (by rw [rowN_size]; exact Hs29.out)) (by assumption) ?_; try simp only [Act.put, List.setIfInBounds_toArray, List.set_cons_zero, List.set_cons_succ]
      refine wpAnyH_take (i := 2) (oi := ⟨some _, _, _, _, _, _⟩) (v := .agg (rowN 29 (frC F (.slice p k5 c)))) rfl (by kernel_rfl) (by kernel_rfl) (by kernel_rfl) (fun _ _ _ h => h) (yieldsIf_load_row (by kernel_rfl) 27 (.tmp 2) rfl (w.heap.size) rfl 27 (rowN 29 (frC F (.slice p k5 c))) (0, 0) _ (fun _ h => (h).blk) Try.underlying27 rfl (by rw [rowN_size]; exact Hs29.out)) (by assumption) ?_; try simp only [Act.put, List.setIfInBounds_toArray, List.set_cons_zero, List.set_cons_succ]
      refine wpAnyH_ready (rs := [1]) (by kernel_rfl) (by simp) ?_
      refine AllReadyH.cons (o := ⟨_, _, _, _, _, _⟩) rfl (fun K hK => ?_) AllReadyH.nil
      go_simp
      refine (HR.out _ (HOb.out.trans ((Old.refl w2).drew))).mono ?_
      rintro e V1 ⟨rfl, o1⟩
      have o1' := ((Old.refl w2).drew).trans o1
      go_wp2_with fail
      refine hK.out _ _ ?_ (fun hHeld => ?_)
      · (try dsimp only); exact HK.out _ o1'
      clear hK K
      try simp only [Act.put, List.setIfInBounds_toArray, List.set_cons_zero, List.set_cons_succ]
      refine wpAnyH_ready (rs := [3]) (by kernel_rfl) (by simp) ?_
      refine AllReadyH.cons (o := ⟨_, _, _, _, _, _⟩) rfl (fun K hK => ?_) AllReadyH.nil
      go_simp
      refine (HR2.out _ (HOb.out.trans o1')).mono ?_
      rintro e V2 ⟨rfl, o2⟩
      have o2' := o1'.trans o2
      go_wp2_with fail
      refine hK.out _ _ ?_ (fun hHeld => ?_)
      · (try dsimp only); exact HK.out _ o2'
      clear hK K
      try simp only [Act.put, List.setIfInBounds_toArray, List.set_cons_zero, List.set_cons_succ]
      refine wpAnyH_take (i := 4) (oi := ⟨some _, _, _, _, _, _⟩) (v := ?_) rfl (by kernel_rfl) (by kernel_rfl) (by kernel_rfl) (fun _ _ _ h => h) (Or.inl ⟨by kernel_rfl, ?_⟩) (by assumption) ?_; rotate_left; (intro w hSw; (try dsimp only at hSw); go_simp; try with_reducible rfl); try simp only [Act.put, List.setIfInBounds_toArray, List.set_cons_zero, List.set_cons_succ]
      refine wpAnyH_done (by kernel_rfl) ?_ _
      have HKn := Lib.hid (fun W (h : Old V2 W) => HK.out W (o2'.trans h))
      have HObn := Lib.hid (HOb.out.trans o2')
      clear o1 o1' o2 o2' HK HOb
      obtain ⟨w3, rfl⟩ : ∃ X, X = V2 := ⟨_, rfl⟩
      have HK := HKn
      have HOb := HObn
      clear HKn HObn
      go_wp2_with (with_reducible refine wpList_load_row rfl 27 _ rfl w.heap.size rfl 27 (rowN 29 (frC F (.slice p k5 c))) (0, 0) _ ((HK.out _ (Old.refl _)).blk) Try.underlying27 rfl (by rw [rowN_size]; exact Hs29.out) ?_)
      refine (HR2.out _ HOb.out).mono ?_
      rintro e w4 ⟨rfl, oo⟩
      have HKn := Lib.hid (fun W (h : Old w4 W) => HK.out W (oo.trans h))
      have HObn := Lib.hid (HOb.out.trans oo)
      clear oo HK HOb
      have HK := HKn
      have HOb := HObn
      clear HKn HObn
      go_wp2_with fail
      refine (HAw.out _).mono ?_
      rintro e wz ⟨rfl, oo⟩
      have HOz := Lib.hid (HOb.out.trans oo)
      clear oo HOb HK
      go_wp2_with fail
      go_ret
      exact ⟨rfl, HOz.out⟩



theorem own : ownKnob Try.prog.godebug = none := by kernel_rfl
theorem laidOut : laidOutB Try.prog = true := by kernel_rfl

set_option maxRecDepth 100000 in
theorem lifted (os : Os) (started : os.Started) (H : Type) (enc : TypeId × Value → H) :
    ReturnsInHanded {} Try.checked os 3 .any (Rows.frameBytesSpec.pre6 enc Try.prog Try.f3 Rows.frameBytesRow.domain false) (Rows.frameBytesSpec.post enc Try.prog Try.f3 false true false false) := by
  refine returnsInHanded_of_change (C := Try.checked) own started (by kernel_rfl) Try.func3
    (ChangeSpec.witness6 (enc := enc) (C := Try.checked) false ⟨#[], #[.agg #[.int .i64 0, .int .i64 0, .int .i64 0, .int .i64 0, .slice none 0 0, .int .i64 0, .int .i64 0, .int .i64 0, .int .i64 0, .int .i64 0, .int .i64 0, .int .i64 0, .int .i64 0, .int .i64 0, .int .i64 0, .int .i64 0, .int .i64 0, .int .i64 0, .int .i64 0, .int .i64 0, .int .i64 0, .int .i64 0, .int .i64 0, .int .i64 0, .int .i64 0, .int .i64 0, .int .i64 0, .int .i64 0, .int .i64 0], .int .i64 0], []⟩ 8 (by kernel_rfl) (by kernel_rfl) (by kernel_rfl) (by kernel_rfl)) ?_
  intro W base args ds gs before hval0 hW hcnd _
  have hval : ∀ (j : Nat) t v, Try.f3.params[j]? = some t → args[j]? = some v → Value.okWide Try.prog W .any base t v := hval0
  have hW' := hW
  have hlt : ∀ p ∈ before, p.block < W.heap.size := fun p hp => hW'.lt p hp
  obtain ⟨p, q, hA0, hV, rfl, hfz, hnd⟩ := hW
  have hA : DataW.TrodAll enc Try.prog W 0 (fun _ => true) true Try.f3.params.toList args.toList ds p := hA0
  rw [Try.params3] at hA hval
  obtain ⟨v0, vs0, d0, ds0, p0, q0, hargs, rfl, rfl, h0, r0⟩ := trodAll_cons hA
  obtain ⟨v1, vs1, d1, ds1, p1, q1, rfl, rfl, rfl, h1, r1⟩ := trodAll_cons r0
  obtain ⟨rfl, rfl, rfl⟩ := trodAll_nil r1
  obtain rfl : args = #[v0, v1] := by cases args; simp_all
  obtain ⟨rfl, rfl⟩ := trodVars_none hV
  obtain ⟨F0, q0_, n0, c0, T0, rfl, fn0, fc0, fT0, fF0⟩ := open_frame (hval 0 27 v0 rfl rfl) h0 (fun x hx => hlt x (by simp [hx]))
  obtain ⟨a1, rfl, _, _, w1⟩ := open_int Try.underlying3 (hval 1 3 v1 rfl rfl) h1
  refine (walk F0 q0_ n0 c0 T0 a1 W fT0 fF0 fn0 fc0 (i64_of w1)).mono fun e W' ⟨he, hg⟩ => ?_
  subst he
  exact ⟨_, rfl, law_done laidOut Try.underlying4 rfl (by kernel_rfl) rfl hW' rfl hg⟩

theorem over : Rows.frameBytesRow.holds Try.pinned (OpenSpec.ofChange Rows.frameBytesSpec) :=
  OpenClaim.holds_of_wide 3 Try.f3 rfl rfl rfl rfl rfl rfl rfl ⟨rfl, rfl, rfl, rfl, rfl⟩ rfl rfl rfl rfl rfl (by kernel_rfl) Try.func3 (by kernel_rfl)
    (of_decide_eq_true (by kernel_rfl)) (by unfold Func.isWrapper; first | (rw [if_pos (by decide +kernel)]; kernel_rfl) | (rw [if_neg (by decide +kernel)]; exact ⟨rfl, rfl⟩))
    (fun os started H enc _ => lifted os started H enc)

theorem proved : Rows.FrameBytesSaid :=
  over
end Go.Proofs.Ytdiahlhfoplmjaa.frameBytes
