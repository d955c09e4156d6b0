/- FrameReads: what any bytes are read as is a frame that may be, with just these bytes. -/
import Derived.Test.YtdiahlhfoplmjaaRows
import Derived.Test.YtdiahlhfoplmjaaAwake
import Derived.Test.YtdiahlhfoplmjaaFew
import Derived.Test.YtdiahlhfoplmjaaSameW
import Derived.Test.YtdiahlhfoplmjaaRightW
import Derived.Test.YtdiahlhfoplmjaaMany
import Derived.Test.YtdiahlhfoplmjaaBytesW
import Derived.Test.YtdiahlhfoplmjaaFrReadL
import Derived.Test.YtdiahlhfoplmjaaConvL
import Derived.Test.YtdiahlhfoplmjaaFrArg
import Derived.Deep.RegionHeld
namespace Go.Proofs.Ytdiahlhfoplmjaa.frameReads
open Go.ChangeShapes Go.WideShapes Go.ChangeAt Go.RowKit
set_option linter.unusedVariables false

set_option maxRecDepth 100000 in
set_option maxHeartbeats 8000000 in
theorem walk (s : Option Addr) (n' cap : Nat) (xs : List Int) (F : Nat → Int) (p : Option Addr) (n c : Nat) (T : Nat → Int) (w : World) (hs : SlI w .u8 (.slice s n' cap) xs) (hnc : n' ≤ cap) (hcm : cap ≤ maxLen) (hb : ∀ x ∈ xs, 0 ≤ x ∧ x ≤ 255) (hT : SlF 2 w p n T) (hf : Fits64 T) (hn : n ≤ c) (hc : c ≤ maxLen) :
    Calls Try.prog 4 #[.slice s n' cap, .agg (rowN 29 (frC F (.slice p n c)))] w fun e w' => e = .returned (.bool true) ∧ Old w w' := by
  have Hs29 : Hid ((Try.prog.info? 27).map (·.size) = some 29) := Lib.hid (by kernel_rfl)
  have HA : Hid (FrB 27 (w.alloc (.cells (rowN 29 (frC F (.slice p n c))) 27)) w.heap.size F (.slice p n c)) := Lib.hid (FrB.new w F _)
  have HO : Hid (Old w (w.alloc (.cells (rowN 29 (frC F (.slice p n c))) 27))) := Lib.hid (Old.alloc _ _)
  have hfa := fun w => Few_any F p n c w hn hc
  have HAw := Lib.hid (fun w => awake_any w)
  obtain ⟨k5, hk5⟩ : ∃ k5, min n 5 = k5 := ⟨_, rfl⟩
  rw [hk5] at hfa
  have k5n : k5 ≤ n := by omega
  have k5c : k5 ≤ c := by omega
  have k55 : k5 ≤ 5 := by omega
  have HFa := Lib.hid hfa
  have HTf := Lib.hid hT
  have Hc := Lib.hid hc
  have HR2f := Lib.hid (fun (W : World) (h : Old w W) => right_any F p k5 c T W ((hT.old h).less k5n) hf k5c hc)
  have H1a : Hid ((rowN 29 (frC F (.slice p k5 c))).all (·.oneCell') = true) := Lib.hid (frC_one _ _ rfl)
  have hlx := (hs.cellAt).1
  have hcap : n' ≤ 9223372036854775807 := by unfold maxLen at hcm; omega
  unfold maxLen at hcm
  clear hfa hk5 hn hT hf hc
  by_cases hbig : 200 < n'
  · obtain ⟨ls, hls⟩ : ∃ ls, ls = xs.take 200 := ⟨_, rfl⟩
    have HSl : Hid (SlI w .u8 (.slice s 200 cap) ls) := Lib.hid (by rw [hls]; exact hs.take (by omega))
    have HLs : Hid (ls.length = 200) := Lib.hid (by rw [hls, List.length_take]; omega)
    have HIs : Hid (isBytes ls) := Lib.hid (fun x hx => hb x (by rw [hls] at hx; exact List.mem_of_mem_take hx))
    have hcap2 : 200 ≤ cap := by omega
    have HRd := Lib.hid (fun (W : World) (h : Old w W) => FRead_any (.slice s 200 cap) ls W (HSl.out.old h) HIs.out (by rw [HLs.out]; omega))
    have HCv : Hid (∀ W, SlI W .u8 (.slice s 200 cap) ls → (convert 29 9 (.slice s 200 cap)).run Try.prog W = .ok (.string (strOfNums ls)) W) := Lib.hid fun W h => conv_slI h
    obtain ⟨str, hstr⟩ : ∃ str, strOfNums ls = str := ⟨_, rfl⟩
    rw [hstr] at HCv
    have HStr := Lib.hid hstr
    clear hls hstr hs hb hlx
    go_enter Try.func4, Try.ntmps4
    go_wp2_with (with_reducible refine wpList_load_row rfl 27 _ rfl w.heap.size rfl 27 (rowN 29 (frC F (.slice p n c))) (0, 0) _ HA.out.blk Try.underlying27 rfl (by rw [rowN_size]; exact Hs29.out) ?_)
    refine (HFa.out _).mono ?_
    rintro e w1 ⟨rfl, ho1⟩
    have HA1 := Lib.hid (HA.out.old ho1)
    have hr1 := row_ret HA1.out.blk (HO.out.trans ho1) (Nat.le_refl _) (rowN 29 (frC F (.slice p k5 c)))
    have HV := Lib.hid (HA1.out.row F (.slice p k5 c))
    have HOv := Lib.hid hr1.2
    clear ho1 hr1 HA HO HFa
    go_wp2_with (with_reducible refine wpList_store_row rfl 27 _ _ rfl w.heap.size (rowN 29 (frC F (.slice p k5 c))) rfl rfl 27 _ HA1.out.blk (by rw [rowN_size]; exact Hs29.out) (by rw [rowN_size, rowN_size]) H1a.out ?_)
    obtain ⟨V, hV⟩ : ∃ V, V = w1.setRow w.heap.size (rowN 29 (frC F (.slice p k5 c))) := ⟨_, rfl⟩
    rw [← hV] at HV HOv ⊢
    clear hV HA1
    refine (HRd.out V HOv.out).mono ?_
    rintro e w2 ⟨G, m, pg, cg, U, er, rfl, oo, hm, hcg, hU, hfU, her, hgood, hbad, hback⟩
    have H1g : Hid ((rowN 29 (frC G (.slice pg m cg))).all (·.oneCell') = true) := Lib.hid (frC_one _ _ rfl)
    have HU := Lib.hid hU
    have HfU := Lib.hid hfU
    have HGood := Lib.hid hgood
    have HBad := Lib.hid hbad
    have HBack := Lib.hid hback
    have Hm := Lib.hid hm
    have Hcg := Lib.hid hcg
    have Her := Lib.hid her
    have hv2 := HV.out.old oo
    have hov2 := HOv.out.trans oo
    have HV2 := Lib.hid hv2
    have HOv2 := Lib.hid hov2
    clear oo hm hcg hU hfU her hgood hbad hback hv2 hov2 HV HOv HRd
    obtain ⟨w3, hw3⟩ : ∃ w3, w3 = w2.alloc (.cells (rowN 29 (frC G (.slice pg m cg))) 27) := ⟨_, rfl⟩
    obtain ⟨bg, hbg⟩ : ∃ bg, bg = w2.heap.size := ⟨_, rfl⟩
    have ho3 : Old w2 w3 := by rw [hw3]; exact Old.alloc _ _
    have hg3 : FrB 27 w3 bg G (.slice pg m cg) := by rw [hw3, hbg]; exact FrB.new w2 G _
    have HK := Lib.hid (fun W (h : Old w3 W) => HV2.out.old (ho3.trans h))
    have HG := Lib.hid (fun W (h : Old w3 W) => hg3.old h)
    have HOb := Lib.hid (HOv2.out.trans ho3)
    have HU3 := Lib.hid (HU.out.old ho3)
    have HSb := Lib.hid (fun W (h : Old w3 W) => HSl.out.old ((HOv2.out.trans ho3).trans h))
    have Hw3 := Lib.hid hw3
    have Hbg := Lib.hid hbg
    clear ho3 hg3 hw3 hbg HV2 HOv2 HU
    by_cases he0 : er = 0
    · subst he0
      clear Her
      obtain ⟨hP, hTl⟩ := HGood.out rfl
      have hls : (enc G m U).length ≤ 8 * 200 := by have := pre_len hTl.1; rw [HLs.out] at this; exact this
      have hpd : padded (enc G m U) 200 = ls := by have := padded_tells HIs.out hTl; rw [HLs.out] at this; exact this
      have hrg := fun (W : World) (h : Old w3 W) => right_any G pg m cg U W (HU3.out.old h) HfU.out Hm.out Hcg.out
      rw [decide_eq_true hP] at hrg
      have HRg := Lib.hid hrg
      have HBg := Lib.hid (fun (W : World) (h : Old w3 W) => bytes_any G pg m cg U 200 W (HU3.out.old h) Hm.out Hcg.out hP (by omega) hls)
      have HPd := Lib.hid hpd
      clear hP hTl hls hpd hrg HGood HBad HBack Hm Hcg HfU HU3 HR2f
      go_wp2_with (with_reducible refine wpList_store_row rfl 27 _ _ rfl w2.heap.size (rowN 29 (frC G (.slice pg m cg))) rfl rfl 27 _ (heap_alloc_new _ _) (by rw [rowN_size]; exact Hs29.out) (by rw [rowN_size]; kernel_rfl) H1g.out ?_; rw [World.setRow_alloc_new, ← Hw3.out, ← Hbg.out])
      refine wp_region_held_drew (S := (fun w' => FrB 27 w' bg G (.slice pg m cg) ∧ (convert 29 9 (.slice s 200 cap)).run Try.prog w' = .ok (.string str) w')) (by kernel_rfl) ?_ (fun hHeld => ?_)
      · (try dsimp only); exact ⟨HG.out _ ((Old.refl w3).drew), HCv.out _ (HSb.out _ ((Old.refl w3).drew))⟩
      refine wpAnyH_take (i := 0) (oi := ⟨some _, _, _, _, _, _⟩) (v := .agg (rowN 29 (frC G (.slice pg m cg)))) rfl (by kernel_rfl) (by kernel_rfl) (by kernel_rfl) (fun _ _ _ h => h) (yieldsIf_load_row (by kernel_rfl) 27 (.tmp 5) rfl (bg) rfl 27 (rowN 29 (frC G (.slice pg m cg))) (0, 0) _ (fun _ h => (h.1).blk) Try.underlying27 rfl (by rw [rowN_size]; exact Hs29.out)) (by assumption) ?_; try simp only [Act.put, List.setIfInBounds_toArray, List.set_cons_zero, List.set_cons_succ]
      refine wpAnyH_ready (rs := [1]) (by kernel_rfl) (by simp) ?_
      refine AllReadyH.cons (o := ⟨_, _, _, _, _, _⟩) rfl (fun K hK => ?_) AllReadyH.nil
      go_simp
      refine (HRg.out _ ((Old.refl w3).drew)).mono ?_
      rintro e V1 ⟨rfl, o1⟩
      have o1' := ((Old.refl w3).drew).trans o1
      go_wp2_with fail
      refine hK.out _ _ ?_ (fun hHeld => ?_)
      · (try dsimp only); exact ⟨HG.out _ o1', HCv.out _ (HSb.out _ o1')⟩
      clear hK K
      try simp only [Act.put, List.setIfInBounds_toArray, List.set_cons_zero, List.set_cons_succ]
      refine wpAnyH_take (i := 2) (oi := ⟨some _, _, _, _, _, _⟩) (v := ?_) rfl (by kernel_rfl) (by kernel_rfl) (by kernel_rfl) (fun _ _ _ h => h) (Or.inl ⟨by kernel_rfl, ?_⟩) (by assumption) ?_; rotate_left; (intro w hSw; (try dsimp only at hSw); go_simp; try with_reducible rfl); try simp only [Act.put, List.setIfInBounds_toArray, List.set_cons_zero, List.set_cons_succ]
      refine wpAnyH_take (i := 3) (oi := ⟨some _, _, _, _, _, _⟩) (v := .agg (rowN 29 (frC G (.slice pg m cg)))) rfl (by kernel_rfl) (by kernel_rfl) (by kernel_rfl) (fun _ _ _ h => h) (yieldsIf_load_row (by kernel_rfl) 27 (.tmp 5) rfl (bg) rfl 27 (rowN 29 (frC G (.slice pg m cg))) (0, 0) _ (fun _ h => (h.1).blk) Try.underlying27 rfl (by rw [rowN_size]; exact Hs29.out)) (by assumption) ?_; try simp only [Act.put, List.setIfInBounds_toArray, List.set_cons_zero, List.set_cons_succ]
      refine wpAnyH_take (i := 4) (oi := ⟨some _, _, _, _, _, _⟩) (v := ?_) rfl (by kernel_rfl) (by kernel_rfl) (by kernel_rfl) (fun _ _ _ h => h) (Or.inl ⟨by kernel_rfl, ?_⟩) (by assumption) ?_; rotate_left; (intro w hSw; (try dsimp only at hSw); go_simp; try with_reducible rfl); try simp only [Act.put, List.setIfInBounds_toArray, List.set_cons_zero, List.set_cons_succ]
      refine wpAnyH_take (i := 5) (oi := ⟨some _, _, _, _, _, _⟩) (v := ?_) rfl (by kernel_rfl) (by kernel_rfl) (by kernel_rfl) (fun _ _ _ h => h) (Or.inl ⟨by kernel_rfl, ?_⟩) (by assumption) ?_; rotate_left; (intro w hSw; (try dsimp only at hSw); go_simp; try with_reducible rfl); try simp only [Act.put, List.setIfInBounds_toArray, List.set_cons_zero, List.set_cons_succ]
      refine wpAnyH_take (i := 8) (oi := ⟨some _, _, _, _, _, _⟩) (v := ?_) rfl (by kernel_rfl) (by kernel_rfl) (by kernel_rfl) (fun _ _ _ h => h) (Or.inl ⟨by kernel_rfl, ?_⟩) (by assumption) ?_; rotate_left; (intro w hSw; (try dsimp only at hSw); go_simp; try with_reducible rfl); try simp only [Act.put, List.setIfInBounds_toArray, List.set_cons_zero, List.set_cons_succ]
      refine wpAnyH_take (i := 9) (oi := ⟨some _, _, _, _, _, _⟩) (v := .string str) rfl (by kernel_rfl) (by kernel_rfl) (by kernel_rfl) (fun _ _ _ h => h) (yieldsIf_conv (by kernel_rfl) 29 9 (.tmp 68) rfl (.string str) (fun _ h => h.2)) (by assumption) ?_; try simp only [Act.put, List.setIfInBounds_toArray, List.set_cons_zero, List.set_cons_succ]
      refine wpAnyH_ready (rs := [6]) (by kernel_rfl) (by simp) ?_
      refine AllReadyH.cons (o := ⟨_, _, _, _, _, _⟩) rfl (fun K hK => ?_) AllReadyH.nil
      go_simp
      refine (HBg.out _ o1').mono ?_
      rintro e V2 ⟨o2, g2, rfl, _, hg2⟩
      rw [HPd.out] at hg2
      have hcv := conv_slI (row_SlI hg2 HLs.out (by unfold maxLen; omega))
      rw [HStr.out] at hcv
      have o2' := o1'.trans o2
      clear hg2
      go_wp2_with fail
      refine hK.out _ _ ?_ (fun hHeld => ?_)
      · (try dsimp only); exact ⟨HG.out _ o2', HCv.out _ (HSb.out _ o2')⟩
      clear hK K
      try simp only [Act.put, List.setIfInBounds_toArray, List.set_cons_zero, List.set_cons_succ]
      refine wpAnyH_ready (rs := [7]) (by kernel_rfl) (by simp) ?_
      refine AllReadyH.cons (o := ⟨_, _, _, _, _, _⟩) rfl (fun K hK => ?_) AllReadyH.nil
      go_simp
      go_wp2_with fail
      refine hK.out _ _ ?_ (fun hHeld => ?_)
      · (try dsimp only); exact ⟨HG.out _ o2', HCv.out _ (HSb.out _ o2')⟩
      clear hK K
      try simp only [Act.put, List.setIfInBounds_toArray, List.set_cons_zero, List.set_cons_succ]
      clear hcv
      refine wpAnyH_take (i := 10) (oi := ⟨some _, _, _, _, _, _⟩) (v := ?_) rfl (by kernel_rfl) (by kernel_rfl) (by kernel_rfl) (fun _ _ _ h => h) (Or.inl ⟨by kernel_rfl, ?_⟩) (by assumption) ?_; rotate_left; (intro w hSw; (try dsimp only at hSw); go_simp; try with_reducible rfl); try simp only [Act.put, List.setIfInBounds_toArray, List.set_cons_zero, List.set_cons_succ]
      refine wpAnyH_take (i := 11) (oi := ⟨some _, _, _, _, _, _⟩) (v := ?_) rfl (by kernel_rfl) (by kernel_rfl) (by kernel_rfl) (fun _ _ _ h => h) (Or.inl ⟨by kernel_rfl, ?_⟩) (by assumption) ?_; rotate_left; (intro w hSw; (try dsimp only at hSw); go_simp; try with_reducible rfl); try simp only [Act.put, List.setIfInBounds_toArray, List.set_cons_zero, List.set_cons_succ]
      refine wpAnyH_take (i := 12) (oi := ⟨some _, _, _, _, _, _⟩) (v := ?_) rfl (by kernel_rfl) (by kernel_rfl) (by kernel_rfl) (fun _ _ _ h => h) (Or.inl ⟨by kernel_rfl, ?_⟩) (by assumption) ?_; rotate_left; (intro w hSw; (try dsimp only at hSw); go_simp; try with_reducible rfl); try simp only [Act.put, List.setIfInBounds_toArray, List.set_cons_zero, List.set_cons_succ]
      refine wpAnyH_ready (rs := [13]) (by kernel_rfl) (by simp) ?_
      refine AllReadyH.cons (o := ⟨_, _, _, _, _, _⟩) rfl (fun K hK => ?_) AllReadyH.nil
      go_simp
      refine (HAw.out _).mono ?_
      rintro e V3 ⟨rfl, o3⟩
      have o3' := o2'.trans o3
      go_wp2_with fail
      refine hK.out _ _ ?_ (fun hHeld => ?_)
      · (try dsimp only); exact ⟨HG.out _ o3', HCv.out _ (HSb.out _ o3')⟩
      clear hK K
      try simp only [Act.put, List.setIfInBounds_toArray, List.set_cons_zero, List.set_cons_succ]
      refine wpAnyH_take (i := 14) (oi := ⟨some _, _, _, _, _, _⟩) (v := ?_) rfl (by kernel_rfl) (by kernel_rfl) (by kernel_rfl) (fun _ _ _ h => h) (Or.inl ⟨by kernel_rfl, ?_⟩) (by assumption) ?_; rotate_left; (intro w hSw; (try dsimp only at hSw); go_simp; try with_reducible rfl); try simp only [Act.put, List.setIfInBounds_toArray, List.set_cons_zero, List.set_cons_succ]
      refine wpAnyH_take (i := 15) (oi := ⟨some _, _, _, _, _, _⟩) (v := ?_) rfl (by kernel_rfl) (by kernel_rfl) (by kernel_rfl) (fun _ _ _ h => h) (Or.inl ⟨by kernel_rfl, ?_⟩) (by assumption) ?_; rotate_left; (intro w hSw; (try dsimp only at hSw); go_simp; try with_reducible rfl); try simp only [Act.put, List.setIfInBounds_toArray, List.set_cons_zero, List.set_cons_succ]
      refine wpAnyH_done (by kernel_rfl) ?_ _
      have HOz := Lib.hid (HOb.out.trans o3')
      clear o1 o1' o2 o2' o3 o3' HK HG HSb HBg HRg HAw
      go_wp2_with fail
      go_ret
      exact ⟨rfl, HOz.out⟩
    · have HNe := Lib.hid he0
      clear he0
      by_cases hP : FrP F k5 T
      · have hr2 := HR2f.out
        rw [decide_eq_true hP] at hr2
        have HR2 := Lib.hid hr2
        have hmy := fun (W : World) (h : Old w W) => many_any F p k5 c W hP.hw k55
        obtain ⟨cst, hcst⟩ : ∃ cst, costI F k5 = cst := ⟨_, rfl⟩
        have hcb := cost_bd hP
        have hlen := enc_len hP
        rw [hcst] at hmy hcb hlen
        have HMy := Lib.hid hmy
        obtain ⟨cb0, cb1⟩ := hcb
        clear hr2 HR2f hcst hmy
        by_cases hl : 8 * (200 : Int) < cst
        · exact absurd hl (by omega)
        · have hl' : cst ≤ 8 * (200 : Int) := by omega
          have hd1 : decide ((1600 : Int) < cst) = false := by rw [decide_eq_false_iff_not]; omega
          clear hl
          have hne : padded (enc F k5 T) 200 ≠ ls := fun e => by
            have ht := tells_padded (enc F k5 T) 200 (by omega)
            rw [e] at ht
            exact absurd (HBack.out F k5 T hP ht).1 HNe.out
          have HBw := Lib.hid (fun (W : World) (h : Old w W) => bytes_any F p k5 c T 200 W ((HTf.out.old h).less k5n) k5c Hc.out hP (by omega) (by omega))
          obtain ⟨str2, hstr2⟩ : ∃ str2, strOfNums (padded (enc F k5 T) 200) = str2 := ⟨_, rfl⟩
          have HEq : Hid (str2.toList ≠ str.toList) := Lib.hid fun e => by
            rw [← hstr2, ← HStr.out] at e
            exact hne (str_inj (isBytes_padded _ _) HIs.out e)
          have HStr2 := Lib.hid hstr2
          clear hlen hP hne hstr2
          rcases Her.out with rfl | rfl | rfl
          · exact absurd rfl HNe.out
          · clear Her
            have hg0 := HBad.out HNe.out
            obtain ⟨hm0, hpg, hG0⟩ := hg0
            clear hpg
            have hs0 : sameP G m U (fun _ => 0) 0 (fun _ => 0) := ⟨hm0, fun j hj => absurd hj (by omega), fun k _ _ => hG0 k⟩
            have hsm := fun (W : World) => same_any G (fun _ => 0) pg none m 0 cg 0 U (fun _ => 0) W (fun h => absurd h (by omega)) (fun h => absurd h (by omega)) (by rw [hm0]; exact Nat.zero_le _) (Nat.zero_le _)
            rw [decide_eq_true hs0, frC_zero] at hsm
            have HSmz := Lib.hid (fun (W : World) (_ : Old w3 W) => hsm W)
            clear hsm hs0 hG0 hm0 HGood HBad Hm Hcg HfU HU3
            have HNe' : (2 != 0) = true := by decide
            go_wp2_with (first | (with_reducible refine wpList_store_row rfl 27 _ _ rfl w2.heap.size (rowN 29 (frC G (.slice pg m cg))) rfl rfl 27 _ (heap_alloc_new _ _) (by rw [rowN_size]; exact Hs29.out) (by rw [rowN_size]; kernel_rfl) H1g.out ?_; rw [World.setRow_alloc_new, ← Hw3.out, ← Hbg.out]) | (with_reducible refine wpList_load_row rfl 27 _ rfl w.heap.size rfl 27 (rowN 29 (frC F (.slice p k5 c))) (0, 0) _ ((HK.out _ (Old.refl _)).blk) Try.underlying27 rfl (by rw [rowN_size]; exact Hs29.out) ?_))
            refine (HR2.out _ HOb.out).mono ?_
            rintro e w4 ⟨rfl, oo⟩
            have HOldG := Lib.hid oo
            have HKn := Lib.hid (fun W (h : Old w4 W) => HK.out W (oo.trans h))
            have HGn := Lib.hid (fun W (h : Old w4 W) => HG.out W (oo.trans h))
            have HSbn := Lib.hid (fun W (h : Old w4 W) => HSb.out W (oo.trans h))
            have HObn := Lib.hid (HOb.out.trans oo)
            clear oo HOb HK HG HSb
            have HK := HKn
            have HG := HGn
            have HSb := HSbn
            have HOb := HObn
            clear HObn HKn HGn HSbn
            go_wp2_with (with_reducible refine wpList_load_row_w (by kernel_rfl) 27 _ rfl w.heap.size rfl 27 (rowN 29 (frC F (.slice p k5 c))) (0, 0) _ ((HK.out _ (Old.refl _)).blk) Try.underlying27 rfl (by rw [rowN_size]; exact Hs29.out) ?_)
            refine (HMy.out _ HOb.out).mono ?_
            rintro e w5 ⟨rfl, oo⟩
            have HOldG2 := Lib.hid (HOldG.out.trans oo)
            clear HOldG
            have HOldG := HOldG2
            clear HOldG2
            have HKn := Lib.hid (fun W (h : Old w5 W) => HK.out W (oo.trans h))
            have HGn := Lib.hid (fun W (h : Old w5 W) => HG.out W (oo.trans h))
            have HSbn := Lib.hid (fun W (h : Old w5 W) => HSb.out W (oo.trans h))
            have HObn := Lib.hid (HOb.out.trans oo)
            clear oo HOb HK HG HSb
            have HK := HKn
            have HG := HGn
            have HSb := HSbn
            have HOb := HObn
            clear HObn HKn HGn HSbn
            go_wp2_with fail
            refine wp_region_held_drew (S := (fun w' => FrB 27 w' w.heap.size F (.slice p k5 c) ∧ (convert 29 9 (.slice s 200 cap)).run Try.prog w' = .ok (.string str) w')) (by kernel_rfl) ?_ (fun hHeld => ?_)
            · (try dsimp only); exact ⟨HK.out _ ((Old.refl w5).drew), HCv.out _ (HSb.out _ ((Old.refl w5).drew))⟩
            refine wpAnyH_take (i := 0) (oi := ⟨some _, _, _, _, _, _⟩) (v := .agg (rowN 29 (frC F (.slice p k5 c)))) rfl (by kernel_rfl) (by kernel_rfl) (by kernel_rfl) (fun _ _ _ h => h) (yieldsIf_load_row (by kernel_rfl) 27 (.tmp 3) rfl (w.heap.size) rfl 27 (rowN 29 (frC F (.slice p k5 c))) (0, 0) _ (fun _ h => (h.1).blk) Try.underlying27 rfl (by rw [rowN_size]; exact Hs29.out)) (by assumption) ?_; try simp only [Act.put, List.setIfInBounds_toArray, List.set_cons_zero, List.set_cons_succ]
            refine wpAnyH_take (i := 1) (oi := ⟨some _, _, _, _, _, _⟩) (v := ?_) rfl (by kernel_rfl) (by kernel_rfl) (by kernel_rfl) (fun _ _ _ h => h) (Or.inl ⟨by kernel_rfl, ?_⟩) (by assumption) ?_; rotate_left; (intro w hSw; (try dsimp only at hSw); go_simp; try with_reducible rfl); try simp only [Act.put, List.setIfInBounds_toArray, List.set_cons_zero, List.set_cons_succ]
            refine wpAnyH_take (i := 2) (oi := ⟨some _, _, _, _, _, _⟩) (v := ?_) rfl (by kernel_rfl) (by kernel_rfl) (by kernel_rfl) (fun _ _ _ h => h) (Or.inl ⟨by kernel_rfl, ?_⟩) (by assumption) ?_; rotate_left; (intro w hSw; (try dsimp only at hSw); go_simp; try with_reducible rfl); try simp only [Act.put, List.setIfInBounds_toArray, List.set_cons_zero, List.set_cons_succ]
            refine wpAnyH_take (i := 5) (oi := ⟨some _, _, _, _, _, _⟩) (v := ?_) rfl (by kernel_rfl) (by kernel_rfl) (by kernel_rfl) (fun _ _ _ h => h) (Or.inl ⟨by kernel_rfl, ?_⟩) (by assumption) ?_; rotate_left; (intro w hSw; (try dsimp only at hSw); go_simp; try with_reducible rfl); try simp only [Act.put, List.setIfInBounds_toArray, List.set_cons_zero, List.set_cons_succ]
            refine wpAnyH_take (i := 6) (oi := ⟨some _, _, _, _, _, _⟩) (v := .string str) rfl (by kernel_rfl) (by kernel_rfl) (by kernel_rfl) (fun _ _ _ h => h) (yieldsIf_conv (by kernel_rfl) 29 9 (.tmp 40) rfl (.string str) (fun _ h => h.2)) (by assumption) ?_; try simp only [Act.put, List.setIfInBounds_toArray, List.set_cons_zero, List.set_cons_succ]
            refine wpAnyH_ready (rs := [3]) (by kernel_rfl) (by simp) ?_
            refine AllReadyH.cons (o := ⟨_, _, _, _, _, _⟩) rfl (fun K hK => ?_) AllReadyH.nil
            go_simp
            refine (HBw.out _ (HOb.out.trans ((Old.refl w5).drew))).mono ?_
            rintro e V1 ⟨o1, g2, rfl, _, hg2⟩
            have hcv := conv_slI (row_SlI hg2 (length_padded _ _) (by unfold maxLen; omega))
            rw [HStr2.out] at hcv
            have o1' := ((Old.refl w5).drew).trans o1
            clear hg2
            go_wp2_with fail
            refine hK.out _ _ ?_ (fun hHeld => ?_)
            · (try dsimp only); exact ⟨HK.out _ o1', HCv.out _ (HSb.out _ o1')⟩
            clear hK K
            try simp only [Act.put, List.setIfInBounds_toArray, List.set_cons_zero, List.set_cons_succ]
            refine wpAnyH_ready (rs := [4]) (by kernel_rfl) (by simp) ?_
            refine AllReadyH.cons (o := ⟨_, _, _, _, _, _⟩) rfl (fun K hK => ?_) AllReadyH.nil
            go_simp
            go_wp2_with fail
            refine hK.out _ _ ?_ (fun hHeld => ?_)
            · (try dsimp only); exact ⟨HK.out _ o1', HCv.out _ (HSb.out _ o1')⟩
            clear hK K
            try simp only [Act.put, List.setIfInBounds_toArray, List.set_cons_zero, List.set_cons_succ]
            clear hcv
            refine wpAnyH_take (i := 7) (oi := ⟨some _, _, _, _, _, _⟩) (v := .bool true) rfl (by kernel_rfl) (by kernel_rfl) (by kernel_rfl) (fun _ _ _ h => h) (yieldsIf_neq_str (by kernel_rfl) 9 9 (.tmp 39) (.tmp 41) rfl str2 str rfl rfl HEq.out) (by assumption) ?_; try simp only [Act.put, List.setIfInBounds_toArray, List.set_cons_zero, List.set_cons_succ]
            refine wpAnyH_take (i := 8) (oi := ⟨some _, _, _, _, _, _⟩) (v := ?_) rfl (by kernel_rfl) (by kernel_rfl) (by kernel_rfl) (fun _ _ _ h => h) (Or.inl ⟨by kernel_rfl, ?_⟩) (by assumption) ?_; rotate_left; (intro w hSw; (try dsimp only at hSw); go_simp; try with_reducible rfl); try simp only [Act.put, List.setIfInBounds_toArray, List.set_cons_zero, List.set_cons_succ]
            refine wpAnyH_done (by kernel_rfl) ?_ _
            have oo := o1'
            have HOldG2 := Lib.hid (HOldG.out.trans oo)
            clear HOldG o1 o1'
            have HOldG := HOldG2
            clear HOldG2
            obtain ⟨w6, rfl⟩ : ∃ X, X = V1 := ⟨_, rfl⟩
            have HKn := Lib.hid (fun W (h : Old w6 W) => HK.out W (oo.trans h))
            have HGn := Lib.hid (fun W (h : Old w6 W) => HG.out W (oo.trans h))
            have HSbn := Lib.hid (fun W (h : Old w6 W) => HSb.out W (oo.trans h))
            have HObn := Lib.hid (HOb.out.trans oo)
            clear oo HOb HK HG HSb
            have HK := HKn
            have HG := HGn
            have HSb := HSbn
            have HOb := HObn
            clear HObn HKn HGn HSbn
            go_wp2_with (first | (with_reducible refine wpList_load_row_w (by kernel_rfl) 27 _ rfl bg rfl 27 (rowN 29 (frC G (.slice pg m cg))) (0, 0) _ ((HG.out _ (Old.refl _)).blk) Try.underlying27 rfl (by rw [rowN_size]; exact Hs29.out) ?_))
            refine (HSmz.out _ HOldG.out).mono ?_
            rintro e wy ⟨rfl, oo⟩
            have HKn := Lib.hid (fun W (h : Old wy W) => HK.out W (oo.trans h))
            have HGn := Lib.hid (fun W (h : Old wy W) => HG.out W (oo.trans h))
            have HSbn := Lib.hid (fun W (h : Old wy W) => HSb.out W (oo.trans h))
            have HObn := Lib.hid (HOb.out.trans oo)
            clear oo HOb HK HG HSb
            have HK := HKn
            have HG := HGn
            have HSb := HSbn
            have HOb := HObn
            clear HObn HKn HGn HSbn
            go_wp2_with fail
            refine (HAw.out _).mono ?_
            rintro e wz ⟨rfl, oo⟩
            have HOz := Lib.hid (HOb.out.trans oo)
            clear oo HOb HK HG HSb
            go_wp2_with fail
            go_ret
            exact ⟨rfl, HOz.out⟩
          · clear Her
            have hg0 := HBad.out HNe.out
            obtain ⟨hm0, hpg, hG0⟩ := hg0
            clear hpg
            have hs0 : sameP G m U (fun _ => 0) 0 (fun _ => 0) := ⟨hm0, fun j hj => absurd hj (by omega), fun k _ _ => hG0 k⟩
            have hsm := fun (W : World) => same_any G (fun _ => 0) pg none m 0 cg 0 U (fun _ => 0) W (fun h => absurd h (by omega)) (fun h => absurd h (by omega)) (by rw [hm0]; exact Nat.zero_le _) (Nat.zero_le _)
            rw [decide_eq_true hs0, frC_zero] at hsm
            have HSmz := Lib.hid (fun (W : World) (_ : Old w3 W) => hsm W)
            clear hsm hs0 hG0 hm0 HGood HBad Hm Hcg HfU HU3
            have HNe' : (4 != 0) = true := by decide
            go_wp2_with (first | (with_reducible refine wpList_store_row rfl 27 _ _ rfl w2.heap.size (rowN 29 (frC G (.slice pg m cg))) rfl rfl 27 _ (heap_alloc_new _ _) (by rw [rowN_size]; exact Hs29.out) (by rw [rowN_size]; kernel_rfl) H1g.out ?_; rw [World.setRow_alloc_new, ← Hw3.out, ← Hbg.out]) | (with_reducible refine wpList_load_row rfl 27 _ rfl w.heap.size rfl 27 (rowN 29 (frC F (.slice p k5 c))) (0, 0) _ ((HK.out _ (Old.refl _)).blk) Try.underlying27 rfl (by rw [rowN_size]; exact Hs29.out) ?_))
            refine (HR2.out _ HOb.out).mono ?_
            rintro e w4 ⟨rfl, oo⟩
            have HOldG := Lib.hid oo
            have HKn := Lib.hid (fun W (h : Old w4 W) => HK.out W (oo.trans h))
            have HGn := Lib.hid (fun W (h : Old w4 W) => HG.out W (oo.trans h))
            have HSbn := Lib.hid (fun W (h : Old w4 W) => HSb.out W (oo.trans h))
            have HObn := Lib.hid (HOb.out.trans oo)
            clear oo HOb HK HG HSb
            have HK := HKn
            have HG := HGn
            have HSb := HSbn
            have HOb := HObn
            clear HObn HKn HGn HSbn
            go_wp2_with (with_reducible refine wpList_load_row_w (by kernel_rfl) 27 _ rfl w.heap.size rfl 27 (rowN 29 (frC F (.slice p k5 c))) (0, 0) _ ((HK.out _ (Old.refl _)).blk) Try.underlying27 rfl (by rw [rowN_size]; exact Hs29.out) ?_)
            refine (HMy.out _ HOb.out).mono ?_
            rintro e w5 ⟨rfl, oo⟩
            have HOldG2 := Lib.hid (HOldG.out.trans oo)
            clear HOldG
            have HOldG := HOldG2
            clear HOldG2
            have HKn := Lib.hid (fun W (h : Old w5 W) => HK.out W (oo.trans h))
            have HGn := Lib.hid (fun W (h : Old w5 W) => HG.out W (oo.trans h))
            have HSbn := Lib.hid (fun W (h : Old w5 W) => HSb.out W (oo.trans h))
            have HObn := Lib.hid (HOb.out.trans oo)
            clear oo HOb HK HG HSb
            have HK := HKn
            have HG := HGn
            have HSb := HSbn
            have HOb := HObn
            clear HObn HKn HGn HSbn
            go_wp2_with fail
            refine wp_region_held_drew (S := (fun w' => FrB 27 w' w.heap.size F (.slice p k5 c) ∧ (convert 29 9 (.slice s 200 cap)).run Try.prog w' = .ok (.string str) w')) (by kernel_rfl) ?_ (fun hHeld => ?_)
            · (try dsimp only); exact ⟨HK.out _ ((Old.refl w5).drew), HCv.out _ (HSb.out _ ((Old.refl w5).drew))⟩
            refine wpAnyH_take (i := 0) (oi := ⟨some _, _, _, _, _, _⟩) (v := .agg (rowN 29 (frC F (.slice p k5 c)))) rfl (by kernel_rfl) (by kernel_rfl) (by kernel_rfl) (fun _ _ _ h => h) (yieldsIf_load_row (by kernel_rfl) 27 (.tmp 3) rfl (w.heap.size) rfl 27 (rowN 29 (frC F (.slice p k5 c))) (0, 0) _ (fun _ h => (h.1).blk) Try.underlying27 rfl (by rw [rowN_size]; exact Hs29.out)) (by assumption) ?_; try simp only [Act.put, List.setIfInBounds_toArray, List.set_cons_zero, List.set_cons_succ]
            refine wpAnyH_take (i := 1) (oi := ⟨some _, _, _, _, _, _⟩) (v := ?_) rfl (by kernel_rfl) (by kernel_rfl) (by kernel_rfl) (fun _ _ _ h => h) (Or.inl ⟨by kernel_rfl, ?_⟩) (by assumption) ?_; rotate_left; (intro w hSw; (try dsimp only at hSw); go_simp; try with_reducible rfl); try simp only [Act.put, List.setIfInBounds_toArray, List.set_cons_zero, List.set_cons_succ]
            refine wpAnyH_take (i := 2) (oi := ⟨some _, _, _, _, _, _⟩) (v := ?_) rfl (by kernel_rfl) (by kernel_rfl) (by kernel_rfl) (fun _ _ _ h => h) (Or.inl ⟨by kernel_rfl, ?_⟩) (by assumption) ?_; rotate_left; (intro w hSw; (try dsimp only at hSw); go_simp; try with_reducible rfl); try simp only [Act.put, List.setIfInBounds_toArray, List.set_cons_zero, List.set_cons_succ]
            refine wpAnyH_take (i := 5) (oi := ⟨some _, _, _, _, _, _⟩) (v := ?_) rfl (by kernel_rfl) (by kernel_rfl) (by kernel_rfl) (fun _ _ _ h => h) (Or.inl ⟨by kernel_rfl, ?_⟩) (by assumption) ?_; rotate_left; (intro w hSw; (try dsimp only at hSw); go_simp; try with_reducible rfl); try simp only [Act.put, List.setIfInBounds_toArray, List.set_cons_zero, List.set_cons_succ]
            refine wpAnyH_take (i := 6) (oi := ⟨some _, _, _, _, _, _⟩) (v := .string str) rfl (by kernel_rfl) (by kernel_rfl) (by kernel_rfl) (fun _ _ _ h => h) (yieldsIf_conv (by kernel_rfl) 29 9 (.tmp 40) rfl (.string str) (fun _ h => h.2)) (by assumption) ?_; try simp only [Act.put, List.setIfInBounds_toArray, List.set_cons_zero, List.set_cons_succ]
            refine wpAnyH_ready (rs := [3]) (by kernel_rfl) (by simp) ?_
            refine AllReadyH.cons (o := ⟨_, _, _, _, _, _⟩) rfl (fun K hK => ?_) AllReadyH.nil
            go_simp
            refine (HBw.out _ (HOb.out.trans ((Old.refl w5).drew))).mono ?_
            rintro e V1 ⟨o1, g2, rfl, _, hg2⟩
            have hcv := conv_slI (row_SlI hg2 (length_padded _ _) (by unfold maxLen; omega))
            rw [HStr2.out] at hcv
            have o1' := ((Old.refl w5).drew).trans o1
            clear hg2
            go_wp2_with fail
            refine hK.out _ _ ?_ (fun hHeld => ?_)
            · (try dsimp only); exact ⟨HK.out _ o1', HCv.out _ (HSb.out _ o1')⟩
            clear hK K
            try simp only [Act.put, List.setIfInBounds_toArray, List.set_cons_zero, List.set_cons_succ]
            refine wpAnyH_ready (rs := [4]) (by kernel_rfl) (by simp) ?_
            refine AllReadyH.cons (o := ⟨_, _, _, _, _, _⟩) rfl (fun K hK => ?_) AllReadyH.nil
            go_simp
            go_wp2_with fail
            refine hK.out _ _ ?_ (fun hHeld => ?_)
            · (try dsimp only); exact ⟨HK.out _ o1', HCv.out _ (HSb.out _ o1')⟩
            clear hK K
            try simp only [Act.put, List.setIfInBounds_toArray, List.set_cons_zero, List.set_cons_succ]
            clear hcv
            refine wpAnyH_take (i := 7) (oi := ⟨some _, _, _, _, _, _⟩) (v := .bool true) rfl (by kernel_rfl) (by kernel_rfl) (by kernel_rfl) (fun _ _ _ h => h) (yieldsIf_neq_str (by kernel_rfl) 9 9 (.tmp 39) (.tmp 41) rfl str2 str rfl rfl HEq.out) (by assumption) ?_; try simp only [Act.put, List.setIfInBounds_toArray, List.set_cons_zero, List.set_cons_succ]
            refine wpAnyH_take (i := 8) (oi := ⟨some _, _, _, _, _, _⟩) (v := ?_) rfl (by kernel_rfl) (by kernel_rfl) (by kernel_rfl) (fun _ _ _ h => h) (Or.inl ⟨by kernel_rfl, ?_⟩) (by assumption) ?_; rotate_left; (intro w hSw; (try dsimp only at hSw); go_simp; try with_reducible rfl); try simp only [Act.put, List.setIfInBounds_toArray, List.set_cons_zero, List.set_cons_succ]
            refine wpAnyH_done (by kernel_rfl) ?_ _
            have oo := o1'
            have HOldG2 := Lib.hid (HOldG.out.trans oo)
            clear HOldG o1 o1'
            have HOldG := HOldG2
            clear HOldG2
            obtain ⟨w6, rfl⟩ : ∃ X, X = V1 := ⟨_, rfl⟩
            have HKn := Lib.hid (fun W (h : Old w6 W) => HK.out W (oo.trans h))
            have HGn := Lib.hid (fun W (h : Old w6 W) => HG.out W (oo.trans h))
            have HSbn := Lib.hid (fun W (h : Old w6 W) => HSb.out W (oo.trans h))
            have HObn := Lib.hid (HOb.out.trans oo)
            clear oo HOb HK HG HSb
            have HK := HKn
            have HG := HGn
            have HSb := HSbn
            have HOb := HObn
            clear HObn HKn HGn HSbn
            go_wp2_with (first | (with_reducible refine wpList_load_row_w (by kernel_rfl) 27 _ rfl bg rfl 27 (rowN 29 (frC G (.slice pg m cg))) (0, 0) _ ((HG.out _ (Old.refl _)).blk) Try.underlying27 rfl (by rw [rowN_size]; exact Hs29.out) ?_))
            refine (HSmz.out _ HOldG.out).mono ?_
            rintro e wy ⟨rfl, oo⟩
            have HKn := Lib.hid (fun W (h : Old wy W) => HK.out W (oo.trans h))
            have HGn := Lib.hid (fun W (h : Old wy W) => HG.out W (oo.trans h))
            have HSbn := Lib.hid (fun W (h : Old wy W) => HSb.out W (oo.trans h))
            have HObn := Lib.hid (HOb.out.trans oo)
            clear oo HOb HK HG HSb
            have HK := HKn
            have HG := HGn
            have HSb := HSbn
            have HOb := HObn
            clear HObn HKn HGn HSbn
            go_wp2_with fail
            refine (HAw.out _).mono ?_
            rintro e wz ⟨rfl, oo⟩
            have HOz := Lib.hid (HOb.out.trans oo)
            clear oo HOb HK HG HSb
            go_wp2_with fail
            go_ret
            exact ⟨rfl, HOz.out⟩
      · have hr2 := HR2f.out
        rw [decide_eq_false hP] at hr2
        have HR2 := Lib.hid hr2
        clear hr2 HR2f hP
        rcases Her.out with rfl | rfl | rfl
        · exact absurd rfl HNe.out
        · clear Her
          have hg0 := HBad.out HNe.out
          obtain ⟨hm0, hpg, hG0⟩ := hg0
          clear hpg
          have hs0 : sameP G m U (fun _ => 0) 0 (fun _ => 0) := ⟨hm0, fun j hj => absurd hj (by omega), fun k _ _ => hG0 k⟩
          have hsm := fun (W : World) => same_any G (fun _ => 0) pg none m 0 cg 0 U (fun _ => 0) W (fun h => absurd h (by omega)) (fun h => absurd h (by omega)) (by rw [hm0]; exact Nat.zero_le _) (Nat.zero_le _)
          rw [decide_eq_true hs0, frC_zero] at hsm
          have HSmz := Lib.hid (fun (W : World) (_ : Old w3 W) => hsm W)
          clear hsm hs0 hG0 hm0 HGood HBad Hm Hcg HfU HU3
          have HNe' : (2 != 0) = true := by decide
          go_wp2_with (first | (with_reducible refine wpList_store_row rfl 27 _ _ rfl w2.heap.size (rowN 29 (frC G (.slice pg m cg))) rfl rfl 27 _ (heap_alloc_new _ _) (by rw [rowN_size]; exact Hs29.out) (by rw [rowN_size]; kernel_rfl) H1g.out ?_; rw [World.setRow_alloc_new, ← Hw3.out, ← Hbg.out]) | (with_reducible refine wpList_load_row rfl 27 _ rfl w.heap.size rfl 27 (rowN 29 (frC F (.slice p k5 c))) (0, 0) _ ((HK.out _ (Old.refl _)).blk) Try.underlying27 rfl (by rw [rowN_size]; exact Hs29.out) ?_))
          refine (HR2.out _ HOb.out).mono ?_
          rintro e w4 ⟨rfl, oo⟩
          have HOldG := Lib.hid oo
          have HKn := Lib.hid (fun W (h : Old w4 W) => HK.out W (oo.trans h))
          have HGn := Lib.hid (fun W (h : Old w4 W) => HG.out W (oo.trans h))
          have HSbn := Lib.hid (fun W (h : Old w4 W) => HSb.out W (oo.trans h))
          have HObn := Lib.hid (HOb.out.trans oo)
          clear oo HOb HK HG HSb
          have HK := HKn
          have HG := HGn
          have HSb := HSbn
          have HOb := HObn
          clear HObn HKn HGn HSbn
          go_wp2_with (first | (with_reducible refine wpList_load_row_w (by kernel_rfl) 27 _ rfl bg rfl 27 (rowN 29 (frC G (.slice pg m cg))) (0, 0) _ ((HG.out _ (Old.refl _)).blk) Try.underlying27 rfl (by rw [rowN_size]; exact Hs29.out) ?_))
          refine (HSmz.out _ HOldG.out).mono ?_
          rintro e wy ⟨rfl, oo⟩
          have HKn := Lib.hid (fun W (h : Old wy W) => HK.out W (oo.trans h))
          have HGn := Lib.hid (fun W (h : Old wy W) => HG.out W (oo.trans h))
          have HSbn := Lib.hid (fun W (h : Old wy W) => HSb.out W (oo.trans h))
          have HObn := Lib.hid (HOb.out.trans oo)
          clear oo HOb HK HG HSb
          have HK := HKn
          have HG := HGn
          have HSb := HSbn
          have HOb := HObn
          clear HObn HKn HGn HSbn
          go_wp2_with fail
          refine (HAw.out _).mono ?_
          rintro e wz ⟨rfl, oo⟩
          have HOz := Lib.hid (HOb.out.trans oo)
          clear oo HOb HK HG HSb
          go_wp2_with fail
          go_ret
          exact ⟨rfl, HOz.out⟩
        · clear Her
          have hg0 := HBad.out HNe.out
          obtain ⟨hm0, hpg, hG0⟩ := hg0
          clear hpg
          have hs0 : sameP G m U (fun _ => 0) 0 (fun _ => 0) := ⟨hm0, fun j hj => absurd hj (by omega), fun k _ _ => hG0 k⟩
          have hsm := fun (W : World) => same_any G (fun _ => 0) pg none m 0 cg 0 U (fun _ => 0) W (fun h => absurd h (by omega)) (fun h => absurd h (by omega)) (by rw [hm0]; exact Nat.zero_le _) (Nat.zero_le _)
          rw [decide_eq_true hs0, frC_zero] at hsm
          have HSmz := Lib.hid (fun (W : World) (_ : Old w3 W) => hsm W)
          clear hsm hs0 hG0 hm0 HGood HBad Hm Hcg HfU HU3
          have HNe' : (4 != 0) = true := by decide
          go_wp2_with (first | (with_reducible refine wpList_store_row rfl 27 _ _ rfl w2.heap.size (rowN 29 (frC G (.slice pg m cg))) rfl rfl 27 _ (heap_alloc_new _ _) (by rw [rowN_size]; exact Hs29.out) (by rw [rowN_size]; kernel_rfl) H1g.out ?_; rw [World.setRow_alloc_new, ← Hw3.out, ← Hbg.out]) | (with_reducible refine wpList_load_row rfl 27 _ rfl w.heap.size rfl 27 (rowN 29 (frC F (.slice p k5 c))) (0, 0) _ ((HK.out _ (Old.refl _)).blk) Try.underlying27 rfl (by rw [rowN_size]; exact Hs29.out) ?_))
          refine (HR2.out _ HOb.out).mono ?_
          rintro e w4 ⟨rfl, oo⟩
          have HOldG := Lib.hid oo
          have HKn := Lib.hid (fun W (h : Old w4 W) => HK.out W (oo.trans h))
          have HGn := Lib.hid (fun W (h : Old w4 W) => HG.out W (oo.trans h))
          have HSbn := Lib.hid (fun W (h : Old w4 W) => HSb.out W (oo.trans h))
          have HObn := Lib.hid (HOb.out.trans oo)
          clear oo HOb HK HG HSb
          have HK := HKn
          have HG := HGn
          have HSb := HSbn
          have HOb := HObn
          clear HObn HKn HGn HSbn
          go_wp2_with (first | (with_reducible refine wpList_load_row_w (by kernel_rfl) 27 _ rfl bg rfl 27 (rowN 29 (frC G (.slice pg m cg))) (0, 0) _ ((HG.out _ (Old.refl _)).blk) Try.underlying27 rfl (by rw [rowN_size]; exact Hs29.out) ?_))
          refine (HSmz.out _ HOldG.out).mono ?_
          rintro e wy ⟨rfl, oo⟩
          have HKn := Lib.hid (fun W (h : Old wy W) => HK.out W (oo.trans h))
          have HGn := Lib.hid (fun W (h : Old wy W) => HG.out W (oo.trans h))
          have HSbn := Lib.hid (fun W (h : Old wy W) => HSb.out W (oo.trans h))
          have HObn := Lib.hid (HOb.out.trans oo)
          clear oo HOb HK HG HSb
          have HK := HKn
          have HG := HGn
          have HSb := HSbn
          have HOb := HObn
          clear HObn HKn HGn HSbn
          go_wp2_with fail
          refine (HAw.out _).mono ?_
          rintro e wz ⟨rfl, oo⟩
          have HOz := Lib.hid (HOb.out.trans oo)
          clear oo HOb HK HG HSb
          go_wp2_with fail
          go_ret
          exact ⟨rfl, HOz.out⟩
  · have hsm : n' ≤ 200 := by omega
    have HSl := Lib.hid hs
    have HLs := Lib.hid hlx
    have HIs : Hid (isBytes xs) := Lib.hid hb
    obtain ⟨ls, hls⟩ : ∃ ls, ls = xs := ⟨_, rfl⟩
    rw [← hls] at HSl HLs HIs
    have HRd := Lib.hid (fun (W : World) (h : Old w W) => FRead_any (.slice s n' cap) ls W (HSl.out.old h) HIs.out (by rw [HLs.out]; omega))
    have HCv : Hid (∀ W, SlI W .u8 (.slice s n' cap) ls → (convert 29 9 (.slice s n' cap)).run Try.prog W = .ok (.string (strOfNums ls)) W) := Lib.hid fun W h => conv_slI h
    obtain ⟨str, hstr⟩ : ∃ str, strOfNums ls = str := ⟨_, rfl⟩
    rw [hstr] at HCv
    have HStr := Lib.hid hstr
    clear hls hstr hs hb hlx hbig
    go_enter Try.func4, Try.ntmps4
    go_wp2_with (with_reducible refine wpList_load_row rfl 27 _ rfl w.heap.size rfl 27 (rowN 29 (frC F (.slice p n c))) (0, 0) _ HA.out.blk Try.underlying27 rfl (by rw [rowN_size]; exact Hs29.out) ?_)
    refine (HFa.out _).mono ?_
    rintro e w1 ⟨rfl, ho1⟩
    have HA1 := Lib.hid (HA.out.old ho1)
    have hr1 := row_ret HA1.out.blk (HO.out.trans ho1) (Nat.le_refl _) (rowN 29 (frC F (.slice p k5 c)))
    have HV := Lib.hid (HA1.out.row F (.slice p k5 c))
    have HOv := Lib.hid hr1.2
    clear ho1 hr1 HA HO HFa
    go_wp2_with (with_reducible refine wpList_store_row rfl 27 _ _ rfl w.heap.size (rowN 29 (frC F (.slice p k5 c))) rfl rfl 27 _ HA1.out.blk (by rw [rowN_size]; exact Hs29.out) (by rw [rowN_size, rowN_size]) H1a.out ?_)
    obtain ⟨V, hV⟩ : ∃ V, V = w1.setRow w.heap.size (rowN 29 (frC F (.slice p k5 c))) := ⟨_, rfl⟩
    rw [← hV] at HV HOv ⊢
    clear hV HA1
    refine (HRd.out V HOv.out).mono ?_
    rintro e w2 ⟨G, m, pg, cg, U, er, rfl, oo, hm, hcg, hU, hfU, her, hgood, hbad, hback⟩
    have H1g : Hid ((rowN 29 (frC G (.slice pg m cg))).all (·.oneCell') = true) := Lib.hid (frC_one _ _ rfl)
    have HU := Lib.hid hU
    have HfU := Lib.hid hfU
    have HGood := Lib.hid hgood
    have HBad := Lib.hid hbad
    have HBack := Lib.hid hback
    have Hm := Lib.hid hm
    have Hcg := Lib.hid hcg
    have Her := Lib.hid her
    have hv2 := HV.out.old oo
    have hov2 := HOv.out.trans oo
    have HV2 := Lib.hid hv2
    have HOv2 := Lib.hid hov2
    clear oo hm hcg hU hfU her hgood hbad hback hv2 hov2 HV HOv HRd
    obtain ⟨w3, hw3⟩ : ∃ w3, w3 = w2.alloc (.cells (rowN 29 (frC G (.slice pg m cg))) 27) := ⟨_, rfl⟩
    obtain ⟨bg, hbg⟩ : ∃ bg, bg = w2.heap.size := ⟨_, rfl⟩
    have ho3 : Old w2 w3 := by rw [hw3]; exact Old.alloc _ _
    have hg3 : FrB 27 w3 bg G (.slice pg m cg) := by rw [hw3, hbg]; exact FrB.new w2 G _
    have HK := Lib.hid (fun W (h : Old w3 W) => HV2.out.old (ho3.trans h))
    have HG := Lib.hid (fun W (h : Old w3 W) => hg3.old h)
    have HOb := Lib.hid (HOv2.out.trans ho3)
    have HU3 := Lib.hid (HU.out.old ho3)
    have HSb := Lib.hid (fun W (h : Old w3 W) => HSl.out.old ((HOv2.out.trans ho3).trans h))
    have Hw3 := Lib.hid hw3
    have Hbg := Lib.hid hbg
    clear ho3 hg3 hw3 hbg HV2 HOv2 HU
    by_cases he0 : er = 0
    · subst he0
      clear Her
      obtain ⟨hP, hTl⟩ := HGood.out rfl
      have hls : (enc G m U).length ≤ 8 * n' := by have := pre_len hTl.1; rw [HLs.out] at this; exact this
      have hpd : padded (enc G m U) n' = ls := by have := padded_tells HIs.out hTl; rw [HLs.out] at this; exact this
      have hrg := fun (W : World) (h : Old w3 W) => right_any G pg m cg U W (HU3.out.old h) HfU.out Hm.out Hcg.out
      rw [decide_eq_true hP] at hrg
      have HRg := Lib.hid hrg
      have HBg := Lib.hid (fun (W : World) (h : Old w3 W) => bytes_any G pg m cg U n' W (HU3.out.old h) Hm.out Hcg.out hP (by omega) hls)
      have HPd := Lib.hid hpd
      clear hP hTl hls hpd hrg HGood HBad HBack Hm Hcg HfU HU3 HR2f
      go_wp2_with (with_reducible refine wpList_store_row rfl 27 _ _ rfl w2.heap.size (rowN 29 (frC G (.slice pg m cg))) rfl rfl 27 _ (heap_alloc_new _ _) (by rw [rowN_size]; exact Hs29.out) (by rw [rowN_size]; kernel_rfl) H1g.out ?_; rw [World.setRow_alloc_new, ← Hw3.out, ← Hbg.out])
      refine wp_region_held_drew (S := (fun w' => FrB 27 w' bg G (.slice pg m cg) ∧ (convert 29 9 (.slice s n' cap)).run Try.prog w' = .ok (.string str) w')) (by kernel_rfl) ?_ (fun hHeld => ?_)
      · (try dsimp only); exact ⟨HG.out _ ((Old.refl w3).drew), HCv.out _ (HSb.out _ ((Old.refl w3).drew))⟩
      refine wpAnyH_take (i := 0) (oi := ⟨some _, _, _, _, _, _⟩) (v := .agg (rowN 29 (frC G (.slice pg m cg)))) rfl (by kernel_rfl) (by kernel_rfl) (by kernel_rfl) (fun _ _ _ h => h) (yieldsIf_load_row (by kernel_rfl) 27 (.tmp 5) rfl (bg) rfl 27 (rowN 29 (frC G (.slice pg m cg))) (0, 0) _ (fun _ h => (h.1).blk) Try.underlying27 rfl (by rw [rowN_size]; exact Hs29.out)) (by assumption) ?_; try simp only [Act.put, List.setIfInBounds_toArray, List.set_cons_zero, List.set_cons_succ]
      refine wpAnyH_ready (rs := [1]) (by kernel_rfl) (by simp) ?_
      refine AllReadyH.cons (o := ⟨_, _, _, _, _, _⟩) rfl (fun K hK => ?_) AllReadyH.nil
      go_simp
      refine (HRg.out _ ((Old.refl w3).drew)).mono ?_
      rintro e V1 ⟨rfl, o1⟩
      have o1' := ((Old.refl w3).drew).trans o1
      go_wp2_with fail
      refine hK.out _ _ ?_ (fun hHeld => ?_)
      · (try dsimp only); exact ⟨HG.out _ o1', HCv.out _ (HSb.out _ o1')⟩
      clear hK K
      try simp only [Act.put, List.setIfInBounds_toArray, List.set_cons_zero, List.set_cons_succ]
      refine wpAnyH_take (i := 2) (oi := ⟨some _, _, _, _, _, _⟩) (v := ?_) rfl (by kernel_rfl) (by kernel_rfl) (by kernel_rfl) (fun _ _ _ h => h) (Or.inl ⟨by kernel_rfl, ?_⟩) (by assumption) ?_; rotate_left; (intro w hSw; (try dsimp only at hSw); go_simp; try with_reducible rfl); try simp only [Act.put, List.setIfInBounds_toArray, List.set_cons_zero, List.set_cons_succ]
      refine wpAnyH_take (i := 3) (oi := ⟨some _, _, _, _, _, _⟩) (v := .agg (rowN 29 (frC G (.slice pg m cg)))) rfl (by kernel_rfl) (by kernel_rfl) (by kernel_rfl) (fun _ _ _ h => h) (yieldsIf_load_row (by kernel_rfl) 27 (.tmp 5) rfl (bg) rfl 27 (rowN 29 (frC G (.slice pg m cg))) (0, 0) _ (fun _ h => (h.1).blk) Try.underlying27 rfl (by rw [rowN_size]; exact Hs29.out)) (by assumption) ?_; try simp only [Act.put, List.setIfInBounds_toArray, List.set_cons_zero, List.set_cons_succ]
      refine wpAnyH_take (i := 4) (oi := ⟨some _, _, _, _, _, _⟩) (v := ?_) rfl (by kernel_rfl) (by kernel_rfl) (by kernel_rfl) (fun _ _ _ h => h) (Or.inl ⟨by kernel_rfl, ?_⟩) (by assumption) ?_; rotate_left; (intro w hSw; (try dsimp only at hSw); go_simp; try with_reducible rfl); try simp only [Act.put, List.setIfInBounds_toArray, List.set_cons_zero, List.set_cons_succ]
      refine wpAnyH_take (i := 5) (oi := ⟨some _, _, _, _, _, _⟩) (v := ?_) rfl (by kernel_rfl) (by kernel_rfl) (by kernel_rfl) (fun _ _ _ h => h) (Or.inl ⟨by kernel_rfl, ?_⟩) (by assumption) ?_; rotate_left; (intro w hSw; (try dsimp only at hSw); go_simp; try with_reducible rfl); try simp only [Act.put, List.setIfInBounds_toArray, List.set_cons_zero, List.set_cons_succ]
      refine wpAnyH_take (i := 8) (oi := ⟨some _, _, _, _, _, _⟩) (v := ?_) rfl (by kernel_rfl) (by kernel_rfl) (by kernel_rfl) (fun _ _ _ h => h) (Or.inl ⟨by kernel_rfl, ?_⟩) (by assumption) ?_; rotate_left; (intro w hSw; (try dsimp only at hSw); go_simp; try with_reducible rfl); try simp only [Act.put, List.setIfInBounds_toArray, List.set_cons_zero, List.set_cons_succ]
      refine wpAnyH_take (i := 9) (oi := ⟨some _, _, _, _, _, _⟩) (v := .string str) rfl (by kernel_rfl) (by kernel_rfl) (by kernel_rfl) (fun _ _ _ h => h) (yieldsIf_conv (by kernel_rfl) 29 9 (.tmp 68) rfl (.string str) (fun _ h => h.2)) (by assumption) ?_; try simp only [Act.put, List.setIfInBounds_toArray, List.set_cons_zero, List.set_cons_succ]
      refine wpAnyH_ready (rs := [6]) (by kernel_rfl) (by simp) ?_
      refine AllReadyH.cons (o := ⟨_, _, _, _, _, _⟩) rfl (fun K hK => ?_) AllReadyH.nil
      go_simp
      refine (HBg.out _ o1').mono ?_
      rintro e V2 ⟨o2, g2, rfl, _, hg2⟩
      rw [HPd.out] at hg2
      have hcv := conv_slI (row_SlI hg2 HLs.out (by unfold maxLen; omega))
      rw [HStr.out] at hcv
      have o2' := o1'.trans o2
      clear hg2
      go_wp2_with fail
      refine hK.out _ _ ?_ (fun hHeld => ?_)
      · (try dsimp only); exact ⟨HG.out _ o2', HCv.out _ (HSb.out _ o2')⟩
      clear hK K
      try simp only [Act.put, List.setIfInBounds_toArray, List.set_cons_zero, List.set_cons_succ]
      refine wpAnyH_ready (rs := [7]) (by kernel_rfl) (by simp) ?_
      refine AllReadyH.cons (o := ⟨_, _, _, _, _, _⟩) rfl (fun K hK => ?_) AllReadyH.nil
      go_simp
      go_wp2_with fail
      refine hK.out _ _ ?_ (fun hHeld => ?_)
      · (try dsimp only); exact ⟨HG.out _ o2', HCv.out _ (HSb.out _ o2')⟩
      clear hK K
      try simp only [Act.put, List.setIfInBounds_toArray, List.set_cons_zero, List.set_cons_succ]
      clear hcv
      refine wpAnyH_take (i := 10) (oi := ⟨some _, _, _, _, _, _⟩) (v := ?_) rfl (by kernel_rfl) (by kernel_rfl) (by kernel_rfl) (fun _ _ _ h => h) (Or.inl ⟨by kernel_rfl, ?_⟩) (by assumption) ?_; rotate_left; (intro w hSw; (try dsimp only at hSw); go_simp; try with_reducible rfl); try simp only [Act.put, List.setIfInBounds_toArray, List.set_cons_zero, List.set_cons_succ]
      refine wpAnyH_take (i := 11) (oi := ⟨some _, _, _, _, _, _⟩) (v := ?_) rfl (by kernel_rfl) (by kernel_rfl) (by kernel_rfl) (fun _ _ _ h => h) (Or.inl ⟨by kernel_rfl, ?_⟩) (by assumption) ?_; rotate_left; (intro w hSw; (try dsimp only at hSw); go_simp; try with_reducible rfl); try simp only [Act.put, List.setIfInBounds_toArray, List.set_cons_zero, List.set_cons_succ]
      refine wpAnyH_take (i := 12) (oi := ⟨some _, _, _, _, _, _⟩) (v := ?_) rfl (by kernel_rfl) (by kernel_rfl) (by kernel_rfl) (fun _ _ _ h => h) (Or.inl ⟨by kernel_rfl, ?_⟩) (by assumption) ?_; rotate_left; (intro w hSw; (try dsimp only at hSw); go_simp; try with_reducible rfl); try simp only [Act.put, List.setIfInBounds_toArray, List.set_cons_zero, List.set_cons_succ]
      refine wpAnyH_ready (rs := [13]) (by kernel_rfl) (by simp) ?_
      refine AllReadyH.cons (o := ⟨_, _, _, _, _, _⟩) rfl (fun K hK => ?_) AllReadyH.nil
      go_simp
      refine (HAw.out _).mono ?_
      rintro e V3 ⟨rfl, o3⟩
      have o3' := o2'.trans o3
      go_wp2_with fail
      refine hK.out _ _ ?_ (fun hHeld => ?_)
      · (try dsimp only); exact ⟨HG.out _ o3', HCv.out _ (HSb.out _ o3')⟩
      clear hK K
      try simp only [Act.put, List.setIfInBounds_toArray, List.set_cons_zero, List.set_cons_succ]
      refine wpAnyH_take (i := 14) (oi := ⟨some _, _, _, _, _, _⟩) (v := ?_) rfl (by kernel_rfl) (by kernel_rfl) (by kernel_rfl) (fun _ _ _ h => h) (Or.inl ⟨by kernel_rfl, ?_⟩) (by assumption) ?_; rotate_left; (intro w hSw; (try dsimp only at hSw); go_simp; try with_reducible rfl); try simp only [Act.put, List.setIfInBounds_toArray, List.set_cons_zero, List.set_cons_succ]
      refine wpAnyH_take (i := 15) (oi := ⟨some _, _, _, _, _, _⟩) (v := ?_) rfl (by kernel_rfl) (by kernel_rfl) (by kernel_rfl) (fun _ _ _ h => h) (Or.inl ⟨by kernel_rfl, ?_⟩) (by assumption) ?_; rotate_left; (intro w hSw; (try dsimp only at hSw); go_simp; try with_reducible rfl); try simp only [Act.put, List.setIfInBounds_toArray, List.set_cons_zero, List.set_cons_succ]
      refine wpAnyH_done (by kernel_rfl) ?_ _
      have HOz := Lib.hid (HOb.out.trans o3')
      clear o1 o1' o2 o2' o3 o3' HK HG HSb HBg HRg HAw
      go_wp2_with fail
      go_ret
      exact ⟨rfl, HOz.out⟩
    · have HNe := Lib.hid he0
      clear he0
      by_cases hP : FrP F k5 T
      · have hr2 := HR2f.out
        rw [decide_eq_true hP] at hr2
        have HR2 := Lib.hid hr2
        have hmy := fun (W : World) (h : Old w W) => many_any F p k5 c W hP.hw k55
        obtain ⟨cst, hcst⟩ : ∃ cst, costI F k5 = cst := ⟨_, rfl⟩
        have hcb := cost_bd hP
        have hlen := enc_len hP
        rw [hcst] at hmy hcb hlen
        have HMy := Lib.hid hmy
        obtain ⟨cb0, cb1⟩ := hcb
        clear hr2 HR2f hcst hmy
        by_cases hl : 8 * (n' : Int) < cst
        · clear hlen hP
          rcases Her.out with rfl | rfl | rfl
          · exact absurd rfl HNe.out
          · clear Her
            have hg0 := HBad.out HNe.out
            obtain ⟨hm0, hpg, hG0⟩ := hg0
            clear hpg
            have hs0 : sameP G m U (fun _ => 0) 0 (fun _ => 0) := ⟨hm0, fun j hj => absurd hj (by omega), fun k _ _ => hG0 k⟩
            have hsm := fun (W : World) => same_any G (fun _ => 0) pg none m 0 cg 0 U (fun _ => 0) W (fun h => absurd h (by omega)) (fun h => absurd h (by omega)) (by rw [hm0]; exact Nat.zero_le _) (Nat.zero_le _)
            rw [decide_eq_true hs0, frC_zero] at hsm
            have HSmz := Lib.hid (fun (W : World) (_ : Old w3 W) => hsm W)
            clear hsm hs0 hG0 hm0 HGood HBad Hm Hcg HfU HU3
            have HNe' : (2 != 0) = true := by decide
            go_wp2_with (first | (with_reducible refine wpList_store_row rfl 27 _ _ rfl w2.heap.size (rowN 29 (frC G (.slice pg m cg))) rfl rfl 27 _ (heap_alloc_new _ _) (by rw [rowN_size]; exact Hs29.out) (by rw [rowN_size]; kernel_rfl) H1g.out ?_; rw [World.setRow_alloc_new, ← Hw3.out, ← Hbg.out]) | (with_reducible refine wpList_load_row rfl 27 _ rfl w.heap.size rfl 27 (rowN 29 (frC F (.slice p k5 c))) (0, 0) _ ((HK.out _ (Old.refl _)).blk) Try.underlying27 rfl (by rw [rowN_size]; exact Hs29.out) ?_))
            refine (HR2.out _ HOb.out).mono ?_
            rintro e w4 ⟨rfl, oo⟩
            have HOldG := Lib.hid oo
            have HKn := Lib.hid (fun W (h : Old w4 W) => HK.out W (oo.trans h))
            have HGn := Lib.hid (fun W (h : Old w4 W) => HG.out W (oo.trans h))
            have HSbn := Lib.hid (fun W (h : Old w4 W) => HSb.out W (oo.trans h))
            have HObn := Lib.hid (HOb.out.trans oo)
            clear oo HOb HK HG HSb
            have HK := HKn
            have HG := HGn
            have HSb := HSbn
            have HOb := HObn
            clear HObn HKn HGn HSbn
            go_wp2_with (with_reducible refine wpList_load_row_w (by kernel_rfl) 27 _ rfl w.heap.size rfl 27 (rowN 29 (frC F (.slice p k5 c))) (0, 0) _ ((HK.out _ (Old.refl _)).blk) Try.underlying27 rfl (by rw [rowN_size]; exact Hs29.out) ?_)
            refine (HMy.out _ HOb.out).mono ?_
            rintro e w5 ⟨rfl, oo⟩
            have HOldG2 := Lib.hid (HOldG.out.trans oo)
            clear HOldG
            have HOldG := HOldG2
            clear HOldG2
            have HKn := Lib.hid (fun W (h : Old w5 W) => HK.out W (oo.trans h))
            have HGn := Lib.hid (fun W (h : Old w5 W) => HG.out W (oo.trans h))
            have HSbn := Lib.hid (fun W (h : Old w5 W) => HSb.out W (oo.trans h))
            have HObn := Lib.hid (HOb.out.trans oo)
            clear oo HOb HK HG HSb
            have HK := HKn
            have HG := HGn
            have HSb := HSbn
            have HOb := HObn
            clear HObn HKn HGn HSbn
            go_wp2_with (first | (with_reducible refine wpList_load_row_w (by kernel_rfl) 27 _ rfl bg rfl 27 (rowN 29 (frC G (.slice pg m cg))) (0, 0) _ ((HG.out _ (Old.refl _)).blk) Try.underlying27 rfl (by rw [rowN_size]; exact Hs29.out) ?_))
            refine (HSmz.out _ HOldG.out).mono ?_
            rintro e wy ⟨rfl, oo⟩
            have HKn := Lib.hid (fun W (h : Old wy W) => HK.out W (oo.trans h))
            have HGn := Lib.hid (fun W (h : Old wy W) => HG.out W (oo.trans h))
            have HSbn := Lib.hid (fun W (h : Old wy W) => HSb.out W (oo.trans h))
            have HObn := Lib.hid (HOb.out.trans oo)
            clear oo HOb HK HG HSb
            have HK := HKn
            have HG := HGn
            have HSb := HSbn
            have HOb := HObn
            clear HObn HKn HGn HSbn
            go_wp2_with fail
            refine (HAw.out _).mono ?_
            rintro e wz ⟨rfl, oo⟩
            have HOz := Lib.hid (HOb.out.trans oo)
            clear oo HOb HK HG HSb
            go_wp2_with fail
            go_ret
            exact ⟨rfl, HOz.out⟩
          · clear Her
            have hg0 := HBad.out HNe.out
            obtain ⟨hm0, hpg, hG0⟩ := hg0
            clear hpg
            have hs0 : sameP G m U (fun _ => 0) 0 (fun _ => 0) := ⟨hm0, fun j hj => absurd hj (by omega), fun k _ _ => hG0 k⟩
            have hsm := fun (W : World) => same_any G (fun _ => 0) pg none m 0 cg 0 U (fun _ => 0) W (fun h => absurd h (by omega)) (fun h => absurd h (by omega)) (by rw [hm0]; exact Nat.zero_le _) (Nat.zero_le _)
            rw [decide_eq_true hs0, frC_zero] at hsm
            have HSmz := Lib.hid (fun (W : World) (_ : Old w3 W) => hsm W)
            clear hsm hs0 hG0 hm0 HGood HBad Hm Hcg HfU HU3
            have HNe' : (4 != 0) = true := by decide
            go_wp2_with (first | (with_reducible refine wpList_store_row rfl 27 _ _ rfl w2.heap.size (rowN 29 (frC G (.slice pg m cg))) rfl rfl 27 _ (heap_alloc_new _ _) (by rw [rowN_size]; exact Hs29.out) (by rw [rowN_size]; kernel_rfl) H1g.out ?_; rw [World.setRow_alloc_new, ← Hw3.out, ← Hbg.out]) | (with_reducible refine wpList_load_row rfl 27 _ rfl w.heap.size rfl 27 (rowN 29 (frC F (.slice p k5 c))) (0, 0) _ ((HK.out _ (Old.refl _)).blk) Try.underlying27 rfl (by rw [rowN_size]; exact Hs29.out) ?_))
            refine (HR2.out _ HOb.out).mono ?_
            rintro e w4 ⟨rfl, oo⟩
            have HOldG := Lib.hid oo
            have HKn := Lib.hid (fun W (h : Old w4 W) => HK.out W (oo.trans h))
            have HGn := Lib.hid (fun W (h : Old w4 W) => HG.out W (oo.trans h))
            have HSbn := Lib.hid (fun W (h : Old w4 W) => HSb.out W (oo.trans h))
            have HObn := Lib.hid (HOb.out.trans oo)
            clear oo HOb HK HG HSb
            have HK := HKn
            have HG := HGn
            have HSb := HSbn
            have HOb := HObn
            clear HObn HKn HGn HSbn
            go_wp2_with (with_reducible refine wpList_load_row_w (by kernel_rfl) 27 _ rfl w.heap.size rfl 27 (rowN 29 (frC F (.slice p k5 c))) (0, 0) _ ((HK.out _ (Old.refl _)).blk) Try.underlying27 rfl (by rw [rowN_size]; exact Hs29.out) ?_)
            refine (HMy.out _ HOb.out).mono ?_
            rintro e w5 ⟨rfl, oo⟩
            have HOldG2 := Lib.hid (HOldG.out.trans oo)
            clear HOldG
            have HOldG := HOldG2
            clear HOldG2
            have HKn := Lib.hid (fun W (h : Old w5 W) => HK.out W (oo.trans h))
            have HGn := Lib.hid (fun W (h : Old w5 W) => HG.out W (oo.trans h))
            have HSbn := Lib.hid (fun W (h : Old w5 W) => HSb.out W (oo.trans h))
            have HObn := Lib.hid (HOb.out.trans oo)
            clear oo HOb HK HG HSb
            have HK := HKn
            have HG := HGn
            have HSb := HSbn
            have HOb := HObn
            clear HObn HKn HGn HSbn
            go_wp2_with (first | (with_reducible refine wpList_load_row_w (by kernel_rfl) 27 _ rfl bg rfl 27 (rowN 29 (frC G (.slice pg m cg))) (0, 0) _ ((HG.out _ (Old.refl _)).blk) Try.underlying27 rfl (by rw [rowN_size]; exact Hs29.out) ?_))
            refine (HSmz.out _ HOldG.out).mono ?_
            rintro e wy ⟨rfl, oo⟩
            have HKn := Lib.hid (fun W (h : Old wy W) => HK.out W (oo.trans h))
            have HGn := Lib.hid (fun W (h : Old wy W) => HG.out W (oo.trans h))
            have HSbn := Lib.hid (fun W (h : Old wy W) => HSb.out W (oo.trans h))
            have HObn := Lib.hid (HOb.out.trans oo)
            clear oo HOb HK HG HSb
            have HK := HKn
            have HG := HGn
            have HSb := HSbn
            have HOb := HObn
            clear HObn HKn HGn HSbn
            go_wp2_with fail
            refine (HAw.out _).mono ?_
            rintro e wz ⟨rfl, oo⟩
            have HOz := Lib.hid (HOb.out.trans oo)
            clear oo HOb HK HG HSb
            go_wp2_with fail
            go_ret
            exact ⟨rfl, HOz.out⟩
        · have hl' : cst ≤ 8 * (n' : Int) := by omega
          have hd1 : decide (8 * (n' : Int) < cst) = false := by rw [decide_eq_false_iff_not]; omega
          clear hl
          have hne : padded (enc F k5 T) n' ≠ ls := fun e => by
            have ht := tells_padded (enc F k5 T) n' (by omega)
            rw [e] at ht
            exact absurd (HBack.out F k5 T hP ht).1 HNe.out
          have HBw := Lib.hid (fun (W : World) (h : Old w W) => bytes_any F p k5 c T n' W ((HTf.out.old h).less k5n) k5c Hc.out hP (by omega) (by omega))
          obtain ⟨str2, hstr2⟩ : ∃ str2, strOfNums (padded (enc F k5 T) n') = str2 := ⟨_, rfl⟩
          have HEq : Hid (str2.toList ≠ str.toList) := Lib.hid fun e => by
            rw [← hstr2, ← HStr.out] at e
            exact hne (str_inj (isBytes_padded _ _) HIs.out e)
          have HStr2 := Lib.hid hstr2
          clear hlen hP hne hstr2
          rcases Her.out with rfl | rfl | rfl
          · exact absurd rfl HNe.out
          · clear Her
            have hg0 := HBad.out HNe.out
            obtain ⟨hm0, hpg, hG0⟩ := hg0
            clear hpg
            have hs0 : sameP G m U (fun _ => 0) 0 (fun _ => 0) := ⟨hm0, fun j hj => absurd hj (by omega), fun k _ _ => hG0 k⟩
            have hsm := fun (W : World) => same_any G (fun _ => 0) pg none m 0 cg 0 U (fun _ => 0) W (fun h => absurd h (by omega)) (fun h => absurd h (by omega)) (by rw [hm0]; exact Nat.zero_le _) (Nat.zero_le _)
            rw [decide_eq_true hs0, frC_zero] at hsm
            have HSmz := Lib.hid (fun (W : World) (_ : Old w3 W) => hsm W)
            clear hsm hs0 hG0 hm0 HGood HBad Hm Hcg HfU HU3
            have HNe' : (2 != 0) = true := by decide
            go_wp2_with (first | (with_reducible refine wpList_store_row rfl 27 _ _ rfl w2.heap.size (rowN 29 (frC G (.slice pg m cg))) rfl rfl 27 _ (heap_alloc_new _ _) (by rw [rowN_size]; exact Hs29.out) (by rw [rowN_size]; kernel_rfl) H1g.out ?_; rw [World.setRow_alloc_new, ← Hw3.out, ← Hbg.out]) | (with_reducible refine wpList_load_row rfl 27 _ rfl w.heap.size rfl 27 (rowN 29 (frC F (.slice p k5 c))) (0, 0) _ ((HK.out _ (Old.refl _)).blk) Try.underlying27 rfl (by rw [rowN_size]; exact Hs29.out) ?_))
            refine (HR2.out _ HOb.out).mono ?_
            rintro e w4 ⟨rfl, oo⟩
            have HOldG := Lib.hid oo
            have HKn := Lib.hid (fun W (h : Old w4 W) => HK.out W (oo.trans h))
            have HGn := Lib.hid (fun W (h : Old w4 W) => HG.out W (oo.trans h))
            have HSbn := Lib.hid (fun W (h : Old w4 W) => HSb.out W (oo.trans h))
            have HObn := Lib.hid (HOb.out.trans oo)
            clear oo HOb HK HG HSb
            have HK := HKn
            have HG := HGn
            have HSb := HSbn
            have HOb := HObn
            clear HObn HKn HGn HSbn
            go_wp2_with (with_reducible refine wpList_load_row_w (by kernel_rfl) 27 _ rfl w.heap.size rfl 27 (rowN 29 (frC F (.slice p k5 c))) (0, 0) _ ((HK.out _ (Old.refl _)).blk) Try.underlying27 rfl (by rw [rowN_size]; exact Hs29.out) ?_)
            refine (HMy.out _ HOb.out).mono ?_
            rintro e w5 ⟨rfl, oo⟩
            have HOldG2 := Lib.hid (HOldG.out.trans oo)
            clear HOldG
            have HOldG := HOldG2
            clear HOldG2
            have HKn := Lib.hid (fun W (h : Old w5 W) => HK.out W (oo.trans h))
            have HGn := Lib.hid (fun W (h : Old w5 W) => HG.out W (oo.trans h))
            have HSbn := Lib.hid (fun W (h : Old w5 W) => HSb.out W (oo.trans h))
            have HObn := Lib.hid (HOb.out.trans oo)
            clear oo HOb HK HG HSb
            have HK := HKn
            have HG := HGn
            have HSb := HSbn
            have HOb := HObn
            clear HObn HKn HGn HSbn
            go_wp2_with fail
            refine wp_region_held_drew (S := (fun w' => FrB 27 w' w.heap.size F (.slice p k5 c) ∧ (convert 29 9 (.slice s n' cap)).run Try.prog w' = .ok (.string str) w')) (by kernel_rfl) ?_ (fun hHeld => ?_)
            · (try dsimp only); exact ⟨HK.out _ ((Old.refl w5).drew), HCv.out _ (HSb.out _ ((Old.refl w5).drew))⟩
            refine wpAnyH_take (i := 0) (oi := ⟨some _, _, _, _, _, _⟩) (v := .agg (rowN 29 (frC F (.slice p k5 c)))) rfl (by kernel_rfl) (by kernel_rfl) (by kernel_rfl) (fun _ _ _ h => h) (yieldsIf_load_row (by kernel_rfl) 27 (.tmp 3) rfl (w.heap.size) rfl 27 (rowN 29 (frC F (.slice p k5 c))) (0, 0) _ (fun _ h => (h.1).blk) Try.underlying27 rfl (by rw [rowN_size]; exact Hs29.out)) (by assumption) ?_; try simp only [Act.put, List.setIfInBounds_toArray, List.set_cons_zero, List.set_cons_succ]
            refine wpAnyH_take (i := 1) (oi := ⟨some _, _, _, _, _, _⟩) (v := ?_) rfl (by kernel_rfl) (by kernel_rfl) (by kernel_rfl) (fun _ _ _ h => h) (Or.inl ⟨by kernel_rfl, ?_⟩) (by assumption) ?_; rotate_left; (intro w hSw; (try dsimp only at hSw); go_simp; try with_reducible rfl); try simp only [Act.put, List.setIfInBounds_toArray, List.set_cons_zero, List.set_cons_succ]
            refine wpAnyH_take (i := 2) (oi := ⟨some _, _, _, _, _, _⟩) (v := ?_) rfl (by kernel_rfl) (by kernel_rfl) (by kernel_rfl) (fun _ _ _ h => h) (Or.inl ⟨by kernel_rfl, ?_⟩) (by assumption) ?_; rotate_left; (intro w hSw; (try dsimp only at hSw); go_simp; try with_reducible rfl); try simp only [Act.put, List.setIfInBounds_toArray, List.set_cons_zero, List.set_cons_succ]
            refine wpAnyH_take (i := 5) (oi := ⟨some _, _, _, _, _, _⟩) (v := ?_) rfl (by kernel_rfl) (by kernel_rfl) (by kernel_rfl) (fun _ _ _ h => h) (Or.inl ⟨by kernel_rfl, ?_⟩) (by assumption) ?_; rotate_left; (intro w hSw; (try dsimp only at hSw); go_simp; try with_reducible rfl); try simp only [Act.put, List.setIfInBounds_toArray, List.set_cons_zero, List.set_cons_succ]
            refine wpAnyH_take (i := 6) (oi := ⟨some _, _, _, _, _, _⟩) (v := .string str) rfl (by kernel_rfl) (by kernel_rfl) (by kernel_rfl) (fun _ _ _ h => h) (yieldsIf_conv (by kernel_rfl) 29 9 (.tmp 40) rfl (.string str) (fun _ h => h.2)) (by assumption) ?_; try simp only [Act.put, List.setIfInBounds_toArray, List.set_cons_zero, List.set_cons_succ]
            refine wpAnyH_ready (rs := [3]) (by kernel_rfl) (by simp) ?_
            refine AllReadyH.cons (o := ⟨_, _, _, _, _, _⟩) rfl (fun K hK => ?_) AllReadyH.nil
            go_simp
            refine (HBw.out _ (HOb.out.trans ((Old.refl w5).drew))).mono ?_
            rintro e V1 ⟨o1, g2, rfl, _, hg2⟩
            have hcv := conv_slI (row_SlI hg2 (length_padded _ _) (by unfold maxLen; omega))
            rw [HStr2.out] at hcv
            have o1' := ((Old.refl w5).drew).trans o1
            clear hg2
            go_wp2_with fail
            refine hK.out _ _ ?_ (fun hHeld => ?_)
            · (try dsimp only); exact ⟨HK.out _ o1', HCv.out _ (HSb.out _ o1')⟩
            clear hK K
            try simp only [Act.put, List.setIfInBounds_toArray, List.set_cons_zero, List.set_cons_succ]
            refine wpAnyH_ready (rs := [4]) (by kernel_rfl) (by simp) ?_
            refine AllReadyH.cons (o := ⟨_, _, _, _, _, _⟩) rfl (fun K hK => ?_) AllReadyH.nil
            go_simp
            go_wp2_with fail
            refine hK.out _ _ ?_ (fun hHeld => ?_)
            · (try dsimp only); exact ⟨HK.out _ o1', HCv.out _ (HSb.out _ o1')⟩
            clear hK K
            try simp only [Act.put, List.setIfInBounds_toArray, List.set_cons_zero, List.set_cons_succ]
            clear hcv
            refine wpAnyH_take (i := 7) (oi := ⟨some _, _, _, _, _, _⟩) (v := .bool true) rfl (by kernel_rfl) (by kernel_rfl) (by kernel_rfl) (fun _ _ _ h => h) (yieldsIf_neq_str (by kernel_rfl) 9 9 (.tmp 39) (.tmp 41) rfl str2 str rfl rfl HEq.out) (by assumption) ?_; try simp only [Act.put, List.setIfInBounds_toArray, List.set_cons_zero, List.set_cons_succ]
            refine wpAnyH_take (i := 8) (oi := ⟨some _, _, _, _, _, _⟩) (v := ?_) rfl (by kernel_rfl) (by kernel_rfl) (by kernel_rfl) (fun _ _ _ h => h) (Or.inl ⟨by kernel_rfl, ?_⟩) (by assumption) ?_; rotate_left; (intro w hSw; (try dsimp only at hSw); go_simp; try with_reducible rfl); try simp only [Act.put, List.setIfInBounds_toArray, List.set_cons_zero, List.set_cons_succ]
            refine wpAnyH_done (by kernel_rfl) ?_ _
            have oo := o1'
            have HOldG2 := Lib.hid (HOldG.out.trans oo)
            clear HOldG o1 o1'
            have HOldG := HOldG2
            clear HOldG2
            obtain ⟨w6, rfl⟩ : ∃ X, X = V1 := ⟨_, rfl⟩
            have HKn := Lib.hid (fun W (h : Old w6 W) => HK.out W (oo.trans h))
            have HGn := Lib.hid (fun W (h : Old w6 W) => HG.out W (oo.trans h))
            have HSbn := Lib.hid (fun W (h : Old w6 W) => HSb.out W (oo.trans h))
            have HObn := Lib.hid (HOb.out.trans oo)
            clear oo HOb HK HG HSb
            have HK := HKn
            have HG := HGn
            have HSb := HSbn
            have HOb := HObn
            clear HObn HKn HGn HSbn
            go_wp2_with (first | (with_reducible refine wpList_load_row_w (by kernel_rfl) 27 _ rfl bg rfl 27 (rowN 29 (frC G (.slice pg m cg))) (0, 0) _ ((HG.out _ (Old.refl _)).blk) Try.underlying27 rfl (by rw [rowN_size]; exact Hs29.out) ?_))
            refine (HSmz.out _ HOldG.out).mono ?_
            rintro e wy ⟨rfl, oo⟩
            have HKn := Lib.hid (fun W (h : Old wy W) => HK.out W (oo.trans h))
            have HGn := Lib.hid (fun W (h : Old wy W) => HG.out W (oo.trans h))
            have HSbn := Lib.hid (fun W (h : Old wy W) => HSb.out W (oo.trans h))
            have HObn := Lib.hid (HOb.out.trans oo)
            clear oo HOb HK HG HSb
            have HK := HKn
            have HG := HGn
            have HSb := HSbn
            have HOb := HObn
            clear HObn HKn HGn HSbn
            go_wp2_with fail
            refine (HAw.out _).mono ?_
            rintro e wz ⟨rfl, oo⟩
            have HOz := Lib.hid (HOb.out.trans oo)
            clear oo HOb HK HG HSb
            go_wp2_with fail
            go_ret
            exact ⟨rfl, HOz.out⟩
          · clear Her
            have hg0 := HBad.out HNe.out
            obtain ⟨hm0, hpg, hG0⟩ := hg0
            clear hpg
            have hs0 : sameP G m U (fun _ => 0) 0 (fun _ => 0) := ⟨hm0, fun j hj => absurd hj (by omega), fun k _ _ => hG0 k⟩
            have hsm := fun (W : World) => same_any G (fun _ => 0) pg none m 0 cg 0 U (fun _ => 0) W (fun h => absurd h (by omega)) (fun h => absurd h (by omega)) (by rw [hm0]; exact Nat.zero_le _) (Nat.zero_le _)
            rw [decide_eq_true hs0, frC_zero] at hsm
            have HSmz := Lib.hid (fun (W : World) (_ : Old w3 W) => hsm W)
            clear hsm hs0 hG0 hm0 HGood HBad Hm Hcg HfU HU3
            have HNe' : (4 != 0) = true := by decide
            go_wp2_with (first | (with_reducible refine wpList_store_row rfl 27 _ _ rfl w2.heap.size (rowN 29 (frC G (.slice pg m cg))) rfl rfl 27 _ (heap_alloc_new _ _) (by rw [rowN_size]; exact Hs29.out) (by rw [rowN_size]; kernel_rfl) H1g.out ?_; rw [World.setRow_alloc_new, ← Hw3.out, ← Hbg.out]) | (with_reducible refine wpList_load_row rfl 27 _ rfl w.heap.size rfl 27 (rowN 29 (frC F (.slice p k5 c))) (0, 0) _ ((HK.out _ (Old.refl _)).blk) Try.underlying27 rfl (by rw [rowN_size]; exact Hs29.out) ?_))
            refine (HR2.out _ HOb.out).mono ?_
            rintro e w4 ⟨rfl, oo⟩
            have HOldG := Lib.hid oo
            have HKn := Lib.hid (fun W (h : Old w4 W) => HK.out W (oo.trans h))
            have HGn := Lib.hid (fun W (h : Old w4 W) => HG.out W (oo.trans h))
            have HSbn := Lib.hid (fun W (h : Old w4 W) => HSb.out W (oo.trans h))
            have HObn := Lib.hid (HOb.out.trans oo)
            clear oo HOb HK HG HSb
            have HK := HKn
            have HG := HGn
            have HSb := HSbn
            have HOb := HObn
            clear HObn HKn HGn HSbn
            go_wp2_with (with_reducible refine wpList_load_row_w (by kernel_rfl) 27 _ rfl w.heap.size rfl 27 (rowN 29 (frC F (.slice p k5 c))) (0, 0) _ ((HK.out _ (Old.refl _)).blk) Try.underlying27 rfl (by rw [rowN_size]; exact Hs29.out) ?_)
            refine (HMy.out _ HOb.out).mono ?_
            rintro e w5 ⟨rfl, oo⟩
            have HOldG2 := Lib.hid (HOldG.out.trans oo)
            clear HOldG
            have HOldG := HOldG2
            clear HOldG2
            have HKn := Lib.hid (fun W (h : Old w5 W) => HK.out W (oo.trans h))
            have HGn := Lib.hid (fun W (h : Old w5 W) => HG.out W (oo.trans h))
            have HSbn := Lib.hid (fun W (h : Old w5 W) => HSb.out W (oo.trans h))
            have HObn := Lib.hid (HOb.out.trans oo)
            clear oo HOb HK HG HSb
            have HK := HKn
            have HG := HGn
            have HSb := HSbn
            have HOb := HObn
            clear HObn HKn HGn HSbn
            go_wp2_with fail
            refine wp_region_held_drew (S := (fun w' => FrB 27 w' w.heap.size F (.slice p k5 c) ∧ (convert 29 9 (.slice s n' cap)).run Try.prog w' = .ok (.string str) w')) (by kernel_rfl) ?_ (fun hHeld => ?_)
            · (try dsimp only); exact ⟨HK.out _ ((Old.refl w5).drew), HCv.out _ (HSb.out _ ((Old.refl w5).drew))⟩
            refine wpAnyH_take (i := 0) (oi := ⟨some _, _, _, _, _, _⟩) (v := .agg (rowN 29 (frC F (.slice p k5 c)))) rfl (by kernel_rfl) (by kernel_rfl) (by kernel_rfl) (fun _ _ _ h => h) (yieldsIf_load_row (by kernel_rfl) 27 (.tmp 3) rfl (w.heap.size) rfl 27 (rowN 29 (frC F (.slice p k5 c))) (0, 0) _ (fun _ h => (h.1).blk) Try.underlying27 rfl (by rw [rowN_size]; exact Hs29.out)) (by assumption) ?_; try simp only [Act.put, List.setIfInBounds_toArray, List.set_cons_zero, List.set_cons_succ]
            refine wpAnyH_take (i := 1) (oi := ⟨some _, _, _, _, _, _⟩) (v := ?_) rfl (by kernel_rfl) (by kernel_rfl) (by kernel_rfl) (fun _ _ _ h => h) (Or.inl ⟨by kernel_rfl, ?_⟩) (by assumption) ?_; rotate_left; (intro w hSw; (try dsimp only at hSw); go_simp; try with_reducible rfl); try simp only [Act.put, List.setIfInBounds_toArray, List.set_cons_zero, List.set_cons_succ]
            refine wpAnyH_take (i := 2) (oi := ⟨some _, _, _, _, _, _⟩) (v := ?_) rfl (by kernel_rfl) (by kernel_rfl) (by kernel_rfl) (fun _ _ _ h => h) (Or.inl ⟨by kernel_rfl, ?_⟩) (by assumption) ?_; rotate_left; (intro w hSw; (try dsimp only at hSw); go_simp; try with_reducible rfl); try simp only [Act.put, List.setIfInBounds_toArray, List.set_cons_zero, List.set_cons_succ]
            refine wpAnyH_take (i := 5) (oi := ⟨some _, _, _, _, _, _⟩) (v := ?_) rfl (by kernel_rfl) (by kernel_rfl) (by kernel_rfl) (fun _ _ _ h => h) (Or.inl ⟨by kernel_rfl, ?_⟩) (by assumption) ?_; rotate_left; (intro w hSw; (try dsimp only at hSw); go_simp; try with_reducible rfl); try simp only [Act.put, List.setIfInBounds_toArray, List.set_cons_zero, List.set_cons_succ]
            refine wpAnyH_take (i := 6) (oi := ⟨some _, _, _, _, _, _⟩) (v := .string str) rfl (by kernel_rfl) (by kernel_rfl) (by kernel_rfl) (fun _ _ _ h => h) (yieldsIf_conv (by kernel_rfl) 29 9 (.tmp 40) rfl (.string str) (fun _ h => h.2)) (by assumption) ?_; try simp only [Act.put, List.setIfInBounds_toArray, List.set_cons_zero, List.set_cons_succ]
            refine wpAnyH_ready (rs := [3]) (by kernel_rfl) (by simp) ?_
            refine AllReadyH.cons (o := ⟨_, _, _, _, _, _⟩) rfl (fun K hK => ?_) AllReadyH.nil
            go_simp
            refine (HBw.out _ (HOb.out.trans ((Old.refl w5).drew))).mono ?_
            rintro e V1 ⟨o1, g2, rfl, _, hg2⟩
            have hcv := conv_slI (row_SlI hg2 (length_padded _ _) (by unfold maxLen; omega))
            rw [HStr2.out] at hcv
            have o1' := ((Old.refl w5).drew).trans o1
            clear hg2
            go_wp2_with fail
            refine hK.out _ _ ?_ (fun hHeld => ?_)
            · (try dsimp only); exact ⟨HK.out _ o1', HCv.out _ (HSb.out _ o1')⟩
            clear hK K
            try simp only [Act.put, List.setIfInBounds_toArray, List.set_cons_zero, List.set_cons_succ]
            refine wpAnyH_ready (rs := [4]) (by kernel_rfl) (by simp) ?_
            refine AllReadyH.cons (o := ⟨_, _, _, _, _, _⟩) rfl (fun K hK => ?_) AllReadyH.nil
            go_simp
            go_wp2_with fail
            refine hK.out _ _ ?_ (fun hHeld => ?_)
            · (try dsimp only); exact ⟨HK.out _ o1', HCv.out _ (HSb.out _ o1')⟩
            clear hK K
            try simp only [Act.put, List.setIfInBounds_toArray, List.set_cons_zero, List.set_cons_succ]
            clear hcv
            refine wpAnyH_take (i := 7) (oi := ⟨some _, _, _, _, _, _⟩) (v := .bool true) rfl (by kernel_rfl) (by kernel_rfl) (by kernel_rfl) (fun _ _ _ h => h) (yieldsIf_neq_str (by kernel_rfl) 9 9 (.tmp 39) (.tmp 41) rfl str2 str rfl rfl HEq.out) (by assumption) ?_; try simp only [Act.put, List.setIfInBounds_toArray, List.set_cons_zero, List.set_cons_succ]
            refine wpAnyH_take (i := 8) (oi := ⟨some _, _, _, _, _, _⟩) (v := ?_) rfl (by kernel_rfl) (by kernel_rfl) (by kernel_rfl) (fun _ _ _ h => h) (Or.inl ⟨by kernel_rfl, ?_⟩) (by assumption) ?_; rotate_left; (intro w hSw; (try dsimp only at hSw); go_simp; try with_reducible rfl); try simp only [Act.put, List.setIfInBounds_toArray, List.set_cons_zero, List.set_cons_succ]
            refine wpAnyH_done (by kernel_rfl) ?_ _
            have oo := o1'
            have HOldG2 := Lib.hid (HOldG.out.trans oo)
            clear HOldG o1 o1'
            have HOldG := HOldG2
            clear HOldG2
            obtain ⟨w6, rfl⟩ : ∃ X, X = V1 := ⟨_, rfl⟩
            have HKn := Lib.hid (fun W (h : Old w6 W) => HK.out W (oo.trans h))
            have HGn := Lib.hid (fun W (h : Old w6 W) => HG.out W (oo.trans h))
            have HSbn := Lib.hid (fun W (h : Old w6 W) => HSb.out W (oo.trans h))
            have HObn := Lib.hid (HOb.out.trans oo)
            clear oo HOb HK HG HSb
            have HK := HKn
            have HG := HGn
            have HSb := HSbn
            have HOb := HObn
            clear HObn HKn HGn HSbn
            go_wp2_with (first | (with_reducible refine wpList_load_row_w (by kernel_rfl) 27 _ rfl bg rfl 27 (rowN 29 (frC G (.slice pg m cg))) (0, 0) _ ((HG.out _ (Old.refl _)).blk) Try.underlying27 rfl (by rw [rowN_size]; exact Hs29.out) ?_))
            refine (HSmz.out _ HOldG.out).mono ?_
            rintro e wy ⟨rfl, oo⟩
            have HKn := Lib.hid (fun W (h : Old wy W) => HK.out W (oo.trans h))
            have HGn := Lib.hid (fun W (h : Old wy W) => HG.out W (oo.trans h))
            have HSbn := Lib.hid (fun W (h : Old wy W) => HSb.out W (oo.trans h))
            have HObn := Lib.hid (HOb.out.trans oo)
            clear oo HOb HK HG HSb
            have HK := HKn
            have HG := HGn
            have HSb := HSbn
            have HOb := HObn
            clear HObn HKn HGn HSbn
            go_wp2_with fail
            refine (HAw.out _).mono ?_
            rintro e wz ⟨rfl, oo⟩
            have HOz := Lib.hid (HOb.out.trans oo)
            clear oo HOb HK HG HSb
            go_wp2_with fail
            go_ret
            exact ⟨rfl, HOz.out⟩
      · have hr2 := HR2f.out
        rw [decide_eq_false hP] at hr2
        have HR2 := Lib.hid hr2
        clear hr2 HR2f hP
        rcases Her.out with rfl | rfl | rfl
        · exact absurd rfl HNe.out
        · clear Her
          have hg0 := HBad.out HNe.out
          obtain ⟨hm0, hpg, hG0⟩ := hg0
          clear hpg
          have hs0 : sameP G m U (fun _ => 0) 0 (fun _ => 0) := ⟨hm0, fun j hj => absurd hj (by omega), fun k _ _ => hG0 k⟩
          have hsm := fun (W : World) => same_any G (fun _ => 0) pg none m 0 cg 0 U (fun _ => 0) W (fun h => absurd h (by omega)) (fun h => absurd h (by omega)) (by rw [hm0]; exact Nat.zero_le _) (Nat.zero_le _)
          rw [decide_eq_true hs0, frC_zero] at hsm
          have HSmz := Lib.hid (fun (W : World) (_ : Old w3 W) => hsm W)
          clear hsm hs0 hG0 hm0 HGood HBad Hm Hcg HfU HU3
          have HNe' : (2 != 0) = true := by decide
          go_wp2_with (first | (with_reducible refine wpList_store_row rfl 27 _ _ rfl w2.heap.size (rowN 29 (frC G (.slice pg m cg))) rfl rfl 27 _ (heap_alloc_new _ _) (by rw [rowN_size]; exact Hs29.out) (by rw [rowN_size]; kernel_rfl) H1g.out ?_; rw [World.setRow_alloc_new, ← Hw3.out, ← Hbg.out]) | (with_reducible refine wpList_load_row rfl 27 _ rfl w.heap.size rfl 27 (rowN 29 (frC F (.slice p k5 c))) (0, 0) _ ((HK.out _ (Old.refl _)).blk) Try.underlying27 rfl (by rw [rowN_size]; exact Hs29.out) ?_))
          refine (HR2.out _ HOb.out).mono ?_
          rintro e w4 ⟨rfl, oo⟩
          have HOldG := Lib.hid oo
          have HKn := Lib.hid (fun W (h : Old w4 W) => HK.out W (oo.trans h))
          have HGn := Lib.hid (fun W (h : Old w4 W) => HG.out W (oo.trans h))
          have HSbn := Lib.hid (fun W (h : Old w4 W) => HSb.out W (oo.trans h))
          have HObn := Lib.hid (HOb.out.trans oo)
          clear oo HOb HK HG HSb
          have HK := HKn
          have HG := HGn
          have HSb := HSbn
          have HOb := HObn
          clear HObn HKn HGn HSbn
          go_wp2_with (first | (with_reducible refine wpList_load_row_w (by kernel_rfl) 27 _ rfl bg rfl 27 (rowN 29 (frC G (.slice pg m cg))) (0, 0) _ ((HG.out _ (Old.refl _)).blk) Try.underlying27 rfl (by rw [rowN_size]; exact Hs29.out) ?_))
          refine (HSmz.out _ HOldG.out).mono ?_
          rintro e wy ⟨rfl, oo⟩
          have HKn := Lib.hid (fun W (h : Old wy W) => HK.out W (oo.trans h))
          have HGn := Lib.hid (fun W (h : Old wy W) => HG.out W (oo.trans h))
          have HSbn := Lib.hid (fun W (h : Old wy W) => HSb.out W (oo.trans h))
          have HObn := Lib.hid (HOb.out.trans oo)
          clear oo HOb HK HG HSb
          have HK := HKn
          have HG := HGn
          have HSb := HSbn
          have HOb := HObn
          clear HObn HKn HGn HSbn
          go_wp2_with fail
          refine (HAw.out _).mono ?_
          rintro e wz ⟨rfl, oo⟩
          have HOz := Lib.hid (HOb.out.trans oo)
          clear oo HOb HK HG HSb
          go_wp2_with fail
          go_ret
          exact ⟨rfl, HOz.out⟩
        · clear Her
          have hg0 := HBad.out HNe.out
          obtain ⟨hm0, hpg, hG0⟩ := hg0
          clear hpg
          have hs0 : sameP G m U (fun _ => 0) 0 (fun _ => 0) := ⟨hm0, fun j hj => absurd hj (by omega), fun k _ _ => hG0 k⟩
          have hsm := fun (W : World) => same_any G (fun _ => 0) pg none m 0 cg 0 U (fun _ => 0) W (fun h => absurd h (by omega)) (fun h => absurd h (by omega)) (by rw [hm0]; exact Nat.zero_le _) (Nat.zero_le _)
          rw [decide_eq_true hs0, frC_zero] at hsm
          have HSmz := Lib.hid (fun (W : World) (_ : Old w3 W) => hsm W)
          clear hsm hs0 hG0 hm0 HGood HBad Hm Hcg HfU HU3
          have HNe' : (4 != 0) = true := by decide
          go_wp2_with (first | (with_reducible refine wpList_store_row rfl 27 _ _ rfl w2.heap.size (rowN 29 (frC G (.slice pg m cg))) rfl rfl 27 _ (heap_alloc_new _ _) (by rw [rowN_size]; exact Hs29.out) (by rw [rowN_size]; kernel_rfl) H1g.out ?_; rw [World.setRow_alloc_new, ← Hw3.out, ← Hbg.out]) | (with_reducible refine wpList_load_row rfl 27 _ rfl w.heap.size rfl 27 (rowN 29 (frC F (.slice p k5 c))) (0, 0) _ ((HK.out _ (Old.refl _)).blk) Try.underlying27 rfl (by rw [rowN_size]; exact Hs29.out) ?_))
          refine (HR2.out _ HOb.out).mono ?_
          rintro e w4 ⟨rfl, oo⟩
          have HOldG := Lib.hid oo
          have HKn := Lib.hid (fun W (h : Old w4 W) => HK.out W (oo.trans h))
          have HGn := Lib.hid (fun W (h : Old w4 W) => HG.out W (oo.trans h))
          have HSbn := Lib.hid (fun W (h : Old w4 W) => HSb.out W (oo.trans h))
          have HObn := Lib.hid (HOb.out.trans oo)
          clear oo HOb HK HG HSb
          have HK := HKn
          have HG := HGn
          have HSb := HSbn
          have HOb := HObn
          clear HObn HKn HGn HSbn
          go_wp2_with (first | (with_reducible refine wpList_load_row_w (by kernel_rfl) 27 _ rfl bg rfl 27 (rowN 29 (frC G (.slice pg m cg))) (0, 0) _ ((HG.out _ (Old.refl _)).blk) Try.underlying27 rfl (by rw [rowN_size]; exact Hs29.out) ?_))
          refine (HSmz.out _ HOldG.out).mono ?_
          rintro e wy ⟨rfl, oo⟩
          have HKn := Lib.hid (fun W (h : Old wy W) => HK.out W (oo.trans h))
          have HGn := Lib.hid (fun W (h : Old wy W) => HG.out W (oo.trans h))
          have HSbn := Lib.hid (fun W (h : Old wy W) => HSb.out W (oo.trans h))
          have HObn := Lib.hid (HOb.out.trans oo)
          clear oo HOb HK HG HSb
          have HK := HKn
          have HG := HGn
          have HSb := HSbn
          have HOb := HObn
          clear HObn HKn HGn HSbn
          go_wp2_with fail
          refine (HAw.out _).mono ?_
          rintro e wz ⟨rfl, oo⟩
          have HOz := Lib.hid (HOb.out.trans oo)
          clear oo HOb HK HG HSb
          go_wp2_with fail
          go_ret
          exact ⟨rfl, HOz.out⟩



theorem own : ownKnob Try.prog.godebug = none := by kernel_rfl
theorem laidOut : laidOutB Try.prog = true := by kernel_rfl

set_option maxRecDepth 100000 in
theorem lifted (os : Os) (started : os.Started) (H : Type) (enc : TypeId × Value → H) :
    ReturnsInHanded {} Try.checked os 4 .any (Rows.frameReadsSpec.pre6 enc Try.prog Try.f4 Rows.frameReadsRow.domain false) (Rows.frameReadsSpec.post enc Try.prog Try.f4 false true false false) := by
  refine returnsInHanded_of_change (C := Try.checked) own started (by kernel_rfl) Try.func4
    (ChangeSpec.witness6 (enc := enc) (C := Try.checked) false ⟨#[], #[.slice none 0 0, .agg #[.int .i64 0, .int .i64 0, .int .i64 0, .int .i64 0, .slice none 0 0, .int .i64 0, .int .i64 0, .int .i64 0, .int .i64 0, .int .i64 0, .int .i64 0, .int .i64 0, .int .i64 0, .int .i64 0, .int .i64 0, .int .i64 0, .int .i64 0, .int .i64 0, .int .i64 0, .int .i64 0, .int .i64 0, .int .i64 0, .int .i64 0, .int .i64 0, .int .i64 0, .int .i64 0, .int .i64 0, .int .i64 0, .int .i64 0]], []⟩ 8 (by kernel_rfl) (by kernel_rfl) (by kernel_rfl) (by kernel_rfl)) ?_
  intro W base args ds gs before hval0 hW hcnd _
  have hval : ∀ (j : Nat) t v, Try.f4.params[j]? = some t → args[j]? = some v → Value.okWide Try.prog W .any base t v := hval0
  have hW' := hW
  have hlt : ∀ p ∈ before, p.block < W.heap.size := fun p hp => hW'.lt p hp
  obtain ⟨p, q, hA0, hV, rfl, hfz, hnd⟩ := hW
  have hA : DataW.TrodAll enc Try.prog W 0 (fun _ => true) true Try.f4.params.toList args.toList ds p := hA0
  rw [Try.params4] at hA hval
  obtain ⟨v0, vs0, d0, ds0, p0, q0, hargs, rfl, rfl, h0, r0⟩ := trodAll_cons hA
  obtain ⟨v1, vs1, d1, ds1, p1, q1, rfl, rfl, rfl, h1, r1⟩ := trodAll_cons r0
  obtain ⟨rfl, rfl, rfl⟩ := trodAll_nil r1
  obtain rfl : args = #[v0, v1] := by cases args; simp_all
  obtain ⟨rfl, rfl⟩ := trodVars_none hV
  obtain ⟨s0, n0, c0, xs0, rfl, hs0, hn0, hc0, hw0⟩ := open_slI Try.underlying29 Try.underlying5 (by kernel_rfl) (hval 0 29 v0 rfl rfl) h0 (fun x hx => hlt x (by simp [hx]))
  obtain ⟨F1, q1_, n1, c1, T1, rfl, fn1, fc1, fT1, fF1⟩ := open_frame (hval 1 27 v1 rfl rfl) h1 (fun x hx => hlt x (by simp [hx]))
  refine (walk s0 n0 c0 xs0 F1 q1_ n1 c1 T1 W hs0 hn0 hc0 (bytes_of hw0) fT1 fF1 fn1 fc1).mono fun e W' ⟨he, hg⟩ => ?_
  subst he
  exact ⟨_, rfl, law_done laidOut Try.underlying4 rfl (by kernel_rfl) rfl hW' rfl hg⟩

theorem over : Rows.frameReadsRow.holds Try.pinned (OpenSpec.ofChange Rows.frameReadsSpec) :=
  OpenClaim.holds_of_wide 4 Try.f4 rfl rfl rfl rfl rfl rfl rfl ⟨rfl, rfl, rfl, rfl, rfl⟩ rfl rfl rfl rfl rfl (by kernel_rfl) Try.func4 (by kernel_rfl)
    (of_decide_eq_true (by kernel_rfl)) (by unfold Func.isWrapper; first | (rw [if_pos (by decide +kernel)]; kernel_rfl) | (rw [if_neg (by decide +kernel)]; exact ⟨rfl, rfl⟩))
    (fun os started H enc _ => lifted os started H enc)

theorem proved : Rows.FrameReadsSaid :=
  over
end Go.Proofs.Ytdiahlhfoplmjaa.frameReads
