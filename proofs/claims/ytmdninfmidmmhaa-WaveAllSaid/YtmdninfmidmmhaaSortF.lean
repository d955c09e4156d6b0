/- The library's stable sort by wave's comparer: the merge of two rows. -/
import Derived.Test.YtmdninfmidmmhaaSortE
namespace Go.Proofs.Ytmdninfmidmmhaa
set_option linter.unusedVariables false
set_option maxRecDepth 100000
open Go.RowKit Go.ChangeShapes Go.WideShapes

section
variable {R : Int → Int → Prop} {N : Nat} {F : Nat → Int} {x m y s e mid : Nat}
theorem mrg_bd (h : MrgI R N F x m y) (h1 : x ≤ s) (h2 : s ≤ m) (h3 : m ≤ e) (h4 : e ≤ y) : ∀ k, x ≤ k → k < y → 0 ≤ rotF F s m e k ∧ rotF F s m e k < N := fun k k1 k2 => by
  obtain ⟨q, q1, q2, q3⟩ := ((rot_perm F h2 h3).wide h1 h4).frm k k1 k2
  rw [q3]; exact h.bd q q1 q2
theorem mrg_first (h : MrgI R N F x m y) (h1 : x ≤ s) (h2 : s ≤ m) (h3 : m ≤ e) (h4 : e ≤ y) (hm : mid = s + (e - m)) : MrgI R N (rotF F s m e) x s mid where
  l := rot_ord1 h2 h.l
  r := by rw [hm]; exact rot_ord2 h2 h3 h4 h.r
  lt := fun i j i1 i2 j1 j2 => by rw [rotF_lo F i2, rotF_one F j1 (by omega)]; exact h.lt i _ i1 (by omega) (by omega) (by omega)
  bd := fun k k1 k2 => mrg_bd h h1 h2 h3 h4 k k1 (by omega)
theorem mrg_second {G : Nat → Int} (h : MrgI R N F x m y) (h1 : x ≤ s) (h2 : s ≤ m) (h3 : m ≤ e) (h4 : e ≤ y) (hm : mid = s + (e - m)) (p : PermAB (rotF F s m e) G x mid) : MrgI R N G mid e y where
  l := by rw [hm] at *; exact ord_congr (rot_ord3 h1 h2 h3 h.l) fun k k1 _ => p.out k (.inr k1)
  r := ord_congr (rot_ord4 h2 h3 h.r) fun k k1 _ => p.out k (.inr (by omega))
  lt := fun i j i1 i2 j1 j2 => by rw [p.out i (.inr i1), p.out j (.inr (by omega)), rotF_two F (by omega) i2, rotF_hi F h2 h3 j1]; exact h.lt _ j (by omega) (by omega) (by omega) j2
  bd := fun k k1 k2 => by rw [p.out k (.inr k1)]; exact mrg_bd h h1 h2 h3 h4 k (by omega) k2
end
set_option maxHeartbeats 8000000 in
theorem symMerge_any (g b N cap : Nat) (c : Nat → Nat → Int) (R : Int → Int → Prop) (w0 : World) (hE : CmpE w0 g b N c R) (hN : N ≤ 2305843009213693952) : ∀ (D x m y : Nat), y - x ≤ D → x < m → m < y → y ≤ N → ∀ F, MrgI R N F x m y → ∀ w, SrtW w0 g N F w →
    Calls Try.prog 34 #[.slice (some ⟨g, 0, none⟩) N cap, .int .i64 x, .int .i64 m, .int .i64 y, cmpV b] w (MrgO w0 g N R F x y) := by
  intro D
  induction D with
  | zero => intro x m y h1 h2 h3; omega
  | succ D ih =>
  intro x m y hD hxm hmy hyN F hF w hw
  by_cases ca : m = x + 1
  · exact mergeOne_any g b N cap c R w0 hE x m y ca hmy hyN hN F hF w hw
  by_cases cb : y = m + 1
  · exact mergeLast_any g b N cap c R w0 hE x m y (by omega) cb hyN hN F hF w hw
  have HIH := Lib.hid ih
  have HROT := Lib.hid (fun u v z h1 h2 h3 G W hW => rotate_any g b N cap w0 u v z h1 h2 h3 hN G W hW)
  unfold cmpV MrgO at *
  have H0 := Lib.hid hw
  have HF := Lib.hid hF
  have HE := Lib.hid hE
  have d1 : (((m : Int) - (x : Int)) == 1) = false := by rw [beq_eq_false_iff_ne]; omega
  have d2 : (((y : Int) - (m : Int)) == 1) = false := by rw [beq_eq_false_iff_ne]; omega
  obtain ⟨mid, hmid⟩ : ∃ mid : Nat, mid = (x + y) / 2 := ⟨_, rfl⟩
  obtain ⟨lo, hlo⟩ : ∃ lo : Nat, lo = if mid < m then mid + m - y else x := ⟨_, rfl⟩
  obtain ⟨hi, hhi⟩ : ∃ hi : Nat, hi = if mid < m then mid else m := ⟨_, rfl⟩
  have hcor : x ≤ lo ∧ lo ≤ hi ∧ hi ≤ m ∧ hi ≤ mid ∧ mid + m - lo ≤ y ∧ (lo = x ∨ mid + m - lo = y) ∧ (hi = m ∨ hi = mid) := by
    rw [hlo, hhi]; split <;> omega
  have hm1 : x < mid := by omega
  have hm2 : mid < y := by omega
  have hge : mid < m → y ≤ mid + m := by omega
  have hdiv : ((x : Int) + (y : Int)) / 2 = (mid : Int) := by omega
  have HD := Lib.hid hD
  clear hw hF hE ih hmid hD
  go_enter Try.func34, Try.ntmps34
  go_upto_region 25 with (fail)
  clear d1 d2 hdiv
  go_upto_if 140 with (fail)
  go_cut [20, 21] (fun u v wx => u = .int .i64 lo ∧ v = .int .i64 hi ∧ w = wx)
  case first =>
    as_aux_lemma =>
      by_cases cm : mid < m
      · rw [if_pos cm] at hlo hhi
        have hge := hge cm
        have q : ((mid : Int) + (m : Int)) - (y : Int) = (lo : Int) := by omega
        have dc : decide ((mid : Int) < (m : Int)) = true := decide_eq_true (by omega)
        have HQ := Lib.hid q
        have HH := Lib.hid hhi
        clear q hlo hhi hcor hge
        go_wp2_with fail
        go_meet
        exact ⟨by rw [HQ.out], by rw [HH.out], rfl⟩
      · rw [if_neg cm] at hlo hhi
        have dc : decide ((mid : Int) < (m : Int)) = false := decide_eq_false (by omega)
        have HL := Lib.hid hlo
        have HH := Lib.hid hhi
        clear hlo hhi hcor hge
        go_wp2_with fail
        go_meet
        exact ⟨by rw [HL.out], by rw [HH.out], rfl⟩
  case rest =>
    obtain ⟨rfl, rfl, rfl⟩ := hcut
    clear hlo hhi
    obtain ⟨k1, k2, k3, k4, k5, k6, k7⟩ := hcor
    go_wp2_with fail
    go_loopw [20, 21] (fun iv jv wr => ∃ i j : Nat, iv = .int .i64 i ∧ jv = .int .i64 j ∧ lo ≤ i ∧ i ≤ j ∧ j ≤ hi ∧ Hid ((lo < i → R (F (i - 1)) (F (mid + m - i))) ∧ (j < hi → R (F (mid + m - 1 - j)) (F j))) ∧ Hid (SrtW w0 g N F wr)) (fun iv jv _ => (intOf jv).toNat - (intOf iv).toNat)
    case atStart => exact ⟨lo, hi, rfl, rfl, Nat.le_refl _, k2, Nat.le_refl _, Lib.hid ⟨fun h => by omega, fun h => by omega⟩, H0⟩
    case round =>
      clear H0
      obtain ⟨i, j, rfl, rfl, h1, h2, h3, HR, HW⟩ := hrel
      by_cases hij : i < j
      · obtain ⟨h, hh⟩ : ∃ h : Nat, h = (i + j) / 2 := ⟨_, rfl⟩
        have hb1 : i ≤ h := by omega
        have hb2 : h < j := by omega
        have hdiv : ((i : Int) + (j : Int)) / 2 = (h : Int) := by omega
        clear hh
        go_upto_region 35 with (fail)
        clear hdiv
        obtain ⟨q, hq⟩ : ∃ q : Nat, q = mid + m - 1 - h := ⟨_, rfl⟩
        have hqm : m ≤ q := by omega
        have hqy : q < y := by omega
        have hqi : ((mid : Int) + (m : Int) - 1) - (h : Int) = (q : Int) := by omega
        have hbq := HF.out.bd q (by omega) hqy
        have hbh := HF.out.bd h (by omega) (by omega)
        have hlt := HF.out.lt h q (by omega) (by omega) hqm hqy
        obtain ⟨hy, hn⟩ := HE.out.late hbq hbh hlt
        have hL := fun d => HE.out.callI hbq hbh (wr.drewN d) (HW.out.kept.drewN d)
        have HW2 := Lib.hid (fun d => HW.out.drewN d)
        have kk1 := HW.out.row.cell h (by omega)
        have kk2 := HW.out.row.cell q (by omega)
        have hN1 : h < N := by omega
        have hN2 : q < N := by omega
        have HB1 := Lib.hid (show q ≤ 9223372036854775807 by omega)
        have HQ1 := Lib.hid (show mid + m - (h + 1) = q by omega)
        have HQ2 := Lib.hid (show mid + m - 1 - h = q by omega)
        have HRL := Lib.hid (show lo ≤ h + 1 ∧ h + 1 ≤ j ∧ lo ≤ i ∧ i ≤ h ∧ h ≤ hi by omega)
        have HMS := Lib.hid (show j - (h + 1) < j - i ∧ h - i < j - i by omega)
        obtain ⟨cc, hcc⟩ : ∃ cc, cc = c (F q).toNat (F h).toNat := ⟨_, rfl⟩
        rw [← hcc] at hL hy hn
        have HLo := Lib.hid hL
        have HR1 := Lib.hid HR.out.1
        have HR2 := Lib.hid HR.out.2
        have HY := Lib.hid hy
        have HNo := Lib.hid hn
        clear hL hbh hbq hlt hcc HR HW hy hn hq
        obtain ⟨e1, e2⟩ := wrapN (x := ((mid : Int) + (m : Int) - 1) - (h : Int)) (p := q) hqi HB1.out
        clear hqi
        by_cases hc : cc < 0
        · as_aux_lemma =>
            have hr := HY.out hc
            have HRR := Lib.hid hr
            have dc : decide (cc < 0) = true := decide_eq_true hc
            clear hr HY HNo HR2
            go_quiet ((go_at_call 27; with_reducible exact Calls.quiet_of (HLo.out _)))
            clear e1 e2
            go_wp2_with fail
            go_roundw
            case rel => exact ⟨i, h, rfl, rfl, h1, hb1, HRL.out.2.2.2.2, Lib.hid ⟨HR1.out, fun _ => by rw [HQ2.out]; exact HRR.out⟩, HW2.out _⟩
            case measure => have := HMS.out; simp [intOf]; omega
        · as_aux_lemma =>
            have hr := HNo.out hc
            have hc0 : 0 ≤ cc := by omega
            have HRR := Lib.hid hr
            have dc : decide (cc < 0) = false := decide_eq_false hc
            clear hr HY HNo HR1
            go_quiet ((go_at_call 27; with_reducible exact Calls.quiet_of (HLo.out _)))
            clear e1 e2
            go_wp2_with fail
            go_roundw
            case rel => exact ⟨h + 1, j, by go_num, rfl, HRL.out.1, HRL.out.2.1, h3, Lib.hid ⟨fun _ => by rw [Nat.add_sub_cancel, HQ1.out]; exact HRR.out, HR2.out⟩, HW2.out _⟩
            case measure => have := HMS.out; simp [intOf]; omega
      · obtain rfl : i = j := by omega
        clear hij h2
        obtain ⟨e, he⟩ : ∃ e : Nat, e = mid + m - i := ⟨_, rfl⟩
        have b1 : x ≤ i := by omega
        have b2 : i ≤ m := by omega
        have b3 : m ≤ e := by omega
        have b4 : e ≤ y := by omega
        have b5 : mid = i + (e - m) := by omega
        have b6 : i ≤ mid := by omega
        have b7 : mid ≤ e := by omega
        have x1 : x < i → e < y → R (F (i - 1)) (F e) := fun h1' h2' => by rw [he]; exact HR.out.1 (by omega)
        have x2 : i < m → m < e → R (F (e - 1)) (F i) := fun h1' h2' => by rw [show e - 1 = mid + m - 1 - i by omega]; exact HR.out.2 (by omega)
        have HX := Lib.hid (rot_cross HE.out.tr b1 b2 b3 b4 HF.out.l HF.out.r x1 x2)
        have HP := Lib.hid ((rot_perm F b2 b3).wide b1 b4)
        have HM1 := Lib.hid (mrg_first HF.out b1 b2 b3 b4 b5)
        have HM2 := Lib.hid (fun G p => mrg_second (G := G) HF.out b1 b2 b3 b4 b5 p)
        have HO1 := Lib.hid (show x = i ∨ i = mid → OrdAB R (rotF F i m e) x mid from fun h => by
          have o1 := rot_ord1 (R := R) (G := F) (e := e) b2 HF.out.l
          have o2 := rot_ord2 (R := R) (G := F) b2 b3 b4 HF.out.r
          rw [← b5] at o2
          rcases h with h | h
          · rw [h]; exact o2
          · rw [← h]; exact o1)
        have hei : ((mid : Int) + (m : Int)) - (i : Int) = (e : Int) := by omega
        have HB5 := Lib.hid b5
        have HEE := Lib.hid (show e ≤ 9223372036854775807 by omega)
        have HBB := Lib.hid (show (x ≤ i ∧ i ≤ m ∧ m ≤ e ∧ e ≤ y) ∧ mid = i + (e - m) ∧ i ≤ mid ∧ mid ≤ e ∧ x < m ∧ m < y ∧ y ≤ N ∧ x < mid ∧ mid < y from ⟨⟨b1, b2, b3, b4⟩, b5, b6, b7, hxm, hmy, hyN, hm1, hm2⟩)
        clear x1 x2 he k1 k2 k3 k4 k5 k6 k7 h1 h3 HR b1 b2 b3 b4 b5 b6 b7 hge ca cb hxm hmy hyN hN hm1 hm2
        have qe : e ≤ 9223372036854775807 := HEE.out
        go_upto_region 39 with (fail)
        clear hei qe
        go_cut [185] (fun v wx => v = .bool (decide (i < m ∧ m < e)) ∧ wr = wx)
        case first =>
          as_aux_lemma =>
            clear HX HP HM1 HM2 HO1 HIH HROT HF HE HBB HD HB5 HEE HW
            by_cases a1 : i < m
            · have q1 : decide ((i : Int) < (m : Int)) = true := decide_eq_true (by omega)
              by_cases a2 : m < e
              · have He := Lib.hid (show decide (i < m ∧ m < e) = true from decide_eq_true ⟨a1, a2⟩)
                have q2 : decide ((m : Int) < (e : Int)) = true := decide_eq_true (by omega)
                go_wp2_with fail
                go_meet
                exact ⟨by rw [He.out]; try rfl, rfl⟩
              · have He := Lib.hid (show decide (i < m ∧ m < e) = false from decide_eq_false fun h => a2 h.2)
                have q2 : decide ((m : Int) < (e : Int)) = false := decide_eq_false (by omega)
                go_wp2_with fail
                go_meet
                exact ⟨by rw [He.out]; try rfl, rfl⟩
            · have He := Lib.hid (show decide (i < m ∧ m < e) = false from decide_eq_false fun h => a1 h.1)
              have q1 : decide ((i : Int) < (m : Int)) = false := decide_eq_false (by omega)
              go_wp2_with fail
              go_meet
              exact ⟨by rw [He.out]; try rfl, rfl⟩
        case rest =>
          obtain ⟨rfl, rfl⟩ := hcut
          go_upto_if 185 with (fail)
          go_cut [] (fun wx => SrtW w0 g N (rotF F i m e) wx)
          case first =>
            as_aux_lemma =>
              clear HX HP HM1 HM2 HO1 HIH HF HE HD HB5 HEE
              by_cases a : i < m ∧ m < e
              · rw [decide_eq_true a]
                have HRT := Lib.hid (HROT.out i m e a.1 a.2 (by have := HBB.out; omega) F wr HW.out)
                clear HROT HBB HW a
                go_wp2_with fail
                refine HRT.out.mono ?_
                rintro ee w2 ⟨rfl, hw2⟩
                have HW2 := Lib.hid hw2
                clear hw2 HRT
                go_wp2_with fail
                go_meet
                exact HW2.out
              · rw [decide_eq_false a]
                have HW2 := Lib.hid (show SrtW w0 g N (rotF F i m e) wr by
                  have hb := HBB.out
                  by_cases a1 : i < m
                  · have a2 : e = m := by omega
                    rw [a2]
                    exact HW.out.ext (rotF_right F i m hb.1.2.1).symm
                  · have a2 : i = m := by omega
                    rw [a2]
                    exact HW.out.ext (rotF_left F m e hb.1.2.2.1).symm)
                clear HROT HBB HW a
                go_wp2_with fail
                go_meet
                exact HW2.out
          case rest =>
            have HW2 := Lib.hid hcut
            clear hcut HW HROT HF
            obtain ⟨w2, rfl⟩ : ∃ V, V = wc := ⟨_, rfl⟩
            go_upto_region 41 with (fail)
            go_cut [199] (fun v wx => v = .bool (decide (x < i ∧ i < mid)) ∧ w2 = wx)
            case first =>
              as_aux_lemma =>
                clear HX HP HM1 HM2 HO1 HIH HE HBB HD HB5 HEE HW2
                by_cases a1 : x < i
                · have q1 : decide ((x : Int) < (i : Int)) = true := decide_eq_true (by omega)
                  by_cases a2 : i < mid
                  · have He := Lib.hid (show decide (x < i ∧ i < mid) = true from decide_eq_true ⟨a1, a2⟩)
                    have q2 : decide ((i : Int) < (mid : Int)) = true := decide_eq_true (by omega)
                    go_wp2_with fail
                    go_meet
                    exact ⟨by rw [He.out]; try rfl, rfl⟩
                  · have He := Lib.hid (show decide (x < i ∧ i < mid) = false from decide_eq_false fun h => a2 h.2)
                    have q2 : decide ((i : Int) < (mid : Int)) = false := decide_eq_false (by omega)
                    go_wp2_with fail
                    go_meet
                    exact ⟨by rw [He.out]; try rfl, rfl⟩
                · have He := Lib.hid (show decide (x < i ∧ i < mid) = false from decide_eq_false fun h => a1 h.1)
                  have q1 : decide ((x : Int) < (i : Int)) = false := decide_eq_false (by omega)
                  go_wp2_with fail
                  go_meet
                  exact ⟨by rw [He.out]; try rfl, rfl⟩
            case rest =>
              obtain ⟨rfl, rfl⟩ := hcut
              go_upto_if 199 with (fail)
              go_cut [] (fun wx => ∃ G, SrtW w0 g N G wx ∧ PermAB (rotF F i m e) G x mid ∧ OrdAB R G x mid)
              case first =>
                as_aux_lemma =>
                  clear HX HP HM2 HE HB5 HEE
                  by_cases a : x < i ∧ i < mid
                  · rw [decide_eq_true a]
                    have HRC := Lib.hid (HIH.out x i mid (by have := HD.out; have := HBB.out; omega) a.1 a.2 (by have := HBB.out; omega) _ HM1.out w2 HW2.out)
                    clear HM1 HO1 HIH HBB HD HW2 a
                    go_wp2_with fail
                    refine HRC.out.mono ?_
                    rintro ee w3 ⟨rfl, hh⟩
                    have HH := Lib.hid hh
                    clear hh HRC
                    go_wp2_with fail
                    go_meet
                    exact HH.out
                  · rw [decide_eq_false a]
                    have HO := Lib.hid (HO1.out (by have := HBB.out; omega))
                    clear HM1 HO1 HIH HBB HD a
                    go_wp2_with fail
                    go_meet
                    exact ⟨_, HW2.out, PermAB.refl _ _ _, HO.out⟩
              case rest =>
                obtain ⟨G, hG1, hG2, hG3⟩ := hcut
                have HG1 := Lib.hid hG1
                have HG2 := Lib.hid hG2
                have HG3 := Lib.hid hG3
                have HM3 := Lib.hid (HM2.out G hG2)
                clear hG1 hG2 hG3 HW2 HM1 HM2 HO1 HE
                obtain ⟨w3, rfl⟩ : ∃ V, V = wc := ⟨_, rfl⟩
                go_upto_region 43 with (fail)
                go_cut [213] (fun v wx => v = .bool (decide (mid < e ∧ e < y)) ∧ w3 = wx)
                case first =>
                  as_aux_lemma =>
                    clear HX HP HM3 HIH HBB HD HB5 HEE HG1 HG2 HG3
                    by_cases a1 : mid < e
                    · have q1 : decide ((mid : Int) < (e : Int)) = true := decide_eq_true (by omega)
                      by_cases a2 : e < y
                      · have He := Lib.hid (show decide (mid < e ∧ e < y) = true from decide_eq_true ⟨a1, a2⟩)
                        have q2 : decide ((e : Int) < (y : Int)) = true := decide_eq_true (by omega)
                        go_wp2_with fail
                        go_meet
                        exact ⟨by rw [He.out]; try rfl, rfl⟩
                      · have He := Lib.hid (show decide (mid < e ∧ e < y) = false from decide_eq_false fun h => a2 h.2)
                        have q2 : decide ((e : Int) < (y : Int)) = false := decide_eq_false (by omega)
                        go_wp2_with fail
                        go_meet
                        exact ⟨by rw [He.out]; try rfl, rfl⟩
                    · have He := Lib.hid (show decide (mid < e ∧ e < y) = false from decide_eq_false fun h => a1 h.1)
                      have q1 : decide ((mid : Int) < (e : Int)) = false := decide_eq_false (by omega)
                      go_wp2_with fail
                      go_meet
                      exact ⟨by rw [He.out]; try rfl, rfl⟩
                case rest =>
                  obtain ⟨rfl, rfl⟩ := hcut
                  by_cases a : mid < e ∧ e < y
                  · rw [decide_eq_true a]
                    have HRC := Lib.hid (HIH.out mid e y (by have := HD.out; have := HBB.out; omega) a.1 a.2 HBB.out.2.2.2.2.2.2.1 _ HM3.out w3 HG1.out)
                    have HMD := Lib.hid (fun G2 => merge_done (G2 := G2) (show x ≤ mid by have := HBB.out; omega) (show mid ≤ y by have := HBB.out; omega) HP.out (by rw [HB5.out]; exact HX.out) HG2.out HG3.out)
                    clear HIH HX HP HM3 HBB HD HB5 HEE HG1 HG2 HG3 a
                    go_wp2_with fail
                    refine HRC.out.mono ?_
                    rintro ee w4 ⟨rfl, G2, hh1, hh2, hh3⟩
                    have HH := Lib.hid hh1
                    have HDN := Lib.hid (HMD.out G2 hh2 hh3)
                    clear hh1 hh2 hh3 HRC HMD
                    go_wp2_with fail
                    go_end0
                    exact ⟨rfl, G2, HH.out, HDN.out.1, HDN.out.2⟩
                  · rw [decide_eq_false a]
                    have ho : OrdAB R G mid y := by
                      have hb := HBB.out
                      by_cases a1 : mid < e
                      · have a2 : e = y := by omega
                        have := HM3.out.l
                        rwa [a2] at this
                      · have a2 : mid = e := by omega
                        have := HM3.out.r
                        rwa [← a2] at this
                    have HDN := Lib.hid (merge_done (show x ≤ mid by have := HBB.out; omega) (show mid ≤ y by have := HBB.out; omega) HP.out (by rw [HB5.out]; exact HX.out) HG2.out HG3.out (PermAB.refl G mid y) ho)
                    clear HIH HX HP HM3 HBB HD HB5 HEE HG2 HG3 a ho
                    go_wp2_with fail
                    go_end0
                    exact ⟨rfl, G, HG1.out, HDN.out.1, HDN.out.2⟩
end Go.Proofs.Ytmdninfmidmmhaa
