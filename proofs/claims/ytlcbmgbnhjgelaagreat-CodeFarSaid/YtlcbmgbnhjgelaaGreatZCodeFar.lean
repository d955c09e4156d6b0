/- CodeFar: for every two lists of numbers (cut to 150 samples each) and every number, code.Far tells how far the lists are apart and Rate as many bytes as the chapter says. No condition. -/
import Derived.Test.YtlcbmgbnhjgelaaGreatRows
import Derived.Test.YtlcbmgbnhjgelaaGreatPkAP
namespace Go.Proofs.YtlcbmgbnhjgelaaGreat.codeFar
open Go.ChangeShapes Go.WideShapes Go.ChangeAt Go.RowKit
set_option linter.unusedVariables false

set_option maxRecDepth 100000 in
set_option maxHeartbeats 8000000 in
theorem walk (p : Option Addr) (n cap : Nat) (xs : List Int) (q : Option Addr) (m cap2 : Nat) (ys : List Int) (r : Int) (w : World) (hs : SlI w .i64 (.slice p n cap) xs) (hn : n ≤ 9223372036854775807) (hx64 : ∀ x ∈ xs, -9223372036854775808 ≤ x ∧ x ≤ 9223372036854775807)
    (ht : SlI w .i64 (.slice q m cap2) ys) (hm : m ≤ 9223372036854775807) (hy64 : ∀ x ∈ ys, -9223372036854775808 ≤ x ∧ x ≤ 9223372036854775807) (hr1 : -9223372036854775808 ≤ r) (hr2 : r ≤ 9223372036854775807) :
    Calls Tryz.prog 7 #[.slice p n cap, .slice q m cap2, .int .i64 r] w fun e w' => e = .returned (.bool true) ∧ Old w w' := by
  have H1 := Lib.hid (few_any p n cap xs w hs hn hx64)
  have H2 := Lib.hid (fun (V : World) (h : Old w V) => few_any q m cap2 ys V (ht.old h) hm hy64)
  have HNew := Lib.hid (fun w => CNew_yes 30 w (by omega) (by omega))
  have HA := Lib.hid (fun w => awake_any w)
  clear hs ht hx64 hy64
  go_enter Tryz.func7, Tryz.ntmps7
  go_wp2_with fail
  refine H1.out.mono ?_
  rintro e w1 ⟨v1, rfl, hv1, o1⟩
  have H2c := Lib.hid (H2.out w1 o1)
  have hl1 := fewL_len xs
  have hb1 := fewL_bd xs
  generalize fewL xs = us at *
  have HS1 := Lib.hid hv1.sl
  have HO1 := Lib.hid o1
  obtain ⟨p1, n1, c1, rfl, e1, _⟩ := hv1.sl.shape
  have hn1 : n1 ≤ 150 := by omega
  clear e1
  clear hv1 o1 H1 H2
  go_wp2_with fail
  refine H2c.out.mono ?_
  rintro e w2 ⟨v2, rfl, hv2, o2⟩
  have hl2 := fewL_len ys
  have hb2 := fewL_bd ys
  generalize fewL ys = bs at *
  have HS2 := Lib.hid hv2.sl
  have HO2 := Lib.hid (HO1.out.trans o2)
  have HS1' := Lib.hid (HS1.out.old o2)
  obtain ⟨p2, n2, c2, rfl, e2, _⟩ := hv2.sl.shape
  have hn2 : n2 ≤ 150 := by omega
  clear e2
  have HFa := Lib.hid (fun (V : World) (h : Old w2 V) => Far_any p1 p2 n1 n2 c1 c2 us bs V (HS1'.out.old h) (HS2.out.old h) (by omega) (by omega) hb1 hb2)
  have HX := Lib.hid hb1
  have HY := Lib.hid hb2
  have HF := Lib.hid (fun k => cfarTo_bd hb1 hb2 k)
  have HM := Lib.hid (fun k => manyTo_le us bs k)
  have HT1 := Lib.hid HS1'.out.slF
  have HT2 := Lib.hid HS2.out.slF
  clear hv2 o2 H2c HS1 HS1' HS2 hb1 hb2 hl1 hl2 HO1
  obtain ⟨M, hM⟩ : ∃ M, M = min n1 n2 := ⟨_, rfl⟩
  have hMn : M ≤ n1 ∧ M ≤ n2 ∧ (M = n1 ∨ M = n2) := by omega
  rw [← hM] at HFa
  clear hM
  go_wp2_with fail
  go_loopw [7, 8, 9] (fun f g i wr => ∃ k : Nat, k ≤ M ∧ i = .int .i64 k ∧ f = .int .i64 (cfarTo us bs k) ∧ g = .int .i64 (manyTo us bs k) ∧ Hid (Old w2 wr)) (fun _ _ i _ => M - (intOf i).toNat)
  case atStart => exact ⟨0, by omega, rfl, rfl, rfl, Lib.hid (Old.refl _)⟩
  case round =>
    obtain ⟨k, hk, rfl, rfl, rfl, HO⟩ := hrel
    by_cases hlt : k < M
    · obtain ⟨b1, o1, rfl, hb1, hc1⟩ := HT1.out (by omega)
      obtain ⟨b2, o2, rfl, hb2, hc2⟩ := HT2.out (by omega)
      have hx := (HO.out.cell (a := ⟨b1, o1 + k, none⟩) hb1).trans (hc1 k (by omega))
      have hy := (HO.out.cell (a := ⟨b2, o2 + k, none⟩) hb2).trans (hc2 k (by omega))
      dsimp only at hx hy
      have i1 : (0 : Int) ≤ k := by omega
      have i2 : (k : Int) < n1 := by omega
      have i3 : (k : Int) < n2 := by omega
      obtain ⟨x0, x1⟩ := samP_at HX.out k
      obtain ⟨y0, y1⟩ := samP_at HY.out k
      have hf : Hid (cfarTo us bs (k + 1) = max (cfarTo us bs k) (cdist (us.getD k 0) (bs.getD k 0))) := Lib.hid rfl
      have hg : Hid (manyTo us bs (k + 1) = if us.getD k 0 = bs.getD k 0 then manyTo us bs k else manyTo us bs k + 1) := Lib.hid rfl
      obtain ⟨f0, f1⟩ := HF.out k
      have g1 := HM.out k
      generalize us.getD k 0 = x at *
      generalize bs.getD k 0 = y at *
      generalize cfarTo us bs k = f at *
      generalize manyTo us bs k = g at *
      obtain ⟨d, hd⟩ : ∃ d, x - y = d := ⟨_, rfl⟩
      have t1 : wrap64 (x - y) = d := by rw [IntWalk.wrap64_in _ (by omega)]; exact hd
      have t2 : IntKind.i64.wrap (x - y) = d := by rw [IntWalk.i64_in _ (by omega)]; exact hd
      obtain ⟨a, ha⟩ : ∃ a, cdist x y = a := ⟨_, rfl⟩
      have hda : 0 ≤ a ∧ a ≤ 65535 ∧ (a = d ∨ a = -d) ∧ (d < 0 → a = -d) ∧ (0 ≤ d → a = d) := by
        rw [← ha]; unfold cdist; split <;> omega
      rw [ha] at hf
      have hxy : x = y ↔ d = 0 := by omega
      have hge : Hid (manyTo us bs (k + 1) = if d = 0 then g else g + 1) := by
        rw [hg.out]; by_cases c : x = y
        · rw [if_pos c, if_pos (hxy.1 c)]; exact Lib.hid rfl
        · rw [if_neg c, if_neg (fun e => c (hxy.2 e))]; exact Lib.hid rfl
      clear hg hxy ha hc1 hc2 HT1 HT2 HX HY HF HM HFa
      obtain ⟨q1, q2, q3, q4, q5⟩ := hda
      have d0 : -65535 ≤ d ∧ d ≤ 65535 := by omega
      clear hd q3
      rcases (by omega : d < 0 ∨ d = 0 ∨ 0 < d) with hdn | hdz | hdp
      · have e3 : a = -d := q4 hdn
        subst e3
        by_cases hfa : f < -d
        · have a0 : 0 < -d := by omega
          have hge2 : Hid (manyTo us bs (k + 1) = g + 1) := by rw [hge.out, if_neg (by omega)]; exact Lib.hid rfl
          have hfe : Hid (cfarTo us bs (k + 1) = (-d)) := by rw [hf.out]; exact Lib.hid (by omega)
          clear hf hge q4 q5
          go_wp2_with fail
          go_quiet (fail)
          go_wp2
          go_roundw
          case rel => exact ⟨k + 1, by omega, by go_num, by rw [hfe.out], by rw [hge2.out]; rfl, Lib.hid (HO.out.drewN _)⟩
          case measure => (simp [intOf]; try omega)
        · have hfa' : -d ≤ f := by omega
          have a0 : 0 < -d := by omega
          have hge2 : Hid (manyTo us bs (k + 1) = g + 1) := by rw [hge.out, if_neg (by omega)]; exact Lib.hid rfl
          have hfe : Hid (cfarTo us bs (k + 1) = f) := by rw [hf.out]; exact Lib.hid (by omega)
          clear hf hge q4 q5
          go_wp2_with fail
          go_quiet (fail)
          go_wp2
          go_roundw
          case rel => exact ⟨k + 1, by omega, by go_num, by rw [hfe.out], by rw [hge2.out]; rfl, Lib.hid (HO.out.drewN _)⟩
          case measure => (simp [intOf]; try omega)
      · subst hdz
        have a0 : a = 0 := by omega
        have hge2 : Hid (manyTo us bs (k + 1) = g) := by rw [hge.out, if_pos rfl]; exact Lib.hid rfl
        subst a0
        have hfe : Hid (cfarTo us bs (k + 1) = f) := by rw [hf.out]; exact Lib.hid (by omega)
        clear hf hge q4 q5
        go_wp2_with fail
        go_quiet (fail)
        go_wp2
        go_roundw
        case rel => exact ⟨k + 1, by omega, by go_num, by rw [hfe.out], by rw [hge2.out], Lib.hid (HO.out.drewN _)⟩
        case measure => (simp [intOf]; try omega)
      · by_cases hfa : f < a
        · obtain rfl : a = d := by omega
          have hge2 : Hid (manyTo us bs (k + 1) = g + 1) := by rw [hge.out, if_neg (by omega)]; exact Lib.hid rfl
          have hfe : Hid (cfarTo us bs (k + 1) = a) := by rw [hf.out]; exact Lib.hid (by omega)
          clear hf hge q4 q5
          go_wp2_with fail
          go_quiet (fail)
          go_wp2
          go_roundw
          case rel => exact ⟨k + 1, by omega, by go_num, by rw [hfe.out], by rw [hge2.out]; rfl, Lib.hid (HO.out.drewN _)⟩
          case measure => (simp [intOf]; try omega)
        · have hfa' : a ≤ f := by omega
          obtain rfl : a = d := by omega
          have hge2 : Hid (manyTo us bs (k + 1) = g + 1) := by rw [hge.out, if_neg (by omega)]; exact Lib.hid rfl
          have hfe : Hid (cfarTo us bs (k + 1) = f) := by rw [hf.out]; exact Lib.hid (by omega)
          clear hf hge q4 q5
          go_wp2_with fail
          go_quiet (fail)
          go_wp2
          go_roundw
          case rel => exact ⟨k + 1, by omega, by go_num, by rw [hfe.out], by rw [hge2.out]; rfl, Lib.hid (HO.out.drewN _)⟩
          case measure => (simp [intOf]; try omega)
    · obtain rfl : k = M := by omega
      have hlen : (n1 : Int) ≤ k ∨ ((k : Int) < n1 ∧ (n2 : Int) ≤ k) := by omega
      have k0 : (0 : Int) ≤ k := by omega
      clear HT1 HT2 HX HY HF HM hMn
      have tail : True := trivial
      by_cases hr : 0 ≤ r ∧ r ≤ 1048576
      · obtain ⟨m, rfl⟩ := Int.eq_ofNat_of_zero_le hr.1
        have hm2 : m ≤ 1048576 := by omega
        have HRt := Lib.hid (fun (b : Nat) (V : World) (h : CoB V b 30) => CRate_any b 30 m V h (by omega) (by omega) hm2)
        obtain ⟨r2, r1, hcc2⟩ := rate_q m hm2
        obtain ⟨cc, hcc⟩ : ∃ cc, cnt m = cc := ⟨_, rfl⟩
        rw [hcc] at HRt r1 r2 hcc2
        have m1 : (m : Int) ≤ 1048576 := by omega
        have m0 : 0 ≤ (m : Int) := by omega
        have HR1 := Lib.hid r1
        have HR2 := Lib.hid r2
        clear hcc hr1 hr2 hr r1 r2
        rcases hlen with hl | ⟨hl1, hl⟩
        all_goals
          go_wp2_with fail
          refine (HFa.out wr HO.out).mono ?_
          rintro e w4 ⟨rfl, o4⟩
          have HO4 := Lib.hid ((HO2.out.trans HO.out).trans o4)
          clear o4 HFa
          go_wp2_with fail
          refine (HNew.out _).mono ?_
          rintro e w5 ⟨cb, rfl, hcb, _, o5⟩
          have HO5 := Lib.hid (HO4.out.trans o5)
          have HCb := Lib.hid hcb
          clear o5 hcb HO4
          go_wp2_with fail
          refine (HRt.out cb w5 HCb.out).mono ?_
          rintro e w6 ⟨rfl, o6⟩
          have HO6 := Lib.hid (HO5.out.trans o6)
          clear o6 HRt HCb HO5
          have e3 : (cc : Int) * 30 = 30 * (((m : Int) + 15) / 16) := by rw [HR1.out]; exact Int.mul_comm _ _
          have e4 : (m : Int) * 2 = 2 * (m : Int) := Int.mul_comm _ _
          go_wp2_with fail
          clear e3 e4
          refine (HA.out _).mono ?_
          rintro e w7 ⟨rfl, o7⟩
          have HO7 := Lib.hid (HO6.out.trans o7)
          clear o7
          go_wp2
          go_ret
          exact ⟨rfl, HO7.out⟩
      · have HRt := Lib.hid (fun (b : Nat) (V : World) (h : CoB V b 30) => CRate_no b 30 r V h (by omega) (by omega))
        rcases (by omega : r < 0 ∨ (0 ≤ r ∧ 1048576 < r)) with hrn | ⟨hr0, hrp⟩
        all_goals
          clear hr
          rcases hlen with hl | ⟨hl1, hl⟩
          all_goals
            go_wp2_with fail
            refine (HFa.out wr HO.out).mono ?_
            rintro e w4 ⟨rfl, o4⟩
            have HO4 := Lib.hid ((HO2.out.trans HO.out).trans o4)
            clear o4 HFa
            go_wp2_with fail
            refine (HNew.out _).mono ?_
            rintro e w5 ⟨cb, rfl, hcb, _, o5⟩
            have HO5 := Lib.hid (HO4.out.trans o5)
            have HCb := Lib.hid hcb
            clear o5 hcb HO4
            go_wp2_with fail
            refine (HRt.out cb w5 HCb.out).mono ?_
            rintro e w6 ⟨rfl, rfl⟩
            go_wp2_with fail
            refine (HA.out _).mono ?_
            rintro e w7 ⟨rfl, o7⟩
            have HO7 := Lib.hid (HO5.out.trans o7)
            clear o7
            go_wp2
            go_ret
            exact ⟨rfl, HO7.out⟩


theorem own : ownKnob Tryz.prog.godebug = none := by kernel_rfl
theorem laidOut : laidOutB Tryz.prog = true := by kernel_rfl

set_option maxRecDepth 100000 in
theorem lifted (os : Os) (started : os.Started) (H : Type) (enc : TypeId × Value → H) :
    ReturnsInHanded {} Tryz.checked os 7 .any (Rows.codeFarSpec.pre6 enc Tryz.prog Tryz.f7 Rows.codeFarRow.domain false) (Rows.codeFarSpec.post enc Tryz.prog Tryz.f7 false true false false) := by
  refine returnsInHanded_of_change (C := Tryz.checked) own started (by kernel_rfl) Tryz.func7
    (ChangeSpec.witness6 (enc := enc) (C := Tryz.checked) false ⟨#[], #[.slice none 0 0, .slice none 0 0, .int .i64 0], []⟩ 8 (by kernel_rfl) (by kernel_rfl) (by kernel_rfl) (by kernel_rfl)) ?_
  intro W base args ds gs before hval0 hW hcnd _
  have hval : ∀ (j : Nat) t v, Tryz.f7.params[j]? = some t → args[j]? = some v → Value.okWide Tryz.prog W .any base t v := hval0
  have hW' := hW
  have hlt : ∀ p ∈ before, p.block < W.heap.size := fun p hp => hW'.lt p hp
  obtain ⟨p, q, hA0, hV, rfl, hfz, hnd⟩ := hW
  have hA : DataW.TrodAll enc Tryz.prog W 0 (fun _ => true) true Tryz.f7.params.toList args.toList ds p := hA0
  rw [Tryz.params7] at hA hval
  obtain ⟨v0, vs0, d0, ds0, p0, q0, hargs, rfl, rfl, h0, r0⟩ := trodAll_cons hA
  obtain ⟨v1, vs1, d1, ds1, p1, q1, rfl, rfl, rfl, h1, r1⟩ := trodAll_cons r0
  obtain ⟨v2, vs2, d2, ds2, p2, q2, rfl, rfl, rfl, h2, r2⟩ := trodAll_cons r1
  obtain ⟨rfl, rfl, rfl⟩ := trodAll_nil r2
  obtain rfl : args = #[v0, v1, v2] := by cases args; simp_all
  obtain ⟨rfl, rfl⟩ := trodVars_none hV
  obtain ⟨s0, n0, c0, xs0, rfl, hs0, hn0, hc0, hw0⟩ := open_slI Tryz.underlying22 Tryz.underlying3 (by kernel_rfl) (hval 0 22 v0 rfl rfl) h0 (fun x hx => hlt x (by simp [hx]))
  obtain ⟨s1, n1, c1, xs1, rfl, hs1, hn1, hc1, hw1⟩ := open_slI Tryz.underlying22 Tryz.underlying3 (by kernel_rfl) (hval 1 22 v1 rfl rfl) h1 (fun x hx => hlt x (by simp [hx]))
  obtain ⟨a2, rfl, _, _, w2⟩ := open_int Tryz.underlying3 (hval 2 3 v2 rfl rfl) h2
  refine (walk s0 n0 c0 xs0 s1 n1 c1 xs1 a2 W hs0 (by unfold maxLen at hc0; omega) (fun x hx => i64_of (hw0 x hx)) hs1 (by unfold maxLen at hc1; omega) (fun x hx => i64_of (hw1 x hx)) (i64_of w2).1 (i64_of w2).2).mono fun e W' ⟨he, hg⟩ => ?_
  subst he
  exact ⟨_, rfl, law_done laidOut Tryz.underlying4 rfl (by kernel_rfl) rfl hW' rfl hg⟩

theorem over : Rows.codeFarRow.holds Tryz.pinned (OpenSpec.ofChange Rows.codeFarSpec) :=
  OpenClaim.holds_of_wide 7 Tryz.f7 rfl rfl rfl rfl rfl rfl rfl ⟨rfl, rfl, rfl, rfl, rfl⟩ rfl rfl rfl rfl rfl (by kernel_rfl) Tryz.func7 (by kernel_rfl)
    (of_decide_eq_true (by kernel_rfl)) (by unfold Func.isWrapper; first | (rw [if_pos (by decide +kernel)]; kernel_rfl) | (rw [if_neg (by decide +kernel)]; exact ⟨rfl, rfl⟩))
    (fun os started H enc _ => lifted os started H enc)

theorem proved : Rows.CodeFarSaid :=
  over
end Go.Proofs.YtlcbmgbnhjgelaaGreat.codeFar
