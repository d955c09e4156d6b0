/- The library's stable sort by wave's comparer: the merge of one element behind. -/
import Derived.Test.YtmdninfmidmmhaaSortD
namespace Go.Proofs.Ytmdninfmidmmhaa
set_option linter.unusedVariables false
set_option maxRecDepth 100000
open Go.RowKit Go.ChangeShapes Go.WideShapes

set_option maxHeartbeats 8000000 in
theorem mergeLast_any (g b N cap : Nat) (c : Nat → Nat → Int) (R : Int → Int → Prop) (w0 : World) (hE : CmpE w0 g b N c R) (x m y : Nat) (hxm : x + 1 < m) (hmy : y = m + 1) (hyN : y ≤ N) (hN : N ≤ 2305843009213693952) (F : Nat → Int) (hF : MrgI R N F x m y) (w : World) (hw : SrtW w0 g N F w) :
    Calls Try.prog 34 #[.slice (some ⟨g, 0, none⟩) N cap, .int .i64 x, .int .i64 m, .int .i64 y, cmpV b] w (MrgO w0 g N R F x y) := by
  unfold cmpV MrgO
  have H0 := Lib.hid hw
  have HF := Lib.hid hF
  have HE := Lib.hid hE
  have HMY := Lib.hid hmy
  have d1 : (((m : Int) - (x : Int)) == 1) = false := by rw [beq_eq_false_iff_ne]; omega
  have d2 : (((y : Int) - (m : Int)) == 1) = true := by rw [beq_iff_eq]; omega
  have hmN : m < N := by omega
  clear hw hF hE hmy
  go_enter Try.func34, Try.ntmps34
  go_wp2_with fail
  clear d1 d2
  go_loopw [14, 15] (fun iv jv wr => ∃ i j : Nat, iv = .int .i64 i ∧ jv = .int .i64 j ∧ x ≤ i ∧ i ≤ j ∧ j ≤ m ∧ Hid ((x < i → R (F (i - 1)) (F m)) ∧ (j < m → R (F m) (F j))) ∧ Hid (SrtW w0 g N F wr)) (fun iv jv _ => (intOf jv).toNat - (intOf iv).toNat)
  case atStart => exact ⟨x, m, rfl, rfl, Nat.le_refl _, by omega, Nat.le_refl _, Lib.hid ⟨fun h => by omega, fun h => by omega⟩, H0⟩
  case round =>
    clear H0
    obtain ⟨i, j, rfl, rfl, h1, h2, h3, HR, HW⟩ := hrel
    by_cases hij : i < j
    · obtain ⟨h, hh⟩ : ∃ h : Nat, h = (i + j) / 2 := ⟨_, rfl⟩
      have hb1 : i ≤ h := by omega
      have hb2 : h < j := by omega
      go_upto_region 17 with (fail)
      rw [show ((i : Int) + (j : Int)) / 2 = (h : Int) by omega]
      clear hh
      have hbh := HF.out.bd h (by omega) (by have := HMY.out; omega)
      have hbx := HF.out.bd m (by omega) (by have := HMY.out; omega)
      have hlt := HF.out.lt h m (by omega) (by omega) (Nat.le_refl _) (by have := HMY.out; omega)
      obtain ⟨hy, hn⟩ := HE.out.late hbx hbh hlt
      have hL := fun d => HE.out.callI hbx hbh (wr.drewN d) (HW.out.kept.drewN d)
      have HW2 := Lib.hid (fun d => HW.out.drewN d)
      have k1 := HW.out.row.cell h (by omega)
      have k2 := HW.out.row.cell m (by omega)
      have hN1 : h < N := by omega
      obtain ⟨cc, hcc⟩ : ∃ cc, cc = c (F m).toNat (F h).toNat := ⟨_, rfl⟩
      rw [← hcc] at hL hy hn
      have HLo := Lib.hid hL
      have HR1 := Lib.hid HR.out.1
      have HR2 := Lib.hid HR.out.2
      have HY := Lib.hid hy
      have HNo := Lib.hid hn
      clear hL hbh hbx hlt hcc HR HW hy hn
      generalize hu : F h = u at *
      generalize hv : F m = v at *
      have HU := Lib.hid hu
      have HV := Lib.hid hv
      clear hu hv
      by_cases hc : cc < 0
      · have hr := HY.out hc
        have HRR := Lib.hid hr
        have dc : decide (cc < 0) = true := decide_eq_true hc
        clear hr HY HNo HR2
        go_quiet ((go_at_call 27; with_reducible exact Calls.quiet_of (HLo.out _)))
        go_wp2_with fail
        go_roundw
        case rel => exact ⟨i, h, rfl, rfl, h1, hb1, by omega, Lib.hid (by rw [HV.out]; exact ⟨HR1.out, fun _ => by rw [HU.out]; exact HRR.out⟩), HW2.out _⟩
        case measure => simp [intOf]; omega
      · have hr := HNo.out hc
        have hc0 : 0 ≤ cc := by omega
        have HRR := Lib.hid hr
        have dc : decide (cc < 0) = false := decide_eq_false hc
        clear hr HY HNo HR1
        go_quiet ((go_at_call 27; with_reducible exact Calls.quiet_of (HLo.out _)))
        go_wp2_with fail
        go_roundw
        case rel => exact ⟨h + 1, j, by go_num, rfl, by omega, by omega, h3, Lib.hid (by rw [HV.out]; exact ⟨fun _ => by rw [Nat.add_sub_cancel, HU.out]; exact HRR.out, HR2.out⟩), HW2.out _⟩
        case measure => simp [intOf]; omega
    · obtain rfl : i = j := by omega
      have HW0 : Hid (SrtW w0 g N (rotF F m m (m + 1)) wr) := Lib.hid (HW.out.ext (rotF_left F m (m + 1) (by omega)).symm)
      clear HW
      go_wp2_with fail
      obtain ⟨wo, rfl⟩ : ∃ V, V = wr := ⟨_, rfl⟩
      go_loopw [17] (fun kv wr => ∃ k : Nat, kv = .int .i64 k ∧ i ≤ k ∧ k ≤ m ∧ Hid (SrtW w0 g N (rotF F k m (m + 1)) wr)) (fun kv _ => (intOf kv).toNat)
      case atStart => exact ⟨m, rfl, h3, Nat.le_refl _, HW0⟩
      case round =>
        clear HW0
        obtain ⟨k, rfl, h4, h5, HW⟩ := hrel
        by_cases hki : i < k
        · obtain ⟨m', hm'⟩ : ∃ m' : Nat, m' = k - 1 := ⟨_, rfl⟩
          have hkN : k < N := by omega
          have hmN' : m' < N := by omega
          have hm1 : m' < k := by omega
          have hdk : decide ((i : Int) < (k : Int)) = true := decide_eq_true (by omega)
          have c1 := HW.out.row.cell k hkN
          have c2 := HW.out.row.cell m' hmN'
          have f1 := HW.out.row.frz k hkN
          have f2 := HW.out.row.frz m' hmN'
          have HB1 := Lib.hid (show m' ≤ 9223372036854775807 by omega)
          have hW3 := ((HW.out.swap k hkN (by omega)).ext (rot_down F m k h5 (by omega))).drew
          rw [← hm'] at hW3
          have HW3 := Lib.hid hW3
          have HM := Lib.hid hm'
          have hq : (k : Int) - 1 = (m' : Int) := by omega
          clear hW3 HW
          obtain ⟨e1, e2⟩ := wrapN (x := (k : Int) - 1) (p := m') hq HB1.out
          have hkm : k ≠ m' := by omega
          clear hm' hq
          generalize rotF F k m (m + 1) k = u at *
          generalize rotF F k m (m + 1) m' = v at *
          go_wp2_with fail
          go_region
          clear e1 e2
          go_wp2_with fail
          go_roundw
          case rel => exact ⟨m', by have := HM.out; go_num, by have := HM.out; omega, by have := HM.out; omega, HW3⟩
          case measure => have := HM.out; simp [intOf]; omega
        · have hdk : decide ((i : Int) < (k : Int)) = false := decide_eq_false (by omega)
          have hki' : k = i := by omega
          rw [hki'] at HW
          have hs := rot_sorted HE.out.tr (G := F) (a := x) (s := i) (m := m) (e := m + 1) (b := y) h1 h3 (by omega) (by have := HMY.out; omega) HF.out.l HF.out.r
            (fun _ h => by have := HMY.out; omega) (fun h _ => by rw [Nat.add_sub_cancel]; exact HR.out.2 h) (fun h _ => HR.out.1 h) (fun _ h => by have := HMY.out; omega)
          have HS := Lib.hid hs
          have HP := Lib.hid ((rot_perm F (a := i) (m := m) (b := m + 1) h3 (by omega)).wide h1 (show m + 1 ≤ y by have := HMY.out; omega))
          clear hs hki'
          go_wp2_with fail
          refine bodyPost_ret (results_none rfl _ _ _) rfl ?_
          exact ⟨rfl, _, HW.out, HP.out, HS.out⟩
end Go.Proofs.Ytmdninfmidmmhaa
