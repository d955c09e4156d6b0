/- The library's stable sort by wave's comparer: the merge in place. -/
import Derived.Test.YtmdninfmidmmhaaSortC
namespace Go.Proofs.Ytmdninfmidmmhaa
set_option linter.unusedVariables false
set_option maxRecDepth 100000
open Go.RowKit Go.ChangeShapes Go.WideShapes

/-- The answers of a comparer at two places of which the first element is the later one. -/
theorem CmpE.late {w0 : World} {g b N : Nat} {c : Nat → Nat → Int} {R : Int → Int → Prop} (h : CmpE w0 g b N c R) {u v : Int} (hu : 0 ≤ u ∧ u < N) (hv : 0 ≤ v ∧ v < N) (huv : v < u) :
    (c u.toNat v.toNat < 0 → R u v) ∧ (¬ c u.toNat v.toNat < 0 → R v u) := by
  have h1 := h.yes v.toNat u.toNat (by omega)
  have h2 := h.no v.toNat u.toNat (by omega)
  rw [Int.toNat_of_nonneg hu.1, Int.toNat_of_nonneg hv.1] at h1 h2
  exact ⟨h1, h2⟩
theorem CmpE.callI {w0 : World} {g b N : Nat} {c : Nat → Nat → Int} {R : Int → Int → Prop} (h : CmpE w0 g b N c R) {u v : Int} (hu : 0 ≤ u ∧ u < N) (hv : 0 ≤ v ∧ v < N) (W : World) (hW : Kept (butOf w0 g) w0 W) :
    Calls Try.prog 27 #[.int .i64 u, .int .i64 v, .pointer (some ⟨b, 0, none⟩)] W fun e w' => e = .returned (.int .i64 (c u.toNat v.toNat)) ∧ ∃ n, w' = W.drewN n := by
  have := h.call W hW u.toNat v.toNat (by omega) (by omega)
  rwa [Int.toNat_of_nonneg hu.1, Int.toNat_of_nonneg hv.1] at this
/-- What a merge is given. -/
structure MrgI (R : Int → Int → Prop) (N : Nat) (F : Nat → Int) (x m y : Nat) : Prop where
  l : OrdAB R F x m
  r : OrdAB R F m y
  lt : ∀ i j, x ≤ i → i < m → m ≤ j → j < y → F i < F j
  bd : ∀ k, x ≤ k → k < y → 0 ≤ F k ∧ F k < N
/-- What a merge tells. -/
def MrgO (w0 : World) (g N : Nat) (R : Int → Int → Prop) (F : Nat → Int) (x y : Nat) (e : Ending) (w' : World) : Prop := e = .returned (.tuple #[]) ∧ ∃ G, SrtW w0 g N G w' ∧ PermAB F G x y ∧ OrdAB R G x y
set_option maxHeartbeats 8000000 in
theorem mergeOne_any (g b N cap : Nat) (c : Nat → Nat → Int) (R : Int → Int → Prop) (w0 : World) (hE : CmpE w0 g b N c R) (x m y : Nat) (hxm : m = x + 1) (hmy : m < y) (hyN : y ≤ N) (hN : N ≤ 2305843009213693952) (F : Nat → Int) (hF : MrgI R N F x m y) (w : World) (hw : SrtW w0 g N F w) :
    Calls Try.prog 34 #[.slice (some ⟨g, 0, none⟩) N cap, .int .i64 x, .int .i64 m, .int .i64 y, cmpV b] w (MrgO w0 g N R F x y) := by
  unfold cmpV MrgO
  have H0 := Lib.hid hw
  have HF := Lib.hid hF
  have HE := Lib.hid hE
  have HXM := Lib.hid hxm
  have d1 : (((m : Int) - (x : Int)) == 1) = true := by rw [beq_iff_eq]; omega
  have hxm' : x < m := by omega
  clear hw hF hE hxm
  go_enter Try.func34, Try.ntmps34
  go_wp2_with fail
  clear d1
  go_loopw [10, 11] (fun iv jv wr => ∃ i j : Nat, iv = .int .i64 i ∧ jv = .int .i64 j ∧ m ≤ i ∧ i ≤ j ∧ j ≤ y ∧ Hid ((m < i → R (F (i - 1)) (F x)) ∧ (j < y → R (F x) (F j))) ∧ Hid (SrtW w0 g N F wr)) (fun iv jv _ => (intOf jv).toNat - (intOf iv).toNat)
  case atStart => exact ⟨m, y, rfl, rfl, Nat.le_refl _, by omega, Nat.le_refl _, Lib.hid ⟨fun h => by omega, fun h => by omega⟩, H0⟩
  case round =>
    clear H0
    obtain ⟨i, j, rfl, rfl, h1, h2, h3, HR, HW⟩ := hrel
    by_cases hij : i < j
    · obtain ⟨h, hh⟩ : ∃ h : Nat, h = (i + j) / 2 := ⟨_, rfl⟩
      have hb1 : i ≤ h := by omega
      have hb2 : h < j := by omega
      go_upto_region 5 with (fail)
      rw [show ((i : Int) + (j : Int)) / 2 = (h : Int) by omega]
      clear hh
      have hbh := HF.out.bd h (by omega) (by omega)
      have hbx := HF.out.bd x (by omega) (by omega)
      have hlt := HF.out.lt x h (Nat.le_refl _) hxm' (by omega) (by omega)
      obtain ⟨hy, hn⟩ := HE.out.late hbh hbx hlt
      have hL := fun d => HE.out.callI hbh hbx (wr.drewN d) (HW.out.kept.drewN d)
      have HW2 := Lib.hid (fun d => HW.out.drewN d)
      have k1 := HW.out.row.cell h (by omega)
      have k2 := HW.out.row.cell x (by omega)
      have hN1 : h < N := by omega
      have hN2 : x < N := by omega
      obtain ⟨cc, hcc⟩ : ∃ cc, cc = c (F h).toNat (F x).toNat := ⟨_, rfl⟩
      rw [← hcc] at hL hy hn
      have HLo := Lib.hid hL
      have HR1 := Lib.hid HR.out.1
      have HR2 := Lib.hid HR.out.2
      have HY := Lib.hid hy
      have HNo := Lib.hid hn
      clear hL hbh hbx hlt hcc HR HW hy hn
      generalize hu : F h = u at *
      generalize hv : F x = v at *
      have HU := Lib.hid hu
      have HV := Lib.hid hv
      clear hu hv
      by_cases hc : cc < 0
      · have hr := HY.out hc
        have HRR := Lib.hid hr
        clear hr HY HNo HR1
        go_quiet ((go_at_call 27; with_reducible exact Calls.quiet_of (HLo.out _)))
        go_wp2_with fail
        go_roundw
        case rel => exact ⟨h + 1, j, by go_num, rfl, by omega, by omega, h3, Lib.hid (by rw [HV.out]; exact ⟨fun _ => by rw [Nat.add_sub_cancel, HU.out]; exact HRR.out, HR2.out⟩), HW2.out _⟩
        case measure => simp [intOf]; omega
      · have hr := HNo.out hc
        have hc0 : 0 ≤ cc := by omega
        have HRR := Lib.hid hr
        clear hr HY HNo HR2
        go_quiet ((go_at_call 27; with_reducible exact Calls.quiet_of (HLo.out _)))
        go_wp2_with fail
        go_roundw
        case rel => exact ⟨i, h, rfl, rfl, h1, hb1, by omega, Lib.hid (by rw [HV.out]; exact ⟨HR1.out, fun _ => by rw [HU.out]; exact HRR.out⟩), HW2.out _⟩
        case measure => simp [intOf]; omega
    · obtain rfl : i = j := by omega
      have hk0 : x ≤ i - 1 := by omega
      have HW0 : Hid (SrtW w0 g N (rotF F x (x + 1) (x + 1)) wr) := Lib.hid (HW.out.ext (rotF_right F x (x + 1) (by omega)).symm)
      clear HW
      go_wp2_with fail
      obtain ⟨wo, rfl⟩ : ∃ V, V = wr := ⟨_, rfl⟩
      go_loopw [13] (fun kv wr => ∃ k : Nat, kv = .int .i64 k ∧ x ≤ k ∧ k + 1 ≤ i ∧ Hid (SrtW w0 g N (rotF F x (x + 1) (k + 1)) wr)) (fun kv _ => i - (intOf kv).toNat)
      case atStart => exact ⟨x, rfl, Nat.le_refl _, by omega, HW0⟩
      case round =>
        clear HW0
        obtain ⟨k, rfl, h4, h5, HW⟩ := hrel
        by_cases hki : k + 1 < i
        · obtain ⟨m', hm'⟩ : ∃ m' : Nat, m' = k + 1 := ⟨_, rfl⟩
          have hkN : k < N := by omega
          have hmN : m' < N := by omega
          have hdk : decide ((k : Int) < (i : Int) - 1) = true := decide_eq_true (by omega)
          have c1 := HW.out.row.cell k hkN
          have c2 := HW.out.row.cell m' hmN
          have f1 := HW.out.row.frz k hkN
          have f2 := HW.out.row.frz m' hmN
          have HB1 := Lib.hid (show m' ≤ 9223372036854775807 by omega)
          have hW3 := ((HW.out.swap' k (by omega)).ext (rot_up F x k h4)).drew
          rw [← hm'] at hW3 c2
          have HW3 := Lib.hid hW3
          have HM := Lib.hid hm'
          clear hW3 HW
          rw [← hm'] at c1
          obtain ⟨e1, e2⟩ := wrapN (x := (k : Int) + 1) (p := m') (by rw [hm']; rfl) HB1.out
          have hkm : k ≠ m' := by omega
          clear hm'
          generalize rotF F x (x + 1) m' k = u at *
          generalize rotF F x (x + 1) m' m' = v at *
          go_wp2_with fail
          go_region
          clear e1 e2
          go_wp2_with fail
          go_roundw
          case rel => exact ⟨m', by have := HM.out; go_num, by have := HM.out; omega, by have := HM.out; omega, HW3⟩
          case measure => have := HM.out; simp [intOf]; omega
        · have hdk : decide ((k : Int) < (i : Int) - 1) = false := decide_eq_false (by omega)
          have hki' : k + 1 = i := by omega
          rw [hki'] at HW
          have hs := rot_sorted HE.out.tr (G := F) (a := x) (s := x) (m := x + 1) (e := i) (b := y) (Nat.le_refl _) (by omega) (by omega) h3 (ord_small _ (Nat.le_refl _)) (by have := HF.out.r; rwa [HXM.out] at this)
            (fun h => by omega) (fun _ h => HR.out.1 (by have := HXM.out; omega)) (fun h => by omega) (fun _ h => by rw [Nat.add_sub_cancel]; exact HR.out.2 h)
          have HS := Lib.hid hs
          have HP := Lib.hid ((rot_perm F (a := x) (m := x + 1) (b := i) (by omega) (by omega)).wide (Nat.le_refl _) h3)
          clear hs hki'
          go_wp2_with fail
          refine bodyPost_ret (results_none rfl _ _ _) rfl ?_
          exact ⟨rfl, _, HW.out, HP.out, HS.out⟩
end Go.Proofs.Ytmdninfmidmmhaa
