/- What the laws of stage 22 call: Plain.Next, some of its ways. (by wip/s22/plainnext.py and wip/tools/exp.py) -/
import Derived.Test.YtgdlinfgcfjciaaEnvM
import Derived.Test.YtgdlinfgcfjciaaEnvN
namespace Go.Proofs.Ytgdlinfgcfjciaa
set_option linter.unusedVariables false
set_option linter.unusedSimpArgs false
set_option maxRecDepth 100000
open Go.RowKit Go.ChangeShapes Go.WideShapes

set_option maxHeartbeats 4000000 in
theorem PNext_F (g : Nat) (a d s r lv : Int) (w : World) (h : PB w g a d s r 2 lv) (hr_ : shB a d s r = true) (ho : StOk s 2 lv)  :
    Calls Try.prog 12 #[.pointer (some ⟨g, 0, none⟩)] w fun e w' => e = .returned (.int .i64 (nxV a d s r 2 lv)) ∧ PB w' g a d s r (nxSt a d s r 2 lv) (nxLv a d s r 2 lv) ∧ Kept (butOf w g) w w' := by
  obtain ⟨⟨a0, a1⟩, ⟨d0, d1⟩, ⟨s0, s1⟩, r0, r1⟩ := shB_yes hr_
  have v0 := ho.v0
  have v1 := ho.v1
  have vf := ho.fall
  have HSl := Lib.hid (fun o n w h0 h1 hn => slope22_any o n w h0 h1 hn)
  have hp1 : passSt a d r 2 = 2 := by unfold passSt; simp
  have hp2 : passLv a d s r 2 lv = (lv) := by unfold passLv; simp
  have q1 : wrap64 (s * 65536) = s * 65536 := IntWalk.wrap64_in _ (by omega)
  have e1 : nxV a d s r 2 lv = (lv + 32768) / 65536 := by unfold nxV; rw [hp2]
  have e2 : nxSt a d s r 2 lv = goSt a d s r 2 (lv) := by unfold nxSt; rw [hp1, hp2]
  have e3 : nxLv a d s r 2 lv = goLv a d s r 2 (lv) := by unfold nxLv; rw [hp1, hp2]
  rw [e1, e2, e3]
  clear e1 e2 e3 hp1 hp2
  have w1 : wrap64 (lv + 32768) = lv + 32768 := IntWalk.wrap64_in _ (by omega)
  have w2 : wrap64 ((lv + 32768).tdiv 65536) = (lv + 32768) / 65536 := by rw [Int.tdiv_eq_ediv_of_nonneg (by omega)]; exact IntWalk.wrap64_in _ (by omega)
  have HE := Lib.hid h
  obtain ⟨c0, c1, c2, c3, c4, c5, f4, f5⟩ := h.cells
  have HV : Hid (PB w g a d s r 2 (lv) ∧ Kept (butOf w g) w w) := Lib.hid ⟨h, Kept.refl _ _⟩
  clear h HE vf ho
  have g1 : goSt a d s r 2 (lv) = 2 := rfl
  have g2 : goLv a d s r 2 (lv) = lv := rfl
  rw [g1, g2]
  clear g1 g2
  go_enter Try.func12, Try.ntmps12
  go_wp2_with fail
  go_ret
  exact ⟨rfl, HV.out.1, HV.out.2⟩
set_option maxHeartbeats 4000000 in
theorem PNext_G (g : Nat) (a d s r lv : Int) (w : World) (h : PB w g a d s r 3 lv) (hr_ : shB a d s r = true) (ho : StOk s 3 lv) (hr : r = 0) :
    Calls Try.prog 12 #[.pointer (some ⟨g, 0, none⟩)] w fun e w' => e = .returned (.int .i64 (nxV a d s r 3 lv)) ∧ PB w' g a d s r (nxSt a d s r 3 lv) (nxLv a d s r 3 lv) ∧ Kept (butOf w g) w w' := by
  obtain ⟨⟨a0, a1⟩, ⟨d0, d1⟩, ⟨s0, s1⟩, r0, r1⟩ := shB_yes hr_
  have v0 := ho.v0
  have v1 := ho.v1
  have vf := ho.fall
  have HSl := Lib.hid (fun o n w h0 h1 hn => slope22_any o n w h0 h1 hn)
  have hp1 : passSt a d r 3 = 4 := by unfold passSt; simp [hr]
  have hp2 : passLv a d s r 3 lv = (0) := by unfold passLv; simp [hr]
  have q1 : wrap64 (s * 65536) = s * 65536 := IntWalk.wrap64_in _ (by omega)
  have e1 : nxV a d s r 3 lv = (0 + 32768) / 65536 := by unfold nxV; rw [hp2]
  have e2 : nxSt a d s r 3 lv = goSt a d s r 4 (0) := by unfold nxSt; rw [hp1, hp2]
  have e3 : nxLv a d s r 3 lv = goLv a d s r 4 (0) := by unfold nxLv; rw [hp1, hp2]
  rw [e1, e2, e3]
  clear e1 e2 e3 hp1 hp2
  have HE := Lib.hid h
  obtain ⟨c0, c1, c2, c3, c4, c5, f4, f5⟩ := h.cells
  rw [hr] at c3
  clear hr
  have hA1 := h.set2 (0) 4
  have HV : Hid (PB ((w.setCell ⟨g, 5, none⟩ (.int .i64 0)).setCell ⟨g, 4, none⟩ (.int .i64 4)) g a d s r 4 (0) ∧ Kept (butOf w g) w ((w.setCell ⟨g, 5, none⟩ (.int .i64 0)).setCell ⟨g, 4, none⟩ (.int .i64 4))) := Lib.hid hA1
  clear hA1
  clear h HE vf ho
  have g1 : goSt a d s r 4 (0) = 4 := rfl
  have g2 : goLv a d s r 4 (0) = 0 := rfl
  rw [g1, g2]
  clear g1 g2
  go_enter Try.func12, Try.ntmps12
  go_wp2_with fail
  go_ret
  exact ⟨ret_int (by omega), HV.out.1, HV.out.2⟩
set_option maxHeartbeats 4000000 in
theorem PNext_H (g : Nat) (a d s r lv : Int) (w : World) (h : PB w g a d s r 3 lv) (hr_ : shB a d s r = true) (ho : StOk s 3 lv) (hr : r ≠ 0) :
    Calls Try.prog 12 #[.pointer (some ⟨g, 0, none⟩)] w fun e w' => e = .returned (.int .i64 (nxV a d s r 3 lv)) ∧ PB w' g a d s r (nxSt a d s r 3 lv) (nxLv a d s r 3 lv) ∧ Kept (butOf w g) w w' := by
  obtain ⟨⟨a0, a1⟩, ⟨d0, d1⟩, ⟨s0, s1⟩, r0, r1⟩ := shB_yes hr_
  have v0 := ho.v0
  have v1 := ho.v1
  have vf := ho.fall
  have HSl := Lib.hid (fun o n w h0 h1 hn => slope22_any o n w h0 h1 hn)
  have hp1 : passSt a d r 3 = 3 := by unfold passSt; simp [hr]
  have hp2 : passLv a d s r 3 lv = (lv) := by unfold passLv; simp [hr]
  have q1 : wrap64 (s * 65536) = s * 65536 := IntWalk.wrap64_in _ (by omega)
  have e1 : nxV a d s r 3 lv = (lv + 32768) / 65536 := by unfold nxV; rw [hp2]
  have e2 : nxSt a d s r 3 lv = goSt a d s r 3 (lv) := by unfold nxSt; rw [hp1, hp2]
  have e3 : nxLv a d s r 3 lv = goLv a d s r 3 (lv) := by unfold nxLv; rw [hp1, hp2]
  rw [e1, e2, e3]
  clear e1 e2 e3 hp1 hp2
  have hrb : (r == 0) = false := by simpa using hr
  have w1 : wrap64 (lv + 32768) = lv + 32768 := IntWalk.wrap64_in _ (by omega)
  have w2 : wrap64 ((lv + 32768).tdiv 65536) = (lv + 32768) / 65536 := by rw [Int.tdiv_eq_ediv_of_nonneg (by omega)]; exact IntWalk.wrap64_in _ (by omega)
  have HE := Lib.hid h
  obtain ⟨c0, c1, c2, c3, c4, c5, f4, f5⟩ := h.cells
  clear hr
  have HV : Hid (PB w g a d s r 3 (lv) ∧ Kept (butOf w g) w w) := Lib.hid ⟨h, Kept.refl _ _⟩
  clear h HE vf ho
  obtain ⟨sl, hsl⟩ : ∃ sl, slopeI 16777216 r = sl := ⟨_, rfl⟩
  obtain ⟨p0, p1, -⟩ := slopeI_bd (o := 16777216) (n := r) (by omega) (by omega)
  have HS := Lib.hid (fun w => HSl.out 16777216 r w (by omega) (by omega) (by omega))
  rw [hsl] at p0 p1 HS
  have g1 : goSt a d s r 3 (lv) = if lv - sl ≤ 0 then 3 + 1 else 3 := by
    unfold goSt
    rw [if_pos (show wyG 3 = true from rfl), mvL_dn (by unfold wyO; simp; try omega) (by unfold wyO; simp; try omega) (by unfold wyL; simp; try omega)]
    have : wyL s 3 = 0 := by unfold wyL; simp
    have : wyO s 3 = 16777216 := by unfold wyO; simp
    have : wyT a d r 3 = r := by unfold wyT; simp
    simp only [*]
    congr 1
    apply propext
    omega
  have g2 : goLv a d s r 3 (lv) = max 0 (lv - sl) := by
    unfold goLv
    rw [if_pos (show wyG 3 = true from rfl), mvL_dn (by unfold wyO; simp; try omega) (by unfold wyO; simp; try omega) (by unfold wyL; simp; try omega)]
    have : wyL s 3 = 0 := by unfold wyL; simp
    have : wyO s 3 = 16777216 := by unfold wyO; simp
    have : wyT a d r 3 = r := by unfold wyT; simp
    simp only [*]
  obtain ⟨S2, hS2⟩ : ∃ S2, goSt a d s r 3 (lv) = S2 := ⟨_, rfl⟩
  obtain ⟨L2, hL2⟩ : ∃ L2, goLv a d s r 3 (lv) = L2 := ⟨_, rfl⟩
  rw [hS2] at g1
  rw [hL2] at g2
  rw [hS2, hL2]
  have HS2 := Lib.hid g1
  have HL2 := Lib.hid g2
  clear g1 g2 hS2 hL2 HSl
  have z1 : IntKind.i64.wrap (lv - sl) = lv - sl := IntWalk.i64_in _ (by omega)
  have z2 : wrap64 (lv - sl) = lv - sl := IntWalk.wrap64_in _ (by omega)
  go_enter Try.func12, Try.ntmps12
  go_wp2_with fail
  obtain ⟨y0, y1, y2, y3, y4, y5, x4, x5⟩ := HV.out.1.cells
  clear c0 c1 c2 c3 c4 c5 f4 f5
  refine wp_region_still_tail 14 (by kernel_rfl) (by kernel_rfl) ?_
  simp only [List.take_succ_cons, List.take_zero, List.drop_succ_cons, List.drop_zero]
  iterate 10 (with_reducible refine wpStill_step (fun K hK => ?_); go_simp; with_reducible refine hK _ ?_; clear hK K)
  still_call ((HS.out _).mono fun _ _ hh => ⟨hh.1, hh.2.symm⟩)
  iterate 3 (with_reducible refine wpStill_step (fun K hK => ?_); go_simp; with_reducible refine hK _ ?_; clear hK K)
  with_reducible refine wpStill_nil ?_
  change wpList _ _ _ _ _ w.drew
  by_cases c : lv - sl ≤ 0
  · have HF : Hid (PB ((((w.setCell ⟨g, 5, none⟩ (.int .i64 (lv - sl))).setCell ⟨g, 5, none⟩ (.int .i64 0)).setCell ⟨g, 4, none⟩ (.int .i64 (3 + 1))).drew) g a d s r (3 + 1) 0 ∧ Kept (butOf w g) w ((((w.setCell ⟨g, 5, none⟩ (.int .i64 (lv - sl))).setCell ⟨g, 5, none⟩ (.int .i64 0)).setCell ⟨g, 4, none⟩ (.int .i64 (3 + 1))).drew)) := Lib.hid (by
      have e1 : PB (w.setCell ⟨g, 5, none⟩ (.int .i64 (lv - sl))) g a d s r 3 (lv - sl) := HV.out.1.setLv _
      have e2 := e1.set2 0 (3 + 1)
      have e3 : Kept (butOf w g) w (w.setCell ⟨g, 5, none⟩ (.int .i64 (lv - sl))) := HV.out.2.trans (Kept.setCell _ (a := ⟨g, 5, none⟩) (fun h => h.2 rfl) _)
      exact ⟨e2.1, (e3.trans (e2.2.mono fun k hk => ⟨Nat.lt_of_lt_of_le hk.1 e3.size, hk.2⟩)).drew⟩)
    have hS := HS2.out
    have hL := HL2.out
    rw [if_pos c] at hS
    rw [show max 0 (lv - sl) = 0 by omega] at hL
    subst hS hL
    clear HV HS2 HL2
    go_wp2_with fail
    go_ret
    exact ⟨ret_int (by omega), HF.out⟩
  · have HF : Hid (PB ((w.setCell ⟨g, 5, none⟩ (.int .i64 (lv - sl))).drew) g a d s r 3 (lv - sl) ∧ Kept (butOf w g) w ((w.setCell ⟨g, 5, none⟩ (.int .i64 (lv - sl))).drew)) := Lib.hid
      ⟨HV.out.1.setLv _, (HV.out.2.trans (Kept.setCell _ (a := ⟨g, 5, none⟩) (fun h => h.2 rfl) _)).drew⟩
    have hS := HS2.out
    have hL := HL2.out
    rw [if_neg c] at hS
    rw [show max 0 (lv - sl) = lv - sl by omega] at hL
    subst hS hL
    clear HV HS2 HL2
    go_wp2_with fail
    go_ret
    exact ⟨ret_int (by omega), HF.out⟩
set_option maxHeartbeats 4000000 in
theorem PNext_I (g : Nat) (a d s r lv : Int) (w : World) (h : PB w g a d s r 4 lv) (hr_ : shB a d s r = true) (ho : StOk s 4 lv)  :
    Calls Try.prog 12 #[.pointer (some ⟨g, 0, none⟩)] w fun e w' => e = .returned (.int .i64 (nxV a d s r 4 lv)) ∧ PB w' g a d s r (nxSt a d s r 4 lv) (nxLv a d s r 4 lv) ∧ Kept (butOf w g) w w' := by
  obtain ⟨⟨a0, a1⟩, ⟨d0, d1⟩, ⟨s0, s1⟩, r0, r1⟩ := shB_yes hr_
  have v0 := ho.v0
  have v1 := ho.v1
  have vf := ho.fall
  have HSl := Lib.hid (fun o n w h0 h1 hn => slope22_any o n w h0 h1 hn)
  have hp1 : passSt a d r 4 = 4 := by unfold passSt; simp
  have hp2 : passLv a d s r 4 lv = (lv) := by unfold passLv; simp
  have q1 : wrap64 (s * 65536) = s * 65536 := IntWalk.wrap64_in _ (by omega)
  have e1 : nxV a d s r 4 lv = (lv + 32768) / 65536 := by unfold nxV; rw [hp2]
  have e2 : nxSt a d s r 4 lv = goSt a d s r 4 (lv) := by unfold nxSt; rw [hp1, hp2]
  have e3 : nxLv a d s r 4 lv = goLv a d s r 4 (lv) := by unfold nxLv; rw [hp1, hp2]
  rw [e1, e2, e3]
  clear e1 e2 e3 hp1 hp2
  have w1 : wrap64 (lv + 32768) = lv + 32768 := IntWalk.wrap64_in _ (by omega)
  have w2 : wrap64 ((lv + 32768).tdiv 65536) = (lv + 32768) / 65536 := by rw [Int.tdiv_eq_ediv_of_nonneg (by omega)]; exact IntWalk.wrap64_in _ (by omega)
  have HE := Lib.hid h
  obtain ⟨c0, c1, c2, c3, c4, c5, f4, f5⟩ := h.cells
  have HV : Hid (PB w g a d s r 4 (lv) ∧ Kept (butOf w g) w w) := Lib.hid ⟨h, Kept.refl _ _⟩
  clear h HE vf ho
  have g1 : goSt a d s r 4 (lv) = 4 := rfl
  have g2 : goLv a d s r 4 (lv) = lv := rfl
  rw [g1, g2]
  clear g1 g2
  go_enter Try.func12, Try.ntmps12
  go_wp2_with fail
  go_ret
  exact ⟨rfl, HV.out.1, HV.out.2⟩
theorem PNext_any (g : Nat) (a d s r st lv : Int) (w : World) (h : PB w g a d s r st lv) (hr : shB a d s r = true) (ho : StOk s st lv) :
    Calls Try.prog 12 #[.pointer (some ⟨g, 0, none⟩)] w fun e w' => e = .returned (.int .i64 (nxV a d s r st lv)) ∧ PB w' g a d s r (nxSt a d s r st lv) (nxLv a d s r st lv) ∧ Kept (butOf w g) w w' := by
  have h0 := ho.s0
  have h1 := ho.s1
  have hst : st = 0 ∨ st = 1 ∨ st = 2 ∨ st = 3 ∨ st = 4 := by omega
  rcases hst with rfl | rfl | rfl | rfl | rfl
  · by_cases ha : a = 0
    · by_cases hd : d = 0
      · exact PNext_A g a d s r lv w h hr ho ha hd
      · exact PNext_B g a d s r lv w h hr ho ha hd
    · exact PNext_C g a d s r lv w h hr ho ha
  · by_cases hd : d = 0
    · exact PNext_D g a d s r lv w h hr ho hd
    · exact PNext_E g a d s r lv w h hr ho hd
  · exact PNext_F g a d s r lv w h hr ho
  · by_cases hr' : r = 0
    · exact PNext_G g a d s r lv w h hr ho hr'
    · exact PNext_H g a d s r lv w h hr ho hr'
  · exact PNext_I g a d s r lv w h hr ho

end Go.Proofs.Ytgdlinfgcfjciaa

