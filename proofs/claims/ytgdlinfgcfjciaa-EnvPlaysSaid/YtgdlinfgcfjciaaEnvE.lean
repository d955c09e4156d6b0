/- Package env: Next, Release, Stage, Level, New, and those of a nil one. (by wip/tools/exp.py of XEnvE.src) -/
import Derived.Test.YtgdlinfgcfjciaaEnvD
namespace Go.Proofs.Ytgdlinfgcfjciaa
set_option linter.unusedVariables false
set_option linter.unusedSimpArgs false
set_option maxRecDepth 100000
open Go.RowKit Go.ChangeShapes Go.WideShapes

theorem mvL_up {v o t l : Int} (h0 : 0 ≤ o) (h1 : o ≤ 16777216) (h : v ≤ l) : mvL v o t l = min l (v + slopeI o t) := by
  obtain ⟨p0, p1, -⟩ := slopeI_bd (n := t) h0 h1
  unfold mvL clampI
  split <;> (try split) <;> omega
theorem mvL_dn {v o t l : Int} (h0 : 0 ≤ o) (h1 : o ≤ 16777216) (h : l ≤ v) : mvL v o t l = max l (v - slopeI o t) := by
  obtain ⟨p0, p1, -⟩ := slopeI_bd (n := t) h0 h1
  unfold mvL clampI
  split <;> (try split) <;> omega
theorem pass_ok {a d s r st lv : Int} (h : StOk s st lv) (hs0 : 0 ≤ s) (hs1 : s ≤ 256) : StOk s (passSt a d r st) (passLv a d s r st lv) := by
  obtain ⟨a0, a1, a2, a3, a4⟩ := h
  unfold passSt passLv
  by_cases c0 : st = 0 ∧ a = 0
  · rw [if_pos c0, if_pos c0]
    by_cases c1 : d = 0
    · rw [if_pos c1, if_pos c1]; exact ⟨by omega, by omega, by omega, by omega, fun _ => by omega⟩
    · rw [if_neg c1, if_neg c1]; exact ⟨by omega, by omega, by omega, by omega, fun _ => by omega⟩
  rw [if_neg c0, if_neg c0]
  by_cases c1 : st = 1 ∧ d = 0
  · rw [if_pos c1, if_pos c1]; exact ⟨by omega, by omega, by omega, by omega, fun _ => by omega⟩
  rw [if_neg c1, if_neg c1]
  by_cases c2 : st = 3 ∧ r = 0
  · rw [if_pos c2, if_pos c2]; exact ⟨by omega, by omega, by omega, by omega, fun _ => by omega⟩
  rw [if_neg c2, if_neg c2]
  exact ⟨a0, a1, a2, a3, a4⟩
/-- Going on by one sample, behind what takes none. -/
def goSt (a d s r st lv : Int) : Int := if wyG st = true then (if mvL lv (wyO s st) (wyT a d r st) (wyL s st) = wyL s st then st + 1 else st) else st
def goLv (a d s r st lv : Int) : Int := if wyG st = true then mvL lv (wyO s st) (wyT a d r st) (wyL s st) else lv
theorem go_ok {a d s r st lv : Int} (h : StOk s st lv) (hs0 : 0 ≤ s) (hs1 : s ≤ 256) : StOk s (goSt a d s r st lv) (goLv a d s r st lv) := by
  obtain ⟨a0, a1, a2, a3, a4⟩ := h
  unfold goSt goLv
  by_cases hg : wyG st = true
  · rw [if_pos hg, if_pos hg]
    have hst : st = 0 ∨ st = 1 ∨ st = 3 := by unfold wyG at hg; simpa using hg
    obtain ⟨o0, o1, l0, l1⟩ := wy_bd (st := st) hs0 hs1
    obtain ⟨m0, m1⟩ := mvL_bd (t := wyT a d r st) o0 o1 a2 a3 l0 l1
    obtain ⟨p0, p1, -⟩ := slopeI_bd (n := wyT a d r st) o0 o1
    rcases hst with rfl | rfl | rfl
    · have e : wyL s 0 = 16777216 := rfl
      split
      · exact ⟨by omega, by omega, by omega, by omega, fun _ => by omega⟩
      · exact ⟨by omega, by omega, by omega, by omega, fun h => by omega⟩
    · have e : wyL s 1 = s * 65536 := rfl
      rw [e] at *
      have hm := mvL_dn (v := lv) (t := wyT a d r 1) o0 o1 (a4 rfl)
      split
      · exact ⟨by omega, by omega, by omega, by omega, fun h => by omega⟩
      · exact ⟨by omega, by omega, by omega, by omega, fun h => by rw [hm]; omega⟩
    · split
      · exact ⟨by omega, by omega, by omega, by omega, fun h => by omega⟩
      · exact ⟨by omega, by omega, by omega, by omega, fun h => by omega⟩
  · rw [if_neg hg, if_neg hg]
    exact ⟨a0, a1, a2, a3, a4⟩
def nxSt (a d s r st lv : Int) : Int := goSt a d s r (passSt a d r st) (passLv a d s r st lv)
def nxLv (a d s r st lv : Int) : Int := goLv a d s r (passSt a d r st) (passLv a d s r st lv)
def nxV (a d s r st lv : Int) : Int := (passLv a d s r st lv + 32768) / 65536
theorem nx_ok {a d s r st lv : Int} (h : StOk s st lv) (hs0 : 0 ≤ s) (hs1 : s ≤ 256) : StOk s (nxSt a d s r st lv) (nxLv a d s r st lv) := go_ok (pass_ok h hs0 hs1) hs0 hs1
theorem nxV_bd {a d s r st lv : Int} (h : StOk s st lv) (hs0 : 0 ≤ s) (hs1 : s ≤ 256) : 0 ≤ nxV a d s r st lv ∧ nxV a d s r st lv ≤ 256 := by
  have h := pass_ok (a := a) (d := d) (r := r) h hs0 hs1
  have h0 := h.v0
  have h1 := h.v1
  unfold nxV
  omega
theorem round_lv (v : Int) : roundI v (pw (16 : Int).toNat) = (v + 32768) / 65536 := by
  have e : pw (16 : Int).toNat = 65536 := rfl
  rw [e]
  unfold roundI
  split <;> omega
set_option maxHeartbeats 4000000 in
theorem eNext_any (g : Nat) (a d s r st lv : Int) (w : World) (h : EB w g a d s r st lv) (hr : shB a d s r = true) (ho : StOk s st lv) :
    Calls Try.prog 11 #[.pointer (some ⟨g, 0, none⟩)] w fun e w' => e = .returned (.int .i64 (nxV a d s r st lv)) ∧ EB w' g a d s r (nxSt a d s r st lv) (nxLv a d s r st lv) ∧ Kept (butOf w g) w w' := by
  obtain ⟨⟨a0, a1⟩, ⟨d0, d1⟩, ⟨s0, s1⟩, r0, r1⟩ := shB_yes hr
  have HP := Lib.hid (ePass_any g a d s r st lv w h hr ho)
  have hk := pass_ok (a := a) (d := d) (r := r) ho s0 s1
  have HG := Lib.hid h.lt
  unfold nxSt nxLv nxV
  clear h ho hr
  generalize passSt a d r st = P at *
  generalize passLv a d s r st lv = V at *
  have HR := Lib.hid (fun w => Round_any V 16 w (by omega) (by omega) (by have := hk.v0; omega) (by have := hk.v1; omega))
  rw [round_lv] at HR
  have HWy := Lib.hid (fun w (h : EB w g a d s r P V) => eWay_any g a d s r P V w h s0 s1 hk.s0 hk.s1)
  have ht : wyT a d r P ≤ 9223372036854775807 := by unfold wyT; split <;> (try split) <;> (try split) <;> omega
  have HMv := Lib.hid (fun w (h : EB w g a d s r P V) => eMove_any g a d s r P V (wyO s P) (wyT a d r P) (wyL s P) w h (wy_bd s0 s1).1 (wy_bd s0 s1).2.1 hk.v0 hk.v1 (wy_bd s0 s1).2.2.1 (wy_bd s0 s1).2.2.2 ht hk.s0 hk.s1)
  have hv : 0 ≤ (V + 32768) / 65536 ∧ (V + 32768) / 65536 ≤ 256 := by have := hk.v0; have := hk.v1; omega
  obtain ⟨S2, hS2⟩ : ∃ S2, goSt a d s r P V = S2 := ⟨_, rfl⟩
  obtain ⟨L2, hL2⟩ : ∃ L2, goLv a d s r P V = L2 := ⟨_, rfl⟩
  have h2 : (wyG P = true → S2 = (if mvL V (wyO s P) (wyT a d r P) (wyL s P) = wyL s P then P + 1 else P) ∧ L2 = mvL V (wyO s P) (wyT a d r P) (wyL s P)) ∧ (wyG P = false → S2 = P ∧ L2 = V) := by
    rw [← hS2, ← hL2]
    unfold goSt goLv
    exact ⟨fun h => by rw [if_pos h, if_pos h]; exact ⟨rfl, rfl⟩, fun h => by rw [h]; exact ⟨rfl, rfl⟩⟩
  rw [hS2, hL2]
  clear hS2 hL2 ht hk
  generalize (V + 32768) / 65536 = nv at *
  have H2 := Lib.hid h2
  clear h2
  generalize hO : wyO s P = O at *
  generalize hT : wyT a d r P = T at *
  generalize hL : wyL s P = L at *
  generalize wyG P = G at *
  clear hO hT hL
  unfold wyC at *
  go_enter Try.func11, Try.ntmps11
  go_wp2_with fail
  refine HP.out.mono ?_
  rintro e w1 ⟨rfl, hE1, hK1⟩
  obtain ⟨-, -, -, -, -, c5, -, -⟩ := hE1.cells
  have HE1 := Lib.hid hE1
  have HK1 := Lib.hid hK1
  clear hE1 hK1 HP
  go_wp2_with fail
  refine (HR.out _).mono ?_
  rintro e w2 ⟨rfl, n2, rfl⟩
  have HE2 : Hid (EB (w1.drewN n2) g a d s r P V) := Lib.hid HE1.out
  have HK2 := Lib.hid (HK1.out.drewN n2)
  clear HE1 HK1 c5 HR
  generalize w1.drewN n2 = W2 at *
  have HW2 := Lib.hid (HWy.out W2 HE2.out)
  clear HWy
  go_wp2_with fail
  refine HW2.out.mono ?_
  rintro e w3 ⟨rfl, ho⟩
  have hA := Old.alloc w3 (.cells #[.int .i64 O, .int .i64 T, .int .i64 L] 46)
  have hE4 := (HE2.out.old ho).old hA
  have HE4 := Lib.hid hE4
  have HK4 := Lib.hid (HK2.out.trans ((ho.trans hA).kept fun k hk => Nat.lt_of_lt_of_le hk.1 HK2.out.size))
  have HM4 := Lib.hid (HMv.out _ hE4)
  clear ho hA hE4 HE2 HK2 HW2 HMv
  cases G
  · obtain ⟨q1, q2⟩ := H2.out.2 rfl
    subst q1
    subst q2
    clear H2
    go_wp2_with fail
    go_ret
    exact ⟨rfl, HE4.out, HK4.out⟩
  · obtain ⟨q1, q2⟩ := H2.out.1 rfl
    rw [← q1, ← q2] at HM4
    clear q1 q2 H2
    go_wp2_with fail
    refine HM4.out.mono ?_
    rintro e w5 ⟨rfl, hE5, hK5⟩
    have HE5 := Lib.hid hE5
    have HK5 := Lib.hid (HK4.out.trans (hK5.mono fun k hk => ⟨Nat.lt_of_lt_of_le hk.1 HK4.out.size, hk.2⟩))
    clear hE5 hK5
    go_wp2_with fail
    go_ret
    exact ⟨rfl, HE5.out, HK5.out⟩
theorem eNext_nil (w : World) : Calls Try.prog 11 #[.pointer none] w fun e w' => e = .returned (.int .i64 0) ∧ w = w' := by
  go_enter Try.func11, Try.ntmps11
  go_wp2_with fail
  go_ret
  exact ⟨rfl, rfl⟩
def relSt (st : Int) : Int := if st = 4 then 4 else 3
theorem rel_ok {s st lv : Int} (h : StOk s st lv) : StOk s (relSt st) lv := by
  unfold relSt
  split
  · exact ⟨by omega, by omega, h.v0, h.v1, fun h => by omega⟩
  · exact ⟨by omega, by omega, h.v0, h.v1, fun h => by omega⟩
theorem eRelease_any (g : Nat) (a d s r st lv : Int) (w : World) (h : EB w g a d s r st lv) :
    Calls Try.prog 10 #[.pointer (some ⟨g, 0, none⟩)] w fun e w' => e = .returned (.tuple #[]) ∧ EB w' g a d s r (relSt st) lv ∧ Kept (butOf w g) w w' := by
  obtain ⟨-, -, -, -, c4, -, f4, -⟩ := h.cells
  have HE := Lib.hid h
  by_cases h4 : st = 4
  · have e : relSt st = st := by rw [h4]; rfl
    rw [e]
    subst h4
    clear e h
    go_enter Try.func10, Try.ntmps10
    go_wp2_with fail
    refine bodyPost_end (results_none rfl _ _ _) rfl ?_
    exact ⟨rfl, HE.out, Kept.refl _ _⟩
  · have e : relSt st = 3 := if_neg h4
    rw [e]
    have hd : (st == 4) = false := by simpa using h4
    have hd' : (st != 4) = true := by simpa using h4
    clear e h h4
    go_enter Try.func10, Try.ntmps10
    go_wp2_with fail
    refine bodyPost_end (results_none rfl _ _ _) rfl ?_
    exact ⟨rfl, HE.out.setSt 3, env_set _ _ _ _⟩
theorem eRelease_nil (w : World) : Calls Try.prog 10 #[.pointer none] w fun e w' => e = .returned (.tuple #[]) ∧ w = w' := by
  go_enter Try.func10, Try.ntmps10
  go_wp2_with fail
  refine bodyPost_end (results_none rfl _ _ _) rfl ?_
  exact ⟨rfl, rfl⟩
theorem eStage_any (g : Nat) (a d s r st lv : Int) (w : World) (h : EB w g a d s r st lv) :
    Calls Try.prog 13 #[.pointer (some ⟨g, 0, none⟩)] w fun e w' => e = .returned (.int .i64 st) ∧ w = w' := by
  obtain ⟨-, -, -, -, c4, -, f4, -⟩ := h.cells
  clear h
  go_enter Try.func13, Try.ntmps13
  go_wp2_with fail
  go_ret
  exact ⟨rfl, rfl⟩
theorem eStage_nil (w : World) : Calls Try.prog 13 #[.pointer none] w fun e w' => e = .returned (.int .i64 4) ∧ w = w' := by
  go_enter Try.func13, Try.ntmps13
  go_wp2_with fail
  go_ret
  exact ⟨rfl, rfl⟩
theorem eLevel_any (g : Nat) (a d s r st lv : Int) (w : World) (h : EB w g a d s r st lv) :
    Calls Try.prog 14 #[.pointer (some ⟨g, 0, none⟩)] w fun e w' => e = .returned (.int .i64 lv) ∧ w = w' := by
  obtain ⟨-, -, -, -, -, c5, f4, -⟩ := h.cells
  clear h
  go_enter Try.func14, Try.ntmps14
  go_wp2_with fail
  go_ret
  exact ⟨rfl, rfl⟩
theorem eLevel_nil (w : World) : Calls Try.prog 14 #[.pointer none] w fun e w' => e = .returned (.int .i64 0) ∧ w = w' := by
  go_enter Try.func14, Try.ntmps14
  go_wp2_with fail
  go_ret
  exact ⟨rfl, rfl⟩
/-- What New gives. -/
def EnvNew (w : World) (B : Bool) (a d s r : Int) (e : Ending) (w' : World) : Prop :=
  (B = false ∧ e = .returned (.tuple #[.pointer none, .int .i64 1]) ∧ Old w w') ∨
  (B = true ∧ ∃ g, e = .returned (.tuple #[.pointer (some ⟨g, 0, none⟩), .int .i64 0]) ∧ w.heap.size ≤ g ∧ EB w' g a d s r 0 0 ∧ Old w w')
theorem eNew_any (a d s r : Int) (w : World) : Calls Try.prog 6 #[shV a d s r] w (EnvNew w (shB a d s r) a d s r) := by
  have HR := Lib.hid (fun w => eRight_any a d s r w)
  have HO := Lib.hid (Old.alloc w (.cells #[.int .i64 a, .int .i64 d, .int .i64 s, .int .i64 r] 23))
  have hb : Hid ((w.alloc (.cells #[.int .i64 a, .int .i64 d, .int .i64 s, .int .i64 r] 23)).heap[w.heap.size]? = some (.cells #[.int .i64 a, .int .i64 d, .int .i64 s, .int .i64 r] 23 (0, 0))) := Lib.hid (heap_alloc_new _ _)
  generalize shB a d s r = B at *
  unfold shV at *
  go_enter Try.func6, Try.ntmps6
  go_wp2_with fail
  refine (HR.out _).mono ?_
  rintro e w1 ⟨rfl, ho⟩
  have HO1 := Lib.hid (HO.out.trans ho)
  have hb1 := (ho.block _ (lt_of_block hb.out)).trans hb.out
  obtain ⟨c0, c1, c2, c3⟩ : w1.cell? ⟨w.heap.size, 0, none⟩ = some (.int .i64 a) ∧ w1.cell? ⟨w.heap.size, 1, none⟩ = some (.int .i64 d) ∧ w1.cell? ⟨w.heap.size, 2, none⟩ = some (.int .i64 s) ∧ w1.cell? ⟨w.heap.size, 3, none⟩ = some (.int .i64 r) := by
    simp [World.cell?, hb1]
  clear ho hb hb1 HO HR
  cases B
  · go_wp2_with fail
    go_ret2
    exact .inl ⟨rfl, rfl, HO1.out⟩
  · have HN : Hid (EB (w1.alloc (.cells #[.int .i64 a, .int .i64 d, .int .i64 s, .int .i64 r, .int .i64 0, .int .i64 0] 41)) w1.heap.size a d s r 0 0 ∧ Old w (w1.alloc (.cells #[.int .i64 a, .int .i64 d, .int .i64 s, .int .i64 r, .int .i64 0, .int .i64 0] 41))) := Lib.hid ⟨heap_alloc_new _ _, HO1.out.alloc' _⟩
    go_wp2_with fail
    go_ret2
    exact .inr ⟨rfl, _, rfl, HO1.out.size, HN.out⟩
end Go.Proofs.Ytgdlinfgcfjciaa

