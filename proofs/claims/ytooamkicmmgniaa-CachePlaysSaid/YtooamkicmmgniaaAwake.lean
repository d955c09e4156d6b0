/- The chapter's example. -/
import Derived.Test.YtooamkicmmgniaaMade
namespace Go.Proofs.Ytooamkicmmgniaa
set_option linter.unusedVariables false
set_option maxRecDepth 100000
open Go.RowKit Go.ChangeShapes Go.WideShapes

def exT1 : Tkn := takeR (cc0 2 0) (dk0 300 fun _ => 0) 0
def exT2 : Tkn := takeR exT1.c exT1.d 1
def exT3 : Tkn := takeR exT2.c exT2.d 0
def exT4 : Tkn := takeR exT3.c exT3.d 2
theorem w64 (a : Int) (h : -1000 ≤ a ∧ a ≤ 1000) : wrap64 a = a := IntWalk.wrap64_in _ (by omega)
theorem ex4_n : exT4.c.n = 2 := by decide +kernel
theorem ex4_0 : pgV exT4.c.S 0 = 2 := by decide +kernel
theorem ex4_1 : pgV exT4.c.S 1 = 1 := by decide +kernel
theorem ex4_h : exT4.c.h = 1 := by decide +kernel
theorem ex4_m : exT4.c.m = 3 := by decide +kernel
theorem ex4_t : exT4.c.t = 3 := by decide +kernel
theorem ex4_l : exT4.c.l = 0 := by decide +kernel
theorem make_u8n (n : Nat) (hn : n ≤ 1099511627776) (w : World) : (Instr.makeSlice 22 (.int .i64 n) (.int .i64 n)).run Try.prog w = .ok (.slice (some ⟨w.heap.size, 0, none⟩) n n) (w.alloc (.cells (rowN n (bU fun _ => 0)) 5)) := by
  obtain ⟨i, hi, hz0, hz1, hz2⟩ := info_parts Try.info_u8c
  rw [run_make w _ _ i _ Try.underlying22 hi hz0 .i64 .i64 n n (by omega) (by omega) (by rw [hz2]; omega) (by omega), hz1, Int.toNat_natCast, Nat.mul_one, made_u8c]
set_option maxHeartbeats 2000000 in
theorem awake_any (w : World) : Calls Try.prog 7 #[] w fun e w' => e = .returned (.bool true) ∧ Old w w' := by
  have hM : (Instr.makeSlice 22 (.int .i64 300) (.int .i64 300)).run Try.prog w = .ok (.slice (some ⟨w.heap.size, 0, none⟩) 300 300) (w.alloc (.cells (rowN 300 (bU fun _ => 0)) 5)) := make_u8n 300 (by omega) w
  obtain ⟨W0, hW0⟩ : ∃ W0, W0 = w.alloc (.cells (rowN 300 (bU fun _ => 0)) 5) := ⟨_, rfl⟩
  rw [← hW0] at hM
  have HU : Hid (UAt W0 w.heap.size 300 (fun _ => 0)) := by rw [hW0]; exact uAt_new w 300 _ _
  have HO : Hid (Old w W0) := by rw [hW0]; exact Old.alloc _ _
  have HMd := Lib.hid (made_ok (some ⟨w.heap.size, 0, none⟩) 300 300 (fun _ => 0) 2 0 W0 ((HU.out.sl 0 300 (by omega)).ext fun j _ => rfl) (fun j _ => ⟨by show (0 : Int) ≤ 0; omega, by show (0 : Int) ≤ 255; omega⟩) (by omega) (by omega) (by omega) (by omega) (by omega))
  clear hW0
  go_enter Try.func7, Try.ntmps7
  go_wp2_with fail
  refine HMd.out.mono ?_
  rintro e w1 ⟨z0, dm, rfl, hcd, hz, ho⟩
  clear HMd hM
  have HC1 := Lib.hid (CD.Get hcd (k := 0) (by decide))
  have HK := Lib.hid (HO.out.trans ho)
  have HLo : Hid (∀ V, Kept (fun q => q < W0.heap.size) w1 V → Old w V) := Lib.hid fun V hV => HK.out.after hV fun q hq => Nat.lt_of_lt_of_le hq HO.out.size
  have HD1 := Lib.hid hcd
  clear hcd hz ho
  go_wp2_with fail
  refine HC1.out.mono ?_
  rintro e w2 ⟨hr, hcd, hk⟩
  have HK2 := Lib.hid (HD1.out.keep hk)
  have HD2 : Hid (CD w2 W0.heap.size z0 dm 5 exT1.c exT1.d) := Lib.hid hcd
  have HC2 := Lib.hid (CD.Get HD2.out (k := 1) (by decide))
  change GetRes _ _ exT1.r _ at hr
  obtain ⟨G1, hG1⟩ : ∃ G, exT1.r = some G := ⟨_, rfl⟩
  rw [hG1] at hr
  obtain ⟨q1, cp1, rfl, _, _, _⟩ := hr
  clear hcd hk HC1 hG1
  go_wp2_with fail
  refine HC2.out.mono ?_
  rintro e w3 ⟨hr, hcd, hk⟩
  have HK3 := Lib.hid (HK2.out.trans (HD2.out.keep hk))
  have HD3 : Hid (CD w3 W0.heap.size z0 dm 5 exT2.c exT2.d) := Lib.hid hcd
  have HC3 := Lib.hid (CD.Get HD3.out (k := 0) (by decide))
  change GetRes _ _ exT2.r _ at hr
  obtain ⟨G2, hG2⟩ : ∃ G, exT2.r = some G := ⟨_, rfl⟩
  rw [hG2] at hr
  obtain ⟨q2, cp2, rfl, _, _, _⟩ := hr
  clear hcd hk HC2 hG2
  go_wp2_with fail
  refine HC3.out.mono ?_
  rintro e w4 ⟨hr, hcd, hk⟩
  have HK4 := Lib.hid (HK3.out.trans (HD3.out.keep hk))
  have HD4 : Hid (CD w4 W0.heap.size z0 dm 5 exT3.c exT3.d) := Lib.hid hcd
  have HC4 := Lib.hid (CD.Get HD4.out (k := 2) (by decide))
  change GetRes _ _ exT3.r _ at hr
  obtain ⟨G3, hG3⟩ : ∃ G, exT3.r = some G := ⟨_, rfl⟩
  rw [hG3] at hr
  obtain ⟨q3, cp3, rfl, _, _, _⟩ := hr
  clear hcd hk HC3 hG3
  go_wp2_with fail
  refine HC4.out.mono ?_
  rintro e w5 ⟨hr, hcd, hk⟩
  have HK5 := Lib.hid (HK4.out.trans (HD4.out.keep hk))
  have HD5 : Hid (CD w5 W0.heap.size z0 dm 5 exT4.c exT4.d) := Lib.hid hcd
  have HC5 := Lib.hid (CD.Pages HD5.out)
  rw [ex4_n] at HC5
  change GetRes _ _ exT4.r _ at hr
  obtain ⟨G4, hG4⟩ : ∃ G, exT4.r = some G := ⟨_, rfl⟩
  rw [hG4] at hr
  obtain ⟨q4, cp4, rfl, _, _, _⟩ := hr
  clear hcd hk HC4 hG4
  go_wp2_with fail
  refine HC5.out.mono ?_
  rintro e w6 ⟨rfl, hp, ho⟩
  have a0 : w6.cell? ⟨w5.heap.size, 0, none⟩ = some (.int .i64 2) := by have := hp.cell 0 (by omega); rw [ex4_0] at this; exact this
  have a1 : w6.cell? ⟨w5.heap.size, 1, none⟩ = some (.int .i64 1) := by have := hp.cell 1 (by omega); rw [ex4_1] at this; exact this
  have HC6 := Lib.hid (CD.Told (HD5.out.old ho))
  have HK6 := Lib.hid (HK5.out.trans (ho.kept fun q hq => Nat.lt_of_lt_of_le hq (Nat.le_trans HD1.out.size.1 HK5.out.size)))
  unfold statV at HC6
  rw [ex4_h, ex4_m, ex4_t, ex4_l] at HC6
  have hE : ∀ w, (binOp .eql 37 (.agg #[.int .i64 1, .int .i64 3, .int .i64 3, .int .i64 0]) (.agg #[.int .i64 1, .int .i64 3, .int .i64 3, .int .i64 0])).run Try.prog w = .ok (.bool true) w := fun w => by kernel_rfl
  clear hp ho HC5
  go_wp2_with fail
  refine HC6.out.mono ?_
  rintro e w7 ⟨rfl, ho7⟩
  have HF := Lib.hid (HLo.out w7 (HK6.out.trans (ho7.kept fun q hq => Nat.lt_of_lt_of_le hq (Nat.le_trans HD1.out.size.1 HK6.out.size))))
  clear ho7 HC6
  go_wp2_with fail
  go_ret
  exact ⟨rfl, HF.out⟩
end Go.Proofs.Ytooamkicmmgniaa
