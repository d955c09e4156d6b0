/- LiftFlips: of any numbers (the first 20 of them, held within 2^40) lift.Flip tells them the other way round (5.2), and the example of chapter 5 holds. No condition. -/
import Derived.Test.YteimpjagecmbdaaRows
import Derived.Test.YteimpjagecmbdaaCut
import Derived.Test.YteimpjagecmbdaaSlicesL
namespace Go.Proofs.Yteimpjagecmbdaa.liftFlips
open Go.ChangeShapes Go.WideShapes Go.ChangeAt Go.RowKit
set_option linter.unusedVariables false

theorem Flip_any (p : Option Addr) (n cap : Nat) (xs : List Int) (w : World) (hs : SlI w .i64 (.slice p n cap) xs) (hn : n ≤ 1099511627776) :
    Calls Try.prog 5 #[.slice p n cap] w fun e w' => ∃ v, e = .returned v ∧ OwnL .i64 2 (fun q => q < w.heap.size) w' v xs.reverse ∧ Old w w' := by
  have hC := Lib.hid (Clone_any p n cap xs w hs hn)
  clear hs
  go_enter Try.func5, Try.ntmps5
  go_wp2_with fail
  refine hC.out.mono ?_
  rintro e w1 ⟨v, rfl, hv, ho⟩
  have hR := Lib.hid (Reverse_any _ v xs w1 hv (fun q hq => Nat.lt_of_lt_of_le hq ho.size))
  have HO := Lib.hid ho
  clear hv ho
  go_wp2_with fail
  refine hR.out.mono ?_
  rintro e w2 ⟨rfl, h2, hk⟩
  have H2 := Lib.hid h2
  have HO2 := Lib.hid (HO.out.after hk (fun _ h => h))
  clear h2 hk
  go_wp2
  go_ret
  exact ⟨_, rfl, H2.out, HO2.out⟩

set_option maxHeartbeats 1000000 in
theorem walk (p : Option Addr) (n cap : Nat) (xs : List Int) (w : World) (hs : SlI w .i64 (.slice p n cap) xs) (hnc : n ≤ cap) (hcm : cap ≤ maxLen) :
    Calls Try.prog 3 #[.slice p n cap] w fun e w' => e = .returned (.bool true) ∧ Old w w' := by
  unfold maxLen at hcm
  have hC := Lib.hid (cut_any p n cap xs w hs (by omega))
  clear hs
  go_enter Try.func3, Try.ntmps3
  go_wp2_with fail
  refine hC.out.mono ?_
  rintro e w1 ⟨v, rfl, hv, ho⟩
  have hlen := cutL_len xs
  generalize cutL xs = ys at *
  have hsl := hv.sl
  clear hC
  obtain ⟨q, m, c, rfl, hm, _⟩ := hsl.shape
  have hF := Lib.hid (Flip_any q m c ys w1 hsl (by omega))
  have HSL := Lib.hid hsl
  have HM := Lib.hid hm
  have HO := Lib.hid ho
  have hm20 : m ≤ 20 := by omega
  clear hv ho hsl hm hlen
  go_wp2_with fail
  refine hF.out.mono ?_
  rintro e w2 ⟨v2, rfl, hv2, ho2⟩
  have hsl2 := hv2.sl
  obtain ⟨q2, m2, c2, rfl, hm2, _⟩ := hsl2.shape
  obtain rfl : m2 = m := by rw [hm2, List.length_reverse, HM.out]
  have HS1 := Lib.hid (HSL.out.old ho2)
  have HS2 := Lib.hid hsl2
  have HO2 := Lib.hid (HO.out.trans ho2)
  clear hF hv2 ho2 hsl2 hm2 HSL HO
  have hA := Lib.hid (awake_any w2)
  go_wp2
  go_loopw [4] (fun i wr => ∃ k : Nat, k ≤ m2 ∧ i = .int .i64 k ∧ ∃ d, wr = w2.drewN d) (fun i _ => m2 - (intOf i).toNat)
  case atStart => exact ⟨0, by omega, rfl, 0, rfl⟩
  case round =>
    obtain ⟨k, hk, rfl, d, rfl⟩ := hrel
    by_cases h : k < m2
    · obtain ⟨b1, o1, rfl, _, _, _, hc1⟩ := HS1.out.cellAt.2 (by omega)
      obtain ⟨b2, o2, rfl, _, _, _, hc2⟩ := HS2.out.cellAt.2 (by omega)
      obtain ⟨j, hj⟩ : ∃ j : Nat, (j : Int) = (m2 : Int) - 1 - k := ⟨m2 - 1 - k, by omega⟩
      have hjm : j < m2 := by omega
      have k2 := hc2 k h
      have k1 := hc1 j hjm
      have e1 : ys.reverse.getD k 0 = ys.getD j 0 := by
        have hl := HM.out
        rw [List.getD_eq_getElem?_getD, List.getElem?_reverse (by omega), List.getD_eq_getElem?_getD, show ys.length - 1 - k = j by omega]
      rw [e1] at k2
      generalize ys.getD j 0 = x at *
      have s1 : wrap64 ((m2 : Int) - 1) = (m2 : Int) - 1 := IntWalk.wrap64_in _ (by omega)
      have s2 : wrap64 ((m2 : Int) - 1 - k) = j := by rw [← hj]; exact IntWalk.wrap64_in _ (by omega)
      have t1 : IntKind.i64.wrap ((m2 : Int) - 1) = (m2 : Int) - 1 := IntWalk.i64_in _ (by omega)
      have t2 : IntKind.i64.wrap ((m2 : Int) - 1 - k) = j := by rw [← hj]; exact IntWalk.i64_in _ (by omega)
      clear hc1 hc2 HS1 HS2 e1 hj HM HO2 hA
      go_wp2
      go_quiet (fail)
      go_wp2
      go_roundw
      case rel => exact ⟨k + 1, by omega, by go_num, _, rfl⟩
      case measure => simp [intOf]; omega
    · have hA2 := Lib.hid (awake_any (w2.drewN d))
      have HO3 := Lib.hid (HO2.out.drewN d)
      clear HS1 HS2 HM HO2 hA
      go_wp2_with fail
      refine hA2.out.mono ?_
      rintro e w3 ⟨rfl, ho3⟩
      have HO4 := Lib.hid (HO3.out.trans ho3)
      clear ho3
      go_wp2
      go_ret
      exact ⟨rfl, HO4.out⟩

theorem own : ownKnob Try.prog.godebug = none := by kernel_rfl
theorem laidOut : laidOutB Try.prog = true := by kernel_rfl

set_option maxRecDepth 100000 in
theorem lifted (os : Os) (started : os.Started) (H : Type) (enc : TypeId × Value → H) :
    ReturnsInHanded {} Try.checked os 3 .any (Rows.liftFlipsSpec.pre6 enc Try.prog Try.f3 Rows.liftFlipsRow.domain false) (Rows.liftFlipsSpec.post enc Try.prog Try.f3 false true false false) := by
  refine returnsInHanded_of_change (C := Try.checked) own started (by kernel_rfl) Try.func3
    (ChangeSpec.witness6 (enc := enc) (C := Try.checked) false ⟨#[], #[.slice none 0 0], []⟩ 8 (by kernel_rfl) (by kernel_rfl) (by kernel_rfl) (by kernel_rfl)) ?_
  intro W base args ds gs before hval0 hW hcnd _
  have hval : ∀ (j : Nat) t v, Try.f3.params[j]? = some t → args[j]? = some v → Value.okWide Try.prog W .any base t v := hval0
  have hW' := hW
  have hlt : ∀ p ∈ before, p.block < W.heap.size := fun p hp => hW'.lt p hp
  obtain ⟨p, q, hA0, hV, rfl, hfz, hnd⟩ := hW
  have hA : DataW.TrodAll enc Try.prog W 0 (fun _ => true) true Try.f3.params.toList args.toList ds p := hA0
  rw [Try.params3] at hA hval
  obtain ⟨v0, vs0, d0, ds0, p0, q0, hargs, rfl, rfl, h0, r0⟩ := trodAll_cons hA
  obtain ⟨rfl, rfl, rfl⟩ := trodAll_nil r0
  obtain rfl : args = #[v0] := by cases args; simp_all
  obtain ⟨rfl, rfl⟩ := trodVars_none hV
  obtain ⟨s0, n0, c0, xs0, rfl, hs0, hn0, hc0, hw0⟩ := open_slI Try.underlying22 Try.underlying2 (by kernel_rfl) (hval 0 22 v0 rfl rfl) h0 (fun x hx => hlt x (by simp [hx]))
  refine (walk s0 n0 c0 xs0 W hs0 hn0 hc0).mono fun e W' ⟨he, hg⟩ => ?_
  subst he
  exact ⟨_, rfl, law_done laidOut Try.underlying4 rfl (by kernel_rfl) rfl hW' rfl hg⟩

theorem over : Rows.liftFlipsRow.holds Try.pinned (OpenSpec.ofChange Rows.liftFlipsSpec) :=
  OpenClaim.holds_of_wide 3 Try.f3 rfl rfl rfl rfl rfl rfl rfl ⟨rfl, rfl, rfl, rfl, rfl⟩ rfl rfl rfl rfl rfl (by kernel_rfl) Try.func3 (by kernel_rfl)
    (of_decide_eq_true (by kernel_rfl)) (by unfold Func.isWrapper; first | (rw [if_pos (by decide +kernel)]; kernel_rfl) | (rw [if_neg (by decide +kernel)]; exact ⟨rfl, rfl⟩))
    (fun os started H enc _ => lifted os started H enc)

theorem proved : Rows.LiftFlipsSaid :=
  over
end Go.Proofs.Yteimpjagecmbdaa.liftFlips
