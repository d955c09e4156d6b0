/- NumFloors: for every two numbers num.Floor tells the first divided by the second downwards and num.Mod what that leaves, both 0 of a divisor below 1 (3.2, 3.4), and the chapter's example holds. No condition. -/
import Derived.Test.YtkodampkhlholaaRows
import Derived.Test.YtkodampkhlholaaRound
namespace Go.Proofs.Ytkodampkhlholaa.numFloors
open Go.ChangeShapes Go.WideShapes Go.ChangeAt Go.RowKit
set_option linter.unusedVariables false

theorem Floor_no (a b : Int) (w : World) (h : b < 1) :
    Calls Try.prog 17 #[.int .i64 a, .int .i64 b] w fun e w' => e = .returned (.int .i64 0) ∧ w = w' := by
  go_enter Try.func17, Try.ntmps17
  go_wp2
  go_ret
  exact ⟨rfl, rfl⟩
theorem Mod_no (a b : Int) (w : World) (h : b < 1) :
    Calls Try.prog 18 #[.int .i64 a, .int .i64 b] w fun e w' => e = .returned (.int .i64 0) ∧ w = w' := by
  go_enter Try.func18, Try.ntmps18
  go_wp2
  go_ret
  exact ⟨rfl, rfl⟩

/-- Is a quotient cut upwards? -/
def downI (a b : Int) : Int := if a.tmod b < 0 then 1 else 0
theorem tmod_bd (a b : Int) (h : 1 ≤ b) : -b < a.tmod b ∧ a.tmod b < b := by
  have h1 := Int.tmod_lt_of_pos a (show 0 < b by omega)
  have h2 := Int.tmod_lt_of_pos (-a) (show 0 < b by omega)
  rw [Int.neg_tmod] at h2
  omega
/-- A quotient cut, and what it leaves, from the one downwards. -/
theorem cut_down (a b : Int) (h : 1 ≤ b) : (a.tmod b < 0 ∧ a / b = a.tdiv b - 1 ∧ a % b = a.tmod b + b) ∨ (0 ≤ a.tmod b ∧ a / b = a.tdiv b ∧ a % b = a.tmod b) := by
  have h0 := Int.tmod_add_mul_tdiv a b
  have h1 := tmod_bd a b h
  by_cases c : a.tmod b < 0
  · have := (Int.ediv_emod_unique (a := a) (b := b) (r := a.tmod b + b) (q := a.tdiv b - 1) (by omega)).2 ⟨by rw [Int.mul_sub]; omega, by omega, by omega⟩
    exact .inl ⟨c, this.1, this.2⟩
  · have := (Int.ediv_emod_unique (a := a) (b := b) (r := a.tmod b) (q := a.tdiv b) (by omega)).2 ⟨by omega, by omega, by omega⟩
    exact .inr ⟨by omega, this.1, this.2⟩

theorem Floor_yes (a b : Int) (w : World) (h : 1 ≤ b) (h' : b ≤ 9223372036854775807) (h1 : -9223372036854775808 ≤ a) (h2 : a ≤ 9223372036854775807) :
    Calls Try.prog 17 #[.int .i64 a, .int .i64 b] w fun e w' => e = .returned (.int .i64 (a / b)) ∧ w = w' := by
  obtain ⟨t1, t2⟩ := tmod_bd a b h
  obtain ⟨d1, d2⟩ := tdiv_bd a b h h1 h2
  obtain ⟨q1, q2, q3, q4, q5⟩ := quot_bd a b h h1 h2
  have hm := IntWalk.wrap64_in (a.tmod b) ⟨by omega, by omega⟩
  have hd := IntWalk.wrap64_in (a.tdiv b) ⟨by omega, by omega⟩
  rcases cut_down a b h with ⟨c1, c2, c3⟩ | ⟨c1, c2, c3⟩
  · rw [c2] at q3 q4 ⊢
    have c4 := IntWalk.wrap64_in (a.tdiv b - 1) ⟨by omega, by omega⟩
    clear c2 c3
    go_enter Try.func17, Try.ntmps17
    go_wp2
    go_ret
    exact ⟨rfl, rfl⟩
  · rw [c2]
    clear c2 c3
    go_enter Try.func17, Try.ntmps17
    go_wp2
    go_ret
    exact ⟨rfl, rfl⟩

theorem Mod_yes (a b : Int) (w : World) (h : 1 ≤ b) (h' : b ≤ 9223372036854775807) (h1 : -9223372036854775808 ≤ a) (h2 : a ≤ 9223372036854775807) :
    Calls Try.prog 18 #[.int .i64 a, .int .i64 b] w fun e w' => e = .returned (.int .i64 (a % b)) ∧ w = w' := by
  obtain ⟨t1, t2⟩ := tmod_bd a b h
  have hm := IntWalk.wrap64_in (a.tmod b) ⟨by omega, by omega⟩
  rcases cut_down a b h with ⟨c1, c2, c3⟩ | ⟨c1, c2, c3⟩
  · rw [c3]
    have c4 := IntWalk.wrap64_in (a.tmod b + b) ⟨by omega, by omega⟩
    clear c2 c3
    go_enter Try.func18, Try.ntmps18
    go_wp2
    go_ret
    exact ⟨rfl, rfl⟩
  · rw [c3]
    clear c2 c3
    go_enter Try.func18, Try.ntmps18
    go_wp2
    go_ret
    exact ⟨rfl, rfl⟩

set_option maxHeartbeats 1000000 in
theorem down_any (a b : Int) (w : World) (h : 1 ≤ b) (h' : b ≤ 9223372036854775807) :
    Calls Try.prog 19 #[.int .i64 a, .int .i64 b] w fun e w' => e = .returned (.int .i64 (downI a b)) ∧ w = w' := by
  unfold downI
  obtain ⟨h1, h2⟩ := tmod_bd a b h
  have hw := IntWalk.wrap64_in (a.tmod b) ⟨by omega, by omega⟩
  by_cases c : a.tmod b < 0
  · rw [if_pos c]
    go_enter Try.func19, Try.ntmps19
    go_wp2
    go_ret
    exact ⟨rfl, rfl⟩
  · rw [if_neg c]
    have c' : 0 ≤ a.tmod b := by omega
    go_enter Try.func19, Try.ntmps19
    go_wp2
    go_ret
    exact ⟨rfl, rfl⟩
theorem walk (a b : Int) (w : World) (h1 : -9223372036854775808 ≤ a) (h2 : a ≤ 9223372036854775807) (h3 : -9223372036854775808 ≤ b) (h4 : b ≤ 9223372036854775807) :
    Calls Try.prog 5 #[.int .i64 a, .int .i64 b] w fun e w' => e = .returned (.bool true) ∧ Old w w' := by
  by_cases hb : b < 1
  · have hF := Lib.hid (fun w => Floor_no a b w hb)
    have hM := Lib.hid (fun w => Mod_no a b w hb)
    go_enter Try.func5, Try.ntmps5
    go_wp2_with fail
    refine (hF.out _).mono ?_
    rintro e w' ⟨rfl, rfl⟩
    go_wp2_with fail
    refine (hM.out _).mono ?_
    rintro e w' ⟨rfl, rfl⟩
    go_wp2_with fail
    refine (awake_any _).mono ?_
    rintro e w' ⟨rfl, n, rfl⟩
    go_wp2
    go_ret
    exact ⟨rfl, (Old.refl w).drewN _⟩
  · have h5 : 1 ≤ b := by omega
    obtain ⟨t1, t2⟩ := tmod_bd a b h5
    obtain ⟨d1, d2⟩ := tdiv_bd a b h5 h1 h2
    obtain ⟨q1, q2, q3, q4, q5⟩ := quot_bd a b h5 h1 h2
    have hF := Floor_yes a b w h5 h4 h1 h2
    have hM := Mod_yes a b w h5 h4 h1 h2
    have hD := fun w => down_any a b w h5 h4
    have hm := IntWalk.wrap64_in (a.tmod b) ⟨by omega, by omega⟩
    have hd := IntWalk.wrap64_in (a.tdiv b) ⟨by omega, by omega⟩
    unfold downI at hD
    rcases cut_down a b h5 with ⟨c1, c2, c3⟩ | ⟨c1, c2, c3⟩
    · rw [if_pos c1] at hD
      rw [c2] at q3 q4 hF
      rw [c3] at hM q1 q2
      have c4 := IntWalk.wrap64_in (a.tdiv b - 1) ⟨by omega, by omega⟩
      have c5 := IntWalk.wrap64_in (a.tmod b + b) ⟨by omega, by omega⟩
      have c6 : (a.tdiv b - 1 == a.tdiv b - 1) = true := by simp
      have HF := Lib.hid hF
      have HM := Lib.hid hM
      have HD := Lib.hid hD
      clear hF hM hD c2 c3 q5 hb
      go_enter Try.func5, Try.ntmps5
      go_wp2_with fail
      refine HF.out.mono ?_
      rintro e w' ⟨rfl, rfl⟩
      go_wp2_with fail
      refine HM.out.mono ?_
      rintro e w' ⟨rfl, rfl⟩
      go_wp2
      go_quiet ((first | (go_at_call 19; exact Calls.quiet_of_same ((HD.out _).mono fun _ _ hh => ⟨hh.1, hh.2.symm⟩)) | (go_at_call 12; exact Calls.quiet_of (awake_any _))))
      go_wp2
      go_ret
      exact ⟨rfl, (Old.refl w).drewN _⟩
    · rw [if_neg (by omega)] at hD
      rw [c2] at q3 q4 hF
      rw [c3] at hM q1 q2
      have c4 := IntWalk.wrap64_in (a.tdiv b - 0) ⟨by omega, by omega⟩
      have HF := Lib.hid hF
      have HM := Lib.hid hM
      have HD := Lib.hid hD
      clear hF hM hD c2 c3 q5 hb
      go_enter Try.func5, Try.ntmps5
      go_wp2_with fail
      refine HF.out.mono ?_
      rintro e w' ⟨rfl, rfl⟩
      go_wp2_with fail
      refine HM.out.mono ?_
      rintro e w' ⟨rfl, rfl⟩
      go_wp2
      go_quiet ((first | (go_at_call 19; exact Calls.quiet_of_same ((HD.out _).mono fun _ _ hh => ⟨hh.1, hh.2.symm⟩)) | (go_at_call 12; exact Calls.quiet_of (awake_any _))))
      go_wp2
      go_ret
      exact ⟨rfl, (Old.refl w).drewN _⟩

theorem own : ownKnob Try.prog.godebug = none := by kernel_rfl
theorem laidOut : laidOutB Try.prog = true := by kernel_rfl

set_option maxRecDepth 100000 in
theorem lifted (os : Os) (started : os.Started) (H : Type) (enc : TypeId × Value → H) :
    ReturnsInHanded {} Try.checked os 5 .any (Rows.numFloorsSpec.pre6 enc Try.prog Try.f5 Rows.numFloorsRow.domain false) (Rows.numFloorsSpec.post enc Try.prog Try.f5 false true false false) := by
  refine returnsInHanded_of_change (C := Try.checked) own started (by kernel_rfl) Try.func5
    (ChangeSpec.witness6 (enc := enc) (C := Try.checked) false ⟨#[], #[.int .i64 0, .int .i64 0], []⟩ 8 (by kernel_rfl) (by kernel_rfl) (by kernel_rfl) (by kernel_rfl)) ?_
  intro W base args ds gs before hval0 hW hcnd _
  have hval : ∀ (j : Nat) t v, Try.f5.params[j]? = some t → args[j]? = some v → Value.okWide Try.prog W .any base t v := hval0
  have hW' := hW
  have hlt : ∀ p ∈ before, p.block < W.heap.size := fun p hp => hW'.lt p hp
  obtain ⟨p, q, hA0, hV, rfl, hfz, hnd⟩ := hW
  have hA : DataW.TrodAll enc Try.prog W 0 (fun _ => true) true Try.f5.params.toList args.toList ds p := hA0
  rw [Try.params5] at hA hval
  obtain ⟨v0, vs0, d0, ds0, p0, q0, hargs, rfl, rfl, h0, r0⟩ := trodAll_cons hA
  obtain ⟨v1, vs1, d1, ds1, p1, q1, rfl, rfl, rfl, h1, r1⟩ := trodAll_cons r0
  obtain ⟨rfl, rfl, rfl⟩ := trodAll_nil r1
  obtain rfl : args = #[v0, v1] := by cases args; simp_all
  obtain ⟨rfl, rfl⟩ := trodVars_none hV
  obtain ⟨a0, rfl, _, _, w0⟩ := open_int Try.underlying2 (hval 0 2 v0 rfl rfl) h0
  obtain ⟨a1, rfl, _, _, w1⟩ := open_int Try.underlying2 (hval 1 2 v1 rfl rfl) h1
  refine (walk a0 a1 W (i64_of w0).1 (i64_of w0).2 (i64_of w1).1 (i64_of w1).2).mono fun e W' ⟨he, hg⟩ => ?_
  subst he
  exact ⟨_, rfl, law_done laidOut Try.underlying4 rfl (by kernel_rfl) rfl hW' rfl hg⟩

theorem over : Rows.numFloorsRow.holds Try.pinned (OpenSpec.ofChange Rows.numFloorsSpec) :=
  OpenClaim.holds_of_wide 5 Try.f5 rfl rfl rfl rfl rfl rfl rfl ⟨rfl, rfl, rfl, rfl, rfl⟩ rfl rfl rfl rfl rfl (by kernel_rfl) Try.func5 (by kernel_rfl)
    (of_decide_eq_true (by kernel_rfl)) (by unfold Func.isWrapper; first | (rw [if_pos (by decide +kernel)]; kernel_rfl) | (rw [if_neg (by decide +kernel)]; exact ⟨rfl, rfl⟩))
    (fun os started H enc _ => lifted os started H enc)

theorem proved : Rows.NumFloorsSaid :=
  over
end Go.Proofs.Ytkodampkhlholaa.numFloors
