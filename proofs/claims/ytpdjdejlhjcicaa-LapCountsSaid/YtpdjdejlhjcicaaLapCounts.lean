/- LapCounts: of any number of samples lap.Count tells how many blocks they have (8.1), and the example of chapter 8 holds. No condition. -/
import Derived.Test.YtpdjdejlhjcicaaRows
import Derived.Test.YtpdjdejlhjcicaaAwake
namespace Go.Proofs.Ytpdjdejlhjcicaa.lapCounts
open Go.ChangeShapes Go.WideShapes Go.ChangeAt Go.RowKit
set_option linter.unusedVariables false

theorem walk (n : Int) (w : World) (h1 : -9223372036854775808 ≤ n) (h2 : n ≤ 9223372036854775807) :
    Calls Try.prog 4 #[.int .i64 n] w fun e w' => e = .returned (.bool true) ∧ Old w w' := by
  have HC := Lib.hid (Count_any n w h1 h2)
  have HA := Lib.hid (awake_any w)
  by_cases h : n < 1
  · rw [show countI n = 0 by unfold countI; rw [if_pos h]] at HC
    go_enter Try.func4, Try.ntmps4
    go_wp2_with fail
    refine HC.out.mono ?_
    rintro e w1 ⟨rfl, rfl⟩
    go_wp2_with fail
    refine HA.out.mono ?_
    rintro e w1 ⟨rfl, rfl⟩
    go_wp2
    go_ret
    exact ⟨rfl, Old.refl _⟩
  · rw [show countI n = (n - 1) / 16 + 1 by unfold countI; rw [if_neg h]] at HC
    have h' : 1 ≤ n := by omega
    have q1 : wrap64 (n - 1) = n - 1 := IntWalk.wrap64_in _ (by omega)
    have q2 : wrap64 ((n - 1).tdiv 16) = (n - 1) / 16 := by rw [tdiv_pos _ _ (by omega)]; exact IntWalk.wrap64_in _ (by omega)
    have q3 : wrap64 ((n - 1) / 16 + 1 - 1) = (n - 1) / 16 := by rw [IntWalk.wrap64_in _ (by omega)]; omega
    have q4 : 1 ≤ (n - 1) / 16 + 1 := by omega
    clear h
    clear q3
    obtain ⟨y, hy⟩ : ∃ y, y = (n - 1) / 16 + 1 := ⟨_, rfl⟩
    rw [← hy] at HC q4
    have q3 : wrap64 (y - 1) = (n - 1) / 16 := by rw [IntWalk.wrap64_in _ (by omega)]; omega
    clear hy
    go_enter Try.func4, Try.ntmps4
    go_wp2_with fail
    refine HC.out.mono ?_
    rintro e w1 ⟨rfl, rfl⟩
    go_wp2_with fail
    refine HA.out.mono ?_
    rintro e w1 ⟨rfl, rfl⟩
    go_wp2
    go_ret
    exact ⟨rfl, Old.refl _⟩

theorem own : ownKnob Try.prog.godebug = none := by kernel_rfl
theorem laidOut : laidOutB Try.prog = true := by kernel_rfl

set_option maxRecDepth 100000 in
theorem lifted (os : Os) (started : os.Started) (H : Type) (enc : TypeId × Value → H) :
    ReturnsInHanded {} Try.checked os 4 .any (Rows.lapCountsSpec.pre6 enc Try.prog Try.f4 Rows.lapCountsRow.domain false) (Rows.lapCountsSpec.post enc Try.prog Try.f4 false true false false) := by
  refine returnsInHanded_of_change (C := Try.checked) own started (by kernel_rfl) Try.func4
    (ChangeSpec.witness6 (enc := enc) (C := Try.checked) false ⟨#[], #[.int .i64 0], []⟩ 8 (by kernel_rfl) (by kernel_rfl) (by kernel_rfl) (by kernel_rfl)) ?_
  intro W base args ds gs before hval0 hW hcnd _
  have hval : ∀ (j : Nat) t v, Try.f4.params[j]? = some t → args[j]? = some v → Value.okWide Try.prog W .any base t v := hval0
  have hW' := hW
  have hlt : ∀ p ∈ before, p.block < W.heap.size := fun p hp => hW'.lt p hp
  obtain ⟨p, q, hA0, hV, rfl, hfz, hnd⟩ := hW
  have hA : DataW.TrodAll enc Try.prog W 0 (fun _ => true) true Try.f4.params.toList args.toList ds p := hA0
  rw [Try.params4] at hA hval
  obtain ⟨v0, vs0, d0, ds0, p0, q0, hargs, rfl, rfl, h0, r0⟩ := trodAll_cons hA
  obtain ⟨rfl, rfl, rfl⟩ := trodAll_nil r0
  obtain rfl : args = #[v0] := by cases args; simp_all
  obtain ⟨rfl, rfl⟩ := trodVars_none hV
  obtain ⟨a0, rfl, _, _, w0⟩ := open_int Try.underlying3 (hval 0 3 v0 rfl rfl) h0
  refine (walk a0 W (i64_of w0).1 (i64_of w0).2).mono fun e W' ⟨he, hg⟩ => ?_
  subst he
  exact ⟨_, rfl, law_done laidOut Try.underlying4 rfl (by kernel_rfl) rfl hW' rfl hg⟩

theorem over : Rows.lapCountsRow.holds Try.pinned (OpenSpec.ofChange Rows.lapCountsSpec) :=
  OpenClaim.holds_of_wide 4 Try.f4 rfl rfl rfl rfl rfl rfl rfl ⟨rfl, rfl, rfl, rfl, rfl⟩ rfl rfl rfl rfl rfl (by kernel_rfl) Try.func4 (by kernel_rfl)
    (of_decide_eq_true (by kernel_rfl)) (by unfold Func.isWrapper; first | (rw [if_pos (by decide +kernel)]; kernel_rfl) | (rw [if_neg (by decide +kernel)]; exact ⟨rfl, rfl⟩))
    (fun os started H enc _ => lifted os started H enc)

theorem proved : Rows.LapCountsSaid :=
  over
end Go.Proofs.Ytpdjdejlhjcicaa.lapCounts
