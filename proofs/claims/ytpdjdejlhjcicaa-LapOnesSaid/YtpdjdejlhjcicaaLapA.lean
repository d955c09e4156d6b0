/- Package lap, first part: Count and Need. -/
import Derived.Test.YtpdjdejlhjcicaaSmall
namespace Go.Proofs.Ytpdjdejlhjcicaa
set_option linter.unusedVariables false
open Go.RowKit

theorem ret_two {k l : IntKind} {a b c d : Int} (h : a = c) (h2 : b = d) : Ending.returned (.tuple #[.int k a, .int l b]) = .returned (.tuple #[.int k c, .int l d]) := by rw [h, h2]
def countI (n : Int) : Int := if n < 1 then 0 else (n - 1) / 16 + 1
theorem countI_nat (n : Nat) : countI n = ((n + 15) / 16 : Nat) := by unfold countI; split <;> omega
theorem Count_any (n : Int) (w : World) (h1 : -9223372036854775808 ≤ n) (h2 : n ≤ 9223372036854775807) :
    Calls Try.prog 10 #[.int .i64 n] w fun e w' => e = .returned (.int .i64 (countI n)) ∧ w = w' := by
  by_cases h : n < 1
  · have e : countI n = 0 := by unfold countI; rw [if_pos h]
    rw [e]
    clear e
    go_enter Try.func10, Try.ntmps10
    go_wp2
    go_ret
    exact ⟨rfl, rfl⟩
  · have e : countI n = (n - 1) / 16 + 1 := by unfold countI; rw [if_neg h]
    rw [e]
    have h' : 1 ≤ n := by omega
    have q1 : wrap64 (n - 1) = n - 1 := IntWalk.wrap64_in _ (by omega)
    have q2 : wrap64 ((n - 1).tdiv 16) = (n - 1) / 16 := by rw [tdiv_pos _ _ (by omega)]; exact IntWalk.wrap64_in _ (by omega)
    have q3 : wrap64 ((n - 1) / 16 + 1) = (n - 1) / 16 + 1 := IntWalk.wrap64_in _ (by omega)
    clear e h
    go_enter Try.func10, Try.ntmps10
    go_wp2
    go_ret
    exact ⟨rfl, rfl⟩
def noNeed (a n : Int) : Prop := a < 0 ∨ n ≤ a / 16
instance (a n : Int) : Decidable (noNeed a n) := by unfold noNeed; infer_instance
def needA (a n : Int) : Int := if noNeed a n then 0 else if a % 16 < 8 then max (a / 16 - 1) 0 else a / 16
def needB (a n : Int) : Int := if noNeed a n then -1 else if a % 16 < 8 then a / 16 else min (a / 16 + 1) (n - 1)
theorem Need_any (a n : Int) (w : World) (h1 : -9223372036854775808 ≤ a) (h2 : a ≤ 9223372036854775807) (h3 : -9223372036854775808 ≤ n) (h4 : n ≤ 9223372036854775807) :
    Calls Try.prog 25 #[.int .i64 a, .int .i64 n] w fun e w' => e = .returned (.tuple #[.int .i64 (needA a n), .int .i64 (needB a n)]) ∧ w = w' := by
  by_cases hn : noNeed a n
  · have e1 : needA a n = 0 := by unfold needA; rw [if_pos hn]
    have e2 : needB a n = -1 := by unfold needB; rw [if_pos hn]
    rw [e1, e2]
    clear e1 e2
    unfold noNeed at hn
    by_cases ha : a < 0
    · clear hn
      go_enter Try.func25, Try.ntmps25
      go_wp2
      go_ret2
      exact ⟨rfl, rfl⟩
    · have ha' : 0 ≤ a := by omega
      have hn' : n ≤ a / 16 := by omega
      have q1 : wrap64 (a.tdiv 16) = a / 16 := by rw [tdiv_pos _ _ ha']; exact IntWalk.wrap64_in _ (by omega)
      clear hn ha
      go_enter Try.func25, Try.ntmps25
      go_wp2
      go_ret2
      exact ⟨rfl, rfl⟩
  · have ha : 0 ≤ a := by unfold noNeed at hn; omega
    have hn' : a / 16 < n := by unfold noNeed at hn; omega
    have q1 : wrap64 (a.tdiv 16) = a / 16 := by rw [tdiv_pos _ _ ha]; exact IntWalk.wrap64_in _ (by omega)
    have q2 : wrap64 (a.tmod 16) = a % 16 := by rw [tmod_pos _ _ ha]; exact IntWalk.wrap64_in _ (by omega)
    have q3 : wrap64 (a / 16 - 1) = a / 16 - 1 := IntWalk.wrap64_in _ (by omega)
    have q4 : wrap64 (a / 16 + 1) = a / 16 + 1 := IntWalk.wrap64_in _ (by omega)
    have q5 : wrap64 (n - 1) = n - 1 := IntWalk.wrap64_in _ (by omega)
    by_cases hm : a % 16 < 8
    · have e1 : needA a n = max (a / 16 - 1) 0 := by unfold needA; rw [if_neg hn, if_pos hm]
      have e2 : needB a n = a / 16 := by unfold needB; rw [if_neg hn, if_pos hm]
      rw [e1, e2]
      clear e1 e2 hn q4 q5
      generalize hx : a / 16 = x at *
      go_enter Try.func25, Try.ntmps25
      go_wp2
      all_goals (go_ret2; exact ⟨ret_two (by omega) (by omega), rfl⟩)
    · have e1 : needA a n = a / 16 := by unfold needA; rw [if_neg hn, if_neg hm]
      have e2 : needB a n = min (a / 16 + 1) (n - 1) := by unfold needB; rw [if_neg hn, if_neg hm]
      rw [e1, e2]
      clear e1 e2 hn q3
      generalize hx : a / 16 = x at *
      go_enter Try.func25, Try.ntmps25
      go_wp2
      all_goals (go_ret2; exact ⟨ret_two (by omega) (by omega), rfl⟩)
end Go.Proofs.Ytpdjdejlhjcicaa
