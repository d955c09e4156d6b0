/- Numbers held within bounds: contracts of num.Clamp, num.Sat, num.Abs and the law's own clamp. -/
import Derived.Test.YtkodampkhlholaaChecked
import Derived.Test.YtkodampkhlholaaBase
import Derived.WalkLawsBesides
import Derived.Deep.QuietTactic
import Derived.BigQuiet
import Derived.RegionTactic
namespace Go.Proofs.Ytkodampkhlholaa
set_option linter.unusedVariables false
open Go.RowKit

theorem ret_int {k : IntKind} {a b : Int} (h : a = b) : Ending.returned (.int k a) = .returned (.int k b) := by rw [h]

theorem i64_of {x : Int} (h : (Lit.int .i64 x).wf = true) : -9223372036854775808 ≤ x ∧ x ≤ 9223372036854775807 := by
  simp [Lit.wf, IntKind.min, IntKind.max, IntKind.signed, IntKind.bits] at h
  omega

def clampI (v lo hi : Int) : Int := if hi < lo ∨ v < lo then lo else if hi < v then hi else v
theorem clampI_lo (v lo hi : Int) (h : hi < lo ∨ v < lo) : clampI v lo hi = lo := by unfold clampI; rw [if_pos h]
theorem clampI_hi (v lo hi : Int) (h : ¬ (hi < lo ∨ v < lo)) (h2 : hi < v) : clampI v lo hi = hi := by unfold clampI; rw [if_neg h, if_pos h2]
theorem clampI_in (v lo hi : Int) (h : ¬ (hi < lo ∨ v < lo)) (h2 : ¬ hi < v) : clampI v lo hi = v := by unfold clampI; rw [if_neg h, if_neg h2]
theorem clampI_eq (v lo hi : Int) : clampI v lo hi = max lo (min v hi) := by unfold clampI; split <;> (try split) <;> omega

theorem clamp_any (v lo hi : Int) (w : World) :
    Calls Try.prog 9 #[.int .i64 v, .int .i64 lo, .int .i64 hi] w fun e w' => e = .returned (.int .i64 (clampI v lo hi)) ∧ w = w' := by
  by_cases a : hi < lo
  · rw [clampI_lo v lo hi (by omega)]
    go_enter Try.func9, Try.ntmps9
    go_wp2
    go_ret
    exact ⟨rfl, rfl⟩
  · by_cases b : v < lo
    · rw [clampI_lo v lo hi (by omega)]
      have a' : lo ≤ hi := by omega
      go_enter Try.func9, Try.ntmps9
      go_wp2
      go_ret
      exact ⟨rfl, rfl⟩
    · by_cases c : hi < v
      · rw [clampI_hi v lo hi (by omega) c]
        have a' : lo ≤ hi := by omega
        have b' : lo ≤ v := by omega
        go_enter Try.func9, Try.ntmps9
        go_wp2
        go_ret
        exact ⟨rfl, rfl⟩
      · rw [clampI_in v lo hi (by omega) c]
        have a' : lo ≤ hi := by omega
        have b' : lo ≤ v := by omega
        go_enter Try.func9, Try.ntmps9
        go_wp2
        go_ret
        exact ⟨rfl, rfl⟩

theorem Clamp_any (v lo hi : Int) (w : World) :
    Calls Try.prog 8 #[.int .i64 v, .int .i64 lo, .int .i64 hi] w fun e w' => e = .returned (.int .i64 (clampI v lo hi)) ∧ w = w' := by
  rw [clampI_eq]
  go_enter Try.func8, Try.ntmps8
  go_wp2
  all_goals (go_ret; exact ⟨ret_int (by omega), rfl⟩)

def satI (v : Int) : Int := clampI v (-32768) 32767
theorem satI_bd (v : Int) : -32768 ≤ satI v ∧ satI v ≤ 32767 := by unfold satI clampI; split <;> (try split) <;> omega
theorem Sat_any (v : Int) (w : World) :
    Calls Try.prog 10 #[.int .i64 v] w fun e w' => e = .returned (.int .i64 (satI v)) ∧ w = w' := by
  have hc := Lib.hid (Clamp_any v (-32768) 32767 w)
  have hb := satI_bd v
  unfold satI at hb ⊢
  generalize clampI v (-32768) 32767 = x at *
  obtain ⟨h1, h2⟩ := hb
  go_enter Try.func10, Try.ntmps10
  go_wp2_with fail
  refine hc.out.mono ?_
  rintro e w' ⟨rfl, rfl⟩
  go_wp2
  go_ret
  exact ⟨rfl, rfl⟩

def absI (v : Int) : Int := if v = -9223372036854775808 then 9223372036854775807 else if v < 0 then -v else v
theorem absI_bd (v : Int) (h : -9223372036854775808 ≤ v) (h' : v ≤ 9223372036854775807) : 0 ≤ absI v ∧ absI v ≤ 9223372036854775807 := by unfold absI; split <;> (try split) <;> omega
theorem Abs_any (v : Int) (w : World) (h1 : -9223372036854775808 ≤ v) (h2 : v ≤ 9223372036854775807) :
    Calls Try.prog 11 #[.int .i64 v] w fun e w' => e = .returned (.int .i64 (absI v)) ∧ w = w' := by
  by_cases a : v = -9223372036854775808
  · subst a
    go_enter Try.func11, Try.ntmps11
    go_wp2
    go_ret
    exact ⟨rfl, rfl⟩
  · have h3 : -9223372036854775807 ≤ v := by omega
    have a' : (v == -9223372036854775808) = false := by simpa using a
    have hx : Hid (absI v = max v (-v)) := by unfold Hid absI; rw [if_neg a]; split <;> omega
    rw [hx.out]
    clear a
    go_enter Try.func11, Try.ntmps11
    go_wp2
    all_goals (go_ret; exact ⟨ret_int (by omega), rfl⟩)
end Go.Proofs.Ytkodampkhlholaa
