/- The chapter's example. -/
import Derived.Test.YtpdjdejlhjcicaaLapA
namespace Go.Proofs.Ytpdjdejlhjcicaa
set_option linter.unusedVariables false
open Go.RowKit

theorem awake_any (w : World) : Calls Try.prog 12 #[] w fun e w' => e = .returned (.bool true) ∧ w = w' := by
  have h1 := Lib.hid (Need_any 20 5 w (by omega) (by omega) (by omega) (by omega))
  have h2 := Lib.hid (Need_any 28 5 w (by omega) (by omega) (by omega) (by omega))
  rw [show needA 20 5 = 0 by decide, show needB 20 5 = 1 by decide] at h1
  rw [show needA 28 5 = 1 by decide, show needB 28 5 = 2 by decide] at h2
  go_enter Try.func12, Try.ntmps12
  go_wp2_with fail
  refine h1.out.mono ?_
  rintro e w1 ⟨rfl, rfl⟩
  go_wp2_with fail
  refine h2.out.mono ?_
  rintro e w1 ⟨rfl, rfl⟩
  go_wp2
  go_ret
  exact ⟨rfl, rfl⟩
end Go.Proofs.Ytpdjdejlhjcicaa
