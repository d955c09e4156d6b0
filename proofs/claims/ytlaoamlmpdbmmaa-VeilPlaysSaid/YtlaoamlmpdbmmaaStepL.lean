/- Package table's contract of a scale's step. -/
import Derived.Test.YtlaoamlmpdbmmaaSmall
namespace Go.Proofs.Ytlaoamlmpdbmmaa
set_option linter.unusedVariables false
set_option maxRecDepth 100000
open Go.RowKit

theorem Step_no (s : Int) (w : World) (h : s < 0 ∨ 23 < s) :
    Calls Try.prog 33 #[.int .i64 s] w fun e w' => e = .returned (.int .i64 0) ∧ w = w' := by
  rcases h with h | h
  · go_enter Try.func33, Try.ntmps33
    go_wp2
    go_ret
    exact ⟨rfl, rfl⟩
  · have h0 : 0 ≤ s := by omega
    go_enter Try.func33, Try.ntmps33
    go_wp2
    go_ret
    exact ⟨rfl, rfl⟩
theorem Step_yes (s : Nat) (w : World) (h : s ≤ 23) :
    Calls Try.prog 33 #[.int .i64 s] w fun e w' => e = .returned (.int .i64 (pw s)) ∧ w = w' := by
  have h0 : 0 ≤ (s : Int) := by omega
  have h1 : (s : Int) ≤ 23 := by omega
  have he := pw_wrap s (by omega)
  go_enter Try.func33, Try.ntmps33
  go_wp2
  go_ret
  exact ⟨ret_int (by simpa using he), rfl⟩
end Go.Proofs.Ytlaoamlmpdbmmaa
