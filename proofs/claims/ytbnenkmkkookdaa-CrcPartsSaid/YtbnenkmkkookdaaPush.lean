/- A byte pushed through a register: contracts of crc.push and of calliopelaw02.push. -/
import Derived.Test.YtbnenkmkkookdaaBase
import Derived.Test.YtbnenkmkkookdaaCrc
import Derived.Test.YtbnenkmkkookdaaChecked
namespace Go.Proofs.Ytbnenkmkkookdaa
set_option linter.unusedVariables false
open Go.RowKit

theorem steps_succ (n x : Nat) : steps (n + 1) x = step (steps n x) := rfl
theorem step_int (x : Nat) (hx : x < 4294967296) : bits .xor .u32 ((x : Int) / 2) (3988292384 * ((x : Int) % 2)) = (step x : Nat) := by
  have h := u32_xor (x / 2) (poly * (x % 2)) (by omega) (polyMul x)
  unfold step
  rw [← h]
  unfold poly
  congr 1
theorem step_odd (x : Nat) (hx : x < 4294967296) (h : (x : Int) % 2 = 1) : bits .xor .u32 ((x : Int) / 2) 3988292384 = (step x : Nat) := by
  rw [← step_int x hx, h]; rfl
theorem step_even (x : Nat) (hx : x < 4294967296) (h : (x : Int) % 2 = 0) : (x : Int) / 2 = (step x : Nat) := by
  unfold step
  rw [show x % 2 = 0 by omega]
  simp

theorem push_any (x : Nat) (w : World) (hx : x < 4294967296) :
    Calls Try.prog 17 #[.int .u32 x] w fun e w' => e = .returned (.int .u32 (push x : Nat)) ∧ w = w' := by
  go_enter Try.func17, Try.ntmps17
  go_wp2
  go_loop [0, 4] (fun r i => ∃ k : Nat, k ≤ 8 ∧ i = .int .i64 k ∧ r = .int .u32 (steps k x : Nat)) (fun _ i => 8 - (intOf i).toNat)
  case atStart => exact ⟨0, by omega, rfl, rfl⟩
  case round =>
    obtain ⟨k, hk, rfl, rfl⟩ := hrel
    have hs := steps_lt hx k
    have hand := u32_and_one (steps k x) hs
    by_cases hlt : k < 8
    · have hst := Lib.hid (step_int (steps k x) hs)
      go_wp2
      go_round
      case rel => exact ⟨k + 1, by omega, by go_num, by rw [hst.out]; rfl⟩
      case measure => simp [intOf]; omega
    · go_wp2
      go_ret
      obtain rfl : k = 8 := by omega
      exact ⟨rfl, rfl⟩

theorem lpush_any (x : Nat) (w : World) (hx : x < 4294967296) :
    Calls Try.prog 11 #[.int .u32 x] w fun e w' => e = .returned (.int .u32 (push x : Nat)) ∧ w = w' := by
  go_enter Try.func11, Try.ntmps11
  go_wp2
  go_loop [0, 3] (fun r i => ∃ k : Nat, k ≤ 8 ∧ i = .int .i64 k ∧ r = .int .u32 (steps k x : Nat)) (fun _ i => 8 - (intOf i).toNat)
  case atStart => exact ⟨0, by omega, rfl, rfl⟩
  case round =>
    obtain ⟨k, hk, rfl, rfl⟩ := hrel
    have hs := steps_lt hx k
    by_cases hlt : k < 8
    · rcases (show (steps k x : Int) % 2 = 1 ∨ (steps k x : Int) % 2 = 0 by omega) with ho | ho
      · have hst := Lib.hid (step_odd (steps k x) hs ho)
        have ho' : ((steps k x : Int) % 2 == 1) = true := by rw [ho]; rfl
        clear ho
        go_wp2
        go_round
        case rel => exact ⟨k + 1, by omega, by go_num, by rw [hst.out]; rfl⟩
        case measure => simp [intOf]; omega
      · have hst := Lib.hid (step_even (steps k x) hs ho)
        have ho' : ((steps k x : Int) % 2 == 1) = false := by rw [ho]; rfl
        clear ho
        go_wp2
        go_round
        case rel => exact ⟨k + 1, by omega, by go_num, by rw [hst.out]; rfl⟩
        case measure => simp [intOf]; omega
    · go_wp2
      go_ret
      obtain rfl : k = 8 := by omega
      exact ⟨rfl, rfl⟩
end Go.Proofs.Ytbnenkmkkookdaa
