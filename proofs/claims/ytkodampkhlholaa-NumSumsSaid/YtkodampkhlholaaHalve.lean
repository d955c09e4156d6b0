/- Powers of two and division by them. -/
import Derived.Test.YtkodampkhlholaaNum
namespace Go.Proofs.Ytkodampkhlholaa
set_option linter.unusedVariables false
open Go.RowKit

def pw (n : Nat) : Int := 2 ^ n
theorem pw_zero : pw 0 = 1 := rfl
theorem pw_succ (n : Nat) : pw (n + 1) = 2 * pw n := by unfold pw; rw [Int.pow_succ]; omega
theorem pw_pos (n : Nat) : 1 ≤ pw n := by
  induction n with
  | zero => simp [pw]
  | succ n ih => rw [pw_succ]; omega
theorem pw_mono (m n : Nat) (h : m ≤ n) : pw m ≤ pw n := by
  induction h with
  | refl => exact Int.le_refl _
  | step _ ih => rw [pw_succ]; have := pw_pos m; omega
theorem pw_62 : pw 62 = 4611686018427387904 := rfl
theorem pw_le (n : Nat) (h : n ≤ 62) : pw n ≤ 4611686018427387904 := by have := pw_mono n 62 h; rw [pw_62] at this; exact this

theorem mask_and (v : Int) (n : Nat) (hn : n ≤ 62) : bits .and .i64 v (pw n - 1) = v % pw n := by
  have hp := pw_pos n
  have hq := pw_le n hn
  have e2 : (BitVec.ofInt 64 (pw n - 1)).toNat = 2 ^ n - 1 := by
    rw [BitVec.toNat_ofInt]
    have e : pw n = ((2 ^ n : Nat) : Int) := by unfold pw; simp
    have e' : (((2 : Nat) ^ 64 : Nat) : Int) = 18446744073709551616 := rfl
    rw [e', Int.emod_eq_of_lt (by omega) (by omega), e]
    omega
  have e1 : (((BitVec.ofInt 64 v).toNat : Nat) : Int) = v % 18446744073709551616 := by
    rw [BitVec.toNat_ofInt]
    have e' : (((2 : Nat) ^ 64 : Nat) : Int) = 18446744073709551616 := rfl
    rw [e', Int.toNat_of_nonneg (Int.emod_nonneg _ (by decide))]
  show IntKind.i64.wrap ((BitVec.ofInt 64 v &&& BitVec.ofInt 64 (pw n - 1)).toNat : Int) = _
  rw [BitVec.toNat_and, e2, Nat.and_two_pow_sub_one_eq_mod]
  have e3 : ((((BitVec.ofInt 64 v).toNat % 2 ^ n : Nat)) : Int) = v % pw n := by
    rw [Int.natCast_emod, e1]
    have e : ((2 ^ n : Nat) : Int) = pw n := by unfold pw; simp
    rw [e]
    refine Int.emod_emod_of_dvd v ⟨2 ^ (64 - n), ?_⟩
    unfold pw
    rw [← Int.pow_add, show n + (64 - n) = 64 by omega]
    rfl
  rw [e3]
  have h1 := Int.emod_nonneg v (show pw n ≠ 0 by omega)
  have h2 := Int.emod_lt_of_pos v (show 0 < pw n by omega)
  exact IntWalk.i64_in _ (by omega)

theorem halve_any (v k : Int) (w : World) (h0 : 0 ≤ k) (h1 : k ≤ 62) :
    Calls Try.prog 26 #[.int .i64 v, .int .i64 k] w fun e w' => e = .returned (.tuple #[.int .i64 (v / pw k.toNat), .int .i64 (2 * (v % pw k.toNat))]) ∧ ∃ n, w' = w.drewN n := by
  go_enter Try.func26, Try.ntmps26
  go_wp2
  go_quiet (fail)
  go_wp2
  go_ret2
  refine ⟨?_, _, rfl⟩
  have hq := pw_le k.toNat (by omega)
  have hp := pw_pos k.toNat
  have e0 : wrap64 (wrap64 (2 ^ k.toNat) - 1) = pw k.toNat - 1 := by
    show wrap64 (wrap64 (pw k.toNat) - 1) = _
    rw [IntWalk.wrap64_in (pw k.toNat) (by omega), IntWalk.wrap64_in _ (by omega)]
  have h1 := Int.emod_nonneg v (show pw k.toNat ≠ 0 by omega)
  have h2 := Int.emod_lt_of_pos v (show 0 < pw k.toNat by omega)
  have e1 : wrap64 (2 * bits BinOp.and IntKind.i64 v (wrap64 (wrap64 (2 ^ k.toNat) - 1))) = 2 * (v % pw k.toNat) := by
    rw [e0, mask_and v k.toNat (by omega), IntWalk.wrap64_in _ (by omega)]
  show Ending.returned (Value.tuple #[.int .i64 (v / pw k.toNat), .int .i64 (wrap64 (2 * bits BinOp.and IntKind.i64 v (wrap64 (wrap64 (2 ^ k.toNat) - 1))))]) = _
  rw [e1]
end Go.Proofs.Ytkodampkhlholaa
