/- Powers of two, which numbers fit how many bits: contracts of calliopelaw01.power, .fits, bits.Fits, bits.isWidth. -/
import Derived.Test.YtbbjleblfhaclaaChecked
import Derived.Test.YtbbjleblfhaclaaBase
namespace Go.Proofs.Ytbbjleblfhaclaa
set_option linter.unusedVariables false
open Go.RowKit

def pw (n : Nat) : Int := 2 ^ n
theorem pw_zero : pw 0 = 1 := rfl
theorem pw_succ (n : Nat) : pw (n + 1) = 2 * pw n := by unfold pw; rw [Int.pow_succ]; omega
theorem pw_pos (n : Nat) : 1 ≤ pw n := by
  induction n with
  | zero => simp [pw]
  | succ n ih => rw [pw_succ]; omega
theorem pw_mono (m n : Nat) (h : m ≤ n) : pw m ≤ pw n := by
  induction h with
  | refl => exact Int.le_refl _
  | step _ ih => rw [pw_succ]; have := pw_pos m; omega
theorem pw_62 : pw 62 = 4611686018427387904 := rfl
theorem pw_le (n : Nat) (h : n ≤ 62) : pw n ≤ 4611686018427387904 := by have := pw_mono n 62 h; rw [pw_62] at this; exact this

/-- power(k) is 2^k from 0 to 62. -/
theorem power_any (k : Int) (w : World) (h0 : 0 ≤ k) (h1 : k ≤ 62) :
    Calls Try.prog 22 #[.int .i64 k] w fun e w' => e = .returned (.int .i64 (pw k.toNat)) ∧ w = w' := by
  go_enter Try.func22, Try.ntmps22
  go_wp2
  go_loop [3, 4] (fun v i => ∃ j : Nat, (j : Int) ≤ k ∧ i = .int .i64 j ∧ v = .int .i64 (pw j)) (fun _ i => k.toNat - (intOf i).toNat)
  case atStart => exact ⟨0, by omega, rfl, rfl⟩
  case round =>
    obtain ⟨j, hj, rfl, rfl⟩ := hrel
    by_cases hlt : (j : Int) < k
    · have hp := pw_pos j
      have hq := pw_le (j + 1) (by omega)
      have hs := pw_succ j
      rw [hs] at hq
      have HS := Lib.hid hs
      clear hs
      go_wp2
      go_round
      case rel => exact ⟨j + 1, by omega, by go_num, by rw [HS.out]⟩
      case measure => simp [intOf]; omega
    · have hjk : k.toNat = j := by omega
      have HJ := Lib.hid hjk
      clear hjk
      go_wp2
      go_ret
      exact ⟨by rw [HJ.out]; rfl, rfl⟩

/-- Does v fit k bits? -/
def fitB (v k : Int) : Bool := if k ≤ 0 then v == 0 else if k > 63 then true else decide (-(pw (k - 1).toNat) ≤ v ∧ v < pw (k - 1).toNat)

theorem fitB_neg (v k : Int) (h : k ≤ 0) : fitB v k = (v == 0) := by unfold fitB; rw [if_pos h]
theorem fitB_big (v k : Int) (h : 63 < k) : fitB v k = true := by unfold fitB; rw [if_neg (by omega), if_pos h]
theorem fitB_mid (v k : Int) (h0 : 0 < k) (h1 : k ≤ 63) : fitB v k = decide (-(pw (k - 1).toNat) ≤ v ∧ v < pw (k - 1).toNat) := by unfold fitB; rw [if_neg (by omega), if_neg (by omega)]

theorem fits_any (v k : Int) (w : World) :
    Calls Try.prog 9 #[.int .i64 v, .int .i64 k] w fun e w' => e = .returned (.bool (fitB v k)) ∧ w = w' := by
  by_cases h0 : k ≤ 0
  · rw [fitB_neg v k h0]
    go_enter Try.func9, Try.ntmps9
    go_wp2
    go_ret
    exact ⟨rfl, rfl⟩
  · by_cases h1 : 63 < k
    · rw [fitB_big v k h1]
      go_enter Try.func9, Try.ntmps9
      go_wp2
      go_ret
      exact ⟨rfl, rfl⟩
    · rw [fitB_mid v k (by omega) (by omega)]
      have hp := pw_pos (k - 1).toNat
      have hq := pw_le (k - 1).toNat (by omega)
      have hc := Lib.hid (power_any (k - 1) w (by omega) (by omega))
      generalize pw (k - 1).toNat = q at *
      by_cases a : -q ≤ v <;> by_cases b : v < q <;> try (exfalso; omega)
      all_goals
        have hd : Hid (decide (-q ≤ v ∧ v < q) = (decide (-q ≤ v) && decide (v < q))) := by unfold Hid; simp
        rw [hd.out]
        clear hd
        go_enter Try.func9, Try.ntmps9
        go_wp2_with fail
        refine hc.out.mono ?_
        rintro e w' ⟨rfl, rfl⟩
        go_wp2
        go_ret
        refine ⟨?_, rfl⟩
        simp [a, b]; try omega

theorem Fits_any (v k : Int) (w : World) :
    Calls Try.prog 8 #[.int .i64 v, .int .i64 k] w fun e w' => e = .returned (.bool (fitB v k)) ∧ w = w' := by
  by_cases h0 : k ≤ 0
  · rw [fitB_neg v k h0]
    go_enter Try.func8, Try.ntmps8
    go_wp2
    go_ret
    exact ⟨rfl, rfl⟩
  · by_cases h1 : 63 < k
    · rw [fitB_big v k h1]
      go_enter Try.func8, Try.ntmps8
      go_wp2
      go_ret
      exact ⟨rfl, rfl⟩
    · rw [fitB_mid v k (by omega) (by omega)]
      have hp := pw_pos (k - 1).toNat
      have hq := pw_le (k - 1).toNat (by omega)
      have he : wrap64 ((2 : Int) ^ (k.toNat - 1)) = pw (k - 1).toNat := by
        have e1 : (2 : Int) ^ (k.toNat - 1) = pw (k - 1).toNat := by rw [show (k - 1).toNat = k.toNat - 1 by omega]; rfl
        rw [e1]; exact IntWalk.wrap64_in _ ⟨by omega, by omega⟩
      generalize pw (k - 1).toNat = q at *
      by_cases a : -q ≤ v <;> by_cases b : v < q <;> try (exfalso; omega)
      all_goals
        have hd : Hid (decide (-q ≤ v ∧ v < q) = (decide (-q ≤ v) && decide (v < q))) := by unfold Hid; simp
        rw [hd.out]
        clear hd
        go_enter Try.func8, Try.ntmps8
        go_wp2
        go_ret
        refine ⟨?_, rfl⟩
        simp [a, b]

def widB (k : Int) : Bool := decide (0 ≤ k ∧ k ≤ 57)
theorem isWidth_any (k : Int) (w : World) :
    Calls Try.prog 31 #[.int .i64 k] w fun e w' => e = .returned (.bool (widB k)) ∧ w = w' := by
  have hd : Hid (widB k = (decide (0 ≤ k) && decide (k ≤ 57))) := by unfold Hid widB; simp
  rw [hd.out]
  clear hd
  by_cases a : 0 ≤ k <;> by_cases b : k ≤ 57 <;> try (exfalso; omega)
  all_goals
    go_enter Try.func31, Try.ntmps31
    go_wp2
    go_ret
    refine ⟨?_, rfl⟩
    simp [a, b]

end Go.Proofs.Ytbbjleblfhaclaa
