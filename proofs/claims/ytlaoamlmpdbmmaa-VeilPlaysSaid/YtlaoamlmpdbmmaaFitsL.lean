/- Which numbers fit how many bits: contracts of bits.Fits, bits.isWidth. -/
import Derived.Test.YtlaoamlmpdbmmaaSmall
namespace Go.Proofs.Ytlaoamlmpdbmmaa
set_option linter.unusedVariables false
set_option maxRecDepth 100000
open Go.RowKit

/-- Does v fit k bits? -/
def fitB (v k : Int) : Bool := if k ≤ 0 then v == 0 else if k > 63 then true else decide (-(pw (k - 1).toNat) ≤ v ∧ v < pw (k - 1).toNat)

theorem fitB_neg (v k : Int) (h : k ≤ 0) : fitB v k = (v == 0) := by unfold fitB; rw [if_pos h]
theorem fitB_big (v k : Int) (h : 63 < k) : fitB v k = true := by unfold fitB; rw [if_neg (by omega), if_pos h]
theorem fitB_mid (v k : Int) (h0 : 0 < k) (h1 : k ≤ 63) : fitB v k = decide (-(pw (k - 1).toNat) ≤ v ∧ v < pw (k - 1).toNat) := by unfold fitB; rw [if_neg (by omega), if_neg (by omega)]

theorem Fits_any (v k : Int) (w : World) :
    Calls Try.prog 27 #[.int .i64 v, .int .i64 k] w fun e w' => e = .returned (.bool (fitB v k)) ∧ w = w' := by
  by_cases h0 : k ≤ 0
  · rw [fitB_neg v k h0]
    go_enter Try.func27, Try.ntmps27
    go_wp2
    go_ret
    exact ⟨rfl, rfl⟩
  · by_cases h1 : 63 < k
    · rw [fitB_big v k h1]
      go_enter Try.func27, Try.ntmps27
      go_wp2
      go_ret
      exact ⟨rfl, rfl⟩
    · rw [fitB_mid v k (by omega) (by omega)]
      have hp := pw_pos (k - 1).toNat
      have hq := pw_le (k - 1).toNat (by omega)
      have he : wrap64 ((2 : Int) ^ (k.toNat - 1)) = pw (k - 1).toNat := by
        have e1 : (2 : Int) ^ (k.toNat - 1) = pw (k - 1).toNat := by rw [show (k - 1).toNat = k.toNat - 1 by omega]; rfl
        rw [e1]; exact IntWalk.wrap64_in _ ⟨by omega, by omega⟩
      generalize pw (k - 1).toNat = q at *
      by_cases a : -q ≤ v <;> by_cases b : v < q <;> try (exfalso; omega)
      all_goals
        have hd : Hid (decide (-q ≤ v ∧ v < q) = (decide (-q ≤ v) && decide (v < q))) := by unfold Hid; simp
        rw [hd.out]
        clear hd
        go_enter Try.func27, Try.ntmps27
        go_wp2
        go_ret
        refine ⟨?_, rfl⟩
        simp [a, b]

def widB (k : Int) : Bool := decide (0 ≤ k ∧ k ≤ 57)

end Go.Proofs.Ytlaoamlmpdbmmaa
