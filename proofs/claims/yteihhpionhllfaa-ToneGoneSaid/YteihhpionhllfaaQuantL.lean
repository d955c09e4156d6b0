/- Package quant's contracts. -/
import Derived.Test.YteihhpionhllfaaArrI
import Derived.Test.YteihhpionhllfaaGainL
import Derived.Test.YteihhpionhllfaaStepL
namespace Go.Proofs.Yteihhpionhllfaa
set_option linter.unusedVariables false
open Go.RowKit

def scalesP (g : Nat → Int) : Prop := ∀ k, k < 4 → 0 ≤ g k ∧ g k ≤ 23
instance (g : Nat → Int) : Decidable (scalesP g) := by unfold scalesP; infer_instance
/-- The band of a place. -/
def bandI (i : Int) : Int := if 0 ≤ i ∧ i < 16 then i / 4 else 0
theorem Band_any (i : Int) (w : World) (h1 : -9223372036854775808 ≤ i) (h2 : i ≤ 9223372036854775807) :
    Calls Try.prog 15 #[.int .i64 i] w fun e w' => e = .returned (.int .i64 (bandI i)) ∧ w = w' := by
  by_cases a : i < 0
  · have e : bandI i = 0 := by unfold bandI; rw [if_neg (by omega)]
    rw [e]
    go_enter Try.func15, Try.ntmps15
    go_wp2
    go_ret
    exact ⟨rfl, rfl⟩
  · have a' : 0 ≤ i := by omega
    clear a
    by_cases b : 16 ≤ i
    · have e : bandI i = 0 := by unfold bandI; rw [if_neg (by omega)]
      rw [e]
      go_enter Try.func15, Try.ntmps15
      go_wp2
      go_ret
      exact ⟨rfl, rfl⟩
    · have b' : i < 16 := by omega
      have e : bandI i = i / 4 := by unfold bandI; rw [if_pos ⟨a', b'⟩]
      have q1 : wrap64 (i.tdiv 4) = i / 4 := by rw [Int.tdiv_eq_ediv_of_nonneg a']; exact IntWalk.wrap64_in _ (by omega)
      rw [e]
      clear b e
      go_enter Try.func15, Try.ntmps15
      go_wp2
      go_ret
      exact ⟨rfl, rfl⟩
theorem Band_nat (k m : Nat) (w : World) (hk : k < 16) (hm : k / 4 = m) :
    Calls Try.prog 15 #[.int .i64 k] w fun e w' => e = .returned (.int .i64 m) ∧ w = w' := by
  refine (Band_any k w (by omega) (by omega)).mono ?_
  rintro e w' ⟨rfl, h⟩
  exact ⟨ret_int (by unfold bandI; rw [if_pos (by omega)]; omega), h⟩
/-- Half a scale's step. -/
def halfI (s : Int) : Int := if 0 ≤ s ∧ s ≤ 23 then pw s.toNat / 2 else 0
/-- The number that so many steps are, and how many steps a number is. -/
def valI (q s : Int) : Int := wrap64 (q * pw s.toNat)
def stepI (v s : Int) : Int := nearI v (pw s.toNat)
def toldF (φ : Int → Int → Int) (f s : Nat → Int) : Nat → Int := fun k => φ (f k) (s (k / 4))
def toldR (φ : Int → Int → Int) (f s : Nat → Int) : Nat → Int := if scalesP s then toldF φ f s else fun _ => 0
end Go.Proofs.Yteihhpionhllfaa
