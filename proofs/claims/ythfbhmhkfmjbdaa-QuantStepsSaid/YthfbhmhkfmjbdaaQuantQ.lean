/- Contracts of what the laws of stage 9 call: near, power, right. -/
import Derived.Test.YthfbhmhkfmjbdaaQuantN
namespace Go.Proofs.Ythfbhmhkfmjbdaa
set_option linter.unusedVariables false
open Go.RowKit

def nearP (f : Nat → Int) : Prop := ∀ k, k < 16 → -1099511627776 ≤ f k ∧ f k ≤ 1099511627776
instance (f : Nat → Int) : Decidable (nearP f) := by unfold nearP; infer_instance

theorem near_any (f : Nat → Int) (w : World) :
    Calls Try.prog 12 #[.agg (rowN 16 (blk f))] w fun e w' => e = .returned (.bool (decide (nearP f))) ∧ Old w w' := by
  have hc : ∀ k, k < 16 → (w.alloc (.cells (rowN 16 (blk f)) 23)).cell? ⟨w.heap.size, k, none⟩ = some (.int .i64 (f k)) := fun k hk => cell_new w 16 _ (blk f) k hk
  have HC := Lib.hid hc
  clear hc
  go_enter Try.func12, Try.ntmps12
  go_wp2
  go_loop [3] (fun i => ∃ k : Nat, k ≤ 16 ∧ i = .int .i64 k ∧ Hid (∀ j, j < k → -1099511627776 ≤ f j ∧ f j ≤ 1099511627776)) (fun i => 16 - (intOf i).toNat)
  case atStart => exact ⟨0, by omega, rfl, fun j hj => by omega⟩
  case round =>
    obtain ⟨k, hk, rfl, hj⟩ := hrel
    by_cases hlt : k < 16
    · have i1 : (0 : Int) ≤ k := by omega
      have i2 : (k : Int) < 16 := by omega
      have hcell := HC.out k hlt
      have hx : ∃ x, f k = x := ⟨_, rfl⟩
      obtain ⟨x, hx⟩ := hx
      rw [hx] at hcell
      have Hx := Lib.hid hx
      clear hx
      by_cases h1 : x < -1099511627776
      · go_wp2
        go_ret
        refine ⟨?_, Old.alloc _ _⟩
        have : decide (nearP f) = false := by
          rw [decide_eq_false_iff_not]
          intro h
          have := (h k hlt).1
          rw [Hx.out] at this
          omega
        rw [this]; rfl
      · by_cases h2 : 1099511627776 < x
        · have h1' : -1099511627776 ≤ x := by omega
          go_wp2
          go_ret
          refine ⟨?_, Old.alloc _ _⟩
          have : decide (nearP f) = false := by
            rw [decide_eq_false_iff_not]
            intro h
            have := (h k hlt).2
            rw [Hx.out] at this
            omega
          rw [this]; rfl
        · have h1' : -1099511627776 ≤ x := by omega
          have h2' : x ≤ 1099511627776 := by omega
          have hn : Hid (∀ j, j < k + 1 → -1099511627776 ≤ f j ∧ f j ≤ 1099511627776) := fun j hj' => by
            rcases Nat.lt_succ_iff_lt_or_eq.1 hj' with h | rfl
            · exact hj.out j h
            · rw [Hx.out]; exact ⟨h1', h2'⟩
          clear h1 h2
          go_wp2
          go_round
          case rel => exact ⟨k + 1, by omega, by go_num, hn⟩
          case measure => simp [intOf]; omega
    · obtain rfl : k = 16 := by omega
      go_wp2
      go_ret
      refine ⟨?_, Old.alloc _ _⟩
      have : decide (nearP f) = true := decide_eq_true hj.out
      rw [this]; rfl


theorem near_fits {f : Nat → Int} (h : nearP f) (h0 : ∀ k, 16 ≤ k → f k = 0) : Fits64 f := fun k => by
  by_cases hk : k < 16
  · have := h k hk; omega
  · have := h0 k (by omega); omega
theorem absI_near {v : Int} (h1 : -1099511627776 ≤ v) (h2 : v ≤ 1099511627776) : absI v = max v (-v) := by
  unfold absI
  rw [if_neg (by omega)]
  split <;> omega
theorem part_take (f : Nat → Int) (a n k : Nat) (h : k ≤ n) : (part f a n).take k = part f a k := by
  unfold part
  rw [← List.map_take, List.take_range, Nat.min_eq_left h]
theorem peak_succ (f : Nat → Int) (a k : Nat) : peakL (part f a (k + 1)) = max (peakL (part f a k)) (absI (f (a + k))) := by
  have h := peakL_snoc (part f a (k + 1)) k (by rw [part_len]; omega)
  rw [part_take _ _ _ _ (Nat.le_refl _), part_take _ _ _ _ (by omega), part_getD _ _ _ _ (by omega)] at h
  exact h

theorem power_any (g : Nat) (hg : g ≤ 23) (w : World) :
    Calls Try.prog 13 #[.int .i64 g] w fun e w' => e = .returned (.int .i64 (pw g)) ∧ w = w' := by
  go_enter Try.func13, Try.ntmps13
  go_wp2
  go_loop [3, 4] (fun v i => ∃ k : Nat, k ≤ g ∧ i = .int .i64 k ∧ v = .int .i64 (pw k)) (fun _ i => g - (intOf i).toNat)
  case atStart => exact ⟨0, by omega, rfl, rfl⟩
  case round =>
    obtain ⟨k, hk, rfl, rfl⟩ := hrel
    by_cases hlt : k < g
    · have i1 : (0 : Int) ≤ k := by omega
      have i2 : (k : Int) < g := by omega
      have i3 : (g : Int) ≤ 23 := by omega
      have hs : Hid (pw (k + 1) = 2 * pw k) := Lib.hid (pw_succ k)
      have b0 := pw_pos k
      have b1 := pw_mono k 23 (by omega)
      rw [show pw 23 = 8388608 from rfl] at b1
      generalize pw k = v at *
      go_wp2
      go_round
      case rel => exact ⟨k + 1, by omega, by go_num, by rw [hs.out]⟩
      case measure => simp [intOf]; omega
    · obtain rfl : k = g := by omega
      go_wp2
      go_ret
      exact ⟨rfl, rfl⟩

theorem right_any (g : Nat → Int) (w : World) :
    Calls Try.prog 10 #[.agg (rowN 4 (blk g))] w fun e w' => e = .returned (.bool (decide (scalesP g))) ∧ Old w w' := by
  have hc : ∀ k, k < 4 → (w.alloc (.cells (rowN 4 (blk g)) 24)).cell? ⟨w.heap.size, k, none⟩ = some (.int .i64 (g k)) := fun k hk => cell_new w 4 _ (blk g) k hk
  have HC := Lib.hid hc
  clear hc
  go_enter Try.func10, Try.ntmps10
  go_wp2
  go_loop [3] (fun i => ∃ k : Nat, k ≤ 4 ∧ i = .int .i64 k ∧ Hid (∀ j, j < k → 0 ≤ g j ∧ g j ≤ 23)) (fun i => 4 - (intOf i).toNat)
  case atStart => exact ⟨0, by omega, rfl, fun j hj => by omega⟩
  case round =>
    obtain ⟨k, hk, rfl, hj⟩ := hrel
    by_cases hlt : k < 4
    · have i1 : (0 : Int) ≤ k := by omega
      have i2 : (k : Int) < 4 := by omega
      have hcell := HC.out k hlt
      by_cases h1 : g k < 0
      · have hf : decide (scalesP g) = false := by
          rw [decide_eq_false_iff_not]
          intro h
          have := (h k hlt).1
          omega
        have HF := Lib.hid hf
        clear hf
        generalize g k = x at *
        go_wp2
        go_ret
        exact ⟨by rw [HF.out]; rfl, Old.alloc _ _⟩
      · by_cases h2 : 23 < g k
        · have hf : decide (scalesP g) = false := by
            rw [decide_eq_false_iff_not]
            intro h
            have := (h k hlt).2
            omega
          have HF := Lib.hid hf
          clear hf
          have h1' : 0 ≤ g k := by omega
          generalize g k = x at *
          go_wp2
          go_ret
          exact ⟨by rw [HF.out]; rfl, Old.alloc _ _⟩
        · have hn : Hid (∀ j, j < k + 1 → 0 ≤ g j ∧ g j ≤ 23) := fun j hj' => by
            rcases Nat.lt_succ_iff_lt_or_eq.1 hj' with h | rfl
            · exact hj.out j h
            · omega
          have h1' : 0 ≤ g k := by omega
          have h2' : g k ≤ 23 := by omega
          clear h1 h2
          generalize g k = x at *
          go_wp2
          go_round
          case rel => exact ⟨k + 1, by omega, by go_num, hn⟩
          case measure => simp [intOf]; omega
    · obtain rfl : k = 4 := by omega
      have hf : decide (scalesP g) = true := decide_eq_true hj.out
      have HF := Lib.hid hf
      clear hf hj
      go_wp2
      go_ret
      exact ⟨by rw [HF.out]; rfl, Old.alloc _ _⟩
end Go.Proofs.Ythfbhmhkfmjbdaa
