/- What laws call: whether a spectrum's numbers may be (near), a number without its sign (size). -/
import Derived.Test.YtcepfbflgngmjaaArrI
import Derived.Test.YtcepfbflgngmjaaNumL
namespace Go.Proofs.Ytcepfbflgngmjaa
set_option linter.unusedVariables false
set_option maxRecDepth 100000
open Go.RowKit

def nearP (f : Nat → Int) : Prop := ∀ k, k < 16 → -1099511627776 ≤ f k ∧ f k ≤ 1099511627776
instance (f : Nat → Int) : Decidable (nearP f) := by unfold nearP; infer_instance
theorem near_fits {f : Nat → Int} (h : nearP f) (h0 : ∀ k, 16 ≤ k → f k = 0) : Fits64 f := fun k => by
  by_cases hk : k < 16
  · have := h k hk; omega
  · have := h0 k (by omega); omega
theorem absI_near {v : Int} (h1 : -1099511627776 ≤ v) (h2 : v ≤ 1099511627776) : absI v = max v (-v) := by
  unfold absI
  rw [if_neg (by omega)]
  split <;> omega
theorem near_any (f : Nat → Int) (w : World) :
    Calls Try.prog 6 #[.agg (rowN 16 (blk f))] w fun e w' => e = .returned (.bool (decide (nearP f))) ∧ Old w w' := by
  have hc : ∀ k, k < 16 → (w.alloc (.cells (rowN 16 (blk f)) 23)).cell? ⟨w.heap.size, k, none⟩ = some (.int .i64 (f k)) := fun k hk => cell_new w 16 _ (blk f) k hk
  have HC := Lib.hid hc
  clear hc
  go_enter Try.func6, Try.ntmps6
  go_wp2
  go_loop [3] (fun i => ∃ k : Nat, k ≤ 16 ∧ i = .int .i64 k ∧ Hid (∀ j, j < k → -1099511627776 ≤ f j ∧ f j ≤ 1099511627776)) (fun i => 16 - (intOf i).toNat)
  case atStart => exact ⟨0, by omega, rfl, fun j hj => by omega⟩
  case round =>
    obtain ⟨k, hk, rfl, hj⟩ := hrel
    by_cases hlt : k < 16
    · have i1 : (0 : Int) ≤ k := by omega
      have i2 : (k : Int) < 16 := by omega
      have hcell := HC.out k hlt
      have hx : ∃ x, f k = x := ⟨_, rfl⟩
      obtain ⟨x, hx⟩ := hx
      rw [hx] at hcell
      have Hx := Lib.hid hx
      clear hx
      by_cases h1 : x < -1099511627776
      · go_wp2
        go_ret
        refine ⟨?_, Old.alloc _ _⟩
        have : decide (nearP f) = false := by
          rw [decide_eq_false_iff_not]
          intro h
          have := (h k hlt).1
          rw [Hx.out] at this
          omega
        rw [this]; rfl
      · by_cases h2 : 1099511627776 < x
        · have h1' : -1099511627776 ≤ x := by omega
          go_wp2
          go_ret
          refine ⟨?_, Old.alloc _ _⟩
          have : decide (nearP f) = false := by
            rw [decide_eq_false_iff_not]
            intro h
            have := (h k hlt).2
            rw [Hx.out] at this
            omega
          rw [this]; rfl
        · have h1' : -1099511627776 ≤ x := by omega
          have h2' : x ≤ 1099511627776 := by omega
          have hn : Hid (∀ j, j < k + 1 → -1099511627776 ≤ f j ∧ f j ≤ 1099511627776) := fun j hj' => by
            rcases Nat.lt_succ_iff_lt_or_eq.1 hj' with h | rfl
            · exact hj.out j h
            · rw [Hx.out]; exact ⟨h1', h2'⟩
          clear h1 h2
          go_wp2
          go_round
          case rel => exact ⟨k + 1, by omega, by go_num, hn⟩
          case measure => simp [intOf]; omega
    · obtain rfl : k = 16 := by omega
      go_wp2
      go_ret
      refine ⟨?_, Old.alloc _ _⟩
      have : decide (nearP f) = true := decide_eq_true hj.out
      rw [this]; rfl
end Go.Proofs.Ytcepfbflgngmjaa
