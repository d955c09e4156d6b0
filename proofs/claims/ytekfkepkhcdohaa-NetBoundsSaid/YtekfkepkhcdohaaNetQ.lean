/- Contracts of what the laws of stage 6 call: New, Bound, near, and comparisons of blocks. -/
import Derived.Test.YtekfkepkhcdohaaNetG
import Derived.Test.YtekfkepkhcdohaaNetF
namespace Go.Proofs.Ytekfkepkhcdohaa
set_option linter.unusedVariables false
open Go.RowKit

theorem New_any (w : World) : Calls Try.prog 8 #[] w fun e w' => e = .returned (.agg #[]) ∧ Old w w' := by
  go_enter Try.func8, Try.ntmps8
  go_wp2
  refine bodyPost_ret (results_cell_row rfl _ _ w.heap.size 27 _ (0, 0) _ rfl (heap_alloc_new _ _) Try.underlying27 rfl (by kernel_rfl)) rfl ⟨rfl, Old.alloc _ _⟩

def nearP (f : Nat → Int) : Prop := ∀ k, k < 16 → -4294967296 ≤ f k ∧ f k ≤ 4294967296
instance (f : Nat → Int) : Decidable (nearP f) := by unfold nearP; infer_instance

theorem near_any (f : Nat → Int) (w : World) :
    Calls Try.prog 6 #[.agg (rowN 16 (blk f))] w fun e w' => e = .returned (.bool (decide (nearP f))) ∧ Old w w' := by
  have hc : ∀ k, k < 16 → (w.alloc (.cells (rowN 16 (blk f)) 23)).cell? ⟨w.heap.size, k, none⟩ = some (.int .i64 (f k)) := fun k hk => cell_new w 16 _ (blk f) k hk
  have HC := Lib.hid hc
  clear hc
  go_enter Try.func6, Try.ntmps6
  go_wp2
  go_loop [3] (fun i => ∃ k : Nat, k ≤ 16 ∧ i = .int .i64 k ∧ Hid (∀ j, j < k → -4294967296 ≤ f j ∧ f j ≤ 4294967296)) (fun i => 16 - (intOf i).toNat)
  case atStart => exact ⟨0, by omega, rfl, fun j hj => by omega⟩
  case round =>
    obtain ⟨k, hk, rfl, hj⟩ := hrel
    by_cases hlt : k < 16
    · have i1 : (0 : Int) ≤ k := by omega
      have i2 : (k : Int) < 16 := by omega
      have hcell := HC.out k hlt
      have hx : ∃ x, f k = x := ⟨_, rfl⟩
      obtain ⟨x, hx⟩ := hx
      rw [hx] at hcell
      have Hx := Lib.hid hx
      clear hx
      by_cases h1 : x < -4294967296
      · go_wp2
        go_ret
        refine ⟨?_, Old.alloc _ _⟩
        have : decide (nearP f) = false := by
          rw [decide_eq_false_iff_not]
          intro h
          have := (h k hlt).1
          rw [Hx.out] at this
          omega
        rw [this]; rfl
      · by_cases h2 : 4294967296 < x
        · have h1' : -4294967296 ≤ x := by omega
          go_wp2
          go_ret
          refine ⟨?_, Old.alloc _ _⟩
          have : decide (nearP f) = false := by
            rw [decide_eq_false_iff_not]
            intro h
            have := (h k hlt).2
            rw [Hx.out] at this
            omega
          rw [this]; rfl
        · have h1' : -4294967296 ≤ x := by omega
          have h2' : x ≤ 4294967296 := by omega
          have hn : Hid (∀ j, j < k + 1 → -4294967296 ≤ f j ∧ f j ≤ 4294967296) := fun j hj' => by
            rcases Nat.lt_succ_iff_lt_or_eq.1 hj' with h | rfl
            · exact hj.out j h
            · rw [Hx.out]; exact ⟨h1', h2'⟩
          clear h1 h2
          go_wp2
          go_round
          case rel => exact ⟨k + 1, by omega, by go_num, hn⟩
          case measure => simp [intOf]; omega
    · obtain rfl : k = 16 := by omega
      go_wp2
      go_ret
      refine ⟨?_, Old.alloc _ _⟩
      have : decide (nearP f) = true := decide_eq_true hj.out
      rw [this]; rfl

def bd : Nat → Int → Int
  | 0, m => m
  | n + 1, m => 3 * bd n m + 4
theorem bd_4 (m : Int) : bd 4 m = 81 * m + 160 := by unfold bd bd bd bd bd; omega
theorem bd_in (m : Int) (h0 : 0 ≤ m) (h1 : m ≤ 4294967296) (k : Nat) (hk : k ≤ 4) : 0 ≤ bd k m ∧ bd k m ≤ 347892350976 + 200 := by
  rcases (by omega : k = 0 ∨ k = 1 ∨ k = 2 ∨ k = 3 ∨ k = 4) with rfl | rfl | rfl | rfl | rfl <;> simp only [bd] <;> omega
theorem Bound_any (m : Int) (w : World) (h0 : 0 ≤ m) (h1 : m ≤ 4294967296) :
    Calls Try.prog 11 #[.int .i64 m] w fun e w' => e = .returned (.int .i64 (81 * m + 160)) ∧ w = w' := by
  have HB := Lib.hid (bd_in m h0 h1)
  have H4 := Lib.hid (bd_4 m)
  go_enter Try.func11, Try.ntmps11
  go_wp2
  go_loop [0, 3] (fun x i => ∃ k : Nat, k ≤ 4 ∧ i = .int .i64 k ∧ x = .int .i64 (bd k m)) (fun _ i => 4 - (intOf i).toNat)
  case atStart => exact ⟨0, by omega, rfl, rfl⟩
  case round =>
    obtain ⟨k, hk, rfl, rfl⟩ := hrel
    obtain ⟨b0, b1⟩ := HB.out k hk
    by_cases hlt : k < 4
    · have i1 : (0 : Int) ≤ k := by omega
      have i2 : (k : Int) < 4 := by omega
      have hs : Hid (bd (k + 1) m = 3 * bd k m + 4) := Lib.hid rfl
      generalize bd k m = x at *
      go_wp2
      go_round
      case rel => exact ⟨k + 1, by omega, by go_num, by rw [hs.out]⟩
      case measure => simp [intOf]; omega
    · obtain rfl : k = 4 := by omega
      generalize hx : bd 4 m = x at *
      have HX := Lib.hid hx
      clear hx
      go_wp2
      go_ret
      exact ⟨ret_int H4.out, rfl⟩

/-! Blocks compared. -/
theorem eql_blk (f g : Nat → Int) (w : World) : (binOp .eql 23 (.agg (rowN 16 (blk f))) (.agg (rowN 16 (blk g)))).run Try.prog w = .ok (.bool (eqB 16 f g)) w :=
  eql_ints Try.underlying23 Try.underlying2 (by kernel_rfl) (by kernel_rfl) f g w
theorem neq_blk (f g : Nat → Int) (w : World) : (binOp .neq 23 (.agg (rowN 16 (blk f))) (.agg (rowN 16 (blk g)))).run Try.prog w = .ok (.bool !(eqB 16 f g)) w :=
  neq_ints Try.underlying23 Try.underlying2 (by kernel_rfl) (by kernel_rfl) f g w
end Go.Proofs.Ytekfkepkhcdohaa
