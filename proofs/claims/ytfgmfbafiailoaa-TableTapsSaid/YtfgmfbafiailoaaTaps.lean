/- Contracts of table.Taps and table.All. -/
import Derived.Test.YtfgmfbafiailoaaTurn
import Derived.ChangeKeysEq
namespace Go.Proofs.Ytfgmfbafiailoaa
set_option linter.unusedVariables false
open Go.RowKit

def tap0 (q : Nat) : Int := -(q * q * q) + 64 * (q * q) - 1024 * q
def tap1 (q : Nat) : Int := 3 * (q * q * q) - 160 * (q * q) + 65536
def tap2 (q : Nat) : Int := -3 * (q * q * q) + 128 * (q * q) + 1024 * q
def tap3 (q : Nat) : Int := q * q * q - 32 * (q * q)
def tapsV (q : Nat) : Value := .agg #[.int .i64 (tap0 q), .int .i64 (tap1 q), .int .i64 (tap2 q), .int .i64 (tap3 q)]

theorem Taps_no (k : Int) (w : World) (h : k < 0 ∨ 31 < k) :
    Calls Try.prog 11 #[.int .i64 k] w fun e w' => e = .returned (.agg #[.int .i64 0, .int .i64 0, .int .i64 0, .int .i64 0]) ∧ Old w w' := by
  rcases h with h | h
  · go_enter Try.func11, Try.ntmps11
    go_wp2
    refine bodyPost_ret (results_cell_row rfl _ _ w.heap.size 32 _ (0, 0) _ rfl (heap_alloc_new _ _) Try.underlying32 rfl (by kernel_rfl)) rfl ⟨rfl, Old.alloc _ _⟩
  · have h0 : 0 ≤ k := by omega
    have h1 : 32 ≤ k := by omega
    clear h
    go_enter Try.func11, Try.ntmps11
    go_wp2
    refine bodyPost_ret (results_cell_row rfl _ _ w.heap.size 32 _ (0, 0) _ rfl (heap_alloc_new _ _) Try.underlying32 rfl (by kernel_rfl)) rfl ⟨rfl, Old.alloc _ _⟩

theorem sq_bd (q : Nat) (h : q ≤ 31) : 0 ≤ (q : Int) * q ∧ (q : Int) * q ≤ 961 ∧ 0 ≤ (q : Int) * q * q ∧ (q : Int) * q * q ≤ 29791 := by
  have h1 : q * q ≤ 31 * 31 := Nat.mul_le_mul h h
  have h2 : q * q * q ≤ 961 * 31 := Nat.mul_le_mul h1 h
  have e1 : (q : Int) * q = ((q * q : Nat) : Int) := by simp
  have e2 : (q : Int) * q * q = ((q * q * q : Nat) : Int) := by simp
  rw [e2, e1]
  omega

theorem Taps_yes (k : Nat) (w : World) (h : k ≤ 31) :
    Calls Try.prog 11 #[.int .i64 k] w fun e w' => e = .returned (tapsV k) ∧ Old w w' := by
  have i1 : 0 ≤ (k : Int) := by omega
  have i2 : (k : Int) < 32 := by omega
  unfold tapsV tap0 tap1 tap2 tap3
  obtain ⟨s1, s2, c1, c2⟩ := sq_bd k h
  generalize hc : (k : Int) * k * k = c at *
  generalize hs : (k : Int) * k = s at *
  go_enter Try.func11, Try.ntmps11
  go_wp2
  refine bodyPost_ret (results_cell_row rfl _ _ w.heap.size 32 _ (0, 0) _ rfl (heap_alloc_new _ _) Try.underlying32 rfl (by kernel_rfl)) rfl ⟨rfl, Old.alloc _ _⟩

theorem eq_taps (w : World) (a b c d : Int) : (binOp .eql 32 (.agg #[.int .i64 a, .int .i64 b, .int .i64 c, .int .i64 d]) (.agg #[.int .i64 a, .int .i64 b, .int .i64 c, .int .i64 d])).run Try.prog w = .ok (.bool true) w := by
  have h := fun (w : World) (a b : Int) => run_equalIn_int (P := Try.prog) w 9998 2 .i64 .i64 a b Try.underlying2
  have hc : Try.prog.cellsOf 2 = 1 := by kernel_rfl
  obtain ⟨i, hi⟩ : ∃ i, Try.prog.info? 2 = some i := ⟨_, rfl⟩
  rw [run_eql_struct, run_equalIn_array w 9999 _ _ Try.underlying32 hi, hc, show List.range 4 = [0, 1, 2, 3] from rfl]
  simp [Op.eqItems, part, isAgg, run_underlying Try.underlying2, h]
end Go.Proofs.Ytfgmfbafiailoaa
