/- Contracts of table.Turn and of the chapter's example. -/
import Derived.Test.YtfgmfbafiailoaaDoorArr
namespace Go.Proofs.YtfgmfbafiailoaaDoor
set_option linter.unusedVariables false
open Go.RowKit

def turnP (k : Nat) : Int := 512 * (2 * k + 1)
def turnD (k : Nat) : Int := 1024 + (2 * k + 1) * (2 * k + 1)
def turnU (k : Nat) : Int := ((2 * k + 1) * 1048576 + turnD k / 2) / turnD k
def turnV (k : Nat) : Value := .agg #[.int .i64 (turnP k), .int .i64 (turnU k)]

theorem Turn_no (k : Int) (w : World) (h : k < 0 ∨ 7 < k) :
    Calls Tryd.prog 8 #[.int .i64 k] w fun e w' => e = .returned (.agg #[.int .i64 0, .int .i64 0]) ∧ Old w w' := by
  rcases h with h | h
  · go_enter Tryd.func8, Tryd.ntmps8
    go_wp2
    refine bodyPost_ret (results_cell_row rfl _ _ w.heap.size 32 _ (0, 0) _ rfl (heap_alloc_new _ _) Tryd.underlying32 rfl (by kernel_rfl)) rfl ⟨rfl, Old.alloc _ _⟩
  · have h0 : 0 ≤ k := by omega
    have h1 : 8 ≤ k := by omega
    clear h
    go_enter Tryd.func8, Tryd.ntmps8
    go_wp2
    refine bodyPost_ret (results_cell_row rfl _ _ w.heap.size 32 _ (0, 0) _ rfl (heap_alloc_new _ _) Tryd.underlying32 rfl (by kernel_rfl)) rfl ⟨rfl, Old.alloc _ _⟩

theorem Turn_yes (k : Nat) (w : World) (h : k ≤ 7) :
    Calls Tryd.prog 8 #[.int .i64 k] w fun e w' => e = .returned (turnV k) ∧ Old w w' := by
  have i1 : 0 ≤ (k : Int) := by omega
  have i2 : (k : Int) < 8 := by omega
  unfold turnV turnP turnU turnD
  have m1 : 1 ≤ 2 * (k : Int) + 1 := by omega
  have m2 : 2 * (k : Int) + 1 ≤ 15 := by omega
  have hq0 : 0 ≤ (2 * (k : Int) + 1) * (2 * (k : Int) + 1) := Int.mul_nonneg (by omega) (by omega)
  have hq1 : (2 * (k : Int) + 1) * (2 * (k : Int) + 1) ≤ 225 := by have := Int.mul_le_mul m2 m2 (by omega) (by omega); omega
  generalize hq : (2 * (k : Int) + 1) * (2 * (k : Int) + 1) = q at *
  have hd2 : (1024 + q).tdiv 2 = (1024 + q) / 2 := tdiv_pos _ _ (by omega)
  have hd3 : ((2 * (k : Int) + 1) * 1048576 + (1024 + q) / 2).tdiv (1024 + q) = ((2 * (k : Int) + 1) * 1048576 + (1024 + q) / 2) / (1024 + q) := tdiv_pos _ _ (by omega)
  have u1 : 0 ≤ ((2 * (k : Int) + 1) * 1048576 + (1024 + q) / 2) / (1024 + q) := Int.ediv_nonneg (by omega) (by omega)
  have u2 : ((2 * (k : Int) + 1) * 1048576 + (1024 + q) / 2) / (1024 + q) ≤ 20000000 := by
    have := Int.ediv_le_self (1024 + q) (show 0 ≤ (2 * (k : Int) + 1) * 1048576 + (1024 + q) / 2 by omega)
    omega
  go_enter Tryd.func8, Tryd.ntmps8
  go_wp2
  refine bodyPost_ret (results_cell_row rfl _ _ w.heap.size 32 _ (0, 0) _ rfl (heap_alloc_new _ _) Tryd.underlying32 rfl (by kernel_rfl)) rfl ⟨rfl, Old.alloc _ _⟩

/-! Two turns that are the same. -/
theorem turn_fields : (Tryd.prog.fieldsOf 32).toList = [{ name := "P", type := 2, offset := 0, embedded := false, tag := "", pkgPath := "", byteOffset := 0 }, { name := "U", type := 2, offset := 1, embedded := false, tag := "", pkgPath := "", byteOffset := 8 }] := by kernel_rfl
theorem int64_size : (Tryd.prog.info? 2).map (·.size) = some 1 := by kernel_rfl
theorem eq_turn (w : World) (p u : Int) : (binOp .eql 32 (.agg #[.int .i64 p, .int .i64 u]) (.agg #[.int .i64 p, .int .i64 u])).run Tryd.prog w = .ok (.bool true) w := by
  rw [run_eql_struct, run_equalIn_agg w 9999 32 _ _ (by kernel_rfl) (by kernel_rfl), turn_fields]
  have h := fun (w : World) (a b : Int) => run_equalIn_int (P := Tryd.prog) w 9998 2 .i64 .i64 a b Tryd.underlying2
  simp [Op.eqFields, part, isAgg, run_underlying Tryd.underlying2, h, sizeOf]

/-- The chapter's example. -/
theorem awake_any (w : World) : Calls Tryd.prog 7 #[] w fun e w' => e = .returned (.bool true) ∧ Old w w' := by
  have hT := Lib.hid (Turn_yes 0 w (by omega))
  have e0 : turnV 0 = .agg #[.int .i64 512, .int .i64 1023] := by unfold turnV; rw [show turnP 0 = 512 by decide, show turnU 0 = 1023 by decide]
  rw [e0] at hT
  clear e0
  go_enter Tryd.func7, Tryd.ntmps7
  go_wp2_with fail
  refine hT.out.mono ?_
  rintro e w1 ⟨rfl, ho1⟩
  have HO := Lib.hid ho1
  clear ho1
  go_wp2
  go_ret
  exact ⟨rfl, HO.out.alloc' _⟩
end Go.Proofs.YtfgmfbafiailoaaDoor
