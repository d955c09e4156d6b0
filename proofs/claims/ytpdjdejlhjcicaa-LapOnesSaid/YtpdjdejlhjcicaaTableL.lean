/- Contracts of package table (Turn, Turns), as far as the seat has them. -/
import Derived.Test.YtpdjdejlhjcicaaArr
namespace Go.Proofs.Ytpdjdejlhjcicaa
set_option linter.unusedVariables false
open Go.RowKit

def turnP (k : Nat) : Int := 512 * (2 * k + 1)
def turnD (k : Nat) : Int := 1024 + (2 * k + 1) * (2 * k + 1)
def turnU (k : Nat) : Int := ((2 * k + 1) * 1048576 + turnD k / 2) / turnD k
def turnV (k : Nat) : Value := .agg #[.int .i64 (turnP k), .int .i64 (turnU k)]

def turnC (k : Nat) : Int := if k % 2 = 0 then turnP (k / 2) else turnU (k / 2)
def turnF (n : Nat) : Nat → Value := fun k => .int .i64 (if k < n * 2 then turnC k else 0)
theorem turnF_upd (n : Nat) (hn : n < 8) : rowN 16 (updN (updN (turnF n) (n * 2) (.int .i64 (turnP n))) (n * 2 + 1) (.int .i64 (turnU n))) = rowN 16 (turnF (n + 1)) := by
  apply rowN_ext
  intro k hk
  unfold updN turnF
  by_cases h : k = n * 2 + 1
  · subst h
    rw [if_pos rfl, if_pos (by omega)]
    unfold turnC
    rw [if_neg (by omega), show (n * 2 + 1) / 2 = n by omega]
  · rw [if_neg h]
    by_cases h1 : k = n * 2
    · subst h1
      rw [if_pos rfl, if_pos (by omega)]
      unfold turnC
      rw [if_pos (by omega), show n * 2 / 2 = n by omega]
    · rw [if_neg h1]
      by_cases h2 : k < n * 2
      · rw [if_pos h2, if_pos (by omega)]
      · rw [if_neg h2, if_neg (by omega)]

theorem turn_bds (k : Nat) (h : k < 8) : 0 ≤ turnP k ∧ turnP k ≤ 8192 ∧ 0 ≤ turnU k ∧ turnU k ≤ 16384 := by
  revert k
  decide
theorem Turn_no (k : Int) (w : World) (h : k < 0 ∨ 7 < k) :
    Calls Try.prog 29 #[.int .i64 k] w fun e w' => e = .returned (.agg #[.int .i64 0, .int .i64 0]) ∧ Old w w' := by
  rcases h with h | h
  · go_enter Try.func29, Try.ntmps29
    go_wp2
    refine bodyPost_ret (results_cell_row rfl _ _ w.heap.size 44 _ (0, 0) _ rfl (heap_alloc_new _ _) Try.underlying44 rfl (by kernel_rfl)) rfl ⟨rfl, Old.alloc _ _⟩
  · have h0 : 0 ≤ k := by omega
    have h1 : 8 ≤ k := by omega
    clear h
    go_enter Try.func29, Try.ntmps29
    go_wp2
    refine bodyPost_ret (results_cell_row rfl _ _ w.heap.size 44 _ (0, 0) _ rfl (heap_alloc_new _ _) Try.underlying44 rfl (by kernel_rfl)) rfl ⟨rfl, Old.alloc _ _⟩

theorem Turn_yes (k : Nat) (w : World) (h : k ≤ 7) :
    Calls Try.prog 29 #[.int .i64 k] w fun e w' => e = .returned (turnV k) ∧ Old w w' := by
  have i1 : 0 ≤ (k : Int) := by omega
  have i2 : (k : Int) < 8 := by omega
  unfold turnV turnP turnU turnD
  have m1 : 1 ≤ 2 * (k : Int) + 1 := by omega
  have m2 : 2 * (k : Int) + 1 ≤ 15 := by omega
  have hq0 : 0 ≤ (2 * (k : Int) + 1) * (2 * (k : Int) + 1) := Int.mul_nonneg (by omega) (by omega)
  have hq1 : (2 * (k : Int) + 1) * (2 * (k : Int) + 1) ≤ 225 := by have := Int.mul_le_mul m2 m2 (by omega) (by omega); omega
  generalize hq : (2 * (k : Int) + 1) * (2 * (k : Int) + 1) = q at *
  have hd2 : (1024 + q).tdiv 2 = (1024 + q) / 2 := tdiv_pos _ _ (by omega)
  have hd3 : ((2 * (k : Int) + 1) * 1048576 + (1024 + q) / 2).tdiv (1024 + q) = ((2 * (k : Int) + 1) * 1048576 + (1024 + q) / 2) / (1024 + q) := tdiv_pos _ _ (by omega)
  have u1 : 0 ≤ ((2 * (k : Int) + 1) * 1048576 + (1024 + q) / 2) / (1024 + q) := Int.ediv_nonneg (by omega) (by omega)
  have u2 : ((2 * (k : Int) + 1) * 1048576 + (1024 + q) / 2) / (1024 + q) ≤ 20000000 := by
    have := Int.ediv_le_self (1024 + q) (show 0 ≤ (2 * (k : Int) + 1) * 1048576 + (1024 + q) / 2 by omega)
    omega
  go_enter Try.func29, Try.ntmps29
  go_wp2
  refine bodyPost_ret (results_cell_row rfl _ _ w.heap.size 44 _ (0, 0) _ rfl (heap_alloc_new _ _) Try.underlying44 rfl (by kernel_rfl)) rfl ⟨rfl, Old.alloc _ _⟩

/-! Two turns that are the same. -/
theorem turn_fields : (Try.prog.fieldsOf 44).toList = [{ name := "P", type := 2, offset := 0, embedded := false, tag := "", pkgPath := "", byteOffset := 0 }, { name := "U", type := 2, offset := 1, embedded := false, tag := "", pkgPath := "", byteOffset := 8 }] := by kernel_rfl
theorem int64_size : (Try.prog.info? 2).map (·.size) = some 1 := by kernel_rfl
theorem eq_turn (w : World) (p u : Int) : (binOp .eql 44 (.agg #[.int .i64 p, .int .i64 u]) (.agg #[.int .i64 p, .int .i64 u])).run Try.prog w = .ok (.bool true) w := by
  rw [run_eql_struct, run_equalIn_agg w 9999 44 _ _ (by kernel_rfl) (by kernel_rfl), turn_fields]
  have h := fun (w : World) (a b : Int) => run_equalIn_int (P := Try.prog) w 9998 2 .i64 .i64 a b Try.underlying2
  simp [Op.eqFields, part, isAgg, run_underlying Try.underlying2, h, sizeOf]

theorem turns_start (w : World) : Hid (Tab w (w.heap.size + 1) 16 45 (turnF 0) ((w.alloc (.cells (rowN 16 (turnF 0)) 45)).alloc (.cells (rowN 16 (turnF 0)) 45)) ∧ Tab w w.heap.size 16 45 (turnF 0) ((w.alloc (.cells (rowN 16 (turnF 0)) 45)).alloc (.cells (rowN 16 (turnF 0)) 45))) := Lib.hid (Tab.two _ _ _ _)

set_option maxRecDepth 100000 in
theorem Turns_any (w : World) :
    Calls Try.prog 30 #[] w fun e w' => e = .returned (.agg (rowN 16 (turnF 8))) ∧ Old w w' := by
  have hst := turns_start w
  go_enter Try.func30, Try.ntmps30
  go_wp2
  go_loopw [3] (fun i wr => ∃ k : Nat, k ≤ 8 ∧ i = .int .i64 k ∧ Hid (Tab w (w.heap.size + 1) 16 45 (turnF k) wr ∧ Tab w w.heap.size 16 45 (turnF 0) wr)) (fun i _ => 8 - (intOf i).toNat)
  case atStart => exact ⟨0, by omega, rfl, hst⟩
  case round =>
    obtain ⟨k, hk, rfl, ht⟩ := hrel
    by_cases hlt : k < 8
    · have i1 : 0 ≤ (k : Int) := by omega
      have i2 : (k : Int) < 8 := by omega
      have hT := Lib.hid (Turn_yes k wr (by omega))
      clear hst
      go_wp2_with fail
      refine hT.out.mono ?_
      rintro e w1 ⟨rfl, ho⟩
      have ht1 := ht.out.1.keep ho
      have ht2 := ht.out.2.keep ho
      have hb := ht1.new
      obtain ⟨hc, hf⟩ := ht1.cell (k * 2) (by omega)
      obtain ⟨hc1, hf1⟩ := (ht1.set (k * 2) (.int .i64 (turnP k)) (by omega)).cell (k * 2 + 1) (by omega)
      have hnx : Hid (Tab w (w.heap.size + 1) 16 45 (turnF (k + 1)) ((w1.setCell ⟨w.heap.size + 1, k * 2, none⟩ (.int .i64 (turnP k))).setCell ⟨w.heap.size + 1, k * 2 + 1, none⟩ (.int .i64 (turnU k))) ∧ Tab w w.heap.size 16 45 (turnF 0) ((w1.setCell ⟨w.heap.size + 1, k * 2, none⟩ (.int .i64 (turnP k))).setCell ⟨w.heap.size + 1, k * 2 + 1, none⟩ (.int .i64 (turnU k)))) := by
        refine ⟨?_, (ht2.other (a := ⟨w.heap.size + 1, k * 2, none⟩) (by simp) (by simp) _).other (a := ⟨w.heap.size + 1, k * 2 + 1, none⟩) (by simp) (by simp) _⟩
        have h := (ht1.set (k * 2) (.int .i64 (turnP k)) (by omega)).set (k * 2 + 1) (.int .i64 (turnU k)) (by omega)
        exact ⟨by rw [← turnF_upd k hlt]; exact h.blk, h.new, h.old⟩
      clear ht ht1 ht2 ho
      unfold turnV
      go_wp2
      go_roundw
      case rel => exact ⟨k + 1, by omega, by go_num, hnx⟩
      case measure => simp [intOf]; omega
    · obtain rfl : k = 8 := by omega
      have hfin : Hid (Tab w w.heap.size 16 45 (turnF 8) (wr.setRow w.heap.size (rowN 16 (turnF 8)))) := ht.out.2.row _
      have Hb := Lib.hid ht.out.1.blk
      have Hr := Lib.hid ht.out.2.blk
      have Hz : Hid ((Try.prog.info? 45).map (·.size) = some 16) := Lib.hid (by kernel_rfl)
      have H1 : Hid ((rowN 16 (turnF 8)).all (·.oneCell') = true) := Lib.hid (rowN_one _ _ fun _ _ => rfl)
      clear hst ht
      go_wp2_with (first | (with_reducible refine wpList_load_row rfl 45 _ rfl (w.heap.size + 1) rfl 45 (rowN 16 (turnF 8)) (0, 0) _ Hb.out Try.underlying45 rfl (by rw [rowN_size]; exact Hz.out) ?_) | (with_reducible refine wpList_store_row rfl 45 _ _ rfl w.heap.size (rowN 16 (turnF 8)) rfl rfl 45 _ Hr.out (by rw [rowN_size]; exact Hz.out) (by rw [rowN_size, rowN_size]) H1.out ?_))
      refine bodyPost_ret (results_cell_row rfl _ _ w.heap.size 45 (rowN 16 (turnF 8)) (0, 0) _ rfl hfin.out.blk Try.underlying45 rfl (by rw [rowN_size]; exact Hz.out)) rfl ⟨rfl, hfin.out.old⟩
end Go.Proofs.Ytpdjdejlhjcicaa
