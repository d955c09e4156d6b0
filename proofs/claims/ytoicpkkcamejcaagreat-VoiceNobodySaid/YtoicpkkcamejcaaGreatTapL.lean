/- Contract of table.Taps: the taps of any number, as a function of their place. -/
import Derived.Test.YtoicpkkcamejcaaGreatArrI
namespace Go.Proofs.YtoicpkkcamejcaaGreat
set_option linter.unusedVariables false
open Go.RowKit Go.ChangeShapes Go.WideShapes

def tap0 (q : Nat) : Int := -(q * q * q) + 64 * (q * q) - 1024 * q
def tap1 (q : Nat) : Int := 3 * (q * q * q) - 160 * (q * q) + 65536
def tap2 (q : Nat) : Int := -3 * (q * q * q) + 128 * (q * q) + 1024 * q
def tap3 (q : Nat) : Int := q * q * q - 32 * (q * q)
theorem Taps_no (k : Int) (w : World) (h : k < 0 ∨ 31 < k) :
    Calls Tryz.prog 29 #[.int .i64 k] w fun e w' => e = .returned (.agg #[.int .i64 0, .int .i64 0, .int .i64 0, .int .i64 0]) ∧ Old w w' := by
  rcases h with h | h
  · go_enter Tryz.func29, Tryz.ntmps29
    go_wp2
    refine bodyPost_ret (results_cell_row rfl _ _ w.heap.size 88 _ (0, 0) _ rfl (heap_alloc_new _ _) Tryz.underlying88 rfl (by kernel_rfl)) rfl ⟨rfl, Old.alloc _ _⟩
  · have h0 : 0 ≤ k := by omega
    have h1 : 32 ≤ k := by omega
    clear h
    go_enter Tryz.func29, Tryz.ntmps29
    go_wp2
    refine bodyPost_ret (results_cell_row rfl _ _ w.heap.size 88 _ (0, 0) _ rfl (heap_alloc_new _ _) Tryz.underlying88 rfl (by kernel_rfl)) rfl ⟨rfl, Old.alloc _ _⟩
theorem sq_bd (q : Nat) (h : q ≤ 31) : 0 ≤ (q : Int) * q ∧ (q : Int) * q ≤ 961 ∧ 0 ≤ (q : Int) * q * q ∧ (q : Int) * q * q ≤ 29791 := by
  have h1 : q * q ≤ 31 * 31 := Nat.mul_le_mul h h
  have h2 : q * q * q ≤ 961 * 31 := Nat.mul_le_mul h1 h
  have e1 : (q : Int) * q = ((q * q : Nat) : Int) := by simp
  have e2 : (q : Int) * q * q = ((q * q * q : Nat) : Int) := by simp
  rw [e2, e1]
  omega
theorem Taps_yes (k : Nat) (w : World) (h : k ≤ 31) :
    Calls Tryz.prog 29 #[.int .i64 k] w fun e w' => e = .returned (.agg #[.int .i64 (tap0 k), .int .i64 (tap1 k), .int .i64 (tap2 k), .int .i64 (tap3 k)]) ∧ Old w w' := by
  have i1 : 0 ≤ (k : Int) := by omega
  have i2 : (k : Int) < 32 := by omega
  unfold tap0 tap1 tap2 tap3
  obtain ⟨s1, s2, c1, c2⟩ := sq_bd k h
  generalize hc : (k : Int) * k * k = c at *
  generalize hs : (k : Int) * k = s at *
  go_enter Tryz.func29, Tryz.ntmps29
  go_wp2
  refine bodyPost_ret (results_cell_row rfl _ _ w.heap.size 88 _ (0, 0) _ rfl (heap_alloc_new _ _) Tryz.underlying88 rfl (by kernel_rfl)) rfl ⟨rfl, Old.alloc _ _⟩
/-- The taps of a phase; none of others than 0 to 31. -/
def tapI (q : Int) (k : Nat) : Int := if 0 ≤ q ∧ q ≤ 31 then (if k = 0 then tap0 q.toNat else if k = 1 then tap1 q.toNat else if k = 2 then tap2 q.toNat else if k = 3 then tap3 q.toNat else 0) else 0
theorem tapI_bd (q : Int) (k : Nat) : -262144 ≤ tapI q k ∧ tapI q k ≤ 262144 := by
  unfold tapI
  split
  · rename_i h
    obtain ⟨s1, s2, c1, c2⟩ := sq_bd q.toNat (by omega)
    unfold tap0 tap1 tap2 tap3
    generalize (q.toNat : Int) * q.toNat * q.toNat = c at *
    generalize (q.toNat : Int) * q.toNat = s at *
    repeat' split
    all_goals omega
  · omega
theorem Taps_any (q : Int) (w : World) :
    Calls Tryz.prog 29 #[.int .i64 q] w fun e w' => e = .returned (.agg (rowN 4 (blk (tapI q)))) ∧ Old w w' := by
  by_cases h : 0 ≤ q ∧ q ≤ 31
  · have e : (.agg (rowN 4 (blk (tapI q))) : Value) = .agg #[.int .i64 (tap0 q.toNat), .int .i64 (tap1 q.toNat), .int .i64 (tap2 q.toNat), .int .i64 (tap3 q.toNat)] := by
      unfold tapI
      simp only [if_pos h]
      rfl
    rw [e]
    have := Taps_yes q.toNat w (by omega)
    rwa [Int.toNat_of_nonneg h.1] at this
  · have e : (.agg (rowN 4 (blk (tapI q))) : Value) = .agg #[.int .i64 0, .int .i64 0, .int .i64 0, .int .i64 0] := by
      unfold tapI
      simp only [if_neg h]
      rfl
    rw [e]
    exact Taps_no q w (by omega)
end Go.Proofs.YtoicpkkcamejcaaGreat
