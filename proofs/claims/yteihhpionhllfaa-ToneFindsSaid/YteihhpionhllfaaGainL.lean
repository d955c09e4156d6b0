/- Package gain's contracts. -/
import Derived.Test.YteihhpionhllfaaArrI
import Derived.Test.YteihhpionhllfaaNumL
namespace Go.Proofs.Yteihhpionhllfaa
set_option linter.unusedVariables false
open Go.RowKit

/-- The greatest gain by which p doesn't pass t. -/
def mostI (p t : Int) : Int := if p = 0 ∨ t / 2 < p then 0 else if t / 4 < p then 1 else if t / 8 < p then 2 else 3
theorem mostI_bd (p t : Int) : 0 ≤ mostI p t ∧ mostI p t ≤ 3 := by unfold mostI; split <;> (try split) <;> (try split) <;> omega
/-- Numbers of a part of a block, and all gains of a block. -/
def part (f : Nat → Int) (a n : Nat) : List Int := (List.range n).map fun i => f (a + i)
def gainOf (f : Nat → Int) : Nat → Int := fun k => mostI (peakL (part f (4 * k) 4)) (peakL (part f 0 16))
theorem part_len (f : Nat → Int) (a n : Nat) : (part f a n).length = n := by simp [part]
theorem part_getD (f : Nat → Int) (a n i : Nat) (h : i < n) : (part f a n).getD i 0 = f (a + i) := by simp [part, List.getD, h]
theorem part_in {f : Nat → Int} (h : Fits64 f) (a n : Nat) : ∀ x ∈ part f a n, In64 x := by
  intro x hx
  simp only [part, List.mem_map] at hx
  obtain ⟨i, _, rfl⟩ := hx
  exact h (a + i)
/-- A part of a block's cells reads as a list. -/
theorem part_SlI {W : World} {b : Nat} {t : TypeId} {f : Nat → Int} (h : W.heap[b]? = some (.cells (rowN 16 (blk f)) t (0, 0))) (a n cap : Nat) (hn : a + n ≤ 16) (hc : n ≤ cap) (hm : cap ≤ 16) : SlI W .i64 (.slice (some ⟨b, a, none⟩) n cap) (part f a n) := by
  refine ⟨_, cap, by rw [part_len], fun _ => ⟨b, a, rfl, lt_of_block h, by rw [part_len]; exact hc, by unfold maxLen; omega, fun i hi => ?_⟩⟩
  rw [part_len] at hi
  rw [part_getD _ _ _ _ hi]
  exact (cell_of_row _ _ _ _ _ _ h).trans (blk_at 16 f (a + i) (by omega))

end Go.Proofs.Yteihhpionhllfaa
