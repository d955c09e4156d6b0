/- Arrays by value: a block whose cells are told by a function of the place, and a function's table that is filled in a block of its own and handed back. No program. -/
import Derived.Test.YtgdlinfgcfjciaaSmall
namespace Go.Proofs.Ytgdlinfgcfjciaa
set_option linter.unusedVariables false
set_option maxRecDepth 100000
open Go.RowKit

/-- The cells of an array. Never unfolded in a walk. -/
def rowN (n : Nat) (f : Nat → Value) : Array Value := ((List.range n).map f).toArray
def updN (f : Nat → Value) (j : Nat) (v : Value) : Nat → Value := fun k => if k = j then v else f k
theorem rowN_size (n : Nat) (f : Nat → Value) : (rowN n f).size = n := by simp [rowN]
theorem rowN_at (n : Nat) (f : Nat → Value) (k : Nat) (h : k < n) : (rowN n f)[k]? = some (f k) := by simp [rowN, h]
theorem rowN_one (n : Nat) (f : Nat → Value) (h : ∀ k, k < n → (f k).oneCell' = true) : (rowN n f).all (·.oneCell') = true := by
  simp only [rowN, List.all_toArray, List.all_map, List.all_eq_true, List.mem_range, Function.comp]
  exact h
theorem rowN_set (n : Nat) (f : Nat → Value) (j : Nat) (v : Value) (hj : j < n) : (rowN n f).setIfInBounds j v = rowN n (updN f j v) := by
  apply Array.ext_getElem?
  intro i
  rw [Array.getElem?_setIfInBounds]
  by_cases hi : i < n
  · rw [rowN_at _ _ i hi, rowN_size]
    by_cases h : j = i
    · subst h; rw [if_pos rfl, if_pos hj, rowN_at _ _ _ hi]; simp [updN]
    · rw [if_neg h, rowN_at _ _ i hi]; simp [updN, show ¬ i = j from fun e => h e.symm]
  · have h1 : (rowN n (updN f j v))[i]? = none := by rw [Array.getElem?_eq_none (by rw [rowN_size]; omega)]
    have h2 : (rowN n f)[i]? = none := by rw [Array.getElem?_eq_none (by rw [rowN_size]; omega)]
    rw [h1, h2, rowN_size, if_neg (by omega)]
theorem rowN_ext (n : Nat) (f g : Nat → Value) (h : ∀ k, k < n → f k = g k) : rowN n f = rowN n g := by
  unfold rowN
  congr 1
  apply List.map_congr_left
  intro k hk
  rw [h k (List.mem_range.1 hk)]

theorem cell_new (w : World) (n : Nat) (t : TypeId) (f : Nat → Value) (k : Nat) (h : k < n) : (w.alloc (.cells (rowN n f) t)).cell? ⟨w.heap.size, k, none⟩ = some (f k) :=
  (cell_of_row _ _ _ _ _ _ (heap_alloc_new _ _)).trans (rowN_at n f k h)
/-- Block b holds these cells and is no part of w; all that w had is as it was. -/
structure Tab (w : World) (b n : Nat) (t : TypeId) (f : Nat → Value) (wr : World) : Prop where
  blk : wr.heap[b]? = some (.cells (rowN n f) t (0, 0))
  new : w.heap.size ≤ b
  old : Old w wr
namespace Tab
variable {w wr w' : World} {b n : Nat} {t : TypeId} {f : Nat → Value}
theorem fresh (w : World) (n : Nat) (t : TypeId) (f : Nat → Value) : Tab w w.heap.size n t f (w.alloc (.cells (rowN n f) t)) := ⟨heap_alloc_new _ _, Nat.le_refl _, Old.alloc _ _⟩
theorem set (h : Tab w b n t f wr) (j : Nat) (v : Value) (hj : j < n) : Tab w b n t (updN f j v) (wr.setCell ⟨b, j, none⟩ v) := by
  have hn := h.new
  refine ⟨?_, h.new, h.old.after (Kept.setCell (X := fun k => k < w.heap.size) _ (a := ⟨b, j, none⟩) (by show ¬ b < w.heap.size; omega) _) fun _ hk => hk⟩
  rw [← rowN_set n f j v hj]; exact heap_setCell_same _ _ _ _ _ _ h.blk
theorem drew (h : Tab w b n t f wr) : Tab w b n t f wr.drew := ⟨h.blk, h.new, h.old.drew⟩
theorem keep (h : Tab w b n t f wr) (k : Old wr w') : Tab w b n t f w' := ⟨(k.block b (lt_of_block h.blk)).trans h.blk, h.new, h.old.trans k⟩
theorem cell (h : Tab w b n t f wr) (j : Nat) (hj : j < n) : wr.cell? ⟨b, j, none⟩ = some (f j) ∧ wr.frozen? ⟨b, j, none⟩ = false :=
  ⟨(cell_of_row _ _ _ _ _ _ h.blk).trans (rowN_at n f j hj), frozen_of_row _ _ _ _ _ h.blk⟩
/-- Another block is written. -/
theorem other (h : Tab w b n t f wr) {a : Addr} (ha : b ≠ a.block) (hw : ¬ a.block < w.heap.size) (v : Value) : Tab w b n t f (wr.setCell a v) :=
  ⟨(heap_setCell_other _ _ _ _ ha).trans h.blk, h.new, h.old.after (Kept.setCell (X := fun k => k < w.heap.size) _ hw _) fun _ hk => hk⟩
/-- A result's block and a table's, both new. -/
theorem two (w : World) (n : Nat) (t : TypeId) (f : Nat → Value) : Tab w (w.heap.size + 1) n t f ((w.alloc (.cells (rowN n f) t)).alloc (.cells (rowN n f) t)) ∧ Tab w w.heap.size n t f ((w.alloc (.cells (rowN n f) t)).alloc (.cells (rowN n f) t)) :=
  ⟨⟨heap_alloc2_new w _ _, by omega, (Old.alloc _ _).alloc' _⟩, ⟨heap_alloc2_old w _ _, Nat.le_refl _, (Old.alloc _ _).alloc' _⟩⟩
/-- The whole block is overwritten. -/
theorem row (h : Tab w b n t f wr) (g : Nat → Value) : Tab w b n t g (wr.setRow b (rowN n g)) := by
  have hn := h.new
  exact ⟨setRow_heap _ _ _ _ _ _ h.blk, h.new, h.old.after (X := fun k => k < w.heap.size) ⟨rfl, rfl, by simp, fun k hk => setRow_other _ _ _ _ (by omega)⟩ fun _ h => h⟩
end Tab
end Go.Proofs.Ytgdlinfgcfjciaa
