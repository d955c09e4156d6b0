/- Cells of whatever one-cell values as a function of the place; a function's first values as a list. No program. -/
import Derived.Test.YtlaoamlmpdbmmaaRowsB
namespace Go.Proofs.Ytlaoamlmpdbmmaa
set_option linter.unusedVariables false
set_option maxRecDepth 100000
open Go.RowKit Go.ChangeShapes Go.WideShapes

/-- Block g holds these m values from its head on, and they may be written. -/
structure CellsV (w : World) (g m : Nat) (C : Nat → Value) : Prop where
  lt : g < w.heap.size
  cell : ∀ j, j < m → w.cell? ⟨g, j, none⟩ = some (C j)
  frz : ∀ j, j < m → w.frozen? ⟨g, j, none⟩ = false
/-- C with n values of c laid over it from o on. -/
def patchV (C : Nat → Value) (o n : Nat) (c : Nat → Value) : Nat → Value := fun j => if o ≤ j ∧ j < o + n then c (j - o) else C j
theorem rowN_list (n : Nat) (c : Nat → Value) : (rowN n c).toList = (List.range n).map c := rfl
theorem rowN_list_at {n : Nat} {c : Nat → Value} {j : Nat} {v : Value} (h : (rowN n c).toList[j]? = some v) : j < n ∧ v = c j := by
  rw [rowN_list] at h
  by_cases hj : j < n
  · simp [hj] at h; exact ⟨hj, h.symm⟩
  · rw [List.getElem?_eq_none (by simp; omega)] at h; cases h
theorem rowN_list_len (n : Nat) (c : Nat → Value) : (rowN n c).toList.length = n := by simp [rowN_list]
namespace CellsV
variable {w w' : World} {g m : Nat} {C : Nat → Value} {Y : Nat → Prop}
theorem kept (h : CellsV w g m C) (k : Kept Y w w') (hY : Y g) : CellsV w' g m C :=
  ⟨Nat.lt_of_lt_of_le h.lt k.size, fun j hj => (k.cell (a := ⟨g, j, none⟩) hY).trans (h.cell j hj), fun j hj => (k.frozen (a := ⟨g, j, none⟩) hY).trans (h.frz j hj)⟩
theorem old (h : CellsV w g m C) (k : Old w w') : CellsV w' g m C := h.kept k h.lt
theorem drew (h : CellsV w g m C) : CellsV w.drew g m C := ⟨h.lt, h.cell, h.frz⟩
theorem drewN (h : CellsV w g m C) (n : Nat) : CellsV (w.drewN n) g m C := ⟨h.lt, h.cell, h.frz⟩
theorem ext {D : Nat → Value} (h : CellsV w g m C) (e : ∀ j, j < m → C j = D j) : CellsV w g m D := ⟨h.lt, fun j hj => by rw [← e j hj]; exact h.cell j hj, h.frz⟩
theorem there (h : CellsV w g m C) (o n : Nat) (hn : o + n ≤ m) : w.there g o n := fun j hj => ⟨by rw [h.cell (o + j) (by omega)]; rfl, h.frz (o + j) (by omega)⟩
theorem setCells (h : CellsV w g m C) (o n : Nat) (hn : o + n ≤ m) (c : Nat → Value) : CellsV (w.setCells g o (rowN n c).toList) g m (patchV C o n c) := by
  refine ⟨by rw [setCells_size]; exact h.lt, fun k hk => ?_, fun k hk => by rw [World.frozen?_setCells]; exact h.frz k hk⟩
  unfold patchV
  by_cases e : o ≤ k ∧ k < o + n
  · rw [if_pos e]
    have h1 := World.cell?_setCells_in g (rowN n c).toList o w (fun i hi => by rw [rowN_list_len] at hi; rw [h.cell (o + i) (by omega)]; rfl) (k - o) (by rw [rowN_list_len]; omega)
    rw [show o + (k - o) = k by omega] at h1
    rw [h1]
    simp [rowN_list]
  · rw [if_neg e, World.cell?_setCells_out g (rowN n c).toList o w ⟨g, k, none⟩ (fun _ _ => by rw [rowN_list_len]; show k < o ∨ o + n ≤ k; omega)]
    exact h.cell k hk
end CellsV
theorem cellsV_of {w : World} {g m : Nat} {C : Nat → Value} {t : TypeId} (h : w.heap[g]? = some (.cells (rowN m C) t (0, 0))) : CellsV w g m C :=
  ⟨lt_of_block h, fun j hj => (cell_of_row _ _ _ _ _ _ h).trans (rowN_at m C j hj), fun j hj => frozen_of_row _ _ _ _ _ h⟩

/-- A function's first values. -/
def lst (F : Nat → Int) (n : Nat) : List Int := (List.range n).map F
theorem lst_len (F : Nat → Int) (n : Nat) : (lst F n).length = n := by simp [lst]
theorem lst_getD (F : Nat → Int) (n j : Nat) (h : j < n) : (lst F n).getD j 0 = F j := by simp [lst, List.getD, h]
theorem lst_ext {F G : Nat → Int} {n : Nat} (h : ∀ j, j < n → F j = G j) : lst F n = lst G n := List.map_congr_left fun k hk => h k (List.mem_range.1 hk)
theorem lst_of (xs : List Int) : xs = lst (fun j => xs.getD j 0) xs.length := by
  apply List.ext_getElem
  · simp [lst_len]
  · intro i h1 h2
    simp [lst, List.getD, h1]
theorem lst_mem {F : Nat → Int} {n : Nat} {p : Int → Prop} (h : ∀ j, j < n → p (F j)) : ∀ x ∈ lst F n, p x := by
  intro x hx
  obtain ⟨j, hj, rfl⟩ := List.mem_map.1 hx
  exact h j (List.mem_range.1 hj)
end Go.Proofs.Ytlaoamlmpdbmmaa
