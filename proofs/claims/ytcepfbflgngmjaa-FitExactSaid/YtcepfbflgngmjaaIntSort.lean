/- slices.Sort at []int, of a row told by its cells. -/
import Derived.Test.YtcepfbflgngmjaaShelf
import Derived.Test.YtcepfbflgngmjaaSortP
namespace Go.Proofs.Ytcepfbflgngmjaa
set_option linter.unusedVariables false
set_option maxRecDepth 100000
open Go.RowKit Go.ChangeShapes Go.WideShapes Go.Sort

def listF (F : Nat → Int) (n : Nat) : List Int := (List.range n).map F
theorem listF_len (F : Nat → Int) (n : Nat) : (listF F n).length = n := by simp [listF]
theorem listF_at (F : Nat → Int) (n j : Nat) (h : j < n) : (listF F n)[j]? = some (F j) := by simp [listF, h]
theorem mem_listF {F : Nat → Int} {n : Nat} {x : Int} : x ∈ listF F n ↔ ∃ k, k < n ∧ F k = x := by simp [listF]
theorem kept_grow {w : World} {g m : Nat} {d : Array Int} {os : Array Obj} : Kept (butOf w g) w (grow (putRow (Value.int .i64) (Sort.ahead w m) g 0 d) os) := by
  refine ⟨rfl, rfl, by simp, fun k hk => ?_⟩
  rw [heap_grow_old _ _ (by rw [size_putRow]; exact hk.1)]
  have hne : k ≠ g := hk.2
  show ((Sort.ahead w m).heap.modify g _)[k]? = _
  rw [Array.getElem?_modify, if_neg (Ne.symm hne)]
  rfl
theorem cells_grow {w : World} {g n m : Nat} {F : Nat → Int} {d : Array Int} {os : Array Obj} (h : CellsAt w g n F) (hd : d.size = n) : CellsAt (grow (putRow (Value.int .i64) (Sort.ahead w m) g 0 d) os) g n (fun j => d.toList.getD j 0) := by
  have hH : Holds (Value.int .i64) (Sort.ahead w m) g 0 (listF F n).toArray := fun j hj => by
    have hj' : j < n := by simpa [listF] using hj
    refine ⟨?_, by rw [Nat.zero_add]; exact h.frz j hj'⟩
    rw [Nat.zero_add, cell?_ahead, h.cell j hj', getElem!_pos _ j hj]
    congr 2
    simp [listF]
  have hs : d.size = (listF F n).toArray.size := by simp [listF, hd]
  refine ⟨by have := h.lt; simp; omega, fun j hj => ?_, fun j hj => ?_⟩
  · rw [cell?_grow _ _ _ (by simpa using h.lt)]
    have := (holds_putRow (Value.int .i64) (Sort.ahead w m) g 0 _ d hH hs j (by omega)).1
    rw [Nat.zero_add] at this
    rw [this, getElem!_pos d j (by omega)]
    congr 2
    simp [List.getD, show j < d.size by omega]
  · rw [frozen?_grow _ _ _ (by simpa using h.lt), frozen?_putRow]
    exact h.frz j hj
theorem SortInts_any (g n cap : Nat) (F : Nat → Int) (w : World) (h : CellsAt w g n F) (hn : n < 4611686018427387904) :
    Calls Try.prog 51 #[.slice (some ⟨g, 0, none⟩) n cap] w fun e w' => e = .returned (.tuple #[]) ∧ Kept (butOf w g) w w' ∧ ∃ zs : List Int, zs.Perm (listF F n) ∧ zs.Pairwise (· ≤ ·) ∧ CellsAt w' g n (fun j => zs.getD j 0) := by
  have hH : Holds (Value.int .i64) w g 0 (listF F n).toArray := fun j hj => by
    have hj' : j < n := by simpa [listF] using hj
    refine ⟨?_, by rw [Nat.zero_add]; exact h.frz j hj'⟩
    rw [Nat.zero_add, h.cell j hj', getElem!_pos _ j hj]
    congr 2
    simp [listF]
  have hc := Try.slices_Sort_int g 0 cap (listF F n) w hH h.lt (by rw [listF_len]; exact hn)
  rw [listF_len] at hc
  refine hc.mono ?_
  rintro e w' ⟨rfl, m, os, rfl⟩
  have hp := List.mergeSort_perm (listF F n) (fun x y => decide (x ≤ y))
  have hsz : ((listF F n).mergeSort fun x y => decide (x ≤ y)).toArray.size = n := by
    show ((listF F n).mergeSort fun x y => decide (x ≤ y)).length = n
    rw [hp.length_eq, listF_len]
  refine ⟨rfl, kept_grow, _, hp, ?_, cells_grow h hsz⟩
  have := List.pairwise_mergeSort (le := fun x y => decide (x ≤ y)) (fun a b c h1 h2 => by simp at *; omega) (fun a b => by simp; omega) (listF F n)
  exact this.imp (by intro a b h; simpa using h)
end Go.Proofs.Ytcepfbflgngmjaa
