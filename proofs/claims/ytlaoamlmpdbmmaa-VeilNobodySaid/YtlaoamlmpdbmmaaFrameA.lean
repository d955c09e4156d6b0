/- Frames by value: their cells, and which may be. No program. -/
import Derived.Test.YtlaoamlmpdbmmaaPadL
import Derived.Test.YtlaoamlmpdbmmaaRowK
import Derived.Test.YtlaoamlmpdbmmaaRowsB
import Derived.Test.YtlaoamlmpdbmmaaQuantM
namespace Go.Proofs.Ytlaoamlmpdbmmaa
set_option linter.unusedVariables false
set_option maxRecDepth 100000
open Go.RowKit Go.ChangeShapes Go.WideShapes

/-- A frame's cells: gains from 0 on, the tones at 4, scales from 5 on, widths from 9 on, steps from 13 on. -/
def frC (F : Nat → Int) (s : Value) : Nat → Value := fun k => if k = 4 then s else .int .i64 (F k)
theorem frC_set (F : Nat → Int) (s s' : Value) : updN (frC F s) 4 s' = frC F s' := by
  funext k
  unfold updN frC
  split <;> rfl
theorem frC_upd (F : Nat → Int) (s : Value) (j : Nat) (hj : j ≠ 4) (v : Int) : updN (frC F s) j (.int .i64 v) = frC (fun k => if k = j then v else F k) s := by
  funext k
  unfold updN frC
  by_cases h : k = j
  · subst h; simp [hj]
  · simp [h]
theorem frC_one (F : Nat → Int) (s : Value) (h : s.oneCell' = true) : (rowN 29 (frC F s)).all (·.oneCell') = true := rowN_one _ _ fun k _ => by
  unfold frC
  split
  · exact h
  · rfl
theorem frC_ext {F G : Nat → Int} (s : Value) (h : ∀ k, k < 29 → k ≠ 4 → F k = G k) : rowN 29 (frC F s) = rowN 29 (frC G s) := rowN_ext _ _ _ fun k hk => by
  unfold frC
  split
  · rfl
  · next h4 => rw [h k hk h4]
/-- A frame of noughts. -/
theorem frC_zero : rowN 29 (frC (fun _ => 0) (.slice none 0 0)) = #[.int .i64 0, .int .i64 0, .int .i64 0, .int .i64 0, .slice none 0 0, .int .i64 0, .int .i64 0, .int .i64 0, .int .i64 0, .int .i64 0, .int .i64 0, .int .i64 0, .int .i64 0, .int .i64 0, .int .i64 0, .int .i64 0, .int .i64 0, .int .i64 0, .int .i64 0, .int .i64 0, .int .i64 0, .int .i64 0, .int .i64 0, .int .i64 0, .int .i64 0, .int .i64 0, .int .i64 0, .int .i64 0, .int .i64 0] := rfl
/-- Block b is a frame's. -/
def FrB (t : TypeId) (w : World) (b : Nat) (F : Nat → Int) (s : Value) : Prop := w.heap[b]? = some (.cells (rowN 29 (frC F s)) t (0, 0))
namespace FrB
variable {t : TypeId} {w w' : World} {b : Nat} {F : Nat → Int} {s : Value} {X : Nat → Prop}
theorem new (w : World) (F : Nat → Int) (s : Value) : FrB t (w.alloc (.cells (rowN 29 (frC F s)) t)) w.heap.size F s := heap_alloc_new _ _
theorem old (h : FrB t w b F s) (k : Old w w') : FrB t w' b F s := (k.block b (lt_of_block h)).trans h
theorem kept (h : FrB t w b F s) (k : Kept X w w') (hX : X b) : FrB t w' b F s := (k.block b hX).trans h
theorem cell4 (h : FrB t w b F s) : w.cell? ⟨b, 4, none⟩ = some s ∧ w.frozen? ⟨b, 4, none⟩ = false :=
  ⟨(cell_of_row _ _ _ _ _ _ h).trans (rowN_at 29 (frC F s) 4 (by omega)), frozen_of_row _ _ _ _ _ h⟩
theorem cell (h : FrB t w b F s) (j : Nat) (hj : j < 29) (h4 : j ≠ 4) : w.cell? ⟨b, j, none⟩ = some (.int .i64 (F j)) ∧ w.frozen? ⟨b, j, none⟩ = false :=
  ⟨by rw [(cell_of_row _ _ _ _ _ _ h).trans (rowN_at 29 (frC F s) j hj)]; unfold frC; rw [if_neg h4], frozen_of_row _ _ _ _ _ h⟩
theorem part (h : FrB t w b F s) (o n : Nat) (ho : o + n ≤ 4 ∨ (4 < o ∧ o + n ≤ 29)) : ∀ j, j < n → w.cell? ⟨b, o + j, none⟩ = some (.int .i64 (F (o + j))) := fun j hj => (h.cell (o + j) (by omega) (by omega)).1
theorem set4 (h : FrB t w b F s) (s' : Value) : FrB t (w.setCell ⟨b, 4, none⟩ s') b F s' := by
  unfold FrB
  rw [← frC_set F s s', ← rowN_set 29 _ 4 _ (by omega)]
  exact heap_setCell_same _ _ _ _ _ _ h
theorem set (h : FrB t w b F s) (j : Nat) (hj : j < 29) (h4 : j ≠ 4) (v : Int) : FrB t (w.setCell ⟨b, j, none⟩ (.int .i64 v)) b (fun k => if k = j then v else F k) s := by
  unfold FrB
  rw [← frC_upd F s j h4 v, ← rowN_set 29 _ j _ hj]
  exact heap_setCell_same _ _ _ _ _ _ h
end FrB

/-- Which frames may be: F its numbers, n tones T. -/
structure FrP (F : Nat → Int) (n : Nat) (T : Nat → Int) : Prop where
  hg : ∀ k, k < 4 → 0 ≤ F k ∧ F k ≤ 3
  hs : ∀ k, k < 4 → 0 ≤ F (5 + k) ∧ F (5 + k) ≤ 23
  hw : ∀ k, k < 4 → 0 ≤ F (9 + k) ∧ F (9 + k) ≤ 24
  hq : ∀ k, k < 16 → fitB (F (13 + k)) (F (9 + k / 4)) = true
  hn : n ≤ 2
  ht : ∀ k, k < n → 0 ≤ T (2 * k) ∧ T (2 * k) ≤ 15 ∧ fitB (T (2 * k + 1)) 24 = true ∧ (0 < k → T (2 * (k - 1)) < T (2 * k))
theorem frP_iff (F : Nat → Int) (n : Nat) (T : Nat → Int) : FrP F n T ↔ ((∀ k, k < 4 → 0 ≤ F k ∧ F k ≤ 3) ∧ (∀ k, k < 4 → 0 ≤ F (5 + k) ∧ F (5 + k) ≤ 23) ∧ (∀ k, k < 4 → 0 ≤ F (9 + k) ∧ F (9 + k) ≤ 24) ∧ (∀ k, k < 16 → fitB (F (13 + k)) (F (9 + k / 4)) = true) ∧ n ≤ 2 ∧
    (∀ k, k < n → 0 ≤ T (2 * k) ∧ T (2 * k) ≤ 15 ∧ fitB (T (2 * k + 1)) 24 = true ∧ (0 < k → T (2 * (k - 1)) < T (2 * k)))) :=
  ⟨fun h => ⟨h.hg, h.hs, h.hw, h.hq, h.hn, h.ht⟩, fun ⟨a, b, c, d, e, f⟩ => ⟨a, b, c, d, e, f⟩⟩
instance (F : Nat → Int) (n : Nat) (T : Nat → Int) : Decidable (FrP F n T) := decidable_of_iff' _ (frP_iff F n T)
/-- Whether two frames are one. -/
def sameP (F : Nat → Int) (n : Nat) (T : Nat → Int) (G : Nat → Int) (m : Nat) (U : Nat → Int) : Prop := n = m ∧ (∀ j, j < 2 * n → T j = U j) ∧ ∀ k, k < 29 → k ≠ 4 → F k = G k
instance (F : Nat → Int) (n : Nat) (T : Nat → Int) (G : Nat → Int) (m : Nat) (U : Nat → Int) : Decidable (sameP F n T G m U) := by unfold sameP; infer_instance
end Go.Proofs.Ytlaoamlmpdbmmaa
