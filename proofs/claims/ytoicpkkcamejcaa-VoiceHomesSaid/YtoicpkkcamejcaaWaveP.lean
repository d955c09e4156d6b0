/- Names, loops and what may be of a sample. No program. -/
import Derived.Test.YtoicpkkcamejcaaSmall
import Derived.Laws.IdiomStrings
namespace Go.Proofs.Ytoicpkkcamejcaa
set_option linter.unusedVariables false
set_option maxRecDepth 100000
open Go.RowKit

/-- A text's byte, as a number; nought beyond its end. -/
def bsI (s : ByteArray) (i : Nat) : Int := ((s.data.getD i 0).toNat : Int)
theorem bsI_bd (s : ByteArray) (i : Nat) : 0 ≤ bsI s i ∧ bsI s i ≤ 255 := by
  unfold bsI
  have := (s.data.getD i 0).toNat_lt
  omega
theorem bsI_index (s : ByteArray) (i : Nat) (h : i < s.size) : ((s[i]'h).toNat : Int) = bsI s i := by
  unfold bsI
  have e : s.data.getD i 0 = s[i]'h := by
    have h' : i < s.data.size := h
    show s.data.getD i 0 = s.data[i]'h'
    simp [Array.getD, h]
  rw [e]
/-- The bytes that are laid where a text is made a row. -/
theorem bytesRow_at (s : ByteArray) (cap i : Nat) (h : i < s.size) : (bytesRow s cap)[i]? = some (.int .u8 (bsI s i)) := by
  have h' : i < s.data.size := h
  unfold bytesRow bsI
  rw [Array.getElem?_append_left (by simpa using h')]
  simp [Array.getD, h]
/-- A text may be a name. -/
def nameP (s : ByteArray) : Prop := (0 < s.size ∧ s.size ≤ 32) ∧ ∀ i, i < s.size → 33 ≤ bsI s i ∧ bsI s i ≤ 126
instance (s : ByteArray) : Decidable (nameP s) := by unfold nameP; infer_instance
def nameB (s : ByteArray) : Bool := decide (nameP s)
theorem nameB_yes {s : ByteArray} (h : nameP s) : nameB s = true := decide_eq_true h
theorem nameB_no {s : ByteArray} (h : ¬ nameP s) : nameB s = false := decide_eq_false h
/-- A loop may be of so many samples. -/
def loopP (lp : Bool) (a b n : Int) : Prop := if lp then 0 ≤ a ∧ a < b ∧ b ≤ n else a = 0 ∧ b = 0
instance (lp : Bool) (a b n : Int) : Decidable (loopP lp a b n) := by unfold loopP; infer_instance
/-- Why no sample that may be has these numbers. -/
def wrongI (s : ByteArray) (n r c : Int) (lp : Bool) (a b : Int) : Int :=
  if nameB s = false then 10 else if r < 1 ∨ 192000 < r then 14 else if (c < 1 ∨ 2 < c) ∨ n < 1 ∨ 1048576 < n then 12 else if loopP lp a b n then 0 else 13
/-- A text made a row of bytes: a new block. -/
theorem conv_bytes {P : Program} (w : World) (src dst e : TypeId) (s : ByteArray) (hs : P.underlying src = some .string) (hd : P.underlying dst = some (.slice e)) (he : P.underlying e = some (.int .u8)) :
    ∃ cap w1, (convert src dst (.string s)).run P w = .ok (.slice (some ⟨w.heap.size, 0, none⟩) s.size cap) w1 ∧ Old w w1 ∧ w.heap.size < w1.heap.size ∧ ∀ i, i < s.size → w1.cell? ⟨w.heap.size, i, none⟩ = some (.int .u8 (bsI s i)) := by
  have h := run_bytes_of_string (P := P) w src dst e s hs hd he
  have hb := fun i hi => bytesRow_at s (grownCap w s.size 0 e) i hi
  generalize grownCap w s.size 0 e = cap at h hb
  generalize bytesRow s cap = R at h hb
  generalize (R.size, R.size + 1) = fr at h
  refine ⟨cap, _, h, (Old.refl w).drew.alloc' _, Nat.lt_of_lt_of_le (Nat.lt_succ_self _) (Nat.le_of_eq (World.size_alloc ..).symm), fun i hi => ?_⟩
  have hn : (w.drew.alloc (.cells R e fr)).heap[w.drew.heap.size]? = some (.cells R e fr) := heap_alloc_new _ _
  exact (cell_of_row _ _ _ _ _ _ hn).trans (hb i hi)
end Go.Proofs.Ytoicpkkcamejcaa
