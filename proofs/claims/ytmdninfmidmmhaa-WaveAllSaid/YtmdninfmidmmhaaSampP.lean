/- Samples by value: their cells, what they read as, and why one may not be. No program. -/
import Derived.Test.YtmdninfmidmmhaaWaveP
import Derived.Deep.Matrix
import Derived.Deep.Fields
import Derived.ChangeArms
namespace Go.Proofs.Ytmdninfmidmmhaa
set_option linter.unusedVariables false
set_option maxRecDepth 100000
open Go.RowKit Go.ChangeShapes Go.WideShapes

/-- Rows of integers behind slices, to be read. -/
structure Rws (w : World) (p : Option Addr) (n : Nat) (Q : Nat → Option Addr) (M C : Nat → Nat) (X : Nat → Nat → Int) : Prop where
  cell : 0 < n → ∃ g o, p = some ⟨g, o, none⟩ ∧ g < w.heap.size ∧ ∀ i, i < n → w.cell? ⟨g, o + i, none⟩ = some (.slice (Q i) (M i) (C i))
  row : ∀ i, i < n → M i ≤ C i ∧ C i ≤ maxLen ∧ (0 < M i → ∃ g o, Q i = some ⟨g, o, none⟩ ∧ g < w.heap.size ∧ ∀ j, j < M i → w.cell? ⟨g, o + j, none⟩ = some (.int .i64 (X i j)))
theorem Rws.old {w w' : World} {p : Option Addr} {n : Nat} {Q : Nat → Option Addr} {M C : Nat → Nat} {X : Nat → Nat → Int} (h : Rws w p n Q M C X) (k : Old w w') : Rws w' p n Q M C X where
  cell := fun hn => by
    obtain ⟨g, o, h1, h2, h3⟩ := h.cell hn
    exact ⟨g, o, h1, Nat.lt_of_lt_of_le h2 k.size, fun i hi => (k.cell (a := ⟨g, o + i, none⟩) h2).trans (h3 i hi)⟩
  row := fun i hi => by
    obtain ⟨a, b, c⟩ := h.row i hi
    refine ⟨a, b, fun hm => ?_⟩
    obtain ⟨g, o, h1, h2, h3⟩ := c hm
    exact ⟨g, o, h1, Nat.lt_of_lt_of_le h2 k.size, fun j hj => (k.cell (a := ⟨g, o + j, none⟩) h2).trans (h3 j hj)⟩
/-- A sample: its parts, and what its channels read as. -/
structure Smp where
  s : ByteArray
  r : Int
  lp : Bool
  a : Int
  b : Int
  p : Option Addr
  n : Nat
  c : Nat
  Q : Nat → Option Addr
  M : Nat → Nat
  C : Nat → Nat
  X : Nat → Nat → Int
def Smp.cells (S : Smp) : Array Value := #[.string S.s, .int .i64 S.r, .bool S.lp, .int .i64 S.a, .int .i64 S.b, .slice S.p S.n S.c]
/-- A sample's value. -/
def Smp.val (S : Smp) : Value := .agg S.cells
/-- The sample is to be read. -/
structure SmOk (w : World) (S : Smp) : Prop where
  size : S.s.size ≤ 9223372036854775807
  le : S.n ≤ S.c
  cap : S.c ≤ maxLen
  rows : Rws w S.p S.n S.Q S.M S.C S.X
theorem SmOk.old {w w' : World} {S : Smp} (h : SmOk w S) (k : Old w w') : SmOk w' S := ⟨h.size, h.le, h.cap, h.rows.old k⟩
/-- How long a sample's first channel is. -/
def Smp.len (S : Smp) : Int := if S.n = 0 then 0 else S.M 0
/-- A number is beyond a sample's bounds. -/
def farP (n : Nat) (F : Nat → Int) : Prop := ∃ i, i < n ∧ (F i < -32768 ∨ 32767 < F i)
/-- Two channels are not of one length. -/
def Smp.odd (S : Smp) : Prop := ∃ k, k < S.n ∧ S.M k ≠ S.M 0
def Smp.far (S : Smp) : Prop := ∃ k, k < S.n ∧ farP (S.M k) (S.X k)
open Classical in
/-- Why a sample may not be. -/
noncomputable def Smp.check (S : Smp) : Int :=
  if wrongI S.s S.len S.r S.n S.lp S.a S.b ≠ 0 then wrongI S.s S.len S.r S.n S.lp S.a S.b else if S.odd then 12 else if S.far then 5 else 0
/-- At most so many channels of so many samples, and so long a name. -/
structure SmFew (S : Smp) : Prop where
  name : S.s.size ≤ 100
  n : S.n ≤ 4
  m : ∀ k, k < S.n → S.M k ≤ 150
end Go.Proofs.Ytmdninfmidmmhaa
