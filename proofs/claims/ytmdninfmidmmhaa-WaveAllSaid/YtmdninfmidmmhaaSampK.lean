/- Samples in boxes of their own: what is written into them. -/
import Derived.Test.YtmdninfmidmmhaaWaveC
namespace Go.Proofs.Ytmdninfmidmmhaa
set_option linter.unusedVariables false
set_option maxRecDepth 100000
open Go.RowKit Go.ChangeShapes Go.WideShapes

/-- A sample of another name. -/
def Smp.named (S : Smp) (s : ByteArray) : Smp := { S with s := s }
/-- A sample of other channels. -/
def Smp.rowed (S : Smp) (p : Option Addr) (n c : Nat) (M : Nat → Nat) : Smp := { S with p := p, n := n, c := c, M := M }
/-- A sample of channels that lie elsewhere. -/
def Smp.celled (S : Smp) (p : Option Addr) (c : Nat) (Q : Nat → Option Addr) (C : Nat → Nat) : Smp := { S with p := p, c := c, Q := Q, C := C }
/-- The box of the sample and that of the answer. -/
structure FewSt (w W : World) (S : Smp) (z : Array Value) : Prop where
  b : SmB W w.heap.size S
  r : W.heap[w.heap.size + 1]? = some (.cells z 24 (0, 0))
  old : Old w W
theorem FewSt.kept {w W W' : World} {S : Smp} {z : Array Value} (h : FewSt w W S z) (k : Kept (fun q => q < w.heap.size + 2) W W') : FewSt w W' S z :=
  ⟨(k.block _ (by omega)).trans h.b, (k.block _ (by omega)).trans h.r, h.old.after k (fun _ _ => by omega)⟩
theorem FewSt.lt {w W : World} {S : Smp} {z : Array Value} (h : FewSt w W S z) : w.heap.size + 2 ≤ W.heap.size := lt_of_block h.r
theorem FewSt.named {w W : World} {S : Smp} {z : Array Value} (h : FewSt w W S z) (s : ByteArray) : FewSt w (W.setCell ⟨w.heap.size, 0, none⟩ (.string s)) (S.named s) z :=
  ⟨heap_setCell_same _ _ _ _ _ _ h.b, (heap_setCell_other _ _ _ _ (by simp)).trans h.r, h.old.after (X := fun k => k < w.heap.size) (Kept.setCell _ (a := ⟨w.heap.size, 0, none⟩) (by simp) _) fun _ h => h⟩
theorem FewSt.rowed {w W : World} {S : Smp} {z : Array Value} (h : FewSt w W S z) (p : Option Addr) (n c : Nat) (M : Nat → Nat) : FewSt w (W.setCell ⟨w.heap.size, 5, none⟩ (.slice p n c)) (S.rowed p n c M) z :=
  ⟨heap_setCell_same _ _ _ _ _ _ h.b, (heap_setCell_other _ _ _ _ (by simp)).trans h.r, h.old.after (X := fun k => k < w.heap.size) (Kept.setCell _ (a := ⟨w.heap.size, 5, none⟩) (by simp) _) fun _ h => h⟩
theorem FewSt.celled {w W : World} {S : Smp} {z : Array Value} (h : FewSt w W S z) (p : Option Addr) (c : Nat) (Q : Nat → Option Addr) (C : Nat → Nat) : FewSt w (W.setCell ⟨w.heap.size, 5, none⟩ (.slice p S.n c)) (S.celled p c Q C) z :=
  ⟨heap_setCell_same _ _ _ _ _ _ h.b, (heap_setCell_other _ _ _ _ (by simp)).trans h.r, h.old.after (X := fun k => k < w.heap.size) (Kept.setCell _ (a := ⟨w.heap.size, 5, none⟩) (by simp) _) fun _ h => h⟩
theorem Rws.but {w w' : World} {p : Option Addr} {n : Nat} {Q : Nat → Option Addr} {M C : Nat → Nat} {X : Nat → Nat → Int} {b : Nat} (h : Rws w p n Q M C X) (hs : w'.heap.size = w.heap.size) (hk : ∀ k, k ≠ b → w'.heap[k]? = w.heap[k]?)
    (hp : ∀ g o, 0 < n → p = some ⟨g, o, none⟩ → g ≠ b) (hq : ∀ i g o, i < n → 0 < M i → Q i = some ⟨g, o, none⟩ → g ≠ b) : Rws w' p n Q M C X where
  cell := fun hn => by
    obtain ⟨g, o, h1, h2, h3⟩ := h.cell hn
    exact ⟨g, o, h1, by omega, fun i hi => (World.cell?_of_block (a := ⟨g, o + i, none⟩) (hk g (hp g o hn h1))).trans (h3 i hi)⟩
  row := fun i hi => by
    obtain ⟨a, b', c⟩ := h.row i hi
    refine ⟨a, b', fun hm => ?_⟩
    obtain ⟨g, o, h1, h2, h3⟩ := c hm
    exact ⟨g, o, h1, by omega, fun j hj => (World.cell?_of_block (a := ⟨g, o + j, none⟩) (hk g (hq i g o hi hm h1))).trans (h3 j hj)⟩
end Go.Proofs.Ytmdninfmidmmhaa
