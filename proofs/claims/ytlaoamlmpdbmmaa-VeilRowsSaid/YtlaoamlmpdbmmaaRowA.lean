/- Rows that grow beside each other are apart by their elements' types. No program. -/
import Derived.Test.YtlaoamlmpdbmmaaBase
namespace Go.Proofs.Ytlaoamlmpdbmmaa
set_option linter.unusedVariables false
set_option maxRecDepth 100000
open Go.RowKit Go.ChangeShapes Go.WideShapes

theorem ownS_ne {X Y : Nat → Prop} {w : World} {e e' : TypeId} {s s' : Nat} {v v' : Value} {n n' : Nat} {xs xs' : List Value} (h : ownS X w e s v n xs) (h' : ownS Y w e' s' v' n' xs') (hne : e ≠ e') : ∀ k, v.ownBlock = some k → v'.ownBlock ≠ some k := by
  intro k hk hk'
  rcases h.1.2 with ⟨rfl, _⟩ | ⟨g, cap, cur, rfl, _, hg, _⟩
  · cases hk
  · rcases h'.1.2 with ⟨rfl, _⟩ | ⟨g', cap', cur', rfl, _, hg', _⟩
    · cases hk'
    · have e1 : g = k := by simpa [Value.ownBlock] using hk
      have e2 : g' = k := by simpa [Value.ownBlock] using hk'
      subst e1
      subst e2
      rw [hg] at hg'
      simp only [Option.some.injEq, Obj.cells.injEq] at hg'
      exact hne hg'.2.1
/-- All blocks of A but the row's own. -/
def but (A : World) (v : Value) : Nat → Prop := fun q => q < A.heap.size ∧ v.ownBlock ≠ some q
theorem ls_own {w wr A w3 : World} {e : TypeId} {s : Nat} {v v' : Value} {n n' : Nat} {xs xs' : List Value} (h : ownS (fun q => q < w.heap.size) wr e s v n xs) (ow : Old w wr) (o : Old wr A) (hown : ownS (but A v) w3 e s v' n' xs') (hv : ∀ q, v'.ownBlock = some q → v.ownBlock = some q ∨ A.heap.size ≤ q) : ownS (fun q => q < w.heap.size) w3 e s v' n' xs' :=
  hown.mono fun q hq hlt => by
    rcases hv q hq with h1 | h1
    · exact h.2 q h1 hlt
    · have := ow.size; have := o.size; omega
theorem ls_old {w wr A w3 : World} {e : TypeId} {s : Nat} {v : Value} {n : Nat} {xs : List Value} (h : ownS (fun q => q < w.heap.size) wr e s v n xs) (ow : Old w wr) (o : Old wr A) (hk : Kept (but A v) A w3) : Old w w3 :=
  (ow.trans o).after hk fun q hq => ⟨Nat.lt_of_lt_of_le hq (ow.trans o).size, fun e => h.2 q e hq⟩
theorem ls_other {w wr A w3 : World} {e e' : TypeId} {s s' : Nat} {v u : Value} {n m : Nat} {xs ys : List Value} (h : ownS (fun q => q < w.heap.size) wr e s v n xs) (k : ownS (fun q => q < w.heap.size) wr e' s' u m ys) (hne : e ≠ e') (o : Old wr A) (hk : Kept (but A v) A w3) : ownS (fun q => q < w.heap.size) w3 e' s' u m ys :=
  (k.old o).kept hk fun q hq => ⟨Nat.lt_of_lt_of_le (k.lt q hq) o.size, fun e => ownS_ne h k hne q e hq⟩
/-- A box that is newer than the row that grows. -/
theorem box_stays {w wr A w3 : World} {e : TypeId} {s n nb : Nat} {v : Value} {xs : List Value} (h : ownS (fun q => q < w.heap.size) wr e s v n xs) (hn : wr.heap.size ≤ nb) {o : Obj} (hb : A.heap[nb]? = some o) (hk : Kept (but A v) A w3) : w3.heap[nb]? = some o := by
  rw [hk.block nb ⟨(Array.getElem?_eq_some_iff.1 hb).1, fun e => by have := h.lt nb e; omega⟩]
  exact hb
end Go.Proofs.Ytlaoamlmpdbmmaa
