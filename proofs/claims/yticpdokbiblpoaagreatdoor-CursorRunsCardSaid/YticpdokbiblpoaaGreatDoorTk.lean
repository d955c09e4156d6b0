/- A drawn region's operation is taken: its closed facts fill themselves in. -/
import Derived.Deep.RegionHeld
import Derived.Lib.Hide
import Derived.WalkLawsBesides
namespace Go.Proofs.YticpdokbiblpoaaGreatDoor
set_option linter.unusedVariables false
open Go Region
theorem wpT {P : Program} {md : Region.Mode} {ops : Array Oper} {Q : Exit → Act → World → Prop} {S : World → Prop} (i : Nat) {d : Option Nat} {o : Op} {t : TypeId} {p : String} {f : Array Edge} {g : Option (Nat × Bool)} {v : Value} {fuel : Nat} {listed : Array Bool} {a : Act} {w : World}
    (hi : ops[i]? = some ⟨d, o, t, p, f, g⟩) (hy : YieldsIf P ops S ⟨d, o, t, p, f, g⟩ v a) (hS : S w) (h : wpAnyH P md ops Q S fuel (listed.setIfInBounds i true) (a.put d v) w)
    (hs : Region.noSelect ops = true := by kernel_rfl) (hf : Region.free md ops listed i = true := by kernel_rfl) (hr : (Region.ready md ops listed).contains i = true := by kernel_rfl)
    (hQ : ∀ c a w, Q (.panic c) (a.put d v) w → Q (.panic c) a w := by exact fun _ _ _ h => h) : wpAnyH P md ops Q S (fuel + 1) listed a w :=
  wpAnyH_take (oi := ⟨d, o, t, p, f, g⟩) hi hs hf hr hQ hy hS h
theorem sA {α : Type _} (l : List α) (i : Nat) (a : α) : l.toArray.setIfInBounds i a = (l.set i a).toArray := List.setIfInBounds_toArray l i a
theorem sZ {α : Type _} (a b : α) (l : List α) : (a :: l).set 0 b = b :: l := rfl
theorem sS {α : Type _} (a b : α) (l : List α) (n : Nat) : (a :: l).set (n + 1) b = a :: l.set n b := rfl
theorem wpU {P : Program} {md : Region.Mode} {ops : Array Oper} {Q : Exit → Act → World → Prop} {S : World → Prop} (i : Nat) {d : Option Nat} {o : Op} {t : TypeId} {p : String} {f : Array Edge} {g : Option (Nat × Bool)} {v : Value} {fuel : Nat} {listed : Array Bool} {a : Act} {w : World}
    (hi : ops[i]? = some ⟨d, o, t, p, f, g⟩) (h : wpAnyH P md ops Q S fuel (listed.setIfInBounds i true) (a.put d v) w)
    (hg : Region.wanted ⟨d, o, t, p, f, g⟩ (yielded ops a.tmps) = true := by kernel_rfl)
    (hy : ∀ w, S w → (execOp a.eval ⟨d, o, t, p, f, g⟩).run P w = .ok (.value v) w := by (intro w hSw; (try dsimp only at hSw); go_simp; try with_reducible rfl)) (hS : S w := by assumption)
    (hs : Region.noSelect ops = true := by kernel_rfl) (hf : Region.free md ops listed i = true := by kernel_rfl) (hr : (Region.ready md ops listed).contains i = true := by kernel_rfl)
    (hQ : ∀ c a w, Q (.panic c) (a.put d v) w → Q (.panic c) a w := by exact fun _ _ _ h => h) : wpAnyH P md ops Q S (fuel + 1) listed a w :=
  wpAnyH_take (oi := ⟨d, o, t, p, f, g⟩) hi hs hf hr hQ (Or.inl ⟨hg, hy⟩) hS h
theorem wpR {P : Program} {md : Region.Mode} {ops : Array Oper} {Q : Exit → Act → World → Prop} {S : World → Prop} (i : Nat) {d : Option Nat} {o : Op} {t : TypeId} {p : String} {f : Array Edge} {g : Option (Nat × Bool)} {fuel : Nat} {listed : Array Bool} {a : Act} {w : World}
    (ho : ops[i]? = some ⟨d, o, t, p, f, g⟩) (h : ∀ K' : Act → World → Prop, Shut (∀ a w, S w → (S w → wpAnyH P md ops Q S fuel (listed.setIfInBounds i true) a w) → K' a w) → if Region.wanted ⟨d, o, t, p, f, g⟩ (yielded ops a.tmps) = true then Oper.wp P ⟨d, o, t, p, f, g⟩ a w K' Q else K' (a.put d undef) w)
    (hr : Region.ready md ops listed = [i] := by kernel_rfl) : wpAnyH P md ops Q S (fuel + 1) listed a w := wpAnyH_ready hr (by simp) (AllReadyH.cons ho h AllReadyH.nil)
theorem zH {p : Prop} (h : p) : Go.RowKit.Hid p := h
theorem uU {P : Program} {md : Region.Mode} {ops : Array Oper} {Q : Exit → Act → World → Prop} {S : World → Prop} (i : Nat) {d : Option Nat} {o : Op} {t : TypeId} {p : String} {f : Array Edge} {g : Option (Nat × Bool)} {v : Value} {fuel : Nat} {listed : Array Bool} {a : Act} {w : World} {l' : Array Bool} {a' : Act}
    (hi : ops[i]? = some ⟨d, o, t, p, f, g⟩ := by rfl) (hg : Region.wanted ⟨d, o, t, p, f, g⟩ (yielded ops a.tmps) = true := by kernel_rfl)
    (hy : ∀ w, S w → (execOp a.eval ⟨d, o, t, p, f, g⟩).run P w = .ok (.value v) w := by (intro w hSw; (try dsimp only at hSw); go_simp; try with_reducible rfl)) (he : (listed.setIfInBounds i true, a.put d v) = (l', a') := by ((try simp only [Act.put, sA, sZ, sS]); with_reducible rfl)) (hS : S w := by assumption)
    (hs : Region.noSelect ops = true := by kernel_rfl) (hf : Region.free md ops listed i = true := by kernel_rfl) (hr : (Region.ready md ops listed).contains i = true := by kernel_rfl)
    (hQ : ∀ c a w, Q (.panic c) (a.put d v) w → Q (.panic c) a w := by exact fun _ _ _ h => h)
    (h : wpAnyH P md ops Q S fuel l' a' w) : wpAnyH P md ops Q S (fuel + 1) listed a w := by
  cases he; exact wpAnyH_take (oi := ⟨d, o, t, p, f, g⟩) hi hs hf hr hQ (Or.inl ⟨hg, hy⟩) hS h
theorem uT {P : Program} {md : Region.Mode} {ops : Array Oper} {Q : Exit → Act → World → Prop} {S : World → Prop} (i : Nat) {d : Option Nat} {o : Op} {t : TypeId} {p : String} {f : Array Edge} {g : Option (Nat × Bool)} {v : Value} {fuel : Nat} {listed : Array Bool} {a : Act} {w : World} {l' : Array Bool} {a' : Act}
    (hi : ops[i]? = some ⟨d, o, t, p, f, g⟩) (hy : YieldsIf P ops S ⟨d, o, t, p, f, g⟩ v a) (he : (listed.setIfInBounds i true, a.put d v) = (l', a') := by ((try simp only [Act.put, sA, sZ, sS]); with_reducible rfl)) (hS : S w := by assumption)
    (hs : Region.noSelect ops = true := by kernel_rfl) (hf : Region.free md ops listed i = true := by kernel_rfl) (hr : (Region.ready md ops listed).contains i = true := by kernel_rfl)
    (hQ : ∀ c a w, Q (.panic c) (a.put d v) w → Q (.panic c) a w := by exact fun _ _ _ h => h)
    (h : wpAnyH P md ops Q S fuel l' a' w) : wpAnyH P md ops Q S (fuel + 1) listed a w := by
  cases he; exact wpAnyH_take (oi := ⟨d, o, t, p, f, g⟩) hi hs hf hr hQ hy hS h
theorem uN {P : Program} {md : Region.Mode} {ops : Array Oper} {Q : Exit → Act → World → Prop} {S : World → Prop} (i : Nat) {d : Option Nat} {o : Op} {t : TypeId} {p : String} {f : Array Edge} {g : Option (Nat × Bool)} {v : Value} {fuel : Nat} {listed : Array Bool} {a : Act} {w : World} {l' : Array Bool} {a' : Act}
    (hi : ops[i]? = some ⟨d, o, t, p, f, g⟩ := by rfl) (hv : v = undef := by rfl) (hg : Region.wanted ⟨d, o, t, p, f, g⟩ (yielded ops a.tmps) = false := by kernel_rfl) (he : (listed.setIfInBounds i true, a.put d v) = (l', a') := by ((try simp only [Act.put, sA, sZ, sS]); with_reducible rfl)) (hS : S w := by assumption)
    (hs : Region.noSelect ops = true := by kernel_rfl) (hf : Region.free md ops listed i = true := by kernel_rfl) (hr : (Region.ready md ops listed).contains i = true := by kernel_rfl)
    (hQ : ∀ c a w, Q (.panic c) (a.put d v) w → Q (.panic c) a w := by exact fun _ _ _ h => h)
    (h : wpAnyH P md ops Q S fuel l' a' w) : wpAnyH P md ops Q S (fuel + 1) listed a w := by
  cases he; exact wpAnyH_take (oi := ⟨d, o, t, p, f, g⟩) hi hs hf hr hQ (Or.inr ⟨hg, hv⟩) hS h
theorem _root_.Go.RowKit.Hid.o {p : Prop} (h : Go.RowKit.Hid p) : p := h
theorem zM {a b : Nat} (h : a < b := by (simp [intOf]; omega)) : a < b := h
abbrev nI := Nat → Int
theorem zO {p : Prop} (h : p := by omega) : p := h
theorem zK {p : Prop} (h : p := by kernel_rfl) : p := h
theorem zA {p : Prop} (h : p := by assumption) : p := h
theorem zS {p : Prop} (h : p := by simp) : p := h
theorem zD {p : Prop} (h : p := by decide) : p := h
theorem zG {α : Sort _} (x : α) : ∃ y, y = x := ⟨x, rfl⟩
theorem zF {α : Sort _} (x : α) : ∃ y, x = y := ⟨x, rfl⟩
end Go.Proofs.YticpdokbiblpoaaGreatDoor
