/- Frames one behind the other: cells of whatever values as a function of the place, a list of frames with their tones; read, and stored one by one. No program. -/
import Derived.Test.YtlaoamlmpdbmmaaFrameA
import Derived.Test.YtlaoamlmpdbmmaaTwoL
import Derived.Test.YtlaoamlmpdbmmaaCellsV
namespace Go.Proofs.Ytlaoamlmpdbmmaa
set_option linter.unusedVariables false
set_option maxRecDepth 100000
open Go.RowKit Go.ChangeShapes Go.WideShapes

/-- A frame: its numbers, its slice of tones, how many tones, and these. -/
structure Fr where
  F : Nat → Int
  s : Value
  n : Nat
  T : Nat → Int
/-- A frame's tones are to be read, and lie in no block of X. -/
def ToV (X : Nat → Prop) (w : World) (x : Fr) : Prop := ∃ p cap, x.s = .slice p x.n cap ∧ x.n ≤ cap ∧ cap ≤ maxLen ∧ SlF 2 w p x.n x.T ∧ (0 < x.n → ∀ a, p = some a → ¬ X a.block)
namespace ToV
variable {X Y : Nat → Prop} {w w' : World} {x : Fr}
theorem old (h : ToV X w x) (k : Old w w') : ToV X w' x := by
  obtain ⟨p, cap, h1, h2, h3, h4, h5⟩ := h
  exact ⟨p, cap, h1, h2, h3, h4.old k, h5⟩
theorem mono (h : ToV X w x) (hY : ∀ k, k < w.heap.size → Y k → X k) : ToV Y w x := by
  obtain ⟨p, cap, h1, h2, h3, h4, h5⟩ := h
  refine ⟨p, cap, h1, h2, h3, h4, fun hn a ha hY' => ?_⟩
  obtain ⟨g, o, e1, e2, _⟩ := h4 hn
  rw [e1] at ha
  cases ha
  exact h5 hn _ e1 (hY _ e2 hY')
theorem kept (h : ToV X w x) (k : Kept Y w w') (hY : ∀ q, q < w.heap.size → ¬ X q → Y q) : ToV X w' x := by
  obtain ⟨p, cap, h1, h2, h3, h4, h5⟩ := h
  refine ⟨p, cap, h1, h2, h3, fun hn => ?_, h5⟩
  obtain ⟨g, o, e1, e2, e3⟩ := h4 hn
  exact ⟨g, o, e1, Nat.lt_of_lt_of_le e2 k.size, fun j hj => (k.cell (a := ⟨g, o + j, none⟩) (hY g e2 (h5 hn _ e1))).trans (e3 j hj)⟩
theorem none (X : Nat → Prop) (w : World) (F T : Nat → Int) : ToV X w ⟨F, .slice none 0 0, 0, T⟩ := ⟨_, 0, rfl, Nat.le_refl _, Nat.zero_le _, fun h => absurd h (by simp), fun h => absurd h (by simp)⟩
theorem one (h : ToV X w x) : x.s.oneCell' = true := by
  obtain ⟨p, cap, h1, _⟩ := h
  rw [h1]; rfl
end ToV
/-- The cells of frames, one behind the other. -/
def frsC (L : Nat → Fr) : Nat → Value := fun q => frC (L (q / 29)).F (L (q / 29)).s (q % 29)
theorem frsC_at (L : Nat → Fr) (i k : Nat) (hk : k < 29) : frsC L (i * 29 + k) = frC (L i).F (L i).s k := by
  unfold frsC
  rw [show (i * 29 + k) / 29 = i by omega, show (i * 29 + k) % 29 = k by omega]
def updF (L : Nat → Fr) (k : Nat) (x : Fr) : Nat → Fr := fun i => if i = k then x else L i
theorem updF_same (L : Nat → Fr) (k : Nat) (x : Fr) : updF L k x k = x := if_pos rfl
theorem updF_other (L : Nat → Fr) (k : Nat) (x : Fr) {i : Nat} (h : i ≠ k) : updF L k x i = L i := if_neg h
theorem frsC_patch (L : Nat → Fr) (k : Nat) (x : Fr) : patchV (frsC L) (k * 29) 29 (frC x.F x.s) = frsC (updF L k x) := by
  funext q
  unfold patchV
  by_cases e : k * 29 ≤ q ∧ q < k * 29 + 29
  · rw [if_pos e]
    unfold frsC
    rw [show q / 29 = k by omega, updF_same, show q % 29 = q - k * 29 by omega]
  · rw [if_neg e]
    unfold frsC
    rw [updF_other _ _ _ (by omega)]
/-- N frames to be read, their tones in no block of X. -/
def FrsS (X : Nat → Prop) (w : World) (p : Option Addr) (N : Nat) (L : Nat → Fr) : Prop := (0 < N → ∃ g o, p = some ⟨g, o, none⟩ ∧ g < w.heap.size ∧ ∀ j, j < 29 * N → w.cell? ⟨g, o + j, none⟩ = some (frsC L j)) ∧ ∀ i, i < N → ToV X w (L i)
namespace FrsS
variable {X Y : Nat → Prop} {w w' : World} {p : Option Addr} {N : Nat} {L : Nat → Fr}
theorem old (h : FrsS X w p N L) (k : Old w w') : FrsS X w' p N L := by
  refine ⟨fun hn => ?_, fun i hi => (h.2 i hi).old k⟩
  obtain ⟨g, o, e1, e2, e3⟩ := h.1 hn
  exact ⟨g, o, e1, Nat.lt_of_lt_of_le e2 k.size, fun j hj => (k.cell (a := ⟨g, o + j, none⟩) e2).trans (e3 j hj)⟩
theorem none (X : Nat → Prop) (w : World) (p : Option Addr) (L : Nat → Fr) : FrsS X w p 0 L := ⟨fun h => absurd h (by omega), fun i hi => by omega⟩
/-- The cells of one of them. -/
theorem row (h : FrsS X w p N L) (i : Nat) (hi : i < N) : ∃ g o, p = some ⟨g, o, Option.none⟩ ∧ g < w.heap.size ∧ ∀ j, j < 29 → w.cell? ⟨g, o + i * 29 + j, Option.none⟩ = some (frC (L i).F (L i).s j) := by
  obtain ⟨g, o, e1, e2, e3⟩ := h.1 (by omega)
  refine ⟨g, o, e1, e2, fun j hj => ?_⟩
  rw [Nat.add_assoc, e3 (i * 29 + j) (by omega), frsC_at _ _ _ hj]
end FrsS
/-- N frames in a block of the call's own, outside X; their tones lie neither there nor in X2. -/
structure FrsO (X : Nat → Prop) (w : World) (g N : Nat) (L : Nat → Fr) : Prop where
  at_ : CellsV w g (29 * N) (frsC L)
  out : ¬ X g
  tn : ∀ i, i < N → ToV (fun k => k = g) w (L i)
namespace FrsO
variable {X Y : Nat → Prop} {w w' : World} {g N : Nat} {L : Nat → Fr}
theorem old (h : FrsO X w g N L) (k : Old w w') : FrsO X w' g N L := ⟨h.at_.old k, h.out, fun i hi => (h.tn i hi).old k⟩
theorem sl (h : FrsO X w g N L) (Y : Nat → Prop) (hY : ∀ k, k < w.heap.size → Y k → k = g) : FrsS Y w (some ⟨g, 0, none⟩) N L :=
  ⟨fun _ => ⟨g, 0, rfl, h.at_.lt, fun j hj => by rw [Nat.zero_add]; exact h.at_.cell j hj⟩, fun i hi => (h.tn i hi).mono hY⟩
theorem store (h : FrsO X w g N L) (k : Nat) (hk : k < N) (x : Fr) (hx : ToV (fun k => k = g) w x) : FrsO X (w.setCells g (k * 29) (rowN 29 (frC x.F x.s)).toList) g N (updF L k x) := by
  have hK := Kept.setCells (X := fun q => q ≠ g) w (b := g) (fun e => e rfl) (k * 29) (rowN 29 (frC x.F x.s)).toList
  refine ⟨(h.at_.setCells (k * 29) 29 (by omega) _).ext fun j _ => by rw [frsC_patch], h.out, fun i hi => ?_⟩
  by_cases e : i = k
  · subst e; rw [updF_same]; exact hx.kept hK (fun q _ hq => hq)
  · rw [updF_other _ _ _ e]; exact (h.tn i hi).kept hK (fun q _ hq => hq)
end FrsO
/-- A new block of noughts is one of frames of noughts. -/
def zeroFr : Fr := ⟨fun _ => 0, .slice none 0 0, 0, fun _ => 0⟩
theorem frs_made (N : Nat) : madeCells (rowN 29 (frC (fun _ => 0) (.slice none 0 0))) N = rowN N (frsC fun _ => zeroFr) := by
  apply Array.ext_getElem?
  intro i
  by_cases hi : i < N
  · rw [rowN_at _ _ i hi]
    have hm : i % 29 < 29 := Nat.mod_lt _ (by omega)
    simp [madeCells, hi, rowN, frsC, zeroFr, hm]
  · rw [Array.getElem?_eq_none (by rw [size_madeCells]; omega), Array.getElem?_eq_none (by rw [rowN_size]; omega)]
theorem frs_new (X : Nat → Prop) (w : World) (N : Nat) (t : TypeId) (hX : ¬ X w.heap.size) : FrsO X (w.alloc (.cells (rowN (29 * N) (frsC fun _ => zeroFr)) t)) w.heap.size N (fun _ => zeroFr) :=
  ⟨cellsV_of (heap_alloc_new _ _), hX, fun i hi => ToV.none _ _ _ _⟩

/-- A frame that a call has told lies in a new block of its own. -/
structure GotF (U : World) (nb : Nat) (x : Fr) (V : World) : Prop where
  lo : U.heap.size ≤ nb
  at_ : CellsV V nb 29 (frC x.F x.s)
  tn : ToV (fun k => k < U.heap.size) V x
  old : Old U V
theorem cellsV_all {V : World} {nb m : Nat} {C : Nat → Value} (h : CellsV V nb m C) (c : Nat → Value) : CellsV (V.setCells nb 0 (rowN m c).toList) nb m c :=
  (h.setCells 0 m (by omega) c).ext fun j hj => by unfold patchV; rw [if_pos ⟨by omega, by omega⟩, Nat.sub_zero]
theorem gotF_set {U V : World} {nb : Nat} {x : Fr} {C : Nat → Value} (hn : U.heap.size ≤ nb) (hc : CellsV V nb 29 C) (ht : ToV (fun k => k < U.heap.size ∨ k = nb) V x) (o : Old U V) : GotF U nb x (V.setCells nb 0 (rowN 29 (frC x.F x.s)).toList) := by
  have hK := Kept.setCells (X := fun q => q ≠ nb) V (b := nb) (fun e => e rfl) 0 (rowN 29 (frC x.F x.s)).toList
  exact ⟨hn, cellsV_all hc _, (ht.kept hK (fun q _ hq e => hq (.inr e))).mono (fun k _ h => .inl h), o.after (hK.mono fun k hk => hk) (fun k hk => by omega)⟩
theorem newFr (w : World) (z : Array Value) (t : TypeId) (hz : z = rowN 29 (frC (fun _ => 0) (.slice none 0 0))) : CellsV (w.alloc (.cells z t)) w.heap.size 29 (frC (fun _ => 0) (.slice none 0 0)) := by
  rw [hz]
  exact cellsV_of (heap_alloc_new _ _)
/-- The call came first, then the new block. -/
theorem gotF_call {U V : World} {x : Fr} (z : Array Value) (t : TypeId) (hz : z = rowN 29 (frC (fun _ => 0) (.slice none 0 0))) (o : Old U V) (h : ToV (fun k => k < U.heap.size) V x) : GotF U V.heap.size x ((V.alloc (.cells z t)).setCells V.heap.size 0 (rowN 29 (frC x.F x.s)).toList) :=
  gotF_set o.size (newFr V z t hz) ((h.mono (Y := fun k => k < U.heap.size ∨ k = V.heap.size) fun k hk hy => hy.elim id fun e => by omega).old (Old.alloc V _)) (o.alloc' _)
/-- The new block came first, then the call. -/
theorem gotF_alloc {U V : World} {x : Fr} (z : Array Value) (t : TypeId) (hz : z = rowN 29 (frC (fun _ => 0) (.slice none 0 0))) (o : Old (U.alloc (.cells z t)) V) (h : ToV (fun k => k < (U.alloc (.cells z t)).heap.size) V x) : GotF U U.heap.size x (V.setCells U.heap.size 0 (rowN 29 (frC x.F x.s)).toList) :=
  gotF_set (Nat.le_refl _) ((newFr U z t hz).old o) (h.mono fun k _ hy => by rw [World.size_alloc]; rcases hy with h | h <;> omega) ((Old.alloc U _).trans o)

/-- A frame out of a list of them: the operations. -/
theorem wpList_load_fr {P : Program} {ops : Array Oper} {rest : List Oper} {op : Oper} {a : Act} {w : World} {Q : Exit → Act → World → Prop} (hgd : op.guard = none) (c : Nat → Value) (ty : TypeId) (x : Operand) (ho : op.op = .load ty x)
    (b o : Nat) (hx : a.eval x = .pointer (some ⟨b, o, none⟩)) (d : TypeDesc) (hc : ∀ j, j < 29 → w.cell? ⟨b, o + j, none⟩ = some (c j))
    (hu : P.underlying ty = some d) (hd : d.isRow = true) (hi : (P.info? ty).map (·.size) = some 29) (h : wpList P ops Q rest (a.put op.dst (.agg (rowN 29 c))) w) : wpList P ops Q (op :: rest) a w :=
  wpList_plain hgd fun _ hK => wp_load_mid ty x ho b o hx (rowN 29 c).toList d (fun j v hv => by obtain ⟨hj, rfl⟩ := rowN_list_at hv; exact hc j hj) hu hd (by rw [rowN_list_len]; exact hi) (hK _ _ h)
theorem wpList_load_fr_w {P : Program} {ops : Array Oper} {rest : List Oper} {op : Oper} {a : Act} {w : World} {Q : Exit → Act → World → Prop} (hw : Region.wanted op (yielded ops a.tmps) = true) (c : Nat → Value) (ty : TypeId) (x : Operand) (ho : op.op = .load ty x)
    (b o : Nat) (hx : a.eval x = .pointer (some ⟨b, o, none⟩)) (d : TypeDesc) (hc : ∀ j, j < 29 → w.cell? ⟨b, o + j, none⟩ = some (c j))
    (hu : P.underlying ty = some d) (hd : d.isRow = true) (hi : (P.info? ty).map (·.size) = some 29) (h : wpList P ops Q rest (a.put op.dst (.agg (rowN 29 c))) w) : wpList P ops Q (op :: rest) a w :=
  wpList_step fun K hK => by
    rw [if_pos hw]
    exact wp_load_mid ty x ho b o hx (rowN 29 c).toList d (fun j v hv => by obtain ⟨hj, rfl⟩ := rowN_list_at hv; exact hc j hj) hu hd (by rw [rowN_list_len]; exact hi) (hK _ _ h)
theorem yieldsIf_load_fr {P : Program} {ops : Array Oper} {S : World → Prop} {op : Oper} {a : Act} (c : Nat → Value) (hw : Region.wanted op (yielded ops a.tmps) = true) (ty : TypeId) (x : Operand) (ho : op.op = .load ty x)
    (b o : Nat) (hx : a.eval x = .pointer (some ⟨b, o, none⟩)) (d : TypeDesc) (hS : ∀ w, S w → ∀ j, j < 29 → w.cell? ⟨b, o + j, none⟩ = some (c j))
    (hu : P.underlying ty = some d) (hd : d.isRow = true) (hi : (P.info? ty).map (·.size) = some 29) : YieldsIf P ops S op (.agg (rowN 29 c)) a :=
  yieldsIf_load_mid hw ty x ho b o hx (rowN 29 c).toList d (fun w hw' j v hv => by obtain ⟨hj, rfl⟩ := rowN_list_at hv; exact hS w hw' j hj) hu hd (by rw [rowN_list_len]; exact hi)
theorem wpList_store_fr {P : Program} {ops : Array Oper} {rest : List Oper} {op : Oper} {a : Act} {w : World} {Q : Exit → Act → World → Prop} (hgd : op.guard = none) (c : Nat → Value) (ty : TypeId) (x y : Operand) (ho : op.op = .store ty x y)
    (b o : Nat) (hx : a.eval x = .pointer (some ⟨b, o, none⟩)) (hy : a.eval y = .agg (rowN 29 c)) (ht : w.there b o 29) (hi : (P.info? ty).map (·.size) = some 29) (h1 : (rowN 29 c).all (·.oneCell') = true)
    (h : wpList P ops Q rest (a.put op.dst undef) (w.setCells b o (rowN 29 c).toList)) : wpList P ops Q (op :: rest) a w :=
  wpList_plain hgd fun _ hK => wp_store_mid ty x y ho b o (rowN 29 c) hx hy (by rw [rowN_size]; exact ht) (by rw [rowN_size]; exact hi) h1 (hK _ _ h)
end Go.Proofs.Ytlaoamlmpdbmmaa
