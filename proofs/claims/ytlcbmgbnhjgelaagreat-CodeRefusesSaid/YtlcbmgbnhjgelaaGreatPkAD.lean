/- Texts joined: RowsB, LapC, ToneA, TwoL, LapB, Meet, ToneG, SortP, ToneB, ToneC, ToneD. -/
import Derived.Deep.MidRow
import Derived.Laws.MakeOwn
import Derived.Test.YtlcbmgbnhjgelaaGreatChecked
import Derived.ChangeKeysEq
import Derived.BigRegion
import Derived.BigQuiet
import Derived.Test.YtlcbmgbnhjgelaaGreatPkAB
import Derived.Test.YtlcbmgbnhjgelaaGreatPkAC
/- Rows of arrays of integers: cells of a block as a function of the place; read, written and copied in parts. No program. -/
namespace Go.Proofs.YtlcbmgbnhjgelaaGreat
set_option linter.unusedVariables false
set_option maxRecDepth 100000
open Go.RowKit Go.ChangeShapes Go.WideShapes

/-- Numbers as cells, in a list. -/
def rowL (n : Nat) (f : Nat → Int) : List Value := (List.range n).map (blk f)
theorem rowL_len (n : Nat) (f : Nat → Int) : (rowL n f).length = n := by simp [rowL]
theorem rowL_at (n : Nat) (f : Nat → Int) (j : Nat) (h : j < n) : (rowL n f)[j]? = some (.int .i64 (f j)) := by simp [rowL, h, blk]
theorem rowL_get {n : Nat} {f : Nat → Int} {j : Nat} {v : Value} (h : (rowL n f)[j]? = some v) : j < n ∧ v = .int .i64 (f j) := by
  by_cases hj : j < n
  · rw [rowL_at n f j hj] at h; exact ⟨hj, by simpa using h.symm⟩
  · rw [List.getElem?_eq_none (by rw [rowL_len]; omega)] at h; cases h
theorem rowL_one (n : Nat) (f : Nat → Int) : ∀ v ∈ rowL n f, v.oneCell' = true := by
  intro v hv
  obtain ⟨i, _, rfl⟩ := List.mem_map.1 hv
  rfl
theorem rowN_rowL (n : Nat) (f : Nat → Int) : rowN n (blk f) = (rowL n f).toArray := rfl
theorem rowL_ext (n : Nat) (f g : Nat → Int) (h : ∀ k, k < n → f k = g k) : rowL n f = rowL n g := List.map_congr_left fun k hk => by unfold blk; rw [h k (List.mem_range.1 hk)]

/-- Block g holds these m numbers from its head on, and they may be written. -/
structure CellsAt (w : World) (g m : Nat) (F : Nat → Int) : Prop where
  lt : g < w.heap.size
  cell : ∀ j, j < m → w.cell? ⟨g, j, none⟩ = some (.int .i64 (F j))
  frz : ∀ j, j < m → w.frozen? ⟨g, j, none⟩ = false
/-- F with n numbers of f laid over it from o on. -/
def patch (F : Nat → Int) (o n : Nat) (f : Nat → Int) : Nat → Int := fun j => if o ≤ j ∧ j < o + n then f (j - o) else F j
theorem setCells_heap_other (b : Nat) : ∀ (vs : List Value) (o : Nat) (w : World) (k : Nat), k ≠ b → (w.setCells b o vs).heap[k]? = w.heap[k]?
  | [], _, _, _, _ => rfl
  | v :: r, o, w, k, h => by
    rw [World.setCells, setCells_heap_other b r (o + 1) _ k h]
    exact Below.heap_setCell _ _ _ _ h
theorem setCells_size (b : Nat) : ∀ (vs : List Value) (o : Nat) (w : World), (w.setCells b o vs).heap.size = w.heap.size
  | [], _, _ => rfl
  | v :: r, o, w => by rw [World.setCells, setCells_size b r (o + 1) _]; simp [World.setCell]
theorem setCells_os (b : Nat) : ∀ (vs : List Value) (o : Nat) (w : World), (w.setCells b o vs).os = w.os ∧ (w.setCells b o vs).output = w.output
  | [], _, _ => ⟨rfl, rfl⟩
  | v :: r, o, w => by rw [World.setCells]; exact setCells_os b r (o + 1) _
theorem Kept.setCells {X : Nat → Prop} (w : World) {b : Nat} (hb : ¬ X b) (o : Nat) (vs : List Value) : Kept X w (w.setCells b o vs) :=
  ⟨(setCells_os b vs o w).1, (setCells_os b vs o w).2, by rw [setCells_size]; exact Nat.le_refl _, fun k hk => setCells_heap_other _ _ _ _ _ (fun e => hb (e ▸ hk))⟩
namespace CellsAt
variable {w w' : World} {g m : Nat} {F : Nat → Int} {Y : Nat → Prop}
theorem kept (h : CellsAt w g m F) (k : Kept Y w w') (hY : Y g) : CellsAt w' g m F :=
  ⟨Nat.lt_of_lt_of_le h.lt k.size, fun j hj => (k.cell (a := ⟨g, j, none⟩) hY).trans (h.cell j hj), fun j hj => (k.frozen (a := ⟨g, j, none⟩) hY).trans (h.frz j hj)⟩
theorem old (h : CellsAt w g m F) (k : Old w w') : CellsAt w' g m F := h.kept k h.lt
theorem drewN (h : CellsAt w g m F) (n : Nat) : CellsAt (w.drewN n) g m F := ⟨h.lt, h.cell, h.frz⟩
theorem drew (h : CellsAt w g m F) : CellsAt w.drew g m F := ⟨h.lt, h.cell, h.frz⟩
theorem ext {G : Nat → Int} (h : CellsAt w g m F) (e : ∀ j, j < m → F j = G j) : CellsAt w g m G := ⟨h.lt, fun j hj => by rw [← e j hj]; exact h.cell j hj, h.frz⟩
theorem less (h : CellsAt w g m F) {n : Nat} (hn : n ≤ m) : CellsAt w g n F := ⟨h.lt, fun j hj => h.cell j (by omega), fun j hj => h.frz j (by omega)⟩
theorem set (h : CellsAt w g m F) (j : Nat) (hj : j < m) (v : Int) : CellsAt (w.setCell ⟨g, j, none⟩ (.int .i64 v)) g m (fun k => if k = j then v else F k) := by
  refine ⟨by have := h.lt; simpa [World.setCell] using this, fun k hk => ?_, fun k hk => by rw [World.frozen?_setCell]; exact h.frz k hk⟩
  by_cases e : k = j
  · subst e; rw [World.cell?_setCell_same _ _ _ (h.cell k hk), if_pos rfl]
  · rw [World.cell?_setCell_other _ _ _ _ (fun e' => e (by injection e' with _ e2; exact e2.symm)), if_neg e]; exact h.cell k hk
theorem setOther (h : CellsAt w g m F) {a : Addr} (ha : a.block ≠ g) (v : Value) : CellsAt (w.setCell a v) g m F :=
  h.kept (Y := fun k => k ≠ a.block) (Kept.setCell w (fun e => e rfl) v) (fun e => ha e.symm)
theorem there (h : CellsAt w g m F) (o n : Nat) (hn : o + n ≤ m) : w.there g o n := fun j hj => ⟨by rw [h.cell (o + j) (by omega)]; rfl, h.frz (o + j) (by omega)⟩
theorem setCells (h : CellsAt w g m F) (o n : Nat) (hn : o + n ≤ m) (f : Nat → Int) : CellsAt (w.setCells g o (rowL n f)) g m (patch F o n f) := by
  refine ⟨by rw [setCells_size]; exact h.lt, fun k hk => ?_, fun k hk => by rw [World.frozen?_setCells]; exact h.frz k hk⟩
  unfold patch
  by_cases e : o ≤ k ∧ k < o + n
  · rw [if_pos e]
    have h1 := World.cell?_setCells_in g (rowL n f) o w (fun i hi => by rw [rowL_len] at hi; rw [h.cell (o + i) (by omega)]; rfl) (k - o) (by rw [rowL_len]; omega)
    rw [show o + (k - o) = k by omega] at h1
    rw [h1, ← List.getElem?_eq_getElem, rowL_at n f (k - o) (by omega)]
  · rw [if_neg e, World.cell?_setCells_out g (rowL n f) o w ⟨g, k, none⟩ (fun _ _ => by rw [rowL_len]; show k < o ∨ o + n ≤ k; omega)]
    exact h.cell k hk
theorem setCellsOther (h : CellsAt w g m F) {b : Nat} (hb : b ≠ g) (o : Nat) (vs : List Value) : CellsAt (w.setCells b o vs) g m F :=
  h.kept (Y := fun k => k ≠ b) (Kept.setCells w (fun e => e rfl) o vs) (fun e => hb e.symm)
end CellsAt
theorem cellsAt_new (w : World) (m : Nat) (F : Nat → Int) (t : TypeId) : CellsAt (w.alloc (.cells (rowN m (blk F)) t)) w.heap.size m F :=
  ⟨by simp, fun j hj => cell_new w m t (blk F) j hj, fun j hj => frozen_of_row _ _ _ _ _ (heap_alloc_new _ _)⟩
theorem cellsAt_of {w : World} {g m : Nat} {F : Nat → Int} {t : TypeId} (h : w.heap[g]? = some (.cells (rowN m (blk F)) t (0, 0))) : CellsAt w g m F :=
  ⟨lt_of_block h, fun j hj => (cell_of_row _ _ _ _ _ _ h).trans (rowN_at m (blk F) j hj), fun j hj => frozen_of_row _ _ _ _ _ h⟩

/-- A whole array out of the middle of a block: the operation, and at a list. -/
theorem wp_load_blk {P : Program} {op : Oper} {a : Act} {w : World} {K : Act → World → Prop} {Q : Exit → Act → World → Prop} (n : Nat) (f : Nat → Int) (ty : TypeId) (x : Operand) (ho : op.op = .load ty x)
    (b o : Nat) (hx : a.eval x = .pointer (some ⟨b, o, none⟩)) (d : TypeDesc) (hc : ∀ j, j < n → w.cell? ⟨b, o + j, none⟩ = some (.int .i64 (f j)))
    (hu : P.underlying ty = some d) (hd : d.isRow = true) (hi : (P.info? ty).map (·.size) = some n) (h : K (a.put op.dst (.agg (rowN n (blk f)))) w) : op.wp P a w K Q :=
  wp_load_mid ty x ho b o hx (rowL n f) d (fun j v hv => by obtain ⟨hj, rfl⟩ := rowL_get hv; exact hc j hj) hu hd (by rw [rowL_len]; exact hi) h
theorem wpList_load_blk {P : Program} {ops : Array Oper} {rest : List Oper} {op : Oper} {a : Act} {w : World} {Q : Exit → Act → World → Prop} (hgd : op.guard = none) (n : Nat) (f : Nat → Int) (ty : TypeId) (x : Operand) (ho : op.op = .load ty x)
    (b o : Nat) (hx : a.eval x = .pointer (some ⟨b, o, none⟩)) (d : TypeDesc) (hc : ∀ j, j < n → w.cell? ⟨b, o + j, none⟩ = some (.int .i64 (f j)))
    (hu : P.underlying ty = some d) (hd : d.isRow = true) (hi : (P.info? ty).map (·.size) = some n) (h : wpList P ops Q rest (a.put op.dst (.agg (rowN n (blk f)))) w) : wpList P ops Q (op :: rest) a w :=
  wpList_plain hgd fun _ hK => wp_load_blk n f ty x ho b o hx d hc hu hd hi (hK _ _ h)
theorem yieldsIf_load_blk {P : Program} {ops : Array Oper} {S : World → Prop} {op : Oper} {a : Act} (n : Nat) (f : Nat → Int) (hw : Region.wanted op (yielded ops a.tmps) = true) (ty : TypeId) (x : Operand) (ho : op.op = .load ty x)
    (b o : Nat) (hx : a.eval x = .pointer (some ⟨b, o, none⟩)) (d : TypeDesc) (hS : ∀ w, S w → ∀ j, j < n → w.cell? ⟨b, o + j, none⟩ = some (.int .i64 (f j)))
    (hu : P.underlying ty = some d) (hd : d.isRow = true) (hi : (P.info? ty).map (·.size) = some n) : YieldsIf P ops S op (.agg (rowN n (blk f))) a :=
  yieldsIf_load_mid hw ty x ho b o hx (rowL n f) d (fun w hw' j v hv => by obtain ⟨hj, rfl⟩ := rowL_get hv; exact hS w hw' j hj) hu hd (by rw [rowL_len]; exact hi)
/-- A whole array into the middle of a block. -/
theorem wp_store_blk {P : Program} {op : Oper} {a : Act} {w : World} {K : Act → World → Prop} {Q : Exit → Act → World → Prop} (n : Nat) (f : Nat → Int) (ty : TypeId) (x y : Operand) (ho : op.op = .store ty x y)
    (b o : Nat) (hx : a.eval x = .pointer (some ⟨b, o, none⟩)) (hy : a.eval y = .agg (rowN n (blk f))) (ht : w.there b o n) (hi : (P.info? ty).map (·.size) = some n)
    (h : K (a.put op.dst undef) (w.setCells b o (rowL n f))) : op.wp P a w K Q :=
  wp_store_mid ty x y ho b o (rowN n (blk f)) hx hy (by rw [rowN_size]; exact ht) (by rw [rowN_size]; exact hi) (blk_one _ _) h
theorem wpList_store_blk {P : Program} {ops : Array Oper} {rest : List Oper} {op : Oper} {a : Act} {w : World} {Q : Exit → Act → World → Prop} (hgd : op.guard = none) (n : Nat) (f : Nat → Int) (ty : TypeId) (x y : Operand) (ho : op.op = .store ty x y)
    (b o : Nat) (hx : a.eval x = .pointer (some ⟨b, o, none⟩)) (hy : a.eval y = .agg (rowN n (blk f))) (ht : w.there b o n) (hi : (P.info? ty).map (·.size) = some n)
    (h : wpList P ops Q rest (a.put op.dst undef) (w.setCells b o (rowL n f))) : wpList P ops Q (op :: rest) a w :=
  wpList_plain hgd fun _ hK => wp_store_blk n f ty x y ho b o hx hy ht hi (hK _ _ h)
/-- copy between slices of integers of which the shorter has n. -/
theorem wpList_copy_blk {P : Program} {w : World} {ops : Array Oper} {rest : List Oper} {o : Oper} {a : Act} {Q : Exit → Act → World → Prop} (hgd : o.guard = none) (d s : Operand) (dT sT : TypeId)
    (ho : o.op = .call { callee := .builtin .copy, args := #[d, s], argTypes := #[dT, sT] }) (elem : TypeId) (hu : P.underlying dT = some (.slice elem)) (hsz : (P.info? elem).map (·.size) = some 1)
    (n : Nat) (f : Nat → Int) (g off dLen dCap b so sLen sCap : Nat) (hd : a.eval d = .slice (some ⟨g, off, none⟩) dLen dCap) (hs : a.eval s = .slice (some ⟨b, so, none⟩) sLen sCap) (hn : n = Nat.min sLen dLen)
    (hsrc : ∀ j, j < n → w.cell? ⟨b, so + j, none⟩ = some (.int .i64 (f j))) (ht : w.there g off n)
    (h : wpList P ops Q rest (a.put o.dst (goInt n)) (w.setCells g off (rowL n f))) : wpList P ops Q (o :: rest) a w := by
  refine wpList_plain hgd fun K hK => ?_
  have hrun := run_copy_cells (P := P) w dT sT o.type elem g off dLen dCap ⟨b, so, none⟩ sLen sCap (rowL n f) hu hsz (by rw [rowL_len]; exact hn)
    (fun j v hv => by obtain ⟨hj, rfl⟩ := rowL_get hv; rw [add_plain]; exact hsrc j hj) (fun j hj => (ht j (by rw [rowL_len] at hj; exact hj)).1) (fun j hj => (ht j (by rw [rowL_len] at hj; exact hj)).2) (rowL_one n f)
  rw [rowL_len] at hrun
  unfold Oper.wp
  simp [execOp, ho, resolve, invoke, builtin, hd, hs, hrun, Result.andThen]
  exact hK _ _ h

/-- A slice of n rows of s numbers each, of the call's own, outside X: they lie from a block's head on. -/
def OwnR (s : Nat) (X : Nat → Prop) (w : World) (p : Option Addr) (n : Nat) (F : Nat → Int) : Prop := 0 < n → ∃ g, p = some ⟨g, 0, none⟩ ∧ ¬ X g ∧ CellsAt w g (s * n) F
/-- A slice of n rows of s numbers each, to be read. -/
def SlF (s : Nat) (w : World) (p : Option Addr) (n : Nat) (F : Nat → Int) : Prop := 0 < n → ∃ g o, p = some ⟨g, o, none⟩ ∧ g < w.heap.size ∧ ∀ j, j < s * n → w.cell? ⟨g, o + j, none⟩ = some (.int .i64 (F j))
namespace OwnR
variable {s n : Nat} {X Y : Nat → Prop} {w w' : World} {p : Option Addr} {F : Nat → Int}
theorem old (h : OwnR s X w p n F) (k : Old w w') : OwnR s X w' p n F := fun hn => by obtain ⟨g, h1, h2, h3⟩ := h hn; exact ⟨g, h1, h2, h3.old k⟩
theorem drewN (h : OwnR s X w p n F) (d : Nat) : OwnR s X (w.drewN d) p n F := fun hn => by obtain ⟨g, h1, h2, h3⟩ := h hn; exact ⟨g, h1, h2, h3.drewN d⟩
theorem drew (h : OwnR s X w p n F) : OwnR s X w.drew p n F := fun hn => by obtain ⟨g, h1, h2, h3⟩ := h hn; exact ⟨g, h1, h2, h3.drew⟩
theorem mono (h : OwnR s X w p n F) (hY : ∀ k, Y k → X k) : OwnR s Y w p n F := fun hn => by obtain ⟨g, h1, h2, h3⟩ := h hn; exact ⟨g, h1, fun e => h2 (hY g e), h3⟩
theorem ext {G : Nat → Int} (h : OwnR s X w p n F) (e : ∀ j, j < s * n → F j = G j) : OwnR s X w p n G := fun hn => by obtain ⟨g, h1, h2, h3⟩ := h hn; exact ⟨g, h1, h2, h3.ext e⟩
theorem sl (h : OwnR s X w p n F) : SlF s w p n F := fun hn => by
  obtain ⟨g, h1, h2, h3⟩ := h hn
  exact ⟨g, 0, h1, h3.lt, fun j hj => by rw [Nat.zero_add]; exact h3.cell j hj⟩
end OwnR
namespace SlF
variable {s n : Nat} {w w' : World} {p : Option Addr} {F : Nat → Int}
theorem old (h : SlF s w p n F) (k : Old w w') : SlF s w' p n F := fun hn => by
  obtain ⟨g, o, h1, h2, h3⟩ := h hn
  exact ⟨g, o, h1, Nat.lt_of_lt_of_le h2 k.size, fun j hj => (k.cell (a := ⟨g, o + j, none⟩) h2).trans (h3 j hj)⟩
theorem drewN (h : SlF s w p n F) (d : Nat) : SlF s (w.drewN d) p n F := h
theorem drew (h : SlF s w p n F) : SlF s w.drew p n F := h
theorem ext {G : Nat → Int} (h : SlF s w p n F) (e : ∀ j, j < s * n → F j = G j) : SlF s w p n G := fun hn => by
  obtain ⟨g, o, h1, h2, h3⟩ := h hn
  exact ⟨g, o, h1, h2, fun j hj => by rw [← e j hj]; exact h3 j hj⟩
end SlF
/-- A new row of zeroes. -/
theorem made_rowN (n : Nat) (z : Array Value) (hz : z.size ≠ 0) (h : ∀ j, j < z.size → z[j]? = some (.int .i64 0)) : madeCells z n = rowN n (blk fun _ => 0) := by
  apply Array.ext_getElem?
  intro i
  by_cases hi : i < n
  · rw [blk_at n _ i hi]
    have hm : i % z.size < z.size := Nat.mod_lt _ (by omega)
    have := h _ hm
    rw [Array.getElem?_eq_getElem hm] at this
    simp [madeCells, hi, hm] 
    simpa using this
  · rw [Array.getElem?_eq_none (by rw [size_madeCells]; omega), Array.getElem?_eq_none (by rw [rowN_size]; omega)]
/-- The integers of a slice that reads as a list. -/
theorem SlI.slF {w : World} {p : Option Addr} {n cap : Nat} {xs : List Int} (h : SlI w .i64 (.slice p n cap) xs) : SlF 1 w p n (fun j => xs.getD j 0) := fun hn => by
  obtain ⟨p', cap', he, hc⟩ := h
  simp only [Value.slice.injEq] at he
  obtain ⟨rfl, rfl, rfl⟩ := he
  obtain ⟨b, off, h1, h2, _, _, h3⟩ := hc (fun e => by subst e; simp at hn)
  exact ⟨b, off, h1, h2, fun j hj => h3 j (by omega)⟩
/-- A slice, cut below; an array behind a pointer, whole, above and below. -/
theorem slice_lo {P : Program} {t : TypeId} (ht : P.underlying t = some (.slice (P.elem t))) (hz : ∀ w, (sizeOf (P.elem t)).run P w = .ok 1 w) (b o n cap k : Nat) (hk : k < n) (hn : n ≤ cap) (l : Int) (hl : l = k) (w : World) :
    (Instr.sliceAt t (.slice (some ⟨b, o, none⟩) n cap) (some (.int .i64 l)) none none).run P w = .ok (.slice (some ⟨b, o + k, none⟩) (n - k) (cap - k)) w := by
  subst hl
  rw [run_sliceAt_slice _ _ _ _ _ _ ht, run_slice_l _ _ _ _ _ ht _ _ (by omega) (by omega), hz]
  simp only [Result.andThen_ok, sliced, Int.toNat_natCast, Option.map, Nat.mul_one]
  rw [if_neg (by omega), add_plain]
theorem slice_arr_all {P : Program} {t : TypeId} (n : Nat) (ht : P.underlying t = some (.array (P.arrayLen t) (P.elem t))) (hl : P.arrayLen t = n) (hz : ∀ w, (sizeOf (P.elem t)).run P w = .ok 1 w) (hn : 0 < n) (b o : Nat) (w : World) :
    (Instr.sliceAt t (.pointer (some ⟨b, o, none⟩)) none none none).run P w = .ok (.slice (some ⟨b, o, none⟩) n n) w := by
  rw [run_sliceAt_array_all w t _ ht, hz, hl]
  simp only [Result.andThen_ok, slicedAt]
  rw [if_neg (by omega), add_plain]
  rfl
theorem slice_arr_lo {P : Program} {t : TypeId} (n k : Nat) (ht : P.underlying t = some (.array (P.arrayLen t) (P.elem t))) (hl : P.arrayLen t = n) (hz : ∀ w, (sizeOf (P.elem t)).run P w = .ok 1 w) (hn : k < n) (b o : Nat) (w : World) :
    (Instr.sliceAt t (.pointer (some ⟨b, o, none⟩)) (some (.int .i64 k)) none none).run P w = .ok (.slice (some ⟨b, o + k, none⟩) (n - k) (n - k)) w := by
  rw [run_sliceAt_array_l w t _ ht _ _ (by omega) (by rw [hl]; omega), hz, hl]
  simp only [Result.andThen_ok, slicedAt, Int.toNat_natCast]
  rw [if_neg (by omega), add_plain, Nat.mul_one]
theorem slice_arr_hi {P : Program} {t : TypeId} (n k : Nat) (ht : P.underlying t = some (.array (P.arrayLen t) (P.elem t))) (hl : P.arrayLen t = n) (hz : ∀ w, (sizeOf (P.elem t)).run P w = .ok 1 w) (hn : k ≤ n) (h0 : 0 < n) (b o : Nat) (w : World) :
    (Instr.sliceAt t (.pointer (some ⟨b, o, none⟩)) none (some (.int .i64 k)) none).run P w = .ok (.slice (some ⟨b, o, none⟩) k n) w := by
  rw [run_sliceAt_array_h w t _ ht _ _ (by omega) (by rw [hl]; omega), hz, hl]
  simp only [Result.andThen_ok, slicedAt, Int.toNat_natCast]
  rw [if_neg (by omega), add_plain]
  rfl
/-- A literal whose value is known. -/
theorem wpList_build_run {P : Program} {ops : Array Oper} {rest : List Oper} {o : Oper} {a : Act} {w : World} {Q : Exit → Act → World → Prop} (hgd : o.guard = none) (t : TypeId) (parts : Array (Nat × Operand)) (ho : o.op = .build t parts) (v : Value)
    (hr : (Instr.build t (parts.map fun x => (x.1, a.eval x.2))).run P w = .ok v w) (h : wpList P ops Q rest (a.put o.dst v) w) : wpList P ops Q (o :: rest) a w :=
  wpList_plain hgd fun K hK => by
    unfold Oper.wp execOp
    simp only [ho, Sem.run_bind, hr, Result.andThen_ok]
    exact hK _ _ h
/-- A place's block, and its place there. -/
theorem place16 (k N : Nat) (hk : k < N * 16) (hN : N ≤ 17179869184) : ∃ a b : Nat, k = a * 16 + b ∧ b < 16 ∧ a < N ∧ Hid (a = k / 16 ∧ b = k % 16) ∧
    wrap64 ((k : Int).tdiv 16) = a ∧ wrap64 ((k : Int).tmod 16) = b ∧ Value.int .i64 ((k : Int) / 16) = .int .i64 a ∧ Value.int .i64 ((k : Int) % 16) = .int .i64 b := by
  have e0 : k = k / 16 * 16 + k % 16 := by omega
  have eb : k % 16 < 16 := by omega
  have ea : k / 16 < N := by omega
  have e1 : (k : Int) / 16 = ((k / 16 : Nat) : Int) := by omega
  have e2 : (k : Int) % 16 = ((k % 16 : Nat) : Int) := by omega
  have e3 : wrap64 ((k / 16 : Nat) : Int) = ((k / 16 : Nat) : Int) := IntWalk.wrap64_in _ (by omega)
  have e4 : wrap64 ((k % 16 : Nat) : Int) = ((k % 16 : Nat) : Int) := IntWalk.wrap64_in _ (by omega)
  have t1 : (k : Int).tdiv 16 = ((k / 16 : Nat) : Int) := (tdiv_pos _ _ (by omega)).trans e1
  have t2 : (k : Int).tmod 16 = ((k % 16 : Nat) : Int) := (tmod_pos _ _ (by omega)).trans e2
  exact ⟨k / 16, k % 16, e0, eb, ea, ⟨rfl, rfl⟩, by rw [t1]; exact e3, by rw [t2]; exact e4, by rw [e1], by rw [e2]⟩
end Go.Proofs.YtlcbmgbnhjgelaaGreat

/- Package lap, third part: the laps' turns as a value: lift.New, net.New, lap.New; lift.Flip; Pairs.count. -/
namespace Go.Proofs.YtlcbmgbnhjgelaaGreat
set_option linter.unusedVariables false
set_option maxRecDepth 100000
open Go.RowKit

theorem Flip_any (p : Option Addr) (n cap : Nat) (xs : List Int) (w : World) (hs : SlI w .i64 (.slice p n cap) xs) (hn : n ≤ 1099511627776) :
    Calls Tryz.prog 76 #[.slice p n cap] w fun e w' => ∃ v, e = .returned v ∧ OwnL .i64 2 (fun q => q < w.heap.size) w' v xs.reverse ∧ Old w w' := by
  have hC := Lib.hid (Clone_any p n cap xs w hs hn)
  clear hs
  go_enter Tryz.func76, Tryz.ntmps76
  go_wp2_with fail
  refine hC.out.mono ?_
  rintro e w1 ⟨v, rfl, hv, ho⟩
  have hR := Lib.hid (Reverse_any _ v xs w1 hv (fun q hq => Nat.lt_of_lt_of_le hq ho.size))
  have HO := Lib.hid ho
  clear hv ho
  go_wp2_with fail
  refine hR.out.mono ?_
  rintro e w2 ⟨rfl, h2, hk⟩
  have H2 := Lib.hid h2
  have HO2 := Lib.hid (HO.out.after hk (fun _ h => h))
  clear h2 hk
  go_wp2
  go_ret
  exact ⟨_, rfl, H2.out, HO2.out⟩
theorem NNew_any (w : World) : Calls Tryz.prog 39 #[] w fun e w' => e = .returned (.agg #[]) ∧ Old w w' := by
  go_enter Tryz.func39, Tryz.ntmps39
  go_wp2
  refine bodyPost_ret (results_cell_row rfl _ _ w.heap.size 45 _ (0, 0) _ rfl (heap_alloc_new _ _) Tryz.underlying45 rfl (by kernel_rfl)) rfl ⟨rfl, Old.alloc _ _⟩
/-- The table's turns, as the cells of pairs and of a lap. -/
def T8 : Array Value := rowN 16 (turnF 8)
theorem T8_size : T8.size = 16 := rowN_size _ _
theorem T8_one : T8.all (·.oneCell') = true := rowN_one _ _ fun _ _ => rfl
theorem T8_at (k : Nat) (h : k < 8) : T8[k * 2]? = some (.int .i64 (turnP k)) ∧ T8[k * 2 + 1]? = some (.int .i64 (turnU k)) := by
  unfold T8
  rw [rowN_at _ _ _ (by omega), rowN_at _ _ _ (by omega)]
  unfold turnF turnC
  rw [if_pos (by omega), if_pos (by omega), if_pos (by omega), if_neg (by omega), show k * 2 / 2 = k by omega, show (k * 2 + 1) / 2 = k by omega]
  exact ⟨rfl, rfl⟩
set_option maxRecDepth 100000 in
theorem LNew_any (w : World) : Calls Tryz.prog 37 #[.agg T8] w fun e w' => e = .returned (.agg T8) ∧ Old w w' := by
  have hF : Array.foldl (fun (cs : Array Value) (x : Value × Nat) => cs.setIfInBounds x.snd x.fst) #[.int .i64 0, .int .i64 0, .int .i64 0, .int .i64 0, .int .i64 0, .int .i64 0, .int .i64 0, .int .i64 0, .int .i64 0, .int .i64 0, .int .i64 0, .int .i64 0, .int .i64 0, .int .i64 0, .int .i64 0, .int .i64 0] T8.zipIdx 0 16 = T8 := by kernel_rfl
  have h1 := Lib.hid T8_one
  have hs := T8_size
  have HB := heap_alloc_new w (.cells T8 41)
  have HZ : Hid ((Tryz.prog.info? 41).map (·.size) = some 16) := Lib.hid (by kernel_rfl)
  have HZ2 : Hid ((Tryz.prog.info? 43).map (·.size) = some 16) := Lib.hid (by kernel_rfl)
  have HB := Lib.hid HB
  generalize T8 = R at *
  go_enter Tryz.func37, Tryz.ntmps37
  go_wp2_with (first
    | (with_reducible refine wpList_load_row rfl 41 _ rfl w.heap.size rfl 41 R (0, 0) _ (heap_alloc2_old w _ _) Tryz.underlying41 rfl (by rw [hs]; exact HZ.out) ?_)
    | (with_reducible refine wpList_store_row rfl 43 _ _ rfl (w.heap.size + 1) R rfl rfl 43 _ (heap_alloc2_new w _ _) (by rw [hs]; exact HZ2.out) (by rw [hs]; kernel_rfl) h1.out ?_))
  refine bodyPost_ret (results_cell_row rfl _ _ (w.heap.size + 1) 43 R (0, 0) _ rfl (setRow_heap _ _ _ _ _ _ (heap_alloc2_new w _ _)) Tryz.underlying43 rfl (by rw [hs]; exact HZ2.out)) rfl ⟨rfl, ?_⟩
  exact ((Old.alloc w _).alloc' _).after (X := fun k => k < w.heap.size) ⟨rfl, rfl, by simp, fun k hk => setRow_other _ _ _ _ (by omega)⟩ fun _ h => h
set_option maxRecDepth 100000 in
theorem LapNew_any (w : World) : Calls Tryz.prog 17 #[] w fun e w' => e = .returned (.agg T8) ∧ Old w w' := by
  have hF : Array.foldl (fun (cs : Array Value) (x : Value × Nat) => cs.setIfInBounds x.snd x.fst) #[.int .i64 0, .int .i64 0, .int .i64 0, .int .i64 0, .int .i64 0, .int .i64 0, .int .i64 0, .int .i64 0, .int .i64 0, .int .i64 0, .int .i64 0, .int .i64 0, .int .i64 0, .int .i64 0, .int .i64 0, .int .i64 0] T8.zipIdx 0 16 = T8 := by kernel_rfl
  have h1 := Lib.hid T8_one
  have hs := T8_size
  have hT := Lib.hid (fun w => Turns_any w)
  have hL := Lib.hid (fun w => LNew_any w)
  have hN := Lib.hid (fun w => NNew_any w)
  rw [show rowN 16 (turnF 8) = T8 from rfl] at hT
  have HZ : Hid ((Tryz.prog.info? 47).map (·.size) = some 16) := Lib.hid (by kernel_rfl)
  generalize T8 = R at *
  go_enter Tryz.func17, Tryz.ntmps17
  go_wp2_with fail
  refine (hT.out _).mono ?_
  rintro e w1 ⟨rfl, ho1⟩
  go_wp2_with fail
  refine (hL.out _).mono ?_
  rintro e w2 ⟨rfl, ho2⟩
  go_wp2_with fail
  refine (hN.out _).mono ?_
  rintro e w3 ⟨rfl, ho3⟩
  have HO := Lib.hid ((ho1.trans ho2).trans ho3)
  clear ho1 ho2 ho3
  obtain ⟨z, hz⟩ : ∃ z : Array Value, z = #[.int .i64 0, .int .i64 0, .int .i64 0, .int .i64 0, .int .i64 0, .int .i64 0, .int .i64 0, .int .i64 0, .int .i64 0, .int .i64 0, .int .i64 0, .int .i64 0, .int .i64 0, .int .i64 0, .int .i64 0, .int .i64 0] := ⟨_, rfl⟩
  have hzs : z.size = 16 := by rw [hz]; rfl
  rw [← hz] at HO
  have hb : Hid (w3.heap[w.heap.size]? = some (.cells z 47 (0, 0))) := (HO.out.block _ (by simp)).trans (heap_alloc_new _ _)
  have HZZ := Lib.hid hz
  clear hz
  go_wp2_with (with_reducible refine wpList_store_row rfl 47 _ _ rfl w.heap.size R rfl rfl 47 _ hb.out (by rw [hs]; exact HZ.out) (by rw [hs]; exact hzs) h1.out ?_)
  refine bodyPost_ret (results_cell_row rfl _ _ w.heap.size 47 R (0, 0) _ rfl (setRow_heap _ _ _ _ _ _ hb.out) Tryz.underlying47 rfl (by rw [hs]; exact HZ.out)) rfl ⟨rfl, ?_⟩
  exact ((Old.alloc w _).trans HO.out).after (X := fun k => k < w.heap.size) ⟨rfl, rfl, by simp, fun k hk => setRow_other _ _ _ _ (by omega)⟩ fun _ h => h
theorem count_any (p q : Option Addr) (c d : Nat) (w : World) :
    Calls Tryz.prog 77 #[.agg T8, .slice p 8 c, .slice q 8 d] w fun e w' => e = .returned (.int .i64 8) ∧ Old w w' := by
  generalize T8 = R at *
  go_enter Tryz.func77, Tryz.ntmps77
  go_wp2
  go_ret
  exact ⟨rfl, Old.alloc _ _⟩
/-- Where a lap's Net lies: it has no cells. -/
theorem net_part (w : World) (bx : Nat) (c : Array Value) (h : w.heap[bx]? = some (.cells c 47 (0, 0))) : (partAt ⟨bx, 0, none⟩ 16 128).run Tryz.prog w = .ok ⟨bx, 16, some 128⟩ w := by
  have h1 : Tryz.prog.cellsOf 47 = 16 := by kernel_rfl
  have h2 : Tryz.prog.bytesOf 47 = 136 := by kernel_rfl
  have h3 : byteOfCell Tryz.prog Tryz.prog.depth 47 0 = some 0 := by kernel_rfl
  have hs : w.shape? bx = some (47, c.size) := by unfold World.shape?; rw [h]
  simp [partAt, byteOf, noView, viewAt, hs, h1, h2, h3]
end Go.Proofs.YtlcbmgbnhjgelaaGreat

/- Package tone's contracts, first part: which places of a spectrum are tones. -/
namespace Go.Proofs.YtlcbmgbnhjgelaaGreat
set_option linter.unusedVariables false
set_option maxRecDepth 100000
open Go.RowKit

theorem foldl_peak_le (xs : List Int) : ∀ a c : Int, xs.foldl (fun p v => max p (absI v)) a ≤ c ↔ a ≤ c ∧ ∀ x ∈ xs, absI x ≤ c := by
  induction xs with
  | nil => intro a c; simp
  | cons x r ih =>
    intro a c
    rw [List.foldl_cons, ih]
    simp only [List.mem_cons, forall_eq_or_imp]
    constructor
    · rintro ⟨h1, h2⟩; exact ⟨by omega, by omega, h2⟩
    · rintro ⟨h1, h2, h3⟩; exact ⟨by omega, h3⟩
theorem peakL_le (xs : List Int) (c : Int) : peakL xs ≤ c ↔ 0 ≤ c ∧ ∀ x ∈ xs, absI x ≤ c := foldl_peak_le xs 0 c
theorem mem_part {f : Nat → Int} {a n : Nat} {x : Int} : x ∈ part f a n ↔ ∃ j, j < n ∧ f (a + j) = x := by simp [part]

/-- A place of a spectrum is a tone. -/
def isT (f : Nat → Int) (i : Nat) : Prop := i < 16 ∧ 64 ≤ absI (f i) ∧ ∀ k, k < 16 → k / 4 = i / 4 → k ≠ i → absI (f k) ≤ absI (f i) / 8
instance (f : Nat → Int) (i : Nat) : Decidable (isT f i) := by unfold isT; infer_instance
def isI (f : Nat → Int) (i : Int) : Prop := 0 ≤ i ∧ isT f i.toNat
instance (f : Nat → Int) (i : Int) : Decidable (isI f i) := by unfold isI; infer_instance
theorem isI_nat (f : Nat → Int) (k : Nat) : decide (isI f k) = decide (isT f k) := by
  apply decide_eq_decide.2
  unfold isI
  rw [Int.toNat_natCast]
  exact ⟨fun h => h.2, fun h => ⟨by omega, h⟩⟩
theorem isT_congr {f g : Nat → Int} (h : ∀ k, k < 16 → f k = g k) (i : Nat) : isT f i ↔ isT g i := by
  unfold isT
  constructor
  · rintro ⟨h1, h2, h3⟩
    rw [h i h1] at h2 h3
    exact ⟨h1, h2, fun k hk a b => by rw [← h k hk]; exact h3 k hk a b⟩
  · rintro ⟨h1, h2, h3⟩
    rw [← h i h1] at h2 h3
    exact ⟨h1, h2, fun k hk a b => by rw [h k hk]; exact h3 k hk a b⟩
/-- The others' peak is that of the band whose own number was taken away. -/
def butF (f : Nat → Int) (i : Nat) : Nat → Int := fun k => if k = i then 0 else f k
theorem isT_peak (f : Nat → Int) (i : Nat) (hi : i < 16) (h64 : 64 ≤ absI (f i)) : isT f i ↔ peakL (part (butF f i) (i / 4 * 4) 4) ≤ absI (f i) / 8 := by
  rw [peakL_le]
  have e0 : absI 0 = 0 := by decide
  constructor
  · rintro ⟨_, _, h⟩
    refine ⟨by omega, fun x hx => ?_⟩
    obtain ⟨j, hj, rfl⟩ := mem_part.1 hx
    unfold butF
    by_cases e : i / 4 * 4 + j = i
    · rw [if_pos e, e0]; omega
    · rw [if_neg e]; exact h _ (by omega) (by omega) e
  · rintro ⟨_, h⟩
    refine ⟨hi, h64, fun k hk hb hne => ?_⟩
    have := h (f k) (mem_part.2 ⟨k - i / 4 * 4, by omega, by unfold butF; rw [show i / 4 * 4 + (k - i / 4 * 4) = k by omega, if_neg hne]⟩)
    exact this
theorem butF_fits {f : Nat → Int} (h : Fits64 f) (i : Nat) : Fits64 (butF f i) := fun k => by
  unfold butF
  split
  · omega
  · exact h k
theorem isPlace_any (i : Int) (w : World) :
    Calls Tryz.prog 127 #[.int .i64 i] w fun e w' => e = .returned (.bool (decide (0 ≤ i ∧ i < 16))) ∧ w = w' := by
  by_cases h1 : 0 ≤ i
  · by_cases h2 : i < 16
    · have e : decide (0 ≤ i ∧ i < 16) = true := decide_eq_true ⟨h1, h2⟩
      rw [e]
      clear e
      go_enter Tryz.func127, Tryz.ntmps127
      go_wp2
      go_ret
      exact ⟨rfl, rfl⟩
    · have e : decide (0 ≤ i ∧ i < 16) = false := decide_eq_false fun h => h2 h.2
      rw [e]
      have h2' : 16 ≤ i := by omega
      clear e h2
      go_enter Tryz.func127, Tryz.ntmps127
      go_wp2
      go_ret
      refine ⟨?_, rfl⟩
      show Ending.returned (.bool (decide (i < 16))) = _
      rw [decide_eq_false (by omega)]
  · have e : decide (0 ≤ i ∧ i < 16) = false := decide_eq_false fun h => h1 h.1
    rw [e]
    have h1' : i < 0 := by omega
    clear e h1
    go_enter Tryz.func127, Tryz.ntmps127
    go_wp2
    go_ret
    exact ⟨rfl, rfl⟩
theorem slice_band (b k : Nat) (hk : k < 4) (w : World) : (Instr.sliceAt 53 (.pointer (some ⟨b, 0, none⟩)) (some (.int .i64 ((k : Int) * 4))) (some (.int .i64 ((k : Int) * 4 + 4))) none).run Tryz.prog w = .ok (.slice (some ⟨b, k * 4, none⟩) 4 (16 - k * 4)) w := by
  have hl : Tryz.prog.arrayLen 53 = 16 := by kernel_rfl
  have hz : (sizeOf (Tryz.prog.elem 53)).run Tryz.prog w = .ok 1 w := by kernel_rfl
  rw [run_sliceAt_array_lh w 53 _ (by kernel_rfl) .i64 .i64 _ _ (by omega) (by omega) (by rw [hl]; omega), hz, hl]
  simp only [Result.andThen_ok]
  congr 1
  unfold slicedAt
  rw [if_neg (by omega)]
  simp only [Addr.add]
  have e1 : (((k : Int) * 4)).toNat = k * 4 := by omega
  have e2 : ((k : Int) * 4 + 4).toNat = k * 4 + 4 := by omega
  rw [e1, e2, show k * 4 + 4 - k * 4 = 4 by omega, show k * 4 * 1 = k * 4 by omega, Nat.zero_add]
  by_cases hk0 : k * 4 = 0
  · rw [if_pos hk0, hk0]
  · rw [if_neg hk0]
theorem Is_any (f : Nat → Int) (hf : Fits64 f) (i : Int) (w : World) (h1 : -9223372036854775808 ≤ i) (h2 : i ≤ 9223372036854775807) :
    Calls Tryz.prog 122 #[.agg (rowN 16 (blk f)), .int .i64 i] w fun e w' => e = .returned (.bool (decide (isI f i))) ∧ Old w w' := by
  have HP := Lib.hid (fun w => isPlace_any i w)
  by_cases hp : 0 ≤ i ∧ i < 16
  · obtain ⟨k, rfl⟩ : ∃ k : Nat, i = k := ⟨i.toNat, by omega⟩
    have hk : k < 16 := by omega
    have k0 : (0 : Int) ≤ k := by omega
    have k1 : (k : Int) < 16 := by omega
    have hP := HP.out
    rw [decide_eq_true hp] at hP
    have HP' := Lib.hid hP
    clear hP hp HP h1 h2
    obtain ⟨W0, hW0⟩ : ∃ W0, W0 = (w.alloc (.cells (rowN 16 (blk f)) 53)) := ⟨_, rfl⟩
    have ha0 : W0.heap[w.heap.size]? = some (.cells (rowN 16 (blk f)) 53 (0, 0)) := by rw [hW0]; exact heap_alloc_new w _
    have ho0 : Old w W0 := by rw [hW0]; exact Old.alloc w _
    have hcell : W0.cell? ⟨w.heap.size, k, none⟩ = some (.int .i64 (f k)) := (cell_of_row _ _ _ _ _ _ ha0).trans (blk_at 16 f k hk)
    have hfrz : W0.frozen? ⟨w.heap.size, k, none⟩ = false := frozen_of_row _ _ _ _ _ ha0
    have ha1 : (W0.setCell ⟨w.heap.size, k, none⟩ (.int .i64 0)).heap[w.heap.size]? = some (.cells (rowN 16 (blk (butF f k))) 53 (0, 0)) := by
      rw [show blk (butF f k) = updN (blk f) k (.int .i64 0) from (blk_upd f k 0).symm, ← rowN_set _ _ _ _ hk]
      exact heap_setCell_same _ _ _ _ _ _ ha0
    have ho1 : Old w (W0.setCell ⟨w.heap.size, k, none⟩ (.int .i64 0)) := ho0.after (Kept.setCell (X := fun q => q < w.heap.size) _ (a := ⟨w.heap.size, k, none⟩) (by show ¬ w.heap.size < w.heap.size; omega) _) fun _ h => h
    have HO := Lib.hid ho1
    have hm : k / 4 < 4 := by omega
    have HPk := Lib.hid (Peak_any _ _ _ _ _ (part_SlI ha1 (k / 4 * 4) 4 (16 - k / 4 * 4) (by omega) (by omega) (by omega)) (part_in (butF_fits hf k) (k / 4 * 4) 4) (by omega))
    have HPb := Lib.hid (peakL_in _ (part_in (butF_fits hf k) (k / 4 * 4) 4))
    have HB := Lib.hid (fun w => Band_nat k (k / 4) w hk rfl)
    have HA := Lib.hid (fun w => Abs_any (f k) w (hf k).1 (hf k).2)
    have Ab := absI_bd _ (hf k).1 (hf k).2
    have HT : Hid (64 ≤ absI (f k) → (isT f k ↔ peakL (part (butF f k) (k / 4 * 4) 4) ≤ absI (f k) / 8)) := fun h => isT_peak f k hk h
    have HN : Hid (absI (f k) < 64 → ¬ isT f k) := fun h h' => by have := h'.2.1; omega
    have hS := fun w' : World => slice_band w.heap.size (k / 4) hm w'
    rw [isI_nat]
    clear ha0 ho0 ha1 ho1 hf
    generalize k / 4 = m at *
    generalize peakL (part (butF f k) (m * 4) 4) = p at *
    have hpb1 := HPb.out.1
    have hpb2 := HPb.out.2
    clear HPb
    obtain ⟨D, hD⟩ : ∃ D, decide (isT f k) = D := ⟨_, rfl⟩
    have HD := Lib.hid hD
    rw [hD]
    clear hD
    generalize f k = x at *
    generalize absI x = y at *
    have m1 : (0 : Int) ≤ m := by omega
    have m2 : (m : Int) < 4 := by omega
    go_enter Tryz.func122, Tryz.ntmps122
    go_wp2_with fail
    rw [← hW0]
    clear hW0
    refine (HP'.out _).mono ?_
    rintro e w1 ⟨rfl, rfl⟩
    go_wp2_with fail
    refine (HA.out _).mono ?_
    rintro e w1 ⟨rfl, rfl⟩
    go_wp2_with fail
    refine (HB.out _).mono ?_
    rintro e w1 ⟨rfl, rfl⟩
    by_cases c : y < 64
    · have hd : D = false := by rw [← HD.out]; exact decide_eq_false (HN.out c)
      have HDD := Lib.hid hd
      clear HPk hS hd HT HN HD
      go_wp2_with fail
      go_ret
      exact ⟨by rw [HDD.out]; rfl, HO.out⟩
    · have c' : 64 ≤ y := by omega
      have q1 : wrap64 (y.tdiv 8) = y / 8 := by rw [Int.tdiv_eq_ediv_of_nonneg (by omega)]; exact IntWalk.wrap64_in _ (by omega)
      have hd : D = decide (p ≤ y / 8) := by rw [← HD.out]; exact decide_eq_decide.2 (HT.out c')
      have HDD := Lib.hid hd
      have b1 : 0 ≤ y / 8 := by omega
      have b2 : y / 8 ≤ 9223372036854775807 := by omega
      clear hd HT HN HD c
      go_wp2_with fail
      refine HPk.out.mono ?_
      rintro e w1 ⟨rfl, rfl⟩
      go_wp2_with fail
      go_ret
      exact ⟨by rw [HDD.out]; rfl, HO.out⟩
  · have hP := HP.out
    rw [decide_eq_false hp] at hP
    have HP' := Lib.hid hP
    have e : decide (isI f i) = false := decide_eq_false fun h => hp ⟨h.1, by have := h.2.1; omega⟩
    rw [e]
    clear hP hp HP e
    go_enter Tryz.func122, Tryz.ntmps122
    go_wp2_with fail
    refine (HP'.out _).mono ?_
    rintro e w1 ⟨rfl, rfl⟩
    go_wp2_with fail
    go_ret
    exact ⟨rfl, Old.alloc _ _⟩
end Go.Proofs.YtlcbmgbnhjgelaaGreat

/- Rows of pairs (tones) that grow by one: what append wants of them. -/
namespace Go.Proofs.YtlcbmgbnhjgelaaGreat
set_option linter.unusedVariables false
set_option maxRecDepth 100000
open Go.RowKit Go.ChangeShapes Go.WideShapes

theorem news_two (w : World) (x y : Value) (t : TypeId) : ∀ (j : Nat) (u : Value), [x, y][j]? = some u → (w.alloc (.cells #[x, y] t)).cell? ((⟨w.heap.size, 0, none⟩ : Addr).add j) = some u := by
  intro j u h
  match j, h with
  | 0, h =>
    simp only [List.getElem?_cons_zero, Option.some.injEq] at h
    subst h
    show (w.alloc (.cells #[x, y] t)).cell? ⟨w.heap.size, 0, none⟩ = _
    rw [World.cell?_alloc_at _ _ _ _ rfl]; rfl
  | 1, h =>
    simp only [List.getElem?_cons_succ, List.getElem?_cons_zero, Option.some.injEq] at h
    subst h
    show (w.alloc (.cells #[x, y] t)).cell? ⟨w.heap.size, 1, none⟩ = _
    rw [World.cell?_alloc_at _ _ _ _ rfl]; rfl
  | j + 2, h => simp at h
theorem two_oneCell (a b : Int) : ∀ u ∈ [Value.int .i64 a, Value.int .i64 b], u.oneCell' = true := by
  intro u hu
  simp only [List.mem_cons, List.mem_nil_iff, or_false] at hu
  rcases hu with rfl | rfl <;> rfl

theorem rowL_succ2 (T : Nat → Int) (k : Nat) : rowL (2 * (k + 1)) T = rowL (2 * k) T ++ [.int .i64 (T (2 * k)), .int .i64 (T (2 * k + 1))] := by
  unfold rowL
  rw [show 2 * (k + 1) = 2 * k + 1 + 1 by omega, List.range_succ, List.range_succ]
  simp [blk]

theorem two_cells {w : World} {p : Option Addr} {n : Nat} {T : Nat → Int} (h : SlF 2 w p n T) (hn : 0 < n) : ∃ g o, p = some ⟨g, o, none⟩ ∧ g < w.heap.size ∧ ∀ k, k < n → w.cell? ⟨g, o + k * 2, none⟩ = some (.int .i64 (T (2 * k))) ∧ w.cell? ⟨g, o + k * 2 + 1, none⟩ = some (.int .i64 (T (2 * k + 1))) := by
  obtain ⟨g, o, hp, hg, hc⟩ := h hn
  refine ⟨g, o, hp, hg, fun k hk => ⟨?_, ?_⟩⟩
  · have := hc (2 * k) (by omega)
    rwa [show o + 2 * k = o + k * 2 by omega] at this
  · have := hc (2 * k + 1) (by omega)
    rwa [show o + (2 * k + 1) = o + k * 2 + 1 by omega] at this

/-- A row of pairs of the call's own, to be read. -/
theorem own2_slice {X : Nat → Prop} {w : World} {e : TypeId} {n : Nat} {v : Value} {T : Nat → Int} (h : ownS X w e 2 v n (rowL (2 * n) T)) : ∃ p cap, v = .slice p n cap ∧ n ≤ cap ∧ cap ≤ maxLen ∧ SlF 2 w p n T := by
  rcases h.shape with ⟨hv, h0⟩ | ⟨g, cap, hv, _, hg, hk, hc, hcell⟩
  · exact ⟨none, 0, by rw [hv, h0], by omega, Nat.zero_le _, fun h => by omega⟩
  · refine ⟨some ⟨g, 0, none⟩, cap, hv, hk, hc, fun _ => ⟨g, 0, rfl, hg, fun j hj => ?_⟩⟩
    rw [Nat.zero_add]
    exact hcell j _ (rowL_at _ _ _ hj)
theorem Tryz.info_tone : (Tryz.prog.info? 97).map (fun i => (i.zero, i.size, i.bytes)) = some (some (.agg #[.int .i64 0, .int .i64 0]), 2, 16) := by kernel_rfl
theorem tone_fields : (Tryz.prog.fieldsOf 97).toList = [{ name := "Index", type := 3, offset := 0, embedded := false, tag := "", pkgPath := "", byteOffset := 0 }, { name := "Value", type := 2, offset := 1, embedded := false, tag := "", pkgPath := "", byteOffset := 8 }] := by kernel_rfl
theorem int_size' : (Tryz.prog.info? 3).map (·.size) = some 1 := by kernel_rfl
theorem int64_size' : (Tryz.prog.info? 2).map (·.size) = some 1 := by kernel_rfl
theorem neq_tone (w : World) (a b c d : Int) : (binOp .neq 97 (.agg #[.int .i64 a, .int .i64 b]) (.agg #[.int .i64 c, .int .i64 d])).run Tryz.prog w = .ok (.bool !(decide (a = c ∧ b = d))) w := by
  rw [run_neq_struct, run_equalIn_agg w 9999 97 _ _ (by kernel_rfl) (by kernel_rfl), tone_fields]
  have h := fun (w : World) (a b : Int) => run_equalIn_int (P := Tryz.prog) w 9998 2 .i64 .i64 a b Tryz.underlying2
  have h2 := fun (w : World) (a b : Int) => run_equalIn_int (P := Tryz.prog) w 9998 3 .i64 .i64 a b Tryz.underlying3
  by_cases e1 : a = c <;> by_cases e2 : b = d <;> simp [Op.eqFields, Go.part, isAgg, run_underlying Tryz.underlying2, run_underlying Tryz.underlying3, h, h2, sizeOf, e1, e2]

theorem eql_tone (w : World) (a b c d : Int) : (binOp .eql 97 (.agg #[.int .i64 a, .int .i64 b]) (.agg #[.int .i64 c, .int .i64 d])).run Tryz.prog w = .ok (.bool (decide (a = c ∧ b = d))) w := by
  rw [run_eql_struct, run_equalIn_agg w 9999 97 _ _ (by kernel_rfl) (by kernel_rfl), tone_fields]
  have h := fun (w : World) (a b : Int) => run_equalIn_int (P := Tryz.prog) w 9998 2 .i64 .i64 a b Tryz.underlying2
  have h2 := fun (w : World) (a b : Int) => run_equalIn_int (P := Tryz.prog) w 9998 3 .i64 .i64 a b Tryz.underlying3
  by_cases e1 : a = c <;> by_cases e2 : b = d <;> simp [Op.eqFields, Go.part, isAgg, run_underlying Tryz.underlying2, run_underlying Tryz.underlying3, h, h2, sizeOf, e1, e2]

end Go.Proofs.YtlcbmgbnhjgelaaGreat

/- Package lap, second part: Blocks and Samples. -/
namespace Go.Proofs.YtlcbmgbnhjgelaaGreat
set_option linter.unusedVariables false
set_option maxRecDepth 100000
open Go.RowKit

theorem Tryz.block_size : (Tryz.prog.info? 53).map (·.size) = some 16 := by kernel_rfl
theorem Tryz.block_len : Tryz.prog.arrayLen 53 = 16 := by kernel_rfl
theorem Tryz.block_elem : ∀ w, (sizeOf (Tryz.prog.elem 53)).run Tryz.prog w = .ok 1 w := fun w => by kernel_rfl
theorem Tryz.block_under : Tryz.prog.underlying 53 = some (.array (Tryz.prog.arrayLen 53) (Tryz.prog.elem 53)) := by kernel_rfl
theorem Tryz.ints_elem : ∀ w, (sizeOf (Tryz.prog.elem 30)).run Tryz.prog w = .ok 1 w := fun w => by kernel_rfl
theorem Tryz.ints_under : Tryz.prog.underlying 30 = some (.slice (Tryz.prog.elem 30)) := by kernel_rfl
theorem Tryz.int64_cells : (Tryz.prog.info? 2).map (·.size) = some 1 := by kernel_rfl
theorem Tryz.info_block : (Tryz.prog.info? 53).map (fun i => (i.zero, i.size, i.bytes)) = some (some (.agg #[.int .i64 0, .int .i64 0, .int .i64 0, .int .i64 0, .int .i64 0, .int .i64 0, .int .i64 0, .int .i64 0, .int .i64 0, .int .i64 0, .int .i64 0, .int .i64 0, .int .i64 0, .int .i64 0, .int .i64 0, .int .i64 0]), 16, 128) := by kernel_rfl
theorem zero16 (n : Nat) : madeCells (Value.agg #[.int .i64 0, .int .i64 0, .int .i64 0, .int .i64 0, .int .i64 0, .int .i64 0, .int .i64 0, .int .i64 0, .int .i64 0, .int .i64 0, .int .i64 0, .int .i64 0, .int .i64 0, .int .i64 0, .int .i64 0, .int .i64 0] : Value).cells n = rowN n (blk fun _ => 0) :=
  made_rowN n _ (by decide) (by
    intro j hj
    have : j < 16 := hj
    rcases (by omega : j = 0 ∨ j = 1 ∨ j = 2 ∨ j = 3 ∨ j = 4 ∨ j = 5 ∨ j = 6 ∨ j = 7 ∨ j = 8 ∨ j = 9 ∨ j = 10 ∨ j = 11 ∨ j = 12 ∨ j = 13 ∨ j = 14 ∨ j = 15) with rfl | rfl | rfl | rfl | rfl | rfl | rfl | rfl | rfl | rfl | rfl | rfl | rfl | rfl | rfl | rfl <;> rfl)
/-- make([]api.Block, n). -/
theorem make_blocks (n : Nat) (hn : n ≤ 1099511627776) (w : World) : (Instr.makeSlice 38 (.int .i64 n) (.int .i64 n)).run Tryz.prog w = .ok (.slice (some ⟨w.heap.size, 0, none⟩) n n) (w.alloc (.cells (rowN (n * 16) (blk fun _ => 0)) 53)) := by
  obtain ⟨i, hi, hz0, hz1, hz2⟩ := info_parts Tryz.info_block
  rw [run_make w _ _ i _ Tryz.underlying38 hi hz0 .i64 .i64 n n (by omega) (by omega) (by rw [hz2]; omega) (by omega), hz1, Int.toNat_natCast, zero16 (n * 16)]
theorem zero1 (n : Nat) : madeCells (Value.int .i64 0 : Value).cells n = rowN n (blk fun _ => 0) :=
  made_rowN n _ (by decide) (fun j hj => by
    have h1 : j < 1 := hj
    have h2 : j = 0 := by omega
    rw [h2]; rfl)
theorem Tryz.info_int64 : (Tryz.prog.info? 2).map (fun i => (i.zero, i.size, i.bytes)) = some (some (.int .i64 0), 1, 8) := by kernel_rfl
/-- make([]int64, n). -/
theorem make_ints (n : Nat) (hn : n ≤ 1099511627776) (w : World) : (Instr.makeSlice 30 (.int .i64 n) (.int .i64 n)).run Tryz.prog w = .ok (.slice (some ⟨w.heap.size, 0, none⟩) n n) (w.alloc (.cells (rowN n (blk fun _ => 0)) 2)) := by
  obtain ⟨i, hi, hz0, hz1, hz2⟩ := info_parts Tryz.info_int64
  rw [run_make w _ _ i _ Tryz.underlying30 hi hz0 .i64 .i64 n n (by omega) (by omega) (by rw [hz2]; omega) (by omega), hz1, Int.toNat_natCast, Nat.mul_one, zero1 n]

def toK (k : Nat) (F : Nat → Int) : Nat → Int := fun j => if j < k * 16 then F j else 0
/-- How many blocks. -/
def cnt (n : Nat) : Nat := (n + 15) / 16
theorem countI_cnt (n : Nat) : countI n = (cnt n : Nat) := countI_nat n

/-- In round k. -/
structure BlkR (w : World) (N : Nat) (F : Nat → Int) (k : Nat) (wr : World) : Prop where
  at_ : CellsAt wr w.heap.size (N * 16) (toK k F)
  old : Old w wr
set_option maxRecDepth 100000 in
set_option maxHeartbeats 1000000 in
theorem Blocks_any (p : Option Addr) (n cap : Nat) (xs : List Int) (w : World) (hs : SlI w .i64 (.slice p n cap) xs) (hn : n ≤ 1099511627776) :
    Calls Tryz.prog 31 #[.slice p n cap] w fun e w' => e = .returned (.slice (some ⟨w.heap.size, 0, none⟩) (cnt n) (cnt n)) ∧ CellsAt w' w.heap.size (cnt n * 16) (fun j => xs.getD j 0) ∧ Old w w' := by
  obtain ⟨hl, hc⟩ := hs.cellAt
  have HC := Lib.hid hc
  have HL := Lib.hid hl
  have hcount := Count_any n w (by omega) (by omega)
  rw [countI_cnt] at hcount
  obtain ⟨N, hN⟩ : ∃ N, N = cnt n := ⟨_, rfl⟩
  rw [← hN] at hcount ⊢
  have HN : Hid (N = (n + 15) / 16) := hN
  have hN2 : N ≤ 1099511627776 := by have := HN.out; omega
  have HCt := Lib.hid hcount
  have hM := make_blocks N hN2 w
  have H0 : Hid (BlkR w N (fun j => xs.getD j 0) 0 (w.alloc (.cells (rowN (N * 16) (blk fun _ => 0)) 53))) := ⟨(cellsAt_new w _ _ _).ext fun j _ => by unfold toK; rw [if_neg (by omega)], Old.alloc _ _⟩
  clear hs hl hc hcount hN
  go_enter Tryz.func31, Tryz.ntmps31
  go_wp2_with fail
  refine HCt.out.mono ?_
  rintro e w1 ⟨rfl, rfl⟩
  go_wp2_with fail
  go_loopw [11] (fun i wr => ∃ k : Nat, k ≤ N ∧ i = .int .i64 k ∧ Hid (BlkR w N (fun j => xs.getD j 0) k wr)) (fun i _ => N - (intOf i).toNat)
  case atStart => exact ⟨0, by omega, rfl, H0⟩
  case round =>
    obtain ⟨k, hk, rfl, HR⟩ := hrel
    clear H0 HCt hM
    by_cases hlt : k < N
    · have hkn : k * 16 < n := by have := HN.out; omega
      obtain ⟨b, off, rfl, hb, hcap, hcm, hc⟩ := HC.out (by omega)
      have hcs := fun j hj => (HR.out.old.cell (a := ⟨b, off + j, none⟩) hb).trans (hc j hj)
      obtain ⟨q, hq⟩ : ∃ q, q = k * 16 := ⟨_, rfl⟩
      obtain ⟨m, hm⟩ : ∃ m, m = Nat.min (n - q) 16 := ⟨_, rfl⟩
      have hm2 : m ≤ 16 ∧ m ≤ n - q ∧ (m = 16 ∨ m = n - q) := by rw [hm]; simp only [Nat.min_def]; split <;> omega
      have hS1 := fun w => slice_arr_all (P := Tryz.prog) (t := 53) 16 Tryz.block_under Tryz.block_len Tryz.block_elem (by omega) wr.heap.size 0 w
      have HSrc : Hid (∀ j, j < m → wr.drew.cell? ⟨b, off + q + j, none⟩ = some (.int .i64 (xs.getD (k * 16 + j) 0))) := fun j hj => by
        rw [Nat.add_assoc, hq]; exact hcs (k * 16 + j) (by omega)
      have HT : Hid (wr.drew.there w.heap.size (k * 16) m) := HR.out.at_.drew.there (k * 16) m (by omega)
      have HNx : Hid (BlkR w N (fun j => xs.getD j 0) (k + 1) (wr.drew.setCells w.heap.size (k * 16) (rowL m fun j => xs.getD (k * 16 + j) 0))) := by
        refine ⟨(HR.out.at_.drew.setCells (k * 16) m (by omega) _).ext fun j hj => ?_, HR.out.old.drew.after (Kept.setCells (X := fun q => q < w.heap.size) _ (fun e => by omega) _ _) fun _ h => h⟩
        unfold patch toK
        dsimp only
        by_cases c : k * 16 ≤ j ∧ j < k * 16 + m
        · rw [if_pos c, if_pos (by omega), show k * 16 + (j - k * 16) = j by omega]
        · rw [if_neg c]
          by_cases c2 : j < k * 16
          · rw [if_pos c2, if_pos (by omega)]
          · rw [if_neg c2]
            by_cases c3 : j < (k + 1) * 16
            · rw [if_pos c3, List.getD_eq_getElem?_getD, List.getElem?_eq_none (by rw [HL.out]; omega)]; rfl
            · rw [if_neg c3]
      have hS2 := fun w => slice_lo (P := Tryz.prog) (t := 30) Tryz.ints_under Tryz.ints_elem b off n cap q (by omega) (by omega) (q : Int) rfl w
      have t1 : IntKind.i64.wrap ((k : Int) * 16) = q := by rw [IntWalk.i64_in _ (by omega)]; omega
      have t2 : wrap64 ((k : Int) * 16) = q := by rw [IntWalk.wrap64_in _ (by omega)]; omega
      have hqn : q < n := by omega
      have hS3 := fun w => slice_arr_all (P := Tryz.prog) (t := 53) 16 Tryz.block_under Tryz.block_len Tryz.block_elem (by omega) w.heap.size (k * 16) w
      have HM := Lib.hid hm
      clear hm hcs hc HC HL HN HR hq hkn hm2
      go_wp2_with fail
      refine wp_region_still_tail 8 (by kernel_rfl) (by kernel_rfl) ?_
      simp only [List.take_succ_cons, List.take_zero, List.drop_succ_cons, List.drop_zero]
      iterate 8 (with_reducible refine wpStill_step (fun K hK => ?_); go_simp; with_reducible refine hK _ ?_; clear hK K)
      with_reducible refine wpStill_nil ?_
      change wpList _ _ _ _ _ wr.drew
      refine wpList_copy_blk rfl _ _ 30 30 rfl 2 Tryz.underlying30 Tryz.int64_cells m (fun j => xs.getD (k * 16 + j) 0) w.heap.size (k * 16) 16 16 b (off + q) (n - q) (cap - q) rfl rfl HM.out HSrc.out HT.out ?_
      go_wp2_with fail
      go_roundw
      case rel => exact ⟨k + 1, by omega, by go_num, HNx⟩
      case measure => simp [intOf]; omega
    · obtain rfl : k = N := by omega
      have HE : Hid (CellsAt wr w.heap.size (k * 16) (fun j => xs.getD j 0) ∧ Old w wr) := ⟨HR.out.at_.ext fun j hj => by unfold toK; rw [if_pos hj], HR.out.old⟩
      clear HR HC HL HN
      go_wp2_with fail
      go_ret
      exact ⟨rfl, HE.out⟩

/-- How many samples. -/
def samN (n : Nat) (m : Int) : Nat := (max 0 (min m ((n : Int) * 16))).toNat
theorem samN_le (n : Nat) (m : Int) : samN n m ≤ n * 16 := by unfold samN; omega
structure SamR (w : World) (L : Nat) (F : Nat → Int) (k : Nat) (wr : World) : Prop where
  at_ : CellsAt wr w.heap.size L (toK k F)
  old : Old w wr
set_option maxRecDepth 100000 in
set_option maxHeartbeats 2000000 in
theorem Samples_any (p : Option Addr) (n cap : Nat) (m : Int) (F : Nat → Int) (w : World) (hs : SlF 16 w p n F) (hn : n ≤ 17179869184) (h1 : -9223372036854775808 ≤ m) (h2 : m ≤ 9223372036854775807) :
    Calls Tryz.prog 63 #[.slice p n cap, .int .i64 m] w fun e w' => e = .returned (.slice (some ⟨w.heap.size, 0, none⟩) (samN n m) (samN n m)) ∧ CellsAt w' w.heap.size (samN n m) F ∧ Old w w' := by
  have hL := samN_le n m
  have hcase : (m ≤ 0 ∧ samN n m = 0) ∨ (0 < m ∧ n = 0 ∧ samN n m = 0) ∨ (0 < m ∧ 0 < n ∧ m ≤ (n : Int) * 16 ∧ m = (samN n m : Nat)) ∨ (0 < m ∧ 0 < n ∧ (n : Int) * 16 < m ∧ (n : Int) * 16 = (samN n m : Nat)) := by unfold samN; omega
  generalize samN n m = L at *
  have HL := Lib.hid hL
  have HS := Lib.hid hs
  have hL2 : L ≤ 1099511627776 := by omega
  have hw : wrap64 ((n : Int) * 16) = (n : Int) * 16 := IntWalk.wrap64_in _ (by omega)
  have hw' : IntKind.i64.wrap ((n : Int) * 16) = (n : Int) * 16 := IntWalk.i64_in _ (by omega)
  have hM := make_ints L hL2 w
  have hcount := fun w => Count_any L w (by omega) (by omega)
  rw [countI_cnt] at hcount
  obtain ⟨N, hN⟩ : ∃ N, N = cnt L := ⟨_, rfl⟩
  rw [← hN] at hcount
  have HN : Hid (N = (L + 15) / 16) := hN
  have hN2 : N ≤ 1099511627776 := by have := HN.out; omega
  have HCt := Lib.hid hcount
  have H0 : Hid (SamR w L F 0 (w.alloc (.cells (rowN L (blk fun _ => 0)) 2))) := ⟨(cellsAt_new w _ _ _).ext fun j _ => by unfold toK; rw [if_neg (by omega)], Old.alloc _ _⟩
  clear hs hL hcount hN
  rcases hcase with ⟨c1, c2⟩ | ⟨c1, c0, c2⟩ | ⟨c1, c0, c3, c2⟩ | ⟨c1, c0, c3, c2⟩
  · have c4 : 0 ≤ (n : Int) * 16 := by omega
    have c5 : m ≤ (n : Int) * 16 := by omega
    obtain rfl : L = 0 := by omega
    obtain rfl : N = 0 := by have := HN.out; omega
    rw [show ((0 : Nat) : Int) = 0 from rfl] at hM HCt
    clear HN
    go_enter Tryz.func63, Tryz.ntmps63
    go_wp2_with fail
    refine (HCt.out _).mono ?_
    rintro e w1 ⟨rfl, rfl⟩
    go_wp2_with fail
    go_loopw [17] (fun i wr => i = .int .i64 0 ∧ Hid (SamR w 0 F 0 wr)) (fun i _ => 0)
    case atStart => exact ⟨rfl, H0⟩
    case round =>
      obtain ⟨rfl, HR⟩ := hrel
      have HE : Hid (CellsAt wr w.heap.size 0 F ∧ Old w wr) := ⟨HR.out.at_.ext fun j hj => by omega, HR.out.old⟩
      clear HR H0 HCt hM
      go_wp2_with fail
      go_ret
      exact ⟨rfl, HE.out⟩
  · subst c0
    clear hw hw'
    obtain rfl : L = 0 := by omega
    obtain rfl : N = 0 := by have := HN.out; omega
    rw [show ((0 : Nat) : Int) = 0 from rfl] at hM HCt
    clear HN
    go_enter Tryz.func63, Tryz.ntmps63
    go_wp2_with fail
    refine (HCt.out _).mono ?_
    rintro e w1 ⟨rfl, rfl⟩
    go_wp2_with fail
    go_loopw [17] (fun i wr => i = .int .i64 0 ∧ Hid (SamR w 0 F 0 wr)) (fun i _ => 0)
    case atStart => exact ⟨rfl, H0⟩
    case round =>
      obtain ⟨rfl, HR⟩ := hrel
      have HE : Hid (CellsAt wr w.heap.size 0 F ∧ Old w wr) := ⟨HR.out.at_.ext fun j hj => by omega, HR.out.old⟩
      clear HR H0 HCt hM
      go_wp2_with fail
      go_ret
      exact ⟨rfl, HE.out⟩
  · subst c2
    go_enter Tryz.func63, Tryz.ntmps63
    go_wp2_with fail
    refine (HCt.out _).mono ?_
    rintro e w1 ⟨rfl, rfl⟩
    go_wp2_with fail
    go_loopw [17] (fun i wr => ∃ k : Nat, k ≤ N ∧ i = .int .i64 k ∧ Hid (SamR w L F k wr)) (fun i _ => N - (intOf i).toNat)
    case atStart => exact ⟨0, by omega, rfl, H0⟩
    case round =>
      obtain ⟨k, hk, rfl, HR⟩ := hrel
      clear H0 HCt hM
      by_cases hlt : k < N
      · have hkn : k * 16 < L := by have := HN.out; omega
        have hkn' : k < n := by have := HL.out; omega
        obtain ⟨b, off, rfl, hb, hc⟩ := HS.out (by omega)
        have hcs := fun j hj => (HR.out.old.cell (a := ⟨b, off + j, none⟩) hb).trans (hc j hj)
        obtain ⟨q, hq⟩ : ∃ q, q = k * 16 := ⟨_, rfl⟩
        obtain ⟨mm, hm⟩ : ∃ mm, mm = Nat.min 16 (L - q) := ⟨_, rfl⟩
        have hm2 : mm ≤ 16 ∧ mm ≤ L - q ∧ (mm = 16 ∨ mm = L - q) := by rw [hm]; simp only [Nat.min_def]; split <;> omega
        have HSrc : Hid (∀ j, j < mm → wr.drew.cell? ⟨b, off + k * 16 + j, none⟩ = some (.int .i64 (F (k * 16 + j)))) := fun j hj => by
          rw [Nat.add_assoc]; exact hcs (k * 16 + j) (by omega)
        have HT : Hid (wr.drew.there w.heap.size q mm) := HR.out.at_.drew.there q mm (by omega)
        have HNx : Hid (SamR w L F (k + 1) (wr.drew.setCells w.heap.size q (rowL mm fun j => F (k * 16 + j)))) := by
          refine ⟨(HR.out.at_.drew.setCells q mm (by omega) _).ext fun j hj => ?_, HR.out.old.drew.after (Kept.setCells (X := fun q => q < w.heap.size) _ (fun e => by omega) _ _) fun _ h => h⟩
          unfold patch toK
          dsimp only
          subst hq
          by_cases c : k * 16 ≤ j ∧ j < k * 16 + mm
          · rw [if_pos c, if_pos (by omega), show k * 16 + (j - k * 16) = j by omega]
          · rw [if_neg c]
            by_cases c2 : j < k * 16
            · rw [if_pos c2, if_pos (by omega)]
            · rw [if_neg c2, if_neg (by omega)]
        have hS2 := fun w0 => slice_lo (P := Tryz.prog) (t := 30) Tryz.ints_under Tryz.ints_elem w.heap.size 0 L L q (by omega) (by omega) (q : Int) rfl w0
        rw [Nat.zero_add] at hS2
        have t1 : IntKind.i64.wrap ((k : Int) * 16) = q := by rw [IntWalk.i64_in _ (by omega)]; omega
        have t2 : wrap64 ((k : Int) * 16) = q := by rw [IntWalk.wrap64_in _ (by omega)]; omega
        have hqn : q < L := by omega
        have hS3 := fun w => slice_arr_all (P := Tryz.prog) (t := 53) 16 Tryz.block_under Tryz.block_len Tryz.block_elem (by omega) b (off + k * 16) w
        have HM := Lib.hid hm
        clear hm hcs hc HL HN HR hq hkn hm2 HS
        go_wp2_with fail
        refine wp_region_still_tail 8 (by kernel_rfl) (by kernel_rfl) ?_
        simp only [List.take_succ_cons, List.take_zero, List.drop_succ_cons, List.drop_zero]
        iterate 8 (with_reducible refine wpStill_step (fun K hK => ?_); go_simp; with_reducible refine hK _ ?_; clear hK K)
        with_reducible refine wpStill_nil ?_
        change wpList _ _ _ _ _ wr.drew
        refine wpList_copy_blk rfl _ _ 30 30 rfl 2 Tryz.underlying30 Tryz.int64_cells mm (fun j => F (k * 16 + j)) w.heap.size q (L - q) (L - q) b (off + k * 16) 16 16 rfl rfl HM.out HSrc.out HT.out ?_
        go_wp2_with fail
        go_roundw
        case rel => exact ⟨k + 1, by omega, by go_num, HNx⟩
        case measure => simp [intOf]; omega
      · have hkN : k = N := by omega
        have HE : Hid (CellsAt wr w.heap.size L F ∧ Old w wr) := ⟨HR.out.at_.ext fun j hj => by unfold toK; rw [if_pos (by have := HN.out; omega)], HR.out.old⟩
        subst hkN
        clear HR HS HL HN
        go_wp2_with fail
        go_ret
        exact ⟨rfl, HE.out⟩
  · rw [← c2] at hM
    clear c2
    go_enter Tryz.func63, Tryz.ntmps63
    go_wp2_with fail
    refine (HCt.out _).mono ?_
    rintro e w1 ⟨rfl, rfl⟩
    go_wp2_with fail
    go_loopw [17] (fun i wr => ∃ k : Nat, k ≤ N ∧ i = .int .i64 k ∧ Hid (SamR w L F k wr)) (fun i _ => N - (intOf i).toNat)
    case atStart => exact ⟨0, by omega, rfl, H0⟩
    case round =>
      obtain ⟨k, hk, rfl, HR⟩ := hrel
      clear H0 HCt hM
      by_cases hlt : k < N
      · have hkn : k * 16 < L := by have := HN.out; omega
        have hkn' : k < n := by have := HL.out; omega
        obtain ⟨b, off, rfl, hb, hc⟩ := HS.out (by omega)
        have hcs := fun j hj => (HR.out.old.cell (a := ⟨b, off + j, none⟩) hb).trans (hc j hj)
        obtain ⟨q, hq⟩ : ∃ q, q = k * 16 := ⟨_, rfl⟩
        obtain ⟨mm, hm⟩ : ∃ mm, mm = Nat.min 16 (L - q) := ⟨_, rfl⟩
        have hm2 : mm ≤ 16 ∧ mm ≤ L - q ∧ (mm = 16 ∨ mm = L - q) := by rw [hm]; simp only [Nat.min_def]; split <;> omega
        have HSrc : Hid (∀ j, j < mm → wr.drew.cell? ⟨b, off + k * 16 + j, none⟩ = some (.int .i64 (F (k * 16 + j)))) := fun j hj => by
          rw [Nat.add_assoc]; exact hcs (k * 16 + j) (by omega)
        have HT : Hid (wr.drew.there w.heap.size q mm) := HR.out.at_.drew.there q mm (by omega)
        have HNx : Hid (SamR w L F (k + 1) (wr.drew.setCells w.heap.size q (rowL mm fun j => F (k * 16 + j)))) := by
          refine ⟨(HR.out.at_.drew.setCells q mm (by omega) _).ext fun j hj => ?_, HR.out.old.drew.after (Kept.setCells (X := fun q => q < w.heap.size) _ (fun e => by omega) _ _) fun _ h => h⟩
          unfold patch toK
          dsimp only
          subst hq
          by_cases c : k * 16 ≤ j ∧ j < k * 16 + mm
          · rw [if_pos c, if_pos (by omega), show k * 16 + (j - k * 16) = j by omega]
          · rw [if_neg c]
            by_cases c2 : j < k * 16
            · rw [if_pos c2, if_pos (by omega)]
            · rw [if_neg c2, if_neg (by omega)]
        have hS2 := fun w0 => slice_lo (P := Tryz.prog) (t := 30) Tryz.ints_under Tryz.ints_elem w.heap.size 0 L L q (by omega) (by omega) (q : Int) rfl w0
        rw [Nat.zero_add] at hS2
        have t1 : IntKind.i64.wrap ((k : Int) * 16) = q := by rw [IntWalk.i64_in _ (by omega)]; omega
        have t2 : wrap64 ((k : Int) * 16) = q := by rw [IntWalk.wrap64_in _ (by omega)]; omega
        have hqn : q < L := by omega
        have hS3 := fun w => slice_arr_all (P := Tryz.prog) (t := 53) 16 Tryz.block_under Tryz.block_len Tryz.block_elem (by omega) b (off + k * 16) w
        have HM := Lib.hid hm
        clear hm hcs hc HL HN HR hq hkn hm2 HS
        go_wp2_with fail
        refine wp_region_still_tail 8 (by kernel_rfl) (by kernel_rfl) ?_
        simp only [List.take_succ_cons, List.take_zero, List.drop_succ_cons, List.drop_zero]
        iterate 8 (with_reducible refine wpStill_step (fun K hK => ?_); go_simp; with_reducible refine hK _ ?_; clear hK K)
        with_reducible refine wpStill_nil ?_
        change wpList _ _ _ _ _ wr.drew
        refine wpList_copy_blk rfl _ _ 30 30 rfl 2 Tryz.underlying30 Tryz.int64_cells mm (fun j => F (k * 16 + j)) w.heap.size q (L - q) (L - q) b (off + k * 16) 16 16 rfl rfl HM.out HSrc.out HT.out ?_
        go_wp2_with fail
        go_roundw
        case rel => exact ⟨k + 1, by omega, by go_num, HNx⟩
        case measure => simp [intOf]; omega
      · have hkN : k = N := by omega
        have HE : Hid (CellsAt wr w.heap.size L F ∧ Old w wr) := ⟨HR.out.at_.ext fun j hj => by unfold toK; rw [if_pos (by have := HN.out; omega)], HR.out.old⟩
        subst hkN
        clear HR HS HL HN
        go_wp2_with fail
        go_ret
        exact ⟨rfl, HE.out⟩
end Go.Proofs.YtlcbmgbnhjgelaaGreat

/- Blocks that meet, without a program: numbers of rows of 16, turned where two rows meet; row by row; and back. -/
namespace Go.Proofs.YtlcbmgbnhjgelaaGreat
set_option linter.unusedVariables false
set_option maxRecDepth 100000
open Go.RowKit

abbrev Way := Int → Int → Int → Int → Int
/-- The edges below k are turned. -/
def meetTo (wa wb : Way) (k : Nat) (F : Nat → Int) : Nat → Int := fun q =>
  if 8 ≤ q % 16 then (if q / 16 + 1 < k then wa (F q) (F (q / 16 * 16 + 16 + (15 - q % 16))) (turnP (15 - q % 16)) (turnU (15 - q % 16)) else F q)
  else (if 1 ≤ q / 16 ∧ q / 16 < k then wb (F (q / 16 * 16 - 16 + (15 - q % 16))) (F q) (turnP (q % 16)) (turnU (q % 16)) else F q)
theorem split16 (q : Nat) : ∃ b r, q = b * 16 + r ∧ r < 16 ∧ q / 16 = b ∧ q % 16 = r := ⟨q / 16, q % 16, by omega, by omega, rfl, rfl⟩
theorem dm16 (b r : Nat) (h : r < 16) : (b * 16 + r) / 16 = b ∧ (b * 16 + r) % 16 = r := ⟨by omega, by omega⟩
theorem meetTo_hi (wa wb : Way) (k : Nat) (F : Nat → Int) (b r : Nat) (h : r < 16) (h8 : 8 ≤ r) : meetTo wa wb k F (b * 16 + r) = if b + 1 < k then wa (F (b * 16 + r)) (F (b * 16 + 16 + (15 - r))) (turnP (15 - r)) (turnU (15 - r)) else F (b * 16 + r) := by
  obtain ⟨e1, e2⟩ := dm16 b r h
  unfold meetTo
  rw [e1, e2, if_pos h8]
theorem meetTo_lo (wa wb : Way) (k : Nat) (F : Nat → Int) (b r : Nat) (h8 : r < 8) : meetTo wa wb k F (b * 16 + r) = if 1 ≤ b ∧ b < k then wb (F (b * 16 - 16 + (15 - r))) (F (b * 16 + r)) (turnP r) (turnU r) else F (b * 16 + r) := by
  obtain ⟨e1, e2⟩ := dm16 b r (by omega)
  unfold meetTo
  rw [e1, e2, if_neg (by omega)]
theorem meetTo_one (wa wb : Way) (F : Nat → Int) : meetTo wa wb 1 F = F := by
  funext q
  obtain ⟨b, r, rfl, hr, _, _⟩ := split16 q
  by_cases h : 8 ≤ r
  · rw [meetTo_hi _ _ _ _ _ _ hr h, if_neg (by omega)]
  · rw [meetTo_lo _ _ _ _ _ _ (by omega), if_neg (by omega)]
/-- One edge more: the eight behind, then the eight ahead the other way round. -/
theorem meetTo_step (wa wb : Way) (F : Nat → Int) (j : Nat) :
    patch (patch (meetTo wa wb (j + 1) F) ((j + 1) * 16) 8 (fun i => wb (meetTo wa wb (j + 1) F (j * 16 + 8 + (7 - i))) (meetTo wa wb (j + 1) F ((j + 1) * 16 + i)) (turnP i) (turnU i)))
      (j * 16 + 8) 8 (fun i => wa (meetTo wa wb (j + 1) F (j * 16 + 8 + (7 - (7 - i)))) (meetTo wa wb (j + 1) F ((j + 1) * 16 + (7 - i))) (turnP (7 - i)) (turnU (7 - i))) = meetTo wa wb (j + 1 + 1) F := by
  have hi : ∀ i, i < 8 → meetTo wa wb (j + 1) F (j * 16 + 8 + i) = F (j * 16 + (8 + i)) := fun i h => by
    rw [Nat.add_assoc, meetTo_hi _ _ _ _ _ _ (by omega) (by omega), if_neg (by omega)]
  have lo : ∀ i, i < 8 → meetTo wa wb (j + 1) F ((j + 1) * 16 + i) = F ((j + 1) * 16 + i) := fun i h => by
    rw [meetTo_lo _ _ _ _ _ _ h, if_neg (by omega)]
  funext q
  obtain ⟨b, r, rfl, hr, _, _⟩ := split16 q
  unfold patch
  dsimp only
  by_cases h8 : 8 ≤ r
  · rw [meetTo_hi wa wb (j + 1 + 1) F b r hr h8]
    by_cases hb : b = j
    · subst hb
      rw [if_pos ⟨by omega, by omega⟩, if_pos (by omega), show b * 16 + r - (b * 16 + 8) = r - 8 by omega, show 7 - (7 - (r - 8)) = r - 8 by omega, hi (r - 8) (by omega), lo (7 - (r - 8)) (by omega)]
      rw [show 8 + (r - 8) = r by omega, show 7 - (r - 8) = 15 - r by omega, show (b + 1) * 16 + (15 - r) = b * 16 + 16 + (15 - r) by omega]
    · rw [if_neg (by omega), if_neg (by omega), meetTo_hi wa wb (j + 1) F b r hr h8]
      by_cases c : b + 1 < j + 1
      · rw [if_pos c, if_pos (by omega)]
      · rw [if_neg c, if_neg (by omega)]
  · rw [if_neg (by omega), meetTo_lo wa wb (j + 1 + 1) F b r (by omega)]
    by_cases hb : b = j + 1
    · subst hb
      rw [if_pos ⟨by omega, by omega⟩, if_pos ⟨by omega, by omega⟩, show (j + 1) * 16 + r - (j + 1) * 16 = r by omega, hi (7 - r) (by omega), lo r (by omega)]
      rw [show j * 16 + (8 + (7 - r)) = (j + 1) * 16 - 16 + (15 - r) by omega]
    · rw [if_neg (by omega), meetTo_lo wa wb (j + 1) F b r (by omega)]
      by_cases c : 1 ≤ b ∧ b < j + 1
      · rw [if_pos c, if_pos ⟨c.1, by omega⟩]
      · rw [if_neg c, if_neg (by omega)]
/-- Within n rows each place is turned with one of n rows. -/
theorem meetTo_in {wa wb : Way} {k : Nat} {F : Nat → Int} (ha : ∀ a b p u, -9223372036854775808 ≤ wa a b p u ∧ wa a b p u ≤ 9223372036854775807) (hb : ∀ a b p u, -9223372036854775808 ≤ wb a b p u ∧ wb a b p u ≤ 9223372036854775807) (h : Fits64 F) : Fits64 (meetTo wa wb k F) := by
  intro q
  unfold meetTo
  split
  · split
    · exact ha _ _ _ _
    · exact h q
  · split
    · exact hb _ _ _ _
    · exact h q
theorem meetTo_ext {wa wb : Way} {n : Nat} {F G : Nat → Int} (h : ∀ q, q < n * 16 → F q = G q) : ∀ q, q < n * 16 → meetTo wa wb n F q = meetTo wa wb n G q := by
  intro q hq
  obtain ⟨b, r, rfl, hr, _, _⟩ := split16 q
  by_cases h8 : 8 ≤ r
  · rw [meetTo_hi _ _ _ _ _ _ hr h8, meetTo_hi _ _ _ _ _ _ hr h8]
    split
    · rw [h _ hq, h _ (by omega)]
    · exact h _ hq
  · rw [meetTo_lo _ _ _ _ _ _ (by omega), meetTo_lo _ _ _ _ _ _ (by omega)]
    split
    · rw [h _ hq, h _ (by omega)]
    · exact h _ hq
/-- Turned, and back. -/
theorem meet_back {n : Nat} {F : Nat → Int} (h : Fits64 F) : meetTo backWA backWB n (meetTo turnWA turnWB n F) = F := by
  funext q
  obtain ⟨b, r, rfl, hr, _, _⟩ := split16 q
  by_cases h8 : 8 ≤ r
  · rw [meetTo_hi _ _ _ _ _ _ hr h8]
    split
    · rename_i hb
      rw [show b * 16 + 16 + (15 - r) = (b + 1) * 16 + (15 - r) by omega, meetTo_hi _ _ _ _ _ _ hr h8, if_pos hb, meetTo_lo _ _ _ _ _ _ (by omega), if_pos ⟨by omega, by omega⟩]
      rw [show (b + 1) * 16 - 16 + (15 - (15 - r)) = b * 16 + r by omega, show b * 16 + 16 + (15 - r) = (b + 1) * 16 + (15 - r) by omega]
      exact (backW_turnW _ _ _ _ (h _).1 (h _).2 (h _).1 (h _).2).1
    · rename_i hb
      rw [meetTo_hi _ _ _ _ _ _ hr h8, if_neg hb]
  · rw [meetTo_lo _ _ _ _ _ _ (by omega)]
    split
    · rename_i hb
      obtain ⟨c, rfl⟩ : ∃ c, b = c + 1 := ⟨b - 1, by omega⟩
      rw [show (c + 1) * 16 - 16 + (15 - r) = c * 16 + (15 - r) by omega, meetTo_hi _ _ _ _ _ _ (by omega) (by omega), if_pos (by omega), meetTo_lo _ _ _ _ _ _ (by omega), if_pos hb]
      rw [show 15 - (15 - r) = r by omega, show c * 16 + 16 + r = (c + 1) * 16 + r by omega, show (c + 1) * 16 - 16 + (15 - r) = c * 16 + (15 - r) by omega]
      exact (backW_turnW _ _ _ _ (h _).1 (h _).2 (h _).1 (h _).2).2
    · rename_i hb
      rw [meetTo_lo _ _ _ _ _ _ (by omega), if_neg hb]

/-! Row by row. -/
def rowAt (F : Nat → Int) (b : Nat) : Nat → Int := fun k => F (b * 16 + k)
def mapB (φ : Nat → (Nat → Int) → Nat → Int) (F : Nat → Int) : Nat → Int := fun q => φ (q / 16) (rowAt F (q / 16)) (q % 16)
def mapTo (n : Nat) (φ : Nat → (Nat → Int) → Nat → Int) (F : Nat → Int) : Nat → Int := fun q => if q < n * 16 then mapB φ F q else F q
theorem mapB_at (φ : Nat → (Nat → Int) → Nat → Int) (F : Nat → Int) (b r : Nat) (h : r < 16) : mapB φ F (b * 16 + r) = φ b (rowAt F b) r := by
  obtain ⟨e1, e2⟩ := dm16 b r h
  unfold mapB
  rw [e1, e2]
theorem mapTo_zero (φ : Nat → (Nat → Int) → Nat → Int) (F : Nat → Int) : mapTo 0 φ F = F := by funext q; unfold mapTo; rw [if_neg (by omega)]
theorem mapTo_step (φ : Nat → (Nat → Int) → Nat → Int) (F : Nat → Int) (n : Nat) : patch (mapTo n φ F) (n * 16) 16 (φ n (rowAt F n)) = mapTo (n + 1) φ F := by
  funext q
  unfold patch mapTo
  by_cases h : n * 16 ≤ q ∧ q < n * 16 + 16
  · rw [if_pos h, if_pos (by omega)]
    obtain ⟨r, rfl⟩ : ∃ r, q = n * 16 + r := ⟨q - n * 16, by omega⟩
    rw [mapB_at _ _ _ _ (by omega), show n * 16 + r - n * 16 = r by omega]
  · rw [if_neg h]
    by_cases h2 : q < n * 16
    · rw [if_pos h2, if_pos (by omega)]
    · rw [if_neg h2, if_neg (by omega)]
theorem mapTo_row (φ : Nat → (Nat → Int) → Nat → Int) (F : Nat → Int) (n k : Nat) : mapTo n φ F (n * 16 + k) = rowAt F n k := by unfold mapTo rowAt; rw [if_neg (by omega)]
theorem mapTo_end (φ : Nat → (Nat → Int) → Nat → Int) (F : Nat → Int) (n q : Nat) (h : q < n * 16) : mapTo n φ F q = mapB φ F q := by unfold mapTo; rw [if_pos h]
theorem mapB_in {φ : Nat → (Nat → Int) → Nat → Int} {F : Nat → Int} (h : ∀ b f, Fits64 f → Fits64 (φ b f)) (hF : Fits64 F) : Fits64 (mapB φ F) := fun q => h _ _ (fun k => hF _) _
theorem mapB_ext {φ ψ : Nat → (Nat → Int) → Nat → Int} {F G : Nat → Int} {n : Nat} (h : ∀ q, q < n * 16 → F q = G q) (hφ : ∀ b f g, b < n → (∀ k, k < 16 → f k = g k) → ∀ k, k < 16 → φ b f k = ψ b g k) : ∀ q, q < n * 16 → mapB φ F q = mapB ψ G q := by
  intro q hq
  obtain ⟨b, r, rfl, hr, _, _⟩ := split16 q
  rw [mapB_at _ _ _ _ hr, mapB_at _ _ _ _ hr]
  exact hφ b _ _ (by omega) (fun k hk => h _ (by omega)) r hr
theorem mapB_mapB (φ ψ : Nat → (Nat → Int) → Nat → Int) (F : Nat → Int) (q : Nat) (hφ : ∀ b f g, (∀ k, k < 16 → f k = g k) → ∀ k, k < 16 → φ b f k = φ b g k) : mapB φ (mapB ψ F) q = mapB (fun b f => φ b (ψ b f)) F q := by
  obtain ⟨b, r, rfl, hr, _, _⟩ := split16 q
  rw [mapB_at _ _ _ _ hr, mapB_at _ _ _ _ hr]
  exact hφ _ _ _ (fun k hk => by unfold rowAt; rw [mapB_at _ _ _ _ hk]; rfl) r hr
/-- A part of cells reads as a list; a row of the call's own is cells. -/
theorem CellsAt.sl {w : World} {g m : Nat} {F : Nat → Int} (h : CellsAt w g m F) (o n cap : Nat) (hn : o + n ≤ m) (hc : n ≤ cap) (hm : cap ≤ maxLen) : SlI w .i64 (.slice (some ⟨g, o, none⟩) n cap) (part F o n) := by
  refine ⟨_, cap, by rw [part_len], fun _ => ⟨g, o, rfl, h.lt, by rw [part_len]; exact hc, hm, fun i hi => ?_⟩⟩
  rw [part_len] at hi
  rw [part_getD _ _ _ _ hi]
  exact h.cell (o + i) (by omega)
theorem OwnL.cells {t : TypeId} {X : Nat → Prop} {w : World} {v : Value} {xs : List Int} (h : OwnL .i64 t X w v xs) (h0 : 0 < xs.length) : ∃ g cap, v = .slice (some ⟨g, 0, none⟩) xs.length cap ∧ ¬ X g ∧ xs.length ≤ cap ∧ cap ≤ maxLen ∧ CellsAt w g xs.length (fun j => xs.getD j 0) := by
  rcases h.shape with ⟨_, h1⟩ | ⟨g, cap, rfl, hX, hg, hn, hc, hcell⟩
  · omega
  · refine ⟨g, cap, rfl, hX, hn, hc, hg, fun j hj => hcell j _ (by simp [hj, List.getD]), fun j hj => h.frozenAt j⟩
end Go.Proofs.YtlcbmgbnhjgelaaGreat

/- Package tone's contracts, sixth part: spectra with tones, and without them. -/
namespace Go.Proofs.YtlcbmgbnhjgelaaGreat
set_option linter.unusedVariables false
set_option maxRecDepth 100000
open Go.RowKit Go.ChangeShapes Go.WideShapes

/-- So many times y is added at place x, if it is one. -/
def addOne (c : Int) (g : Nat → Int) (x y : Int) : Nat → Int := fun j => if 0 ≤ x ∧ x < 16 ∧ j = x.toNat then wrap64 (g j + wrap64 (c * y)) else g j
def addTo (c : Int) (f T : Nat → Int) : Nat → Nat → Int
  | 0 => f
  | k + 1 => addOne c (addTo c f T k) (T (2 * k)) (T (2 * k + 1))
theorem addOne_no (c : Int) (g : Nat → Int) (x y : Int) (h : ¬ (0 ≤ x ∧ x < 16)) : addOne c g x y = g := by
  funext j
  unfold addOne
  rw [if_neg fun h' => h ⟨h'.1, h'.2.1⟩]
theorem addOne_yes (c : Int) (g : Nat → Int) (m : Nat) (y : Int) (h : m < 16) : addOne c g m y = fun j => if j = m then wrap64 (g m + wrap64 (c * y)) else g j := by
  funext j
  unfold addOne
  by_cases e : j = m
  · subst e; rw [if_pos ⟨by omega, by omega, by simp⟩, if_pos rfl]
  · rw [if_neg (fun h' => e (by have := h'.2.2; simpa using this)), if_neg e]
structure AdSt (tb : TypeId) (z : Array Value) (w : World) (g : Nat → Int) (W : World) : Prop where
  b : W.heap[w.heap.size]? = some (.cells (rowN 16 (blk g)) tb (0, 0))
  r : W.heap[w.heap.size + 1]? = some (.cells z tb (0, 0))
  old : Old w W
namespace AdSt
variable {tb : TypeId} {z : Array Value} {w W W' : World} {g : Nat → Int}
theorem keep (h : AdSt tb z w g W) (o : Old W W') : AdSt tb z w g W' := ⟨(o.block _ (lt_of_block h.b)).trans h.b, (o.block _ (lt_of_block h.r)).trans h.r, h.old.trans o⟩
theorem drew (h : AdSt tb z w g W) : AdSt tb z w g W.drew := ⟨h.b, h.r, h.old.drew⟩
theorem set (h : AdSt tb z w g W) (j : Nat) (hj : j < 16) (v : Int) : AdSt tb z w (fun k => if k = j then v else g k) (W.setCell ⟨w.heap.size, j, none⟩ (.int .i64 v)) := by
  refine ⟨?_, (heap_setCell_other _ _ _ _ (by simp)).trans h.r, h.old.after (Kept.setCell (X := fun k => k < w.heap.size) _ (a := ⟨w.heap.size, j, none⟩) (by show ¬ w.heap.size < w.heap.size; omega) _) fun _ hk => hk⟩
  rw [← blk_upd, ← rowN_set _ _ _ _ hj]
  exact heap_setCell_same _ _ _ _ _ _ h.b
theorem cell (h : AdSt tb z w g W) (j : Nat) (hj : j < 16) : W.cell? ⟨w.heap.size, j, none⟩ = some (.int .i64 (g j)) ∧ W.frozen? ⟨w.heap.size, j, none⟩ = false :=
  ⟨(cell_of_row _ _ _ _ _ _ h.b).trans (blk_at 16 g j hj), frozen_of_row _ _ _ _ _ h.b⟩
theorem row (h : AdSt tb z w g W) (cs : Array Value) : (W.setRow (w.heap.size + 1) cs).heap[w.heap.size + 1]? = some (.cells cs tb (0, 0)) ∧ Old w (W.setRow (w.heap.size + 1) cs) :=
  ⟨setRow_heap _ _ _ _ _ _ h.r, h.old.after (X := fun k => k < w.heap.size) ⟨rfl, rfl, by simp, fun k hk => setRow_other _ _ _ _ (by omega)⟩ fun _ h => h⟩
end AdSt
set_option maxRecDepth 100000 in
set_option maxHeartbeats 4000000 in
theorem added_any (f : Nat → Int) (p : Option Addr) (n cap : Nat) (T : Nat → Int) (c : Int) (w : World) (hs : SlF 2 w p n T) (hn : n ≤ 9223372036854775807) :
    Calls Tryz.prog 113 #[.agg (rowN 16 (blk f)), .slice p n cap, .int .i64 c] w fun e w' => e = .returned (.agg (rowN 16 (blk (addTo c f T n)))) ∧ Old w w' := by
  obtain ⟨z, hz⟩ : ∃ z, z = rowN 16 (blk fun _ => 0) := ⟨_, rfl⟩
  have Hb16 : Hid ((Tryz.prog.info? 53).map (·.size) = some 16) := Lib.hid (by kernel_rfl)
  have HS := Lib.hid hs
  have HP := Lib.hid (fun i w => isPlace_any i w)
  clear hs
  go_enter Tryz.func113, Tryz.ntmps113
  go_wp2_with fail
  rw [← row16_zero]
  have H0 : Hid (AdSt 53 (rowN 16 (blk fun _ => 0)) w f ((w.alloc (.cells (rowN 16 (blk f)) 53)).alloc (.cells (rowN 16 (blk fun _ => 0)) 53))) := ⟨heap_alloc2_old w _ _, heap_alloc2_new w _ _, (Old.alloc w _).alloc' _⟩
  clear hz z
  go_loopw [11] (fun i wr => ∃ k : Nat, k ≤ n ∧ i = .int .i64 k ∧ Hid (AdSt 53 (rowN 16 (blk fun _ => 0)) w (addTo c f T k) wr)) (fun i _ => n - (intOf i).toNat)
  case atStart => exact ⟨0, by omega, rfl, H0⟩
  case round =>
    obtain ⟨k, hk, rfl, hs⟩ := hrel
    clear H0
    by_cases hlt : k < n
    · obtain ⟨g, o, rfl, hg, hc⟩ := two_cells HS.out (by omega)
      obtain ⟨c1, c2⟩ := hc k hlt
      rw [← hs.out.old.cell (a := ⟨g, o + k * 2, none⟩) hg] at c1
      rw [← hs.out.old.cell (a := ⟨g, o + k * 2 + 1, none⟩) hg] at c2
      have hst : addTo c f T (k + 1) = addOne c (addTo c f T k) (T (2 * k)) (T (2 * k + 1)) := rfl
      have HST := Lib.hid hst
      clear hc HS hst hg
      generalize T (2 * k) = x at *
      generalize T (2 * k + 1) = y at *
      generalize addTo c f T k = G at *
      by_cases hx : 0 ≤ x ∧ x < 16
      · obtain ⟨m, rfl⟩ : ∃ m : Nat, x = m := ⟨x.toNat, by omega⟩
        have hm : m < 16 := by omega
        have m0 : (0 : Int) ≤ m := by omega
        have m1 : (m : Int) < 16 := by omega
        have hP := fun w => HP.out (m : Int) w
        rw [decide_eq_true hx] at hP
        have HPm := Lib.hid hP
        clear hP hx HP
        obtain ⟨W1, hW1⟩ : ∃ W1, W1 = wr.alloc (.cells #[.int .i64 m, .int .i64 y] 97) := ⟨_, rfl⟩
        have hs1 : AdSt 53 (rowN 16 (blk fun _ => 0)) w G W1 := by rw [hW1]; exact hs.out.keep (Old.alloc _ _)
        have d1 : W1.cell? ⟨wr.heap.size, 0, none⟩ = some (.int .i64 m) := by rw [hW1, World.cell?_alloc_at _ _ _ _ rfl]; rfl
        have d2 : W1.cell? ⟨wr.heap.size, 1, none⟩ = some (.int .i64 y) := by rw [hW1, World.cell?_alloc_at _ _ _ _ rfl]; rfl
        obtain ⟨d3, d4⟩ := hs1.cell m hm
        obtain ⟨v, hv⟩ : ∃ v, wrap64 (G m + wrap64 (c * y)) = v := ⟨_, rfl⟩
        have hn1 : AdSt 53 (rowN 16 (blk fun _ => 0)) w (addTo c f T (k + 1)) (W1.setCell ⟨w.heap.size, m, none⟩ (.int .i64 v)).drew := by
          rw [HST.out, addOne_yes _ _ _ _ hm, hv]
          exact (hs1.set m hm v).drew
        have HN1 := Lib.hid hn1
        have hwr : w.heap.size < wr.heap.size := lt_of_block hs.out.b
        clear hs hs1 hn1 HST
        generalize G m = u at *
        go_wp2_with fail
        rw [← hW1]
        clear hW1
        refine (HPm.out _).mono ?_
        rintro e w1 ⟨rfl, rfl⟩
        go_wp2_with fail
        go_region
        go_wp2_with fail
        go_roundw
        case rel => exact ⟨k + 1, by omega, by go_num, HN1⟩
        case measure => simp [intOf]; omega
      · have hP := fun w => HP.out x w
        rw [decide_eq_false hx] at hP
        have HPm := Lib.hid hP
        have hn1 : AdSt 53 (rowN 16 (blk fun _ => 0)) w (addTo c f T (k + 1)) (wr.alloc (.cells #[.int .i64 x, .int .i64 y] 97)) := by
          rw [HST.out, addOne_no _ _ _ _ hx]
          exact hs.out.keep (Old.alloc _ _)
        have HN1 := Lib.hid hn1
        clear hP hx HP hs hn1 HST
        go_wp2_with fail
        refine (HPm.out _).mono ?_
        rintro e w1 ⟨rfl, rfl⟩
        go_wp2_with fail
        go_roundw
        case rel => exact ⟨k + 1, by omega, by go_num, HN1⟩
        case measure => simp [intOf]; omega
    · obtain rfl : k = n := by omega
      have HB := Lib.hid hs.out.b
      have HR := Lib.hid hs.out.r
      have Hd := Lib.hid (hs.out.row (rowN 16 (blk (addTo c f T k))))
      have H1 : Hid ((rowN 16 (blk (addTo c f T k))).all (·.oneCell') = true) := Lib.hid (blk_one _ _)
      have hsz := rowN_size 16 (blk (addTo c f T k))
      have Hz : Hid ((rowN 16 (blk fun _ => 0)).size = (rowN 16 (blk (addTo c f T k))).size) := by unfold Hid; rw [rowN_size, rowN_size]
      clear hs HS HP
      go_wp2_with (first | (with_reducible refine wpList_load_row rfl 53 _ rfl w.heap.size rfl 53 (rowN 16 (blk (addTo c f T k))) (0, 0) _ HB.out Tryz.underlying53 rfl (by rw [rowN_size]; exact Hb16.out) ?_) | (with_reducible refine wpList_store_row rfl 53 _ _ rfl (w.heap.size + 1) (rowN 16 (blk (addTo c f T k))) rfl rfl 53 _ HR.out (by rw [hsz]; exact Hb16.out) (by rw [hsz]; kernel_rfl) H1.out ?_))
      exact bodyPost_ret (results_cell_row rfl _ _ (w.heap.size + 1) 53 (rowN 16 (blk (addTo c f T k))) (0, 0) _ rfl Hd.out.1 Tryz.underlying53 rfl (by rw [hsz]; exact Hb16.out)) rfl ⟨rfl, Hd.out.2⟩
set_option maxRecDepth 100000 in
theorem Out_any (f : Nat → Int) (p : Option Addr) (n cap : Nat) (T : Nat → Int) (w : World) (hs : SlF 2 w p n T) (hn : n ≤ 9223372036854775807) :
    Calls Tryz.prog 83 #[.agg (rowN 16 (blk f)), .slice p n cap] w fun e w' => e = .returned (.agg (rowN 16 (blk (addTo (-1) f T n)))) ∧ Old w w' := by
  have Hb16 : Hid ((Tryz.prog.info? 53).map (·.size) = some 16) := Lib.hid (by kernel_rfl)
  obtain ⟨W0, hW0⟩ : ∃ W0, W0 = ((w.alloc (.cells (rowN 16 (blk f)) 53)).alloc (.cells (rowN 16 (blk fun _ => 0)) 53)) := ⟨_, rfl⟩
  have h0 : AdSt 53 (rowN 16 (blk fun _ => 0)) w f W0 := by rw [hW0]; exact ⟨heap_alloc2_old w _ _, heap_alloc2_new w _ _, (Old.alloc w _).alloc' _⟩
  have HA := Lib.hid (added_any f p n cap T (-1) W0 (hs.old h0.old) hn)
  have H0 := Lib.hid h0
  have hB := h0.b
  rw [row16_zero] at hW0
  rw [hW0] at hB
  have HB := Lib.hid hB
  have HW := Lib.hid hW0
  clear h0 hs hB hW0
  go_enter Tryz.func83, Tryz.ntmps83
  go_wp2_with (with_reducible refine wpList_load_row rfl 53 _ rfl w.heap.size rfl 53 (rowN 16 (blk f)) (0, 0) _ HB.out Tryz.underlying53 rfl (by rw [rowN_size]; exact Hb16.out) ?_)
  rw [← HW.out]
  clear HW
  refine HA.out.mono ?_
  rintro e w1 ⟨rfl, ho⟩
  have h1 := H0.out.keep ho
  have HR := Lib.hid h1.r
  have Hd := Lib.hid (h1.row (rowN 16 (blk (addTo (-1) f T n))))
  have H1 : Hid ((rowN 16 (blk (addTo (-1) f T n))).all (·.oneCell') = true) := Lib.hid (blk_one _ _)
  have hsz := rowN_size 16 (blk (addTo (-1) f T n))
  clear h1 ho H0 HB HA
  go_wp2_with (with_reducible refine wpList_store_row rfl 53 _ _ rfl (w.heap.size + 1) (rowN 16 (blk (addTo (-1) f T n))) rfl rfl 53 _ HR.out (by rw [hsz]; exact Hb16.out) (by rw [hsz]; kernel_rfl) H1.out ?_)
  exact bodyPost_ret (results_cell_row rfl _ _ (w.heap.size + 1) 53 (rowN 16 (blk (addTo (-1) f T n))) (0, 0) _ rfl Hd.out.1 Tryz.underlying53 rfl (by rw [hsz]; exact Hb16.out)) rfl ⟨rfl, Hd.out.2⟩
end Go.Proofs.YtlcbmgbnhjgelaaGreat

/- The states of a sort by insertion, and what a sorted list of its own elements is. No program. -/
namespace Go.Proofs.YtlcbmgbnhjgelaaGreat
set_option linter.unusedVariables false
set_option maxRecDepth 100000
open Go.RowKit

/-- The first i of F are in order R, the others as they were. -/
structure InsO (R : Int → Int → Prop) (F : Nat → Int) (i : Nat) (G : Nat → Int) : Prop where
  rest : ∀ k, i ≤ k → G k = F k
  ord : ∀ a b, a < b → b < i → R (G a) (G b)
  frm : ∀ k, k < i → ∃ m, m < i ∧ G k = F m
  all : ∀ m, m < i → ∃ k, k < i ∧ G k = F m
/-- Element i has come down to place j. -/
structure InsI (R : Int → Int → Prop) (F : Nat → Int) (i j : Nat) (G : Nat → Int) : Prop where
  le : j ≤ i
  rest : ∀ k, i < k → G k = F k
  own : G j = F i
  ord : ∀ a b, a < b → b ≤ i → a ≠ j → b ≠ j → R (G a) (G b)
  lo : ∀ b, j < b → b ≤ i → R (G j) (G b)
  frm : ∀ k, k ≤ i → k ≠ j → ∃ m, m < i ∧ G k = F m
  all : ∀ m, m < i → ∃ k, k ≤ i ∧ k ≠ j ∧ G k = F m
/-- Two neighbours turned round, as the two stores do it. -/
def swapF (G : Nat → Int) (j : Nat) : Nat → Int := fun k => if k = j - 1 then G j else if k = j then G (j - 1) else G k
theorem swapF_set (G : Nat → Int) (j : Nat) (hj : 0 < j) : (fun k => if k = j - 1 then G j else (fun k => if k = j then G (j - 1) else G k) k) = swapF G j := rfl
theorem swapF_set' (G : Nat → Int) (j : Nat) (hj : 0 < j) : (fun k => if k = j then G (j - 1) else (fun k => if k = j - 1 then G j else G k) k) = swapF G j := by
  funext k
  unfold swapF
  by_cases h : k = j
  · subst h; rw [if_pos rfl, if_neg (by omega), if_pos rfl]
  · rw [if_neg h]; dsimp only; split <;> rfl
theorem InsO.start (R : Int → Int → Prop) (F : Nat → Int) : InsO R F 1 F :=
  ⟨fun _ _ => rfl, fun a b h1 h2 => by omega, fun k hk => ⟨k, hk, rfl⟩, fun m hm => ⟨m, hm, rfl⟩⟩
theorem InsO.enter {R : Int → Int → Prop} {F G : Nat → Int} {i : Nat} (h : InsO R F i G) : InsI R F i i G :=
  ⟨Nat.le_refl _, fun k hk => h.rest k (by omega), h.rest i (Nat.le_refl _), fun a b h1 h2 h3 h4 => h.ord a b h1 (by omega), fun b h1 h2 => by omega, fun k h1 h2 => h.frm k (by omega), fun m hm => by
    obtain ⟨k, h1, h2⟩ := h.all m hm
    exact ⟨k, by omega, by omega, h2⟩⟩
theorem InsI.swap {R : Int → Int → Prop} {F G : Nat → Int} {i j : Nat} (h : InsI R F i j G) (hj : 0 < j) (hR : R (G j) (G (j - 1))) : InsI R F i (j - 1) (swapF G j) := by
  have hle := h.le
  have e1 : swapF G j (j - 1) = G j := by unfold swapF; rw [if_pos rfl]
  have e2 : swapF G j j = G (j - 1) := by unfold swapF; rw [if_neg (by omega), if_pos rfl]
  have e3 : ∀ k, k ≠ j → k ≠ j - 1 → swapF G j k = G k := fun k h1 h2 => by unfold swapF; rw [if_neg h2, if_neg h1]
  refine ⟨by omega, fun k hk => by rw [e3 k (by omega) (by omega)]; exact h.rest k hk, by rw [e1]; exact h.own, ?_, ?_, ?_, ?_⟩
  · intro a b h1 h2 h3 h4
    by_cases c : a = j
    · subst c
      rw [e2, e3 b (by omega) h4]
      exact h.ord _ _ (by omega) h2 (by omega) (by omega)
    · by_cases d : b = j
      · subst d
        rw [e2, e3 a c h3]
        exact h.ord _ _ (by omega) (by omega) c (by omega)
      · rw [e3 a c h3, e3 b d h4]
        exact h.ord _ _ h1 h2 c d
  · intro b h1 h2
    rw [e1]
    by_cases d : b = j
    · subst d; rw [e2]; exact hR
    · rw [e3 b d (by omega)]; exact h.lo b (by omega) h2
  · intro k h1 h2
    by_cases d : k = j
    · subst d; rw [e2]; exact h.frm _ (by omega) (by omega)
    · rw [e3 k d h2]; exact h.frm k h1 d
  · intro m hm
    obtain ⟨k, h1, h2, h3⟩ := h.all m hm
    by_cases d : k = j - 1
    · subst d; exact ⟨j, by omega, by omega, by rw [e2]; exact h3⟩
    · exact ⟨k, h1, d, by rw [e3 k h2 d]; exact h3⟩
theorem InsI.done {R : Int → Int → Prop} (tr : ∀ x y z, R x y → R y z → R x z) {F G : Nat → Int} {i j : Nat} (h : InsI R F i j G) (hR : 0 < j → R (G (j - 1)) (G j)) : InsO R F (i + 1) G := by
  have hle := h.le
  refine ⟨fun k hk => h.rest k (by omega), ?_, ?_, ?_⟩
  · intro a b h1 h2
    by_cases c : a = j
    · subst c; exact h.lo b h1 (by omega)
    · by_cases d : b = j
      · subst d
        by_cases e : a = b - 1
        · subst e; exact hR (by omega)
        · exact tr _ _ _ (h.ord a (b - 1) (by omega) (by omega) c (by omega)) (hR (by omega))
      · exact h.ord a b h1 (by omega) c d
  · intro k hk
    by_cases d : k = j
    · subst d; exact ⟨i, by omega, h.own⟩
    · obtain ⟨m, h1, h2⟩ := h.frm k (by omega) d
      exact ⟨m, by omega, h2⟩
  · intro m hm
    by_cases d : m = i
    · subst d; exact ⟨j, by omega, h.own⟩
    · obtain ⟨k, h1, _, h2⟩ := h.all m (by omega)
      exact ⟨k, by omega, h2⟩
/-- Sorted, in whatever number (also of none). -/
structure SrtO (R : Int → Int → Prop) (F : Nat → Int) (n : Nat) (G : Nat → Int) : Prop where
  ord : ∀ a b, a < b → b < n → R (G a) (G b)
  frm : ∀ k, k < n → ∃ m, m < n ∧ G k = F m
  all : ∀ m, m < n → ∃ k, k < n ∧ G k = F m
theorem InsO.srt {R : Int → Int → Prop} {F G : Nat → Int} {i n : Nat} (h : InsO R F i G) (hi : i = n ∨ n = 0) : SrtO R F n G := by
  rcases hi with rfl | rfl
  · exact ⟨h.ord, h.frm, h.all⟩
  · exact ⟨fun _ _ _ h => by omega, fun _ h => by omega, fun _ h => by omega⟩

/-- Rising lists of the same elements are one. -/
theorem rising_eq : ∀ (xs ys : List Nat), xs.Pairwise (· < ·) → ys.Pairwise (· < ·) → (∀ x, x ∈ xs ↔ x ∈ ys) → xs = ys
  | [], [], _, _, _ => rfl
  | [], y :: ys, _, _, h => by have := (h y).2 (by simp); simp at this
  | x :: xs, [], _, _, h => by have := (h x).1 (by simp); simp at this
  | x :: xs, y :: ys, hx, hy, h => by
    rw [List.pairwise_cons] at hx hy
    have h1 : x = y := by
      rcases List.mem_cons.1 ((h x).1 (by simp)) with e | e
      · exact e
      · rcases List.mem_cons.1 ((h y).2 (by simp)) with e' | e'
        · exact e'.symm
        · have := hy.1 x e; have := hx.1 y e'; omega
    subst h1
    rw [rising_eq xs ys hx.2 hy.2 fun z => ?_]
    constructor
    · intro hz
      have h2 := hx.1 z hz
      rcases List.mem_cons.1 ((h z).1 (by simp [hz])) with e | e
      · omega
      · exact e
    · intro hz
      have h2 := hy.1 z hz
      rcases List.mem_cons.1 ((h z).2 (by simp [hz])) with e | e
      · omega
      · exact e
/-- A row that was made by appends, told by its cells. -/
theorem own_cells {X : Nat → Prop} {w : World} {t : TypeId} {v : Value} {xs : List Int} (h : ownX X w t v xs.length (xs.map (Value.int .i64))) : (v = .slice none 0 0 ∧ xs = []) ∨ ∃ g cap, v = .slice (some ⟨g, 0, none⟩) xs.length cap ∧ ¬ X g ∧ xs.length ≤ cap ∧ cap ≤ maxLen ∧ CellsAt w g xs.length (fun j => xs.getD j 0) := by
  rcases h.shape with ⟨hv, h0⟩ | ⟨g, cap, hv, hx, hg, h1, h2, h3⟩
  · exact .inl ⟨hv, List.eq_nil_of_length_eq_zero h0⟩
  · subst hv
    refine .inr ⟨g, cap, rfl, hx, h1, h2, hg, fun j hj => h3 j _ ?_, fun j hj => h.frozenAt j⟩
    rw [List.getElem?_map, List.getElem?_eq_getElem hj]
    simp [List.getD, hj]
end Go.Proofs.YtlcbmgbnhjgelaaGreat

/- Package tone's contracts, second part: the closure that tells what is greater, and the library's insertion by it. -/
namespace Go.Proofs.YtlcbmgbnhjgelaaGreat
set_option linter.unusedVariables false
set_option maxRecDepth 100000
open Go.RowKit Go.ChangeShapes Go.WideShapes

theorem isNaN64_any (x : Int) (w : World) :
    Calls Tryz.prog 124 #[.int .i64 x] w fun e w' => e = .returned (.bool false) ∧ w = w' := by
  go_enter Tryz.func124, Tryz.ntmps124
  go_wp2
  go_ret
  refine ⟨?_, rfl⟩
  show Ending.returned (.bool _) = _
  simp
def cmpI (a b : Int) : Int := if a < b then -1 else if b < a then 1 else 0
theorem Compare64_any (x y : Int) (w : World) :
    Calls Tryz.prog 111 #[.int .i64 x, .int .i64 y] w fun e w' => e = .returned (.int .i64 (cmpI x y)) ∧ w = w' := by
  have HX := Lib.hid (fun w => isNaN64_any x w)
  have HY := Lib.hid (fun w => isNaN64_any y w)
  by_cases h1 : x < y
  · have e : cmpI x y = -1 := by unfold cmpI; rw [if_pos h1]
    rw [e]; clear e
    go_enter Tryz.func111, Tryz.ntmps111
    go_wp2_with fail
    refine (HX.out _).mono ?_
    rintro e w1 ⟨rfl, rfl⟩
    go_wp2_with fail
    refine (HY.out _).mono ?_
    rintro e w1 ⟨rfl, rfl⟩
    go_wp2_with fail
    go_ret
    exact ⟨rfl, rfl⟩
  · by_cases h2 : y < x
    · have e : cmpI x y = 1 := by unfold cmpI; rw [if_neg h1, if_pos h2]
      rw [e]; clear e
      go_enter Tryz.func111, Tryz.ntmps111
      go_wp2_with fail
      refine (HX.out _).mono ?_
      rintro e w1 ⟨rfl, rfl⟩
      go_wp2_with fail
      refine (HY.out _).mono ?_
      rintro e w1 ⟨rfl, rfl⟩
      go_wp2_with fail
      go_ret
      exact ⟨rfl, rfl⟩
    · have e : cmpI x y = 0 := by unfold cmpI; rw [if_neg h1, if_neg h2]
      rw [e]; clear e
      go_enter Tryz.func111, Tryz.ntmps111
      go_wp2_with fail
      refine (HX.out _).mono ?_
      rintro e w1 ⟨rfl, rfl⟩
      go_wp2_with fail
      refine (HY.out _).mono ?_
      rintro e w1 ⟨rfl, rfl⟩
      go_wp2_with fail
      go_ret
      exact ⟨rfl, rfl⟩
set_option maxHeartbeats 4000000 in
set_option maxRecDepth 100000 in
theorem louder_any (f : Nat → Int) (hf : Fits64 f) (b x y : Nat) (w : World) (hb : w.heap[b]? = some (.cells (rowN 16 (blk f)) 53 (0, 0))) (hx : x < 16) (hy : y < 16) :
    Calls Tryz.prog 110 #[.int .i64 x, .int .i64 y, .pointer (some ⟨b, 0, none⟩)] w fun e w' => e = .returned (.int .i64 (cmpI (absI (f y)) (absI (f x)))) ∧ ∃ n, w' = w.drewN n := by
  have cx : w.cell? ⟨b, x, none⟩ = some (.int .i64 (f x)) := (cell_of_row _ _ _ _ _ _ hb).trans (blk_at 16 f x hx)
  have cy : w.cell? ⟨b, y, none⟩ = some (.int .i64 (f y)) := (cell_of_row _ _ _ _ _ _ hb).trans (blk_at 16 f y hy)
  have HX := Lib.hid (fun w => Abs_any (f x) w (hf x).1 (hf x).2)
  have HY := Lib.hid (fun w => Abs_any (f y) w (hf y).1 (hf y).2)
  have HC := Lib.hid (fun w => Compare64_any (absI (f y)) (absI (f x)) w)
  have x0 : (0 : Int) ≤ x := by omega
  have x1 : (x : Int) < 16 := by omega
  have y0 : (0 : Int) ≤ y := by omega
  have y1 : (y : Int) < 16 := by omega
  clear hb hf
  generalize cmpI (absI (f y)) (absI (f x)) = c at *
  generalize absI (f x) = p at *
  generalize absI (f y) = q at *
  generalize f x = u at *
  generalize f y = v at *
  go_enter Tryz.func110, Tryz.ntmps110
  go_wp2_with fail
  go_quiet ((first | (go_at_call 111; with_reducible exact Calls.quiet_of_same ((HC.out _).mono fun _ _ hh => ⟨hh.1, hh.2.symm⟩)) | (go_at_call 70; first | with_reducible exact Calls.quiet_of_same ((HX.out _).mono fun _ _ hh => ⟨hh.1, hh.2.symm⟩) | with_reducible exact Calls.quiet_of_same ((HY.out _).mono fun _ _ hh => ⟨hh.1, hh.2.symm⟩))))
  go_wp2_with fail
  go_ret
  exact ⟨rfl, _, rfl⟩
end Go.Proofs.YtlcbmgbnhjgelaaGreat

/- The library's insertion sort by tone.Find's closure, and what calls it. -/
namespace Go.Proofs.YtlcbmgbnhjgelaaGreat
set_option linter.unusedVariables false
set_option maxRecDepth 100000
open Go.RowKit Go.ChangeShapes Go.WideShapes

/-- A place comes ahead of another: its number is greater, without signs, or alike, and it comes first. -/
def keyI (f : Nat → Int) (x : Int) : Int := absI (f x.toNat)
def aheadP (f : Nat → Int) (x y : Int) : Prop := keyI f y < keyI f x ∨ (keyI f y = keyI f x ∧ x < y)
theorem aheadP_trans (f : Nat → Int) (x y z : Int) (h1 : aheadP f x y) (h2 : aheadP f y z) : aheadP f x z := by unfold aheadP at *; omega
/-- Places that are sorted: in range, each once. -/
def placesP (F : Nat → Int) (n : Nat) : Prop := (∀ k, k < n → 0 ≤ F k ∧ F k < 16) ∧ ∀ a b, a < b → b < n → F a < F b
/-- The row that is sorted, and the spectrum beside it. -/
structure InsW (t : TypeId) (w0 : World) (g n b : Nat) (f : Nat → Int) (G : Nat → Int) (W : World) : Prop where
  row : CellsAt W g n G
  box : W.heap[b]? = some (.cells (rowN 16 (blk f)) t (0, 0))
  kept : Kept (butOf w0 g) w0 W
namespace InsW
variable {t : TypeId} {w0 W : World} {g n b : Nat} {f G : Nat → Int}
theorem drewN (h : InsW t w0 g n b f G W) (d : Nat) : InsW t w0 g n b f G (W.drewN d) := ⟨h.row.drewN d, h.box, h.kept.drewN d⟩
theorem drew (h : InsW t w0 g n b f G W) : InsW t w0 g n b f G W.drew := ⟨h.row.drew, h.box, h.kept.drew⟩
theorem set (h : InsW t w0 g n b f G W) (hne : g ≠ b) (j : Nat) (hj : j < n) (v : Int) : InsW t w0 g n b f (fun k => if k = j then v else G k) (W.setCell ⟨g, j, none⟩ (.int .i64 v)) :=
  ⟨h.row.set j hj v, (heap_setCell_other _ _ _ _ hne.symm).trans h.box, h.kept.trans (Kept.setCell (X := butOf w0 g) _ (a := ⟨g, j, none⟩) (fun e => e.2 rfl) _)⟩
theorem swap (h : InsW t w0 g n b f G W) (hne : g ≠ b) (j : Nat) (hj : j < n) (h0 : 0 < j) : InsW t w0 g n b f (swapF G j) ((W.setCell ⟨g, j, none⟩ (.int .i64 (G (j - 1)))).setCell ⟨g, j - 1, none⟩ (.int .i64 (G j))) :=
  (h.set hne j hj _).set hne (j - 1) (by omega) _
end InsW
set_option maxHeartbeats 4000000 in
set_option maxRecDepth 100000 in
theorem insertion_any (f : Nat → Int) (hf : Fits64 f) (b g n cap : Nat) (F : Nat → Int) (w : World) (hF : placesP F n) (hb : w.heap[b]? = some (.cells (rowN 16 (blk f)) 53 (0, 0))) (hg : CellsAt w g n F) (hne : g ≠ b) (hn : n ≤ 4611686018427387904) :
    Calls Tryz.prog 129 #[.slice (some ⟨g, 0, none⟩) n cap, .int .i64 0, .int .i64 n, .func (.func 110) #[] #[.pointer (some ⟨b, 0, none⟩)]] w fun e w' => e = .returned (.tuple #[]) ∧ ∃ G, SrtO (aheadP f) F n G ∧ CellsAt w' g n G ∧ Kept (butOf w g) w w' := by
  have H0 : Hid (InsW 53 w g n b f F w) := ⟨hg, hb, Kept.refl _ _⟩
  have HF := Lib.hid hF
  have H64 := Lib.hid hf
  have HNE := Lib.hid hne
  clear hb hg hF hf hne
  go_enter Tryz.func129, Tryz.ntmps129
  go_wp2_with fail
  go_loopw [8] (fun i wr => ∃ (k : Nat) (G : Nat → Int), 1 ≤ k ∧ (k ≤ n ∨ k = 1) ∧ i = .int .i64 k ∧ Hid (InsO (aheadP f) F k G) ∧ Hid (InsW 53 w g n b f G wr)) (fun i _ => n - (intOf i).toNat)
  case atStart => exact ⟨1, F, by omega, .inr rfl, rfl, InsO.start _ _, H0⟩
  case round =>
    obtain ⟨i, G, hi1, hi2, rfl, HO, HW⟩ := hrel
    clear H0
    by_cases hlt : i < n
    · clear hi2
      obtain ⟨wo, rfl⟩ : ∃ V, V = wr := ⟨_, rfl⟩
      have HI := Lib.hid HO.out.enter
      clear HO
      go_wp2_with fail
      go_loopw [9] (fun jv wr => ∃ (j : Nat) (G : Nat → Int), jv = .int .i64 j ∧ j ≤ i ∧ Hid (InsI (aheadP f) F i j G) ∧ Hid (InsW 53 w g n b f G wr)) (fun jv _ => (intOf jv).toNat)
      case atStart => exact ⟨i, G, rfl, Nat.le_refl _, HI, HW⟩
      case round =>
        clear HI HW
        obtain ⟨j, G, rfl, hj, HI, HW⟩ := hrel
        by_cases h0 : 0 < j
        · obtain ⟨m, hm⟩ : ∃ m : Nat, m = j - 1 := ⟨_, rfl⟩
          have hmj : m < j := by omega
          have hjn : j < n := by omega
          have hmn : m < n := by omega
          have e1 : IntKind.i64.wrap ((j : Int) - 1) = (m : Int) := by rw [show ((j : Int) - 1) = (m : Int) by omega]; exact IntWalk.i64_in _ (by omega)
          have e2 : wrap64 ((j : Int) - 1) = (m : Int) := by rw [show ((j : Int) - 1) = (m : Int) by omega]; exact IntWalk.wrap64_in _ (by omega)
          have c1 := HW.out.row.cell j hjn
          have c2 := HW.out.row.cell m hmn
          have f1 := HW.out.row.frz j hjn
          have f2 := HW.out.row.frz m hmn
          have b1 : 0 ≤ G j ∧ G j < 16 := by rw [HI.out.own]; exact HF.out.1 i hlt
          obtain ⟨m', hm', hGm⟩ := HI.out.frm m (by omega) (by omega)
          have b2 : 0 ≤ G m ∧ G m < 16 := by rw [hGm]; exact HF.out.1 m' (by omega)
          have b3 : G m < G j := by rw [hGm, HI.out.own]; exact HF.out.2 m' i hm' hlt
          have hL := fun w' hb' => louder_any f H64.out b (G j).toNat (G m).toNat w' hb' (by omega) (by omega)
          rw [Int.toNat_of_nonneg b1.1, Int.toNat_of_nonneg b2.1] at hL
          have hLo := fun d => hL (wr.drewN d) HW.out.box
          have j0 : (0 : Int) < j := by omega
          have e0 : m = j - 1 := hm
          by_cases c : keyI f (G m) < keyI f (G j)
          · have hc : cmpI (absI (f (G m).toNat)) (absI (f (G j).toNat)) = -1 := by unfold cmpI; exact if_pos c
            rw [hc] at hLo
            have HLo := Lib.hid hLo
            clear hLo
            have HI2 := Lib.hid (HI.out.swap h0 (by rw [← e0]; exact .inl c))
            have hW2 := fun d => (HW.out.drewN d).swap HNE.out j hjn h0
            rw [← e0] at HI2 hW2
            have HW2 := Lib.hid hW2
            have HM := Lib.hid e0
            clear hL HI HW hW2 b1 b2 b3 hGm hm' hc c hm e0
            generalize G j = x at *
            generalize G m = y at *
            go_wp2_with fail
            go_quiet ((go_at_call 110; with_reducible exact Calls.quiet_of (HLo.out _)))
            go_wp2_with fail
            go_region
            go_wp2_with fail
            go_roundw
            case rel => exact ⟨m, _, by go_num, by omega, HI2, HW2.out _⟩
            case measure => simp [intOf]; omega
          · obtain ⟨z, hz, hz0⟩ : ∃ z, cmpI (absI (f (G m).toNat)) (absI (f (G j).toNat)) = z ∧ 0 ≤ z := ⟨_, rfl, by unfold keyI at c; unfold cmpI; rw [if_neg c]; split <;> omega⟩
            rw [hz] at hLo
            have HLo := Lib.hid hLo
            have hD : InsO (aheadP f) F (i + 1) G := HI.out.done (aheadP_trans f) (fun _ => by rw [← e0]; unfold aheadP; unfold keyI at *; omega)
            have HD := Lib.hid hD
            have hW2 := fun d => (HW.out.drewN d)
            have HW2 := Lib.hid hW2
            clear hLo hL HI HW hW2 hD b1 b2 b3 hGm hm' hz c hm e0
            generalize G j = x at *
            generalize G m = y at *
            go_wp2_with fail
            go_quiet ((go_at_call 110; with_reducible exact Calls.quiet_of (HLo.out _)))
            go_wp2_with fail
            go_roundw
            case rel => exact ⟨i + 1, _, by omega, by omega, by go_num, HD, HW2.out _⟩
            case measure => simp [intOf]; omega
        · obtain rfl : j = 0 := by omega
          have hD : InsO (aheadP f) F (i + 1) G := HI.out.done (aheadP_trans f) (fun h => absurd h h0)
          have HD := Lib.hid hD
          have hW2 := fun d => (HW.out.drewN d)
          have HW2 := Lib.hid hW2
          clear HI HW hW2 hD h0
          go_wp2_with fail
          go_quiet (fail)
          go_wp2_with fail
          go_roundw
          case rel => exact ⟨i + 1, _, by omega, by omega, by go_num, HD, HW2.out _⟩
          case measure => simp [intOf]; omega
    · have hS : SrtO (aheadP f) F n G := HO.out.srt (by omega)
      have HS := Lib.hid hS
      have hR := HW.out.row
      have hK := HW.out.kept
      have HR := Lib.hid hR
      have HK := Lib.hid hK
      clear hS HO HW hR hK
      go_wp2_with fail
      go_end0
      exact ⟨rfl, G, HS.out, HR.out, HK.out⟩
set_option maxRecDepth 100000 in
theorem stable_any (f : Nat → Int) (hf : Fits64 f) (b g n cap : Nat) (F : Nat → Int) (w : World) (hF : placesP F n) (hb : w.heap[b]? = some (.cells (rowN 16 (blk f)) 53 (0, 0))) (hg : CellsAt w g n F) (hne : g ≠ b) (hn : n < 20) :
    Calls Tryz.prog 123 #[.slice (some ⟨g, 0, none⟩) n cap, .int .i64 n, .func (.func 110) #[] #[.pointer (some ⟨b, 0, none⟩)]] w fun e w' => e = .returned (.tuple #[]) ∧ ∃ G, SrtO (aheadP f) F n G ∧ CellsAt w' g n G ∧ Kept (butOf w g) w w' := by
  have HI := Lib.hid (insertion_any f hf b g n cap F w hF hb hg hne (by omega))
  clear hf hF hb hg hne
  go_enter Tryz.func123, Tryz.ntmps123
  go_wp2_with fail
  go_loop [7, 8] (fun a c => a = .int .i64 0 ∧ c = .int .i64 20) (fun _ _ => 0)
  case atStart => exact ⟨rfl, rfl⟩
  case round =>
    obtain ⟨rfl, rfl⟩ := hrel
    go_wp2_with fail
    refine HI.out.mono ?_
    rintro e w1 ⟨rfl, hh⟩
    have HH := Lib.hid hh
    clear hh HI
    go_wp2_with fail
    go_loop [6] (fun c => c = .int .i64 20) (fun _ => 0)
    case atStart => rfl
    case round =>
      subst hrel
      go_wp2_with fail
      go_end0
      exact ⟨rfl, HH.out⟩
theorem SortStable_any (f : Nat → Int) (hf : Fits64 f) (b g n cap : Nat) (F : Nat → Int) (w : World) (hF : placesP F n) (hb : w.heap[b]? = some (.cells (rowN 16 (blk f)) 53 (0, 0))) (hg : CellsAt w g n F) (hne : g ≠ b) (hn : n < 20) :
    Calls Tryz.prog 109 #[.slice (some ⟨g, 0, none⟩) n cap, .func (.func 110) #[] #[.pointer (some ⟨b, 0, none⟩)]] w fun e w' => e = .returned (.tuple #[]) ∧ ∃ G, SrtO (aheadP f) F n G ∧ CellsAt w' g n G ∧ Kept (butOf w g) w w' := by
  have HI := Lib.hid (stable_any f hf b g n cap F w hF hb hg hne hn)
  clear hf hF hb hg hne
  go_enter Tryz.func109, Tryz.ntmps109
  go_wp2_with fail
  refine HI.out.mono ?_
  rintro e w1 ⟨rfl, hh⟩
  have HH := Lib.hid hh
  clear hh HI
  go_wp2_with fail
  go_end0
  exact ⟨rfl, HH.out⟩
end Go.Proofs.YtlcbmgbnhjgelaaGreat

/- Package tone's contracts, third part: the places that are tones, rising. -/
namespace Go.Proofs.YtlcbmgbnhjgelaaGreat
set_option linter.unusedVariables false
set_option maxRecDepth 100000
open Go.RowKit Go.ChangeShapes Go.WideShapes

/-- The places below k that are tones. -/
def placesL (f : Nat → Int) (k : Nat) : List Nat := (List.range k).filter fun i => decide (isT f i)
def intsOf (l : List Nat) : List Int := l.map (fun i : Nat => (i : Int))
theorem intsOf_len (l : List Nat) : (intsOf l).length = l.length := by simp [intsOf]
theorem intsOf_getD (l : List Nat) (k : Nat) (h : k < l.length) : (intsOf l).getD k 0 = ((l.getD k 0 : Nat) : Int) := by simp [intsOf, List.getD, h]
theorem placesL_yes (f : Nat → Int) (k : Nat) (h : isT f k) : placesL f (k + 1) = placesL f k ++ [k] := by
  unfold placesL
  rw [List.range_succ, List.filter_append]
  simp [h]
theorem placesL_no (f : Nat → Int) (k : Nat) (h : ¬ isT f k) : placesL f (k + 1) = placesL f k := by
  unfold placesL
  rw [List.range_succ, List.filter_append]
  simp [h]
theorem placesL_len (f : Nat → Int) (k : Nat) : (placesL f k).length ≤ k := by
  have := List.length_filter_le (fun i => decide (isT f i)) (List.range k)
  simpa [placesL] using this
theorem mem_placesL {f : Nat → Int} {k i : Nat} : i ∈ placesL f k ↔ i < k ∧ isT f i := by simp [placesL]
theorem placesL_rising (f : Nat → Int) (k : Nat) : (placesL f k).Pairwise (· < ·) := List.Pairwise.filter _ List.pairwise_lt_range
/-- The spectrum's box, and the row of the places so far. -/
structure PlSt (tb te : TypeId) (w : World) (f : Nat → Int) (k : Nat) (v : Value) (W : World) : Prop where
  own : OwnL .i64 te (fun q => q < w.heap.size + 1) W v (intsOf (placesL f k))
  box : W.heap[w.heap.size]? = some (.cells (rowN 16 (blk f)) tb (0, 0))
  old : Old w W
theorem PlSt.keep {tb te : TypeId} {w W W' : World} {f : Nat → Int} {k : Nat} {v : Value} (h : PlSt tb te w f k v W) (o : Old W W') : PlSt tb te w f k v W' :=
  ⟨h.own.old o, (o.block _ (lt_of_block h.box)).trans h.box, h.old.trans o⟩
theorem PlSt.next {tb te : TypeId} {w W W' : World} {f : Nat → Int} {k : Nat} {v v' : Value} (h : PlSt tb te w f k v W) (hk : isT f k)
    (ho : ownX (fun q => q < w.heap.size + 1) W' te v' ((intsOf (placesL f k)).length + 1) ((intsOf (placesL f k)).map (Value.int .i64) ++ [.int .i64 k])) (ka : Kept (fun q => q < w.heap.size + 1) W W') : PlSt tb te w f (k + 1) v' W' := by
  refine ⟨?_, ?_, h.old.after ka fun q hq => by omega⟩
  · rw [placesL_yes f k hk, show intsOf (placesL f k ++ [k]) = intsOf (placesL f k) ++ [(k : Int)] from by simp [intsOf]]
    exact OwnL.snoc ho
  · exact (ka.block _ (by show w.heap.size < w.heap.size + 1; omega)).trans h.box
theorem Tryz.info_int' : (Tryz.prog.info? 3).map (fun i => (i.zero, i.size, i.bytes)) = some (some (.int .i64 0), 1, 8) := by kernel_rfl
set_option maxRecDepth 100000 in
set_option maxHeartbeats 1000000 in
theorem places_any (f : Nat → Int) (hf : Fits64 f) (w : World) :
    Calls Tryz.prog 108 #[.agg (rowN 16 (blk f))] w fun e w' => ∃ v, e = .returned v ∧ OwnL .i64 3 (fun q => q < w.heap.size) w' v (intsOf (placesL f 16)) ∧ Old w w' := by
  obtain ⟨i0, hi, hz0, hz1, hz2⟩ := info_parts Tryz.info_int'
  have Hb16 : Hid ((Tryz.prog.info? 53).map (·.size) = some 16) := Lib.hid (by kernel_rfl)
  have HIs := Lib.hid (fun (k : Nat) (hk : k < 16) w => Is_any f hf k w (by omega) (by omega))
  have H0 : Hid (PlSt 53 3 w f 0 (.slice none 0 0) (w.alloc (.cells (rowN 16 (blk f)) 53))) := ⟨by have := OwnL.nil .i64 3 (fun q => q < w.heap.size + 1) (w.alloc (.cells (rowN 16 (blk f)) 53)); exact this, heap_alloc_new _ _, Old.alloc _ _⟩
  clear hf
  go_enter Tryz.func108, Tryz.ntmps108
  go_wp2_with fail
  go_loopw [3, 5] (fun v i wr => ∃ k : Nat, k ≤ 16 ∧ i = .int .i64 k ∧ Hid (PlSt 53 3 w f k v wr)) (fun _ i _ => 16 - (intOf i).toNat)
  case atStart => exact ⟨0, by omega, rfl, H0⟩
  case round =>
    obtain ⟨k, hk, rfl, hs⟩ := hrel
    clear H0
    by_cases hlt : k < 16
    · have k0 : (0 : Int) ≤ k := by omega
      have k1 : (k : Int) < 16 := by omega
      have HI := Lib.hid (HIs.out k hlt wr)
      have Hbox := Lib.hid hs.out.box
      rw [isI_nat] at HI
      clear HIs
      go_wp2_with (with_reducible refine wpList_load_row rfl 53 _ rfl w.heap.size rfl 53 (rowN 16 (blk f)) (0, 0) _ Hbox.out Tryz.underlying53 rfl (by rw [rowN_size]; exact Hb16.out) ?_)
      refine HI.out.mono ?_
      rintro e w1 ⟨rfl, ho⟩
      have HS := Lib.hid (hs.out.keep ho)
      clear hs ho HI Hbox
      by_cases ht : isT f k
      · have hown := HS.out.own
        have hlen := placesL_len f k
        have HN := Lib.hid (fun v' w2 ho ka => HS.out.next (v' := v') (W' := w2) ht ho ka)
        have hd : decide (isT f k) = true := decide_eq_true ht
        have HXX : Hid (∀ (o : Obj) (q : Nat), q < w.heap.size + 1 → q < (w1.alloc o).heap.size) := fun o q hq => by
          have := lt_of_block HS.out.box
          simp
          omega
        have HXS : Hid (w.heap.size + 1 ≤ w1.heap.size) := lt_of_block HS.out.box
        have hll := intsOf_len (placesL f k)
        clear HS ht
        unfold OwnL at hown
        rw [hd]
        clear hd
        generalize intsOf (placesL f k) = xs at *
        generalize placesL f k = ps at *
        go_wp2_with ((at_builtin; refine append_X _ rfl _ _ 22 rfl (fun q => q < w.heap.size + 1) 3 i0 (.int .i64 0) 8 Tryz.underlying22 hi hz0 hz1 hz2 rfl _ _ _ rfl (hown.old (Old.alloc _ _)) ⟨w1.heap.size, 0, none⟩ 1 1 [.int .i64 k] rfl rfl (news_one w1 _ _) (one_oneCell _ _) (by unfold maxLen; omega) (by omega) (HXX.out _) ?_; intro v' w2 hown2 hk2 _; have hn2 := Lib.hid (HN.out v' w2 hown2 ((Kept.alloc _ _ (fun q hq => Nat.lt_of_lt_of_le hq HXS.out)).trans hk2)); clear hown hown2 hk2 HN))
        go_roundw
        case rel => exact ⟨k + 1, by omega, by go_num, hn2⟩
        case measure => simp [intOf]; omega
      · have hd : decide (isT f k) = false := decide_eq_false ht
        have hn : PlSt 53 3 w f (k + 1) u3 w1 := ⟨by rw [placesL_no f k ht]; exact HS.out.own, HS.out.box, HS.out.old⟩
        have HN := Lib.hid hn
        rw [hd]
        clear HS hn ht hd
        go_wp2_with fail
        go_roundw
        case rel => exact ⟨k + 1, by omega, by go_num, HN⟩
        case measure => simp [intOf]; omega
    · obtain rfl : k = 16 := by omega
      have hr : OwnL .i64 3 (fun q => q < w.heap.size) wr u3 (intsOf (placesL f 16)) ∧ Old w wr := ⟨hs.out.own.mono fun q hq h => by have := hs.out.own.2 q hq; omega, hs.out.old⟩
      have HR := Lib.hid hr
      clear hs hr HIs
      go_wp2_with fail
      go_ret
      exact ⟨u3, rfl, HR.out.1, HR.out.2⟩
end Go.Proofs.YtlcbmgbnhjgelaaGreat

