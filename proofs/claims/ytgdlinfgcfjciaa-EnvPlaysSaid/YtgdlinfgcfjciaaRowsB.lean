/- Rows of arrays of integers: cells of a block as a function of the place; read, written and copied in parts. No program. -/
import Derived.Test.YtgdlinfgcfjciaaArrI
import Derived.Deep.MidRow
import Derived.Laws.MakeOwn
namespace Go.Proofs.Ytgdlinfgcfjciaa
set_option linter.unusedVariables false
set_option maxRecDepth 100000
open Go.RowKit Go.ChangeShapes Go.WideShapes

/-- Numbers as cells, in a list. -/
def rowL (n : Nat) (f : Nat → Int) : List Value := (List.range n).map (blk f)
theorem rowL_len (n : Nat) (f : Nat → Int) : (rowL n f).length = n := by simp [rowL]
theorem rowL_at (n : Nat) (f : Nat → Int) (j : Nat) (h : j < n) : (rowL n f)[j]? = some (.int .i64 (f j)) := by simp [rowL, h, blk]
theorem rowL_get {n : Nat} {f : Nat → Int} {j : Nat} {v : Value} (h : (rowL n f)[j]? = some v) : j < n ∧ v = .int .i64 (f j) := by
  by_cases hj : j < n
  · rw [rowL_at n f j hj] at h; exact ⟨hj, by simpa using h.symm⟩
  · rw [List.getElem?_eq_none (by rw [rowL_len]; omega)] at h; cases h
theorem rowL_one (n : Nat) (f : Nat → Int) : ∀ v ∈ rowL n f, v.oneCell' = true := by
  intro v hv
  obtain ⟨i, _, rfl⟩ := List.mem_map.1 hv
  rfl
theorem rowN_rowL (n : Nat) (f : Nat → Int) : rowN n (blk f) = (rowL n f).toArray := rfl
theorem rowL_ext (n : Nat) (f g : Nat → Int) (h : ∀ k, k < n → f k = g k) : rowL n f = rowL n g := List.map_congr_left fun k hk => by unfold blk; rw [h k (List.mem_range.1 hk)]

/-- Block g holds these m numbers from its head on, and they may be written. -/
structure CellsAt (w : World) (g m : Nat) (F : Nat → Int) : Prop where
  lt : g < w.heap.size
  cell : ∀ j, j < m → w.cell? ⟨g, j, none⟩ = some (.int .i64 (F j))
  frz : ∀ j, j < m → w.frozen? ⟨g, j, none⟩ = false
/-- F with n numbers of f laid over it from o on. -/
def patch (F : Nat → Int) (o n : Nat) (f : Nat → Int) : Nat → Int := fun j => if o ≤ j ∧ j < o + n then f (j - o) else F j
theorem setCells_heap_other (b : Nat) : ∀ (vs : List Value) (o : Nat) (w : World) (k : Nat), k ≠ b → (w.setCells b o vs).heap[k]? = w.heap[k]?
  | [], _, _, _, _ => rfl
  | v :: r, o, w, k, h => by
    rw [World.setCells, setCells_heap_other b r (o + 1) _ k h]
    exact Below.heap_setCell _ _ _ _ h
theorem setCells_size (b : Nat) : ∀ (vs : List Value) (o : Nat) (w : World), (w.setCells b o vs).heap.size = w.heap.size
  | [], _, _ => rfl
  | v :: r, o, w => by rw [World.setCells, setCells_size b r (o + 1) _]; simp [World.setCell]
theorem setCells_os (b : Nat) : ∀ (vs : List Value) (o : Nat) (w : World), (w.setCells b o vs).os = w.os ∧ (w.setCells b o vs).output = w.output
  | [], _, _ => ⟨rfl, rfl⟩
  | v :: r, o, w => by rw [World.setCells]; exact setCells_os b r (o + 1) _
theorem Kept.setCells {X : Nat → Prop} (w : World) {b : Nat} (hb : ¬ X b) (o : Nat) (vs : List Value) : Kept X w (w.setCells b o vs) :=
  ⟨(setCells_os b vs o w).1, (setCells_os b vs o w).2, by rw [setCells_size]; exact Nat.le_refl _, fun k hk => setCells_heap_other _ _ _ _ _ (fun e => hb (e ▸ hk))⟩
namespace CellsAt
variable {w w' : World} {g m : Nat} {F : Nat → Int} {Y : Nat → Prop}
theorem kept (h : CellsAt w g m F) (k : Kept Y w w') (hY : Y g) : CellsAt w' g m F :=
  ⟨Nat.lt_of_lt_of_le h.lt k.size, fun j hj => (k.cell (a := ⟨g, j, none⟩) hY).trans (h.cell j hj), fun j hj => (k.frozen (a := ⟨g, j, none⟩) hY).trans (h.frz j hj)⟩
theorem old (h : CellsAt w g m F) (k : Old w w') : CellsAt w' g m F := h.kept k h.lt
theorem drewN (h : CellsAt w g m F) (n : Nat) : CellsAt (w.drewN n) g m F := ⟨h.lt, h.cell, h.frz⟩
theorem drew (h : CellsAt w g m F) : CellsAt w.drew g m F := ⟨h.lt, h.cell, h.frz⟩
theorem ext {G : Nat → Int} (h : CellsAt w g m F) (e : ∀ j, j < m → F j = G j) : CellsAt w g m G := ⟨h.lt, fun j hj => by rw [← e j hj]; exact h.cell j hj, h.frz⟩
theorem less (h : CellsAt w g m F) {n : Nat} (hn : n ≤ m) : CellsAt w g n F := ⟨h.lt, fun j hj => h.cell j (by omega), fun j hj => h.frz j (by omega)⟩
theorem set (h : CellsAt w g m F) (j : Nat) (hj : j < m) (v : Int) : CellsAt (w.setCell ⟨g, j, none⟩ (.int .i64 v)) g m (fun k => if k = j then v else F k) := by
  refine ⟨by have := h.lt; simpa [World.setCell] using this, fun k hk => ?_, fun k hk => by rw [World.frozen?_setCell]; exact h.frz k hk⟩
  by_cases e : k = j
  · subst e; rw [World.cell?_setCell_same _ _ _ (h.cell k hk), if_pos rfl]
  · rw [World.cell?_setCell_other _ _ _ _ (fun e' => e (by injection e' with _ e2; exact e2.symm)), if_neg e]; exact h.cell k hk
theorem setOther (h : CellsAt w g m F) {a : Addr} (ha : a.block ≠ g) (v : Value) : CellsAt (w.setCell a v) g m F :=
  h.kept (Y := fun k => k ≠ a.block) (Kept.setCell w (fun e => e rfl) v) (fun e => ha e.symm)
theorem there (h : CellsAt w g m F) (o n : Nat) (hn : o + n ≤ m) : w.there g o n := fun j hj => ⟨by rw [h.cell (o + j) (by omega)]; rfl, h.frz (o + j) (by omega)⟩
theorem setCells (h : CellsAt w g m F) (o n : Nat) (hn : o + n ≤ m) (f : Nat → Int) : CellsAt (w.setCells g o (rowL n f)) g m (patch F o n f) := by
  refine ⟨by rw [setCells_size]; exact h.lt, fun k hk => ?_, fun k hk => by rw [World.frozen?_setCells]; exact h.frz k hk⟩
  unfold patch
  by_cases e : o ≤ k ∧ k < o + n
  · rw [if_pos e]
    have h1 := World.cell?_setCells_in g (rowL n f) o w (fun i hi => by rw [rowL_len] at hi; rw [h.cell (o + i) (by omega)]; rfl) (k - o) (by rw [rowL_len]; omega)
    rw [show o + (k - o) = k by omega] at h1
    rw [h1, ← List.getElem?_eq_getElem, rowL_at n f (k - o) (by omega)]
  · rw [if_neg e, World.cell?_setCells_out g (rowL n f) o w ⟨g, k, none⟩ (fun _ _ => by rw [rowL_len]; show k < o ∨ o + n ≤ k; omega)]
    exact h.cell k hk
theorem setCellsOther (h : CellsAt w g m F) {b : Nat} (hb : b ≠ g) (o : Nat) (vs : List Value) : CellsAt (w.setCells b o vs) g m F :=
  h.kept (Y := fun k => k ≠ b) (Kept.setCells w (fun e => e rfl) o vs) (fun e => hb e.symm)
end CellsAt
theorem cellsAt_new (w : World) (m : Nat) (F : Nat → Int) (t : TypeId) : CellsAt (w.alloc (.cells (rowN m (blk F)) t)) w.heap.size m F :=
  ⟨by simp, fun j hj => cell_new w m t (blk F) j hj, fun j hj => frozen_of_row _ _ _ _ _ (heap_alloc_new _ _)⟩
theorem cellsAt_of {w : World} {g m : Nat} {F : Nat → Int} {t : TypeId} (h : w.heap[g]? = some (.cells (rowN m (blk F)) t (0, 0))) : CellsAt w g m F :=
  ⟨lt_of_block h, fun j hj => (cell_of_row _ _ _ _ _ _ h).trans (rowN_at m (blk F) j hj), fun j hj => frozen_of_row _ _ _ _ _ h⟩

/-- A whole array out of the middle of a block: the operation, and at a list. -/
theorem wp_load_blk {P : Program} {op : Oper} {a : Act} {w : World} {K : Act → World → Prop} {Q : Exit → Act → World → Prop} (n : Nat) (f : Nat → Int) (ty : TypeId) (x : Operand) (ho : op.op = .load ty x)
    (b o : Nat) (hx : a.eval x = .pointer (some ⟨b, o, none⟩)) (d : TypeDesc) (hc : ∀ j, j < n → w.cell? ⟨b, o + j, none⟩ = some (.int .i64 (f j)))
    (hu : P.underlying ty = some d) (hd : d.isRow = true) (hi : (P.info? ty).map (·.size) = some n) (h : K (a.put op.dst (.agg (rowN n (blk f)))) w) : op.wp P a w K Q :=
  wp_load_mid ty x ho b o hx (rowL n f) d (fun j v hv => by obtain ⟨hj, rfl⟩ := rowL_get hv; exact hc j hj) hu hd (by rw [rowL_len]; exact hi) h
theorem wpList_load_blk {P : Program} {ops : Array Oper} {rest : List Oper} {op : Oper} {a : Act} {w : World} {Q : Exit → Act → World → Prop} (hgd : op.guard = none) (n : Nat) (f : Nat → Int) (ty : TypeId) (x : Operand) (ho : op.op = .load ty x)
    (b o : Nat) (hx : a.eval x = .pointer (some ⟨b, o, none⟩)) (d : TypeDesc) (hc : ∀ j, j < n → w.cell? ⟨b, o + j, none⟩ = some (.int .i64 (f j)))
    (hu : P.underlying ty = some d) (hd : d.isRow = true) (hi : (P.info? ty).map (·.size) = some n) (h : wpList P ops Q rest (a.put op.dst (.agg (rowN n (blk f)))) w) : wpList P ops Q (op :: rest) a w :=
  wpList_plain hgd fun _ hK => wp_load_blk n f ty x ho b o hx d hc hu hd hi (hK _ _ h)
theorem yieldsIf_load_blk {P : Program} {ops : Array Oper} {S : World → Prop} {op : Oper} {a : Act} (n : Nat) (f : Nat → Int) (hw : Region.wanted op (yielded ops a.tmps) = true) (ty : TypeId) (x : Operand) (ho : op.op = .load ty x)
    (b o : Nat) (hx : a.eval x = .pointer (some ⟨b, o, none⟩)) (d : TypeDesc) (hS : ∀ w, S w → ∀ j, j < n → w.cell? ⟨b, o + j, none⟩ = some (.int .i64 (f j)))
    (hu : P.underlying ty = some d) (hd : d.isRow = true) (hi : (P.info? ty).map (·.size) = some n) : YieldsIf P ops S op (.agg (rowN n (blk f))) a :=
  yieldsIf_load_mid hw ty x ho b o hx (rowL n f) d (fun w hw' j v hv => by obtain ⟨hj, rfl⟩ := rowL_get hv; exact hS w hw' j hj) hu hd (by rw [rowL_len]; exact hi)
/-- A whole array into the middle of a block. -/
theorem wp_store_blk {P : Program} {op : Oper} {a : Act} {w : World} {K : Act → World → Prop} {Q : Exit → Act → World → Prop} (n : Nat) (f : Nat → Int) (ty : TypeId) (x y : Operand) (ho : op.op = .store ty x y)
    (b o : Nat) (hx : a.eval x = .pointer (some ⟨b, o, none⟩)) (hy : a.eval y = .agg (rowN n (blk f))) (ht : w.there b o n) (hi : (P.info? ty).map (·.size) = some n)
    (h : K (a.put op.dst undef) (w.setCells b o (rowL n f))) : op.wp P a w K Q :=
  wp_store_mid ty x y ho b o (rowN n (blk f)) hx hy (by rw [rowN_size]; exact ht) (by rw [rowN_size]; exact hi) (blk_one _ _) h
theorem wpList_store_blk {P : Program} {ops : Array Oper} {rest : List Oper} {op : Oper} {a : Act} {w : World} {Q : Exit → Act → World → Prop} (hgd : op.guard = none) (n : Nat) (f : Nat → Int) (ty : TypeId) (x y : Operand) (ho : op.op = .store ty x y)
    (b o : Nat) (hx : a.eval x = .pointer (some ⟨b, o, none⟩)) (hy : a.eval y = .agg (rowN n (blk f))) (ht : w.there b o n) (hi : (P.info? ty).map (·.size) = some n)
    (h : wpList P ops Q rest (a.put op.dst undef) (w.setCells b o (rowL n f))) : wpList P ops Q (op :: rest) a w :=
  wpList_plain hgd fun _ hK => wp_store_blk n f ty x y ho b o hx hy ht hi (hK _ _ h)
/-- copy between slices of integers of which the shorter has n. -/
theorem wpList_copy_blk {P : Program} {w : World} {ops : Array Oper} {rest : List Oper} {o : Oper} {a : Act} {Q : Exit → Act → World → Prop} (hgd : o.guard = none) (d s : Operand) (dT sT : TypeId)
    (ho : o.op = .call { callee := .builtin .copy, args := #[d, s], argTypes := #[dT, sT] }) (elem : TypeId) (hu : P.underlying dT = some (.slice elem)) (hsz : (P.info? elem).map (·.size) = some 1)
    (n : Nat) (f : Nat → Int) (g off dLen dCap b so sLen sCap : Nat) (hd : a.eval d = .slice (some ⟨g, off, none⟩) dLen dCap) (hs : a.eval s = .slice (some ⟨b, so, none⟩) sLen sCap) (hn : n = Nat.min sLen dLen)
    (hsrc : ∀ j, j < n → w.cell? ⟨b, so + j, none⟩ = some (.int .i64 (f j))) (ht : w.there g off n)
    (h : wpList P ops Q rest (a.put o.dst (goInt n)) (w.setCells g off (rowL n f))) : wpList P ops Q (o :: rest) a w := by
  refine wpList_plain hgd fun K hK => ?_
  have hrun := run_copy_cells (P := P) w dT sT o.type elem g off dLen dCap ⟨b, so, none⟩ sLen sCap (rowL n f) hu hsz (by rw [rowL_len]; exact hn)
    (fun j v hv => by obtain ⟨hj, rfl⟩ := rowL_get hv; rw [add_plain]; exact hsrc j hj) (fun j hj => (ht j (by rw [rowL_len] at hj; exact hj)).1) (fun j hj => (ht j (by rw [rowL_len] at hj; exact hj)).2) (rowL_one n f)
  rw [rowL_len] at hrun
  unfold Oper.wp
  simp [execOp, ho, resolve, invoke, builtin, hd, hs, hrun, Result.andThen]
  exact hK _ _ h

/-- A slice of n rows of s numbers each, of the call's own, outside X: they lie from a block's head on. -/
def OwnR (s : Nat) (X : Nat → Prop) (w : World) (p : Option Addr) (n : Nat) (F : Nat → Int) : Prop := 0 < n → ∃ g, p = some ⟨g, 0, none⟩ ∧ ¬ X g ∧ CellsAt w g (s * n) F
/-- A slice of n rows of s numbers each, to be read. -/
def SlF (s : Nat) (w : World) (p : Option Addr) (n : Nat) (F : Nat → Int) : Prop := 0 < n → ∃ g o, p = some ⟨g, o, none⟩ ∧ g < w.heap.size ∧ ∀ j, j < s * n → w.cell? ⟨g, o + j, none⟩ = some (.int .i64 (F j))
namespace OwnR
variable {s n : Nat} {X Y : Nat → Prop} {w w' : World} {p : Option Addr} {F : Nat → Int}
theorem old (h : OwnR s X w p n F) (k : Old w w') : OwnR s X w' p n F := fun hn => by obtain ⟨g, h1, h2, h3⟩ := h hn; exact ⟨g, h1, h2, h3.old k⟩
theorem drewN (h : OwnR s X w p n F) (d : Nat) : OwnR s X (w.drewN d) p n F := fun hn => by obtain ⟨g, h1, h2, h3⟩ := h hn; exact ⟨g, h1, h2, h3.drewN d⟩
theorem drew (h : OwnR s X w p n F) : OwnR s X w.drew p n F := fun hn => by obtain ⟨g, h1, h2, h3⟩ := h hn; exact ⟨g, h1, h2, h3.drew⟩
theorem mono (h : OwnR s X w p n F) (hY : ∀ k, Y k → X k) : OwnR s Y w p n F := fun hn => by obtain ⟨g, h1, h2, h3⟩ := h hn; exact ⟨g, h1, fun e => h2 (hY g e), h3⟩
theorem ext {G : Nat → Int} (h : OwnR s X w p n F) (e : ∀ j, j < s * n → F j = G j) : OwnR s X w p n G := fun hn => by obtain ⟨g, h1, h2, h3⟩ := h hn; exact ⟨g, h1, h2, h3.ext e⟩
theorem sl (h : OwnR s X w p n F) : SlF s w p n F := fun hn => by
  obtain ⟨g, h1, h2, h3⟩ := h hn
  exact ⟨g, 0, h1, h3.lt, fun j hj => by rw [Nat.zero_add]; exact h3.cell j hj⟩
end OwnR
namespace SlF
variable {s n : Nat} {w w' : World} {p : Option Addr} {F : Nat → Int}
theorem old (h : SlF s w p n F) (k : Old w w') : SlF s w' p n F := fun hn => by
  obtain ⟨g, o, h1, h2, h3⟩ := h hn
  exact ⟨g, o, h1, Nat.lt_of_lt_of_le h2 k.size, fun j hj => (k.cell (a := ⟨g, o + j, none⟩) h2).trans (h3 j hj)⟩
theorem drewN (h : SlF s w p n F) (d : Nat) : SlF s (w.drewN d) p n F := h
theorem drew (h : SlF s w p n F) : SlF s w.drew p n F := h
theorem ext {G : Nat → Int} (h : SlF s w p n F) (e : ∀ j, j < s * n → F j = G j) : SlF s w p n G := fun hn => by
  obtain ⟨g, o, h1, h2, h3⟩ := h hn
  exact ⟨g, o, h1, h2, fun j hj => by rw [← e j hj]; exact h3 j hj⟩
end SlF
/-- A new row of zeroes. -/
theorem made_rowN (n : Nat) (z : Array Value) (hz : z.size ≠ 0) (h : ∀ j, j < z.size → z[j]? = some (.int .i64 0)) : madeCells z n = rowN n (blk fun _ => 0) := by
  apply Array.ext_getElem?
  intro i
  by_cases hi : i < n
  · rw [blk_at n _ i hi]
    have hm : i % z.size < z.size := Nat.mod_lt _ (by omega)
    have := h _ hm
    rw [Array.getElem?_eq_getElem hm] at this
    simp [madeCells, hi, hm] 
    simpa using this
  · rw [Array.getElem?_eq_none (by rw [size_madeCells]; omega), Array.getElem?_eq_none (by rw [rowN_size]; omega)]
/-- The integers of a slice that reads as a list. -/
theorem SlI.slF {w : World} {p : Option Addr} {n cap : Nat} {xs : List Int} (h : SlI w .i64 (.slice p n cap) xs) : SlF 1 w p n (fun j => xs.getD j 0) := fun hn => by
  obtain ⟨p', cap', he, hc⟩ := h
  simp only [Value.slice.injEq] at he
  obtain ⟨rfl, rfl, rfl⟩ := he
  obtain ⟨b, off, h1, h2, _, _, h3⟩ := hc (fun e => by subst e; simp at hn)
  exact ⟨b, off, h1, h2, fun j hj => h3 j (by omega)⟩
/-- A slice, cut below; an array behind a pointer, whole, above and below. -/
theorem slice_lo {P : Program} {t : TypeId} (ht : P.underlying t = some (.slice (P.elem t))) (hz : ∀ w, (sizeOf (P.elem t)).run P w = .ok 1 w) (b o n cap k : Nat) (hk : k < n) (hn : n ≤ cap) (l : Int) (hl : l = k) (w : World) :
    (Instr.sliceAt t (.slice (some ⟨b, o, none⟩) n cap) (some (.int .i64 l)) none none).run P w = .ok (.slice (some ⟨b, o + k, none⟩) (n - k) (cap - k)) w := by
  subst hl
  rw [run_sliceAt_slice _ _ _ _ _ _ ht, run_slice_l _ _ _ _ _ ht _ _ (by omega) (by omega), hz]
  simp only [Result.andThen_ok, sliced, Int.toNat_natCast, Option.map, Nat.mul_one]
  rw [if_neg (by omega), add_plain]
theorem slice_arr_all {P : Program} {t : TypeId} (n : Nat) (ht : P.underlying t = some (.array (P.arrayLen t) (P.elem t))) (hl : P.arrayLen t = n) (hz : ∀ w, (sizeOf (P.elem t)).run P w = .ok 1 w) (hn : 0 < n) (b o : Nat) (w : World) :
    (Instr.sliceAt t (.pointer (some ⟨b, o, none⟩)) none none none).run P w = .ok (.slice (some ⟨b, o, none⟩) n n) w := by
  rw [run_sliceAt_array_all w t _ ht, hz, hl]
  simp only [Result.andThen_ok, slicedAt]
  rw [if_neg (by omega), add_plain]
  rfl
theorem slice_arr_lo {P : Program} {t : TypeId} (n k : Nat) (ht : P.underlying t = some (.array (P.arrayLen t) (P.elem t))) (hl : P.arrayLen t = n) (hz : ∀ w, (sizeOf (P.elem t)).run P w = .ok 1 w) (hn : k < n) (b o : Nat) (w : World) :
    (Instr.sliceAt t (.pointer (some ⟨b, o, none⟩)) (some (.int .i64 k)) none none).run P w = .ok (.slice (some ⟨b, o + k, none⟩) (n - k) (n - k)) w := by
  rw [run_sliceAt_array_l w t _ ht _ _ (by omega) (by rw [hl]; omega), hz, hl]
  simp only [Result.andThen_ok, slicedAt, Int.toNat_natCast]
  rw [if_neg (by omega), add_plain, Nat.mul_one]
theorem slice_arr_hi {P : Program} {t : TypeId} (n k : Nat) (ht : P.underlying t = some (.array (P.arrayLen t) (P.elem t))) (hl : P.arrayLen t = n) (hz : ∀ w, (sizeOf (P.elem t)).run P w = .ok 1 w) (hn : k ≤ n) (h0 : 0 < n) (b o : Nat) (w : World) :
    (Instr.sliceAt t (.pointer (some ⟨b, o, none⟩)) none (some (.int .i64 k)) none).run P w = .ok (.slice (some ⟨b, o, none⟩) k n) w := by
  rw [run_sliceAt_array_h w t _ ht _ _ (by omega) (by rw [hl]; omega), hz, hl]
  simp only [Result.andThen_ok, slicedAt, Int.toNat_natCast]
  rw [if_neg (by omega), add_plain]
  rfl
/-- A literal whose value is known. -/
theorem wpList_build_run {P : Program} {ops : Array Oper} {rest : List Oper} {o : Oper} {a : Act} {w : World} {Q : Exit → Act → World → Prop} (hgd : o.guard = none) (t : TypeId) (parts : Array (Nat × Operand)) (ho : o.op = .build t parts) (v : Value)
    (hr : (Instr.build t (parts.map fun x => (x.1, a.eval x.2))).run P w = .ok v w) (h : wpList P ops Q rest (a.put o.dst v) w) : wpList P ops Q (o :: rest) a w :=
  wpList_plain hgd fun K hK => by
    unfold Oper.wp execOp
    simp only [ho, Sem.run_bind, hr, Result.andThen_ok]
    exact hK _ _ h
/-- A place's block, and its place there. -/
theorem place16 (k N : Nat) (hk : k < N * 16) (hN : N ≤ 17179869184) : ∃ a b : Nat, k = a * 16 + b ∧ b < 16 ∧ a < N ∧ Hid (a = k / 16 ∧ b = k % 16) ∧
    wrap64 ((k : Int).tdiv 16) = a ∧ wrap64 ((k : Int).tmod 16) = b ∧ Value.int .i64 ((k : Int) / 16) = .int .i64 a ∧ Value.int .i64 ((k : Int) % 16) = .int .i64 b := by
  have e0 : k = k / 16 * 16 + k % 16 := by omega
  have eb : k % 16 < 16 := by omega
  have ea : k / 16 < N := by omega
  have e1 : (k : Int) / 16 = ((k / 16 : Nat) : Int) := by omega
  have e2 : (k : Int) % 16 = ((k % 16 : Nat) : Int) := by omega
  have e3 : wrap64 ((k / 16 : Nat) : Int) = ((k / 16 : Nat) : Int) := IntWalk.wrap64_in _ (by omega)
  have e4 : wrap64 ((k % 16 : Nat) : Int) = ((k % 16 : Nat) : Int) := IntWalk.wrap64_in _ (by omega)
  have t1 : (k : Int).tdiv 16 = ((k / 16 : Nat) : Int) := (tdiv_pos _ _ (by omega)).trans e1
  have t2 : (k : Int).tmod 16 = ((k % 16 : Nat) : Int) := (tmod_pos _ _ (by omega)).trans e2
  exact ⟨k / 16, k % 16, e0, eb, ea, ⟨rfl, rfl⟩, by rw [t1]; exact e3, by rw [t2]; exact e4, by rw [e1], by rw [e2]⟩
end Go.Proofs.Ytgdlinfgcfjciaa
