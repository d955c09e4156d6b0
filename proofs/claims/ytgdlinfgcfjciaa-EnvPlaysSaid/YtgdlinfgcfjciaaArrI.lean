/- Arrays of integers by value: compared, opened as a law's argument, loaded whole in a drawn region. No program. -/
import Derived.Test.YtgdlinfgcfjciaaArr
import Derived.ChangeKeysEq
import Derived.OrdersHeld
namespace Go.Proofs.Ytgdlinfgcfjciaa
set_option linter.unusedVariables false
set_option maxRecDepth 100000
open Go.RowKit Go.ChangeShapes Go.WideShapes

/-- An array's integers. -/
def blk (f : Nat → Int) : Nat → Value := fun k => .int .i64 (f k)
theorem blk_upd (f : Nat → Int) (j : Nat) (v : Int) : updN (blk f) j (.int .i64 v) = blk (fun k => if k = j then v else f k) := by
  funext k
  show (if k = j then Value.int .i64 v else .int .i64 (f k)) = .int .i64 (if k = j then v else f k)
  split <;> rfl
theorem blk_one (f : Nat → Int) (n : Nat) : (rowN n (blk f)).all (·.oneCell') = true := rowN_one _ _ fun _ _ => rfl
theorem blk_at (n : Nat) (f : Nat → Int) (k : Nat) (h : k < n) : (rowN n (blk f))[k]? = some (.int .i64 (f k)) := rowN_at n (blk f) k h

theorem eqItems_ints {P : Program} (d : Nat) (e : TypeId) (q : IntKind) (hu : P.underlying e = some (.int q)) (n : Nat) (f g : Nat → Int) (w : World) : ∀ is : List Nat, (∀ i ∈ is, i < n) →
    (Op.eqItems (d + 1) e 1 (rowN n (blk f)) (rowN n (blk g)) is).run P w = .ok (decide (∀ i ∈ is, f i = g i)) w
  | [], _ => by simp [Op.eqItems]
  | i :: is, h => by
    have hi := h i (by simp)
    have ih := eqItems_ints d e q hu n f g w is (fun j hj => h j (by simp [hj]))
    have h1 : ∀ f : Nat → Int, (part e (rowN n (blk f)) (i * 1)).run P w = .ok (.int .i64 (f i)) w := fun f => by
      simp [part, isAgg, run_underlying hu, blk_at n f i hi]
    simp only [Op.eqItems, Sem.run_bind, h1, Result.andThen_ok, run_equalIn_int w d e .i64 q _ _ hu]
    by_cases hfg : f i = g i
    · simp only [hfg, BEq.rfl]
      simp [hfg, ih]
    · have : (f i == g i) = false := by simpa using hfg
      simp only [this]
      simp [hfg]
/-- Whether two arrays' numbers are the same. -/
def eqB (n : Nat) (f g : Nat → Int) : Bool := decide (∀ k, k < n → f k = g k)
theorem eqB_true {n : Nat} {f g : Nat → Int} : eqB n f g = true ↔ ∀ k, k < n → f k = g k := by simp [eqB]
theorem eqB_false {n : Nat} {f g : Nat → Int} : eqB n f g = false ↔ ¬ ∀ k, k < n → f k = g k := by rw [← eqB_true]; cases eqB n f g <;> simp
/-- Two arrays are the same where each number is. -/
theorem eql_ints {P : Program} {t e : TypeId} {n : Nat} {q : IntKind} (ht : P.underlying t = some (.array n e)) (he : P.underlying e = some (.int q)) (hc : P.cellsOf e = 1) (hi : (P.info? e).isSome = true) (f g : Nat → Int) (w : World) :
    (binOp .eql t (.agg (rowN n (blk f))) (.agg (rowN n (blk g)))).run P w = .ok (.bool (eqB n f g)) w := by
  obtain ⟨i, hi⟩ := Option.isSome_iff_exists.1 hi
  have h := eqItems_ints (P := P) 9998 e q he n f g w (List.range n) (fun i hi => List.mem_range.1 hi)
  rw [run_eql_struct, run_equalIn_array w 9999 _ _ ht hi, hc, h]
  simp [eqB]
theorem neq_ints {P : Program} {t e : TypeId} {n : Nat} {q : IntKind} (ht : P.underlying t = some (.array n e)) (he : P.underlying e = some (.int q)) (hc : P.cellsOf e = 1) (hi : (P.info? e).isSome = true) (f g : Nat → Int) (w : World) :
    (binOp .neq t (.agg (rowN n (blk f))) (.agg (rowN n (blk g)))).run P w = .ok (.bool !(eqB n f g)) w := by
  obtain ⟨i, hi⟩ := Option.isSome_iff_exists.1 hi
  have h := eqItems_ints (P := P) 9998 e q he n f g w (List.range n) (fun i hi => List.mem_range.1 hi)
  rw [run_neq_struct, run_equalIn_array w 9999 _ _ ht hi, hc, h]
  simp [eqB]

/-- An array by value, indexed. -/
theorem run_index_ints {P : Program} {t e : TypeId} {n : Nat} {q : IntKind} (ht : P.underlying t = some (.array n e)) (he : P.underlying e = some (.int q)) (hz : ∀ w, (sizeOf e).run P w = .ok 1 w) (f : Nat → Int) (k : Nat) (hk : k < n) (w : World) :
    (Instr.index t (.agg (rowN n (blk f))) (.int .i64 k)).run P w = .ok (.int .i64 (f k)) w := by
  simp [Instr.index, run_underlying ht, asIntOf, part, hz, hk, isAgg, run_underlying he, blk_at n f k hk, go_sem]

/-- A whole array is loaded in a drawn region whose condition says what its block holds. -/
theorem yieldsIf_load_row {P : Program} {ops : Array Oper} {S : World → Prop} {op : Oper} {a : Act} (hw : Region.wanted op (yielded ops a.tmps) = true) (ty : TypeId) (x : Operand) (ho : op.op = .load ty x)
    (b : Nat) (hx : a.eval x = .pointer (some ⟨b, 0, none⟩)) (t : TypeId) (cs : Array Value) (fr : Nat × Nat) (d : TypeDesc) (hS : ∀ w, S w → w.heap[b]? = some (.cells cs t fr))
    (hu : P.underlying ty = some d) (hd : (match d with | .struct _ | .array _ _ => true | _ => false) = true) (hi : (P.info? ty).map (·.size) = some cs.size) : YieldsIf P ops S op (.agg cs) a :=
  .inl ⟨hw, fun w hw' => by
    unfold execOp
    simp only [ho, hx, Instr.loadAt, Instr.sureAddr, Sem.run_bind, Sem.run_pure, Result.andThen_ok, run_loadVar_row w b t ty cs fr d (hS w hw') hu hd hi]⟩

/-- A whole array is loaded under a guard that holds. -/
theorem wpList_load_row_w {P : Program} {ops : Array Oper} {rest : List Oper} {o : Oper} {a : Act} {w : World} {Q : Exit → Act → World → Prop} (hw : Region.wanted o (yielded ops a.tmps) = true) (ty : TypeId) (x : Operand) (ho : o.op = .load ty x)
    (g : Nat) (hx : a.eval x = .pointer (some ⟨g, 0, none⟩)) (t : TypeId) (cs : Array Value) (fr : Nat × Nat) (d : TypeDesc) (hg : w.heap[g]? = some (.cells cs t fr))
    (hu : P.underlying ty = some d) (hd : (match d with | .struct _ | .array _ _ => true | _ => false) = true) (hi : (P.info? ty).map (·.size) = some cs.size)
    (h : wpList P ops Q rest (a.put o.dst (.agg cs)) w) : wpList P ops Q (o :: rest) a w :=
  wpList_step fun K hK => by
    rw [if_pos hw]
    exact wp_load_row ty x ho g hx t cs fr d hg hu hd hi (hK _ _ h)

theorem row16_zero : rowN 16 (blk fun _ => 0) = #[.int .i64 0, .int .i64 0, .int .i64 0, .int .i64 0, .int .i64 0, .int .i64 0, .int .i64 0, .int .i64 0, .int .i64 0, .int .i64 0, .int .i64 0, .int .i64 0, .int .i64 0, .int .i64 0, .int .i64 0, .int .i64 0] := rfl
/-- All numbers are of 64 bits. -/
def Fits64 (f : Nat → Int) : Prop := ∀ k, -9223372036854775808 ≤ f k ∧ f k ≤ 9223372036854775807
theorem okWide_array {P : Program} {w : World} {r : Reach} {base : Nat} {t e : TypeId} {n : Nat} {v : Value} (ht : P.underlying t = some (.array n e)) (h : Value.okWide P w r base t v) : ∃ cs, v = .agg cs ∧ cs.size = P.cellsOf t := by
  simp only [Value.okWide, ht] at h
  obtain ⟨cs, h1, h2, _⟩ := h
  exact ⟨cs, h1, h2⟩
/-- An argument that is an array of integers. -/
theorem open_ints64 {H : Type} {enc : TypeId × Value → H} {P : Program} {W : World} {base : Nat} {t e : TypeId} {n : Nat} {v : Value} {d : DataW H} {p : List MemPlace} (ht : P.underlying t = some (.array n e)) (he : P.underlying e = some (.int .i64)) (hc : P.cellsOf e = 1) (hn : P.cellsOf t = n)
    (hv : Value.okWide P W .any base t v) (h : DataW.Trod enc P W 0 (fun _ => true) true t v d p) : ∃ f : Nat → Int, v = .agg (rowN n (blk f)) ∧ Fits64 f ∧ ∀ k, n ≤ k → f k = 0 := by
  obtain ⟨cs, rfl, hsz⟩ := okWide_array ht hv
  rw [hn] at hsz
  obtain ⟨fuel, hf⟩ := h
  obtain ⟨xs, m, _, _, hl, hxs, hi⟩ := DataW.trod_array ht hf
  have cell : ∀ i, i < n → ∃ x, cs[i]? = some (.int .i64 x) ∧ -9223372036854775808 ≤ x ∧ x ≤ 9223372036854775807 := by
    intro i hin
    have h1 := hi i hin
    rw [hc, List.getElem?_eq_getElem (by omega)] at h1
    obtain ⟨x, hx, _, hw⟩ := DataW.trod_int he h1
    refine ⟨x, ?_, i64_of hw⟩
    have hsz' : i < cs.size := by omega
    simp only [Value.cells, Nat.mul_one] at hx
    rw [List.drop_eq_getElem_cons (by simpa using hsz')] at hx
    simp at hx
    rw [Array.getElem?_eq_getElem hsz', hx]
  refine ⟨fun k => match cs[k]? with | some (.int _ x) => x | _ => 0, ?_, fun k => ?_, fun k hk => ?_⟩
  · congr 1
    apply Array.ext_getElem?
    intro i
    by_cases h : i < n
    · obtain ⟨x, hx, _⟩ := cell i h
      rw [blk_at _ _ _ h, hx]
    · rw [Array.getElem?_eq_none (by omega), Array.getElem?_eq_none (by rw [rowN_size]; omega)]
  · by_cases h : k < n
    · obtain ⟨x, hx, hb⟩ := cell k h
      dsimp only
      rw [hx]
      exact hb
    · dsimp only
      rw [Array.getElem?_eq_none (by omega)]
      dsimp only
      omega
  · dsimp only
    rw [Array.getElem?_eq_none (by omega)]
end Go.Proofs.Ytgdlinfgcfjciaa
