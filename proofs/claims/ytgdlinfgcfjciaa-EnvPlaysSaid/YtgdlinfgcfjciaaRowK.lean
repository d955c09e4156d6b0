/- Whole rows: stores into a new block, literals in a drawn region, results out of a cell. No program. -/
import Derived.Test.YtgdlinfgcfjciaaSmall
import Derived.Deep.RegionHeld
namespace Go.Proofs.Ytgdlinfgcfjciaa
set_option linter.unusedVariables false
set_option maxRecDepth 100000
open Go.RowKit Go.ChangeShapes Go.WideShapes

/-- A new block is overwritten whole. -/
theorem row_ret {t : TypeId} {w W : World} {b : Nat} {z : Array Value} (h : W.heap[b]? = some (.cells z t (0, 0))) (ho : Old w W) (hb : w.heap.size ≤ b) (cs : Array Value) : (W.setRow b cs).heap[b]? = some (.cells cs t (0, 0)) ∧ Old w (W.setRow b cs) :=
  ⟨setRow_heap _ _ _ _ _ _ h, ho.after (X := fun k => k < w.heap.size) ⟨rfl, rfl, by simp, fun k hk => setRow_other _ _ _ _ (by omega)⟩ fun _ h => h⟩
/-- A literal whose value is known, in a drawn region. -/
theorem yieldsIf_build {P : Program} {ops : Array Oper} {S : World → Prop} {op : Oper} {a : Act} (hw : Region.wanted op (yielded ops a.tmps) = true) (t : TypeId) (parts : Array (Nat × Operand)) (ho : op.op = .build t parts) (ps : List (Nat × Value)) (cells : Array Value)
    (hp : (parts.map fun x => (x.1, a.eval x.2)).toList = ps) (hr : P.built t ps = some cells) : YieldsIf P ops S op (.agg cells) a :=
  .inl ⟨hw, fun w _ => by
    unfold execOp
    simp only [ho, Sem.run_bind, run_build w t _ cells (by rw [hp]; exact hr), Result.andThen_ok, Sem.run_pure]⟩
/-- .. and under a guard that holds. -/
theorem wpList_build_w {P : Program} {ops : Array Oper} {rest : List Oper} {o : Oper} {a : Act} {w : World} {Q : Exit → Act → World → Prop} (hw : Region.wanted o (yielded ops a.tmps) = true) (t : TypeId) (parts : Array (Nat × Operand)) (ho : o.op = .build t parts) (ps : List (Nat × Value)) (cells : Array Value)
    (hp : (parts.map fun x => (x.1, a.eval x.2)).toList = ps) (hr : P.built t ps = some cells) (h : wpList P ops Q rest (a.put o.dst (.agg cells)) w) : wpList P ops Q (o :: rest) a w :=
  wpList_step fun K hK => by
    rw [if_pos hw]
    unfold Oper.wp execOp
    simp only [ho, Sem.run_bind, run_build w t _ cells (by rw [hp]; exact hr), Result.andThen_ok]
    exact hK _ _ h
theorem results_row_tmp {P : Program} {fn : Func} {p u : Tmp} {ty : TypeId} (h : fn.results = #[.cell p ty, .tmp u]) (tmps : Array Value) (w : World) (g : Nat) (t : TypeId) (cs : Array Value) (fr : Nat × Nat) (d : TypeDesc)
    (hp : tmps.getD p undef = .pointer (some ⟨g, 0, none⟩)) (hg : w.heap[g]? = some (.cells cs t fr))
    (hu : P.underlying ty = some d) (hd : (match d with | .struct _ | .array _ _ => true | _ => false) = true) (hi : (P.info? ty).map (·.size) = some cs.size) :
    (results fn tmps).run P w = .ok (.tuple #[.agg cs, tmps.getD u undef]) w := by
  rw [results_cell_tmp h, hp]
  simp [asAddr, run_loadVar_row w g t ty cs fr d hg hu hd hi]
end Go.Proofs.Ytgdlinfgcfjciaa
