/- Bytes as strings: converted, and compared; in drawn regions, too. -/
import Derived.Test.YtooamkicmmgniaaBase
import Derived.Test.YtooamkicmmgniaaArrI
import Derived.Lib.Bytes
import Derived.Laws.BytesArg
namespace Go.Proofs.Ytooamkicmmgniaa
set_option linter.unusedVariables false
set_option maxRecDepth 100000
open Go.RowKit Go.ChangeShapes Go.WideShapes

theorem bytes_zero {P : Program} (w : World) (src e : TypeId) (hs : P.underlying src = some (.slice e)) (he : P.underlying e = some (.int .u8)) (p : Option Addr) (c : Nat) :
    ∀ dst, P.underlying dst = some .string → (convert src dst (.slice p 0 c)).run P w = .ok (.string ByteArray.empty) w := by
  intro dst hd
  rw [run_convert_bytes_string w src dst e _ 0 c hs he hd]
  cases p <;> simp [Conv.bytesToString, loadCells]
  all_goals rfl
theorem conv_slI {w : World} {v : Value} {xs : List Int} (h : SlI w .u8 v xs) : (convert 22 9 v).run Try.prog w = .ok (.string (strOfNums xs)) w := by
  obtain ⟨p, cap, rfl, h⟩ := h
  by_cases hne : xs = []
  · subst hne
    exact bytes_zero w 22 5 Try.underlying22 Try.underlying5 p cap 9 Try.underlying9
  · obtain ⟨b, off, rfl, _, _, _, hc⟩ := h hne
    exact run_convert_bytes_arg w 22 5 Try.underlying22 Try.underlying5 b off xs.length cap xs rfl hc 9 Try.underlying9
/-- A conversion in a drawn region whose condition says what it gives. -/
theorem yieldsIf_conv {P : Program} {ops : Array Oper} {S : World → Prop} {op : Oper} {a : Act} (hw : Region.wanted op (yielded ops a.tmps) = true) (src dst : TypeId) (x : Operand) (ho : op.op = .convert src dst x) (v : Value)
    (hS : ∀ w, S w → (convert src dst (a.eval x)).run P w = .ok v w) : YieldsIf P ops S op v a :=
  .inl ⟨hw, fun w hw' => by
    unfold execOp
    simp only [ho, Sem.run_bind, hS w hw', Result.andThen_ok, Sem.run_pure]⟩
/-- A new row of bytes reads as a list. -/
theorem row_SlI {w : World} {g N : Nat} {xs : List Int} {t : TypeId} (h : w.heap[g]? = some (.cells (xs.map (Value.int .u8)).toArray t (0, 0))) (hn : xs.length = N) (hm : N ≤ maxLen) : SlI w .u8 (.slice (some ⟨g, 0, none⟩) N N) xs := by
  subst hn
  refine ⟨some ⟨g, 0, none⟩, xs.length, rfl, fun _ => ⟨g, 0, rfl, lt_of_block h, Nat.le_refl _, hm, fun i hi => ?_⟩⟩
  rw [cell_of_row _ _ _ _ _ _ h, Nat.zero_add]
  simp [List.getD, hi]
/-- Strings of bytes are one where the bytes are. -/
theorem str_inj {xs ys : List Int} (hx : ∀ x ∈ xs, 0 ≤ x ∧ x ≤ 255) (hy : ∀ x ∈ ys, 0 ≤ x ∧ x ≤ 255) (h : (strOfNums xs).toList = (strOfNums ys).toList) : xs = ys := by
  rw [Lib.strOfNums_toList, Lib.strOfNums_toList] at h
  have e : xs.map (fun n => UInt8.ofNat n.toNat) = ys.map (fun n => UInt8.ofNat n.toNat) := h
  clear h
  induction xs generalizing ys with
  | nil =>
    cases ys with
    | nil => rfl
    | cons y ys => simp at e
  | cons x xs ih =>
    cases ys with
    | nil => simp at e
    | cons y ys =>
      simp only [List.map_cons, List.cons.injEq] at e
      obtain ⟨e1, e2⟩ := e
      have a1 := hx x (by simp)
      have a2 := hy y (by simp)
      have e3 := congrArg UInt8.toNat e1
      simp only [UInt8.toNat_ofNat'] at e3
      rw [ih (fun z hz => hx z (List.mem_cons_of_mem _ hz)) (fun z hz => hy z (List.mem_cons_of_mem _ hz)) e2]
      congr 1
      omega
theorem neq_str (w : World) (a b : ByteArray) (h : a.toList ≠ b.toList) : (binOp .neq 9 (.string a) (.string b)).run Try.prog w = .ok (.bool true) w := by
  simp [binOp, Op.stringOp, h]
/-- Two strings that are not one, compared in a drawn region. -/
theorem yieldsIf_neq_str {P : Program} {ops : Array Oper} {S : World → Prop} {op : Oper} {a : Act} (hw : Region.wanted op (yielded ops a.tmps) = true) (t u : TypeId) (x y : Operand) (ho : op.op = .binOp .neq t x y u) (s r : ByteArray) (hx : a.eval x = .string s) (hy : a.eval y = .string r) (h : s.toList ≠ r.toList) : YieldsIf P ops S op (.bool true) a :=
  .inl ⟨hw, fun w hw' => by
    have hb : (s.toList == r.toList) = false := by simpa using h
    unfold execOp
    simp [ho, hx, hy, binOp, Op.stringOp, eqGuard, hb]⟩
end Go.Proofs.Ytooamkicmmgniaa
