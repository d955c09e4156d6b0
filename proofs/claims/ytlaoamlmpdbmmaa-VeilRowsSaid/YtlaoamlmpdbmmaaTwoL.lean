/- Rows of pairs (tones) that grow by one: what append wants of them. -/
import Derived.Test.YtlaoamlmpdbmmaaChecked
import Derived.Test.YtlaoamlmpdbmmaaRowsB
import Derived.ChangeKeysEq
namespace Go.Proofs.Ytlaoamlmpdbmmaa
set_option linter.unusedVariables false
set_option maxRecDepth 100000
open Go.RowKit Go.ChangeShapes Go.WideShapes

theorem news_two (w : World) (x y : Value) (t : TypeId) : ∀ (j : Nat) (u : Value), [x, y][j]? = some u → (w.alloc (.cells #[x, y] t)).cell? ((⟨w.heap.size, 0, none⟩ : Addr).add j) = some u := by
  intro j u h
  match j, h with
  | 0, h =>
    simp only [List.getElem?_cons_zero, Option.some.injEq] at h
    subst h
    show (w.alloc (.cells #[x, y] t)).cell? ⟨w.heap.size, 0, none⟩ = _
    rw [World.cell?_alloc_at _ _ _ _ rfl]; rfl
  | 1, h =>
    simp only [List.getElem?_cons_succ, List.getElem?_cons_zero, Option.some.injEq] at h
    subst h
    show (w.alloc (.cells #[x, y] t)).cell? ⟨w.heap.size, 1, none⟩ = _
    rw [World.cell?_alloc_at _ _ _ _ rfl]; rfl
  | j + 2, h => simp at h
theorem two_oneCell (a b : Int) : ∀ u ∈ [Value.int .i64 a, Value.int .i64 b], u.oneCell' = true := by
  intro u hu
  simp only [List.mem_cons, List.mem_nil_iff, or_false] at hu
  rcases hu with rfl | rfl <;> rfl

theorem rowL_succ2 (T : Nat → Int) (k : Nat) : rowL (2 * (k + 1)) T = rowL (2 * k) T ++ [.int .i64 (T (2 * k)), .int .i64 (T (2 * k + 1))] := by
  unfold rowL
  rw [show 2 * (k + 1) = 2 * k + 1 + 1 by omega, List.range_succ, List.range_succ]
  simp [blk]

theorem two_cells {w : World} {p : Option Addr} {n : Nat} {T : Nat → Int} (h : SlF 2 w p n T) (hn : 0 < n) : ∃ g o, p = some ⟨g, o, none⟩ ∧ g < w.heap.size ∧ ∀ k, k < n → w.cell? ⟨g, o + k * 2, none⟩ = some (.int .i64 (T (2 * k))) ∧ w.cell? ⟨g, o + k * 2 + 1, none⟩ = some (.int .i64 (T (2 * k + 1))) := by
  obtain ⟨g, o, hp, hg, hc⟩ := h hn
  refine ⟨g, o, hp, hg, fun k hk => ⟨?_, ?_⟩⟩
  · have := hc (2 * k) (by omega)
    rwa [show o + 2 * k = o + k * 2 by omega] at this
  · have := hc (2 * k + 1) (by omega)
    rwa [show o + (2 * k + 1) = o + k * 2 + 1 by omega] at this

/-- A row of pairs of the call's own, to be read. -/
theorem own2_slice {X : Nat → Prop} {w : World} {e : TypeId} {n : Nat} {v : Value} {T : Nat → Int} (h : ownS X w e 2 v n (rowL (2 * n) T)) : ∃ p cap, v = .slice p n cap ∧ n ≤ cap ∧ cap ≤ maxLen ∧ SlF 2 w p n T := by
  rcases h.shape with ⟨hv, h0⟩ | ⟨g, cap, hv, _, hg, hk, hc, hcell⟩
  · exact ⟨none, 0, by rw [hv, h0], by omega, Nat.zero_le _, fun h => by omega⟩
  · refine ⟨some ⟨g, 0, none⟩, cap, hv, hk, hc, fun _ => ⟨g, 0, rfl, hg, fun j hj => ?_⟩⟩
    rw [Nat.zero_add]
    exact hcell j _ (rowL_at _ _ _ hj)
theorem Try.info_tone : (Try.prog.info? 60).map (fun i => (i.zero, i.size, i.bytes)) = some (some (.agg #[.int .i64 0, .int .i64 0]), 2, 16) := by kernel_rfl
theorem tone_fields : (Try.prog.fieldsOf 60).toList = [{ name := "Index", type := 3, offset := 0, embedded := false, tag := "", pkgPath := "", byteOffset := 0 }, { name := "Value", type := 2, offset := 1, embedded := false, tag := "", pkgPath := "", byteOffset := 8 }] := by kernel_rfl
theorem int_size' : (Try.prog.info? 3).map (·.size) = some 1 := by kernel_rfl
theorem int64_size' : (Try.prog.info? 2).map (·.size) = some 1 := by kernel_rfl
theorem neq_tone (w : World) (a b c d : Int) : (binOp .neq 60 (.agg #[.int .i64 a, .int .i64 b]) (.agg #[.int .i64 c, .int .i64 d])).run Try.prog w = .ok (.bool !(decide (a = c ∧ b = d))) w := by
  rw [run_neq_struct, run_equalIn_agg w 9999 60 _ _ (by kernel_rfl) (by kernel_rfl), tone_fields]
  have h := fun (w : World) (a b : Int) => run_equalIn_int (P := Try.prog) w 9998 2 .i64 .i64 a b Try.underlying2
  have h2 := fun (w : World) (a b : Int) => run_equalIn_int (P := Try.prog) w 9998 3 .i64 .i64 a b Try.underlying3
  by_cases e1 : a = c <;> by_cases e2 : b = d <;> simp [Op.eqFields, Go.part, isAgg, run_underlying Try.underlying2, run_underlying Try.underlying3, h, h2, sizeOf, e1, e2]

theorem eql_tone (w : World) (a b c d : Int) : (binOp .eql 60 (.agg #[.int .i64 a, .int .i64 b]) (.agg #[.int .i64 c, .int .i64 d])).run Try.prog w = .ok (.bool (decide (a = c ∧ b = d))) w := by
  rw [run_eql_struct, run_equalIn_agg w 9999 60 _ _ (by kernel_rfl) (by kernel_rfl), tone_fields]
  have h := fun (w : World) (a b : Int) => run_equalIn_int (P := Try.prog) w 9998 2 .i64 .i64 a b Try.underlying2
  have h2 := fun (w : World) (a b : Int) => run_equalIn_int (P := Try.prog) w 9998 3 .i64 .i64 a b Try.underlying3
  by_cases e1 : a = c <;> by_cases e2 : b = d <;> simp [Op.eqFields, Go.part, isAgg, run_underlying Try.underlying2, run_underlying Try.underlying3, h, h2, sizeOf, e1, e2]

end Go.Proofs.Ytlaoamlmpdbmmaa
