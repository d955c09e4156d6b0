/- Frames compared: contracts of slices.Equal at []api.Tone, frame.Same. -/
import Derived.Test.YtlaoamlmpdbmmaaTwoL
import Derived.Test.YtlaoamlmpdbmmaaFrameA
namespace Go.Proofs.Ytlaoamlmpdbmmaa
set_option linter.unusedVariables false
set_option maxRecDepth 100000
open Go.RowKit Go.ChangeShapes Go.WideShapes

theorem wpList_load_blk_w {P : Program} {ops : Array Oper} {rest : List Oper} {o : Oper} {a : Act} {w : World} {Q : Exit → Act → World → Prop} (hw : Region.wanted o (yielded ops a.tmps) = true) (n : Nat) (f : Nat → Int) (ty : TypeId) (x : Operand) (ho : o.op = .load ty x)
    (b i : Nat) (hx : a.eval x = .pointer (some ⟨b, i, none⟩)) (d : TypeDesc) (hc : ∀ j, j < n → w.cell? ⟨b, i + j, none⟩ = some (.int .i64 (f j)))
    (hu : P.underlying ty = some d) (hd : d.isRow = true) (hi : (P.info? ty).map (·.size) = some n) (h : wpList P ops Q rest (a.put o.dst (.agg (rowN n (blk f)))) w) : wpList P ops Q (o :: rest) a w :=
  wpList_step fun K hK => by
    rw [if_pos hw]
    exact wp_load_blk n f ty x ho b i hx d hc hu hd hi (hK _ _ h)

/-- Are n tones and m others the same? -/
def tonesB (n m : Nat) (T U : Nat → Int) : Bool := decide (n = m ∧ ∀ j, j < 2 * n → T j = U j)

theorem same_split (F G : Nat → Int) (n m : Nat) (T U : Nat → Int) : decide (sameP F n T G m U) = (eqB 4 F G && (tonesB n m T U && (eqB 4 (fun j => F (5 + j)) (fun j => G (5 + j)) && (eqB 4 (fun j => F (9 + j)) (fun j => G (9 + j)) && eqB 16 (fun j => F (13 + j)) (fun j => G (13 + j)))))) := by
  rw [Bool.eq_iff_iff, decide_eq_true_iff]
  simp only [Bool.and_eq_true, eqB_true, decide_eq_true_eq, tonesB]
  unfold sameP
  constructor
  · rintro ⟨h1, h2, h3⟩
    exact ⟨fun k hk => h3 k (by omega) (by omega), ⟨h1, h2⟩, fun k hk => h3 _ (by omega) (by omega), fun k hk => h3 _ (by omega) (by omega), fun k hk => h3 _ (by omega) (by omega)⟩
  · rintro ⟨h0, ⟨h1, h2⟩, h3, h4, h5⟩
    refine ⟨h1, h2, fun k hk hk4 => ?_⟩
    by_cases k4 : k < 4
    · exact h0 k k4
    by_cases k9 : k < 9
    · have := h3 (k - 5) (by omega)
      rwa [show 5 + (k - 5) = k by omega] at this
    by_cases k13 : k < 13
    · have := h4 (k - 9) (by omega)
      rwa [show 9 + (k - 9) = k by omega] at this
    · have := h5 (k - 13) (by omega)
      rwa [show 13 + (k - 13) = k by omega] at this
theorem eq_four {P : Program} (F G : Nat → Int) (w : World) : (binOp .eql 26 (.agg (rowN 4 (blk F))) (.agg (rowN 4 (blk G)))).run Try.prog w = .ok (.bool (eqB 4 F G)) w :=
  eql_ints Try.underlying26 Try.underlying3 (by kernel_rfl) (by kernel_rfl) F G w
theorem eq_sixteen {P : Program} (F G : Nat → Int) (w : World) : (binOp .eql 25 (.agg (rowN 16 (blk F))) (.agg (rowN 16 (blk G)))).run Try.prog w = .ok (.bool (eqB 16 F G)) w :=
  eql_ints Try.underlying25 Try.underlying2 (by kernel_rfl) (by kernel_rfl) F G w
/-- Two boxes of frames. -/
theorem two_frames (t : TypeId) (w : World) (F G : Nat → Int) (s s' : Value) : FrB t ((w.alloc (.cells (rowN 29 (frC F s)) t)).alloc (.cells (rowN 29 (frC G s')) t)) w.heap.size F s ∧ FrB t ((w.alloc (.cells (rowN 29 (frC F s)) t)).alloc (.cells (rowN 29 (frC G s')) t)) (w.heap.size + 1) G s' ∧ Old w ((w.alloc (.cells (rowN 29 (frC F s)) t)).alloc (.cells (rowN 29 (frC G s')) t)) :=
  ⟨heap_alloc2_old w _ _, heap_alloc2_new w _ _, (Old.alloc w _).alloc' _⟩

end Go.Proofs.Ytlaoamlmpdbmmaa
