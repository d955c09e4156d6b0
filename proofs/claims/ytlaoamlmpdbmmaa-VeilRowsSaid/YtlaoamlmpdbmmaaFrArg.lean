/- A law's argument that is a frame. -/
import Derived.Test.YtlaoamlmpdbmmaaFrameA
import Derived.Deep.SlicePairs
import Derived.ChangeArms
namespace Go.Proofs.Ytlaoamlmpdbmmaa
set_option linter.unusedVariables false
set_option maxRecDepth 100000
open Go.RowKit Go.ChangeShapes Go.WideShapes

/-- Integers of an array within a row of cells. -/
theorem ints_of_trod {H : Type} {enc : TypeId × Value → H} {P : Program} {W : World} {fuel : Nat} {t e : TypeId} {n o : Nat} {cs : List Value} {x : DataW H × List MemPlace} (ht : P.underlying t = some (.array n e)) (he : P.underlying e = some (.int .i64)) (hc : P.cellsOf e = 1) (hn : P.cellsOf t = n)
    (h : DataW.trod enc P W 0 (fun _ => true) true fuel t ((cs.drop o).take (P.cellsOf t)) = some x) : ∀ i, i < n → ∃ x, cs[o + i]? = some (.int .i64 x) ∧ -9223372036854775808 ≤ x ∧ x ≤ 9223372036854775807 := by
  obtain ⟨xs, m, _, _, hl, hxs, hi⟩ := DataW.trod_array ht h
  intro i hin
  have h1 := hi i hin
  rw [hc, List.getElem?_eq_getElem (by omega)] at h1
  obtain ⟨x, hx, _, hw⟩ := DataW.trod_int he h1
  refine ⟨x, ?_, i64_of hw⟩
  rw [hn, Nat.mul_one] at hx
  have h2 : ((List.drop i (List.take n (List.drop o cs))).take 1)[0]? = some (.int .i64 x) := by rw [hx]; rfl
  rw [List.getElem?_take, if_pos (by omega), List.getElem?_drop, List.getElem?_take, if_pos (by omega), List.getElem?_drop] at h2
  rw [← h2]
  congr 1

/-- A slice of pairs of integers. -/
theorem pairs_of_trod {H : Type} {enc : TypeId × Value → H} {P : Program} {W : World} {fuel : Nat} {t e : TypeId} {f0 f1 : Field} {u : Value} {x : DataW H × List MemPlace} (ht : P.underlying t = some (.slice e)) (he : P.underlying e = some (.struct #[f0, f1]))
    (ce : P.cellsOf e = 2) (o0 : f0.offset = 0) (o1 : f1.offset = 1) (c0 : P.cellsOf f0.type = 1) (c1 : P.cellsOf f1.type = 1) (i0 : P.underlying f0.type = some (.int .i64)) (i1 : P.underlying f1.type = some (.int .i64))
    (h : DataW.trod enc P W 0 (fun _ => true) true fuel t [u] = some x) (hlt : ∀ q ∈ x.2, q.block < W.heap.size) :
    ∃ p n cap T, u = .slice p n cap ∧ n ≤ cap ∧ cap ≤ maxLen ∧ SlF 2 W p n T ∧ Fits64 T := by
  rcases Go.Deep.open_slice_pairs ht he ce o0 o1 c0 c1 h with ⟨hcs, _⟩ | ⟨a, len, cap, m, k, V0, V1, D0, D1, P0, P1, hcs, _, hl, hm, hmm, hx, hi⟩
  · simp at hcs
    exact ⟨none, 0, 0, fun _ => 0, hcs, Nat.le_refl _, Nat.zero_le _, fun h => absurd h (by omega), fun _ => by dsimp only; omega⟩
  · simp at hcs
    simp only [if_true] at hmm
    subst hmm
    have cell : ∀ i, i < m → ∃ x y : Int, W.cell? (a.add (i * 2)) = some (.int .i64 x) ∧ W.cell? (a.add (i * 2 + 1)) = some (.int .i64 y) ∧ (-9223372036854775808 ≤ x ∧ x ≤ 9223372036854775807) ∧ (-9223372036854775808 ≤ y ∧ y ≤ 9223372036854775807) := by
      intro i him
      obtain ⟨h1, h2, h3, h4⟩ := hi i him
      obtain ⟨x, e1, _, w1⟩ := DataW.trod_int i0 h3
      obtain ⟨y, e2, _, w2⟩ := DataW.trod_int i1 h4
      simp at e1 e2
      rw [e1] at h1
      rw [e2] at h2
      exact ⟨x, y, h1, h2, i64_of w1, i64_of w2⟩
    refine ⟨some a, len, m, fun j => match W.cell? (a.add j) with | some (.int _ x) => if -9223372036854775808 ≤ x ∧ x ≤ 9223372036854775807 then x else 0 | _ => 0, hcs, hl, hm, fun hn => ?_, fun j => ?_⟩
    · obtain ⟨x0, _, hx0, _⟩ := cell 0 (by omega)
      rw [Nat.zero_mul] at hx0
      obtain ⟨b, off, rfl, hb⟩ := spot_none hx0
      refine ⟨b, off, rfl, hb, fun j hj => ?_⟩
      obtain ⟨x, y, h1, h2, b1, b2⟩ := cell (j / 2) (by omega)
      rcases Nat.mod_two_eq_zero_or_one j with h0 | h0
      · rw [show j / 2 * 2 = j by omega] at h1
        rw [← add_plain]
        dsimp only
        rw [h1]
        dsimp only
        rw [if_pos b1]
      · rw [show j / 2 * 2 + 1 = j by omega] at h2
        rw [← add_plain]
        dsimp only
        rw [h2]
        dsimp only
        rw [if_pos b2]
    · dsimp only
      split
      · split
        · assumption
        · omega
      · omega

theorem cells_frame : Try.prog.cellsOf 33 = 29 := by kernel_rfl
theorem open_frame {H : Type} {enc : TypeId × Value → H} {W : World} {base : Nat} {v : Value} {d : DataW H} {p : List MemPlace}
    (hv : Value.okWide Try.prog W .any base 33 v) (h : DataW.Trod enc Try.prog W 0 (fun _ => true) true 33 v d p) (hlt : ∀ x ∈ p, x.block < W.heap.size) :
    ∃ F q n cap T, v = .agg (rowN 29 (frC F (.slice q n cap))) ∧ n ≤ cap ∧ cap ≤ maxLen ∧ SlF 2 W q n T ∧ Fits64 T := by
  obtain ⟨cs, rfl, hsz⟩ : ∃ cs, v = .agg cs ∧ cs.size = 29 := by
    simp only [Value.okWide, Try.underlying33] at hv
    obtain ⟨cs, h1, h2, _⟩ := hv
    exact ⟨cs, h1, h2.trans cells_frame⟩
  obtain ⟨fuel, hf⟩ := h
  obtain ⟨xs, m, _, hxe, _, hxl, hg⟩ := DataW.trod_struct Try.underlying33 hf
  have hg : ∀ (i : Nat) (f : Field), _ → DataW.trod enc Try.prog W 0 (fun _ => true) true m f.type ((cs.toList.drop f.offset).take (Try.prog.cellsOf f.type)) = xs[i]? := hg
  have h0 := hg 0 _ rfl
  have h1 := hg 1 _ rfl
  have h2 := hg 2 _ rfl
  have h3 := hg 3 _ rfl
  have h4 := hg 4 _ rfl
  have hxl : xs.length = 5 := hxl
  rw [List.getElem?_eq_getElem (by omega)] at h0 h1 h2 h3 h4
  have c4 : Try.prog.cellsOf 26 = 4 := by kernel_rfl
  have c16 : Try.prog.cellsOf 25 = 16 := by kernel_rfl
  have cs1 : Try.prog.cellsOf 31 = 1 := by kernel_rfl
  have g0 := ints_of_trod Try.underlying26 Try.underlying3 (by kernel_rfl) c4 h0
  have g2 := ints_of_trod Try.underlying26 Try.underlying3 (by kernel_rfl) c4 h2
  have g3 := ints_of_trod Try.underlying26 Try.underlying3 (by kernel_rfl) c4 h3
  have g4 := ints_of_trod Try.underlying25 Try.underlying2 (by kernel_rfl) c16 h4
  have hl : cs.toList.length = 29 := by simpa using hsz
  have e1 : (cs.toList.drop 4).take 1 = [cs.toList[4]'(by omega)] := by rw [List.drop_eq_getElem_cons (by omega)]; rfl
  have h1 : DataW.trod enc Try.prog W 0 (fun _ => true) true m 31 ((cs.toList.drop 4).take (Try.prog.cellsOf 31)) = some (xs[1]'(by omega)) := h1
  rw [cs1, e1] at h1
  obtain ⟨q, n, cap, T, hu, hn, hc, hT, hF⟩ := pairs_of_trod Try.underlying31 Try.underlying60 (by kernel_rfl) rfl rfl (by kernel_rfl) (by kernel_rfl) Try.underlying3 Try.underlying2 h1 (fun z hz => hlt z (by
    have hp : p = xs.flatMap (·.2) := by injection hxe
    rw [hp]
    exact List.mem_flatMap.2 ⟨_, List.getElem_mem _, hz⟩))
  refine ⟨fun k => match cs[k]? with | some (.int _ x) => x | _ => 0, q, n, cap, T, ?_, hn, hc, hT, hF⟩
  congr 1
  have ci : ∀ k, k < 29 → k ≠ 4 → ∃ x, cs[k]? = some (.int .i64 x) := by
    intro k hk k4
    have go : ∀ o i x, o + i = k → cs.toList[o + i]? = some (Value.int .i64 x) → ∃ x, cs[k]? = some (.int .i64 x) := fun o i x e hx => ⟨x, by rw [← e]; simpa using hx⟩
    by_cases a : k < 4
    · obtain ⟨x, hx, _⟩ := g0 k a; exact go 0 k x (by omega) hx
    by_cases a : k < 9
    · obtain ⟨x, hx, _⟩ := g2 (k - 5) (by omega); exact go 5 (k - 5) x (by omega) hx
    by_cases a : k < 13
    · obtain ⟨x, hx, _⟩ := g3 (k - 9) (by omega); exact go 9 (k - 9) x (by omega) hx
    · obtain ⟨x, hx, _⟩ := g4 (k - 13) (by omega); exact go 13 (k - 13) x (by omega) hx
  apply Array.ext_getElem?
  intro i
  by_cases hi : i < 29
  · rw [rowN_at _ _ _ hi]
    unfold frC
    split
    · next e4 =>
      subst e4
      rw [← hu]
      simp
    · next e4 =>
      obtain ⟨x, hx⟩ := ci i hi e4
      rw [hx]
      dsimp only
      rw [hx]
  · rw [Array.getElem?_eq_none (by omega), Array.getElem?_eq_none (by rw [rowN_size]; omega)]
end Go.Proofs.Ytlaoamlmpdbmmaa
