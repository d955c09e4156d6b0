/- A law's argument that is a list of frames. -/
import Derived.Test.YtlaoamlmpdbmmaaFrArg
import Derived.Test.YtlaoamlmpdbmmaaFrsL
namespace Go.Proofs.Ytlaoamlmpdbmmaa
set_option linter.unusedVariables false
set_option maxRecDepth 100000
open Go.RowKit Go.ChangeShapes Go.WideShapes

theorem frame_of_trod {H : Type} {enc : TypeId × Value → H} {W : World} {fuel : Nat} {cs : List Value} {x : DataW H × List MemPlace} (hl : cs.length = 29)
    (hf : DataW.trod enc Try.prog W 0 (fun _ => true) true fuel 33 cs = some x) (hlt : ∀ z ∈ x.2, z.block < W.heap.size) :
    ∃ F q n cap T, cs = (rowN 29 (frC F (.slice q n cap))).toList ∧ n ≤ cap ∧ cap ≤ maxLen ∧ SlF 2 W q n T ∧ Fits64 T := by
  obtain ⟨xs, m, _, hxe, _, hxl, hg⟩ := DataW.trod_struct Try.underlying33 hf
  have hg : ∀ (i : Nat) (f : Field), _ → DataW.trod enc Try.prog W 0 (fun _ => true) true m f.type ((cs.drop f.offset).take (Try.prog.cellsOf f.type)) = xs[i]? := hg
  have h0 := hg 0 _ rfl
  have h1 := hg 1 _ rfl
  have h2 := hg 2 _ rfl
  have h3 := hg 3 _ rfl
  have h4 := hg 4 _ rfl
  have hxl : xs.length = 5 := hxl
  rw [List.getElem?_eq_getElem (by omega)] at h0 h1 h2 h3 h4
  have c4 : Try.prog.cellsOf 26 = 4 := by kernel_rfl
  have c16 : Try.prog.cellsOf 25 = 16 := by kernel_rfl
  have cs1 : Try.prog.cellsOf 31 = 1 := by kernel_rfl
  have g0 := ints_of_trod Try.underlying26 Try.underlying3 (by kernel_rfl) c4 h0
  have g2 := ints_of_trod Try.underlying26 Try.underlying3 (by kernel_rfl) c4 h2
  have g3 := ints_of_trod Try.underlying26 Try.underlying3 (by kernel_rfl) c4 h3
  have g4 := ints_of_trod Try.underlying25 Try.underlying2 (by kernel_rfl) c16 h4
  have e1 : (cs.drop 4).take 1 = [cs[4]'(by omega)] := by rw [List.drop_eq_getElem_cons (by omega)]; rfl
  have h1 : DataW.trod enc Try.prog W 0 (fun _ => true) true m 31 ((cs.drop 4).take (Try.prog.cellsOf 31)) = some (xs[1]'(by omega)) := h1
  rw [cs1, e1] at h1
  obtain ⟨q, n, cap, T, hu, hn, hc, hT, hF⟩ := pairs_of_trod Try.underlying31 Try.underlying60 (by kernel_rfl) rfl rfl (by kernel_rfl) (by kernel_rfl) Try.underlying3 Try.underlying2 h1 (fun z hz => hlt z (by
    have hp : x.2 = xs.flatMap (·.2) := by rw [hxe]
    rw [hp]
    exact List.mem_flatMap.2 ⟨_, List.getElem_mem _, hz⟩))
  refine ⟨fun k => match cs[k]? with | some (.int _ x) => x | _ => 0, q, n, cap, T, ?_, hn, hc, hT, hF⟩
  have ci : ∀ k, k < 29 → k ≠ 4 → ∃ x, cs[k]? = some (.int .i64 x) := by
    intro k hk k4
    have go : ∀ o i x, o + i = k → cs[o + i]? = some (Value.int .i64 x) → ∃ x, cs[k]? = some (.int .i64 x) := fun o i x e hx => ⟨x, by rw [← e]; simpa using hx⟩
    by_cases a : k < 4
    · obtain ⟨x, hx, _⟩ := g0 k a; exact go 0 k x (by omega) hx
    by_cases a : k < 9
    · obtain ⟨x, hx, _⟩ := g2 (k - 5) (by omega); exact go 5 (k - 5) x (by omega) hx
    by_cases a : k < 13
    · obtain ⟨x, hx, _⟩ := g3 (k - 9) (by omega); exact go 9 (k - 9) x (by omega) hx
    · obtain ⟨x, hx, _⟩ := g4 (k - 13) (by omega); exact go 13 (k - 13) x (by omega) hx
  apply List.ext_getElem?
  intro i
  by_cases hi : i < 29
  · rw [rowN_list, List.getElem?_map, List.getElem?_range hi]
    show cs[i]? = some (frC _ _ i)
    unfold frC
    split
    · next e4 =>
      subst e4
      rw [← hu]
      simp
    · next e4 =>
      obtain ⟨x, hx⟩ := ci i hi e4
      rw [hx]
      dsimp only
      rw [hx]
  · rw [List.getElem?_eq_none (by omega), List.getElem?_eq_none (by rw [rowN_list_len]; omega)]
open Go.Deep in
theorem open_frames {H : Type} {enc : TypeId × Value → H} {W : World} {base : Nat} {v : Value} {d : DataW H} {p : List MemPlace}
    (hv : Value.okWide Try.prog W .any base 45 v) (h : DataW.Trod enc Try.prog W 0 (fun _ => true) true 45 v d p) (hlt : ∀ x ∈ p, x.block < W.heap.size) :
    ∃ q n cap L, v = .slice q n cap ∧ n ≤ cap ∧ cap ≤ maxLen ∧ FrsS (fun _ => False) W q n L ∧ ∀ i, Fits64 (L i).T := by
  obtain ⟨a0, len, cap, rfl⟩ := okWide_slice Try.underlying45 hv
  obtain ⟨fuel, hf⟩ := h
  rcases open_slice Try.underlying45 hf with ⟨hcs, _⟩ | ⟨a, len', cap', m, k, D, Pl, hcs, _, hl, hm, hmm, hx, hi⟩
  · simp [Value.cells] at hcs
    obtain ⟨rfl, rfl, rfl⟩ := hcs
    exact ⟨none, 0, 0, fun _ => zeroFr, rfl, Nat.le_refl _, Nat.zero_le _, FrsS.none _ _ _ _, fun _ _ => by unfold zeroFr; dsimp only; omega⟩
  · simp [Value.cells] at hcs
    obtain ⟨rfl, rfl, rfl⟩ := hcs
    simp only [if_true] at hmm
    subst hmm
    simp only [Prod.mk.injEq] at hx
    have fr : ∀ i, i < m → ∃ x : Fr, (∀ j, j < 29 → W.cell? (a.add (i * 29 + j)) = some (frC x.F x.s j)) ∧ ToV (fun _ => False) W x ∧ Fits64 x.T := by
      intro i him
      obtain ⟨cs, hc, hd⟩ := hi i him
      rw [cells_frame] at hc
      obtain ⟨_, hcl, hat⟩ := World.cells?_some hc
      obtain ⟨F, q, n, c, T, e, h1, h2, h3, h4⟩ := frame_of_trod hcl hd (fun z hz => hlt z (by rw [hx.2]; exact List.mem_append_right _ (List.mem_flatMap.2 ⟨i, List.mem_range.2 him, hz⟩)))
      refine ⟨⟨F, .slice q n c, n, T⟩, fun j hj => ?_, ⟨q, c, rfl, h1, h2, h3, fun _ _ _ => id⟩, h4⟩
      rw [← Go.Deep.add_add, hat j (by omega), e]
      simp [rowN_list, hj]
    refine ⟨some a, len, m, fun i => if h : i < m then (fr i h).choose else zeroFr, rfl, hl, hm, ⟨fun hn => ?_, fun i hin => ?_⟩, fun i => ?_⟩
    · obtain ⟨x0, h0, _⟩ := fr 0 (by omega)
      have hx0 := h0 0 (by omega)
      rw [Nat.zero_mul, Nat.zero_add] at hx0
      obtain ⟨b, off, rfl, hb⟩ := spot_none hx0
      refine ⟨b, off, rfl, hb, fun j hj => ?_⟩
      have hj2 : j / 29 < m := by omega
      have := (fr (j / 29) hj2).choose_spec.1 (j % 29) (by omega)
      rw [add_plain, show j / 29 * 29 + j % 29 = j by omega] at this
      rw [this]
      unfold frsC
      dsimp only
      rw [dif_pos hj2]
    · dsimp only
      rw [dif_pos (by omega)]
      exact (fr i (by omega)).choose_spec.2.1
    · dsimp only
      by_cases h : i < m
      · rw [dif_pos h]
        exact (fr i h).choose_spec.2.2
      · rw [dif_neg h]
        exact fun _ => by unfold zeroFr; dsimp only; omega
end Go.Proofs.Ytlaoamlmpdbmmaa
