/- A law's argument that is a script of frames: []calliopelaw19.Step. -/
import Derived.Test.YtlaoamlmpdbmmaaFrsArg
namespace Go.Proofs.Ytlaoamlmpdbmmaa
set_option linter.unusedVariables false
set_option maxRecDepth 100000
open Go.RowKit Go.ChangeShapes Go.WideShapes

/-- The script, to be read: n steps of kinds K and frames L. -/
def StpS (w : World) (p : Option Addr) (n : Nat) (K : Nat → Int) (L : Nat → Fr) : Prop := 0 < n → ∃ g o, p = some ⟨g, o, none⟩ ∧ g < w.heap.size ∧ ∀ i, i < n → w.cell? ⟨g, o + i * 30, none⟩ = some (.int .i64 (K i)) ∧ (∀ j, j < 29 → w.cell? ⟨g, o + i * 30 + 1 + j, none⟩ = some (frC (L i).F (L i).s j)) ∧ ToV (fun _ => False) w (L i) ∧ Fits64 (L i).T
theorem StpS.old {w w' : World} {p : Option Addr} {n : Nat} {K : Nat → Int} {L : Nat → Fr} (h : StpS w p n K L) (k : Old w w') : StpS w' p n K L := fun hn => by
  obtain ⟨g, o, h1, h2, h3⟩ := h hn
  refine ⟨g, o, h1, Nat.lt_of_lt_of_le h2 k.size, fun i hi => ?_⟩
  obtain ⟨a0, a1, a2, a3⟩ := h3 i hi
  exact ⟨(k.cell (a := ⟨g, o + i * 30, none⟩) h2).trans a0, fun j hj => (k.cell (a := ⟨g, o + i * 30 + 1 + j, none⟩) h2).trans (a1 j hj), a2.old k, a3⟩
theorem cells_step : Try.prog.cellsOf 36 = 30 := by kernel_rfl
open Go.Deep in
theorem open_steps {H : Type} {enc : TypeId × Value → H} {W : World} {base : Nat} {v : Value} {d : DataW H} {p : List MemPlace}
    (hv : Value.okWide Try.prog W .any base 22 v) (h : DataW.Trod enc Try.prog W 0 (fun _ => true) true 22 v d p) (hlt : ∀ x ∈ p, x.block < W.heap.size) :
    ∃ q n cap K L, v = .slice q n cap ∧ n ≤ cap ∧ cap ≤ maxLen ∧ StpS W q n K L := by
  obtain ⟨a0, len, cap, rfl⟩ := okWide_slice Try.underlying22 hv
  obtain ⟨fuel, hf⟩ := h
  rcases open_slice Try.underlying22 hf with ⟨hcs, _⟩ | ⟨a, len', cap', m, k, D, Pl, hcs, _, hl, hm, hmm, hx, hi⟩
  · simp [Value.cells] at hcs
    obtain ⟨rfl, rfl, rfl⟩ := hcs
    exact ⟨none, 0, 0, fun _ => 0, fun _ => zeroFr, rfl, Nat.le_refl _, Nat.zero_le _, fun h => absurd h (by omega)⟩
  · simp [Value.cells] at hcs
    obtain ⟨rfl, rfl, rfl⟩ := hcs
    simp only [if_true] at hmm
    subst hmm
    simp only [Prod.mk.injEq] at hx
    have one : ∀ i, i < m → ∃ (x : Int) (f : Fr), W.cell? (a.add (i * 30)) = some (.int .i64 x) ∧ (∀ j, j < 29 → W.cell? (a.add (i * 30 + 1 + j)) = some (frC f.F f.s j)) ∧ ToV (fun _ => False) W f ∧ Fits64 f.T := by
      intro i him
      obtain ⟨cs, hc, hd⟩ := hi i him
      rw [cells_step] at hc
      obtain ⟨_, hcl, hat⟩ := World.cells?_some hc
      obtain ⟨ys, k', _, hy, _, hyl, hg⟩ := DataW.trod_struct Try.underlying36 hd
      have hg : ∀ (i : Nat) (f : Field), _ → DataW.trod enc Try.prog W 0 (fun _ => true) true k' f.type ((cs.drop f.offset).take (Try.prog.cellsOf f.type)) = ys[i]? := hg
      have h0 := hg 0 _ rfl
      have h1 := hg 1 _ rfl
      have hyl : ys.length = 2 := hyl
      rw [List.getElem?_eq_getElem (by omega)] at h0 h1
      have ci : Try.prog.cellsOf 3 = 1 := by kernel_rfl
      have h0 : DataW.trod enc Try.prog W 0 (fun _ => true) true k' 3 ((cs.drop 0).take (Try.prog.cellsOf 3)) = some (ys[0]'(by omega)) := h0
      have h1 : DataW.trod enc Try.prog W 0 (fun _ => true) true k' 33 ((cs.drop 1).take (Try.prog.cellsOf 33)) = some (ys[1]'(by omega)) := h1
      rw [ci, List.drop_zero, List.take_one] at h0
      rw [cells_frame] at h1
      obtain ⟨x, hx0, _, _⟩ := DataW.trod_int Try.underlying3 h0
      obtain ⟨F, q, n, c, T, e, g1, g2, g3, g4⟩ := frame_of_trod (by rw [List.length_take, List.length_drop]; omega) h1 (fun z hz => hlt z (by
        rw [hx.2]
        refine List.mem_append_right _ (List.mem_flatMap.2 ⟨i, List.mem_range.2 him, ?_⟩)
        simp only [Prod.mk.injEq] at hy
        rw [hy.2]
        exact List.mem_flatMap.2 ⟨_, List.getElem_mem _, hz⟩))
      refine ⟨x, ⟨F, .slice q n c, n, T⟩, ?_, fun j hj => ?_, ⟨q, c, rfl, g1, g2, g3, fun _ _ _ => id⟩, g4⟩
      · have := hat 0 (by omega)
        rw [Go.Deep.add_add, Nat.add_zero] at this
        rw [this]
        have h2 : cs.head? = some (.int .i64 x) := by
          have := congrArg List.head? hx0
          cases hh : cs.head? with
          | none => rw [hh] at hx0; cases hx0
          | some u => rw [hh] at hx0; simpa using hx0
        rw [← List.head?_eq_getElem?]
        exact h2
      · have := hat (1 + j) (by omega)
        rw [Go.Deep.add_add, ← Nat.add_assoc] at this
        rw [this]
        have h2 := congrArg (fun l => l[j]?) e
        simp only [List.getElem?_take, List.getElem?_drop] at h2
        rw [if_pos hj] at h2
        rw [h2]
        simp [rowN_list, hj]
    refine ⟨some a, len, m, fun i => if h : i < m then (one i h).choose else 0, fun i => if h : i < m then (one i h).choose_spec.choose else zeroFr, rfl, hl, hm, fun hn => ?_⟩
    obtain ⟨x0, f0, h0, _⟩ := one 0 (by omega)
    rw [Nat.zero_mul] at h0
    obtain ⟨b, off, rfl, hb⟩ := spot_none h0
    refine ⟨b, off, rfl, hb, fun i hin => ?_⟩
    have hs := (one i (by omega)).choose_spec.choose_spec
    dsimp only
    rw [dif_pos (show i < m by omega), dif_pos (show i < m by omega)]
    refine ⟨by rw [← add_plain]; exact hs.1, fun j hj => ?_, hs.2.2⟩
    have := hs.2.1 j hj
    rw [add_plain] at this
    rw [← this]
    congr 2
    omega
end Go.Proofs.Ytlaoamlmpdbmmaa
