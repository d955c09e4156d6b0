/- Texts joined: FrameA, SameL, RightL, FrsL. -/
import Derived.Test.YtlcbmgbnhjgelaaGreatPkAC
import Derived.Test.YtlcbmgbnhjgelaaGreatPkAD
import Derived.Test.YtlcbmgbnhjgelaaGreatPkAI
/- Frames by value: their cells, and which may be. No program. -/
namespace Go.Proofs.YtlcbmgbnhjgelaaGreat
set_option linter.unusedVariables false
set_option maxRecDepth 100000
open Go.RowKit Go.ChangeShapes Go.WideShapes

/-- A frame's cells: gains from 0 on, the tones at 4, scales from 5 on, widths from 9 on, steps from 13 on. -/
def frC (F : Nat → Int) (s : Value) : Nat → Value := fun k => if k = 4 then s else .int .i64 (F k)
theorem frC_set (F : Nat → Int) (s s' : Value) : updN (frC F s) 4 s' = frC F s' := by
  funext k
  unfold updN frC
  split <;> rfl
theorem frC_upd (F : Nat → Int) (s : Value) (j : Nat) (hj : j ≠ 4) (v : Int) : updN (frC F s) j (.int .i64 v) = frC (fun k => if k = j then v else F k) s := by
  funext k
  unfold updN frC
  by_cases h : k = j
  · subst h; simp [hj]
  · simp [h]
theorem frC_one (F : Nat → Int) (s : Value) (h : s.oneCell' = true) : (rowN 29 (frC F s)).all (·.oneCell') = true := rowN_one _ _ fun k _ => by
  unfold frC
  split
  · exact h
  · rfl
theorem frC_ext {F G : Nat → Int} (s : Value) (h : ∀ k, k < 29 → k ≠ 4 → F k = G k) : rowN 29 (frC F s) = rowN 29 (frC G s) := rowN_ext _ _ _ fun k hk => by
  unfold frC
  split
  · rfl
  · next h4 => rw [h k hk h4]
/-- A frame of noughts. -/
theorem frC_zero : rowN 29 (frC (fun _ => 0) (.slice none 0 0)) = #[.int .i64 0, .int .i64 0, .int .i64 0, .int .i64 0, .slice none 0 0, .int .i64 0, .int .i64 0, .int .i64 0, .int .i64 0, .int .i64 0, .int .i64 0, .int .i64 0, .int .i64 0, .int .i64 0, .int .i64 0, .int .i64 0, .int .i64 0, .int .i64 0, .int .i64 0, .int .i64 0, .int .i64 0, .int .i64 0, .int .i64 0, .int .i64 0, .int .i64 0, .int .i64 0, .int .i64 0, .int .i64 0, .int .i64 0] := rfl
/-- Block b is a frame's. -/
def FrB (t : TypeId) (w : World) (b : Nat) (F : Nat → Int) (s : Value) : Prop := w.heap[b]? = some (.cells (rowN 29 (frC F s)) t (0, 0))
namespace FrB
variable {t : TypeId} {w w' : World} {b : Nat} {F : Nat → Int} {s : Value} {X : Nat → Prop}
theorem new (w : World) (F : Nat → Int) (s : Value) : FrB t (w.alloc (.cells (rowN 29 (frC F s)) t)) w.heap.size F s := heap_alloc_new _ _
theorem old (h : FrB t w b F s) (k : Old w w') : FrB t w' b F s := (k.block b (lt_of_block h)).trans h
theorem kept (h : FrB t w b F s) (k : Kept X w w') (hX : X b) : FrB t w' b F s := (k.block b hX).trans h
theorem cell4 (h : FrB t w b F s) : w.cell? ⟨b, 4, none⟩ = some s ∧ w.frozen? ⟨b, 4, none⟩ = false :=
  ⟨(cell_of_row _ _ _ _ _ _ h).trans (rowN_at 29 (frC F s) 4 (by omega)), frozen_of_row _ _ _ _ _ h⟩
theorem cell (h : FrB t w b F s) (j : Nat) (hj : j < 29) (h4 : j ≠ 4) : w.cell? ⟨b, j, none⟩ = some (.int .i64 (F j)) ∧ w.frozen? ⟨b, j, none⟩ = false :=
  ⟨by rw [(cell_of_row _ _ _ _ _ _ h).trans (rowN_at 29 (frC F s) j hj)]; unfold frC; rw [if_neg h4], frozen_of_row _ _ _ _ _ h⟩
theorem part (h : FrB t w b F s) (o n : Nat) (ho : o + n ≤ 4 ∨ (4 < o ∧ o + n ≤ 29)) : ∀ j, j < n → w.cell? ⟨b, o + j, none⟩ = some (.int .i64 (F (o + j))) := fun j hj => (h.cell (o + j) (by omega) (by omega)).1
theorem set4 (h : FrB t w b F s) (s' : Value) : FrB t (w.setCell ⟨b, 4, none⟩ s') b F s' := by
  unfold FrB
  rw [← frC_set F s s', ← rowN_set 29 _ 4 _ (by omega)]
  exact heap_setCell_same _ _ _ _ _ _ h
theorem set (h : FrB t w b F s) (j : Nat) (hj : j < 29) (h4 : j ≠ 4) (v : Int) : FrB t (w.setCell ⟨b, j, none⟩ (.int .i64 v)) b (fun k => if k = j then v else F k) s := by
  unfold FrB
  rw [← frC_upd F s j h4 v, ← rowN_set 29 _ j _ hj]
  exact heap_setCell_same _ _ _ _ _ _ h
end FrB

/-- A new block is overwritten whole. -/
theorem row_ret {t : TypeId} {w W : World} {b : Nat} {z : Array Value} (h : W.heap[b]? = some (.cells z t (0, 0))) (ho : Old w W) (hb : w.heap.size ≤ b) (cs : Array Value) : (W.setRow b cs).heap[b]? = some (.cells cs t (0, 0)) ∧ Old w (W.setRow b cs) :=
  ⟨setRow_heap _ _ _ _ _ _ h, ho.after (X := fun k => k < w.heap.size) ⟨rfl, rfl, by simp, fun k hk => setRow_other _ _ _ _ (by omega)⟩ fun _ h => h⟩
/-- Which frames may be: F its numbers, n tones T. -/
structure FrP (F : Nat → Int) (n : Nat) (T : Nat → Int) : Prop where
  hg : ∀ k, k < 4 → 0 ≤ F k ∧ F k ≤ 3
  hs : ∀ k, k < 4 → 0 ≤ F (5 + k) ∧ F (5 + k) ≤ 23
  hw : ∀ k, k < 4 → 0 ≤ F (9 + k) ∧ F (9 + k) ≤ 24
  hq : ∀ k, k < 16 → fitB (F (13 + k)) (F (9 + k / 4)) = true
  hn : n ≤ 2
  ht : ∀ k, k < n → 0 ≤ T (2 * k) ∧ T (2 * k) ≤ 15 ∧ fitB (T (2 * k + 1)) 24 = true ∧ (0 < k → T (2 * (k - 1)) < T (2 * k))
theorem frP_iff (F : Nat → Int) (n : Nat) (T : Nat → Int) : FrP F n T ↔ ((∀ k, k < 4 → 0 ≤ F k ∧ F k ≤ 3) ∧ (∀ k, k < 4 → 0 ≤ F (5 + k) ∧ F (5 + k) ≤ 23) ∧ (∀ k, k < 4 → 0 ≤ F (9 + k) ∧ F (9 + k) ≤ 24) ∧ (∀ k, k < 16 → fitB (F (13 + k)) (F (9 + k / 4)) = true) ∧ n ≤ 2 ∧
    (∀ k, k < n → 0 ≤ T (2 * k) ∧ T (2 * k) ≤ 15 ∧ fitB (T (2 * k + 1)) 24 = true ∧ (0 < k → T (2 * (k - 1)) < T (2 * k)))) :=
  ⟨fun h => ⟨h.hg, h.hs, h.hw, h.hq, h.hn, h.ht⟩, fun ⟨a, b, c, d, e, f⟩ => ⟨a, b, c, d, e, f⟩⟩
instance (F : Nat → Int) (n : Nat) (T : Nat → Int) : Decidable (FrP F n T) := decidable_of_iff' _ (frP_iff F n T)
/-- Whether two frames are one. -/
def sameP (F : Nat → Int) (n : Nat) (T : Nat → Int) (G : Nat → Int) (m : Nat) (U : Nat → Int) : Prop := n = m ∧ (∀ j, j < 2 * n → T j = U j) ∧ ∀ k, k < 29 → k ≠ 4 → F k = G k
instance (F : Nat → Int) (n : Nat) (T : Nat → Int) (G : Nat → Int) (m : Nat) (U : Nat → Int) : Decidable (sameP F n T G m U) := by unfold sameP; infer_instance
end Go.Proofs.YtlcbmgbnhjgelaaGreat

/- Frames compared: contracts of slices.Equal at []api.Tone, frame.Same. -/
namespace Go.Proofs.YtlcbmgbnhjgelaaGreat
set_option linter.unusedVariables false
set_option maxRecDepth 100000
open Go.RowKit Go.ChangeShapes Go.WideShapes

theorem wpList_load_blk_w {P : Program} {ops : Array Oper} {rest : List Oper} {o : Oper} {a : Act} {w : World} {Q : Exit → Act → World → Prop} (hw : Region.wanted o (yielded ops a.tmps) = true) (n : Nat) (f : Nat → Int) (ty : TypeId) (x : Operand) (ho : o.op = .load ty x)
    (b i : Nat) (hx : a.eval x = .pointer (some ⟨b, i, none⟩)) (d : TypeDesc) (hc : ∀ j, j < n → w.cell? ⟨b, i + j, none⟩ = some (.int .i64 (f j)))
    (hu : P.underlying ty = some d) (hd : d.isRow = true) (hi : (P.info? ty).map (·.size) = some n) (h : wpList P ops Q rest (a.put o.dst (.agg (rowN n (blk f)))) w) : wpList P ops Q (o :: rest) a w :=
  wpList_step fun K hK => by
    rw [if_pos hw]
    exact wp_load_blk n f ty x ho b i hx d hc hu hd hi (hK _ _ h)

/-- Are n tones and m others the same? -/
def tonesB (n m : Nat) (T U : Nat → Int) : Bool := decide (n = m ∧ ∀ j, j < 2 * n → T j = U j)
set_option maxRecDepth 100000 in
theorem Equal_any (p q : Option Addr) (n m cap cap' : Nat) (T U : Nat → Int) (w : World) (hT : SlF 2 w p n T) (hU : SlF 2 w q m U) (hn : n ≤ maxLen) (hm : m ≤ maxLen) :
    Calls Tryz.prog 49 #[.slice p n cap, .slice q m cap'] w fun e w' => e = .returned (.bool (tonesB n m T U)) ∧ ∃ d, w' = w.drewN d := by
  unfold maxLen at hn hm
  by_cases hnm : n = m
  · subst hnm
    have HT := Lib.hid hT
    have HU := Lib.hid hU
    clear hT hU
    go_enter Tryz.func49, Tryz.ntmps49
    go_wp2_with fail
    go_loopw [13] (fun i wr => ∃ k : Nat, k ≤ n ∧ i = .int .i64 k ∧ Hid ((∀ j, j < 2 * k → T j = U j) ∧ ∃ d, wr = w.drewN d)) (fun i _ => n - (intOf i).toNat)
    case atStart => exact ⟨0, by omega, rfl, Lib.hid ⟨fun j hj => by omega, 0, rfl⟩⟩
    case round =>
      obtain ⟨k, hk, rfl, hs⟩ := hrel
      by_cases hlt : k < n
      · obtain ⟨d, rfl⟩ := hs.out.2
        have HJ := Lib.hid hs.out.1
        obtain ⟨g, o, rfl, hg, hc⟩ := two_cells HT.out (by omega)
        obtain ⟨g', o', rfl, hg', hc'⟩ := two_cells HU.out (by omega)
        obtain ⟨a0, a1⟩ := hc k hlt
        obtain ⟨b0, b1⟩ := hc' k hlt
        have hE := fun w => neq_tone w (T (2 * k)) (T (2 * k + 1)) (U (2 * k)) (U (2 * k + 1))
        have HN : Hid (T (2 * k) = U (2 * k) ∧ T (2 * k + 1) = U (2 * k + 1) → ∀ j, j < 2 * (k + 1) → T j = U j) := Lib.hid fun h j hj => by
          by_cases e0 : j = 2 * k
          · rw [e0]; exact h.1
          · by_cases e1 : j = 2 * k + 1
            · rw [e1]; exact h.2
            · exact HJ.out j (by omega)
        have HF : Hid (¬ (T (2 * k) = U (2 * k) ∧ T (2 * k + 1) = U (2 * k + 1)) → tonesB n n T U = false) := Lib.hid fun h => by
          unfold tonesB
          rw [decide_eq_false_iff_not]
          rintro ⟨_, h2⟩
          exact h ⟨h2 _ (by omega), h2 _ (by omega)⟩
        clear hs hc hc' HT HU HJ
        generalize T (2 * k) = x at *
        generalize T (2 * k + 1) = y at *
        generalize U (2 * k) = x' at *
        generalize U (2 * k + 1) = y' at *
        by_cases he : x = x' ∧ y = y'
        · rw [decide_eq_true he] at hE
          have HD := Lib.hid (HN.out he)
          clear HN HF he
          go_wp2_with fail
          go_quiet (fail)
          go_wp2_with fail
          go_roundw
          case rel => exact ⟨k + 1, by omega, by go_num, Lib.hid ⟨HD.out, _, rfl⟩⟩
          case measure => simp [intOf]; omega
        · rw [decide_eq_false he] at hE
          have HD := Lib.hid (HF.out he)
          clear HN HF he
          go_wp2_with fail
          go_quiet (fail)
          go_wp2_with fail
          go_ret
          exact ⟨by rw [HD.out]; rfl, _, World.drewN_drewN ..⟩
      · obtain rfl : k = n := by omega
        obtain ⟨d, rfl⟩ := hs.out.2
        have ht : tonesB k k T U = true := decide_eq_true ⟨rfl, hs.out.1⟩
        have HD := Lib.hid ht
        clear hs HT HU ht
        go_wp2_with fail
        go_ret
        exact ⟨by rw [HD.out]; rfl, _, rfl⟩
  · have hf : tonesB n m T U = false := by unfold tonesB; rw [decide_eq_false_iff_not]; exact fun h => hnm h.1
    rw [hf]
    clear hT hU hf
    have hnm' : ¬ ((n : Int) = m) := by omega
    go_enter Tryz.func49, Tryz.ntmps49
    go_wp2_with fail
    go_ret
    exact ⟨rfl, 0, rfl⟩

theorem same_split (F G : Nat → Int) (n m : Nat) (T U : Nat → Int) : decide (sameP F n T G m U) = (eqB 4 F G && (tonesB n m T U && (eqB 4 (fun j => F (5 + j)) (fun j => G (5 + j)) && (eqB 4 (fun j => F (9 + j)) (fun j => G (9 + j)) && eqB 16 (fun j => F (13 + j)) (fun j => G (13 + j)))))) := by
  rw [Bool.eq_iff_iff, decide_eq_true_iff]
  simp only [Bool.and_eq_true, eqB_true, decide_eq_true_eq, tonesB]
  unfold sameP
  constructor
  · rintro ⟨h1, h2, h3⟩
    exact ⟨fun k hk => h3 k (by omega) (by omega), ⟨h1, h2⟩, fun k hk => h3 _ (by omega) (by omega), fun k hk => h3 _ (by omega) (by omega), fun k hk => h3 _ (by omega) (by omega)⟩
  · rintro ⟨h0, ⟨h1, h2⟩, h3, h4, h5⟩
    refine ⟨h1, h2, fun k hk hk4 => ?_⟩
    by_cases k4 : k < 4
    · exact h0 k k4
    by_cases k9 : k < 9
    · have := h3 (k - 5) (by omega)
      rwa [show 5 + (k - 5) = k by omega] at this
    by_cases k13 : k < 13
    · have := h4 (k - 9) (by omega)
      rwa [show 9 + (k - 9) = k by omega] at this
    · have := h5 (k - 13) (by omega)
      rwa [show 13 + (k - 13) = k by omega] at this
theorem eq_four {P : Program} (F G : Nat → Int) (w : World) : (binOp .eql 50 (.agg (rowN 4 (blk F))) (.agg (rowN 4 (blk G)))).run Tryz.prog w = .ok (.bool (eqB 4 F G)) w :=
  eql_ints Tryz.underlying50 Tryz.underlying3 (by kernel_rfl) (by kernel_rfl) F G w
theorem eq_sixteen {P : Program} (F G : Nat → Int) (w : World) : (binOp .eql 53 (.agg (rowN 16 (blk F))) (.agg (rowN 16 (blk G)))).run Tryz.prog w = .ok (.bool (eqB 16 F G)) w :=
  eql_ints Tryz.underlying53 Tryz.underlying2 (by kernel_rfl) (by kernel_rfl) F G w
/-- Two boxes of frames. -/
theorem two_frames (t : TypeId) (w : World) (F G : Nat → Int) (s s' : Value) : FrB t ((w.alloc (.cells (rowN 29 (frC F s)) t)).alloc (.cells (rowN 29 (frC G s')) t)) w.heap.size F s ∧ FrB t ((w.alloc (.cells (rowN 29 (frC F s)) t)).alloc (.cells (rowN 29 (frC G s')) t)) (w.heap.size + 1) G s' ∧ Old w ((w.alloc (.cells (rowN 29 (frC F s)) t)).alloc (.cells (rowN 29 (frC G s')) t)) :=
  ⟨heap_alloc2_old w _ _, heap_alloc2_new w _ _, (Old.alloc w _).alloc' _⟩

set_option maxRecDepth 100000 in
set_option maxHeartbeats 1000000 in
theorem Same_any (F G : Nat → Int) (p q : Option Addr) (n m cap cap' : Nat) (T U : Nat → Int) (w : World) (hT : SlF 2 w p n T) (hU : SlF 2 w q m U) (hn : n ≤ maxLen) (hm : m ≤ maxLen) :
    Calls Tryz.prog 20 #[.agg (rowN 29 (frC F (.slice p n cap))), .agg (rowN 29 (frC G (.slice q m cap')))] w fun e w' => e = .returned (.bool (decide (sameP F n T G m U))) ∧ Old w w' := by
  rw [same_split]
  have Hs4 : Hid ((Tryz.prog.info? 50).map (·.size) = some 4) := Lib.hid (by kernel_rfl)
  have Hs16 : Hid ((Tryz.prog.info? 53).map (·.size) = some 16) := Lib.hid (by kernel_rfl)
  have r4 : (rowN 29 (frC F (.slice p n cap)))[4]? = some (.slice p n cap) := rowN_at 29 (frC F (.slice p n cap)) 4 (by omega)
  have r4' : (rowN 29 (frC G (.slice q m cap')))[4]? = some (.slice q m cap') := rowN_at 29 (frC G (.slice q m cap')) 4 (by omega)
  have h0 := two_frames 55 w F G (.slice p n cap) (.slice q m cap')
  have HA := Lib.hid h0.1
  have HB := Lib.hid h0.2.1
  have HO := Lib.hid h0.2.2
  have HE := Lib.hid (Equal_any p q n m cap cap' T U ((w.alloc (.cells (rowN 29 (frC F (.slice p n cap))) 55)).alloc (.cells (rowN 29 (frC G (.slice q m cap'))) 55)) (hT.old h0.2.2) (hU.old h0.2.2) hn hm)
  have e1 := fun w => eq_four (P := Tryz.prog) F G w
  have e2 := fun w => eq_four (P := Tryz.prog) (fun j => F (5 + j)) (fun j => G (5 + j)) w
  have e3 := fun w => eq_four (P := Tryz.prog) (fun j => F (9 + j)) (fun j => G (9 + j)) w
  have e4 := fun w => eq_sixteen (P := Tryz.prog) (fun j => F (13 + j)) (fun j => G (13 + j)) w
  clear h0 hT hU
  generalize eqB 4 F G = x1 at *
  generalize tonesB n m T U = xt at *
  generalize eqB 4 (fun j => F (5 + j)) (fun j => G (5 + j)) = x2 at *
  generalize eqB 4 (fun j => F (9 + j)) (fun j => G (9 + j)) = x3 at *
  generalize eqB 16 (fun j => F (13 + j)) (fun j => G (13 + j)) = x4 at *
  cases x1
  · go_enter Tryz.func20, Tryz.ntmps20
    go_wp2_with (first | (with_reducible refine wpList_load_blk rfl 4 (F) 50 _ rfl (w.heap.size) 0 rfl _ (fun j hj => by have := HA.out.part 0 4 (by omega) j hj; rwa [Nat.zero_add] at this ⊢) Tryz.underlying50 rfl Hs4.out ?_) | (with_reducible refine wpList_load_blk rfl 4 (G) 50 _ rfl (w.heap.size + 1) 0 rfl _ (fun j hj => by have := HB.out.part 0 4 (by omega) j hj; rwa [Nat.zero_add] at this ⊢) Tryz.underlying50 rfl Hs4.out ?_))
    go_ret
    exact ⟨rfl, HO.out⟩
  · go_enter Tryz.func20, Tryz.ntmps20
    go_wp2_with (first | (with_reducible refine wpList_load_blk rfl 4 (F) 50 _ rfl (w.heap.size) 0 rfl _ (fun j hj => by have := HA.out.part 0 4 (by omega) j hj; rwa [Nat.zero_add] at this ⊢) Tryz.underlying50 rfl Hs4.out ?_) | (with_reducible refine wpList_load_blk rfl 4 (G) 50 _ rfl (w.heap.size + 1) 0 rfl _ (fun j hj => by have := HB.out.part 0 4 (by omega) j hj; rwa [Nat.zero_add] at this ⊢) Tryz.underlying50 rfl Hs4.out ?_))
    refine HE.out.mono ?_
    rintro e w1 ⟨rfl, hd⟩
    have ho : Old ((w.alloc (.cells (rowN 29 (frC F (.slice p n cap))) 55)).alloc (.cells (rowN 29 (frC G (.slice q m cap'))) 55)) w1 := by obtain ⟨d, rfl⟩ := hd; exact (Old.refl _).drewN d
    have HA1 := Lib.hid (HA.out.old ho)
    have HB1 := Lib.hid (HB.out.old ho)
    have HO1 := Lib.hid (HO.out.trans ho)
    clear hd ho HA HB HO HE
    cases xt
    · go_wp2_with fail
      go_ret
      exact ⟨rfl, HO1.out⟩
    · cases x2
      · go_wp2_with (first | (with_reducible refine wpList_load_blk_w (by kernel_rfl) 4 (fun j => F (5 + j)) 50 _ rfl (w.heap.size) 5 rfl _ (HA1.out.part 5 4 (by omega)) Tryz.underlying50 rfl Hs4.out ?_) | (with_reducible refine wpList_load_blk_w (by kernel_rfl) 4 (fun j => G (5 + j)) 50 _ rfl (w.heap.size + 1) 5 rfl _ (HB1.out.part 5 4 (by omega)) Tryz.underlying50 rfl Hs4.out ?_) | (with_reducible refine wpList_load_blk_w (by kernel_rfl) 4 (fun j => F (9 + j)) 50 _ rfl (w.heap.size) 9 rfl _ (HA1.out.part 9 4 (by omega)) Tryz.underlying50 rfl Hs4.out ?_) | (with_reducible refine wpList_load_blk_w (by kernel_rfl) 4 (fun j => G (9 + j)) 50 _ rfl (w.heap.size + 1) 9 rfl _ (HB1.out.part 9 4 (by omega)) Tryz.underlying50 rfl Hs4.out ?_) | (with_reducible refine wpList_load_blk_w (by kernel_rfl) 16 (fun j => F (13 + j)) 53 _ rfl (w.heap.size) 13 rfl _ (HA1.out.part 13 16 (by omega)) Tryz.underlying53 rfl Hs16.out ?_) | (with_reducible refine wpList_load_blk_w (by kernel_rfl) 16 (fun j => G (13 + j)) 53 _ rfl (w.heap.size + 1) 13 rfl _ (HB1.out.part 13 16 (by omega)) Tryz.underlying53 rfl Hs16.out ?_))
        go_ret
        exact ⟨rfl, HO1.out⟩
      · cases x3
        · go_wp2_with (first | (with_reducible refine wpList_load_blk_w (by kernel_rfl) 4 (fun j => F (5 + j)) 50 _ rfl (w.heap.size) 5 rfl _ (HA1.out.part 5 4 (by omega)) Tryz.underlying50 rfl Hs4.out ?_) | (with_reducible refine wpList_load_blk_w (by kernel_rfl) 4 (fun j => G (5 + j)) 50 _ rfl (w.heap.size + 1) 5 rfl _ (HB1.out.part 5 4 (by omega)) Tryz.underlying50 rfl Hs4.out ?_) | (with_reducible refine wpList_load_blk_w (by kernel_rfl) 4 (fun j => F (9 + j)) 50 _ rfl (w.heap.size) 9 rfl _ (HA1.out.part 9 4 (by omega)) Tryz.underlying50 rfl Hs4.out ?_) | (with_reducible refine wpList_load_blk_w (by kernel_rfl) 4 (fun j => G (9 + j)) 50 _ rfl (w.heap.size + 1) 9 rfl _ (HB1.out.part 9 4 (by omega)) Tryz.underlying50 rfl Hs4.out ?_) | (with_reducible refine wpList_load_blk_w (by kernel_rfl) 16 (fun j => F (13 + j)) 53 _ rfl (w.heap.size) 13 rfl _ (HA1.out.part 13 16 (by omega)) Tryz.underlying53 rfl Hs16.out ?_) | (with_reducible refine wpList_load_blk_w (by kernel_rfl) 16 (fun j => G (13 + j)) 53 _ rfl (w.heap.size + 1) 13 rfl _ (HB1.out.part 13 16 (by omega)) Tryz.underlying53 rfl Hs16.out ?_))
          go_ret
          exact ⟨rfl, HO1.out⟩
        · go_wp2_with (first | (with_reducible refine wpList_load_blk_w (by kernel_rfl) 4 (fun j => F (5 + j)) 50 _ rfl (w.heap.size) 5 rfl _ (HA1.out.part 5 4 (by omega)) Tryz.underlying50 rfl Hs4.out ?_) | (with_reducible refine wpList_load_blk_w (by kernel_rfl) 4 (fun j => G (5 + j)) 50 _ rfl (w.heap.size + 1) 5 rfl _ (HB1.out.part 5 4 (by omega)) Tryz.underlying50 rfl Hs4.out ?_) | (with_reducible refine wpList_load_blk_w (by kernel_rfl) 4 (fun j => F (9 + j)) 50 _ rfl (w.heap.size) 9 rfl _ (HA1.out.part 9 4 (by omega)) Tryz.underlying50 rfl Hs4.out ?_) | (with_reducible refine wpList_load_blk_w (by kernel_rfl) 4 (fun j => G (9 + j)) 50 _ rfl (w.heap.size + 1) 9 rfl _ (HB1.out.part 9 4 (by omega)) Tryz.underlying50 rfl Hs4.out ?_) | (with_reducible refine wpList_load_blk_w (by kernel_rfl) 16 (fun j => F (13 + j)) 53 _ rfl (w.heap.size) 13 rfl _ (HA1.out.part 13 16 (by omega)) Tryz.underlying53 rfl Hs16.out ?_) | (with_reducible refine wpList_load_blk_w (by kernel_rfl) 16 (fun j => G (13 + j)) 53 _ rfl (w.heap.size + 1) 13 rfl _ (HB1.out.part 13 16 (by omega)) Tryz.underlying53 rfl Hs16.out ?_))
          go_ret
          exact ⟨rfl, HO1.out⟩
end Go.Proofs.YtlcbmgbnhjgelaaGreat

/- Which frames may be: contracts of frame.nextPlace, rightTones, rightSteps, Right. -/
namespace Go.Proofs.YtlcbmgbnhjgelaaGreat
set_option linter.unusedVariables false
set_option maxRecDepth 100000
open Go.RowKit Go.ChangeShapes Go.WideShapes

/-- The first place that a tone may have behind n others. -/
def nextI (n : Nat) (T : Nat → Int) : Int := if n = 0 then 0 else T (2 * (n - 1)) + 1
theorem nextPlace_any (p : Option Addr) (n cap : Nat) (T : Nat → Int) (w : World) (hT : SlF 2 w p n T) (hb : 0 < n → -9223372036854775808 ≤ T (2 * (n - 1)) ∧ T (2 * (n - 1)) ≤ 15) (hn : n ≤ maxLen) :
    Calls Tryz.prog 90 #[.slice p n cap] w fun e w' => e = .returned (.int .i64 (nextI n T)) ∧ w = w' := by
  unfold maxLen at hn
  cases n with
  | zero =>
    have HN : Hid (nextI 0 T = 0) := Lib.hid rfl
    rw [HN.out]
    clear hT hb HN
    go_enter Tryz.func90, Tryz.ntmps90
    go_wp2_with fail
    go_ret
    exact ⟨rfl, rfl⟩
  | succ m =>
    obtain ⟨g, o, rfl, hg, hc⟩ := two_cells hT (by omega)
    obtain ⟨c0, _⟩ := hc m (by omega)
    have hN : nextI (m + 1) T = T (2 * m) + 1 := by unfold nextI; rw [if_neg (by omega)]; rfl
    have hbd := hb (by omega)
    rw [show m + 1 - 1 = m by omega] at hbd
    rw [hN]
    clear hT hb hc hN
    generalize T (2 * m) = x at *
    have hm : ((m + 1 : Nat) : Int) - 1 = m := by omega
    obtain ⟨b0, b1⟩ := hbd
    go_enter Tryz.func90, Tryz.ntmps90
    go_wp2_with fail
    go_ret
    exact ⟨rfl, rfl⟩

/-- Which tones may be. -/
def tonesP (n : Nat) (T : Nat → Int) : Prop := n ≤ 2 ∧ ∀ k, k < n → 0 ≤ T (2 * k) ∧ T (2 * k) ≤ 15 ∧ fitB (T (2 * k + 1)) 24 = true ∧ (0 < k → T (2 * (k - 1)) < T (2 * k))
instance (n : Nat) (T : Nat → Int) : Decidable (tonesP n T) := by unfold tonesP; infer_instance

set_option maxRecDepth 100000 in
theorem rightTones_any (p : Option Addr) (n cap : Nat) (T : Nat → Int) (w : World) (hT : SlF 2 w p n T) (hf : Fits64 T) (hn : n ≤ cap) (hc : cap ≤ maxLen) :
    Calls Tryz.prog 53 #[.slice p n cap] w fun e w' => e = .returned (.bool (decide (tonesP n T))) ∧ Old w w' := by
  unfold maxLen at hc
  by_cases h2 : 2 < n
  · have hf : decide (tonesP n T) = false := by rw [decide_eq_false_iff_not]; intro h; have := h.1; omega
    rw [hf]
    clear hT hf
    go_enter Tryz.func53, Tryz.ntmps53
    go_wp2_with fail
    go_ret
    exact ⟨rfl, Old.refl _⟩
  · have h2' : n ≤ 2 := by omega
    have HT := Lib.hid hT
    have HF := Lib.hid hf
    clear hT hf h2
    go_enter Tryz.func53, Tryz.ntmps53
    go_wp2_with fail
    go_loopw [10] (fun i wr => ∃ k : Nat, k ≤ n ∧ i = .int .i64 k ∧ Hid ((∀ j, j < k → 0 ≤ T (2 * j) ∧ T (2 * j) ≤ 15 ∧ fitB (T (2 * j + 1)) 24 = true ∧ (0 < j → T (2 * (j - 1)) < T (2 * j))) ∧ Old w wr)) (fun i _ => n - (intOf i).toNat)
    case atStart => exact ⟨0, by omega, rfl, Lib.hid ⟨fun j hj => by omega, Old.refl _⟩⟩
    case round =>
      obtain ⟨k, hk, rfl, hs⟩ := hrel
      obtain ⟨hJ, hO⟩ := hs.out
      have HJ := Lib.hid hJ
      have HO := Lib.hid hO
      clear hJ hO hs
      by_cases hlt : k < n
      · have hTr := HT.out.old HO.out
        have hN : ∀ W, Old wr W → Calls Tryz.prog 90 #[.slice p k cap] W fun e w' => e = .returned (.int .i64 (nextI k T)) ∧ W = w' := fun W hW => by
          refine nextPlace_any p k cap T W ?_ (fun h0 => ?_) (by unfold maxLen; omega)
          · intro h0
            obtain ⟨g, o, h1, h2, h3⟩ := (hTr.old hW) (by omega)
            exact ⟨g, o, h1, h2, fun j hj => h3 j (by omega)⟩
          · have := HJ.out (k - 1) (by omega); omega
        have HN := Lib.hid (fun (o : Obj) n => hN ((wr.alloc o).drewN n) ((Old.alloc _ _).drewN _))
        have hnx : 0 ≤ nextI k T ∧ nextI k T ≤ 16 := by
          unfold nextI
          split
          · omega
          · have := HJ.out (k - 1) (by omega); omega
        have HE : Hid (tonesP n T → nextI k T ≤ T (2 * k) ∧ T (2 * k) < 16 ∧ fitB (T (2 * k + 1)) 24 = true) := Lib.hid fun h => by
          have := h.2 k hlt
          refine ⟨?_, by omega, this.2.2.1⟩
          unfold nextI
          split
          · omega
          · have := this.2.2.2 (by omega); omega
        have HS : Hid (nextI k T ≤ T (2 * k) → T (2 * k) < 16 → fitB (T (2 * k + 1)) 24 = true → ∀ j, j < k + 1 → 0 ≤ T (2 * j) ∧ T (2 * j) ≤ 15 ∧ fitB (T (2 * j + 1)) 24 = true ∧ (0 < j → T (2 * (j - 1)) < T (2 * j))) := Lib.hid fun e1 e2 e3 j hj => by
          rcases Nat.lt_succ_iff_lt_or_eq.1 hj with h | rfl
          · exact HJ.out j h
          · refine ⟨by omega, by omega, e3, fun h0 => ?_⟩
            unfold nextI at e1
            rw [if_neg (by omega)] at e1
            omega
        have hx := HF.out (2 * k)
        have hy := HF.out (2 * k + 1)
        obtain ⟨g, o, rfl, hg, hcc⟩ := two_cells hTr (by omega)
        obtain ⟨a0, a1⟩ := hcc k hlt
        clear hTr hN hcc HT HF HJ
        generalize hq : T (2 * k) = x at *
        generalize hr : T (2 * k + 1) = y at *
        generalize nextI k T = nx at *
        clear hq hr
        obtain ⟨n0, n1⟩ := hnx
        have HFit := Lib.hid (fun w => Fits_any y 24 w)
        have hkc : k ≤ cap := by omega
        by_cases e1 : x < nx
        · have HD : Hid (decide (tonesP n T) = false) := Lib.hid (by rw [decide_eq_false_iff_not]; intro h; have := HE.out h; omega)
          clear HE HS
          go_wp2_with fail
          go_quiet ((first | (go_at_call 90; exact Calls.quiet_of_same ((HN.out _ _).mono fun _ _ hh => ⟨hh.1, hh.2.symm⟩)) | (go_at_call 91; exact Calls.quiet_of_same ((HFit.out _).mono fun _ _ hh => ⟨hh.1, hh.2.symm⟩))))
          go_wp2_with fail
          go_ret
          exact ⟨by rw [HD.out]; rfl, (HO.out.alloc' _).drewN _⟩
        · have e1' : nx ≤ x := by omega
          clear e1
          by_cases e2 : 16 ≤ x
          · have HD : Hid (decide (tonesP n T) = false) := Lib.hid (by rw [decide_eq_false_iff_not]; intro h; have := HE.out h; omega)
            clear HE HS
            go_wp2_with fail
            go_quiet ((first | (go_at_call 90; exact Calls.quiet_of_same ((HN.out _ _).mono fun _ _ hh => ⟨hh.1, hh.2.symm⟩)) | (go_at_call 91; exact Calls.quiet_of_same ((HFit.out _).mono fun _ _ hh => ⟨hh.1, hh.2.symm⟩))))
            go_wp2_with fail
            go_ret
            exact ⟨by rw [HD.out]; rfl, (HO.out.alloc' _).drewN _⟩
          · have e2' : x < 16 := by omega
            clear e2
            cases e3 : fitB y 24
            case false =>
              rw [e3] at HFit
              have HD : Hid (decide (tonesP n T) = false) := Lib.hid (by rw [decide_eq_false_iff_not]; intro h; have := HE.out h; rw [this.2.2] at e3; cases e3)
              clear HE HS e3
              go_wp2_with fail
              go_quiet ((first | (go_at_call 90; exact Calls.quiet_of_same ((HN.out _ _).mono fun _ _ hh => ⟨hh.1, hh.2.symm⟩)) | (go_at_call 91; exact Calls.quiet_of_same ((HFit.out _).mono fun _ _ hh => ⟨hh.1, hh.2.symm⟩))))
              go_wp2_with fail
              go_ret
              exact ⟨by rw [HD.out]; rfl, (HO.out.alloc' _).drewN _⟩
            case true =>
              rw [e3] at HFit
              have HS2 := Lib.hid (HS.out e1' e2' e3)
              clear HS HE e3
              go_wp2_with fail
              go_quiet ((first | (go_at_call 90; exact Calls.quiet_of_same ((HN.out _ _).mono fun _ _ hh => ⟨hh.1, hh.2.symm⟩)) | (go_at_call 91; exact Calls.quiet_of_same ((HFit.out _).mono fun _ _ hh => ⟨hh.1, hh.2.symm⟩))))
              go_wp2_with fail
              go_roundw
              case rel => exact ⟨k + 1, by omega, by go_num, Lib.hid ⟨HS2.out, (HO.out.alloc' _).drewN _⟩⟩
              case measure => simp [intOf]; omega
      · obtain rfl : k = n := by omega
        have HD : Hid (decide (tonesP k T) = true) := Lib.hid (decide_eq_true ⟨h2', HJ.out⟩)
        clear HJ HT HF
        go_wp2_with fail
        go_ret
        exact ⟨by rw [HD.out]; rfl, HO.out⟩

/-- Which widths may be, and steps that fit them. -/
def stepsP (W Q : Nat → Int) : Prop := (∀ k, k < 4 → 0 ≤ W k ∧ W k ≤ 24) ∧ ∀ k, k < 16 → fitB (Q k) (W (k / 4)) = true
instance (W Q : Nat → Int) : Decidable (stepsP W Q) := by unfold stepsP; infer_instance
set_option maxRecDepth 100000 in
theorem rightSteps_any (W Q : Nat → Int) (w : World) :
    Calls Tryz.prog 55 #[.agg (rowN 4 (blk W)), .agg (rowN 16 (blk Q))] w fun e w' => e = .returned (.bool (decide (stepsP W Q))) ∧ Old w w' := by
  have Hs4 : Hid ((Tryz.prog.info? 50).map (·.size) = some 4) := Lib.hid (by kernel_rfl)
  have Hs16 : Hid ((Tryz.prog.info? 53).map (·.size) = some 16) := Lib.hid (by kernel_rfl)
  obtain ⟨W0, hW0⟩ : ∃ W0, W0 = ((w.alloc (.cells (rowN 4 (blk W)) 50)).alloc (.cells (rowN 16 (blk Q)) 53)) := ⟨_, rfl⟩
  have HA : Hid (((w.alloc (.cells (rowN 4 (blk W)) 50)).alloc (.cells (rowN 16 (blk Q)) 53)).heap[w.heap.size]? = some (.cells (rowN 4 (blk W)) 50 (0, 0))) := Lib.hid (heap_alloc2_old w _ _)
  have HB : Hid (W0.heap[w.heap.size + 1]? = some (.cells (rowN 16 (blk Q)) 53 (0, 0))) := Lib.hid (by rw [hW0]; exact heap_alloc2_new w _ _)
  have HA0 : Hid (W0.heap[w.heap.size]? = some (.cells (rowN 4 (blk W)) 50 (0, 0))) := Lib.hid (by rw [hW0]; exact heap_alloc2_old w _ _)
  have HC : Hid (∀ k, k < 4 → W0.cell? ⟨w.heap.size, k, none⟩ = some (.int .i64 (W k))) := Lib.hid fun k hk => (cell_of_row _ _ _ _ _ _ HA0.out).trans (blk_at 4 W k hk)
  have HO : Hid (Old w W0) := Lib.hid (by rw [hW0]; exact (Old.alloc w _).alloc' _)
  have HW := Lib.hid hW0
  clear hW0
  go_enter Tryz.func55, Tryz.ntmps55
  go_wp2_with (with_reducible refine wpList_load_row rfl 50 _ rfl w.heap.size rfl 50 (rowN 4 (blk W)) (0, 0) _ HA.out Tryz.underlying50 rfl (by rw [rowN_size]; exact Hs4.out) ?_)
  rw [← HW.out]
  clear HA HW
  go_loop [10] (fun i => ∃ k : Nat, k ≤ 4 ∧ i = .int .i64 k ∧ Hid (∀ j, j < k → 0 ≤ W j ∧ W j ≤ 24)) (fun i => 4 - (intOf i).toNat)
  case atStart => exact ⟨0, by omega, rfl, Lib.hid fun j hj => by omega⟩
  case round =>
    obtain ⟨k, hk, rfl, hj⟩ := hrel
    by_cases hlt : k < 4
    · have i1 : (0 : Int) ≤ k := by omega
      have i2 : (k : Int) < 4 := by omega
      have hat : ∀ w : World, (Instr.index 50 (.agg (rowN 4 (blk W))) (.int .i64 k)).run Tryz.prog w = .ok (.int .i64 (W k)) w := fun w => run_index_ints Tryz.underlying50 Tryz.underlying3 (fun _ => by kernel_rfl) W k hlt w
      have HN : Hid (0 ≤ W k → W k ≤ 24 → ∀ j, j < k + 1 → 0 ≤ W j ∧ W j ≤ 24) := Lib.hid fun e1 e2 j hj' => by
        rcases Nat.lt_succ_iff_lt_or_eq.1 hj' with h | rfl
        · exact hj.out j h
        · exact ⟨e1, e2⟩
      have HF : Hid (¬ (0 ≤ W k ∧ W k ≤ 24) → decide (stepsP W Q) = false) := Lib.hid fun h => by
        rw [decide_eq_false_iff_not]; exact fun h2 => h (h2.1 k hlt)
      clear hj HC HA0 HB
      generalize W k = x at *
      by_cases h1 : x < 0
      · have HD := Lib.hid (HF.out (by omega))
        clear HF HN
        go_wp2_with fail
        go_ret
        exact ⟨by rw [HD.out]; rfl, HO.out⟩
      · have h1' : 0 ≤ x := by omega
        clear h1
        by_cases h2 : 24 < x
        · have HD := Lib.hid (HF.out (by omega))
          clear HF HN
          go_wp2_with fail
          go_ret
          exact ⟨by rw [HD.out]; rfl, HO.out⟩
        · have HD := Lib.hid (HN.out h1' (by omega))
          clear HF HN
          go_wp2_with fail
          go_round
          case rel => exact ⟨k + 1, by omega, by go_num, HD⟩
          case measure => simp [intOf]; omega
    · obtain rfl : k = 4 := by omega
      have HG := hj
      clear hj hlt hk
      go_wp2_with (with_reducible refine wpList_load_row rfl 53 _ rfl (w.heap.size + 1) rfl 53 (rowN 16 (blk Q)) (0, 0) _ HB.out Tryz.underlying53 rfl (by rw [rowN_size]; exact Hs16.out) ?_)
      go_loop [21] (fun i => ∃ k : Nat, k ≤ 16 ∧ i = .int .i64 k ∧ Hid (∀ j, j < k → fitB (Q j) (W (j / 4)) = true)) (fun i => 16 - (intOf i).toNat)
      case atStart => exact ⟨0, by omega, rfl, Lib.hid fun j hj => by omega⟩
      case round =>
        obtain ⟨k, hk, rfl, hj⟩ := hrel
        by_cases hlt : k < 16
        · have i1 : (0 : Int) ≤ k := by omega
          have i2 : (k : Int) < 16 := by omega
          have hat : ∀ w : World, (Instr.index 53 (.agg (rowN 16 (blk Q))) (.int .i64 k)).run Tryz.prog w = .ok (.int .i64 (Q k)) w := fun w => run_index_ints Tryz.underlying53 Tryz.underlying2 (fun _ => by kernel_rfl) Q k hlt w
          obtain ⟨m, hm⟩ : ∃ m, k / 4 = m := ⟨_, rfl⟩
          have HBd := Lib.hid (fun w => Band_nat k m w hlt hm)
          have m0 : (0 : Int) ≤ m := by omega
          have m1 : (m : Int) < 4 := by omega
          have hc := HC.out m (by omega)
          have hFt := fun w => Fits_any (Q k) (W m) w
          have HN : Hid (fitB (Q k) (W m) = true → ∀ j, j < k + 1 → fitB (Q j) (W (j / 4)) = true) := Lib.hid fun e1 j hj' => by
            rcases Nat.lt_succ_iff_lt_or_eq.1 hj' with h | rfl
            · exact hj.out j h
            · rw [hm]; exact e1
          have HF : Hid (fitB (Q k) (W m) = false → decide (stepsP W Q) = false) := Lib.hid fun h => by
            rw [decide_eq_false_iff_not]; intro h2; have := h2.2 k hlt; rw [hm, h] at this; cases this
          clear hj HC HA0 HB HG hm
          generalize Q k = x at *
          generalize W m = y at *
          have HFt := Lib.hid hFt
          clear hFt
          cases e3 : fitB x y
          case false =>
            rw [e3] at HFt
            have HD := Lib.hid (HF.out e3)
            clear HF HN e3
            go_wp2_with fail
            refine (HBd.out _).mono ?_
            rintro e w1 ⟨rfl, rfl⟩
            go_wp2_with fail
            refine (HFt.out _).mono ?_
            rintro e w1 ⟨rfl, rfl⟩
            go_wp2_with fail
            go_ret
            exact ⟨by rw [HD.out]; rfl, HO.out⟩
          case true =>
            rw [e3] at HFt
            have HD := Lib.hid (HN.out e3)
            clear HF HN e3
            go_wp2_with fail
            refine (HBd.out _).mono ?_
            rintro e w1 ⟨rfl, rfl⟩
            go_wp2_with fail
            refine (HFt.out _).mono ?_
            rintro e w1 ⟨rfl, rfl⟩
            go_wp2_with fail
            go_round
            case rel => exact ⟨k + 1, by omega, by go_num, HD⟩
            case measure => simp [intOf]; omega
        · obtain rfl : k = 16 := by omega
          have HD : Hid (decide (stepsP W Q) = true) := Lib.hid (decide_eq_true ⟨HG.out, hj.out⟩)
          clear HG hj HC HA0 HB
          go_wp2_with fail
          go_ret
          exact ⟨by rw [HD.out]; rfl, HO.out⟩

theorem right_split (F : Nat → Int) (n : Nat) (T : Nat → Int) : decide (FrP F n T) = (decide (rightP F) && (decide (tonesP n T) && (decide (scalesP fun k => F (5 + k)) && decide (stepsP (fun k => F (9 + k)) (fun k => F (13 + k)))))) := by
  rw [Bool.eq_iff_iff]
  simp only [Bool.and_eq_true, decide_eq_true_iff]
  exact ⟨fun h => ⟨h.hg, ⟨h.hn, h.ht⟩, h.hs, h.hw, h.hq⟩, fun ⟨h1, h2, h3, h4⟩ => ⟨h1, h3, h4.1, h4.2, h2.1, h2.2⟩⟩

set_option maxRecDepth 100000 in
theorem FRight_any (F : Nat → Int) (p : Option Addr) (n cap : Nat) (T : Nat → Int) (w : World) (hT : SlF 2 w p n T) (hf : Fits64 T) (hn : n ≤ cap) (hc : cap ≤ maxLen) :
    Calls Tryz.prog 26 #[.agg (rowN 29 (frC F (.slice p n cap)))] w fun e w' => e = .returned (.bool (decide (FrP F n T))) ∧ Old w w' := by
  rw [right_split]
  have Hs4 : Hid ((Tryz.prog.info? 50).map (·.size) = some 4) := Lib.hid (by kernel_rfl)
  have Hs16 : Hid ((Tryz.prog.info? 53).map (·.size) = some 16) := Lib.hid (by kernel_rfl)
  have HB : Hid (FrB 55 (w.alloc (.cells (rowN 29 (frC F (.slice p n cap))) 55)) w.heap.size F (.slice p n cap)) := Lib.hid (FrB.new w F _)
  have HO : Hid (Old w (w.alloc (.cells (rowN 29 (frC F (.slice p n cap))) 55))) := Lib.hid (Old.alloc _ _)
  have H1 := Lib.hid (fun w => Right_any F w)
  have H2 := Lib.hid (fun (W : World) (h : Old w W) => rightTones_any p n cap T W (hT.old h) hf hn hc)
  have H3 := Lib.hid (fun w => SRight_any (fun k => F (5 + k)) w)
  have H4 := Lib.hid (fun w => rightSteps_any (fun k => F (9 + k)) (fun k => F (13 + k)) w)
  clear hT hf
  generalize decide (rightP F) = x1 at *
  generalize decide (tonesP n T) = x2 at *
  generalize decide (scalesP fun k => F (5 + k)) = x3 at *
  generalize decide (stepsP (fun k => F (9 + k)) (fun k => F (13 + k))) = x4 at *
  go_enter Tryz.func26, Tryz.ntmps26
  go_wp2_with (with_reducible refine wpList_load_blk rfl 4 F 50 _ rfl w.heap.size 0 rfl _ (fun j hj => by have := HB.out.part 0 4 (by omega) j hj; rwa [Nat.zero_add] at this ⊢) Tryz.underlying50 rfl Hs4.out ?_)
  refine (H1.out _).mono ?_
  rintro e w1 ⟨rfl, ho1⟩
  have hb1 := HB.out.old ho1
  have ho1 := HO.out.trans ho1
  have c4 := hb1.cell4.1
  have HB1 := Lib.hid hb1
  have HO1 := Lib.hid ho1
  clear hb1 ho1 HB HO H1
  cases x1
  case false =>
    go_wp2_with fail
    go_ret
    exact ⟨rfl, HO1.out⟩
  case true =>
    go_wp2_with fail
    refine (H2.out _ HO1.out).mono ?_
    rintro e w2 ⟨rfl, ho2⟩
    have HB2 := Lib.hid (HB1.out.old ho2)
    have HO2 := Lib.hid (HO1.out.trans ho2)
    clear ho2 HB1 HO1 H2 c4
    cases x2
    case false =>
      go_wp2_with fail
      go_ret
      exact ⟨rfl, HO2.out⟩
    case true =>
      go_wp2_with (with_reducible refine wpList_load_blk_w (by kernel_rfl) 4 (fun j => F (5 + j)) 50 _ rfl w.heap.size 5 rfl _ (HB2.out.part 5 4 (by omega)) Tryz.underlying50 rfl Hs4.out ?_)
      refine (H3.out _).mono ?_
      rintro e w3 ⟨rfl, ho3⟩
      have HB3 := Lib.hid (HB2.out.old ho3)
      have HO3 := Lib.hid (HO2.out.trans ho3)
      clear ho3 HB2 HO2 H3
      cases x3
      case false =>
        go_wp2_with fail
        go_ret
        exact ⟨rfl, HO3.out⟩
      case true =>
        go_wp2_with (first | (with_reducible refine wpList_load_blk_w (by kernel_rfl) 4 (fun j => F (9 + j)) 50 _ rfl w.heap.size 9 rfl _ (HB3.out.part 9 4 (by omega)) Tryz.underlying50 rfl Hs4.out ?_) | (with_reducible refine wpList_load_blk_w (by kernel_rfl) 16 (fun j => F (13 + j)) 53 _ rfl w.heap.size 13 rfl _ (HB3.out.part 13 16 (by omega)) Tryz.underlying53 rfl Hs16.out ?_))
        refine (H4.out _).mono ?_
        rintro e w4 ⟨rfl, ho4⟩
        have HO4 := Lib.hid (HO3.out.trans ho4)
        clear ho4
        go_wp2_with fail
        go_ret
        exact ⟨rfl, HO4.out⟩
end Go.Proofs.YtlcbmgbnhjgelaaGreat

/- Frames one behind the other: cells of whatever values as a function of the place, a list of frames with their tones; read, and stored one by one. No program. -/
namespace Go.Proofs.YtlcbmgbnhjgelaaGreat
set_option linter.unusedVariables false
set_option maxRecDepth 100000
open Go.RowKit Go.ChangeShapes Go.WideShapes

/-- Block g holds these m values from its head on, and they may be written. -/
structure CellsV (w : World) (g m : Nat) (C : Nat → Value) : Prop where
  lt : g < w.heap.size
  cell : ∀ j, j < m → w.cell? ⟨g, j, none⟩ = some (C j)
  frz : ∀ j, j < m → w.frozen? ⟨g, j, none⟩ = false
/-- C with n values of c laid over it from o on. -/
def patchV (C : Nat → Value) (o n : Nat) (c : Nat → Value) : Nat → Value := fun j => if o ≤ j ∧ j < o + n then c (j - o) else C j
theorem rowN_list (n : Nat) (c : Nat → Value) : (rowN n c).toList = (List.range n).map c := rfl
theorem rowN_list_at {n : Nat} {c : Nat → Value} {j : Nat} {v : Value} (h : (rowN n c).toList[j]? = some v) : j < n ∧ v = c j := by
  rw [rowN_list] at h
  by_cases hj : j < n
  · simp [hj] at h; exact ⟨hj, h.symm⟩
  · rw [List.getElem?_eq_none (by simp; omega)] at h; cases h
theorem rowN_list_len (n : Nat) (c : Nat → Value) : (rowN n c).toList.length = n := by simp [rowN_list]
namespace CellsV
variable {w w' : World} {g m : Nat} {C : Nat → Value} {Y : Nat → Prop}
theorem kept (h : CellsV w g m C) (k : Kept Y w w') (hY : Y g) : CellsV w' g m C :=
  ⟨Nat.lt_of_lt_of_le h.lt k.size, fun j hj => (k.cell (a := ⟨g, j, none⟩) hY).trans (h.cell j hj), fun j hj => (k.frozen (a := ⟨g, j, none⟩) hY).trans (h.frz j hj)⟩
theorem old (h : CellsV w g m C) (k : Old w w') : CellsV w' g m C := h.kept k h.lt
theorem ext {D : Nat → Value} (h : CellsV w g m C) (e : ∀ j, j < m → C j = D j) : CellsV w g m D := ⟨h.lt, fun j hj => by rw [← e j hj]; exact h.cell j hj, h.frz⟩
theorem there (h : CellsV w g m C) (o n : Nat) (hn : o + n ≤ m) : w.there g o n := fun j hj => ⟨by rw [h.cell (o + j) (by omega)]; rfl, h.frz (o + j) (by omega)⟩
theorem setCells (h : CellsV w g m C) (o n : Nat) (hn : o + n ≤ m) (c : Nat → Value) : CellsV (w.setCells g o (rowN n c).toList) g m (patchV C o n c) := by
  refine ⟨by rw [setCells_size]; exact h.lt, fun k hk => ?_, fun k hk => by rw [World.frozen?_setCells]; exact h.frz k hk⟩
  unfold patchV
  by_cases e : o ≤ k ∧ k < o + n
  · rw [if_pos e]
    have h1 := World.cell?_setCells_in g (rowN n c).toList o w (fun i hi => by rw [rowN_list_len] at hi; rw [h.cell (o + i) (by omega)]; rfl) (k - o) (by rw [rowN_list_len]; omega)
    rw [show o + (k - o) = k by omega] at h1
    rw [h1]
    simp [rowN_list]
  · rw [if_neg e, World.cell?_setCells_out g (rowN n c).toList o w ⟨g, k, none⟩ (fun _ _ => by rw [rowN_list_len]; show k < o ∨ o + n ≤ k; omega)]
    exact h.cell k hk
end CellsV
theorem cellsV_of {w : World} {g m : Nat} {C : Nat → Value} {t : TypeId} (h : w.heap[g]? = some (.cells (rowN m C) t (0, 0))) : CellsV w g m C :=
  ⟨lt_of_block h, fun j hj => (cell_of_row _ _ _ _ _ _ h).trans (rowN_at m C j hj), fun j hj => frozen_of_row _ _ _ _ _ h⟩

/-- A frame: its numbers, its slice of tones, how many tones, and these. -/
structure Fr where
  F : Nat → Int
  s : Value
  n : Nat
  T : Nat → Int
/-- A frame's tones are to be read, and lie in no block of X. -/
def ToV (X : Nat → Prop) (w : World) (x : Fr) : Prop := ∃ p cap, x.s = .slice p x.n cap ∧ x.n ≤ cap ∧ cap ≤ maxLen ∧ SlF 2 w p x.n x.T ∧ (0 < x.n → ∀ a, p = some a → ¬ X a.block)
namespace ToV
variable {X Y : Nat → Prop} {w w' : World} {x : Fr}
theorem old (h : ToV X w x) (k : Old w w') : ToV X w' x := by
  obtain ⟨p, cap, h1, h2, h3, h4, h5⟩ := h
  exact ⟨p, cap, h1, h2, h3, h4.old k, h5⟩
theorem mono (h : ToV X w x) (hY : ∀ k, k < w.heap.size → Y k → X k) : ToV Y w x := by
  obtain ⟨p, cap, h1, h2, h3, h4, h5⟩ := h
  refine ⟨p, cap, h1, h2, h3, h4, fun hn a ha hY' => ?_⟩
  obtain ⟨g, o, e1, e2, _⟩ := h4 hn
  rw [e1] at ha
  cases ha
  exact h5 hn _ e1 (hY _ e2 hY')
theorem kept (h : ToV X w x) (k : Kept Y w w') (hY : ∀ q, q < w.heap.size → ¬ X q → Y q) : ToV X w' x := by
  obtain ⟨p, cap, h1, h2, h3, h4, h5⟩ := h
  refine ⟨p, cap, h1, h2, h3, fun hn => ?_, h5⟩
  obtain ⟨g, o, e1, e2, e3⟩ := h4 hn
  exact ⟨g, o, e1, Nat.lt_of_lt_of_le e2 k.size, fun j hj => (k.cell (a := ⟨g, o + j, none⟩) (hY g e2 (h5 hn _ e1))).trans (e3 j hj)⟩
theorem none (X : Nat → Prop) (w : World) (F T : Nat → Int) : ToV X w ⟨F, .slice none 0 0, 0, T⟩ := ⟨_, 0, rfl, Nat.le_refl _, Nat.zero_le _, fun h => absurd h (by simp), fun h => absurd h (by simp)⟩
theorem one (h : ToV X w x) : x.s.oneCell' = true := by
  obtain ⟨p, cap, h1, _⟩ := h
  rw [h1]; rfl
end ToV
/-- The cells of frames, one behind the other. -/
def frsC (L : Nat → Fr) : Nat → Value := fun q => frC (L (q / 29)).F (L (q / 29)).s (q % 29)
theorem frsC_at (L : Nat → Fr) (i k : Nat) (hk : k < 29) : frsC L (i * 29 + k) = frC (L i).F (L i).s k := by
  unfold frsC
  rw [show (i * 29 + k) / 29 = i by omega, show (i * 29 + k) % 29 = k by omega]
def updF (L : Nat → Fr) (k : Nat) (x : Fr) : Nat → Fr := fun i => if i = k then x else L i
theorem updF_same (L : Nat → Fr) (k : Nat) (x : Fr) : updF L k x k = x := if_pos rfl
theorem updF_other (L : Nat → Fr) (k : Nat) (x : Fr) {i : Nat} (h : i ≠ k) : updF L k x i = L i := if_neg h
theorem frsC_patch (L : Nat → Fr) (k : Nat) (x : Fr) : patchV (frsC L) (k * 29) 29 (frC x.F x.s) = frsC (updF L k x) := by
  funext q
  unfold patchV
  by_cases e : k * 29 ≤ q ∧ q < k * 29 + 29
  · rw [if_pos e]
    unfold frsC
    rw [show q / 29 = k by omega, updF_same, show q % 29 = q - k * 29 by omega]
  · rw [if_neg e]
    unfold frsC
    rw [updF_other _ _ _ (by omega)]
/-- N frames to be read, their tones in no block of X. -/
def FrsS (X : Nat → Prop) (w : World) (p : Option Addr) (N : Nat) (L : Nat → Fr) : Prop := (0 < N → ∃ g o, p = some ⟨g, o, none⟩ ∧ g < w.heap.size ∧ ∀ j, j < 29 * N → w.cell? ⟨g, o + j, none⟩ = some (frsC L j)) ∧ ∀ i, i < N → ToV X w (L i)
namespace FrsS
variable {X Y : Nat → Prop} {w w' : World} {p : Option Addr} {N : Nat} {L : Nat → Fr}
theorem old (h : FrsS X w p N L) (k : Old w w') : FrsS X w' p N L := by
  refine ⟨fun hn => ?_, fun i hi => (h.2 i hi).old k⟩
  obtain ⟨g, o, e1, e2, e3⟩ := h.1 hn
  exact ⟨g, o, e1, Nat.lt_of_lt_of_le e2 k.size, fun j hj => (k.cell (a := ⟨g, o + j, none⟩) e2).trans (e3 j hj)⟩
theorem none (X : Nat → Prop) (w : World) (p : Option Addr) (L : Nat → Fr) : FrsS X w p 0 L := ⟨fun h => absurd h (by omega), fun i hi => by omega⟩
/-- The cells of one of them. -/
theorem row (h : FrsS X w p N L) (i : Nat) (hi : i < N) : ∃ g o, p = some ⟨g, o, Option.none⟩ ∧ g < w.heap.size ∧ ∀ j, j < 29 → w.cell? ⟨g, o + i * 29 + j, Option.none⟩ = some (frC (L i).F (L i).s j) := by
  obtain ⟨g, o, e1, e2, e3⟩ := h.1 (by omega)
  refine ⟨g, o, e1, e2, fun j hj => ?_⟩
  rw [Nat.add_assoc, e3 (i * 29 + j) (by omega), frsC_at _ _ _ hj]
end FrsS
/-- N frames in a block of the call's own, outside X; their tones lie neither there nor in X2. -/
structure FrsO (X : Nat → Prop) (w : World) (g N : Nat) (L : Nat → Fr) : Prop where
  at_ : CellsV w g (29 * N) (frsC L)
  out : ¬ X g
  tn : ∀ i, i < N → ToV (fun k => k = g) w (L i)
namespace FrsO
variable {X Y : Nat → Prop} {w w' : World} {g N : Nat} {L : Nat → Fr}
theorem old (h : FrsO X w g N L) (k : Old w w') : FrsO X w' g N L := ⟨h.at_.old k, h.out, fun i hi => (h.tn i hi).old k⟩
theorem sl (h : FrsO X w g N L) (Y : Nat → Prop) (hY : ∀ k, k < w.heap.size → Y k → k = g) : FrsS Y w (some ⟨g, 0, none⟩) N L :=
  ⟨fun _ => ⟨g, 0, rfl, h.at_.lt, fun j hj => by rw [Nat.zero_add]; exact h.at_.cell j hj⟩, fun i hi => (h.tn i hi).mono hY⟩
theorem store (h : FrsO X w g N L) (k : Nat) (hk : k < N) (x : Fr) (hx : ToV (fun k => k = g) w x) : FrsO X (w.setCells g (k * 29) (rowN 29 (frC x.F x.s)).toList) g N (updF L k x) := by
  have hK := Kept.setCells (X := fun q => q ≠ g) w (b := g) (fun e => e rfl) (k * 29) (rowN 29 (frC x.F x.s)).toList
  refine ⟨(h.at_.setCells (k * 29) 29 (by omega) _).ext fun j _ => by rw [frsC_patch], h.out, fun i hi => ?_⟩
  by_cases e : i = k
  · subst e; rw [updF_same]; exact hx.kept hK (fun q _ hq => hq)
  · rw [updF_other _ _ _ e]; exact (h.tn i hi).kept hK (fun q _ hq => hq)
end FrsO
/-- A new block of noughts is one of frames of noughts. -/
def zeroFr : Fr := ⟨fun _ => 0, .slice none 0 0, 0, fun _ => 0⟩
theorem frs_made (N : Nat) : madeCells (rowN 29 (frC (fun _ => 0) (.slice none 0 0))) N = rowN N (frsC fun _ => zeroFr) := by
  apply Array.ext_getElem?
  intro i
  by_cases hi : i < N
  · rw [rowN_at _ _ i hi]
    have hm : i % 29 < 29 := Nat.mod_lt _ (by omega)
    simp [madeCells, hi, rowN, frsC, zeroFr, hm]
  · rw [Array.getElem?_eq_none (by rw [size_madeCells]; omega), Array.getElem?_eq_none (by rw [rowN_size]; omega)]
theorem frs_new (X : Nat → Prop) (w : World) (N : Nat) (t : TypeId) (hX : ¬ X w.heap.size) : FrsO X (w.alloc (.cells (rowN (29 * N) (frsC fun _ => zeroFr)) t)) w.heap.size N (fun _ => zeroFr) :=
  ⟨cellsV_of (heap_alloc_new _ _), hX, fun i hi => ToV.none _ _ _ _⟩

/-- A frame that a call has told lies in a new block of its own. -/
structure GotF (U : World) (nb : Nat) (x : Fr) (V : World) : Prop where
  lo : U.heap.size ≤ nb
  at_ : CellsV V nb 29 (frC x.F x.s)
  tn : ToV (fun k => k < U.heap.size) V x
  old : Old U V
theorem cellsV_all {V : World} {nb m : Nat} {C : Nat → Value} (h : CellsV V nb m C) (c : Nat → Value) : CellsV (V.setCells nb 0 (rowN m c).toList) nb m c :=
  (h.setCells 0 m (by omega) c).ext fun j hj => by unfold patchV; rw [if_pos ⟨by omega, by omega⟩, Nat.sub_zero]
theorem gotF_set {U V : World} {nb : Nat} {x : Fr} {C : Nat → Value} (hn : U.heap.size ≤ nb) (hc : CellsV V nb 29 C) (ht : ToV (fun k => k < U.heap.size ∨ k = nb) V x) (o : Old U V) : GotF U nb x (V.setCells nb 0 (rowN 29 (frC x.F x.s)).toList) := by
  have hK := Kept.setCells (X := fun q => q ≠ nb) V (b := nb) (fun e => e rfl) 0 (rowN 29 (frC x.F x.s)).toList
  exact ⟨hn, cellsV_all hc _, (ht.kept hK (fun q _ hq e => hq (.inr e))).mono (fun k _ h => .inl h), o.after (hK.mono fun k hk => hk) (fun k hk => by omega)⟩
theorem newFr (w : World) (z : Array Value) (t : TypeId) (hz : z = rowN 29 (frC (fun _ => 0) (.slice none 0 0))) : CellsV (w.alloc (.cells z t)) w.heap.size 29 (frC (fun _ => 0) (.slice none 0 0)) := by
  rw [hz]
  exact cellsV_of (heap_alloc_new _ _)
/-- The call came first, then the new block. -/
theorem gotF_call {U V : World} {x : Fr} (z : Array Value) (t : TypeId) (hz : z = rowN 29 (frC (fun _ => 0) (.slice none 0 0))) (o : Old U V) (h : ToV (fun k => k < U.heap.size) V x) : GotF U V.heap.size x ((V.alloc (.cells z t)).setCells V.heap.size 0 (rowN 29 (frC x.F x.s)).toList) :=
  gotF_set o.size (newFr V z t hz) ((h.mono (Y := fun k => k < U.heap.size ∨ k = V.heap.size) fun k hk hy => hy.elim id fun e => by omega).old (Old.alloc V _)) (o.alloc' _)
/-- The new block came first, then the call. -/
theorem gotF_alloc {U V : World} {x : Fr} (z : Array Value) (t : TypeId) (hz : z = rowN 29 (frC (fun _ => 0) (.slice none 0 0))) (o : Old (U.alloc (.cells z t)) V) (h : ToV (fun k => k < (U.alloc (.cells z t)).heap.size) V x) : GotF U U.heap.size x (V.setCells U.heap.size 0 (rowN 29 (frC x.F x.s)).toList) :=
  gotF_set (Nat.le_refl _) ((newFr U z t hz).old o) (h.mono fun k _ hy => by rw [World.size_alloc]; rcases hy with h | h <;> omega) ((Old.alloc U _).trans o)

/-- A frame out of a list of them: the operations. -/
theorem wpList_load_fr {P : Program} {ops : Array Oper} {rest : List Oper} {op : Oper} {a : Act} {w : World} {Q : Exit → Act → World → Prop} (hgd : op.guard = none) (c : Nat → Value) (ty : TypeId) (x : Operand) (ho : op.op = .load ty x)
    (b o : Nat) (hx : a.eval x = .pointer (some ⟨b, o, none⟩)) (d : TypeDesc) (hc : ∀ j, j < 29 → w.cell? ⟨b, o + j, none⟩ = some (c j))
    (hu : P.underlying ty = some d) (hd : d.isRow = true) (hi : (P.info? ty).map (·.size) = some 29) (h : wpList P ops Q rest (a.put op.dst (.agg (rowN 29 c))) w) : wpList P ops Q (op :: rest) a w :=
  wpList_plain hgd fun _ hK => wp_load_mid ty x ho b o hx (rowN 29 c).toList d (fun j v hv => by obtain ⟨hj, rfl⟩ := rowN_list_at hv; exact hc j hj) hu hd (by rw [rowN_list_len]; exact hi) (hK _ _ h)
theorem wpList_load_fr_w {P : Program} {ops : Array Oper} {rest : List Oper} {op : Oper} {a : Act} {w : World} {Q : Exit → Act → World → Prop} (hw : Region.wanted op (yielded ops a.tmps) = true) (c : Nat → Value) (ty : TypeId) (x : Operand) (ho : op.op = .load ty x)
    (b o : Nat) (hx : a.eval x = .pointer (some ⟨b, o, none⟩)) (d : TypeDesc) (hc : ∀ j, j < 29 → w.cell? ⟨b, o + j, none⟩ = some (c j))
    (hu : P.underlying ty = some d) (hd : d.isRow = true) (hi : (P.info? ty).map (·.size) = some 29) (h : wpList P ops Q rest (a.put op.dst (.agg (rowN 29 c))) w) : wpList P ops Q (op :: rest) a w :=
  wpList_step fun K hK => by
    rw [if_pos hw]
    exact wp_load_mid ty x ho b o hx (rowN 29 c).toList d (fun j v hv => by obtain ⟨hj, rfl⟩ := rowN_list_at hv; exact hc j hj) hu hd (by rw [rowN_list_len]; exact hi) (hK _ _ h)
theorem yieldsIf_load_fr {P : Program} {ops : Array Oper} {S : World → Prop} {op : Oper} {a : Act} (c : Nat → Value) (hw : Region.wanted op (yielded ops a.tmps) = true) (ty : TypeId) (x : Operand) (ho : op.op = .load ty x)
    (b o : Nat) (hx : a.eval x = .pointer (some ⟨b, o, none⟩)) (d : TypeDesc) (hS : ∀ w, S w → ∀ j, j < 29 → w.cell? ⟨b, o + j, none⟩ = some (c j))
    (hu : P.underlying ty = some d) (hd : d.isRow = true) (hi : (P.info? ty).map (·.size) = some 29) : YieldsIf P ops S op (.agg (rowN 29 c)) a :=
  yieldsIf_load_mid hw ty x ho b o hx (rowN 29 c).toList d (fun w hw' j v hv => by obtain ⟨hj, rfl⟩ := rowN_list_at hv; exact hS w hw' j hj) hu hd (by rw [rowN_list_len]; exact hi)
theorem wpList_store_fr {P : Program} {ops : Array Oper} {rest : List Oper} {op : Oper} {a : Act} {w : World} {Q : Exit → Act → World → Prop} (hgd : op.guard = none) (c : Nat → Value) (ty : TypeId) (x y : Operand) (ho : op.op = .store ty x y)
    (b o : Nat) (hx : a.eval x = .pointer (some ⟨b, o, none⟩)) (hy : a.eval y = .agg (rowN 29 c)) (ht : w.there b o 29) (hi : (P.info? ty).map (·.size) = some 29) (h1 : (rowN 29 c).all (·.oneCell') = true)
    (h : wpList P ops Q rest (a.put op.dst undef) (w.setCells b o (rowN 29 c).toList)) : wpList P ops Q (op :: rest) a w :=
  wpList_plain hgd fun _ hK => wp_store_mid ty x y ho b o (rowN 29 c) hx hy (by rw [rowN_size]; exact ht) (by rw [rowN_size]; exact hi) h1 (hK _ _ h)
end Go.Proofs.YtlcbmgbnhjgelaaGreat

