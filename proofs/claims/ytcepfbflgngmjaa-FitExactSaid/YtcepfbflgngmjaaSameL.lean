/- Frames compared: contracts of slices.Equal at []api.Tone, frame.Same. -/
import Derived.Test.YtcepfbflgngmjaaTwoL
import Derived.Test.YtcepfbflgngmjaaFrameA
namespace Go.Proofs.Ytcepfbflgngmjaa
set_option linter.unusedVariables false
set_option maxRecDepth 100000
open Go.RowKit Go.ChangeShapes Go.WideShapes

theorem wpList_load_blk_w {P : Program} {ops : Array Oper} {rest : List Oper} {o : Oper} {a : Act} {w : World} {Q : Exit → Act → World → Prop} (hw : Region.wanted o (yielded ops a.tmps) = true) (n : Nat) (f : Nat → Int) (ty : TypeId) (x : Operand) (ho : o.op = .load ty x)
    (b i : Nat) (hx : a.eval x = .pointer (some ⟨b, i, none⟩)) (d : TypeDesc) (hc : ∀ j, j < n → w.cell? ⟨b, i + j, none⟩ = some (.int .i64 (f j)))
    (hu : P.underlying ty = some d) (hd : d.isRow = true) (hi : (P.info? ty).map (·.size) = some n) (h : wpList P ops Q rest (a.put o.dst (.agg (rowN n (blk f)))) w) : wpList P ops Q (o :: rest) a w :=
  wpList_step fun K hK => by
    rw [if_pos hw]
    exact wp_load_blk n f ty x ho b i hx d hc hu hd hi (hK _ _ h)

/-- Are n tones and m others the same? -/
def tonesB (n m : Nat) (T U : Nat → Int) : Bool := decide (n = m ∧ ∀ j, j < 2 * n → T j = U j)
set_option maxRecDepth 100000 in
theorem Equal_any (p q : Option Addr) (n m cap cap' : Nat) (T U : Nat → Int) (w : World) (hT : SlF 2 w p n T) (hU : SlF 2 w q m U) (hn : n ≤ maxLen) (hm : m ≤ maxLen) :
    Calls Try.prog 30 #[.slice p n cap, .slice q m cap'] w fun e w' => e = .returned (.bool (tonesB n m T U)) ∧ ∃ d, w' = w.drewN d := by
  unfold maxLen at hn hm
  by_cases hnm : n = m
  · subst hnm
    have HT := Lib.hid hT
    have HU := Lib.hid hU
    clear hT hU
    go_enter Try.func30, Try.ntmps30
    go_wp2_with fail
    go_loopw [13] (fun i wr => ∃ k : Nat, k ≤ n ∧ i = .int .i64 k ∧ Hid ((∀ j, j < 2 * k → T j = U j) ∧ ∃ d, wr = w.drewN d)) (fun i _ => n - (intOf i).toNat)
    case atStart => exact ⟨0, by omega, rfl, Lib.hid ⟨fun j hj => by omega, 0, rfl⟩⟩
    case round =>
      obtain ⟨k, hk, rfl, hs⟩ := hrel
      by_cases hlt : k < n
      · obtain ⟨d, rfl⟩ := hs.out.2
        have HJ := Lib.hid hs.out.1
        obtain ⟨g, o, rfl, hg, hc⟩ := two_cells HT.out (by omega)
        obtain ⟨g', o', rfl, hg', hc'⟩ := two_cells HU.out (by omega)
        obtain ⟨a0, a1⟩ := hc k hlt
        obtain ⟨b0, b1⟩ := hc' k hlt
        have hE := fun w => neq_tone w (T (2 * k)) (T (2 * k + 1)) (U (2 * k)) (U (2 * k + 1))
        have HN : Hid (T (2 * k) = U (2 * k) ∧ T (2 * k + 1) = U (2 * k + 1) → ∀ j, j < 2 * (k + 1) → T j = U j) := Lib.hid fun h j hj => by
          by_cases e0 : j = 2 * k
          · rw [e0]; exact h.1
          · by_cases e1 : j = 2 * k + 1
            · rw [e1]; exact h.2
            · exact HJ.out j (by omega)
        have HF : Hid (¬ (T (2 * k) = U (2 * k) ∧ T (2 * k + 1) = U (2 * k + 1)) → tonesB n n T U = false) := Lib.hid fun h => by
          unfold tonesB
          rw [decide_eq_false_iff_not]
          rintro ⟨_, h2⟩
          exact h ⟨h2 _ (by omega), h2 _ (by omega)⟩
        clear hs hc hc' HT HU HJ
        generalize T (2 * k) = x at *
        generalize T (2 * k + 1) = y at *
        generalize U (2 * k) = x' at *
        generalize U (2 * k + 1) = y' at *
        by_cases he : x = x' ∧ y = y'
        · rw [decide_eq_true he] at hE
          have HD := Lib.hid (HN.out he)
          clear HN HF he
          go_wp2_with fail
          go_quiet (fail)
          go_wp2_with fail
          go_roundw
          case rel => exact ⟨k + 1, by omega, by go_num, Lib.hid ⟨HD.out, _, rfl⟩⟩
          case measure => simp [intOf]; omega
        · rw [decide_eq_false he] at hE
          have HD := Lib.hid (HF.out he)
          clear HN HF he
          go_wp2_with fail
          go_quiet (fail)
          go_wp2_with fail
          go_ret
          exact ⟨by rw [HD.out]; rfl, _, World.drewN_drewN ..⟩
      · obtain rfl : k = n := by omega
        obtain ⟨d, rfl⟩ := hs.out.2
        have ht : tonesB k k T U = true := decide_eq_true ⟨rfl, hs.out.1⟩
        have HD := Lib.hid ht
        clear hs HT HU ht
        go_wp2_with fail
        go_ret
        exact ⟨by rw [HD.out]; rfl, _, rfl⟩
  · have hf : tonesB n m T U = false := by unfold tonesB; rw [decide_eq_false_iff_not]; exact fun h => hnm h.1
    rw [hf]
    clear hT hU hf
    have hnm' : ¬ ((n : Int) = m) := by omega
    go_enter Try.func30, Try.ntmps30
    go_wp2_with fail
    go_ret
    exact ⟨rfl, 0, rfl⟩

theorem same_split (F G : Nat → Int) (n m : Nat) (T U : Nat → Int) : decide (sameP F n T G m U) = (eqB 4 F G && (tonesB n m T U && (eqB 4 (fun j => F (5 + j)) (fun j => G (5 + j)) && (eqB 4 (fun j => F (9 + j)) (fun j => G (9 + j)) && eqB 16 (fun j => F (13 + j)) (fun j => G (13 + j)))))) := by
  rw [Bool.eq_iff_iff, decide_eq_true_iff]
  simp only [Bool.and_eq_true, eqB_true, decide_eq_true_eq, tonesB]
  unfold sameP
  constructor
  · rintro ⟨h1, h2, h3⟩
    exact ⟨fun k hk => h3 k (by omega) (by omega), ⟨h1, h2⟩, fun k hk => h3 _ (by omega) (by omega), fun k hk => h3 _ (by omega) (by omega), fun k hk => h3 _ (by omega) (by omega)⟩
  · rintro ⟨h0, ⟨h1, h2⟩, h3, h4, h5⟩
    refine ⟨h1, h2, fun k hk hk4 => ?_⟩
    by_cases k4 : k < 4
    · exact h0 k k4
    by_cases k9 : k < 9
    · have := h3 (k - 5) (by omega)
      rwa [show 5 + (k - 5) = k by omega] at this
    by_cases k13 : k < 13
    · have := h4 (k - 9) (by omega)
      rwa [show 9 + (k - 9) = k by omega] at this
    · have := h5 (k - 13) (by omega)
      rwa [show 13 + (k - 13) = k by omega] at this
theorem eq_four {P : Program} (F G : Nat → Int) (w : World) : (binOp .eql 24 (.agg (rowN 4 (blk F))) (.agg (rowN 4 (blk G)))).run Try.prog w = .ok (.bool (eqB 4 F G)) w :=
  eql_ints Try.underlying24 Try.underlying3 (by kernel_rfl) (by kernel_rfl) F G w
theorem eq_sixteen {P : Program} (F G : Nat → Int) (w : World) : (binOp .eql 23 (.agg (rowN 16 (blk F))) (.agg (rowN 16 (blk G)))).run Try.prog w = .ok (.bool (eqB 16 F G)) w :=
  eql_ints Try.underlying23 Try.underlying2 (by kernel_rfl) (by kernel_rfl) F G w
/-- Two boxes of frames. -/
theorem two_frames (t : TypeId) (w : World) (F G : Nat → Int) (s s' : Value) : FrB t ((w.alloc (.cells (rowN 29 (frC F s)) t)).alloc (.cells (rowN 29 (frC G s')) t)) w.heap.size F s ∧ FrB t ((w.alloc (.cells (rowN 29 (frC F s)) t)).alloc (.cells (rowN 29 (frC G s')) t)) (w.heap.size + 1) G s' ∧ Old w ((w.alloc (.cells (rowN 29 (frC F s)) t)).alloc (.cells (rowN 29 (frC G s')) t)) :=
  ⟨heap_alloc2_old w _ _, heap_alloc2_new w _ _, (Old.alloc w _).alloc' _⟩

set_option maxRecDepth 100000 in
set_option maxHeartbeats 1000000 in
theorem Same_any (F G : Nat → Int) (p q : Option Addr) (n m cap cap' : Nat) (T U : Nat → Int) (w : World) (hT : SlF 2 w p n T) (hU : SlF 2 w q m U) (hn : n ≤ maxLen) (hm : m ≤ maxLen) :
    Calls Try.prog 12 #[.agg (rowN 29 (frC F (.slice p n cap))), .agg (rowN 29 (frC G (.slice q m cap')))] w fun e w' => e = .returned (.bool (decide (sameP F n T G m U))) ∧ Old w w' := by
  rw [same_split]
  have Hs4 : Hid ((Try.prog.info? 24).map (·.size) = some 4) := Lib.hid (by kernel_rfl)
  have Hs16 : Hid ((Try.prog.info? 23).map (·.size) = some 16) := Lib.hid (by kernel_rfl)
  have r4 : (rowN 29 (frC F (.slice p n cap)))[4]? = some (.slice p n cap) := rowN_at 29 (frC F (.slice p n cap)) 4 (by omega)
  have r4' : (rowN 29 (frC G (.slice q m cap')))[4]? = some (.slice q m cap') := rowN_at 29 (frC G (.slice q m cap')) 4 (by omega)
  have h0 := two_frames 29 w F G (.slice p n cap) (.slice q m cap')
  have HA := Lib.hid h0.1
  have HB := Lib.hid h0.2.1
  have HO := Lib.hid h0.2.2
  have HE := Lib.hid (Equal_any p q n m cap cap' T U ((w.alloc (.cells (rowN 29 (frC F (.slice p n cap))) 29)).alloc (.cells (rowN 29 (frC G (.slice q m cap'))) 29)) (hT.old h0.2.2) (hU.old h0.2.2) hn hm)
  have e1 := fun w => eq_four (P := Try.prog) F G w
  have e2 := fun w => eq_four (P := Try.prog) (fun j => F (5 + j)) (fun j => G (5 + j)) w
  have e3 := fun w => eq_four (P := Try.prog) (fun j => F (9 + j)) (fun j => G (9 + j)) w
  have e4 := fun w => eq_sixteen (P := Try.prog) (fun j => F (13 + j)) (fun j => G (13 + j)) w
  clear h0 hT hU
  generalize eqB 4 F G = x1 at *
  generalize tonesB n m T U = xt at *
  generalize eqB 4 (fun j => F (5 + j)) (fun j => G (5 + j)) = x2 at *
  generalize eqB 4 (fun j => F (9 + j)) (fun j => G (9 + j)) = x3 at *
  generalize eqB 16 (fun j => F (13 + j)) (fun j => G (13 + j)) = x4 at *
  cases x1
  · go_enter Try.func12, Try.ntmps12
    go_wp2_with (first | (with_reducible refine wpList_load_blk rfl 4 (F) 24 _ rfl (w.heap.size) 0 rfl _ (fun j hj => by have := HA.out.part 0 4 (by omega) j hj; rwa [Nat.zero_add] at this ⊢) Try.underlying24 rfl Hs4.out ?_) | (with_reducible refine wpList_load_blk rfl 4 (G) 24 _ rfl (w.heap.size + 1) 0 rfl _ (fun j hj => by have := HB.out.part 0 4 (by omega) j hj; rwa [Nat.zero_add] at this ⊢) Try.underlying24 rfl Hs4.out ?_))
    go_ret
    exact ⟨rfl, HO.out⟩
  · go_enter Try.func12, Try.ntmps12
    go_wp2_with (first | (with_reducible refine wpList_load_blk rfl 4 (F) 24 _ rfl (w.heap.size) 0 rfl _ (fun j hj => by have := HA.out.part 0 4 (by omega) j hj; rwa [Nat.zero_add] at this ⊢) Try.underlying24 rfl Hs4.out ?_) | (with_reducible refine wpList_load_blk rfl 4 (G) 24 _ rfl (w.heap.size + 1) 0 rfl _ (fun j hj => by have := HB.out.part 0 4 (by omega) j hj; rwa [Nat.zero_add] at this ⊢) Try.underlying24 rfl Hs4.out ?_))
    refine HE.out.mono ?_
    rintro e w1 ⟨rfl, hd⟩
    have ho : Old ((w.alloc (.cells (rowN 29 (frC F (.slice p n cap))) 29)).alloc (.cells (rowN 29 (frC G (.slice q m cap'))) 29)) w1 := by obtain ⟨d, rfl⟩ := hd; exact (Old.refl _).drewN d
    have HA1 := Lib.hid (HA.out.old ho)
    have HB1 := Lib.hid (HB.out.old ho)
    have HO1 := Lib.hid (HO.out.trans ho)
    clear hd ho HA HB HO HE
    cases xt
    · go_wp2_with fail
      go_ret
      exact ⟨rfl, HO1.out⟩
    · cases x2
      · go_wp2_with (first | (with_reducible refine wpList_load_blk_w (by kernel_rfl) 4 (fun j => F (5 + j)) 24 _ rfl (w.heap.size) 5 rfl _ (HA1.out.part 5 4 (by omega)) Try.underlying24 rfl Hs4.out ?_) | (with_reducible refine wpList_load_blk_w (by kernel_rfl) 4 (fun j => G (5 + j)) 24 _ rfl (w.heap.size + 1) 5 rfl _ (HB1.out.part 5 4 (by omega)) Try.underlying24 rfl Hs4.out ?_) | (with_reducible refine wpList_load_blk_w (by kernel_rfl) 4 (fun j => F (9 + j)) 24 _ rfl (w.heap.size) 9 rfl _ (HA1.out.part 9 4 (by omega)) Try.underlying24 rfl Hs4.out ?_) | (with_reducible refine wpList_load_blk_w (by kernel_rfl) 4 (fun j => G (9 + j)) 24 _ rfl (w.heap.size + 1) 9 rfl _ (HB1.out.part 9 4 (by omega)) Try.underlying24 rfl Hs4.out ?_) | (with_reducible refine wpList_load_blk_w (by kernel_rfl) 16 (fun j => F (13 + j)) 23 _ rfl (w.heap.size) 13 rfl _ (HA1.out.part 13 16 (by omega)) Try.underlying23 rfl Hs16.out ?_) | (with_reducible refine wpList_load_blk_w (by kernel_rfl) 16 (fun j => G (13 + j)) 23 _ rfl (w.heap.size + 1) 13 rfl _ (HB1.out.part 13 16 (by omega)) Try.underlying23 rfl Hs16.out ?_))
        go_ret
        exact ⟨rfl, HO1.out⟩
      · cases x3
        · go_wp2_with (first | (with_reducible refine wpList_load_blk_w (by kernel_rfl) 4 (fun j => F (5 + j)) 24 _ rfl (w.heap.size) 5 rfl _ (HA1.out.part 5 4 (by omega)) Try.underlying24 rfl Hs4.out ?_) | (with_reducible refine wpList_load_blk_w (by kernel_rfl) 4 (fun j => G (5 + j)) 24 _ rfl (w.heap.size + 1) 5 rfl _ (HB1.out.part 5 4 (by omega)) Try.underlying24 rfl Hs4.out ?_) | (with_reducible refine wpList_load_blk_w (by kernel_rfl) 4 (fun j => F (9 + j)) 24 _ rfl (w.heap.size) 9 rfl _ (HA1.out.part 9 4 (by omega)) Try.underlying24 rfl Hs4.out ?_) | (with_reducible refine wpList_load_blk_w (by kernel_rfl) 4 (fun j => G (9 + j)) 24 _ rfl (w.heap.size + 1) 9 rfl _ (HB1.out.part 9 4 (by omega)) Try.underlying24 rfl Hs4.out ?_) | (with_reducible refine wpList_load_blk_w (by kernel_rfl) 16 (fun j => F (13 + j)) 23 _ rfl (w.heap.size) 13 rfl _ (HA1.out.part 13 16 (by omega)) Try.underlying23 rfl Hs16.out ?_) | (with_reducible refine wpList_load_blk_w (by kernel_rfl) 16 (fun j => G (13 + j)) 23 _ rfl (w.heap.size + 1) 13 rfl _ (HB1.out.part 13 16 (by omega)) Try.underlying23 rfl Hs16.out ?_))
          go_ret
          exact ⟨rfl, HO1.out⟩
        · go_wp2_with (first | (with_reducible refine wpList_load_blk_w (by kernel_rfl) 4 (fun j => F (5 + j)) 24 _ rfl (w.heap.size) 5 rfl _ (HA1.out.part 5 4 (by omega)) Try.underlying24 rfl Hs4.out ?_) | (with_reducible refine wpList_load_blk_w (by kernel_rfl) 4 (fun j => G (5 + j)) 24 _ rfl (w.heap.size + 1) 5 rfl _ (HB1.out.part 5 4 (by omega)) Try.underlying24 rfl Hs4.out ?_) | (with_reducible refine wpList_load_blk_w (by kernel_rfl) 4 (fun j => F (9 + j)) 24 _ rfl (w.heap.size) 9 rfl _ (HA1.out.part 9 4 (by omega)) Try.underlying24 rfl Hs4.out ?_) | (with_reducible refine wpList_load_blk_w (by kernel_rfl) 4 (fun j => G (9 + j)) 24 _ rfl (w.heap.size + 1) 9 rfl _ (HB1.out.part 9 4 (by omega)) Try.underlying24 rfl Hs4.out ?_) | (with_reducible refine wpList_load_blk_w (by kernel_rfl) 16 (fun j => F (13 + j)) 23 _ rfl (w.heap.size) 13 rfl _ (HA1.out.part 13 16 (by omega)) Try.underlying23 rfl Hs16.out ?_) | (with_reducible refine wpList_load_blk_w (by kernel_rfl) 16 (fun j => G (13 + j)) 23 _ rfl (w.heap.size + 1) 13 rfl _ (HB1.out.part 13 16 (by omega)) Try.underlying23 rfl Hs16.out ?_))
          go_ret
          exact ⟨rfl, HO1.out⟩
end Go.Proofs.Ytcepfbflgngmjaa
