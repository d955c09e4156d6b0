/- Which frames may be: contracts of frame.nextPlace, rightTones, rightSteps, Right. -/
import Derived.Test.YtlaoamlmpdbmmaaSameL
namespace Go.Proofs.Ytlaoamlmpdbmmaa
set_option linter.unusedVariables false
set_option maxRecDepth 100000
open Go.RowKit Go.ChangeShapes Go.WideShapes

/-- The first place that a tone may have behind n others. -/
def nextI (n : Nat) (T : Nat → Int) : Int := if n = 0 then 0 else T (2 * (n - 1)) + 1
theorem nextPlace_any (p : Option Addr) (n cap : Nat) (T : Nat → Int) (w : World) (hT : SlF 2 w p n T) (hb : 0 < n → -9223372036854775808 ≤ T (2 * (n - 1)) ∧ T (2 * (n - 1)) ≤ 15) (hn : n ≤ maxLen) :
    Calls Try.prog 26 #[.slice p n cap] w fun e w' => e = .returned (.int .i64 (nextI n T)) ∧ w = w' := by
  unfold maxLen at hn
  cases n with
  | zero =>
    have HN : Hid (nextI 0 T = 0) := Lib.hid rfl
    rw [HN.out]
    clear hT hb HN
    go_enter Try.func26, Try.ntmps26
    go_wp2_with fail
    go_ret
    exact ⟨rfl, rfl⟩
  | succ m =>
    obtain ⟨g, o, rfl, hg, hc⟩ := two_cells hT (by omega)
    obtain ⟨c0, _⟩ := hc m (by omega)
    have hN : nextI (m + 1) T = T (2 * m) + 1 := by unfold nextI; rw [if_neg (by omega)]; rfl
    have hbd := hb (by omega)
    rw [show m + 1 - 1 = m by omega] at hbd
    rw [hN]
    clear hT hb hc hN
    generalize T (2 * m) = x at *
    have hm : ((m + 1 : Nat) : Int) - 1 = m := by omega
    obtain ⟨b0, b1⟩ := hbd
    go_enter Try.func26, Try.ntmps26
    go_wp2_with fail
    go_ret
    exact ⟨rfl, rfl⟩

/-- Which tones may be. -/
def tonesP (n : Nat) (T : Nat → Int) : Prop := n ≤ 2 ∧ ∀ k, k < n → 0 ≤ T (2 * k) ∧ T (2 * k) ≤ 15 ∧ fitB (T (2 * k + 1)) 24 = true ∧ (0 < k → T (2 * (k - 1)) < T (2 * k))
instance (n : Nat) (T : Nat → Int) : Decidable (tonesP n T) := by unfold tonesP; infer_instance

set_option maxRecDepth 100000 in
theorem rightTones_any (p : Option Addr) (n cap : Nat) (T : Nat → Int) (w : World) (hT : SlF 2 w p n T) (hf : Fits64 T) (hn : n ≤ cap) (hc : cap ≤ maxLen) :
    Calls Try.prog 19 #[.slice p n cap] w fun e w' => e = .returned (.bool (decide (tonesP n T))) ∧ Old w w' := by
  unfold maxLen at hc
  by_cases h2 : 2 < n
  · have hf : decide (tonesP n T) = false := by rw [decide_eq_false_iff_not]; intro h; have := h.1; omega
    rw [hf]
    clear hT hf
    go_enter Try.func19, Try.ntmps19
    go_wp2_with fail
    go_ret
    exact ⟨rfl, Old.refl _⟩
  · have h2' : n ≤ 2 := by omega
    have HT := Lib.hid hT
    have HF := Lib.hid hf
    clear hT hf h2
    go_enter Try.func19, Try.ntmps19
    go_wp2_with fail
    go_loopw [10] (fun i wr => ∃ k : Nat, k ≤ n ∧ i = .int .i64 k ∧ Hid ((∀ j, j < k → 0 ≤ T (2 * j) ∧ T (2 * j) ≤ 15 ∧ fitB (T (2 * j + 1)) 24 = true ∧ (0 < j → T (2 * (j - 1)) < T (2 * j))) ∧ Old w wr)) (fun i _ => n - (intOf i).toNat)
    case atStart => exact ⟨0, by omega, rfl, Lib.hid ⟨fun j hj => by omega, Old.refl _⟩⟩
    case round =>
      obtain ⟨k, hk, rfl, hs⟩ := hrel
      obtain ⟨hJ, hO⟩ := hs.out
      have HJ := Lib.hid hJ
      have HO := Lib.hid hO
      clear hJ hO hs
      by_cases hlt : k < n
      · have hTr := HT.out.old HO.out
        have hN : ∀ W, Old wr W → Calls Try.prog 26 #[.slice p k cap] W fun e w' => e = .returned (.int .i64 (nextI k T)) ∧ W = w' := fun W hW => by
          refine nextPlace_any p k cap T W ?_ (fun h0 => ?_) (by unfold maxLen; omega)
          · intro h0
            obtain ⟨g, o, h1, h2, h3⟩ := (hTr.old hW) (by omega)
            exact ⟨g, o, h1, h2, fun j hj => h3 j (by omega)⟩
          · have := HJ.out (k - 1) (by omega); omega
        have HN := Lib.hid (fun (o : Obj) n => hN ((wr.alloc o).drewN n) ((Old.alloc _ _).drewN _))
        have hnx : 0 ≤ nextI k T ∧ nextI k T ≤ 16 := by
          unfold nextI
          split
          · omega
          · have := HJ.out (k - 1) (by omega); omega
        have HE : Hid (tonesP n T → nextI k T ≤ T (2 * k) ∧ T (2 * k) < 16 ∧ fitB (T (2 * k + 1)) 24 = true) := Lib.hid fun h => by
          have := h.2 k hlt
          refine ⟨?_, by omega, this.2.2.1⟩
          unfold nextI
          split
          · omega
          · have := this.2.2.2 (by omega); omega
        have HS : Hid (nextI k T ≤ T (2 * k) → T (2 * k) < 16 → fitB (T (2 * k + 1)) 24 = true → ∀ j, j < k + 1 → 0 ≤ T (2 * j) ∧ T (2 * j) ≤ 15 ∧ fitB (T (2 * j + 1)) 24 = true ∧ (0 < j → T (2 * (j - 1)) < T (2 * j))) := Lib.hid fun e1 e2 e3 j hj => by
          rcases Nat.lt_succ_iff_lt_or_eq.1 hj with h | rfl
          · exact HJ.out j h
          · refine ⟨by omega, by omega, e3, fun h0 => ?_⟩
            unfold nextI at e1
            rw [if_neg (by omega)] at e1
            omega
        have hx := HF.out (2 * k)
        have hy := HF.out (2 * k + 1)
        obtain ⟨g, o, rfl, hg, hcc⟩ := two_cells hTr (by omega)
        obtain ⟨a0, a1⟩ := hcc k hlt
        clear hTr hN hcc HT HF HJ
        generalize hq : T (2 * k) = x at *
        generalize hr : T (2 * k + 1) = y at *
        generalize nextI k T = nx at *
        clear hq hr
        obtain ⟨n0, n1⟩ := hnx
        have HFit := Lib.hid (fun w => Fits_any y 24 w)
        have hkc : k ≤ cap := by omega
        by_cases e1 : x < nx
        · have HD : Hid (decide (tonesP n T) = false) := Lib.hid (by rw [decide_eq_false_iff_not]; intro h; have := HE.out h; omega)
          clear HE HS
          go_wp2_with fail
          go_quiet ((first | (go_at_call 26; exact Calls.quiet_of_same ((HN.out _ _).mono fun _ _ hh => ⟨hh.1, hh.2.symm⟩)) | (go_at_call 27; exact Calls.quiet_of_same ((HFit.out _).mono fun _ _ hh => ⟨hh.1, hh.2.symm⟩))))
          go_wp2_with fail
          go_ret
          exact ⟨by rw [HD.out]; rfl, (HO.out.alloc' _).drewN _⟩
        · have e1' : nx ≤ x := by omega
          clear e1
          by_cases e2 : 16 ≤ x
          · have HD : Hid (decide (tonesP n T) = false) := Lib.hid (by rw [decide_eq_false_iff_not]; intro h; have := HE.out h; omega)
            clear HE HS
            go_wp2_with fail
            go_quiet ((first | (go_at_call 26; exact Calls.quiet_of_same ((HN.out _ _).mono fun _ _ hh => ⟨hh.1, hh.2.symm⟩)) | (go_at_call 27; exact Calls.quiet_of_same ((HFit.out _).mono fun _ _ hh => ⟨hh.1, hh.2.symm⟩))))
            go_wp2_with fail
            go_ret
            exact ⟨by rw [HD.out]; rfl, (HO.out.alloc' _).drewN _⟩
          · have e2' : x < 16 := by omega
            clear e2
            cases e3 : fitB y 24
            case false =>
              rw [e3] at HFit
              have HD : Hid (decide (tonesP n T) = false) := Lib.hid (by rw [decide_eq_false_iff_not]; intro h; have := HE.out h; rw [this.2.2] at e3; cases e3)
              clear HE HS e3
              go_wp2_with fail
              go_quiet ((first | (go_at_call 26; exact Calls.quiet_of_same ((HN.out _ _).mono fun _ _ hh => ⟨hh.1, hh.2.symm⟩)) | (go_at_call 27; exact Calls.quiet_of_same ((HFit.out _).mono fun _ _ hh => ⟨hh.1, hh.2.symm⟩))))
              go_wp2_with fail
              go_ret
              exact ⟨by rw [HD.out]; rfl, (HO.out.alloc' _).drewN _⟩
            case true =>
              rw [e3] at HFit
              have HS2 := Lib.hid (HS.out e1' e2' e3)
              clear HS HE e3
              go_wp2_with fail
              go_quiet ((first | (go_at_call 26; exact Calls.quiet_of_same ((HN.out _ _).mono fun _ _ hh => ⟨hh.1, hh.2.symm⟩)) | (go_at_call 27; exact Calls.quiet_of_same ((HFit.out _).mono fun _ _ hh => ⟨hh.1, hh.2.symm⟩))))
              go_wp2_with fail
              go_roundw
              case rel => exact ⟨k + 1, by omega, by go_num, Lib.hid ⟨HS2.out, (HO.out.alloc' _).drewN _⟩⟩
              case measure => simp [intOf]; omega
      · obtain rfl : k = n := by omega
        have HD : Hid (decide (tonesP k T) = true) := Lib.hid (decide_eq_true ⟨h2', HJ.out⟩)
        clear HJ HT HF
        go_wp2_with fail
        go_ret
        exact ⟨by rw [HD.out]; rfl, HO.out⟩

/-- Which widths may be, and steps that fit them. -/
def stepsP (W Q : Nat → Int) : Prop := (∀ k, k < 4 → 0 ≤ W k ∧ W k ≤ 24) ∧ ∀ k, k < 16 → fitB (Q k) (W (k / 4)) = true
instance (W Q : Nat → Int) : Decidable (stepsP W Q) := by unfold stepsP; infer_instance
set_option maxRecDepth 100000 in
theorem rightSteps_any (W Q : Nat → Int) (w : World) :
    Calls Try.prog 21 #[.agg (rowN 4 (blk W)), .agg (rowN 16 (blk Q))] w fun e w' => e = .returned (.bool (decide (stepsP W Q))) ∧ Old w w' := by
  have Hs4 : Hid ((Try.prog.info? 26).map (·.size) = some 4) := Lib.hid (by kernel_rfl)
  have Hs16 : Hid ((Try.prog.info? 25).map (·.size) = some 16) := Lib.hid (by kernel_rfl)
  obtain ⟨W0, hW0⟩ : ∃ W0, W0 = ((w.alloc (.cells (rowN 4 (blk W)) 26)).alloc (.cells (rowN 16 (blk Q)) 25)) := ⟨_, rfl⟩
  have HA : Hid (((w.alloc (.cells (rowN 4 (blk W)) 26)).alloc (.cells (rowN 16 (blk Q)) 25)).heap[w.heap.size]? = some (.cells (rowN 4 (blk W)) 26 (0, 0))) := Lib.hid (heap_alloc2_old w _ _)
  have HB : Hid (W0.heap[w.heap.size + 1]? = some (.cells (rowN 16 (blk Q)) 25 (0, 0))) := Lib.hid (by rw [hW0]; exact heap_alloc2_new w _ _)
  have HA0 : Hid (W0.heap[w.heap.size]? = some (.cells (rowN 4 (blk W)) 26 (0, 0))) := Lib.hid (by rw [hW0]; exact heap_alloc2_old w _ _)
  have HC : Hid (∀ k, k < 4 → W0.cell? ⟨w.heap.size, k, none⟩ = some (.int .i64 (W k))) := Lib.hid fun k hk => (cell_of_row _ _ _ _ _ _ HA0.out).trans (blk_at 4 W k hk)
  have HO : Hid (Old w W0) := Lib.hid (by rw [hW0]; exact (Old.alloc w _).alloc' _)
  have HW := Lib.hid hW0
  clear hW0
  go_enter Try.func21, Try.ntmps21
  go_wp2_with (with_reducible refine wpList_load_row rfl 26 _ rfl w.heap.size rfl 26 (rowN 4 (blk W)) (0, 0) _ HA.out Try.underlying26 rfl (by rw [rowN_size]; exact Hs4.out) ?_)
  rw [← HW.out]
  clear HA HW
  go_loop [10] (fun i => ∃ k : Nat, k ≤ 4 ∧ i = .int .i64 k ∧ Hid (∀ j, j < k → 0 ≤ W j ∧ W j ≤ 24)) (fun i => 4 - (intOf i).toNat)
  case atStart => exact ⟨0, by omega, rfl, Lib.hid fun j hj => by omega⟩
  case round =>
    obtain ⟨k, hk, rfl, hj⟩ := hrel
    by_cases hlt : k < 4
    · have i1 : (0 : Int) ≤ k := by omega
      have i2 : (k : Int) < 4 := by omega
      have hat : ∀ w : World, (Instr.index 26 (.agg (rowN 4 (blk W))) (.int .i64 k)).run Try.prog w = .ok (.int .i64 (W k)) w := fun w => run_index_ints Try.underlying26 Try.underlying3 (fun _ => by kernel_rfl) W k hlt w
      have HN : Hid (0 ≤ W k → W k ≤ 24 → ∀ j, j < k + 1 → 0 ≤ W j ∧ W j ≤ 24) := Lib.hid fun e1 e2 j hj' => by
        rcases Nat.lt_succ_iff_lt_or_eq.1 hj' with h | rfl
        · exact hj.out j h
        · exact ⟨e1, e2⟩
      have HF : Hid (¬ (0 ≤ W k ∧ W k ≤ 24) → decide (stepsP W Q) = false) := Lib.hid fun h => by
        rw [decide_eq_false_iff_not]; exact fun h2 => h (h2.1 k hlt)
      clear hj HC HA0 HB
      generalize W k = x at *
      by_cases h1 : x < 0
      · have HD := Lib.hid (HF.out (by omega))
        clear HF HN
        go_wp2_with fail
        go_ret
        exact ⟨by rw [HD.out]; rfl, HO.out⟩
      · have h1' : 0 ≤ x := by omega
        clear h1
        by_cases h2 : 24 < x
        · have HD := Lib.hid (HF.out (by omega))
          clear HF HN
          go_wp2_with fail
          go_ret
          exact ⟨by rw [HD.out]; rfl, HO.out⟩
        · have HD := Lib.hid (HN.out h1' (by omega))
          clear HF HN
          go_wp2_with fail
          go_round
          case rel => exact ⟨k + 1, by omega, by go_num, HD⟩
          case measure => simp [intOf]; omega
    · obtain rfl : k = 4 := by omega
      have HG := hj
      clear hj hlt hk
      go_wp2_with (with_reducible refine wpList_load_row rfl 25 _ rfl (w.heap.size + 1) rfl 25 (rowN 16 (blk Q)) (0, 0) _ HB.out Try.underlying25 rfl (by rw [rowN_size]; exact Hs16.out) ?_)
      go_loop [21] (fun i => ∃ k : Nat, k ≤ 16 ∧ i = .int .i64 k ∧ Hid (∀ j, j < k → fitB (Q j) (W (j / 4)) = true)) (fun i => 16 - (intOf i).toNat)
      case atStart => exact ⟨0, by omega, rfl, Lib.hid fun j hj => by omega⟩
      case round =>
        obtain ⟨k, hk, rfl, hj⟩ := hrel
        by_cases hlt : k < 16
        · have i1 : (0 : Int) ≤ k := by omega
          have i2 : (k : Int) < 16 := by omega
          have hat : ∀ w : World, (Instr.index 25 (.agg (rowN 16 (blk Q))) (.int .i64 k)).run Try.prog w = .ok (.int .i64 (Q k)) w := fun w => run_index_ints Try.underlying25 Try.underlying2 (fun _ => by kernel_rfl) Q k hlt w
          obtain ⟨m, hm⟩ : ∃ m, k / 4 = m := ⟨_, rfl⟩
          have HBd := Lib.hid (fun w => Band_nat k m w hlt hm)
          have m0 : (0 : Int) ≤ m := by omega
          have m1 : (m : Int) < 4 := by omega
          have hc := HC.out m (by omega)
          have hFt := fun w => Fits_any (Q k) (W m) w
          have HN : Hid (fitB (Q k) (W m) = true → ∀ j, j < k + 1 → fitB (Q j) (W (j / 4)) = true) := Lib.hid fun e1 j hj' => by
            rcases Nat.lt_succ_iff_lt_or_eq.1 hj' with h | rfl
            · exact hj.out j h
            · rw [hm]; exact e1
          have HF : Hid (fitB (Q k) (W m) = false → decide (stepsP W Q) = false) := Lib.hid fun h => by
            rw [decide_eq_false_iff_not]; intro h2; have := h2.2 k hlt; rw [hm, h] at this; cases this
          clear hj HC HA0 HB HG hm
          generalize Q k = x at *
          generalize W m = y at *
          have HFt := Lib.hid hFt
          clear hFt
          cases e3 : fitB x y
          case false =>
            rw [e3] at HFt
            have HD := Lib.hid (HF.out e3)
            clear HF HN e3
            go_wp2_with fail
            refine (HBd.out _).mono ?_
            rintro e w1 ⟨rfl, rfl⟩
            go_wp2_with fail
            refine (HFt.out _).mono ?_
            rintro e w1 ⟨rfl, rfl⟩
            go_wp2_with fail
            go_ret
            exact ⟨by rw [HD.out]; rfl, HO.out⟩
          case true =>
            rw [e3] at HFt
            have HD := Lib.hid (HN.out e3)
            clear HF HN e3
            go_wp2_with fail
            refine (HBd.out _).mono ?_
            rintro e w1 ⟨rfl, rfl⟩
            go_wp2_with fail
            refine (HFt.out _).mono ?_
            rintro e w1 ⟨rfl, rfl⟩
            go_wp2_with fail
            go_round
            case rel => exact ⟨k + 1, by omega, by go_num, HD⟩
            case measure => simp [intOf]; omega
        · obtain rfl : k = 16 := by omega
          have HD : Hid (decide (stepsP W Q) = true) := Lib.hid (decide_eq_true ⟨HG.out, hj.out⟩)
          clear HG hj HC HA0 HB
          go_wp2_with fail
          go_ret
          exact ⟨by rw [HD.out]; rfl, HO.out⟩

theorem right_split (F : Nat → Int) (n : Nat) (T : Nat → Int) : decide (FrP F n T) = (decide (rightP F) && (decide (tonesP n T) && (decide (scalesP fun k => F (5 + k)) && decide (stepsP (fun k => F (9 + k)) (fun k => F (13 + k)))))) := by
  rw [Bool.eq_iff_iff]
  simp only [Bool.and_eq_true, decide_eq_true_iff]
  exact ⟨fun h => ⟨h.hg, ⟨h.hn, h.ht⟩, h.hs, h.hw, h.hq⟩, fun ⟨h1, h2, h3, h4⟩ => ⟨h1, h3, h4.1, h4.2, h2.1, h2.2⟩⟩

set_option maxRecDepth 100000 in
theorem FRight_any (F : Nat → Int) (p : Option Addr) (n cap : Nat) (T : Nat → Int) (w : World) (hT : SlF 2 w p n T) (hf : Fits64 T) (hn : n ≤ cap) (hc : cap ≤ maxLen) :
    Calls Try.prog 10 #[.agg (rowN 29 (frC F (.slice p n cap)))] w fun e w' => e = .returned (.bool (decide (FrP F n T))) ∧ Old w w' := by
  rw [right_split]
  have Hs4 : Hid ((Try.prog.info? 26).map (·.size) = some 4) := Lib.hid (by kernel_rfl)
  have Hs16 : Hid ((Try.prog.info? 25).map (·.size) = some 16) := Lib.hid (by kernel_rfl)
  have HB : Hid (FrB 33 (w.alloc (.cells (rowN 29 (frC F (.slice p n cap))) 33)) w.heap.size F (.slice p n cap)) := Lib.hid (FrB.new w F _)
  have HO : Hid (Old w (w.alloc (.cells (rowN 29 (frC F (.slice p n cap))) 33))) := Lib.hid (Old.alloc _ _)
  have H1 := Lib.hid (fun w => Right_any F w)
  have H2 := Lib.hid (fun (W : World) (h : Old w W) => rightTones_any p n cap T W (hT.old h) hf hn hc)
  have H3 := Lib.hid (fun w => SRight_any (fun k => F (5 + k)) w)
  have H4 := Lib.hid (fun w => rightSteps_any (fun k => F (9 + k)) (fun k => F (13 + k)) w)
  clear hT hf
  generalize decide (rightP F) = x1 at *
  generalize decide (tonesP n T) = x2 at *
  generalize decide (scalesP fun k => F (5 + k)) = x3 at *
  generalize decide (stepsP (fun k => F (9 + k)) (fun k => F (13 + k))) = x4 at *
  go_enter Try.func10, Try.ntmps10
  go_wp2_with (with_reducible refine wpList_load_blk rfl 4 F 26 _ rfl w.heap.size 0 rfl _ (fun j hj => by have := HB.out.part 0 4 (by omega) j hj; rwa [Nat.zero_add] at this ⊢) Try.underlying26 rfl Hs4.out ?_)
  refine (H1.out _).mono ?_
  rintro e w1 ⟨rfl, ho1⟩
  have hb1 := HB.out.old ho1
  have ho1 := HO.out.trans ho1
  have c4 := hb1.cell4.1
  have HB1 := Lib.hid hb1
  have HO1 := Lib.hid ho1
  clear hb1 ho1 HB HO H1
  cases x1
  case false =>
    go_wp2_with fail
    go_ret
    exact ⟨rfl, HO1.out⟩
  case true =>
    go_wp2_with fail
    refine (H2.out _ HO1.out).mono ?_
    rintro e w2 ⟨rfl, ho2⟩
    have HB2 := Lib.hid (HB1.out.old ho2)
    have HO2 := Lib.hid (HO1.out.trans ho2)
    clear ho2 HB1 HO1 H2 c4
    cases x2
    case false =>
      go_wp2_with fail
      go_ret
      exact ⟨rfl, HO2.out⟩
    case true =>
      go_wp2_with (with_reducible refine wpList_load_blk_w (by kernel_rfl) 4 (fun j => F (5 + j)) 26 _ rfl w.heap.size 5 rfl _ (HB2.out.part 5 4 (by omega)) Try.underlying26 rfl Hs4.out ?_)
      refine (H3.out _).mono ?_
      rintro e w3 ⟨rfl, ho3⟩
      have HB3 := Lib.hid (HB2.out.old ho3)
      have HO3 := Lib.hid (HO2.out.trans ho3)
      clear ho3 HB2 HO2 H3
      cases x3
      case false =>
        go_wp2_with fail
        go_ret
        exact ⟨rfl, HO3.out⟩
      case true =>
        go_wp2_with (first | (with_reducible refine wpList_load_blk_w (by kernel_rfl) 4 (fun j => F (9 + j)) 26 _ rfl w.heap.size 9 rfl _ (HB3.out.part 9 4 (by omega)) Try.underlying26 rfl Hs4.out ?_) | (with_reducible refine wpList_load_blk_w (by kernel_rfl) 16 (fun j => F (13 + j)) 25 _ rfl w.heap.size 13 rfl _ (HB3.out.part 13 16 (by omega)) Try.underlying25 rfl Hs16.out ?_))
        refine (H4.out _).mono ?_
        rintro e w4 ⟨rfl, ho4⟩
        have HO4 := Lib.hid (HO3.out.trans ho4)
        clear ho4
        go_wp2_with fail
        go_ret
        exact ⟨rfl, HO4.out⟩
end Go.Proofs.Ytlaoamlmpdbmmaa
