/- Which frames may be, as the law says it: calliopelaw10.right. -/
import Derived.Test.YtdiahlhfoplmjaaRightL
namespace Go.Proofs.Ytdiahlhfoplmjaa
set_option linter.unusedVariables false
open Go.RowKit Go.ChangeShapes Go.WideShapes

set_option maxRecDepth 100000 in
set_option maxHeartbeats 4000000 in
theorem right_any (F : Nat → Int) (p : Option Addr) (n cap : Nat) (T : Nat → Int) (w : World) (hT : SlF 2 w p n T) (hf : Fits64 T) (hn : n ≤ cap) (hc : cap ≤ maxLen) :
    Calls Try.prog 10 #[.agg (rowN 29 (frC F (.slice p n cap)))] w fun e w' => e = .returned (.bool (decide (FrP F n T))) ∧ Old w w' := by
  unfold maxLen at hc
  obtain ⟨W0, hW0⟩ : ∃ W0, W0 = (w.alloc (.cells (rowN 29 (frC F (.slice p n cap))) 27)) := ⟨_, rfl⟩
  have HB : Hid (FrB 27 W0 w.heap.size F (.slice p n cap)) := Lib.hid (by rw [hW0]; exact FrB.new w F _)
  have ho : Old w W0 := by rw [hW0]; exact Old.alloc _ _
  have HO := Lib.hid ho
  have HT := Lib.hid (hT.old ho)
  have HF64 := Lib.hid hf
  have HW := Lib.hid hW0
  clear hW0 ho hT hf
  go_enter Try.func10, Try.ntmps10
  go_wp2_with fail
  rw [← HW.out]
  clear HW
  go_loop [3] (fun i => ∃ k : Nat, k ≤ 4 ∧ i = .int .i64 k ∧ Hid (∀ j, j < k → (0 ≤ F j ∧ F j ≤ 3) ∧ (0 ≤ F (5 + j) ∧ F (5 + j) ≤ 23) ∧ (0 ≤ F (9 + j) ∧ F (9 + j) ≤ 24))) (fun i => 4 - (intOf i).toNat)
  case atStart => exact ⟨0, by omega, rfl, Lib.hid fun j hj => by omega⟩
  case round =>
    obtain ⟨k, hk, rfl, hj⟩ := hrel
    by_cases hlt : k < 4
    · have i1 : (0 : Int) ≤ k := by omega
      have i2 : (k : Int) < 4 := by omega
      have c0 := (HB.out.cell k (by omega) (by omega)).1
      have c1 := (HB.out.cell (5 + k) (by omega) (by omega)).1
      have c2 := (HB.out.cell (9 + k) (by omega) (by omega)).1
      have HN : Hid (0 ≤ F k → F k ≤ 3 → 0 ≤ F (5 + k) → F (5 + k) ≤ 23 → 0 ≤ F (9 + k) → F (9 + k) ≤ 24 → ∀ j, j < k + 1 → (0 ≤ F j ∧ F j ≤ 3) ∧ (0 ≤ F (5 + j) ∧ F (5 + j) ≤ 23) ∧ (0 ≤ F (9 + j) ∧ F (9 + j) ≤ 24)) := Lib.hid fun e0 e1 e2 e3 e4 e5 j hj' => by
        rcases Nat.lt_succ_iff_lt_or_eq.1 hj' with h | rfl
        · exact hj.out j h
        · exact ⟨⟨e0, e1⟩, ⟨e2, e3⟩, e4, e5⟩
      have HF : Hid (¬ ((0 ≤ F k ∧ F k ≤ 3) ∧ (0 ≤ F (5 + k) ∧ F (5 + k) ≤ 23) ∧ (0 ≤ F (9 + k) ∧ F (9 + k) ≤ 24)) → decide (FrP F n T) = false) := Lib.hid fun h => by
        rw [decide_eq_false_iff_not]; exact fun h2 => h ⟨h2.hg k hlt, h2.hs k hlt, h2.hw k hlt⟩
      clear hj HB HT HF64
      generalize F k = x at *
      generalize F (5 + k) = y at *
      generalize F (9 + k) = z at *
      by_cases h0 : x < 0
      · have HD := Lib.hid (HF.out (by omega))
        clear HF HN
        go_wp2_with fail
        go_ret
        exact ⟨by rw [HD.out]; rfl, HO.out⟩
      · have h0' : 0 ≤ x := by omega
        clear h0
        by_cases h1 : 3 < x
        · have HD := Lib.hid (HF.out (by omega))
          clear HF HN
          go_wp2_with fail
          go_ret
          exact ⟨by rw [HD.out]; rfl, HO.out⟩
        · have h1' : x ≤ 3 := by omega
          clear h1
          by_cases h2 : y < 0
          · have HD := Lib.hid (HF.out (by omega))
            clear HF HN
            go_wp2_with fail
            go_ret
            exact ⟨by rw [HD.out]; rfl, HO.out⟩
          · have h2' : 0 ≤ y := by omega
            clear h2
            by_cases h3 : 23 < y
            · have HD := Lib.hid (HF.out (by omega))
              clear HF HN
              go_wp2_with fail
              go_ret
              exact ⟨by rw [HD.out]; rfl, HO.out⟩
            · have h3' : y ≤ 23 := by omega
              clear h3
              by_cases h4 : z < 0
              · have HD := Lib.hid (HF.out (by omega))
                clear HF HN
                go_wp2_with fail
                go_ret
                exact ⟨by rw [HD.out]; rfl, HO.out⟩
              · have h4' : 0 ≤ z := by omega
                clear h4
                by_cases h5 : 24 < z
                · have HD := Lib.hid (HF.out (by omega))
                  clear HF HN
                  go_wp2_with fail
                  go_ret
                  exact ⟨by rw [HD.out]; rfl, HO.out⟩
                · have h5' : z ≤ 24 := by omega
                  clear h5
                  have HD := Lib.hid (HN.out h0' h1' h2' h3' h4' h5')
                  clear HF HN
                  go_wp2_with fail
                  go_round
                  case rel => exact ⟨k + 1, by omega, by go_num, HD⟩
                  case measure => simp [intOf]; omega
    · obtain rfl : k = 4 := by omega
      have HG := hj
      clear hj hlt hk
      go_wp2_with fail
      go_loopw [4] (fun i wr => ∃ k : Nat, k ≤ 16 ∧ i = .int .i64 k ∧ Hid ((∀ j, j < k → fitB (F (13 + j)) (F (9 + j / 4)) = true) ∧ Old W0 wr)) (fun i _ => 16 - (intOf i).toNat)
      case atStart => exact ⟨0, by omega, rfl, Lib.hid ⟨fun j hj => by omega, Old.refl _⟩⟩
      case round =>
        obtain ⟨k, hk, rfl, hs⟩ := hrel
        obtain ⟨hj, ho⟩ := hs.out
        have HJ := Lib.hid hj
        have HO1 := Lib.hid ho
        clear hj hs ho
        by_cases hlt : k < 16
        · have i1 : (0 : Int) ≤ k := by omega
          have i2 : (k : Int) < 16 := by omega
          obtain ⟨m, hm⟩ : ∃ m, k / 4 = m := ⟨_, rfl⟩
          have m0 : (0 : Int) ≤ m := by omega
          have m1 : (m : Int) < 4 := by omega
          have c0 := ((HB.out.old HO1.out).cell (13 + k) (by omega) (by omega)).1
          have c1 := ((HB.out.old HO1.out).cell (9 + m) (by omega) (by omega)).1
          have HN : Hid (fitB (F (13 + k)) (F (9 + m)) = true → ∀ j, j < k + 1 → fitB (F (13 + j)) (F (9 + j / 4)) = true) := Lib.hid fun e1 j hj' => by
            rcases Nat.lt_succ_iff_lt_or_eq.1 hj' with h | rfl
            · exact HJ.out j h
            · rw [hm]; exact e1
          have HF : Hid (fitB (F (13 + k)) (F (9 + m)) = false → decide (FrP F n T) = false) := Lib.hid fun h => by
            rw [decide_eq_false_iff_not]; intro h2; have := h2.hq k hlt; rw [hm, h] at this; cases this
          have q1 : wrap64 ((k : Int).tdiv 4) = m := by rw [Int.tdiv_eq_ediv_of_nonneg i1, IntWalk.wrap64_in _ (by omega)]; omega
          have q2 : IntKind.i64.wrap ((k : Int) / 4) = m := by rw [IntWalk.i64_in _ (by omega)]; omega
          clear HJ HB HG hm HT HF64
          generalize F (13 + k) = x at *
          generalize F (9 + m) = y at *
          have HFit := Lib.hid (fun w => Fits_any x y w)
          cases e3 : fitB x y
          case false =>
            rw [e3] at HFit
            have HD := Lib.hid (HF.out e3)
            clear HF HN e3
            go_wp2_with fail
            go_quiet ((go_at_call 28; exact Calls.quiet_of_same ((HFit.out _).mono fun _ _ hh => ⟨hh.1, hh.2.symm⟩)))
            go_wp2_with fail
            go_ret
            exact ⟨by rw [HD.out]; rfl, (HO.out.trans HO1.out).drewN _⟩
          case true =>
            rw [e3] at HFit
            have HD := Lib.hid (HN.out e3)
            clear HF HN e3
            go_wp2_with fail
            go_quiet ((go_at_call 28; exact Calls.quiet_of_same ((HFit.out _).mono fun _ _ hh => ⟨hh.1, hh.2.symm⟩)))
            go_wp2_with fail
            go_roundw
            case rel => exact ⟨k + 1, by omega, by go_num, Lib.hid ⟨HD.out, HO1.out.drewN _⟩⟩
            case measure => simp [intOf]; omega
        · obtain rfl : k = 16 := by omega
          have HB1 := Lib.hid (HB.out.old HO1.out)
          have HO2 := Lib.hid (HO.out.trans HO1.out)
          have HT1 := Lib.hid (HT.out.old HO1.out)
          have HQ := HJ
          clear hlt hk HJ HO HB HT HO1
          obtain ⟨W1, rfl⟩ : ∃ V, V = wr := ⟨_, rfl⟩
          go_wp2_with fail
          rw [show ((16 : Nat) : Int) = 16 from rfl]
          go_loopw [5] (fun i wr => ∃ k : Nat, k ≤ n ∧ i = .int .i64 k ∧ Hid ((∀ j, j < k → 0 ≤ T (2 * j) ∧ T (2 * j) ≤ 15 ∧ fitB (T (2 * j + 1)) 24 = true ∧ (0 < j → T (2 * (j - 1)) < T (2 * j))) ∧ Old W1 wr)) (fun i _ => n - (intOf i).toNat)
          case atStart => exact ⟨0, by omega, rfl, Lib.hid ⟨fun j hj => by omega, Old.refl _⟩⟩
          case round =>
            obtain ⟨k, hk, rfl, hs⟩ := hrel
            obtain ⟨hj, ho⟩ := hs.out
            have HJ := Lib.hid hj
            have HO3 := Lib.hid ho
            have HB3 := Lib.hid (HB1.out.old ho)
            have c4 := HB3.out.cell4.1
            clear hj hs ho
            by_cases hlt : k < n
            · have hT3 := HT1.out.old HO3.out
              have hf1 := HF64.out (2 * k)
              have hf2 := HF64.out (2 * k + 1)
              obtain ⟨g, o, rfl, hg, hc⟩ := two_cells hT3 (by omega)
              obtain ⟨a0, a1⟩ := hc k hlt
              have HFit := Lib.hid (fun w => Fits_any (T (2 * k + 1)) 24 w)
              cases k with
              | zero =>
                simp only [Nat.zero_mul, Nat.add_zero] at a0 a1
                have HN : Hid (0 ≤ T (2 * 0) → T (2 * 0) ≤ 15 → fitB (T (2 * 0 + 1)) 24 = true → ∀ j, j < 0 + 1 → 0 ≤ T (2 * j) ∧ T (2 * j) ≤ 15 ∧ fitB (T (2 * j + 1)) 24 = true ∧ (0 < j → T (2 * (j - 1)) < T (2 * j))) := Lib.hid fun e0 e1 e2 j hj => by
                  obtain rfl : j = 0 := by omega
                  exact ⟨e0, e1, e2, fun h => by omega⟩
                have HF : Hid (¬ (0 ≤ T (2 * 0) ∧ T (2 * 0) ≤ 15 ∧ fitB (T (2 * 0 + 1)) 24 = true ∧ True) → decide (FrP F n T) = false) := Lib.hid fun h => by
                  rw [decide_eq_false_iff_not]; intro h2; have := h2.ht 0 hlt; exact h ⟨this.1, this.2.1, this.2.2.1, trivial⟩
                clear hT3 hc HJ HB1 HT1 HB3 HG HQ HF64
                generalize T (2 * 0) = x at *
                generalize T (2 * 0 + 1) = y at *
                by_cases e0 : x < 0
                · have HD := Lib.hid (HF.out (by omega))
                  clear HF HN
                  go_wp2_with fail
                  refine wp_region_quiet_lit (by kernel_rfl) (by kernel_rfl) ?_; (iterate 30 ((with_reducible refine wpQuiet_step (fun K hK => ?_)); go_simp; (try (rw [if_neg (by simp [undef])])); (with_reducible refine hK _ ?_); clear hK K)); (with_reducible refine wpQuiet_nil ?_); intro _ hw'; obtain ⟨nq, hw''⟩ := hw'; subst hw''
                  go_wp2_with fail
                  go_ret
                  exact ⟨by rw [HD.out]; rfl, ((HO2.out.trans HO3.out).alloc' _).drewN _⟩
                · have e0' : 0 ≤ x := by omega
                  clear e0
                  by_cases e1 : 15 < x
                  · have HD := Lib.hid (HF.out (by omega))
                    clear HF HN
                    go_wp2_with fail
                    refine wp_region_quiet_lit (by kernel_rfl) (by kernel_rfl) ?_; (iterate 30 ((with_reducible refine wpQuiet_step (fun K hK => ?_)); go_simp; (try (rw [if_neg (by simp [undef])])); (with_reducible refine hK _ ?_); clear hK K)); (with_reducible refine wpQuiet_nil ?_); intro _ hw'; obtain ⟨nq, hw''⟩ := hw'; subst hw''
                    go_wp2_with fail
                    go_ret
                    exact ⟨by rw [HD.out]; rfl, ((HO2.out.trans HO3.out).alloc' _).drewN _⟩
                  · have e1' : x ≤ 15 := by omega
                    clear e1
                    cases e3 : fitB y 24
                    case false =>
                      rw [e3] at HFit
                      have HD := Lib.hid (HF.out (by rintro ⟨_, _, h, _⟩; rw [e3] at h; cases h))
                      clear HF HN e3
                      go_wp2_with fail
                      refine wp_region_quiet_lit (by kernel_rfl) (by kernel_rfl) ?_; (iterate 11 ((with_reducible refine wpQuiet_step (fun K hK => ?_)); go_simp; (try (rw [if_neg (by simp [undef])])); (with_reducible refine hK _ ?_); clear hK K)); (with_reducible refine wpQuiet_step (fun K hK => ?_)); go_simp; apply Exists.intro; refine ⟨fun _ => ?_, hK _ ?_⟩; (go_at_call 28; exact Calls.quiet_of_same ((HFit.out _).mono fun _ _ hh => ⟨hh.1, hh.2.symm⟩)); clear hK K; (iterate 18 ((with_reducible refine wpQuiet_step (fun K hK => ?_)); go_simp; (try (rw [if_neg (by simp [undef])])); (with_reducible refine hK _ ?_); clear hK K)); (with_reducible refine wpQuiet_nil ?_); intro _ hw'; obtain ⟨nq, hw''⟩ := hw'; subst hw''
                      go_wp2_with fail
                      go_ret
                      exact ⟨by rw [HD.out]; rfl, ((HO2.out.trans HO3.out).alloc' _).drewN _⟩
                    case true =>
                      rw [e3] at HFit
                      have HD := Lib.hid (HN.out e0' e1' e3)
                      clear HF HN e3
                      go_wp2_with fail
                      refine wp_region_quiet_lit (by kernel_rfl) (by kernel_rfl) ?_; (iterate 11 ((with_reducible refine wpQuiet_step (fun K hK => ?_)); go_simp; (try (rw [if_neg (by simp [undef])])); (with_reducible refine hK _ ?_); clear hK K)); (with_reducible refine wpQuiet_step (fun K hK => ?_)); go_simp; apply Exists.intro; refine ⟨fun _ => ?_, hK _ ?_⟩; (go_at_call 28; exact Calls.quiet_of_same ((HFit.out _).mono fun _ _ hh => ⟨hh.1, hh.2.symm⟩)); clear hK K; (iterate 18 ((with_reducible refine wpQuiet_step (fun K hK => ?_)); go_simp; (try (rw [if_neg (by simp [undef])])); (with_reducible refine hK _ ?_); clear hK K)); (with_reducible refine wpQuiet_nil ?_); intro _ hw'; obtain ⟨nq, hw''⟩ := hw'; subst hw''
                      go_wp2_with fail
                      go_roundw
                      case rel => exact ⟨0 + 1, by omega, by go_num, Lib.hid ⟨HD.out, (HO3.out.alloc' _).drewN _⟩⟩
                      case measure => simp [intOf]; omega
              | succ m =>
                obtain ⟨p0, p1⟩ := hc m (by omega)
                have p2 : ∀ v, (wr.alloc v).cell? ⟨g, o + m * 2, none⟩ = some (.int .i64 (T (2 * m))) := fun v => (World.cell?_of_block (a := ⟨g, o + m * 2, none⟩) (Below.heap_alloc wr v g hg)).trans p0
                have p3 : ∀ v, (wr.alloc v).cell? ⟨w.heap.size, 4, none⟩ = some (.slice (some ⟨g, o, none⟩) n cap) := fun v => (HB3.out.old (Old.alloc _ _)).cell4.1
                have HN : Hid (0 ≤ T (2 * (m + 1)) → T (2 * (m + 1)) ≤ 15 → fitB (T (2 * (m + 1) + 1)) 24 = true → T (2 * m) < T (2 * (m + 1)) → ∀ j, j < m + 1 + 1 → 0 ≤ T (2 * j) ∧ T (2 * j) ≤ 15 ∧ fitB (T (2 * j + 1)) 24 = true ∧ (0 < j → T (2 * (j - 1)) < T (2 * j))) := Lib.hid fun e0 e1 e2 e3 j hj => by
                  rcases Nat.lt_succ_iff_lt_or_eq.1 hj with h | rfl
                  · exact HJ.out j h
                  · exact ⟨e0, e1, e2, fun _ => e3⟩
                have HF : Hid (¬ (0 ≤ T (2 * (m + 1)) ∧ T (2 * (m + 1)) ≤ 15 ∧ fitB (T (2 * (m + 1) + 1)) 24 = true ∧ T (2 * m) < T (2 * (m + 1))) → decide (FrP F n T) = false) := Lib.hid fun h => by
                  rw [decide_eq_false_iff_not]; intro h2; have := h2.ht (m + 1) hlt; exact h ⟨this.1, this.2.1, this.2.2.1, this.2.2.2 (by omega)⟩
                have hf3 := HF64.out (2 * m)
                clear hT3 hc HJ HB1 HT1 HB3 HG HQ HF64 p0 p1
                generalize T (2 * (m + 1)) = x at *
                generalize T (2 * (m + 1) + 1) = y at *
                generalize T (2 * m) = z at *
                have m1 : (0 : Int) < ((m + 1 : Nat) : Int) := by omega
                have q1 : IntKind.i64.wrap (((m + 1 : Nat) : Int) - 1) = m := by rw [IntWalk.i64_in _ (by omega)]; omega
                have q3 : IntKind.i64.wrap (m : Int) = m := IntWalk.i64_in _ (by omega)
                have m2 : (0 : Int) ≤ m := by omega
                have m3 : (m : Int) < n := by omega
                have q2 : wrap64 (((m + 1 : Nat) : Int) - 1) = m := by rw [IntWalk.wrap64_in _ (by omega)]; omega
                by_cases e0 : x < 0
                · have HD := Lib.hid (HF.out (by omega))
                  clear HF HN
                  go_wp2_with fail
                  refine wp_region_quiet_lit (by kernel_rfl) (by kernel_rfl) ?_; (iterate 30 ((with_reducible refine wpQuiet_step (fun K hK => ?_)); go_simp; (try (rw [if_neg (by simp [undef])])); (with_reducible refine hK _ ?_); clear hK K)); (with_reducible refine wpQuiet_nil ?_); intro _ hw'; obtain ⟨nq, hw''⟩ := hw'; subst hw''
                  go_wp2_with fail
                  go_ret
                  exact ⟨by rw [HD.out]; rfl, ((HO2.out.trans HO3.out).alloc' _).drewN _⟩
                · have e0' : 0 ≤ x := by omega
                  clear e0
                  by_cases e1 : 15 < x
                  · have HD := Lib.hid (HF.out (by omega))
                    clear HF HN
                    go_wp2_with fail
                    refine wp_region_quiet_lit (by kernel_rfl) (by kernel_rfl) ?_; (iterate 30 ((with_reducible refine wpQuiet_step (fun K hK => ?_)); go_simp; (try (rw [if_neg (by simp [undef])])); (with_reducible refine hK _ ?_); clear hK K)); (with_reducible refine wpQuiet_nil ?_); intro _ hw'; obtain ⟨nq, hw''⟩ := hw'; subst hw''
                    go_wp2_with fail
                    go_ret
                    exact ⟨by rw [HD.out]; rfl, ((HO2.out.trans HO3.out).alloc' _).drewN _⟩
                  · have e1' : x ≤ 15 := by omega
                    clear e1
                    cases e3 : fitB y 24
                    case false =>
                      rw [e3] at HFit
                      have HD := Lib.hid (HF.out (by rintro ⟨_, _, h, _⟩; rw [e3] at h; cases h))
                      clear HF HN e3
                      go_wp2_with fail
                      refine wp_region_quiet_lit (by kernel_rfl) (by kernel_rfl) ?_; (iterate 11 ((with_reducible refine wpQuiet_step (fun K hK => ?_)); go_simp; (try (rw [if_neg (by simp [undef])])); (with_reducible refine hK _ ?_); clear hK K)); (with_reducible refine wpQuiet_step (fun K hK => ?_)); go_simp; apply Exists.intro; refine ⟨fun _ => ?_, hK _ ?_⟩; (go_at_call 28; exact Calls.quiet_of_same ((HFit.out _).mono fun _ _ hh => ⟨hh.1, hh.2.symm⟩)); clear hK K; (iterate 18 ((with_reducible refine wpQuiet_step (fun K hK => ?_)); go_simp; (try (rw [if_neg (by simp [undef])])); (with_reducible refine hK _ ?_); clear hK K)); (with_reducible refine wpQuiet_nil ?_); intro _ hw'; obtain ⟨nq, hw''⟩ := hw'; subst hw''
                      go_wp2_with fail
                      go_ret
                      exact ⟨by rw [HD.out]; rfl, ((HO2.out.trans HO3.out).alloc' _).drewN _⟩
                    case true =>
                      rw [e3] at HFit
                      by_cases e4 : x ≤ z
                      · have HD := Lib.hid (HF.out (by omega))
                        clear HF HN e3
                        go_wp2_with fail
                        refine wp_region_quiet_lit (by kernel_rfl) (by kernel_rfl) ?_; (iterate 11 ((with_reducible refine wpQuiet_step (fun K hK => ?_)); go_simp; (try (rw [if_neg (by simp [undef])])); (with_reducible refine hK _ ?_); clear hK K)); (with_reducible refine wpQuiet_step (fun K hK => ?_)); go_simp; apply Exists.intro; refine ⟨fun _ => ?_, hK _ ?_⟩; (go_at_call 28; exact Calls.quiet_of_same ((HFit.out _).mono fun _ _ hh => ⟨hh.1, hh.2.symm⟩)); clear hK K; (iterate 18 ((with_reducible refine wpQuiet_step (fun K hK => ?_)); go_simp; (try (rw [if_neg (by simp [undef])])); (with_reducible refine hK _ ?_); clear hK K)); (with_reducible refine wpQuiet_nil ?_); intro _ hw'; obtain ⟨nq, hw''⟩ := hw'; subst hw''
                        go_wp2_with fail
                        go_ret
                        exact ⟨by rw [HD.out]; rfl, ((HO2.out.trans HO3.out).alloc' _).drewN _⟩
                      · have e4' : z < x := by omega
                        clear e4
                        have HD := Lib.hid (HN.out e0' e1' e3 e4')
                        clear HF HN e3
                        go_wp2_with fail
                        refine wp_region_quiet_lit (by kernel_rfl) (by kernel_rfl) ?_; (iterate 11 ((with_reducible refine wpQuiet_step (fun K hK => ?_)); go_simp; (try (rw [if_neg (by simp [undef])])); (with_reducible refine hK _ ?_); clear hK K)); (with_reducible refine wpQuiet_step (fun K hK => ?_)); go_simp; apply Exists.intro; refine ⟨fun _ => ?_, hK _ ?_⟩; (go_at_call 28; exact Calls.quiet_of_same ((HFit.out _).mono fun _ _ hh => ⟨hh.1, hh.2.symm⟩)); clear hK K; (iterate 18 ((with_reducible refine wpQuiet_step (fun K hK => ?_)); go_simp; (try (rw [if_neg (by simp [undef])])); (with_reducible refine hK _ ?_); clear hK K)); (with_reducible refine wpQuiet_nil ?_); intro _ hw'; obtain ⟨nq, hw''⟩ := hw'; subst hw''
                        go_wp2_with fail
                        go_roundw
                        case rel => exact ⟨(m + 1) + 1, by omega, by go_num, Lib.hid ⟨HD.out, (HO3.out.alloc' _).drewN _⟩⟩
                        case measure => simp [intOf]; omega
            · obtain rfl : k = n := by omega
              have HD : Hid (decide (FrP F k T) = decide ((k : Int) ≤ 2)) := Lib.hid (by
                rw [Bool.eq_iff_iff, decide_eq_true_iff, decide_eq_true_iff]
                exact ⟨fun h => by have := h.hn; omega, fun h => ⟨fun j hj => (HG.out j hj).1, fun j hj => (HG.out j hj).2.1, fun j hj => (HG.out j hj).2.2, HQ.out, by omega, HJ.out⟩⟩)
              clear HJ HB1 HT1 HB3 HG HQ HF64
              go_wp2_with fail
              go_ret
              exact ⟨by rw [HD.out]; rfl, HO2.out.trans HO3.out⟩
end Go.Proofs.Ytdiahlhfoplmjaa
