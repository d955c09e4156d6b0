/- What the laws of stage 11 call: is. -/
import Derived.Test.YteihhpionhllfaaToneA
import Derived.Test.YteihhpionhllfaaNearL
import Derived.BigQuiet
namespace Go.Proofs.Yteihhpionhllfaa
set_option linter.unusedVariables false
open Go.RowKit Go.ChangeShapes Go.WideShapes

theorem near_64 {f : Nat → Int} (h : nearP f) (k : Nat) (hk : k < 16) : -9223372036854775808 ≤ f k ∧ f k ≤ 9223372036854775807 ∧ f k ≠ -9223372036854775808 := by
  have := h k hk
  omega
set_option maxRecDepth 100000 in
set_option maxHeartbeats 4000000 in
theorem is_any (f : Nat → Int) (hn : nearP f) (i : Int) (w : World) (h1 : -9223372036854775808 ≤ i) (h2 : i ≤ 9223372036854775807) :
    Calls Try.prog 9 #[.agg (rowN 16 (blk f)), .int .i64 i] w fun e w' => e = .returned (.bool (decide (isI f i))) ∧ Old w w' := by
  by_cases hp : 0 ≤ i ∧ i < 16
  · obtain ⟨k, rfl⟩ : ∃ k : Nat, i = k := ⟨i.toNat, by omega⟩
    have hk : k < 16 := by omega
    have k0 : (0 : Int) ≤ k := by omega
    have k1 : (k : Int) < 16 := by omega
    obtain ⟨b1, b2, b3⟩ := near_64 hn k hk
    rw [isI_nat]
    have g1 : decide ((k : Int) < 0) = false := by simp
    have g2 : decide (15 < (k : Int)) = false := by simp; omega
    have HX := Lib.hid (fun w => size_any (f k) w b1 b2 b3)
    have hab := absI_bd (f k) b1 b2
    have hc : ∀ j, j < 16 → (w.alloc (.cells (rowN 16 (blk f)) 23)).cell? ⟨w.heap.size, j, none⟩ = some (.int .i64 (f j)) := fun j hj => cell_new w 16 _ (blk f) j hj
    have HC := Lib.hid hc
    have HO : Hid (Old w (w.alloc (.cells (rowN 16 (blk f)) 23))) := Old.alloc w _
    have ck := hc k hk
    have HN := Lib.hid hn
    clear hc hn b1 b2 b3 hp h1 h2
    by_cases c : absI (f k) < 64
    · have hd : decide (isT f k) = false := decide_eq_false fun h => by have := h.2.1; omega
      have HD := Lib.hid hd
      clear hd HN HC
      obtain ⟨x, hx⟩ : ∃ x, f k = x := ⟨_, rfl⟩
      rw [hx] at HX ck c hab
      clear hx
      generalize absI x = y at *
      go_enter Try.func9, Try.ntmps9
      go_wp2_with fail
      refine (HX.out _).mono ?_
      rintro e w1 ⟨rfl, rfl⟩
      go_wp2_with fail
      go_ret
      exact ⟨by rw [HD.out]; rfl, HO.out⟩
    · obtain ⟨y, hy⟩ : ∃ y, absI (f k) = y := ⟨_, rfl⟩
      obtain ⟨x, hx⟩ : ∃ x, f k = x := ⟨_, rfl⟩
      have HY := Lib.hid hy
      have HXX := Lib.hid hx
      rw [hy] at c hab HX
      rw [hx] at ck HX
      clear hy hx
      have c' : 64 ≤ y := by omega
      clear c
      obtain ⟨m, hm⟩ : ∃ m, k / 4 = m := ⟨_, rfl⟩
      have HM := Lib.hid hm
      have m0 : (0 : Int) ≤ m := by omega
      have m1 : (m : Int) < 4 := by omega
      have q1 : wrap64 ((k : Int).tdiv 4) = m := by rw [Int.tdiv_eq_ediv_of_nonneg k0, show (k : Int) / 4 = (m : Int) by omega]; exact IntWalk.wrap64_in _ (by omega)
      have q2 : (k : Int) / 4 = m := by omega
      have q3 : (k : Int).tdiv 4 = m := by rw [Int.tdiv_eq_ediv_of_nonneg k0]; exact q2
      clear hm q2 q3
      go_enter Try.func9, Try.ntmps9
      go_wp2_with fail
      refine (HX.out _).mono ?_
      rintro e w1 ⟨rfl, rfl⟩
      obtain ⟨W0, hW0⟩ : ∃ W0, W0 = (w.alloc (.cells (rowN 16 (blk f)) 23)) := ⟨_, rfl⟩
      have HLT : Hid (w.heap.size < W0.heap.size) := by rw [hW0]; unfold Hid; simp
      rw [← hW0] at HC HO ck ⊢
      clear hW0
      go_wp2_with fail
      go_loopw [5] (fun jv wr => ∃ j : Nat, jv = .int .i64 j ∧ m * 4 ≤ j ∧ j ≤ m * 4 + 4 ∧ Hid (∀ q, m * 4 ≤ q → q < j → q ≠ k → absI (f q) ≤ y / 8) ∧ Hid (Old W0 wr)) (fun jv _ => m * 4 + 4 - (intOf jv).toNat)
      case atStart => exact ⟨m * 4, by have := HM.out; go_num, Nat.le_refl _, by omega, fun q a b => by omega, Old.refl _⟩
      case round =>
        obtain ⟨j, rfl, hj1, hj2, HQ, HW⟩ := hrel
        have HOd : Hid (Old w wr) := HO.out.trans HW.out
        have hblt : w.heap.size < W0.heap.size := HLT.out
        have ckr : wr.cell? ⟨w.heap.size, k, none⟩ = some (.int .i64 x) := (Kept.cell HW.out (a := ⟨w.heap.size, k, none⟩) hblt).trans ck
        by_cases hlt : j < m * 4 + 4
        · have hj16 : j < 16 := by omega
          have j0 : (0 : Int) ≤ j := by omega
          have j1 : (j : Int) < 16 := by omega
          have hlt' : (j : Int) < (k : Int) / 4 * 4 + 4 := by have := HM.out; omega
          by_cases e : j = k
          · have HQ2 : Hid (∀ q, m * 4 ≤ q → q < j + 1 → q ≠ k → absI (f q) ≤ y / 8) := fun q a1 a2 a3 => HQ.out q a1 (by omega) a3
            have e1 : decide ((j : Int) = (k : Int)) = true := by simp [e]
            subst e
            clear HQ HX HXX HY HC ck
            go_wp2_with fail
            go_quiet (fail)
            go_wp2_with fail
            go_roundw
            case rel => exact ⟨j + 1, by go_num, by omega, by omega, HQ2, HW.out.drewN _⟩
            case measure => simp [intOf]; omega
          · have e' : ((j : Int) != (k : Int)) = true := by simp; omega
            obtain ⟨b1, b2, b3⟩ := near_64 HN.out j hj16
            have HJ := Lib.hid (fun w => size_any (f j) w b1 b2 b3)
            have haj := absI_bd (f j) b1 b2
            have cj := (Kept.cell HW.out (a := ⟨w.heap.size, j, none⟩) hblt).trans (HC.out j hj16)
            by_cases c : y / 8 < absI (f j)
            · have hd : decide (isT f k) = false := decide_eq_false fun h => by
                have h1 := h.2.2 j hj16 (by have := HM.out; omega) e
                rw [HY.out] at h1
                omega
              have HD := Lib.hid hd
              clear HQ HW HXX HY HC hd b1 b2 b3 HN ck
              generalize absI (f j) = t at *
              generalize f j = s at *
              go_wp2_with fail
              go_quiet ((go_at_call 17; first | with_reducible exact Calls.quiet_of_same ((HX.out _).mono fun _ _ hh => ⟨hh.1, hh.2.symm⟩) | with_reducible exact Calls.quiet_of_same ((HJ.out _).mono fun _ _ hh => ⟨hh.1, hh.2.symm⟩)))
              go_wp2_with fail
              go_ret
              exact ⟨by rw [HD.out]; rfl, HOd.out.drewN _⟩
            · have HQ2 : Hid (∀ q, m * 4 ≤ q → q < j + 1 → q ≠ k → absI (f q) ≤ y / 8) := fun q a1 a2 a3 => by
                by_cases h : q = j
                · subst h; omega
                · exact HQ.out q a1 (by omega) a3
              have c2 : absI (f j) ≤ y / 8 := by omega
              clear HQ HXX HY HC b1 b2 b3 c ck
              generalize absI (f j) = t at *
              generalize f j = s at *
              go_wp2_with fail
              go_quiet ((go_at_call 17; first | with_reducible exact Calls.quiet_of_same ((HX.out _).mono fun _ _ hh => ⟨hh.1, hh.2.symm⟩) | with_reducible exact Calls.quiet_of_same ((HJ.out _).mono fun _ _ hh => ⟨hh.1, hh.2.symm⟩)))
              go_wp2_with fail
              go_roundw
              case rel => exact ⟨j + 1, by go_num, by omega, by omega, HQ2, HW.out.drewN _⟩
              case measure => simp [intOf]; omega
        · obtain rfl : j = m * 4 + 4 := by omega
          have hd : decide (isT f k) = true := by
            refine decide_eq_true ⟨hk, by rw [HY.out]; omega, fun q h1 h2 h3 => ?_⟩
            rw [HY.out]
            exact HQ.out q (by have := HM.out; omega) (by have := HM.out; omega) h3
          have HD := Lib.hid hd
          have hge : ((m * 4 + 4 : Nat) : Int) = (k : Int) / 4 * 4 + 4 := by have := HM.out; omega
          rw [hge]
          clear HQ HW HXX HY HC hd HN HX hge
          go_wp2_with fail
          go_ret
          exact ⟨by rw [HD.out]; rfl, HOd.out⟩
  · have hd : decide (isI f i) = false := decide_eq_false fun h => hp ⟨h.1, by have := h.2.1; omega⟩
    have HD := Lib.hid hd
    clear hd
    rcases (show i < 0 ∨ 16 ≤ i by omega) with c | c
    · clear hp
      go_enter Try.func9, Try.ntmps9
      go_wp2_with fail
      go_ret
      exact ⟨by rw [HD.out]; rfl, Old.alloc _ _⟩
    · have c0 : 0 ≤ i := by omega
      have c1 : 15 < i := by omega
      clear hp
      go_enter Try.func9, Try.ntmps9
      go_wp2_with fail
      go_ret
      exact ⟨by rw [HD.out]; rfl, Old.alloc _ _⟩
end Go.Proofs.Yteihhpionhllfaa
