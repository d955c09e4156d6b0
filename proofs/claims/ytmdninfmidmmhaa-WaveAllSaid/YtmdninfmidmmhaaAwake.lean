/- The chapter's example, as the laws ask it; the laws' own names and loops. -/
import Derived.Test.YtmdninfmidmmhaaWaveA
namespace Go.Proofs.Ytmdninfmidmmhaa
set_option linter.unusedVariables false
set_option maxRecDepth 100000
open Go.RowKit Go.ChangeShapes Go.WideShapes

set_option maxHeartbeats 2000000 in
theorem awake_any (w : World) : Calls Try.prog 14 #[] w fun e w' => e = .returned (.bool true) ∧ Old w w' := by
  have HU := Lib.hid (fun s w => Unroll_awake s w)
  unfold metaV at *
  go_enter Try.func14, Try.ntmps14
  go_wp2_with fail
  refine (HU.out _ _).mono ?_
  rintro e w1 ⟨rfl, ho1⟩
  have HO1 := Lib.hid ho1
  clear ho1
  go_wp2_with fail
  go_ret
  exact ⟨rfl, HO1.out⟩
theorem lawLoop_any (lp : Bool) (a b n : Int) (w : World) :
    Calls Try.prog 15 #[.bool lp, .int .i64 a, .int .i64 b, .int .i64 n] w fun e w' => e = .returned (.bool (decide (loopP lp a b n))) ∧ w = w' := by
  cases lp
  · have HE := Lib.hid (show (decide (a = 0) && decide (b = 0)) = decide (loopP false a b n) by unfold loopP; simp)
    go_enter Try.func15, Try.ntmps15
    go_wp2_with fail
    all_goals
      go_ret
      refine ⟨ret_bool (Eq.trans ?_ HE.out), rfl⟩
      rw [Bool.eq_iff_iff]
      first | (simp; done) | (simp; omega)
  · have HE := Lib.hid (show (decide (0 ≤ a) && decide (a < b) && decide (b ≤ n)) = decide (loopP true a b n) by unfold loopP; simp [Bool.and_assoc])
    go_enter Try.func15, Try.ntmps15
    go_wp2_with fail
    all_goals
      go_ret
      refine ⟨ret_bool (Eq.trans ?_ HE.out), rfl⟩
      rw [Bool.eq_iff_iff]
      first | (simp; done) | (simp; omega)
set_option maxHeartbeats 2000000 in
theorem lawName_any (s : ByteArray) (w : World) (hs : s.size ≤ 9223372036854775807) :
    Calls Try.prog 11 #[.string s] w fun e w' => e = .returned (.bool (nameB s)) ∧ w = w' := by
  obtain ⟨N, hN⟩ : ∃ N, N = s.size := ⟨_, rfl⟩
  obtain ⟨r, hr⟩ : ∃ r, r = nameB s := ⟨_, rfl⟩
  have HI := Lib.hid (show ∀ k : Nat, k < N → ∀ w, (Instr.index 9 (.string s) (.int .i64 k)).run Try.prog w = .ok (.int .u8 (bsI s k)) w from fun k hk w => by
    rw [run_index_string w 9 s .i64 k Try.underlying9, dif_pos ⟨by omega, by omega⟩]
    have h := bsI_index s k (by omega)
    rw [← h]
    rfl)
  have HG := Lib.hid (show ∀ k : Nat, k < N → ¬ (33 ≤ bsI s k ∧ bsI s k ≤ 126) → r = false from fun k hk h => by rw [hr]; exact nameB_no fun h' => h (h'.2 k (by omega)))
  have HY := Lib.hid (show (∀ j, j < N → 33 ≤ bsI s j ∧ bsI s j ≤ 126) → 0 < N → N < 33 → r = true from fun h h1 h2 => by rw [hr]; exact nameB_yes ⟨⟨by omega, by omega⟩, fun i hi => h i (by omega)⟩)
  have HZ := Lib.hid (show N = 0 ∨ 33 ≤ N → r = false from fun h => by rw [hr]; exact nameB_no fun h' => by have := h'.1; omega)
  rw [← hr]
  have hl : (s.size : Int) = N := by rw [hN]
  generalize bsI s = F at *
  rw [← hN] at hs
  clear hr hN
  go_enter Try.func11, Try.ntmps11
  go_wp2_with fail
  go_loop [3] (fun i => ∃ k : Nat, k ≤ N ∧ k ≤ 40 ∧ i = .int .i64 k ∧ Hid (∀ j, j < k → 33 ≤ F j ∧ F j ≤ 126)) (fun i => 40 - (intOf i).toNat)
  case atStart => exact ⟨0, by omega, by omega, rfl, Lib.hid fun j hj => by omega⟩
  case round =>
    obtain ⟨k, hk, hk4, rfl, HJ⟩ := hrel
    by_cases hkn : k < N
    · by_cases hk40 : k < 40
      · have hck := HI.out k hkn
        by_cases c1 : F k < 33
        · have hrf := HG.out k hkn (by omega)
          have d1 : decide (F k < 33) = true := decide_eq_true c1
          clear HI HG HY HJ HZ c1
          generalize F k = x at *
          go_wp2_with fail
          go_ret
          exact ⟨rfl, rfl⟩
        by_cases c2 : 126 < F k
        · have hrf := HG.out k hkn (by omega)
          have d1 : decide (F k < 33) = false := decide_eq_false c1
          have d2 : decide (126 < F k) = true := decide_eq_true c2
          clear HI HG HY HJ HZ c1 c2
          generalize F k = x at *
          go_wp2_with fail
          go_ret
          exact ⟨rfl, rfl⟩
        have HJ2 := Lib.hid (show ∀ j, j < k + 1 → 33 ≤ F j ∧ F j ≤ 126 from fun j hj => by
          by_cases e : j = k
          · subst e; omega
          · exact HJ.out j (by omega))
        have d1 : decide (F k < 33) = false := decide_eq_false c1
        have d2 : decide (126 < F k) = false := decide_eq_false c2
        obtain ⟨x, hx⟩ : ∃ x, x = F k := ⟨_, rfl⟩
        rw [← hx] at hck d1 d2
        clear HI HG HY HJ HZ c1 c2 hx
        go_wp2_with fail
        go_round
        case rel => exact ⟨k + 1, by omega, by omega, by go_num, HJ2⟩
        case measure => simp [intOf]; omega
      · have hrt := HZ.out (by omega)
        clear HI HG HY HJ HZ
        have d1 : decide ((k : Int) < (N : Int)) = true := decide_eq_true (by omega)
        have d2 : decide ((k : Int) < 40) = false := decide_eq_false (by omega)
        have d3 : decide (0 < (N : Int)) = true := decide_eq_true (by omega)
        have d4 : decide ((N : Int) < 33) = false := decide_eq_false (by omega)
        go_wp2_with fail
        go_ret
        exact ⟨rfl, rfl⟩
    · by_cases h0 : N = 0
      · have hrt := HZ.out (by omega)
        clear HI HG HY HJ HZ
        have d1 : decide ((k : Int) < (N : Int)) = false := decide_eq_false (by omega)
        have d3 : decide (0 < (N : Int)) = false := decide_eq_false (by omega)
        go_wp2_with fail
        go_ret
        exact ⟨rfl, rfl⟩
      by_cases h3 : N < 33
      · have hrt := HY.out (fun j hj => HJ.out j (by omega)) (by omega) h3
        clear HI HG HY HJ HZ
        have d1 : decide ((k : Int) < (N : Int)) = false := decide_eq_false (by omega)
        have d3 : decide (0 < (N : Int)) = true := decide_eq_true (by omega)
        have d4 : decide ((N : Int) < 33) = true := decide_eq_true (by omega)
        go_wp2_with fail
        go_ret
        exact ⟨rfl, rfl⟩
      · have hrt := HZ.out (by omega)
        clear HI HG HY HJ HZ
        have d1 : decide ((k : Int) < (N : Int)) = false := decide_eq_false (by omega)
        have d3 : decide (0 < (N : Int)) = true := decide_eq_true (by omega)
        have d4 : decide ((N : Int) < 33) = false := decide_eq_false (by omega)
        go_wp2_with fail
        go_ret
        exact ⟨rfl, rfl⟩
end Go.Proofs.Ytmdninfmidmmhaa
