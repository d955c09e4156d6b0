/- NumRounds: for every number and every power num.Round, num.Near and num.Cut tell the number divided by two to that power, to the nearest with halves upwards, to the nearest with halves away from 0, and towards 0, and 0 of a power that is none (3.2, 3.4), and the chapter's example holds. No condition. -/
import Derived.Test.YtkodampkhlholaaRows
import Derived.Test.YtkodampkhlholaaRound
namespace Go.Proofs.Ytkodampkhlholaa.numRounds
open Go.ChangeShapes Go.WideShapes Go.ChangeAt Go.RowKit
set_option linter.unusedVariables false

theorem power_any (k : Int) (w : World) (h0 : 0 ≤ k) (h1 : k ≤ 62) :
    Calls Try.prog 16 #[.int .i64 k] w fun e w' => e = .returned (.int .i64 (pw k.toNat)) ∧ w = w' := by
  go_enter Try.func16, Try.ntmps16
  go_wp2
  go_loop [3, 4] (fun v i => ∃ j : Nat, (j : Int) ≤ k ∧ i = .int .i64 j ∧ v = .int .i64 (pw j)) (fun _ i => k.toNat - (intOf i).toNat)
  case atStart => exact ⟨0, by omega, rfl, rfl⟩
  case round =>
    obtain ⟨j, hj, rfl, rfl⟩ := hrel
    by_cases hlt : (j : Int) < k
    · have hp := pw_pos j
      have hq := pw_le (j + 1) (by omega)
      have hs := pw_succ j
      rw [hs] at hq
      have HS := Lib.hid hs
      clear hs
      go_wp2
      go_round
      case rel => exact ⟨j + 1, by omega, by go_num, by rw [HS.out]⟩
      case measure => simp [intOf]; omega
    · have hjk : k.toNat = j := by omega
      have HJ := Lib.hid hjk
      clear hjk
      go_wp2
      go_ret
      exact ⟨by rw [HJ.out]; rfl, rfl⟩

theorem tmod_bd (a b : Int) (h : 1 ≤ b) : -b < a.tmod b ∧ a.tmod b < b := by
  have h1 := Int.tmod_lt_of_pos a (show 0 < b by omega)
  have h2 := Int.tmod_lt_of_pos (-a) (show 0 < b by omega)
  rw [Int.neg_tmod] at h2
  omega
theorem tmod_sign (a b : Int) (h : 1 ≤ b) : (0 < a.tmod b → 0 < a) ∧ (a.tmod b < 0 → a < 0) := by
  have h1 : 0 ≤ a → 0 ≤ a.tmod b := fun h => Int.tmod_nonneg b h
  have h2 : 0 ≤ -a → 0 ≤ (-a).tmod b := fun h => Int.tmod_nonneg b h
  rw [Int.neg_tmod] at h2
  omega
theorem cut_down (a b : Int) (h : 1 ≤ b) : (a.tmod b < 0 ∧ a / b = a.tdiv b - 1 ∧ a % b = a.tmod b + b) ∨ (0 ≤ a.tmod b ∧ a / b = a.tdiv b ∧ a % b = a.tmod b) := by
  have h0 := Int.tmod_add_mul_tdiv a b
  have h1 := tmod_bd a b h
  by_cases c : a.tmod b < 0
  · have := (Int.ediv_emod_unique (a := a) (b := b) (r := a.tmod b + b) (q := a.tdiv b - 1) (by omega)).2 ⟨by rw [Int.mul_sub]; omega, by omega, by omega⟩
    exact .inl ⟨c, this.1, this.2⟩
  · have := (Int.ediv_emod_unique (a := a) (b := b) (r := a.tmod b) (q := a.tdiv b) (by omega)).2 ⟨by omega, by omega, by omega⟩
    exact .inr ⟨by omega, this.1, this.2⟩
theorem near_is (v p h x : Int) (hp : p = 2 * h) (hh : 1 ≤ h) (hx : (h ≤ v.tmod p ∧ x = v.tdiv p + 1) ∨ (v.tmod p ≤ -h ∧ x = v.tdiv p - 1) ∨ (-h < v.tmod p ∧ v.tmod p < h ∧ x = v.tdiv p)) : nearI v p = x := by
  have s := tmod_sign v p (by omega)
  have b := tmod_bd v p (by omega)
  unfold nearI
  rcases cut_down v p (by omega) with ⟨c1, c2, c3⟩ | ⟨c1, c2, c3⟩ <;> rw [c2, c3] <;> split <;> omega
theorem round_is (v p h x : Int) (hp : p = 2 * h) (hh : 1 ≤ h) (hx : (h ≤ v.tmod p ∧ x = v.tdiv p + 1) ∨ (v.tmod p < -h ∧ x = v.tdiv p - 1) ∨ (-h ≤ v.tmod p ∧ v.tmod p < h ∧ x = v.tdiv p)) : roundI v p = x := by
  have s := tmod_sign v p (by omega)
  have b := tmod_bd v p (by omega)
  unfold roundI
  rcases cut_down v p (by omega) with ⟨c1, c2, c3⟩ | ⟨c1, c2, c3⟩ <;> rw [c2, c3] <;> split <;> omega
theorem at_one (v : Int) : nearI v 1 = v.tdiv 1 ∧ roundI v 1 = v.tdiv 1 ∧ v.tmod 1 = 0 := by
  unfold nearI roundI
  simp

theorem walk_no (v k : Int) (w : World) (h : k < 0 ∨ 62 < k) :
    Calls Try.prog 4 #[.int .i64 v, .int .i64 k] w fun e w' => e = .returned (.bool true) ∧ Old w w' := by
  have hR := Lib.hid (fun w => Round_no v k w h)
  have hN := Lib.hid (fun w => Near_no v k w h)
  have hC := Lib.hid (fun w => Cut_no v k w h)
  rcases h with h | h
  · go_enter Try.func4, Try.ntmps4
    go_wp2_with fail
    refine (hR.out _).mono ?_
    rintro e w' ⟨rfl, rfl⟩
    go_wp2_with fail
    refine (hN.out _).mono ?_
    rintro e w' ⟨rfl, rfl⟩
    go_wp2_with fail
    refine (hC.out _).mono ?_
    rintro e w' ⟨rfl, rfl⟩
    go_wp2_with fail
    refine (awake_any _).mono ?_
    rintro e w' ⟨rfl, n, rfl⟩
    go_wp2
    go_ret
    exact ⟨rfl, (Old.refl w).drewN _⟩
  · have h2 : 0 ≤ k := by omega
    have h3 : decide (62 < k) = true := by simpa using h
    go_enter Try.func4, Try.ntmps4
    go_wp2_with fail
    refine (hR.out _).mono ?_
    rintro e w' ⟨rfl, rfl⟩
    go_wp2_with fail
    refine (hN.out _).mono ?_
    rintro e w' ⟨rfl, rfl⟩
    go_wp2_with fail
    refine (hC.out _).mono ?_
    rintro e w' ⟨rfl, rfl⟩
    go_wp2_with fail
    refine (awake_any _).mono ?_
    rintro e w' ⟨rfl, n, rfl⟩
    go_wp2
    go_ret
    exact ⟨rfl, (Old.refl w).drewN _⟩

set_option maxHeartbeats 1000000 in
theorem walk_a (v k p h : Int) (w : World) (c : h ≤ v.tmod p) (h1 : -9223372036854775808 ≤ v) (h2 : v ≤ 9223372036854775807) (h3 : 1 ≤ k) (h4 : k ≤ 62) (hk : pw k.toNat = p) (hp : p = 2 * h) (hh : 1 ≤ h) (hm : h ≤ 2305843009213693952) :
    Calls Try.prog 4 #[.int .i64 v, .int .i64 k] w fun e w' => e = .returned (.bool true) ∧ Old w w' := by
  have hN := Near_any v k w (by omega) h4 h1 h2
  have hR := fun w => Round_any v k w (by omega) h4 h1 h2
  have hC := Cut_any v k w (by omega) h4 h1 h2
  have hP := power_any k w (by omega) h4
  rw [hk] at hN hR hC hP
  have eN := near_is v p h (v.tdiv p + 1) hp hh (by omega)
  have eR := round_is v p h (v.tdiv p + 1) hp hh (by omega)
  rw [eN] at hN
  rw [eR] at hR
  obtain ⟨t1, t2⟩ := tmod_bd v p (by omega)
  obtain ⟨d1, d2⟩ := tdiv_bd v p (by omega) h1 h2
  have q := quot_bd v p (by omega) h1 h2
  have cd := cut_down v p (by omega)
  have d3 : v.tdiv p ≤ 4611686018427387904 := by have := q.2.2.2.2 (by omega); omega
  have d4 : -4611686018427387905 ≤ v.tdiv p := by
    have h0 := Int.natAbs_tdiv_le_natAbs v p
    have : -4611686018427387904 ≤ v / p := Int.le_ediv_of_mul_le (by omega) (by omega)
    omega
  have wm := IntWalk.wrap64_in (v.tmod p) ⟨by omega, by omega⟩
  have wd := IntWalk.wrap64_in (v.tdiv p) ⟨by omega, by omega⟩
  have w1 := IntWalk.wrap64_in (v.tdiv p + 1) ⟨by omega, by omega⟩
  have w2 := IntWalk.wrap64_in (v.tdiv p - 1) ⟨by omega, by omega⟩
  have p0 : 1 ≤ p := by omega
  have p1 : p ≤ 4611686018427387904 := by omega
  have ph : p / 2 = h := by omega
  have HN := Lib.hid hN
  have HR := Lib.hid hR
  have HC := Lib.hid hC
  have HP := Lib.hid hP
  clear hN hR hC hP eN eR q cd hp hk
  go_enter Try.func4, Try.ntmps4
  go_wp2_with fail
  refine HP.out.mono ?_
  rintro e w' ⟨rfl, rfl⟩
  go_wp2_with fail
  refine HC.out.mono ?_
  rintro e w' ⟨rfl, rfl⟩
  go_wp2_with fail
  refine HN.out.mono ?_
  rintro e w' ⟨rfl, n1, rfl⟩
  go_wp2_with fail
  refine (HR.out _).mono ?_
  rintro e w' ⟨rfl, n2, rfl⟩
  go_wp2_with fail
  refine (awake_any _).mono ?_
  rintro e w' ⟨rfl, n, rfl⟩
  go_wp2
  go_ret
  exact ⟨rfl, (Old.refl w).drewN _⟩

set_option maxHeartbeats 1000000 in
theorem walk_b (v k p h : Int) (w : World) (c1 : v.tmod p ≤ -h) (c2 : -h ≤ v.tmod p) (h1 : -9223372036854775808 ≤ v) (h2 : v ≤ 9223372036854775807) (h3 : 1 ≤ k) (h4 : k ≤ 62) (hk : pw k.toNat = p) (hp : p = 2 * h) (hh : 1 ≤ h) (hm : h ≤ 2305843009213693952) :
    Calls Try.prog 4 #[.int .i64 v, .int .i64 k] w fun e w' => e = .returned (.bool true) ∧ Old w w' := by
  have hN := Near_any v k w (by omega) h4 h1 h2
  have hR := fun w => Round_any v k w (by omega) h4 h1 h2
  have hC := Cut_any v k w (by omega) h4 h1 h2
  have hP := power_any k w (by omega) h4
  rw [hk] at hN hR hC hP
  have eN := near_is v p h (v.tdiv p - 1) hp hh (by omega)
  have eR := round_is v p h (v.tdiv p) hp hh (by omega)
  rw [eN] at hN
  rw [eR] at hR
  obtain ⟨t1, t2⟩ := tmod_bd v p (by omega)
  obtain ⟨d1, d2⟩ := tdiv_bd v p (by omega) h1 h2
  have q := quot_bd v p (by omega) h1 h2
  have cd := cut_down v p (by omega)
  have d3 : v.tdiv p ≤ 4611686018427387904 := by have := q.2.2.2.2 (by omega); omega
  have d4 : -4611686018427387905 ≤ v.tdiv p := by
    have h0 := Int.natAbs_tdiv_le_natAbs v p
    have : -4611686018427387904 ≤ v / p := Int.le_ediv_of_mul_le (by omega) (by omega)
    omega
  have wm := IntWalk.wrap64_in (v.tmod p) ⟨by omega, by omega⟩
  have wd := IntWalk.wrap64_in (v.tdiv p) ⟨by omega, by omega⟩
  have w1 := IntWalk.wrap64_in (v.tdiv p + 1) ⟨by omega, by omega⟩
  have w2 := IntWalk.wrap64_in (v.tdiv p - 1) ⟨by omega, by omega⟩
  have p0 : 1 ≤ p := by omega
  have p1 : p ≤ 4611686018427387904 := by omega
  have ph : p / 2 = h := by omega
  have HN := Lib.hid hN
  have HR := Lib.hid hR
  have HC := Lib.hid hC
  have HP := Lib.hid hP
  clear hN hR hC hP eN eR q cd hp hk
  go_enter Try.func4, Try.ntmps4
  go_wp2_with fail
  refine HP.out.mono ?_
  rintro e w' ⟨rfl, rfl⟩
  go_wp2_with fail
  refine HC.out.mono ?_
  rintro e w' ⟨rfl, rfl⟩
  go_wp2_with fail
  refine HN.out.mono ?_
  rintro e w' ⟨rfl, n1, rfl⟩
  go_wp2_with fail
  refine (HR.out _).mono ?_
  rintro e w' ⟨rfl, n2, rfl⟩
  go_wp2_with fail
  refine (awake_any _).mono ?_
  rintro e w' ⟨rfl, n, rfl⟩
  go_wp2
  go_ret
  exact ⟨rfl, (Old.refl w).drewN _⟩

set_option maxHeartbeats 1000000 in
theorem walk_c (v k p h : Int) (w : World) (c1 : v.tmod p < -h) (h1 : -9223372036854775808 ≤ v) (h2 : v ≤ 9223372036854775807) (h3 : 1 ≤ k) (h4 : k ≤ 62) (hk : pw k.toNat = p) (hp : p = 2 * h) (hh : 1 ≤ h) (hm : h ≤ 2305843009213693952) :
    Calls Try.prog 4 #[.int .i64 v, .int .i64 k] w fun e w' => e = .returned (.bool true) ∧ Old w w' := by
  have hN := Near_any v k w (by omega) h4 h1 h2
  have hR := fun w => Round_any v k w (by omega) h4 h1 h2
  have hC := Cut_any v k w (by omega) h4 h1 h2
  have hP := power_any k w (by omega) h4
  rw [hk] at hN hR hC hP
  have eN := near_is v p h (v.tdiv p - 1) hp hh (by omega)
  have eR := round_is v p h (v.tdiv p - 1) hp hh (by omega)
  rw [eN] at hN
  rw [eR] at hR
  obtain ⟨t1, t2⟩ := tmod_bd v p (by omega)
  obtain ⟨d1, d2⟩ := tdiv_bd v p (by omega) h1 h2
  have q := quot_bd v p (by omega) h1 h2
  have cd := cut_down v p (by omega)
  have d3 : v.tdiv p ≤ 4611686018427387904 := by have := q.2.2.2.2 (by omega); omega
  have d4 : -4611686018427387905 ≤ v.tdiv p := by
    have h0 := Int.natAbs_tdiv_le_natAbs v p
    have : -4611686018427387904 ≤ v / p := Int.le_ediv_of_mul_le (by omega) (by omega)
    omega
  have wm := IntWalk.wrap64_in (v.tmod p) ⟨by omega, by omega⟩
  have wd := IntWalk.wrap64_in (v.tdiv p) ⟨by omega, by omega⟩
  have w1 := IntWalk.wrap64_in (v.tdiv p + 1) ⟨by omega, by omega⟩
  have w2 := IntWalk.wrap64_in (v.tdiv p - 1) ⟨by omega, by omega⟩
  have p0 : 1 ≤ p := by omega
  have p1 : p ≤ 4611686018427387904 := by omega
  have ph : p / 2 = h := by omega
  have HN := Lib.hid hN
  have HR := Lib.hid hR
  have HC := Lib.hid hC
  have HP := Lib.hid hP
  clear hN hR hC hP eN eR q cd hp hk
  go_enter Try.func4, Try.ntmps4
  go_wp2_with fail
  refine HP.out.mono ?_
  rintro e w' ⟨rfl, rfl⟩
  go_wp2_with fail
  refine HC.out.mono ?_
  rintro e w' ⟨rfl, rfl⟩
  go_wp2_with fail
  refine HN.out.mono ?_
  rintro e w' ⟨rfl, n1, rfl⟩
  go_wp2_with fail
  refine (HR.out _).mono ?_
  rintro e w' ⟨rfl, n2, rfl⟩
  go_wp2_with fail
  refine (awake_any _).mono ?_
  rintro e w' ⟨rfl, n, rfl⟩
  go_wp2
  go_ret
  exact ⟨rfl, (Old.refl w).drewN _⟩

set_option maxHeartbeats 1000000 in
theorem walk_d (v k p h : Int) (w : World) (c1 : -h < v.tmod p) (c2 : v.tmod p < h) (h1 : -9223372036854775808 ≤ v) (h2 : v ≤ 9223372036854775807) (h3 : 1 ≤ k) (h4 : k ≤ 62) (hk : pw k.toNat = p) (hp : p = 2 * h) (hh : 1 ≤ h) (hm : h ≤ 2305843009213693952) :
    Calls Try.prog 4 #[.int .i64 v, .int .i64 k] w fun e w' => e = .returned (.bool true) ∧ Old w w' := by
  have hN := Near_any v k w (by omega) h4 h1 h2
  have hR := fun w => Round_any v k w (by omega) h4 h1 h2
  have hC := Cut_any v k w (by omega) h4 h1 h2
  have hP := power_any k w (by omega) h4
  rw [hk] at hN hR hC hP
  have eN := near_is v p h (v.tdiv p) hp hh (by omega)
  have eR := round_is v p h (v.tdiv p) hp hh (by omega)
  rw [eN] at hN
  rw [eR] at hR
  obtain ⟨t1, t2⟩ := tmod_bd v p (by omega)
  obtain ⟨d1, d2⟩ := tdiv_bd v p (by omega) h1 h2
  have q := quot_bd v p (by omega) h1 h2
  have cd := cut_down v p (by omega)
  have d3 : v.tdiv p ≤ 4611686018427387904 := by have := q.2.2.2.2 (by omega); omega
  have d4 : -4611686018427387905 ≤ v.tdiv p := by
    have h0 := Int.natAbs_tdiv_le_natAbs v p
    have : -4611686018427387904 ≤ v / p := Int.le_ediv_of_mul_le (by omega) (by omega)
    omega
  have wm := IntWalk.wrap64_in (v.tmod p) ⟨by omega, by omega⟩
  have wd := IntWalk.wrap64_in (v.tdiv p) ⟨by omega, by omega⟩
  have w1 := IntWalk.wrap64_in (v.tdiv p + 1) ⟨by omega, by omega⟩
  have w2 := IntWalk.wrap64_in (v.tdiv p - 1) ⟨by omega, by omega⟩
  have p0 : 1 ≤ p := by omega
  have p1 : p ≤ 4611686018427387904 := by omega
  have ph : p / 2 = h := by omega
  have HN := Lib.hid hN
  have HR := Lib.hid hR
  have HC := Lib.hid hC
  have HP := Lib.hid hP
  clear hN hR hC hP eN eR q cd hp hk
  go_enter Try.func4, Try.ntmps4
  go_wp2_with fail
  refine HP.out.mono ?_
  rintro e w' ⟨rfl, rfl⟩
  go_wp2_with fail
  refine HC.out.mono ?_
  rintro e w' ⟨rfl, rfl⟩
  go_wp2_with fail
  refine HN.out.mono ?_
  rintro e w' ⟨rfl, n1, rfl⟩
  go_wp2_with fail
  refine (HR.out _).mono ?_
  rintro e w' ⟨rfl, n2, rfl⟩
  go_wp2_with fail
  refine (awake_any _).mono ?_
  rintro e w' ⟨rfl, n, rfl⟩
  go_wp2
  go_ret
  exact ⟨rfl, (Old.refl w).drewN _⟩

set_option maxHeartbeats 1000000 in
theorem walk_e (v : Int) (w : World) (h1 : -9223372036854775808 ≤ v) (h2 : v ≤ 9223372036854775807) :
    Calls Try.prog 4 #[.int .i64 v, .int .i64 0] w fun e w' => e = .returned (.bool true) ∧ Old w w' := by
  have hN : Calls Try.prog 14 #[.int .i64 v, .int .i64 0] w fun e w' => e = .returned (.int .i64 (nearI v 1)) ∧ ∃ n, w' = w.drewN n := Near_any v 0 w (by omega) (by omega) h1 h2
  have hR : ∀ w, Calls Try.prog 13 #[.int .i64 v, .int .i64 0] w fun e w' => e = .returned (.int .i64 (roundI v 1)) ∧ ∃ n, w' = w.drewN n := fun w => Round_any v 0 w (by omega) (by omega) h1 h2
  have hC : Calls Try.prog 15 #[.int .i64 v, .int .i64 0] w fun e w' => e = .returned (.int .i64 (v.tdiv 1)) ∧ w = w' := Cut_any v 0 w (by omega) (by omega) h1 h2
  have hP : Calls Try.prog 16 #[.int .i64 0] w fun e w' => e = .returned (.int .i64 1) ∧ w = w' := power_any 0 w (by omega) (by omega)
  rw [(at_one v).1, Int.tdiv_one] at hN
  rw [(at_one v).2.1, Int.tdiv_one] at hR
  rw [Int.tdiv_one] at hC
  have HN := Lib.hid hN
  have HR := Lib.hid hR
  have HC := Lib.hid hC
  have HP := Lib.hid hP
  clear hN hR hC hP
  go_enter Try.func4, Try.ntmps4
  go_wp2_with fail
  refine HP.out.mono ?_
  rintro e w' ⟨rfl, rfl⟩
  go_wp2_with fail
  refine HC.out.mono ?_
  rintro e w' ⟨rfl, rfl⟩
  go_wp2_with fail
  refine HN.out.mono ?_
  rintro e w' ⟨rfl, n1, rfl⟩
  go_wp2_with fail
  refine (HR.out _).mono ?_
  rintro e w' ⟨rfl, n2, rfl⟩
  go_wp2_with fail
  refine (awake_any _).mono ?_
  rintro e w' ⟨rfl, n, rfl⟩
  go_wp2
  go_ret
  exact ⟨rfl, (Old.refl w).drewN _⟩

theorem walk (v k : Int) (w : World) (h1 : -9223372036854775808 ≤ v) (h2 : v ≤ 9223372036854775807) :
    Calls Try.prog 4 #[.int .i64 v, .int .i64 k] w fun e w' => e = .returned (.bool true) ∧ Old w w' := by
  by_cases hk : k < 0 ∨ 62 < k
  · exact walk_no v k w hk
  · by_cases h0 : k = 0
    · subst h0
      exact walk_e v w h1 h2
    · have e : pw k.toNat = 2 * pw (k.toNat - 1) := by rw [← pw_succ, show k.toNat - 1 + 1 = k.toNat by omega]
      have b1 := pw_pos (k.toNat - 1)
      have b2 : pw (k.toNat - 1) ≤ 2305843009213693952 := by have := pw_le k.toNat (by omega); omega
      obtain ⟨p, hp⟩ : ∃ p, pw k.toNat = p := ⟨_, rfl⟩
      obtain ⟨h, hh⟩ : ∃ h, pw (k.toNat - 1) = h := ⟨_, rfl⟩
      rw [hp, hh] at e
      rw [hh] at b1 b2
      by_cases ca : h ≤ v.tmod p
      · exact walk_a v k p h w ca h1 h2 (by omega) (by omega) hp e b1 b2
      · by_cases cb : v.tmod p < -h
        · exact walk_c v k p h w cb h1 h2 (by omega) (by omega) hp e b1 b2
        · by_cases cc : v.tmod p ≤ -h
          · exact walk_b v k p h w cc (by omega) h1 h2 (by omega) (by omega) hp e b1 b2
          · exact walk_d v k p h w (by omega) (by omega) h1 h2 (by omega) (by omega) hp e b1 b2


theorem own : ownKnob Try.prog.godebug = none := by kernel_rfl
theorem laidOut : laidOutB Try.prog = true := by kernel_rfl

set_option maxRecDepth 100000 in
theorem lifted (os : Os) (started : os.Started) (H : Type) (enc : TypeId × Value → H) :
    ReturnsInHanded {} Try.checked os 4 .any (Rows.numRoundsSpec.pre6 enc Try.prog Try.f4 Rows.numRoundsRow.domain false) (Rows.numRoundsSpec.post enc Try.prog Try.f4 false true false false) := by
  refine returnsInHanded_of_change (C := Try.checked) own started (by kernel_rfl) Try.func4
    (ChangeSpec.witness6 (enc := enc) (C := Try.checked) false ⟨#[], #[.int .i64 0, .int .i64 0], []⟩ 8 (by kernel_rfl) (by kernel_rfl) (by kernel_rfl) (by kernel_rfl)) ?_
  intro W base args ds gs before hval0 hW hcnd _
  have hval : ∀ (j : Nat) t v, Try.f4.params[j]? = some t → args[j]? = some v → Value.okWide Try.prog W .any base t v := hval0
  have hW' := hW
  have hlt : ∀ p ∈ before, p.block < W.heap.size := fun p hp => hW'.lt p hp
  obtain ⟨p, q, hA0, hV, rfl, hfz, hnd⟩ := hW
  have hA : DataW.TrodAll enc Try.prog W 0 (fun _ => true) true Try.f4.params.toList args.toList ds p := hA0
  rw [Try.params4] at hA hval
  obtain ⟨v0, vs0, d0, ds0, p0, q0, hargs, rfl, rfl, h0, r0⟩ := trodAll_cons hA
  obtain ⟨v1, vs1, d1, ds1, p1, q1, rfl, rfl, rfl, h1, r1⟩ := trodAll_cons r0
  obtain ⟨rfl, rfl, rfl⟩ := trodAll_nil r1
  obtain rfl : args = #[v0, v1] := by cases args; simp_all
  obtain ⟨rfl, rfl⟩ := trodVars_none hV
  obtain ⟨a0, rfl, _, _, w0⟩ := open_int Try.underlying2 (hval 0 2 v0 rfl rfl) h0
  obtain ⟨a1, rfl, _, _, w1⟩ := open_int Try.underlying3 (hval 1 3 v1 rfl rfl) h1
  refine (walk a0 a1 W (i64_of w0).1 (i64_of w0).2).mono fun e W' ⟨he, hg⟩ => ?_
  subst he
  exact ⟨_, rfl, law_done laidOut Try.underlying4 rfl (by kernel_rfl) rfl hW' rfl hg⟩

theorem over : Rows.numRoundsRow.holds Try.pinned (OpenSpec.ofChange Rows.numRoundsSpec) :=
  OpenClaim.holds_of_wide 4 Try.f4 rfl rfl rfl rfl rfl rfl rfl ⟨rfl, rfl, rfl, rfl, rfl⟩ rfl rfl rfl rfl rfl (by kernel_rfl) Try.func4 (by kernel_rfl)
    (of_decide_eq_true (by kernel_rfl)) (by unfold Func.isWrapper; first | (rw [if_pos (by decide +kernel)]; kernel_rfl) | (rw [if_neg (by decide +kernel)]; exact ⟨rfl, rfl⟩))
    (fun os started H enc _ => lifted os started H enc)

theorem proved : Rows.NumRoundsSaid :=
  over
end Go.Proofs.Ytkodampkhlholaa.numRounds
