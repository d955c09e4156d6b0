/- Contracts of num.Round, num.Near, num.Cut, num.Floor, num.Mod and the law's power and down. -/
import Derived.Test.YtkodampkhlholaaHalve
namespace Go.Proofs.Ytkodampkhlholaa
set_option linter.unusedVariables false
open Go.RowKit

theorem isPower_yes (k : Int) (w : World) (h0 : 0 ≤ k) (h1 : k ≤ 62) :
    Calls Try.prog 25 #[.int .i64 k] w fun e w' => e = .returned (.bool true) ∧ w = w' := by
  go_enter Try.func25, Try.ntmps25
  go_wp2
  go_ret
  exact ⟨rfl, rfl⟩
theorem isPower_no (k : Int) (w : World) (h : k < 0 ∨ 62 < k) :
    Calls Try.prog 25 #[.int .i64 k] w fun e w' => e = .returned (.bool false) ∧ w = w' := by
  rcases h with h | h
  · go_enter Try.func25, Try.ntmps25
    go_wp2
    go_ret
    exact ⟨rfl, rfl⟩
  · have h' : 0 ≤ k := by omega
    have hd : decide (k ≤ 62) = false := by simp; omega
    go_enter Try.func25, Try.ntmps25
    go_wp2
    go_ret
    exact ⟨rfl, rfl⟩

def roundI (v p : Int) : Int := if p ≤ 2 * (v % p) then v / p + 1 else v / p
def nearI (v p : Int) : Int := if p < 2 * (v % p) ∨ (2 * (v % p) = p ∧ 0 < v) then v / p + 1 else v / p

/-- What a quotient downwards and its rest are between. -/
theorem quot_bd (v p : Int) (hp : 1 ≤ p) (h1 : -9223372036854775808 ≤ v) (h2 : v ≤ 9223372036854775807) :
    0 ≤ v % p ∧ v % p < p ∧ -9223372036854775808 ≤ v / p ∧ v / p ≤ 9223372036854775807 ∧ (2 ≤ p → v / p ≤ 4611686018427387903) := by
  refine ⟨Int.emod_nonneg _ (by omega), Int.emod_lt_of_pos _ (by omega), ?_, ?_, fun h => ?_⟩
  · exact Int.le_ediv_of_mul_le (by omega) (by omega)
  · have := Int.ediv_lt_of_lt_mul (a := v) (b := 9223372036854775808) (c := p) (by omega) (by omega); omega
  · have := Int.ediv_lt_of_lt_mul (a := v) (b := 4611686018427387904) (c := p) (by omega) (by omega); omega

theorem Round_any (v k : Int) (w : World) (h0 : 0 ≤ k) (h1 : k ≤ 62) (h2 : -9223372036854775808 ≤ v) (h3 : v ≤ 9223372036854775807) :
    Calls Try.prog 13 #[.int .i64 v, .int .i64 k] w fun e w' => e = .returned (.int .i64 (roundI v (pw k.toNat))) ∧ ∃ n, w' = w.drewN n := by
  have hq := pw_le k.toNat (by omega)
  have hp := pw_pos k.toNat
  have he : wrap64 ((2 : Int) ^ k.toNat) = pw k.toNat := IntWalk.wrap64_in (pw k.toNat) (by omega)
  have hc := Lib.hid (halve_any v k w h0 h1)
  have hy := Lib.hid (isPower_yes k w h0 h1)
  unfold roundI
  generalize pw k.toNat = p at *
  obtain ⟨b1, b2, b3, b4, b5⟩ := quot_bd v p hp h2 h3
  generalize v % p = m at *
  generalize v / p = q at *
  by_cases c : p ≤ 2 * m
  · rw [if_pos c]
    have b6 := b5 (by omega)
    clear b5
    go_enter Try.func13, Try.ntmps13
    go_wp2_with fail
    refine hy.out.mono ?_
    rintro e w' ⟨rfl, rfl⟩
    go_wp2_with fail
    refine hc.out.mono ?_
    rintro e w1 ⟨rfl, n1, rfl⟩
    go_wp2
    go_ret
    exact ⟨rfl, _, rfl⟩
  · rw [if_neg c]
    clear b5
    have c' : 2 * m < p := by omega
    clear c
    go_enter Try.func13, Try.ntmps13
    go_wp2_with fail
    refine hy.out.mono ?_
    rintro e w' ⟨rfl, rfl⟩
    go_wp2_with fail
    refine hc.out.mono ?_
    rintro e w1 ⟨rfl, n1, rfl⟩
    go_wp2
    go_ret
    exact ⟨rfl, _, rfl⟩

theorem Near_any (v k : Int) (w : World) (h0 : 0 ≤ k) (h1 : k ≤ 62) (h2 : -9223372036854775808 ≤ v) (h3 : v ≤ 9223372036854775807) :
    Calls Try.prog 14 #[.int .i64 v, .int .i64 k] w fun e w' => e = .returned (.int .i64 (nearI v (pw k.toNat))) ∧ ∃ n, w' = w.drewN n := by
  have hq := pw_le k.toNat (by omega)
  have hp := pw_pos k.toNat
  have he : wrap64 ((2 : Int) ^ k.toNat) = pw k.toNat := IntWalk.wrap64_in (pw k.toNat) (by omega)
  have hc := Lib.hid (halve_any v k w h0 h1)
  have hy := Lib.hid (isPower_yes k w h0 h1)
  unfold nearI
  generalize pw k.toNat = p at *
  obtain ⟨b1, b2, b3, b4, b5⟩ := quot_bd v p hp h2 h3
  generalize v % p = m at *
  generalize v / p = q at *
  by_cases c : p < 2 * m
  · rw [if_pos (Or.inl c)]
    have b6 := b5 (by omega)
    clear b5
    go_enter Try.func14, Try.ntmps14
    go_wp2_with fail
    refine hy.out.mono ?_
    rintro e w' ⟨rfl, rfl⟩
    go_wp2_with fail
    refine hc.out.mono ?_
    rintro e w1 ⟨rfl, n1, rfl⟩
    go_wp2
    go_ret
    exact ⟨rfl, _, rfl⟩
  · have c' : 2 * m ≤ p := by omega
    by_cases d : 2 * m = p
    · have d' : (2 * m == p) = true := by simpa using d
      by_cases hv : 0 < v
      · rw [if_pos (Or.inr ⟨d, hv⟩)]
        have b6 := b5 (by omega)
        clear b5 c d
        go_enter Try.func14, Try.ntmps14
        go_wp2_with fail
        refine hy.out.mono ?_
        rintro e w' ⟨rfl, rfl⟩
        go_wp2_with fail
        refine hc.out.mono ?_
        rintro e w1 ⟨rfl, n1, rfl⟩
        go_wp2
        go_ret
        exact ⟨rfl, _, rfl⟩
      · rw [if_neg (by omega)]
        have hv' : v ≤ 0 := by omega
        clear b5 c d hv
        go_enter Try.func14, Try.ntmps14
        go_wp2_with fail
        refine hy.out.mono ?_
        rintro e w' ⟨rfl, rfl⟩
        go_wp2_with fail
        refine hc.out.mono ?_
        rintro e w1 ⟨rfl, n1, rfl⟩
        go_wp2
        go_ret
        exact ⟨rfl, _, rfl⟩
    · have d' : (2 * m == p) = false := by simpa using d
      rw [if_neg (by omega)]
      clear b5 c d
      go_enter Try.func14, Try.ntmps14
      go_wp2_with fail
      refine hy.out.mono ?_
      rintro e w' ⟨rfl, rfl⟩
      go_wp2_with fail
      refine hc.out.mono ?_
      rintro e w1 ⟨rfl, n1, rfl⟩
      go_wp2
      go_ret
      exact ⟨rfl, _, rfl⟩

theorem tdiv_bd (v p : Int) (hp : 1 ≤ p) (h1 : -9223372036854775808 ≤ v) (h2 : v ≤ 9223372036854775807) : -9223372036854775808 ≤ v.tdiv p ∧ v.tdiv p ≤ 9223372036854775807 := by
  have h := Int.natAbs_tdiv_le_natAbs v p
  by_cases hv : 0 ≤ v
  · have := Int.tdiv_nonneg hv (show 0 ≤ p by omega); omega
  · have := Int.tdiv_nonneg (show 0 ≤ -v by omega) (show 0 ≤ p by omega)
    rw [Int.neg_tdiv] at this
    omega

theorem Cut_any (v k : Int) (w : World) (h0 : 0 ≤ k) (h1 : k ≤ 62) (h2 : -9223372036854775808 ≤ v) (h3 : v ≤ 9223372036854775807) :
    Calls Try.prog 15 #[.int .i64 v, .int .i64 k] w fun e w' => e = .returned (.int .i64 (v.tdiv (pw k.toNat))) ∧ w = w' := by
  have hq := pw_le k.toNat (by omega)
  have hp := pw_pos k.toNat
  have he : wrap64 ((2 : Int) ^ k.toNat) = pw k.toNat := IntWalk.wrap64_in (pw k.toNat) (by omega)
  have hy := Lib.hid (isPower_yes k w h0 h1)
  generalize pw k.toNat = p at *
  obtain ⟨b1, b2⟩ := tdiv_bd v p hp h2 h3
  have hw := IntWalk.wrap64_in (v.tdiv p) ⟨b1, by omega⟩
  go_enter Try.func15, Try.ntmps15
  go_wp2_with fail
  refine hy.out.mono ?_
  rintro e w' ⟨rfl, rfl⟩
  go_wp2
  go_ret
  exact ⟨rfl, rfl⟩

theorem Round_no (v k : Int) (w : World) (h : k < 0 ∨ 62 < k) :
    Calls Try.prog 13 #[.int .i64 v, .int .i64 k] w fun e w' => e = .returned (.int .i64 0) ∧ w = w' := by
  have hy := Lib.hid (isPower_no k w h)
  go_enter Try.func13, Try.ntmps13
  go_wp2_with fail
  refine hy.out.mono ?_
  rintro e w' ⟨rfl, rfl⟩
  go_wp2
  go_ret
  exact ⟨rfl, rfl⟩
theorem Near_no (v k : Int) (w : World) (h : k < 0 ∨ 62 < k) :
    Calls Try.prog 14 #[.int .i64 v, .int .i64 k] w fun e w' => e = .returned (.int .i64 0) ∧ w = w' := by
  have hy := Lib.hid (isPower_no k w h)
  go_enter Try.func14, Try.ntmps14
  go_wp2_with fail
  refine hy.out.mono ?_
  rintro e w' ⟨rfl, rfl⟩
  go_wp2
  go_ret
  exact ⟨rfl, rfl⟩
theorem Cut_no (v k : Int) (w : World) (h : k < 0 ∨ 62 < k) :
    Calls Try.prog 15 #[.int .i64 v, .int .i64 k] w fun e w' => e = .returned (.int .i64 0) ∧ w = w' := by
  have hy := Lib.hid (isPower_no k w h)
  go_enter Try.func15, Try.ntmps15
  go_wp2_with fail
  refine hy.out.mono ?_
  rintro e w' ⟨rfl, rfl⟩
  go_wp2
  go_ret
  exact ⟨rfl, rfl⟩

/-- The chapter's example. -/
theorem awake_any (w : World) : Calls Try.prog 12 #[] w fun e w' => e = .returned (.bool true) ∧ ∃ n, w' = w.drewN n := by
  have hr := Lib.hid (Round_any (-3) 1 w (by decide) (by decide) (by decide) (by decide))
  have hn := Lib.hid (fun w => Near_any (-3) 1 w (by decide) (by decide) (by decide) (by decide))
  have ht := Lib.hid (fun w => Cut_any (-3) 1 w (by decide) (by decide) (by decide) (by decide))
  have e1 : roundI (-3) (pw (1 : Int).toNat) = -1 := by decide
  have e2 : nearI (-3) (pw (1 : Int).toNat) = -2 := by decide
  have e3 : (-3 : Int).tdiv (pw (1 : Int).toNat) = -1 := by decide
  rw [e1] at hr
  rw [e2] at hn
  rw [e3] at ht
  clear e1 e2 e3
  go_enter Try.func12, Try.ntmps12
  go_wp2_with fail
  refine hr.out.mono ?_
  rintro e w1 ⟨rfl, n1, rfl⟩
  go_wp2_with fail
  refine (hn.out _).mono ?_
  rintro e w2 ⟨rfl, n2, rfl⟩
  go_wp2_with fail
  refine (ht.out _).mono ?_
  rintro e w3 ⟨rfl, rfl⟩
  go_wp2
  go_ret
  exact ⟨rfl, _, rfl⟩
end Go.Proofs.Ytkodampkhlholaa
