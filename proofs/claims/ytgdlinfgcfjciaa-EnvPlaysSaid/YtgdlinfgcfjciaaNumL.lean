/- Contracts of package num (Clamp, Sat, Abs, Round, Near, Cut, Add, Peak, Mix), as far as the seat has them. -/
import Derived.Test.YtgdlinfgcfjciaaChecked
import Derived.Test.YtgdlinfgcfjciaaSmall
namespace Go.Proofs.Ytgdlinfgcfjciaa
set_option linter.unusedVariables false
set_option maxRecDepth 100000
open Go.RowKit

def clampI (v lo hi : Int) : Int := if hi < lo ∨ v < lo then lo else if hi < v then hi else v
theorem clampI_lo (v lo hi : Int) (h : hi < lo ∨ v < lo) : clampI v lo hi = lo := by unfold clampI; rw [if_pos h]
theorem clampI_hi (v lo hi : Int) (h : ¬ (hi < lo ∨ v < lo)) (h2 : hi < v) : clampI v lo hi = hi := by unfold clampI; rw [if_neg h, if_pos h2]
theorem clampI_in (v lo hi : Int) (h : ¬ (hi < lo ∨ v < lo)) (h2 : ¬ hi < v) : clampI v lo hi = v := by unfold clampI; rw [if_neg h, if_neg h2]
theorem clampI_eq (v lo hi : Int) : clampI v lo hi = max lo (min v hi) := by unfold clampI; split <;> (try split) <;> omega

theorem Clamp_any (v lo hi : Int) (w : World) :
    Calls Try.prog 26 #[.int .i64 v, .int .i64 lo, .int .i64 hi] w fun e w' => e = .returned (.int .i64 (clampI v lo hi)) ∧ w = w' := by
  rw [clampI_eq]
  go_enter Try.func26, Try.ntmps26
  go_wp2
  all_goals (go_ret; exact ⟨ret_int (by omega), rfl⟩)
def satI (v : Int) : Int := clampI v (-32768) 32767
theorem satI_bd (v : Int) : -32768 ≤ satI v ∧ satI v ≤ 32767 := by unfold satI clampI; split <;> (try split) <;> omega
def absI (v : Int) : Int := if v = -9223372036854775808 then 9223372036854775807 else if v < 0 then -v else v
theorem absI_bd (v : Int) (h : -9223372036854775808 ≤ v) (h' : v ≤ 9223372036854775807) : 0 ≤ absI v ∧ absI v ≤ 9223372036854775807 := by unfold absI; split <;> (try split) <;> omega
theorem mask_and (v : Int) (n : Nat) (hn : n ≤ 62) : bits .and .i64 v (pw n - 1) = v % pw n := by
  have hp := pw_pos n
  have hq := pw_le n hn
  have e2 : (BitVec.ofInt 64 (pw n - 1)).toNat = 2 ^ n - 1 := by
    rw [BitVec.toNat_ofInt]
    have e : pw n = ((2 ^ n : Nat) : Int) := by unfold pw; simp
    have e' : (((2 : Nat) ^ 64 : Nat) : Int) = 18446744073709551616 := rfl
    rw [e', Int.emod_eq_of_lt (by omega) (by omega), e]
    omega
  have e1 : (((BitVec.ofInt 64 v).toNat : Nat) : Int) = v % 18446744073709551616 := by
    rw [BitVec.toNat_ofInt]
    have e' : (((2 : Nat) ^ 64 : Nat) : Int) = 18446744073709551616 := rfl
    rw [e', Int.toNat_of_nonneg (Int.emod_nonneg _ (by decide))]
  show IntKind.i64.wrap ((BitVec.ofInt 64 v &&& BitVec.ofInt 64 (pw n - 1)).toNat : Int) = _
  rw [BitVec.toNat_and, e2, Nat.and_two_pow_sub_one_eq_mod]
  have e3 : ((((BitVec.ofInt 64 v).toNat % 2 ^ n : Nat)) : Int) = v % pw n := by
    rw [Int.natCast_emod, e1]
    have e : ((2 ^ n : Nat) : Int) = pw n := by unfold pw; simp
    rw [e]
    refine Int.emod_emod_of_dvd v ⟨2 ^ (64 - n), ?_⟩
    unfold pw
    rw [← Int.pow_add, show n + (64 - n) = 64 by omega]
    rfl
  rw [e3]
  have h1 := Int.emod_nonneg v (show pw n ≠ 0 by omega)
  have h2 := Int.emod_lt_of_pos v (show 0 < pw n by omega)
  exact IntWalk.i64_in _ (by omega)

theorem halve_any (v k : Int) (w : World) (h0 : 0 ≤ k) (h1 : k ≤ 62) :
    Calls Try.prog 24 #[.int .i64 v, .int .i64 k] w fun e w' => e = .returned (.tuple #[.int .i64 (v / pw k.toNat), .int .i64 (2 * (v % pw k.toNat))]) ∧ ∃ n, w' = w.drewN n := by
  go_enter Try.func24, Try.ntmps24
  go_wp2
  go_quiet (fail)
  go_wp2
  go_ret2
  refine ⟨?_, _, rfl⟩
  have hq := pw_le k.toNat (by omega)
  have hp := pw_pos k.toNat
  have e0 : wrap64 (wrap64 (2 ^ k.toNat) - 1) = pw k.toNat - 1 := by
    show wrap64 (wrap64 (pw k.toNat) - 1) = _
    rw [IntWalk.wrap64_in (pw k.toNat) (by omega), IntWalk.wrap64_in _ (by omega)]
  have h1 := Int.emod_nonneg v (show pw k.toNat ≠ 0 by omega)
  have h2 := Int.emod_lt_of_pos v (show 0 < pw k.toNat by omega)
  have e1 : wrap64 (2 * bits BinOp.and IntKind.i64 v (wrap64 (wrap64 (2 ^ k.toNat) - 1))) = 2 * (v % pw k.toNat) := by
    rw [e0, mask_and v k.toNat (by omega), IntWalk.wrap64_in _ (by omega)]
  show Ending.returned (Value.tuple #[.int .i64 (v / pw k.toNat), .int .i64 (wrap64 (2 * bits BinOp.and IntKind.i64 v (wrap64 (wrap64 (2 ^ k.toNat) - 1))))]) = _
  rw [e1]
theorem isPower_yes (k : Int) (w : World) (h0 : 0 ≤ k) (h1 : k ≤ 62) :
    Calls Try.prog 23 #[.int .i64 k] w fun e w' => e = .returned (.bool true) ∧ w = w' := by
  go_enter Try.func23, Try.ntmps23
  go_wp2
  go_ret
  exact ⟨rfl, rfl⟩
theorem isPower_no (k : Int) (w : World) (h : k < 0 ∨ 62 < k) :
    Calls Try.prog 23 #[.int .i64 k] w fun e w' => e = .returned (.bool false) ∧ w = w' := by
  rcases h with h | h
  · go_enter Try.func23, Try.ntmps23
    go_wp2
    go_ret
    exact ⟨rfl, rfl⟩
  · have h' : 0 ≤ k := by omega
    have hd : decide (k ≤ 62) = false := by simp; omega
    go_enter Try.func23, Try.ntmps23
    go_wp2
    go_ret
    exact ⟨rfl, rfl⟩
def roundI (v p : Int) : Int := if p ≤ 2 * (v % p) then v / p + 1 else v / p
def nearI (v p : Int) : Int := if p < 2 * (v % p) ∨ (2 * (v % p) = p ∧ 0 < v) then v / p + 1 else v / p

/-- What a quotient downwards and its rest are between. -/
theorem quot_bd (v p : Int) (hp : 1 ≤ p) (h1 : -9223372036854775808 ≤ v) (h2 : v ≤ 9223372036854775807) :
    0 ≤ v % p ∧ v % p < p ∧ -9223372036854775808 ≤ v / p ∧ v / p ≤ 9223372036854775807 ∧ (2 ≤ p → v / p ≤ 4611686018427387903) := by
  refine ⟨Int.emod_nonneg _ (by omega), Int.emod_lt_of_pos _ (by omega), ?_, ?_, fun h => ?_⟩
  · exact Int.le_ediv_of_mul_le (by omega) (by omega)
  · have := Int.ediv_lt_of_lt_mul (a := v) (b := 9223372036854775808) (c := p) (by omega) (by omega); omega
  · have := Int.ediv_lt_of_lt_mul (a := v) (b := 4611686018427387904) (c := p) (by omega) (by omega); omega

theorem Round_any (v k : Int) (w : World) (h0 : 0 ≤ k) (h1 : k ≤ 62) (h2 : -9223372036854775808 ≤ v) (h3 : v ≤ 9223372036854775807) :
    Calls Try.prog 19 #[.int .i64 v, .int .i64 k] w fun e w' => e = .returned (.int .i64 (roundI v (pw k.toNat))) ∧ ∃ n, w' = w.drewN n := by
  have hq := pw_le k.toNat (by omega)
  have hp := pw_pos k.toNat
  have he : wrap64 ((2 : Int) ^ k.toNat) = pw k.toNat := IntWalk.wrap64_in (pw k.toNat) (by omega)
  have hc := Lib.hid (halve_any v k w h0 h1)
  have hy := Lib.hid (isPower_yes k w h0 h1)
  unfold roundI
  generalize pw k.toNat = p at *
  obtain ⟨b1, b2, b3, b4, b5⟩ := quot_bd v p hp h2 h3
  generalize v % p = m at *
  generalize v / p = q at *
  by_cases c : p ≤ 2 * m
  · rw [if_pos c]
    have b6 := b5 (by omega)
    clear b5
    go_enter Try.func19, Try.ntmps19
    go_wp2_with fail
    refine hy.out.mono ?_
    rintro e w' ⟨rfl, rfl⟩
    go_wp2_with fail
    refine hc.out.mono ?_
    rintro e w1 ⟨rfl, n1, rfl⟩
    go_wp2
    go_ret
    exact ⟨rfl, _, rfl⟩
  · rw [if_neg c]
    clear b5
    have c' : 2 * m < p := by omega
    clear c
    go_enter Try.func19, Try.ntmps19
    go_wp2_with fail
    refine hy.out.mono ?_
    rintro e w' ⟨rfl, rfl⟩
    go_wp2_with fail
    refine hc.out.mono ?_
    rintro e w1 ⟨rfl, n1, rfl⟩
    go_wp2
    go_ret
    exact ⟨rfl, _, rfl⟩

theorem Round_no (v k : Int) (w : World) (h : k < 0 ∨ 62 < k) :
    Calls Try.prog 19 #[.int .i64 v, .int .i64 k] w fun e w' => e = .returned (.int .i64 0) ∧ w = w' := by
  have hy := Lib.hid (isPower_no k w h)
  go_enter Try.func19, Try.ntmps19
  go_wp2_with fail
  refine hy.out.mono ?_
  rintro e w' ⟨rfl, rfl⟩
  go_wp2
  go_ret
  exact ⟨rfl, rfl⟩
theorem tdiv_bd (v p : Int) (hp : 1 ≤ p) (h1 : -9223372036854775808 ≤ v) (h2 : v ≤ 9223372036854775807) : -9223372036854775808 ≤ v.tdiv p ∧ v.tdiv p ≤ 9223372036854775807 := by
  have h := Int.natAbs_tdiv_le_natAbs v p
  by_cases hv : 0 ≤ v
  · have := Int.tdiv_nonneg hv (show 0 ≤ p by omega); omega
  · have := Int.tdiv_nonneg (show 0 ≤ -v by omega) (show 0 ≤ p by omega)
    rw [Int.neg_tdiv] at this
    omega

/-- A number of 64 bits. -/
def In64 (x : Int) : Prop := -9223372036854775808 ≤ x ∧ x ≤ 9223372036854775807
def add2 (a b : Int) : Int := if 9223372036854775807 < a + b then 9223372036854775807 else if a + b < -9223372036854775808 then -9223372036854775808 else a + b
theorem add2_in (a b : Int) : In64 (add2 a b) := by unfold add2 In64; split <;> (try split) <;> omega
def addL (xs : List Int) : Int := xs.foldl add2 0
def peakL (xs : List Int) : Int := xs.foldl (fun p v => max p (absI v)) 0
theorem addL_in (xs : List Int) : In64 (addL xs) := by
  unfold addL
  have : ∀ (xs : List Int) (a : Int), In64 a → In64 (xs.foldl add2 a) := by
    intro xs
    induction xs with
    | nil => intro a h; exact h
    | cons x xs ih => intro a _; exact ih _ (add2_in a x)
  exact this xs 0 ⟨by omega, by omega⟩
theorem peakL_in (xs : List Int) (h : ∀ x ∈ xs, In64 x) : 0 ≤ peakL xs ∧ peakL xs ≤ 9223372036854775807 := by
  unfold peakL
  have : ∀ (xs : List Int) (a : Int), (∀ x ∈ xs, In64 x) → (0 ≤ a ∧ a ≤ 9223372036854775807) → 0 ≤ xs.foldl (fun p v => max p (absI v)) a ∧ xs.foldl (fun p v => max p (absI v)) a ≤ 9223372036854775807 := by
    intro xs
    induction xs with
    | nil => intro a _ h; exact h
    | cons x xs ih =>
      intro a hx h
      have b := absI_bd x (hx x (by simp)).1 (hx x (by simp)).2
      exact ih _ (fun y hy => hx y (by simp [hy])) (show 0 ≤ max a (absI x) ∧ max a (absI x) ≤ 9223372036854775807 by omega)
  exact this xs 0 h ⟨by omega, by omega⟩
theorem addL_snoc (xs : List Int) (k : Nat) (h : k < xs.length) : addL (xs.take (k + 1)) = add2 (addL (xs.take k)) (xs.getD k 0) := by
  rw [take_succ_getD xs k h]; unfold addL; rw [List.foldl_append]; rfl
theorem peakL_snoc (xs : List Int) (k : Nat) (h : k < xs.length) : peakL (xs.take (k + 1)) = max (peakL (xs.take k)) (absI (xs.getD k 0)) := by
  rw [take_succ_getD xs k h]; unfold peakL; rw [List.foldl_append]; rfl
theorem getD_in {xs : List Int} (h : ∀ x ∈ xs, In64 x) (k : Nat) : In64 (xs.getD k 0) := by
  by_cases hk : k < xs.length
  · have : xs.getD k 0 = xs[k] := by simp [List.getD, hk]
    rw [this]; exact h _ (List.getElem_mem hk)
  · have : xs.getD k 0 = 0 := by simp [List.getD, Nat.not_lt.1 hk]
    rw [this]; exact ⟨by omega, by omega⟩
theorem take_in {xs : List Int} (h : ∀ x ∈ xs, In64 x) (k : Nat) : ∀ x ∈ xs.take k, In64 x := fun x hx => h x (List.mem_of_mem_take hx)

end Go.Proofs.Ytgdlinfgcfjciaa
