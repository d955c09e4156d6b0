/- Bits that are laid, and read again: plain facts, and contracts of Put and Signed of numbers that fit. -/
import Derived.Test.YtlaoamlmpdbmmaaEnd
namespace Go.Proofs.Ytlaoamlmpdbmmaa
set_option linter.unusedVariables false
set_option maxRecDepth 100000
open Go.RowKit Go.ChangeShapes Go.WideShapes

def validI (s : Bool) (v k : Int) : Bool := decide (0 ≤ k ∧ k ≤ 57) && (if s then fitB v k else decide (0 ≤ v ∧ v < pw k.toNat))
def bitsI (v k : Int) : List Bool := bitsN (if v < 0 then v + pw k.toNat else v) k.toNat

/-- What a writer comes to by one item. -/
def putI (L : List Bool) (er : Int) (s : Bool) (v k : Int) : List Bool × Int := if er ≠ 0 then (L, er) else if validI s v k then (L ++ bitsI v k, 0) else (L, 5)

theorem bit_shift (a c : Int) (m : Nat) : (a + pw m * (2 * c)) / pw m % 2 = a / pw m % 2 := by
  rw [Int.add_mul_ediv_left _ _ (by have := pw_pos m; omega)]
  omega
theorem pw_add (m n : Nat) : pw (m + n) = pw m * pw n := by unfold pw; rw [Int.pow_add]
theorem bits_wrap (v : Int) (k : Nat) (hk : k ≤ 57) : bitsN (v + 18446744073709551616) k = bitsN (v + pw k) k := by
  unfold bitsN
  apply List.map_congr_left
  intro i hi
  rw [List.mem_range] at hi
  have h64 : (18446744073709551616 : Int) = pw (k - 1 - i) * (2 * pw (63 - (k - 1 - i))) := by
    rw [show (18446744073709551616 : Int) = pw 64 from rfl, ← pw_succ, ← pw_add]; congr 1; omega
  have hkk : pw k = pw (k - 1 - i) * (2 * pw i) := by
    rw [← pw_succ, ← pw_add]; congr 1; omega
  rw [h64, hkk]
  show ((v + pw (k - 1 - i) * (2 * pw (63 - (k - 1 - i)))) / pw (k - 1 - i) % 2 == 1) = ((v + pw (k - 1 - i) * (2 * pw i)) / pw (k - 1 - i) % 2 == 1)
  rw [bit_shift, bit_shift]

theorem putI_signed (L : List Bool) (er v k : Int) (h0 : -9223372036854775808 ≤ v) (h1 : v ≤ 9223372036854775807) : putTo L er (okSgn v k) (v % 18446744073709551616) k = putI L er true v k := by
  unfold putTo putI
  by_cases her : er ≠ 0
  · rw [if_pos her, if_pos her]
  · rw [if_neg her, if_neg her]
    have hv : validI true v k = okSgn v k := by simp [validI, okSgn, widB]
    rw [hv]
    by_cases hok : okSgn v k = true
    · rw [if_pos hok, if_pos hok]
      simp only [okSgn, widB, Bool.and_eq_true, decide_eq_true_eq] at hok
      congr 2
      unfold bitsI
      by_cases hn : v < 0
      · rw [if_pos hn, ← bits_wrap v k.toNat (by omega)]
        congr 1; omega
      · rw [if_neg hn]; congr 1; omega
    · rw [if_neg hok, if_neg hok]

theorem putI_plain (L : List Bool) (er v k : Int) (h0 : -9223372036854775808 ≤ v) (h1 : v ≤ 9223372036854775807) : putTo L er (okPut (v % 18446744073709551616) k) (v % 18446744073709551616) k = putI L er false v k := by
  unfold putTo putI
  by_cases her : er ≠ 0
  · rw [if_pos her, if_pos her]
  · rw [if_neg her, if_neg her]
    have hv : validI false v k = okPut (v % 18446744073709551616) k := by
      rw [Bool.eq_iff_iff]
      simp only [validI, okPut, Bool.and_eq_true, decide_eq_true_eq, Bool.false_eq_true, if_false]
      constructor
      · rintro ⟨⟨a, b⟩, c, d⟩
        have e : v % 18446744073709551616 = v := by omega
        rw [e]; exact ⟨a, b, d⟩
      · rintro ⟨a, b, c⟩
        have hp := pw_le k.toNat (by omega)
        have e : v % 18446744073709551616 = v := by omega
        rw [e] at c
        exact ⟨⟨a, b⟩, by omega, c⟩
    rw [hv]
    by_cases hok : okPut (v % 18446744073709551616) k = true
    · rw [if_pos hok, if_pos hok]
      simp only [okPut, decide_eq_true_eq] at hok
      have hp := pw_le k.toNat (by omega)
      have e : v % 18446744073709551616 = v := by omega
      rw [e]
      unfold bitsI
      rw [if_neg (by omega)]
    · rw [if_neg hok, if_neg hok]

theorem byte_bit_at (L : List Bool) (i : Nat) : (byteAt L (i / 8) / 2 ^ (7 - i % 8) % 2 == 1) = L.getD i false := by
  have key : byteAt L (i / 8) / 2 ^ (7 - i % 8) % 2 = bi (L.getD i false) := by
    generalize hq : i / 8 = q
    unfold byteAt
    have h0 := bi_01 (L.getD (8 * q) false); have h1 := bi_01 (L.getD (8 * q + 1) false); have h2 := bi_01 (L.getD (8 * q + 2) false); have h3 := bi_01 (L.getD (8 * q + 3) false)
    have h4 := bi_01 (L.getD (8 * q + 4) false); have h5 := bi_01 (L.getD (8 * q + 5) false); have h6 := bi_01 (L.getD (8 * q + 6) false); have h7 := bi_01 (L.getD (8 * q + 7) false)
    rcases eight i with h | h | h | h | h | h | h | h <;> rw [h]
    · rw [show i = 8 * q by omega]; omega
    · rw [show i = 8 * q + 1 by omega]; omega
    · rw [show i = 8 * q + 2 by omega]; omega
    · rw [show i = 8 * q + 3 by omega]; omega
    · rw [show i = 8 * q + 4 by omega]; omega
    · rw [show i = 8 * q + 5 by omega]; omega
    · rw [show i = 8 * q + 6 by omega]; omega
    · rw [show i = 8 * q + 7 by omega]; omega
  rw [key]
  cases L.getD i false <;> rfl

theorem bitsOf_padded (L : List Bool) (n : Nat) (h : L.length ≤ 8 * n) : bitsOf (padded L n) = L ++ List.replicate (8 * n - L.length) false := by
  apply List.ext_getElem?
  intro i
  by_cases hi : i < 8 * n
  · rw [bitsOf_get _ _ (by rw [length_padded]; exact hi)]
    have hb : bitAt (padded L n) i = L.getD i false := by
      unfold bitAt
      have e : (padded L n).getD (i / 8) 0 = byteAt L (i / 8) := by
        have hlt : i / 8 < n := by omega
        simp [padded, List.getD, hlt]
      rw [e]
      exact byte_bit_at L i
    rw [hb]
    by_cases hl : i < L.length
    · rw [List.getElem?_append_left hl, List.getElem?_eq_getElem hl]; simp [List.getD, hl]
    · rw [List.getElem?_append_right (by omega), getD_end L i (by omega), List.getElem?_replicate, if_pos (by omega)]
  · rw [List.getElem?_eq_none (by rw [length_bitsOf, length_padded]; omega), List.getElem?_eq_none (by simp; omega)]

theorem next_padded (A M C : List Bool) (n : Nat) (h : (A ++ M ++ C).length ≤ 8 * n) : nextB (padded (A ++ M ++ C) n) A.length M.length = M := by
  unfold nextB
  rw [bitsOf_padded _ _ h, List.append_assoc, List.append_assoc, List.drop_left, List.take_left]
theorem rest_padded (L : List Bool) (n : Nat) (h : L.length ≤ 8 * n) : restF (padded L n) L.length = true := by
  unfold restF
  rw [bitsOf_padded _ _ h, List.drop_left]
  simp

theorem numB_bitsN (v : Int) (k : Nat) (h0 : 0 ≤ v) (h1 : v < pw k) : numB (bitsN v k) = v := by
  have step : ∀ j, j ≤ k → numB ((bitsN v k).take j) = v / pw (k - j) := by
    intro j
    induction j with
    | zero => intro _; simp only [List.take_zero, Nat.sub_zero]; rw [Int.ediv_eq_zero_of_lt h0 h1]; rfl
    | succ j ih =>
      intro hj
      rw [bitsN_take_succ v k j (by omega), numB_snoc, ih (by omega), bi_mod]
      have e1 : k - j = (k - 1 - j) + 1 := by omega
      have e2 : k - (j + 1) = k - 1 - j := by omega
      have e3 : v / pw ((k - 1 - j) + 1) = v / pw (k - 1 - j) / 2 := by
        rw [pw_succ, Int.mul_comm, ← Int.ediv_ediv_of_nonneg (by have := pw_pos (k - 1 - j); omega)]
      rw [e1, e2, e3, pw_div]
      omega
  have := step k (Nat.le_refl _)
  rw [List.take_of_length_le (by rw [length_bitsN]; exact Nat.le_refl _), Nat.sub_self, pw_zero, Int.ediv_one] at this
  exact this

theorem numB_bitsI (s : Bool) (v k : Int) (h : validI s v k = true) : numB (bitsI v k) = (if v < 0 then v + pw k.toNat else v) ∧ 0 ≤ k ∧ k ≤ 57 ∧ (s = false → 0 ≤ v) := by
  unfold validI at h
  simp only [Bool.and_eq_true, decide_eq_true_eq] at h
  obtain ⟨⟨hk0, hk1⟩, hs⟩ := h
  have hp := pw_pos k.toNat
  unfold bitsI
  cases s with
  | false =>
    simp only [Bool.false_eq_true, if_false, decide_eq_true_eq] at hs
    rw [if_neg (by omega)]
    exact ⟨numB_bitsN _ _ hs.1 hs.2, hk0, hk1, fun _ => hs.1⟩
  | true =>
    simp only [if_true] at hs
    refine ⟨?_, hk0, hk1, fun h => by cases h⟩
    by_cases h0 : k ≤ 0
    · rw [fitB_neg v k h0, beq_iff_eq] at hs
      subst hs
      rw [if_neg (by omega)]
      exact numB_bitsN _ _ (by omega) (by omega)
    · rw [fitB_mid v k (by omega) (by omega), decide_eq_true_eq] at hs
      have hm := pw_succ (k - 1).toNat
      rw [show (k - 1).toNat + 1 = k.toNat by omega] at hm
      by_cases hv : v < 0
      · rw [if_pos hv]; exact numB_bitsN _ _ (by omega) (by omega)
      · rw [if_neg hv]; exact numB_bitsN _ _ (by omega) (by omega)

theorem sgn_bitsI (v k : Int) (h : validI true v k = true) : (if 0 < k ∧ numB (bitsI v k) / 2 ^ (k.toNat - 1) = 1 then numB (bitsI v k) - pw k.toNat else numB (bitsI v k)) = v := by
  have hn := (numB_bitsI true v k h).1
  rw [hn]
  unfold validI at h
  simp only [Bool.and_eq_true, decide_eq_true_eq, if_true] at h
  obtain ⟨⟨hk0, hk1⟩, hs⟩ := h
  by_cases h0 : k ≤ 0
  · rw [fitB_neg v k h0, beq_iff_eq] at hs
    subst hs
    rw [if_neg (by omega), if_neg (by omega)]
  · rw [fitB_mid v k (by omega) (by omega), decide_eq_true_eq] at hs
    have hm := pw_succ (k - 1).toNat
    rw [show (k - 1).toNat + 1 = k.toNat by omega] at hm
    have e : (2 : Int) ^ (k.toNat - 1) = pw (k - 1).toNat := by rw [show (k - 1).toNat = k.toNat - 1 by omega]; rfl
    have hp := pw_pos (k - 1).toNat
    rw [e]
    generalize pw (k - 1).toNat = q at *
    rw [hm]
    by_cases hv : v < 0
    · rw [if_pos hv, if_pos ⟨by omega, by rw [Int.ediv_eq_iff_of_pos (by omega)]; omega⟩]; omega
    · rw [if_neg hv, if_neg (fun hh => by have := Int.ediv_eq_zero_of_lt (by omega : 0 ≤ v) (by omega : v < q); omega)]

theorem len_bitsI (v k : Int) : (bitsI v k).length = k.toNat := by unfold bitsI; rw [length_bitsN]
end Go.Proofs.Ytlaoamlmpdbmmaa
