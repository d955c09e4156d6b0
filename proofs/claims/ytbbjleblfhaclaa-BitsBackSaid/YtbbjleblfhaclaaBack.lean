/- What was laid is read as it was: plain facts on bits, bytes and numbers. -/
import Derived.Test.YtbbjleblfhaclaaEnd
import Derived.Test.YtbbjleblfhaclaaLayI
namespace Go.Proofs.Ytbbjleblfhaclaa
set_option linter.unusedVariables false
open Go.RowKit Go.ChangeShapes Go.WideShapes

theorem byte_bit_at (L : List Bool) (i : Nat) : (byteAt L (i / 8) / 2 ^ (7 - i % 8) % 2 == 1) = L.getD i false := by
  have key : byteAt L (i / 8) / 2 ^ (7 - i % 8) % 2 = bi (L.getD i false) := by
    generalize hq : i / 8 = q
    unfold byteAt
    have h0 := bi_01 (L.getD (8 * q) false); have h1 := bi_01 (L.getD (8 * q + 1) false); have h2 := bi_01 (L.getD (8 * q + 2) false); have h3 := bi_01 (L.getD (8 * q + 3) false)
    have h4 := bi_01 (L.getD (8 * q + 4) false); have h5 := bi_01 (L.getD (8 * q + 5) false); have h6 := bi_01 (L.getD (8 * q + 6) false); have h7 := bi_01 (L.getD (8 * q + 7) false)
    rcases eight i with h | h | h | h | h | h | h | h <;> rw [h]
    · rw [show i = 8 * q by omega]; omega
    · rw [show i = 8 * q + 1 by omega]; omega
    · rw [show i = 8 * q + 2 by omega]; omega
    · rw [show i = 8 * q + 3 by omega]; omega
    · rw [show i = 8 * q + 4 by omega]; omega
    · rw [show i = 8 * q + 5 by omega]; omega
    · rw [show i = 8 * q + 6 by omega]; omega
    · rw [show i = 8 * q + 7 by omega]; omega
  rw [key]
  cases L.getD i false <;> rfl

theorem bitsOf_padded (L : List Bool) (n : Nat) (h : L.length ≤ 8 * n) : bitsOf (padded L n) = L ++ List.replicate (8 * n - L.length) false := by
  apply List.ext_getElem?
  intro i
  by_cases hi : i < 8 * n
  · rw [bitsOf_get _ _ (by rw [length_padded]; exact hi)]
    have hb : bitAt (padded L n) i = L.getD i false := by
      unfold bitAt
      have e : (padded L n).getD (i / 8) 0 = byteAt L (i / 8) := by
        have hlt : i / 8 < n := by omega
        simp [padded, List.getD, hlt]
      rw [e]
      exact byte_bit_at L i
    rw [hb]
    by_cases hl : i < L.length
    · rw [List.getElem?_append_left hl, List.getElem?_eq_getElem hl]; simp [List.getD, hl]
    · rw [List.getElem?_append_right (by omega), getD_end L i (by omega), List.getElem?_replicate, if_pos (by omega)]
  · rw [List.getElem?_eq_none (by rw [length_bitsOf, length_padded]; omega), List.getElem?_eq_none (by simp; omega)]

theorem next_padded (A M C : List Bool) (n : Nat) (h : (A ++ M ++ C).length ≤ 8 * n) : nextB (padded (A ++ M ++ C) n) A.length M.length = M := by
  unfold nextB
  rw [bitsOf_padded _ _ h, List.append_assoc, List.append_assoc, List.drop_left, List.take_left]
theorem rest_padded (L : List Bool) (n : Nat) (h : L.length ≤ 8 * n) : restF (padded L n) L.length = true := by
  unfold restF
  rw [bitsOf_padded _ _ h, List.drop_left]
  simp

theorem numB_bitsN (v : Int) (k : Nat) (h0 : 0 ≤ v) (h1 : v < pw k) : numB (bitsN v k) = v := by
  have step : ∀ j, j ≤ k → numB ((bitsN v k).take j) = v / pw (k - j) := by
    intro j
    induction j with
    | zero => intro _; simp only [List.take_zero, Nat.sub_zero]; rw [Int.ediv_eq_zero_of_lt h0 h1]; rfl
    | succ j ih =>
      intro hj
      rw [bitsN_take_succ v k j (by omega), numB_snoc, ih (by omega), bi_mod]
      have e1 : k - j = (k - 1 - j) + 1 := by omega
      have e2 : k - (j + 1) = k - 1 - j := by omega
      have e3 : v / pw ((k - 1 - j) + 1) = v / pw (k - 1 - j) / 2 := by
        rw [pw_succ, Int.mul_comm, ← Int.ediv_ediv_of_nonneg (by have := pw_pos (k - 1 - j); omega)]
      rw [e1, e2, e3, pw_div]
      omega
  have := step k (Nat.le_refl _)
  rw [List.take_of_length_le (by rw [length_bitsN]; exact Nat.le_refl _), Nat.sub_self, pw_zero, Int.ediv_one] at this
  exact this

theorem numB_bitsI (s : Bool) (v k : Int) (h : validI s v k = true) : numB (bitsI v k) = (if v < 0 then v + pw k.toNat else v) ∧ 0 ≤ k ∧ k ≤ 57 ∧ (s = false → 0 ≤ v) := by
  unfold validI at h
  simp only [Bool.and_eq_true, decide_eq_true_eq] at h
  obtain ⟨⟨hk0, hk1⟩, hs⟩ := h
  have hp := pw_pos k.toNat
  unfold bitsI
  cases s with
  | false =>
    simp only [Bool.false_eq_true, if_false, decide_eq_true_eq] at hs
    rw [if_neg (by omega)]
    exact ⟨numB_bitsN _ _ hs.1 hs.2, hk0, hk1, fun _ => hs.1⟩
  | true =>
    simp only [if_true] at hs
    refine ⟨?_, hk0, hk1, fun h => by cases h⟩
    by_cases h0 : k ≤ 0
    · rw [fitB_neg v k h0, beq_iff_eq] at hs
      subst hs
      rw [if_neg (by omega)]
      exact numB_bitsN _ _ (by omega) (by omega)
    · rw [fitB_mid v k (by omega) (by omega), decide_eq_true_eq] at hs
      have hm := pw_succ (k - 1).toNat
      rw [show (k - 1).toNat + 1 = k.toNat by omega] at hm
      by_cases hv : v < 0
      · rw [if_pos hv]; exact numB_bitsN _ _ (by omega) (by omega)
      · rw [if_neg hv]; exact numB_bitsN _ _ (by omega) (by omega)

theorem sgn_bitsI (v k : Int) (h : validI true v k = true) : (if 0 < k ∧ numB (bitsI v k) / 2 ^ (k.toNat - 1) = 1 then numB (bitsI v k) - pw k.toNat else numB (bitsI v k)) = v := by
  have hn := (numB_bitsI true v k h).1
  rw [hn]
  unfold validI at h
  simp only [Bool.and_eq_true, decide_eq_true_eq, if_true] at h
  obtain ⟨⟨hk0, hk1⟩, hs⟩ := h
  by_cases h0 : k ≤ 0
  · rw [fitB_neg v k h0, beq_iff_eq] at hs
    subst hs
    rw [if_neg (by omega), if_neg (by omega)]
  · rw [fitB_mid v k (by omega) (by omega), decide_eq_true_eq] at hs
    have hm := pw_succ (k - 1).toNat
    rw [show (k - 1).toNat + 1 = k.toNat by omega] at hm
    have e : (2 : Int) ^ (k.toNat - 1) = pw (k - 1).toNat := by rw [show (k - 1).toNat = k.toNat - 1 by omega]; rfl
    have hp := pw_pos (k - 1).toNat
    rw [e]
    generalize pw (k - 1).toNat = q at *
    rw [hm]
    by_cases hv : v < 0
    · rw [if_pos hv, if_pos ⟨by omega, by rw [Int.ediv_eq_iff_of_pos (by omega)]; omega⟩]; omega
    · rw [if_neg hv, if_neg (fun hh => by have := Int.ediv_eq_zero_of_lt (by omega : 0 ≤ v) (by omega : v < q); omega)]

/-- The bits of items, one behind the other. -/
def bitsK (ks : List It) : List Bool := ks.flatMap fun x => bitsI x.2.1 x.2.2
theorem bitsK_snoc (ks : List It) (x : It) : bitsK (ks ++ [x]) = bitsK ks ++ bitsI x.2.1 x.2.2 := by simp [bitsK]
theorem len_bitsI (v k : Int) : (bitsI v k).length = k.toNat := by unfold bitsI; rw [length_bitsN]
/-- All that is kept fits. -/
def AllV (ks : List It) : Prop := ∀ x ∈ ks, validI x.1 x.2.1 x.2.2 = true ∧ -9223372036854775808 ≤ x.2.1 ∧ x.2.1 ≤ 9223372036854775807
theorem bitsK_len (ks : List It) (h : AllV ks) : (bitsK ks).length ≤ 57 * ks.length := by
  induction ks with
  | nil => simp [bitsK]
  | cons x ks ih =>
    have h1 := ih (fun y hy => h y (List.mem_cons_of_mem _ hy))
    have h2 := numB_bitsI _ _ _ (h x (List.mem_cons_self)).1
    have e : bitsK (x :: ks) = bitsI x.2.1 x.2.2 ++ bitsK ks := by simp [bitsK]
    rw [e, List.length_append, len_bitsI, List.length_cons]
    omega

/-- Where the reader stands behind j of them. -/
def posK (ks : List It) (j : Nat) : Nat := (bitsK (ks.take j)).length
theorem next_item (ks : List It) (j : Nat) (x : It) (n : Nat) (hx : ks[j]? = some x) (h : AllV ks) (hn : (bitsK ks).length ≤ 8 * n) :
    getTo (padded (bitsK ks) n) (posK ks j) 0 x.2.2 = (numB (bitsI x.2.1 x.2.2), posK ks (j + 1), 0) ∧ posK ks (j + 1) ≤ (bitsK ks).length := by
  have hj : j < ks.length := (List.getElem?_eq_some_iff.1 hx).1
  have hxe : ks[j] = x := (List.getElem?_eq_some_iff.1 hx).2
  have e : bitsK ks = bitsK (ks.take j) ++ bitsI x.2.1 x.2.2 ++ bitsK (ks.drop (j + 1)) := by
    conv => lhs; rw [← List.take_append_drop j ks, List.drop_eq_getElem_cons hj, hxe]
    simp [bitsK]
  have hp : posK ks (j + 1) = posK ks j + x.2.2.toNat := by
    unfold posK
    rw [List.take_succ_eq_append_getElem hj, hxe, bitsK_snoc, List.length_append, len_bitsI]
  obtain ⟨_, hk0, hk1, _⟩ := numB_bitsI _ _ _ (h x (List.mem_of_getElem? hx)).1
  have hl : posK ks j + x.2.2.toNat ≤ (bitsK ks).length := by
    rw [e, List.length_append, List.length_append, len_bitsI]; unfold posK; omega
  refine ⟨?_, by rw [hp]; exact hl⟩
  have hnx := next_padded (bitsK (ks.take j)) (bitsI x.2.1 x.2.2) (bitsK (ks.drop (j + 1))) n (by rw [← e]; exact hn)
  rw [← e, len_bitsI] at hnx
  unfold getTo
  rw [if_neg (by omega), if_neg (by simp), if_neg (by rw [length_padded]; omega), hp]
  show (numB (nextB (padded (bitsK ks) n) (bitsK (ks.take j)).length x.2.2.toNat), _, _) = _
  rw [hnx]

/-- The cells of items. -/
def cellsK (ks : List It) : List Value := ks.flatMap fun x => [.bool x.1, .int .i64 x.2.1, .int .i64 x.2.2]
theorem cellsK_snoc (ks : List It) (x : It) : cellsK (ks ++ [x]) = cellsK ks ++ [.bool x.1, .int .i64 x.2.1, .int .i64 x.2.2] := by simp [cellsK]
theorem cellsK_get (ks : List It) (j : Nat) (x : It) (hx : ks[j]? = some x) : (cellsK ks)[j * 3]? = some (.bool x.1) ∧ (cellsK ks)[j * 3 + 1]? = some (.int .i64 x.2.1) ∧ (cellsK ks)[j * 3 + 2]? = some (.int .i64 x.2.2) := by
  induction ks generalizing j with
  | nil => simp at hx
  | cons y ks ih =>
    have e : cellsK (y :: ks) = [.bool y.1, .int .i64 y.2.1, .int .i64 y.2.2] ++ cellsK ks := by simp [cellsK]
    rw [e]
    cases j with
    | zero => simp at hx; subst hx; simp
    | succ j =>
      have := ih j (by simpa using hx)
      rw [List.getElem?_append_right (by simp; omega), List.getElem?_append_right (by simp; omega), List.getElem?_append_right (by simp; omega)]
      simp only [List.length_cons, List.length_nil]
      rw [show (j + 1) * 3 - (0 + 1 + 1 + 1) = j * 3 by omega, show (j + 1) * 3 + 1 - (0 + 1 + 1 + 1) = j * 3 + 1 by omega, show (j + 1) * 3 + 2 - (0 + 1 + 1 + 1) = j * 3 + 2 by omega]
      exact this
end Go.Proofs.Ytbbjleblfhaclaa
