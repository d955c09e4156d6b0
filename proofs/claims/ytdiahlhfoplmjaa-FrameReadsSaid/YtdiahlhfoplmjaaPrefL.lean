/- Fields that are read: what the bits that follow tell. Plain facts. -/
import Derived.Test.YtdiahlhfoplmjaaPadL
namespace Go.Proofs.Ytdiahlhfoplmjaa
set_option linter.unusedVariables false
open Go.RowKit Go.ChangeShapes Go.WideShapes

theorem bitsN_double (a : Int) (x : Bool) (k : Nat) (h0 : 0 ≤ a) : bitsN (2 * a + bi x) (k + 1) = bitsN a k ++ [x] := by
  unfold bitsN
  rw [List.range_succ, List.map_append]
  congr 1
  · apply List.map_congr_left
    intro i hi
    rw [List.mem_range] at hi
    have e : (2 * a + bi x) / 2 ^ (k + 1 - 1 - i) = a / 2 ^ (k - 1 - i) := by
      have hp : (2 : Int) ^ (k + 1 - 1 - i) = 2 * 2 ^ (k - 1 - i) := by rw [show k + 1 - 1 - i = (k - 1 - i) + 1 by omega, Int.pow_succ, Int.mul_comm]
      rw [hp, ← Int.ediv_ediv_of_nonneg (by omega)]
      have hb := bi_01 x
      rw [show (2 * a + bi x) / 2 = a by omega]
    rw [e]
  · simp only [List.map_cons, List.map_nil]
    have e : k + 1 - 1 - k = 0 := by omega
    rw [e]
    simp only [Int.pow_zero, Int.ediv_one]
    cases x <;> simp [bi] <;> omega
theorem bitsN_numB : ∀ (n : Nat) (l : List Bool), l.length = n → bitsN (numB l) n = l := by
  intro n
  induction n with
  | zero => intro l hl; rw [List.eq_nil_of_length_eq_zero hl]; rfl
  | succ n ih =>
    intro l hl
    obtain ⟨l', x, rfl⟩ : ∃ l' x, l = l' ++ [x] := ⟨l.dropLast, l.getLast (fun e => by rw [e] at hl; cases hl), (List.dropLast_concat_getLast _).symm⟩
    have hl' : l'.length = n := by simpa using hl
    rw [numB_snoc, bitsN_double _ _ _ (numB_range l').1, ih l' hl']
/-- The number with a sign that bits tell. -/
def sgnB (M : List Bool) (k : Nat) : Int := if 0 < k ∧ numB M / 2 ^ (k - 1) = 1 then numB M - pw k else numB M
theorem bitsI_numB (M : List Bool) (k : Nat) (h : M.length = k) : bitsI (numB M) (k : Int) = M := by
  unfold bitsI
  rw [if_neg (by have := (numB_range M).1; omega), Int.toNat_natCast]
  exact bitsN_numB k M h
theorem bitsI_sgnB (M : List Bool) (k : Nat) (h : M.length = k) : bitsI (sgnB M k) (k : Int) = M := by
  have hr := numB_range M
  rw [h] at hr
  unfold sgnB
  split
  · unfold bitsI
    rw [if_pos (by omega), Int.toNat_natCast, Int.sub_add_cancel]
    exact bitsN_numB k M h
  · exact bitsI_numB M k h
theorem fit_sgnB (M : List Bool) (k : Nat) (h : M.length = k) (hk : k ≤ 57) : fitB (sgnB M k) (k : Int) = true := by
  have hr := numB_range M
  rw [h] at hr
  cases k with
  | zero =>
    have e : M = [] := List.eq_nil_of_length_eq_zero h
    subst e
    rfl
  | succ m =>
    rw [fitB_mid _ _ (by omega) (by omega), decide_eq_true_eq]
    rw [show (((m + 1 : Nat) : Int) - 1).toNat = m by omega]
    unfold sgnB
    rw [show m + 1 - 1 = m by omega, pw_div]
    rw [pw_succ] at hr ⊢
    have hp := pw_pos m
    generalize pw m = q at *
    generalize numB M = v at *
    split
    · next hh =>
      have := hh.2
      rw [Int.ediv_eq_iff_of_pos (by omega)] at this
      omega
    · next hh =>
      have h2 : v / q < 1 ∨ v / q = 1 := by
        have : v / q < 2 := Int.ediv_lt_of_lt_mul (by omega) (by omega)
        omega
      rcases h2 with h2 | h2
      · have : v < 1 * q := by
          have := Int.lt_mul_of_ediv_lt (by omega : (0 : Int) < q) h2
          omega
        omega
      · exact absurd ⟨by omega, h2⟩ hh

theorem pre_next {bs : List Int} {L : List Bool} (h : L <+: bitsOf bs) (k : Nat) (hk : L.length + k ≤ 8 * bs.length) : (L ++ nextB bs L.length k) <+: bitsOf bs := by
  obtain ⟨R, hR⟩ := h
  unfold nextB
  rw [← hR, List.drop_left]
  exact ⟨R.drop k, by rw [List.append_assoc, List.take_append_drop]⟩
theorem next_pre {bs : List Int} {L M : List Bool} (h : (L ++ M) <+: bitsOf bs) : nextB bs L.length M.length = M ∧ L.length + M.length ≤ 8 * bs.length := by
  obtain ⟨R, hR⟩ := h
  refine ⟨?_, ?_⟩
  · unfold nextB
    rw [← hR, List.append_assoc, List.drop_left, List.take_left]
  · have := congrArg List.length hR
    rw [length_bitsOf, List.length_append, List.length_append] at this
    omega
theorem pre_len {bs : List Int} {L : List Bool} (h : L <+: bitsOf bs) : L.length ≤ 8 * bs.length := by
  have := h.length_le
  rwa [length_bitsOf] at this
theorem pre_left {L M : List Bool} {B : List Bool} (h : (L ++ M) <+: B) : L <+: B := (List.prefix_append L M).trans h

/-- Bytes are told by their bits. -/
theorem bytes_of_bits {xs bs : List Int} (ha : isBytes xs) (hb : isBytes bs) (hl : xs.length = bs.length) (h : bitsOf xs = bitsOf bs) : xs = bs := by
  have bit : ∀ i, i < 8 * bs.length → bitAt xs i = bitAt bs i := fun i hi => by
    have h1 := bitsOf_get xs i (by omega)
    have h2 := bitsOf_get bs i hi
    rw [h, h2] at h1
    exact (Option.some.inj h1).symm
  apply List.ext_getElem hl
  intro q h1 h2
  have e : ∀ r, r < 8 → xs[q] / 2 ^ (7 - r) % 2 = bs[q] / 2 ^ (7 - r) % 2 := fun r hr => by
    have := bit (8 * q + r) (by omega)
    unfold bitAt at this
    rw [show (8 * q + r) / 8 = q by omega, show (8 * q + r) % 8 = r by omega, List.getD_eq_getElem?_getD, List.getD_eq_getElem?_getD, List.getElem?_eq_getElem h1, List.getElem?_eq_getElem h2] at this
    simp only [Option.getD_some] at this
    have p1 : xs[q] / 2 ^ (7 - r) % 2 = 0 ∨ xs[q] / 2 ^ (7 - r) % 2 = 1 := by omega
    have p2 : bs[q] / 2 ^ (7 - r) % 2 = 0 ∨ bs[q] / 2 ^ (7 - r) % 2 = 1 := by omega
    rcases p1 with p1 | p1 <;> rcases p2 with p2 | p2 <;> rw [p1, p2] at this ⊢ <;> simp at this
  have r1 := ha _ (List.getElem_mem h1)
  have r2 := hb _ (List.getElem_mem h2)
  have e0 := e 0 (by omega); have e1 := e 1 (by omega); have e2 := e 2 (by omega); have e3 := e 3 (by omega)
  have e4 := e 4 (by omega); have e5 := e 5 (by omega); have e6 := e 6 (by omega); have e7 := e 7 (by omega)
  generalize xs[q] = x at *
  generalize bs[q] = y at *
  simp only [show (7 - 0 : Nat) = 7 from rfl, show (7 - 1 : Nat) = 6 from rfl, show (7 - 2 : Nat) = 5 from rfl, show (7 - 3 : Nat) = 4 from rfl, show (7 - 4 : Nat) = 3 from rfl, show (7 - 5 : Nat) = 2 from rfl, show (7 - 6 : Nat) = 1 from rfl, show (7 - 7 : Nat) = 0 from rfl, show (2 : Int) ^ 7 = 128 from rfl, show (2 : Int) ^ 6 = 64 from rfl, show (2 : Int) ^ 5 = 32 from rfl, show (2 : Int) ^ 4 = 16 from rfl, show (2 : Int) ^ 3 = 8 from rfl, show (2 : Int) ^ 2 = 4 from rfl, show (2 : Int) ^ 1 = 2 from rfl, show (2 : Int) ^ 0 = 1 from rfl] at e0 e1 e2 e3 e4 e5 e6 e7
  omega
theorem isBytes_padded (L : List Bool) (n : Nat) : isBytes (padded L n) := by
  intro x hx
  obtain ⟨i, _, rfl⟩ := List.mem_map.1 hx
  exact byteAt_range L i
/-- Bytes that begin with L, and then hold noughts alone. -/
def Tells (bs : List Int) (L : List Bool) : Prop := L <+: bitsOf bs ∧ restF bs L.length = true
theorem tells_padded (L : List Bool) (n : Nat) (h : L.length ≤ 8 * n) : Tells (padded L n) L :=
  ⟨by rw [bitsOf_padded L n h]; exact List.prefix_append _ _, rest_padded L n h⟩
theorem padded_tells {bs : List Int} {L : List Bool} (hb : isBytes bs) (h : Tells bs L) : padded L bs.length = bs := by
  have hl := pre_len h.1
  refine bytes_of_bits (isBytes_padded _ _) hb (length_padded _ _) ?_
  rw [bitsOf_padded L _ hl]
  obtain ⟨⟨R, hR⟩, h2⟩ := h
  rw [← hR]
  congr 1
  unfold restF at h2
  rw [← hR, List.drop_left] at h2
  have hlen := congrArg List.length hR
  rw [length_bitsOf, List.length_append] at hlen
  rw [← show R.length = 8 * bs.length - L.length by omega]
  symm
  rw [List.eq_replicate_iff]
  refine ⟨rfl, fun b hb => ?_⟩
  have := List.all_eq_true.1 h2 b hb
  simpa using this
end Go.Proofs.Ytdiahlhfoplmjaa
