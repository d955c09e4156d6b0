/- Widths of numbers, and what fits them; spectra told in steps. No program. -/
import Derived.Test.YtcepfbflgngmjaaQuantN
import Derived.Test.YtcepfbflgngmjaaToneA
import Derived.Test.YtcepfbflgngmjaaFrameA
namespace Go.Proofs.Ytcepfbflgngmjaa
set_option linter.unusedVariables false
set_option maxRecDepth 100000
open Go.RowKit

theorem bitLen_lt : ∀ (n x : Nat), x < 18446744073709551616 → (Lib.bitLen x ≤ n ↔ x < 2 ^ n)
  | n, 0, _ => by
    have : Lib.bitLen 0 = 0 := rfl
    rw [this]
    exact ⟨fun _ => Nat.pow_pos (by omega), fun _ => Nat.zero_le _⟩
  | 0, x + 1, h => by
    rw [bitLen_half (x + 1) (by omega) h]
    simp
  | n + 1, x + 1, h => by
    have ih := bitLen_lt n ((x + 1) / 2) (by omega)
    rw [bitLen_half (x + 1) (by omega) h, Nat.pow_succ]
    constructor
    · intro h1
      have := ih.1 (by omega)
      omega
    · intro h1
      have := ih.2 (by omega)
      omega
/-- A number fits k bits just if it needs no more. -/
theorem widthI_le (v k : Int) (h1 : -9223372036854775808 ≤ v) (h2 : v ≤ 9223372036854775807) (hk0 : 0 ≤ k) (hk : k ≤ 63) : widthI v ≤ k ↔ fitB v k = true := by
  by_cases hv : v = 0
  · subst hv
    have e : widthI 0 = 0 := rfl
    rw [e]
    by_cases hz : k ≤ 0
    · rw [fitB_neg _ _ hz]; exact ⟨fun _ => rfl, fun _ => hk0⟩
    · have := pw_pos (k - 1).toNat
      rw [fitB_mid _ _ (by omega) hk, decide_eq_true_eq]; exact ⟨fun _ => by omega, fun _ => hk0⟩
  · unfold widthI
    rw [if_neg hv]
    by_cases hz : k ≤ 0
    · rw [fitB_neg _ _ hz, beq_iff_eq]
      constructor
      · intro h; omega
      · intro h; exact absurd h hv
    · obtain ⟨n, rfl⟩ : ∃ n : Nat, k = n + 1 := ⟨(k - 1).toNat, by omega⟩
      have hb := bitLen_lt n (upI v).toNat (by unfold upI; split <;> omega)
      rw [fitB_mid _ _ (by omega) hk, decide_eq_true_eq, show ((n : Int) + 1 - 1).toNat = n by omega]
      have e : pw n = ((2 ^ n : Nat) : Int) := by unfold pw; rw [Int.natCast_pow]; rfl
      rw [e]
      generalize 2 ^ n = q at *
      generalize Lib.bitLen (upI v).toNat = L at *
      constructor
      · intro h
        have := hb.1 (by omega)
        unfold upI at this
        split at this <;> omega
      · intro h
        have : L ≤ n := hb.2 (by unfold upI; split <;> omega)
        omega
theorem widthI_fit (v k : Int) (h1 : -9223372036854775808 ≤ v) (h2 : v ≤ 9223372036854775807) (hk : k ≤ 63) (h : widthI v ≤ k) : fitB v k = true := by
  have := widthI_bd v
  exact (widthI_le v k h1 h2 (by omega) hk).1 h
/-- Greater numbers need no less bits. -/
theorem widthI_mono (a b : Int) (h0 : 0 ≤ a) (h1 : a ≤ b) (h2 : b ≤ 9223372036854775807) : widthI a ≤ widthI b := by
  by_cases ha : a = 0
  · subst ha
    have := widthI_bd b
    exact this.1
  · unfold widthI
    rw [if_neg ha, if_neg (by omega)]
    have e1 : (upI a).toNat = a.toNat := by unfold upI; rw [if_neg (by omega)]
    have e2 : (upI b).toNat = b.toNat := by unfold upI; rw [if_neg (by omega)]
    rw [e1, e2]
    have := (bitLen_lt (Lib.bitLen b.toNat) b.toNat (by omega)).1 (Nat.le_refl _)
    have := (bitLen_lt (Lib.bitLen b.toNat) a.toNat (by omega)).2 (by omega)
    omega
theorem widthI_max (a b : Int) (ha : 0 ≤ a ∧ a ≤ 9223372036854775807) (hb : 0 ≤ b ∧ b ≤ 9223372036854775807) : widthI (max a b) = max (widthI a) (widthI b) := by
  rcases Int.le_total a b with h | h
  · have := widthI_mono a b ha.1 h hb.2
    rw [show max a b = b by omega]
    omega
  · have := widthI_mono b a hb.1 h ha.2
    rw [show max a b = a by omega]
    omega
/-- What widths bound. -/
theorem wideTo_ge (f : Nat → Int) (n k : Nat) (hk : k < n) : widthI (f k) ≤ wideTo f n (k / 4) := by
  induction n with
  | zero => omega
  | succ n ih =>
    rw [← wideTo_succ]
    dsimp only
    by_cases e : k = n
    · subst e
      rw [if_pos rfl]
      omega
    · have := ih (by omega)
      split
      · next h => rw [← h]; omega
      · exact this
theorem wideTo_le (f : Nat → Int) (c : Int) (h0 : 0 ≤ c) (n j : Nat) (h : ∀ k, k < n → k / 4 = j → widthI (f k) ≤ c) : wideTo f n j ≤ c := by
  induction n with
  | zero => exact h0
  | succ n ih =>
    have ih' := ih fun k hk e => h k (by omega) e
    rw [← wideTo_succ]
    dsimp only
    split
    · next e =>
      have := h n (by omega) e.symm
      rw [← e]
      omega
    · exact ih'
/-- A frame of these gains, scales, widths and steps. -/
def frN (g s u q : Nat → Int) : Nat → Int := fun k => if k < 4 then g k else if k < 9 then s (k - 5) else if k < 13 then u (k - 9) else q (k - 13)
theorem frN_g (g s u q : Nat → Int) (k : Nat) (h : k < 4) : frN g s u q k = g k := by unfold frN; rw [if_pos h]
theorem frN_s (g s u q : Nat → Int) (k : Nat) (h : k < 4) : frN g s u q (5 + k) = s k := by unfold frN; rw [if_neg (by omega), if_pos (by omega), show 5 + k - 5 = k by omega]
theorem frN_u (g s u q : Nat → Int) (k : Nat) (h : k < 4) : frN g s u q (9 + k) = u k := by unfold frN; rw [if_neg (by omega), if_neg (by omega), if_pos (by omega), show 9 + k - 9 = k by omega]
theorem frN_q (g s u q : Nat → Int) (k : Nat) : frN g s u q (13 + k) = q k := by unfold frN; rw [if_neg (by omega), if_neg (by omega), if_neg (by omega), show 13 + k - 13 = k by omega]
/-- A spectrum told: the frame's numbers. -/
def tolN (g s X : Nat → Int) : Nat → Int := frN g s (wideF (toldR stepI X s)) (toldR stepI X s)
/-- A mask. -/
def maskI (X : Nat → Int) (k : Nat) : Int := widthI (peakL (part X (k * 4) 4))
theorem nearI_fits (v : Int) (n : Nat) (h1 : -9223372036854775808 ≤ v) (h2 : v ≤ 9223372036854775807) : -9223372036854775808 ≤ nearI v (pw n) ∧ nearI v (pw n) ≤ 9223372036854775807 := by
  have hp := pw_pos n
  have := quot_bd v (pw n) (by omega) h1 h2
  by_cases hn0 : n = 0
  · subst hn0
    have e : pw 0 = 1 := rfl
    unfold nearI
    rw [e] at this ⊢
    split <;> omega
  · have h2' : 2 ≤ pw n := by have := pw_mono 1 n (by omega); rw [show pw 1 = 2 from rfl] at this; exact this
    generalize pw n = p at *
    have hq : v / p ≤ 4611686018427387904 := by
      have := Int.ediv_le_ediv (a := v) (b := 9223372036854775807) (c := p) (by omega) h2
      have h3 : (9223372036854775807 : Int) / p ≤ 4611686018427387904 := by
        apply Int.ediv_le_of_le_mul (by omega)
        omega
      omega
    unfold nearI
    split <;> omega
theorem told_fits {X : Nat → Int} (s : Nat → Int) (h : Fits64 X) : Fits64 (toldR stepI X s) := fun k => by
  unfold toldR
  split
  · exact nearI_fits _ _ (h k).1 (h k).2
  · show -9223372036854775808 ≤ (0 : Int) ∧ (0 : Int) ≤ 9223372036854775807
    omega
end Go.Proofs.Ytcepfbflgngmjaa
