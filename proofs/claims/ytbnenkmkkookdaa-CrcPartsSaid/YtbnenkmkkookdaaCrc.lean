/- Sums of 32 bits: plain facts, no program. -/
import Derived.WalkKit
import Derived.Laws.BitsAllLaws
import Derived.Laws.BitsLemmas
namespace Go.Proofs.Ytbnenkmkkookdaa
set_option linter.unusedVariables false
open Go.RowKit

def poly : Nat := 3988292384
def step (x : Nat) : Nat := (x / 2) ^^^ (poly * (x % 2))
def steps : Nat → Nat → Nat
  | 0, x => x
  | n + 1, x => step (steps n x)
def push (x : Nat) : Nat := steps 8 x

theorem xor_lt {a b : Nat} (ha : a < 4294967296) (hb : b < 4294967296) : a ^^^ b < 4294967296 := Nat.xor_lt_two_pow (n := 32) ha hb
theorem polyMul (x : Nat) : poly * (x % 2) < 4294967296 := by unfold poly; omega
theorem step_lt {x : Nat} (h : x < 4294967296) : step x < 4294967296 := xor_lt (by omega) (polyMul x)
theorem steps_lt {x : Nat} (h : x < 4294967296) : ∀ n, steps n x < 4294967296
  | 0 => h
  | n + 1 => step_lt (steps_lt h n)
theorem push_lt {x : Nat} (h : x < 4294967296) : push x < 4294967296 := steps_lt h 8

theorem step_xor (x y : Nat) : step (x ^^^ y) = step x ^^^ step y := by
  unfold step
  have e1 : (x ^^^ y) / 2 = x / 2 ^^^ y / 2 := Nat.xor_div_two
  have e2 : poly * ((x ^^^ y) % 2) = (poly * (x % 2)) ^^^ (poly * (y % 2)) := by
    have h : (x ^^^ y) % 2 = (x + y) % 2 := by
      have e := Nat.xor_mod_two_pow (a := x) (b := y) (n := 1)
      simp only [Nat.pow_one] at e
      have hx : x % 2 = 0 ∨ x % 2 = 1 := by omega
      have hy : y % 2 = 0 ∨ y % 2 = 1 := by omega
      rcases hx with hx | hx <;> rcases hy with hy | hy <;> rw [hx, hy] at e <;> simp only [Nat.xor_self, Nat.xor_zero, Nat.zero_xor] at e <;> omega
    have hx : x % 2 = 0 ∨ x % 2 = 1 := by omega
    have hy : y % 2 = 0 ∨ y % 2 = 1 := by omega
    rcases hx with hx | hx <;> rcases hy with hy | hy
    · rw [show (x ^^^ y) % 2 = 0 by omega, hx, hy]; rfl
    · rw [show (x ^^^ y) % 2 = 1 by omega, hx, hy]; rfl
    · rw [show (x ^^^ y) % 2 = 1 by omega, hx, hy]; rfl
    · rw [show (x ^^^ y) % 2 = 0 by omega, hx, hy]; rfl
  rw [e1, e2]
  ac_rfl
theorem steps_xor (x y : Nat) : ∀ n, steps n (x ^^^ y) = steps n x ^^^ steps n y
  | 0 => rfl
  | n + 1 => by show step _ = step _ ^^^ step _; rw [steps_xor x y n, step_xor]
theorem step_two (z : Nat) : step (2 * z) = z := by
  unfold step
  rw [show 2 * z / 2 = z by omega, show 2 * z % 2 = 0 by omega]
  simp
theorem steps_two (z : Nat) : ∀ n, ∀ k, steps n (2 ^ (n + k) * z) = 2 ^ k * z
  | 0, k => by simp [steps]
  | n + 1, k => by
    show step (steps n _) = _
    rw [show n + 1 + k = n + (k + 1) by omega, steps_two z n (k + 1), Nat.pow_succ, show 2 ^ k * 2 * z = 2 * (2 ^ k * z) by rw [Nat.mul_comm (2 ^ k) 2, Nat.mul_assoc], step_two]
theorem push_high (z : Nat) : push (256 * z) = z := by
  have := steps_two z 8 0
  simpa [push] using this
theorem split_byte (x : Nat) : x = (256 * (x / 256)) ^^^ (x % 256) := by
  apply Nat.eq_of_testBit_eq
  intro i
  rw [Nat.testBit_xor, show (256 : Nat) = 2 ^ 8 from rfl, Nat.testBit_two_pow_mul, Nat.testBit_mod_two_pow]
  by_cases h : i < 8
  · simp [h, show ¬ 8 ≤ i by omega]
  · have e : (x / 256).testBit (i - 8) = x.testBit i := by
      rw [show (256 : Nat) = 2 ^ 8 from rfl, Nat.testBit_div_two_pow, show i - 8 + 8 = i by omega]
    simp [h, show 8 ≤ i by omega, e]
theorem push_split (x : Nat) : push x = (x / 256) ^^^ push (x % 256) := by
  conv => lhs; rw [split_byte x]
  unfold push
  rw [steps_xor]
  congr 1
  exact push_high _
/-- A byte is pushed through a register. -/
theorem push_table (r v : Nat) (hv : v < 256) : push (r ^^^ v) = (r / 256) ^^^ push ((r % 256) ^^^ v) := by
  rw [push_split (r ^^^ v)]
  have e1 : (r ^^^ v) / 256 = r / 256 := by
    have := Nat.xor_div_two_pow (a := r) (b := v) (n := 8)
    rw [show (256 : Nat) = 2 ^ 8 from rfl, this, Nat.div_eq_of_lt (a := v) hv, Nat.xor_zero]
  have e2 : (r ^^^ v) % 256 = (r % 256) ^^^ v := by
    have := Nat.xor_mod_two_pow (a := r) (b := v) (n := 8)
    rw [show (256 : Nat) = 2 ^ 8 from rfl, this, Nat.mod_eq_of_lt (a := v) hv]
  rw [e1, e2]

/-- The register behind these bytes. -/
def reg (r : Nat) (xs : List Int) : Nat := xs.foldl (fun r v => push (r ^^^ v.toNat)) r
theorem reg_snoc (r : Nat) (xs : List Int) (x : Int) : reg r (xs ++ [x]) = push (reg r xs ^^^ x.toNat) := by simp [reg]
theorem reg_append (r : Nat) (xs ys : List Int) : reg r (xs ++ ys) = reg (reg r xs) ys := by simp [reg]
theorem reg_lt {r : Nat} (h : r < 4294967296) : ∀ xs : List Int, (∀ x ∈ xs, 0 ≤ x ∧ x ≤ 255) → reg r xs < 4294967296 := by
  intro xs
  induction xs generalizing r with
  | nil => intro _; exact h
  | cons x xs ih =>
    intro hx
    have := hx x (by simp)
    exact ih (push_lt (xor_lt h (by omega))) fun y hy => hx y (by simp [hy])
/-- The sum of these bytes. -/
def sumOf (xs : List Int) : Int := 4294967295 - (reg 4294967295 xs : Int)
theorem sumOf_nil : sumOf [] = 0 := rfl

theorem u32_xor (a b : Nat) (ha : a < 4294967296) (hb : b < 4294967296) : bits .xor .u32 (a : Int) (b : Int) = ((a ^^^ b : Nat) : Int) := by
  have hx := xor_lt ha hb
  have ea : (BitVec.ofInt 32 (a : Int)).toNat = a := by rw [BitVec.ofInt_natCast, BitVec.toNat_ofNat]; exact Nat.mod_eq_of_lt ha
  have eb : (BitVec.ofInt 32 (b : Int)).toNat = b := by rw [BitVec.ofInt_natCast, BitVec.toNat_ofNat]; exact Nat.mod_eq_of_lt hb
  show IntKind.u32.wrap ((BitVec.ofInt 32 (a : Int) ^^^ BitVec.ofInt 32 (b : Int)).toNat : Int) = _
  rw [BitVec.toNat_xor, ea, eb, IntKind.wrap_u32]
  omega
theorem u8_xor (a b : Nat) (ha : a < 256) (hb : b < 256) : bits .xor .u8 (a : Int) (b : Int) = ((a ^^^ b : Nat) : Int) := by
  have hx : a ^^^ b < 256 := Nat.xor_lt_two_pow (n := 8) ha hb
  have ea : (BitVec.ofInt 8 (a : Int)).toNat = a := by rw [BitVec.ofInt_natCast, BitVec.toNat_ofNat]; exact Nat.mod_eq_of_lt ha
  have eb : (BitVec.ofInt 8 (b : Int)).toNat = b := by rw [BitVec.ofInt_natCast, BitVec.toNat_ofNat]; exact Nat.mod_eq_of_lt hb
  show IntKind.u8.wrap ((BitVec.ofInt 8 (a : Int) ^^^ BitVec.ofInt 8 (b : Int)).toNat : Int) = _
  rw [BitVec.toNat_xor, ea, eb, IntKind.wrap_u8]
  omega
theorem u32_and_one (a : Nat) (ha : a < 4294967296) : bits .and .u32 (a : Int) 1 = ((a % 2 : Nat) : Int) := by
  have ea : (BitVec.ofInt 32 (a : Int)).toNat = a := by rw [BitVec.ofInt_natCast, BitVec.toNat_ofNat]; exact Nat.mod_eq_of_lt ha
  have eb : (BitVec.ofInt 32 1).toNat = 1 := rfl
  show IntKind.u32.wrap ((BitVec.ofInt 32 (a : Int) &&& BitVec.ofInt 32 1).toNat : Int) = _
  rw [BitVec.toNat_and, ea, eb, Nat.and_one_is_mod, IntKind.wrap_u32]
  omega
end Go.Proofs.Ytbnenkmkkookdaa
