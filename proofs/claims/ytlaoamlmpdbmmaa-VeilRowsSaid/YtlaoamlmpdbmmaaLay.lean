/- Numbers are laid: contracts of (*bits.Writer).lay, Put, Signed, Len. -/
import Derived.Test.YtlaoamlmpdbmmaaLayA
namespace Go.Proofs.Ytlaoamlmpdbmmaa
set_option linter.unusedVariables false
set_option maxRecDepth 100000
open Go.RowKit

/-- The k bits of a number, the highest first. -/
def bitsN (v : Int) (k : Nat) : List Bool := (List.range k).map fun i => v / 2 ^ (k - 1 - i) % 2 == 1
theorem length_bitsN (v : Int) (k : Nat) : (bitsN v k).length = k := by simp [bitsN]
theorem bitsN_take_succ (v : Int) (k i : Nat) (h : i < k) : (bitsN v k).take (i + 1) = (bitsN v k).take i ++ [v / 2 ^ (k - 1 - i) % 2 == 1] := by
  rw [List.take_succ_eq_append_getElem (by simpa [bitsN] using h)]
  simp [bitsN]

theorem and_one (a : Int) (h0 : 0 ≤ a) (h1 : a ≤ 18446744073709551615) : bits .and .u64 a 1 = a % 2 := by
  obtain ⟨n, rfl⟩ := Int.eq_ofNat_of_zero_le h0
  have ea : (BitVec.ofInt 64 (n : Int)).toNat = n := by rw [BitVec.ofInt_natCast, BitVec.toNat_ofNat]; exact Nat.mod_eq_of_lt (by omega)
  have eb : (BitVec.ofInt 64 1).toNat = 1 := rfl
  show IntKind.u64.wrap ((BitVec.ofInt 64 (n : Int) &&& BitVec.ofInt 64 1).toNat : Int) = _
  rw [BitVec.toNat_and, ea, eb, Nat.and_one_is_mod, IntKind.wrap_u64]
  omega
theorem and_byte (v : Int) (n : Nat) (h0 : 0 ≤ v) (h1 : v ≤ 18446744073709551615) : bits .and .u64 (v / 2 ^ n) 1 % 256 = v / 2 ^ n % 2 := by
  have hp : (0 : Int) < 2 ^ n := Int.pow_pos (by omega)
  have a0 : 0 ≤ v / 2 ^ n := Int.ediv_nonneg h0 (by omega)
  have a1 : v / 2 ^ n ≤ v := Int.ediv_le_self _ h0
  rw [and_one _ a0 (by omega)]
  omega
theorem bi_mod (a : Int) : bi (a % 2 == 1) = a % 2 := by
  have : a % 2 = 0 ∨ a % 2 = 1 := by omega
  rcases this with h | h <;> rw [h] <;> rfl






/-- The number is laid, or is the first error. -/
def putTo (L : List Bool) (er : Int) (ok : Bool) (v k : Int) : List Bool × Int := if er ≠ 0 then (L, er) else if ok then (L ++ bitsN v k.toNat, 0) else (L, 5)
def okPut (v k : Int) : Bool := decide (0 ≤ k ∧ k ≤ 57 ∧ v < pw k.toNat)
def okSgn (v k : Int) : Bool := widB k && fitB v k


theorem pw_div (v : Int) (n : Nat) : v / 2 ^ n = v / pw n := rfl




end Go.Proofs.Ytlaoamlmpdbmmaa
