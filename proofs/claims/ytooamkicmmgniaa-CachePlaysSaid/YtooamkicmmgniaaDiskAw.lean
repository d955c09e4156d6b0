/- A disk's example: what the chapter's calls tell, one by one. No walk of a law. -/
import Derived.Test.YtooamkicmmgniaaDiskE
namespace Go.Proofs.Ytooamkicmmgniaa
set_option linter.unusedVariables false
set_option maxRecDepth 100000
open Go.RowKit Go.ChangeShapes Go.WideShapes

/-- The image of one byte 7. -/
def exI : Nat → Int := fun j => [7].getD j 0
def exD0 : Dsk := dk0 1 exI
def exD1 : Dsk := exD0.set 0 (Flt.mk 1 (exD0.F 0).a (exD0.F 0).x).norm
def exD2 : Dsk := exD1.bad 0
def exD3 : Dsk := exD2.more
theorem exN : pgs 1 = 1 := rfl
theorem ex1_f : (exD1.F 0).f = 1 := by simp [exD1, Dsk.set, updF, Flt.norm]
theorem ex1_less : ((exD1.more).F 0).less.norm = Flt.z := by simp [exD1, exD0, Dsk.more, Dsk.set, updF, Flt.norm, Flt.less, dk0, Flt.z]
theorem ex2_F : exD2.F 0 = Flt.z := by
  have h : exD1.more.failK 0 = exD1.more.set 0 Flt.z := by
    unfold Dsk.failK
    rw [if_pos (by show 0 < (exD1.F 0).f; rw [ex1_f]; omega), ex1_less]
  unfold exD2 Dsk.bad
  rw [h]
  simp [Dsk.moref, Dsk.set, updF]
theorem ex2_N : exD2.N = 1 := by
  unfold exD2 Dsk.bad Dsk.failK
  split <;> rfl
theorem one64 : wrap64 (0 + 1) = 1 := by rw [IntWalk.wrap64_in _ (by omega)]; rfl
theorem two64 : wrap64 (1 + 1) = 2 := by rw [IntWalk.wrap64_in _ (by omega)]; rfl
theorem ex2_r : exD2.r = 1 := by
  unfold exD2 Dsk.bad Dsk.failK
  split <;> exact one64
theorem ex2_ff : exD2.f = 1 := by
  unfold exD2 Dsk.bad Dsk.failK
  split <;> exact one64
theorem ex2_G : exD2.G = padF 1 exI := by
  unfold exD2 Dsk.bad Dsk.failK
  split <;> rfl
theorem ex3_r : exD3.r = 2 := by
  show wrap64 (exD2.r + 1) = 2
  rw [ex2_r]; exact two64
theorem ex3_f : exD3.f = 1 := ex2_ff
theorem ex3_at : readF exD2 0 0 = 7 := by
  unfold readF pageF
  rw [ex2_F, ex2_G]
  rfl

/-- By 0 nothing is spoilt. -/
theorem xorB_zero {v : Int} (h : 0 ≤ v ∧ v ≤ 255) : xorB v 0 = v := by
  obtain ⟨n, rfl⟩ : ∃ n : Nat, v = n := ⟨v.toNat, by omega⟩
  have ea : (BitVec.ofInt 8 (n : Int)).toNat = n := by rw [BitVec.ofInt_natCast, BitVec.toNat_ofNat]; exact Nat.mod_eq_of_lt (by omega)
  have e0 : BitVec.ofInt 8 (0 : Int) = 0#8 := by decide
  show IntKind.u8.wrap ((BitVec.ofInt 8 (n : Int) ^^^ BitVec.ofInt 8 0).toNat : Int) = _
  rw [e0, BitVec.xor_zero, ea, IntKind.wrap_u8]
  omega
theorem readF_z {d : Dsk} {k : Nat} (hk : k < d.N) (hb : Byt d.G (d.N * 64)) (hz : d.F k = Flt.z) (j : Nat) (hj : j < 64) : readF d k j = d.G (k * 64 + j) := by
  unfold readF pageF
  rw [hz]
  split
  · exact xorB_zero (hb _ (by omega))
  · rfl
end Go.Proofs.Ytooamkicmmgniaa
