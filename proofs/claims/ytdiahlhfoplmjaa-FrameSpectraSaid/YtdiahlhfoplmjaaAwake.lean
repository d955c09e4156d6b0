/- The chapter's example: calliopelaw10.awake. -/
import Derived.Test.YtdiahlhfoplmjaaFrBytesL
namespace Go.Proofs.Ytdiahlhfoplmjaa
set_option linter.unusedVariables false
open Go.RowKit Go.ChangeShapes Go.WideShapes

theorem FrB.row {t : TypeId} {W : World} {b : Nat} {F : Nat → Int} {s : Value} (h : FrB t W b F s) (G : Nat → Int) (s' : Value) : FrB t (W.setRow b (rowN 29 (frC G s'))) b G s' := setRow_heap _ _ _ _ _ _ h
theorem FrB.rowOther {t : TypeId} {W : World} {b c : Nat} {F : Nat → Int} {s : Value} (h : FrB t W b F s) (hne : b ≠ c) (cs : Array Value) : FrB t (W.setRow c cs) b F s := (setRow_other _ _ _ _ hne).trans h
theorem SlF.less {s n m : Nat} {w : World} {p : Option Addr} {F : Nat → Int} (h : SlF s w p n F) (hm : m ≤ n) : SlF s w p m F := fun h0 => by
  obtain ⟨g, o, h1, h2, h3⟩ := h (by omega)
  exact ⟨g, o, h1, h2, fun j hj => h3 j (Nat.lt_of_lt_of_le hj (Nat.mul_le_mul_left s hm))⟩

theorem zero_FrP : FrP (fun _ => 0) 0 (fun _ => 0) := ⟨fun k hk => by omega, fun k hk => by omega, fun k hk => by omega, fun k hk => by rfl, by omega, fun k hk => by omega⟩
theorem zero_err : bytesErr (enc (fun _ => 0) 0 (fun _ => 0)) 0 24 = 0 := by decide +kernel
theorem zero_b0 : byteAt (enc (fun _ => 0) 0 (fun _ => 0)) 0 = 64 := by decide +kernel
theorem zero_b6 : byteAt (enc (fun _ => 0) 0 (fun _ => 0)) 6 = 0 := by decide +kernel

set_option maxRecDepth 100000 in
theorem awake_any (w : World) : Calls Try.prog 11 #[] w fun e w' => e = .returned (.bool true) ∧ Old w w' := by
  have hB := fun w => FBytes_yes (fun _ => 0) none 0 0 (fun _ => 0) 24 w (fun h => absurd h (by omega)) (fun _ => by dsimp only; omega) (Nat.le_refl _) (Nat.zero_le _) zero_FrP
  have hC := fun w => Bits_any (fun _ => 0) none 0 0 w (fun k hk => by omega) (by omega)
  rw [frC_zero] at hB hC
  rw [show costI (fun _ => 0) 0 = 52 from by unfold costI; rw [sum_four]; rfl] at hC
  have HB := Lib.hid hB
  have HC := Lib.hid hC
  clear hB hC
  go_enter Try.func11, Try.ntmps11
  go_wp2_with fail
  refine (HB.out _).mono ?_
  rintro e w1 ⟨ho, hh⟩
  rcases hh with ⟨h0, rfl⟩ | ⟨h0, g, rfl, hg, hgb⟩
  · exact absurd zero_err h0
  · have HO := Lib.hid ho
    have d0 : w1.cell? ⟨g, 0, none⟩ = some (.int .u8 64) := by
      rw [cell_of_row _ _ _ _ _ _ hgb, ← zero_b0]
      rfl
    have d6 : w1.cell? ⟨g, 6, none⟩ = some (.int .u8 0) := by
      rw [cell_of_row _ _ _ _ _ _ hgb, ← zero_b6]
      rfl
    clear ho h0 hgb HB
    rw [show (24 : Int).toNat = 24 from rfl]
    go_wp2_with fail
    refine (HC.out _).mono ?_
    rintro e w2 ⟨rfl, ho2⟩
    have HO2 := Lib.hid (HO.out.trans ho2)
    clear ho2 HO HC d0 d6
    go_wp2_with fail
    go_ret
    exact ⟨rfl, HO2.out⟩
end Go.Proofs.Ytdiahlhfoplmjaa
