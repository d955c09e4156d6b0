/- Contracts of table.Ratio, table.Note and the law's own ratio. -/
import Derived.Test.YtfgmfbafiailoaaDoorTurn
namespace Go.Proofs.YtfgmfbafiailoaaDoor
set_option linter.unusedVariables false
open Go.RowKit

def num (t : Nat) : Int := ([1, 16, 9, 6, 5, 4, 45, 3, 8, 5, 9, 15] : List Int).getD t 0
def den (t : Nat) : Int := ([1, 15, 8, 5, 4, 3, 32, 2, 5, 3, 5, 8] : List Int).getD t 1
theorem num_den (t : Nat) (h : t < 12) : 1 ≤ num t ∧ num t ≤ 45 ∧ 1 ≤ den t ∧ den t ≤ 32 := by
  rcases (show t = 0 ∨ t = 1 ∨ t = 2 ∨ t = 3 ∨ t = 4 ∨ t = 5 ∨ t = 6 ∨ t = 7 ∨ t = 8 ∨ t = 9 ∨ t = 10 ∨ t = 11 by omega) with rfl | rfl | rfl | rfl | rfl | rfl | rfl | rfl | rfl | rfl | rfl | rfl <;> decide

/-- The variable holds the ratios. -/
def RatW (w : World) : Prop := ∀ t, t < 12 → w.cell? ⟨0, t * 2, none⟩ = some (.int .i64 (num t)) ∧ w.cell? ⟨0, t * 2 + 1, none⟩ = some (.int .i64 (den t))
theorem RatW.old {w w' : World} (h : RatW w) (k : Old w w') : RatW w' := by
  intro t ht
  obtain ⟨h1, h2⟩ := h t ht
  have h0 : 0 < w.heap.size := block_lt_of_cell (a := ⟨0, t * 2, none⟩) h1
  exact ⟨(k.cell (a := ⟨0, t * 2, none⟩) h0).trans h1, (k.cell (a := ⟨0, t * 2 + 1, none⟩) h0).trans h2⟩

theorem Ratio_no (t : Int) (w : World) (h : t < 0 ∨ 11 < t) :
    Calls Tryd.prog 4 #[.int .i64 t] w fun e w' => e = .returned (.tuple #[.int .i64 0, .int .i64 1]) ∧ w = w' := by
  rcases h with h | h
  · go_enter Tryd.func4, Tryd.ntmps4
    go_wp2
    go_ret2
    exact ⟨rfl, rfl⟩
  · have h0 : 0 ≤ t := by omega
    have h1 : 12 ≤ t := by omega
    clear h
    go_enter Tryd.func4, Tryd.ntmps4
    go_wp2
    go_ret2
    exact ⟨rfl, rfl⟩
theorem Ratio_yes (t : Nat) (w : World) (h : t < 12) (hR : RatW w) :
    Calls Tryd.prog 4 #[.int .i64 t] w fun e w' => e = .returned (.tuple #[.int .i64 (num t), .int .i64 (den t)]) ∧ ∃ n, w' = w.drewN n := by
  obtain ⟨c1, c2⟩ := hR t h
  have i0 : 0 ≤ (t : Int) := by omega
  have i1 : (t : Int) < 12 := by omega
  generalize num t = a at *
  generalize den t = b at *
  go_enter Tryd.func4, Tryd.ntmps4
  go_wp2
  go_quiet (fail)
  go_wp2
  go_ret2
  exact ⟨rfl, _, rfl⟩

theorem ratio_no (t : Int) (w : World) (h : t < 0 ∨ 11 < t) :
    Calls Tryd.prog 5 #[.int .i64 t] w fun e w' => e = .returned (.tuple #[.int .i64 0, .int .i64 1]) ∧ Old w w' := by
  rcases h with h | h
  · go_enter Tryd.func5, Tryd.ntmps5
    go_wp2
    go_ret2
    exact ⟨rfl, (Old.alloc _ _).alloc' _⟩
  · have h0 : 0 ≤ t := by omega
    go_enter Tryd.func5, Tryd.ntmps5
    go_wp2
    go_ret2
    exact ⟨rfl, (Old.alloc _ _).alloc' _⟩
def numA : Array Value := #[.int .i64 1, .int .i64 16, .int .i64 9, .int .i64 6, .int .i64 5, .int .i64 4, .int .i64 45, .int .i64 3, .int .i64 8, .int .i64 5, .int .i64 9, .int .i64 15]
def denA : Array Value := #[.int .i64 1, .int .i64 15, .int .i64 8, .int .i64 5, .int .i64 4, .int .i64 3, .int .i64 32, .int .i64 2, .int .i64 5, .int .i64 3, .int .i64 5, .int .i64 8]
theorem numA_at (t : Nat) (h : t < 12) : numA[t]? = some (.int .i64 (num t)) ∧ denA[t]? = some (.int .i64 (den t)) := by
  rcases (show t = 0 ∨ t = 1 ∨ t = 2 ∨ t = 3 ∨ t = 4 ∨ t = 5 ∨ t = 6 ∨ t = 7 ∨ t = 8 ∨ t = 9 ∨ t = 10 ∨ t = 11 by omega) with rfl | rfl | rfl | rfl | rfl | rfl | rfl | rfl | rfl | rfl | rfl | rfl <;> exact ⟨rfl, rfl⟩
theorem ratio_yes (t : Nat) (w : World) (h : t < 12) :
    Calls Tryd.prog 5 #[.int .i64 t] w fun e w' => e = .returned (.tuple #[.int .i64 (num t), .int .i64 (den t)]) ∧ Old w w' := by
  have i0 : 0 ≤ (t : Int) := by omega
  have i1 : (t : Int) < 12 := by omega
  have i2 : (t : Int) ≤ 11 := by omega
  have C1 := Lib.hid ((cell_of_row _ w.heap.size t _ _ _ (heap_alloc2_old w (.cells numA 2) (.cells denA 2))).trans (numA_at t h).1)
  have C2 := Lib.hid ((cell_of_row _ (w.heap.size + 1) t _ _ _ (heap_alloc2_new w (.cells numA 2) (.cells denA 2))).trans (numA_at t h).2)
  have HO := Lib.hid ((Old.alloc w (.cells numA 2)).alloc' (.cells denA 2))
  generalize num t = a at *
  generalize den t = b at *
  go_enter Tryd.func5, Tryd.ntmps5
  go_wp2
  have c1 := C1.out
  have c2 := C2.out
  clear C1 C2
  unfold numA denA at *
  generalize (w.alloc (.cells #[.int .i64 1, .int .i64 16, .int .i64 9, .int .i64 6, .int .i64 5, .int .i64 4, .int .i64 45, .int .i64 3, .int .i64 8, .int .i64 5, .int .i64 9, .int .i64 15] 2)).alloc (.cells #[.int .i64 1, .int .i64 15, .int .i64 8, .int .i64 5, .int .i64 4, .int .i64 3, .int .i64 32, .int .i64 2, .int .i64 5, .int .i64 3, .int .i64 5, .int .i64 8] 2) = W at *
  go_quiet (fail)
  go_wp2
  go_ret2
  exact ⟨rfl, HO.out.drewN _⟩

theorem Note_no (s : Int) (w : World) (h : s < -60 ∨ 36 < s) :
    Calls Tryd.prog 6 #[.int .i64 s] w fun e w' => e = .returned (.int .i64 0) ∧ w = w' := by
  rcases h with h | h
  · go_enter Tryd.func6, Tryd.ntmps6
    go_wp2
    go_ret
    exact ⟨rfl, rfl⟩
  · have h0 : -60 ≤ s := by omega
    go_enter Tryd.func6, Tryd.ntmps6
    go_wp2
    go_ret
    exact ⟨rfl, rfl⟩

def wholeI (t : Nat) : Int := 4294967296 * num t / den t
theorem whole_bd (t : Nat) (h : t < 12) : 0 ≤ wholeI t ∧ wholeI t < 8589934592 := by
  rcases (show t = 0 ∨ t = 1 ∨ t = 2 ∨ t = 3 ∨ t = 4 ∨ t = 5 ∨ t = 6 ∨ t = 7 ∨ t = 8 ∨ t = 9 ∨ t = 10 ∨ t = 11 by omega) with rfl | rfl | rfl | rfl | rfl | rfl | rfl | rfl | rfl | rfl | rfl | rfl <;> decide
def noteI (t o : Nat) : Int := wholeI t * pw o / 32

theorem Note_yes (s : Int) (t o : Nat) (w : World) (hs : s + 60 = 12 * o + t) (ht : t < 12) (ho : o ≤ 8) (h3 : s ≤ 36) (hR : RatW w) :
    Calls Tryd.prog 6 #[.int .i64 s] w fun e w' => e = .returned (.int .i64 (noteI t o)) ∧ Old w w' := by
  have HR := Lib.hid (Ratio_yes t w ht hR)
  obtain ⟨n1, n2, d1, d2⟩ := num_den t ht
  obtain ⟨w1, w2⟩ := whole_bd t ht
  have p1 := pw_pos o
  have p2 := pw_mono o 8 ho
  have p3 : pw 8 = 256 := rfl
  rw [p3] at p2
  have q1 : 0 ≤ wholeI t * pw o := Int.mul_nonneg w1 (by omega)
  have q2 : wholeI t * pw o ≤ 8589934592 * 256 := Int.mul_le_mul (by omega) p2 (by omega) (by omega)
  have e1 : (12 * (o : Int) + t).tmod 12 = t := by rw [tmod_pos _ _ (by omega)]; omega
  have e2 : (12 * (o : Int) + t).tdiv 12 = o := by rw [tdiv_pos _ _ (by omega)]; omega
  have e3 : (4294967296 * num t).tdiv (den t) = wholeI t := tdiv_pos _ _ (by omega)
  have e4 : s - -60 = 12 * (o : Int) + t := by omega
  have s1 : -60 ≤ s := by omega
  have o1 : 0 ≤ (o : Int) := by omega
  have o2 : (o : Int) ≤ 8 := by omega
  have t1 : 0 ≤ (t : Int) := by omega
  have t2 : (t : Int) < 12 := by omega
  clear hR p3
  unfold noteI
  have hp : ((2 : Int) ^ o) = pw o := rfl
  generalize num t = a at *
  generalize den t = b at *
  generalize wholeI t = W at *
  generalize pw o = p at *
  go_enter Tryd.func6, Tryd.ntmps6
  go_wp2_with fail
  refine HR.out.mono ?_
  rintro e w' ⟨rfl, n, rfl⟩
  go_wp2
  go_ret
  exact ⟨rfl, (Old.refl w).drewN _⟩
end Go.Proofs.YtfgmfbafiailoaaDoor
