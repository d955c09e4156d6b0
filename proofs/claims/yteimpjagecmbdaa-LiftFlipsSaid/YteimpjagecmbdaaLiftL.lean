/- Contracts of package lift (makes, Turn, Back, Flip and what it calls), as far as the seat has them. -/
import Derived.Test.YteimpjagecmbdaaNumL
namespace Go.Proofs.Yteimpjagecmbdaa
set_option linter.unusedVariables false
open Go.RowKit

/-- What a number makes of a coefficient. -/
def makeI (v c : Int) : Int := roundI (v * c) 16384
theorem mul_bd (v c M N : Int) (h1 : -M ≤ v) (h2 : v ≤ M) (h3 : 0 ≤ c) (h4 : c ≤ N) : -(M * N) ≤ v * c ∧ v * c ≤ M * N := by
  have a := Int.mul_le_mul_of_nonneg_right h2 h3
  have b := Int.mul_le_mul_of_nonneg_right h1 h3
  have d := Int.mul_le_mul_of_nonneg_left h4 (show 0 ≤ M by omega)
  rw [Int.neg_mul] at b
  omega
theorem makeI_bd (v c M : Int) (h1 : -M ≤ v) (h2 : v ≤ M) (h3 : 0 ≤ c) (h4 : c ≤ 16384) : -M ≤ makeI v c ∧ makeI v c ≤ M + 1 := by
  have := mul_bd v c M 16384 h1 h2 h3 h4
  unfold makeI roundI
  generalize v * c = x at *
  split <;> omega
def turnA1 (a b p : Int) : Int := a + makeI b p
def turnB (a b p u : Int) : Int := b - makeI (turnA1 a b p) u
def turnA (a b p u : Int) : Int := turnA1 a b p + makeI (turnB a b p u) p
def backA1 (a b p : Int) : Int := a - makeI b p
def backB (a b p u : Int) : Int := b + makeI (backA1 a b p) u
def backA (a b p u : Int) : Int := backA1 a b p - makeI (backB a b p u) p
theorem back_turn (a b p u : Int) : backA (turnA a b p u) (turnB a b p u) p u = a ∧ backB (turnA a b p u) (turnB a b p u) p u = b := by
  have e1 : backA1 (turnA a b p u) (turnB a b p u) p = turnA1 a b p := by unfold backA1 turnA; omega
  have e2 : backB (turnA a b p u) (turnB a b p u) p u = b := by unfold backB; rw [e1]; unfold turnB; omega
  refine ⟨?_, e2⟩
  unfold backA
  rw [e1, e2]
  unfold turnA1
  omega
theorem turn_back (a b p u : Int) : turnA (backA a b p u) (backB a b p u) p u = a ∧ turnB (backA a b p u) (backB a b p u) p u = b := by
  have e1 : turnA1 (backA a b p u) (backB a b p u) p = backA1 a b p := by unfold turnA1 backA; omega
  have e2 : turnB (backA a b p u) (backB a b p u) p u = b := by unfold turnB; rw [e1]; unfold backB; omega
  refine ⟨?_, e2⟩
  unfold turnA
  rw [e1, e2]
  unfold backA1
  omega
/-- How far a turn may carry numbers. -/
theorem turn_bd (a b p u M : Int) (h1 : -M ≤ a) (h2 : a ≤ M) (h3 : -M ≤ b) (h4 : b ≤ M) (p0 : 0 ≤ p) (p1 : p ≤ 16384) (u0 : 0 ≤ u) (u1 : u ≤ 16384) :
    (-(2 * M + 1) ≤ turnA1 a b p ∧ turnA1 a b p ≤ 2 * M + 1) ∧ (-(3 * M + 2) ≤ turnB a b p u ∧ turnB a b p u ≤ 3 * M + 2) ∧ (-(5 * M + 4) ≤ turnA a b p u ∧ turnA a b p u ≤ 5 * M + 4) := by
  have x1 := makeI_bd b p M h3 h4 p0 p1
  have y1 : -(2 * M + 1) ≤ turnA1 a b p ∧ turnA1 a b p ≤ 2 * M + 1 := by unfold turnA1; omega
  have x2 := makeI_bd (turnA1 a b p) u (2 * M + 1) y1.1 y1.2 u0 u1
  have y2 : -(3 * M + 2) ≤ turnB a b p u ∧ turnB a b p u ≤ 3 * M + 2 := by unfold turnB; omega
  have x3 := makeI_bd (turnB a b p u) p (3 * M + 2) y2.1 y2.2 p0 p1
  refine ⟨y1, y2, ?_⟩
  unfold turnA
  omega
theorem back_bd (a b p u M : Int) (h1 : -M ≤ a) (h2 : a ≤ M) (h3 : -M ≤ b) (h4 : b ≤ M) (p0 : 0 ≤ p) (p1 : p ≤ 16384) (u0 : 0 ≤ u) (u1 : u ≤ 16384) :
    (-(2 * M + 1) ≤ backA1 a b p ∧ backA1 a b p ≤ 2 * M + 1) ∧ (-(3 * M + 2) ≤ backB a b p u ∧ backB a b p u ≤ 3 * M + 2) ∧ (-(5 * M + 4) ≤ backA a b p u ∧ backA a b p u ≤ 5 * M + 4) := by
  have x1 := makeI_bd b p M h3 h4 p0 p1
  have y1 : -(2 * M + 1) ≤ backA1 a b p ∧ backA1 a b p ≤ 2 * M + 1 := by unfold backA1; omega
  have x2 := makeI_bd (backA1 a b p) u (2 * M + 1) y1.1 y1.2 u0 u1
  have y2 : -(3 * M + 2) ≤ backB a b p u ∧ backB a b p u ≤ 3 * M + 2 := by unfold backB; omega
  have x3 := makeI_bd (backB a b p u) p (3 * M + 2) y2.1 y2.2 p0 p1
  refine ⟨y1, y2, ?_⟩
  unfold backA
  omega

theorem makes_any (v c : Int) (w : World) (h1 : -35184372088832 ≤ v) (h2 : v ≤ 35184372088832) (h3 : 0 ≤ c) (h4 : c ≤ 16384) :
    Calls Try.prog 10 #[.int .i64 v, .int .i64 c] w fun e w' => e = .returned (.int .i64 (makeI v c)) ∧ ∃ n, w' = w.drewN n := by
  obtain ⟨hb1, hb2⟩ : -576460752303423488 ≤ v * c ∧ v * c ≤ 576460752303423488 := mul_bd v c 35184372088832 16384 h1 h2 h3 h4
  have hc := Lib.hid (Round_any (v * c) 14 w (by decide) (by decide) (by omega) (by omega))
  have hw : wrap64 (v * c) = v * c := IntWalk.wrap64_in _ (by omega)
  unfold makeI
  generalize hx : v * c = x at *
  have hw2 : wrap64 (v * c) = x := by rw [hx, hw]
  clear hx hw
  rw [show pw (14 : Int).toNat = 16384 from rfl] at hc
  generalize roundI x 16384 = y at *
  go_enter Try.func10, Try.ntmps10
  go_wp2_with fail
  refine hc.out.mono ?_
  rintro e w1 ⟨rfl, n1, rfl⟩
  go_wp2
  go_ret
  exact ⟨rfl, _, rfl⟩
set_option maxHeartbeats 1000000 in
theorem Turn_any (a b p u : Int) (w : World) (h1 : -4398046511104 ≤ a) (h2 : a ≤ 4398046511104) (h3 : -4398046511104 ≤ b) (h4 : b ≤ 4398046511104) (p0 : 0 ≤ p) (p1 : p ≤ 16384) (u0 : 0 ≤ u) (u1 : u ≤ 16384) :
    Calls Try.prog 9 #[.int .i64 a, .int .i64 b, .agg #[.int .i64 p, .int .i64 u]] w fun e w' => e = .returned (.tuple #[.int .i64 (turnA a b p u), .int .i64 (turnB a b p u)]) ∧ Old w w' := by
  obtain ⟨y1, y2, y3⟩ := turn_bd a b p u 4398046511104 h1 h2 h3 h4 p0 p1 u0 u1
  have c1 := Lib.hid (fun w => makes_any b p w (by omega) (by omega) p0 p1)
  have c2 := Lib.hid (fun w => makes_any (turnA1 a b p) u w (by omega) (by omega) u0 u1)
  have c3 := Lib.hid (fun w => makes_any (turnB a b p u) p w (by omega) (by omega) p0 p1)
  have q1 : wrap64 (a + makeI b p) = turnA1 a b p := IntWalk.wrap64_in (turnA1 a b p) (by omega)
  have q2 : wrap64 (b - makeI (turnA1 a b p) u) = turnB a b p u := IntWalk.wrap64_in (turnB a b p u) (by omega)
  have q3 : wrap64 (turnA1 a b p + makeI (turnB a b p u) p) = turnA a b p u := IntWalk.wrap64_in (turnA a b p u) (by omega)
  clear y1 y2 y3 h1 h2 h3 h4 p0 p1 u0 u1
  generalize turnA a b p u = a3 at *
  generalize turnB a b p u = b2 at *
  generalize turnA1 a b p = a1 at *
  generalize makeI b p = m1 at *
  generalize makeI a1 u = m2 at *
  generalize makeI b2 p = m3 at *
  go_enter Try.func9, Try.ntmps9
  go_wp2_with fail
  refine (c1.out _).mono ?_
  rintro e v1 ⟨rfl, n1, rfl⟩
  go_wp2_with fail
  refine (c2.out _).mono ?_
  rintro e v2 ⟨rfl, n2, rfl⟩
  go_wp2_with fail
  refine (c3.out _).mono ?_
  rintro e v3 ⟨rfl, n3, rfl⟩
  go_wp2
  go_ret2
  exact ⟨by rw [← q3]; rfl, (Old.alloc _ _).drewN _⟩
end Go.Proofs.Yteimpjagecmbdaa
