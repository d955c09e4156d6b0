/- Contracts of package lift (makes, Turn, Back, Flip and what it calls), as far as the seat has them. -/
import Derived.Test.YtpdjdejlhjcicaaNumL
namespace Go.Proofs.Ytpdjdejlhjcicaa
set_option linter.unusedVariables false
open Go.RowKit

/-- What a number makes of a coefficient. -/
def makeI (v c : Int) : Int := roundI (v * c) 16384
theorem mul_bd (v c M N : Int) (h1 : -M ≤ v) (h2 : v ≤ M) (h3 : 0 ≤ c) (h4 : c ≤ N) : -(M * N) ≤ v * c ∧ v * c ≤ M * N := by
  have a := Int.mul_le_mul_of_nonneg_right h2 h3
  have b := Int.mul_le_mul_of_nonneg_right h1 h3
  have d := Int.mul_le_mul_of_nonneg_left h4 (show 0 ≤ M by omega)
  rw [Int.neg_mul] at b
  omega
theorem makeI_bd (v c M : Int) (h1 : -M ≤ v) (h2 : v ≤ M) (h3 : 0 ≤ c) (h4 : c ≤ 16384) : -M ≤ makeI v c ∧ makeI v c ≤ M + 1 := by
  have := mul_bd v c M 16384 h1 h2 h3 h4
  unfold makeI roundI
  generalize v * c = x at *
  split <;> omega
def turnA1 (a b p : Int) : Int := a + makeI b p
def turnB (a b p u : Int) : Int := b - makeI (turnA1 a b p) u
def turnA (a b p u : Int) : Int := turnA1 a b p + makeI (turnB a b p u) p
def backA1 (a b p : Int) : Int := a - makeI b p
def backB (a b p u : Int) : Int := b + makeI (backA1 a b p) u
def backA (a b p u : Int) : Int := backA1 a b p - makeI (backB a b p u) p
theorem back_turn (a b p u : Int) : backA (turnA a b p u) (turnB a b p u) p u = a ∧ backB (turnA a b p u) (turnB a b p u) p u = b := by
  have e1 : backA1 (turnA a b p u) (turnB a b p u) p = turnA1 a b p := by unfold backA1 turnA; omega
  have e2 : backB (turnA a b p u) (turnB a b p u) p u = b := by unfold backB; rw [e1]; unfold turnB; omega
  refine ⟨?_, e2⟩
  unfold backA
  rw [e1, e2]
  unfold turnA1
  omega
theorem turn_back (a b p u : Int) : turnA (backA a b p u) (backB a b p u) p u = a ∧ turnB (backA a b p u) (backB a b p u) p u = b := by
  have e1 : turnA1 (backA a b p u) (backB a b p u) p = backA1 a b p := by unfold turnA1 backA; omega
  have e2 : turnB (backA a b p u) (backB a b p u) p u = b := by unfold turnB; rw [e1]; unfold backB; omega
  refine ⟨?_, e2⟩
  unfold turnA
  rw [e1, e2]
  unfold backA1
  omega
/-- How far a turn may carry numbers. -/
theorem turn_bd (a b p u M : Int) (h1 : -M ≤ a) (h2 : a ≤ M) (h3 : -M ≤ b) (h4 : b ≤ M) (p0 : 0 ≤ p) (p1 : p ≤ 16384) (u0 : 0 ≤ u) (u1 : u ≤ 16384) :
    (-(2 * M + 1) ≤ turnA1 a b p ∧ turnA1 a b p ≤ 2 * M + 1) ∧ (-(3 * M + 2) ≤ turnB a b p u ∧ turnB a b p u ≤ 3 * M + 2) ∧ (-(5 * M + 4) ≤ turnA a b p u ∧ turnA a b p u ≤ 5 * M + 4) := by
  have x1 := makeI_bd b p M h3 h4 p0 p1
  have y1 : -(2 * M + 1) ≤ turnA1 a b p ∧ turnA1 a b p ≤ 2 * M + 1 := by unfold turnA1; omega
  have x2 := makeI_bd (turnA1 a b p) u (2 * M + 1) y1.1 y1.2 u0 u1
  have y2 : -(3 * M + 2) ≤ turnB a b p u ∧ turnB a b p u ≤ 3 * M + 2 := by unfold turnB; omega
  have x3 := makeI_bd (turnB a b p u) p (3 * M + 2) y2.1 y2.2 p0 p1
  refine ⟨y1, y2, ?_⟩
  unfold turnA
  omega
theorem back_bd (a b p u M : Int) (h1 : -M ≤ a) (h2 : a ≤ M) (h3 : -M ≤ b) (h4 : b ≤ M) (p0 : 0 ≤ p) (p1 : p ≤ 16384) (u0 : 0 ≤ u) (u1 : u ≤ 16384) :
    (-(2 * M + 1) ≤ backA1 a b p ∧ backA1 a b p ≤ 2 * M + 1) ∧ (-(3 * M + 2) ≤ backB a b p u ∧ backB a b p u ≤ 3 * M + 2) ∧ (-(5 * M + 4) ≤ backA a b p u ∧ backA a b p u ≤ 5 * M + 4) := by
  have x1 := makeI_bd b p M h3 h4 p0 p1
  have y1 : -(2 * M + 1) ≤ backA1 a b p ∧ backA1 a b p ≤ 2 * M + 1 := by unfold backA1; omega
  have x2 := makeI_bd (backA1 a b p) u (2 * M + 1) y1.1 y1.2 u0 u1
  have y2 : -(3 * M + 2) ≤ backB a b p u ∧ backB a b p u ≤ 3 * M + 2 := by unfold backB; omega
  have x3 := makeI_bd (backB a b p u) p (3 * M + 2) y2.1 y2.2 p0 p1
  refine ⟨y1, y2, ?_⟩
  unfold backA
  omega

/-! Turns of whatever numbers: what goes beyond 64 bits wraps. -/
theorem wrap64_bd (x : Int) : -9223372036854775808 ≤ wrap64 x ∧ wrap64 x ≤ 9223372036854775807 := by unfold wrap64; omega
theorem wrap_sub_add (b m : Int) (h1 : -9223372036854775808 ≤ b) (h2 : b ≤ 9223372036854775807) : wrap64 (wrap64 (b - m) + m) = b := by unfold wrap64; omega
theorem wrap_add_sub (b m : Int) (h1 : -9223372036854775808 ≤ b) (h2 : b ≤ 9223372036854775807) : wrap64 (wrap64 (b + m) - m) = b := by unfold wrap64; omega
def makeW (v c : Int) : Int := roundI (wrap64 (v * c)) 16384
def turnW1 (a b p : Int) : Int := wrap64 (a + makeW b p)
def turnWB (a b p u : Int) : Int := wrap64 (b - makeW (turnW1 a b p) u)
def turnWA (a b p u : Int) : Int := wrap64 (turnW1 a b p + makeW (turnWB a b p u) p)
def backW1 (a b p : Int) : Int := wrap64 (a - makeW b p)
def backWB (a b p u : Int) : Int := wrap64 (b + makeW (backW1 a b p) u)
def backWA (a b p u : Int) : Int := wrap64 (backW1 a b p - makeW (backWB a b p u) p)
theorem backW_turnW (a b p u : Int) (a1 : -9223372036854775808 ≤ a) (a2 : a ≤ 9223372036854775807) (b1 : -9223372036854775808 ≤ b) (b2 : b ≤ 9223372036854775807) :
    backWA (turnWA a b p u) (turnWB a b p u) p u = a ∧ backWB (turnWA a b p u) (turnWB a b p u) p u = b := by
  have w1 := wrap64_bd (a + makeW b p)
  have e1 : backW1 (turnWA a b p u) (turnWB a b p u) p = turnW1 a b p := wrap_add_sub (turnW1 a b p) _ w1.1 w1.2
  have e2 : backWB (turnWA a b p u) (turnWB a b p u) p u = b := by unfold backWB; rw [e1]; exact wrap_sub_add b _ b1 b2
  refine ⟨?_, e2⟩
  unfold backWA
  rw [e1, e2]
  exact wrap_add_sub a _ a1 a2
/-- Within bounds nothing wraps. -/
theorem makeW_eq (v c M : Int) (h1 : -M ≤ v) (h2 : v ≤ M) (h3 : 0 ≤ c) (h4 : c ≤ 16384) (hM : M ≤ 562949953421311) : makeW v c = makeI v c := by
  have := mul_bd v c M 16384 h1 h2 h3 h4
  unfold makeW makeI
  rw [IntWalk.wrap64_in _ (by omega)]
theorem turnW_eq (a b p u M : Int) (h1 : -M ≤ a) (h2 : a ≤ M) (h3 : -M ≤ b) (h4 : b ≤ M) (p0 : 0 ≤ p) (p1 : p ≤ 16384) (u0 : 0 ≤ u) (u1 : u ≤ 16384) (hM : M ≤ 4398046511104) :
    turnWA a b p u = turnA a b p u ∧ turnWB a b p u = turnB a b p u := by
  obtain ⟨y1, y2, y3⟩ := turn_bd a b p u M h1 h2 h3 h4 p0 p1 u0 u1
  have e1 : turnW1 a b p = turnA1 a b p := by
    unfold turnW1
    rw [makeW_eq b p M h3 h4 p0 p1 (by omega)]
    exact IntWalk.wrap64_in (turnA1 a b p) (by omega)
  have e2 : turnWB a b p u = turnB a b p u := by
    unfold turnWB
    rw [e1, makeW_eq (turnA1 a b p) u (2 * M + 1) y1.1 y1.2 u0 u1 (by omega)]
    exact IntWalk.wrap64_in (turnB a b p u) (by omega)
  refine ⟨?_, e2⟩
  unfold turnWA
  rw [e1, e2, makeW_eq (turnB a b p u) p (3 * M + 2) y2.1 y2.2 p0 p1 (by omega)]
  exact IntWalk.wrap64_in (turnA a b p u) (by omega)
/-- A turn whose first coefficient is a half at most carries numbers no further than this. -/
theorem turn_near (a b p u M : Int) (h1 : -M ≤ a) (h2 : a ≤ M) (h3 : -M ≤ b) (h4 : b ≤ M) (p0 : 0 ≤ p) (p1 : p ≤ 8192) (u0 : 0 ≤ u) (u1 : u ≤ 16384) :
    (-(3 * M + 4) ≤ turnA a b p u ∧ turnA a b p u ≤ 3 * M + 4) ∧ (-(3 * M + 4) ≤ turnB a b p u ∧ turnB a b p u ≤ 3 * M + 4) := by
  have half : ∀ v N : Int, -N ≤ v → v ≤ N → -(N + 1) ≤ 2 * makeI v p ∧ 2 * makeI v p ≤ N + 1 := by
    intro v N k1 k2
    have := mul_bd v p N 8192 k1 k2 p0 p1
    unfold makeI roundI
    generalize v * p = x at *
    split <;> omega
  have x1 := half b M h3 h4
  have y1 : -(3 * M + 1) ≤ 2 * turnA1 a b p ∧ 2 * turnA1 a b p ≤ 3 * M + 1 := by unfold turnA1; omega
  have x2 := makeI_bd (turnA1 a b p) u ((3 * M + 1) / 2) (by omega) (by omega) u0 u1
  have y2 : -(5 * M + 3) ≤ 2 * turnB a b p u ∧ 2 * turnB a b p u ≤ 5 * M + 3 := by unfold turnB; omega
  have x3 := half (turnB a b p u) ((5 * M + 3) / 2) (by omega) (by omega)
  refine ⟨?_, by omega⟩
  unfold turnA
  omega

theorem makes_any (v c : Int) (w : World) (h1 : -35184372088832 ≤ v) (h2 : v ≤ 35184372088832) (h3 : 0 ≤ c) (h4 : c ≤ 16384) :
    Calls Try.prog 43 #[.int .i64 v, .int .i64 c] w fun e w' => e = .returned (.int .i64 (makeI v c)) ∧ ∃ n, w' = w.drewN n := by
  obtain ⟨hb1, hb2⟩ : -576460752303423488 ≤ v * c ∧ v * c ≤ 576460752303423488 := mul_bd v c 35184372088832 16384 h1 h2 h3 h4
  have hc := Lib.hid (Round_any (v * c) 14 w (by decide) (by decide) (by omega) (by omega))
  have hw : wrap64 (v * c) = v * c := IntWalk.wrap64_in _ (by omega)
  unfold makeI
  generalize hx : v * c = x at *
  have hw2 : wrap64 (v * c) = x := by rw [hx, hw]
  clear hx hw
  rw [show pw (14 : Int).toNat = 16384 from rfl] at hc
  generalize roundI x 16384 = y at *
  go_enter Try.func43, Try.ntmps43
  go_wp2_with fail
  refine hc.out.mono ?_
  rintro e w1 ⟨rfl, n1, rfl⟩
  go_wp2
  go_ret
  exact ⟨rfl, _, rfl⟩
theorem makes_all (v c : Int) (w : World) :
    Calls Try.prog 43 #[.int .i64 v, .int .i64 c] w fun e w' => e = .returned (.int .i64 (makeW v c)) ∧ ∃ n, w' = w.drewN n := by
  unfold makeW
  have hb := wrap64_bd (v * c)
  have hc := Lib.hid (Round_any (wrap64 (v * c)) 14 w (by decide) (by decide) hb.1 hb.2)
  clear hb
  generalize hx : v * c = x at *
  rw [show pw (14 : Int).toNat = 16384 from rfl] at hc
  generalize hw2 : wrap64 x = y at *
  subst hx
  generalize roundI y 16384 = z at *
  go_enter Try.func43, Try.ntmps43
  go_wp2_with fail
  refine hc.out.mono ?_
  rintro e w1 ⟨rfl, n1, rfl⟩
  go_wp2
  go_ret
  exact ⟨rfl, _, rfl⟩
set_option maxHeartbeats 1000000 in
theorem Turn_all (a b p u : Int) (w : World) :
    Calls Try.prog 28 #[.int .i64 a, .int .i64 b, .agg #[.int .i64 p, .int .i64 u]] w fun e w' => e = .returned (.tuple #[.int .i64 (turnWA a b p u), .int .i64 (turnWB a b p u)]) ∧ Old w w' := by
  have c1 := Lib.hid (fun w => makes_all b p w)
  have c2 := Lib.hid (fun w => makes_all (turnW1 a b p) u w)
  have c3 := Lib.hid (fun w => makes_all (turnWB a b p u) p w)
  have q1 : wrap64 (a + makeW b p) = turnW1 a b p := rfl
  have q2 : wrap64 (b - makeW (turnW1 a b p) u) = turnWB a b p u := rfl
  have q3 : wrap64 (turnW1 a b p + makeW (turnWB a b p u) p) = turnWA a b p u := rfl
  generalize turnWA a b p u = a3 at *
  generalize turnWB a b p u = b2 at *
  generalize turnW1 a b p = a1 at *
  generalize makeW b p = m1 at *
  generalize makeW a1 u = m2 at *
  generalize makeW b2 p = m3 at *
  go_enter Try.func28, Try.ntmps28
  go_wp2_with fail
  refine (c1.out _).mono ?_
  rintro e v1 ⟨rfl, n1, rfl⟩
  go_wp2_with fail
  refine (c2.out _).mono ?_
  rintro e v2 ⟨rfl, n2, rfl⟩
  go_wp2_with fail
  refine (c3.out _).mono ?_
  rintro e v3 ⟨rfl, n3, rfl⟩
  go_wp2
  go_ret2
  exact ⟨by rw [← q3]; rfl, (Old.alloc _ _).drewN _⟩
set_option maxHeartbeats 1000000 in
theorem Turn_any (a b p u : Int) (w : World) (h1 : -4398046511104 ≤ a) (h2 : a ≤ 4398046511104) (h3 : -4398046511104 ≤ b) (h4 : b ≤ 4398046511104) (p0 : 0 ≤ p) (p1 : p ≤ 16384) (u0 : 0 ≤ u) (u1 : u ≤ 16384) :
    Calls Try.prog 28 #[.int .i64 a, .int .i64 b, .agg #[.int .i64 p, .int .i64 u]] w fun e w' => e = .returned (.tuple #[.int .i64 (turnA a b p u), .int .i64 (turnB a b p u)]) ∧ Old w w' := by
  obtain ⟨y1, y2, y3⟩ := turn_bd a b p u 4398046511104 h1 h2 h3 h4 p0 p1 u0 u1
  have c1 := Lib.hid (fun w => makes_any b p w (by omega) (by omega) p0 p1)
  have c2 := Lib.hid (fun w => makes_any (turnA1 a b p) u w (by omega) (by omega) u0 u1)
  have c3 := Lib.hid (fun w => makes_any (turnB a b p u) p w (by omega) (by omega) p0 p1)
  have q1 : wrap64 (a + makeI b p) = turnA1 a b p := IntWalk.wrap64_in (turnA1 a b p) (by omega)
  have q2 : wrap64 (b - makeI (turnA1 a b p) u) = turnB a b p u := IntWalk.wrap64_in (turnB a b p u) (by omega)
  have q3 : wrap64 (turnA1 a b p + makeI (turnB a b p u) p) = turnA a b p u := IntWalk.wrap64_in (turnA a b p u) (by omega)
  clear y1 y2 y3 h1 h2 h3 h4 p0 p1 u0 u1
  generalize turnA a b p u = a3 at *
  generalize turnB a b p u = b2 at *
  generalize turnA1 a b p = a1 at *
  generalize makeI b p = m1 at *
  generalize makeI a1 u = m2 at *
  generalize makeI b2 p = m3 at *
  go_enter Try.func28, Try.ntmps28
  go_wp2_with fail
  refine (c1.out _).mono ?_
  rintro e v1 ⟨rfl, n1, rfl⟩
  go_wp2_with fail
  refine (c2.out _).mono ?_
  rintro e v2 ⟨rfl, n2, rfl⟩
  go_wp2_with fail
  refine (c3.out _).mono ?_
  rintro e v3 ⟨rfl, n3, rfl⟩
  go_wp2
  go_ret2
  exact ⟨by rw [← q3]; rfl, (Old.alloc _ _).drewN _⟩
set_option maxHeartbeats 1000000 in
theorem Back_all (a b p u : Int) (w : World) :
    Calls Try.prog 41 #[.int .i64 a, .int .i64 b, .agg #[.int .i64 p, .int .i64 u]] w fun e w' => e = .returned (.tuple #[.int .i64 (backWA a b p u), .int .i64 (backWB a b p u)]) ∧ Old w w' := by
  have c1 := Lib.hid (fun w => makes_all b p w)
  have c2 := Lib.hid (fun w => makes_all (backW1 a b p) u w)
  have c3 := Lib.hid (fun w => makes_all (backWB a b p u) p w)
  have q1 : wrap64 (a - makeW b p) = backW1 a b p := rfl
  have q2 : wrap64 (b + makeW (backW1 a b p) u) = backWB a b p u := rfl
  have q3 : wrap64 (backW1 a b p - makeW (backWB a b p u) p) = backWA a b p u := rfl
  generalize backWA a b p u = a3 at *
  generalize backWB a b p u = b2 at *
  generalize backW1 a b p = a1 at *
  generalize makeW b p = m1 at *
  generalize makeW a1 u = m2 at *
  generalize makeW b2 p = m3 at *
  go_enter Try.func41, Try.ntmps41
  go_wp2_with fail
  refine (c1.out _).mono ?_
  rintro e v1 ⟨rfl, n1, rfl⟩
  go_wp2_with fail
  refine (c2.out _).mono ?_
  rintro e v2 ⟨rfl, n2, rfl⟩
  go_wp2_with fail
  refine (c3.out _).mono ?_
  rintro e v3 ⟨rfl, n3, rfl⟩
  go_wp2
  go_ret2
  exact ⟨by rw [← q3]; rfl, (Old.alloc _ _).drewN _⟩
set_option maxHeartbeats 1000000 in
theorem Back_any (a b p u : Int) (w : World) (h1 : -4398046511104 ≤ a) (h2 : a ≤ 4398046511104) (h3 : -4398046511104 ≤ b) (h4 : b ≤ 4398046511104) (p0 : 0 ≤ p) (p1 : p ≤ 16384) (u0 : 0 ≤ u) (u1 : u ≤ 16384) :
    Calls Try.prog 41 #[.int .i64 a, .int .i64 b, .agg #[.int .i64 p, .int .i64 u]] w fun e w' => e = .returned (.tuple #[.int .i64 (backA a b p u), .int .i64 (backB a b p u)]) ∧ Old w w' := by
  obtain ⟨y1, y2, y3⟩ := back_bd a b p u 4398046511104 h1 h2 h3 h4 p0 p1 u0 u1
  have c1 := Lib.hid (fun w => makes_any b p w (by omega) (by omega) p0 p1)
  have c2 := Lib.hid (fun w => makes_any (backA1 a b p) u w (by omega) (by omega) u0 u1)
  have c3 := Lib.hid (fun w => makes_any (backB a b p u) p w (by omega) (by omega) p0 p1)
  have q1 : wrap64 (a - makeI b p) = backA1 a b p := IntWalk.wrap64_in (backA1 a b p) (by omega)
  have q2 : wrap64 (b + makeI (backA1 a b p) u) = backB a b p u := IntWalk.wrap64_in (backB a b p u) (by omega)
  have q3 : wrap64 (backA1 a b p - makeI (backB a b p u) p) = backA a b p u := IntWalk.wrap64_in (backA a b p u) (by omega)
  clear y1 y2 y3 h1 h2 h3 h4 p0 p1 u0 u1
  generalize backA a b p u = a3 at *
  generalize backB a b p u = b2 at *
  generalize backA1 a b p = a1 at *
  generalize makeI b p = m1 at *
  generalize makeI a1 u = m2 at *
  generalize makeI b2 p = m3 at *
  go_enter Try.func41, Try.ntmps41
  go_wp2_with fail
  refine (c1.out _).mono ?_
  rintro e v1 ⟨rfl, n1, rfl⟩
  go_wp2_with fail
  refine (c2.out _).mono ?_
  rintro e v2 ⟨rfl, n2, rfl⟩
  go_wp2_with fail
  refine (c3.out _).mono ?_
  rintro e v3 ⟨rfl, n3, rfl⟩
  go_wp2
  go_ret2
  exact ⟨by rw [← q3]; rfl, (Old.alloc _ _).drewN _⟩
end Go.Proofs.Ytpdjdejlhjcicaa
