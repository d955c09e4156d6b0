/- Package tone's contracts, second part: the closure that tells what is greater, and the library's insertion by it. -/
import Derived.Test.YtcepfbflgngmjaaToneA
import Derived.Test.YtcepfbflgngmjaaSortP
import Derived.BigQuiet
import Derived.BigRegion
namespace Go.Proofs.Ytcepfbflgngmjaa
set_option linter.unusedVariables false
set_option maxRecDepth 100000
open Go.RowKit Go.ChangeShapes Go.WideShapes

theorem isNaN64_any (x : Int) (w : World) :
    Calls Try.prog 65 #[.int .i64 x] w fun e w' => e = .returned (.bool false) ∧ w = w' := by
  go_enter Try.func65, Try.ntmps65
  go_wp2
  go_ret
  refine ⟨?_, rfl⟩
  show Ending.returned (.bool _) = _
  simp
def cmpI (a b : Int) : Int := if a < b then -1 else if b < a then 1 else 0
theorem Compare64_any (x y : Int) (w : World) :
    Calls Try.prog 50 #[.int .i64 x, .int .i64 y] w fun e w' => e = .returned (.int .i64 (cmpI x y)) ∧ w = w' := by
  have HX := Lib.hid (fun w => isNaN64_any x w)
  have HY := Lib.hid (fun w => isNaN64_any y w)
  by_cases h1 : x < y
  · have e : cmpI x y = -1 := by unfold cmpI; rw [if_pos h1]
    rw [e]; clear e
    go_enter Try.func50, Try.ntmps50
    go_wp2_with fail
    refine (HX.out _).mono ?_
    rintro e w1 ⟨rfl, rfl⟩
    go_wp2_with fail
    refine (HY.out _).mono ?_
    rintro e w1 ⟨rfl, rfl⟩
    go_wp2_with fail
    go_ret
    exact ⟨rfl, rfl⟩
  · by_cases h2 : y < x
    · have e : cmpI x y = 1 := by unfold cmpI; rw [if_neg h1, if_pos h2]
      rw [e]; clear e
      go_enter Try.func50, Try.ntmps50
      go_wp2_with fail
      refine (HX.out _).mono ?_
      rintro e w1 ⟨rfl, rfl⟩
      go_wp2_with fail
      refine (HY.out _).mono ?_
      rintro e w1 ⟨rfl, rfl⟩
      go_wp2_with fail
      go_ret
      exact ⟨rfl, rfl⟩
    · have e : cmpI x y = 0 := by unfold cmpI; rw [if_neg h1, if_neg h2]
      rw [e]; clear e
      go_enter Try.func50, Try.ntmps50
      go_wp2_with fail
      refine (HX.out _).mono ?_
      rintro e w1 ⟨rfl, rfl⟩
      go_wp2_with fail
      refine (HY.out _).mono ?_
      rintro e w1 ⟨rfl, rfl⟩
      go_wp2_with fail
      go_ret
      exact ⟨rfl, rfl⟩
set_option maxHeartbeats 4000000 in
set_option maxRecDepth 100000 in
theorem louder_any (f : Nat → Int) (hf : Fits64 f) (b x y : Nat) (w : World) (hb : w.heap[b]? = some (.cells (rowN 16 (blk f)) 23 (0, 0))) (hx : x < 16) (hy : y < 16) :
    Calls Try.prog 49 #[.int .i64 x, .int .i64 y, .pointer (some ⟨b, 0, none⟩)] w fun e w' => e = .returned (.int .i64 (cmpI (absI (f y)) (absI (f x)))) ∧ ∃ n, w' = w.drewN n := by
  have cx : w.cell? ⟨b, x, none⟩ = some (.int .i64 (f x)) := (cell_of_row _ _ _ _ _ _ hb).trans (blk_at 16 f x hx)
  have cy : w.cell? ⟨b, y, none⟩ = some (.int .i64 (f y)) := (cell_of_row _ _ _ _ _ _ hb).trans (blk_at 16 f y hy)
  have HX := Lib.hid (fun w => Abs_any (f x) w (hf x).1 (hf x).2)
  have HY := Lib.hid (fun w => Abs_any (f y) w (hf y).1 (hf y).2)
  have HC := Lib.hid (fun w => Compare64_any (absI (f y)) (absI (f x)) w)
  have x0 : (0 : Int) ≤ x := by omega
  have x1 : (x : Int) < 16 := by omega
  have y0 : (0 : Int) ≤ y := by omega
  have y1 : (y : Int) < 16 := by omega
  clear hb hf
  generalize cmpI (absI (f y)) (absI (f x)) = c at *
  generalize absI (f x) = p at *
  generalize absI (f y) = q at *
  generalize f x = u at *
  generalize f y = v at *
  go_enter Try.func49, Try.ntmps49
  go_wp2_with fail
  go_quiet ((first | (go_at_call 50; with_reducible exact Calls.quiet_of_same ((HC.out _).mono fun _ _ hh => ⟨hh.1, hh.2.symm⟩)) | (go_at_call 21; first | with_reducible exact Calls.quiet_of_same ((HX.out _).mono fun _ _ hh => ⟨hh.1, hh.2.symm⟩) | with_reducible exact Calls.quiet_of_same ((HY.out _).mono fun _ _ hh => ⟨hh.1, hh.2.symm⟩))))
  go_wp2_with fail
  go_ret
  exact ⟨rfl, _, rfl⟩
end Go.Proofs.Ytcepfbflgngmjaa
