/- How many bits a frame needs, as the law reckons it: calliopelaw10.many. -/
import Derived.Test.YtdiahlhfoplmjaaFrBitsL
namespace Go.Proofs.Ytdiahlhfoplmjaa
set_option linter.unusedVariables false
open Go.RowKit Go.ChangeShapes Go.WideShapes

set_option maxRecDepth 100000 in
theorem many_any (F : Nat → Int) (p : Option Addr) (n cap : Nat) (w : World) (hw : ∀ k, k < 4 → 0 ≤ F (9 + k) ∧ F (9 + k) ≤ 24) (hn : n ≤ 5) :
    Calls Try.prog 13 #[.agg (rowN 29 (frC F (.slice p n cap)))] w fun e w' => e = .returned (.int .i64 (costI F n)) ∧ Old w w' := by
  have HO : Hid (Old w (w.alloc (.cells (rowN 29 (frC F (.slice p n cap))) 27))) := Lib.hid (Old.alloc _ _)
  have r4 : (rowN 29 (frC F (.slice p n cap)))[4]? = some (.slice p n cap) := rowN_at 29 (frC F (.slice p n cap)) 4 (by omega)
  have r9 : (rowN 29 (frC F (.slice p n cap)))[9]? = some (.int .i64 (F (9 + 0))) := rowN_at 29 (frC F (.slice p n cap)) 9 (by omega)
  have r10 : (rowN 29 (frC F (.slice p n cap)))[10]? = some (.int .i64 (F (9 + 1))) := rowN_at 29 (frC F (.slice p n cap)) 10 (by omega)
  have r11 : (rowN 29 (frC F (.slice p n cap)))[11]? = some (.int .i64 (F (9 + 2))) := rowN_at 29 (frC F (.slice p n cap)) 11 (by omega)
  have r12 : (rowN 29 (frC F (.slice p n cap)))[12]? = some (.int .i64 (F (9 + 3))) := rowN_at 29 (frC F (.slice p n cap)) 12 (by omega)
  obtain ⟨a0, b0⟩ := hw 0 (by omega)
  obtain ⟨a1, b1⟩ := hw 1 (by omega)
  obtain ⟨a2, b2⟩ := hw 2 (by omega)
  obtain ⟨a3, b3⟩ := hw 3 (by omega)
  unfold costI
  rw [sum_four]
  clear hw
  generalize F (9 + 0) = x0 at *
  generalize F (9 + 1) = x1 at *
  generalize F (9 + 2) = x2 at *
  generalize F (9 + 3) = x3 at *
  go_enter Try.func13, Try.ntmps13
  go_wp2_with fail
  go_ret
  exact ⟨rfl, HO.out⟩
end Go.Proofs.Ytdiahlhfoplmjaa
