/- Package wave's contracts on samples: Length, Meta, what is beyond bounds, Check. -/
import Derived.Test.YtmdninfmidmmhaaWaveA
import Derived.Test.YtmdninfmidmmhaaSampP
namespace Go.Proofs.Ytmdninfmidmmhaa
set_option linter.unusedVariables false
set_option maxRecDepth 100000
open Go.RowKit Go.ChangeShapes Go.WideShapes

/-- Block g holds a sample. -/
def SmB (w : World) (g : Nat) (S : Smp) : Prop := w.heap[g]? = some (.cells S.cells 24 (0, 0))
theorem SmB.new (w : World) (S : Smp) : SmB (w.alloc (.cells S.cells 24)) w.heap.size S := heap_alloc_new _ _
theorem SmB.old {w w' : World} {g : Nat} {S : Smp} (h : SmB w g S) (k : Old w w') : SmB w' g S := (k.block g (lt_of_block h)).trans h
theorem SmB.at {w : World} {g : Nat} {S : Smp} (h : SmB w g S) :
    w.cell? ⟨g, 0, none⟩ = some (.string S.s) ∧ w.cell? ⟨g, 1, none⟩ = some (.int .i64 S.r) ∧ w.cell? ⟨g, 2, none⟩ = some (.bool S.lp) ∧ w.cell? ⟨g, 3, none⟩ = some (.int .i64 S.a) ∧ w.cell? ⟨g, 4, none⟩ = some (.int .i64 S.b) ∧ w.cell? ⟨g, 5, none⟩ = some (.slice S.p S.n S.c) := by
  unfold SmB Smp.cells at h
  simp [World.cell?, h]
set_option maxHeartbeats 1000000 in
theorem Length_any (S : Smp) (w : World) (hs : SmOk w S) :
    Calls Try.prog 12 #[S.val] w fun e w' => e = .returned (.int .i64 S.len) ∧ Old w w' := by
  have HO := Lib.hid (Old.alloc w (.cells S.cells 24))
  obtain ⟨_, _, _, _, _, c5⟩ := (SmB.new w S).at
  unfold Smp.val
  by_cases h0 : S.n = 0
  · have e1 : S.len = 0 := by unfold Smp.len; rw [if_pos h0]
    have q0 : ((S.n : Int) == 0) = true := by simpa using h0
    rw [e1]
    clear h0 e1 hs
    go_enter Try.func12, Try.ntmps12
    go_wp2_with fail
    go_ret
    exact ⟨rfl, HO.out⟩
  · have e1 : S.len = (S.M 0 : Int) := by unfold Smp.len; rw [if_neg h0]
    have q0 : ((S.n : Int) == 0) = false := by simpa using h0
    obtain ⟨g, o, hp, hg, hc⟩ := hs.rows.cell (by omega)
    have c0 := ((Old.alloc w (.cells S.cells 24)).cell (a := ⟨g, o + 0, none⟩) hg).trans (hc 0 (by omega))
    rw [Nat.add_zero] at c0
    rw [e1]
    have b0 : (0 : Int) < S.n := by omega
    rw [hp] at c5
    clear h0 e1 hs hc hp
    go_enter Try.func12, Try.ntmps12
    go_wp2_with fail
    go_ret
    exact ⟨rfl, HO.out⟩
end Go.Proofs.Ytmdninfmidmmhaa
