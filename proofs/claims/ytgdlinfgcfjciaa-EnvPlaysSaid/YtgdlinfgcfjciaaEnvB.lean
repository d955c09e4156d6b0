/- Package env: way, move, pass, Next, Release, Stage, Level, New. (by wip/tools/exp.py of XEnvB.src) -/
import Derived.Test.YtgdlinfgcfjciaaEnvA
import Derived.Test.YtgdlinfgcfjciaaRowK
import Derived.StillTailTactics
namespace Go.Proofs.Ytgdlinfgcfjciaa
set_option linter.unusedVariables false
set_option linter.unusedSimpArgs false
set_option maxRecDepth 100000
open Go.RowKit Go.ChangeShapes Go.WideShapes

def wyO (s st : Int) : Int := if st = 0 then 16777216 else if st = 1 then 16777216 - s * 65536 else if st = 3 then 16777216 else 0
def wyT (a d r st : Int) : Int := if st = 0 then a else if st = 1 then d else if st = 3 then r else 0
def wyL (s st : Int) : Int := if st = 0 then 16777216 else if st = 1 then s * 65536 else 0
def wyG (st : Int) : Bool := decide (st = 0) || (decide (st = 1) || decide (st = 3))
def wyC (o t l : Int) : Array Value := #[.int .i64 o, .int .i64 t, .int .i64 l]
theorem way_st (w : World) (n : Nat) (x y z : Value) : (((((w.alloc (.cells #[.int .i64 0, .int .i64 0, .int .i64 0] 46)).drewN n).setCell ⟨w.heap.size, 0, none⟩ x).setCell ⟨w.heap.size, 1, none⟩ y).setCell ⟨w.heap.size, 2, none⟩ z).heap[w.heap.size]? = some (.cells #[x, y, z] 46 (0, 0)) ∧
    Old w (((((w.alloc (.cells #[.int .i64 0, .int .i64 0, .int .i64 0] 46)).drewN n).setCell ⟨w.heap.size, 0, none⟩ x).setCell ⟨w.heap.size, 1, none⟩ y).setCell ⟨w.heap.size, 2, none⟩ z) := by
  have h0 : ((w.alloc (.cells #[.int .i64 0, .int .i64 0, .int .i64 0] 46)).drewN n).heap[w.heap.size]? = some (.cells #[.int .i64 0, .int .i64 0, .int .i64 0] 46 (0, 0)) := heap_alloc_new _ _
  refine ⟨(heap_setCell_at (heap_setCell_at (heap_setCell_at h0))).trans rfl, ?_⟩
  have hO : Old w ((w.alloc (.cells #[.int .i64 0, .int .i64 0, .int .i64 0] 46)).drewN n) := (Old.alloc w _).drewN n
  have k := fun (V : World) (o : Nat) (u : Value) => Kept.setCell V (X := fun q => q < w.heap.size) (a := ⟨w.heap.size, o, none⟩) (Nat.lt_irrefl _) u
  exact hO.after (((k _ 0 x).trans (k _ 1 y)).trans (k _ 2 z)) fun _ h => h
set_option maxHeartbeats 4000000 in
theorem eWay_any (g : Nat) (a d s r st lv : Int) (w : World) (h : EB w g a d s r st lv) (hs : 0 ≤ s) (hs' : s ≤ 256) (h0 : 0 ≤ st) (h1 : st ≤ 4) :
    Calls Try.prog 20 #[.pointer (some ⟨g, 0, none⟩)] w fun e w' => e = .returned (.tuple #[.agg (wyC (wyO s st) (wyT a d r st) (wyL s st)), .bool (wyG st)]) ∧ Old w w' := by
  have Hs3 : Hid ((Try.prog.info? 46).map (·.size) = some 3) := Lib.hid (by kernel_rfl)
  have hO := Old.alloc w (.cells (wyC 0 0 0) 46)
  have hE := h.old hO
  obtain ⟨c0, c1, c2, c3, c4, c5, -, -⟩ := hE.cells
  have HO := Lib.hid hO
  have q1 : wrap64 (s * 65536) = s * 65536 := IntWalk.wrap64_in _ (by omega)
  clear h hE hO
  unfold wyC at *
  have hst : st = 0 ∨ st = 1 ∨ st = 2 ∨ st = 3 ∨ st = 4 := by omega
  rcases hst with rfl | rfl | rfl | rfl | rfl
  all_goals
    go_enter Try.func20, Try.ntmps20
    go_wp2_with fail
    go_quiet (fail)
    go_wp2_with fail
    refine bodyPost_ret (results_row_tmp rfl _ _ w.heap.size 46 _ (0, 0) _ rfl (way_st w nq _ _ _).1 Try.underlying46 rfl Hs3.out) rfl ?_
    exact ⟨rfl, (way_st w nq _ _ _).2⟩
end Go.Proofs.Ytgdlinfgcfjciaa

