/- The comparer of wave's sort by names. -/
import Derived.Test.YtmdninfmidmmhaaCmpP
import Derived.Test.YtmdninfmidmmhaaMergeP
import Derived.Test.YtmdninfmidmmhaaWaveB
import Derived.BigQuiet
namespace Go.Proofs.Ytmdninfmidmmhaa
set_option linter.unusedVariables false
set_option maxRecDepth 100000
open Go.RowKit Go.ChangeShapes Go.WideShapes

theorem StrCompare_any (a b : ByteArray) (w : World) :
    Calls Try.prog 28 #[.string a, .string b] w fun e w' => e = .returned (.int .i64 (Lib.compareBytes a.data.toList b.data.toList)) ∧ w' = w := by
  have HC : Hid (∀ w, Calls Try.prog 32 #[.string a, .string b] w fun e w' => e = .returned (.int .i64 (Lib.compareBytes a.data.toList b.data.toList)) ∧ w' = w) := Lib.hid (fun w => by
    go_enter Try.func32, Try.ntmps32
    go_wp2
    rw [run_callFunc_extern Try.func35 (by kernel_rfl) (by kernel_rfl) (by kernel_rfl) (e := Extern.BytealgCompare.compare) (by kernel_rfl), Lib.run_compareString]
    simp only [Result.andThen]
    rw [Oper.upon_value]
    go_wp2
    go_ret
    exact ⟨rfl, rfl⟩)
  go_enter Try.func28, Try.ntmps28
  go_wp2_with fail
  refine (HC.out _).mono ?_
  rintro e w1 ⟨rfl, rfl⟩
  go_wp2_with fail
  go_ret
  exact ⟨rfl, rfl⟩
set_option maxHeartbeats 4000000 in
theorem byName1_any (K : Nat → ByteArray) (p : Option Addr) (b n c g o x y : Nat) (w : World) (hb : w.cell? ⟨b, 0, none⟩ = some (.slice (some ⟨g, o, none⟩) n c)) (hk : ∀ i, i < n → w.cell? ⟨g, o + i * 6, none⟩ = some (.string (K i))) (hx : x < n) (hy : y < n) :
    Calls Try.prog 27 #[.int .i64 x, .int .i64 y, .pointer (some ⟨b, 0, none⟩)] w fun e w' => e = .returned (.int .i64 (Lib.compareBytes (K x).data.toList (K y).data.toList)) ∧ ∃ n, w' = w.drewN n := by
  have cx := hk x hx
  have cy := hk y hy
  have HC := Lib.hid (fun w => StrCompare_any (K x) (K y) w)
  have x0 : (0 : Int) ≤ x := by omega
  have x1 : (x : Int) < n := by omega
  have y0 : (0 : Int) ≤ y := by omega
  have y1 : (y : Int) < n := by omega
  clear hk hx hy
  generalize Lib.compareBytes (K x).data.toList (K y).data.toList = r at *
  generalize K x = s at *
  generalize K y = t at *
  go_enter Try.func27, Try.ntmps27
  go_wp2_with fail
  go_quiet ((go_at_call 28; with_reducible exact Calls.quiet_of_same (HC.out _)))
  go_wp2_with fail
  go_ret
  exact ⟨rfl, _, rfl⟩
end Go.Proofs.Ytmdninfmidmmhaa
