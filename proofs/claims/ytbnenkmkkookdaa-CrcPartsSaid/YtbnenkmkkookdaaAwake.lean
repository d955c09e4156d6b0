/- The chapter's example: contract of calliopelaw02.awake. -/
import Derived.Test.YtbnenkmkkookdaaParts
import Derived.Lib.SlBytesConst
namespace Go.Proofs.Ytbnenkmkkookdaa
set_option linter.unusedVariables false
open Go.RowKit

theorem example_sum : sumOf [49, 50, 51, 52, 53, 54, 55, 56, 57] = 3421780262 := by decide +kernel
/-- A new block of numbers reads as a list. -/
theorem SlI.fresh (w : World) (k : IntKind) (t : TypeId) (xs : List Int) (n : Nat) (fr : Nat × Nat) (hn : n = xs.length) (hmax : n ≤ 9223372036854775807) : SlI (w.alloc (.cells (xs.map (Value.int k)).toArray t fr)) k (.slice (some ⟨w.heap.size, 0, none⟩) n n) xs := by
  subst hn
  refine ⟨_, _, rfl, fun _ => ⟨w.heap.size, 0, rfl, by simp, Nat.le_refl _, by unfold maxLen; exact hmax, fun i hi => ?_⟩⟩
  rw [cell_of_row _ _ _ _ _ _ (heap_alloc_new _ _)]
  simp [hi, List.getD]

theorem awake_any (w : World) : Calls Try.prog 9 #[] w fun e w' => e = .returned (.bool true) ∧ Old w w' := by
  have hsl := SlI.fresh w .u8 5 [49, 50, 51, 52, 53, 54, 55, 56, 57] 9 (9, 10) rfl (by omega)
  have hp := Lib.hid (Sum_any _ _ _ hsl (by decide))
  rw [example_sum] at hp
  have ho := Lib.hid (Old.alloc w (.cells ([49, 50, 51, 52, 53, 54, 55, 56, 57].map (Value.int .u8)).toArray 5 (9, 10)))
  have kc := fun (w : World) (C : Array Value) (n c : Nat) => Lib.run_convert_bytes_const (P := Try.prog) w 22 5 C n c Try.underlying22 Try.underlying5
  clear hsl
  go_enter Try.func9, Try.ntmps9
  go_wp2_with fail
  refine hp.out.mono ?_
  rintro e w1 ⟨rfl, ho1⟩
  have H1 := Lib.hid ho1
  clear ho1
  go_wp2
  go_ret
  exact ⟨rfl, ho.out.trans H1.out⟩
end Go.Proofs.Ytbnenkmkkookdaa
