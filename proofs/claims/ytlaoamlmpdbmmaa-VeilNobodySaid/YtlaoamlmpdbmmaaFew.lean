/- A frame of at most 5 tones: calliopelaw10.Few. -/
import Derived.Test.YtlaoamlmpdbmmaaFrameA
namespace Go.Proofs.Ytlaoamlmpdbmmaa
set_option linter.unusedVariables false
open Go.RowKit

set_option maxRecDepth 100000 in
theorem Few_any (F : Nat → Int) (p : Option Addr) (n cap : Nat) (w : World) (hn : n ≤ cap) (hc : cap ≤ maxLen) :
    Calls Try.prog 6 #[.agg (rowN 29 (frC F (.slice p n cap)))] w fun e w' => e = .returned (.agg (rowN 29 (frC F (.slice p (min n 5) cap)))) ∧ Old w w' := by
  have Hs : Hid ((Try.prog.info? 33).map (·.size) = some 29) := Lib.hid (by kernel_rfl)
  have r4 : (rowN 29 (frC F (.slice p n cap)))[4]? = some (.slice p n cap) := rowN_at 29 (frC F (.slice p n cap)) 4 (by omega)
  have HA : Hid (∀ s z, ((w.alloc (.cells (rowN 29 (frC F s)) 33)).alloc (.cells z 33)).heap[w.heap.size]? = some (.cells (rowN 29 (frC F s)) 33 (0, 0)) ∧ ((w.alloc (.cells (rowN 29 (frC F s)) 33)).alloc (.cells z 33)).heap[w.heap.size + 1]? = some (.cells z 33 (0, 0)) ∧ Old w ((w.alloc (.cells (rowN 29 (frC F s)) 33)).alloc (.cells z 33))) :=
    Lib.hid fun s z => ⟨heap_alloc2_old w _ _, heap_alloc2_new w _ _, (Old.alloc w _).alloc' _⟩
  have HR := Lib.hid (fun (W : World) z (h : W.heap[w.heap.size + 1]? = some (.cells z 33 (0, 0))) (ho : Old w W) cs => row_ret h ho (Nat.le_succ _) cs)
  unfold maxLen at hc
  by_cases h : 5 < n
  · have H1 : Hid ((rowN 29 (frC F (.slice p 5 cap))).all (·.oneCell') = true) := Lib.hid (frC_one _ _ rfl)
    have hm : Hid (min n 5 = 5) := Lib.hid (by omega)
    rw [hm.out]
    obtain ⟨z, hz⟩ : ∃ z : Array Value, z = #[Value.int IntKind.i64 0, Value.int IntKind.i64 0, Value.int IntKind.i64 0, Value.int IntKind.i64 0, Value.slice none 0 0, Value.int IntKind.i64 0, Value.int IntKind.i64 0, Value.int IntKind.i64 0, Value.int IntKind.i64 0, Value.int IntKind.i64 0, Value.int IntKind.i64 0, Value.int IntKind.i64 0, Value.int IntKind.i64 0, Value.int IntKind.i64 0, Value.int IntKind.i64 0, Value.int IntKind.i64 0, Value.int IntKind.i64 0, Value.int IntKind.i64 0, Value.int IntKind.i64 0, Value.int IntKind.i64 0, Value.int IntKind.i64 0, Value.int IntKind.i64 0, Value.int IntKind.i64 0, Value.int IntKind.i64 0, Value.int IntKind.i64 0, Value.int IntKind.i64 0, Value.int IntKind.i64 0, Value.int IntKind.i64 0, Value.int IntKind.i64 0] := ⟨_, rfl⟩
    have hzs : Hid (z.size = 29) := Lib.hid (by rw [hz]; rfl)
    have Hz := Lib.hid hz
    have HE : Hid ((rowN 29 (frC F (.slice p n cap))).setIfInBounds 4 (.slice p 5 cap) = rowN 29 (frC F (.slice p 5 cap))) := Lib.hid (by rw [rowN_set 29 _ 4 _ (by omega), frC_set])
    clear hz hm
    go_enter Try.func6, Try.ntmps6
    go_wp2_with (first | (rw [← Hz.out, HE.out]; with_reducible refine wpList_load_row rfl 33 _ rfl w.heap.size rfl 33 (rowN 29 (frC F (.slice p 5 cap))) (0, 0) _ (HA.out (.slice p 5 cap) _).1 Try.underlying33 rfl (by rw [rowN_size]; exact Hs.out) ?_) | (with_reducible refine wpList_store_row rfl 33 _ _ rfl (w.heap.size + 1) (rowN 29 (frC F (.slice p 5 cap))) rfl rfl 33 _ (HA.out (.slice p 5 cap) z).2.1 (by rw [rowN_size]; exact Hs.out) (by rw [rowN_size]; exact hzs.out) H1.out ?_))
    have hr := HR.out _ z (HA.out (.slice p 5 cap) z).2.1 (HA.out (.slice p 5 cap) z).2.2 (rowN 29 (frC F (.slice p 5 cap)))
    exact bodyPost_ret (results_cell_row rfl _ _ (w.heap.size + 1) 33 (rowN 29 (frC F (.slice p 5 cap))) (0, 0) _ rfl hr.1 Try.underlying33 rfl (by rw [rowN_size]; exact Hs.out)) rfl ⟨rfl, hr.2⟩
  · have H1 : Hid ((rowN 29 (frC F (.slice p n cap))).all (·.oneCell') = true) := Lib.hid (frC_one _ _ rfl)
    have hm : Hid (min n 5 = n) := Lib.hid (by omega)
    rw [hm.out]
    obtain ⟨z, hz⟩ : ∃ z : Array Value, z = #[Value.int IntKind.i64 0, Value.int IntKind.i64 0, Value.int IntKind.i64 0, Value.int IntKind.i64 0, Value.slice none 0 0, Value.int IntKind.i64 0, Value.int IntKind.i64 0, Value.int IntKind.i64 0, Value.int IntKind.i64 0, Value.int IntKind.i64 0, Value.int IntKind.i64 0, Value.int IntKind.i64 0, Value.int IntKind.i64 0, Value.int IntKind.i64 0, Value.int IntKind.i64 0, Value.int IntKind.i64 0, Value.int IntKind.i64 0, Value.int IntKind.i64 0, Value.int IntKind.i64 0, Value.int IntKind.i64 0, Value.int IntKind.i64 0, Value.int IntKind.i64 0, Value.int IntKind.i64 0, Value.int IntKind.i64 0, Value.int IntKind.i64 0, Value.int IntKind.i64 0, Value.int IntKind.i64 0, Value.int IntKind.i64 0, Value.int IntKind.i64 0] := ⟨_, rfl⟩
    have hzs : Hid (z.size = 29) := Lib.hid (by rw [hz]; rfl)
    have Hz := Lib.hid hz
    clear hz hm
    go_enter Try.func6, Try.ntmps6
    go_wp2_with (first | (rw [← Hz.out]; with_reducible refine wpList_load_row rfl 33 _ rfl w.heap.size rfl 33 (rowN 29 (frC F (.slice p n cap))) (0, 0) _ (HA.out (.slice p n cap) _).1 Try.underlying33 rfl (by rw [rowN_size]; exact Hs.out) ?_) | (with_reducible refine wpList_store_row rfl 33 _ _ rfl (w.heap.size + 1) (rowN 29 (frC F (.slice p n cap))) rfl rfl 33 _ (HA.out (.slice p n cap) z).2.1 (by rw [rowN_size]; exact Hs.out) (by rw [rowN_size]; exact hzs.out) H1.out ?_))
    have hr := HR.out _ z (HA.out (.slice p n cap) z).2.1 (HA.out (.slice p n cap) z).2.2 (rowN 29 (frC F (.slice p n cap)))
    exact bodyPost_ret (results_cell_row rfl _ _ (w.heap.size + 1) 33 (rowN 29 (frC F (.slice p n cap))) (0, 0) _ rfl hr.1 Try.underlying33 rfl (by rw [rowN_size]; exact Hs.out)) rfl ⟨rfl, hr.2⟩
end Go.Proofs.Ytlaoamlmpdbmmaa
