/- The chapter's example: calliopelaw11.awake. -/
import Derived.Test.YteihhpionhllfaaToneF
namespace Go.Proofs.Yteihhpionhllfaa
set_option linter.unusedVariables false
open Go.RowKit Go.ChangeShapes Go.WideShapes

def f5 : Nat → Int := fun k => if k = 5 then 1000 else 0
theorem f5_row : rowN 16 (blk f5) = #[.int .i64 0, .int .i64 0, .int .i64 0, .int .i64 0, .int .i64 0, .int .i64 1000, .int .i64 0, .int .i64 0, .int .i64 0, .int .i64 0, .int .i64 0, .int .i64 0, .int .i64 0, .int .i64 0, .int .i64 0, .int .i64 0] := rfl
theorem f5_fits : Fits64 f5 := fun k => by unfold f5; split <;> omega
theorem f5_find : findL f5 = [5] := by decide +kernel
theorem f5_is5 : decide (isI f5 5) = true := by decide +kernel
theorem f5_is4 : decide (isI f5 4) = false := by decide +kernel
theorem f5_t0 : toneF f5 0 = 5 := by
  rw [show (0 : Nat) = 2 * 0 from rfl, toneF_even, f5_find]; rfl
theorem f5_t1 : toneF f5 1 = 1000 := by
  rw [show (1 : Nat) = 2 * 0 + 1 from rfl, toneF_odd, f5_find]; rfl
set_option maxRecDepth 100000 in
theorem awake_any (w : World) : Calls Try.prog 7 #[] w fun e w' => e = .returned (.bool true) ∧ Old w w' := by
  have HF := Lib.hid (fun w => Find_any f5 f5_fits w)
  have hi5 := fun w => Is_any f5 f5_fits 5 w (by omega) (by omega)
  have hi4 := fun w => Is_any f5 f5_fits 4 w (by omega) (by omega)
  rw [f5_is5] at hi5
  rw [f5_is4] at hi4
  have HI5 := Lib.hid hi5
  have HI4 := Lib.hid hi4
  have Hb16 : Hid ((Try.prog.info? 23).map (·.size) = some 16) := Lib.hid (by kernel_rfl)
  clear hi5 hi4
  go_enter Try.func7, Try.ntmps7
  go_wp2_with fail
  rw [← f5_row]
  obtain ⟨W0, hW0⟩ : ∃ W0, W0 = w.alloc (.cells (rowN 16 (blk f5)) 23) := ⟨_, rfl⟩
  have hb : W0.heap[w.heap.size]? = some (.cells (rowN 16 (blk f5)) 23 (0, 0)) := by rw [hW0]; exact heap_alloc_new _ _
  have ho : Old w W0 := by rw [hW0]; exact Old.alloc _ _
  rw [← hW0]
  clear hW0
  refine (HF.out _).mono ?_
  rintro e w1 ⟨v, rfl, hl, hown, ho1⟩
  rw [f5_find] at hown
  obtain ⟨p, cap, rfl, hnc, hcm, hsl⟩ := own2_slice hown
  obtain ⟨g, o, rfl, hg, hcc⟩ := two_cells hsl (by decide)
  obtain ⟨c0, c1⟩ := hcc 0 (by decide)
  rw [f5_t0] at c0
  rw [f5_t1] at c1
  rw [show o + 0 * 2 + 1 = o + 1 by omega] at c1
  rw [show o + 0 * 2 = o by omega] at c0
  have hb1 := (ho1.block _ (lt_of_block hb)).trans hb
  have HB1 := Lib.hid hb1
  have HO := Lib.hid (ho.trans ho1)
  have hE : ∀ w, (binOp .eql 31 (.agg #[.int .i64 5, .int .i64 1000]) (.agg #[.int .i64 5, .int .i64 1000])).run Try.prog w = .ok (.bool true) w := fun w => by
    rw [eql_tone]; rfl
  clear hl hown hnc hcm hsl hcc hb hb1 ho ho1 hg HF
  rw [show [5].length = 1 from rfl]
  go_wp2_with (with_reducible refine wpList_load_row_w (by kernel_rfl) 23 _ rfl w.heap.size rfl 23 (rowN 16 (blk f5)) (0, 0) _ HB1.out Try.underlying23 rfl (by rw [rowN_size]; exact Hb16.out) ?_)
  refine (HI5.out _).mono ?_
  rintro e w2 ⟨rfl, ho2⟩
  have HB2 := Lib.hid ((ho2.block _ (lt_of_block HB1.out)).trans HB1.out)
  have HO2 := Lib.hid (HO.out.trans ho2)
  clear ho2 HO HB1 HI5
  go_wp2_with (with_reducible refine wpList_load_row_w (by kernel_rfl) 23 _ rfl w.heap.size rfl 23 (rowN 16 (blk f5)) (0, 0) _ HB2.out Try.underlying23 rfl (by rw [rowN_size]; exact Hb16.out) ?_)
  refine (HI4.out _).mono ?_
  rintro e w3 ⟨rfl, ho3⟩
  have HO3 := Lib.hid (HO2.out.trans ho3)
  clear ho3 HO2 HB2 HI4
  go_wp2_with fail
  go_ret
  exact ⟨rfl, HO3.out⟩
end Go.Proofs.Yteihhpionhllfaa
