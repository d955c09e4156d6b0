/- The chapter's example: awake. -/
import Derived.Test.YthfbhmhkfmjbdaaQuantQ
namespace Go.Proofs.Ythfbhmhkfmjbdaa
set_option linter.unusedVariables false
open Go.RowKit

def one (x : Int) : Nat → Int := fun k => if k = 0 then x else 0
theorem one_fits (x : Int) (h : -1000 ≤ x) (h2 : x ≤ 1000) : Fits64 (one x) := fun k => by unfold one; split <;> omega
theorem aw_steps : rowN 16 (blk (toldR stepI (one 100) (one 3))) = rowN 16 (blk (one 13)) := by
  have h : ∀ k, k < 16 → toldR stepI (one 100) (one 3) k = one 13 k := by decide +kernel
  exact rowN_ext _ _ _ fun k hk => by unfold blk; rw [h k hk]
theorem aw_values : rowN 16 (blk (toldR valI (one 13) (one 3))) = rowN 16 (blk (one 104)) := by
  have h : ∀ k, k < 16 → toldR valI (one 13) (one 3) k = one 104 k := by decide +kernel
  exact rowN_ext _ _ _ fun k hk => by unfold blk; rw [h k hk]
theorem eq_row16 (f : Nat → Int) (w : World) : (binOp .eql 23 (.agg (rowN 16 (blk f))) (.agg (rowN 16 (blk f)))).run Try.prog w = .ok (.bool true) w := by
  have h := eql_ints Try.underlying23 Try.underlying2 (by kernel_rfl) (by kernel_rfl) f f w
  rwa [eqB_true.2 fun _ _ => rfl] at h

theorem aw_one (x : Int) : rowN 16 (blk (one x)) = #[.int .i64 x, .int .i64 0, .int .i64 0, .int .i64 0, .int .i64 0, .int .i64 0, .int .i64 0, .int .i64 0, .int .i64 0, .int .i64 0, .int .i64 0, .int .i64 0, .int .i64 0, .int .i64 0, .int .i64 0, .int .i64 0] := rfl
theorem aw_two (x : Int) : rowN 4 (blk (one x)) = #[.int .i64 x, .int .i64 0, .int .i64 0, .int .i64 0] := rfl

set_option maxRecDepth 100000 in
theorem awake_any (w : World) : Calls Try.prog 11 #[] w fun e w' => e = .returned (.bool true) ∧ Old w w' := by
  have hS := fun w => Steps_any (one 100) (one 3) w (one_fits _ (by omega) (by omega))
  have hV := fun w => Values_any (one 13) (one 3) w (one_fits _ (by omega) (by omega))
  have hE := fun w => eq_row16 (one 13) w
  have hE2 := fun w => eq_row16 (one 104) w
  rw [aw_steps] at hS
  rw [aw_values] at hV
  obtain ⟨x1, hx1⟩ : ∃ x, rowN 16 (blk (one 13)) = x := ⟨_, rfl⟩
  obtain ⟨x2, hx2⟩ : ∃ x, rowN 16 (blk (one 104)) = x := ⟨_, rfl⟩
  have s1 : x1.size = 16 := by rw [← hx1]; exact rowN_size _ _
  have s2 : x2.size = 16 := by rw [← hx2]; exact rowN_size _ _
  have H1 : Hid (x1.all (·.oneCell') = true) := by rw [← hx1]; exact blk_one _ _
  have H2 : Hid (x2.all (·.oneCell') = true) := by rw [← hx2]; exact blk_one _ _
  have e1 : ∀ w, (binOp .eql 23 (.agg x1) (.agg #[.int .i64 13, .int .i64 0, .int .i64 0, .int .i64 0, .int .i64 0, .int .i64 0, .int .i64 0, .int .i64 0, .int .i64 0, .int .i64 0, .int .i64 0, .int .i64 0, .int .i64 0, .int .i64 0, .int .i64 0, .int .i64 0])).run Try.prog w = .ok (.bool true) w := fun w => by
    have h := hE w
    rw [hx1, show (Value.agg x1 = Value.agg #[.int .i64 13, .int .i64 0, .int .i64 0, .int .i64 0, .int .i64 0, .int .i64 0, .int .i64 0, .int .i64 0, .int .i64 0, .int .i64 0, .int .i64 0, .int .i64 0, .int .i64 0, .int .i64 0, .int .i64 0, .int .i64 0]) from by rw [← hx1]; rfl] at h
    rwa [show (Value.agg x1 = Value.agg #[.int .i64 13, .int .i64 0, .int .i64 0, .int .i64 0, .int .i64 0, .int .i64 0, .int .i64 0, .int .i64 0, .int .i64 0, .int .i64 0, .int .i64 0, .int .i64 0, .int .i64 0, .int .i64 0, .int .i64 0, .int .i64 0]) from by rw [← hx1]; rfl]
  have e2 : ∀ w, (binOp .eql 23 (.agg x2) (.agg #[.int .i64 104, .int .i64 0, .int .i64 0, .int .i64 0, .int .i64 0, .int .i64 0, .int .i64 0, .int .i64 0, .int .i64 0, .int .i64 0, .int .i64 0, .int .i64 0, .int .i64 0, .int .i64 0, .int .i64 0, .int .i64 0])).run Try.prog w = .ok (.bool true) w := fun w => by
    have h := hE2 w
    rw [hx2, show (Value.agg x2 = Value.agg #[.int .i64 104, .int .i64 0, .int .i64 0, .int .i64 0, .int .i64 0, .int .i64 0, .int .i64 0, .int .i64 0, .int .i64 0, .int .i64 0, .int .i64 0, .int .i64 0, .int .i64 0, .int .i64 0, .int .i64 0, .int .i64 0]) from by rw [← hx2]; rfl] at h
    rwa [show (Value.agg x2 = Value.agg #[.int .i64 104, .int .i64 0, .int .i64 0, .int .i64 0, .int .i64 0, .int .i64 0, .int .i64 0, .int .i64 0, .int .i64 0, .int .i64 0, .int .i64 0, .int .i64 0, .int .i64 0, .int .i64 0, .int .i64 0, .int .i64 0]) from by rw [← hx2]; rfl]
  rw [aw_one 100, aw_two, hx1] at hS
  rw [hx1, aw_two, hx2] at hV
  have HS := Lib.hid hS
  have HV := Lib.hid hV
  have Hs1 : Hid ((Try.prog.info? 23).map (·.size) = some x1.size) := Lib.hid (by rw [s1]; kernel_rfl)
  have Hs2 : Hid ((Try.prog.info? 23).map (·.size) = some x2.size) := Lib.hid (by rw [s2]; kernel_rfl)
  clear hS hV hE hE2 hx1 hx2
  go_enter Try.func11, Try.ntmps11
  go_wp2_with fail
  refine (HS.out _).mono ?_
  rintro e w1 ⟨rfl, ho⟩
  have h1 : (w1.alloc (.cells x1 23)).heap[w1.heap.size]? = some (.cells x1 23 (0, 0)) := heap_alloc_new _ _
  have Ha := Lib.hid h1
  have HO := Lib.hid (ho.alloc' (.cells x1 23))
  clear ho h1
  go_wp2_with (first | (with_reducible refine wpList_store_row rfl 23 _ _ rfl w1.heap.size x1 rfl rfl 23 _ (heap_alloc_new _ _) Hs1.out (by rw [s1]; kernel_rfl) H1.out ?_; rw [World.setRow_alloc_new]) | (with_reducible refine wpList_load_row rfl 23 _ rfl w1.heap.size rfl 23 x1 (0, 0) _ Ha.out Try.underlying23 rfl Hs1.out ?_))
  refine (HV.out _).mono ?_
  rintro e w2 ⟨rfl, ho⟩
  have h1 : w2.heap[w1.heap.size]? = some (.cells x1 23 (0, 0)) := (ho.block _ (lt_of_block Ha.out)).trans Ha.out
  have h2 : (w2.alloc (.cells x2 23)).heap[w1.heap.size]? = some (.cells x1 23 (0, 0)) := ((Old.alloc w2 _).block _ (lt_of_block h1)).trans h1
  have h3 : (w2.alloc (.cells x2 23)).heap[w2.heap.size]? = some (.cells x2 23 (0, 0)) := heap_alloc_new _ _
  have Hb := Lib.hid h2
  have Hc := Lib.hid h3
  have HO2 := Lib.hid ((HO.out.trans ho).alloc' (.cells x2 23))
  clear ho h1 h2 h3
  go_wp2_with (first | (with_reducible refine wpList_store_row rfl 23 _ _ rfl w2.heap.size x2 rfl rfl 23 _ (heap_alloc_new _ _) Hs2.out (by rw [s2]; kernel_rfl) H2.out ?_; rw [World.setRow_alloc_new]) | (with_reducible refine wpList_load_row_w (by kernel_rfl) 23 _ rfl w1.heap.size rfl 23 x1 (0, 0) _ Hb.out Try.underlying23 rfl Hs1.out ?_) | (with_reducible refine wpList_load_row_w (by kernel_rfl) 23 _ rfl w2.heap.size rfl 23 x2 (0, 0) _ Hc.out Try.underlying23 rfl Hs2.out ?_))
  go_ret
  exact ⟨rfl, HO2.out⟩
end Go.Proofs.Ythfbhmhkfmjbdaa
