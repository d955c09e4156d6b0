/- The chapter's example: awake. -/
import Derived.Test.YtekfkepkhcdohaaNetQ
namespace Go.Proofs.Ytekfkepkhcdohaa
set_option linter.unusedVariables false
open Go.RowKit

def f1 : Nat → Int := fun k => if k = 0 then 1000 else 0
def f0 : Nat → Int := fun _ => 0
theorem row1 : rowN 16 (blk f1) = #[.int .i64 1000, .int .i64 0, .int .i64 0, .int .i64 0, .int .i64 0, .int .i64 0, .int .i64 0, .int .i64 0, .int .i64 0, .int .i64 0, .int .i64 0, .int .i64 0, .int .i64 0, .int .i64 0, .int .i64 0, .int .i64 0] := rfl
theorem row0 : rowN 16 (blk f0) = #[.int .i64 0, .int .i64 0, .int .i64 0, .int .i64 0, .int .i64 0, .int .i64 0, .int .i64 0, .int .i64 0, .int .i64 0, .int .i64 0, .int .i64 0, .int .i64 0, .int .i64 0, .int .i64 0, .int .i64 0, .int .i64 0] := rfl
theorem f1_in : Fits64 f1 := fun k => by unfold f1; split <;> omega
theorem f0_in : Fits64 f0 := fun k => by unfold f0; omega
theorem f1_ne : eqB 16 (fwdN 4 f1) f1 = false := by
  rw [eqB_false]
  intro h
  have h1 := h 1 (by decide)
  revert h1
  decide +kernel
theorem f1_ne0 : eqB 16 (fwdN 4 f1) f0 = false := by
  rw [eqB_false]
  intro h
  have h2 : ∀ k, k < 16 → fwdN 4 f1 k = fwdN 4 f0 k := fun k hk => by rw [h k hk, show fwdN 4 f0 = f0 from fwd_zero]
  have h3 := (fwd_apart f1_in f0_in (fun k hk => by unfold f1 f0; rw [if_neg (by omega)])).1 h2 0 (by decide)
  revert h3
  decide

set_option maxRecDepth 100000 in
set_option maxHeartbeats 2000000 in
theorem awake_any (w : World) : Calls Try.prog 7 #[] w fun e w' => e = .returned (.bool true) ∧ Old w w' := by
  have hF1 := fun w => Forward_any f1 w
  have hF0 := fun w => Forward_any f0 w
  have hB := fun w => Inverse_any (fwdN 4 f1) w
  have E1 := fun w => eql_blk f0 f0 w
  have E2 := fun w => neq_blk (fwdN 4 f1) f1 w
  have E3 := fun w => neq_blk (fwdN 4 f1) f0 w
  have E4 := fun w => eql_blk f1 f1 w
  rw [show fwdN 4 f0 = f0 from fwd_zero] at hF0
  rw [bck_fwd f1_in] at hB
  rw [f1_ne] at E2
  rw [f1_ne0] at E3
  rw [eqB_true.2 fun _ _ => rfl] at E1 E4
  rw [row1] at hF1 hB E2 E4
  rw [row0] at hF0 E1 E3
  have hs : (rowN 16 (blk (fwdN 4 f1))).size = 16 := rowN_size _ _
  have hone := blk_one (fwdN 4 f1) 16
  generalize rowN 16 (blk (fwdN 4 f1)) = R at *
  have HF1 := Lib.hid hF1
  have HF0 := Lib.hid hF0
  have HB := Lib.hid hB
  have H1 := Lib.hid hone
  have Hs := Lib.hid hs
  have Hz : Hid ((Try.prog.info? 23).map (·.size) = some 16) := Lib.hid (by kernel_rfl)
  have HN := Lib.hid (fun w => New_any w)
  clear hF1 hF0 hB hone hs
  go_enter Try.func7, Try.ntmps7
  go_wp2_with fail
  refine (HN.out _).mono ?_
  rintro e w1 ⟨rfl, ho1⟩
  have O1 := Lib.hid ho1
  clear ho1
  go_wp2_with fail
  refine (HF1.out _).mono ?_
  rintro e w2 ⟨rfl, ho2⟩
  have O2 := Lib.hid ho2
  clear ho2
  go_wp2_with (with_reducible refine wpList_store_row rfl 23 _ _ rfl w2.heap.size R rfl rfl 23 _ (heap_alloc_new _ _) (by rw [Hs.out]; exact Hz.out) (by rw [Hs.out]; kernel_rfl) H1.out ?_; rw [World.setRow_alloc_new])
  refine (HF0.out _).mono ?_
  rintro e w3 ⟨rfl, ho3⟩
  have hbk : w3.heap[w2.heap.size]? = some (.cells R 23 (0, 0)) := (ho3.block _ (by simp)).trans (World.alloc_heap_new _ _)
  have Hk := Lib.hid hbk
  have O3 := Lib.hid ho3
  clear ho3 hbk
  go_wp2_with (first | (with_reducible refine wpList_load_row_w (by kernel_rfl) 23 _ rfl w2.heap.size rfl 23 R (0, 0) _ Hk.out Try.underlying23 rfl (by rw [Hs.out]; exact Hz.out) ?_) | fail)
  refine (HB.out _).mono ?_
  rintro e w4 ⟨rfl, ho4⟩
  have O4 := Lib.hid ho4
  clear ho4
  go_wp2
  go_ret
  exact ⟨rfl, ((((O1.out.alloc' _).trans O2.out).alloc' _).trans O3.out).trans O4.out⟩
end Go.Proofs.Ytekfkepkhcdohaa
