/- The chapter's example: contract of calliopelaw01.awake. -/
import Derived.Test.YtbbjleblfhaclaaBytes
namespace Go.Proofs.Ytbbjleblfhaclaa
set_option linter.unusedVariables false
open Go.RowKit

theorem WrAt.keep {w w' : World} {X Y : Nat → Prop} {b : Nat} {L : List Bool} {er : Int} (h : WrAt w X b L er) (k : Kept Y w w') (hb : Y b) (hY : ∀ g, ¬ X g → g ≠ b → g < w.heap.size → Y g) : WrAt w' X b L er := by
  obtain ⟨hXb, hX, v, hblk, hown⟩ := h
  exact ⟨hXb, fun q hq => Nat.lt_of_lt_of_le (hX q hq) k.size, v, (k.block b hb).trans hblk, hown.kept k fun g hg => hY g (fun h => hown.2 g hg (.inl h)) (fun h => hown.2 g hg (.inr h)) (hown.lt g hg)⟩
theorem WrAt.old {w w' : World} {X : Nat → Prop} {b : Nat} {L : List Bool} {er : Int} (h : WrAt w X b L er) (k : Old w w') : WrAt w' X b L er :=
  h.keep k (lt_of_block h.2.2.choose_spec.1) fun _ _ _ hg => hg

/-- A new writer. -/
theorem WrAt.fresh {w : World} {X : Nat → Prop} {b : Nat} (h : w.heap[b]? = some (.cells #[.slice none 0 0, .int .i64 0, .int .i64 0] 29 (0, 0))) (hb : ¬ X b) (hX : ∀ k, X k → k < w.heap.size) : WrAt w X b [] 0 :=
  ⟨hb, hX, .slice none 0 0, h, by
    have := ownX.nil (fun k => X k ∨ k = b) w 5
    simpa [nb, bytesOf] using this⟩

def exL : List Bool := [] ++ bitsN 5 3 ++ bitsN 18446744073709551615 2
theorem exL_is : exL = [true, false, true, true, true] := by decide
theorem ex_put : putTo [] 0 (okPut 5 3) 5 3 = ([] ++ bitsN 5 3, 0) := by decide
theorem ex_sgn : putTo ([] ++ bitsN 5 3) 0 (okSgn (-1) 2) (-1 % 18446744073709551616) 2 = (exL, 0) := by decide
theorem ex_pad : ((padded exL 1).map (Value.int .u8)).toArray = #[.int .u8 184] := by rw [exL_is]; rfl
theorem ex_nb : nb exL = 1 := by rw [exL_is]; rfl

theorem cell1 {w : World} {b : Nat} {x : Value} {t : TypeId} (h : w.heap[b]? = some (.cells #[x] t (0, 0))) : w.cell? ⟨b, 0, none⟩ = some x := cell_of_one h

set_option maxHeartbeats 400000 in
theorem awake_any (w : World) : Calls Try.prog 10 #[] w fun e w' => e = .returned (.bool true) ∧ Old w w' := by
  have hw0 : WrAt (w.alloc (.cells #[.slice none 0 0, .int .i64 0, .int .i64 0] 29)) (fun k => k < w.heap.size) w.heap.size [] 0 := WrAt.fresh (heap_alloc_new _ _) (by omega) (fun k hk => by simp; omega)
  have hO0 : Old w (w.alloc (.cells #[.slice none 0 0, .int .i64 0, .int .i64 0] 29)) := Old.alloc _ _
  generalize hW0 : w.alloc (.cells #[.slice none 0 0, .int .i64 0, .int .i64 0] 29) = w0 at hw0 hO0
  have HO0 := Lib.hid hO0
  have HW := Lib.hid hW0
  have c1 := Lib.hid (Put_any _ _ [] 0 5 3 w0 (by simp) (by omega) (by omega) hw0)
  clear hW0 hO0
  rw [ex_put] at c1
  go_enter Try.func10, Try.ntmps10
  go_wp2_with fail
  rw [HW.out]
  refine c1.out.mono ?_
  rintro e w1 ⟨rfl, hw1, hb1⟩
  have c2 := Lib.hid (WSigned_any _ _ _ 0 (-1) 2 w1 (by simp [bitsN]) hw1)
  rw [ex_sgn] at c2
  clear c1 hw0 hw1
  have Hb1 := Lib.hid hb1
  clear hb1
  go_wp2_with fail
  refine c2.out.mono ?_
  rintro e w2 ⟨rfl, hw2, hb2⟩
  have c3 := Lib.hid (Bytes_ok _ _ exL 1 w2 hw2 (by omega) (by rw [ex_nb]; omega))
  have Hw2 := Lib.hid hw2
  have Hb2 := Lib.hid hb2
  clear hb2 hw2 c2
  rw [ex_pad] at c3
  go_wp2_with fail
  refine c3.out.mono ?_
  rintro e w3 ⟨rfl, hh3, hb3⟩
  have d0 := cell_of_one hh3
  have hw3 := Hw2.out.old (Old.below hb3)
  have c4 := Lib.hid (Len_any _ _ _ _ _ hw3)
  rw [exL_is] at c4
  have hfin : Old w w3 := (HO0.out.after (Hb1.out.trans Hb2.out) (fun _ h => h)).trans (Old.below hb3)
  have HF := Lib.hid hfin
  clear hw3 hh3 hb3 c3 hfin
  go_wp2_with fail
  refine c4.out.mono ?_
  rintro e w' ⟨rfl, rfl⟩
  go_wp2
  go_ret
  exact ⟨rfl, HF.out⟩
end Go.Proofs.Ytbbjleblfhaclaa
