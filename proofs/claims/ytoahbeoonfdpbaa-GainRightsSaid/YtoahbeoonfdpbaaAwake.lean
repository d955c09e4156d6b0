/- The chapter's example: awake. -/
import Derived.Test.YtoahbeoonfdpbaaGainQ
namespace Go.Proofs.Ytoahbeoonfdpbaa
set_option linter.unusedVariables false
open Go.RowKit

def awF (k : Nat) : Nat → Int := fun j => if j < k then (if j < 4 then 10 else 80) else 0
theorem aw_lo (k : Nat) (h : k < 4) : (fun j => if j = k then 10 else (fun j => if j = k then 80 else awF k j) j) = awF (k + 1) := by
  funext j
  dsimp only
  unfold awF
  by_cases e : j = k
  · subst e; rw [if_pos rfl, if_pos (by omega), if_pos h]
  · rw [if_neg e, if_neg e]
    by_cases h2 : j < k
    · rw [if_pos h2, if_pos (show j < k + 1 by omega)]
    · rw [if_neg h2, if_neg (by omega)]
theorem aw_hi (k : Nat) (h : ¬ k < 4) : (fun j => if j = k then 80 else awF k j) = awF (k + 1) := by
  funext j
  unfold awF
  by_cases e : j = k
  · subst e; rw [if_pos rfl, if_pos (by omega), if_neg h]
  · rw [if_neg e]
    by_cases h2 : j < k
    · rw [if_pos h2, if_pos (show j < k + 1 by omega)]
    · rw [if_neg h2, if_neg (by omega)]
theorem aw_fits : Fits64 (awF 16) := fun k => by unfold awF; split <;> (try split) <;> omega
theorem aw_gains : rowN 4 (blk (gainOf (awF 16))) = #[.int .i64 3, .int .i64 0, .int .i64 0, .int .i64 0] := by
  have h : ∀ k, k < 4 → gainOf (awF 16) k = if k = 0 then 3 else 0 := by decide +kernel
  have e : rowN 4 (blk (gainOf (awF 16))) = rowN 4 (blk fun k => if k = 0 then 3 else 0) := rowN_ext _ _ _ fun k hk => by unfold blk; rw [h k hk]
  rw [e]; rfl

theorem awake_any (w : World) : Calls Try.prog 6 #[] w fun e w' => e = .returned (.bool true) ∧ Old w w' := by
  have hO := fun w => Of_any (awF 16) aw_fits w
  have hE := fun w => eql_ints Try.underlying26 Try.underlying3 (by kernel_rfl) (by kernel_rfl) (gainOf (awF 16)) (gainOf (awF 16)) w
  rw [eqB_true.2 fun _ _ => rfl] at hE
  rw [aw_gains] at hE hO
  have HO := Lib.hid hO
  clear hO
  have Hs : Hid ((Try.prog.info? 23).map (·.size) = some 16) := Lib.hid (by kernel_rfl)
  go_enter Try.func6, Try.ntmps6
  go_wp2_with fail
  have h0 : Tab w w.heap.size 16 23 (blk (awF 0)) (w.alloc (.cells (rowN 16 (blk (awF 0))) 23)) := Tab.fresh _ _ _ _
  have H0 := Lib.hid h0
  clear h0
  go_loopw [2] (fun i wr => ∃ k : Nat, k ≤ 16 ∧ i = .int .i64 k ∧ Hid (Tab w w.heap.size 16 23 (blk (awF k)) wr)) (fun i _ => 16 - (intOf i).toNat)
  case atStart => exact ⟨0, by omega, rfl, H0⟩
  case round =>
    obtain ⟨k, hk, rfl, hs⟩ := hrel
    clear H0
    by_cases hlt : k < 16
    · have k1 : (0 : Int) ≤ k := by omega
      have k2 : (k : Int) < 16 := by omega
      obtain ⟨c1, c2⟩ := hs.out.cell k hlt
      have h1 := hs.out.set k (.int .i64 80) hlt
      obtain ⟨c3, c4⟩ := h1.cell k hlt
      have h2 := h1.set k (.int .i64 10) hlt
      rw [blk_upd] at h1 h2
      rw [blk_upd] at h2
      by_cases h4 : k < 4
      · have k3 : (k : Int) < 4 := by omega
        rw [aw_lo k h4] at h2
        have H2 := Lib.hid h2
        clear h1 h2 hs
        go_wp2_with fail
        go_roundw
        case rel => exact ⟨k + 1, by omega, by go_num, H2⟩
        case measure => simp [intOf]; omega
      · have k3 : 4 ≤ (k : Int) := by omega
        rw [aw_hi k h4] at h1
        have H1 := Lib.hid h1
        clear h1 h2 hs c3 c4
        go_wp2_with fail
        go_roundw
        case rel => exact ⟨k + 1, by omega, by go_num, H1⟩
        case measure => simp [intOf]; omega
    · obtain rfl : k = 16 := by omega
      have Hb := Lib.hid hs.out.blk
      have Hd := Lib.hid hs.out.old
      clear hs
      go_wp2_with (with_reducible refine wpList_load_row rfl 23 _ rfl w.heap.size rfl 23 (rowN 16 (blk (awF 16))) (0, 0) _ Hb.out Try.underlying23 rfl (by rw [rowN_size]; exact Hs.out) ?_)
      refine (HO.out _).mono ?_
      rintro e w1 ⟨rfl, ho⟩
      have HD := Lib.hid (Hd.out.trans ho)
      clear ho
      go_wp2_with fail
      go_ret
      exact ⟨rfl, HD.out⟩
end Go.Proofs.Ytoahbeoonfdpbaa
