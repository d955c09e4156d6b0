/- Contracts of table.Step and table.Steps. -/
import Derived.Test.YtfgmfbafiailoaaTurn
namespace Go.Proofs.Ytfgmfbafiailoaa
set_option linter.unusedVariables false
open Go.RowKit

theorem Step_no (s : Int) (w : World) (h : s < 0 ∨ 23 < s) :
    Calls Try.prog 9 #[.int .i64 s] w fun e w' => e = .returned (.int .i64 0) ∧ w = w' := by
  rcases h with h | h
  · go_enter Try.func9, Try.ntmps9
    go_wp2
    go_ret
    exact ⟨rfl, rfl⟩
  · have h0 : 0 ≤ s := by omega
    go_enter Try.func9, Try.ntmps9
    go_wp2
    go_ret
    exact ⟨rfl, rfl⟩
theorem Step_yes (s : Nat) (w : World) (h : s ≤ 23) :
    Calls Try.prog 9 #[.int .i64 s] w fun e w' => e = .returned (.int .i64 (pw s)) ∧ w = w' := by
  have h0 : 0 ≤ (s : Int) := by omega
  have h1 : (s : Int) ≤ 23 := by omega
  have he := pw_wrap s (by omega)
  go_enter Try.func9, Try.ntmps9
  go_wp2
  go_ret
  exact ⟨ret_int (by simpa using he), rfl⟩

def stepF (n : Nat) : Nat → Value := fun k => .int .i64 (if k < n then pw k else 0)
theorem stepF_upd (n : Nat) (hn : n < 24) : rowN 24 (updN (stepF n) n (.int .i64 (pw n))) = rowN 24 (stepF (n + 1)) := by
  apply rowN_ext
  intro k hk
  unfold updN stepF
  by_cases h : k = n
  · subst h; rw [if_pos rfl, if_pos (by omega)]
  · rw [if_neg h]
    by_cases h2 : k < n
    · rw [if_pos h2, if_pos (by omega)]
    · rw [if_neg h2, if_neg (by omega)]

theorem steps_start (w : World) : Hid (Tab w (w.heap.size + 1) 24 30 (stepF 0) ((w.alloc (.cells (rowN 24 (stepF 0)) 30)).alloc (.cells (rowN 24 (stepF 0)) 30)) ∧ Tab w w.heap.size 24 30 (stepF 0) ((w.alloc (.cells (rowN 24 (stepF 0)) 30)).alloc (.cells (rowN 24 (stepF 0)) 30))) := Lib.hid (Tab.two _ _ _ _)

set_option maxRecDepth 100000 in
theorem Steps_any (w : World) :
    Calls Try.prog 10 #[] w fun e w' => e = .returned (.agg (rowN 24 (stepF 24))) ∧ Old w w' := by
  have hst := steps_start w
  go_enter Try.func10, Try.ntmps10
  go_wp2
  go_loopw [3] (fun i wr => ∃ k : Nat, k ≤ 24 ∧ i = .int .i64 k ∧ Hid (Tab w (w.heap.size + 1) 24 30 (stepF k) wr ∧ Tab w w.heap.size 24 30 (stepF 0) wr)) (fun i _ => 24 - (intOf i).toNat)
  case atStart => exact ⟨0, by omega, rfl, hst⟩
  case round =>
    obtain ⟨k, hk, rfl, ht⟩ := hrel
    by_cases hlt : k < 24
    · have i1 : 0 ≤ (k : Int) := by omega
      have i2 : (k : Int) < 24 := by omega
      have hS := Lib.hid (fun w => Step_yes k w (by omega))
      obtain ⟨hc, hf⟩ := ht.out.1.cell k hlt
      have hb := ht.out.1.new
      have hnx : Hid (Tab w (w.heap.size + 1) 24 30 (stepF (k + 1)) (wr.setCell ⟨w.heap.size + 1, k, none⟩ (.int .i64 (pw k))) ∧ Tab w w.heap.size 24 30 (stepF 0) (wr.setCell ⟨w.heap.size + 1, k, none⟩ (.int .i64 (pw k)))) := by
        refine ⟨?_, ht.out.2.other (a := ⟨w.heap.size + 1, k, none⟩) (by simp) (by simp) _⟩
        have h := ht.out.1.set k (.int .i64 (pw k)) hlt
        exact ⟨by rw [← stepF_upd k hlt]; exact h.blk, h.new, h.old⟩
      clear hst
      go_wp2_with fail
      refine (hS.out _).mono ?_
      rintro e w' ⟨rfl, rfl⟩
      go_wp2
      go_roundw
      case rel => exact ⟨k + 1, by omega, by go_num, hnx⟩
      case measure => simp [intOf]; omega
    · obtain rfl : k = 24 := by omega
      have hfin : Hid (Tab w w.heap.size 24 30 (stepF 24) (wr.setRow w.heap.size (rowN 24 (stepF 24)))) := ht.out.2.row _
      have Hb := Lib.hid ht.out.1.blk
      have Hr := Lib.hid ht.out.2.blk
      have Hz : Hid ((Try.prog.info? 30).map (·.size) = some 24) := Lib.hid (by kernel_rfl)
      have H1 : Hid ((rowN 24 (stepF 24)).all (·.oneCell') = true) := Lib.hid (rowN_one _ _ fun _ _ => rfl)
      clear hst ht
      go_wp2_with (first | (with_reducible refine wpList_load_row rfl 30 _ rfl (w.heap.size + 1) rfl 30 (rowN 24 (stepF 24)) (0, 0) _ Hb.out Try.underlying30 rfl (by rw [rowN_size]; exact Hz.out) ?_) | (with_reducible refine wpList_store_row rfl 30 _ _ rfl w.heap.size (rowN 24 (stepF 24)) rfl rfl 30 _ Hr.out (by rw [rowN_size]; exact Hz.out) (by rw [rowN_size, rowN_size]) H1.out ?_))
      refine bodyPost_ret (results_cell_row rfl _ _ w.heap.size 30 (rowN 24 (stepF 24)) (0, 0) _ rfl hfin.out.blk Try.underlying30 rfl (by rw [rowN_size]; exact Hz.out)) rfl ⟨rfl, hfin.out.old⟩
end Go.Proofs.Ytfgmfbafiailoaa
