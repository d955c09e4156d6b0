/- Contract of table.Turns. -/
import Derived.Test.YtfgmfbafiailoaaTurn
namespace Go.Proofs.Ytfgmfbafiailoaa
set_option linter.unusedVariables false
open Go.RowKit

def turnC (k : Nat) : Int := if k % 2 = 0 then turnP (k / 2) else turnU (k / 2)
def turnF (n : Nat) : Nat → Value := fun k => .int .i64 (if k < n * 2 then turnC k else 0)
theorem turnF_upd (n : Nat) (hn : n < 8) : rowN 16 (updN (updN (turnF n) (n * 2) (.int .i64 (turnP n))) (n * 2 + 1) (.int .i64 (turnU n))) = rowN 16 (turnF (n + 1)) := by
  apply rowN_ext
  intro k hk
  unfold updN turnF
  by_cases h : k = n * 2 + 1
  · subst h
    rw [if_pos rfl, if_pos (by omega)]
    unfold turnC
    rw [if_neg (by omega), show (n * 2 + 1) / 2 = n by omega]
  · rw [if_neg h]
    by_cases h1 : k = n * 2
    · subst h1
      rw [if_pos rfl, if_pos (by omega)]
      unfold turnC
      rw [if_pos (by omega), show n * 2 / 2 = n by omega]
    · rw [if_neg h1]
      by_cases h2 : k < n * 2
      · rw [if_pos h2, if_pos (by omega)]
      · rw [if_neg h2, if_neg (by omega)]

theorem turns_start (w : World) : Hid (Tab w (w.heap.size + 1) 16 26 (turnF 0) ((w.alloc (.cells (rowN 16 (turnF 0)) 26)).alloc (.cells (rowN 16 (turnF 0)) 26)) ∧ Tab w w.heap.size 16 26 (turnF 0) ((w.alloc (.cells (rowN 16 (turnF 0)) 26)).alloc (.cells (rowN 16 (turnF 0)) 26))) := Lib.hid (Tab.two _ _ _ _)

set_option maxRecDepth 100000 in
theorem Turns_any (w : World) :
    Calls Try.prog 8 #[] w fun e w' => e = .returned (.agg (rowN 16 (turnF 8))) ∧ Old w w' := by
  have hst := turns_start w
  go_enter Try.func8, Try.ntmps8
  go_wp2
  go_loopw [3] (fun i wr => ∃ k : Nat, k ≤ 8 ∧ i = .int .i64 k ∧ Hid (Tab w (w.heap.size + 1) 16 26 (turnF k) wr ∧ Tab w w.heap.size 16 26 (turnF 0) wr)) (fun i _ => 8 - (intOf i).toNat)
  case atStart => exact ⟨0, by omega, rfl, hst⟩
  case round =>
    obtain ⟨k, hk, rfl, ht⟩ := hrel
    by_cases hlt : k < 8
    · have i1 : 0 ≤ (k : Int) := by omega
      have i2 : (k : Int) < 8 := by omega
      have hT := Lib.hid (Turn_yes k wr (by omega))
      clear hst
      go_wp2_with fail
      refine hT.out.mono ?_
      rintro e w1 ⟨rfl, ho⟩
      have ht1 := ht.out.1.keep ho
      have ht2 := ht.out.2.keep ho
      have hb := ht1.new
      obtain ⟨hc, hf⟩ := ht1.cell (k * 2) (by omega)
      obtain ⟨hc1, hf1⟩ := (ht1.set (k * 2) (.int .i64 (turnP k)) (by omega)).cell (k * 2 + 1) (by omega)
      have hnx : Hid (Tab w (w.heap.size + 1) 16 26 (turnF (k + 1)) ((w1.setCell ⟨w.heap.size + 1, k * 2, none⟩ (.int .i64 (turnP k))).setCell ⟨w.heap.size + 1, k * 2 + 1, none⟩ (.int .i64 (turnU k))) ∧ Tab w w.heap.size 16 26 (turnF 0) ((w1.setCell ⟨w.heap.size + 1, k * 2, none⟩ (.int .i64 (turnP k))).setCell ⟨w.heap.size + 1, k * 2 + 1, none⟩ (.int .i64 (turnU k)))) := by
        refine ⟨?_, (ht2.other (a := ⟨w.heap.size + 1, k * 2, none⟩) (by simp) (by simp) _).other (a := ⟨w.heap.size + 1, k * 2 + 1, none⟩) (by simp) (by simp) _⟩
        have h := (ht1.set (k * 2) (.int .i64 (turnP k)) (by omega)).set (k * 2 + 1) (.int .i64 (turnU k)) (by omega)
        exact ⟨by rw [← turnF_upd k hlt]; exact h.blk, h.new, h.old⟩
      clear ht ht1 ht2 ho
      unfold turnV
      go_wp2
      go_roundw
      case rel => exact ⟨k + 1, by omega, by go_num, hnx⟩
      case measure => simp [intOf]; omega
    · obtain rfl : k = 8 := by omega
      have hfin : Hid (Tab w w.heap.size 16 26 (turnF 8) (wr.setRow w.heap.size (rowN 16 (turnF 8)))) := ht.out.2.row _
      have Hb := Lib.hid ht.out.1.blk
      have Hr := Lib.hid ht.out.2.blk
      have Hz : Hid ((Try.prog.info? 26).map (·.size) = some 16) := Lib.hid (by kernel_rfl)
      have H1 : Hid ((rowN 16 (turnF 8)).all (·.oneCell') = true) := Lib.hid (rowN_one _ _ fun _ _ => rfl)
      clear hst ht
      go_wp2_with (first | (with_reducible refine wpList_load_row rfl 26 _ rfl (w.heap.size + 1) rfl 26 (rowN 16 (turnF 8)) (0, 0) _ Hb.out Try.underlying26 rfl (by rw [rowN_size]; exact Hz.out) ?_) | (with_reducible refine wpList_store_row rfl 26 _ _ rfl w.heap.size (rowN 16 (turnF 8)) rfl rfl 26 _ Hr.out (by rw [rowN_size]; exact Hz.out) (by rw [rowN_size, rowN_size]) H1.out ?_))
      refine bodyPost_ret (results_cell_row rfl _ _ w.heap.size 26 (rowN 16 (turnF 8)) (0, 0) _ rfl hfin.out.blk Try.underlying26 rfl (by rw [rowN_size]; exact Hz.out)) rfl ⟨rfl, hfin.out.old⟩
end Go.Proofs.Ytfgmfbafiailoaa
