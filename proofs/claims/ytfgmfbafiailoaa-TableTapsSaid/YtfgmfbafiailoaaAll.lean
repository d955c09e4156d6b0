/- Contract of table.All. -/
import Derived.Test.YtfgmfbafiailoaaTaps
namespace Go.Proofs.Ytfgmfbafiailoaa
set_option linter.unusedVariables false
open Go.RowKit

def tapC (k : Nat) : Int := if k % 4 = 0 then tap0 (k / 4) else if k % 4 = 1 then tap1 (k / 4) else if k % 4 = 2 then tap2 (k / 4) else tap3 (k / 4)
def tapF (n : Nat) : Nat → Value := fun k => .int .i64 (if k < n * 4 then tapC k else 0)
theorem tapC_0 (n : Nat) : tapC (n * 4) = tap0 n := by unfold tapC; rw [if_pos (by omega), show n * 4 / 4 = n by omega]
theorem tapC_1 (n : Nat) : tapC (n * 4 + 1) = tap1 n := by unfold tapC; rw [if_neg (by omega), if_pos (by omega), show (n * 4 + 1) / 4 = n by omega]
theorem tapC_2 (n : Nat) : tapC (n * 4 + 2) = tap2 n := by unfold tapC; rw [if_neg (by omega), if_neg (by omega), if_pos (by omega), show (n * 4 + 2) / 4 = n by omega]
theorem tapC_3 (n : Nat) : tapC (n * 4 + 3) = tap3 n := by unfold tapC; rw [if_neg (by omega), if_neg (by omega), if_neg (by omega), show (n * 4 + 3) / 4 = n by omega]
theorem tapF_upd (n : Nat) (hn : n < 32) : rowN 128 (updN (updN (updN (updN (tapF n) (n * 4) (.int .i64 (tap0 n))) (n * 4 + 1) (.int .i64 (tap1 n))) (n * 4 + 2) (.int .i64 (tap2 n))) (n * 4 + 3) (.int .i64 (tap3 n))) = rowN 128 (tapF (n + 1)) := by
  apply rowN_ext
  intro k hk
  unfold updN tapF
  by_cases h3 : k = n * 4 + 3
  · subst h3; rw [if_pos rfl, if_pos (by omega), tapC_3]
  · rw [if_neg h3]
    by_cases h2 : k = n * 4 + 2
    · subst h2; rw [if_pos rfl, if_pos (by omega), tapC_2]
    · rw [if_neg h2]
      by_cases h1 : k = n * 4 + 1
      · subst h1; rw [if_pos rfl, if_pos (by omega), tapC_1]
      · rw [if_neg h1]
        by_cases h0 : k = n * 4
        · subst h0; rw [if_pos rfl, if_pos (by omega), tapC_0]
        · rw [if_neg h0]
          by_cases h : k < n * 4
          · rw [if_pos h, if_pos (by omega)]
          · rw [if_neg h, if_neg (by omega)]

theorem all_zero : (∀ w, (zeroValue 34).run Try.prog w = .ok (.agg (rowN 128 (tapF 0))) w) ∧ (Try.prog.info? 34).map (·.size) = some 128 := zero_of_info (by kernel_rfl)
theorem all_start (w : World) : Hid (Tab w (w.heap.size + 1) 128 34 (tapF 0) ((w.alloc (.cells (rowN 128 (tapF 0)) 34)).alloc (.cells (rowN 128 (tapF 0)) 34)) ∧ Tab w w.heap.size 128 34 (tapF 0) ((w.alloc (.cells (rowN 128 (tapF 0)) 34)).alloc (.cells (rowN 128 (tapF 0)) 34))) := Lib.hid (Tab.two _ _ _ _)

set_option maxRecDepth 100000 in
theorem All_any (w : World) :
    Calls Try.prog 12 #[] w fun e w' => e = .returned (.agg (rowN 128 (tapF 32))) ∧ Old w w' := by
  have hst := all_start w
  have hz := all_zero.1
  go_enter Try.func12, Try.ntmps12
  go_wp2
  clear hz
  go_loopw [3] (fun i wr => ∃ k : Nat, k ≤ 32 ∧ i = .int .i64 k ∧ Hid (Tab w (w.heap.size + 1) 128 34 (tapF k) wr ∧ Tab w w.heap.size 128 34 (tapF 0) wr)) (fun i _ => 32 - (intOf i).toNat)
  case atStart => exact ⟨0, by omega, rfl, hst⟩
  case round =>
    obtain ⟨k, hk, rfl, ht⟩ := hrel
    by_cases hlt : k < 32
    · have i1 : 0 ≤ (k : Int) := by omega
      have i2 : (k : Int) < 32 := by omega
      have hT := Lib.hid (Taps_yes k wr (by omega))
      clear hst
      go_wp2_with fail
      refine hT.out.mono ?_
      rintro e w1 ⟨rfl, ho⟩
      have ht1 := ht.out.1.keep ho
      have ht2 := ht.out.2.keep ho
      have hb := ht1.new
      have hs1 := ht1.set (k * 4) (.int .i64 (tap0 k)) (by omega)
      have hs2 := hs1.set (k * 4 + 1) (.int .i64 (tap1 k)) (by omega)
      have hs3 := hs2.set (k * 4 + 2) (.int .i64 (tap2 k)) (by omega)
      have hs4 := hs3.set (k * 4 + 3) (.int .i64 (tap3 k)) (by omega)
      obtain ⟨hc, hf⟩ := ht1.cell (k * 4) (by omega)
      obtain ⟨hc1, hf1⟩ := hs1.cell (k * 4 + 1) (by omega)
      obtain ⟨hc2, hf2⟩ := hs2.cell (k * 4 + 2) (by omega)
      obtain ⟨hc3, hf3⟩ := hs3.cell (k * 4 + 3) (by omega)
      have ho2 := (((ht2.other (a := ⟨w.heap.size + 1, k * 4, none⟩) (by simp) (by simp) (.int .i64 (tap0 k))).other (a := ⟨w.heap.size + 1, k * 4 + 1, none⟩) (by simp) (by simp) (.int .i64 (tap1 k))).other (a := ⟨w.heap.size + 1, k * 4 + 2, none⟩) (by simp) (by simp) (.int .i64 (tap2 k))).other (a := ⟨w.heap.size + 1, k * 4 + 3, none⟩) (by simp) (by simp) (.int .i64 (tap3 k))
      have hnx := Lib.hid (And.intro (show Tab w (w.heap.size + 1) 128 34 (tapF (k + 1)) _ from ⟨by rw [← tapF_upd k hlt]; exact hs4.blk, hs4.new, hs4.old⟩) ho2)
      clear ht ht1 ht2 ho hs1 hs2 hs3 hs4 ho2
      unfold tapsV
      go_wp2
      go_roundw
      case rel => exact ⟨k + 1, by omega, by go_num, hnx⟩
      case measure => simp [intOf]; omega
    · obtain rfl : k = 32 := by omega
      have hfin : Hid (Tab w w.heap.size 128 34 (tapF 32) (wr.setRow w.heap.size (rowN 128 (tapF 32)))) := ht.out.2.row _
      have Hb := Lib.hid ht.out.1.blk
      have Hr := Lib.hid ht.out.2.blk
      have Hz : Hid ((Try.prog.info? 34).map (·.size) = some 128) := Lib.hid (by kernel_rfl)
      have H1 : Hid ((rowN 128 (tapF 32)).all (·.oneCell') = true) := Lib.hid (rowN_one _ _ fun _ _ => rfl)
      clear hst ht
      go_wp2_with (first | (with_reducible refine wpList_load_row rfl 34 _ rfl (w.heap.size + 1) rfl 34 (rowN 128 (tapF 32)) (0, 0) _ Hb.out Try.underlying34 rfl (by rw [rowN_size]; exact Hz.out) ?_) | (with_reducible refine wpList_store_row rfl 34 _ _ rfl w.heap.size (rowN 128 (tapF 32)) rfl rfl 34 _ Hr.out (by rw [rowN_size]; exact Hz.out) (by rw [rowN_size, rowN_size]) H1.out ?_))
      refine bodyPost_ret (results_cell_row rfl _ _ w.heap.size 34 (rowN 128 (tapF 32)) (0, 0) _ rfl hfin.out.blk Try.underlying34 rfl (by rw [rowN_size]; exact Hz.out)) rfl ⟨rfl, hfin.out.old⟩
end Go.Proofs.Ytfgmfbafiailoaa
