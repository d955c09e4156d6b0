/- The law's own cut: at most 200 numbers, held within 2^20. -/
import Derived.Test.YtpdjdejlhjcicaaAwake
import Derived.Test.YtpdjdejlhjcicaaListL
import Derived.Test.YtpdjdejlhjcicaaRowsB
namespace Go.Proofs.Ytpdjdejlhjcicaa
set_option linter.unusedVariables false
open Go.RowKit

def fewI (v : Int) : Int := if 1048576 < v ∨ v < -1048576 then v.tmod 1048576 else v
theorem fewI_bd (v : Int) : -1048576 ≤ fewI v ∧ fewI v ≤ 1048576 := by
  unfold fewI
  split
  · have := Int.tmod_lt_of_pos v (show (0 : Int) < 1048576 by omega)
    have := Int.lt_tmod_of_pos v (show (0 : Int) < 1048576 by omega)
    omega
  · omega
def fewL (xs : List Int) : List Int := (xs.take 200).map fewI
theorem fewL_len (xs : List Int) : (fewL xs).length ≤ 200 := by unfold fewL; rw [List.length_map]; exact List.length_take_le _ _
theorem fewL_bd (xs : List Int) : ∀ x ∈ fewL xs, -1048576 ≤ x ∧ x ≤ 1048576 := by
  intro x hx
  obtain ⟨v, _, rfl⟩ := List.mem_map.1 hx
  exact fewI_bd v

/-- After k rounds. -/
def FewR (w : World) (xs : List Int) (k : Nat) (v : Value) (wr : World) : Prop := OwnL .i64 2 (fun q => q < w.heap.size) wr v ((xs.take k).map fewI) ∧ Old w wr

theorem Try.info_i64 : (Try.prog.info? 2).map (fun i => (i.zero, i.size, i.bytes)) = some (some (.int .i64 0), 1, 8) := by kernel_rfl

set_option maxRecDepth 100000 in
set_option maxHeartbeats 1000000 in
theorem few_any (p : Option Addr) (n cap : Nat) (xs : List Int) (w : World) (hs : SlI w .i64 (.slice p n cap) xs) (hn : n ≤ 9223372036854775807) (hx64 : ∀ x ∈ xs, -9223372036854775808 ≤ x ∧ x ≤ 9223372036854775807) :
    Calls Try.prog 8 #[.slice p n cap] w fun e w' => ∃ v, e = .returned v ∧ OwnL .i64 2 (fun q => q < w.heap.size) w' v (fewL xs) ∧ Old w w' := by
  obtain ⟨hl, hc⟩ := hs.cellAt
  have HC := Lib.hid hc
  have HL := Lib.hid hl
  have H64 := Lib.hid hx64
  clear hs hc hl hx64
  obtain ⟨i0, hi, hz0, hz1, hz2⟩ := info_parts Try.info_i64
  have HS : Hid (FewR w xs 0 (.slice none 0 0) w) := ⟨OwnL.nil _ _ _ _, Old.refl w⟩
  go_enter Try.func8, Try.ntmps8
  go_wp2
  go_loopw [3, 4] (fun v i wr => ∃ k : Nat, k ≤ 200 ∧ k ≤ n ∧ i = .int .i64 k ∧ Hid (FewR w xs k v wr)) (fun _ i _ => 200 - (intOf i).toNat)
  case atStart => exact ⟨0, by omega, by omega, rfl, HS⟩
  case round =>
    obtain ⟨k, hk, hkn, rfl, HR⟩ := hrel
    by_cases h1 : k < n
    · by_cases h2 : k < 200
      · obtain ⟨b, off, rfl, hb, _, _, hc⟩ := HC.out (by omega)
        have hcell := (HR.out.2.cell (a := ⟨b, off + k, none⟩) hb).trans (hc k h1)
        have HN : Hid ((xs.take (k + 1)).map fewI = (xs.take k).map fewI ++ [fewI (xs.getD k 0)]) := by
          unfold Hid; rw [take_succ_getD xs k (by rw [HL.out]; exact h1), List.map_append]; rfl
        have HK : Hid (((xs.take k).map fewI).length = k) := by unfold Hid; rw [List.length_map, List.length_take, HL.out]; omega
        have hxb := H64.out (xs.getD k 0) (by
          have hk' : k < xs.length := by rw [HL.out]; exact h1
          have : xs.getD k 0 = xs[k] := by simp [List.getD, hk']
          rw [this]; exact List.getElem_mem hk')
        clear hc hb HC HL HS H64
        obtain ⟨x, hx⟩ : ∃ x, x = xs.getD k 0 := ⟨_, rfl⟩
        rw [← hx] at hcell HN hxb
        obtain ⟨y, hy⟩ : ∃ y, y = fewI x := ⟨_, rfl⟩
        rw [← hy] at HN
        have hcase : (1048576 < x ∧ wrap64 (x.tmod 1048576) = y) ∨ (x ≤ 1048576 ∧ x < -1048576 ∧ y = x.tmod 1048576) ∨ (x ≤ 1048576 ∧ -1048576 ≤ x ∧ y = x) := by
          have a1 := Int.tmod_lt_of_pos x (show (0 : Int) < 1048576 by omega)
          have a2 := Int.lt_tmod_of_pos x (show (0 : Int) < 1048576 by omega)
          have a3 : wrap64 (x.tmod 1048576) = x.tmod 1048576 := IntWalk.wrap64_in _ (by omega)
          rw [a3, hy]; unfold fewI; split <;> omega
        clear hx hy
        have HA : Hid (ownX (fun q => q < w.heap.size) (wr.alloc (.cells #[.int .i64 y] 2)) 2 u3 ((xs.take k).map fewI).length (((xs.take k).map fewI).map (Value.int .i64))) := HR.out.1.old (Old.alloc _ _)
        have HO : Hid (Old w (wr.alloc (.cells #[.int .i64 y] 2))) := HR.out.2.alloc' _
        clear HR
        rcases hcase with ⟨c1, c3⟩ | ⟨c1, c2, rfl⟩ | ⟨c1, c2, rfl⟩
        · have c4 : x.tmod 1048576 = x % 1048576 := tmod_pos _ _ (by omega)
          have c5 : wrap64 (x % 1048576) = x % 1048576 := IntWalk.wrap64_in _ (by omega)
          rw [c4, c5] at c3
          clear c4 c5
          subst c3
          go_wp2_with (at_builtin; refine append_X _ rfl _ _ 22 rfl (fun q => q < w.heap.size) 2 i0 (.int .i64 0) 8 Try.underlying22 hi hz0 hz1 hz2 rfl _ _ _ rfl HA.out ⟨wr.heap.size, 0, none⟩ 1 1 [.int .i64 _] rfl rfl (news_one wr _ _) (one_val rfl) (by rw [HK.out]; unfold maxLen; omega) (by rw [HK.out]; omega) (fun q hq => Nat.lt_of_lt_of_le hq HO.out.size) ?_; intro v' w2 hown2 hk2 _; have HR2 := Lib.hid (show FewR w xs (k + 1) v' w2 from ⟨by rw [HN.out]; exact OwnL.snoc hown2, HO.out.after hk2 (fun _ h => h)⟩); clear hown2 hk2 HA HO HN HK)
          go_roundw
          case rel => exact ⟨k + 1, by omega, by omega, by go_num, HR2⟩
          case measure => simp [intOf]; omega
        · go_wp2_with (at_builtin; refine append_X _ rfl _ _ 22 rfl (fun q => q < w.heap.size) 2 i0 (.int .i64 0) 8 Try.underlying22 hi hz0 hz1 hz2 rfl _ _ _ rfl HA.out ⟨wr.heap.size, 0, none⟩ 1 1 [.int .i64 _] rfl rfl (news_one wr _ _) (one_val rfl) (by rw [HK.out]; unfold maxLen; omega) (by rw [HK.out]; omega) (fun q hq => Nat.lt_of_lt_of_le hq HO.out.size) ?_; intro v' w2 hown2 hk2 _; have HR2 := Lib.hid (show FewR w xs (k + 1) v' w2 from ⟨by rw [HN.out]; exact OwnL.snoc hown2, HO.out.after hk2 (fun _ h => h)⟩); clear hown2 hk2 HA HO HN HK)
          go_roundw
          case rel => exact ⟨k + 1, by omega, by omega, by go_num, HR2⟩
          case measure => simp [intOf]; omega
        · go_wp2_with (at_builtin; refine append_X _ rfl _ _ 22 rfl (fun q => q < w.heap.size) 2 i0 (.int .i64 0) 8 Try.underlying22 hi hz0 hz1 hz2 rfl _ _ _ rfl HA.out ⟨wr.heap.size, 0, none⟩ 1 1 [.int .i64 _] rfl rfl (news_one wr _ _) (one_val rfl) (by rw [HK.out]; unfold maxLen; omega) (by rw [HK.out]; omega) (fun q hq => Nat.lt_of_lt_of_le hq HO.out.size) ?_; intro v' w2 hown2 hk2 _; have HR2 := Lib.hid (show FewR w xs (k + 1) v' w2 from ⟨by rw [HN.out]; exact OwnL.snoc hown2, HO.out.after hk2 (fun _ h => h)⟩); clear hown2 hk2 HA HO HN HK)
          go_roundw
          case rel => exact ⟨k + 1, by omega, by omega, by go_num, HR2⟩
          case measure => simp [intOf]; omega
      · obtain rfl : k = 200 := by omega
        have HE : Hid (OwnL .i64 2 (fun q => q < w.heap.size) wr u3 (fewL xs) ∧ Old w wr) := HR.out
        clear HC HL HR HS H64
        go_wp2
        go_ret
        exact ⟨_, rfl, HE.out⟩
    · have HE : Hid (OwnL .i64 2 (fun q => q < w.heap.size) wr u3 (fewL xs) ∧ Old w wr) := by
        have := HR.out
        unfold FewR at this
        rw [List.take_of_length_le (by rw [HL.out]; omega)] at this
        unfold fewL
        rw [List.take_of_length_le (by rw [HL.out]; omega)]
        exact this
      clear HC HL HR HS H64
      go_wp2
      go_ret
      exact ⟨_, rfl, HE.out⟩
end Go.Proofs.Ytpdjdejlhjcicaa
