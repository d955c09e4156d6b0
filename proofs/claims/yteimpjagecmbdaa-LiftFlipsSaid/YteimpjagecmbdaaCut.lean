/- The law's own cut: at most 20 numbers, held within 2^40; and the chapter's example. -/
import Derived.Test.YteimpjagecmbdaaLiftL
import Derived.Test.YteimpjagecmbdaaListL
namespace Go.Proofs.Yteimpjagecmbdaa
set_option linter.unusedVariables false
open Go.RowKit

def holdI (v : Int) : Int := if 1099511627776 < v then 1099511627776 else if v < -1099511627776 then -1099511627776 else v
def cutL (xs : List Int) : List Int := (xs.take 20).map holdI
theorem cutL_len (xs : List Int) : (cutL xs).length ≤ 20 := by unfold cutL; rw [List.length_map]; exact List.length_take_le _ _

/-- After k rounds. -/
def CutR (w : World) (xs : List Int) (k : Nat) (v : Value) (wr : World) : Prop := OwnL .i64 2 (fun q => q < w.heap.size) wr v ((xs.take k).map holdI) ∧ Old w wr

theorem Try.info_i64 : (Try.prog.info? 2).map (fun i => (i.zero, i.size, i.bytes)) = some (some (.int .i64 0), 1, 8) := by kernel_rfl

set_option maxHeartbeats 1000000 in
theorem cut_any (p : Option Addr) (n cap : Nat) (xs : List Int) (w : World) (hs : SlI w .i64 (.slice p n cap) xs) (hn : n ≤ 9223372036854775807) :
    Calls Try.prog 4 #[.slice p n cap] w fun e w' => ∃ v, e = .returned v ∧ OwnL .i64 2 (fun q => q < w.heap.size) w' v (cutL xs) ∧ Old w w' := by
  obtain ⟨hl, hc⟩ := hs.cellAt
  have HC := Lib.hid hc
  have HL := Lib.hid hl
  clear hs hc hl
  obtain ⟨i0, hi, hz0, hz1, hz2⟩ := info_parts Try.info_i64
  have HS : Hid (CutR w xs 0 (.slice none 0 0) w) := ⟨OwnL.nil _ _ _ _, Old.refl w⟩
  go_enter Try.func4, Try.ntmps4
  go_wp2
  go_loopw [3, 4] (fun v i wr => ∃ k : Nat, k ≤ 20 ∧ k ≤ n ∧ i = .int .i64 k ∧ Hid (CutR w xs k v wr)) (fun _ i _ => 20 - (intOf i).toNat)
  case atStart => exact ⟨0, by omega, by omega, rfl, HS⟩
  case round =>
    obtain ⟨k, hk, hkn, rfl, HR⟩ := hrel
    by_cases h1 : k < n
    · by_cases h2 : k < 20
      · obtain ⟨b, off, rfl, hb, _, _, hc⟩ := HC.out (by omega)
        have hcell := (HR.out.2.cell (a := ⟨b, off + k, none⟩) hb).trans (hc k h1)
        have HN : Hid ((xs.take (k + 1)).map holdI = (xs.take k).map holdI ++ [holdI (xs.getD k 0)]) := by
          unfold Hid; rw [take_succ_getD xs k (by rw [HL.out]; exact h1), List.map_append]; rfl
        have HK : Hid (((xs.take k).map holdI).length = k) := by unfold Hid; rw [List.length_map, List.length_take, HL.out]; omega
        clear hc hb HC HL HS
        obtain ⟨x, hx⟩ : ∃ x, x = xs.getD k 0 := ⟨_, rfl⟩
        rw [← hx] at hcell HN
        obtain ⟨y, hy⟩ : ∃ y, y = holdI x := ⟨_, rfl⟩
        rw [← hy] at HN
        have hcase : (1099511627776 < x ∧ y = 1099511627776) ∨ (x ≤ 1099511627776 ∧ x < -1099511627776 ∧ y = -1099511627776) ∨ (x ≤ 1099511627776 ∧ -1099511627776 ≤ x ∧ y = x) := by
          rw [hy]; unfold holdI; split <;> (try split) <;> omega
        clear hx hy
        have HA : Hid (ownX (fun q => q < w.heap.size) (wr.alloc (.cells #[.int .i64 y] 2)) 2 u3 ((xs.take k).map holdI).length (((xs.take k).map holdI).map (Value.int .i64))) := HR.out.1.old (Old.alloc _ _)
        have HO : Hid (Old w (wr.alloc (.cells #[.int .i64 y] 2))) := HR.out.2.alloc' _
        clear HR
        rcases hcase with ⟨c1, rfl⟩ | ⟨c1, c2, rfl⟩ | ⟨c1, c2, rfl⟩
        all_goals
          go_wp2_with (at_builtin; refine append_X _ rfl _ _ 22 rfl (fun q => q < w.heap.size) 2 i0 (.int .i64 0) 8 Try.underlying22 hi hz0 hz1 hz2 rfl _ _ _ rfl HA.out ⟨wr.heap.size, 0, none⟩ 1 1 [.int .i64 _] rfl rfl (news_one wr _ _) (one_val rfl) (by rw [HK.out]; unfold maxLen; omega) (by rw [HK.out]; omega) (fun q hq => Nat.lt_of_lt_of_le hq HO.out.size) ?_; intro v' w2 hown2 hk2 _; have HR2 := Lib.hid (show CutR w xs (k + 1) v' w2 from ⟨by rw [HN.out]; exact OwnL.snoc hown2, HO.out.after hk2 (fun _ h => h)⟩); clear hown2 hk2 HA HO HN HK)
          go_roundw
          case rel => exact ⟨k + 1, by omega, by omega, by go_num, HR2⟩
          case measure => simp [intOf]; omega
      · obtain rfl : k = 20 := by omega
        have HE : Hid (OwnL .i64 2 (fun q => q < w.heap.size) wr u3 (cutL xs) ∧ Old w wr) := HR.out
        clear HC HL HR HS
        go_wp2
        go_ret
        exact ⟨_, rfl, HE.out⟩
    · have HE : Hid (OwnL .i64 2 (fun q => q < w.heap.size) wr u3 (cutL xs) ∧ Old w wr) := by
        have := HR.out
        unfold CutR at this
        rw [List.take_of_length_le (by rw [HL.out]; omega)] at this
        unfold cutL
        rw [List.take_of_length_le (by rw [HL.out]; omega)]
        exact this
      clear HC HL HR HS
      go_wp2
      go_ret
      exact ⟨_, rfl, HE.out⟩

/-- The chapter's example. -/
theorem awake_any (w : World) : Calls Try.prog 6 #[] w fun e w' => e = .returned (.bool true) ∧ Old w w' := by
  have hT := Lib.hid (Turn_any 1000 0 512 1023 w (by omega) (by omega) (by omega) (by omega) (by omega) (by omega) (by omega) (by omega))
  rw [show turnA 1000 0 512 1023 = 998 by decide, show turnB 1000 0 512 1023 = -62 by decide] at hT
  go_enter Try.func6, Try.ntmps6
  go_wp2_with fail
  refine hT.out.mono ?_
  rintro e w1 ⟨rfl, ho1⟩
  have HO := Lib.hid ho1
  clear ho1
  go_wp2
  go_ret
  exact ⟨rfl, HO.out⟩
end Go.Proofs.Yteimpjagecmbdaa
