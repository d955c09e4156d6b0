/- Package disk, first part: cut. -/
import Derived.Test.YtooamkicmmgniaaByt
import Derived.Test.YtooamkicmmgniaaChecked
import Derived.StillTailTactics
import Derived.RegionTactic
import Derived.BigRegion
namespace Go.Proofs.Ytooamkicmmgniaa
set_option linter.unusedVariables false
set_option maxRecDepth 100000
open Go.RowKit Go.ChangeShapes Go.WideShapes

theorem made_rowU (n : Nat) (z : Array Value) (hz : z.size ≠ 0) (h : ∀ j, j < z.size → z[j]? = some (.int .u8 0)) : madeCells z n = rowN n (bU fun _ => 0) := by
  apply Array.ext_getElem?
  intro i
  by_cases hi : i < n
  · rw [rowN_at n _ i hi]
    have hm : i % z.size < z.size := Nat.mod_lt _ (by omega)
    have := h _ hm
    rw [Array.getElem?_eq_getElem hm] at this
    simp [madeCells, hi, hm]
    simpa [bU] using this
  · rw [Array.getElem?_eq_none (by rw [size_madeCells]; omega), Array.getElem?_eq_none (by rw [rowN_size]; omega)]
def z64 : Array Value := Array.replicate 64 (.int .u8 0)
theorem z64_size : z64.size = 64 := by simp [z64]
theorem z64_at (j : Nat) (h : j < z64.size) : z64[j]? = some (.int .u8 0) := by
  rw [z64_size] at h
  simp [z64, h]
theorem Try.page_size : (Try.prog.info? 75).map (·.size) = some 64 := by kernel_rfl
theorem Try.page_len : Try.prog.arrayLen 75 = 64 := by kernel_rfl
theorem Try.page_elem : ∀ w, (sizeOf (Try.prog.elem 75)).run Try.prog w = .ok 1 w := fun w => by kernel_rfl
theorem Try.page_under : Try.prog.underlying 75 = some (.array (Try.prog.arrayLen 75) (Try.prog.elem 75)) := by kernel_rfl
theorem Try.u8s_elem : ∀ w, (sizeOf (Try.prog.elem 22)).run Try.prog w = .ok 1 w := fun w => by kernel_rfl
theorem Try.u8s_under : Try.prog.underlying 22 = some (.slice (Try.prog.elem 22)) := by kernel_rfl
theorem Try.u8_cells : (Try.prog.info? 5).map (·.size) = some 1 := by kernel_rfl
theorem Try.info_page : (Try.prog.info? 75).map (fun i => (i.zero, i.size, i.bytes)) = some (some (.agg z64), 64, 64) := by kernel_rfl
/-- make([][64]byte, n). -/
theorem make_pages (n : Nat) (hn : n ≤ 1099511627776) (w : World) : (Instr.makeSlice 61 (.int .i64 n) (.int .i64 n)).run Try.prog w = .ok (.slice (some ⟨w.heap.size, 0, none⟩) n n) (w.alloc (.cells (rowN (n * 64) (bU fun _ => 0)) 75)) := by
  obtain ⟨i, hi, hz0, hz1, hz2⟩ := info_parts Try.info_page
  rw [run_make w _ _ i _ Try.underlying61 hi hz0 .i64 .i64 n n (by omega) (by omega) (by rw [hz2]; omega) (by omega), hz1, Int.toNat_natCast]
  rw [show (Value.agg z64).cells = z64 from rfl, made_rowU (n * 64) z64 (by rw [z64_size]; decide) z64_at]

/-- How many pages. -/
def pgs (n : Nat) : Nat := (n + 63) / 64
/-- An image's bytes, and noughts behind. -/
def padF (n : Nat) (F : Nat → Int) : Nat → Int := fun j => if j < n then F j else 0
def toP (n k : Nat) (F : Nat → Int) : Nat → Int := fun j => if j < k * 64 then padF n F j else 0
structure CutR (w : World) (n N : Nat) (F : Nat → Int) (k : Nat) (wr : World) : Prop where
  at_ : UAt wr w.heap.size (N * 64) (toP n k F)
  old : Old w wr
set_option maxHeartbeats 1000000 in
theorem cut_any (p : Option Addr) (n cap : Nat) (F : Nat → Int) (w : World) (hs : SlU w p n F) (hn : n ≤ 1099511627776) (h1 : n ≤ cap) :
    Calls Try.prog 21 #[.slice p n cap] w fun e w' => e = .returned (.slice (some ⟨w.heap.size, 0, none⟩) (pgs n) (pgs n)) ∧ UAt w' w.heap.size (pgs n * 64) (padF n F) ∧ Old w w' := by
  have HC := Lib.hid hs
  obtain ⟨N, hN⟩ : ∃ N, N = pgs n := ⟨_, rfl⟩
  rw [← hN]
  have HN : Hid (N = (n + 63) / 64) := hN
  have hN2 : N ≤ 1099511627776 := by have := HN.out; omega
  have hM := make_pages N hN2 w
  have H0 : Hid (CutR w n N F 0 (w.alloc (.cells (rowN (N * 64) (bU fun _ => 0)) 75))) := ⟨(uAt_new w _ _ _).ext fun j _ => by unfold toP; rw [if_neg (by omega)], Old.alloc _ _⟩
  have t0 : wrap64 (((n : Int) + 64 - 1).tdiv 64) = N := by
    rw [tdiv_pos _ _ (by omega), IntWalk.wrap64_in _ (by omega)]
    have := HN.out; omega
  have t0' : ((n : Int) + 64 - 1) / 64 = N := by have := HN.out; omega
  have t0'' : ((n : Int) + 63) / 64 = N := by have := HN.out; omega
  clear hs hN
  go_enter Try.func21, Try.ntmps21
  go_wp2_with fail
  clear t0 t0' t0''
  go_loopw [13] (fun i wr => ∃ k : Nat, k ≤ N ∧ i = .int .i64 k ∧ Hid (CutR w n N F k wr)) (fun i _ => N - (intOf i).toNat)
  case atStart => exact ⟨0, by omega, rfl, H0⟩
  case round =>
    obtain ⟨k, hk, rfl, HR⟩ := hrel
    clear H0 hM
    by_cases hlt : k < N
    · have hkn : k * 64 < n := by have := HN.out; omega
      obtain ⟨b, off, rfl, hb, hc⟩ := HC.out (by omega)
      have hcs := fun j hj => (HR.out.old.cell (a := ⟨b, off + j, none⟩) hb).trans (hc j hj)
      obtain ⟨q, hq⟩ : ∃ q, q = k * 64 := ⟨_, rfl⟩
      obtain ⟨m, hm⟩ : ∃ m, m = Nat.min (n - q) 64 := ⟨_, rfl⟩
      have hm2 : m ≤ 64 ∧ m ≤ n - q ∧ (m = 64 ∨ m = n - q) := by rw [hm]; simp only [Nat.min_def]; split <;> omega
      have HSrc : Hid (∀ j, j < m → wr.drew.cell? ⟨b, off + q + j, none⟩ = some (.int .u8 (F (k * 64 + j)))) := fun j hj => by
        rw [Nat.add_assoc, hq]; exact hcs (k * 64 + j) (by omega)
      have HT : Hid (wr.drew.there w.heap.size (k * 64) m) := HR.out.at_.drew.there (k * 64) m (by omega)
      have HNx : Hid (CutR w n N F (k + 1) (wr.drew.setCells w.heap.size (k * 64) ((lst (fun j => F (k * 64 + j)) m).map (Value.int .u8)))) := by
        refine ⟨(HR.out.at_.drew.setCells (k * 64) m (by omega) _).ext fun j hj => ?_, HR.out.old.drew.after (Kept.setCells (X := fun q => q < w.heap.size) _ (fun e => by omega) _ _) fun _ h => h⟩
        unfold patch toP padF
        dsimp only
        by_cases c : k * 64 ≤ j ∧ j < k * 64 + m
        · rw [if_pos c, if_pos (by omega), if_pos (by omega), show k * 64 + (j - k * 64) = j by omega]
        · rw [if_neg c]
          by_cases c2 : j < k * 64
          · rw [if_pos c2, if_pos (show j < n by omega), if_pos (show j < (k + 1) * 64 by omega)]
          · rw [if_neg c2]
            by_cases c3 : j < (k + 1) * 64
            · rw [if_pos c3, if_neg (by omega)]
            · rw [if_neg c3]
      have hS2 := fun w => slice_lo (P := Try.prog) (t := 22) Try.u8s_under Try.u8s_elem b off n cap q (by omega) (by omega) (q : Int) rfl w
      have t1 : IntKind.i64.wrap ((k : Int) * 64) = q := by rw [IntWalk.i64_in _ (by omega)]; omega
      have t2 : wrap64 ((k : Int) * 64) = q := by rw [IntWalk.wrap64_in _ (by omega)]; omega
      have hqn : q < n := by omega
      have hS3 := fun w => slice_arr_all (P := Try.prog) (t := 75) 64 Try.page_under Try.page_len Try.page_elem (by omega) wr.heap.size 0 w
      have HM := Lib.hid hm
      clear hm hcs hc HC HN HR hq hkn hm2
      go_wp2_with fail
      refine wp_region_still_tail 8 (by kernel_rfl) (by kernel_rfl) ?_
      simp only [List.take_succ_cons, List.take_zero, List.drop_succ_cons, List.drop_zero]
      iterate 8 (with_reducible refine wpStill_step (fun K hK => ?_); go_simp; with_reducible refine hK _ ?_; clear hK K)
      with_reducible refine wpStill_nil ?_
      change wpList _ _ _ _ _ wr.drew
      refine wpList_copy_u8 rfl _ _ 22 22 rfl 5 Try.underlying22 Try.u8_cells m (fun j => F (k * 64 + j)) w.heap.size (k * 64) 64 64 b (off + q) (n - q) (cap - q) rfl rfl HM.out HSrc.out HT.out ?_
      go_wp2_with fail
      go_roundw
      case rel => exact ⟨k + 1, by omega, by go_num, HNx⟩
      case measure => simp [intOf]; omega
    · obtain rfl : k = N := by omega
      have HE : Hid (UAt wr w.heap.size (k * 64) (padF n F) ∧ Old w wr) := ⟨UAt.ext HR.out.at_ (fun j hj => by unfold toP; rw [if_pos hj]), HR.out.old⟩
      clear HR HC HN
      go_wp2_with fail
      go_ret
      exact ⟨rfl, HE.out⟩
end Go.Proofs.Ytooamkicmmgniaa
