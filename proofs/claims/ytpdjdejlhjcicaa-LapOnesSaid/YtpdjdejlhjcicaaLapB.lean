/- Package lap, second part: Blocks and Samples. -/
import Derived.Test.YtpdjdejlhjcicaaLapA
import Derived.Test.YtpdjdejlhjcicaaRowsB
import Derived.Test.YtpdjdejlhjcicaaListL
namespace Go.Proofs.Ytpdjdejlhjcicaa
set_option linter.unusedVariables false
open Go.RowKit

theorem Try.block_size : (Try.prog.info? 28).map (·.size) = some 16 := by kernel_rfl
theorem Try.block_len : Try.prog.arrayLen 28 = 16 := by kernel_rfl
theorem Try.block_elem : ∀ w, (sizeOf (Try.prog.elem 28)).run Try.prog w = .ok 1 w := fun w => by kernel_rfl
theorem Try.block_under : Try.prog.underlying 28 = some (.array (Try.prog.arrayLen 28) (Try.prog.elem 28)) := by kernel_rfl
theorem Try.ints_elem : ∀ w, (sizeOf (Try.prog.elem 22)).run Try.prog w = .ok 1 w := fun w => by kernel_rfl
theorem Try.ints_under : Try.prog.underlying 22 = some (.slice (Try.prog.elem 22)) := by kernel_rfl
theorem Try.int64_cells : (Try.prog.info? 2).map (·.size) = some 1 := by kernel_rfl
theorem Try.info_block : (Try.prog.info? 28).map (fun i => (i.zero, i.size, i.bytes)) = some (some (.agg #[.int .i64 0, .int .i64 0, .int .i64 0, .int .i64 0, .int .i64 0, .int .i64 0, .int .i64 0, .int .i64 0, .int .i64 0, .int .i64 0, .int .i64 0, .int .i64 0, .int .i64 0, .int .i64 0, .int .i64 0, .int .i64 0]), 16, 128) := by kernel_rfl
theorem zero16 (n : Nat) : madeCells (Value.agg #[.int .i64 0, .int .i64 0, .int .i64 0, .int .i64 0, .int .i64 0, .int .i64 0, .int .i64 0, .int .i64 0, .int .i64 0, .int .i64 0, .int .i64 0, .int .i64 0, .int .i64 0, .int .i64 0, .int .i64 0, .int .i64 0] : Value).cells n = rowN n (blk fun _ => 0) :=
  made_rowN n _ (by decide) (by
    intro j hj
    have : j < 16 := hj
    rcases (by omega : j = 0 ∨ j = 1 ∨ j = 2 ∨ j = 3 ∨ j = 4 ∨ j = 5 ∨ j = 6 ∨ j = 7 ∨ j = 8 ∨ j = 9 ∨ j = 10 ∨ j = 11 ∨ j = 12 ∨ j = 13 ∨ j = 14 ∨ j = 15) with rfl | rfl | rfl | rfl | rfl | rfl | rfl | rfl | rfl | rfl | rfl | rfl | rfl | rfl | rfl | rfl <;> rfl)
/-- make([]api.Block, n). -/
theorem make_blocks (n : Nat) (hn : n ≤ 1099511627776) (w : World) : (Instr.makeSlice 24 (.int .i64 n) (.int .i64 n)).run Try.prog w = .ok (.slice (some ⟨w.heap.size, 0, none⟩) n n) (w.alloc (.cells (rowN (n * 16) (blk fun _ => 0)) 28)) := by
  obtain ⟨i, hi, hz0, hz1, hz2⟩ := info_parts Try.info_block
  rw [run_make w _ _ i _ Try.underlying24 hi hz0 .i64 .i64 n n (by omega) (by omega) (by rw [hz2]; omega) (by omega), hz1, Int.toNat_natCast, zero16 (n * 16)]
theorem zero1 (n : Nat) : madeCells (Value.int .i64 0 : Value).cells n = rowN n (blk fun _ => 0) :=
  made_rowN n _ (by decide) (fun j hj => by
    have h1 : j < 1 := hj
    have h2 : j = 0 := by omega
    rw [h2]; rfl)
theorem Try.info_int64 : (Try.prog.info? 2).map (fun i => (i.zero, i.size, i.bytes)) = some (some (.int .i64 0), 1, 8) := by kernel_rfl
/-- make([]int64, n). -/
theorem make_ints (n : Nat) (hn : n ≤ 1099511627776) (w : World) : (Instr.makeSlice 22 (.int .i64 n) (.int .i64 n)).run Try.prog w = .ok (.slice (some ⟨w.heap.size, 0, none⟩) n n) (w.alloc (.cells (rowN n (blk fun _ => 0)) 2)) := by
  obtain ⟨i, hi, hz0, hz1, hz2⟩ := info_parts Try.info_int64
  rw [run_make w _ _ i _ Try.underlying22 hi hz0 .i64 .i64 n n (by omega) (by omega) (by rw [hz2]; omega) (by omega), hz1, Int.toNat_natCast, Nat.mul_one, zero1 n]

def toK (k : Nat) (F : Nat → Int) : Nat → Int := fun j => if j < k * 16 then F j else 0
/-- How many blocks. -/
def cnt (n : Nat) : Nat := (n + 15) / 16
theorem countI_cnt (n : Nat) : countI n = (cnt n : Nat) := countI_nat n

/-- In round k. -/
structure BlkR (w : World) (N : Nat) (F : Nat → Int) (k : Nat) (wr : World) : Prop where
  at_ : CellsAt wr w.heap.size (N * 16) (toK k F)
  old : Old w wr
set_option maxRecDepth 100000 in
set_option maxHeartbeats 1000000 in
theorem Blocks_any (p : Option Addr) (n cap : Nat) (xs : List Int) (w : World) (hs : SlI w .i64 (.slice p n cap) xs) (hn : n ≤ 1099511627776) :
    Calls Try.prog 9 #[.slice p n cap] w fun e w' => e = .returned (.slice (some ⟨w.heap.size, 0, none⟩) (cnt n) (cnt n)) ∧ CellsAt w' w.heap.size (cnt n * 16) (fun j => xs.getD j 0) ∧ Old w w' := by
  obtain ⟨hl, hc⟩ := hs.cellAt
  have HC := Lib.hid hc
  have HL := Lib.hid hl
  have hcount := Count_any n w (by omega) (by omega)
  rw [countI_cnt] at hcount
  obtain ⟨N, hN⟩ : ∃ N, N = cnt n := ⟨_, rfl⟩
  rw [← hN] at hcount ⊢
  have HN : Hid (N = (n + 15) / 16) := hN
  have hN2 : N ≤ 1099511627776 := by have := HN.out; omega
  have HCt := Lib.hid hcount
  have hM := make_blocks N hN2 w
  have H0 : Hid (BlkR w N (fun j => xs.getD j 0) 0 (w.alloc (.cells (rowN (N * 16) (blk fun _ => 0)) 28))) := ⟨(cellsAt_new w _ _ _).ext fun j _ => by unfold toK; rw [if_neg (by omega)], Old.alloc _ _⟩
  clear hs hl hc hcount hN
  go_enter Try.func9, Try.ntmps9
  go_wp2_with fail
  refine HCt.out.mono ?_
  rintro e w1 ⟨rfl, rfl⟩
  go_wp2_with fail
  go_loopw [11] (fun i wr => ∃ k : Nat, k ≤ N ∧ i = .int .i64 k ∧ Hid (BlkR w N (fun j => xs.getD j 0) k wr)) (fun i _ => N - (intOf i).toNat)
  case atStart => exact ⟨0, by omega, rfl, H0⟩
  case round =>
    obtain ⟨k, hk, rfl, HR⟩ := hrel
    clear H0 HCt hM
    by_cases hlt : k < N
    · have hkn : k * 16 < n := by have := HN.out; omega
      obtain ⟨b, off, rfl, hb, hcap, hcm, hc⟩ := HC.out (by omega)
      have hcs := fun j hj => (HR.out.old.cell (a := ⟨b, off + j, none⟩) hb).trans (hc j hj)
      obtain ⟨q, hq⟩ : ∃ q, q = k * 16 := ⟨_, rfl⟩
      obtain ⟨m, hm⟩ : ∃ m, m = Nat.min (n - q) 16 := ⟨_, rfl⟩
      have hm2 : m ≤ 16 ∧ m ≤ n - q ∧ (m = 16 ∨ m = n - q) := by rw [hm]; simp only [Nat.min_def]; split <;> omega
      have hS1 := fun w => slice_arr_all (P := Try.prog) (t := 28) 16 Try.block_under Try.block_len Try.block_elem (by omega) wr.heap.size 0 w
      have HSrc : Hid (∀ j, j < m → wr.drew.cell? ⟨b, off + q + j, none⟩ = some (.int .i64 (xs.getD (k * 16 + j) 0))) := fun j hj => by
        rw [Nat.add_assoc, hq]; exact hcs (k * 16 + j) (by omega)
      have HT : Hid (wr.drew.there w.heap.size (k * 16) m) := HR.out.at_.drew.there (k * 16) m (by omega)
      have HNx : Hid (BlkR w N (fun j => xs.getD j 0) (k + 1) (wr.drew.setCells w.heap.size (k * 16) (rowL m fun j => xs.getD (k * 16 + j) 0))) := by
        refine ⟨(HR.out.at_.drew.setCells (k * 16) m (by omega) _).ext fun j hj => ?_, HR.out.old.drew.after (Kept.setCells (X := fun q => q < w.heap.size) _ (fun e => by omega) _ _) fun _ h => h⟩
        unfold patch toK
        dsimp only
        by_cases c : k * 16 ≤ j ∧ j < k * 16 + m
        · rw [if_pos c, if_pos (by omega), show k * 16 + (j - k * 16) = j by omega]
        · rw [if_neg c]
          by_cases c2 : j < k * 16
          · rw [if_pos c2, if_pos (by omega)]
          · rw [if_neg c2]
            by_cases c3 : j < (k + 1) * 16
            · rw [if_pos c3, List.getD_eq_getElem?_getD, List.getElem?_eq_none (by rw [HL.out]; omega)]; rfl
            · rw [if_neg c3]
      have hS2 := fun w => slice_lo (P := Try.prog) (t := 22) Try.ints_under Try.ints_elem b off n cap q (by omega) (by omega) (q : Int) rfl w
      have t1 : IntKind.i64.wrap ((k : Int) * 16) = q := by rw [IntWalk.i64_in _ (by omega)]; omega
      have t2 : wrap64 ((k : Int) * 16) = q := by rw [IntWalk.wrap64_in _ (by omega)]; omega
      have hqn : q < n := by omega
      have hS3 := fun w => slice_arr_all (P := Try.prog) (t := 28) 16 Try.block_under Try.block_len Try.block_elem (by omega) w.heap.size (k * 16) w
      have HM := Lib.hid hm
      clear hm hcs hc HC HL HN HR hq hkn hm2
      go_wp2_with fail
      refine wp_region_still_tail 8 (by kernel_rfl) (by kernel_rfl) ?_
      simp only [List.take_succ_cons, List.take_zero, List.drop_succ_cons, List.drop_zero]
      iterate 8 (with_reducible refine wpStill_step (fun K hK => ?_); go_simp; with_reducible refine hK _ ?_; clear hK K)
      with_reducible refine wpStill_nil ?_
      change wpList _ _ _ _ _ wr.drew
      refine wpList_copy_blk rfl _ _ 22 22 rfl 2 Try.underlying22 Try.int64_cells m (fun j => xs.getD (k * 16 + j) 0) w.heap.size (k * 16) 16 16 b (off + q) (n - q) (cap - q) rfl rfl HM.out HSrc.out HT.out ?_
      go_wp2_with fail
      go_roundw
      case rel => exact ⟨k + 1, by omega, by go_num, HNx⟩
      case measure => simp [intOf]; omega
    · obtain rfl : k = N := by omega
      have HE : Hid (CellsAt wr w.heap.size (k * 16) (fun j => xs.getD j 0) ∧ Old w wr) := ⟨HR.out.at_.ext fun j hj => by unfold toK; rw [if_pos hj], HR.out.old⟩
      clear HR HC HL HN
      go_wp2_with fail
      go_ret
      exact ⟨rfl, HE.out⟩

/-- How many samples. -/
def samN (n : Nat) (m : Int) : Nat := (max 0 (min m ((n : Int) * 16))).toNat
theorem samN_le (n : Nat) (m : Int) : samN n m ≤ n * 16 := by unfold samN; omega
structure SamR (w : World) (L : Nat) (F : Nat → Int) (k : Nat) (wr : World) : Prop where
  at_ : CellsAt wr w.heap.size L (toK k F)
  old : Old w wr
set_option maxRecDepth 100000 in
set_option maxHeartbeats 2000000 in
theorem Samples_any (p : Option Addr) (n cap : Nat) (m : Int) (F : Nat → Int) (w : World) (hs : SlF 16 w p n F) (hn : n ≤ 17179869184) (h1 : -9223372036854775808 ≤ m) (h2 : m ≤ 9223372036854775807) :
    Calls Try.prog 11 #[.slice p n cap, .int .i64 m] w fun e w' => e = .returned (.slice (some ⟨w.heap.size, 0, none⟩) (samN n m) (samN n m)) ∧ CellsAt w' w.heap.size (samN n m) F ∧ Old w w' := by
  have hL := samN_le n m
  have hcase : (m ≤ 0 ∧ samN n m = 0) ∨ (0 < m ∧ n = 0 ∧ samN n m = 0) ∨ (0 < m ∧ 0 < n ∧ m ≤ (n : Int) * 16 ∧ m = (samN n m : Nat)) ∨ (0 < m ∧ 0 < n ∧ (n : Int) * 16 < m ∧ (n : Int) * 16 = (samN n m : Nat)) := by unfold samN; omega
  generalize samN n m = L at *
  have HL := Lib.hid hL
  have HS := Lib.hid hs
  have hL2 : L ≤ 1099511627776 := by omega
  have hw : wrap64 ((n : Int) * 16) = (n : Int) * 16 := IntWalk.wrap64_in _ (by omega)
  have hw' : IntKind.i64.wrap ((n : Int) * 16) = (n : Int) * 16 := IntWalk.i64_in _ (by omega)
  have hM := make_ints L hL2 w
  have hcount := fun w => Count_any L w (by omega) (by omega)
  rw [countI_cnt] at hcount
  obtain ⟨N, hN⟩ : ∃ N, N = cnt L := ⟨_, rfl⟩
  rw [← hN] at hcount
  have HN : Hid (N = (L + 15) / 16) := hN
  have hN2 : N ≤ 1099511627776 := by have := HN.out; omega
  have HCt := Lib.hid hcount
  have H0 : Hid (SamR w L F 0 (w.alloc (.cells (rowN L (blk fun _ => 0)) 2))) := ⟨(cellsAt_new w _ _ _).ext fun j _ => by unfold toK; rw [if_neg (by omega)], Old.alloc _ _⟩
  clear hs hL hcount hN
  rcases hcase with ⟨c1, c2⟩ | ⟨c1, c0, c2⟩ | ⟨c1, c0, c3, c2⟩ | ⟨c1, c0, c3, c2⟩
  · have c4 : 0 ≤ (n : Int) * 16 := by omega
    have c5 : m ≤ (n : Int) * 16 := by omega
    obtain rfl : L = 0 := by omega
    obtain rfl : N = 0 := by have := HN.out; omega
    rw [show ((0 : Nat) : Int) = 0 from rfl] at hM HCt
    clear HN
    go_enter Try.func11, Try.ntmps11
    go_wp2_with fail
    refine (HCt.out _).mono ?_
    rintro e w1 ⟨rfl, rfl⟩
    go_wp2_with fail
    go_loopw [17] (fun i wr => i = .int .i64 0 ∧ Hid (SamR w 0 F 0 wr)) (fun i _ => 0)
    case atStart => exact ⟨rfl, H0⟩
    case round =>
      obtain ⟨rfl, HR⟩ := hrel
      have HE : Hid (CellsAt wr w.heap.size 0 F ∧ Old w wr) := ⟨HR.out.at_.ext fun j hj => by omega, HR.out.old⟩
      clear HR H0 HCt hM
      go_wp2_with fail
      go_ret
      exact ⟨rfl, HE.out⟩
  · subst c0
    clear hw hw'
    obtain rfl : L = 0 := by omega
    obtain rfl : N = 0 := by have := HN.out; omega
    rw [show ((0 : Nat) : Int) = 0 from rfl] at hM HCt
    clear HN
    go_enter Try.func11, Try.ntmps11
    go_wp2_with fail
    refine (HCt.out _).mono ?_
    rintro e w1 ⟨rfl, rfl⟩
    go_wp2_with fail
    go_loopw [17] (fun i wr => i = .int .i64 0 ∧ Hid (SamR w 0 F 0 wr)) (fun i _ => 0)
    case atStart => exact ⟨rfl, H0⟩
    case round =>
      obtain ⟨rfl, HR⟩ := hrel
      have HE : Hid (CellsAt wr w.heap.size 0 F ∧ Old w wr) := ⟨HR.out.at_.ext fun j hj => by omega, HR.out.old⟩
      clear HR H0 HCt hM
      go_wp2_with fail
      go_ret
      exact ⟨rfl, HE.out⟩
  · subst c2
    go_enter Try.func11, Try.ntmps11
    go_wp2_with fail
    refine (HCt.out _).mono ?_
    rintro e w1 ⟨rfl, rfl⟩
    go_wp2_with fail
    go_loopw [17] (fun i wr => ∃ k : Nat, k ≤ N ∧ i = .int .i64 k ∧ Hid (SamR w L F k wr)) (fun i _ => N - (intOf i).toNat)
    case atStart => exact ⟨0, by omega, rfl, H0⟩
    case round =>
      obtain ⟨k, hk, rfl, HR⟩ := hrel
      clear H0 HCt hM
      by_cases hlt : k < N
      · have hkn : k * 16 < L := by have := HN.out; omega
        have hkn' : k < n := by have := HL.out; omega
        obtain ⟨b, off, rfl, hb, hc⟩ := HS.out (by omega)
        have hcs := fun j hj => (HR.out.old.cell (a := ⟨b, off + j, none⟩) hb).trans (hc j hj)
        obtain ⟨q, hq⟩ : ∃ q, q = k * 16 := ⟨_, rfl⟩
        obtain ⟨mm, hm⟩ : ∃ mm, mm = Nat.min 16 (L - q) := ⟨_, rfl⟩
        have hm2 : mm ≤ 16 ∧ mm ≤ L - q ∧ (mm = 16 ∨ mm = L - q) := by rw [hm]; simp only [Nat.min_def]; split <;> omega
        have HSrc : Hid (∀ j, j < mm → wr.drew.cell? ⟨b, off + k * 16 + j, none⟩ = some (.int .i64 (F (k * 16 + j)))) := fun j hj => by
          rw [Nat.add_assoc]; exact hcs (k * 16 + j) (by omega)
        have HT : Hid (wr.drew.there w.heap.size q mm) := HR.out.at_.drew.there q mm (by omega)
        have HNx : Hid (SamR w L F (k + 1) (wr.drew.setCells w.heap.size q (rowL mm fun j => F (k * 16 + j)))) := by
          refine ⟨(HR.out.at_.drew.setCells q mm (by omega) _).ext fun j hj => ?_, HR.out.old.drew.after (Kept.setCells (X := fun q => q < w.heap.size) _ (fun e => by omega) _ _) fun _ h => h⟩
          unfold patch toK
          dsimp only
          subst hq
          by_cases c : k * 16 ≤ j ∧ j < k * 16 + mm
          · rw [if_pos c, if_pos (by omega), show k * 16 + (j - k * 16) = j by omega]
          · rw [if_neg c]
            by_cases c2 : j < k * 16
            · rw [if_pos c2, if_pos (by omega)]
            · rw [if_neg c2, if_neg (by omega)]
        have hS2 := fun w0 => slice_lo (P := Try.prog) (t := 22) Try.ints_under Try.ints_elem w.heap.size 0 L L q (by omega) (by omega) (q : Int) rfl w0
        rw [Nat.zero_add] at hS2
        have t1 : IntKind.i64.wrap ((k : Int) * 16) = q := by rw [IntWalk.i64_in _ (by omega)]; omega
        have t2 : wrap64 ((k : Int) * 16) = q := by rw [IntWalk.wrap64_in _ (by omega)]; omega
        have hqn : q < L := by omega
        have hS3 := fun w => slice_arr_all (P := Try.prog) (t := 28) 16 Try.block_under Try.block_len Try.block_elem (by omega) b (off + k * 16) w
        have HM := Lib.hid hm
        clear hm hcs hc HL HN HR hq hkn hm2 HS
        go_wp2_with fail
        refine wp_region_still_tail 8 (by kernel_rfl) (by kernel_rfl) ?_
        simp only [List.take_succ_cons, List.take_zero, List.drop_succ_cons, List.drop_zero]
        iterate 8 (with_reducible refine wpStill_step (fun K hK => ?_); go_simp; with_reducible refine hK _ ?_; clear hK K)
        with_reducible refine wpStill_nil ?_
        change wpList _ _ _ _ _ wr.drew
        refine wpList_copy_blk rfl _ _ 22 22 rfl 2 Try.underlying22 Try.int64_cells mm (fun j => F (k * 16 + j)) w.heap.size q (L - q) (L - q) b (off + k * 16) 16 16 rfl rfl HM.out HSrc.out HT.out ?_
        go_wp2_with fail
        go_roundw
        case rel => exact ⟨k + 1, by omega, by go_num, HNx⟩
        case measure => simp [intOf]; omega
      · have hkN : k = N := by omega
        have HE : Hid (CellsAt wr w.heap.size L F ∧ Old w wr) := ⟨HR.out.at_.ext fun j hj => by unfold toK; rw [if_pos (by have := HN.out; omega)], HR.out.old⟩
        subst hkN
        clear HR HS HL HN
        go_wp2_with fail
        go_ret
        exact ⟨rfl, HE.out⟩
  · rw [← c2] at hM
    clear c2
    go_enter Try.func11, Try.ntmps11
    go_wp2_with fail
    refine (HCt.out _).mono ?_
    rintro e w1 ⟨rfl, rfl⟩
    go_wp2_with fail
    go_loopw [17] (fun i wr => ∃ k : Nat, k ≤ N ∧ i = .int .i64 k ∧ Hid (SamR w L F k wr)) (fun i _ => N - (intOf i).toNat)
    case atStart => exact ⟨0, by omega, rfl, H0⟩
    case round =>
      obtain ⟨k, hk, rfl, HR⟩ := hrel
      clear H0 HCt hM
      by_cases hlt : k < N
      · have hkn : k * 16 < L := by have := HN.out; omega
        have hkn' : k < n := by have := HL.out; omega
        obtain ⟨b, off, rfl, hb, hc⟩ := HS.out (by omega)
        have hcs := fun j hj => (HR.out.old.cell (a := ⟨b, off + j, none⟩) hb).trans (hc j hj)
        obtain ⟨q, hq⟩ : ∃ q, q = k * 16 := ⟨_, rfl⟩
        obtain ⟨mm, hm⟩ : ∃ mm, mm = Nat.min 16 (L - q) := ⟨_, rfl⟩
        have hm2 : mm ≤ 16 ∧ mm ≤ L - q ∧ (mm = 16 ∨ mm = L - q) := by rw [hm]; simp only [Nat.min_def]; split <;> omega
        have HSrc : Hid (∀ j, j < mm → wr.drew.cell? ⟨b, off + k * 16 + j, none⟩ = some (.int .i64 (F (k * 16 + j)))) := fun j hj => by
          rw [Nat.add_assoc]; exact hcs (k * 16 + j) (by omega)
        have HT : Hid (wr.drew.there w.heap.size q mm) := HR.out.at_.drew.there q mm (by omega)
        have HNx : Hid (SamR w L F (k + 1) (wr.drew.setCells w.heap.size q (rowL mm fun j => F (k * 16 + j)))) := by
          refine ⟨(HR.out.at_.drew.setCells q mm (by omega) _).ext fun j hj => ?_, HR.out.old.drew.after (Kept.setCells (X := fun q => q < w.heap.size) _ (fun e => by omega) _ _) fun _ h => h⟩
          unfold patch toK
          dsimp only
          subst hq
          by_cases c : k * 16 ≤ j ∧ j < k * 16 + mm
          · rw [if_pos c, if_pos (by omega), show k * 16 + (j - k * 16) = j by omega]
          · rw [if_neg c]
            by_cases c2 : j < k * 16
            · rw [if_pos c2, if_pos (by omega)]
            · rw [if_neg c2, if_neg (by omega)]
        have hS2 := fun w0 => slice_lo (P := Try.prog) (t := 22) Try.ints_under Try.ints_elem w.heap.size 0 L L q (by omega) (by omega) (q : Int) rfl w0
        rw [Nat.zero_add] at hS2
        have t1 : IntKind.i64.wrap ((k : Int) * 16) = q := by rw [IntWalk.i64_in _ (by omega)]; omega
        have t2 : wrap64 ((k : Int) * 16) = q := by rw [IntWalk.wrap64_in _ (by omega)]; omega
        have hqn : q < L := by omega
        have hS3 := fun w => slice_arr_all (P := Try.prog) (t := 28) 16 Try.block_under Try.block_len Try.block_elem (by omega) b (off + k * 16) w
        have HM := Lib.hid hm
        clear hm hcs hc HL HN HR hq hkn hm2 HS
        go_wp2_with fail
        refine wp_region_still_tail 8 (by kernel_rfl) (by kernel_rfl) ?_
        simp only [List.take_succ_cons, List.take_zero, List.drop_succ_cons, List.drop_zero]
        iterate 8 (with_reducible refine wpStill_step (fun K hK => ?_); go_simp; with_reducible refine hK _ ?_; clear hK K)
        with_reducible refine wpStill_nil ?_
        change wpList _ _ _ _ _ wr.drew
        refine wpList_copy_blk rfl _ _ 22 22 rfl 2 Try.underlying22 Try.int64_cells mm (fun j => F (k * 16 + j)) w.heap.size q (L - q) (L - q) b (off + k * 16) 16 16 rfl rfl HM.out HSrc.out HT.out ?_
        go_wp2_with fail
        go_roundw
        case rel => exact ⟨k + 1, by omega, by go_num, HNx⟩
        case measure => simp [intOf]; omega
      · have hkN : k = N := by omega
        have HE : Hid (CellsAt wr w.heap.size L F ∧ Old w wr) := ⟨HR.out.at_.ext fun j hj => by unfold toK; rw [if_pos (by have := HN.out; omega)], HR.out.old⟩
        subst hkN
        clear HR HS HL HN
        go_wp2_with fail
        go_ret
        exact ⟨rfl, HE.out⟩
end Go.Proofs.Ytpdjdejlhjcicaa
