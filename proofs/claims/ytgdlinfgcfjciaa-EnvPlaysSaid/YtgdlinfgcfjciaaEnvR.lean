/- Package env: Run; the laws' example. (by wip/tools/exp.py of XEnvR.src) -/
import Derived.Test.YtgdlinfgcfjciaaEnvE
import Derived.Test.YtgdlinfgcfjciaaRowsB
import Derived.Deep.MidRow
namespace Go.Proofs.Ytgdlinfgcfjciaa
set_option linter.unusedVariables false
set_option linter.unusedSimpArgs false
set_option maxRecDepth 100000
open Go.RowKit Go.ChangeShapes Go.WideShapes

/-- Its state behind so many samples. -/
def evI (a d s r : Int) (x : Int × Int) : Nat → Int × Int
  | 0 => x
  | k + 1 => (nxSt a d s r (evI a d s r x k).1 (evI a d s r x k).2, nxLv a d s r (evI a d s r x k).1 (evI a d s r x k).2)
def evV (a d s r : Int) (x : Int × Int) (k : Nat) : Int := nxV a d s r (evI a d s r x k).1 (evI a d s r x k).2
theorem evI_ok {a d s r : Int} {x : Int × Int} (h : StOk s x.1 x.2) (hs0 : 0 ≤ s) (hs1 : s ≤ 256) : ∀ k, StOk s (evI a d s r x k).1 (evI a d s r x k).2
  | 0 => h
  | k + 1 => nx_ok (evI_ok h hs0 hs1 k) hs0 hs1
theorem env_info_int : (Try.prog.info? 3).map (fun i => (i.zero, i.size, i.bytes)) = some (some (.int .i64 0), 1, 8) := by kernel_rfl
theorem env_zero (n : Nat) : madeCells (Value.int .i64 0 : Value).cells n = rowN n (blk fun _ => 0) := by
  apply Array.ext_getElem?
  intro i
  by_cases hi : i < n
  · rw [rowN_at n _ i hi]
    have h1 : (Value.int .i64 0 : Value).cells.size = 1 := rfl
    simp [madeCells, hi, Value.cells, Nat.mod_one, blk]
  · rw [Array.getElem?_eq_none (by simp [madeCells]; omega), Array.getElem?_eq_none (by rw [rowN_size]; omega)]
/-- make([]int, n). -/
theorem env_make (n : Nat) (hn : n ≤ 1099511627776) (w : World) : (Instr.makeSlice 38 (.int .i64 n) (.int .i64 n)).run Try.prog w = .ok (.slice (some ⟨w.heap.size, 0, none⟩) n n) (w.alloc (.cells (rowN n (blk fun _ => 0)) 3)) := by
  obtain ⟨i, hi, hz0, hz1, hz2⟩ := info_parts env_info_int
  rw [run_make w _ _ i _ Try.underlying38 hi hz0 .i64 .i64 n n (by omega) (by omega) (by rw [hz2]; omega) (by omega), hz1, Int.toNat_natCast, Nat.mul_one, env_zero n]
structure ERun (w : World) (g gr n : Nat) (a d s r : Int) (x : Int × Int) (k : Nat) (V : World) : Prop where
  eb : EB V g a d s r (evI a d s r x k).1 (evI a d s r x k).2
  row : CellsAt V gr n (fun j => if j < k then evV a d s r x j else 0)
  kp : Kept (butOf w g) w V
theorem eRun_neg (g : Nat) (n : Int) (w : World) (hn : n < 0 ∨ 1048576 < n) : Calls Try.prog 15 #[.pointer (some ⟨g, 0, none⟩), .int .i64 n] w fun e w' => e = .returned (.slice none 0 0) ∧ w = w' := by
  have HI := Lib.hid (isWithin_any n 1048576 w)
  have hi : inB n 1048576 = false := by unfold inB; simp; omega
  rw [hi] at HI
  clear hi hn
  go_enter Try.func15, Try.ntmps15
  go_wp2_with fail
  refine HI.out.mono ?_
  rintro e w1 ⟨rfl, rfl⟩
  go_wp2_with fail
  go_ret
  exact ⟨rfl, rfl⟩
set_option maxHeartbeats 4000000 in
theorem eRun_any (g : Nat) (a d s r st lv : Int) (n : Nat) (w : World) (h : EB w g a d s r st lv) (hr : shB a d s r = true) (ho : StOk s st lv) (hn : n ≤ 1048576) :
    Calls Try.prog 15 #[.pointer (some ⟨g, 0, none⟩), .int .i64 n] w fun e w' => ∃ gr, e = .returned (.slice (some ⟨gr, 0, none⟩) n n) ∧ w.heap.size ≤ gr ∧ EB w' g a d s r (evI a d s r (st, lv) n).1 (evI a d s r (st, lv) n).2 ∧ CellsAt w' gr n (evV a d s r (st, lv)) ∧ Kept (butOf w g) w w' := by
  have HI := Lib.hid (isWithin_any n 1048576 w)
  have hi : inB n 1048576 = true := by unfold inB; simp; omega
  rw [hi] at HI
  have hMk := env_make n (by omega) w
  obtain ⟨-, -, ⟨s0, s1⟩, -⟩ := shB_yes hr
  have HNx := Lib.hid (fun k V (hE : EB V g a d s r (evI a d s r (st, lv) k).1 (evI a d s r (st, lv) k).2) => eNext_any g a d s r _ _ V hE hr (evI_ok (x := (st, lv)) ho s0 s1 k))
  obtain ⟨W2, hW2⟩ : ∃ V, V = w.alloc (.cells (rowN n (blk fun _ => 0)) 3) := ⟨_, rfl⟩
  obtain ⟨gr, hgr⟩ : ∃ x, x = w.heap.size := ⟨_, rfl⟩
  have ho2 : Old w W2 := by rw [hW2]; exact Old.alloc _ _
  have hS0 : ERun w g gr n a d s r (st, lv) 0 W2 := ⟨h.old ho2, (by rw [hW2, hgr]; exact (cellsAt_new w n (fun _ => 0) 3).ext fun j _ => rfl), ho2.kept fun k hk => hk.1⟩
  have HS0 := Lib.hid hS0
  have Hlt : Hid (g < gr) := Lib.hid (by have := h.lt; omega)
  have HW2 := Lib.hid hW2
  have HGr := Lib.hid hgr
  have n0 : (0 : Int) ≤ n := by omega
  have n1 : (n : Int) ≤ 1048576 := by omega
  clear hi h hr ho hW2 hgr ho2 hS0
  go_enter Try.func15, Try.ntmps15
  go_wp2_with fail
  refine HI.out.mono ?_
  rintro e w1 ⟨rfl, rfl⟩
  clear HI
  go_wp2_with fail
  rw [← HGr.out, ← HW2.out]
  go_loopw [14] (fun iv wr => ∃ i : Nat, i ≤ n ∧ iv = .int .i64 i ∧ Hid (ERun w g gr n a d s r (st, lv) i wr)) (fun iv _ => n - (intOf iv).toNat)
  case atStart => exact ⟨0, by omega, rfl, HS0⟩
  case round =>
    obtain ⟨i, hi2, rfl, HS⟩ := hrel
    clear HS0 HW2
    by_cases hin : i < n
    · have hin' : (i : Int) < n := by omega
      have HN := Lib.hid (HNx.out i wr HS.out.eb)
      go_wp2_with fail
      refine HN.out.mono ?_
      rintro e w2 ⟨rfl, hE2, hK2⟩
      have hgl := Hlt.out
      have row2 := HS.out.row.kept hK2 ⟨HS.out.row.lt, by omega⟩
      have hc5 := row2.cell i hin
      have hf5 := row2.frz i hin
      obtain ⟨v, hv⟩ : ∃ v, v = nxV a d s r (evI a d s r (st, lv) i).1 (evI a d s r (st, lv) i).2 := ⟨_, rfl⟩
      have HR2 : Hid (ERun w g gr n a d s r (st, lv) (i + 1) (w2.setCell ⟨gr, i, none⟩ (.int .i64 v))) := Lib.hid (by
        have k2 := Kept.setCell w2 (X := fun q => q ≠ gr) (a := ⟨gr, i, none⟩) (fun e => e rfl) (.int .i64 v)
        refine ⟨EB.kept (lv := (evI a d s r (st, lv) (i + 1)).2) (st := (evI a d s r (st, lv) (i + 1)).1) hE2 k2 (by omega), (row2.set i hin v).ext fun j hj => ?_, ?_⟩
        · by_cases hj1 : j = i
          · subst hj1
            rw [if_pos rfl, if_pos (by omega), hv]
            rfl
          · rw [if_neg hj1]
            by_cases hj2 : j < i
            · rw [if_pos hj2, if_pos (by omega)]
            · rw [if_neg hj2, if_neg (by omega)]
        · exact (HS.out.kp.trans (hK2.mono fun k hk => ⟨Nat.lt_of_lt_of_le hk.1 HS.out.kp.size, hk.2⟩)).trans (k2.mono fun k hk e => by have := hk.1; have := HGr.out; omega))
      rw [← hv]
      clear hE2 hK2 row2 hv HN HS HNx
      go_wp2_with fail
      go_roundw
      case rel => exact ⟨i + 1, by omega, by go_num, HR2⟩
      case measure => simp [intOf]; omega
    · obtain rfl : i = n := by omega
      have HF := Lib.hid (And.intro HS.out.eb (And.intro (HS.out.row.ext (G := evV a d s r (st, lv)) fun j hj => if_pos hj) HS.out.kp))
      clear HS HNx hin
      go_wp2_with fail
      go_ret
      exact ⟨gr, rfl, by have := HGr.out; omega, HF.out⟩
theorem ePlain_any (w : World) : Calls Try.prog 17 #[] w fun e w' => e = .returned (shV 0 0 256 0) ∧ Old w w' := by
  have HO := Lib.hid (Old.alloc w (.cells #[.int .i64 0, .int .i64 0, .int .i64 256, .int .i64 0] 23))
  unfold shV
  go_enter Try.func17, Try.ntmps17
  go_wp2_with fail
  refine bodyPost_ret (results_cell_row rfl _ _ w.heap.size 23 _ (0, 0) _ rfl (heap_alloc_new _ _) Try.underlying23 rfl (by kernel_rfl)) rfl ?_
  exact ⟨rfl, HO.out⟩
theorem awake22_any (w : World) : Calls Try.prog 9 #[] w fun e w' => e = .returned (.bool true) ∧ Old w w' := by
  have HP := Lib.hid (ePlain_any w)
  have HN := Lib.hid (fun w => eNew_any 0 0 256 0 w)
  have hsh : shB 0 0 256 0 = true := by decide
  have HX := Lib.hid (fun g st lv w h ho => eNext_any g 0 0 256 0 st lv w h hsh ho)
  have k0 : StOk 256 0 0 := ⟨by omega, by omega, by omega, by omega, by omega⟩
  have k1 := nx_ok (a := 0) (d := 0) (r := 0) k0 (by omega) (by omega)
  have k2 := nx_ok (a := 0) (d := 0) (r := 0) k1 (by omega) (by omega)
  have k3 := rel_ok k2
  have v0 : nxV 0 0 256 0 0 0 = 256 := by decide
  have v1 : nxV 0 0 256 0 (nxSt 0 0 256 0 0 0) (nxLv 0 0 256 0 0 0) = 256 := by decide
  have v2 : nxV 0 0 256 0 (relSt (nxSt 0 0 256 0 (nxSt 0 0 256 0 0 0) (nxLv 0 0 256 0 0 0))) (nxLv 0 0 256 0 (nxSt 0 0 256 0 0 0) (nxLv 0 0 256 0 0 0)) = 0 := by decide
  have v3 : nxSt 0 0 256 0 (relSt (nxSt 0 0 256 0 (nxSt 0 0 256 0 0 0) (nxLv 0 0 256 0 0 0))) (nxLv 0 0 256 0 (nxSt 0 0 256 0 0 0) (nxLv 0 0 256 0 0 0)) = 4 := by decide
  have HV := Lib.hid (And.intro v0 (And.intro v1 (And.intro v2 v3)))
  have HK := Lib.hid (And.intro k0 (And.intro k1 k3))
  have Hsh := Lib.hid hsh
  clear v0 v1 v2 v3 k0 k1 k2 k3 hsh
  go_enter Try.func9, Try.ntmps9
  go_wp2_with fail
  refine HP.out.mono ?_
  rintro e w1 ⟨rfl, o1⟩
  have HO1 := Lib.hid o1
  clear o1 HP
  unfold shV
  go_wp2_with fail
  refine (HN.out w1).mono ?_
  rintro e w2 hN
  rw [Hsh.out] at hN
  obtain ⟨h, -⟩ | ⟨-, g, rfl, hg, hE, hO⟩ := hN
  · cases h
  have HO2 := Lib.hid (HO1.out.trans hO)
  have HX1 := Lib.hid (HX.out g 0 0 w2 hE HK.out.1)
  have Hg : Hid (w.heap.size ≤ g) := Lib.hid (by have := HO1.out.size; omega)
  rw [HV.out.1] at HX1
  clear hg hE hO HN HO1
  go_wp2_with fail
  refine HX1.out.mono ?_
  rintro e w3 ⟨rfl, hE, hK⟩
  have HO3 := Lib.hid (HO2.out.after hK fun k hk => ⟨Nat.lt_of_lt_of_le hk HO2.out.size, by have := Hg.out; omega⟩)
  have HX2 := Lib.hid (HX.out g _ _ w3 hE HK.out.2.1)
  rw [HV.out.2.1] at HX2
  clear hE hK HX1 HO2
  go_wp2_with fail
  refine HX2.out.mono ?_
  rintro e w4 ⟨rfl, hE, hK⟩
  have HO4 := Lib.hid (HO3.out.after hK fun k hk => ⟨Nat.lt_of_lt_of_le hk HO3.out.size, by have := Hg.out; omega⟩)
  have HRl := Lib.hid (eRelease_any g _ _ _ _ _ _ w4 hE)
  clear hE hK HX2 HO3
  go_wp2_with fail
  refine HRl.out.mono ?_
  rintro e w5 ⟨rfl, hE, hK⟩
  have HO5 := Lib.hid (HO4.out.after hK fun k hk => ⟨Nat.lt_of_lt_of_le hk HO4.out.size, by have := Hg.out; omega⟩)
  have HX3 := Lib.hid (HX.out g _ _ w5 hE HK.out.2.2)
  rw [HV.out.2.2.1, HV.out.2.2.2] at HX3
  clear hE hK HRl HO4
  go_wp2_with fail
  refine HX3.out.mono ?_
  rintro e w6 ⟨rfl, hE, hK⟩
  have HO6 := Lib.hid (HO5.out.after hK fun k hk => ⟨Nat.lt_of_lt_of_le hk HO5.out.size, by have := Hg.out; omega⟩)
  have HSt := Lib.hid (eStage_any g _ _ _ _ _ _ w6 hE)
  clear hE hK HX3 HO5
  go_wp2_with fail
  refine HSt.out.mono ?_
  rintro e w7 ⟨rfl, rfl⟩
  go_wp2_with fail
  go_ret
  exact ⟨rfl, HO6.out⟩
end Go.Proofs.Ytgdlinfgcfjciaa

