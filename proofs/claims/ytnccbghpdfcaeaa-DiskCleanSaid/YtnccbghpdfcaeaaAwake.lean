/- The chapter's example. -/
import Derived.Test.YtnccbghpdfcaeaaDiskAw
namespace Go.Proofs.Ytnccbghpdfcaeaa
set_option linter.unusedVariables false
set_option maxRecDepth 100000
open Go.RowKit Go.ChangeShapes Go.WideShapes

set_option maxHeartbeats 2000000 in
theorem awake_any (w : World) : Calls Try.prog 15 #[] w fun e w' => e = .returned (.bool true) ∧ Old w w' := by
  have HI := Lib.hid (show SlU (w.alloc (.cells #[.int .u8 7] 5)) (some ⟨w.heap.size, 0, none⟩) 1 exI from fun _ => ⟨w.heap.size, 0, rfl, by simp, fun j hj => by
    obtain rfl : j = 0 := by omega
    exact (cell_of_row _ _ _ _ _ _ (heap_alloc_new _ _)).trans rfl⟩)
  have HO := Lib.hid (Old.alloc w (.cells #[.int .u8 7] 5))
  have HBy : Hid (Byt exI 1) := Lib.hid fun j hj => by
    obtain rfl : j = 0 := by omega
    exact ⟨by decide, by decide⟩
  go_enter Try.func15, Try.ntmps15
  go_wp2_with fail
  refine (DNew_ok _ 1 1 exI _ HI.out (by omega) (by omega) HBy.out).mono ?_
  rintro e w1 ⟨b, rfl, hlt, hd, ho⟩
  generalize (some (⟨(w.alloc (.cells #[.int .u8 7] 5)).heap.size, 0, none⟩ : Addr)) = p0 at hd
  have HD := Lib.hid (show DkAt w1 (b + 1) b p0 1 exD0 from hd)
  have HB := Lib.hid (Nat.lt_of_le_of_lt HO.out.size hlt)
  have HO1 := Lib.hid (HO.out.trans ho)
  have HX : ∀ V, Kept (butD w1 (b + 1) b) w1 V → Old w V := fun V hV => HO1.out.after hV fun j hj => ⟨Nat.lt_of_lt_of_le hj HO1.out.size, by have := HB.out; omega, by have := HB.out; omega⟩
  have HXh := Lib.hid HX
  clear hd ho hlt HI HBy HX
  go_wp2_with fail
  refine (Fail_ok (b + 1) b p0 1 exD0 0 1 w1 HD.out (by rw [show exD0.N = 1 from rfl]; omega) (by omega)).mono ?_
  rintro e w2 ⟨rfl, hd, hk⟩
  have HD2 := Lib.hid (show DkAt w2 (b + 1) b p0 1 exD1 from hd)
  have HK2 := Lib.hid (show Kept (butD w1 (b + 1) b) w1 w2 from hk.mono fun j hj => ⟨hj.1, hj.2.2⟩)
  clear hd hk HD
  go_wp2_with fail
  refine (Read_bad (b + 1) b p0 1 exD1 0 w2 HD2.out (by show 0 < 1; omega) (by rw [ex1_f]; omega)).mono ?_
  rintro e w3 ⟨rfl, hd, hk⟩
  have HD3 := Lib.hid (show DkAt w3 (b + 1) b p0 1 exD2 from hd)
  have HK3 := Lib.hid (HK2.out.trans (hk.mono fun j hj => ⟨Nat.lt_of_lt_of_le hj.1 HK2.out.size, hj.2⟩))
  clear hd hk HD2 HK2
  go_wp2_with fail
  refine (Read_ok (b + 1) b p0 1 exD2 0 w3 HD3.out (by rw [ex2_N]; omega) (by rw [ex2_F]; rfl)).mono ?_
  rintro e w4 ⟨g, rfl, hg, hu, hd, hk⟩
  have HD4 := Lib.hid (show DkAt w4 (b + 1) b p0 1 exD3 from hd)
  have HK4 := Lib.hid (HK3.out.trans (hk.mono fun j hj => ⟨Nat.lt_of_lt_of_le hj.1 HK3.out.size, hj.2⟩))
  have cu : w4.cell? ⟨g, 0, none⟩ = some (.int .u8 7) := by rw [hu.at_ 0 (by omega), ex3_at]
  have HR := Lib.hid (Reads_at _ _ _ _ _ w4 HD4.out)
  have HF := Lib.hid (Failed_at _ _ _ _ _ w4 HD4.out)
  rw [ex3_r] at HR
  rw [ex3_f] at HF
  clear hd hk HD3 HK3 hu hg
  go_wp2_with (first | (go_at_call 12; refine HR.out.mono ?_; rintro e w' ⟨rfl, rfl⟩) | (go_at_call 13; refine HF.out.mono ?_; rintro e w' ⟨rfl, rfl⟩))
  all_goals
    go_ret
    exact ⟨rfl, HXh.out _ HK4.out⟩
end Go.Proofs.Ytnccbghpdfcaeaa
