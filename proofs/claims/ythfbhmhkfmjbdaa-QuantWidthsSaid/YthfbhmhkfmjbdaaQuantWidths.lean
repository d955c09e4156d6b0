/- QuantWidths: how many bits any steps need, band by band, and all of them. -/
import Derived.Test.YthfbhmhkfmjbdaaRows
import Derived.Test.YthfbhmhkfmjbdaaAwake
namespace Go.Proofs.Ythfbhmhkfmjbdaa.quantWidths
open Go.ChangeShapes Go.WideShapes Go.ChangeAt Go.RowKit
set_option linter.unusedVariables false

/-- The greatest width of the first j numbers of a band. -/
def mostT (f : Nat → Int) (k : Nat) : Nat → Int
  | 0 => 0
  | j + 1 => max (mostT f k j) (widthI (f (4 * k + j)))
theorem mostT_bd (f : Nat → Int) (k j : Nat) : 0 ≤ mostT f k j ∧ mostT f k j ≤ 65 := by
  induction j with
  | zero => exact ⟨by show (0 : Int) ≤ 0; omega, by show (0 : Int) ≤ 65; omega⟩
  | succ j ih =>
    have h3 := widthI_bd (f (4 * k + j))
    show 0 ≤ max (mostT f k j) (widthI (f (4 * k + j))) ∧ max (mostT f k j) (widthI (f (4 * k + j))) ≤ 65
    omega
theorem wide_most (f : Nat → Int) (k : Nat) (h : k < 4) : wideF f k = mostT f k 4 := by
  rcases (by omega : k = 0 ∨ k = 1 ∨ k = 2 ∨ k = 3) with rfl | rfl | rfl | rfl <;> rfl

structure GSt (w : World) (gb : Nat) (tb tg : TypeId) (f g : Nat → Int) (W : World) : Prop where
  b : W.heap[w.heap.size]? = some (.cells (rowN 16 (blk f)) tb (0, 0))
  g : W.heap[gb]? = some (.cells (rowN 4 (blk g)) tg (0, 0))
  old : Old w W

set_option maxRecDepth 100000 in
set_option maxHeartbeats 4000000 in
theorem walk (f : Nat → Int) (w : World) (hf : Fits64 f) : Calls Try.prog 5 #[.agg (rowN 16 (blk f))] w fun e w' => e = .returned (.bool true) ∧ Old w w' := by
  have HA := Lib.hid (fun w => awake_any w)
  have HW := Lib.hid (fun w => Widths_any f w hf)
  have HWd := Lib.hid (fun k w => Width_any (f k) w (hf k).1 (hf k).2)
  have HC := Lib.hid (fun w => Cost_any (wideF f) w fun k hk => by have := wideTo_bd f 16 k; unfold wideF; omega)
  have Hs : Hid ((Try.prog.info? 23).map (·.size) = some 16) := Lib.hid (by kernel_rfl)
  have Hs4 : Hid ((Try.prog.info? 24).map (·.size) = some 4) := Lib.hid (by kernel_rfl)
  have hb : Hid ((w.alloc (.cells (rowN 16 (blk f)) 23)).heap[w.heap.size]? = some (.cells (rowN 16 (blk f)) 23 (0, 0))) := Lib.hid (heap_alloc_new _ _)
  clear hf
  go_enter Try.func5, Try.ntmps5
  go_wp2_with (with_reducible refine wpList_load_row rfl 23 _ rfl w.heap.size rfl 23 (rowN 16 (blk f)) (0, 0) _ hb.out Try.underlying23 rfl (by rw [rowN_size]; exact Hs.out) ?_)
  refine (HW.out _).mono ?_
  rintro e w1 ⟨rfl, ho⟩
  have hst : GSt w w1.heap.size 23 24 f (wideF f) (w1.alloc (.cells (rowN 4 (blk (wideF f))) 24)) :=
    ⟨(((ho.alloc' (.cells (rowN 4 (blk (wideF f))) 24))).block _ (lt_of_block hb.out)).trans hb.out, heap_alloc_new _ _, ((Old.alloc w _).trans ho).alloc' _⟩
  have HS := Lib.hid hst
  have H1 : Hid ((rowN 4 (blk (wideF f))).all (·.oneCell') = true) := Lib.hid (blk_one _ _)
  clear ho hst hb HW
  go_wp2_with (with_reducible refine wpList_store_row rfl 24 _ _ rfl w1.heap.size (rowN 4 (blk (wideF f))) rfl rfl 24 _ (heap_alloc_new _ _) (by rw [rowN_size]; exact Hs4.out) (by rw [rowN_size]; kernel_rfl) H1.out ?_; rw [World.setRow_alloc_new])
  obtain ⟨gb, hgb⟩ : ∃ gb, gb = w1.heap.size := ⟨_, rfl⟩
  rw [← hgb] at HS ⊢
  clear hgb H1
  go_loopw [4, 5] (fun s i wr => ∃ k : Nat, k ≤ 4 ∧ i = .int .i64 k ∧ s = .int .i64 (4 * sumTo (wideF f) k) ∧ Hid (GSt w gb 23 24 f (wideF f) wr)) (fun _ i _ => 4 - (intOf i).toNat)
  case atStart => exact ⟨0, by omega, rfl, rfl, HS⟩
  case round =>
    obtain ⟨k, hk, rfl, rfl, hs⟩ := hrel
    clear HS
    obtain ⟨wo, rfl⟩ : ∃ wo, wo = wr := ⟨_, rfl⟩
    have hbd := sumTo_bd (wideF f) k fun j _ => by have := wideTo_bd f 16 j; unfold wideF; omega
    by_cases hlt : k < 4
    · have k1 : (0 : Int) ≤ k := by omega
      have k2 : (k : Int) < 4 := by omega
      have hwm := wide_most f k hlt
      have hsu : sumTo (wideF f) (k + 1) = sumTo (wideF f) k + wideF f k := rfl
      have hcg := (cell_of_row _ _ _ _ _ _ hs.out.g).trans (blk_at 4 (wideF f) k hlt)
      have HB := Lib.hid (fun j => mostT_bd f k j)
      have HCb : Hid (∀ j, j < 16 → wo.cell? ⟨w.heap.size, j, none⟩ = some (.int .i64 (f j))) := fun j hj => (cell_of_row _ _ _ _ _ _ hs.out.b).trans (blk_at 16 f j hj)
      have HSu := Lib.hid hsu
      have HWm := Lib.hid hwm
      have HCg := Lib.hid hcg
      clear hsu hwm hcg
      generalize sumTo (wideF f) k = s at *
      go_wp2_with fail
      go_loop [6, 7] (fun m i => ∃ j : Nat, j ≤ 4 ∧ i = .int .i64 ((4 * k + j : Nat) : Int) ∧ m = .int .i64 (mostT f k j)) (fun _ i => 4 * k + 4 - (intOf i).toNat)
      case atStart => exact ⟨0, by omega, by congr 1, rfl⟩
      case round =>
        obtain ⟨j, hj, rfl, rfl⟩ := hrel
        obtain ⟨b0, b1⟩ := HB.out j
        by_cases hj4 : j < 4
        · have hcell := HCb.out (4 * k + j) (by omega)
          have hmo : mostT f k (j + 1) = max (mostT f k j) (widthI (f (4 * k + j))) := rfl
          have HMo := Lib.hid hmo
          have HWk := Lib.hid (HWd.out (4 * k + j))
          obtain ⟨m, hm⟩ : ∃ m, 4 * k + j = m := ⟨_, rfl⟩
          rw [hm] at hcell HMo HWk ⊢
          have i1 : (m : Int) < 4 * (k : Int) + 4 := by omega
          have i0 : (0 : Int) ≤ m := by omega
          have i2 : (m : Int) < 16 := by omega
          have hm1 : 4 * k + (j + 1) = m + 1 := by omega
          have Hm1 := Lib.hid hm1
          have hw0 := widthI_bd (f m)
          clear hmo hm hm1 HCb HB HWd HWm HSu HCg
          generalize mostT f k j = x at *
          generalize widthI (f m) = y at *
          generalize f m = v at *
          by_cases hgt : x < y
          · go_wp2_with fail
            refine (HWk.out _).mono ?_
            rintro e w3 ⟨rfl, rfl⟩
            go_wp2_with fail
            refine (HWk.out _).mono ?_
            rintro e w3 ⟨rfl, rfl⟩
            go_wp2_with fail
            go_round
            case rel => exact ⟨j + 1, by omega, by rw [Hm1.out]; go_num, by rw [HMo.out]; congr 1; omega⟩
            case measure => simp [intOf]; omega
          · go_wp2_with fail
            refine (HWk.out _).mono ?_
            rintro e w3 ⟨rfl, rfl⟩
            go_wp2_with fail
            go_round
            case rel => exact ⟨j + 1, by omega, by rw [Hm1.out]; go_num, by rw [HMo.out]; congr 1; omega⟩
            case measure => simp [intOf]; omega
        · obtain rfl : j = 4 := by omega
          have hcg := HCg.out
          rw [HWm.out] at hcg
          have hfi : 4 * (s + mostT f k 4) = 4 * sumTo (wideF f) (k + 1) := by rw [HSu.out, HWm.out]
          have HFi := Lib.hid hfi
          obtain ⟨m, hm⟩ : ∃ m, 4 * k + 4 = m := ⟨_, rfl⟩
          rw [hm]
          have i1 : 4 * (k : Int) + 4 ≤ (m : Int) := by omega
          clear hm hfi HB HCb HSu HWm HWd HCg
          generalize mostT f k 4 = y at *
          go_wp2_with fail
          go_roundw
          case rel => exact ⟨k + 1, by omega, by go_num, by rw [← HFi.out]; congr 1; omega, hs⟩
          case measure => simp [intOf]; omega
    · obtain rfl : k = 4 := by omega
      have hg := Lib.hid hs.out.g
      have HO := Lib.hid hs.out.old
      clear hs
      generalize sumTo (wideF f) 4 = s at *
      go_wp2_with (with_reducible refine wpList_load_row rfl 24 _ rfl gb rfl 24 (rowN 4 (blk (wideF f))) (0, 0) _ hg.out Try.underlying24 rfl (by rw [rowN_size]; exact Hs4.out) ?_)
      refine (HC.out _).mono ?_
      rintro e w4 ⟨rfl, ho⟩
      have HO4 := Lib.hid (HO.out.trans ho)
      clear ho HO hg
      go_wp2_with fail
      refine (HA.out _).mono ?_
      rintro e w5 ⟨rfl, ho⟩
      have HO5 := Lib.hid (HO4.out.trans ho)
      clear ho
      go_wp2_with fail
      go_ret
      exact ⟨rfl, HO5.out⟩

theorem own : ownKnob Try.prog.godebug = none := by kernel_rfl
theorem laidOut : laidOutB Try.prog = true := by kernel_rfl

set_option maxRecDepth 100000 in
theorem lifted (os : Os) (started : os.Started) (H : Type) (enc : TypeId × Value → H) :
    ReturnsInHanded {} Try.checked os 5 .any (Rows.quantWidthsSpec.pre6 enc Try.prog Try.f5 Rows.quantWidthsRow.domain false) (Rows.quantWidthsSpec.post enc Try.prog Try.f5 false true false false) := by
  refine returnsInHanded_of_change (C := Try.checked) own started (by kernel_rfl) Try.func5
    (ChangeSpec.witness6 (enc := enc) (C := Try.checked) false ⟨#[], #[.agg #[.int .i64 0, .int .i64 0, .int .i64 0, .int .i64 0, .int .i64 0, .int .i64 0, .int .i64 0, .int .i64 0, .int .i64 0, .int .i64 0, .int .i64 0, .int .i64 0, .int .i64 0, .int .i64 0, .int .i64 0, .int .i64 0]], []⟩ 8 (by kernel_rfl) (by kernel_rfl) (by kernel_rfl) (by kernel_rfl)) ?_
  intro W base args ds gs before hval0 hW hcnd _
  have hval : ∀ (j : Nat) t v, Try.f5.params[j]? = some t → args[j]? = some v → Value.okWide Try.prog W .any base t v := hval0
  have hW' := hW
  have hlt : ∀ p ∈ before, p.block < W.heap.size := fun p hp => hW'.lt p hp
  obtain ⟨p, q, hA0, hV, rfl, hfz, hnd⟩ := hW
  have hA : DataW.TrodAll enc Try.prog W 0 (fun _ => true) true Try.f5.params.toList args.toList ds p := hA0
  rw [Try.params5] at hA hval
  obtain ⟨v0, vs0, d0, ds0, p0, q0, hargs, rfl, rfl, h0, r0⟩ := trodAll_cons hA
  obtain ⟨rfl, rfl, rfl⟩ := trodAll_nil r0
  obtain rfl : args = #[v0] := by cases args; simp_all
  obtain ⟨rfl, rfl⟩ := trodVars_none hV
  obtain ⟨f0, rfl, hf0, hz0⟩ := open_ints64 Try.underlying23 Try.underlying2 (by kernel_rfl) (by kernel_rfl) (hval 0 23 v0 rfl rfl) h0
  refine (walk f0 W hf0).mono fun e W' ⟨he, hg⟩ => ?_
  subst he
  exact ⟨_, rfl, law_done laidOut Try.underlying4 rfl (by kernel_rfl) rfl hW' rfl hg⟩

theorem over : Rows.quantWidthsRow.holds Try.pinned (OpenSpec.ofChange Rows.quantWidthsSpec) :=
  OpenClaim.holds_of_wide 5 Try.f5 rfl rfl rfl rfl rfl rfl rfl ⟨rfl, rfl, rfl, rfl, rfl⟩ rfl rfl rfl rfl rfl (by kernel_rfl) Try.func5 (by kernel_rfl)
    (of_decide_eq_true (by kernel_rfl)) (by unfold Func.isWrapper; first | (rw [if_pos (by decide +kernel)]; kernel_rfl) | (rw [if_neg (by decide +kernel)]; exact ⟨rfl, rfl⟩))
    (fun os started H enc _ => lifted os started H enc)

theorem proved : Rows.QuantWidthsSaid :=
  over
end Go.Proofs.Ythfbhmhkfmjbdaa.quantWidths
