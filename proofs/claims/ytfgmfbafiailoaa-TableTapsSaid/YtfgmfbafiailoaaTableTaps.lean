/- TableTaps: for every number table.Taps tells the taps of the chapter, none of others than 0 to 31, their sum is 2^16, those of phase 0 are told, and table.All has them at their place (4.1, 4.3), and the chapter's example holds. No condition. -/
import Derived.Test.YtfgmfbafiailoaaRows
import Derived.Test.YtfgmfbafiailoaaAll
namespace Go.Proofs.Ytfgmfbafiailoaa.tableTaps
open Go.ChangeShapes Go.WideShapes Go.ChangeAt Go.RowKit
set_option linter.unusedVariables false

theorem tapF_all (k : Nat) (h : k ≤ 31) : tapF 32 (k * 4) = .int .i64 (tap0 k) ∧ tapF 32 (k * 4 + 1) = .int .i64 (tap1 k) ∧ tapF 32 (k * 4 + 2) = .int .i64 (tap2 k) ∧ tapF 32 (k * 4 + 3) = .int .i64 (tap3 k) := by
  unfold tapF
  rw [if_pos (by omega), if_pos (by omega), if_pos (by omega), if_pos (by omega), tapC_0, tapC_1, tapC_2, tapC_3]
  exact ⟨rfl, rfl, rfl, rfl⟩
theorem cell4 {w : World} {b : Nat} {x y z u : Value} {t : TypeId} (h : w.heap[b]? = some (.cells #[x, y, z, u] t (0, 0))) :
    w.cell? ⟨b, 0, none⟩ = some x ∧ w.cell? ⟨b, 1, none⟩ = some y ∧ w.cell? ⟨b, 2, none⟩ = some z ∧ w.cell? ⟨b, 3, none⟩ = some u ∧ w.frozen? ⟨b, 0, none⟩ = false := by
  simp [World.cell?, World.frozen?, h]

set_option maxRecDepth 100000 in
theorem no (k : Int) (w : World) (h : k < 0 ∨ 31 < k) :
    Calls Try.prog 5 #[.int .i64 k] w fun e w' => e = .returned (.bool true) ∧ Old w w' := by
  have hT := Lib.hid (Taps_no k w h)
  have hA := Lib.hid awake_any
  have hE := fun w => eq_taps w 0 0 0 0
  rcases h with h | h
  · go_enter Try.func5, Try.ntmps5
    go_wp2_with fail
    refine hT.out.mono ?_
    rintro e w1 ⟨rfl, ho1⟩
    have HO := Lib.hid ho1
    clear ho1
    go_wp2_with fail
    refine (hA.out _).mono ?_
    rintro e w2 ⟨rfl, ho2⟩
    have H2 := Lib.hid ho2
    clear ho2
    go_wp2
    go_ret
    exact ⟨rfl, (HO.out.alloc' _).trans H2.out⟩
  · have h0 : 0 ≤ k := by omega
    go_enter Try.func5, Try.ntmps5
    go_wp2_with fail
    refine hT.out.mono ?_
    rintro e w1 ⟨rfl, ho1⟩
    have HO := Lib.hid ho1
    clear ho1
    go_wp2_with fail
    refine (hA.out _).mono ?_
    rintro e w2 ⟨rfl, ho2⟩
    have H2 := Lib.hid ho2
    clear ho2
    go_wp2
    go_ret
    exact ⟨rfl, (HO.out.alloc' _).trans H2.out⟩

set_option maxRecDepth 100000 in
set_option maxHeartbeats 1000000 in
theorem yes (k : Nat) (w : World) (h : k ≤ 31) (h0 : 0 < k) :
    Calls Try.prog 5 #[.int .i64 k] w fun e w' => e = .returned (.bool true) ∧ Old w w' := by
  have i1 : 0 ≤ (k : Int) := by omega
  have i2 : (k : Int) < 32 := by omega
  have i3 : (k : Int) ≤ 31 := by omega
  have i4 : 0 < (k : Int) := by omega
  have hT := Taps_yes k w h
  have hF := tapF_all k h
  unfold tapsV at hT
  have d0 : -((k : Int) * k * k) + 64 * ((k : Int) * k) - 1024 * k = tap0 k := rfl
  have d1 : 3 * ((k : Int) * k * k) - 160 * ((k : Int) * k) + 65536 = tap1 k := rfl
  have d2 : -3 * ((k : Int) * k * k) + 128 * ((k : Int) * k) + 1024 * k = tap2 k := rfl
  have d3 : (k : Int) * k * k - 32 * ((k : Int) * k) = tap3 k := rfl
  generalize tap0 k = t0 at *
  generalize tap1 k = t1 at *
  generalize tap2 k = t2 at *
  generalize tap3 k = t3 at *
  have m1 : 64 * (k : Int) * k = 64 * (k * k) := Int.mul_assoc _ _ _
  have m2 : 3 * (k : Int) * k = 3 * (k * k) := Int.mul_assoc _ _ _
  have m3 : 3 * ((k : Int) * k) * k = 3 * (k * k * k) := Int.mul_assoc _ _ _
  have m4 : 160 * (k : Int) * k = 160 * (k * k) := Int.mul_assoc _ _ _
  have m5 : 128 * (k : Int) * k = 128 * (k * k) := Int.mul_assoc _ _ _
  have m6 : 32 * (k : Int) * k = 32 * (k * k) := Int.mul_assoc _ _ _
  obtain ⟨s1, s2, c1, c2⟩ := sq_bd k h
  generalize hc : (k : Int) * k * k = c at *
  generalize hs : (k : Int) * k = s at *
  have e0 : 64 * s - c - 1024 * (k : Int) = t0 := by omega
  have e1 : 3 * c - 160 * s + 65536 = t1 := by omega
  have e2 : 128 * s - 3 * c + 1024 * (k : Int) = t2 := by omega
  have e3 : c - 32 * s = t3 := by omega
  have y1 : IntKind.i64.wrap (t0 + t1) = t0 + t1 := IntWalk.i64_in _ (by omega)
  have y2 : IntKind.i64.wrap (t0 + t1 + t2) = t0 + t1 + t2 := IntWalk.i64_in _ (by omega)
  have y3 : IntKind.i64.wrap (t0 + t1 + t2 + t3) = 65536 := by rw [show t0 + t1 + t2 + t3 = 65536 by omega]; decide
  clear d0 d1 d2 d3
  have HT := Lib.hid hT
  have HF := Lib.hid hF
  clear hT hF
  go_enter Try.func5, Try.ntmps5
  go_wp2_with fail
  refine HT.out.mono ?_
  rintro e w1 ⟨rfl, ho1⟩
  have HO := Lib.hid ho1
  clear ho1
  go_wp2_with fail
  have hb0 := heap_alloc2_old w1 (.cells #[.int .i64 t0, .int .i64 t1, .int .i64 t2, .int .i64 t3] 32) (.cells #[.int .i64 t0, .int .i64 t1, .int .i64 t2, .int .i64 t3] 32)
  have hb9 := heap_alloc2_new w1 (.cells #[.int .i64 t0, .int .i64 t1, .int .i64 t2, .int .i64 t3] 32) (.cells #[.int .i64 t0, .int .i64 t1, .int .i64 t2, .int .i64 t3] 32)
  have ho9 : Old w ((w1.alloc (.cells #[.int .i64 t0, .int .i64 t1, .int .i64 t2, .int .i64 t3] 32)).alloc (.cells #[.int .i64 t0, .int .i64 t1, .int .i64 t2, .int .i64 t3] 32)) := (HO.out.alloc' _).alloc' _
  refine (All_any _).mono ?_
  rintro e w2 ⟨rfl, ho2⟩
  have hk2 := ho2.alloc' (.cells (rowN 128 (tapF 32)) 34)
  have HB1 := Lib.hid ((hk2.block w1.heap.size (by simp; omega)).trans hb0)
  have HB3 := Lib.hid ((hk2.block (w1.heap.size + 1) (by simp)).trans hb9)
  have HB2 := Lib.hid (heap_alloc_new w2 (.cells (rowN 128 (tapF 32)) 34))
  have HO3 := Lib.hid (ho9.trans hk2)
  have hA := Lib.hid (awake_any (w2.alloc (.cells (rowN 128 (tapF 32)) 34)).drew)
  have hz := all_zero.1
  have Hz := Lib.hid all_zero.2
  have H1 : Hid ((rowN 128 (tapF 32)).all (·.oneCell') = true) := Lib.hid (rowN_one _ _ fun _ _ => rfl)
  clear HO ho2 hb0 hb9 ho9 hk2
  go_wp2_with (with_reducible refine wpList_store_row rfl 34 _ _ rfl w2.heap.size (rowN 128 (tapF 32)) rfl rfl 34 _ (heap_alloc_new _ _) (by rw [rowN_size]; exact Hz.out) (by rw [rowN_size, rowN_size]) H1.out ?_; rw [World.setRow_alloc_new]; clear hz)
  obtain ⟨c1, c2, c3, c4, f1⟩ := cell4 HB1.out
  obtain ⟨c9, c10, c11, c12, f9⟩ := cell4 HB3.out
  have hcell := fun j hj => (cell_of_row _ w2.heap.size j _ _ _ HB2.out).trans (rowN_at 128 (tapF 32) j hj)
  have c5 := hcell (k * 4) (by omega)
  have c6 := hcell (k * 4 + 1) (by omega)
  have c7 := hcell (k * 4 + 2) (by omega)
  have c8 := hcell (k * 4 + 3) (by omega)
  rw [HF.out.1] at c5
  rw [HF.out.2.1] at c6
  rw [HF.out.2.2.1] at c7
  rw [HF.out.2.2.2] at c8
  clear H1 Hz hcell HB1 HB2 HB3 HF
  have hE := fun w => eq_taps w t0 t1 t2 t3
  generalize w2.alloc (.cells (rowN 128 (tapF 32)) 34) = w3 at *
  generalize w1.heap.size = g1 at *
  generalize w2.heap.size = g2 at *
  refine wp_region_still_tail 36 (by kernel_rfl) (by kernel_rfl) ?_
  simp only [List.take_succ_cons, List.take_zero, List.drop_succ_cons, List.drop_zero]
  iterate 36 (with_reducible refine wpStill_step (fun K hK => ?_); go_simp; with_reducible refine hK _ ?_; clear hK K)
  with_reducible refine wpStill_nil ?_
  change wpList _ _ _ _ _ w3.drew
  go_wp2_with fail
  refine hA.out.mono ?_
  rintro e w4 ⟨rfl, ho4⟩
  have H4 := Lib.hid ho4
  clear ho4
  go_wp2
  go_ret
  exact ⟨rfl, (Old.drew HO3.out).trans H4.out⟩
set_option maxRecDepth 100000 in
set_option maxHeartbeats 1000000 in
theorem zero (w : World) :
    Calls Try.prog 5 #[.int .i64 0] w fun e w' => e = .returned (.bool true) ∧ Old w w' := by
  have hT := Taps_yes 0 w (by omega)
  have hF := tapF_all 0 (by omega)
  unfold tapsV at hT
  rw [show tap0 0 = 0 by decide, show tap1 0 = 65536 by decide, show tap2 0 = 0 by decide, show tap3 0 = 0 by decide] at hT hF
  have y1 : IntKind.i64.wrap 65536 = 65536 := by decide
  have HT := Lib.hid hT
  have HF := Lib.hid hF
  clear hT hF
  go_enter Try.func5, Try.ntmps5
  go_wp2_with fail
  refine HT.out.mono ?_
  rintro e w1 ⟨rfl, ho1⟩
  have HO := Lib.hid ho1
  clear ho1
  go_wp2_with fail
  have hb0 := heap_alloc2_old w1 (.cells #[.int .i64 0, .int .i64 65536, .int .i64 0, .int .i64 0] 32) (.cells #[.int .i64 0, .int .i64 65536, .int .i64 0, .int .i64 0] 32)
  have hb9 := heap_alloc2_new w1 (.cells #[.int .i64 0, .int .i64 65536, .int .i64 0, .int .i64 0] 32) (.cells #[.int .i64 0, .int .i64 65536, .int .i64 0, .int .i64 0] 32)
  have ho9 : Old w ((w1.alloc (.cells #[.int .i64 0, .int .i64 65536, .int .i64 0, .int .i64 0] 32)).alloc (.cells #[.int .i64 0, .int .i64 65536, .int .i64 0, .int .i64 0] 32)) := (HO.out.alloc' _).alloc' _
  refine (All_any _).mono ?_
  rintro e w2 ⟨rfl, ho2⟩
  have hk2 := ho2.alloc' (.cells (rowN 128 (tapF 32)) 34)
  have HB1 := Lib.hid ((hk2.block w1.heap.size (by simp; omega)).trans hb0)
  have HB3 := Lib.hid ((hk2.block (w1.heap.size + 1) (by simp)).trans hb9)
  have HB2 := Lib.hid (heap_alloc_new w2 (.cells (rowN 128 (tapF 32)) 34))
  have HO3 := Lib.hid (ho9.trans hk2)
  have hA := Lib.hid (awake_any (w2.alloc (.cells (rowN 128 (tapF 32)) 34)).drew)
  have hz := all_zero.1
  have Hz := Lib.hid all_zero.2
  have H1 : Hid ((rowN 128 (tapF 32)).all (·.oneCell') = true) := Lib.hid (rowN_one _ _ fun _ _ => rfl)
  clear HO ho2 hb0 hb9 ho9 hk2
  go_wp2_with (with_reducible refine wpList_store_row rfl 34 _ _ rfl w2.heap.size (rowN 128 (tapF 32)) rfl rfl 34 _ (heap_alloc_new _ _) (by rw [rowN_size]; exact Hz.out) (by rw [rowN_size, rowN_size]) H1.out ?_; rw [World.setRow_alloc_new]; clear hz)
  obtain ⟨c1, c2, c3, c4, f1⟩ := cell4 HB1.out
  obtain ⟨c9, c10, c11, c12, f9⟩ := cell4 HB3.out
  have hcell := fun j hj => (cell_of_row _ w2.heap.size j _ _ _ HB2.out).trans (rowN_at 128 (tapF 32) j hj)
  have c5 := hcell (0 * 4) (by omega)
  have c6 := hcell (0 * 4 + 1) (by omega)
  have c7 := hcell (0 * 4 + 2) (by omega)
  have c8 := hcell (0 * 4 + 3) (by omega)
  rw [HF.out.1] at c5
  rw [HF.out.2.1] at c6
  rw [HF.out.2.2.1] at c7
  rw [HF.out.2.2.2] at c8
  clear H1 Hz hcell HB1 HB2 HB3 HF
  have hE := fun w => eq_taps w 0 65536 0 0
  rw [show 0 * 4 = 0 from rfl] at c5
  rw [show 0 * 4 + 1 = 1 from rfl] at c6
  rw [show 0 * 4 + 2 = 2 from rfl] at c7
  rw [show 0 * 4 + 3 = 3 from rfl] at c8
  generalize w2.alloc (.cells (rowN 128 (tapF 32)) 34) = w3 at *
  generalize w1.heap.size = g1 at *
  generalize w2.heap.size = g2 at *
  refine wp_region_still_tail 36 (by kernel_rfl) (by kernel_rfl) ?_
  simp only [List.take_succ_cons, List.take_zero, List.drop_succ_cons, List.drop_zero]
  iterate 36 (with_reducible refine wpStill_step (fun K hK => ?_); go_simp; with_reducible refine hK _ ?_; clear hK K)
  with_reducible refine wpStill_nil ?_
  change wpList _ _ _ _ _ w3.drew
  go_wp2_with fail
  refine hA.out.mono ?_
  rintro e w4 ⟨rfl, ho4⟩
  have H4 := Lib.hid ho4
  clear ho4
  go_wp2
  go_ret
  exact ⟨rfl, (Old.drew HO3.out).trans H4.out⟩
theorem walk (k : Int) (w : World) :
    Calls Try.prog 5 #[.int .i64 k] w fun e w' => e = .returned (.bool true) ∧ Old w w' := by
  by_cases h : k < 0 ∨ 31 < k
  · exact no k w h
  · obtain ⟨j, rfl⟩ : ∃ j : Nat, k = j := ⟨k.toNat, by omega⟩
    by_cases h0 : j = 0
    · subst h0; exact zero w
    · exact yes j w (by omega) (by omega)


theorem own : ownKnob Try.prog.godebug = none := by kernel_rfl
theorem laidOut : laidOutB Try.prog = true := by kernel_rfl

set_option maxRecDepth 100000 in
theorem lifted (os : Os) (started : os.Started) (H : Type) (enc : TypeId × Value → H) :
    ReturnsInHanded {} Try.checked os 5 .any (Rows.tableTapsSpec.pre6 enc Try.prog Try.f5 Rows.tableTapsRow.domain false) (Rows.tableTapsSpec.post enc Try.prog Try.f5 false true false false) := by
  refine returnsInHanded_of_change (C := Try.checked) own started (by kernel_rfl) Try.func5
    (ChangeSpec.witness6 (enc := enc) (C := Try.checked) false ⟨#[], #[.int .i64 0], []⟩ 8 (by kernel_rfl) (by kernel_rfl) (by kernel_rfl) (by kernel_rfl)) ?_
  intro W base args ds gs before hval0 hW hcnd _
  have hval : ∀ (j : Nat) t v, Try.f5.params[j]? = some t → args[j]? = some v → Value.okWide Try.prog W .any base t v := hval0
  have hW' := hW
  have hlt : ∀ p ∈ before, p.block < W.heap.size := fun p hp => hW'.lt p hp
  obtain ⟨p, q, hA0, hV, rfl, hfz, hnd⟩ := hW
  have hA : DataW.TrodAll enc Try.prog W 0 (fun _ => true) true Try.f5.params.toList args.toList ds p := hA0
  rw [Try.params5] at hA hval
  obtain ⟨v0, vs0, d0, ds0, p0, q0, hargs, rfl, rfl, h0, r0⟩ := trodAll_cons hA
  obtain ⟨rfl, rfl, rfl⟩ := trodAll_nil r0
  obtain rfl : args = #[v0] := by cases args; simp_all
  obtain ⟨rfl, rfl⟩ := trodVars_none hV
  obtain ⟨a0, rfl, _, _, w0⟩ := open_int Try.underlying3 (hval 0 3 v0 rfl rfl) h0
  refine (walk a0 W).mono fun e W' ⟨he, hg⟩ => ?_
  subst he
  exact ⟨_, rfl, law_done laidOut Try.underlying4 rfl (by kernel_rfl) rfl hW' rfl hg⟩

theorem over : Rows.tableTapsRow.holds Try.pinned (OpenSpec.ofChange Rows.tableTapsSpec) :=
  OpenClaim.holds_of_wide 5 Try.f5 rfl rfl rfl rfl rfl rfl rfl ⟨rfl, rfl, rfl, rfl, rfl⟩ rfl rfl rfl rfl rfl (by kernel_rfl) Try.func5 (by kernel_rfl)
    (of_decide_eq_true (by kernel_rfl)) (by unfold Func.isWrapper; first | (rw [if_pos (by decide +kernel)]; kernel_rfl) | (rw [if_neg (by decide +kernel)]; exact ⟨rfl, rfl⟩))
    (fun os started H enc _ => lifted os started H enc)

theorem proved : Rows.TableTapsSaid :=
  over
end Go.Proofs.Ytfgmfbafiailoaa.tableTaps
