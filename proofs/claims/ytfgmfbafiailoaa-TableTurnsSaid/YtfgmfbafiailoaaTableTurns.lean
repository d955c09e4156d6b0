/- TableTurns: for every number table.Turn tells the turn of the chapter, none of others than 0 to 7, table.Turns has it at its place, and turns rise and stay below 2^14 (4.1, 4.3), and the chapter's example holds. No condition. -/
import Derived.Test.YtfgmfbafiailoaaRows
import Derived.Test.YtfgmfbafiailoaaTurns
namespace Go.Proofs.Ytfgmfbafiailoaa.tableTurns
open Go.ChangeShapes Go.WideShapes Go.ChangeAt Go.RowKit
set_option linter.unusedVariables false

theorem turnF_P (k : Nat) (h : k ≤ 7) : turnF 8 (k * 2) = .int .i64 (turnP k) := by
  unfold turnF turnC; rw [if_pos (by omega), if_pos (by omega), show k * 2 / 2 = k by omega]
theorem turnF_U (k : Nat) (h : k ≤ 7) : turnF 8 (k * 2 + 1) = .int .i64 (turnU k) := by
  unfold turnF turnC; rw [if_pos (by omega), if_neg (by omega), show (k * 2 + 1) / 2 = k by omega]
theorem turnU_lt : ∀ k, k ≤ 7 → 0 ≤ turnU k ∧ turnU k < 16384 := by
  intro k hk
  have : (List.range 8).all (fun k => decide (0 ≤ turnU k ∧ turnU k < 16384)) = true := by decide +kernel
  simpa using List.all_eq_true.1 this k (List.mem_range.2 (by omega))
theorem turnU_rise : ∀ j, j ≤ 6 → turnU j < turnU (j + 1) := by
  intro k hk
  have : (List.range 7).all (fun k => decide (turnU k < turnU (k + 1))) = true := by decide +kernel
  simpa using List.all_eq_true.1 this k (List.mem_range.2 (by omega))

set_option maxRecDepth 100000 in
theorem no (k : Int) (w : World) (h : k < 0 ∨ 7 < k) :
    Calls Try.prog 3 #[.int .i64 k] w fun e w' => e = .returned (.bool true) ∧ Old w w' := by
  have hT := Lib.hid (Turn_no k w h)
  have hA := Lib.hid awake_any
  rcases h with h | h
  · go_enter Try.func3, Try.ntmps3
    go_wp2_with fail
    refine hT.out.mono ?_
    rintro e w1 ⟨rfl, ho1⟩
    have HO := Lib.hid ho1
    clear ho1
    go_wp2_with fail
    refine (hA.out _).mono ?_
    rintro e w2 ⟨rfl, ho2⟩
    have H2 := Lib.hid ho2
    clear ho2
    go_wp2
    go_ret
    exact ⟨rfl, (HO.out.alloc' _).trans H2.out⟩
  · have h0 : 0 ≤ k := by omega
    go_enter Try.func3, Try.ntmps3
    go_wp2_with fail
    refine hT.out.mono ?_
    rintro e w1 ⟨rfl, ho1⟩
    have HO := Lib.hid ho1
    clear ho1
    go_wp2_with fail
    refine (hA.out _).mono ?_
    rintro e w2 ⟨rfl, ho2⟩
    have H2 := Lib.hid ho2
    clear ho2
    go_wp2
    go_ret
    exact ⟨rfl, (HO.out.alloc' _).trans H2.out⟩

set_option maxRecDepth 100000 in
set_option maxHeartbeats 1000000 in
theorem yes (k : Nat) (w : World) (h : k ≤ 7) (h0 : ¬ k = 0) :
    Calls Try.prog 3 #[.int .i64 k] w fun e w' => e = .returned (.bool true) ∧ Old w w' := by
  have i1 : 0 ≤ (k : Int) := by omega
  have i2 : (k : Int) < 8 := by omega
  have i3 : (k : Int) ≤ 7 := by omega
  obtain ⟨u1, u2⟩ := turnU_lt k h
  have hT := Turn_yes k w h
  unfold turnV at hT
  have hpb : turnP k = 512 * (2 * (k : Int) + 1) := rfl
  have hub : turnU k = ((2 * (k : Int) + 1) * 1048576 + turnD k / 2) / turnD k := rfl
  have hdb : turnD k = 1024 + (2 * (k : Int) + 1) * (2 * (k : Int) + 1) := rfl
  rw [hdb] at hub
  clear hdb
  have m1 : 1 ≤ 2 * (k : Int) + 1 := by omega
  have m2 : 2 * (k : Int) + 1 ≤ 15 := by omega
  have hq0 : 0 ≤ (2 * (k : Int) + 1) * (2 * (k : Int) + 1) := Int.mul_nonneg (by omega) (by omega)
  have hq1 : (2 * (k : Int) + 1) * (2 * (k : Int) + 1) ≤ 225 := by have := Int.mul_le_mul m2 m2 (by omega) (by omega); omega
  generalize hq : (2 * (k : Int) + 1) * (2 * (k : Int) + 1) = q at *
  have hd2 : (1024 + q).tdiv 2 = (1024 + q) / 2 := tdiv_pos _ _ (by omega)
  have hd3 : ((2 * (k : Int) + 1) * 1048576 + (1024 + q) / 2).tdiv (1024 + q) = turnU k := by rw [hub]; exact tdiv_pos _ _ (by omega)
  clear hub
  have hFP := turnF_P k h
  have hFU := turnF_U k h
  have HT := Lib.hid hT
  have HFP := Lib.hid hFP
  have HFU := Lib.hid hFU
  clear hT hFP hFU
  have y1 : IntKind.i64.wrap (512 * (2 * (k : Int) + 1)) = turnP k := by rw [hpb]; exact IntWalk.i64_in _ (by omega)
  clear hpb
  have Hj : Hid (∀ j, k = j + 1 → turnU j < turnU k) := Lib.hid (fun j hj => by have := turnU_rise j (by omega); rwa [← hj] at this)
  generalize turnP k = p at *
  generalize turnU k = u at *
  go_enter Try.func3, Try.ntmps3
  go_wp2_with fail
  refine HT.out.mono ?_
  rintro e w1 ⟨rfl, ho1⟩
  have HO := Lib.hid ho1
  clear ho1
  go_wp2_with fail
  refine (Turns_any _).mono ?_
  rintro e w2 ⟨rfl, ho2⟩
  have hb1 := ((ho2.alloc' (.cells (rowN 16 (turnF 8)) 26)).block w1.heap.size (by simp)).trans (heap_alloc_new w1 (.cells #[.int .i64 p, .int .i64 u] 23))
  have hb2 := heap_alloc_new w2 (.cells (rowN 16 (turnF 8)) 26)
  have HO3 : Hid (Old w (w2.alloc (.cells (rowN 16 (turnF 8)) 26))) := ((HO.out.alloc' _).trans ho2).alloc' _
  have hA := Lib.hid (awake_any (w2.alloc (.cells (rowN 16 (turnF 8)) 26)).drew)
  have HB1 := Lib.hid hb1
  have HB2 := Lib.hid hb2
  have Hz : Hid ((Try.prog.info? 26).map (·.size) = some 16) := Lib.hid (by kernel_rfl)
  have H1 : Hid ((rowN 16 (turnF 8)).all (·.oneCell') = true) := Lib.hid (rowN_one _ _ fun _ _ => rfl)
  clear HO ho2 hb1 hb2
  go_wp2_with (with_reducible refine wpList_store_row rfl 26 _ _ rfl w2.heap.size (rowN 16 (turnF 8)) rfl rfl 26 _ (heap_alloc_new _ _) (by rw [rowN_size]; exact Hz.out) (by rw [rowN_size]; kernel_rfl) H1.out ?_; rw [World.setRow_alloc_new])
  obtain ⟨c1, c2, f1, f2⟩ := cell2 HB1.out
  have hcell := fun j hj => (cell_of_row _ w2.heap.size j _ _ _ HB2.out).trans (rowN_at 16 (turnF 8) j hj)
  have c3 := hcell (k * 2) (by omega)
  have c4 := hcell (k * 2 + 1) (by omega)
  rw [HFP.out] at c3
  rw [HFU.out] at c4
  clear H1 Hz
  obtain ⟨j, hj⟩ : ∃ j, k = j + 1 := ⟨k - 1, by omega⟩
  have c5 := hcell (j * 2 + 1) (by omega)
  rw [turnF_U j (by omega)] at c5
  have hr := Hj.out j hj
  have e1 : IntKind.i64.wrap ((k : Int) - 1) = (j : Int) := by rw [show (k : Int) - 1 = (j : Int) by omega]; exact IntWalk.i64_in _ (by omega)
  have e2 : ((k : Int) == 0) = false := by simp; omega
  have hE := fun w => eq_turn w p u
  have i4 : (j : Int) < 8 := by omega
  have i5 : 0 ≤ (j : Int) := by omega
  generalize turnU j = u' at *
  clear hcell HB1 HB2 h0 hj Hj
  generalize w2.alloc (.cells (rowN 16 (turnF 8)) 26) = w3 at *
  generalize w1.heap.size = g1 at *
  generalize w2.heap.size = g2 at *
  refine wp_region_still_tail 36 (by kernel_rfl) (by kernel_rfl) ?_
  simp only [List.take_succ_cons, List.take_zero, List.drop_succ_cons, List.drop_zero]
  iterate 36 (with_reducible refine wpStill_step (fun K hK => ?_); go_simp; with_reducible refine hK _ ?_; clear hK K)
  with_reducible refine wpStill_nil ?_
  change wpList _ _ _ _ _ w3.drew
  go_wp2_with fail
  refine hA.out.mono ?_
  rintro e w4 ⟨rfl, ho4⟩
  have H4 := Lib.hid ho4
  clear ho4
  go_wp2
  go_ret
  exact ⟨rfl, (Old.drew HO3.out).trans H4.out⟩

set_option maxRecDepth 100000 in
set_option maxHeartbeats 1000000 in
theorem zero (w : World) :
    Calls Try.prog 3 #[.int .i64 0] w fun e w' => e = .returned (.bool true) ∧ Old w w' := by
  have hT := Turn_yes 0 w (by omega)
  have hFP := turnF_P 0 (by omega)
  have hFU := turnF_U 0 (by omega)
  unfold turnV at hT
  rw [show turnP 0 = 512 by decide] at hT hFP
  rw [show turnU 0 = 1023 by decide] at hT hFU
  have HT := Lib.hid hT
  have HFP := Lib.hid hFP
  have HFU := Lib.hid hFU
  clear hT hFP hFU
  go_enter Try.func3, Try.ntmps3
  go_wp2_with fail
  refine HT.out.mono ?_
  rintro e w1 ⟨rfl, ho1⟩
  have HO := Lib.hid ho1
  clear ho1
  go_wp2_with fail
  refine (Turns_any _).mono ?_
  rintro e w2 ⟨rfl, ho2⟩
  have hb1 := ((ho2.alloc' (.cells (rowN 16 (turnF 8)) 26)).block w1.heap.size (by simp)).trans (heap_alloc_new w1 (.cells #[.int .i64 512, .int .i64 1023] 23))
  have hb2 := heap_alloc_new w2 (.cells (rowN 16 (turnF 8)) 26)
  have HO3 : Hid (Old w (w2.alloc (.cells (rowN 16 (turnF 8)) 26))) := ((HO.out.alloc' _).trans ho2).alloc' _
  have hA := Lib.hid (awake_any (w2.alloc (.cells (rowN 16 (turnF 8)) 26)).drew)
  have HB1 := Lib.hid hb1
  have HB2 := Lib.hid hb2
  have Hz : Hid ((Try.prog.info? 26).map (·.size) = some 16) := Lib.hid (by kernel_rfl)
  have H1 : Hid ((rowN 16 (turnF 8)).all (·.oneCell') = true) := Lib.hid (rowN_one _ _ fun _ _ => rfl)
  clear HO ho2 hb1 hb2
  go_wp2_with (with_reducible refine wpList_store_row rfl 26 _ _ rfl w2.heap.size (rowN 16 (turnF 8)) rfl rfl 26 _ (heap_alloc_new _ _) (by rw [rowN_size]; exact Hz.out) (by rw [rowN_size]; kernel_rfl) H1.out ?_; rw [World.setRow_alloc_new])
  obtain ⟨c1, c2, f1, f2⟩ := cell2 HB1.out
  have hcell := fun j hj => (cell_of_row _ w2.heap.size j _ _ _ HB2.out).trans (rowN_at 16 (turnF 8) j hj)
  have c3 := hcell 0 (by omega)
  have c4 := hcell 1 (by omega)
  rw [show turnF 8 0 = .int .i64 512 from HFP.out] at c3
  rw [show turnF 8 1 = .int .i64 1023 from HFU.out] at c4
  clear H1 Hz hcell HB1 HB2
  have hE := fun w => eq_turn w 512 1023
  have y1 : IntKind.i64.wrap 512 = 512 := by decide
  generalize w2.alloc (.cells (rowN 16 (turnF 8)) 26) = w3 at *
  generalize w1.heap.size = g1 at *
  generalize w2.heap.size = g2 at *
  refine wp_region_still_tail 36 (by kernel_rfl) (by kernel_rfl) ?_
  simp only [List.take_succ_cons, List.take_zero, List.drop_succ_cons, List.drop_zero]
  iterate 36 (with_reducible refine wpStill_step (fun K hK => ?_); go_simp; with_reducible refine hK _ ?_; clear hK K)
  with_reducible refine wpStill_nil ?_
  change wpList _ _ _ _ _ w3.drew
  go_wp2_with fail
  refine hA.out.mono ?_
  rintro e w4 ⟨rfl, ho4⟩
  have H4 := Lib.hid ho4
  clear ho4
  go_wp2
  go_ret
  exact ⟨rfl, (Old.drew HO3.out).trans H4.out⟩

theorem walk (k : Int) (w : World) :
    Calls Try.prog 3 #[.int .i64 k] w fun e w' => e = .returned (.bool true) ∧ Old w w' := by
  by_cases h : k < 0 ∨ 7 < k
  · exact no k w h
  · obtain ⟨j, rfl⟩ : ∃ j : Nat, k = j := ⟨k.toNat, by omega⟩
    by_cases h0 : j = 0
    · subst h0; exact zero w
    · exact yes j w (by omega) h0

theorem own : ownKnob Try.prog.godebug = none := by kernel_rfl
theorem laidOut : laidOutB Try.prog = true := by kernel_rfl

set_option maxRecDepth 100000 in
theorem lifted (os : Os) (started : os.Started) (H : Type) (enc : TypeId × Value → H) :
    ReturnsInHanded {} Try.checked os 3 .any (Rows.tableTurnsSpec.pre6 enc Try.prog Try.f3 Rows.tableTurnsRow.domain false) (Rows.tableTurnsSpec.post enc Try.prog Try.f3 false true false false) := by
  refine returnsInHanded_of_change (C := Try.checked) own started (by kernel_rfl) Try.func3
    (ChangeSpec.witness6 (enc := enc) (C := Try.checked) false ⟨#[], #[.int .i64 0], []⟩ 8 (by kernel_rfl) (by kernel_rfl) (by kernel_rfl) (by kernel_rfl)) ?_
  intro W base args ds gs before hval0 hW hcnd _
  have hval : ∀ (j : Nat) t v, Try.f3.params[j]? = some t → args[j]? = some v → Value.okWide Try.prog W .any base t v := hval0
  have hW' := hW
  have hlt : ∀ p ∈ before, p.block < W.heap.size := fun p hp => hW'.lt p hp
  obtain ⟨p, q, hA0, hV, rfl, hfz, hnd⟩ := hW
  have hA : DataW.TrodAll enc Try.prog W 0 (fun _ => true) true Try.f3.params.toList args.toList ds p := hA0
  rw [Try.params3] at hA hval
  obtain ⟨v0, vs0, d0, ds0, p0, q0, hargs, rfl, rfl, h0, r0⟩ := trodAll_cons hA
  obtain ⟨rfl, rfl, rfl⟩ := trodAll_nil r0
  obtain rfl : args = #[v0] := by cases args; simp_all
  obtain ⟨rfl, rfl⟩ := trodVars_none hV
  obtain ⟨a0, rfl, _, _, w0⟩ := open_int Try.underlying3 (hval 0 3 v0 rfl rfl) h0
  refine (walk a0 W).mono fun e W' ⟨he, hg⟩ => ?_
  subst he
  exact ⟨_, rfl, law_done laidOut Try.underlying4 rfl (by kernel_rfl) rfl hW' rfl hg⟩

theorem over : Rows.tableTurnsRow.holds Try.pinned (OpenSpec.ofChange Rows.tableTurnsSpec) :=
  OpenClaim.holds_of_wide 3 Try.f3 rfl rfl rfl rfl rfl rfl rfl ⟨rfl, rfl, rfl, rfl, rfl⟩ rfl rfl rfl rfl rfl (by kernel_rfl) Try.func3 (by kernel_rfl)
    (of_decide_eq_true (by kernel_rfl)) (by unfold Func.isWrapper; first | (rw [if_pos (by decide +kernel)]; kernel_rfl) | (rw [if_neg (by decide +kernel)]; exact ⟨rfl, rfl⟩))
    (fun os started H enc _ => lifted os started H enc)

theorem proved : Rows.TableTurnsSaid :=
  over
end Go.Proofs.Ytfgmfbafiailoaa.tableTurns
