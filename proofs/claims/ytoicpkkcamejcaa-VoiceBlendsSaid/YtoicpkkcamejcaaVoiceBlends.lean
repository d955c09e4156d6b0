/- VoiceBlends: any four samples from -2^20 to 2^20 at any phase are blended as the document blends them, and the phase of any place from 0 on is its five highest bits behind the point; the example holds. No condition. -/
import Derived.Test.YtoicpkkcamejcaaRows
import Derived.Test.YtoicpkkcamejcaaVoiceA
import Derived.Deep.RegionHeld
namespace Go.Proofs.Ytoicpkkcamejcaa.voiceBlends
open Go.ChangeShapes Go.WideShapes Go.ChangeAt Go.RowKit
set_option linter.unusedVariables false
set_option linter.unusedSimpArgs false

set_option maxRecDepth 100000 in
set_option maxHeartbeats 4000000 in
theorem walk (X : Nat → Int) (q v : Int) (w : World) (h1 : v ≤ 9223372036854775807) :
    Calls Try.prog 3 #[.agg (rowN 4 (blk X)), .int .i64 q, .int .i64 v] w fun e w' => e = .returned (.bool true) ∧ Old w w' := by
  have Hs4 : Hid ((Try.prog.info? 22).map (·.size) = some 4) := Lib.hid (by kernel_rfl)
  have HA := Lib.hid (fun w => awake21_any w)
  have HB := Lib.hid (fun h w => Blend_any X q w h)
  have HL := Lib.hid (fun h w => lawBlend_any X q w h)
  generalize blendI X q = r at *
  have hrr : (r == r) = true := by simp
  have HRR := Lib.hid hrr
  clear hrr
  obtain ⟨W, hW⟩ : ∃ W, W = w.alloc (.cells (rowN 4 (blk X)) 22) := ⟨_, rfl⟩
  obtain ⟨g, hg⟩ : ∃ g, g = w.heap.size := ⟨_, rfl⟩
  have HC : Hid (W.heap[g]? = some (.cells (rowN 4 (blk X)) 22 (0, 0))) := Lib.hid (by rw [hW, hg]; exact heap_alloc_new _ _)
  have HO : Hid (Old w W) := Lib.hid (by rw [hW]; exact Old.alloc _ _)
  have HK : Hid (∀ V, Old W.drew V → V.heap[g]? = some (.cells (rowN 4 (blk X)) 22 (0, 0))) := Lib.hid fun V hV => (((Old.refl W).drew.trans hV).block _ (lt_of_block HC.out)).trans HC.out
  have HC1 : Hid (∀ k, k < 4 → W.cell? ⟨g, k, none⟩ = some (.int .i64 (X k))) := Lib.hid fun k hk => (cell_of_row _ _ _ _ _ _ HC.out).trans (blk_at 4 X k hk)
  have HW := Lib.hid hW
  have HG := Lib.hid hg
  clear hW hg HC
  go_enter Try.func3, Try.ntmps3
  go_wp2_with fail
  rw [← HW.out, ← HG.out]
  clear HW HG
  go_loop [7] (fun i => ∃ k : Nat, k ≤ 4 ∧ i = .int .i64 k ∧ Hid (∀ j, j < k → -1048576 ≤ X j ∧ X j ≤ 1048576)) (fun i => 4 - (intOf i).toNat)
  case atStart => exact ⟨0, by omega, rfl, Lib.hid fun j hj => by omega⟩
  case round =>
    obtain ⟨k, hk, rfl, hJ⟩ := hrel
    by_cases hlt : k < 4
    · have i1 : (0 : Int) ≤ k := by omega
      have i2 : (k : Int) < 4 := by omega
      have hc := HC1.out k hlt
      have HN : Hid (-1048576 ≤ X k → X k ≤ 1048576 → ∀ j, j < k + 1 → -1048576 ≤ X j ∧ X j ≤ 1048576) := Lib.hid fun e1 e2 j hj => by
        rcases Nat.lt_succ_iff_lt_or_eq.1 hj with h | rfl
        · exact hJ.out j h
        · exact ⟨e1, e2⟩
      clear hJ HC1 HK HB HL
      generalize X k = x at *
      by_cases e1 : x < -1048576
      · go_wp2_with fail
        refine (HA.out _).mono ?_
        rintro e w1 ⟨rfl, ho⟩
        have HO1 := Lib.hid (HO.out.trans ho)
        clear ho
        go_wp2_with fail
        go_ret
        exact ⟨rfl, HO1.out⟩
      have e1' : -1048576 ≤ x := by omega
      clear e1
      by_cases e2 : 1048576 < x
      · go_wp2_with fail
        refine (HA.out _).mono ?_
        rintro e w1 ⟨rfl, ho⟩
        have HO1 := Lib.hid (HO.out.trans ho)
        clear ho
        go_wp2_with fail
        go_ret
        exact ⟨rfl, HO1.out⟩
      have e2' : x ≤ 1048576 := by omega
      clear e2
      have HD := Lib.hid (HN.out e1' e2')
      clear HN
      go_wp2_with fail
      go_round
      case rel => exact ⟨k + 1, by omega, by go_num, HD⟩
      case measure => simp [intOf]; omega
    · obtain rfl : k = 4 := by omega
      have HB1 := Lib.hid (HB.out hJ.out)
      have HL1 := Lib.hid (HL.out hJ.out)
      clear hlt hk HC1 HB HL hJ
      by_cases h0 : 0 ≤ v
      · have HP := Lib.hid (fun w => Phase_any v w h0 h1)
        obtain ⟨a, ha⟩ : ∃ a, v / 134217728 = a := ⟨_, rfl⟩
        have a0 : 0 ≤ a := by omega
        have a1 : a ≤ 68719476735 := by omega
        have ebb : (a % 32 != a % 32) = false := by simp
        have e1 : wrap64 (v.tdiv 134217728) = a := by rw [Int.tdiv_eq_ediv_of_nonneg h0, ha]; exact IntWalk.wrap64_in _ (by omega)
        have e2 : wrap64 (a.tmod 32) = a % 32 := by rw [Int.tmod_eq_emod_of_nonneg a0]; exact IntWalk.wrap64_in _ (by omega)
        have e3 : IntKind.i64.wrap (v.tdiv 134217728) = a := by rw [Int.tdiv_eq_ediv_of_nonneg h0, ha]; exact IntWalk.i64_in _ (by omega)
        have e4 : IntKind.i64.wrap (a.tmod 32) = a % 32 := by rw [Int.tmod_eq_emod_of_nonneg a0]; exact IntWalk.i64_in _ (by omega)
        rw [ha] at HP
        clear ha h1
        go_wp2_with fail
        refine (HP.out _).mono ?_
        rintro e w1 ⟨rfl, rfl⟩
        go_wp2_with fail
        clear e1 e2 e3 e4 HP ebb a0 a1 h0
        refine wp_region_held_drew (S := (fun V => V.heap[g]? = some (.cells (rowN 4 (blk X)) 22 (0, 0)))) (by kernel_rfl) ?_ (fun hHeld => ?_)
        · (try dsimp only); exact HK.out _ (Old.refl _)
        refine wpAnyH_take (i := 0) (oi := ⟨some _, _, _, _, _, _⟩) (v := (.agg (rowN 4 (blk X)))) rfl (by kernel_rfl) (by kernel_rfl) (by kernel_rfl) (fun _ _ _ h => h) (yieldsIf_load_row (by kernel_rfl) 22 (.tmp 3) rfl g rfl 22 (rowN 4 (blk X)) (0, 0) _ (fun _ h => h) Try.underlying22 rfl (by rw [rowN_size]; exact Hs4.out)) (by assumption) ?_; try simp only [Act.put, List.setIfInBounds_toArray, List.set_cons_zero, List.set_cons_succ]
        refine wpAnyH_take (i := 3) (oi := ⟨some _, _, _, _, _, _⟩) (v := (.agg (rowN 4 (blk X)))) rfl (by kernel_rfl) (by kernel_rfl) (by kernel_rfl) (fun _ _ _ h => h) (yieldsIf_load_row (by kernel_rfl) 22 (.tmp 3) rfl g rfl 22 (rowN 4 (blk X)) (0, 0) _ (fun _ h => h) Try.underlying22 rfl (by rw [rowN_size]; exact Hs4.out)) (by assumption) ?_; try simp only [Act.put, List.setIfInBounds_toArray, List.set_cons_zero, List.set_cons_succ]
        refine wpAnyH_take (i := 1) (oi := ⟨some _, _, _, _, _, _⟩) (v := ?_) rfl (by kernel_rfl) (by kernel_rfl) (by kernel_rfl) (fun _ _ _ h => h) (Or.inl ⟨by kernel_rfl, ?_⟩) (by assumption) ?_; rotate_left; (intro w hSw; (try dsimp only at hSw); go_simp; try with_reducible rfl); try simp only [Act.put, List.setIfInBounds_toArray, List.set_cons_zero, List.set_cons_succ]
        refine wpAnyH_take (i := 4) (oi := ⟨some _, _, _, _, _, _⟩) (v := ?_) rfl (by kernel_rfl) (by kernel_rfl) (by kernel_rfl) (fun _ _ _ h => h) (Or.inl ⟨by kernel_rfl, ?_⟩) (by assumption) ?_; rotate_left; (intro w hSw; (try dsimp only at hSw); go_simp; try with_reducible rfl); try simp only [Act.put, List.setIfInBounds_toArray, List.set_cons_zero, List.set_cons_succ]
        refine wpAnyH_ready (rs := [2]) (by kernel_rfl) (by simp) ?_
        refine AllReadyH.cons (o := ⟨_, _, _, _, _, _⟩) (by rfl) ?_ AllReadyH.nil
        intro K hK
        go_simp
        refine (HB1.out _).mono ?_
        rintro e V ⟨rfl, hV⟩
        refine hK.out _ _ ?_ (fun hHeld => ?_)
        · (try dsimp only); exact HK.out _ hV
        clear hK K
        try simp only [Act.put, List.setIfInBounds_toArray, List.set_cons_zero, List.set_cons_succ]
        refine wpAnyH_ready (rs := [5]) (by kernel_rfl) (by simp) ?_
        refine AllReadyH.cons (o := ⟨_, _, _, _, _, _⟩) (by rfl) ?_ AllReadyH.nil
        intro K hK
        go_simp
        refine (HL1.out _).mono ?_
        rintro e U ⟨rfl, hU⟩
        refine hK.out _ _ ?_ (fun hHeld => ?_)
        · (try dsimp only); exact HK.out _ (hV.trans hU)
        clear hK K
        try simp only [Act.put, List.setIfInBounds_toArray, List.set_cons_zero, List.set_cons_succ]
        have hrr := HRR.out
        refine wpAnyH_take (i := 6) (oi := ⟨some _, _, _, _, _, _⟩) (v := ?_) rfl (by kernel_rfl) (by kernel_rfl) (by kernel_rfl) (fun _ _ _ h => h) (Or.inl ⟨by kernel_rfl, ?_⟩) (by assumption) ?_; rotate_left; (intro w hSw; (try dsimp only at hSw); go_simp; try with_reducible rfl); try simp only [Act.put, List.setIfInBounds_toArray, List.set_cons_zero, List.set_cons_succ]
        refine wpAnyH_take (i := 7) (oi := ⟨some _, _, _, _, _, _⟩) (v := ?_) rfl (by kernel_rfl) (by kernel_rfl) (by kernel_rfl) (fun _ _ _ h => h) (Or.inl ⟨by kernel_rfl, ?_⟩) (by assumption) ?_; rotate_left; (intro w hSw; (try dsimp only at hSw); go_simp; try with_reducible rfl); try simp only [Act.put, List.setIfInBounds_toArray, List.set_cons_zero, List.set_cons_succ]
        refine wpAnyH_ready (rs := [8]) (by kernel_rfl) (by simp) ?_
        refine AllReadyH.cons (o := ⟨_, _, _, _, _, _⟩) (by rfl) ?_ AllReadyH.nil
        intro K hK
        go_simp
        refine (HA.out _).mono ?_
        rintro e Y ⟨rfl, hY⟩
        refine hK.out _ _ ?_ (fun hHeld => ?_)
        · (try dsimp only); exact HK.out _ ((hV.trans hU).trans hY)
        clear hK K
        try simp only [Act.put, List.setIfInBounds_toArray, List.set_cons_zero, List.set_cons_succ]
        refine wpAnyH_take (i := 9) (oi := ⟨some _, _, _, _, _, _⟩) (v := ?_) rfl (by kernel_rfl) (by kernel_rfl) (by kernel_rfl) (fun _ _ _ h => h) (Or.inl ⟨by kernel_rfl, ?_⟩) (by assumption) ?_; rotate_left; (intro w hSw; (try dsimp only at hSw); go_simp; try with_reducible rfl); try simp only [Act.put, List.setIfInBounds_toArray, List.set_cons_zero, List.set_cons_succ]
        refine wpAnyH_take (i := 10) (oi := ⟨some _, _, _, _, _, _⟩) (v := ?_) rfl (by kernel_rfl) (by kernel_rfl) (by kernel_rfl) (fun _ _ _ h => h) (Or.inl ⟨by kernel_rfl, ?_⟩) (by assumption) ?_; rotate_left; (intro w hSw; (try dsimp only at hSw); go_simp; try with_reducible rfl); try simp only [Act.put, List.setIfInBounds_toArray, List.set_cons_zero, List.set_cons_succ]
        refine wpAnyH_done (by kernel_rfl) ?_ _
        have HF := Lib.hid (((HO.out.drew.trans hV).trans hU).trans hY)
        clear hV hU hY
        go_wp2_with fail
        go_ret
        exact ⟨rfl, HF.out⟩
      · have h0' : v < 0 := by omega
        clear h0 h1
        go_wp2_with fail
        clear h0'
        refine wp_region_held_drew (S := (fun V => V.heap[g]? = some (.cells (rowN 4 (blk X)) 22 (0, 0)))) (by kernel_rfl) ?_ (fun hHeld => ?_)
        · (try dsimp only); exact HK.out _ (Old.refl _)
        refine wpAnyH_take (i := 0) (oi := ⟨some _, _, _, _, _, _⟩) (v := (.agg (rowN 4 (blk X)))) rfl (by kernel_rfl) (by kernel_rfl) (by kernel_rfl) (fun _ _ _ h => h) (yieldsIf_load_row (by kernel_rfl) 22 (.tmp 3) rfl g rfl 22 (rowN 4 (blk X)) (0, 0) _ (fun _ h => h) Try.underlying22 rfl (by rw [rowN_size]; exact Hs4.out)) (by assumption) ?_; try simp only [Act.put, List.setIfInBounds_toArray, List.set_cons_zero, List.set_cons_succ]
        refine wpAnyH_take (i := 3) (oi := ⟨some _, _, _, _, _, _⟩) (v := (.agg (rowN 4 (blk X)))) rfl (by kernel_rfl) (by kernel_rfl) (by kernel_rfl) (fun _ _ _ h => h) (yieldsIf_load_row (by kernel_rfl) 22 (.tmp 3) rfl g rfl 22 (rowN 4 (blk X)) (0, 0) _ (fun _ h => h) Try.underlying22 rfl (by rw [rowN_size]; exact Hs4.out)) (by assumption) ?_; try simp only [Act.put, List.setIfInBounds_toArray, List.set_cons_zero, List.set_cons_succ]
        refine wpAnyH_take (i := 1) (oi := ⟨some _, _, _, _, _, _⟩) (v := ?_) rfl (by kernel_rfl) (by kernel_rfl) (by kernel_rfl) (fun _ _ _ h => h) (Or.inl ⟨by kernel_rfl, ?_⟩) (by assumption) ?_; rotate_left; (intro w hSw; (try dsimp only at hSw); go_simp; try with_reducible rfl); try simp only [Act.put, List.setIfInBounds_toArray, List.set_cons_zero, List.set_cons_succ]
        refine wpAnyH_take (i := 4) (oi := ⟨some _, _, _, _, _, _⟩) (v := ?_) rfl (by kernel_rfl) (by kernel_rfl) (by kernel_rfl) (fun _ _ _ h => h) (Or.inl ⟨by kernel_rfl, ?_⟩) (by assumption) ?_; rotate_left; (intro w hSw; (try dsimp only at hSw); go_simp; try with_reducible rfl); try simp only [Act.put, List.setIfInBounds_toArray, List.set_cons_zero, List.set_cons_succ]
        refine wpAnyH_ready (rs := [2]) (by kernel_rfl) (by simp) ?_
        refine AllReadyH.cons (o := ⟨_, _, _, _, _, _⟩) (by rfl) ?_ AllReadyH.nil
        intro K hK
        go_simp
        refine (HB1.out _).mono ?_
        rintro e V ⟨rfl, hV⟩
        refine hK.out _ _ ?_ (fun hHeld => ?_)
        · (try dsimp only); exact HK.out _ hV
        clear hK K
        try simp only [Act.put, List.setIfInBounds_toArray, List.set_cons_zero, List.set_cons_succ]
        refine wpAnyH_ready (rs := [5]) (by kernel_rfl) (by simp) ?_
        refine AllReadyH.cons (o := ⟨_, _, _, _, _, _⟩) (by rfl) ?_ AllReadyH.nil
        intro K hK
        go_simp
        refine (HL1.out _).mono ?_
        rintro e U ⟨rfl, hU⟩
        refine hK.out _ _ ?_ (fun hHeld => ?_)
        · (try dsimp only); exact HK.out _ (hV.trans hU)
        clear hK K
        try simp only [Act.put, List.setIfInBounds_toArray, List.set_cons_zero, List.set_cons_succ]
        have hrr := HRR.out
        refine wpAnyH_take (i := 6) (oi := ⟨some _, _, _, _, _, _⟩) (v := ?_) rfl (by kernel_rfl) (by kernel_rfl) (by kernel_rfl) (fun _ _ _ h => h) (Or.inl ⟨by kernel_rfl, ?_⟩) (by assumption) ?_; rotate_left; (intro w hSw; (try dsimp only at hSw); go_simp; try with_reducible rfl); try simp only [Act.put, List.setIfInBounds_toArray, List.set_cons_zero, List.set_cons_succ]
        refine wpAnyH_take (i := 7) (oi := ⟨some _, _, _, _, _, _⟩) (v := ?_) rfl (by kernel_rfl) (by kernel_rfl) (by kernel_rfl) (fun _ _ _ h => h) (Or.inl ⟨by kernel_rfl, ?_⟩) (by assumption) ?_; rotate_left; (intro w hSw; (try dsimp only at hSw); go_simp; try with_reducible rfl); try simp only [Act.put, List.setIfInBounds_toArray, List.set_cons_zero, List.set_cons_succ]
        refine wpAnyH_ready (rs := [8]) (by kernel_rfl) (by simp) ?_
        refine AllReadyH.cons (o := ⟨_, _, _, _, _, _⟩) (by rfl) ?_ AllReadyH.nil
        intro K hK
        go_simp
        refine (HA.out _).mono ?_
        rintro e Y ⟨rfl, hY⟩
        refine hK.out _ _ ?_ (fun hHeld => ?_)
        · (try dsimp only); exact HK.out _ ((hV.trans hU).trans hY)
        clear hK K
        try simp only [Act.put, List.setIfInBounds_toArray, List.set_cons_zero, List.set_cons_succ]
        refine wpAnyH_take (i := 9) (oi := ⟨some _, _, _, _, _, _⟩) (v := ?_) rfl (by kernel_rfl) (by kernel_rfl) (by kernel_rfl) (fun _ _ _ h => h) (Or.inl ⟨by kernel_rfl, ?_⟩) (by assumption) ?_; rotate_left; (intro w hSw; (try dsimp only at hSw); go_simp; try with_reducible rfl); try simp only [Act.put, List.setIfInBounds_toArray, List.set_cons_zero, List.set_cons_succ]
        refine wpAnyH_take (i := 10) (oi := ⟨some _, _, _, _, _, _⟩) (v := ?_) rfl (by kernel_rfl) (by kernel_rfl) (by kernel_rfl) (fun _ _ _ h => h) (Or.inl ⟨by kernel_rfl, ?_⟩) (by assumption) ?_; rotate_left; (intro w hSw; (try dsimp only at hSw); go_simp; try with_reducible rfl); try simp only [Act.put, List.setIfInBounds_toArray, List.set_cons_zero, List.set_cons_succ]
        refine wpAnyH_done (by kernel_rfl) ?_ _
        have HF := Lib.hid (((HO.out.drew.trans hV).trans hU).trans hY)
        clear hV hU hY
        go_wp2_with fail
        go_ret
        exact ⟨rfl, HF.out⟩


theorem own : ownKnob Try.prog.godebug = none := by kernel_rfl
theorem laidOut : laidOutB Try.prog = true := by kernel_rfl

set_option maxRecDepth 100000 in
theorem lifted (os : Os) (started : os.Started) (H : Type) (enc : TypeId × Value → H) :
    ReturnsInHanded {} Try.checked os 3 .any (Rows.voiceBlendsSpec.pre6 enc Try.prog Try.f3 Rows.voiceBlendsRow.domain false) (Rows.voiceBlendsSpec.post enc Try.prog Try.f3 false true false false) := by
  refine returnsInHanded_of_change (C := Try.checked) own started (by kernel_rfl) Try.func3
    (ChangeSpec.witness6 (enc := enc) (C := Try.checked) false ⟨#[], #[.agg #[.int .i64 0, .int .i64 0, .int .i64 0, .int .i64 0], .int .i64 0, .int .i64 0], []⟩ 8 (by kernel_rfl) (by kernel_rfl) (by kernel_rfl) (by kernel_rfl)) ?_
  intro W base args ds gs before hval0 hW hcnd _
  have hval : ∀ (j : Nat) t v, Try.f3.params[j]? = some t → args[j]? = some v → Value.okWide Try.prog W .any base t v := hval0
  have hW' := hW
  have hlt : ∀ p ∈ before, p.block < W.heap.size := fun p hp => hW'.lt p hp
  obtain ⟨p, q, hA0, hV, rfl, hfz, hnd⟩ := hW
  have hA : DataW.TrodAll enc Try.prog W 0 (fun _ => true) true Try.f3.params.toList args.toList ds p := hA0
  rw [Try.params3] at hA hval
  obtain ⟨v0, vs0, d0, ds0, p0, q0, hargs, rfl, rfl, h0, r0⟩ := trodAll_cons hA
  obtain ⟨v1, vs1, d1, ds1, p1, q1, rfl, rfl, rfl, h1, r1⟩ := trodAll_cons r0
  obtain ⟨v2, vs2, d2, ds2, p2, q2, rfl, rfl, rfl, h2, r2⟩ := trodAll_cons r1
  obtain ⟨rfl, rfl, rfl⟩ := trodAll_nil r2
  obtain rfl : args = #[v0, v1, v2] := by cases args; simp_all
  obtain ⟨rfl, rfl⟩ := trodVars_none hV
  obtain ⟨f0, rfl, hf0, hz0⟩ := open_ints64 Try.underlying22 Try.underlying3 (by kernel_rfl) (by kernel_rfl) (hval 0 22 v0 rfl rfl) h0
  obtain ⟨a1, rfl, _, _, w1⟩ := open_int Try.underlying3 (hval 1 3 v1 rfl rfl) h1
  obtain ⟨a2, rfl, _, _, w2⟩ := open_int Try.underlying2 (hval 2 2 v2 rfl rfl) h2
  refine (walk f0 a1 a2 W (i64_of w2).2).mono fun e W' ⟨he, hg⟩ => ?_
  subst he
  exact ⟨_, rfl, law_done laidOut Try.underlying4 rfl (by kernel_rfl) rfl hW' rfl hg⟩

theorem over : Rows.voiceBlendsRow.holds Try.pinned (OpenSpec.ofChange Rows.voiceBlendsSpec) :=
  OpenClaim.holds_of_wide 3 Try.f3 rfl rfl rfl rfl rfl rfl rfl ⟨rfl, rfl, rfl, rfl, rfl⟩ rfl rfl rfl rfl rfl (by kernel_rfl) Try.func3 (by kernel_rfl)
    (of_decide_eq_true (by kernel_rfl)) (by unfold Func.isWrapper; first | (rw [if_pos (by decide +kernel)]; kernel_rfl) | (rw [if_neg (by decide +kernel)]; exact ⟨rfl, rfl⟩))
    (fun os started H enc _ => lifted os started H enc)

theorem proved : Rows.VoiceBlendsSaid :=
  over
end Go.Proofs.Ytoicpkkcamejcaa.voiceBlends
