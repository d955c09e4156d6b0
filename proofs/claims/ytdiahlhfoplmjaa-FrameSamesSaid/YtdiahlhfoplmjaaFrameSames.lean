/- FrameSames: which frames are the same. -/
import Derived.Test.YtdiahlhfoplmjaaRows
import Derived.Test.YtdiahlhfoplmjaaAwake
import Derived.Test.YtdiahlhfoplmjaaFew
import Derived.Test.YtdiahlhfoplmjaaSameW
import Derived.Test.YtdiahlhfoplmjaaFrArg
import Derived.Deep.RegionHeld
namespace Go.Proofs.Ytdiahlhfoplmjaa.frameSames
open Go.ChangeShapes Go.WideShapes Go.ChangeAt Go.RowKit
set_option linter.unusedVariables false

set_option maxRecDepth 100000 in
set_option maxHeartbeats 4000000 in
theorem walk (F G : Nat → Int) (p q : Option Addr) (n m c c' : Nat) (T U : Nat → Int) (w : World) (hT : SlF 2 w p n T) (hU : SlF 2 w q m U) (hn : n ≤ c) (hc : c ≤ maxLen) (hm : m ≤ c') (hc' : c' ≤ maxLen) :
    Calls Try.prog 6 #[.agg (rowN 29 (frC F (.slice p n c))), .agg (rowN 29 (frC G (.slice q m c')))] w fun e w' => e = .returned (.bool true) ∧ Old w w' := by
  have Hs29 : Hid ((Try.prog.info? 27).map (·.size) = some 29) := Lib.hid (by kernel_rfl)
  have h0 := two_frames 27 w F G (.slice p n c) (.slice q m c')
  have HA := Lib.hid h0.1
  have HB := Lib.hid h0.2.1
  have HO := Lib.hid h0.2.2
  have HFa := Lib.hid (fun w => Few_any F p n c w hn hc)
  have HFb := Lib.hid (fun w => Few_any G q m c' w hm hc')
  have HAw := Lib.hid (fun w => awake_any w)
  have hn5 : min n 5 ≤ maxLen := by unfold maxLen at hc ⊢; omega
  have hm5 : min m 5 ≤ maxLen := by unfold maxLen at hc' ⊢; omega
  have HS1 := Lib.hid (fun (W : World) (h : Old w W) => Same_any F G p q (min n 5) (min m 5) c c' T U W ((hT.old h).less (by omega)) ((hU.old h).less (by omega)) hn5 hm5)
  have HS2 := Lib.hid (fun (W : World) (h : Old w W) => same_any F G p q (min n 5) (min m 5) c c' T U W ((hT.old h).less (by omega)) ((hU.old h).less (by omega)) hn5 hm5)
  have hsm := fun (W : World) (h : Old w W) => Same_any F F p p (min n 5) (min n 5) c c T T W ((hT.old h).less (by omega)) ((hT.old h).less (by omega)) hn5 hn5
  rw [show decide (sameP F (min n 5) T F (min n 5) T) = true from decide_eq_true ⟨rfl, fun _ _ => rfl, fun _ _ _ => rfl⟩] at hsm
  have HSm := Lib.hid hsm
  have H1a : Hid ((rowN 29 (frC F (.slice p (min n 5) c))).all (·.oneCell') = true) := Lib.hid (frC_one _ _ rfl)
  have H1b : Hid ((rowN 29 (frC G (.slice q (min m 5) c'))).all (·.oneCell') = true) := Lib.hid (frC_one _ _ rfl)
  generalize decide (sameP F (min n 5) T G (min m 5) U) = x at *
  clear h0 hT hU hn hc hm hc' hn5 hm5 hsm
  go_enter Try.func6, Try.ntmps6
  go_wp2_with (with_reducible refine wpList_load_row rfl 27 _ rfl w.heap.size rfl 27 (rowN 29 (frC F (.slice p n c))) (0, 0) _ HA.out.blk Try.underlying27 rfl (by rw [rowN_size]; exact Hs29.out) ?_)
  refine (HFa.out _).mono ?_
  rintro e w1 ⟨rfl, ho1⟩
  have HA1 := Lib.hid (HA.out.old ho1)
  have HB1 := Lib.hid ((HB.out.old ho1).rowOther (c := w.heap.size) (by omega) (rowN 29 (frC F (.slice p (min n 5) c))))
  have hr1 := row_ret HA1.out.blk (HO.out.trans ho1) (Nat.le_refl _) (rowN 29 (frC F (.slice p (min n 5) c)))
  have HR1 := Lib.hid hr1
  clear ho1 hr1 HA HB HO HFa
  go_wp2_with (first | (with_reducible refine wpList_store_row rfl 27 _ _ rfl w.heap.size (rowN 29 (frC F (.slice p (min n 5) c))) rfl rfl 27 _ HA1.out.blk (by rw [rowN_size]; exact Hs29.out) (by rw [rowN_size, rowN_size]) H1a.out ?_) | (with_reducible refine wpList_load_row rfl 27 _ rfl (w.heap.size + 1) rfl 27 (rowN 29 (frC G (.slice q m c'))) (0, 0) _ HB1.out.blk Try.underlying27 rfl (by rw [rowN_size]; exact Hs29.out) ?_))
  refine (HFb.out _).mono ?_
  rintro e w2 ⟨rfl, ho2⟩
  have HB2 := Lib.hid (HB1.out.old ho2)
  have ha2 : FrB 27 w2 w.heap.size F (.slice p (min n 5) c) := FrB.old HR1.out.1 ho2
  have hr2 := row_ret HB2.out.blk (HR1.out.2.trans ho2) (Nat.le_succ _) (rowN 29 (frC G (.slice q (min m 5) c')))
  have ha3 := ha2.rowOther (c := w.heap.size + 1) (by omega) (rowN 29 (frC G (.slice q (min m 5) c')))
  have hb3 := HB2.out.row G (.slice q (min m 5) c')
  have HA3 := Lib.hid ha3
  have HB3 := Lib.hid hb3
  have HO3 := Lib.hid hr2.2
  clear ho2 ha2 hr2 ha3 hb3 HR1 HB1 HA1 HFb
  obtain ⟨V, hV⟩ : ∃ V, V = w2.setRow (w.heap.size + 1) (rowN 29 (frC G (.slice q (min m 5) c'))) := ⟨_, rfl⟩
  go_wp2_with (with_reducible refine wpList_store_row rfl 27 _ _ rfl (w.heap.size + 1) (rowN 29 (frC G (.slice q (min m 5) c'))) rfl rfl 27 _ HB2.out.blk (by rw [rowN_size]; exact Hs29.out) (by rw [rowN_size, rowN_size]) H1b.out ?_)
  rw [← hV] at HA3 HB3 HO3 ⊢
  have HK : Hid (∀ W, Old V W → FrB 27 W w.heap.size F (.slice p (min n 5) c) ∧ FrB 27 W (w.heap.size + 1) G (.slice q (min m 5) c')) := Lib.hid fun W h => ⟨HA3.out.old h, HB3.out.old h⟩
  have HOv := HO3
  clear hV HB2 HA3 HB3 HO3 H1a H1b
  generalize hbb : w.heap.size + 1 = bb at HK ⊢
  generalize hba : w.heap.size = ba at HK ⊢
  clear hba hbb
  refine wp_region_held_drew (S := (fun w' => FrB 27 w' ba F (.slice p (min n 5) c) ∧ FrB 27 w' bb G (.slice q (min m 5) c'))) (by kernel_rfl) ?_ (fun hHeld => ?_)
  · (try dsimp only); exact HK.out _ ((Old.refl V).drew)
  refine wpAnyH_take (i := 0) (oi := ⟨some _, _, _, _, _, _⟩) (v := .agg (rowN 29 (frC F (.slice p (min n 5) c)))) rfl (by kernel_rfl) (by kernel_rfl) (by kernel_rfl) (fun _ _ _ h => h) (yieldsIf_load_row (by kernel_rfl) 27 (.tmp 2) rfl ba rfl 27 (rowN 29 (frC F (.slice p (min n 5) c))) (0, 0) _ (fun _ h => h.1.blk) Try.underlying27 rfl (by rw [rowN_size]; exact Hs29.out)) (by assumption) ?_; try simp only [Act.put, List.setIfInBounds_toArray, List.set_cons_zero, List.set_cons_succ]
  refine wpAnyH_take (i := 1) (oi := ⟨some _, _, _, _, _, _⟩) (v := .agg (rowN 29 (frC G (.slice q (min m 5) c')))) rfl (by kernel_rfl) (by kernel_rfl) (by kernel_rfl) (fun _ _ _ h => h) (yieldsIf_load_row (by kernel_rfl) 27 (.tmp 3) rfl bb rfl 27 (rowN 29 (frC G (.slice q (min m 5) c'))) (0, 0) _ (fun _ h => h.2.blk) Try.underlying27 rfl (by rw [rowN_size]; exact Hs29.out)) (by assumption) ?_; try simp only [Act.put, List.setIfInBounds_toArray, List.set_cons_zero, List.set_cons_succ]
  refine wpAnyH_take (i := 3) (oi := ⟨some _, _, _, _, _, _⟩) (v := .agg (rowN 29 (frC F (.slice p (min n 5) c)))) rfl (by kernel_rfl) (by kernel_rfl) (by kernel_rfl) (fun _ _ _ h => h) (yieldsIf_load_row (by kernel_rfl) 27 (.tmp 2) rfl ba rfl 27 (rowN 29 (frC F (.slice p (min n 5) c))) (0, 0) _ (fun _ h => h.1.blk) Try.underlying27 rfl (by rw [rowN_size]; exact Hs29.out)) (by assumption) ?_; try simp only [Act.put, List.setIfInBounds_toArray, List.set_cons_zero, List.set_cons_succ]
  refine wpAnyH_take (i := 4) (oi := ⟨some _, _, _, _, _, _⟩) (v := .agg (rowN 29 (frC G (.slice q (min m 5) c')))) rfl (by kernel_rfl) (by kernel_rfl) (by kernel_rfl) (fun _ _ _ h => h) (yieldsIf_load_row (by kernel_rfl) 27 (.tmp 3) rfl bb rfl 27 (rowN 29 (frC G (.slice q (min m 5) c'))) (0, 0) _ (fun _ h => h.2.blk) Try.underlying27 rfl (by rw [rowN_size]; exact Hs29.out)) (by assumption) ?_; try simp only [Act.put, List.setIfInBounds_toArray, List.set_cons_zero, List.set_cons_succ]
  refine wpAnyH_ready (rs := [2]) (by kernel_rfl) (by simp) ?_
  refine AllReadyH.cons (o := ⟨_, _, _, _, _, _⟩) rfl (fun K hK => ?_) AllReadyH.nil
  go_simp
  refine (HS1.out _ (HOv.out.trans ((Old.refl V).drew))).mono ?_
  rintro e V1 ⟨rfl, o1⟩
  have o1' := ((Old.refl V).drew).trans o1
  go_wp2_with fail
  refine hK.out _ _ ?_ (fun hHeld => ?_)
  · (try dsimp only); exact HK.out _ o1'
  clear hK K
  try simp only [Act.put, List.setIfInBounds_toArray, List.set_cons_zero, List.set_cons_succ]
  refine wpAnyH_ready (rs := [5]) (by kernel_rfl) (by simp) ?_
  refine AllReadyH.cons (o := ⟨_, _, _, _, _, _⟩) rfl (fun K hK => ?_) AllReadyH.nil
  go_simp
  refine (HS2.out _ (HOv.out.trans o1')).mono ?_
  rintro e V2 ⟨rfl, o2⟩
  have o2' := o1'.trans o2
  go_wp2_with fail
  refine hK.out _ _ ?_ (fun hHeld => ?_)
  · (try dsimp only); exact HK.out _ o2'
  clear hK K
  try simp only [Act.put, List.setIfInBounds_toArray, List.set_cons_zero, List.set_cons_succ]
  refine wpAnyH_take (i := 6) (oi := ⟨some _, _, _, _, _, _⟩) (v := ?_) rfl (by kernel_rfl) (by kernel_rfl) (by kernel_rfl) (fun _ _ _ h => h) (Or.inl ⟨by kernel_rfl, ?_⟩) (by assumption) ?_; rotate_left; (intro w hSw; (try dsimp only at hSw); go_simp; try with_reducible rfl); try simp only [Act.put, List.setIfInBounds_toArray, List.set_cons_zero, List.set_cons_succ]
  refine wpAnyH_take (i := 7) (oi := ⟨some _, _, _, _, _, _⟩) (v := ?_) rfl (by kernel_rfl) (by kernel_rfl) (by kernel_rfl) (fun _ _ _ h => h) (Or.inl ⟨by kernel_rfl, ?_⟩) (by assumption) ?_; rotate_left; (intro w hSw; (try dsimp only at hSw); go_simp; try with_reducible rfl); try simp only [Act.put, List.setIfInBounds_toArray, List.set_cons_zero, List.set_cons_succ]
  refine wpAnyH_take (i := 8) (oi := ⟨some _, _, _, _, _, _⟩) (v := .agg (rowN 29 (frC F (.slice p (min n 5) c)))) rfl (by kernel_rfl) (by kernel_rfl) (by kernel_rfl) (fun _ _ _ h => h) (yieldsIf_load_row (by kernel_rfl) 27 (.tmp 2) rfl ba rfl 27 (rowN 29 (frC F (.slice p (min n 5) c))) (0, 0) _ (fun _ h => h.1.blk) Try.underlying27 rfl (by rw [rowN_size]; exact Hs29.out)) (by assumption) ?_; try simp only [Act.put, List.setIfInBounds_toArray, List.set_cons_zero, List.set_cons_succ]
  refine wpAnyH_take (i := 9) (oi := ⟨some _, _, _, _, _, _⟩) (v := .agg (rowN 29 (frC F (.slice p (min n 5) c)))) rfl (by kernel_rfl) (by kernel_rfl) (by kernel_rfl) (fun _ _ _ h => h) (yieldsIf_load_row (by kernel_rfl) 27 (.tmp 2) rfl ba rfl 27 (rowN 29 (frC F (.slice p (min n 5) c))) (0, 0) _ (fun _ h => h.1.blk) Try.underlying27 rfl (by rw [rowN_size]; exact Hs29.out)) (by assumption) ?_; try simp only [Act.put, List.setIfInBounds_toArray, List.set_cons_zero, List.set_cons_succ]
  refine wpAnyH_ready (rs := [10]) (by kernel_rfl) (by simp) ?_
  refine AllReadyH.cons (o := ⟨_, _, _, _, _, _⟩) rfl (fun K hK => ?_) AllReadyH.nil
  go_simp
  refine (HSm.out _ (HOv.out.trans o2')).mono ?_
  rintro e V3 ⟨rfl, o3⟩
  have o3' := o2'.trans o3
  go_wp2_with fail
  refine hK.out _ _ ?_ (fun hHeld => ?_)
  · (try dsimp only); exact HK.out _ o3'
  clear hK K
  try simp only [Act.put, List.setIfInBounds_toArray, List.set_cons_zero, List.set_cons_succ]
  refine wpAnyH_take (i := 11) (oi := ⟨some _, _, _, _, _, _⟩) (v := ?_) rfl (by kernel_rfl) (by kernel_rfl) (by kernel_rfl) (fun _ _ _ h => h) (Or.inl ⟨by kernel_rfl, ?_⟩) (by assumption) ?_; rotate_left; (intro w hSw; (try dsimp only at hSw); go_simp; try with_reducible rfl); try simp only [Act.put, List.setIfInBounds_toArray, List.set_cons_zero, List.set_cons_succ]
  refine wpAnyH_take (i := 12) (oi := ⟨some _, _, _, _, _, _⟩) (v := ?_) rfl (by kernel_rfl) (by kernel_rfl) (by kernel_rfl) (fun _ _ _ h => h) (Or.inl ⟨by kernel_rfl, ?_⟩) (by assumption) ?_; rotate_left; (intro w hSw; (try dsimp only at hSw); go_simp; try with_reducible rfl); try simp only [Act.put, List.setIfInBounds_toArray, List.set_cons_zero, List.set_cons_succ]
  refine wpAnyH_take (i := 13) (oi := ⟨some _, _, _, _, _, _⟩) (v := ?_) rfl (by kernel_rfl) (by kernel_rfl) (by kernel_rfl) (fun _ _ _ h => h) (Or.inl ⟨by kernel_rfl, ?_⟩) (by assumption) ?_; rotate_left; (intro w hSw; (try dsimp only at hSw); go_simp; try with_reducible rfl); try simp only [Act.put, List.setIfInBounds_toArray, List.set_cons_zero, List.set_cons_succ]
  refine wpAnyH_take (i := 14) (oi := ⟨some _, _, _, _, _, _⟩) (v := ?_) rfl (by kernel_rfl) (by kernel_rfl) (by kernel_rfl) (fun _ _ _ h => h) (Or.inl ⟨by kernel_rfl, ?_⟩) (by assumption) ?_; rotate_left; (intro w hSw; (try dsimp only at hSw); go_simp; try with_reducible rfl); try simp only [Act.put, List.setIfInBounds_toArray, List.set_cons_zero, List.set_cons_succ]
  refine wpAnyH_take (i := 15) (oi := ⟨some _, _, _, _, _, _⟩) (v := ?_) rfl (by kernel_rfl) (by kernel_rfl) (by kernel_rfl) (fun _ _ _ h => h) (Or.inl ⟨by kernel_rfl, ?_⟩) (by assumption) ?_; rotate_left; (intro w hSw; (try dsimp only at hSw); go_simp; try with_reducible rfl); try simp only [Act.put, List.setIfInBounds_toArray, List.set_cons_zero, List.set_cons_succ]
  refine wpAnyH_take (i := 16) (oi := ⟨some _, _, _, _, _, _⟩) (v := ?_) rfl (by kernel_rfl) (by kernel_rfl) (by kernel_rfl) (fun _ _ _ h => h) (Or.inl ⟨by kernel_rfl, ?_⟩) (by assumption) ?_; rotate_left; (intro w hSw; (try dsimp only at hSw); go_simp; try with_reducible rfl); try simp only [Act.put, List.setIfInBounds_toArray, List.set_cons_zero, List.set_cons_succ]
  refine wpAnyH_ready (rs := [17]) (by kernel_rfl) (by simp) ?_
  refine AllReadyH.cons (o := ⟨_, _, _, _, _, _⟩) rfl (fun K hK => ?_) AllReadyH.nil
  go_simp
  refine (HAw.out _).mono ?_
  rintro e V4 ⟨rfl, o4⟩
  have o4' := o3'.trans o4
  go_wp2_with fail
  refine hK.out _ _ ?_ (fun hHeld => ?_)
  · (try dsimp only); exact HK.out _ o4'
  clear hK K
  try simp only [Act.put, List.setIfInBounds_toArray, List.set_cons_zero, List.set_cons_succ]
  refine wpAnyH_take (i := 18) (oi := ⟨some _, _, _, _, _, _⟩) (v := ?_) rfl (by kernel_rfl) (by kernel_rfl) (by kernel_rfl) (fun _ _ _ h => h) (Or.inl ⟨by kernel_rfl, ?_⟩) (by assumption) ?_; rotate_left; (intro w hSw; (try dsimp only at hSw); go_simp; try with_reducible rfl); try simp only [Act.put, List.setIfInBounds_toArray, List.set_cons_zero, List.set_cons_succ]
  refine wpAnyH_take (i := 19) (oi := ⟨some _, _, _, _, _, _⟩) (v := ?_) rfl (by kernel_rfl) (by kernel_rfl) (by kernel_rfl) (fun _ _ _ h => h) (Or.inl ⟨by kernel_rfl, ?_⟩) (by assumption) ?_; rotate_left; (intro w hSw; (try dsimp only at hSw); go_simp; try with_reducible rfl); try simp only [Act.put, List.setIfInBounds_toArray, List.set_cons_zero, List.set_cons_succ]
  refine wpAnyH_done (by kernel_rfl) ?_ _
  have HO4 := Lib.hid (HOv.out.trans o4')
  clear HAw HSm HK HOv o4' o4 o3' o3
  go_wp2_with fail
  go_ret
  exact ⟨rfl, HO4.out⟩


theorem own : ownKnob Try.prog.godebug = none := by kernel_rfl
theorem laidOut : laidOutB Try.prog = true := by kernel_rfl

set_option maxRecDepth 100000 in
theorem lifted (os : Os) (started : os.Started) (H : Type) (enc : TypeId × Value → H) :
    ReturnsInHanded {} Try.checked os 6 .any (Rows.frameSamesSpec.pre6 enc Try.prog Try.f6 Rows.frameSamesRow.domain false) (Rows.frameSamesSpec.post enc Try.prog Try.f6 false true false false) := by
  refine returnsInHanded_of_change (C := Try.checked) own started (by kernel_rfl) Try.func6
    (ChangeSpec.witness6 (enc := enc) (C := Try.checked) false ⟨#[], #[.agg #[.int .i64 0, .int .i64 0, .int .i64 0, .int .i64 0, .slice none 0 0, .int .i64 0, .int .i64 0, .int .i64 0, .int .i64 0, .int .i64 0, .int .i64 0, .int .i64 0, .int .i64 0, .int .i64 0, .int .i64 0, .int .i64 0, .int .i64 0, .int .i64 0, .int .i64 0, .int .i64 0, .int .i64 0, .int .i64 0, .int .i64 0, .int .i64 0, .int .i64 0, .int .i64 0, .int .i64 0, .int .i64 0, .int .i64 0], .agg #[.int .i64 0, .int .i64 0, .int .i64 0, .int .i64 0, .slice none 0 0, .int .i64 0, .int .i64 0, .int .i64 0, .int .i64 0, .int .i64 0, .int .i64 0, .int .i64 0, .int .i64 0, .int .i64 0, .int .i64 0, .int .i64 0, .int .i64 0, .int .i64 0, .int .i64 0, .int .i64 0, .int .i64 0, .int .i64 0, .int .i64 0, .int .i64 0, .int .i64 0, .int .i64 0, .int .i64 0, .int .i64 0, .int .i64 0]], []⟩ 8 (by kernel_rfl) (by kernel_rfl) (by kernel_rfl) (by kernel_rfl)) ?_
  intro W base args ds gs before hval0 hW hcnd _
  have hval : ∀ (j : Nat) t v, Try.f6.params[j]? = some t → args[j]? = some v → Value.okWide Try.prog W .any base t v := hval0
  have hW' := hW
  have hlt : ∀ p ∈ before, p.block < W.heap.size := fun p hp => hW'.lt p hp
  obtain ⟨p, q, hA0, hV, rfl, hfz, hnd⟩ := hW
  have hA : DataW.TrodAll enc Try.prog W 0 (fun _ => true) true Try.f6.params.toList args.toList ds p := hA0
  rw [Try.params6] at hA hval
  obtain ⟨v0, vs0, d0, ds0, p0, q0, hargs, rfl, rfl, h0, r0⟩ := trodAll_cons hA
  obtain ⟨v1, vs1, d1, ds1, p1, q1, rfl, rfl, rfl, h1, r1⟩ := trodAll_cons r0
  obtain ⟨rfl, rfl, rfl⟩ := trodAll_nil r1
  obtain rfl : args = #[v0, v1] := by cases args; simp_all
  obtain ⟨rfl, rfl⟩ := trodVars_none hV
  obtain ⟨F0, q0_, n0, c0, T0, rfl, fn0, fc0, fT0, fF0⟩ := open_frame (hval 0 27 v0 rfl rfl) h0 (fun x hx => hlt x (by simp [hx]))
  obtain ⟨F1, q1_, n1, c1, T1, rfl, fn1, fc1, fT1, fF1⟩ := open_frame (hval 1 27 v1 rfl rfl) h1 (fun x hx => hlt x (by simp [hx]))
  refine (walk F0 F1 q0_ q1_ n0 n1 c0 c1 T0 T1 W fT0 fT1 fn0 fc0 fn1 fc1).mono fun e W' ⟨he, hg⟩ => ?_
  subst he
  exact ⟨_, rfl, law_done laidOut Try.underlying4 rfl (by kernel_rfl) rfl hW' rfl hg⟩

theorem over : Rows.frameSamesRow.holds Try.pinned (OpenSpec.ofChange Rows.frameSamesSpec) :=
  OpenClaim.holds_of_wide 6 Try.f6 rfl rfl rfl rfl rfl rfl rfl ⟨rfl, rfl, rfl, rfl, rfl⟩ rfl rfl rfl rfl rfl (by kernel_rfl) Try.func6 (by kernel_rfl)
    (of_decide_eq_true (by kernel_rfl)) (by unfold Func.isWrapper; first | (rw [if_pos (by decide +kernel)]; kernel_rfl) | (rw [if_neg (by decide +kernel)]; exact ⟨rfl, rfl⟩))
    (fun os started H enc _ => lifted os started H enc)

theorem proved : Rows.FrameSamesSaid :=
  over
end Go.Proofs.Ytdiahlhfoplmjaa.frameSames
