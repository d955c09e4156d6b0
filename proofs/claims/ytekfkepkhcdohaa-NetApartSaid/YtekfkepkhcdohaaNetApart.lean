/- NetApart: unlike blocks have unlike spectra. -/
import Derived.Test.YtekfkepkhcdohaaRows
import Derived.Test.YtekfkepkhcdohaaFwd
import Derived.Test.YtekfkepkhcdohaaAwake
namespace Go.Proofs.Ytekfkepkhcdohaa.netApart
open Go.ChangeShapes Go.WideShapes Go.ChangeAt Go.RowKit
set_option linter.unusedVariables false

set_option maxRecDepth 100000 in
set_option maxHeartbeats 2000000 in
theorem walk (f g : Nat → Int) (w : World) (hf : Fits64 f) (hg : Fits64 g) (h0 : ∀ k, 16 ≤ k → f k = g k) : Calls Try.prog 5 #[.agg (rowN 16 (blk f)), .agg (rowN 16 (blk g))] w fun e w' => e = .returned (.bool true) ∧ Old w w' := by
  have hn1 := fun w => near_any f w
  have hn2 := fun w => near_any g w
  have HA := Lib.hid (fun w => awake_any w)
  have HN := Lib.hid (fun w => New_any w)
  have HF := Lib.hid (fun w => Forward_any f w)
  have HG := Lib.hid (fun w => Forward_any g w)
  have hE1 := fun w => eql_blk (fwdN 4 f) (fwdN 4 g) w
  have hE2 := fun w => eql_blk f g w
  have hb : eqB 16 (fwdN 4 f) (fwdN 4 g) = eqB 16 f g := by
    rw [Bool.eq_iff_iff, eqB_true, eqB_true]
    exact fwd_apart hf hg h0
  rw [hb] at hE1
  generalize eqB 16 f g = b at *
  clear hb hf hg h0
  have Hs : Hid ((Try.prog.info? 23).map (·.size) = some 16) := Lib.hid (by kernel_rfl)
  have hb1 : Hid (((w.alloc (.cells (rowN 16 (blk f)) 23)).alloc (.cells (rowN 16 (blk g)) 23)).heap[w.heap.size]? = some (.cells (rowN 16 (blk f)) 23 (0, 0))) := Lib.hid ((Below.heap_alloc _ _ _ (by simp)).trans (World.alloc_heap_new _ _))
  have hb2 : Hid (((w.alloc (.cells (rowN 16 (blk f)) 23)).alloc (.cells (rowN 16 (blk g)) 23)).heap[w.heap.size + 1]? = some (.cells (rowN 16 (blk g)) 23 (0, 0))) := Lib.hid (by
    have := World.alloc_heap_new (w.alloc (.cells (rowN 16 (blk f)) 23)) (.cells (rowN 16 (blk g)) 23); rwa [World.size_alloc] at this)
  have hO : Hid (Old w ((w.alloc (.cells (rowN 16 (blk f)) 23)).alloc (.cells (rowN 16 (blk g)) 23))) := Lib.hid ((Old.alloc w _).alloc' _)
  by_cases hnf : nearP f
  · rw [decide_eq_true hnf] at hn1
    have HR1 := Lib.hid hn1
    by_cases hng : nearP g
    · rw [decide_eq_true hng] at hn2
      have HR2 := Lib.hid hn2
      clear hn1 hn2 hnf hng
      go_enter Try.func5, Try.ntmps5
      go_wp2_with (with_reducible refine wpList_load_row rfl 23 _ rfl w.heap.size rfl 23 (rowN 16 (blk f)) (0, 0) _ hb1.out Try.underlying23 rfl (by rw [rowN_size]; exact Hs.out) ?_)
      refine (HR1.out _).mono ?_
      rintro e w1 ⟨rfl, ho⟩
      have hb1' : Hid (w1.heap[w.heap.size]? = some (.cells (rowN 16 (blk f)) 23 (0, 0))) := Lib.hid ((ho.block _ (lt_of_block hb1.out)).trans hb1.out)
      have hb2' : Hid (w1.heap[w.heap.size + 1]? = some (.cells (rowN 16 (blk g)) 23 (0, 0))) := Lib.hid ((ho.block _ (lt_of_block hb2.out)).trans hb2.out)
      have hO1 : Hid (Old w w1) := Lib.hid (hO.out.trans ho)
      clear ho hb1 hb2 hO
      go_wp2_with (with_reducible refine wpList_load_row_w (by kernel_rfl) 23 _ rfl (w.heap.size + 1) rfl 23 (rowN 16 (blk g)) (0, 0) _ hb2'.out Try.underlying23 rfl (by rw [rowN_size]; exact Hs.out) ?_)
      refine (HR2.out _).mono ?_
      rintro e w2 ⟨rfl, ho⟩
      have hb3 : Hid (w2.heap[w.heap.size]? = some (.cells (rowN 16 (blk f)) 23 (0, 0))) := Lib.hid ((ho.block _ (lt_of_block hb1'.out)).trans hb1'.out)
      have hb4 : Hid (w2.heap[w.heap.size + 1]? = some (.cells (rowN 16 (blk g)) 23 (0, 0))) := Lib.hid ((ho.block _ (lt_of_block hb2'.out)).trans hb2'.out)
      have hO2 : Hid (Old w w2) := Lib.hid (hO1.out.trans ho)
      clear ho hb1' hb2' hO1
      go_wp2_with fail
      refine (HN.out _).mono ?_
      rintro e w3 ⟨rfl, ho⟩
      have keep1 : ∀ V : World, Old (w3.alloc (.cells #[] 27)).drew V → V.heap[w.heap.size]? = some (.cells (rowN 16 (blk f)) 23 (0, 0)) ∧ V.heap[w.heap.size + 1]? = some (.cells (rowN 16 (blk g)) 23 (0, 0)) := fun V hV => by
        have k1 : w3.heap[w.heap.size]? = some (.cells (rowN 16 (blk f)) 23 (0, 0)) := (ho.block _ (lt_of_block hb3.out)).trans hb3.out
        have k2 : w3.heap[w.heap.size + 1]? = some (.cells (rowN 16 (blk g)) 23 (0, 0)) := (ho.block _ (lt_of_block hb4.out)).trans hb4.out
        have m1 : (w3.alloc (.cells #[] 27)).drew.heap[w.heap.size]? = some (.cells (rowN 16 (blk f)) 23 (0, 0)) := (Below.heap_alloc _ _ _ (lt_of_block k1)).trans k1
        have m2 : (w3.alloc (.cells #[] 27)).drew.heap[w.heap.size + 1]? = some (.cells (rowN 16 (blk g)) 23 (0, 0)) := (Below.heap_alloc _ _ _ (lt_of_block k2)).trans k2
        exact ⟨(hV.block _ (lt_of_block m1)).trans m1, (hV.block _ (lt_of_block m2)).trans m2⟩
      have HK := Lib.hid keep1
      have HO := Lib.hid ((hO2.out.trans ho).alloc' (.cells #[] 27)).drew
      clear keep1 ho hO2 hb3 hb4 HR1 HR2
      go_wp2_with fail
      refine wp_region_held_drew (S := (fun w' => w'.heap[w.heap.size]? = some (.cells (rowN 16 (blk f)) 23 (0, 0)) ∧ w'.heap[w.heap.size + 1]? = some (.cells (rowN 16 (blk g)) 23 (0, 0)))) (by kernel_rfl) ?_ (fun hHeld => ?_)
      · (try dsimp only); first | exact HK.out _ (Old.refl _) | exact HK.out _ hV | exact HK.out _ (hV.trans hU) | exact HK.out _ ((hV.trans hU).trans hY)
      refine wpAnyH_take (i := 0) (oi := ⟨some _, _, _, _, _, _⟩) (v := ?_) rfl (by kernel_rfl) (by kernel_rfl) (by kernel_rfl) (fun _ _ _ h => h) (Or.inl ⟨by kernel_rfl, ?_⟩) (by assumption) ?_; rotate_left; (intro w hSw; (try dsimp only at hSw); go_simp; try with_reducible rfl); try simp only [Act.put, List.setIfInBounds_toArray, List.set_cons_zero, List.set_cons_succ]
      refine wpAnyH_take (i := 3) (oi := ⟨some _, _, _, _, _, _⟩) (v := ?_) rfl (by kernel_rfl) (by kernel_rfl) (by kernel_rfl) (fun _ _ _ h => h) (Or.inl ⟨by kernel_rfl, ?_⟩) (by assumption) ?_; rotate_left; (intro w hSw; (try dsimp only at hSw); go_simp; try with_reducible rfl); try simp only [Act.put, List.setIfInBounds_toArray, List.set_cons_zero, List.set_cons_succ]
      refine wpAnyH_take (i := 1) (oi := ⟨some _, _, _, _, _, _⟩) (v := .agg (rowN 16 (blk f))) rfl (by kernel_rfl) (by kernel_rfl) (by kernel_rfl) (fun _ _ _ h => h) (yieldsIf_load_row (by kernel_rfl) 23 (.tmp 2) rfl w.heap.size rfl 23 (rowN 16 (blk f)) (0, 0) _ (fun _ h => h.1) Try.underlying23 rfl (by rw [rowN_size]; exact Hs.out)) (by assumption) ?_; try simp only [Act.put, List.setIfInBounds_toArray, List.set_cons_zero, List.set_cons_succ]
      refine wpAnyH_take (i := 4) (oi := ⟨some _, _, _, _, _, _⟩) (v := .agg (rowN 16 (blk g))) rfl (by kernel_rfl) (by kernel_rfl) (by kernel_rfl) (fun _ _ _ h => h) (yieldsIf_load_row (by kernel_rfl) 23 (.tmp 3) rfl (w.heap.size + 1) rfl 23 (rowN 16 (blk g)) (0, 0) _ (fun _ h => h.2) Try.underlying23 rfl (by rw [rowN_size]; exact Hs.out)) (by assumption) ?_; try simp only [Act.put, List.setIfInBounds_toArray, List.set_cons_zero, List.set_cons_succ]
      refine wpAnyH_take (i := 7) (oi := ⟨some _, _, _, _, _, _⟩) (v := .agg (rowN 16 (blk f))) rfl (by kernel_rfl) (by kernel_rfl) (by kernel_rfl) (fun _ _ _ h => h) (yieldsIf_load_row (by kernel_rfl) 23 (.tmp 2) rfl w.heap.size rfl 23 (rowN 16 (blk f)) (0, 0) _ (fun _ h => h.1) Try.underlying23 rfl (by rw [rowN_size]; exact Hs.out)) (by assumption) ?_; try simp only [Act.put, List.setIfInBounds_toArray, List.set_cons_zero, List.set_cons_succ]
      refine wpAnyH_take (i := 8) (oi := ⟨some _, _, _, _, _, _⟩) (v := .agg (rowN 16 (blk g))) rfl (by kernel_rfl) (by kernel_rfl) (by kernel_rfl) (fun _ _ _ h => h) (yieldsIf_load_row (by kernel_rfl) 23 (.tmp 3) rfl (w.heap.size + 1) rfl 23 (rowN 16 (blk g)) (0, 0) _ (fun _ h => h.2) Try.underlying23 rfl (by rw [rowN_size]; exact Hs.out)) (by assumption) ?_; try simp only [Act.put, List.setIfInBounds_toArray, List.set_cons_zero, List.set_cons_succ]
      refine wpAnyH_take (i := 9) (oi := ⟨some _, _, _, _, _, _⟩) (v := ?_) rfl (by kernel_rfl) (by kernel_rfl) (by kernel_rfl) (fun _ _ _ h => h) (Or.inl ⟨by kernel_rfl, ?_⟩) (by assumption) ?_; rotate_left; (intro w hSw; (try dsimp only at hSw); go_simp; try with_reducible rfl); try simp only [Act.put, List.setIfInBounds_toArray, List.set_cons_zero, List.set_cons_succ]
      refine wpAnyH_ready (rs := [2]) (by kernel_rfl) (by simp) ?_
      refine AllReadyH.cons (o := ⟨some _, _, _, _, _, _⟩) rfl (fun K hK => ?_) AllReadyH.nil
      go_simp
      refine (HF.out _).mono ?_; rintro e V ⟨rfl, hV⟩
      go_wp2_with fail
      refine hK.out _ _ ?_ (fun hHeld => ?_)
      · (try dsimp only); first | exact HK.out _ (Old.refl _) | exact HK.out _ hV | exact HK.out _ (hV.trans hU) | exact HK.out _ ((hV.trans hU).trans hY)
      clear hK K
      try simp only [Act.put, List.setIfInBounds_toArray, List.set_cons_zero, List.set_cons_succ]
      refine wpAnyH_ready (rs := [5]) (by kernel_rfl) (by simp) ?_
      refine AllReadyH.cons (o := ⟨some _, _, _, _, _, _⟩) rfl (fun K hK => ?_) AllReadyH.nil
      go_simp
      refine (HG.out _).mono ?_; rintro e U ⟨rfl, hU⟩
      go_wp2_with fail
      refine hK.out _ _ ?_ (fun hHeld => ?_)
      · (try dsimp only); first | exact HK.out _ (Old.refl _) | exact HK.out _ hV | exact HK.out _ (hV.trans hU) | exact HK.out _ ((hV.trans hU).trans hY)
      clear hK K
      try simp only [Act.put, List.setIfInBounds_toArray, List.set_cons_zero, List.set_cons_succ]
      refine wpAnyH_take (i := 6) (oi := ⟨some _, _, _, _, _, _⟩) (v := ?_) rfl (by kernel_rfl) (by kernel_rfl) (by kernel_rfl) (fun _ _ _ h => h) (Or.inl ⟨by kernel_rfl, ?_⟩) (by assumption) ?_; rotate_left; (intro w hSw; (try dsimp only at hSw); go_simp; try with_reducible rfl); try simp only [Act.put, List.setIfInBounds_toArray, List.set_cons_zero, List.set_cons_succ]
      refine wpAnyH_take (i := 10) (oi := ⟨some _, _, _, _, _, _⟩) (v := ?_) rfl (by kernel_rfl) (by kernel_rfl) (by kernel_rfl) (fun _ _ _ h => h) (Or.inl ⟨by kernel_rfl, ?_⟩) (by assumption) ?_; rotate_left; (intro w hSw; (try dsimp only at hSw); go_simp; try with_reducible rfl); try simp only [Act.put, List.setIfInBounds_toArray, List.set_cons_zero, List.set_cons_succ]
      refine wpAnyH_take (i := 11) (oi := ⟨some _, _, _, _, _, _⟩) (v := ?_) rfl (by kernel_rfl) (by kernel_rfl) (by kernel_rfl) (fun _ _ _ h => h) (Or.inl ⟨by kernel_rfl, ?_⟩) (by assumption) ?_; rotate_left; (intro w hSw; (try dsimp only at hSw); go_simp; try with_reducible rfl); try simp only [Act.put, List.setIfInBounds_toArray, List.set_cons_zero, List.set_cons_succ]
      refine wpAnyH_ready (rs := [12]) (by kernel_rfl) (by simp) ?_
      refine AllReadyH.cons (o := ⟨some _, _, _, _, _, _⟩) rfl (fun K hK => ?_) AllReadyH.nil
      go_simp
      refine (HA.out _).mono ?_; rintro e Y ⟨rfl, hY⟩
      go_wp2_with fail
      refine hK.out _ _ ?_ (fun hHeld => ?_)
      · (try dsimp only); first | exact HK.out _ (Old.refl _) | exact HK.out _ hV | exact HK.out _ (hV.trans hU) | exact HK.out _ ((hV.trans hU).trans hY)
      clear hK K
      try simp only [Act.put, List.setIfInBounds_toArray, List.set_cons_zero, List.set_cons_succ]
      refine wpAnyH_take (i := 13) (oi := ⟨some _, _, _, _, _, _⟩) (v := ?_) rfl (by kernel_rfl) (by kernel_rfl) (by kernel_rfl) (fun _ _ _ h => h) (Or.inl ⟨by kernel_rfl, ?_⟩) (by assumption) ?_; rotate_left; (intro w hSw; (try dsimp only at hSw); go_simp; try with_reducible rfl); try simp only [Act.put, List.setIfInBounds_toArray, List.set_cons_zero, List.set_cons_succ]
      refine wpAnyH_take (i := 14) (oi := ⟨some _, _, _, _, _, _⟩) (v := ?_) rfl (by kernel_rfl) (by kernel_rfl) (by kernel_rfl) (fun _ _ _ h => h) (Or.inl ⟨by kernel_rfl, ?_⟩) (by assumption) ?_; rotate_left; (intro w hSw; (try dsimp only at hSw); go_simp; try with_reducible rfl); try simp only [Act.put, List.setIfInBounds_toArray, List.set_cons_zero, List.set_cons_succ]
      refine wpAnyH_done (by kernel_rfl) ?_ _
      have hfin : Hid (Old w Y) := Lib.hid (((HO.out.trans hV).trans hU).trans hY)
      clear hV hU hY
      go_wp2_with fail
      go_ret
      exact ⟨rfl, hfin.out⟩
    · rw [decide_eq_false hng] at hn2
      have HR2 := Lib.hid hn2
      clear hn1 hn2 hnf hng
      go_enter Try.func5, Try.ntmps5
      go_wp2_with (with_reducible refine wpList_load_row rfl 23 _ rfl w.heap.size rfl 23 (rowN 16 (blk f)) (0, 0) _ hb1.out Try.underlying23 rfl (by rw [rowN_size]; exact Hs.out) ?_)
      refine (HR1.out _).mono ?_
      rintro e w1 ⟨rfl, ho⟩
      have hb2' : Hid (w1.heap[w.heap.size + 1]? = some (.cells (rowN 16 (blk g)) 23 (0, 0))) := Lib.hid ((ho.block _ (lt_of_block hb2.out)).trans hb2.out)
      have hO1 : Hid (Old w w1) := Lib.hid (hO.out.trans ho)
      clear ho hb1 hb2 hO
      go_wp2_with (with_reducible refine wpList_load_row_w (by kernel_rfl) 23 _ rfl (w.heap.size + 1) rfl 23 (rowN 16 (blk g)) (0, 0) _ hb2'.out Try.underlying23 rfl (by rw [rowN_size]; exact Hs.out) ?_)
      refine (HR2.out _).mono ?_
      rintro e w2 ⟨rfl, ho⟩
      have hO2 : Hid (Old w w2) := Lib.hid (hO1.out.trans ho)
      clear ho hb2' hO1
      go_wp2_with fail
      refine (HA.out _).mono ?_
      rintro e w3 ⟨rfl, ho⟩
      have hO3 : Hid (Old w w3) := Lib.hid (hO2.out.trans ho)
      clear ho hO2
      go_wp2_with fail
      go_ret
      exact ⟨rfl, hO3.out⟩
  · rw [decide_eq_false hnf] at hn1
    have HR1 := Lib.hid hn1
    clear hn1 hn2 hnf
    go_enter Try.func5, Try.ntmps5
    go_wp2_with (with_reducible refine wpList_load_row rfl 23 _ rfl w.heap.size rfl 23 (rowN 16 (blk f)) (0, 0) _ hb1.out Try.underlying23 rfl (by rw [rowN_size]; exact Hs.out) ?_)
    refine (HR1.out _).mono ?_
    rintro e w1 ⟨rfl, ho⟩
    have hO1 : Hid (Old w w1) := Lib.hid (hO.out.trans ho)
    clear ho hb1 hb2 hO
    go_wp2_with fail
    refine (HA.out _).mono ?_
    rintro e w3 ⟨rfl, ho⟩
    have hO3 : Hid (Old w w3) := Lib.hid (hO1.out.trans ho)
    clear ho hO1
    go_wp2_with fail
    go_ret
    exact ⟨rfl, hO3.out⟩

theorem own : ownKnob Try.prog.godebug = none := by kernel_rfl
theorem laidOut : laidOutB Try.prog = true := by kernel_rfl

set_option maxRecDepth 100000 in
theorem lifted (os : Os) (started : os.Started) (H : Type) (enc : TypeId × Value → H) :
    ReturnsInHanded {} Try.checked os 5 .any (Rows.netApartSpec.pre6 enc Try.prog Try.f5 Rows.netApartRow.domain false) (Rows.netApartSpec.post enc Try.prog Try.f5 false true false false) := by
  refine returnsInHanded_of_change (C := Try.checked) own started (by kernel_rfl) Try.func5
    (ChangeSpec.witness6 (enc := enc) (C := Try.checked) false ⟨#[], #[.agg #[.int .i64 0, .int .i64 0, .int .i64 0, .int .i64 0, .int .i64 0, .int .i64 0, .int .i64 0, .int .i64 0, .int .i64 0, .int .i64 0, .int .i64 0, .int .i64 0, .int .i64 0, .int .i64 0, .int .i64 0, .int .i64 0], .agg #[.int .i64 0, .int .i64 0, .int .i64 0, .int .i64 0, .int .i64 0, .int .i64 0, .int .i64 0, .int .i64 0, .int .i64 0, .int .i64 0, .int .i64 0, .int .i64 0, .int .i64 0, .int .i64 0, .int .i64 0, .int .i64 0]], []⟩ 8 (by kernel_rfl) (by kernel_rfl) (by kernel_rfl) (by kernel_rfl)) ?_
  intro W base args ds gs before hval0 hW hcnd _
  have hval : ∀ (j : Nat) t v, Try.f5.params[j]? = some t → args[j]? = some v → Value.okWide Try.prog W .any base t v := hval0
  have hW' := hW
  have hlt : ∀ p ∈ before, p.block < W.heap.size := fun p hp => hW'.lt p hp
  obtain ⟨p, q, hA0, hV, rfl, hfz, hnd⟩ := hW
  have hA : DataW.TrodAll enc Try.prog W 0 (fun _ => true) true Try.f5.params.toList args.toList ds p := hA0
  rw [Try.params5] at hA hval
  obtain ⟨v0, vs0, d0, ds0, p0, q0, hargs, rfl, rfl, h0, r0⟩ := trodAll_cons hA
  obtain ⟨v1, vs1, d1, ds1, p1, q1, rfl, rfl, rfl, h1, r1⟩ := trodAll_cons r0
  obtain ⟨rfl, rfl, rfl⟩ := trodAll_nil r1
  obtain rfl : args = #[v0, v1] := by cases args; simp_all
  obtain ⟨rfl, rfl⟩ := trodVars_none hV
  obtain ⟨f0, rfl, hf0, hz0⟩ := open_ints64 Try.underlying23 Try.underlying2 (by kernel_rfl) (by kernel_rfl) (hval 0 23 v0 rfl rfl) h0
  obtain ⟨f1, rfl, hf1, hz1⟩ := open_ints64 Try.underlying23 Try.underlying2 (by kernel_rfl) (by kernel_rfl) (hval 1 23 v1 rfl rfl) h1
  refine (walk f0 f1 W hf0 hf1 (fun k hk => by rw [hz0 k hk, hz1 k hk])).mono fun e W' ⟨he, hg⟩ => ?_
  subst he
  exact ⟨_, rfl, law_done laidOut Try.underlying4 rfl (by kernel_rfl) rfl hW' rfl hg⟩

theorem over : Rows.netApartRow.holds Try.pinned (OpenSpec.ofChange Rows.netApartSpec) :=
  OpenClaim.holds_of_wide 5 Try.f5 rfl rfl rfl rfl rfl rfl rfl ⟨rfl, rfl, rfl, rfl, rfl⟩ rfl rfl rfl rfl rfl (by kernel_rfl) Try.func5 (by kernel_rfl)
    (of_decide_eq_true (by kernel_rfl)) (by unfold Func.isWrapper; first | (rw [if_pos (by decide +kernel)]; kernel_rfl) | (rw [if_neg (by decide +kernel)]; exact ⟨rfl, rfl⟩))
    (fun os started H enc _ => lifted os started H enc)

theorem proved : Rows.NetApartSaid :=
  over
end Go.Proofs.Ytekfkepkhcdohaa.netApart
