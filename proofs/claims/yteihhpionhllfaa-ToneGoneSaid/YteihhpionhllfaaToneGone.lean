/- ToneGone: where tones were found nothing is left of them, and nothing else has turned. No condition. -/
import Derived.Test.YteihhpionhllfaaRows
import Derived.Test.YteihhpionhllfaaAwake
import Derived.Test.YteihhpionhllfaaNearL
import Derived.Test.YteihhpionhllfaaToneG
import Derived.BigQuiet
namespace Go.Proofs.Yteihhpionhllfaa.toneGone
open Go.ChangeShapes Go.WideShapes Go.ChangeAt Go.RowKit
set_option linter.unusedVariables false

theorem take_mem_succ (l : List Nat) (k i : Nat) (h : k < l.length) : i ∈ l.take (k + 1) ↔ i ∈ l.take k ∨ i = l.getD k 0 := by
  rw [List.take_add_one, List.getElem?_eq_getElem h, List.mem_append, List.getD_eq_getElem?_getD, List.getElem?_eq_getElem h]
  simp
/-- What is left of a spectrum without its first k tones. -/
theorem gone (f : Nat → Int) (hn : nearP f) : ∀ k, k ≤ (findL f).length → ∀ j, j < 16 → addTo (-1) f (toneF f) k j = if j ∈ (findL f).take k then 0 else f j
  | 0, _, j, _ => by simp [addTo]
  | k + 1, hk, j, hj => by
    have ih := gone f hn k (by omega)
    have hkl : k < (findL f).length := by omega
    have hp16 : (findL f).getD k 0 < 16 := by
      rw [List.getD_eq_getElem?_getD, List.getElem?_eq_getElem hkl]
      exact (mem_findL.1 (List.getElem_mem hkl)).1.1
    have hnot : (findL f).getD k 0 ∉ (findL f).take k := by
      intro hm
      obtain ⟨q, hq, e⟩ := List.getElem_of_mem hm
      rw [List.length_take] at hq
      rw [List.getElem_take, List.getD_eq_getElem?_getD, List.getElem?_eq_getElem hkl] at e
      have := List.pairwise_iff_getElem.1 (findL_rising f) q k (by omega) hkl (by omega)
      simp only [Option.getD_some] at e
      omega
    show addOne (-1) (addTo (-1) f (toneF f) k) (toneF f (2 * k)) (toneF f (2 * k + 1)) j = _
    rw [toneF_even, toneF_odd, addOne_yes _ _ _ _ hp16]
    dsimp only
    by_cases e : j = (findL f).getD k 0
    · rw [if_pos e, if_pos ((take_mem_succ _ _ _ hkl).2 (.inr e)), ih _ hp16, if_neg hnot]
      have := hn _ hp16
      rw [show (-1 : Int) * f ((findL f).getD k 0) = - f ((findL f).getD k 0) by omega, IntWalk.wrap64_in (- f ((findL f).getD k 0)) (by omega), IntWalk.wrap64_in _ (by omega)]
      omega
    · rw [if_neg e, ih j hj]
      by_cases h : j ∈ (findL f).take k
      · rw [if_pos h, if_pos ((take_mem_succ _ _ _ hkl).2 (.inl h))]
      · rw [if_neg h, if_neg (fun h' => by rcases (take_mem_succ _ _ _ hkl).1 h' with h' | h'; exact h h'; exact e h')]
set_option maxRecDepth 100000 in
set_option maxHeartbeats 8000000 in
theorem walk (f : Nat → Int) (w : World) (h0 : ∀ k, 16 ≤ k → f k = 0) :
    Calls Try.prog 5 #[.agg (rowN 16 (blk f))] w fun e w' => e = .returned (.bool true) ∧ Old w w' := by
  have HA := Lib.hid (fun w => awake_any w)
  have Hb16 : Hid ((Try.prog.info? 23).map (·.size) = some 16) := Lib.hid (by kernel_rfl)
  have Hbox : Hid ((w.alloc (.cells (rowN 16 (blk f)) 23)).heap[w.heap.size]? = some (.cells (rowN 16 (blk f)) 23 (0, 0))) := Lib.hid (heap_alloc_new _ _)
  have hN := fun w => near_any f w
  by_cases hn : nearP f
  · rw [decide_eq_true hn] at hN
    have HN := Lib.hid hN
    have HP := Lib.hid hn
    have HF := Lib.hid (fun w => Find_any f (near_fits hn h0) w)
    clear hn hN h0
    go_enter Try.func5, Try.ntmps5
    go_wp2_with (with_reducible refine wpList_load_row rfl 23 _ rfl w.heap.size rfl 23 (rowN 16 (blk f)) (0, 0) _ Hbox.out Try.underlying23 rfl (by rw [rowN_size]; exact Hb16.out) ?_)
    refine (HN.out _).mono ?_
    rintro e V ⟨rfl, ho⟩
    have HB := Lib.hid ((ho.block w.heap.size (by simp)).trans Hbox.out)
    have HO := Lib.hid ((Old.alloc w (.cells (rowN 16 (blk f)) 23)).trans ho)
    clear ho HN Hbox
    go_wp2_with (with_reducible refine wpList_load_row rfl 23 _ rfl w.heap.size rfl 23 (rowN 16 (blk f)) (0, 0) _ HB.out Try.underlying23 rfl (by rw [rowN_size]; exact Hb16.out) ?_)
    refine (HF.out _).mono ?_
    rintro e V1 ⟨v, rfl, hl2, hown, ho1⟩
    obtain ⟨p, cap, rfl, hnc, hcm, hsl⟩ := own2_slice hown
    have HB1 := Lib.hid ((ho1.block _ (lt_of_block HB.out)).trans HB.out)
    have HO1 := Lib.hid (HO.out.trans ho1)
    have HSl := Lib.hid hsl
    have HG := Lib.hid (gone f HP.out (findL f).length (Nat.le_refl _))
    have HOut := Lib.hid (Out_any f p (findL f).length cap (toneF f) V1 hsl (by omega))
    clear hown hsl ho1 HB HO HF hcm
    go_wp2_with (with_reducible refine wpList_load_row rfl 23 _ rfl w.heap.size rfl 23 (rowN 16 (blk f)) (0, 0) _ HB1.out Try.underlying23 rfl (by rw [rowN_size]; exact Hb16.out) ?_)
    refine HOut.out.mono ?_
    rintro e V2 ⟨rfl, ho2⟩
    obtain ⟨L, hL⟩ : ∃ L, (findL f).length = L := ⟨_, rfl⟩
    rw [hL] at HSl hl2 hnc HG ⊢
    have HL := Lib.hid hL
    clear hL
    obtain ⟨X, hX⟩ : ∃ X, addTo (-1) f (toneF f) L = X := ⟨_, rfl⟩
    rw [hX] at HG ⊢
    clear hX
    have ho3 := ho2.alloc' (.cells (rowN 16 (blk X)) 23)
    have HB3 := Lib.hid ((ho3.block _ (lt_of_block HB1.out)).trans HB1.out)
    have HX3 := Lib.hid (heap_alloc_new V2 (.cells (rowN 16 (blk X)) 23))
    have HSl3 := Lib.hid (HSl.out.old ho3)
    have HO3 := Lib.hid (HO1.out.trans ho3)
    have H1 : Hid ((rowN 16 (blk X)).all (·.oneCell') = true) := Lib.hid (blk_one _ _)
    clear ho2 ho3 HB1 HO1 HSl HOut
    go_wp2_with (with_reducible refine wpList_store_row rfl 23 _ _ rfl V2.heap.size (rowN 16 (blk X)) rfl rfl 23 _ (heap_alloc_new _ _) (by rw [rowN_size]; exact Hb16.out) (by rw [rowN_size]; kernel_rfl) H1.out ?_; rw [World.setRow_alloc_new])
    obtain ⟨V3, hV3⟩ : ∃ V3, V3 = V2.alloc (.cells (rowN 16 (blk X)) 23) := ⟨_, rfl⟩
    obtain ⟨xb, hxb⟩ : ∃ xb, xb = V2.heap.size := ⟨_, rfl⟩
    rw [← hV3] at HB3 HX3 HSl3 HO3 ⊢
    rw [← hxb] at HX3 ⊢
    clear hV3 hxb H1
    go_loopw [5] (fun kv wr => ∃ k : Nat, k ≤ 16 ∧ kv = .int .i64 k ∧ Hid (Old V3 wr)) (fun kv _ => 16 - (intOf kv).toNat)
    case atStart => exact ⟨0, by omega, rfl, Old.refl _⟩
    case round =>
      obtain ⟨k, hk, rfl, HW⟩ := hrel
      obtain ⟨wo, rfl⟩ : ∃ V, V = wr := ⟨_, rfl⟩
      by_cases hlt : k < 16
      · have k0 : (0 : Int) ≤ k := by omega
        have k1 : (k : Int) < 16 := by omega
        have cb : wo.cell? ⟨w.heap.size, k, none⟩ = some (.int .i64 (f k)) := (cell_of_row _ _ _ _ _ _ ((HW.out.block _ (lt_of_block HB3.out)).trans HB3.out)).trans (blk_at 16 f k hlt)
        have cx : wo.cell? ⟨xb, k, none⟩ = some (.int .i64 (X k)) := (cell_of_row _ _ _ _ _ _ ((HW.out.block _ (lt_of_block HX3.out)).trans HX3.out)).trans (blk_at 16 X k hlt)
        have HSlo := Lib.hid (HSl3.out.old HW.out)
        have hgk := HG.out k hlt
        have HGk := Lib.hid hgk
        have HCB := Lib.hid cb
        have HCX := Lib.hid cx
        clear hgk cb cx
        go_wp2_with fail
        go_loop [6, 7] (fun fv qv => ∃ q : Nat, q ≤ L ∧ qv = .int .i64 q ∧ fv = .bool (decide (k ∈ (findL f).take q))) (fun _ qv => L - (intOf qv).toNat)
        case atStart => exact ⟨0, by omega, rfl, by simp⟩
        case round =>
          obtain ⟨q, hq, rfl, rfl⟩ := hrel
          by_cases hql : q < L
          · have hql2 : q < (findL f).length := by rw [HL.out]; exact hql
            have hms := take_mem_succ (findL f) q k hql2
            have HMS := Lib.hid hms
            obtain ⟨g, o, rfl, hg, hcc⟩ := two_cells HSlo.out (by omega)
            obtain ⟨c1, c2⟩ := hcc q hql
            rw [toneF_even] at c1
            have hq2 : (q : Int) < 2 := by omega
            have hqL : (q : Int) < (L : Int) := by omega
            by_cases hm : k ∈ (findL f).take q
            · have HD : Hid (decide (k ∈ (findL f).take (q + 1)) = true) := decide_eq_true (HMS.out.2 (.inl hm))
              rw [decide_eq_true hm]
              clear hms hcc hg hm hql2 c1 c2
              go_wp2_with fail
              go_round
              case rel => exact ⟨q + 1, by omega, by go_num, by rw [HD.out]⟩
              case measure => simp [intOf]; omega
            · rw [decide_eq_false hm]
              by_cases e : k = (findL f).getD q 0
              · have HD : Hid (decide (k ∈ (findL f).take (q + 1)) = true) := decide_eq_true (HMS.out.2 (.inr e))
                rw [← e] at c1
                clear hms hcc hg hm hql2 c2 e
                go_wp2_with fail
                go_round
                case rel => exact ⟨q + 1, by omega, by go_num, by rw [HD.out]⟩
                case measure => simp [intOf]; omega
              · have HD : Hid (decide (k ∈ (findL f).take (q + 1)) = false) := decide_eq_false (fun h => by rcases HMS.out.1 h with h | h; exact hm h; exact e h)
                clear hms hcc hg hm hql2 c2
                generalize (findL f).getD q 0 = pq at *
                have de : ((pq : Int) == (k : Int)) = false := by simp; omega
                clear e
                go_wp2_with fail
                go_round
                case rel => exact ⟨q + 1, by omega, by go_num, by rw [HD.out]⟩
                case measure => simp [intOf]; omega
          · obtain rfl : q = L := by omega
            have cb := HCB.out
            have cx := HCX.out
            by_cases hm : k ∈ (findL f).take q
            · have hx : X k = 0 := by rw [HGk.out, if_pos hm]
              rw [decide_eq_true hm]
              rw [hx] at cx
              clear hm hx HGk HCB HCX HSlo
              generalize f k = x at *
              go_wp2_with fail
              go_quiet (fail)
              go_wp2_with fail
              go_roundw
              case rel => exact ⟨k + 1, by omega, by go_num, HW.out.drewN _⟩
              case measure => simp [intOf]; omega
            · have hx : X k = f k := by rw [HGk.out, if_neg hm]
              rw [decide_eq_false hm]
              rw [hx] at cx
              clear hm hx HGk HCB HCX HSlo
              generalize f k = x at *
              go_wp2_with fail
              go_quiet (fail)
              go_wp2_with fail
              go_roundw
              case rel => exact ⟨k + 1, by omega, by go_num, HW.out.drewN _⟩
              case measure => simp [intOf]; omega
      · obtain rfl : k = 16 := by omega
        have HR := Lib.hid (HO3.out.trans HW.out)
        clear HW HO3 HP HB3 HX3 HSl3 HG
        go_wp2_with fail
        refine (HA.out _).mono ?_
        rintro e w2 ⟨rfl, o2⟩
        have HR2 := Lib.hid (HR.out.trans o2)
        clear o2 HR HA
        go_wp2_with fail
        go_ret
        exact ⟨rfl, HR2.out⟩
  · rw [decide_eq_false hn] at hN
    have HN := Lib.hid hN
    clear hn hN h0
    go_enter Try.func5, Try.ntmps5
    go_wp2_with (with_reducible refine wpList_load_row rfl 23 _ rfl w.heap.size rfl 23 (rowN 16 (blk f)) (0, 0) _ Hbox.out Try.underlying23 rfl (by rw [rowN_size]; exact Hb16.out) ?_)
    refine (HN.out _).mono ?_
    rintro e V ⟨rfl, ho⟩
    have HOv := Lib.hid ((Old.alloc w (.cells (rowN 16 (blk f)) 23)).trans ho)
    clear ho
    go_wp2_with fail
    refine (HA.out _).mono ?_
    rintro e V1 ⟨rfl, o1⟩
    have HO1 := Lib.hid (HOv.out.trans o1)
    clear o1
    go_wp2_with fail
    go_ret
    exact ⟨rfl, HO1.out⟩


theorem own : ownKnob Try.prog.godebug = none := by kernel_rfl
theorem laidOut : laidOutB Try.prog = true := by kernel_rfl

set_option maxRecDepth 100000 in
theorem lifted (os : Os) (started : os.Started) (H : Type) (enc : TypeId × Value → H) :
    ReturnsInHanded {} Try.checked os 5 .any (Rows.toneGoneSpec.pre6 enc Try.prog Try.f5 Rows.toneGoneRow.domain false) (Rows.toneGoneSpec.post enc Try.prog Try.f5 false true false false) := by
  refine returnsInHanded_of_change (C := Try.checked) own started (by kernel_rfl) Try.func5
    (ChangeSpec.witness6 (enc := enc) (C := Try.checked) false ⟨#[], #[.agg #[.int .i64 0, .int .i64 0, .int .i64 0, .int .i64 0, .int .i64 0, .int .i64 0, .int .i64 0, .int .i64 0, .int .i64 0, .int .i64 0, .int .i64 0, .int .i64 0, .int .i64 0, .int .i64 0, .int .i64 0, .int .i64 0]], []⟩ 8 (by kernel_rfl) (by kernel_rfl) (by kernel_rfl) (by kernel_rfl)) ?_
  intro W base args ds gs before hval0 hW hcnd _
  have hval : ∀ (j : Nat) t v, Try.f5.params[j]? = some t → args[j]? = some v → Value.okWide Try.prog W .any base t v := hval0
  have hW' := hW
  have hlt : ∀ p ∈ before, p.block < W.heap.size := fun p hp => hW'.lt p hp
  obtain ⟨p, q, hA0, hV, rfl, hfz, hnd⟩ := hW
  have hA : DataW.TrodAll enc Try.prog W 0 (fun _ => true) true Try.f5.params.toList args.toList ds p := hA0
  rw [Try.params5] at hA hval
  obtain ⟨v0, vs0, d0, ds0, p0, q0, hargs, rfl, rfl, h0, r0⟩ := trodAll_cons hA
  obtain ⟨rfl, rfl, rfl⟩ := trodAll_nil r0
  obtain rfl : args = #[v0] := by cases args; simp_all
  obtain ⟨rfl, rfl⟩ := trodVars_none hV
  obtain ⟨f0, rfl, hf0, hz0⟩ := open_ints64 Try.underlying23 Try.underlying2 (by kernel_rfl) (by kernel_rfl) (hval 0 23 v0 rfl rfl) h0
  refine (walk f0 W hz0).mono fun e W' ⟨he, hg⟩ => ?_
  subst he
  exact ⟨_, rfl, law_done laidOut Try.underlying4 rfl (by kernel_rfl) rfl hW' rfl hg⟩

theorem over : Rows.toneGoneRow.holds Try.pinned (OpenSpec.ofChange Rows.toneGoneSpec) :=
  OpenClaim.holds_of_wide 5 Try.f5 rfl rfl rfl rfl rfl rfl rfl ⟨rfl, rfl, rfl, rfl, rfl⟩ rfl rfl rfl rfl rfl (by kernel_rfl) Try.func5 (by kernel_rfl)
    (of_decide_eq_true (by kernel_rfl)) (by unfold Func.isWrapper; first | (rw [if_pos (by decide +kernel)]; kernel_rfl) | (rw [if_neg (by decide +kernel)]; exact ⟨rfl, rfl⟩))
    (fun os started H enc _ => lifted os started H enc)

theorem proved : Rows.ToneGoneSaid :=
  over
end Go.Proofs.Yteihhpionhllfaa.toneGone
