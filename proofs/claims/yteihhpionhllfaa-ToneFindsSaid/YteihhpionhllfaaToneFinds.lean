/- ToneFinds: any spectrum's tones. No condition. -/
import Derived.Test.YteihhpionhllfaaRows
import Derived.Test.YteihhpionhllfaaAwake
import Derived.Test.YteihhpionhllfaaAheadL
namespace Go.Proofs.Yteihhpionhllfaa.toneFinds
open Go.ChangeShapes Go.WideShapes Go.ChangeAt Go.RowKit
set_option linter.unusedVariables false

/-- How many places below k are found. -/
def foundTo (f : Nat → Int) (k : Nat) : Nat := ((List.range k).filter fun i => decide (foundP f i)).length
theorem filter_at (p : Nat → Bool) : ∀ m k, k < m → p k = true → ((List.range m).filter p)[((List.range k).filter p).length]? = some k
  | 0, k, h, _ => by omega
  | m + 1, k, h, hp => by
    rw [List.range_succ, List.filter_append]
    by_cases e : k = m
    · subst e
      rw [List.getElem?_append_right (Nat.le_refl _)]
      simp [hp]
    · have ih := filter_at p m k (by omega) hp
      obtain ⟨hl, _⟩ := List.getElem?_eq_some_iff.1 ih
      rw [List.getElem?_append_left hl]
      exact ih
theorem foundTo_yes (f : Nat → Int) (k : Nat) (h : foundP f k) : foundTo f (k + 1) = foundTo f k + 1 := by
  unfold foundTo
  rw [List.range_succ, List.filter_append]
  simp [h]
theorem foundTo_no (f : Nat → Int) (k : Nat) (h : ¬ foundP f k) : foundTo f (k + 1) = foundTo f k := by
  unfold foundTo
  rw [List.range_succ, List.filter_append]
  simp [h]
theorem foundTo_at (f : Nat → Int) (k : Nat) (h : foundP f k) : foundTo f k < (findL f).length ∧ (findL f).getD (foundTo f k) 0 = k := by
  have h1 := filter_at (fun i => decide (foundP f i)) 16 k h.1.1 (decide_eq_true h)
  obtain ⟨hl, he⟩ := List.getElem?_eq_some_iff.1 h1
  refine ⟨hl, ?_⟩
  rw [List.getD_eq_getElem?_getD]
  show ((findL f)[foundTo f k]?).getD 0 = k
  unfold findL foundTo
  rw [h1]
  rfl
theorem foundTo_le (f : Nat → Int) (k : Nat) : foundTo f k ≤ k := by
  have := List.length_filter_le (fun i => decide (foundP f i)) (List.range k)
  simpa [foundTo] using this
set_option maxRecDepth 100000 in
set_option maxHeartbeats 8000000 in
theorem walk (f : Nat → Int) (w : World) (h0 : ∀ k, 16 ≤ k → f k = 0) :
    Calls Try.prog 4 #[.agg (rowN 16 (blk f))] w fun e w' => e = .returned (.bool true) ∧ Old w w' := by
  have HA := Lib.hid (fun w => awake_any w)
  have Hb16 : Hid ((Try.prog.info? 23).map (·.size) = some 16) := Lib.hid (by kernel_rfl)
  have Hbox : Hid ((w.alloc (.cells (rowN 16 (blk f)) 23)).heap[w.heap.size]? = some (.cells (rowN 16 (blk f)) 23 (0, 0))) := Lib.hid (heap_alloc_new _ _)
  have hN := fun w => near_any f w
  by_cases hn : nearP f
  · rw [decide_eq_true hn] at hN
    have HN := Lib.hid hN
    have HP := Lib.hid hn
    have HF := Lib.hid (fun w => Find_any f (near_fits hn h0) w)
    clear hn hN h0
    go_enter Try.func4, Try.ntmps4
    go_wp2_with (with_reducible refine wpList_load_row rfl 23 _ rfl w.heap.size rfl 23 (rowN 16 (blk f)) (0, 0) _ Hbox.out Try.underlying23 rfl (by rw [rowN_size]; exact Hb16.out) ?_)
    refine (HN.out _).mono ?_
    rintro e V ⟨rfl, ho⟩
    have HB := Lib.hid ((ho.block w.heap.size (by simp)).trans Hbox.out)
    have HO := Lib.hid ((Old.alloc w (.cells (rowN 16 (blk f)) 23)).trans ho)
    clear ho HN Hbox
    go_wp2_with (with_reducible refine wpList_load_row rfl 23 _ rfl w.heap.size rfl 23 (rowN 16 (blk f)) (0, 0) _ HB.out Try.underlying23 rfl (by rw [rowN_size]; exact Hb16.out) ?_)
    refine (HF.out _).mono ?_
    rintro e V1 ⟨v, rfl, hl2, hown, ho1⟩
    obtain ⟨p, cap, rfl, hnc, hcm, hsl⟩ := own2_slice hown
    have HB1 := Lib.hid ((ho1.block _ (lt_of_block HB.out)).trans HB.out)
    have HO1 := Lib.hid (HO.out.trans ho1)
    have HSl := Lib.hid hsl
    obtain ⟨L, hL⟩ : ∃ L, (findL f).length = L := ⟨_, rfl⟩
    rw [hL] at HSl hl2 hnc ⊢
    have HL := Lib.hid hL
    clear hown hsl ho1 HB HO HF hcm hL
    go_wp2_with fail
    go_loopw [4, 5] (fun nv kv wr => ∃ k : Nat, k ≤ 16 ∧ kv = .int .i64 k ∧ nv = .int .i64 (foundTo f k) ∧ Hid (Old V1 wr)) (fun _ kv _ => 16 - (intOf kv).toNat)
    case atStart => exact ⟨0, by omega, rfl, rfl, Old.refl _⟩
    case round =>
      obtain ⟨k, hk, rfl, rfl, HW⟩ := hrel
      have hcount := foundTo_le f k
      by_cases hlt : k < 16
      · have k0 : (0 : Int) ≤ k := by omega
        have k1 : (k : Int) < 16 := by omega
        have hIs := fun w => is_any f HP.out k w (by omega) (by omega)
        rw [isI_nat] at hIs
        have HAh := Lib.hid (fun w => ahead_any f HP.out k w hlt)
        have HK : Hid (∀ W, Old V1 W → W.heap[w.heap.size]? = some (.cells (rowN 16 (blk f)) 23 (0, 0))) := fun W h => (h.block _ (lt_of_block HB1.out)).trans HB1.out
        by_cases ht : isT f k
        · rw [decide_eq_true ht] at hIs
          have HIs := Lib.hid hIs
          have hBr := HK.out _ HW.out
          have HBr := Lib.hid hBr
          clear hIs hBr
          go_wp2_with (with_reducible refine wpList_load_row rfl 23 _ rfl w.heap.size rfl 23 (rowN 16 (blk f)) (0, 0) _ HBr.out Try.underlying23 rfl (by rw [rowN_size]; exact Hb16.out) ?_)
          refine (HIs.out _).mono ?_
          rintro e w2 ⟨rfl, o2⟩
          have HW2 := Lib.hid (HW.out.trans o2)
          have HB2 := Lib.hid (HK.out _ HW2.out)
          clear o2 HIs HBr
          go_wp2_with (with_reducible refine wpList_load_row_w (by kernel_rfl) 23 _ rfl w.heap.size rfl 23 (rowN 16 (blk f)) (0, 0) _ HB2.out Try.underlying23 rfl (by rw [rowN_size]; exact Hb16.out) ?_)
          refine (HAh.out _).mono ?_
          rintro e w3 ⟨rfl, o3⟩
          have HW3 := Lib.hid (HW2.out.trans o3)
          have HB3 := Lib.hid (HK.out _ HW3.out)
          clear o3 HB2 HAh
          by_cases ha : aheadTo f k 16 ≤ 1
          · have hfd : foundP f k := ⟨ht, ha⟩
            have HS := Lib.hid (foundTo_yes f k hfd)
            obtain ⟨h1, h2⟩ := foundTo_at f k hfd
            rw [HL.out] at h1
            have hsl3 := HSl.out.old HW3.out
            obtain ⟨g, o, rfl, hg, hcc⟩ := two_cells hsl3 (by omega)
            obtain ⟨c1, c2⟩ := hcc _ h1
            rw [toneF_even, h2] at c1
            rw [toneF_odd, h2] at c2
            have c3 : w3.cell? ⟨w.heap.size, k, none⟩ = some (.int .i64 (f k)) := (cell_of_row _ _ _ _ _ _ HB3.out).trans (blk_at 16 f k hlt)
            have hE : ∀ w x, (binOp .neq 31 (.agg #[.int .i64 (k : Int), .int .i64 x]) (.agg #[.int .i64 (k : Int), .int .i64 x])).run Try.prog w = .ok (.bool false) w := fun w x => by
              rw [neq_tone]; simp
            have ha' : ((aheadTo f k 16 : Nat) : Int) ≤ 1 := by omega
            have h1' : ((foundTo f k : Nat) : Int) < (L : Int) := by omega
            have hL2 : (L : Int) ≤ 2 := by omega
            have dge : decide ((L : Int) ≤ ((foundTo f k : Nat) : Int)) = false := decide_eq_false (by omega)
            clear hfd h2 hsl3 hcc hg ht ha
            generalize foundTo f k = m at *
            generalize aheadTo f k 16 = am at *
            generalize f k = x at *
            go_wp2_with fail
            go_quiet (fail)
            go_wp2_with fail
            go_roundw
            case rel => exact ⟨k + 1, by omega, by go_num, by rw [HS.out]; go_num, HW3.out.drewN _⟩
            case measure => simp [intOf]; omega
          · have hno : ¬ foundP f k := fun h => ha h.2
            have HS := Lib.hid (foundTo_no f k hno)
            have ha' : 1 < ((aheadTo f k 16 : Nat) : Int) := by omega
            clear hno ht ha
            generalize aheadTo f k 16 = am at *
            go_wp2_with fail
            go_roundw
            case rel => exact ⟨k + 1, by omega, by go_num, by rw [HS.out], HW3.out⟩
            case measure => simp [intOf]; omega
        · rw [decide_eq_false ht] at hIs
          have HIs := Lib.hid hIs
          have hno : ¬ foundP f k := fun h => ht h.1
          have HS := Lib.hid (foundTo_no f k hno)
          have hBr := HK.out _ HW.out
          have HBr := Lib.hid hBr
          clear hIs hBr hno ht
          go_wp2_with (with_reducible refine wpList_load_row rfl 23 _ rfl w.heap.size rfl 23 (rowN 16 (blk f)) (0, 0) _ HBr.out Try.underlying23 rfl (by rw [rowN_size]; exact Hb16.out) ?_)
          refine (HIs.out _).mono ?_
          rintro e w2 ⟨rfl, o2⟩
          have HW2 := Lib.hid (HW.out.trans o2)
          clear o2 HIs HBr
          go_wp2_with fail
          go_roundw
          case rel => exact ⟨k + 1, by omega, by go_num, by rw [HS.out], HW2.out⟩
          case measure => simp [intOf]; omega
      · obtain rfl : k = 16 := by omega
        have he : foundTo f 16 = L := HL.out
        have HR := Lib.hid (HO1.out.trans HW.out)
        rw [he]
        clear he HW HO1 HP HB1
        go_wp2_with fail
        refine (HA.out _).mono ?_
        rintro e w2 ⟨rfl, o2⟩
        have HR2 := Lib.hid (HR.out.trans o2)
        clear o2 HR HA
        go_wp2_with fail
        go_ret
        exact ⟨rfl, HR2.out⟩
  · rw [decide_eq_false hn] at hN
    have HN := Lib.hid hN
    clear hn hN h0
    go_enter Try.func4, Try.ntmps4
    go_wp2_with (with_reducible refine wpList_load_row rfl 23 _ rfl w.heap.size rfl 23 (rowN 16 (blk f)) (0, 0) _ Hbox.out Try.underlying23 rfl (by rw [rowN_size]; exact Hb16.out) ?_)
    refine (HN.out _).mono ?_
    rintro e V ⟨rfl, ho⟩
    have HOv := Lib.hid ((Old.alloc w (.cells (rowN 16 (blk f)) 23)).trans ho)
    clear ho
    go_wp2_with fail
    refine (HA.out _).mono ?_
    rintro e V1 ⟨rfl, o1⟩
    have HO1 := Lib.hid (HOv.out.trans o1)
    clear o1
    go_wp2_with fail
    go_ret
    exact ⟨rfl, HO1.out⟩


theorem own : ownKnob Try.prog.godebug = none := by kernel_rfl
theorem laidOut : laidOutB Try.prog = true := by kernel_rfl

set_option maxRecDepth 100000 in
theorem lifted (os : Os) (started : os.Started) (H : Type) (enc : TypeId × Value → H) :
    ReturnsInHanded {} Try.checked os 4 .any (Rows.toneFindsSpec.pre6 enc Try.prog Try.f4 Rows.toneFindsRow.domain false) (Rows.toneFindsSpec.post enc Try.prog Try.f4 false true false false) := by
  refine returnsInHanded_of_change (C := Try.checked) own started (by kernel_rfl) Try.func4
    (ChangeSpec.witness6 (enc := enc) (C := Try.checked) false ⟨#[], #[.agg #[.int .i64 0, .int .i64 0, .int .i64 0, .int .i64 0, .int .i64 0, .int .i64 0, .int .i64 0, .int .i64 0, .int .i64 0, .int .i64 0, .int .i64 0, .int .i64 0, .int .i64 0, .int .i64 0, .int .i64 0, .int .i64 0]], []⟩ 8 (by kernel_rfl) (by kernel_rfl) (by kernel_rfl) (by kernel_rfl)) ?_
  intro W base args ds gs before hval0 hW hcnd _
  have hval : ∀ (j : Nat) t v, Try.f4.params[j]? = some t → args[j]? = some v → Value.okWide Try.prog W .any base t v := hval0
  have hW' := hW
  have hlt : ∀ p ∈ before, p.block < W.heap.size := fun p hp => hW'.lt p hp
  obtain ⟨p, q, hA0, hV, rfl, hfz, hnd⟩ := hW
  have hA : DataW.TrodAll enc Try.prog W 0 (fun _ => true) true Try.f4.params.toList args.toList ds p := hA0
  rw [Try.params4] at hA hval
  obtain ⟨v0, vs0, d0, ds0, p0, q0, hargs, rfl, rfl, h0, r0⟩ := trodAll_cons hA
  obtain ⟨rfl, rfl, rfl⟩ := trodAll_nil r0
  obtain rfl : args = #[v0] := by cases args; simp_all
  obtain ⟨rfl, rfl⟩ := trodVars_none hV
  obtain ⟨f0, rfl, hf0, hz0⟩ := open_ints64 Try.underlying23 Try.underlying2 (by kernel_rfl) (by kernel_rfl) (hval 0 23 v0 rfl rfl) h0
  refine (walk f0 W hz0).mono fun e W' ⟨he, hg⟩ => ?_
  subst he
  exact ⟨_, rfl, law_done laidOut Try.underlying4 rfl (by kernel_rfl) rfl hW' rfl hg⟩

theorem over : Rows.toneFindsRow.holds Try.pinned (OpenSpec.ofChange Rows.toneFindsSpec) :=
  OpenClaim.holds_of_wide 4 Try.f4 rfl rfl rfl rfl rfl rfl rfl ⟨rfl, rfl, rfl, rfl, rfl⟩ rfl rfl rfl rfl rfl (by kernel_rfl) Try.func4 (by kernel_rfl)
    (of_decide_eq_true (by kernel_rfl)) (by unfold Func.isWrapper; first | (rw [if_pos (by decide +kernel)]; kernel_rfl) | (rw [if_neg (by decide +kernel)]; exact ⟨rfl, rfl⟩))
    (fun os started H enc _ => lifted os started H enc)

theorem proved : Rows.ToneFindsSaid :=
  over
end Go.Proofs.Yteihhpionhllfaa.toneFinds
