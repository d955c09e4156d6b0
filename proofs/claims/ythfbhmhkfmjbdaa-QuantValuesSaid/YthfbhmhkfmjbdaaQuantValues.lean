/- QuantValues: the numbers that any steps are. -/
import Derived.Test.YthfbhmhkfmjbdaaRows
import Derived.Test.YthfbhmhkfmjbdaaAwake
namespace Go.Proofs.Ythfbhmhkfmjbdaa.quantValues
open Go.ChangeShapes Go.WideShapes Go.ChangeAt Go.RowKit
set_option linter.unusedVariables false

structure QSt (w : World) (vb : Nat) (tb ts : TypeId) (f s v : Nat → Int) (W : World) : Prop where
  a : W.heap[w.heap.size]? = some (.cells (rowN 16 (blk f)) tb (0, 0))
  b : W.heap[w.heap.size + 1]? = some (.cells (rowN 4 (blk s)) ts (0, 0))
  v : W.heap[vb]? = some (.cells (rowN 16 (blk v)) tb (0, 0))
  old : Old w W
theorem QSt.keep {w W W' : World} {vb : Nat} {tb ts : TypeId} {f s v : Nat → Int} (h : QSt w vb tb ts f s v W) (k : Old W W') : QSt w vb tb ts f s v W' :=
  ⟨(k.block _ (lt_of_block h.a)).trans h.a, (k.block _ (lt_of_block h.b)).trans h.b, (k.block _ (lt_of_block h.v)).trans h.v, h.old.trans k⟩

set_option maxRecDepth 100000 in
set_option maxHeartbeats 4000000 in
theorem walk (f s : Nat → Int) (w : World) (hf : Fits64 f) (hs : Fits64 s) : Calls Try.prog 4 #[.agg (rowN 16 (blk f)), .agg (rowN 4 (blk s))] w fun e w' => e = .returned (.bool true) ∧ Old w w' := by
  have HA := Lib.hid (fun w => awake_any w)
  have HV := Lib.hid (fun w => Values_any f s w hf)
  have Hrt := Lib.hid (fun w => right_any s w)
  have Hs16 : Hid ((Try.prog.info? 23).map (·.size) = some 16) := Lib.hid (by kernel_rfl)
  have Hs4 : Hid ((Try.prog.info? 24).map (·.size) = some 4) := Lib.hid (by kernel_rfl)
  obtain ⟨W0, hW0⟩ : ∃ W0, W0 = ((w.alloc (.cells (rowN 16 (blk f)) 23)).alloc (.cells (rowN 4 (blk s)) 24)) := ⟨_, rfl⟩
  have ha0 : W0.heap[w.heap.size]? = some (.cells (rowN 16 (blk f)) 23 (0, 0)) := by rw [hW0]; exact heap_alloc2_old w _ _
  have hb0 : W0.heap[w.heap.size + 1]? = some (.cells (rowN 4 (blk s)) 24 (0, 0)) := by rw [hW0]; exact heap_alloc2_new w _ _
  have ho0 : Old w W0 := by rw [hW0]; exact (Old.alloc w _).alloc' _
  have HC0 : Hid (∀ k, k < 16 → W0.cell? ⟨w.heap.size, k, none⟩ = some (.int .i64 (f k))) := fun k hk => (cell_of_row _ _ _ _ _ _ ha0).trans (blk_at 16 f k hk)
  have Ha0 := Lib.hid ha0
  have Hb0 := Lib.hid hb0
  have HO0 := Lib.hid ho0
  clear hf hs ha0 hb0 ho0
  go_enter Try.func4, Try.ntmps4
  go_wp2_with fail
  rw [← hW0]
  clear hW0
  go_loop [5] (fun i => ∃ k : Nat, k ≤ 16 ∧ i = .int .i64 k) (fun i => 16 - (intOf i).toNat)
  case atStart => exact ⟨0, by omega, rfl⟩
  case round =>
    obtain ⟨k, hk, rfl⟩ := hrel
    by_cases hlt : k < 16
    · have k1 : (0 : Int) ≤ k := by omega
      have k2 : (k : Int) < 16 := by omega
      have hc := HC0.out k hlt
      clear Hrt HV Ha0 Hb0 HC0
      generalize f k = x at *
      by_cases c1 : x < -4294967296
      · go_wp2_with fail
        refine (HA.out _).mono ?_
        rintro e w5 ⟨rfl, ho⟩
        have HO5 := Lib.hid (HO0.out.trans ho)
        clear ho
        go_wp2_with fail
        go_ret
        exact ⟨rfl, HO5.out⟩
      · by_cases c2 : 4294967296 < x
        · have c1' : -4294967296 ≤ x := by omega
          clear c1
          go_wp2_with fail
          refine (HA.out _).mono ?_
          rintro e w5 ⟨rfl, ho⟩
          have HO5 := Lib.hid (HO0.out.trans ho)
          clear ho
          go_wp2_with fail
          go_ret
          exact ⟨rfl, HO5.out⟩
        · have c1' : -4294967296 ≤ x := by omega
          have c2' : x ≤ 4294967296 := by omega
          clear c1 c2
          go_wp2_with fail
          go_round
          case rel => exact ⟨k + 1, by omega, by go_num⟩
          case measure => simp [intOf]; omega
    · obtain rfl : k = 16 := by omega
      clear hk hlt HC0
      go_wp2_with (first | (with_reducible refine wpList_load_row rfl 23 _ rfl w.heap.size rfl 23 (rowN 16 (blk f)) (0, 0) _ Ha0.out Try.underlying23 rfl (by rw [rowN_size]; exact Hs16.out) ?_) | (with_reducible refine wpList_load_row rfl 24 _ rfl (w.heap.size + 1) rfl 24 (rowN 4 (blk s)) (0, 0) _ Hb0.out Try.underlying24 rfl (by rw [rowN_size]; exact Hs4.out) ?_))
      refine (HV.out _).mono ?_
      rintro e w1 ⟨rfl, ho⟩
      have hst : QSt w w1.heap.size 23 24 f s (toldR valI f s) (w1.alloc (.cells (rowN 16 (blk (toldR valI f s))) 23)) := by
        have ho' := ho.alloc' (.cells (rowN 16 (blk (toldR valI f s))) 23)
        exact ⟨(ho'.block _ (lt_of_block Ha0.out)).trans Ha0.out, (ho'.block _ (lt_of_block Hb0.out)).trans Hb0.out, heap_alloc_new _ _, HO0.out.trans ho'⟩
      have HS := Lib.hid hst
      have H1 : Hid ((rowN 16 (blk (toldR valI f s))).all (·.oneCell') = true) := Lib.hid (blk_one _ _)
      clear ho hst HV Ha0 Hb0 HO0
      go_wp2_with (with_reducible refine wpList_store_row rfl 23 _ _ rfl w1.heap.size (rowN 16 (blk (toldR valI f s))) rfl rfl 23 _ (heap_alloc_new _ _) (by rw [rowN_size]; exact Hs16.out) (by rw [rowN_size]; kernel_rfl) H1.out ?_; rw [World.setRow_alloc_new])
      obtain ⟨vb, hvb⟩ : ∃ vb, vb = w1.heap.size := ⟨_, rfl⟩
      rw [← hvb] at HS ⊢
      clear hvb H1
      go_loopw [7] (fun i wr => ∃ k : Nat, k ≤ 16 ∧ i = .int .i64 k ∧ Hid (QSt w vb 23 24 f s (toldR valI f s) wr)) (fun i _ => 16 - (intOf i).toNat)
      case atStart => exact ⟨0, by omega, rfl, HS⟩
      case round =>
        obtain ⟨k, hk, rfl, hs⟩ := hrel
        clear HS
        by_cases hlt : k < 16
        · have k1 : (0 : Int) ≤ k := by omega
          have k2 : (k : Int) < 16 := by omega
          have hb5 := Lib.hid hs.out.b
          have hrt := Hrt.out
          by_cases r : scalesP s
          · rw [decide_eq_true r] at hrt
            have HR := Lib.hid hrt
            have hv : toldR valI f s k = wrap64 (f k * pw (s (k / 4)).toNat) := by unfold toldR; rw [if_pos r]; rfl
            obtain ⟨m, hm⟩ : ∃ m, k / 4 = m := ⟨_, rfl⟩
            rw [hm] at hv
            have m0 : (0 : Int) ≤ m := by omega
            have m1 : (m : Int) < 4 := by omega
            have q1 : wrap64 ((k : Int).tdiv 4) = m := by rw [Int.tdiv_eq_ediv_of_nonneg k1, IntWalk.wrap64_in _ (by omega)]; omega
            have q2 : IntKind.i64.wrap ((k : Int) / 4) = m := by rw [IntWalk.i64_in _ (by omega)]; omega
            have hr := r m (by omega)
            obtain ⟨n, hn⟩ : ∃ n : Nat, s m = n := ⟨(s m).toNat, by omega⟩
            rw [hn, Int.toNat_natCast] at hv
            have HP := Lib.hid (fun w => power_any n (by omega) w)
            have HN := Lib.hid hn
            have HVv := Lib.hid hv
            have m2 : m < 4 := by omega
            have H5 := hs
            clear hrt Hrt hr hm hn hv r
            go_wp2_with (with_reducible refine wpList_load_row rfl 24 _ rfl (w.heap.size + 1) rfl 24 (rowN 4 (blk s)) (0, 0) _ hb5.out Try.underlying24 rfl (by rw [rowN_size]; exact Hs4.out) ?_)
            refine (HR.out _).mono ?_
            rintro e w5 ⟨rfl, ho⟩
            have h5 := H5.out.keep ho
            have ca := (cell_of_row _ _ _ _ _ _ h5.a).trans (blk_at 16 f k hlt)
            have cb := (cell_of_row _ _ _ _ _ _ h5.b).trans (blk_at 4 s m m2)
            have cv := (cell_of_row _ _ _ _ _ _ h5.v).trans (blk_at 16 (toldR valI f s) k hlt)
            rw [HN.out] at cb
            rw [HVv.out] at cv
            have H6 : Hid (∀ n, QSt w vb 23 24 f s (toldR valI f s) (w5.drewN n)) := Lib.hid fun n => h5.keep ((Old.refl _).drewN _)
            clear ho hs H5 hb5 h5 HR HN HVv
            generalize f k = x at *
            generalize pw n = p at *
            obtain ⟨y, hy⟩ : ∃ y, wrap64 (x * p) = y := ⟨_, rfl⟩
            have hy2 : IntKind.i64.wrap (x * p) = y := by rw [← hy, IntKind.wrap_i64]; unfold wrap64; omega
            rw [hy] at cv
            go_wp2_with fail
            go_quiet ((go_at_call 13; exact Calls.quiet_of_same ((HP.out _).mono fun _ _ hh => ⟨hh.1, hh.2.symm⟩)))
            go_wp2_with fail
            go_roundw
            case rel => exact ⟨k + 1, by omega, by go_num, H6.out _⟩
            case measure => simp [intOf]; omega
          · rw [decide_eq_false r] at hrt
            have HR := Lib.hid hrt
            have hv : toldR valI f s k = 0 := by unfold toldR; rw [if_neg r]
            have HVv := Lib.hid hv
            clear hrt Hrt hv r
            go_wp2_with (with_reducible refine wpList_load_row rfl 24 _ rfl (w.heap.size + 1) rfl 24 (rowN 4 (blk s)) (0, 0) _ hb5.out Try.underlying24 rfl (by rw [rowN_size]; exact Hs4.out) ?_)
            refine (HR.out _).mono ?_
            rintro e w5 ⟨rfl, ho⟩
            have h5 := hs.out.keep ho
            have cv := (cell_of_row _ _ _ _ _ _ h5.v).trans (blk_at 16 (toldR valI f s) k hlt)
            rw [HVv.out] at cv
            have H5 := Lib.hid h5
            clear ho hs hb5 h5 HR HVv
            go_wp2_with fail
            go_roundw
            case rel => exact ⟨k + 1, by omega, by go_num, H5⟩
            case measure => simp [intOf]; omega
        · obtain rfl : k = 16 := by omega
          have HO := Lib.hid hs.out.old
          clear hs Hrt
          go_wp2_with fail
          refine (HA.out _).mono ?_
          rintro e w5 ⟨rfl, ho⟩
          have HO5 := Lib.hid (HO.out.trans ho)
          clear ho
          go_wp2_with fail
          go_ret
          exact ⟨rfl, HO5.out⟩

theorem own : ownKnob Try.prog.godebug = none := by kernel_rfl
theorem laidOut : laidOutB Try.prog = true := by kernel_rfl

set_option maxRecDepth 100000 in
theorem lifted (os : Os) (started : os.Started) (H : Type) (enc : TypeId × Value → H) :
    ReturnsInHanded {} Try.checked os 4 .any (Rows.quantValuesSpec.pre6 enc Try.prog Try.f4 Rows.quantValuesRow.domain false) (Rows.quantValuesSpec.post enc Try.prog Try.f4 false true false false) := by
  refine returnsInHanded_of_change (C := Try.checked) own started (by kernel_rfl) Try.func4
    (ChangeSpec.witness6 (enc := enc) (C := Try.checked) false ⟨#[], #[.agg #[.int .i64 0, .int .i64 0, .int .i64 0, .int .i64 0, .int .i64 0, .int .i64 0, .int .i64 0, .int .i64 0, .int .i64 0, .int .i64 0, .int .i64 0, .int .i64 0, .int .i64 0, .int .i64 0, .int .i64 0, .int .i64 0], .agg #[.int .i64 0, .int .i64 0, .int .i64 0, .int .i64 0]], []⟩ 8 (by kernel_rfl) (by kernel_rfl) (by kernel_rfl) (by kernel_rfl)) ?_
  intro W base args ds gs before hval0 hW hcnd _
  have hval : ∀ (j : Nat) t v, Try.f4.params[j]? = some t → args[j]? = some v → Value.okWide Try.prog W .any base t v := hval0
  have hW' := hW
  have hlt : ∀ p ∈ before, p.block < W.heap.size := fun p hp => hW'.lt p hp
  obtain ⟨p, q, hA0, hV, rfl, hfz, hnd⟩ := hW
  have hA : DataW.TrodAll enc Try.prog W 0 (fun _ => true) true Try.f4.params.toList args.toList ds p := hA0
  rw [Try.params4] at hA hval
  obtain ⟨v0, vs0, d0, ds0, p0, q0, hargs, rfl, rfl, h0, r0⟩ := trodAll_cons hA
  obtain ⟨v1, vs1, d1, ds1, p1, q1, rfl, rfl, rfl, h1, r1⟩ := trodAll_cons r0
  obtain ⟨rfl, rfl, rfl⟩ := trodAll_nil r1
  obtain rfl : args = #[v0, v1] := by cases args; simp_all
  obtain ⟨rfl, rfl⟩ := trodVars_none hV
  obtain ⟨f0, rfl, hf0, hz0⟩ := open_ints64 Try.underlying23 Try.underlying2 (by kernel_rfl) (by kernel_rfl) (hval 0 23 v0 rfl rfl) h0
  obtain ⟨f1, rfl, hf1, hz1⟩ := open_ints64 Try.underlying24 Try.underlying3 (by kernel_rfl) (by kernel_rfl) (hval 1 24 v1 rfl rfl) h1
  refine (walk f0 f1 W hf0 hf1).mono fun e W' ⟨he, hg⟩ => ?_
  subst he
  exact ⟨_, rfl, law_done laidOut Try.underlying4 rfl (by kernel_rfl) rfl hW' rfl hg⟩

theorem over : Rows.quantValuesRow.holds Try.pinned (OpenSpec.ofChange Rows.quantValuesSpec) :=
  OpenClaim.holds_of_wide 4 Try.f4 rfl rfl rfl rfl rfl rfl rfl ⟨rfl, rfl, rfl, rfl, rfl⟩ rfl rfl rfl rfl rfl (by kernel_rfl) Try.func4 (by kernel_rfl)
    (of_decide_eq_true (by kernel_rfl)) (by unfold Func.isWrapper; first | (rw [if_pos (by decide +kernel)]; kernel_rfl) | (rw [if_neg (by decide +kernel)]; exact ⟨rfl, rfl⟩))
    (fun os started H enc _ => lifted os started H enc)

theorem proved : Rows.QuantValuesSaid :=
  over
end Go.Proofs.Ythfbhmhkfmjbdaa.quantValues
