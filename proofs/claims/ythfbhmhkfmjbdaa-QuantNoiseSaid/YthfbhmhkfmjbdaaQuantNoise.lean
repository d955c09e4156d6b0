/- QuantNoise: how far two blocks are from one another, any band, half a step. -/
import Derived.Test.YthfbhmhkfmjbdaaRows
import Derived.Test.YthfbhmhkfmjbdaaAwake
namespace Go.Proofs.Ythfbhmhkfmjbdaa.quantNoise
open Go.ChangeShapes Go.WideShapes Go.ChangeAt Go.RowKit
set_option linter.unusedVariables false

structure NSt (w : World) (tb : TypeId) (f g : Nat → Int) (W : World) : Prop where
  a : W.heap[w.heap.size]? = some (.cells (rowN 16 (blk f)) tb (0, 0))
  b : W.heap[w.heap.size + 1]? = some (.cells (rowN 16 (blk g)) tb (0, 0))
  old : Old w W
theorem NSt.keep {w W W' : World} {tb : TypeId} {f g : Nat → Int} (h : NSt w tb f g W) (k : Old W W') : NSt w tb f g W' :=
  ⟨(k.block _ (lt_of_block h.a)).trans h.a, (k.block _ (lt_of_block h.b)).trans h.b, h.old.trans k⟩
theorem NSt.start (w : World) (tb : TypeId) (f g : Nat → Int) : NSt w tb f g ((w.alloc (.cells (rowN 16 (blk f)) tb)).alloc (.cells (rowN 16 (blk g)) tb)) :=
  ⟨heap_alloc2_old w _ _, heap_alloc2_new w _ _, (Old.alloc w _).alloc' _⟩
def farL (f g : Nat → Int) (k : Nat) : Int := peakL (part (farI f g) 0 k)
theorem farL_succ {f g : Nat → Int} (hf : nearP f) (hg : nearP g) (k : Nat) (h : k < 16) : farL f g (k + 1) = max (farL f g k) (max (f k - g k) (-(f k - g k))) := by
  have h1 := hf k h
  have h2 := hg k h
  have e : farI f g k = f k - g k := by unfold farI; exact IntWalk.wrap64_in _ (by omega)
  unfold farL
  rw [peak_succ, Nat.zero_add, e]
  unfold absI
  rw [if_neg (by omega)]
  congr 1
  split <;> omega
theorem farL_bd {f g : Nat → Int} (hf : nearP f) (hg : nearP g) (k : Nat) (h : k ≤ 16) : 0 ≤ farL f g k ∧ farL f g k ≤ 2199023255552 := by
  induction k with
  | zero => exact ⟨by show (0 : Int) ≤ 0; omega, by show (0 : Int) ≤ 2199023255552; omega⟩
  | succ k ih =>
    have h1 := hf k (by omega)
    have h2 := hg k (by omega)
    have h3 := ih (by omega)
    rw [farL_succ hf hg k (by omega)]
    omega

set_option maxRecDepth 100000 in
set_option maxHeartbeats 4000000 in
theorem walk (f g : Nat → Int) (i s : Int) (w : World) (h1 : -9223372036854775808 ≤ i) (h2 : i ≤ 9223372036854775807) : Calls Try.prog 6 #[.agg (rowN 16 (blk f)), .agg (rowN 16 (blk g)), .int .i64 i, .int .i64 s] w fun e w' => e = .returned (.bool true) ∧ Old w w' := by
  have HA := Lib.hid (fun w => awake_any w)
  have HNo := Lib.hid (fun w => Noise_any f g w)
  have HBa := Lib.hid (fun w => Band_any i w h1 h2)
  have HHa := Lib.hid (fun w => Half_any s w)
  have HNf := Lib.hid (fun w => near_any f w)
  have HNg := Lib.hid (fun w => near_any g w)
  have Hs : Hid ((Try.prog.info? 23).map (·.size) = some 16) := Lib.hid (by kernel_rfl)
  have H0 := Lib.hid (NSt.start w 23 f g)
  clear h1 h2
  go_enter Try.func6, Try.ntmps6
  go_upto_region 2 with (fail)
  go_cut [19] (fun v wx => v = .bool (decide (0 ≤ i ∧ i < 16)) ∧ ((w.alloc (.cells (rowN 16 (blk f)) 23)).alloc (.cells (rowN 16 (blk g)) 23)) = wx)
  case first =>
    by_cases a : 0 ≤ i
    · by_cases b : i < 16
      · have e : decide (0 ≤ i ∧ i < 16) = true := decide_eq_true ⟨a, b⟩
        have He := Lib.hid e
        clear e
        go_wp2_with fail
        go_meet
        exact ⟨by rw [He.out]; try rfl, rfl⟩
      · have e : decide (0 ≤ i ∧ i < 16) = false := decide_eq_false fun h => b h.2
        have He := Lib.hid e
        clear e
        go_wp2_with fail
        go_meet
        exact ⟨by rw [He.out]; try rfl, rfl⟩
    · have e : decide (0 ≤ i ∧ i < 16) = false := decide_eq_false fun h => a h.1
      have He := Lib.hid e
      clear e
      go_wp2_with fail
      go_meet
      exact ⟨by rw [He.out]; try rfl, rfl⟩
  case rest =>
    obtain ⟨rfl, rfl⟩ := hcut
    go_upto_if 19 with (fail)
    go_cut [9] (fun v wx => v = .int .i64 (bandI i) ∧ ((w.alloc (.cells (rowN 16 (blk f)) 23)).alloc (.cells (rowN 16 (blk g)) 23)) = wx)
    case first =>
      by_cases p : 0 ≤ i ∧ i < 16
      · have e : bandI i = i / 4 := by unfold bandI; rw [if_pos p]
        rw [decide_eq_true p]
        have He := Lib.hid e
        obtain ⟨a, b⟩ := p
        have q1 : wrap64 (i.tdiv 4) = i / 4 := by rw [Int.tdiv_eq_ediv_of_nonneg a]; exact IntWalk.wrap64_in _ (by omega)
        clear e
        go_wp2_with fail
        go_meet
        exact ⟨by rw [He.out]; try rfl, rfl⟩
      · have e : bandI i = 0 := by unfold bandI; rw [if_neg p]
        rw [decide_eq_false p]
        have He := Lib.hid e
        clear e p
        go_wp2_with fail
        go_meet
        exact ⟨by rw [He.out]; try rfl, rfl⟩
    case rest =>
      obtain ⟨rfl, rfl⟩ := hcut
      go_upto_region 5 with (fail)
      go_cut [27] (fun v wx => v = .bool (decide (1 ≤ s ∧ s ≤ 23)) ∧ ((w.alloc (.cells (rowN 16 (blk f)) 23)).alloc (.cells (rowN 16 (blk g)) 23)) = wx)
      case first =>
        by_cases a : 1 ≤ s
        · by_cases b : s ≤ 23
          · have e : decide (1 ≤ s ∧ s ≤ 23) = true := decide_eq_true ⟨a, b⟩
            have He := Lib.hid e
            clear e
            go_wp2_with fail
            go_meet
            exact ⟨by rw [He.out]; try rfl, rfl⟩
          · have e : decide (1 ≤ s ∧ s ≤ 23) = false := decide_eq_false fun h => b h.2
            have He := Lib.hid e
            clear e
            go_wp2_with fail
            go_meet
            exact ⟨by rw [He.out]; try rfl, rfl⟩
        · have e : decide (1 ≤ s ∧ s ≤ 23) = false := decide_eq_false fun h => a h.1
          have He := Lib.hid e
          clear e
          go_wp2_with fail
          go_meet
          exact ⟨by rw [He.out]; try rfl, rfl⟩
      case rest =>
        obtain ⟨rfl, rfl⟩ := hcut
        go_upto_if 27 with (fail)
        go_cut [10] (fun v wx => v = .int .i64 (halfI s) ∧ ((w.alloc (.cells (rowN 16 (blk f)) 23)).alloc (.cells (rowN 16 (blk g)) 23)) = wx)
        case first =>
          by_cases p : 1 ≤ s ∧ s ≤ 23
          · have e : halfI s = pw s.toNat / 2 := by unfold halfI; rw [if_pos (by omega)]
            rw [decide_eq_true p]
            have He := Lib.hid e
            obtain ⟨a, b⟩ := p
            obtain ⟨n, rfl⟩ : ∃ n : Nat, s = n := ⟨s.toNat, by omega⟩
            have HP := Lib.hid (fun w => power_any n (by omega) w)
            have b0 := pw_pos n
            have b1 := pw_le n (by omega)
            rw [Int.toNat_natCast] at He
            clear e HHa
            generalize pw n = x at *
            have q1 : wrap64 (x.tdiv 2) = x / 2 := by rw [Int.tdiv_eq_ediv_of_nonneg (by omega)]; exact IntWalk.wrap64_in _ (by omega)
            go_wp2_with fail
            refine (HP.out _).mono ?_
            rintro e w' ⟨rfl, rfl⟩
            go_wp2_with fail
            go_meet
            exact ⟨by rw [He.out]; try rfl, rfl⟩
          · have e : halfI s = 0 := by
              unfold halfI
              by_cases z : s = 0
              · subst z; rfl
              · rw [if_neg (by omega)]
            rw [decide_eq_false p]
            have He := Lib.hid e
            clear e p
            go_wp2_with fail
            go_meet
            exact ⟨by rw [He.out]; try rfl, rfl⟩
        case rest =>
          obtain ⟨rfl, rfl⟩ := hcut
          generalize bandI i = ba at *
          generalize halfI s = ha at *
          go_wp2_with fail
          refine (HBa.out _).mono ?_
          rintro e w' ⟨rfl, rfl⟩
          go_wp2_with fail
          refine (HHa.out _).mono ?_
          rintro e w' ⟨rfl, rfl⟩
          by_cases nf : nearP f
          · have hnf := HNf.out
            rw [decide_eq_true nf] at hnf
            by_cases ng : nearP g
            · have hng := HNg.out
              rw [decide_eq_true ng] at hng
              have Hf := Lib.hid hnf
              have Hg := Lib.hid hng
              have HSu := Lib.hid (fun k h => farL_succ nf ng k h)
              have HBd := Lib.hid (fun k h => farL_bd nf ng k h)
              have HN1 := Lib.hid nf
              have HN2 := Lib.hid ng
              clear hnf hng nf ng HNf HNg HBa HHa
              go_wp2_with (with_reducible refine wpList_load_row_w (by kernel_rfl) 23 _ rfl w.heap.size rfl 23 (rowN 16 (blk f)) (0, 0) _ H0.out.a Try.underlying23 rfl (by rw [rowN_size]; exact Hs.out) ?_)
              refine (Hf.out _).mono ?_
              rintro e w1 ⟨rfl, ho⟩
              have H1 := Lib.hid (H0.out.keep ho)
              clear ho H0 Hf
              go_wp2_with (with_reducible refine wpList_load_row_w (by kernel_rfl) 23 _ rfl (w.heap.size + 1) rfl 23 (rowN 16 (blk g)) (0, 0) _ H1.out.b Try.underlying23 rfl (by rw [rowN_size]; exact Hs.out) ?_)
              refine (Hg.out _).mono ?_
              rintro e w2 ⟨rfl, ho⟩
              have H2 := Lib.hid (H1.out.keep ho)
              clear ho H1 Hg
              go_wp2_with fail
              go_loopw [11, 12] (fun x k' wr => ∃ k : Nat, k ≤ 16 ∧ k' = .int .i64 k ∧ x = .int .i64 (farL f g k) ∧ Hid (NSt w 23 f g wr)) (fun _ k' _ => 16 - (intOf k').toNat)
              case atStart => exact ⟨0, by omega, rfl, rfl, H2⟩
              case round =>
                obtain ⟨k, hk, rfl, rfl, hs⟩ := hrel
                obtain ⟨x0, x1⟩ := HBd.out k hk
                clear H2
                by_cases hlt : k < 16
                · have k1 : (0 : Int) ≤ k := by omega
                  have k2 : (k : Int) < 16 := by omega
                  have hsu := HSu.out k hlt
                  obtain ⟨y0, y1⟩ := HN1.out k hlt
                  obtain ⟨z0, z1⟩ := HN2.out k hlt
                  have ca := (cell_of_row _ _ _ _ _ _ hs.out.a).trans (blk_at 16 f k hlt)
                  have cb := (cell_of_row _ _ _ _ _ _ hs.out.b).trans (blk_at 16 g k hlt)
                  have H3 : Hid (NSt w 23 f g wr.drew) := Lib.hid (hs.out.keep (Old.drew (Old.refl _)))
                  have HS := Lib.hid hsu
                  clear hsu HSu HBd HN1 HN2 hs
                  generalize farL f g k = x at *
                  generalize f k = y at *
                  generalize g k = z at *
                  obtain ⟨d, hd⟩ : ∃ d, y - z = d := ⟨_, rfl⟩
                  have q1 : wrap64 (y - z) = d := by rw [hd]; exact IntWalk.wrap64_in _ (by omega)
                  have q2 : IntKind.i64.wrap (y - z) = d := by rw [hd]; exact IntWalk.i64_in _ (by omega)
                  rw [hd] at HS
                  have d0 : -2199023255552 ≤ d := by omega
                  have d1 : d ≤ 2199023255552 := by omega
                  clear hd y0 y1 z0 z1
                  go_wp2_with fail
                  go_region
                  go_wp2_with fail
                  all_goals
                    go_roundw
                    case rel => exact ⟨k + 1, by omega, by go_num, by rw [HS.out]; congr 1; omega, H3⟩
                    case measure => simp [intOf]; omega
                · obtain rfl : k = 16 := by omega
                  have ha := Lib.hid hs.out.a
                  have hb := Lib.hid hs.out.b
                  have HO := Lib.hid hs.out.old
                  have HN : Hid (∀ w, Calls Try.prog 19 #[.agg (rowN 16 (blk f)), .agg (rowN 16 (blk g))] w fun e w' => e = .returned (.int .i64 (farL f g 16)) ∧ Old w w') := HNo
                  clear hs HSu HBd HN1 HN2 HNo
                  generalize farL f g 16 = x at *
                  go_wp2_with (first | (with_reducible refine wpList_load_row_w (by kernel_rfl) 23 _ rfl w.heap.size rfl 23 (rowN 16 (blk f)) (0, 0) _ ha.out Try.underlying23 rfl (by rw [rowN_size]; exact Hs.out) ?_) | (with_reducible refine wpList_load_row_w (by kernel_rfl) 23 _ rfl (w.heap.size + 1) rfl 23 (rowN 16 (blk g)) (0, 0) _ hb.out Try.underlying23 rfl (by rw [rowN_size]; exact Hs.out) ?_))
                  refine (HN.out _).mono ?_
                  rintro e w4 ⟨rfl, ho⟩
                  have HO4 := Lib.hid (HO.out.trans ho)
                  clear ho HO
                  go_wp2_with fail
                  refine (HA.out _).mono ?_
                  rintro e w5 ⟨rfl, ho⟩
                  have HO5 := Lib.hid (HO4.out.trans ho)
                  clear ho
                  go_wp2_with fail
                  go_ret
                  exact ⟨rfl, HO5.out⟩
            · have hng := HNg.out
              rw [decide_eq_false ng] at hng
              have Hf := Lib.hid hnf
              have Hg := Lib.hid hng
              clear hnf hng nf ng HNf HNg HBa HHa HNo
              go_wp2_with (with_reducible refine wpList_load_row_w (by kernel_rfl) 23 _ rfl w.heap.size rfl 23 (rowN 16 (blk f)) (0, 0) _ H0.out.a Try.underlying23 rfl (by rw [rowN_size]; exact Hs.out) ?_)
              refine (Hf.out _).mono ?_
              rintro e w1 ⟨rfl, ho⟩
              have H1 := Lib.hid (H0.out.keep ho)
              clear ho H0 Hf
              go_wp2_with (with_reducible refine wpList_load_row_w (by kernel_rfl) 23 _ rfl (w.heap.size + 1) rfl 23 (rowN 16 (blk g)) (0, 0) _ H1.out.b Try.underlying23 rfl (by rw [rowN_size]; exact Hs.out) ?_)
              refine (Hg.out _).mono ?_
              rintro e w2 ⟨rfl, ho⟩
              have HO := Lib.hid (H1.out.keep ho).old
              clear ho H1 Hg
              go_wp2_with fail
              refine (HA.out _).mono ?_
              rintro e w3 ⟨rfl, ho⟩
              have HO3 := Lib.hid (HO.out.trans ho)
              clear ho
              go_wp2_with fail
              go_ret
              exact ⟨rfl, HO3.out⟩
          · have hnf := HNf.out
            rw [decide_eq_false nf] at hnf
            have Hf := Lib.hid hnf
            clear hnf nf HNf HNg HBa HHa HNo
            go_wp2_with (with_reducible refine wpList_load_row_w (by kernel_rfl) 23 _ rfl w.heap.size rfl 23 (rowN 16 (blk f)) (0, 0) _ H0.out.a Try.underlying23 rfl (by rw [rowN_size]; exact Hs.out) ?_)
            refine (Hf.out _).mono ?_
            rintro e w1 ⟨rfl, ho⟩
            have HO := Lib.hid (H0.out.keep ho).old
            clear ho H0 Hf
            go_wp2_with fail
            refine (HA.out _).mono ?_
            rintro e w3 ⟨rfl, ho⟩
            have HO3 := Lib.hid (HO.out.trans ho)
            clear ho
            go_wp2_with fail
            go_ret
            exact ⟨rfl, HO3.out⟩

theorem own : ownKnob Try.prog.godebug = none := by kernel_rfl
theorem laidOut : laidOutB Try.prog = true := by kernel_rfl

set_option maxRecDepth 100000 in
theorem lifted (os : Os) (started : os.Started) (H : Type) (enc : TypeId × Value → H) :
    ReturnsInHanded {} Try.checked os 6 .any (Rows.quantNoiseSpec.pre6 enc Try.prog Try.f6 Rows.quantNoiseRow.domain false) (Rows.quantNoiseSpec.post enc Try.prog Try.f6 false true false false) := by
  refine returnsInHanded_of_change (C := Try.checked) own started (by kernel_rfl) Try.func6
    (ChangeSpec.witness6 (enc := enc) (C := Try.checked) false ⟨#[], #[.agg #[.int .i64 0, .int .i64 0, .int .i64 0, .int .i64 0, .int .i64 0, .int .i64 0, .int .i64 0, .int .i64 0, .int .i64 0, .int .i64 0, .int .i64 0, .int .i64 0, .int .i64 0, .int .i64 0, .int .i64 0, .int .i64 0], .agg #[.int .i64 0, .int .i64 0, .int .i64 0, .int .i64 0, .int .i64 0, .int .i64 0, .int .i64 0, .int .i64 0, .int .i64 0, .int .i64 0, .int .i64 0, .int .i64 0, .int .i64 0, .int .i64 0, .int .i64 0, .int .i64 0], .int .i64 0, .int .i64 0], []⟩ 8 (by kernel_rfl) (by kernel_rfl) (by kernel_rfl) (by kernel_rfl)) ?_
  intro W base args ds gs before hval0 hW hcnd _
  have hval : ∀ (j : Nat) t v, Try.f6.params[j]? = some t → args[j]? = some v → Value.okWide Try.prog W .any base t v := hval0
  have hW' := hW
  have hlt : ∀ p ∈ before, p.block < W.heap.size := fun p hp => hW'.lt p hp
  obtain ⟨p, q, hA0, hV, rfl, hfz, hnd⟩ := hW
  have hA : DataW.TrodAll enc Try.prog W 0 (fun _ => true) true Try.f6.params.toList args.toList ds p := hA0
  rw [Try.params6] at hA hval
  obtain ⟨v0, vs0, d0, ds0, p0, q0, hargs, rfl, rfl, h0, r0⟩ := trodAll_cons hA
  obtain ⟨v1, vs1, d1, ds1, p1, q1, rfl, rfl, rfl, h1, r1⟩ := trodAll_cons r0
  obtain ⟨v2, vs2, d2, ds2, p2, q2, rfl, rfl, rfl, h2, r2⟩ := trodAll_cons r1
  obtain ⟨v3, vs3, d3, ds3, p3, q3, rfl, rfl, rfl, h3, r3⟩ := trodAll_cons r2
  obtain ⟨rfl, rfl, rfl⟩ := trodAll_nil r3
  obtain rfl : args = #[v0, v1, v2, v3] := by cases args; simp_all
  obtain ⟨rfl, rfl⟩ := trodVars_none hV
  obtain ⟨f0, rfl, hf0, hz0⟩ := open_ints64 Try.underlying23 Try.underlying2 (by kernel_rfl) (by kernel_rfl) (hval 0 23 v0 rfl rfl) h0
  obtain ⟨f1, rfl, hf1, hz1⟩ := open_ints64 Try.underlying23 Try.underlying2 (by kernel_rfl) (by kernel_rfl) (hval 1 23 v1 rfl rfl) h1
  obtain ⟨a2, rfl, _, _, w2⟩ := open_int Try.underlying3 (hval 2 3 v2 rfl rfl) h2
  obtain ⟨a3, rfl, _, _, w3⟩ := open_int Try.underlying3 (hval 3 3 v3 rfl rfl) h3
  refine (walk f0 f1 a2 a3 W (i64_of w2).1 (i64_of w2).2).mono fun e W' ⟨he, hg⟩ => ?_
  subst he
  exact ⟨_, rfl, law_done laidOut Try.underlying4 rfl (by kernel_rfl) rfl hW' rfl hg⟩

theorem over : Rows.quantNoiseRow.holds Try.pinned (OpenSpec.ofChange Rows.quantNoiseSpec) :=
  OpenClaim.holds_of_wide 6 Try.f6 rfl rfl rfl rfl rfl rfl rfl ⟨rfl, rfl, rfl, rfl, rfl⟩ rfl rfl rfl rfl rfl (by kernel_rfl) Try.func6 (by kernel_rfl)
    (of_decide_eq_true (by kernel_rfl)) (by unfold Func.isWrapper; first | (rw [if_pos (by decide +kernel)]; kernel_rfl) | (rw [if_neg (by decide +kernel)]; exact ⟨rfl, rfl⟩))
    (fun os started H enc _ => lifted os started H enc)

theorem proved : Rows.QuantNoiseSaid :=
  over
end Go.Proofs.Ythfbhmhkfmjbdaa.quantNoise
