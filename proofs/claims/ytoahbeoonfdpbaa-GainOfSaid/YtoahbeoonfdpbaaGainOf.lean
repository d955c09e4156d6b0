/- GainOf: a block has the gains that the chapter tells. -/
import Derived.Test.YtoahbeoonfdpbaaRows
import Derived.Test.YtoahbeoonfdpbaaAwake
namespace Go.Proofs.Ytoahbeoonfdpbaa.gainOf
open Go.ChangeShapes Go.WideShapes Go.ChangeAt Go.RowKit
set_option linter.unusedVariables false

/-- The gain that the law's own loop has found ahead of x. -/
theorem most_want (p t m : Int) (h : mostI p t = m) (h0 : 0 ≤ p) : (1 ≤ m ↔ 0 < p ∧ p * 2 ≤ t) ∧ (2 ≤ m ↔ 0 < p ∧ p * 4 ≤ t) ∧ (3 ≤ m ↔ 0 < p ∧ p * 8 ≤ t) ∧ 0 ≤ m ∧ m ≤ 3 := by
  unfold mostI at h
  refine ⟨?_, ?_, ?_, ?_, ?_⟩ <;> (revert h; split <;> (try split) <;> (try split) <;> omega)

theorem peak_le (f : Nat → Int) (a n : Nat) (s : Int) (h0 : 0 ≤ s) (h : ∀ i, i < n → absI (f (a + i)) ≤ s) : peakL (part f a n) ≤ s := by
  induction n with
  | zero => exact h0
  | succ n ih =>
    have h1 := ih fun i hi => h i (by omega)
    have h2 := h n (by omega)
    rw [peak_succ]; omega
theorem le_peak (f : Nat → Int) (a n i : Nat) (h : i < n) : absI (f (a + i)) ≤ peakL (part f a n) := by
  induction n with
  | zero => omega
  | succ n ih =>
    rw [peak_succ]
    by_cases e : i = n
    · subst e; omega
    · have := ih (by omega); omega
theorem peak_nonneg (f : Nat → Int) (a n : Nat) : 0 ≤ peakL (part f a n) := by
  induction n with
  | zero => exact Int.le_refl 0
  | succ n ih => rw [peak_succ]; omega
theorem peak_quarter (f : Nat → Int) (k : Nat) (h : k < 4) : peakL (part f (4 * k) 4) ≤ peakL (part f 0 16) :=
  peak_le _ _ _ _ (peak_nonneg _ _ _) fun i hi => by
    have := le_peak f 0 16 (4 * k + i) (by omega)
    rwa [Nat.zero_add] at this

structure GSt (w : World) (gb : Nat) (tb tg : TypeId) (f g : Nat → Int) (W : World) : Prop where
  b : W.heap[w.heap.size]? = some (.cells (rowN 16 (blk f)) tb (0, 0))
  g : W.heap[gb]? = some (.cells (rowN 4 (blk g)) tg (0, 0))
  old : Old w W
theorem GSt.keep {w W W' : World} {gb : Nat} {tb tg : TypeId} {f g : Nat → Int} (h : GSt w gb tb tg f g W) (k : Old W W') : GSt w gb tb tg f g W' :=
  ⟨(k.block _ (lt_of_block h.b)).trans h.b, (k.block _ (lt_of_block h.g)).trans h.g, h.old.trans k⟩

set_option maxRecDepth 100000 in
set_option maxHeartbeats 4000000 in
theorem walk (f : Nat → Int) (w : World) (h0 : ∀ k, 16 ≤ k → f k = 0) : Calls Try.prog 3 #[.agg (rowN 16 (blk f))] w fun e w' => e = .returned (.bool true) ∧ Old w w' := by
  have hnear := fun w => near_any f w
  have HA := Lib.hid (fun w => awake_any w)
  have Hs : Hid ((Try.prog.info? 23).map (·.size) = some 16) := Lib.hid (by kernel_rfl)
  have Hs4 : Hid ((Try.prog.info? 26).map (·.size) = some 4) := Lib.hid (by kernel_rfl)
  have hb : Hid ((w.alloc (.cells (rowN 16 (blk f)) 23)).heap[w.heap.size]? = some (.cells (rowN 16 (blk f)) 23 (0, 0))) := Lib.hid (heap_alloc_new _ _)
  by_cases hnr : nearP f
  · rw [decide_eq_true hnr] at hnear
    have HR := Lib.hid hnear
    have HOf := Lib.hid (fun w => Of_any f (near_fits hnr h0) w)
    have HPk := Lib.hid (fun a n hn w => peak_any f hnr a n hn w)
    have HPb := Lib.hid (fun a n hn => peak_near hnr a n hn)
    have HRt := Lib.hid (fun w => Right_any (gainOf f) w)
    have hri : decide (rightP (gainOf f)) = true := decide_eq_true fun k hk => mostI_bd _ _
    rw [hri] at HRt
    clear hnear hnr hri
    go_enter Try.func3, Try.ntmps3
    go_wp2_with (with_reducible refine wpList_load_row rfl 23 _ rfl w.heap.size rfl 23 (rowN 16 (blk f)) (0, 0) _ hb.out Try.underlying23 rfl (by rw [rowN_size]; exact Hs.out) ?_)
    refine (HR.out _).mono ?_
    rintro e w1 ⟨rfl, ho⟩
    have hb1 : Hid (w1.heap[w.heap.size]? = some (.cells (rowN 16 (blk f)) 23 (0, 0))) := Lib.hid ((ho.block _ (lt_of_block hb.out)).trans hb.out)
    have HO := Lib.hid ((Old.alloc w _).trans ho)
    clear ho HR hb
    go_wp2_with (with_reducible refine wpList_load_row rfl 23 _ rfl w.heap.size rfl 23 (rowN 16 (blk f)) (0, 0) _ hb1.out Try.underlying23 rfl (by rw [rowN_size]; exact Hs.out) ?_)
    refine (HOf.out _).mono ?_
    rintro e w2 ⟨rfl, ho⟩
    have hb2 : Hid (w2.heap[w.heap.size]? = some (.cells (rowN 16 (blk f)) 23 (0, 0))) := Lib.hid ((ho.block _ (lt_of_block hb1.out)).trans hb1.out)
    have HO2 := Lib.hid (HO.out.trans ho)
    clear ho HOf hb1 HO
    have H1 : Hid ((rowN 4 (blk (gainOf f))).all (·.oneCell') = true) := Lib.hid (blk_one _ _)
    have hsz := rowN_size 4 (blk (gainOf f))
    have hst : GSt w w2.heap.size 23 26 f (gainOf f) ((w2.alloc (.cells #[.int .i64 0, .int .i64 0, .int .i64 0, .int .i64 0] 26)).setRow w2.heap.size (rowN 4 (blk (gainOf f)))) := by
      rw [World.setRow_alloc_new]
      exact ⟨((Old.alloc w2 (.cells (rowN 4 (blk (gainOf f))) 26)).block _ (lt_of_block hb2.out)).trans hb2.out, heap_alloc_new _ _, HO2.out.alloc' _⟩
    have HS := Lib.hid hst
    have hb3 := Lib.hid hst.b
    clear hst hb2 HO2 hsz
    go_wp2_with (first | (with_reducible refine wpList_store_row rfl 26 _ _ rfl w2.heap.size (rowN 4 (blk (gainOf f))) rfl rfl 26 _ (heap_alloc_new _ _) (by rw [rowN_size]; exact Hs4.out) (by rw [rowN_size]; kernel_rfl) H1.out ?_) | (with_reducible refine wpList_load_row rfl 23 _ rfl w.heap.size rfl 23 (rowN 16 (blk f)) (0, 0) _ hb3.out Try.underlying23 rfl (by rw [rowN_size]; exact Hs.out) ?_))
    refine (HPk.out 0 16 (by omega) _).mono ?_
    rintro e w4 ⟨rfl, ho⟩
    have H4 := Lib.hid (HS.out.keep ho)
    obtain ⟨t0, t1⟩ := HPb.out 0 16 (by omega)
    obtain ⟨gb, hgb⟩ : ∃ gb, gb = w2.heap.size := ⟨_, rfl⟩
    obtain ⟨t, ht⟩ : ∃ t, t = peakL (part f 0 16) := ⟨_, rfl⟩
    rw [← ht] at t0 t1 ⊢
    rw [← hgb] at H4 ⊢
    have HT := Lib.hid ht
    clear ho HS ht hb3 hgb H1
    go_wp2_with fail
    go_loopw [5] (fun i wr => ∃ k : Nat, k ≤ 4 ∧ i = .int .i64 k ∧ Hid (GSt w gb 23 26 f (gainOf f) wr)) (fun i _ => 4 - (intOf i).toNat)
    case atStart => exact ⟨0, by omega, rfl, H4⟩
    case round =>
      obtain ⟨k, hk, rfl, hs⟩ := hrel
      clear H4
      by_cases hlt : k < 4
      · have k1 : (0 : Int) ≤ k := by omega
        have k2 : (k : Int) < 4 := by omega
        obtain ⟨p0, p1⟩ := HPb.out (4 * k) 4 (by omega)
        have pt := peak_quarter f k hlt
        rw [← HT.out] at pt
        have hm : gainOf f k = mostI (peakL (part f (4 * k) 4)) t := by rw [HT.out]; rfl
        have hpk := HPk.out (4 * k) 4 (by omega)
        rw [show ((4 * k : Nat) : Int) = 4 * (k : Int) by omega, show ((4 : Nat) : Int) = 4 from rfl] at hpk
        have hb5 := Lib.hid hs.out.b
        have HP := Lib.hid hpk
        clear hpk
        generalize peakL (part f (4 * k) 4) = p at *
        obtain ⟨m, hme⟩ : ∃ m, mostI p t = m := ⟨_, rfl⟩
        rw [hme] at hm
        obtain ⟨m1, m2, m3, m4, m5⟩ := most_want p t m hme p0
        have HM := Lib.hid hm
        clear hm hme HPb HPk
        go_wp2_with (with_reducible refine wpList_load_row rfl 23 _ rfl w.heap.size rfl 23 (rowN 16 (blk f)) (0, 0) _ hb5.out Try.underlying23 rfl (by rw [rowN_size]; exact Hs.out) ?_)
        refine (HP.out _).mono ?_
        rintro e w5 ⟨rfl, ho⟩
        have h5 := hs.out.keep ho
        have H5 := Lib.hid h5
        have hcg : w5.cell? ⟨gb, k, none⟩ = some (.int .i64 m) := by
          have := (cell_of_row _ _ _ _ _ _ h5.g).trans (blk_at 4 (gainOf f) k hlt)
          rwa [HM.out] at this
        have HCG := Lib.hid hcg
        clear ho hs hb5 HP h5 hcg HM
        go_wp2_with fail
        go_loop [7, 8] (fun v x => ∃ y : Nat, 1 ≤ y ∧ y ≤ 4 ∧ x = .int .i64 y ∧ v = .int .i64 (min m (y - 1))) (fun _ x => 4 - (intOf x).toNat)
        case atStart => exact ⟨1, by omega, by omega, rfl, by congr 1; omega⟩
        case round =>
          obtain ⟨y, y1, y2, rfl, rfl⟩ := hrel
          rcases (by omega : y = 1 ∨ y = 2 ∨ y = 3 ∨ y = 4) with rfl | rfl | rfl | rfl
          · have hpw := Lib.hid (power_any 1 (by omega) w5)
            rw [show pw 1 = 2 from rfl] at hpw
            clear HCG H5
            by_cases hp : 0 < p
            · by_cases hle : p * 2 ≤ t
              · go_wp2_with fail
                refine hpw.out.mono ?_
                rintro e w6 ⟨rfl, rfl⟩
                go_wp2_with fail
                go_round
                case rel => exact ⟨2, by omega, by omega, by go_num, by congr 1; omega⟩
                case measure => simp [intOf]
              · go_wp2_with fail
                refine hpw.out.mono ?_
                rintro e w6 ⟨rfl, rfl⟩
                go_wp2_with fail
                go_round
                case rel => exact ⟨2, by omega, by omega, by go_num, by congr 1; omega⟩
                case measure => simp [intOf]
            · go_wp2_with fail
              go_round
              case rel => exact ⟨2, by omega, by omega, by go_num, by congr 1; omega⟩
              case measure => simp [intOf]
          · have hpw := Lib.hid (power_any 2 (by omega) w5)
            rw [show pw 2 = 4 from rfl] at hpw
            clear HCG H5
            by_cases hp : 0 < p
            · by_cases hle : p * 4 ≤ t
              · go_wp2_with fail
                refine hpw.out.mono ?_
                rintro e w6 ⟨rfl, rfl⟩
                go_wp2_with fail
                go_round
                case rel => exact ⟨3, by omega, by omega, by go_num, by congr 1; omega⟩
                case measure => simp [intOf]
              · go_wp2_with fail
                refine hpw.out.mono ?_
                rintro e w6 ⟨rfl, rfl⟩
                go_wp2_with fail
                go_round
                case rel => exact ⟨3, by omega, by omega, by go_num, by congr 1; omega⟩
                case measure => simp [intOf]
            · go_wp2_with fail
              go_round
              case rel => exact ⟨3, by omega, by omega, by go_num, by congr 1; omega⟩
              case measure => simp [intOf]
          · have hpw := Lib.hid (power_any 3 (by omega) w5)
            rw [show pw 3 = 8 from rfl] at hpw
            clear HCG H5
            by_cases hp : 0 < p
            · by_cases hle : p * 8 ≤ t
              · go_wp2_with fail
                refine hpw.out.mono ?_
                rintro e w6 ⟨rfl, rfl⟩
                go_wp2_with fail
                go_round
                case rel => exact ⟨4, by omega, by omega, by go_num, by congr 1; omega⟩
                case measure => simp [intOf]
              · go_wp2_with fail
                refine hpw.out.mono ?_
                rintro e w6 ⟨rfl, rfl⟩
                go_wp2_with fail
                go_round
                case rel => exact ⟨4, by omega, by omega, by go_num, by congr 1; omega⟩
                case measure => simp [intOf]
            · go_wp2_with fail
              go_round
              case rel => exact ⟨4, by omega, by omega, by go_num, by congr 1; omega⟩
              case measure => simp [intOf]
          · have e4 : min m (((4 : Nat) : Int) - 1) = m := by omega
            rw [e4]
            clear e4
            rcases (by omega : m = 0 ∨ m = 1 ∨ m = 2 ∨ m = 3) with rfl | rfl | rfl | rfl
            · have hpw := Lib.hid (power_any 0 (by omega) w5)
              rw [show pw 0 = 1 from rfl] at hpw
              have hle : p * 1 ≤ t := by omega
              clear m1 m2 m3 m4 m5
              have hcg := HCG.out
              go_wp2_with fail
              refine hpw.out.mono ?_
              rintro e w6 ⟨rfl, rfl⟩
              go_wp2_with fail
              go_roundw
              case rel => exact ⟨k + 1, by omega, by go_num, H5⟩
              case measure => simp [intOf]; omega
            · have hpw := Lib.hid (power_any 1 (by omega) w5)
              rw [show pw 1 = 2 from rfl] at hpw
              have hle : p * 2 ≤ t := by omega
              clear m1 m2 m3 m4 m5
              have hcg := HCG.out
              go_wp2_with fail
              refine hpw.out.mono ?_
              rintro e w6 ⟨rfl, rfl⟩
              go_wp2_with fail
              go_roundw
              case rel => exact ⟨k + 1, by omega, by go_num, H5⟩
              case measure => simp [intOf]; omega
            · have hpw := Lib.hid (power_any 2 (by omega) w5)
              rw [show pw 2 = 4 from rfl] at hpw
              have hle : p * 4 ≤ t := by omega
              clear m1 m2 m3 m4 m5
              have hcg := HCG.out
              go_wp2_with fail
              refine hpw.out.mono ?_
              rintro e w6 ⟨rfl, rfl⟩
              go_wp2_with fail
              go_roundw
              case rel => exact ⟨k + 1, by omega, by go_num, H5⟩
              case measure => simp [intOf]; omega
            · have hpw := Lib.hid (power_any 3 (by omega) w5)
              rw [show pw 3 = 8 from rfl] at hpw
              have hle : p * 8 ≤ t := by omega
              clear m1 m2 m3 m4 m5
              have hcg := HCG.out
              go_wp2_with fail
              refine hpw.out.mono ?_
              rintro e w6 ⟨rfl, rfl⟩
              go_wp2_with fail
              go_roundw
              case rel => exact ⟨k + 1, by omega, by go_num, H5⟩
              case measure => simp [intOf]; omega
      · obtain rfl : k = 4 := by omega
        have hb6 := Lib.hid hs.out.g
        have HO6 := Lib.hid hs.out.old
        clear hs
        go_wp2_with (with_reducible refine wpList_load_row rfl 26 _ rfl gb rfl 26 (rowN 4 (blk (gainOf f))) (0, 0) _ hb6.out Try.underlying26 rfl (by rw [rowN_size]; exact Hs4.out) ?_)
        refine (HRt.out _).mono ?_
        rintro e w7 ⟨rfl, ho⟩
        have HO7 := Lib.hid (HO6.out.trans ho)
        clear ho HO6 hb6
        go_wp2_with fail
        refine (HA.out _).mono ?_
        rintro e w8 ⟨rfl, ho⟩
        have HO8 := Lib.hid (HO7.out.trans ho)
        clear ho
        go_wp2_with fail
        go_ret
        exact ⟨rfl, HO8.out⟩
  · rw [decide_eq_false hnr] at hnear
    have HR := Lib.hid hnear
    clear hnear hnr
    go_enter Try.func3, Try.ntmps3
    go_wp2_with (with_reducible refine wpList_load_row rfl 23 _ rfl w.heap.size rfl 23 (rowN 16 (blk f)) (0, 0) _ hb.out Try.underlying23 rfl (by rw [rowN_size]; exact Hs.out) ?_)
    refine (HR.out _).mono ?_
    rintro e w1 ⟨rfl, ho⟩
    have HO := Lib.hid ho
    clear ho HR
    go_wp2_with fail
    refine (HA.out _).mono ?_
    rintro e w2 ⟨rfl, ho2⟩
    have HO2 := Lib.hid ho2
    clear ho2
    go_wp2_with fail
    go_ret
    exact ⟨rfl, ((Old.alloc w _).trans HO.out).trans HO2.out⟩

theorem own : ownKnob Try.prog.godebug = none := by kernel_rfl
theorem laidOut : laidOutB Try.prog = true := by kernel_rfl

set_option maxRecDepth 100000 in
theorem lifted (os : Os) (started : os.Started) (H : Type) (enc : TypeId × Value → H) :
    ReturnsInHanded {} Try.checked os 3 .any (Rows.gainOfSpec.pre6 enc Try.prog Try.f3 Rows.gainOfRow.domain false) (Rows.gainOfSpec.post enc Try.prog Try.f3 false true false false) := by
  refine returnsInHanded_of_change (C := Try.checked) own started (by kernel_rfl) Try.func3
    (ChangeSpec.witness6 (enc := enc) (C := Try.checked) false ⟨#[], #[.agg #[.int .i64 0, .int .i64 0, .int .i64 0, .int .i64 0, .int .i64 0, .int .i64 0, .int .i64 0, .int .i64 0, .int .i64 0, .int .i64 0, .int .i64 0, .int .i64 0, .int .i64 0, .int .i64 0, .int .i64 0, .int .i64 0]], []⟩ 8 (by kernel_rfl) (by kernel_rfl) (by kernel_rfl) (by kernel_rfl)) ?_
  intro W base args ds gs before hval0 hW hcnd _
  have hval : ∀ (j : Nat) t v, Try.f3.params[j]? = some t → args[j]? = some v → Value.okWide Try.prog W .any base t v := hval0
  have hW' := hW
  have hlt : ∀ p ∈ before, p.block < W.heap.size := fun p hp => hW'.lt p hp
  obtain ⟨p, q, hA0, hV, rfl, hfz, hnd⟩ := hW
  have hA : DataW.TrodAll enc Try.prog W 0 (fun _ => true) true Try.f3.params.toList args.toList ds p := hA0
  rw [Try.params3] at hA hval
  obtain ⟨v0, vs0, d0, ds0, p0, q0, hargs, rfl, rfl, h0, r0⟩ := trodAll_cons hA
  obtain ⟨rfl, rfl, rfl⟩ := trodAll_nil r0
  obtain rfl : args = #[v0] := by cases args; simp_all
  obtain ⟨rfl, rfl⟩ := trodVars_none hV
  obtain ⟨f0, rfl, hf0, hz0⟩ := open_ints64 Try.underlying23 Try.underlying2 (by kernel_rfl) (by kernel_rfl) (hval 0 23 v0 rfl rfl) h0
  refine (walk f0 W hz0).mono fun e W' ⟨he, hg⟩ => ?_
  subst he
  exact ⟨_, rfl, law_done laidOut Try.underlying4 rfl (by kernel_rfl) rfl hW' rfl hg⟩

theorem over : Rows.gainOfRow.holds Try.pinned (OpenSpec.ofChange Rows.gainOfSpec) :=
  OpenClaim.holds_of_wide 3 Try.f3 rfl rfl rfl rfl rfl rfl rfl ⟨rfl, rfl, rfl, rfl, rfl⟩ rfl rfl rfl rfl rfl (by kernel_rfl) Try.func3 (by kernel_rfl)
    (of_decide_eq_true (by kernel_rfl)) (by unfold Func.isWrapper; first | (rw [if_pos (by decide +kernel)]; kernel_rfl) | (rw [if_neg (by decide +kernel)]; exact ⟨rfl, rfl⟩))
    (fun os started H enc _ => lifted os started H enc)

theorem proved : Rows.GainOfSaid :=
  over
end Go.Proofs.Ytoahbeoonfdpbaa.gainOf
