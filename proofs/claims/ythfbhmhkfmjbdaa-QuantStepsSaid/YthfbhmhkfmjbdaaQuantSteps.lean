/- QuantSteps: how many steps any numbers are, what these are, and that they are near. -/
import Derived.Test.YthfbhmhkfmjbdaaRows
import Derived.Test.YthfbhmhkfmjbdaaAwake
import Derived.Deep.RegionHeld
namespace Go.Proofs.Ythfbhmhkfmjbdaa.quantSteps
open Go.ChangeShapes Go.WideShapes Go.ChangeAt Go.RowKit
set_option linter.unusedVariables false

theorem div_is (a b c : Int) (hb : 0 < b) (h1 : c * b ≤ a) (h2 : a < (c + 1) * b) : a / b = c := by
  have l1 := Int.le_ediv_of_mul_le hb h1
  have l2 := Int.ediv_lt_of_lt_mul hb h2
  omega
/-- A number of steps, halves away from 0, and how far its number is. -/
theorem near_is (x p : Int) (hp : 1 ≤ p) : nearI x p = (if x < 0 then -((2 * -x + p) / (2 * p)) else (2 * x + p) / (2 * p)) ∧ -(p / 2) ≤ nearI x p * p - x ∧ nearI x p * p - x ≤ p / 2 := by
  have e := Int.mul_ediv_add_emod x p
  have r0 := Int.emod_nonneg x (show p ≠ 0 by omega)
  have r1 := Int.emod_lt_of_pos x (show 0 < p by omega)
  have hz : x = 0 → x % p = 0 := fun h => by rw [h, Int.zero_emod]
  unfold nearI
  generalize x % p = r at *
  generalize x / p = q at *
  have e1 : q * p = p * q := Int.mul_comm _ _
  have e2 : (q + 1) * p = p * q + p := by rw [Int.add_mul, e1]; omega
  have e3 : ∀ c : Int, c * (2 * p) = 2 * (c * p) := fun c => by rw [← Int.mul_assoc, Int.mul_comm c 2, Int.mul_assoc]
  have e4 : -q * p = -(p * q) := by rw [Int.neg_mul, e1]
  have e5 : (-q + 1) * p = -(p * q) + p := by rw [Int.add_mul, e4]; omega
  have e6 : (-q - 1) * p = -(p * q) - p := by rw [Int.sub_mul, e4]; omega
  have e7 : (q + 1 + 1) * p = p * q + p + p := by rw [Int.add_mul, e2]; omega
  have e8 : (-q - 1 + 1) * p = -(p * q) := by rw [Int.add_mul, e6]; omega
  generalize p * q = t at *
  by_cases up : p < 2 * r ∨ (2 * r = p ∧ 0 < x)
  · rw [if_pos up]
    refine ⟨?_, by rw [e2]; omega, by rw [e2]; omega⟩
    by_cases n : x < 0
    · rw [if_pos n, div_is _ _ (-q - 1) (by omega) (by rw [e3, e6]; omega) (by rw [e3, e8]; omega)]; omega
    · rw [if_neg n, div_is _ _ (q + 1) (by omega) (by rw [e3, e2]; omega) (by rw [e3, e7]; omega)]
  · rw [if_neg up]
    refine ⟨?_, by rw [e1]; omega, by rw [e1]; omega⟩
    by_cases n : x < 0
    · rw [if_pos n, div_is _ _ (-q) (by omega) (by rw [e3, e4]; omega) (by rw [e3, e5]; omega)]; omega
    · rw [if_neg n, div_is _ _ q (by omega) (by rw [e3, e1]; omega) (by rw [e3, e2]; omega)]
theorem near_fits (x p : Int) (hp : 1 ≤ p) (h1 : -9223372036854775808 ≤ x) (h2 : x ≤ 9223372036854775807) : -9223372036854775808 ≤ nearI x p ∧ nearI x p ≤ 9223372036854775807 := by
  obtain ⟨b1, b2, b3, b4, b5⟩ := quot_bd x p hp h1 h2
  unfold nearI
  generalize x % p = r at *
  generalize x / p = q at *
  split
  · have := b5 (by omega)
    omega
  · omega
theorem told_fits (f s : Nat → Int) (hf : Fits64 f) : Fits64 (toldR stepI f s) := fun k => by
  unfold toldR
  split
  · exact near_fits _ _ (pw_pos _) (hf k).1 (hf k).2
  · exact ⟨by show (-9223372036854775808 : Int) ≤ 0; omega, by show (0 : Int) ≤ 9223372036854775807; omega⟩

structure QSt (w : World) (qb vb : Nat) (tb ts : TypeId) (f s q v : Nat → Int) (W : World) : Prop where
  a : W.heap[w.heap.size]? = some (.cells (rowN 16 (blk f)) tb (0, 0))
  b : W.heap[w.heap.size + 1]? = some (.cells (rowN 4 (blk s)) ts (0, 0))
  q : W.heap[qb]? = some (.cells (rowN 16 (blk q)) tb (0, 0))
  v : W.heap[vb]? = some (.cells (rowN 16 (blk v)) tb (0, 0))
  old : Old w W
theorem QSt.keep {w W W' : World} {qb vb : Nat} {tb ts : TypeId} {f s q v : Nat → Int} (h : QSt w qb vb tb ts f s q v W) (k : Old W W') : QSt w qb vb tb ts f s q v W' :=
  ⟨(k.block _ (lt_of_block h.a)).trans h.a, (k.block _ (lt_of_block h.b)).trans h.b, (k.block _ (lt_of_block h.q)).trans h.q, (k.block _ (lt_of_block h.v)).trans h.v, h.old.trans k⟩

set_option maxRecDepth 100000 in
set_option maxHeartbeats 4000000 in
theorem walk (f s : Nat → Int) (w : World) (hf : Fits64 f) : Calls Try.prog 3 #[.agg (rowN 16 (blk f)), .agg (rowN 4 (blk s))] w fun e w' => e = .returned (.bool true) ∧ Old w w' := by
  have HA := Lib.hid (fun w => awake_any w)
  have HQ := Lib.hid (fun w => Steps_any f s w hf)
  have HV := Lib.hid (fun w => Values_any (toldR stepI f s) s w (told_fits f s hf))
  have HRt := Lib.hid (fun w => SRight_any s w)
  have Hrt := Lib.hid (fun w => right_any s w)
  have Hs16 : Hid ((Try.prog.info? 23).map (·.size) = some 16) := Lib.hid (by kernel_rfl)
  have Hs4 : Hid ((Try.prog.info? 24).map (·.size) = some 4) := Lib.hid (by kernel_rfl)
  obtain ⟨W0, hW0⟩ : ∃ W0, W0 = ((w.alloc (.cells (rowN 16 (blk f)) 23)).alloc (.cells (rowN 4 (blk s)) 24)) := ⟨_, rfl⟩
  have ha0 : W0.heap[w.heap.size]? = some (.cells (rowN 16 (blk f)) 23 (0, 0)) := by rw [hW0]; exact heap_alloc2_old w _ _
  have hb0 : W0.heap[w.heap.size + 1]? = some (.cells (rowN 4 (blk s)) 24 (0, 0)) := by rw [hW0]; exact heap_alloc2_new w _ _
  have ho0 : Old w W0 := by rw [hW0]; exact (Old.alloc w _).alloc' _
  have Ha0 := Lib.hid ha0
  have Hb0 := Lib.hid hb0
  have HO0 := Lib.hid ho0
  have HD : Hid (∀ k, k < 16 → scalesP s → toldR stepI f s k = nearI (f k) (pw (s (k / 4)).toNat) ∧ toldR valI (toldR stepI f s) s k = wrap64 (nearI (f k) (pw (s (k / 4)).toNat) * pw (s (k / 4)).toNat)) := fun k hk r => by
    have e : toldR stepI f s = toldF stepI f s := by unfold toldR; rw [if_pos r]
    have e2 : toldR valI (toldF stepI f s) s = toldF valI (toldF stepI f s) s := by unfold toldR; rw [if_pos r]
    rw [e, e2]
    exact ⟨rfl, rfl⟩
  have HE : Hid (¬ scalesP s → toldR stepI f s = (fun _ => 0) ∧ toldR valI (toldR stepI f s) s = fun _ => 0) := fun r => by
    have e : toldR stepI f s = fun _ => 0 := by unfold toldR; rw [if_neg r]
    rw [e]
    exact ⟨rfl, by unfold toldR; rw [if_neg r]⟩
  clear hf ha0 hb0 ho0
  generalize toldR valI (toldR stepI f s) s = v at *
  generalize toldR stepI f s = q at *
  have HNe := Lib.hid (fun w => near_any f w)
  go_enter Try.func3, Try.ntmps3
  go_upto_region 1 with (fail)
  rw [← hW0]
  clear hW0
  go_wp2_with (first | (with_reducible refine wpList_load_row_w (by kernel_rfl) 23 _ rfl w.heap.size rfl 23 (rowN 16 (blk f)) (0, 0) _ Ha0.out Try.underlying23 rfl (by rw [rowN_size]; exact Hs16.out) ?_) | (with_reducible refine wpList_load_row_w (by kernel_rfl) 24 _ rfl (w.heap.size + 1) rfl 24 (rowN 4 (blk s)) (0, 0) _ Hb0.out Try.underlying24 rfl (by rw [rowN_size]; exact Hs4.out) ?_))
  refine (HQ.out _).mono ?_
  rintro e w1 ⟨rfl, ho⟩
  obtain ⟨W1, hW1⟩ : ∃ W1, W1 = w1.alloc (.cells (rowN 16 (blk q)) 23) := ⟨_, rfl⟩
  obtain ⟨qb, hqb⟩ : ∃ qb, qb = w1.heap.size := ⟨_, rfl⟩
  have h1 : Old W0 W1 := by rw [hW1]; exact ho.alloc' _
  have Hq1 : Hid (W1.heap[qb]? = some (.cells (rowN 16 (blk q)) 23 (0, 0))) := Lib.hid (by rw [hW1, hqb]; exact heap_alloc_new _ _)
  have Ha1 := Lib.hid ((h1.block _ (lt_of_block Ha0.out)).trans Ha0.out)
  have Hb1 := Lib.hid ((h1.block _ (lt_of_block Hb0.out)).trans Hb0.out)
  have HO1 := Lib.hid (HO0.out.trans h1)
  have H1 : Hid ((rowN 16 (blk q)).all (·.oneCell') = true) := Lib.hid (blk_one _ _)
  have HW1 := Lib.hid hW1
  have HQB := Lib.hid hqb
  clear h1 ho Ha0 Hb0 HO0 hW1 hqb HQ
  go_wp2_with (first | (with_reducible refine wpList_store_row rfl 23 _ _ rfl w1.heap.size (rowN 16 (blk q)) rfl rfl 23 _ (heap_alloc_new _ _) (by rw [rowN_size]; exact Hs16.out) (by rw [rowN_size]; kernel_rfl) H1.out ?_; rw [World.setRow_alloc_new, ← HW1.out, ← HQB.out]) | (with_reducible refine wpList_load_row_w (by kernel_rfl) 23 _ rfl qb rfl 23 (rowN 16 (blk q)) (0, 0) _ Hq1.out Try.underlying23 rfl (by rw [rowN_size]; exact Hs16.out) ?_) | (with_reducible refine wpList_load_row_w (by kernel_rfl) 24 _ rfl (w.heap.size + 1) rfl 24 (rowN 4 (blk s)) (0, 0) _ Hb1.out Try.underlying24 rfl (by rw [rowN_size]; exact Hs4.out) ?_))
  refine (HV.out _).mono ?_
  rintro e w2 ⟨rfl, ho⟩
  obtain ⟨W2, hW2⟩ : ∃ W2, W2 = w2.alloc (.cells (rowN 16 (blk v)) 23) := ⟨_, rfl⟩
  obtain ⟨vb, hvb⟩ : ∃ vb, vb = w2.heap.size := ⟨_, rfl⟩
  have h2 : Old W1 W2 := by rw [hW2]; exact ho.alloc' _
  have hst : QSt w qb vb 23 24 f s q v W2 := ⟨(h2.block _ (lt_of_block Ha1.out)).trans Ha1.out, (h2.block _ (lt_of_block Hb1.out)).trans Hb1.out, (h2.block _ (lt_of_block Hq1.out)).trans Hq1.out, by rw [hW2, hvb]; exact heap_alloc_new _ _, HO1.out.trans h2⟩
  have HS := Lib.hid hst
  have H2 : Hid ((rowN 16 (blk v)).all (·.oneCell') = true) := Lib.hid (blk_one _ _)
  have HW2 := Lib.hid hW2
  have HVB := Lib.hid hvb
  have keep1 : ∀ V : World, Old W2.drew V → V.heap[w.heap.size + 1]? = some (.cells (rowN 4 (blk s)) 24 (0, 0)) := fun V hV => (hV.block _ (lt_of_block HS.out.b)).trans HS.out.b
  have HK := Lib.hid keep1
  clear keep1 hst h2 ho Ha1 Hb1 Hq1 HO1 hW2 hvb HV
  go_wp2_with (with_reducible refine wpList_store_row rfl 23 _ _ rfl w2.heap.size (rowN 16 (blk v)) rfl rfl 23 _ (heap_alloc_new _ _) (by rw [rowN_size]; exact Hs16.out) (by rw [rowN_size]; kernel_rfl) H2.out ?_; rw [World.setRow_alloc_new, ← HW2.out, ← HVB.out])
  clear HW1 HQB HW2 HVB H1 H2
  by_cases r : scalesP s
  · have hR := HRt.out
    have hr := Hrt.out
    rw [decide_eq_true r] at hR hr
    clear HRt Hrt
    have HRt := Lib.hid hR
    have Hrt := Lib.hid hr
    have HX := Lib.hid r
    clear hR hr r HE
    refine wp_region_held_drew (S := (fun w' => w'.heap[w.heap.size + 1]? = some (.cells (rowN 4 (blk s)) 24 (0, 0)))) (by kernel_rfl) ?_ (fun hHeld => ?_)
    · (try dsimp only); first | exact HK.out _ (Old.refl _) | exact HK.out _ hV1 | exact HK.out _ (hV1.trans hV2)
    refine wpAnyH_take (i := 0) (oi := ⟨some _, _, _, _, _, _⟩) (v := .agg (rowN 4 (blk s))) rfl (by kernel_rfl) (by kernel_rfl) (by kernel_rfl) (fun _ _ _ h => h) (yieldsIf_load_row (by kernel_rfl) 24 (.tmp 3) rfl (w.heap.size + 1) rfl 24 (rowN 4 (blk s)) (0, 0) _ (fun _ h => h) Try.underlying24 rfl (by rw [rowN_size]; exact Hs4.out)) (by assumption) ?_; try simp only [Act.put, List.setIfInBounds_toArray, List.set_cons_zero, List.set_cons_succ]
    refine wpAnyH_take (i := 2) (oi := ⟨some _, _, _, _, _, _⟩) (v := .agg (rowN 4 (blk s))) rfl (by kernel_rfl) (by kernel_rfl) (by kernel_rfl) (fun _ _ _ h => h) (yieldsIf_load_row (by kernel_rfl) 24 (.tmp 3) rfl (w.heap.size + 1) rfl 24 (rowN 4 (blk s)) (0, 0) _ (fun _ h => h) Try.underlying24 rfl (by rw [rowN_size]; exact Hs4.out)) (by assumption) ?_; try simp only [Act.put, List.setIfInBounds_toArray, List.set_cons_zero, List.set_cons_succ]
    refine wpAnyH_ready (rs := [1]) (by kernel_rfl) (by simp) ?_
    refine AllReadyH.cons (o := ⟨some _, _, _, _, _, _⟩) rfl (fun K hK => ?_) AllReadyH.nil
    go_simp
    refine (HRt.out _).mono ?_; rintro e V1 ⟨rfl, hV1⟩
    go_wp2_with fail
    refine hK.out _ _ ?_ (fun hHeld => ?_)
    · (try dsimp only); first | exact HK.out _ (Old.refl _) | exact HK.out _ hV1 | exact HK.out _ (hV1.trans hV2)
    clear hK K
    try simp only [Act.put, List.setIfInBounds_toArray, List.set_cons_zero, List.set_cons_succ]
    refine wpAnyH_ready (rs := [3]) (by kernel_rfl) (by simp) ?_
    refine AllReadyH.cons (o := ⟨some _, _, _, _, _, _⟩) rfl (fun K hK => ?_) AllReadyH.nil
    go_simp
    refine (Hrt.out _).mono ?_; rintro e V2 ⟨rfl, hV2⟩
    go_wp2_with fail
    refine hK.out _ _ ?_ (fun hHeld => ?_)
    · (try dsimp only); first | exact HK.out _ (Old.refl _) | exact HK.out _ hV1 | exact HK.out _ (hV1.trans hV2)
    clear hK K
    try simp only [Act.put, List.setIfInBounds_toArray, List.set_cons_zero, List.set_cons_succ]
    refine wpAnyH_take (i := 4) (oi := ⟨some _, _, _, _, _, _⟩) (v := ?_) rfl (by kernel_rfl) (by kernel_rfl) (by kernel_rfl) (fun _ _ _ h => h) (Or.inl ⟨by kernel_rfl, ?_⟩) (by assumption) ?_; rotate_left; (intro w hSw; (try dsimp only at hSw); go_simp; try with_reducible rfl); try simp only [Act.put, List.setIfInBounds_toArray, List.set_cons_zero, List.set_cons_succ]
    refine wpAnyH_done (by kernel_rfl) ?_ _
    have HS3 := Lib.hid (HS.out.keep (((Old.drew (Old.refl _)).trans hV1).trans hV2))
    clear hV1 hV2 HK HS
    go_wp2_with (with_reducible refine wpList_load_row_w (by kernel_rfl) 24 _ rfl (w.heap.size + 1) rfl 24 (rowN 4 (blk s)) (0, 0) _ HS3.out.b Try.underlying24 rfl (by rw [rowN_size]; exact Hs4.out) ?_)
    refine (Hrt.out _).mono ?_
    rintro e w3 ⟨rfl, ho⟩
    have HS4 := Lib.hid (HS3.out.keep ho)
    clear ho HS3
    by_cases nf : nearP f
    · have hn := HNe.out
      rw [decide_eq_true nf] at hn
      have HNf := Lib.hid hn
      have HNr := Lib.hid nf
      clear hn nf HNe
      go_wp2_with (with_reducible refine wpList_load_row_w (by kernel_rfl) 23 _ rfl w.heap.size rfl 23 (rowN 16 (blk f)) (0, 0) _ HS4.out.a Try.underlying23 rfl (by rw [rowN_size]; exact Hs16.out) ?_)
      refine (HNf.out _).mono ?_
      rintro e w4 ⟨rfl, ho⟩
      have HS5 := Lib.hid (HS4.out.keep ho)
      clear ho HS4
      go_wp2_with fail
      go_loop [7] (fun i => ∃ k : Nat, k ≤ 16 ∧ i = .int .i64 k) (fun i => 16 - (intOf i).toNat)
      case atStart => exact ⟨0, by omega, rfl⟩
      case round =>
        obtain ⟨k, hk, rfl⟩ := hrel
        by_cases hlt : k < 16
        · have k1 : (0 : Int) ≤ k := by omega
          have k2 : (k : Int) < 16 := by omega
          obtain ⟨d1, d2⟩ := HD.out k hlt HX.out
          have m0 : 0 ≤ (k : Int) / 4 := by omega
          have m1 : (k : Int) / 4 < 4 := by omega
          have hr := HX.out (k / 4) (by omega)
          obtain ⟨n, hn⟩ : ∃ n : Nat, s (k / 4) = n := ⟨(s (k / 4)).toNat, by omega⟩
          rw [hn, Int.toNat_natCast] at d1 d2
          have HP := Lib.hid (fun w => power_any n (by omega) w)
          have hh : halfI (n : Int) = pw n / 2 := by unfold halfI; rw [if_pos (by omega), Int.toNat_natCast]
          have hHH := fun w => Half_any (n : Int) w
          rw [hh] at hHH
          have HH := Lib.hid hHH
          have p0 := pw_pos n
          have p1 := pw_mono n 23 (by omega)
          rw [show pw 23 = 8388608 from rfl] at p1
          obtain ⟨x0, x1⟩ := HNr.out k hlt
          have ca := (cell_of_row _ _ _ _ _ _ HS5.out.a).trans (blk_at 16 f k hlt)
          have cb := (cell_of_row _ _ _ _ _ _ HS5.out.b).trans (blk_at 4 s (k / 4) (by omega))
          have cq := (cell_of_row _ _ _ _ _ _ HS5.out.q).trans (blk_at 16 q k hlt)
          have cv := (cell_of_row _ _ _ _ _ _ HS5.out.v).trans (blk_at 16 v k hlt)
          rw [hn] at cb
          rw [d1] at cq
          rw [d2] at cv
          clear d1 d2 hr hn hh hHH HD HX HNr HS5 hlt
          generalize f k = x at *
          generalize pw n = p at *
          obtain ⟨n1, n2, n3⟩ := near_is x p p0
          generalize nearI x p = y at *
          obtain ⟨P, hP⟩ : ∃ P, y * p = P := ⟨_, rfl⟩
          rw [hP] at n2 n3 cv
          have hP2 : wrap64 P = P := IntWalk.wrap64_in _ (by omega)
          rw [hP2] at cv
          obtain ⟨d, hd⟩ : ∃ d, P - x = d := ⟨_, rfl⟩
          have q5 : wrap64 (P - x) = d := by rw [hd]; exact IntWalk.wrap64_in _ (by omega)
          rw [hd] at n2 n3
          have hPy : wrap64 (y * p) = P := by rw [hP, hP2]
          by_cases ng : x < 0
          · rw [if_pos ng] at n1
            obtain ⟨N, hN⟩ : ∃ N, (2 * -x + p) / (2 * p) = N := ⟨_, rfl⟩
            rw [hN] at n1
            have N0 : 0 ≤ N := by rw [← hN]; exact Int.ediv_nonneg (by omega) (by omega)
            have N1 : N ≤ 2 * -x + p := by rw [← hN]; exact Int.ediv_le_self _ (by omega)
            have q7 : wrap64 ((2 * -x + p).tdiv (2 * p)) = N := by rw [Int.tdiv_eq_ediv_of_nonneg (by omega), hN]; exact IntWalk.wrap64_in _ (by omega)
            have q9 : wrap64 N = N := IntWalk.wrap64_in _ (by omega)
            have q8 : wrap64 (-N) = y := by rw [n1]; exact IntWalk.wrap64_in _ (by omega)
            clear n1 hP hP2 hd N0 N1
            go_wp2_with fail
            refine (HP.out _).mono ?_
            rintro e w5 ⟨rfl, rfl⟩
            go_wp2_with fail
            refine (HH.out _).mono ?_
            rintro e w5 ⟨rfl, rfl⟩
            go_wp2_with fail
            go_round
            case rel => exact ⟨k + 1, by omega, by go_num⟩
            case measure => simp [intOf]; omega
          · have ng' : 0 ≤ x := by omega
            rw [if_neg ng] at n1
            have N0 : 0 ≤ y := by rw [n1]; exact Int.ediv_nonneg (by omega) (by omega)
            have N1 : y ≤ 2 * x + p := by rw [n1]; exact Int.ediv_le_self _ (by omega)
            have q7 : wrap64 ((2 * x + p).tdiv (2 * p)) = y := by rw [Int.tdiv_eq_ediv_of_nonneg (by omega), ← n1]; exact IntWalk.wrap64_in _ (by omega)
            have q8 : (2 * x + p) / (2 * p) = y := n1.symm
            have q9 : wrap64 y = y := IntWalk.wrap64_in _ (by omega)
            clear n1 hP hP2 hd ng N0 N1
            go_wp2_with fail
            refine (HP.out _).mono ?_
            rintro e w5 ⟨rfl, rfl⟩
            go_wp2_with fail
            refine (HH.out _).mono ?_
            rintro e w5 ⟨rfl, rfl⟩
            go_wp2_with fail
            go_round
            case rel => exact ⟨k + 1, by omega, by go_num⟩
            case measure => simp [intOf]; omega
        · obtain rfl : k = 16 := by omega
          have HO := Lib.hid HS5.out.old
          clear HD HS5
          go_wp2_with fail
          refine (HA.out _).mono ?_
          rintro e w5 ⟨rfl, ho⟩
          have HO5 := Lib.hid (HO.out.trans ho)
          clear ho
          go_wp2_with fail
          go_ret
          exact ⟨rfl, HO5.out⟩
    · have hn := HNe.out
      rw [decide_eq_false nf] at hn
      have HNf := Lib.hid hn
      clear hn nf HNe HD
      go_wp2_with (with_reducible refine wpList_load_row_w (by kernel_rfl) 23 _ rfl w.heap.size rfl 23 (rowN 16 (blk f)) (0, 0) _ HS4.out.a Try.underlying23 rfl (by rw [rowN_size]; exact Hs16.out) ?_)
      refine (HNf.out _).mono ?_
      rintro e w4 ⟨rfl, ho⟩
      have HO4 := Lib.hid (HS4.out.keep ho).old
      clear ho HS4
      go_wp2_with fail
      refine (HA.out _).mono ?_
      rintro e w5 ⟨rfl, ho⟩
      have HO5 := Lib.hid (HO4.out.trans ho)
      clear ho
      go_wp2_with fail
      go_ret
      exact ⟨rfl, HO5.out⟩
  · have hR := HRt.out
    have hr := Hrt.out
    rw [decide_eq_false r] at hR hr
    clear HRt Hrt
    have HRt := Lib.hid hR
    have Hrt := Lib.hid hr
    obtain ⟨rfl, rfl⟩ := HE.out r
    clear hR hr r HE HD
    obtain ⟨z, hz⟩ : ∃ z, rowN 16 (blk fun _ => 0) = z := ⟨_, rfl⟩
    have hE : ∀ w, (binOp .eql 23 (.agg z) (.agg #[.int .i64 0, .int .i64 0, .int .i64 0, .int .i64 0, .int .i64 0, .int .i64 0, .int .i64 0, .int .i64 0, .int .i64 0, .int .i64 0, .int .i64 0, .int .i64 0, .int .i64 0, .int .i64 0, .int .i64 0, .int .i64 0])).run Try.prog w = .ok (.bool true) w := fun w => by
      rw [← hz]
      exact eq_row16 (fun _ => 0) w
    refine wp_region_held_drew (S := (fun w' => w'.heap[w.heap.size + 1]? = some (.cells (rowN 4 (blk s)) 24 (0, 0)))) (by kernel_rfl) ?_ (fun hHeld => ?_)
    · (try dsimp only); first | exact HK.out _ (Old.refl _) | exact HK.out _ hV1 | exact HK.out _ (hV1.trans hV2)
    refine wpAnyH_take (i := 0) (oi := ⟨some _, _, _, _, _, _⟩) (v := .agg (rowN 4 (blk s))) rfl (by kernel_rfl) (by kernel_rfl) (by kernel_rfl) (fun _ _ _ h => h) (yieldsIf_load_row (by kernel_rfl) 24 (.tmp 3) rfl (w.heap.size + 1) rfl 24 (rowN 4 (blk s)) (0, 0) _ (fun _ h => h) Try.underlying24 rfl (by rw [rowN_size]; exact Hs4.out)) (by assumption) ?_; try simp only [Act.put, List.setIfInBounds_toArray, List.set_cons_zero, List.set_cons_succ]
    refine wpAnyH_take (i := 2) (oi := ⟨some _, _, _, _, _, _⟩) (v := .agg (rowN 4 (blk s))) rfl (by kernel_rfl) (by kernel_rfl) (by kernel_rfl) (fun _ _ _ h => h) (yieldsIf_load_row (by kernel_rfl) 24 (.tmp 3) rfl (w.heap.size + 1) rfl 24 (rowN 4 (blk s)) (0, 0) _ (fun _ h => h) Try.underlying24 rfl (by rw [rowN_size]; exact Hs4.out)) (by assumption) ?_; try simp only [Act.put, List.setIfInBounds_toArray, List.set_cons_zero, List.set_cons_succ]
    refine wpAnyH_ready (rs := [1]) (by kernel_rfl) (by simp) ?_
    refine AllReadyH.cons (o := ⟨some _, _, _, _, _, _⟩) rfl (fun K hK => ?_) AllReadyH.nil
    go_simp
    refine (HRt.out _).mono ?_; rintro e V1 ⟨rfl, hV1⟩
    go_wp2_with fail
    refine hK.out _ _ ?_ (fun hHeld => ?_)
    · (try dsimp only); first | exact HK.out _ (Old.refl _) | exact HK.out _ hV1 | exact HK.out _ (hV1.trans hV2)
    clear hK K
    try simp only [Act.put, List.setIfInBounds_toArray, List.set_cons_zero, List.set_cons_succ]
    refine wpAnyH_ready (rs := [3]) (by kernel_rfl) (by simp) ?_
    refine AllReadyH.cons (o := ⟨some _, _, _, _, _, _⟩) rfl (fun K hK => ?_) AllReadyH.nil
    go_simp
    refine (Hrt.out _).mono ?_; rintro e V2 ⟨rfl, hV2⟩
    go_wp2_with fail
    refine hK.out _ _ ?_ (fun hHeld => ?_)
    · (try dsimp only); first | exact HK.out _ (Old.refl _) | exact HK.out _ hV1 | exact HK.out _ (hV1.trans hV2)
    clear hK K
    try simp only [Act.put, List.setIfInBounds_toArray, List.set_cons_zero, List.set_cons_succ]
    refine wpAnyH_take (i := 4) (oi := ⟨some _, _, _, _, _, _⟩) (v := ?_) rfl (by kernel_rfl) (by kernel_rfl) (by kernel_rfl) (fun _ _ _ h => h) (Or.inl ⟨by kernel_rfl, ?_⟩) (by assumption) ?_; rotate_left; (intro w hSw; (try dsimp only at hSw); go_simp; try with_reducible rfl); try simp only [Act.put, List.setIfInBounds_toArray, List.set_cons_zero, List.set_cons_succ]
    refine wpAnyH_done (by kernel_rfl) ?_ _
    have HS3 := Lib.hid (HS.out.keep (((Old.drew (Old.refl _)).trans hV1).trans hV2))
    clear hV1 hV2 HK HS
    go_wp2_with (with_reducible refine wpList_load_row_w (by kernel_rfl) 24 _ rfl (w.heap.size + 1) rfl 24 (rowN 4 (blk s)) (0, 0) _ HS3.out.b Try.underlying24 rfl (by rw [rowN_size]; exact Hs4.out) ?_)
    refine (Hrt.out _).mono ?_
    rintro e w3 ⟨rfl, ho⟩
    have HS4 := HS3.out.keep ho
    have Hq := Lib.hid HS4.q
    have Hv := Lib.hid HS4.v
    have HO4 := Lib.hid HS4.old
    rw [hz] at Hq Hv
    have Hzs : Hid ((Try.prog.info? 23).map (·.size) = some z.size) := Lib.hid (by rw [← hz, rowN_size]; exact Hs16.out)
    clear ho HS3 HS4 hz
    go_wp2_with (first | (with_reducible refine wpList_load_row_w (by kernel_rfl) 23 _ rfl qb rfl 23 z (0, 0) _ Hq.out Try.underlying23 rfl Hzs.out ?_) | (with_reducible refine wpList_load_row_w (by kernel_rfl) 23 _ rfl vb rfl 23 z (0, 0) _ Hv.out Try.underlying23 rfl Hzs.out ?_))
    refine (HA.out _).mono ?_
    rintro e w5 ⟨rfl, ho⟩
    have HO5 := Lib.hid (HO4.out.trans ho)
    clear ho
    go_wp2_with fail
    go_ret
    exact ⟨rfl, HO5.out⟩


theorem own : ownKnob Try.prog.godebug = none := by kernel_rfl
theorem laidOut : laidOutB Try.prog = true := by kernel_rfl

set_option maxRecDepth 100000 in
theorem lifted (os : Os) (started : os.Started) (H : Type) (enc : TypeId × Value → H) :
    ReturnsInHanded {} Try.checked os 3 .any (Rows.quantStepsSpec.pre6 enc Try.prog Try.f3 Rows.quantStepsRow.domain false) (Rows.quantStepsSpec.post enc Try.prog Try.f3 false true false false) := by
  refine returnsInHanded_of_change (C := Try.checked) own started (by kernel_rfl) Try.func3
    (ChangeSpec.witness6 (enc := enc) (C := Try.checked) false ⟨#[], #[.agg #[.int .i64 0, .int .i64 0, .int .i64 0, .int .i64 0, .int .i64 0, .int .i64 0, .int .i64 0, .int .i64 0, .int .i64 0, .int .i64 0, .int .i64 0, .int .i64 0, .int .i64 0, .int .i64 0, .int .i64 0, .int .i64 0], .agg #[.int .i64 0, .int .i64 0, .int .i64 0, .int .i64 0]], []⟩ 8 (by kernel_rfl) (by kernel_rfl) (by kernel_rfl) (by kernel_rfl)) ?_
  intro W base args ds gs before hval0 hW hcnd _
  have hval : ∀ (j : Nat) t v, Try.f3.params[j]? = some t → args[j]? = some v → Value.okWide Try.prog W .any base t v := hval0
  have hW' := hW
  have hlt : ∀ p ∈ before, p.block < W.heap.size := fun p hp => hW'.lt p hp
  obtain ⟨p, q, hA0, hV, rfl, hfz, hnd⟩ := hW
  have hA : DataW.TrodAll enc Try.prog W 0 (fun _ => true) true Try.f3.params.toList args.toList ds p := hA0
  rw [Try.params3] at hA hval
  obtain ⟨v0, vs0, d0, ds0, p0, q0, hargs, rfl, rfl, h0, r0⟩ := trodAll_cons hA
  obtain ⟨v1, vs1, d1, ds1, p1, q1, rfl, rfl, rfl, h1, r1⟩ := trodAll_cons r0
  obtain ⟨rfl, rfl, rfl⟩ := trodAll_nil r1
  obtain rfl : args = #[v0, v1] := by cases args; simp_all
  obtain ⟨rfl, rfl⟩ := trodVars_none hV
  obtain ⟨f0, rfl, hf0, hz0⟩ := open_ints64 Try.underlying23 Try.underlying2 (by kernel_rfl) (by kernel_rfl) (hval 0 23 v0 rfl rfl) h0
  obtain ⟨f1, rfl, hf1, hz1⟩ := open_ints64 Try.underlying24 Try.underlying3 (by kernel_rfl) (by kernel_rfl) (hval 1 24 v1 rfl rfl) h1
  refine (walk f0 f1 W hf0).mono fun e W' ⟨he, hg⟩ => ?_
  subst he
  exact ⟨_, rfl, law_done laidOut Try.underlying4 rfl (by kernel_rfl) rfl hW' rfl hg⟩

theorem over : Rows.quantStepsRow.holds Try.pinned (OpenSpec.ofChange Rows.quantStepsSpec) :=
  OpenClaim.holds_of_wide 3 Try.f3 rfl rfl rfl rfl rfl rfl rfl ⟨rfl, rfl, rfl, rfl, rfl⟩ rfl rfl rfl rfl rfl (by kernel_rfl) Try.func3 (by kernel_rfl)
    (of_decide_eq_true (by kernel_rfl)) (by unfold Func.isWrapper; first | (rw [if_pos (by decide +kernel)]; kernel_rfl) | (rw [if_neg (by decide +kernel)]; exact ⟨rfl, rfl⟩))
    (fun os started H enc _ => lifted os started H enc)

theorem proved : Rows.QuantStepsSaid :=
  over
end Go.Proofs.Ythfbhmhkfmjbdaa.quantSteps
