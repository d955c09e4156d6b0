/- FrameSpectra: the spectrum of any frame that may be. -/
import Derived.Test.YtdiahlhfoplmjaaRows
import Derived.Test.YtdiahlhfoplmjaaAwake
import Derived.Test.YtdiahlhfoplmjaaFew
import Derived.Test.YtdiahlhfoplmjaaRightW
import Derived.Test.YtdiahlhfoplmjaaSpecL
import Derived.Test.YtdiahlhfoplmjaaFrArg
import Derived.Deep.RegionHeld
import Derived.StillTailTactics
namespace Go.Proofs.Ytdiahlhfoplmjaa.frameSpectra
open Go.ChangeShapes Go.WideShapes Go.ChangeAt Go.RowKit
set_option linter.unusedVariables false

/-- The law's state: vb is the wanted spectrum's block. -/
structure LwSt (w : World) (fb vb : Nat) (F : Nat → Int) (s : Value) (V : Nat → Int) (W : World) : Prop where
  fr : FrB 27 W fb F s
  v : W.heap[vb]? = some (.cells (rowN 16 (blk V)) 25 (0, 0))
  old : Old w W
  nvb : w.heap.size ≤ vb
  n1 : fb ≠ vb
namespace LwSt
variable {w W W' : World} {fb vb : Nat} {F V : Nat → Int} {s : Value}
theorem keep (h : LwSt w fb vb F s V W) (k : Old W W') : LwSt w fb vb F s V W' := ⟨h.fr.old k, (k.block _ (lt_of_block h.v)).trans h.v, h.old.trans k, h.nvb, h.n1⟩
theorem drew (h : LwSt w fb vb F s V W) : LwSt w fb vb F s V W.drew := h.keep (Old.refl _).drew
theorem cell (h : LwSt w fb vb F s V W) (j : Nat) (hj : j < 16) : W.cell? ⟨vb, j, none⟩ = some (.int .i64 (V j)) ∧ W.frozen? ⟨vb, j, none⟩ = false :=
  ⟨(cell_of_row _ _ _ _ _ _ h.v).trans (blk_at 16 V j hj), frozen_of_row _ _ _ _ _ h.v⟩
theorem set (h : LwSt w fb vb F s V W) (j : Nat) (hj : j < 16) (x : Int) : LwSt w fb vb F s (fun k => if k = j then x else V k) (W.setCell ⟨vb, j, none⟩ (.int .i64 x)) := by
  have hk : Kept (butOf W vb) W (W.setCell ⟨vb, j, none⟩ (.int .i64 x)) := Kept.setCell W (a := ⟨vb, j, none⟩) (fun h => h.2 rfl) _
  have hn := h.nvb
  refine ⟨h.fr.kept hk ⟨lt_of_block h.fr, h.n1⟩, ?_, Kept.trans h.old (hk.mono fun q hq => ⟨Nat.lt_of_lt_of_le hq h.old.size, fun e => by omega⟩), h.nvb, h.n1⟩
  rw [← blk_upd, ← rowN_set 16 _ j _ hj]
  exact heap_setCell_same _ _ _ _ _ _ h.v
end LwSt

set_option maxRecDepth 100000 in
set_option maxHeartbeats 4000000 in
theorem walk (F : Nat → Int) (p : Option Addr) (n c : Nat) (T : Nat → Int) (w : World) (hT : SlF 2 w p n T) (hf : Fits64 T) (hn : n ≤ c) (hc : c ≤ maxLen) :
    Calls Try.prog 5 #[.agg (rowN 29 (frC F (.slice p n c)))] w fun e w' => e = .returned (.bool true) ∧ Old w w' := by
  have Hs29 : Hid ((Try.prog.info? 27).map (·.size) = some 29) := Lib.hid (by kernel_rfl)
  have Hs4 : Hid ((Try.prog.info? 22).map (·.size) = some 4) := Lib.hid (by kernel_rfl)
  have Hs16 : Hid ((Try.prog.info? 25).map (·.size) = some 16) := Lib.hid (by kernel_rfl)
  have HA : Hid (FrB 27 (w.alloc (.cells (rowN 29 (frC F (.slice p n c))) 27)) w.heap.size F (.slice p n c)) := Lib.hid (FrB.new w F _)
  have HO : Hid (Old w (w.alloc (.cells (rowN 29 (frC F (.slice p n c))) 27))) := Lib.hid (Old.alloc _ _)
  have hfa := fun w => Few_any F p n c w hn hc
  have HAw := Lib.hid (fun w => awake_any w)
  obtain ⟨k5, hk5⟩ : ∃ k5, min n 5 = k5 := ⟨_, rfl⟩
  rw [hk5] at hfa
  have k5n : k5 ≤ n := by omega
  have k5c : k5 ≤ c := by omega
  have k55 : k5 ≤ 5 := by omega
  have HFa := Lib.hid hfa
  have HT := Lib.hid (hT.less k5n)
  have hr2 := fun (W : World) (h : Old w W) => right_any F p k5 c T W ((hT.old h).less k5n) hf k5c hc
  have H1a : Hid ((rowN 29 (frC F (.slice p k5 c))).all (·.oneCell') = true) := Lib.hid (frC_one _ _ rfl)
  have Hc := Lib.hid hc
  clear hfa hk5 hn hT hc
  by_cases hP : FrP F k5 T
  · rw [decide_eq_true hP] at hr2
    have HP := Lib.hid hP
    have HR2 := Lib.hid hr2
    clear hr2 hf hP
    go_enter Try.func5, Try.ntmps5
    go_wp2_with (with_reducible refine wpList_load_row rfl 27 _ rfl w.heap.size rfl 27 (rowN 29 (frC F (.slice p n c))) (0, 0) _ HA.out.blk Try.underlying27 rfl (by rw [rowN_size]; exact Hs29.out) ?_)
    refine (HFa.out _).mono ?_
    rintro e w1 ⟨rfl, ho1⟩
    have HA1 := Lib.hid (HA.out.old ho1)
    have hr1 := row_ret HA1.out.blk (HO.out.trans ho1) (Nat.le_refl _) (rowN 29 (frC F (.slice p k5 c)))
    have HV := Lib.hid (HA1.out.row F (.slice p k5 c))
    have HOv := Lib.hid hr1.2
    clear ho1 hr1 HA HO HFa
    go_wp2_with (first | (with_reducible refine wpList_store_row rfl 27 _ _ rfl w.heap.size (rowN 29 (frC F (.slice p k5 c))) rfl rfl 27 _ HA1.out.blk (by rw [rowN_size]; exact Hs29.out) (by rw [rowN_size, rowN_size]) H1a.out ?_) | (with_reducible refine wpList_load_row rfl 27 _ rfl w.heap.size rfl 27 (rowN 29 (frC F (.slice p k5 c))) (0, 0) _ HV.out.blk Try.underlying27 rfl (by rw [rowN_size]; exact Hs29.out) ?_))
    obtain ⟨V0, hV⟩ : ∃ V, V = w1.setRow w.heap.size (rowN 29 (frC F (.slice p k5 c))) := ⟨_, rfl⟩
    rw [← hV] at HV HOv ⊢
    clear hV HA1
    refine (HR2.out _ HOv.out).mono ?_
    rintro e w2 ⟨rfl, oo⟩
    have HB := Lib.hid (HV.out.old oo)
    have HOb := Lib.hid (HOv.out.trans oo)
    clear oo HV HOv HR2
    have HVal := Lib.hid (fun w => Values_any (stQ F) (stS F) w (stQ_fits HP.out))
    go_wp2_with (first | (with_reducible refine wpList_load_blk rfl 16 (fun j => F (13 + j)) 25 _ rfl w.heap.size 13 rfl _ (HB.out.part 13 16 (by omega)) Try.underlying25 rfl Hs16.out ?_) | (with_reducible refine wpList_load_blk rfl 4 (fun j => F (5 + j)) 22 _ rfl w.heap.size 5 rfl _ (HB.out.part 5 4 (by omega)) Try.underlying22 rfl Hs4.out ?_))
    rw [stQ_row]
    refine (HVal.out _).mono ?_
    rintro e w3 ⟨rfl, ho⟩
    have hst : LwSt w w.heap.size w3.heap.size F (.slice p k5 c) (specTo (specV F) T 0) (w3.alloc (.cells (rowN 16 (blk (specV F))) 25)) := by
      have ho' := ho.alloc' (.cells (rowN 16 (blk (specV F))) 25)
      have h1 := lt_of_block HB.out
      have h3 := ho.size
      have h4 := HOb.out.size
      exact ⟨HB.out.old ho', heap_alloc_new _ _, HOb.out.trans ho', by omega, by omega⟩
    have HS := Lib.hid hst
    have H1 : Hid ((rowN 16 (blk (specV F))).all (·.oneCell') = true) := Lib.hid (blk_one _ _)
    have HSp := Lib.hid (fun (W : World) (h : Old w W) => Spectrum_any F p k5 c T W (HT.out.old h) k5c Hc.out HP.out)
    clear ho hst HVal HB HOb
    go_wp2_with (with_reducible refine wpList_store_row rfl 25 _ _ rfl w3.heap.size (rowN 16 (blk (specV F))) rfl rfl 25 _ (heap_alloc_new _ _) (by rw [rowN_size]; exact Hs16.out) (by rw [rowN_size]; kernel_rfl) H1.out ?_; rw [World.setRow_alloc_new])
    obtain ⟨W2, hW2⟩ : ∃ W2, W2 = w3.alloc (.cells (rowN 16 (blk (specV F))) 25) := ⟨_, rfl⟩
    obtain ⟨bb, hbb⟩ : ∃ bb, bb = w3.heap.size := ⟨_, rfl⟩
    rw [← hW2, ← hbb] at HS ⊢
    clear hW2 hbb H1
    go_loopw [4] (fun i wr => ∃ k : Nat, k ≤ k5 ∧ i = .int .i64 k ∧ Hid (LwSt w w.heap.size bb F (.slice p k5 c) (specTo (specV F) T k) wr)) (fun i _ => k5 - (intOf i).toNat)
    case atStart => exact ⟨0, by omega, rfl, HS⟩
    case round =>
      obtain ⟨k, hk, rfl, hs⟩ := hrel
      obtain ⟨wo, rfl⟩ : ∃ V, V = wr := ⟨_, rfl⟩
      clear HS
      have c4 := hs.out.fr.cell4.1
      by_cases hlt : k < k5
      · have i1 : (0 : Int) ≤ k := by omega
        have hTo := HT.out.old hs.out.old
        obtain ⟨g, o, rfl, hg, hcc⟩ := two_cells hTo (by omega)
        obtain ⟨a0, a1⟩ := hcc k hlt
        obtain ⟨t0, t1, t2, _⟩ := HP.out.ht k hlt
        have ty := fit24 t2 (by omega) (by omega)
        obtain ⟨j, hj⟩ : ∃ j : Nat, T (2 * k) = j := ⟨(T (2 * k)).toNat, by omega⟩
        have hj16 : j < 16 := by omega
        have hbd := specTo_bd HP.out k (by omega) j hj16
        have hsucc : specTo (specV F) T (k + 1) = fun q => if q = j then specTo (specV F) T k j + T (2 * k + 1) else specTo (specV F) T k q := by
          funext q
          show (if (q : Int) = T (2 * k) then specTo (specV F) T k q + T (2 * k + 1) else specTo (specV F) T k q) = _
          rw [hj]
          by_cases e : q = j
          · subst e; rw [if_pos rfl, if_pos rfl]
          · rw [if_neg (by omega), if_neg e]
        obtain ⟨V, hV⟩ : ∃ V, specTo (specV F) T k j = V := ⟨_, rfl⟩
        rw [hj] at a0
        have hcj := hs.out.cell j hj16
        rw [hV] at hbd hsucc hcj
        obtain ⟨y, hy⟩ : ∃ y, T (2 * k + 1) = y := ⟨_, rfl⟩
        rw [hy] at a1 ty hsucc
        obtain ⟨r, hr⟩ : ∃ r, V + y = r := ⟨_, rfl⟩
        have q1 : wrap64 (V + y) = r := by rw [IntWalk.wrap64_in _ (by omega)]; exact hr
        have q2 : IntKind.i64.wrap (V + y) = r := by rw [IntWalk.i64_in _ (by omega)]; exact hr
        rw [hr] at hsucc
        have hn := (hs.out.drew).set j hj16 r
        rw [← hsucc] at hn
        have HN := Lib.hid hn
        obtain ⟨d0, d1⟩ := hcj
        have j0 : (0 : Int) ≤ j := by omega
        have j1 : (j : Int) < 16 := by omega
        clear hTo hcc t0 t1 t2 ty hj hbd hsucc hV hy hr hs hn
        go_wp2_with fail
        go_still_tail 22, (by kernel_rfl)
        repeat still_step
        change wpList _ _ _ _ _ wo.drew
        go_wp2_with fail
        go_roundw
        case rel => exact ⟨k + 1, by omega, by go_num, HN⟩
        case measure => simp [intOf]; omega
      · obtain rfl : k = k5 := by omega
        have HS := hs
        obtain ⟨V, hV⟩ : ∃ V, specTo (specV F) T k = V := ⟨_, rfl⟩
        have hspec : specF F k T = clampTo V 16 := by unfold specF; rw [hV]
        rw [hV] at HS
        rw [hspec] at HSp
        have h0 : clampTo V 0 = V := by funext q; unfold clampTo; rw [if_neg (by omega)]
        rw [← h0] at HS
        clear hs hV hspec h0 HP HT hlt hk
        go_wp2_with fail
        clear c4
        go_loopw [5] (fun i wr => ∃ j : Nat, j ≤ 16 ∧ i = .int .i64 j ∧ Hid (LwSt w w.heap.size bb F (.slice p k c) (clampTo V j) wr)) (fun i _ => 16 - (intOf i).toNat)
        case atStart => exact ⟨0, by omega, rfl, HS⟩
        case round =>
          obtain ⟨j, hj, rfl, hs⟩ := hrel
          obtain ⟨wp, rfl⟩ : ∃ X, X = wr := ⟨_, rfl⟩
          clear HS
          by_cases hlt : j < 16
          · have i1 : (0 : Int) ≤ j := by omega
            have i2 : (j : Int) < 16 := by omega
            obtain ⟨d0, d1⟩ := hs.out.cell j hlt
            have hcl : clampTo V j j = V j := by unfold clampTo; rw [if_neg (by omega)]
            rw [hcl] at d0
            have hn := clampTo_succ V j
            have HSet := Lib.hid (fun x => hs.out.set j hlt x)
            have HD := Lib.hid (fun x => (hs.out.set j hlt x).cell j hlt)
            have Hhs := hs
            by_cases h1 : 2147483648 < V j
            · have hx : clampI (V j) (-2147483648) 2147483648 = 2147483648 := clampI_hi _ _ _ (by omega) h1
              rw [hx] at hn
              have hnn := HSet.out 2147483648
              rw [hn] at hnn
              have HN := Lib.hid hnn
              obtain ⟨e0, e1⟩ := HD.out 2147483648
              rw [if_pos rfl] at e0
              clear hs hn hx hnn hcl HSet HD Hhs
              generalize V j = x at *
              go_wp2_with fail
              go_roundw
              case rel => exact ⟨j + 1, by omega, by go_num, HN⟩
              case measure => simp [intOf]; omega
            · have h1' : V j ≤ 2147483648 := by omega
              clear h1
              by_cases h2 : V j < -2147483648
              · have hx : clampI (V j) (-2147483648) 2147483648 = -2147483648 := clampI_lo _ _ _ (Or.inr h2)
                rw [hx] at hn
                have hnn := HSet.out (-2147483648)
                rw [hn] at hnn
                have HN := Lib.hid hnn
                clear hs hn hx hnn hcl HSet HD Hhs
                generalize V j = x at *
                go_wp2_with fail
                go_roundw
                case rel => exact ⟨j + 1, by omega, by go_num, HN⟩
                case measure => simp [intOf]; omega
              · have h2' : -2147483648 ≤ V j := by omega
                clear h2
                have hx : clampI (V j) (-2147483648) 2147483648 = V j := clampI_in _ _ _ (by omega) (by omega)
                have he : clampTo V (j + 1) = clampTo V j := by
                  rw [← hn, hx]; funext q
                  by_cases e : q = j
                  · subst e; rw [if_pos rfl, hcl]
                  · rw [if_neg e]
                have HN : Hid (LwSt w w.heap.size bb F (.slice p k c) (clampTo V (j + 1)) wp) := Lib.hid (by rw [he]; exact Hhs.out)
                clear hs hn hx he hcl HSet HD Hhs
                generalize V j = x at *
                go_wp2_with fail
                go_roundw
                case rel => exact ⟨j + 1, by omega, by go_num, HN⟩
                case measure => simp [intOf]; omega
          · obtain rfl : j = 16 := by omega
            have HK := Lib.hid (fun W (h : Old wp W) => hs.out.keep h)
            have HSp2 := Lib.hid (fun W (h : Old wp W) => HSp.out W (hs.out.old.trans h))
            have Hold := Lib.hid hs.out.old
            have hE : ∀ W, (binOp .eql 25 (.agg (rowN 16 (blk (clampTo V 16)))) (.agg (rowN 16 (blk (clampTo V 16))))).run Try.prog W = .ok (.bool true) W := fun W => by
              have h := eq_sixteen (P := Try.prog) (clampTo V 16) (clampTo V 16) W
              rwa [show eqB 16 (clampTo V 16) (clampTo V 16) = true from eqB_true.2 fun _ _ => rfl] at h
            have HE := Lib.hid hE
            clear hs hlt hj HSp hE
            generalize clampTo V 16 = Z at *
            go_wp2_with fail
            refine wp_region_held_drew (S := (fun w' => FrB 27 w' w.heap.size F (.slice p k c) ∧ w'.heap[bb]? = some (.cells (rowN 16 (blk Z)) 25 (0, 0)))) (by kernel_rfl) ?_ (fun hHeld => ?_)
            · (try dsimp only); exact ⟨(HK.out _ ((Old.refl wp).drew)).fr, (HK.out _ ((Old.refl wp).drew)).v⟩
            refine wpAnyH_take (i := 0) (oi := ⟨some _, _, _, _, _, _⟩) (v := .agg (rowN 29 (frC F (.slice p k c)))) rfl (by kernel_rfl) (by kernel_rfl) (by kernel_rfl) (fun _ _ _ h => h) (yieldsIf_load_row (by kernel_rfl) 27 (.tmp 1) rfl w.heap.size rfl 27 (rowN 29 (frC F (.slice p k c))) (0, 0) _ (fun _ h => h.1.blk) Try.underlying27 rfl (by rw [rowN_size]; exact Hs29.out)) (by assumption) ?_; try simp only [Act.put, List.setIfInBounds_toArray, List.set_cons_zero, List.set_cons_succ]
            refine wpAnyH_take (i := 2) (oi := ⟨some _, _, _, _, _, _⟩) (v := .agg (rowN 16 (blk Z))) rfl (by kernel_rfl) (by kernel_rfl) (by kernel_rfl) (fun _ _ _ h => h) (yieldsIf_load_row (by kernel_rfl) 25 (.tmp 3) rfl bb rfl 25 (rowN 16 (blk Z)) (0, 0) _ (fun _ h => h.2) Try.underlying25 rfl (by rw [rowN_size]; exact Hs16.out)) (by assumption) ?_; try simp only [Act.put, List.setIfInBounds_toArray, List.set_cons_zero, List.set_cons_succ]
            refine wpAnyH_ready (rs := [1]) (by kernel_rfl) (by simp) ?_
            refine AllReadyH.cons (o := ⟨_, _, _, _, _, _⟩) rfl (fun K hK => ?_) AllReadyH.nil
            go_simp
            refine (HSp2.out _ ((Old.refl wp).drew)).mono ?_
            rintro e V1 ⟨rfl, o1⟩
            have o1' := ((Old.refl wp).drew).trans o1
            go_wp2_with fail
            refine hK.out _ _ ?_ (fun hHeld => ?_)
            · (try dsimp only); exact ⟨(HK.out _ o1').fr, (HK.out _ o1').v⟩
            clear hK K
            try simp only [Act.put, List.setIfInBounds_toArray, List.set_cons_zero, List.set_cons_succ]
            have hE := HE.out
            refine wpAnyH_take (i := 3) (oi := ⟨some _, _, _, _, _, _⟩) (v := ?_) rfl (by kernel_rfl) (by kernel_rfl) (by kernel_rfl) (fun _ _ _ h => h) (Or.inl ⟨by kernel_rfl, ?_⟩) (by assumption) ?_; rotate_left; (intro w hSw; (try dsimp only at hSw); go_simp; try with_reducible rfl); try simp only [Act.put, List.setIfInBounds_toArray, List.set_cons_zero, List.set_cons_succ]
            refine wpAnyH_take (i := 4) (oi := ⟨some _, _, _, _, _, _⟩) (v := ?_) rfl (by kernel_rfl) (by kernel_rfl) (by kernel_rfl) (fun _ _ _ h => h) (Or.inl ⟨by kernel_rfl, ?_⟩) (by assumption) ?_; rotate_left; (intro w hSw; (try dsimp only at hSw); go_simp; try with_reducible rfl); try simp only [Act.put, List.setIfInBounds_toArray, List.set_cons_zero, List.set_cons_succ]
            refine wpAnyH_ready (rs := [5]) (by kernel_rfl) (by simp) ?_
            refine AllReadyH.cons (o := ⟨_, _, _, _, _, _⟩) rfl (fun K hK => ?_) AllReadyH.nil
            go_simp
            refine (HAw.out _).mono ?_
            rintro e V2 ⟨rfl, o2⟩
            have o2' := o1'.trans o2
            go_wp2_with fail
            refine hK.out _ _ ?_ (fun hHeld => ?_)
            · (try dsimp only); exact ⟨(HK.out _ o2').fr, (HK.out _ o2').v⟩
            clear hK K
            try simp only [Act.put, List.setIfInBounds_toArray, List.set_cons_zero, List.set_cons_succ]
            refine wpAnyH_take (i := 6) (oi := ⟨some _, _, _, _, _, _⟩) (v := ?_) rfl (by kernel_rfl) (by kernel_rfl) (by kernel_rfl) (fun _ _ _ h => h) (Or.inl ⟨by kernel_rfl, ?_⟩) (by assumption) ?_; rotate_left; (intro w hSw; (try dsimp only at hSw); go_simp; try with_reducible rfl); try simp only [Act.put, List.setIfInBounds_toArray, List.set_cons_zero, List.set_cons_succ]
            refine wpAnyH_take (i := 7) (oi := ⟨some _, _, _, _, _, _⟩) (v := ?_) rfl (by kernel_rfl) (by kernel_rfl) (by kernel_rfl) (fun _ _ _ h => h) (Or.inl ⟨by kernel_rfl, ?_⟩) (by assumption) ?_; rotate_left; (intro w hSw; (try dsimp only at hSw); go_simp; try with_reducible rfl); try simp only [Act.put, List.setIfInBounds_toArray, List.set_cons_zero, List.set_cons_succ]
            refine wpAnyH_done (by kernel_rfl) ?_ _
            have HOz := Lib.hid (Hold.out.trans o2')
            clear o1 o1' o2 o2' HK HSp2 HE hE HAw
            go_wp2_with fail
            go_ret
            exact ⟨rfl, HOz.out⟩
  · rw [decide_eq_false hP] at hr2
    have HR2 := Lib.hid hr2
    clear hr2 hf hP
    go_enter Try.func5, Try.ntmps5
    go_wp2_with (with_reducible refine wpList_load_row rfl 27 _ rfl w.heap.size rfl 27 (rowN 29 (frC F (.slice p n c))) (0, 0) _ HA.out.blk Try.underlying27 rfl (by rw [rowN_size]; exact Hs29.out) ?_)
    refine (HFa.out _).mono ?_
    rintro e w1 ⟨rfl, ho1⟩
    have HA1 := Lib.hid (HA.out.old ho1)
    have hr1 := row_ret HA1.out.blk (HO.out.trans ho1) (Nat.le_refl _) (rowN 29 (frC F (.slice p k5 c)))
    have HV := Lib.hid (HA1.out.row F (.slice p k5 c))
    have HOv := Lib.hid hr1.2
    clear ho1 hr1 HA HO HFa
    go_wp2_with (first | (with_reducible refine wpList_store_row rfl 27 _ _ rfl w.heap.size (rowN 29 (frC F (.slice p k5 c))) rfl rfl 27 _ HA1.out.blk (by rw [rowN_size]; exact Hs29.out) (by rw [rowN_size, rowN_size]) H1a.out ?_) | (with_reducible refine wpList_load_row rfl 27 _ rfl w.heap.size rfl 27 (rowN 29 (frC F (.slice p k5 c))) (0, 0) _ HV.out.blk Try.underlying27 rfl (by rw [rowN_size]; exact Hs29.out) ?_))
    obtain ⟨V0, hV⟩ : ∃ V, V = w1.setRow w.heap.size (rowN 29 (frC F (.slice p k5 c))) := ⟨_, rfl⟩
    rw [← hV] at HV HOv ⊢
    clear hV HA1
    refine (HR2.out _ HOv.out).mono ?_
    rintro e w2 ⟨rfl, oo⟩
    have HB := Lib.hid (HV.out.old oo)
    have HOb := Lib.hid (HOv.out.trans oo)
    clear oo HV HOv HR2
    go_wp2_with fail
    refine (HAw.out _).mono ?_
    rintro e wz ⟨rfl, oo⟩
    have HOz := Lib.hid (HOb.out.trans oo)
    clear oo HOb HB
    go_wp2_with fail
    go_ret
    exact ⟨rfl, HOz.out⟩


theorem own : ownKnob Try.prog.godebug = none := by kernel_rfl
theorem laidOut : laidOutB Try.prog = true := by kernel_rfl

set_option maxRecDepth 100000 in
theorem lifted (os : Os) (started : os.Started) (H : Type) (enc : TypeId × Value → H) :
    ReturnsInHanded {} Try.checked os 5 .any (Rows.frameSpectraSpec.pre6 enc Try.prog Try.f5 Rows.frameSpectraRow.domain false) (Rows.frameSpectraSpec.post enc Try.prog Try.f5 false true false false) := by
  refine returnsInHanded_of_change (C := Try.checked) own started (by kernel_rfl) Try.func5
    (ChangeSpec.witness6 (enc := enc) (C := Try.checked) false ⟨#[], #[.agg #[.int .i64 0, .int .i64 0, .int .i64 0, .int .i64 0, .slice none 0 0, .int .i64 0, .int .i64 0, .int .i64 0, .int .i64 0, .int .i64 0, .int .i64 0, .int .i64 0, .int .i64 0, .int .i64 0, .int .i64 0, .int .i64 0, .int .i64 0, .int .i64 0, .int .i64 0, .int .i64 0, .int .i64 0, .int .i64 0, .int .i64 0, .int .i64 0, .int .i64 0, .int .i64 0, .int .i64 0, .int .i64 0, .int .i64 0]], []⟩ 8 (by kernel_rfl) (by kernel_rfl) (by kernel_rfl) (by kernel_rfl)) ?_
  intro W base args ds gs before hval0 hW hcnd _
  have hval : ∀ (j : Nat) t v, Try.f5.params[j]? = some t → args[j]? = some v → Value.okWide Try.prog W .any base t v := hval0
  have hW' := hW
  have hlt : ∀ p ∈ before, p.block < W.heap.size := fun p hp => hW'.lt p hp
  obtain ⟨p, q, hA0, hV, rfl, hfz, hnd⟩ := hW
  have hA : DataW.TrodAll enc Try.prog W 0 (fun _ => true) true Try.f5.params.toList args.toList ds p := hA0
  rw [Try.params5] at hA hval
  obtain ⟨v0, vs0, d0, ds0, p0, q0, hargs, rfl, rfl, h0, r0⟩ := trodAll_cons hA
  obtain ⟨rfl, rfl, rfl⟩ := trodAll_nil r0
  obtain rfl : args = #[v0] := by cases args; simp_all
  obtain ⟨rfl, rfl⟩ := trodVars_none hV
  obtain ⟨F0, q0_, n0, c0, T0, rfl, fn0, fc0, fT0, fF0⟩ := open_frame (hval 0 27 v0 rfl rfl) h0 (fun x hx => hlt x (by simp [hx]))
  refine (walk F0 q0_ n0 c0 T0 W fT0 fF0 fn0 fc0).mono fun e W' ⟨he, hg⟩ => ?_
  subst he
  exact ⟨_, rfl, law_done laidOut Try.underlying4 rfl (by kernel_rfl) rfl hW' rfl hg⟩

theorem over : Rows.frameSpectraRow.holds Try.pinned (OpenSpec.ofChange Rows.frameSpectraSpec) :=
  OpenClaim.holds_of_wide 5 Try.f5 rfl rfl rfl rfl rfl rfl rfl ⟨rfl, rfl, rfl, rfl, rfl⟩ rfl rfl rfl rfl rfl (by kernel_rfl) Try.func5 (by kernel_rfl)
    (of_decide_eq_true (by kernel_rfl)) (by unfold Func.isWrapper; first | (rw [if_pos (by decide +kernel)]; kernel_rfl) | (rw [if_neg (by decide +kernel)]; exact ⟨rfl, rfl⟩))
    (fun os started H enc _ => lifted os started H enc)

theorem proved : Rows.FrameSpectraSaid :=
  over
end Go.Proofs.Ytdiahlhfoplmjaa.frameSpectra
