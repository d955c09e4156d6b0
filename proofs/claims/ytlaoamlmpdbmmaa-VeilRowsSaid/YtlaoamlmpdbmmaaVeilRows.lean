/- VeilRows: what stands for a row of frames, of which some are lost. -/
import Derived.Test.YtlaoamlmpdbmmaaRows
import Derived.Test.YtlaoamlmpdbmmaaAwk19
import Derived.Test.YtlaoamlmpdbmmaaRvR
import Derived.Deep.RegionHeld
namespace Go.Proofs.Ytlaoamlmpdbmmaa.veilRows
open Go.ChangeShapes Go.WideShapes Go.ChangeAt Go.RowKit
set_option linter.unusedVariables false
set_option linter.unusedSimpArgs false

theorem Try.info_ptr : (Try.prog.info? 49).map (fun i => (i.zero, i.size, i.bytes)) = some (some (.pointer none), 1, 8) := by kernel_rfl
set_option maxRecDepth 100000 in
set_option maxHeartbeats 4000000 in
theorem walk (p : Option Addr) (n c : Nat) (L : Nat → Fr) (pb : Option Addr) (nb cb : Nat) (B : Nat → Bool) (w : World) (hn : n ≤ c) (hc : c ≤ maxLen) (hL : FrsS (fun _ => False) w p n L) (hT : ∀ i, Fits64 (L i).T) (hB : SlB w pb nb B) (hb : nb ≤ cb) (hcb : cb ≤ maxLen) :
    Calls Try.prog 4 #[.slice p n c, .slice pb nb cb] w fun e w' => e = .returned (.bool true) ∧ Old w w' := by
  have Hs29 : Hid ((Try.prog.info? 33).map (·.size) = some 29) := Lib.hid (by kernel_rfl)
  have Hs20 : Hid ((Try.prog.info? 28).map (·.size) = some 20) := Lib.hid (by kernel_rfl)
  obtain ⟨i0, hi, hz0, hz1, hz2⟩ := info_parts Try.info_piece
  obtain ⟨i1, hj, hy0, hy1, hy2⟩ := info_parts Try.info_ptr
  unfold maxLen at hc hcb
  obtain ⟨N, hN⟩ : ∃ N, N = min n 20 := ⟨_, rfl⟩
  have N1 : N ≤ n := by omega
  have N2 : N ≤ 20 := by omega
  obtain ⟨X, hX⟩ : ∃ X, X = rvX L B nb := ⟨_, rfl⟩
  have hXt : ∀ i x, i < N → X i = some x → ToV (fun _ => False) w x ∧ FrP x.F x.n x.T := fun i x hi hx => by
    rw [hX] at hx
    unfold rvX at hx
    split at hx
    · cases hx
    · next hno =>
      cases hx
      exact ⟨(hL.2 i (by omega)).few, Decidable.not_not.1 fun h => hno (.inr h)⟩
  obtain ⟨z, hz⟩ : ∃ z : Array Value, z = #[.int .i64 0, .int .i64 0, .int .i64 0, .int .i64 0, .int .i64 0, .int .i64 0, .int .i64 0, .int .i64 0, .int .i64 0, .int .i64 0, .int .i64 0, .int .i64 0, .int .i64 0, .int .i64 0, .int .i64 0, .int .i64 0, .int .i64 0, .int .i64 0, .int .i64 0, .int .i64 0, .int .i64 0] := ⟨_, rfl⟩
  obtain ⟨y, hy⟩ : ∃ y : Array Value, y = rowN 29 (frC (fun _ => 0) (.slice none 0 0)) := ⟨_, rfl⟩
  have ys : Hid (y.size = 29) := Lib.hid (by rw [hy, rowN_size])
  rw [frC_zero] at hy
  obtain ⟨W0, hW0⟩ : ∃ W0, W0 = w.alloc (.cells z 30) := ⟨_, rfl⟩
  obtain ⟨vb, hvb⟩ : ∃ vb, vb = w.heap.size := ⟨_, rfl⟩
  have H0 : Hid (RvR w vb 0 0 X (fun _ => .pointer none) (.slice none 0 0) (.slice none 0 0) W0) := Lib.hid (by
    have hv0 : VlB W0 vb (rwP X 0).1 ((rwP X 0).2 : Nat) := by
      rw [hW0, hvb]
      unfold VlB
      rw [show vlF (rwP X 0).1 ((rwP X 0).2 : Nat) = fun _ => 0 from vlF_zero, row21_zero, ← hz]
      exact heap_alloc_new _ _
    have ho : Old w W0 := by rw [hW0]; exact Old.alloc _ _
    exact ⟨ownX.nil _ _ _, ⟨ownS.nil (fun q => q < w.heap.size) W0 28 20, hv0, ho, by omega⟩, fun i hi => absurd hi (by omega)⟩)
  have HXt := Lib.hid hXt
  have HL := Lib.hid hL
  have HB := Lib.hid hB
  have HT := Lib.hid hT
  have HX := Lib.hid hX
  have Hz := Lib.hid hz
  have Hy := Lib.hid hy
  have HW0 := Lib.hid hW0
  have Hvb := Lib.hid hvb
  have HN := Lib.hid hN
  clear hL hT hB hX hXt hz hy hW0 hvb hN
  go_enter Try.func4, Try.ntmps4
  go_wp2_with fail
  rw [← Hz.out, ← HW0.out, ← Hvb.out]
  go_loopw [5, 6, 8] (fun v5 v6 i wr => ∃ (k : Nat) (U : Nat → Value), k ≤ N ∧ i = .int .i64 k ∧ Hid (RvR w vb k k X U v5 v6 wr)) (fun _ _ i _ => N - (intOf i).toNat)
  case atStart => exact ⟨0, _, by omega, rfl, H0⟩
  case round =>
    obtain ⟨k, U, hk, rfl, HR⟩ := hrel
    clear H0 HW0 Hvb Hz
    have k0 : (0 : Int) ≤ k := by omega
    go_upto_region 5 with (fail)
    go_cut [22] (fun v wx => v = .bool (decide (k < n ∧ k < 20)) ∧ wr = wx)
    case first =>
      clear HR HXt HL HB HT HX HN
      by_cases a1 : k < n
      · by_cases a2 : k < 20
        · have He := Lib.hid (show decide (k < n ∧ k < 20) = true from decide_eq_true ⟨a1, a2⟩)
          go_wp2_with fail
          go_meet
          exact ⟨by first | (rw [He.out]; done) | (rw [He.out]; exact congrArg Value.bool (decide_eq_true (by omega))) | (rw [He.out]; exact congrArg Value.bool (decide_eq_false (by omega))), rfl⟩
        · have He := Lib.hid (show decide (k < n ∧ k < 20) = false from decide_eq_false fun h => a2 h.2)
          go_wp2_with fail
          go_meet
          exact ⟨by first | (rw [He.out]; done) | (rw [He.out]; exact congrArg Value.bool (decide_eq_true (by omega))) | (rw [He.out]; exact congrArg Value.bool (decide_eq_false (by omega))), rfl⟩
      · have He := Lib.hid (show decide (k < n ∧ k < 20) = false from decide_eq_false fun h => a1 h.1)
        go_wp2_with fail
        go_meet
        exact ⟨by first | (rw [He.out]; done) | (rw [He.out]; exact congrArg Value.bool (decide_eq_true (by omega))) | (rw [He.out]; exact congrArg Value.bool (decide_eq_false (by omega))), rfl⟩
    case rest =>
      obtain ⟨rfl, rfl⟩ := hcut
      by_cases hlt : k < N
      · have hlt1 : k < n := by omega
        rw [decide_eq_true (show k < n ∧ k < 20 from ⟨hlt1, by omega⟩)]
        obtain ⟨g, o, rfl, hg, hLc⟩ := (HL.out.old HR.out.rw.old).row k hlt1
        obtain ⟨q', c', hs, h1, h2, h3, _⟩ := HL.out.2 k hlt1
        have HLd := Lib.hid hLc
        have h3' := slF_less h3 (Nat.min_le_left (L k).n 5)
        have hFa := fun W => Few_any (L k).F q' (L k).n c' W h1 h2
        have hx : fewX (L k) = ⟨(L k).F, .slice q' (min (L k).n 5) c', min (L k).n 5, (L k).T⟩ := by unfold fewX; rw [hs]; rfl
        have hRt := fun W (ho : Old w W) => FRight_any (L k).F q' (min (L k).n 5) c' (L k).T W (h3'.old ho) (HT.out k) (by have := Nat.min_le_left (L k).n 5; omega) h2
        have hXk : (X k).isNone = decide ((k < nb ∧ B k = true) ∨ ¬ FrP (L k).F (min (L k).n 5) (L k).T) := by
          rw [HX.out]
          unfold rvX
          rw [hx]
          dsimp only
          split
          · next h => rw [decide_eq_true h]; rfl
          · next h => rw [decide_eq_false h]; rfl
        have hXs : ∀ x, X k = some x → x = ⟨(L k).F, .slice q' (min (L k).n 5) c', min (L k).n 5, (L k).T⟩ := fun x h => by
          rw [HX.out] at h
          unfold rvX at h
          rw [← hx]
          split at h
          · cases h
          · exact (Option.some.inj h).symm
        rw [hs] at HLd
        have HFa := Lib.hid hFa
        have HRt := Lib.hid hRt
        have HXk := Lib.hid hXk
        have HXs := Lib.hid hXs
        have Hs3 := Lib.hid h3'
        have m5 : min (L k).n 5 ≤ c' := by have := Nat.min_le_left (L k).n 5; omega
        have Hc2 := Lib.hid h2
        clear hLc hs h1 h2 h3 h3' hFa hx hRt hXk hXs HT HX
        generalize (L k).F = F at *
        generalize (L k).T = T at *
        obtain ⟨m, hm⟩ : ∃ m, min (L k).n 5 = m := ⟨_, rfl⟩
        rw [hm] at HFa HRt HXk HXs Hs3 m5
        have H29 : Hid ((rowN 29 (frC F (.slice q' m c'))).all (·.oneCell') = true) := Lib.hid (frC_one _ _ rfl)
        generalize (L k).n = m0 at *
        clear hm
        have Hm5 := Lib.hid m5
        clear m5
        go_wp2_with (with_reducible refine wpList_load_fr rfl (frC F (.slice q' m0 c')) 33 _ rfl g (o + k * 29) rfl _ HLd.out Try.underlying33 rfl Hs29.out ?_)
        refine (HFa.out _).mono ?_
        rintro e w1 ⟨rfl, o1⟩
        have hfb := FrB.new (t := 33) w1 F (.slice q' m c')
        have hR2 := HR.out.keep (o1.alloc' (.cells (rowN 29 (frC F (.slice q' m c'))) 33))
        obtain ⟨W2, hW2⟩ : ∃ W2, W2 = w1.alloc (.cells (rowN 29 (frC F (.slice q' m c'))) 33) := ⟨_, rfl⟩
        obtain ⟨fb, hfbe⟩ : ∃ fb, fb = w1.heap.size := ⟨_, rfl⟩
        rw [← hW2, ← hfbe] at hfb
        rw [← hW2] at hR2
        have HFb := Lib.hid hfb
        have HR2 := Lib.hid hR2
        have HW2 := Lib.hid hW2
        have Hfb := Lib.hid hfbe
        have HBb := Lib.hid (HB.out.old HR2.out.rw.old)
        clear hfb hR2 hW2 hfbe o1 HR HFa HLd hg
        go_upto_region 8 with (first | (rw [← Hy.out]; with_reducible refine wpList_store_row rfl 33 _ _ rfl w1.heap.size (rowN 29 (frC F (.slice q' m c'))) rfl rfl 33 _ (heap_alloc_new _ _) (by rw [rowN_size]; exact Hs29.out) (by rw [rowN_size]; exact ys.out) H29.out ?_; rw [World.setRow_alloc_new, ← HW2.out, ← Hfb.out]))
        try simp only [Act.put, List.setIfInBounds_toArray, List.set_cons_zero, List.set_cons_succ]
        go_cut [44] (fun v wx => v = .bool (X k).isNone ∧ Old W2 wx)
        case first =>
          have HR2o := Lib.hid HR2.out.rw.old
          clear HR2 HL HXt HN HXs
          have HFd := Lib.hid HFb.out.heap
          by_cases a1 : k < nb
          · obtain ⟨gb, ob, rfl, _, hbc⟩ := HBb.out (by omega)
            have hbk := hbc k a1
            clear hbc HB HBb
            by_cases a2 : B k = true
            · have He : Hid ((X k).isNone = true) := Lib.hid (by rw [HXk.out]; exact decide_eq_true (.inl ⟨a1, a2⟩))
              rw [a2] at hbk
              clear HXk HRt HFd
              go_wp2_with fail
              go_meet
              exact ⟨by rw [He.out], Old.refl _⟩
            · have a3 : B k = false := by simpa using a2
              rw [a3] at hbk
              by_cases a4 : FrP F m T
              · have He : Hid ((X k).isNone = false) := Lib.hid (by rw [HXk.out]; exact decide_eq_false (fun h => h.elim (fun h => a2 h.2) (fun h => h a4)))
                rw [decide_eq_true a4] at HRt
                clear HXk
                go_wp2_with (with_reducible refine wpList_load_row_w (by kernel_rfl) 33 _ rfl fb rfl 33 (rowN 29 (frC F (.slice q' m c'))) (0, 0) _ HFd.out Try.underlying33 rfl (by rw [rowN_size]; exact Hs29.out) ?_)
                refine (HRt.out W2 HR2o.out).mono ?_
                rintro e wv ⟨rfl, o2⟩
                have HO := Lib.hid o2
                clear o2 HRt HFd
                go_wp2_with fail
                go_meet
                exact ⟨by rw [He.out], HO.out⟩
              · have He : Hid ((X k).isNone = true) := Lib.hid (by rw [HXk.out]; exact decide_eq_true (.inr a4))
                rw [decide_eq_false a4] at HRt
                clear HXk
                go_wp2_with (with_reducible refine wpList_load_row_w (by kernel_rfl) 33 _ rfl fb rfl 33 (rowN 29 (frC F (.slice q' m c'))) (0, 0) _ HFd.out Try.underlying33 rfl (by rw [rowN_size]; exact Hs29.out) ?_)
                refine (HRt.out W2 HR2o.out).mono ?_
                rintro e wv ⟨rfl, o2⟩
                have HO := Lib.hid o2
                clear o2 HRt HFd
                go_wp2_with fail
                go_meet
                exact ⟨by rw [He.out], HO.out⟩
          · clear HB HBb
            by_cases a4 : FrP F m T
            · have He : Hid ((X k).isNone = false) := Lib.hid (by rw [HXk.out]; exact decide_eq_false (fun h => h.elim (fun h => a1 h.1) (fun h => h a4)))
              rw [decide_eq_true a4] at HRt
              clear HXk
              go_wp2_with (with_reducible refine wpList_load_row_w (by kernel_rfl) 33 _ rfl fb rfl 33 (rowN 29 (frC F (.slice q' m c'))) (0, 0) _ HFd.out Try.underlying33 rfl (by rw [rowN_size]; exact Hs29.out) ?_)
              refine (HRt.out W2 HR2o.out).mono ?_
              rintro e wv ⟨rfl, o2⟩
              have HO := Lib.hid o2
              clear o2 HRt HFd
              go_wp2_with fail
              go_meet
              exact ⟨by rw [He.out], HO.out⟩
            · have He : Hid ((X k).isNone = true) := Lib.hid (by rw [HXk.out]; exact decide_eq_true (.inr a4))
              rw [decide_eq_false a4] at HRt
              clear HXk
              go_wp2_with (with_reducible refine wpList_load_row_w (by kernel_rfl) 33 _ rfl fb rfl 33 (rowN 29 (frC F (.slice q' m c'))) (0, 0) _ HFd.out Try.underlying33 rfl (by rw [rowN_size]; exact Hs29.out) ?_)
              refine (HRt.out W2 HR2o.out).mono ?_
              rintro e wv ⟨rfl, o2⟩
              have HO := Lib.hid o2
              clear o2 HRt HFd
              go_wp2_with fail
              go_meet
              exact ⟨by rw [He.out], HO.out⟩
        case rest =>
          obtain ⟨rfl, o3⟩ := hcut
          obtain ⟨W3, rfl⟩ : ∃ V, V = wc := ⟨_, rfl⟩
          have HR3 := Lib.hid (HR2.out.keep o3)
          have HFb3 := Lib.hid (HFb.out.old o3)
          clear o3 HR2 HFb HBb HRt HXk HB HW2 Hfb H29 Hy ys
          cases hXk : X k with
          | none =>
            have HPB : Hid (PtB W3 (.pointer none) (X k)) := Lib.hid (by rw [hXk]; rfl)
            have HLP : (rwP X (k + 1)).2 = (rwP X (k + 1)).2 := rfl
            rw [show (none : Option Fr).isNone = true from rfl]
            clear HXs HFb3
            have HP3 := Lib.hid (fun v' w5 (hown : ownX (but (W3.alloc (.cells #[.pointer none] 49)) u5) w5 49 v' (k + 1) ((List.range k).map U ++ [.pointer none])) hK hv => (HR3.out.keep (Old.alloc W3 (.cells #[.pointer none] 49))).addP (HPB.out.old (Old.alloc W3 (.cells #[.pointer none] 49))) hown hK hv)
            have HA : Hid (ownX (but (W3.alloc (.cells #[.pointer none] 49)) u5) (W3.alloc (.cells #[.pointer none] 49)) 49 u5 k ((List.range k).map U)) := Lib.hid (by
              have h := HR3.out.pt.old (Old.alloc W3 (.cells #[.pointer none] 49))
              exact ⟨h.1, fun q hq h2 => h2.2 hq⟩)
            have HNw : Hid (∀ (j : Nat) (u : Value), [.pointer none][j]? = some u → (W3.alloc (.cells #[.pointer none] 49)).cell? ((⟨W3.heap.size, 0, none⟩ : Addr).add j) = some u) := Lib.hid fun j u hj => by
              cases j with
              | zero =>
                simp at hj
                subst hj
                rw [add_plain, cell_of_row _ _ _ _ _ _ (heap_alloc_new _ _)]
                rfl
              | succ j => simp at hj
            have HBl : Hid (∀ q, but (W3.alloc (.cells #[.pointer none] 49)) u5 q → q < (W3.alloc (.cells #[.pointer none] 49)).heap.size) := Lib.hid fun q hq => hq.1
            have H1u : Hid (∀ u ∈ [Value.pointer none], u.oneCell' = true) := Lib.hid fun u hu => by rw [List.mem_singleton.1 hu]; rfl
            go_wp2_with (at_builtin; refine append_X _ rfl _ _ 47 rfl (but (W3.alloc (.cells #[.pointer none] 49)) u5) 49 i1 _ 8 Try.underlying47 hj hy0 hy1 hy2 rfl _ _ _ rfl HA.out ⟨W3.heap.size, 0, none⟩ 1 1 [.pointer none] rfl rfl HNw.out H1u.out (by unfold maxLen; omega) (by omega) HBl.out ?_; intro v5 W4 hown4 hk4 hv4; have HR4 := Lib.hid (HP3.out v5 W4 hown4 hk4 hv4); clear hown4 hk4 hv4 HP3 HA HNw HBl H1u)
            have hC := Lose_any vb _ _ W4 HR4.out.rw.vl (rwP_sml X k) (by have := rwP_le X k; omega)
            rw [← rwA_none hXk] at hC
            have e1 := congrArg Prod.fst (rwP_none hXk)
            have e2 := congrArg Prod.snd (rwP_none hXk)
            dsimp only at e1 e2
            rw [← e1, ← e2] at hC
            have HC := Lib.hid hC
            clear hC e1 e2 hXk HPB HR3
            refine (HC.out).mono ?_
            rintro e W5 ⟨rfl, hb2, hk2⟩
            have HL5 := Lib.hid (fun v' w5 (hown : ownS (but (W5.alloc (.cells (rowN 20 (blk (rwA X k))) 28)) u6) w5 28 20 v' (k + 1) (rowL (k * 20) (rwR X) ++ rowL 20 (rwA X k))) hK hv => HR4.out.addV (o := .cells (rowN 20 (blk (rwA X k))) 28) rfl rfl hk2 hb2 hown hK hv)
            have HA : Hid (ownS (but (W5.alloc (.cells (rowN 20 (blk (rwA X k))) 28)) u6) (W5.alloc (.cells (rowN 20 (blk (rwA X k))) 28)) 28 20 u6 k (rowL (k * 20) (rwR X))) := Lib.hid (by
              have hne := own_not HR4.out.rw.own HR4.out.rw.vl.heap (by decide)
              exact ((HR4.out.rw.own.kept hk2 fun q hq => ⟨HR4.out.rw.own.lt q hq, hne q hq⟩).old (Old.alloc W5 _)).mono fun q hq h => h.2 hq)
            have hNw := news_row W5 20 (blk (rwA X k)) 28
            have hBS := fun W => piece_build (rwA X k) W
            have hBF := piece_fold (rwA X k)
            obtain ⟨Z, hZ⟩ : ∃ Z, Z = rowN 20 (blk (rwA X k)) := ⟨_, rfl⟩
            have hZs : Z.size = 20 := by rw [hZ, rowN_size]
            rw [← hZ] at hNw hBS hBF HL5 HA
            have HNw : Hid (∀ (j : Nat) (u : Value), (rowL 20 (rwA X k))[j]? = some u → (W5.alloc (.cells Z 28)).cell? ((⟨W5.heap.size, 0, none⟩ : Addr).add j) = some u) := Lib.hid fun j u hj => hNw j u (by rw [hZ]; exact hj)
            have HBl : Hid (∀ q, but (W5.alloc (.cells Z 28)) u6 q → q < (W5.alloc (.cells Z 28)).heap.size) := Lib.hid fun q hq => hq.1
            have HLn := Lib.hid (rowL_len 20 (rwA X k))
            have H1y := Lib.hid (rowL_one 20 (rwA X k))
            rw [← hZ]
            clear hZ hNw HR4 hk2 hb2 HC
            go_wp2_with (at_builtin; refine append_S _ rfl _ _ 48 rfl (but (W5.alloc (.cells Z 28)) u6) 28 i0 _ 20 160 Try.underlying48 hi hz0 hz1 hz2 (by rfl) (by omega) _ _ _ rfl HA.out ⟨W5.heap.size, 0, none⟩ 1 1 (rowL 20 (rwA X k)) rfl (by rw [HLn.out]) HNw.out H1y.out (by unfold maxLen; omega) (by omega) HBl.out ?_; intro v6 w6 hown6 hk6 hv6; have HR6 := Lib.hid (HL5.out v6 w6 hown6 hk6 hv6); clear hown6 hk6 hv6 HL5 HA HNw HBl HLn H1y)
            go_roundw
            case rel => exact ⟨k + 1, _, by omega, by go_num, HR6⟩
            case measure => (simp [intOf]; try omega)
          | some x =>
            have hxe := HXs.out x hXk
            have HPB : Hid (PtB W3 (.pointer (some ⟨fb, 0, none⟩)) (X k)) := Lib.hid (by rw [hXk, hxe]; exact ⟨fb, rfl, HFb3.out⟩)
            have hP := (HXt.out k x hlt hXk).2
            rw [show (some x : Option Fr).isNone = false from rfl]
            rw [hxe] at hP hXk
            clear HXs
            have HP3 := Lib.hid (fun v' w5 (hown : ownX (but (W3.alloc (.cells #[.pointer (some ⟨fb, 0, none⟩)] 49)) u5) w5 49 v' (k + 1) ((List.range k).map U ++ [.pointer (some ⟨fb, 0, none⟩)])) hK hv => (HR3.out.keep (Old.alloc W3 (.cells #[.pointer (some ⟨fb, 0, none⟩)] 49))).addP (HPB.out.old (Old.alloc W3 (.cells #[.pointer (some ⟨fb, 0, none⟩)] 49))) hown hK hv)
            have HA : Hid (ownX (but (W3.alloc (.cells #[.pointer (some ⟨fb, 0, none⟩)] 49)) u5) (W3.alloc (.cells #[.pointer (some ⟨fb, 0, none⟩)] 49)) 49 u5 k ((List.range k).map U)) := Lib.hid (by
              have h := HR3.out.pt.old (Old.alloc W3 (.cells #[.pointer (some ⟨fb, 0, none⟩)] 49))
              exact ⟨h.1, fun q hq h2 => h2.2 hq⟩)
            have HNw : Hid (∀ (j : Nat) (u : Value), [.pointer (some ⟨fb, 0, none⟩)][j]? = some u → (W3.alloc (.cells #[.pointer (some ⟨fb, 0, none⟩)] 49)).cell? ((⟨W3.heap.size, 0, none⟩ : Addr).add j) = some u) := Lib.hid fun j u hj => by
              cases j with
              | zero =>
                simp at hj
                subst hj
                rw [add_plain, cell_of_row _ _ _ _ _ _ (heap_alloc_new _ _)]
                rfl
              | succ j => simp at hj
            have HBl : Hid (∀ q, but (W3.alloc (.cells #[.pointer (some ⟨fb, 0, none⟩)] 49)) u5 q → q < (W3.alloc (.cells #[.pointer (some ⟨fb, 0, none⟩)] 49)).heap.size) := Lib.hid fun q hq => hq.1
            have H1u : Hid (∀ u ∈ [Value.pointer (some ⟨fb, 0, none⟩)], u.oneCell' = true) := Lib.hid fun u hu => by rw [List.mem_singleton.1 hu]; rfl
            have HFK := Lib.hid (fun w5 (hK : Kept (but (W3.alloc (.cells #[.pointer (some ⟨fb, 0, none⟩)] 49)) u5) (W3.alloc (.cells #[.pointer (some ⟨fb, 0, none⟩)] 49)) w5) => (HFb3.out.old (Old.alloc W3 (.cells #[.pointer (some ⟨fb, 0, none⟩)] 49))).kept hK ⟨Nat.lt_of_lt_of_le (lt_of_block HFb3.out.heap) (Old.alloc W3 _).size, fun e => own_notX HR3.out.pt HFb3.out.heap (by decide) fb e rfl⟩)
            go_wp2_with (first | (at_builtin; refine append_X _ rfl _ _ 47 rfl (but (W3.alloc (.cells #[.pointer (some ⟨fb, 0, none⟩)] 49)) u5) 49 i1 _ 8 Try.underlying47 hj hy0 hy1 hy2 rfl _ _ _ rfl HA.out ⟨W3.heap.size, 0, none⟩ 1 1 [.pointer (some ⟨fb, 0, none⟩)] rfl rfl HNw.out H1u.out (by unfold maxLen; omega) (by omega) HBl.out ?_; intro v5 W4 hown4 hk4 hv4; have HR4 := Lib.hid (HP3.out v5 W4 hown4 hk4 hv4); have HF4 := Lib.hid (HFK.out W4 hk4); have HF4h := Lib.hid HF4.out.heap; clear hown4 hk4 hv4 HP3 HA HNw HBl H1u HFK HF4) | (with_reducible refine wpList_load_row rfl 33 _ rfl fb rfl 33 (rowN 29 (frC F (.slice q' m c'))) (0, 0) _ HF4h.out Try.underlying33 rfl (by rw [rowN_size]; exact Hs29.out) ?_))
            obtain ⟨e1, e2⟩ := Prod.mk.inj (rwP_some hXk)
            dsimp only at e1 e2
            have hC := Good_any vb _ _ F q' m c' T W4 HR4.out.rw.vl (Hs3.out.old HR4.out.rw.old) Hm5.out Hc2.out hP
            have e3 : rwA X k = pcF F m T := rwA_some hXk
            rw [← e3] at hC e1
            have HC := Lib.hid hC
            have HE1 := Lib.hid e1
            have HE2 := Lib.hid e2
            clear hC e1 e2 e3 hXk HPB HR3 hP HFb3 hxe HF4h
            refine (HC.out).mono ?_
            rintro e W5 ⟨rfl, hb20, hk2⟩
            have hb2 : VlB W5 vb (rwA X k) ((0 : Nat) : Int) := hb20
            clear hb20
            have HL5 := Lib.hid (fun v' w5 (hown : ownS (but (W5.alloc (.cells (rowN 20 (blk (rwA X k))) 28)) u6) w5 28 20 v' (k + 1) (rowL (k * 20) (rwR X) ++ rowL 20 (rwA X k))) hK hv => HR4.out.addV (o := .cells (rowN 20 (blk (rwA X k))) 28) HE2.out.symm HE1.out.symm hk2 hb2 hown hK hv)
            have HA : Hid (ownS (but (W5.alloc (.cells (rowN 20 (blk (rwA X k))) 28)) u6) (W5.alloc (.cells (rowN 20 (blk (rwA X k))) 28)) 28 20 u6 k (rowL (k * 20) (rwR X))) := Lib.hid (by
              have hne := own_not HR4.out.rw.own HR4.out.rw.vl.heap (by decide)
              exact ((HR4.out.rw.own.kept hk2 fun q hq => ⟨HR4.out.rw.own.lt q hq, hne q hq⟩).old (Old.alloc W5 _)).mono fun q hq h => h.2 hq)
            have hNw := news_row W5 20 (blk (rwA X k)) 28
            have hBS := fun W => piece_build (rwA X k) W
            have hBF := piece_fold (rwA X k)
            obtain ⟨Z, hZ⟩ : ∃ Z, Z = rowN 20 (blk (rwA X k)) := ⟨_, rfl⟩
            have hZs : Z.size = 20 := by rw [hZ, rowN_size]
            rw [← hZ] at hNw hBS hBF HL5 HA
            have HNw : Hid (∀ (j : Nat) (u : Value), (rowL 20 (rwA X k))[j]? = some u → (W5.alloc (.cells Z 28)).cell? ((⟨W5.heap.size, 0, none⟩ : Addr).add j) = some u) := Lib.hid fun j u hj => hNw j u (by rw [hZ]; exact hj)
            have HBl : Hid (∀ q, but (W5.alloc (.cells Z 28)) u6 q → q < (W5.alloc (.cells Z 28)).heap.size) := Lib.hid fun q hq => hq.1
            have HLn := Lib.hid (rowL_len 20 (rwA X k))
            have H1y := Lib.hid (rowL_one 20 (rwA X k))
            rw [← hZ]
            clear hZ hNw HR4 hk2 hb2 HC
            go_wp2_with (at_builtin; refine append_S _ rfl _ _ 48 rfl (but (W5.alloc (.cells Z 28)) u6) 28 i0 _ 20 160 Try.underlying48 hi hz0 hz1 hz2 (by rfl) (by omega) _ _ _ rfl HA.out ⟨W5.heap.size, 0, none⟩ 1 1 (rowL 20 (rwA X k)) rfl (by rw [HLn.out]) HNw.out H1y.out (by unfold maxLen; omega) (by omega) HBl.out ?_; intro v6 w6 hown6 hk6 hv6; have HR6 := Lib.hid (HL5.out v6 w6 hown6 hk6 hv6); clear hown6 hk6 hv6 HL5 HA HNw HBl HLn H1y)
            go_roundw
            case rel => exact ⟨k + 1, _, by omega, by go_num, HR6⟩
            case measure => (simp [intOf]; try omega)
      · obtain rfl : k = N := by have := HN.out; omega
        rw [decide_eq_false (show ¬ (k < n ∧ k < 20) from fun h => by have := HN.out; omega)]
        obtain ⟨q5, c5, rfl, hp⟩ := HR.out.ptr HXt.out
        obtain ⟨q6, c6, rfl, hs6, _⟩ := ownS_slF HR.out.rw.own
        have HRow := Lib.hid (Row_any q5 k c5 X wr hp (by omega))
        have H6 := Lib.hid hs6
        have HO := Lib.hid HR.out.rw.old
        have k20 : (k : Int) ≤ 20 := by omega
        clear hp hs6 HR HXt HX HT HB HL HN
        go_wp2_with fail
        refine (HRow.out).mono ?_
        rintro e w2 ⟨q7, c7, rfl, hs7, o2⟩
        have H7 := Lib.hid hs7
        have H6b := Lib.hid (H6.out.old o2)
        have HO2 := Lib.hid (HO.out.trans o2)
        clear hs7 o2 HRow H6 HO
        obtain ⟨R, hR⟩ : ∃ R, rwR X = R := ⟨_, rfl⟩
        rw [hR] at H7 H6b
        clear hR
        go_wp2_with fail
        go_loopw [12] (fun i wr => ∃ j : Nat, j ≤ k ∧ i = .int .i64 j ∧ Hid (Old w2 wr)) (fun i _ => k - (intOf i).toNat)
        case atStart => exact ⟨0, by omega, rfl, Lib.hid (Old.refl _)⟩
        case round =>
          obtain ⟨j, hj, rfl, ho⟩ := hrel
          obtain ⟨wo, rfl⟩ : ∃ V, V = wr := ⟨_, rfl⟩
          by_cases hlt2 : j < k
          · have j0 : (0 : Int) ≤ j := by omega
            have j1 : (j : Int) < k := by omega
            obtain ⟨g1, o1, rfl, hg1, hc1⟩ := (H7.out.old ho.out) (by omega)
            obtain ⟨g2, o2, rfl, hg2, hc2⟩ := (H6b.out.old ho.out) (by omega)
            have HS1 : Hid (∀ V, Old wo V → ∀ q, q < 20 → V.cell? ⟨g1, o1 + j * 20 + q, none⟩ = some (.int .i64 (R (j * 20 + q)))) := Lib.hid fun V hV q hq => (hV.cell (a := ⟨g1, o1 + j * 20 + q, none⟩) hg1).trans (by rw [Nat.add_assoc]; exact hc1 (j * 20 + q) (by omega))
            have HS2 : Hid (∀ V, Old wo V → ∀ q, q < 20 → V.cell? ⟨g2, o2 + j * 20 + q, none⟩ = some (.int .i64 (R (j * 20 + q)))) := Lib.hid fun V hV q hq => (hV.cell (a := ⟨g2, o2 + j * 20 + q, none⟩) hg2).trans (by rw [Nat.add_assoc]; exact hc2 (j * 20 + q) (by omega))
            have hE := fun W => neq_same (fun q => R (j * 20 + q)) W
            have HOn := Lib.hid (ho.out.drew)
            clear hc1 hc2 hg1 hg2 H7 H6b ho
            go_wp2_with fail
            refine wp_region_held_drew (S := (fun w' => (∀ q, q < 20 → w'.cell? ⟨g1, o1 + j * 20 + q, none⟩ = some (.int .i64 (R (j * 20 + q)))) ∧ ∀ q, q < 20 → w'.cell? ⟨g2, o2 + j * 20 + q, none⟩ = some (.int .i64 (R (j * 20 + q))))) (by kernel_rfl) ?_ (fun hHeld => ?_)
            · (try dsimp only); exact ⟨HS1.out _ (Old.refl wo).drew, HS2.out _ (Old.refl wo).drew⟩
            refine wpAnyH_take (i := 0) (oi := ⟨some _, _, _, _, _, _⟩) (v := ?_) rfl (by kernel_rfl) (by kernel_rfl) (by kernel_rfl) (fun _ _ _ h => h) (Or.inl ⟨by kernel_rfl, ?_⟩) (by assumption) ?_; rotate_left; (intro w hSw; (try dsimp only at hSw); go_simp; try with_reducible rfl); try simp only [Act.put, List.setIfInBounds_toArray, List.set_cons_zero, List.set_cons_succ]
            refine wpAnyH_take (i := 1) (oi := ⟨some _, _, _, _, _, _⟩) (v := ?_) rfl (by kernel_rfl) (by kernel_rfl) (by kernel_rfl) (fun _ _ _ h => h) (Or.inl ⟨by kernel_rfl, ?_⟩) (by assumption) ?_; rotate_left; (intro w hSw; (try dsimp only at hSw); go_simp; try with_reducible rfl); try simp only [Act.put, List.setIfInBounds_toArray, List.set_cons_zero, List.set_cons_succ]
            refine wpAnyH_take (i := 2) (oi := ⟨some _, _, _, _, _, _⟩) (v := ?_) rfl (by kernel_rfl) (by kernel_rfl) (by kernel_rfl) (fun _ _ _ h => h) (Or.inl ⟨by kernel_rfl, ?_⟩) (by assumption) ?_; rotate_left; (intro w hSw; (try dsimp only at hSw); go_simp; try with_reducible rfl); try simp only [Act.put, List.setIfInBounds_toArray, List.set_cons_zero, List.set_cons_succ]
            refine wpAnyH_take (i := 3) (oi := ⟨some _, _, _, _, _, _⟩) (v := .agg (rowN 20 (blk fun q => R (j * 20 + q)))) rfl (by kernel_rfl) (by kernel_rfl) (by kernel_rfl) (fun _ _ _ h => h) (yieldsIf_load_blk 20 (fun q => R (j * 20 + q)) (by kernel_rfl) 28 _ rfl g1 (o1 + j * 20) rfl _ (fun _ h => h.1) Try.underlying28 rfl Hs20.out) (by assumption) ?_; try simp only [Act.put, List.setIfInBounds_toArray, List.set_cons_zero, List.set_cons_succ]
            refine wpAnyH_take (i := 4) (oi := ⟨some _, _, _, _, _, _⟩) (v := ?_) rfl (by kernel_rfl) (by kernel_rfl) (by kernel_rfl) (fun _ _ _ h => h) (Or.inl ⟨by kernel_rfl, ?_⟩) (by assumption) ?_; rotate_left; (intro w hSw; (try dsimp only at hSw); go_simp; try with_reducible rfl); try simp only [Act.put, List.setIfInBounds_toArray, List.set_cons_zero, List.set_cons_succ]
            refine wpAnyH_take (i := 5) (oi := ⟨some _, _, _, _, _, _⟩) (v := ?_) rfl (by kernel_rfl) (by kernel_rfl) (by kernel_rfl) (fun _ _ _ h => h) (Or.inl ⟨by kernel_rfl, ?_⟩) (by assumption) ?_; rotate_left; (intro w hSw; (try dsimp only at hSw); go_simp; try with_reducible rfl); try simp only [Act.put, List.setIfInBounds_toArray, List.set_cons_zero, List.set_cons_succ]
            refine wpAnyH_take (i := 6) (oi := ⟨some _, _, _, _, _, _⟩) (v := ?_) rfl (by kernel_rfl) (by kernel_rfl) (by kernel_rfl) (fun _ _ _ h => h) (Or.inl ⟨by kernel_rfl, ?_⟩) (by assumption) ?_; rotate_left; (intro w hSw; (try dsimp only at hSw); go_simp; try with_reducible rfl); try simp only [Act.put, List.setIfInBounds_toArray, List.set_cons_zero, List.set_cons_succ]
            refine wpAnyH_take (i := 7) (oi := ⟨some _, _, _, _, _, _⟩) (v := .agg (rowN 20 (blk fun q => R (j * 20 + q)))) rfl (by kernel_rfl) (by kernel_rfl) (by kernel_rfl) (fun _ _ _ h => h) (yieldsIf_load_blk 20 (fun q => R (j * 20 + q)) (by kernel_rfl) 28 _ rfl g2 (o2 + j * 20) rfl _ (fun _ h => h.2) Try.underlying28 rfl Hs20.out) (by assumption) ?_; try simp only [Act.put, List.setIfInBounds_toArray, List.set_cons_zero, List.set_cons_succ]
            refine wpAnyH_take (i := 8) (oi := ⟨some _, _, _, _, _, _⟩) (v := ?_) rfl (by kernel_rfl) (by kernel_rfl) (by kernel_rfl) (fun _ _ _ h => h) (Or.inl ⟨by kernel_rfl, ?_⟩) (by assumption) ?_; rotate_left; (intro w hSw; (try dsimp only at hSw); go_simp; try with_reducible rfl); try simp only [Act.put, List.setIfInBounds_toArray, List.set_cons_zero, List.set_cons_succ]
            refine wpAnyH_done (by kernel_rfl) ?_ _
            go_wp2_with fail
            go_roundw
            case rel => exact ⟨j + 1, by omega, by go_num, HOn⟩
            case measure => (simp [intOf]; try omega)
          · obtain rfl : j = k := by omega
            have HO3 := Lib.hid (HO2.out.trans ho.out)
            clear ho H7 H6b HO2
            go_wp2_with fail
            refine (awake_any _).mono ?_
            rintro e w5 ⟨rfl, o5⟩
            have HO5 := Lib.hid (HO3.out.trans o5)
            clear o5 HO3
            go_wp2_with fail
            go_ret
            exact ⟨rfl, HO5.out⟩


theorem own : ownKnob Try.prog.godebug = none := by kernel_rfl
theorem laidOut : laidOutB Try.prog = true := by kernel_rfl

set_option maxRecDepth 100000 in
theorem lifted (os : Os) (started : os.Started) (H : Type) (enc : TypeId × Value → H) :
    ReturnsInHanded {} Try.checked os 4 .any (Rows.veilRowsSpec.pre6 enc Try.prog Try.f4 Rows.veilRowsRow.domain false) (Rows.veilRowsSpec.post enc Try.prog Try.f4 false true false false) := by
  refine returnsInHanded_of_change (C := Try.checked) own started (by kernel_rfl) Try.func4
    (ChangeSpec.witness6 (enc := enc) (C := Try.checked) false ⟨#[], #[.slice none 0 0, .slice none 0 0], []⟩ 8 (by kernel_rfl) (by kernel_rfl) (by kernel_rfl) (by kernel_rfl)) ?_
  intro W base args ds gs before hval0 hW hcnd _
  have hval : ∀ (j : Nat) t v, Try.f4.params[j]? = some t → args[j]? = some v → Value.okWide Try.prog W .any base t v := hval0
  have hW' := hW
  have hlt : ∀ p ∈ before, p.block < W.heap.size := fun p hp => hW'.lt p hp
  obtain ⟨p, q, hA0, hV, rfl, hfz, hnd⟩ := hW
  have hA : DataW.TrodAll enc Try.prog W 0 (fun _ => true) true Try.f4.params.toList args.toList ds p := hA0
  rw [Try.params4] at hA hval
  obtain ⟨v0, vs0, d0, ds0, p0, q0, hargs, rfl, rfl, h0, r0⟩ := trodAll_cons hA
  obtain ⟨v1, vs1, d1, ds1, p1, q1, rfl, rfl, rfl, h1, r1⟩ := trodAll_cons r0
  obtain ⟨rfl, rfl, rfl⟩ := trodAll_nil r1
  obtain rfl : args = #[v0, v1] := by cases args; simp_all
  obtain ⟨rfl, rfl⟩ := trodVars_none hV
  obtain ⟨q0, n0, c0, L0, rfl, fn0, fc0, fs0, ft0⟩ := open_frames (hval 0 45 v0 rfl rfl) h0 (fun x hx => hlt x (by simp [hx]))
  obtain ⟨q1, n1, c1, B1, rfl, bn1, bc1, bs1⟩ := open_bools (hval 1 46 v1 rfl rfl) h1 (fun x hx => hlt x (by simp [hx]))
  refine (walk q0 n0 c0 L0 q1 n1 c1 B1 W fn0 fc0 fs0 ft0 bs1 bn1 bc1).mono fun e W' ⟨he, hg⟩ => ?_
  subst he
  exact ⟨_, rfl, law_done laidOut Try.underlying4 rfl (by kernel_rfl) rfl hW' rfl hg⟩

theorem over : Rows.veilRowsRow.holds Try.pinned (OpenSpec.ofChange Rows.veilRowsSpec) :=
  OpenClaim.holds_of_wide 4 Try.f4 rfl rfl rfl rfl rfl rfl rfl ⟨rfl, rfl, rfl, rfl, rfl⟩ rfl rfl rfl rfl rfl (by kernel_rfl) Try.func4 (by kernel_rfl)
    (of_decide_eq_true (by kernel_rfl)) (by unfold Func.isWrapper; first | (rw [if_pos (by decide +kernel)]; kernel_rfl) | (rw [if_neg (by decide +kernel)]; exact ⟨rfl, rfl⟩))
    (fun os started H enc _ => lifted os started H enc)

theorem proved : Rows.VeilRowsSaid :=
  over
end Go.Proofs.Ytlaoamlmpdbmmaa.veilRows
