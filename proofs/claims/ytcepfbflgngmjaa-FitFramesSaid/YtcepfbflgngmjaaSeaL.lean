/- What the laws of stage 12 call: search. (by the walk of fit.Search: XFitD) -/
import Derived.Test.YtcepfbflgngmjaaToldL
import Derived.Test.YtcepfbflgngmjaaMaskL
import Derived.BigQuiet
namespace Go.Proofs.Ytcepfbflgngmjaa
set_option linter.unusedVariables false
set_option maxRecDepth 100000
set_option linter.unusedSimpArgs false
open Go.RowKit Go.ChangeShapes Go.WideShapes

set_option maxHeartbeats 16000000 in
theorem LSearch_any (f g : Nat → Int) (room : Int) (tones : Bool) (w : World) (hf : Fits64 f) :
    Calls Try.prog 9 #[.agg (rowN 16 (blk f)), .agg (rowN 4 (blk g)), .int .i64 room, .bool tones] w fun e w' => ∃ n p cap, e = .returned (.tuple #[.agg (rowN 29 (frC (tolN g (sclN (restF2 f tones) n) (restF2 f tones)) (.slice p (tnN f tones) cap))), .int .i64 (n : Int)]) ∧ StopAt (restF2 f tones) (tnN f tones) room n ∧ tnN f tones ≤ 2 ∧ tnN f tones ≤ cap ∧ cap ≤ maxLen ∧ SlF 2 w' p (tnN f tones) (toneF f) ∧ (∀ q, (Value.slice p (tnN f tones) cap).ownBlock = some q → w.heap.size ≤ q) ∧ Old w w' := by
  have Hs4 : Hid ((Try.prog.info? 24).map (·.size) = some 4) := Lib.hid (by kernel_rfl)
  have HsC : Hid ((Try.prog.info? 24).map (·.size) = some 4) := Lib.hid (by kernel_rfl)
  have Hs16 : Hid ((Try.prog.info? 23).map (·.size) = some 16) := Lib.hid (by kernel_rfl)
  have Hs29 : Hid ((Try.prog.info? 29).map (·.size) = some 29) := Lib.hid (by kernel_rfl)
  obtain ⟨z, hz⟩ : ∃ z : Array Value, z = rowN 29 (frC (fun _ => 0) (.slice none 0 0)) := ⟨_, rfl⟩
  have hzs : z.size = 29 := by rw [hz, rowN_size]
  rw [frC_zero] at hz
  obtain ⟨W0, hW0⟩ : ∃ W0, W0 = (((w.alloc (.cells (rowN 16 (blk f)) 23)).alloc (.cells (rowN 4 (blk g)) 24)).alloc (.cells z 29)) := ⟨_, rfl⟩
  have h0 : SeSt w z f g W0 := by rw [hW0]; exact SeSt.start w z f g
  have H0 := Lib.hid h0
  have HF := Lib.hid (fun w => Find_any f hf w)
  have Hf := Lib.hid hf
  have Hzs := Lib.hid hzs
  have hX := restF2_fits hf tones
  obtain ⟨X, hXd⟩ : ∃ X, restF2 f tones = X := ⟨_, rfl⟩
  obtain ⟨t, htd⟩ : ∃ t, tnN f tones = t := ⟨_, rfl⟩
  have hOut0 : Hid (addTo (-1) f (toneF f) t = X) := by unfold Hid; rw [← htd]; exact hXd
  rw [hXd] at hX ⊢
  rw [htd]
  have Ht := Lib.hid htd
  have HX := Lib.hid hX
  clear h0 hf hzs hXd htd hX
  go_enter Try.func9, Try.ntmps9
  go_upto_if 17 with (fail)
  rw [← hz, ← hW0]
  clear hz hW0
  go_cut [10] (fun v wx => ∃ p cap, v = .slice p t cap ∧ t ≤ 2 ∧ t ≤ cap ∧ cap ≤ maxLen ∧ SlF 2 wx p t (toneF f) ∧ (∀ q, (Value.slice p t cap).ownBlock = some q → W0.heap.size ≤ q) ∧ Old W0 wx)
  case first =>
    cases tones
    · go_wp2_with fail
      go_meet
      have h0 : t = 0 := by rw [← Ht.out]; rfl
      rw [h0]
      exact ⟨none, 0, rfl, by omega, by omega, Nat.zero_le _, fun h => absurd h (by omega), fun q hq => (by cases hq), Old.refl _⟩
    · go_wp2_with (with_reducible refine wpList_load_row rfl 23 _ rfl w.heap.size rfl 23 (rowN 16 (blk f)) (0, 0) _ H0.out.b Try.underlying23 rfl (by rw [rowN_size]; exact Hs16.out) ?_)
      refine (HF.out _).mono ?_
      rintro e w1 ⟨v, rfl, hl, hown, ho⟩
      obtain ⟨p, cap, rfl, hnc, hcm, hsl⟩ := own2_slice hown
      have hq := fun q h => Nat.le_of_not_lt (hown.2 q h)
      clear hown
      go_wp2_with fail
      go_meet
      rw [show (findL f).length = t from Ht.out] at hl hnc hsl hq ⊢
      exact ⟨p, cap, rfl, hl, hnc, hcm, hsl, hq, ho⟩
  case rest =>
    obtain ⟨p, cap, rfl, t2, tc, cm, hsl, hq, ho⟩ := hcut
    have hrb := lt_of_block H0.out.r
    have Hq : Hid (∀ q, (Value.slice p t cap).ownBlock = some q → w.heap.size + 1 + 1 < q) := Lib.hid fun q h => Nat.lt_of_lt_of_le hrb (hq q h)
    clear hq hrb
    obtain ⟨V1, rfl⟩ : ∃ V, V = wc := ⟨_, rfl⟩
    have hOut := Out_any f p t cap (toneF f) V1 hsl (by omega)
    rw [hOut0.out] at hOut
    have H1 := Lib.hid (H0.out.keep ho)
    have HSl := Lib.hid hsl
    have HOut := Lib.hid hOut
    have HMk := Lib.hid (fun w => LMask_any X w HX.out)
    have Hcm := Lib.hid cm
    clear hOut hsl ho H0 HF cm Ht
    go_wp2_with (with_reducible refine wpList_load_row rfl 23 _ rfl w.heap.size rfl 23 (rowN 16 (blk f)) (0, 0) _ H1.out.b Try.underlying23 rfl (by rw [rowN_size]; exact Hs16.out) ?_)
    refine HOut.out.mono ?_
    rintro e V2 ⟨rfl, o2⟩
    have HV2 : Hid (Old V1 V2) := Lib.hid o2
    clear o2 HOut
    go_wp2_with fail
    refine (HMk.out _).mono ?_
    rintro e V3 ⟨rfl, o3⟩
    have H1M : Hid ((rowN 4 (blk (maskI X))).all (·.oneCell') = true) := Lib.hid (blk_one _ _)
    have o3' := o3.alloc' (.cells (rowN 4 (blk (maskI X))) 24)
    have HMb := Lib.hid (heap_alloc_new V3 (.cells (rowN 4 (blk (maskI X))) 24))
    have HO4 := Lib.hid (HV2.out.trans o3')
    clear o3 o3' HMk HV2
    go_wp2_with (with_reducible refine wpList_store_row rfl 24 _ _ rfl V3.heap.size (rowN 4 (blk (maskI X))) rfl rfl 24 _ (heap_alloc_new _ _) (by rw [rowN_size]; exact Hs4.out) (by rw [rowN_size]; kernel_rfl) H1M.out ?_; rw [World.setRow_alloc_new])
    rw [← row4_zero]
    obtain ⟨V4, hV4⟩ : ∃ V4, V4 = V3.alloc (.cells (rowN 4 (blk (maskI X))) 24) := ⟨_, rfl⟩
    obtain ⟨mb, hmb⟩ : ∃ mb, mb = V3.heap.size := ⟨_, rfl⟩
    rw [← hV4, ← hmb] at HMb
    rw [← hV4] at HO4
    rw [← hV4, ← hmb]
    have hsz : mb + 1 = V4.heap.size := by rw [hV4, hmb]; simp
    rw [hsz]
    clear hV4 hmb hsz H1M
    have HSe := Lib.hid (H1.out.keep HO4.out)
    have HSl4 := Lib.hid (HSl.out.old HO4.out)
    have HR0 : Hid (RoSt 24 V4 X t room 0 (V4.alloc (.cells (rowN 4 (blk fun _ => 0)) 24))) := Lib.hid ⟨fun j hj => by omega, heap_alloc_new _ _, Old.alloc _ _⟩
    clear H1 HO4 HSl
    go_loopw [13] (fun i wr => ∃ n : Nat, i = .int .i64 (n : Int) ∧ n ≤ 92 ∧ Hid (RoSt 24 V4 X t room n wr)) (fun i _ => 92 - (intOf i).toNat)
    case atStart => exact ⟨0, rfl, by omega, HR0⟩
    case round =>
      obtain ⟨n, rfl, hn92, hr⟩ := hrel
      obtain ⟨wo, rfl⟩ : ∃ V, V = wr := ⟨_, rfl⟩
      clear HR0
      obtain ⟨hsb, hsum⟩ := scl_inv X t room n hr.out.no
      have HSB := Lib.hid hsb
      have hbx := HSe.out.keep hr.out.old
      have HBo := Lib.hid hbx.b
      have HGo := Lib.hid hbx.g
      have hlt := LTold_any f g (sclN X n) p t cap (toneF f) wo Hf.out (HSl4.out.old hr.out.old) (by omega)
      rw [hOut0.out] at hlt
      have HT := Lib.hid hlt
      have HSo := Lib.hid hr.out.s
      clear hsb hsum hbx hlt
      go_wp2_with (first | (with_reducible refine wpList_load_row rfl 23 _ rfl w.heap.size rfl 23 (rowN 16 (blk f)) (0, 0) _ HBo.out Try.underlying23 rfl (by rw [rowN_size]; exact Hs16.out) ?_) | (with_reducible refine wpList_load_row rfl 24 _ rfl (w.heap.size + 1) rfl 24 (rowN 4 (blk g)) (0, 0) _ HGo.out Try.underlying24 rfl (by rw [rowN_size]; exact Hs4.out) ?_) | (with_reducible refine wpList_load_row rfl 24 _ rfl V4.heap.size rfl 24 (rowN 4 (blk (sclN X n))) (0, 0) _ HSo.out Try.underlying24 rfl (by rw [rowN_size]; exact Hs4.out) ?_))
      refine HT.out.mono ?_
      rintro e W1 ⟨rfl, o1⟩
      obtain ⟨F, hF⟩ : ∃ F, tolN g (sclN X n) X = F := ⟨_, rfl⟩
      have hFs : ∀ k, k < 4 → F (5 + k) = sclN X n k := by rw [← hF]; exact fun k hk => frN_s _ _ _ _ k hk
      have hFu : ∀ k, k < 4 → F (9 + k) = wideF (toldR stepI X (sclN X n)) k := by rw [← hF]; exact fun k hk => frN_u _ _ _ _ k hk
      rw [hF]
      have H1F : Hid ((rowN 29 (frC F (.slice p t cap))).all (·.oneCell') = true) := Lib.hid (frC_one _ _ rfl)
      obtain ⟨V5, hV5⟩ : ∃ V5, V5 = W1.alloc (.cells (rowN 29 (frC F (.slice p t cap))) 29) := ⟨_, rfl⟩
      obtain ⟨fb, hfb⟩ : ∃ fb, fb = W1.heap.size := ⟨_, rfl⟩
      have o5 : Old wo V5 := by rw [hV5]; exact o1.alloc' _
      have hfr : FrB 29 V5 fb F (.slice p t cap) := by rw [hV5, hfb]; exact FrB.new _ _ _
      have hcost : costI F t = costN X t n := by
        unfold costI costN
        rw [sum_four, sum_four, hFu 0 (by omega), hFu 1 (by omega), hFu 2 (by omega), hFu 3 (by omega)]
      have HBi := Lib.hid (fun w => Bits_wide F p t cap w (fun k hk => by rw [hFu k hk]; have := wideF_bd (toldR stepI X (sclN X n)) k; omega) (by omega))
      rw [hcost] at HBi
      have HFu := Lib.hid hFu
      have HF5 := Lib.hid hfr
      have HO5 := Lib.hid o5
      have HV5 := Lib.hid hV5
      have Hfb := Lib.hid hfb
      have HFn := Lib.hid hF
      have HRo := Lib.hid hr.out.old
      have HSc := Lib.hid ((o5.block _ (lt_of_block hr.out.s)).trans hr.out.s)
      have HMc := Lib.hid (((hr.out.old.trans o5).block _ (lt_of_block HMb.out)).trans HMb.out)
      clear hF hFs hFu o1 o5 hfr hV5 hfb hcost HT HBo HGo HSo
      go_wp2_with (with_reducible refine wpList_store_row rfl 29 _ _ rfl W1.heap.size (rowN 29 (frC F (.slice p t cap))) rfl rfl 29 _ (heap_alloc_new _ _) (by rw [rowN_size]; exact Hs29.out) (by rw [rowN_size]; kernel_rfl) H1F.out ?_; rw [World.setRow_alloc_new, ← HV5.out, ← Hfb.out])
      clear HV5 Hfb H1F
      obtain ⟨U, hU⟩ : ∃ U, wideF (toldR stepI X (sclN X n)) = U := ⟨_, rfl⟩
      have hbO : bestTo (maskI X) (sclN X n) U 4 = bestOf X (sclN X n) := by rw [← hU]; rfl
      have HbO := Lib.hid hbO
      rw [hU] at HFu
      have HU0 := Lib.hid (fun k => show 0 ≤ U k from hU ▸ (wideF_bd _ k).1)
      clear hU hbO
      go_loopw [15, 16] (fun a i wr => ∃ k : Nat, k ≤ 4 ∧ i = .int .i64 k ∧ a = .int .i64 (bestTo (maskI X) (sclN X n) U k) ∧ Hid (Old V5 wr)) (fun _ i _ => 4 - (intOf i).toNat)
      case atStart => exact ⟨0, by omega, rfl, rfl, Lib.hid (Old.refl _)⟩
      case round =>
        obtain ⟨k, hk, rfl, rfl, ho⟩ := hrel
        obtain ⟨wq, rfl⟩ : ∃ V, V = wr := ⟨_, rfl⟩
        by_cases hlt : k < 4
        · have i0 : (0 : Int) ≤ k := by omega
          have i1 : (k : Int) < 4 := by omega
          have c1 := ((HF5.out.old ho.out).cell (9 + k) (by omega) (by omega)).1
          rw [HFu.out k hlt] at c1
          have hs5 := (ho.out.block _ (lt_of_block HSc.out)).trans HSc.out
          have hm5 := (ho.out.block _ (lt_of_block HMc.out)).trans HMc.out
          have c2 := (cell_of_row _ _ _ _ _ _ hs5).trans (blk_at 4 (sclN X n) k hlt)
          have c3 := (cell_of_row _ _ _ _ _ _ hm5).trans (blk_at 4 (maskI X) k hlt)
          have u0 := HU0.out k
          obtain ⟨s0, s1⟩ := HSB.out k hlt
          obtain ⟨m0, m1⟩ := maskI_bd X k
          obtain ⟨b, hb⟩ : ∃ b, bestTo (maskI X) (sclN X n) U k = b := ⟨_, rfl⟩
          have hbd := bestTo_bd (maskI X) (sclN X n) U k
          have hnx : bestTo (maskI X) (sclN X n) U (k + 1) = candI (maskI X) (sclN X n) U b k := by rw [← hb]; rfl
          unfold candI at hnx
          have HY : Hid (0 < U k → sclN X n k < 23 → (b < 0 ∨ maskI X b.toNat - sclN X n b.toNat < maskI X k - sclN X n k) → bestTo (maskI X) (sclN X n) U (k + 1) = k) := Lib.hid fun h1 h2 h3 => by rw [hnx, if_pos ⟨h1, h2, h3⟩]
          have HZ : Hid (¬ (0 < U k ∧ sclN X n k < 23 ∧ (b < 0 ∨ maskI X b.toNat - sclN X n b.toNat < maskI X k - sclN X n k)) → bestTo (maskI X) (sclN X n) U (k + 1) = b) := Lib.hid fun h => by rw [hnx, if_neg h]
          rw [hb] at hbd ⊢
          clear hb hnx
          by_cases hb0 : b < 0
          · have HZ' : Hid (¬ (0 < U k ∧ sclN X n k < 23) → bestTo (maskI X) (sclN X n) U (k + 1) = b) := Lib.hid fun h => HZ.out fun h' => h ⟨h'.1, h'.2.1⟩
            have HY' : Hid (0 < U k → sclN X n k < 23 → bestTo (maskI X) (sclN X n) U (k + 1) = k) := Lib.hid fun h1 h2 => HY.out h1 h2 (.inl hb0)
            clear HZ HY hs5 hm5
            generalize U k = uk at *
            generalize sclN X n k = sk at *
            generalize maskI X k = mk at *
            by_cases hu0 : 0 < uk
            · by_cases hs23 : sk < 23
              · have HD := Lib.hid (HY'.out hu0 hs23)
                clear HZ' HY'
                go_wp2_with fail
                go_quiet (fail)
                go_wp2_with fail
                go_roundw
                case rel => exact ⟨k + 1, by omega, by go_num, by rw [HD.out], Lib.hid (ho.out.drewN _)⟩
                case measure => simp [intOf]; omega
              · have HD := Lib.hid (HZ'.out (by omega))
                clear HZ' HY'
                obtain rfl : sk = 23 := by omega
                clear hs23
                go_wp2_with fail
                go_quiet (fail)
                go_wp2_with fail
                go_roundw
                case rel => exact ⟨k + 1, by omega, by go_num, by rw [HD.out], Lib.hid (ho.out.drewN _)⟩
                case measure => simp [intOf]; omega
            · have HD := Lib.hid (HZ'.out (by omega))
              clear HZ' HY'
              obtain rfl : uk = 0 := by omega
              clear hu0
              go_wp2_with fail
              go_quiet (fail)
              go_wp2_with fail
              go_roundw
              case rel => exact ⟨k + 1, by omega, by go_num, by rw [HD.out], Lib.hid (ho.out.drewN _)⟩
              case measure => simp [intOf]; omega
          · obtain ⟨nx, rfl⟩ : ∃ nx : Nat, b = nx := ⟨b.toNat, by omega⟩
            have n4 : nx < 4 := by omega
            have n0 : (0 : Int) ≤ nx := by omega
            have n1 : (nx : Int) < 4 := by omega
            rw [Int.toNat_natCast] at HY HZ
            have c4 := (cell_of_row _ _ _ _ _ _ hs5).trans (blk_at 4 (sclN X n) nx n4)
            have c5 := (cell_of_row _ _ _ _ _ _ hm5).trans (blk_at 4 (maskI X) nx n4)
            obtain ⟨t0, t1⟩ := HSB.out nx n4
            obtain ⟨v0, v1⟩ := maskI_bd X nx
            clear hs5 hm5 hb0
            generalize U k = uk at *
            generalize sclN X n k = sk at *
            generalize maskI X k = mk at *
            generalize sclN X n nx = sn at *
            generalize maskI X nx = mn at *
            obtain ⟨x, hx⟩ : ∃ x, mk - sk = x := ⟨_, rfl⟩
            obtain ⟨y, hy⟩ : ∃ y, mn - sn = y := ⟨_, rfl⟩
            have q1 : wrap64 (mk - sk) = x := by rw [IntWalk.wrap64_in _ (by omega)]; exact hx
            have q2 : wrap64 (mn - sn) = y := by rw [IntWalk.wrap64_in _ (by omega)]; exact hy
            have q1' : IntKind.i64.wrap (mk - sk) = x := by rw [IntWalk.i64_in _ (by omega)]; exact hx
            have q2' : IntKind.i64.wrap (mn - sn) = y := by rw [IntWalk.i64_in _ (by omega)]; exact hy
            rw [hx, hy] at HY HZ
            clear hx hy
            by_cases hu0 : 0 < uk
            · by_cases hs23 : sk < 23
              · by_cases hxy : y < x
                · have HD := Lib.hid (HY.out hu0 hs23 (.inr hxy))
                  clear HZ HY
                  go_wp2_with fail
                  go_quiet (fail)
                  go_wp2_with fail
                  go_roundw
                  case rel => exact ⟨k + 1, by omega, by go_num, by rw [HD.out], Lib.hid (ho.out.drewN _)⟩
                  case measure => simp [intOf]; omega
                · have HD := Lib.hid (HZ.out (by omega))
                  clear HZ HY
                  go_wp2_with fail
                  go_quiet (fail)
                  go_wp2_with fail
                  go_roundw
                  case rel => exact ⟨k + 1, by omega, by go_num, by rw [HD.out], Lib.hid (ho.out.drewN _)⟩
                  case measure => simp [intOf]; omega
              · have HD := Lib.hid (HZ.out (by omega))
                clear HZ HY q1 q1'
                obtain rfl : sk = 23 := by omega
                clear hs23
                go_wp2_with fail
                go_quiet (fail)
                go_wp2_with fail
                go_roundw
                case rel => exact ⟨k + 1, by omega, by go_num, by rw [HD.out], Lib.hid (ho.out.drewN _)⟩
                case measure => simp [intOf]; omega
            · have HD := Lib.hid (HZ.out (by omega))
              clear HZ HY
              obtain rfl : uk = 0 := by omega
              clear hu0
              go_wp2_with fail
              go_quiet (fail)
              go_wp2_with fail
              go_roundw
              case rel => exact ⟨k + 1, by omega, by go_num, by rw [HD.out], Lib.hid (ho.out.drewN _)⟩
              case measure => simp [intOf]; omega
        · obtain rfl : k = 4 := by omega
          rw [HbO.out]
          have HF8 := Lib.hid (HF5.out.old ho.out)
          have HO8 := Lib.hid (HO5.out.trans ho.out)
          clear HF5 HO5 HSc HMc ho HFu HU0 HbO hk
          obtain ⟨b, hb⟩ : ∃ b, bestOf X (sclN X n) = b := ⟨_, rfl⟩
          have hbb := bestOf_bd X (sclN X n)
          rw [hb] at hbb ⊢
          have Hb := Lib.hid hb
          have H1r : Hid ((rowN 29 (frC F (.slice p t cap))).all (·.oneCell') = true) := Lib.hid (frC_one _ _ rfl)
          have HNo := Lib.hid hr.out.no
          clear hb
          have Hend : Hid (∀ W9, Old wo W9 → stopN X t room n → (W9.setRow (w.heap.size + 1 + 1) (rowN 29 (frC F (.slice p t cap)))).heap[w.heap.size + 1 + 1]? = some (.cells (rowN 29 (frC F (.slice p t cap))) 29 (0, 0)) ∧ StopAt X t room n ∧ t ≤ 2 ∧ t ≤ cap ∧ cap ≤ maxLen ∧ SlF 2 (W9.setRow (w.heap.size + 1 + 1) (rowN 29 (frC F (.slice p t cap)))) p t (toneF f) ∧ (∀ q, (Value.slice p t cap).ownBlock = some q → w.heap.size ≤ q) ∧ Old w (W9.setRow (w.heap.size + 1 + 1) (rowN 29 (frC F (.slice p t cap))))) := Lib.hid fun W9 k hs => by
            have hse := HSe.out.keep (hr.out.old.trans k)
            have hrr := row_ret hse.r hse.old (by omega) (rowN 29 (frC F (.slice p t cap)))
            refine ⟨hrr.1, ⟨hs, HNo.out⟩, t2, tc, Hcm.out, fun h0 => ?_, fun q h => by have := Hq.out q h; omega, hrr.2⟩
            obtain ⟨gg, oo, e1, e2, e3⟩ := HSl4.out h0
            have hne : gg ≠ w.heap.size + 1 + 1 := by have := Hq.out gg (by rw [e1]; rfl); omega
            refine ⟨gg, oo, e1, Nat.lt_of_lt_of_le e2 (Nat.le_trans (hr.out.old.trans k).size (by simp)), fun j hj => ?_⟩
            refine (World.cell?_of_block (setRow_other _ _ _ _ hne)).trans ?_
            exact (World.cell?_of_block ((hr.out.old.trans k).block gg e2)).trans (e3 j hj)
          go_wp2_with (with_reducible refine wpList_load_row rfl 29 _ rfl fb rfl 29 (rowN 29 (frC F (.slice p t cap))) (0, 0) _ HF8.out.cells Try.underlying29 rfl (by rw [rowN_size]; exact Hs29.out) ?_)
          refine (HBi.out _).mono ?_
          rintro e W9 ⟨rfl, o9⟩
          have HF9 := Lib.hid (HF8.out.old o9)
          have HO9 := Lib.hid (HO8.out.trans o9)
          clear o9 HF8 HO8 HBi
          by_cases hc : costN X t n ≤ room
          · have hE := Hend.out W9 HO9.out (.inr hc)
            have HE := Lib.hid hE
            have Hr9 := Lib.hid (HSe.out.keep (hr.out.old.trans HO9.out)).r
            clear hE Hend
            generalize costN X t n = c at *
            go_wp2_with (first | (with_reducible refine wpList_load_row rfl 29 _ rfl fb rfl 29 (rowN 29 (frC F (.slice p t cap))) (0, 0) _ HF9.out.cells Try.underlying29 rfl (by rw [rowN_size]; exact Hs29.out) ?_) | (with_reducible refine wpList_store_row rfl 29 _ _ rfl (w.heap.size + 1 + 1) (rowN 29 (frC F (.slice p t cap))) rfl rfl 29 _ Hr9.out (by rw [rowN_size]; exact Hs29.out) (by rw [rowN_size]; exact Hzs.out) H1r.out ?_))
            exact bodyPost_ret (results_row_tmp2 rfl _ _ (w.heap.size + 1 + 1) 29 (rowN 29 (frC F (.slice p t cap))) (0, 0) _ rfl HE.out.1 Try.underlying29 rfl (by rw [rowN_size]; exact Hs29.out)) rfl ⟨n, p, cap, by rw [HFn.out]; rfl, HE.out.2⟩
          · by_cases hb0 : b < 0
            · have hE := Hend.out W9 HO9.out (.inl (by rw [Hb.out]; exact hb0))
              have HE := Lib.hid hE
              have Hr9 := Lib.hid (HSe.out.keep (hr.out.old.trans HO9.out)).r
              clear hE Hend
              generalize costN X t n = c at *
              go_wp2_with (first | (with_reducible refine wpList_load_row rfl 29 _ rfl fb rfl 29 (rowN 29 (frC F (.slice p t cap))) (0, 0) _ HF9.out.cells Try.underlying29 rfl (by rw [rowN_size]; exact Hs29.out) ?_) | (with_reducible refine wpList_store_row rfl 29 _ _ rfl (w.heap.size + 1 + 1) (rowN 29 (frC F (.slice p t cap))) rfl rfl 29 _ Hr9.out (by rw [rowN_size]; exact Hs29.out) (by rw [rowN_size]; exact Hzs.out) H1r.out ?_))
              exact bodyPost_ret (results_row_tmp2 rfl _ _ (w.heap.size + 1 + 1) 29 (rowN 29 (frC F (.slice p t cap))) (0, 0) _ rfl HE.out.1 Try.underlying29 rfl (by rw [rowN_size]; exact Hs29.out)) rfl ⟨n, p, cap, by rw [HFn.out]; rfl, HE.out.2⟩
            · obtain ⟨bn, rfl⟩ : ∃ bn : Nat, b = bn := ⟨b.toNat, by omega⟩
              have hbn4 : bn < 4 := by omega
              have Hbn : Hid ((bestOf X (sclN X n)).toNat = bn) := by unfold Hid; rw [Hb.out, Int.toNat_natCast]
              have hns : ¬ stopN X t room n := fun h => by
                rcases h with h | h
                · rw [Hb.out] at h; omega
                · exact hc h
              have hn1 := scl_le X t room (n + 1) fun j hj => by
                by_cases e : j = n
                · subst e; exact hns
                · exact hr.out.no j (by omega)
              have hnx := hr.out.next hns HO9.out bn Hbn.out hbn4
              have HNx := Lib.hid hnx
              obtain ⟨s0, s1⟩ := HSB.out bn hbn4
              have hsc := (HO9.out.block _ (lt_of_block hr.out.s)).trans hr.out.s
              have c1 := (cell_of_row _ _ _ _ _ _ hsc).trans (blk_at 4 (sclN X n) bn hbn4)
              have c2 : W9.frozen? ⟨V4.heap.size, bn, none⟩ = false := frozen_of_row _ _ _ _ _ hsc
              have b0 : (0 : Int) ≤ bn := by omega
              have b1 : (bn : Int) < 4 := by omega
              clear hns hnx hsc hr Hend hb0
              generalize costN X t n = c at *
              generalize sclN X n bn = sc at *
              try rw [show ((4 : Nat) : Int) = 4 from rfl]
              go_wp2_with fail
              go_roundw
              case rel => exact ⟨n + 1, by go_num, by omega, HNx⟩
              case measure => simp [intOf]; omega
end Go.Proofs.Ytcepfbflgngmjaa
