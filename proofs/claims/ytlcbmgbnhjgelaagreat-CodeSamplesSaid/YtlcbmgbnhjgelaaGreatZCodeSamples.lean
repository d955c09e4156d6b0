/- CodeSamples: for every list of frames (cut to 10, and to 5 tones each; those that may be) and every number, the samples of the frames are those of their spectra, held within the bounds of a sample. No condition. -/
import Derived.Test.YtlcbmgbnhjgelaaGreatRows
import Derived.Test.YtlcbmgbnhjgelaaGreatPkAJ
import Derived.Test.YtlcbmgbnhjgelaaGreatPkAP
import Derived.Test.YtlcbmgbnhjgelaaGreatPkAS
namespace Go.Proofs.YtlcbmgbnhjgelaaGreat.codeSamples
open Go.ChangeShapes Go.WideShapes Go.ChangeAt Go.RowKit
set_option linter.unusedVariables false
set_option linter.unusedSimpArgs false

set_option maxRecDepth 100000 in
set_option maxHeartbeats 8000000 in
set_option maxRecDepth 100000 in
set_option maxHeartbeats 8000000 in
theorem walk (p : Option Addr) (n cap : Nat) (L0 : Nat → Fr) (m : Int) (w : World) (h0 : FrsS (fun _ => False) w p n L0) (h64 : ∀ i, Fits64 (L0 i).T) (hn : n ≤ 9223372036854775807) (m1 : -9223372036854775808 ≤ m) (m2 : m ≤ 9223372036854775807) :
    Calls Tryz.prog 5 #[.slice p n cap, .int .i64 m] w fun e w' => e = .returned (.bool true) ∧ Old w w' := by
  have Hs29 : Hid ((Tryz.prog.info? 55).map (·.size) = some 29) := Lib.hid (by kernel_rfl)
  have Hs4 : Hid ((Tryz.prog.info? 50).map (·.size) = some 4) := Lib.hid (by kernel_rfl)
  obtain ⟨iF, iF0, iF1, iF2, iF3⟩ := info_parts Tryz.info_frame
  obtain ⟨iB, iB0, iB1, iB2, iB3⟩ := info_parts Tryz.info_block
  obtain ⟨iG, iG0, iG1, iG2, iG3⟩ := info_parts Tryz.info_gains
  have HFr := Lib.hid h0
  have HNew := Lib.hid (fun w => CNew_yes 24 w (by omega) (by omega))
  have HLN := Lib.hid (fun w => LapNew_any w)
  have HA := Lib.hid (fun w => awake_any w)
  have HFew : Hid (∀ k, k < n → ∃ pk ck, (L0 k).s = .slice pk (L0 k).n ck ∧ (L0 k).n ≤ ck ∧ ck ≤ maxLen ∧ SlF 2 w pk (L0 k).n (L0 k).T) := Lib.hid fun k hk => by
    obtain ⟨pk, ck, e, a1, a2, a3, _⟩ := h0.2 k hk
    exact ⟨pk, ck, e, a1, a2, a3⟩
  have HT64 := Lib.hid h64
  obtain ⟨w0, hw0⟩ : ∃ V, V = w := ⟨_, rfl⟩
  have HS : Hid (∃ L, LsR w (.slice none 0 0) (.slice none 0 0) (.slice none 0 0) 0 0 0 (frL 0 L) (rowL (0 * 16) (smA L)) (rowL (0 * 4) (gfA L)) w ∧ ∀ i, i < 0 → ToV (fun _ => False) w (L i) ∧ FrP (L i).F (L i).n (L i).T) := Lib.hid ⟨fun _ => zeroFr, ⟨ownS.nil _ _ _ _, ownS.nil _ _ _ _, ownS.nil _ _ _ _, Old.refl w⟩, fun i hi => by omega⟩
  clear h0 h64 hw0
  go_enter Tryz.func5, Tryz.ntmps5
  go_wp2_with fail
  go_loopw [5, 6, 7, 8] (fun vf vs vg i wr => ∃ j k : Nat, j ≤ 10 ∧ j ≤ n ∧ k ≤ j ∧ i = .int .i64 j ∧ Hid (∃ L, LsR w vf vs vg k k k (frL k L) (rowL (k * 16) (smA L)) (rowL (k * 4) (gfA L)) wr ∧ ∀ i, i < k → ToV (fun _ => False) w (L i) ∧ FrP (L i).F (L i).n (L i).T)) (fun _ _ _ i _ => 10 - (intOf i).toNat)
  case atStart => exact ⟨0, 0, by omega, by omega, by omega, rfl, HS⟩
  case round =>
    obtain ⟨j, k, hj10, hjn, hkj, rfl, HR⟩ := hrel
    clear HS
    by_cases hlt : j < n ∧ j < 10
    · obtain ⟨hj1, hj2⟩ := hlt
      have i1 : (0 : Int) ≤ j := by omega
      have i2 : (j : Int) < n := by omega
      have i3 : (j : Int) < 10 := by omega
      obtain ⟨L, hR, hL⟩ := HR.out
      obtain ⟨fg, fo, rfl, _, hcf⟩ := (HFr.out.old hR.old).row j hj1
      have HLd := Lib.hid hcf
      obtain ⟨pk, ck, es, a1, a2, a3⟩ := HFew.out j hj1
      obtain ⟨x, hx⟩ : ∃ x : Fr, x = ⟨(L0 j).F, .slice pk (min (L0 j).n 5) ck, min (L0 j).n 5, (L0 j).T⟩ := ⟨_, rfl⟩
      have HFw : Hid (∀ V, Calls Tryz.prog 25 #[.agg (rowN 29 (frC (L0 j).F (L0 j).s))] V fun e w' => e = .returned (.agg (rowN 29 (frC x.F x.s))) ∧ Old V w') := Lib.hid fun V => by
        rw [hx, es]
        exact Few_any (L0 j).F pk (L0 j).n ck V a1 a2
      have hxT : ToV (fun _ => False) w x := by
        rw [hx]
        exact ⟨pk, ck, rfl, Nat.le_trans (Nat.min_le_left _ _) a1, a2, slF_less a3 (Nat.min_le_left _ _), fun _ _ _ => id⟩
      have hx64 : Fits64 x.T := by rw [hx]; exact HT64.out j
      have HRi : Hid (∀ V, Old w V → Calls Tryz.prog 26 #[.agg (rowN 29 (frC x.F x.s))] V fun e w' => e = .returned (.bool (decide (FrP x.F x.n x.T))) ∧ Old V w') := Lib.hid fun V hV => by
        obtain ⟨q, c, e, b1, b2, b3, _⟩ := hxT
        rw [e]
        exact FRight_any x.F q x.n c x.T V (b3.old hV) hx64 b1 b2
      have HSp : Hid (FrP x.F x.n x.T → ∀ V, Old w V → Calls Tryz.prog 27 #[.agg (rowN 29 (frC x.F x.s))] V fun e w' => e = .returned (.agg (rowN 16 (blk (specF x.F x.n x.T)))) ∧ Old V w') := Lib.hid fun hp V hV => by
        obtain ⟨q, c, e, b1, b2, b3, _⟩ := hxT
        rw [e]
        exact Spectrum_any x.F q x.n c x.T V (b3.old hV) b1 b2 hp
      have H1x : (rowN 29 (frC x.F x.s)).all (·.oneCell') = true := frC_one _ _ hxT.one
      have HxT := Lib.hid hxT
      have HR' := Lib.hid hR
      have HL := Lib.hid hL
      clear HR hR hL hcf a1 a2 a3 hx hxT hx64 es
      go_wp2_with (with_reducible refine wpList_load_fr rfl (frC (L0 j).F (L0 j).s) 55 _ rfl fg (fo + j * 29) rfl _ HLd.out Tryz.underlying55 rfl Hs29.out ?_)
      refine (HFw.out _).mono ?_
      rintro e V1 ⟨rfl, o1⟩
      obtain ⟨nb, hnb⟩ : ∃ q, q = V1.heap.size := ⟨_, rfl⟩
      obtain ⟨R, hR⟩ : ∃ R : Array Value, R = rowN 29 (frC x.F x.s) := ⟨_, rfl⟩
      have hRs : R.size = 29 := by rw [hR, rowN_size]
      obtain ⟨U, hU⟩ : ∃ V, V = V1.alloc (.cells R 55) := ⟨_, rfl⟩
      have oU : Old wr U := by rw [hU]; exact o1.alloc' _
      have hbox : U.heap[nb]? = some (.cells R 55 (0, 0)) := by rw [hU, hnb]; exact heap_alloc_new _ _
      have hnw : wr.heap.size ≤ nb := by rw [hnb]; exact o1.size
      have HU := Lib.hid hU
      have HNb := Lib.hid hnb
      have HRd := Lib.hid hR
      have HRs := Lib.hid hRs
      have HR1 : Hid (R.all (·.oneCell') = true) := Lib.hid (by rw [hR]; exact H1x)
      have hRi := HRi.out U (HR'.out.old.trans oU)
      rw [← hR] at hRi
      have HRi' := Lib.hid hRi
      have HBx := Lib.hid hbox
      have HOU := Lib.hid oU
      have HNw := Lib.hid hnw
      rw [← hR]
      clear o1 hnb hR hRs hU oU hbox hnw hRi HRi HFw HLd
      go_wp2_with (first
        | (with_reducible refine wpList_store_row rfl 55 _ _ rfl V1.heap.size R rfl rfl 55 _ (heap_alloc_new _ _) (by rw [HRs.out]; exact Hs29.out) (by rw [HRs.out]; kernel_rfl) HR1.out ?_; rw [World.setRow_alloc_new, ← HU.out, ← HNb.out])
        | (with_reducible refine wpList_load_row rfl 55 _ rfl nb rfl 55 R (0, 0) _ HBx.out Tryz.underlying55 rfl (by rw [HRs.out]; exact Hs29.out) ?_))
      refine HRi'.out.mono ?_
      rintro e V2 ⟨rfl, o2⟩
      have HB2 := Lib.hid ((o2.block _ (lt_of_block HBx.out)).trans HBx.out)
      have HO2 := Lib.hid (HOU.out.trans o2)
      clear o2 HRi' HU HNb HBx HOU
      by_cases hp : FrP x.F x.n x.T
      · rw [decide_eq_true hp]
        have HSx := Lib.hid (HSp.out hp)
        have HNX : Hid (∀ i, i < k + 1 → ToV (fun _ => False) w (updF L k x i) ∧ FrP (updF L k x i).F (updF L k x i).n (updF L k x i).T) := Lib.hid fun i hi => by
          by_cases e : i = k
          · subst e; rw [updF_same]; exact ⟨HxT.out, hp⟩
          · rw [updF_other _ _ _ e]; exact HL.out i (by omega)
        have hFB := fun w => fr_build x.F x.s w
        have hFF := fr_fold x.F x.s
        rw [← HRd.out] at hFB hFF
        obtain ⟨A3, hA3⟩ : ∃ V, V = V2.alloc (.cells R 55) := ⟨_, rfl⟩
        have o3 : Old wr A3 := by rw [hA3]; exact HO2.out.alloc' _
        have HLa := Lib.hid (HR'.out.f.old o3)
        have hown3 : ownS (but A3 u5) A3 55 29 u5 k (frL k L) := HLa.out.mono fun q hq e => e.2 hq
        have HOw3 := Lib.hid hown3
        have HNw3 : Hid (∀ (i : Nat) (u : Value), ((rowN 29 (frC x.F x.s)).toList)[i]? = some u → A3.cell? ((⟨V2.heap.size, 0, none⟩ : Addr).add i) = some u) := by rw [hA3, HRd.out]; exact Lib.hid (news_row V2 29 _ _)
        have H1s := Lib.hid (one_row (by rw [← HRd.out]; exact HR1.out : (rowN 29 (frC x.F x.s)).all (·.oneCell') = true))
        have HLs := Lib.hid (rowN_list_len 29 (frC x.F x.s))
        have HB3 : Hid (A3.heap[nb]? = some (.cells R 55 (0, 0))) := by rw [hA3]; exact Lib.hid (((Old.alloc V2 _).block _ (lt_of_block HB2.out)).trans HB2.out)
        have HA3 := Lib.hid hA3
        have HO3 := Lib.hid o3
        have HN3 : Hid (∀ v' w3, ownS (but A3 u5) w3 55 29 v' (k + 1) (frL k L ++ (rowN 29 (frC x.F x.s)).toList) → Kept (but A3 u5) A3 w3 → (∀ q, v'.ownBlock = some q → u5.ownBlock = some q ∨ A3.heap.size ≤ q) → LsR w v' u6 u7 (k + 1) k k (frL (k + 1) (updF L k x)) (rowL (k * 16) (smA L)) (rowL (k * 4) (gfA L)) w3 ∧ w3.heap[nb]? = some (.cells R 55 (0, 0)) ∧ wr.heap.size ≤ w3.heap.size) := Lib.hid fun v' w3 h1 h2 h3 =>
          ⟨by rw [← frL_step]; exact HR'.out.addF HO3.out h1 h2 h3, box_stays HR'.out.f HNw.out HB3.out h2, Nat.le_trans HO3.out.size h2.size⟩
        clear hA3 o3 hown3
        generalize hcs : (rowN 29 (frC x.F x.s)).toList = cs at *
        clear hcs
        have hRs := HRs.out
        go_wp2_with (first
          | (with_reducible refine wpList_load_row rfl 55 _ rfl nb rfl 55 R (0, 0) _ HB2.out Tryz.underlying55 rfl (by rw [HRs.out]; exact Hs29.out) ?_)
          | (rw [← HA3.out]; at_builtin; refine append_S _ rfl _ _ 35 rfl (but A3 u5) 55 iF _ 29 248 Tryz.underlying35 iF0 iF1 iF2 iF3 rfl (by omega) _ _ _ rfl HOw3.out ⟨V2.heap.size, 0, none⟩ 1 1 cs rfl (by rw [HLs.out]) HNw3.out H1s.out (by unfold maxLen; omega) (by omega) (fun q hq => hq.1) ?_; intro v3 w3 hown3 hk3 hv3; have HL3 := Lib.hid (HN3.out v3 w3 hown3 hk3 hv3); clear hown3 hk3 hv3 HN3 HOw3 HNw3 H1s HLs HB3 HB2 HA3 HO3 HLa)
          | (with_reducible refine wpList_load_row rfl 55 _ rfl nb rfl 55 R (0, 0) _ HL3.out.2.1 Tryz.underlying55 rfl (by rw [HRs.out]; exact Hs29.out) ?_))
        have hSx := HSx.out w3 HL3.out.1.old
        rw [← HRd.out] at hSx
        refine hSx.mono ?_
        rintro e V4 ⟨rfl, o4⟩
        clear hSx
        have HL4 := Lib.hid (HL3.out.1.keep o4)
        have HB4 := Lib.hid ((o4.block _ (lt_of_block HL3.out.2.1)).trans HL3.out.2.1)
        have HNw4 : Hid (nb < V4.heap.size) := Lib.hid (lt_of_block HB4.out)
        clear o4 HSx
        obtain ⟨y, hy⟩ : ∃ y, y = specF x.F x.n x.T := ⟨_, rfl⟩
        obtain ⟨B, hB⟩ : ∃ B : Array Value, B = rowN 16 (blk y) := ⟨_, rfl⟩
        have hBB := fun w => bl_build y w
        have hBF := bl_fold y
        have hBs : B.size = 16 := by rw [hB, rowN_size]
        rw [← hB] at hBB hBF
        rw [← hy, ← hB]
        obtain ⟨A5, hA5⟩ : ∃ V, V = V4.alloc (.cells B 53) := ⟨_, rfl⟩
        have o5 : Old V4 A5 := by rw [hA5]; exact Old.alloc _ _
        have HOw5 : Hid (ownS (but A5 u6) A5 53 16 u6 k (rowL (k * 16) (smA L))) := Lib.hid ((HL4.out.s.old o5).mono fun q hq e => e.2 hq)
        have HNw5 : Hid (∀ (i : Nat) (u : Value), (rowL 16 y)[i]? = some u → A5.cell? ((⟨V4.heap.size, 0, none⟩ : Addr).add i) = some u) := by rw [hA5, hB]; exact Lib.hid (news_row V4 16 (blk y) _)
        have H1y := Lib.hid (rowL_one 16 y)
        have HLy := Lib.hid (rowL_len 16 y)
        have HB5 : Hid (A5.heap[nb]? = some (.cells R 55 (0, 0))) := Lib.hid ((o5.block _ (lt_of_block HB4.out)).trans HB4.out)
        have HA5 := Lib.hid hA5
        have HN5 : Hid (∀ v' w5, ownS (but A5 u6) w5 53 16 v' (k + 1) (rowL (k * 16) (smA L) ++ rowL 16 y) → Kept (but A5 u6) A5 w5 → (∀ q, v'.ownBlock = some q → u6.ownBlock = some q ∨ A5.heap.size ≤ q) → LsR w v3 v' u7 (k + 1) (k + 1) k (frL (k + 1) (updF L k x)) (rowL ((k + 1) * 16) (smA (updF L k x))) (rowL (k * 4) (gfA L)) w5 ∧ w5.heap[nb]? = some (.cells R 55 (0, 0))) := Lib.hid fun v' w5 h1 h2 h3 =>
          ⟨by rw [← smA_step, ← hy]; exact HL4.out.addS o5 h1 h2 h3, by
            rw [h2.block nb ⟨(Array.getElem?_eq_some_iff.1 HB5.out).1, fun e => by have h7 := HR'.out.s.lt nb e; have := HNw.out; omega⟩]; exact HB5.out⟩
        clear hA5 o5 hB HL3 HB4
        obtain ⟨G, hG⟩ : ∃ G : Array Value, G = rowN 4 (blk x.F) := ⟨_, rfl⟩
        have hGs : G.size = 4 := by rw [hG, rowN_size]
        have hGB := fun w => gn_build x.F w
        have hGF := gn_fold x.F
        rw [← hG] at hGB hGF
        have HGd := Lib.hid hG
        have H1g := Lib.hid (rowL_one 4 x.F)
        have HLg := Lib.hid (rowL_len 4 x.F)
        have HN7 : Hid (∀ v5 w5, LsR w v3 v5 u7 (k + 1) (k + 1) k (frL (k + 1) (updF L k x)) (rowL ((k + 1) * 16) (smA (updF L k x))) (rowL (k * 4) (gfA L)) w5 ∧ w5.heap[nb]? = some (.cells R 55 (0, 0)) →
            (∀ i, i < 4 → w5.cell? ⟨nb, 0 + i, none⟩ = some (.int .i64 (x.F i))) ∧ ownS (but (w5.alloc (.cells G 50)) u7) (w5.alloc (.cells G 50)) 50 4 u7 k (rowL (k * 4) (gfA L)) ∧
            (∀ (i : Nat) (u : Value), (rowL 4 x.F)[i]? = some u → (w5.alloc (.cells G 50)).cell? ((⟨w5.heap.size, 0, none⟩ : Addr).add i) = some u) ∧
            ∀ v' w6, ownS (but (w5.alloc (.cells G 50)) u7) w6 50 4 v' (k + 1) (rowL (k * 4) (gfA L) ++ rowL 4 x.F) → Kept (but (w5.alloc (.cells G 50)) u7) (w5.alloc (.cells G 50)) w6 → (∀ q, v'.ownBlock = some q → u7.ownBlock = some q ∨ (w5.alloc (.cells G 50)).heap.size ≤ q) →
              LsR w v3 v5 v' (k + 1) (k + 1) (k + 1) (frL (k + 1) (updF L k x)) (rowL ((k + 1) * 16) (smA (updF L k x))) (rowL ((k + 1) * 4) (gfA (updF L k x))) w6) := Lib.hid fun v5 w5 h => by
          have hfb : FrB 55 w5 nb x.F x.s := by unfold FrB; rw [← HRd.out]; exact h.2
          refine ⟨fun i hi => by have := hfb.part 0 4 (by omega) i hi; rwa [show (0 + i : Nat) = i by omega] at this ⊢, (h.1.g.old (Old.alloc _ _)).mono fun q hq e => e.2 hq, by rw [HGd.out]; exact news_row w5 4 (blk x.F) _, fun v' w6 h1 h2 h3 => by rw [← gfA_step]; exact h.1.addG (Old.alloc _ _) h1 h2 h3⟩
        clear hG HL4 HR' HL HNw HNw4
        go_wp2_with (first
          | (rw [← HA5.out]; at_builtin; refine append_S _ rfl _ _ 38 rfl (but A5 u6) 53 iB _ 16 128 Tryz.underlying38 iB0 iB1 iB2 iB3 rfl (by omega) _ _ _ rfl HOw5.out ⟨V4.heap.size, 0, none⟩ 1 1 (rowL 16 y) rfl (by rw [HLy.out]) HNw5.out H1y.out (by unfold maxLen; omega) (by omega) (fun q hq => hq.1) ?_; intro v5 w5 hown5 hk5 hv5; have HL5 := Lib.hid (HN7.out v5 w5 (HN5.out v5 w5 hown5 hk5 hv5)); clear hown5 hk5 hv5 HN5 HN7 HOw5 HNw5 H1y HLy HB5 HA5)
          | (with_reducible refine wpList_load_blk rfl 4 x.F 50 _ rfl nb 0 rfl _ HL5.out.1 Tryz.underlying50 rfl Hs4.out ?_; rw [← HGd.out])
          | (at_builtin; refine append_S _ rfl _ _ 32 rfl (but (w5.alloc (.cells G 50)) u7) 50 iG _ 4 32 Tryz.underlying32 iG0 iG1 iG2 iG3 rfl (by omega) _ _ _ rfl HL5.out.2.1 ⟨w5.heap.size, 0, none⟩ 1 1 (rowL 4 x.F) rfl (by rw [HLg.out]) HL5.out.2.2.1 H1g.out (by unfold maxLen; omega) (by omega) (fun q hq => hq.1) ?_; intro v7 w7 hown7 hk7 hv7; have HL7 := Lib.hid (HL5.out.2.2.2 v7 w7 hown7 hk7 hv7); clear hown7 hk7 hv7 HL5 H1g HLg))
        go_roundw
        case rel => exact ⟨j + 1, k + 1, by omega, by omega, by omega, by go_num, Lib.hid ⟨_, HL7.out, HNX.out⟩⟩
        case measure => (simp [intOf]; try omega)
      · rw [decide_eq_false hp]
        have HL3 := Lib.hid (HR'.out.keep HO2.out)
        clear HR' HSp HB2 HO2 HxT
        go_wp2_with fail
        go_roundw
        case rel => exact ⟨j + 1, k, by omega, by omega, by omega, by go_num, Lib.hid ⟨L, HL3.out, HL.out⟩⟩
        case measure => (simp [intOf]; try omega)
    · obtain ⟨L, hR, hL⟩ := HR.out
      have hend : (n : Int) ≤ j ∨ ((j : Int) < n ∧ (10 : Int) ≤ j) := by omega
      have hk10 : k ≤ 10 := by omega
      have j0 : (0 : Int) ≤ j := by omega
      have HO := Lib.hid hR.old
      obtain ⟨qf, cf, rfl, hf⟩ := ownS_frs hR.f (fun i hi => ((hL i hi).1).old hR.old)
      obtain ⟨qs, cs, rfl, hs, hps⟩ := ownS_slF hR.s
      obtain ⟨qg, cg, rfl, hg, _⟩ := ownS_slF hR.g
      have HF := Lib.hid hf
      have HSs := Lib.hid hs
      have HGs := Lib.hid hg
      have HPs := Lib.hid hps
      have HMay := Lib.hid (fun i hi => (hL i hi).2)
      clear hR hL hf hs hg hps HR HFr HFew HT64 hlt
      have HWf := Lib.hid (fun (V : World) (h1 : SlF 16 V qs k (smA L)) (h2 : SlF 4 V qg k (gfA L)) => Whole_any qs k cs (smA L) qg k cg (gfA L) m V h1 (by omega) HPs.out (fun q => by have := specF_bd (L (q / 16)).F (L (q / 16)).n (L (q / 16)).T (q % 16) (by omega); unfold smA; omega) h2 m1 m2)
      have HSm := Lib.hid (fun (b : Nat) (V : World) (hb : CoB V b 24) (hf : FrsS (fun _ => False) V qf k L) => CSamples_any b 24 qf k cf L m (fun _ => False) V hb (by omega) hf HMay.out (by omega) m1 m2)
      have hsn := samN_le k m
      obtain ⟨WF, hWF⟩ : ∃ WF, wholeF k (gfTo k L) k (smTo k L) = WF := ⟨_, rfl⟩
      have hW : ∀ q, q < k * 16 → wholeF k (gfA L) k (smA L) q = WF q := fun q hq => by
        rw [← hWF]
        exact wholeF_ext (fun q hq => by unfold smA smTo; rw [if_pos (by omega)]) (fun q hq => by unfold gfA gfTo; rw [if_pos (by omega)]) q hq
      have HW := Lib.hid hW
      rw [hWF] at HSm
      clear hWF hW HMay HPs
      obtain ⟨N', hN'⟩ : ∃ N', samN k m = N' := ⟨_, rfl⟩
      rw [hN'] at HWf HSm hsn
      have hN2 : N' ≤ 160 := by omega
      have hN3 : Hid (N' ≤ k * 16) := Lib.hid hsn
      clear hN' hsn
      obtain ⟨T, hT⟩ : ∃ T, T8 = T := ⟨_, rfl⟩
      rw [hT] at HLN HWf
      clear hT
      rcases hend with he | ⟨he1, he⟩
      all_goals
        go_wp2_with fail
        refine (HNew.out _).mono ?_
        rintro e w2 ⟨cb, rfl, hcb, _, o2⟩
        have HSc := Lib.hid (HSm.out cb w2 hcb (HF.out.old o2))
        have HSs2 := Lib.hid (HSs.out.old o2)
        have HGs2 := Lib.hid (HGs.out.old o2)
        have HO2 := Lib.hid (HO.out.trans o2)
        clear hcb o2 HSm HF HSs HGs HO HNew
        go_wp2_with fail
        refine HSc.out.mono ?_
        rintro e w3 ⟨r1, rfl, hc3, _, o3⟩
        have HC3 := Lib.hid hc3
        have HSs3 := Lib.hid (HSs2.out.old o3)
        have HGs3 := Lib.hid (HGs2.out.old o3)
        have HO3 := Lib.hid (HO2.out.trans o3)
        clear hc3 o3 HSc HSs2 HGs2 HO2
        go_wp2_with fail
        refine (HLN.out _).mono ?_
        rintro e w4 ⟨rfl, o4⟩
        have HWc := Lib.hid (HWf.out w4 (HSs3.out.old o4) (HGs3.out.old o4))
        have HC4 := Lib.hid (HC3.out.old o4)
        have HO4 := Lib.hid (HO3.out.trans o4)
        clear o4 HLN HWf HSs3 HGs3 HC3 HO3
        go_wp2_with fail
        refine HWc.out.mono ?_
        rintro e w5 ⟨r2, rfl, hc5, _, o5⟩
        have HC5 := Lib.hid hc5
        have HC1 := Lib.hid (HC4.out.old o5)
        have HO5 := Lib.hid (HO4.out.trans o5)
        clear hc5 o5 HWc HC4 HO4
        go_wp2_with fail
        go_loopw [14] (fun i wr => ∃ q : Nat, q ≤ N' ∧ i = .int .i64 q ∧ Hid (Old w5 wr)) (fun i _ => N' - (intOf i).toNat)
        case atStart => exact ⟨0, by omega, rfl, Lib.hid (Old.refl _)⟩
        case round =>
          obtain ⟨q, hq, rfl, HOr⟩ := hrel
          by_cases hqt : q < N'
          · have q1 : (0 : Int) ≤ q := by omega
            have q2 : (q : Int) < N' := by omega
            have c1 := (HOr.out.cell (a := ⟨r1, q, none⟩) HC1.out.lt).trans (HC1.out.cell q hqt)
            have c2 := (HOr.out.cell (a := ⟨r2, q, none⟩) HC5.out.lt).trans (HC5.out.cell q hqt)
            rw [HW.out q (by have := hN3.out; omega)] at c2
            have hsat : Hid (satI (WF q) = max (-32768) (min (WF q) 32767)) := Lib.hid (by unfold satI; rw [clampI_eq])
            generalize satI (WF q) = a at *
            generalize WF q = v at *
            clear HC1 HC5 HW
            rcases (by omega : v < -32768 ∨ (-32768 ≤ v ∧ v ≤ 32767) ∨ 32767 < v) with hv | ⟨hv1, hv2⟩ | hv
            · obtain rfl : a = -32768 := by have := hsat.out; omega
              clear hsat
              go_wp2_with fail
              (try go_quiet (fail))
              (try go_wp2)
              go_roundw
              case rel => exact ⟨q + 1, by omega, by go_num, HOr⟩
              case measure => (simp [intOf]; try omega)
            · obtain rfl : a = v := by have := hsat.out; omega
              have hne : (a != a) = false := by simp
              clear hsat
              go_wp2_with fail
              (try go_quiet (fail))
              (try go_wp2)
              go_roundw
              case rel => exact ⟨q + 1, by omega, by go_num, HOr⟩
              case measure => (simp [intOf]; try omega)
            · obtain rfl : a = 32767 := by have := hsat.out; omega
              clear hsat
              go_wp2_with fail
              (try go_quiet (fail))
              (try go_wp2)
              go_roundw
              case rel => exact ⟨q + 1, by omega, by go_num, HOr⟩
              case measure => (simp [intOf]; try omega)
          · obtain rfl : q = N' := by omega
            have HO6 := Lib.hid (HO5.out.trans HOr.out)
            clear HC1 HC5 HW HOr HO5
            go_wp2_with fail
            refine (HA.out _).mono ?_
            rintro e w9 ⟨rfl, o9⟩
            have HO10 := Lib.hid (HO6.out.trans o9)
            clear o9
            go_wp2
            go_ret
            exact ⟨rfl, HO10.out⟩


theorem own : ownKnob Tryz.prog.godebug = none := by kernel_rfl
theorem laidOut : laidOutB Tryz.prog = true := by kernel_rfl

set_option maxRecDepth 100000 in
theorem lifted (os : Os) (started : os.Started) (H : Type) (enc : TypeId × Value → H) :
    ReturnsInHanded {} Tryz.checked os 5 .any (Rows.codeSamplesSpec.pre6 enc Tryz.prog Tryz.f5 Rows.codeSamplesRow.domain false) (Rows.codeSamplesSpec.post enc Tryz.prog Tryz.f5 false true false false) := by
  refine returnsInHanded_of_change (C := Tryz.checked) own started (by kernel_rfl) Tryz.func5
    (ChangeSpec.witness6 (enc := enc) (C := Tryz.checked) false ⟨#[], #[.slice none 0 0, .int .i64 0], []⟩ 8 (by kernel_rfl) (by kernel_rfl) (by kernel_rfl) (by kernel_rfl)) ?_
  intro W base args ds gs before hval0 hW hcnd _
  have hval : ∀ (j : Nat) t v, Tryz.f5.params[j]? = some t → args[j]? = some v → Value.okWide Tryz.prog W .any base t v := hval0
  have hW' := hW
  have hlt : ∀ p ∈ before, p.block < W.heap.size := fun p hp => hW'.lt p hp
  obtain ⟨p, q, hA0, hV, rfl, hfz, hnd⟩ := hW
  have hA : DataW.TrodAll enc Tryz.prog W 0 (fun _ => true) true Tryz.f5.params.toList args.toList ds p := hA0
  rw [Tryz.params5] at hA hval
  obtain ⟨v0, vs0, d0, ds0, p0, q0, hargs, rfl, rfl, h0, r0⟩ := trodAll_cons hA
  obtain ⟨v1, vs1, d1, ds1, p1, q1, rfl, rfl, rfl, h1, r1⟩ := trodAll_cons r0
  obtain ⟨rfl, rfl, rfl⟩ := trodAll_nil r1
  obtain rfl : args = #[v0, v1] := by cases args; simp_all
  obtain ⟨rfl, rfl⟩ := trodVars_none hV
  obtain ⟨q0, n0, c0, L0, rfl, fn0, fc0, fs0, ft0⟩ := open_frames (hval 0 35 v0 rfl rfl) h0 (fun x hx => hlt x (by simp [hx]))
  obtain ⟨a1, rfl, _, _, w1⟩ := open_int Tryz.underlying3 (hval 1 3 v1 rfl rfl) h1
  refine (walk q0 n0 c0 L0 a1 W fs0 ft0 (by unfold maxLen at fc0; omega) (i64_of w1).1 (i64_of w1).2).mono fun e W' ⟨he, hg⟩ => ?_
  subst he
  exact ⟨_, rfl, law_done laidOut Tryz.underlying4 rfl (by kernel_rfl) rfl hW' rfl hg⟩

theorem over : Rows.codeSamplesRow.holds Tryz.pinned (OpenSpec.ofChange Rows.codeSamplesSpec) :=
  OpenClaim.holds_of_wide 5 Tryz.f5 rfl rfl rfl rfl rfl rfl rfl ⟨rfl, rfl, rfl, rfl, rfl⟩ rfl rfl rfl rfl rfl (by kernel_rfl) Tryz.func5 (by kernel_rfl)
    (of_decide_eq_true (by kernel_rfl)) (by unfold Func.isWrapper; first | (rw [if_pos (by decide +kernel)]; kernel_rfl) | (rw [if_neg (by decide +kernel)]; exact ⟨rfl, rfl⟩))
    (fun os started H enc _ => lifted os started H enc)

theorem proved : Rows.CodeSamplesSaid :=
  over
end Go.Proofs.YtlcbmgbnhjgelaaGreat.codeSamples
