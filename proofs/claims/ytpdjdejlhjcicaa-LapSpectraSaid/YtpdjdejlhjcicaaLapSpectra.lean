/- LapSpectra: of any samples (the first 200 of them, held within 2^20) and any gains (the first 20, each of its two lowest bits) lap.Spectra tells the blocks made louder by their gains, joined, and the spectrum of each (8.2), and the example of chapter 8 holds. No condition. -/
import Derived.Test.YtpdjdejlhjcicaaRows
import Derived.Test.YtpdjdejlhjcicaaFew
import Derived.Test.YtpdjdejlhjcicaaLawA
import Derived.Test.YtpdjdejlhjcicaaLawB
import Derived.Test.YtpdjdejlhjcicaaLapQ
import Derived.Test.YtpdjdejlhjcicaaArrArg
namespace Go.Proofs.Ytpdjdejlhjcicaa.lapSpectra
open Go.ChangeShapes Go.WideShapes Go.ChangeAt Go.RowKit
set_option linter.unusedVariables false
set_option linter.unusedSimpArgs false

set_option maxRecDepth 100000 in
set_option maxHeartbeats 4000000 in
theorem walk (p : Option Addr) (n0 cap : Nat) (xs : List Int) (pg : Option Addr) (ng0 cg : Nat) (G0 : Nat → Int) (w : World) (hs : SlI w .i64 (.slice p n0 cap) xs) (hnc : n0 ≤ cap) (hcm : cap ≤ maxLen) (hx64 : ∀ x ∈ xs, -9223372036854775808 ≤ x ∧ x ≤ 9223372036854775807) (hg : SlF 4 w pg ng0 G0) (hg64 : Fits64 G0) (hgn : ng0 ≤ 9223372036854775807) :
    Calls Try.prog 5 #[.slice p n0 cap, .slice pg ng0 cg] w fun e w' => e = .returned (.bool true) ∧ Old w w' := by
  unfold maxLen at hcm
  have hC := Lib.hid (few_any p n0 cap xs w hs (by omega) hx64)
  have HA := Lib.hid (fun w => awake_any w)
  have HG0 := Lib.hid hg
  have HG64 := Lib.hid hg64
  have Hs16 := Lib.hid Try.block_size
  have Hs4 : Hid ((Try.prog.info? 36).map (·.size) = some 4) := Lib.hid (by kernel_rfl)
  have HNew := Lib.hid (fun w => LapNew_any w)
  have HNN := Lib.hid (fun w => NNew_any w)
  clear hs hx64 hg hg64
  go_enter Try.func5, Try.ntmps5
  go_wp2_with fail
  refine hC.out.mono ?_
  rintro e w1 ⟨v, rfl, hv, ho⟩
  have hlen := fewL_len xs
  have hbd := fewL_bd xs
  generalize fewL xs = ys at *
  have hsl := hv.sl
  clear hC hv
  obtain ⟨q, n, c, rfl, hm, _⟩ := hsl.shape
  have hn : n ≤ 200 := by omega
  have HSL := Lib.hid hsl
  have HO := Lib.hid ho
  have hFG := Lib.hid (fewGains_any pg ng0 cg G0 w1 (HG0.out.old ho) HG64.out hgn)
  have HF64 : Hid (Fits64 fun j => ys.getD j 0) := fun j => by
    by_cases h : j < ys.length
    · have e : ys.getD j 0 = ys[j] := by simp [List.getD, h]
      have := hbd _ (List.getElem_mem h)
      dsimp only
      rw [e]; omega
    · dsimp only
      rw [List.getD_eq_getElem?_getD, List.getElem?_eq_none (by omega)]
      show -9223372036854775808 ≤ (0 : Int) ∧ (0 : Int) ≤ 9223372036854775807
      omega
  clear ho hsl hlen hm hbd HG0 HG64
  go_wp2_with fail
  refine hFG.out.mono ?_
  rintro e w2 ⟨q2, c2, rfl, hg2, ho2, _⟩
  obtain ⟨ng, hng⟩ : ∃ m, m = min ng0 20 := ⟨_, rfl⟩
  rw [← hng] at hg2 ⊢
  obtain ⟨G, hG⟩ : ∃ f : Nat → Int, f = fun j => gI (G0 j) := ⟨_, rfl⟩
  rw [← hG] at hg2
  have HSL2 := Lib.hid (HSL.out.old ho2)
  have HO2 := Lib.hid (HO.out.trans ho2)
  have HG2 := Lib.hid hg2.sl
  have hng20 : ng ≤ 20 := by omega
  have HB := Lib.hid (Blocks_any q n c ys w2 HSL2.out (by omega))
  have hSp := fun V (ho : Old w2 V) => Spectra_any q n c ys q2 ng c2 G V (HSL2.out.old ho) (by omega) (HG2.out.old ho)
  obtain ⟨N, hN⟩ : ∃ N, N = cnt n := ⟨_, rfl⟩
  have hN2 : N ≤ 13 := by rw [hN]; unfold cnt; omega
  rw [← hN] at HB hSp
  obtain ⟨F, hF⟩ : ∃ F : Nat → Int, F = fun j => ys.getD j 0 := ⟨_, rfl⟩
  rw [← hF] at HB HF64 hSp
  generalize hT : T8 = R at HNew hSp
  have HSp := Lib.hid hSp
  clear hng hG hg2 ho2 HSL HO hFG hN hF hT HSL2 hSp
  go_wp2_with fail
  refine HB.out.mono ?_
  rintro e w3 ⟨rfl, hc3, ho3⟩
  obtain ⟨gb, hgb⟩ : ∃ g, g = w2.heap.size := ⟨_, rfl⟩
  rw [← hgb] at hc3 ⊢
  have H1 : Hid (JoinR w2 (some ⟨gb, 0, none⟩) N F w3) := ⟨fun _ => ⟨gb, rfl, fun e => by omega, hc3.less (by omega)⟩, ho3⟩
  clear hc3 ho3 HB hgb
  go_wp2_with fail
  go_loopw [6] (fun i wr => ∃ k : Nat, k ≤ N ∧ k ≤ ng ∧ i = .int .i64 k ∧ Hid (JoinR w2 (some ⟨gb, 0, none⟩) N (mapTo k (louder G ng) F) wr)) (fun i _ => N - (intOf i).toNat)
  case atStart => exact ⟨0, by omega, by omega, rfl, by rw [mapTo_zero]; exact H1⟩
  case round =>
    obtain ⟨k, hk, hkg, rfl, HS⟩ := hrel
    clear H1
    have fin : (k = N ∨ k = ng) → Hid (JoinR w2 (some ⟨gb, 0, none⟩) N (mapTo N (louder G ng) F) wr) := fun h => by
      have e := louder_min HF64.out N G ng k (by omega)
      rw [← e]
      exact HS
    by_cases hlt : k < N
    · by_cases hlg : k < ng
      · clear fin
        obtain ⟨gg, og, rfl, hgg, hcg⟩ := HG2.out (by omega)
        have i1 : (0 : Int) ≤ k := by omega
        have i2 : (k : Int) < N := by omega
        have i3 : (k : Int) < ng := by omega
        have cells : Hid (∀ V, Old wr.drew V → (∀ j, j < 16 → V.cell? ⟨gb, k * 16 + j, none⟩ = some (.int .i64 (rowAt F k j))) ∧ V.there gb (k * 16) 16) := fun V hV => by
          have h := ((show JoinR w2 (some ⟨gb, 0, none⟩) N (mapTo k (louder G ng) F) wr.drew from HS.out.keep (Old.drew (Old.refl _))).keep hV).row k hlt
          exact ⟨fun j hj => by rw [← mapTo_row (louder G ng) F k j]; exact h.1 j hj, h.2⟩
        have NX : Hid (∀ V, Old wr.drew V → JoinR w2 (some ⟨gb, 0, none⟩) N (mapTo (k + 1) (louder G ng) F) (V.setCells gb (k * 16) (rowL 16 (louder G ng k (rowAt F k))))) := fun V hV => by
          have h := ((show JoinR w2 (some ⟨gb, 0, none⟩) N (mapTo k (louder G ng) F) wr.drew from HS.out.keep (Old.drew (Old.refl _))).keep hV).store k hlt (louder G ng k (rowAt F k))
          rwa [mapTo_step] at h
        have HGc : Hid (∀ V, Old w2 V → ∀ j, j < 4 → V.cell? ⟨gg, og + k * 4 + j, none⟩ = some (.int .i64 (gainsAt G ng k j))) := fun V hV j hj => by
          unfold gainsAt
          rw [if_pos hlg, Nat.add_assoc]
          exact (hV.cell (a := ⟨gg, og + (k * 4 + j), none⟩) hgg).trans (hcg _ (by omega))
        have HOw : Hid (∀ V, Old wr.drew V → Old w2 V) := fun V hV => (HS.out.2.drew).trans hV
        have HUp := Lib.hid (fun V => Up_any (rowAt F k) (gainsAt G ng k) V)
        clear hcg HS HG2
        go_wp2_with fail
        refine wp_region_held_drew (S := (fun w' => ∀ j, j < 4 → w'.cell? ⟨gg, og + k * 4 + j, none⟩ = some (.int .i64 (gainsAt G ng k j)))) (by kernel_rfl) ?_ (fun hHeld => ?_)
        · (try dsimp only); exact HGc.out _ (HOw.out _ (Old.refl _))
        refine wpAnyH_take (i := 0) (oi := ⟨some _, _, _, _, _, _⟩) (v := ?_) rfl (by kernel_rfl) (by kernel_rfl) (by kernel_rfl) (fun _ _ _ h => h) (Or.inl ⟨by kernel_rfl, ?_⟩) (by assumption) ?_; rotate_left; (intro w hSw; (try dsimp only at hSw); go_simp; try with_reducible rfl); try simp only [Act.put, List.setIfInBounds_toArray, List.set_cons_zero, List.set_cons_succ]
        refine wpAnyH_take (i := 1) (oi := ⟨some _, _, _, _, _, _⟩) (v := ?_) rfl (by kernel_rfl) (by kernel_rfl) (by kernel_rfl) (fun _ _ _ h => h) (Or.inl ⟨by kernel_rfl, ?_⟩) (by assumption) ?_; rotate_left; (intro w hSw; (try dsimp only at hSw); go_simp; try with_reducible rfl); try simp only [Act.put, List.setIfInBounds_toArray, List.set_cons_zero, List.set_cons_succ]
        refine wpAnyH_take (i := 2) (oi := ⟨some _, _, _, _, _, _⟩) (v := ?_) rfl (by kernel_rfl) (by kernel_rfl) (by kernel_rfl) (fun _ _ _ h => h) (Or.inl ⟨by kernel_rfl, ?_⟩) (by assumption) ?_; rotate_left; (intro w hSw; (try dsimp only at hSw); go_simp; try with_reducible rfl); try simp only [Act.put, List.setIfInBounds_toArray, List.set_cons_zero, List.set_cons_succ]
        refine wpAnyH_take (i := 3) (oi := ⟨some _, _, _, _, _, _⟩) (v := ?_) rfl (by kernel_rfl) (by kernel_rfl) (by kernel_rfl) (fun _ _ _ h => h) (Or.inl ⟨by kernel_rfl, ?_⟩) (by assumption) ?_; rotate_left; (intro w hSw; (try dsimp only at hSw); go_simp; try with_reducible rfl); try simp only [Act.put, List.setIfInBounds_toArray, List.set_cons_zero, List.set_cons_succ]
        refine wpAnyH_take (i := 4) (oi := ⟨some _, _, _, _, _, _⟩) (v := ?_) rfl (by kernel_rfl) (by kernel_rfl) (by kernel_rfl) (fun _ _ _ h => h) (Or.inl ⟨by kernel_rfl, ?_⟩) (by assumption) ?_; rotate_left; (intro w hSw; (try dsimp only at hSw); go_simp; try with_reducible rfl); try simp only [Act.put, List.setIfInBounds_toArray, List.set_cons_zero, List.set_cons_succ]
        refine wpAnyH_take (i := 6) (oi := ⟨some _, _, _, _, _, _⟩) (v := ?_) rfl (by kernel_rfl) (by kernel_rfl) (by kernel_rfl) (fun _ _ _ h => h) (Or.inl ⟨by kernel_rfl, ?_⟩) (by assumption) ?_; rotate_left; (intro w hSw; (try dsimp only at hSw); go_simp; try with_reducible rfl); try simp only [Act.put, List.setIfInBounds_toArray, List.set_cons_zero, List.set_cons_succ]
        refine wpAnyH_take (i := 7) (oi := ⟨some _, _, _, _, _, _⟩) (v := ?_) rfl (by kernel_rfl) (by kernel_rfl) (by kernel_rfl) (fun _ _ _ h => h) (Or.inl ⟨by kernel_rfl, ?_⟩) (by assumption) ?_; rotate_left; (intro w hSw; (try dsimp only at hSw); go_simp; try with_reducible rfl); try simp only [Act.put, List.setIfInBounds_toArray, List.set_cons_zero, List.set_cons_succ]
        refine wpAnyH_take (i := 8) (oi := ⟨some _, _, _, _, _, _⟩) (v := ?_) rfl (by kernel_rfl) (by kernel_rfl) (by kernel_rfl) (fun _ _ _ h => h) (Or.inl ⟨by kernel_rfl, ?_⟩) (by assumption) ?_; rotate_left; (intro w hSw; (try dsimp only at hSw); go_simp; try with_reducible rfl); try simp only [Act.put, List.setIfInBounds_toArray, List.set_cons_zero, List.set_cons_succ]
        refine wpAnyH_take (i := 9) (oi := ⟨some _, _, _, _, _, _⟩) (v := .agg (rowN 4 (blk (gainsAt G ng k)))) rfl (by kernel_rfl) (by kernel_rfl) (by kernel_rfl) (fun _ _ _ h => h) (yieldsIf_load_blk 4 (gainsAt G ng k) (by kernel_rfl) 36 (.tmp 34) rfl gg (og + k * 4) rfl _ (fun _ h => h) Try.underlying36 rfl Hs4.out) (by assumption) ?_; try simp only [Act.put, List.setIfInBounds_toArray, List.set_cons_zero, List.set_cons_succ]
        refine wpAnyH_ready (rs := [5]) (by kernel_rfl) (by simp) ?_
        refine AllReadyH.cons (o := ⟨_, _, _, _, _, _⟩) rfl (fun K hK => ?_) AllReadyH.nil
        rw [if_pos (by kernel_rfl)]
        refine wp_load_blk 16 (rowAt F k) 28 _ rfl (gb) (k * 16) rfl _ ((cells.out _ (Old.refl _)).1) Try.underlying28 rfl Hs16.out ?_
        try simp only [Act.put, List.setIfInBounds_toArray, List.set_cons_zero, List.set_cons_succ]
        refine hK.out _ _ ?_ (fun hHeld => ?_)
        · (try dsimp only); exact hHeld
        clear hK K
        try simp only [Act.put, List.setIfInBounds_toArray, List.set_cons_zero, List.set_cons_succ]
        refine wpAnyH_ready (rs := [10]) (by kernel_rfl) (by simp) ?_
        refine AllReadyH.cons (o := ⟨_, _, _, _, _, _⟩) rfl (fun K hK => ?_) AllReadyH.nil
        go_simp
        refine (HUp.out _).mono ?_
        rintro e V1 ⟨rfl, o1⟩
        go_wp2_with fail
        refine hK.out _ _ ?_ (fun hHeld => ?_)
        · (try dsimp only); exact HGc.out _ (HOw.out _ o1)
        clear hK K
        try simp only [Act.put, List.setIfInBounds_toArray, List.set_cons_zero, List.set_cons_succ]
        refine wpAnyH_take (i := 11) (oi := ⟨some _, _, _, _, _, _⟩) (v := ?_) rfl (by kernel_rfl) (by kernel_rfl) (by kernel_rfl) (fun _ _ _ h => h) (Or.inl ⟨by kernel_rfl, ?_⟩) (by assumption) ?_; rotate_left; (intro w hSw; (try dsimp only at hSw); go_simp; try with_reducible rfl); try simp only [Act.put, List.setIfInBounds_toArray, List.set_cons_zero, List.set_cons_succ]
        refine wpAnyH_ready (rs := [12]) (by kernel_rfl) (by simp) ?_
        refine AllReadyH.cons (o := ⟨_, _, _, _, _, _⟩) rfl (fun K hK => ?_) AllReadyH.nil
        rw [if_pos (by kernel_rfl)]
        refine wp_store_blk 16 (louder G ng k (rowAt F k)) 28 _ _ rfl (gb) (k * 16) rfl rfl ((cells.out _ o1).2) Hs16.out ?_
        try simp only [Act.put, List.setIfInBounds_toArray, List.set_cons_zero, List.set_cons_succ]
        refine hK.out _ _ ?_ (fun hHeld => ?_)
        · (try dsimp only); exact HGc.out _ (NX.out _ o1).2
        clear hK K
        try simp only [Act.put, List.setIfInBounds_toArray, List.set_cons_zero, List.set_cons_succ]
        refine wpAnyH_done (by kernel_rfl) ?_ _
        have HN := Lib.hid (NX.out _ o1)
        clear cells NX HGc HOw HUp o1
        go_wp2_with fail
        go_roundw
        case rel => exact ⟨k + 1, by omega, by omega, by go_num, HN⟩
        case measure => (simp [intOf]; try omega)
      · have H2 := fin (by omega)
        have i3 : (ng : Int) ≤ k := by omega
        clear fin HS
        have HJ := Lib.hid (join_any ⟨gb, 0, none⟩ N N (mapTo N (louder G ng) F) wr H2.out.1.sl (by omega))
        go_wp2_with fail
        refine HJ.out.mono ?_
        rintro e w4 ⟨q6, c6, rfl, hc4, ho4⟩
        obtain ⟨M, hM⟩ : ∃ M, M = metF N G ng F := ⟨_, rfl⟩
        have HM : Hid (spectraF N G ng F = mapTo N forth M) := by unfold Hid spectraF; rw [hM]
        have H3 : Hid (JoinR w2 q6 N M w4) := ⟨(show OwnR 16 (fun q => q < w2.heap.size) w4 q6 N M from by rw [hM]; exact hc4.mono fun q hq => Nat.lt_of_lt_of_le hq H2.out.2.size), H2.out.2.trans ho4⟩
        clear hc4 ho4 H2 hM HJ
        go_wp2_with fail
        go_loopw [7] (fun i wr => ∃ k : Nat, k ≤ N ∧ i = .int .i64 k ∧ Hid (JoinR w2 q6 N (mapTo k forth M) wr)) (fun i _ => N - (intOf i).toNat)
        case atStart => exact ⟨0, by omega, rfl, by rw [mapTo_zero]; exact H3⟩
        case round =>
          obtain ⟨k, hk, rfl, HS⟩ := hrel
          by_cases hlt : k < N
          · clear H3
            obtain ⟨gc, rfl, _, _⟩ := HS.out.1 (by omega)
            have i1 : (0 : Int) ≤ k := by omega
            have i2 : (k : Int) < N := by omega
            have cells : Hid (∀ V, Old wr.drew V → (∀ j, j < 16 → V.cell? ⟨gc, k * 16 + j, none⟩ = some (.int .i64 (rowAt M k j))) ∧ V.there gc (k * 16) 16) := fun V hV => by
              have h := ((show JoinR w2 (some ⟨gc, 0, none⟩) N (mapTo k forth M) wr.drew from HS.out.keep (Old.drew (Old.refl _))).keep hV).row k hlt
              exact ⟨fun j hj => by rw [← mapTo_row forth M k j]; exact h.1 j hj, h.2⟩
            have NX : Hid (∀ V, Old wr.drew V → JoinR w2 (some ⟨gc, 0, none⟩) N (mapTo (k + 1) forth M) (V.setCells gc (k * 16) (rowL 16 (forth k (rowAt M k))))) := fun V hV => by
              have h := ((show JoinR w2 (some ⟨gc, 0, none⟩) N (mapTo k forth M) wr.drew from HS.out.keep (Old.drew (Old.refl _))).keep hV).store k hlt (forth k (rowAt M k))
              rwa [mapTo_step] at h
            have HFw := Lib.hid (fun V => Forward_any (rowAt M k) V)
            clear HS
            go_wp2_with fail
            refine wp_region_held_drew (S := (fun _ => True)) (by kernel_rfl) ?_ (fun hHeld => ?_)
            · exact trivial
            refine wpAnyH_take (i := 0) (oi := ⟨some _, _, _, _, _, _⟩) (v := ?_) rfl (by kernel_rfl) (by kernel_rfl) (by kernel_rfl) (fun _ _ _ h => h) (Or.inl ⟨by kernel_rfl, ?_⟩) (by assumption) ?_; rotate_left; (intro w hSw; (try dsimp only at hSw); go_simp; try with_reducible rfl); try simp only [Act.put, List.setIfInBounds_toArray, List.set_cons_zero, List.set_cons_succ]
            refine wpAnyH_take (i := 1) (oi := ⟨some _, _, _, _, _, _⟩) (v := ?_) rfl (by kernel_rfl) (by kernel_rfl) (by kernel_rfl) (fun _ _ _ h => h) (Or.inl ⟨by kernel_rfl, ?_⟩) (by assumption) ?_; rotate_left; (intro w hSw; (try dsimp only at hSw); go_simp; try with_reducible rfl); try simp only [Act.put, List.setIfInBounds_toArray, List.set_cons_zero, List.set_cons_succ]
            refine wpAnyH_take (i := 3) (oi := ⟨some _, _, _, _, _, _⟩) (v := ?_) rfl (by kernel_rfl) (by kernel_rfl) (by kernel_rfl) (fun _ _ _ h => h) (Or.inl ⟨by kernel_rfl, ?_⟩) (by assumption) ?_; rotate_left; (intro w hSw; (try dsimp only at hSw); go_simp; try with_reducible rfl); try simp only [Act.put, List.setIfInBounds_toArray, List.set_cons_zero, List.set_cons_succ]
            refine wpAnyH_take (i := 4) (oi := ⟨some _, _, _, _, _, _⟩) (v := ?_) rfl (by kernel_rfl) (by kernel_rfl) (by kernel_rfl) (fun _ _ _ h => h) (Or.inl ⟨by kernel_rfl, ?_⟩) (by assumption) ?_; rotate_left; (intro w hSw; (try dsimp only at hSw); go_simp; try with_reducible rfl); try simp only [Act.put, List.setIfInBounds_toArray, List.set_cons_zero, List.set_cons_succ]
            refine wpAnyH_take (i := 5) (oi := ⟨some _, _, _, _, _, _⟩) (v := ?_) rfl (by kernel_rfl) (by kernel_rfl) (by kernel_rfl) (fun _ _ _ h => h) (Or.inl ⟨by kernel_rfl, ?_⟩) (by assumption) ?_; rotate_left; (intro w hSw; (try dsimp only at hSw); go_simp; try with_reducible rfl); try simp only [Act.put, List.setIfInBounds_toArray, List.set_cons_zero, List.set_cons_succ]
            refine wpAnyH_ready (rs := [2, 6]) (by kernel_rfl) (by simp) ?_
            refine AllReadyH.cons (o := ⟨_, _, _, _, _, _⟩) rfl (fun K hK => ?_) (AllReadyH.cons (o := ⟨_, _, _, _, _, _⟩) rfl (fun K hK => ?_) AllReadyH.nil)
            · go_simp
              refine (HNN.out _).mono ?_
              rintro e V1 ⟨rfl, o1⟩
              go_wp2_with fail
              refine hK.out _ _ ?_ (fun hHeld => ?_)
              · exact trivial
              clear hK K
              try simp only [Act.put, List.setIfInBounds_toArray, List.set_cons_zero, List.set_cons_succ]
              refine wpAnyH_ready (rs := [6]) (by kernel_rfl) (by simp) ?_
              refine AllReadyH.cons (o := ⟨_, _, _, _, _, _⟩) rfl (fun K hK => ?_) AllReadyH.nil
              rw [if_pos (by kernel_rfl)]
              refine wp_load_blk 16 (rowAt M k) 28 _ rfl (gc) (k * 16) rfl _ ((cells.out _ o1).1) Try.underlying28 rfl Hs16.out ?_
              try simp only [Act.put, List.setIfInBounds_toArray, List.set_cons_zero, List.set_cons_succ]
              refine hK.out _ _ ?_ (fun hHeld => ?_)
              · exact trivial
              clear hK K
              try simp only [Act.put, List.setIfInBounds_toArray, List.set_cons_zero, List.set_cons_succ]
              refine wpAnyH_ready (rs := [7]) (by kernel_rfl) (by simp) ?_
              refine AllReadyH.cons (o := ⟨_, _, _, _, _, _⟩) rfl (fun K hK => ?_) AllReadyH.nil
              go_simp
              refine (HFw.out _).mono ?_
              rintro e V2 ⟨rfl, o2⟩
              go_wp2_with fail
              refine hK.out _ _ ?_ (fun hHeld => ?_)
              · exact trivial
              clear hK K
              try simp only [Act.put, List.setIfInBounds_toArray, List.set_cons_zero, List.set_cons_succ]
              refine wpAnyH_take (i := 8) (oi := ⟨some _, _, _, _, _, _⟩) (v := ?_) rfl (by kernel_rfl) (by kernel_rfl) (by kernel_rfl) (fun _ _ _ h => h) (Or.inl ⟨by kernel_rfl, ?_⟩) (by assumption) ?_; rotate_left; (intro w hSw; (try dsimp only at hSw); go_simp; try with_reducible rfl); try simp only [Act.put, List.setIfInBounds_toArray, List.set_cons_zero, List.set_cons_succ]
              refine wpAnyH_ready (rs := [9]) (by kernel_rfl) (by simp) ?_
              refine AllReadyH.cons (o := ⟨_, _, _, _, _, _⟩) rfl (fun K hK => ?_) AllReadyH.nil
              rw [if_pos (by kernel_rfl)]
              refine wp_store_blk 16 (forth k (rowAt M k)) 28 _ _ rfl (gc) (k * 16) rfl rfl ((cells.out _ (o1.trans o2)).2) Hs16.out ?_
              try simp only [Act.put, List.setIfInBounds_toArray, List.set_cons_zero, List.set_cons_succ]
              refine hK.out _ _ ?_ (fun hHeld => ?_)
              · exact trivial
              clear hK K
              try simp only [Act.put, List.setIfInBounds_toArray, List.set_cons_zero, List.set_cons_succ]
              refine wpAnyH_done (by kernel_rfl) ?_ _
              have HN := Lib.hid (NX.out _ (o1.trans o2))
              clear cells NX HFw o1 o2
              go_wp2_with fail
              go_roundw
              case rel => exact ⟨k + 1, by omega, by go_num, HN⟩
              case measure => (simp [intOf]; try omega)
            · rw [if_pos (by kernel_rfl)]
              refine wp_load_blk 16 (rowAt M k) 28 _ rfl (gc) (k * 16) rfl _ ((cells.out _ (Old.refl _)).1) Try.underlying28 rfl Hs16.out ?_
              try simp only [Act.put, List.setIfInBounds_toArray, List.set_cons_zero, List.set_cons_succ]
              refine hK.out _ _ ?_ (fun hHeld => ?_)
              · exact trivial
              clear hK K
              try simp only [Act.put, List.setIfInBounds_toArray, List.set_cons_zero, List.set_cons_succ]
              refine wpAnyH_ready (rs := [2]) (by kernel_rfl) (by simp) ?_
              refine AllReadyH.cons (o := ⟨_, _, _, _, _, _⟩) rfl (fun K hK => ?_) AllReadyH.nil
              go_simp
              refine (HNN.out _).mono ?_
              rintro e V1 ⟨rfl, o1⟩
              go_wp2_with fail
              refine hK.out _ _ ?_ (fun hHeld => ?_)
              · exact trivial
              clear hK K
              try simp only [Act.put, List.setIfInBounds_toArray, List.set_cons_zero, List.set_cons_succ]
              refine wpAnyH_ready (rs := [7]) (by kernel_rfl) (by simp) ?_
              refine AllReadyH.cons (o := ⟨_, _, _, _, _, _⟩) rfl (fun K hK => ?_) AllReadyH.nil
              go_simp
              refine (HFw.out _).mono ?_
              rintro e V2 ⟨rfl, o2⟩
              go_wp2_with fail
              refine hK.out _ _ ?_ (fun hHeld => ?_)
              · exact trivial
              clear hK K
              try simp only [Act.put, List.setIfInBounds_toArray, List.set_cons_zero, List.set_cons_succ]
              refine wpAnyH_take (i := 8) (oi := ⟨some _, _, _, _, _, _⟩) (v := ?_) rfl (by kernel_rfl) (by kernel_rfl) (by kernel_rfl) (fun _ _ _ h => h) (Or.inl ⟨by kernel_rfl, ?_⟩) (by assumption) ?_; rotate_left; (intro w hSw; (try dsimp only at hSw); go_simp; try with_reducible rfl); try simp only [Act.put, List.setIfInBounds_toArray, List.set_cons_zero, List.set_cons_succ]
              refine wpAnyH_ready (rs := [9]) (by kernel_rfl) (by simp) ?_
              refine AllReadyH.cons (o := ⟨_, _, _, _, _, _⟩) rfl (fun K hK => ?_) AllReadyH.nil
              rw [if_pos (by kernel_rfl)]
              refine wp_store_blk 16 (forth k (rowAt M k)) 28 _ _ rfl (gc) (k * 16) rfl rfl ((cells.out _ (o1.trans o2)).2) Hs16.out ?_
              try simp only [Act.put, List.setIfInBounds_toArray, List.set_cons_zero, List.set_cons_succ]
              refine hK.out _ _ ?_ (fun hHeld => ?_)
              · exact trivial
              clear hK K
              try simp only [Act.put, List.setIfInBounds_toArray, List.set_cons_zero, List.set_cons_succ]
              refine wpAnyH_done (by kernel_rfl) ?_ _
              have HN := Lib.hid (NX.out _ (o1.trans o2))
              clear cells NX HFw o1 o2
              go_wp2_with fail
              go_roundw
              case rel => exact ⟨k + 1, by omega, by go_num, HN⟩
              case measure => (simp [intOf]; try omega)
          · obtain rfl : k = N := by omega
            clear H3
            have HSp2 := Lib.hid (fun V (o : Old wr V) => HSp.out V (HS.out.2.trans o))
            have HSm := Lib.hid (fun (V : World) (pq : Option Addr) (cq : Nat) (h : SlF 16 V pq k (spectraF k G ng F)) (o : Old wr V) => sameBlocks_any pq q6 k cq c6 (spectraF k G ng F) (mapTo k forth M) V h (HS.out.1.sl.old o) (fun j _ => by rw [HM.out]) (by omega))
            have HE := Lib.hid (HO2.out.trans HS.out.2)
            clear HS HM HSp
            go_wp2_with fail
            refine (HNew.out _).mono ?_
            rintro e w5 ⟨rfl, ho5⟩
            go_wp2_with fail
            refine (HSp2.out _ ho5).mono ?_
            rintro e w6 ⟨q9, c9, rfl, h9, ho9, _⟩
            have HS9 := Lib.hid (HSm.out w6 q9 c9 h9.sl (ho5.trans ho9))
            have HE2 := Lib.hid (HE.out.trans (ho5.trans ho9))
            clear h9 ho9 ho5 HSp2 HSm HE
            go_wp2_with fail
            refine HS9.out.mono ?_
            rintro e w7 ⟨rfl, d7, rfl⟩
            go_wp2_with fail
            refine (HA.out _).mono ?_
            rintro e w8 ⟨rfl, rfl⟩
            go_wp2_with fail
            go_ret
            exact ⟨rfl, HE2.out.drewN d7⟩
    · have H2 := fin (by omega)
      have i3 : (N : Int) ≤ k := by omega
      clear fin HS
      have HJ := Lib.hid (join_any ⟨gb, 0, none⟩ N N (mapTo N (louder G ng) F) wr H2.out.1.sl (by omega))
      go_wp2_with fail
      refine HJ.out.mono ?_
      rintro e w4 ⟨q6, c6, rfl, hc4, ho4⟩
      obtain ⟨M, hM⟩ : ∃ M, M = metF N G ng F := ⟨_, rfl⟩
      have HM : Hid (spectraF N G ng F = mapTo N forth M) := by unfold Hid spectraF; rw [hM]
      have H3 : Hid (JoinR w2 q6 N M w4) := ⟨(show OwnR 16 (fun q => q < w2.heap.size) w4 q6 N M from by rw [hM]; exact hc4.mono fun q hq => Nat.lt_of_lt_of_le hq H2.out.2.size), H2.out.2.trans ho4⟩
      clear hc4 ho4 H2 hM HJ
      go_wp2_with fail
      go_loopw [7] (fun i wr => ∃ k : Nat, k ≤ N ∧ i = .int .i64 k ∧ Hid (JoinR w2 q6 N (mapTo k forth M) wr)) (fun i _ => N - (intOf i).toNat)
      case atStart => exact ⟨0, by omega, rfl, by rw [mapTo_zero]; exact H3⟩
      case round =>
        obtain ⟨k, hk, rfl, HS⟩ := hrel
        by_cases hlt : k < N
        · clear H3
          obtain ⟨gc, rfl, _, _⟩ := HS.out.1 (by omega)
          have i1 : (0 : Int) ≤ k := by omega
          have i2 : (k : Int) < N := by omega
          have cells : Hid (∀ V, Old wr.drew V → (∀ j, j < 16 → V.cell? ⟨gc, k * 16 + j, none⟩ = some (.int .i64 (rowAt M k j))) ∧ V.there gc (k * 16) 16) := fun V hV => by
            have h := ((show JoinR w2 (some ⟨gc, 0, none⟩) N (mapTo k forth M) wr.drew from HS.out.keep (Old.drew (Old.refl _))).keep hV).row k hlt
            exact ⟨fun j hj => by rw [← mapTo_row forth M k j]; exact h.1 j hj, h.2⟩
          have NX : Hid (∀ V, Old wr.drew V → JoinR w2 (some ⟨gc, 0, none⟩) N (mapTo (k + 1) forth M) (V.setCells gc (k * 16) (rowL 16 (forth k (rowAt M k))))) := fun V hV => by
            have h := ((show JoinR w2 (some ⟨gc, 0, none⟩) N (mapTo k forth M) wr.drew from HS.out.keep (Old.drew (Old.refl _))).keep hV).store k hlt (forth k (rowAt M k))
            rwa [mapTo_step] at h
          have HFw := Lib.hid (fun V => Forward_any (rowAt M k) V)
          clear HS
          go_wp2_with fail
          refine wp_region_held_drew (S := (fun _ => True)) (by kernel_rfl) ?_ (fun hHeld => ?_)
          · exact trivial
          refine wpAnyH_take (i := 0) (oi := ⟨some _, _, _, _, _, _⟩) (v := ?_) rfl (by kernel_rfl) (by kernel_rfl) (by kernel_rfl) (fun _ _ _ h => h) (Or.inl ⟨by kernel_rfl, ?_⟩) (by assumption) ?_; rotate_left; (intro w hSw; (try dsimp only at hSw); go_simp; try with_reducible rfl); try simp only [Act.put, List.setIfInBounds_toArray, List.set_cons_zero, List.set_cons_succ]
          refine wpAnyH_take (i := 1) (oi := ⟨some _, _, _, _, _, _⟩) (v := ?_) rfl (by kernel_rfl) (by kernel_rfl) (by kernel_rfl) (fun _ _ _ h => h) (Or.inl ⟨by kernel_rfl, ?_⟩) (by assumption) ?_; rotate_left; (intro w hSw; (try dsimp only at hSw); go_simp; try with_reducible rfl); try simp only [Act.put, List.setIfInBounds_toArray, List.set_cons_zero, List.set_cons_succ]
          refine wpAnyH_take (i := 3) (oi := ⟨some _, _, _, _, _, _⟩) (v := ?_) rfl (by kernel_rfl) (by kernel_rfl) (by kernel_rfl) (fun _ _ _ h => h) (Or.inl ⟨by kernel_rfl, ?_⟩) (by assumption) ?_; rotate_left; (intro w hSw; (try dsimp only at hSw); go_simp; try with_reducible rfl); try simp only [Act.put, List.setIfInBounds_toArray, List.set_cons_zero, List.set_cons_succ]
          refine wpAnyH_take (i := 4) (oi := ⟨some _, _, _, _, _, _⟩) (v := ?_) rfl (by kernel_rfl) (by kernel_rfl) (by kernel_rfl) (fun _ _ _ h => h) (Or.inl ⟨by kernel_rfl, ?_⟩) (by assumption) ?_; rotate_left; (intro w hSw; (try dsimp only at hSw); go_simp; try with_reducible rfl); try simp only [Act.put, List.setIfInBounds_toArray, List.set_cons_zero, List.set_cons_succ]
          refine wpAnyH_take (i := 5) (oi := ⟨some _, _, _, _, _, _⟩) (v := ?_) rfl (by kernel_rfl) (by kernel_rfl) (by kernel_rfl) (fun _ _ _ h => h) (Or.inl ⟨by kernel_rfl, ?_⟩) (by assumption) ?_; rotate_left; (intro w hSw; (try dsimp only at hSw); go_simp; try with_reducible rfl); try simp only [Act.put, List.setIfInBounds_toArray, List.set_cons_zero, List.set_cons_succ]
          refine wpAnyH_ready (rs := [2, 6]) (by kernel_rfl) (by simp) ?_
          refine AllReadyH.cons (o := ⟨_, _, _, _, _, _⟩) rfl (fun K hK => ?_) (AllReadyH.cons (o := ⟨_, _, _, _, _, _⟩) rfl (fun K hK => ?_) AllReadyH.nil)
          · go_simp
            refine (HNN.out _).mono ?_
            rintro e V1 ⟨rfl, o1⟩
            go_wp2_with fail
            refine hK.out _ _ ?_ (fun hHeld => ?_)
            · exact trivial
            clear hK K
            try simp only [Act.put, List.setIfInBounds_toArray, List.set_cons_zero, List.set_cons_succ]
            refine wpAnyH_ready (rs := [6]) (by kernel_rfl) (by simp) ?_
            refine AllReadyH.cons (o := ⟨_, _, _, _, _, _⟩) rfl (fun K hK => ?_) AllReadyH.nil
            rw [if_pos (by kernel_rfl)]
            refine wp_load_blk 16 (rowAt M k) 28 _ rfl (gc) (k * 16) rfl _ ((cells.out _ o1).1) Try.underlying28 rfl Hs16.out ?_
            try simp only [Act.put, List.setIfInBounds_toArray, List.set_cons_zero, List.set_cons_succ]
            refine hK.out _ _ ?_ (fun hHeld => ?_)
            · exact trivial
            clear hK K
            try simp only [Act.put, List.setIfInBounds_toArray, List.set_cons_zero, List.set_cons_succ]
            refine wpAnyH_ready (rs := [7]) (by kernel_rfl) (by simp) ?_
            refine AllReadyH.cons (o := ⟨_, _, _, _, _, _⟩) rfl (fun K hK => ?_) AllReadyH.nil
            go_simp
            refine (HFw.out _).mono ?_
            rintro e V2 ⟨rfl, o2⟩
            go_wp2_with fail
            refine hK.out _ _ ?_ (fun hHeld => ?_)
            · exact trivial
            clear hK K
            try simp only [Act.put, List.setIfInBounds_toArray, List.set_cons_zero, List.set_cons_succ]
            refine wpAnyH_take (i := 8) (oi := ⟨some _, _, _, _, _, _⟩) (v := ?_) rfl (by kernel_rfl) (by kernel_rfl) (by kernel_rfl) (fun _ _ _ h => h) (Or.inl ⟨by kernel_rfl, ?_⟩) (by assumption) ?_; rotate_left; (intro w hSw; (try dsimp only at hSw); go_simp; try with_reducible rfl); try simp only [Act.put, List.setIfInBounds_toArray, List.set_cons_zero, List.set_cons_succ]
            refine wpAnyH_ready (rs := [9]) (by kernel_rfl) (by simp) ?_
            refine AllReadyH.cons (o := ⟨_, _, _, _, _, _⟩) rfl (fun K hK => ?_) AllReadyH.nil
            rw [if_pos (by kernel_rfl)]
            refine wp_store_blk 16 (forth k (rowAt M k)) 28 _ _ rfl (gc) (k * 16) rfl rfl ((cells.out _ (o1.trans o2)).2) Hs16.out ?_
            try simp only [Act.put, List.setIfInBounds_toArray, List.set_cons_zero, List.set_cons_succ]
            refine hK.out _ _ ?_ (fun hHeld => ?_)
            · exact trivial
            clear hK K
            try simp only [Act.put, List.setIfInBounds_toArray, List.set_cons_zero, List.set_cons_succ]
            refine wpAnyH_done (by kernel_rfl) ?_ _
            have HN := Lib.hid (NX.out _ (o1.trans o2))
            clear cells NX HFw o1 o2
            go_wp2_with fail
            go_roundw
            case rel => exact ⟨k + 1, by omega, by go_num, HN⟩
            case measure => (simp [intOf]; try omega)
          · rw [if_pos (by kernel_rfl)]
            refine wp_load_blk 16 (rowAt M k) 28 _ rfl (gc) (k * 16) rfl _ ((cells.out _ (Old.refl _)).1) Try.underlying28 rfl Hs16.out ?_
            try simp only [Act.put, List.setIfInBounds_toArray, List.set_cons_zero, List.set_cons_succ]
            refine hK.out _ _ ?_ (fun hHeld => ?_)
            · exact trivial
            clear hK K
            try simp only [Act.put, List.setIfInBounds_toArray, List.set_cons_zero, List.set_cons_succ]
            refine wpAnyH_ready (rs := [2]) (by kernel_rfl) (by simp) ?_
            refine AllReadyH.cons (o := ⟨_, _, _, _, _, _⟩) rfl (fun K hK => ?_) AllReadyH.nil
            go_simp
            refine (HNN.out _).mono ?_
            rintro e V1 ⟨rfl, o1⟩
            go_wp2_with fail
            refine hK.out _ _ ?_ (fun hHeld => ?_)
            · exact trivial
            clear hK K
            try simp only [Act.put, List.setIfInBounds_toArray, List.set_cons_zero, List.set_cons_succ]
            refine wpAnyH_ready (rs := [7]) (by kernel_rfl) (by simp) ?_
            refine AllReadyH.cons (o := ⟨_, _, _, _, _, _⟩) rfl (fun K hK => ?_) AllReadyH.nil
            go_simp
            refine (HFw.out _).mono ?_
            rintro e V2 ⟨rfl, o2⟩
            go_wp2_with fail
            refine hK.out _ _ ?_ (fun hHeld => ?_)
            · exact trivial
            clear hK K
            try simp only [Act.put, List.setIfInBounds_toArray, List.set_cons_zero, List.set_cons_succ]
            refine wpAnyH_take (i := 8) (oi := ⟨some _, _, _, _, _, _⟩) (v := ?_) rfl (by kernel_rfl) (by kernel_rfl) (by kernel_rfl) (fun _ _ _ h => h) (Or.inl ⟨by kernel_rfl, ?_⟩) (by assumption) ?_; rotate_left; (intro w hSw; (try dsimp only at hSw); go_simp; try with_reducible rfl); try simp only [Act.put, List.setIfInBounds_toArray, List.set_cons_zero, List.set_cons_succ]
            refine wpAnyH_ready (rs := [9]) (by kernel_rfl) (by simp) ?_
            refine AllReadyH.cons (o := ⟨_, _, _, _, _, _⟩) rfl (fun K hK => ?_) AllReadyH.nil
            rw [if_pos (by kernel_rfl)]
            refine wp_store_blk 16 (forth k (rowAt M k)) 28 _ _ rfl (gc) (k * 16) rfl rfl ((cells.out _ (o1.trans o2)).2) Hs16.out ?_
            try simp only [Act.put, List.setIfInBounds_toArray, List.set_cons_zero, List.set_cons_succ]
            refine hK.out _ _ ?_ (fun hHeld => ?_)
            · exact trivial
            clear hK K
            try simp only [Act.put, List.setIfInBounds_toArray, List.set_cons_zero, List.set_cons_succ]
            refine wpAnyH_done (by kernel_rfl) ?_ _
            have HN := Lib.hid (NX.out _ (o1.trans o2))
            clear cells NX HFw o1 o2
            go_wp2_with fail
            go_roundw
            case rel => exact ⟨k + 1, by omega, by go_num, HN⟩
            case measure => (simp [intOf]; try omega)
        · obtain rfl : k = N := by omega
          clear H3
          have HSp2 := Lib.hid (fun V (o : Old wr V) => HSp.out V (HS.out.2.trans o))
          have HSm := Lib.hid (fun (V : World) (pq : Option Addr) (cq : Nat) (h : SlF 16 V pq k (spectraF k G ng F)) (o : Old wr V) => sameBlocks_any pq q6 k cq c6 (spectraF k G ng F) (mapTo k forth M) V h (HS.out.1.sl.old o) (fun j _ => by rw [HM.out]) (by omega))
          have HE := Lib.hid (HO2.out.trans HS.out.2)
          clear HS HM HSp
          go_wp2_with fail
          refine (HNew.out _).mono ?_
          rintro e w5 ⟨rfl, ho5⟩
          go_wp2_with fail
          refine (HSp2.out _ ho5).mono ?_
          rintro e w6 ⟨q9, c9, rfl, h9, ho9, _⟩
          have HS9 := Lib.hid (HSm.out w6 q9 c9 h9.sl (ho5.trans ho9))
          have HE2 := Lib.hid (HE.out.trans (ho5.trans ho9))
          clear h9 ho9 ho5 HSp2 HSm HE
          go_wp2_with fail
          refine HS9.out.mono ?_
          rintro e w7 ⟨rfl, d7, rfl⟩
          go_wp2_with fail
          refine (HA.out _).mono ?_
          rintro e w8 ⟨rfl, rfl⟩
          go_wp2_with fail
          go_ret
          exact ⟨rfl, HE2.out.drewN d7⟩


theorem own : ownKnob Try.prog.godebug = none := by kernel_rfl
theorem laidOut : laidOutB Try.prog = true := by kernel_rfl

set_option maxRecDepth 100000 in
theorem lifted (os : Os) (started : os.Started) (H : Type) (enc : TypeId × Value → H) :
    ReturnsInHanded {} Try.checked os 5 .any (Rows.lapSpectraSpec.pre6 enc Try.prog Try.f5 Rows.lapSpectraRow.domain false) (Rows.lapSpectraSpec.post enc Try.prog Try.f5 false true false false) := by
  refine returnsInHanded_of_change (C := Try.checked) own started (by kernel_rfl) Try.func5
    (ChangeSpec.witness6 (enc := enc) (C := Try.checked) false ⟨#[], #[.slice none 0 0, .slice none 0 0], []⟩ 8 (by kernel_rfl) (by kernel_rfl) (by kernel_rfl) (by kernel_rfl)) ?_
  intro W base args ds gs before hval0 hW hcnd _
  have hval : ∀ (j : Nat) t v, Try.f5.params[j]? = some t → args[j]? = some v → Value.okWide Try.prog W .any base t v := hval0
  have hW' := hW
  have hlt : ∀ p ∈ before, p.block < W.heap.size := fun p hp => hW'.lt p hp
  obtain ⟨p, q, hA0, hV, rfl, hfz, hnd⟩ := hW
  have hA : DataW.TrodAll enc Try.prog W 0 (fun _ => true) true Try.f5.params.toList args.toList ds p := hA0
  rw [Try.params5] at hA hval
  obtain ⟨v0, vs0, d0, ds0, p0, q0, hargs, rfl, rfl, h0, r0⟩ := trodAll_cons hA
  obtain ⟨v1, vs1, d1, ds1, p1, q1, rfl, rfl, rfl, h1, r1⟩ := trodAll_cons r0
  obtain ⟨rfl, rfl, rfl⟩ := trodAll_nil r1
  obtain rfl : args = #[v0, v1] := by cases args; simp_all
  obtain ⟨rfl, rfl⟩ := trodVars_none hV
  obtain ⟨s0, n0, c0, xs0, rfl, hs0, hn0, hc0, hw0⟩ := open_slI Try.underlying22 Try.underlying2 (by kernel_rfl) (hval 0 22 v0 rfl rfl) h0 (fun x hx => hlt x (by simp [hx]))
  obtain ⟨r1, m1, k1, F1, rfl, hm1, hk1, hF1, h64F1, _⟩ := open_arrs (s := 4) Try.underlying33 Try.underlying36 Try.underlying3 (by kernel_rfl) (by kernel_rfl) (by omega) (hval 1 33 v1 rfl rfl) h1 (fun x hx => hlt x (by simp [hx]))
  refine (walk s0 n0 c0 xs0 r1 m1 k1 F1 W hs0 hn0 hc0 (fun x hx => i64_of (hw0 x hx)) hF1 h64F1 (by unfold maxLen at hk1; omega)).mono fun e W' ⟨he, hg⟩ => ?_
  subst he
  exact ⟨_, rfl, law_done laidOut Try.underlying4 rfl (by kernel_rfl) rfl hW' rfl hg⟩

theorem over : Rows.lapSpectraRow.holds Try.pinned (OpenSpec.ofChange Rows.lapSpectraSpec) :=
  OpenClaim.holds_of_wide 5 Try.f5 rfl rfl rfl rfl rfl rfl rfl ⟨rfl, rfl, rfl, rfl, rfl⟩ rfl rfl rfl rfl rfl (by kernel_rfl) Try.func5 (by kernel_rfl)
    (of_decide_eq_true (by kernel_rfl)) (by unfold Func.isWrapper; first | (rw [if_pos (by decide +kernel)]; kernel_rfl) | (rw [if_neg (by decide +kernel)]; exact ⟨rfl, rfl⟩))
    (fun os started H enc _ => lifted os started H enc)

theorem proved : Rows.LapSpectraSaid :=
  over
end Go.Proofs.Ytpdjdejlhjcicaa.lapSpectra
