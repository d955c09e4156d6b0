/- EnvRuns: of any shape, samples in a row are those one by one, and a nil envelope is over and silent; the example holds. No condition. -/
import Derived.Test.YtgdlinfgcfjciaaRows
import Derived.Test.YtgdlinfgcfjciaaEnvS
import Derived.Test.YtgdlinfgcfjciaaEnvL
import Derived.Deep.DeepCutAuto
import Derived.Deep.Cut
namespace Go.Proofs.Ytgdlinfgcfjciaa.envRuns
open Go.ChangeShapes Go.WideShapes Go.ChangeAt Go.RowKit
set_option linter.unusedVariables false
set_option linter.unusedSimpArgs false

structure RR (w : World) (g1 g2 gs gr n : Nat) (a d s r : Int) (x y : Int × Int) (wr : World) : Prop where
  e1 : EB wr g1 a d s r x.1 x.2
  e2 : EB wr g2 a d s r y.1 y.2
  row : CellsAt wr gr n (evV a d s r (0, 0))
  old : Old w wr
set_option maxRecDepth 100000 in
set_option maxHeartbeats 8000000 in
theorem walk (a d s r n0 : Int) (w : World) (h1 : -9223372036854775808 ≤ n0) (h2 : n0 ≤ 9223372036854775807) :
    Calls Try.prog 5 #[shV a d s r, .int .i64 n0] w fun e w' => e = .returned (.bool true) ∧ Old w w' := by
  have HA := Lib.hid (fun w => awake22_any w)
  have HRt := Lib.hid (fun w => right22_any a d s r w)
  have HNw := Lib.hid (fun w => eNew_any a d s r w)
  have Hz1 := Lib.hid (fun w => eRelease_nil w)
  have Hz2 := Lib.hid (fun w => eNext_nil w)
  have Hz3 := Lib.hid (fun w => eStage_nil w)
  have Hz4 := Lib.hid (fun w => eLevel_nil w)
  obtain ⟨W, hW⟩ : ∃ W, W = w.alloc (.cells #[.int .i64 a, .int .i64 d, .int .i64 s, .int .i64 r] 23) := ⟨_, rfl⟩
  obtain ⟨gs, hgs⟩ : ∃ g, g = w.heap.size := ⟨_, rfl⟩
  have hO : Old w W := by rw [hW]; exact Old.alloc _ _
  have hb : W.heap[gs]? = some (.cells #[.int .i64 a, .int .i64 d, .int .i64 s, .int .i64 r] 23 (0, 0)) := by rw [hW, hgs]; exact heap_alloc_new _ _
  have HO := Lib.hid hO
  have HB := Lib.hid hb
  have HW := Lib.hid hW
  have HG := Lib.hid hgs
  clear hO hb hW hgs
  obtain ⟨B, hB⟩ : ∃ B, shB a d s r = B := ⟨_, rfl⟩
  rw [hB] at HRt HNw
  have HBs : Hid (B = true → (0 ≤ s ∧ s ≤ 256)) := Lib.hid fun h => (shB_yes (hB.trans h)).2.2.1
  have HNx := Lib.hid (fun (h : B = true) g st lv w hE ho => eNext_any g a d s r st lv w hE (hB.trans h) ho)
  have HRn := Lib.hid (fun (h : B = true) g (n : Nat) w hE hn => eRun_any g a d s r 0 0 n w hE (hB.trans h) ⟨by omega, by omega, by omega, by omega, by omega⟩ hn)
  have HRm := Lib.hid (fun g (n : Int) w hn => eRun_neg g n w hn)
  clear hB
  unfold shV at *
  go_enter Try.func5, Try.ntmps5
  go_upto_if 13 with (fail)
  rw [← HW.out, ← HG.out]
  go_cut [1] (fun v wx => v = .int .i64 (min n0 200) ∧ W = wx)
  case first =>
    by_cases hc : 200 < n0
    · go_wp2_with fail
      go_meet
      exact ⟨congrArg (Value.int .i64) (by omega), rfl⟩
    · go_wp2_with fail
      go_meet
      exact ⟨congrArg (Value.int .i64) (by omega), rfl⟩
  case rest => as_aux_lemma =>
    obtain ⟨rfl, rfl⟩ := hcut
    obtain ⟨n, hn⟩ : ∃ n, min n0 200 = n := ⟨_, rfl⟩
    rw [hn]
    have hn2 : n ≤ 200 := by omega
    have hn3 : -9223372036854775808 ≤ n := by omega
    clear hn h1 h2
    obtain ⟨c0, c1, c2, c3⟩ : W.cell? ⟨gs, 0, none⟩ = some (.int .i64 a) ∧ W.cell? ⟨gs, 1, none⟩ = some (.int .i64 d) ∧ W.cell? ⟨gs, 2, none⟩ = some (.int .i64 s) ∧ W.cell? ⟨gs, 3, none⟩ = some (.int .i64 r) := by
      have hb := HB.out
      simp [World.cell?, hb]
    cases B
    · clear HBs HNx HRn HRm
      go_wp2_with fail
      clear c0 c1 c2 c3
      refine (HNw.out _).mono ?_
      rintro e w1 hN
      obtain ⟨rfl, ho⟩ : e = .returned (.tuple #[.pointer none, .int .i64 1]) ∧ Old _ _ := by
        rcases hN with ⟨-, h, o⟩ | ⟨h, -⟩
        · exact ⟨h, o⟩
        · cases h
      have HO1 := Lib.hid (HO.out.trans ho)
      have hb1 := (ho.block gs (lt_of_block HB.out)).trans HB.out
      obtain ⟨c0, c1, c2, c3⟩ : w1.cell? ⟨gs, 0, none⟩ = some (.int .i64 a) ∧ w1.cell? ⟨gs, 1, none⟩ = some (.int .i64 d) ∧ w1.cell? ⟨gs, 2, none⟩ = some (.int .i64 s) ∧ w1.cell? ⟨gs, 3, none⟩ = some (.int .i64 r) := by
        simp [World.cell?, hb1]
      have HB1 := Lib.hid hb1
      clear ho hb1
      go_wp2_with fail
      clear c0 c1 c2 c3
      refine (HNw.out _).mono ?_
      rintro e w2 hN
      obtain ⟨rfl, ho⟩ : e = .returned (.tuple #[.pointer none, .int .i64 1]) ∧ Old _ _ := by
        rcases hN with ⟨-, h, o⟩ | ⟨h, -⟩
        · exact ⟨h, o⟩
        · cases h
      have HO2 := Lib.hid (HO1.out.trans ho)
      have hb2 := (ho.block gs (lt_of_block HB1.out)).trans HB1.out
      obtain ⟨c0, c1, c2, c3⟩ : w2.cell? ⟨gs, 0, none⟩ = some (.int .i64 a) ∧ w2.cell? ⟨gs, 1, none⟩ = some (.int .i64 d) ∧ w2.cell? ⟨gs, 2, none⟩ = some (.int .i64 s) ∧ w2.cell? ⟨gs, 3, none⟩ = some (.int .i64 r) := by
        simp [World.cell?, hb2]
      clear ho hb2 HO1 HB1 HNw
      go_wp2_with fail
      refine (Hz1.out _).mono ?_
      rintro e w3 ⟨rfl, rfl⟩
      go_wp2_with fail
      refine (Hz2.out _).mono ?_
      rintro e w3 ⟨rfl, rfl⟩
      go_wp2_with fail
      refine (Hz3.out _).mono ?_
      rintro e w3 ⟨rfl, rfl⟩
      go_wp2_with fail
      refine (Hz4.out _).mono ?_
      rintro e w3 ⟨rfl, rfl⟩
      go_wp2_with fail
      refine (HRt.out _).mono ?_
      rintro e w3 ⟨rfl, ho⟩
      have HO3 := Lib.hid (HO2.out.trans ho)
      clear ho HRt c0 c1 c2 c3
      go_wp2_with fail
      refine (HA.out _).mono ?_
      rintro e w4 ⟨rfl, ho⟩
      have HO4 := Lib.hid (HO3.out.trans ho)
      clear ho
      go_wp2_with fail
      go_ret
      exact ⟨rfl, HO4.out⟩
    · obtain ⟨s0, s1⟩ := HBs.out rfl
      have HNy := Lib.hid (HNx.out rfl)
      have HRy := Lib.hid (HRn.out rfl)
      clear HBs HNx HRn HRt
      go_wp2_with fail
      clear c0 c1 c2 c3
      refine (HNw.out _).mono ?_
      rintro e w1 hN
      obtain ⟨h, -⟩ | ⟨-, g1, rfl, hg, hE, ho⟩ := hN
      · cases h
      have HO1 := Lib.hid (HO.out.trans ho)
      have hb1 := (ho.block gs (lt_of_block HB.out)).trans HB.out
      obtain ⟨c0, c1, c2, c3⟩ : w1.cell? ⟨gs, 0, none⟩ = some (.int .i64 a) ∧ w1.cell? ⟨gs, 1, none⟩ = some (.int .i64 d) ∧ w1.cell? ⟨gs, 2, none⟩ = some (.int .i64 s) ∧ w1.cell? ⟨gs, 3, none⟩ = some (.int .i64 r) := by
        simp [World.cell?, hb1]
      have HE1 := Lib.hid hE
      have Hg1 : Hid (w.heap.size ≤ g1) := Lib.hid (by have := HO.out.size; omega)
      clear ho hb1 hE hg HO
      go_wp2_with fail
      clear c0 c1 c2 c3
      refine (HNw.out _).mono ?_
      rintro e w2 hN
      obtain ⟨h, -⟩ | ⟨-, g2, rfl, hg, hE, ho⟩ := hN
      · cases h
      have HO2 := Lib.hid (HO1.out.trans ho)
      have Hg2 : Hid (w.heap.size ≤ g2 ∧ g1 ≠ g2) := Lib.hid (by have := HO1.out.size; have := HE1.out.lt; omega)
      have HE1 := Lib.hid (HE1.out.old ho)
      have HE2 := Lib.hid hE
      clear ho hE hg HO1 HNw HB HW HG
      go_wp2_with fail
      refine (Hz1.out _).mono ?_
      rintro e w3 ⟨rfl, rfl⟩
      go_wp2_with fail
      refine (Hz2.out _).mono ?_
      rintro e w3 ⟨rfl, rfl⟩
      go_wp2_with fail
      refine (Hz3.out _).mono ?_
      rintro e w3 ⟨rfl, rfl⟩
      go_wp2_with fail
      refine (Hz4.out _).mono ?_
      rintro e w3 ⟨rfl, rfl⟩
      clear Hz1 Hz2 Hz3 Hz4
      by_cases hn0 : n < 0
      · have HR := Lib.hid (HRm.out g1 n w2 (.inl hn0))
        clear HRm HRy HNy
        go_wp2_with fail
        refine HR.out.mono ?_
        rintro e w3 ⟨rfl, rfl⟩
        have HL1 := Lib.hid (eLevel_any g1 _ _ _ _ _ _ w2 HE1.out)
        have HL2 := Lib.hid (eLevel_any g2 _ _ _ _ _ _ w2 HE2.out)
        clear HR HE1 HE2
        go_wp2_with fail
        go_loopw [11] (fun iv wr => iv = .int .i64 0 ∧ w2 = wr) (fun _ _ => 0)
        case atStart => exact ⟨rfl, rfl⟩
        case round =>
          obtain ⟨rfl, rfl⟩ := hrel
          go_wp2_with fail
          refine HL1.out.mono ?_
          rintro e w3 ⟨rfl, rfl⟩
          go_wp2_with fail
          refine HL2.out.mono ?_
          rintro e w3 ⟨rfl, rfl⟩
          go_wp2_with fail
          refine (HA.out _).mono ?_
          rintro e w4 ⟨rfl, ho⟩
          have HO4 := Lib.hid (HO2.out.trans ho)
          clear ho
          go_wp2_with fail
          go_ret
          exact ⟨rfl, HO4.out⟩
      · obtain ⟨N, rfl⟩ : ∃ N : Nat, n = N := ⟨n.toNat, by omega⟩
        have HR := Lib.hid (HRy.out g1 N w2 HE1.out (by omega))
        have hN0 : (0 : Int) ≤ N := by omega
        clear HRm HRy HE1 hn0 hn3
        go_wp2_with fail
        refine HR.out.mono ?_
        rintro e w3 ⟨gr, rfl, hgr, hE, hrow, hK⟩
        have hne := Hg2.out.2
        have h20 := HE2.out.kept hK ⟨HE2.out.lt, fun e => hne e.symm⟩
        have HS0 : Hid (RR w g1 g2 gs gr N a d s r (evI a d s r (0, 0) N) (evI a d s r (0, 0) 0) w3) := Lib.hid ⟨hE, h20, hrow, HO2.out.after hK fun k hk => ⟨Nat.lt_of_lt_of_le hk HO2.out.size, by have := Hg1.out; omega⟩⟩
        have Hgr : Hid (gr ≠ g2 ∧ w.heap.size ≤ gr) := Lib.hid (by have := HE2.out.lt; have := HO2.out.size; omega)
        have HNk := Lib.hid (fun (k : Nat) V (hE : EB V g2 a d s r (evI a d s r (0, 0) k).1 (evI a d s r (0, 0) k).2) => HNy.out g2 _ _ V hE (evI_ok (x := (0, 0)) ⟨by omega, by omega, by omega, by omega, by omega⟩ s0 s1 k))
        clear hgr hE hrow hK h20 hne HR HE2 HO2 HNy s0 s1
        have hNN : ((N : Int) != (N : Int)) = false := by simp
        go_wp2_with fail
        clear hNN
        go_loopw [11] (fun iv wr => ∃ k : Nat, (k : Int) ≤ N ∧ iv = .int .i64 k ∧ Hid (RR w g1 g2 gs gr N a d s r (evI a d s r (0, 0) N) (evI a d s r (0, 0) k) wr)) (fun iv _ => (N - intOf iv).toNat)
        case atStart => exact ⟨0, by omega, rfl, HS0⟩
        case round =>
          clear HS0
          obtain ⟨k, hk, rfl, HS⟩ := hrel
          by_cases hlt : (k : Int) < N
          · have HN : Hid (∀ V, EB V g2 a d s r (evI a d s r (0, 0) k).1 (evI a d s r (0, 0) k).2 → Calls Try.prog 11 #[.pointer (some ⟨g2, 0, none⟩)] V fun e w' => e = .returned (.int .i64 (evV a d s r (0, 0) k)) ∧ EB w' g2 a d s r (evI a d s r (0, 0) (k + 1)).1 (evI a d s r (0, 0) (k + 1)).2 ∧ Kept (butOf V g2) V w') := Lib.hid fun V h => HNk.out k V h
            have hcell := HS.out.row.cell k (by omega)
            obtain ⟨v, hv⟩ : ∃ v, evV a d s r (0, 0) k = v := ⟨_, rfl⟩
            rw [hv] at HN hcell
            have hvv : (v != v) = false := by simp
            have HX : Hid (∀ V : World, EB V g2 a d s r (evI a d s r (0, 0) (k + 1)).1 (evI a d s r (0, 0) (k + 1)).2 → ∀ u : World, u.heap = wr.heap → u.os = wr.os → u.output = wr.output → Kept (butOf u g2) u V → RR w g1 g2 gs gr N a d s r (evI a d s r (0, 0) N) (evI a d s r (0, 0) (k + 1)) V) := Lib.hid fun V hE u hu1 hu2 hu3 hK => by
              have ou : Old wr u := ⟨hu2, hu3, by rw [hu1]; exact Nat.le_refl _, fun q _ => by rw [hu1]⟩
              have s := HS.out
              have us : u.heap.size = wr.heap.size := by rw [hu1]
              have l1 := s.e1.lt
              have l3 := s.row.lt
              have hne := Hg2.out.2
              refine ⟨(s.e1.old ou).kept hK ⟨by omega, hne⟩, hE, (s.row.old ou).kept hK ⟨by omega, Hgr.out.1⟩, (s.old.trans ou).after hK fun q hq => ⟨?_, ?_⟩⟩
              · have := s.old.size; omega
              · have := Hg2.out.1; omega
            have HE : Hid (EB wr.drew g2 a d s r (evI a d s r (0, 0) k).1 (evI a d s r (0, 0) k).2) := Lib.hid HS.out.e2
            have Hc : Hid (∀ V : World, V.heap = wr.heap → V.cell? ⟨gr, k, none⟩ = some (.int .i64 v)) := Lib.hid fun V hV => (World.cell?_of_block (by rw [hV])).trans hcell
            have Hrow := Lib.hid HS.out.row
            clear HNk hcell HS
            go_wp2_with fail
            refine wp_region_held_drew (S := (fun V => V.cell? ⟨gr, k, none⟩ = some (.int .i64 v))) (by kernel_rfl) ?_ (fun hHeld => ?_)
            · (try dsimp only); exact Hc.out _ rfl
            refine wpAnyH_take (i := 0) (oi := ⟨some _, _, _, _, _, _⟩) (v := ?_) rfl (by kernel_rfl) (by kernel_rfl) (by kernel_rfl) (fun _ _ _ h => h) (Or.inl ⟨by kernel_rfl, ?_⟩) (by assumption) ?_; rotate_left; (intro w hSw; (try dsimp only at hSw); go_simp; try with_reducible rfl); try simp only [Act.put, List.setIfInBounds_toArray, List.set_cons_zero, List.set_cons_succ]
            refine wpAnyH_take (i := 1) (oi := ⟨some _, _, _, _, _, _⟩) (v := ?_) rfl (by kernel_rfl) (by kernel_rfl) (by kernel_rfl) (fun _ _ _ h => h) (Or.inl ⟨by kernel_rfl, ?_⟩) (by assumption) ?_; rotate_left; (intro w hSw; (try dsimp only at hSw); go_simp; try with_reducible rfl); try simp only [Act.put, List.setIfInBounds_toArray, List.set_cons_zero, List.set_cons_succ]
            refine wpAnyH_take (i := 2) (oi := ⟨some _, _, _, _, _, _⟩) (v := ?_) rfl (by kernel_rfl) (by kernel_rfl) (by kernel_rfl) (fun _ _ _ h => h) (Or.inl ⟨by kernel_rfl, ?_⟩) (by assumption) ?_; rotate_left; (intro w hSw; (try dsimp only at hSw); go_simp; try with_reducible rfl); try simp only [Act.put, List.setIfInBounds_toArray, List.set_cons_zero, List.set_cons_succ]
            refine wpAnyH_take (i := 3) (oi := ⟨some _, _, _, _, _, _⟩) (v := ?_) rfl (by kernel_rfl) (by kernel_rfl) (by kernel_rfl) (fun _ _ _ h => h) (Or.inl ⟨by kernel_rfl, ?_⟩) (by assumption) ?_; rotate_left; (intro w hSw; (try dsimp only at hSw); go_simp; try with_reducible rfl); try simp only [Act.put, List.setIfInBounds_toArray, List.set_cons_zero, List.set_cons_succ]
            refine wpAnyH_take (i := 4) (oi := ⟨some _, _, _, _, _, _⟩) (v := ?_) rfl (by kernel_rfl) (by kernel_rfl) (by kernel_rfl) (fun _ _ _ h => h) (Or.inl ⟨by kernel_rfl, ?_⟩) (by assumption) ?_; rotate_left; (intro w hSw; (try dsimp only at hSw); go_simp; try with_reducible rfl); try simp only [Act.put, List.setIfInBounds_toArray, List.set_cons_zero, List.set_cons_succ]
            refine wpAnyH_ready (rs := [5]) (by kernel_rfl) (by simp) ?_
            refine AllReadyH.cons (o := ⟨_, _, _, _, _, _⟩) (by rfl) ?_ AllReadyH.nil
            intro K hK
            go_simp
            refine (HN.out _ HE.out).mono ?_
            rintro e V ⟨rfl, hE5, hK5⟩
            have H5 := Lib.hid (HX.out V hE5 wr.drew rfl rfl rfl hK5)
            have hc5 := (hK5.cell (a := ⟨gr, k, none⟩) ⟨Hrow.out.lt, Hgr.out.1⟩).trans (Hc.out wr.drew rfl)
            clear hE5 hK5 HX HN HE
            refine hK.out _ _ ?_ (fun hHeld => ?_)
            · (try dsimp only); exact hc5
            clear hK K
            try simp only [Act.put, List.setIfInBounds_toArray, List.set_cons_zero, List.set_cons_succ]
            refine wpAnyH_take (i := 6) (oi := ⟨some _, _, _, _, _, _⟩) (v := ?_) rfl (by kernel_rfl) (by kernel_rfl) (by kernel_rfl) (fun _ _ _ h => h) (Or.inl ⟨by kernel_rfl, ?_⟩) (by assumption) ?_; rotate_left; (intro w hSw; (try dsimp only at hSw); go_simp; try with_reducible rfl); try simp only [Act.put, List.setIfInBounds_toArray, List.set_cons_zero, List.set_cons_succ]
            refine wpAnyH_done (by kernel_rfl) ?_ _
            clear hc5 Hc Hrow
            go_wp2_with fail
            go_roundw
            case rel => exact ⟨k + 1, by omega, by go_num, H5⟩
            case measure => simp [intOf]; omega
          · obtain rfl : k = N := by omega
            have HL1 := Lib.hid (eLevel_any g1 _ _ _ _ _ _ wr HS.out.e1)
            have HL2 := Lib.hid (eLevel_any g2 _ _ _ _ _ _ wr HS.out.e2)
            clear HNk hlt
            generalize (evI a d s r (0, 0) k).2 = lv at *
            have hll : (lv == lv) = true := by simp
            go_wp2_with fail
            refine HL1.out.mono ?_
            rintro e w4 ⟨rfl, rfl⟩
            go_wp2_with fail
            refine HL2.out.mono ?_
            rintro e w4 ⟨rfl, rfl⟩
            clear HL1 HL2
            go_wp2_with fail
            refine (HA.out _).mono ?_
            rintro e w5 ⟨rfl, ho⟩
            have HO5 := Lib.hid (HS.out.old.trans ho)
            clear ho
            go_wp2_with fail
            go_ret
            exact ⟨rfl, HO5.out⟩


theorem own : ownKnob Try.prog.godebug = none := by kernel_rfl
theorem laidOut : laidOutB Try.prog = true := by kernel_rfl

set_option maxRecDepth 100000 in
theorem lifted (os : Os) (started : os.Started) (H : Type) (enc : TypeId × Value → H) :
    ReturnsInHanded {} Try.checked os 5 .any (Rows.envRunsSpec.pre6 enc Try.prog Try.f5 Rows.envRunsRow.domain false) (Rows.envRunsSpec.post enc Try.prog Try.f5 false true false false) := by
  refine returnsInHanded_of_change (C := Try.checked) own started (by kernel_rfl) Try.func5
    (ChangeSpec.witness6 (enc := enc) (C := Try.checked) false ⟨#[], #[(.agg #[.int .i64 0, .int .i64 0, .int .i64 0, .int .i64 0]), .int .i64 0], []⟩ 8 (by kernel_rfl) (by kernel_rfl) (by kernel_rfl) (by kernel_rfl)) ?_
  intro W base args ds gs before hval0 hW hcnd _
  have hval : ∀ (j : Nat) t v, Try.f5.params[j]? = some t → args[j]? = some v → Value.okWide Try.prog W .any base t v := hval0
  have hW' := hW
  have hlt : ∀ p ∈ before, p.block < W.heap.size := fun p hp => hW'.lt p hp
  obtain ⟨p, q, hA0, hV, rfl, hfz, hnd⟩ := hW
  have hA : DataW.TrodAll enc Try.prog W 0 (fun _ => true) true Try.f5.params.toList args.toList ds p := hA0
  rw [Try.params5] at hA hval
  obtain ⟨v0, vs0, d0, ds0, p0, q0, hargs, rfl, rfl, h0, r0⟩ := trodAll_cons hA
  obtain ⟨v1, vs1, d1, ds1, p1, q1, rfl, rfl, rfl, h1, r1⟩ := trodAll_cons r0
  obtain ⟨rfl, rfl, rfl⟩ := trodAll_nil r1
  obtain rfl : args = #[v0, v1] := by cases args; simp_all
  obtain ⟨rfl, rfl⟩ := trodVars_none hV
  obtain ⟨a0, b0, c0, e0, rfl⟩ := open_shape (hval 0 23 v0 rfl rfl) h0
  obtain ⟨a1, rfl, _, _, w1⟩ := open_int Try.underlying3 (hval 1 3 v1 rfl rfl) h1
  refine (walk a0 b0 c0 e0 a1 W (i64_of w1).1 (i64_of w1).2).mono fun e W' ⟨he, hg⟩ => ?_
  subst he
  exact ⟨_, rfl, law_done laidOut Try.underlying4 rfl (by kernel_rfl) rfl hW' rfl hg⟩

theorem over : Rows.envRunsRow.holds Try.pinned (OpenSpec.ofChange Rows.envRunsSpec) :=
  OpenClaim.holds_of_wide 5 Try.f5 rfl rfl rfl rfl rfl rfl rfl ⟨rfl, rfl, rfl, rfl, rfl⟩ rfl rfl rfl rfl rfl (by kernel_rfl) Try.func5 (by kernel_rfl)
    (of_decide_eq_true (by kernel_rfl)) (by unfold Func.isWrapper; first | (rw [if_pos (by decide +kernel)]; kernel_rfl) | (rw [if_neg (by decide +kernel)]; exact ⟨rfl, rfl⟩))
    (fun os started H enc _ => lifted os started H enc)

theorem proved : Rows.EnvRunsSaid :=
  over
end Go.Proofs.Ytgdlinfgcfjciaa.envRuns
