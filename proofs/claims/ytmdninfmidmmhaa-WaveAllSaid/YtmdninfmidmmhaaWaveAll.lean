/- WaveAll: which samples may be packed together, and in which order. -/
import Derived.Test.YtmdninfmidmmhaaRows
import Derived.Test.YtmdninfmidmmhaaAwake
import Derived.Test.YtmdninfmidmmhaaAllP
import Derived.Test.YtmdninfmidmmhaaSmpsArg
import Derived.Deep.RegionHeld
namespace Go.Proofs.Ytmdninfmidmmhaa.waveAll
open Go.ChangeShapes Go.WideShapes Go.ChangeAt Go.RowKit
set_option linter.unusedVariables false
set_option linter.unusedSimpArgs false

theorem news_six (w : World) (cs : Array Value) (t : TypeId) : ∀ (j : Nat) (x : Value), cs.toList[j]? = some x → (w.alloc (.cells cs t)).cell? ((⟨w.heap.size, 0, none⟩ : Addr).add j) = some x := fun j x h => by
  rw [add_plain, Nat.zero_add, cell_of_row _ _ _ _ _ _ (heap_alloc_new _ _)]
  simpa using h
set_option maxRecDepth 100000 in
set_option maxHeartbeats 8000000 in
theorem walk (q : Option Addr) (n c : Nat) (L : Nat → Smp) (w : World) (hs : SmsS w q n L) :
    Calls Try.prog 5 #[.slice q n c] w fun e w' => e = .returned (.bool true) ∧ Old w w' := by
  obtain ⟨ir, hir, hr0, hr1, hr2⟩ := info_parts Try.info_smp
  have HS := Lib.hid hs
  have H0 := Lib.hid (show AllSt w w (.slice none 0 0) 0 L from ⟨ownS.nil _ _ _ _, fun i hi => by omega, Old.refl w⟩)
  clear hs
  go_enter Try.func5, Try.ntmps5
  go_wp2_with fail
  go_loopw [3, 4] (fun v i wr => ∃ (k : Nat) (Z : Nat → Smp), k ≤ 80 ∧ k ≤ n ∧ i = .int .i64 k ∧ Hid (AllSt w wr v k Z)) (fun _ i _ => 80 - (intOf i).toNat)
  case atStart => exact ⟨0, L, by omega, by omega, by go_num, H0⟩
  case round =>
    clear H0
    obtain ⟨k, Z, hk8, hkn, rfl, HA⟩ := hrel
    go_upto_region 3 with (fail)
    go_cut [21] (fun v wx => v = .bool (decide (k < n ∧ k < 80)) ∧ wr = wx)
    case first =>
      clear HS HA
      by_cases a1 : k < n
      · by_cases a2 : k < 80
        · have He := Lib.hid (show decide (k < n ∧ k < 80) = true from decide_eq_true ⟨a1, a2⟩)
          go_wp2_with fail
          go_meet
          exact ⟨by first | (rw [He.out]; done) | (rw [He.out]; exact congrArg Value.bool (decide_eq_true (by omega))) | (rw [He.out]; exact congrArg Value.bool (decide_eq_false (by omega))), rfl⟩
        · have He := Lib.hid (show decide (k < n ∧ k < 80) = false from decide_eq_false fun h => a2 h.2)
          go_wp2_with fail
          go_meet
          exact ⟨by first | (rw [He.out]; done) | (rw [He.out]; exact congrArg Value.bool (decide_eq_true (by omega))) | (rw [He.out]; exact congrArg Value.bool (decide_eq_false (by omega))), rfl⟩
      · have He := Lib.hid (show decide (k < n ∧ k < 80) = false from decide_eq_false fun h => a1 h.1)
        go_wp2_with fail
        go_meet
        exact ⟨by first | (rw [He.out]; done) | (rw [He.out]; exact congrArg Value.bool (decide_eq_true (by omega))) | (rw [He.out]; exact congrArg Value.bool (decide_eq_false (by omega))), rfl⟩
    case rest =>
      obtain ⟨rfl, rfl⟩ := hcut
      by_cases ha : k < n ∧ k < 80
      · rw [decide_eq_true ha]
        have h8 := ha.2
        have hn := ha.1
        clear ha
        have hS := HS.out.old HA.out.old
        obtain ⟨g, o, rfl, hg, hcs⟩ := hS.cell (by omega)
        have c0 : wr.cell? ⟨g, o + k * 6, none⟩ = some (.string (L k).s) := hcs k hn 0 _ rfl
        have c1 : wr.cell? ⟨g, o + k * 6 + 1, none⟩ = some (.int .i64 (L k).r) := hcs k hn 1 _ rfl
        have c2 : wr.cell? ⟨g, o + k * 6 + 2, none⟩ = some (.bool (L k).lp) := hcs k hn 2 _ rfl
        have c3 : wr.cell? ⟨g, o + k * 6 + 3, none⟩ = some (.int .i64 (L k).a) := hcs k hn 3 _ rfl
        have c4 : wr.cell? ⟨g, o + k * 6 + 4, none⟩ = some (.int .i64 (L k).b) := hcs k hn 4 _ rfl
        have c5 : wr.cell? ⟨g, o + k * 6 + 5, none⟩ = some (.slice (L k).p (L k).n (L k).c) := hcs k hn 5 _ rfl
        have HF := Lib.hid (Few_any (L k) wr (hS.ok k hn))
        have HIL := Lib.hid (HS.out.ok k hn).inLt
        have q0 : (0 : Int) ≤ k := by omega
        have q1 : (k : Int) < n := by omega
        have dd : decide ((k : Int) < 80) = true := decide_eq_true (by omega)
        unfold Smp.val Smp.cells at HF
        clear hcs hS hg
        go_wp2_with fail
        refine HF.out.mono ?_
        rintro e w1 ⟨S', rfl, hok, hfew, ho, hp, hQ, hn', hM⟩
        have hin : S'.inX (fun z => u3.ownBlock ≠ some z) := by
          refine ⟨fun a h0 ha e => ?_, fun i hi h0 a ha e => ?_⟩
          · have h1 := hp a h0 ha
            have h2 := HA.out.own.lt _ e
            omega
          · rw [hQ] at ha
            have h1 := HIL.out.2 i (by omega) (by have := hM i; omega) a ha
            exact HA.out.own.2 _ e h1
        have HA1 := Lib.hid ((HA.out.later ho).later (Old.alloc w1 (.cells S'.cells 24)))
        have HOK := Lib.hid (hok.old (Old.alloc w1 (.cells S'.cells 24)))
        have HFW := Lib.hid hfew
        have HIN := Lib.hid hin
        have HON := Lib.hid (HA1.out.own.mono (Y := fun z => z < (w1.alloc (.cells S'.cells 24)).heap.size ∧ u3.ownBlock ≠ some z) fun z hz hh => hh.2 hz)
        have HNW := Lib.hid (news_six w1 S'.cells 24)
        have H1C : Hid (∀ u ∈ S'.cells.toList, u.oneCell' = true) := Lib.hid (by
          intro u hu
          have hu' : u ∈ [Value.string S'.s, .int .i64 S'.r, .bool S'.lp, .int .i64 S'.a, .int .i64 S'.b, .slice S'.p S'.n S'.c] := hu
          simp only [List.mem_cons, List.not_mem_nil, or_false] at hu'
          rcases hu' with rfl | rfl | rfl | rfl | rfl | rfl <;> rfl)
        have HLN := Lib.hid (smp_len S')
        clear hok hfew ho hp hQ hn' hM hin HF HA HIL c0 c1 c2 c3 c4 c5
        unfold Smp.cells at HA1 HOK HON HNW H1C HLN ⊢
        go_wp2_with (at_builtin; refine append_S _ rfl _ _ 38 rfl (fun z => z < (w1.alloc (.cells #[.string S'.s, .int .i64 S'.r, .bool S'.lp, .int .i64 S'.a, .int .i64 S'.b, .slice S'.p S'.n S'.c] 24)).heap.size ∧ u3.ownBlock ≠ some z) 24 ir (.agg #[.string ⟨#[]⟩, .int .i64 0, .bool false, .int .i64 0, .int .i64 0, .slice none 0 0]) 6 72 Try.underlying38 hir hr0 hr1 hr2 rfl (by decide) u3 k (smpsV Z k) rfl HON.out ⟨w1.heap.size, 0, none⟩ 1 1 [.string S'.s, .int .i64 S'.r, .bool S'.lp, .int .i64 S'.a, .int .i64 S'.b, .slice S'.p S'.n S'.c] rfl HLN.out HNW.out H1C.out (by unfold maxLen; omega) (by omega) (fun z hz => hz.1) ?_; intro v' w2 hown2 hk2 hnb; have HA2 := Lib.hid (AllSt.add (S := S') (w1 := w1.alloc (.cells #[.string S'.s, .int .i64 S'.r, .bool S'.lp, .int .i64 S'.a, .int .i64 S'.b, .slice S'.p S'.n S'.c] 24)) HA1.out HOK.out HFW.out HIN.out hown2 hk2 hnb); clear hown2 hk2 hnb HA1 HOK HFW HIN HON HNW)
        go_roundw
        case rel => exact ⟨k + 1, _, by omega, by omega, by go_num, HA2⟩
        case measure => simp [intOf]; omega
      · rw [decide_eq_false ha]
        obtain ⟨p', c', hv, hsm⟩ := HA.out.sms
        subst hv
        have HSM := Lib.hid hsm
        have HFW := Lib.hid (fun i hi => (HA.out.ok i hi).2.1)
        have HO := Lib.hid HA.out.old
        clear ha HA HS hsm hir hr0 hr1 hr2 hkn
        obtain ⟨W0, rfl⟩ : ∃ V, V = wr := ⟨_, rfl⟩
        go_wp2_with fail
        go_loopw [5, 6] (fun ev iv wr => ∃ i : Nat, i ≤ k ∧ iv = .int .i64 i ∧ ev = .int .i64 (errTo Z i) ∧ Hid (Old W0 wr)) (fun _ iv _ => k - (intOf iv).toNat)
        case atStart => exact ⟨0, by omega, by go_num, rfl, Lib.hid (Old.refl _)⟩
        case round =>
          obtain ⟨i, hi, rfl, rfl, HOW⟩ := hrel
          go_upto_region 8 with (fail)
          go_cut [39] (fun v wx => v = .bool (decide (i < k ∧ errTo Z i = 0)) ∧ wr = wx)
          case first =>
            clear HSM HFW HO HOW
            by_cases a1 : i < k
            · by_cases a2 : errTo Z i = 0
              · have He := Lib.hid (show decide (i < k ∧ errTo Z i = 0) = true from decide_eq_true ⟨a1, a2⟩)
                have d2 : (errTo Z i == 0) = true := by simpa using a2
                generalize errTo Z i = ee at *
                go_wp2_with fail
                go_meet
                exact ⟨by first | (rw [He.out]; done) | (rw [He.out]; exact congrArg Value.bool (decide_eq_true (by omega))) | (rw [He.out]; exact congrArg Value.bool (decide_eq_false (by omega))), rfl⟩
              · have He := Lib.hid (show decide (i < k ∧ errTo Z i = 0) = false from decide_eq_false fun h => a2 h.2)
                have d2 : (errTo Z i == 0) = false := by simpa using a2
                generalize errTo Z i = ee at *
                go_wp2_with fail
                go_meet
                exact ⟨by first | (rw [He.out]; done) | (rw [He.out]; exact congrArg Value.bool (decide_eq_true (by omega))) | (rw [He.out]; exact congrArg Value.bool (decide_eq_false (by omega))), rfl⟩
            · have He := Lib.hid (show decide (i < k ∧ errTo Z i = 0) = false from decide_eq_false fun h => a1 h.1)
              generalize errTo Z i = ee at *
              go_wp2_with fail
              go_meet
              exact ⟨by first | (rw [He.out]; done) | (rw [He.out]; exact congrArg Value.bool (decide_eq_true (by omega))) | (rw [He.out]; exact congrArg Value.bool (decide_eq_false (by omega))), rfl⟩
          case rest =>
            obtain ⟨rfl, rfl⟩ := hcut
            by_cases ha : i < k ∧ errTo Z i = 0
            · rw [decide_eq_true ha]
              have hik := ha.1
              have HNX := Lib.hid (errTo_next ha.2)
              clear ha
              have hS := HSM.out.old HOW.out
              obtain ⟨g, o, rfl, hg, hcs⟩ := hS.cell (by omega)
              have c0 : wr.cell? ⟨g, o + i * 6, none⟩ = some (.string (Z i).s) := hcs i hik 0 _ rfl
              have c1 : wr.cell? ⟨g, o + i * 6 + 1, none⟩ = some (.int .i64 (Z i).r) := hcs i hik 1 _ rfl
              have c2 : wr.cell? ⟨g, o + i * 6 + 2, none⟩ = some (.bool (Z i).lp) := hcs i hik 2 _ rfl
              have c3 : wr.cell? ⟨g, o + i * 6 + 3, none⟩ = some (.int .i64 (Z i).a) := hcs i hik 3 _ rfl
              have c4 : wr.cell? ⟨g, o + i * 6 + 4, none⟩ = some (.int .i64 (Z i).b) := hcs i hik 4 _ rfl
              have c5 : wr.cell? ⟨g, o + i * 6 + 5, none⟩ = some (.slice (Z i).p (Z i).n (Z i).c) := hcs i hik 5 _ rfl
              have HLC := Lib.hid (lawCheck_any (Z i) wr (hS.ok i hik) (HFW.out i hik))
              have q0 : (0 : Int) ≤ i := by omega
              have q1 : (i : Int) < k := by omega
              unfold Smp.val Smp.cells at HLC
              clear hcs hS hg
              go_wp2_with fail
              refine HLC.out.mono ?_
              rintro e w2 ⟨rfl, ho2⟩
              have HO2 := Lib.hid (HOW.out.trans ho2)
              clear ho2 HLC c0 c1 c2 c3 c4 c5 HOW
              go_wp2_with fail
              go_roundw
              case rel => exact ⟨i + 1, by omega, by go_num, by rw [HNX.out], HO2⟩
              case measure => simp [intOf]; omega
            · rw [decide_eq_false ha]
              have hfin : errTo Z i = wantI Z k 0 := by
                rw [wantI_zero]
                by_cases h : errTo Z i = 0
                · rw [show i = k by omega]
                · exact (errTo_stays h hi).symm
              rw [hfin]
              have HO1 := Lib.hid (HO.out.trans HOW.out)
              have HSM1 := Lib.hid (HSM.out.old HOW.out)
              clear ha hfin HO HSM HOW hi
              obtain ⟨W1, rfl⟩ : ∃ V, V = wr := ⟨_, rfl⟩
              go_wp2_with fail
              go_loopw [5, 7] (fun ev iv wr => ∃ i : Nat, i ≤ k ∧ iv = .int .i64 i ∧ ev = .int .i64 (wantI Z k i) ∧ Hid (∃ d, wr = W1.drewN d)) (fun _ iv _ => k - (intOf iv).toNat)
              case atStart => exact ⟨0, by omega, by go_num, rfl, Lib.hid ⟨0, rfl⟩⟩
              case round =>
                obtain ⟨i, hi, rfl, rfl, HD⟩ := hrel
                go_upto_region 12 with (fail)
                go_cut [54] (fun v wx => v = .bool (decide (i < k ∧ wantI Z k i = 0)) ∧ wr = wx)
                case first =>
                  clear HSM1 HFW HO1 HD
                  by_cases a1 : i < k
                  · by_cases a2 : wantI Z k i = 0
                    · have He := Lib.hid (show decide (i < k ∧ wantI Z k i = 0) = true from decide_eq_true ⟨a1, a2⟩)
                      have d2 : (wantI Z k i == 0) = true := by simpa using a2
                      generalize wantI Z k i = ee at *
                      go_wp2_with fail
                      go_meet
                      exact ⟨by first | (rw [He.out]; done) | (rw [He.out]; exact congrArg Value.bool (decide_eq_true (by omega))) | (rw [He.out]; exact congrArg Value.bool (decide_eq_false (by omega))), rfl⟩
                    · have He := Lib.hid (show decide (i < k ∧ wantI Z k i = 0) = false from decide_eq_false fun h => a2 h.2)
                      have d2 : (wantI Z k i == 0) = false := by simpa using a2
                      generalize wantI Z k i = ee at *
                      go_wp2_with fail
                      go_meet
                      exact ⟨by first | (rw [He.out]; done) | (rw [He.out]; exact congrArg Value.bool (decide_eq_true (by omega))) | (rw [He.out]; exact congrArg Value.bool (decide_eq_false (by omega))), rfl⟩
                  · have He := Lib.hid (show decide (i < k ∧ wantI Z k i = 0) = false from decide_eq_false fun h => a1 h.1)
                    generalize wantI Z k i = ee at *
                    go_wp2_with fail
                    go_meet
                    exact ⟨by first | (rw [He.out]; done) | (rw [He.out]; exact congrArg Value.bool (decide_eq_true (by omega))) | (rw [He.out]; exact congrArg Value.bool (decide_eq_false (by omega))), rfl⟩
                case rest =>
                  obtain ⟨rfl, rfl⟩ := hcut
                  by_cases ha : i < k ∧ wantI Z k i = 0
                  · rw [decide_eq_true ha, ha.2]
                    have hik := ha.1
                    have HST := Lib.hid (wantI_step ha.2)
                    clear ha
                    obtain ⟨g, o, rfl, hg, hcs⟩ := HSM1.out.cell (by omega)
                    have HNM : Hid (∀ j, j < k → W1.cell? ⟨g, o + j * 6, none⟩ = some (.string (nmS Z j))) := Lib.hid fun j hj => hcs j hj 0 _ rfl
                    have nx := HNM.out i hik
                    clear hcs hg
                    go_wp2_with fail
                    go_loopw [5, 8] (fun ev jv wr => ∃ j : Nat, j ≤ i ∧ jv = .int .i64 j ∧ ev = .int .i64 (oneI Z i j) ∧ Hid (∃ d, wr = W1.drewN d)) (fun _ jv _ => i - (intOf jv).toNat)
                    case atStart => exact ⟨0, by omega, by go_num, by rw [oneI_zero], HD⟩
                    case round =>
                      clear HD
                      obtain ⟨j, hj, rfl, rfl, HD⟩ := hrel
                      obtain ⟨d, rfl⟩ := HD.out
                      clear HD
                      by_cases hji : j < i
                      · have ny := HNM.out j (by omega)
                        have q1 : (i : Int) < k := by omega
                        have q2 : (j : Int) < k := by omega
                        have q3 : (j : Int) < i := by omega
                        by_cases he : nmS Z i = nmS Z j
                        · have HON := Lib.hid (oneI_yes he)
                          have nx' := nx
                          rw [he] at nx'
                          have de := eqS_eq (nmS Z j)
                          have HNX := Lib.hid nx
                          clear he nx
                          generalize nmS Z j = s at *
                          go_wp2_with fail
                          go_quiet (fail)
                          go_wp2_with fail
                          go_roundw
                          case rel => exact ⟨j + 1, by omega, by go_num, by rw [HON.out], Lib.hid ⟨_, rfl⟩⟩
                          case measure => simp [intOf]; omega
                        · have HON := Lib.hid (oneI_no he)
                          have de := eqS_neq he
                          clear he
                          generalize nmS Z i = s at *
                          generalize nmS Z j = t at *
                          go_wp2_with fail
                          go_quiet (fail)
                          go_wp2_with fail
                          go_roundw
                          case rel => exact ⟨j + 1, by omega, by go_num, by rw [HON.out], Lib.hid ⟨_, rfl⟩⟩
                          case measure => simp [intOf]; omega
                      · obtain rfl : j = i := by omega
                        have q3 : ¬ ((j : Int) < (j : Int)) := by omega
                        clear nx
                        go_wp2_with fail
                        go_roundw
                        case rel => exact ⟨j + 1, by omega, by go_num, by rw [HST.out], Lib.hid ⟨_, rfl⟩⟩
                        case measure => simp [intOf]; omega
                  · rw [decide_eq_false ha]
                    have hfin : wantI Z k i = wantI Z k k := by
                      by_cases h : wantI Z k i = 0
                      · rw [show i = k by omega]
                      · exact (wantI_stays h hi).symm
                    rw [hfin]
                    obtain ⟨d, rfl⟩ := HD.out
                    have HO2 := Lib.hid (show Old w (W1.drewN d) from HO1.out.drewN d)
                    have HSM2 := Lib.hid (show SmsS (W1.drewN d) p' k Z from HSM1.out.old ((Old.refl W1).drewN d))
                    clear ha hfin HO1 HSM1 HD hi
                    obtain ⟨W2, hW2⟩ : ∃ V, V = W1.drewN d := ⟨_, rfl⟩
                    rw [← hW2] at HO2 HSM2 ⊢
                    clear hW2
                    have HALL := Lib.hid (wantI_all Z k)
                    go_upto_if 75 with (fail)
                    go_cut [5] (fun v wx => v = .int .i64 (allI Z k) ∧ W2 = wx)
                    case first =>
                      by_cases h64 : 64 < k
                      · have ha : allI Z k = 6 := by rw [← HALL.out, if_pos h64]
                        have HA6 := Lib.hid ha
                        have d2 : decide (64 < (k : Int)) = true := decide_eq_true (by omega)
                        clear HSM2 HFW HO2 HALL ha
                        go_wp2_with fail
                        go_meet
                        exact ⟨by rw [HA6.out], rfl⟩
                      · have ha : wantI Z k k = allI Z k := by rw [← HALL.out, if_neg h64]
                        rw [ha]
                        have d2 : decide (64 < (k : Int)) = false := decide_eq_false (by omega)
                        clear HSM2 HFW HO2 HALL ha
                        go_wp2_with fail
                        go_meet
                        exact ⟨rfl, rfl⟩
                    case rest =>
                      obtain ⟨rfl, rfl⟩ := hcut
                      have HSO := Lib.hid (Sort_any p' k c' Z W2 HSM2.out (by omega) (fun i hi => by have := (HFW.out i hi).n; omega) (fun i hi j hj => by have := (HFW.out i hi).m j hj; omega))
                      clear HALL
                      go_wp2_with fail
                      refine HSO.out.mono ?_
                      rintro e w3 ⟨gs, G, Y, rfl, hsr, hY, hsy, ho3⟩
                      have HCA := Lib.hid (CheckAll_any p' k c' Z w3 (HSM2.out.old ho3) (by omega))
                      have HSR := Lib.hid hsr
                      have HY := Lib.hid hY
                      have HSY := Lib.hid hsy
                      have HO3 := Lib.hid (HO2.out.trans ho3)
                      have HSM3 := Lib.hid (HSM2.out.old ho3)
                      clear hsr hY hsy ho3 HSO HO2 HSM2
                      go_wp2_with fail
                      refine HCA.out.mono ?_
                      rintro e w4 ⟨rfl, ho4⟩
                      have HO4 := Lib.hid (HO3.out.trans ho4)
                      have HSM4 := Lib.hid (HSM3.out.old ho4)
                      have HSY4 := Lib.hid (HSY.out.old ho4)
                      clear ho4 HO3 HSM3 HSY HCA
                      have dd : (allI Z k != allI Z k) = false := by simp
                      have d2 : ((k : Int) != (k : Int)) = false := by simp
                      generalize allI Z k = aa at *
                      go_wp2_with fail
                      clear dd d2
                      obtain ⟨W4, rfl⟩ : ∃ V, V = w4 := ⟨_, rfl⟩
                      go_loopw [10] (fun iv wr => ∃ i : Nat, 0 < i ∧ (i ≤ k ∨ i = 1) ∧ iv = .int .i64 i ∧ Hid (∃ d, wr = W4.drewN d)) (fun iv _ => k + 1 - (intOf iv).toNat)
                      case atStart => exact ⟨1, by omega, .inr rfl, by go_num, Lib.hid ⟨0, rfl⟩⟩
                      case round =>
                        obtain ⟨i, h0, hi, rfl, HD⟩ := hrel
                        obtain ⟨d, rfl⟩ := HD.out
                        clear HD
                        by_cases hik : i < k
                        · clear hi
                          obtain ⟨m, hm⟩ : ∃ m : Nat, m = i - 1 := ⟨_, rfl⟩
                          have hmk : m < k := by omega
                          obtain ⟨g, o, hgo, hg, hcs⟩ := HSY4.out.cell (by omega)
                          cases hgo
                          have nx : W4.cell? ⟨gs, m * 6, none⟩ = some (.string (nmS Y m)) := by have := hcs m hmk 0 _ rfl; rwa [Nat.zero_add] at this
                          have ny : W4.cell? ⟨gs, i * 6, none⟩ = some (.string (nmS Y i)) := by have := hcs i hik 0 _ rfl; rwa [Nat.zero_add] at this
                          have hnd := not_down HSR.out i h0 hik
                          have hxm : onm Z G (i - 1) = nmS Y m := by unfold onm nmS; rw [← hm]; exact ((HY.out m hmk).1).symm
                          have hxi : onm Z G i = nmS Y i := by unfold onm nmS; exact ((HY.out i hik).1).symm
                          rw [hxm, hxi, ← eqS] at hnd
                          unfold ltS at hnd
                          have q1 : (i : Int) < k := by omega
                          have q2 : (m : Int) < k := by omega
                          have HB1 := Lib.hid (show m ≤ 9223372036854775807 by omega)
                          have hmi : (i : Int) - 1 = (m : Int) := by omega
                          have HMI := Lib.hid hm
                          clear hcs hg hxm hxi hm
                          obtain ⟨e1, e2⟩ := wrapN (x := (i : Int) - 1) (p := m) hmi HB1.out
                          clear hmi
                          generalize nmS Y m = s at *
                          generalize nmS Y i = t at *
                          go_wp2_with fail
                          go_quiet (fail)
                          clear e1 e2
                          go_wp2_with fail
                          go_roundw
                          case rel => exact ⟨i + 1, by omega, .inl (by omega), by go_num, Lib.hid ⟨_, rfl⟩⟩
                          case measure => simp [intOf]; omega
                        · have hend : ¬ ((i : Int) < (k : Int)) := by omega
                          have HO5 := Lib.hid (show Old w (W4.drewN d) from HO4.out.drewN d)
                          have HSM5 := Lib.hid (show SmsS (W4.drewN d) p' k Z from HSM4.out.old ((Old.refl W4).drewN d))
                          have HSY5 := Lib.hid (show SmsS (W4.drewN d) (some ⟨gs, 0, none⟩) k Y from HSY4.out.old ((Old.refl W4).drewN d))
                          clear HO4 HSM4 HSY4 hi
                          obtain ⟨W5, hW5⟩ : ∃ V, V = W4.drewN d := ⟨_, rfl⟩
                          rw [← hW5] at HO5 HSM5 HSY5 ⊢
                          clear hW5
                          go_wp2_with fail
                          go_loopw [11] (fun iv wr => ∃ i : Nat, i ≤ k ∧ iv = .int .i64 i ∧ Hid (Old W5 wr)) (fun iv _ => k - (intOf iv).toNat)
                          case atStart => exact ⟨0, by omega, by go_num, Lib.hid (Old.refl _)⟩
                          case round =>
                            obtain ⟨i, hi, rfl, HW⟩ := hrel
                            by_cases hik : i < k
                            · clear hi
                              have HSZ := Lib.hid (HSM5.out.old HW.out)
                              obtain ⟨g, o, rfl, hg, hcs⟩ := HSZ.out.cell (by omega)
                              have HNM : Hid (∀ j, j < k → wr.cell? ⟨g, o + j * 6, none⟩ = some (.string (nmS Z j))) := Lib.hid fun j hj => hcs j hj 0 _ rfl
                              have nx := HNM.out i hik
                              have q1 : (i : Int) < k := by omega
                              have HG := Lib.hid hg
                              clear hcs hg
                              obtain ⟨wo, rfl⟩ : ∃ V, V = wr := ⟨_, rfl⟩
                              go_wp2_with fail
                              go_loopw [12, 13] (fun av jv wr => ∃ j : Nat, j ≤ k ∧ jv = .int .i64 j ∧ av = .int .i64 (cntB (aheadB Z i) j : Nat) ∧ Hid (∃ d, wr = wo.drewN d)) (fun _ jv _ => k - (intOf jv).toNat)
                              case atStart => exact ⟨0, by omega, by go_num, rfl, Lib.hid ⟨0, rfl⟩⟩
                              case round =>
                                obtain ⟨j, hj, rfl, rfl, HD⟩ := hrel
                                obtain ⟨d, rfl⟩ := HD.out
                                clear HD
                                by_cases hjk : j < k
                                · have ny := HNM.out j hjk
                                  have hcc := cntB_le (aheadB Z i) j
                                  have q2 : (j : Int) < k := by omega
                                  have hstep : cntB (aheadB Z i) (j + 1) = cntB (aheadB Z i) j + if aheadB Z i j then 1 else 0 := rfl
                                  obtain ⟨cc, hcc2⟩ : ∃ cc, cc = cntB (aheadB Z i) j := ⟨_, rfl⟩
                                  rw [← hcc2] at hcc hstep ⊢
                                  clear hcc2
                                  have hcc80 : cc ≤ 80 := by omega
                                  by_cases hlt : ltS (nmS Z j) (nmS Z i) = true
                                  · have hah : aheadB Z i j = true := by unfold aheadB; rw [hlt]; rfl
                                    rw [hah] at hstep
                                    have HSTEP := Lib.hid (show cntB (aheadB Z i) (j + 1) = cc + 1 from hstep)
                                    unfold ltS at hlt
                                    clear hah hstep hcc
                                    generalize nmS Z j = s at *
                                    generalize nmS Z i = tt at *
                                    go_wp2_with fail
                                    go_quiet (fail)
                                    go_wp2_with fail
                                    go_roundw
                                    case rel => exact ⟨j + 1, by omega, by go_num, by rw [HSTEP.out]; go_num, Lib.hid ⟨_, rfl⟩⟩
                                    case measure => simp [intOf]; omega
                                  · have hlf : ltS (nmS Z j) (nmS Z i) = false := Bool.eq_false_iff.2 hlt
                                    clear hlt
                                    by_cases he : nmS Z j = nmS Z i
                                    · have nx' := nx
                                      have ny' := ny
                                      rw [he] at ny'
                                      have hir : Op.bytesLess (nmS Z i).toList (nmS Z i).toList = false := ltS_irr (nmS Z i)
                                      have de := eqS_eq (nmS Z i)
                                      by_cases hji : j < i
                                      · have hah : aheadB Z i j = true := by unfold aheadB; rw [he, decide_eq_true rfl, decide_eq_true hji]; simp
                                        rw [hah] at hstep
                                        have HSTEP := Lib.hid (show cntB (aheadB Z i) (j + 1) = cc + 1 from hstep)
                                        have q3 : decide ((j : Int) < (i : Int)) = true := decide_eq_true (by omega)
                                        have HNY := Lib.hid ny
                                        clear hah hstep hcc hlf he ny nx
                                        generalize nmS Z i = s at *
                                        go_wp2_with fail
                                        go_quiet (fail)
                                        go_wp2_with fail
                                        go_roundw
                                        case rel => exact ⟨j + 1, by omega, by go_num, by rw [HSTEP.out]; go_num, Lib.hid ⟨_, rfl⟩⟩
                                        case measure => simp [intOf]; omega
                                      · have hah : aheadB Z i j = false := by unfold aheadB; rw [hlf, decide_eq_false hji]; simp
                                        rw [hah] at hstep
                                        have HSTEP := Lib.hid (show cntB (aheadB Z i) (j + 1) = cc from hstep)
                                        have q3 : decide ((j : Int) < (i : Int)) = false := decide_eq_false (by omega)
                                        have HNY := Lib.hid ny
                                        clear hah hstep hcc hlf he ny nx
                                        generalize nmS Z i = s at *
                                        go_wp2_with fail
                                        go_quiet (fail)
                                        go_wp2_with fail
                                        go_roundw
                                        case rel => exact ⟨j + 1, by omega, by go_num, by rw [HSTEP.out], Lib.hid ⟨_, rfl⟩⟩
                                        case measure => simp [intOf]; omega
                                    · have hah : aheadB Z i j = false := by unfold aheadB; rw [hlf, decide_eq_false he]; rfl
                                      rw [hah] at hstep
                                      have HSTEP := Lib.hid (show cntB (aheadB Z i) (j + 1) = cc from hstep)
                                      have de := eqS_neq he
                                      unfold ltS at hlf
                                      clear hah hstep hcc he
                                      generalize nmS Z j = s at *
                                      generalize nmS Z i = tt at *
                                      go_wp2_with fail
                                      go_quiet (fail)
                                      go_wp2_with fail
                                      go_roundw
                                      case rel => exact ⟨j + 1, by omega, by go_num, by rw [HSTEP.out], Lib.hid ⟨_, rfl⟩⟩
                                      case measure => simp [intOf]; omega
                                · obtain rfl : j = k := by omega
                                  have q3 : ¬ ((j : Int) < (j : Int)) := by omega
                                  clear nx
                                  have hap := ahead_place HSR.out i hik
                                  obtain ⟨a, ha⟩ : ∃ a, a = cntB (aheadB Z i) j := ⟨_, rfl⟩
                                  rw [← ha] at hap ⊢
                                  clear ha
                                  obtain ⟨haj, hGa⟩ := hap
                                  obtain ⟨ys, yr, yl⟩ := HY.out a haj
                                  rw [hGa, Int.toNat_natCast] at ys yr yl
                                  have HSYW := Lib.hid (HSY5.out.old HW.out)
                                  obtain ⟨s, hs⟩ : ∃ s, s = (Z i).s := ⟨_, rfl⟩
                                  obtain ⟨r, hr⟩ : ∃ r, r = (Z i).r := ⟨_, rfl⟩
                                  obtain ⟨ll, hl⟩ : ∃ ll, ll = (Z i).len := ⟨_, rfl⟩
                                  have HK : Hid (∀ W, Old wo W → W.cell? ⟨gs, a * 6, none⟩ = some (.string s) ∧ W.cell? ⟨gs, a * 6 + 1, none⟩ = some (.int .i64 r) ∧ W.cell? ⟨gs, a * 6 + 2, none⟩ = some (.bool (Y a).lp) ∧ W.cell? ⟨gs, a * 6 + 3, none⟩ = some (.int .i64 (Y a).a) ∧ W.cell? ⟨gs, a * 6 + 4, none⟩ = some (.int .i64 (Y a).b) ∧ W.cell? ⟨gs, a * 6 + 5, none⟩ = some (.slice (Y a).p (Y a).n (Y a).c) ∧ W.cell? ⟨g, o + i * 6, none⟩ = some (.string s) ∧ W.cell? ⟨g, o + i * 6 + 1, none⟩ = some (.int .i64 r) ∧ W.cell? ⟨g, o + i * 6 + 2, none⟩ = some (.bool (Z i).lp) ∧ W.cell? ⟨g, o + i * 6 + 3, none⟩ = some (.int .i64 (Z i).a) ∧ W.cell? ⟨g, o + i * 6 + 4, none⟩ = some (.int .i64 (Z i).b) ∧ W.cell? ⟨g, o + i * 6 + 5, none⟩ = some (.slice (Z i).p (Z i).n (Z i).c)) := Lib.hid fun W kk => by
                                    obtain ⟨gx, ox, hgx, _, hcy⟩ := (HSYW.out.old kk).cell (by omega)
                                    cases hgx
                                    obtain ⟨gz, oz, hgz, _, hcz⟩ := (HSZ.out.old kk).cell (by omega)
                                    cases hgz
                                    have e0 := hcy a haj 0 _ rfl
                                    have e1 := hcy a haj 1 _ rfl
                                    have e2 := hcy a haj 2 _ rfl
                                    have e3 := hcy a haj 3 _ rfl
                                    have e4 := hcy a haj 4 _ rfl
                                    have e5 := hcy a haj 5 _ rfl
                                    rw [Nat.zero_add] at e0 e1 e2 e3 e4 e5
                                    have f0 := hcz i hik 0 _ rfl
                                    have f1 := hcz i hik 1 _ rfl
                                    rw [hs, hr]
                                    refine ⟨by rw [← ys]; exact e0, by rw [← yr]; exact e1, e2, e3, e4, e5, f0, f1, hcz i hik 2 _ rfl, hcz i hik 3 _ rfl, hcz i hik 4 _ rfl, hcz i hik 5 _ rfl⟩
                                  have hly := fun W (kk : Old wo W) => Length_any (Y a) W ((HSYW.out.old kk).ok a haj)
                                  have hlz := fun W (kk : Old wo W) => Length_any (Z i) W ((HSZ.out.old kk).ok i hik)
                                  rw [yl, ← hl] at hly
                                  rw [← hl] at hlz
                                  unfold Smp.val Smp.cells at hly hlz
                                  rw [ys, yr, ← hs, ← hr] at hly
                                  rw [← hs, ← hr] at hlz
                                  have HLY := Lib.hid hly
                                  have HLZ := Lib.hid hlz
                                  have q4 : (a : Int) < j := by omega
                                  have q5 : (0 : Int) ≤ a := by omega
                                  have de := eqS_eq s
                                  have HOO0 := Lib.hid (show Old wo (wo.drewN d).drew from ((Old.refl wo).drewN d).drew)
                                  have HKK0 := Lib.hid (HK.out _ HOO0.out)
                                  clear hly hlz ys yr yl hGa hs hr hl
                                  go_wp2_with fail
                                  refine wp_region_held_drew (S := (fun W => W.cell? ⟨gs, a * 6, none⟩ = some (.string s) ∧ W.cell? ⟨gs, a * 6 + 1, none⟩ = some (.int .i64 r) ∧ W.cell? ⟨gs, a * 6 + 2, none⟩ = some (.bool (Y a).lp) ∧ W.cell? ⟨gs, a * 6 + 3, none⟩ = some (.int .i64 (Y a).a) ∧ W.cell? ⟨gs, a * 6 + 4, none⟩ = some (.int .i64 (Y a).b) ∧ W.cell? ⟨gs, a * 6 + 5, none⟩ = some (.slice (Y a).p (Y a).n (Y a).c) ∧ W.cell? ⟨g, o + i * 6, none⟩ = some (.string s) ∧ W.cell? ⟨g, o + i * 6 + 1, none⟩ = some (.int .i64 r) ∧ W.cell? ⟨g, o + i * 6 + 2, none⟩ = some (.bool (Z i).lp) ∧ W.cell? ⟨g, o + i * 6 + 3, none⟩ = some (.int .i64 (Z i).a) ∧ W.cell? ⟨g, o + i * 6 + 4, none⟩ = some (.int .i64 (Z i).b) ∧ W.cell? ⟨g, o + i * 6 + 5, none⟩ = some (.slice (Z i).p (Z i).n (Z i).c))) (by kernel_rfl) ?_ (fun hHeld => ?_)
                                  · (try dsimp only); exact HKK0.out
                                  refine wpAnyH_take (i := 0) (oi := ⟨some _, _, _, _, _, _⟩) (v := ?_) rfl (by kernel_rfl) (by kernel_rfl) (by kernel_rfl) (fun _ _ _ h => h) (Or.inl ⟨by kernel_rfl, ?_⟩) (by assumption) ?_; rotate_left; (intro w hSw; (try dsimp only at hSw); go_simp; try with_reducible rfl); try simp only [Act.put, List.setIfInBounds_toArray, List.set_cons_zero, List.set_cons_succ]
                                  refine wpAnyH_take (i := 1) (oi := ⟨some _, _, _, _, _, _⟩) (v := ?_) rfl (by kernel_rfl) (by kernel_rfl) (by kernel_rfl) (fun _ _ _ h => h) (Or.inl ⟨by kernel_rfl, ?_⟩) (by assumption) ?_; rotate_left; (intro w hSw; (try dsimp only at hSw); go_simp; try with_reducible rfl); try simp only [Act.put, List.setIfInBounds_toArray, List.set_cons_zero, List.set_cons_succ]
                                  refine wpAnyH_take (i := 2) (oi := ⟨some _, _, _, _, _, _⟩) (v := ?_) rfl (by kernel_rfl) (by kernel_rfl) (by kernel_rfl) (fun _ _ _ h => h) (Or.inl ⟨by kernel_rfl, ?_⟩) (by assumption) ?_; rotate_left; (intro w hSw; (try dsimp only at hSw); go_simp; try with_reducible rfl); try simp only [Act.put, List.setIfInBounds_toArray, List.set_cons_zero, List.set_cons_succ]
                                  refine wpAnyH_take (i := 3) (oi := ⟨some _, _, _, _, _, _⟩) (v := ?_) rfl (by kernel_rfl) (by kernel_rfl) (by kernel_rfl) (fun _ _ _ h => h) (Or.inl ⟨by kernel_rfl, ?_⟩) (by assumption) ?_; rotate_left; (intro w hSw; (try dsimp only at hSw); go_simp; try with_reducible rfl); try simp only [Act.put, List.setIfInBounds_toArray, List.set_cons_zero, List.set_cons_succ]
                                  refine wpAnyH_take (i := 4) (oi := ⟨some _, _, _, _, _, _⟩) (v := ?_) rfl (by kernel_rfl) (by kernel_rfl) (by kernel_rfl) (fun _ _ _ h => h) (Or.inl ⟨by kernel_rfl, ?_⟩) (by assumption) ?_; rotate_left; (intro w hSw; (try dsimp only at hSw); go_simp; try with_reducible rfl); try simp only [Act.put, List.setIfInBounds_toArray, List.set_cons_zero, List.set_cons_succ]
                                  refine wpAnyH_take (i := 5) (oi := ⟨some _, _, _, _, _, _⟩) (v := ?_) rfl (by kernel_rfl) (by kernel_rfl) (by kernel_rfl) (fun _ _ _ h => h) (Or.inl ⟨by kernel_rfl, ?_⟩) (by assumption) ?_; rotate_left; (intro w hSw; (try dsimp only at hSw); go_simp; try with_reducible rfl); try simp only [Act.put, List.setIfInBounds_toArray, List.set_cons_zero, List.set_cons_succ]
                                  refine wpAnyH_take (i := 6) (oi := ⟨some _, _, _, _, _, _⟩) (v := ?_) rfl (by kernel_rfl) (by kernel_rfl) (by kernel_rfl) (fun _ _ _ h => h) (Or.inl ⟨by kernel_rfl, ?_⟩) (by assumption) ?_; rotate_left; (intro w hSw; (try dsimp only at hSw); go_simp; try with_reducible rfl); try simp only [Act.put, List.setIfInBounds_toArray, List.set_cons_zero, List.set_cons_succ]
                                  refine wpAnyH_take (i := 7) (oi := ⟨some _, _, _, _, _, _⟩) (v := ?_) rfl (by kernel_rfl) (by kernel_rfl) (by kernel_rfl) (fun _ _ _ h => h) (Or.inl ⟨by kernel_rfl, ?_⟩) (by assumption) ?_; rotate_left; (intro w hSw; (try dsimp only at hSw); go_simp; try with_reducible rfl); try simp only [Act.put, List.setIfInBounds_toArray, List.set_cons_zero, List.set_cons_succ]
                                  refine wpAnyH_take (i := 8) (oi := ⟨some _, _, _, _, _, _⟩) (v := ?_) rfl (by kernel_rfl) (by kernel_rfl) (by kernel_rfl) (fun _ _ _ h => h) (Or.inl ⟨by kernel_rfl, ?_⟩) (by assumption) ?_; rotate_left; (intro w hSw; (try dsimp only at hSw); go_simp; try with_reducible rfl); try simp only [Act.put, List.setIfInBounds_toArray, List.set_cons_zero, List.set_cons_succ]
                                  refine wpAnyH_take (i := 9) (oi := ⟨some _, _, _, _, _, _⟩) (v := ?_) rfl (by kernel_rfl) (by kernel_rfl) (by kernel_rfl) (fun _ _ _ h => h) (Or.inl ⟨by kernel_rfl, ?_⟩) (by assumption) ?_; rotate_left; (intro w hSw; (try dsimp only at hSw); go_simp; try with_reducible rfl); try simp only [Act.put, List.setIfInBounds_toArray, List.set_cons_zero, List.set_cons_succ]
                                  refine wpAnyH_take (i := 10) (oi := ⟨some _, _, _, _, _, _⟩) (v := ?_) rfl (by kernel_rfl) (by kernel_rfl) (by kernel_rfl) (fun _ _ _ h => h) (Or.inl ⟨by kernel_rfl, ?_⟩) (by assumption) ?_; rotate_left; (intro w hSw; (try dsimp only at hSw); go_simp; try with_reducible rfl); try simp only [Act.put, List.setIfInBounds_toArray, List.set_cons_zero, List.set_cons_succ]
                                  refine wpAnyH_take (i := 11) (oi := ⟨some _, _, _, _, _, _⟩) (v := ?_) rfl (by kernel_rfl) (by kernel_rfl) (by kernel_rfl) (fun _ _ _ h => h) (Or.inl ⟨by kernel_rfl, ?_⟩) (by assumption) ?_; rotate_left; (intro w hSw; (try dsimp only at hSw); go_simp; try with_reducible rfl); try simp only [Act.put, List.setIfInBounds_toArray, List.set_cons_zero, List.set_cons_succ]
                                  refine wpAnyH_take (i := 12) (oi := ⟨some _, _, _, _, _, _⟩) (v := ?_) rfl (by kernel_rfl) (by kernel_rfl) (by kernel_rfl) (fun _ _ _ h => h) (Or.inl ⟨by kernel_rfl, ?_⟩) (by assumption) ?_; rotate_left; (intro w hSw; (try dsimp only at hSw); go_simp; try with_reducible rfl); try simp only [Act.put, List.setIfInBounds_toArray, List.set_cons_zero, List.set_cons_succ]
                                  refine wpAnyH_take (i := 13) (oi := ⟨some _, _, _, _, _, _⟩) (v := ?_) rfl (by kernel_rfl) (by kernel_rfl) (by kernel_rfl) (fun _ _ _ h => h) (Or.inl ⟨by kernel_rfl, ?_⟩) (by assumption) ?_; rotate_left; (intro w hSw; (try dsimp only at hSw); go_simp; try with_reducible rfl); try simp only [Act.put, List.setIfInBounds_toArray, List.set_cons_zero, List.set_cons_succ]
                                  refine wpAnyH_take (i := 14) (oi := ⟨some _, _, _, _, _, _⟩) (v := ?_) rfl (by kernel_rfl) (by kernel_rfl) (by kernel_rfl) (fun _ _ _ h => h) (Or.inl ⟨by kernel_rfl, ?_⟩) (by assumption) ?_; rotate_left; (intro w hSw; (try dsimp only at hSw); go_simp; try with_reducible rfl); try simp only [Act.put, List.setIfInBounds_toArray, List.set_cons_zero, List.set_cons_succ]
                                  refine wpAnyH_take (i := 15) (oi := ⟨some _, _, _, _, _, _⟩) (v := ?_) rfl (by kernel_rfl) (by kernel_rfl) (by kernel_rfl) (fun _ _ _ h => h) (Or.inl ⟨by kernel_rfl, ?_⟩) (by assumption) ?_; rotate_left; (intro w hSw; (try dsimp only at hSw); go_simp; try with_reducible rfl); try simp only [Act.put, List.setIfInBounds_toArray, List.set_cons_zero, List.set_cons_succ]
                                  refine wpAnyH_take (i := 16) (oi := ⟨some _, _, _, _, _, _⟩) (v := ?_) rfl (by kernel_rfl) (by kernel_rfl) (by kernel_rfl) (fun _ _ _ h => h) (Or.inl ⟨by kernel_rfl, ?_⟩) (by assumption) ?_; rotate_left; (intro w hSw; (try dsimp only at hSw); go_simp; try with_reducible rfl); try simp only [Act.put, List.setIfInBounds_toArray, List.set_cons_zero, List.set_cons_succ]
                                  refine wpAnyH_take (i := 17) (oi := ⟨some _, _, _, _, _, _⟩) (v := ?_) rfl (by kernel_rfl) (by kernel_rfl) (by kernel_rfl) (fun _ _ _ h => h) (Or.inl ⟨by kernel_rfl, ?_⟩) (by assumption) ?_; rotate_left; (intro w hSw; (try dsimp only at hSw); go_simp; try with_reducible rfl); try simp only [Act.put, List.setIfInBounds_toArray, List.set_cons_zero, List.set_cons_succ]
                                  refine wpAnyH_take (i := 18) (oi := ⟨some _, _, _, _, _, _⟩) (v := ?_) rfl (by kernel_rfl) (by kernel_rfl) (by kernel_rfl) (fun _ _ _ h => h) (Or.inl ⟨by kernel_rfl, ?_⟩) (by assumption) ?_; rotate_left; (intro w hSw; (try dsimp only at hSw); go_simp; try with_reducible rfl); try simp only [Act.put, List.setIfInBounds_toArray, List.set_cons_zero, List.set_cons_succ]
                                  refine wpAnyH_take (i := 19) (oi := ⟨some _, _, _, _, _, _⟩) (v := ?_) rfl (by kernel_rfl) (by kernel_rfl) (by kernel_rfl) (fun _ _ _ h => h) (Or.inl ⟨by kernel_rfl, ?_⟩) (by assumption) ?_; rotate_left; (intro w hSw; (try dsimp only at hSw); go_simp; try with_reducible rfl); try simp only [Act.put, List.setIfInBounds_toArray, List.set_cons_zero, List.set_cons_succ]
                                  refine wpAnyH_take (i := 20) (oi := ⟨some _, _, _, _, _, _⟩) (v := ?_) rfl (by kernel_rfl) (by kernel_rfl) (by kernel_rfl) (fun _ _ _ h => h) (Or.inl ⟨by kernel_rfl, ?_⟩) (by assumption) ?_; rotate_left; (intro w hSw; (try dsimp only at hSw); go_simp; try with_reducible rfl); try simp only [Act.put, List.setIfInBounds_toArray, List.set_cons_zero, List.set_cons_succ]
                                  refine wpAnyH_take (i := 21) (oi := ⟨some _, _, _, _, _, _⟩) (v := ?_) rfl (by kernel_rfl) (by kernel_rfl) (by kernel_rfl) (fun _ _ _ h => h) (Or.inl ⟨by kernel_rfl, ?_⟩) (by assumption) ?_; rotate_left; (intro w hSw; (try dsimp only at hSw); go_simp; try with_reducible rfl); try simp only [Act.put, List.setIfInBounds_toArray, List.set_cons_zero, List.set_cons_succ]
                                  refine wpAnyH_take (i := 22) (oi := ⟨some _, _, _, _, _, _⟩) (v := ?_) rfl (by kernel_rfl) (by kernel_rfl) (by kernel_rfl) (fun _ _ _ h => h) (Or.inl ⟨by kernel_rfl, ?_⟩) (by assumption) ?_; rotate_left; (intro w hSw; (try dsimp only at hSw); go_simp; try with_reducible rfl); try simp only [Act.put, List.setIfInBounds_toArray, List.set_cons_zero, List.set_cons_succ]
                                  refine wpAnyH_take (i := 23) (oi := ⟨some _, _, _, _, _, _⟩) (v := ?_) rfl (by kernel_rfl) (by kernel_rfl) (by kernel_rfl) (fun _ _ _ h => h) (Or.inl ⟨by kernel_rfl, ?_⟩) (by assumption) ?_; rotate_left; (intro w hSw; (try dsimp only at hSw); go_simp; try with_reducible rfl); try simp only [Act.put, List.setIfInBounds_toArray, List.set_cons_zero, List.set_cons_succ]
                                  refine wpAnyH_take (i := 24) (oi := ⟨some _, _, _, _, _, _⟩) (v := ?_) rfl (by kernel_rfl) (by kernel_rfl) (by kernel_rfl) (fun _ _ _ h => h) (Or.inl ⟨by kernel_rfl, ?_⟩) (by assumption) ?_; rotate_left; (intro w hSw; (try dsimp only at hSw); go_simp; try with_reducible rfl); try simp only [Act.put, List.setIfInBounds_toArray, List.set_cons_zero, List.set_cons_succ]
                                  refine wpAnyH_take (i := 25) (oi := ⟨some _, _, _, _, _, _⟩) (v := ?_) rfl (by kernel_rfl) (by kernel_rfl) (by kernel_rfl) (fun _ _ _ h => h) (Or.inl ⟨by kernel_rfl, ?_⟩) (by assumption) ?_; rotate_left; (intro w hSw; (try dsimp only at hSw); go_simp; try with_reducible rfl); try simp only [Act.put, List.setIfInBounds_toArray, List.set_cons_zero, List.set_cons_succ]
                                  refine wpAnyH_take (i := 26) (oi := ⟨some _, _, _, _, _, _⟩) (v := ?_) rfl (by kernel_rfl) (by kernel_rfl) (by kernel_rfl) (fun _ _ _ h => h) (Or.inl ⟨by kernel_rfl, ?_⟩) (by assumption) ?_; rotate_left; (intro w hSw; (try dsimp only at hSw); go_simp; try with_reducible rfl); try simp only [Act.put, List.setIfInBounds_toArray, List.set_cons_zero, List.set_cons_succ]
                                  refine wpAnyH_take (i := 27) (oi := ⟨some _, _, _, _, _, _⟩) (v := ?_) rfl (by kernel_rfl) (by kernel_rfl) (by kernel_rfl) (fun _ _ _ h => h) (Or.inl ⟨by kernel_rfl, ?_⟩) (by assumption) ?_; rotate_left; (intro w hSw; (try dsimp only at hSw); go_simp; try with_reducible rfl); try simp only [Act.put, List.setIfInBounds_toArray, List.set_cons_zero, List.set_cons_succ]
                                  refine wpAnyH_take (i := 28) (oi := ⟨some _, _, _, _, _, _⟩) (v := ?_) rfl (by kernel_rfl) (by kernel_rfl) (by kernel_rfl) (fun _ _ _ h => h) (Or.inl ⟨by kernel_rfl, ?_⟩) (by assumption) ?_; rotate_left; (intro w hSw; (try dsimp only at hSw); go_simp; try with_reducible rfl); try simp only [Act.put, List.setIfInBounds_toArray, List.set_cons_zero, List.set_cons_succ]
                                  refine wpAnyH_take (i := 30) (oi := ⟨some _, _, _, _, _, _⟩) (v := ?_) rfl (by kernel_rfl) (by kernel_rfl) (by kernel_rfl) (fun _ _ _ h => h) (Or.inl ⟨by kernel_rfl, ?_⟩) (by assumption) ?_; rotate_left; (intro w hSw; (try dsimp only at hSw); go_simp; try with_reducible rfl); try simp only [Act.put, List.setIfInBounds_toArray, List.set_cons_zero, List.set_cons_succ]
                                  refine wpAnyH_take (i := 31) (oi := ⟨some _, _, _, _, _, _⟩) (v := ?_) rfl (by kernel_rfl) (by kernel_rfl) (by kernel_rfl) (fun _ _ _ h => h) (Or.inl ⟨by kernel_rfl, ?_⟩) (by assumption) ?_; rotate_left; (intro w hSw; (try dsimp only at hSw); go_simp; try with_reducible rfl); try simp only [Act.put, List.setIfInBounds_toArray, List.set_cons_zero, List.set_cons_succ]
                                  refine wpAnyH_take (i := 32) (oi := ⟨some _, _, _, _, _, _⟩) (v := ?_) rfl (by kernel_rfl) (by kernel_rfl) (by kernel_rfl) (fun _ _ _ h => h) (Or.inl ⟨by kernel_rfl, ?_⟩) (by assumption) ?_; rotate_left; (intro w hSw; (try dsimp only at hSw); go_simp; try with_reducible rfl); try simp only [Act.put, List.setIfInBounds_toArray, List.set_cons_zero, List.set_cons_succ]
                                  refine wpAnyH_take (i := 33) (oi := ⟨some _, _, _, _, _, _⟩) (v := ?_) rfl (by kernel_rfl) (by kernel_rfl) (by kernel_rfl) (fun _ _ _ h => h) (Or.inl ⟨by kernel_rfl, ?_⟩) (by assumption) ?_; rotate_left; (intro w hSw; (try dsimp only at hSw); go_simp; try with_reducible rfl); try simp only [Act.put, List.setIfInBounds_toArray, List.set_cons_zero, List.set_cons_succ]
                                  refine wpAnyH_ready (rs := [29]) (by kernel_rfl) (by simp) ?_
                                  refine AllReadyH.cons (o := ⟨_, _, _, _, _, _⟩) (by rfl) ?_ AllReadyH.nil
                                  intro K hK
                                  go_simp
                                  refine (HLY.out _ HOO0.out).mono ?_
                                  rintro e V1 ⟨rfl, o1⟩
                                  have HOO1 := Lib.hid (HOO0.out.trans o1)
                                  have HKK1 := Lib.hid (HK.out _ HOO1.out)
                                  clear o1 HKK0 HOO0 HLY
                                  go_wp2_with fail
                                  refine hK.out _ _ ?_ (fun hHeld => ?_)
                                  · (try dsimp only); exact HKK1.out
                                  clear hK K
                                  try simp only [Act.put, List.setIfInBounds_toArray, List.set_cons_zero, List.set_cons_succ]
                                  refine wpAnyH_ready (rs := [34]) (by kernel_rfl) (by simp) ?_
                                  refine AllReadyH.cons (o := ⟨_, _, _, _, _, _⟩) (by rfl) ?_ AllReadyH.nil
                                  intro K hK
                                  go_simp
                                  refine (HLZ.out _ HOO1.out).mono ?_
                                  rintro e V2 ⟨rfl, o2⟩
                                  have HOO2 := Lib.hid (HOO1.out.trans o2)
                                  have HKK2 := Lib.hid (HK.out _ HOO2.out)
                                  clear o2 HKK1 HOO1 HLZ
                                  go_wp2_with fail
                                  refine hK.out _ _ ?_ (fun hHeld => ?_)
                                  · (try dsimp only); exact HKK2.out
                                  clear hK K
                                  try simp only [Act.put, List.setIfInBounds_toArray, List.set_cons_zero, List.set_cons_succ]
                                  refine wpAnyH_take (i := 35) (oi := ⟨some _, _, _, _, _, _⟩) (v := ?_) rfl (by kernel_rfl) (by kernel_rfl) (by kernel_rfl) (fun _ _ _ h => h) (Or.inl ⟨by kernel_rfl, ?_⟩) (by assumption) ?_; rotate_left; (intro w hSw; (try dsimp only at hSw); go_simp; try with_reducible rfl); try simp only [Act.put, List.setIfInBounds_toArray, List.set_cons_zero, List.set_cons_succ]
                                  refine wpAnyH_take (i := 36) (oi := ⟨some _, _, _, _, _, _⟩) (v := ?_) rfl (by kernel_rfl) (by kernel_rfl) (by kernel_rfl) (fun _ _ _ h => h) (Or.inl ⟨by kernel_rfl, ?_⟩) (by assumption) ?_; rotate_left; (intro w hSw; (try dsimp only at hSw); go_simp; try with_reducible rfl); try simp only [Act.put, List.setIfInBounds_toArray, List.set_cons_zero, List.set_cons_succ]
                                  refine wpAnyH_done (by kernel_rfl) ?_ _
                                  go_wp2_with fail
                                  go_roundw
                                  case rel => exact ⟨i + 1, by omega, by go_num, Lib.hid (HW.out.trans HOO2.out)⟩
                                  case measure => simp [intOf]; omega
                            · have hend : ¬ ((i : Int) < (k : Int)) := by omega
                              have HAW := Lib.hid (fun w => awake_any w)
                              have HOF := Lib.hid (HO5.out.trans HW.out)
                              clear HO5 HW HSM5 HSY5 hi
                              go_wp2_with fail
                              refine (HAW.out _).mono ?_
                              rintro e w6 ⟨rfl, ho6⟩
                              have HOF2 := Lib.hid (HOF.out.trans ho6)
                              clear ho6 HOF
                              go_wp2_with fail
                              go_ret
                              exact ⟨rfl, HOF2.out⟩


theorem own : ownKnob Try.prog.godebug = none := by kernel_rfl
theorem laidOut : laidOutB Try.prog = true := by kernel_rfl

set_option maxRecDepth 100000 in
theorem lifted (os : Os) (started : os.Started) (H : Type) (enc : TypeId × Value → H) :
    ReturnsInHanded {} Try.checked os 5 .any (Rows.waveAllSpec.pre6 enc Try.prog Try.f5 Rows.waveAllRow.domain false) (Rows.waveAllSpec.post enc Try.prog Try.f5 false true false false) := by
  refine returnsInHanded_of_change (C := Try.checked) own started (by kernel_rfl) Try.func5
    (ChangeSpec.witness6 (enc := enc) (C := Try.checked) false ⟨#[], #[.slice none 0 0], []⟩ 8 (by kernel_rfl) (by kernel_rfl) (by kernel_rfl) (by kernel_rfl)) ?_
  intro W base args ds gs before hval0 hW hcnd _
  have hval : ∀ (j : Nat) t v, Try.f5.params[j]? = some t → args[j]? = some v → Value.okWide Try.prog W .any base t v := hval0
  have hW' := hW
  have hlt : ∀ p ∈ before, p.block < W.heap.size := fun p hp => hW'.lt p hp
  obtain ⟨p, q, hA0, hV, rfl, hfz, hnd⟩ := hW
  have hA : DataW.TrodAll enc Try.prog W 0 (fun _ => true) true Try.f5.params.toList args.toList ds p := hA0
  rw [Try.params5] at hA hval
  obtain ⟨v0, vs0, d0, ds0, p0, q0, hargs, rfl, rfl, h0, r0⟩ := trodAll_cons hA
  obtain ⟨rfl, rfl, rfl⟩ := trodAll_nil r0
  obtain rfl : args = #[v0] := by cases args; simp_all
  obtain ⟨rfl, rfl⟩ := trodVars_none hV
  obtain ⟨q0, n0, c0, L0, rfl, sn0, sc0, ss0⟩ := open_samples (hval 0 38 v0 rfl rfl) h0 (fun x hx => hlt x (by simp [hx]))
  refine (walk q0 n0 c0 L0 W ss0).mono fun e W' ⟨he, hg⟩ => ?_
  subst he
  exact ⟨_, rfl, law_done laidOut Try.underlying4 rfl (by kernel_rfl) rfl hW' rfl hg⟩

theorem over : Rows.waveAllRow.holds Try.pinned (OpenSpec.ofChange Rows.waveAllSpec) :=
  OpenClaim.holds_of_wide 5 Try.f5 rfl rfl rfl rfl rfl rfl rfl ⟨rfl, rfl, rfl, rfl, rfl⟩ rfl rfl rfl rfl rfl (by kernel_rfl) Try.func5 (by kernel_rfl)
    (of_decide_eq_true (by kernel_rfl)) (by unfold Func.isWrapper; first | (rw [if_pos (by decide +kernel)]; kernel_rfl) | (rw [if_neg (by decide +kernel)]; exact ⟨rfl, rfl⟩))
    (fun os started H enc _ => lifted os started H enc)

theorem proved : Rows.WaveAllSaid :=
  over
end Go.Proofs.Ytmdninfmidmmhaa.waveAll
