/- CacheClean: without faults what a cache gives is the image, whatever its slots, and whatever was taken and let go (17.5). No condition. -/
import Derived.Test.YtooamkicmmgniaaRows
import Derived.Test.YtooamkicmmgniaaCleanP
import Derived.Deep.DeepCutAuto
import Derived.Deep.CutBlock
namespace Go.Proofs.Ytooamkicmmgniaa.cacheClean
open Go.ChangeShapes Go.WideShapes Go.ChangeAt Go.RowKit
set_option linter.unusedVariables false
set_option linter.unusedSimpArgs false

/-- The image, cut. -/
def B0 (w : World) (v : Value) (wx : World) : Prop := w = wx ∧ ∃ p m cap F, v = .slice p m cap ∧ SlU w p m F ∧ Byt F m ∧ m ≤ 500 ∧ m ≤ cap
set_option maxRecDepth 100000 in
set_option maxHeartbeats 8000000 in
theorem walk (xs : List Int) (p : Option Addr) (n cap : Nat) (sl a q : Int) (pq : Option Addr) (nq cq : Nat) (K G Nn Z : Nat → Int) (w : World) (hv : SlI w .u8 (.slice p n cap) xs) (hbt : ∀ x ∈ xs, 0 ≤ x ∧ x ≤ 255) (hcap : n ≤ cap) (hm : cap ≤ maxLen)
    (hop : SlOps w pq nq K G Nn Z) (hrg : ∀ i, i < nq → (-9223372036854775808 ≤ Nn i ∧ Nn i ≤ 9223372036854775807) ∧ (-9223372036854775808 ≤ G i ∧ G i ≤ 9223372036854775807) ∧ 0 ≤ Z i ∧ Z i ≤ 255) (hnq : nq ≤ 9223372036854775807) (ha : -9223372036854775808 ≤ a ∧ a ≤ 9223372036854775807) :
    Calls Try.prog 4 #[.slice p n cap, .int .i64 sl, .slice pq nq cq, .int .i64 a, .int .i64 q] w fun e w' => e = .returned (.bool true) ∧ Old w w' := by
  obtain ⟨hU, hl⟩ := hv.slU
  have HU := Lib.hid hU
  have HBy : Hid (Byt (fun j => xs.getD j 0) n) := Lib.hid fun j hj => hbt _ (by
    show xs.getD j 0 ∈ xs
    rw [List.getD_eq_getElem?_getD, List.getElem?_eq_getElem (by omega)]; exact List.getElem_mem _)
  have HOp := Lib.hid hop
  have HRg := Lib.hid hrg
  have HAb := Lib.hid ha
  generalize (fun j => xs.getD j 0) = F0 at HU HBy
  clear hv hbt hU hl hop hrg ha
  go_enter Try.func4, Try.ntmps4
  unfold maxLen at hm
  go_upto_if 22 with (fail)
  go_cut [0] (fun v0 wx => B0 w v0 wx)
  case first =>
    by_cases hlen : n ≤ 500
    · have hl31 : ¬ (500 : Int) < (n : Int) := by omega
      go_wp2_with fail
      go_meet
      exact ⟨rfl, p, n, cap, F0, rfl, HU.out, HBy.out, hlen, hcap⟩
    · obtain ⟨b, off, rfl, hb, hc⟩ := HU.out (by omega)
      have hv' : Hid (SlU w (some ⟨b, off, none⟩) 500 F0) := Lib.hid fun _ => ⟨b, off, rfl, hb, fun j hj => hc j (by omega)⟩
      clear hb hc
      go_wp2_with fail
      go_meet
      exact ⟨rfl, _, 500, cap, F0, rfl, hv'.out, fun j hj => HBy.out j (by omega), Nat.le_refl _, by omega⟩
  case rest =>
    obtain ⟨rfl, p, m, cap, F, rfl, hv, hbt, hm5, hmc⟩ := hcut
    have HV := Lib.hid hv
    have HB := Lib.hid hbt
    clear hv hbt HU HBy hcap hm
    by_cases hsl : sl < 1 ∨ 1024 < sl
    · have HMd := Lib.hid (made_bad p m cap F sl 0 w HV.out HB.out (by omega) hmc (by omega))
      by_cases hs1 : sl < 1
      · clear hsl
        go_wp2_with fail
        refine HMd.out.mono ?_
        rintro e w1 ⟨rfl, ho⟩
        have HO := Lib.hid ho
        clear ho HMd
        go_wp2_with fail
        refine (awake_any _).mono ?_
        rintro e w2 ⟨rfl, ho⟩
        have HO2 := Lib.hid (HO.out.trans ho)
        clear ho
        go_wp2_with fail
        go_ret
        exact ⟨rfl, HO2.out⟩
      · have hs2 : 1024 < sl := by omega
        clear hsl
        go_wp2_with fail
        refine HMd.out.mono ?_
        rintro e w1 ⟨rfl, ho⟩
        have HO := Lib.hid ho
        clear ho HMd
        go_wp2_with fail
        refine (awake_any _).mono ?_
        rintro e w2 ⟨rfl, ho⟩
        have HO2 := Lib.hid (HO.out.trans ho)
        clear ho
        go_wp2_with fail
        go_ret
        exact ⟨rfl, HO2.out⟩
    · obtain ⟨sn, rfl⟩ : ∃ sn : Nat, sl = sn := ⟨sl.toNat, by omega⟩
      have HMd := Lib.hid (made_ok p m cap F sn 0 w HV.out HB.out (by omega) hmc (by omega) (by omega) (by omega))
      clear hsl
      go_wp2_with fail
      refine HMd.out.mono ?_
      rintro e w1 ⟨z0, dm, rfl, hcd, _, ho⟩
      have HC : Hid (CleanR w w.heap.size z0 dm (pgs m) (padF m F) w1) := Lib.hid ⟨⟨_, _, hcd, fun i s hs => (by (have h0 : (none : Option Slt) = some s := hs); cases h0), ⟨fun _ => rfl, rfl, rfl⟩⟩, ho⟩
      have HI : Hid (Byt (padF m F) (pgs m * 64)) := Lib.hid fun j _ => by
        unfold padF
        split
        · exact HB.out j (by assumption)
        · omega
      obtain ⟨N, hN⟩ : ∃ N, N = pgs m := ⟨_, rfl⟩
      have HN := Lib.hid hN
      rw [← hN] at HC HI
      obtain ⟨I, hI⟩ : ∃ I, I = padF m F := ⟨_, rfl⟩
      have HIe := Lib.hid hI
      rw [← hI] at HC HI
      clear hcd ho HMd hN hI
      go_wp2_with fail
      go_loopw [13] (fun i wr => ∃ k : Nat, k ≤ nq ∧ k ≤ 60 ∧ i = .int .i64 k ∧ Hid (CleanR w w.heap.size z0 dm N I wr)) (fun i _ => 60 - (intOf i).toNat)
      case atStart => exact ⟨0, by omega, by omega, rfl, HC⟩
      case round =>
        obtain ⟨k, hk2, hk60, rfl, HR1⟩ := hrel
        clear HC
        go_upto_region 7 with (fail)
        go_cut [49] (fun v wx => v = .bool (decide (k < nq ∧ k < 60)) ∧ wr = wx)
        case first =>
          by_cases c1 : k < nq
          · by_cases c2 : k < 60
            · have a1 : (k : Int) < nq := by omega
              have a2 : (k : Int) < 60 := by omega
              go_wp2_with fail
              go_meet
              exact ⟨congrArg Value.bool (decide_eq_true ⟨c1, c2⟩).symm, rfl⟩
            · have a1 : (k : Int) < nq := by omega
              have a2 : ¬ (k : Int) < 60 := by omega
              go_wp2_with fail
              go_meet
              exact ⟨congrArg Value.bool (decide_eq_false (fun h => c2 h.2)).symm, rfl⟩
          · have a1 : ¬ (k : Int) < nq := by omega
            have d1 : decide ((k : Int) < nq) = false := decide_eq_false a1
            go_wp2_with fail
            go_meet
            exact ⟨congrArg Value.bool (decide_eq_false (fun h => c1 h.1)).symm, rfl⟩
        case rest =>
          obtain ⟨rfl, rfl⟩ := hcut
          by_cases hin : k < nq ∧ k < 60
          · rw [decide_eq_true hin]
            obtain ⟨bo, oo, hpo, hbo, hco⟩ := (HOp.out.old HR1.out.old) (by omega)
            obtain ⟨k0, k1, k2, k3⟩ := hco k hin.1
            have HRk := Lib.hid (HRg.out k hin.1)
            have hkn : (k : Int) < nq := by omega
            have hk0 : (0 : Int) ≤ k := by omega
            subst hpo
            generalize K k = kd at *
            generalize G k = pg at *
            generalize Nn k = n' at *
            generalize Z k = zz at *
            have HBx := Lib.hid (heap_alloc_new wr (.cells #[.int .i64 kd, .int .i64 pg, .int .i64 n', .int .u8 zz] 42))
            have HR2 : Hid (CleanR w w.heap.size z0 dm N I (wr.alloc (.cells #[.int .i64 kd, .int .i64 pg, .int .i64 n', .int .u8 zz] 42))) := Lib.hid (by
              obtain ⟨c, d, h1, h2, h3⟩ := HR1.out.ex
              exact ⟨⟨c, d, h1.old (Old.alloc _ _), h2, h3⟩, HR1.out.old.alloc' _⟩)
            have HSp := Lib.hid (HR2.out.span HI.out pg n' HRk.out.2.1)
            have HEv := Lib.hid (HR2.out.evict pg HRk.out.2.1)
            have HEm := Lib.hid HR2.out.empty
            clear hco hbo HR1 HR2
            by_cases hk3 : kd = 3
            · subst hk3
              go_wp2_with fail
              refine HEv.out.mono ?_
              rintro e w2 ⟨bb, rfl, hc2⟩
              have HC2 := Lib.hid hc2
              clear hc2 HEv HEm HSp
              go_wp2_with fail
              go_roundw
              case rel => exact ⟨k + 1, by omega, by omega, by go_num, HC2⟩
              case measure => simp [intOf]; omega
            · have q3 : (kd == 3) = false := by simp [hk3]
              by_cases hk4 : kd = 4
              · subst hk4
                clear hk3
                go_wp2_with fail
                refine HEm.out.mono ?_
                rintro e w2 ⟨rfl, hc2⟩
                have HC2 := Lib.hid hc2
                clear hc2 HEv HEm HSp
                go_wp2_with fail
                go_roundw
                case rel => exact ⟨k + 1, by omega, by omega, by go_num, HC2⟩
                case measure => simp [intOf]; omega
              · have q4 : (kd == 4) = false := by simp [hk4]
                clear hk3 hk4
                go_wp2_with fail
                refine HSp.out.mono ?_
                rintro e w2 ⟨hc2, hh⟩
                have HC2 := Lib.hid hc2
                clear hc2 HEv HEm HSp
                rcases hh with ⟨_, rfl⟩ | ⟨_, _, _, _, _, _, _, _, rfl, _, _, _, _⟩
                · go_wp2_with fail
                  go_roundw
                  case rel => exact ⟨k + 1, by omega, by omega, by go_num, HC2⟩
                  case measure => simp [intOf]; omega
                · go_wp2_with fail
                  go_roundw
                  case rel => exact ⟨k + 1, by omega, by omega, by go_num, HC2⟩
                  case measure => simp [intOf]; omega
          · rw [decide_eq_false hin]
            have HSp := Lib.hid (HR1.out.span HI.out a q HAb.out)
            clear hin hk2 hk60 HR1
            go_wp2_with fail
            refine HSp.out.mono ?_
            rintro e w2 ⟨hc2, hh⟩
            have HC2 := Lib.hid hc2
            clear hc2 HSp
            have hNm : N = (m + 63) / 64 := HN.out
            have tq : ((m : Int) + 63) / 64 = (N : Int) := by omega
            have hN8 : N ≤ 8 := by omega
            have HNm := Lib.hid hNm
            have HO2 := Lib.hid HC2.out.old
            clear hNm HC2
            rcases hh with ⟨ho, rfl⟩ | ⟨a', n', pb, cb, B, rfl, rfl, hle, rfl, h1, h2, h3, h4⟩
            · by_cases c1 : a < 0
              · clear ho
                go_wp2_with fail
                refine (awake_any _).mono ?_
                rintro e w3 ⟨rfl, ho3⟩
                have HF := Lib.hid (HO2.out.trans ho3)
                clear ho3
                go_wp2_with fail
                go_ret
                exact ⟨rfl, HF.out⟩
              by_cases c2 : q < 0
              · clear ho
                go_wp2_with fail
                refine (awake_any _).mono ?_
                rintro e w3 ⟨rfl, ho3⟩
                have HF := Lib.hid (HO2.out.trans ho3)
                clear ho3
                go_wp2_with fail
                go_ret
                exact ⟨rfl, HF.out⟩
              by_cases c3 : (N : Int) * 64 < a
              · clear ho
                go_wp2_with fail
                refine (awake_any _).mono ?_
                rintro e w3 ⟨rfl, ho3⟩
                have HF := Lib.hid (HO2.out.trans ho3)
                clear ho3
                go_wp2_with fail
                go_ret
                exact ⟨rfl, HF.out⟩
              have c4 : (N : Int) * 64 - a < q := by omega
              clear ho
              go_wp2_with fail
              refine (awake_any _).mono ?_
              rintro e w3 ⟨rfl, ho3⟩
              have HF := Lib.hid (HO2.out.trans ho3)
              clear ho3
              go_wp2_with fail
              go_ret
              exact ⟨rfl, HF.out⟩
            · have c1 : ¬ ((a' : Int) < 0) := by omega
              have c2 : ¬ ((n' : Int) < 0) := by omega
              have c3 : ¬ ((N : Int) * 64 < a') := by omega
              have c4 : ¬ ((N : Int) * 64 - a' < n') := by omega
              have hnb : n' ≤ 512 := by omega
              have hab : a' ≤ 512 := by omega
              have HB2 := Lib.hid (And.intro h3 h4)
              have HV2 := Lib.hid (HV.out.old HO2.out)
              clear h3 h4 hle
              go_wp2_with fail
              clear c1 c2 c3 c4 tq
              go_loopw [18] (fun i wr => ∃ j : Nat, j ≤ n' ∧ i = .int .i64 j ∧ wr = w2) (fun i _ => n' - (intOf i).toNat)
              case atStart => exact ⟨0, by omega, rfl, rfl⟩
              case round =>
                obtain ⟨j, hj, rfl, rfl⟩ := hrel
                by_cases hlt : j < n'
                · obtain ⟨gb, ob, rfl, hgb, hcb⟩ := HB2.out.1 (by omega)
                  have cb1 := hcb j hlt
                  rw [HB2.out.2 j hlt, HIe.out] at cb1
                  unfold padF at cb1
                  by_cases him : a' + j < m
                  · rw [if_pos him] at cb1
                    obtain ⟨gi, oi, rfl, hgi, hci⟩ := HV2.out (by omega)
                    have ci1 := hci (a' + j) him
                    obtain ⟨x, hx⟩ : ∃ x, x = F (a' + j) := ⟨_, rfl⟩
                    rw [← hx] at cb1 ci1
                    obtain ⟨i2, hi2⟩ : ∃ i2, i2 = a' + j := ⟨_, rfl⟩
                    rw [← hi2] at ci1
                    have him2 : (a' : Int) + j < m := by omega
                    have hxx : (x != x) = false := by simp
                    have hsum : (a' : Int) + j = i2 := by omega
                    have HS := Lib.hid hi2
                    have hi2m : i2 < m := by omega
                    clear hcb hci hx hi2
                    go_wp2_with fail
                    go_roundw
                    case rel => exact ⟨j + 1, by omega, by go_num, trivial⟩
                    case measure => simp [intOf]; omega
                  · rw [if_neg him] at cb1
                    have him2 : ¬ ((a' : Int) + j < m) := by omega
                    clear hcb
                    go_wp2_with fail
                    go_roundw
                    case rel => exact ⟨j + 1, by omega, by go_num, trivial⟩
                    case measure => simp [intOf]; omega
                · clear hj
                  go_wp2_with fail
                  refine (awake_any _).mono ?_
                  rintro e w3 ⟨rfl, ho3⟩
                  have HF := Lib.hid (HO2.out.trans ho3)
                  clear ho3
                  go_wp2_with fail
                  go_ret
                  exact ⟨rfl, HF.out⟩


theorem own : ownKnob Try.prog.godebug = none := by kernel_rfl
theorem laidOut : laidOutB Try.prog = true := by kernel_rfl

set_option maxRecDepth 100000 in
theorem lifted (os : Os) (started : os.Started) (H : Type) (enc : TypeId × Value → H) :
    ReturnsInHanded {} Try.checked os 4 .any (Rows.cacheCleanSpec.pre6 enc Try.prog Try.f4 Rows.cacheCleanRow.domain false) (Rows.cacheCleanSpec.post enc Try.prog Try.f4 false true false false) := by
  refine returnsInHanded_of_change (C := Try.checked) own started (by kernel_rfl) Try.func4
    (ChangeSpec.witness6 (enc := enc) (C := Try.checked) false ⟨#[], #[.slice none 0 0, .int .i64 0, .slice none 0 0, .int .i64 0, .int .i64 0], []⟩ 8 (by kernel_rfl) (by kernel_rfl) (by kernel_rfl) (by kernel_rfl)) ?_
  intro W base args ds gs before hval0 hW hcnd _
  have hval : ∀ (j : Nat) t v, Try.f4.params[j]? = some t → args[j]? = some v → Value.okWide Try.prog W .any base t v := hval0
  have hW' := hW
  have hlt : ∀ p ∈ before, p.block < W.heap.size := fun p hp => hW'.lt p hp
  obtain ⟨p, q, hA0, hV, rfl, hfz, hnd⟩ := hW
  have hA : DataW.TrodAll enc Try.prog W 0 (fun _ => true) true Try.f4.params.toList args.toList ds p := hA0
  rw [Try.params4] at hA hval
  obtain ⟨v0, vs0, d0, ds0, p0, q0, hargs, rfl, rfl, h0, r0⟩ := trodAll_cons hA
  obtain ⟨v1, vs1, d1, ds1, p1, q1, rfl, rfl, rfl, h1, r1⟩ := trodAll_cons r0
  obtain ⟨v2, vs2, d2, ds2, p2, q2, rfl, rfl, rfl, h2, r2⟩ := trodAll_cons r1
  obtain ⟨v3, vs3, d3, ds3, p3, q3, rfl, rfl, rfl, h3, r3⟩ := trodAll_cons r2
  obtain ⟨v4, vs4, d4, ds4, p4, q4, rfl, rfl, rfl, h4, r4⟩ := trodAll_cons r3
  obtain ⟨rfl, rfl, rfl⟩ := trodAll_nil r4
  obtain rfl : args = #[v0, v1, v2, v3, v4] := by cases args; simp_all
  obtain ⟨rfl, rfl⟩ := trodVars_none hV
  obtain ⟨s0, n0, c0, xs0, rfl, hs0, hn0, hc0, hw0⟩ := open_slI Try.underlying22 Try.underlying5 (by kernel_rfl) (hval 0 22 v0 rfl rfl) h0 (fun x hx => hlt x (by simp [hx]))
  obtain ⟨a1, rfl, _, _, w1⟩ := open_int Try.underlying3 (hval 1 3 v1 rfl rfl) h1
  obtain ⟨q2, n2, c2, K2, G2, N2, Z2, rfl, ho2, hr2, hl2⟩ := open_ops (hval 2 23 v2 rfl rfl) h2 (fun x hx => hlt x (by simp [hx]))
  obtain ⟨a3, rfl, _, _, w3⟩ := open_int Try.underlying3 (hval 3 3 v3 rfl rfl) h3
  obtain ⟨a4, rfl, _, _, w4⟩ := open_int Try.underlying3 (hval 4 3 v4 rfl rfl) h4
  refine (walk xs0 s0 n0 c0 a1 a3 a4 q2 n2 c2 K2 G2 N2 Z2 W hs0 (bytes_of hw0) hn0 hc0 ho2 hr2 hl2 (i64_of w3)).mono fun e W' ⟨he, hg⟩ => ?_
  subst he
  exact ⟨_, rfl, law_done laidOut Try.underlying4 rfl (by kernel_rfl) rfl hW' rfl hg⟩

theorem over : Rows.cacheCleanRow.holds Try.pinned (OpenSpec.ofChange Rows.cacheCleanSpec) :=
  OpenClaim.holds_of_wide 4 Try.f4 rfl rfl rfl rfl rfl rfl rfl ⟨rfl, rfl, rfl, rfl, rfl⟩ rfl rfl rfl rfl rfl (by kernel_rfl) Try.func4 (by kernel_rfl)
    (of_decide_eq_true (by kernel_rfl)) (by unfold Func.isWrapper; first | (rw [if_pos (by decide +kernel)]; kernel_rfl) | (rw [if_neg (by decide +kernel)]; exact ⟨rfl, rfl⟩))
    (fun os started H enc _ => lifted os started H enc)

theorem proved : Rows.CacheCleanSaid :=
  over
end Go.Proofs.Ytooamkicmmgniaa.cacheClean
