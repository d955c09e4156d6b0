/- LapBlocks: of any samples (the first 200 of them, held within 2^20) lap.Blocks tells blocks of 16, the last one filled up with noughts, as many as lap.Count tells, and lap.Samples the first so many of their numbers, whatever number is asked for (8.1), and the example of chapter 8 holds. No condition. -/
import Derived.Test.YtpdjdejlhjcicaaRows
import Derived.Test.YtpdjdejlhjcicaaFew
import Derived.Test.YtpdjdejlhjcicaaLapB
namespace Go.Proofs.Ytpdjdejlhjcicaa.lapBlocks
open Go.ChangeShapes Go.WideShapes Go.ChangeAt Go.RowKit
set_option linter.unusedVariables false

set_option maxRecDepth 100000 in
set_option maxHeartbeats 4000000 in
theorem walk (p : Option Addr) (n0 cap : Nat) (xs : List Int) (m : Int) (w : World) (hs : SlI w .i64 (.slice p n0 cap) xs) (hnc : n0 ≤ cap) (hcm : cap ≤ maxLen) (hx64 : ∀ x ∈ xs, -9223372036854775808 ≤ x ∧ x ≤ 9223372036854775807) (h1 : -9223372036854775808 ≤ m) (h2 : m ≤ 9223372036854775807) :
    Calls Try.prog 3 #[.slice p n0 cap, .int .i64 m] w fun e w' => e = .returned (.bool true) ∧ Old w w' := by
  unfold maxLen at hcm
  have hC := Lib.hid (few_any p n0 cap xs w hs (by omega) hx64)
  have HA := Lib.hid (fun w => awake_any w)
  clear hs hx64
  go_enter Try.func3, Try.ntmps3
  go_wp2_with fail
  refine hC.out.mono ?_
  rintro e w1 ⟨v, rfl, hv, ho⟩
  have hlen := fewL_len xs
  generalize fewL xs = ys at *
  have hsl := hv.sl
  clear hC hv
  obtain ⟨q, n, c, rfl, hm, _⟩ := hsl.shape
  have hn : n ≤ 200 := by omega
  have hB := Lib.hid (Blocks_any q n c ys w1 hsl (by omega))
  have HSL := Lib.hid hsl
  have HO := Lib.hid ho
  have HM := Lib.hid hm
  clear ho hsl hlen hm
  go_wp2_with fail
  refine hB.out.mono ?_
  rintro e w2 ⟨rfl, hc2, ho2⟩
  have HC2 := Lib.hid hc2
  have HSL2 := Lib.hid (HSL.out.old ho2)
  have HO2 := Lib.hid (HO.out.trans ho2)
  have hcount := Count_any n w2 (by omega) (by omega)
  rw [countI_cnt] at hcount
  obtain ⟨N, hN⟩ : ∃ N, N = cnt n := ⟨_, rfl⟩
  rw [← hN] at hcount HC2 ⊢
  have HN : Hid (N = (n + 15) / 16) := hN
  have hN2 : N ≤ 13 := by have := HN.out; omega
  have hS := Lib.hid (Samples_any (some ⟨w1.heap.size, 0, none⟩) N N m (fun j => ys.getD j 0) w2 (fun _ => ⟨w1.heap.size, 0, rfl, HC2.out.lt, fun j hj => by rw [Nat.zero_add]; exact HC2.out.cell j (by omega)⟩) (by omega) h1 h2)
  have HCt := Lib.hid hcount
  have q1 : wrap64 ((n : Int) + 15) = (n : Int) + 15 := IntWalk.wrap64_in _ (by omega)
  have q2 : wrap64 (((n : Int) + 15).tdiv 16) = N := by rw [tdiv_pos _ _ (by omega), IntWalk.wrap64_in _ (by omega)]; have := HN.out; omega
  have q3 : ((n : Int) + 15) / 16 = N := by have := HN.out; omega
  have q4 : wrap64 (16 * (N : Int)) = 16 * (N : Int) := IntWalk.wrap64_in _ (by omega)
  clear hc2 ho2 hN HSL HO hcount hB
  go_wp2_with fail
  refine HCt.out.mono ?_
  rintro e w3 ⟨rfl, rfl⟩
  go_wp2_with fail
  clear q1 q2 q3
  go_loop [6] (fun i => ∃ k : Nat, k ≤ N * 16 ∧ i = .int .i64 k) (fun i => N * 16 - (intOf i).toNat)
  case atStart => exact ⟨0, by omega, rfl⟩
  case round =>
    obtain ⟨k, hk, rfl⟩ := hrel
    by_cases h : k < N * 16
    · have e3 : (k : Int) < 16 * (N : Int) := by omega
      have hc0 := HC2.out.cell k h
      have hcell : w2.cell? ⟨w1.heap.size, k / 16 * 16 + k % 16, none⟩ = some (.int .i64 (ys.getD k 0)) := by rw [show k / 16 * 16 + k % 16 = k by omega]; exact hc0
      clear hc0
      by_cases hkn : k < n
      · obtain ⟨b1, o1, rfl, _, _, _, hc1⟩ := HSL2.out.cellAt.2 (by omega)
        have k1 := hc1 k hkn
        clear hc1 HSL2 HC2 hS HCt HN HM HO2
        generalize ys.getD k 0 = x at *
        go_wp2_with fail
        go_round
        case rel => exact ⟨k + 1, by omega, by go_num⟩
        case measure => simp [intOf]; omega
      · have hz : ys.getD k 0 = 0 := by rw [List.getD_eq_getElem?_getD, List.getElem?_eq_none (by have := HM.out; omega)]; rfl
        rw [hz] at hcell
        clear HSL2 HC2 hS HCt HN HM HO2 hz
        go_wp2_with fail
        go_round
        case rel => exact ⟨k + 1, by omega, by go_num⟩
        case measure => simp [intOf]; omega
    · obtain rfl : k = N * 16 := by omega
      have e3 : ¬ ((N * 16 : Nat) : Int) < 16 * (N : Int) := by omega
      have hLle := samN_le N m
      have hcase : (m < 0 ∧ samN N m = 0) ∨ (0 ≤ m ∧ 16 * (N : Int) < m ∧ ((samN N m : Nat) : Int) = 16 * (N : Int)) ∨ (0 ≤ m ∧ m ≤ 16 * (N : Int) ∧ m = (samN N m : Nat)) := by unfold samN; omega
      generalize samN N m = L at *
      clear HSL2 HCt HN HM
      rcases hcase with ⟨c1, c2⟩ | ⟨c1, c3, c2⟩ | ⟨c1, c3, c2⟩
      · subst c2
        go_wp2_with fail
        refine hS.out.mono ?_
        rintro e w4 ⟨rfl, hc4, ho4⟩
        have HC3 := Lib.hid (HC2.out.old ho4)
        have HC4 := Lib.hid hc4
        have HO4 := Lib.hid (HO2.out.trans ho4)
        clear HC2 hc4 ho4 HO2 hS
        go_wp2_with fail
        go_loopw [10] (fun i wr => ∃ k : Nat, k ≤ 0 ∧ i = .int .i64 k ∧ ∃ d, wr = w4.drewN d) (fun i _ => 0 - (intOf i).toNat)
        case atStart => exact ⟨0, by omega, rfl, 0, rfl⟩
        case round =>
          obtain ⟨k, hk, rfl, d, rfl⟩ := hrel
          by_cases h : k < 0
          · exact absurd h (by omega)
          · obtain rfl : k = 0 := by omega
            have HO5 := Lib.hid (HO4.out.drewN d)
            clear HC3 HC4 HO4
            go_wp2_with fail
            refine (HA.out _).mono ?_
            rintro e w5 ⟨rfl, rfl⟩
            go_wp2
            go_ret
            exact ⟨rfl, HO5.out⟩
      · have c4 : ¬ (L : Int) < 0 := by omega
        go_wp2_with fail
        refine hS.out.mono ?_
        rintro e w4 ⟨rfl, hc4, ho4⟩
        have HC3 := Lib.hid (HC2.out.old ho4)
        have HC4 := Lib.hid hc4
        have HO4 := Lib.hid (HO2.out.trans ho4)
        clear HC2 hc4 ho4 HO2 hS
        go_wp2_with fail
        go_loopw [10] (fun i wr => ∃ k : Nat, k ≤ L ∧ i = .int .i64 k ∧ ∃ d, wr = w4.drewN d) (fun i _ => L - (intOf i).toNat)
        case atStart => exact ⟨0, by omega, rfl, 0, rfl⟩
        case round =>
          obtain ⟨k, hk, rfl, d, rfl⟩ := hrel
          by_cases h : k < L
          · have k1 := HC4.out.cell k h
            have k2 : w4.cell? ⟨w1.heap.size, k / 16 * 16 + k % 16, none⟩ = some (.int .i64 (ys.getD k 0)) := by rw [show k / 16 * 16 + k % 16 = k by omega]; exact HC3.out.cell k (by omega)
            have e4 : k / 16 < N := by omega
            have e5 : k % 16 < 16 := by omega
            clear HC3 HC4 HO4
            generalize ys.getD k 0 = x at *
            go_wp2_with fail
            go_quiet (fail)
            go_wp2_with fail
            go_roundw
            case rel => exact ⟨k + 1, by omega, by go_num, _, rfl⟩
            case measure => simp [intOf]; omega
          · obtain rfl : k = L := by omega
            have HO5 := Lib.hid (HO4.out.drewN d)
            clear HC3 HC4 HO4
            go_wp2_with fail
            refine (HA.out _).mono ?_
            rintro e w5 ⟨rfl, rfl⟩
            go_wp2
            go_ret
            exact ⟨rfl, HO5.out⟩
      · subst c2
        go_wp2_with fail
        refine hS.out.mono ?_
        rintro e w4 ⟨rfl, hc4, ho4⟩
        have HC3 := Lib.hid (HC2.out.old ho4)
        have HC4 := Lib.hid hc4
        have HO4 := Lib.hid (HO2.out.trans ho4)
        clear HC2 hc4 ho4 HO2 hS
        go_wp2_with fail
        go_loopw [10] (fun i wr => ∃ k : Nat, k ≤ L ∧ i = .int .i64 k ∧ ∃ d, wr = w4.drewN d) (fun i _ => L - (intOf i).toNat)
        case atStart => exact ⟨0, by omega, rfl, 0, rfl⟩
        case round =>
          obtain ⟨k, hk, rfl, d, rfl⟩ := hrel
          by_cases h : k < L
          · have k1 := HC4.out.cell k h
            have k2 : w4.cell? ⟨w1.heap.size, k / 16 * 16 + k % 16, none⟩ = some (.int .i64 (ys.getD k 0)) := by rw [show k / 16 * 16 + k % 16 = k by omega]; exact HC3.out.cell k (by omega)
            have e4 : k / 16 < N := by omega
            have e5 : k % 16 < 16 := by omega
            clear HC3 HC4 HO4
            generalize ys.getD k 0 = x at *
            go_wp2_with fail
            go_quiet (fail)
            go_wp2_with fail
            go_roundw
            case rel => exact ⟨k + 1, by omega, by go_num, _, rfl⟩
            case measure => simp [intOf]; omega
          · obtain rfl : k = L := by omega
            have HO5 := Lib.hid (HO4.out.drewN d)
            clear HC3 HC4 HO4
            go_wp2_with fail
            refine (HA.out _).mono ?_
            rintro e w5 ⟨rfl, rfl⟩
            go_wp2
            go_ret
            exact ⟨rfl, HO5.out⟩

theorem own : ownKnob Try.prog.godebug = none := by kernel_rfl
theorem laidOut : laidOutB Try.prog = true := by kernel_rfl

set_option maxRecDepth 100000 in
theorem lifted (os : Os) (started : os.Started) (H : Type) (enc : TypeId × Value → H) :
    ReturnsInHanded {} Try.checked os 3 .any (Rows.lapBlocksSpec.pre6 enc Try.prog Try.f3 Rows.lapBlocksRow.domain false) (Rows.lapBlocksSpec.post enc Try.prog Try.f3 false true false false) := by
  refine returnsInHanded_of_change (C := Try.checked) own started (by kernel_rfl) Try.func3
    (ChangeSpec.witness6 (enc := enc) (C := Try.checked) false ⟨#[], #[.slice none 0 0, .int .i64 0], []⟩ 8 (by kernel_rfl) (by kernel_rfl) (by kernel_rfl) (by kernel_rfl)) ?_
  intro W base args ds gs before hval0 hW hcnd _
  have hval : ∀ (j : Nat) t v, Try.f3.params[j]? = some t → args[j]? = some v → Value.okWide Try.prog W .any base t v := hval0
  have hW' := hW
  have hlt : ∀ p ∈ before, p.block < W.heap.size := fun p hp => hW'.lt p hp
  obtain ⟨p, q, hA0, hV, rfl, hfz, hnd⟩ := hW
  have hA : DataW.TrodAll enc Try.prog W 0 (fun _ => true) true Try.f3.params.toList args.toList ds p := hA0
  rw [Try.params3] at hA hval
  obtain ⟨v0, vs0, d0, ds0, p0, q0, hargs, rfl, rfl, h0, r0⟩ := trodAll_cons hA
  obtain ⟨v1, vs1, d1, ds1, p1, q1, rfl, rfl, rfl, h1, r1⟩ := trodAll_cons r0
  obtain ⟨rfl, rfl, rfl⟩ := trodAll_nil r1
  obtain rfl : args = #[v0, v1] := by cases args; simp_all
  obtain ⟨rfl, rfl⟩ := trodVars_none hV
  obtain ⟨s0, n0, c0, xs0, rfl, hs0, hn0, hc0, hw0⟩ := open_slI Try.underlying22 Try.underlying2 (by kernel_rfl) (hval 0 22 v0 rfl rfl) h0 (fun x hx => hlt x (by simp [hx]))
  obtain ⟨a1, rfl, _, _, w1⟩ := open_int Try.underlying3 (hval 1 3 v1 rfl rfl) h1
  refine (walk s0 n0 c0 xs0 a1 W hs0 hn0 hc0 (fun x hx => i64_of (hw0 x hx)) (i64_of w1).1 (i64_of w1).2).mono fun e W' ⟨he, hg⟩ => ?_
  subst he
  exact ⟨_, rfl, law_done laidOut Try.underlying4 rfl (by kernel_rfl) rfl hW' rfl hg⟩

theorem over : Rows.lapBlocksRow.holds Try.pinned (OpenSpec.ofChange Rows.lapBlocksSpec) :=
  OpenClaim.holds_of_wide 3 Try.f3 rfl rfl rfl rfl rfl rfl rfl ⟨rfl, rfl, rfl, rfl, rfl⟩ rfl rfl rfl rfl rfl (by kernel_rfl) Try.func3 (by kernel_rfl)
    (of_decide_eq_true (by kernel_rfl)) (by unfold Func.isWrapper; first | (rw [if_pos (by decide +kernel)]; kernel_rfl) | (rw [if_neg (by decide +kernel)]; exact ⟨rfl, rfl⟩))
    (fun os started H enc _ => lifted os started H enc)

theorem proved : Rows.LapBlocksSaid :=
  over
end Go.Proofs.Ytpdjdejlhjcicaa.lapBlocks
