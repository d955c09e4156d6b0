/- The law's own check of a sample. -/
import Derived.Test.YtmdninfmidmmhaaWaveD
import Derived.Test.YtmdninfmidmmhaaAwake
namespace Go.Proofs.Ytmdninfmidmmhaa
set_option linter.unusedVariables false
set_option maxRecDepth 100000
set_option linter.unusedSimpArgs false
open Go.RowKit Go.ChangeShapes Go.WideShapes

theorem wrongI_name {s : ByteArray} {n r c : Int} {lp : Bool} {a b : Int} (h : nameB s = false) : wrongI s n r c lp a b = 10 := by unfold wrongI; rw [if_pos h]
theorem wrongI_rate {s : ByteArray} {n r c : Int} {lp : Bool} {a b : Int} (h : nameB s = true) (h1 : r < 1 ∨ 192000 < r) : wrongI s n r c lp a b = 14 := by unfold wrongI; rw [if_neg (by rw [h]; simp), if_pos h1]
theorem wrongI_size {s : ByteArray} {n r c : Int} {lp : Bool} {a b : Int} (h : nameB s = true) (h1 : 1 ≤ r ∧ r ≤ 192000) (h2 : (c < 1 ∨ 2 < c) ∨ n < 1 ∨ 1048576 < n) : wrongI s n r c lp a b = 12 := by unfold wrongI; rw [if_neg (by rw [h]; simp), if_neg (by omega), if_pos h2]
theorem wrongI_loop {s : ByteArray} {n r c : Int} {lp : Bool} {a b : Int} (h : nameB s = true) (h1 : 1 ≤ r ∧ r ≤ 192000) (h2 : 1 ≤ c ∧ c ≤ 2) (h3 : 1 ≤ n ∧ n ≤ 1048576) (h4 : ¬ loopP lp a b n) : wrongI s n r c lp a b = 13 := by unfold wrongI; rw [if_neg (by rw [h]; simp), if_neg (by omega), if_neg (by omega), if_neg h4]
theorem wrongI_zero {s : ByteArray} {n r c : Int} {lp : Bool} {a b : Int} (h : nameB s = true) (h1 : 1 ≤ r ∧ r ≤ 192000) (h2 : 1 ≤ c ∧ c ≤ 2) (h3 : 1 ≤ n ∧ n ≤ 1048576) (h4 : loopP lp a b n) : wrongI s n r c lp a b = 0 := by unfold wrongI; rw [if_neg (by rw [h]; simp), if_neg (by omega), if_neg (by omega), if_pos h4]
theorem Smp.check_eq {S : Smp} {v : Int} (h : wrongI S.s S.len S.r S.n S.lp S.a S.b = v) (h0 : v ≠ 0) : S.check = v := by rw [Smp.check_wrong (by omega), h]
set_option maxHeartbeats 8000000 in
theorem lawCheck_any (S : Smp) (w : World) (hs : SmOk w S) (hf : SmFew S) :
    Calls Try.prog 7 #[S.val] w fun e w' => e = .returned (.int .i64 S.check) ∧ Old w w' := by
  have ho := Old.alloc w (.cells S.cells 24)
  have HO := Lib.hid ho
  obtain ⟨c0, c1, c2, c3, c4, c5⟩ := (SmB.new w S).at
  have HOK := Lib.hid (hs.old ho)
  have HF := Lib.hid hf
  have HN := Lib.hid (fun w => lawName_any S.s w hs.size)
  have HL := Lib.hid (fun n w => lawLoop_any S.lp S.a S.b n w)
  unfold Smp.val
  clear hs hf ho
  generalize hW : w.alloc (.cells S.cells 24) = W at *
  unfold Smp.cells at hW
  have HW := Lib.hid hW
  generalize hgb : w.heap.size = gb at *
  have HGB := Lib.hid hgb
  clear hW hgb
  unfold Smp.cells
  go_enter Try.func7, Try.ntmps7
  go_wp2_with (rw [HW.out, HGB.out])
  refine (HN.out _).mono ?_
  rintro e w1 ⟨rfl, rfl⟩
  clear HN
  cases hq : nameB S.s
  · have HC := Lib.hid (Smp.check_eq (S := S) (wrongI_name hq) (by omega))
    clear hq
    go_wp2_with fail
    go_ret
    exact ⟨ret_int HC.out.symm, HO.out⟩
  have HQ := Lib.hid hq
  clear hq
  by_cases r1 : S.r < 1
  · have HC := Lib.hid (Smp.check_eq (S := S) (wrongI_rate HQ.out (.inl r1)) (by omega))
    go_wp2_with fail
    go_ret
    exact ⟨ret_int HC.out.symm, HO.out⟩
  by_cases r2 : 192000 < S.r
  · have HC := Lib.hid (Smp.check_eq (S := S) (wrongI_rate HQ.out (.inr r2)) (by omega))
    go_wp2_with fail
    go_ret
    exact ⟨ret_int HC.out.symm, HO.out⟩
  have HR := Lib.hid (show 1 ≤ S.r ∧ S.r ≤ 192000 by omega)
  obtain ⟨n, hn⟩ : ∃ n, n = S.n := ⟨_, rfl⟩
  rw [← hn] at c5
  have HN := Lib.hid hn
  by_cases n1 : n < 1
  · have HC := Lib.hid (Smp.check_eq (S := S) (wrongI_size HQ.out HR.out (.inl (.inl (by omega)))) (by omega))
    have d : decide ((n : Int) < 1) = true := decide_eq_true (by omega)
    clear hn
    go_wp2_with fail
    go_ret
    exact ⟨ret_int HC.out.symm, HO.out⟩
  have d1 : decide ((n : Int) < 1) = false := decide_eq_false (by omega)
  by_cases n2 : 2 < n
  · have HC := Lib.hid (Smp.check_eq (S := S) (wrongI_size HQ.out HR.out (.inl (.inr (by omega)))) (by omega))
    have d : decide (2 < (n : Int)) = true := decide_eq_true (by omega)
    clear hn
    go_wp2_with fail
    go_ret
    exact ⟨ret_int HC.out.symm, HO.out⟩
  have d2 : decide (2 < (n : Int)) = false := decide_eq_false (by omega)
  have hl : S.len = (S.M 0 : Int) := by unfold Smp.len; rw [if_neg (by omega)]
  obtain ⟨g, o, hp, hg, hc⟩ := HOK.out.rows.cell (by omega)
  have HCL : Hid (∀ i, i < n → W.cell? ⟨g, o + i, none⟩ = some (.slice (S.Q i) (S.M i) (S.C i))) := Lib.hid (by rw [hn]; exact hc)
  have HM := Lib.hid (show ∀ i, i < n → S.M i ≤ 150 by rw [hn]; exact HF.out.m)
  have k0 := HCL.out 0 (by omega)
  rw [Nat.add_zero] at k0
  rw [hp] at c5
  have HLEN := Lib.hid hl
  have b0 : (0 : Int) < n := by omega
  clear hp hc hn HF hl
  by_cases m1 : S.M 0 < 1
  · have HC := Lib.hid (Smp.check_eq (S := S) (wrongI_size HQ.out HR.out (.inr (.inl (by have := HLEN.out; omega)))) (by omega))
    have d : decide ((S.M 0 : Int) < 1) = true := decide_eq_true (by omega)
    go_wp2_with fail
    go_ret
    exact ⟨ret_int HC.out.symm, HO.out⟩
  have d3 : decide ((S.M 0 : Int) < 1) = false := decide_eq_false (by omega)
  have hm0 := HM.out 0 (by omega)
  go_wp2_with fail
  refine (HL.out _ _).mono ?_
  rintro e w1 ⟨rfl, rfl⟩
  clear HL
  by_cases hlp : loopP S.lp S.a S.b (S.M 0 : Int)
  case neg =>
    have HC := Lib.hid (Smp.check_eq (S := S) (wrongI_loop HQ.out HR.out (by have := HN.out; omega) (by have := HLEN.out; omega) (by rw [HLEN.out]; exact hlp)) (by omega))
    rw [decide_eq_false hlp]
    clear hlp
    go_wp2_with fail
    go_ret
    exact ⟨ret_int HC.out.symm, HO.out⟩
  have HZ := Lib.hid (wrongI_zero (s := S.s) (n := S.len) (r := S.r) (c := (S.n : Int)) (lp := S.lp) (a := S.a) (b := S.b) HQ.out HR.out (by have := HN.out; omega) (by have := HLEN.out; omega) (by rw [HLEN.out]; exact hlp))
  rw [decide_eq_true hlp]
  clear hlp HQ HR r1 r2
  have hodd : (n = 2 ∧ S.M 1 ≠ S.M 0) ∨ (∀ j, j < n → S.M j = S.M 0) := by
    by_cases h : n = 2 ∧ S.M 1 ≠ S.M 0
    · exact .inl h
    · refine .inr fun j hj => ?_
      by_cases e : j = 0
      · rw [e]
      · obtain rfl : j = 1 := by omega
        by_cases e2 : S.M 1 = S.M 0
        · exact e2
        · exact absurd ⟨by omega, e2⟩ h
  rcases hodd with ⟨h2, hne⟩ | hev
  · have HC := Lib.hid (Smp.check_odd HZ.out ⟨1, by have := HN.out; omega, hne⟩)
    have k1 := HCL.out 1 (by omega)
    have q : ((S.M 1 : Int) != (S.M 0 : Int)) = true := by simp only [bne_iff_ne, ne_eq]; omega
    subst h2
    clear hne
    go_wp2_with fail
    go_ret
    exact ⟨ret_int HC.out.symm, HO.out⟩
  have HEV := Lib.hid hev
  have HNO : Hid (¬ S.odd) := Lib.hid (fun ⟨j, h1, h2⟩ => h2 (hev j (by have := HN.out; omega)))
  clear hev
  obtain ⟨N, hN⟩ : ∃ N, N = S.M 0 := ⟨_, rfl⟩
  rw [← hN] at k0 d3 m1 hm0 HEV ⊢
  clear hN
  have hrest : Hid (n = 1 ∨ (n = 2 ∧ W.cell? ⟨g, o + 1, none⟩ = some (.slice (S.Q 1) N (S.C 1)))) := Lib.hid (by
    by_cases e : n = 1
    · exact .inl e
    · refine .inr ⟨by omega, ?_⟩
      rw [HCL.out 1 (by omega), HEV.out 1 (by omega)])
  have q2 : ((N : Int) != (N : Int)) = false := by simp
  have n3 : n ≤ 2 := by omega
  have w1 : ∃ b, ((n : Int) == 2) = b := ⟨_, rfl⟩
  rcases hrest.out with e | ⟨e, k1⟩
  all_goals (first | (have dn : ((n : Int) == 2) = false := (by rw [e]; rfl)) | (have dn : ((n : Int) == 2) = true := (by rw [e]; rfl); have b1 : (1 : Int) < n := (by omega)))
  all_goals
    clear hrest k0 d1 d2 d3 n1 n2 e w1
    go_wp2_with fail
    clear dn q2
    go_loop [4] (fun i => ∃ k : Nat, k ≤ n ∧ i = .int .i64 k ∧ Hid (∀ j, j < k → ¬ farP (S.M j) (S.X j))) (fun i => n - (intOf i).toNat)
    case atStart => exact ⟨0, by omega, rfl, Lib.hid fun j hj => by omega⟩
    case round =>
      obtain ⟨k, hk, rfl, HJ⟩ := hrel
      by_cases hkn : k < n
      · have ck := HCL.out k hkn
        have hr := HOK.out.row k (by have := HN.out; omega)
        have hM := HEV.out k hkn
        rw [hM] at ck hr
        obtain ⟨g2, o2, hQ, hg2, hX⟩ := hr (by omega)
        rw [hQ] at ck
        have HX := Lib.hid hX
        clear hX hr hQ hg2
        have HKM := Lib.hid hM
        clear hM
        go_wp2_with fail
        go_loop [5] (fun i => ∃ j : Nat, j ≤ N ∧ i = .int .i64 j ∧ Hid (∀ m, m < j → beyB (S.X k m) = false)) (fun i => N - (intOf i).toNat)
        case atStart => exact ⟨0, by omega, rfl, Lib.hid fun j hj => by omega⟩
        case round =>
          obtain ⟨j, hj, rfl, HJ2⟩ := hrel
          by_cases hjn : j < N
          · have cx := HX.out j hjn
            by_cases f1 : S.X k j < -32768
            · have hck := Smp.check_far HZ.out HNO.out ⟨k, by have := HN.out; omega, j, by rw [HKM.out]; exact hjn, .inl f1⟩
              have HCK := Lib.hid hck
              clear HJ HJ2 hck
              go_wp2_with fail
              go_ret
              exact ⟨ret_int HCK.out.symm, HO.out⟩
            by_cases f2 : 32767 < S.X k j
            · have hck := Smp.check_far HZ.out HNO.out ⟨k, by have := HN.out; omega, j, by rw [HKM.out]; exact hjn, .inr f2⟩
              have HCK := Lib.hid hck
              clear HJ HJ2 hck
              go_wp2_with fail
              go_ret
              exact ⟨ret_int HCK.out.symm, HO.out⟩
            have HJ3 := Lib.hid (show ∀ m, m < j + 1 → beyB (S.X k m) = false from fun m hm => by
              by_cases e : m = j
              · subst e; unfold beyB; exact decide_eq_false (by omega)
              · exact HJ2.out m (by omega))
            clear HJ2
            go_wp2_with fail
            go_round
            case rel => exact ⟨j + 1, by omega, by go_num, HJ3⟩
            case measure => simp [intOf]; omega
          · have HJ3 := Lib.hid (show ∀ m, m < k + 1 → ¬ farP (S.M m) (S.X m) from fun m hm => by
              by_cases e : m = k
              · subst e
                rw [HKM.out]
                intro hf
                obtain ⟨q, h1, h2⟩ := (farP_iff _ _).1 hf
                rw [HJ2.out q (by omega)] at h2
                cases h2
              · exact HJ.out m (by omega))
            clear HJ HJ2
            go_wp2_with fail
            go_round
            case rel => exact ⟨k + 1, by omega, by go_num, HJ3⟩
            case measure => simp [intOf]; omega
      · have hck := Smp.check_ok HZ.out HNO.out fun ⟨m, h1, h2⟩ => HJ.out m (by have := HN.out; omega) h2
        have HCK := Lib.hid hck
        clear HJ hck
        go_wp2_with fail
        go_ret
        exact ⟨ret_int HCK.out.symm, HO.out⟩
end Go.Proofs.Ytmdninfmidmmhaa
