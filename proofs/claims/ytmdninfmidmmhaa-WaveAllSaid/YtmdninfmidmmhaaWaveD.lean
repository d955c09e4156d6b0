/- Package wave's contracts on samples, third part: Check. -/
import Derived.Test.YtmdninfmidmmhaaWaveC
namespace Go.Proofs.Ytmdninfmidmmhaa
set_option linter.unusedVariables false
set_option maxRecDepth 100000
set_option linter.unusedSimpArgs false
open Go.RowKit Go.ChangeShapes Go.WideShapes

theorem SmOk.row {w : World} {S : Smp} (h : SmOk w S) (i : Nat) (hi : i < S.n) : RdRow w (S.Q i) (S.M i) (S.X i) := (h.rows.row i hi).2.2
theorem wrongI_ok {s : ByteArray} {n r c : Int} {lp : Bool} {a b : Int} (h : wrongI s n r c lp a b = 0) : nameB s = true ∧ (1 ≤ r ∧ r ≤ 192000) ∧ (1 ≤ c ∧ c ≤ 2) ∧ (1 ≤ n ∧ n ≤ 1048576) ∧ loopP lp a b n := by
  unfold wrongI at h
  cases hn : nameB s
  · rw [hn, if_pos rfl] at h; omega
  rw [hn, if_neg (by simp)] at h
  by_cases h1 : r < 1 ∨ 192000 < r
  · rw [if_pos h1] at h; omega
  rw [if_neg h1] at h
  by_cases h2 : (c < 1 ∨ 2 < c) ∨ n < 1 ∨ 1048576 < n
  · rw [if_pos h2] at h; omega
  rw [if_neg h2] at h
  by_cases h3 : loopP lp a b n
  · exact ⟨rfl, by omega, by omega, by omega, h3⟩
  · rw [if_neg h3] at h; omega
theorem Smp.check_wrong {S : Smp} (h : wrongI S.s S.len S.r S.n S.lp S.a S.b ≠ 0) : S.check = wrongI S.s S.len S.r S.n S.lp S.a S.b := by unfold Smp.check; rw [if_pos h]
theorem Smp.check_odd {S : Smp} (h : wrongI S.s S.len S.r S.n S.lp S.a S.b = 0) (h2 : S.odd) : S.check = 12 := by unfold Smp.check; rw [if_neg (by omega), if_pos h2]
theorem Smp.check_far {S : Smp} (h : wrongI S.s S.len S.r S.n S.lp S.a S.b = 0) (h2 : ¬ S.odd) (h3 : S.far) : S.check = 5 := by unfold Smp.check; rw [if_neg (by omega), if_neg h2, if_pos h3]
theorem Smp.check_ok {S : Smp} (h : wrongI S.s S.len S.r S.n S.lp S.a S.b = 0) (h2 : ¬ S.odd) (h3 : ¬ S.far) : S.check = 0 := by unfold Smp.check; rw [if_neg (by omega), if_neg h2, if_neg h3]
set_option maxHeartbeats 4000000 in
theorem Check_any (S : Smp) (w : World) (hs : SmOk w S) :
    Calls Try.prog 9 #[S.val] w fun e w' => e = .returned (.int .i64 S.check) ∧ Old w w' := by
  have HO := Lib.hid (Old.alloc w (.cells S.cells 24))
  have HB := Lib.hid (SmB.new w S)
  obtain ⟨c0, c1, c2, c3, c4, c5⟩ := (SmB.new w S).at
  have HOK := Lib.hid hs
  have HM := Lib.hid (Meta_any S (w.alloc (.cells S.cells 24)) (hs.old (Old.alloc _ _)))
  have HWr : Hid (∀ w, Calls Try.prog 18 #[.agg (metaC S.s S.len S.r S.n S.lp S.a S.b)] w fun e w' => e = .returned (.int .i64 (wrongI S.s S.len S.r S.n S.lp S.a S.b)) ∧ Old w w') := Lib.hid (fun w => wrong_any S.s S.len S.r S.n S.lp S.a S.b 0 0 w hs.size)
  unfold Smp.val
  clear hs
  go_enter Try.func9, Try.ntmps9
  go_wp2_with fail
  refine HM.out.mono ?_
  rintro e w1 ⟨rfl, ho1⟩
  have HO1 := Lib.hid (HO.out.trans ho1)
  have HB1 := Lib.hid (HB.out.old ho1)
  clear HO HB HM ho1 c0 c1 c2 c3 c4 c5
  unfold metaC at *
  go_wp2_with fail
  refine (HWr.out _).mono ?_
  rintro e w2 ⟨rfl, ho2⟩
  obtain ⟨M, hM⟩ : ∃ M : Array Value, M = #[.string S.s, .int .i64 S.len, .int .i64 S.r, .int .i64 S.n, .bool S.lp, .int .i64 S.a, .int .i64 S.b, .int .i64 0, .int .i64 0] := ⟨_, rfl⟩
  have HM1 : Hid (M[1]? = some (.int .i64 S.len)) := Lib.hid (by rw [hM]; rfl)
  rw [← hM] at ho2
  clear hM
  have hg := lt_of_block HB1.out
  have cl : w2.cell? ⟨w1.heap.size, 1, none⟩ = some (.int .i64 S.len) := by
    have h1 : (w1.alloc (.cells M 29)).heap[w1.heap.size]? = some (.cells M 29 (0, 0)) := heap_alloc_new _ _
    exact (cell_of_row _ _ _ _ _ _ ((ho2.block _ (lt_of_block h1)).trans h1)).trans HM1.out
  have o12 := (Old.alloc w1 (.cells M 29)).trans ho2
  have HO2 := Lib.hid (HO1.out.trans o12)
  obtain ⟨_, _, _, _, _, c5⟩ := (HB1.out.old o12).at
  have HOK2 := Lib.hid (HOK.out.old HO2.out)
  clear HO1 HB1 HWr ho2 o12 HM1 hg HOK
  obtain ⟨v, hv⟩ : ∃ v, v = wrongI S.s S.len S.r S.n S.lp S.a S.b := ⟨_, rfl⟩
  rw [← hv]
  generalize w1.heap.size = mb at *
  by_cases h0 : v = 0
  case neg =>
    have hc := Smp.check_wrong (S := S) (by rw [← hv]; exact h0)
    rw [← hv] at hc
    have q : (v != 0) = true := by simpa using h0
    have HC := Lib.hid hc
    clear hc hv h0 HOK2 cl c5
    go_wp2_with fail
    go_ret
    exact ⟨ret_int HC.out.symm, HO2.out⟩
  rw [h0] at hv
  subst h0
  have HV := Lib.hid hv.symm
  have hok := wrongI_ok hv.symm
  have hn1 : 1 ≤ S.n := by have := hok.2.2.1; omega
  have hn2 : S.n ≤ 2 := by have := hok.2.2.1; omega
  have hl : S.len = (S.M 0 : Int) := by unfold Smp.len; rw [if_neg (by omega)]
  obtain ⟨g, o, hp, hg, hc⟩ := HOK2.out.rows.cell (by omega)
  obtain ⟨n, hn⟩ : ∃ n, n = S.n := ⟨_, rfl⟩
  have HC : Hid (∀ i, i < n → w2.cell? ⟨g, o + i, none⟩ = some (.slice (S.Q i) (S.M i) (S.C i))) := Lib.hid (by rw [hn]; exact hc)
  rw [hp, ← hn] at c5
  rw [← hn] at hn1 hn2
  have HN := Lib.hid hn
  clear hn
  rw [hl] at cl
  clear hv hok hl hc hp
  generalize S.c = cap at *
  go_wp2_with fail
  go_loop [19] (fun i => ∃ k : Nat, k ≤ n ∧ i = .int .i64 k ∧ Hid (∀ j, j < k → S.M j = S.M 0)) (fun i => n - (intOf i).toNat)
  case atStart => exact ⟨0, by omega, rfl, Lib.hid fun j hj => by omega⟩
  case round =>
    obtain ⟨k, hk, rfl, HJ⟩ := hrel
    by_cases hkn : k < n
    · have ck := HC.out k hkn
      by_cases hm : S.M k = S.M 0
      · have HJ2 := Lib.hid (show ∀ j, j < k + 1 → S.M j = S.M 0 from fun j hj => by
          by_cases e : j = k
          · subst e; exact hm
          · exact HJ.out j (by omega))
        have q : ((S.M k : Int) != (S.M 0 : Int)) = false := by rw [hm]; simp
        clear HJ hm
        go_wp2_with fail
        go_round
        case rel => exact ⟨k + 1, by omega, by go_num, HJ2⟩
        case measure => simp [intOf]; omega
      · have q : ((S.M k : Int) != (S.M 0 : Int)) = true := by simp only [bne_iff_ne, ne_eq]; omega
        have hck := Smp.check_odd HV.out ⟨k, by have := HN.out; omega, hm⟩
        have HCK := Lib.hid hck
        clear HJ hm hck
        go_wp2_with fail
        go_ret
        exact ⟨ret_int HCK.out.symm, HO2.out⟩
    · have hodd : ¬ S.odd := fun ⟨j, h1, h2⟩ => h2 (HJ.out j (by have := HN.out; omega))
      have HODD := Lib.hid hodd
      obtain rfl : k = n := by omega
      clear HJ hodd cl hkn hk
      go_wp2_with fail
      go_loop [32] (fun i => ∃ j : Nat, j ≤ k ∧ i = .int .i64 j ∧ Hid (∀ m, m < j → ¬ farP (S.M m) (S.X m))) (fun i => k - (intOf i).toNat)
      case atStart => exact ⟨0, by omega, rfl, Lib.hid fun j hj => by omega⟩
      case round =>
        obtain ⟨j, hj, rfl, HJ⟩ := hrel
        by_cases hjn : j < k
        · have ck := HC.out j hjn
          have hr := HOK2.out.row j (by have := HN.out; omega)
          have hrr := HOK2.out.rows.row j (by have := HN.out; omega)
          have HF := Lib.hid (ContainsBeyond_any (S.Q j) (S.M j) (S.C j) (S.X j) w2 hr (by have := hrr.1; have := hrr.2.1; unfold maxLen at *; omega))
          clear hr hrr
          go_wp2_with fail
          refine HF.out.mono ?_
          rintro e w3 ⟨⟨b, rfl, hbf⟩, rfl⟩
          clear HF
          cases b
          · have HJ2 := Lib.hid (show ∀ m, m < j + 1 → ¬ farP (S.M m) (S.X m) from fun m hm => by
              by_cases e : m = j
              · subst e; exact fun h => by have := hbf.2 h; cases this
              · exact HJ.out m (by omega))
            clear HJ hbf
            go_wp2_with fail
            go_round
            case rel => exact ⟨j + 1, by omega, by go_num, HJ2⟩
            case measure => simp [intOf]; omega
          · have hck := Smp.check_far HV.out HODD.out ⟨j, by have := HN.out; omega, hbf.1 rfl⟩
            have HCK := Lib.hid hck
            clear HJ hbf hck
            go_wp2_with fail
            go_ret
            exact ⟨ret_int HCK.out.symm, HO2.out⟩
        · have hck := Smp.check_ok HV.out HODD.out fun ⟨m, h1, h2⟩ => HJ.out m (by have := HN.out; omega) h2
          have HCK := Lib.hid hck
          clear HJ hck
          go_wp2_with fail
          go_ret
          exact ⟨ret_int HCK.out.symm, HO2.out⟩
end Go.Proofs.Ytmdninfmidmmhaa
