/- Where any place of a sample lies: wave.Unroll. -/
import Derived.Test.YtoicpkkcamejcaaWaveA
namespace Go.Proofs.Ytoicpkkcamejcaa
set_option linter.unusedVariables false
set_option maxRecDepth 100000
open Go.RowKit Go.ChangeShapes Go.WideShapes

def unrollI (n : Int) (lp : Bool) (a b v : Int) : Int := if v < 0 then -1 else if v < (if lp then b else n) then v else if lp = false ∨ a < 0 ∨ b ≤ a then -1 else a + (v - a) % (b - a)
set_option maxHeartbeats 2000000 in
theorem Unroll_any (s : ByteArray) (n r c : Int) (lp : Bool) (a b x y v : Int) (w : World) (h1 : v ≤ 9223372036854775807) :
    Calls Try.prog 11 #[metaV s n r c lp a b x y, .int .i64 v] w fun e w' => e = .returned (.int .i64 (unrollI n lp a b v)) ∧ Old w w' := by
  have HO := Lib.hid (Old.alloc w (.cells #[.string s, .int .i64 n, .int .i64 r, .int .i64 c, .bool lp, .int .i64 a, .int .i64 b, .int .i64 x, .int .i64 y] 28))
  unfold metaV
  by_cases hv : v < 0
  · rw [show unrollI n lp a b v = -1 by unfold unrollI; rw [if_pos hv]]
    clear h1
    cases lp
    all_goals
      go_enter Try.func11, Try.ntmps11
      go_wp2_with fail
      go_ret
      exact ⟨rfl, HO.out⟩
  have hv0 : 0 ≤ v := by omega
  cases lp
  · by_cases hn : v < n
    · rw [show unrollI n false a b v = v by unfold unrollI; rw [if_neg hv]; simp [hn]]
      clear hv
      go_enter Try.func11, Try.ntmps11
      go_wp2_with fail
      go_ret
      exact ⟨rfl, HO.out⟩
    · have hn' : n ≤ v := by omega
      rw [show unrollI n false a b v = -1 by unfold unrollI; rw [if_neg hv]; simp [hn]]
      clear hv hn
      go_enter Try.func11, Try.ntmps11
      go_wp2_with fail
      go_ret
      exact ⟨rfl, HO.out⟩
  · by_cases hn : v < b
    · rw [show unrollI n true a b v = v by unfold unrollI; rw [if_neg hv]; simp [hn]]
      clear hv
      go_enter Try.func11, Try.ntmps11
      go_wp2_with fail
      go_ret
      exact ⟨rfl, HO.out⟩
    have hn' : b ≤ v := by omega
    by_cases ha : a < 0
    · rw [show unrollI n true a b v = -1 by unfold unrollI; rw [if_neg hv]; simp [hn, ha]]
      clear hv hn
      go_enter Try.func11, Try.ntmps11
      go_wp2_with fail
      go_ret
      exact ⟨rfl, HO.out⟩
    have ha' : 0 ≤ a := by omega
    by_cases hb : b ≤ a
    · rw [show unrollI n true a b v = -1 by unfold unrollI; rw [if_neg hv]; simp [hn, hb]]
      clear hv hn ha
      go_enter Try.func11, Try.ntmps11
      go_wp2_with fail
      go_ret
      exact ⟨rfl, HO.out⟩
    have hb' : a < b := by omega
    rw [show unrollI n true a b v = a + (v - a) % (b - a) by unfold unrollI; rw [if_neg hv]; simp [hn, ha, hb]]
    obtain ⟨d, hd⟩ : ∃ d, v - a = d := ⟨_, rfl⟩
    obtain ⟨p, hp⟩ : ∃ p, b - a = p := ⟨_, rfl⟩
    obtain ⟨m, hm⟩ : ∃ m, d % p = m := ⟨_, rfl⟩
    have m0 : 0 ≤ m := by rw [← hm]; exact Int.emod_nonneg _ (by omega)
    have m1 : m < p := by rw [← hm]; exact Int.emod_lt_of_pos _ (by omega)
    have ht : d.tmod p = m := by rw [Int.tmod_eq_emod_of_nonneg (by omega)]; exact hm
    have e1 : wrap64 (v - a) = d := by rw [hd]; exact IntWalk.wrap64_in _ (by omega)
    have e2 : wrap64 (b - a) = p := by rw [hp]; exact IntWalk.wrap64_in _ (by omega)
    have e3 : wrap64 (d.tmod p) = m := by rw [ht]; exact IntWalk.wrap64_in _ (by omega)
    have e4 : wrap64 (a + m) = a + m := IntWalk.wrap64_in _ (by omega)
    have p0 : 0 < p := by omega
    have p1 : (p == 0) = false := by simp; omega
    have p2 : (p == -1) = false := by simp; omega
    have HE : Hid (wrap64 (a + (v - a) % (b - a)) = a + m) := Lib.hid (by rw [hd, hp, hm]; exact e4)
    rw [hd, hp, hm]
    clear hv hn ha hb hm ht hd hp e1 e2 e3 e4 p1 p2
    go_enter Try.func11, Try.ntmps11
    go_wp2_with fail
    go_quiet (fail)
    go_wp2_with fail
    go_ret
    exact ⟨ret_int HE.out, HO.out.drewN _⟩
end Go.Proofs.Ytoicpkkcamejcaa
