/- A place brought home: voice.Home. -/
import Derived.Test.YtoicpkkcamejcaaWaveA
import Derived.Test.YtoicpkkcamejcaaVoiceA
namespace Go.Proofs.Ytoicpkkcamejcaa
set_option linter.unusedVariables false
set_option maxRecDepth 100000
open Go.RowKit Go.ChangeShapes Go.WideShapes

/-- How many rounds are taken back. -/
def roundsI (a b v : Int) : Int := if b - a ≤ v / 4294967296 - b - 4 then (v / 4294967296 - b - 4) / (b - a) else 0
def homeI (lp : Bool) (a b v : Int) : Int := if lp = true then v - roundsI a b v * (b - a) * 4294967296 else v
theorem roundsI_bd {a b v : Int} (h0 : 0 ≤ a) (h1 : a < b) (h2 : 0 ≤ v) (h3 : v ≤ 4611686018427387904) :
    0 ≤ roundsI a b v ∧ roundsI a b v ≤ 1073741824 ∧ 0 ≤ roundsI a b v * (b - a) ∧ roundsI a b v * (b - a) ≤ 1073741824 ∧ (roundsI a b v ≠ 0 → roundsI a b v * (b - a) ≤ v / 4294967296 - b - 4) := by
  unfold roundsI
  split
  · rename_i h
    generalize hd : b - a = d at *
    generalize ho : v / 4294967296 - b - 4 = o at *
    have a1 : 1 ≤ o / d := Int.le_ediv_of_mul_le (by omega) (by omega)
    have a2 : o / d ≤ o := Int.ediv_le_self _ (by omega)
    have a3 : o / d * d ≤ o := Int.ediv_mul_le _ (by omega)
    have a4 : 0 ≤ o / d * d := Int.mul_nonneg (by omega) (by omega)
    omega
  · omega
set_option maxHeartbeats 2000000 in
theorem Home_no (s : ByteArray) (n r c : Int) (a b x y v : Int) (w : World) (ha : 0 ≤ a) (ha1 : a ≤ 1048576) (hb : 0 ≤ b) (hb1 : b ≤ 1048576) :
    Calls Try.prog 10 #[metaV s n r c false a b x y, .int .i64 v] w fun e w' => e = .returned (.int .i64 v) ∧ Old w w' := by
  have HO := Lib.hid (Old.alloc w (.cells #[.string s, .int .i64 n, .int .i64 r, .int .i64 c, .bool false, .int .i64 a, .int .i64 b, .int .i64 x, .int .i64 y] 28))
  unfold metaV
  go_enter Try.func10, Try.ntmps10
  go_wp2_with fail
  go_ret
  exact ⟨rfl, HO.out⟩
set_option maxHeartbeats 4000000 in
theorem Home_yes (s : ByteArray) (n r c : Int) (a b x y v : Int) (w : World) (ha : 0 ≤ a) (hb : a < b) (hb1 : b ≤ 1048576) (h2 : 0 ≤ v) (h3 : v ≤ 4611686018427387904) :
    Calls Try.prog 10 #[metaV s n r c true a b x y, .int .i64 v] w fun e w' => e = .returned (.int .i64 (homeI true a b v)) ∧ Old w w' := by
  have HO := Lib.hid (Old.alloc w (.cells #[.string s, .int .i64 n, .int .i64 r, .int .i64 c, .bool true, .int .i64 a, .int .i64 b, .int .i64 x, .int .i64 y] 28))
  unfold metaV
  obtain ⟨r0, r1, p0, p1, _⟩ := roundsI_bd ha hb h2 h3
  have HW := Lib.hid (fun w => vwhole_any v w h2 (by omega))
  obtain ⟨q, hq⟩ : ∃ q, v / 4294967296 = q := ⟨_, rfl⟩
  have q0 : 0 ≤ q := by omega
  have q1 : q ≤ 1073741824 := by omega
  have hh : homeI true a b v = v - roundsI a b v * (b - a) * 4294967296 := by unfold homeI; rw [if_pos rfl]
  rw [hh]
  rw [hq] at HW
  by_cases hle : b - a ≤ q - b - 4
  · have hr : roundsI a b v = (q - b - 4) / (b - a) := by unfold roundsI; rw [hq, if_pos hle]
    rw [hr] at p0 p1 r0 r1 ⊢
    obtain ⟨k, hk⟩ : ∃ k, (q - b - 4) / (b - a) = k := ⟨_, rfl⟩
    obtain ⟨p, hp⟩ : ∃ p, k * (b - a) = p := ⟨_, rfl⟩
    have e1 : wrap64 ((q - b - 4).tdiv (b - a)) = k := by rw [Int.tdiv_eq_ediv_of_nonneg (by omega), hk]; exact IntWalk.wrap64_in _ (by omega)
    have e2 : IntKind.i64.wrap ((q - b - 4).tdiv (b - a)) = k := by rw [Int.tdiv_eq_ediv_of_nonneg (by omega), hk]; exact IntWalk.i64_in _ (by omega)
    rw [hk] at r0 r1 p0 p1 ⊢
    rw [hp] at p0 p1 ⊢
    have e4 : wrap64 (k * (b - a)) = p := by rw [hp]; exact IntWalk.wrap64_in _ (by omega)
    have e5 : IntKind.i64.wrap (k * (b - a)) = p := by rw [hp]; exact IntWalk.i64_in _ (by omega)
    have k1 : 1 ≤ k := by rw [← hk]; exact Int.le_ediv_of_mul_le (by omega) (by omega)
    have HE : Hid (wrap64 (v - wrap64 (p * 4294967296)) = v - p * 4294967296) := Lib.hid (by rw [IntWalk.wrap64_in (p * 4294967296) (by omega)]; exact IntWalk.wrap64_in _ (by have := Int.mul_le_mul_of_nonneg_right (show p ≤ q - b - 4 by rw [← hp, ← hk]; exact Int.ediv_mul_le _ (by omega)) (show (0 : Int) ≤ 4294967296 by omega); omega))
    clear hh hr hk hp hq
    go_enter Try.func10, Try.ntmps10
    go_wp2_with fail
    go_quiet ((go_at_call 16; exact Calls.quiet_of_same ((HW.out _).mono fun _ _ hh => ⟨hh.1, hh.2.symm⟩)))
    go_wp2_with fail
    all_goals (go_ret; refine ⟨ret_int ?_, HO.out.drewN _⟩; first | exact HE.out | rfl | omega)
  · have hr : roundsI a b v = 0 := by unfold roundsI; rw [hq, if_neg hle]
    rw [hr]
    obtain ⟨k, hk⟩ : ∃ k, (q - b - 4).tdiv (b - a) = k := ⟨_, rfl⟩
    have hk1 : k ≤ 0 := by
      rw [← hk]
      by_cases h0 : 0 ≤ q - b - 4
      · rw [Int.tdiv_eq_ediv_of_nonneg h0, Int.ediv_eq_zero_of_lt h0 (by omega)]; omega
      · have e := Int.neg_tdiv (q - b - 4) (b - a)
        have h1 := Int.tdiv_nonneg (a := -(q - b - 4)) (b := b - a) (by omega) (by omega)
        omega
    have hk2 : -1048580 ≤ k := by
      rw [← hk]
      by_cases h0 : 0 ≤ q - b - 4
      · rw [Int.tdiv_eq_ediv_of_nonneg h0, Int.ediv_eq_zero_of_lt h0 (by omega)]; omega
      · have e := Int.neg_tdiv (q - b - 4) (b - a)
        rw [Int.tdiv_eq_ediv_of_nonneg (by omega)] at e
        have h1 : -(q - b - 4) / (b - a) ≤ -(q - b - 4) := Int.ediv_le_self _ (by omega)
        omega
    have e1 : wrap64 ((q - b - 4).tdiv (b - a)) = k := by rw [hk]; exact IntWalk.wrap64_in _ (by omega)
    have e2 : IntKind.i64.wrap ((q - b - 4).tdiv (b - a)) = k := by rw [hk]; exact IntWalk.i64_in _ (by omega)
    have hle' : q - b - 4 < b - a := by omega
    have hm : max 0 k = 0 := by omega
    clear hh hr hk hq hle p0 p1 r0 r1
    go_enter Try.func10, Try.ntmps10
    go_wp2_with fail
    go_quiet ((go_at_call 16; exact Calls.quiet_of_same ((HW.out _).mono fun _ _ hh => ⟨hh.1, hh.2.symm⟩)))
    go_wp2_with fail
    all_goals (go_ret; refine ⟨ret_int ?_, HO.out.drewN _⟩; first | rfl | (simp; done) | omega)
end Go.Proofs.Ytoicpkkcamejcaa
