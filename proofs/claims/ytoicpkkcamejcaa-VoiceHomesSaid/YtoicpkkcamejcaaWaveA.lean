/- Package wave's contracts: names, loops, what may be, and where a place lies. -/
import Derived.Test.YtoicpkkcamejcaaWaveP
import Derived.Test.YtoicpkkcamejcaaArrI
namespace Go.Proofs.Ytoicpkkcamejcaa
set_option linter.unusedVariables false
set_option maxRecDepth 100000
open Go.RowKit Go.ChangeShapes Go.WideShapes

set_option maxHeartbeats 1000000 in
theorem IsName_any (s : ByteArray) (w : World) (hs : s.size ≤ 9223372036854775807) :
    Calls Try.prog 20 #[.string s] w fun e w' => e = .returned (.bool (nameB s)) ∧ Old w w' := by
  by_cases h0 : s.size = 0
  · rw [nameB_no (s := s) (fun h => by have := h.1.1; omega)]
    have HO := Lib.hid (Old.refl w)
    go_enter Try.func20, Try.ntmps20
    go_wp2
    go_ret
    exact ⟨rfl, HO.out⟩
  by_cases h1 : 32 < s.size
  · rw [nameB_no (s := s) (fun h => by have := h.1.2; omega)]
    have HO := Lib.hid (Old.refl w)
    go_enter Try.func20, Try.ntmps20
    go_wp2
    go_ret
    exact ⟨rfl, HO.out⟩
  obtain ⟨cap, w1, hconv, ho, hlt, hc⟩ := conv_bytes (P := Try.prog) w 9 45 5 s Try.underlying9 Try.underlying45 Try.underlying5
  generalize w.heap.size = g at *
  obtain ⟨N, hN⟩ : ∃ N, N = s.size := ⟨_, rfl⟩
  obtain ⟨r, hr⟩ : ∃ r, r = nameB s := ⟨_, rfl⟩
  have HG := Lib.hid (show ∀ k : Nat, k < N → ¬ (33 ≤ bsI s k ∧ bsI s k ≤ 126) → r = false from fun k hk h => by rw [hr]; exact nameB_no fun h' => h (h'.2 k (by omega)))
  have HY := Lib.hid (show (∀ j, j < N → 33 ≤ bsI s j ∧ bsI s j ≤ 126) → r = true from fun h => by rw [hr]; exact nameB_yes ⟨⟨by omega, by omega⟩, fun i hi => h i (by omega)⟩)
  rw [← hr]
  rw [← hN] at hconv hc h0 h1
  have hl : (s.size : Int) = N := by rw [hN]
  generalize bsI s = F at *
  have HO := Lib.hid ho
  have HC := Lib.hid hc
  have q0 : ((N : Int) == 0) = false := by simpa using h0
  have q1 : decide (32 < (N : Int)) = false := decide_eq_false (by omega)
  have q2 : N ≤ 32 := by omega
  clear hr ho hc hs hN h0 h1
  go_enter Try.func20, Try.ntmps20
  go_wp2_with fail
  clear hconv q0 q1
  go_loop [16] (fun i => ∃ k : Nat, k ≤ N ∧ i = .int .i64 k ∧ Hid (∀ j, j < k → 33 ≤ F j ∧ F j ≤ 126)) (fun i => N - (intOf i).toNat)
  case atStart => exact ⟨0, by omega, rfl, Lib.hid fun j hj => by omega⟩
  case round =>
    obtain ⟨k, hk, rfl, HJ⟩ := hrel
    by_cases hkn : k < N
    · have hck := HC.out k hkn
      by_cases c1 : F k < 33
      · have hrf := HG.out k hkn (by omega)
        have d1 : decide (F k < 33) = true := decide_eq_true c1
        clear HC HG HY HJ c1
        generalize F k = x at *
        go_wp2_with fail
        go_ret
        exact ⟨rfl, HO.out⟩
      by_cases c2 : 126 < F k
      · have hrf := HG.out k hkn (by omega)
        have d1 : decide (F k < 33) = false := decide_eq_false c1
        have d2 : decide (126 < F k) = true := decide_eq_true c2
        clear HC HG HY HJ c1 c2
        generalize F k = x at *
        go_wp2_with fail
        go_ret
        exact ⟨rfl, HO.out⟩
      have HJ2 := Lib.hid (show ∀ j, j < k + 1 → 33 ≤ F j ∧ F j ≤ 126 from fun j hj => by
        by_cases e : j = k
        · subst e; omega
        · exact HJ.out j (by omega))
      have d1 : decide (F k < 33) = false := decide_eq_false c1
      have d2 : decide (126 < F k) = false := decide_eq_false c2
      obtain ⟨x, hx⟩ : ∃ x, x = F k := ⟨_, rfl⟩
      rw [← hx] at hck d1 d2
      clear HC HG HY HJ c1 c2 hx
      go_wp2_with fail
      go_round
      case rel => exact ⟨k + 1, by omega, by go_num, HJ2⟩
      case measure => simp [intOf]; omega
    · have hrt := HY.out fun j hj => HJ.out j (by omega)
      clear HC HG HY HJ
      go_wp2_with fail
      go_ret
      exact ⟨rfl, HO.out⟩
/-- A Meta's value. -/
def metaV (s : ByteArray) (n r c : Int) (lp : Bool) (a b x y : Int) : Value := .agg #[.string s, .int .i64 n, .int .i64 r, .int .i64 c, .bool lp, .int .i64 a, .int .i64 b, .int .i64 x, .int .i64 y]
/-- Block g holds a Meta. -/
def MetaB (w : World) (g : Nat) (s : ByteArray) (n r c : Int) (lp : Bool) (a b x y : Int) : Prop := w.heap[g]? = some (.cells #[.string s, .int .i64 n, .int .i64 r, .int .i64 c, .bool lp, .int .i64 a, .int .i64 b, .int .i64 x, .int .i64 y] 28 (0, 0))
theorem MetaB.new (w : World) (s : ByteArray) (n r c : Int) (lp : Bool) (a b x y : Int) : MetaB (w.alloc (.cells #[.string s, .int .i64 n, .int .i64 r, .int .i64 c, .bool lp, .int .i64 a, .int .i64 b, .int .i64 x, .int .i64 y] 28)) w.heap.size s n r c lp a b x y := heap_alloc_new _ _
theorem MetaB.old {w w' : World} {g : Nat} {s : ByteArray} {n r c : Int} {lp : Bool} {a b x y : Int} (h : MetaB w g s n r c lp a b x y) (k : Old w w') : MetaB w' g s n r c lp a b x y := (k.block g (lt_of_block h)).trans h
theorem MetaB.cells {w : World} {g : Nat} {s : ByteArray} {n r c : Int} {lp : Bool} {a b x y : Int} (h : MetaB w g s n r c lp a b x y) :
    w.cell? ⟨g, 0, none⟩ = some (.string s) ∧ w.cell? ⟨g, 1, none⟩ = some (.int .i64 n) ∧ w.cell? ⟨g, 2, none⟩ = some (.int .i64 r) ∧ w.cell? ⟨g, 3, none⟩ = some (.int .i64 c) ∧ w.cell? ⟨g, 4, none⟩ = some (.bool lp) ∧ w.cell? ⟨g, 5, none⟩ = some (.int .i64 a) ∧ w.cell? ⟨g, 6, none⟩ = some (.int .i64 b) ∧ w.cell? ⟨g, 7, none⟩ = some (.int .i64 x) ∧ w.cell? ⟨g, 8, none⟩ = some (.int .i64 y) := by
  unfold MetaB at h
  simp [World.cell?, h]
theorem ret_bool {a b : Bool} (h : a = b) : Ending.returned (.bool a) = .returned (.bool b) := by rw [h]
set_option maxHeartbeats 1000000 in
theorem mayLoop_any (s : ByteArray) (n r c : Int) (lp : Bool) (a b x y : Int) (w : World) :
    Calls Try.prog 21 #[metaV s n r c lp a b x y] w fun e w' => e = .returned (.bool (decide (loopP lp a b n))) ∧ Old w w' := by
  unfold metaV
  have HO := Lib.hid (Old.refl w)
  cases lp
  · have HE := Lib.hid (show (decide (a = 0) && decide (b = 0)) = decide (loopP false a b n) by unfold loopP; simp)
    go_enter Try.func21, Try.ntmps21
    go_wp2_with fail
    all_goals
      go_ret
      refine ⟨ret_bool (Eq.trans ?_ HE.out), HO.out.alloc' _⟩
      rw [Bool.eq_iff_iff]
      first | (simp; done) | (simp; omega)
  · have HE := Lib.hid (show (decide (0 ≤ a) && decide (a < b) && decide (b ≤ n)) = decide (loopP true a b n) by unfold loopP; simp [Bool.and_assoc])
    go_enter Try.func21, Try.ntmps21
    go_wp2_with fail
    all_goals
      go_ret
      refine ⟨ret_bool (Eq.trans ?_ HE.out), HO.out.alloc' _⟩
      rw [Bool.eq_iff_iff]
      first | (simp; done) | (simp; omega)
set_option maxHeartbeats 2000000 in
theorem wrong_any (s : ByteArray) (n r c : Int) (lp : Bool) (a b x y : Int) (w : World) (hs : s.size ≤ 9223372036854775807) :
    Calls Try.prog 15 #[metaV s n r c lp a b x y] w fun e w' => e = .returned (.int .i64 (wrongI s n r c lp a b)) ∧ Old w w' := by
  have HN := Lib.hid (fun w => IsName_any s w hs)
  have HL := Lib.hid (fun w => mayLoop_any s n r c lp a b x y w)
  obtain ⟨v, hv⟩ : ∃ v, v = wrongI s n r c lp a b := ⟨_, rfl⟩
  rw [← hv]
  obtain ⟨q, hq⟩ : ∃ q, q = nameB s := ⟨_, rfl⟩
  rw [← hq] at HN
  obtain ⟨l, hl⟩ : ∃ l, l = decide (loopP lp a b n) := ⟨_, rfl⟩
  rw [← hl] at HL
  have h1 : wrongI s n r c lp a b = if q = false then 10 else if r < 1 ∨ 192000 < r then 14 else if (c < 1 ∨ 2 < c) ∨ n < 1 ∨ 1048576 < n then 12 else if l = true then 0 else 13 := by unfold wrongI; rw [hq, hl]; simp
  rw [h1] at hv
  have HV := Lib.hid hv
  clear h1 hv hq hl hs
  unfold metaV at *
  obtain ⟨W, hW⟩ : ∃ W, W = w.alloc (.cells #[.string s, .int .i64 n, .int .i64 r, .int .i64 c, .bool lp, .int .i64 a, .int .i64 b, .int .i64 x, .int .i64 y] 28) := ⟨_, rfl⟩
  obtain ⟨g, hg⟩ : ∃ g, g = w.heap.size := ⟨_, rfl⟩
  have hM := MetaB.new w s n r c lp a b x y
  have hO := Old.alloc w (.cells #[.string s, .int .i64 n, .int .i64 r, .int .i64 c, .bool lp, .int .i64 a, .int .i64 b, .int .i64 x, .int .i64 y] 28)
  rw [← hW, ← hg] at hM
  rw [← hW] at hO
  have HM := Lib.hid hM
  have HO := Lib.hid hO
  have HW := Lib.hid hW
  have HG := Lib.hid hg
  clear hM hO hW hg
  go_enter Try.func15, Try.ntmps15
  go_wp2_with fail
  rw [← HW.out, ← HG.out]
  refine (HN.out _).mono ?_
  rintro e w1 ⟨rfl, ho1⟩
  have HM1 := Lib.hid (HM.out.old ho1)
  have HO1 := Lib.hid (HO.out.trans ho1)
  obtain ⟨c0, c1, c2, c3, c4, c5, c6, c7, c8⟩ := HM1.out.cells
  clear HM HO HW HG HN ho1
  cases q
  · go_wp2_with fail
    go_ret
    exact ⟨ret_int (by rw [HV.out]; rfl), HO1.out⟩
  go_wp2_with fail
  all_goals try (go_ret; refine ⟨ret_int ?_, HO1.out⟩; rw [HV.out, if_neg (by simp)]; first | (rw [if_pos (by omega)]; done) | (rw [if_neg (by omega), if_pos (by omega)]; done))
  · refine (HL.out _).mono ?_
    rintro e w2 ⟨rfl, ho2⟩
    have HO2 := Lib.hid (HO1.out.trans ho2)
    clear ho2
    cases l
    · go_wp2_with fail
      go_ret
      refine ⟨ret_int ?_, HO2.out⟩
      rw [HV.out, if_neg (by simp), if_neg (by omega), if_neg (by omega)]
      simp
    · go_wp2_with fail
      go_ret
      refine ⟨ret_int ?_, HO2.out⟩
      rw [HV.out, if_neg (by simp), if_neg (by omega), if_neg (by omega)]
      simp
set_option maxHeartbeats 2000000 in
theorem RightMeta_any (s : ByteArray) (n r c : Int) (lp : Bool) (a b x y : Int) (w : World) (hs : s.size ≤ 9223372036854775807) :
    Calls Try.prog 9 #[metaV s n r c lp a b x y] w fun e w' => e = .returned (.bool (wrongI s n r c lp a b == 0)) ∧ Old w w' := by
  have HN := Lib.hid (fun w => wrong_any s n r c lp a b x y w hs)
  generalize wrongI s n r c lp a b = v at *
  have HO := Lib.hid (Old.alloc w (.cells #[.string s, .int .i64 n, .int .i64 r, .int .i64 c, .bool lp, .int .i64 a, .int .i64 b, .int .i64 x, .int .i64 y] 28))
  clear hs
  unfold metaV at *
  go_enter Try.func9, Try.ntmps9
  go_wp2_with fail
  refine (HN.out _).mono ?_
  rintro e w1 ⟨rfl, ho1⟩
  have HO1 := Lib.hid (HO.out.trans ho1)
  clear ho1
  go_wp2_with fail
  go_ret
  exact ⟨rfl, HO1.out⟩
set_option maxHeartbeats 2000000 in
/-- The chapter's example. -/
theorem Unroll_awake (s : ByteArray) (w : World) :
    Calls Try.prog 11 #[metaV s 9 1 1 true 2 5 0 0, .int .i64 6] w fun e w' => e = .returned (.int .i64 3) ∧ Old w w' := by
  have HO := Lib.hid (Old.alloc w (.cells #[.string s, .int .i64 9, .int .i64 1, .int .i64 1, .bool true, .int .i64 2, .int .i64 5, .int .i64 0, .int .i64 0] 28))
  unfold metaV
  go_enter Try.func11, Try.ntmps11
  go_wp2_with fail
  go_quiet (fail)
  go_wp2_with fail
  go_ret
  exact ⟨rfl, HO.out.drewN _⟩
end Go.Proofs.Ytoicpkkcamejcaa
