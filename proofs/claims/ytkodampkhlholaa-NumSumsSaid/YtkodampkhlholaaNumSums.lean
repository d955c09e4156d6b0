/- NumSums: for all numbers (the first 50 of them) num.Add tells their sum held within 64 bits at each step, num.Mix that held within a sample's bounds, num.Peak the greatest without its sign, 0 of none (3.1, 3.3), and the chapter's example holds. No condition. -/
import Derived.Test.YtkodampkhlholaaRows
import Derived.Test.YtkodampkhlholaaRound
namespace Go.Proofs.Ytkodampkhlholaa.numSums
open Go.ChangeShapes Go.WideShapes Go.ChangeAt Go.RowKit
set_option linter.unusedVariables false

/-- A number of 64 bits. -/
def In64 (x : Int) : Prop := -9223372036854775808 ≤ x ∧ x ≤ 9223372036854775807
def add2 (a b : Int) : Int := if 9223372036854775807 < a + b then 9223372036854775807 else if a + b < -9223372036854775808 then -9223372036854775808 else a + b
theorem add2_in (a b : Int) : In64 (add2 a b) := by unfold add2 In64; split <;> (try split) <;> omega
def addL (xs : List Int) : Int := xs.foldl add2 0
def peakL (xs : List Int) : Int := xs.foldl (fun p v => max p (absI v)) 0
theorem addL_in (xs : List Int) : In64 (addL xs) := by
  unfold addL
  have : ∀ (xs : List Int) (a : Int), In64 a → In64 (xs.foldl add2 a) := by
    intro xs
    induction xs with
    | nil => intro a h; exact h
    | cons x xs ih => intro a _; exact ih _ (add2_in a x)
  exact this xs 0 ⟨by omega, by omega⟩
theorem peakL_in (xs : List Int) (h : ∀ x ∈ xs, In64 x) : 0 ≤ peakL xs ∧ peakL xs ≤ 9223372036854775807 := by
  unfold peakL
  have : ∀ (xs : List Int) (a : Int), (∀ x ∈ xs, In64 x) → (0 ≤ a ∧ a ≤ 9223372036854775807) → 0 ≤ xs.foldl (fun p v => max p (absI v)) a ∧ xs.foldl (fun p v => max p (absI v)) a ≤ 9223372036854775807 := by
    intro xs
    induction xs with
    | nil => intro a _ h; exact h
    | cons x xs ih =>
      intro a hx h
      have b := absI_bd x (hx x (by simp)).1 (hx x (by simp)).2
      exact ih _ (fun y hy => hx y (by simp [hy])) (show 0 ≤ max a (absI x) ∧ max a (absI x) ≤ 9223372036854775807 by omega)
  exact this xs 0 h ⟨by omega, by omega⟩
theorem addL_snoc (xs : List Int) (k : Nat) (h : k < xs.length) : addL (xs.take (k + 1)) = add2 (addL (xs.take k)) (xs.getD k 0) := by
  rw [take_succ_getD xs k h]; unfold addL; rw [List.foldl_append]; rfl
theorem peakL_snoc (xs : List Int) (k : Nat) (h : k < xs.length) : peakL (xs.take (k + 1)) = max (peakL (xs.take k)) (absI (xs.getD k 0)) := by
  rw [take_succ_getD xs k h]; unfold peakL; rw [List.foldl_append]; rfl
theorem getD_in {xs : List Int} (h : ∀ x ∈ xs, In64 x) (k : Nat) : In64 (xs.getD k 0) := by
  by_cases hk : k < xs.length
  · have : xs.getD k 0 = xs[k] := by simp [List.getD, hk]
    rw [this]; exact h _ (List.getElem_mem hk)
  · have : xs.getD k 0 = 0 := by simp [List.getD, Nat.not_lt.1 hk]
    rw [this]; exact ⟨by omega, by omega⟩
theorem take_in {xs : List Int} (h : ∀ x ∈ xs, In64 x) (k : Nat) : ∀ x ∈ xs.take k, In64 x := fun x hx => h x (List.mem_of_mem_take hx)

set_option maxHeartbeats 1000000 in
theorem add_law (a b : Int) (w : World) (ha : In64 a) (hb : In64 b) :
    Calls Try.prog 21 #[.int .i64 a, .int .i64 b] w fun e w' => e = .returned (.int .i64 (add2 a b)) ∧ w = w' := by
  obtain ⟨a1, a2⟩ := ha
  obtain ⟨b1, b2⟩ := hb
  unfold add2
  by_cases h1 : 9223372036854775807 < a + b
  · rw [if_pos h1]
    have c1 : 0 < b := by omega
    have c2 : 9223372036854775807 - b < a := by omega
    go_enter Try.func21, Try.ntmps21
    go_wp2
    go_ret
    exact ⟨rfl, rfl⟩
  · rw [if_neg h1]
    by_cases h2 : a + b < -9223372036854775808
    · rw [if_pos h2]
      have c1 : b < 0 := by omega
      have c2 : a < -9223372036854775808 - b := by omega
      clear h1
      go_enter Try.func21, Try.ntmps21
      go_wp2
      go_ret
      exact ⟨rfl, rfl⟩
    · rw [if_neg h2]
      have c1 : a + b ≤ 9223372036854775807 := by omega
      have c2 : -9223372036854775808 ≤ a + b := by omega
      clear h1 h2
      have ws := IntWalk.wrap64_in (a + b) ⟨c2, c1⟩
      rcases (show 0 < b ∨ b < 0 ∨ b = 0 by omega) with h | h | h
      · have c3 : a ≤ 9223372036854775807 - b := by omega
        go_enter Try.func21, Try.ntmps21
        go_wp2
        go_ret
        exact ⟨rfl, rfl⟩
      · have c3 : -9223372036854775808 - b ≤ a := by omega
        go_enter Try.func21, Try.ntmps21
        go_wp2
        go_ret
        exact ⟨rfl, rfl⟩
      · subst h
        rw [Int.add_zero] at ws ⊢
        go_enter Try.func21, Try.ntmps21
        go_wp2
        go_ret
        exact ⟨rfl, rfl⟩

set_option maxHeartbeats 1000000 in
theorem addTwo_any (a b : Int) (w : World) (ha : In64 a) (hb : In64 b) :
    Calls Try.prog 28 #[.int .i64 a, .int .i64 b] w fun e w' => e = .returned (.int .i64 (add2 a b)) ∧ w = w' := by
  obtain ⟨a1, a2⟩ := ha
  obtain ⟨b1, b2⟩ := hb
  unfold add2
  by_cases h1 : 9223372036854775807 < a + b
  · rw [if_pos h1]
    have c1 : 0 < b := by omega
    have ws : wrap64 (a + b) = a + b - 18446744073709551616 := by unfold wrap64; omega
    have c2 : a + b - 18446744073709551616 < a := by omega
    go_enter Try.func28, Try.ntmps28
    go_wp2
    go_ret
    exact ⟨rfl, rfl⟩
  · rw [if_neg h1]
    by_cases h2 : a + b < -9223372036854775808
    · rw [if_pos h2]
      have c1 : b < 0 := by omega
      have ws : wrap64 (a + b) = a + b + 18446744073709551616 := by unfold wrap64; omega
      have c2 : a < a + b + 18446744073709551616 := by omega
      clear h1
      go_enter Try.func28, Try.ntmps28
      go_wp2
      go_ret
      exact ⟨rfl, rfl⟩
    · rw [if_neg h2]
      have ws := IntWalk.wrap64_in (a + b) ⟨by omega, by omega⟩
      clear h1 h2
      rcases (show 0 < b ∨ b < 0 ∨ b = 0 by omega) with h | h | h
      · have c3 : a ≤ a + b := by omega
        go_enter Try.func28, Try.ntmps28
        go_wp2
        go_ret
        exact ⟨rfl, rfl⟩
      · have c3 : a + b ≤ a := by omega
        go_enter Try.func28, Try.ntmps28
        go_wp2
        go_ret
        exact ⟨rfl, rfl⟩
      · subst h
        rw [Int.add_zero] at ws ⊢
        go_enter Try.func28, Try.ntmps28
        go_wp2
        go_ret
        exact ⟨rfl, rfl⟩

theorem Add_any (p : Option Addr) (n cap : Nat) (xs : List Int) (w : World) (hs : SlI w .i64 (.slice p n cap) xs) (hb : ∀ x ∈ xs, In64 x) (hn : n ≤ 9223372036854775807) :
    Calls Try.prog 22 #[.slice p n cap] w fun e w' => e = .returned (.int .i64 (addL xs)) ∧ w = w' := by
  obtain ⟨hl, hc⟩ := hs.cellAt
  have HC := Lib.hid hc
  have HL := Lib.hid hl
  have HB := Lib.hid hb
  clear hs hc hl hb
  go_enter Try.func22, Try.ntmps22
  go_wp2
  go_loop [3, 8] (fun s i => ∃ k : Nat, k ≤ n ∧ i = .int .i64 k ∧ s = .int .i64 (addL (xs.take k))) (fun _ i => n - (intOf i).toNat)
  case atStart => exact ⟨0, by omega, rfl, rfl⟩
  case round =>
    obtain ⟨k, hk, rfl, rfl⟩ := hrel
    by_cases hlt : k < n
    · obtain ⟨b, off, rfl, _, _, _, hc⟩ := HC.out (by omega)
      have hcell := hc k hlt
      have hgo := Lib.hid (addTwo_any (addL (xs.take k)) (xs.getD k 0) w (addL_in _) (getD_in HB.out k))
      rw [← addL_snoc xs k (by rw [HL.out]; exact hlt)] at hgo
      clear hc HC HL HB
      generalize xs.getD k 0 = x at *
      generalize addL (xs.take k) = s at *
      go_wp2_with fail
      refine hgo.out.mono ?_
      rintro e w' ⟨rfl, rfl⟩
      go_wp2
      go_round
      case rel => exact ⟨k + 1, by omega, by go_num, rfl⟩
      case measure => simp [intOf]; omega
    · have hend : Hid (xs.take k = xs) := by unfold Hid; rw [List.take_of_length_le (by rw [HL.out]; omega)]
      clear HC HL HB
      go_wp2
      go_ret
      exact ⟨by rw [hend.out]; rfl, rfl⟩

theorem Peak_any (p : Option Addr) (n cap : Nat) (xs : List Int) (w : World) (hs : SlI w .i64 (.slice p n cap) xs) (hb : ∀ x ∈ xs, In64 x) (hn : n ≤ 9223372036854775807) :
    Calls Try.prog 24 #[.slice p n cap] w fun e w' => e = .returned (.int .i64 (peakL xs)) ∧ w = w' := by
  obtain ⟨hl, hc⟩ := hs.cellAt
  have HC := Lib.hid hc
  have HL := Lib.hid hl
  have HB := Lib.hid hb
  clear hs hc hl hb
  go_enter Try.func24, Try.ntmps24
  go_wp2
  go_loop [3, 8] (fun s i => ∃ k : Nat, k ≤ n ∧ i = .int .i64 k ∧ s = .int .i64 (peakL (xs.take k))) (fun _ i => n - (intOf i).toNat)
  case atStart => exact ⟨0, by omega, rfl, rfl⟩
  case round =>
    obtain ⟨k, hk, rfl, rfl⟩ := hrel
    by_cases hlt : k < n
    · obtain ⟨b, off, rfl, _, _, _, hc⟩ := HC.out (by omega)
      have hcell := hc k hlt
      have hx := getD_in HB.out k
      have hgo := Lib.hid (Abs_any (xs.getD k 0) w hx.1 hx.2)
      have hsn := Lib.hid (peakL_snoc xs k (by rw [HL.out]; exact hlt))
      have hbd := absI_bd _ hx.1 hx.2
      clear hc HC HL HB hx
      generalize xs.getD k 0 = x at *
      generalize peakL (xs.take k) = s at *
      generalize absI x = y at *
      go_wp2_with fail
      refine hgo.out.mono ?_
      rintro e w' ⟨rfl, rfl⟩
      go_wp2
      all_goals
        go_round
        case rel => exact ⟨k + 1, by omega, by go_num, by rw [hsn.out]; congr 1; omega⟩
        case measure => simp [intOf]; omega
    · have hend : Hid (xs.take k = xs) := by unfold Hid; rw [List.take_of_length_le (by rw [HL.out]; omega)]
      clear HC HL HB
      go_wp2
      go_ret
      exact ⟨by rw [hend.out]; rfl, rfl⟩

theorem Mix_any (p : Option Addr) (n cap : Nat) (xs : List Int) (w : World) (hs : SlI w .i64 (.slice p n cap) xs) (hb : ∀ x ∈ xs, In64 x) (hn : n ≤ 9223372036854775807) :
    Calls Try.prog 23 #[.slice p n cap] w fun e w' => e = .returned (.int .i64 (satI (addL xs))) ∧ w = w' := by
  have hA := Lib.hid (Add_any p n cap xs w hs hb hn)
  have hS := Lib.hid (Sat_any (addL xs) w)
  clear hs hb
  generalize satI (addL xs) = y at *
  generalize addL xs = x at *
  go_enter Try.func23, Try.ntmps23
  go_wp2_with fail
  refine hA.out.mono ?_
  rintro e w' ⟨rfl, rfl⟩
  go_wp2_with fail
  refine hS.out.mono ?_
  rintro e w' ⟨rfl, rfl⟩
  go_wp2
  go_ret
  exact ⟨rfl, rfl⟩


set_option maxHeartbeats 1000000 in
theorem walk_big (p : Option Addr) (n cap : Nat) (xs : List Int) (w : World) (hs0 : SlI w .i64 (.slice p n cap) xs) (hnc : n ≤ cap) (hcm : cap ≤ maxLen) (hb0 : ∀ x ∈ xs, In64 x) (hbig : 50 < n) :
    Calls Try.prog 7 #[.slice p n cap] w fun e w' => e = .returned (.bool true) ∧ Old w w' := by
  unfold maxLen at hcm
  have hs := hs0.take (m := 50) (by omega)
  have hb := take_in hb0 50
  obtain ⟨ys, hy⟩ : ∃ ys, xs.take 50 = ys := ⟨_, rfl⟩
  rw [hy] at hs hb
  clear hs0 hb0 hy
  have hA := Lib.hid (Add_any p 50 cap ys w hs hb (by omega))
  have hM := Mix_any p 50 cap ys w hs hb (by omega)
  have hK := Lib.hid (Peak_any p 50 cap ys w hs hb (by omega))
  have hC := clamp_any (addL ys) (-32768) 32767 w
  have hbd := satI_bd (addL ys)
  unfold satI at hM hbd
  have HM := Lib.hid hM
  have HClamp := Lib.hid hC
  obtain ⟨hl, hc⟩ := hs.cellAt
  obtain ⟨b, off, rfl, _, _, _, hc⟩ := hc (by omega)
  have HC := Lib.hid hc
  have HL := Lib.hid hl
  have hdd : decide ((50 : Int) < (n : Int)) = true := by simp; omega
  have HB := Lib.hid hb
  have HBd := Lib.hid hbd
  clear hs hc hl hb hM hC hbd
  go_enter Try.func7, Try.ntmps7
  go_wp2
  go_loop [3, 4, 5] (fun s q i => ∃ k : Nat, k ≤ 50 ∧ i = .int .i64 k ∧ s = .int .i64 (addL (ys.take k)) ∧ q = .int .i64 (peakL (ys.take k))) (fun _ _ i => 50 - (intOf i).toNat)
  case atStart => exact ⟨0, by omega, rfl, rfl, rfl⟩
  case round =>
    obtain ⟨k, hk, rfl, rfl, rfl⟩ := hrel
    by_cases hlt : k < 50
    · have hcell := HC.out k hlt
      have hx := getD_in HB.out k
      have hgo := Lib.hid (add_law (addL (ys.take k)) (ys.getD k 0) w (addL_in _) hx)
      rw [← addL_snoc ys k (by rw [HL.out]; exact hlt)] at hgo
      have hab := Lib.hid (Abs_any (ys.getD k 0) w hx.1 hx.2)
      have hsn := Lib.hid (peakL_snoc ys k (by rw [HL.out]; exact hlt))
      clear HC HL HB hx HM HClamp HBd hA hK
      generalize ys.getD k 0 = x at *
      generalize addL (ys.take k) = s at *
      generalize peakL (ys.take k) = q at *
      generalize absI x = y at *
      by_cases hq : q < y
      · go_wp2_with fail
        refine hgo.out.mono ?_
        rintro e w' ⟨rfl, rfl⟩
        go_wp2_with fail
        refine hab.out.mono ?_
        rintro e w' ⟨rfl, rfl⟩
        go_wp2_with fail
        refine hab.out.mono ?_
        rintro e w' ⟨rfl, rfl⟩
        go_wp2
        go_round
        case rel => exact ⟨k + 1, by omega, by go_num, rfl, by rw [hsn.out]; congr 1; omega⟩
        case measure => simp [intOf]; omega
      · have hq' : y ≤ q := by omega
        clear hq
        go_wp2_with fail
        refine hgo.out.mono ?_
        rintro e w' ⟨rfl, rfl⟩
        go_wp2_with fail
        refine hab.out.mono ?_
        rintro e w' ⟨rfl, rfl⟩
        go_wp2
        go_round
        case rel => exact ⟨k + 1, by omega, by go_num, rfl, by rw [hsn.out]; congr 1; omega⟩
        case measure => simp [intOf]; omega
    · have hend : ys.take k = ys := List.take_of_length_le (by rw [HL.out]; omega)
      rw [hend]
      have hbd := HBd.out
      clear HC HL HB HBd hend
      generalize clampI (addL ys) (-32768) 32767 = y at *
      generalize addL ys = s at *
      generalize peakL ys = q at *
      obtain ⟨hb1, hb2⟩ := hbd
      go_wp2_with fail
      refine hA.out.mono ?_
      rintro e w' ⟨rfl, rfl⟩
      go_wp2_with fail
      refine HM.out.mono ?_
      rintro e w' ⟨rfl, rfl⟩
      go_wp2_with fail
      refine HClamp.out.mono ?_
      rintro e w' ⟨rfl, rfl⟩
      go_wp2_with fail
      refine hK.out.mono ?_
      rintro e w' ⟨rfl, rfl⟩
      go_wp2_with fail
      refine (awake_any _).mono ?_
      rintro e w' ⟨rfl, nn, rfl⟩
      go_wp2
      go_ret
      exact ⟨rfl, (Old.refl w).drewN _⟩


set_option maxHeartbeats 1000000 in
theorem walk_small (p : Option Addr) (n cap : Nat) (xs : List Int) (w : World) (hs0 : SlI w .i64 (.slice p n cap) xs) (hnc : n ≤ cap) (hcm : cap ≤ maxLen) (hb0 : ∀ x ∈ xs, In64 x) (hbig : n ≤ 50) :
    Calls Try.prog 7 #[.slice p n cap] w fun e w' => e = .returned (.bool true) ∧ Old w w' := by
  unfold maxLen at hcm
  have hs := hs0.take (m := n) (by omega)
  have hb := take_in hb0 n
  obtain ⟨ys, hy⟩ : ∃ ys, xs.take n = ys := ⟨_, rfl⟩
  rw [hy] at hs hb
  clear hs0 hb0 hy
  have hA := Lib.hid (Add_any p n cap ys w hs hb (by omega))
  have hM := Mix_any p n cap ys w hs hb (by omega)
  have hK := Lib.hid (Peak_any p n cap ys w hs hb (by omega))
  have hC := clamp_any (addL ys) (-32768) 32767 w
  have hbd := satI_bd (addL ys)
  unfold satI at hM hbd
  have HM := Lib.hid hM
  have HClamp := Lib.hid hC
  obtain ⟨hl, hc⟩ := hs.cellAt
  have HC := Lib.hid hc
  have HL := Lib.hid hl
  have HB := Lib.hid hb
  have HBd := Lib.hid hbd
  clear hs hc hl hb hM hC hbd
  go_enter Try.func7, Try.ntmps7
  go_wp2
  go_loop [3, 4, 5] (fun s q i => ∃ k : Nat, k ≤ n ∧ i = .int .i64 k ∧ s = .int .i64 (addL (ys.take k)) ∧ q = .int .i64 (peakL (ys.take k))) (fun _ _ i => n - (intOf i).toNat)
  case atStart => exact ⟨0, by omega, rfl, rfl, rfl⟩
  case round =>
    obtain ⟨k, hk, rfl, rfl, rfl⟩ := hrel
    by_cases hlt : k < n
    · obtain ⟨b, off, rfl, _, _, _, hc⟩ := HC.out (by omega)
      have hcell := hc k hlt
      have hx := getD_in HB.out k
      have hgo := Lib.hid (add_law (addL (ys.take k)) (ys.getD k 0) w (addL_in _) hx)
      rw [← addL_snoc ys k (by rw [HL.out]; exact hlt)] at hgo
      have hab := Lib.hid (Abs_any (ys.getD k 0) w hx.1 hx.2)
      have hsn := Lib.hid (peakL_snoc ys k (by rw [HL.out]; exact hlt))
      clear hc HC HL HB hx HM HClamp HBd hA hK
      generalize ys.getD k 0 = x at *
      generalize addL (ys.take k) = s at *
      generalize peakL (ys.take k) = q at *
      generalize absI x = y at *
      by_cases hq : q < y
      · go_wp2_with fail
        refine hgo.out.mono ?_
        rintro e w' ⟨rfl, rfl⟩
        go_wp2_with fail
        refine hab.out.mono ?_
        rintro e w' ⟨rfl, rfl⟩
        go_wp2_with fail
        refine hab.out.mono ?_
        rintro e w' ⟨rfl, rfl⟩
        go_wp2
        go_round
        case rel => exact ⟨k + 1, by omega, by go_num, rfl, by rw [hsn.out]; congr 1; omega⟩
        case measure => simp [intOf]; omega
      · have hq' : y ≤ q := by omega
        clear hq
        go_wp2_with fail
        refine hgo.out.mono ?_
        rintro e w' ⟨rfl, rfl⟩
        go_wp2_with fail
        refine hab.out.mono ?_
        rintro e w' ⟨rfl, rfl⟩
        go_wp2
        go_round
        case rel => exact ⟨k + 1, by omega, by go_num, rfl, by rw [hsn.out]; congr 1; omega⟩
        case measure => simp [intOf]; omega
    · have hend : ys.take k = ys := List.take_of_length_le (by rw [HL.out]; omega)
      rw [hend]
      have hbd := HBd.out
      clear HC HL HB HBd hend
      generalize clampI (addL ys) (-32768) 32767 = y at *
      generalize addL ys = s at *
      generalize peakL ys = q at *
      obtain ⟨hb1, hb2⟩ := hbd
      go_wp2_with fail
      refine hA.out.mono ?_
      rintro e w' ⟨rfl, rfl⟩
      go_wp2_with fail
      refine HM.out.mono ?_
      rintro e w' ⟨rfl, rfl⟩
      go_wp2_with fail
      refine HClamp.out.mono ?_
      rintro e w' ⟨rfl, rfl⟩
      go_wp2_with fail
      refine hK.out.mono ?_
      rintro e w' ⟨rfl, rfl⟩
      go_wp2_with fail
      refine (awake_any _).mono ?_
      rintro e w' ⟨rfl, nn, rfl⟩
      go_wp2
      go_ret
      exact ⟨rfl, (Old.refl w).drewN _⟩

theorem walk (p : Option Addr) (n cap : Nat) (xs : List Int) (w : World) (hs0 : SlI w .i64 (.slice p n cap) xs) (hnc : n ≤ cap) (hcm : cap ≤ maxLen) (hb0 : ∀ x ∈ xs, In64 x) :
    Calls Try.prog 7 #[.slice p n cap] w fun e w' => e = .returned (.bool true) ∧ Old w w' := by
  by_cases h : 50 < n
  · exact walk_big p n cap xs w hs0 hnc hcm hb0 h
  · exact walk_small p n cap xs w hs0 hnc hcm hb0 (by omega)


theorem own : ownKnob Try.prog.godebug = none := by kernel_rfl
theorem laidOut : laidOutB Try.prog = true := by kernel_rfl

set_option maxRecDepth 100000 in
theorem lifted (os : Os) (started : os.Started) (H : Type) (enc : TypeId × Value → H) :
    ReturnsInHanded {} Try.checked os 7 .any (Rows.numSumsSpec.pre6 enc Try.prog Try.f7 Rows.numSumsRow.domain false) (Rows.numSumsSpec.post enc Try.prog Try.f7 false true false false) := by
  refine returnsInHanded_of_change (C := Try.checked) own started (by kernel_rfl) Try.func7
    (ChangeSpec.witness6 (enc := enc) (C := Try.checked) false ⟨#[], #[.slice none 0 0], []⟩ 8 (by kernel_rfl) (by kernel_rfl) (by kernel_rfl) (by kernel_rfl)) ?_
  intro W base args ds gs before hval0 hW hcnd _
  have hval : ∀ (j : Nat) t v, Try.f7.params[j]? = some t → args[j]? = some v → Value.okWide Try.prog W .any base t v := hval0
  have hW' := hW
  have hlt : ∀ p ∈ before, p.block < W.heap.size := fun p hp => hW'.lt p hp
  obtain ⟨p, q, hA0, hV, rfl, hfz, hnd⟩ := hW
  have hA : DataW.TrodAll enc Try.prog W 0 (fun _ => true) true Try.f7.params.toList args.toList ds p := hA0
  rw [Try.params7] at hA hval
  obtain ⟨v0, vs0, d0, ds0, p0, q0, hargs, rfl, rfl, h0, r0⟩ := trodAll_cons hA
  obtain ⟨rfl, rfl, rfl⟩ := trodAll_nil r0
  obtain rfl : args = #[v0] := by cases args; simp_all
  obtain ⟨rfl, rfl⟩ := trodVars_none hV
  obtain ⟨s0, n0, c0, xs0, rfl, hs0, hn0, hc0, hw0⟩ := open_slI Try.underlying33 Try.underlying2 (by kernel_rfl) (hval 0 33 v0 rfl rfl) h0 (fun x hx => hlt x (by simp [hx]))
  refine (walk s0 n0 c0 xs0 W hs0 hn0 hc0 (fun x hx => i64_of (hw0 x hx))).mono fun e W' ⟨he, hg⟩ => ?_
  subst he
  exact ⟨_, rfl, law_done laidOut Try.underlying4 rfl (by kernel_rfl) rfl hW' rfl hg⟩

theorem over : Rows.numSumsRow.holds Try.pinned (OpenSpec.ofChange Rows.numSumsSpec) :=
  OpenClaim.holds_of_wide 7 Try.f7 rfl rfl rfl rfl rfl rfl rfl ⟨rfl, rfl, rfl, rfl, rfl⟩ rfl rfl rfl rfl rfl (by kernel_rfl) Try.func7 (by kernel_rfl)
    (of_decide_eq_true (by kernel_rfl)) (by unfold Func.isWrapper; first | (rw [if_pos (by decide +kernel)]; kernel_rfl) | (rw [if_neg (by decide +kernel)]; exact ⟨rfl, rfl⟩))
    (fun os started H enc _ => lifted os started H enc)

theorem proved : Rows.NumSumsSaid :=
  over
end Go.Proofs.Ytkodampkhlholaa.numSums
