/- The chapter's example, and the law's half: calliopelaw19.awake, half. -/
import Derived.Test.YtlaoamlmpdbmmaaVeilC
import Derived.Test.YtlaoamlmpdbmmaaFew
namespace Go.Proofs.Ytlaoamlmpdbmmaa
set_option linter.unusedVariables false
set_option maxRecDepth 100000
open Go.RowKit Go.ChangeShapes Go.WideShapes

theorem tdiv_half (v : Int) (i : Nat) : (v.tdiv (pw i)).tdiv 2 = v.tdiv (pw (i + 1)) := by
  have hp := pw_pos i
  have pos : ∀ u : Int, 0 ≤ u → (u.tdiv (pw i)).tdiv 2 = u.tdiv (pw (i + 1)) := fun u hu => by
    rw [Int.tdiv_eq_ediv_of_nonneg hu, Int.tdiv_eq_ediv_of_nonneg (Int.ediv_nonneg hu (by omega)), Int.tdiv_eq_ediv_of_nonneg hu, pw_succ, Int.mul_comm, ← Int.ediv_ediv_of_nonneg (by omega)]
  rcases Int.le_total 0 v with h | h
  · exact pos v h
  · have := pos (-v) (by omega)
    rw [Int.neg_tdiv, Int.neg_tdiv, Int.neg_tdiv] at this
    omega
theorem tdiv_in (v : Int) (i : Nat) (hv : -2147483648 ≤ v ∧ v ≤ 2147483648) : -2147483648 ≤ v.tdiv (pw i) ∧ v.tdiv (pw i) ≤ 2147483648 := by
  have hp := pw_pos i
  have pos : ∀ u : Int, 0 ≤ u → 0 ≤ u.tdiv (pw i) ∧ u.tdiv (pw i) ≤ u := fun u hu => by
    rw [Int.tdiv_eq_ediv_of_nonneg hu]
    exact ⟨Int.ediv_nonneg hu (by omega), Int.ediv_le_self _ hu⟩
  rcases Int.le_total 0 v with h | h
  · have := pos v h; omega
  · have := pos (-v) (by omega)
    rw [Int.neg_tdiv] at this
    omega
theorem half_any (v : Int) (k : Nat) (w : World) (hv : -2147483648 ≤ v ∧ v ≤ 2147483648) (hk : k ≤ 1000) :
    Calls Try.prog 8 #[.int .i64 v, .int .i64 k] w fun e w' => e = .returned (.int .i64 (v.tdiv (pw k))) ∧ w = w' := by
  have HV := Lib.hid hv
  have k1 : (k : Int) ≤ 1000 := by omega
  clear hv hk
  go_enter Try.func8, Try.ntmps8
  go_wp2_with fail
  go_loop [0, 5] (fun v' i => ∃ j : Nat, j ≤ k ∧ i = .int .i64 j ∧ v' = .int .i64 (v.tdiv (pw j))) (fun _ i => k - (intOf i).toNat)
  case atStart => exact ⟨0, by omega, rfl, by rw [pw_zero, Int.tdiv_one]⟩
  case round =>
    obtain ⟨j, hj, rfl, rfl⟩ := hrel
    by_cases hlt : j < k
    · have i1 : (0 : Int) ≤ j := by omega
      have h0 := tdiv_half v j
      have h1 := tdiv_in v j HV.out
      have HQ := Lib.hid h0
      clear HV h0
      generalize v.tdiv (pw j) = x at *
      go_wp2_with fail
      go_round
      case rel => exact ⟨j + 1, by omega, by go_num, by rw [← HQ.out]⟩
      case measure => (simp [intOf]; try omega)
    · obtain rfl : j = k := by omega
      clear HV
      go_wp2_with fail
      go_ret
      exact ⟨rfl, rfl⟩
def tnF : Nat → Int := fun j => if j = 1 then 100 else 0
theorem ex_FrP : FrP (fun _ => 0) 1 tnF := ⟨fun k hk => by omega, fun k hk => by omega, fun k hk => by omega, fun k hk => by rfl, by omega, fun k hk => by
  obtain rfl : k = 0 := by omega
  exact ⟨by decide, by decide, by rfl, fun h => absurd h (by omega)⟩⟩
theorem ex_at : pcF (fun _ => 0) 1 tnF 0 = 100 := by decide +kernel
theorem ex_fade : fadeF (pcF (fun _ => 0) 1 tnF) 1 0 = 50 := by
  unfold fadeF
  rw [if_neg (by omega)]
  unfold cutTo
  rw [if_pos (by omega), ex_at]
  rfl
theorem frC_lit (s : Value) : #[.int .i64 0, .int .i64 0, .int .i64 0, .int .i64 0, s, .int .i64 0, .int .i64 0, .int .i64 0, .int .i64 0, .int .i64 0, .int .i64 0, .int .i64 0, .int .i64 0, .int .i64 0, .int .i64 0, .int .i64 0, .int .i64 0, .int .i64 0, .int .i64 0, .int .i64 0, .int .i64 0, .int .i64 0, .int .i64 0, .int .i64 0, .int .i64 0, .int .i64 0, .int .i64 0, .int .i64 0, .int .i64 0] = rowN 29 (frC (fun _ => 0) s) := rfl
set_option maxHeartbeats 2000000 in
theorem awake_any (w : World) : Calls Try.prog 15 #[] w fun e w' => e = .returned (.bool true) ∧ Old w w' := by
  have Hs20 : Hid ((Try.prog.info? 28).map (·.size) = some 20) := Lib.hid (by kernel_rfl)
  obtain ⟨z, hz⟩ : ∃ z : Array Value, z = #[.int .i64 0, .int .i64 0, .int .i64 0, .int .i64 0, .int .i64 0, .int .i64 0, .int .i64 0, .int .i64 0, .int .i64 0, .int .i64 0, .int .i64 0, .int .i64 0, .int .i64 0, .int .i64 0, .int .i64 0, .int .i64 0, .int .i64 0, .int .i64 0, .int .i64 0, .int .i64 0, .int .i64 0] := ⟨_, rfl⟩
  obtain ⟨y, hy⟩ : ∃ y : Array Value, y = #[.int .i64 0, .int .i64 0, .int .i64 0, .int .i64 0, .int .i64 0, .int .i64 0, .int .i64 0, .int .i64 0, .int .i64 0, .int .i64 0, .int .i64 0, .int .i64 0, .int .i64 0, .int .i64 0, .int .i64 0, .int .i64 0, .int .i64 0, .int .i64 0, .int .i64 0, .int .i64 0] := ⟨_, rfl⟩
  have ys : Hid (y.size = 20) := Lib.hid (by rw [hy]; rfl)
  have Hz := Lib.hid hz
  have Hy := Lib.hid hy
  have HP := Lib.hid ex_at
  have HF := Lib.hid ex_fade
  have HS : Hid (Sml (pcF (fun _ => 0) 1 tnF)) := Lib.hid (pcF_in _ _ _)
  clear hz hy
  go_enter Try.func15, Try.ntmps15
  go_wp2_with fail
  rw [frC_lit, ← Hz.out]
  obtain ⟨W1, hW1⟩ : ∃ W, W = (w.alloc (.cells z 30)).alloc (.cells #[.int .i64 0, .int .i64 100] 60) := ⟨_, rfl⟩
  have hv1 : VlB W1 w.heap.size (fun _ => 0) 0 := by
    rw [hW1]
    have h := heap_alloc2_old w (.cells z 30) (.cells #[.int .i64 0, .int .i64 100] 60)
    rw [Hz.out, ← row21_zero, ← vlF_zero] at h
    rw [Hz.out, ← row21_zero, ← vlF_zero]
    exact h
  have o1 : Old w W1 := by rw [hW1]; exact (Old.alloc w _).alloc' _
  have hT : SlF 2 W1 (some ⟨w.heap.size + 1, 0, none⟩) 1 tnF := fun _ => by
    have h := heap_alloc2_new w (.cells z 30) (.cells #[.int .i64 0, .int .i64 100] 60)
    rw [← hW1] at h
    refine ⟨w.heap.size + 1, 0, rfl, lt_of_block h, fun j hj => ?_⟩
    have hc := cell2 h
    rcases (by omega : j = 0 ∨ j = 1) with rfl | rfl
    · exact hc.1
    · exact hc.2.1
  rw [← hW1]
  have HO1 := Lib.hid o1
  refine (Good_any w.heap.size _ 0 (fun _ => 0) _ 1 1 tnF W1 hv1 hT (Nat.le_refl _) (by unfold maxLen; omega) ex_FrP).mono ?_
  rintro e W2 ⟨rfl, hv2, hk2⟩
  clear hv1 o1 hT hW1
  obtain ⟨P, hP⟩ : ∃ P, pcF (fun _ => 0) 1 tnF = P := ⟨_, rfl⟩
  rw [hP] at hv2 HP HF HS
  rw [hP]
  clear hP
  have HV2 := Lib.hid (hv2.old (Old.alloc W2 (.cells (rowN 20 (blk P)) 28)))
  have HK2 := Lib.hid hk2
  have H20 : Hid ((rowN 20 (blk P)).all (·.oneCell') = true) := Lib.hid (blk_one _ _)
  clear hv2 hk2
  go_wp2_with (rw [← Hy.out]; with_reducible refine wpList_store_row rfl 28 _ _ rfl W2.heap.size (rowN 20 (blk P)) rfl rfl 28 _ (heap_alloc_new _ _) (by rw [rowN_size]; exact Hs20.out) (by rw [rowN_size]; exact ys.out) H20.out ?_; rw [World.setRow_alloc_new])
  have HB2 := Lib.hid (heap_alloc_new W2 (.cells (rowN 20 (blk P)) 28))
  have HK3 := Lib.hid (HK2.out.trans ((Old.alloc W2 (.cells (rowN 20 (blk P)) 28)).kept (X := butOf W1 w.heap.size) fun k hk => Nat.lt_of_lt_of_le hk.1 HK2.out.size))
  obtain ⟨W3, hW3⟩ : ∃ W, W = W2.alloc (.cells (rowN 20 (blk P)) 28) := ⟨_, rfl⟩
  obtain ⟨b2, hb2⟩ : ∃ b, b = W2.heap.size := ⟨_, rfl⟩
  have Hne : Hid (w.heap.size ≠ b2) := Lib.hid (by have h1 := HK2.out.size; have h2 := HO1.out.size; have h3 : w.heap.size < W3.heap.size := by rw [hW3]; exact HV2.out.lt
                                                   intro e
                                                   have h4 := HV2.out.heap
                                                   rw [e, hb2, HB2.out] at h4
                                                   simp only [Option.some.injEq, Obj.cells.injEq] at h4
                                                   exact absurd h4.2.1 (by decide))
  rw [← hW3, ← hb2] at HB2 ⊢
  rw [← hW3] at HV2 HK3
  clear hW3 hb2 HK2
  refine (Lose_any w.heap.size P 0 W3 HV2.out HS.out (by omega)).mono ?_
  rintro e W4 ⟨rfl, hv4, hk4⟩
  obtain ⟨R, hR⟩ : ∃ R, fadeF P (0 + 1) = R := ⟨_, rfl⟩
  rw [show 1 = 0 + 1 from rfl, hR] at HF
  rw [hR]
  have HV4 := Lib.hid (hv4.old (Old.alloc W4 (.cells (rowN 20 (blk R)) 28)))
  have HB4 := Lib.hid ((Old.alloc W4 (.cells (rowN 20 (blk R)) 28)).block b2 (Nat.lt_of_lt_of_le (lt_of_block HB2.out) hk4.size) |>.trans ((hk4.block b2 ⟨lt_of_block HB2.out, fun e => Hne.out e.symm⟩).trans HB2.out))
  have HC4 := Lib.hid (heap_alloc_new W4 (.cells (rowN 20 (blk R)) 28))
  have H20 : Hid ((rowN 20 (blk R)).all (·.oneCell') = true) := Lib.hid (blk_one _ _)
  have HO5 : Hid (Old w (W4.alloc (.cells (rowN 20 (blk R)) 28))) := Lib.hid (by
    have hw : ∀ k, k < w.heap.size → butOf W1 w.heap.size k := fun k hk => ⟨Nat.lt_of_lt_of_le hk HO1.out.size, by omega⟩
    have hw2 : ∀ k, k < w.heap.size → butOf W3 w.heap.size k := fun k hk => ⟨Nat.lt_of_lt_of_le hk (Nat.le_trans HO1.out.size HK3.out.size), by omega⟩
    exact ((HO1.out.after HK3.out hw).after hk4 hw2).alloc' _)
  clear hR hv4 hk4 HV2 HB2 HK3 HS
  have c2 : (W4.alloc (.cells (rowN 20 (blk R)) 28)).cell? ⟨b2, 0, none⟩ = some (.int .i64 100) := by
    rw [← HP.out]; exact (cell_of_row _ _ _ _ _ _ HB4.out).trans (blk_at 20 P 0 (by omega))
  have c3 : (W4.alloc (.cells (rowN 20 (blk R)) 28)).cell? ⟨W4.heap.size, 0, none⟩ = some (.int .i64 50) := by
    rw [← HF.out]; exact (cell_of_row _ _ _ _ _ _ HC4.out).trans (blk_at 20 R 0 (by omega))
  clear HB4 HC4 HP HF
  go_wp2_with (rw [← Hy.out]; with_reducible refine wpList_store_row rfl 28 _ _ rfl W4.heap.size (rowN 20 (blk R)) rfl rfl 28 _ (heap_alloc_new _ _) (by rw [rowN_size]; exact Hs20.out) (by rw [rowN_size]; exact ys.out) H20.out ?_; rw [World.setRow_alloc_new])
  refine (Lost_any _ _ _ _ HV4.out).mono ?_
  rintro e w' ⟨rfl, rfl⟩
  clear c2 c3
  go_wp2_with fail
  go_ret
  exact ⟨rfl, HO5.out⟩
end Go.Proofs.Ytlaoamlmpdbmmaa
