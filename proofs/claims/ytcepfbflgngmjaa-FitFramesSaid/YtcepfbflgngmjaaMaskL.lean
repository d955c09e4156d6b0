/- What the laws of stage 12 call: mask. -/
import Derived.Test.YtcepfbflgngmjaaFitD
namespace Go.Proofs.Ytcepfbflgngmjaa
set_option linter.unusedVariables false
set_option maxRecDepth 100000
set_option linter.unusedSimpArgs false
open Go.RowKit Go.ChangeShapes Go.WideShapes

theorem widthI_zero : widthI 0 = 0 := rfl
/-- A mask, number by number. -/
theorem wide_mask (X : Nat → Int) (hX : Fits64 X) (j : Nat) (hj : j < 4) : wideF (fun k => absI (X k)) j = maskI X j := by
  have A := fun k => absI_bd (X k) (hX k).1 (hX k).2
  have M : ∀ a b c d : Int, (0 ≤ a ∧ a ≤ 9223372036854775807) → (0 ≤ b ∧ b ≤ 9223372036854775807) → (0 ≤ c ∧ c ≤ 9223372036854775807) → (0 ≤ d ∧ d ≤ 9223372036854775807) → max (max (max (max 0 (widthI a)) (widthI b)) (widthI c)) (widthI d) = widthI (max (max (max (max 0 a) b) c) d) := by
    intro a b c d ha hb hc hd
    rw [widthI_max _ d (by omega) hd, widthI_max _ c (by omega) hc, widthI_max _ b (by omega) hb, widthI_max 0 a (by omega) ha, widthI_zero]
  rcases (show j = 0 ∨ j = 1 ∨ j = 2 ∨ j = 3 by omega) with rfl | rfl | rfl | rfl
  · exact M _ _ _ _ (A 0) (A 1) (A 2) (A 3)
  · exact M _ _ _ _ (A 4) (A 5) (A 6) (A 7)
  · exact M _ _ _ _ (A 8) (A 9) (A 10) (A 11)
  · exact M _ _ _ _ (A 12) (A 13) (A 14) (A 15)
set_option maxHeartbeats 1000000 in
theorem LMask_any (X : Nat → Int) (w : World) (hX : Fits64 X) :
    Calls Try.prog 11 #[.agg (rowN 16 (blk X))] w fun e w' => e = .returned (.agg (rowN 4 (blk (maskI X)))) ∧ Old w w' := by
  have hrow : rowN 4 (blk (wideF fun k => absI (X k))) = rowN 4 (blk (maskI X)) := rowN_ext _ _ _ fun k hk => by unfold blk; rw [wide_mask X hX k hk]
  rw [← hrow]
  have Hw4 : Hid ((Try.prog.info? 24).map (·.size) = some 4) := Lib.hid (by kernel_rfl)
  obtain ⟨z, hz⟩ : ∃ z : Array Value, z = #[.int .i64 0, .int .i64 0, .int .i64 0, .int .i64 0] := ⟨_, rfl⟩
  have hzs : z.size = 4 := by rw [hz]; rfl
  have H0 := WdSt.start w 23 24 X
  have HX := Lib.hid hX
  obtain ⟨G, hG⟩ : ∃ G, wideF (fun k => absI (X k)) = G := ⟨_, rfl⟩
  have HGd := Lib.hid hG
  rw [hG]
  clear hX hrow hG
  rw [show wideTo X 0 = wideTo (fun k => absI (X k)) 0 from rfl] at H0
  have H0 := Lib.hid H0
  go_enter Try.func11, Try.ntmps11
  go_wp2_with fail
  rw [← hz] at H0 ⊢
  clear hz
  go_loopw [4] (fun i wr => ∃ k : Nat, k ≤ 16 ∧ i = .int .i64 k ∧ Hid (WdSt w 23 24 z X (wideTo (fun k => absI (X k)) k) wr)) (fun i _ => 16 - (intOf i).toNat)
  case atStart => exact ⟨0, by omega, rfl, H0⟩
  case round =>
    obtain ⟨k, hk, rfl, hs⟩ := hrel
    clear H0
    by_cases hlt : k < 16
    · have k1 : (0 : Int) ≤ k := by omega
      have k2 : (k : Int) < 16 := by omega
      have cb := (cell_of_row _ _ _ _ _ _ hs.out.b).trans (blk_at 16 X k hlt)
      have hx := HX.out k
      have ha := absI_bd (X k) hx.1 hx.2
      have HA := Lib.hid (fun w => Abs_any (X k) w hx.1 hx.2)
      have hm4 : k / 4 < 4 := by omega
      have d0 : (0 : Int) ≤ (k : Int) / 4 := by omega
      have d1 : (k : Int) / 4 < 4 := by omega
      obtain ⟨c1, c2⟩ := hs.out.cell (k / 4) hm4
      have hsu := wideTo_succ (fun k => absI (X k)) k
      have h1 := hs.out.set (k / 4) hm4 (widthI (absI (X k)))
      have hyes : widthI (absI (X k)) > wideTo (fun k => absI (X k)) k (k / 4) → (fun j => if j = k / 4 then widthI (absI (X k)) else wideTo (fun k => absI (X k)) k j) = wideTo (fun k => absI (X k)) (k + 1) := fun h => by
        rw [← hsu]
        funext j
        try dsimp only
        split
        · omega
        · rfl
      have hno : ¬ widthI (absI (X k)) > wideTo (fun k => absI (X k)) k (k / 4) → wideTo (fun k => absI (X k)) k = wideTo (fun k => absI (X k)) (k + 1) := fun h => by
        rw [← hsu]
        funext j
        try dsimp only
        split
        · next e => rw [e]; omega
        · rfl
      have HYes := Lib.hid hyes
      have HNo := Lib.hid hno
      have H1 := Lib.hid h1
      have HW := Lib.hid (fun w => Width_any (absI (X k)) w (by omega) (by omega))
      have y0 := widthI_bd (absI (X k))
      have x0 := wideTo_bd (fun k => absI (X k)) k (k / 4)
      clear hsu h1 hyes hno hx
      generalize wideTo (fun k => absI (X k)) k (k / 4) = m at *
      generalize widthI (absI (X k)) = y at *
      generalize absI (X k) = a at *
      generalize X k = x at *
      go_wp2_with fail
      refine (HA.out _).mono ?_
      rintro e w1 ⟨rfl, rfl⟩
      go_wp2_with fail
      refine (HW.out _).mono ?_
      rintro e w1 ⟨rfl, rfl⟩
      by_cases c : m < y
      · have hn := H1.out
        rw [HYes.out c] at hn
        have HN := Lib.hid hn
        clear hn H1 HYes HNo hs
        go_wp2_with fail
        go_roundw
        case rel => exact ⟨k + 1, by omega, by go_num, HN⟩
        case measure => simp [intOf]; omega
      · have hn := hs.out
        rw [HNo.out (by omega)] at hn
        have HN := Lib.hid hn
        clear hn H1 HYes HNo hs
        go_wp2_with fail
        go_roundw
        case rel => exact ⟨k + 1, by omega, by go_num, HN⟩
        case measure => simp [intOf]; omega
    · obtain rfl : k = 16 := by omega
      have hst := hs.out
      rw [show wideTo (fun k => absI (X k)) 16 = wideF (fun k => absI (X k)) from rfl, HGd.out] at hst
      have HG := Lib.hid hst.g
      have HR := Lib.hid hst.r
      have HD := Lib.hid (hst.row (rowN 4 (blk G)))
      have H1 : Hid ((rowN 4 (blk G)).all (·.oneCell') = true) := Lib.hid (blk_one _ _)
      clear hs hst HX
      go_wp2_with (first | (with_reducible refine wpList_load_row rfl 24 _ rfl (w.heap.size + 1 + 1) rfl 24 (rowN 4 (blk G)) (0, 0) _ HG.out Try.underlying24 rfl (by rw [rowN_size]; exact Hw4.out) ?_) | (with_reducible refine wpList_store_row rfl 24 _ _ rfl (w.heap.size + 1) (rowN 4 (blk G)) rfl rfl 24 _ HR.out (by rw [rowN_size]; exact Hw4.out) (by rw [rowN_size]; exact hzs) H1.out ?_))
      exact bodyPost_ret (results_cell_row rfl _ _ (w.heap.size + 1) 24 (rowN 4 (blk G)) (0, 0) _ rfl HD.out.1 Try.underlying24 rfl (by rw [rowN_size]; exact Hw4.out)) rfl ⟨rfl, HD.out.2⟩
end Go.Proofs.Ytcepfbflgngmjaa
