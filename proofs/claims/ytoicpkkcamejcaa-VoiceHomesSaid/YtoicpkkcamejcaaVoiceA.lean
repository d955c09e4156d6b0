/- Contracts of voice's plain functions: whole, Phase, Blend. -/
import Derived.Test.YtoicpkkcamejcaaTapL
import Derived.Test.YtoicpkkcamejcaaNumL
namespace Go.Proofs.Ytoicpkkcamejcaa
set_option linter.unusedVariables false
open Go.RowKit Go.ChangeShapes Go.WideShapes

theorem vwhole_any (v : Int) (w : World) (h0 : 0 ≤ v) (h1 : v ≤ 9223372036854775807) :
    Calls Try.prog 16 #[.int .i64 v] w fun e w' => e = .returned (.int .i64 (v / 4294967296)) ∧ w = w' := by
  go_enter Try.func16, Try.ntmps16
  go_wp2_with fail
  go_ret
  exact ⟨rfl, rfl⟩
theorem Phase_any (v : Int) (w : World) (h0 : 0 ≤ v) (h1 : v ≤ 9223372036854775807) :
    Calls Try.prog 6 #[.int .i64 v] w fun e w' => e = .returned (.int .i64 (v / 134217728 % 32)) ∧ w = w' := by
  have hm := mask_and (v / 134217728) 5 (by omega)
  rw [show pw 5 - 1 = 31 from rfl, show pw 5 = 32 from rfl] at hm
  have HM := Lib.hid hm
  clear hm
  go_enter Try.func6, Try.ntmps6
  go_wp2_with fail
  go_ret
  exact ⟨by rw [HM.out]; rfl, rfl⟩
/-- The sum of the first numbers of two lists, each by its other. -/
def bsum (T X : Nat → Int) : Nat → Int
  | 0 => 0
  | k + 1 => bsum T X k + T k * X k
theorem tx_bd {t x : Int} (h1 : -262144 ≤ t) (h2 : t ≤ 262144) (h3 : -1048576 ≤ x) (h4 : x ≤ 1048576) : -274877906944 ≤ t * x ∧ t * x ≤ 274877906944 := by
  have a : t.natAbs * x.natAbs ≤ 262144 * 1048576 := Nat.mul_le_mul (by omega) (by omega)
  have b : (t * x).natAbs = t.natAbs * x.natAbs := Int.natAbs_mul t x
  omega
theorem bsum_bd {T X : Nat → Int} (hT : ∀ k, -262144 ≤ T k ∧ T k ≤ 262144) (hX : ∀ k, k < 4 → -1048576 ≤ X k ∧ X k ≤ 1048576) : ∀ n : Nat, n ≤ 4 → -((n : Int) * 274877906944) ≤ bsum T X n ∧ bsum T X n ≤ (n : Int) * 274877906944
  | 0, _ => by unfold bsum; omega
  | n + 1, h => by
    have ih := bsum_bd hT hX n (by omega)
    have := tx_bd (hT n).1 (hT n).2 (hX n (by omega)).1 (hX n (by omega)).2
    unfold bsum
    omega
/-- Four samples at a phase. -/
def blendI (X : Nat → Int) (q : Int) : Int := satI (roundI (bsum (tapI q) X 4) 65536)
set_option maxRecDepth 100000 in
set_option maxHeartbeats 1000000 in
theorem Blend_any (X : Nat → Int) (q : Int) (w : World) (hX : ∀ k, k < 4 → -1048576 ≤ X k ∧ X k ≤ 1048576) :
    Calls Try.prog 7 #[.agg (rowN 4 (blk X)), .int .i64 q] w fun e w' => e = .returned (.int .i64 (blendI X q)) ∧ Old w w' := by
  have HT := Lib.hid (fun w => Taps_any q w)
  have HB := Lib.hid (fun n h => bsum_bd (X := X) (tapI_bd q) hX n h)
  have HTb := Lib.hid (tapI_bd q)
  have HXb := Lib.hid hX
  unfold blendI
  generalize tapI q = T at *
  have HR := Lib.hid (fun w => Round_any (bsum T X 4) 16 w (by omega) (by omega) (by have := HB.out 4 (by omega); omega) (by have := HB.out 4 (by omega); omega))
  have HS := Lib.hid (fun w => Sat_any (roundI (bsum T X 4) 65536) w)
  obtain ⟨W, hW⟩ : ∃ W, W = w.alloc (.cells (rowN 4 (blk X)) 22) := ⟨_, rfl⟩
  obtain ⟨g, hg⟩ : ∃ g, g = w.heap.size := ⟨_, rfl⟩
  have HC : Hid (W.heap[g]? = some (.cells (rowN 4 (blk X)) 22 (0, 0))) := Lib.hid (by rw [hW, hg]; exact heap_alloc_new _ _)
  have HO : Hid (Old w W) := Lib.hid (by rw [hW]; exact Old.alloc _ _)
  have HW := Lib.hid hW
  have HG := Lib.hid hg
  clear hW hg hX
  go_enter Try.func7, Try.ntmps7
  go_wp2_with fail
  rw [← HW.out, ← HG.out]
  refine (HT.out _).mono ?_
  rintro e w1 ⟨rfl, ho⟩
  have HC1 : Hid (∀ k, k < 4 → w1.cell? ⟨g, k, none⟩ = some (.int .i64 (X k))) := Lib.hid fun k hk => (cell_of_row _ _ _ _ _ _ ((ho.block _ (lt_of_block HC.out)).trans HC.out)).trans (blk_at 4 X k hk)
  have HO1 := Lib.hid (HO.out.trans ho)
  clear ho HC HO HW HG HT
  go_wp2_with fail
  go_loop [5, 10] (fun s i => ∃ k : Nat, k ≤ 4 ∧ i = .int .i64 k ∧ s = .int .i64 (bsum T X k)) (fun _ i => 4 - (intOf i).toNat)
  case atStart => exact ⟨0, by omega, rfl, rfl⟩
  case round =>
    obtain ⟨k, hk, rfl, rfl⟩ := hrel
    by_cases hlt : k < 4
    · have i1 : (0 : Int) ≤ k := by omega
      have i2 : (k : Int) < 4 := by omega
      have hat : ∀ w : World, (Instr.index 34 (.agg (rowN 4 (blk T))) (.int .i64 k)).run Try.prog w = .ok (.int .i64 (T k)) w := fun w => run_index_ints Try.underlying34 Try.underlying2 (fun _ => by kernel_rfl) T k hlt w
      have hc := HC1.out k hlt
      obtain ⟨b1, b2⟩ := HB.out k (by omega)
      obtain ⟨b3, b4⟩ := tx_bd (HTb.out k).1 (HTb.out k).2 (HXb.out k hlt).1 (HXb.out k hlt).2
      obtain ⟨p, hpd⟩ : ∃ p, T k * X k = p := ⟨_, rfl⟩
      have hp : wrap64 (T k * X k) = p := by rw [hpd]; exact IntWalk.wrap64_in _ (by omega)
      have HN : Hid (bsum T X (k + 1) = bsum T X k + p) := Lib.hid (by rw [← hpd]; rfl)
      rw [hpd] at b3 b4
      clear HB HTb HXb HC1 HR HS hpd
      have b5 : -1099511627776 ≤ bsum T X k := by omega
      have b6 : bsum T X k ≤ 1099511627776 := by omega
      clear b1 b2
      generalize bsum T X k = s at *
      generalize T k = t at *
      generalize X k = x at *
      go_wp2_with fail
      go_round
      case rel => exact ⟨k + 1, by omega, by go_num, by rw [HN.out]⟩
      case measure => simp [intOf]; omega
    · obtain rfl : k = 4 := by omega
      clear hlt hk
      go_wp2_with fail
      refine (HR.out _).mono ?_
      rintro e w2 ⟨rfl, n2, rfl⟩
      go_wp2_with fail
      refine (HS.out _).mono ?_
      rintro e w3 ⟨rfl, rfl⟩
      go_wp2_with fail
      go_ret
      exact ⟨rfl, HO1.out.drewN _⟩
theorem awake21_any (w : World) : Calls Try.prog 5 #[] w fun e w' => e = .returned (.bool true) ∧ Old w w' := by
  have hB := fun w => Blend_any (fun k => 100 * (k : Int)) 16 w (fun k hk => by omega)
  rw [show blendI (fun k => 100 * (k : Int)) 16 = 150 from by decide +kernel, show rowN 4 (blk fun k => 100 * (k : Int)) = #[.int .i64 0, .int .i64 100, .int .i64 200, .int .i64 300] from rfl] at hB
  have HB := Lib.hid hB
  clear hB
  go_enter Try.func5, Try.ntmps5
  go_wp2_with fail
  refine (HB.out _).mono ?_
  rintro e w1 ⟨rfl, ho⟩
  have HO := Lib.hid ho
  clear ho
  go_wp2_with fail
  go_ret
  exact ⟨rfl, HO.out⟩
set_option maxRecDepth 100000 in
set_option maxHeartbeats 1000000 in
theorem lawBlend_any (X : Nat → Int) (q : Int) (w : World) (hX : ∀ k, k < 4 → -1048576 ≤ X k ∧ X k ≤ 1048576) :
    Calls Try.prog 8 #[.agg (rowN 4 (blk X)), .int .i64 q] w fun e w' => e = .returned (.int .i64 (blendI X q)) ∧ Old w w' := by
  have Hs4 : Hid ((Try.prog.info? 34).map (·.size) = some 4) := Lib.hid (by kernel_rfl)
  have HT := Lib.hid (fun w => Taps_any q w)
  have HB := Lib.hid (fun n h => bsum_bd (X := X) (tapI_bd q) hX n h)
  have HTb := Lib.hid (tapI_bd q)
  have HXb := Lib.hid hX
  unfold blendI
  generalize tapI q = T at *
  have HR := Lib.hid (fun w => Round_any (bsum T X 4) 16 w (by omega) (by omega) (by have := HB.out 4 (by omega); omega) (by have := HB.out 4 (by omega); omega))
  have HS := Lib.hid (fun w => Sat_any (roundI (bsum T X 4) 65536) w)
  have HT1 : Hid ((rowN 4 (blk T)).all (·.oneCell') = true) := Lib.hid (blk_one T 4)
  obtain ⟨W, hW⟩ : ∃ W, W = w.alloc (.cells (rowN 4 (blk X)) 22) := ⟨_, rfl⟩
  obtain ⟨g, hg⟩ : ∃ g, g = w.heap.size := ⟨_, rfl⟩
  have HC : Hid (W.heap[g]? = some (.cells (rowN 4 (blk X)) 22 (0, 0))) := Lib.hid (by rw [hW, hg]; exact heap_alloc_new _ _)
  have HO : Hid (Old w W) := Lib.hid (by rw [hW]; exact Old.alloc _ _)
  have HW := Lib.hid hW
  have HG := Lib.hid hg
  clear hW hg hX
  go_enter Try.func8, Try.ntmps8
  go_wp2_with fail
  rw [← HW.out, ← HG.out]
  refine (HT.out _).mono ?_
  rintro e w1 ⟨rfl, ho⟩
  go_wp2_with (with_reducible refine wpList_store_row rfl 34 _ _ rfl w1.heap.size (rowN 4 (blk T)) rfl rfl 34 _ (heap_alloc_new _ _) (by rw [rowN_size]; exact Hs4.out) (by rw [rowN_size]; kernel_rfl) HT1.out ?_; rw [World.setRow_alloc_new])
  obtain ⟨V, hV⟩ : ∃ V, V = w1.alloc (.cells (rowN 4 (blk T)) 34) := ⟨_, rfl⟩
  obtain ⟨b, hb⟩ : ∃ b, b = w1.heap.size := ⟨_, rfl⟩
  have HO1 : Hid (Old w V) := Lib.hid (by rw [hV]; exact (HO.out.trans ho).alloc' _)
  have HX1 : Hid (V.heap[g]? = some (.cells (rowN 4 (blk X)) 22 (0, 0))) := Lib.hid (by
    have h1 := (ho.block _ (lt_of_block HC.out)).trans HC.out
    rw [hV]; exact ((Old.alloc _ _).block _ (lt_of_block h1)).trans h1)
  have HT2 : Hid (V.heap[b]? = some (.cells (rowN 4 (blk T)) 34 (0, 0))) := Lib.hid (by rw [hV, hb]; exact heap_alloc_new _ _)
  rw [← hV, ← hb]
  have HC1 : Hid (∀ U, Old V U → ∀ k, k < 4 → U.cell? ⟨g, k, none⟩ = some (.int .i64 (X k)) ∧ U.cell? ⟨b, k, none⟩ = some (.int .i64 (T k))) := Lib.hid fun U hU k hk =>
    ⟨(cell_of_row _ _ _ _ _ _ ((hU.block _ (lt_of_block HX1.out)).trans HX1.out)).trans (blk_at 4 X k hk), (cell_of_row _ _ _ _ _ _ ((hU.block _ (lt_of_block HT2.out)).trans HT2.out)).trans (blk_at 4 T k hk)⟩
  clear ho HC HO HW HG HT HX1 HT2 HT1 Hs4 hV hb
  go_wp2_with fail
  go_loopw [6, 7] (fun s i wr => ∃ k : Nat, k ≤ 4 ∧ i = .int .i64 k ∧ s = .int .i64 (bsum T X k) ∧ Hid (Old V wr)) (fun _ i _ => 4 - (intOf i).toNat)
  case atStart => exact ⟨0, by omega, rfl, rfl, Lib.hid (Old.refl _)⟩
  case round =>
    obtain ⟨k, hk, rfl, rfl, HVr⟩ := hrel
    by_cases hlt : k < 4
    · have i1 : (0 : Int) ≤ k := by omega
      have i2 : (k : Int) < 4 := by omega
      obtain ⟨hc, hd⟩ := HC1.out wr HVr.out k hlt
      obtain ⟨b1, b2⟩ := HB.out k (by omega)
      obtain ⟨b3, b4⟩ := tx_bd (HTb.out k).1 (HTb.out k).2 (HXb.out k hlt).1 (HXb.out k hlt).2
      obtain ⟨p, hpd⟩ : ∃ p, T k * X k = p := ⟨_, rfl⟩
      have hp : wrap64 (T k * X k) = p := by rw [hpd]; exact IntWalk.wrap64_in _ (by omega)
      have HN : Hid (bsum T X (k + 1) = bsum T X k + p) := Lib.hid (by rw [← hpd]; rfl)
      rw [hpd] at b3 b4
      clear HB HTb HXb HC1 HR HS hpd
      have b5 : -1099511627776 ≤ bsum T X k := by omega
      have b6 : bsum T X k ≤ 1099511627776 := by omega
      clear b1 b2
      generalize bsum T X k = s at *
      generalize T k = t at *
      generalize X k = x at *
      go_wp2_with fail
      go_quiet (fail)
      go_wp2_with fail
      go_roundw
      case rel => exact ⟨k + 1, by omega, by go_num, by rw [HN.out], Lib.hid (HVr.out.drewN _)⟩
      case measure => simp [intOf]; omega
    · obtain rfl : k = 4 := by omega
      have HO2 := Lib.hid (HO1.out.trans HVr.out)
      clear hlt hk HVr HO1 HC1
      go_wp2_with fail
      refine (HR.out _).mono ?_
      rintro e w2 ⟨rfl, n2, rfl⟩
      go_wp2_with fail
      refine (HS.out _).mono ?_
      rintro e w3 ⟨rfl, rfl⟩
      go_wp2_with fail
      go_ret
      exact ⟨rfl, HO2.out.drewN _⟩
end Go.Proofs.Ytoicpkkcamejcaa
