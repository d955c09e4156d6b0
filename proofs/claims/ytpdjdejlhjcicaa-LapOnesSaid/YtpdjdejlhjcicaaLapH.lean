/- Package lap: parted and One. (by wip/tools/laph.py and exp.py) -/
import Derived.Test.YtpdjdejlhjcicaaLapD
import Derived.Test.YtpdjdejlhjcicaaLapB
import Derived.Test.YtpdjdejlhjcicaaGainU
namespace Go.Proofs.Ytpdjdejlhjcicaa
set_option linter.unusedVariables false
set_option linter.unusedSimpArgs false
open Go.RowKit

/-- A number of a block, parted from the one that it meets. -/
def partI (f h : Nat → Int) (i : Nat) : Int := if 8 ≤ i then backWA (f i) (h (15 - i)) (turnP (15 - i)) (turnU (15 - i)) else backWB (h (15 - i)) (f i) (turnP i) (turnU i)
theorem partI_bd (f h : Nat → Int) (i : Nat) : -9223372036854775808 ≤ partI f h i ∧ partI f h i ≤ 9223372036854775807 := by
  unfold partI
  split <;> exact wrap64_bd _
theorem Try.arr8_size : (Try.prog.info? 82).map (·.size) = some 8 := by kernel_rfl
theorem Try.arr8_len : Try.prog.arrayLen 82 = 8 := by kernel_rfl
theorem Try.arr8_elem : ∀ w, (sizeOf (Try.prog.elem 82)).run Try.prog w = .ok 1 w := fun w => by kernel_rfl
theorem Try.arr8_under : Try.prog.underlying 82 = some (.array (Try.prog.arrayLen 82) (Try.prog.elem 82)) := by kernel_rfl
set_option maxRecDepth 100000 in
theorem parted_nil (bb i : Nat) (f : Nat → Int) (w : World) (hb : bb < w.heap.size) (hc : ∀ k, k < 16 → w.cell? ⟨bb, k, none⟩ = some (.int .i64 (f k))) (hi : i < 16) :
    Calls Try.prog 40 #[.agg T8, .pointer (some ⟨bb, 0, none⟩), .pointer none, .int .i64 i] w fun e w' => e = .returned (.int .i64 (f i)) ∧ Old w w' := by
  have c1 : (w.alloc (.cells T8 49)).cell? ⟨bb, i, none⟩ = some (.int .i64 (f i)) := ((Old.alloc w _).cell (a := ⟨bb, i, none⟩) hb).trans (hc i hi)
  have i1 : (0 : Int) ≤ i := by omega
  have i2 : (i : Int) < 16 := by omega
  have hs := T8_size
  clear hc
  generalize f i = x at *
  generalize T8 = R at *
  go_enter Try.func40, Try.ntmps40
  go_wp2_with fail
  go_ret
  exact ⟨rfl, Old.alloc _ _⟩

theorem zero8 : (#[.int .i64 0, .int .i64 0, .int .i64 0, .int .i64 0, .int .i64 0, .int .i64 0, .int .i64 0, .int .i64 0] : Array Value) = rowN 8 (blk fun _ => 0) := rfl
set_option maxRecDepth 100000 in
set_option maxHeartbeats 4000000 in
theorem parted_some (bb bo i : Nat) (f h : Nat → Int) (w : World) (hb : bb < w.heap.size) (ho : bo < w.heap.size) (hc : ∀ k, k < 16 → w.cell? ⟨bb, k, none⟩ = some (.int .i64 (f k))) (hd : ∀ k, k < 16 → w.cell? ⟨bo, k, none⟩ = some (.int .i64 (h k))) (hi : i < 16) :
    Calls Try.prog 40 #[.agg T8, .pointer (some ⟨bb, 0, none⟩), .pointer (some ⟨bo, 0, none⟩), .int .i64 i] w fun e w' => e = .returned (.int .i64 (partI f h i)) ∧ Old w w' := by
  have i1 : (0 : Int) ≤ i := by omega
  have i2 : (i : Int) < 16 := by omega
  have r1 : (i : Int) ≤ 15 := by omega
  have r2 : 15 - (i : Int) < 16 := by omega
  have hs := T8_size
  have HZ : Hid ((Try.prog.info? 47).map (·.size) = some 16) := Lib.hid (by kernel_rfl)
  obtain ⟨W0, hW0⟩ : ∃ V, V = ((w.alloc (.cells T8 49)).alloc (.cells #[.int .i64 0, .int .i64 0, .int .i64 0, .int .i64 0, .int .i64 0, .int .i64 0, .int .i64 0, .int .i64 0] 82)).alloc (.cells #[.int .i64 0, .int .i64 0, .int .i64 0, .int .i64 0, .int .i64 0, .int .i64 0, .int .i64 0, .int .i64 0] 82) := ⟨_, rfl⟩
  have o0 : Old w W0 := by rw [hW0]; exact ((Old.alloc w _).alloc' _).alloc' _
  have HC : Hid (∀ V, Old W0 V → V.cell? ⟨bb, i, none⟩ = some (.int .i64 (f i)) ∧ V.cell? ⟨bo, 15 - i, none⟩ = some (.int .i64 (h (15 - i)))) := fun V hV =>
    ⟨((o0.trans hV).cell (a := ⟨bb, i, none⟩) hb).trans (hc i hi), ((o0.trans hV).cell (a := ⟨bo, 15 - i, none⟩) ho).trans (hd (15 - i) (by omega))⟩
  have hA : CellsAt W0 (w.heap.size + 1) 8 (fun _ => 0) := by
    rw [hW0, zero8]
    have := cellsAt_new (w.alloc (.cells T8 49)) 8 (fun _ => 0) 82
    rw [World.size_alloc] at this
    exact this.old (Old.alloc _ _)
  have hB : CellsAt W0 (w.heap.size + 1 + 1) 8 (fun _ => 0) := by
    rw [hW0, zero8]
    have := cellsAt_new ((w.alloc (.cells T8 49)).alloc (.cells (rowN 8 (blk fun _ => 0)) 82)) 8 (fun _ => 0) 82
    rw [World.size_alloc, World.size_alloc] at this
    exact this
  have hX : W0.heap[w.heap.size]? = some (.cells T8 49 (0, 0)) := by rw [hW0]; exact (Below.heap_alloc _ _ _ (by simp; omega)).trans ((Below.heap_alloc _ _ _ (by simp)).trans (heap_alloc_new _ _))
  have hsz : W0.heap.size = w.heap.size + 1 + 1 + 1 := by rw [hW0]; simp
  have HX := Lib.hid hX
  have HA := Lib.hid hA
  have HB := Lib.hid hB
  have HO := Lib.hid o0
  have HSz := Lib.hid hsz
  have hS1 := fun o w => slice_arr_all (P := Try.prog) (t := 82) 8 Try.arr8_under Try.arr8_len Try.arr8_elem (by omega) (w.heap.size + 1) o w
  have hS2 := fun (V : World) => slice_arr_all (P := Try.prog) (t := 82) 8 Try.arr8_under Try.arr8_len Try.arr8_elem (by omega) (w.heap.size + 1) 0 V
  have hS3 := fun (V : World) => slice_arr_all (P := Try.prog) (t := 82) 8 Try.arr8_under Try.arr8_len Try.arr8_elem (by omega) (w.heap.size + 1 + 1) 0 V
  have HPB := Lib.hid (fun (fa F : Nat → Int) (V : World) (ha : CellsAt V (w.heap.size + 1) 8 fa) (hb : CellsAt V (w.heap.size + 1 + 1) 8 F) (hsz : w.heap.size < V.heap.size) => PBack_any (fun q => q < w.heap.size + 1) (w.heap.size + 1) (w.heap.size + 1 + 1) 8 0 8 8 fa F V ha hb (by omega) (by omega) (by omega) (by omega) (fun q hq => by omega))
  clear hS1 hA hB hX o0 hsz hc hd

  by_cases h8 : 8 ≤ i
  · have k8 : (15 - i) < 8 := by omega
    have m1 : (15 - (i : Int)) < 8 := by omega
    have m2 : (i : Int) ≥ 15 - (i : Int) := by omega
    have m3 : 0 ≤ (15 - (i : Int)) := by omega
    have e : partI f h i = backWA (f i) (h (15 - i)) (turnP (15 - i)) (turnU (15 - i)) := by unfold partI; rw [if_pos (by omega)]
    rw [e]
    have HSt : Hid (∀ V, V = ((W0.setCell ⟨w.heap.size + 1, (15 - i), none⟩ (.int .i64 (f i))).setCell ⟨w.heap.size + 1 + 1, (15 - i), none⟩ (.int .i64 (h (15 - i)))).drew → CellsAt V (w.heap.size + 1) 8 (fun j => if j = (15 - i) then f i else 0) ∧ CellsAt V (w.heap.size + 1 + 1) 8 (fun j => if j = (15 - i) then h (15 - i) else 0) ∧
        V.heap[w.heap.size]? = some (.cells T8 49 (0, 0)) ∧ Old w V) := by
      rintro V rfl
      refine ⟨?_, ?_, ?_, ?_⟩
      · exact ((HA.out.drew.set (15 - i) k8 (f i)).setOther (a := ⟨w.heap.size + 1 + 1, 15 - i, none⟩) (by show w.heap.size + 1 + 1 ≠ w.heap.size + 1; omega) _)
      · exact ((HB.out.drew.setOther (a := ⟨w.heap.size + 1, 15 - i, none⟩) (by show w.heap.size + 1 ≠ w.heap.size + 1 + 1; omega) _).set (15 - i) k8 (h (15 - i)))
      · exact (Below.heap_setCell _ _ _ _ (by show w.heap.size ≠ w.heap.size + 1 + 1; omega)).trans ((Below.heap_setCell _ _ _ _ (by show w.heap.size ≠ w.heap.size + 1; omega)).trans HX.out)
      · exact (HO.out.drew.after (Kept.setCell (X := fun q => q < w.heap.size) _ (a := ⟨w.heap.size + 1, (15 - i), none⟩) (by show ¬ w.heap.size + 1 < w.heap.size; omega) _) fun _ h => h).after (Kept.setCell (X := fun q => q < w.heap.size) _ (a := ⟨w.heap.size + 1 + 1, (15 - i), none⟩) (by show ¬ w.heap.size + 1 + 1 < w.heap.size; omega) _) fun _ h => h
    have d1 : W0.drew.cell? ⟨w.heap.size + 1, (15 - i), none⟩ = some (.int .i64 0) := HA.out.drew.cell _ k8
    have d2 : W0.drew.frozen? ⟨w.heap.size + 1, (15 - i), none⟩ = false := HA.out.drew.frz _ k8
    have d3 : (W0.drew.setCell ⟨w.heap.size + 1, (15 - i), none⟩ (.int .i64 (f i))).cell? ⟨w.heap.size + 1 + 1, (15 - i), none⟩ = some (.int .i64 0) := (HB.out.drew.setOther (a := ⟨w.heap.size + 1, (15 - i), none⟩) (by show w.heap.size + 1 ≠ w.heap.size + 1 + 1; omega) _).cell _ k8
    have d4 : (W0.drew.setCell ⟨w.heap.size + 1, (15 - i), none⟩ (.int .i64 (f i))).frozen? ⟨w.heap.size + 1 + 1, (15 - i), none⟩ = false := (HB.out.drew.setOther (a := ⟨w.heap.size + 1, (15 - i), none⟩) (by show w.heap.size + 1 ≠ w.heap.size + 1 + 1; omega) _).frz _ k8
    have d5 : W0.cell? ⟨w.heap.size + 1 + 1, (15 - i), none⟩ = some (.int .i64 0) := HB.out.cell _ k8
    have d6 : W0.frozen? ⟨w.heap.size + 1 + 1, (15 - i), none⟩ = false := HB.out.frz _ k8
    have HC2 : Hid (∀ V, V = W0.drew ∨ V = W0.drew.setCell ⟨w.heap.size + 1, (15 - i), none⟩ (.int .i64 (f i)) ∨ V = (W0.drew.setCell ⟨w.heap.size + 1, (15 - i), none⟩ (.int .i64 (f i))).setCell ⟨w.heap.size + 1 + 1, (15 - i), none⟩ (.int .i64 (h (15 - i))) → V.cell? ⟨bb, i, none⟩ = some (.int .i64 (f i)) ∧ V.cell? ⟨bo, 15 - i, none⟩ = some (.int .i64 (h (15 - i)))) := fun V hV => by
      obtain ⟨c1, c2⟩ := HC.out W0.drew (Old.drew (Old.refl _))
      have n1 : bb ≠ w.heap.size + 1 := by omega
      have n2 : bb ≠ w.heap.size + 1 + 1 := by omega
      have n3 : bo ≠ w.heap.size + 1 := by omega
      have n4 : bo ≠ w.heap.size + 1 + 1 := by omega
      rcases hV with rfl | rfl | rfl
      · exact ⟨c1, c2⟩
      · exact ⟨(World.cell?_setCell_far _ _ _ _ (by simp; omega)).trans c1, (World.cell?_setCell_far _ _ _ _ (by simp; omega)).trans c2⟩
      · exact ⟨(World.cell?_setCell_far _ _ _ _ (by simp; omega)).trans ((World.cell?_setCell_far _ _ _ _ (by simp; omega)).trans c1), (World.cell?_setCell_far _ _ _ _ (by simp; omega)).trans ((World.cell?_setCell_far _ _ _ _ (by simp; omega)).trans c2)⟩
    have hRes : ∀ V, CellsAt V (w.heap.size + 1) 8 (metA backWA (fun j => if j = (15 - i) then f i else 0) (fun j => (fun j => if j = (15 - i) then h (15 - i) else 0) (0 + j))) → CellsAt V (w.heap.size + 1 + 1) 8 (patch (fun j => if j = (15 - i) then h (15 - i) else 0) 0 8 (metA backWB (fun j => if j = (15 - i) then f i else 0) (fun j => (fun j => if j = (15 - i) then h (15 - i) else 0) (0 + j)))) → V.cell? ⟨w.heap.size + 1, (15 - i), none⟩ = some (.int .i64 (backWA (f i) (h (15 - i)) (turnP (15 - i)) (turnU (15 - i)))) := fun V h1 h2 => by
      have h := h1.cell (15 - i) k8
      rw [h]
      unfold metA
      dsimp only
      rw [if_pos rfl, if_pos (by omega)]
    have HRes := Lib.hid hRes
    clear hRes e HC HA HB HX HO
    obtain ⟨xf, hxf⟩ : ∃ x, x = f i := ⟨_, rfl⟩
    obtain ⟨xh, hxh⟩ : ∃ x, x = h (15 - i) := ⟨_, rfl⟩
    obtain ⟨xr, hxr⟩ : ∃ x, x = backWA (f i) (h (15 - i)) (turnP (15 - i)) (turnU (15 - i)) := ⟨_, rfl⟩
    rw [← hxr] at HRes ⊢
    rw [← hxf, ← hxh] at HSt HC2 HRes
    rw [← hxf] at d3 d4
    clear hxf hxh hxr
    generalize hT : T8 = R at hs HSt HPB hW0 ⊢
    clear hT
    go_enter Try.func40, Try.ntmps40
    go_wp2_with fail
    rw [← hW0]
    clear hW0
    refine wp_region_held_drew (S := (fun w' => w'.cell? ⟨bb, i, none⟩ = some (.int .i64 xf) ∧ w'.cell? ⟨bo, 15 - i, none⟩ = some (.int .i64 xh))) (by kernel_rfl) ?_ (fun hHeld => ?_)
    · (try dsimp only); exact HC2.out _ (.inl rfl)
    refine wpAnyH_take (i := 0) (oi := ⟨some _, _, _, _, _, _⟩) (v := ?_) rfl (by kernel_rfl) (by kernel_rfl) (by kernel_rfl) (fun _ _ _ h => h) (Or.inl ⟨by kernel_rfl, ?_⟩) (by assumption) ?_; rotate_left; (intro w hSw; (try dsimp only at hSw); go_simp; try with_reducible rfl); try simp only [Act.put, List.setIfInBounds_toArray, List.set_cons_zero, List.set_cons_succ]
    refine wpAnyH_take (i := 1) (oi := ⟨some _, _, _, _, _, _⟩) (v := ?_) rfl (by kernel_rfl) (by kernel_rfl) (by kernel_rfl) (fun _ _ _ h => h) (Or.inl ⟨by kernel_rfl, ?_⟩) (by assumption) ?_; rotate_left; (intro w hSw; (try dsimp only at hSw); go_simp; try with_reducible rfl); try simp only [Act.put, List.setIfInBounds_toArray, List.set_cons_zero, List.set_cons_succ]
    refine wpAnyH_take (i := 2) (oi := ⟨some _, _, _, _, _, _⟩) (v := ?_) rfl (by kernel_rfl) (by kernel_rfl) (by kernel_rfl) (fun _ _ _ h => h) (Or.inl ⟨by kernel_rfl, ?_⟩) (by assumption) ?_; rotate_left; (intro w hSw; (try dsimp only at hSw); go_simp; try with_reducible rfl); try simp only [Act.put, List.setIfInBounds_toArray, List.set_cons_zero, List.set_cons_succ]
    refine wpAnyH_take (i := 3) (oi := ⟨some _, _, _, _, _, _⟩) (v := ?_) rfl (by kernel_rfl) (by kernel_rfl) (by kernel_rfl) (fun _ _ _ h => h) (Or.inl ⟨by kernel_rfl, ?_⟩) (by assumption) ?_; rotate_left; (intro w hSw; (try dsimp only at hSw); go_simp; try with_reducible rfl); try simp only [Act.put, List.setIfInBounds_toArray, List.set_cons_zero, List.set_cons_succ]
    refine wpAnyH_take (i := 4) (oi := ⟨some _, _, _, _, _, _⟩) (v := ?_) rfl (by kernel_rfl) (by kernel_rfl) (by kernel_rfl) (fun _ _ _ h => h) (Or.inl ⟨by kernel_rfl, ?_⟩) (by assumption) ?_; rotate_left; (intro w hSw; (try dsimp only at hSw); go_simp; try with_reducible rfl); try simp only [Act.put, List.setIfInBounds_toArray, List.set_cons_zero, List.set_cons_succ]
    refine wpAnyH_take (i := 5) (oi := ⟨some _, _, _, _, _, _⟩) (v := ?_) rfl (by kernel_rfl) (by kernel_rfl) (by kernel_rfl) (fun _ _ _ h => h) (Or.inl ⟨by kernel_rfl, ?_⟩) (by assumption) ?_; rotate_left; (intro w hSw; (try dsimp only at hSw); go_simp; try with_reducible rfl); try simp only [Act.put, List.setIfInBounds_toArray, List.set_cons_zero, List.set_cons_succ]
    refine wpAnyH_take (i := 6) (oi := ⟨some _, _, _, _, _, _⟩) (v := ?_) rfl (by kernel_rfl) (by kernel_rfl) (by kernel_rfl) (fun _ _ _ h => h) (Or.inl ⟨by kernel_rfl, ?_⟩) (by assumption) ?_; rotate_left; (intro w hSw; (try dsimp only at hSw); go_simp; try with_reducible rfl); try simp only [Act.put, List.setIfInBounds_toArray, List.set_cons_zero, List.set_cons_succ]
    refine wpAnyH_take (i := 7) (oi := ⟨some _, _, _, _, _, _⟩) (v := ?_) rfl (by kernel_rfl) (by kernel_rfl) (by kernel_rfl) (fun _ _ _ h => h) (Or.inl ⟨by kernel_rfl, ?_⟩) (by assumption) ?_; rotate_left; (intro w hSw; (try dsimp only at hSw); go_simp; try with_reducible rfl); try simp only [Act.put, List.setIfInBounds_toArray, List.set_cons_zero, List.set_cons_succ]
    refine wpAnyH_take (i := 8) (oi := ⟨some _, _, _, _, _, _⟩) (v := ?_) rfl (by kernel_rfl) (by kernel_rfl) (by kernel_rfl) (fun _ _ _ h => h) (Or.inl ⟨by kernel_rfl, ?_⟩) (by assumption) ?_; rotate_left; (intro w hSw; (try dsimp only at hSw); go_simp; try with_reducible rfl); try simp only [Act.put, List.setIfInBounds_toArray, List.set_cons_zero, List.set_cons_succ]
    refine wpAnyH_take (i := 9) (oi := ⟨some _, _, _, _, _, _⟩) (v := ?_) rfl (by kernel_rfl) (by kernel_rfl) (by kernel_rfl) (fun _ _ _ h => h) (Or.inl ⟨by kernel_rfl, ?_⟩) (by assumption) ?_; rotate_left; (intro w hSw; (try dsimp only at hSw); go_simp; try with_reducible rfl); try simp only [Act.put, List.setIfInBounds_toArray, List.set_cons_zero, List.set_cons_succ]
    refine wpAnyH_take (i := 10) (oi := ⟨some _, _, _, _, _, _⟩) (v := ?_) rfl (by kernel_rfl) (by kernel_rfl) (by kernel_rfl) (fun _ _ _ h => h) (Or.inl ⟨by kernel_rfl, ?_⟩) (by assumption) ?_; rotate_left; (intro w hSw; (try dsimp only at hSw); go_simp; try with_reducible rfl); try simp only [Act.put, List.setIfInBounds_toArray, List.set_cons_zero, List.set_cons_succ]
    refine wpAnyH_take (i := 11) (oi := ⟨some _, _, _, _, _, _⟩) (v := ?_) rfl (by kernel_rfl) (by kernel_rfl) (by kernel_rfl) (fun _ _ _ h => h) (Or.inl ⟨by kernel_rfl, ?_⟩) (by assumption) ?_; rotate_left; (intro w hSw; (try dsimp only at hSw); go_simp; try with_reducible rfl); try simp only [Act.put, List.setIfInBounds_toArray, List.set_cons_zero, List.set_cons_succ]
    refine wpAnyH_take (i := 12) (oi := ⟨some _, _, _, _, _, _⟩) (v := ?_) rfl (by kernel_rfl) (by kernel_rfl) (by kernel_rfl) (fun _ _ _ h => h) (Or.inl ⟨by kernel_rfl, ?_⟩) (by assumption) ?_; rotate_left; (intro w hSw; (try dsimp only at hSw); go_simp; try with_reducible rfl); try simp only [Act.put, List.setIfInBounds_toArray, List.set_cons_zero, List.set_cons_succ]
    refine wpAnyH_take (i := 13) (oi := ⟨some _, _, _, _, _, _⟩) (v := ?_) rfl (by kernel_rfl) (by kernel_rfl) (by kernel_rfl) (fun _ _ _ h => h) (Or.inl ⟨by kernel_rfl, ?_⟩) (by assumption) ?_; rotate_left; (intro w hSw; (try dsimp only at hSw); go_simp; try with_reducible rfl); try simp only [Act.put, List.setIfInBounds_toArray, List.set_cons_zero, List.set_cons_succ]
    refine wpAnyH_take (i := 14) (oi := ⟨some _, _, _, _, _, _⟩) (v := ?_) rfl (by kernel_rfl) (by kernel_rfl) (by kernel_rfl) (fun _ _ _ h => h) (Or.inl ⟨by kernel_rfl, ?_⟩) (by assumption) ?_; rotate_left; (intro w hSw; (try dsimp only at hSw); go_simp; try with_reducible rfl); try simp only [Act.put, List.setIfInBounds_toArray, List.set_cons_zero, List.set_cons_succ]
    refine wpAnyH_take (i := 15) (oi := ⟨some _, _, _, _, _, _⟩) (v := ?_) rfl (by kernel_rfl) (by kernel_rfl) (by kernel_rfl) (fun _ _ _ h => h) (Or.inl ⟨by kernel_rfl, ?_⟩) (by assumption) ?_; rotate_left; (intro w hSw; (try dsimp only at hSw); go_simp; try with_reducible rfl); try simp only [Act.put, List.setIfInBounds_toArray, List.set_cons_zero, List.set_cons_succ]
    refine wpAnyH_take (i := 17) (oi := ⟨some _, _, _, _, _, _⟩) (v := ?_) rfl (by kernel_rfl) (by kernel_rfl) (by kernel_rfl) (fun _ _ _ h => h) (Or.inl ⟨by kernel_rfl, ?_⟩) (by assumption) ?_; rotate_left; (intro w hSw; (try dsimp only at hSw); go_simp; try with_reducible rfl); try simp only [Act.put, List.setIfInBounds_toArray, List.set_cons_zero, List.set_cons_succ]
    refine wpAnyH_ready (rs := [16]) (by kernel_rfl) (by simp) ?_
    refine AllReadyH.cons (o := ⟨_, _, _, _, _, _⟩) rfl (fun K hK => ?_) AllReadyH.nil
    go_simp
    refine hK.out _ _ ?_ (fun hHeld => ?_)
    · (try dsimp only); exact HC2.out _ (.inr (.inl rfl))
    clear hK K
    try simp only [Act.put, List.setIfInBounds_toArray, List.set_cons_zero, List.set_cons_succ]
    refine wpAnyH_take (i := 18) (oi := ⟨some _, _, _, _, _, _⟩) (v := ?_) rfl (by kernel_rfl) (by kernel_rfl) (by kernel_rfl) (fun _ _ _ h => h) (Or.inl ⟨by kernel_rfl, ?_⟩) (by assumption) ?_; rotate_left; (intro w hSw; (try dsimp only at hSw); go_simp; try with_reducible rfl); try simp only [Act.put, List.setIfInBounds_toArray, List.set_cons_zero, List.set_cons_succ]
    refine wpAnyH_ready (rs := [19]) (by kernel_rfl) (by simp) ?_
    refine AllReadyH.cons (o := ⟨_, _, _, _, _, _⟩) rfl (fun K hK => ?_) AllReadyH.nil
    go_simp
    refine hK.out _ _ ?_ (fun hHeld => ?_)
    · (try dsimp only); exact HC2.out _ (.inr (.inr rfl))
    clear hK K
    try simp only [Act.put, List.setIfInBounds_toArray, List.set_cons_zero, List.set_cons_succ]
    refine wpAnyH_done (by kernel_rfl) ?_ _
    obtain ⟨V1, hV1⟩ : ∃ V, V = ((W0.setCell ⟨w.heap.size + 1, (15 - i), none⟩ (.int .i64 xf)).setCell ⟨w.heap.size + 1 + 1, (15 - i), none⟩ (.int .i64 xh)).drew := ⟨_, rfl⟩
    rw [← hV1]
    have HSt := Lib.hid (HSt.out V1 hV1)
    have hbx := HSt.out.2.2.1
    have HPc := Lib.hid (HPB.out _ _ V1.drew HSt.out.1.drew HSt.out.2.1.drew (by have := HSt.out.1.lt; show w.heap.size < V1.heap.size; omega))
    have HO1 := Lib.hid HSt.out.2.2.2
    clear hV1 HSt HC2 d1 d2 d3 d4 d5 d6 HPB
    go_wp2_with fail
    refine wp_region_held_drew (S := (fun w' => w'.heap[w.heap.size]? = some (.cells R 49 (0, 0)))) (by kernel_rfl) ?_ (fun hHeld => ?_)
    · (try dsimp only); exact hbx
    refine wpAnyH_take (i := 0) (oi := ⟨some _, _, _, _, _, _⟩) (v := ?_) rfl (by kernel_rfl) (by kernel_rfl) (by kernel_rfl) (fun _ _ _ h => h) (Or.inl ⟨by kernel_rfl, ?_⟩) (by assumption) ?_; rotate_left; (intro w hSw; (try dsimp only at hSw); go_simp; try with_reducible rfl); try simp only [Act.put, List.setIfInBounds_toArray, List.set_cons_zero, List.set_cons_succ]
    refine wpAnyH_take (i := 1) (oi := ⟨some _, _, _, _, _, _⟩) (v := .agg R) rfl (by kernel_rfl) (by kernel_rfl) (by kernel_rfl) (fun _ _ _ h => h) (yieldsIf_load_row (by kernel_rfl) 47 (.tmp 47) rfl w.heap.size rfl 49 R (0, 0) _ (fun _ h => h) Try.underlying47 rfl (by rw [hs]; exact HZ.out)) (by assumption) ?_; try simp only [Act.put, List.setIfInBounds_toArray, List.set_cons_zero, List.set_cons_succ]
    refine wpAnyH_take (i := 2) (oi := ⟨some _, _, _, _, _, _⟩) (v := ?_) rfl (by kernel_rfl) (by kernel_rfl) (by kernel_rfl) (fun _ _ _ h => h) (Or.inl ⟨by kernel_rfl, ?_⟩) (by assumption) ?_; rotate_left; (intro w hSw; (try dsimp only at hSw); go_simp; try with_reducible rfl); try simp only [Act.put, List.setIfInBounds_toArray, List.set_cons_zero, List.set_cons_succ]
    refine wpAnyH_take (i := 3) (oi := ⟨some _, _, _, _, _, _⟩) (v := ?_) rfl (by kernel_rfl) (by kernel_rfl) (by kernel_rfl) (fun _ _ _ h => h) (Or.inl ⟨by kernel_rfl, ?_⟩) (by assumption) ?_; rotate_left; (intro w hSw; (try dsimp only at hSw); go_simp; try with_reducible rfl); try simp only [Act.put, List.setIfInBounds_toArray, List.set_cons_zero, List.set_cons_succ]
    refine wpAnyH_ready (rs := [4]) (by kernel_rfl) (by simp) ?_
    refine AllReadyH.cons (o := ⟨_, _, _, _, _, _⟩) rfl (fun K hK => ?_) AllReadyH.nil
    go_simp
    refine HPc.out.mono ?_
    rintro e V2 ⟨rfl, hA2, hB2, hK2⟩
    go_wp2_with fail
    have hc := HRes.out V2 hA2 hB2
    have hbx2 : V2.heap[w.heap.size]? = some (.cells R 49 (0, 0)) := (hK2.block w.heap.size (by omega)).trans hbx
    have HE := Lib.hid (HO1.out.after (X := fun q => q < w.heap.size) (Kept.mono (Kept.trans (Kept.drew (Kept.refl _ _)) hK2) (fun _ h => by omega)) fun _ h => h)
    clear hA2 hB2 hK2 HRes HPc HO1
    refine hK.out _ _ ?_ (fun hHeld => ?_)
    · exact hbx2
    clear hK K
    try simp only [Act.put, List.setIfInBounds_toArray, List.set_cons_zero, List.set_cons_succ]
    refine wpAnyH_done (by kernel_rfl) ?_ _
    go_wp2_with fail
    go_ret
    exact ⟨rfl, HE.out⟩
  · have k8 : i < 8 := by omega
    have m1 : (i : Int) < 8 := by omega
    have m2 : (i : Int) < 15 - (i : Int) := by omega
    have m3 : 0 ≤ (i : Int) := by omega
    have e : partI f h i = backWB (h (15 - i)) (f i) (turnP i) (turnU i) := by unfold partI; rw [if_neg (by omega)]
    rw [e]
    have HSt : Hid (∀ V, V = ((W0.setCell ⟨w.heap.size + 1 + 1, i, none⟩ (.int .i64 (f i))).setCell ⟨w.heap.size + 1, i, none⟩ (.int .i64 (h (15 - i)))).drew → CellsAt V (w.heap.size + 1) 8 (fun j => if j = i then h (15 - i) else 0) ∧ CellsAt V (w.heap.size + 1 + 1) 8 (fun j => if j = i then f i else 0) ∧
        V.heap[w.heap.size]? = some (.cells T8 49 (0, 0)) ∧ Old w V) := by
      rintro V rfl
      refine ⟨?_, ?_, ?_, ?_⟩
      · exact ((HA.out.drew.setOther (a := ⟨w.heap.size + 1 + 1, i, none⟩) (by show w.heap.size + 1 + 1 ≠ w.heap.size + 1; omega) _).set i k8 (h (15 - i)))
      · exact ((HB.out.drew.set i k8 (f i)).setOther (a := ⟨w.heap.size + 1, i, none⟩) (by show w.heap.size + 1 ≠ w.heap.size + 1 + 1; omega) _)
      · exact (Below.heap_setCell _ _ _ _ (by show w.heap.size ≠ w.heap.size + 1; omega)).trans ((Below.heap_setCell _ _ _ _ (by show w.heap.size ≠ w.heap.size + 1 + 1; omega)).trans HX.out)
      · exact (HO.out.drew.after (Kept.setCell (X := fun q => q < w.heap.size) _ (a := ⟨w.heap.size + 1 + 1, i, none⟩) (by show ¬ w.heap.size + 1 + 1 < w.heap.size; omega) _) fun _ h => h).after (Kept.setCell (X := fun q => q < w.heap.size) _ (a := ⟨w.heap.size + 1, i, none⟩) (by show ¬ w.heap.size + 1 < w.heap.size; omega) _) fun _ h => h
    have d1 : W0.drew.cell? ⟨w.heap.size + 1 + 1, i, none⟩ = some (.int .i64 0) := HB.out.drew.cell _ k8
    have d2 : W0.drew.frozen? ⟨w.heap.size + 1 + 1, i, none⟩ = false := HB.out.drew.frz _ k8
    have d3 : (W0.drew.setCell ⟨w.heap.size + 1 + 1, i, none⟩ (.int .i64 (f i))).cell? ⟨w.heap.size + 1, i, none⟩ = some (.int .i64 0) := (HA.out.drew.setOther (a := ⟨w.heap.size + 1 + 1, i, none⟩) (by show w.heap.size + 1 + 1 ≠ w.heap.size + 1; omega) _).cell _ k8
    have d4 : (W0.drew.setCell ⟨w.heap.size + 1 + 1, i, none⟩ (.int .i64 (f i))).frozen? ⟨w.heap.size + 1, i, none⟩ = false := (HA.out.drew.setOther (a := ⟨w.heap.size + 1 + 1, i, none⟩) (by show w.heap.size + 1 + 1 ≠ w.heap.size + 1; omega) _).frz _ k8
    have d5 : W0.cell? ⟨w.heap.size + 1, i, none⟩ = some (.int .i64 0) := HA.out.cell _ k8
    have d6 : W0.frozen? ⟨w.heap.size + 1, i, none⟩ = false := HA.out.frz _ k8
    have HC2 : Hid (∀ V, V = W0.drew ∨ V = W0.drew.setCell ⟨w.heap.size + 1 + 1, i, none⟩ (.int .i64 (f i)) ∨ V = (W0.drew.setCell ⟨w.heap.size + 1 + 1, i, none⟩ (.int .i64 (f i))).setCell ⟨w.heap.size + 1, i, none⟩ (.int .i64 (h (15 - i))) → V.cell? ⟨bb, i, none⟩ = some (.int .i64 (f i)) ∧ V.cell? ⟨bo, 15 - i, none⟩ = some (.int .i64 (h (15 - i)))) := fun V hV => by
      obtain ⟨c1, c2⟩ := HC.out W0.drew (Old.drew (Old.refl _))
      have n1 : bb ≠ w.heap.size + 1 := by omega
      have n2 : bb ≠ w.heap.size + 1 + 1 := by omega
      have n3 : bo ≠ w.heap.size + 1 := by omega
      have n4 : bo ≠ w.heap.size + 1 + 1 := by omega
      rcases hV with rfl | rfl | rfl
      · exact ⟨c1, c2⟩
      · exact ⟨(World.cell?_setCell_far _ _ _ _ (by simp; omega)).trans c1, (World.cell?_setCell_far _ _ _ _ (by simp; omega)).trans c2⟩
      · exact ⟨(World.cell?_setCell_far _ _ _ _ (by simp; omega)).trans ((World.cell?_setCell_far _ _ _ _ (by simp; omega)).trans c1), (World.cell?_setCell_far _ _ _ _ (by simp; omega)).trans ((World.cell?_setCell_far _ _ _ _ (by simp; omega)).trans c2)⟩
    have hRes : ∀ V, CellsAt V (w.heap.size + 1) 8 (metA backWA (fun j => if j = i then h (15 - i) else 0) (fun j => (fun j => if j = i then f i else 0) (0 + j))) → CellsAt V (w.heap.size + 1 + 1) 8 (patch (fun j => if j = i then f i else 0) 0 8 (metA backWB (fun j => if j = i then h (15 - i) else 0) (fun j => (fun j => if j = i then f i else 0) (0 + j)))) → V.cell? ⟨w.heap.size + 1 + 1, i, none⟩ = some (.int .i64 (backWB (h (15 - i)) (f i) (turnP i) (turnU i))) := fun V h1 h2 => by
      have h := h2.cell i k8
      rw [h]
      unfold patch metA
      dsimp only
      rw [if_pos ⟨by omega, by omega⟩, if_pos (by omega), if_pos (by omega), Nat.sub_zero]
    have HRes := Lib.hid hRes
    clear hRes e HC HA HB HX HO
    obtain ⟨xf, hxf⟩ : ∃ x, x = f i := ⟨_, rfl⟩
    obtain ⟨xh, hxh⟩ : ∃ x, x = h (15 - i) := ⟨_, rfl⟩
    obtain ⟨xr, hxr⟩ : ∃ x, x = backWB (h (15 - i)) (f i) (turnP i) (turnU i) := ⟨_, rfl⟩
    rw [← hxr] at HRes ⊢
    rw [← hxf, ← hxh] at HSt HC2 HRes
    rw [← hxf] at d3 d4
    clear hxf hxh hxr
    generalize hT : T8 = R at hs HSt HPB hW0 ⊢
    clear hT
    go_enter Try.func40, Try.ntmps40
    go_wp2_with fail
    rw [← hW0]
    clear hW0
    refine wp_region_held_drew (S := (fun w' => w'.cell? ⟨bb, i, none⟩ = some (.int .i64 xf) ∧ w'.cell? ⟨bo, 15 - i, none⟩ = some (.int .i64 xh))) (by kernel_rfl) ?_ (fun hHeld => ?_)
    · (try dsimp only); exact HC2.out _ (.inl rfl)
    refine wpAnyH_take (i := 0) (oi := ⟨some _, _, _, _, _, _⟩) (v := ?_) rfl (by kernel_rfl) (by kernel_rfl) (by kernel_rfl) (fun _ _ _ h => h) (Or.inl ⟨by kernel_rfl, ?_⟩) (by assumption) ?_; rotate_left; (intro w hSw; (try dsimp only at hSw); go_simp; try with_reducible rfl); try simp only [Act.put, List.setIfInBounds_toArray, List.set_cons_zero, List.set_cons_succ]
    refine wpAnyH_take (i := 1) (oi := ⟨some _, _, _, _, _, _⟩) (v := ?_) rfl (by kernel_rfl) (by kernel_rfl) (by kernel_rfl) (fun _ _ _ h => h) (Or.inl ⟨by kernel_rfl, ?_⟩) (by assumption) ?_; rotate_left; (intro w hSw; (try dsimp only at hSw); go_simp; try with_reducible rfl); try simp only [Act.put, List.setIfInBounds_toArray, List.set_cons_zero, List.set_cons_succ]
    refine wpAnyH_take (i := 2) (oi := ⟨some _, _, _, _, _, _⟩) (v := ?_) rfl (by kernel_rfl) (by kernel_rfl) (by kernel_rfl) (fun _ _ _ h => h) (Or.inl ⟨by kernel_rfl, ?_⟩) (by assumption) ?_; rotate_left; (intro w hSw; (try dsimp only at hSw); go_simp; try with_reducible rfl); try simp only [Act.put, List.setIfInBounds_toArray, List.set_cons_zero, List.set_cons_succ]
    refine wpAnyH_take (i := 3) (oi := ⟨some _, _, _, _, _, _⟩) (v := ?_) rfl (by kernel_rfl) (by kernel_rfl) (by kernel_rfl) (fun _ _ _ h => h) (Or.inl ⟨by kernel_rfl, ?_⟩) (by assumption) ?_; rotate_left; (intro w hSw; (try dsimp only at hSw); go_simp; try with_reducible rfl); try simp only [Act.put, List.setIfInBounds_toArray, List.set_cons_zero, List.set_cons_succ]
    refine wpAnyH_take (i := 4) (oi := ⟨some _, _, _, _, _, _⟩) (v := ?_) rfl (by kernel_rfl) (by kernel_rfl) (by kernel_rfl) (fun _ _ _ h => h) (Or.inl ⟨by kernel_rfl, ?_⟩) (by assumption) ?_; rotate_left; (intro w hSw; (try dsimp only at hSw); go_simp; try with_reducible rfl); try simp only [Act.put, List.setIfInBounds_toArray, List.set_cons_zero, List.set_cons_succ]
    refine wpAnyH_take (i := 5) (oi := ⟨some _, _, _, _, _, _⟩) (v := ?_) rfl (by kernel_rfl) (by kernel_rfl) (by kernel_rfl) (fun _ _ _ h => h) (Or.inl ⟨by kernel_rfl, ?_⟩) (by assumption) ?_; rotate_left; (intro w hSw; (try dsimp only at hSw); go_simp; try with_reducible rfl); try simp only [Act.put, List.setIfInBounds_toArray, List.set_cons_zero, List.set_cons_succ]
    refine wpAnyH_take (i := 6) (oi := ⟨some _, _, _, _, _, _⟩) (v := ?_) rfl (by kernel_rfl) (by kernel_rfl) (by kernel_rfl) (fun _ _ _ h => h) (Or.inl ⟨by kernel_rfl, ?_⟩) (by assumption) ?_; rotate_left; (intro w hSw; (try dsimp only at hSw); go_simp; try with_reducible rfl); try simp only [Act.put, List.setIfInBounds_toArray, List.set_cons_zero, List.set_cons_succ]
    refine wpAnyH_take (i := 7) (oi := ⟨some _, _, _, _, _, _⟩) (v := ?_) rfl (by kernel_rfl) (by kernel_rfl) (by kernel_rfl) (fun _ _ _ h => h) (Or.inl ⟨by kernel_rfl, ?_⟩) (by assumption) ?_; rotate_left; (intro w hSw; (try dsimp only at hSw); go_simp; try with_reducible rfl); try simp only [Act.put, List.setIfInBounds_toArray, List.set_cons_zero, List.set_cons_succ]
    refine wpAnyH_take (i := 8) (oi := ⟨some _, _, _, _, _, _⟩) (v := ?_) rfl (by kernel_rfl) (by kernel_rfl) (by kernel_rfl) (fun _ _ _ h => h) (Or.inl ⟨by kernel_rfl, ?_⟩) (by assumption) ?_; rotate_left; (intro w hSw; (try dsimp only at hSw); go_simp; try with_reducible rfl); try simp only [Act.put, List.setIfInBounds_toArray, List.set_cons_zero, List.set_cons_succ]
    refine wpAnyH_take (i := 9) (oi := ⟨some _, _, _, _, _, _⟩) (v := ?_) rfl (by kernel_rfl) (by kernel_rfl) (by kernel_rfl) (fun _ _ _ h => h) (Or.inl ⟨by kernel_rfl, ?_⟩) (by assumption) ?_; rotate_left; (intro w hSw; (try dsimp only at hSw); go_simp; try with_reducible rfl); try simp only [Act.put, List.setIfInBounds_toArray, List.set_cons_zero, List.set_cons_succ]
    refine wpAnyH_take (i := 10) (oi := ⟨some _, _, _, _, _, _⟩) (v := ?_) rfl (by kernel_rfl) (by kernel_rfl) (by kernel_rfl) (fun _ _ _ h => h) (Or.inl ⟨by kernel_rfl, ?_⟩) (by assumption) ?_; rotate_left; (intro w hSw; (try dsimp only at hSw); go_simp; try with_reducible rfl); try simp only [Act.put, List.setIfInBounds_toArray, List.set_cons_zero, List.set_cons_succ]
    refine wpAnyH_take (i := 11) (oi := ⟨some _, _, _, _, _, _⟩) (v := ?_) rfl (by kernel_rfl) (by kernel_rfl) (by kernel_rfl) (fun _ _ _ h => h) (Or.inl ⟨by kernel_rfl, ?_⟩) (by assumption) ?_; rotate_left; (intro w hSw; (try dsimp only at hSw); go_simp; try with_reducible rfl); try simp only [Act.put, List.setIfInBounds_toArray, List.set_cons_zero, List.set_cons_succ]
    refine wpAnyH_take (i := 12) (oi := ⟨some _, _, _, _, _, _⟩) (v := ?_) rfl (by kernel_rfl) (by kernel_rfl) (by kernel_rfl) (fun _ _ _ h => h) (Or.inl ⟨by kernel_rfl, ?_⟩) (by assumption) ?_; rotate_left; (intro w hSw; (try dsimp only at hSw); go_simp; try with_reducible rfl); try simp only [Act.put, List.setIfInBounds_toArray, List.set_cons_zero, List.set_cons_succ]
    refine wpAnyH_take (i := 13) (oi := ⟨some _, _, _, _, _, _⟩) (v := ?_) rfl (by kernel_rfl) (by kernel_rfl) (by kernel_rfl) (fun _ _ _ h => h) (Or.inl ⟨by kernel_rfl, ?_⟩) (by assumption) ?_; rotate_left; (intro w hSw; (try dsimp only at hSw); go_simp; try with_reducible rfl); try simp only [Act.put, List.setIfInBounds_toArray, List.set_cons_zero, List.set_cons_succ]
    refine wpAnyH_take (i := 14) (oi := ⟨some _, _, _, _, _, _⟩) (v := ?_) rfl (by kernel_rfl) (by kernel_rfl) (by kernel_rfl) (fun _ _ _ h => h) (Or.inl ⟨by kernel_rfl, ?_⟩) (by assumption) ?_; rotate_left; (intro w hSw; (try dsimp only at hSw); go_simp; try with_reducible rfl); try simp only [Act.put, List.setIfInBounds_toArray, List.set_cons_zero, List.set_cons_succ]
    refine wpAnyH_take (i := 15) (oi := ⟨some _, _, _, _, _, _⟩) (v := ?_) rfl (by kernel_rfl) (by kernel_rfl) (by kernel_rfl) (fun _ _ _ h => h) (Or.inl ⟨by kernel_rfl, ?_⟩) (by assumption) ?_; rotate_left; (intro w hSw; (try dsimp only at hSw); go_simp; try with_reducible rfl); try simp only [Act.put, List.setIfInBounds_toArray, List.set_cons_zero, List.set_cons_succ]
    refine wpAnyH_take (i := 17) (oi := ⟨some _, _, _, _, _, _⟩) (v := ?_) rfl (by kernel_rfl) (by kernel_rfl) (by kernel_rfl) (fun _ _ _ h => h) (Or.inl ⟨by kernel_rfl, ?_⟩) (by assumption) ?_; rotate_left; (intro w hSw; (try dsimp only at hSw); go_simp; try with_reducible rfl); try simp only [Act.put, List.setIfInBounds_toArray, List.set_cons_zero, List.set_cons_succ]
    refine wpAnyH_ready (rs := [16]) (by kernel_rfl) (by simp) ?_
    refine AllReadyH.cons (o := ⟨_, _, _, _, _, _⟩) rfl (fun K hK => ?_) AllReadyH.nil
    go_simp
    refine hK.out _ _ ?_ (fun hHeld => ?_)
    · (try dsimp only); exact HC2.out _ (.inr (.inl rfl))
    clear hK K
    try simp only [Act.put, List.setIfInBounds_toArray, List.set_cons_zero, List.set_cons_succ]
    refine wpAnyH_take (i := 18) (oi := ⟨some _, _, _, _, _, _⟩) (v := ?_) rfl (by kernel_rfl) (by kernel_rfl) (by kernel_rfl) (fun _ _ _ h => h) (Or.inl ⟨by kernel_rfl, ?_⟩) (by assumption) ?_; rotate_left; (intro w hSw; (try dsimp only at hSw); go_simp; try with_reducible rfl); try simp only [Act.put, List.setIfInBounds_toArray, List.set_cons_zero, List.set_cons_succ]
    refine wpAnyH_ready (rs := [19]) (by kernel_rfl) (by simp) ?_
    refine AllReadyH.cons (o := ⟨_, _, _, _, _, _⟩) rfl (fun K hK => ?_) AllReadyH.nil
    go_simp
    refine hK.out _ _ ?_ (fun hHeld => ?_)
    · (try dsimp only); exact HC2.out _ (.inr (.inr rfl))
    clear hK K
    try simp only [Act.put, List.setIfInBounds_toArray, List.set_cons_zero, List.set_cons_succ]
    refine wpAnyH_done (by kernel_rfl) ?_ _
    obtain ⟨V1, hV1⟩ : ∃ V, V = ((W0.setCell ⟨w.heap.size + 1 + 1, i, none⟩ (.int .i64 xf)).setCell ⟨w.heap.size + 1, i, none⟩ (.int .i64 xh)).drew := ⟨_, rfl⟩
    rw [← hV1]
    have HSt := Lib.hid (HSt.out V1 hV1)
    have hbx := HSt.out.2.2.1
    have HPc := Lib.hid (HPB.out _ _ V1.drew HSt.out.1.drew HSt.out.2.1.drew (by have := HSt.out.1.lt; show w.heap.size < V1.heap.size; omega))
    have HO1 := Lib.hid HSt.out.2.2.2
    clear hV1 HSt HC2 d1 d2 d3 d4 d5 d6 HPB
    go_wp2_with fail
    refine wp_region_held_drew (S := (fun w' => w'.heap[w.heap.size]? = some (.cells R 49 (0, 0)))) (by kernel_rfl) ?_ (fun hHeld => ?_)
    · (try dsimp only); exact hbx
    refine wpAnyH_take (i := 0) (oi := ⟨some _, _, _, _, _, _⟩) (v := ?_) rfl (by kernel_rfl) (by kernel_rfl) (by kernel_rfl) (fun _ _ _ h => h) (Or.inl ⟨by kernel_rfl, ?_⟩) (by assumption) ?_; rotate_left; (intro w hSw; (try dsimp only at hSw); go_simp; try with_reducible rfl); try simp only [Act.put, List.setIfInBounds_toArray, List.set_cons_zero, List.set_cons_succ]
    refine wpAnyH_take (i := 1) (oi := ⟨some _, _, _, _, _, _⟩) (v := .agg R) rfl (by kernel_rfl) (by kernel_rfl) (by kernel_rfl) (fun _ _ _ h => h) (yieldsIf_load_row (by kernel_rfl) 47 (.tmp 47) rfl w.heap.size rfl 49 R (0, 0) _ (fun _ h => h) Try.underlying47 rfl (by rw [hs]; exact HZ.out)) (by assumption) ?_; try simp only [Act.put, List.setIfInBounds_toArray, List.set_cons_zero, List.set_cons_succ]
    refine wpAnyH_take (i := 2) (oi := ⟨some _, _, _, _, _, _⟩) (v := ?_) rfl (by kernel_rfl) (by kernel_rfl) (by kernel_rfl) (fun _ _ _ h => h) (Or.inl ⟨by kernel_rfl, ?_⟩) (by assumption) ?_; rotate_left; (intro w hSw; (try dsimp only at hSw); go_simp; try with_reducible rfl); try simp only [Act.put, List.setIfInBounds_toArray, List.set_cons_zero, List.set_cons_succ]
    refine wpAnyH_take (i := 3) (oi := ⟨some _, _, _, _, _, _⟩) (v := ?_) rfl (by kernel_rfl) (by kernel_rfl) (by kernel_rfl) (fun _ _ _ h => h) (Or.inl ⟨by kernel_rfl, ?_⟩) (by assumption) ?_; rotate_left; (intro w hSw; (try dsimp only at hSw); go_simp; try with_reducible rfl); try simp only [Act.put, List.setIfInBounds_toArray, List.set_cons_zero, List.set_cons_succ]
    refine wpAnyH_ready (rs := [4]) (by kernel_rfl) (by simp) ?_
    refine AllReadyH.cons (o := ⟨_, _, _, _, _, _⟩) rfl (fun K hK => ?_) AllReadyH.nil
    go_simp
    refine HPc.out.mono ?_
    rintro e V2 ⟨rfl, hA2, hB2, hK2⟩
    go_wp2_with fail
    have hc := HRes.out V2 hA2 hB2
    have hbx2 : V2.heap[w.heap.size]? = some (.cells R 49 (0, 0)) := (hK2.block w.heap.size (by omega)).trans hbx
    have HE := Lib.hid (HO1.out.after (X := fun q => q < w.heap.size) (Kept.mono (Kept.trans (Kept.drew (Kept.refl _ _)) hK2) (fun _ h => by omega)) fun _ h => h)
    clear hA2 hB2 hK2 HRes HPc HO1
    refine hK.out _ _ ?_ (fun hHeld => ?_)
    · exact hbx2
    clear hK K
    try simp only [Act.put, List.setIfInBounds_toArray, List.set_cons_zero, List.set_cons_succ]
    refine wpAnyH_done (by kernel_rfl) ?_ _
    go_wp2_with fail
    go_ret
    exact ⟨rfl, HE.out⟩
set_option maxRecDepth 100000 in
theorem One_none (o : Option Addr) (i : Int) (g : Nat → Int) (w : World) :
    Calls Try.prog 24 #[.agg T8, .pointer none, .pointer o, .agg (rowN 4 (blk g)), .int .i64 i] w fun e w' => e = .returned (.int .i64 0) ∧ Old w w' := by
  have h8 := T8_size
  generalize T8 = R at *
  go_enter Try.func24, Try.ntmps24
  go_wp2_with fail
  go_ret
  exact ⟨rfl, (Old.alloc _ _).alloc' _⟩
set_option maxRecDepth 100000 in
theorem One_beyond (b : Addr) (o : Option Addr) (g : Nat → Int) (w : World) :
    Calls Try.prog 24 #[.agg T8, .pointer (some b), .pointer o, .agg (rowN 4 (blk g)), .int .i64 16] w fun e w' => e = .returned (.int .i64 0) ∧ Old w w' := by
  have h8 := T8_size
  generalize T8 = R at *
  go_enter Try.func24, Try.ntmps24
  go_wp2_with fail
  go_ret
  exact ⟨rfl, (Old.alloc _ _).alloc' _⟩

set_option maxRecDepth 100000 in
set_option maxHeartbeats 2000000 in
theorem One_alone (bb i : Nat) (f g : Nat → Int) (w : World) (hb : bb < w.heap.size) (hc : ∀ k, k < 16 → w.cell? ⟨bb, k, none⟩ = some (.int .i64 (f k))) (hx : ∀ k, k < 16 → -9223372036854775808 ≤ f k ∧ f k ≤ 9223372036854775807) (hi : i < 16) :
    Calls Try.prog 24 #[.agg T8, .pointer (some ⟨bb, 0, none⟩), .pointer none, .agg (rowN 4 (blk g)), .int .i64 i] w fun e w' => e = .returned (.int .i64 (downI (f i) (atI g i))) ∧ Old w w' := by
  have i1 : (0 : Int) ≤ i := by omega
  have i2 : (i : Int) < 16 := by omega
  have h8 := T8_size
  have Hs4 : Hid ((Try.prog.info? 36).map (·.size) = some 4) := Lib.hid (by kernel_rfl)
  have HZ : Hid ((Try.prog.info? 49).map (·.size) = some 16) := Lib.hid (by kernel_rfl)
  obtain ⟨W0, hW0⟩ : ∃ V, V = (w.alloc (.cells T8 49)).alloc (.cells (rowN 4 (blk g)) 36) := ⟨_, rfl⟩
  have o0 : Old w W0 := by rw [hW0]; exact (Old.alloc w _).alloc' _
  have hX : W0.heap[w.heap.size]? = some (.cells T8 49 (0, 0)) := by rw [hW0]; exact heap_alloc2_old w _ _
  have hY : W0.heap[w.heap.size + 1]? = some (.cells (rowN 4 (blk g)) 36 (0, 0)) := by rw [hW0]; exact heap_alloc2_new w _ _
  have HP := Lib.hid (fun (V : World) (hV : Old w V) => parted_nil bb i f V (Nat.lt_of_lt_of_le hb hV.size) (fun k hk => (hV.cell (a := ⟨bb, k, none⟩) hb).trans (hc k hk)) hi)
  have HAt := Lib.hid (fun V => At_any g i V (by omega) (by omega))
  have HRd := Lib.hid (fun V => Round_any (f i) (atI g i) V (atI_bd g i).1 (by have := (atI_bd g i).2; omega) (hx i hi).1 (hx i hi).2)
  obtain ⟨x, hx'⟩ : ∃ x, x = f i := ⟨_, rfl⟩
  rw [← hx'] at HP HRd ⊢
  obtain ⟨s, hs'⟩ : ∃ s, s = atI g i := ⟨_, rfl⟩
  rw [← hs'] at HAt HRd ⊢
  rw [show roundI x (pw s.toNat) = downI x s from rfl] at HRd
  generalize downI x s = u at *
  clear hx' hs' hc hx
  generalize hT : T8 = R at h8 HP hW0 hX ⊢
  clear hT
  have HK : Hid (∀ V, Old W0 V → V.heap[w.heap.size]? = some (.cells R 49 (0, 0)) ∧ V.heap[w.heap.size + 1]? = some (.cells (rowN 4 (blk g)) 36 (0, 0))) := fun V hV => ⟨(hV.block _ (lt_of_block hX)).trans hX, (hV.block _ (lt_of_block hY)).trans hY⟩
  have HO := Lib.hid o0
  clear hX hY o0
  go_enter Try.func24, Try.ntmps24
  go_wp2_with fail
  rw [← hW0]
  clear hW0
  refine wp_region_held_drew (S := (fun w' => w'.heap[w.heap.size]? = some (.cells R 49 (0, 0)) ∧ w'.heap[w.heap.size + 1]? = some (.cells (rowN 4 (blk g)) 36 (0, 0)))) (by kernel_rfl) ?_ (fun hHeld => ?_)
  · (try dsimp only); exact HK.out _ (Old.drew (Old.refl _))
  refine wpAnyH_take (i := 0) (oi := ⟨some _, _, _, _, _, _⟩) (v := .agg R) rfl (by kernel_rfl) (by kernel_rfl) (by kernel_rfl) (fun _ _ _ h => h) (yieldsIf_load_row (by kernel_rfl) 49 (.tmp 5) rfl w.heap.size rfl 49 R (0, 0) _ (fun _ h => h.1) Try.underlying49 rfl (by rw [h8]; exact HZ.out)) (by assumption) ?_; try simp only [Act.put, List.setIfInBounds_toArray, List.set_cons_zero, List.set_cons_succ]
  refine wpAnyH_take (i := 1) (oi := ⟨some _, _, _, _, _, _⟩) (v := ?_) rfl (by kernel_rfl) (by kernel_rfl) (by kernel_rfl) (fun _ _ _ h => h) (Or.inl ⟨by kernel_rfl, ?_⟩) (by assumption) ?_; rotate_left; (intro w hSw; (try dsimp only at hSw); go_simp; try with_reducible rfl); try simp only [Act.put, List.setIfInBounds_toArray, List.set_cons_zero, List.set_cons_succ]
  refine wpAnyH_take (i := 2) (oi := ⟨some _, _, _, _, _, _⟩) (v := ?_) rfl (by kernel_rfl) (by kernel_rfl) (by kernel_rfl) (fun _ _ _ h => h) (Or.inl ⟨by kernel_rfl, ?_⟩) (by assumption) ?_; rotate_left; (intro w hSw; (try dsimp only at hSw); go_simp; try with_reducible rfl); try simp only [Act.put, List.setIfInBounds_toArray, List.set_cons_zero, List.set_cons_succ]
  refine wpAnyH_take (i := 3) (oi := ⟨some _, _, _, _, _, _⟩) (v := ?_) rfl (by kernel_rfl) (by kernel_rfl) (by kernel_rfl) (fun _ _ _ h => h) (Or.inl ⟨by kernel_rfl, ?_⟩) (by assumption) ?_; rotate_left; (intro w hSw; (try dsimp only at hSw); go_simp; try with_reducible rfl); try simp only [Act.put, List.setIfInBounds_toArray, List.set_cons_zero, List.set_cons_succ]
  refine wpAnyH_take (i := 5) (oi := ⟨some _, _, _, _, _, _⟩) (v := .agg (rowN 4 (blk g))) rfl (by kernel_rfl) (by kernel_rfl) (by kernel_rfl) (fun _ _ _ h => h) (yieldsIf_load_row (by kernel_rfl) 36 (.tmp 8) rfl (w.heap.size + 1) rfl 36 (rowN 4 (blk g)) (0, 0) _ (fun _ h => h.2) Try.underlying36 rfl (by rw [rowN_size]; exact Hs4.out)) (by assumption) ?_; try simp only [Act.put, List.setIfInBounds_toArray, List.set_cons_zero, List.set_cons_succ]
  refine wpAnyH_take (i := 6) (oi := ⟨some _, _, _, _, _, _⟩) (v := ?_) rfl (by kernel_rfl) (by kernel_rfl) (by kernel_rfl) (fun _ _ _ h => h) (Or.inl ⟨by kernel_rfl, ?_⟩) (by assumption) ?_; rotate_left; (intro w hSw; (try dsimp only at hSw); go_simp; try with_reducible rfl); try simp only [Act.put, List.setIfInBounds_toArray, List.set_cons_zero, List.set_cons_succ]
  refine wpAnyH_ready (rs := [4]) (by kernel_rfl) (by simp) ?_
  refine AllReadyH.cons (o := ⟨_, _, _, _, _, _⟩) rfl (fun K hK => ?_) AllReadyH.nil
  go_simp
  refine (HP.out _ (HO.out.trans (Old.drew (Old.refl _)))).mono ?_
  rintro e V1 ⟨rfl, o1⟩
  have o1' := (Old.drew (Old.refl W0)).trans o1
  go_wp2_with fail
  refine hK.out _ _ ?_ (fun hHeld => ?_)
  · (try dsimp only); exact HK.out _ o1'
  clear hK K
  try simp only [Act.put, List.setIfInBounds_toArray, List.set_cons_zero, List.set_cons_succ]
  refine wpAnyH_ready (rs := [7]) (by kernel_rfl) (by simp) ?_
  refine AllReadyH.cons (o := ⟨_, _, _, _, _, _⟩) rfl (fun K hK => ?_) AllReadyH.nil
  go_simp
  refine (HAt.out _).mono ?_
  rintro e V2 ⟨rfl, o2⟩
  go_wp2_with fail
  refine hK.out _ _ ?_ (fun hHeld => ?_)
  · (try dsimp only); exact HK.out _ (o1'.trans o2)
  clear hK K
  try simp only [Act.put, List.setIfInBounds_toArray, List.set_cons_zero, List.set_cons_succ]
  refine wpAnyH_ready (rs := [8]) (by kernel_rfl) (by simp) ?_
  refine AllReadyH.cons (o := ⟨_, _, _, _, _, _⟩) rfl (fun K hK => ?_) AllReadyH.nil
  go_simp
  refine (HRd.out _).mono ?_
  rintro e V3 ⟨rfl, n3, rfl⟩
  go_wp2_with fail
  refine hK.out _ _ ?_ (fun hHeld => ?_)
  · (try dsimp only); exact HK.out _ ((o1'.trans o2).drewN n3)
  clear hK K
  try simp only [Act.put, List.setIfInBounds_toArray, List.set_cons_zero, List.set_cons_succ]
  refine wpAnyH_take (i := 9) (oi := ⟨some _, _, _, _, _, _⟩) (v := ?_) rfl (by kernel_rfl) (by kernel_rfl) (by kernel_rfl) (fun _ _ _ h => h) (Or.inl ⟨by kernel_rfl, ?_⟩) (by assumption) ?_; rotate_left; (intro w hSw; (try dsimp only at hSw); go_simp; try with_reducible rfl); try simp only [Act.put, List.setIfInBounds_toArray, List.set_cons_zero, List.set_cons_succ]
  refine wpAnyH_done (by kernel_rfl) ?_ _
  have HE := Lib.hid ((HO.out.trans (o1'.trans o2)).drewN n3)
  clear HK HO HP HAt HRd o1 o1' o2
  go_wp2_with fail
  go_ret
  exact ⟨rfl, HE.out⟩

set_option maxRecDepth 100000 in
set_option maxHeartbeats 2000000 in
theorem One_met (bb bo i : Nat) (f h g : Nat → Int) (w : World) (hb : bb < w.heap.size) (ho : bo < w.heap.size) (hc : ∀ k, k < 16 → w.cell? ⟨bb, k, none⟩ = some (.int .i64 (f k))) (hd : ∀ k, k < 16 → w.cell? ⟨bo, k, none⟩ = some (.int .i64 (h k))) (hi : i < 16) :
    Calls Try.prog 24 #[.agg T8, .pointer (some ⟨bb, 0, none⟩), .pointer (some ⟨bo, 0, none⟩), .agg (rowN 4 (blk g)), .int .i64 i] w fun e w' => e = .returned (.int .i64 (downI (partI f h i) (atI g i))) ∧ Old w w' := by
  have i1 : (0 : Int) ≤ i := by omega
  have i2 : (i : Int) < 16 := by omega
  have h8 := T8_size
  have Hs4 : Hid ((Try.prog.info? 36).map (·.size) = some 4) := Lib.hid (by kernel_rfl)
  have HZ : Hid ((Try.prog.info? 49).map (·.size) = some 16) := Lib.hid (by kernel_rfl)
  obtain ⟨W0, hW0⟩ : ∃ V, V = (w.alloc (.cells T8 49)).alloc (.cells (rowN 4 (blk g)) 36) := ⟨_, rfl⟩
  have o0 : Old w W0 := by rw [hW0]; exact (Old.alloc w _).alloc' _
  have hX : W0.heap[w.heap.size]? = some (.cells T8 49 (0, 0)) := by rw [hW0]; exact heap_alloc2_old w _ _
  have hY : W0.heap[w.heap.size + 1]? = some (.cells (rowN 4 (blk g)) 36 (0, 0)) := by rw [hW0]; exact heap_alloc2_new w _ _
  have HP := Lib.hid (fun (V : World) (hV : Old w V) => parted_some bb bo i f h V (Nat.lt_of_lt_of_le hb hV.size) (Nat.lt_of_lt_of_le ho hV.size) (fun k hk => (hV.cell (a := ⟨bb, k, none⟩) hb).trans (hc k hk)) (fun k hk => (hV.cell (a := ⟨bo, k, none⟩) ho).trans (hd k hk)) hi)
  have HAt := Lib.hid (fun V => At_any g i V (by omega) (by omega))
  have HRd := Lib.hid (fun V => Round_any (partI f h i) (atI g i) V (atI_bd g i).1 (by have := (atI_bd g i).2; omega) (partI_bd f h i).1 (partI_bd f h i).2)
  obtain ⟨x, hx'⟩ : ∃ x, x = partI f h i := ⟨_, rfl⟩
  rw [← hx'] at HP HRd ⊢
  obtain ⟨s, hs'⟩ : ∃ s, s = atI g i := ⟨_, rfl⟩
  rw [← hs'] at HAt HRd ⊢
  rw [show roundI x (pw s.toNat) = downI x s from rfl] at HRd
  generalize downI x s = u at *
  clear hx' hs' hc hd
  generalize hT : T8 = R at h8 HP hW0 hX ⊢
  clear hT
  have HK : Hid (∀ V, Old W0 V → V.heap[w.heap.size]? = some (.cells R 49 (0, 0)) ∧ V.heap[w.heap.size + 1]? = some (.cells (rowN 4 (blk g)) 36 (0, 0))) := fun V hV => ⟨(hV.block _ (lt_of_block hX)).trans hX, (hV.block _ (lt_of_block hY)).trans hY⟩
  have HO := Lib.hid o0
  clear hX hY o0
  go_enter Try.func24, Try.ntmps24
  go_wp2_with fail
  rw [← hW0]
  clear hW0
  refine wp_region_held_drew (S := (fun w' => w'.heap[w.heap.size]? = some (.cells R 49 (0, 0)) ∧ w'.heap[w.heap.size + 1]? = some (.cells (rowN 4 (blk g)) 36 (0, 0)))) (by kernel_rfl) ?_ (fun hHeld => ?_)
  · (try dsimp only); exact HK.out _ (Old.drew (Old.refl _))
  refine wpAnyH_take (i := 0) (oi := ⟨some _, _, _, _, _, _⟩) (v := .agg R) rfl (by kernel_rfl) (by kernel_rfl) (by kernel_rfl) (fun _ _ _ h => h) (yieldsIf_load_row (by kernel_rfl) 49 (.tmp 5) rfl w.heap.size rfl 49 R (0, 0) _ (fun _ h => h.1) Try.underlying49 rfl (by rw [h8]; exact HZ.out)) (by assumption) ?_; try simp only [Act.put, List.setIfInBounds_toArray, List.set_cons_zero, List.set_cons_succ]
  refine wpAnyH_take (i := 1) (oi := ⟨some _, _, _, _, _, _⟩) (v := ?_) rfl (by kernel_rfl) (by kernel_rfl) (by kernel_rfl) (fun _ _ _ h => h) (Or.inl ⟨by kernel_rfl, ?_⟩) (by assumption) ?_; rotate_left; (intro w hSw; (try dsimp only at hSw); go_simp; try with_reducible rfl); try simp only [Act.put, List.setIfInBounds_toArray, List.set_cons_zero, List.set_cons_succ]
  refine wpAnyH_take (i := 2) (oi := ⟨some _, _, _, _, _, _⟩) (v := ?_) rfl (by kernel_rfl) (by kernel_rfl) (by kernel_rfl) (fun _ _ _ h => h) (Or.inl ⟨by kernel_rfl, ?_⟩) (by assumption) ?_; rotate_left; (intro w hSw; (try dsimp only at hSw); go_simp; try with_reducible rfl); try simp only [Act.put, List.setIfInBounds_toArray, List.set_cons_zero, List.set_cons_succ]
  refine wpAnyH_take (i := 3) (oi := ⟨some _, _, _, _, _, _⟩) (v := ?_) rfl (by kernel_rfl) (by kernel_rfl) (by kernel_rfl) (fun _ _ _ h => h) (Or.inl ⟨by kernel_rfl, ?_⟩) (by assumption) ?_; rotate_left; (intro w hSw; (try dsimp only at hSw); go_simp; try with_reducible rfl); try simp only [Act.put, List.setIfInBounds_toArray, List.set_cons_zero, List.set_cons_succ]
  refine wpAnyH_take (i := 5) (oi := ⟨some _, _, _, _, _, _⟩) (v := .agg (rowN 4 (blk g))) rfl (by kernel_rfl) (by kernel_rfl) (by kernel_rfl) (fun _ _ _ h => h) (yieldsIf_load_row (by kernel_rfl) 36 (.tmp 8) rfl (w.heap.size + 1) rfl 36 (rowN 4 (blk g)) (0, 0) _ (fun _ h => h.2) Try.underlying36 rfl (by rw [rowN_size]; exact Hs4.out)) (by assumption) ?_; try simp only [Act.put, List.setIfInBounds_toArray, List.set_cons_zero, List.set_cons_succ]
  refine wpAnyH_take (i := 6) (oi := ⟨some _, _, _, _, _, _⟩) (v := ?_) rfl (by kernel_rfl) (by kernel_rfl) (by kernel_rfl) (fun _ _ _ h => h) (Or.inl ⟨by kernel_rfl, ?_⟩) (by assumption) ?_; rotate_left; (intro w hSw; (try dsimp only at hSw); go_simp; try with_reducible rfl); try simp only [Act.put, List.setIfInBounds_toArray, List.set_cons_zero, List.set_cons_succ]
  refine wpAnyH_ready (rs := [4]) (by kernel_rfl) (by simp) ?_
  refine AllReadyH.cons (o := ⟨_, _, _, _, _, _⟩) rfl (fun K hK => ?_) AllReadyH.nil
  go_simp
  refine (HP.out _ (HO.out.trans (Old.drew (Old.refl _)))).mono ?_
  rintro e V1 ⟨rfl, o1⟩
  have o1' := (Old.drew (Old.refl W0)).trans o1
  go_wp2_with fail
  refine hK.out _ _ ?_ (fun hHeld => ?_)
  · (try dsimp only); exact HK.out _ o1'
  clear hK K
  try simp only [Act.put, List.setIfInBounds_toArray, List.set_cons_zero, List.set_cons_succ]
  refine wpAnyH_ready (rs := [7]) (by kernel_rfl) (by simp) ?_
  refine AllReadyH.cons (o := ⟨_, _, _, _, _, _⟩) rfl (fun K hK => ?_) AllReadyH.nil
  go_simp
  refine (HAt.out _).mono ?_
  rintro e V2 ⟨rfl, o2⟩
  go_wp2_with fail
  refine hK.out _ _ ?_ (fun hHeld => ?_)
  · (try dsimp only); exact HK.out _ (o1'.trans o2)
  clear hK K
  try simp only [Act.put, List.setIfInBounds_toArray, List.set_cons_zero, List.set_cons_succ]
  refine wpAnyH_ready (rs := [8]) (by kernel_rfl) (by simp) ?_
  refine AllReadyH.cons (o := ⟨_, _, _, _, _, _⟩) rfl (fun K hK => ?_) AllReadyH.nil
  go_simp
  refine (HRd.out _).mono ?_
  rintro e V3 ⟨rfl, n3, rfl⟩
  go_wp2_with fail
  refine hK.out _ _ ?_ (fun hHeld => ?_)
  · (try dsimp only); exact HK.out _ ((o1'.trans o2).drewN n3)
  clear hK K
  try simp only [Act.put, List.setIfInBounds_toArray, List.set_cons_zero, List.set_cons_succ]
  refine wpAnyH_take (i := 9) (oi := ⟨some _, _, _, _, _, _⟩) (v := ?_) rfl (by kernel_rfl) (by kernel_rfl) (by kernel_rfl) (fun _ _ _ h => h) (Or.inl ⟨by kernel_rfl, ?_⟩) (by assumption) ?_; rotate_left; (intro w hSw; (try dsimp only at hSw); go_simp; try with_reducible rfl); try simp only [Act.put, List.setIfInBounds_toArray, List.set_cons_zero, List.set_cons_succ]
  refine wpAnyH_done (by kernel_rfl) ?_ _
  have HE := Lib.hid ((HO.out.trans (o1'.trans o2)).drewN n3)
  clear HK HO HP HAt HRd o1 o1' o2
  go_wp2_with fail
  go_ret
  exact ⟨rfl, HE.out⟩

end Go.Proofs.Ytpdjdejlhjcicaa

