/- How many bits a frame needs: contract of frame.Bits. (by wip/tools/exp.py of XFrBitsL.src) -/
import Derived.Test.YtcepfbflgngmjaaRightL
import Derived.Deep.RegionHeld
namespace Go.Proofs.Ytcepfbflgngmjaa
set_option linter.unusedVariables false
set_option maxRecDepth 100000
set_option linter.unusedSimpArgs false
open Go.RowKit Go.ChangeShapes Go.WideShapes

/-- How many bits a frame needs. -/
def costI (F : Nat → Int) (n : Nat) : Int := 52 + 28 * n + 4 * sumTo (fun k => F (9 + k)) 4
theorem sum_four (g : Nat → Int) : sumTo g 4 = g 0 + g 1 + g 2 + g 3 := by simp [sumTo]
theorem cost_bd {F : Nat → Int} {n : Nat} {T : Nat → Int} (h : FrP F n T) : 52 ≤ costI F n ∧ costI F n ≤ 492 := by
  have h0 := h.hw 0 (by omega); have h1 := h.hw 1 (by omega); have h2 := h.hw 2 (by omega); have h3 := h.hw 3 (by omega)
  have hn := h.hn
  unfold costI
  rw [sum_four]
  omega

set_option maxRecDepth 100000 in
theorem Bits_wide (F : Nat → Int) (p : Option Addr) (n cap : Nat) (w : World) (hw : ∀ k, k < 4 → 0 ≤ F (9 + k) ∧ F (9 + k) ≤ 99) (hn : n ≤ 5) :
    Calls Try.prog 27 #[.agg (rowN 29 (frC F (.slice p n cap)))] w fun e w' => e = .returned (.int .i64 (costI F n)) ∧ Old w w' := by
  have Hs4 : Hid ((Try.prog.info? 24).map (·.size) = some 4) := Lib.hid (by kernel_rfl)
  have HB : Hid (FrB 29 (w.alloc (.cells (rowN 29 (frC F (.slice p n cap))) 29)) w.heap.size F (.slice p n cap)) := Lib.hid (FrB.new w F _)
  have HO : Hid (Old w (w.alloc (.cells (rowN 29 (frC F (.slice p n cap))) 29))) := Lib.hid (Old.alloc _ _)
  have HC := Lib.hid (fun w => Cost_any (fun j => F (9 + j)) w (fun k hk => by have := hw k hk; constructor <;> omega))
  have hs : 0 ≤ sumTo (fun j => F (9 + j)) 4 ∧ sumTo (fun j => F (9 + j)) 4 ≤ 396 := by
    have h0 := hw 0 (by omega); have h1 := hw 1 (by omega); have h2 := hw 2 (by omega); have h3 := hw 3 (by omega)
    rw [sum_four]; omega
  unfold costI
  generalize sumTo (fun j => F (9 + j)) 4 = s at *
  obtain ⟨a, ha⟩ : ∃ a : Int, 28 * (n : Int) = a := ⟨_, rfl⟩
  obtain ⟨b, hb⟩ : ∃ b : Int, 52 + a = b := ⟨_, rfl⟩
  obtain ⟨c, hc⟩ : ∃ c : Int, 4 * s = c := ⟨_, rfl⟩
  obtain ⟨d, hd⟩ : ∃ d : Int, b + c = d := ⟨_, rfl⟩
  have q1 : wrap64 (28 * (n : Int)) = a := by rw [IntWalk.wrap64_in _ (by omega)]; exact ha
  have q1' : IntKind.i64.wrap (28 * (n : Int)) = a := by rw [IntWalk.i64_in _ (by omega)]; exact ha
  have q2 : wrap64 (52 + a) = b := by rw [IntWalk.wrap64_in _ (by omega)]; exact hb
  have q2' : IntKind.i64.wrap (52 + a) = b := by rw [IntWalk.i64_in _ (by omega)]; exact hb
  have q3 : wrap64 (b + c) = d := by rw [IntWalk.wrap64_in _ (by omega)]; exact hd
  have q3' : IntKind.i64.wrap (b + c) = d := by rw [IntWalk.i64_in _ (by omega)]; exact hd
  rw [hc] at HC
  rw [ha, hb, hc, hd]
  clear ha hb hc hd hs hw
  go_enter Try.func27, Try.ntmps27
  go_wp2_with fail
  refine wp_region_held_drew (S := (fun w' => FrB 29 w' w.heap.size F (.slice p n cap) ∧ w'.cell? ⟨w.heap.size, 4, none⟩ = some (.slice p n cap))) (by kernel_rfl) ?_ (fun hHeld => ?_)
  · (try dsimp only); exact ⟨HB.out, HB.out.cell4.1⟩
  refine wpAnyH_take (i := 0) (oi := ⟨some _, _, _, _, _, _⟩) (v := ?_) rfl (by kernel_rfl) (by kernel_rfl) (by kernel_rfl) (fun _ _ _ h => h) (Or.inl ⟨by kernel_rfl, ?_⟩) (by assumption) ?_; rotate_left; (intro w hSw; (try dsimp only at hSw); go_simp; try with_reducible rfl); try simp only [Act.put, List.setIfInBounds_toArray, List.set_cons_zero, List.set_cons_succ]
  refine wpAnyH_take (i := 1) (oi := ⟨some _, _, _, _, _, _⟩) (v := ?_) rfl (by kernel_rfl) (by kernel_rfl) (by kernel_rfl) (fun _ _ _ h => h) (Or.inl ⟨by kernel_rfl, ?_⟩) (by assumption) ?_; rotate_left; (intro w hSw; (try dsimp only at hSw); go_simp; try with_reducible rfl); try simp only [Act.put, List.setIfInBounds_toArray, List.set_cons_zero, List.set_cons_succ]
  refine wpAnyH_take (i := 2) (oi := ⟨some _, _, _, _, _, _⟩) (v := ?_) rfl (by kernel_rfl) (by kernel_rfl) (by kernel_rfl) (fun _ _ _ h => h) (Or.inl ⟨by kernel_rfl, ?_⟩) (by assumption) ?_; rotate_left; (intro w hSw; (try dsimp only at hSw); go_simp; try with_reducible rfl); try simp only [Act.put, List.setIfInBounds_toArray, List.set_cons_zero, List.set_cons_succ]
  refine wpAnyH_take (i := 3) (oi := ⟨some _, _, _, _, _, _⟩) (v := ?_) rfl (by kernel_rfl) (by kernel_rfl) (by kernel_rfl) (fun _ _ _ h => h) (Or.inl ⟨by kernel_rfl, ?_⟩) (by assumption) ?_; rotate_left; (intro w hSw; (try dsimp only at hSw); go_simp; try with_reducible rfl); try simp only [Act.put, List.setIfInBounds_toArray, List.set_cons_zero, List.set_cons_succ]
  refine wpAnyH_take (i := 4) (oi := ⟨some _, _, _, _, _, _⟩) (v := ?_) rfl (by kernel_rfl) (by kernel_rfl) (by kernel_rfl) (fun _ _ _ h => h) (Or.inl ⟨by kernel_rfl, ?_⟩) (by assumption) ?_; rotate_left; (intro w hSw; (try dsimp only at hSw); go_simp; try with_reducible rfl); try simp only [Act.put, List.setIfInBounds_toArray, List.set_cons_zero, List.set_cons_succ]
  refine wpAnyH_take (i := 5) (oi := ⟨some _, _, _, _, _, _⟩) (v := ?_) rfl (by kernel_rfl) (by kernel_rfl) (by kernel_rfl) (fun _ _ _ h => h) (Or.inl ⟨by kernel_rfl, ?_⟩) (by assumption) ?_; rotate_left; (intro w hSw; (try dsimp only at hSw); go_simp; try with_reducible rfl); try simp only [Act.put, List.setIfInBounds_toArray, List.set_cons_zero, List.set_cons_succ]
  refine wpAnyH_take (i := 6) (oi := ⟨some _, _, _, _, _, _⟩) (v := .agg (rowN 4 (blk (fun j => F (9 + j))))) rfl (by kernel_rfl) (by kernel_rfl) (by kernel_rfl) (fun _ _ _ h => h) (yieldsIf_load_blk 4 (fun j => F (9 + j)) (by kernel_rfl) 24 (.tmp 8) rfl w.heap.size 9 rfl _ (fun _ h => h.1.part 9 4 (by omega)) Try.underlying24 rfl Hs4.out) (by assumption) ?_; try simp only [Act.put, List.setIfInBounds_toArray, List.set_cons_zero, List.set_cons_succ]
  refine wpAnyH_ready (rs := [7]) (by kernel_rfl) (by simp) ?_
  refine AllReadyH.cons (o := ⟨_, _, _, _, _, _⟩) rfl (fun K hK => ?_) AllReadyH.nil
  go_simp
  refine (HC.out _).mono ?_
  rintro e V1 ⟨rfl, o1'⟩
  have o1 := ((Old.refl (w.alloc (.cells (rowN 29 (frC F (.slice p n cap))) 29))).drew).trans o1'
  clear o1'
  go_wp2_with fail
  refine hK.out _ _ ?_ (fun hHeld => ?_)
  · (try dsimp only); exact ⟨HB.out.old o1, (HB.out.old o1).cell4.1⟩
  clear hK K
  try simp only [Act.put, List.setIfInBounds_toArray, List.set_cons_zero, List.set_cons_succ]
  refine wpAnyH_take (i := 8) (oi := ⟨some _, _, _, _, _, _⟩) (v := ?_) rfl (by kernel_rfl) (by kernel_rfl) (by kernel_rfl) (fun _ _ _ h => h) (Or.inl ⟨by kernel_rfl, ?_⟩) (by assumption) ?_; rotate_left; (intro w hSw; (try dsimp only at hSw); go_simp; try with_reducible rfl); try simp only [Act.put, List.setIfInBounds_toArray, List.set_cons_zero, List.set_cons_succ]
  refine wpAnyH_take (i := 9) (oi := ⟨some _, _, _, _, _, _⟩) (v := ?_) rfl (by kernel_rfl) (by kernel_rfl) (by kernel_rfl) (fun _ _ _ h => h) (Or.inl ⟨by kernel_rfl, ?_⟩) (by assumption) ?_; rotate_left; (intro w hSw; (try dsimp only at hSw); go_simp; try with_reducible rfl); try simp only [Act.put, List.setIfInBounds_toArray, List.set_cons_zero, List.set_cons_succ]
  refine wpAnyH_done (by kernel_rfl) ?_ _
  have HO1 := Lib.hid ((HO.out.trans o1))
  clear HB HC o1
  go_wp2_with fail
  go_ret
  exact ⟨rfl, HO1.out⟩
theorem Bits_any (F : Nat → Int) (p : Option Addr) (n cap : Nat) (w : World) (hw : ∀ k, k < 4 → 0 ≤ F (9 + k) ∧ F (9 + k) ≤ 24) (hn : n ≤ 5) :
    Calls Try.prog 27 #[.agg (rowN 29 (frC F (.slice p n cap)))] w fun e w' => e = .returned (.int .i64 (costI F n)) ∧ Old w w' := Bits_wide F p n cap w (fun k hk => ⟨(hw k hk).1, by have := (hw k hk).2; omega⟩) hn
end Go.Proofs.Ytcepfbflgngmjaa

