/- Veils: contracts of Good, Lose, Lost, Clear. (.src by exp.py) -/
import Derived.Test.YtlaoamlmpdbmmaaVeilA
namespace Go.Proofs.Ytlaoamlmpdbmmaa
set_option linter.unusedVariables false
set_option maxRecDepth 100000
open Go.RowKit Go.ChangeShapes Go.WideShapes

/-- A veil's numbers: the last good one's piece, and how many were lost since. -/
def vlF (P : Nat → Int) (l : Int) : Nat → Int := fun k => if k = 20 then l else P k
theorem vlF_zero : vlF (fun _ => 0) 0 = fun _ => 0 := by funext k; unfold vlF; split <;> rfl
theorem vlF_lost (P : Nat → Int) (l l' : Int) : (fun k => if k = 20 then l' else vlF P l k) = vlF P l' := by
  funext k
  unfold vlF
  split <;> rfl
/-- Block b is a veil's. -/
def VlB (w : World) (b : Nat) (P : Nat → Int) (l : Int) : Prop := w.heap[b]? = some (.cells (rowN 21 (blk (vlF P l))) 30 (0, 0))
namespace VlB
variable {w w' : World} {b : Nat} {P : Nat → Int} {l : Int} {X : Nat → Prop}
theorem heap (h : VlB w b P l) : w.heap[b]? = some (.cells (rowN 21 (blk (vlF P l))) 30 (0, 0)) := h
theorem lt (h : VlB w b P l) : b < w.heap.size := lt_of_block h
theorem old (h : VlB w b P l) (k : Old w w') : VlB w' b P l := (k.block b h.lt).trans h
theorem kept (h : VlB w b P l) (k : Kept X w w') (hX : X b) : VlB w' b P l := (k.block b hX).trans h
theorem cell (h : VlB w b P l) (j : Nat) (hj : j < 20) : w.cell? ⟨b, 0 + j, none⟩ = some (.int .i64 (P j)) := by
  rw [Nat.zero_add, (cell_of_row _ _ _ _ _ _ h).trans (blk_at 21 (vlF P l) j (by omega))]
  unfold vlF
  rw [if_neg (by omega)]
theorem last (h : VlB w b P l) : w.cell? ⟨b, 20, none⟩ = some (.int .i64 l) ∧ w.frozen? ⟨b, 20, none⟩ = false :=
  ⟨(cell_of_row _ _ _ _ _ _ h).trans (blk_at 21 (vlF P l) 20 (by omega)), frozen_of_row _ _ _ _ _ h⟩
theorem set (h : VlB w b P l) (l' : Int) : VlB (w.setCell ⟨b, 20, none⟩ (.int .i64 l')) b P l' := by
  unfold VlB
  rw [← vlF_lost P l l', ← blk_upd, ← rowN_set 21 _ 20 _ (by omega)]
  exact heap_setCell_same _ _ _ _ _ _ h
theorem row (h : VlB w b P l) (Q : Nat → Int) (l' : Int) : VlB (w.setRow b (rowN 21 (blk (vlF Q l')))) b Q l' := setRow_heap _ _ _ _ _ _ h
end VlB
/-- A change of one block that was there, and of new ones. -/
theorem kept_row {w W : World} {b : Nat} (ho : Old w W) (cs : Array Value) : Kept (butOf w b) w (W.setRow b cs) :=
  (ho.kept (X := butOf w b) fun _ hk => hk.1).trans ⟨rfl, rfl, by simp, fun k hk => setRow_other _ _ _ _ hk.2⟩
theorem kept_new {w W : World} {b : Nat} {X : Nat → Prop} (h : Kept X w W) (hX : ∀ k, X k → k < w.heap.size) {rb : Nat} (hr : w.heap.size ≤ rb) (cs : Array Value) : Kept X w (W.setRow rb cs) :=
  h.trans ⟨rfl, rfl, by simp, fun k hk => setRow_other _ _ _ _ (by have := hX k hk; omega)⟩
theorem kept_cell {w W : World} {b : Nat} (ho : Old w W) (o : Nat) (v : Value) : Kept (butOf w b) w (W.setCell ⟨b, o, none⟩ v) :=
  (ho.kept (X := butOf w b) fun _ hk => hk.1).trans (Kept.setCell W (a := ⟨b, o, none⟩) (fun h => h.2 rfl) _)

theorem veil_built (P : Nat → Int) : Try.prog.built 30 [(0, .agg (rowN 20 (blk P)))] = some (rowN 21 (blk (vlF P 0))) := by kernel_rfl
set_option maxHeartbeats 2000000 in
theorem Good_any (b : Nat) (P0 : Nat → Int) (l0 : Int) (F : Nat → Int) (p : Option Addr) (n cap : Nat) (T : Nat → Int) (w : World) (hb : VlB w b P0 l0) (hT : SlF 2 w p n T) (hn : n ≤ cap) (hc : cap ≤ maxLen) (hF : FrP F n T) :
    Calls Try.prog 12 #[.pointer (some ⟨b, 0, none⟩), .agg (rowN 29 (frC F (.slice p n cap)))] w fun e w' => e = .returned (.agg (rowN 20 (blk (pcF F n T)))) ∧ VlB w' b (pcF F n T) 0 ∧ Kept (butOf w b) w w' := by
  have Hs29 : Hid ((Try.prog.info? 33).map (·.size) = some 29) := Lib.hid (by kernel_rfl)
  have Hs20 : Hid ((Try.prog.info? 28).map (·.size) = some 20) := Lib.hid (by kernel_rfl)
  have Hs21 : Hid ((Try.prog.info? 30).map (·.size) = some 21) := Lib.hid (by kernel_rfl)
  obtain ⟨z, hz⟩ : ∃ z : Array Value, z = #[.int .i64 0, .int .i64 0, .int .i64 0, .int .i64 0, .int .i64 0, .int .i64 0, .int .i64 0, .int .i64 0, .int .i64 0, .int .i64 0, .int .i64 0, .int .i64 0, .int .i64 0, .int .i64 0, .int .i64 0, .int .i64 0, .int .i64 0, .int .i64 0, .int .i64 0, .int .i64 0] := ⟨_, rfl⟩
  obtain ⟨W0, hW0⟩ : ∃ W0, W0 = ((w.alloc (.cells (rowN 29 (frC F (.slice p n cap))) 33)).alloc (.cells z 28)) := ⟨_, rfl⟩
  have zs : Hid (z.size = 20) := Lib.hid (by rw [hz]; rfl)
  have HA : Hid (FrB 33 W0 w.heap.size F (.slice p n cap)) := Lib.hid (by rw [hW0]; exact heap_alloc2_old w _ _)
  have HR : Hid (W0.heap[w.heap.size + 1]? = some (.cells z 28 (0, 0))) := Lib.hid (by rw [hW0]; exact heap_alloc2_new w _ _)
  have HO : Hid (Old w W0) := Lib.hid (by rw [hW0]; exact (Old.alloc w _).alloc' _)
  have hOf := POf_any F p n cap T W0 (hT.old HO.out) hn hc hF
  obtain ⟨P, hP⟩ : ∃ P, pcF F n T = P := ⟨_, rfl⟩
  rw [hP] at hOf ⊢
  have HOf := Lib.hid hOf
  have HB := Lib.hid hb
  have HBd := Lib.hid (veil_built P)
  have H20 : Hid ((rowN 20 (blk P)).all (·.oneCell') = true) := Lib.hid (blk_one _ _)
  have H21 : Hid ((rowN 21 (blk (vlF P 0))).all (·.oneCell') = true) := Lib.hid (blk_one _ _)
  have Hz := Lib.hid hz
  have HW0 := Lib.hid hW0
  clear hz hW0 hT hn hc hF hOf hP hb
  go_enter Try.func12, Try.ntmps12
  go_wp2_with (rw [← Hz.out, ← HW0.out]; with_reducible refine wpList_load_row rfl 33 _ rfl w.heap.size rfl 33 (rowN 29 (frC F (.slice p n cap))) (0, 0) _ HA.out.heap Try.underlying33 rfl (by rw [rowN_size]; exact Hs29.out) ?_)
  refine HOf.out.mono ?_
  rintro e w1 ⟨rfl, o1⟩
  have o2 := HO.out.trans o1
  have hv1 := HB.out.old o2
  have HV1 := Lib.hid hv1.heap
  have HV2 := Lib.hid (hv1.row P 0)
  have HC := Lib.hid HV2.out.cell
  have hbl : b < w.heap.size := HB.out.lt
  have hr1 : w1.heap[w.heap.size + 1]? = some (.cells z 28 (0, 0)) := (o1.block _ (lt_of_block HR.out)).trans HR.out
  have HR2 : Hid ((w1.setRow b (rowN 21 (blk (vlF P 0)))).heap[w.heap.size + 1]? = some (.cells z 28 (0, 0))) := Lib.hid ((setRow_other _ _ _ _ (by omega)).trans hr1)
  have HR3 := Lib.hid (setRow_heap (w1.setRow b (rowN 21 (blk (vlF P 0)))) (w.heap.size + 1) z (rowN 20 (blk P)) _ _ HR2.out)
  have HV3 : Hid (VlB ((w1.setRow b (rowN 21 (blk (vlF P 0)))).setRow (w.heap.size + 1) (rowN 20 (blk P))) b P 0) := Lib.hid ((setRow_other _ _ _ _ (by omega)).trans HV2.out)
  have HK := Lib.hid (kept_new (b := b) (kept_row (b := b) o2 (rowN 21 (blk (vlF P 0)))) (fun k hk => hk.1) (Nat.le_succ w.heap.size) (rowN 20 (blk P)))
  clear hr1 hbl hv1 o1 o2 HOf HA HR HO HB
  go_wp2_with (first | (with_reducible refine wpList_build_w (by kernel_rfl) 30 _ rfl [(0, .agg (rowN 20 (blk P)))] _ (by kernel_rfl) HBd.out ?_) | (with_reducible refine wpList_store_row rfl 30 _ _ rfl b (rowN 21 (blk (vlF P 0))) rfl rfl 30 _ HV1.out (by rw [rowN_size]; exact Hs21.out) (by rw [rowN_size, rowN_size]) H21.out ?_) | (with_reducible refine wpList_load_blk rfl 20 P 28 _ rfl b 0 rfl _ HC.out Try.underlying28 rfl Hs20.out ?_) | (with_reducible refine wpList_store_row rfl 28 _ _ rfl (w.heap.size + 1) (rowN 20 (blk P)) rfl rfl 28 _ HR2.out (by rw [rowN_size]; exact Hs20.out) (by rw [rowN_size]; exact zs.out) H20.out ?_))
  exact bodyPost_ret (results_cell_row rfl _ _ (w.heap.size + 1) 28 (rowN 20 (blk P)) (0, 0) _ rfl HR3.out Try.underlying28 rfl (by rw [rowN_size]; exact Hs20.out)) rfl ⟨rfl, HV3.out, HK.out⟩
set_option maxHeartbeats 2000000 in
theorem Good_nil (F : Nat → Int) (s : Value) (hs1 : s.oneCell' = true) (w : World) :
    Calls Try.prog 12 #[.pointer none, .agg (rowN 29 (frC F s))] w fun e w' => e = .returned (.agg (rowN 20 (blk fun _ => 0))) ∧ Old w w' := by
  have Hs20 : Hid ((Try.prog.info? 28).map (·.size) = some 20) := Lib.hid (by kernel_rfl)
  obtain ⟨z, hz⟩ : ∃ z : Array Value, z = #[.int .i64 0, .int .i64 0, .int .i64 0, .int .i64 0, .int .i64 0, .int .i64 0, .int .i64 0, .int .i64 0, .int .i64 0, .int .i64 0, .int .i64 0, .int .i64 0, .int .i64 0, .int .i64 0, .int .i64 0, .int .i64 0, .int .i64 0, .int .i64 0, .int .i64 0, .int .i64 0] := ⟨_, rfl⟩
  obtain ⟨W0, hW0⟩ : ∃ W0, W0 = ((w.alloc (.cells (rowN 29 (frC F s)) 33)).alloc (.cells z 28)) := ⟨_, rfl⟩
  have zs : Hid (z.size = 20) := Lib.hid (by rw [hz]; rfl)
  have z1 : Hid (z.all (·.oneCell') = true) := Lib.hid (by rw [hz, ← row20_zero]; exact blk_one _ _)
  have HR : Hid (W0.heap[w.heap.size + 1]? = some (.cells z 28 (0, 0))) := Lib.hid (by rw [hW0]; exact heap_alloc2_new w _ _)
  have HO : Hid (Old w W0) := Lib.hid (by rw [hW0]; exact (Old.alloc w _).alloc' _)
  have HD := Lib.hid (row_ret HR.out HO.out (Nat.le_succ _) z)
  rw [row20_zero, ← hz]
  have Hz := Lib.hid hz
  have HW0 := Lib.hid hW0
  clear hz hW0 hs1
  go_enter Try.func12, Try.ntmps12
  go_wp2_with (rw [← Hz.out, ← HW0.out]; with_reducible refine wpList_store_row rfl 28 _ _ rfl (w.heap.size + 1) z rfl rfl 28 _ HR.out (by rw [zs.out]; exact Hs20.out) rfl z1.out ?_)
  exact bodyPost_ret (results_cell_row rfl _ _ (w.heap.size + 1) 28 z (0, 0) _ rfl HD.out.1 Try.underlying28 rfl (by rw [zs.out]; exact Hs20.out)) rfl ⟨rfl, HD.out.2⟩
set_option maxHeartbeats 2000000 in
theorem Lose_any (b : Nat) (P : Nat → Int) (l : Nat) (w : World) (hb : VlB w b P l) (hP : Sml P) (hl : l < 9223372036854775807) :
    Calls Try.prog 9 #[.pointer (some ⟨b, 0, none⟩)] w fun e w' => e = .returned (.agg (rowN 20 (blk (fadeF P (l + 1))))) ∧ VlB w' b P (l + 1 : Nat) ∧ Kept (butOf w b) w w' := by
  have Hs20 : Hid ((Try.prog.info? 28).map (·.size) = some 20) := Lib.hid (by kernel_rfl)
  obtain ⟨z, hz⟩ : ∃ z : Array Value, z = #[.int .i64 0, .int .i64 0, .int .i64 0, .int .i64 0, .int .i64 0, .int .i64 0, .int .i64 0, .int .i64 0, .int .i64 0, .int .i64 0, .int .i64 0, .int .i64 0, .int .i64 0, .int .i64 0, .int .i64 0, .int .i64 0, .int .i64 0, .int .i64 0, .int .i64 0, .int .i64 0] := ⟨_, rfl⟩
  obtain ⟨W0, hW0⟩ : ∃ W0, W0 = (w.alloc (.cells z 28)) := ⟨_, rfl⟩
  have zs : Hid (z.size = 20) := Lib.hid (by rw [hz]; rfl)
  have HR : Hid (W0.heap[w.heap.size]? = some (.cells z 28 (0, 0))) := Lib.hid (by rw [hW0]; exact heap_alloc_new w _)
  have HO : Hid (Old w W0) := Lib.hid (by rw [hW0]; exact Old.alloc w _)
  have hv0 := hb.old HO.out
  have l0 : (0 : Int) ≤ l := by omega
  have e1 : wrap64 ((l : Int) + 1) = ((l + 1 : Nat) : Int) := by rw [IntWalk.wrap64_in _ (by omega)]; omega
  have HV1 := Lib.hid (hv0.set ((l + 1 : Nat) : Int))
  obtain ⟨W1, hW1⟩ : ∃ W1, W1 = W0.setCell ⟨b, 20, none⟩ (.int .i64 ((l + 1 : Nat) : Int)) := ⟨_, rfl⟩
  rw [← hW1] at HV1
  have hbl : b < w.heap.size := hb.lt
  have HR1 : Hid (W1.heap[w.heap.size]? = some (.cells z 28 (0, 0))) := Lib.hid (by rw [hW1]; exact (heap_setCell_other _ _ _ _ (by simp; omega)).trans HR.out)
  have HK1 : Hid (Kept (butOf w b) w W1) := Lib.hid (by rw [hW1]; exact kept_cell HO.out 20 _)
  obtain ⟨c0, c1⟩ := hv0.last
  have hF := fun W => faded_any P (l + 1) W hP
  obtain ⟨R, hR⟩ : ∃ R, fadeF P (l + 1) = R := ⟨_, rfl⟩
  rw [hR] at hF ⊢
  have HF := Lib.hid hF
  have H20 : Hid ((rowN 20 (blk R)).all (·.oneCell') = true) := Lib.hid (blk_one _ _)
  have Hz := Lib.hid hz
  have HW0 := Lib.hid hW0
  have HW1 := Lib.hid hW1
  have Hbl := Lib.hid hbl
  obtain ⟨m, hm⟩ : ∃ m, l + 1 = m := ⟨_, rfl⟩
  rw [hm] at e1 HV1 HW1 HF ⊢
  rw [hW0, hz] at c0 c1
  clear hz hW0 hW1 hF hR hb hv0 hP hl hm hbl
  go_enter Try.func9, Try.ntmps9
  go_wp2_with fail
  rw [← Hz.out, ← HW0.out, ← HW1.out]
  clear c0 c1
  refine wp_region_held_drew (S := (fun w' => VlB w' b P (m : Int))) (by kernel_rfl) ?_ (fun hHeld => ?_)
  · (try dsimp only); exact HV1.out.old (Old.refl W1).drew
  refine wpAnyH_take (i := 0) (oi := ⟨some _, _, _, _, _, _⟩) (v := ?_) rfl (by kernel_rfl) (by kernel_rfl) (by kernel_rfl) (fun _ _ _ h => h) (Or.inl ⟨by kernel_rfl, ?_⟩) (by assumption) ?_; rotate_left; (intro w hSw; (try dsimp only at hSw); go_simp; try with_reducible rfl); try simp only [Act.put, List.setIfInBounds_toArray, List.set_cons_zero, List.set_cons_succ]
  refine wpAnyH_take (i := 1) (oi := ⟨some _, _, _, _, _, _⟩) (v := ?_) rfl (by kernel_rfl) (by kernel_rfl) (by kernel_rfl) (fun _ _ _ h => h) (Or.inl ⟨by kernel_rfl, ?_⟩) (by assumption) ?_; rotate_left; (intro w hSw; (try dsimp only at hSw); go_simp; try with_reducible rfl); try simp only [Act.put, List.setIfInBounds_toArray, List.set_cons_zero, List.set_cons_succ]
  refine wpAnyH_take (i := 2) (oi := ⟨some _, _, _, _, _, _⟩) (v := ?_) rfl (by kernel_rfl) (by kernel_rfl) (by kernel_rfl) (fun _ _ _ h => h) (Or.inl ⟨by kernel_rfl, ?_⟩) (by assumption) ?_; rotate_left; (intro w hSw; (try dsimp only at hSw); go_simp; try with_reducible rfl); try simp only [Act.put, List.setIfInBounds_toArray, List.set_cons_zero, List.set_cons_succ]
  refine wpAnyH_take (i := 3) (oi := ⟨some _, _, _, _, _, _⟩) (v := .agg (rowN 20 (blk P))) rfl (by kernel_rfl) (by kernel_rfl) (by kernel_rfl) (fun _ _ _ h => h) (yieldsIf_load_blk 20 P (by kernel_rfl) 28 (.tmp 15) rfl b 0 rfl _ (fun _ h => VlB.cell h) Try.underlying28 rfl Hs20.out) (by assumption) ?_; try simp only [Act.put, List.setIfInBounds_toArray, List.set_cons_zero, List.set_cons_succ]
  refine wpAnyH_take (i := 4) (oi := ⟨some _, _, _, _, _, _⟩) (v := ?_) rfl (by kernel_rfl) (by kernel_rfl) (by kernel_rfl) (fun _ _ _ h => h) (Or.inl ⟨by kernel_rfl, ?_⟩) (by assumption) ?_; rotate_left; (intro w hSw; (try dsimp only at hSw); go_simp; try with_reducible rfl); try simp only [Act.put, List.setIfInBounds_toArray, List.set_cons_zero, List.set_cons_succ]
  refine wpAnyH_take (i := 5) (oi := ⟨some _, _, _, _, _, _⟩) (v := ?_) rfl (by kernel_rfl) (by kernel_rfl) (by kernel_rfl) (fun _ _ _ h => h) (Or.inl ⟨by kernel_rfl, ?_⟩) (by assumption) ?_; rotate_left; (intro w hSw; (try dsimp only at hSw); go_simp; try with_reducible rfl); try simp only [Act.put, List.setIfInBounds_toArray, List.set_cons_zero, List.set_cons_succ]
  refine wpAnyH_take (i := 6) (oi := ⟨some _, _, _, _, _, _⟩) (v := ?_) rfl (by kernel_rfl) (by kernel_rfl) (by kernel_rfl) (fun _ _ _ h => h) (Or.inl ⟨by kernel_rfl, ?_⟩) (by assumption) ?_; rotate_left; (intro w hSw; (try dsimp only at hSw); go_simp; try with_reducible rfl); try simp only [Act.put, List.setIfInBounds_toArray, List.set_cons_zero, List.set_cons_succ]
  refine wpAnyH_take (i := 7) (oi := ⟨some _, _, _, _, _, _⟩) (v := .int .i64 (m : Int)) rfl (by kernel_rfl) (by kernel_rfl) (by kernel_rfl) (fun _ _ _ h => h) (Or.inl ⟨by kernel_rfl, fun V hSV => by have c := (VlB.last hSV).1; go_simp⟩) (by assumption) ?_; try simp only [Act.put, List.setIfInBounds_toArray, List.set_cons_zero, List.set_cons_succ]
  refine wpAnyH_ready (rs := [8]) (by kernel_rfl) (by simp) ?_
  refine AllReadyH.cons (o := ⟨_, _, _, _, _, _⟩) (by rfl) ?_ AllReadyH.nil
  intro K hK
  go_simp
  refine (HF.out _).mono ?_
  rintro e V1 ⟨rfl, o1⟩
  have o1' : Old W1 V1 := ((Old.refl W1).drew).trans o1
  go_wp2_with fail
  refine hK.out _ _ ?_ (fun hHeld => ?_)
  · (try dsimp only); exact HV1.out.old o1'
  clear hK K
  try simp only [Act.put, List.setIfInBounds_toArray, List.set_cons_zero, List.set_cons_succ]
  refine wpAnyH_ready (rs := [9]) (by kernel_rfl) (by simp) ?_
  refine AllReadyH.cons (o := ⟨_, _, _, _, _, _⟩) (by rfl) ?_ AllReadyH.nil
  intro K hK
  rw [if_pos (by kernel_rfl)]
  have HR2 : Hid (V1.heap[w.heap.size]? = some (.cells z 28 (0, 0))) := Lib.hid ((o1'.block _ (lt_of_block HR1.out)).trans HR1.out)
  have HD := Lib.hid (setRow_heap V1 w.heap.size z (rowN 20 (blk R)) _ _ HR2.out)
  have HV3 : Hid (VlB (V1.setRow w.heap.size (rowN 20 (blk R))) b P (m : Int)) := Lib.hid ((setRow_other _ _ _ _ (by have := Hbl.out; omega)).trans (HV1.out.old o1'))
  have HK := Lib.hid (kept_new (b := b) (HK1.out.trans (o1'.kept (X := butOf w b) fun k hk => Nat.lt_of_lt_of_le hk.1 HK1.out.size)) (fun k hk => hk.1) (Nat.le_refl w.heap.size) (rowN 20 (blk R)))
  with_reducible refine wp_store_row 28 _ _ rfl w.heap.size (rowN 20 (blk R)) rfl rfl 28 _ HR2.out (by rw [rowN_size]; exact Hs20.out) (by rw [rowN_size]; exact zs.out) H20.out ?_
  refine hK.out _ _ ?_ (fun hHeld => ?_)
  · (try dsimp only); exact HV3.out
  clear hK K
  refine wpAnyH_done (by kernel_rfl) ?_ _
  go_wp2_with fail
  exact bodyPost_ret (results_cell_row rfl _ _ w.heap.size 28 (rowN 20 (blk R)) (0, 0) _ rfl HD.out Try.underlying28 rfl (by rw [rowN_size]; exact Hs20.out)) rfl ⟨rfl, HV3.out, HK.out⟩
theorem Lose_nil (w : World) :
    Calls Try.prog 9 #[.pointer none] w fun e w' => e = .returned (.agg (rowN 20 (blk fun _ => 0))) ∧ Old w w' := by
  have Hs20 : Hid ((Try.prog.info? 28).map (·.size) = some 20) := Lib.hid (by kernel_rfl)
  obtain ⟨z, hz⟩ : ∃ z : Array Value, z = #[.int .i64 0, .int .i64 0, .int .i64 0, .int .i64 0, .int .i64 0, .int .i64 0, .int .i64 0, .int .i64 0, .int .i64 0, .int .i64 0, .int .i64 0, .int .i64 0, .int .i64 0, .int .i64 0, .int .i64 0, .int .i64 0, .int .i64 0, .int .i64 0, .int .i64 0, .int .i64 0] := ⟨_, rfl⟩
  obtain ⟨W0, hW0⟩ : ∃ W0, W0 = (w.alloc (.cells z 28)) := ⟨_, rfl⟩
  have zs : Hid (z.size = 20) := Lib.hid (by rw [hz]; rfl)
  have z1 : Hid (z.all (·.oneCell') = true) := Lib.hid (by rw [hz, ← row20_zero]; exact blk_one _ _)
  have HR : Hid (W0.heap[w.heap.size]? = some (.cells z 28 (0, 0))) := Lib.hid (by rw [hW0]; exact heap_alloc_new w _)
  have HO : Hid (Old w W0) := Lib.hid (by rw [hW0]; exact Old.alloc w _)
  have HD := Lib.hid (row_ret HR.out HO.out (Nat.le_refl _) z)
  rw [row20_zero, ← hz]
  have Hz := Lib.hid hz
  have HW0 := Lib.hid hW0
  clear hz hW0
  go_enter Try.func9, Try.ntmps9
  go_wp2_with (rw [← Hz.out, ← HW0.out]; with_reducible refine wpList_store_row rfl 28 _ _ rfl w.heap.size z rfl rfl 28 _ HR.out (by rw [zs.out]; exact Hs20.out) rfl z1.out ?_)
  exact bodyPost_ret (results_cell_row rfl _ _ w.heap.size 28 z (0, 0) _ rfl HD.out.1 Try.underlying28 rfl (by rw [zs.out]; exact Hs20.out)) rfl ⟨rfl, HD.out.2⟩
theorem Lost_any (b : Nat) (P : Nat → Int) (l : Int) (w : World) (hb : VlB w b P l) :
    Calls Try.prog 14 #[.pointer (some ⟨b, 0, none⟩)] w fun e w' => e = .returned (.int .i64 l) ∧ w = w' := by
  have c := hb.last.1
  clear hb
  go_enter Try.func14, Try.ntmps14
  go_wp2
  go_ret
  exact ⟨rfl, rfl⟩
theorem Lost_nil (w : World) :
    Calls Try.prog 14 #[.pointer none] w fun e w' => e = .returned (.int .i64 0) ∧ w = w' := by
  go_enter Try.func14, Try.ntmps14
  go_wp2
  go_ret
  exact ⟨rfl, rfl⟩
theorem Clear_any (b : Nat) (P : Nat → Int) (l : Int) (w : World) (hb : VlB w b P l) :
    Calls Try.prog 7 #[.pointer (some ⟨b, 0, none⟩)] w fun e w' => e = .returned (.tuple #[]) ∧ VlB w' b (fun _ => 0) 0 ∧ Kept (butOf w b) w w' := by
  have Hs21 : Hid ((Try.prog.info? 30).map (·.size) = some 21) := Lib.hid (by kernel_rfl)
  obtain ⟨z, hz⟩ : ∃ z : Array Value, z = #[.int .i64 0, .int .i64 0, .int .i64 0, .int .i64 0, .int .i64 0, .int .i64 0, .int .i64 0, .int .i64 0, .int .i64 0, .int .i64 0, .int .i64 0, .int .i64 0, .int .i64 0, .int .i64 0, .int .i64 0, .int .i64 0, .int .i64 0, .int .i64 0, .int .i64 0, .int .i64 0, .int .i64 0] := ⟨_, rfl⟩
  have zr : z = rowN 21 (blk (vlF (fun _ => 0) 0)) := by rw [vlF_zero, row21_zero]; exact hz
  have zs : Hid (z.size = 21) := Lib.hid (by rw [hz]; rfl)
  have z1 : Hid (z.all (·.oneCell') = true) := Lib.hid (by rw [zr]; exact blk_one _ _)
  have HB := Lib.hid hb.heap
  have HV : Hid (VlB (w.setRow b z) b (fun _ => 0) 0) := Lib.hid (by rw [zr]; exact hb.row _ _)
  have HK := Lib.hid (kept_row (b := b) (Old.refl w) z)
  have Hz := Lib.hid hz
  clear hz zr hb
  go_enter Try.func7, Try.ntmps7
  go_wp2_with (rw [← Hz.out]; with_reducible refine wpList_store_row rfl 30 _ _ rfl b z rfl rfl 30 _ HB.out (by rw [zs.out]; exact Hs21.out) (by rw [zs.out, rowN_size]) z1.out ?_)
  refine bodyPost_end (results_none rfl _ _ _) rfl ?_
  exact ⟨rfl, HV.out, HK.out⟩
theorem Clear_nil (w : World) :
    Calls Try.prog 7 #[.pointer none] w fun e w' => e = .returned (.tuple #[]) ∧ w = w' := by
  go_enter Try.func7, Try.ntmps7
  go_wp2
  refine bodyPost_end (results_none rfl _ _ _) rfl ?_
  exact ⟨rfl, rfl⟩
end Go.Proofs.Ytlaoamlmpdbmmaa

