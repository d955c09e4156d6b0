/- Package gain's Up and Down. (wip/lib/XGainU.src, by wip/tools/exp.py) -/
import Derived.Test.YtpdjdejlhjcicaaGainL
import Derived.Test.YtpdjdejlhjcicaaRowsB
import Derived.Deep.RegionHeld
namespace Go.Proofs.Ytpdjdejlhjcicaa
set_option linter.unusedVariables false
open Go.RowKit

theorem atI_bd (g : Nat → Int) (i : Int) : 0 ≤ atI g i ∧ atI g i ≤ 3 := by
  unfold atI
  split
  · rename_i h
    have := h.2.2 (i / 4).toNat (by omega)
    omega
  · omega
theorem wrap_both (x : Int) : IntKind.i64.wrap x = wrap64 x := by rw [IntKind.wrap_i64]; unfold wrap64; omega
/-- A number, louder by a gain, and quieter. -/
def upI (x s : Int) : Int := wrap64 (x * 2 ^ s.toNat)
def upB (f g : Nat → Int) : Nat → Int := fun k => upI (f k) (atI g k)
def downI (x s : Int) : Int := roundI x (pw s.toNat)
def downB (f g : Nat → Int) : Nat → Int := fun k => downI (f k) (atI g k)
def toB (n : Nat) (f g : Nat → Int) : Nat → Int := fun k => if k < n then f k else g k
/-- A block that is turned number by number, the gains, and the result's block. -/
structure UpSt (w : World) (tb tg : TypeId) (z : Array Value) (f g : Nat → Int) (W : World) : Prop where
  b : W.heap[w.heap.size]? = some (.cells (rowN 16 (blk f)) tb (0, 0))
  g : W.heap[w.heap.size + 1]? = some (.cells (rowN 4 (blk g)) tg (0, 0))
  r : W.heap[w.heap.size + 1 + 1]? = some (.cells z tb (0, 0))
  old : Old w W
namespace UpSt
variable {w W V : World} {tb tg : TypeId} {z : Array Value} {f g : Nat → Int}
theorem keep (h : UpSt w tb tg z f g W) (o : Old W V) : UpSt w tb tg z f g V :=
  ⟨(o.block _ (lt_of_block h.b)).trans h.b, (o.block _ (lt_of_block h.g)).trans h.g, (o.block _ (lt_of_block h.r)).trans h.r, h.old.trans o⟩
theorem set (h : UpSt w tb tg z f g W) (j : Nat) (hj : j < 16) (v : Int) : UpSt w tb tg z (fun k => if k = j then v else f k) g (W.setCell ⟨w.heap.size, j, none⟩ (.int .i64 v)) := by
  refine ⟨?_, (heap_setCell_other _ _ _ _ (by simp)).trans h.g, (heap_setCell_other _ _ _ _ (by simp; omega)).trans h.r, h.old.after (Kept.setCell (X := fun k => k < w.heap.size) _ (a := ⟨w.heap.size, j, none⟩) (by show ¬ w.heap.size < w.heap.size; omega) _) fun _ hk => hk⟩
  rw [← blk_upd, ← rowN_set _ _ _ _ hj]
  exact heap_setCell_same _ _ _ _ _ _ h.b
theorem cell (h : UpSt w tb tg z f g W) (j : Nat) (hj : j < 16) : W.cell? ⟨w.heap.size, j, none⟩ = some (.int .i64 (f j)) ∧ W.frozen? ⟨w.heap.size, j, none⟩ = false :=
  ⟨(cell_of_row _ _ _ _ _ _ h.b).trans (blk_at 16 f j hj), frozen_of_row _ _ _ _ _ h.b⟩
theorem row (h : UpSt w tb tg z f g W) (cs : Array Value) : (W.setRow (w.heap.size + 1 + 1) cs).heap[w.heap.size + 1 + 1]? = some (.cells cs tb (0, 0)) ∧ Old w (W.setRow (w.heap.size + 1 + 1) cs) :=
  ⟨setRow_heap _ _ _ _ _ _ h.r, h.old.after (X := fun k => k < w.heap.size) ⟨rfl, rfl, by simp, fun k hk => setRow_other _ _ _ _ (by omega)⟩ fun _ h => h⟩
end UpSt
theorem toB_succ (n : Nat) (f g : Nat → Int) (v : Int) (hv : v = f n) : (fun k => if k = n then v else toB n f g k) = toB (n + 1) f g := by
  funext k
  unfold toB
  by_cases h : k = n
  · subst h; rw [if_pos rfl, if_pos (by omega), hv]
  · rw [if_neg h]
    by_cases h2 : k < n
    · rw [if_pos h2, if_pos (by omega)]
    · rw [if_neg h2, if_neg (by omega)]
theorem toB_zero (f g : Nat → Int) : toB 0 f g = g := by funext k; unfold toB; rw [if_neg (by omega)]
theorem upd_start (w : World) (tb tg : TypeId) (z : Array Value) (f g : Nat → Int) : UpSt w tb tg z f g (((w.alloc (.cells (rowN 16 (blk f)) tb)).alloc (.cells (rowN 4 (blk g)) tg)).alloc (.cells z tb)) := by
  refine ⟨?_, ?_, ?_, ((Old.alloc w _).alloc' _).alloc' _⟩
  · exact (Below.heap_alloc _ _ _ (by simp; omega)).trans (heap_alloc2_old w _ _)
  · exact (Below.heap_alloc _ _ _ (by simp)).trans (heap_alloc2_new w _ _)
  · have := heap_alloc_new ((w.alloc (.cells (rowN 16 (blk f)) tb)).alloc (.cells (rowN 4 (blk g)) tg)) (.cells z tb)
    rw [World.size_alloc, World.size_alloc] at this
    exact this
set_option maxRecDepth 100000 in
set_option maxHeartbeats 4000000 in
theorem Up_any (f g : Nat → Int) (w : World) :
    Calls Try.prog 14 #[.agg (rowN 16 (blk f)), .agg (rowN 4 (blk g))] w fun e w' => e = .returned (.agg (rowN 16 (blk (upB f g)))) ∧ Old w w' := by
  obtain ⟨z, hz⟩ : ∃ z : Array Value, z = #[.int .i64 0, .int .i64 0, .int .i64 0, .int .i64 0, .int .i64 0, .int .i64 0, .int .i64 0, .int .i64 0, .int .i64 0, .int .i64 0, .int .i64 0, .int .i64 0, .int .i64 0, .int .i64 0, .int .i64 0, .int .i64 0] := ⟨_, rfl⟩
  have hzs : z.size = 16 := by rw [hz]; rfl
  have hst := upd_start w 28 36 z f g
  have HAt := Lib.hid (fun (i : Nat) (h : i < 16) w => At_any g i w (by omega) (by omega))
  have Hs4 : Hid ((Try.prog.info? 36).map (·.size) = some 4) := Lib.hid (by kernel_rfl)
  have H0 : Hid (UpSt w 28 36 z (toB 0 (upB f g) f) g (((w.alloc (.cells (rowN 16 (blk f)) 28)).alloc (.cells (rowN 4 (blk g)) 36)).alloc (.cells z 28))) := by rw [toB_zero]; exact hst
  clear hst
  go_enter Try.func14, Try.ntmps14
  go_wp2_with fail
  rw [← hz]
  clear hz
  go_loopw [6] (fun i wr => ∃ k : Nat, k ≤ 16 ∧ i = .int .i64 k ∧ Hid (UpSt w 28 36 z (toB k (upB f g) f) g wr)) (fun i _ => 16 - (intOf i).toNat)
  case atStart => exact ⟨0, by omega, rfl, H0⟩
  case round =>
    obtain ⟨k, hk, rfl, HS⟩ := hrel
    clear H0
    by_cases hlt : k < 16
    · have i1 : (0 : Int) ≤ k := by omega
      have i2 : (k : Int) < 16 := by omega
      have hA := HAt.out k hlt
      obtain ⟨s0, s3⟩ := atI_bd g k
      have NX : Hid (∀ V, Old wr.drew V → UpSt w 28 36 z (toB (k + 1) (upB f g) f) g (V.setCell ⟨w.heap.size, k, none⟩ (.int .i64 (upI (f k) (atI g k))))) := fun V hV => by
        have h := (HS.out.keep (Old.drew (Old.refl _) |>.trans hV)).set k hlt (upI (f k) (atI g k))
        rw [toB_succ k (upB f g) f (upI (f k) (atI g k)) rfl] at h
        exact h
      have cells : Hid (∀ V, Old wr.drew V → V.cell? ⟨w.heap.size, k, none⟩ = some (.int .i64 (f k)) ∧ V.frozen? ⟨w.heap.size, k, none⟩ = false ∧ V.heap[w.heap.size + 1]? = some (.cells (rowN 4 (blk g)) 36 (0, 0))) := fun V hV => by
        have h := HS.out.keep (Old.drew (Old.refl _) |>.trans hV)
        have c := h.cell k hlt
        unfold toB at c
        rw [if_neg (by omega)] at c
        exact ⟨c.1, c.2, h.g⟩
      have keep2 : Hid (∀ (V : World) (v : Value), V.heap[w.heap.size + 1]? = some (.cells (rowN 4 (blk g)) 36 (0, 0)) → (V.setCell ⟨w.heap.size, k, none⟩ v).heap[w.heap.size + 1]? = some (.cells (rowN 4 (blk g)) 36 (0, 0))) := fun V v hV => (heap_setCell_other _ _ _ _ (by simp)).trans hV
      have HA := Lib.hid hA
      obtain ⟨x, hx⟩ : ∃ x, x = f k := ⟨_, rfl⟩
      rw [← hx] at NX cells
      clear hA hx HAt HS
      generalize atI g (k : Int) = s at *
      have q1 : IntKind.i64.wrap (x * 2 ^ s.toNat) = upI x s := wrap_both _
      have q2 : wrap64 (x * 2 ^ s.toNat) = upI x s := rfl
      generalize upI x s = u at *
      obtain ⟨c1, c2, c3⟩ := cells.out wr.drew (Old.refl _)
      go_wp2_with fail
      refine wp_region_held_drew (S := (fun w' => w'.heap[w.heap.size + 1]? = some (.cells (rowN 4 (blk g)) 36 (0, 0)))) (by kernel_rfl) ?_ (fun hHeld => ?_)
      · (try dsimp only); exact c3
      refine wpAnyH_take (i := 0) (oi := ⟨some _, _, _, _, _, _⟩) (v := ?_) rfl (by kernel_rfl) (by kernel_rfl) (by kernel_rfl) (fun _ _ _ h => h) (Or.inl ⟨by kernel_rfl, ?_⟩) (by assumption) ?_; rotate_left; (intro w hSw; (try dsimp only at hSw); go_simp; try with_reducible rfl); try simp only [Act.put, List.setIfInBounds_toArray, List.set_cons_zero, List.set_cons_succ]
      refine wpAnyH_take (i := 1) (oi := ⟨some _, _, _, _, _, _⟩) (v := ?_) rfl (by kernel_rfl) (by kernel_rfl) (by kernel_rfl) (fun _ _ _ h => h) (Or.inl ⟨by kernel_rfl, ?_⟩) (by assumption) ?_; rotate_left; (intro w hSw; (try dsimp only at hSw); go_simp; try with_reducible rfl); try simp only [Act.put, List.setIfInBounds_toArray, List.set_cons_zero, List.set_cons_succ]
      refine wpAnyH_take (i := 3) (oi := ⟨some _, _, _, _, _, _⟩) (v := .agg (rowN 4 (blk g))) rfl (by kernel_rfl) (by kernel_rfl) (by kernel_rfl) (fun _ _ _ h => h) (yieldsIf_load_row (by kernel_rfl) 36 (.tmp 3) rfl (w.heap.size + 1) rfl 36 (rowN 4 (blk g)) (0, 0) _ (fun _ h => h) Try.underlying36 rfl (by rw [rowN_size]; exact Hs4.out)) (by assumption) ?_; try simp only [Act.put, List.setIfInBounds_toArray, List.set_cons_zero, List.set_cons_succ]
      refine wpAnyH_take (i := 4) (oi := ⟨some _, _, _, _, _, _⟩) (v := ?_) rfl (by kernel_rfl) (by kernel_rfl) (by kernel_rfl) (fun _ _ _ h => h) (Or.inl ⟨by kernel_rfl, ?_⟩) (by assumption) ?_; rotate_left; (intro w hSw; (try dsimp only at hSw); go_simp; try with_reducible rfl); try simp only [Act.put, List.setIfInBounds_toArray, List.set_cons_zero, List.set_cons_succ]
      refine wpAnyH_ready (rs := [2, 5]) (by kernel_rfl) (by simp) ?_
      refine AllReadyH.cons (o := ⟨_, _, _, _, _, _⟩) rfl (fun K hK => ?_) (AllReadyH.cons (o := ⟨_, _, _, _, _, _⟩) rfl (fun K hK => ?_) AllReadyH.nil)
      · go_simp
        refine hK.out _ _ ?_ (fun hHeld => ?_)
        · (try dsimp only); exact c3
        clear hK K
        try simp only [Act.put, List.setIfInBounds_toArray, List.set_cons_zero, List.set_cons_succ]
        refine wpAnyH_ready (rs := [5]) (by kernel_rfl) (by simp) ?_
        refine AllReadyH.cons (o := ⟨_, _, _, _, _, _⟩) rfl (fun K hK => ?_) AllReadyH.nil
        go_simp
        refine (HA.out _).mono ?_
        rintro e V1 ⟨rfl, o1⟩
        go_wp2_with fail
        refine hK.out _ _ ?_ (fun hHeld => ?_)
        · (try dsimp only); exact (cells.out V1 o1).2.2
        clear hK K
        try simp only [Act.put, List.setIfInBounds_toArray, List.set_cons_zero, List.set_cons_succ]
        refine wpAnyH_take (i := 6) (oi := ⟨some _, _, _, _, _, _⟩) (v := ?_) rfl (by kernel_rfl) (by kernel_rfl) (by kernel_rfl) (fun _ _ _ h => h) (Or.inl ⟨by kernel_rfl, ?_⟩) (by assumption) ?_; rotate_left; (intro w hSw; (try dsimp only at hSw); go_simp; try with_reducible rfl); try simp only [Act.put, List.setIfInBounds_toArray, List.set_cons_zero, List.set_cons_succ]
        refine wpAnyH_take (i := 7) (oi := ⟨some _, _, _, _, _, _⟩) (v := ?_) rfl (by kernel_rfl) (by kernel_rfl) (by kernel_rfl) (fun _ _ _ h => h) (Or.inl ⟨by kernel_rfl, ?_⟩) (by assumption) ?_; rotate_left; (intro w hSw; (try dsimp only at hSw); go_simp; try with_reducible rfl); try simp only [Act.put, List.setIfInBounds_toArray, List.set_cons_zero, List.set_cons_succ]
        obtain ⟨d1, d2, d3⟩ := cells.out V1 o1
        refine wpAnyH_ready (rs := [8]) (by kernel_rfl) (by simp) ?_
        refine AllReadyH.cons (o := ⟨_, _, _, _, _, _⟩) rfl (fun K hK => ?_) AllReadyH.nil
        go_simp
        refine hK.out _ _ ?_ (fun hHeld => ?_)
        · (try dsimp only); exact keep2.out _ _ d3
        clear hK K
        try simp only [Act.put, List.setIfInBounds_toArray, List.set_cons_zero, List.set_cons_succ]
        refine wpAnyH_done (by kernel_rfl) ?_ _
        have HN := Lib.hid (NX.out V1 o1)
        clear cells keep2 NX o1 c1 c2 c3 d1 d2 d3 q1 q2 HA
        go_wp2_with fail
        go_roundw
        case rel => exact ⟨k + 1, by omega, by go_num, HN⟩
        case measure => simp [intOf]; omega
      · go_simp
        refine (HA.out _).mono ?_
        rintro e V1 ⟨rfl, o1⟩
        go_wp2_with fail
        refine hK.out _ _ ?_ (fun hHeld => ?_)
        · (try dsimp only); exact (cells.out V1 o1).2.2
        clear hK K
        try simp only [Act.put, List.setIfInBounds_toArray, List.set_cons_zero, List.set_cons_succ]
        obtain ⟨d1, d2, d3⟩ := cells.out V1 o1
        refine wpAnyH_ready (rs := [2]) (by kernel_rfl) (by simp) ?_
        refine AllReadyH.cons (o := ⟨_, _, _, _, _, _⟩) rfl (fun K hK => ?_) AllReadyH.nil
        go_simp
        refine hK.out _ _ ?_ (fun hHeld => ?_)
        · (try dsimp only); exact d3
        clear hK K
        try simp only [Act.put, List.setIfInBounds_toArray, List.set_cons_zero, List.set_cons_succ]
        refine wpAnyH_take (i := 6) (oi := ⟨some _, _, _, _, _, _⟩) (v := ?_) rfl (by kernel_rfl) (by kernel_rfl) (by kernel_rfl) (fun _ _ _ h => h) (Or.inl ⟨by kernel_rfl, ?_⟩) (by assumption) ?_; rotate_left; (intro w hSw; (try dsimp only at hSw); go_simp; try with_reducible rfl); try simp only [Act.put, List.setIfInBounds_toArray, List.set_cons_zero, List.set_cons_succ]
        refine wpAnyH_take (i := 7) (oi := ⟨some _, _, _, _, _, _⟩) (v := ?_) rfl (by kernel_rfl) (by kernel_rfl) (by kernel_rfl) (fun _ _ _ h => h) (Or.inl ⟨by kernel_rfl, ?_⟩) (by assumption) ?_; rotate_left; (intro w hSw; (try dsimp only at hSw); go_simp; try with_reducible rfl); try simp only [Act.put, List.setIfInBounds_toArray, List.set_cons_zero, List.set_cons_succ]
        refine wpAnyH_ready (rs := [8]) (by kernel_rfl) (by simp) ?_
        refine AllReadyH.cons (o := ⟨_, _, _, _, _, _⟩) rfl (fun K hK => ?_) AllReadyH.nil
        go_simp
        refine hK.out _ _ ?_ (fun hHeld => ?_)
        · (try dsimp only); exact keep2.out _ _ d3
        clear hK K
        try simp only [Act.put, List.setIfInBounds_toArray, List.set_cons_zero, List.set_cons_succ]
        refine wpAnyH_done (by kernel_rfl) ?_ _
        have HN := Lib.hid (NX.out V1 o1)
        clear cells keep2 NX o1 c1 c2 c3 d1 d2 d3 q1 q2 HA
        go_wp2_with fail
        go_roundw
        case rel => exact ⟨k + 1, by omega, by go_num, HN⟩
        case measure => simp [intOf]; omega
    · obtain rfl : k = 16 := by omega
      have hg : rowN 16 (blk (toB 16 (upB f g) f)) = rowN 16 (blk (upB f g)) := rowN_ext _ _ _ fun k hk => by unfold blk toB; rw [if_pos hk]
      have Hg := Lib.hid HS.out.b
      rw [hg] at Hg
      have Hr := Lib.hid HS.out.r
      have Hd := Lib.hid (HS.out.row (rowN 16 (blk (upB f g))))
      have Hs : Hid ((Try.prog.info? 28).map (·.size) = some 16) := Lib.hid (by kernel_rfl)
      have H1 : Hid ((rowN 16 (blk (upB f g))).all (·.oneCell') = true) := Lib.hid (blk_one _ _)
      clear HS hg HAt
      have hsz := rowN_size 16 (blk (upB f g))
      go_wp2_with (first | (with_reducible refine wpList_load_row rfl 28 _ rfl w.heap.size rfl 28 (rowN 16 (blk (upB f g))) (0, 0) _ Hg.out Try.underlying28 rfl (by rw [hsz]; exact Hs.out) ?_) | (with_reducible refine wpList_store_row rfl 28 _ _ rfl (w.heap.size + 1 + 1) (rowN 16 (blk (upB f g))) rfl rfl 28 _ Hr.out (by rw [hsz]; exact Hs.out) (by rw [hsz]; exact hzs) H1.out ?_))
      exact bodyPost_ret (results_cell_row rfl _ _ (w.heap.size + 1 + 1) 28 (rowN 16 (blk (upB f g))) (0, 0) _ rfl Hd.out.1 Try.underlying28 rfl (by rw [hsz]; exact Hs.out)) rfl ⟨rfl, Hd.out.2⟩

set_option maxRecDepth 100000 in
set_option maxHeartbeats 4000000 in
theorem Down_any (f g : Nat → Int) (hf : ∀ k, k < 16 → -9223372036854775808 ≤ f k ∧ f k ≤ 9223372036854775807) (w : World) :
    Calls Try.prog 38 #[.agg (rowN 16 (blk f)), .agg (rowN 4 (blk g))] w fun e w' => e = .returned (.agg (rowN 16 (blk (downB f g)))) ∧ Old w w' := by
  obtain ⟨z, hz⟩ : ∃ z : Array Value, z = #[.int .i64 0, .int .i64 0, .int .i64 0, .int .i64 0, .int .i64 0, .int .i64 0, .int .i64 0, .int .i64 0, .int .i64 0, .int .i64 0, .int .i64 0, .int .i64 0, .int .i64 0, .int .i64 0, .int .i64 0, .int .i64 0] := ⟨_, rfl⟩
  have hzs : z.size = 16 := by rw [hz]; rfl
  have hst := upd_start w 28 36 z f g
  have HAt := Lib.hid (fun (i : Nat) (h : i < 16) w => At_any g i w (by omega) (by omega))
  have HRd := Lib.hid (fun (i : Nat) (h : i < 16) w => Round_any (f i) (atI g i) w (atI_bd g i).1 (by have := (atI_bd g i).2; omega) (hf i h).1 (hf i h).2)
  have Hs4 : Hid ((Try.prog.info? 36).map (·.size) = some 4) := Lib.hid (by kernel_rfl)
  have Hs16 : Hid ((Try.prog.info? 28).map (·.size) = some 16) := Lib.hid (by kernel_rfl)
  have HB0 : Hid ((((w.alloc (.cells (rowN 16 (blk f)) 28)).alloc (.cells (rowN 4 (blk g)) 36)).alloc (.cells z 28)).heap[w.heap.size]? = some (.cells (rowN 16 (blk f)) 28 (0, 0))) := hst.b
  have H0 : Hid (UpSt w 28 36 z (toB 0 (downB f g) f) g (((w.alloc (.cells (rowN 16 (blk f)) 28)).alloc (.cells (rowN 4 (blk g)) 36)).alloc (.cells z 28))) := by rw [toB_zero]; exact hst
  clear hst hf
  go_enter Try.func38, Try.ntmps38
  rw [hz] at HB0
  go_wp2_with (with_reducible refine wpList_load_row rfl 28 _ rfl w.heap.size rfl 28 (rowN 16 (blk f)) (0, 0) _ HB0.out Try.underlying28 rfl (by rw [rowN_size]; exact Hs16.out) ?_)
  rw [← hz]
  clear hz HB0
  go_loopw [8] (fun i wr => ∃ k : Nat, k ≤ 16 ∧ i = .int .i64 k ∧ Hid (UpSt w 28 36 z (toB k (downB f g) f) g wr)) (fun i _ => 16 - (intOf i).toNat)
  case atStart => exact ⟨0, by omega, rfl, H0⟩
  case round =>
    obtain ⟨k, hk, rfl, HS⟩ := hrel
    clear H0
    by_cases hlt : k < 16
    · have i1 : (0 : Int) ≤ k := by omega
      have i2 : (k : Int) < 16 := by omega
      have hA := HAt.out k hlt
      have hR := HRd.out k hlt
      have hat : ∀ w : World, (Instr.index 28 (.agg (rowN 16 (blk f))) (.int .i64 k)).run Try.prog w = .ok (.int .i64 (f k)) w := fun w => run_index_ints Try.underlying28 Try.underlying2 (fun _ => by kernel_rfl) f k hlt w
      have NX : Hid (∀ V, Old wr V → UpSt w 28 36 z (toB (k + 1) (downB f g) f) g (V.setCell ⟨w.heap.size, k, none⟩ (.int .i64 (downI (f k) (atI g k))))) := fun V hV => by
        have h := (HS.out.keep hV).set k hlt (downI (f k) (atI g k))
        rw [toB_succ k (downB f g) f (downI (f k) (atI g k)) rfl] at h
        exact h
      have cells : Hid (∀ V, Old wr V → V.cell? ⟨w.heap.size, k, none⟩ = some (.int .i64 (toB k (downB f g) f k)) ∧ V.frozen? ⟨w.heap.size, k, none⟩ = false) := fun V hV => (HS.out.keep hV).cell k hlt
      have HG := Lib.hid HS.out.g
      rw [show roundI (f k) (pw (atI g k).toNat) = downI (f k) (atI g k) from rfl] at hR
      have HA := Lib.hid hA
      have HR := Lib.hid hR
      clear hA hR HAt HRd HS
      generalize atI g (k : Int) = s at *
      generalize downI (f k) s = u at *
      generalize toB k (downB f g) f k = c at *
      generalize f k = x at *
      go_wp2_with (with_reducible refine wpList_load_row rfl 36 _ rfl (w.heap.size + 1) rfl 36 (rowN 4 (blk g)) (0, 0) _ HG.out Try.underlying36 rfl (by rw [rowN_size]; exact Hs4.out) ?_)
      refine (HA.out _).mono ?_
      rintro e V1 ⟨rfl, o1⟩
      go_wp2_with fail
      refine (HR.out _).mono ?_
      rintro e V2 ⟨rfl, n2, rfl⟩
      obtain ⟨d1, d2⟩ := cells.out _ (o1.drewN n2)
      have HN := Lib.hid (NX.out _ (o1.drewN n2))
      clear cells NX o1 HA HR HG
      go_wp2_with fail
      go_roundw
      case rel => exact ⟨k + 1, by omega, by go_num, HN⟩
      case measure => simp [intOf]; omega
    · obtain rfl : k = 16 := by omega
      have hg : rowN 16 (blk (toB 16 (downB f g) f)) = rowN 16 (blk (downB f g)) := rowN_ext _ _ _ fun k hk => by unfold blk toB; rw [if_pos hk]
      have Hg := Lib.hid HS.out.b
      rw [hg] at Hg
      have Hr := Lib.hid HS.out.r
      have Hd := Lib.hid (HS.out.row (rowN 16 (blk (downB f g))))
      have H1 : Hid ((rowN 16 (blk (downB f g))).all (·.oneCell') = true) := Lib.hid (blk_one _ _)
      clear HS hg HAt HRd
      have hsz := rowN_size 16 (blk (downB f g))
      go_wp2_with (first | (with_reducible refine wpList_load_row rfl 28 _ rfl w.heap.size rfl 28 (rowN 16 (blk (downB f g))) (0, 0) _ Hg.out Try.underlying28 rfl (by rw [hsz]; exact Hs16.out) ?_) | (with_reducible refine wpList_store_row rfl 28 _ _ rfl (w.heap.size + 1 + 1) (rowN 16 (blk (downB f g))) rfl rfl 28 _ Hr.out (by rw [hsz]; exact Hs16.out) (by rw [hsz]; exact hzs) H1.out ?_))
      exact bodyPost_ret (results_cell_row rfl _ _ (w.heap.size + 1 + 1) 28 (rowN 16 (blk (downB f g))) (0, 0) _ rfl Hd.out.1 Try.underlying28 rfl (by rw [hsz]; exact Hs16.out)) rfl ⟨rfl, Hd.out.2⟩
end Go.Proofs.Ytpdjdejlhjcicaa

