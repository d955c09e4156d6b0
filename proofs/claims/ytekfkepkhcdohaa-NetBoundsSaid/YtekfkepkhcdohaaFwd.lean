/- The law's own spectrum: forward. -/
import Derived.Test.YtekfkepkhcdohaaNetQ
namespace Go.Proofs.Ytekfkepkhcdohaa
set_option linter.unusedVariables false
open Go.RowKit

/-- A block that is filled on, and the block for the result. -/
structure BlkSt (w : World) (tb : TypeId) (bb br : Nat) (z : Array Value) (g : Nat → Int) (W : World) : Prop where
  b : W.heap[bb]? = some (.cells (rowN 16 (blk g)) tb (0, 0))
  r : W.heap[br]? = some (.cells z tb (0, 0))
  old : Old w W
  nb : w.heap.size ≤ bb
  nr : bb ≠ br
  nz : w.heap.size ≤ br
namespace BlkSt
variable {w W W' : World} {tb : TypeId} {bb br : Nat} {z : Array Value} {g g' : Nat → Int}
theorem keep (h : BlkSt w tb bb br z g W) (k : Old W W') : BlkSt w tb bb br z g W' :=
  ⟨(k.block bb (lt_of_block h.b)).trans h.b, (k.block br (lt_of_block h.r)).trans h.r, h.old.trans k, h.nb, h.nr, h.nz⟩
theorem drew (h : BlkSt w tb bb br z g W) : BlkSt w tb bb br z g W.drew := h.keep (Old.refl W).drew
theorem set (h : BlkSt w tb bb br z g W) (j : Nat) (hj : j < 16) (v : Int) : BlkSt w tb bb br z (fun k => if k = j then v else g k) (W.setCell ⟨bb, j, none⟩ (.int .i64 v)) := by
  have hn := h.nb
  have hr := h.nr
  refine ⟨?_, (heap_setCell_other _ _ _ _ (fun e => hr e.symm)).trans h.r, h.old.after (Kept.setCell (X := fun k => k < w.heap.size) _ (a := ⟨bb, j, none⟩) (by show ¬ bb < w.heap.size; omega) _) fun _ hk => hk, h.nb, h.nr, h.nz⟩
  rw [← blk_upd, ← rowN_set _ _ _ _ hj]
  exact heap_setCell_same _ _ _ _ _ _ h.b
theorem cell (h : BlkSt w tb bb br z g W) (j : Nat) (hj : j < 16) : W.cell? ⟨bb, j, none⟩ = some (.int .i64 (g j)) ∧ W.frozen? ⟨bb, j, none⟩ = false :=
  ⟨(cell_of_row _ _ _ _ _ _ h.b).trans (blk_at 16 g j hj), frozen_of_row _ _ _ _ _ h.b⟩
theorem row (h : BlkSt w tb bb br z g W) (cs : Array Value) : (W.setRow br cs).heap[br]? = some (.cells cs tb (0, 0)) ∧ Old w (W.setRow br cs) :=
  have hz := h.nz
  ⟨setRow_heap _ _ _ _ _ _ h.r, h.old.after (X := fun k => k < w.heap.size) ⟨rfl, rfl, by simp, fun k hk => setRow_other _ _ _ _ (by omega)⟩ fun _ h => h⟩
end BlkSt

set_option maxRecDepth 100000 in
set_option maxHeartbeats 4000000 in
theorem forward_any (f : Nat → Int) (w : World) :
    Calls Try.prog 10 #[.agg (rowN 16 (blk f))] w fun e w' => e = .returned (.agg (rowN 16 (blk (fwdN 4 f)))) ∧ Old w w' := by
  go_enter Try.func10, Try.ntmps10
  go_wp2_with fail
  obtain ⟨z, hz⟩ : ∃ z : Array Value, z = #[.int .i64 0, .int .i64 0, .int .i64 0, .int .i64 0, .int .i64 0, .int .i64 0, .int .i64 0, .int .i64 0, .int .i64 0, .int .i64 0, .int .i64 0, .int .i64 0, .int .i64 0, .int .i64 0, .int .i64 0, .int .i64 0] := ⟨_, rfl⟩
  have hzs : z.size = 16 := by rw [hz]; rfl
  rw [← hz]
  clear hz
  have hst : BlkSt w 23 w.heap.size (w.heap.size + 1) z (fwdN 0 f) ((w.alloc (.cells (rowN 16 (blk f)) 23)).alloc (.cells z 23)) :=
    ⟨(Below.heap_alloc _ _ _ (by simp)).trans (World.alloc_heap_new _ _), by have := World.alloc_heap_new (w.alloc (.cells (rowN 16 (blk f)) 23)) (.cells z 23); rwa [World.size_alloc] at this, (Old.alloc w _).alloc' _, by omega, by omega, by omega⟩
  have H0 := Lib.hid hst
  clear hst
  go_loopw [3, 4] (fun far r wr => ∃ k : Nat, k ≤ 4 ∧ far = .int .i64 (apart k) ∧ r = .int .i64 k ∧ Hid (BlkSt w 23 w.heap.size (w.heap.size + 1) z (fwdN k f) wr)) (fun _ r _ => 4 - (intOf r).toNat)
  case atStart => exact ⟨0, by omega, rfl, rfl, H0⟩
  case round =>
    obtain ⟨k, hk, rfl, rfl, hs⟩ := hrel
    clear H0
    by_cases hlt : k < 4
    · have k1 : (0 : Int) ≤ k := by omega
      have k2 : (k : Int) < 4 := by omega
      obtain ⟨p1, p2⟩ := apart_bd k hlt
      have q1 : (1 : Int) ≤ (apart k : Int) := by omega
      have q2 : (apart k : Int) ≤ 8 := by omega
      have hap : Hid (((apart (k + 1) : Nat) : Int) = 2 * (apart k : Int)) := by
        show ((2 ^ (k + 1) : Nat) : Int) = 2 * ((2 ^ k : Nat) : Int)
        rw [Nat.pow_succ, Nat.mul_comm]
        simp
      go_wp2_with fail
      go_loopw [5] (fun i wi => ∃ n : Nat, n ≤ 16 ∧ i = .int .i64 n ∧ Hid (BlkSt w 23 w.heap.size (w.heap.size + 1) z ((pairs k n).foldl stepT (fwdN k f)) wi)) (fun i _ => 16 - (intOf i).toNat)
      case atStart => exact ⟨0, by omega, rfl, hs⟩
      case round =>
        obtain ⟨n, hn, rfl, hi⟩ := hrel
        by_cases hlt2 : n < 16
        · have i1 : (0 : Int) ≤ n := by omega
          have i2 : (n : Int) < 16 := by omega
          have hq : (n : Int) / (apart k : Int) = ((n / apart k : Nat) : Int) := rfl
          by_cases hl : n / apart k % 2 = 0
          · have hin := low_in k hlt n hlt2 hl
            have hl2 : n / apart k ≤ 16 := by have := Nat.div_le_self n (apart k); omega
            have hfold : (pairs k (n + 1)).foldl stepT (fwdN k f) = stepT ((pairs k n).foldl stepT (fwdN k f)) (pairOf k n hin) := by rw [pairs_yes k n hl hin, List.foldl_append]; rfl
            generalize n / apart k = q at *
            have hl3 : (q : Int) % 2 = 0 := by omega
            have hl4 : (0 : Int) ≤ q := by omega
            have hl5 : (q : Int) ≤ 16 := by omega
            have e3 : (((3 * n + 5 * k) % 8 : Nat) : Int) = (3 * (n : Int) + 5 * (k : Int)) % 8 := by omega
            have hTa := fun w => Turn_yes ((3 * n + 5 * k) % 8) w (by omega)
            have hTb := fun (m : Nat) (g : Nat → Int) w => Turn_all (g n) (g m) (turnP ((3 * n + 5 * k) % 8)) (turnU ((3 * n + 5 * k) % 8)) w
            obtain ⟨m, hm⟩ : ∃ m, m = n + apart k := ⟨_, rfl⟩
            have hst : ∀ g : Nat → Int, stepT g (pairOf k n hin) = fun j => if j = m then turnWB (g n) (g m) (turnP ((3 * n + 5 * k) % 8)) (turnU ((3 * n + 5 * k) % 8)) else if j = n then turnWA (g n) (g m) (turnP ((3 * n + 5 * k) % 8)) (turnU ((3 * n + 5 * k) % 8)) else g j := fun g => by rw [hm]; rfl
            unfold turnV at hTa
            rw [e3] at hTa
            generalize turnP ((3 * n + 5 * k) % 8) = pv at *
            generalize turnU ((3 * n + 5 * k) % 8) = uv at *
            clear e3
            obtain ⟨g, hg⟩ : ∃ g, g = (pairs k n).foldl stepT (fwdN k f) := ⟨_, rfl⟩
            rw [← hg] at hi hfold
            replace hTb := hTb m g
            replace hst := hst g
            rw [hst] at hfold
            clear hg hst
            generalize turnWA (g n) (g m) pv uv = va at *
            generalize turnWB (g n) (g m) pv uv = vb at *
            have hin' : m < 16 := by omega
            have hm1 : (n : Int) + (apart k : Int) = (m : Int) := by omega
            have hm2 : wrap64 ((n : Int) + (apart k : Int)) = (m : Int) := by rw [hm1]; exact IntWalk.wrap64_in _ (by omega)
            have w1 : wrap64 (3 * (n : Int)) = 3 * n := IntWalk.wrap64_in _ (by omega)
            have w2 : wrap64 (5 * (k : Int)) = 5 * k := IntWalk.wrap64_in _ (by omega)
            have w3 : wrap64 (3 * (n : Int) + 5 * (k : Int)) = 3 * n + 5 * k := IntWalk.wrap64_in _ (by omega)
            have w4 : wrap64 ((3 * (n : Int) + 5 * (k : Int)).tmod 8) = (3 * (n : Int) + 5 * (k : Int)) % 8 := by
              rw [Int.tmod_eq_emod_of_nonneg (by omega)]; exact IntWalk.wrap64_in _ (by omega)
            have v0 : IntKind.i64.wrap (m : Int) = m := IntWalk.i64_in _ (by omega)
            have v1 : IntKind.i64.wrap (3 * (n : Int)) = 3 * n := IntWalk.i64_in _ (by omega)
            have v2 : IntKind.i64.wrap (5 * (k : Int)) = 5 * k := IntWalk.i64_in _ (by omega)
            have v3 : IntKind.i64.wrap (3 * (n : Int) + 5 * (k : Int)) = 3 * n + 5 * k := IntWalk.i64_in _ (by omega)
            have v4 : IntKind.i64.wrap ((3 * (n : Int) + 5 * (k : Int)).tmod 8) = (3 * (n : Int) + 5 * (k : Int)) % 8 := by
              rw [Int.tmod_eq_emod_of_nonneg (by omega)]; exact IntWalk.i64_in _ (by omega)
            have j3 : (0 : Int) ≤ (m : Int) := by omega
            have j4 : (m : Int) < 16 := by omega
            obtain ⟨c1, c2⟩ := hi.out.cell n hlt2
            obtain ⟨c3, c4⟩ := hi.out.cell m hin'
            have keep1 : ∀ V : World, Old wr.drew V → V.cell? ⟨w.heap.size, n, none⟩ = some (.int .i64 (g n)) ∧ V.cell? ⟨w.heap.size, m, none⟩ = some (.int .i64 (g m)) := fun V hV =>
              ⟨(Kept.cell hV (lt_of_block hi.out.b)).trans c1, (Kept.cell hV (lt_of_block hi.out.b)).trans c3⟩
            have fin : ∀ V : World, Old wr.drew V → (V.cell? ⟨w.heap.size, n, none⟩ = some (.int .i64 (g n)) ∧ V.frozen? ⟨w.heap.size, n, none⟩ = false) ∧ ((V.setCell ⟨w.heap.size, n, none⟩ (.int .i64 va)).cell? ⟨w.heap.size, m, none⟩ = some (.int .i64 (g m)) ∧ (V.setCell ⟨w.heap.size, n, none⟩ (.int .i64 va)).frozen? ⟨w.heap.size, m, none⟩ = false) ∧
                BlkSt w 23 w.heap.size (w.heap.size + 1) z ((pairs k (n + 1)).foldl stepT (fwdN k f)) ((V.setCell ⟨w.heap.size, n, none⟩ (.int .i64 va)).setCell ⟨w.heap.size, m, none⟩ (.int .i64 vb)) := fun V hV => by
              have h1 := hi.out.drew.keep hV
              have h2 := h1.set n hlt2 va
              have h3 := h2.set m hin' vb
              refine ⟨h1.cell n hlt2, ?_, by rw [hfold]; exact h3⟩
              have h4 := h2.cell m hin'
              rw [if_neg (by omega)] at h4
              exact h4
            have HK := Lib.hid keep1
            have HF := Lib.hid fin
            have HTa := Lib.hid hTa
            have HTb := Lib.hid hTb
            clear keep1 fin hTa hTb hi hs hfold hl hm hin
            go_wp2_with fail
            refine wp_region_held_drew (S := (fun w' => w'.cell? ⟨w.heap.size, n, none⟩ = some (.int .i64 (g n)) ∧ w'.cell? ⟨w.heap.size, m, none⟩ = some (.int .i64 (g m)))) (by kernel_rfl) ?_ (fun hHeld => ?_)
            · (try dsimp only); first | exact HK.out _ (Old.refl _) | exact HK.out _ hV | exact HK.out _ (hV.trans hU)
            refine wpAnyH_take (i := 0) (oi := ⟨some _, _, _, _, _, _⟩) (v := ?_) rfl (by kernel_rfl) (by kernel_rfl) (by kernel_rfl) (fun _ _ _ h => h) (Or.inl ⟨by kernel_rfl, ?_⟩) (by assumption) ?_; rotate_left; (intro w hSw; (try dsimp only at hSw); go_simp; try with_reducible rfl); try simp only [Act.put, List.setIfInBounds_toArray, List.set_cons_zero, List.set_cons_succ]
            refine wpAnyH_take (i := 1) (oi := ⟨some _, _, _, _, _, _⟩) (v := ?_) rfl (by kernel_rfl) (by kernel_rfl) (by kernel_rfl) (fun _ _ _ h => h) (Or.inl ⟨by kernel_rfl, ?_⟩) (by assumption) ?_; rotate_left; (intro w hSw; (try dsimp only at hSw); go_simp; try with_reducible rfl); try simp only [Act.put, List.setIfInBounds_toArray, List.set_cons_zero, List.set_cons_succ]
            refine wpAnyH_take (i := 2) (oi := ⟨some _, _, _, _, _, _⟩) (v := ?_) rfl (by kernel_rfl) (by kernel_rfl) (by kernel_rfl) (fun _ _ _ h => h) (Or.inl ⟨by kernel_rfl, ?_⟩) (by assumption) ?_; rotate_left; (intro w hSw; (try dsimp only at hSw); go_simp; try with_reducible rfl); try simp only [Act.put, List.setIfInBounds_toArray, List.set_cons_zero, List.set_cons_succ]
            refine wpAnyH_take (i := 3) (oi := ⟨some _, _, _, _, _, _⟩) (v := ?_) rfl (by kernel_rfl) (by kernel_rfl) (by kernel_rfl) (fun _ _ _ h => h) (Or.inl ⟨by kernel_rfl, ?_⟩) (by assumption) ?_; rotate_left; (intro w hSw; (try dsimp only at hSw); go_simp; try with_reducible rfl); try simp only [Act.put, List.setIfInBounds_toArray, List.set_cons_zero, List.set_cons_succ]
            refine wpAnyH_take (i := 4) (oi := ⟨some _, _, _, _, _, _⟩) (v := ?_) rfl (by kernel_rfl) (by kernel_rfl) (by kernel_rfl) (fun _ _ _ h => h) (Or.inl ⟨by kernel_rfl, ?_⟩) (by assumption) ?_; rotate_left; (intro w hSw; (try dsimp only at hSw); go_simp; try with_reducible rfl); try simp only [Act.put, List.setIfInBounds_toArray, List.set_cons_zero, List.set_cons_succ]
            refine wpAnyH_take (i := 5) (oi := ⟨some _, _, _, _, _, _⟩) (v := ?_) rfl (by kernel_rfl) (by kernel_rfl) (by kernel_rfl) (fun _ _ _ h => h) (Or.inl ⟨by kernel_rfl, ?_⟩) (by assumption) ?_; rotate_left; (intro w hSw; (try dsimp only at hSw); go_simp; try with_reducible rfl); try simp only [Act.put, List.setIfInBounds_toArray, List.set_cons_zero, List.set_cons_succ]
            refine wpAnyH_take (i := 6) (oi := ⟨some _, _, _, _, _, _⟩) (v := ?_) rfl (by kernel_rfl) (by kernel_rfl) (by kernel_rfl) (fun _ _ _ h => h) (Or.inl ⟨by kernel_rfl, ?_⟩) (by assumption) ?_; rotate_left; (intro w hSw; (try dsimp only at hSw); go_simp; try with_reducible rfl); try simp only [Act.put, List.setIfInBounds_toArray, List.set_cons_zero, List.set_cons_succ]
            refine wpAnyH_take (i := 7) (oi := ⟨some _, _, _, _, _, _⟩) (v := ?_) rfl (by kernel_rfl) (by kernel_rfl) (by kernel_rfl) (fun _ _ _ h => h) (Or.inl ⟨by kernel_rfl, ?_⟩) (by assumption) ?_; rotate_left; (intro w hSw; (try dsimp only at hSw); go_simp; try with_reducible rfl); try simp only [Act.put, List.setIfInBounds_toArray, List.set_cons_zero, List.set_cons_succ]
            refine wpAnyH_take (i := 8) (oi := ⟨some _, _, _, _, _, _⟩) (v := ?_) rfl (by kernel_rfl) (by kernel_rfl) (by kernel_rfl) (fun _ _ _ h => h) (Or.inl ⟨by kernel_rfl, ?_⟩) (by assumption) ?_; rotate_left; (intro w hSw; (try dsimp only at hSw); go_simp; try with_reducible rfl); try simp only [Act.put, List.setIfInBounds_toArray, List.set_cons_zero, List.set_cons_succ]
            refine wpAnyH_take (i := 9) (oi := ⟨some _, _, _, _, _, _⟩) (v := ?_) rfl (by kernel_rfl) (by kernel_rfl) (by kernel_rfl) (fun _ _ _ h => h) (Or.inl ⟨by kernel_rfl, ?_⟩) (by assumption) ?_; rotate_left; (intro w hSw; (try dsimp only at hSw); go_simp; try with_reducible rfl); try simp only [Act.put, List.setIfInBounds_toArray, List.set_cons_zero, List.set_cons_succ]
            refine wpAnyH_take (i := 10) (oi := ⟨some _, _, _, _, _, _⟩) (v := ?_) rfl (by kernel_rfl) (by kernel_rfl) (by kernel_rfl) (fun _ _ _ h => h) (Or.inl ⟨by kernel_rfl, ?_⟩) (by assumption) ?_; rotate_left; (intro w hSw; (try dsimp only at hSw); go_simp; try with_reducible rfl); try simp only [Act.put, List.setIfInBounds_toArray, List.set_cons_zero, List.set_cons_succ]
            refine wpAnyH_take (i := 11) (oi := ⟨some _, _, _, _, _, _⟩) (v := ?_) rfl (by kernel_rfl) (by kernel_rfl) (by kernel_rfl) (fun _ _ _ h => h) (Or.inl ⟨by kernel_rfl, ?_⟩) (by assumption) ?_; rotate_left; (intro w hSw; (try dsimp only at hSw); go_simp; try with_reducible rfl); try simp only [Act.put, List.setIfInBounds_toArray, List.set_cons_zero, List.set_cons_succ]
            refine wpAnyH_take (i := 12) (oi := ⟨some _, _, _, _, _, _⟩) (v := ?_) rfl (by kernel_rfl) (by kernel_rfl) (by kernel_rfl) (fun _ _ _ h => h) (Or.inl ⟨by kernel_rfl, ?_⟩) (by assumption) ?_; rotate_left; (intro w hSw; (try dsimp only at hSw); go_simp; try with_reducible rfl); try simp only [Act.put, List.setIfInBounds_toArray, List.set_cons_zero, List.set_cons_succ]
            refine wpAnyH_take (i := 13) (oi := ⟨some _, _, _, _, _, _⟩) (v := ?_) rfl (by kernel_rfl) (by kernel_rfl) (by kernel_rfl) (fun _ _ _ h => h) (Or.inl ⟨by kernel_rfl, ?_⟩) (by assumption) ?_; rotate_left; (intro w hSw; (try dsimp only at hSw); go_simp; try with_reducible rfl); try simp only [Act.put, List.setIfInBounds_toArray, List.set_cons_zero, List.set_cons_succ]
            refine wpAnyH_ready (rs := [14]) (by kernel_rfl) (by simp) ?_
            refine AllReadyH.cons (o := ⟨some _, _, _, _, _, _⟩) rfl (fun K hK => ?_) AllReadyH.nil
            go_simp
            refine (HTa.out _).mono ?_; rintro e V ⟨rfl, hV⟩
            go_wp2_with fail
            refine hK.out _ _ ?_ (fun hHeld => ?_)
            · (try dsimp only); first | exact HK.out _ (Old.refl _) | exact HK.out _ hV | exact HK.out _ (hV.trans hU)
            clear hK K
            try simp only [Act.put, List.setIfInBounds_toArray, List.set_cons_zero, List.set_cons_succ]
            refine wpAnyH_ready (rs := [15]) (by kernel_rfl) (by simp) ?_
            refine AllReadyH.cons (o := ⟨some _, _, _, _, _, _⟩) rfl (fun K hK => ?_) AllReadyH.nil
            go_simp
            refine (HTb.out _).mono ?_; rintro e U ⟨rfl, hU⟩
            go_wp2_with fail
            refine hK.out _ _ ?_ (fun hHeld => ?_)
            · (try dsimp only); first | exact HK.out _ (Old.refl _) | exact HK.out _ hV | exact HK.out _ (hV.trans hU)
            clear hK K
            try simp only [Act.put, List.setIfInBounds_toArray, List.set_cons_zero, List.set_cons_succ]
            refine wpAnyH_take (i := 16) (oi := ⟨some _, _, _, _, _, _⟩) (v := ?_) rfl (by kernel_rfl) (by kernel_rfl) (by kernel_rfl) (fun _ _ _ h => h) (Or.inl ⟨by kernel_rfl, ?_⟩) (by assumption) ?_; rotate_left; (intro w hSw; (try dsimp only at hSw); go_simp; try with_reducible rfl); try simp only [Act.put, List.setIfInBounds_toArray, List.set_cons_zero, List.set_cons_succ]
            refine wpAnyH_take (i := 17) (oi := ⟨some _, _, _, _, _, _⟩) (v := ?_) rfl (by kernel_rfl) (by kernel_rfl) (by kernel_rfl) (fun _ _ _ h => h) (Or.inl ⟨by kernel_rfl, ?_⟩) (by assumption) ?_; rotate_left; (intro w hSw; (try dsimp only at hSw); go_simp; try with_reducible rfl); try simp only [Act.put, List.setIfInBounds_toArray, List.set_cons_zero, List.set_cons_succ]
            refine wpAnyH_take (i := 18) (oi := ⟨some _, _, _, _, _, _⟩) (v := ?_) rfl (by kernel_rfl) (by kernel_rfl) (by kernel_rfl) (fun _ _ _ h => h) (Or.inl ⟨by kernel_rfl, ?_⟩) (by assumption) ?_; rotate_left; (intro w hSw; (try dsimp only at hSw); go_simp; try with_reducible rfl); try simp only [Act.put, List.setIfInBounds_toArray, List.set_cons_zero, List.set_cons_succ]
            refine wpAnyH_take (i := 19) (oi := ⟨some _, _, _, _, _, _⟩) (v := ?_) rfl (by kernel_rfl) (by kernel_rfl) (by kernel_rfl) (fun _ _ _ h => h) (Or.inl ⟨by kernel_rfl, ?_⟩) (by assumption) ?_; rotate_left; (intro w hSw; (try dsimp only at hSw); go_simp; try with_reducible rfl); try simp only [Act.put, List.setIfInBounds_toArray, List.set_cons_zero, List.set_cons_succ]
            refine wpAnyH_take (i := 20) (oi := ⟨some _, _, _, _, _, _⟩) (v := ?_) rfl (by kernel_rfl) (by kernel_rfl) (by kernel_rfl) (fun _ _ _ h => h) (Or.inl ⟨by kernel_rfl, ?_⟩) (by assumption) ?_; rotate_left; (intro w hSw; (try dsimp only at hSw); go_simp; try with_reducible rfl); try simp only [Act.put, List.setIfInBounds_toArray, List.set_cons_zero, List.set_cons_succ]
            refine wpAnyH_done (by kernel_rfl) ?_ _
            obtain ⟨⟨d1, d2⟩, ⟨d3, d4⟩, d5⟩ := HF.out _ (hV.trans hU)
            have HD := Lib.hid d5
            clear d5 hV hU
            go_wp2_with fail
            go_roundw
            case rel => exact ⟨n + 1, by omega, by go_num, HD⟩
            case measure => simp [intOf]; omega
          · have hnx : Hid (BlkSt w 23 w.heap.size (w.heap.size + 1) z ((pairs k (n + 1)).foldl stepT (fwdN k f)) wr) := by rw [pairs_no k n hl]; exact hi
            have hl2 : n / apart k ≤ 16 := by have := Nat.div_le_self n (apart k); omega
            generalize n / apart k = q at *
            have hl3 : (q : Int) % 2 = 1 := by omega
            have hl4 : (0 : Int) ≤ q := by omega
            have hl5 : (q : Int) ≤ 16 := by omega
            clear hs hi hl
            go_wp2_with fail
            go_roundw
            case rel => exact ⟨n + 1, by omega, by go_num, hnx⟩
            case measure => simp [intOf]; omega
        · obtain rfl : n = 16 := by omega
          go_wp2_with fail
          go_roundw
          case rel => exact ⟨k + 1, by omega, by rw [hap.out], by go_num, hi⟩
          case measure => simp [intOf]; omega
    · obtain rfl : k = 4 := by omega
      have Hb := Lib.hid hs.out.b
      have Hr := Lib.hid hs.out.r
      have Hd := Lib.hid (hs.out.row (rowN 16 (blk (fwdN 4 f))))
      have Hs : Hid ((Try.prog.info? 23).map (·.size) = some 16) := Lib.hid (by kernel_rfl)
      have H1 : Hid ((rowN 16 (blk (fwdN 4 f))).all (·.oneCell') = true) := Lib.hid (blk_one _ _)
      clear hs
      go_wp2_with (first | (with_reducible refine wpList_load_row rfl 23 _ rfl w.heap.size rfl 23 (rowN 16 (blk (fwdN 4 f))) (0, 0) _ Hb.out Try.underlying23 rfl (by rw [rowN_size]; exact Hs.out) ?_) | (with_reducible refine wpList_store_row rfl 23 _ _ rfl (w.heap.size + 1) (rowN 16 (blk (fwdN 4 f))) rfl rfl 23 _ Hr.out (by rw [rowN_size]; exact Hs.out) (by rw [rowN_size]; exact hzs) H1.out ?_))
      exact bodyPost_ret (results_cell_row rfl _ _ (w.heap.size + 1) 23 (rowN 16 (blk (fwdN 4 f))) (0, 0) _ rfl Hd.out.1 Try.underlying23 rfl (by rw [rowN_size]; exact Hs.out)) rfl ⟨rfl, Hd.out.2⟩
end Go.Proofs.Ytekfkepkhcdohaa
