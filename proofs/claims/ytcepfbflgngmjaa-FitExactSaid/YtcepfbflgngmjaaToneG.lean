/- Package tone's contracts, sixth part: spectra with tones, and without them. -/
import Derived.Test.YtcepfbflgngmjaaToneA
import Derived.Test.YtcepfbflgngmjaaTwoL
import Derived.BigRegion
namespace Go.Proofs.Ytcepfbflgngmjaa
set_option linter.unusedVariables false
set_option maxRecDepth 100000
open Go.RowKit Go.ChangeShapes Go.WideShapes

/-- So many times y is added at place x, if it is one. -/
def addOne (c : Int) (g : Nat → Int) (x y : Int) : Nat → Int := fun j => if 0 ≤ x ∧ x < 16 ∧ j = x.toNat then wrap64 (g j + wrap64 (c * y)) else g j
def addTo (c : Int) (f T : Nat → Int) : Nat → Nat → Int
  | 0 => f
  | k + 1 => addOne c (addTo c f T k) (T (2 * k)) (T (2 * k + 1))
theorem addOne_no (c : Int) (g : Nat → Int) (x y : Int) (h : ¬ (0 ≤ x ∧ x < 16)) : addOne c g x y = g := by
  funext j
  unfold addOne
  rw [if_neg fun h' => h ⟨h'.1, h'.2.1⟩]
theorem addOne_yes (c : Int) (g : Nat → Int) (m : Nat) (y : Int) (h : m < 16) : addOne c g m y = fun j => if j = m then wrap64 (g m + wrap64 (c * y)) else g j := by
  funext j
  unfold addOne
  by_cases e : j = m
  · subst e; rw [if_pos ⟨by omega, by omega, by simp⟩, if_pos rfl]
  · rw [if_neg (fun h' => e (by have := h'.2.2; simpa using this)), if_neg e]
structure AdSt (tb : TypeId) (z : Array Value) (w : World) (g : Nat → Int) (W : World) : Prop where
  b : W.heap[w.heap.size]? = some (.cells (rowN 16 (blk g)) tb (0, 0))
  r : W.heap[w.heap.size + 1]? = some (.cells z tb (0, 0))
  old : Old w W
namespace AdSt
variable {tb : TypeId} {z : Array Value} {w W W' : World} {g : Nat → Int}
theorem keep (h : AdSt tb z w g W) (o : Old W W') : AdSt tb z w g W' := ⟨(o.block _ (lt_of_block h.b)).trans h.b, (o.block _ (lt_of_block h.r)).trans h.r, h.old.trans o⟩
theorem drew (h : AdSt tb z w g W) : AdSt tb z w g W.drew := ⟨h.b, h.r, h.old.drew⟩
theorem set (h : AdSt tb z w g W) (j : Nat) (hj : j < 16) (v : Int) : AdSt tb z w (fun k => if k = j then v else g k) (W.setCell ⟨w.heap.size, j, none⟩ (.int .i64 v)) := by
  refine ⟨?_, (heap_setCell_other _ _ _ _ (by simp)).trans h.r, h.old.after (Kept.setCell (X := fun k => k < w.heap.size) _ (a := ⟨w.heap.size, j, none⟩) (by show ¬ w.heap.size < w.heap.size; omega) _) fun _ hk => hk⟩
  rw [← blk_upd, ← rowN_set _ _ _ _ hj]
  exact heap_setCell_same _ _ _ _ _ _ h.b
theorem cell (h : AdSt tb z w g W) (j : Nat) (hj : j < 16) : W.cell? ⟨w.heap.size, j, none⟩ = some (.int .i64 (g j)) ∧ W.frozen? ⟨w.heap.size, j, none⟩ = false :=
  ⟨(cell_of_row _ _ _ _ _ _ h.b).trans (blk_at 16 g j hj), frozen_of_row _ _ _ _ _ h.b⟩
theorem row (h : AdSt tb z w g W) (cs : Array Value) : (W.setRow (w.heap.size + 1) cs).heap[w.heap.size + 1]? = some (.cells cs tb (0, 0)) ∧ Old w (W.setRow (w.heap.size + 1) cs) :=
  ⟨setRow_heap _ _ _ _ _ _ h.r, h.old.after (X := fun k => k < w.heap.size) ⟨rfl, rfl, by simp, fun k hk => setRow_other _ _ _ _ (by omega)⟩ fun _ h => h⟩
end AdSt
set_option maxRecDepth 100000 in
set_option maxHeartbeats 4000000 in
theorem added_any (f : Nat → Int) (p : Option Addr) (n cap : Nat) (T : Nat → Int) (c : Int) (w : World) (hs : SlF 2 w p n T) (hn : n ≤ 9223372036854775807) :
    Calls Try.prog 52 #[.agg (rowN 16 (blk f)), .slice p n cap, .int .i64 c] w fun e w' => e = .returned (.agg (rowN 16 (blk (addTo c f T n)))) ∧ Old w w' := by
  obtain ⟨z, hz⟩ : ∃ z, z = rowN 16 (blk fun _ => 0) := ⟨_, rfl⟩
  have Hb16 : Hid ((Try.prog.info? 23).map (·.size) = some 16) := Lib.hid (by kernel_rfl)
  have HS := Lib.hid hs
  have HP := Lib.hid (fun i w => isPlace_any i w)
  clear hs
  go_enter Try.func52, Try.ntmps52
  go_wp2_with fail
  rw [← row16_zero]
  have H0 : Hid (AdSt 23 (rowN 16 (blk fun _ => 0)) w f ((w.alloc (.cells (rowN 16 (blk f)) 23)).alloc (.cells (rowN 16 (blk fun _ => 0)) 23))) := ⟨heap_alloc2_old w _ _, heap_alloc2_new w _ _, (Old.alloc w _).alloc' _⟩
  clear hz z
  go_loopw [11] (fun i wr => ∃ k : Nat, k ≤ n ∧ i = .int .i64 k ∧ Hid (AdSt 23 (rowN 16 (blk fun _ => 0)) w (addTo c f T k) wr)) (fun i _ => n - (intOf i).toNat)
  case atStart => exact ⟨0, by omega, rfl, H0⟩
  case round =>
    obtain ⟨k, hk, rfl, hs⟩ := hrel
    clear H0
    by_cases hlt : k < n
    · obtain ⟨g, o, rfl, hg, hc⟩ := two_cells HS.out (by omega)
      obtain ⟨c1, c2⟩ := hc k hlt
      rw [← hs.out.old.cell (a := ⟨g, o + k * 2, none⟩) hg] at c1
      rw [← hs.out.old.cell (a := ⟨g, o + k * 2 + 1, none⟩) hg] at c2
      have hst : addTo c f T (k + 1) = addOne c (addTo c f T k) (T (2 * k)) (T (2 * k + 1)) := rfl
      have HST := Lib.hid hst
      clear hc HS hst hg
      generalize T (2 * k) = x at *
      generalize T (2 * k + 1) = y at *
      generalize addTo c f T k = G at *
      by_cases hx : 0 ≤ x ∧ x < 16
      · obtain ⟨m, rfl⟩ : ∃ m : Nat, x = m := ⟨x.toNat, by omega⟩
        have hm : m < 16 := by omega
        have m0 : (0 : Int) ≤ m := by omega
        have m1 : (m : Int) < 16 := by omega
        have hP := fun w => HP.out (m : Int) w
        rw [decide_eq_true hx] at hP
        have HPm := Lib.hid hP
        clear hP hx HP
        obtain ⟨W1, hW1⟩ : ∃ W1, W1 = wr.alloc (.cells #[.int .i64 m, .int .i64 y] 61) := ⟨_, rfl⟩
        have hs1 : AdSt 23 (rowN 16 (blk fun _ => 0)) w G W1 := by rw [hW1]; exact hs.out.keep (Old.alloc _ _)
        have d1 : W1.cell? ⟨wr.heap.size, 0, none⟩ = some (.int .i64 m) := by rw [hW1, World.cell?_alloc_at _ _ _ _ rfl]; rfl
        have d2 : W1.cell? ⟨wr.heap.size, 1, none⟩ = some (.int .i64 y) := by rw [hW1, World.cell?_alloc_at _ _ _ _ rfl]; rfl
        obtain ⟨d3, d4⟩ := hs1.cell m hm
        obtain ⟨v, hv⟩ : ∃ v, wrap64 (G m + wrap64 (c * y)) = v := ⟨_, rfl⟩
        have hn1 : AdSt 23 (rowN 16 (blk fun _ => 0)) w (addTo c f T (k + 1)) (W1.setCell ⟨w.heap.size, m, none⟩ (.int .i64 v)).drew := by
          rw [HST.out, addOne_yes _ _ _ _ hm, hv]
          exact (hs1.set m hm v).drew
        have HN1 := Lib.hid hn1
        have hwr : w.heap.size < wr.heap.size := lt_of_block hs.out.b
        clear hs hs1 hn1 HST
        generalize G m = u at *
        go_wp2_with fail
        rw [← hW1]
        clear hW1
        refine (HPm.out _).mono ?_
        rintro e w1 ⟨rfl, rfl⟩
        go_wp2_with fail
        go_region
        go_wp2_with fail
        go_roundw
        case rel => exact ⟨k + 1, by omega, by go_num, HN1⟩
        case measure => simp [intOf]; omega
      · have hP := fun w => HP.out x w
        rw [decide_eq_false hx] at hP
        have HPm := Lib.hid hP
        have hn1 : AdSt 23 (rowN 16 (blk fun _ => 0)) w (addTo c f T (k + 1)) (wr.alloc (.cells #[.int .i64 x, .int .i64 y] 61)) := by
          rw [HST.out, addOne_no _ _ _ _ hx]
          exact hs.out.keep (Old.alloc _ _)
        have HN1 := Lib.hid hn1
        clear hP hx HP hs hn1 HST
        go_wp2_with fail
        refine (HPm.out _).mono ?_
        rintro e w1 ⟨rfl, rfl⟩
        go_wp2_with fail
        go_roundw
        case rel => exact ⟨k + 1, by omega, by go_num, HN1⟩
        case measure => simp [intOf]; omega
    · obtain rfl : k = n := by omega
      have HB := Lib.hid hs.out.b
      have HR := Lib.hid hs.out.r
      have Hd := Lib.hid (hs.out.row (rowN 16 (blk (addTo c f T k))))
      have H1 : Hid ((rowN 16 (blk (addTo c f T k))).all (·.oneCell') = true) := Lib.hid (blk_one _ _)
      have hsz := rowN_size 16 (blk (addTo c f T k))
      have Hz : Hid ((rowN 16 (blk fun _ => 0)).size = (rowN 16 (blk (addTo c f T k))).size) := by unfold Hid; rw [rowN_size, rowN_size]
      clear hs HS HP
      go_wp2_with (first | (with_reducible refine wpList_load_row rfl 23 _ rfl w.heap.size rfl 23 (rowN 16 (blk (addTo c f T k))) (0, 0) _ HB.out Try.underlying23 rfl (by rw [rowN_size]; exact Hb16.out) ?_) | (with_reducible refine wpList_store_row rfl 23 _ _ rfl (w.heap.size + 1) (rowN 16 (blk (addTo c f T k))) rfl rfl 23 _ HR.out (by rw [hsz]; exact Hb16.out) (by rw [hsz]; kernel_rfl) H1.out ?_))
      exact bodyPost_ret (results_cell_row rfl _ _ (w.heap.size + 1) 23 (rowN 16 (blk (addTo c f T k))) (0, 0) _ rfl Hd.out.1 Try.underlying23 rfl (by rw [hsz]; exact Hb16.out)) rfl ⟨rfl, Hd.out.2⟩
set_option maxRecDepth 100000 in
theorem Out_any (f : Nat → Int) (p : Option Addr) (n cap : Nat) (T : Nat → Int) (w : World) (hs : SlF 2 w p n T) (hn : n ≤ 9223372036854775807) :
    Calls Try.prog 24 #[.agg (rowN 16 (blk f)), .slice p n cap] w fun e w' => e = .returned (.agg (rowN 16 (blk (addTo (-1) f T n)))) ∧ Old w w' := by
  have Hb16 : Hid ((Try.prog.info? 23).map (·.size) = some 16) := Lib.hid (by kernel_rfl)
  obtain ⟨W0, hW0⟩ : ∃ W0, W0 = ((w.alloc (.cells (rowN 16 (blk f)) 23)).alloc (.cells (rowN 16 (blk fun _ => 0)) 23)) := ⟨_, rfl⟩
  have h0 : AdSt 23 (rowN 16 (blk fun _ => 0)) w f W0 := by rw [hW0]; exact ⟨heap_alloc2_old w _ _, heap_alloc2_new w _ _, (Old.alloc w _).alloc' _⟩
  have HA := Lib.hid (added_any f p n cap T (-1) W0 (hs.old h0.old) hn)
  have H0 := Lib.hid h0
  have hB := h0.b
  rw [row16_zero] at hW0
  rw [hW0] at hB
  have HB := Lib.hid hB
  have HW := Lib.hid hW0
  clear h0 hs hB hW0
  go_enter Try.func24, Try.ntmps24
  go_wp2_with (with_reducible refine wpList_load_row rfl 23 _ rfl w.heap.size rfl 23 (rowN 16 (blk f)) (0, 0) _ HB.out Try.underlying23 rfl (by rw [rowN_size]; exact Hb16.out) ?_)
  rw [← HW.out]
  clear HW
  refine HA.out.mono ?_
  rintro e w1 ⟨rfl, ho⟩
  have h1 := H0.out.keep ho
  have HR := Lib.hid h1.r
  have Hd := Lib.hid (h1.row (rowN 16 (blk (addTo (-1) f T n))))
  have H1 : Hid ((rowN 16 (blk (addTo (-1) f T n))).all (·.oneCell') = true) := Lib.hid (blk_one _ _)
  have hsz := rowN_size 16 (blk (addTo (-1) f T n))
  clear h1 ho H0 HB HA
  go_wp2_with (with_reducible refine wpList_store_row rfl 23 _ _ rfl (w.heap.size + 1) (rowN 16 (blk (addTo (-1) f T n))) rfl rfl 23 _ HR.out (by rw [hsz]; exact Hb16.out) (by rw [hsz]; kernel_rfl) H1.out ?_)
  exact bodyPost_ret (results_cell_row rfl _ _ (w.heap.size + 1) 23 (rowN 16 (blk (addTo (-1) f T n))) (0, 0) _ rfl Hd.out.1 Try.underlying23 rfl (by rw [hsz]; exact Hb16.out)) rfl ⟨rfl, Hd.out.2⟩
end Go.Proofs.Ytcepfbflgngmjaa
