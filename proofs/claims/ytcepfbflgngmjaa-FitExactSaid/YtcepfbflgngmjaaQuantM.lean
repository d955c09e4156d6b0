/- Package quant's contracts, second part: Steps, Values, Noise, Cost. -/
import Derived.Test.YtcepfbflgngmjaaQuantL
namespace Go.Proofs.Ytcepfbflgngmjaa
set_option linter.unusedVariables false
set_option maxRecDepth 100000
open Go.RowKit

set_option maxRecDepth 100000 in
theorem Steps_any (f s : Nat → Int) (w : World) (hf : Fits64 f) :
    Calls Try.prog 33 #[.agg (rowN 16 (blk f)), .agg (rowN 4 (blk s))] w fun e w' => e = .returned (.agg (rowN 16 (blk (toldR stepI f s)))) ∧ Old w w' := by
  have Hs4 : Hid ((Try.prog.info? 51).map (·.size) = some 4) := Lib.hid (by kernel_rfl)
  have Hb16 : Hid ((Try.prog.info? 23).map (·.size) = some 16) := Lib.hid (by kernel_rfl)
  have HT := Lib.hid (fun w => told_near f s w hf)
  have hst := told_start w 23 51 #[.int .i64 0, .int .i64 0, .int .i64 0, .int .i64 0, .int .i64 0, .int .i64 0, .int .i64 0, .int .i64 0, .int .i64 0, .int .i64 0, .int .i64 0, .int .i64 0, .int .i64 0, .int .i64 0, .int .i64 0, .int .i64 0] f s
  have H0 := Lib.hid hst
  clear hst hf
  have z1 : Hid ((#[.int .i64 0, .int .i64 0, .int .i64 0, .int .i64 0, .int .i64 0, .int .i64 0, .int .i64 0, .int .i64 0, .int .i64 0, .int .i64 0, .int .i64 0, .int .i64 0, .int .i64 0, .int .i64 0, .int .i64 0, .int .i64 0] : Array Value).size = 16) := Lib.hid rfl
  go_enter Try.func33, Try.ntmps33
  go_wp2_with (first | (with_reducible refine wpList_load_row rfl 23 _ rfl w.heap.size rfl 23 (rowN 16 (blk f)) (0, 0) _ H0.out.b Try.underlying23 rfl (by rw [rowN_size]; exact Hb16.out) ?_) | (with_reducible refine wpList_load_row rfl 51 _ rfl (w.heap.size + 1) rfl 51 (rowN 4 (blk s)) (0, 0) _ H0.out.s Try.underlying51 rfl (by rw [rowN_size]; exact Hs4.out) ?_))
  refine (HT.out _).mono ?_
  rintro e w1 ⟨rfl, ho⟩
  have H1 := H0.out.keep ho
  obtain ⟨z, hz⟩ : ∃ z : Array Value, z = #[.int .i64 0, .int .i64 0, .int .i64 0, .int .i64 0, .int .i64 0, .int .i64 0, .int .i64 0, .int .i64 0, .int .i64 0, .int .i64 0, .int .i64 0, .int .i64 0, .int .i64 0, .int .i64 0, .int .i64 0, .int .i64 0] := ⟨_, rfl⟩
  rw [← hz] at H1 z1
  have Hr := Lib.hid H1.r
  have Hd := Lib.hid (H1.row (rowN 16 (blk (toldR stepI f s))))
  have H2 : Hid ((rowN 16 (blk (toldR stepI f s))).all (·.oneCell') = true) := Lib.hid (blk_one _ _)
  have hsz := rowN_size 16 (blk (toldR stepI f s))
  clear ho H0 HT H1 hz
  go_wp2_with (with_reducible refine wpList_store_row rfl 23 _ _ rfl (w.heap.size + 1 + 1) (rowN 16 (blk (toldR stepI f s))) rfl rfl 23 _ Hr.out (by rw [hsz]; exact Hb16.out) (by rw [hsz]; exact z1.out) H2.out ?_)
  exact bodyPost_ret (results_cell_row rfl _ _ (w.heap.size + 1 + 1) 23 (rowN 16 (blk (toldR stepI f s))) (0, 0) _ rfl Hd.out.1 Try.underlying23 rfl (by rw [hsz]; exact Hb16.out)) rfl ⟨rfl, Hd.out.2⟩
set_option maxRecDepth 100000 in
theorem Values_any (f s : Nat → Int) (w : World) (hf : Fits64 f) :
    Calls Try.prog 43 #[.agg (rowN 16 (blk f)), .agg (rowN 4 (blk s))] w fun e w' => e = .returned (.agg (rowN 16 (blk (toldR valI f s)))) ∧ Old w w' := by
  have Hs4 : Hid ((Try.prog.info? 51).map (·.size) = some 4) := Lib.hid (by kernel_rfl)
  have Hb16 : Hid ((Try.prog.info? 23).map (·.size) = some 16) := Lib.hid (by kernel_rfl)
  have HT := Lib.hid (fun w => told_value f s w hf)
  have hst := told_start w 23 51 #[.int .i64 0, .int .i64 0, .int .i64 0, .int .i64 0, .int .i64 0, .int .i64 0, .int .i64 0, .int .i64 0, .int .i64 0, .int .i64 0, .int .i64 0, .int .i64 0, .int .i64 0, .int .i64 0, .int .i64 0, .int .i64 0] f s
  have H0 := Lib.hid hst
  clear hst hf
  have z1 : Hid ((#[.int .i64 0, .int .i64 0, .int .i64 0, .int .i64 0, .int .i64 0, .int .i64 0, .int .i64 0, .int .i64 0, .int .i64 0, .int .i64 0, .int .i64 0, .int .i64 0, .int .i64 0, .int .i64 0, .int .i64 0, .int .i64 0] : Array Value).size = 16) := Lib.hid rfl
  go_enter Try.func43, Try.ntmps43
  go_wp2_with (first | (with_reducible refine wpList_load_row rfl 23 _ rfl w.heap.size rfl 23 (rowN 16 (blk f)) (0, 0) _ H0.out.b Try.underlying23 rfl (by rw [rowN_size]; exact Hb16.out) ?_) | (with_reducible refine wpList_load_row rfl 51 _ rfl (w.heap.size + 1) rfl 51 (rowN 4 (blk s)) (0, 0) _ H0.out.s Try.underlying51 rfl (by rw [rowN_size]; exact Hs4.out) ?_))
  refine (HT.out _).mono ?_
  rintro e w1 ⟨rfl, ho⟩
  have H1 := H0.out.keep ho
  obtain ⟨z, hz⟩ : ∃ z : Array Value, z = #[.int .i64 0, .int .i64 0, .int .i64 0, .int .i64 0, .int .i64 0, .int .i64 0, .int .i64 0, .int .i64 0, .int .i64 0, .int .i64 0, .int .i64 0, .int .i64 0, .int .i64 0, .int .i64 0, .int .i64 0, .int .i64 0] := ⟨_, rfl⟩
  rw [← hz] at H1 z1
  have Hr := Lib.hid H1.r
  have Hd := Lib.hid (H1.row (rowN 16 (blk (toldR valI f s))))
  have H2 : Hid ((rowN 16 (blk (toldR valI f s))).all (·.oneCell') = true) := Lib.hid (blk_one _ _)
  have hsz := rowN_size 16 (blk (toldR valI f s))
  clear ho H0 HT H1 hz
  go_wp2_with (with_reducible refine wpList_store_row rfl 23 _ _ rfl (w.heap.size + 1 + 1) (rowN 16 (blk (toldR valI f s))) rfl rfl 23 _ Hr.out (by rw [hsz]; exact Hb16.out) (by rw [hsz]; exact z1.out) H2.out ?_)
  exact bodyPost_ret (results_cell_row rfl _ _ (w.heap.size + 1 + 1) 23 (rowN 16 (blk (toldR valI f s))) (0, 0) _ rfl Hd.out.1 Try.underlying23 rfl (by rw [hsz]; exact Hb16.out)) rfl ⟨rfl, Hd.out.2⟩
/-- The sum of the first n widths. -/
def sumTo (g : Nat → Int) : Nat → Int
  | 0 => 0
  | n + 1 => sumTo g n + g n
theorem sumTo_bd (g : Nat → Int) (n : Nat) (h : ∀ k, k < n → -1099511627776 ≤ g k ∧ g k ≤ 1099511627776) : -(1099511627776 * (n : Int)) ≤ sumTo g n ∧ sumTo g n ≤ 1099511627776 * (n : Int) := by
  induction n with
  | zero => exact ⟨by simp [sumTo], by simp [sumTo]⟩
  | succ n ih =>
    have h1 := ih fun k hk => h k (by omega)
    have h2 := h n (by omega)
    unfold sumTo
    omega
theorem Cost_any (g : Nat → Int) (w : World) (hg : ∀ k, k < 4 → -1099511627776 ≤ g k ∧ g k ≤ 1099511627776) :
    Calls Try.prog 53 #[.agg (rowN 4 (blk g))] w fun e w' => e = .returned (.int .i64 (4 * sumTo g 4)) ∧ Old w w' := by
  have Hw4 : Hid ((Try.prog.info? 24).map (·.size) = some 4) := Lib.hid (by kernel_rfl)
  have hb : Hid ((w.alloc (.cells (rowN 4 (blk g)) 24)).heap[w.heap.size]? = some (.cells (rowN 4 (blk g)) 24 (0, 0))) := Lib.hid (heap_alloc_new _ _)
  have HG := Lib.hid hg
  have HB := Lib.hid (fun n (hn : n ≤ 4) => sumTo_bd g n fun k hk => hg k (by omega))
  clear hg
  go_enter Try.func53, Try.ntmps53
  go_wp2_with (with_reducible refine wpList_load_row rfl 24 _ rfl w.heap.size rfl 24 (rowN 4 (blk g)) (0, 0) _ hb.out Try.underlying24 rfl (by rw [rowN_size]; exact Hw4.out) ?_)
  go_loop [3, 7] (fun s i => ∃ k : Nat, k ≤ 4 ∧ i = .int .i64 k ∧ s = .int .i64 (sumTo g k)) (fun _ i => 4 - (intOf i).toNat)
  case atStart => exact ⟨0, by omega, rfl, rfl⟩
  case round =>
    obtain ⟨k, hk, rfl, rfl⟩ := hrel
    obtain ⟨s0, s1⟩ := HB.out k hk
    by_cases hlt : k < 4
    · have i1 : (0 : Int) ≤ k := by omega
      have i2 : (k : Int) < 4 := by omega
      have hat : ∀ w : World, (Instr.index 24 (.agg (rowN 4 (blk g))) (.int .i64 k)).run Try.prog w = .ok (.int .i64 (g k)) w := fun w => run_index_ints Try.underlying24 Try.underlying3 (fun _ => by kernel_rfl) g k hlt w
      have hsu : sumTo g (k + 1) = sumTo g k + g k := rfl
      have HS := Lib.hid hsu
      obtain ⟨g0, g1⟩ := HG.out k hlt
      clear hsu HB HG
      generalize sumTo g k = s at *
      generalize g k = x at *
      have q1 : wrap64 (s + x) = s + x := IntWalk.wrap64_in _ (by omega)
      go_wp2
      go_round
      case rel => exact ⟨k + 1, by omega, by go_num, by rw [HS.out]⟩
      case measure => simp [intOf]; omega
    · obtain rfl : k = 4 := by omega
      obtain ⟨s, hs⟩ : ∃ s, sumTo g 4 = s := ⟨_, rfl⟩
      have Hs := Lib.hid hs
      rw [hs] at s0 s1 ⊢
      clear HB HG hs
      have q1 : wrap64 (4 * s) = 4 * s := IntWalk.wrap64_in _ (by omega)
      go_wp2
      go_ret
      exact ⟨by rw [Hs.out]; rfl, Old.alloc _ _⟩
/-- How far two blocks' numbers are from one another. -/
def farI (f g : Nat → Int) (k : Nat) : Int := wrap64 (f k - g k)
def farTo (f g : Nat → Int) (n : Nat) : Nat → Int := fun k => if k < n then farI f g k else f k
theorem farTo_succ (f g : Nat → Int) (n : Nat) : (fun k => if k = n then wrap64 (f n - g n) else farTo f g n k) = farTo f g (n + 1) := by
  funext k
  unfold farTo farI
  by_cases h : k = n
  · subst h; rw [if_pos rfl, if_pos (by omega)]
  · rw [if_neg h]
    by_cases h2 : k < n
    · rw [if_pos h2, if_pos (by omega)]
    · rw [if_neg h2, if_neg (by omega)]
theorem farI_fits (f g : Nat → Int) : Fits64 (farI f g) := fun k => by unfold farI wrap64; omega
structure NoSt (w : World) (tb : TypeId) (f g : Nat → Int) (W : World) : Prop where
  a : W.heap[w.heap.size]? = some (.cells (rowN 16 (blk f)) tb (0, 0))
  b : W.heap[w.heap.size + 1]? = some (.cells (rowN 16 (blk g)) tb (0, 0))
  old : Old w W
namespace NoSt
variable {w W W' : World} {tb : TypeId} {f g : Nat → Int}
theorem start (w : World) (tb : TypeId) (f g : Nat → Int) : NoSt w tb f g ((w.alloc (.cells (rowN 16 (blk f)) tb)).alloc (.cells (rowN 16 (blk g)) tb)) :=
  ⟨heap_alloc2_old w _ _, heap_alloc2_new w _ _, (Old.alloc w _).alloc' _⟩
theorem set (h : NoSt w tb f g W) (j : Nat) (hj : j < 16) (v : Int) : NoSt w tb (fun k => if k = j then v else f k) g (W.setCell ⟨w.heap.size, j, none⟩ (.int .i64 v)) := by
  refine ⟨?_, (heap_setCell_other _ _ _ _ (by simp)).trans h.b, h.old.after (Kept.setCell (X := fun k => k < w.heap.size) _ (a := ⟨w.heap.size, j, none⟩) (by show ¬ w.heap.size < w.heap.size; omega) _) fun _ hk => hk⟩
  rw [← blk_upd, ← rowN_set _ _ _ _ hj]
  exact heap_setCell_same _ _ _ _ _ _ h.a
theorem cell (h : NoSt w tb f g W) (j : Nat) (hj : j < 16) : W.cell? ⟨w.heap.size, j, none⟩ = some (.int .i64 (f j)) ∧ W.frozen? ⟨w.heap.size, j, none⟩ = false :=
  ⟨(cell_of_row _ _ _ _ _ _ h.a).trans (blk_at 16 f j hj), frozen_of_row _ _ _ _ _ h.a⟩
end NoSt
set_option maxRecDepth 100000 in
theorem Noise_any (f g : Nat → Int) (w : World) :
    Calls Try.prog 46 #[.agg (rowN 16 (blk f)), .agg (rowN 16 (blk g))] w fun e w' => e = .returned (.int .i64 (peakL (part (farI f g) 0 16))) ∧ Old w w' := by
  have hS : ∀ (b : Nat) (w : World), (Instr.sliceAt 23 (.pointer (some ⟨b, 0, none⟩)) none none none).run Try.prog w = .ok (.slice (some ⟨b, 0, none⟩) 16 16) w := fun b w => by
    have hl : Try.prog.arrayLen 23 = 16 := by kernel_rfl
    have hz : (sizeOf (Try.prog.elem 23)).run Try.prog w = .ok 1 w := by kernel_rfl
    rw [run_sliceAt_array_all w 23 _ (by kernel_rfl), hz, hl]
    rfl
  have HP : Hid (∀ (W : World) (b : Nat), W.heap[b]? = some (.cells (rowN 16 (blk (farI f g))) 23 (0, 0)) →
      Calls Try.prog 29 #[.slice (some ⟨b, 0, none⟩) 16 16] W fun e w' => e = .returned (.int .i64 (peakL (part (farI f g) 0 16))) ∧ W = w') := fun W b hb =>
    Peak_any _ _ _ _ W (part_SlI hb 0 16 16 (by omega) (by omega) (by omega)) (part_in (farI_fits f g) 0 16) (by omega)
  have Hb16 : Hid ((Try.prog.info? 23).map (·.size) = some 16) := Lib.hid (by kernel_rfl)
  have H0 := Lib.hid (NoSt.start w 23 f g)
  go_enter Try.func46, Try.ntmps46
  go_wp2_with (with_reducible refine wpList_load_row rfl 23 _ rfl (w.heap.size + 1) rfl 23 (rowN 16 (blk g)) (0, 0) _ H0.out.b Try.underlying23 rfl (by rw [rowN_size]; exact Hb16.out) ?_)
  go_loopw [8] (fun i wr => ∃ k : Nat, k ≤ 16 ∧ i = .int .i64 k ∧ Hid (NoSt w 23 (farTo f g k) g wr)) (fun i _ => 16 - (intOf i).toNat)
  case atStart => exact ⟨0, by omega, rfl, H0⟩
  case round =>
    obtain ⟨k, hk, rfl, hs⟩ := hrel
    clear H0
    by_cases hlt : k < 16
    · have k1 : (0 : Int) ≤ k := by omega
      have k2 : (k : Int) < 16 := by omega
      have hat : ∀ w : World, (Instr.index 23 (.agg (rowN 16 (blk g))) (.int .i64 k)).run Try.prog w = .ok (.int .i64 (g k)) w := fun w => run_index_ints Try.underlying23 Try.underlying2 (fun _ => by kernel_rfl) g k hlt w
      obtain ⟨c1, c2⟩ := hs.out.cell k hlt
      have e : farTo f g k k = f k := by unfold farTo; rw [if_neg (by omega)]
      rw [e] at c1
      have h1 := hs.out.set k hlt (wrap64 (f k - g k))
      rw [farTo_succ] at h1
      have H1 := Lib.hid h1
      clear h1 hs e HP hS
      generalize f k = x at *
      generalize g k = y at *
      obtain ⟨v, hv⟩ : ∃ v, wrap64 (x - y) = v := ⟨_, rfl⟩
      rw [hv] at H1
      go_wp2_with fail
      go_roundw
      case rel => exact ⟨k + 1, by omega, by go_num, H1⟩
      case measure => simp [intOf]; omega
    · obtain rfl : k = 16 := by omega
      have hg : rowN 16 (blk (farTo f g 16)) = rowN 16 (blk (farI f g)) := rowN_ext _ _ _ fun k hk => by unfold blk farTo; rw [if_pos hk]
      have ha := hs.out.a
      rw [hg] at ha
      have HPk := Lib.hid (HP.out wr _ ha)
      have HO := Lib.hid hs.out.old
      clear hs hg ha HP
      go_wp2_with fail
      refine HPk.out.mono ?_
      rintro e w1 ⟨rfl, rfl⟩
      go_wp2_with fail
      go_ret
      exact ⟨rfl, HO.out⟩
end Go.Proofs.Ytcepfbflgngmjaa
