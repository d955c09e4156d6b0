/- Package quant's contracts. -/
import Derived.Test.YtlaoamlmpdbmmaaArrI
import Derived.Test.YtlaoamlmpdbmmaaGainL
import Derived.Test.YtlaoamlmpdbmmaaStepL
namespace Go.Proofs.Ytlaoamlmpdbmmaa
set_option linter.unusedVariables false
set_option maxRecDepth 100000
open Go.RowKit

def scalesP (g : Nat → Int) : Prop := ∀ k, k < 4 → 0 ≤ g k ∧ g k ≤ 23
instance (g : Nat → Int) : Decidable (scalesP g) := by unfold scalesP; infer_instance
theorem SRight_any (g : Nat → Int) (w : World) :
    Calls Try.prog 20 #[.agg (rowN 4 (blk g))] w fun e w' => e = .returned (.bool (decide (scalesP g))) ∧ Old w w' := by
  have Hs : Hid ((Try.prog.info? 56).map (·.size) = some 4) := Lib.hid (by kernel_rfl)
  have hb : Hid ((w.alloc (.cells (rowN 4 (blk g)) 56)).heap[w.heap.size]? = some (.cells (rowN 4 (blk g)) 56 (0, 0))) := Lib.hid (heap_alloc_new _ _)
  go_enter Try.func20, Try.ntmps20
  go_wp2_with (with_reducible refine wpList_load_row rfl 56 _ rfl w.heap.size rfl 56 (rowN 4 (blk g)) (0, 0) _ hb.out Try.underlying56 rfl (by rw [rowN_size]; exact Hs.out) ?_)
  go_loop [6] (fun i => ∃ k : Nat, k ≤ 4 ∧ i = .int .i64 k ∧ Hid (∀ j, j < k → 0 ≤ g j ∧ g j ≤ 23)) (fun i => 4 - (intOf i).toNat)
  case atStart => exact ⟨0, by omega, rfl, fun j hj => by omega⟩
  case round =>
    obtain ⟨k, hk, rfl, hj⟩ := hrel
    by_cases hlt : k < 4
    · have i1 : (0 : Int) ≤ k := by omega
      have i2 : (k : Int) < 4 := by omega
      have hat : ∀ w : World, (Instr.index 56 (.agg (rowN 4 (blk g))) (.int .i64 k)).run Try.prog w = .ok (.int .i64 (g k)) w := fun w => run_index_ints Try.underlying56 Try.underlying3 (fun _ => by kernel_rfl) g k hlt w
      by_cases h1 : g k < 0
      · have hf : decide (scalesP g) = false := by
          rw [decide_eq_false_iff_not]
          intro h
          have := (h k hlt).1
          omega
        have HF := Lib.hid hf
        clear hf
        generalize g k = x at *
        go_wp2
        go_ret
        exact ⟨by rw [HF.out]; rfl, Old.alloc _ _⟩
      · by_cases h2 : 23 < g k
        · have hf : decide (scalesP g) = false := by
            rw [decide_eq_false_iff_not]
            intro h
            have := (h k hlt).2
            omega
          have HF := Lib.hid hf
          clear hf
          have h1' : 0 ≤ g k := by omega
          generalize g k = x at *
          go_wp2
          go_ret
          exact ⟨by rw [HF.out]; rfl, Old.alloc _ _⟩
        · have hn : Hid (∀ j, j < k + 1 → 0 ≤ g j ∧ g j ≤ 23) := fun j hj' => by
            rcases Nat.lt_succ_iff_lt_or_eq.1 hj' with h | rfl
            · exact hj.out j h
            · omega
          have h1' : 0 ≤ g k := by omega
          have h2' : g k ≤ 23 := by omega
          clear h1 h2
          generalize g k = x at *
          go_wp2
          go_round
          case rel => exact ⟨k + 1, by omega, by go_num, hn⟩
          case measure => simp [intOf]; omega
    · obtain rfl : k = 4 := by omega
      have hf : decide (scalesP g) = true := decide_eq_true hj.out
      have HF := Lib.hid hf
      clear hf hj
      go_wp2
      go_ret
      exact ⟨by rw [HF.out]; rfl, Old.alloc _ _⟩
/-- The band of a place. -/
def bandI (i : Int) : Int := if 0 ≤ i ∧ i < 16 then i / 4 else 0
theorem Band_any (i : Int) (w : World) (h1 : -9223372036854775808 ≤ i) (h2 : i ≤ 9223372036854775807) :
    Calls Try.prog 28 #[.int .i64 i] w fun e w' => e = .returned (.int .i64 (bandI i)) ∧ w = w' := by
  by_cases a : i < 0
  · have e : bandI i = 0 := by unfold bandI; rw [if_neg (by omega)]
    rw [e]
    go_enter Try.func28, Try.ntmps28
    go_wp2
    go_ret
    exact ⟨rfl, rfl⟩
  · have a' : 0 ≤ i := by omega
    clear a
    by_cases b : 16 ≤ i
    · have e : bandI i = 0 := by unfold bandI; rw [if_neg (by omega)]
      rw [e]
      go_enter Try.func28, Try.ntmps28
      go_wp2
      go_ret
      exact ⟨rfl, rfl⟩
    · have b' : i < 16 := by omega
      have e : bandI i = i / 4 := by unfold bandI; rw [if_pos ⟨a', b'⟩]
      have q1 : wrap64 (i.tdiv 4) = i / 4 := by rw [Int.tdiv_eq_ediv_of_nonneg a']; exact IntWalk.wrap64_in _ (by omega)
      rw [e]
      clear b e
      go_enter Try.func28, Try.ntmps28
      go_wp2
      go_ret
      exact ⟨rfl, rfl⟩
theorem Band_nat (k m : Nat) (w : World) (hk : k < 16) (hm : k / 4 = m) :
    Calls Try.prog 28 #[.int .i64 k] w fun e w' => e = .returned (.int .i64 m) ∧ w = w' := by
  refine (Band_any k w (by omega) (by omega)).mono ?_
  rintro e w' ⟨rfl, h⟩
  exact ⟨ret_int (by unfold bandI; rw [if_pos (by omega)]; omega), h⟩
/-- Half a scale's step. -/
def halfI (s : Int) : Int := if 0 ≤ s ∧ s ≤ 23 then pw s.toNat / 2 else 0
/-- The number that so many steps are, and how many steps a number is. -/
def valI (q s : Int) : Int := wrap64 (q * pw s.toNat)
def stepI (v s : Int) : Int := nearI v (pw s.toNat)
def toldF (φ : Int → Int → Int) (f s : Nat → Int) : Nat → Int := fun k => φ (f k) (s (k / 4))
def toldR (φ : Int → Int → Int) (f s : Nat → Int) : Nat → Int := if scalesP s then toldF φ f s else fun _ => 0
theorem value_any (q s : Int) (w : World) (h0 : 0 ≤ s) (h1 : s ≤ 23) :
    Calls Try.prog 30 #[.int .i64 q, .int .i64 s] w fun e w' => e = .returned (.int .i64 (valI q s)) ∧ Old w w' := by
  obtain ⟨n, rfl⟩ : ∃ n : Nat, s = n := ⟨s.toNat, by omega⟩
  have HS := Lib.hid (Step_yes n w (by omega))
  unfold valI
  rw [Int.toNat_natCast]
  generalize pw n = p at *
  go_enter Try.func30, Try.ntmps30
  go_wp2_with fail
  refine HS.out.mono ?_
  rintro e w' ⟨rfl, rfl⟩
  go_wp2
  go_ret
  exact ⟨rfl, Old.refl _⟩
/-- A block, scales, a block for the result: the first is filled. -/
structure ToldSt (w : World) (tb ts : TypeId) (z : Array Value) (g s : Nat → Int) (W : World) : Prop where
  b : W.heap[w.heap.size]? = some (.cells (rowN 16 (blk g)) tb (0, 0))
  s : W.heap[w.heap.size + 1]? = some (.cells (rowN 4 (blk s)) ts (0, 0))
  r : W.heap[w.heap.size + 1 + 1]? = some (.cells z tb (0, 0))
  old : Old w W
namespace ToldSt
variable {w W W' : World} {tb ts : TypeId} {z : Array Value} {g s : Nat → Int}
theorem keep (h : ToldSt w tb ts z g s W) (k : Old W W') : ToldSt w tb ts z g s W' :=
  ⟨(k.block _ (lt_of_block h.b)).trans h.b, (k.block _ (lt_of_block h.s)).trans h.s, (k.block _ (lt_of_block h.r)).trans h.r, h.old.trans k⟩
theorem set (h : ToldSt w tb ts z g s W) (j : Nat) (hj : j < 16) (v : Int) : ToldSt w tb ts z (fun k => if k = j then v else g k) s (W.setCell ⟨w.heap.size, j, none⟩ (.int .i64 v)) := by
  refine ⟨?_, (heap_setCell_other _ _ _ _ (by simp)).trans h.s, (heap_setCell_other _ _ _ _ (by simp; omega)).trans h.r, h.old.after (Kept.setCell (X := fun k => k < w.heap.size) _ (a := ⟨w.heap.size, j, none⟩) (by show ¬ w.heap.size < w.heap.size; omega) _) fun _ hk => hk⟩
  rw [← blk_upd, ← rowN_set _ _ _ _ hj]
  exact heap_setCell_same _ _ _ _ _ _ h.b
theorem cell (h : ToldSt w tb ts z g s W) (j : Nat) (hj : j < 16) : W.cell? ⟨w.heap.size, j, none⟩ = some (.int .i64 (g j)) ∧ W.frozen? ⟨w.heap.size, j, none⟩ = false :=
  ⟨(cell_of_row _ _ _ _ _ _ h.b).trans (blk_at 16 g j hj), frozen_of_row _ _ _ _ _ h.b⟩
theorem scale (h : ToldSt w tb ts z g s W) (j : Nat) (hj : j < 4) : W.cell? ⟨w.heap.size + 1, j, none⟩ = some (.int .i64 (s j)) :=
  (cell_of_row _ _ _ _ _ _ h.s).trans (blk_at 4 s j hj)
theorem row (h : ToldSt w tb ts z g s W) (cs : Array Value) : (W.setRow (w.heap.size + 1 + 1) cs).heap[w.heap.size + 1 + 1]? = some (.cells cs tb (0, 0)) ∧ Old w (W.setRow (w.heap.size + 1 + 1) cs) :=
  ⟨setRow_heap _ _ _ _ _ _ h.r, h.old.after (X := fun k => k < w.heap.size) ⟨rfl, rfl, by simp, fun k hk => setRow_other _ _ _ _ (by omega)⟩ fun _ h => h⟩
end ToldSt
def toldTo (φ : Int → Int → Int) (f s : Nat → Int) (n : Nat) : Nat → Int := fun k => if k < n then toldF φ f s k else f k
theorem toldTo_succ (φ : Int → Int → Int) (f s : Nat → Int) (n : Nat) : (fun k => if k = n then φ (f n) (s (n / 4)) else toldTo φ f s n k) = toldTo φ f s (n + 1) := by
  funext k
  unfold toldTo toldF
  by_cases h : k = n
  · subst h; rw [if_pos rfl, if_pos (by omega)]
  · rw [if_neg h]
    by_cases h2 : k < n
    · rw [if_pos h2, if_pos (by omega)]
    · rw [if_neg h2, if_neg (by omega)]
theorem told_start (w : World) (tb ts : TypeId) (z : Array Value) (f s : Nat → Int) : ToldSt w tb ts z f s (((w.alloc (.cells (rowN 16 (blk f)) tb)).alloc (.cells (rowN 4 (blk s)) ts)).alloc (.cells z tb)) := by
  refine ⟨?_, ?_, ?_, ((Old.alloc w _).alloc' _).alloc' _⟩
  · exact (Below.heap_alloc _ _ _ (by simp; omega)).trans (heap_alloc2_old w _ _)
  · exact (Below.heap_alloc _ _ _ (by simp)).trans (heap_alloc2_new w _ _)
  · have := heap_alloc_new ((w.alloc (.cells (rowN 16 (blk f)) tb)).alloc (.cells (rowN 4 (blk s)) ts)) (.cells z tb)
    rw [World.size_alloc, World.size_alloc] at this
    exact this

set_option maxRecDepth 100000 in
theorem told_value (f s : Nat → Int) (w : World) (hf : Fits64 f) :
    Calls Try.prog 29 #[.agg (rowN 16 (blk f)), .agg (rowN 4 (blk s)), .func (.func 30) #[] #[]] w fun e w' => e = .returned (.agg (rowN 16 (blk (toldR valI f s)))) ∧ Old w w' := by
  have Hs4 : Hid ((Try.prog.info? 56).map (·.size) = some 4) := Lib.hid (by kernel_rfl)
  have Hb16 : Hid ((Try.prog.info? 25).map (·.size) = some 16) := Lib.hid (by kernel_rfl)
  have HW : Hid (∀ (v t : Int) (w : World), 0 ≤ t → t ≤ 23 → -9223372036854775808 ≤ v → v ≤ 9223372036854775807 → Calls Try.prog 30 #[.int .i64 v, .int .i64 t] w fun e w' => e = .returned (.int .i64 (valI v t)) ∧ Old w w') := Lib.hid fun v t w h0 h1 h2 h3 => value_any v t w h0 h1
  have HF := Lib.hid hf
  have hst := told_start w 25 56 #[.int .i64 0, .int .i64 0, .int .i64 0, .int .i64 0, .int .i64 0, .int .i64 0, .int .i64 0, .int .i64 0, .int .i64 0, .int .i64 0, .int .i64 0, .int .i64 0, .int .i64 0, .int .i64 0, .int .i64 0, .int .i64 0] f s
  have H0 := Lib.hid hst
  have HR := Lib.hid (fun w => SRight_any s w)
  clear hst hf
  have z1 : Hid ((#[.int .i64 0, .int .i64 0, .int .i64 0, .int .i64 0, .int .i64 0, .int .i64 0, .int .i64 0, .int .i64 0, .int .i64 0, .int .i64 0, .int .i64 0, .int .i64 0, .int .i64 0, .int .i64 0, .int .i64 0, .int .i64 0] : Array Value).size = 16) := Lib.hid rfl
  by_cases r : scalesP s
  · have e : toldR valI f s = toldF valI f s := by unfold toldR; rw [if_pos r]
    rw [e]
    clear e
    rw [decide_eq_true r] at HR
    have HP := Lib.hid r
    clear r
    go_enter Try.func29, Try.ntmps29
    go_wp2_with (with_reducible refine wpList_load_row rfl 56 _ rfl (w.heap.size + 1) rfl 56 (rowN 4 (blk s)) (0, 0) _ H0.out.s Try.underlying56 rfl (by rw [rowN_size]; exact Hs4.out) ?_)
    refine (HR.out _).mono ?_
    rintro e w1 ⟨rfl, ho⟩
    have H1 := Lib.hid (H0.out.keep ho)
    clear ho H0 HR
    obtain ⟨z, hz⟩ : ∃ z : Array Value, z = #[.int .i64 0, .int .i64 0, .int .i64 0, .int .i64 0, .int .i64 0, .int .i64 0, .int .i64 0, .int .i64 0, .int .i64 0, .int .i64 0, .int .i64 0, .int .i64 0, .int .i64 0, .int .i64 0, .int .i64 0, .int .i64 0] := ⟨_, rfl⟩
    rw [← hz] at H1 z1
    clear hz
    go_wp2_with (with_reducible refine wpList_load_row rfl 25 _ rfl w.heap.size rfl 25 (rowN 16 (blk f)) (0, 0) _ H1.out.b Try.underlying25 rfl (by rw [rowN_size]; exact Hb16.out) ?_)
    go_loopw [14] (fun i wr => ∃ k : Nat, k ≤ 16 ∧ i = .int .i64 k ∧ Hid (ToldSt w 25 56 z (toldTo valI f s k) s wr)) (fun i _ => 16 - (intOf i).toNat)
    case atStart => exact ⟨0, by omega, rfl, H1⟩
    case round =>
      obtain ⟨k, hk, rfl, hs⟩ := hrel
      clear H1
      by_cases hlt : k < 16
      · have k1 : (0 : Int) ≤ k := by omega
        have k2 : (k : Int) < 16 := by omega
        have hat : ∀ w : World, (Instr.index 25 (.agg (rowN 16 (blk f))) (.int .i64 k)).run Try.prog w = .ok (.int .i64 (f k)) w := fun w => run_index_ints Try.underlying25 Try.underlying2 (fun _ => by kernel_rfl) f k hlt w
        have hsu := toldTo_succ valI f s k
        obtain ⟨m, hm⟩ : ∃ m, k / 4 = m := ⟨_, rfl⟩
        have HB := Lib.hid (fun w => Band_nat k m w hlt hm)
        rw [hm] at hsu
        have m0 : (0 : Int) ≤ m := by omega
        have m1 : (m : Int) < 4 := by omega
        clear hm
        have hsc := hs.out.scale m (by omega)
        obtain ⟨t0, t1⟩ := HP.out m (by omega)
        obtain ⟨v0, v1⟩ := HF.out k
        have HC := Lib.hid (fun w => HW.out (f k) (s m) w t0 t1 v0 v1)
        have HS := Lib.hid hsu
        clear hsu HW HF HP
        generalize f k = x at *
        generalize s m = t at *
        go_wp2_with fail
        refine (HB.out _).mono ?_
        rintro e w2 ⟨rfl, rfl⟩
        go_wp2_with fail
        refine (HC.out _).mono ?_
        rintro e w3 ⟨rfl, ho⟩
        have h3 := hs.out.keep ho
        obtain ⟨c1, c2⟩ := h3.cell k hlt
        have h4 := h3.set k hlt (valI x t)
        rw [HS.out] at h4
        have H4 := Lib.hid h4
        clear h3 h4 ho hs hsc HB HC HS
        generalize valI x t = y at *
        go_wp2_with fail
        go_roundw
        case rel => exact ⟨k + 1, by omega, by go_num, H4⟩
        case measure => simp [intOf]; omega
      · obtain rfl : k = 16 := by omega
        have hg : rowN 16 (blk (toldTo valI f s 16)) = rowN 16 (blk (toldF valI f s)) := rowN_ext _ _ _ fun k hk => by unfold blk toldTo; rw [if_pos hk]
        have Hg := Lib.hid hs.out.b
        rw [hg] at Hg
        have Hr := Lib.hid hs.out.r
        have Hd := Lib.hid (hs.out.row (rowN 16 (blk (toldF valI f s))))
        have H1 : Hid ((rowN 16 (blk (toldF valI f s))).all (·.oneCell') = true) := Lib.hid (blk_one _ _)
        clear hs hg HW HF HP
        have hsz := rowN_size 16 (blk (toldF valI f s))
        go_wp2_with (first | (with_reducible refine wpList_load_row rfl 25 _ rfl w.heap.size rfl 25 (rowN 16 (blk (toldF valI f s))) (0, 0) _ Hg.out Try.underlying25 rfl (by rw [rowN_size]; exact Hb16.out) ?_) | (with_reducible refine wpList_store_row rfl 25 _ _ rfl (w.heap.size + 1 + 1) (rowN 16 (blk (toldF valI f s))) rfl rfl 25 _ Hr.out (by rw [hsz]; exact Hb16.out) (by rw [hsz]; exact z1.out) H1.out ?_))
        exact bodyPost_ret (results_cell_row rfl _ _ (w.heap.size + 1 + 1) 25 (rowN 16 (blk (toldF valI f s))) (0, 0) _ rfl Hd.out.1 Try.underlying25 rfl (by rw [hsz]; exact Hb16.out)) rfl ⟨rfl, Hd.out.2⟩
  · have e : toldR valI f s = fun _ => 0 := by unfold toldR; rw [if_neg r]
    rw [e, row16_zero]
    clear e
    rw [decide_eq_false r] at HR
    clear r HW HF
    go_enter Try.func29, Try.ntmps29
    go_wp2_with (with_reducible refine wpList_load_row rfl 56 _ rfl (w.heap.size + 1) rfl 56 (rowN 4 (blk s)) (0, 0) _ H0.out.s Try.underlying56 rfl (by rw [rowN_size]; exact Hs4.out) ?_)
    refine (HR.out _).mono ?_
    rintro e w1 ⟨rfl, ho⟩
    have H1 := H0.out.keep ho
    have Hr := Lib.hid H1.r
    have Hd := Lib.hid (H1.row (rowN 16 (blk fun _ => 0)))
    rw [row16_zero] at Hd
    have H2 : Hid ((#[.int .i64 0, .int .i64 0, .int .i64 0, .int .i64 0, .int .i64 0, .int .i64 0, .int .i64 0, .int .i64 0, .int .i64 0, .int .i64 0, .int .i64 0, .int .i64 0, .int .i64 0, .int .i64 0, .int .i64 0, .int .i64 0] : Array Value).all (·.oneCell') = true) := Lib.hid (by rw [← row16_zero]; exact blk_one _ _)
    clear ho H0 HR H1
    obtain ⟨z, hz⟩ : ∃ z : Array Value, z = #[.int .i64 0, .int .i64 0, .int .i64 0, .int .i64 0, .int .i64 0, .int .i64 0, .int .i64 0, .int .i64 0, .int .i64 0, .int .i64 0, .int .i64 0, .int .i64 0, .int .i64 0, .int .i64 0, .int .i64 0, .int .i64 0] := ⟨_, rfl⟩
    rw [← hz] at Hd Hr z1 H2
    have Hz := Lib.hid hz
    clear hz
    go_wp2_with (rw [← Hz.out]; with_reducible refine wpList_store_row rfl 25 _ _ rfl (w.heap.size + 1 + 1) z rfl rfl 25 _ Hr.out (by rw [z1.out]; exact Hb16.out) rfl H2.out ?_)
    refine bodyPost_ret (results_cell_row rfl _ _ (w.heap.size + 1 + 1) 25 z (0, 0) _ rfl Hd.out.1 Try.underlying25 rfl (by rw [z1.out]; exact Hb16.out)) rfl ⟨?_, Hd.out.2⟩
    rw [Hz.out]
end Go.Proofs.Ytlaoamlmpdbmmaa
