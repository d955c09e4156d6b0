/- Package gain's contracts. -/
import Derived.Test.YtoahbeoonfdpbaaArrI
import Derived.Test.YtoahbeoonfdpbaaNumL
namespace Go.Proofs.Ytoahbeoonfdpbaa
set_option linter.unusedVariables false
open Go.RowKit

/-- The greatest gain by which p doesn't pass t. -/
def mostI (p t : Int) : Int := if p = 0 ∨ t / 2 < p then 0 else if t / 4 < p then 1 else if t / 8 < p then 2 else 3
theorem mostI_bd (p t : Int) : 0 ≤ mostI p t ∧ mostI p t ≤ 3 := by unfold mostI; split <;> (try split) <;> (try split) <;> omega
/-- Numbers of a part of a block, and all gains of a block. -/
def part (f : Nat → Int) (a n : Nat) : List Int := (List.range n).map fun i => f (a + i)
def gainOf (f : Nat → Int) : Nat → Int := fun k => mostI (peakL (part f (4 * k) 4)) (peakL (part f 0 16))
theorem part_len (f : Nat → Int) (a n : Nat) : (part f a n).length = n := by simp [part]
theorem part_getD (f : Nat → Int) (a n i : Nat) (h : i < n) : (part f a n).getD i 0 = f (a + i) := by simp [part, List.getD, h]
theorem part_in {f : Nat → Int} (h : Fits64 f) (a n : Nat) : ∀ x ∈ part f a n, In64 x := by
  intro x hx
  simp only [part, List.mem_map] at hx
  obtain ⟨i, _, rfl⟩ := hx
  exact h (a + i)
/-- A part of a block's cells reads as a list. -/
theorem part_SlI {W : World} {b : Nat} {t : TypeId} {f : Nat → Int} (h : W.heap[b]? = some (.cells (rowN 16 (blk f)) t (0, 0))) (a n cap : Nat) (hn : a + n ≤ 16) (hc : n ≤ cap) (hm : cap ≤ 16) : SlI W .i64 (.slice (some ⟨b, a, none⟩) n cap) (part f a n) := by
  refine ⟨_, cap, by rw [part_len], fun _ => ⟨b, a, rfl, lt_of_block h, by rw [part_len]; exact hc, by unfold maxLen; omega, fun i hi => ?_⟩⟩
  rw [part_len] at hi
  rw [part_getD _ _ _ _ hi]
  exact (cell_of_row _ _ _ _ _ _ h).trans (blk_at 16 f (a + i) (by omega))

theorem most_any (p t : Int) (w : World) (h0 : 0 ≤ p) (h1 : p ≤ 9223372036854775807) (h2 : 0 ≤ t) (h3 : t ≤ 9223372036854775807) :
    Calls Try.prog 15 #[.int .i64 p, .int .i64 t] w fun e w' => e = .returned (.int .i64 (mostI p t)) ∧ w = w' := by
  obtain ⟨m0, m3⟩ := mostI_bd p t
  have H2 : Hid (1 ≤ mostI p t ↔ ¬ (p = 0 ∨ t / 2 < p)) := by unfold Hid mostI; split <;> (try split) <;> (try split) <;> omega
  have H4 : Hid (2 ≤ mostI p t ↔ ¬ (p = 0 ∨ t / 4 < p)) := by unfold Hid mostI; split <;> (try split) <;> (try split) <;> omega
  have H8 : Hid (3 ≤ mostI p t ↔ ¬ (p = 0 ∨ t / 8 < p)) := by unfold Hid mostI; split <;> (try split) <;> (try split) <;> omega
  generalize mostI p t = m at *
  by_cases hp : p = 0
  · have hm : m = 0 := by have := H2.out; omega
    subst hm hp
    go_enter Try.func15, Try.ntmps15
    go_wp2
    go_ret
    exact ⟨rfl, rfl⟩
  · have hp1 : 1 ≤ p := by omega
    clear hp h0
    go_enter Try.func15, Try.ntmps15
    go_wp2
    go_loop [5] (fun g => ∃ k : Nat, k ≤ 3 ∧ g = .int .i64 k ∧ (k : Int) ≤ m) (fun g => 3 - (intOf g).toNat)
    case atStart => exact ⟨0, by omega, rfl, by omega⟩
    case round =>
      obtain ⟨k, hk, rfl, hkm⟩ := hrel
      rcases (by omega : k = 0 ∨ k = 1 ∨ k = 2 ∨ k = 3) with rfl | rfl | rfl | rfl
      · have H2' := H2.out
        by_cases h : p ≤ t / 2
        · go_wp2
          go_round
          case rel => exact ⟨1, by omega, by go_num, by omega⟩
          case measure => simp [intOf]
        · go_wp2
          go_ret
          exact ⟨ret_int (by omega), rfl⟩
      · have H4' := H4.out
        by_cases h : p ≤ t / 4
        · go_wp2
          go_round
          case rel => exact ⟨2, by omega, by go_num, by omega⟩
          case measure => simp [intOf]
        · go_wp2
          go_ret
          exact ⟨ret_int (by omega), rfl⟩
      · have H8' := H8.out
        by_cases h : p ≤ t / 8
        · go_wp2
          go_round
          case rel => exact ⟨3, by omega, by go_num, by omega⟩
          case measure => simp [intOf]
        · go_wp2
          go_ret
          exact ⟨ret_int (by omega), rfl⟩
      · go_wp2
        go_ret
        exact ⟨ret_int (by omega), rfl⟩
theorem quarter_any (b k : Nat) (cs : Array Value) (t : TypeId) (w : World) (hk : k < 4) (hb : w.heap[b]? = some (.cells cs t (0, 0))) (hs : cs.size = 16) :
    Calls Try.prog 16 #[.pointer (some ⟨b, 0, none⟩), .int .i64 k] w fun e w' => e = .returned (.slice (some ⟨b, 4 * k, none⟩) 4 (16 - 4 * k)) ∧ w = w' := by
  have k0 : (0 : Int) ≤ k := by omega
  have k1 : (k : Int) ≤ 3 := by omega
  have hS : ∀ w : World, (Instr.sliceAt 23 (.pointer (some ⟨b, 0, none⟩)) (some (.int .i64 ((k : Int) * 4))) (some (.int .i64 (((k : Int) + 1) * 4))) none).run Try.prog w = .ok (.slice (some ⟨b, 4 * k, none⟩) 4 (16 - 4 * k)) w := fun w => by
    have hl : Try.prog.arrayLen 23 = 16 := by kernel_rfl
    have hz : (sizeOf (Try.prog.elem 23)).run Try.prog w = .ok 1 w := by kernel_rfl
    rw [run_sliceAt_array_lh w 23 _ (by kernel_rfl) .i64 .i64 _ _ (by omega) (by omega) (by rw [hl]; omega), hz, hl]
    simp only [Result.andThen_ok]
    congr 1
    unfold slicedAt
    rw [if_neg (by omega)]
    simp only [Addr.add]
    have e1 : (((k : Int) * 4)).toNat = 4 * k := by omega
    have e2 : (((k : Int) + 1) * 4).toNat = 4 * k + 4 := by omega
    rw [e1, e2, show 4 * k + 4 - 4 * k = 4 by omega, show 4 * k * 1 = 4 * k by omega, Nat.zero_add]
    by_cases hk0 : 4 * k = 0
    · rw [if_pos hk0, hk0]
    · rw [if_neg hk0]
  go_enter Try.func16, Try.ntmps16
  go_wp2_with fail
  go_ret
  exact ⟨rfl, rfl⟩
def rightP (g : Nat → Int) : Prop := ∀ k, k < 4 → 0 ≤ g k ∧ g k ≤ 3
instance (g : Nat → Int) : Decidable (rightP g) := by unfold rightP; infer_instance
theorem Right_any (g : Nat → Int) (w : World) :
    Calls Try.prog 10 #[.agg (rowN 4 (blk g))] w fun e w' => e = .returned (.bool (decide (rightP g))) ∧ Old w w' := by
  have Hs : Hid ((Try.prog.info? 26).map (·.size) = some 4) := Lib.hid (by kernel_rfl)
  have hb : Hid ((w.alloc (.cells (rowN 4 (blk g)) 26)).heap[w.heap.size]? = some (.cells (rowN 4 (blk g)) 26 (0, 0))) := Lib.hid (heap_alloc_new _ _)
  go_enter Try.func10, Try.ntmps10
  go_wp2_with (with_reducible refine wpList_load_row rfl 26 _ rfl w.heap.size rfl 26 (rowN 4 (blk g)) (0, 0) _ hb.out Try.underlying26 rfl (by rw [rowN_size]; exact Hs.out) ?_)
  go_loop [6] (fun i => ∃ k : Nat, k ≤ 4 ∧ i = .int .i64 k ∧ Hid (∀ j, j < k → 0 ≤ g j ∧ g j ≤ 3)) (fun i => 4 - (intOf i).toNat)
  case atStart => exact ⟨0, by omega, rfl, fun j hj => by omega⟩
  case round =>
    obtain ⟨k, hk, rfl, hj⟩ := hrel
    by_cases hlt : k < 4
    · have i1 : (0 : Int) ≤ k := by omega
      have i2 : (k : Int) < 4 := by omega
      have hat : ∀ w : World, (Instr.index 26 (.agg (rowN 4 (blk g))) (.int .i64 k)).run Try.prog w = .ok (.int .i64 (g k)) w := fun w => run_index_ints Try.underlying26 Try.underlying3 (fun _ => by kernel_rfl) g k hlt w
      by_cases h1 : g k < 0
      · have hf : decide (rightP g) = false := by
          rw [decide_eq_false_iff_not]
          intro h
          have := (h k hlt).1
          omega
        have HF := Lib.hid hf
        clear hf
        generalize g k = x at *
        go_wp2
        go_ret
        exact ⟨by rw [HF.out]; rfl, Old.alloc _ _⟩
      · by_cases h2 : 3 < g k
        · have hf : decide (rightP g) = false := by
            rw [decide_eq_false_iff_not]
            intro h
            have := (h k hlt).2
            omega
          have HF := Lib.hid hf
          clear hf
          have h1' : 0 ≤ g k := by omega
          generalize g k = x at *
          go_wp2
          go_ret
          exact ⟨by rw [HF.out]; rfl, Old.alloc _ _⟩
        · have hn : Hid (∀ j, j < k + 1 → 0 ≤ g j ∧ g j ≤ 3) := fun j hj' => by
            rcases Nat.lt_succ_iff_lt_or_eq.1 hj' with h | rfl
            · exact hj.out j h
            · omega
          have h1' : 0 ≤ g k := by omega
          have h2' : g k ≤ 3 := by omega
          clear h1 h2
          generalize g k = x at *
          go_wp2
          go_round
          case rel => exact ⟨k + 1, by omega, by go_num, hn⟩
          case measure => simp [intOf]; omega
    · obtain rfl : k = 4 := by omega
      have hf : decide (rightP g) = true := decide_eq_true hj.out
      have HF := Lib.hid hf
      clear hf hj
      go_wp2
      go_ret
      exact ⟨by rw [HF.out]; rfl, Old.alloc _ _⟩
/-- The gain of a place. -/
def atI (g : Nat → Int) (i : Int) : Int := if 0 ≤ i ∧ i < 16 ∧ rightP g then g (i / 4).toNat else 0
theorem At_any (g : Nat → Int) (i : Int) (w : World) (h1 : -9223372036854775808 ≤ i) (h2 : i ≤ 9223372036854775807) :
    Calls Try.prog 12 #[.agg (rowN 4 (blk g)), .int .i64 i] w fun e w' => e = .returned (.int .i64 (atI g i)) ∧ Old w w' := by
  have Hs : Hid ((Try.prog.info? 26).map (·.size) = some 4) := Lib.hid (by kernel_rfl)
  have hb : Hid ((w.alloc (.cells (rowN 4 (blk g)) 26)).heap[w.heap.size]? = some (.cells (rowN 4 (blk g)) 26 (0, 0))) := Lib.hid (heap_alloc_new _ _)
  have HR := Lib.hid (fun w => Right_any g w)
  by_cases a : i < 0
  · have e : atI g i = 0 := by unfold atI; rw [if_neg (by omega)]
    rw [e]
    go_enter Try.func12, Try.ntmps12
    go_wp2
    go_ret
    exact ⟨rfl, Old.alloc _ _⟩
  · have a' : 0 ≤ i := by omega
    clear a
    by_cases b : 16 ≤ i
    · have e : atI g i = 0 := by unfold atI; rw [if_neg (by omega)]
      rw [e]
      go_enter Try.func12, Try.ntmps12
      go_wp2
      go_ret
      exact ⟨rfl, Old.alloc _ _⟩
    · have b' : i < 16 := by omega
      clear b
      have q1 : wrap64 (i.tdiv 4) = i / 4 := by rw [Int.tdiv_eq_ediv_of_nonneg a']; exact IntWalk.wrap64_in _ (by omega)
      have q2 : 0 ≤ i / 4 := by omega
      have q3 : i / 4 < 4 := by omega
      by_cases r : rightP g
      · have e : atI g i = g (i / 4).toNat := by unfold atI; rw [if_pos ⟨a', b', r⟩]
        have hr := HR.out
        rw [decide_eq_true r] at hr
        rw [e]
        clear e r HR
        have HR := Lib.hid hr
        clear hr
        clear q1
        have hm : (i / 4).toNat < 4 := by omega
        have HD : Hid (decide (i < 0) = false ∧ decide (16 ≤ i) = false) := ⟨by simp; omega, by simp; omega⟩
        go_enter Try.func12, Try.ntmps12
        go_wp2_with (with_reducible refine wpList_load_row_w (by rw [HD.out.1, HD.out.2]; kernel_rfl) 26 _ rfl w.heap.size rfl 26 (rowN 4 (blk g)) (0, 0) _ hb.out Try.underlying26 rfl (by rw [rowN_size]; exact Hs.out) ?_)
        refine (HR.out _).mono ?_
        rintro e w1 ⟨rfl, ho⟩
        have hc : w1.cell? ⟨w.heap.size, (i / 4).toNat, none⟩ = some (.int .i64 (g (i / 4).toNat)) := (Kept.cell ho (by simp)).trans (cell_new w 4 _ (blk g) _ hm)
        have HO := Lib.hid ((Old.alloc w _).trans ho)
        clear ho
        go_wp2
        go_ret
        exact ⟨rfl, HO.out⟩
      · have e : atI g i = 0 := by unfold atI; rw [if_neg (fun h => r h.2.2)]
        have hr := HR.out
        rw [decide_eq_false r] at hr
        rw [e]
        clear e r HR q1
        have HR := Lib.hid hr
        clear hr
        have HD : Hid (decide (i < 0) = false ∧ decide (16 ≤ i) = false) := ⟨by simp; omega, by simp; omega⟩
        go_enter Try.func12, Try.ntmps12
        go_wp2_with (with_reducible refine wpList_load_row_w (by rw [HD.out.1, HD.out.2]; kernel_rfl) 26 _ rfl w.heap.size rfl 26 (rowN 4 (blk g)) (0, 0) _ hb.out Try.underlying26 rfl (by rw [rowN_size]; exact Hs.out) ?_)
        refine (HR.out _).mono ?_
        rintro e w1 ⟨rfl, ho⟩
        have HO := Lib.hid ((Old.alloc w _).trans ho)
        clear ho
        go_wp2
        go_ret
        exact ⟨rfl, HO.out⟩
theorem row4_zero : (.agg (rowN 4 (blk fun _ => 0)) : Value) = .agg #[.int .i64 0, .int .i64 0, .int .i64 0, .int .i64 0] := rfl
theorem Flat_any (g : Nat → Int) (w : World) :
    Calls Try.prog 13 #[.agg (rowN 4 (blk g))] w fun e w' => e = .returned (.bool (eqB 4 g fun _ => 0)) ∧ Old w w' := by
  have Hs : Hid ((Try.prog.info? 26).map (·.size) = some 4) := Lib.hid (by kernel_rfl)
  have hb : Hid ((w.alloc (.cells (rowN 4 (blk g)) 26)).heap[w.heap.size]? = some (.cells (rowN 4 (blk g)) 26 (0, 0))) := Lib.hid (heap_alloc_new _ _)
  have hE : ∀ w, (binOp .eql 26 (.agg (rowN 4 (blk g))) (.agg #[.int .i64 0, .int .i64 0, .int .i64 0, .int .i64 0])).run Try.prog w = .ok (.bool (eqB 4 g fun _ => 0)) w := fun w => by
    rw [← row4_zero]
    exact eql_ints Try.underlying26 Try.underlying3 (by kernel_rfl) (by kernel_rfl) g _ w
  go_enter Try.func13, Try.ntmps13
  go_wp2_with (with_reducible refine wpList_load_row rfl 26 _ rfl w.heap.size rfl 26 (rowN 4 (blk g)) (0, 0) _ hb.out Try.underlying26 rfl (by rw [rowN_size]; exact Hs.out) ?_)
  go_ret
  exact ⟨rfl, Old.alloc _ _⟩
/-- A block, a block for the result, and gains that are filled. -/
structure OfSt (w : World) (tb tg : TypeId) (z : Array Value) (f : Nat → Int) (g : Nat → Int) (W : World) : Prop where
  b : W.heap[w.heap.size]? = some (.cells (rowN 16 (blk f)) tb (0, 0))
  r : W.heap[w.heap.size + 1]? = some (.cells z tg (0, 0))
  g : W.heap[w.heap.size + 1 + 1]? = some (.cells (rowN 4 (blk g)) tg (0, 0))
  old : Old w W
namespace OfSt
variable {w W W' : World} {tb tg : TypeId} {z : Array Value} {f g g' : Nat → Int}
theorem set (h : OfSt w tb tg z f g W) (j : Nat) (hj : j < 4) (v : Int) : OfSt w tb tg z f (fun k => if k = j then v else g k) (W.setCell ⟨w.heap.size + 1 + 1, j, none⟩ (.int .i64 v)) := by
  refine ⟨(heap_setCell_other _ _ _ _ (by simp; omega)).trans h.b, (heap_setCell_other _ _ _ _ (by simp)).trans h.r, ?_, h.old.after (Kept.setCell (X := fun k => k < w.heap.size) _ (a := ⟨w.heap.size + 1 + 1, j, none⟩) (by show ¬ w.heap.size + 1 + 1 < w.heap.size; omega) _) fun _ hk => hk⟩
  rw [← blk_upd, ← rowN_set _ _ _ _ hj]
  exact heap_setCell_same _ _ _ _ _ _ h.g
theorem cell (h : OfSt w tb tg z f g W) (j : Nat) (hj : j < 4) : W.cell? ⟨w.heap.size + 1 + 1, j, none⟩ = some (.int .i64 (g j)) ∧ W.frozen? ⟨w.heap.size + 1 + 1, j, none⟩ = false :=
  ⟨(cell_of_row _ _ _ _ _ _ h.g).trans (blk_at 4 g j hj), frozen_of_row _ _ _ _ _ h.g⟩
theorem row (h : OfSt w tb tg z f g W) (cs : Array Value) : (W.setRow (w.heap.size + 1) cs).heap[w.heap.size + 1]? = some (.cells cs tg (0, 0)) ∧ Old w (W.setRow (w.heap.size + 1) cs) :=
  ⟨setRow_heap _ _ _ _ _ _ h.r, h.old.after (X := fun k => k < w.heap.size) ⟨rfl, rfl, by simp, fun k hk => setRow_other _ _ _ _ (by omega)⟩ fun _ h => h⟩
end OfSt
def gainsTo (f : Nat → Int) (n : Nat) : Nat → Int := fun k => if k < n then gainOf f k else 0
theorem gainsTo_succ (f : Nat → Int) (n : Nat) : (fun k => if k = n then gainOf f n else gainsTo f n k) = gainsTo f (n + 1) := by
  funext k
  unfold gainsTo
  by_cases h : k = n
  · subst h; rw [if_pos rfl, if_pos (by omega)]
  · rw [if_neg h]
    by_cases h2 : k < n
    · rw [if_pos h2, if_pos (by omega)]
    · rw [if_neg h2, if_neg (by omega)]
theorem Of_any (f : Nat → Int) (hf : Fits64 f) (w : World) :
    Calls Try.prog 7 #[.agg (rowN 16 (blk f))] w fun e w' => e = .returned (.agg (rowN 4 (blk (gainOf f)))) ∧ Old w w' := by
  have hS : ∀ (b : Nat) (w : World), (Instr.sliceAt 23 (.pointer (some ⟨b, 0, none⟩)) none none none).run Try.prog w = .ok (.slice (some ⟨b, 0, none⟩) 16 16) w := fun b w => by
    have hl : Try.prog.arrayLen 23 = 16 := by kernel_rfl
    have hz : (sizeOf (Try.prog.elem 23)).run Try.prog w = .ok 1 w := by kernel_rfl
    rw [run_sliceAt_array_all w 23 _ (by kernel_rfl), hz, hl]
    rfl
  have HF := Lib.hid hf
  clear hf
  have H16 : Hid (In64 (peakL (part f 0 16)) ∧ 0 ≤ peakL (part f 0 16)) := by
    have h := peakL_in _ (part_in HF.out 0 16)
    exact ⟨⟨by omega, h.2⟩, h.1⟩
  have H4 : Hid (∀ k, In64 (peakL (part f (4 * k) 4)) ∧ 0 ≤ peakL (part f (4 * k) 4)) := fun k => by
    have h := peakL_in _ (part_in HF.out (4 * k) 4)
    exact ⟨⟨by omega, h.2⟩, h.1⟩
  have HP : Hid (∀ (W : World) (b a n cap : Nat), W.heap[b]? = some (.cells (rowN 16 (blk f)) 23 (0, 0)) → a + n ≤ 16 → n ≤ cap → cap ≤ 16 →
      Calls Try.prog 14 #[.slice (some ⟨b, a, none⟩) n cap] W fun e w' => e = .returned (.int .i64 (peakL (part f a n))) ∧ W = w') := fun W b a n cap hb h1 h2 h3 =>
    Peak_any _ _ _ _ W (part_SlI hb a n cap h1 h2 h3) (part_in HF.out a n) (by omega)
  go_enter Try.func7, Try.ntmps7
  go_wp2_with fail
  refine (HP.out _ _ 0 16 16 (heap_alloc2_old w _ _) (by omega) (by omega) (by omega)).mono ?_
  rintro e w1 ⟨rfl, rfl⟩
  go_wp2_with fail
  obtain ⟨z, hz⟩ : ∃ z : Array Value, z = #[.int .i64 0, .int .i64 0, .int .i64 0, .int .i64 0] := ⟨_, rfl⟩
  have hzs : z.size = 4 := by rw [hz]; rfl
  have hz0 : z = rowN 4 (blk (gainsTo f 0)) := by rw [hz]; rfl
  rw [← hz]
  clear hz
  have hst : OfSt w 23 26 z f (gainsTo f 0) (((w.alloc (.cells (rowN 16 (blk f)) 23)).alloc (.cells z 26)).alloc (.cells z 26)) := by
    refine ⟨?_, ?_, ?_, ((Old.alloc w _).alloc' _).alloc' _⟩
    · exact (Below.heap_alloc _ _ _ (by simp; omega)).trans (heap_alloc2_old w _ _)
    · exact (Below.heap_alloc _ _ _ (by simp)).trans (heap_alloc2_new w _ _)
    · have := heap_alloc_new ((w.alloc (.cells (rowN 16 (blk f)) 23)).alloc (.cells z 26)) (.cells z 26)
      rw [World.size_alloc, World.size_alloc] at this
      rw [← hz0]; exact this
  have H0 := Lib.hid hst
  clear hst hz0
  go_loopw [8] (fun i wr => ∃ k : Nat, k ≤ 4 ∧ i = .int .i64 k ∧ Hid (OfSt w 23 26 z f (gainsTo f k) wr)) (fun i _ => 4 - (intOf i).toNat)
  case atStart => exact ⟨0, by omega, rfl, H0⟩
  case round =>
    obtain ⟨k, hk, rfl, hs⟩ := hrel
    clear H0
    by_cases hlt : k < 4
    · have k1 : (0 : Int) ≤ k := by omega
      have k2 : (k : Int) < 4 := by omega
      obtain ⟨b4, n4⟩ := H4.out k
      obtain ⟨b16, n16⟩ := H16.out
      have HQ := Lib.hid (quarter_any w.heap.size k _ _ wr hlt hs.out.b (rowN_size _ _))
      have HPk := Lib.hid (HP.out wr w.heap.size (4 * k) 4 (16 - 4 * k) hs.out.b (by omega) (by omega) (by omega))
      have HM := Lib.hid (most_any _ _ wr n4 b4.2 n16 b16.2)
      obtain ⟨c1, c2⟩ := hs.out.cell k hlt
      have hn : Hid (OfSt w 23 26 z f (gainsTo f (k + 1)) (wr.setCell ⟨w.heap.size + 1 + 1, k, none⟩ (.int .i64 (mostI (peakL (part f (4 * k) 4)) (peakL (part f 0 16)))))) := by
        have h := hs.out.set k hlt (gainOf f k)
        rw [gainsTo_succ] at h
        exact h
      clear hs b4 n4 b16 n16 HP H4 H16
      generalize peakL (part f (4 * k) 4) = p at *
      generalize peakL (part f 0 16) = t at *
      go_wp2_with fail
      refine HQ.out.mono ?_
      rintro e w1 ⟨rfl, rfl⟩
      go_wp2_with fail
      refine HPk.out.mono ?_
      rintro e w1 ⟨rfl, rfl⟩
      go_wp2_with fail
      refine HM.out.mono ?_
      rintro e w1 ⟨rfl, rfl⟩
      go_wp2_with fail
      go_roundw
      case rel => exact ⟨k + 1, by omega, by go_num, hn⟩
      case measure => simp [intOf]; omega
    · obtain rfl : k = 4 := by omega
      have hg : rowN 4 (blk (gainsTo f 4)) = rowN 4 (blk (gainOf f)) := rowN_ext _ _ _ fun k hk => by unfold blk gainsTo; rw [if_pos hk]
      have Hg := Lib.hid hs.out.g
      rw [hg] at Hg
      have Hr := Lib.hid hs.out.r
      have Hd := Lib.hid (hs.out.row (rowN 4 (blk (gainOf f))))
      have Hs : Hid ((Try.prog.info? 26).map (·.size) = some 4) := Lib.hid (by kernel_rfl)
      have H1 : Hid ((rowN 4 (blk (gainOf f))).all (·.oneCell') = true) := Lib.hid (blk_one _ _)
      clear hs hg
      have hsz := rowN_size 4 (blk (gainOf f))
      go_wp2_with (first | (with_reducible refine wpList_load_row rfl 26 _ rfl (w.heap.size + 1 + 1) rfl 26 (rowN 4 (blk (gainOf f))) (0, 0) _ Hg.out Try.underlying26 rfl (by rw [hsz]; exact Hs.out) ?_) | (with_reducible refine wpList_store_row rfl 26 _ _ rfl (w.heap.size + 1) (rowN 4 (blk (gainOf f))) rfl rfl 26 _ Hr.out (by rw [hsz]; exact Hs.out) (by rw [hsz]; exact hzs) H1.out ?_))
      exact bodyPost_ret (results_cell_row rfl _ _ (w.heap.size + 1) 26 (rowN 4 (blk (gainOf f))) (0, 0) _ rfl Hd.out.1 Try.underlying26 rfl (by rw [hsz]; exact Hs.out)) rfl ⟨rfl, Hd.out.2⟩
end Go.Proofs.Ytoahbeoonfdpbaa
