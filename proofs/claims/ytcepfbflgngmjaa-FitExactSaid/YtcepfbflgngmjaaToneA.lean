/- Package tone's contracts, first part: which places of a spectrum are tones. -/
import Derived.Test.YtcepfbflgngmjaaQuantL
import Derived.Test.YtcepfbflgngmjaaRowsB
namespace Go.Proofs.Ytcepfbflgngmjaa
set_option linter.unusedVariables false
set_option maxRecDepth 100000
open Go.RowKit

theorem foldl_peak_le (xs : List Int) : ∀ a c : Int, xs.foldl (fun p v => max p (absI v)) a ≤ c ↔ a ≤ c ∧ ∀ x ∈ xs, absI x ≤ c := by
  induction xs with
  | nil => intro a c; simp
  | cons x r ih =>
    intro a c
    rw [List.foldl_cons, ih]
    simp only [List.mem_cons, forall_eq_or_imp]
    constructor
    · rintro ⟨h1, h2⟩; exact ⟨by omega, by omega, h2⟩
    · rintro ⟨h1, h2, h3⟩; exact ⟨by omega, h3⟩
theorem peakL_le (xs : List Int) (c : Int) : peakL xs ≤ c ↔ 0 ≤ c ∧ ∀ x ∈ xs, absI x ≤ c := foldl_peak_le xs 0 c
theorem mem_part {f : Nat → Int} {a n : Nat} {x : Int} : x ∈ part f a n ↔ ∃ j, j < n ∧ f (a + j) = x := by simp [part]

/-- A place of a spectrum is a tone. -/
def isT (f : Nat → Int) (i : Nat) : Prop := i < 16 ∧ 64 ≤ absI (f i) ∧ ∀ k, k < 16 → k / 4 = i / 4 → k ≠ i → absI (f k) ≤ absI (f i) / 8
instance (f : Nat → Int) (i : Nat) : Decidable (isT f i) := by unfold isT; infer_instance
def isI (f : Nat → Int) (i : Int) : Prop := 0 ≤ i ∧ isT f i.toNat
instance (f : Nat → Int) (i : Int) : Decidable (isI f i) := by unfold isI; infer_instance
theorem isI_nat (f : Nat → Int) (k : Nat) : decide (isI f k) = decide (isT f k) := by
  apply decide_eq_decide.2
  unfold isI
  rw [Int.toNat_natCast]
  exact ⟨fun h => h.2, fun h => ⟨by omega, h⟩⟩
theorem isT_congr {f g : Nat → Int} (h : ∀ k, k < 16 → f k = g k) (i : Nat) : isT f i ↔ isT g i := by
  unfold isT
  constructor
  · rintro ⟨h1, h2, h3⟩
    rw [h i h1] at h2 h3
    exact ⟨h1, h2, fun k hk a b => by rw [← h k hk]; exact h3 k hk a b⟩
  · rintro ⟨h1, h2, h3⟩
    rw [← h i h1] at h2 h3
    exact ⟨h1, h2, fun k hk a b => by rw [h k hk]; exact h3 k hk a b⟩
/-- The others' peak is that of the band whose own number was taken away. -/
def butF (f : Nat → Int) (i : Nat) : Nat → Int := fun k => if k = i then 0 else f k
theorem isT_peak (f : Nat → Int) (i : Nat) (hi : i < 16) (h64 : 64 ≤ absI (f i)) : isT f i ↔ peakL (part (butF f i) (i / 4 * 4) 4) ≤ absI (f i) / 8 := by
  rw [peakL_le]
  have e0 : absI 0 = 0 := by decide
  constructor
  · rintro ⟨_, _, h⟩
    refine ⟨by omega, fun x hx => ?_⟩
    obtain ⟨j, hj, rfl⟩ := mem_part.1 hx
    unfold butF
    by_cases e : i / 4 * 4 + j = i
    · rw [if_pos e, e0]; omega
    · rw [if_neg e]; exact h _ (by omega) (by omega) e
  · rintro ⟨_, h⟩
    refine ⟨hi, h64, fun k hk hb hne => ?_⟩
    have := h (f k) (mem_part.2 ⟨k - i / 4 * 4, by omega, by unfold butF; rw [show i / 4 * 4 + (k - i / 4 * 4) = k by omega, if_neg hne]⟩)
    exact this
theorem butF_fits {f : Nat → Int} (h : Fits64 f) (i : Nat) : Fits64 (butF f i) := fun k => by
  unfold butF
  split
  · omega
  · exact h k
theorem isPlace_any (i : Int) (w : World) :
    Calls Try.prog 68 #[.int .i64 i] w fun e w' => e = .returned (.bool (decide (0 ≤ i ∧ i < 16))) ∧ w = w' := by
  by_cases h1 : 0 ≤ i
  · by_cases h2 : i < 16
    · have e : decide (0 ≤ i ∧ i < 16) = true := decide_eq_true ⟨h1, h2⟩
      rw [e]
      clear e
      go_enter Try.func68, Try.ntmps68
      go_wp2
      go_ret
      exact ⟨rfl, rfl⟩
    · have e : decide (0 ≤ i ∧ i < 16) = false := decide_eq_false fun h => h2 h.2
      rw [e]
      have h2' : 16 ≤ i := by omega
      clear e h2
      go_enter Try.func68, Try.ntmps68
      go_wp2
      go_ret
      refine ⟨?_, rfl⟩
      show Ending.returned (.bool (decide (i < 16))) = _
      rw [decide_eq_false (by omega)]
  · have e : decide (0 ≤ i ∧ i < 16) = false := decide_eq_false fun h => h1 h.1
    rw [e]
    have h1' : i < 0 := by omega
    clear e h1
    go_enter Try.func68, Try.ntmps68
    go_wp2
    go_ret
    exact ⟨rfl, rfl⟩
theorem slice_band (b k : Nat) (hk : k < 4) (w : World) : (Instr.sliceAt 23 (.pointer (some ⟨b, 0, none⟩)) (some (.int .i64 ((k : Int) * 4))) (some (.int .i64 ((k : Int) * 4 + 4))) none).run Try.prog w = .ok (.slice (some ⟨b, k * 4, none⟩) 4 (16 - k * 4)) w := by
  have hl : Try.prog.arrayLen 23 = 16 := by kernel_rfl
  have hz : (sizeOf (Try.prog.elem 23)).run Try.prog w = .ok 1 w := by kernel_rfl
  rw [run_sliceAt_array_lh w 23 _ (by kernel_rfl) .i64 .i64 _ _ (by omega) (by omega) (by rw [hl]; omega), hz, hl]
  simp only [Result.andThen_ok]
  congr 1
  unfold slicedAt
  rw [if_neg (by omega)]
  simp only [Addr.add]
  have e1 : (((k : Int) * 4)).toNat = k * 4 := by omega
  have e2 : ((k : Int) * 4 + 4).toNat = k * 4 + 4 := by omega
  rw [e1, e2, show k * 4 + 4 - k * 4 = 4 by omega, show k * 4 * 1 = k * 4 by omega, Nat.zero_add]
  by_cases hk0 : k * 4 = 0
  · rw [if_pos hk0, hk0]
  · rw [if_neg hk0]
theorem Is_any (f : Nat → Int) (hf : Fits64 f) (i : Int) (w : World) (h1 : -9223372036854775808 ≤ i) (h2 : i ≤ 9223372036854775807) :
    Calls Try.prog 63 #[.agg (rowN 16 (blk f)), .int .i64 i] w fun e w' => e = .returned (.bool (decide (isI f i))) ∧ Old w w' := by
  have HP := Lib.hid (fun w => isPlace_any i w)
  by_cases hp : 0 ≤ i ∧ i < 16
  · obtain ⟨k, rfl⟩ : ∃ k : Nat, i = k := ⟨i.toNat, by omega⟩
    have hk : k < 16 := by omega
    have k0 : (0 : Int) ≤ k := by omega
    have k1 : (k : Int) < 16 := by omega
    have hP := HP.out
    rw [decide_eq_true hp] at hP
    have HP' := Lib.hid hP
    clear hP hp HP h1 h2
    obtain ⟨W0, hW0⟩ : ∃ W0, W0 = (w.alloc (.cells (rowN 16 (blk f)) 23)) := ⟨_, rfl⟩
    have ha0 : W0.heap[w.heap.size]? = some (.cells (rowN 16 (blk f)) 23 (0, 0)) := by rw [hW0]; exact heap_alloc_new w _
    have ho0 : Old w W0 := by rw [hW0]; exact Old.alloc w _
    have hcell : W0.cell? ⟨w.heap.size, k, none⟩ = some (.int .i64 (f k)) := (cell_of_row _ _ _ _ _ _ ha0).trans (blk_at 16 f k hk)
    have hfrz : W0.frozen? ⟨w.heap.size, k, none⟩ = false := frozen_of_row _ _ _ _ _ ha0
    have ha1 : (W0.setCell ⟨w.heap.size, k, none⟩ (.int .i64 0)).heap[w.heap.size]? = some (.cells (rowN 16 (blk (butF f k))) 23 (0, 0)) := by
      rw [show blk (butF f k) = updN (blk f) k (.int .i64 0) from (blk_upd f k 0).symm, ← rowN_set _ _ _ _ hk]
      exact heap_setCell_same _ _ _ _ _ _ ha0
    have ho1 : Old w (W0.setCell ⟨w.heap.size, k, none⟩ (.int .i64 0)) := ho0.after (Kept.setCell (X := fun q => q < w.heap.size) _ (a := ⟨w.heap.size, k, none⟩) (by show ¬ w.heap.size < w.heap.size; omega) _) fun _ h => h
    have HO := Lib.hid ho1
    have hm : k / 4 < 4 := by omega
    have HPk := Lib.hid (Peak_any _ _ _ _ _ (part_SlI ha1 (k / 4 * 4) 4 (16 - k / 4 * 4) (by omega) (by omega) (by omega)) (part_in (butF_fits hf k) (k / 4 * 4) 4) (by omega))
    have HPb := Lib.hid (peakL_in _ (part_in (butF_fits hf k) (k / 4 * 4) 4))
    have HB := Lib.hid (fun w => Band_nat k (k / 4) w hk rfl)
    have HA := Lib.hid (fun w => Abs_any (f k) w (hf k).1 (hf k).2)
    have Ab := absI_bd _ (hf k).1 (hf k).2
    have HT : Hid (64 ≤ absI (f k) → (isT f k ↔ peakL (part (butF f k) (k / 4 * 4) 4) ≤ absI (f k) / 8)) := fun h => isT_peak f k hk h
    have HN : Hid (absI (f k) < 64 → ¬ isT f k) := fun h h' => by have := h'.2.1; omega
    have hS := fun w' : World => slice_band w.heap.size (k / 4) hm w'
    rw [isI_nat]
    clear ha0 ho0 ha1 ho1 hf
    generalize k / 4 = m at *
    generalize peakL (part (butF f k) (m * 4) 4) = p at *
    have hpb1 := HPb.out.1
    have hpb2 := HPb.out.2
    clear HPb
    obtain ⟨D, hD⟩ : ∃ D, decide (isT f k) = D := ⟨_, rfl⟩
    have HD := Lib.hid hD
    rw [hD]
    clear hD
    generalize f k = x at *
    generalize absI x = y at *
    have m1 : (0 : Int) ≤ m := by omega
    have m2 : (m : Int) < 4 := by omega
    go_enter Try.func63, Try.ntmps63
    go_wp2_with fail
    rw [← hW0]
    clear hW0
    refine (HP'.out _).mono ?_
    rintro e w1 ⟨rfl, rfl⟩
    go_wp2_with fail
    refine (HA.out _).mono ?_
    rintro e w1 ⟨rfl, rfl⟩
    go_wp2_with fail
    refine (HB.out _).mono ?_
    rintro e w1 ⟨rfl, rfl⟩
    by_cases c : y < 64
    · have hd : D = false := by rw [← HD.out]; exact decide_eq_false (HN.out c)
      have HDD := Lib.hid hd
      clear HPk hS hd HT HN HD
      go_wp2_with fail
      go_ret
      exact ⟨by rw [HDD.out]; rfl, HO.out⟩
    · have c' : 64 ≤ y := by omega
      have q1 : wrap64 (y.tdiv 8) = y / 8 := by rw [Int.tdiv_eq_ediv_of_nonneg (by omega)]; exact IntWalk.wrap64_in _ (by omega)
      have hd : D = decide (p ≤ y / 8) := by rw [← HD.out]; exact decide_eq_decide.2 (HT.out c')
      have HDD := Lib.hid hd
      have b1 : 0 ≤ y / 8 := by omega
      have b2 : y / 8 ≤ 9223372036854775807 := by omega
      clear hd HT HN HD c
      go_wp2_with fail
      refine HPk.out.mono ?_
      rintro e w1 ⟨rfl, rfl⟩
      go_wp2_with fail
      go_ret
      exact ⟨by rw [HDD.out]; rfl, HO.out⟩
  · have hP := HP.out
    rw [decide_eq_false hp] at hP
    have HP' := Lib.hid hP
    have e : decide (isI f i) = false := decide_eq_false fun h => hp ⟨h.1, by have := h.2.1; omega⟩
    rw [e]
    clear hP hp HP e
    go_enter Try.func63, Try.ntmps63
    go_wp2_with fail
    refine (HP'.out _).mono ?_
    rintro e w1 ⟨rfl, rfl⟩
    go_wp2_with fail
    go_ret
    exact ⟨rfl, Old.alloc _ _⟩
end Go.Proofs.Ytcepfbflgngmjaa
