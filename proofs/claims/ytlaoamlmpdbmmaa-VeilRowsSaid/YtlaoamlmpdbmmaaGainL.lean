/- Package gain's contracts. -/
import Derived.Test.YtlaoamlmpdbmmaaArrI
import Derived.Test.YtlaoamlmpdbmmaaNumL
namespace Go.Proofs.Ytlaoamlmpdbmmaa
set_option linter.unusedVariables false
set_option maxRecDepth 100000
open Go.RowKit

/-- The greatest gain by which p doesn't pass t. -/
def mostI (p t : Int) : Int := if p = 0 ∨ t / 2 < p then 0 else if t / 4 < p then 1 else if t / 8 < p then 2 else 3
theorem mostI_bd (p t : Int) : 0 ≤ mostI p t ∧ mostI p t ≤ 3 := by unfold mostI; split <;> (try split) <;> (try split) <;> omega
/-- Numbers of a part of a block, and all gains of a block. -/
def part (f : Nat → Int) (a n : Nat) : List Int := (List.range n).map fun i => f (a + i)
def gainOf (f : Nat → Int) : Nat → Int := fun k => mostI (peakL (part f (4 * k) 4)) (peakL (part f 0 16))
theorem part_len (f : Nat → Int) (a n : Nat) : (part f a n).length = n := by simp [part]
theorem part_getD (f : Nat → Int) (a n i : Nat) (h : i < n) : (part f a n).getD i 0 = f (a + i) := by simp [part, List.getD, h]
theorem part_in {f : Nat → Int} (h : Fits64 f) (a n : Nat) : ∀ x ∈ part f a n, In64 x := by
  intro x hx
  simp only [part, List.mem_map] at hx
  obtain ⟨i, _, rfl⟩ := hx
  exact h (a + i)
/-- A part of a block's cells reads as a list. -/
theorem part_SlI {W : World} {b : Nat} {t : TypeId} {f : Nat → Int} (h : W.heap[b]? = some (.cells (rowN 16 (blk f)) t (0, 0))) (a n cap : Nat) (hn : a + n ≤ 16) (hc : n ≤ cap) (hm : cap ≤ 16) : SlI W .i64 (.slice (some ⟨b, a, none⟩) n cap) (part f a n) := by
  refine ⟨_, cap, by rw [part_len], fun _ => ⟨b, a, rfl, lt_of_block h, by rw [part_len]; exact hc, by unfold maxLen; omega, fun i hi => ?_⟩⟩
  rw [part_len] at hi
  rw [part_getD _ _ _ _ hi]
  exact (cell_of_row _ _ _ _ _ _ h).trans (blk_at 16 f (a + i) (by omega))

def rightP (g : Nat → Int) : Prop := ∀ k, k < 4 → 0 ≤ g k ∧ g k ≤ 3
instance (g : Nat → Int) : Decidable (rightP g) := by unfold rightP; infer_instance
set_option maxRecDepth 100000 in
theorem Right_any (g : Nat → Int) (w : World) :
    Calls Try.prog 18 #[.agg (rowN 4 (blk g))] w fun e w' => e = .returned (.bool (decide (rightP g))) ∧ Old w w' := by
  have Hs : Hid ((Try.prog.info? 26).map (·.size) = some 4) := Lib.hid (by kernel_rfl)
  have hb : Hid ((w.alloc (.cells (rowN 4 (blk g)) 26)).heap[w.heap.size]? = some (.cells (rowN 4 (blk g)) 26 (0, 0))) := Lib.hid (heap_alloc_new _ _)
  go_enter Try.func18, Try.ntmps18
  go_wp2_with (with_reducible refine wpList_load_row rfl 26 _ rfl w.heap.size rfl 26 (rowN 4 (blk g)) (0, 0) _ hb.out Try.underlying26 rfl (by rw [rowN_size]; exact Hs.out) ?_)
  go_loop [6] (fun i => ∃ k : Nat, k ≤ 4 ∧ i = .int .i64 k ∧ Hid (∀ j, j < k → 0 ≤ g j ∧ g j ≤ 3)) (fun i => 4 - (intOf i).toNat)
  case atStart => exact ⟨0, by omega, rfl, fun j hj => by omega⟩
  case round =>
    obtain ⟨k, hk, rfl, hj⟩ := hrel
    by_cases hlt : k < 4
    · have i1 : (0 : Int) ≤ k := by omega
      have i2 : (k : Int) < 4 := by omega
      have hat : ∀ w : World, (Instr.index 26 (.agg (rowN 4 (blk g))) (.int .i64 k)).run Try.prog w = .ok (.int .i64 (g k)) w := fun w => run_index_ints Try.underlying26 Try.underlying3 (fun _ => by kernel_rfl) g k hlt w
      by_cases h1 : g k < 0
      · have hf : decide (rightP g) = false := by
          rw [decide_eq_false_iff_not]
          intro h
          have := (h k hlt).1
          omega
        have HF := Lib.hid hf
        clear hf
        generalize g k = x at *
        go_wp2
        go_ret
        exact ⟨by rw [HF.out]; rfl, Old.alloc _ _⟩
      · by_cases h2 : 3 < g k
        · have hf : decide (rightP g) = false := by
            rw [decide_eq_false_iff_not]
            intro h
            have := (h k hlt).2
            omega
          have HF := Lib.hid hf
          clear hf
          have h1' : 0 ≤ g k := by omega
          generalize g k = x at *
          go_wp2
          go_ret
          exact ⟨by rw [HF.out]; rfl, Old.alloc _ _⟩
        · have hn : Hid (∀ j, j < k + 1 → 0 ≤ g j ∧ g j ≤ 3) := fun j hj' => by
            rcases Nat.lt_succ_iff_lt_or_eq.1 hj' with h | rfl
            · exact hj.out j h
            · omega
          have h1' : 0 ≤ g k := by omega
          have h2' : g k ≤ 3 := by omega
          clear h1 h2
          generalize g k = x at *
          go_wp2
          go_round
          case rel => exact ⟨k + 1, by omega, by go_num, hn⟩
          case measure => simp [intOf]; omega
    · obtain rfl : k = 4 := by omega
      have hf : decide (rightP g) = true := decide_eq_true hj.out
      have HF := Lib.hid hf
      clear hf hj
      go_wp2
      go_ret
      exact ⟨by rw [HF.out]; rfl, Old.alloc _ _⟩
end Go.Proofs.Ytlaoamlmpdbmmaa
