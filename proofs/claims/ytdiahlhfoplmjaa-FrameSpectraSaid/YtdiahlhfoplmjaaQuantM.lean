/- Package quant's contracts, second part: Steps, Values, Noise, Cost. -/
import Derived.Test.YtdiahlhfoplmjaaQuantL
namespace Go.Proofs.Ytdiahlhfoplmjaa
set_option linter.unusedVariables false
open Go.RowKit

set_option maxRecDepth 100000 in
theorem Values_any (f s : Nat → Int) (w : World) (hf : Fits64 f) :
    Calls Try.prog 17 #[.agg (rowN 16 (blk f)), .agg (rowN 4 (blk s))] w fun e w' => e = .returned (.agg (rowN 16 (blk (toldR valI f s)))) ∧ Old w w' := by
  have Hs4 : Hid ((Try.prog.info? 56).map (·.size) = some 4) := Lib.hid (by kernel_rfl)
  have Hb16 : Hid ((Try.prog.info? 25).map (·.size) = some 16) := Lib.hid (by kernel_rfl)
  have HT := Lib.hid (fun w => told_value f s w hf)
  have hst := told_start w 25 56 #[.int .i64 0, .int .i64 0, .int .i64 0, .int .i64 0, .int .i64 0, .int .i64 0, .int .i64 0, .int .i64 0, .int .i64 0, .int .i64 0, .int .i64 0, .int .i64 0, .int .i64 0, .int .i64 0, .int .i64 0, .int .i64 0] f s
  have H0 := Lib.hid hst
  clear hst hf
  have z1 : Hid ((#[.int .i64 0, .int .i64 0, .int .i64 0, .int .i64 0, .int .i64 0, .int .i64 0, .int .i64 0, .int .i64 0, .int .i64 0, .int .i64 0, .int .i64 0, .int .i64 0, .int .i64 0, .int .i64 0, .int .i64 0, .int .i64 0] : Array Value).size = 16) := Lib.hid rfl
  go_enter Try.func17, Try.ntmps17
  go_wp2_with (first | (with_reducible refine wpList_load_row rfl 25 _ rfl w.heap.size rfl 25 (rowN 16 (blk f)) (0, 0) _ H0.out.b Try.underlying25 rfl (by rw [rowN_size]; exact Hb16.out) ?_) | (with_reducible refine wpList_load_row rfl 56 _ rfl (w.heap.size + 1) rfl 56 (rowN 4 (blk s)) (0, 0) _ H0.out.s Try.underlying56 rfl (by rw [rowN_size]; exact Hs4.out) ?_))
  refine (HT.out _).mono ?_
  rintro e w1 ⟨rfl, ho⟩
  have H1 := H0.out.keep ho
  obtain ⟨z, hz⟩ : ∃ z : Array Value, z = #[.int .i64 0, .int .i64 0, .int .i64 0, .int .i64 0, .int .i64 0, .int .i64 0, .int .i64 0, .int .i64 0, .int .i64 0, .int .i64 0, .int .i64 0, .int .i64 0, .int .i64 0, .int .i64 0, .int .i64 0, .int .i64 0] := ⟨_, rfl⟩
  rw [← hz] at H1 z1
  have Hr := Lib.hid H1.r
  have Hd := Lib.hid (H1.row (rowN 16 (blk (toldR valI f s))))
  have H2 : Hid ((rowN 16 (blk (toldR valI f s))).all (·.oneCell') = true) := Lib.hid (blk_one _ _)
  have hsz := rowN_size 16 (blk (toldR valI f s))
  clear ho H0 HT H1 hz
  go_wp2_with (with_reducible refine wpList_store_row rfl 25 _ _ rfl (w.heap.size + 1 + 1) (rowN 16 (blk (toldR valI f s))) rfl rfl 25 _ Hr.out (by rw [hsz]; exact Hb16.out) (by rw [hsz]; exact z1.out) H2.out ?_)
  exact bodyPost_ret (results_cell_row rfl _ _ (w.heap.size + 1 + 1) 25 (rowN 16 (blk (toldR valI f s))) (0, 0) _ rfl Hd.out.1 Try.underlying25 rfl (by rw [hsz]; exact Hb16.out)) rfl ⟨rfl, Hd.out.2⟩
/-- The sum of the first n widths. -/
def sumTo (g : Nat → Int) : Nat → Int
  | 0 => 0
  | n + 1 => sumTo g n + g n
theorem sumTo_bd (g : Nat → Int) (n : Nat) (h : ∀ k, k < n → -1099511627776 ≤ g k ∧ g k ≤ 1099511627776) : -(1099511627776 * (n : Int)) ≤ sumTo g n ∧ sumTo g n ≤ 1099511627776 * (n : Int) := by
  induction n with
  | zero => exact ⟨by simp [sumTo], by simp [sumTo]⟩
  | succ n ih =>
    have h1 := ih fun k hk => h k (by omega)
    have h2 := h n (by omega)
    unfold sumTo
    omega
theorem Cost_any (g : Nat → Int) (w : World) (hg : ∀ k, k < 4 → -1099511627776 ≤ g k ∧ g k ≤ 1099511627776) :
    Calls Try.prog 29 #[.agg (rowN 4 (blk g))] w fun e w' => e = .returned (.int .i64 (4 * sumTo g 4)) ∧ Old w w' := by
  have Hw4 : Hid ((Try.prog.info? 22).map (·.size) = some 4) := Lib.hid (by kernel_rfl)
  have hb : Hid ((w.alloc (.cells (rowN 4 (blk g)) 22)).heap[w.heap.size]? = some (.cells (rowN 4 (blk g)) 22 (0, 0))) := Lib.hid (heap_alloc_new _ _)
  have HG := Lib.hid hg
  have HB := Lib.hid (fun n (hn : n ≤ 4) => sumTo_bd g n fun k hk => hg k (by omega))
  clear hg
  go_enter Try.func29, Try.ntmps29
  go_wp2_with (with_reducible refine wpList_load_row rfl 22 _ rfl w.heap.size rfl 22 (rowN 4 (blk g)) (0, 0) _ hb.out Try.underlying22 rfl (by rw [rowN_size]; exact Hw4.out) ?_)
  go_loop [3, 7] (fun s i => ∃ k : Nat, k ≤ 4 ∧ i = .int .i64 k ∧ s = .int .i64 (sumTo g k)) (fun _ i => 4 - (intOf i).toNat)
  case atStart => exact ⟨0, by omega, rfl, rfl⟩
  case round =>
    obtain ⟨k, hk, rfl, rfl⟩ := hrel
    obtain ⟨s0, s1⟩ := HB.out k hk
    by_cases hlt : k < 4
    · have i1 : (0 : Int) ≤ k := by omega
      have i2 : (k : Int) < 4 := by omega
      have hat : ∀ w : World, (Instr.index 22 (.agg (rowN 4 (blk g))) (.int .i64 k)).run Try.prog w = .ok (.int .i64 (g k)) w := fun w => run_index_ints Try.underlying22 Try.underlying3 (fun _ => by kernel_rfl) g k hlt w
      have hsu : sumTo g (k + 1) = sumTo g k + g k := rfl
      have HS := Lib.hid hsu
      obtain ⟨g0, g1⟩ := HG.out k hlt
      clear hsu HB HG
      generalize sumTo g k = s at *
      generalize g k = x at *
      have q1 : wrap64 (s + x) = s + x := IntWalk.wrap64_in _ (by omega)
      go_wp2
      go_round
      case rel => exact ⟨k + 1, by omega, by go_num, by rw [HS.out]⟩
      case measure => simp [intOf]; omega
    · obtain rfl : k = 4 := by omega
      obtain ⟨s, hs⟩ : ∃ s, sumTo g 4 = s := ⟨_, rfl⟩
      have Hs := Lib.hid hs
      rw [hs] at s0 s1 ⊢
      clear HB HG hs
      have q1 : wrap64 (4 * s) = 4 * s := IntWalk.wrap64_in _ (by omega)
      go_wp2
      go_ret
      exact ⟨by rw [Hs.out]; rfl, Old.alloc _ _⟩
/-- How far two blocks' numbers are from one another. -/
def farI (f g : Nat → Int) (k : Nat) : Int := wrap64 (f k - g k)
def farTo (f g : Nat → Int) (n : Nat) : Nat → Int := fun k => if k < n then farI f g k else f k
theorem farTo_succ (f g : Nat → Int) (n : Nat) : (fun k => if k = n then wrap64 (f n - g n) else farTo f g n k) = farTo f g (n + 1) := by
  funext k
  unfold farTo farI
  by_cases h : k = n
  · subst h; rw [if_pos rfl, if_pos (by omega)]
  · rw [if_neg h]
    by_cases h2 : k < n
    · rw [if_pos h2, if_pos (by omega)]
    · rw [if_neg h2, if_neg (by omega)]
theorem farI_fits (f g : Nat → Int) : Fits64 (farI f g) := fun k => by unfold farI wrap64; omega
end Go.Proofs.Ytdiahlhfoplmjaa
