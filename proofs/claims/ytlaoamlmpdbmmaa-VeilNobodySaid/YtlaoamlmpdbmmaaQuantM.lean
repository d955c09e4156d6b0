/- Package quant's contracts, second part: Steps, Values, Noise, Cost. -/
import Derived.Test.YtlaoamlmpdbmmaaQuantL
namespace Go.Proofs.Ytlaoamlmpdbmmaa
set_option linter.unusedVariables false
set_option maxRecDepth 100000
open Go.RowKit

set_option maxRecDepth 100000 in
theorem Values_any (f s : Nat → Int) (w : World) (hf : Fits64 f) :
    Calls Try.prog 22 #[.agg (rowN 16 (blk f)), .agg (rowN 4 (blk s))] w fun e w' => e = .returned (.agg (rowN 16 (blk (toldR valI f s)))) ∧ Old w w' := by
  have Hs4 : Hid ((Try.prog.info? 56).map (·.size) = some 4) := Lib.hid (by kernel_rfl)
  have Hb16 : Hid ((Try.prog.info? 25).map (·.size) = some 16) := Lib.hid (by kernel_rfl)
  have HT := Lib.hid (fun w => told_value f s w hf)
  have hst := told_start w 25 56 #[.int .i64 0, .int .i64 0, .int .i64 0, .int .i64 0, .int .i64 0, .int .i64 0, .int .i64 0, .int .i64 0, .int .i64 0, .int .i64 0, .int .i64 0, .int .i64 0, .int .i64 0, .int .i64 0, .int .i64 0, .int .i64 0] f s
  have H0 := Lib.hid hst
  clear hst hf
  have z1 : Hid ((#[.int .i64 0, .int .i64 0, .int .i64 0, .int .i64 0, .int .i64 0, .int .i64 0, .int .i64 0, .int .i64 0, .int .i64 0, .int .i64 0, .int .i64 0, .int .i64 0, .int .i64 0, .int .i64 0, .int .i64 0, .int .i64 0] : Array Value).size = 16) := Lib.hid rfl
  go_enter Try.func22, Try.ntmps22
  go_wp2_with (first | (with_reducible refine wpList_load_row rfl 25 _ rfl w.heap.size rfl 25 (rowN 16 (blk f)) (0, 0) _ H0.out.b Try.underlying25 rfl (by rw [rowN_size]; exact Hb16.out) ?_) | (with_reducible refine wpList_load_row rfl 56 _ rfl (w.heap.size + 1) rfl 56 (rowN 4 (blk s)) (0, 0) _ H0.out.s Try.underlying56 rfl (by rw [rowN_size]; exact Hs4.out) ?_))
  refine (HT.out _).mono ?_
  rintro e w1 ⟨rfl, ho⟩
  have H1 := H0.out.keep ho
  obtain ⟨z, hz⟩ : ∃ z : Array Value, z = #[.int .i64 0, .int .i64 0, .int .i64 0, .int .i64 0, .int .i64 0, .int .i64 0, .int .i64 0, .int .i64 0, .int .i64 0, .int .i64 0, .int .i64 0, .int .i64 0, .int .i64 0, .int .i64 0, .int .i64 0, .int .i64 0] := ⟨_, rfl⟩
  rw [← hz] at H1 z1
  have Hr := Lib.hid H1.r
  have Hd := Lib.hid (H1.row (rowN 16 (blk (toldR valI f s))))
  have H2 : Hid ((rowN 16 (blk (toldR valI f s))).all (·.oneCell') = true) := Lib.hid (blk_one _ _)
  have hsz := rowN_size 16 (blk (toldR valI f s))
  clear ho H0 HT H1 hz
  go_wp2_with (with_reducible refine wpList_store_row rfl 25 _ _ rfl (w.heap.size + 1 + 1) (rowN 16 (blk (toldR valI f s))) rfl rfl 25 _ Hr.out (by rw [hsz]; exact Hb16.out) (by rw [hsz]; exact z1.out) H2.out ?_)
  exact bodyPost_ret (results_cell_row rfl _ _ (w.heap.size + 1 + 1) 25 (rowN 16 (blk (toldR valI f s))) (0, 0) _ rfl Hd.out.1 Try.underlying25 rfl (by rw [hsz]; exact Hb16.out)) rfl ⟨rfl, Hd.out.2⟩
/-- The sum of the first n widths. -/
def sumTo (g : Nat → Int) : Nat → Int
  | 0 => 0
  | n + 1 => sumTo g n + g n
theorem sumTo_bd (g : Nat → Int) (n : Nat) (h : ∀ k, k < n → -1099511627776 ≤ g k ∧ g k ≤ 1099511627776) : -(1099511627776 * (n : Int)) ≤ sumTo g n ∧ sumTo g n ≤ 1099511627776 * (n : Int) := by
  induction n with
  | zero => exact ⟨by simp [sumTo], by simp [sumTo]⟩
  | succ n ih =>
    have h1 := ih fun k hk => h k (by omega)
    have h2 := h n (by omega)
    unfold sumTo
    omega
/-- How far two blocks' numbers are from one another. -/
def farI (f g : Nat → Int) (k : Nat) : Int := wrap64 (f k - g k)
def farTo (f g : Nat → Int) (n : Nat) : Nat → Int := fun k => if k < n then farI f g k else f k
theorem farTo_succ (f g : Nat → Int) (n : Nat) : (fun k => if k = n then wrap64 (f n - g n) else farTo f g n k) = farTo f g (n + 1) := by
  funext k
  unfold farTo farI
  by_cases h : k = n
  · subst h; rw [if_pos rfl, if_pos (by omega)]
  · rw [if_neg h]
    by_cases h2 : k < n
    · rw [if_pos h2, if_pos (by omega)]
    · rw [if_neg h2, if_neg (by omega)]
theorem farI_fits (f g : Nat → Int) : Fits64 (farI f g) := fun k => by unfold farI wrap64; omega
end Go.Proofs.Ytlaoamlmpdbmmaa
