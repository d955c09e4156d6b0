/- Package env: what it is to be right, a slope, a way, a move. (by wip/tools/exp.py of XEnvA.src) -/
import Derived.Test.YtgdlinfgcfjciaaNumL
import Derived.ChangeKeysEq
import Derived.BigQuiet
import Derived.Deep.RegionHeld
namespace Go.Proofs.Ytgdlinfgcfjciaa
set_option linter.unusedVariables false
set_option linter.unusedSimpArgs false
set_option maxRecDepth 100000
open Go.RowKit Go.ChangeShapes Go.WideShapes

def inB (n m : Int) : Bool := decide (0 ≤ n) && decide (n ≤ m)
def shB (a d s r : Int) : Bool := inB a 1048576 && (inB d 1048576 && (inB s 256 && inB r 1048576))
def shV (a d s r : Int) : Value := .agg #[.int .i64 a, .int .i64 d, .int .i64 s, .int .i64 r]
def slopeI (o n : Int) : Int := if n < 1 then o else max 1 (-((-o) / n))
theorem inB_yes {n m : Int} (h : inB n m = true) : 0 ≤ n ∧ n ≤ m := by unfold inB at h; simpa using h
theorem shB_yes {a d s r : Int} (h : shB a d s r = true) : (0 ≤ a ∧ a ≤ 1048576) ∧ (0 ≤ d ∧ d ≤ 1048576) ∧ (0 ≤ s ∧ s ≤ 256) ∧ 0 ≤ r ∧ r ≤ 1048576 := by
  unfold shB at h
  simp only [Bool.and_eq_true] at h
  exact ⟨inB_yes h.1, inB_yes h.2.1, inB_yes h.2.2.1, inB_yes h.2.2.2⟩
theorem quot_neg {z n : Int} (h0 : z ≤ 0) (h1 : -16777216 ≤ z) (hn : 1 ≤ n) : -16777216 ≤ z / n ∧ z / n ≤ 0 := by
  constructor
  · refine (Int.le_ediv_iff_mul_le (by omega)).2 ?_
    have : 16777216 * 1 ≤ 16777216 * n := Int.mul_le_mul_of_nonneg_left hn (by omega)
    omega
  · have := Int.ediv_le_ediv (show 0 < n by omega) h0
    simpa using this
theorem slopeI_bd {o n : Int} (h0 : 0 ≤ o) (h1 : o ≤ 16777216) : 0 ≤ slopeI o n ∧ slopeI o n ≤ 16777216 ∧ (1 ≤ n → 1 ≤ slopeI o n) := by
  unfold slopeI
  split
  · exact ⟨h0, h1, fun h => by omega⟩
  · obtain ⟨q1, q2⟩ := quot_neg (z := -o) (n := n) (by omega) (by omega) (by omega)
    omega

theorem isWithin_any (n m : Int) (w : World) : Calls Try.prog 16 #[.int .i64 n, .int .i64 m] w fun e w' => e = .returned (.bool (inB n m)) ∧ w = w' := by
  by_cases h0 : 0 ≤ n
  · by_cases h1 : n ≤ m
    · have h : inB n m = true := by unfold inB; simp [h0, h1]
      rw [h]
      clear h
      go_enter Try.func16, Try.ntmps16
      go_wp2
      go_ret
      exact ⟨rfl, rfl⟩
    · have h : inB n m = false := by unfold inB; simp; omega
      rw [h]
      clear h
      go_enter Try.func16, Try.ntmps16
      go_wp2
      go_ret
      exact ⟨rfl, rfl⟩
  · have h : inB n m = false := by unfold inB; simp; omega
    rw [h]
    clear h
    go_enter Try.func16, Try.ntmps16
    go_wp2
    go_ret
    exact ⟨rfl, rfl⟩
theorem eRight_any (a d s r : Int) (w : World) : Calls Try.prog 7 #[shV a d s r] w fun e w' => e = .returned (.bool (shB a d s r)) ∧ Old w w' := by
  have HI := Lib.hid (fun n m w => isWithin_any n m w)
  have HO := Lib.hid (Old.alloc w (.cells #[.int .i64 a, .int .i64 d, .int .i64 s, .int .i64 r] 23))
  unfold shB shV
  have I1 := Lib.hid (fun w => HI.out a 1048576 w)
  have I2 := Lib.hid (fun w => HI.out d 1048576 w)
  have I3 := Lib.hid (fun w => HI.out s 256 w)
  have I4 := Lib.hid (fun w => HI.out r 1048576 w)
  clear HI
  generalize inB a 1048576 = b1 at *
  generalize inB d 1048576 = b2 at *
  generalize inB s 256 = b3 at *
  generalize inB r 1048576 = b4 at *
  go_enter Try.func7, Try.ntmps7
  cases b1
  · go_wp2_with fail
    refine (I1.out _).mono ?_
    rintro e w1 ⟨rfl, rfl⟩
    go_wp2_with fail
    go_ret
    exact ⟨rfl, HO.out⟩
  cases b2
  · go_wp2_with fail
    refine (I1.out _).mono ?_
    rintro e w1 ⟨rfl, rfl⟩
    go_wp2_with fail
    refine (I2.out _).mono ?_
    rintro e w1 ⟨rfl, rfl⟩
    go_wp2_with fail
    go_ret
    exact ⟨rfl, HO.out⟩
  cases b3
  · go_wp2_with fail
    refine (I1.out _).mono ?_
    rintro e w1 ⟨rfl, rfl⟩
    go_wp2_with fail
    refine (I2.out _).mono ?_
    rintro e w1 ⟨rfl, rfl⟩
    go_wp2_with fail
    refine (I3.out _).mono ?_
    rintro e w1 ⟨rfl, rfl⟩
    go_wp2_with fail
    go_ret
    exact ⟨rfl, HO.out⟩
  go_wp2_with fail
  refine (I1.out _).mono ?_
  rintro e w1 ⟨rfl, rfl⟩
  go_wp2_with fail
  refine (I2.out _).mono ?_
  rintro e w1 ⟨rfl, rfl⟩
  go_wp2_with fail
  refine (I3.out _).mono ?_
  rintro e w1 ⟨rfl, rfl⟩
  go_wp2_with fail
  refine (I4.out _).mono ?_
  rintro e w1 ⟨rfl, rfl⟩
  cases b4
  all_goals
    go_wp2_with fail
    go_ret
    exact ⟨rfl, HO.out⟩
/-- An envelope's block. -/
def envC (a d s r st lv : Int) : Array Value := #[.int .i64 a, .int .i64 d, .int .i64 s, .int .i64 r, .int .i64 st, .int .i64 lv]
def EB (w : World) (g : Nat) (a d s r st lv : Int) : Prop := w.heap[g]? = some (.cells (envC a d s r st lv) 41 (0, 0))
namespace EB
variable {w w' : World} {g : Nat} {a d s r st lv : Int}
theorem old (h : EB w g a d s r st lv) (k : Old w w') : EB w' g a d s r st lv := (k.block g (lt_of_block h)).trans h
theorem kept {X : Nat → Prop} (h : EB w g a d s r st lv) (k : Kept X w w') (hX : X g) : EB w' g a d s r st lv := (k.block g hX).trans h
theorem lt (h : EB w g a d s r st lv) : g < w.heap.size := lt_of_block h
theorem cells (h : EB w g a d s r st lv) : w.cell? ⟨g, 0, none⟩ = some (.int .i64 a) ∧ w.cell? ⟨g, 1, none⟩ = some (.int .i64 d) ∧ w.cell? ⟨g, 2, none⟩ = some (.int .i64 s) ∧ w.cell? ⟨g, 3, none⟩ = some (.int .i64 r) ∧ w.cell? ⟨g, 4, none⟩ = some (.int .i64 st) ∧ w.cell? ⟨g, 5, none⟩ = some (.int .i64 lv) ∧ w.frozen? ⟨g, 4, none⟩ = false ∧ w.frozen? ⟨g, 5, none⟩ = false := by
  unfold EB envC at h
  simp [World.cell?, World.frozen?, h]
theorem setLv (h : EB w g a d s r st lv) (x : Int) : EB (w.setCell ⟨g, 5, none⟩ (.int .i64 x)) g a d s r st x := (heap_setCell_at h).trans rfl
theorem setSt (h : EB w g a d s r st lv) (x : Int) : EB (w.setCell ⟨g, 4, none⟩ (.int .i64 x)) g a d s r x lv := (heap_setCell_at h).trans rfl
end EB
theorem env_set (w : World) (g o : Nat) (u : Value) : Kept (butOf w g) w (w.setCell ⟨g, o, none⟩ u) := Kept.setCell _ (a := ⟨g, o, none⟩) (fun h => h.2 rfl) _
theorem tmod_bdE (a b : Int) (h : 1 ≤ b) : -b < a.tmod b ∧ a.tmod b < b := by
  have h1 := Int.tmod_lt_of_pos a (show 0 < b by omega)
  have h2 := Int.tmod_lt_of_pos (-a) (show 0 < b by omega)
  rw [Int.neg_tmod] at h2
  omega
theorem cut_downE (a b : Int) (h : 1 ≤ b) : (a.tmod b < 0 ∧ a / b = a.tdiv b - 1) ∨ (0 ≤ a.tmod b ∧ a / b = a.tdiv b) := by
  have h0 := Int.tmod_add_mul_tdiv a b
  have h1 := tmod_bdE a b h
  by_cases c : a.tmod b < 0
  · have := (Int.ediv_emod_unique (a := a) (b := b) (r := a.tmod b + b) (q := a.tdiv b - 1) (by omega)).2 ⟨by rw [Int.mul_sub]; omega, by omega, by omega⟩
    exact .inl ⟨c, this.1⟩
  · have := (Int.ediv_emod_unique (a := a) (b := b) (r := a.tmod b) (q := a.tdiv b) (by omega)).2 ⟨by omega, by omega, by omega⟩
    exact .inr ⟨by omega, this.1⟩
theorem Floor_env (z n : Int) (w : World) (h0 : z ≤ 0) (h1 : -16777216 ≤ z) (hn : 1 ≤ n) (hn' : n ≤ 9223372036854775807) :
    Calls Try.prog 27 #[.int .i64 z, .int .i64 n] w fun e w' => e = .returned (.int .i64 (z / n)) ∧ w = w' := by
  obtain ⟨q1, q2⟩ := quot_neg h0 h1 hn
  have hc := cut_downE z n hn
  have t1 := tmod_bdE z n hn
  have hm := IntWalk.wrap64_in (z.tmod n) (by omega)
  have hd := IntWalk.wrap64_in (z.tdiv n) (by omega)
  rcases hc with ⟨c1, c2⟩ | ⟨c1, c2⟩
  · rw [c2] at q1 q2 ⊢
    clear c2
    go_enter Try.func27, Try.ntmps27
    go_wp2
    go_ret
    exact ⟨rfl, rfl⟩
  · rw [c2]
    clear c2
    go_enter Try.func27, Try.ntmps27
    go_wp2
    go_ret
    exact ⟨rfl, rfl⟩
theorem eSlope_any (o n t : Int) (w : World) (h0 : 0 ≤ o) (h1 : o ≤ 16777216) (hn' : n ≤ 9223372036854775807) :
    Calls Try.prog 25 #[.agg #[.int .i64 o, .int .i64 n, .int .i64 t]] w fun e w' => e = .returned (.int .i64 (slopeI o n)) ∧ Old w w' := by
  have HO := Lib.hid (Old.alloc w (.cells #[.int .i64 o, .int .i64 n, .int .i64 t] 46))
  by_cases hn : n < 1
  · have h : slopeI o n = o := if_pos hn
    rw [h]
    clear h
    go_enter Try.func25, Try.ntmps25
    go_wp2_with fail
    go_ret
    exact ⟨rfl, HO.out⟩
  · have h : slopeI o n = max 1 (-((-o) / n)) := if_neg hn
    rw [h]
    clear h
    have HF := Lib.hid (fun w => Floor_env (-o) n w (by omega) (by omega) (by omega) hn')
    obtain ⟨q1, q2⟩ := quot_neg (z := -o) (n := n) (by omega) (by omega) (by omega)
    generalize -o / n = q at *
    go_enter Try.func25, Try.ntmps25
    go_wp2_with fail
    refine (HF.out _).mono ?_
    rintro e w1 ⟨rfl, rfl⟩
    go_wp2
    all_goals (go_ret; exact ⟨ret_int (by omega), HO.out⟩)
end Go.Proofs.Ytgdlinfgcfjciaa

