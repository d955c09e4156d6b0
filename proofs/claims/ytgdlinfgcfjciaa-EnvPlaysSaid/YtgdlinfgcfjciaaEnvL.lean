/- What the laws of stage 22 call: right, slope, Plain.Next, awake. (by wip/s22/plainnext.py and wip/tools/exp.py) -/
import Derived.Test.YtgdlinfgcfjciaaEnvE
namespace Go.Proofs.Ytgdlinfgcfjciaa
set_option linter.unusedVariables false
set_option linter.unusedSimpArgs false
set_option maxRecDepth 100000
open Go.RowKit Go.ChangeShapes Go.WideShapes

set_option maxHeartbeats 4000000 in
theorem right22_any (a d s r : Int) (w : World) : Calls Try.prog 8 #[shV a d s r] w fun e w' => e = .returned (.bool (shB a d s r)) ∧ Old w w' := by
  have HO := Lib.hid (Old.alloc w (.cells #[.int .i64 a, .int .i64 d, .int .i64 s, .int .i64 r] 23))
  by_cases y0 : a < 0
  · have hB : shB a d s r = false := by
      by_cases h : shB a d s r = true
      · have := shB_yes h
        omega
      · simpa using h
    rw [hB]
    unfold shV
    clear hB
    go_enter Try.func8, Try.ntmps8
    go_wp2_with fail
    go_ret
    exact ⟨rfl, HO.out⟩
  have x0 : 0 ≤ a := by omega
  clear y0
  by_cases y1 : 1048576 < a
  · have hB : shB a d s r = false := by
      by_cases h : shB a d s r = true
      · have := shB_yes h
        omega
      · simpa using h
    rw [hB]
    unfold shV
    clear hB
    go_enter Try.func8, Try.ntmps8
    go_wp2_with fail
    go_ret
    exact ⟨rfl, HO.out⟩
  have x1 : a ≤ 1048576 := by omega
  clear y1
  by_cases y2 : d < 0
  · have hB : shB a d s r = false := by
      by_cases h : shB a d s r = true
      · have := shB_yes h
        omega
      · simpa using h
    rw [hB]
    unfold shV
    clear hB
    go_enter Try.func8, Try.ntmps8
    go_wp2_with fail
    go_ret
    exact ⟨rfl, HO.out⟩
  have x2 : 0 ≤ d := by omega
  clear y2
  by_cases y3 : 1048576 < d
  · have hB : shB a d s r = false := by
      by_cases h : shB a d s r = true
      · have := shB_yes h
        omega
      · simpa using h
    rw [hB]
    unfold shV
    clear hB
    go_enter Try.func8, Try.ntmps8
    go_wp2_with fail
    go_ret
    exact ⟨rfl, HO.out⟩
  have x3 : d ≤ 1048576 := by omega
  clear y3
  by_cases y4 : r < 0
  · have hB : shB a d s r = false := by
      by_cases h : shB a d s r = true
      · have := shB_yes h
        omega
      · simpa using h
    rw [hB]
    unfold shV
    clear hB
    go_enter Try.func8, Try.ntmps8
    go_wp2_with fail
    go_ret
    exact ⟨rfl, HO.out⟩
  have x4 : 0 ≤ r := by omega
  clear y4
  by_cases y5 : 1048576 < r
  · have hB : shB a d s r = false := by
      by_cases h : shB a d s r = true
      · have := shB_yes h
        omega
      · simpa using h
    rw [hB]
    unfold shV
    clear hB
    go_enter Try.func8, Try.ntmps8
    go_wp2_with fail
    go_ret
    exact ⟨rfl, HO.out⟩
  have x5 : r ≤ 1048576 := by omega
  clear y5
  by_cases y6 : s < 0
  · have hB : shB a d s r = false := by
      by_cases h : shB a d s r = true
      · have := shB_yes h
        omega
      · simpa using h
    rw [hB]
    unfold shV
    clear hB
    go_enter Try.func8, Try.ntmps8
    go_wp2_with fail
    go_ret
    exact ⟨rfl, HO.out⟩
  have x6 : 0 ≤ s := by omega
  clear y6
  by_cases y7 : 256 < s
  · have hB : shB a d s r = false := by
      by_cases h : shB a d s r = true
      · have := shB_yes h
        omega
      · simpa using h
    rw [hB]
    unfold shV
    clear hB
    have x8 : decide (s ≤ 256) = false := decide_eq_false (by omega)
    go_enter Try.func8, Try.ntmps8
    go_wp2_with fail
    go_ret
    exact ⟨rfl, HO.out⟩
  have x7 : s ≤ 256 := by omega
  clear y7
  have hB : shB a d s r = true := by unfold shB inB; simp only [Bool.and_eq_true, decide_eq_true_eq]; omega
  rw [hB]
  unfold shV
  clear hB
  go_enter Try.func8, Try.ntmps8
  go_wp2_with fail
  go_ret
  exact ⟨rfl, HO.out⟩
theorem slopeI_up {o n : Int} (h0 : 0 ≤ o) (h1 : o ≤ 16777216) (hn : 1 ≤ n) : 0 ≤ o / n ∧ o / n ≤ 16777216 ∧ o / n * n ≤ o ∧ 0 ≤ o / n * n ∧ slopeI o n = max 1 (if o / n * n < o then o / n + 1 else o / n) := by
  have q0 : 0 ≤ o / n := Int.ediv_nonneg h0 (by omega)
  have q1 : o / n ≤ o := Int.ediv_le_self _ h0
  have e := Int.mul_ediv_add_emod o n
  have m0 := Int.emod_nonneg o (show n ≠ 0 by omega)
  have m1 := Int.emod_lt_of_pos o (show 0 < n by omega)
  have ec : o / n * n = n * (o / n) := Int.mul_comm _ _
  have pz : 0 ≤ o / n * n := Int.mul_nonneg q0 (by omega)
  refine ⟨q0, by omega, by omega, pz, ?_⟩
  unfold slopeI
  rw [if_neg (by omega)]
  congr 1
  by_cases c : o % n = 0
  · rw [if_neg (by omega)]
    have := (Int.ediv_emod_unique (a := -o) (b := n) (r := 0) (q := -(o / n)) (by omega)).2 ⟨by rw [Int.mul_neg]; omega, by omega, by omega⟩
    omega
  · rw [if_pos (by omega)]
    have := (Int.ediv_emod_unique (a := -o) (b := n) (r := n - o % n) (q := -(o / n) - 1) (by omega)).2 ⟨by rw [Int.mul_sub, Int.mul_neg]; omega, by omega, by omega⟩
    omega
theorem slope22_any (o n : Int) (w : World) (h0 : 0 ≤ o) (h1 : o ≤ 16777216) (hn' : n ≤ 9223372036854775807) :
    Calls Try.prog 22 #[.int .i64 o, .int .i64 n] w fun e w' => e = .returned (.int .i64 (slopeI o n)) ∧ w = w' := by
  by_cases hn : n < 1
  · have h : slopeI o n = o := if_pos hn
    rw [h]
    clear h
    go_enter Try.func22, Try.ntmps22
    go_wp2_with fail
    go_ret
    exact ⟨rfl, rfl⟩
  · obtain ⟨q0, q1, q2, q3, e⟩ := slopeI_up h0 h1 (show 1 ≤ n by omega)
    rw [e]
    clear e
    have d1 : wrap64 (o.tdiv n) = o / n := by rw [Int.tdiv_eq_ediv_of_nonneg h0]; exact IntWalk.wrap64_in _ (by omega)
    have d2 : IntKind.i64.wrap (o.tdiv n) = o / n := by rw [Int.tdiv_eq_ediv_of_nonneg h0]; exact IntWalk.i64_in _ (by omega)
    generalize o / n = q at *
    obtain ⟨t, ht⟩ : ∃ t, q * n = t := ⟨_, rfl⟩
    have d3 : wrap64 (q * n) = t := by rw [ht]; exact IntWalk.wrap64_in _ (by omega)
    rw [ht] at q2 q3 ⊢
    clear ht
    by_cases c : t < o
    · rw [if_pos c]
      go_enter Try.func22, Try.ntmps22
      go_wp2
      all_goals (go_ret; exact ⟨ret_int (by omega), rfl⟩)
    · rw [if_neg c]
      by_cases c2 : q < 1
      · go_enter Try.func22, Try.ntmps22
        go_wp2
        all_goals (go_ret; exact ⟨ret_int (by omega), rfl⟩)
      · go_enter Try.func22, Try.ntmps22
        go_wp2
        all_goals (go_ret; exact ⟨ret_int (by omega), rfl⟩)
def PB (w : World) (g : Nat) (a d s r st lv : Int) : Prop := w.heap[g]? = some (.cells (envC a d s r st lv) 33 (0, 0))
namespace PB
variable {w w' : World} {g : Nat} {a d s r st lv : Int}
theorem old (h : PB w g a d s r st lv) (k : Old w w') : PB w' g a d s r st lv := (k.block g (lt_of_block h)).trans h
theorem kept {X : Nat → Prop} (h : PB w g a d s r st lv) (k : Kept X w w') (hX : X g) : PB w' g a d s r st lv := (k.block g hX).trans h
theorem lt (h : PB w g a d s r st lv) : g < w.heap.size := lt_of_block h
theorem cells (h : PB w g a d s r st lv) : w.cell? ⟨g, 0, none⟩ = some (.int .i64 a) ∧ w.cell? ⟨g, 1, none⟩ = some (.int .i64 d) ∧ w.cell? ⟨g, 2, none⟩ = some (.int .i64 s) ∧ w.cell? ⟨g, 3, none⟩ = some (.int .i64 r) ∧ w.cell? ⟨g, 4, none⟩ = some (.int .i64 st) ∧ w.cell? ⟨g, 5, none⟩ = some (.int .i64 lv) ∧ w.frozen? ⟨g, 4, none⟩ = false ∧ w.frozen? ⟨g, 5, none⟩ = false := by
  unfold PB envC at h
  simp [World.cell?, World.frozen?, h]
theorem setLv (h : PB w g a d s r st lv) (x : Int) : PB (w.setCell ⟨g, 5, none⟩ (.int .i64 x)) g a d s r st x := (heap_setCell_at h).trans rfl
theorem setSt (h : PB w g a d s r st lv) (x : Int) : PB (w.setCell ⟨g, 4, none⟩ (.int .i64 x)) g a d s r x lv := (heap_setCell_at h).trans rfl
theorem set2 (h : PB w g a d s r st lv) (x y : Int) : PB ((w.setCell ⟨g, 5, none⟩ (.int .i64 x)).setCell ⟨g, 4, none⟩ (.int .i64 y)) g a d s r y x ∧ Kept (butOf w g) w ((w.setCell ⟨g, 5, none⟩ (.int .i64 x)).setCell ⟨g, 4, none⟩ (.int .i64 y)) :=
  ⟨(h.setLv x).setSt y, (Kept.setCell _ (a := ⟨g, 5, none⟩) (fun h => h.2 rfl) _).trans (Kept.setCell _ (a := ⟨g, 4, none⟩) (fun h => h.2 rfl) _)⟩
end PB

end Go.Proofs.Ytgdlinfgcfjciaa

