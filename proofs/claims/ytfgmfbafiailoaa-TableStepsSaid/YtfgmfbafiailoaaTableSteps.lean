/- TableSteps: for every number table.Step tells 2 to its power, 0 of others than 0 to 23, and table.Steps has it at its place (4.1), and the chapter's example holds. No condition. -/
import Derived.Test.YtfgmfbafiailoaaRows
import Derived.Test.YtfgmfbafiailoaaSteps
namespace Go.Proofs.Ytfgmfbafiailoaa.tableSteps
open Go.ChangeShapes Go.WideShapes Go.ChangeAt Go.RowKit
set_option linter.unusedVariables false

theorem cell_new (w : World) (n : Nat) (t : TypeId) (f : Nat → Value) (k : Nat) (h : k < n) : (w.alloc (.cells (rowN n f) t)).cell? ⟨w.heap.size, k, none⟩ = some (f k) :=
  (cell_of_row _ _ _ _ _ _ (heap_alloc_new _ _)).trans (rowN_at n f k h)
set_option maxRecDepth 100000 in
theorem walk (s : Int) (w : World) :
    Calls Try.prog 4 #[.int .i64 s] w fun e w' => e = .returned (.bool true) ∧ Old w w' := by
  by_cases h : s < 0 ∨ 23 < s
  · have hS := Lib.hid (Step_no s w h)
    have hA := Lib.hid (awake_any w)
    rcases h with h | h
    · go_enter Try.func4, Try.ntmps4
      go_wp2_with fail
      refine hS.out.mono ?_
      rintro e w' ⟨rfl, rfl⟩
      go_wp2_with fail
      refine hA.out.mono ?_
      rintro e w' ⟨rfl, ho⟩
      have HO := Lib.hid ho
      clear ho
      go_wp2
      go_ret
      exact ⟨rfl, HO.out⟩
    · have h0 : 0 ≤ s := by omega
      go_enter Try.func4, Try.ntmps4
      go_wp2_with fail
      refine hS.out.mono ?_
      rintro e w' ⟨rfl, rfl⟩
      go_wp2_with fail
      refine hA.out.mono ?_
      rintro e w' ⟨rfl, ho⟩
      have HO := Lib.hid ho
      clear ho
      go_wp2
      go_ret
      exact ⟨rfl, HO.out⟩
  · obtain ⟨k, rfl⟩ : ∃ k : Nat, s = k := ⟨s.toNat, by omega⟩
    have hk : k ≤ 23 := by omega
    have i1 : 0 ≤ (k : Int) := by omega
    have i2 : (k : Int) ≤ 23 := by omega
    have i3 : (k : Int) < 24 := by omega
    have hS := Lib.hid (fun w => Step_yes k w hk)
    clear h
    go_enter Try.func4, Try.ntmps4
    go_wp2
    go_loop [3, 4] (fun v i => ∃ j : Nat, j ≤ k ∧ i = .int .i64 j ∧ v = .int .i64 (pw j)) (fun _ i => k - (intOf i).toNat)
    case atStart => exact ⟨0, by omega, rfl, rfl⟩
    case round =>
      obtain ⟨j, hj, rfl, rfl⟩ := hrel
      by_cases hlt : j < k
      · have hlt' : (j : Int) < k := by omega
        have p1 := pw_pos j
        have p2 := pw_le j (by omega)
        have p3 := pw_mono j 22 (by omega)
        have p4 : pw 22 = 4194304 := rfl
        have p5 := Lib.hid (pw_succ j)
        rw [p4] at p3
        clear p2 p4
        generalize pw j = p at *
        go_wp2
        go_round
        case rel => exact ⟨j + 1, by omega, by go_num, by rw [p5.out]⟩
        case measure => simp [intOf]; omega
      · obtain rfl : j = k := by omega
        go_wp2_with fail
        refine (Steps_any _).mono ?_
        rintro e w1 ⟨rfl, ho1⟩
        have hblk := heap_alloc_new w1 (.cells (rowN 24 (stepF 24)) 30)
        have HO : Hid (Old w (w1.alloc (.cells (rowN 24 (stepF 24)) 30))) := ho1.alloc' _
        have hcell := cell_new w1 24 30 (stepF 24) j (by omega)
        have e1 : stepF 24 j = .int .i64 (pw j) := by unfold stepF; rw [if_pos (by omega)]
        rw [e1] at hcell
        have HC := Lib.hid hcell
        have p1 := pw_pos j
        have p2 := pw_le j (by omega)
        clear ho1 hblk hcell e1
        generalize pw j = p at *
        have hA := Lib.hid (awake_any (w1.alloc (.cells (rowN 24 (stepF 24)) 30)))
        have Hz : Hid ((Try.prog.info? 30).map (·.size) = some 24) := Lib.hid (by kernel_rfl)
        have H1 : Hid ((rowN 24 (stepF 24)).all (·.oneCell') = true) := Lib.hid (rowN_one _ _ fun _ _ => rfl)
        go_wp2_with (with_reducible refine wpList_store_row rfl 30 _ _ rfl w1.heap.size (rowN 24 (stepF 24)) rfl rfl 30 _ (heap_alloc_new _ _) (by rw [rowN_size]; exact Hz.out) (by rw [rowN_size]; kernel_rfl) H1.out ?_; rw [World.setRow_alloc_new])
        have hcell := HC.out
        generalize w1.alloc (.cells (rowN 24 (stepF 24)) 30) = w2 at *
        go_wp2_with fail
        refine (hS.out _).mono ?_
        rintro e w' ⟨rfl, rfl⟩
        go_wp2_with fail
        refine hA.out.mono ?_
        rintro e w3 ⟨rfl, ho3⟩
        have H3 := Lib.hid ho3
        clear ho3
        go_wp2
        go_ret
        exact ⟨rfl, HO.out.trans H3.out⟩

theorem own : ownKnob Try.prog.godebug = none := by kernel_rfl
theorem laidOut : laidOutB Try.prog = true := by kernel_rfl

set_option maxRecDepth 100000 in
theorem lifted (os : Os) (started : os.Started) (H : Type) (enc : TypeId × Value → H) :
    ReturnsInHanded {} Try.checked os 4 .any (Rows.tableStepsSpec.pre6 enc Try.prog Try.f4 Rows.tableStepsRow.domain false) (Rows.tableStepsSpec.post enc Try.prog Try.f4 false true false false) := by
  refine returnsInHanded_of_change (C := Try.checked) own started (by kernel_rfl) Try.func4
    (ChangeSpec.witness6 (enc := enc) (C := Try.checked) false ⟨#[], #[.int .i64 0], []⟩ 8 (by kernel_rfl) (by kernel_rfl) (by kernel_rfl) (by kernel_rfl)) ?_
  intro W base args ds gs before hval0 hW hcnd _
  have hval : ∀ (j : Nat) t v, Try.f4.params[j]? = some t → args[j]? = some v → Value.okWide Try.prog W .any base t v := hval0
  have hW' := hW
  have hlt : ∀ p ∈ before, p.block < W.heap.size := fun p hp => hW'.lt p hp
  obtain ⟨p, q, hA0, hV, rfl, hfz, hnd⟩ := hW
  have hA : DataW.TrodAll enc Try.prog W 0 (fun _ => true) true Try.f4.params.toList args.toList ds p := hA0
  rw [Try.params4] at hA hval
  obtain ⟨v0, vs0, d0, ds0, p0, q0, hargs, rfl, rfl, h0, r0⟩ := trodAll_cons hA
  obtain ⟨rfl, rfl, rfl⟩ := trodAll_nil r0
  obtain rfl : args = #[v0] := by cases args; simp_all
  obtain ⟨rfl, rfl⟩ := trodVars_none hV
  obtain ⟨a0, rfl, _, _, w0⟩ := open_int Try.underlying3 (hval 0 3 v0 rfl rfl) h0
  refine (walk a0 W).mono fun e W' ⟨he, hg⟩ => ?_
  subst he
  exact ⟨_, rfl, law_done laidOut Try.underlying4 rfl (by kernel_rfl) rfl hW' rfl hg⟩

theorem over : Rows.tableStepsRow.holds Try.pinned (OpenSpec.ofChange Rows.tableStepsSpec) :=
  OpenClaim.holds_of_wide 4 Try.f4 rfl rfl rfl rfl rfl rfl rfl ⟨rfl, rfl, rfl, rfl, rfl⟩ rfl rfl rfl rfl rfl (by kernel_rfl) Try.func4 (by kernel_rfl)
    (of_decide_eq_true (by kernel_rfl)) (by unfold Func.isWrapper; first | (rw [if_pos (by decide +kernel)]; kernel_rfl) | (rw [if_neg (by decide +kernel)]; exact ⟨rfl, rfl⟩))
    (fun os started H enc _ => lifted os started H enc)

theorem proved : Rows.TableStepsSaid :=
  over
end Go.Proofs.Ytfgmfbafiailoaa.tableSteps
