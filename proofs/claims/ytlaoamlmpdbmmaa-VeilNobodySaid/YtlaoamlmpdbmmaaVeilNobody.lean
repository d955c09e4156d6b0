/- VeilNobody: in a nil veil nothing stands for anything. -/
import Derived.Test.YtlaoamlmpdbmmaaRows
import Derived.Test.YtlaoamlmpdbmmaaAwk19
import Derived.Test.YtlaoamlmpdbmmaaFrArg
namespace Go.Proofs.Ytlaoamlmpdbmmaa.veilNobody
open Go.ChangeShapes Go.WideShapes Go.ChangeAt Go.RowKit
set_option linter.unusedVariables false
set_option linter.unusedSimpArgs false

set_option maxRecDepth 100000 in
set_option maxHeartbeats 4000000 in
theorem walk (F : Nat → Int) (p : Option Addr) (n c : Nat) (w : World) (hn : n ≤ c) (hc : c ≤ maxLen) :
    Calls Try.prog 5 #[.agg (rowN 29 (frC F (.slice p n c)))] w fun e w' => e = .returned (.bool true) ∧ Old w w' := by
  have Hs29 : Hid ((Try.prog.info? 33).map (·.size) = some 29) := Lib.hid (by kernel_rfl)
  have HA : Hid ((w.alloc (.cells (rowN 29 (frC F (.slice p n c))) 33)).heap[w.heap.size]? = some (.cells (rowN 29 (frC F (.slice p n c))) 33 (0, 0))) := Lib.hid (heap_alloc_new _ _)
  have HO : Hid (Old w (w.alloc (.cells (rowN 29 (frC F (.slice p n c))) 33))) := Lib.hid (Old.alloc _ _)
  have HFa := Lib.hid (fun w => Few_any F p n c w hn hc)
  have HG := Lib.hid (fun w => Good_nil F (.slice p (min n 5) c) rfl w)
  have HL := Lib.hid (fun w => Lose_nil w)
  have hE := fun w => eql_piece (fun _ => 0) (fun _ => 0) w
  rw [show eqB 20 (fun _ => 0) (fun _ => 0) = true from eqB_true.2 fun _ _ => rfl, row20_zero] at hE
  rw [row20_zero] at HG HL
  clear hn hc
  go_enter Try.func5, Try.ntmps5
  go_wp2_with fail
  refine (Clear_nil _).mono ?_
  rintro e w1 ⟨rfl, rfl⟩
  go_wp2_with (with_reducible refine wpList_load_row rfl 33 _ rfl w.heap.size rfl 33 (rowN 29 (frC F (.slice p n c))) (0, 0) _ HA.out Try.underlying33 rfl (by rw [rowN_size]; exact Hs29.out) ?_)
  refine (HFa.out _).mono ?_
  rintro e w1 ⟨rfl, o1⟩
  have HO1 := Lib.hid (HO.out.trans o1)
  clear o1 HA HO HFa
  go_wp2_with fail
  refine (HG.out _).mono ?_
  rintro e w2 ⟨rfl, o2⟩
  have HO2 := Lib.hid (HO1.out.trans o2)
  clear o2 HO1 HG
  go_wp2_with fail
  refine (HL.out _).mono ?_
  rintro e w3 ⟨rfl, o3⟩
  have HO3 := Lib.hid (HO2.out.trans o3)
  clear o3 HO2 HL
  go_wp2_with fail
  refine (Lost_nil _).mono ?_
  rintro e w4 ⟨rfl, rfl⟩
  go_wp2_with fail
  refine (awake_any _).mono ?_
  rintro e w5 ⟨rfl, o5⟩
  have HO5 := Lib.hid (HO3.out.trans o5)
  clear o5 HO3
  go_wp2_with fail
  go_ret
  exact ⟨rfl, HO5.out⟩


theorem own : ownKnob Try.prog.godebug = none := by kernel_rfl
theorem laidOut : laidOutB Try.prog = true := by kernel_rfl

set_option maxRecDepth 100000 in
theorem lifted (os : Os) (started : os.Started) (H : Type) (enc : TypeId × Value → H) :
    ReturnsInHanded {} Try.checked os 5 .any (Rows.veilNobodySpec.pre6 enc Try.prog Try.f5 Rows.veilNobodyRow.domain false) (Rows.veilNobodySpec.post enc Try.prog Try.f5 false true false false) := by
  refine returnsInHanded_of_change (C := Try.checked) own started (by kernel_rfl) Try.func5
    (ChangeSpec.witness6 (enc := enc) (C := Try.checked) false ⟨#[], #[.agg #[.int .i64 0, .int .i64 0, .int .i64 0, .int .i64 0, .slice none 0 0, .int .i64 0, .int .i64 0, .int .i64 0, .int .i64 0, .int .i64 0, .int .i64 0, .int .i64 0, .int .i64 0, .int .i64 0, .int .i64 0, .int .i64 0, .int .i64 0, .int .i64 0, .int .i64 0, .int .i64 0, .int .i64 0, .int .i64 0, .int .i64 0, .int .i64 0, .int .i64 0, .int .i64 0, .int .i64 0, .int .i64 0, .int .i64 0]], []⟩ 8 (by kernel_rfl) (by kernel_rfl) (by kernel_rfl) (by kernel_rfl)) ?_
  intro W base args ds gs before hval0 hW hcnd _
  have hval : ∀ (j : Nat) t v, Try.f5.params[j]? = some t → args[j]? = some v → Value.okWide Try.prog W .any base t v := hval0
  have hW' := hW
  have hlt : ∀ p ∈ before, p.block < W.heap.size := fun p hp => hW'.lt p hp
  obtain ⟨p, q, hA0, hV, rfl, hfz, hnd⟩ := hW
  have hA : DataW.TrodAll enc Try.prog W 0 (fun _ => true) true Try.f5.params.toList args.toList ds p := hA0
  rw [Try.params5] at hA hval
  obtain ⟨v0, vs0, d0, ds0, p0, q0, hargs, rfl, rfl, h0, r0⟩ := trodAll_cons hA
  obtain ⟨rfl, rfl, rfl⟩ := trodAll_nil r0
  obtain rfl : args = #[v0] := by cases args; simp_all
  obtain ⟨rfl, rfl⟩ := trodVars_none hV
  obtain ⟨F0, q0_, n0, c0, T0, rfl, fn0, fc0, fT0, fF0⟩ := open_frame (hval 0 33 v0 rfl rfl) h0 (fun x hx => hlt x (by simp [hx]))
  refine (walk F0 q0_ n0 c0 W fn0 fc0).mono fun e W' ⟨he, hg⟩ => ?_
  subst he
  exact ⟨_, rfl, law_done laidOut Try.underlying4 rfl (by kernel_rfl) rfl hW' rfl hg⟩

theorem over : Rows.veilNobodyRow.holds Try.pinned (OpenSpec.ofChange Rows.veilNobodySpec) :=
  OpenClaim.holds_of_wide 5 Try.f5 rfl rfl rfl rfl rfl rfl rfl ⟨rfl, rfl, rfl, rfl, rfl⟩ rfl rfl rfl rfl rfl (by kernel_rfl) Try.func5 (by kernel_rfl)
    (of_decide_eq_true (by kernel_rfl)) (by unfold Func.isWrapper; first | (rw [if_pos (by decide +kernel)]; kernel_rfl) | (rw [if_neg (by decide +kernel)]; exact ⟨rfl, rfl⟩))
    (fun os started H enc _ => lifted os started H enc)

theorem proved : Rows.VeilNobodySaid :=
  over
end Go.Proofs.Ytlaoamlmpdbmmaa.veilNobody
