/- VoiceNobody: a voice that nobody made, nil or empty, is silent, done, says ErrState and has no places, frames, losses or Meta, and none is made of a nil fetch (ErrArg); the example holds. No condition. -/
import Derived.Test.YtoicpkkcamejcaaGreatRows
import Derived.Test.YtoicpkkcamejcaaGreatVoiceN
namespace Go.Proofs.YtoicpkkcamejcaaGreat.voiceNobody
open Go.ChangeShapes Go.WideShapes Go.ChangeAt Go.RowKit
set_option linter.unusedVariables false
set_option linter.unusedSimpArgs false

theorem eql_stereo0 (w : World) : (binOp .eql 33 (.agg #[.int .i64 0, .int .i64 0]) (.agg #[.int .i64 0, .int .i64 0])).run Tryz.prog w = .ok (.bool true) w := by
  rw [run_eql_struct, run_equalIn_agg w 9999 33 _ _ (by kernel_rfl) (by kernel_rfl)]
  have h1 := fun (w : World) (a b : Int) => run_equalIn_int (P := Tryz.prog) w 9998 3 .i64 .i64 a b Tryz.underlying3
  have hfs : (Tryz.prog.fieldsOf 33).toList = [{ name := "L", type := 3, offset := 0, embedded := false, tag := "", pkgPath := "", byteOffset := 0 }, { name := "R", type := 3, offset := 1, embedded := false, tag := "", pkgPath := "", byteOffset := 8 }] := by kernel_rfl
  rw [hfs]
  simp [Op.eqFields, Go.part, isAgg, run_underlying Tryz.underlying3, h1, sizeOf]
theorem eql_meta0 (w : World) : (binOp .eql 24 (.agg #[.string ⟨#[]⟩, .int .i64 0, .int .i64 0, .int .i64 0, .bool false, .int .i64 0, .int .i64 0, .int .i64 0, .int .i64 0]) (.agg #[.string ⟨#[]⟩, .int .i64 0, .int .i64 0, .int .i64 0, .bool false, .int .i64 0, .int .i64 0, .int .i64 0, .int .i64 0])).run Tryz.prog w = .ok (.bool true) w := by
  rw [run_eql_struct, run_equalIn_agg w 9999 24 _ _ (by kernel_rfl) (by kernel_rfl)]
  have h1 := fun (w : World) (a b : Int) => run_equalIn_int (P := Tryz.prog) w 9998 3 .i64 .i64 a b Tryz.underlying3
  have h2 := fun (w : World) (a b : Bool) => run_equalIn_bool (P := Tryz.prog) w 9998 4 a b Tryz.underlying4
  have h3 := fun (w : World) (a b : ByteArray) => run_equalIn_string (P := Tryz.prog) w 9998 9 a b Tryz.underlying9
  have hfs : (Tryz.prog.fieldsOf 24).toList = [{ name := "Name", type := 9, offset := 0, embedded := false, tag := "", pkgPath := "", byteOffset := 0 }, { name := "Length", type := 3, offset := 1, embedded := false, tag := "", pkgPath := "", byteOffset := 16 }, { name := "Rate", type := 3, offset := 2, embedded := false, tag := "", pkgPath := "", byteOffset := 24 }, { name := "Channels", type := 3, offset := 3, embedded := false, tag := "", pkgPath := "", byteOffset := 32 }, { name := "Loop", type := 4, offset := 4, embedded := false, tag := "", pkgPath := "", byteOffset := 40 }, { name := "LoopStart", type := 3, offset := 5, embedded := false, tag := "", pkgPath := "", byteOffset := 48 }, { name := "LoopEnd", type := 3, offset := 6, embedded := false, tag := "", pkgPath := "", byteOffset := 56 }, { name := "Sums", type := 3, offset := 7, embedded := false, tag := "", pkgPath := "", byteOffset := 64 }, { name := "First", type := 3, offset := 8, embedded := false, tag := "", pkgPath := "", byteOffset := 72 }] := by kernel_rfl
  rw [hfs]
  simp [Op.eqFields, Go.part, isAgg, run_underlying Tryz.underlying3, run_underlying Tryz.underlying4, run_underlying Tryz.underlying9, h1, h2, h3, sizeOf]
set_option maxRecDepth 100000 in
set_option maxHeartbeats 4000000 in
theorem walk (i : Int) (w : World) : Calls Tryz.prog 3 #[.int .i64 i] w fun e w' => e = .returned (.bool true) ∧ Old w w' := by
  obtain ⟨b, hb⟩ : ∃ b, b = w.heap.size := ⟨_, rfl⟩
  obtain ⟨W, hW⟩ : ∃ W, W = w.alloc (.cells #[.string ⟨#[]⟩, .int .i64 0, .int .i64 0, .int .i64 0, .bool false, .int .i64 0, .int .i64 0, .int .i64 0, .int .i64 0, .slice none 0 0, .int .i64 0, .int .i64 0] 27) := ⟨_, rfl⟩
  have HO : Hid (Old w W) := Lib.hid (by rw [hW]; exact Old.alloc _ _)
  have hc : W.cell? ⟨b, 9, none⟩ = some (.slice none 0 0) := by
    rw [hW, hb]
    exact cell_of_row _ _ _ _ _ _ (heap_alloc_new _ _)
  have HN : Hid (∀ V, Old W V → NoV (.pointer (some ⟨b, 0, none⟩)) V) := Lib.hid fun V hV => NoV.old (.inr ⟨b, rfl, hc⟩) hV
  have hE := eql_stereo0
  have hM := eql_meta0
  have HW := Lib.hid hW
  have HB := Lib.hid hb
  clear hW hb hc
  go_enter Tryz.func3, Tryz.ntmps3
  go_wp2_with fail
  rw [← HW.out, ← HB.out]
  clear HW HB
  refine (VNew_no 0 W).mono ?_
  rintro e u ⟨rfl, hv⟩
  subst hv
  go_wp2_with fail
  refine (Done_no _ W (.inl rfl)).mono ?_
  rintro e u ⟨rfl, hv⟩
  subst hv
  go_wp2_with fail
  refine (Done_no _ W (HN.out W (Old.refl W))).mono ?_
  rintro e u ⟨rfl, hv⟩
  subst hv
  go_wp2_with fail
  refine (Next_no _ W (.inl rfl)).mono ?_
  rintro e w1 ⟨rfl, ho⟩
  have HO1 := Lib.hid ho
  clear ho
  go_wp2_with fail
  refine (Seek_no _ i w1 (HN.out w1 HO1.out)).mono ?_
  rintro e u ⟨rfl, hv⟩
  subst hv
  go_wp2_with fail
  refine (Tune_no _ 1 w1 (.inl rfl)).mono ?_
  rintro e u ⟨rfl, hv⟩
  subst hv
  go_wp2_with fail
  refine (Place_no _ w1 (HN.out w1 HO1.out)).mono ?_
  rintro e u ⟨rfl, hv⟩
  subst hv
  go_wp2_with fail
  refine (Pitch_no _ w1 (.inl rfl)).mono ?_
  rintro e u ⟨rfl, hv⟩
  subst hv
  go_wp2_with fail
  refine (VLost_no _ 0 w1 (HN.out w1 HO1.out)).mono ?_
  rintro e u ⟨rfl, hv⟩
  subst hv
  go_wp2_with fail
  refine (VFrames_no _ w1 (.inl rfl)).mono ?_
  rintro e u ⟨rfl, hv⟩
  subst hv
  go_wp2_with fail
  refine (VMeta_no _ w1 (.inl rfl)).mono ?_
  rintro e w2 ⟨rfl, ho⟩
  have HO2 := Lib.hid ((HO.out.trans HO1.out).trans ho)
  clear ho HO HO1 HN
  go_wp2_with fail
  refine (awake21_any w2).mono ?_
  rintro e w3 ⟨rfl, ho⟩
  have HO3 := Lib.hid (HO2.out.trans ho)
  clear ho HO2
  go_wp2_with fail
  go_ret
  exact ⟨rfl, HO3.out⟩


theorem own : ownKnob Tryz.prog.godebug = none := by kernel_rfl
theorem laidOut : laidOutB Tryz.prog = true := by kernel_rfl

set_option maxRecDepth 100000 in
theorem lifted (os : Os) (started : os.Started) (H : Type) (enc : TypeId × Value → H) :
    ReturnsInHanded {} Tryz.checked os 3 .any (Rows.voiceNobodySpec.pre6 enc Tryz.prog Tryz.f3 Rows.voiceNobodyRow.domain false) (Rows.voiceNobodySpec.post enc Tryz.prog Tryz.f3 false true false false) := by
  refine returnsInHanded_of_change (C := Tryz.checked) own started (by kernel_rfl) Tryz.func3
    (ChangeSpec.witness6 (enc := enc) (C := Tryz.checked) false ⟨#[], #[.int .i64 0], []⟩ 8 (by kernel_rfl) (by kernel_rfl) (by kernel_rfl) (by kernel_rfl)) ?_
  intro W base args ds gs before hval0 hW hcnd _
  have hval : ∀ (j : Nat) t v, Tryz.f3.params[j]? = some t → args[j]? = some v → Value.okWide Tryz.prog W .any base t v := hval0
  have hW' := hW
  have hlt : ∀ p ∈ before, p.block < W.heap.size := fun p hp => hW'.lt p hp
  obtain ⟨p, q, hA0, hV, rfl, hfz, hnd⟩ := hW
  have hA : DataW.TrodAll enc Tryz.prog W 0 (fun _ => true) true Tryz.f3.params.toList args.toList ds p := hA0
  rw [Tryz.params3] at hA hval
  obtain ⟨v0, vs0, d0, ds0, p0, q0, hargs, rfl, rfl, h0, r0⟩ := trodAll_cons hA
  obtain ⟨rfl, rfl, rfl⟩ := trodAll_nil r0
  obtain rfl : args = #[v0] := by cases args; simp_all
  obtain ⟨rfl, rfl⟩ := trodVars_none hV
  obtain ⟨a0, rfl, _, _, w0⟩ := open_int Tryz.underlying3 (hval 0 3 v0 rfl rfl) h0
  refine (walk a0 W).mono fun e W' ⟨he, hg⟩ => ?_
  subst he
  exact ⟨_, rfl, law_done laidOut Tryz.underlying4 rfl (by kernel_rfl) rfl hW' rfl hg⟩

theorem over : Rows.voiceNobodyRow.holds Tryz.pinned (OpenSpec.ofChange Rows.voiceNobodySpec) :=
  OpenClaim.holds_of_wide 3 Tryz.f3 rfl rfl rfl rfl rfl rfl rfl ⟨rfl, rfl, rfl, rfl, rfl⟩ rfl rfl rfl rfl rfl (by kernel_rfl) Tryz.func3 (by kernel_rfl)
    (of_decide_eq_true (by kernel_rfl)) (by unfold Func.isWrapper; first | (rw [if_pos (by decide +kernel)]; kernel_rfl) | (rw [if_neg (by decide +kernel)]; exact ⟨rfl, rfl⟩))
    (fun os started H enc _ => lifted os started H enc)

theorem proved : Rows.VoiceNobodySaid :=
  over
end Go.Proofs.YtoicpkkcamejcaaGreat.voiceNobody
