/- WaveMetas: what a directory may say of a sample. -/
import Derived.Test.YtmdninfmidmmhaaRows
import Derived.Test.YtmdninfmidmmhaaAwake
import Derived.Test.YtmdninfmidmmhaaMetaArg
namespace Go.Proofs.Ytmdninfmidmmhaa.waveMetas
open Go.ChangeShapes Go.WideShapes Go.ChangeAt Go.RowKit
set_option linter.unusedVariables false
set_option linter.unusedSimpArgs false

theorem okB_eq (s : ByteArray) (n r c : Int) (lp : Bool) (a b : Int) : (nameB s && decide (1 ≤ n) && decide (n ≤ 1048576) && decide (1 ≤ r) && decide (r ≤ 192000) && (c == 1 || c == 2) && decide (loopP lp a b n)) = (wrongI s n r c lp a b == 0) := by
  rw [Bool.eq_iff_iff]
  unfold wrongI
  cases nameB s
  · simp
  · simp only [Bool.true_and, Bool.and_eq_true, Bool.or_eq_true, decide_eq_true_eq, beq_iff_eq]
    rw [if_neg (by simp)]
    by_cases h1 : r < 1 ∨ 192000 < r
    · rw [if_pos h1]; omega
    rw [if_neg h1]
    by_cases h2 : (c < 1 ∨ 2 < c) ∨ n < 1 ∨ 1048576 < n
    · rw [if_pos h2]; omega
    rw [if_neg h2]
    by_cases h3 : loopP lp a b n
    · rw [if_pos h3]; exact ⟨fun _ => rfl, fun _ => ⟨by omega, h3⟩⟩
    · rw [if_neg h3]; exact ⟨fun h => absurd h.2 h3, fun h => by omega⟩
set_option maxRecDepth 100000 in
set_option maxHeartbeats 8000000 in
theorem walk (s : ByteArray) (n r c : Int) (lp : Bool) (a b x y : Int) (w : World) (hs : s.size ≤ 9223372036854775807) :
    Calls Try.prog 4 #[metaV s n r c lp a b x y] w fun e w' => e = .returned (.bool true) ∧ Old w w' := by
  have HN := Lib.hid (fun w => lawName_any s w hs)
  have HL := Lib.hid (fun w => lawLoop_any lp a b n w)
  have HR := Lib.hid (fun w => RightMeta_any s n r c lp a b x y w hs)
  have HA := Lib.hid (fun w => awake_any w)
  have HE := Lib.hid (okB_eq s n r c lp a b)
  unfold metaV at *
  generalize (wrongI s n r c lp a b == 0) = v at *
  generalize decide (loopP lp a b n) = l at *
  generalize nameB s = q at *
  clear hs
  obtain ⟨W, hW⟩ : ∃ W, W = w.alloc (.cells #[.string s, .int .i64 n, .int .i64 r, .int .i64 c, .bool lp, .int .i64 a, .int .i64 b, .int .i64 x, .int .i64 y] 29) := ⟨_, rfl⟩
  obtain ⟨g, hg⟩ : ∃ g, g = w.heap.size := ⟨_, rfl⟩
  have hM := MetaB.new w s n r c lp a b x y
  have hO := Old.alloc w (.cells #[.string s, .int .i64 n, .int .i64 r, .int .i64 c, .bool lp, .int .i64 a, .int .i64 b, .int .i64 x, .int .i64 y] 29)
  rw [← hW, ← hg] at hM
  rw [← hW] at hO
  have HO := Lib.hid hO
  have HW := Lib.hid hW
  have HG := Lib.hid hg
  clear hO hW hg
  go_enter Try.func4, Try.ntmps4
  go_wp2_with fail
  rw [← HW.out, ← HG.out]
  obtain ⟨c0, c1, c2, c3, c4, c5, c6, c7, c8⟩ := hM.cells
  clear HW HG hM
  refine (HN.out _).mono ?_
  rintro e w1 ⟨rfl, rfl⟩
  go_wp2_with fail
  all_goals try (with_reducible refine (HL.out _).mono ?_; rintro e w1 ⟨rfl, rfl⟩; go_wp2_with fail)
  all_goals
    first
      | (have hv : v = false := by
           rw [← HE.out, Bool.eq_false_iff]
           intro hh
           simp only [Bool.and_eq_true, Bool.or_eq_true, decide_eq_true_eq, beq_iff_eq, Bool.false_eq_true, false_and] at hh
           obtain ⟨⟨⟨⟨⟨⟨g1, g2⟩, g3⟩, g4⟩, g5⟩, g6⟩, g7⟩ := hh
           first | (exact absurd g1 (by assumption)) | omega
         have HR2 := Lib.hid HR.out
         rw [hv] at HR2
         clear HE HR hv
         refine (HR2.out _).mono ?_
         rintro e w2 ⟨rfl, ho⟩
         have HO2 := Lib.hid (HO.out.trans ho)
         clear ho HO HR2
         go_wp2_with fail
         refine (HA.out _).mono ?_
         rintro e w3 ⟨rfl, ho⟩
         have HO3 := Lib.hid (HO2.out.trans ho)
         clear ho HO2
         go_wp2_with fail
         go_ret
         exact ⟨rfl, HO3.out⟩)
      | (have hv : v = l := by
           have b1 : decide (1 ≤ n) = true := decide_eq_true (by omega)
           have b2 : decide (n ≤ 1048576) = true := decide_eq_true (by omega)
           have b3 : decide (1 ≤ r) = true := decide_eq_true (by omega)
           have b4 : decide (r ≤ 192000) = true := decide_eq_true (by omega)
           have b5 : (c == 1 || c == 2) = true := by rw [Bool.or_eq_true, beq_iff_eq, beq_iff_eq]; omega
           have b6 : q = true := by assumption
           rw [← HE.out, b1, b2, b3, b4, b5, b6]
           cases l <;> rfl
         have HR2 := Lib.hid HR.out
         rw [hv] at HR2
         try first | rw [show c = 1 by omega] at HR2 | rw [show c = 2 by omega] at HR2
         clear HE HR hv
         refine (HR2.out _).mono ?_
         rintro e w2 ⟨rfl, ho⟩
         have HO2 := Lib.hid (HO.out.trans ho)
         clear ho HO HR2
         have hbb : (l == l) = true := by cases l <;> rfl
         go_wp2_with fail
         refine (HA.out _).mono ?_
         rintro e w3 ⟨rfl, ho⟩
         have HO3 := Lib.hid (HO2.out.trans ho)
         clear ho HO2
         go_wp2_with fail
         go_ret
         exact ⟨rfl, HO3.out⟩)


theorem own : ownKnob Try.prog.godebug = none := by kernel_rfl
theorem laidOut : laidOutB Try.prog = true := by kernel_rfl

set_option maxRecDepth 100000 in
theorem lifted (os : Os) (started : os.Started) (H : Type) (enc : TypeId × Value → H) :
    ReturnsInHanded {} Try.checked os 4 .any (Rows.waveMetasSpec.pre6 enc Try.prog Try.f4 Rows.waveMetasRow.domain false) (Rows.waveMetasSpec.post enc Try.prog Try.f4 false true false false) := by
  refine returnsInHanded_of_change (C := Try.checked) own started (by kernel_rfl) Try.func4
    (ChangeSpec.witness6 (enc := enc) (C := Try.checked) false ⟨#[], #[.agg #[.string ⟨#[]⟩, .int .i64 0, .int .i64 0, .int .i64 0, .bool false, .int .i64 0, .int .i64 0, .int .i64 0, .int .i64 0]], []⟩ 8 (by kernel_rfl) (by kernel_rfl) (by kernel_rfl) (by kernel_rfl)) ?_
  intro W base args ds gs before hval0 hW hcnd _
  have hval : ∀ (j : Nat) t v, Try.f4.params[j]? = some t → args[j]? = some v → Value.okWide Try.prog W .any base t v := hval0
  have hW' := hW
  have hlt : ∀ p ∈ before, p.block < W.heap.size := fun p hp => hW'.lt p hp
  obtain ⟨p, q, hA0, hV, rfl, hfz, hnd⟩ := hW
  have hA : DataW.TrodAll enc Try.prog W 0 (fun _ => true) true Try.f4.params.toList args.toList ds p := hA0
  rw [Try.params4] at hA hval
  obtain ⟨v0, vs0, d0, ds0, p0, q0, hargs, rfl, rfl, h0, r0⟩ := trodAll_cons hA
  obtain ⟨rfl, rfl, rfl⟩ := trodAll_nil r0
  obtain rfl : args = #[v0] := by cases args; simp_all
  obtain ⟨rfl, rfl⟩ := trodVars_none hV
  obtain ⟨ms0, mn0, mr0, mc0, ml0, ma0, mb0, mx0, my0, rfl, mw0, mf0⟩ := open_meta (hval 0 29 v0 rfl rfl) h0
  refine (walk ms0 mn0 mr0 mc0 ml0 ma0 mb0 mx0 my0 W mw0).mono fun e W' ⟨he, hg⟩ => ?_
  subst he
  exact ⟨_, rfl, law_done laidOut Try.underlying4 rfl (by kernel_rfl) rfl hW' rfl hg⟩

theorem over : Rows.waveMetasRow.holds Try.pinned (OpenSpec.ofChange Rows.waveMetasSpec) :=
  OpenClaim.holds_of_wide 4 Try.f4 rfl rfl rfl rfl rfl rfl rfl ⟨rfl, rfl, rfl, rfl, rfl⟩ rfl rfl rfl rfl rfl (by kernel_rfl) Try.func4 (by kernel_rfl)
    (of_decide_eq_true (by kernel_rfl)) (by unfold Func.isWrapper; first | (rw [if_pos (by decide +kernel)]; kernel_rfl) | (rw [if_neg (by decide +kernel)]; exact ⟨rfl, rfl⟩))
    (fun os started H enc _ => lifted os started H enc)

theorem proved : Rows.WaveMetasSaid :=
  over
end Go.Proofs.Ytmdninfmidmmhaa.waveMetas
