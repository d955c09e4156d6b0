/- CursorClean. -/
import Derived.Test.YticpdokbiblpoaaGreatDoorRows
import Derived.Test.YticpdokbiblpoaaGreatDoorCards
import Derived.Test.YticpdokbiblpoaaGreatDoorTie
import Derived.LaidMore
import Derived.Lay
import Derived.SevenTiedAt
import Derived.Stop.Joined
import Derived.Test.YticpdokbiblpoaaGreatDoorPkBB
import Derived.Test.YticpdokbiblpoaaGreatDoorPkBI
import Derived.Test.YticpdokbiblpoaaGreatDoorTk
namespace Go.Proofs.YticpdokbiblpoaaGreatDoor.cursorClean
open Go.ChangeShapes Go.WideShapes Go.ChangeAt Go.WideMaps Go.WideElems Go.RowKit
set_option linter.unusedVariables false
theorem own : ownKnob Tryz.prog.godebug = none := by kernel_rfl
theorem aFp : laidOutB Tryz.prog = true := by kernel_rfl
def WK : List (String × DataW Unit) := [("unicode/utf8.acceptRanges", Rows.laid_unicode_utf8_acceptRanges), ("unicode/utf8.first", Rows.laid_unicode_utf8_first)]
set_option maxHeartbeats 4000000 in

set_option maxRecDepth 100000 in
theorem aHr (os : Os) (started : os.Started) (H : Type) (enc : TypeId × Value → H) :
    ReturnsInHanded {} Tryz.checked os 3 .any (fun w args => (Rows.cursorCleanSpec.pre enc Tryz.prog Tryz.f3 [] false w args ∧ laidMetH Tryz.prog WK w) ∧ sizedMet enc Tryz.prog Tryz.f3 (OpenSpec.ofChange Rows.cursorCleanSpec) false w args) (Rows.cursorCleanSpec.post enc Tryz.prog Tryz.f3 false true false false) := by
  refine returnsInHanded_of_change_and (C := Tryz.checked) (X := fun w _ => laidMetH Tryz.prog WK w) (fun _ _ _ hh h => h.of_heap hh) own started zK Tryz.func3
    (ChangeSpec.witness_shaped (enc := enc) (C := Tryz.checked) (os := os) (X := fun w _ => laidMetH Tryz.prog WK w) false (World.laidAll Tryz.prog os WK) #[.int .i64 0, .slice none 0 0, .int .i64 0, .int .i64 0, .slice none 0 0] 8 (World.laidAll_os _ _ _)
      (World.shaped_of_ZipB zK zK) zK zK zK
      (by rw [MakeChecks.laidMetH_plain _ _ _ zK]; exact laidMet_laidAll _ zK zK)) ?_
  intro W base args ds gs before hval0 hW _ _ _ _
  have hval : ∀ (j : Nat) t v, Tryz.f3.params[j]? = some t → args[j]? = some v → Value.okWide Tryz.prog W .any base t v := hval0
  have hW' := hW
  have hlt : ∀ p ∈ before, p.block < W.heap.size := fun p hp => hW'.lt p hp
  obtain ⟨p, q, hA0, hV, rfl, hfz, hnd⟩ := hW
  have hA : DataW.TrodAll enc Tryz.prog W 0 (fun _ => true) true Tryz.f3.params.toList args.toList ds p := hA0
  rw [Tryz.params3] at hA hval
  obtain ⟨v0, vs0, d0, ds0, p0, q0, hargs, rfl, rfl, h0, r0⟩ := trodAll_cons hA
  obtain ⟨v1, vs1, d1, ds1, p1, q1, rfl, rfl, rfl, h1, r1⟩ := trodAll_cons r0
  obtain ⟨v2, vs2, d2, ds2, p2, q2, rfl, rfl, rfl, h2, r2⟩ := trodAll_cons r1
  obtain ⟨v3, vs3, d3, ds3, p3, q3, rfl, rfl, rfl, h3, r3⟩ := trodAll_cons r2
  obtain ⟨v4, vs4, d4, ds4, p4, q4, rfl, rfl, rfl, h4, r4⟩ := trodAll_cons r3
  obtain ⟨rfl, rfl, rfl⟩ := trodAll_nil r4
  obtain rfl : args = #[v0, v1, v2, v3, v4] := by cases args; simp_all
  obtain ⟨rfl, rfl⟩ := trodVars_none hV
  obtain ⟨a0, rfl, _, _, w0⟩ := open_int Tryz.underlying3 (hval 0 3 v0 rfl rfl) h0
  obtain ⟨q1, n1, c1, L1, rfl, sn1, sc1, ss1⟩ := IR (hval 1 22 v1 rfl rfl) h1 (fun x hx => hlt x (by simp [hx]))
  obtain ⟨a2, rfl, _, _, w2⟩ := open_int Tryz.underlying3 (hval 2 3 v2 rfl rfl) h2
  obtain ⟨a3, rfl, _, _, w3⟩ := open_int Tryz.underlying3 (hval 3 3 v3 rfl rfl) h3
  obtain ⟨s4, n4, c4, xs4, rfl, hs4, hn4, hc4, hw4⟩ := aBW Tryz.underlying23 Tryz.underlying3 zK (hval 4 23 v4 rfl rfl) h4 (fun x hx => hlt x (by simp [hx]))
  refine (YR a0 q1 n1 c1 L1 a2 a3 s4 n4 c4 xs4 W ss1 hs4).mono fun e W' ⟨he, hg⟩ => ?_
  subst he
  exact ⟨_, rfl, aDe aFp Tryz.underlying4 rfl zK rfl hW' rfl hg⟩

set_option maxHeartbeats 4000000 in
theorem aIs : Rows.cursorCleanRow.holds Tryz.pinned (OpenSpec.ofChange Rows.cursorCleanSpec) :=
  OpenClaim.holds_of_wide 3 Tryz.f3 rfl rfl rfl rfl rfl rfl rfl ⟨rfl, rfl, rfl, rfl, rfl⟩ rfl rfl rfl rfl rfl (by as_aux_lemma => kernel_rfl) Tryz.func3 (by as_aux_lemma => kernel_rfl)
    (of_decide_eq_true (by as_aux_lemma => kernel_rfl)) (by unfold Func.isWrapper; first | (rw [if_pos (by decide +kernel)]; kernel_rfl) | (rw [if_neg (by decide +kernel)]; exact ⟨rfl, rfl⟩))
    (fun os started H enc _ => aHr os started H enc)

theorem proved : Rows.CursorCleanCardSaid :=
  Claim7.holds_tied_plain_at .later [] [.data, .pinned] true _ false
    aIs (fun _ h => by cases h) zK (fun _ h => by cases h) cursorClean_row_tie rfl ⟨rfl, rfl⟩ zK rfl
    (fun f fn hf hfn => by
      obtain rfl : f = 3 := Option.some.inj ((show Tryz.prog.funcNamed "calliope/calliopelaw20.CursorClean" = some 3 by kernel_rfl).symm.trans hf) |>.symm
      obtain rfl : fn = Tryz.f3 := (Option.some.inj (Tryz.func3.symm.trans hfn)).symm
      exact ⟨zK, fun j t ht => by
        rw [Tryz.params3] at ht
        have hm : t ∈ [3, 22, 3, 3, 23] := by
          have := Array.mem_of_getElem? ht
          simpa using this
        have hall : ([3, 22, 3, 3, 23].all fun u => !Tryz.prog.wantsStandIn u) = true := by kernel_rfl
        exact (show Tryz.prog.wantsStandIn t = false by simpa using List.all_eq_true.1 hall t hm)⟩)
    zK
end Go.Proofs.YticpdokbiblpoaaGreatDoor.cursorClean


