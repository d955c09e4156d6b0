/- BankNobody. (by wip/tools/exp.py of XBankNobody.src) -/
import Derived.Test.YtmebckmakfbplaaGreatDoorRows
import Derived.Test.YtmebckmakfbplaaGreatDoorCards
import Derived.Test.YtmebckmakfbplaaGreatDoorTie
import Derived.LaidMore
import Derived.Lay
import Derived.SevenTiedAt
import Derived.Stop.Joined
import Derived.Test.YtmebckmakfbplaaGreatDoorPkAZ
namespace Go.Proofs.YtmebckmakfbplaaGreatDoor
set_option linter.unusedVariables false
set_option linter.unusedSimpArgs false
set_option maxRecDepth 100000
open Go.RowKit Go.ChangeShapes Go.WideShapes

set_option maxHeartbeats 4000000 in
theorem nobody_any (s : ByteArray) (i : Int) (w : World) : Calls Tryz.prog 8 #[.string s, .int .i64 i] w fun e w' => e = .returned (.bool true) ∧ Old w w' := by
  obtain ⟨b, hb⟩ : ∃ b, b = w.heap.size := ⟨_, rfl⟩
  obtain ⟨W, hW⟩ : ∃ W, W = w.alloc (.cells #[.int .i64 0, .slice none 0 0, .slice none 0 0] 79) := ⟨_, rfl⟩
  have HO := Lib.hid (show Old w W by rw [hW]; exact Old.alloc _ _)
  have HN : Hid (∀ V, Old w V → NoBk V (.pointer none)) := Lib.hid fun V _ => .inl rfl
  have hZ0 : NoBk W (.pointer (some ⟨b, 0, none⟩)) := .inr ⟨b, rfl, by rw [hW, hb]; exact (cell_of_row _ _ _ _ _ _ (heap_alloc_new _ _)).trans rfl, by rw [hW, hb]; simp⟩
  have HZ := Lib.hid (fun V (hV : Old W V) => hZ0.old hV)
  have HW := Lib.hid hW
  have HB := Lib.hid hb
  clear hb hW hZ0
  go_enter Tryz.func8, Tryz.ntmps8
  go_wp2_with fail
  rw [← HW.out, ← HB.out]
  refine (BFind_no _ s W (HN.out _ HO.out)).mono ?_
  rintro e V ⟨rfl, hv⟩
  subst hv
  go_wp2_with fail
  refine (BMeta_no _ i W (HZ.out _ (Old.refl _))).mono ?_
  rintro e V1 ⟨rfl, ho⟩
  have HO1 := Lib.hid (ho.alloc' (.cells mtZ 45))
  unfold mtZ at HO1 ⊢
  clear ho
  go_wp2_with fail
  refine (BWhere_no _ i i i _ (HN.out _ (HO.out.trans HO1.out))).mono ?_
  rintro e V2 ⟨rfl, ho⟩
  have HO2 := Lib.hid (HO1.out.trans ho)
  clear ho HO1
  go_wp2_with fail
  refine (BWhole_no _ i i _ (HZ.out _ HO2.out)).mono ?_
  rintro e V3 ⟨rfl, ho⟩
  have HO3 := Lib.hid (HO2.out.trans ho)
  clear ho HO2
  go_wp2_with fail
  refine (BUnpack_no _ i _ (HN.out _ (HO.out.trans HO3.out))).mono ?_
  rintro e V4 ⟨rfl, ho⟩
  have HO4 := Lib.hid ((HO3.out.trans ho).alloc' (.cells smZ 50))
  unfold smZ at HO4 ⊢
  clear ho HO3
  go_wp2_with fail
  refine (BSize_no _ _ (HN.out _ (HO.out.trans HO4.out))).mono ?_
  rintro e V5 ⟨rfl, hv⟩
  subst hv
  go_wp2_with fail
  refine (BSize_no _ _ (HZ.out _ HO4.out)).mono ?_
  rintro e V5 ⟨rfl, hv⟩
  subst hv
  go_wp2_with fail
  refine (BDir_no _ _ (HN.out _ (HO.out.trans HO4.out))).mono ?_
  rintro e V5 ⟨rfl, hv⟩
  subst hv
  go_wp2_with fail
  refine (BImage_no _ _ (HZ.out _ HO4.out)).mono ?_
  rintro e V5 ⟨rfl, hv⟩
  subst hv
  go_wp2_with fail
  refine (BBad_no _ i _ (HN.out _ (HO.out.trans HO4.out))).mono ?_
  rintro e V5 ⟨rfl, ho⟩
  have HO5 := Lib.hid (HO4.out.trans ho)
  clear ho HO4
  go_wp2_with fail
  refine (awake_any _).mono ?_
  rintro e V6 ⟨rfl, ho⟩
  have HO6 := Lib.hid (HO5.out.trans ho)
  clear ho HO5
  go_wp2_with fail
  go_ret
  exact ⟨rfl, HO.out.trans HO6.out⟩
end Go.Proofs.YtmebckmakfbplaaGreatDoor
namespace Go.Proofs.YtmebckmakfbplaaGreatDoor.bankNobody
open Go.ChangeShapes Go.WideShapes Go.ChangeAt Go.WideMaps Go.WideElems Go.RowKit
theorem own : ownKnob Tryz.prog.godebug = none := by kernel_rfl
theorem laidOut : laidOutB Tryz.prog = true := by kernel_rfl
def laid1 : List (String × DataW Unit) := [("unicode/utf8.acceptRanges", Rows.laid_unicode_utf8_acceptRanges), ("unicode/utf8.first", Rows.laid_unicode_utf8_first)]

set_option maxRecDepth 100000 in
theorem lifted (os : Os) (started : os.Started) (H : Type) (enc : TypeId × Value → H) :
    ReturnsInHanded {} Tryz.checked os 8 .any (fun w args => (Rows.bankNobodySpec.pre enc Tryz.prog Tryz.f8 [] false w args ∧ laidMetH Tryz.prog laid1 w) ∧ sizedMet enc Tryz.prog Tryz.f8 (OpenSpec.ofChange Rows.bankNobodySpec) false w args)
      (Rows.bankNobodySpec.post enc Tryz.prog Tryz.f8 false true false false) := by
  refine returnsInHanded_of_change_and (C := Tryz.checked) (X := fun w _ => laidMetH Tryz.prog laid1 w) (fun _ _ _ hh h => h.of_heap hh) own started (by kernel_rfl) Tryz.func8
    (ChangeSpec.witness_shaped (enc := enc) (C := Tryz.checked) (os := os) (X := fun w _ => laidMetH Tryz.prog laid1 w) false (World.laidAll Tryz.prog os laid1) #[.string ⟨#[]⟩, .int .i64 0] 8 (World.laidAll_os _ _ _)
      (World.shaped_of_ZipB (by kernel_rfl) (by kernel_rfl)) (by kernel_rfl) (by kernel_rfl) (by kernel_rfl)
      (by rw [MakeChecks.laidMetH_plain _ _ _ (by kernel_rfl)]; exact laidMet_laidAll _ (by kernel_rfl) (by kernel_rfl))) ?_
  intro W base args ds gs before hval0 hW _ _ _ _
  have hval : ∀ (j : Nat) t v, Tryz.f8.params[j]? = some t → args[j]? = some v → Value.okWide Tryz.prog W .any base t v := hval0
  have hW' := hW
  have hlt : ∀ p ∈ before, p.block < W.heap.size := fun p hp => hW'.lt p hp
  obtain ⟨p, q, hA0, hV, rfl, hfz, hnd⟩ := hW
  have hA : DataW.TrodAll enc Tryz.prog W 0 (fun _ => true) true Tryz.f8.params.toList args.toList ds p := hA0
  rw [Tryz.params8] at hA hval
  obtain ⟨v0, vs0, d0, ds0, p0, q0, hargs, rfl, rfl, h0, r0⟩ := trodAll_cons hA
  obtain ⟨v1, vs1, d1, ds1, p1, q1, rfl, rfl, rfl, h1, r1⟩ := trodAll_cons r0
  obtain ⟨rfl, rfl, rfl⟩ := trodAll_nil r1
  obtain rfl : args = #[v0, v1] := by cases args; simp_all
  obtain ⟨rfl, rfl⟩ := trodVars_none hV
  obtain ⟨s0, rfl, _, _, w0⟩ := Go.ChangeMaps.open_string Tryz.underlying9 (hval 0 9 v0 rfl rfl) h0
  obtain ⟨a1, rfl, _, _, w1⟩ := open_int Tryz.underlying3 (hval 1 3 v1 rfl rfl) h1
  refine (nobody_any s0 a1 W).mono fun e W' ⟨he, hg⟩ => ?_
  subst he
  exact ⟨_, rfl, law_done laidOut Tryz.underlying4 rfl (by kernel_rfl) rfl hW' rfl hg⟩

theorem over : Rows.bankNobodyRow.holds Tryz.pinned (OpenSpec.ofChange Rows.bankNobodySpec) :=
  OpenClaim.holds_of_wide 8 Tryz.f8 rfl rfl rfl rfl rfl rfl rfl ⟨rfl, rfl, rfl, rfl, rfl⟩ rfl rfl rfl rfl rfl (by kernel_rfl) Tryz.func8 (by kernel_rfl)
    (of_decide_eq_true (by kernel_rfl)) (by unfold Func.isWrapper; first | (rw [if_pos (by decide +kernel)]; kernel_rfl) | (rw [if_neg (by decide +kernel)]; exact ⟨rfl, rfl⟩))
    (fun os started H enc _ => lifted os started H enc)

theorem proved : Rows.BankNobodyCardSaid :=
  Claim7.holds_tied_plain_at .later [] [.data, .pinned] true (true, "dc33a23f4f34a6cf970c8008c89efa9f2bc7c739e33cae93121c21f1e07f257e") false
    over (fun _ h => by cases h) (by kernel_rfl) (fun _ h => by cases h) bankNobody_row_tie rfl ⟨rfl, rfl⟩ (by kernel_rfl) rfl
    (fun f fn hf hfn => by
      obtain rfl : f = 8 := Option.some.inj ((show Tryz.prog.funcNamed "calliope/calliopelaw15.BankNobody" = some 8 by kernel_rfl).symm.trans hf) |>.symm
      obtain rfl : fn = Tryz.f8 := (Option.some.inj (Tryz.func8.symm.trans hfn)).symm
      exact ⟨by kernel_rfl, fun j t ht => by
        rw [Tryz.params8] at ht
        have hm : t ∈ [9, 3] := by
          have := Array.mem_of_getElem? ht
          simpa using this
        have hall : ([9, 3].all fun u => !Tryz.prog.wantsStandIn u) = true := by kernel_rfl
        exact (show Tryz.prog.wantsStandIn t = false by simpa using List.all_eq_true.1 hall t hm)⟩)
    (by kernel_rfl)
end Go.Proofs.YtmebckmakfbplaaGreatDoor.bankNobody

