/- BitsMany: numbers of so many bits that are laid together by All are laid as one by one by Put: the same bytes, error and count of bits (1.1: up to 30 numbers); and the chapter's example holds. No condition. -/
import Derived.Test.YtophjkdalajjpaaRows
import Derived.Test.YtophjkdalajjpaaMany
namespace Go.Proofs.Ytophjkdalajjpaa.bitsMany
open Go.ChangeShapes Go.WideShapes Go.ChangeAt Go.RowKit
set_option linter.unusedVariables false

theorem own : ownKnob Try.prog.godebug = none := by kernel_rfl
theorem laidOut : laidOutB Try.prog = true := by kernel_rfl

theorem two_new (w : World) (o o' : Obj) : ((w.alloc o).alloc o').heap[w.heap.size]? = some o ∧ ((w.alloc o).alloc o').heap[w.heap.size + 1]? = some o' ∧ Old w ((w.alloc o).alloc o') := by
  refine ⟨?_, ?_, ?_⟩
  · rw [Below.heap_alloc _ _ _ (by simp)]; exact heap_alloc_new _ _
  · have := heap_alloc_new (w.alloc o) o'; simpa using this
  · exact Old.below (((Below.refl _ _).alloc (Nat.le_refl _) _).alloc (by simp) _)

set_option maxHeartbeats 1000000 in
theorem walk (k : Int) (us : List Int) (p : Option Addr) (n cap : Nat) (w : World) (hv : SlI w .u64 (.slice p n cap) us) (hu : ∀ u ∈ us, 0 ≤ u ∧ u ≤ 18446744073709551615) (hcap : n ≤ cap ∨ n = 0) (hm : cap ≤ maxLen ∨ n = 0) :
    Calls Try.prog 6 #[.int .i64 k, .slice p n cap] w fun e w' => e = .returned (.bool true) ∧ Old w w' := by
  obtain ⟨hb0, hb1, hold⟩ := two_new w (.cells #[.slice none 0 0, .int .i64 0, .int .i64 0] 29) (.cells #[.slice none 0 0, .int .i64 0, .int .i64 0] 29)
  by_cases hlen : n ≤ 30
  case' pos =>
    generalize us = ut at *
    generalize n = m at *
    have hn : m ≤ 9223372036854775807 := by omega
    have hl31 : m < 31 := by omega
    have HL := Lib.hid hv.cellAt.1
    have HC := Lib.hid hv.cellAt.2
    have HV := Lib.hid hv; have HU := Lib.hid hu; have H0 := Lib.hid hb0; have H1 := Lib.hid hb1; have HO := Lib.hid hold
    clear hv hu hb0 hb1 hold hcap hm
    go_enter Try.func6, Try.ntmps6
    go_wp2_with fail
  case' neg =>
    have hn : n ≤ maxLen := by omega
    unfold maxLen at hn
    have hc : n ≤ cap := by omega
    have hpp : ∃ b off, p = some ⟨b, off, none⟩ := by obtain ⟨b, off, h, _⟩ := hv.cellAt.2 (by omega); exact ⟨b, off, h⟩
    obtain ⟨b, off, rfl⟩ := hpp
    have hv' := hv.take (m := 30) (by omega)
    have hu' : ∀ u ∈ us.take 30, 0 ≤ u ∧ u ≤ 18446744073709551615 := fun u h => hu u (List.mem_of_mem_take h)
    generalize us.take 30 = ut at hv' hu'
    have HL := Lib.hid hv'.cellAt.1
    have HC := Lib.hid hv'.cellAt.2
    have HV := Lib.hid hv'; have HU := Lib.hid hu'; have H0 := Lib.hid hb0; have H1 := Lib.hid hb1; have HO := Lib.hid hold
    clear hv hv' hu hu' hb0 hb1 hold hcap hm
    go_enter Try.func6, Try.ntmps6
    go_wp2_with fail
    generalize hp : (some (⟨b, off, none⟩ : Addr)) = p at *
    have hl31 : 30 < 31 := by omega
    clear hp
    generalize hN : (30 : Nat) = m at HV HC HL hl31 ⊢
    clear hN
  all_goals
    obtain ⟨w0, hw0⟩ : ∃ w0, w0 = ((w.alloc (.cells #[.slice none 0 0, .int .i64 0, .int .i64 0] 29)).alloc (.cells #[.slice none 0 0, .int .i64 0, .int .i64 0] 29)) := ⟨_, rfl⟩
    rw [← hw0] at H0 H1 HO ⊢
    have hsz : w0.heap.size = w.heap.size + 2 := by rw [hw0]; simp
    clear hw0
    have HSZ := Lib.hid hsz
    have hfr0 : WrAt w0 (w.heap.size + 2) w.heap.size [] 0 := WrAt.fresh H0.out (by omega) (by omega)
    have cA := Lib.hid (All_any (w.heap.size + 2) w.heap.size ([], 0) k ut (.slice p m cap) w0 (by have := HL.out; simp; omega) HU.out (HV.out.old HO.out) (by
      intro c q l r e hne
      simp only [Value.slice.injEq] at e
      obtain ⟨e1, _, _⟩ := e
      obtain ⟨b', off', h, hb, _⟩ := HC.out (by have := List.length_pos_iff.2 hne; rw [HL.out] at this; exact this)
      rw [h] at e1
      simp only [Option.some.injEq, Addr.mk.injEq] at e1
      omega) hfr0)
    clear hsz hfr0
    refine cA.out.mono ?_
    rintro e w1 ⟨rfl, hA1, hB1⟩
    have hfr1 : WrAt w1 w1.heap.size (w.heap.size + 1) [] 0 := WrAt.fresh ((hB1.block _ (by omega) (by omega)).trans H1.out) (by have := hB1.size; rw [HSZ.out] at this; omega) (Nat.le_refl _)
    have hst : AllR w1 w1.heap.size (w.heap.size + 1) ([], 0) k ut 0 w1 := ⟨by simpa [putAll] using hfr1, But.refl _ _ _⟩
    have HST := Lib.hid hst
    have hO1 : Old w w1 := Old.but HO.out hB1 (by omega) (Nat.le_refl _)
    have HO1 := Lib.hid hO1
    have HA1 := Lib.hid hA1
    have HV1 := Lib.hid (HV.out.old hO1).cellAt.2
    have hsz1 : w.heap.size + 2 ≤ w1.heap.size := by have := hB1.size; rw [HSZ.out] at this; omega
    clear hA1 hB1 hfr1 hst hO1 cA
    go_wp2_with fail
    go_loopw [7] (fun i wr => ∃ j : Nat, j ≤ m ∧ i = .int .i64 j ∧ AllR w1 w1.heap.size (w.heap.size + 1) ([], 0) k ut j wr) (fun i _ => m - (intOf i).toNat)
    case atStart => exact ⟨0, by omega, rfl, HST.out⟩
    case round =>
      obtain ⟨j, hj, rfl, hall⟩ := hrel
      by_cases hlt : j < m
      · obtain ⟨c, off, rfl, hcs, hlc, hcm, hcell⟩ := HV1.out (by omega)
        have hcj := (World.cell?_of_block (w := w1) (w' := wr) (a := ⟨c, off + j, none⟩) (hall.2.block c hcs (by have := HC.out (by omega); obtain ⟨b', o', e, hb, _⟩ := this; simp only [Option.some.injEq, Addr.mk.injEq] at e; omega))).trans (hcell j hlt)
        have HA := Lib.hid (all_next w1 w1.heap.size (w.heap.size + 1) ([], 0) k ut j wr (by rw [HL.out]; exact hlt) (by have := HL.out; simp; omega) HU.out hall)
        clear hall hcell
        generalize ut.getD j 0 = u at hcj HA
        go_wp2_with fail
        refine HA.out.mono ?_
        rintro e w2 ⟨rfl, hl1⟩
        go_wp2
        go_roundw
        case rel => exact ⟨j + 1, by omega, by go_num, hl1⟩
        case measure => simp [intOf]; omega
      · have hjm : ut.length ≤ j := by rw [HL.out]; omega
        have hA2 : WrAt wr w1.heap.size (w.heap.size + 1) (putAll ([], 0) k ut).1 (putAll ([], 0) k ut).2 ∧ But w1.heap.size (w.heap.size + 1) w1 wr := by
          have := hall
          unfold AllR at this
          rw [List.take_of_length_le hjm] at this
          exact this
        obtain ⟨hA2, hB2⟩ := hA2
        have hA1' : WrAt wr (w.heap.size + 2) w.heap.size (putAll ([], 0) k ut).1 (putAll ([], 0) k ut).2 := HA1.out.but hB2 (Nat.le_refl _) (by omega) (by omega)
        have hO2 : Old w wr := Old.but HO1.out hB2 (by omega) (by omega)
        have cB := Lib.hid (Bytes_any _ _ _ _ 1000 wr hA1')
        have HA1' := Lib.hid hA1'; have HA2 := Lib.hid hA2; have HO2 := Lib.hid hO2
        clear hA1' hA2 hO2 hB2 hall hjm
        generalize (putAll ([], 0) k ut).1 = L at *
        generalize (putAll ([], 0) k ut).2 = er at *
        go_wp2_with fail
        refine cB.out.mono ?_
        rintro e w3 ⟨p3, n3, c3, rfl, hn3, hs3, ho3⟩
        have cC := Lib.hid (Bytes_any _ _ _ _ 1000 w3 (HA2.out.old ho3))
        have HN3 := Lib.hid hn3; have HS3 := Lib.hid hs3; have HO3 := Lib.hid ho3
        clear hn3 hs3 ho3 cB
        go_wp2_with fail
        refine cC.out.mono ?_
        rintro e w4 ⟨p4, n4, c4, rfl, hn4, hs4, ho4⟩
        have cD := Lib.hid (same_any _ _ _ _ w4 (HS3.out.old ho4) hs4)
        have cE := Lib.hid (Len_any _ _ _ _ w4 ((HA1'.out.old HO3.out).old ho4))
        have cF := Lib.hid (Len_any _ _ _ _ w4 ((HA2.out.old HO3.out).old ho4))
        have hO4 := (HO2.out.trans HO3.out).trans ho4
        have HO4 := Lib.hid hO4
        clear hn4 hs4 ho4 cC hO4
        generalize bytesErr L er 1000 = be at *
        go_wp2_with fail
        refine cD.out.mono ?_
        rintro e w' ⟨rfl, rfl⟩
        go_wp2_with fail
        refine cE.out.mono ?_
        rintro e w' ⟨rfl, rfl⟩
        go_wp2_with fail
        refine cF.out.mono ?_
        rintro e w' ⟨rfl, rfl⟩
        go_wp2_with fail
        refine (awake_any _).mono ?_
        rintro e w5 ⟨rfl, ho5⟩
        have HO5 := Lib.hid ho5
        clear ho5
        go_wp2
        go_ret
        exact ⟨rfl, HO4.out.trans HO5.out⟩

theorem u64_range {x : Int} (h : (Lit.int .u64 x).wf = true) : 0 ≤ x ∧ x ≤ 18446744073709551615 := by simpa [Lit.wf, IntKind.min, IntKind.max, IntKind.signed, IntKind.bits] using h

set_option maxRecDepth 100000 in
theorem lifted (os : Os) (started : os.Started) (H : Type) (enc : TypeId × Value → H) :
    ReturnsInHanded {} Try.checked os 6 .any (Rows.bitsManySpec.pre6 enc Try.prog Try.f6 Rows.bitsManyRow.domain false) (Rows.bitsManySpec.post enc Try.prog Try.f6 false true false false) := by
  refine returnsInHanded_of_change (C := Try.checked) own started (by kernel_rfl) Try.func6
    (ChangeSpec.witness6 (enc := enc) (C := Try.checked) false ⟨#[], #[.int .i64 0, .slice none 0 0], []⟩ 8 (by kernel_rfl) (by kernel_rfl) (by kernel_rfl) (by kernel_rfl)) ?_
  intro W base args ds gs before hval0 hW hcnd _
  have hval : ∀ (j : Nat) t v, Try.f6.params[j]? = some t → args[j]? = some v → Value.okWide Try.prog W .any base t v := hval0
  have hW' := hW
  have hlt : ∀ p ∈ before, p.block < W.heap.size := fun p hp => hW'.lt p hp
  obtain ⟨p, q, hA0, hV, rfl, hfz, hnd⟩ := hW
  have hA : DataW.TrodAll enc Try.prog W 0 (fun _ => true) true Try.f6.params.toList args.toList ds p := hA0
  rw [Try.params6] at hA hval
  obtain ⟨v0, vs0, d0, ds0, p0, q0, hargs, rfl, rfl, h0, r0⟩ := trodAll_cons hA
  obtain ⟨v1, vs1, d1, ds1, p1, q1, rfl, rfl, rfl, h1, r1⟩ := trodAll_cons r0
  obtain ⟨rfl, rfl, rfl⟩ := trodAll_nil r1
  obtain rfl : args = #[v0, v1] := by cases args; simp_all
  obtain ⟨rfl, rfl⟩ := trodVars_none hV
  obtain ⟨a0, rfl, _, _, w0⟩ := open_int Try.underlying3 (hval 0 3 v0 rfl rfl) h0
  obtain ⟨s1, n1, c1, us, rfl, hs1, hn1, hc1, hw1⟩ := open_slI Try.underlying49 Try.underlying45 (by kernel_rfl) (hval 1 49 v1 rfl rfl) h1 (fun x hx => hlt x (by simp [hx]))
  refine (walk a0 us s1 n1 c1 W hs1 (fun u hu => u64_range (hw1 u hu)) (.inl hn1) (.inl hc1)).mono fun e W' ⟨he, hg⟩ => ?_
  subst he
  exact ⟨_, rfl, law_done laidOut Try.underlying4 rfl (by kernel_rfl) rfl hW' rfl hg⟩

theorem over : Rows.bitsManyRow.holds Try.pinned (OpenSpec.ofChange Rows.bitsManySpec) :=
  OpenClaim.holds_of_wide 6 Try.f6 rfl rfl rfl rfl rfl rfl rfl ⟨rfl, rfl, rfl, rfl, rfl⟩ rfl rfl rfl rfl rfl (by kernel_rfl) Try.func6 (by kernel_rfl)
    (of_decide_eq_true (by kernel_rfl)) (by unfold Func.isWrapper; first | (rw [if_pos (by decide +kernel)]; kernel_rfl) | (rw [if_neg (by decide +kernel)]; exact ⟨rfl, rfl⟩))
    (fun os started H enc _ => lifted os started H enc)

theorem proved : Rows.BitsManySaid :=
  over
end Go.Proofs.Ytophjkdalajjpaa.bitsMany
