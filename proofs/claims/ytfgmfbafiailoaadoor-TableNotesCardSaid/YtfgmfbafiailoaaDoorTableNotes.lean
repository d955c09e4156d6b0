/- TableNotes: for every two numbers table.Ratio tells the tone's numerator and denominator, and table.Note the pitch of the step (4.2), and the chapter's example holds. The variable that holds the ratios starts as the program's text lays it (the card ties it to the text). -/
import Derived.Test.YtfgmfbafiailoaaDoorRows
import Derived.Test.YtfgmfbafiailoaaDoorCards
import Derived.Test.YtfgmfbafiailoaaDoorTie
import Derived.Test.YtfgmfbafiailoaaDoorNotes
import Derived.LaidMore
import Derived.SevenTiedAt
import Derived.Stop.Joined
namespace Go.Proofs.YtfgmfbafiailoaaDoor.tableNotes
open Go.ChangeShapes Go.WideShapes Go.ChangeAt Go.WideMaps Go.WideElems Go.RowKit
set_option linter.unusedVariables false

/-- The law's own way: first whole, then twice or half. -/
def wantI (t o : Nat) : Int := if 5 ≤ o then wholeI t * pw (o - 5) else wholeI t / pw (5 - o)
theorem want_note (t o : Nat) (ht : t < 12) (ho : o ≤ 8) (h : 12 * o + t ≤ 96) : wantI t o = noteI t o ∧ noteI t o ≤ 34359738368 ∧ 0 ≤ noteI t o := by
  have : (List.range 12).all (fun t => (List.range 9).all fun o => decide (12 * o + t ≤ 96 → wantI t o = noteI t o ∧ noteI t o ≤ 34359738368 ∧ 0 ≤ noteI t o)) = true := by decide +kernel
  have h1 := List.all_eq_true.1 this t (List.mem_range.2 ht)
  have h2 := List.all_eq_true.1 h1 o (List.mem_range.2 (by omega))
  exact of_decide_eq_true h2 h
def ratN (t : Int) : Int := if t < 0 ∨ 11 < t then 0 else num t.toNat
def ratD (t : Int) : Int := if t < 0 ∨ 11 < t then 1 else den t.toNat
theorem Ratio_any (t : Int) (w : World) (hR : RatW w) :
    Calls Tryd.prog 4 #[.int .i64 t] w fun e w' => e = .returned (.tuple #[.int .i64 (ratN t), .int .i64 (ratD t)]) ∧ Old w w' := by
  unfold ratN ratD
  by_cases h : t < 0 ∨ 11 < t
  · rw [if_pos h, if_pos h]
    exact (Ratio_no t w h).mono fun e w' ⟨h1, h2⟩ => ⟨h1, h2 ▸ Old.refl w⟩
  · rw [if_neg h, if_neg h]
    obtain ⟨k, rfl⟩ : ∃ k : Nat, t = k := ⟨t.toNat, by omega⟩
    exact (Ratio_yes k w (by omega) hR).mono fun e w' ⟨h1, n, h2⟩ => ⟨h1, h2 ▸ (Old.refl w).drewN _⟩
theorem ratio_any (t : Int) (w : World) :
    Calls Tryd.prog 5 #[.int .i64 t] w fun e w' => e = .returned (.tuple #[.int .i64 (ratN t), .int .i64 (ratD t)]) ∧ Old w w' := by
  unfold ratN ratD
  by_cases h : t < 0 ∨ 11 < t
  · rw [if_pos h, if_pos h]
    exact ratio_no t w h
  · rw [if_neg h, if_neg h]
    obtain ⟨k, rfl⟩ : ∃ k : Nat, t = k := ⟨t.toNat, by omega⟩
    exact ratio_yes k w (by omega)

set_option maxRecDepth 100000 in
theorem no (a s : Int) (w : World) (hR : RatW w) (h : s < -60 ∨ 36 < s) :
    Calls Tryd.prog 3 #[.int .i64 a, .int .i64 s] w fun e w' => e = .returned (.bool true) ∧ Old w w' := by
  have h1 := Lib.hid (Ratio_any a w hR)
  have h2 := Lib.hid (fun w => ratio_any a w)
  have h3 := Lib.hid (fun w => Note_no s w h)
  have hA := Lib.hid awake_any
  clear hR
  generalize ratN a = x at *
  generalize ratD a = y at *
  rcases h with h | h
  · go_enter Tryd.func3, Tryd.ntmps3
    go_wp2_with fail
    refine h1.out.mono ?_
    rintro e w1 ⟨rfl, ho⟩
    have H1 := Lib.hid ho
    clear ho
    go_wp2_with fail
    refine (h2.out _).mono ?_
    rintro e w2 ⟨rfl, ho⟩
    have H2 := Lib.hid ho
    clear ho
    go_wp2_with fail
    refine (h3.out _).mono ?_
    rintro e w3 ⟨rfl, rfl⟩
    go_wp2_with fail
    refine (hA.out _).mono ?_
    rintro e w4 ⟨rfl, ho⟩
    have H4 := Lib.hid ho
    clear ho
    go_wp2
    go_ret
    exact ⟨rfl, (H1.out.trans H2.out).trans H4.out⟩
  · have h0 : -60 ≤ s := by omega
    go_enter Tryd.func3, Tryd.ntmps3
    go_wp2_with fail
    refine h1.out.mono ?_
    rintro e w1 ⟨rfl, ho⟩
    have H1 := Lib.hid ho
    clear ho
    go_wp2_with fail
    refine (h2.out _).mono ?_
    rintro e w2 ⟨rfl, ho⟩
    have H2 := Lib.hid ho
    clear ho
    go_wp2_with fail
    refine (h3.out _).mono ?_
    rintro e w3 ⟨rfl, rfl⟩
    go_wp2_with fail
    refine (hA.out _).mono ?_
    rintro e w4 ⟨rfl, ho⟩
    have H4 := Lib.hid ho
    clear ho
    go_wp2
    go_ret
    exact ⟨rfl, (H1.out.trans H2.out).trans H4.out⟩

set_option maxRecDepth 100000 in
set_option maxHeartbeats 1000000 in
theorem yes (a s : Int) (t o : Nat) (w : World) (hR : RatW w) (hs : s + 60 = 12 * o + t) (ht : t < 12) (ho : o ≤ 8) (hs2 : s ≤ 36) :
    Calls Tryd.prog 3 #[.int .i64 a, .int .i64 s] w fun e w' => e = .returned (.bool true) ∧ Old w w' := by
  have h1 := Lib.hid (Ratio_any a w hR)
  have h2 := Lib.hid (fun w => ratio_any a w)
  have h3 := Lib.hid (fun w => Note_yes s t o w hs ht ho hs2)
  have h4 := Lib.hid (fun w => ratio_yes t w ht)
  have hA := Lib.hid awake_any
  have HR := Lib.hid hR
  clear hR
  generalize ratN a = x at *
  generalize ratD a = y at *
  obtain ⟨n1, n2, d1, d2⟩ := num_den t ht
  obtain ⟨wb1, wb2⟩ := whole_bd t ht
  have e1 : (s + 120).tdiv 12 = (o : Int) + 5 := by rw [tdiv_pos _ _ (by omega)]; omega
  have e2 : (o : Int) + 5 - 10 = (o : Int) - 5 := by omega
  have e3 : s - 12 * ((o : Int) - 5) = t := by omega
  have e4 : (num t * 4294967296).tdiv (den t) = wholeI t := by rw [Int.mul_comm]; exact tdiv_pos _ _ (by omega)
  have s1 : -60 ≤ s := by omega
  have o1 : 0 ≤ (o : Int) := by omega
  have o2 : (o : Int) ≤ 8 := by omega
  obtain ⟨v1, v2, v3⟩ := want_note t o ht ho (by omega)
  have WA : Hid (∀ d, o = d + 5 → wholeI t * pw d = noteI t o) := Lib.hid (fun d hd => by rw [← v1]; unfold wantI; rw [if_pos (by omega), show o - 5 = d by omega])
  have WB : Hid (∀ d, o + d = 5 → 0 < d → wholeI t / pw d = noteI t o) := Lib.hid (fun d hd h0 => by rw [← v1]; unfold wantI; rw [if_neg (by omega), show 5 - o = d by omega])
  clear v1 hs
  generalize noteI t o = N at *
  generalize wholeI t = W at *
  generalize num t = p at *
  generalize den t = q at *
  go_enter Tryd.func3, Tryd.ntmps3
  go_wp2_with fail
  refine h1.out.mono ?_
  rintro e w1 ⟨rfl, ho⟩
  have HR1 := Lib.hid (HR.out.old ho)
  have H1 := Lib.hid ho
  clear ho
  go_wp2_with fail
  refine (h2.out _).mono ?_
  rintro e w2 ⟨rfl, ho⟩
  have HR2 := Lib.hid (HR1.out.old ho)
  have H2 := Lib.hid (H1.out.trans ho)
  clear ho
  go_wp2_with fail
  refine (h3.out _ HR2.out).mono ?_
  rintro e w3 ⟨rfl, ho⟩
  have H3 := Lib.hid (H2.out.trans ho)
  clear ho
  go_wp2_with fail
  refine (h4.out _).mono ?_
  rintro e w4 ⟨rfl, ho⟩
  have H4 := Lib.hid (H3.out.trans ho)
  clear ho H1 H2 H3 HR HR1 HR2 h1 h2 h3 h4
  by_cases hc : 5 ≤ o
  · obtain ⟨d, hd⟩ : ∃ d, o = d + 5 := ⟨o - 5, by omega⟩
    have hN := WA.out d hd
    have e5 : (o : Int) - 5 = (d : Int) := by omega
    clear WA WB
    have HN := Lib.hid hN
    clear hN
    go_wp2
    go_loop [13, 14] (fun v i => ∃ j : Nat, j ≤ d ∧ i = .int .i64 j ∧ v = .int .i64 (W * pw j)) (fun _ i => d - (intOf i).toNat)
    case atStart => exact ⟨0, by omega, rfl, by rw [pw_zero, Int.mul_one]⟩
    case round =>
      obtain ⟨j, hj, rfl, rfl⟩ := hrel
      by_cases hlt : j < d
      · have hlt' : (j : Int) < d := by omega
        have p1 := pw_pos j
        have p2 := pw_mono j 8 (by omega)
        have p3 : pw 8 = 256 := rfl
        rw [p3] at p2
        have q1 : 0 ≤ W * pw j := Int.mul_nonneg wb1 (by omega)
        have q2 : W * pw j ≤ 8589934592 * 256 := Int.mul_le_mul (by omega) p2 (by omega) (by omega)
        have HP : Hid (2 * (W * pw j) = W * pw (j + 1)) := Lib.hid (by rw [pw_succ, Int.mul_left_comm])
        clear p1 p2 p3 HN
        generalize W * pw j = V at *
        go_wp2
        go_round
        case rel => exact ⟨j + 1, by omega, by go_num, by rw [HP.out]⟩
        case measure => simp [intOf]; omega
      · obtain rfl : j = d := by omega
        rw [HN.out]
        have e6 : -((o : Int) - 5) ≤ 0 := by omega
        go_wp2
        go_loop [13, 15] (fun v i => i = .int .i64 0 ∧ v = .int .i64 N) (fun _ i => 0)
        case atStart => exact ⟨rfl, rfl⟩
        case round =>
          obtain ⟨rfl, rfl⟩ := hrel
          go_wp2_with fail
          refine (hA.out _).mono ?_
          rintro e w5 ⟨rfl, ho⟩
          have H5 := Lib.hid ho
          clear ho
          go_wp2
          go_ret
          exact ⟨rfl, H4.out.trans H5.out⟩
  · obtain ⟨d, hd⟩ : ∃ d, o + d = 5 := ⟨5 - o, by omega⟩
    have hN := WB.out d hd (by omega)
    have e5 : (o : Int) - 5 = -(d : Int) := by omega
    have d3 : 0 < d := by omega
    clear WA WB
    have HN := Lib.hid hN
    clear hN
    go_wp2
    go_loop [13, 14] (fun v i => i = .int .i64 0 ∧ v = .int .i64 W) (fun _ i => 0)
    case atStart => exact ⟨rfl, rfl⟩
    case round =>
      obtain ⟨rfl, rfl⟩ := hrel
      have e6 : -(d : Int) ≤ 0 := by omega
      go_wp2
      go_loop [13, 15] (fun v i => ∃ j : Nat, j ≤ d ∧ i = .int .i64 j ∧ v = .int .i64 (W / pw j)) (fun _ i => d - (intOf i).toNat)
      case atStart => exact ⟨0, by omega, rfl, by rw [pw_zero, Int.ediv_one]⟩
      case round =>
        obtain ⟨j, hj, rfl, rfl⟩ := hrel
        by_cases hlt : j < d
        · have hlt' : (j : Int) < d := by omega
          have p1 := pw_pos j
          have q1 : 0 ≤ W / pw j := Int.ediv_nonneg wb1 (by omega)
          have q2 : W / pw j ≤ W := Int.ediv_le_self _ wb1
          have HP : Hid ((W / pw j).tdiv 2 = W / pw (j + 1)) := Lib.hid (by rw [tdiv_pos _ _ q1, pw_succ, Int.mul_comm, Int.ediv_ediv_of_nonneg (by omega)])
          have hp := HP.out
          clear p1 HN
          generalize W / pw j = V at *
          generalize hV' : W / pw (j + 1) = V' at *
          have HV := Lib.hid hV'
          clear hV'
          have q3 : 0 ≤ V' ∧ V' ≤ V := by rw [← hp, tdiv_pos _ _ q1]; omega
          obtain ⟨q3, q4⟩ := q3
          go_wp2
          go_round
          case rel => exact ⟨j + 1, by omega, by go_num, by rw [HV.out]⟩
          case measure => simp [intOf]; omega
        · obtain rfl : j = d := by omega
          rw [HN.out]
          go_wp2_with fail
          refine (hA.out _).mono ?_
          rintro e w5 ⟨rfl, ho⟩
          have H5 := Lib.hid ho
          clear ho
          go_wp2
          go_ret
          exact ⟨rfl, H4.out.trans H5.out⟩

theorem walk (a s : Int) (w : World) (hR : RatW w) :
    Calls Tryd.prog 3 #[.int .i64 a, .int .i64 s] w fun e w' => e = .returned (.bool true) ∧ Old w w' := by
  by_cases h : s < -60 ∨ 36 < s
  · exact no a s w hR h
  · exact yes a s ((s + 60) % 12).toNat ((s + 60) / 12).toNat w hR (by omega) (by omega) (by omega) (by omega)

theorem own : ownKnob Tryd.prog.godebug = none := by kernel_rfl
theorem laidOut : laidOutB Tryd.prog = true := by kernel_rfl
def laid1 : List (String × DataW Unit) := [("calliope/table.ratios", Rows.laid_calliope_table_ratios)]
theorem door_met (os : Os) (args : Array Value) : laidMetH Tryd.prog laid1 ((World.doorLaid Tryd.prog 400 os).forCall (fun _ _ => 0) ⟨#[], args, []⟩).memory :=
  laidMetH_of_parts3 (fuel := 8) (laidMet_of_run' 8 (by kernel_rfl) (by kernel_rfl)) (by kernel_rfl) (by kernel_rfl)
theorem of_laid {W : World} (h : laidMetH Tryd.prog laid1 W) : RatW W := by
  rw [MakeChecks.laidMetH_plain _ _ _ (by kernel_rfl)] at h
  obtain ⟨ps, ⟨g, t, cs, fuel, p, q, hg, ht, hv, hd, _, _⟩, _, _⟩ := h
  obtain rfl := Option.some.inj ((show Tryd.prog.globalNamed "calliope/table.ratios" = some 0 by kernel_rfl).symm.trans hg)
  obtain rfl := Option.some.inj ((show (Tryd.prog.globals[0]?).map (·.type) = some 28 by kernel_rfl).symm.trans ht)
  obtain ⟨xs, m, _, ex, _, hl, hel⟩ := DataW.trod_array Tryd.underlying28 hd
  have c2 : Tryd.prog.cellsOf 27 = 2 := by kernel_rfl
  have c1 : Tryd.prog.cellsOf 2 = 1 := by kernel_rfl
  intro r hr
  have hE := hel r hr
  rw [c2, List.getElem?_eq_getElem (by omega)] at hE
  obtain ⟨ys, m2, _, ey, hlen, hl2, hel2⟩ := DataW.trod_array Tryd.underlying27 hE
  have k0 := hel2 0 (by omega)
  have k1 := hel2 1 (by omega)
  rw [c1, List.getElem?_eq_getElem (by omega)] at k0 k1
  obtain ⟨z0, a0, b0, _⟩ := DataW.trod_int Tryd.underlying2 k0
  obtain ⟨z1, a1, b1, _⟩ := DataW.trod_int Tryd.underlying2 k1
  have e3 : (xs.map (·.1)) = (List.range 12).map fun t => (DataW.agg [.lit (.int .i64 (num t)), .lit (.int .i64 (den t))] : DataW Unit) := (DataW.agg.inj (Prod.mk.inj ex).1).symm
  have e4 : (xs.map (·.1))[r]? = some (DataW.agg [.lit (.int .i64 (num r)), .lit (.int .i64 (den r))] : DataW Unit) := by rw [e3]; simp [hr]
  rw [List.getElem?_map, List.getElem?_eq_getElem (by omega : r < xs.length)] at e4
  simp only [Option.map_some, Option.some.injEq] at e4
  rw [ey] at e4
  have e5 := DataW.agg.inj e4
  have y0 : (ys.map (·.1))[0]? = some (.lit (.int .i64 (num r))) := by rw [e5]; rfl
  have y1 : (ys.map (·.1))[1]? = some (.lit (.int .i64 (den r))) := by rw [e5]; rfl
  rw [List.getElem?_map, List.getElem?_eq_getElem (by omega)] at y0 y1
  simp only [Option.map_some, Option.some.injEq] at y0 y1
  rw [b0] at y0
  rw [b1] at y1
  have z0' : z0 = num r := by simpa using y0
  have z1' : z1 = den r := by simpa using y1
  subst z0' z1'
  have g0 : cs.toList[r * 2]? = some (.int .i64 (num r)) := by
    have h0 : ((((cs.toList.drop (r * 2)).take 2).drop (0 * 1)).take 1)[0]? = some (.int .i64 (num r)) := by rw [a0]; rfl
    simpa using h0
  have g1 : cs.toList[r * 2 + 1]? = some (.int .i64 (den r)) := by
    have h0 : ((((cs.toList.drop (r * 2)).take 2).drop (1 * 1)).take 1)[0]? = some (.int .i64 (den r)) := by rw [a1]; rfl
    simpa using h0
  exact ⟨by rw [World.var?_cell hg hv]; simpa using g0, by rw [World.var?_cell hg hv]; simpa using g1⟩

set_option maxRecDepth 100000 in
theorem lifted (os : Os) (started : os.Started) (H : Type) (enc : TypeId × Value → H) :
    ReturnsInHanded {} Tryd.checked os 3 .any (fun w args => (Rows.tableNotesSpec.pre enc Tryd.prog Tryd.f3 [] false w args ∧ laidMetH Tryd.prog laid1 w) ∧ sizedMet enc Tryd.prog Tryd.f3 (OpenSpec.ofChange Rows.tableNotesSpec) false w args)
      (Rows.tableNotesSpec.post enc Tryd.prog Tryd.f3 false true false false) := by
  refine returnsInHanded_of_change_and (C := Tryd.checked) (X := fun w _ => laidMetH Tryd.prog laid1 w) (fun _ _ _ hh h => h.of_heap hh) own started (by kernel_rfl) Tryd.func3
    (ChangeSpec.witness_shaped (enc := enc) (C := Tryd.checked) (os := os) (X := fun w _ => laidMetH Tryd.prog laid1 w) false (World.doorLaid Tryd.prog 400 os) #[.int .i64 0, .int .i64 0] 8 rfl (World.shaped_of_RefB (by kernel_rfl) (by kernel_rfl)) (by kernel_rfl) (by kernel_rfl) (by kernel_rfl) (door_met os _)) ?_
  intro W base args ds gs before hval0 hW _ _ hL _
  have hval : ∀ (j : Nat) t v, Tryd.f3.params[j]? = some t → args[j]? = some v → Value.okWide Tryd.prog W .any base t v := hval0
  have hW' := hW
  have hlt : ∀ p ∈ before, p.block < W.heap.size := fun p hp => hW'.lt p hp
  obtain ⟨p, q, hA0, hV, rfl, hfz, hnd⟩ := hW
  have hA : DataW.TrodAll enc Tryd.prog W 0 (fun _ => true) true Tryd.f3.params.toList args.toList ds p := hA0
  rw [Tryd.params3] at hA hval
  obtain ⟨v0, vs0, d0, ds0, p0, q0, hargs, rfl, rfl, h0, r0⟩ := trodAll_cons hA
  obtain ⟨v1, vs1, d1, ds1, p1, q1, rfl, rfl, rfl, h1, r1⟩ := trodAll_cons r0
  obtain ⟨rfl, rfl, rfl⟩ := trodAll_nil r1
  obtain rfl : args = #[v0, v1] := by cases args; simp_all
  obtain ⟨rfl, rfl⟩ := trodVars_none hV
  obtain ⟨a0, rfl, _, _, w0⟩ := open_int Tryd.underlying3 (hval 0 3 v0 rfl rfl) h0
  obtain ⟨a1, rfl, _, _, w1⟩ := open_int Tryd.underlying3 (hval 1 3 v1 rfl rfl) h1
  refine (walk a0 a1 W (of_laid hL)).mono fun e W' ⟨he, hg⟩ => ?_
  subst he
  exact ⟨_, rfl, law_done laidOut Tryd.underlying4 rfl (by kernel_rfl) rfl hW' rfl hg⟩

theorem over : Rows.tableNotesRow.holds Tryd.pinned (OpenSpec.ofChange Rows.tableNotesSpec) :=
  OpenClaim.holds_of_wide 3 Tryd.f3 rfl rfl rfl rfl rfl rfl rfl ⟨rfl, rfl, rfl, rfl, rfl⟩ rfl rfl rfl rfl rfl (by kernel_rfl) Tryd.func3 (by kernel_rfl)
    (of_decide_eq_true (by kernel_rfl)) (by unfold Func.isWrapper; first | (rw [if_pos (by decide +kernel)]; kernel_rfl) | (rw [if_neg (by decide +kernel)]; exact ⟨rfl, rfl⟩))
    (fun os started H enc _ => lifted os started H enc)

theorem proved : Rows.TableNotesCardSaid :=
  Claim7.holds_tied_plain_at .later [] [.data] true (true, "892f75f6410dfcb8d3d5333984fdc3ebcc479bd371c48cec88ba33beb952bf9a") false
    over (fun _ h => by cases h) (by kernel_rfl) (fun _ h => by cases h) tableNotes_row_tie rfl ⟨rfl, rfl⟩ (by kernel_rfl) rfl
    (fun f fn hf hfn => by
      obtain rfl : f = 3 := Option.some.inj ((show Tryd.prog.funcNamed "calliope/calliopelaw04.TableNotes" = some 3 by kernel_rfl).symm.trans hf) |>.symm
      obtain rfl : fn = Tryd.f3 := (Option.some.inj (Tryd.func3.symm.trans hfn)).symm
      exact ⟨by kernel_rfl, fun j t ht => by
        rw [Tryd.params3] at ht
        have hm : t ∈ [3] := by
          have := Array.mem_of_getElem? ht
          simpa using this
        have hall : ([3].all fun u => !Tryd.prog.wantsStandIn u) = true := by kernel_rfl
        exact (show Tryd.prog.wantsStandIn t = false by simpa using List.all_eq_true.1 hall t hm)⟩)
    (by kernel_rfl)
end Go.Proofs.YtfgmfbafiailoaaDoor.tableNotes
