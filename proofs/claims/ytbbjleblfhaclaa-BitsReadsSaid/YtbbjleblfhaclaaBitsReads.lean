/- BitsReads: whatever is asked of a reader of any bytes (Get, Signed, Fail, End, in any order), it answers as the document's, with the same first error and the same count of bits that are left (1.2: up to 200 bytes, up to 40 calls); and the chapter's example holds. No condition. -/
import Derived.Test.YtbbjleblfhaclaaRows
import Derived.Test.YtbbjleblfhaclaaPair
import Derived.Test.YtbbjleblfhaclaaAwake
import Derived.Test.YtbbjleblfhaclaaItems
import Derived.StillTailTactics
import Derived.Deep.AppendLies
import Derived.Deep.RegionHeld3
import Derived.Deep.DrawnRows
import Derived.BigQuiet
import Derived.Deep.DeepCutAuto
import Derived.Deep.CutBlock
namespace Go.Proofs.Ytbbjleblfhaclaa.bitsReads
open Go.ChangeShapes Go.WideShapes Go.ChangeAt Go.RowKit
set_option linter.unusedVariables false
attribute [local go_sem ↓] Go.wp_at_zero Go.wp_at_succ

/-- Behind j bits of the first loop. -/
def LB (wp : World) (bp : Nat) (bs : List Int) (j : Nat) (wr : World) : Prop :=
  ∃ v, wr.heap[bp]? = some (.cells #[v, .int .i64 0] 52 (0, 0)) ∧ wr.ownsRow (bp + 1) 4 1 v j (((bitsOf bs).take j).map Value.bool) ∧ Kept (fun q => q < wp.heap.size ∧ q ≠ bp) wp wr

/-- The bytes, cut to 200. -/
def B0 (w : World) (v0 : Value) (wx : World) : Prop := w = wx ∧ ∃ p m cap ut, v0 = .slice p m cap ∧ SlI w .u8 (.slice p m cap) ut ∧ isBytes ut ∧ m ≤ 200

/-- The calls that are asked: kind and number. -/
def SlOp (w : World) (v : Value) (ops : List (Int × Int)) : Prop :=
  ∃ p cap, v = .slice p ops.length cap ∧ ops.length ≤ 9223372036854775807 ∧ (∀ x ∈ ops, -9223372036854775808 ≤ x.2 ∧ x.2 ≤ 9223372036854775807) ∧ (ops ≠ [] → ∃ b off, p = some ⟨b, off, none⟩ ∧ b < w.heap.size ∧
    ∀ i x, ops[i]? = some x → w.cell? ⟨b, off + i * 2, none⟩ = some (.int .i64 x.1) ∧ w.cell? ⟨b, off + i * 2 + 1, none⟩ = some (.int .i64 x.2))
theorem i64_range {x : Int} (h : (Lit.int .i64 x).wf = true) : -9223372036854775808 ≤ x ∧ x ≤ 9223372036854775807 := by simpa [Lit.wf, IntKind.min, IntKind.max, IntKind.signed, IntKind.bits] using h
theorem open_slOp {H : Type} {enc : TypeId × Value → H} {W : World} {base : Nat} {v : Value} {d : DataW H} {p : List MemPlace} (hv : Value.okWide Try.prog W .any base 49 v)
    (h : DataW.Trod enc Try.prog W 0 (fun _ => true) true 49 v d p) (hlt : ∀ x ∈ p, x.block < W.heap.size) : ∃ q n cap ops, v = .slice q n cap ∧ SlOp W (.slice q n cap) ops := by
  obtain ⟨q, n, cap, rfl, hnc, hcm, hc⟩ := open_structs Try.underlying49 Try.underlying54 (by kernel_rfl) (by kernel_rfl) (by decide) hv h hlt
  unfold maxLen at hcm
  rcases Nat.eq_zero_or_pos n with hn | hn
  · subst hn
    exact ⟨q, 0, cap, [], rfl, q, cap, rfl, by simp, (fun x hx => by cases hx), fun h => absurd rfl h⟩
  · obtain ⟨b, off, rfl, hb, hcell⟩ := hc hn
    have each : ∀ i, i < n → ∃ x : Int × Int, (W.cell? ⟨b, off + i * 2, none⟩ = some (.int .i64 x.1) ∧ W.cell? ⟨b, off + i * 2 + 1, none⟩ = some (.int .i64 x.2)) ∧ -9223372036854775808 ≤ x.2 ∧ x.2 ≤ 9223372036854775807 := by
      intro i hi
      obtain ⟨u0, y0, k0, c0, _, t0⟩ := hcell i hi 0 _ rfl
      obtain ⟨u1, y1, k1, c1, _, t1⟩ := hcell i hi 1 _ rfl
      obtain ⟨x0, e0, _, w0⟩ := DataW.trod_int Try.underlying3 t0
      obtain ⟨x1, e1, _, w1⟩ := DataW.trod_int Try.underlying3 t1
      simp only [List.cons.injEq, and_true] at e0 e1
      subst e0 e1
      exact ⟨(x0, x1), ⟨c0, c1⟩, i64_range w1⟩
    obtain ⟨ops, hl, hops⟩ := list_of n each
    refine ⟨some ⟨b, off, none⟩, n, cap, ops, rfl, _, cap, by rw [hl], by omega, ?_, fun _ => ⟨b, off, rfl, hb, fun i x hx => (hops i x hx).1⟩⟩
    intro x hx
    obtain ⟨i, hi, rfl⟩ := List.getElem_of_mem hx
    exact (hops i _ (List.getElem?_eq_getElem hi)).2

theorem lb_next {wp wr w1 : World} {bp : Nat} {bs : List Int} {j : Nat} {v v' : Value} {o : Obj} (hs : wp.heap.size = bp + 1) (hb : wr.heap[bp]? = some (.cells #[v, .int .i64 0] 52 (0, 0))) (hv : ∀ q, v.ownBlock = some q → bp < q) (hk : Kept (fun q => q < wp.heap.size ∧ q ≠ bp) wp wr)
    (hj : j < 8 * bs.length) (h1 : w1.ownsRow (bp + 1) 4 1 v' (j + 1) (((bitsOf bs).take j).map Value.bool ++ [.bool (bitAt bs j)])) (h2 : (wr.alloc o).drew.grownBy w1 v.ownBlock) :
    LB wp bp bs (j + 1) (w1.setCell ⟨bp, 0, none⟩ v') := by
  have h2 : (wr.alloc o).grownBy w1 v.ownBlock := ⟨h2.1, h2.2, h2.3, h2.4, h2.5⟩
  have hlt := lt_of_block hb
  have hb1 : w1.heap[bp]? = some (.cells #[v, .int .i64 0] 52 (0, 0)) := by
    rw [h2.block bp (by simp; omega) (fun e => by have := hv bp e.symm; omega), Below.heap_alloc _ _ _ hlt]
    exact hb
  have e : (bitsOf bs).take (j + 1) = (bitsOf bs).take j ++ [bitAt bs j] := by
    have hl : j < (bitsOf bs).length := by rw [length_bitsOf]; exact hj
    rw [List.take_succ_eq_append_getElem hl]
    congr 1
    have := bitsOf_get bs j hj
    rw [List.getElem?_eq_getElem hl] at this
    simpa using this
  refine ⟨v', heap_setCell_at (o := 0) hb1, ?_, ?_⟩
  · rw [e]
    have h1' : w1.ownsRow (bp + 1) 4 1 v' (j + 1) (((bitsOf bs).take j ++ [bitAt bs j]).map Value.bool) := by simpa using h1
    exact ownsRow_setCell_other h1' (a := ⟨bp, 0, none⟩) (fun e => by have := (h1'.lt bp e).1; omega) _
  · refine hk.trans ((Kept.trans (Kept.alloc wr o (fun q hq => ?_)) (Kept.grown h2 (fun q hq => ?_) (fun q hq hq2 => ?_))).trans (Kept.setCell _ (fun h => h.2 rfl) _))
    · have := hk.size; omega
    · have := hk.size; simp; omega
    · have := hv q hq; omega

set_option maxRecDepth 100000 in
set_option maxHeartbeats 2000000 in
theorem walk (bs : List Int) (ops : List (Int × Int)) (p : Option Addr) (n cap : Nat) (p2 : Option Addr) (n2 cap2 : Nat) (w : World) (hv : SlI w .u8 (.slice p n cap) bs) (hbt : isBytes bs) (hcap : n ≤ cap) (hm : cap ≤ maxLen) (ho : SlOp w (.slice p2 n2 cap2) ops) :
    Calls Try.prog 6 #[.slice p n cap, .slice p2 n2 cap2] w fun e w' => e = .returned (.bool true) ∧ Old w w' := by
  obtain ⟨i0, hi, hz0, hz1, hz2⟩ := info_parts Try.info4
  have HV0 := Lib.hid hv; have HB0 := Lib.hid hbt; have HO := Lib.hid ho
  clear hv hbt ho
  go_enter Try.func6, Try.ntmps6
  unfold maxLen at hm
  go_upto_if 14 with (fail)
  go_cut [0] (fun v0 wx => B0 w v0 wx)
  case first =>
    by_cases hlen : n ≤ 200
    · have hl31 : ¬ (200 : Int) < (n : Int) := by omega
      go_wp2_with fail
      go_meet
      exact ⟨rfl, p, n, cap, bs, rfl, HV0.out, HB0.out, hlen⟩
    · obtain ⟨b, off, rfl, _⟩ := HV0.out.cellAt.2 (by omega)
      have hv' := Lib.hid (HV0.out.take (m := 200) (by omega))
      have hbt' : isBytes (bs.take 200) := fun x hx => HB0.out x (List.mem_of_mem_take hx)
      have HB1 := Lib.hid hbt'
      clear hbt'
      go_wp2_with fail
      go_meet
      exact ⟨rfl, _, 200, cap, _, rfl, hv'.out, HB1.out, Nat.le_refl _⟩
  case rest =>
    obtain ⟨rfl, p, m, cap, ut, rfl, hv, hbt, hm200⟩ := hcut
    have HV := Lib.hid hv; have HB := Lib.hid hbt
    have hl31 : m < 201 := by omega
    clear hv hbt HV0 HB0 hcap hm
    go_wp2_with fail
    have hml := HV.out.cellAt.1
    have cR := Lib.hid (Read_any _ ut w HV.out HB.out (by omega))
    have HML := Lib.hid hml
    clear hml
    refine cR.out.mono ?_
    rintro e w1 ⟨br, rfl, hr1, ho1, hbr⟩
    have HR1 := Lib.hid hr1; have HO1 := Lib.hid ho1
    clear hr1 ho1 cR
    go_wp2_with fail
    obtain ⟨bp, hbp⟩ : ∃ bp, bp = w1.heap.size := ⟨_, rfl⟩
    rw [← hbp]
    obtain ⟨wp, hwp⟩ : ∃ wp, wp = w1.alloc (.cells #[.slice none 0 0, .int .i64 0] 52) := ⟨_, rfl⟩
    have hsz : wp.heap.size = bp + 1 := by rw [hwp, hbp]; simp
    have hob : Old w wp := HO1.out.trans (by rw [hwp]; exact Old.alloc _ _)
    have hr2 : RdAt wp br ut 0 0 := HR1.out.old (by rw [hwp]; exact Old.alloc _ _)
    have hbrp : br < bp := by rw [hbp]; exact lt_of_block HR1.out.choose_spec.1
    have hst : LB wp bp ut 0 wp := ⟨.slice none 0 0, by rw [hwp, hbp]; exact heap_alloc_new _ _, by simpa using World.ownsRow_nil _ _ _ _, Kept.refl _ _⟩
    have hwle : w.heap.size ≤ br := hbr
    rw [← hwp]
    clear hbp hwp HO1 HR1
    clear w1
    have HST := Lib.hid hst; have HSZ := Lib.hid hsz; have HOB := Lib.hid hob; have HR2 := Lib.hid hr2
    clear hst hsz hob hr2
    go_wp2_with fail
    go_loopw [7] (fun vi wr => ∃ j : Nat, j ≤ 8 * m ∧ vi = .int .i64 j ∧ LB wp bp ut j wr) (fun vi _ => 8 * m - (intOf vi).toNat)
    case atStart => exact ⟨0, by omega, rfl, HST.out⟩
    case round =>
      obtain ⟨j, hj, rfl, hR⟩ := hrel
      by_cases hlt : j < 8 * m
      · have hju : j < 8 * ut.length := by rw [HML.out]; exact hlt
        obtain ⟨b, off, rfl, hbs, hnc, hcm, hcell⟩ := HV.out.cellAt.2 (by omega)
        obtain ⟨v, hb, hown, hk⟩ := hR
        have hcj : wr.cell? ⟨b, off + j / 8, none⟩ = some (.int .u8 (ut.getD (j / 8) 0)) :=
          (hk.cell (a := ⟨b, off + j / 8, none⟩) ⟨by have := HOB.out.size; show b < _; omega, by show b ≠ bp; omega⟩).trans ((HOB.out.cell (a := ⟨b, off + j / 8, none⟩) hbs).trans (hcell (j / 8) (by omega)))
        obtain ⟨c0, c1, f0, f1⟩ := cell2 hb
        have hvb : ∀ q, v.ownBlock = some q → bp < q := fun q hq => (hown.lt q hq).1
        have HNX := Lib.hid (fun v' w1 o h1 h2 => lb_next (v' := v') (w1 := w1) (o := o) HSZ.out hb hvb hk hju h1 h2)
        have hcp := Lib.hid (fun w' => power_any (7 - (j : Int) % 8) w' (by omega) (by omega))
        rw [show (7 - (j : Int) % 8).toNat = 7 - j % 8 by omega] at hcp
        have hy : 0 ≤ ut.getD (j / 8) 0 ∧ ut.getD (j / 8) 0 ≤ 255 := HB.out _ (by simp only [List.getD, List.getElem?_eq_getElem (show j / 8 < ut.length by omega), Option.getD_some]; exact List.getElem_mem _)
        have hp := pw_pos (7 - j % 8)
        have hbit : bitAt ut j = (ut.getD (j / 8) 0 / pw (7 - j % 8) % 2 == 1) := rfl
        rw [hbit] at HNX
        have hsb := hk.size
        have HC0 := Lib.hid (fun (o : Obj) => (⟨(World.cell?_alloc_lt wr o ⟨bp, 0, none⟩ (lt_of_block hb)).trans c0, (World.frozen?_of_block (Below.heap_alloc wr o bp (lt_of_block hb))).trans f0⟩ : (wr.alloc o).drew.cell? ⟨bp, 0, none⟩ = some v ∧ (wr.alloc o).drew.frozen? ⟨bp, 0, none⟩ = false))
        have hlb := lt_of_block hb
        have hne1 : v.ownBlock ≠ some b := fun e => by have := hvb b e; omega
        have hne2 : v.ownBlock ≠ some bp := fun e => by have := hvb bp e; omega
        clear hbit hb hk hcell hvb hju
        generalize ut.getD (j / 8) 0 = y at *
        generalize pw (7 - j % 8) = q at *
        obtain ⟨y0, y1⟩ := hy
        have hd0 : 0 ≤ y / q := Int.ediv_nonneg y0 (by omega)
        have hd1 : y / q ≤ y := Int.ediv_le_self _ y0
        obtain ⟨d, hd⟩ : ∃ d, d = y / q := ⟨_, rfl⟩
        have e1 : y.tdiv q = d := by rw [hd]; exact Int.tdiv_eq_ediv_of_nonneg y0
        rw [← hd] at hd0 hd1 HNX
        have e2 : y / q = d := hd.symm
        have e3 : d.tmod 2 = d % 2 := Int.tmod_eq_emod_of_nonneg hd0
        have e4 : IntKind.i64.wrap d = d := IntWalk.i64_in _ (by omega)
        have e5 : IntKind.i64.wrap (d % 2) = d % 2 := IntWalk.i64_in _ (by omega)
        have e6 : IntKind.i64.wrap y = y := IntWalk.i64_in _ (by omega)
        have hq0 : q ≠ 0 := by omega
        have hqb : (q == 0) = false := by simpa using hq0
        have x1 : IntKind.i64.wrap ((j : Int) / 8) = (j : Int) / 8 := IntWalk.i64_in _ (by omega)
        have x2 : 0 ≤ (j : Int) / 8 := by omega
        have x3 : ((j : Int) / 8).toNat = j / 8 := by omega
        have x4 : (j : Int) / 8 < m := by omega
        have x5 : (j : Int).tmod 8 = (j : Int) % 8 := Int.tmod_eq_emod_of_nonneg (by omega)
        have x6 : IntKind.i64.wrap (7 - (j : Int) % 8) = 7 - (j : Int) % 8 := IntWalk.i64_in _ (by omega)
        clear hd
        go_wp2_with fail
        go_region_law ((first | (refine step_append_lies _ (by rfl) _ _ _ (by rfl) (bp + 1) 4 i0 (.bool false) 1 1 Try.underlying30 hi hz0 hz1 hz2 rfl (by omega) v j _ (by rfl) ((hown.alloc _).drew) ⟨wr.heap.size, 0, none⟩ 1 1 [.bool (d % 2 == 1)] (by rfl) (by rfl) (World.news_of_block (cs := #[.bool (d % 2 == 1)]) (t := 4) (fr := (0, 0)) (heap_alloc_new wr _)) (by simp [Value.oneCell']) (by omega) (by unfold maxLen; omega) (by omega) (by simp; omega) (wr.heap.size + 1) (by simp) ?_; intro g cap1 w1 hown1 hgrow hat hlt1; have k0 := (hgrow.cell_far ⟨bp, 0, none⟩ (by simp; omega) (Ne.symm hne2)).trans (HC0.out _).1; have k1 := (hgrow.frozen_far ⟨bp, 0, none⟩ (by simp; omega) (Ne.symm hne2)).trans (HC0.out _).2; have HN1 := Lib.hid (HNX.out _ _ _ hown1 hgrow); clear hgrow hown1) | (go_simp; go_at_call 22; refine (hcp.out _).mono ?_; rintro e w' ⟨rfl, rfl⟩)))
        all_goals
          go_wp2_with fail
          go_roundw
          case rel => exact ⟨j + 1, by omega, by go_num, HN1.out⟩
          case measure => simp [intOf]; omega
      · obtain rfl : j = 8 * m := by omega
        have hL : L2 w br bp ut wr := by
          obtain ⟨v, hb, hown, hk⟩ := hR
          have hsz := HSZ.out
          have hbl : (bitsOf ut).length = 8 * m := by rw [length_bitsOf, HML.out]
          rw [List.take_of_length_le (by omega)] at hown
          have hp0 : PlAt wp bp [] 0 := by
            obtain ⟨v3, hb3, ho3, _⟩ := HST.out
            exact ⟨v3, hb3, by simpa using SlV.own ho3, (fun q hq => by have := (ho3.lt q hq).1; omega), by simp⟩
          exact ⟨⟨0, bitsOf ut, 0, HR2.out.keptP hp0 hk, ⟨v, hb, SlV.own hown, (fun q hq => by have := (hown.lt q hq).1; omega), by omega⟩, fun _ => rfl⟩, hwle, by omega, HOB.out.after hk fun q hq => ⟨by have := HOB.out.size; omega, by omega⟩⟩
        have HL := Lib.hid hL
        clear hL hR HST HSZ HOB HR2 HV HB HML
        obtain ⟨pp2, cp2, e2, hn2l, hop, hoc⟩ := HO.out
        simp only [Value.slice.injEq] at e2
        obtain ⟨rfl, hn2, rfl⟩ := e2
        have hn263 : n2 ≤ 9223372036854775807 := by omega
        have HN2 := Lib.hid hn2; have HOP := Lib.hid hop; have HOC := Lib.hid hoc
        clear hn2 hop hoc HO hn2l
        go_wp2_with fail
        go_loopg [8] n2 (fun g vi wr => ∃ j : Nat, g + j = n2 ∧ j ≤ 40 ∧ vi = .int .i64 j ∧ L2 w br bp ut wr)
        case atStart => exact ⟨0, by omega, by omega, rfl, HL.out⟩
        case round =>
          obtain ⟨j, hj, hj40, rfl, hR⟩ := hrel
          by_cases hlt : j < n2 ∧ j < 40
          · obtain ⟨hlt, hl40⟩ := hlt
            obtain ⟨b, off, rfl, hb, hcell⟩ := HOC.out (by intro e; have := HN2.out; rw [e] at this; simp at this; omega)
            have hjl : j < ops.length := by rw [← HN2.out]; exact hlt
            obtain ⟨x, hx⟩ : ∃ x, ops[j]? = some x := ⟨_, List.getElem?_eq_getElem hjl⟩
            have hxr := HOP.out x (List.mem_of_getElem? hx)
            obtain ⟨xk, xv⟩ := x
            obtain ⟨y0, y1⟩ := hcell j _ hx
            have z0 := (hR.2.2.2.cell (a := ⟨b, off + j * 2, none⟩) hb).trans y0
            have z1 := (hR.2.2.2.cell (a := ⟨b, off + j * 2 + 1, none⟩) hb).trans y1
            simp only [] at hxr z0 z1
            have HR := Lib.hid hR
            clear hR hx hcell y0 y1 hjl
            go_upto_block 4 with (fail)
            have hal := Old.alloc wr (.cells #[.int .i64 xk, .int .i64 xv] 54)
            have hnew : (wr.alloc (.cells #[.int .i64 xk, .int .i64 xv] 54)).cell? ⟨wr.heap.size, 1, none⟩ = some (.int .i64 xv) := (cell2 (heap_alloc_new wr _)).2.1
            obtain ⟨⟨i, l, er, h1, h2, hl⟩, h7, h8, h9⟩ := HR.out
            have hst : ST w wr.heap.size xv br bp ut i er l er (wr.alloc (.cells #[.int .i64 xk, .int .i64 xv] 54)) :=
              ⟨h1.old hal, h2.kept hal (fun q hq => hq), hnew, by obtain ⟨_, hb1, _⟩ := h1; have := lt_of_block hb1; omega, by obtain ⟨_, hb1, _⟩ := h2; have := lt_of_block hb1; omega, by simp, h7, h8, h9.trans hal⟩
            have hi : i ≤ 8 * ut.length := by obtain ⟨_, _, _, _, _, _, h6⟩ := h1; exact h6
            have HI := Lib.hid hi; have HLL := Lib.hid hl; have HS0 := Lib.hid hst
            clear hal hnew h1 h2 hl h7 h8 h9 hst hi HR z0 z1
            go_cut [10] (fun v10 wx => v10 = .bool true ∧ L2 w br bp ut wx)
            case first =>
              generalize hwo : wr.alloc (.cells #[.int .i64 xk, .int .i64 xv] 54) = wo at *
              generalize wr.heap.size = bo at *
              clear hwo
              have hc1 := HS0.out.drew.2.2.1
              by_cases hk0 : xk = 0
              · subst hk0
                obtain ⟨g1, g2, g3⟩ := get_both ut i l er xv HLL.out HI.out
                have cG := Lib.hid (Get_st HS0.out.drew xv)
                have cP := Lib.hid (fun w1 (h1 : ST w bo xv br bp ut (getTo ut i er xv).2.1 (getTo ut i er xv).2.2 l er w1) => pget_st h1 xv)
                rw [g1] at cG
                have HG2 := Lib.hid g2; have HG3 := Lib.hid g3
                clear g1 g2 g3 HLL HI HS0 hxr
                go_wp2_with fail
                go_region_held3 (fun w' => w'.cell? ⟨bo, 1, none⟩ = some (.int .i64 xv)) (first | exact hc1 | exact hd1 | exact hd2)
                  ((first
                    | (go_at_call 19; refine cG.out.mono ?_; rintro e w1 ⟨rfl, hs1⟩; have hd1 := hs1.2.2.1; have HS1 := Lib.hid hs1; clear hs1)
                    | (go_at_call 23; refine (cP.out _ HS1.out).mono ?_; rintro e w2 ⟨rfl, hs2⟩; have hd2 := hs2.2.2.1; have HS2 := Lib.hid hs2; clear hs2)))
                all_goals
                  go_wp2_with fail
                  go_meet
                  exact ⟨rfl, L2.of HS2.out HG2.out (fun h => HG3.out (by rw [← HG2.out]; exact h))⟩
              · have hb0 : (xk == 0) = false := by simpa using hk0
                by_cases hk1 : xk = 1
                · subst hk1
                  obtain ⟨g1, g2, g3⟩ := get_both ut i l er xv HLL.out HI.out
                  have cG := Lib.hid (RSigned_st HS0.out.drew xv hxr)
                  have cP := Lib.hid (fun w1 (h1 : ST w bo xv br bp ut (getTo ut i er xv).2.1 (getTo ut i er xv).2.2 l er w1) => psigned_st h1 xv)
                  rw [sgn_both ut i l er xv HLL.out HI.out] at cG
                  have HG2 := Lib.hid g2; have HG3 := Lib.hid g3
                  clear g1 g2 g3 HLL HI HS0 hxr hb0 hk0
                  go_wp2_with fail
                  go_region_held3 (fun w' => w'.cell? ⟨bo, 1, none⟩ = some (.int .i64 xv)) (first | exact hc1 | exact hd1 | exact hd2)
                    ((first
                      | (go_at_call 18; refine cG.out.mono ?_; rintro e w1 ⟨rfl, hs1⟩; have hd1 := hs1.2.2.1; have HS1 := Lib.hid hs1; clear hs1)
                      | (go_at_call 24; refine (cP.out _ HS1.out).mono ?_; rintro e w2 ⟨rfl, hs2⟩; have hd2 := hs2.2.2.1; have HS2 := Lib.hid hs2; clear hs2)))
                  all_goals
                    go_wp2_with fail
                    go_meet
                    exact ⟨rfl, L2.of HS2.out HG2.out (fun h => HG3.out (by rw [← HG2.out]; exact h))⟩
                · have hb1 : (xk == 1) = false := by simpa using hk1
                  have hc1 := HS0.out.2.2.1
                  by_cases hk2 : xk = 2
                  · subst hk2
                    have cF := Lib.hid (Fail_st HS0.out xv)
                    clear hk0 hk1 hb0 hb1
                    by_cases her : er = 0
                    · subst her
                      simp only [if_true] at cF
                      clear HS0
                      go_wp2_with fail
                      refine cF.out.mono ?_
                      rintro e w1 ⟨rfl, hs1⟩
                      have hd1 := hs1.2.2.1
                      have hp1 := hs1.2.1
                      have hset := hs1.pl (hp1.set1 (e := xv)).1 (hp1.set1 (e := xv)).2
                      obtain ⟨vp, hbp, _⟩ := hp1
                      obtain ⟨c0, c1, f0, f1⟩ := cell2 hbp
                      have HS2 := Lib.hid hset
                      clear hs1 hbp hset
                      go_wp2_with fail
                      go_meet
                      exact ⟨rfl, L2.of HS2.out rfl (fun h => by first | exact HLL.out rfl | exact HLL.out trivial)⟩
                    · rw [if_neg her] at cF
                      have heb : (er == 0) = false := by simpa using her
                      clear HS0
                      go_wp2_with fail
                      refine cF.out.mono ?_
                      rintro e w1 ⟨rfl, hs1⟩
                      have hd1 := hs1.2.2.1
                      have hp1 := hs1.2.1
                      obtain ⟨vp, hbp, _⟩ := hp1
                      obtain ⟨c0, c1, f0, f1⟩ := cell2 hbp
                      have HS2 := Lib.hid hs1
                      clear hs1 hbp her
                      go_wp2_with fail
                      go_meet
                      exact ⟨rfl, L2.of HS2.out rfl HLL.out⟩
                  · have hb2 : (xk == 2) = false := by simpa using hk2
                    have cE := Lib.hid (End_st HS0.out)
                    rw [end_both ut i l er HLL.out] at cE
                    clear hk0 hk1 hk2 HLL HI HS0
                    go_wp2_with fail
                    refine cE.out.mono ?_
                    rintro e w1 ⟨rfl, i1, hi1, hs1⟩
                    have cP := Lib.hid (pend_st hs1)
                    have HI1 := Lib.hid hi1
                    clear hi1 hs1
                    go_wp2_with fail
                    refine cP.out.mono ?_
                    rintro e w2 ⟨rfl, hs2⟩
                    have HS2 := Lib.hid hs2
                    clear hs2
                    go_wp2_with fail
                    go_meet
                    exact ⟨rfl, L2.of HS2.out rfl (fun h => by rw [HI1.out h, List.drop_eq_nil_of_le (by rw [length_bitsOf]; exact Nat.le_refl _)])⟩
            case rest =>
              obtain ⟨rfl, hL⟩ := hcut
              obtain ⟨⟨i, l, er, h1, h2, hl⟩, h7, h8, h9⟩ := hL
              have HL1 := Lib.hid (show L2 w br bp ut wc from ⟨⟨i, l, er, h1, h2, hl⟩, h7, h8, h9⟩)
              have hd : ∀ n, RdAt (wc.drewN n) br ut i er := fun n => h1.kept ((Kept.refl (fun _ => True) wc).drewN n) (fun _ _ => trivial)
              have cE := Lib.hid (fun n => Err_any br ut i er (wc.drewN n) (hd n))
              have cL := Lib.hid (fun n => Left_any br ut i er (wc.drewN n) (hd n))
              have hlen : er = 0 → l.length = 8 * ut.length - i := fun h => by rw [hl h, List.length_drop, length_bitsOf]
              obtain ⟨vp, hb2, hs2, _⟩ := h2
              obtain ⟨pl, nl, cl, rfl⟩ : ∃ p n cap, vp = .slice p n cap := by obtain ⟨p, cap, rfl, _⟩ := hs2; exact ⟨_, _, _, rfl⟩
              have hnl := (bool_cell hs2).1
              obtain ⟨c0, c1, f0, f1⟩ := cell2 hb2
              clear h1 hb2 hs2 h7 h8 h9 hd hl HLL HI HS0
              by_cases her : er = 0
              · subst her
                simp only [if_true] at cL
                rw [← hlen rfl, ← hnl] at cL
                clear hlen hnl
                go_wp2_with fail
                go_quiet ((first | (go_at_call 27; exact Calls.quiet_of_same ((cE.out _).mono fun _ _ hh => ⟨hh.1, hh.2.symm⟩)) | (go_at_call 20; exact Calls.quiet_of (cL.out _))))
                go_wp2_with fail
                go_roundg (gk - 1)
                case measure => omega
                case rel => exact ⟨j + 1, by omega, by omega, by go_num, HL1.out.of_drewN _⟩
              · rw [if_neg her] at cL
                have hne : (er != 0) = true := by simpa using her
                clear hlen hnl her
                go_wp2_with fail
                go_quiet ((first | (go_at_call 27; exact Calls.quiet_of_same ((cE.out _).mono fun _ _ hh => ⟨hh.1, hh.2.symm⟩)) | (go_at_call 20; exact Calls.quiet_of (cL.out _))))
                go_wp2_with fail
                go_roundg (gk - 1)
                case measure => omega
                case rel => exact ⟨j + 1, by omega, by omega, by go_num, HL1.out.of_drewN _⟩
          · have HO9 := Lib.hid hR.2.2.2
            have hlt' : ¬ j < n2 ∨ ¬ j < 40 := by omega
            clear hR HL HN2 HOP HOC hlt
            by_cases hjn : j < n2
            case' pos => have hj4 : ¬ j < 40 := by omega
            all_goals
              clear hlt'
              go_wp2_with fail
              refine (awake_any _).mono ?_
              rintro e w5 ⟨rfl, ho5⟩
              have HO5 := Lib.hid ho5
              clear ho5
              go_wp2
              go_ret
              exact ⟨rfl, HO9.out.trans HO5.out⟩
theorem u8_range {x : Int} (h : (Lit.int .u8 x).wf = true) : 0 ≤ x ∧ x ≤ 255 := by simpa [Lit.wf, IntKind.min, IntKind.max, IntKind.signed, IntKind.bits] using h

theorem own : ownKnob Try.prog.godebug = none := by kernel_rfl
theorem laidOut : laidOutB Try.prog = true := by kernel_rfl

set_option maxRecDepth 100000 in
theorem lifted (os : Os) (started : os.Started) (H : Type) (enc : TypeId × Value → H) :
    ReturnsInHanded {} Try.checked os 6 .any (Rows.bitsReadsSpec.pre6 enc Try.prog Try.f6 Rows.bitsReadsRow.domain false) (Rows.bitsReadsSpec.post enc Try.prog Try.f6 false true false false) := by
  refine returnsInHanded_of_change (C := Try.checked) own started (by kernel_rfl) Try.func6
    (ChangeSpec.witness6 (enc := enc) (C := Try.checked) false ⟨#[], #[.slice none 0 0, .slice none 0 0], []⟩ 8 (by kernel_rfl) (by kernel_rfl) (by kernel_rfl) (by kernel_rfl)) ?_
  intro W base args ds gs before hval0 hW hcnd _
  have hval : ∀ (j : Nat) t v, Try.f6.params[j]? = some t → args[j]? = some v → Value.okWide Try.prog W .any base t v := hval0
  have hW' := hW
  have hlt : ∀ p ∈ before, p.block < W.heap.size := fun p hp => hW'.lt p hp
  obtain ⟨p, q, hA0, hV, rfl, hfz, hnd⟩ := hW
  have hA : DataW.TrodAll enc Try.prog W 0 (fun _ => true) true Try.f6.params.toList args.toList ds p := hA0
  rw [Try.params6] at hA hval
  obtain ⟨v0, vs0, d0, ds0, p0, q0, hargs, rfl, rfl, h0, r0⟩ := trodAll_cons hA
  obtain ⟨v1, vs1, d1, ds1, p1, q1, rfl, rfl, rfl, h1, r1⟩ := trodAll_cons r0
  obtain ⟨rfl, rfl, rfl⟩ := trodAll_nil r1
  obtain rfl : args = #[v0, v1] := by cases args; simp_all
  obtain ⟨rfl, rfl⟩ := trodVars_none hV
  obtain ⟨s0, n0, c0, xs0, rfl, hs0, hn0, hc0, hw0⟩ := open_slI Try.underlying26 Try.underlying5 (by kernel_rfl) (hval 0 26 v0 rfl rfl) h0 (fun x hx => hlt x (by simp [hx]))
  obtain ⟨s1, n1, c1, ops, rfl, hs1⟩ := open_slOp (hval 1 49 v1 rfl rfl) h1 (fun x hx => hlt x (by simp [hx]))
  refine (walk xs0 ops s0 n0 c0 s1 n1 c1 W hs0 (fun x hx => u8_range (hw0 x hx)) hn0 hc0 hs1).mono fun e W' ⟨he, hg⟩ => ?_
  subst he
  exact ⟨_, rfl, law_done laidOut Try.underlying4 rfl (by kernel_rfl) rfl hW' rfl hg⟩

theorem over : Rows.bitsReadsRow.holds Try.pinned (OpenSpec.ofChange Rows.bitsReadsSpec) :=
  OpenClaim.holds_of_wide 6 Try.f6 rfl rfl rfl rfl rfl rfl rfl ⟨rfl, rfl, rfl, rfl, rfl⟩ rfl rfl rfl rfl rfl (by kernel_rfl) Try.func6 (by kernel_rfl)
    (of_decide_eq_true (by kernel_rfl)) (by unfold Func.isWrapper; first | (rw [if_pos (by decide +kernel)]; kernel_rfl) | (rw [if_neg (by decide +kernel)]; exact ⟨rfl, rfl⟩))
    (fun os started H enc _ => lifted os started H enc)

theorem proved : Rows.BitsReadsSaid :=
  over
end Go.Proofs.Ytbbjleblfhaclaa.bitsReads
