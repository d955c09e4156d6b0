/- VeilPlays: what stands for frames that come, and are lost. -/
import Derived.Test.YtlaoamlmpdbmmaaRows
import Derived.Test.YtlaoamlmpdbmmaaAwk19
import Derived.Test.YtlaoamlmpdbmmaaStepArg
import Derived.Deep.RegionHeld
import Derived.BigQuiet
namespace Go.Proofs.Ytlaoamlmpdbmmaa.veilPlays
open Go.ChangeShapes Go.WideShapes Go.ChangeAt Go.RowKit
set_option linter.unusedVariables false
set_option linter.unusedSimpArgs false

/-- The veil, and the law's own last piece. -/
structure PlR (w : World) (vb lb l : Nat) (P : Nat → Int) (wr : World) : Prop where
  vl : VlB wr vb P l
  la : wr.heap[lb]? = some (.cells (rowN 20 (blk P)) 28 (0, 0))
  sm : Sml P
  old : Old w wr
  nv : w.heap.size ≤ vb
  nl : w.heap.size ≤ lb
namespace PlR
variable {w wr w' : World} {vb lb l : Nat} {P : Nat → Int}
theorem ne (h : PlR w vb lb l P wr) : vb ≠ lb := fun e => by
  have h1 := h.vl.heap
  rw [e, h.la] at h1
  simp only [Option.some.injEq, Obj.cells.injEq] at h1
  exact absurd h1.2.1 (by decide)
theorem keep (h : PlR w vb lb l P wr) (k : Old wr w') : PlR w vb lb l P w' := ⟨h.vl.old k, (k.block _ (lt_of_block h.la)).trans h.la, h.sm, h.old.trans k, h.nv, h.nl⟩
/-- The veil has met something. -/
theorem met (h : PlR w vb lb l P wr) (k : Kept (butOf wr vb) wr w') : w'.heap[lb]? = some (.cells (rowN 20 (blk P)) 28 (0, 0)) ∧ Old w w' :=
  ⟨(k.block lb ⟨lt_of_block h.la, fun e => h.ne e.symm⟩).trans h.la, h.old.after k fun q hq => ⟨Nat.lt_of_lt_of_le hq h.old.size, fun e => by have := h.nv; omega⟩⟩
theorem row {Q : Nat → Int} {l' : Int} {z : Array Value} (hn : vb ≠ lb) (hv : VlB w' vb Q l') (hl : w'.heap[lb]? = some (.cells z 28 (0, 0))) (ho : Old w w') (nl : w.heap.size ≤ lb) (R : Nat → Int) : VlB (w'.setRow lb (rowN 20 (blk R))) vb Q l' ∧ (w'.setRow lb (rowN 20 (blk R))).heap[lb]? = some (.cells (rowN 20 (blk R)) 28 (0, 0)) ∧ Old w (w'.setRow lb (rowN 20 (blk R))) :=
  ⟨(setRow_other _ _ _ _ hn).trans hv, setRow_heap _ _ _ _ _ _ hl, (row_ret hl ho nl _).2⟩
end PlR
/-- The law's piece that is halved. -/
structure QbR (w : World) (vb lb l qb : Nat) (P V : Nat → Int) (wr : World) : Prop where
  pl : PlR w vb lb l P wr
  q : wr.heap[qb]? = some (.cells (rowN 20 (blk V)) 28 (0, 0))
  nq : w.heap.size ≤ qb
  ne : lb ≠ qb
namespace QbR
variable {w wr w' : World} {vb lb l qb : Nat} {P V : Nat → Int}
theorem nv (h : QbR w vb lb l qb P V wr) : vb ≠ qb := fun e => by
  have h1 := h.pl.vl.heap
  rw [e, h.q] at h1
  simp only [Option.some.injEq, Obj.cells.injEq] at h1
  exact absurd h1.2.1 (by decide)
theorem kept (h : QbR w vb lb l qb P V wr) (k : Kept (fun q => q ≠ qb) wr w') (Q : Nat → Int) (hq : w'.heap[qb]? = some (.cells (rowN 20 (blk Q)) 28 (0, 0))) : QbR w vb lb l qb P Q w' :=
  ⟨⟨h.pl.vl.kept k h.nv, (k.block _ h.ne).trans h.pl.la, h.pl.sm, h.pl.old.after k fun q hq e => by have := h.nq; omega, h.pl.nv, h.pl.nl⟩, hq, h.nq, h.ne⟩
theorem cell (h : QbR w vb lb l qb P V wr) (j : Nat) (hj : j < 20) : wr.cell? ⟨qb, j, none⟩ = some (.int .i64 (V j)) ∧ wr.frozen? ⟨qb, j, none⟩ = false :=
  ⟨(cell_of_row _ _ _ _ _ _ h.q).trans (blk_at 20 V j hj), frozen_of_row _ _ _ _ _ h.q⟩
theorem set (h : QbR w vb lb l qb P V wr) (j : Nat) (hj : j < 20) (v : Int) : QbR w vb lb l qb P (fun k => if k = j then v else V k) (wr.setCell ⟨qb, j, none⟩ (.int .i64 v)) := by
  refine h.kept (Kept.setCell wr (a := ⟨qb, j, none⟩) (fun e => e rfl) _) _ ?_
  rw [← blk_upd, ← rowN_set 20 _ j _ hj]
  exact heap_setCell_same _ _ _ _ _ _ h.q
theorem row (h : QbR w vb lb l qb P V wr) (Q : Nat → Int) : QbR w vb lb l qb P Q (wr.setRow qb (rowN 20 (blk Q))) :=
  h.kept (show Kept (fun q => q ≠ qb) wr (wr.setRow qb (rowN 20 (blk Q))) from ⟨rfl, rfl, by simp, fun k hk => setRow_other _ _ _ _ hk⟩) _ (setRow_heap _ _ _ _ _ _ h.q)
end QbR
theorem cutTo_ext {P Q : Nat → Int} (k n : Nat) (h : ∀ j, P j = Q j) : cutTo P k n = cutTo Q k n := by rw [show P = Q from funext h]
set_option maxRecDepth 100000 in
set_option maxHeartbeats 4000000 in
theorem walk (p : Option Addr) (n c : Nat) (K : Nat → Int) (L : Nat → Fr) (w : World) (hn : n ≤ c) (hc : c ≤ maxLen) (hS : StpS w p n K L) :
    Calls Try.prog 3 #[.slice p n c] w fun e w' => e = .returned (.bool true) ∧ Old w w' := by
  have Hs29 : Hid ((Try.prog.info? 33).map (·.size) = some 29) := Lib.hid (by kernel_rfl)
  have Hs20 : Hid ((Try.prog.info? 28).map (·.size) = some 20) := Lib.hid (by kernel_rfl)
  have Hs4 : Hid ((Try.prog.info? 26).map (·.size) = some 4) := Lib.hid (by kernel_rfl)
  unfold maxLen at hc
  obtain ⟨N, hN⟩ : ∃ N, N = min n 40 := ⟨_, rfl⟩
  have N1 : N ≤ n := by omega
  have N2 : N ≤ 40 := by omega
  obtain ⟨z, hz⟩ : ∃ z : Array Value, z = #[.int .i64 0, .int .i64 0, .int .i64 0, .int .i64 0, .int .i64 0, .int .i64 0, .int .i64 0, .int .i64 0, .int .i64 0, .int .i64 0, .int .i64 0, .int .i64 0, .int .i64 0, .int .i64 0, .int .i64 0, .int .i64 0, .int .i64 0, .int .i64 0, .int .i64 0, .int .i64 0, .int .i64 0] := ⟨_, rfl⟩
  obtain ⟨x, hx⟩ : ∃ x : Array Value, x = #[.int .i64 0, .int .i64 0, .int .i64 0, .int .i64 0, .int .i64 0, .int .i64 0, .int .i64 0, .int .i64 0, .int .i64 0, .int .i64 0, .int .i64 0, .int .i64 0, .int .i64 0, .int .i64 0, .int .i64 0, .int .i64 0, .int .i64 0, .int .i64 0, .int .i64 0, .int .i64 0] := ⟨_, rfl⟩
  have xs : Hid (x.size = 20) := Lib.hid (by rw [hx]; rfl)
  have x1 : Hid (x.all (·.oneCell') = true) := Lib.hid (by rw [hx, ← row20_zero]; exact blk_one _ _)
  have xr : Hid (x = rowN 20 (blk fun _ => 0)) := Lib.hid (by rw [hx, row20_zero])
  obtain ⟨y, hy⟩ : ∃ y : Array Value, y = rowN 29 (frC (fun _ => 0) (.slice none 0 0)) := ⟨_, rfl⟩
  have ys : Hid (y.size = 29) := Lib.hid (by rw [hy, rowN_size])
  rw [frC_zero] at hy
  obtain ⟨vb, hvb⟩ : ∃ vb, vb = w.heap.size := ⟨_, rfl⟩
  obtain ⟨W0, hW0⟩ : ∃ W0, W0 = ((w.alloc (.cells z 30)).alloc (.cells x 28)).setRow (vb + 1) x := ⟨_, rfl⟩
  have H0 : Hid (PlR w vb (vb + 1) 0 (fun _ => 0) W0) := Lib.hid (by
    have h1 := heap_alloc2_old w (.cells z 30) (.cells x 28)
    have h2 := heap_alloc2_new w (.cells z 30) (.cells x 28)
    rw [← hvb] at h1 h2
    have h3 := (setRow_other ((w.alloc (.cells z 30)).alloc (.cells x 28)) (vb + 1) vb x (by omega)).trans h1
    have h4 := row_ret h2 ((Old.alloc w _).alloc' _) (by omega) x
    rw [← hW0] at h3 h4
    refine ⟨?_, by rw [← xr.out]; exact h4.1, sml_zero, h4.2, by omega, by omega⟩
    unfold VlB
    rw [show vlF (fun _ => 0) ((0 : Nat) : Int) = fun _ => 0 from vlF_zero, row21_zero, ← hz]
    exact h3)
  have HS := Lib.hid hS
  have Hz := Lib.hid hz
  have Hx := Lib.hid hx
  have Hy := Lib.hid hy
  have HW0 := Lib.hid hW0
  have HN := Lib.hid hN
  have Hvb := Lib.hid hvb
  clear hS hz hx hy hW0 hN hvb
  go_enter Try.func3, Try.ntmps3
  go_wp2_with (rw [← Hx.out]; with_reducible refine wpList_store_row rfl 28 _ _ rfl (w.heap.size + 1) x rfl rfl 28 _ (heap_alloc2_new _ _ _) (by rw [xs.out]; exact Hs20.out) rfl x1.out ?_)
  rw [← Hz.out, ← Hvb.out, ← HW0.out]
  obtain ⟨lb, hlb⟩ : ∃ lb, lb = vb + 1 := ⟨_, rfl⟩
  rw [← hlb] at H0 ⊢
  clear hlb
  go_loopw [5, 6] (fun lv iv wr => ∃ (k l : Nat) (P : Nat → Int), k ≤ N ∧ l ≤ k ∧ lv = .int .i64 l ∧ iv = .int .i64 k ∧ Hid (PlR w vb lb l P wr)) (fun _ iv _ => N - (intOf iv).toNat)
  case atStart => exact ⟨0, 0, _, by omega, by omega, rfl, rfl, H0⟩
  case round =>
    obtain ⟨k, l, P, hk, hl, rfl, rfl, HR⟩ := hrel
    clear H0 HW0 Hvb Hz
    have k0 : (0 : Int) ≤ k := by omega
    go_upto_region 5 with (fail)
    go_cut [21] (fun v wx => v = .bool (decide (k < n ∧ k < 40)) ∧ wr = wx)
    case first =>
      clear HR HS HN
      by_cases a1 : k < n
      · by_cases a2 : k < 40
        · have He := Lib.hid (show decide (k < n ∧ k < 40) = true from decide_eq_true ⟨a1, a2⟩)
          go_wp2_with fail
          go_meet
          exact ⟨by first | (rw [He.out]; done) | (rw [He.out]; exact congrArg Value.bool (decide_eq_true (by omega))) | (rw [He.out]; exact congrArg Value.bool (decide_eq_false (by omega))), rfl⟩
        · have He := Lib.hid (show decide (k < n ∧ k < 40) = false from decide_eq_false fun h => a2 h.2)
          go_wp2_with fail
          go_meet
          exact ⟨by first | (rw [He.out]; done) | (rw [He.out]; exact congrArg Value.bool (decide_eq_true (by omega))) | (rw [He.out]; exact congrArg Value.bool (decide_eq_false (by omega))), rfl⟩
      · have He := Lib.hid (show decide (k < n ∧ k < 40) = false from decide_eq_false fun h => a1 h.1)
        go_wp2_with fail
        go_meet
        exact ⟨by first | (rw [He.out]; done) | (rw [He.out]; exact congrArg Value.bool (decide_eq_true (by omega))) | (rw [He.out]; exact congrArg Value.bool (decide_eq_false (by omega))), rfl⟩
    case rest =>
      obtain ⟨rfl, rfl⟩ := hcut
      by_cases hlt : k < N
      · have hlt1 : k < n := by omega
        rw [decide_eq_true (show k < n ∧ k < 40 from ⟨hlt1, by omega⟩)]
        have htw : ToV (fun _ => False) w (L k) := by
          obtain ⟨_, _, _, _, hLw⟩ := HS.out (by omega)
          exact (hLw k hlt1).2.2.1
        obtain ⟨g, o, rfl, hg, hLc⟩ := (HS.out.old HR.out.old) (by omega)
        obtain ⟨ck0, hld, _, hft⟩ := hLc k hlt1
        obtain ⟨q', c', hs, h1, h2, h3, _⟩ := htw
        have h3' := slF_less h3 (Nat.min_le_left (L k).n 5)
        have HFa := Lib.hid (fun W => Few_any (L k).F q' (L k).n c' W h1 h2)
        have HRt := Lib.hid (fun W (ho : Old w W) => FRight_any (L k).F q' (min (L k).n 5) c' (L k).T W (h3'.old ho) hft (by have := Nat.min_le_left (L k).n 5; omega) h2)
        have HLd := Lib.hid hld
        rw [hs] at HLd
        have Hs3 := Lib.hid h3'
        have m5 : min (L k).n 5 ≤ c' := by have := Nat.min_le_left (L k).n 5; omega
        have Hc2 := Lib.hid h2
        clear hLc hld hs h1 h2 h3 h3' hft HS
        generalize (L k).F = F at *
        generalize (L k).T = T at *
        obtain ⟨m, hm⟩ : ∃ m, min (L k).n 5 = m := ⟨_, rfl⟩
        rw [hm] at HFa HRt Hs3 m5
        have H29 : Hid ((rowN 29 (frC F (.slice q' m c'))).all (·.oneCell') = true) := Lib.hid (frC_one _ _ rfl)
        generalize (L k).n = m0 at *
        clear hm
        have Hm5 := Lib.hid m5
        clear m5
        obtain ⟨kk, hkk⟩ : ∃ kk, K k = kk := ⟨_, rfl⟩
        rw [hkk] at ck0
        have Hck := Lib.hid ck0
        clear hkk ck0
        go_wp2_with (with_reducible refine wpList_load_fr rfl (frC F (.slice q' m0 c')) 33 _ rfl g (o + k * 30 + 1) rfl _ HLd.out Try.underlying33 rfl Hs29.out ?_)
        refine (HFa.out _).mono ?_
        rintro e w1 ⟨rfl, o1⟩
        have o12 := o1.alloc' (.cells (rowN 29 (frC F (.slice q' m c'))) 33)
        have hfb := FrB.new (t := 33) w1 F (.slice q' m c')
        have hR2 := HR.out.keep o12
        have ck : (w1.alloc (.cells (rowN 29 (frC F (.slice q' m c'))) 33)).cell? ⟨g, o + k * 30, none⟩ = some (.int .i64 kk) := (o12.cell (a := ⟨g, o + k * 30, none⟩) hg).trans Hck.out
        obtain ⟨W2, hW2⟩ : ∃ W2, W2 = w1.alloc (.cells (rowN 29 (frC F (.slice q' m c'))) 33) := ⟨_, rfl⟩
        obtain ⟨fb, hfbe⟩ : ∃ fb, fb = w1.heap.size := ⟨_, rfl⟩
        rw [← hW2, ← hfbe] at hfb
        rw [← hW2] at hR2 ck o12
        have HFb := Lib.hid hfb
        have HR2 := Lib.hid hR2
        have HO2 := Lib.hid o12
        have HW2 := Lib.hid hW2
        have Hfb := Lib.hid hfbe
        have Hhl := Lib.hid hl
        clear hfb hR2 hW2 hfbe o1 o12 HR HFa HLd hg Hck hlt1
        by_cases h4 : kk = 4
        · subst h4
          clear HRt Hs3 Hm5 Hc2
          go_wp2_with (rw [← Hy.out]; with_reducible refine wpList_store_row rfl 33 _ _ rfl w1.heap.size (rowN 29 (frC F (.slice q' m c'))) rfl rfl 33 _ (heap_alloc_new _ _) (by rw [rowN_size]; exact Hs29.out) (by rw [rowN_size]; exact ys.out) H29.out ?_; rw [World.setRow_alloc_new, ← HW2.out, ← Hfb.out])
          refine (Clear_any vb P l W2 HR2.out.vl).mono ?_
          rintro e W3 ⟨rfl, hv3, hk3⟩
          obtain ⟨hl3, ho3⟩ := HR2.out.met hk3
          have HL3 := Lib.hid hl3
          obtain ⟨a1, a2, a3⟩ := PlR.row HR2.out.ne hv3 hl3 ho3 HR2.out.nl (fun _ => 0)
          rw [← xr.out] at a1 a2 a3
          have HPn : Hid (PlR w vb lb 0 (fun _ => 0) (W3.setRow lb x)) := Lib.hid ⟨a1, by rw [a2, xr.out], sml_zero, a3, HR2.out.nv, HR2.out.nl⟩
          have HLo := Lib.hid (Lost_any vb _ _ _ HPn.out.vl)
          clear hv3 hk3 hl3 ho3 a1 a2 a3 HR2 HFb ck HO2
          go_wp2_with (rw [← Hx.out]; with_reducible refine wpList_store_row rfl 28 _ _ rfl lb x rfl rfl 28 _ HL3.out (by rw [xs.out]; exact Hs20.out) (by rw [xs.out, rowN_size]) x1.out ?_)
          refine (HLo.out).mono ?_
          rintro e wz ⟨rfl, rfl⟩
          clear HLo
          go_wp2_with fail
          go_roundw
          case rel => exact ⟨k + 1, 0, _, by omega, by omega, rfl, by go_num, HPn⟩
          case measure => (simp [intOf]; try omega)
        · have d4 : (kk == 4) = false := by simpa using h4
          go_upto_region 13 with (rw [← Hy.out]; with_reducible refine wpList_store_row rfl 33 _ _ rfl w1.heap.size (rowN 29 (frC F (.slice q' m c'))) rfl rfl 33 _ (heap_alloc_new _ _) (by rw [rowN_size]; exact Hs29.out) (by rw [rowN_size]; exact ys.out) H29.out ?_; rw [World.setRow_alloc_new, ← HW2.out, ← Hfb.out])
          clear ck d4
          have HR2o := Lib.hid HR2.out.old
          go_cut [41] (fun v wx => v = .bool (decide (kk = 2 ∨ kk = 3)) ∧ W2 = wx)
          case first =>
            clear HR2 HR2o HFb HRt Hs3
            by_cases a1 : kk = 2
            · subst a1
              go_wp2_with fail
              go_meet
              exact ⟨rfl, rfl⟩
            · have d1 : (kk == 2) = false := by simpa using a1
              by_cases a2 : kk = 3
              · subst a2
                go_wp2_with fail
                go_meet
                exact ⟨rfl, rfl⟩
              · have d2 : (kk == 3) = false := by simpa using a2
                have He : Hid (decide (kk = 2 ∨ kk = 3) = false) := Lib.hid (decide_eq_false fun h => h.elim a1 a2)
                go_wp2_with fail
                go_meet
                exact ⟨by rw [He.out], rfl⟩
          case rest =>
            obtain ⟨rfl, rfl⟩ := hcut
            by_cases h23 : kk = 2 ∨ kk = 3
            · rw [decide_eq_true h23]
              clear HRt Hs3 Hm5 Hc2 HFb h23 h4
              have hl1 : ((l + 1 : Nat) : Int) = (l : Int) + 1 := by omega
              have l0 : (0 : Int) ≤ l := by omega
              have l2 : (l : Int) ≤ 40 := by omega
              have hq3 : QbR w vb lb l W2.heap.size P (cutTo P (l + 1) 0) (W2.alloc (.cells (rowN 20 (blk P)) 28)) := by
                rw [cutTo_zero]
                exact ⟨HR2.out.keep (Old.alloc W2 _), heap_alloc_new _ _, HR2.out.old.size, fun e => by have := lt_of_block HR2.out.la; omega⟩
              have HLd := Lib.hid (show (W2.alloc (.cells (rowN 20 (blk P)) 28)).heap.size = (W2.alloc (.cells (rowN 20 (blk P)) 28)).heap.size from rfl)
              have HLa : Hid (W2.heap[lb]? = some (.cells (rowN 20 (blk P)) 28 (0, 0))) := Lib.hid HR2.out.la
              have H20 : Hid ((rowN 20 (blk P)).all (·.oneCell') = true) := Lib.hid (blk_one _ _)
              have HQ3 := Lib.hid hq3
              have HSm := Lib.hid HR2.out.sm
              have HCt : Hid (16 ≤ 16) := Lib.hid (Nat.le_refl _)
              clear hq3 HR2 HR2o HO2
              go_wp2_with (first | (with_reducible refine wpList_load_row rfl 28 _ rfl lb rfl 28 (rowN 20 (blk P)) (0, 0) _ HLa.out Try.underlying28 rfl (by rw [rowN_size]; exact Hs20.out) ?_) | (rw [← Hx.out]; with_reducible refine wpList_store_row rfl 28 _ _ rfl W2.heap.size (rowN 20 (blk P)) rfl rfl 28 _ (heap_alloc_new _ _) (by rw [rowN_size]; exact Hs20.out) (by rw [rowN_size]; exact xs.out) H20.out ?_; rw [World.setRow_alloc_new]))
              obtain ⟨qb, hqb⟩ : ∃ qb, qb = W2.heap.size := ⟨_, rfl⟩
              obtain ⟨W3, hW3⟩ : ∃ W3, W3 = W2.alloc (.cells (rowN 20 (blk P)) 28) := ⟨_, rfl⟩
              rw [← hqb, ← hW3] at HQ3
              try rw [← hqb, ← hW3]
              clear hqb hW3 HLd HLa
              go_loopw [10] (fun i wx => ∃ j : Nat, j ≤ 16 ∧ i = .int .i64 j ∧ Hid (QbR w vb lb l qb P (cutTo P (l + 1) j) wx)) (fun i _ => 16 - (intOf i).toNat)
              case atStart => exact ⟨0, by omega, rfl, HQ3⟩
              case round =>
                obtain ⟨j, hj, rfl, hq⟩ := hrel
                obtain ⟨wq, rfl⟩ : ∃ V, V = wr := ⟨_, rfl⟩
                clear HQ3
                by_cases hj16 : j < 16
                · have i1 : (0 : Int) ≤ j := by omega
                  have i2 : (j : Int) < 16 := by omega
                  obtain ⟨d0, d1⟩ := hq.out.cell j (by omega)
                  have hv : cutTo P (l + 1) j j = P j := by unfold cutTo; rw [if_neg (by omega)]
                  rw [hv] at d0
                  have HH := Lib.hid (half_any (P j) (l + 1) wq (HSm.out j hj16) (by omega))
                  have hn' := hq.out.set j (by omega) ((P j).tdiv (pw (l + 1)))
                  rw [cutTo_succ] at hn'
                  have HN' := Lib.hid hn'
                  rw [hl1] at HH
                  clear hn' hv hq
                  generalize (P j).tdiv (pw (l + 1)) = yy at *
                  generalize P j = xx at *
                  go_wp2_with fail
                  refine (HH.out).mono ?_
                  rintro e w5 ⟨rfl, rfl⟩
                  go_wp2_with fail
                  go_roundw
                  case rel => exact ⟨j + 1, by omega, by go_num, HN'⟩
                  case measure => simp [intOf]; omega
                · obtain rfl : j = 16 := by omega
                  clear hj16 hj
                  by_cases h4l : 4 < l + 1
                  · have hl4 : (4 : Int) < (l : Int) + 1 := by omega
                    have hq2 := hq.out.row (fun _ => 0)
                    have hfd : fadeF P (l + 1) = fun _ => 0 := if_pos h4l
                    have HQq := Lib.hid hq.out.q
                    rw [← xr.out] at hq2
                    clear hq
                    go_wp2_with (rw [← Hx.out]; with_reducible refine wpList_store_row rfl 28 _ _ rfl qb x rfl rfl 28 _ HQq.out (by rw [xs.out]; exact Hs20.out) (by rw [xs.out, rowN_size]) x1.out ?_)
                    obtain ⟨R, hR⟩ : ∃ R : Nat → Int, R = fun _ => 0 := ⟨_, rfl⟩
                    rw [← hR] at hq2 hfd
                    clear hR
                    have hq := hq2
                    generalize wq.setRow qb x = wq at *
                    clear HQq hq2
                    have HQ := Lib.hid hq
                    have HRq := Lib.hid (HQ.out.q)
                    have HC := Lib.hid (Lose_any vb P l wq.drew (HQ.out.pl.vl.old (Old.refl wq).drew) HQ.out.pl.sm (by have := Hhl.out; omega))
                    rw [hfd] at HC
                    have hE := fun W => neq_same R W
                    clear hq hfd
                    refine wp_region_held_drew (S := (fun w' => w'.heap[qb]? = some (.cells (rowN 20 (blk R)) 28 (0, 0)))) (by kernel_rfl) ?_ (fun hHeld => ?_)
                    · (try dsimp only); exact HRq.out
                    refine wpAnyH_take (i := 0) (oi := ⟨some _, _, _, _, _, _⟩) (v := ?_) rfl (by kernel_rfl) (by kernel_rfl) (by kernel_rfl) (fun _ _ _ h => h) (Or.inl ⟨by kernel_rfl, ?_⟩) (by assumption) ?_; rotate_left; (intro w hSw; (try dsimp only at hSw); go_simp; try with_reducible rfl); try simp only [Act.put, List.setIfInBounds_toArray, List.set_cons_zero, List.set_cons_succ]
                    refine wpAnyH_take (i := 2) (oi := ⟨some _, _, _, _, _, _⟩) (v := .agg (rowN 20 (blk R))) rfl (by kernel_rfl) (by kernel_rfl) (by kernel_rfl) (fun _ _ _ h => h) (yieldsIf_load_row (by kernel_rfl) 28 _ rfl qb rfl 28 (rowN 20 (blk R)) (0, 0) _ (fun _ h => h) Try.underlying28 rfl (by rw [rowN_size]; exact Hs20.out)) (by assumption) ?_; try simp only [Act.put, List.setIfInBounds_toArray, List.set_cons_zero, List.set_cons_succ]
                    refine wpAnyH_ready (rs := [1]) (by kernel_rfl) (by simp) ?_
                    refine AllReadyH.cons (o := ⟨_, _, _, _, _, _⟩) (by rfl) ?_ AllReadyH.nil
                    intro K hK
                    go_simp
                    refine (HC.out).mono ?_
                    rintro e V ⟨rfl, hv, hkv⟩
                    obtain ⟨hlv, hov⟩ := (HQ.out.pl.keep (Old.refl wq).drew).met hkv
                    have HPn : Hid (PlR w vb lb (l + 1) P V) := Lib.hid ⟨hv, hlv, HQ.out.pl.sm, hov, HQ.out.pl.nv, HQ.out.pl.nl⟩
                    have HLo := Lib.hid (Lost_any vb _ _ _ HPn.out.vl)
                    have HRv : Hid (V.heap[qb]? = some (.cells (rowN 20 (blk R)) 28 (0, 0))) := Lib.hid ((hkv.block qb ⟨lt_of_block HQ.out.q, fun e => HQ.out.nv e.symm⟩).trans HQ.out.q)
                    clear hv hkv hlv hov HC
                    go_wp2_with fail
                    refine hK.out _ _ ?_ (fun hHeld => ?_)
                    · (try dsimp only); exact HRv.out
                    clear hK K
                    try simp only [Act.put, List.setIfInBounds_toArray, List.set_cons_zero, List.set_cons_succ]
                    refine wpAnyH_take (i := 3) (oi := ⟨some _, _, _, _, _, _⟩) (v := ?_) rfl (by kernel_rfl) (by kernel_rfl) (by kernel_rfl) (fun _ _ _ h => h) (Or.inl ⟨by kernel_rfl, ?_⟩) (by assumption) ?_; rotate_left; (intro w hSw; (try dsimp only at hSw); go_simp; try with_reducible rfl); try simp only [Act.put, List.setIfInBounds_toArray, List.set_cons_zero, List.set_cons_succ]
                    refine wpAnyH_done (by kernel_rfl) ?_ _
                    clear hE HRq HRv HQ
                    rw [hl1] at HLo
                    go_wp2_with fail
                    refine (HLo.out).mono ?_
                    rintro e wz ⟨rfl, rfl⟩
                    clear HLo
                    go_wp2_with fail
                    go_roundw
                    case rel => exact ⟨k + 1, l + 1, _, by omega, by omega, rfl, by go_num, HPn⟩
                    case measure => (simp [intOf]; try omega)
                  · have hl4 : (l : Int) + 1 ≤ 4 := by omega
                    have hfd : fadeF P (l + 1) = cutTo P (l + 1) 16 := if_neg h4l
                    go_wp2_with fail
                    obtain ⟨R, hR⟩ : ∃ R, R = cutTo P (l + 1) 16 := ⟨_, rfl⟩
                    rw [← hR] at hq hfd
                    clear hR
                    have hq2 := hq.out
                    clear hq
                    have hq := hq2
                    clear hq2
                    have HQ := Lib.hid hq
                    have HRq := Lib.hid (HQ.out.q)
                    have HC := Lib.hid (Lose_any vb P l wq.drew (HQ.out.pl.vl.old (Old.refl wq).drew) HQ.out.pl.sm (by have := Hhl.out; omega))
                    rw [hfd] at HC
                    have hE := fun W => neq_same R W
                    clear hq hfd
                    refine wp_region_held_drew (S := (fun w' => w'.heap[qb]? = some (.cells (rowN 20 (blk R)) 28 (0, 0)))) (by kernel_rfl) ?_ (fun hHeld => ?_)
                    · (try dsimp only); exact HRq.out
                    refine wpAnyH_take (i := 0) (oi := ⟨some _, _, _, _, _, _⟩) (v := ?_) rfl (by kernel_rfl) (by kernel_rfl) (by kernel_rfl) (fun _ _ _ h => h) (Or.inl ⟨by kernel_rfl, ?_⟩) (by assumption) ?_; rotate_left; (intro w hSw; (try dsimp only at hSw); go_simp; try with_reducible rfl); try simp only [Act.put, List.setIfInBounds_toArray, List.set_cons_zero, List.set_cons_succ]
                    refine wpAnyH_take (i := 2) (oi := ⟨some _, _, _, _, _, _⟩) (v := .agg (rowN 20 (blk R))) rfl (by kernel_rfl) (by kernel_rfl) (by kernel_rfl) (fun _ _ _ h => h) (yieldsIf_load_row (by kernel_rfl) 28 _ rfl qb rfl 28 (rowN 20 (blk R)) (0, 0) _ (fun _ h => h) Try.underlying28 rfl (by rw [rowN_size]; exact Hs20.out)) (by assumption) ?_; try simp only [Act.put, List.setIfInBounds_toArray, List.set_cons_zero, List.set_cons_succ]
                    refine wpAnyH_ready (rs := [1]) (by kernel_rfl) (by simp) ?_
                    refine AllReadyH.cons (o := ⟨_, _, _, _, _, _⟩) (by rfl) ?_ AllReadyH.nil
                    intro K hK
                    go_simp
                    refine (HC.out).mono ?_
                    rintro e V ⟨rfl, hv, hkv⟩
                    obtain ⟨hlv, hov⟩ := (HQ.out.pl.keep (Old.refl wq).drew).met hkv
                    have HPn : Hid (PlR w vb lb (l + 1) P V) := Lib.hid ⟨hv, hlv, HQ.out.pl.sm, hov, HQ.out.pl.nv, HQ.out.pl.nl⟩
                    have HLo := Lib.hid (Lost_any vb _ _ _ HPn.out.vl)
                    have HRv : Hid (V.heap[qb]? = some (.cells (rowN 20 (blk R)) 28 (0, 0))) := Lib.hid ((hkv.block qb ⟨lt_of_block HQ.out.q, fun e => HQ.out.nv e.symm⟩).trans HQ.out.q)
                    clear hv hkv hlv hov HC
                    go_wp2_with fail
                    refine hK.out _ _ ?_ (fun hHeld => ?_)
                    · (try dsimp only); exact HRv.out
                    clear hK K
                    try simp only [Act.put, List.setIfInBounds_toArray, List.set_cons_zero, List.set_cons_succ]
                    refine wpAnyH_take (i := 3) (oi := ⟨some _, _, _, _, _, _⟩) (v := ?_) rfl (by kernel_rfl) (by kernel_rfl) (by kernel_rfl) (fun _ _ _ h => h) (Or.inl ⟨by kernel_rfl, ?_⟩) (by assumption) ?_; rotate_left; (intro w hSw; (try dsimp only at hSw); go_simp; try with_reducible rfl); try simp only [Act.put, List.setIfInBounds_toArray, List.set_cons_zero, List.set_cons_succ]
                    refine wpAnyH_done (by kernel_rfl) ?_ _
                    clear hE HRq HRv HQ
                    rw [hl1] at HLo
                    go_wp2_with fail
                    refine (HLo.out).mono ?_
                    rintro e wz ⟨rfl, rfl⟩
                    clear HLo
                    go_wp2_with fail
                    go_roundw
                    case rel => exact ⟨k + 1, l + 1, _, by omega, by omega, rfl, by go_num, HPn⟩
                    case measure => (simp [intOf]; try omega)
            · rw [decide_eq_false h23]
              have HFd := Lib.hid HFb.out.heap
              by_cases hP : FrP F m T
              · have hr := HRt.out W2 HR2.out.old
                rw [decide_eq_true hP] at hr
                have HRR := Lib.hid hr
                have hl0 := Lib.hid h23
                clear hr HRt h23 h4
                go_wp2_with (with_reducible refine wpList_load_row rfl 33 _ rfl fb rfl 33 (rowN 29 (frC F (.slice q' m c'))) (0, 0) _ HFd.out Try.underlying33 rfl (by rw [rowN_size]; exact Hs29.out) ?_)
                refine (HRR.out).mono ?_
                rintro e W3 ⟨rfl, o3⟩
                have HR3 := Lib.hid (HR2.out.keep o3)
                have HF3 := Lib.hid (HFb.out.old o3)
                have HT3 := Lib.hid (fun V (h : Old W3 V) => Hs3.out.old ((HR2.out.old.trans o3).trans h))
                clear o3 HRR HR2 HR2o HFb HFd HO2
                have HSp := Lib.hid (fun V (h : Old W3 V) => Spectrum_any F q' m c' T V (HT3.out V h) Hm5.out Hc2.out hP)
                have HBd := Lib.hid (piece_built (specF F m T) F)
                obtain ⟨R, hR⟩ : ∃ R, pcF F m T = R := ⟨_, rfl⟩
                rw [show (fun k => if k < 16 then specF F m T k else F (k - 16)) = R from hR] at HBd
                have H20 : Hid ((rowN 20 (blk R)).all (·.oneCell') = true) := Lib.hid (blk_one _ _)
                have HsR : Hid (Sml R) := Lib.hid (by rw [← hR]; exact pcF_in _ _ _)
                have hE := fun W => neq_same R W
                have HG := Lib.hid (fun V (b : Nat) (P0 : Nat → Int) (l0 : Int) (hb : VlB V b P0 l0) (hT : SlF 2 V q' m T) => Good_any b P0 l0 F q' m c' T V hb hT Hm5.out Hc2.out hP)
                have HOf := Lib.hid (fun V (hT : SlF 2 V q' m T) => POf_any F q' m c' T V hT Hm5.out Hc2.out hP)
                rw [hR] at HG HOf
                clear hR hP Hm5 Hc2
                go_wp2_with fail
                refine wp_region_held_drew (S := (fun w' => FrB 33 w' fb F (.slice q' m c'))) (by kernel_rfl) ?_ (fun hHeld => ?_)
                · (try dsimp only); exact HF3.out.old (Old.refl W3).drew
                refine wpAnyH_take (i := 0) (oi := ⟨some _, _, _, _, _, _⟩) (v := .agg (rowN 29 (frC F (.slice q' m c')))) rfl (by kernel_rfl) (by kernel_rfl) (by kernel_rfl) (fun _ _ _ h => h) (yieldsIf_load_row (by kernel_rfl) 33 _ rfl fb rfl 33 (rowN 29 (frC F (.slice q' m c'))) (0, 0) _ (fun _ h => FrB.heap h) Try.underlying33 rfl (by rw [rowN_size]; exact Hs29.out)) (by assumption) ?_; try simp only [Act.put, List.setIfInBounds_toArray, List.set_cons_zero, List.set_cons_succ]
                refine wpAnyH_take (i := 2) (oi := ⟨some _, _, _, _, _, _⟩) (v := ?_) rfl (by kernel_rfl) (by kernel_rfl) (by kernel_rfl) (fun _ _ _ h => h) (Or.inl ⟨by kernel_rfl, ?_⟩) (by assumption) ?_; rotate_left; (intro w hSw; (try dsimp only at hSw); go_simp; try with_reducible rfl); try simp only [Act.put, List.setIfInBounds_toArray, List.set_cons_zero, List.set_cons_succ]
                refine wpAnyH_take (i := 3) (oi := ⟨some _, _, _, _, _, _⟩) (v := .agg (rowN 4 (blk fun j => F (0 + j)))) rfl (by kernel_rfl) (by kernel_rfl) (by kernel_rfl) (fun _ _ _ h => h) (yieldsIf_load_blk 4 (fun j => F (0 + j)) (by kernel_rfl) 26 _ rfl fb 0 rfl _ (fun _ h => FrB.part h 0 4 (by omega)) Try.underlying26 rfl Hs4.out) (by assumption) ?_; try simp only [Act.put, List.setIfInBounds_toArray, List.set_cons_zero, List.set_cons_succ]
                refine wpAnyH_ready (rs := [1]) (by kernel_rfl) (by simp) ?_
                refine AllReadyH.cons (o := ⟨_, _, _, _, _, _⟩) (by rfl) ?_ AllReadyH.nil
                intro K hK
                go_simp
                refine (HSp.out _ (Old.refl W3).drew).mono ?_
                rintro e V1 ⟨rfl, o1⟩
                have o1' : Old W3 V1 := ((Old.refl W3).drew).trans o1
                go_wp2_with fail
                refine hK.out _ _ ?_ (fun hHeld => ?_)
                · (try dsimp only); exact HF3.out.old o1'
                clear hK K
                try simp only [Act.put, List.setIfInBounds_toArray, List.set_cons_zero, List.set_cons_succ]
                refine wpAnyH_take (i := 4) (oi := ⟨some _, _, _, _, _, _⟩) (v := .agg (rowN 20 (blk R))) rfl (by kernel_rfl) (by kernel_rfl) (by kernel_rfl) (fun _ _ _ h => h) (yieldsIf_build (by kernel_rfl) 28 _ rfl [(0, .agg (rowN 16 (blk (specF F m T)))), (1, .agg (rowN 4 (blk fun j => F (0 + j))))] _ (by kernel_rfl) HBd.out) (by assumption) ?_; try simp only [Act.put, List.setIfInBounds_toArray, List.set_cons_zero, List.set_cons_succ]
                refine wpAnyH_ready (rs := [5]) (by kernel_rfl) (by simp) ?_
                refine AllReadyH.cons (o := ⟨_, _, _, _, _, _⟩) (by rfl) ?_ AllReadyH.nil
                intro K hK
                rw [if_pos (by kernel_rfl)]
                have hR4 := HR3.out.keep o1'
                have HLa := Lib.hid hR4.la
                obtain ⟨a1, a2, a3⟩ := PlR.row hR4.ne hR4.vl hR4.la hR4.old hR4.nl R
                have HV4 := Lib.hid a1
                have HL4 := Lib.hid a2
                have HO4 := Lib.hid a3
                have HF4 : Hid (FrB 33 (V1.setRow lb (rowN 20 (blk R))) fb F (.slice q' m c')) := Lib.hid ((setRow_other _ _ _ _ (fun e => by
                  have h1 := (HF3.out.old o1').heap
                  rw [e, hR4.la] at h1
                  simp only [Option.some.injEq, Obj.cells.injEq] at h1
                  exact absurd h1.2.1 (by decide))).trans (HF3.out.old o1').heap)
                have Hnl := Lib.hid (And.intro hR4.nv hR4.nl)
                with_reducible refine wp_store_row 28 _ _ rfl lb (rowN 20 (blk R)) rfl rfl 28 _ HLa.out (by rw [rowN_size]; exact Hs20.out) (by rw [rowN_size, rowN_size]) H20.out ?_
                refine hK.out _ _ ?_ (fun hHeld => ?_)
                · (try dsimp only); exact HF4.out
                clear hK K hHeld
                refine wpAnyH_done (by kernel_rfl) ?_ _
                clear o1 o1' hR4 a1 a2 a3 HR3 HF3 HLa HSp HBd HT3
                generalize V1.setRow lb (rowN 20 (blk R)) = W4 at *
                go_wp2_with fail
                have HT4 := Lib.hid (fun V (h : Old w V) => Hs3.out.old h)
                have HLx : Hid (fb ≠ lb) := Lib.hid fun e => by
                  have h1 := HF4.out.heap
                  rw [e, HL4.out] at h1
                  simp only [Option.some.injEq, Obj.cells.injEq] at h1
                  exact absurd h1.2.1 (by decide)
                have HFx : Hid (fb ≠ vb) := Lib.hid fun e => by
                  have h1 := HF4.out.heap
                  rw [e, HV4.out.heap] at h1
                  simp only [Option.some.injEq, Obj.cells.injEq] at h1
                  exact absurd h1.2.1 (by decide)
                have HVx : Hid (vb ≠ lb) := Lib.hid fun e => by
                  have h1 := HV4.out.heap
                  rw [e, HL4.out] at h1
                  simp only [Option.some.injEq, Obj.cells.injEq] at h1
                  exact absurd h1.2.1 (by decide)
                refine wp_region_held_drew (S := (fun w' => FrB 33 w' fb F (.slice q' m c') ∧ w'.heap[lb]? = some (.cells (rowN 20 (blk R)) 28 (0, 0)))) (by kernel_rfl) ?_ (fun hHeld => ?_)
                · (try dsimp only); exact ⟨HF4.out.old (Old.refl W4).drew, HL4.out⟩
                refine wpAnyH_take (i := 0) (oi := ⟨some _, _, _, _, _, _⟩) (v := ?_) rfl (by kernel_rfl) (by kernel_rfl) (by kernel_rfl) (fun _ _ _ h => h) (Or.inl ⟨by kernel_rfl, ?_⟩) (by assumption) ?_; rotate_left; (intro w hSw; (try dsimp only at hSw); go_simp; try with_reducible rfl); try simp only [Act.put, List.setIfInBounds_toArray, List.set_cons_zero, List.set_cons_succ]
                refine wpAnyH_take (i := 1) (oi := ⟨some _, _, _, _, _, _⟩) (v := .agg (rowN 29 (frC F (.slice q' m c')))) rfl (by kernel_rfl) (by kernel_rfl) (by kernel_rfl) (fun _ _ _ h => h) (yieldsIf_load_row (by kernel_rfl) 33 _ rfl fb rfl 33 (rowN 29 (frC F (.slice q' m c'))) (0, 0) _ (fun _ h => FrB.heap h.1) Try.underlying33 rfl (by rw [rowN_size]; exact Hs29.out)) (by assumption) ?_; try simp only [Act.put, List.setIfInBounds_toArray, List.set_cons_zero, List.set_cons_succ]
                refine wpAnyH_take (i := 3) (oi := ⟨some _, _, _, _, _, _⟩) (v := .agg (rowN 20 (blk R))) rfl (by kernel_rfl) (by kernel_rfl) (by kernel_rfl) (fun _ _ _ h => h) (yieldsIf_load_row (by kernel_rfl) 28 _ rfl lb rfl 28 (rowN 20 (blk R)) (0, 0) _ (fun _ h => h.2) Try.underlying28 rfl (by rw [rowN_size]; exact Hs20.out)) (by assumption) ?_; try simp only [Act.put, List.setIfInBounds_toArray, List.set_cons_zero, List.set_cons_succ]
                refine wpAnyH_ready (rs := [2]) (by kernel_rfl) (by simp) ?_
                refine AllReadyH.cons (o := ⟨_, _, _, _, _, _⟩) (by rfl) ?_ AllReadyH.nil
                intro K hK
                go_simp
                refine (HG.out _ _ _ _ (HV4.out.old (Old.refl W4).drew) (HT4.out _ HO4.out.drew)).mono ?_
                rintro e V5 ⟨rfl, hv5, hk5⟩
                have HV5 := Lib.hid hv5
                have HL5 : Hid (V5.heap[lb]? = some (.cells (rowN 20 (blk R)) 28 (0, 0))) := Lib.hid ((hk5.block lb ⟨lt_of_block HL4.out, fun e => HVx.out e.symm⟩).trans HL4.out)
                have HF5 : Hid (FrB 33 V5 fb F (.slice q' m c')) := Lib.hid ((hk5.block fb ⟨lt_of_block HF4.out.heap, HFx.out⟩).trans HF4.out.heap)
                have HO5 : Hid (Old w V5) := Lib.hid (HO4.out.drew.after hk5 fun q hq => ⟨Nat.lt_of_lt_of_le hq HO4.out.size, fun e => by have := Hnl.out.1; omega⟩)
                clear hv5 hk5 HG HV4 HL4 HF4 HO4
                go_wp2_with fail
                refine hK.out _ _ ?_ (fun hHeld => ?_)
                · (try dsimp only); exact ⟨HF5.out, HL5.out⟩
                clear hK K
                try simp only [Act.put, List.setIfInBounds_toArray, List.set_cons_zero, List.set_cons_succ]
                refine wpAnyH_take (i := 4) (oi := ⟨some _, _, _, _, _, _⟩) (v := ?_) rfl (by kernel_rfl) (by kernel_rfl) (by kernel_rfl) (fun _ _ _ h => h) (Or.inl ⟨by kernel_rfl, ?_⟩) (by assumption) ?_; rotate_left; (intro w hSw; (try dsimp only at hSw); go_simp; try with_reducible rfl); try simp only [Act.put, List.setIfInBounds_toArray, List.set_cons_zero, List.set_cons_succ]
                refine wpAnyH_take (i := 5) (oi := ⟨some _, _, _, _, _, _⟩) (v := ?_) rfl (by kernel_rfl) (by kernel_rfl) (by kernel_rfl) (fun _ _ _ h => h) (Or.inl ⟨by kernel_rfl, ?_⟩) (by assumption) ?_; rotate_left; (intro w hSw; (try dsimp only at hSw); go_simp; try with_reducible rfl); try simp only [Act.put, List.setIfInBounds_toArray, List.set_cons_zero, List.set_cons_succ]
                refine wpAnyH_take (i := 6) (oi := ⟨some _, _, _, _, _, _⟩) (v := .agg (rowN 29 (frC F (.slice q' m c')))) rfl (by kernel_rfl) (by kernel_rfl) (by kernel_rfl) (fun _ _ _ h => h) (yieldsIf_load_row (by kernel_rfl) 33 _ rfl fb rfl 33 (rowN 29 (frC F (.slice q' m c'))) (0, 0) _ (fun _ h => FrB.heap h.1) Try.underlying33 rfl (by rw [rowN_size]; exact Hs29.out)) (by assumption) ?_; try simp only [Act.put, List.setIfInBounds_toArray, List.set_cons_zero, List.set_cons_succ]
                refine wpAnyH_take (i := 8) (oi := ⟨some _, _, _, _, _, _⟩) (v := .agg (rowN 20 (blk R))) rfl (by kernel_rfl) (by kernel_rfl) (by kernel_rfl) (fun _ _ _ h => h) (yieldsIf_load_row (by kernel_rfl) 28 _ rfl lb rfl 28 (rowN 20 (blk R)) (0, 0) _ (fun _ h => h.2) Try.underlying28 rfl (by rw [rowN_size]; exact Hs20.out)) (by assumption) ?_; try simp only [Act.put, List.setIfInBounds_toArray, List.set_cons_zero, List.set_cons_succ]
                refine wpAnyH_ready (rs := [7]) (by kernel_rfl) (by simp) ?_
                refine AllReadyH.cons (o := ⟨_, _, _, _, _, _⟩) (by rfl) ?_ AllReadyH.nil
                intro K hK
                go_simp
                refine (HOf.out _ (HT4.out _ HO5.out)).mono ?_
                rintro e V6 ⟨rfl, o6⟩
                have HPn : Hid (PlR w vb lb 0 R V6) := Lib.hid ⟨HV5.out.old o6, (o6.block lb (lt_of_block HL5.out)).trans HL5.out, HsR.out, HO5.out.trans o6, Hnl.out.1, Hnl.out.2⟩
                have HF6 := Lib.hid (HF5.out.old o6)
                have HLo := Lib.hid (Lost_any vb _ _ _ HPn.out.vl)
                clear o6 HOf HT4
                go_wp2_with fail
                refine hK.out _ _ ?_ (fun hHeld => ?_)
                · (try dsimp only); exact ⟨HF6.out, HPn.out.la⟩
                clear hK K
                try simp only [Act.put, List.setIfInBounds_toArray, List.set_cons_zero, List.set_cons_succ]
                refine wpAnyH_take (i := 9) (oi := ⟨some _, _, _, _, _, _⟩) (v := ?_) rfl (by kernel_rfl) (by kernel_rfl) (by kernel_rfl) (fun _ _ _ h => h) (Or.inl ⟨by kernel_rfl, ?_⟩) (by assumption) ?_; rotate_left; (intro w hSw; (try dsimp only at hSw); go_simp; try with_reducible rfl); try simp only [Act.put, List.setIfInBounds_toArray, List.set_cons_zero, List.set_cons_succ]
                refine wpAnyH_take (i := 10) (oi := ⟨some _, _, _, _, _, _⟩) (v := ?_) rfl (by kernel_rfl) (by kernel_rfl) (by kernel_rfl) (fun _ _ _ h => h) (Or.inl ⟨by kernel_rfl, ?_⟩) (by assumption) ?_; rotate_left; (intro w hSw; (try dsimp only at hSw); go_simp; try with_reducible rfl); try simp only [Act.put, List.setIfInBounds_toArray, List.set_cons_zero, List.set_cons_succ]
                refine wpAnyH_done (by kernel_rfl) ?_ _
                clear hE HF6 HV5 HL5 HF5 HO5
                go_wp2_with fail
                refine (HLo.out).mono ?_
                rintro e wz ⟨rfl, rfl⟩
                clear HLo
                go_wp2_with fail
                go_roundw
                case rel => exact ⟨k + 1, 0, _, by omega, by omega, rfl, by go_num, HPn⟩
                case measure => (simp [intOf]; try omega)
              · have hr := HRt.out W2 HR2.out.old
                rw [decide_eq_false hP] at hr
                have HRR := Lib.hid hr
                clear hr HRt h23 h4 Hs3 Hm5 Hc2 hP
                go_wp2_with (with_reducible refine wpList_load_row rfl 33 _ rfl fb rfl 33 (rowN 29 (frC F (.slice q' m c'))) (0, 0) _ HFd.out Try.underlying33 rfl (by rw [rowN_size]; exact Hs29.out) ?_)
                refine (HRR.out).mono ?_
                rintro e W3 ⟨rfl, o3⟩
                have HPn := Lib.hid (HR2.out.keep o3)
                have HLo := Lib.hid (Lost_any vb _ _ _ HPn.out.vl)
                clear o3 HRR HR2 HR2o HFb HFd HO2
                go_wp2_with fail
                refine (HLo.out).mono ?_
                rintro e wz ⟨rfl, rfl⟩
                clear HLo
                go_wp2_with fail
                go_roundw
                case rel => exact ⟨k + 1, l, _, by omega, by omega, rfl, by go_num, HPn⟩
                case measure => (simp [intOf]; try omega)
      · obtain rfl : k = N := by have := HN.out; omega
        rw [decide_eq_false (show ¬ (k < n ∧ k < 40) from fun h => by have := HN.out; omega)]
        have HO := Lib.hid HR.out.old
        clear HR HS HN
        go_wp2_with fail
        refine (awake_any _).mono ?_
        rintro e w5 ⟨rfl, o5⟩
        have HO5 := Lib.hid (HO.out.trans o5)
        clear o5 HO
        go_wp2_with fail
        go_ret
        exact ⟨rfl, HO5.out⟩


theorem own : ownKnob Try.prog.godebug = none := by kernel_rfl
theorem laidOut : laidOutB Try.prog = true := by kernel_rfl

set_option maxRecDepth 100000 in
theorem lifted (os : Os) (started : os.Started) (H : Type) (enc : TypeId × Value → H) :
    ReturnsInHanded {} Try.checked os 3 .any (Rows.veilPlaysSpec.pre6 enc Try.prog Try.f3 Rows.veilPlaysRow.domain false) (Rows.veilPlaysSpec.post enc Try.prog Try.f3 false true false false) := by
  refine returnsInHanded_of_change (C := Try.checked) own started (by kernel_rfl) Try.func3
    (ChangeSpec.witness6 (enc := enc) (C := Try.checked) false ⟨#[], #[.slice none 0 0], []⟩ 8 (by kernel_rfl) (by kernel_rfl) (by kernel_rfl) (by kernel_rfl)) ?_
  intro W base args ds gs before hval0 hW hcnd _
  have hval : ∀ (j : Nat) t v, Try.f3.params[j]? = some t → args[j]? = some v → Value.okWide Try.prog W .any base t v := hval0
  have hW' := hW
  have hlt : ∀ p ∈ before, p.block < W.heap.size := fun p hp => hW'.lt p hp
  obtain ⟨p, q, hA0, hV, rfl, hfz, hnd⟩ := hW
  have hA : DataW.TrodAll enc Try.prog W 0 (fun _ => true) true Try.f3.params.toList args.toList ds p := hA0
  rw [Try.params3] at hA hval
  obtain ⟨v0, vs0, d0, ds0, p0, q0, hargs, rfl, rfl, h0, r0⟩ := trodAll_cons hA
  obtain ⟨rfl, rfl, rfl⟩ := trodAll_nil r0
  obtain rfl : args = #[v0] := by cases args; simp_all
  obtain ⟨rfl, rfl⟩ := trodVars_none hV
  obtain ⟨q0, n0, c0, K0, L0, rfl, sn0, sc0, ss0⟩ := open_steps (hval 0 22 v0 rfl rfl) h0 (fun x hx => hlt x (by simp [hx]))
  refine (walk q0 n0 c0 K0 L0 W sn0 sc0 ss0).mono fun e W' ⟨he, hg⟩ => ?_
  subst he
  exact ⟨_, rfl, law_done laidOut Try.underlying4 rfl (by kernel_rfl) rfl hW' rfl hg⟩

theorem over : Rows.veilPlaysRow.holds Try.pinned (OpenSpec.ofChange Rows.veilPlaysSpec) :=
  OpenClaim.holds_of_wide 3 Try.f3 rfl rfl rfl rfl rfl rfl rfl ⟨rfl, rfl, rfl, rfl, rfl⟩ rfl rfl rfl rfl rfl (by kernel_rfl) Try.func3 (by kernel_rfl)
    (of_decide_eq_true (by kernel_rfl)) (by unfold Func.isWrapper; first | (rw [if_pos (by decide +kernel)]; kernel_rfl) | (rw [if_neg (by decide +kernel)]; exact ⟨rfl, rfl⟩))
    (fun os started H enc _ => lifted os started H enc)

theorem proved : Rows.VeilPlaysSaid :=
  over
end Go.Proofs.Ytlaoamlmpdbmmaa.veilPlays
