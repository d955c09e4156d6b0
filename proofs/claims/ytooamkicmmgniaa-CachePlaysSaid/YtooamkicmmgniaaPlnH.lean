/- The law's step, third part: empty, faults; whatever the step. (by wip/s17/plnh.py and exp.py) -/
import Derived.Test.YtooamkicmmgniaaPlnG
namespace Go.Proofs.Ytooamkicmmgniaa
set_option linter.unusedVariables false
set_option maxRecDepth 100000
open Go.RowKit Go.ChangeShapes Go.WideShapes

/-- The first slots are emptied. -/
def Cch.upto (c : Cch) (i : Nat) : Cch := { c with S := fun j => if j < i then none else c.S j }
theorem PnAt.uptoZero {w : World} {z0 z av q gp gk gd db dm cd N : Nat} {p : Option Addr} {c : Cch} {d : Dsk} (h : PnAt w z0 z av q gp gk gd db dm p cd N c d) : PnAt w z0 z av q gp gk gd db dm p cd N (c.upto 0) d :=
  h.extS fun i _ => (by show c.S i = if i < 0 then none else c.S i; rw [if_neg (by omega)])
theorem PnAt.uptoNext {w : World} {z0 z av q gp gk gd db dm cd N : Nat} {p : Option Addr} {c : Cch} {d : Dsk} {i : Nat} (h : PnAt w z0 z av q gp gk gd db dm p cd N (c.upto i) d) (hi : i < c.n) : PnAt ((w.setCell ⟨gp, i, none⟩ (.int .i64 (-1))).setCell ⟨gk, i, none⟩ (.bool false)) z0 z av q gp gk gd db dm p cd N (c.upto (i + 1)) d :=
  (h.wipe hi).extS fun j _ => (by
    show updS (fun j => if j < i then none else c.S j) i none j = if j < i + 1 then none else c.S j
    unfold updS
    by_cases e : j = i
    · rw [if_pos e, if_pos (by omega)]
    · rw [if_neg e]
      dsimp only
      by_cases e2 : j < i
      · rw [if_pos e2, if_pos (by omega)]
      · rw [if_neg e2, if_neg (by omega)])
theorem PnAt.uptoEnd {w : World} {z0 z av q gp gk gd db dm cd N : Nat} {p : Option Addr} {c : Cch} {d : Dsk} (h : PnAt w z0 z av q gp gk gd db dm p cd N (c.upto c.n) d) : PnAt w z0 z av q gp gk gd db dm p cd N c.empty d :=
  h.extS fun i hi => (by show (if i < c.n then none else c.S i) = none; exact if_pos hi)
set_option maxHeartbeats 4000000 in
theorem step_empty {w : World} {B : Bks} {N : Nat} {c : Cch} {d : Dsk} (h : SyS w B N c d) (kd pg n z : Int) (hlo : B.lo ≤ w.heap.size) (hn : -9223372036854775808 ≤ n ∧ n ≤ 9223372036854775807) (hp : -9223372036854775808 ≤ pg ∧ pg ≤ 9223372036854775807) (hz : 0 ≤ z ∧ z ≤ 255) (hk : kd = 4) :
    Calls Try.prog 10 #[.pointer (some ⟨B.dm + 1, 0, none⟩), .pointer (some ⟨B.z0 + 2, 0, none⟩), .pointer (some ⟨B.q, 0, none⟩), .agg #[.int .i64 kd, .int .i64 pg, .int .i64 n, .int .u8 z]] w fun e V => e = .returned (.bool true) ∧ StE w B N c.n V := by
  subst hk
  have HO := Lib.hid (Old.alloc w (.cells #[.int .i64 4, .int .i64 pg, .int .i64 n, .int .u8 z] 42))
  have HW := Lib.hid (h.old HO.out)
  have HBx : Hid ((w.alloc (.cells #[.int .i64 4, .int .i64 pg, .int .i64 n, .int .u8 z] 42)).heap[w.heap.size]? = some (.cells #[.int .i64 4, .int .i64 pg, .int .i64 n, .int .u8 z] 42 (0, 0))) := Lib.hid (heap_alloc_new w _)
  have HBz : Hid (B.z ≤ w.heap.size) := Lib.hid h.hz
  have HPl : Hid (PlP (w.alloc (.cells #[.int .i64 4, .int .i64 pg, .int .i64 n, .int .u8 z] 42)) B N c d) := Lib.hid HW.out.pl
  have HNum := Lib.hid h.num
  have HLo := Lib.hid hlo
  have HBd := Lib.hid (And.intro hn (And.intro hp hz))
  have HLt := Lib.hid (lt_of_block HBx.out)
  clear h hlo hn hp hz
  have HG := Lib.hid HW.out.cEmpty
  have HDn : Hid (∀ V U c' d', Kept (butC (w.alloc (.cells #[.int .i64 4, .int .i64 pg, .int .i64 n, .int .u8 z] 42)) B) (w.alloc (.cells #[.int .i64 4, .int .i64 pg, .int .i64 n, .int .u8 z] 42)) V → CaP V B N c' d' → Kept (butL V B) V U → PlP U B N c' d' → c'.n = c.n → StE w B N c.n U) := Lib.hid fun V U c' d' k1 hc k2 hp hcn => HW.out.done HO.out HLo.out k1 hc k2 hp hcn
  obtain ⟨b0, b1, b2, b3⟩ := opCell HBx.out
  go_enter Try.func10, Try.ntmps10
  go_wp2_with fail
  refine HG.out.mono ?_
  rintro e V ⟨rfl, hc, hk⟩
  obtain ⟨pp, hpl, hlo2⟩ := HW.out.plain hk
  have HL0 : Hid (PnAt V B.z1 B.z B.q B.q B.gp B.gm B.gd (B.dx + 1) B.dx pp N N (c.upto 0) d ∧ Kept (butL V B) V V) := Lib.hid ⟨hpl.uptoZero, Kept.refl _ _⟩
  have HDo : Hid (∀ U, Kept (butL V B) V U → PnAt U B.z1 B.z B.q B.q B.gp B.gm B.gd (B.dx + 1) B.dx pp N N c.empty d → StE w B N c.n U) := Lib.hid fun U k2 hp => HDn.out V U _ _ hk hc k2 ⟨pp, hp, hlo2⟩ rfl
  have hcn : c.n ≤ 1024 := HNum.out.2
  have hrr := Lib.hid hpl.rng
  clear hc hk hpl hlo2 HG HDn b0 b1 b2 b3
  go_wp2_with fail
  obtain ⟨nn, hnn⟩ : ∃ nn, nn = c.n := ⟨_, rfl⟩
  have HNn := Lib.hid hnn
  rw [← hnn] at hcn
  clear hnn
  go_loopw [17] (fun iv wr => ∃ i : Nat, i ≤ nn ∧ iv = .int .i64 i ∧ Hid (PnAt wr B.z1 B.z B.q B.q B.gp B.gm B.gd (B.dx + 1) B.dx pp N N (c.upto i) d ∧ Kept (butL V B) V wr)) (fun i _ => nn - (intOf i).toNat)
  case atStart => exact ⟨0, by omega, rfl, HL0⟩
  case round =>
    obtain ⟨i, hi, rfl, HI⟩ := hrel
    clear HL0
    obtain ⟨_, y1, y2, _⟩ := HI.out.1.cells
    have y1' : wr.cell? ⟨B.q, 1, none⟩ = some (.slice (some ⟨B.gp, 0, none⟩) nn nn) := by rw [HNn.out]; exact y1
    have y2' : wr.cell? ⟨B.q, 2, none⟩ = some (.slice (some ⟨B.gm, 0, none⟩) nn nn) := by rw [HNn.out]; exact y2
    clear y1 y2
    by_cases hlt : i < nn
    · have hic : i < c.n := by rw [← HNn.out]; exact hlt
      have yp := HI.out.1.pages.cell i hic
      have fp := HI.out.1.pages.frz i hic
      have hR := hrr.out
      have k1 : Kept (fun x => x ≠ B.gp) wr (wr.setCell ⟨B.gp, i, none⟩ (.int .i64 (-1))) := Kept.setCell wr (a := ⟨B.gp, i, none⟩) (fun e => e rfl) _
      have z2 : (wr.setCell ⟨B.gp, i, none⟩ (.int .i64 (-1))).cell? ⟨B.q, 2, none⟩ = some (.slice (some ⟨B.gm, 0, none⟩) nn nn) := (k1.cell (a := ⟨B.q, 2, none⟩) (show B.q ≠ B.gp by omega)).trans y2'
      have zm := (k1.cell (a := ⟨B.gm, i, none⟩) (show B.gm ≠ B.gp by omega)).trans (HI.out.1.marks.cell i hic)
      have fm := (k1.frozen (a := ⟨B.gm, i, none⟩) (show B.gm ≠ B.gp by omega)).trans (HI.out.1.marks.frz i hic)
      have HNx : Hid (PnAt ((wr.setCell ⟨B.gp, i, none⟩ (.int .i64 (-1))).setCell ⟨B.gm, i, none⟩ (.bool false)) B.z1 B.z B.q B.q B.gp B.gm B.gd (B.dx + 1) B.dx pp N N (c.upto (i + 1)) d ∧ Kept (butL V B) V ((wr.setCell ⟨B.gp, i, none⟩ (.int .i64 (-1))).setCell ⟨B.gm, i, none⟩ (.bool false))) := Lib.hid
        ⟨HI.out.1.uptoNext hic, HI.out.2.trans ((k1.mono fun x hx => hx.2.2.1).trans ((Kept.setCell (X := fun x => x ≠ B.gm) _ (a := ⟨B.gm, i, none⟩) (fun e => e rfl) _).mono fun x hx => hx.2.2.2.1))⟩
      obtain ⟨mk, hmk⟩ : ∃ mk, mk = Value.bool (mkS (c.upto i).S i) := ⟨_, rfl⟩
      obtain ⟨pv, hpv⟩ : ∃ pv, pv = pgV (c.upto i).S i := ⟨_, rfl⟩
      have zm' : (wr.setCell ⟨B.gp, i, none⟩ (.int .i64 (-1))).cell? ⟨B.gm, i, none⟩ = some mk := by rw [hmk]; exact zm
      rw [← hpv] at yp
      clear zm hmk hpv HI hR k1 hic
      go_wp2_with fail
      go_roundw
      case rel => exact ⟨i + 1, by omega, by go_num, HNx⟩
      case measure => simp [intOf]; omega
    · have hie : i = c.n := by rw [← HNn.out]; omega
      have HF : Hid (StE w B N c.n wr) := Lib.hid (HDo.out wr HI.out.2 (by
        have h1 := HI.out.1
        rw [hie] at h1
        exact h1.uptoEnd))
      clear hie HI HDo
      go_wp2_with fail
      go_ret
      exact ⟨rfl, HF.out⟩
set_option maxHeartbeats 4000000 in
theorem step_fault {w : World} {B : Bks} {N : Nat} {c : Cch} {d : Dsk} (h : SyS w B N c d) (kd pg n z : Int) (hlo : B.lo ≤ w.heap.size) (hn : -9223372036854775808 ≤ n ∧ n ≤ 9223372036854775807) (hp : -9223372036854775808 ≤ pg ∧ pg ≤ 9223372036854775807) (hz : 0 ≤ z ∧ z ≤ 255) (k0 : kd ≠ 0) (k1 : kd ≠ 1) (k2 : kd ≠ 2) (k3 : kd ≠ 3) (k4 : kd ≠ 4) :
    Calls Try.prog 10 #[.pointer (some ⟨B.dm + 1, 0, none⟩), .pointer (some ⟨B.z0 + 2, 0, none⟩), .pointer (some ⟨B.q, 0, none⟩), .agg #[.int .i64 kd, .int .i64 pg, .int .i64 n, .int .u8 z]] w fun e V => e = .returned (.bool true) ∧ StE w B N c.n V := by
  have HO := Lib.hid (Old.alloc w (.cells #[.int .i64 kd, .int .i64 pg, .int .i64 n, .int .u8 z] 42))
  have HW := Lib.hid (h.old HO.out)
  have HBx : Hid ((w.alloc (.cells #[.int .i64 kd, .int .i64 pg, .int .i64 n, .int .u8 z] 42)).heap[w.heap.size]? = some (.cells #[.int .i64 kd, .int .i64 pg, .int .i64 n, .int .u8 z] 42 (0, 0))) := Lib.hid (heap_alloc_new w _)
  have HBz : Hid (B.z ≤ w.heap.size) := Lib.hid h.hz
  have HPl : Hid (PlP (w.alloc (.cells #[.int .i64 kd, .int .i64 pg, .int .i64 n, .int .u8 z] 42)) B N c d) := Lib.hid HW.out.pl
  have HNum := Lib.hid h.num
  have HLo := Lib.hid hlo
  have HBd := Lib.hid (And.intro hn (And.intro hp hz))
  have HLt := Lib.hid (lt_of_block HBx.out)
  clear h hlo hn hp hz
  have q0 : (kd == 0) = false := by simp [k0]
  have q1 : (kd == 1) = false := by simp [k1]
  have q2 : (kd == 2) = false := by simp [k2]
  have q3 : (kd == 3) = false := by simp [k3]
  have q4 : (kd == 4) = false := by simp [k4]
  have HG := Lib.hid (HW.out.cFault kd pg n z HBd.out.1 HBd.out.2.2)
  have HDn : Hid (∀ V U c' d', Kept (butC (w.alloc (.cells #[.int .i64 kd, .int .i64 pg, .int .i64 n, .int .u8 z] 42)) B) (w.alloc (.cells #[.int .i64 kd, .int .i64 pg, .int .i64 n, .int .u8 z] 42)) V → CaP V B N c' d' → Kept (butL V B) V U → PlP U B N c' d' → c'.n = c.n → StE w B N c.n U) := Lib.hid fun V U c' d' k1 hc k2 hp hcn => HW.out.done HO.out HLo.out k1 hc k2 hp hcn
  obtain ⟨b0, b1, b2, b3⟩ := opCell HBx.out
  clear k0 k1 k2 k3 k4
  go_enter Try.func10, Try.ntmps10
  go_wp2_with fail
  refine HG.out.mono ?_
  rintro e V ⟨rfl, hc, hk⟩
  have hbx := (HW.out.box hk HBz.out HLt.out).trans HBx.out
  obtain ⟨v0, v1, v2, v3⟩ := opCell hbx
  obtain ⟨pp, hpl, hlo2⟩ := HW.out.plain hk
  obtain ⟨y0, _⟩ := hpl.cells
  have HG2 := Lib.hid ((show PlP V.drew B N c d from ⟨pp, hpl.old (Old.refl V).drew, hlo2⟩).fault kd pg n z HBd.out.1 HBd.out.2.2)
  have HDo : Hid (∀ U, Kept (butL V.drew B) V.drew U → PlP U B N c (faultD d kd pg n z) → StE w B N c.n U) := Lib.hid fun U k2 hp => HDn.out V.drew U _ _ (hk.trans ((Old.refl V).drew.kept fun x hx => Nat.lt_of_lt_of_le hx.1 hk.size)) (by obtain ⟨p9, h9⟩ := hc; exact ⟨p9, h9.old (Old.refl V).drew⟩) k2 hp rfl
  clear hc hk hpl hlo2 HG HDn b0 b1 b2 b3 hbx
  go_wp2_with fail
  refine wp_region_still_tail 5 (by kernel_rfl) (by kernel_rfl) ?_
  simp only [List.take_succ_cons, List.take_zero, List.drop_succ_cons, List.drop_zero]
  iterate 5 (with_reducible refine wpStill_step (fun K hK => ?_); go_simp; with_reducible refine hK _ ?_; clear hK K)
  with_reducible refine wpStill_nil ?_
  change wpList _ _ _ _ _ (World.drew _)
  go_wp2_with fail
  refine HG2.out.mono ?_
  rintro e U ⟨rfl, hp, hk2⟩
  have HF := Lib.hid (HDo.out U hk2 hp)
  clear hp hk2 HG2 HDo
  go_wp2_with fail
  go_ret
  exact ⟨rfl, HF.out⟩
theorem step_any {w : World} {B : Bks} {N : Nat} {c : Cch} {d : Dsk} (h : SyS w B N c d) (kd pg n z : Int) (hlo : B.lo ≤ w.heap.size) (hn : -9223372036854775808 ≤ n ∧ n ≤ 9223372036854775807) (hp : -9223372036854775808 ≤ pg ∧ pg ≤ 9223372036854775807) (hz : 0 ≤ z ∧ z ≤ 255) :
    Calls Try.prog 10 #[.pointer (some ⟨B.dm + 1, 0, none⟩), .pointer (some ⟨B.z0 + 2, 0, none⟩), .pointer (some ⟨B.q, 0, none⟩), .agg #[.int .i64 kd, .int .i64 pg, .int .i64 n, .int .u8 z]] w fun e V => e = .returned (.bool true) ∧ StE w B N c.n V := by
  by_cases k0 : kd = 0
  · exact step_get0 h kd pg n z hlo hn hp hz k0
  by_cases k1 : kd = 1
  · exact step_get1 h kd pg n z hlo hn hp hz k1
  by_cases k2 : kd = 2
  · exact step_span h kd pg n z hlo hn hp hz k2
  by_cases k3 : kd = 3
  · exact step_evict h kd pg n z hlo hn hp hz k3
  by_cases k4 : kd = 4
  · exact step_empty h kd pg n z hlo hn hp hz k4
  exact step_fault h kd pg n z hlo hn hp hz k0 k1 k2 k3 k4
end Go.Proofs.Ytooamkicmmgniaa


