/- Package cache, seventh part: Pages. -/
import Derived.Test.YtooamkicmmgniaaCacheF
namespace Go.Proofs.Ytooamkicmmgniaa
set_option linter.unusedVariables false
set_option maxRecDepth 100000
open Go.RowKit Go.ChangeShapes Go.WideShapes

theorem Try.info_intc : (Try.prog.info? 3).map (fun i => (i.zero, i.size, i.bytes)) = some (some (.int .i64 0), 1, 8) := by kernel_rfl
theorem made_intc (n : Nat) : madeCells (Value.int .i64 0 : Value).cells n = rowN n (blk fun _ => 0) :=
  made_rowN n (Value.int .i64 0 : Value).cells (by decide) fun j hj => by
    have h1 : (Value.int .i64 0 : Value).cells = #[.int .i64 0] := rfl
    rw [h1] at hj ⊢
    have : j = 0 := by simp at hj; omega
    subst this; rfl
theorem make_intsC (n : Nat) (hn : n ≤ 1099511627776) (w : World) : (Instr.makeSlice 33 (.int .i64 n) (.int .i64 n)).run Try.prog w = .ok (.slice (some ⟨w.heap.size, 0, none⟩) n n) (w.alloc (.cells (rowN n (blk fun _ => 0)) 3)) := by
  obtain ⟨i, hi, hz0, hz1, hz2⟩ := info_parts Try.info_intc
  rw [run_make w _ _ i _ Try.underlying33 hi hz0 .i64 .i64 n n (by omega) (by omega) (by rw [hz2]; omega) (by omega), hz1, Int.toNat_natCast, Nat.mul_one, made_intc]
/-- A slot's page as Pages tells it. -/
def pgV (S : Nat → Option Slt) (i : Nat) : Int := match S i with | some s => (s.p : Int) | none => -1
/-- On the way: so many slots are told. -/
structure PgR (w : World) (S : Nat → Option Slt) (g n i : Nat) (wr : World) : Prop where
  at_ : ∃ F, CellsAt wr g n F ∧ ∀ j, j < i → F j = pgV S j
  old : Old w wr
set_option maxHeartbeats 1000000 in
theorem cPages_any (z0 z av b sb hm db N : Nat) (c : Cch) (w : World) (h : CcAt w z0 z av b sb hm db N c) : Calls Try.prog 13 #[.pointer (some ⟨b, 0, none⟩)] w fun e w' =>
    e = .returned (.slice (some ⟨w.heap.size, 0, none⟩) c.n c.n) ∧ CellsAt w' w.heap.size c.n (pgV c.S) ∧ Old w w' := by
  obtain ⟨_, _, _, _, c4, _, c6, _, _⟩ := h.cells
  have H := Lib.hid (cMade_yes b db w c4)
  have hn2 := h.num.2.1
  have hM := make_intsC c.n (by omega) w
  have ho := Old.alloc w (.cells (rowN c.n (blk fun _ => 0)) 3)
  obtain ⟨_, _, _, _, _, _, d6, _, _⟩ := (h.old ho).cells
  have hu : CellsAt (w.alloc (.cells (rowN c.n (blk fun _ => 0)) 3)) w.heap.size c.n (fun _ => 0) := cellsAt_of (heap_alloc_new _ _)
  have HC := Lib.hid h
  obtain ⟨S, hS⟩ : ∃ S, S = c.S := ⟨_, rfl⟩
  have HS := Lib.hid hS
  rw [← hS]
  have H0 : Hid (PgR w S w.heap.size c.n 0 (w.alloc (.cells (rowN c.n (blk fun _ => 0)) 3))) := ⟨⟨_, hu, fun j hj => absurd hj (by omega)⟩, ho⟩
  obtain ⟨n, hn⟩ : ∃ n, n = c.n := ⟨_, rfl⟩
  have HN := Lib.hid hn
  rw [← hn] at c6 d6 hM H0 hn2 ⊢
  have hgw := w.heap.size
  clear h ho hu hS hn hgw
  go_enter Try.func13, Try.ntmps13
  go_wp2_with fail
  refine H.out.mono ?_
  rintro e w' ⟨rfl, rfl⟩
  clear H
  go_wp2_with fail
  generalize hg : w.heap.size = g at H0 ⊢
  have HG := Lib.hid hg
  clear hM c6 d6 c4 hg
  go_loopw [20] (fun i wr => ∃ k : Nat, k ≤ n ∧ i = .int .i64 k ∧ Hid (PgR w S g n k wr)) (fun i _ => n - (intOf i).toNat)
  case atStart => exact ⟨0, by omega, rfl, H0⟩
  case round =>
    obtain ⟨k, hk, rfl, HR⟩ := hrel
    clear H0
    by_cases hlt : k < n
    · obtain ⟨F, hF, hFe⟩ := HR.out.at_
      have hcc := HC.out.old HR.out.old
      obtain ⟨gi, g0, g1, g2, _, _, _, _⟩ := hcc.slots.cells (i := k) (by rw [← HN.out]; exact hlt)
      rw [← HS.out] at g0 g1 g2
      cases hs : S k with
      | none =>
        rw [hs] at g0 g1 g2
        have g0' : wr.cell? ⟨sb, k * 3, none⟩ = some (.int .i64 0) := g0
        have g1' : wr.cell? ⟨sb, k * 3 + 1, none⟩ = some (.slice none 0 0) := g1
        have g2' : wr.cell? ⟨sb, k * 3 + 2, none⟩ = some (.bool false) := g2
        have cg : wr.cell? ⟨g, k, none⟩ = some (.int .i64 (F k)) := hF.cell k hlt
        have fg := hF.frz k hlt
        have hgl := hF.lt
        have hF2 := hF.set k hlt 0
        have hF3 := hF2.set k hlt (-1)
        have cg' : (wr.setCell ⟨g, k, none⟩ (.int .i64 0)).cell? ⟨g, k, none⟩ = some (.int .i64 0) := by have := hF2.cell k hlt; rw [if_pos rfl] at this; exact this
        have hE := eql_sl_nil 22 5 none 0 0 Try.underlying22
        have HNx : Hid (PgR w S g n (k + 1) (((wr.setCell ⟨g, k, none⟩ (.int .i64 0)).setCell ⟨g, k, none⟩ (.int .i64 (-1))).alloc (.cells #[.int .i64 0, .slice none 0 0, .bool false] 68))) := by
          have ho := Old.alloc ((wr.setCell ⟨g, k, none⟩ (.int .i64 0)).setCell ⟨g, k, none⟩ (.int .i64 (-1))) (.cells #[.int .i64 0, .slice none 0 0, .bool false] 68)
          refine ⟨⟨_, hF3.old ho, fun j hj => ?_⟩, ?_⟩
          · by_cases e : j = k
            · rw [if_pos e]; unfold pgV; rw [e, hs]
            · rw [if_neg e, if_neg e]; exact hFe j (by omega)
          · have k1 : Kept (fun q => q ≠ g) wr (wr.setCell ⟨g, k, none⟩ (.int .i64 0)) := Kept.setCell _ (a := ⟨g, k, none⟩) (fun e => e rfl) _
            have k2 : Kept (fun q => q ≠ g) (wr.setCell ⟨g, k, none⟩ (.int .i64 0)) ((wr.setCell ⟨g, k, none⟩ (.int .i64 0)).setCell ⟨g, k, none⟩ (.int .i64 (-1))) := Kept.setCell _ (a := ⟨g, k, none⟩) (fun e => e rfl) _
            have hgw := HG.out
            exact (HR.out.old.after (k1.trans k2) fun q hq => by omega).trans ho
        clear hF hF2 hF3 hFe hcc g0 g1 g2 hs HR
        go_wp2_with fail
        go_roundw
        case rel => exact ⟨k + 1, by omega, by go_num, HNx⟩
        case measure => simp [intOf]; omega
      | some s =>
        rw [hs] at g0 g1 g2
        have g0' : wr.cell? ⟨sb, k * 3, none⟩ = some (.int .i64 (s.p : Int)) := g0
        have g1' : wr.cell? ⟨sb, k * 3 + 1, none⟩ = some (.slice (some ⟨gi, 0, none⟩) 64 64) := g1
        have g2' : wr.cell? ⟨sb, k * 3 + 2, none⟩ = some (.bool s.m) := g2
        obtain ⟨sp, hsp⟩ : ∃ sp, sp = s.p := ⟨_, rfl⟩
        obtain ⟨sm, hsm⟩ : ∃ sm, sm = s.m := ⟨_, rfl⟩
        rw [← hsp] at g0'
        rw [← hsm] at g2'
        have cg : wr.cell? ⟨g, k, none⟩ = some (.int .i64 (F k)) := hF.cell k hlt
        have fg := hF.frz k hlt
        have hgl := hF.lt
        have hF2 := hF.set k hlt (sp : Int)
        have hE := eql_sl_nil 22 5 (some ⟨gi, 0, none⟩) 64 64 Try.underlying22
        have HNx : Hid (PgR w S g n (k + 1) ((wr.setCell ⟨g, k, none⟩ (.int .i64 (sp : Int))).alloc (.cells #[.int .i64 (sp : Int), .slice (some ⟨gi, 0, none⟩) 64 64, .bool sm] 68))) := by
          have ho := Old.alloc (wr.setCell ⟨g, k, none⟩ (.int .i64 (sp : Int))) (.cells #[.int .i64 (sp : Int), .slice (some ⟨gi, 0, none⟩) 64 64, .bool sm] 68)
          refine ⟨⟨_, hF2.old ho, fun j hj => ?_⟩, ?_⟩
          · by_cases e : j = k
            · rw [if_pos e]; unfold pgV; rw [e, hs, hsp]
            · rw [if_neg e]; exact hFe j (by omega)
          · have k1 : Kept (fun q => q ≠ g) wr (wr.setCell ⟨g, k, none⟩ (.int .i64 (sp : Int))) := Kept.setCell _ (a := ⟨g, k, none⟩) (fun e => e rfl) _
            have hgw := HG.out
            exact (HR.out.old.after k1 fun q hq => by omega).trans ho
        clear hF hF2 hFe hcc g0 g1 g2 hs HR hsp hsm
        go_wp2_with fail
        go_roundw
        case rel => exact ⟨k + 1, by omega, by go_num, HNx⟩
        case measure => simp [intOf]; omega
    · obtain rfl : k = n := by omega
      have HE : Hid (CellsAt wr g k (pgV S) ∧ Old w wr) := by
        obtain ⟨F, hF, hFe⟩ := HR.out.at_
        exact ⟨hF.ext hFe, HR.out.old⟩
      clear HR
      have e := HG.out
      clear HG
      subst e
      go_wp2_with fail
      go_ret
      exact ⟨rfl, HE.out⟩
end Go.Proofs.Ytooamkicmmgniaa
