/- Package cache, second part: Told, New, choose. -/
import Derived.Test.YtooamkicmmgniaaCacheA
import Derived.Deep.LoopGhost
namespace Go.Proofs.Ytooamkicmmgniaa
set_option linter.unusedVariables false
set_option maxRecDepth 100000
open Go.RowKit Go.ChangeShapes Go.WideShapes

theorem cTold_at (z0 z av b sb hm db N : Nat) (c : Cch) (w : World) (h : CcAt w z0 z av b sb hm db N c) : Calls Try.prog 11 #[.pointer (some ⟨b, 0, none⟩)] w fun e w' => e = .returned (statV c) ∧ Old w w' := by
  have HO := Lib.hid (Old.alloc w (.cells #[.int .i64 0, .int .i64 0, .int .i64 0, .int .i64 0] 37))
  obtain ⟨c0, c1, c2, c3, c4, _, _, _, _⟩ := (h.old HO.out).cells
  have H := Lib.hid (cMade_yes b db _ c4)
  have HO2 := Lib.hid (Old.alloc w (.cells #[.int .i64 c.h, .int .i64 c.m, .int .i64 c.t, .int .i64 c.l] 37))
  unfold statV
  clear h
  go_enter Try.func11, Try.ntmps11
  go_wp2_with fail
  refine H.out.mono ?_
  rintro e w' ⟨rfl, rfl⟩
  go_wp2_with fail
  refine bodyPost_ret (results_cell_row rfl _ _ w.heap.size 37 _ (0, 0) _ rfl (heap_alloc_new _ _) Try.underlying37 rfl (by kernel_rfl)) rfl ?_
  exact ⟨rfl, HO2.out⟩
theorem cNew_nil (n rt : Int) (w : World) : Calls Try.prog 19 #[.pointer none, .int .i64 n, .int .i64 rt] w fun e w' => e = .returned (.tuple #[.pointer none, .int .i64 1]) ∧ w = w' := by
  go_enter Try.func19, Try.ntmps19
  go_wp2
  go_ret2
  exact ⟨rfl, rfl⟩
theorem cNew_bad (db : Nat) (n rt : Int) (w : World) (h : n < 1 ∨ 1024 < n ∨ rt < 0 ∨ 8 < rt) : Calls Try.prog 19 #[.pointer (some ⟨db, 0, none⟩), .int .i64 n, .int .i64 rt] w fun e w' => e = .returned (.tuple #[.pointer none, .int .i64 1]) ∧ w = w' := by
  by_cases h0 : n < 1
  · clear h
    go_enter Try.func19, Try.ntmps19
    go_wp2
    go_ret2
    exact ⟨rfl, rfl⟩
  · by_cases h1 : 1024 < n
    · clear h
      go_enter Try.func19, Try.ntmps19
      go_wp2
      go_ret2
      exact ⟨rfl, rfl⟩
    · by_cases h2 : rt < 0
      · clear h
        go_enter Try.func19, Try.ntmps19
        go_wp2
        go_ret2
        exact ⟨rfl, rfl⟩
      · have h3 : 8 < rt := by omega
        clear h
        go_enter Try.func19, Try.ntmps19
        go_wp2
        go_ret2
        exact ⟨rfl, rfl⟩
/-- An empty cache. -/
def cc0 (n rt : Nat) : Cch := ⟨n, rt, 0, 0, 0, 0, 0, fun _ => none⟩
theorem slV_none (gs : Nat → Nat) (j : Nat) : slV (fun _ => none) gs j = cellS none 0 (j % 3) := by
  unfold slV
  have h3 : j % 3 = 0 ∨ j % 3 = 1 ∨ j % 3 = 2 := by omega
  rcases h3 with h3 | h3 | h3 <;> rw [h3] <;> rfl
def zSl : Array Value := #[.int .i64 0, .slice none 0 0, .bool false]
theorem made_slots (n : Nat) : madeCells zSl (3 * n) = rowN (3 * n) (slV (fun _ => none) fun _ => 0) := by
  apply Array.ext_getElem?
  intro i
  have hz : zSl.size = 3 := rfl
  by_cases hi : i < 3 * n
  · rw [rowN_at (3 * n) _ i hi, slV_none]
    have h3 : i % 3 = 0 ∨ i % 3 = 1 ∨ i % 3 = 2 := by omega
    rcases h3 with h3 | h3 | h3 <;> simp [madeCells, hi, hz, h3] <;> rfl
  · rw [Array.getElem?_eq_none (by rw [size_madeCells]; omega), Array.getElem?_eq_none (by rw [rowN_size]; omega)]
theorem Try.info_slot : (Try.prog.info? 68).map (fun i => (i.zero, i.size, i.bytes)) = some (some (.agg zSl), 3, 40) := by kernel_rfl
theorem make_slots (n : Nat) (hn : n ≤ 1024) (w : World) : (Instr.makeSlice 54 (.int .i64 n) (.int .i64 n)).run Try.prog w = .ok (.slice (some ⟨w.heap.size, 0, none⟩) n n) (w.alloc (.cells (rowN (3 * n) (slV (fun _ => none) fun _ => 0)) 68)) := by
  obtain ⟨i, hi, hz0, hz1, hz2⟩ := info_parts Try.info_slot
  rw [run_make w _ _ i _ Try.underlying54 hi hz0 .i64 .i64 n n (by omega) (by omega) (by rw [hz2]; omega) (by omega), Int.toNat_natCast]
  rw [hz1, show (Value.agg zSl).cells = zSl from rfl, Nat.mul_comm n 3, ← made_slots]
theorem cNew_ok (db n rt N : Nat) (w : World) (h1 : 1 ≤ n) (h2 : n ≤ 1024) (h3 : rt ≤ 8) (hN : N ≤ 65536) : Calls Try.prog 19 #[.pointer (some ⟨db, 0, none⟩), .int .i64 (n : Int), .int .i64 (rt : Int)] w fun e w' =>
    e = .returned (.tuple #[.pointer (some ⟨w.heap.size + 2, 0, none⟩), .int .i64 0]) ∧ w'.heap.size = w.heap.size + 3 ∧ CcAt w' w.heap.size (w.heap.size + 3) (w.heap.size + 2) (w.heap.size + 2) w.heap.size (w.heap.size + 1) db N (cc0 n rt) ∧ Old w w' := by
  have hM := make_slots n h2 w
  have hmm := @run_makeMap Try.prog
  obtain ⟨W1, hW1⟩ : ∃ W1, W1 = w.alloc (.cells (rowN (3 * n) (slV (fun _ => none) fun _ => 0)) 68) := ⟨_, rfl⟩
  rw [← hW1] at hM
  have hS1 : W1.heap.size = w.heap.size + 1 := by rw [hW1]; simp
  have HE : Hid (((W1.alloc (.map #[] 0)).alloc (.cells #[.int .i64 0, .int .i64 0, .int .i64 0, .int .i64 0, .pointer (some ⟨db, 0, none⟩), .int .i64 (rt : Int), .slice (some ⟨w.heap.size, 0, none⟩) n n, .map (some (w.heap.size + 1)), .int .i64 0] 57)).heap.size = w.heap.size + 3 ∧
      CcAt ((W1.alloc (.map #[] 0)).alloc (.cells #[.int .i64 0, .int .i64 0, .int .i64 0, .int .i64 0, .pointer (some ⟨db, 0, none⟩), .int .i64 (rt : Int), .slice (some ⟨w.heap.size, 0, none⟩) n n, .map (some (w.heap.size + 1)), .int .i64 0] 57)) w.heap.size (w.heap.size + 3) (w.heap.size + 2) (w.heap.size + 2) w.heap.size (w.heap.size + 1) db N (cc0 n rt) ∧
      Old w ((W1.alloc (.map #[] 0)).alloc (.cells #[.int .i64 0, .int .i64 0, .int .i64 0, .int .i64 0, .pointer (some ⟨db, 0, none⟩), .int .i64 (rt : Int), .slice (some ⟨w.heap.size, 0, none⟩) n n, .map (some (w.heap.size + 1)), .int .i64 0] 57))) := by
    have hs2 : (W1.alloc (.map #[] 0)).heap.size = w.heap.size + 2 := by simp [hS1]
    have o0 : Old w W1 := by rw [hW1]; exact Old.alloc _ _
    have o1 := Old.alloc W1 (.map #[] 0)
    have o2 := Old.alloc (W1.alloc (.map #[] 0)) (.cells #[.int .i64 0, .int .i64 0, .int .i64 0, .int .i64 0, .pointer (some ⟨db, 0, none⟩), .int .i64 (rt : Int), .slice (some ⟨w.heap.size, 0, none⟩) n n, .map (some (w.heap.size + 1)), .int .i64 0] 57)
    have hb := heap_alloc_new (W1.alloc (.map #[] 0)) (.cells #[.int .i64 0, .int .i64 0, .int .i64 0, .int .i64 0, .pointer (some ⟨db, 0, none⟩), .int .i64 (rt : Int), .slice (some ⟨w.heap.size, 0, none⟩) n n, .map (some (w.heap.size + 1)), .int .i64 0] 57)
    rw [hs2] at hb
    have hsl : CellsV W1 w.heap.size (3 * n) (slV (fun _ => none) fun _ => 0) := by rw [hW1]; exact cellsV_of (heap_alloc_new _ _)
    refine ⟨by simp [hS1], ⟨?_, ⟨h1, h2, h3, h1, hN⟩, ⟨fun _ => 0, (hsl.old o1).old o2, fun i _ s hs => by cases hs⟩, ?_, fun i _ s hs => (by (have h0 : (none : Option Slt) = some s := hs); cases h0), fun i j s t _ _ hs => (by (have h0 : (none : Option Slt) = some s := hs); cases h0), by omega⟩, (o0.trans o1).trans o2⟩
    · exact hb
    · have hm := ((hld_made W1 N).old o2).ext (G := fun k => fnd (cc0 n rt).S k (cc0 n rt).n) fun k _ => by
        show none = fnd (fun _ => none) k n
        cases hf : fnd (fun _ => none) k n with
        | none => rfl
        | some i => have := (fnd_some hf).2; unfold hasS at this; cases this
      rw [hS1] at hm
      exact hm
  clear hW1
  go_enter Try.func19, Try.ntmps19
  go_wp2_with fail
  go_ret2
  exact ⟨rfl, HE.out⟩

/-! The hand goes round. -/
theorem CcAt.next {w : World} {z0 z av b sb hm db N : Nat} {c : Cch} (h : CcAt w z0 z av b sb hm db N c) : CcAt (w.setCell ⟨b, 8, none⟩ (.int .i64 (((c.hand + 1) % c.n : Nat) : Int))) z0 z av b sb hm db N c.next := by
  have k : Kept (fun j => j ≠ b) w (w.setCell ⟨b, 8, none⟩ (.int .i64 (((c.hand + 1) % c.n : Nat) : Int))) := Kept.setCell w (a := ⟨b, 8, none⟩) (fun e => e rfl) _
  have hr := h.rng
  exact ⟨(heap_setCell_at h.blk).trans rfl, ⟨h.num.1, h.num.2.1, h.num.2.2.1, Nat.mod_lt _ h.num.1, h.num.2.2.2.2⟩, h.slots.kept k (by omega) fun g hg _ _ => by omega, h.map.kept k (by omega), h.pgs, h.uq, hr⟩
theorem CcAt.markd {w : World} {z0 z av b sb hm db N : Nat} {c : Cch} (h : CcAt w z0 z av b sb hm db N c) {i : Nat} (hi : i < c.n) {s : Slt} (hs : c.S i = some s) (m : Bool) : CcAt (w.setCell ⟨sb, i * 3 + 2, none⟩ (.bool m)) z0 z av b sb hm db N { c with S := setM c.S i m } := by
  have hr := h.rng
  have k : Kept (fun j => j ≠ sb) w (w.setCell ⟨sb, i * 3 + 2, none⟩ (.bool m)) := Kept.setCell w (a := ⟨sb, i * 3 + 2, none⟩) (fun e => e rfl) _
  refine ⟨(k.block b (by omega)).trans h.blk, h.num, h.slots.mark hi hs (by omega) m, (h.map.kept k (by omega)).ext fun k _ => (setM_fnd h.uq i m k).symm, fun j hj t ht => ?_, setM_uniq h.uq i m, hr⟩
  obtain ⟨u, hu, _, e2⟩ := setM_G c.S i m j t ht
  rw [e2]
  exact h.pgs j hj u hu
theorem mkS_some {S : Nat → Option Slt} {i : Nat} (h : mkS S i = true) : ∃ s, S i = some s ∧ s.m = true := by
  unfold mkS at h
  cases hs : S i with
  | none => rw [hs] at h; cases h
  | some s => rw [hs] at h; exact ⟨s, rfl, h⟩
theorem cellS_mark (S : Nat → Option Slt) (i g : Nat) : cellS (S i) g 2 = .bool (mkS S i) := by
  unfold mkS
  cases S i <;> rfl
/-- What the hand has told so far. -/
structure ChR (w0 : World) (z0 z av b sb hm db N : Nat) (c : Cch) (g : Nat) (wr : World) : Prop where
  ex : ∃ cur : Cch, cntM (mkS cur.S) cur.n ≤ g ∧ chs g cur = c.choose ∧ CcAt wr z0 z av b sb hm db N cur
  kp : Kept (fun q => q ≠ b ∧ q ≠ sb) w0 wr
set_option maxHeartbeats 1000000 in
theorem choose_any (z0 z av b sb hm db N : Nat) (c : Cch) (w : World) (h : CcAt w z0 z av b sb hm db N c) : Calls Try.prog 40 #[.pointer (some ⟨b, 0, none⟩)] w fun e w' =>
    e = .returned (.int .i64 (c.choose.2 : Int)) ∧ CcAt w' z0 z av b sb hm db N c.choose.1 ∧ Kept (fun q => q ≠ b ∧ q ≠ sb) w w' := by
  have H0 : Hid (ChR w z0 z av b sb hm db N c c.n w) := ⟨⟨c, cntM_le _ _, rfl, h⟩, Kept.refl _ _⟩
  obtain ⟨cc, hcc⟩ : ∃ cc, cc = c.choose := ⟨_, rfl⟩
  obtain ⟨n0, hn0⟩ : ∃ n0, n0 = c.n := ⟨_, rfl⟩
  have HC := Lib.hid hcc
  rw [← hcc]
  rw [← hn0] at H0
  clear h hcc hn0
  go_enter Try.func40, Try.ntmps40
  go_wp2_with fail
  go_loopg [] n0 (fun g wr => Hid (ChR w z0 z av b sb hm db N c g wr))
  case atStart => exact H0
  case round =>
    obtain ⟨cur, hcnt, hch, hat⟩ := hrel.out.ex
    have HK := Lib.hid hrel.out.kp
    obtain ⟨_, _, _, _, c4, _, c6, _, c8⟩ := hat.cells
    have f8 := hat.frz 8
    obtain ⟨hn1, hn2, _, hh, _⟩ := hat.num
    have hr := hat.rng
    obtain ⟨n, hn⟩ : ∃ n, n = cur.n := ⟨_, rfl⟩
    obtain ⟨hd, hhd⟩ : ∃ hd, hd = cur.hand := ⟨_, rfl⟩
    obtain ⟨nx, hnx⟩ : ∃ nx, nx = (hd + 1) % n := ⟨_, rfl⟩
    rw [← hn] at c6 hn1 hn2 hh
    rw [← hhd] at c8 hh
    have hnxn : nx < n := by rw [hnx]; exact Nat.mod_lt _ hn1
    have t1 : wrap64 (((hd : Int) + 1).tmod (n : Int)) = nx := by
      rw [Int.tmod_eq_emod_of_nonneg (by omega), hnx]
      have : (((hd + 1) % n : Nat) : Int) = ((hd : Int) + 1) % (n : Int) := by rw [Int.natCast_emod]; rfl
      have h5 : (hd + 1) % n < n := Nat.mod_lt _ hn1
      rw [← this, IntWalk.wrap64_in _ (by omega)]
    have t2 : ((hd : Int) + 1) % (n : Int) = nx := by rw [hnx, Int.natCast_emod]; rfl
    have hat2 : CcAt ((wr.setCell ⟨b, 8, none⟩ (.int .i64 (nx : Int))).drew) z0 z av b sb hm db N cur.next := by rw [hnx, hn, hhd]; exact hat.next.old (Old.refl _).drew
    have hK2 : Kept (fun q => q ≠ b ∧ q ≠ sb) w ((wr.setCell ⟨b, 8, none⟩ (.int .i64 (nx : Int))).drew) := (HK.out.trans (Kept.setCell _ (a := ⟨b, 8, none⟩) (fun e => e.1 rfl) _)).drew
    obtain ⟨_, _, _, _, _, _, d6, _, _⟩ := hat2.cells
    obtain ⟨g, _, _, g2, _, _, k2, _⟩ := hat2.slots.cells (i := hd) (by rw [hhd]; exact hat.num.2.2.2.1)
    rw [cellS_mark] at g2
    obtain ⟨mk, hmk⟩ : ∃ mk, mk = mkS cur.S hd := ⟨_, rfl⟩
    rw [show cur.next.S = cur.S from rfl, ← hmk] at g2
    rw [show cur.next.n = cur.n from rfl, ← hn] at d6
    have HD := Lib.hid (And.intro hcnt (And.intro hch (And.intro hn (And.intro hhd (And.intro hmk (And.intro hat2 hK2))))))
    clear hrel H0 hat hat2 hK2 hcnt hch hn hhd hnx hr hmk
    have hz0 : ¬ n = 0 := by omega
    have tw0 : IntKind.i64.wrap ((hd : Int) + 1) = (hd : Int) + 1 := IntWalk.i64_in _ (by omega)
    have tw1 : ((hd : Int) + 1).tmod (n : Int) = nx := by rw [Int.tmod_eq_emod_of_nonneg (by omega)]; exact t2
    have tw2 : IntKind.i64.wrap (nx : Int) = nx := IntWalk.i64_in _ (by omega)
    go_wp2_with fail
    refine wp_region_still_tail 14 (by kernel_rfl) (by kernel_rfl) ?_
    simp only [List.take_succ_cons, List.take_zero, List.drop_succ_cons, List.drop_zero]
    iterate 14 (with_reducible refine wpStill_step (fun K hK => ?_); go_simp; with_reducible refine hK _ ?_; clear hK K)
    with_reducible refine wpStill_nil ?_
    change wpList _ _ _ _ _ (World.drew _)
    cases mk with
    | false =>
      have HF : Hid (cc = (cur.next, hd)) := by
        obtain ⟨_, e2, _, e4, e5, _, _⟩ := HD.out
        rw [HC.out, ← e2, chs_no (by rw [← e4]; exact e5.symm), e4]
        exact Lib.hid rfl
      go_wp2_with fail
      rw [HF.out]
      go_ret
      exact ⟨rfl, HD.out.2.2.2.2.2⟩
    | true =>
      have HF : Hid (∃ k, k < gk ∧ ChR w z0 z av b sb hm db N c k (((wr.setCell ⟨b, 8, none⟩ (.int .i64 (nx : Int))).drew).setCell ⟨sb, hd * 3 + 2, none⟩ (.bool false))) := by
        obtain ⟨e1, e2, e3, e4, e5, e6, e7⟩ := HD.out
        have hm : mkS cur.S cur.hand = true := by rw [← e4]; exact e5.symm
        have hlt : cur.hand < cur.n := by rw [← e4, ← e3]; exact hh
        obtain ⟨s, hs, _⟩ := mkS_some hm
        have hc1 := cntM_less (f := mkS cur.S) (g := mkS (setM cur.S cur.hand false)) hlt hm (mkS_setM_false _ _) fun j hj => mkS_setM _ _ _ j hj
        obtain ⟨g', rfl⟩ : ∃ g', gk = g' + 1 := ⟨gk - 1, by omega⟩
        refine ⟨g', by omega, ⟨⟨cur.by_, ?_, ?_, ?_⟩, e7.trans (Kept.setCell _ (a := ⟨sb, hd * 3 + 2, none⟩) (fun e => e.2 rfl) _)⟩⟩
        · show cntM (mkS (setM cur.S cur.hand false)) cur.n ≤ g'
          omega
        · rw [← e2, chs_yes hm]
        · rw [e4]
          exact e6.markd hlt hs false
      go_wp2_with fail
      obtain ⟨k, hk, hF⟩ := HF.out
      go_roundg k
      case measure => exact hk
      case rel => exact hF
end Go.Proofs.Ytooamkicmmgniaa
