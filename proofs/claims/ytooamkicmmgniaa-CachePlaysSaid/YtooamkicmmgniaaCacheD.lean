/- Package cache, fourth part: put. -/
import Derived.Test.YtooamkicmmgniaaCacheC
import Derived.Deep.MidRow
namespace Go.Proofs.Ytooamkicmmgniaa
set_option linter.unusedVariables false
set_option maxRecDepth 100000
open Go.RowKit Go.ChangeShapes Go.WideShapes

theorem cellS_all (s : Option Slt) (g : Nat) : (#[cellS s g 0, cellS s g 1, cellS s g 2] : Array Value).all (·.oneCell') = true := by
  cases s <;> simp [cellS, Value.oneCell']
theorem there_slot {w : World} {sb n z av : Nat} {S : Nat → Option Slt} (h : SlotsAt w sb n z av S) {i : Nat} (hi : i < n) : w.there sb (i * 3) 3 := by
  obtain ⟨gs, h1, _⟩ := h
  exact h1.there (i * 3) 3 (by omega)
theorem updS_none {S : Nat → Option Slt} {i : Nat} (h : S i = none) : updS S i none = S := by
  funext j
  unfold updS
  split
  · rename_i e; rw [e, h]
  · rfl
theorem updS_upd (S : Nat → Option Slt) (i : Nat) (x y : Option Slt) : updS (updS S i x) i y = updS S i y := by
  funext j
  unfold updS
  split <;> rfl
theorem updS_at (S : Nat → Option Slt) (i : Nat) (x : Option Slt) : updS S i x i = x := by unfold updS; rw [if_pos rfl]
/-- The map and the slots apart: what a cache is while a slot is turned. -/
structure CcMid (w : World) (z0 z av b sb hm db N : Nat) (c : Cch) (i : Nat) : Prop where
  blk : w.heap[b]? = some (.cells #[.int .i64 c.h, .int .i64 c.m, .int .i64 c.t, .int .i64 c.l, .pointer (some ⟨db, 0, none⟩), .int .i64 (c.rt : Int), .slice (some ⟨sb, 0, none⟩) c.n c.n, .map (some hm), .int .i64 (c.hand : Int)] 57 (0, 0))
  num : 0 < c.n ∧ c.n ≤ 1024 ∧ c.rt ≤ 8 ∧ c.hand < c.n ∧ N ≤ 65536
  slots : SlotsAt w sb c.n z av c.S
  map : HldAt w hm N (fun k => fnd (updS c.S i none) k c.n)
  pgs : ∀ i, i < c.n → ∀ s, c.S i = some s → s.p < N
  uq : uniq c.n c.S
  rng : (z0 ≤ b ∧ b < z) ∧ (z0 ≤ sb ∧ sb < z) ∧ (z0 ≤ hm ∧ hm < z) ∧ b ≠ sb ∧ b ≠ hm ∧ sb ≠ hm
theorem CcAt.mid {w : World} {z0 z av b sb hm db N : Nat} {c : Cch} (h : CcAt w z0 z av b sb hm db N c) {i : Nat} (hi : c.S i = none) : CcMid w z0 z av b sb hm db N c i :=
  ⟨h.blk, h.num, h.slots, by rw [updS_none hi]; exact h.map, h.pgs, h.uq, h.rng⟩
theorem CcAt.midD {w w' : World} {z0 z av b sb hm db N : Nat} {c : Cch} (h : CcAt w z0 z av b sb hm db N c) {i : Nat} {s : Slt} (hi : i < c.n) (hs : c.S i = some s) (k : Kept (fun j => j < w.heap.size ∧ j ≠ hm) w w') (hm' : HldAt w' hm N (updO (fun k => fnd c.S k c.n) s.p none)) : CcMid w' z0 z av b sb hm db N c i := by
  have hr := h.rng
  refine ⟨(k.block b ⟨h.ltb, by omega⟩).trans h.blk, h.num, h.slots.kept k ⟨h.slots.lt, by omega⟩ fun g h1 _ h2 => ⟨h2, by omega⟩, hm'.ext fun q _ => ?_, h.pgs, h.uq, h.rng⟩
  unfold updO
  rw [del_fnd h.uq hi hs]
theorem CcMid.old {w w' : World} {z0 z av b sb hm db N : Nat} {c : Cch} {i : Nat} (h : CcMid w z0 z av b sb hm db N c i) (k : Old w w') : CcMid w' z0 z av b sb hm db N c i :=
  ⟨(k.block b (lt_of_block h.blk)).trans h.blk, h.num, h.slots.old k, h.map.old k, h.pgs, h.uq, h.rng⟩
theorem CcMid.cells {w : World} {z0 z av b sb hm db N : Nat} {c : Cch} {i : Nat} (h : CcMid w z0 z av b sb hm db N c i) : w.cell? ⟨b, 6, none⟩ = some (.slice (some ⟨sb, 0, none⟩) c.n c.n) ∧ w.cell? ⟨b, 7, none⟩ = some (.map (some hm)) := by
  have := h.blk
  simp [World.cell?, this]
/-- The slot's cells are laid. -/
theorem CcMid.lay {w : World} {z0 z av b sb hm db N : Nat} {c : Cch} {i : Nat} (h : CcMid w z0 z av b sb hm db N c i) (hi : i < c.n) (s : Option Slt) (g : Nat) (hs : ∀ t, s = some t → t.p < N ∧ fnd c.S t.p c.n = none ∧ (z ≤ g ∧ g ≠ av) ∧ SlU w (some ⟨g, 0, none⟩) 64 t.G) :
    w.cell? ⟨b, 7, none⟩ = some (.map (some hm)) ∧ (w.setCells sb (i * 3) [cellS s g 0, cellS s g 1, cellS s g 2]).cell? ⟨b, 7, none⟩ = some (.map (some hm)) ∧ HldAt (w.setCells sb (i * 3) [cellS s g 0, cellS s g 1, cellS s g 2]) hm N (fun k => fnd (updS c.S i none) k c.n) ∧
    (s = none → CcAt (w.setCells sb (i * 3) [cellS s g 0, cellS s g 1, cellS s g 2]) z0 z av b sb hm db N { c with S := updS c.S i none }) ∧
    ∀ t, s = some t → ∀ w', HldAt w' hm N (updO (fun k => fnd (updS c.S i none) k c.n) t.p (some i)) → Kept (fun j => j < (w.setCells sb (i * 3) [cellS s g 0, cellS s g 1, cellS s g 2]).heap.size ∧ j ≠ hm) (w.setCells sb (i * 3) [cellS s g 0, cellS s g 1, cellS s g 2]) w' → CcAt w' z0 z av b sb hm db N { c with S := updS c.S i (some t) } := by
  have hr := h.rng
  have hk : Kept (fun q => q ≠ sb) w (w.setCells sb (i * 3) [cellS s g 0, cellS s g 1, cellS s g 2]) := Kept.setCells _ (fun e => e rfl) _ _
  have hS := h.slots.setS hi (by omega) s g fun t ht => (hs t ht).2.2
  have hmap := h.map.kept hk (show hm ≠ sb by omega)
  have hblk := (hk.block b (show b ≠ sb by omega)).trans h.blk
  have hdu := del_uniq h.uq i
  refine ⟨h.cells.2, (hk.cell (a := ⟨b, 7, none⟩) (show b ≠ sb by omega)).trans h.cells.2, hmap, fun e => ?_, fun t ht w' hm' hk' => ?_⟩
  · subst e
    refine ⟨hblk, h.num, hS, hmap, fun j hj t ht => ?_, hdu, hr⟩
    have ht' : updS c.S i none j = some t := ht
    unfold updS at ht'
    split at ht'
    · cases ht'
    · exact h.pgs j hj t ht'
  · subst ht
    obtain ⟨h1, h2, h3, h4⟩ := hs t rfl
    have hnone : fnd (updS c.S i none) t.p c.n = none := by
      cases hf : fnd (updS c.S i none) t.p c.n with
      | none => rfl
      | some j =>
        obtain ⟨q1, u, q2, q3⟩ := (fnd_eq hdu).1 hf
        unfold updS at q2
        split at q2
        · cases q2
        · have := (fnd_eq h.uq).2 ⟨q1, u, q2, q3⟩
          rw [h2] at this
          cases this
    have hS' := hS.kept hk' ⟨hS.lt, by omega⟩ fun q h1 _ h2 => ⟨h2, by omega⟩
    refine ⟨(hk'.block b ⟨Nat.lt_of_lt_of_le (lt_of_block h.blk) hk.size, by omega⟩).trans hblk, h.num, hS', hm'.ext fun q _ => ?_, fun j hj u hu => ?_, ?_, hr⟩
    · have e1 := put_fnd (S := updS c.S i none) (s := t) hdu hi hnone (updS_at _ _ _) q
      rw [updS_upd] at e1
      show _ = fnd (updS c.S i (some t)) q c.n
      rw [e1]
      unfold updO
      rfl
    · have hu' : updS c.S i (some t) j = some u := hu
      unfold updS at hu'
      split at hu'
      · cases hu'; exact h1
      · exact h.pgs j hj u hu'
    · show uniq c.n (updS c.S i (some t))
      rw [← updS_upd c.S i none (some t)]
      exact put_uniq hdu hnone
theorem choose_fnd {w : World} {z0 z av b sb hm db N : Nat} {c : Cch} (h : CcAt w z0 z av b sb hm db N c) (k : Nat) (hc : uniq c.choose.1.n c.choose.1.S) : fnd c.choose.1.S k c.choose.1.n = fnd c.S k c.n := by
  have hs := chs_same c.n c
  have en : c.choose.1.n = c.n := hs.n
  rw [en] at hc ⊢
  exact fnd_ext hc h.uq fun i _ => hs.S i k
set_option maxHeartbeats 1000000 in
theorem cPut_any (z0 z av b sb hm db N k g : Nat) (G : Nat → Int) (c : Cch) (w : World) (h : CcAt w z0 z av b sb hm db N c) (hk : k < N) (hf : fnd c.S k c.n = none) (hg : z ≤ g) (hga : g ≠ av) (hG : SlU w (some ⟨g, 0, none⟩) 64 G) :
    Calls Try.prog 38 #[.pointer (some ⟨b, 0, none⟩), .int .i64 (k : Int), .slice (some ⟨g, 0, none⟩) 64 64] w fun e w' => e = .returned (.tuple #[]) ∧ CcAt w' z0 z av b sb hm db N (c.put k G) ∧ Kept (fun q => q < w.heap.size ∧ q ≠ b ∧ q ≠ sb ∧ q ≠ hm) w w' := by
  have HC := Lib.hid (choose_any z0 z av b sb hm db N c w h)
  have hlt := (chs_lt c.n c h.num.1 h.num.2.2.2.1).1
  have hen : c.choose.1.n = c.n := (chs_same c.n c).n
  have HFN := Lib.hid (fun hc => (choose_fnd h k hc).trans hf)
  have HP : Hid (c.put k G = { c.choose.1 with S := updS c.choose.1.S c.choose.2 (some ⟨k, true, G⟩) }) := Lib.hid rfl
  rw [HP.out]
  have hrn := h.rng
  have HGa := Lib.hid hga
  have HG := Lib.hid (And.intro hg (And.intro hG (And.intro hk (And.intro hrn h.num))))
  obtain ⟨c1, hc1⟩ : ∃ c1, c1 = c.choose.1 := ⟨_, rfl⟩
  obtain ⟨i, hi⟩ : ∃ i, i = c.choose.2 := ⟨_, rfl⟩
  rw [← hc1, ← hi] at HC ⊢
  rw [← hc1] at HFN hen
  have hi2 : i < c1.n := by rw [hi, hen]; exact hlt
  clear h hf hg hga hG hk HP hc1 hi hlt hen hrn
  go_enter Try.func38, Try.ntmps38
  go_wp2_with fail
  refine HC.out.mono ?_
  rintro e w1 ⟨rfl, hat, hk1⟩
  clear HC
  have hn1 := hat.num.2.1
  obtain ⟨_, _, _, _, _, _, c6, c7, _⟩ := hat.cells
  obtain ⟨gi, g0, g1, g2, _, _, _, _⟩ := hat.slots.cells hi2
  obtain ⟨n, hn⟩ : ∃ n, n = c1.n := ⟨_, rfl⟩
  have hr := hat.rng
  have hun := hat.uq
  have hnone := HFN.out hun
  have HI := Lib.hid hi2
  rw [← hn] at c6 hn1
  have hi3 : i < n := by rw [hn]; exact hi2
  have HN := Lib.hid hn
  have HGd : Hid (∀ W, Old w1 W → SlU W (some ⟨g, 0, none⟩) 64 G) := Lib.hid fun W ho => by
    obtain ⟨p1, p2, p3, p4, p5⟩ := HG.out
    refine (p2.kept hk1 fun a _ ha => ?_).old ho
    cases ha
    exact ⟨by show g ≠ b; omega, by show g ≠ sb; omega⟩
  have HK1 := Lib.hid hk1
  cases hs : c1.S i with
  | none =>
    rw [hs] at g0 g1 g2
    have g0' : w1.cell? ⟨sb, i * 3, none⟩ = some (.int .i64 0) := g0
    have g1' : w1.cell? ⟨sb, i * 3 + 1, none⟩ = some (.slice none 0 0) := g1
    have g2' : w1.cell? ⟨sb, i * 3 + 2, none⟩ = some (.bool false) := g2
    have HM := Lib.hid (fun W (ho : Old w1 W) => (hat.mid hs).old ho)
    obtain ⟨W2, hW2⟩ : ∃ W2, W2 = w1.alloc (.cells #[.int .i64 0, .slice none 0 0, .bool false] 68) := ⟨_, rfl⟩
    have ho2 : Old w1 W2 := by rw [hW2]; exact Old.alloc _ _
    have hm2 := HM.out W2 ho2
    have HO2 := Lib.hid ho2
    have HW2 := Lib.hid hW2
    have hb2 : W2.heap[w1.heap.size]? = some (.cells #[.int .i64 0, .slice none 0 0, .bool false] 68 (0, 0)) := by rw [hW2]; exact heap_alloc_new _ _
    obtain ⟨e0, e1, e2, _, _, _⟩ := cell3 hb2
    obtain ⟨d6, d7⟩ := hm2.cells
    rw [← HN.out] at d6
    have hL := hm2.lay HI.out (some ⟨k, true, G⟩) g fun t ht => by
      cases ht
      exact ⟨HG.out.2.2.1, hnone, ⟨HG.out.1, HGa.out⟩, HGd.out W2 ho2⟩
    obtain ⟨_, d7', hmap, _, hfin⟩ := hL
    have d7'' : (W2.setCells sb (i * 3) [.int .i64 (k : Int), .slice (some ⟨g, 0, none⟩) 64 64, .bool true]).cell? ⟨b, 7, none⟩ = some (.map (some hm)) := d7'
    have HMap : Hid (HldAt (W2.setCells sb (i * 3) [.int .i64 (k : Int), .slice (some ⟨g, 0, none⟩) 64 64, .bool true]) hm N (fun k => fnd (updS c1.S i none) k c1.n)) := Lib.hid hmap
    have HNb : Hid (k < N ∧ N ≤ 1099511627776) := Lib.hid ⟨HG.out.2.2.1, by have := HG.out.2.2.2.2.2.2.2.2; omega⟩
    have HFin : Hid (∀ w', HldAt w' hm N (updO (fun k => fnd (updS c1.S i none) k c1.n) k (some i)) → Kept (fun j => j < (W2.setCells sb (i * 3) [.int .i64 (k : Int), .slice (some ⟨g, 0, none⟩) 64 64, .bool true]).heap.size ∧ j ≠ hm) (W2.setCells sb (i * 3) [.int .i64 (k : Int), .slice (some ⟨g, 0, none⟩) 64 64, .bool true]) w' →
        CcAt w' z0 z av b sb hm db N { c1 with S := updS c1.S i (some ⟨k, true, G⟩) } ∧ Kept (fun q => q < w.heap.size ∧ q ≠ b ∧ q ≠ sb ∧ q ≠ hm) w w') := Lib.hid fun w' q1 q2 => ⟨hfin _ rfl w' q1 q2,
          (HK1.out.mono fun q hq => ⟨hq.2.1, hq.2.2.1⟩).trans ((ho2.kept fun q hq => Nat.lt_of_lt_of_le hq.1 HK1.out.size).trans (((Kept.setCells (X := fun q => q ≠ sb) _ (fun e => e rfl) _ _).mono fun q hq => hq.2.2.1).trans (q2.mono fun q hq => ⟨by rw [setCells_size]; exact Nat.lt_of_lt_of_le hq.1 (Nat.le_trans HK1.out.size ho2.size), hq.2.2.2⟩)))⟩
    have HTh : Hid (W2.there sb (i * 3) (#[.int .i64 (k : Int), .slice (some ⟨g, 0, none⟩) 64 64, .bool true] : Array Value).size) := Lib.hid (there_slot hm2.slots HI.out)
    have HAll : Hid ((#[.int .i64 (k : Int), .slice (some ⟨g, 0, none⟩) 64 64, .bool true] : Array Value).all (·.oneCell') = true) := Lib.hid (cellS_all (some ⟨k, true, G⟩) g)
    have hE := eql_sl_nil 22 5 none 0 0 Try.underlying22
    have HS3 : Hid ((Try.prog.info? 68).map (·.size) = some (#[.int .i64 (k : Int), .slice (some ⟨g, 0, none⟩) 64 64, .bool true] : Array Value).size) := Lib.hid (by kernel_rfl)
    clear hat hs hr hun hi2 hn hk1 HFN hm2 hb2 ho2 hmap hfin hnone g0 g1 g2 d7'
    subst hW2
    go_wp2_with (first
      | (with_reducible refine wpList_store_mid rfl 68 _ _ rfl sb (i * 3) #[.int .i64 (k : Int), .slice (some ⟨g, 0, none⟩) 64 64, .bool true] rfl rfl HTh.out HS3.out HAll.out ?_)
      | (with_reducible refine wpList_put_hld _ rfl _ _ _ rfl hm N k i _ rfl HMap.out HNb.out.1 HNb.out.2 rfl rfl ?_; intro w9 h1 h2; have HF := Lib.hid (HFin.out w9 h1 h2); clear h1 h2))
    go_end0
    exact ⟨rfl, HF.out⟩
  | some s =>
    rw [hs] at g0 g1 g2
    have g0' : w1.cell? ⟨sb, i * 3, none⟩ = some (.int .i64 (s.p : Int)) := g0
    have g1' : w1.cell? ⟨sb, i * 3 + 1, none⟩ = some (.slice (some ⟨gi, 0, none⟩) 64 64) := g1
    have g2' : w1.cell? ⟨sb, i * 3 + 2, none⟩ = some (.bool s.m) := g2
    obtain ⟨sp, hsp⟩ : ∃ sp, sp = s.p := ⟨_, rfl⟩
    obtain ⟨sm, hsm⟩ : ∃ sm, sm = s.m := ⟨_, rfl⟩
    rw [← hsp] at g0'
    rw [← hsm] at g2'
    have ho2 := Old.alloc w1 (.cells #[.int .i64 (sp : Int), .slice (some ⟨gi, 0, none⟩) 64 64, .bool sm] 68)
    have hb2 := heap_alloc_new w1 (.cells #[.int .i64 (sp : Int), .slice (some ⟨gi, 0, none⟩) 64 64, .bool sm] 68)
    have hat2 := hat.old ho2
    obtain ⟨_, _, _, _, _, _, d6, d7, _⟩ := hat2.cells
    rw [← HN.out] at d6
    have HNb : Hid (k < N ∧ N ≤ 1099511627776 ∧ sp < N) := Lib.hid ⟨HG.out.2.2.1, by have := HG.out.2.2.2.2.2.2.2.2; omega, by rw [hsp]; exact hat.pgs i HI.out s hs⟩
    have HAt := Lib.hid (And.intro hat2 (And.intro hs (And.intro ho2 hnone)))
    have HSp := Lib.hid hsp
    have hE := eql_sl_nil 22 5 (some ⟨gi, 0, none⟩) 64 64 Try.underlying22
    have HS3 : Hid ((Try.prog.info? 68).map (·.size) = some (#[.int .i64 (k : Int), .slice (some ⟨g, 0, none⟩) 64 64, .bool true] : Array Value).size) := Lib.hid (by kernel_rfl)
    have HAll : Hid ((#[.int .i64 (k : Int), .slice (some ⟨g, 0, none⟩) 64 64, .bool true] : Array Value).all (·.oneCell') = true) := Lib.hid (cellS_all (some ⟨k, true, G⟩) g)
    clear hat hat2 hs hr hun hi2 hn hk1 HFN ho2 hnone g0 g1 g2 hsp hsm
    go_wp2_with fail
    generalize w1.alloc (.cells #[.int .i64 (sp : Int), .slice (some ⟨gi, 0, none⟩) 64 64, .bool sm] 68) = W2 at *
    generalize hg1 : w1.heap.size = g1 at hb2 ⊢
    obtain ⟨e0, e1, e2, _, _, _⟩ := cell3 hb2
    clear hg1
    refine wp_region_still_tail 6 (by kernel_rfl) (by kernel_rfl) ?_
    simp only [List.take_succ_cons, List.take_zero, List.drop_succ_cons, List.drop_zero]
    iterate 6 (with_reducible refine wpStill_step (fun K hK => ?_); go_simp; with_reducible refine hK _ ?_; clear hK K)
    with_reducible refine wpStill_nil ?_
    change wpList _ _ _ _ _ (World.drew _)
    refine wpList_del_hld _ rfl _ _ rfl hm N sp (fun k => fnd c1.S k c1.n) rfl (show HldAt _ hm N (fun k => fnd c1.S k c1.n) from (HAt.out.1.old (Old.refl _).drew).map) HNb.out.2.2 HNb.out.2.1 rfl ?_
    intro w3 h1 h2
    obtain ⟨hat2, hs, ho2, hnone⟩ := HAt.out
    have hm3 : CcMid w3 z0 z av b sb hm db N c1 i := (hat2.old (Old.refl _).drew).midD HI.out hs h2 (by rw [← HSp.out]; exact h1)
    obtain ⟨x6, x7⟩ := hm3.cells
    rw [← HN.out] at x6
    have hrr := hm3.rng
    have hk3 : Kept (fun q => q < w1.heap.size ∧ q ≠ hm) w1 w3 := (ho2.kept fun q hq => hq.1).trans ((((Kept.refl (fun q => q < W2.heap.size ∧ q ≠ hm) W2).drew).trans (h2.mono fun q hq => hq)).mono fun q hq => ⟨Nat.lt_of_lt_of_le hq.1 ho2.size, hq.2⟩)
    obtain ⟨_, x7', hmap, _, hfin⟩ := hm3.lay HI.out (some ⟨k, true, G⟩) g fun t ht => (by
      cases ht
      refine ⟨HG.out.2.2.1, hnone, ⟨HG.out.1, HGa.out⟩, ?_⟩
      have := HGd.out w1 (Old.refl w1)
      refine this.kept hk3 fun a _ ha => ?_
      cases ha
      obtain ⟨_, _, e1, e2, _⟩ := this (by omega)
      cases e1
      have := HG.out.1
      exact ⟨e2, by show g ≠ hm; omega⟩)
    have x7'' : (w3.setCells sb (i * 3) [.int .i64 (k : Int), .slice (some ⟨g, 0, none⟩) 64 64, .bool true]).cell? ⟨b, 7, none⟩ = some (.map (some hm)) := x7'
    have HMap : Hid (HldAt (w3.setCells sb (i * 3) [.int .i64 (k : Int), .slice (some ⟨g, 0, none⟩) 64 64, .bool true]) hm N (fun k => fnd (updS c1.S i none) k c1.n)) := Lib.hid hmap
    have HFin : Hid (∀ w', HldAt w' hm N (updO (fun k => fnd (updS c1.S i none) k c1.n) k (some i)) → Kept (fun j => j < (w3.setCells sb (i * 3) [.int .i64 (k : Int), .slice (some ⟨g, 0, none⟩) 64 64, .bool true]).heap.size ∧ j ≠ hm) (w3.setCells sb (i * 3) [.int .i64 (k : Int), .slice (some ⟨g, 0, none⟩) 64 64, .bool true]) w' →
        CcAt w' z0 z av b sb hm db N { c1 with S := updS c1.S i (some ⟨k, true, G⟩) } ∧ Kept (fun q => q < w.heap.size ∧ q ≠ b ∧ q ≠ sb ∧ q ≠ hm) w w') := Lib.hid fun w' q1 q2 => ⟨hfin _ rfl w' q1 q2,
          (HK1.out.mono fun q hq => ⟨hq.2.1, hq.2.2.1⟩).trans ((hk3.mono fun q hq => ⟨Nat.lt_of_lt_of_le hq.1 HK1.out.size, hq.2.2.2⟩).trans (((Kept.setCells (X := fun q => q ≠ sb) _ (fun e => e rfl) _ _).mono fun q hq => hq.2.2.1).trans (q2.mono fun q hq => ⟨by rw [setCells_size]; exact Nat.lt_of_lt_of_le hq.1 (Nat.le_trans HK1.out.size hk3.size), hq.2.2.2⟩)))⟩
    have HTh : Hid (w3.there sb (i * 3) (#[.int .i64 (k : Int), .slice (some ⟨g, 0, none⟩) 64 64, .bool true] : Array Value).size) := Lib.hid (there_slot hm3.slots HI.out)
    clear h1 h2 hat2 hs ho2 hnone hm3 hrr hk3 x7' hmap hfin d6 d7 e0 e1 e2 hb2 HAt c6 c7 g0' g1' g2'
    go_wp2_with (first
      | (with_reducible refine wpList_store_mid rfl 68 _ _ rfl sb (i * 3) #[.int .i64 (k : Int), .slice (some ⟨g, 0, none⟩) 64 64, .bool true] rfl rfl HTh.out HS3.out HAll.out ?_)
      | (with_reducible refine wpList_put_hld _ rfl _ _ _ rfl hm N k i _ rfl HMap.out HNb.out.1 HNb.out.2.1 rfl rfl ?_; intro w9 h1 h2; have HF := Lib.hid (HFin.out w9 h1 h2); clear h1 h2))
    go_end0
    exact ⟨rfl, HF.out⟩
end Go.Proofs.Ytooamkicmmgniaa
