/- What the law CachePlays begins with: the plain cache is made; both have the same. -/
import Derived.Test.YtooamkicmmgniaaPlnH
import Derived.Test.YtooamkicmmgniaaTriesP
namespace Go.Proofs.Ytooamkicmmgniaa
set_option linter.unusedVariables false
set_option maxRecDepth 100000
open Go.RowKit Go.ChangeShapes Go.WideShapes

theorem made_one (n : Nat) (z : Value) (hz : z.cells = #[z]) : madeCells z.cells n = rowN n (fun _ => z) := by
  apply Array.ext_getElem?
  intro i
  by_cases hi : i < n
  · rw [rowN_at n _ i hi, hz]
    simp [madeCells, hi, Nat.mod_one]
  · rw [Array.getElem?_eq_none (by rw [size_madeCells]; omega), Array.getElem?_eq_none (by rw [rowN_size]; omega)]
theorem Try.info_boolc : (Try.prog.info? 4).map (fun i => (i.zero, i.size, i.bytes)) = some (some (.bool false), 1, 1) := by kernel_rfl
theorem Try.info_u8sc : (Try.prog.info? 22).map (fun i => (i.zero, i.size, i.bytes)) = some (some (.slice none 0 0), 1, 24) := by kernel_rfl
theorem make_boolsC (n : Nat) (hn : n ≤ 1048576) (w : World) : (Instr.makeSlice 34 (.int .i64 n) (.int .i64 n)).run Try.prog w = .ok (.slice (some ⟨w.heap.size, 0, none⟩) n n) (w.alloc (.cells (rowN n (fun _ => .bool false)) 4)) := by
  obtain ⟨i, hi, hz0, hz1, hz2⟩ := info_parts Try.info_boolc
  rw [run_make w _ _ i _ Try.underlying34 hi hz0 .i64 .i64 n n (by omega) (by omega) (by rw [hz2]; omega) (by omega), hz1, Int.toNat_natCast, Nat.mul_one, made_one n _ rfl]
theorem make_rowsC (n : Nat) (hn : n ≤ 1048576) (w : World) : (Instr.makeSlice 35 (.int .i64 n) (.int .i64 n)).run Try.prog w = .ok (.slice (some ⟨w.heap.size, 0, none⟩) n n) (w.alloc (.cells (rowN n (fun _ => .slice none 0 0)) 22)) := by
  obtain ⟨i, hi, hz0, hz1, hz2⟩ := info_parts Try.info_u8sc
  rw [run_make w _ _ i _ Try.underlying35 hi hz0 .i64 .i64 n n (by omega) (by omega) (by rw [hz2]; omega) (by omega), hz1, Int.toNat_natCast, Nat.mul_one, made_one n _ rfl]
theorem four_allocs (w : World) (a b c d : Obj) : ((((w.alloc a).alloc b).alloc c).alloc d).heap[w.heap.size]? = some a ∧ ((((w.alloc a).alloc b).alloc c).alloc d).heap[w.heap.size + 1]? = some b ∧
    ((((w.alloc a).alloc b).alloc c).alloc d).heap[w.heap.size + 1 + 1]? = some c ∧ ((((w.alloc a).alloc b).alloc c).alloc d).heap[w.heap.size + 1 + 1 + 1]? = some d ∧ Old w ((((w.alloc a).alloc b).alloc c).alloc d) := by
  have s1 : (w.alloc a).heap.size = w.heap.size + 1 := by simp
  have s2 : ((w.alloc a).alloc b).heap.size = w.heap.size + 1 + 1 := by simp
  have s3 : (((w.alloc a).alloc b).alloc c).heap.size = w.heap.size + 1 + 1 + 1 := by simp
  have e1 := (MapKept.heap_alloc w a).1
  have e2 := (MapKept.heap_alloc (w.alloc a) b).1
  have e3 := (MapKept.heap_alloc ((w.alloc a).alloc b) c).1
  have e4 := (MapKept.heap_alloc (((w.alloc a).alloc b).alloc c) d).1
  rw [s1] at e2
  rw [s2] at e3
  rw [s3] at e4
  have o2 := Old.alloc (w.alloc a) b
  have o3 := Old.alloc ((w.alloc a).alloc b) c
  have o4 := Old.alloc (((w.alloc a).alloc b).alloc c) d
  exact ⟨((o2.trans (o3.trans o4)).block _ (by rw [s1]; omega)).trans e1, ((o3.trans o4).block _ (by rw [s2]; omega)).trans e2, (o4.block _ (by rw [s3]; omega)).trans e3, e4, (Old.alloc w a).trans (o2.trans (o3.trans o4))⟩
/-- The plain cache is made, its pages are noughts yet. -/
structure MadeR (w : World) (n rt dq q gp gm gd : Nat) (wx : World) : Prop where
  blk : wx.heap[q]? = some (.cells #[.pointer (some ⟨dq, 0, none⟩), .slice (some ⟨gp, 0, none⟩) n n, .slice (some ⟨gm, 0, none⟩) n n, .slice (some ⟨gd, 0, none⟩) n n, .int .i64 0, .int .i64 (rt : Int), .int .i64 0, .int .i64 0, .int .i64 0, .int .i64 0] 39 (0, 0))
  pages : CellsAt wx gp n (fun _ => 0)
  marks : CellsV wx gm n (fun _ => .bool false)
  data : CellsV wx gd n (fun _ => .slice none 0 0)
  ne : (q ≠ gp ∧ q ≠ gm ∧ q ≠ gd) ∧ gp ≠ gm ∧ gp ≠ gd ∧ gm ≠ gd
  ge : w.heap.size ≤ q ∧ w.heap.size ≤ gp ∧ w.heap.size ≤ gm ∧ w.heap.size ≤ gd
  old : Old w wx
theorem madeR_of {w W : World} {n rt dq q gp gm gd : Nat} (h1 : W.heap[q]? = some (.cells #[.pointer (some ⟨dq, 0, none⟩), .slice (some ⟨gp, 0, none⟩) n n, .slice (some ⟨gm, 0, none⟩) n n, .slice (some ⟨gd, 0, none⟩) n n, .int .i64 0, .int .i64 (rt : Int), .int .i64 0, .int .i64 0, .int .i64 0, .int .i64 0] 39 (0, 0)))
    (h2 : W.heap[gp]? = some (.cells (rowN n (blk fun _ => 0)) 3 (0, 0))) (h3 : W.heap[gm]? = some (.cells (rowN n (fun _ => .bool false)) 4 (0, 0))) (h4 : W.heap[gd]? = some (.cells (rowN n (fun _ => .slice none 0 0)) 22 (0, 0)))
    (h5 : (q ≠ gp ∧ q ≠ gm ∧ q ≠ gd) ∧ gp ≠ gm ∧ gp ≠ gd ∧ gm ≠ gd) (h6 : w.heap.size ≤ q ∧ w.heap.size ≤ gp ∧ w.heap.size ≤ gm ∧ w.heap.size ≤ gd) (h7 : Old w W) : MadeR w n rt dq q gp gm gd W.drew :=
  ⟨h1, cellsAt_of (w := W.drew) h2, cellsV_of (w := W.drew) h3, cellsV_of (w := W.drew) h4, h5, h6, h7.drew⟩
/-- On the way: so many pages are none. -/
structure NoneR (w : World) (n rt dq q gp gm gd i : Nat) (wx : World) : Prop where
  pages : CellsAt wx gp n (fun j => if j < i then -1 else 0)
  rest : ∃ W, MadeR w n rt dq q gp gm gd W ∧ Kept (fun x => x ≠ gp) W wx
theorem NoneR.next {w wx : World} {n rt dq q gp gm gd i : Nat} (h : NoneR w n rt dq q gp gm gd i wx) (hi : i < n) : NoneR w n rt dq q gp gm gd (i + 1) (wx.setCell ⟨gp, i, none⟩ (.int .i64 (-1))) := by
  obtain ⟨W, h1, h2⟩ := h.rest
  refine ⟨(h.pages.set i hi (-1)).ext fun j hj => ?_, W, h1, h2.trans (Kept.setCell _ (a := ⟨gp, i, none⟩) (fun e => e rfl) _)⟩
  by_cases e : j = i
  · rw [if_pos e, if_pos (by omega)]
  · rw [if_neg e]
    by_cases e2 : j < i
    · rw [if_pos e2, if_pos (by omega)]
    · rw [if_neg e2, if_neg (by omega)]
/-- Both have the same: nothing. -/
theorem sy_begin {w w1 w2 W wx : World} {n rt m z0 dm dx q gp gm gd : Nat} {F : Nat → Int} (h1 : 1 ≤ n) (h2 : n ≤ 1024) (h3 : rt ≤ 8) (hpg : pgs m ≤ 65536) (hcd : CD w1 w.heap.size z0 dm (pgs m) (cc0 n rt) (dk0 m F)) (hz1 : w1.heap.size = z0 + 3) (ho1 : Old w w1)
    (hdx : w1.heap.size < dx) (hd2 : DkAt w2 (dx + 1) dx (some ⟨w1.heap.size, 0, none⟩) (pgs m) (dk0 m F)) (ho2 : Old w1 w2) (hm : MadeR w2 n rt (dx + 1) q gp gm gd W) (hn : NoneR w2 n rt (dx + 1) q gp gm gd n wx) (hk : Kept (fun x => x ≠ gp) W wx) :
    SyS wx ⟨w.heap.size, z0, dm, w2.heap.size, W.heap.size, q, gp, gm, gd, dx⟩ (pgs m) (cc0 n rt) (dk0 m F) := by
  obtain ⟨p, hck, hlo⟩ := hcd
  have hq := lt_of_block hm.blk
  have hgp := hm.pages.lt
  have hgm := hm.marks.lt
  have hgd := hm.data.lt
  have hge := hm.ge
  have hne := hm.ne
  have hs2 := ho2.size
  have hsW := hm.old.size
  have hkw := hk.size
  have hr := hck.cc.rng
  have hl := hck.lo
  have oW : Old w1 W := ho2.trans hm.old
  have kx : Kept (fun x => x < w1.heap.size) w1 wx := oW.after hk fun x hx => by omega
  have hd3 := hd2.old hm.old
  have hdb := hd2.ltb
  have hdm := hd2.map.lt
  refine ⟨⟨p, ?_⟩, ⟨some ⟨w1.heap.size, 0, none⟩, ⟨(hk.block q (by omega)).trans hm.blk, ⟨h1, h2, h3, h1, hpg⟩, hn.pages.ext fun j hj => ?_, hm.marks.kept hk (by omega), ⟨_, hm.data.kept hk (by omega), fun i _ s hs => ?_⟩, fun i j s t _ _ hs => ?_, fun i _ s hs => ?_, ?_, hd3.kept hk (by show dx + 1 ≠ gp; omega) (by show dx ≠ gp; omega) (fun a _ ha => ?_), rfl, ⟨?_, ?_, fun a _ ha => ?_⟩, hkw⟩, fun a _ ha => ?_⟩, ⟨hlo.1, hlo.2, by show z0 + 3 ≤ dx; omega⟩⟩
  · have hc := hck.kept kx fun x hx hx2 => ?_
    · obtain ⟨gs, g1, g2⟩ := hc.cc.slots
      exact ⟨⟨hc.cc.blk, hc.cc.num, ⟨gs, g1, fun i hi s hs => (by (have h0 : (none : Option Slt) = some s := hs); cases h0)⟩, hc.cc.map, hc.cc.pgs, hc.cc.uq, (by show (z0 ≤ z0 + 2 ∧ z0 + 2 < W.heap.size) ∧ (z0 ≤ z0 ∧ z0 < W.heap.size) ∧ (z0 ≤ z0 + 1 ∧ z0 + 1 < W.heap.size) ∧ z0 + 2 ≠ z0 ∧ z0 + 2 ≠ z0 + 1 ∧ z0 ≠ z0 + 1; omega)⟩, hc.dk, hc.nN, hc.lo, hkw⟩
    · exact hx
  · show (if j < n then (-1 : Int) else 0) = pgV (fun _ => none) j
    rw [if_pos hj]
    rfl
  · have h0 : (none : Option Slt) = some s := hs
    cases h0
  · have h0 : (none : Option Slt) = some s := hs
    cases h0
  · have h0 : (none : Option Slt) = some s := hs
    cases h0
  · show (w2.heap.size ≤ q ∧ q < W.heap.size) ∧ (w2.heap.size ≤ gp ∧ gp < W.heap.size) ∧ (w2.heap.size ≤ gm ∧ gm < W.heap.size) ∧ (w2.heap.size ≤ gd ∧ gd < W.heap.size) ∧ _
    exact ⟨⟨hge.1, hq⟩, ⟨hge.2.1, hgp⟩, ⟨hge.2.2.1, hgm⟩, ⟨hge.2.2.2, hgd⟩, hne.1.1, hne.1.2.1, hne.1.2.2, hne.2.1, hne.2.2.1, hne.2.2.2⟩
  · cases ha
    show w1.heap.size ≠ gp
    omega
  · exact hdb
  · exact hdm
  · cases ha
    show w1.heap.size < w2.heap.size
    omega
  · cases ha
    show z0 + 3 ≤ w1.heap.size
    omega
end Go.Proofs.Ytooamkicmmgniaa
