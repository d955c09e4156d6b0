/- The law's own disk: made. (by wip/s16/plaind.py, then exp.py) -/
import Derived.Test.YtnccbghpdfcaeaaDiskAw
import Derived.Test.YtnccbghpdfcaeaaAppU
import Derived.Test.YtnccbghpdfcaeaaRowK
import Derived.Deep.DeepCutAuto
import Derived.Deep.CutBlock
import Derived.Deep.RegionHeld
namespace Go.Proofs.Ytnccbghpdfcaeaa
set_option linter.unusedVariables false
set_option linter.unusedSimpArgs false
set_option maxRecDepth 100000
open Go.RowKit Go.ChangeShapes Go.WideShapes

theorem Try.info_intP : (Try.prog.info? 3).map (fun i => (i.zero, i.size, i.bytes)) = some (some (.int .i64 0), 1, 8) := by kernel_rfl
theorem Try.info_u8P : (Try.prog.info? 5).map (fun i => (i.zero, i.size, i.bytes)) = some (some (.int .u8 0), 1, 1) := by kernel_rfl
theorem zero1P (n : Nat) : madeCells (Value.int .i64 0 : Value).cells n = rowN n (blk fun _ => 0) :=
  made_rowN n _ (by decide) (fun j hj => by
    have h1 : j < 1 := hj
    obtain rfl : j = 0 := by omega
    rfl)
theorem zero1U (n : Nat) : madeCells (Value.int .u8 0 : Value).cells n = rowN n (bU fun _ => 0) :=
  made_rowU n _ (by decide) (fun j hj => by
    have h1 : j < 1 := hj
    obtain rfl : j = 0 := by omega
    rfl)
theorem make_intsP (n : Nat) (hn : n ≤ 1099511627776) (w : World) : (Instr.makeSlice 37 (.int .i64 n) (.int .i64 n)).run Try.prog w = .ok (.slice (some ⟨w.heap.size, 0, none⟩) n n) (w.alloc (.cells (rowN n (blk fun _ => 0)) 3)) := by
  obtain ⟨i, hi, hz0, hz1, hz2⟩ := info_parts Try.info_intP
  rw [run_make w _ _ i _ Try.underlying37 hi hz0 .i64 .i64 n n (by omega) (by omega) (by rw [hz2]; omega) (by omega), hz1, Int.toNat_natCast, Nat.mul_one, zero1P n]
theorem make_u8sP (n : Nat) (hn : n ≤ 1099511627776) (w : World) : (Instr.makeSlice 22 (.int .i64 n) (.int .i64 n)).run Try.prog w = .ok (.slice (some ⟨w.heap.size, 0, none⟩) n n) (w.alloc (.cells (rowN n (bU fun _ => 0)) 5)) := by
  obtain ⟨i, hi, hz0, hz1, hz2⟩ := info_parts Try.info_u8P
  rw [run_make w _ _ i _ Try.underlying22 hi hz0 .i64 .i64 n n (by omega) (by omega) (by rw [hz2]; omega) (by omega), hz1, Int.toNat_natCast, Nat.mul_one, zero1U n]

/-- The law's disk: how many pages, their bytes, how many readings fail, which byte is spoilt, by what; the counts. -/
structure Pln where
  N : Nat
  I : Nat → Int
  FF : Nat → Int
  AT : Nat → Int
  XX : Nat → Int
  r : Int
  f : Int
structure PlB where
  q : Nat
  pi : Option Addr
  ci : Nat
  gf : Nat
  ga : Nat
  gx : Nat
def plC (B : PlB) (x : Pln) : Array Value := #[.slice B.pi (x.N * 64) B.ci, .slice (some ⟨B.gf, 0, none⟩) x.N x.N, .slice (some ⟨B.ga, 0, none⟩) x.N x.N, .slice (some ⟨B.gx, 0, none⟩) x.N x.N, .int .i64 x.r, .int .i64 x.f]
structure PlAt (w : World) (B : PlB) (x : Pln) : Prop where
  blk : w.heap[B.q]? = some (.cells (plC B x) 39 (0, 0))
  im : SlU w B.pi (x.N * 64) x.I
  cap : x.N * 64 ≤ B.ci ∧ B.ci ≤ maxLen
  ff : CellsAt w B.gf x.N x.FF
  at_ : CellsAt w B.ga x.N x.AT
  xx : UAt w B.gx x.N x.XX
  ne : (B.q ≠ B.gf ∧ B.q ≠ B.ga ∧ B.q ≠ B.gx) ∧ B.gf ≠ B.ga ∧ B.gf ≠ B.gx ∧ B.ga ≠ B.gx
  apart : ∀ a, 0 < x.N → B.pi = some a → a.block ≠ B.q ∧ a.block ≠ B.gf ∧ a.block ≠ B.ga ∧ a.block ≠ B.gx
/-- All blocks but a plain disk's own that are written. -/
def butP (w : World) (B : PlB) : Nat → Prop := fun j => j < w.heap.size ∧ j ≠ B.q ∧ j ≠ B.gf ∧ j ≠ B.ga ∧ j ≠ B.gx
namespace PlAt
variable {w w' : World} {B : PlB} {x : Pln}
theorem lts (h : PlAt w B x) : B.q < w.heap.size ∧ B.gf < w.heap.size ∧ B.ga < w.heap.size ∧ B.gx < w.heap.size := ⟨lt_of_block h.blk, h.ff.lt, h.at_.lt, h.xx.lt⟩
theorem kept {X : Nat → Prop} (h : PlAt w B x) (k : Kept X w w') (h1 : X B.q) (h2 : X B.gf) (h3 : X B.ga) (h4 : X B.gx) (h5 : ∀ a, 0 < x.N → B.pi = some a → X a.block) : PlAt w' B x :=
  ⟨(k.block _ h1).trans h.blk, h.im.kept k (fun a hn ha => h5 a (by omega) ha), h.cap, h.ff.kept k h2, h.at_.kept k h3, h.xx.kept k h4, h.ne, h.apart⟩
theorem ilt (h : PlAt w B x) : ∀ a, 0 < x.N → B.pi = some a → a.block < w.heap.size := fun a hn ha => by
  obtain ⟨g, o, e1, e2, _⟩ := h.im (by omega)
  rw [e1] at ha; cases ha; exact e2
theorem old (h : PlAt w B x) (k : Old w w') : PlAt w' B x := h.kept k h.lts.1 h.lts.2.1 h.lts.2.2.1 h.lts.2.2.2 h.ilt
end PlAt
structure MadeR (w : World) (N : Nat) (q gf ga gx : Nat) (wx : World) : Prop where
  blk : wx.heap[q]? = some (.cells #[.slice none 0 0, .slice (some ⟨gf, 0, none⟩) N N, .slice (some ⟨ga, 0, none⟩) N N, .slice (some ⟨gx, 0, none⟩) N N, .int .i64 0, .int .i64 0] 39 (0, 0))
  ff : CellsAt wx gf N (fun _ => 0)
  at_ : CellsAt wx ga N (fun _ => 0)
  xx : UAt wx gx N (fun _ => 0)
  ne : (q ≠ gf ∧ q ≠ ga ∧ q ≠ gx) ∧ gf ≠ ga ∧ gf ≠ gx ∧ ga ≠ gx
  ge : w.heap.size ≤ q ∧ w.heap.size ≤ gf ∧ w.heap.size ≤ ga ∧ w.heap.size ≤ gx
  old : Old w wx
theorem four_allocs (w : World) (a b c d : Obj) : ((((w.alloc a).alloc b).alloc c).alloc d).heap[w.heap.size]? = some a ∧ ((((w.alloc a).alloc b).alloc c).alloc d).heap[w.heap.size + 1]? = some b ∧
    ((((w.alloc a).alloc b).alloc c).alloc d).heap[w.heap.size + 1 + 1]? = some c ∧ ((((w.alloc a).alloc b).alloc c).alloc d).heap[w.heap.size + 1 + 1 + 1]? = some d ∧ Old w ((((w.alloc a).alloc b).alloc c).alloc d) := by
  have s1 : (w.alloc a).heap.size = w.heap.size + 1 := by simp
  have s2 : ((w.alloc a).alloc b).heap.size = w.heap.size + 1 + 1 := by simp
  have s3 : (((w.alloc a).alloc b).alloc c).heap.size = w.heap.size + 1 + 1 + 1 := by simp
  have e1 := (MapKept.heap_alloc w a).1
  have e2 := (MapKept.heap_alloc (w.alloc a) b).1
  have e3 := (MapKept.heap_alloc ((w.alloc a).alloc b) c).1
  have e4 := (MapKept.heap_alloc (((w.alloc a).alloc b).alloc c) d).1
  rw [s1] at e2
  rw [s2] at e3
  rw [s3] at e4
  have o2 := Old.alloc (w.alloc a) b
  have o3 := Old.alloc ((w.alloc a).alloc b) c
  have o4 := Old.alloc (((w.alloc a).alloc b).alloc c) d
  exact ⟨((o2.trans (o3.trans o4)).block _ (by rw [s1]; omega)).trans e1, ((o3.trans o4).block _ (by rw [s2]; omega)).trans e2, (o4.block _ (by rw [s3]; omega)).trans e3, e4, (Old.alloc w a).trans (o2.trans (o3.trans o4))⟩
theorem madeR_of {w W : World} {N q gf ga gx : Nat} (h1 : W.heap[q]? = some (.cells #[.slice none 0 0, .slice (some ⟨gf, 0, none⟩) N N, .slice (some ⟨ga, 0, none⟩) N N, .slice (some ⟨gx, 0, none⟩) N N, .int .i64 0, .int .i64 0] 39 (0, 0)))
    (h2 : W.heap[gf]? = some (.cells (rowN N (blk fun _ => 0)) 3 (0, 0))) (h3 : W.heap[ga]? = some (.cells (rowN N (blk fun _ => 0)) 3 (0, 0))) (h4 : W.heap[gx]? = some (.cells (rowN N (bU fun _ => 0)) 5 (0, 0)))
    (h5 : (q ≠ gf ∧ q ≠ ga ∧ q ≠ gx) ∧ gf ≠ ga ∧ gf ≠ gx ∧ ga ≠ gx) (h6 : w.heap.size ≤ q ∧ w.heap.size ≤ gf ∧ w.heap.size ≤ ga ∧ w.heap.size ≤ gx) (h7 : Old w W) : MadeR w N q gf ga gx W.drew :=
  ⟨h1, cellsAt_of (w := W.drew) h2, cellsAt_of (w := W.drew) h3, uAt_of (w := W.drew) h4, h5, h6, h7.drew⟩
def pl0 (m : Nat) (F : Nat → Int) : Pln := ⟨pgs m, padF m F, fun _ => 0, fun _ => 0, fun _ => 0, 0, 0⟩
set_option maxHeartbeats 8000000 in
theorem made_any (p : Option Addr) (m cap : Nat) (F : Nat → Int) (w : World) (hs : SlU w p m F) (hm : m ≤ 500) (hc : m ≤ cap) :
    Calls Try.prog 7 #[.slice p m cap] w fun e w' => ∃ B, e = .returned (.pointer (some ⟨B.q, 0, none⟩)) ∧ PlAt w' B (pl0 m F) ∧ (w.heap.size ≤ B.q ∧ w.heap.size ≤ B.gf ∧ w.heap.size ≤ B.ga ∧ w.heap.size ≤ B.gx) ∧ (∀ a, 0 < pgs m → B.pi = some a → w.heap.size ≤ a.block) ∧ Old w w' := by
  have HS := Lib.hid hs
  obtain ⟨N, hN⟩ : ∃ N, N = pgs m := ⟨_, rfl⟩
  have HN : Hid (N = (m + 63) / 64) := hN
  have HNp := Lib.hid hN
  have hN2 : N ≤ 8 := by have := HN.out; omega
  have t1 : ((m : Int) + 63) / 64 = (N : Int) := by have := HN.out; omega
  have t2 : wrap64 (((m : Int) + 63).tdiv 64) = (N : Int) := by rw [tdiv_pos _ _ (by omega), t1]; exact IntWalk.wrap64_in _ (by omega)
  have HM1 := Lib.hid (fun V => make_intsP N (by omega) V)
  have HM2 := Lib.hid (fun V => make_u8sP N (by omega) V)
  have HBd : Hid (∀ g1 g2 g3, Try.prog.built 39 [(1, .slice (some ⟨g1, 0, none⟩) N N), (2, .slice (some ⟨g2, 0, none⟩) N N), (3, .slice (some ⟨g3, 0, none⟩) N N)] = some #[.slice none 0 0, .slice (some ⟨g1, 0, none⟩) N N, .slice (some ⟨g2, 0, none⟩) N N, .slice (some ⟨g3, 0, none⟩) N N, .int .i64 0, .int .i64 0]) := Lib.hid fun g1 g2 g3 => by kernel_rfl
  rw [← hN]
  clear hs hN
  go_enter Try.func7, Try.ntmps7
  go_upto_region 2 with (fail)
  rw [t1]
  clear t1 t2
  go_cut [4] (fun v wx => ∃ q gf ga gx, v = .pointer (some ⟨q, 0, none⟩) ∧ MadeR w N q gf ga gx wx)
  case first =>
    have hM1 := HM1.out
    have hM2 := HM2.out
    refine wp_region_held_drew (S := (fun _ => True)) (by kernel_rfl) ?_ (fun hHeld => ?_)
    · exact trivial
    refine wpAnyH_take (i := 0) (oi := ⟨some _, _, _, _, _, _⟩) (v := ?_) rfl (by kernel_rfl) (by kernel_rfl) (by kernel_rfl) (fun _ _ _ h => h) (Or.inl ⟨by kernel_rfl, ?_⟩) (by assumption) ?_; rotate_left; (intro w hSw; (try dsimp only at hSw); go_simp; try with_reducible rfl); try simp only [Act.put, List.setIfInBounds_toArray, List.set_cons_zero, List.set_cons_succ]
    refine wpAnyH_take (i := 2) (oi := ⟨some _, _, _, _, _, _⟩) (v := ?_) rfl (by kernel_rfl) (by kernel_rfl) (by kernel_rfl) (fun _ _ _ h => h) (Or.inl ⟨by kernel_rfl, ?_⟩) (by assumption) ?_; rotate_left; (intro w hSw; (try dsimp only at hSw); go_simp; try with_reducible rfl); try simp only [Act.put, List.setIfInBounds_toArray, List.set_cons_zero, List.set_cons_succ]
    refine wpAnyH_take (i := 4) (oi := ⟨some _, _, _, _, _, _⟩) (v := ?_) rfl (by kernel_rfl) (by kernel_rfl) (by kernel_rfl) (fun _ _ _ h => h) (Or.inl ⟨by kernel_rfl, ?_⟩) (by assumption) ?_; rotate_left; (intro w hSw; (try dsimp only at hSw); go_simp; try with_reducible rfl); try simp only [Act.put, List.setIfInBounds_toArray, List.set_cons_zero, List.set_cons_succ]
    refine wpAnyH_ready (rs := [1, 3, 5]) (by kernel_rfl) (by simp) ?_
    (refine AllReadyH.cons (o := ⟨_, _, _, _, _, _⟩) (by rfl) ?_ (AllReadyH.cons (o := ⟨_, _, _, _, _, _⟩) (by rfl) ?_ (AllReadyH.cons (o := ⟨_, _, _, _, _, _⟩) (by rfl) ?_ AllReadyH.nil))) <;> intro K hK
    · go_simp
      refine hK.out _ _ ?_ (fun hHeld => ?_)
      · exact trivial
      clear hK K
      try simp only [Act.put, List.setIfInBounds_toArray, List.set_cons_zero, List.set_cons_succ]
      refine wpAnyH_ready (rs := [3, 5]) (by kernel_rfl) (by simp) ?_
      (refine AllReadyH.cons (o := ⟨_, _, _, _, _, _⟩) (by rfl) ?_ (AllReadyH.cons (o := ⟨_, _, _, _, _, _⟩) (by rfl) ?_ AllReadyH.nil)) <;> intro K hK
      · go_simp
        refine hK.out _ _ ?_ (fun hHeld => ?_)
        · exact trivial
        clear hK K
        try simp only [Act.put, List.setIfInBounds_toArray, List.set_cons_zero, List.set_cons_succ]
        refine wpAnyH_ready (rs := [5]) (by kernel_rfl) (by simp) ?_
        refine AllReadyH.cons (o := ⟨_, _, _, _, _, _⟩) (by rfl) ?_ AllReadyH.nil
        intro K hK
        go_simp
        refine hK.out _ _ ?_ (fun hHeld => ?_)
        · exact trivial
        clear hK K
        try simp only [Act.put, List.setIfInBounds_toArray, List.set_cons_zero, List.set_cons_succ]
        refine wpAnyH_take (i := 6) (oi := ⟨some _, _, _, _, _, _⟩) (v := .agg #[.slice none 0 0, .slice (some ⟨w.heap.size, 0, none⟩) N N, .slice (some ⟨w.heap.size + 1, 0, none⟩) N N, .slice (some ⟨w.heap.size + 1 + 1, 0, none⟩) N N, .int .i64 0, .int .i64 0]) rfl (by kernel_rfl) (by kernel_rfl) (by kernel_rfl) (fun _ _ _ h => h) (yieldsIf_build (by kernel_rfl) 39 _ rfl [(1, .slice (some ⟨w.heap.size, 0, none⟩) N N), (2, .slice (some ⟨w.heap.size + 1, 0, none⟩) N N), (3, .slice (some ⟨w.heap.size + 1 + 1, 0, none⟩) N N)] _ (by kernel_rfl) (HBd.out _ _ _)) (by assumption) ?_; try simp only [Act.put, List.setIfInBounds_toArray, List.set_cons_zero, List.set_cons_succ]
        refine wpAnyH_ready (rs := [7]) (by kernel_rfl) (by simp) ?_
        refine AllReadyH.cons (o := ⟨_, _, _, _, _, _⟩) (by rfl) ?_ AllReadyH.nil
        intro K hK
        go_simp
        refine hK.out _ _ ?_ (fun hHeld => ?_)
        · exact trivial
        clear hK K
        try simp only [Act.put, List.setIfInBounds_toArray, List.set_cons_zero, List.set_cons_succ]
        refine wpAnyH_take (i := 8) (oi := ⟨some _, _, _, _, _, _⟩) (v := ?_) rfl (by kernel_rfl) (by kernel_rfl) (by kernel_rfl) (fun _ _ _ h => h) (Or.inl ⟨by kernel_rfl, ?_⟩) (by assumption) ?_; rotate_left; (intro w hSw; (try dsimp only at hSw); go_simp; try with_reducible rfl); try simp only [Act.put, List.setIfInBounds_toArray, List.set_cons_zero, List.set_cons_succ]
        refine wpAnyH_done (by kernel_rfl) ?_ _
        go_wp2_with fail
        go_meet
        have hf := four_allocs w (.cells (rowN N (blk fun _ => 0)) 3) (.cells (rowN N (blk fun _ => 0)) 3) (.cells (rowN N (bU fun _ => 0)) 5) (.cells #[.slice none 0 0, .slice (some ⟨w.heap.size, 0, none⟩) N N, .slice (some ⟨w.heap.size + 1, 0, none⟩) N N, .slice (some ⟨w.heap.size + 1 + 1, 0, none⟩) N N, .int .i64 0, .int .i64 0] 39)
        exact ⟨_, _, _, _, rfl, madeR_of hf.2.2.2.1 hf.1 hf.2.1 hf.2.2.1 (by omega) (by omega) hf.2.2.2.2⟩
      · go_simp
        refine hK.out _ _ ?_ (fun hHeld => ?_)
        · exact trivial
        clear hK K
        try simp only [Act.put, List.setIfInBounds_toArray, List.set_cons_zero, List.set_cons_succ]
        refine wpAnyH_ready (rs := [3]) (by kernel_rfl) (by simp) ?_
        refine AllReadyH.cons (o := ⟨_, _, _, _, _, _⟩) (by rfl) ?_ AllReadyH.nil
        intro K hK
        go_simp
        refine hK.out _ _ ?_ (fun hHeld => ?_)
        · exact trivial
        clear hK K
        try simp only [Act.put, List.setIfInBounds_toArray, List.set_cons_zero, List.set_cons_succ]
        refine wpAnyH_take (i := 6) (oi := ⟨some _, _, _, _, _, _⟩) (v := .agg #[.slice none 0 0, .slice (some ⟨w.heap.size, 0, none⟩) N N, .slice (some ⟨w.heap.size + 1 + 1, 0, none⟩) N N, .slice (some ⟨w.heap.size + 1, 0, none⟩) N N, .int .i64 0, .int .i64 0]) rfl (by kernel_rfl) (by kernel_rfl) (by kernel_rfl) (fun _ _ _ h => h) (yieldsIf_build (by kernel_rfl) 39 _ rfl [(1, .slice (some ⟨w.heap.size, 0, none⟩) N N), (2, .slice (some ⟨w.heap.size + 1 + 1, 0, none⟩) N N), (3, .slice (some ⟨w.heap.size + 1, 0, none⟩) N N)] _ (by kernel_rfl) (HBd.out _ _ _)) (by assumption) ?_; try simp only [Act.put, List.setIfInBounds_toArray, List.set_cons_zero, List.set_cons_succ]
        refine wpAnyH_ready (rs := [7]) (by kernel_rfl) (by simp) ?_
        refine AllReadyH.cons (o := ⟨_, _, _, _, _, _⟩) (by rfl) ?_ AllReadyH.nil
        intro K hK
        go_simp
        refine hK.out _ _ ?_ (fun hHeld => ?_)
        · exact trivial
        clear hK K
        try simp only [Act.put, List.setIfInBounds_toArray, List.set_cons_zero, List.set_cons_succ]
        refine wpAnyH_take (i := 8) (oi := ⟨some _, _, _, _, _, _⟩) (v := ?_) rfl (by kernel_rfl) (by kernel_rfl) (by kernel_rfl) (fun _ _ _ h => h) (Or.inl ⟨by kernel_rfl, ?_⟩) (by assumption) ?_; rotate_left; (intro w hSw; (try dsimp only at hSw); go_simp; try with_reducible rfl); try simp only [Act.put, List.setIfInBounds_toArray, List.set_cons_zero, List.set_cons_succ]
        refine wpAnyH_done (by kernel_rfl) ?_ _
        go_wp2_with fail
        go_meet
        have hf := four_allocs w (.cells (rowN N (blk fun _ => 0)) 3) (.cells (rowN N (bU fun _ => 0)) 5) (.cells (rowN N (blk fun _ => 0)) 3) (.cells #[.slice none 0 0, .slice (some ⟨w.heap.size, 0, none⟩) N N, .slice (some ⟨w.heap.size + 1 + 1, 0, none⟩) N N, .slice (some ⟨w.heap.size + 1, 0, none⟩) N N, .int .i64 0, .int .i64 0] 39)
        exact ⟨_, _, _, _, rfl, madeR_of hf.2.2.2.1 hf.1 hf.2.2.1 hf.2.1 (by omega) (by omega) hf.2.2.2.2⟩
    · go_simp
      refine hK.out _ _ ?_ (fun hHeld => ?_)
      · exact trivial
      clear hK K
      try simp only [Act.put, List.setIfInBounds_toArray, List.set_cons_zero, List.set_cons_succ]
      refine wpAnyH_ready (rs := [1, 5]) (by kernel_rfl) (by simp) ?_
      (refine AllReadyH.cons (o := ⟨_, _, _, _, _, _⟩) (by rfl) ?_ (AllReadyH.cons (o := ⟨_, _, _, _, _, _⟩) (by rfl) ?_ AllReadyH.nil)) <;> intro K hK
      · go_simp
        refine hK.out _ _ ?_ (fun hHeld => ?_)
        · exact trivial
        clear hK K
        try simp only [Act.put, List.setIfInBounds_toArray, List.set_cons_zero, List.set_cons_succ]
        refine wpAnyH_ready (rs := [5]) (by kernel_rfl) (by simp) ?_
        refine AllReadyH.cons (o := ⟨_, _, _, _, _, _⟩) (by rfl) ?_ AllReadyH.nil
        intro K hK
        go_simp
        refine hK.out _ _ ?_ (fun hHeld => ?_)
        · exact trivial
        clear hK K
        try simp only [Act.put, List.setIfInBounds_toArray, List.set_cons_zero, List.set_cons_succ]
        refine wpAnyH_take (i := 6) (oi := ⟨some _, _, _, _, _, _⟩) (v := .agg #[.slice none 0 0, .slice (some ⟨w.heap.size + 1, 0, none⟩) N N, .slice (some ⟨w.heap.size, 0, none⟩) N N, .slice (some ⟨w.heap.size + 1 + 1, 0, none⟩) N N, .int .i64 0, .int .i64 0]) rfl (by kernel_rfl) (by kernel_rfl) (by kernel_rfl) (fun _ _ _ h => h) (yieldsIf_build (by kernel_rfl) 39 _ rfl [(1, .slice (some ⟨w.heap.size + 1, 0, none⟩) N N), (2, .slice (some ⟨w.heap.size, 0, none⟩) N N), (3, .slice (some ⟨w.heap.size + 1 + 1, 0, none⟩) N N)] _ (by kernel_rfl) (HBd.out _ _ _)) (by assumption) ?_; try simp only [Act.put, List.setIfInBounds_toArray, List.set_cons_zero, List.set_cons_succ]
        refine wpAnyH_ready (rs := [7]) (by kernel_rfl) (by simp) ?_
        refine AllReadyH.cons (o := ⟨_, _, _, _, _, _⟩) (by rfl) ?_ AllReadyH.nil
        intro K hK
        go_simp
        refine hK.out _ _ ?_ (fun hHeld => ?_)
        · exact trivial
        clear hK K
        try simp only [Act.put, List.setIfInBounds_toArray, List.set_cons_zero, List.set_cons_succ]
        refine wpAnyH_take (i := 8) (oi := ⟨some _, _, _, _, _, _⟩) (v := ?_) rfl (by kernel_rfl) (by kernel_rfl) (by kernel_rfl) (fun _ _ _ h => h) (Or.inl ⟨by kernel_rfl, ?_⟩) (by assumption) ?_; rotate_left; (intro w hSw; (try dsimp only at hSw); go_simp; try with_reducible rfl); try simp only [Act.put, List.setIfInBounds_toArray, List.set_cons_zero, List.set_cons_succ]
        refine wpAnyH_done (by kernel_rfl) ?_ _
        go_wp2_with fail
        go_meet
        have hf := four_allocs w (.cells (rowN N (blk fun _ => 0)) 3) (.cells (rowN N (blk fun _ => 0)) 3) (.cells (rowN N (bU fun _ => 0)) 5) (.cells #[.slice none 0 0, .slice (some ⟨w.heap.size + 1, 0, none⟩) N N, .slice (some ⟨w.heap.size, 0, none⟩) N N, .slice (some ⟨w.heap.size + 1 + 1, 0, none⟩) N N, .int .i64 0, .int .i64 0] 39)
        exact ⟨_, _, _, _, rfl, madeR_of hf.2.2.2.1 hf.2.1 hf.1 hf.2.2.1 (by omega) (by omega) hf.2.2.2.2⟩
      · go_simp
        refine hK.out _ _ ?_ (fun hHeld => ?_)
        · exact trivial
        clear hK K
        try simp only [Act.put, List.setIfInBounds_toArray, List.set_cons_zero, List.set_cons_succ]
        refine wpAnyH_ready (rs := [1]) (by kernel_rfl) (by simp) ?_
        refine AllReadyH.cons (o := ⟨_, _, _, _, _, _⟩) (by rfl) ?_ AllReadyH.nil
        intro K hK
        go_simp
        refine hK.out _ _ ?_ (fun hHeld => ?_)
        · exact trivial
        clear hK K
        try simp only [Act.put, List.setIfInBounds_toArray, List.set_cons_zero, List.set_cons_succ]
        refine wpAnyH_take (i := 6) (oi := ⟨some _, _, _, _, _, _⟩) (v := .agg #[.slice none 0 0, .slice (some ⟨w.heap.size + 1 + 1, 0, none⟩) N N, .slice (some ⟨w.heap.size, 0, none⟩) N N, .slice (some ⟨w.heap.size + 1, 0, none⟩) N N, .int .i64 0, .int .i64 0]) rfl (by kernel_rfl) (by kernel_rfl) (by kernel_rfl) (fun _ _ _ h => h) (yieldsIf_build (by kernel_rfl) 39 _ rfl [(1, .slice (some ⟨w.heap.size + 1 + 1, 0, none⟩) N N), (2, .slice (some ⟨w.heap.size, 0, none⟩) N N), (3, .slice (some ⟨w.heap.size + 1, 0, none⟩) N N)] _ (by kernel_rfl) (HBd.out _ _ _)) (by assumption) ?_; try simp only [Act.put, List.setIfInBounds_toArray, List.set_cons_zero, List.set_cons_succ]
        refine wpAnyH_ready (rs := [7]) (by kernel_rfl) (by simp) ?_
        refine AllReadyH.cons (o := ⟨_, _, _, _, _, _⟩) (by rfl) ?_ AllReadyH.nil
        intro K hK
        go_simp
        refine hK.out _ _ ?_ (fun hHeld => ?_)
        · exact trivial
        clear hK K
        try simp only [Act.put, List.setIfInBounds_toArray, List.set_cons_zero, List.set_cons_succ]
        refine wpAnyH_take (i := 8) (oi := ⟨some _, _, _, _, _, _⟩) (v := ?_) rfl (by kernel_rfl) (by kernel_rfl) (by kernel_rfl) (fun _ _ _ h => h) (Or.inl ⟨by kernel_rfl, ?_⟩) (by assumption) ?_; rotate_left; (intro w hSw; (try dsimp only at hSw); go_simp; try with_reducible rfl); try simp only [Act.put, List.setIfInBounds_toArray, List.set_cons_zero, List.set_cons_succ]
        refine wpAnyH_done (by kernel_rfl) ?_ _
        go_wp2_with fail
        go_meet
        have hf := four_allocs w (.cells (rowN N (blk fun _ => 0)) 3) (.cells (rowN N (bU fun _ => 0)) 5) (.cells (rowN N (blk fun _ => 0)) 3) (.cells #[.slice none 0 0, .slice (some ⟨w.heap.size + 1 + 1, 0, none⟩) N N, .slice (some ⟨w.heap.size, 0, none⟩) N N, .slice (some ⟨w.heap.size + 1, 0, none⟩) N N, .int .i64 0, .int .i64 0] 39)
        exact ⟨_, _, _, _, rfl, madeR_of hf.2.2.2.1 hf.2.2.1 hf.1 hf.2.1 (by omega) (by omega) hf.2.2.2.2⟩
    · go_simp
      refine hK.out _ _ ?_ (fun hHeld => ?_)
      · exact trivial
      clear hK K
      try simp only [Act.put, List.setIfInBounds_toArray, List.set_cons_zero, List.set_cons_succ]
      refine wpAnyH_ready (rs := [1, 3]) (by kernel_rfl) (by simp) ?_
      (refine AllReadyH.cons (o := ⟨_, _, _, _, _, _⟩) (by rfl) ?_ (AllReadyH.cons (o := ⟨_, _, _, _, _, _⟩) (by rfl) ?_ AllReadyH.nil)) <;> intro K hK
      · go_simp
        refine hK.out _ _ ?_ (fun hHeld => ?_)
        · exact trivial
        clear hK K
        try simp only [Act.put, List.setIfInBounds_toArray, List.set_cons_zero, List.set_cons_succ]
        refine wpAnyH_ready (rs := [3]) (by kernel_rfl) (by simp) ?_
        refine AllReadyH.cons (o := ⟨_, _, _, _, _, _⟩) (by rfl) ?_ AllReadyH.nil
        intro K hK
        go_simp
        refine hK.out _ _ ?_ (fun hHeld => ?_)
        · exact trivial
        clear hK K
        try simp only [Act.put, List.setIfInBounds_toArray, List.set_cons_zero, List.set_cons_succ]
        refine wpAnyH_take (i := 6) (oi := ⟨some _, _, _, _, _, _⟩) (v := .agg #[.slice none 0 0, .slice (some ⟨w.heap.size + 1, 0, none⟩) N N, .slice (some ⟨w.heap.size + 1 + 1, 0, none⟩) N N, .slice (some ⟨w.heap.size, 0, none⟩) N N, .int .i64 0, .int .i64 0]) rfl (by kernel_rfl) (by kernel_rfl) (by kernel_rfl) (fun _ _ _ h => h) (yieldsIf_build (by kernel_rfl) 39 _ rfl [(1, .slice (some ⟨w.heap.size + 1, 0, none⟩) N N), (2, .slice (some ⟨w.heap.size + 1 + 1, 0, none⟩) N N), (3, .slice (some ⟨w.heap.size, 0, none⟩) N N)] _ (by kernel_rfl) (HBd.out _ _ _)) (by assumption) ?_; try simp only [Act.put, List.setIfInBounds_toArray, List.set_cons_zero, List.set_cons_succ]
        refine wpAnyH_ready (rs := [7]) (by kernel_rfl) (by simp) ?_
        refine AllReadyH.cons (o := ⟨_, _, _, _, _, _⟩) (by rfl) ?_ AllReadyH.nil
        intro K hK
        go_simp
        refine hK.out _ _ ?_ (fun hHeld => ?_)
        · exact trivial
        clear hK K
        try simp only [Act.put, List.setIfInBounds_toArray, List.set_cons_zero, List.set_cons_succ]
        refine wpAnyH_take (i := 8) (oi := ⟨some _, _, _, _, _, _⟩) (v := ?_) rfl (by kernel_rfl) (by kernel_rfl) (by kernel_rfl) (fun _ _ _ h => h) (Or.inl ⟨by kernel_rfl, ?_⟩) (by assumption) ?_; rotate_left; (intro w hSw; (try dsimp only at hSw); go_simp; try with_reducible rfl); try simp only [Act.put, List.setIfInBounds_toArray, List.set_cons_zero, List.set_cons_succ]
        refine wpAnyH_done (by kernel_rfl) ?_ _
        go_wp2_with fail
        go_meet
        have hf := four_allocs w (.cells (rowN N (bU fun _ => 0)) 5) (.cells (rowN N (blk fun _ => 0)) 3) (.cells (rowN N (blk fun _ => 0)) 3) (.cells #[.slice none 0 0, .slice (some ⟨w.heap.size + 1, 0, none⟩) N N, .slice (some ⟨w.heap.size + 1 + 1, 0, none⟩) N N, .slice (some ⟨w.heap.size, 0, none⟩) N N, .int .i64 0, .int .i64 0] 39)
        exact ⟨_, _, _, _, rfl, madeR_of hf.2.2.2.1 hf.2.1 hf.2.2.1 hf.1 (by omega) (by omega) hf.2.2.2.2⟩
      · go_simp
        refine hK.out _ _ ?_ (fun hHeld => ?_)
        · exact trivial
        clear hK K
        try simp only [Act.put, List.setIfInBounds_toArray, List.set_cons_zero, List.set_cons_succ]
        refine wpAnyH_ready (rs := [1]) (by kernel_rfl) (by simp) ?_
        refine AllReadyH.cons (o := ⟨_, _, _, _, _, _⟩) (by rfl) ?_ AllReadyH.nil
        intro K hK
        go_simp
        refine hK.out _ _ ?_ (fun hHeld => ?_)
        · exact trivial
        clear hK K
        try simp only [Act.put, List.setIfInBounds_toArray, List.set_cons_zero, List.set_cons_succ]
        refine wpAnyH_take (i := 6) (oi := ⟨some _, _, _, _, _, _⟩) (v := .agg #[.slice none 0 0, .slice (some ⟨w.heap.size + 1 + 1, 0, none⟩) N N, .slice (some ⟨w.heap.size + 1, 0, none⟩) N N, .slice (some ⟨w.heap.size, 0, none⟩) N N, .int .i64 0, .int .i64 0]) rfl (by kernel_rfl) (by kernel_rfl) (by kernel_rfl) (fun _ _ _ h => h) (yieldsIf_build (by kernel_rfl) 39 _ rfl [(1, .slice (some ⟨w.heap.size + 1 + 1, 0, none⟩) N N), (2, .slice (some ⟨w.heap.size + 1, 0, none⟩) N N), (3, .slice (some ⟨w.heap.size, 0, none⟩) N N)] _ (by kernel_rfl) (HBd.out _ _ _)) (by assumption) ?_; try simp only [Act.put, List.setIfInBounds_toArray, List.set_cons_zero, List.set_cons_succ]
        refine wpAnyH_ready (rs := [7]) (by kernel_rfl) (by simp) ?_
        refine AllReadyH.cons (o := ⟨_, _, _, _, _, _⟩) (by rfl) ?_ AllReadyH.nil
        intro K hK
        go_simp
        refine hK.out _ _ ?_ (fun hHeld => ?_)
        · exact trivial
        clear hK K
        try simp only [Act.put, List.setIfInBounds_toArray, List.set_cons_zero, List.set_cons_succ]
        refine wpAnyH_take (i := 8) (oi := ⟨some _, _, _, _, _, _⟩) (v := ?_) rfl (by kernel_rfl) (by kernel_rfl) (by kernel_rfl) (fun _ _ _ h => h) (Or.inl ⟨by kernel_rfl, ?_⟩) (by assumption) ?_; rotate_left; (intro w hSw; (try dsimp only at hSw); go_simp; try with_reducible rfl); try simp only [Act.put, List.setIfInBounds_toArray, List.set_cons_zero, List.set_cons_succ]
        refine wpAnyH_done (by kernel_rfl) ?_ _
        go_wp2_with fail
        go_meet
        have hf := four_allocs w (.cells (rowN N (bU fun _ => 0)) 5) (.cells (rowN N (blk fun _ => 0)) 3) (.cells (rowN N (blk fun _ => 0)) 3) (.cells #[.slice none 0 0, .slice (some ⟨w.heap.size + 1 + 1, 0, none⟩) N N, .slice (some ⟨w.heap.size + 1, 0, none⟩) N N, .slice (some ⟨w.heap.size, 0, none⟩) N N, .int .i64 0, .int .i64 0] 39)
        exact ⟨_, _, _, _, rfl, madeR_of hf.2.2.2.1 hf.2.2.1 hf.2.1 hf.1 (by omega) (by omega) hf.2.2.2.2⟩
  case rest =>
    obtain ⟨q, gf, ga, gx, rfl, hr⟩ := hcut
    obtain ⟨W, rfl⟩ : ∃ V, V = wc := ⟨_, rfl⟩
    obtain ⟨i0, hi, hz0, hz1, hz2⟩ := info_parts Try.info_u8P
    obtain ⟨kk, hkk⟩ : ∃ kk, kk = N * 64 - m := ⟨_, rfl⟩
    have hNm : m ≤ N * 64 := by have := HN.out; omega
    have HKK := Lib.hid (And.intro hkk hNm)
    have eK : (64 : Int) * (N : Int) - (m : Int) = (kk : Int) := by omega
    have hk64 : kk ≤ 64 + 500 := by omega
    have hoe := own_emptyX W 5
    have HO1 := Lib.hid (Old.alloc W (.cells #[] 5))
    have HS1 : Hid (SlU (W.alloc (.cells #[] 5)) p m F) := Lib.hid (HS.out.old (hr.old.trans HO1.out))
    have HR := Lib.hid hr
    have HNp' := HNp
    have hq := lt_of_block hr.blk
    have HX0 : ∀ j, (fun j => j < W.heap.size) j → j < (W.alloc (.cells #[] 5)).heap.size := fun j hj => Nat.lt_of_lt_of_le hj HO1.out.size
    have hm500 : m ≤ 500 := hm
    have HZc : Hid ((Value.int .u8 0).cells = #[Value.int .u8 0]) := Lib.hid rfl
    have HZ1 : Hid ((Value.int .u8 0).oneCell' = true) := Lib.hid rfl
    clear hr hkk hNm HM1 HM2 HBd HS HNp'
    go_wp2_with (first
      | (at_builtin; refine append_U _ rfl _ _ 22 rfl (fun j => j < W.heap.size) 5 i0 Try.underlying22 hi hz0 hz1 hz2 (.slice (some ⟨W.heap.size, 0, none⟩) 0 0) 0 (fun _ => 0) rfl hoe p m cap F rfl HS1.out (by omega) HX0 ?_; intro v2 w2 h2 hk2 _; have H2 := Lib.hid (show ownX (fun j => j < W.heap.size) w2 5 v2 m (u8L F m) from (by rw [Nat.zero_add] at h2; rw [u8L_ext (F := F) (G := fun j => if j < 0 then 0 else F (j - 0)) (fun j _ => by rw [if_neg (by omega), Nat.sub_zero])]; exact h2)); have HO2 := Lib.hid (show Old W w2 from HO1.out.after hk2 (fun _ h => h)); clear h2 hk2 hoe HX0 HS1)
      | (at_builtin; refine append_Z _ rfl _ _ 22 3 rfl (fun j => j < W.heap.size) 5 i0 (.int .u8 0) 1 .i64 Try.underlying22 Try.underlying3 hi hz0 hz1 hz2 HZc.out HZ1.out _ m (u8L F m) rfl H2.out kk rfl (by unfold maxLen; omega) (by omega) (fun j hj => Nat.lt_of_lt_of_le hj HO2.out.size) ?_; intro v3 w3 h3 hk3 _; generalize hcut3 : wpList _ _ _ _ _ _ = GG))
    have e64 : m + kk = N * 64 := by have := HKK.out; omega
    rw [u8L_zeros, u8L_append, e64] at h3
    have h3' : ownX (fun j => j < W.heap.size) w3 5 v3 (N * 64) (u8L (padF m F) (N * 64)) := by
      rw [u8L_ext (F := padF m F) (G := fun j => if j < m then F j else 0) (fun j _ => rfl)]; exact h3
    obtain ⟨p3, c3, rfl, hc1, hc2, hsl, hpp⟩ := h3'.bytes
    have HO3 := Lib.hid (show Old W w3 from HO2.out.after hk3 (fun _ h => h))
    have hbq : w3.heap[q]? = _ := (HO3.out.block q hq).trans HR.out.blk
    have fq : w3.frozen? ⟨q, 0, none⟩ = false := by simp [World.frozen?, hbq]
    have cq : w3.cell? ⟨q, 0, none⟩ = some (.slice none 0 0) := by simp [World.cell?, hbq]
    have HE : Hid (PlAt (w3.setCell ⟨q, 0, none⟩ (.slice p3 (N * 64) c3)) ⟨q, p3, c3, gf, ga, gx⟩ (pl0 m F) ∧ (∀ a, 0 < N → p3 = some a → w.heap.size ≤ a.block) ∧ Old w (w3.setCell ⟨q, 0, none⟩ (.slice p3 (N * 64) c3))) := by
      have k : Kept (fun j => j ≠ q) w3 (w3.setCell ⟨q, 0, none⟩ (.slice p3 (N * 64) c3)) := Kept.setCell w3 (a := ⟨q, 0, none⟩) (fun e => e rfl) _
      have hr := HR.out
      have ha := heap_setCell_at (o := 0) (u := .slice p3 (N * 64) c3) hbq
      have eN : (pl0 m F).N = N := HNp.out.symm
      refine ⟨⟨?_, ?_, ?_, ?_, ?_, ?_, hr.ne, fun a hn ha => ?_⟩, fun a hn ha => ?_, (hr.old.trans HO3.out).after k (fun j hj => by have := hr.ge.1; show j ≠ q; omega)⟩
      · rw [ha]; unfold plC; rw [eN]; rfl
      · rw [eN]
        exact hsl.kept k fun a hn ha => by
          obtain ⟨g, e1, e2, _⟩ := hpp hn
          rw [e1] at ha; cases ha
          show g ≠ q
          intro e; exact e2 (by rw [e]; exact hq)
      · rw [eN]; exact ⟨hc1, hc2⟩
      · rw [eN]; exact (hr.ff.old HO3.out).kept k (fun e => hr.ne.1.1 e.symm)
      · rw [eN]; exact (hr.at_.old HO3.out).kept k (fun e => hr.ne.1.2.1 e.symm)
      · rw [eN]; exact (hr.xx.old HO3.out).kept k (fun e => hr.ne.1.2.2 e.symm)
      · rw [eN] at hn
        obtain ⟨g, e1, e2, _⟩ := hpp (by omega)
        have ha' : p3 = some a := ha
        rw [e1] at ha'; cases ha'
        have h1 := hr.ff.lt
        have h2 := hr.at_.lt
        have h4 := hr.xx.lt
        have e2' : ¬ g < W.heap.size := e2
        show g ≠ q ∧ g ≠ gf ∧ g ≠ ga ∧ g ≠ gx
        refine ⟨?_, ?_, ?_, ?_⟩ <;> omega
      · obtain ⟨g, e1, e2, _⟩ := hpp (by omega)
        rw [e1] at ha; cases ha
        have e2' : ¬ g < W.heap.size := e2
        have := hr.old.size
        show w.heap.size ≤ g
        omega
    have HG := Lib.hid HR.out.ge
    rw [← hcut3]
    clear h3 h3' hk3 hc1 hc2 hsl hpp H2 HO2 hcut3 hbq HR
    go_wp2_with fail
    go_ret
    exact ⟨⟨q, p3, c3, gf, ga, gx⟩, rfl, HE.out.1, HG.out, HE.out.2.1, HE.out.2.2⟩
end Go.Proofs.Ytnccbghpdfcaeaa


