/- The law's own disk: read. -/
import Derived.Test.YtnccbghpdfcaeaaPlainD
namespace Go.Proofs.Ytnccbghpdfcaeaa
set_option linter.unusedVariables false
set_option linter.unusedSimpArgs false
set_option maxRecDepth 100000
open Go.RowKit Go.ChangeShapes Go.WideShapes

def updI (F : Nat → Int) (k : Nat) (v : Int) : Nat → Int := fun j => if j = k then v else F j
namespace PlAt
variable {w w' : World} {B : PlB} {x : Pln}
theorem cells (h : PlAt w B x) : w.cell? ⟨B.q, 0, none⟩ = some (.slice B.pi (x.N * 64) B.ci) ∧ w.cell? ⟨B.q, 1, none⟩ = some (.slice (some ⟨B.gf, 0, none⟩) x.N x.N) ∧ w.cell? ⟨B.q, 2, none⟩ = some (.slice (some ⟨B.ga, 0, none⟩) x.N x.N) ∧
    w.cell? ⟨B.q, 3, none⟩ = some (.slice (some ⟨B.gx, 0, none⟩) x.N x.N) ∧ w.cell? ⟨B.q, 4, none⟩ = some (.int .i64 x.r) ∧ w.cell? ⟨B.q, 5, none⟩ = some (.int .i64 x.f) ∧ w.frozen? ⟨B.q, 4, none⟩ = false ∧ w.frozen? ⟨B.q, 5, none⟩ = false := by
  have := h.blk
  unfold plC at this
  simp [World.cell?, World.frozen?, this]
theorem setR (h : PlAt w B x) (v : Int) : PlAt (w.setCell ⟨B.q, 4, none⟩ (.int .i64 v)) B { x with r := v } := by
  have k : Kept (fun j => j ≠ B.q) w (w.setCell ⟨B.q, 4, none⟩ (.int .i64 v)) := Kept.setCell w (a := ⟨B.q, 4, none⟩) (fun e => e rfl) _
  exact ⟨(heap_setCell_at h.blk).trans rfl, h.im.kept k (fun a hn ha => (h.apart a (by omega) ha).1), h.cap, h.ff.kept k (fun e => h.ne.1.1 e.symm), h.at_.kept k (fun e => h.ne.1.2.1 e.symm), h.xx.kept k (fun e => h.ne.1.2.2 e.symm), h.ne, h.apart⟩
theorem setB (h : PlAt w B x) (v : Int) : PlAt (w.setCell ⟨B.q, 5, none⟩ (.int .i64 v)) B { x with f := v } := by
  have k : Kept (fun j => j ≠ B.q) w (w.setCell ⟨B.q, 5, none⟩ (.int .i64 v)) := Kept.setCell w (a := ⟨B.q, 5, none⟩) (fun e => e rfl) _
  exact ⟨(heap_setCell_at h.blk).trans rfl, h.im.kept k (fun a hn ha => (h.apart a (by omega) ha).1), h.cap, h.ff.kept k (fun e => h.ne.1.1 e.symm), h.at_.kept k (fun e => h.ne.1.2.1 e.symm), h.xx.kept k (fun e => h.ne.1.2.2 e.symm), h.ne, h.apart⟩
theorem setF (h : PlAt w B x) {k : Nat} (hk : k < x.N) (v : Int) : PlAt (w.setCell ⟨B.gf, k, none⟩ (.int .i64 v)) B { x with FF := updI x.FF k v } := by
  have e : Kept (fun j => j ≠ B.gf) w (w.setCell ⟨B.gf, k, none⟩ (.int .i64 v)) := Kept.setCell w (a := ⟨B.gf, k, none⟩) (fun e => e rfl) _
  exact ⟨(e.block _ h.ne.1.1).trans h.blk, h.im.kept e (fun a hn ha => (h.apart a (by omega) ha).2.1), h.cap, h.ff.set k hk v, h.at_.kept e (fun e => h.ne.2.1 e.symm), h.xx.kept e (fun e => h.ne.2.2.1 e.symm), h.ne, h.apart⟩
theorem setA (h : PlAt w B x) {k : Nat} (hk : k < x.N) (v : Int) : PlAt (w.setCell ⟨B.ga, k, none⟩ (.int .i64 v)) B { x with AT := updI x.AT k v } := by
  have e : Kept (fun j => j ≠ B.ga) w (w.setCell ⟨B.ga, k, none⟩ (.int .i64 v)) := Kept.setCell w (a := ⟨B.ga, k, none⟩) (fun e => e rfl) _
  exact ⟨(e.block _ h.ne.1.2.1).trans h.blk, h.im.kept e (fun a hn ha => (h.apart a (by omega) ha).2.2.1), h.cap, h.ff.kept e h.ne.2.1, h.at_.set k hk v, h.xx.kept e (fun e => h.ne.2.2.2 e.symm), h.ne, h.apart⟩
theorem setX (h : PlAt w B x) {k : Nat} (hk : k < x.N) (v : Int) : PlAt (w.setCell ⟨B.gx, k, none⟩ (.int .u8 v)) B { x with XX := updI x.XX k v } := by
  have e : Kept (fun j => j ≠ B.gx) w (w.setCell ⟨B.gx, k, none⟩ (.int .u8 v)) := Kept.setCell w (a := ⟨B.gx, k, none⟩) (fun e => e rfl) _
  exact ⟨(e.block _ h.ne.1.2.2).trans h.blk, h.im.kept e (fun a hn ha => (h.apart a (by omega) ha).2.2.2), h.cap, h.ff.kept e h.ne.2.2.1, h.at_.kept e h.ne.2.2.2, UAt.set h.xx k hk v, h.ne, h.apart⟩
theorem drew (h : PlAt w B x) : PlAt w.drew B x := h.old (Old.drew (Old.refl w))
end PlAt
theorem butP.setCell {w w' : World} {B : PlB} (h : Kept (butP w B) w w') {a : Addr} (ha : a.block = B.q ∨ a.block = B.gf ∨ a.block = B.ga ∨ a.block = B.gx) (v : Value) : Kept (butP w B) w (w'.setCell a v) :=
  h.trans (Kept.setCell w' (fun e => by unfold butP at e; obtain ⟨_, e1, e2, e3, e4⟩ := e; rcases ha with h | h | h | h <;> contradiction) v)
theorem lawRead_out (B : PlB) (x : Pln) (i : Int) (w : World) (h : PlAt w B x) (hn : x.N ≤ 8) (hi : i < 0 ∨ (x.N : Int) ≤ i) : Calls Try.prog 11 #[.pointer (some ⟨B.q, 0, none⟩), .int .i64 i] w fun e w' => e = .returned (.tuple #[.slice none 0 0, .int .i64 5]) ∧ w = w' := by
  obtain ⟨_, c1, _, _, _, _, _, _⟩ := h.cells
  obtain ⟨N, hN⟩ : ∃ N, N = x.N := ⟨_, rfl⟩
  rw [← hN] at c1 hi hn
  clear h hN
  by_cases h0 : i < 0
  · clear hi
    go_enter Try.func11, Try.ntmps11
    go_wp2
    go_ret2
    exact ⟨rfl, rfl⟩
  · have h1 : (N : Int) ≤ i := by omega
    clear hi
    go_enter Try.func11, Try.ntmps11
    go_wp2
    go_ret2
    exact ⟨rfl, rfl⟩
def Pln.bad (x : Pln) (k : Nat) : Pln := { x with r := wrap64 (x.r + 1), f := wrap64 (x.f + 1), FF := if 0 < x.FF k then updI x.FF k (x.FF k - 1) else x.FF }
set_option maxHeartbeats 1000000 in
theorem lawRead_bad (B : PlB) (x : Pln) (k : Nat) (w : World) (h : PlAt w B x) (hn : x.N ≤ 8) (hk : k < x.N) (hf : x.FF k ≠ 0) (hb : x.FF k ≤ 9223372036854775807) :
    Calls Try.prog 11 #[.pointer (some ⟨B.q, 0, none⟩), .int .i64 k] w fun e w' => e = .returned (.tuple #[.slice none 0 0, .int .i64 8]) ∧ PlAt w' B (x.bad k) ∧ Kept (butP w B) w w' := by
  obtain ⟨_, c1, _, _, c4, c5, f4, f5⟩ := h.cells
  obtain ⟨r, hr⟩ : ∃ r, r = wrap64 (x.r + 1) := ⟨_, rfl⟩
  obtain ⟨f, hff⟩ : ∃ f, f = wrap64 (x.f + 1) := ⟨_, rfl⟩
  have e1 : wrap64 (x.r + 1) = r := hr.symm
  have e2 : wrap64 (x.f + 1) = f := hff.symm
  have hb1 := h.setR r
  have hb2 := hb1.setB f
  have HK2 := Lib.hid (butP.setCell (butP.setCell (Kept.refl (butP w B) w) (a := ⟨B.q, 4, none⟩) (.inl rfl) (.int .i64 r)) (a := ⟨B.q, 5, none⟩) (.inl rfl) (.int .i64 f))
  obtain ⟨_, c1', _, _, _, c5', _, f5'⟩ := hb1.cells
  obtain ⟨_, c1'', _, _, _, _, _, _⟩ := hb2.cells
  have cf := hb1.ff.cell k hk
  have cf2 := hb2.ff.cell k hk
  have ff2 := hb2.ff.frz k hk
  have HE : Hid (x.bad k = { x with r := r, f := f, FF := if 0 < x.FF k then updI x.FF k (x.FF k - 1) else x.FF }) := Lib.hid (by rw [hr, hff]; rfl)
  rw [HE.out]
  have HB2 := Lib.hid hb2
  have HSt := Lib.hid (fun v => PlAt.setF (w := ((w.setCell ⟨B.q, 4, none⟩ (.int .i64 r)).setCell ⟨B.q, 5, none⟩ (.int .i64 f)).drew) (x := { x with r := r, f := f }) hb2.drew hk v)
  have k0 : (k : Int) < x.N := by omega
  obtain ⟨v, hv⟩ : ∃ v, v = x.FF k := ⟨_, rfl⟩
  dsimp only at c1' c5' c1'' cf cf2 ff2
  rw [← hv] at cf cf2 hf hb ⊢
  obtain ⟨N, hN⟩ : ∃ N, N = x.N := ⟨_, rfl⟩
  rw [← hN] at c1 c1' c1'' k0 hn
  have d0 : (v != 0) = true := by simp [hf]
  by_cases hp : 0 < v
  · rw [if_pos hp]
    have t1 : wrap64 (v - 1) = v - 1 := IntWalk.wrap64_in _ (by omega)
    have t2 : IntKind.i64.wrap (v - 1) = v - 1 := IntWalk.i64_in _ (by omega)
    clear h hb1 hb2 hr hff hv hN HE hf
    go_enter Try.func11, Try.ntmps11
    go_wp2_with fail
    clear c1 c1' c4 c5 c5' f4 f5 f5' cf
    generalize (w.setCell ⟨B.q, 4, none⟩ (.int .i64 r)).setCell ⟨B.q, 5, none⟩ (.int .i64 f) = W2 at *
    refine wp_region_still_tail 14 (by kernel_rfl) (by kernel_rfl) ?_
    simp only [List.take_succ_cons, List.take_zero, List.drop_succ_cons, List.drop_zero]
    iterate 14 (with_reducible refine wpStill_step (fun K hK => ?_); go_simp; with_reducible refine hK _ ?_; clear hK K)
    with_reducible refine wpStill_nil ?_
    change wpList _ _ _ _ _ W2.drew
    have HE2 : Hid (PlAt (W2.drew.setCell ⟨B.gf, k, none⟩ (.int .i64 (v - 1))) B { x with r := r, f := f, FF := updI x.FF k (v - 1) } ∧ Kept (butP w B) w (W2.drew.setCell ⟨B.gf, k, none⟩ (.int .i64 (v - 1)))) := Lib.hid ⟨HSt.out (v - 1), butP.setCell HK2.out.drew (a := ⟨B.gf, k, none⟩) (.inr (.inl rfl)) _⟩
    go_wp2_with fail
    go_ret2
    exact ⟨rfl, HE2.out⟩
  · rw [if_neg hp]
    clear h hb1 hb2 hr hff hv hN HE hf
    go_enter Try.func11, Try.ntmps11
    go_wp2_with fail
    go_ret2
    exact ⟨rfl, HB2.out, HK2.out⟩
end Go.Proofs.Ytnccbghpdfcaeaa
