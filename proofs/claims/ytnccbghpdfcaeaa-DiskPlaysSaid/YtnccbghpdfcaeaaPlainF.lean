/- The law's own disk: a reading that is good. -/
import Derived.Test.YtnccbghpdfcaeaaPlainE
namespace Go.Proofs.Ytnccbghpdfcaeaa
set_option linter.unusedVariables false
set_option linter.unusedSimpArgs false
set_option maxRecDepth 100000
open Go.RowKit Go.ChangeShapes Go.WideShapes

theorem slice_lhP (b o n cap lo hi : Nat) (h1 : lo < hi) (h2 : hi ≤ cap) (w : World) :
    (Instr.sliceAt 22 (.slice (some ⟨b, o, none⟩) n cap) (some (.int .i64 (lo : Int))) (some (.int .i64 (hi : Int))) none).run Try.prog w = .ok (.slice (some ⟨b, o + lo, none⟩) (hi - lo) (cap - lo)) w := by
  rw [run_sliceAt_slice _ _ _ _ _ _ Try.u8s_under, run_slice_lh _ _ _ _ _ Try.u8s_under _ _ _ _ (by omega) (by omega) (by omega), Try.u8s_elem]
  simp only [Result.andThen_ok, sliced, Int.toNat_natCast, Option.map, Nat.mul_one]
  rw [if_neg (by omega), add_plain]
def Pln.pageF (x : Pln) (k : Nat) : Nat → Int := fun j => x.I (k * 64 + j)
def Pln.readF (x : Pln) (k : Nat) : Nat → Int := fun j => if j = (x.AT k).toNat then xorB (x.pageF k j) (x.XX k) else x.pageF k j
def Pln.more (x : Pln) : Pln := { x with r := wrap64 (x.r + 1) }
set_option maxHeartbeats 2000000 in
theorem lawRead_ok (B : PlB) (x : Pln) (k : Nat) (w : World) (h : PlAt w B x) (hn : x.N ≤ 8) (hk : k < x.N) (hf : x.FF k = 0) (ha : 0 ≤ x.AT k ∧ x.AT k ≤ 63) :
    Calls Try.prog 11 #[.pointer (some ⟨B.q, 0, none⟩), .int .i64 k] w fun e w' => ∃ g c, e = .returned (.tuple #[.slice (some ⟨g, 0, none⟩) 64 c, .int .i64 0]) ∧ 64 ≤ c ∧ c ≤ maxLen ∧ UAt w' g 64 (x.readF k) ∧ PlAt w' B x.more ∧ Kept (butP w B) w w' := by
  obtain ⟨_, c1, _, _, c4, _, f4, _⟩ := h.cells
  obtain ⟨r, hr⟩ : ∃ r, r = wrap64 (x.r + 1) := ⟨_, rfl⟩
  have e1 : wrap64 (x.r + 1) = r := hr.symm
  have hb1 := h.setR r
  have HK1 := Lib.hid (butP.setCell (Kept.refl (butP w B) w) (a := ⟨B.q, 4, none⟩) (.inl rfl) (.int .i64 r))
  have HE : Hid (x.more = { x with r := r }) := Lib.hid (by rw [hr]; rfl)
  rw [HE.out]
  obtain ⟨c0', c1', _, _, _, _, _, _⟩ := hb1.cells
  have cf := hb1.ff.cell k hk
  dsimp only at c0' c1' cf
  rw [hf] at cf
  obtain ⟨gi, oi, hpi, hgi, hci⟩ := hb1.im (by show 0 < x.N * 64; omega)
  have hcap : x.N * 64 ≤ B.ci := h.cap.1
  obtain ⟨i0, hi, hz0, hz1, hz2⟩ := info_parts Try.info_u8P
  obtain ⟨W, hW⟩ : ∃ W, W = w.setCell ⟨B.q, 4, none⟩ (.int .i64 r) := ⟨_, rfl⟩
  have hoe := own_emptyX W 5
  have HO1 := Lib.hid (Old.alloc W (.cells #[] 5))
  have hgi' : gi < W.heap.size := by rw [hW]; exact hgi
  have HS1 : Hid (SlU (W.alloc (.cells #[] 5)) (some ⟨gi, oi + k * 64, none⟩) 64 (x.pageF k)) := Lib.hid fun _ => ⟨gi, oi + k * 64, rfl, Nat.lt_of_lt_of_le hgi' HO1.out.size, fun j hj => by
    rw [HO1.out.cell (a := ⟨gi, oi + k * 64 + j, none⟩) hgi', hW, show oi + k * 64 + j = oi + (k * 64 + j) by omega]
    exact hci (k * 64 + j) (by show k * 64 + j < x.N * 64; omega)⟩
  have HP := Lib.hid (show PlAt W B { x with r := r } by rw [hW]; exact hb1)
  have HKW := Lib.hid (show Kept (butP w B) w W by rw [hW]; exact HK1.out)
  have HX0 : ∀ j, (fun j => j < W.heap.size) j → j < (W.alloc (.cells #[] 5)).heap.size := fun j hj => Nat.lt_of_lt_of_le hj HO1.out.size
  have c0a := (HP.out.old HO1.out).cells.1
  dsimp only at c0a
  rw [hpi] at c0a
  obtain ⟨lo, hlo⟩ : ∃ lo, lo = k * 64 := ⟨_, rfl⟩
  have hS1 := fun V => slice_lhP gi oi (x.N * 64) B.ci lo (lo + 64) (by omega) (by omega) V
  rw [show lo + 64 - lo = 64 by omega] at hS1
  have t1 : (64 : Int) * (k : Int) = (lo : Int) := by omega
  have hlo2 : lo + 64 ≤ 512 := by omega
  have hloN : lo + 64 ≤ x.N * 64 := by omega
  have t2 : ((lo + 64 : Nat) : Int) = (lo : Int) + 64 := by omega
  rw [t2] at hS1
  have HAk := Lib.hid ha
  have k0 : (k : Int) < x.N := by omega
  have HHk := Lib.hid hk
  rw [hpi] at c0'
  rw [← hlo] at HS1
  clear h hb1 hr hf hci hgi hgi' HE HK1 ha
  obtain ⟨N, hN⟩ : ∃ N, N = x.N := ⟨_, rfl⟩
  rw [← hN] at c1 c1' c0' c0a k0 hn hcap hS1 hloN
  have hN2 := Lib.hid hN
  clear hN hk hlo t2
  go_enter Try.func11, Try.ntmps11
  go_upto_region 9 with (fail)
  rw [← hW] at c0' c1' cf ⊢
  clear hW c1 c4 f4
  go_wp2_with (at_builtin; refine append_U _ rfl _ _ 22 rfl (fun j => j < W.heap.size) 5 i0 Try.underlying22 hi hz0 hz1 hz2 (.slice (some ⟨W.heap.size, 0, none⟩) 0 0) 0 (fun _ => 0) rfl hoe (some ⟨gi, oi + lo, none⟩) 64 _ (x.pageF k) rfl HS1.out (by omega) HX0 ?_; intro v2 w2 h2 hk2 _; generalize hcut3 : wpList _ _ _ _ _ _ = GG)
  rw [Nat.zero_add] at h2
  have h2' : ownX (fun j => j < W.heap.size) w2 5 v2 64 (u8L (x.pageF k) 64) := by
    rw [u8L_ext (F := x.pageF k) (G := fun j => if j < 0 then 0 else x.pageF k (j - 0)) (fun j _ => by rw [if_neg (by omega), Nat.sub_zero])]; exact h2
  obtain ⟨p2, c2, rfl, hc1, hc2, _, hpp⟩ := h2'.bytes
  obtain ⟨g, rfl, hgx, hu⟩ := hpp (by omega)
  have hgx : ¬ g < W.heap.size := hgx
  have HO2 := Lib.hid (show Old W w2 from HO1.out.after hk2 (fun _ h => h))
  have HP2 := HP.out.old HO2.out
  obtain ⟨_, _, ca, cx, _, _, _, _⟩ := HP2.cells
  have cA := HP2.at_.cell k HHk.out
  have cX := HP2.xx.at_ k HHk.out
  obtain ⟨an, han⟩ : ∃ an : Nat, x.AT k = an := ⟨(x.AT k).toNat, by have := HAk.out; omega⟩
  have HAn := Lib.hid han
  have ha63 : an ≤ 63 := by have := HAk.out; omega
  dsimp only at ca cx cA cX
  rw [han] at cA
  have cg := hu.at_ an (by omega)
  have fg := hu.fz an (by omega)
  obtain ⟨u, hu'⟩ : ∃ u, u = x.pageF k an := ⟨_, rfl⟩
  obtain ⟨z, hz⟩ : ∃ z, z = x.XX k := ⟨_, rfl⟩
  obtain ⟨q, hq⟩ : ∃ q, q = xorB u z := ⟨_, rfl⟩
  have HQ := Lib.hid (show bits .xor .u8 u z = q from hq.symm)
  have HE : Hid (UAt (w2.drew.setCell ⟨g, an, none⟩ (.int .u8 q)) g 64 (x.readF k) ∧ PlAt (w2.drew.setCell ⟨g, an, none⟩ (.int .u8 q)) B { x with r := r } ∧ Kept (butP w B) w (w2.drew.setCell ⟨g, an, none⟩ (.int .u8 q))) := by
    have o1 : Old W (w2.drew.setCell ⟨g, an, none⟩ (.int .u8 q)) := HO2.out.drew.after (Kept.setCell (X := fun j => j < W.heap.size) _ (a := ⟨g, an, none⟩) hgx _) fun _ h => h
    refine ⟨UAt.ext (UAt.set hu.drew an (by omega) q) fun j hj => ?_, HP.out.old o1, HKW.out.trans (o1.kept fun j hj => Nat.lt_of_lt_of_le hj.1 HKW.out.size)⟩
    unfold Pln.readF
    rw [HAn.out, Int.toNat_natCast]
    by_cases e : j = an
    · rw [if_pos e, if_pos e, hq, hu', hz, e]
    · rw [if_neg e, if_neg e]
  rw [← hu'] at cg
  rw [← hz] at cX
  rw [← hN2.out] at ca cx
  have an0 : (0 : Int) ≤ an := by omega
  have an1 : (an : Int) < 64 := by omega
  have HC := Lib.hid (And.intro hc1 hc2)
  rw [← hcut3]
  clear h2 h2' hk2 hcut3 hpp hu HP HP2 HO2 hq hz hu' han hgx c0a c0' c1' cf HX0 hoe HS1
  go_wp2_with fail
  refine wp_region_still_tail 27 (by kernel_rfl) (by kernel_rfl) ?_
  simp only [List.take_succ_cons, List.take_zero, List.drop_succ_cons, List.drop_zero]
  iterate 27 (with_reducible refine wpStill_step (fun K hK => ?_); go_simp; with_reducible refine hK _ ?_; clear hK K)
  with_reducible refine wpStill_nil ?_
  change wpList _ _ _ _ _ w2.drew
  rw [← HQ.out] at HE
  go_wp2_with fail
  go_ret2
  exact ⟨g, c2, rfl, HC.out.1, HC.out.2, HE.out⟩
end Go.Proofs.Ytnccbghpdfcaeaa
