/- Package disk, third part: refuse, befall, fails, Pages, Reads, Failed. -/
import Derived.Test.YtooamkicmmgniaaDiskB
import Derived.Deep.RegionHeld
namespace Go.Proofs.Ytooamkicmmgniaa
set_option linter.unusedVariables false
set_option maxRecDepth 100000
open Go.RowKit Go.ChangeShapes Go.WideShapes

theorem refuse_no (v : Value) (i : Int) (w : World) (h : NoDk w v) : Calls Try.prog 30 #[v, .int .i64 i] w fun e w' => e = .returned (.int .i64 16) ∧ w = w' := by
  have H := Lib.hid (isMade_no v w h)
  clear h
  go_enter Try.func30, Try.ntmps30
  go_wp2_with fail
  refine H.out.mono ?_
  rintro e w' ⟨rfl, rfl⟩
  go_wp2
  go_ret
  exact ⟨rfl, rfl⟩
/-- A number that is no page. -/
def noPg (d : Dsk) (i : Int) : Prop := i < 0 ∨ (d.N : Int) ≤ i
theorem refuse_out (b m : Nat) (p : Option Addr) (c : Nat) (d : Dsk) (i : Int) (w : World) (h : DkAt w b m p c d) (hi : noPg d i) : Calls Try.prog 30 #[.pointer (some ⟨b, 0, none⟩), .int .i64 i] w fun e w' => e = .returned (.int .i64 5) ∧ w = w' := by
  obtain ⟨c0, c1, c2, c3, f2, f3⟩ := h.cells
  have hn := h.num
  have H := Lib.hid (isMade_yes b m w c1)
  obtain ⟨N, hN⟩ : ∃ N, N = d.N := ⟨_, rfl⟩
  unfold noPg at hi
  rw [← hN] at c0 hi hn
  clear hN h
  by_cases h0 : i < 0
  · clear hi
    go_enter Try.func30, Try.ntmps30
    go_wp2_with fail
    refine H.out.mono ?_
    rintro e w' ⟨rfl, rfl⟩
    go_wp2
    go_ret
    exact ⟨rfl, rfl⟩
  · have h1 : (N : Int) ≤ i := by omega
    have h0' : 0 ≤ i := by omega
    clear hi
    go_enter Try.func30, Try.ntmps30
    go_wp2_with fail
    refine H.out.mono ?_
    rintro e w' ⟨rfl, rfl⟩
    go_wp2
    go_ret
    exact ⟨rfl, rfl⟩
theorem refuse_ok (b m : Nat) (p : Option Addr) (c : Nat) (d : Dsk) (k : Nat) (w : World) (h : DkAt w b m p c d) (hk : k < d.N) : Calls Try.prog 30 #[.pointer (some ⟨b, 0, none⟩), .int .i64 k] w fun e w' => e = .returned (.int .i64 0) ∧ w = w' := by
  obtain ⟨c0, c1, c2, c3, f2, f3⟩ := h.cells
  have hn := h.num
  have H := Lib.hid (isMade_yes b m w c1)
  obtain ⟨N, hN⟩ : ∃ N, N = d.N := ⟨_, rfl⟩
  rw [← hN] at c0 hk hn
  have h1 : ¬ (N : Int) ≤ k := by omega
  have h0 : ¬ (k : Int) < 0 := by omega
  clear hN h
  go_enter Try.func30, Try.ntmps30
  go_wp2_with fail
  refine H.out.mono ?_
  rintro e w' ⟨rfl, rfl⟩
  go_wp2
  go_ret
  exact ⟨rfl, rfl⟩

theorem Pages_no (v : Value) (w : World) (h : NoDk w v) : Calls Try.prog 28 #[v] w fun e w' => e = .returned (.int .i64 0) ∧ w = w' := by
  have H := Lib.hid (isMade_no v w h)
  clear h
  go_enter Try.func28, Try.ntmps28
  go_wp2_with fail
  refine H.out.mono ?_
  rintro e w' ⟨rfl, rfl⟩
  go_wp2
  go_ret
  exact ⟨rfl, rfl⟩
theorem Pages_at (b m : Nat) (p : Option Addr) (c : Nat) (d : Dsk) (w : World) (h : DkAt w b m p c d) : Calls Try.prog 28 #[.pointer (some ⟨b, 0, none⟩)] w fun e w' => e = .returned (.int .i64 (d.N : Int)) ∧ w = w' := by
  obtain ⟨c0, c1, c2, c3, f2, f3⟩ := h.cells
  have hn := h.num
  have H := Lib.hid (isMade_yes b m w c1)
  obtain ⟨N, hN⟩ : ∃ N, N = d.N := ⟨_, rfl⟩
  rw [← hN] at c0 hn ⊢
  clear hN h
  go_enter Try.func28, Try.ntmps28
  go_wp2_with fail
  refine H.out.mono ?_
  rintro e w' ⟨rfl, rfl⟩
  go_wp2
  go_ret
  exact ⟨rfl, rfl⟩
theorem Reads_no (v : Value) (w : World) (h : NoDk w v) : Calls Try.prog 12 #[v] w fun e w' => e = .returned (.int .i64 0) ∧ w = w' := by
  have H := Lib.hid (isMade_no v w h)
  clear h
  go_enter Try.func12, Try.ntmps12
  go_wp2_with fail
  refine H.out.mono ?_
  rintro e w' ⟨rfl, rfl⟩
  go_wp2
  go_ret
  exact ⟨rfl, rfl⟩
theorem Reads_at (b m : Nat) (p : Option Addr) (c : Nat) (d : Dsk) (w : World) (h : DkAt w b m p c d) : Calls Try.prog 12 #[.pointer (some ⟨b, 0, none⟩)] w fun e w' => e = .returned (.int .i64 d.r) ∧ w = w' := by
  obtain ⟨c0, c1, c2, c3, f2, f3⟩ := h.cells
  have H := Lib.hid (isMade_yes b m w c1)
  clear h
  go_enter Try.func12, Try.ntmps12
  go_wp2_with fail
  refine H.out.mono ?_
  rintro e w' ⟨rfl, rfl⟩
  go_wp2
  go_ret
  exact ⟨rfl, rfl⟩

/-- What is kept of what befalls a page. -/
def Flt.norm (x : Flt) : Flt := if x.f = 0 ∧ x.x = 0 then Flt.z else x
theorem Flt.norm_ok {x : Flt} (h : x.ok) : x.norm.ok := by unfold Flt.norm; split; exact Flt.z_ok; exact h
def Dsk.set (d : Dsk) (k : Nat) (x : Flt) : Dsk := { d with F := updF d.F k x }
theorem DkAt.setF {w w' : World} {b m c : Nat} {p : Option Addr} {d : Dsk} (h : DkAt w b m p c d) (k : Kept (fun j => j < w.heap.size ∧ j ≠ m) w w') {j : Nat} {x : Flt} (hx : x.ok) (hm : FltAt w' m d.N (updF d.F j x)) : DkAt w' b m p c (d.set j x) :=
  ⟨(k.block b ⟨h.ltb, h.ne⟩).trans h.blk, h.row.kept k (fun a hn ha => ⟨h.plt a (by omega) ha, (h.apart a (by omega) ha).2⟩), h.cap, hm, h.ne, h.apart, h.num, fun i hi => by
    show (updF d.F j x i).ok
    unfold updF
    split
    · exact hx
    · exact h.ok i hi, h.byt⟩
theorem befall_any (b m : Nat) (p : Option Addr) (c : Nat) (d : Dsk) (k : Nat) (f a x : Int) (w : World) (h : DkAt w b m p c d) (hk : k < d.N) (hx : (Flt.mk f a x).ok) :
    Calls Try.prog 31 #[.pointer (some ⟨b, 0, none⟩), .int .i64 k, .agg #[.int .i64 f, .int .i64 a, .int .u8 x]] w fun e w' => e = .returned (.tuple #[]) ∧ DkAt w' b m p c (d.set k (Flt.mk f a x).norm) ∧ Kept (fun j => j < w.heap.size ∧ j ≠ m) w w' := by
  have HO := Lib.hid (Old.alloc w (.cells #[.int .i64 f, .int .i64 a, .int .u8 x] 72))
  have hb := heap_alloc_new w (.cells #[.int .i64 f, .int .i64 a, .int .u8 x] 72)
  have hA := h.old HO.out
  obtain ⟨_, c1, _, _, _, _⟩ := hA.cells
  have hn := h.num
  have HK := Lib.hid (And.intro hk (show d.N ≤ 1099511627776 by omega))
  have HA := Lib.hid hA
  have HX := Lib.hid hx
  have HEh := Lib.hid (fun w' x' (h1 : FltAt w' m d.N (updF d.F k x')) (h2 : x'.ok) (h3 : Kept (fun j => j < (w.alloc (.cells #[.int .i64 f, .int .i64 a, .int .u8 x] 72)).heap.size ∧ j ≠ m) (w.alloc (.cells #[.int .i64 f, .int .i64 a, .int .u8 x] 72)) w') =>
    (show DkAt w' b m p c (d.set k x') ∧ Kept (fun j => j < w.heap.size ∧ j ≠ m) w w' from ⟨HA.out.setF h3 h2 h1, (HO.out.kept (X := fun j => j < w.heap.size ∧ j ≠ m) fun _ hj => hj.1).trans (h3.mono fun j hj => ⟨Nat.lt_of_lt_of_le hj.1 HO.out.size, hj.2⟩)⟩))
  by_cases h0 : f = 0
  · subst h0
    by_cases h1 : x = 0
    · subst h1
      have hz : (Flt.mk 0 a 0).norm = Flt.z := by unfold Flt.norm; rw [if_pos ⟨rfl, rfl⟩]
      rw [hz]
      clear hb hA hk hx h hn HX HO
      go_enter Try.func31, Try.ntmps31
      go_wp2_with (at_delete; refine wpList_del_flt _ rfl _ _ rfl m d.N k d.F rfl HA.out.map HK.out.1 HK.out.2 rfl ?_; intro w1 h1 h2; have HF := Lib.hid (HEh.out w1 _ h1 Flt.z_ok h2); clear h1 h2)
      refine bodyPost_ret (results_none rfl _ _ _) rfl ?_
      exact ⟨rfl, HF.out⟩
    · have hz : (Flt.mk 0 a x).norm = ⟨0, a, x⟩ := by unfold Flt.norm; rw [if_neg (fun e => h1 e.2)]
      rw [hz]
      have d1 : (x == 0) = false := by simp [h1]
      clear hb hA hk hx h hn HO h1
      go_enter Try.func31, Try.ntmps31
      go_wp2_with fail
      have HB3 := Lib.hid (heap_alloc_new w (.cells #[.int .i64 0, .int .i64 a, .int .u8 x] 72))
      generalize w.alloc (.cells #[.int .i64 0, .int .i64 a, .int .u8 x] 72) = W at *
      generalize w.heap.size = g at HB3 ⊢
      obtain ⟨e0, e1, e2, _, _, _⟩ := cell3 HB3.out
      refine wp_region_still_tail 6 (by kernel_rfl) (by kernel_rfl) ?_
      simp only [List.take_succ_cons, List.take_zero, List.drop_succ_cons, List.drop_zero]
      iterate 6 (with_reducible refine wpStill_step (fun K hK => ?_); go_simp; with_reducible refine hK _ ?_; clear hK K)
      with_reducible refine wpStill_nil ?_
      change wpList _ _ _ _ _ (World.drew _)
      refine wpList_put_flt _ rfl _ _ _ rfl m d.N k d.F ⟨0, a, x⟩ rfl (show FltAt _ m d.N d.F from HA.out.map.kept (Kept.drew (Kept.refl (fun _ => True) _)) trivial) HK.out.1 HK.out.2 rfl rfl ?_
      intro w1 h1 h2
      have HF := Lib.hid (HEh.out w1 _ h1 HX.out ⟨h2.os, h2.output, h2.size, h2.block⟩)
      clear h1 h2
      go_wp2_with fail
      go_end0
      exact ⟨rfl, HF.out⟩
  · have hz : (Flt.mk f a x).norm = ⟨f, a, x⟩ := by unfold Flt.norm; rw [if_neg (fun e => h0 e.1)]
    rw [hz]
    have d1 : (f == 0) = false := by simp [h0]
    clear hb hA hk hx h hn HO h0
    go_enter Try.func31, Try.ntmps31
    go_wp2_with fail
    have HB3 := Lib.hid (heap_alloc_new w (.cells #[.int .i64 f, .int .i64 a, .int .u8 x] 72))
    generalize w.alloc (.cells #[.int .i64 f, .int .i64 a, .int .u8 x] 72) = W at *
    generalize w.heap.size = g at HB3 ⊢
    obtain ⟨e0, e1, e2, _, _, _⟩ := cell3 HB3.out
    refine wp_region_still_tail 6 (by kernel_rfl) (by kernel_rfl) ?_
    simp only [List.take_succ_cons, List.take_zero, List.drop_succ_cons, List.drop_zero]
    iterate 6 (with_reducible refine wpStill_step (fun K hK => ?_); go_simp; with_reducible refine hK _ ?_; clear hK K)
    with_reducible refine wpStill_nil ?_
    change wpList _ _ _ _ _ (World.drew _)
    refine wpList_put_flt _ rfl _ _ _ rfl m d.N k d.F ⟨f, a, x⟩ rfl (show FltAt _ m d.N d.F from HA.out.map.kept (Kept.drew (Kept.refl (fun _ => True) _)) trivial) HK.out.1 HK.out.2 rfl rfl ?_
    intro w1 h1 h2
    have HF := Lib.hid (HEh.out w1 _ h1 HX.out ⟨h2.os, h2.output, h2.size, h2.block⟩)
    clear h1 h2
    go_wp2_with fail
    go_end0
    exact ⟨rfl, HF.out⟩
end Go.Proofs.Ytooamkicmmgniaa
