/- Package disk, fourth part: fails, Fail, Spoil, Heal, New. -/
import Derived.Test.YtooamkicmmgniaaDiskC
namespace Go.Proofs.Ytooamkicmmgniaa
set_option linter.unusedVariables false
set_option maxRecDepth 100000
open Go.RowKit Go.ChangeShapes Go.WideShapes

/-- One reading more that fails. -/
def Flt.less (x : Flt) : Flt := ⟨x.f - 1, x.a, x.x⟩
def Dsk.failK (d : Dsk) (k : Nat) : Dsk := if 0 < (d.F k).f then d.set k (d.F k).less.norm else d
theorem Kept.fore {w W w' : World} {m : Nat} (o : Old w W) (h : Kept (fun j => j < W.heap.size ∧ j ≠ m) W w') : Kept (fun j => j < w.heap.size ∧ j ≠ m) w w' :=
  (o.kept (X := fun j => j < w.heap.size ∧ j ≠ m) fun _ hj => hj.1).trans (h.mono fun j hj => ⟨Nat.lt_of_lt_of_le hj.1 o.size, hj.2⟩)
theorem Old.but {w w' : World} (o : Old w w') (m : Nat) : Kept (fun j => j < w.heap.size ∧ j ≠ m) w w' := o.kept fun _ hj => hj.1
theorem fails_any (b m : Nat) (p : Option Addr) (c : Nat) (d : Dsk) (k : Nat) (w : World) (h : DkAt w b m p c d) (hk : k < d.N) :
    Calls Try.prog 41 #[.pointer (some ⟨b, 0, none⟩), .int .i64 k] w fun e w' => e = .returned (.bool (decide ((d.F k).f ≠ 0))) ∧ DkAt w' b m p c (d.failK k) ∧ Kept (fun j => j < w.heap.size ∧ j ≠ m) w w' := by
  obtain ⟨c0, c1, c2, c3, f2, f3⟩ := h.cells
  have hn := h.num
  have hl := h.map.look hk (by omega)
  have hok := h.ok k hk
  obtain ⟨y, hy⟩ : ∃ y, y = d.F k := ⟨_, rfl⟩
  have hF : d.failK k = if 0 < y.f then d.set k y.less.norm else d := by rw [hy]; rfl
  rw [hF, ← hy]
  rw [← hy] at hl hok
  clear hy hF
  obtain ⟨f, a, x⟩ := y
  unfold Flt.v at hl
  dsimp only at hl ⊢
  have HO := Lib.hid (Old.alloc w (.cells #[.int .i64 f, .int .i64 a, .int .u8 x] 72))
  have HD := Lib.hid (h.old HO.out)
  have HB := Lib.hid (heap_alloc_new w (.cells #[.int .i64 f, .int .i64 a, .int .u8 x] 72))
  by_cases h0 : f = 0
  · subst h0
    rw [if_neg (by omega)]
    clear h c0 c2 c3 f2 f3 hok
    go_enter Try.func41, Try.ntmps41
    go_wp2
    go_ret
    exact ⟨rfl, HD.out, HO.out.but m⟩
  · have d0 : (f == 0) = false := by simp [h0]
    have d1 : decide (f ≠ 0) = true := by simp [h0]
    rw [d1]
    by_cases h1 : 0 < f
    · rw [if_pos h1]
      have hok' : (Flt.mk (f - 1) a x).ok := ⟨⟨by have := hok.1.1; dsimp only at this ⊢; omega, by have := hok.1.2; dsimp only at this ⊢; omega⟩, hok.2⟩
      have HW1 := Lib.hid (show IntKind.i64.wrap (f - 1) = f - 1 from IntWalk.i64_in _ (by have := hok.1; dsimp only at this; omega))
      have e1 : wrap64 (f - 1) = f - 1 := IntWalk.wrap64_in _ (by have := hok.1; dsimp only at this; omega)
      have HC := Lib.hid (fun W (ho : Old w W) => befall_any b m p c d k (f - 1) a x W (h.old ho) hk hok')
      have HZ := Lib.hid (fun W (ho : Old w W) w' (hh : Kept (fun j => j < W.heap.size ∧ j ≠ m) W w') => Kept.fore ho hh)
      have hb : b < w.heap.size := h.ltb
      clear h c0 c2 c3 f2 f3 hok hok' hk h0 d1
      go_enter Try.func41, Try.ntmps41
      go_wp2_with fail
      refine (HC.out _ (Old.alloc _ _)).mono ?_
      rintro e w1 ⟨rfl, hd, hk1⟩
      have H1 := Lib.hid (And.intro hd (HZ.out _ (Old.alloc _ _) w1 hk1))
      clear hd hk1
      go_wp2_with fail
      go_ret
      exact ⟨rfl, H1.out⟩
    · rw [if_neg h1]
      clear h c0 c2 c3 f2 f3 hok
      go_enter Try.func41, Try.ntmps41
      go_wp2
      go_ret
      exact ⟨rfl, HD.out, HO.out.but m⟩

/-- What Fail, Spoil and Heal say to a disk that nobody made, and of a number that is no page. -/
theorem Fail_no (v : Value) (i n : Int) (w : World) (h : NoDk w v) : Calls Try.prog 17 #[v, .int .i64 i, .int .i64 n] w fun e w' => e = .returned (.int .i64 16) ∧ w = w' := by
  have H := Lib.hid (refuse_no v i w h)
  clear h
  go_enter Try.func17, Try.ntmps17
  go_wp2_with fail
  refine H.out.mono ?_
  rintro e w' ⟨rfl, rfl⟩
  go_wp2
  go_ret
  exact ⟨rfl, rfl⟩
theorem Fail_out (b m : Nat) (p : Option Addr) (c : Nat) (d : Dsk) (i n : Int) (w : World) (h : DkAt w b m p c d) (hi : noPg d i) : Calls Try.prog 17 #[.pointer (some ⟨b, 0, none⟩), .int .i64 i, .int .i64 n] w fun e w' => e = .returned (.int .i64 5) ∧ w = w' := by
  have H := Lib.hid (refuse_out b m p c d i w h hi)
  clear h hi
  go_enter Try.func17, Try.ntmps17
  go_wp2_with fail
  refine H.out.mono ?_
  rintro e w' ⟨rfl, rfl⟩
  go_wp2
  go_ret
  exact ⟨rfl, rfl⟩
theorem Fail_ok (b m : Nat) (p : Option Addr) (c : Nat) (d : Dsk) (k : Nat) (n : Int) (w : World) (h : DkAt w b m p c d) (hk : k < d.N) (h1 : -9223372036854775808 ≤ n ∧ n ≤ 9223372036854775807) :
    Calls Try.prog 17 #[.pointer (some ⟨b, 0, none⟩), .int .i64 k, .int .i64 n] w fun e w' => e = .returned (.int .i64 0) ∧ DkAt w' b m p c (d.set k (Flt.mk n (d.F k).a (d.F k).x).norm) ∧ Kept (fun j => j < w.heap.size ∧ j ≠ m) w w' := by
  have H := Lib.hid (refuse_ok b m p c d k w h hk)
  obtain ⟨c0, c1, c2, c3, f2, f3⟩ := h.cells
  have hn := h.num
  have hl := h.map.look hk (by omega)
  have hok := h.ok k hk
  obtain ⟨y, hy⟩ : ∃ y, y = d.F k := ⟨_, rfl⟩
  rw [← hy]
  rw [← hy] at hl hok
  clear hy
  obtain ⟨f, a, x⟩ := y
  unfold Flt.v at hl
  dsimp only at hl ⊢
  have HC := Lib.hid (fun W (ho : Old w W) => befall_any b m p c d k n a x W (h.old ho) hk ⟨h1, hok.2⟩)
  have HZ := Lib.hid (fun W (ho : Old w W) w' (hh : Kept (fun j => j < W.heap.size ∧ j ≠ m) W w') => Kept.fore ho hh)
  clear h c0 c2 c3 f2 f3 hok hk h1 hn
  go_enter Try.func17, Try.ntmps17
  go_wp2_with fail
  refine H.out.mono ?_
  rintro e w' ⟨rfl, rfl⟩
  clear H
  go_wp2_with fail
  refine (HC.out _ (Old.alloc _ _)).mono ?_
  rintro e w1 ⟨rfl, hd, hk1⟩
  have H1 := Lib.hid (And.intro hd (HZ.out _ (Old.alloc _ _) w1 hk1))
  clear hd hk1
  go_wp2_with fail
  go_ret
  exact ⟨rfl, H1.out⟩
theorem Spoil_no (v : Value) (i n x : Int) (w : World) (h : NoDk w v) : Calls Try.prog 35 #[v, .int .i64 i, .int .i64 n, .int .u8 x] w fun e w' => e = .returned (.int .i64 16) ∧ w = w' := by
  have H := Lib.hid (refuse_no v i w h)
  clear h
  go_enter Try.func35, Try.ntmps35
  go_wp2_with fail
  refine H.out.mono ?_
  rintro e w' ⟨rfl, rfl⟩
  go_wp2
  go_ret
  exact ⟨rfl, rfl⟩
theorem Spoil_out (b m : Nat) (p : Option Addr) (c : Nat) (d : Dsk) (i n x : Int) (w : World) (h : DkAt w b m p c d) (hi : noPg d i) : Calls Try.prog 35 #[.pointer (some ⟨b, 0, none⟩), .int .i64 i, .int .i64 n, .int .u8 x] w fun e w' => e = .returned (.int .i64 5) ∧ w = w' := by
  have H := Lib.hid (refuse_out b m p c d i w h hi)
  clear h hi
  go_enter Try.func35, Try.ntmps35
  go_wp2_with fail
  refine H.out.mono ?_
  rintro e w' ⟨rfl, rfl⟩
  go_wp2
  go_ret
  exact ⟨rfl, rfl⟩
theorem Spoil_arg (b m : Nat) (p : Option Addr) (c : Nat) (d : Dsk) (k : Nat) (n x : Int) (w : World) (h : DkAt w b m p c d) (hk : k < d.N) (h1 : n < 0 ∨ 63 < n) : Calls Try.prog 35 #[.pointer (some ⟨b, 0, none⟩), .int .i64 k, .int .i64 n, .int .u8 x] w fun e w' => e = .returned (.int .i64 1) ∧ w = w' := by
  have H := Lib.hid (refuse_ok b m p c d k w h hk)
  clear h hk
  by_cases h0 : n < 0
  · clear h1
    go_enter Try.func35, Try.ntmps35
    go_wp2_with fail
    refine H.out.mono ?_
    rintro e w' ⟨rfl, rfl⟩
    go_wp2
    go_ret
    exact ⟨rfl, rfl⟩
  · have h2 : (64 : Int) ≤ n := by omega
    clear h1
    go_enter Try.func35, Try.ntmps35
    go_wp2_with fail
    refine H.out.mono ?_
    rintro e w' ⟨rfl, rfl⟩
    go_wp2
    go_ret
    exact ⟨rfl, rfl⟩
theorem Spoil_ok (b m : Nat) (p : Option Addr) (c : Nat) (d : Dsk) (k : Nat) (n z : Int) (w : World) (h : DkAt w b m p c d) (hk : k < d.N) (h1 : 0 ≤ n ∧ n ≤ 63) (h2 : 0 ≤ z ∧ z ≤ 255) :
    Calls Try.prog 35 #[.pointer (some ⟨b, 0, none⟩), .int .i64 k, .int .i64 n, .int .u8 z] w fun e w' => e = .returned (.int .i64 0) ∧ DkAt w' b m p c (d.set k (Flt.mk (d.F k).f n z).norm) ∧ Kept (fun j => j < w.heap.size ∧ j ≠ m) w w' := by
  have H := Lib.hid (refuse_ok b m p c d k w h hk)
  obtain ⟨c0, c1, c2, c3, f2, f3⟩ := h.cells
  have hn := h.num
  have hl := h.map.look hk (by omega)
  have hok := h.ok k hk
  obtain ⟨y, hy⟩ : ∃ y, y = d.F k := ⟨_, rfl⟩
  rw [← hy]
  rw [← hy] at hl hok
  clear hy
  obtain ⟨f, a, x⟩ := y
  unfold Flt.v at hl
  dsimp only at hl ⊢
  have HC := Lib.hid (fun W (ho : Old w W) => befall_any b m p c d k f n z W (h.old ho) hk ⟨hok.1, h1, h2⟩)
  have HZ := Lib.hid (fun W (ho : Old w W) w' (hh : Kept (fun j => j < W.heap.size ∧ j ≠ m) W w') => Kept.fore ho hh)
  have n0 : ¬ n < 0 := by omega
  have n1 : ¬ (64 : Int) ≤ n := by omega
  clear h c0 c2 c3 f2 f3 hok hk h1 h2 hn
  go_enter Try.func35, Try.ntmps35
  go_wp2_with fail
  refine H.out.mono ?_
  rintro e w' ⟨rfl, rfl⟩
  clear H
  go_wp2_with fail
  refine (HC.out _ (Old.alloc _ _)).mono ?_
  rintro e w1 ⟨rfl, hd, hk1⟩
  have H1 := Lib.hid (And.intro hd (HZ.out _ (Old.alloc _ _) w1 hk1))
  clear hd hk1
  go_wp2_with fail
  go_ret
  exact ⟨rfl, H1.out⟩
theorem Heal_no (v : Value) (i : Int) (w : World) (h : NoDk w v) : Calls Try.prog 36 #[v, .int .i64 i] w fun e w' => e = .returned (.int .i64 16) ∧ w = w' := by
  have H := Lib.hid (refuse_no v i w h)
  clear h
  go_enter Try.func36, Try.ntmps36
  go_wp2_with fail
  refine H.out.mono ?_
  rintro e w' ⟨rfl, rfl⟩
  go_wp2
  go_ret
  exact ⟨rfl, rfl⟩
theorem Heal_out (b m : Nat) (p : Option Addr) (c : Nat) (d : Dsk) (i : Int) (w : World) (h : DkAt w b m p c d) (hi : noPg d i) : Calls Try.prog 36 #[.pointer (some ⟨b, 0, none⟩), .int .i64 i] w fun e w' => e = .returned (.int .i64 5) ∧ w = w' := by
  have H := Lib.hid (refuse_out b m p c d i w h hi)
  clear h hi
  go_enter Try.func36, Try.ntmps36
  go_wp2_with fail
  refine H.out.mono ?_
  rintro e w' ⟨rfl, rfl⟩
  go_wp2
  go_ret
  exact ⟨rfl, rfl⟩
theorem Heal_ok (b m : Nat) (p : Option Addr) (c : Nat) (d : Dsk) (k : Nat) (w : World) (h : DkAt w b m p c d) (hk : k < d.N) :
    Calls Try.prog 36 #[.pointer (some ⟨b, 0, none⟩), .int .i64 k] w fun e w' => e = .returned (.int .i64 0) ∧ DkAt w' b m p c (d.set k Flt.z) ∧ Kept (fun j => j < w.heap.size ∧ j ≠ m) w w' := by
  have H := Lib.hid (refuse_ok b m p c d k w h hk)
  obtain ⟨c0, c1, c2, c3, f2, f3⟩ := h.cells
  have hn := h.num
  have HM := Lib.hid h.map
  have HK := Lib.hid (And.intro hk (show d.N ≤ 1099511627776 by omega))
  have HD := Lib.hid h
  clear h c0 c2 c3 f2 f3 hk hn
  go_enter Try.func36, Try.ntmps36
  go_wp2_with fail
  refine H.out.mono ?_
  rintro e w' ⟨rfl, rfl⟩
  clear H
  go_wp2_with (at_delete; refine wpList_del_flt _ rfl _ _ rfl m d.N k d.F rfl HM.out HK.out.1 HK.out.2 rfl ?_; intro w1 h1 h2; have HF := Lib.hid (And.intro (HD.out.setF h2 Flt.z_ok h1) h2); clear h1 h2)
  go_ret
  exact ⟨rfl, HF.out⟩
theorem DNew_long (p : Option Addr) (n cap : Nat) (w : World) (hn : 4194304 < n) (h2 : n ≤ 9223372036854775807) : Calls Try.prog 9 #[.slice p n cap] w fun e w' => e = .returned (.tuple #[.pointer none, .int .i64 3]) ∧ w = w' := by
  go_enter Try.func9, Try.ntmps9
  go_wp2
  go_ret2
  exact ⟨rfl, rfl⟩
/-- A new disk. -/
def dk0 (n : Nat) (F : Nat → Int) : Dsk := ⟨pgs n, padF n F, fun _ => Flt.z, 0, 0⟩
theorem DNew_ok (p : Option Addr) (n cap : Nat) (F : Nat → Int) (w : World) (hs : SlU w p n F) (hn : n ≤ 4194304) (h1 : n ≤ cap) (hb : Byt F n) :
    Calls Try.prog 9 #[.slice p n cap] w fun e w' => ∃ b, e = .returned (.tuple #[.pointer (some ⟨b + 1, 0, none⟩), .int .i64 0]) ∧ w.heap.size < b ∧ DkAt w' (b + 1) b (some ⟨w.heap.size, 0, none⟩) (pgs n) (dk0 n F) ∧ Old w w' := by
  have HC := Lib.hid (cut_any p n cap F w hs (by omega) h1)
  have hp : pgs n ≤ 65536 := by unfold pgs; omega
  have HP := Lib.hid hp
  have HB := Lib.hid hb
  obtain ⟨N, hN⟩ : ∃ N, N = pgs n := ⟨_, rfl⟩
  have HN := Lib.hid hN
  rw [← hN] at HC ⊢
  clear hs hb hp hN
  go_enter Try.func9, Try.ntmps9
  go_wp2_with fail
  refine HC.out.mono ?_
  rintro e V ⟨rfl, ha, ho⟩
  have HA := Lib.hid ha
  have HO := Lib.hid ho
  clear ha ho HC
  have hmm := @run_makeMap Try.prog
  have hg := HA.out.lt
  have HE : Hid (DkAt ((V.alloc (.map #[] 0)).alloc (.cells #[.slice (some ⟨w.heap.size, 0, none⟩) N N, .map (some V.heap.size), .int .i64 0, .int .i64 0] 65)) (V.heap.size + 1) V.heap.size (some ⟨w.heap.size, 0, none⟩) N (dk0 n F) ∧
      Old w ((V.alloc (.map #[] 0)).alloc (.cells #[.slice (some ⟨w.heap.size, 0, none⟩) N N, .map (some V.heap.size), .int .i64 0, .int .i64 0] 65))) := by
    have eN : (dk0 n F).N = N := HN.out.symm
    have o1 := Old.alloc V (.map #[] 0)
    have o2 := o1.alloc' (.cells #[.slice (some ⟨w.heap.size, 0, none⟩) N N, .map (some V.heap.size), .int .i64 0, .int .i64 0] 65)
    have hs1 : (V.alloc (.map #[] 0)).heap.size = V.heap.size + 1 := by simp
    refine ⟨⟨?_, ?_, ⟨by rw [eN]; exact Nat.le_refl _, by have := HP.out; have := HN.out; unfold maxLen; omega⟩, ?_, by omega, fun a _ ha => by cases ha; exact ⟨by show w.heap.size ≠ _; omega, by show w.heap.size ≠ _; omega⟩, by rw [eN]; have := HP.out; have := HN.out; omega, fun k _ => Flt.z_ok, fun j hj => ?_⟩, HO.out.trans o2⟩
    · rw [eN, ← hs1]; exact heap_alloc_new _ _
    · rw [eN]
      have := ((HA.out.old o2).sl 0 (N * 64) (by omega)).ext (G := padF n F) fun j _ => by rw [Nat.zero_add]
      exact this
    · rw [eN]
      exact (flt_made V N).old (Old.alloc _ _)
    · show 0 ≤ padF n F j ∧ padF n F j ≤ 255
      unfold padF
      split
      · exact HB.out j (by assumption)
      · omega
  go_wp2_with fail
  go_ret2
  exact ⟨V.heap.size, rfl, hg, HE.out⟩
end Go.Proofs.Ytooamkicmmgniaa
