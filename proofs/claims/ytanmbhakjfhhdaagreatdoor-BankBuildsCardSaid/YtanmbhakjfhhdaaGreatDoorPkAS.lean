/- Texts joined: SortC, SortD, SortE, SortF, SortG, WaveE, WaveI, WaveF, WaveG, WaveH. -/
import Derived.Deep.RegionHeld
import Derived.Test.YtanmbhakjfhhdaaGreatDoorPkAC
import Derived.Test.YtanmbhakjfhhdaaGreatDoorPkAD
import Derived.Test.YtanmbhakjfhhdaaGreatDoorPkAH
import Derived.Test.YtanmbhakjfhhdaaGreatDoorPkAR
import Derived.Test.YtanmbhakjfhhdaaGreatDoorTk
/- The library's stable sort by wave's comparer: ranges exchanged, rows turned. -/
namespace Go.Proofs.YtanmbhakjfhhdaaGreatDoor
set_option linter.unusedVariables false
set_option maxRecDepth 100000
open Go.RowKit Go.ChangeShapes Go.WideShapes
theorem wrapN {x : Int} {p : Nat} (h : x = (p : Int)) (hp : p ≤ 9223372036854775807) : IntKind.i64.wrap x = (p : Int) ∧ wrap64 x = (p : Int) := by
 subst h
 exact ⟨IntWalk.i64_in _ (by omega), IntWalk.wrap64_in _ (by omega)⟩
set_option maxHeartbeats 4000000 in
theorem swapRange_any (g b N cap : Nat) (w0 : World) (x y n : Nat) (hxy : x + n ≤ y) (hyN : y + n ≤ N) (hN : N ≤ 4611686018427387904) (F : Nat → Int) (w : World) (hw : SrtW w0 g N F w) :
  Calls Tryz.prog 252 #[.slice (some ⟨g, 0, none⟩) N cap, .int .i64 x, .int .i64 y, .int .i64 n, cmpV b] w fun e w' => e = .returned (.tuple #[]) ∧ SrtW w0 g N (swapR F x y n) w' := by
 unfold cmpV
 have H0 := Lib.hid (hw.ext (swapR_zero F x y).symm)
 clear hw
 go_enter Tryz.func252, Tryz.ntmps252
 go_wp2_with fail
 go_loopw [10] (fun iv wr => ∃ i : Nat, i ≤ n ∧ iv = .int .i64 i ∧ Hid (SrtW w0 g N (swapR F x y i) wr)) (fun i _ => n - (intOf i).toNat)
 case atStart => exact ⟨0, by omega, by go_num, H0⟩
 case round =>
  obtain ⟨i, hi, rfl, HW⟩ := hrel
  clear H0
  by_cases hlt : i < n
  ·obtain ⟨p, hp⟩ : ∃ p : Nat, p = x + i := ⟨_, rfl⟩
   obtain ⟨q, hq⟩ : ∃ q : Nat, q = y + i := ⟨_, rfl⟩
   have hpN : p < N := by omega
   have hqN : q < N := by omega
   have hpq : p ≠ q := by omega
   have c1 := HW.out.row.cell p hpN
   have c2 := HW.out.row.cell q hqN
   have f1 := HW.out.row.frz p hpN
   have f2 := HW.out.row.frz q hqN
   have h1 := HW.out.drew.set p hpN (swapR F x y i q)
   have hr := And.intro (h1.row.cell q hqN) (h1.row.frz q hqN)
   simp only [if_neg (Ne.symm hpq)] at hr
   have HW3 := Lib.hid ((h1.set q hqN (swapR F x y i p)).ext (G' := swapR F x y (i + 1)) (by rw [← swapR_succ F x y i (by omega), hp, hq]))
   have HB1 := Lib.hid (show p ≤ 9223372036854775807 by omega)
   have HB2 := Lib.hid (show q ≤ 9223372036854775807 by omega)
   obtain ⟨e1, e2⟩ := wrapN (x := (x : Int) + (i : Int)) (p := p) (by rw [hp]; rfl) HB1.out
   obtain ⟨e3, e4⟩ := wrapN (x := (y : Int) + (i : Int)) (p := q) (by rw [hq]; rfl) HB2.out
   clear h1 HW hp hq
   generalize swapR F x y i p = u at *
   generalize swapR F x y i q = v at *
   have HR := Lib.hid hr
   clear hr
   go_wp2_with fail
   refine wp_region_held_drew (S := (fun _ => True)) (by kernel_rfl) ?_ (fun hHeld => ?_)
   ·exact trivial
   refine wpT 0 (v := ?_) rfl (Or.inl ⟨by kernel_rfl, ?_⟩) (by assumption) ?_; rotate_left; (intro w hSw; (try dsimp only at hSw); go_simp; try with_reducible rfl); try simp only [Act.put, sA, sZ, sS]
   refine wpT 1 (v := ?_) rfl (Or.inl ⟨by kernel_rfl, ?_⟩) (by assumption) ?_; rotate_left; (intro w hSw; (try dsimp only at hSw); go_simp; try with_reducible rfl); try simp only [Act.put, sA, sZ, sS]
   refine wpT 2 (v := ?_) rfl (Or.inl ⟨by kernel_rfl, ?_⟩) (by assumption) ?_; rotate_left; (intro w hSw; (try dsimp only at hSw); go_simp; try with_reducible rfl); try simp only [Act.put, sA, sZ, sS]
   refine wpT 3 (v := ?_) rfl (Or.inl ⟨by kernel_rfl, ?_⟩) (by assumption) ?_; rotate_left; (intro w hSw; (try dsimp only at hSw); go_simp; try with_reducible rfl); try simp only [Act.put, sA, sZ, sS]
   refine wpT 4 (v := ?_) rfl (Or.inl ⟨by kernel_rfl, ?_⟩) (by assumption) ?_; rotate_left; (intro w hSw; (try dsimp only at hSw); go_simp; try with_reducible rfl); try simp only [Act.put, sA, sZ, sS]
   refine wpT 5 (v := ?_) rfl (Or.inl ⟨by kernel_rfl, ?_⟩) (by assumption) ?_; rotate_left; (intro w hSw; (try dsimp only at hSw); go_simp; try with_reducible rfl); try simp only [Act.put, sA, sZ, sS]
   refine wpT 6 (v := ?_) rfl (Or.inl ⟨by kernel_rfl, ?_⟩) (by assumption) ?_; rotate_left; (intro w hSw; (try dsimp only at hSw); go_simp; try with_reducible rfl); try simp only [Act.put, sA, sZ, sS]
   refine wpT 7 (v := ?_) rfl (Or.inl ⟨by kernel_rfl, ?_⟩) (by assumption) ?_; rotate_left; (intro w hSw; (try dsimp only at hSw); go_simp; try with_reducible rfl); try simp only [Act.put, sA, sZ, sS]
   refine wpT 8 (v := ?_) rfl (Or.inl ⟨by kernel_rfl, ?_⟩) (by assumption) ?_; rotate_left; (intro w hSw; (try dsimp only at hSw); go_simp; try with_reducible rfl); try simp only [Act.put, sA, sZ, sS]
   refine wpT 9 (v := ?_) rfl (Or.inl ⟨by kernel_rfl, ?_⟩) (by assumption) ?_; rotate_left; (intro w hSw; (try dsimp only at hSw); go_simp; try with_reducible rfl); try simp only [Act.put, sA, sZ, sS]
   refine wpT 10 (v := ?_) rfl (Or.inl ⟨by kernel_rfl, ?_⟩) (by assumption) ?_; rotate_left; (intro w hSw; (try dsimp only at hSw); go_simp; try with_reducible rfl); try simp only [Act.put, sA, sZ, sS]
   refine wpT 11 (v := ?_) rfl (Or.inl ⟨by kernel_rfl, ?_⟩) (by assumption) ?_; rotate_left; (intro w hSw; (try dsimp only at hSw); go_simp; try with_reducible rfl); try simp only [Act.put, sA, sZ, sS]
   refine wpT 12 (v := ?_) rfl (Or.inl ⟨by kernel_rfl, ?_⟩) (by assumption) ?_; rotate_left; (intro w hSw; (try dsimp only at hSw); go_simp; try with_reducible rfl); try simp only [Act.put, sA, sZ, sS]
   refine wpT 14 (v := ?_) rfl (Or.inl ⟨by kernel_rfl, ?_⟩) (by assumption) ?_; rotate_left; (intro w hSw; (try dsimp only at hSw); go_simp; try with_reducible rfl); try simp only [Act.put, sA, sZ, sS]
   refine wpT 15 (v := ?_) rfl (Or.inl ⟨by kernel_rfl, ?_⟩) (by assumption) ?_; rotate_left; (intro w hSw; (try dsimp only at hSw); go_simp; try with_reducible rfl); try simp only [Act.put, sA, sZ, sS]
   refine wpT 16 (v := ?_) rfl (Or.inl ⟨by kernel_rfl, ?_⟩) (by assumption) ?_; rotate_left; (intro w hSw; (try dsimp only at hSw); go_simp; try with_reducible rfl); try simp only [Act.put, sA, sZ, sS]
   refine wpT 17 (v := ?_) rfl (Or.inl ⟨by kernel_rfl, ?_⟩) (by assumption) ?_; rotate_left; (intro w hSw; (try dsimp only at hSw); go_simp; try with_reducible rfl); try simp only [Act.put, sA, sZ, sS]
   refine wpT 18 (v := ?_) rfl (Or.inl ⟨by kernel_rfl, ?_⟩) (by assumption) ?_; rotate_left; (intro w hSw; (try dsimp only at hSw); go_simp; try with_reducible rfl); try simp only [Act.put, sA, sZ, sS]
   clear e1 e2 e3 e4
   refine wpAnyH_ready (rs := [13, 19]) (by kernel_rfl) (by simp) ?_
   (refine AllReadyH.cons (o := ⟨_, _, _, _, _, _⟩) (by rfl) ?_ (AllReadyH.cons (o := ⟨_, _, _, _, _, _⟩) (by rfl) ?_ AllReadyH.nil)) <;> intro K hK
   ·go_simp
    refine hK.out _ _ ?_ (fun hHeld => ?_)
    ·exact trivial
    clear hK K
    try simp only [Act.put, sA, sZ, sS]
    refine wpAnyH_ready (rs := [19]) (by kernel_rfl) (by simp) ?_
    refine AllReadyH.cons (o := ⟨_, _, _, _, _, _⟩) (by rfl) ?_ AllReadyH.nil
    intro K hK
    go_simp
    refine hK.out _ _ ?_ (fun hHeld => ?_)
    ·exact trivial
    clear hK K
    try simp only [Act.put, sA, sZ, sS]
    refine wpT 20 (v := ?_) rfl (Or.inl ⟨by kernel_rfl, ?_⟩) (by assumption) ?_; rotate_left; (intro w hSw; (try dsimp only at hSw); go_simp; try with_reducible rfl); try simp only [Act.put, sA, sZ, sS]
    refine wpAnyH_ready (rs := [21]) (by kernel_rfl) (by simp) ?_
    refine AllReadyH.cons (o := ⟨_, _, _, _, _, _⟩) (by rfl) ?_ AllReadyH.nil
    intro K hK
    go_simp
    refine hK.out _ _ ?_ (fun hHeld => ?_)
    ·exact trivial
    clear hK K
    try simp only [Act.put, sA, sZ, sS]
    refine wpT 22 (v := ?_) rfl (Or.inl ⟨by kernel_rfl, ?_⟩) (by assumption) ?_; rotate_left; (intro w hSw; (try dsimp only at hSw); go_simp; try with_reducible rfl); try simp only [Act.put, sA, sZ, sS]
    obtain ⟨s1, s2⟩ := HR.out
    refine wpAnyH_ready (rs := [23]) (by kernel_rfl) (by simp) ?_
    refine AllReadyH.cons (o := ⟨_, _, _, _, _, _⟩) (by rfl) ?_ AllReadyH.nil
    intro K hK
    go_simp
    refine hK.out _ _ ?_ (fun hHeld => ?_)
    ·exact trivial
    clear hK K
    try simp only [Act.put, sA, sZ, sS]
    refine wpAnyH_done (by kernel_rfl) ?_ _
    go_wp2_with fail
    go_roundw
    case rel => exact ⟨i + 1, by omega, by go_num, HW3.out⟩
    case measure => simp [intOf]; omega
   ·go_simp
    refine hK.out _ _ ?_ (fun hHeld => ?_)
    ·exact trivial
    clear hK K
    try simp only [Act.put, sA, sZ, sS]
    refine wpAnyH_ready (rs := [13]) (by kernel_rfl) (by simp) ?_
    refine AllReadyH.cons (o := ⟨_, _, _, _, _, _⟩) (by rfl) ?_ AllReadyH.nil
    intro K hK
    go_simp
    refine hK.out _ _ ?_ (fun hHeld => ?_)
    ·exact trivial
    clear hK K
    try simp only [Act.put, sA, sZ, sS]
    refine wpT 20 (v := ?_) rfl (Or.inl ⟨by kernel_rfl, ?_⟩) (by assumption) ?_; rotate_left; (intro w hSw; (try dsimp only at hSw); go_simp; try with_reducible rfl); try simp only [Act.put, sA, sZ, sS]
    refine wpAnyH_ready (rs := [21]) (by kernel_rfl) (by simp) ?_
    refine AllReadyH.cons (o := ⟨_, _, _, _, _, _⟩) (by rfl) ?_ AllReadyH.nil
    intro K hK
    go_simp
    refine hK.out _ _ ?_ (fun hHeld => ?_)
    ·exact trivial
    clear hK K
    try simp only [Act.put, sA, sZ, sS]
    refine wpT 22 (v := ?_) rfl (Or.inl ⟨by kernel_rfl, ?_⟩) (by assumption) ?_; rotate_left; (intro w hSw; (try dsimp only at hSw); go_simp; try with_reducible rfl); try simp only [Act.put, sA, sZ, sS]
    obtain ⟨s1, s2⟩ := HR.out
    refine wpAnyH_ready (rs := [23]) (by kernel_rfl) (by simp) ?_
    refine AllReadyH.cons (o := ⟨_, _, _, _, _, _⟩) (by rfl) ?_ AllReadyH.nil
    intro K hK
    go_simp
    refine hK.out _ _ ?_ (fun hHeld => ?_)
    ·exact trivial
    clear hK K
    try simp only [Act.put, sA, sZ, sS]
    refine wpAnyH_done (by kernel_rfl) ?_ _
    go_wp2_with fail
    go_roundw
    case rel => exact ⟨i + 1, by omega, by go_num, HW3.out⟩
    case measure => simp [intOf]; omega
  ·obtain rfl : i = n := by omega
   go_wp2_with fail
   go_end0
   exact ⟨rfl, HW.out⟩
set_option maxHeartbeats 4000000 in
theorem rotate_any (g b N cap : Nat) (w0 : World) (x m y : Nat) (hxm : x < m) (hmy : m < y) (hyN : y ≤ N) (hN : N ≤ 2305843009213693952) (F : Nat → Int) (w : World) (hw : SrtW w0 g N F w) :
  Calls Tryz.prog 228 #[.slice (some ⟨g, 0, none⟩) N cap, .int .i64 x, .int .i64 m, .int .i64 y, cmpV b] w fun e w' => e = .returned (.tuple #[]) ∧ SrtW w0 g N (rotF F x m y) w' := by
 have hsw := fun l u n (h1 : l + n ≤ u) (h2 : u + n ≤ N) G W hW => swapRange_any g b N cap w0 l u n h1 h2 (by omega) G W hW
 have HSW := Lib.hid hsw
 clear hsw
 unfold cmpV at *
 have H0 := Lib.hid hw
 have HR0 : Hid (rotF F (m - (m - x)) m (m + (y - m)) = rotF F x m y) := Lib.hid (by rw [show m - (m - x) = x by omega, show m + (y - m) = y by omega])
 obtain ⟨i0, hi0⟩ : ∃ i0, i0 = m - x := ⟨_, rfl⟩
 obtain ⟨j0, hj0⟩ : ∃ j0, j0 = y - m := ⟨_, rfl⟩
 have q1 : (m : Int) - (x : Int) = (i0 : Int) := by omega
 have q2 : (y : Int) - (m : Int) = (j0 : Int) := by omega
 have r1 := (wrapN q1 (by omega)).2
 have r2 := (wrapN q2 (by omega)).2
 rw [← hi0, ← hj0] at HR0
 have hb1 : 0 < i0 := by omega
 have hb2 : 0 < j0 := by omega
 have hb3 : i0 ≤ m := by omega
 have hb4 : m + j0 ≤ N := by omega
 clear hw hi0 hj0
 go_enter Tryz.func228, Tryz.ntmps228
 go_wp2_with fail
 clear q1 q2 r1 r2
 go_loopw [10, 11] (fun iv jv wr => ∃ (i j : Nat) (G : Nat → Int), iv = .int .i64 i ∧ jv = .int .i64 j ∧ 0 < i ∧ 0 < j ∧ i ≤ m ∧ m + j ≤ N ∧ Hid (rotF G (m - i) m (m + j) = rotF F x m y) ∧ Hid (SrtW w0 g N G wr)) (fun iv jv _ => (intOf iv).toNat + (intOf jv).toNat)
 case atStart => exact ⟨i0, j0, F, rfl, rfl, hb1, hb2, hb3, hb4, HR0, H0⟩
 case round =>
  clear H0 HR0 hb1 hb2 hb3 hb4
  obtain ⟨i, j, G, rfl, rfl, h1, h2, h3, h4, HR, HW⟩ := hrel
  rcases Nat.lt_trichotomy i j with c | c | c
  ·have d1 : ((i : Int) != (j : Int)) = true := by simp only [bne_iff_ne, ne_eq]; omega
   have d2 : decide ((j : Int) < (i : Int)) = false := decide_eq_false (by omega)
   have hs := HSW.out (m - i) (m + j - i) i (by omega) (by omega) G wr HW.out
   rw [show ((m - i : Nat) : Int) = (m : Int) - i by omega, show ((m + j - i : Nat) : Int) = (m : Int) + j - i by omega] at hs
   have hr := rot_lt G m i j h3 c
   rw [HR.out] at hr
   have HS := Lib.hid hs
   have HR2 := Lib.hid hr
   clear hs hr HR HW
   go_wp2_with fail
   refine HS.out.mono ?_
   rintro e w2 ⟨rfl, hw2⟩
   have HW2 := Lib.hid hw2
   clear hw2 HS
   go_wp2_with fail
   go_roundw
   case rel => exact ⟨i, j - i, _, rfl, by go_num, h1, by omega, h3, by omega, HR2, HW2⟩
   case measure => simp [intOf]; omega
  ·subst c
   have d1 : ((i : Int) != (i : Int)) = false := by simp
   have hs := HSW.out (m - i) m i (by omega) h4 G wr HW.out
   rw [show ((m - i : Nat) : Int) = (m : Int) - i by omega, rot_eq G m i h3, HR.out] at hs
   have HS := Lib.hid hs
   clear hs HR HW
   go_wp2_with fail
   refine HS.out.mono ?_
   rintro e w2 ⟨rfl, hw2⟩
   have HW2 := Lib.hid hw2
   clear hw2 HS
   go_wp2_with fail
   go_end0
   exact ⟨rfl, HW2.out⟩
  ·have d1 : ((i : Int) != (j : Int)) = true := by simp only [bne_iff_ne, ne_eq]; omega
   have d2 : decide ((j : Int) < (i : Int)) = true := decide_eq_true (by omega)
   have hs := HSW.out (m - i) m j (by omega) h4 G wr HW.out
   rw [show ((m - i : Nat) : Int) = (m : Int) - i by omega] at hs
   have hr := rot_gt G m i j h3 c
   rw [HR.out] at hr
   have HS := Lib.hid hs
   have HR2 := Lib.hid hr
   clear hs hr HR HW
   go_wp2_with fail
   refine HS.out.mono ?_
   rintro e w2 ⟨rfl, hw2⟩
   have HW2 := Lib.hid hw2
   clear hw2 HS
   go_wp2_with fail
   go_roundw
   case rel => exact ⟨i - j, j, _, by go_num, rfl, by omega, h2, by omega, h4, HR2, HW2⟩
   case measure => simp [intOf]; omega
end Go.Proofs.YtanmbhakjfhhdaaGreatDoor
/- The library's stable sort by wave's comparer: the merge in place. -/
namespace Go.Proofs.YtanmbhakjfhhdaaGreatDoor
set_option linter.unusedVariables false
set_option maxRecDepth 100000
open Go.RowKit Go.ChangeShapes Go.WideShapes
theorem CmpE.late {w0 : World} {g b N : Nat} {c : Nat → Nat → Int} {R : Int → Int → Prop} (h : CmpE w0 g b N c R) {u v : Int} (hu : 0 ≤ u ∧ u < N) (hv : 0 ≤ v ∧ v < N) (huv : v < u) :
  (c u.toNat v.toNat < 0 → R u v) ∧ (¬ c u.toNat v.toNat < 0 → R v u) := by
 have h1 := h.yes v.toNat u.toNat (by omega)
 have h2 := h.no v.toNat u.toNat (by omega)
 rw [Int.toNat_of_nonneg hu.1, Int.toNat_of_nonneg hv.1] at h1 h2
 exact ⟨h1, h2⟩
theorem CmpE.callI {w0 : World} {g b N : Nat} {c : Nat → Nat → Int} {R : Int → Int → Prop} (h : CmpE w0 g b N c R) {u v : Int} (hu : 0 ≤ u ∧ u < N) (hv : 0 ≤ v ∧ v < N) (W : World) (hW : Kept (butOf w0 g) w0 W) :
  Calls Tryz.prog 109 #[.int .i64 u, .int .i64 v, .pointer (some ⟨b, 0, none⟩)] W fun e w' => e = .returned (.int .i64 (c u.toNat v.toNat)) ∧ ∃ n, w' = W.drewN n := by
 have := h.call W hW u.toNat v.toNat (by omega) (by omega)
 rwa [Int.toNat_of_nonneg hu.1, Int.toNat_of_nonneg hv.1] at this
structure MrgI (R : Int → Int → Prop) (N : Nat) (F : Nat → Int) (x m y : Nat) : Prop where
 l : OrdAB R F x m
 r : OrdAB R F m y
 lt : ∀ i j, x ≤ i → i < m → m ≤ j → j < y → F i < F j
 bd : ∀ k, x ≤ k → k < y → 0 ≤ F k ∧ F k < N
def MrgO (w0 : World) (g N : Nat) (R : Int → Int → Prop) (F : Nat → Int) (x y : Nat) (e : Ending) (w' : World) : Prop := e = .returned (.tuple #[]) ∧ ∃ G, SrtW w0 g N G w' ∧ PermAB F G x y ∧ OrdAB R G x y
set_option maxHeartbeats 8000000 in
theorem mergeOne_any (g b N cap : Nat) (c : Nat → Nat → Int) (R : Int → Int → Prop) (w0 : World) (hE : CmpE w0 g b N c R) (x m y : Nat) (hxm : m = x + 1) (hmy : m < y) (hyN : y ≤ N) (hN : N ≤ 2305843009213693952) (F : Nat → Int) (hF : MrgI R N F x m y) (w : World) (hw : SrtW w0 g N F w) :
  Calls Tryz.prog 188 #[.slice (some ⟨g, 0, none⟩) N cap, .int .i64 x, .int .i64 m, .int .i64 y, cmpV b] w (MrgO w0 g N R F x y) := by
 unfold cmpV MrgO
 have H0 := Lib.hid hw
 have HF := Lib.hid hF
 have HE := Lib.hid hE
 have HXM := Lib.hid hxm
 have d1 : (((m : Int) - (x : Int)) == 1) = true := by rw [beq_iff_eq]; omega
 have hxm' : x < m := by omega
 clear hw hF hE hxm
 go_enter Tryz.func188, Tryz.ntmps188
 go_wp2_with fail
 clear d1
 go_loopw [10, 11] (fun iv jv wr => ∃ i j : Nat, iv = .int .i64 i ∧ jv = .int .i64 j ∧ m ≤ i ∧ i ≤ j ∧ j ≤ y ∧ Hid ((m < i → R (F (i - 1)) (F x)) ∧ (j < y → R (F x) (F j))) ∧ Hid (SrtW w0 g N F wr)) (fun iv jv _ => (intOf jv).toNat - (intOf iv).toNat)
 case atStart => exact ⟨m, y, rfl, rfl, Nat.le_refl _, by omega, Nat.le_refl _, Lib.hid ⟨fun h => by omega, fun h => by omega⟩, H0⟩
 case round =>
  clear H0
  obtain ⟨i, j, rfl, rfl, h1, h2, h3, HR, HW⟩ := hrel
  by_cases hij : i < j
  ·obtain ⟨h, hh⟩ : ∃ h : Nat, h = (i + j) / 2 := ⟨_, rfl⟩
   have hb1 : i ≤ h := by omega
   have hb2 : h < j := by omega
   go_upto_region 5 with (fail)
   rw [show ((i : Int) + (j : Int)) / 2 = (h : Int) by omega]
   clear hh
   have hbh := HF.out.bd h (by omega) (by omega)
   have hbx := HF.out.bd x (by omega) (by omega)
   have hlt := HF.out.lt x h (Nat.le_refl _) hxm' (by omega) (by omega)
   obtain ⟨hy, hn⟩ := HE.out.late hbh hbx hlt
   have hL := fun d => HE.out.callI hbh hbx (wr.drewN d) (HW.out.kept.drewN d)
   have HW2 := Lib.hid (fun d => HW.out.drewN d)
   have k1 := HW.out.row.cell h (by omega)
   have k2 := HW.out.row.cell x (by omega)
   have hN1 : h < N := by omega
   have hN2 : x < N := by omega
   obtain ⟨cc, hcc⟩ : ∃ cc, cc = c (F h).toNat (F x).toNat := ⟨_, rfl⟩
   rw [← hcc] at hL hy hn
   have HLo := Lib.hid hL
   have HR1 := Lib.hid HR.out.1
   have HR2 := Lib.hid HR.out.2
   have HY := Lib.hid hy
   have HNo := Lib.hid hn
   clear hL hbh hbx hlt hcc HR HW hy hn
   generalize hu : F h = u at *
   generalize hv : F x = v at *
   have HU := Lib.hid hu
   have HV := Lib.hid hv
   clear hu hv
   by_cases hc : cc < 0
   ·have hr := HY.out hc
    have HRR := Lib.hid hr
    clear hr HY HNo HR1
    go_quiet ((go_at_call 109; with_reducible exact Calls.quiet_of (HLo.out _)))
    go_wp2_with fail
    go_roundw
    case rel => exact ⟨h + 1, j, by go_num, rfl, by omega, by omega, h3, Lib.hid (by rw [HV.out]; exact ⟨fun _ => by rw [Nat.add_sub_cancel, HU.out]; exact HRR.out, HR2.out⟩), HW2.out _⟩
    case measure => simp [intOf]; omega
   ·have hr := HNo.out hc
    have hc0 : 0 ≤ cc := by omega
    have HRR := Lib.hid hr
    clear hr HY HNo HR2
    go_quiet ((go_at_call 109; with_reducible exact Calls.quiet_of (HLo.out _)))
    go_wp2_with fail
    go_roundw
    case rel => exact ⟨i, h, rfl, rfl, h1, hb1, by omega, Lib.hid (by rw [HV.out]; exact ⟨HR1.out, fun _ => by rw [HU.out]; exact HRR.out⟩), HW2.out _⟩
    case measure => simp [intOf]; omega
  ·obtain rfl : i = j := by omega
   have hk0 : x ≤ i - 1 := by omega
   have HW0 : Hid (SrtW w0 g N (rotF F x (x + 1) (x + 1)) wr) := Lib.hid (HW.out.ext (rotF_right F x (x + 1) (by omega)).symm)
   clear HW
   go_wp2_with fail
   obtain ⟨wo, rfl⟩ : ∃ V, V = wr := ⟨_, rfl⟩
   go_loopw [13] (fun kv wr => ∃ k : Nat, kv = .int .i64 k ∧ x ≤ k ∧ k + 1 ≤ i ∧ Hid (SrtW w0 g N (rotF F x (x + 1) (k + 1)) wr)) (fun kv _ => i - (intOf kv).toNat)
   case atStart => exact ⟨x, rfl, Nat.le_refl _, by omega, HW0⟩
   case round =>
    clear HW0
    obtain ⟨k, rfl, h4, h5, HW⟩ := hrel
    by_cases hki : k + 1 < i
    ·obtain ⟨m', hm'⟩ : ∃ m' : Nat, m' = k + 1 := ⟨_, rfl⟩
     have hkN : k < N := by omega
     have hmN : m' < N := by omega
     have hdk : decide ((k : Int) < (i : Int) - 1) = true := decide_eq_true (by omega)
     have c1 := HW.out.row.cell k hkN
     have c2 := HW.out.row.cell m' hmN
     have f1 := HW.out.row.frz k hkN
     have f2 := HW.out.row.frz m' hmN
     have HB1 := Lib.hid (show m' ≤ 9223372036854775807 by omega)
     have hW3 := ((HW.out.swap' k (by omega)).ext (rot_up F x k h4)).drew
     rw [← hm'] at hW3 c2
     have HW3 := Lib.hid hW3
     have HM := Lib.hid hm'
     clear hW3 HW
     rw [← hm'] at c1
     obtain ⟨e1, e2⟩ := wrapN (x := (k : Int) + 1) (p := m') (by rw [hm']; rfl) HB1.out
     have hkm : k ≠ m' := by omega
     clear hm'
     generalize rotF F x (x + 1) m' k = u at *
     generalize rotF F x (x + 1) m' m' = v at *
     go_wp2_with fail
     go_region
     clear e1 e2
     go_wp2_with fail
     go_roundw
     case rel => exact ⟨m', by have := HM.out; go_num, by have := HM.out; omega, by have := HM.out; omega, HW3⟩
     case measure => have := HM.out; simp [intOf]; omega
    ·have hdk : decide ((k : Int) < (i : Int) - 1) = false := decide_eq_false (by omega)
     have hki' : k + 1 = i := by omega
     rw [hki'] at HW
     have hs := rot_sorted HE.out.tr (G := F) (a := x) (s := x) (m := x + 1) (e := i) (b := y) (Nat.le_refl _) (by omega) (by omega) h3 (ord_small _ (Nat.le_refl _)) (by have := HF.out.r; rwa [HXM.out] at this)
      (fun h => by omega) (fun _ h => HR.out.1 (by have := HXM.out; omega)) (fun h => by omega) (fun _ h => by rw [Nat.add_sub_cancel]; exact HR.out.2 h)
     have HS := Lib.hid hs
     have HP := Lib.hid ((rot_perm F (a := x) (m := x + 1) (b := i) (by omega) (by omega)).wide (Nat.le_refl _) h3)
     clear hs hki'
     go_wp2_with fail
     refine bodyPost_ret (results_none rfl _ _ _) rfl ?_
     exact ⟨rfl, _, HW.out, HP.out, HS.out⟩
end Go.Proofs.YtanmbhakjfhhdaaGreatDoor
/- The library's stable sort by wave's comparer: the merge of one element behind. -/
namespace Go.Proofs.YtanmbhakjfhhdaaGreatDoor
set_option linter.unusedVariables false
set_option maxRecDepth 100000
open Go.RowKit Go.ChangeShapes Go.WideShapes
set_option maxHeartbeats 8000000 in
theorem mergeLast_any (g b N cap : Nat) (c : Nat → Nat → Int) (R : Int → Int → Prop) (w0 : World) (hE : CmpE w0 g b N c R) (x m y : Nat) (hxm : x + 1 < m) (hmy : y = m + 1) (hyN : y ≤ N) (hN : N ≤ 2305843009213693952) (F : Nat → Int) (hF : MrgI R N F x m y) (w : World) (hw : SrtW w0 g N F w) :
  Calls Tryz.prog 188 #[.slice (some ⟨g, 0, none⟩) N cap, .int .i64 x, .int .i64 m, .int .i64 y, cmpV b] w (MrgO w0 g N R F x y) := by
 unfold cmpV MrgO
 have H0 := Lib.hid hw
 have HF := Lib.hid hF
 have HE := Lib.hid hE
 have HMY := Lib.hid hmy
 have d1 : (((m : Int) - (x : Int)) == 1) = false := by rw [beq_eq_false_iff_ne]; omega
 have d2 : (((y : Int) - (m : Int)) == 1) = true := by rw [beq_iff_eq]; omega
 have hmN : m < N := by omega
 clear hw hF hE hmy
 go_enter Tryz.func188, Tryz.ntmps188
 go_wp2_with fail
 clear d1 d2
 go_loopw [14, 15] (fun iv jv wr => ∃ i j : Nat, iv = .int .i64 i ∧ jv = .int .i64 j ∧ x ≤ i ∧ i ≤ j ∧ j ≤ m ∧ Hid ((x < i → R (F (i - 1)) (F m)) ∧ (j < m → R (F m) (F j))) ∧ Hid (SrtW w0 g N F wr)) (fun iv jv _ => (intOf jv).toNat - (intOf iv).toNat)
 case atStart => exact ⟨x, m, rfl, rfl, Nat.le_refl _, by omega, Nat.le_refl _, Lib.hid ⟨fun h => by omega, fun h => by omega⟩, H0⟩
 case round =>
  clear H0
  obtain ⟨i, j, rfl, rfl, h1, h2, h3, HR, HW⟩ := hrel
  by_cases hij : i < j
  ·obtain ⟨h, hh⟩ : ∃ h : Nat, h = (i + j) / 2 := ⟨_, rfl⟩
   have hb1 : i ≤ h := by omega
   have hb2 : h < j := by omega
   go_upto_region 17 with (fail)
   rw [show ((i : Int) + (j : Int)) / 2 = (h : Int) by omega]
   clear hh
   have hbh := HF.out.bd h (by omega) (by have := HMY.out; omega)
   have hbx := HF.out.bd m (by omega) (by have := HMY.out; omega)
   have hlt := HF.out.lt h m (by omega) (by omega) (Nat.le_refl _) (by have := HMY.out; omega)
   obtain ⟨hy, hn⟩ := HE.out.late hbx hbh hlt
   have hL := fun d => HE.out.callI hbx hbh (wr.drewN d) (HW.out.kept.drewN d)
   have HW2 := Lib.hid (fun d => HW.out.drewN d)
   have k1 := HW.out.row.cell h (by omega)
   have k2 := HW.out.row.cell m (by omega)
   have hN1 : h < N := by omega
   obtain ⟨cc, hcc⟩ : ∃ cc, cc = c (F m).toNat (F h).toNat := ⟨_, rfl⟩
   rw [← hcc] at hL hy hn
   have HLo := Lib.hid hL
   have HR1 := Lib.hid HR.out.1
   have HR2 := Lib.hid HR.out.2
   have HY := Lib.hid hy
   have HNo := Lib.hid hn
   clear hL hbh hbx hlt hcc HR HW hy hn
   generalize hu : F h = u at *
   generalize hv : F m = v at *
   have HU := Lib.hid hu
   have HV := Lib.hid hv
   clear hu hv
   by_cases hc : cc < 0
   ·have hr := HY.out hc
    have HRR := Lib.hid hr
    have dc : decide (cc < 0) = true := decide_eq_true hc
    clear hr HY HNo HR2
    go_quiet ((go_at_call 109; with_reducible exact Calls.quiet_of (HLo.out _)))
    go_wp2_with fail
    go_roundw
    case rel => exact ⟨i, h, rfl, rfl, h1, hb1, by omega, Lib.hid (by rw [HV.out]; exact ⟨HR1.out, fun _ => by rw [HU.out]; exact HRR.out⟩), HW2.out _⟩
    case measure => simp [intOf]; omega
   ·have hr := HNo.out hc
    have hc0 : 0 ≤ cc := by omega
    have HRR := Lib.hid hr
    have dc : decide (cc < 0) = false := decide_eq_false hc
    clear hr HY HNo HR1
    go_quiet ((go_at_call 109; with_reducible exact Calls.quiet_of (HLo.out _)))
    go_wp2_with fail
    go_roundw
    case rel => exact ⟨h + 1, j, by go_num, rfl, by omega, by omega, h3, Lib.hid (by rw [HV.out]; exact ⟨fun _ => by rw [Nat.add_sub_cancel, HU.out]; exact HRR.out, HR2.out⟩), HW2.out _⟩
    case measure => simp [intOf]; omega
  ·obtain rfl : i = j := by omega
   have HW0 : Hid (SrtW w0 g N (rotF F m m (m + 1)) wr) := Lib.hid (HW.out.ext (rotF_left F m (m + 1) (by omega)).symm)
   clear HW
   go_wp2_with fail
   obtain ⟨wo, rfl⟩ : ∃ V, V = wr := ⟨_, rfl⟩
   go_loopw [17] (fun kv wr => ∃ k : Nat, kv = .int .i64 k ∧ i ≤ k ∧ k ≤ m ∧ Hid (SrtW w0 g N (rotF F k m (m + 1)) wr)) (fun kv _ => (intOf kv).toNat)
   case atStart => exact ⟨m, rfl, h3, Nat.le_refl _, HW0⟩
   case round =>
    clear HW0
    obtain ⟨k, rfl, h4, h5, HW⟩ := hrel
    by_cases hki : i < k
    ·obtain ⟨m', hm'⟩ : ∃ m' : Nat, m' = k - 1 := ⟨_, rfl⟩
     have hkN : k < N := by omega
     have hmN' : m' < N := by omega
     have hm1 : m' < k := by omega
     have hdk : decide ((i : Int) < (k : Int)) = true := decide_eq_true (by omega)
     have c1 := HW.out.row.cell k hkN
     have c2 := HW.out.row.cell m' hmN'
     have f1 := HW.out.row.frz k hkN
     have f2 := HW.out.row.frz m' hmN'
     have HB1 := Lib.hid (show m' ≤ 9223372036854775807 by omega)
     have hW3 := ((HW.out.swap k hkN (by omega)).ext (rot_down F m k h5 (by omega))).drew
     rw [← hm'] at hW3
     have HW3 := Lib.hid hW3
     have HM := Lib.hid hm'
     have hq : (k : Int) - 1 = (m' : Int) := by omega
     clear hW3 HW
     obtain ⟨e1, e2⟩ := wrapN (x := (k : Int) - 1) (p := m') hq HB1.out
     have hkm : k ≠ m' := by omega
     clear hm' hq
     generalize rotF F k m (m + 1) k = u at *
     generalize rotF F k m (m + 1) m' = v at *
     go_wp2_with fail
     go_region
     clear e1 e2
     go_wp2_with fail
     go_roundw
     case rel => exact ⟨m', by have := HM.out; go_num, by have := HM.out; omega, by have := HM.out; omega, HW3⟩
     case measure => have := HM.out; simp [intOf]; omega
    ·have hdk : decide ((i : Int) < (k : Int)) = false := decide_eq_false (by omega)
     have hki' : k = i := by omega
     rw [hki'] at HW
     have hs := rot_sorted HE.out.tr (G := F) (a := x) (s := i) (m := m) (e := m + 1) (b := y) h1 h3 (by omega) (by have := HMY.out; omega) HF.out.l HF.out.r
      (fun _ h => by have := HMY.out; omega) (fun h _ => by rw [Nat.add_sub_cancel]; exact HR.out.2 h) (fun h _ => HR.out.1 h) (fun _ h => by have := HMY.out; omega)
     have HS := Lib.hid hs
     have HP := Lib.hid ((rot_perm F (a := i) (m := m) (b := m + 1) h3 (by omega)).wide h1 (show m + 1 ≤ y by have := HMY.out; omega))
     clear hs hki'
     go_wp2_with fail
     refine bodyPost_ret (results_none rfl _ _ _) rfl ?_
     exact ⟨rfl, _, HW.out, HP.out, HS.out⟩
end Go.Proofs.YtanmbhakjfhhdaaGreatDoor
/- The library's stable sort by wave's comparer: the merge of two rows. -/
namespace Go.Proofs.YtanmbhakjfhhdaaGreatDoor
set_option linter.unusedVariables false
set_option maxRecDepth 100000
open Go.RowKit Go.ChangeShapes Go.WideShapes
section
variable {R : Int → Int → Prop} {N : Nat} {F : Nat → Int} {x m y s e mid : Nat}
theorem mrg_bd (h : MrgI R N F x m y) (h1 : x ≤ s) (h2 : s ≤ m) (h3 : m ≤ e) (h4 : e ≤ y) : ∀ k, x ≤ k → k < y → 0 ≤ rotF F s m e k ∧ rotF F s m e k < N := fun k k1 k2 => by
 obtain ⟨q, q1, q2, q3⟩ := ((rot_perm F h2 h3).wide h1 h4).frm k k1 k2
 rw [q3]; exact h.bd q q1 q2
theorem mrg_first (h : MrgI R N F x m y) (h1 : x ≤ s) (h2 : s ≤ m) (h3 : m ≤ e) (h4 : e ≤ y) (hm : mid = s + (e - m)) : MrgI R N (rotF F s m e) x s mid where
 l := rot_ord1 h2 h.l
 r := by rw [hm]; exact rot_ord2 h2 h3 h4 h.r
 lt := fun i j i1 i2 j1 j2 => by rw [rotF_lo F i2, rotF_one F j1 (by omega)]; exact h.lt i _ i1 (by omega) (by omega) (by omega)
 bd := fun k k1 k2 => mrg_bd h h1 h2 h3 h4 k k1 (by omega)
theorem mrg_second {G : Nat → Int} (h : MrgI R N F x m y) (h1 : x ≤ s) (h2 : s ≤ m) (h3 : m ≤ e) (h4 : e ≤ y) (hm : mid = s + (e - m)) (p : PermAB (rotF F s m e) G x mid) : MrgI R N G mid e y where
 l := by rw [hm] at *; exact ord_congr (rot_ord3 h1 h2 h3 h.l) fun k k1 _ => p.out k (.inr k1)
 r := ord_congr (rot_ord4 h2 h3 h.r) fun k k1 _ => p.out k (.inr (by omega))
 lt := fun i j i1 i2 j1 j2 => by rw [p.out i (.inr i1), p.out j (.inr (by omega)), rotF_two F (by omega) i2, rotF_hi F h2 h3 j1]; exact h.lt _ j (by omega) (by omega) (by omega) j2
 bd := fun k k1 k2 => by rw [p.out k (.inr k1)]; exact mrg_bd h h1 h2 h3 h4 k (by omega) k2
end
set_option maxHeartbeats 8000000 in
theorem symMerge_any (g b N cap : Nat) (c : Nat → Nat → Int) (R : Int → Int → Prop) (w0 : World) (hE : CmpE w0 g b N c R) (hN : N ≤ 2305843009213693952) : ∀ (D x m y : Nat), y - x ≤ D → x < m → m < y → y ≤ N → ∀ F, MrgI R N F x m y → ∀ w, SrtW w0 g N F w →
  Calls Tryz.prog 188 #[.slice (some ⟨g, 0, none⟩) N cap, .int .i64 x, .int .i64 m, .int .i64 y, cmpV b] w (MrgO w0 g N R F x y) := by
 intro D
 induction D with
 | zero => intro x m y h1 h2 h3; omega
 | succ D ih =>
 intro x m y hD hxm hmy hyN F hF w hw
 by_cases ca : m = x + 1
 ·exact mergeOne_any g b N cap c R w0 hE x m y ca hmy hyN hN F hF w hw
 by_cases cb : y = m + 1
 ·exact mergeLast_any g b N cap c R w0 hE x m y (by omega) cb hyN hN F hF w hw
 have HIH := Lib.hid ih
 have HROT := Lib.hid (fun u v z h1 h2 h3 G W hW => rotate_any g b N cap w0 u v z h1 h2 h3 hN G W hW)
 unfold cmpV MrgO at *
 have H0 := Lib.hid hw
 have HF := Lib.hid hF
 have HE := Lib.hid hE
 have d1 : (((m : Int) - (x : Int)) == 1) = false := by rw [beq_eq_false_iff_ne]; omega
 have d2 : (((y : Int) - (m : Int)) == 1) = false := by rw [beq_eq_false_iff_ne]; omega
 obtain ⟨mid, hmid⟩ : ∃ mid : Nat, mid = (x + y) / 2 := ⟨_, rfl⟩
 obtain ⟨lo, hlo⟩ : ∃ lo : Nat, lo = if mid < m then mid + m - y else x := ⟨_, rfl⟩
 obtain ⟨hi, hhi⟩ : ∃ hi : Nat, hi = if mid < m then mid else m := ⟨_, rfl⟩
 have hcor : x ≤ lo ∧ lo ≤ hi ∧ hi ≤ m ∧ hi ≤ mid ∧ mid + m - lo ≤ y ∧ (lo = x ∨ mid + m - lo = y) ∧ (hi = m ∨ hi = mid) := by
  rw [hlo, hhi]; split <;> omega
 have hm1 : x < mid := by omega
 have hm2 : mid < y := by omega
 have hge : mid < m → y ≤ mid + m := by omega
 have hdiv : ((x : Int) + (y : Int)) / 2 = (mid : Int) := by omega
 have HD := Lib.hid hD
 clear hw hF hE ih hmid hD
 go_enter Tryz.func188, Tryz.ntmps188
 go_upto_region 25 with (fail)
 clear d1 d2 hdiv
 go_upto_if 140 with (fail)
 go_cut [20, 21] (fun u v wx => u = .int .i64 lo ∧ v = .int .i64 hi ∧ w = wx)
 case first =>
  as_aux_lemma =>
   by_cases cm : mid < m
   ·rw [if_pos cm] at hlo hhi
    have hge := hge cm
    have q : ((mid : Int) + (m : Int)) - (y : Int) = (lo : Int) := by omega
    have dc : decide ((mid : Int) < (m : Int)) = true := decide_eq_true (by omega)
    have HQ := Lib.hid q
    have HH := Lib.hid hhi
    clear q hlo hhi hcor hge
    go_wp2_with fail
    go_meet
    exact ⟨by rw [HQ.out], by rw [HH.out], rfl⟩
   ·rw [if_neg cm] at hlo hhi
    have dc : decide ((mid : Int) < (m : Int)) = false := decide_eq_false (by omega)
    have HL := Lib.hid hlo
    have HH := Lib.hid hhi
    clear hlo hhi hcor hge
    go_wp2_with fail
    go_meet
    exact ⟨by rw [HL.out], by rw [HH.out], rfl⟩
 case rest =>
  obtain ⟨rfl, rfl, rfl⟩ := hcut
  clear hlo hhi
  obtain ⟨k1, k2, k3, k4, k5, k6, k7⟩ := hcor
  go_wp2_with fail
  go_loopw [20, 21] (fun iv jv wr => ∃ i j : Nat, iv = .int .i64 i ∧ jv = .int .i64 j ∧ lo ≤ i ∧ i ≤ j ∧ j ≤ hi ∧ Hid ((lo < i → R (F (i - 1)) (F (mid + m - i))) ∧ (j < hi → R (F (mid + m - 1 - j)) (F j))) ∧ Hid (SrtW w0 g N F wr)) (fun iv jv _ => (intOf jv).toNat - (intOf iv).toNat)
  case atStart => exact ⟨lo, hi, rfl, rfl, Nat.le_refl _, k2, Nat.le_refl _, Lib.hid ⟨fun h => by omega, fun h => by omega⟩, H0⟩
  case round =>
   clear H0
   obtain ⟨i, j, rfl, rfl, h1, h2, h3, HR, HW⟩ := hrel
   by_cases hij : i < j
   ·obtain ⟨h, hh⟩ : ∃ h : Nat, h = (i + j) / 2 := ⟨_, rfl⟩
    have hb1 : i ≤ h := by omega
    have hb2 : h < j := by omega
    have hdiv : ((i : Int) + (j : Int)) / 2 = (h : Int) := by omega
    clear hh
    go_upto_region 35 with (fail)
    clear hdiv
    obtain ⟨q, hq⟩ : ∃ q : Nat, q = mid + m - 1 - h := ⟨_, rfl⟩
    have hqm : m ≤ q := by omega
    have hqy : q < y := by omega
    have hqi : ((mid : Int) + (m : Int) - 1) - (h : Int) = (q : Int) := by omega
    have hbq := HF.out.bd q (by omega) hqy
    have hbh := HF.out.bd h (by omega) (by omega)
    have hlt := HF.out.lt h q (by omega) (by omega) hqm hqy
    obtain ⟨hy, hn⟩ := HE.out.late hbq hbh hlt
    have hL := fun d => HE.out.callI hbq hbh (wr.drewN d) (HW.out.kept.drewN d)
    have HW2 := Lib.hid (fun d => HW.out.drewN d)
    have kk1 := HW.out.row.cell h (by omega)
    have kk2 := HW.out.row.cell q (by omega)
    have hN1 : h < N := by omega
    have hN2 : q < N := by omega
    have HB1 := Lib.hid (show q ≤ 9223372036854775807 by omega)
    have HQ1 := Lib.hid (show mid + m - (h + 1) = q by omega)
    have HQ2 := Lib.hid (show mid + m - 1 - h = q by omega)
    have HRL := Lib.hid (show lo ≤ h + 1 ∧ h + 1 ≤ j ∧ lo ≤ i ∧ i ≤ h ∧ h ≤ hi by omega)
    have HMS := Lib.hid (show j - (h + 1) < j - i ∧ h - i < j - i by omega)
    obtain ⟨cc, hcc⟩ : ∃ cc, cc = c (F q).toNat (F h).toNat := ⟨_, rfl⟩
    rw [← hcc] at hL hy hn
    have HLo := Lib.hid hL
    have HR1 := Lib.hid HR.out.1
    have HR2 := Lib.hid HR.out.2
    have HY := Lib.hid hy
    have HNo := Lib.hid hn
    clear hL hbh hbq hlt hcc HR HW hy hn hq
    obtain ⟨e1, e2⟩ := wrapN (x := ((mid : Int) + (m : Int) - 1) - (h : Int)) (p := q) hqi HB1.out
    clear hqi
    by_cases hc : cc < 0
    ·as_aux_lemma =>
      have hr := HY.out hc
      have HRR := Lib.hid hr
      have dc : decide (cc < 0) = true := decide_eq_true hc
      clear hr HY HNo HR2
      go_quiet ((go_at_call 109; with_reducible exact Calls.quiet_of (HLo.out _)))
      clear e1 e2
      go_wp2_with fail
      go_roundw
      case rel => exact ⟨i, h, rfl, rfl, h1, hb1, HRL.out.2.2.2.2, Lib.hid ⟨HR1.out, fun _ => by rw [HQ2.out]; exact HRR.out⟩, HW2.out _⟩
      case measure => have := HMS.out; simp [intOf]; omega
    ·as_aux_lemma =>
      have hr := HNo.out hc
      have hc0 : 0 ≤ cc := by omega
      have HRR := Lib.hid hr
      have dc : decide (cc < 0) = false := decide_eq_false hc
      clear hr HY HNo HR1
      go_quiet ((go_at_call 109; with_reducible exact Calls.quiet_of (HLo.out _)))
      clear e1 e2
      go_wp2_with fail
      go_roundw
      case rel => exact ⟨h + 1, j, by go_num, rfl, HRL.out.1, HRL.out.2.1, h3, Lib.hid ⟨fun _ => by rw [Nat.add_sub_cancel, HQ1.out]; exact HRR.out, HR2.out⟩, HW2.out _⟩
      case measure => have := HMS.out; simp [intOf]; omega
   ·obtain rfl : i = j := by omega
    clear hij h2
    obtain ⟨e, he⟩ : ∃ e : Nat, e = mid + m - i := ⟨_, rfl⟩
    have b1 : x ≤ i := by omega
    have b2 : i ≤ m := by omega
    have b3 : m ≤ e := by omega
    have b4 : e ≤ y := by omega
    have b5 : mid = i + (e - m) := by omega
    have b6 : i ≤ mid := by omega
    have b7 : mid ≤ e := by omega
    have x1 : x < i → e < y → R (F (i - 1)) (F e) := fun h1' h2' => by rw [he]; exact HR.out.1 (by omega)
    have x2 : i < m → m < e → R (F (e - 1)) (F i) := fun h1' h2' => by rw [show e - 1 = mid + m - 1 - i by omega]; exact HR.out.2 (by omega)
    have HX := Lib.hid (rot_cross HE.out.tr b1 b2 b3 b4 HF.out.l HF.out.r x1 x2)
    have HP := Lib.hid ((rot_perm F b2 b3).wide b1 b4)
    have HM1 := Lib.hid (mrg_first HF.out b1 b2 b3 b4 b5)
    have HM2 := Lib.hid (fun G p => mrg_second (G := G) HF.out b1 b2 b3 b4 b5 p)
    have HO1 := Lib.hid (show x = i ∨ i = mid → OrdAB R (rotF F i m e) x mid from fun h => by
     have o1 := rot_ord1 (R := R) (G := F) (e := e) b2 HF.out.l
     have o2 := rot_ord2 (R := R) (G := F) b2 b3 b4 HF.out.r
     rw [← b5] at o2
     rcases h with h | h
     ·rw [h]; exact o2
     ·rw [← h]; exact o1)
    have hei : ((mid : Int) + (m : Int)) - (i : Int) = (e : Int) := by omega
    have HB5 := Lib.hid b5
    have HEE := Lib.hid (show e ≤ 9223372036854775807 by omega)
    have HBB := Lib.hid (show (x ≤ i ∧ i ≤ m ∧ m ≤ e ∧ e ≤ y) ∧ mid = i + (e - m) ∧ i ≤ mid ∧ mid ≤ e ∧ x < m ∧ m < y ∧ y ≤ N ∧ x < mid ∧ mid < y from ⟨⟨b1, b2, b3, b4⟩, b5, b6, b7, hxm, hmy, hyN, hm1, hm2⟩)
    clear x1 x2 he k1 k2 k3 k4 k5 k6 k7 h1 h3 HR b1 b2 b3 b4 b5 b6 b7 hge ca cb hxm hmy hyN hN hm1 hm2
    have qe : e ≤ 9223372036854775807 := HEE.out
    go_upto_region 39 with (fail)
    clear hei qe
    go_cut [185] (fun v wx => v = .bool (decide (i < m ∧ m < e)) ∧ wr = wx)
    case first =>
     as_aux_lemma =>
      clear HX HP HM1 HM2 HO1 HIH HROT HF HE HBB HD HB5 HEE HW
      by_cases a1 : i < m
      ·have q1 : decide ((i : Int) < (m : Int)) = true := decide_eq_true (by omega)
       by_cases a2 : m < e
       ·have He := Lib.hid (show decide (i < m ∧ m < e) = true from decide_eq_true ⟨a1, a2⟩)
        have q2 : decide ((m : Int) < (e : Int)) = true := decide_eq_true (by omega)
        go_wp2_with fail
        go_meet
        exact ⟨by rw [He.out]; try rfl, rfl⟩
       ·have He := Lib.hid (show decide (i < m ∧ m < e) = false from decide_eq_false fun h => a2 h.2)
        have q2 : decide ((m : Int) < (e : Int)) = false := decide_eq_false (by omega)
        go_wp2_with fail
        go_meet
        exact ⟨by rw [He.out]; try rfl, rfl⟩
      ·have He := Lib.hid (show decide (i < m ∧ m < e) = false from decide_eq_false fun h => a1 h.1)
       have q1 : decide ((i : Int) < (m : Int)) = false := decide_eq_false (by omega)
       go_wp2_with fail
       go_meet
       exact ⟨by rw [He.out]; try rfl, rfl⟩
    case rest =>
     obtain ⟨rfl, rfl⟩ := hcut
     go_upto_if 185 with (fail)
     go_cut [] (fun wx => SrtW w0 g N (rotF F i m e) wx)
     case first =>
      as_aux_lemma =>
       clear HX HP HM1 HM2 HO1 HIH HF HE HD HB5 HEE
       by_cases a : i < m ∧ m < e
       ·rw [decide_eq_true a]
        have HRT := Lib.hid (HROT.out i m e a.1 a.2 (by have := HBB.out; omega) F wr HW.out)
        clear HROT HBB HW a
        go_wp2_with fail
        refine HRT.out.mono ?_
        rintro ee w2 ⟨rfl, hw2⟩
        have HW2 := Lib.hid hw2
        clear hw2 HRT
        go_wp2_with fail
        go_meet
        exact HW2.out
       ·rw [decide_eq_false a]
        have HW2 := Lib.hid (show SrtW w0 g N (rotF F i m e) wr by
         have hb := HBB.out
         by_cases a1 : i < m
         ·have a2 : e = m := by omega
          rw [a2]
          exact HW.out.ext (rotF_right F i m hb.1.2.1).symm
         ·have a2 : i = m := by omega
          rw [a2]
          exact HW.out.ext (rotF_left F m e hb.1.2.2.1).symm)
        clear HROT HBB HW a
        go_wp2_with fail
        go_meet
        exact HW2.out
     case rest =>
      have HW2 := Lib.hid hcut
      clear hcut HW HROT HF
      obtain ⟨w2, rfl⟩ : ∃ V, V = wc := ⟨_, rfl⟩
      go_upto_region 41 with (fail)
      go_cut [199] (fun v wx => v = .bool (decide (x < i ∧ i < mid)) ∧ w2 = wx)
      case first =>
       as_aux_lemma =>
        clear HX HP HM1 HM2 HO1 HIH HE HBB HD HB5 HEE HW2
        by_cases a1 : x < i
        ·have q1 : decide ((x : Int) < (i : Int)) = true := decide_eq_true (by omega)
         by_cases a2 : i < mid
         ·have He := Lib.hid (show decide (x < i ∧ i < mid) = true from decide_eq_true ⟨a1, a2⟩)
          have q2 : decide ((i : Int) < (mid : Int)) = true := decide_eq_true (by omega)
          go_wp2_with fail
          go_meet
          exact ⟨by rw [He.out]; try rfl, rfl⟩
         ·have He := Lib.hid (show decide (x < i ∧ i < mid) = false from decide_eq_false fun h => a2 h.2)
          have q2 : decide ((i : Int) < (mid : Int)) = false := decide_eq_false (by omega)
          go_wp2_with fail
          go_meet
          exact ⟨by rw [He.out]; try rfl, rfl⟩
        ·have He := Lib.hid (show decide (x < i ∧ i < mid) = false from decide_eq_false fun h => a1 h.1)
         have q1 : decide ((x : Int) < (i : Int)) = false := decide_eq_false (by omega)
         go_wp2_with fail
         go_meet
         exact ⟨by rw [He.out]; try rfl, rfl⟩
      case rest =>
       obtain ⟨rfl, rfl⟩ := hcut
       go_upto_if 199 with (fail)
       go_cut [] (fun wx => ∃ G, SrtW w0 g N G wx ∧ PermAB (rotF F i m e) G x mid ∧ OrdAB R G x mid)
       case first =>
        as_aux_lemma =>
         clear HX HP HM2 HE HB5 HEE
         by_cases a : x < i ∧ i < mid
         ·rw [decide_eq_true a]
          have HRC := Lib.hid (HIH.out x i mid (by have := HD.out; have := HBB.out; omega) a.1 a.2 (by have := HBB.out; omega) _ HM1.out w2 HW2.out)
          clear HM1 HO1 HIH HBB HD HW2 a
          go_wp2_with fail
          refine HRC.out.mono ?_
          rintro ee w3 ⟨rfl, hh⟩
          have HH := Lib.hid hh
          clear hh HRC
          go_wp2_with fail
          go_meet
          exact HH.out
         ·rw [decide_eq_false a]
          have HO := Lib.hid (HO1.out (by have := HBB.out; omega))
          clear HM1 HO1 HIH HBB HD a
          go_wp2_with fail
          go_meet
          exact ⟨_, HW2.out, PermAB.refl _ _ _, HO.out⟩
       case rest =>
        obtain ⟨G, hG1, hG2, hG3⟩ := hcut
        have HG1 := Lib.hid hG1
        have HG2 := Lib.hid hG2
        have HG3 := Lib.hid hG3
        have HM3 := Lib.hid (HM2.out G hG2)
        clear hG1 hG2 hG3 HW2 HM1 HM2 HO1 HE
        obtain ⟨w3, rfl⟩ : ∃ V, V = wc := ⟨_, rfl⟩
        go_upto_region 43 with (fail)
        go_cut [213] (fun v wx => v = .bool (decide (mid < e ∧ e < y)) ∧ w3 = wx)
        case first =>
         as_aux_lemma =>
          clear HX HP HM3 HIH HBB HD HB5 HEE HG1 HG2 HG3
          by_cases a1 : mid < e
          ·have q1 : decide ((mid : Int) < (e : Int)) = true := decide_eq_true (by omega)
           by_cases a2 : e < y
           ·have He := Lib.hid (show decide (mid < e ∧ e < y) = true from decide_eq_true ⟨a1, a2⟩)
            have q2 : decide ((e : Int) < (y : Int)) = true := decide_eq_true (by omega)
            go_wp2_with fail
            go_meet
            exact ⟨by rw [He.out]; try rfl, rfl⟩
           ·have He := Lib.hid (show decide (mid < e ∧ e < y) = false from decide_eq_false fun h => a2 h.2)
            have q2 : decide ((e : Int) < (y : Int)) = false := decide_eq_false (by omega)
            go_wp2_with fail
            go_meet
            exact ⟨by rw [He.out]; try rfl, rfl⟩
          ·have He := Lib.hid (show decide (mid < e ∧ e < y) = false from decide_eq_false fun h => a1 h.1)
           have q1 : decide ((mid : Int) < (e : Int)) = false := decide_eq_false (by omega)
           go_wp2_with fail
           go_meet
           exact ⟨by rw [He.out]; try rfl, rfl⟩
        case rest =>
         obtain ⟨rfl, rfl⟩ := hcut
         by_cases a : mid < e ∧ e < y
         ·rw [decide_eq_true a]
          have HRC := Lib.hid (HIH.out mid e y (by have := HD.out; have := HBB.out; omega) a.1 a.2 HBB.out.2.2.2.2.2.2.1 _ HM3.out w3 HG1.out)
          have HMD := Lib.hid (fun G2 => merge_done (G2 := G2) (show x ≤ mid by have := HBB.out; omega) (show mid ≤ y by have := HBB.out; omega) HP.out (by rw [HB5.out]; exact HX.out) HG2.out HG3.out)
          clear HIH HX HP HM3 HBB HD HB5 HEE HG1 HG2 HG3 a
          go_wp2_with fail
          refine HRC.out.mono ?_
          rintro ee w4 ⟨rfl, G2, hh1, hh2, hh3⟩
          have HH := Lib.hid hh1
          have HDN := Lib.hid (HMD.out G2 hh2 hh3)
          clear hh1 hh2 hh3 HRC HMD
          go_wp2_with fail
          go_end0
          exact ⟨rfl, G2, HH.out, HDN.out.1, HDN.out.2⟩
         ·rw [decide_eq_false a]
          have ho : OrdAB R G mid y := by
           have hb := HBB.out
           by_cases a1 : mid < e
           ·have a2 : e = y := by omega
            have := HM3.out.l
            rwa [a2] at this
           ·have a2 : mid = e := by omega
            have := HM3.out.r
            rwa [← a2] at this
          have HDN := Lib.hid (merge_done (show x ≤ mid by have := HBB.out; omega) (show mid ≤ y by have := HBB.out; omega) HP.out (by rw [HB5.out]; exact HX.out) HG2.out HG3.out (PermAB.refl G mid y) ho)
          clear HIH HX HP HM3 HBB HD HB5 HEE HG2 HG3 a ho
          go_wp2_with fail
          go_end0
          exact ⟨rfl, G, HG1.out, HDN.out.1, HDN.out.2⟩
end Go.Proofs.YtanmbhakjfhhdaaGreatDoor
/- The library's stable sort by wave's comparer, whole. -/
namespace Go.Proofs.YtanmbhakjfhhdaaGreatDoor
set_option linter.unusedVariables false
set_option maxRecDepth 100000
open Go.RowKit Go.ChangeShapes Go.WideShapes
set_option maxHeartbeats 8000000 in
theorem stableN_any (g b N cap : Nat) (c : Nat → Nat → Int) (R : Int → Int → Prop) (w0 : World) (hE : CmpE w0 g b N c R) (hN : N ≤ 1152921504606846976) (F : Nat → Int) (hF : RisAB F N 0 N) (w : World) (hw : SrtW w0 g N F w) :
  Calls Tryz.prog 148 #[.slice (some ⟨g, 0, none⟩) N cap, .int .i64 N, cmpV b] w fun e w' => e = .returned (.tuple #[]) ∧ ∃ G, SrtO R F N G ∧ SrtW w0 g N G w' := by
 have HINS := Lib.hid (fun x y (h1 : x ≤ y) (h2 : y ≤ N) F hF w hw => insAB_any g b N cap c R w0 hE x y h1 h2 (by omega) F hF w hw)
 have HMRG := Lib.hid (fun x m y (h1 : x < m) (h2 : m < y) (h3 : y ≤ N) F hF w hw => symMerge_any g b N cap c R w0 hE (by omega) (y - x) x m y (Nat.le_refl _) h1 h2 h3 F hF w hw)
 have HRI := Lib.hid (fun i j (h1 : i < j) (h2 : j < N) => hF.2 i j (Nat.zero_le _) h1 h2)
 have HBD := Lib.hid (fun k (h1 : k < N) => hF.1 k (Nat.zero_le _) h1)
 unfold cmpV MrgO at *
 have H0 := Lib.hid hw
 clear hw hE hF
 go_enter Tryz.func148, Tryz.ntmps148
 go_wp2_with fail
 go_loopw [7, 8] (fun av bv wr => ∃ (a : Nat) (G : Nat → Int), av = .int .i64 a ∧ bv = .int .i64 ((a : Int) + 20) ∧ a ≤ N ∧ Hid (Ini R F N a G) ∧ Hid (SrtW w0 g N G wr)) (fun av _ _ => N - (intOf av).toNat)
 case atStart => exact ⟨0, F, by go_num, by go_num, Nat.zero_le _, Lib.hid (Ini.start R F N), H0⟩
 case round =>
  clear H0
  obtain ⟨a, G, rfl, rfl, ha, HI, HW⟩ := hrel
  by_cases hlt : a + 20 ≤ N
  ·have hr : RisAB G N a (a + 20) := ⟨fun k h1 h2 => by rw [HI.out.rest k h1]; exact HBD.out k (by omega), fun i j h1 h2 h3 => by rw [HI.out.rest i h1, HI.out.rest j (by omega)]; exact HRI.out i j h2 (by omega)⟩
   have hc := HINS.out a (a + 20) (by omega) hlt G hr wr HW.out
   rw [show ((a + 20 : Nat) : Int) = (a : Int) + 20 by omega] at hc
   have HC := Lib.hid hc
   have dd : decide ((a : Int) + 20 ≤ (N : Int)) = true := decide_eq_true (by omega)
   clear hr hc HW
   go_wp2_with fail
   refine HC.out.mono ?_
   rintro e w1 ⟨rfl, G2, h1, h2, h3⟩
   have HI2 := Lib.hid (HI.out.step h2 h3)
   have HW2 := Lib.hid h1
   clear h1 h2 h3 HC HI
   go_wp2_with fail
   go_roundw
   case rel => exact ⟨a + 20, G2, by go_num, by go_num, hlt, HI2, HW2⟩
   case measure => simp [intOf]; omega
  ·have hr : RisAB G N a N := ⟨fun k h1 h2 => by rw [HI.out.rest k h1]; exact HBD.out k (by omega), fun i j h1 h2 h3 => by rw [HI.out.rest i h1, HI.out.rest j (by omega)]; exact HRI.out i j h2 (by omega)⟩
   have HC := Lib.hid (HINS.out a N ha (Nat.le_refl _) G hr wr HW.out)
   have dd : decide ((a : Int) + 20 ≤ (N : Int)) = false := decide_eq_false (by omega)
   have hlt' : N < a + 20 := by omega
   clear hr HW HINS
   go_wp2_with fail
   refine HC.out.mono ?_
   rintro e w1 ⟨rfl, G2, h1, h2, h3⟩
   have HB := Lib.hid (HI.out.last ha hlt' h2 h3)
   have HW2 := Lib.hid h1
   clear h1 h2 h3 HC HI ha hlt hlt' dd
   obtain ⟨wo, rfl⟩ : ∃ V, V = w1 := ⟨_, rfl⟩
   go_wp2_with fail
   go_loopw [6] (fun sv wr => ∃ (bs : Nat) (G : Nat → Int), sv = .int .i64 bs ∧ 0 < bs ∧ bs ≤ 2 * N + 20 ∧ Hid (Blk R F N bs G) ∧ Hid (SrtW w0 g N G wr)) (fun sv _ => N - (intOf sv).toNat)
   case atStart => exact ⟨20, G2, by go_num, by omega, by omega, HB, HW2⟩
   case round =>
    clear HB HW2
    obtain ⟨bs, G, rfl, hb0, hb1, HB, HW⟩ := hrel
    by_cases hbn : bs < N
    ·have HM0 := Lib.hid (HB.out.mix (2 * bs))
     have dd : decide ((bs : Int) < (N : Int)) = true := decide_eq_true (by omega)
     clear HB hb1
     obtain ⟨wo, rfl⟩ : ∃ V, V = wr := ⟨_, rfl⟩
     go_wp2_with fail
     clear dd
     go_loopw [7, 8] (fun av bv wr => ∃ (a t : Nat) (G : Nat → Int), av = .int .i64 a ∧ bv = .int .i64 ((a : Int) + 2 * (bs : Int)) ∧ Hid (a = 2 * bs * t) ∧ a ≤ N ∧ Hid (Mix R F N (2 * bs) bs a G) ∧ Hid (SrtW w0 g N G wr)) (fun av _ _ => N - (intOf av).toNat)
     case atStart => exact ⟨0, 0, G, by go_num, by go_num, Lib.hid (by rw [Nat.mul_zero]), Nat.zero_le _, HM0, HW⟩
     case round =>
      clear HM0 HW
      obtain ⟨a, t, G, rfl, rfl, HT, ha, HM, HW⟩ := hrel
      by_cases hlt : a + 2 * bs ≤ N
      ·have hrow := HM.out.rows hb0 HT.out (y := a + 2 * bs) (by omega) (Nat.le_refl _) hlt HRI.out HBD.out
       have hc := HMRG.out a (a + bs) (a + 2 * bs) (by omega) (by omega) hlt G ⟨hrow.1, hrow.2.1, hrow.2.2.1, hrow.2.2.2⟩ wr HW.out
       rw [show ((a + bs : Nat) : Int) = (a : Int) + (bs : Int) by omega, show ((a + 2 * bs : Nat) : Int) = (a : Int) + 2 * (bs : Int) by omega] at hc
       have HC := Lib.hid hc
       have dd : decide ((a : Int) + 2 * (bs : Int) ≤ (N : Int)) = true := decide_eq_true (by omega)
       clear hrow hc HW
       go_wp2_with fail
       refine HC.out.mono ?_
       rintro e w2 ⟨rfl, G2, h1, h2, h3⟩
       have HM2 := Lib.hid (HM.out.step hb0 HT.out hlt h2 h3)
       have HT2 := Lib.hid (show a + 2 * bs = 2 * bs * (t + 1) by rw [Nat.mul_add, Nat.mul_one, ← HT.out])
       have HW2 := Lib.hid h1
       clear h1 h2 h3 HC HM HT
       go_wp2_with fail
       go_roundw
       case rel => exact ⟨a + 2 * bs, t + 1, G2, by go_num, by go_num, HT2, hlt, HM2, HW2⟩
       case measure => simp [intOf]; omega
      ·have dd : decide ((a : Int) + 2 * (bs : Int) ≤ (N : Int)) = false := decide_eq_false (by omega)
       have hlt' : N < a + 2 * bs := by omega
       by_cases hm : a + bs < N
       ·have hrow := HM.out.rows hb0 HT.out (y := N) (by omega) (by omega) (Nat.le_refl _) HRI.out HBD.out
        have hc := HMRG.out a (a + bs) N (by omega) hm (Nat.le_refl _) G ⟨hrow.1, hrow.2.1, hrow.2.2.1, hrow.2.2.2⟩ wr HW.out
        rw [show ((a + bs : Nat) : Int) = (a : Int) + (bs : Int) by omega] at hc
        have HC := Lib.hid hc
        have d2 : decide ((a : Int) + (bs : Int) < (N : Int)) = true := decide_eq_true (by omega)
        clear hrow hc HW
        go_wp2_with fail
        refine HC.out.mono ?_
        rintro e w2 ⟨rfl, G2, h1, h2, h3⟩
        have HB2 := Lib.hid (HM.out.last hb0 HT.out ha hlt' h2 h3)
        have HW2 := Lib.hid h1
        clear h1 h2 h3 HC HM HT
        go_wp2_with fail
        go_roundw
        case rel => exact ⟨2 * bs, G2, by go_num, by omega, by omega, HB2, HW2⟩
        case measure => simp [intOf]; omega
       ·have d2 : decide ((a : Int) + (bs : Int) < (N : Int)) = false := decide_eq_false (by omega)
        have HB2 := Lib.hid (HM.out.last hb0 HT.out ha hlt' (PermAB.refl G a N) (HM.out.alone hb0 HT.out (by omega)))
        clear HM HT
        go_wp2_with fail
        go_roundw
        case rel => exact ⟨2 * bs, G, by go_num, by omega, by omega, HB2, HW⟩
        case measure => simp [intOf]; omega
    ·have dd : decide ((bs : Int) < (N : Int)) = false := decide_eq_false (by omega)
     have HS := Lib.hid (HB.out.done (by omega))
     clear HB
     go_wp2_with fail
     go_end0
     exact ⟨rfl, G, HS.out, HW.out⟩
theorem SortStableN_any (g b N cap : Nat) (c : Nat → Nat → Int) (R : Int → Int → Prop) (w0 : World) (hE : CmpE w0 g b N c R) (hN : N ≤ 1152921504606846976) (F : Nat → Int) (hF : RisAB F N 0 N) (w : World) (hw : SrtW w0 g N F w) :
  Calls Tryz.prog 108 #[.slice (some ⟨g, 0, none⟩) N cap, cmpV b] w fun e w' => e = .returned (.tuple #[]) ∧ ∃ G, SrtO R F N G ∧ SrtW w0 g N G w' := by
 have HI := Lib.hid (stableN_any g b N cap c R w0 hE hN F hF w hw)
 unfold cmpV at *
 clear hF hw hE
 go_enter Tryz.func108, Tryz.ntmps108
 go_wp2_with fail
 refine HI.out.mono ?_
 rintro e w1 ⟨rfl, hh⟩
 have HH := Lib.hid hh
 clear hh HI
 go_wp2_with fail
 go_end0
 exact ⟨rfl, HH.out⟩
end Go.Proofs.YtanmbhakjfhhdaaGreatDoor
/- Package wave's contracts on lists of samples, first part: byName. -/
namespace Go.Proofs.YtanmbhakjfhhdaaGreatDoor
set_option linter.unusedVariables false
set_option maxRecDepth 100000
open Go.RowKit Go.ChangeShapes Go.WideShapes
structure SmsS (w : World) (p : Option Addr) (n : Nat) (L : Nat → Smp) : Prop where
 cell : 0 < n → ∃ g o, p = some ⟨g, o, none⟩ ∧ g < w.heap.size ∧ ∀ i, i < n → ∀ f v, (L i).cells[f]? = some v → w.cell? ⟨g, o + i * 6 + f, none⟩ = some v
 ok : ∀ i, i < n → SmOk w (L i)
theorem SmsS.old {w w' : World} {p : Option Addr} {n : Nat} {L : Nat → Smp} (h : SmsS w p n L) (k : Old w w') : SmsS w' p n L where
 cell := fun hn => by
  obtain ⟨g, o, h1, h2, h3⟩ := h.cell hn
  exact ⟨g, o, h1, Nat.lt_of_lt_of_le h2 k.size, fun i hi f v hf => (k.cell (a := ⟨g, o + i * 6 + f, none⟩) h2).trans (h3 i hi f v hf)⟩
 ok := fun i hi => (h.ok i hi).old k
def nmS (L : Nat → Smp) (i : Nat) : ByteArray := (L i).s
theorem names_yes (L : Nat → Smp) (x y : Nat) (hxy : x < y) (h : Lib.compareBytes (nmS L y).data.toList (nmS L x).data.toList < 0) : nameR (nmS L) y x := .inl (by
  have := (cmpS_neg _ _).1 h
  rwa [Int.toNat_natCast, Int.toNat_natCast])
theorem names_no (L : Nat → Smp) (x y : Nat) (hxy : x < y) (h : ¬ Lib.compareBytes (nmS L y).data.toList (nmS L x).data.toList < 0) : nameR (nmS L) x y := .inr ⟨by
  rw [Int.toNat_natCast, Int.toNat_natCast]
  exact Bool.eq_false_iff.2 fun e => h ((cmpS_neg _ _).2 e), by omega⟩
theorem cmpE_names {w0 : World} {g b n cp gp o : Nat} {L : Nat → Smp} (hb : w0.cell? ⟨b, 0, none⟩ = some (.slice (some ⟨gp, o, none⟩) n cp)) (hk : ∀ i, i < n → w0.cell? ⟨gp, o + i * 6, none⟩ = some (.string (nmS L i))) (h1 : b < w0.heap.size) (h2 : b ≠ g) (h3 : gp < w0.heap.size) (h4 : gp ≠ g) :
  CmpE w0 g b n (fun x y => Lib.compareBytes (nmS L x).data.toList (nmS L y).data.toList) (nameR (nmS L)) where
 call := fun W hW x y hx hy => byName1_any (nmS L) none b n cp gp o x y W ((hW.cell (a := ⟨b, 0, none⟩) ⟨h1, h2⟩).trans hb) (fun i hi => (hW.cell (a := ⟨gp, o + i * 6, none⟩) ⟨h3, h4⟩).trans (hk i hi)) hx hy
 yes := names_yes L
 no := names_no L
 tr := nameR_tr _
theorem Tryz.info_int : (Tryz.prog.info? 3).map (fun i => (i.zero, i.size, i.bytes)) = some (some (.int .i64 0), 1, 8) := by kernel_rfl
theorem zero1i (n : Nat) : madeCells (Value.int .i64 0 : Value).cells n = rowN n (blk fun _ => 0) :=
 made_rowN n _ (by decide) (fun j hj => by
  have h1 : j < 1 := hj
  have h2 : j = 0 := by omega
  rw [h2]; rfl)
theorem make_intsI (n : Nat) (hn : n ≤ 1099511627776) (w : World) : (Instr.makeSlice 52 (.int .i64 n) (.int .i64 n)).run Tryz.prog w = .ok (.slice (some ⟨w.heap.size, 0, none⟩) n n) (w.alloc (.cells (rowN n (blk fun _ => 0)) 3)) := by
 obtain ⟨i, hi, hz0, hz1, hz2⟩ := info_parts Tryz.info_int
 rw [run_make w _ _ i _ Tryz.underlying52 hi hz0 .i64 .i64 n n (by omega) (by omega) (by rw [hz2]; omega) (by omega), hz1, Int.toNat_natCast, Nat.mul_one, zero1i n]
def idTo (k : Nat) : Nat → Int := fun j => if j < k then (j : Int) else 0
theorem idTo_step (k : Nat) : (fun j => if j = k then (k : Int) else idTo k j) = idTo (k + 1) := by
 funext j
 unfold idTo
 by_cases e : j = k
 ·subst e; rw [if_pos rfl, if_pos (by omega)]
 ·rw [if_neg e]
  by_cases h : j < k
  ·rw [if_pos h, if_pos (by omega)]
  ·rw [if_neg h, if_neg (by omega)]
set_option maxHeartbeats 4000000 in
theorem byName_any (p : Option Addr) (n cp : Nat) (L : Nat → Smp) (w : World) (hs : SmsS w p n L) (hn : n ≤ 1048576) :
  Calls Tryz.prog 52 #[.slice p n cp] w fun e w' => ∃ g G, e = .returned (.slice (some ⟨g, 0, none⟩) n n) ∧ SrtO (nameR (nmS L)) (fun j => (j : Int)) n G ∧ CellsAt w' g n G ∧ w.heap.size ≤ g ∧ Old w w' := by
 obtain ⟨W1, hW1⟩ : ∃ W1, W1 = w.alloc (.cells #[.slice p n cp] 22) := ⟨_, rfl⟩
 obtain ⟨b, hb⟩ : ∃ b, b = w.heap.size := ⟨_, rfl⟩
 have ho1 : Old w W1 := by rw [hW1]; exact Old.alloc _ _
 have hsz1 : W1.heap.size = b + 1 := by rw [hW1, hb]; exact World.size_alloc ..
 have cb : W1.cell? ⟨b, 0, none⟩ = some (.slice p n cp) := by
  rw [hW1, hb]
  exact (cell_of_row _ _ _ _ _ _ (heap_alloc_new _ _)).trans rfl
 have hmk := make_intsI n (by omega) W1
 rw [hsz1] at hmk
 obtain ⟨W2, hW2⟩ : ∃ W2, W2 = W1.alloc (.cells (rowN n (blk fun _ => 0)) 3) := ⟨_, rfl⟩
 rw [← hW2] at hmk
 have ho2 : Old W1 W2 := by rw [hW2]; exact Old.alloc _ _
 have hc2 : CellsAt W2 (b + 1) n (idTo 0) := by
  rw [hW2, ← hsz1]
  exact (cellsAt_new W1 n _ _).ext fun j _ => by unfold idTo; rw [if_neg (by omega)]
 have H0 := Lib.hid (show SrtW W2 (b + 1) n (idTo 0) W2 from ⟨hc2, Kept.refl _ _⟩)
 have HOW := Lib.hid (ho1.trans ho2)
 have hE : 0 < n → CmpE W2 (b + 1) b n (fun x y => Lib.compareBytes (nmS L x).data.toList (nmS L y).data.toList) (nameR (nmS L)) := fun h0 => by
  obtain ⟨gp, o, hp, hg, hc⟩ := hs.cell h0
  have hb2 : b < W2.heap.size := by have := ho2.size; omega
  refine cmpE_names (cp := cp) (gp := gp) (o := o) ?_ (fun i hi => ?_) hb2 (by omega) (Nat.lt_of_lt_of_le hg (HOW.out.size)) (by omega)
  ·rw [← hp]
   exact (ho2.cell (a := ⟨b, 0, none⟩) (by show b < _; omega)).trans cb
  ·have := hc i hi 0 (.string (L i).s) rfl
   exact (HOW.out.cell (a := ⟨gp, o + i * 6 + 0, none⟩) hg).trans this
 have HE := Lib.hid hE
 have HW := Lib.hid hW1
 have HB := Lib.hid hb
 have hcb2 := (ho2.cell (a := ⟨b, 0, none⟩) (by show b < _; omega)).trans cb
 clear hE ho1 ho2 hc2 hsz1 hW1 hW2 hs hb
 go_enter Tryz.func52, Tryz.ntmps52
 go_upto_region 1 with (fail)
 rw [← HW.out, ← HB.out]
 go_wp2_with fail
 clear hmk cb
 go_loopw [10] (fun iv wr => ∃ k : Nat, k ≤ n ∧ iv = .int .i64 k ∧ Hid (SrtW W2 (b + 1) n (idTo k) wr)) (fun i _ => n - (intOf i).toNat)
 case atStart => exact ⟨0, Nat.zero_le _, by go_num, H0⟩
 case round =>
  clear H0
  obtain ⟨k, hk, rfl, HS⟩ := hrel
  by_cases hkn : k < n
  ·have c1 := HS.out.row.cell k hkn
   have f1 := HS.out.row.frz k hkn
   have HS2 := Lib.hid ((HS.out.set k hkn k).ext (idTo_step k))
   clear HS
   generalize idTo k k = u at *
   go_wp2_with fail
   go_roundw
   case rel => exact ⟨k + 1, by omega, by go_num, HS2⟩
   case measure => simp [intOf]; omega
  ·obtain rfl : k = n := by omega
   have hF : RisAB (idTo k) k 0 k := ⟨fun j _ h => by unfold idTo; rw [if_pos h]; omega, fun i j _ h1 h2 => by unfold idTo; rw [if_pos (by omega), if_pos h2]; omega⟩
   have hsort : Calls Tryz.prog 108 #[.slice (some ⟨b + 1, 0, none⟩) k k, cmpV b] wr fun e w' => e = .returned (.tuple #[]) ∧ ∃ G, SrtO (nameR (nmS L)) (idTo k) k G ∧ SrtW W2 (b + 1) k G w' := by
    by_cases h0 : 0 < k
    ·exact SortStableN_any (b + 1) b k k _ _ W2 (HE.out h0) (by omega) (idTo k) hF wr HS.out
    ·obtain rfl : k = 0 := by omega
     exact SortStableN_any (b + 1) b 0 0 (fun x y => Lib.compareBytes (nmS L x).data.toList (nmS L y).data.toList) (nameR (nmS L)) W2 ⟨fun _ _ x y h => by omega, names_yes L, names_no L, nameR_tr _⟩ (by omega) (idTo 0) hF wr HS.out
   have HST := Lib.hid hsort
   clear hF hsort HS HE
   unfold cmpV at *
   go_wp2_with fail
   refine HST.out.mono ?_
   rintro e w1 ⟨rfl, G, h1, h2⟩
   have hsr : SrtO (nameR (nmS L)) (fun j => (j : Int)) k G := ⟨h1.ord, fun q hq => by
    obtain ⟨m, a1, a2⟩ := h1.frm q hq
    exact ⟨m, a1, by rw [a2]; unfold idTo; rw [if_pos a1]⟩, fun q hq => by
    obtain ⟨m, a1, a2⟩ := h1.all q hq
    exact ⟨m, a1, by rw [a2]; unfold idTo; rw [if_pos hq]⟩⟩
   have HSR := Lib.hid hsr
   have HC := Lib.hid h2.row
   have HO := Lib.hid (show Old w w1 from HOW.out.after h2.kept fun q hq => ⟨by have := HOW.out.size; omega, by have := HB.out; omega⟩)
   clear hsr h1 h2 HST
   go_wp2_with fail
   go_ret
   exact ⟨b + 1, G, rfl, HSR.out, HC.out, by have := HB.out; omega, HO.out⟩
end Go.Proofs.YtanmbhakjfhhdaaGreatDoor
/- Package wave's contracts on lists of samples, fourth part: CheckAll. -/
namespace Go.Proofs.YtanmbhakjfhhdaaGreatDoor
set_option linter.unusedVariables false
set_option maxRecDepth 100000
open Go.RowKit Go.ChangeShapes Go.WideShapes
noncomputable def errTo (L : Nat → Smp) : Nat → Int
 | 0 => 0
 | k + 1 => if errTo L k ≠ 0 then errTo L k else (L k).check
theorem errTo_next {L : Nat → Smp} {k : Nat} (h : errTo L k = 0) : errTo L (k + 1) = (L k).check := by show (if errTo L k ≠ 0 then errTo L k else (L k).check) = _; rw [if_neg (by omega)]
theorem errTo_stays {L : Nat → Smp} {k n : Nat} (h : errTo L k ≠ 0) (hn : k ≤ n) : errTo L n = errTo L k := by
 induction hn with
 | refl => rfl
 | @step m hm ih => show (if errTo L m ≠ 0 then errTo L m else (L m).check) = _; rw [if_pos (by rw [ih]; exact h), ih]
def twiceP (L : Nat → Smp) (n : Nat) : Prop := ∃ i k, k < i ∧ i < n ∧ nmS L i = nmS L k
open Classical in
noncomputable def allI (L : Nat → Smp) (n : Nat) : Int := if 64 < n then 6 else if errTo L n ≠ 0 then errTo L n else if twiceP L n then 11 else 0
theorem allI_full {L : Nat → Smp} {n : Nat} (h : 64 < n) : allI L n = 6 := by unfold allI; rw [if_pos h]
theorem allI_err {L : Nat → Smp} {n : Nat} (h : ¬ 64 < n) (h2 : errTo L n ≠ 0) : allI L n = errTo L n := by unfold allI; rw [if_neg h, if_pos h2]
theorem allI_twice {L : Nat → Smp} {n : Nat} (h : ¬ 64 < n) (h2 : errTo L n = 0) (h3 : twiceP L n) : allI L n = 11 := by unfold allI; rw [if_neg h, if_neg (by omega), if_pos h3]
theorem allI_ok {L : Nat → Smp} {n : Nat} (h : ¬ 64 < n) (h2 : errTo L n = 0) (h3 : ¬ twiceP L n) : allI L n = 0 := by unfold allI; rw [if_neg h, if_neg (by omega), if_neg h3]
def onm (L : Nat → Smp) (G : Nat → Int) (i : Nat) : ByteArray := nmS L (G i).toNat
theorem srt_bd {R : Int → Int → Prop} {n : Nat} {G : Nat → Int} (h : SrtO R (fun j => (j : Int)) n G) (i : Nat) (hi : i < n) : ∃ m : Nat, m < n ∧ G i = (m : Int) := h.frm i hi
theorem twice_of {L : Nat → Smp} {n : Nat} {G : Nat → Int} (h : SrtO (nameR (nmS L)) (fun j => (j : Int)) n G) (i : Nat) (h0 : 0 < i) (hi : i < n) (he : onm L G (i - 1) = onm L G i) : twiceP L n := by
 obtain ⟨x, hx, ex⟩ := srt_bd h (i - 1) (by omega)
 obtain ⟨y, hy, ey⟩ := srt_bd h i hi
 have hr := h.ord (i - 1) i (by omega) hi
 unfold onm at he
 rw [ex, ey] at hr he
 rw [Int.toNat_natCast, Int.toNat_natCast] at he
 unfold nameR at hr
 rw [Int.toNat_natCast, Int.toNat_natCast, he, ltS_irr] at hr
 rcases hr with hr | ⟨_, hr⟩
 ·cases hr
 ·exact ⟨y, x, by omega, hy, he.symm⟩
theorem no_twice {L : Nat → Smp} {n : Nat} {G : Nat → Int} (h : SrtO (nameR (nmS L)) (fun j => (j : Int)) n G) (hne : ∀ i, 0 < i → i < n → onm L G (i - 1) ≠ onm L G i) : ¬ twiceP L n := by
 have step : ∀ i, 0 < i → i < n → ltS (onm L G (i - 1)) (onm L G i) = true := fun i h0 hi => by
  have hr := h.ord (i - 1) i (by omega) hi
  rcases hr with hr | ⟨hr, _⟩
  ·exact hr
  ·cases hc : ltS (onm L G (i - 1)) (onm L G i)
   ·exact absurd (ltS_tri hc hr) (hne i h0 hi)
   ·rfl
 have up : ∀ d i, i + d + 1 < n → ltS (onm L G i) (onm L G (i + d + 1)) = true := by
  intro d
  induction d with
  | zero => intro i hi; exact step (i + 1) (by omega) (by omega)
  | succ d ih => intro i hi; exact ltS_tr (ih i (by omega)) (step (i + (d + 1) + 1) (by omega) hi)
 rintro ⟨i, k, hki, hin, he⟩
 obtain ⟨a, ha, ea⟩ := h.all i hin
 obtain ⟨b, hb, eb⟩ := h.all k (by omega)
 have hab : onm L G a = onm L G b := by unfold onm; rw [ea, eb, Int.toNat_natCast, Int.toNat_natCast]; exact he
 have hne2 : a ≠ b := fun e => by rw [e, eb] at ea; omega
 rcases Nat.lt_or_gt_of_ne hne2 with c | c
 ·have := up (b - a - 1) a (by omega)
  rw [show a + (b - a - 1) + 1 = b by omega, hab, ltS_irr] at this
  cases this
 ·have := up (a - b - 1) b (by omega)
  rw [show b + (a - b - 1) + 1 = a by omega, hab, ltS_irr] at this
  cases this
theorem eqS_neq {a b : ByteArray} (h : a ≠ b) : (a.toList == b.toList) = false := by rw [eqS]; exact decide_eq_false h
theorem eqS_eq (a : ByteArray) : (a.toList == a.toList) = true := by rw [eqS]; exact decide_eq_true rfl
set_option maxHeartbeats 8000000 in
theorem CheckAll_any (p : Option Addr) (n cp : Nat) (L : Nat → Smp) (w : World) (hs : SmsS w p n L) (hn : n ≤ 1048576) :
  Calls Tryz.prog 13 #[.slice p n cp] w fun e w' => e = .returned (.int .i64 (allI L n)) ∧ Old w w' := by
 have HS := Lib.hid hs
 have HO := Lib.hid (Old.refl w)
 by_cases h64 : 64 < n
 ·have HA := Lib.hid (allI_full (L := L) h64)
  have dd : decide (64 < (n : Int)) = true := decide_eq_true (by omega)
  clear hs
  go_enter Tryz.func13, Tryz.ntmps13
  go_wp2_with fail
  go_ret
  exact ⟨ret_int HA.out.symm, HO.out⟩
 have dd : decide (64 < (n : Int)) = false := decide_eq_false (by omega)
 clear hs
 go_enter Tryz.func13, Tryz.ntmps13
 go_wp2_with fail
 clear dd
 go_loopw [13] (fun iv wr => ∃ k : Nat, k ≤ n ∧ iv = .int .i64 k ∧ Hid (errTo L k = 0) ∧ Hid (Old w wr)) (fun i _ => n - (intOf i).toNat)
 case atStart => exact ⟨0, Nat.zero_le _, by go_num, Lib.hid rfl, HO⟩
 case round =>
  clear HO
  obtain ⟨k, hk, rfl, HE, HO⟩ := hrel
  by_cases hkn : k < n
  ·have hS := HS.out.old HO.out
   obtain ⟨g, o, rfl, hg, hcs⟩ := hS.cell (by omega)
   have c0 : wr.cell? ⟨g, o + k * 6, none⟩ = some (.string (L k).s) := hcs k hkn 0 _ rfl
   have c1 : wr.cell? ⟨g, o + k * 6 + 1, none⟩ = some (.int .i64 (L k).r) := hcs k hkn 1 _ rfl
   have c2 : wr.cell? ⟨g, o + k * 6 + 2, none⟩ = some (.bool (L k).lp) := hcs k hkn 2 _ rfl
   have c3 : wr.cell? ⟨g, o + k * 6 + 3, none⟩ = some (.int .i64 (L k).a) := hcs k hkn 3 _ rfl
   have c4 : wr.cell? ⟨g, o + k * 6 + 4, none⟩ = some (.int .i64 (L k).b) := hcs k hkn 4 _ rfl
   have c5 : wr.cell? ⟨g, o + k * 6 + 5, none⟩ = some (.slice (L k).p (L k).n (L k).c) := hcs k hkn 5 _ rfl
   have HCK := Lib.hid (Check_any (L k) (wr.alloc (.cells (L k).cells 50)) ((hS.ok k hkn).old (Old.alloc _ _)))
   have HOa := Lib.hid (HO.out.alloc' (.cells (L k).cells 50))
   have q0 : (0 : Int) ≤ k := by omega
   have q1 : (k : Int) < n := by omega
   clear hS hcs hg HO
   unfold Smp.val Smp.cells at HCK
   unfold Smp.cells at HOa
   go_wp2_with fail
   refine HCK.out.mono ?_
   rintro e w2 ⟨rfl, ho2⟩
   have HO2 := Lib.hid (HOa.out.trans ho2)
   clear ho2 HCK HOa c0 c1 c2 c3 c4 c5
   by_cases hc : (L k).check = 0
   ·have HE2 := Lib.hid ((errTo_next HE.out).trans hc)
    have d : ((L k).check != 0) = false := by simpa using hc
    clear hc HE
    go_wp2_with fail
    go_roundw
    case rel => exact ⟨k + 1, by omega, by go_num, HE2, HO2⟩
    case measure => simp [intOf]; omega
   ·have he := errTo_next HE.out
    have hst := errTo_stays (L := L) (k := k + 1) (n := n) (by rw [he]; exact hc) (by omega)
    have HA := Lib.hid ((allI_err h64 (by rw [hst, he]; exact hc)).trans (hst.trans he))
    have d : ((L k).check != 0) = true := by simpa using hc
    clear hc he hst HE
    go_wp2_with fail
    go_ret
    exact ⟨ret_int HA.out.symm, HO2.out⟩
  ·obtain rfl : k = n := by omega
   have hend : ¬ ((k : Int) < (k : Int)) := by omega
   have HB := Lib.hid (byName_any p k cp L wr (HS.out.old HO.out) hn)
   go_wp2_with fail
   refine HB.out.mono ?_
   rintro e w2 ⟨go, G, rfl, hsr, hc, hge, ho2⟩
   have HSR := Lib.hid hsr
   have HC := Lib.hid hc
   have HO2 := Lib.hid (HO.out.trans ho2)
   clear hsr hc hge ho2 HB HO hend
   obtain ⟨wo, rfl⟩ : ∃ V, V = w2 := ⟨_, rfl⟩
   go_wp2_with fail
   go_loopw [7] (fun iv wr => ∃ i : Nat, 0 < i ∧ (i ≤ k ∨ i = 1) ∧ iv = .int .i64 i ∧ Hid (∀ j, 0 < j → j < i → onm L G (j - 1) ≠ onm L G j) ∧ Hid (∃ d, wr = wo.drewN d)) (fun i _ => k + 1 - (intOf i).toNat)
   case atStart => exact ⟨1, by omega, .inr rfl, by go_num, Lib.hid fun j h1 h2 => by omega, Lib.hid ⟨0, rfl⟩⟩
   case round =>
    obtain ⟨i, h0, hi, rfl, HNE, HD⟩ := hrel
    by_cases hik : i < k
    ·clear hi
     obtain ⟨d, rfl⟩ := HD.out
     clear HD
     obtain ⟨m, hm⟩ : ∃ m : Nat, m = i - 1 := ⟨_, rfl⟩
     have hmk : m < k := by omega
     obtain ⟨x, hx, ex⟩ := srt_bd HSR.out m hmk
     obtain ⟨y, hy, ey⟩ := srt_bd HSR.out i hik
     have cx := HC.out.cell m hmk
     have cy := HC.out.cell i hik
     rw [ex] at cx
     rw [ey] at cy
     obtain ⟨g, o, rfl, hg, hcs⟩ := (HS.out.old HO2.out).cell (by omega)
     have nx : wo.cell? ⟨g, o + x * 6, none⟩ = some (.string (L x).s) := hcs x hx 0 _ rfl
     have ny : wo.cell? ⟨g, o + y * 6, none⟩ = some (.string (L y).s) := hcs y hy 0 _ rfl
     have q1 : (i : Int) < k := by omega
     have q2 : (m : Int) < k := by omega
     have q3 : (x : Int) < k := by omega
     have q4 : (y : Int) < k := by omega
     have hox : onm L G (i - 1) = (L x).s := by unfold onm nmS; rw [← hm, ex, Int.toNat_natCast]
     have hoy : onm L G i = (L y).s := by unfold onm nmS; rw [ey, Int.toNat_natCast]
     have HB1 := Lib.hid (show m ≤ 9223372036854775807 by omega)
     have hmi : (i : Int) - 1 = (m : Int) := by omega
     by_cases he : (L x).s = (L y).s
     ·have HA := Lib.hid (allI_twice h64 HE.out (twice_of HSR.out i h0 hik (by rw [hox, hoy]; exact he)))
      rw [he] at nx
      have de := eqS_eq (L y).s
      clear hcs hg hox hoy he ex ey hm HNE
      obtain ⟨e1, e2⟩ := wrapN (x := (i : Int) - 1) (p := m) hmi HB1.out
      clear hmi
      generalize (L y).s = s at *
      go_wp2_with fail
      go_quiet (fail)
      clear e1 e2
      go_wp2_with fail
      go_ret
      exact ⟨ret_int HA.out.symm, (HO2.out.drewN _).drewN _⟩
     ·have HNE2 := Lib.hid (show ∀ j, 0 < j → j < i + 1 → onm L G (j - 1) ≠ onm L G j from fun j h1 h2 => by
       by_cases e : j = i
       ·subst e; rw [hox, hoy]; exact he
       ·exact HNE.out j h1 (by omega))
      have de := eqS_neq he
      clear hcs hg hox hoy he ex ey hm HNE
      obtain ⟨e1, e2⟩ := wrapN (x := (i : Int) - 1) (p := m) hmi HB1.out
      clear hmi
      generalize (L x).s = s at *
      generalize (L y).s = t at *
      go_wp2_with fail
      go_quiet (fail)
      clear e1 e2
      go_wp2_with fail
      go_roundw
      case rel => exact ⟨i + 1, by omega, .inl (by omega), by go_num, HNE2, Lib.hid ⟨_, rfl⟩⟩
      case measure => simp [intOf]; omega
    ·have hend : ¬ ((i : Int) < (k : Int)) := by omega
     have HA := Lib.hid (allI_ok h64 HE.out (no_twice HSR.out fun j h1 h2 => HNE.out j h1 (by omega)))
     obtain ⟨d, rfl⟩ := HD.out
     clear HNE HD
     go_wp2_with fail
     go_ret
     exact ⟨ret_int HA.out.symm, HO2.out.drewN _⟩
end Go.Proofs.YtanmbhakjfhhdaaGreatDoor
/- slices.Clone at rows of integers and of slices. (printed by wip/tools/wavef.py) -/
namespace Go.Proofs.YtanmbhakjfhhdaaGreatDoor
set_option linter.unusedVariables false
set_option maxRecDepth 100000
open Go.RowKit Go.ChangeShapes Go.WideShapes
end Go.Proofs.YtanmbhakjfhhdaaGreatDoor
/- Package wave's contracts on lists of samples, second part: apart. (by wip/tools/exp.py of XWaveG.src) -/
namespace Go.Proofs.YtanmbhakjfhhdaaGreatDoor
set_option linter.unusedVariables false
set_option maxRecDepth 100000
open Go.RowKit Go.ChangeShapes Go.WideShapes
structure ApR (w W : World) (S : Smp) (z : Array Value) (gc : Nat) (p : Option Addr) (c : Nat) (Q : Nat → Option Addr) (C : Nat → Nat) : Prop where
 st : FewSt w W (S.celled p c Q C) z
 le : S.n ≤ c
 cap : c ≤ maxLen
 hp : 0 < S.n → p = some ⟨gc, 0, none⟩ ∧ gc < W.heap.size
 cell : ∀ i, i < S.n → W.cell? ⟨gc, i, none⟩ = some (.slice (Q i) (S.M i) (C i))
 frz : ∀ i, i < S.n → W.frozen? ⟨gc, i, none⟩ = false
 lo : w.heap.size + 2 ≤ gc
 row : ∀ i, i < S.n → S.M i ≤ C i ∧ C i ≤ maxLen ∧ RdRow W (Q i) (S.M i) (S.X i)
 ne : ∀ i, i < S.n → 0 < S.M i → ∀ a, Q i = some a → a.block ≠ gc ∧ (a.block < w.heap.size ∨ w.heap.size + 2 ≤ a.block)
theorem ApR.old {w W W' : World} {S : Smp} {z : Array Value} {gc : Nat} {p : Option Addr} {c : Nat} {Q : Nat → Option Addr} {C : Nat → Nat} (h : ApR w W S z gc p c Q C) (k : Old W W') : ApR w W' S z gc p c Q C where
 st := h.st.kept (k.kept fun q hq => by have := h.st.lt; omega)
 le := h.le
 cap := h.cap
 hp := fun h0 => ⟨(h.hp h0).1, Nat.lt_of_lt_of_le (h.hp h0).2 k.size⟩
 cell := fun i hi => (k.cell (a := ⟨gc, i, none⟩) (h.hp (by omega)).2).trans (h.cell i hi)
 frz := fun i hi => (Kept.frozen k (a := ⟨gc, i, none⟩) (h.hp (by omega)).2).trans (h.frz i hi)
 lo := h.lo
 row := fun i hi => ⟨(h.row i hi).1, (h.row i hi).2.1, (h.row i hi).2.2.old k⟩
 ne := h.ne
theorem ApR.put {w W : World} {S : Smp} {z : Array Value} {gc : Nat} {p : Option Addr} {c : Nat} {Q : Nat → Option Addr} {C : Nat → Nat} (h : ApR w W S z gc p c Q C) (k : Nat) (hk : k < S.n) (q : Option Addr) (cq : Nat) (h1 : S.M k ≤ cq) (h2 : cq ≤ maxLen) (h3 : RdRow W q (S.M k) (S.X k)) (h4 : ∀ a, q = some a → a.block ≠ gc ∧ w.heap.size + 2 ≤ a.block) :
  ApR w (W.setCell ⟨gc, k, none⟩ (.slice q (S.M k) cq)) S z gc p c (fun i => if i = k then q else Q i) (fun i => if i = k then cq else C i) where
 st := by
  have := h.st.kept (Kept.setCell (X := fun q => q < w.heap.size + 2) W (a := ⟨gc, k, none⟩) (by have := h.lo; simp only; omega) (.slice q (S.M k) cq))
  exact ⟨this.b, this.r, this.old⟩
 le := h.le
 cap := h.cap
 hp := fun h0 => ⟨(h.hp h0).1, by rw [World.size_setCell]; exact (h.hp h0).2⟩
 cell := fun i hi => by
  by_cases e : i = k
  ·subst e; rw [World.cell?_setCell_same _ _ _ (h.cell i hi), if_pos rfl, if_pos rfl]
  ·rw [World.cell?_setCell_other _ _ _ _ (fun e' => e (by injection e' with _ e2; exact e2.symm)), if_neg e, if_neg e]; exact h.cell i hi
 frz := fun i hi => by rw [World.frozen?_setCell]; exact h.frz i hi
 lo := h.lo
 row := fun i hi => by
  have hr : ∀ (q' : Option Addr) (n' : Nat) (X' : Nat → Int), RdRow W q' n' X' → (0 < n' → ∀ a, q' = some a → a.block ≠ gc) → RdRow (W.setCell ⟨gc, k, none⟩ (.slice q (S.M k) cq)) q' n' X' := fun q' n' X' hh hne h0 => by
   obtain ⟨g, o, e1, e2, e3⟩ := hh h0
   refine ⟨g, o, e1, by rw [World.size_setCell]; exact e2, fun j hj => ?_⟩
   rw [World.cell?_setCell_other _ _ _ _ (fun e' => hne h0 _ e1 (by injection e' with e2 _; exact e2.symm))]
   exact e3 j hj
  by_cases e : i = k
  ·subst e; rw [if_pos rfl, if_pos rfl]; exact ⟨h1, h2, hr _ _ _ h3 fun _ a ha => (h4 a ha).1⟩
  ·rw [if_neg e, if_neg e]; exact ⟨(h.row i hi).1, (h.row i hi).2.1, hr _ _ _ (h.row i hi).2.2 fun h0 a ha => (h.ne i hi h0 a ha).1⟩
 ne := fun i hi h0 a ha => by
  by_cases e : i = k
  ·subst e; rw [if_pos rfl] at ha; exact ⟨(h4 a ha).1, .inr (h4 a ha).2⟩
  ·rw [if_neg e] at ha; exact h.ne i hi h0 a ha
def Smp.inX (S : Smp) (X : Nat → Prop) : Prop := (∀ a, 0 < S.n → S.p = some a → X a.block) ∧ ∀ i, i < S.n → 0 < S.M i → ∀ a, S.Q i = some a → X a.block
theorem SmOk.kept {w w' : World} {S : Smp} {X : Nat → Prop} (h : SmOk w S) (k : Kept X w w') (hX : S.inX X) : SmOk w' S where
 size := h.size
 le := h.le
 cap := h.cap
 rows := {
  cell := fun hn => by
   obtain ⟨g, o, h1, h2, h3⟩ := h.rows.cell hn
   exact ⟨g, o, h1, Nat.lt_of_lt_of_le h2 k.size, fun i hi => (k.cell (a := ⟨g, o + i, none⟩) (hX.1 ⟨g, o, none⟩ hn h1)).trans (h3 i hi)⟩
  row := fun i hi => by
   obtain ⟨a, b, c⟩ := h.rows.row i hi
   refine ⟨a, b, fun hm => ?_⟩
   obtain ⟨g, o, h1, h2, h3⟩ := c hm
   exact ⟨g, o, h1, Nat.lt_of_lt_of_le h2 k.size, fun j hj => (k.cell (a := ⟨g, o + j, none⟩) (hX.2 i hi hm ⟨g, o, none⟩ h1)).trans (h3 j hj)⟩ }
theorem Smp.inX.mono {S : Smp} {X Y : Nat → Prop} (h : S.inX X) (k : ∀ q, X q → Y q) : S.inX Y := ⟨fun a h0 ha => k _ (h.1 a h0 ha), fun i hi h0 a ha => k _ (h.2 i hi h0 a ha)⟩
def Smp.like (T S : Smp) : Prop := T.s = S.s ∧ T.r = S.r ∧ T.lp = S.lp ∧ T.a = S.a ∧ T.b = S.b ∧ T.n = S.n ∧ T.M = S.M ∧ T.X = S.X
theorem Smp.like.len {T S : Smp} (h : T.like S) : T.len = S.len := by
 obtain ⟨_, _, _, _, _, h6, h7, _⟩ := h
 unfold Smp.len
 rw [h6, h7]
end Go.Proofs.YtanmbhakjfhhdaaGreatDoor
/- Package wave's contracts on lists of samples, third part: Sort. -/
namespace Go.Proofs.YtanmbhakjfhhdaaGreatDoor
set_option linter.unusedVariables false
set_option maxRecDepth 100000
open Go.RowKit Go.ChangeShapes Go.WideShapes
structure SrW (B : Nat) (W : World) (gs n k : Nat) (Z : Nat → Smp) : Prop where
 lt : gs < W.heap.size
 ge : B ≤ gs
 there : W.there gs 0 (n * 6)
 cell : ∀ i, i < k → ∀ f v, (Z i).cells[f]? = some v → W.cell? ⟨gs, i * 6 + f, none⟩ = some v
 ok : ∀ i, i < k → SmOk W (Z i)
 inx : ∀ i, i < k → (Z i).inX (fun q => gs < q)
theorem SrW.old {B : Nat} {W W' : World} {gs n k : Nat} {Z : Nat → Smp} (h : SrW B W gs n k Z) (o : Old W W') : SrW B W' gs n k Z where
 lt := Nat.lt_of_lt_of_le h.lt o.size
 ge := h.ge
 there := fun j hj => by
  have := h.there j hj
  exact ⟨by rw [o.cell (a := ⟨gs, 0 + j, none⟩) h.lt]; exact this.1, by rw [Kept.frozen o (a := ⟨gs, 0 + j, none⟩) h.lt]; exact this.2⟩
 cell := fun i hi f v hf => (o.cell (a := ⟨gs, i * 6 + f, none⟩) h.lt).trans (h.cell i hi f v hf)
 ok := fun i hi => (h.ok i hi).old o
 inx := h.inx
theorem smp_len (S : Smp) : S.cells.toList.length = 6 := rfl
theorem SrW.put {B : Nat} {W : World} {gs n k : Nat} {Z : Nat → Smp} (h : SrW B W gs n k Z) (hk : k < n) (S : Smp) (hok : SmOk W S) (hin : S.inX (fun q => gs < q)) :
  SrW B (W.setCells gs (k * 6) S.cells.toList) gs n (k + 1) (fun i => if i = k then S else Z i) where
 lt := by rw [setCells_size]; exact h.lt
 ge := h.ge
 there := World.there_setCells h.there _ _ _
 cell := fun i hi f v hf => by
  by_cases e : i = k
  ·subst e
   rw [if_pos rfl] at hf
   have hf6 : f < 6 := by
    rcases Nat.lt_or_ge f 6 with h | h
    ·exact h
    ·rw [Array.getElem?_eq_none (by show 6 ≤ f; exact h)] at hf; cases hf
   have h1 := World.cell?_setCells_in gs S.cells.toList (i * 6) W (fun j hj => by
    have := (h.there (i * 6 + j) (by rw [smp_len] at hj; omega)).1
    rwa [Nat.zero_add] at this) f (by rw [smp_len]; exact hf6)
   rw [h1, ← hf]
   simp
  ·rw [if_neg e] at hf
   rw [World.cell?_setCells_out gs S.cells.toList (k * 6) W ⟨gs, i * 6 + f, none⟩ (fun _ _ => ?_)]
   ·exact h.cell i (by omega) f v hf
   ·have hf6 : f < 6 := by
     rcases Nat.lt_or_ge f 6 with h | h
     ·exact h
     ·rw [Array.getElem?_eq_none (by show 6 ≤ f; exact h)] at hf; cases hf
    rw [smp_len]; show i * 6 + f < k * 6 ∨ k * 6 + 6 ≤ i * 6 + f; omega
 ok := fun i hi => by
  have hK : Kept (fun q => gs < q) W (W.setCells gs (k * 6) S.cells.toList) := Kept.setCells W (by omega) _ _
  by_cases e : i = k
  ·rw [if_pos e]; exact hok.kept hK hin
  ·rw [if_neg e]; exact (h.ok i (by omega)).kept hK (h.inx i (by omega))
 inx := fun i hi => by
  by_cases e : i = k
  ·rw [if_pos e]; exact hin
  ·rw [if_neg e]; exact h.inx i (by omega)
theorem Tryz.info_smp : (Tryz.prog.info? 50).map (fun i => (i.zero, i.size, i.bytes)) = some (some (.agg #[.string ⟨#[]⟩, .int .i64 0, .bool false, .int .i64 0, .int .i64 0, .slice none 0 0]), 6, 72) := by kernel_rfl
end Go.Proofs.YtanmbhakjfhhdaaGreatDoor
