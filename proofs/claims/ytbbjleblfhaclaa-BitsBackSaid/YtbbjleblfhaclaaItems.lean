/- The law's own bits: contracts of calliopelaw01.laid, lay. -/
import Derived.Test.YtbbjleblfhaclaaMany
import Derived.Laws.MakeOwn
namespace Go.Proofs.Ytbbjleblfhaclaa
set_option linter.unusedVariables false
open Go.RowKit

def validI (s : Bool) (v k : Int) : Bool := decide (0 ≤ k ∧ k ≤ 57) && (if s then fitB v k else decide (0 ≤ v ∧ v < pw k.toNat))
def bitsI (v k : Int) : List Bool := bitsN (if v < 0 then v + pw k.toNat else v) k.toNat

theorem Try.info4 : (Try.prog.info? 4).map (fun i => (i.zero, i.size, i.bytes)) = some (some (.bool false), 1, 1) := by kernel_rfl

set_option maxHeartbeats 1000000 in
theorem laid_no (s : Bool) (v k : Int) (w : World) (h : validI s v k = false) :
    Calls Try.prog 11 #[.agg #[.bool s, .int .i64 v, .int .i64 k]] w fun e w' => e = .returned (.tuple #[.slice none 0 0, .bool false]) ∧ Old w w' := by
  have hO : Old w (w.alloc (.cells #[.bool s, .int .i64 v, .int .i64 k] 34)) := Old.below ((Below.refl _ _).alloc (Nat.le_refl _) _)
  have HO := Lib.hid hO
  clear hO
  by_cases hk0 : k < 0
  · clear h
    go_enter Try.func11, Try.ntmps11
    go_wp2_with fail
    go_ret2
    exact ⟨rfl, HO.out⟩
  · by_cases hk1 : 57 < k
    · clear h
      go_enter Try.func11, Try.ntmps11
      go_wp2_with fail
      go_ret2
      exact ⟨rfl, HO.out⟩
    · have hd : decide (0 ≤ k ∧ k ≤ 57) = true := by simp; omega
      have hp := pw_pos k.toNat
      have hq := pw_le k.toNat (by omega)
      cases s with
      | true =>
        have hf : fitB v k = false := by simpa [validI, hd] using h
        have HF := Lib.hid hf
        clear h hf hd
        go_enter Try.func11, Try.ntmps11
        go_wp2_with fail
        go_quiet ((go_at_call 9; exact Calls.quiet_of_same ((fits_any v k _).mono fun _ _ hh => ⟨by rw [hh.1, HF.out], hh.2.symm⟩)))
        go_wp2_with fail
        go_ret2
        exact ⟨rfl, HO.out.drewN _⟩
      | false =>
        have hf : ¬ (0 ≤ v ∧ v < pw k.toNat) := by simpa [validI, hd] using h
        have hc := Lib.hid (fun w' => power_any k w' (by omega) (by omega))
        generalize pw k.toNat = q at *
        clear h hd
        by_cases hv : v < 0
        · clear hf
          go_enter Try.func11, Try.ntmps11
          go_wp2_with fail
          go_quiet (fail)
          go_wp2_with fail
          go_ret2
          exact ⟨rfl, HO.out.drewN _⟩
        · have hvq : q ≤ v := by omega
          clear hf
          go_enter Try.func11, Try.ntmps11
          go_wp2_with fail
          go_quiet ((go_at_call 22; exact Calls.quiet_of_same ((hc.out _).mono fun _ _ hh => ⟨hh.1, hh.2.symm⟩)))
          go_wp2_with fail
          go_ret2
          exact ⟨rfl, HO.out.drewN _⟩

/-- After j bits of x. -/
def BitsR (w : World) (B : Nat) (x : Int) (k j : Nat) (vb : Value) (wr : World) : Prop := wr.ownsRow B 4 1 vb j (((bitsN x k).take j).map Value.bool) ∧ Old w wr ∧ B ≤ wr.heap.size ∧ w.heap.size ≤ B

theorem bits_next {w : World} {B k j : Nat} {x : Int} {vb vb' : Value} {wr w1 : World} {o : Obj} (hj : j < k) (h : BitsR w B x k j vb wr)
    (h1 : w1.ownsRow B 4 1 vb' (j + 1) (((bitsN x k).take j).map Value.bool ++ [.bool (x / pw (k - 1 - j) % 2 == 1)])) (h2 : (wr.alloc o).grownBy w1 vb.ownBlock) : BitsR w B x k (j + 1) vb' w1 := by
  obtain ⟨ho, hO, hB, hwB⟩ := h
  refine ⟨?_, ?_, ?_, hwB⟩
  · rw [bitsN_take_succ _ _ _ hj, List.map_append]; exact h1
  · exact hO.after ((Kept.alloc wr o (X := fun k => k < w.heap.size) (fun k hk => by omega)).trans (Kept.grown h2 (fun k hk => by simp; omega) (fun q hq hk => by have := (ho.lt q hq).1; omega))) (fun k hk => hk)
  · have := h2.size; simp at this; omega

theorem bitsR_drewN {w : World} {B k j : Nat} {x : Int} {vb : Value} {wr : World} (h : BitsR w B x k j vb wr) (n : Nat) : BitsR w B x k j vb (wr.drewN n) := ⟨h.1, h.2.1.drewN n, h.2.2.1, h.2.2.2⟩
theorem own_out {w wr : World} {B t n : Nat} {v : Value} {xs : List Value} (h : wr.ownsRow B t 1 v n xs) (hB : w.heap.size ≤ B) : ownX (fun q => q < w.heap.size) wr t v n xs :=
  ⟨ownsRow_zero h, fun q hq hh => by have := (h.lt q hq).1; omega⟩
theorem one_bool (b : Bool) : ∀ u ∈ [Value.bool b], u.oneCell' = true := by
  intro u hu
  simp only [List.mem_singleton] at hu
  subst hu
  rfl

set_option maxHeartbeats 1000000 in
theorem laid_yes (s : Bool) (v k : Int) (w : World) (h : validI s v k = true) :
    Calls Try.prog 11 #[.agg #[.bool s, .int .i64 v, .int .i64 k]] w fun e w' => ∃ vb, e = .returned (.tuple #[vb, .bool true]) ∧ ownX (fun q => q < w.heap.size) w' 4 vb k.toNat ((bitsI v k).map Value.bool) ∧ Old w w' := by
  simp only [validI, Bool.and_eq_true, decide_eq_true_eq] at h
  obtain ⟨⟨hk0, hk1⟩, hs⟩ := h
  have hp := pw_pos k.toNat
  have hq := pw_le k.toNat (by omega)
  have hx : 0 ≤ (if v < 0 then v + pw k.toNat else v) ∧ (if v < 0 then v + pw k.toNat else v) ≤ 4611686018427387904 ∧ (s = false → 0 ≤ v ∧ v < pw k.toNat) ∧ -4611686018427387904 ≤ v ∧ v ≤ 4611686018427387904 ∧ 0 ≤ v + pw k.toNat := by
    cases s with
    | false =>
      simp only [Bool.false_eq_true, if_false, decide_eq_true_eq] at hs
      rw [if_neg (by omega)]
      exact ⟨by omega, by omega, fun _ => hs, by omega, by omega, by omega⟩
    | true =>
      simp only [if_true] at hs
      by_cases h0 : k ≤ 0
      · rw [fitB_neg v k h0, beq_iff_eq] at hs
        subst hs
        rw [if_neg (by omega)]
        exact ⟨by omega, by omega, (fun h => by cases h), by omega, by omega, by omega⟩
      · rw [fitB_mid v k (by omega) (by omega), decide_eq_true_eq] at hs
        have hm := pw_succ (k - 1).toNat
        rw [show (k - 1).toNat + 1 = k.toNat by omega] at hm
        by_cases hv : v < 0
        · rw [if_pos hv]; exact ⟨by omega, by omega, (fun h => by cases h), by omega, by omega, by omega⟩
        · rw [if_neg hv]; exact ⟨by omega, by omega, (fun h => by cases h), by omega, by omega, by omega⟩
  obtain ⟨hx0, hx1, hsf, hv0, hv1, hvk⟩ := hx
  have hc := Lib.hid (fun w' => power_any k w' (by omega) (by omega))
  have hst : BitsR w (w.heap.size + 1) (if v < 0 then v + pw k.toNat else v) k.toNat 0 (.slice none 0 0) (w.alloc (.cells #[.bool s, .int .i64 v, .int .i64 k] 34)) :=
    ⟨by simpa using World.ownsRow_nil _ _ _ _, Old.below ((Below.refl _ _).alloc (Nat.le_refl _) _), by simp, by omega⟩
  unfold bitsI
  obtain ⟨i0, hi, hz0, hz1, hz2⟩ := info_parts Try.info4
  obtain ⟨n, rfl⟩ := Int.eq_ofNat_of_zero_le hk0
  simp only [Int.toNat_natCast] at *
  have hn57 : n ≤ 57 := by omega
  by_cases hv : v < 0
  case' pos =>
    rw [if_pos hv] at hst hx0 hx1 ⊢
    obtain rfl : s = true := by
      cases s with
      | true => rfl
      | false => have := hsf rfl; omega
    have hf := Lib.hid (show fitB v (n : Int) = true from by simpa using hs)
    have HST := Lib.hid hst
    clear hst hs hsf
    generalize pw n = q at *
    obtain ⟨x, hX⟩ : ∃ x, v + q = x := ⟨_, rfl⟩
    rw [hX] at HST hx0 hx1 ⊢
    have HX := Lib.hid hX
    clear hX
    go_enter Try.func11, Try.ntmps11
    go_wp2_with fail
    go_quiet ((go_at_call 9; exact Calls.quiet_of_same ((fits_any v n _).mono fun _ _ hh => ⟨by rw [hh.1, hf.out], hh.2.symm⟩)))
    go_wp2_with fail
    refine (hc.out _).mono ?_
    rintro e w' ⟨rfl, rfl⟩
    go_wp2_with fail
    rw [HX.out]
  case' neg =>
    rw [if_neg hv] at hst hx0 hx1 ⊢
    generalize v = x at *
    have HST := Lib.hid hst
    clear hst
    cases s
    case' false =>
      have hsf' := hsf rfl
      have hlt : x < pw n := by omega
      clear hs hsf hsf'
      generalize pw n = q at *
      go_enter Try.func11, Try.ntmps11
      go_wp2_with fail
      go_quiet ((go_at_call 22; exact Calls.quiet_of_same ((hc.out _).mono fun _ _ hh => ⟨hh.1, hh.2.symm⟩)))
      go_wp2_with fail
    case' true =>
      have hf := Lib.hid (show fitB x (n : Int) = true from by simpa using hs)
      clear hs hsf
      generalize pw n = q at *
      go_enter Try.func11, Try.ntmps11
      go_wp2_with fail
      go_quiet ((go_at_call 9; exact Calls.quiet_of_same ((fits_any x n _).mono fun _ _ hh => ⟨by rw [hh.1, hf.out], hh.2.symm⟩)))
      go_wp2_with fail
  all_goals
    go_loopw [5, 6] (fun vb vi wr => ∃ j : Nat, j ≤ n ∧ vi = .int .i64 ((n : Int) - 1 - j) ∧ BitsR w (w.heap.size + 1) x n j vb wr) (fun _ vi _ => (intOf vi + 1).toNat)
    case atStart => exact ⟨0, by omega, by congr 1; omega, bitsR_drewN HST.out _⟩
    case round =>
      obtain ⟨j, hj, rfl, hbr⟩ := hrel
      by_cases hlt : j < n
      · have hown := hbr.1
        have hBs := hbr.2.2.1
        have HB := Lib.hid hbr
        have hp2 := pw_pos (n - 1 - j)
        have hcp := Lib.hid (fun w' => power_any ((n : Int) - 1 - j) w' (by omega) (by omega))
        rw [show ((n : Int) - 1 - j).toNat = n - 1 - j by omega] at hcp
        have hnx := Lib.hid (fun v' w1 o h1 h2 => bits_next (w := w) (B := w.heap.size + 1) (x := x) (vb' := v') (w1 := w1) (o := o) hlt hbr h1 h2)
        clear hbr
        generalize pw (n - 1 - j) = q2 at *
        have hxq : 0 ≤ x / q2 := Int.ediv_nonneg hx0 (by omega)
        go_wp2_with (first | (go_at_call 22; refine (hcp.out _).mono ?_; rintro e w' ⟨rfl, rfl⟩) | (at_builtin; refine wpList_append_own _ rfl _ _ 30 rfl (w.heap.size + 1) 4 i0 (.bool false) 1 1 Try.underlying30 hi hz0 hz1 hz2 rfl (by decide) _ _ _ rfl (hown.alloc _) ⟨_, 0, none⟩ 1 1 [.bool (x / q2 % 2 == 1)] rfl rfl (news_one _ _ _) (one_bool _) (by unfold maxLen; omega) (by omega) (by simp; omega) ?_; intro v' w1 hown1 hgrow1 _; have hbr1 := Lib.hid (hnx.out v' w1 _ hown1 hgrow1); clear hown hown1 hgrow1))
        go_roundw
        case rel => exact ⟨j + 1, by omega, by congr 1; omega, hbr1.out⟩
        case measure => simp [intOf]; omega
      · obtain rfl : j = n := by omega
        have hend := hbr.1
        rw [List.take_of_length_le (by rw [length_bitsN]; omega)] at hend
        have HE := Lib.hid (own_out (w := w) hend (by omega))
        have HO := Lib.hid hbr.2.1
        clear hend hbr
        go_wp2
        go_ret2
        exact ⟨_, rfl, HE.out, HO.out⟩
end Go.Proofs.Ytbbjleblfhaclaa
