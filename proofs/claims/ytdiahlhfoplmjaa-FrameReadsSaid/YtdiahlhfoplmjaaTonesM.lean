/- Tones that are read: the walk of frame.readTones. -/
import Derived.Test.YtdiahlhfoplmjaaTonesL
namespace Go.Proofs.Ytdiahlhfoplmjaa
set_option linter.unusedVariables false
open Go.RowKit Go.ChangeShapes Go.WideShapes

/-- What a field of k bits tells, and leaves. -/
def WithR (w : World) (b : Nat) (bs : List Int) (er : Int) (L : List Bool) (k : Int) (p : Int) (lo hi : Int) (e : Ending) (w' : World) : Prop :=
  ∃ v er', e = .returned (.int .i64 v) ∧ Kept (butOf w b) w w' ∧ RdP w' b bs er' (L ++ bitsI v k) ∧
      (er' = 0 → er = 0 ∧ lo ≤ v ∧ v ≤ hi) ∧ (0 ≤ v ∧ v ≤ hi) ∧ (∀ v0, er = 0 → lo ≤ v0 → v0 ≤ hi → v0 < p → (L ++ bitsI v0 k) <+: bitsOf bs → er' = 0 ∧ v = v0)
theorem with2 {w : World} {b : Nat} {bs : List Int} {er : Int} {L : List Bool} (h : RdP w b bs er L) (lo hi : Int) (h0 : 0 ≤ hi) (hlo : 0 ≤ lo) :
    Calls Try.prog 31 #[.pointer (some ⟨b, 0, none⟩), .int .i64 2, .int .i64 lo, .int .i64 hi] w (WithR w b bs er L 2 4 lo hi) := with_step h 2 lo hi (by omega) h0 hlo
theorem with4 {w : World} {b : Nat} {bs : List Int} {er : Int} {L : List Bool} (h : RdP w b bs er L) (lo hi : Int) (h0 : 0 ≤ hi) (hlo : 0 ≤ lo) :
    Calls Try.prog 31 #[.pointer (some ⟨b, 0, none⟩), .int .i64 4, .int .i64 lo, .int .i64 hi] w (WithR w b bs er L 4 16 lo hi) := with_step h 4 lo hi (by omega) h0 hlo
theorem with5 {w : World} {b : Nat} {bs : List Int} {er : Int} {L : List Bool} (h : RdP w b bs er L) (lo hi : Int) (h0 : 0 ≤ hi) (hlo : 0 ≤ lo) :
    Calls Try.prog 31 #[.pointer (some ⟨b, 0, none⟩), .int .i64 5, .int .i64 lo, .int .i64 hi] w (WithR w b bs er L 5 32 lo hi) := with_step h 5 lo hi (by omega) h0 hlo
def SgnR (w : World) (b : Nat) (bs : List Int) (er : Int) (L : List Bool) (k : Int) (e : Ending) (w' : World) : Prop :=
  ∃ v er', e = .returned (.int .i64 v) ∧ Kept (butOf w b) w w' ∧ RdP w' b bs er' (L ++ bitsI v k) ∧
      (er' = 0 → er = 0) ∧ fitB v k = true ∧ (∀ v0, er = 0 → validI true v0 k = true → (L ++ bitsI v0 k) <+: bitsOf bs → er' = 0 ∧ v = v0)
theorem sgn24 {w : World} {b : Nat} {bs : List Int} {er : Int} {L : List Bool} (h : RdP w b bs er L) :
    Calls Try.prog 33 #[.pointer (some ⟨b, 0, none⟩), .int .i64 24] w (SgnR w b bs er L 24) := sgn_step h 24 (by omega)

set_option maxRecDepth 100000 in
set_option maxHeartbeats 1000000 in
theorem readTones_any {w : World} {b : Nat} {bs : List Int} {er : Int} {L : List Bool} (h : RdP w b bs er L) :
    Calls Try.prog 32 #[.pointer (some ⟨b, 0, none⟩)] w fun e w' => ∃ n p cap T er', e = .returned (.slice p n cap) ∧ n ≤ 2 ∧ RT w b bs er L n n (.slice p n cap) T er' w' := by
  obtain ⟨i0, hi, hz0, hz1, hz2⟩ := info_parts Try.info_tone
  have HW := Lib.hid (with2 h 0 2 (by omega) (by omega))
  clear h
  go_enter Try.func32, Try.ntmps32
  go_wp2_with fail
  refine HW.out.mono ?_
  rintro e w1 ⟨v, er1, rfl, k1, r1, e1, bv, c1⟩
  obtain ⟨n, rfl⟩ := Int.eq_ofNat_of_zero_le bv.1
  have n2 : n ≤ 2 := by omega
  have hst : RT w b bs er L n 0 (.slice none 0 0) (fun _ => 0) er1 w1 := by
    refine ⟨by rw [tonesE_zero, List.append_nil]; exact r1, ownS.nil _ _ _ _, k1, fun j hj => by omega, fun h0 => ⟨(e1 h0).1, fun j hj => by omega⟩, fun n0 T0 h0 hP hp => ?_⟩
    have hp2 := hP.1
    obtain ⟨d1, d2⟩ := c1 n0 h0 (by omega) (by omega) (by omega) (pre_left hp)
    exact ⟨d1, by omega, fun j hj => by omega⟩
  have HST := Lib.hid hst
  clear k1 r1 e1 bv c1 hst HW
  go_wp2_with fail
  go_loopw [3, 7] (fun l i wr => ∃ k : Nat, k ≤ n ∧ i = .int .i64 k ∧ Hid (∃ T er', RT w b bs er L n k l T er' wr)) (fun _ i _ => n - (intOf i).toNat)
  case atStart => exact ⟨0, by omega, rfl, ⟨_, _, HST.out⟩⟩
  case round =>
    obtain ⟨k, hk, rfl, hs⟩ := hrel
    obtain ⟨wo, rfl⟩ : ∃ V, V = wr := ⟨_, rfl⟩
    clear HST
    by_cases hlt : k < n
    · obtain ⟨T, er2, hrt⟩ := hs.out
      obtain ⟨p, cap, rfl, hkc, hcm, hsl⟩ := hrt.slice
      have hcm' : cap ≤ 9223372036854775807 := by unfold maxLen at hcm; omega
      have hnb : 0 ≤ nextI k T := by
        unfold nextI
        split
        · omega
        · have := (hrt.bd (k - 1) (by omega)).1; omega
      have HNp := Lib.hid (nextPlace_any p k cap T wo hsl (fun h0 => by have := hrt.bd (k - 1) (by omega); omega) (by omega))
      have HW := Lib.hid (with4 hrt.rd (nextI k T) 15 (by omega) hnb)
      have HRT := Lib.hid hrt
      clear hs hrt hsl hnb hcm
      go_wp2_with fail
      refine HNp.out.mono ?_
      rintro e w2 ⟨rfl, rfl⟩
      go_wp2_with fail
      refine HW.out.mono ?_
      rintro e w3 ⟨x, er3, rfl, k3, r3, e3, bx, c3⟩
      have HSg := Lib.hid (sgn24 r3)
      have K3 := Lib.hid k3
      have E3 := Lib.hid e3
      have C3 := Lib.hid c3
      have BX := Lib.hid bx
      clear k3 r3 e3 c3 bx HW HNp
      go_wp2_with fail
      refine HSg.out.mono ?_
      rintro e w4 ⟨y, er4, rfl, k4, r4, e4, fy, c4⟩
      have HN := Lib.hid (fun v' w5 o ho k5 hv' => HRT.out.next (w3 := w5) (v' := v') (o := o) hlt n2 K3.out E3.out BX.out C3.out k4 r4 e4 fy c4 ho k5 hv')
      have hown : ownS (fun q => q < w4.heap.size ∧ (Value.slice p k cap).ownBlock ≠ some q) w4 44 2 (.slice p k cap) k (rowL (2 * k) T) := by
        have h0 := HRT.out.own
        have hb : ∀ q, (Value.slice p k cap).ownBlock = some q → q ≠ b := by
          intro q hq
          obtain ⟨i, hr, _⟩ := HRT.out.rd
          rcases h0.1.2 with ⟨hv, _⟩ | ⟨g, cap', cur, hv, _, hh, _⟩
          · rw [hv] at hq; cases hq
          · have : g = q := by rw [hv] at hq; simpa [Value.ownBlock] using hq
            subst this
            exact hr.ne hh (by decide)
        have h1 := (h0.kept K3.out fun q hq => ⟨h0.lt q hq, hb q hq⟩).kept k4 fun q hq => ⟨Nat.lt_of_lt_of_le (h0.lt q hq) K3.out.size, hb q hq⟩
        exact h1.mono fun q hq hh => hh.2 hq
      have HXA : Hid (∀ (o : Obj) (q : Nat), q < w4.heap.size ∧ (Value.slice p k cap).ownBlock ≠ some q → q < (w4.alloc o).heap.size) := Lib.hid fun o q hq => by simp; omega
      have hk2 : k ≤ 2 := by omega
      clear k4 r4 e4 fy c4 HSg K3 E3 C3 BX HRT
      go_wp2_with ((at_builtin; refine append_S _ rfl _ _ 23 rfl (fun q => q < w4.heap.size ∧ (Value.slice p k cap).ownBlock ≠ some q) 44 i0 (.agg #[.int .i64 0, .int .i64 0]) 2 16 Try.underlying23 hi hz0 hz1 hz2 rfl (by decide) _ _ _ rfl (hown.old (Old.alloc _ _)) ⟨_, 0, none⟩ 1 1 [.int .i64 x, .int .i64 y] rfl rfl (news_two _ _ _ _) (two_oneCell _ _) (by unfold maxLen; omega) (by omega) (HXA.out _) ?_; intro v' w5 hown5 hk5 hv5; have hn5 := Lib.hid (HN.out v' w5 _ hown5 hk5 hv5); clear hown hown5 hk5 hv5 HN))
      go_roundw
      case rel => exact ⟨k + 1, by omega, by go_num, ⟨_, _, hn5.out⟩⟩
      case measure => simp [intOf]; omega
    · obtain rfl : k = n := by omega
      obtain ⟨T, er2, hrt⟩ := hs.out
      obtain ⟨p, cap, rfl, _, _, _⟩ := hrt.slice
      have HRT := Lib.hid hrt
      clear hs hrt
      go_wp2_with fail
      go_ret
      exact ⟨k, p, cap, T, er2, rfl, n2, HRT.out⟩
end Go.Proofs.Ytdiahlhfoplmjaa
