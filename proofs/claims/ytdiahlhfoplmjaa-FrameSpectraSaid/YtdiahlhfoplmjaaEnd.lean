/- A reader of bits: contract of (*bits.Reader).End. -/
import Derived.Test.YtdiahlhfoplmjaaRead
import Derived.Deep.LoopGhost
namespace Go.Proofs.Ytdiahlhfoplmjaa
set_option linter.unusedVariables false
open Go.RowKit Go.ChangeShapes Go.WideShapes

/-- Are all bits from here on noughts? -/
def restF (bs : List Int) (i : Nat) : Bool := ((bitsOf bs).drop i).all (· == false)
/-- What End answers, and the first error behind it. -/
def endTo (bs : List Int) (i : Nat) (er : Int) : Int := if er = 0 then (if restF bs i then 0 else 4) else er

theorem numB_zero (l : List Bool) : numB l = 0 ↔ l.all (· == false) = true := by
  suffices h : ∀ n, ∀ l : List Bool, l.length = n → (numB l = 0 ↔ l.all (· == false) = true) from h _ l rfl
  intro n
  induction n with
  | zero => intro l hl; rw [List.eq_nil_of_length_eq_zero hl]; exact ⟨fun _ => rfl, fun _ => rfl⟩
  | succ n ih =>
    intro l hl
    obtain ⟨l', x, rfl⟩ : ∃ l' x, l = l' ++ [x] := ⟨l.dropLast, l.getLast (fun e => by rw [e] at hl; cases hl), (List.dropLast_concat_getLast _).symm⟩
    have h1 := ih l' (by simpa using hl)
    have h2 := numB_range l'
    rw [numB_snoc, List.all_append, Bool.and_eq_true, ← h1]
    cases x <;> simp [bi] <;> omega
theorem restF_split (bs : List Int) (i k : Nat) : restF bs i = ((nextB bs i k).all (· == false) && restF bs (i + k)) := by
  unfold restF nextB
  rw [← List.drop_drop, ← List.all_append, List.take_append_drop]
theorem restF_end (bs : List Int) : restF bs (8 * bs.length) = true := by
  unfold restF
  rw [List.drop_eq_nil_of_le (by rw [length_bitsOf]; exact Nat.le_refl _)]
  rfl
theorem endTo_zero (bs : List Int) (i k : Nat) (h : numB (nextB bs i k) = 0) : endTo bs (i + k) 0 = endTo bs i 0 := by
  unfold endTo
  rw [restF_split bs i k, (numB_zero _).1 h, Bool.true_and]
theorem endTo_some (bs : List Int) (i k : Nat) (h : numB (nextB bs i k) ≠ 0) (j : Nat) : endTo bs j 4 = endTo bs i 0 := by
  unfold endTo
  have : (nextB bs i k).all (· == false) = false := by
    cases e : (nextB bs i k).all (· == false) with
    | true => exact absurd ((numB_zero _).2 e) h
    | false => rfl
  rw [restF_split bs i k, this]
  simp
theorem endTo_stop (bs : List Int) (j : Nat) (er : Int) (h : er ≠ 0 ∨ j = 8 * bs.length) : endTo bs j er = er := by
  unfold endTo
  by_cases he : er = 0
  · subst he
    rcases h with h | h
    · exact absurd rfl h
    · subst h; simp [restF_end]
  · rw [if_neg he]

theorem Left_kept (b : Nat) (bs : List Int) (at_ : Nat) (er : Int) (w : World) (h : RdAt w b bs at_ er) :
    Calls Try.prog 45 #[.pointer (some ⟨b, 0, none⟩)] w fun en w' => en = .returned (.int .i64 (if er = 0 then ((8 * bs.length - at_ : Nat) : Int) else 0)) ∧ RdAt w' b bs at_ er ∧ Kept (fun _ => True) w w' := by
  refine (Left_any b bs at_ er w h).mono ?_
  rintro e w' ⟨rfl, n, rfl⟩
  exact ⟨rfl, h.kept ((Kept.refl (fun _ => True) w).drewN n) (fun _ _ => trivial), (Kept.refl _ w).drewN n⟩

/-- The state of End's loop: at most g bits are left. -/
def EndR (w : World) (b : Nat) (bs : List Int) (i : Nat) (er : Int) (g : Nat) (wr : World) : Prop :=
  ∃ j er', RdAt wr b bs j er' ∧ Kept (butOf w b) w wr ∧ endTo bs j er' = endTo bs i er ∧ g = (if er' = 0 then 8 * bs.length - j else 0) ∧ j ≤ 8 * bs.length
def EndD (w : World) (b : Nat) (bs : List Int) (r : Int) (e : Ending) (w' : World) : Prop := e = .returned (.int .i64 r) ∧ (∃ j, RdAt w' b bs j r ∧ (r = 0 → j = 8 * bs.length)) ∧ Kept (butOf w b) w w'

set_option maxHeartbeats 1000000 in
theorem End_any (b : Nat) (bs : List Int) (i : Nat) (er : Int) (w : World) (h : RdAt w b bs i er) :
    Calls Try.prog 34 #[.pointer (some ⟨b, 0, none⟩)] w (EndD w b bs (endTo bs i er)) := by
  have hi : i ≤ 8 * bs.length := by obtain ⟨_, _, _, _, _, _, h6⟩ := h; exact h6
  have hst : EndR w b bs i er (if er = 0 then 8 * bs.length - i else 0) w := ⟨i, er, h, Kept.refl _ _, rfl, rfl, hi⟩
  have HST := Lib.hid hst
  clear h hi hst
  go_enter Try.func34, Try.ntmps34
  go_wp2_with fail
  go_loopg [] (if er = 0 then 8 * bs.length - i else 0) (fun g wr => EndR w b bs i er g wr)
  case atStart => exact HST.out
  case round =>
    obtain ⟨j, er', hr, hk, he, hg, hj⟩ := hrel
    have hbl : bs.length ≤ 4294967296 := by obtain ⟨_, _, _, _, _, h5, _⟩ := hr; exact h5
    by_cases hgo : er' = 0 ∧ j < 8 * bs.length
    · obtain ⟨rfl, hlt⟩ := hgo
      rw [if_pos rfl] at hg
      obtain ⟨q, hq⟩ : ∃ q : Nat, q = 8 * bs.length - j := ⟨_, rfl⟩
      have cL := Lib.hid (Left_kept b bs j 0 wr hr)
      rw [if_pos rfl, ← hq] at cL
      have hq0 : 0 < q := by omega
      have hq1 : q ≤ 34359738368 := by omega
      have cL2 := Lib.hid (fun w1 (h1 : RdAt w1 b bs j 0) => (by have := Left_kept b bs j 0 w1 h1; rw [if_pos rfl, ← hq] at this; exact this : Calls Try.prog 45 #[.pointer (some ⟨b, 0, none⟩)] w1 fun en w' => en = .returned (.int .i64 (q : Int)) ∧ RdAt w' b bs j 0 ∧ Kept (fun _ => True) w1 w'))
      have HG := Lib.hid hg; have HE := Lib.hid he; have HK := Lib.hid hk; have HR := Lib.hid hr
      by_cases h57 : q ≤ 57
      case' pos =>
        obtain ⟨k, hk0⟩ : ∃ k : Nat, k = q := ⟨_, rfl⟩
        have cG := Lib.hid (fun w2 (h2 : RdAt w2 b bs j 0) => Get_yes b bs j q w2 (by omega) (by omega) h2)
        rw [← hk0] at cG
        have hkq : k ≤ q := by omega
        have hk1 : 0 < k := by omega
        have hjk : j + k ≤ 8 * bs.length := by omega
        have hge : (q : Int) ≤ 57 := by omega
        rw [hk0] at cG
        have HK0 := Lib.hid hk0
      case' neg =>
        obtain ⟨k, hk0⟩ : ∃ k : Nat, k = 57 := ⟨_, rfl⟩
        have cG := Lib.hid (fun w2 (h2 : RdAt w2 b bs j 0) => (Get_yes b bs j 57 w2 (by omega) (by omega) h2 : Calls Try.prog 43 #[.pointer (some ⟨b, 0, none⟩), .int .i64 57] w2 _))
        have hkq : k ≤ q := by omega
        have hk1 : 0 < k := by omega
        have hjk : j + k ≤ 8 * bs.length := by omega
        have hge : ¬ (q : Int) ≤ 57 := by omega
        have HK0 := Lib.hid hk0
      all_goals
        have HQ := Lib.hid hq
        clear hg hq he hk hr hk0
        go_wp2_with fail
        refine cL.out.mono ?_
        rintro e w1 ⟨rfl, hr1, hk1'⟩
        have HR1 := Lib.hid hr1
        have HK1 := Lib.hid (HK.out.trans (hk1'.mono fun _ _ => trivial))
        clear hr1 hk1' cL HK HR
        go_wp2_with fail
        refine (cL2.out w1 HR1.out).mono ?_
        rintro e w2 ⟨rfl, hr2, hk2'⟩
        have HR2 := Lib.hid hr2
        have HK2 := Lib.hid (HK1.out.trans (hk2'.mono fun _ _ => trivial))
        clear hr2 hk2' cL2 HK1 HR1
        go_wp2_with fail
        refine (cG.out w2 HR2.out).mono ?_
        rintro e w3 ⟨rfl, hr3, hk3'⟩
        rw [← HK0.out] at hr3 ⊢
        have HR3 := Lib.hid hr3
        have HK3 := Lib.hid (HK2.out.trans (hk3'.mono fun q hq => ⟨Nat.lt_of_lt_of_le hq.1 HK2.out.size, hq.2⟩))
        have hz := endTo_zero bs j k
        have hs := endTo_some bs j k
        have HZ := Lib.hid hz; have HS := Lib.hid hs
        clear hr3 hk3' hz hs HK2 HR2 cG
        generalize numB (nextB bs j k) = v at *
        by_cases hv : v = 0
        · subst hv
          have HD := Lib.hid ((HZ.out rfl).trans HE.out)
          clear HZ HS HE
          go_wp2_with fail
          go_roundg (gk - k)
          case measure => have := HG.out; omega
          case rel => exact ⟨j + k, 0, HR3.out, HK3.out, HD.out, by have := HG.out; rw [if_pos rfl]; omega, hjk⟩
        · have HD := Lib.hid ((HS.out hv (j + k)).trans HE.out)
          have hvb : (v != 0) = true := by simpa using hv
          have cF := Lib.hid (Fail_any b bs (j + k) 0 4 w3 HR3.out)
          clear HZ HS HE hv
          go_wp2_with fail
          refine cF.out.mono ?_
          rintro e w4 ⟨rfl, hr4, hk4⟩
          simp only [if_true] at hr4
          have HR4 := Lib.hid hr4
          have HK4 := Lib.hid (HK3.out.trans (hk4.mono fun q hq => ⟨Nat.lt_of_lt_of_le hq.1 HK3.out.size, hq.2⟩))
          clear hr4 hk4
          go_wp2_with fail
          go_roundg 0
          case measure => have := HG.out; omega
          case rel => exact ⟨j + k, 4, HR4.out, HK4.out, HD.out, rfl, hjk⟩
    · have hs := endTo_stop bs j er' (by omega)
      rw [he] at hs
      have cL := Lib.hid (Left_kept b bs j er' wr hr)
      have hz : (if er' = 0 then ((8 * bs.length - j : Nat) : Int) else 0) = 0 := by
        by_cases h0 : er' = 0
        · rw [if_pos h0]; omega
        · rw [if_neg h0]
      rw [hz] at cL
      have hjl : er' = 0 → j = 8 * bs.length := fun h0 => by omega
      have HS := Lib.hid hs; have HJ := Lib.hid hjl; have HK := Lib.hid hk
      clear hr hk he hg hz hjl hs hgo
      go_wp2_with fail
      refine cL.out.mono ?_
      rintro e w1 ⟨rfl, hr1, hk1'⟩
      have cE := Lib.hid (Err_any b bs j er' w1 hr1)
      have HR1 := Lib.hid hr1
      have HK1 := Lib.hid (HK.out.trans (hk1'.mono fun _ _ => trivial))
      clear hr1 hk1' cL HK
      go_wp2_with fail
      refine cE.out.mono ?_
      rintro e w2 ⟨rfl, rfl⟩
      go_wp2_with fail
      go_ret
      rw [HS.out]
      exact ⟨rfl, ⟨j, HR1.out, HJ.out⟩, HK1.out⟩
end Go.Proofs.Ytdiahlhfoplmjaa
