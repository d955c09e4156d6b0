/- The document's reader: contract of its end. Both readers side by side. -/
import Derived.Test.YtbbjleblfhaclaaPlain
namespace Go.Proofs.Ytbbjleblfhaclaa
set_option linter.unusedVariables false
open Go.RowKit Go.ChangeShapes Go.WideShapes

/-- What end answers. -/
def pendTo (l : List Bool) (er : Int) : Int := if er = 0 then (if l.all (· == false) then 0 else 4) else er
theorem pendTo_nil (er : Int) : pendTo [] er = er := by unfold pendTo; by_cases h : er = 0 <;> simp [h]
theorem pendTo_snoc (l : List Bool) (x : Bool) (er : Int) : pendTo (l ++ [x]) er = if pendTo l er = 0 ∧ x = true then 4 else pendTo l er := by
  unfold pendTo
  rw [List.all_append]
  by_cases h : er = 0
  · subst h
    cases l.all (· == false) <;> cases x <;> simp
  · simp [h]
theorem pendTo_take (l : List Bool) (j : Nat) (er : Int) (h : j < l.length) : pendTo (l.take (j + 1)) er = if pendTo (l.take j) er = 0 ∧ l.getD j false = true then 4 else pendTo (l.take j) er := by
  rw [List.take_succ_eq_append_getElem h, pendTo_snoc]
  simp [List.getD, h]

def PeR (w : World) (b : Nat) (p : Option Addr) (n cap : Nat) (e : Int) (wr : World) : Prop :=
  wr.heap[b]? = some (.cells #[.slice p n cap, .int .i64 e] 52 (0, 0)) ∧ Kept (butOf w b) w wr
theorem PeR.next {w wr : World} {b : Nat} {p : Option Addr} {n cap : Nat} {e e' : Int} (h : PeR w b p n cap e wr) : PeR w b p n cap e' (wr.setCell ⟨b, 1, none⟩ (.int .i64 e')) :=
  ⟨heap_setCell_at (o := 1) (u := .int .i64 e') h.1, h.2.trans (Kept.setCell _ (a := ⟨b, 1, none⟩) (fun h => h.2 rfl) _)⟩
theorem PeR.done {w wr : World} {b : Nat} {p : Option Addr} {n cap : Nat} {e : Int} (h : PeR w b p n cap e wr) : PlAt (wr.setCell ⟨b, 0, none⟩ (.slice none 0 0)) b [] e ∧ Kept (butOf w b) w (wr.setCell ⟨b, 0, none⟩ (.slice none 0 0)) :=
  ⟨⟨_, heap_setCell_at (o := 0) (u := .slice none 0 0) h.1, ⟨none, 0, rfl, fun h => absurd rfl h⟩, (fun q hq => by cases hq), by simp⟩, h.2.trans (Kept.setCell _ (a := ⟨b, 0, none⟩) (fun h => h.2 rfl) _)⟩

set_option maxHeartbeats 1000000 in
theorem pend_any (b : Nat) (l : List Bool) (er : Int) (w : World) (h : PlAt w b l er) :
    Calls Try.prog 26 #[.pointer (some ⟨b, 0, none⟩)] w fun en w' => en = .returned (.int .i64 (pendTo l er)) ∧ PlAt w' b [] (pendTo l er) ∧ Kept (butOf w b) w w' := by
  obtain ⟨v, hb, hs, hne, hl⟩ := h
  obtain ⟨p, n, cap, rfl⟩ : ∃ p n cap, v = .slice p n cap := by obtain ⟨p, cap, rfl, _⟩ := hs; exact ⟨_, _, _, rfl⟩
  obtain ⟨hn, hcell⟩ := bool_cell hs
  have hcell' : 0 < n → ∃ g off, p = some ⟨g, off, none⟩ ∧ ∀ j, j < n → ∀ wr, Kept (butOf w b) w wr → wr.cell? ⟨g, off + j, none⟩ = some (.bool (l.getD j false)) := by
    intro h0
    obtain ⟨g, off, rfl, hc⟩ := hcell h0
    obtain ⟨p', n', cap', e, _, hlt⟩ := hs.shape
    simp only [Value.slice.injEq] at e
    obtain ⟨rfl, rfl, rfl⟩ := e
    obtain ⟨g', off', e, hg, _⟩ := hlt h0
    simp only [Option.some.injEq, Addr.mk.injEq] at e
    obtain ⟨rfl, _, _⟩ := e
    refine ⟨g, off, rfl, fun j hj wr hk => (hk.cell (a := ⟨g, off + j, none⟩) ⟨hg, hne g rfl⟩).trans (hc j hj)⟩
  have hst : PeR w b p n cap (pendTo (l.take 0) er) w := ⟨by rw [List.take_zero, pendTo_nil]; exact hb, Kept.refl _ _⟩
  have HST := Lib.hid hst; have HC := Lib.hid hcell'; have HN := Lib.hid hn
  have hn1 : n ≤ 1600 := by omega
  clear hb hs hne hl hcell hcell' hst hn
  go_enter Try.func26, Try.ntmps26
  go_wp2_with fail
  go_loopw [3] (fun vi wr => ∃ j : Nat, j ≤ n ∧ vi = .int .i64 j ∧ PeR w b p n cap (pendTo (l.take j) er) wr) (fun vi _ => n - (intOf vi).toNat)
  case atStart => exact ⟨0, by omega, rfl, HST.out⟩
  case round =>
    obtain ⟨j, hj, rfl, hR⟩ := hrel
    obtain ⟨c0, c1, f0, f1⟩ := cell2 hR.1
    by_cases hlt : j < n
    · obtain ⟨g, off, rfl, hc⟩ := HC.out (by omega)
      have hcj := hc j hlt wr hR.2
      have HT := Lib.hid (pendTo_take l j er (by have := HN.out; omega))
      have HR := Lib.hid hR
      clear hR hc
      generalize pendTo (l.take j) er = y at *
      generalize l.getD j false = x at *
      by_cases hy : y = 0
      · subst hy
        cases x with
        | true =>
          have HR' := Lib.hid (HR.out.next (e' := 4))
          have ht := HT.out
          simp only [and_self, if_true] at ht
          have HT' := Lib.hid ht
          clear ht HT HR
          go_wp2
          go_roundw
          case rel => exact ⟨j + 1, by omega, by go_num, by rw [HT'.out]; exact HR'.out⟩
          case measure => simp [intOf]; omega
        | false =>
          have ht := HT.out
          simp only [and_false, if_false, Bool.false_eq_true] at ht
          have HT' := Lib.hid ht
          clear ht HT
          go_wp2
          go_roundw
          case rel => exact ⟨j + 1, by omega, by go_num, by rw [HT'.out]; exact HR.out⟩
          case measure => simp [intOf]; omega
      · have hyb : (y == 0) = false := by simpa using hy
        have ht := HT.out
        rw [if_neg (fun h => hy h.1)] at ht
        have HT' := Lib.hid ht
        clear ht HT hy
        go_wp2
        go_roundw
        case rel => exact ⟨j + 1, by omega, by go_num, by rw [HT'.out]; exact HR.out⟩
        case measure => simp [intOf]; omega
    · have hjl : l.length ≤ j := by have := HN.out; omega
      rw [List.take_of_length_le hjl] at hR c1
      have HR := Lib.hid hR.done
      clear hR hjl
      go_wp2_with fail
      go_ret
      exact ⟨rfl, HR.out⟩

/-- The reader at br and the document's at bp say the same of what is left. -/
def Both (w : World) (br bp : Nat) (bs : List Int) : Prop :=
  ∃ i l er, RdAt w br bs i er ∧ PlAt w bp l er ∧ (er = 0 → l = (bitsOf bs).drop i)
theorem get_both (bs : List Int) (i : Nat) (l : List Bool) (er k : Int) (h : er = 0 → l = (bitsOf bs).drop i) (hi : i ≤ 8 * bs.length) :
    (getTo bs i er k).1 = (pgetTo l er k).1 ∧ (getTo bs i er k).2.2 = (pgetTo l er k).2.2 ∧ ((pgetTo l er k).2.2 = 0 → (pgetTo l er k).2.1 = (bitsOf bs).drop (getTo bs i er k).2.1) := by
  by_cases her : er = 0
  · subst her
    have hl := h rfl
    have hll : l.length = 8 * bs.length - i := by rw [hl, List.length_drop, length_bitsOf]
    unfold getTo pgetTo
    by_cases hk : k < 0 ∨ 57 < k
    · simp [hk]
    · by_cases hs : ((8 * bs.length - i : Nat) : Int) < k
      · have : (l.length : Int) < k := by rw [hll]; exact hs
        simp [hk, hs, this]
      · have : ¬ (l.length : Int) < k := by rw [hll]; exact hs
        rw [if_neg hk, if_neg (by simp), if_neg hs, if_neg (by simp), if_neg hk, if_neg this, hl]
        exact ⟨rfl, rfl, fun _ => by rw [List.drop_drop]⟩
  · have e1 : (getTo bs i er k).1 = 0 ∧ (getTo bs i er k).2.2 = er := by
      unfold getTo
      by_cases hk : k < 0 ∨ 57 < k
      · simp [hk, her]
      · simp [hk, her]
    have e2 : pgetTo l er k = (0, l, er) := by unfold pgetTo; rw [if_pos her]
    rw [e2]
    exact ⟨e1.1, e1.2, fun h => absurd h her⟩
theorem getTo_le (bs : List Int) (i : Nat) (er k : Int) (hi : i ≤ 8 * bs.length) : (getTo bs i er k).2.1 ≤ 8 * bs.length := by
  unfold getTo
  split
  · exact hi
  · split
    · exact hi
    · split
      · exact hi
      · simp only []; omega
theorem sgn_both (bs : List Int) (i : Nat) (l : List Bool) (er k : Int) (h : er = 0 → l = (bitsOf bs).drop i) (hi : i ≤ 8 * bs.length) : sgnTo bs i er k = psgnTo l er k := by
  have hb := get_both bs i l er k h hi
  have hr := getTo_range bs i er k hi
  have hr2 := pgetTo_range l er k
  unfold sgnTo psgnTo
  rw [← hb.1]
  have hz : (pgetTo l er k).2.2 ≠ 0 → (getTo bs i er k).1 = 0 := by
    intro hne
    rw [hb.1]
    unfold pgetTo at hne ⊢
    split
    · rfl
    · split
      · rfl
      · split
        · rfl
        · rename_i h1 h2 h3; simp [h1, h2, h3] at hne
  by_cases he : (pgetTo l er k).2.2 = 0
  · obtain ⟨k0, k57⟩ := hr2.2.2 he
    by_cases hk : k < 1
    · rw [if_neg (by omega), if_pos (.inr hk)]
      obtain rfl : k = 0 := by omega
      rw [hb.1]
      unfold pgetTo at he ⊢
      split
      · rfl
      · split
        · rfl
        · split
          · rfl
          · simp [numB]
    · rw [if_neg (show ¬ ((pgetTo l er k).2.2 ≠ 0 ∨ k < 1) by omega)]
      have hv : (getTo bs i er k).1 < pw k.toNat := by
        rw [hb.1]
        unfold pgetTo at he ⊢
        split
        · have := pw_pos k.toNat; simp only []; omega
        · split
          · have := pw_pos k.toNat; simp only []; omega
          · split
            · have := pw_pos k.toNat; simp only []; omega
            · have := numB_range (l.take k.toNat)
              rw [List.length_take, Nat.min_eq_left (by omega)] at this
              exact this.2
      have h2 : pw k.toNat = 2 * pw (k.toNat - 1) := by rw [← pw_succ]; congr 1; omega
      have hp := pw_pos (k.toNat - 1)
      generalize (getTo bs i er k).1 = g at *
      have e : (2 : Int) ^ (k.toNat - 1) = pw (k.toNat - 1) := rfl
      rw [e]
      generalize pw (k.toNat - 1) = q at *
      by_cases hq : q ≤ g
      · rw [if_pos hq, if_pos ⟨by omega, by rw [Int.ediv_eq_iff_of_pos (by omega)]; omega⟩]
      · rw [if_neg hq, if_neg (fun hh => by have := Int.ediv_eq_zero_of_lt (by omega : 0 ≤ g) (by omega : g < q); omega)]
  · rw [if_pos (Or.inl he), hz he, if_neg (by simp)]
theorem end_both (bs : List Int) (i : Nat) (l : List Bool) (er : Int) (h : er = 0 → l = (bitsOf bs).drop i) : endTo bs i er = pendTo l er := by
  unfold endTo pendTo restF
  by_cases her : er = 0
  · rw [if_pos her, if_pos her, h her]
  · rw [if_neg her, if_neg her]
end Go.Proofs.Ytbbjleblfhaclaa
