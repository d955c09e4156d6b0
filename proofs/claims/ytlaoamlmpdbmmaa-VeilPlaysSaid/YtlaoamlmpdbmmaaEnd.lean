/- A reader of bits: contract of (*bits.Reader).End. -/
import Derived.Test.YtlaoamlmpdbmmaaRead
import Derived.Deep.LoopGhost
namespace Go.Proofs.Ytlaoamlmpdbmmaa
set_option linter.unusedVariables false
set_option maxRecDepth 100000
open Go.RowKit Go.ChangeShapes Go.WideShapes

/-- Are all bits from here on noughts? -/
def restF (bs : List Int) (i : Nat) : Bool := ((bitsOf bs).drop i).all (· == false)
/-- What End answers, and the first error behind it. -/
def endTo (bs : List Int) (i : Nat) (er : Int) : Int := if er = 0 then (if restF bs i then 0 else 4) else er

theorem numB_zero (l : List Bool) : numB l = 0 ↔ l.all (· == false) = true := by
  suffices h : ∀ n, ∀ l : List Bool, l.length = n → (numB l = 0 ↔ l.all (· == false) = true) from h _ l rfl
  intro n
  induction n with
  | zero => intro l hl; rw [List.eq_nil_of_length_eq_zero hl]; exact ⟨fun _ => rfl, fun _ => rfl⟩
  | succ n ih =>
    intro l hl
    obtain ⟨l', x, rfl⟩ : ∃ l' x, l = l' ++ [x] := ⟨l.dropLast, l.getLast (fun e => by rw [e] at hl; cases hl), (List.dropLast_concat_getLast _).symm⟩
    have h1 := ih l' (by simpa using hl)
    have h2 := numB_range l'
    rw [numB_snoc, List.all_append, Bool.and_eq_true, ← h1]
    cases x <;> simp [bi] <;> omega
theorem restF_split (bs : List Int) (i k : Nat) : restF bs i = ((nextB bs i k).all (· == false) && restF bs (i + k)) := by
  unfold restF nextB
  rw [← List.drop_drop, ← List.all_append, List.take_append_drop]
theorem restF_end (bs : List Int) : restF bs (8 * bs.length) = true := by
  unfold restF
  rw [List.drop_eq_nil_of_le (by rw [length_bitsOf]; exact Nat.le_refl _)]
  rfl
theorem endTo_zero (bs : List Int) (i k : Nat) (h : numB (nextB bs i k) = 0) : endTo bs (i + k) 0 = endTo bs i 0 := by
  unfold endTo
  rw [restF_split bs i k, (numB_zero _).1 h, Bool.true_and]
theorem endTo_some (bs : List Int) (i k : Nat) (h : numB (nextB bs i k) ≠ 0) (j : Nat) : endTo bs j 4 = endTo bs i 0 := by
  unfold endTo
  have : (nextB bs i k).all (· == false) = false := by
    cases e : (nextB bs i k).all (· == false) with
    | true => exact absurd ((numB_zero _).2 e) h
    | false => rfl
  rw [restF_split bs i k, this]
  simp
theorem endTo_stop (bs : List Int) (j : Nat) (er : Int) (h : er ≠ 0 ∨ j = 8 * bs.length) : endTo bs j er = er := by
  unfold endTo
  by_cases he : er = 0
  · subst he
    rcases h with h | h
    · exact absurd rfl h
    · subst h; simp [restF_end]
  · rw [if_neg he]



end Go.Proofs.Ytlaoamlmpdbmmaa
