/- The search for a frame that has room, told in numbers. No program. -/
import Derived.Test.YtcepfbflgngmjaaFitC
import Derived.Test.YtcepfbflgngmjaaToneG
import Derived.Test.YtcepfbflgngmjaaToneE
namespace Go.Proofs.Ytcepfbflgngmjaa
set_option linter.unusedVariables false
set_option maxRecDepth 100000
open Go.RowKit

/-- The band that is told coarser next; the scales behind n rounds; how many bits that needs. -/
def bestOf (X s : Nat → Int) : Int := bestTo (maskI X) s (wideF (toldR stepI X s)) 4
def sclN (X : Nat → Int) : Nat → Nat → Int
  | 0 => fun _ => 0
  | n + 1 => fun k => if k = (bestOf X (sclN X n)).toNat then sclN X n k + 1 else sclN X n k
def costN (X : Nat → Int) (t n : Nat) : Int := 52 + 28 * t + 4 * sumTo (wideF (toldR stepI X (sclN X n))) 4
def stopN (X : Nat → Int) (t : Nat) (room : Int) (n : Nat) : Prop := bestOf X (sclN X n) < 0 ∨ costN X t n ≤ room
structure StopAt (X : Nat → Int) (t : Nat) (room : Int) (n : Nat) : Prop where
  st : stopN X t room n
  no : ∀ j, j < n → ¬ stopN X t room j
theorem StopAt.one {X : Nat → Int} {t : Nat} {room : Int} {n m : Nat} (h : StopAt X t room n) (k : StopAt X t room m) : n = m := by
  rcases Nat.lt_trichotomy n m with c | c | c
  · exact absurd h.st (k.no n c)
  · exact c
  · exact absurd k.st (h.no m c)
theorem bestOf_bd (X s : Nat → Int) : -1 ≤ bestOf X s ∧ bestOf X s < 4 := bestTo_bd _ _ _ 4
theorem scl_inv (X : Nat → Int) (t : Nat) (room : Int) (n : Nat) (no : ∀ j, j < n → ¬ stopN X t room j) : (∀ k, k < 4 → 0 ≤ sclN X n k ∧ sclN X n k ≤ 23) ∧ sclN X n 0 + sclN X n 1 + sclN X n 2 + sclN X n 3 = n := by
  induction n with
  | zero => exact ⟨fun k _ => by show 0 ≤ (0 : Int) ∧ (0 : Int) ≤ 23; omega, by show (0 : Int) + 0 + 0 + 0 = 0; omega⟩
  | succ n ih =>
    obtain ⟨h1, h2⟩ := ih fun j hj => no j (by omega)
    have hb : 0 ≤ bestOf X (sclN X n) := by
      have := no n (by omega)
      unfold stopN at this
      omega
    have hk := bestOf_bd X (sclN X n)
    have h3 := (bestTo_ok _ _ _ 4 hb).2
    rw [show bestTo (maskI X) (sclN X n) (wideF (toldR stepI X (sclN X n))) 4 = bestOf X (sclN X n) from rfl] at h3
    have e : ∀ k, sclN X (n + 1) k = if k = (bestOf X (sclN X n)).toNat then sclN X n k + 1 else sclN X n k := fun _ => rfl
    obtain ⟨b, hb4, hbb⟩ : ∃ b : Nat, b < 4 ∧ (bestOf X (sclN X n)).toNat = b := ⟨_, by omega, rfl⟩
    rw [hbb] at h3
    constructor
    · intro k hk4
      rw [e, hbb]
      have := h1 k hk4
      split
      · next h => subst h; omega
      · exact this
    · rw [e, e, e, e, hbb]
      rcases (show b = 0 ∨ b = 1 ∨ b = 2 ∨ b = 3 by omega) with rfl | rfl | rfl | rfl <;> simp <;> omega
theorem scl_le (X : Nat → Int) (t : Nat) (room : Int) (n : Nat) (no : ∀ j, j < n → ¬ stopN X t room j) : n ≤ 92 := by
  obtain ⟨h1, h2⟩ := scl_inv X t room n no
  have a := h1 0 (by omega); have b := h1 1 (by omega); have c := h1 2 (by omega); have d := h1 3 (by omega)
  omega
theorem maskI_bd (X : Nat → Int) (k : Nat) : 0 ≤ maskI X k ∧ maskI X k ≤ 65 := widthI_bd _
theorem wideF_bd (q : Nat → Int) (k : Nat) : 0 ≤ wideF q k ∧ wideF q k ≤ 65 := wideTo_bd q 16 k
theorem addOne_fits {g : Nat → Int} (c x y : Int) (h : Fits64 g) : Fits64 (addOne c g x y) := fun j => by
  unfold addOne
  split
  · unfold wrap64; omega
  · exact h j
theorem addTo_fits {f : Nat → Int} (c : Int) (T : Nat → Int) (h : Fits64 f) : ∀ n, Fits64 (addTo c f T n)
  | 0 => h
  | n + 1 => addOne_fits _ _ _ (addTo_fits c T h n)
/-- How many tones are told; the spectrum without them. -/
def tnN (f : Nat → Int) (tones : Bool) : Nat := if tones then (findL f).length else 0
def restF2 (f : Nat → Int) (tones : Bool) : Nat → Int := addTo (-1) f (toneF f) (tnN f tones)
theorem restF2_fits {f : Nat → Int} (h : Fits64 f) (tones : Bool) : Fits64 (restF2 f tones) := addTo_fits _ _ h _
/-- The frame's cells, its gains told beside. -/
theorem tolN_gains (g s X : Nat → Int) : ∀ k, k < 29 → k ≠ 4 → (if k < 4 then g k else tolN (fun _ => 0) s X k) = tolN g s X k := fun k _ _ => by
  unfold tolN frN
  split <;> rfl
end Go.Proofs.Ytcepfbflgngmjaa
