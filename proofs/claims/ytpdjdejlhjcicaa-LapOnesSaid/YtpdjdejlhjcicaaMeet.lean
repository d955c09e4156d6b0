/- Blocks that meet, without a program: numbers of rows of 16, turned where two rows meet; row by row; and back. -/
import Derived.Test.YtpdjdejlhjcicaaLiftL
import Derived.Test.YtpdjdejlhjcicaaTableL
import Derived.Test.YtpdjdejlhjcicaaGainL
import Derived.Test.YtpdjdejlhjcicaaListL
import Derived.Test.YtpdjdejlhjcicaaRowsB
namespace Go.Proofs.Ytpdjdejlhjcicaa
set_option linter.unusedVariables false
open Go.RowKit

abbrev Way := Int → Int → Int → Int → Int
/-- The edges below k are turned. -/
def meetTo (wa wb : Way) (k : Nat) (F : Nat → Int) : Nat → Int := fun q =>
  if 8 ≤ q % 16 then (if q / 16 + 1 < k then wa (F q) (F (q / 16 * 16 + 16 + (15 - q % 16))) (turnP (15 - q % 16)) (turnU (15 - q % 16)) else F q)
  else (if 1 ≤ q / 16 ∧ q / 16 < k then wb (F (q / 16 * 16 - 16 + (15 - q % 16))) (F q) (turnP (q % 16)) (turnU (q % 16)) else F q)
theorem split16 (q : Nat) : ∃ b r, q = b * 16 + r ∧ r < 16 ∧ q / 16 = b ∧ q % 16 = r := ⟨q / 16, q % 16, by omega, by omega, rfl, rfl⟩
theorem dm16 (b r : Nat) (h : r < 16) : (b * 16 + r) / 16 = b ∧ (b * 16 + r) % 16 = r := ⟨by omega, by omega⟩
theorem meetTo_hi (wa wb : Way) (k : Nat) (F : Nat → Int) (b r : Nat) (h : r < 16) (h8 : 8 ≤ r) : meetTo wa wb k F (b * 16 + r) = if b + 1 < k then wa (F (b * 16 + r)) (F (b * 16 + 16 + (15 - r))) (turnP (15 - r)) (turnU (15 - r)) else F (b * 16 + r) := by
  obtain ⟨e1, e2⟩ := dm16 b r h
  unfold meetTo
  rw [e1, e2, if_pos h8]
theorem meetTo_lo (wa wb : Way) (k : Nat) (F : Nat → Int) (b r : Nat) (h8 : r < 8) : meetTo wa wb k F (b * 16 + r) = if 1 ≤ b ∧ b < k then wb (F (b * 16 - 16 + (15 - r))) (F (b * 16 + r)) (turnP r) (turnU r) else F (b * 16 + r) := by
  obtain ⟨e1, e2⟩ := dm16 b r (by omega)
  unfold meetTo
  rw [e1, e2, if_neg (by omega)]
theorem meetTo_one (wa wb : Way) (F : Nat → Int) : meetTo wa wb 1 F = F := by
  funext q
  obtain ⟨b, r, rfl, hr, _, _⟩ := split16 q
  by_cases h : 8 ≤ r
  · rw [meetTo_hi _ _ _ _ _ _ hr h, if_neg (by omega)]
  · rw [meetTo_lo _ _ _ _ _ _ (by omega), if_neg (by omega)]
/-- One edge more: the eight behind, then the eight ahead the other way round. -/
theorem meetTo_step (wa wb : Way) (F : Nat → Int) (j : Nat) :
    patch (patch (meetTo wa wb (j + 1) F) ((j + 1) * 16) 8 (fun i => wb (meetTo wa wb (j + 1) F (j * 16 + 8 + (7 - i))) (meetTo wa wb (j + 1) F ((j + 1) * 16 + i)) (turnP i) (turnU i)))
      (j * 16 + 8) 8 (fun i => wa (meetTo wa wb (j + 1) F (j * 16 + 8 + (7 - (7 - i)))) (meetTo wa wb (j + 1) F ((j + 1) * 16 + (7 - i))) (turnP (7 - i)) (turnU (7 - i))) = meetTo wa wb (j + 1 + 1) F := by
  have hi : ∀ i, i < 8 → meetTo wa wb (j + 1) F (j * 16 + 8 + i) = F (j * 16 + (8 + i)) := fun i h => by
    rw [Nat.add_assoc, meetTo_hi _ _ _ _ _ _ (by omega) (by omega), if_neg (by omega)]
  have lo : ∀ i, i < 8 → meetTo wa wb (j + 1) F ((j + 1) * 16 + i) = F ((j + 1) * 16 + i) := fun i h => by
    rw [meetTo_lo _ _ _ _ _ _ h, if_neg (by omega)]
  funext q
  obtain ⟨b, r, rfl, hr, _, _⟩ := split16 q
  unfold patch
  dsimp only
  by_cases h8 : 8 ≤ r
  · rw [meetTo_hi wa wb (j + 1 + 1) F b r hr h8]
    by_cases hb : b = j
    · subst hb
      rw [if_pos ⟨by omega, by omega⟩, if_pos (by omega), show b * 16 + r - (b * 16 + 8) = r - 8 by omega, show 7 - (7 - (r - 8)) = r - 8 by omega, hi (r - 8) (by omega), lo (7 - (r - 8)) (by omega)]
      rw [show 8 + (r - 8) = r by omega, show 7 - (r - 8) = 15 - r by omega, show (b + 1) * 16 + (15 - r) = b * 16 + 16 + (15 - r) by omega]
    · rw [if_neg (by omega), if_neg (by omega), meetTo_hi wa wb (j + 1) F b r hr h8]
      by_cases c : b + 1 < j + 1
      · rw [if_pos c, if_pos (by omega)]
      · rw [if_neg c, if_neg (by omega)]
  · rw [if_neg (by omega), meetTo_lo wa wb (j + 1 + 1) F b r (by omega)]
    by_cases hb : b = j + 1
    · subst hb
      rw [if_pos ⟨by omega, by omega⟩, if_pos ⟨by omega, by omega⟩, show (j + 1) * 16 + r - (j + 1) * 16 = r by omega, hi (7 - r) (by omega), lo r (by omega)]
      rw [show j * 16 + (8 + (7 - r)) = (j + 1) * 16 - 16 + (15 - r) by omega]
    · rw [if_neg (by omega), meetTo_lo wa wb (j + 1) F b r (by omega)]
      by_cases c : 1 ≤ b ∧ b < j + 1
      · rw [if_pos c, if_pos ⟨c.1, by omega⟩]
      · rw [if_neg c, if_neg (by omega)]
/-- Within n rows each place is turned with one of n rows. -/
theorem meetTo_in {wa wb : Way} {k : Nat} {F : Nat → Int} (ha : ∀ a b p u, -9223372036854775808 ≤ wa a b p u ∧ wa a b p u ≤ 9223372036854775807) (hb : ∀ a b p u, -9223372036854775808 ≤ wb a b p u ∧ wb a b p u ≤ 9223372036854775807) (h : Fits64 F) : Fits64 (meetTo wa wb k F) := by
  intro q
  unfold meetTo
  split
  · split
    · exact ha _ _ _ _
    · exact h q
  · split
    · exact hb _ _ _ _
    · exact h q
theorem meetTo_ext {wa wb : Way} {n : Nat} {F G : Nat → Int} (h : ∀ q, q < n * 16 → F q = G q) : ∀ q, q < n * 16 → meetTo wa wb n F q = meetTo wa wb n G q := by
  intro q hq
  obtain ⟨b, r, rfl, hr, _, _⟩ := split16 q
  by_cases h8 : 8 ≤ r
  · rw [meetTo_hi _ _ _ _ _ _ hr h8, meetTo_hi _ _ _ _ _ _ hr h8]
    split
    · rw [h _ hq, h _ (by omega)]
    · exact h _ hq
  · rw [meetTo_lo _ _ _ _ _ _ (by omega), meetTo_lo _ _ _ _ _ _ (by omega)]
    split
    · rw [h _ hq, h _ (by omega)]
    · exact h _ hq
/-- Turned, and back. -/
theorem meet_back {n : Nat} {F : Nat → Int} (h : Fits64 F) : meetTo backWA backWB n (meetTo turnWA turnWB n F) = F := by
  funext q
  obtain ⟨b, r, rfl, hr, _, _⟩ := split16 q
  by_cases h8 : 8 ≤ r
  · rw [meetTo_hi _ _ _ _ _ _ hr h8]
    split
    · rename_i hb
      rw [show b * 16 + 16 + (15 - r) = (b + 1) * 16 + (15 - r) by omega, meetTo_hi _ _ _ _ _ _ hr h8, if_pos hb, meetTo_lo _ _ _ _ _ _ (by omega), if_pos ⟨by omega, by omega⟩]
      rw [show (b + 1) * 16 - 16 + (15 - (15 - r)) = b * 16 + r by omega, show b * 16 + 16 + (15 - r) = (b + 1) * 16 + (15 - r) by omega]
      exact (backW_turnW _ _ _ _ (h _).1 (h _).2 (h _).1 (h _).2).1
    · rename_i hb
      rw [meetTo_hi _ _ _ _ _ _ hr h8, if_neg hb]
  · rw [meetTo_lo _ _ _ _ _ _ (by omega)]
    split
    · rename_i hb
      obtain ⟨c, rfl⟩ : ∃ c, b = c + 1 := ⟨b - 1, by omega⟩
      rw [show (c + 1) * 16 - 16 + (15 - r) = c * 16 + (15 - r) by omega, meetTo_hi _ _ _ _ _ _ (by omega) (by omega), if_pos (by omega), meetTo_lo _ _ _ _ _ _ (by omega), if_pos hb]
      rw [show 15 - (15 - r) = r by omega, show c * 16 + 16 + r = (c + 1) * 16 + r by omega, show (c + 1) * 16 - 16 + (15 - r) = c * 16 + (15 - r) by omega]
      exact (backW_turnW _ _ _ _ (h _).1 (h _).2 (h _).1 (h _).2).2
    · rename_i hb
      rw [meetTo_lo _ _ _ _ _ _ (by omega), if_neg hb]

/-! Row by row. -/
def rowAt (F : Nat → Int) (b : Nat) : Nat → Int := fun k => F (b * 16 + k)
def mapB (φ : Nat → (Nat → Int) → Nat → Int) (F : Nat → Int) : Nat → Int := fun q => φ (q / 16) (rowAt F (q / 16)) (q % 16)
def mapTo (n : Nat) (φ : Nat → (Nat → Int) → Nat → Int) (F : Nat → Int) : Nat → Int := fun q => if q < n * 16 then mapB φ F q else F q
theorem mapB_at (φ : Nat → (Nat → Int) → Nat → Int) (F : Nat → Int) (b r : Nat) (h : r < 16) : mapB φ F (b * 16 + r) = φ b (rowAt F b) r := by
  obtain ⟨e1, e2⟩ := dm16 b r h
  unfold mapB
  rw [e1, e2]
theorem mapTo_zero (φ : Nat → (Nat → Int) → Nat → Int) (F : Nat → Int) : mapTo 0 φ F = F := by funext q; unfold mapTo; rw [if_neg (by omega)]
theorem mapTo_step (φ : Nat → (Nat → Int) → Nat → Int) (F : Nat → Int) (n : Nat) : patch (mapTo n φ F) (n * 16) 16 (φ n (rowAt F n)) = mapTo (n + 1) φ F := by
  funext q
  unfold patch mapTo
  by_cases h : n * 16 ≤ q ∧ q < n * 16 + 16
  · rw [if_pos h, if_pos (by omega)]
    obtain ⟨r, rfl⟩ : ∃ r, q = n * 16 + r := ⟨q - n * 16, by omega⟩
    rw [mapB_at _ _ _ _ (by omega), show n * 16 + r - n * 16 = r by omega]
  · rw [if_neg h]
    by_cases h2 : q < n * 16
    · rw [if_pos h2, if_pos (by omega)]
    · rw [if_neg h2, if_neg (by omega)]
theorem mapTo_row (φ : Nat → (Nat → Int) → Nat → Int) (F : Nat → Int) (n k : Nat) : mapTo n φ F (n * 16 + k) = rowAt F n k := by unfold mapTo rowAt; rw [if_neg (by omega)]
theorem mapTo_end (φ : Nat → (Nat → Int) → Nat → Int) (F : Nat → Int) (n q : Nat) (h : q < n * 16) : mapTo n φ F q = mapB φ F q := by unfold mapTo; rw [if_pos h]
theorem mapB_in {φ : Nat → (Nat → Int) → Nat → Int} {F : Nat → Int} (h : ∀ b f, Fits64 f → Fits64 (φ b f)) (hF : Fits64 F) : Fits64 (mapB φ F) := fun q => h _ _ (fun k => hF _) _
theorem mapB_ext {φ ψ : Nat → (Nat → Int) → Nat → Int} {F G : Nat → Int} {n : Nat} (h : ∀ q, q < n * 16 → F q = G q) (hφ : ∀ b f g, b < n → (∀ k, k < 16 → f k = g k) → ∀ k, k < 16 → φ b f k = ψ b g k) : ∀ q, q < n * 16 → mapB φ F q = mapB ψ G q := by
  intro q hq
  obtain ⟨b, r, rfl, hr, _, _⟩ := split16 q
  rw [mapB_at _ _ _ _ hr, mapB_at _ _ _ _ hr]
  exact hφ b _ _ (by omega) (fun k hk => h _ (by omega)) r hr
theorem mapB_mapB (φ ψ : Nat → (Nat → Int) → Nat → Int) (F : Nat → Int) (q : Nat) (hφ : ∀ b f g, (∀ k, k < 16 → f k = g k) → ∀ k, k < 16 → φ b f k = φ b g k) : mapB φ (mapB ψ F) q = mapB (fun b f => φ b (ψ b f)) F q := by
  obtain ⟨b, r, rfl, hr, _, _⟩ := split16 q
  rw [mapB_at _ _ _ _ hr, mapB_at _ _ _ _ hr]
  exact hφ _ _ _ (fun k hk => by unfold rowAt; rw [mapB_at _ _ _ _ hk]; rfl) r hr
/-- A part of cells reads as a list; a row of the call's own is cells. -/
theorem CellsAt.sl {w : World} {g m : Nat} {F : Nat → Int} (h : CellsAt w g m F) (o n cap : Nat) (hn : o + n ≤ m) (hc : n ≤ cap) (hm : cap ≤ maxLen) : SlI w .i64 (.slice (some ⟨g, o, none⟩) n cap) (part F o n) := by
  refine ⟨_, cap, by rw [part_len], fun _ => ⟨g, o, rfl, h.lt, by rw [part_len]; exact hc, hm, fun i hi => ?_⟩⟩
  rw [part_len] at hi
  rw [part_getD _ _ _ _ hi]
  exact h.cell (o + i) (by omega)
theorem OwnL.cells {t : TypeId} {X : Nat → Prop} {w : World} {v : Value} {xs : List Int} (h : OwnL .i64 t X w v xs) (h0 : 0 < xs.length) : ∃ g cap, v = .slice (some ⟨g, 0, none⟩) xs.length cap ∧ ¬ X g ∧ xs.length ≤ cap ∧ cap ≤ maxLen ∧ CellsAt w g xs.length (fun j => xs.getD j 0) := by
  rcases h.shape with ⟨_, h1⟩ | ⟨g, cap, rfl, hX, hg, hn, hc, hcell⟩
  · omega
  · refine ⟨g, cap, rfl, hX, hn, hc, hg, fun j hj => hcell j _ (by simp [hj, List.getD]), fun j hj => h.frozenAt j⟩
end Go.Proofs.Ytpdjdejlhjcicaa
