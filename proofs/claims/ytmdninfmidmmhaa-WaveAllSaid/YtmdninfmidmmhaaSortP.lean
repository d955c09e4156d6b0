/- The states of a sort by insertion, and what a sorted list of its own elements is. No program. -/
import Derived.Test.YtmdninfmidmmhaaRowsB
namespace Go.Proofs.Ytmdninfmidmmhaa
set_option linter.unusedVariables false
set_option maxRecDepth 100000
open Go.RowKit

/-- The first i of F are in order R, the others as they were. -/
structure InsO (R : Int → Int → Prop) (F : Nat → Int) (i : Nat) (G : Nat → Int) : Prop where
  rest : ∀ k, i ≤ k → G k = F k
  ord : ∀ a b, a < b → b < i → R (G a) (G b)
  frm : ∀ k, k < i → ∃ m, m < i ∧ G k = F m
  all : ∀ m, m < i → ∃ k, k < i ∧ G k = F m
/-- Element i has come down to place j. -/
structure InsI (R : Int → Int → Prop) (F : Nat → Int) (i j : Nat) (G : Nat → Int) : Prop where
  le : j ≤ i
  rest : ∀ k, i < k → G k = F k
  own : G j = F i
  ord : ∀ a b, a < b → b ≤ i → a ≠ j → b ≠ j → R (G a) (G b)
  lo : ∀ b, j < b → b ≤ i → R (G j) (G b)
  frm : ∀ k, k ≤ i → k ≠ j → ∃ m, m < i ∧ G k = F m
  all : ∀ m, m < i → ∃ k, k ≤ i ∧ k ≠ j ∧ G k = F m
/-- Two neighbours turned round, as the two stores do it. -/
def swapF (G : Nat → Int) (j : Nat) : Nat → Int := fun k => if k = j - 1 then G j else if k = j then G (j - 1) else G k
theorem swapF_set (G : Nat → Int) (j : Nat) (hj : 0 < j) : (fun k => if k = j - 1 then G j else (fun k => if k = j then G (j - 1) else G k) k) = swapF G j := rfl
theorem swapF_set' (G : Nat → Int) (j : Nat) (hj : 0 < j) : (fun k => if k = j then G (j - 1) else (fun k => if k = j - 1 then G j else G k) k) = swapF G j := by
  funext k
  unfold swapF
  by_cases h : k = j
  · subst h; rw [if_pos rfl, if_neg (by omega), if_pos rfl]
  · rw [if_neg h]; dsimp only; split <;> rfl
theorem InsO.start (R : Int → Int → Prop) (F : Nat → Int) : InsO R F 1 F :=
  ⟨fun _ _ => rfl, fun a b h1 h2 => by omega, fun k hk => ⟨k, hk, rfl⟩, fun m hm => ⟨m, hm, rfl⟩⟩
theorem InsO.enter {R : Int → Int → Prop} {F G : Nat → Int} {i : Nat} (h : InsO R F i G) : InsI R F i i G :=
  ⟨Nat.le_refl _, fun k hk => h.rest k (by omega), h.rest i (Nat.le_refl _), fun a b h1 h2 h3 h4 => h.ord a b h1 (by omega), fun b h1 h2 => by omega, fun k h1 h2 => h.frm k (by omega), fun m hm => by
    obtain ⟨k, h1, h2⟩ := h.all m hm
    exact ⟨k, by omega, by omega, h2⟩⟩
theorem InsI.swap {R : Int → Int → Prop} {F G : Nat → Int} {i j : Nat} (h : InsI R F i j G) (hj : 0 < j) (hR : R (G j) (G (j - 1))) : InsI R F i (j - 1) (swapF G j) := by
  have hle := h.le
  have e1 : swapF G j (j - 1) = G j := by unfold swapF; rw [if_pos rfl]
  have e2 : swapF G j j = G (j - 1) := by unfold swapF; rw [if_neg (by omega), if_pos rfl]
  have e3 : ∀ k, k ≠ j → k ≠ j - 1 → swapF G j k = G k := fun k h1 h2 => by unfold swapF; rw [if_neg h2, if_neg h1]
  refine ⟨by omega, fun k hk => by rw [e3 k (by omega) (by omega)]; exact h.rest k hk, by rw [e1]; exact h.own, ?_, ?_, ?_, ?_⟩
  · intro a b h1 h2 h3 h4
    by_cases c : a = j
    · subst c
      rw [e2, e3 b (by omega) h4]
      exact h.ord _ _ (by omega) h2 (by omega) (by omega)
    · by_cases d : b = j
      · subst d
        rw [e2, e3 a c h3]
        exact h.ord _ _ (by omega) (by omega) c (by omega)
      · rw [e3 a c h3, e3 b d h4]
        exact h.ord _ _ h1 h2 c d
  · intro b h1 h2
    rw [e1]
    by_cases d : b = j
    · subst d; rw [e2]; exact hR
    · rw [e3 b d (by omega)]; exact h.lo b (by omega) h2
  · intro k h1 h2
    by_cases d : k = j
    · subst d; rw [e2]; exact h.frm _ (by omega) (by omega)
    · rw [e3 k d h2]; exact h.frm k h1 d
  · intro m hm
    obtain ⟨k, h1, h2, h3⟩ := h.all m hm
    by_cases d : k = j - 1
    · subst d; exact ⟨j, by omega, by omega, by rw [e2]; exact h3⟩
    · exact ⟨k, h1, d, by rw [e3 k h2 d]; exact h3⟩
theorem InsI.done {R : Int → Int → Prop} (tr : ∀ x y z, R x y → R y z → R x z) {F G : Nat → Int} {i j : Nat} (h : InsI R F i j G) (hR : 0 < j → R (G (j - 1)) (G j)) : InsO R F (i + 1) G := by
  have hle := h.le
  refine ⟨fun k hk => h.rest k (by omega), ?_, ?_, ?_⟩
  · intro a b h1 h2
    by_cases c : a = j
    · subst c; exact h.lo b h1 (by omega)
    · by_cases d : b = j
      · subst d
        by_cases e : a = b - 1
        · subst e; exact hR (by omega)
        · exact tr _ _ _ (h.ord a (b - 1) (by omega) (by omega) c (by omega)) (hR (by omega))
      · exact h.ord a b h1 (by omega) c d
  · intro k hk
    by_cases d : k = j
    · subst d; exact ⟨i, by omega, h.own⟩
    · obtain ⟨m, h1, h2⟩ := h.frm k (by omega) d
      exact ⟨m, by omega, h2⟩
  · intro m hm
    by_cases d : m = i
    · subst d; exact ⟨j, by omega, h.own⟩
    · obtain ⟨k, h1, _, h2⟩ := h.all m (by omega)
      exact ⟨k, by omega, h2⟩
/-- Sorted, in whatever number (also of none). -/
structure SrtO (R : Int → Int → Prop) (F : Nat → Int) (n : Nat) (G : Nat → Int) : Prop where
  ord : ∀ a b, a < b → b < n → R (G a) (G b)
  frm : ∀ k, k < n → ∃ m, m < n ∧ G k = F m
  all : ∀ m, m < n → ∃ k, k < n ∧ G k = F m
theorem InsO.srt {R : Int → Int → Prop} {F G : Nat → Int} {i n : Nat} (h : InsO R F i G) (hi : i = n ∨ n = 0) : SrtO R F n G := by
  rcases hi with rfl | rfl
  · exact ⟨h.ord, h.frm, h.all⟩
  · exact ⟨fun _ _ _ h => by omega, fun _ h => by omega, fun _ h => by omega⟩

/-- Rising lists of the same elements are one. -/
theorem rising_eq : ∀ (xs ys : List Nat), xs.Pairwise (· < ·) → ys.Pairwise (· < ·) → (∀ x, x ∈ xs ↔ x ∈ ys) → xs = ys
  | [], [], _, _, _ => rfl
  | [], y :: ys, _, _, h => by have := (h y).2 (by simp); simp at this
  | x :: xs, [], _, _, h => by have := (h x).1 (by simp); simp at this
  | x :: xs, y :: ys, hx, hy, h => by
    rw [List.pairwise_cons] at hx hy
    have h1 : x = y := by
      rcases List.mem_cons.1 ((h x).1 (by simp)) with e | e
      · exact e
      · rcases List.mem_cons.1 ((h y).2 (by simp)) with e' | e'
        · exact e'.symm
        · have := hy.1 x e; have := hx.1 y e'; omega
    subst h1
    rw [rising_eq xs ys hx.2 hy.2 fun z => ?_]
    constructor
    · intro hz
      have h2 := hx.1 z hz
      rcases List.mem_cons.1 ((h z).1 (by simp [hz])) with e | e
      · omega
      · exact e
    · intro hz
      have h2 := hy.1 z hz
      rcases List.mem_cons.1 ((h z).2 (by simp [hz])) with e | e
      · omega
      · exact e
/-- A row that was made by appends, told by its cells. -/
theorem own_cells {X : Nat → Prop} {w : World} {t : TypeId} {v : Value} {xs : List Int} (h : ownX X w t v xs.length (xs.map (Value.int .i64))) : (v = .slice none 0 0 ∧ xs = []) ∨ ∃ g cap, v = .slice (some ⟨g, 0, none⟩) xs.length cap ∧ ¬ X g ∧ xs.length ≤ cap ∧ cap ≤ maxLen ∧ CellsAt w g xs.length (fun j => xs.getD j 0) := by
  rcases h.shape with ⟨hv, h0⟩ | ⟨g, cap, hv, hx, hg, h1, h2, h3⟩
  · exact .inl ⟨hv, List.eq_nil_of_length_eq_zero h0⟩
  · subst hv
    refine .inr ⟨g, cap, rfl, hx, h1, h2, hg, fun j hj => h3 j _ ?_, fun j hj => h.frozenAt j⟩
    rw [List.getElem?_map, List.getElem?_eq_getElem hj]
    simp [List.getD, hj]
end Go.Proofs.Ytmdninfmidmmhaa
