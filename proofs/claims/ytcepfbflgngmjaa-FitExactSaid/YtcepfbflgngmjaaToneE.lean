/- Package tone's contracts, fourth part: a spectrum's tones, told in numbers. No program. -/
import Derived.Test.YtcepfbflgngmjaaToneD
import Derived.Test.YtcepfbflgngmjaaIntSort
namespace Go.Proofs.Ytcepfbflgngmjaa
set_option linter.unusedVariables false
set_option maxRecDepth 100000
open Go.RowKit Go.ChangeShapes Go.WideShapes

instance (f : Nat → Int) (x y : Int) : Decidable (aheadP f x y) := by unfold aheadP; infer_instance
/-- How many tones come ahead of a place; the tones that are found. -/
def aheadTo (f : Nat → Int) (i n : Nat) : Nat := ((List.range n).filter fun k => decide (isT f k ∧ aheadP f (k : Int) (i : Int))).length
def foundP (f : Nat → Int) (i : Nat) : Prop := isT f i ∧ aheadTo f i 16 ≤ 1
instance (f : Nat → Int) (i : Nat) : Decidable (foundP f i) := by unfold foundP; infer_instance
def findL (f : Nat → Int) : List Nat := (List.range 16).filter fun i => decide (foundP f i)
def toneF (f : Nat → Int) : Nat → Int := fun j => if j % 2 = 0 then (((findL f).getD (j / 2) 0 : Nat) : Int) else f ((findL f).getD (j / 2) 0)
theorem mem_findL {f : Nat → Int} {i : Nat} : i ∈ findL f ↔ foundP f i := by
  simp only [findL, List.mem_filter, List.mem_range, decide_eq_true_eq]
  exact ⟨fun h => h.2, fun h => ⟨h.1.1, h⟩⟩
theorem findL_rising (f : Nat → Int) : (findL f).Pairwise (· < ·) := List.Pairwise.filter _ List.pairwise_lt_range
theorem aheadP_irrefl (f : Nat → Int) (x : Int) : ¬ aheadP f x x := by unfold aheadP; omega
theorem length_le_one {l : List Nat} {a : Nat} (hn : l.Nodup) (h : ∀ x ∈ l, x = a) : l.length ≤ 1 := by
  match l, hn, h with
  | [], _, _ => simp
  | [_], _, _ => simp
  | x :: y :: r, hn, h =>
    have h1 := h x (by simp)
    have h2 := h y (by simp)
    rw [List.nodup_cons] at hn
    exact absurd (by simp [h1, h2] : x ∈ y :: r) hn.1
theorem two_le_length {l : List Nat} {a b : Nat} (ha : a ∈ l) (hb : b ∈ l) (hne : a ≠ b) : 2 ≤ l.length := by
  match l, ha, hb with
  | [x], ha, hb => simp at ha hb; omega
  | x :: y :: r, _, _ => simp
theorem aheadTo_mem {f : Nat → Int} {i n k : Nat} : k ∈ (List.range n).filter (fun k => decide (isT f k ∧ aheadP f (k : Int) (i : Int))) ↔ k < n ∧ isT f k ∧ aheadP f (k : Int) (i : Int) := by simp
/-- The two first, and those alone, are found. -/
theorem sorted_found {f : Nat → Int} {G : Nat → Int} {n : Nat} (hn : n = (placesL f 16).length) (hS : SrtO (aheadP f) (fun j => (intsOf (placesL f 16)).getD j 0) n G) (i : Nat) : foundP f i ↔ ∃ k, k < min n 2 ∧ G k = (i : Int) := by
  have hto : ∀ k, k < n → ∃ j : Nat, G k = (j : Int) ∧ isT f j := by
    intro k hk
    obtain ⟨m, hm, e⟩ := hS.frm k hk
    try dsimp only at e
    rw [intsOf_getD _ _ (by omega)] at e
    refine ⟨_, e, ?_⟩
    have : (placesL f 16).getD m 0 ∈ placesL f 16 := by
      rw [List.getD_eq_getElem?_getD, List.getElem?_eq_getElem (by omega)]
      exact List.getElem_mem _
    exact (mem_placesL.1 this).2
  have hfrom : ∀ j : Nat, isT f j → ∃ k, k < n ∧ G k = (j : Int) := by
    intro j hj
    have hm : j ∈ placesL f 16 := mem_placesL.2 ⟨hj.1, hj⟩
    obtain ⟨m, hm, e⟩ := List.getElem_of_mem hm
    obtain ⟨k, hk, e'⟩ := hS.all m (by omega)
    refine ⟨k, hk, ?_⟩
    rw [e']
    try dsimp only
    rw [intsOf_getD _ _ hm]
    congr 1
    rw [List.getD_eq_getElem?_getD, List.getElem?_eq_getElem hm, ← e]
    rfl
  have hlt : ∀ a b, a < n → b < n → aheadP f (G a) (G b) → a < b := by
    intro a b ha hb h
    rcases Nat.lt_trichotomy a b with c | c | c
    · exact c
    · subst c; exact absurd h (aheadP_irrefl _ _)
    · exact absurd (aheadP_trans f _ _ _ h (hS.ord b a c ha)) (aheadP_irrefl _ _)
  have hinj : ∀ a b, a < n → b < n → G a = G b → a = b := by
    intro a b ha hb h
    rcases Nat.lt_trichotomy a b with c | c | c
    · have := hS.ord a b c hb; rw [h] at this; exact absurd this (aheadP_irrefl _ _)
    · exact c
    · have := hS.ord b a c ha; rw [h] at this; exact absurd this (aheadP_irrefl _ _)
  constructor
  · rintro ⟨ht, ha⟩
    obtain ⟨k, hk, e⟩ := hfrom i ht
    refine ⟨k, ?_, e⟩
    by_cases h2 : k < 2
    · omega
    · obtain ⟨j0, e0, t0⟩ := hto 0 (by omega)
      obtain ⟨j1, e1, t1⟩ := hto 1 (by omega)
      have hne : j0 ≠ j1 := by
        intro h
        have := hinj 0 1 (by omega) (by omega) (by rw [e0, e1, h])
        omega
      have a0 : aheadP f (j0 : Int) (i : Int) := by rw [← e0, ← e]; exact hS.ord 0 k (by omega) hk
      have a1 : aheadP f (j1 : Int) (i : Int) := by rw [← e1, ← e]; exact hS.ord 1 k (by omega) hk
      have := two_le_length (aheadTo_mem.2 ⟨t0.1, t0, a0⟩) (aheadTo_mem.2 ⟨t1.1, t1, a1⟩) hne
      unfold aheadTo at ha
      omega
  · rintro ⟨k, hk, e⟩
    obtain ⟨j, e', t⟩ := hto k (by omega)
    have hij : i = j := by rw [e] at e'; omega
    subst hij
    refine ⟨t, ?_⟩
    obtain ⟨j0, e0, t0⟩ := hto 0 (by omega)
    refine length_le_one (a := j0) (List.nodup_iff_pairwise_ne.2 ((List.Pairwise.filter _ List.pairwise_lt_range).imp fun h => by omega)) fun x hx => ?_
    obtain ⟨hx1, hx2, hx3⟩ := aheadTo_mem.1 hx
    obtain ⟨m, hm, em⟩ := hfrom x hx2
    rw [← em, ← e] at hx3
    have := hlt m k hm (by omega) hx3
    have : m = 0 := by omega
    subst this
    rw [em] at e0
    omega
theorem sorted_find {f : Nat → Int} {G : Nat → Int} {n : Nat} (hn : n = (placesL f 16).length) (hS : SrtO (aheadP f) (fun j => (intsOf (placesL f 16)).getD j 0) n G) {zs : List Int} (hp : zs.Perm (listF G (min n 2))) (ho : zs.Pairwise (· ≤ ·)) : zs = intsOf (findL f) := by
  have hmem : ∀ x, x ∈ zs ↔ ∃ i : Nat, x = (i : Int) ∧ foundP f i := by
    intro x
    rw [hp.mem_iff, mem_listF]
    constructor
    · rintro ⟨k, hk, rfl⟩
      obtain ⟨m, hm, e⟩ := hS.frm k (by omega)
      try dsimp only at e
      rw [intsOf_getD _ _ (by omega)] at e
      exact ⟨_, e, (sorted_found hn hS _).2 ⟨k, hk, e⟩⟩
    · rintro ⟨i, rfl, hi⟩
      obtain ⟨k, hk, e⟩ := (sorted_found hn hS i).1 hi
      exact ⟨k, hk, e⟩
  have hnd : zs.Nodup := by
    rw [hp.nodup_iff]
    unfold listF
    rw [List.nodup_iff_pairwise_ne, List.pairwise_map]
    refine List.Pairwise.imp_of_mem ?_ (List.pairwise_lt_range (n := min n 2))
    intro a b ha hb hab h
    have := hS.ord a b hab (by have := List.mem_range.1 hb; omega)
    rw [h] at this
    exact aheadP_irrefl _ _ this
  have hlt : zs.Pairwise (· < ·) := by
    rw [List.nodup_iff_pairwise_ne] at hnd
    exact (ho.and hnd).imp fun h => by omega
  have h0 : ∀ x ∈ zs, 0 ≤ x := fun x hx => by
    obtain ⟨i, rfl, _⟩ := (hmem x).1 hx
    omega
  have hN : zs.map Int.toNat = findL f := by
    refine rising_eq _ _ ?_ (findL_rising f) fun i => ?_
    · rw [List.pairwise_map]
      refine hlt.imp_of_mem ?_
      intro a b ha hb hab
      have := h0 a ha
      have := h0 b hb
      omega
    · rw [mem_findL, List.mem_map]
      constructor
      · rintro ⟨x, hx, rfl⟩
        obtain ⟨j, rfl, hj⟩ := (hmem x).1 hx
        simpa using hj
      · intro hi
        exact ⟨i, (hmem _).2 ⟨i, rfl, hi⟩, by simp⟩
  rw [← hN]
  unfold intsOf
  rw [List.map_map]
  have : ∀ x ∈ zs, ((fun i : Nat => (i : Int)) ∘ Int.toNat) x = x := fun x hx => by
    have := h0 x hx
    simp only [Function.comp]
    omega
  exact (List.map_congr_left this).trans (List.map_id _) |>.symm
theorem find_len {f : Nat → Int} {G : Nat → Int} {n : Nat} (hn : n = (placesL f 16).length) (hS : SrtO (aheadP f) (fun j => (intsOf (placesL f 16)).getD j 0) n G) {zs : List Int} (hp : zs.Perm (listF G (min n 2))) (ho : zs.Pairwise (· ≤ ·)) : (findL f).length = min n 2 := by
  rw [← intsOf_len, ← sorted_find hn hS hp ho, hp.length_eq, listF_len]
theorem find_none {f : Nat → Int} (h : placesL f 16 = []) : findL f = [] := by
  apply List.eq_nil_iff_forall_not_mem.2
  intro i hi
  have h1 := (mem_findL.1 hi).1
  have : i ∈ placesL f 16 := mem_placesL.2 ⟨h1.1, h1⟩
  rw [h] at this
  cases this
theorem places_P (f : Nat → Int) : placesP (fun j => (intsOf (placesL f 16)).getD j 0) (placesL f 16).length := by
  constructor
  · intro k hk
    try dsimp only
    rw [intsOf_getD _ _ hk, List.getD_eq_getElem?_getD, List.getElem?_eq_getElem hk]
    have := (mem_placesL.1 (List.getElem_mem hk)).1
    simp only [Option.getD_some]
    omega
  · intro a b hab hb
    try dsimp only
    rw [intsOf_getD _ _ hb, intsOf_getD _ _ (by omega), List.getD_eq_getElem?_getD, List.getElem?_eq_getElem (by omega), List.getD_eq_getElem?_getD, List.getElem?_eq_getElem hb]
    have := List.pairwise_iff_getElem.1 (placesL_rising f 16) a b (by omega) hb hab
    simp only [Option.getD_some]
    omega
theorem toneF_even (f : Nat → Int) (k : Nat) : toneF f (2 * k) = (((findL f).getD k 0 : Nat) : Int) := by
  unfold toneF
  rw [if_pos (by omega), show 2 * k / 2 = k by omega]
theorem toneF_odd (f : Nat → Int) (k : Nat) : toneF f (2 * k + 1) = f ((findL f).getD k 0) := by
  unfold toneF
  rw [if_neg (by omega), show (2 * k + 1) / 2 = k by omega]
end Go.Proofs.Ytcepfbflgngmjaa
