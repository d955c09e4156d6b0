/- Sorts by merging in place: ranges that are exchanged, rows that are turned, and what a merge is. No program. -/
import Derived.Test.YtmdninfmidmmhaaSortP
namespace Go.Proofs.Ytmdninfmidmmhaa
set_option linter.unusedVariables false
set_option maxRecDepth 100000

/-- Places a to a + n and b to b + n exchanged. -/
def swapR (G : Nat → Int) (a b n : Nat) : Nat → Int := fun k => if a ≤ k ∧ k < a + n then G (k - a + b) else if b ≤ k ∧ k < b + n then G (k - b + a) else G k
theorem swapR_zero (G : Nat → Int) (a b : Nat) : swapR G a b 0 = G := by
  funext k; unfold swapR; rw [if_neg (by omega), if_neg (by omega)]
theorem swapR_succ (G : Nat → Int) (a b n : Nat) (h : a + n < b) : (fun k => if k = b + n then swapR G a b n (a + n) else if k = a + n then swapR G a b n (b + n) else swapR G a b n k) = swapR G a b (n + 1) := by
  funext k
  unfold swapR
  by_cases c1 : k = b + n
  · rw [if_pos c1, if_neg (by omega), if_neg (by omega), if_neg (by omega), if_pos (by omega)]; congr 1; omega
  rw [if_neg c1]
  by_cases c2 : k = a + n
  · rw [if_pos c2, if_neg (by omega), if_neg (by omega), if_pos (by omega)]; congr 1; omega
  rw [if_neg c2]
  by_cases c3 : a ≤ k ∧ k < a + n
  · rw [if_pos c3, if_pos (by omega)]
  by_cases c4 : b ≤ k ∧ k < b + n
  · rw [if_neg c3, if_pos c4, if_neg (by omega), if_pos (by omega)]
  rw [if_neg c3, if_neg c4, if_neg (by omega), if_neg (by omega)]
/-- The rows a to m and m to b, the second ahead of the first. -/
def rotF (G : Nat → Int) (a m b : Nat) : Nat → Int := fun k => if a ≤ k ∧ k < a + (b - m) then G (k + (m - a)) else if a + (b - m) ≤ k ∧ k < b then G (k - (b - m)) else G k
theorem rotF_lo (G : Nat → Int) {a m b k : Nat} (h : k < a) : rotF G a m b k = G k := by unfold rotF; rw [if_neg (by omega), if_neg (by omega)]
theorem rotF_hi (G : Nat → Int) {a m b k : Nat} (h1 : a ≤ m) (h2 : m ≤ b) (h : b ≤ k) : rotF G a m b k = G k := by unfold rotF; rw [if_neg (by omega), if_neg (by omega)]
theorem rotF_one (G : Nat → Int) {a m b k : Nat} (h1 : a ≤ k) (h2 : k < a + (b - m)) : rotF G a m b k = G (k + (m - a)) := by unfold rotF; rw [if_pos ⟨h1, h2⟩]
theorem rotF_two (G : Nat → Int) {a m b k : Nat} (h1 : a + (b - m) ≤ k) (h2 : k < b) : rotF G a m b k = G (k - (b - m)) := by unfold rotF; rw [if_neg (by omega), if_pos ⟨h1, h2⟩]
theorem rotF_left (G : Nat → Int) (m b : Nat) (h : m ≤ b) : rotF G m m b = G := by
  funext k; unfold rotF
  split
  · congr 1; omega
  · split
    · omega
    · rfl
theorem rotF_right (G : Nat → Int) (a m : Nat) (h : a ≤ m) : rotF G a m m = G := by
  funext k; unfold rotF
  split
  · omega
  · split
    · congr 1; omega
    · rfl
theorem rot_gt (G : Nat → Int) (m i j : Nat) (hi : i ≤ m) (hj : j < i) : rotF (swapR G (m - i) m j) (m - (i - j)) m (m + j) = rotF G (m - i) m (m + j) := by
  funext k
  by_cases c1 : k < m - i
  · rw [rotF_lo _ (by omega), rotF_lo _ c1]; unfold swapR; rw [if_neg (by omega), if_neg (by omega)]
  by_cases c2 : k < m - i + j
  · rw [rotF_lo _ (by omega), rotF_one _ (by omega) (by omega)]; unfold swapR; rw [if_pos (by omega)]; congr 1; omega
  by_cases c3 : k < m - i + j + j
  · rw [rotF_one _ (by omega) (by omega), rotF_two _ (by omega) (by omega)]; unfold swapR; rw [if_neg (by omega), if_pos (by omega)]; congr 1; omega
  by_cases c4 : k < m + j
  · rw [rotF_two _ (by omega) (by omega), rotF_two _ (by omega) (by omega)]; unfold swapR; rw [if_neg (by omega), if_neg (by omega)]
  rw [rotF_hi _ (by omega) (by omega) (by omega), rotF_hi _ (by omega) (by omega) (by omega)]; unfold swapR; rw [if_neg (by omega), if_neg (by omega)]
theorem rot_lt (G : Nat → Int) (m i j : Nat) (hi : i ≤ m) (hj : i < j) : rotF (swapR G (m - i) (m + j - i) i) (m - i) m (m + (j - i)) = rotF G (m - i) m (m + j) := by
  funext k
  by_cases c1 : k < m - i
  · rw [rotF_lo _ (by omega), rotF_lo _ c1]; unfold swapR; rw [if_neg (by omega), if_neg (by omega)]
  by_cases c2 : k < m - i + (j - i)
  · rw [rotF_one _ (by omega) (by omega), rotF_one _ (by omega) (by omega)]; unfold swapR
    rw [if_neg (by omega)]
    by_cases c : m + j - i ≤ k + (m - (m - i))
    · omega
    · rw [if_neg (by omega)]
  by_cases c3 : k < m - i + j
  · by_cases c4 : k < m + (j - i)
    · rw [rotF_two _ (by omega) (by omega), rotF_one _ (by omega) (by omega)]; unfold swapR; rw [if_pos (by omega)]; congr 1; omega
    · omega
  by_cases c4 : k < m + (j - i)
  · omega
  by_cases c5 : k < m + j
  · rw [rotF_hi _ (by omega) (by omega) (by omega), rotF_two _ (by omega) (by omega)]; unfold swapR; rw [if_neg (by omega), if_pos (by omega)]; congr 1; omega
  rw [rotF_hi _ (by omega) (by omega) (by omega), rotF_hi _ (by omega) (by omega) (by omega)]; unfold swapR; rw [if_neg (by omega), if_neg (by omega)]
theorem rot_eq (G : Nat → Int) (m i : Nat) (hi : i ≤ m) : swapR G (m - i) m i = rotF G (m - i) m (m + i) := by
  funext k
  by_cases c1 : k < m - i
  · rw [rotF_lo _ c1]; unfold swapR; rw [if_neg (by omega), if_neg (by omega)]
  by_cases c2 : k < m
  · rw [rotF_one _ (by omega) (by omega)]; unfold swapR; rw [if_pos (by omega)]; congr 1; omega
  by_cases c3 : k < m + i
  · rw [rotF_two _ (by omega) (by omega)]; unfold swapR; rw [if_neg (by omega), if_pos (by omega)]; congr 1; omega
  rw [rotF_hi _ (by omega) (by omega) (by omega)]; unfold swapR; rw [if_neg (by omega), if_neg (by omega)]
/-- One exchange of neighbours turns one place more. -/
theorem rot_up (G : Nat → Int) (a k : Nat) (h : a ≤ k) : swapF (rotF G a (a + 1) (k + 1)) (k + 1) = rotF G a (a + 1) (k + 1 + 1) := by
  funext q
  unfold swapF
  by_cases c1 : q = k + 1 - 1
  · rw [if_pos c1, rotF_hi _ (by omega) (by omega) (by omega), rotF_one _ (by omega) (by omega)]; congr 1; omega
  rw [if_neg c1]
  by_cases c2 : q = k + 1
  · rw [if_pos c2, rotF_two _ (by omega) (by omega), rotF_two _ (by omega) (by omega)]; congr 1; omega
  rw [if_neg c2]
  by_cases c3 : q < a
  · rw [rotF_lo _ c3, rotF_lo _ c3]
  by_cases c4 : q < k
  · rw [rotF_one _ (by omega) (by omega), rotF_one _ (by omega) (by omega)]
  rw [rotF_hi _ (by omega) (by omega) (by omega), rotF_hi _ (by omega) (by omega) (by omega)]
theorem rot_down (G : Nat → Int) (m k : Nat) (h : k ≤ m) (h0 : 0 < k) : swapF (rotF G k m (m + 1)) k = rotF G (k - 1) m (m + 1) := by
  funext q
  unfold swapF
  by_cases c1 : q = k - 1
  · rw [if_pos c1, rotF_one _ (by omega) (by omega), rotF_one _ (by omega) (by omega)]; congr 1; omega
  rw [if_neg c1]
  by_cases c2 : q = k
  · rw [if_pos c2, rotF_lo _ (by omega), rotF_two _ (by omega) (by omega)]; congr 1; omega
  rw [if_neg c2]
  by_cases c3 : q < k
  · rw [rotF_lo _ (by omega), rotF_lo _ (by omega)]
  by_cases c4 : q < m + 1
  · rw [rotF_two _ (by omega) (by omega), rotF_two _ (by omega) (by omega)]
  rw [rotF_hi _ (by omega) (by omega) (by omega), rotF_hi _ (by omega) (by omega) (by omega)]

/-- In order from a on, below b. -/
def OrdAB (R : Int → Int → Prop) (G : Nat → Int) (a b : Nat) : Prop := ∀ i j, a ≤ i → i < j → j < b → R (G i) (G j)
/-- The same elements from a on, below b; the others as they were. -/
structure PermAB (F G : Nat → Int) (a b : Nat) : Prop where
  out : ∀ k, (k < a ∨ b ≤ k) → G k = F k
  frm : ∀ k, a ≤ k → k < b → ∃ m, a ≤ m ∧ m < b ∧ G k = F m
  all : ∀ m, a ≤ m → m < b → ∃ k, a ≤ k ∧ k < b ∧ G k = F m
theorem PermAB.refl (F : Nat → Int) (a b : Nat) : PermAB F F a b := ⟨fun _ _ => rfl, fun k h1 h2 => ⟨k, h1, h2, rfl⟩, fun k h1 h2 => ⟨k, h1, h2, rfl⟩⟩
theorem PermAB.trans {F G H : Nat → Int} {a b : Nat} (h : PermAB F G a b) (k : PermAB G H a b) : PermAB F H a b :=
  ⟨fun q hq => (k.out q hq).trans (h.out q hq), fun q h1 h2 => by
    obtain ⟨m, a1, a2, a3⟩ := k.frm q h1 h2
    obtain ⟨m', b1, b2, b3⟩ := h.frm m a1 a2
    exact ⟨m', b1, b2, a3.trans b3⟩, fun q h1 h2 => by
    obtain ⟨m, a1, a2, a3⟩ := h.all q h1 h2
    obtain ⟨m', b1, b2, b3⟩ := k.all m a1 a2
    exact ⟨m', b1, b2, b3.trans a3⟩⟩
theorem PermAB.wide {F G : Nat → Int} {a b c d : Nat} (h : PermAB F G a b) (h1 : c ≤ a) (h2 : b ≤ d) : PermAB F G c d :=
  ⟨fun q hq => h.out q (by omega), fun q q1 q2 => by
    by_cases e : a ≤ q ∧ q < b
    · obtain ⟨m, a1, a2, a3⟩ := h.frm q e.1 e.2
      exact ⟨m, by omega, by omega, a3⟩
    · exact ⟨q, q1, q2, h.out q (by omega)⟩, fun q q1 q2 => by
    by_cases e : a ≤ q ∧ q < b
    · obtain ⟨m, a1, a2, a3⟩ := h.all q e.1 e.2
      exact ⟨m, by omega, by omega, a3⟩
    · exact ⟨q, q1, q2, h.out q (by omega)⟩⟩
theorem rot_perm (G : Nat → Int) {a m b : Nat} (h1 : a ≤ m) (h2 : m ≤ b) : PermAB G (rotF G a m b) a b := by
  refine ⟨fun q hq => ?_, fun q q1 q2 => ?_, fun q q1 q2 => ?_⟩
  · rcases hq with h | h
    · exact rotF_lo G h
    · exact rotF_hi G h1 h2 h
  · by_cases c : q < a + (b - m)
    · exact ⟨q + (m - a), by omega, by omega, rotF_one G q1 c⟩
    · exact ⟨q - (b - m), by omega, by omega, rotF_two G (by omega) q2⟩
  · by_cases c : q < m
    · exact ⟨q + (b - m), by omega, by omega, by rw [rotF_two G (by omega) (by omega)]; congr 1; omega⟩
    · exact ⟨q - (m - a), by omega, by omega, by rw [rotF_one G (by omega) (by omega)]; congr 1; omega⟩
section
variable {R : Int → Int → Prop} (tr : ∀ x y z, R x y → R y z → R x z)
include tr
theorem ord_le {G : Nat → Int} {a b i j : Nat} {z : Int} (h : OrdAB R G a b) (hi : a ≤ i) (hij : i ≤ j) (hj : j < b) (hz : R (G j) z) : R (G i) z := by
  by_cases e : i = j
  · subst e; exact hz
  · exact tr _ _ _ (h i j hi (by omega) hj) hz
theorem ord_ge {G : Nat → Int} {a b i j : Nat} {z : Int} (h : OrdAB R G a b) (hi : a ≤ i) (hij : i ≤ j) (hj : j < b) (hz : R z (G i)) : R z (G j) := by
  by_cases e : i = j
  · subst e; exact hz
  · exact tr _ _ _ hz (h i j hi (by omega) hj)
/-- What is turned between places that were found: all in front are less than all behind. -/
theorem rot_cross {G : Nat → Int} {a s m e b : Nat} (h1 : a ≤ s) (h2 : s ≤ m) (h3 : m ≤ e) (h4 : e ≤ b) (hl : OrdAB R G a m) (hr : OrdAB R G m b)
    (x1 : a < s → e < b → R (G (s - 1)) (G e)) (x2 : s < m → m < e → R (G (e - 1)) (G s)) :
    ∀ i j, a ≤ i → i < s + (e - m) → s + (e - m) ≤ j → j < b → R (rotF G s m e i) (rotF G s m e j) := by
  intro i j hi hi2 hj hj2
  by_cases c1 : i < s
  · rw [rotF_lo G c1]
    by_cases c2 : j < e
    · rw [rotF_two G hj c2]
      exact hl i _ hi (by omega) (by omega)
    · rw [rotF_hi G h2 h3 (by omega)]
      exact ord_le tr hl hi (show i ≤ s - 1 by omega) (by omega) (ord_ge tr hr h3 (show e ≤ j by omega) hj2 (x1 (by omega) (by omega)))
  · rw [rotF_one G (by omega) hi2]
    by_cases c2 : j < e
    · rw [rotF_two G hj c2]
      exact ord_le tr hr (by omega) (show i + (m - s) ≤ e - 1 by omega) (by omega) (ord_ge tr hl h1 (show s ≤ j - (e - m) by omega) (by omega) (x2 (by omega) (by omega)))
    · rw [rotF_hi G h2 h3 (by omega)]
      exact hr _ j (by omega) (by omega) hj2
omit tr in
theorem rot_ord1 {G : Nat → Int} {a s m e : Nat} (h2 : s ≤ m) (hl : OrdAB R G a m) : OrdAB R (rotF G s m e) a s := fun i j hi hij hj => by rw [rotF_lo G (by omega), rotF_lo G hj]; exact hl i j hi hij (by omega)
omit tr in
theorem rot_ord2 {G : Nat → Int} {s m e b : Nat} (h2 : s ≤ m) (h3 : m ≤ e) (h4 : e ≤ b) (hr : OrdAB R G m b) : OrdAB R (rotF G s m e) s (s + (e - m)) := fun i j hi hij hj => by
  rw [rotF_one G hi (by omega), rotF_one G (by omega) hj]; exact hr _ _ (by omega) (by omega) (by omega)
omit tr in
theorem rot_ord3 {G : Nat → Int} {a s m e : Nat} (h1 : a ≤ s) (h2 : s ≤ m) (h3 : m ≤ e) (hl : OrdAB R G a m) : OrdAB R (rotF G s m e) (s + (e - m)) e := fun i j hi hij hj => by
  rw [rotF_two G hi (by omega), rotF_two G (by omega) hj]; exact hl _ _ (by omega) (by omega) (by omega)
omit tr in
theorem rot_ord4 {G : Nat → Int} {s m e b : Nat} (h2 : s ≤ m) (h3 : m ≤ e) (hr : OrdAB R G m b) : OrdAB R (rotF G s m e) e b := fun i j hi hij hj => by
  rw [rotF_hi G h2 h3 hi, rotF_hi G h2 h3 (by omega)]; exact hr _ _ (by omega) (by omega) (by omega)
omit tr in
theorem ord_join {G : Nat → Int} {a m b : Nat} (h1 : OrdAB R G a m) (h2 : OrdAB R G m b) (h3 : ∀ i j, a ≤ i → i < m → m ≤ j → j < b → R (G i) (G j)) : OrdAB R G a b := fun i j hi hij hj => by
  by_cases c1 : j < m
  · exact h1 i j hi hij c1
  by_cases c2 : i < m
  · exact h3 i j hi c2 (by omega) hj
  · exact h2 i j (by omega) hij hj
omit tr in
theorem ord_congr {G H : Nat → Int} {a b : Nat} (h : OrdAB R G a b) (e : ∀ k, a ≤ k → k < b → H k = G k) : OrdAB R H a b := fun i j hi hij hj => by rw [e i hi (by omega), e j (by omega) hj]; exact h i j hi hij hj
omit tr in
theorem ord_small (G : Nat → Int) {a b : Nat} (h : b ≤ a + 1) : OrdAB R G a b := fun i j hi hij hj => by omega
/-- A row turned once is in order. -/
theorem rot_sorted {G : Nat → Int} {a s m e b : Nat} (h1 : a ≤ s) (h2 : s ≤ m) (h3 : m ≤ e) (h4 : e ≤ b) (hl : OrdAB R G a m) (hr : OrdAB R G m b)
    (x1 : a < s → e < b → R (G (s - 1)) (G e)) (x2 : s < m → m < e → R (G (e - 1)) (G s)) (x3 : a < s → m < e → R (G (s - 1)) (G m)) (x4 : s < m → e < b → R (G (m - 1)) (G e)) :
    OrdAB R (rotF G s m e) a b := by
  refine ord_join (m := s + (e - m)) (ord_join (rot_ord1 h2 hl) (rot_ord2 h2 h3 h4 hr) fun i j hi hi2 hj hj2 => ?_) (ord_join (m := e) (rot_ord3 h1 h2 h3 hl) (rot_ord4 h2 h3 hr) fun i j hi hi2 hj hj2 => ?_) (rot_cross tr h1 h2 h3 h4 hl hr x1 x2)
  · rw [rotF_lo G hi2, rotF_one G hj hj2]
    exact ord_le tr hl hi (show i ≤ s - 1 by omega) (by omega) (ord_ge tr hr (Nat.le_refl m) (show m ≤ j + (m - s) by omega) (by omega) (x3 (by omega) (by omega)))
  · rw [rotF_two G hi hi2, rotF_hi G h2 h3 hj]
    exact ord_le tr hl (by omega) (show i - (e - m) ≤ m - 1 by omega) (by omega) (ord_ge tr hr h3 hj hj2 (x4 (by omega) (by omega)))
omit tr in
/-- Two halves that were sorted each. -/
theorem merge_done {G H G1 G2 : Nat → Int} {a mid b : Nat} (hm : a ≤ mid) (hb : mid ≤ b) (hp : PermAB G H a b) (hc : ∀ i j, a ≤ i → i < mid → mid ≤ j → j < b → R (H i) (H j))
    (p1 : PermAB H G1 a mid) (o1 : OrdAB R G1 a mid) (p2 : PermAB G1 G2 mid b) (o2 : OrdAB R G2 mid b) : PermAB G G2 a b ∧ OrdAB R G2 a b := by
  refine ⟨hp.trans ((p1.wide (Nat.le_refl _) hb).trans (p2.wide hm (Nat.le_refl _))), ord_join (m := mid) (ord_congr o1 fun k _ h => p2.out k (.inl h)) o2 fun i j hi hi2 hj hj2 => ?_⟩
  obtain ⟨i', a1, a2, a3⟩ := p1.frm i hi hi2
  obtain ⟨j', b1, b2, b3⟩ := p2.frm j hj hj2
  rw [p2.out i (.inl hi2), a3, b3, p1.out j' (.inr b1)]
  exact hc i' j' a1 a2 b1 b2
end
end Go.Proofs.Ytmdninfmidmmhaa
