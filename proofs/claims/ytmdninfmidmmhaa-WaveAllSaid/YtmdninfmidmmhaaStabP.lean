/- A stable sort by blocks that are merged two by two. No program. -/
import Derived.Test.YtmdninfmidmmhaaMergeP
namespace Go.Proofs.Ytmdninfmidmmhaa
set_option linter.unusedVariables false
set_option maxRecDepth 100000

theorem div_blk {c t a i : Nat} (hc : 0 < c) (ha : a = c * t) : i / c = t ↔ a ≤ i ∧ i < a + c := by
  subst ha
  rw [Nat.div_eq_iff hc]
  rw [Nat.mul_comm t c]
  constructor
  · rintro ⟨h1, h2⟩; exact ⟨h1, by omega⟩
  · rintro ⟨h1, h2⟩; exact ⟨h1, by omega⟩
theorem div_lt {c t a i : Nat} (hc : 0 < c) (ha : a = c * t) (h : i < a) : i / c < t := by
  subst ha; exact (Nat.div_lt_iff_lt_mul hc).2 (by rw [Nat.mul_comm]; exact h)
theorem div_ge {c t a i : Nat} (hc : 0 < c) (ha : a = c * t) (h : a ≤ i) : t ≤ i / c := by
  subst ha; exact (Nat.le_div_iff_mul_le hc).2 (by rw [Nat.mul_comm]; exact h)
/-- Blocks of bs are in order, each of its own elements. -/
structure Blk (R : Int → Int → Prop) (F : Nat → Int) (N bs : Nat) (G : Nat → Int) : Prop where
  ord : ∀ i j, i < j → j < N → i / bs = j / bs → R (G i) (G j)
  frm : ∀ k, k < N → ∃ m, m < N ∧ m / bs = k / bs ∧ G k = F m
  all : ∀ m, m < N → ∃ k, k < N ∧ k / bs = m / bs ∧ G k = F m
/-- Below a blocks of c; from a on blocks of bs. -/
structure Mix (R : Int → Int → Prop) (F : Nat → Int) (N c bs a : Nat) (G : Nat → Int) : Prop where
  ordL : ∀ i j, i < j → j < a → j < N → i / c = j / c → R (G i) (G j)
  ordR : ∀ i j, a ≤ i → i < j → j < N → i / bs = j / bs → R (G i) (G j)
  frmL : ∀ k, k < a → k < N → ∃ m, m < N ∧ m / c = k / c ∧ G k = F m
  frmR : ∀ k, a ≤ k → k < N → ∃ m, m < N ∧ m / bs = k / bs ∧ G k = F m
  allL : ∀ m, m < a → m < N → ∃ k, k < N ∧ k / c = m / c ∧ G k = F m
  allR : ∀ m, a ≤ m → m < N → ∃ k, k < N ∧ k / bs = m / bs ∧ G k = F m
section
variable {R : Int → Int → Prop} {F G G2 : Nat → Int} {N bs a y : Nat}
theorem Blk.mix (h : Blk R F N bs G) (c : Nat) : Mix R F N c bs 0 G :=
  ⟨fun i j _ hj => by omega, fun i j _ => h.ord i j, fun k hk => by omega, fun k _ => h.frm k, fun k hk => by omega, fun k _ => h.all k⟩
/-- The two blocks from a on, merged. -/
theorem Mix.rows (hb : 0 < bs) (h : Mix R F N (2 * bs) bs a G) {t : Nat} (ha : a = 2 * bs * t) (hy1 : a + bs ≤ y) (hy2 : y ≤ a + 2 * bs) (hyN : y ≤ N) (hF : ∀ i j, i < j → j < N → F i < F j) (hB : ∀ k, k < N → 0 ≤ F k ∧ F k < N) :
    OrdAB R G a (a + bs) ∧ OrdAB R G (a + bs) y ∧ (∀ i j, a ≤ i → i < a + bs → a + bs ≤ j → j < y → G i < G j) ∧ (∀ k, a ≤ k → k < y → 0 ≤ G k ∧ G k < N) := by
  have e1 : a = bs * (2 * t) := by rw [ha]; rw [Nat.mul_comm 2 bs, Nat.mul_assoc]
  have e2 : a + bs = bs * (2 * t + 1) := by rw [Nat.mul_add, Nat.mul_one, ← e1]
  refine ⟨fun i j hi hij hj => h.ordR i j hi hij (by omega) ?_, fun i j hi hij hj => h.ordR i j (by omega) hij (by omega) ?_, fun i j hi hi2 hj hj2 => ?_, fun k hk hk2 => ?_⟩
  · rw [(div_blk hb e1).2 ⟨hi, by omega⟩, (div_blk hb e1).2 ⟨by omega, hj⟩]
  · rw [(div_blk hb e2).2 ⟨hi, by omega⟩, (div_blk hb e2).2 ⟨by omega, by omega⟩]
  · obtain ⟨m1, a1, a2, a3⟩ := h.frmR i hi (by omega)
    obtain ⟨m2, b1, b2, b3⟩ := h.frmR j (by omega) (by omega)
    rw [(div_blk hb e1).2 ⟨hi, hi2⟩] at a2
    rw [(div_blk hb e2).2 ⟨hj, by omega⟩] at b2
    have a4 := (div_blk hb e1).1 a2
    have b4 := (div_blk hb e2).1 b2
    rw [a3, b3]
    exact hF m1 m2 (by omega) b1
  · obtain ⟨m1, a1, _, a3⟩ := h.frmR k hk (by omega)
    rw [a3]; exact hB m1 a1
theorem Mix.perm {c : Nat} (hb : 0 < bs) (hc : c = 2 * bs) (h : Mix R F N c bs a G) {t : Nat} (ha : a = c * t) (hy : a ≤ y) (hy2 : y ≤ a + c) (hyN : y ≤ N) (hfull : y = a + c ∨ y = N) (p : PermAB G G2 a y) :
    (∀ k, a ≤ k → k < y → ∃ m, m < N ∧ m / c = k / c ∧ G2 k = F m) ∧ (∀ m, a ≤ m → m < y → ∃ k, k < N ∧ k / c = m / c ∧ G2 k = F m) := by
  have hc0 : 0 < c := by omega
  have e1 : a = bs * (2 * t) := by rw [ha, hc, Nat.mul_comm 2 bs, Nat.mul_assoc]
  have e2 : a + bs = bs * (2 * t + 1) := by rw [Nat.mul_add, Nat.mul_one, ← e1]
  have blk : ∀ q m, a ≤ q → q < a + c → m / bs = q / bs → a ≤ m ∧ m < a + c := fun q m h1 h2 e => by
    by_cases d : q < a + bs
    · rw [(div_blk (i := q) hb e1).2 ⟨h1, d⟩] at e
      have := (div_blk hb e1).1 e
      omega
    · rw [(div_blk (i := q) hb e2).2 ⟨by omega, by omega⟩] at e
      have := (div_blk hb e2).1 e
      omega
  refine ⟨fun k hk hk2 => ?_, fun m hm hm2 => ?_⟩
  · obtain ⟨q, q1, q2, q3⟩ := p.frm k hk hk2
    obtain ⟨m, m1, m2, m3⟩ := h.frmR q q1 (by omega)
    have := blk q m q1 (by omega) m2
    exact ⟨m, m1, by rw [(div_blk hc0 ha).2 this, (div_blk hc0 ha).2 ⟨hk, by omega⟩], q3.trans m3⟩
  · obtain ⟨q, q1, q2, q3⟩ := h.allR m hm (by omega)
    have hq := blk m q hm (by omega) q2
    obtain ⟨k, k1, k2, k3⟩ := p.all q hq.1 (by rcases hfull with e | e <;> omega)
    exact ⟨k, by omega, by rw [(div_blk hc0 ha).2 ⟨k1, by omega⟩, (div_blk hc0 ha).2 ⟨hm, by omega⟩], k3.trans q3⟩
theorem Mix.step (hb : 0 < bs) (h : Mix R F N (2 * bs) bs a G) {t : Nat} (ha : a = 2 * bs * t) (hyN : a + 2 * bs ≤ N) (p : PermAB G G2 a (a + 2 * bs)) (o : OrdAB R G2 a (a + 2 * bs)) : Mix R F N (2 * bs) bs (a + 2 * bs) G2 := by
  have hc0 : 0 < 2 * bs := by omega
  obtain ⟨f1, f2⟩ := h.perm hb rfl ha (y := a + 2 * bs) (by omega) (Nat.le_refl _) hyN (.inl rfl) p
  refine ⟨fun i j hij hj hjN e => ?_, fun i j hi hij hj e => ?_, fun k hk hkN => ?_, fun k hk hkN => ?_, fun k hk hkN => ?_, fun k hk hkN => ?_⟩
  · by_cases d : j < a
    · rw [p.out i (.inl (by omega)), p.out j (.inl d)]
      exact h.ordL i j hij d hjN e
    · rw [(div_blk (i := j) hc0 ha).2 ⟨by omega, hj⟩] at e
      have := (div_blk hc0 ha).1 e
      exact o i j this.1 hij hj
  · rw [p.out i (.inr hi), p.out j (.inr (by omega))]
    exact h.ordR i j (by omega) hij hj e
  · by_cases d : k < a
    · rw [p.out k (.inl d)]; exact h.frmL k d hkN
    · exact f1 k (by omega) hk
  · rw [p.out k (.inr hk)]; exact h.frmR k (by omega) hkN
  · by_cases d : k < a
    · obtain ⟨q, q1, q2, q3⟩ := h.allL k d hkN
      have hq : q < a := by
        have h1 := div_lt hc0 ha d
        rw [← q2] at h1
        exact Nat.lt_of_not_le fun h2 => by have := div_ge hc0 ha h2; omega
      exact ⟨q, q1, q2, by rw [p.out q (.inl hq)]; exact q3⟩
    · exact f2 k (by omega) hk
  · obtain ⟨q, q1, q2, q3⟩ := h.allR k (by omega) hkN
    have hq : a + 2 * bs ≤ q := by
      have e3 : a + 2 * bs = bs * (2 * t + 2) := by rw [ha, Nat.mul_add, Nat.mul_comm bs 2, ← Nat.mul_assoc, Nat.mul_comm bs 2]
      have h1 := div_ge hb e3 hk
      rw [← q2] at h1
      exact Nat.le_of_not_lt fun h2 => by have := div_lt hb e3 h2; omega
    exact ⟨q, q1, q2, by rw [p.out q (.inr hq)]; exact q3⟩
theorem Mix.last (hb : 0 < bs) (h : Mix R F N (2 * bs) bs a G) {t : Nat} (ha : a = 2 * bs * t) (haN : a ≤ N) (hN : N < a + 2 * bs) (p : PermAB G G2 a N) (o : OrdAB R G2 a N) : Blk R F N (2 * bs) G2 := by
  have hc0 : 0 < 2 * bs := by omega
  obtain ⟨f1, f2⟩ := h.perm hb rfl ha (y := N) haN (by omega) (Nat.le_refl _) (.inr rfl) p
  refine ⟨fun i j hij hjN e => ?_, fun k hkN => ?_, fun k hkN => ?_⟩
  · by_cases d : j < a
    · rw [p.out i (.inl (by omega)), p.out j (.inl d)]
      exact h.ordL i j hij d hjN e
    · rw [(div_blk (i := j) hc0 ha).2 ⟨by omega, by omega⟩] at e
      have := (div_blk hc0 ha).1 e
      exact o i j this.1 hij hjN
  · by_cases d : k < a
    · rw [p.out k (.inl d)]; exact h.frmL k d hkN
    · exact f1 k (by omega) hkN
  · by_cases d : k < a
    · obtain ⟨q, q1, q2, q3⟩ := h.allL k d hkN
      have hq : q < a := by
        have h1 := div_lt hc0 ha d
        rw [← q2] at h1
        exact Nat.lt_of_not_le fun h2 => by have := div_ge hc0 ha h2; omega
      exact ⟨q, q1, q2, by rw [p.out q (.inl hq)]; exact q3⟩
    · exact f2 k (by omega) hkN
/-- The last block has no other beside it. -/
theorem Mix.alone (hb : 0 < bs) (h : Mix R F N (2 * bs) bs a G) {t : Nat} (ha : a = 2 * bs * t) (hN : N ≤ a + bs) : OrdAB R G a N := fun i j hi hij hj => by
  have e1 : a = bs * (2 * t) := by rw [ha]; rw [Nat.mul_comm 2 bs, Nat.mul_assoc]
  exact h.ordR i j hi hij hj (by rw [(div_blk hb e1).2 ⟨hi, by omega⟩, (div_blk hb e1).2 ⟨by omega, by omega⟩])
theorem Blk.done (h : Blk R F N bs G) (hN : N ≤ bs) : SrtO R F N G :=
  ⟨fun i j hij hj => h.ord i j hij hj (by rw [Nat.div_eq_of_lt (by omega), Nat.div_eq_of_lt (by omega)]), fun k hk => by
    obtain ⟨m, h1, _, h2⟩ := h.frm k hk
    exact ⟨m, h1, h2⟩, fun k hk => by
    obtain ⟨m, h1, _, h2⟩ := h.all k hk
    exact ⟨m, h1, h2⟩⟩
/-- Below a blocks of 20 are in order; the others are as they were. -/
structure Ini (R : Int → Int → Prop) (F : Nat → Int) (N a : Nat) (G : Nat → Int) : Prop where
  t : a % 20 = 0
  ord : ∀ i j, i < j → j < a → i / 20 = j / 20 → R (G i) (G j)
  frm : ∀ k, k < a → ∃ m, m < a ∧ m / 20 = k / 20 ∧ G k = F m
  all : ∀ m, m < a → ∃ k, k < a ∧ k / 20 = m / 20 ∧ G k = F m
  rest : ∀ k, a ≤ k → G k = F k
theorem Ini.start (R : Int → Int → Prop) (F : Nat → Int) (N : Nat) : Ini R F N 0 F := ⟨rfl, fun i j _ h => by omega, fun k h => by omega, fun k h => by omega, fun _ _ => rfl⟩
theorem Ini.step (h : Ini R F N a G) (p : PermAB G G2 a (a + 20)) (o : OrdAB R G2 a (a + 20)) : Ini R F N (a + 20) G2 := by
  have ht := h.t
  refine ⟨by omega, fun i j hij hj e => ?_, fun k hk => ?_, fun k hk => ?_, fun k hk => ?_⟩
  · by_cases d : j < a
    · rw [p.out i (.inl (by omega)), p.out j (.inl d)]; exact h.ord i j hij d e
    · exact o i j (by omega) hij hj
  · by_cases d : k < a
    · rw [p.out k (.inl d)]
      obtain ⟨m, a1, a2, a3⟩ := h.frm k d
      exact ⟨m, by omega, a2, a3⟩
    · obtain ⟨m, a1, a2, a3⟩ := p.frm k (by omega) hk
      exact ⟨m, a2, by omega, a3.trans (h.rest m a1)⟩
  · by_cases d : k < a
    · obtain ⟨m, a1, a2, a3⟩ := h.all k d
      exact ⟨m, by omega, a2, by rw [p.out m (.inl a1)]; exact a3⟩
    · obtain ⟨m, a1, a2, a3⟩ := p.all k (by omega) hk
      exact ⟨m, a2, by omega, a3.trans (h.rest k (by omega))⟩
  · rw [p.out k (.inr hk)]; exact h.rest k (by omega)
theorem Ini.last (h : Ini R F N a G) (haN : a ≤ N) (hN : N < a + 20) (p : PermAB G G2 a N) (o : OrdAB R G2 a N) : Blk R F N 20 G2 := by
  have ht := h.t
  refine ⟨fun i j hij hj e => ?_, fun k hk => ?_, fun k hk => ?_⟩
  · by_cases d : j < a
    · rw [p.out i (.inl (by omega)), p.out j (.inl d)]; exact h.ord i j hij d e
    · exact o i j (by omega) hij hj
  · by_cases d : k < a
    · rw [p.out k (.inl d)]
      obtain ⟨m, a1, a2, a3⟩ := h.frm k d
      exact ⟨m, by omega, a2, a3⟩
    · obtain ⟨m, a1, a2, a3⟩ := p.frm k (by omega) hk
      exact ⟨m, a2, by omega, a3.trans (h.rest m a1)⟩
  · by_cases d : k < a
    · obtain ⟨m, a1, a2, a3⟩ := h.all k d
      exact ⟨m, by omega, a2, by rw [p.out m (.inl a1)]; exact a3⟩
    · obtain ⟨m, a1, a2, a3⟩ := p.all k (by omega) hk
      exact ⟨m, a2, by omega, a3.trans (h.rest k (by omega))⟩
end
end Go.Proofs.Ytmdninfmidmmhaa
