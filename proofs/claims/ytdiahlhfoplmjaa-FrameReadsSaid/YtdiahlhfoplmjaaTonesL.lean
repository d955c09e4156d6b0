/- Tones that are read: contract of frame.readTones. -/
import Derived.Test.YtdiahlhfoplmjaaWithinL
namespace Go.Proofs.Ytdiahlhfoplmjaa
set_option linter.unusedVariables false
open Go.RowKit Go.ChangeShapes Go.WideShapes

/-- The bits of k tones. -/
def tonesE (T : Nat → Int) (k : Nat) : List Bool := (List.range k).flatMap fun j => bitsI (T (2 * j)) 4 ++ bitsI (T (2 * j + 1)) 24
theorem tonesE_zero (T : Nat → Int) : tonesE T 0 = [] := rfl
theorem tonesE_succ (T : Nat → Int) (k : Nat) : tonesE T (k + 1) = tonesE T k ++ bitsI (T (2 * k)) 4 ++ bitsI (T (2 * k + 1)) 24 := by simp [tonesE, List.range_succ]
theorem tonesE_congr {T U : Nat → Int} {k : Nat} (h : ∀ j, j < 2 * k → T j = U j) : tonesE T k = tonesE U k := by
  induction k with
  | zero => rfl
  | succ k ih => rw [tonesE_succ, tonesE_succ, ih fun j hj => h j (by omega), h (2 * k) (by omega), h (2 * k + 1) (by omega)]
theorem tonesE_pre (T : Nat → Int) (k n : Nat) (h : k ≤ n) : tonesE T k <+: tonesE T n := by
  induction h with
  | refl => exact List.prefix_refl _
  | step _ ih => rw [tonesE_succ, List.append_assoc]; exact ih.trans (List.prefix_append _ _)
theorem news_two (w : World) (x y : Value) (t : TypeId) : ∀ (j : Nat) (u : Value), [x, y][j]? = some u → (w.alloc (.cells #[x, y] t)).cell? ((⟨w.heap.size, 0, none⟩ : Addr).add j) = some u := by
  intro j u h
  match j, h with
  | 0, h =>
    simp only [List.getElem?_cons_zero, Option.some.injEq] at h
    subst h
    show (w.alloc (.cells #[x, y] t)).cell? ⟨w.heap.size, 0, none⟩ = _
    rw [World.cell?_alloc_at _ _ _ _ rfl]; rfl
  | 1, h =>
    simp only [List.getElem?_cons_succ, List.getElem?_cons_zero, Option.some.injEq] at h
    subst h
    show (w.alloc (.cells #[x, y] t)).cell? ⟨w.heap.size, 1, none⟩ = _
    rw [World.cell?_alloc_at _ _ _ _ rfl]; rfl
  | j + 2, h => simp at h
theorem two_oneCell (a b : Int) : ∀ u ∈ [Value.int .i64 a, Value.int .i64 b], u.oneCell' = true := by
  intro u hu
  simp only [List.mem_cons, List.mem_nil_iff, or_false] at hu
  rcases hu with rfl | rfl <;> rfl

theorem RdP.grow {w w' : World} {X : Nat → Prop} {b n : Nat} {bs : List Int} {er : Int} {L : List Bool} {v : Value} {xs : List Value} (h : RdP w b bs er L) (ho : ownS X w 44 2 v n xs) (k : Kept (fun q => q < w.heap.size ∧ v.ownBlock ≠ some q) w w') : RdP w' b bs er L := by
  rcases ho.1.2 with ⟨hv, _⟩ | ⟨g, cap, cur, hv, _, hh, _⟩
  · exact h.old (k.mono fun q hq => ⟨hq, by rw [hv]; simp [Value.ownBlock]⟩)
  · refine h.but (q0 := g) (k.mono fun q hq => ⟨hq.1, ?_⟩) hh (by decide) (by decide)
    rw [hv]
    have := hq.2
    simp [Value.ownBlock]
    omega

/-- k tones are read, of so many. -/
structure RT (w0 : World) (b : Nat) (bs : List Int) (er0 : Int) (L : List Bool) (n : Nat) (k : Nat) (v : Value) (T : Nat → Int) (er : Int) (wr : World) : Prop where
  rd : RdP wr b bs er (L ++ bitsI n 2 ++ tonesE T k)
  own : ownS (fun q => q < w0.heap.size) wr 44 2 v k (rowL (2 * k) T)
  kept : Kept (butOf w0 b) w0 wr
  bd : ∀ j, j < k → 0 ≤ T (2 * j) ∧ T (2 * j) ≤ 15
  good : er = 0 → er0 = 0 ∧ ∀ j, j < k → fitB (T (2 * j + 1)) 24 = true ∧ (0 < j → T (2 * (j - 1)) < T (2 * j))
  back : ∀ n0 T0, er0 = 0 → tonesP n0 T0 → (L ++ bitsI n0 2 ++ tonesE T0 n0) <+: bitsOf bs → er = 0 ∧ n = n0 ∧ ∀ j, j < 2 * k → T j = T0 j

/-- What the tones' slice is. -/
theorem RT.slice {w0 : World} {b : Nat} {bs : List Int} {er0 : Int} {L : List Bool} {n k : Nat} {v : Value} {T : Nat → Int} {er : Int} {wr : World} (h : RT w0 b bs er0 L n k v T er wr) : ∃ p cap, v = .slice p k cap ∧ k ≤ cap ∧ cap ≤ maxLen ∧ SlF 2 wr p k T := by
  rcases h.own.shape with ⟨hv, h0⟩ | ⟨g, cap, hv, _, hg, hk, hc, hcell⟩
  · exact ⟨none, 0, by rw [hv, h0], by omega, Nat.zero_le _, fun h => by omega⟩
  · refine ⟨some ⟨g, 0, none⟩, cap, hv, hk, hc, fun _ => ⟨g, 0, rfl, hg, fun j hj => ?_⟩⟩
    rw [Nat.zero_add]
    exact hcell j _ (rowL_at _ _ _ hj)
theorem rowL_succ2 (T : Nat → Int) (k : Nat) : rowL (2 * (k + 1)) T = rowL (2 * k) T ++ [.int .i64 (T (2 * k)), .int .i64 (T (2 * k + 1))] := by
  unfold rowL
  rw [show 2 * (k + 1) = 2 * k + 1 + 1 by omega, List.range_succ, List.range_succ]
  simp [blk]

/-- What tones T become by one more. -/
def tonePut (T : Nat → Int) (k : Nat) (x y : Int) : Nat → Int := fun j => if j = 2 * k then x else if j = 2 * k + 1 then y else T j
theorem tonePut_lo (T : Nat → Int) (k : Nat) (x y : Int) : ∀ j, j < 2 * k → tonePut T k x y j = T j := fun j hj => by
  unfold tonePut; rw [if_neg (by omega), if_neg (by omega)]
theorem tonePut_x (T : Nat → Int) (k : Nat) (x y : Int) : tonePut T k x y (2 * k) = x := by unfold tonePut; rw [if_pos rfl]
theorem tonePut_y (T : Nat → Int) (k : Nat) (x y : Int) : tonePut T k x y (2 * k + 1) = y := by unfold tonePut; rw [if_neg (by omega), if_pos rfl]

theorem RT.next {w0 : World} {b : Nat} {bs : List Int} {er0 : Int} {L : List Bool} {n k : Nat} {v : Value} {T : Nat → Int} {er er1 er2 : Int} {wr w1 w2 w3 : World} {x y : Int} {v' : Value} {o : Obj} (h : RT w0 b bs er0 L n k v T er wr) (hk : k < n) (hn2 : n ≤ 2)
    (k1 : Kept (butOf wr b) wr w1) (e1 : er1 = 0 → er = 0 ∧ nextI k T ≤ x ∧ x ≤ 15) (bx : 0 ≤ x ∧ x ≤ 15) (c1 : ∀ v0, er = 0 → nextI k T ≤ v0 → v0 ≤ 15 → v0 < pw 4 → (L ++ bitsI n 2 ++ tonesE T k ++ bitsI v0 4) <+: bitsOf bs → er1 = 0 ∧ x = v0)
    (k2 : Kept (butOf w1 b) w1 w2) (r2 : RdP w2 b bs er2 (L ++ bitsI n 2 ++ tonesE T k ++ bitsI x 4 ++ bitsI y 24)) (e2 : er2 = 0 → er1 = 0) (fy : fitB y 24 = true) (c2 : ∀ v0, er1 = 0 → validI true v0 24 = true → (L ++ bitsI n 2 ++ tonesE T k ++ bitsI x 4 ++ bitsI v0 24) <+: bitsOf bs → er2 = 0 ∧ y = v0)
    (ho : ownS (fun q => q < w2.heap.size ∧ v.ownBlock ≠ some q) w3 44 2 v' (k + 1) (rowL (2 * k) T ++ [.int .i64 x, .int .i64 y])) (k3 : Kept (fun q => q < w2.heap.size ∧ v.ownBlock ≠ some q) (w2.alloc o) w3) (hv' : ∀ q, v'.ownBlock = some q → v.ownBlock = some q ∨ (w2.alloc o).heap.size ≤ q) :
    RT w0 b bs er0 L n (k + 1) v' (tonePut T k x y) er2 w3 := by
  have hlo := tonePut_lo T k x y
  have hx := tonePut_x T k x y
  have hy := tonePut_y T k x y
  have s0 := h.kept.size
  have s1 := k1.size
  have s2 := k2.size
  have hownlt := h.own.lt
  have hb : ∀ q, v.ownBlock = some q → q ≠ b := by
    intro q hq
    obtain ⟨i, hr, _⟩ := h.rd
    rcases h.own.1.2 with ⟨hv, _⟩ | ⟨g, cap, cur, hv, _, hh, _⟩
    · rw [hv] at hq; cases hq
    · have : g = q := by rw [hv] at hq; simpa [Value.ownBlock] using hq
      subst this
      exact hr.ne hh (by decide)
  have own2 : ownS (fun q => q < w0.heap.size) w2 44 2 v k (rowL (2 * k) T) :=
    (h.own.kept k1 fun q hq => ⟨hownlt q hq, hb q hq⟩).kept k2 fun q hq => ⟨Nat.lt_of_lt_of_le (hownlt q hq) s1, hb q hq⟩
  have k3' : Kept (fun q => q < w2.heap.size ∧ v.ownBlock ≠ some q) w2 w3 := (Kept.alloc w2 o fun q hq => hq.1).trans k3
  have hE : tonesE (tonePut T k x y) (k + 1) = tonesE T k ++ bitsI x 4 ++ bitsI y 24 := by rw [tonesE_succ, tonesE_congr hlo, hx, hy]
  have hnx : nextI k (tonePut T k x y) = nextI k T := by
    unfold nextI
    split
    · rfl
    · rw [hlo _ (by omega)]
  refine ⟨?_, ?_, ?_, ?_, ?_, ?_⟩
  · refine (r2.grow own2 k3').congr ?_
    rw [hE]; simp only [List.append_assoc]
  · rw [rowL_succ2, hx, hy, show rowL (2 * k) (tonePut T k x y) = rowL (2 * k) T from rowL_ext _ _ _ hlo]
    refine ho.mono fun q hq hlt => ?_
    rcases hv' q hq with h1 | h1
    · exact h.own.2 q h1 hlt
    · simp at h1; omega
  · refine h.kept.trans ((k1.mono fun q hq => ⟨Nat.lt_of_lt_of_le hq.1 s0, hq.2⟩).trans ((k2.mono fun q hq => ⟨Nat.lt_of_lt_of_le hq.1 (Nat.le_trans s0 s1), hq.2⟩).trans (k3'.mono fun q hq => ⟨Nat.lt_of_lt_of_le hq.1 (Nat.le_trans s0 (Nat.le_trans s1 s2)), fun e => h.own.2 q e hq.1⟩)))
  · intro j hj
    rcases Nat.lt_succ_iff_lt_or_eq.1 hj with h1 | rfl
    · rw [hlo _ (by omega)]; exact h.bd j h1
    · rw [hx]; exact bx
  · intro h2
    obtain ⟨a1, a2, a3⟩ := e1 (e2 h2)
    obtain ⟨g1, g2⟩ := h.good a1
    refine ⟨g1, fun j hj => ?_⟩
    rcases Nat.lt_succ_iff_lt_or_eq.1 hj with h1 | rfl
    · rw [hlo (2 * j + 1) (by omega), hlo (2 * j) (by omega)]
      refine ⟨(g2 j h1).1, fun h0 => ?_⟩
      rw [hlo (2 * (j - 1)) (by omega)]
      exact (g2 j h1).2 h0
    · rw [hx, hy]
      refine ⟨fy, fun h0 => ?_⟩
      rw [hlo (2 * (j - 1)) (by omega)]
      unfold nextI at a2
      rw [if_neg (by omega)] at a2
      omega
  · intro n0 T0 h0 hP hp
    obtain ⟨b1, b2, b3⟩ := h.back n0 T0 h0 hP hp
    subst b2
    have ht := hP.2 k hk
    have hpre : (L ++ bitsI n 2 ++ tonesE T k ++ bitsI (T0 (2 * k)) 4 ++ bitsI (T0 (2 * k + 1)) 24) <+: bitsOf bs := by
      refine List.IsPrefix.trans ?_ hp
      rw [tonesE_congr b3]
      obtain ⟨R, hR⟩ := tonesE_pre T0 (k + 1) n (by omega)
      rw [← hR, tonesE_succ]
      exact ⟨R, by simp only [List.append_assoc]⟩
    have hnx2 : nextI k T ≤ T0 (2 * k) := by
      unfold nextI
      split
      · omega
      · have := ht.2.2.2 (by omega)
        rw [b3 _ (by omega)]
        omega
    obtain ⟨d1, d2⟩ := c1 (T0 (2 * k)) b1 hnx2 ht.2.1 (by have : pw 4 = 16 := rfl; omega) (pre_left hpre)
    subst d2
    obtain ⟨d3, d4⟩ := c2 (T0 (2 * k + 1)) d1 (valid_fit _ 24 (by omega) (by omega) ht.2.2.1).1 hpre
    subst d4
    refine ⟨d3, rfl, fun j hj => ?_⟩
    by_cases j1 : j < 2 * k
    · rw [hlo j j1]; exact b3 j j1
    · by_cases j2 : j = 2 * k
      · rw [j2, hx]
      · rw [show j = 2 * k + 1 by omega, hy]

theorem Try.info_tone : (Try.prog.info? 44).map (fun i => (i.zero, i.size, i.bytes)) = some (some (.agg #[.int .i64 0, .int .i64 0]), 2, 16) := by kernel_rfl
end Go.Proofs.Ytdiahlhfoplmjaa
