/- A frame that is read: what is known on the way. -/
import Derived.Test.YtdiahlhfoplmjaaTonesM
namespace Go.Proofs.Ytdiahlhfoplmjaa
set_option linter.unusedVariables false
open Go.RowKit Go.ChangeShapes Go.WideShapes

theorem encG_congr {F G : Nat → Int} {k : Nat} (h : ∀ j, j < k → F j = G j) : encG F k = encG G k := by
  induction k with
  | zero => rw [encG_zero, encG_zero]
  | succ k ih => rw [encG_succ, encG_succ, ih fun j hj => h j (by omega), h k (by omega)]
theorem encT_tones (F : Nat → Int) (n : Nat) (T : Nat → Int) (k : Nat) : encT F n T k = encG F 4 ++ bitsI n 2 ++ tonesE T k := rfl
theorem encT_congr {F G : Nat → Int} {n : Nat} {T U : Nat → Int} {k : Nat} (h : ∀ j, j < 4 → F j = G j) (hT : ∀ j, j < 2 * k → T j = U j) : encT F n T k = encT G n U k := by
  rw [encT_tones, encT_tones, encG_congr h, tonesE_congr hT]
theorem encS_congr {F G : Nat → Int} {n : Nat} {T U : Nat → Int} {k : Nat} (h : ∀ j, j < 4 → F j = G j) (hT : ∀ j, j < 2 * n → T j = U j) (hS : ∀ j, j < k → F (5 + j) = G (5 + j) ∧ F (9 + j) = G (9 + j)) : encS F n T k = encS G n U k := by
  induction k with
  | zero => rw [encS_zero, encS_zero, encT_congr h hT]
  | succ k ih => rw [encS_succ, encS_succ, ih fun j hj => hS j (by omega), (hS k (by omega)).1, (hS k (by omega)).2]
theorem encQ_congr {F G : Nat → Int} {n : Nat} {T U : Nat → Int} {k : Nat} (h : ∀ j, j < 4 → F j = G j) (hT : ∀ j, j < 2 * n → T j = U j) (hS : ∀ j, j < 4 → F (5 + j) = G (5 + j) ∧ F (9 + j) = G (9 + j)) (hQ : ∀ j, j < k → F (13 + j) = G (13 + j)) (hk : k ≤ 16) : encQ F n T k = encQ G n U k := by
  induction k with
  | zero => rw [encQ_zero, encQ_zero, encS_congr h hT hS]
  | succ k ih => rw [encQ_succ, encQ_succ, ih (fun j hj => hQ j (by omega)) (by omega), hQ k (by omega), (hS (k / 4) (by omega)).2]
theorem mono_pre {f : Nat → List Bool} (hs : ∀ k, ∃ R, f (k + 1) = f k ++ R) {k m : Nat} (h : k ≤ m) : f k <+: f m := by
  induction h with
  | refl => exact List.prefix_refl _
  | step _ ih => obtain ⟨R, hR⟩ := hs _; rw [hR]; exact ih.trans (List.prefix_append _ _)
theorem encQ_pre (F : Nat → Int) (n : Nat) (T : Nat → Int) {k : Nat} (h : k ≤ 16) : encQ F n T k <+: enc F n T := mono_pre (fun k => ⟨_, encQ_succ F n T k⟩) h
theorem encS_pre (F : Nat → Int) (n : Nat) (T : Nat → Int) {k : Nat} (h : k ≤ 4) : encS F n T k <+: enc F n T := by
  have h1 : encS F n T k <+: encS F n T 4 := mono_pre (f := encS F n T) (fun k => ⟨_, by rw [encS_succ, List.append_assoc]⟩) h
  rw [← encQ_zero] at h1
  exact h1.trans (encQ_pre F n T (by omega))
theorem encT_pre (F : Nat → Int) (n : Nat) (T : Nat → Int) : encT F n T n <+: enc F n T := by
  have := encS_pre F n T (k := 0) (by omega)
  rwa [encS_zero] at this
theorem encG_pre (F : Nat → Int) (n : Nat) (T : Nat → Int) {k : Nat} (h : k ≤ 4) : encG F k <+: enc F n T := by
  have h1 : encG F k <+: encG F 4 := mono_pre (fun k => ⟨_, encG_succ F k⟩) h
  have h2 : encG F 4 <+: encT F n T n := by rw [encT_tones, List.append_assoc]; exact List.prefix_append _ _
  exact (h1.trans h2).trans (encT_pre F n T)

/-- A frame is being read: rb is the result's block, fb the frame's, b the reader's; L are the bits that were told; A holds if there is no error; C of each frame of which these bytes are. -/
structure RS (w : World) (rb fb b : Nat) (z : Array Value) (bs : List Int) (L : List Bool) (F : Nat → Int) (s : Value) (n : Nat) (T : Nat → Int) (A : Prop) (C : (Nat → Int) → Nat → (Nat → Int) → Prop) (er : Int) (wr : World) : Prop where
  rd : RdP wr b bs er L
  fr : FrB 27 wr fb F s
  res : wr.heap[rb]? = some (.cells z 27 (0, 0))
  own : ownS (fun q => q < w.heap.size) wr 44 2 s n (rowL (2 * n) T)
  old : Old w wr
  nrb : w.heap.size ≤ rb
  nfb : w.heap.size ≤ fb
  nb : w.heap.size ≤ b
  ne : rb ≠ fb
  wb : ∀ j, j < 4 → 0 ≤ F (9 + j) ∧ F (9 + j) ≤ 24
  good : er = 0 → A
  back : ∀ F0 n0 T0, FrP F0 n0 T0 → enc F0 n0 T0 <+: bitsOf bs → er = 0 ∧ C F0 n0 T0
namespace RS
variable {w : World} {rb fb b : Nat} {z : Array Value} {bs : List Int} {L L1 : List Bool} {F : Nat → Int} {s : Value} {n : Nat} {T : Nat → Int} {A A1 : Prop} {C C1 : (Nat → Int) → Nat → (Nat → Int) → Prop} {er er1 : Int} {wr w1 : World}
theorem fne (h : RS w rb fb b z bs L F s n T A C er wr) : fb ≠ b := by obtain ⟨i, hr, _⟩ := h.rd; exact hr.ne h.fr (by decide)
theorem rne (h : RS w rb fb b z bs L F s n T A C er wr) : rb ≠ b := by obtain ⟨i, hr, _⟩ := h.rd; exact hr.ne h.res (by decide)
theorem own_ne (h : RS w rb fb b z bs L F s n T A C er wr) : ∀ q, s.ownBlock = some q → q ≠ b ∧ q ≠ fb := by
  intro q hq
  obtain ⟨i, hr, _⟩ := h.rd
  rcases h.own.1.2 with ⟨hv, _⟩ | ⟨g, cap, cur, hv, _, hh, _⟩
  · rw [hv] at hq; cases hq
  · have : g = q := by rw [hv] at hq; simpa [Value.ownBlock] using hq
    subst this
    refine ⟨hr.ne hh (by decide), fun e => ?_⟩
    subst e
    have := h.fr
    unfold FrB at this
    rw [hh] at this
    simp only [Option.some.injEq, Obj.cells.injEq] at this
    exact absurd this.2.1 (by decide)
/-- The reader alone has gone on. -/
theorem mv (h : RS w rb fb b z bs L F s n T A C er wr) (k1 : Kept (butOf wr b) wr w1) (r1 : RdP w1 b bs er1 L1) (hA : er1 = 0 → er = 0 ∧ (A → A1))
    (hC : ∀ F0 n0 T0, FrP F0 n0 T0 → enc F0 n0 T0 <+: bitsOf bs → er = 0 → C F0 n0 T0 → er1 = 0 ∧ C1 F0 n0 T0) : RS w rb fb b z bs L1 F s n T A1 C1 er1 w1 where
  rd := r1
  fr := h.fr.kept k1 ⟨lt_of_block h.fr, h.fne⟩
  res := (k1.block rb ⟨lt_of_block h.res, h.rne⟩).trans h.res
  own := h.own.kept k1 fun q hq => ⟨h.own.lt q hq, (h.own_ne q hq).1⟩
  old := Kept.trans h.old (k1.mono fun q hq => ⟨Nat.lt_of_lt_of_le hq h.old.size, fun e => by have := h.nb; omega⟩)
  nrb := h.nrb
  nfb := h.nfb
  nb := h.nb
  ne := h.ne
  wb := h.wb
  good := fun h0 => (hA h0).2 (h.good (hA h0).1)
  back := fun F0 n0 T0 hP hp => hC F0 n0 T0 hP hp (h.back F0 n0 T0 hP hp).1 (h.back F0 n0 T0 hP hp).2
/-- A number of the frame is laid down. -/
theorem st (h : RS w rb fb b z bs L F s n T A C er wr) (j : Nat) (hj : j < 29) (h4 : j ≠ 4) (v : Int) (hv : 9 ≤ j → j < 13 → 0 ≤ v ∧ v ≤ 24) (hL : L = L1) (hA : A → A1) (hC : ∀ F0 n0 T0, FrP F0 n0 T0 → C F0 n0 T0 → C1 F0 n0 T0) :
    RS w rb fb b z bs L1 (fun k => if k = j then v else F k) s n T A1 C1 er (wr.setCell ⟨fb, j, none⟩ (.int .i64 v)) := by
  have hk : Kept (butOf wr fb) wr (wr.setCell ⟨fb, j, none⟩ (.int .i64 v)) := Kept.setCell wr (a := ⟨fb, j, none⟩) (fun h => h.2 rfl) _
  exact {
    rd := (h.rd.but hk h.fr (by decide) (by decide)).congr hL
    fr := h.fr.set j hj h4 v
    res := (hk.block rb ⟨lt_of_block h.res, h.ne⟩).trans h.res
    own := h.own.kept hk fun q hq => ⟨h.own.lt q hq, (h.own_ne q hq).2⟩
    old := Kept.trans h.old (hk.mono fun q hq => ⟨Nat.lt_of_lt_of_le hq h.old.size, fun e => by have := h.nfb; omega⟩)
    nrb := h.nrb
    nfb := h.nfb
    nb := h.nb
    ne := h.ne
    wb := fun q hq => by
      split
      · exact hv (by omega) (by omega)
      · exact h.wb q hq
    good := fun h0 => hA (h.good h0)
    back := fun F0 n0 T0 hP hp => ⟨(h.back F0 n0 T0 hP hp).1, hC F0 n0 T0 hP (h.back F0 n0 T0 hP hp).2⟩ }
end RS
/-- What is known of the gains. -/
def GA (F : Nat → Int) (k : Nat) : Prop := ∀ j, j < k → 0 ≤ F j ∧ F j ≤ 3
def GC (F : Nat → Int) (k : Nat) (F0 : Nat → Int) : Prop := ∀ j, j < k → F j = F0 j
/-- .. and of scales and widths. -/
def SA (F : Nat → Int) (k : Nat) : Prop := ∀ j, j < k → (0 ≤ F (5 + j) ∧ F (5 + j) ≤ 23) ∧ (0 ≤ F (9 + j) ∧ F (9 + j) ≤ 24)
def SC (F : Nat → Int) (k : Nat) (F0 : Nat → Int) : Prop := ∀ j, j < k → F (5 + j) = F0 (5 + j) ∧ F (9 + j) = F0 (9 + j)
/-- .. and of the steps. -/
def QA (F : Nat → Int) (k : Nat) : Prop := ∀ j, j < k → fitB (F (13 + j)) (F (9 + j / 4)) = true
def QC (F : Nat → Int) (k : Nat) (F0 : Nat → Int) : Prop := ∀ j, j < k → F (13 + j) = F0 (13 + j)
def TC (n : Nat) (T : Nat → Int) (n0 : Nat) (T0 : Nat → Int) : Prop := n = n0 ∧ ∀ j, j < 2 * n → T j = T0 j
def up (F : Nat → Int) (j : Nat) (v : Int) : Nat → Int := fun k => if k = j then v else F k
theorem up_at (F : Nat → Int) (j : Nat) (v : Int) : up F j v j = v := if_pos rfl
theorem up_ne (F : Nat → Int) (j k : Nat) (v : Int) (h : k ≠ j) : up F j v k = F k := if_neg h

section
variable {w : World} {rb fb b : Nat} {z : Array Value} {bs : List Int} {F : Nat → Int} {s : Value} {n k : Nat} {T : Nat → Int} {er er1 : Int} {wr w1 : World} {e : Ending}
/-- A gain is read. -/
theorem RS.gain (h : RS w rb fb b z bs (encG F k) F s n T (GA F k) (fun F0 _ _ => GC F k F0) er wr) (hk : k < 4) {v : Int} (k1 : Kept (butOf wr b) wr w1) (r1 : RdP w1 b bs er1 (encG F k ++ bitsI v 2)) (e1 : er1 = 0 → er = 0 ∧ 0 ≤ v ∧ v ≤ 3)
    (c1 : ∀ v0, er = 0 → 0 ≤ v0 → v0 ≤ 3 → v0 < 4 → (encG F k ++ bitsI v0 2) <+: bitsOf bs → er1 = 0 ∧ v = v0) :
    RS w rb fb b z bs (encG (up F k v) (k + 1)) (up F k v) s n T (GA (up F k v) (k + 1)) (fun F0 _ _ => GC (up F k v) (k + 1) F0) er1 (w1.setCell ⟨fb, k, none⟩ (.int .i64 v)) := by
  refine (h.mv (A1 := GA F k ∧ 0 ≤ v ∧ v ≤ 3) (C1 := fun F0 _ _ => GC F k F0 ∧ v = F0 k) k1 r1 (fun h0 => ⟨(e1 h0).1, fun hA => ⟨hA, (e1 h0).2⟩⟩) (fun F0 n0 T0 hP hp h0 hC => ?_)).st k (by omega) (by omega) v (fun h1 _ => by omega) ?_ ?_ ?_
  · have hp2 := (encG_pre F0 n0 T0 (k := k + 1) (by omega)).trans hp
    rw [encG_succ, ← encG_congr hC] at hp2
    have hg := hP.hg k hk
    obtain ⟨d1, d2⟩ := c1 (F0 k) h0 hg.1 hg.2 (by omega) hp2
    exact ⟨d1, hC, d2⟩
  · show _ = encG (up F k v) (k + 1)
    rw [encG_succ, up_at, encG_congr (F := up F k v) (G := F) fun j hj => up_ne F k j v (by omega)]
  · rintro ⟨h1, h2⟩ j hj
    show 0 ≤ up F k v j ∧ up F k v j ≤ 3
    rcases Nat.lt_succ_iff_lt_or_eq.1 hj with h3 | rfl
    · rw [up_ne F k j v (by omega)]; exact h1 j h3
    · rw [up_at]; exact h2
  · rintro F0 n0 T0 _ ⟨h1, h2⟩ j hj
    show up F k v j = F0 j
    rcases Nat.lt_succ_iff_lt_or_eq.1 hj with h3 | rfl
    · rw [up_ne F k j v (by omega)]; exact h1 j h3
    · rw [up_at]; exact h2
/-- What is known of a frame's head and tones. -/
def HA (F : Nat → Int) (n : Nat) (T : Nat → Int) : Prop := GA F 4 ∧ tonesP n T
def HC (F : Nat → Int) (n : Nat) (T : Nat → Int) (F0 : Nat → Int) (n0 : Nat) (T0 : Nat → Int) : Prop := GC F 4 F0 ∧ TC n T n0 T0
/-- The tones are read. -/
theorem RS.tones {n0 : Nat} {s0 : Value} {T0 : Nat → Int} (h : RS w rb fb b z bs (encG F 4) F s0 n0 T0 (GA F 4) (fun F0 _ _ => GC F 4 F0) er wr) {p : Option Addr} {cap : Nat} (hn2 : n ≤ 2) (hr : RT wr b bs er (encG F 4) n n (.slice p n cap) T er1 w1) :
    RS w rb fb b z bs (encS F n T 0) F (.slice p n cap) n T (HA F n T) (fun F0 n0 T0 => HC F n T F0 n0 T0) er1 (w1.setCell ⟨fb, 4, none⟩ (.slice p n cap)) := by
  have k1 := hr.kept
  have hfr : FrB 27 w1 fb F s0 := h.fr.kept k1 ⟨lt_of_block h.fr, h.fne⟩
  have hk : Kept (butOf w1 fb) w1 (w1.setCell ⟨fb, 4, none⟩ (.slice p n cap)) := Kept.setCell w1 (a := ⟨fb, 4, none⟩) (fun h => h.2 rfl) _
  have hs := h.old.size
  have hs1 := k1.size
  have hownf : ∀ q, (Value.slice p n cap).ownBlock = some q → q ≠ fb := fun q hq e => by
    have := hr.own.2 q hq
    subst e
    exact this (lt_of_block h.fr)
  exact {
    rd := (hr.rd.but hk hfr (by decide) (by decide)).congr (by rw [encS_zero, encT_tones])
    fr := hfr.set4 _
    res := (hk.block rb ⟨Nat.lt_of_lt_of_le (lt_of_block h.res) hs1, h.ne⟩).trans ((k1.block rb ⟨lt_of_block h.res, h.rne⟩).trans h.res)
    own := (hr.own.mono fun q hq hlt => hr.own.2 q hq (Nat.lt_of_lt_of_le hlt hs)).kept hk fun q hq => ⟨hr.own.lt q hq, hownf q hq⟩
    old := Kept.trans (Kept.trans h.old (k1.mono fun q hq => ⟨Nat.lt_of_lt_of_le hq hs, fun e => by have := h.nb; omega⟩)) (hk.mono fun q hq => ⟨Nat.lt_of_lt_of_le hq (Nat.le_trans hs hs1), fun e => by have := h.nfb; omega⟩)
    nrb := h.nrb
    nfb := h.nfb
    nb := h.nb
    ne := h.ne
    wb := h.wb
    good := fun h0 => by
      obtain ⟨g1, g2⟩ := hr.good h0
      exact ⟨h.good g1, hn2, fun j hj => ⟨(hr.bd j hj).1, (hr.bd j hj).2, (g2 j hj).1, (g2 j hj).2⟩⟩
    back := fun F0 m0 U0 hP hp => by
      obtain ⟨a1, a2⟩ := h.back F0 m0 U0 hP hp
      have hp2 := (encT_pre F0 m0 U0).trans hp
      rw [encT_tones, ← encG_congr a2] at hp2
      obtain ⟨b1, b2, b3⟩ := hr.back m0 U0 a1 ⟨hP.hn, hP.ht⟩ hp2
      exact ⟨b1, a2, b2, b3⟩ }
/-- A scale is read. -/
theorem RS.scale (h : RS w rb fb b z bs (encS F n T k) F s n T (HA F n T ∧ SA F k) (fun F0 n0 T0 => HC F n T F0 n0 T0 ∧ SC F k F0) er wr) (hk : k < 4) {v : Int} (k1 : Kept (butOf wr b) wr w1) (r1 : RdP w1 b bs er1 (encS F n T k ++ bitsI v 5)) (e1 : er1 = 0 → er = 0 ∧ 0 ≤ v ∧ v ≤ 23)
    (c1 : ∀ v0, er = 0 → 0 ≤ v0 → v0 ≤ 23 → v0 < 32 → (encS F n T k ++ bitsI v0 5) <+: bitsOf bs → er1 = 0 ∧ v = v0) :
    RS w rb fb b z bs (encS (up F (5 + k) v) n T k ++ bitsI v 5) (up F (5 + k) v) s n T ((HA (up F (5 + k) v) n T ∧ SA (up F (5 + k) v) k) ∧ 0 ≤ v ∧ v ≤ 23) (fun F0 n0 T0 => (HC (up F (5 + k) v) n T F0 n0 T0 ∧ SC (up F (5 + k) v) k F0) ∧ v = F0 (5 + k)) er1 (w1.setCell ⟨fb, 5 + k, none⟩ (.int .i64 v)) := by
  have hu : ∀ j, j ≠ 5 + k → up F (5 + k) v j = F j := fun j hj => up_ne F (5 + k) j v hj
  refine (h.mv (A1 := (HA F n T ∧ SA F k) ∧ 0 ≤ v ∧ v ≤ 23) (C1 := fun F0 n0 T0 => (HC F n T F0 n0 T0 ∧ SC F k F0) ∧ v = F0 (5 + k)) k1 r1 (fun h0 => ⟨(e1 h0).1, fun hA => ⟨hA, (e1 h0).2⟩⟩) (fun F0 n0 T0 hP hp h0 hC => ?_)).st (5 + k) (by omega) (by omega) v (fun h1 _ => by omega) ?_ ?_ ?_
  · obtain ⟨⟨hg, hn, ht⟩, hs⟩ := hC
    subst hn
    have hp2 := (encS_pre F0 n T0 (k := k + 1) (by omega)).trans hp
    rw [encS_succ, ← encS_congr hg ht hs] at hp2
    have hg2 := hP.hs k hk
    obtain ⟨d1, d2⟩ := c1 (F0 (5 + k)) h0 hg2.1 hg2.2 (by omega) (pre_left hp2)
    exact ⟨d1, ⟨⟨hg, rfl, ht⟩, hs⟩, d2⟩
  · show _ = encS (up F (5 + k) v) n T k ++ bitsI v 5
    rw [encS_congr (F := up F (5 + k) v) (G := F) (fun j hj => hu j (by omega)) (fun _ _ => rfl) (fun j hj => ⟨hu _ (by omega), hu _ (by omega)⟩)]
  · rintro ⟨⟨⟨h1, h2⟩, h3⟩, h4⟩
    refine ⟨⟨⟨fun j hj => ?_, h2⟩, fun j hj => ?_⟩, h4⟩
    · show 0 ≤ up F (5 + k) v j ∧ up F (5 + k) v j ≤ 3
      rw [hu j (by omega)]; exact h1 j hj
    · show (0 ≤ up F (5 + k) v (5 + j) ∧ up F (5 + k) v (5 + j) ≤ 23) ∧ (0 ≤ up F (5 + k) v (9 + j) ∧ up F (5 + k) v (9 + j) ≤ 24)
      rw [hu (5 + j) (by omega), hu (9 + j) (by omega)]; exact h3 j hj
  · rintro F0 n0 T0 _ ⟨⟨⟨h1, h2⟩, h3⟩, h4⟩
    refine ⟨⟨⟨fun j hj => ?_, h2⟩, fun j hj => ?_⟩, h4⟩
    · show up F (5 + k) v j = F0 j
      rw [hu j (by omega)]; exact h1 j hj
    · show up F (5 + k) v (5 + j) = F0 (5 + j) ∧ up F (5 + k) v (9 + j) = F0 (9 + j)
      rw [hu (5 + j) (by omega), hu (9 + j) (by omega)]; exact h3 j hj
/-- A width is read. -/
theorem RS.width {u : Int} (h : RS w rb fb b z bs (encS F n T k ++ bitsI u 5) F s n T ((HA F n T ∧ SA F k) ∧ 0 ≤ u ∧ u ≤ 23) (fun F0 n0 T0 => (HC F n T F0 n0 T0 ∧ SC F k F0) ∧ u = F0 (5 + k)) er wr) (hu5 : F (5 + k) = u) (hk : k < 4) {v : Int} (k1 : Kept (butOf wr b) wr w1) (r1 : RdP w1 b bs er1 (encS F n T k ++ bitsI u 5 ++ bitsI v 5)) (e1 : er1 = 0 → er = 0 ∧ 0 ≤ v ∧ v ≤ 24) (bv : 0 ≤ v ∧ v ≤ 24)
    (c1 : ∀ v0, er = 0 → 0 ≤ v0 → v0 ≤ 24 → v0 < 32 → (encS F n T k ++ bitsI u 5 ++ bitsI v0 5) <+: bitsOf bs → er1 = 0 ∧ v = v0) :
    RS w rb fb b z bs (encS (up F (9 + k) v) n T (k + 1)) (up F (9 + k) v) s n T (HA (up F (9 + k) v) n T ∧ SA (up F (9 + k) v) (k + 1)) (fun F0 n0 T0 => HC (up F (9 + k) v) n T F0 n0 T0 ∧ SC (up F (9 + k) v) (k + 1) F0) er1 (w1.setCell ⟨fb, 9 + k, none⟩ (.int .i64 v)) := by
  have hu : ∀ j, j ≠ 9 + k → up F (9 + k) v j = F j := fun j hj => up_ne F (9 + k) j v hj
  refine (h.mv (A1 := ((HA F n T ∧ SA F k) ∧ 0 ≤ u ∧ u ≤ 23) ∧ 0 ≤ v ∧ v ≤ 24) (C1 := fun F0 n0 T0 => ((HC F n T F0 n0 T0 ∧ SC F k F0) ∧ u = F0 (5 + k)) ∧ v = F0 (9 + k)) k1 r1 (fun h0 => ⟨(e1 h0).1, fun hA => ⟨hA, (e1 h0).2⟩⟩) (fun F0 n0 T0 hP hp h0 hC => ?_)).st (9 + k) (by omega) (by omega) v (fun _ _ => bv) ?_ ?_ ?_
  · obtain ⟨⟨⟨hg, hn, ht⟩, hs⟩, hu0⟩ := hC
    subst hn
    have hp2 := (encS_pre F0 n T0 (k := k + 1) (by omega)).trans hp
    rw [encS_succ, ← encS_congr hg ht hs, ← hu0] at hp2
    have hg2 := hP.hw k hk
    obtain ⟨d1, d2⟩ := c1 (F0 (9 + k)) h0 hg2.1 hg2.2 (by omega) hp2
    exact ⟨d1, ⟨⟨⟨hg, rfl, ht⟩, hs⟩, hu0⟩, d2⟩
  · show _ = encS (up F (9 + k) v) n T (k + 1)
    rw [encS_succ, encS_congr (F := up F (9 + k) v) (G := F) (fun j hj => hu j (by omega)) (fun _ _ => rfl) (fun j hj => ⟨hu _ (by omega), hu _ (by omega)⟩), up_at, hu (5 + k) (by omega), hu5]
  · rintro ⟨⟨⟨⟨h1, h2⟩, h3⟩, h4⟩, h5⟩
    refine ⟨⟨fun j hj => ?_, h2⟩, fun j hj => ?_⟩
    · show 0 ≤ up F (9 + k) v j ∧ up F (9 + k) v j ≤ 3
      rw [hu j (by omega)]; exact h1 j hj
    · show (0 ≤ up F (9 + k) v (5 + j) ∧ up F (9 + k) v (5 + j) ≤ 23) ∧ (0 ≤ up F (9 + k) v (9 + j) ∧ up F (9 + k) v (9 + j) ≤ 24)
      rcases Nat.lt_succ_iff_lt_or_eq.1 hj with h6 | rfl
      · rw [hu (5 + j) (by omega), hu (9 + j) (by omega)]; exact h3 j h6
      · rw [hu (5 + j) (by omega), up_at, hu5]; exact ⟨h4, h5⟩
  · rintro F0 n0 T0 _ ⟨⟨⟨⟨h1, h2⟩, h3⟩, h4⟩, h5⟩
    refine ⟨⟨fun j hj => ?_, h2⟩, fun j hj => ?_⟩
    · show up F (9 + k) v j = F0 j
      rw [hu j (by omega)]; exact h1 j hj
    · show up F (9 + k) v (5 + j) = F0 (5 + j) ∧ up F (9 + k) v (9 + j) = F0 (9 + j)
      rcases Nat.lt_succ_iff_lt_or_eq.1 hj with h6 | rfl
      · rw [hu (5 + j) (by omega), hu (9 + j) (by omega)]; exact h3 j h6
      · rw [hu (5 + j) (by omega), up_at, hu5]; exact ⟨h4, h5⟩
/-- A step is read. -/
theorem RS.step {m kk : Nat} (h : RS w rb fb b z bs (encQ F n T k) F s n T ((HA F n T ∧ SA F 4) ∧ QA F k) (fun F0 n0 T0 => (HC F n T F0 n0 T0 ∧ SC F 4 F0) ∧ QC F k F0) er wr) (hk : k < 16) (hm : k / 4 = m) (hkk : F (9 + m) = kk) {v : Int} (k1 : Kept (butOf wr b) wr w1) (r1 : RdP w1 b bs er1 (encQ F n T k ++ bitsI v kk)) (e1 : er1 = 0 → er = 0) (fv : fitB v kk = true)
    (c1 : ∀ v0, er = 0 → validI true v0 kk = true → (encQ F n T k ++ bitsI v0 kk) <+: bitsOf bs → er1 = 0 ∧ v = v0) :
    RS w rb fb b z bs (encQ (up F (13 + k) v) n T (k + 1)) (up F (13 + k) v) s n T ((HA (up F (13 + k) v) n T ∧ SA (up F (13 + k) v) 4) ∧ QA (up F (13 + k) v) (k + 1)) (fun F0 n0 T0 => (HC (up F (13 + k) v) n T F0 n0 T0 ∧ SC (up F (13 + k) v) 4 F0) ∧ QC (up F (13 + k) v) (k + 1) F0) er1 (w1.setCell ⟨fb, 13 + k, none⟩ (.int .i64 v)) := by
  have hu : ∀ j, j ≠ 13 + k → up F (13 + k) v j = F j := fun j hj => up_ne F (13 + k) j v hj
  refine (h.mv (A1 := (HA F n T ∧ SA F 4) ∧ QA F k) (C1 := fun F0 n0 T0 => ((HC F n T F0 n0 T0 ∧ SC F 4 F0) ∧ QC F k F0) ∧ v = F0 (13 + k)) k1 r1 (fun h0 => ⟨e1 h0, fun hA => hA⟩) (fun F0 n0 T0 hP hp h0 hC => ?_)).st (13 + k) (by omega) (by omega) v (fun _ _ => by omega) ?_ ?_ ?_
  · obtain ⟨⟨⟨hg, hn, ht⟩, hs⟩, hq⟩ := hC
    subst hn
    have hp2 := (encQ_pre F0 n T0 (k := k + 1) (by omega)).trans hp
    have hw9 : F0 (9 + k / 4) = kk := by rw [hm, ← (hs m (by omega)).2]; exact hkk
    rw [encQ_succ, ← encQ_congr hg ht hs hq (by omega), hw9] at hp2
    have hq2 := hP.hq k hk
    have hw2 := hP.hw (k / 4) (by omega)
    rw [hw9] at hq2 hw2
    obtain ⟨d1, d2⟩ := c1 (F0 (13 + k)) h0 (valid_fit _ _ hw2.1 hw2.2 hq2).1 hp2
    exact ⟨d1, ⟨⟨⟨hg, rfl, ht⟩, hs⟩, hq⟩, d2⟩
  · show _ = encQ (up F (13 + k) v) n T (k + 1)
    rw [encQ_succ, encQ_congr (F := up F (13 + k) v) (G := F) (fun j hj => hu j (by omega)) (fun _ _ => rfl) (fun j hj => ⟨hu _ (by omega), hu _ (by omega)⟩) (fun j hj => hu _ (by omega)) (by omega), up_at, hu (9 + k / 4) (by omega), hm, hkk]
  · rintro ⟨⟨⟨h1, h2⟩, h3⟩, h4⟩
    refine ⟨⟨⟨fun j hj => ?_, h2⟩, fun j hj => ?_⟩, fun j hj => ?_⟩
    · show 0 ≤ up F (13 + k) v j ∧ up F (13 + k) v j ≤ 3
      rw [hu j (by omega)]; exact h1 j hj
    · show (0 ≤ up F (13 + k) v (5 + j) ∧ up F (13 + k) v (5 + j) ≤ 23) ∧ (0 ≤ up F (13 + k) v (9 + j) ∧ up F (13 + k) v (9 + j) ≤ 24)
      rw [hu (5 + j) (by omega), hu (9 + j) (by omega)]; exact h3 j hj
    · show fitB (up F (13 + k) v (13 + j)) (up F (13 + k) v (9 + j / 4)) = true
      rw [hu (9 + j / 4) (by omega)]
      rcases Nat.lt_succ_iff_lt_or_eq.1 hj with h6 | rfl
      · rw [hu (13 + j) (by omega)]; exact h4 j h6
      · rw [up_at, hm, hkk]; exact fv
  · rintro F0 n0 T0 _ ⟨⟨⟨⟨h1, h2⟩, h3⟩, h4⟩, h5⟩
    refine ⟨⟨⟨fun j hj => ?_, h2⟩, fun j hj => ?_⟩, fun j hj => ?_⟩
    · show up F (13 + k) v j = F0 j
      rw [hu j (by omega)]; exact h1 j hj
    · show up F (13 + k) v (5 + j) = F0 (5 + j) ∧ up F (13 + k) v (9 + j) = F0 (9 + j)
      rw [hu (5 + j) (by omega), hu (9 + j) (by omega)]; exact h3 j hj
    · show up F (13 + k) v (13 + j) = F0 (13 + j)
      rcases Nat.lt_succ_iff_lt_or_eq.1 hj with h6 | rfl
      · rw [hu (13 + j) (by omega)]; exact h4 j h6
      · rw [up_at]; exact h5
end
end Go.Proofs.Ytdiahlhfoplmjaa
