/- Package cache, plain: what a cache has, how its hand goes, how a page is taken. No program. -/
import Derived.Test.YtooamkicmmgniaaDiskE
namespace Go.Proofs.Ytooamkicmmgniaa
set_option linter.unusedVariables false
set_option maxRecDepth 100000
open Go.RowKit Go.ChangeShapes Go.WideShapes

/-- A slot that has a page: which, its mark, its bytes. -/
structure Slt where
  p : Nat
  m : Bool
  G : Nat → Int
/-- A cache: how many slots, how often it tries again, what it has done, where its hand stands, what its slots have. -/
structure Cch where
  n : Nat
  rt : Nat
  h : Int
  m : Int
  t : Int
  l : Int
  hand : Nat
  S : Nat → Option Slt
def updS (S : Nat → Option Slt) (i : Nat) (s : Option Slt) : Nat → Option Slt := fun j => if j = i then s else S j
def mkS (S : Nat → Option Slt) (i : Nat) : Bool := match S i with | some s => s.m | none => false
def Slt.mark (s : Slt) (b : Bool) : Slt := { s with m := b }
/-- Is it the slot of this page? -/
def hasS (S : Nat → Option Slt) (k i : Nat) : Bool := match S i with | some s => decide (s.p = k) | none => false
/-- The first slot below n that has a page. -/
def fnd (S : Nat → Option Slt) (k : Nat) : Nat → Option Nat
  | 0 => none
  | n + 1 => match fnd S k n with
    | some i => some i
    | none => if hasS S k n then some n else none
theorem hasS_iff {S : Nat → Option Slt} {k i : Nat} : hasS S k i = true ↔ ∃ s, S i = some s ∧ s.p = k := by
  unfold hasS
  cases S i with
  | none => simp
  | some s => simp
theorem fnd_some {S : Nat → Option Slt} {k : Nat} : ∀ {n i : Nat}, fnd S k n = some i → i < n ∧ hasS S k i = true
  | 0, i, h => by simp [fnd] at h
  | n + 1, i, h => by
    unfold fnd at h
    cases hf : fnd S k n with
    | some j =>
      rw [hf] at h
      cases h
      have := fnd_some hf
      exact ⟨by omega, this.2⟩
    | none =>
      rw [hf] at h
      dsimp only at h
      split at h
      · cases h; exact ⟨by omega, by assumption⟩
      · cases h
theorem fnd_none {S : Nat → Option Slt} {k : Nat} : ∀ {n : Nat}, fnd S k n = none → ∀ i, i < n → hasS S k i = false
  | 0, h, i, hi => by omega
  | n + 1, h, i, hi => by
    unfold fnd at h
    cases hf : fnd S k n with
    | some j => rw [hf] at h; cases h
    | none =>
      rw [hf] at h
      dsimp only at h
      split at h
      · cases h
      · rename_i hn
        by_cases e : i = n
        · subst e; simpa using hn
        · exact fnd_none hf i (by omega)
/-- No page is in two slots. -/
def uniq (n : Nat) (S : Nat → Option Slt) : Prop := ∀ i j s t, i < n → j < n → S i = some s → S j = some t → s.p = t.p → i = j
theorem fnd_of {S : Nat → Option Slt} {n i : Nat} {s : Slt} (hu : uniq n S) (hi : i < n) (hs : S i = some s) : fnd S s.p n = some i := by
  cases hf : fnd S s.p n with
  | none =>
    have := fnd_none hf i hi
    rw [hasS_iff.2 ⟨s, hs, rfl⟩] at this
    cases this
  | some j =>
    obtain ⟨h1, h2⟩ := fnd_some hf
    obtain ⟨t, ht, he⟩ := hasS_iff.1 h2
    rw [hu j i t s h1 hi ht hs he]
theorem fnd_eq {S : Nat → Option Slt} {n k i : Nat} (hu : uniq n S) : fnd S k n = some i ↔ i < n ∧ ∃ s, S i = some s ∧ s.p = k := by
  constructor
  · intro h
    have := fnd_some h
    exact ⟨this.1, hasS_iff.1 this.2⟩
  · rintro ⟨h1, s, h2, rfl⟩
    exact fnd_of hu h1 h2
theorem fnd_ext {S T : Nat → Option Slt} {n k : Nat} (hu : uniq n S) (hv : uniq n T) (h : ∀ i, i < n → ((∃ s, S i = some s ∧ s.p = k) ↔ ∃ s, T i = some s ∧ s.p = k)) : fnd S k n = fnd T k n := by
  cases hf : fnd S k n with
  | some i =>
    obtain ⟨h1, h2⟩ := (fnd_eq hu).1 hf
    exact ((fnd_eq hv).2 ⟨h1, (h i h1).1 h2⟩).symm
  | none =>
    cases hg : fnd T k n with
    | none => rfl
    | some i =>
      obtain ⟨h1, h2⟩ := (fnd_eq hv).1 hg
      rw [(fnd_eq hu).2 ⟨h1, (h i h1).2 h2⟩] at hf
      exact hf.symm
/-- A mark that comes or goes. -/
def setM (S : Nat → Option Slt) (i : Nat) (b : Bool) : Nat → Option Slt := updS S i ((S i).map fun s => s.mark b)
theorem setM_has (S : Nat → Option Slt) (i j k : Nat) (b : Bool) : (∃ s, setM S i b j = some s ∧ s.p = k) ↔ ∃ s, S j = some s ∧ s.p = k := by
  unfold setM updS
  by_cases e : j = i
  · subst e
    rw [if_pos rfl]
    cases S j with
    | none => simp
    | some s => simp [Slt.mark]
  · rw [if_neg e]
theorem setM_uniq {n : Nat} {S : Nat → Option Slt} (h : uniq n S) (i : Nat) (b : Bool) : uniq n (setM S i b) := by
  intro x y s t hx hy hs ht e
  obtain ⟨s', h1, h2⟩ := (setM_has S i x s.p b).1 ⟨s, hs, rfl⟩
  obtain ⟨t', h3, h4⟩ := (setM_has S i y t.p b).1 ⟨t, ht, rfl⟩
  exact h x y s' t' hx hy h1 h3 (by rw [h2, h4, e])
theorem setM_fnd {n : Nat} {S : Nat → Option Slt} (h : uniq n S) (i : Nat) (b : Bool) (k : Nat) : fnd (setM S i b) k n = fnd S k n :=
  fnd_ext (setM_uniq h i b) h fun j _ => setM_has S i j k b
theorem del_uniq {n : Nat} {S : Nat → Option Slt} (h : uniq n S) (i : Nat) : uniq n (updS S i none) := by
  intro x y s t hx hy hs ht e
  unfold updS at hs ht
  split at hs
  · cases hs
  · split at ht
    · cases ht
    · exact h x y s t hx hy hs ht e
theorem del_fnd {n i : Nat} {S : Nat → Option Slt} {s : Slt} (h : uniq n S) (hi : i < n) (hs : S i = some s) (k : Nat) : fnd (updS S i none) k n = if k = s.p then none else fnd S k n := by
  by_cases e : k = s.p
  · rw [if_pos e]
    cases hf : fnd (updS S i none) k n with
    | none => rfl
    | some j =>
      obtain ⟨h1, t, h2, h3⟩ := (fnd_eq (del_uniq h i)).1 hf
      unfold updS at h2
      split at h2
      · cases h2
      · rename_i hn
        exact absurd (h j i t s h1 hi h2 hs (by rw [h3, e])) hn
  · rw [if_neg e]
    refine fnd_ext (del_uniq h i) h fun j hj => ?_
    unfold updS
    by_cases e2 : j = i
    · subst e2
      rw [if_pos rfl, hs]
      simp
      exact fun h => e h.symm
    · rw [if_neg e2]
theorem put_uniq {n i : Nat} {S : Nat → Option Slt} {s : Slt} (h : uniq n S) (hn : fnd S s.p n = none) : uniq n (updS S i (some s)) := by
  have hno : ∀ j t, j < n → S j = some t → t.p ≠ s.p := fun j t hj ht e => by
    have := fnd_none hn j hj
    rw [hasS_iff.2 ⟨t, ht, e⟩] at this
    cases this
  intro x y u t hx hy hs ht e
  unfold updS at hs ht
  split at hs
  · split at ht
    · omega
    · cases hs; exact absurd e.symm (hno y t hy ht)
  · split at ht
    · cases ht; exact absurd e (hno x u hx hs)
    · exact h x y u t hx hy hs ht e
theorem put_fnd {n i : Nat} {S : Nat → Option Slt} {s : Slt} (h : uniq n S) (hi : i < n) (hn : fnd S s.p n = none) (hi0 : S i = none) (k : Nat) : fnd (updS S i (some s)) k n = if k = s.p then some i else fnd S k n := by
  have hu := put_uniq (i := i) h hn
  by_cases e : k = s.p
  · rw [if_pos e]
    exact (fnd_eq hu).2 ⟨hi, s, by unfold updS; rw [if_pos rfl], e.symm⟩
  · rw [if_neg e]
    refine fnd_ext hu h fun j hj => ?_
    unfold updS
    by_cases e2 : j = i
    · subst e2
      rw [if_pos rfl, hi0]
      simp
      exact fun h => e h.symm
    · rw [if_neg e2]

/-! The hand. -/
def cntM (f : Nat → Bool) : Nat → Nat
  | 0 => 0
  | i + 1 => cntM f i + if f i then 1 else 0
theorem cntM_ext {f g : Nat → Bool} : ∀ {n : Nat}, (∀ i, i < n → f i = g i) → cntM f n = cntM g n
  | 0, _ => rfl
  | n + 1, h => by
    unfold cntM
    rw [cntM_ext fun i hi => h i (by omega), h n (by omega)]
theorem cntM_le (f : Nat → Bool) : ∀ n, cntM f n ≤ n
  | 0 => Nat.le_refl _
  | n + 1 => by
    unfold cntM
    have := cntM_le f n
    split <;> omega
theorem cntM_pos {f : Nat → Bool} : ∀ {n i : Nat}, i < n → f i = true → 0 < cntM f n
  | 0, i, h, _ => by omega
  | n + 1, i, h, e => by
    unfold cntM
    by_cases c : i = n
    · subst c; rw [if_pos e]; omega
    · have := cntM_pos (n := n) (show i < n by omega) e
      omega
theorem cntM_less {f g : Nat → Bool} {i : Nat} : ∀ {n : Nat}, i < n → f i = true → g i = false → (∀ j, j ≠ i → g j = f j) → cntM g n + 1 = cntM f n
  | 0, h, _, _, _ => by omega
  | n + 1, h, e, e', ho => by
    unfold cntM
    by_cases c : i = n
    · subst c
      rw [if_pos e, if_neg (by rw [e']; simp), cntM_ext (f := g) (g := f) fun j hj => ho j (by omega)]
    · have := cntM_less (n := n) (show i < n by omega) e e' ho
      rw [ho n (fun h => c h.symm)]
      omega
theorem mkS_setM (S : Nat → Option Slt) (i : Nat) (b : Bool) (j : Nat) (hj : j ≠ i) : mkS (setM S i b) j = mkS S j := by
  unfold mkS setM updS
  rw [if_neg hj]
theorem mkS_setM_false (S : Nat → Option Slt) (i : Nat) : mkS (setM S i false) i = false := by
  unfold mkS setM updS
  rw [if_pos rfl]
  cases S i <;> rfl
/-- The hand, one on. -/
def Cch.next (c : Cch) : Cch := { c with hand := (c.hand + 1) % c.n }
/-- The hand goes by a slot, whose mark goes. -/
def Cch.by_ (c : Cch) : Cch := { c.next with S := setM c.S c.hand false }
/-- The hand goes round, so often at most: the cache behind it, and the slot. -/
def chs : Nat → Cch → Cch × Nat
  | 0, c => (c.next, c.hand)
  | f + 1, c => if mkS c.S c.hand then chs f c.by_ else (c.next, c.hand)
theorem chs_no {c : Cch} (h : mkS c.S c.hand = false) : ∀ f, chs f c = (c.next, c.hand)
  | 0 => rfl
  | f + 1 => by unfold chs; rw [if_neg (by rw [h]; simp)]
theorem chs_yes {c : Cch} (h : mkS c.S c.hand = true) (f : Nat) : chs (f + 1) c = chs f c.by_ := by
  show (if mkS c.S c.hand then chs f c.by_ else (c.next, c.hand)) = _
  rw [if_pos h]
/-- What the hand leaves as it is. -/
structure Same (c c' : Cch) : Prop where
  n : c'.n = c.n
  rt : c'.rt = c.rt
  h : c'.h = c.h
  m : c'.m = c.m
  t : c'.t = c.t
  l : c'.l = c.l
  S : ∀ j k, (∃ s, c'.S j = some s ∧ s.p = k) ↔ ∃ s, c.S j = some s ∧ s.p = k
  G : ∀ j s, c'.S j = some s → ∃ t, c.S j = some t ∧ s.G = t.G ∧ s.p = t.p
theorem Same.trans {a b c : Cch} (h : Same a b) (k : Same b c) : Same a c :=
  ⟨k.n.trans h.n, k.rt.trans h.rt, k.h.trans h.h, k.m.trans h.m, k.t.trans h.t, k.l.trans h.l, fun j q => (k.S j q).trans (h.S j q), fun j s hs => by
    obtain ⟨t, h1, h2, h3⟩ := k.G j s hs
    obtain ⟨u, h4, h5, h6⟩ := h.G j t h1
    exact ⟨u, h4, h2.trans h5, h3.trans h6⟩⟩
theorem Same.next (c : Cch) : Same c c.next := ⟨rfl, rfl, rfl, rfl, rfl, rfl, fun _ _ => Iff.rfl, fun _ s hs => ⟨s, hs, rfl, rfl⟩⟩
theorem setM_G (S : Nat → Option Slt) (i : Nat) (b : Bool) (j : Nat) (s : Slt) (h : setM S i b j = some s) : ∃ t, S j = some t ∧ s.G = t.G ∧ s.p = t.p := by
  unfold setM updS at h
  split at h
  · rename_i e
    subst e
    cases hs : S j with
    | none => rw [hs] at h; cases h
    | some t => rw [hs] at h; cases h; exact ⟨t, rfl, rfl, rfl⟩
  · exact ⟨s, h, rfl, rfl⟩
theorem Same.by_ (c : Cch) : Same c c.by_ := ⟨rfl, rfl, rfl, rfl, rfl, rfl, fun j k => setM_has c.S c.hand j k false, fun j s hs => setM_G c.S c.hand false j s hs⟩
theorem chs_same : ∀ f (c : Cch), Same c (chs f c).1
  | 0, c => Same.next c
  | f + 1, c => by
    unfold chs
    split
    · exact (Same.by_ c).trans (chs_same f c.by_)
    · exact Same.next c
theorem chs_lt : ∀ f (c : Cch), 0 < c.n → c.hand < c.n → (chs f c).2 < c.n ∧ (chs f c).1.hand < c.n
  | 0, c, h, h1 => ⟨h1, Nat.mod_lt _ h⟩
  | f + 1, c, h, h1 => by
    unfold chs
    split
    · exact chs_lt f c.by_ h (Nat.mod_lt _ h)
    · exact ⟨h1, Nat.mod_lt _ h⟩
/-- The slot that the hand tells. -/
def Cch.choose (c : Cch) : Cch × Nat := chs c.n c
/-- A page is put. -/
def Cch.put (c : Cch) (k : Nat) (G : Nat → Int) : Cch := { c.choose.1 with S := updS c.choose.1.S c.choose.2 (some ⟨k, true, G⟩) }

/-! Readings. -/
/-- So many readings at most: what the first that doesn't fail tells, the disk, and how many tries were told. -/
def tryN (k : Nat) : Nat → Dsk → Int → Option (Nat → Int) × Dsk × Int
  | 0, d, t => (none, d, t)
  | j + 1, d, t => if (d.F k).f ≠ 0 then tryN k j (d.bad k) (wrap64 (t + 1)) else (some (readF d k), d.more, wrap64 (t + 1))
/-- What taking a page tells, and leaves. -/
structure Tkn where
  r : Option (Nat → Int)
  c : Cch
  d : Dsk
def Cch.hit (c : Cch) (i : Nat) : Cch := { c with h := wrap64 (c.h + 1), S := setM c.S i true }
def Cch.miss (c : Cch) : Cch := { c with m := wrap64 (c.m + 1) }
def Cch.tried (c : Cch) (t : Int) : Cch := { c with t := t }
def Cch.lose (c : Cch) : Cch := { c with l := wrap64 (c.l + 1) }
def takeR (c : Cch) (d : Dsk) (k : Nat) : Tkn :=
  match fnd c.S k c.n with
  | some i => ⟨(c.S i).map Slt.G, c.hit i, d⟩
  | none => match tryN k (c.rt + 1) d c.t with
    | (none, d', t') => ⟨none, (c.miss.tried t').lose, d'⟩
    | (some G, d', t') => ⟨some G, (c.miss.tried t').put k G, d'⟩
end Go.Proofs.Ytooamkicmmgniaa
