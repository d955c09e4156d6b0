/- What the law on all samples reckons: rows of samples that grow, the first error, names that are counted. -/
import Derived.Test.YtmdninfmidmmhaaFewS
import Derived.Test.YtmdninfmidmmhaaWaveI
import Derived.Test.YtmdninfmidmmhaaWaveH
namespace Go.Proofs.Ytmdninfmidmmhaa
set_option linter.unusedVariables false
set_option maxRecDepth 100000
open Go.RowKit Go.ChangeShapes Go.WideShapes

def smpsV (Z : Nat → Smp) : Nat → List Value
  | 0 => []
  | k + 1 => smpsV Z k ++ (Z k).cells.toList
theorem smpsV_len (Z : Nat → Smp) : ∀ k, (smpsV Z k).length = k * 6
  | 0 => rfl
  | k + 1 => by show (smpsV Z k ++ (Z k).cells.toList).length = _; rw [List.length_append, smpsV_len Z k, smp_len]; omega
theorem smpsV_get (Z : Nat → Smp) : ∀ k i, i < k → ∀ f v, (Z i).cells[f]? = some v → (smpsV Z k)[i * 6 + f]? = some v
  | 0, i, h, _, _, _ => by omega
  | k + 1, i, h, f, v, hv => by
    have hf6 : f < 6 := by
      rcases Nat.lt_or_ge f 6 with h | h
      · exact h
      · rw [Array.getElem?_eq_none (by show 6 ≤ f; exact h)] at hv; cases hv
    show (smpsV Z k ++ (Z k).cells.toList)[i * 6 + f]? = some v
    by_cases e : i = k
    · subst e
      rw [List.getElem?_append_right (by rw [smpsV_len]; omega), smpsV_len, show i * 6 + f - i * 6 = f by omega]
      simpa using hv
    · rw [List.getElem?_append_left (by rw [smpsV_len]; omega)]
      exact smpsV_get Z k i (by omega) f v hv
theorem smpsV_congr {Z Y : Nat → Smp} : ∀ k, (∀ i, i < k → Z i = Y i) → smpsV Z k = smpsV Y k
  | 0, _ => rfl
  | k + 1, h => by show smpsV Z k ++ _ = smpsV Y k ++ _; rw [smpsV_congr k fun i hi => h i (by omega), h k (by omega)]
/-- Samples that were laid one by one. -/
structure AllSt (w wr : World) (v : Value) (k : Nat) (Z : Nat → Smp) : Prop where
  own : ownS (fun q => q < w.heap.size) wr 24 6 v k (smpsV Z k)
  ok : ∀ i, i < k → SmOk wr (Z i) ∧ SmFew (Z i) ∧ (Z i).inX (fun q => v.ownBlock ≠ some q)
  old : Old w wr
theorem AllSt.later {w wr w' : World} {v : Value} {k : Nat} {Z : Nat → Smp} (h : AllSt w wr v k Z) (o : Old wr w') : AllSt w w' v k Z :=
  ⟨h.own.old o, fun i hi => ⟨(h.ok i hi).1.old o, (h.ok i hi).2⟩, h.old.trans o⟩
theorem SmOk.inLt {w : World} {S : Smp} (h : SmOk w S) : S.inX (fun q => q < w.heap.size) :=
  ⟨fun a h0 ha => by
    obtain ⟨g, o, h1, h2, _⟩ := h.rows.cell h0
    rw [h1] at ha; cases ha; exact h2, fun i hi h0 a ha => by
    obtain ⟨g, o, h1, h2, _⟩ := (h.rows.row i hi).2.2 h0
    rw [h1] at ha; cases ha; exact h2⟩
theorem Smp.inX.and {S : Smp} {X Y : Nat → Prop} (h : S.inX X) (k : S.inX Y) : S.inX (fun q => X q ∧ Y q) := ⟨fun a h0 ha => ⟨h.1 a h0 ha, k.1 a h0 ha⟩, fun i hi h0 a ha => ⟨h.2 i hi h0 a ha, k.2 i hi h0 a ha⟩⟩
/-- One sample more: w1 is the world ahead of the append, w2 behind it. -/
theorem AllSt.add {w w1 w2 : World} {v v' : Value} {k : Nat} {Z : Nat → Smp} {S : Smp} (h : AllSt w w1 v k Z) (hS : SmOk w1 S) (hf : SmFew S) (hin : S.inX (fun q => v.ownBlock ≠ some q))
    (h1 : ownS (fun q => q < w1.heap.size ∧ v.ownBlock ≠ some q) w2 24 6 v' (k + 1) (smpsV Z k ++ S.cells.toList)) (h2 : Kept (fun q => q < w1.heap.size ∧ v.ownBlock ≠ some q) w1 w2) (h3 : ∀ q, v'.ownBlock = some q → v.ownBlock = some q ∨ w1.heap.size ≤ q) :
    AllSt w w2 v' (k + 1) (fun i => if i = k then S else Z i) := by
  have hin' : ∀ T : Smp, SmOk w1 T → T.inX (fun q => v.ownBlock ≠ some q) → SmOk w2 T ∧ T.inX (fun q => v'.ownBlock ≠ some q) := fun T hT hi => by
    have hb := hT.inLt.and hi
    exact ⟨hT.kept h2 hb, hb.mono fun q hq e => by
      rcases h3 q e with e' | e'
      · exact hq.2 e'
      · omega⟩
  refine ⟨?_, fun i hi => ?_, ?_⟩
  · show ownS _ w2 _ 6 v' (k + 1) (smpsV _ k ++ (if k = k then S else Z k).cells.toList)
    rw [if_pos rfl, smpsV_congr (Y := Z) k fun i hi => by rw [if_neg (by omega)]]
    exact h1.mono fun q hq hl => by
      rcases h3 q hq with e | e
      · exact h.own.2 q e hl
      · have := h.old.size; omega
  · by_cases e : i = k
    · rw [if_pos e]; exact ⟨(hin' S hS hin).1, hf, (hin' S hS hin).2⟩
    · rw [if_neg e]
      have := h.ok i (by omega)
      exact ⟨(hin' _ this.1 this.2.2).1, this.2.1, (hin' _ this.1 this.2.2).2⟩
  · exact h.old.after h2 fun q hq => ⟨by have := h.old.size; omega, fun e => h.own.2 q e hq⟩
theorem AllSt.sms {w wr : World} {v : Value} {k : Nat} {Z : Nat → Smp} (h : AllSt w wr v k Z) : ∃ p c, v = .slice p k c ∧ SmsS wr p k Z := by
  rcases h.own.shape with ⟨hv, h0⟩ | ⟨g, cap, hv, _, hg, _, _, hc⟩
  · exact ⟨none, 0, by rw [h0]; exact hv, ⟨fun hk => by omega, fun i hi => (h.ok i hi).1⟩⟩
  · exact ⟨_, cap, hv, ⟨fun _ => ⟨g, 0, rfl, hg, fun i hi f u hu => by rw [Nat.zero_add]; exact hc _ u (smpsV_get Z k i hi f u hu)⟩, fun i hi => (h.ok i hi).1⟩⟩
open Classical in
/-- The law's error on its way: of n samples, of which i were compared by name. -/
noncomputable def wantI (Z : Nat → Smp) (n i : Nat) : Int := if errTo Z n ≠ 0 then errTo Z n else if twiceP Z i then 11 else 0
theorem wantI_zero (Z : Nat → Smp) (n : Nat) : wantI Z n 0 = errTo Z n := by
  unfold wantI
  split
  · rfl
  · rw [if_neg (fun ⟨i, k, h1, h2, _⟩ => by omega)]; omega
theorem wantI_err {Z : Nat → Smp} {n i : Nat} (h : errTo Z n ≠ 0) : wantI Z n i = errTo Z n := by unfold wantI; rw [if_pos h]
theorem wantI_is0 {Z : Nat → Smp} {n i : Nat} (h : wantI Z n i = 0) : errTo Z n = 0 ∧ ¬ twiceP Z i := by
  unfold wantI at h
  by_cases h1 : errTo Z n ≠ 0
  · rw [if_pos h1] at h; exact absurd h h1
  · rw [if_neg h1] at h
    refine ⟨by omega, fun ht => ?_⟩
    rw [if_pos ht] at h; omega
theorem wantI_stays {Z : Nat → Smp} {n i j : Nat} (h : wantI Z n i ≠ 0) (hij : i ≤ j) : wantI Z n j = wantI Z n i := by
  by_cases h1 : errTo Z n ≠ 0
  · rw [wantI_err h1, wantI_err h1]
  · unfold wantI at h ⊢
    rw [if_neg h1] at h ⊢
    rw [if_neg h1]
    by_cases h2 : twiceP Z i
    · rw [if_pos h2, if_pos]
      obtain ⟨a, b, e1, e2, e3⟩ := h2
      exact ⟨a, b, e1, by omega, e3⟩
    · rw [if_neg h2] at h; exact absurd rfl h
/-- Sample i has the name of one of the first k. -/
def asOne (Z : Nat → Smp) (i k : Nat) : Prop := ∃ j, j < k ∧ nmS Z i = nmS Z j
theorem twice_succ (Z : Nat → Smp) (i : Nat) : twiceP Z (i + 1) ↔ twiceP Z i ∨ asOne Z i i := by
  constructor
  · rintro ⟨a, b, e1, e2, e3⟩
    by_cases h : a = i
    · subst h; exact .inr ⟨b, e1, e3⟩
    · exact .inl ⟨a, b, e1, by omega, e3⟩
  · rintro (⟨a, b, e1, e2, e3⟩ | ⟨j, e1, e2⟩)
    · exact ⟨a, b, e1, by omega, e3⟩
    · exact ⟨i, j, e1, by omega, e2⟩
open Classical in
noncomputable def oneI (Z : Nat → Smp) (i k : Nat) : Int := if asOne Z i k then 11 else 0
theorem oneI_zero (Z : Nat → Smp) (i : Nat) : oneI Z i 0 = 0 := by unfold oneI; rw [if_neg (fun ⟨j, h, _⟩ => by omega)]
theorem oneI_yes {Z : Nat → Smp} {i k : Nat} (h : nmS Z i = nmS Z k) : oneI Z i (k + 1) = 11 := by unfold oneI; rw [if_pos ⟨k, by omega, h⟩]
theorem oneI_no {Z : Nat → Smp} {i k : Nat} (h : nmS Z i ≠ nmS Z k) : oneI Z i (k + 1) = oneI Z i k := by
  have e : asOne Z i (k + 1) ↔ asOne Z i k := ⟨fun ⟨j, h1, h2⟩ => ⟨j, by
    rcases Nat.lt_or_ge j k with h' | h'
    · exact h'
    · exact absurd (by rw [h2, show j = k by omega]) h, h2⟩, fun ⟨j, h1, h2⟩ => ⟨j, by omega, h2⟩⟩
  unfold oneI
  by_cases h1 : asOne Z i k
  · rw [if_pos h1, if_pos (e.2 h1)]
  · rw [if_neg h1, if_neg (fun x => h1 (e.1 x))]
theorem wantI_step {Z : Nat → Smp} {n i : Nat} (h : wantI Z n i = 0) : wantI Z n (i + 1) = oneI Z i i := by
  obtain ⟨h1, h2⟩ := wantI_is0 h
  unfold wantI oneI
  rw [if_neg (by omega)]
  by_cases h3 : asOne Z i i
  · rw [if_pos h3, if_pos ((twice_succ Z i).2 (.inr h3))]
  · rw [if_neg h3, if_neg (fun x => ((twice_succ Z i).1 x).elim h2 h3)]
theorem wantI_all (Z : Nat → Smp) (n : Nat) : (if 64 < n then 6 else wantI Z n n) = allI Z n := by unfold wantI allI; rfl
/-- How many of the first n are so. -/
def cntB (P : Nat → Bool) : Nat → Nat
  | 0 => 0
  | n + 1 => cntB P n + if P n then 1 else 0
theorem cntB_le (P : Nat → Bool) : ∀ n, cntB P n ≤ n
  | 0 => Nat.le_refl _
  | n + 1 => by show cntB P n + _ ≤ _; have := cntB_le P n; split <;> omega
theorem cntB_congr {P Q : Nat → Bool} : ∀ n, (∀ k, k < n → P k = Q k) → cntB P n = cntB Q n
  | 0, _ => rfl
  | n + 1, h => by show cntB P n + _ = cntB Q n + _; rw [cntB_congr n fun k hk => h k (by omega), h n (by omega)]
theorem cntB_remove (P : Nat → Bool) : ∀ n q, q < n → P q = true → cntB P n = cntB (fun k => P k && (k != q)) n + 1
  | 0, q, h, _ => by omega
  | n + 1, q, h, hp => by
    show cntB P n + _ = cntB _ n + _ + 1
    by_cases e : q = n
    · subst e
      rw [hp, cntB_congr (P := fun k => P k && (k != q)) (Q := P) q fun k hk => by
        have : (k != q) = true := by simp; omega
        rw [this, Bool.and_true]]
      simp
    · rw [cntB_remove P n q (by omega) hp]
      have : (n != q) = true := by simp; omega
      simp only [this, Bool.and_true]
      omega
theorem cntB_none (P : Nat → Bool) : ∀ n, (∀ k, k < n → P k = false) → cntB P n = 0
  | 0, _ => rfl
  | n + 1, h => by show cntB P n + _ = 0; rw [cntB_none P n fun k hk => h k (by omega), h n (by omega)]; rfl
theorem cntB_image (n : Nat) : ∀ (p : Nat) (f : Nat → Nat) (P : Nat → Bool), (∀ j, j < p → f j < n) → (∀ i j, i < j → j < p → f i ≠ f j) → (∀ k, k < n → (P k = true ↔ ∃ j, j < p ∧ f j = k)) → cntB P n = p
  | 0, f, P, _, _, hP => cntB_none P n fun k hk => Bool.eq_false_iff.2 fun h => by
      obtain ⟨j, hj, _⟩ := (hP k hk).1 h
      omega
  | p + 1, f, P, hf, hi, hP => by
    rw [cntB_remove P n (f p) (hf p (by omega)) ((hP _ (hf p (by omega))).2 ⟨p, by omega, rfl⟩)]
    rw [cntB_image n p f _ (fun j hj => hf j (by omega)) (fun i j h1 h2 => hi i j h1 (by omega)) fun k hk => ?_]
    rw [Bool.and_eq_true, bne_iff_ne, hP k hk]
    constructor
    · rintro ⟨⟨j, h1, h2⟩, h3⟩
      refine ⟨j, ?_, h2⟩
      rcases Nat.lt_or_ge j p with h | h
      · exact h
      · exact absurd (by rw [← h2, show j = p by omega]) h3
    · rintro ⟨j, h1, h2⟩
      exact ⟨⟨j, by omega, h2⟩, fun e => hi j p h1 (by omega) (by rw [h2, e])⟩
/-- Sample k comes ahead of sample i. -/
def aheadB (Z : Nat → Smp) (i k : Nat) : Bool := ltS (nmS Z k) (nmS Z i) || (decide (nmS Z k = nmS Z i) && decide (k < i))
theorem aheadB_iff (Z : Nat → Smp) (i k : Nat) : aheadB Z i k = true ↔ nameR (nmS Z) k i := by
  unfold aheadB nameR
  rw [Int.toNat_natCast, Int.toNat_natCast, Bool.or_eq_true, Bool.and_eq_true, decide_eq_true_eq, decide_eq_true_eq]
  constructor
  · rintro (h | ⟨h1, h2⟩)
    · exact .inl h
    · exact .inr ⟨by rw [h1]; exact ltS_irr _, by omega⟩
  · rintro (h | ⟨h1, h2⟩)
    · exact .inl h
    · cases hc : ltS (nmS Z k) (nmS Z i)
      · exact .inr ⟨ltS_tri hc h1, by omega⟩
      · exact .inl rfl
theorem nameR_irr (K : Nat → ByteArray) (x : Int) : ¬ nameR K x x := fun h => by
  unfold nameR at h
  rw [ltS_irr] at h
  rcases h with h | ⟨_, h⟩
  · cases h
  · omega
/-- Where a sample lies in the order: as many come ahead of it. -/
theorem ahead_place {Z : Nat → Smp} {n : Nat} {G : Nat → Int} (h : SrtO (nameR (nmS Z)) (fun j => (j : Int)) n G) (i : Nat) (hi : i < n) : cntB (aheadB Z i) n < n ∧ G (cntB (aheadB Z i) n) = (i : Int) := by
  obtain ⟨p, hp, ep⟩ := h.all i hi
  have e : cntB (aheadB Z i) n = p := by
    refine cntB_image n p (fun j => (G j).toNat) _ (fun j hj => ?_) (fun a b h1 h2 e => ?_) fun k hk => ?_
    · obtain ⟨m, hm, em⟩ := h.frm j (by omega)
      show (G j).toNat < n
      rw [em, Int.toNat_natCast]; exact hm
    · obtain ⟨m, hm, em⟩ := h.frm a (by omega)
      obtain ⟨m', hm', em'⟩ := h.frm b (by omega)
      have hr := h.ord a b h1 (by omega)
      rw [em, em', Int.toNat_natCast, Int.toNat_natCast] at e
      rw [em, em', e] at hr
      exact nameR_irr _ _ hr
    · rw [aheadB_iff]
      constructor
      · intro hr
        obtain ⟨j, hj, ej⟩ := h.all k hk
        refine ⟨j, ?_, by show (G j).toNat = k; rw [ej, Int.toNat_natCast]⟩
        rcases Nat.lt_trichotomy j p with c | c | c
        · exact c
        · rw [c, ep] at ej
          rw [← ej] at hr
          exact absurd hr (nameR_irr _ _)
        · have := h.ord p j c hj
          rw [ep, ej] at this
          exact absurd (nameR_tr _ _ _ _ hr this) (nameR_irr _ _)
      · rintro ⟨j, hj, ej⟩
        have hr := h.ord j p hj hp
        obtain ⟨m, hm, em⟩ := h.frm j (by omega)
        have ej : (G j).toNat = k := ej
        rw [em, Int.toNat_natCast] at ej
        rw [em, ep, ej] at hr
        exact hr
  rw [e]
  exact ⟨hp, ep⟩
/-- Names of neighbours. -/
theorem not_down {Z : Nat → Smp} {n : Nat} {G : Nat → Int} (h : SrtO (nameR (nmS Z)) (fun j => (j : Int)) n G) (i : Nat) (h0 : 0 < i) (hi : i < n) : (ltS (onm Z G (i - 1)) (onm Z G i) || decide (onm Z G (i - 1) = onm Z G i)) = true := by
  have hr := h.ord (i - 1) i (by omega) hi
  rw [Bool.or_eq_true, decide_eq_true_eq]
  rcases hr with hr | ⟨hr, _⟩
  · exact .inl hr
  · cases hc : ltS (onm Z G (i - 1)) (onm Z G i)
    · exact .inr (ltS_tri hc hr)
    · exact .inl rfl
end Go.Proofs.Ytmdninfmidmmhaa
