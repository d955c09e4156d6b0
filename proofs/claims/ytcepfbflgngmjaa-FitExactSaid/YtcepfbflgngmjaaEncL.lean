/- The bits of a frame: plain facts; a writer that has laid bits and no error. -/
import Derived.Test.YtcepfbflgngmjaaFrBitsL
namespace Go.Proofs.Ytcepfbflgngmjaa
set_option linter.unusedVariables false
set_option maxRecDepth 100000
open Go.RowKit Go.ChangeShapes Go.WideShapes

/-- The bits of a frame, as far as they are laid: gains, how many tones, tones, scales and widths, steps. -/
def encG (F : Nat → Int) (k : Nat) : List Bool := bitsI 1 2 ++ (List.range k).flatMap fun j => bitsI (F j) 2
def encN (F : Nat → Int) (n : Nat) : List Bool := encG F 4 ++ bitsI n 2
def encT (F : Nat → Int) (n : Nat) (T : Nat → Int) (k : Nat) : List Bool := encN F n ++ (List.range k).flatMap fun j => bitsI (T (2 * j)) 4 ++ bitsI (T (2 * j + 1)) 24
def encS (F : Nat → Int) (n : Nat) (T : Nat → Int) (k : Nat) : List Bool := encT F n T n ++ (List.range k).flatMap fun j => bitsI (F (5 + j)) 5 ++ bitsI (F (9 + j)) 5
def encQ (F : Nat → Int) (n : Nat) (T : Nat → Int) (k : Nat) : List Bool := encS F n T 4 ++ (List.range k).flatMap fun j => bitsI (F (13 + j)) (F (9 + j / 4))
def enc (F : Nat → Int) (n : Nat) (T : Nat → Int) : List Bool := encQ F n T 16
theorem encG_zero (F : Nat → Int) : encG F 0 = bitsI 1 2 := by simp [encG]
theorem encT_zero (F : Nat → Int) (n : Nat) (T : Nat → Int) : encT F n T 0 = encN F n := by simp [encT]
theorem encS_zero (F : Nat → Int) (n : Nat) (T : Nat → Int) : encS F n T 0 = encT F n T n := by simp [encS]
theorem encQ_zero (F : Nat → Int) (n : Nat) (T : Nat → Int) : encQ F n T 0 = encS F n T 4 := by simp [encQ]
theorem encG_succ (F : Nat → Int) (k : Nat) : encG F (k + 1) = encG F k ++ bitsI (F k) 2 := by simp [encG, List.range_succ]
theorem encT_succ (F : Nat → Int) (n : Nat) (T : Nat → Int) (k : Nat) : encT F n T (k + 1) = encT F n T k ++ bitsI (T (2 * k)) 4 ++ bitsI (T (2 * k + 1)) 24 := by simp [encT, List.range_succ]
theorem encS_succ (F : Nat → Int) (n : Nat) (T : Nat → Int) (k : Nat) : encS F n T (k + 1) = encS F n T k ++ bitsI (F (5 + k)) 5 ++ bitsI (F (9 + k)) 5 := by simp [encS, List.range_succ]
theorem encQ_succ (F : Nat → Int) (n : Nat) (T : Nat → Int) (k : Nat) : encQ F n T (k + 1) = encQ F n T k ++ bitsI (F (13 + k)) (F (9 + k / 4)) := by simp [encQ, List.range_succ]
theorem encG_len (F : Nat → Int) (k : Nat) : (encG F k).length = 2 + 2 * k := by
  induction k with
  | zero => rw [encG_zero, len_bitsI]; rfl
  | succ k ih => rw [encG_succ, List.length_append, ih, len_bitsI]; show 2 + 2 * k + 2 = _; omega
theorem encN_len (F : Nat → Int) (n : Nat) : (encN F n).length = 12 := by
  unfold encN; rw [List.length_append, encG_len, len_bitsI]; rfl
theorem encT_len (F : Nat → Int) (n : Nat) (T : Nat → Int) (k : Nat) : (encT F n T k).length = 12 + 28 * k := by
  induction k with
  | zero => rw [encT_zero, encN_len]
  | succ k ih => rw [encT_succ, List.length_append, List.length_append, ih, len_bitsI, len_bitsI]; show 12 + 28 * k + 4 + 24 = _; omega
theorem encS_len (F : Nat → Int) (n : Nat) (T : Nat → Int) (k : Nat) : (encS F n T k).length = 12 + 28 * n + 10 * k := by
  induction k with
  | zero => rw [encS_zero, encT_len]; omega
  | succ k ih => rw [encS_succ, List.length_append, List.length_append, ih, len_bitsI, len_bitsI]; show 12 + 28 * n + 10 * k + 5 + 5 = _; omega
theorem encQ_len (F : Nat → Int) (n : Nat) (T : Nat → Int) (k : Nat) (hw : ∀ k, k < 4 → 0 ≤ F (9 + k) ∧ F (9 + k) ≤ 24) (hk : k ≤ 16) : (encQ F n T k).length ≤ 52 + 28 * n + 24 * k := by
  induction k with
  | zero => rw [encQ_zero, encS_len]; omega
  | succ k ih =>
    rw [encQ_succ, List.length_append, len_bitsI]
    have := ih (by omega)
    have := hw (k / 4) (by omega)
    omega
theorem enc_len {F : Nat → Int} {n : Nat} {T : Nat → Int} (h : FrP F n T) : ((enc F n T).length : Int) = costI F n := by
  have h0 := h.hw 0 (by omega); have h1 := h.hw 1 (by omega); have h2 := h.hw 2 (by omega); have h3 := h.hw 3 (by omega)
  have e : (enc F n T).length = 52 + 28 * n + 4 * ((F 9).toNat + (F 10).toNat + (F 11).toNat + (F 12).toNat) := by
    unfold enc
    rw [encQ_succ, encQ_succ, encQ_succ, encQ_succ, encQ_succ, encQ_succ, encQ_succ, encQ_succ, encQ_succ, encQ_succ, encQ_succ, encQ_succ, encQ_succ, encQ_succ, encQ_succ, encQ_succ, encQ_zero]
    simp only [List.length_append, encS_len, len_bitsI]
    show 12 + 28 * n + 10 * 4 + (F 9).toNat + (F 9).toNat + (F 9).toNat + (F 9).toNat + (F 10).toNat + (F 10).toNat + (F 10).toNat + (F 10).toNat + (F 11).toNat + (F 11).toNat + (F 11).toNat + (F 11).toNat + (F 12).toNat + (F 12).toNat + (F 12).toNat + (F 12).toNat = _
    omega
  unfold costI
  rw [e, sum_four]
  show ((52 + 28 * n + 4 * ((F 9).toNat + (F 10).toNat + (F 11).toNat + (F 12).toNat) : Nat) : Int) = 52 + 28 * n + 4 * (F 9 + F 10 + F 11 + F 12)
  have g0 : 0 ≤ F 9 := h0.1
  have g1 : 0 ≤ F 10 := h1.1
  have g2 : 0 ≤ F 11 := h2.1
  have g3 : 0 ≤ F 12 := h3.1
  omega

/-- The writer at block bw has laid L, and no error; all that w had is as it was. -/
def BySt (w : World) (bw : Nat) (L : List Bool) (wr : World) : Prop := WrAt wr (fun k => k < w.heap.size) bw L 0 ∧ Old w wr
namespace BySt
variable {w wr w' : World} {bw : Nat} {L : List Bool}
theorem old (h : BySt w bw L wr) (k : Old wr w') : BySt w bw L w' := ⟨h.1.old k, h.2.trans k⟩
theorem fresh (w : World) : BySt w w.heap.size [] (w.alloc (.cells #[.slice none 0 0, .int .i64 0, .int .i64 0] 66)) :=
  ⟨WrAt.fresh (heap_alloc_new _ _) (by omega) (fun k hk => by simp; omega), Old.alloc _ _⟩
end BySt
theorem put_X {X : Nat → Prop} {wr : World} {bw : Nat} {L : List Bool} (h : WrAt wr X bw L 0) (v k : Int) (hL : L.length ≤ 4294967200) (h0 : 0 ≤ v) (h1 : v ≤ 9223372036854775807) (hv : validI false v k = true) :
    Calls Try.prog 35 #[.pointer (some ⟨bw, 0, none⟩), .int .u64 v, .int .i64 k] wr fun e w' => e = .returned (.tuple #[]) ∧ WrAt w' X bw (L ++ bitsI v k) 0 ∧ Kept X wr w' := by
  refine (Put_any X bw L 0 v k wr hL h0 (by omega) h).mono ?_
  rintro e w' ⟨he, h2, h3⟩
  have hp := putI_plain L 0 v k (by omega) h1
  rw [show v % 18446744073709551616 = v by omega] at hp
  rw [hp] at h2
  unfold putI at h2
  rw [if_neg (by simp), if_pos hv] at h2
  exact ⟨he, h2, h3⟩
theorem sgn_X {X : Nat → Prop} {wr : World} {bw : Nat} {L : List Bool} (h : WrAt wr X bw L 0) (v k : Int) (hL : L.length ≤ 4294967200) (h0 : -9223372036854775808 ≤ v) (h1 : v ≤ 9223372036854775807) (hv : validI true v k = true) :
    Calls Try.prog 36 #[.pointer (some ⟨bw, 0, none⟩), .int .i64 v, .int .i64 k] wr fun e w' => e = .returned (.tuple #[]) ∧ WrAt w' X bw (L ++ bitsI v k) 0 ∧ Kept X wr w' := by
  refine (WSigned_any X bw L 0 v k wr hL h).mono ?_
  rintro e w' ⟨he, h2, h3⟩
  rw [putI_signed L 0 v k h0 h1] at h2
  unfold putI at h2
  rw [if_neg (by simp), if_pos hv] at h2
  exact ⟨he, h2, h3⟩
theorem Put_ok {w wr : World} {bw : Nat} {L : List Bool} (h : BySt w bw L wr) (v k : Int) (hL : L.length ≤ 4294967200) (h0 : 0 ≤ v) (h1 : v ≤ 9223372036854775807) (hv : validI false v k = true) :
    Calls Try.prog 35 #[.pointer (some ⟨bw, 0, none⟩), .int .u64 v, .int .i64 k] wr fun e w' => e = .returned (.tuple #[]) ∧ BySt w bw (L ++ bitsI v k) w' :=
  (put_X h.1 v k hL h0 h1 hv).mono fun e w' ⟨he, h2, h3⟩ => ⟨he, h2, Kept.trans h.2 h3⟩
theorem Signed_ok {w wr : World} {bw : Nat} {L : List Bool} (h : BySt w bw L wr) (v k : Int) (hL : L.length ≤ 4294967200) (h0 : -9223372036854775808 ≤ v) (h1 : v ≤ 9223372036854775807) (hv : validI true v k = true) :
    Calls Try.prog 36 #[.pointer (some ⟨bw, 0, none⟩), .int .i64 v, .int .i64 k] wr fun e w' => e = .returned (.tuple #[]) ∧ BySt w bw (L ++ bitsI v k) w' :=
  (sgn_X h.1 v k hL h0 h1 hv).mono fun e w' ⟨he, h2, h3⟩ => ⟨he, h2, Kept.trans h.2 h3⟩
/-- A new block is guarded, too. -/
theorem BySt.guard {w wr : World} {bw : Nat} {L : List Bool} (h : BySt w bw L wr) (o : Obj) : WrAt (wr.alloc o) (fun k => k < w.heap.size ∨ k = wr.heap.size) bw L 0 := by
  obtain ⟨⟨hXb, hX, v, hblk, hown⟩, ho⟩ := h
  have hk : Old wr (wr.alloc o) := Old.alloc wr o
  have hb := lt_of_block hblk
  have hs := ho.size
  refine ⟨fun hh => hh.elim hXb (by omega), fun k hk => by simp; omega, v, (hk.block bw hb).trans hblk, (hown.old hk).mono fun k hv hh => ?_⟩
  have := hown.lt k hv
  rcases hh with (h1 | h1) | h1
  · exact hown.2 k hv (.inl h1)
  · omega
  · exact hown.2 k hv (.inr h1)
theorem BySt.back {w wr w' : World} {bw : Nat} {L L' : List Bool} {o : Obj} (h : BySt w bw L wr) (h2 : WrAt w' (fun k => k < w.heap.size ∨ k = wr.heap.size) bw L' 0) (h3 : Kept (fun k => k < w.heap.size ∨ k = wr.heap.size) (wr.alloc o) w') : BySt w bw L' w' := by
  obtain ⟨hXb, hX, v, hblk, hown⟩ := h2
  have ho := h.2
  refine ⟨⟨fun hh => hXb (.inl hh), fun k hk => hX k (.inl hk), v, hblk, hown.mono fun k hv hh => hown.2 k hv (hh.imp (fun h => .inl h) id)⟩, ?_⟩
  exact Kept.trans (ho.alloc' o) (h3.mono fun k hk => .inl hk)
theorem valid_low (v k m : Int) (hk : 0 ≤ k) (hk2 : k ≤ 57) (h0 : 0 ≤ v) (h1 : v ≤ m) (hm : m < pw k.toNat) : validI false v k = true := by
  unfold validI
  simp only [Bool.false_eq_true, if_false, Bool.and_eq_true, decide_eq_true_eq]
  exact ⟨⟨hk, hk2⟩, h0, by omega⟩
theorem valid_fit (v k : Int) (hk : 0 ≤ k) (hk2 : k ≤ 24) (h : fitB v k = true) : validI true v k = true ∧ -8388608 ≤ v ∧ v ≤ 8388607 := by
  refine ⟨?_, ?_⟩
  · unfold validI
    simp only [if_true, Bool.and_eq_true, decide_eq_true_eq]
    exact ⟨⟨hk, by omega⟩, h⟩
  · by_cases h0 : k ≤ 0
    · rw [fitB_neg v k h0, beq_iff_eq] at h
      omega
    · rw [fitB_mid v k (by omega) (by omega), decide_eq_true_eq] at h
      have := pw_mono (k - 1).toNat 23 (by omega)
      rw [show pw 23 = 8388608 from rfl] at this
      omega
end Go.Proofs.Ytcepfbflgngmjaa
