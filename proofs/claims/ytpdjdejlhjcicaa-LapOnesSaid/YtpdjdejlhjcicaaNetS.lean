/- What package net does to blocks, without a program: pairs of a round, turned and turned back; a block as its 16 numbers by their places. -/
import Derived.Test.YtpdjdejlhjcicaaLiftL
import Derived.Test.YtpdjdejlhjcicaaTableL
import Derived.Test.YtpdjdejlhjcicaaArrI
namespace Go.Proofs.Ytpdjdejlhjcicaa
set_option linter.unusedVariables false
open Go.RowKit

/-- Two places, and which turn is theirs. -/
structure NPair where
  lo : Nat
  hi : Nat
  tn : Nat
  h1 : lo < 16
  h2 : hi < 16
  h3 : lo ≠ hi
  h4 : tn < 8
def NPair.val (x : NPair) : Value := .agg #[.int .i64 x.lo, .int .i64 x.hi, .int .i64 x.tn]

def apart (r : Nat) : Nat := 2 ^ r
def isLow (r i : Nat) : Bool := decide (i / apart r % 2 = 0) && decide (i + apart r < 16)
theorem tn_lt (r i : Nat) : (3 * i + 5 * r) % 8 < 8 := Nat.mod_lt _ (by decide)
def pairOf (r i : Nat) (h : i + apart r < 16) : NPair :=
  ⟨i, i + apart r, (3 * i + 5 * r) % 8, by omega, h, by have : 0 < apart r := Nat.two_pow_pos r; omega, tn_lt r i⟩
def pairR (r i : Nat) : Option NPair := if h : i / apart r % 2 = 0 ∧ i + apart r < 16 then some (pairOf r i h.2) else none
/-- The pairs of round r whose lower place is below n, rising. -/
def pairs (r n : Nat) : List NPair := (List.range n).filterMap (pairR r)
theorem pairs_zero (r : Nat) : pairs r 0 = [] := rfl
theorem pairs_yes (r n : Nat) (h : n / apart r % 2 = 0) (h2 : n + apart r < 16) : pairs r (n + 1) = pairs r n ++ [pairOf r n h2] := by
  unfold pairs
  rw [List.range_succ, List.filterMap_append, List.filterMap_cons, List.filterMap_nil]
  unfold pairR
  rw [dif_pos ⟨h, h2⟩]
theorem pairs_no (r n : Nat) (h : ¬ n / apart r % 2 = 0) : pairs r (n + 1) = pairs r n := by
  unfold pairs
  rw [List.range_succ, List.filterMap_append, List.filterMap_cons, List.filterMap_nil]
  unfold pairR
  rw [dif_neg (fun e => h e.1), List.append_nil]
/-- In a round of the four a lower place has its other within the block. -/
theorem low_in (r : Nat) (hr : r < 4) (i : Nat) (hi : i < 16) (h : i / apart r % 2 = 0) : i + apart r < 16 := by
  revert i
  rcases (by omega : r = 0 ∨ r = 1 ∨ r = 2 ∨ r = 3) with rfl | rfl | rfl | rfl <;> decide
def Apart (x y : NPair) : Prop := x.lo ≠ y.lo ∧ x.lo ≠ y.hi ∧ x.hi ≠ y.lo ∧ x.hi ≠ y.hi
instance (x y : NPair) : Decidable (Apart x y) := by unfold Apart; infer_instance
theorem pairs_apart (r : Nat) (hr : r < 4) : (pairs r 16).Pairwise Apart := by
  rcases (by omega : r = 0 ∨ r = 1 ∨ r = 2 ∨ r = 3) with rfl | rfl | rfl | rfl <;> decide +kernel

def stepT (f : Nat → Int) (x : NPair) : Nat → Int := fun k =>
  if k = x.hi then turnWB (f x.lo) (f x.hi) (turnP x.tn) (turnU x.tn) else if k = x.lo then turnWA (f x.lo) (f x.hi) (turnP x.tn) (turnU x.tn) else f k
def stepB (f : Nat → Int) (x : NPair) : Nat → Int := fun k =>
  if k = x.hi then backWB (f x.lo) (f x.hi) (turnP x.tn) (turnU x.tn) else if k = x.lo then backWA (f x.lo) (f x.hi) (turnP x.tn) (turnU x.tn) else f k
theorem blk_stepT (f : Nat → Int) (x : NPair) : updN (updN (blk f) x.lo (.int .i64 (turnWA (f x.lo) (f x.hi) (turnP x.tn) (turnU x.tn)))) x.hi (.int .i64 (turnWB (f x.lo) (f x.hi) (turnP x.tn) (turnU x.tn))) = blk (stepT f x) := by
  rw [blk_upd, blk_upd]; rfl
theorem blk_stepB (f : Nat → Int) (x : NPair) : updN (updN (blk f) x.lo (.int .i64 (backWA (f x.lo) (f x.hi) (turnP x.tn) (turnU x.tn)))) x.hi (.int .i64 (backWB (f x.lo) (f x.hi) (turnP x.tn) (turnU x.tn))) = blk (stepB f x) := by
  rw [blk_upd, blk_upd]; rfl

def fwdR (r : Nat) (f : Nat → Int) : Nat → Int := (pairs r 16).foldl stepT f
def bckR (r : Nat) (f : Nat → Int) : Nat → Int := (pairs r 16).foldl stepB f
/-- The first n rounds. -/
def fwdN : Nat → (Nat → Int) → Nat → Int
  | 0, f => f
  | n + 1, f => fwdR n (fwdN n f)
/-- The last n rounds, taken back. -/
def bckN : Nat → (Nat → Int) → Nat → Int
  | 0, f => f
  | n + 1, f => bckR (3 - n) (bckN n f)

/-! All numbers are of 64 bits. -/
theorem stepT_in {f : Nat → Int} (h : Fits64 f) (x : NPair) : Fits64 (stepT f x) := by
  intro k
  unfold stepT
  split
  · exact wrap64_bd _
  · split
    · exact wrap64_bd _
    · exact h k
theorem foldT_in : ∀ (l : List NPair) {f : Nat → Int}, Fits64 f → Fits64 (l.foldl stepT f)
  | [], _, h => h
  | x :: l, _, h => foldT_in l (stepT_in h x)
theorem fwdN_in (n : Nat) {f : Nat → Int} (h : Fits64 f) : Fits64 (fwdN n f) := by
  induction n with
  | zero => exact h
  | succ n ih => exact foldT_in _ ih

/-! What is turned, and back, is as it was. -/
theorem back_one {f : Nat → Int} (h : Fits64 f) (x : NPair) : stepB (stepT f x) x = f := by
  have e := backW_turnW (f x.lo) (f x.hi) (turnP x.tn) (turnU x.tn) (h x.lo).1 (h x.lo).2 (h x.hi).1 (h x.hi).2
  have l1 : stepT f x x.lo = turnWA (f x.lo) (f x.hi) (turnP x.tn) (turnU x.tn) := by unfold stepT; rw [if_neg x.h3, if_pos rfl]
  have l2 : stepT f x x.hi = turnWB (f x.lo) (f x.hi) (turnP x.tn) (turnU x.tn) := by unfold stepT; rw [if_pos rfl]
  funext k
  unfold stepB
  rw [l1, l2, e.1, e.2]
  split
  · rename_i hk; rw [hk]
  · rename_i hk
    split
    · rename_i hk2; rw [hk2]
    · rename_i hk2
      unfold stepT
      rw [if_neg hk, if_neg hk2]
theorem back_other (g : Nat → Int) {x y : NPair} (h : Apart x y) : stepB (stepT g y) x = stepT (stepB g x) y := by
  obtain ⟨h1, h2, h3, h4⟩ := h
  have a1 : stepT g y x.lo = g x.lo := by unfold stepT; rw [if_neg h2, if_neg h1]
  have a2 : stepT g y x.hi = g x.hi := by unfold stepT; rw [if_neg h4, if_neg h3]
  have b1 : stepB g x y.lo = g y.lo := by unfold stepB; rw [if_neg (Ne.symm h3), if_neg (Ne.symm h1)]
  have b2 : stepB g x y.hi = g y.hi := by unfold stepB; rw [if_neg (Ne.symm h4), if_neg (Ne.symm h2)]
  funext k
  show (if k = x.hi then backWB (stepT g y x.lo) (stepT g y x.hi) (turnP x.tn) (turnU x.tn) else if k = x.lo then backWA (stepT g y x.lo) (stepT g y x.hi) (turnP x.tn) (turnU x.tn) else stepT g y k) =
    (if k = y.hi then turnWB (stepB g x y.lo) (stepB g x y.hi) (turnP y.tn) (turnU y.tn) else if k = y.lo then turnWA (stepB g x y.lo) (stepB g x y.hi) (turnP y.tn) (turnU y.tn) else stepB g x k)
  rw [a1, a2, b1, b2]
  unfold stepT stepB
  by_cases c1 : k = x.hi
  · rw [if_pos c1, if_neg (fun e => h4 (c1.symm.trans e)), if_neg (fun e => h3 (c1.symm.trans e)), if_pos c1]
  · rw [if_neg c1]
    by_cases c2 : k = x.lo
    · rw [if_pos c2, if_neg (fun e => h2 (c2.symm.trans e)), if_neg (fun e => h1 (c2.symm.trans e)), if_neg c1, if_pos c2]
    · rw [if_neg c2, if_neg c1, if_neg c2]
theorem back_others : ∀ (l : List NPair) (g : Nat → Int) (x : NPair), (∀ y ∈ l, Apart x y) → stepB (l.foldl stepT g) x = l.foldl stepT (stepB g x)
  | [], _, _, _ => rfl
  | y :: l, g, x, h => by
    rw [List.foldl_cons, back_others l _ x (fun z hz => h z (by simp [hz])), back_other g (h y (by simp)), List.foldl_cons]
theorem back_all : ∀ (l : List NPair) (f : Nat → Int), l.Pairwise Apart → Fits64 f → l.foldl stepB (l.foldl stepT f) = f
  | [], _, _, _ => rfl
  | x :: l, f, h, hf => by
    obtain ⟨h1, h2⟩ := List.pairwise_cons.1 h
    rw [List.foldl_cons, List.foldl_cons, back_others l _ x h1, back_one hf, back_all l f h2 hf]
theorem bck_fwdR (r : Nat) (hr : r < 4) {f : Nat → Int} (h : Fits64 f) : bckR r (fwdR r f) = f := back_all _ f (pairs_apart r hr) h
theorem bck_fwd {f : Nat → Int} (h : Fits64 f) : bckN 4 (fwdN 4 f) = f := by
  show bckR 0 (bckR 1 (bckR 2 (bckR 3 (fwdR 3 (fwdR 2 (fwdR 1 (fwdR 0 f))))))) = f
  have i1 : Fits64 (fwdR 0 f) := fwdN_in 1 h
  have i2 : Fits64 (fwdR 1 (fwdR 0 f)) := fwdN_in 2 h
  have i3 : Fits64 (fwdR 2 (fwdR 1 (fwdR 0 f))) := fwdN_in 3 h
  rw [bck_fwdR 3 (by decide) i3, bck_fwdR 2 (by decide) i2, bck_fwdR 1 (by decide) i1, bck_fwdR 0 (by decide) h]

/-! How great numbers become. -/
def Within (M : Int) (f : Nat → Int) : Prop := ∀ k, -M ≤ f k ∧ f k ≤ M
theorem stepT_near {f : Nat → Int} {M : Int} (hM : M ≤ 4398046511104) (x : NPair) (h1 : -M ≤ f x.lo ∧ f x.lo ≤ M) (h2 : -M ≤ f x.hi ∧ f x.hi ≤ M) :
    (-(3 * M + 4) ≤ stepT f x x.lo ∧ stepT f x x.lo ≤ 3 * M + 4) ∧ (-(3 * M + 4) ≤ stepT f x x.hi ∧ stepT f x x.hi ≤ 3 * M + 4) := by
  obtain ⟨p0, p1, u0, u1⟩ := turn_bds x.tn x.h4
  have e := turnW_eq (f x.lo) (f x.hi) (turnP x.tn) (turnU x.tn) M h1.1 h1.2 h2.1 h2.2 p0 (by omega) u0 u1 hM
  have n := turn_near (f x.lo) (f x.hi) (turnP x.tn) (turnU x.tn) M h1.1 h1.2 h2.1 h2.2 p0 p1 u0 u1
  unfold stepT
  rw [if_neg x.h3, if_pos rfl, if_pos rfl, e.1, e.2]
  exact n
theorem foldT_near {M : Int} (hM : M ≤ 4398046511104) : ∀ (l : List NPair) (f : Nat → Int), l.Pairwise Apart → Within (3 * M + 4) f → (∀ x ∈ l, (-M ≤ f x.lo ∧ f x.lo ≤ M) ∧ (-M ≤ f x.hi ∧ f x.hi ≤ M)) → Within (3 * M + 4) (l.foldl stepT f)
  | [], _, _, h, _ => h
  | x :: l, f, ha, h, hl => by
    obtain ⟨h1, h2⟩ := List.pairwise_cons.1 ha
    obtain ⟨k1, k2⟩ := hl x (by simp)
    have n := stepT_near hM x k1 k2
    refine foldT_near hM l _ h2 (fun k => ?_) (fun y hy => ?_)
    · by_cases c1 : k = x.hi
      · rw [c1]; exact n.2
      · by_cases c2 : k = x.lo
        · rw [c2]; exact n.1
        · unfold stepT; rw [if_neg c1, if_neg c2]; exact h k
    · obtain ⟨a1, a2, a3, a4⟩ := h1 y hy
      have b1 : stepT f x y.lo = f y.lo := by unfold stepT; rw [if_neg (Ne.symm a3), if_neg (Ne.symm a1)]
      have b2 : stepT f x y.hi = f y.hi := by unfold stepT; rw [if_neg (Ne.symm a4), if_neg (Ne.symm a2)]
      rw [b1, b2]
      exact hl y (by simp [hy])
theorem fwdR_near (r : Nat) (hr : r < 4) {M : Int} (h0 : 0 ≤ M) (hM : M ≤ 4398046511104) {f : Nat → Int} (h : Within M f) : Within (3 * M + 4) (fwdR r f) :=
  foldT_near hM _ f (pairs_apart r hr) (fun k => by have := h k; omega) (fun x _ => ⟨h x.lo, h x.hi⟩)
theorem fwd_near {M : Int} (h0 : 0 ≤ M) (hM : M ≤ 4294967296) {f : Nat → Int} (h : Within M f) : Within (81 * M + 160) (fwdN 4 f) := by
  have a := fwdR_near 0 (by decide) h0 (by omega) h
  have b := fwdR_near 1 (by decide) (by omega) (by omega) a
  have c := fwdR_near 2 (by decide) (by omega) (by omega) b
  have d := fwdR_near 3 (by decide) (by omega) (by omega) c
  intro k
  have := d k
  show -(81 * M + 160) ≤ fwdR 3 (fwdR 2 (fwdR 1 (fwdR 0 f))) k ∧ fwdR 3 (fwdR 2 (fwdR 1 (fwdR 0 f))) k ≤ 81 * M + 160
  omega

/-! Noughts stay noughts; places beyond the block stay as they are. -/
theorem stepT_zero (x : NPair) : stepT (fun _ => 0) x = fun _ => 0 := by
  have e : ∀ c, makeW 0 c = 0 := fun c => by unfold makeW; rw [Int.zero_mul]; decide +kernel
  funext k
  unfold stepT turnWA turnWB turnW1
  simp only [e]
  have w0 : wrap64 0 = 0 := by decide +kernel
  simp [e, w0]
theorem foldT_zero : ∀ l : List NPair, l.foldl stepT (fun _ => 0) = fun _ => 0
  | [] => rfl
  | x :: l => by rw [List.foldl_cons, stepT_zero, foldT_zero l]
theorem fwd_zero : fwdN 4 (fun _ => 0) = fun _ => 0 := by
  show fwdR 3 (fwdR 2 (fwdR 1 (fwdR 0 (fun _ => 0)))) = _
  unfold fwdR
  rw [foldT_zero, foldT_zero, foldT_zero, foldT_zero]
theorem foldT_beyond (k : Nat) (hk : 16 ≤ k) : ∀ (l : List NPair) (f : Nat → Int), l.foldl stepT f k = f k
  | [], _ => rfl
  | x :: l, f => by
    rw [List.foldl_cons, foldT_beyond k hk l]
    have := x.h1; have := x.h2
    unfold stepT
    rw [if_neg (by omega), if_neg (by omega)]
theorem fwd_beyond (f : Nat → Int) (k : Nat) (hk : 16 ≤ k) : fwdN 4 f k = f k := by
  show fwdR 3 (fwdR 2 (fwdR 1 (fwdR 0 f))) k = _
  unfold fwdR
  rw [foldT_beyond k hk, foldT_beyond k hk, foldT_beyond k hk, foldT_beyond k hk]
/-- Unlike blocks have unlike spectra. -/
theorem fwd_apart {f g : Nat → Int} (hf : Fits64 f) (hg : Fits64 g) (h0 : ∀ k, 16 ≤ k → f k = g k) : (∀ k, k < 16 → fwdN 4 f k = fwdN 4 g k) ↔ ∀ k, k < 16 → f k = g k := by
  constructor
  · intro h
    have e : fwdN 4 f = fwdN 4 g := by
      funext k
      by_cases hk : k < 16
      · exact h k hk
      · rw [fwd_beyond f k (by omega), fwd_beyond g k (by omega)]; exact h0 k (by omega)
    have e2 : f = g := by rw [← bck_fwd hf, ← bck_fwd hg, e]
    intro k _
    rw [e2]
  · intro h
    have e2 : f = g := by
      funext k
      by_cases hk : k < 16
      · exact h k hk
      · exact h0 k (by omega)
    intro k _
    rw [e2]
end Go.Proofs.Ytpdjdejlhjcicaa
