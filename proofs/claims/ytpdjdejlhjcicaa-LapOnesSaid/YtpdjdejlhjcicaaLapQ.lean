/- What package lap does, without a program: samples are found again of their spectra; gains of blocks without. -/
import Derived.Test.YtpdjdejlhjcicaaLapG
namespace Go.Proofs.Ytpdjdejlhjcicaa
set_option linter.unusedVariables false
open Go.RowKit

def Same16 (f g : Nat → Int) : Prop := ∀ k, k < 16 → f k = g k
theorem stepB_same {f g : Nat → Int} (h : Same16 f g) (x : NPair) : Same16 (stepB f x) (stepB g x) := fun k hk => by
  unfold stepB
  rw [h _ x.h1, h _ x.h2, h k hk]
theorem foldB_same : ∀ (l : List NPair) {f g : Nat → Int}, Same16 f g → Same16 (l.foldl stepB f) (l.foldl stepB g)
  | [], _, _, h => h
  | x :: l, _, _, h => foldB_same l (stepB_same h x)
theorem bckN_same (n : Nat) {f g : Nat → Int} (h : Same16 f g) : Same16 (bckN n f) (bckN n g) := by
  induction n with
  | zero => exact h
  | succ n ih => exact foldB_same _ ih
theorem upI_in (x s : Int) : -9223372036854775808 ≤ upI x s ∧ upI x s ≤ 9223372036854775807 := wrap64_bd _
theorem louder_in (G : Nat → Int) (ng b : Nat) (f : Nat → Int) : Fits64 (louder G ng b f) := fun k => upI_in _ _
theorem metF_in (N : Nat) (G : Nat → Int) (ng : Nat) {F : Nat → Int} (h : Fits64 F) : Fits64 (metF N G ng F) :=
  meetTo_in (fun _ _ _ _ => wrap64_bd _) (fun _ _ _ _ => wrap64_bd _) (mapTo_in (fun b f _ => louder_in G ng b f) h)
theorem spectraF_in (N : Nat) (G : Nat → Int) (ng : Nat) {F : Nat → Int} (h : Fits64 F) : Fits64 (spectraF N G ng F) :=
  mapTo_in (fun _ _ hf => fwdN_in 4 hf) (metF_in N G ng h)
theorem down_up (x s : Int) (h1 : -1048576 ≤ x) (h2 : x ≤ 1048576) (s0 : 0 ≤ s) (s3 : s ≤ 3) : downI (upI x s) s = x := by
  rcases (by omega : s = 0 ∨ s = 1 ∨ s = 2 ∨ s = 3) with rfl | rfl | rfl | rfl
  · unfold downI upI roundI
    rw [show (0 : Int).toNat = 0 from rfl, show pw 0 = 1 from rfl, show (2 : Int) ^ 0 = 1 from rfl, IntWalk.wrap64_in _ (by omega)]
    split <;> omega
  · unfold downI upI roundI
    rw [show (1 : Int).toNat = 1 from rfl, show pw 1 = 2 from rfl, show (2 : Int) ^ 1 = 2 from rfl, IntWalk.wrap64_in _ (by omega)]
    split <;> omega
  · unfold downI upI roundI
    rw [show (2 : Int).toNat = 2 from rfl, show pw 2 = 4 from rfl, show (2 : Int) ^ 2 = 4 from rfl, IntWalk.wrap64_in _ (by omega)]
    split <;> omega
  · unfold downI upI roundI
    rw [show (3 : Int).toNat = 3 from rfl, show pw 3 = 8 from rfl, show (2 : Int) ^ 3 = 8 from rfl, IntWalk.wrap64_in _ (by omega)]
    split <;> omega
theorem back_forth {M : Nat → Int} (h : Fits64 M) (N q : Nat) (hq : q < N * 16) : mapTo N back (mapTo N forth M) q = M q := by
  rw [mapTo_end _ _ _ _ hq]
  obtain ⟨b, r, rfl, hr, _, _⟩ := split16 q
  rw [mapB_at _ _ _ _ hr]
  unfold back
  have e : Same16 (rowAt (mapTo N forth M) b) (fwdN 4 (rowAt M b)) := fun k hk => by
    show mapTo N forth M (b * 16 + k) = _
    rw [mapTo_end _ _ _ _ (by omega), mapB_at _ _ _ _ hk]
    rfl
  rw [bckN_same 4 e r hr, bck_fwd (show Fits64 (rowAt M b) from fun k => h _)]
  rfl
theorem wholeM_spectra {F : Nat → Int} (h : Fits64 F) (N : Nat) (G : Nat → Int) (ng q : Nat) (hq : q < N * 16) : wholeM N (spectraF N G ng F) q = mapTo N (louder G ng) F q := by
  unfold wholeM spectraF
  rw [meetTo_ext (fun q hq => back_forth (metF_in N G ng h) N q hq) q hq]
  unfold metF
  rw [meet_back (mapTo_in (fun b f _ => louder_in G ng b f) h)]
theorem lap_back {F : Nat → Int} (h : ∀ q, -1048576 ≤ F q ∧ F q ≤ 1048576) (N : Nat) (G : Nat → Int) (ng q : Nat) (hq : q < N * 16) : wholeF N G ng (spectraF N G ng F) q = F q := by
  have h64 : Fits64 F := fun k => by have := h k; omega
  unfold wholeF
  rw [mapTo_end _ _ _ _ hq]
  obtain ⟨b, r, rfl, hr, _, _⟩ := split16 q
  rw [mapB_at _ _ _ _ hr]
  have e : wholeM N (spectraF N G ng F) (b * 16 + r) = upI (F (b * 16 + r)) (atI (gainsAt G ng b) r) := by
    rw [wholeM_spectra h64 N G ng _ hq, mapTo_end _ _ _ _ hq, mapB_at _ _ _ _ hr]
    rfl
  show downI (rowAt (wholeM N (spectraF N G ng F)) b r) (atI (gainsAt G ng b) r) = _
  unfold rowAt
  rw [e]
  exact down_up _ _ (h _).1 (h _).2 (atI_bd _ _).1 (atI_bd _ _).2
/-- Blocks without gains are as they were. -/
theorem atI_zero (i : Int) : atI (fun _ => 0) i = 0 := by unfold atI; split <;> rfl
theorem louder_beyond (G : Nat → Int) (ng b : Nat) (h : ng ≤ b) {f : Nat → Int} (hf : Fits64 f) : louder G ng b f = f := by
  funext k
  unfold louder gainsAt upB
  rw [if_neg (by omega), atI_zero]
  unfold upI
  rw [show (0 : Int).toNat = 0 from rfl, show (2 : Int) ^ 0 = 1 from rfl, Int.mul_one]
  have := hf k
  exact IntWalk.wrap64_in _ (by omega)
theorem louder_min {F : Nat → Int} (h : Fits64 F) (N : Nat) (G : Nat → Int) (ng m : Nat) (hm : m = N ∨ (m = ng ∧ ng ≤ N)) : mapTo m (louder G ng) F = mapTo N (louder G ng) F := by
  funext q
  unfold mapTo
  rcases hm with rfl | ⟨rfl, hm⟩
  · rfl
  · by_cases h1 : q < m * 16
    · rw [if_pos h1, if_pos (by omega)]
    · rw [if_neg h1]
      by_cases h2 : q < N * 16
      · rw [if_pos h2]
        obtain ⟨b, r, rfl, hr, _, _⟩ := split16 q
        rw [mapB_at _ _ _ _ hr, louder_beyond G m b (by omega) (show Fits64 (rowAt F b) from fun k => h _)]
        rfl
      · rw [if_neg h2]
end Go.Proofs.Ytpdjdejlhjcicaa
