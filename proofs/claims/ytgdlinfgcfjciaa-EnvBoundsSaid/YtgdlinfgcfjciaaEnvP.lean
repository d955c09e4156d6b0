/- Envelopes as numbers: what rises, what falls, and when it is over. No program. (by wip/tools/exp.py of XEnvP.src) -/
import Derived.Test.YtgdlinfgcfjciaaEnvR
import Derived.Test.YtgdlinfgcfjciaaEnvL
namespace Go.Proofs.Ytgdlinfgcfjciaa
set_option linter.unusedVariables false
set_option linter.unusedSimpArgs false
set_option maxRecDepth 100000
open Go.RowKit Go.ChangeShapes Go.WideShapes

theorem slopeI_cov {o n : Int} (h0 : 0 ≤ o) (h1 : o ≤ 16777216) (hn : 1 ≤ n) : o ≤ n * slopeI o n := by
  obtain ⟨q0, q1, q2, q3, e⟩ := slopeI_up h0 h1 hn
  have h2 := Int.mul_ediv_add_emod o n
  have m1 := Int.emod_lt_of_pos o (show 0 < n by omega)
  have ec : o / n * n = n * (o / n) := Int.mul_comm _ _
  have hs : (if o / n * n < o then o / n + 1 else o / n) ≤ slopeI o n := by rw [e]; omega
  have hm := Int.mul_le_mul_of_nonneg_left hs (show 0 ≤ n by omega)
  split at hm
  · rw [Int.mul_add, Int.mul_one] at hm; omega
  · omega
theorem pass_zero {a d r st : Int} (h0 : 0 ≤ st) (h : passSt a d r st = 0) : st = 0 ∧ a ≠ 0 := by
  unfold passSt at h
  split at h
  · split at h <;> omega
  · split at h
    · omega
    · split at h <;> omega
theorem go_zero {a d s r st lv : Int} (h0 : 0 ≤ st) (h : goSt a d s r st lv = 0) : st = 0 := by
  unfold goSt at h
  split at h
  · split at h <;> omega
  · exact h
theorem pass_up {a d s r lv : Int} (ha : a ≠ 0) : passSt a d r 0 = 0 ∧ passLv a d s r 0 lv = lv := by
  unfold passSt passLv
  simp [ha]
/-- While it rises. -/
theorem nx_rise {a d s r st lv : Int} (h0 : 0 ≤ st) (h : nxSt a d s r st lv = 0) : st = 0 ∧ a ≠ 0 ∧ nxLv a d s r st lv = mvL lv 16777216 a 16777216 ∧ mvL lv 16777216 a 16777216 ≠ 16777216 := by
  have hp : 0 ≤ passSt a d r st := by unfold passSt; split <;> (try split) <;> (try split) <;> omega
  obtain ⟨rfl, ha⟩ := pass_zero h0 (go_zero hp h)
  obtain ⟨p1, p2⟩ := pass_up (d := d) (s := s) (r := r) (lv := lv) ha
  unfold nxSt at h
  unfold nxLv
  rw [p1, p2] at h ⊢
  unfold goSt at h
  unfold goLv
  rw [if_pos (show wyG 0 = true from rfl)] at h ⊢
  have e1 : wyO s 0 = 16777216 := rfl
  have e2 : wyL s 0 = 16777216 := rfl
  have e3 : wyT a d r 0 = a := rfl
  rw [e1, e2, e3] at h ⊢
  refine ⟨rfl, ha, rfl, fun e => ?_⟩
  rw [if_pos e] at h
  omega
/-- In its first samples it rises by a slope each. -/
theorem ev_rise {a d s r : Int} (hs0 : 0 ≤ s) (hs1 : s ≤ 256) (ha : 0 ≤ a) : ∀ k, (evI a d s r (0, 0) k).1 = 0 → k = 0 ∨ (1 ≤ a ∧ (evI a d s r (0, 0) k).2 = k * slopeI 16777216 a ∧ k * slopeI 16777216 a < 16777216)
  | 0 => fun _ => .inl rfl
  | k + 1 => fun h => .inr (by
    have hk := evI_ok (a := a) (d := d) (r := r) (x := (0, 0)) (s := s) ⟨by omega, by omega, by omega, by omega, by omega⟩ hs0 hs1 k
    obtain ⟨h1, h2, h3, h4⟩ := nx_rise hk.s0 h
    obtain ⟨p0, p1, -⟩ := slopeI_bd (o := 16777216) (n := a) (by omega) (by omega)
    have hm := mvL_up (v := (evI a d s r (0, 0) k).2) (t := a) (l := 16777216) (o := 16777216) (by omega) (by omega) hk.v1
    have hv : (evI a d s r (0, 0) k).2 = k * slopeI 16777216 a := by
      rcases ev_rise hs0 hs1 ha k h1 with rfl | ⟨_, h, _⟩
      · show (0 : Int) = _
        simp
      · exact h
    have hl : (evI a d s r (0, 0) (k + 1)).2 = mvL (evI a d s r (0, 0) k).2 16777216 a 16777216 := h3
    have hp : ((k + 1 : Nat) : Int) * slopeI 16777216 a = k * slopeI 16777216 a + slopeI 16777216 a := by
      rw [Int.natCast_add, Int.add_mul]
      simp
    rw [hp, hl]
    generalize (k : Int) * slopeI 16777216 a = t at *
    omega)
/-- It doesn't rise for longer. -/
theorem ev_done {a d s r : Int} (hs0 : 0 ≤ s) (hs1 : s ≤ 256) (ha : 0 ≤ a) (k : Nat) (hk : a ≤ k) (h1 : 1 ≤ k) : (evI a d s r (0, 0) k).1 ≠ 0 := fun h => by
  rcases ev_rise hs0 hs1 ha k h with h | ⟨h2, _, h4⟩
  · omega
  · have hc := slopeI_cov (o := 16777216) (n := a) (by omega) (by omega) h2
    obtain ⟨p0, p1, -⟩ := slopeI_bd (o := 16777216) (n := a) (by omega) (by omega)
    have := Int.mul_le_mul_of_nonneg_right hk p0
    omega
theorem pass_lv {a d s r st lv : Int} (h : StOk s st lv) (hs0 : 0 ≤ s) (hs1 : s ≤ 256) (h0 : st ≠ 0) : passLv a d s r st lv ≤ lv := by
  unfold passLv
  rw [if_neg (by omega)]
  split
  · exact h.fall (by omega)
  · split
    · exact h.v0
    · omega
/-- Behind its rise it never grows. -/
theorem nx_fall {a d s r st lv : Int} (h : StOk s st lv) (hs0 : 0 ≤ s) (hs1 : s ≤ 256) (hp : passSt a d r st ≠ 0) : nxLv a d s r st lv ≤ passLv a d s r st lv := by
  have hk := pass_ok (a := a) (d := d) (r := r) h hs0 hs1
  unfold nxLv goLv
  generalize passSt a d r st = P at *
  generalize passLv a d s r st lv = V at *
  by_cases hg : wyG P = true
  · rw [if_pos hg]
    have hst : P = 0 ∨ P = 1 ∨ P = 3 := by unfold wyG at hg; simpa using hg
    obtain ⟨o0, o1, l0, l1⟩ := wy_bd (st := P) hs0 hs1
    have hl : wyL s P ≤ V := by
      rcases hst with rfl | rfl | rfl
      · exact absurd rfl hp
      · exact hk.fall rfl
      · exact hk.v0
    rw [mvL_dn o0 o1 hl]
    obtain ⟨p0, p1, -⟩ := slopeI_bd (n := wyT a d r P) o0 o1
    omega
  · rw [if_neg hg]
    omega
theorem pass_ne {a d r st : Int} (h : st ≠ 0 ∨ a = 0) (h0 : 0 ≤ st) : passSt a d r st ≠ 0 := fun e => by
  obtain ⟨h1, h2⟩ := pass_zero h0 e
  rcases h with h | h
  · exact h h1
  · exact h2 h
theorem ev_falls {a d s r : Int} (hs0 : 0 ≤ s) (hs1 : s ≤ 256) (ha : 0 ≤ a) (k : Nat) (hk : a < ((k + 1 : Nat) : Int)) : evV a d s r (0, 0) (k + 1) ≤ evV a d s r (0, 0) k := by
  have hi := evI_ok (a := a) (d := d) (r := r) (x := (0, 0)) (s := s) ⟨by omega, by omega, by omega, by omega, by omega⟩ hs0 hs1
  have hp : passSt a d r (evI a d s r (0, 0) k).1 ≠ 0 := by
    refine pass_ne ?_ (hi k).s0
    by_cases h : k = 0
    · right; omega
    · left; exact ev_done hs0 hs1 ha k (by omega) (by omega)
  have h1 := nx_fall (a := a) (d := d) (r := r) (hi k) hs0 hs1 hp
  have h2 := pass_lv (a := a) (d := d) (r := r) (hi (k + 1)) hs0 hs1 (ev_done hs0 hs1 ha (k + 1) (by omega) (by omega))
  have h3 : (evI a d s r (0, 0) (k + 1)).2 = nxLv a d s r (evI a d s r (0, 0) k).1 (evI a d s r (0, 0) k).2 := rfl
  unfold evV nxV
  omega
theorem ev_rises {a d s r : Int} (hs0 : 0 ≤ s) (hs1 : s ≤ 256) (k : Nat) (h : (evI a d s r (0, 0) (k + 1)).1 = 0) (ha : 0 < a) : evV a d s r (0, 0) k ≤ evV a d s r (0, 0) (k + 1) := by
  have hi := evI_ok (a := a) (d := d) (r := r) (x := (0, 0)) (s := s) ⟨by omega, by omega, by omega, by omega, by omega⟩ hs0 hs1
  obtain ⟨h1, h2, h3, h4⟩ := nx_rise (hi k).s0 h
  have e1 := (pass_up (d := d) (s := s) (r := r) (lv := (evI a d s r (0, 0) k).2) h2).2
  have e2 := (pass_up (d := d) (s := s) (r := r) (lv := (evI a d s r (0, 0) (k + 1)).2) h2).2
  have hm := mvL_up (v := (evI a d s r (0, 0) k).2) (t := a) (l := 16777216) (o := 16777216) (by omega) (by omega) (hi k).v1
  obtain ⟨p0, p1, -⟩ := slopeI_bd (o := 16777216) (n := a) (by omega) (by omega)
  have hl : (evI a d s r (0, 0) (k + 1)).2 = mvL (evI a d s r (0, 0) k).2 16777216 a 16777216 := h3
  unfold evV nxV
  rw [h, h1, e1, e2, hl, hm]
  have := (hi k).v1
  omega
/-- Without being let go it is never gone. -/
theorem nx_two {a d s r st lv : Int} (h0 : 0 ≤ st) (h : st ≤ 2) : nxSt a d s r st lv ≤ 2 := by
  have hp : passSt a d r st ≤ 2 := by unfold passSt; split <;> (try split) <;> (try split) <;> omega
  unfold nxSt goSt
  generalize passSt a d r st = P at *
  split
  · rename_i hg
    have hst : P = 0 ∨ P = 1 ∨ P = 3 := by unfold wyG at hg; simpa using hg
    split <;> omega
  · exact hp
theorem ev_two {a d s r : Int} (hs0 : 0 ≤ s) (hs1 : s ≤ 256) : ∀ k, (evI a d s r (0, 0) k).1 ≤ 2
  | 0 => by show (0 : Int) ≤ 2; omega
  | k + 1 => nx_two (evI_ok (a := a) (d := d) (r := r) (x := (0, 0)) (s := s) ⟨by omega, by omega, by omega, by omega, by omega⟩ hs0 hs1 k).s0 (ev_two hs0 hs1 k)
theorem nx_over {a d s r : Int} : nxSt a d s r 4 0 = 4 ∧ nxLv a d s r 4 0 = 0 ∧ nxV a d s r 4 0 = 0 := by
  have p1 : passSt a d r 4 = 4 := by unfold passSt; simp
  have p2 : passLv a d s r 4 0 = 0 := by unfold passLv; simp
  refine ⟨?_, ?_, ?_⟩
  · unfold nxSt; rw [p1, p2]; rfl
  · unfold nxLv; rw [p1, p2]; rfl
  · unfold nxV; rw [p2]; rfl
/-- Let go, it falls by a slope each, and then is over. -/
theorem ev_gone {a d s r lv : Int} (h0 : 0 ≤ lv) (h1 : lv ≤ 16777216) (hr : 0 ≤ r) : ∀ k, (evI a d s r (3, lv) k = (4, 0)) ∨ ((k = 0 ∨ (1 ≤ r ∧ k * slopeI 16777216 r < 16777216)) ∧ evI a d s r (3, lv) k = (3, lv - k * slopeI 16777216 r) ∧ 0 ≤ lv - k * slopeI 16777216 r)
  | 0 => .inr ⟨.inl rfl, by show (3, lv) = _; simp, by simp; exact h0⟩
  | k + 1 => by
    obtain ⟨p0, p1, -⟩ := slopeI_bd (o := 16777216) (n := r) (by omega) (by omega)
    rcases ev_gone h0 h1 hr k with h | ⟨h2, h3, h4⟩
    · left
      show (nxSt a d s r (evI a d s r (3, lv) k).1 (evI a d s r (3, lv) k).2, nxLv a d s r (evI a d s r (3, lv) k).1 (evI a d s r (3, lv) k).2) = _
      rw [h]
      show (nxSt a d s r 4 0, nxLv a d s r 4 0) = _
      rw [nx_over.1, nx_over.2.1]
    · have hp : ((k + 1 : Nat) : Int) * slopeI 16777216 r = k * slopeI 16777216 r + slopeI 16777216 r := by
        rw [Int.natCast_add, Int.add_mul]
        simp
      show (nxSt a d s r (evI a d s r (3, lv) k).1 (evI a d s r (3, lv) k).2, nxLv a d s r (evI a d s r (3, lv) k).1 (evI a d s r (3, lv) k).2) = _ ∨ _ ∧ (nxSt a d s r (evI a d s r (3, lv) k).1 (evI a d s r (3, lv) k).2, nxLv a d s r (evI a d s r (3, lv) k).1 (evI a d s r (3, lv) k).2) = _ ∧ _
      rw [h3, hp]
      have kz : 0 ≤ (k : Int) * slopeI 16777216 r := Int.mul_nonneg (by omega) p0
      show (nxSt a d s r 3 (lv - k * slopeI 16777216 r), nxLv a d s r 3 (lv - k * slopeI 16777216 r)) = _ ∨ _ ∧ (nxSt a d s r 3 (lv - k * slopeI 16777216 r), nxLv a d s r 3 (lv - k * slopeI 16777216 r)) = _ ∧ _
      generalize (k : Int) * slopeI 16777216 r = t at *
      by_cases hr0 : r = 0
      · left
        have p1 : passSt a d r 3 = 4 := by unfold passSt; simp [hr0]
        have p2 : passLv a d s r 3 (lv - t) = 0 := by unfold passLv; simp [hr0]
        unfold nxSt nxLv
        rw [p1, p2]
        rfl
      · have q1 : passSt a d r 3 = 3 := by unfold passSt; simp [hr0]
        have q2 : passLv a d s r 3 (lv - t) = lv - t := by unfold passLv; simp [hr0]
        have g1 : goSt a d s r 3 (lv - t) = if max 0 (lv - t - slopeI 16777216 r) = 0 then 4 else 3 := by
          unfold goSt
          rw [if_pos (show wyG 3 = true from rfl)]
          have e1 : wyO s 3 = 16777216 := rfl
          have e2 : wyL s 3 = 0 := rfl
          have e3 : wyT a d r 3 = r := rfl
          rw [e1, e2, e3, mvL_dn (by omega) (by omega) h4]
          rfl
        have g2 : goLv a d s r 3 (lv - t) = max 0 (lv - t - slopeI 16777216 r) := by
          unfold goLv
          rw [if_pos (show wyG 3 = true from rfl)]
          have e1 : wyO s 3 = 16777216 := rfl
          have e2 : wyL s 3 = 0 := rfl
          have e3 : wyT a d r 3 = r := rfl
          rw [e1, e2, e3, mvL_dn (by omega) (by omega) h4]
        unfold nxSt nxLv
        rw [q1, q2, g1, g2]
        by_cases c : lv - t - slopeI 16777216 r ≤ 0
        · left
          rw [if_pos (by omega), show max 0 (lv - t - slopeI 16777216 r) = 0 by omega]
        · right
          rw [if_neg (by omega), show max 0 (lv - t - slopeI 16777216 r) = lv - (t + slopeI 16777216 r) by omega]
          exact ⟨.inr ⟨by omega, by omega⟩, rfl, by omega⟩
theorem ev_over {a d s r lv : Int} (h0 : 0 ≤ lv) (h1 : lv ≤ 16777216) (hr : 0 ≤ r) (k : Nat) (hk : r < k) : evI a d s r (3, lv) k = (4, 0) := by
  rcases ev_gone (a := a) (d := d) (s := s) h0 h1 hr k with h | ⟨h | ⟨h2, h3⟩, _, _⟩
  · exact h
  · omega
  · have hc := slopeI_cov (o := 16777216) (n := r) (by omega) (by omega) h2
    obtain ⟨p0, p1, -⟩ := slopeI_bd (o := 16777216) (n := r) (by omega) (by omega)
    have := Int.mul_le_mul_of_nonneg_right (show r ≤ (k : Int) by omega) p0
    omega
end Go.Proofs.Ytgdlinfgcfjciaa

