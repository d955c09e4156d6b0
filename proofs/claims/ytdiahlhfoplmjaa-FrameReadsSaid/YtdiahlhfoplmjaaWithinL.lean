/- Fields of a frame that are read: contracts of frame.within, and of a reader that stands behind what was told. -/
import Derived.Test.YtdiahlhfoplmjaaPrefL
import Derived.Test.YtdiahlhfoplmjaaEncL
namespace Go.Proofs.Ytdiahlhfoplmjaa
set_option linter.unusedVariables false
open Go.RowKit Go.ChangeShapes Go.WideShapes

def withTo (bs : List Int) (i : Nat) (er k lo hi : Int) : Int × Nat × Int :=
  if (getTo bs i er k).1 < lo ∨ hi < (getTo bs i er k).1 then (0, (getTo bs i er k).2.1, if (getTo bs i er k).2.2 = 0 then 4 else (getTo bs i er k).2.2) else getTo bs i er k

theorem within_any (b : Nat) (bs : List Int) (i : Nat) (er k lo hi : Int) (w : World) (h : RdAt w b bs i er) :
    Calls Try.prog 31 #[.pointer (some ⟨b, 0, none⟩), .int .i64 k, .int .i64 lo, .int .i64 hi] w fun e w' => e = .returned (.int .i64 (withTo bs i er k lo hi).1) ∧ RdAt w' b bs (withTo bs i er k lo hi).2.1 (withTo bs i er k lo hi).2.2 ∧ Kept (butOf w b) w w' := by
  have hi8 : i ≤ 8 * bs.length := by obtain ⟨_, _, _, _, _, _, h6⟩ := h; exact h6
  have hr := getTo_range bs i er k hi8
  have HG := Lib.hid (Get_any b bs i er k w h)
  unfold withTo
  generalize getTo bs i er k = g at *
  obtain ⟨v, j, e2⟩ := g
  simp only [] at *
  obtain ⟨v0, v1, _⟩ := hr
  clear h hi8
  have HFa := Lib.hid (fun w1 (hg : RdAt w1 b bs j e2) => Fail_any b bs j e2 4 w1 hg)
  obtain ⟨e3, he3⟩ : ∃ e3, (if e2 = 0 then (4 : Int) else e2) = e3 := ⟨_, rfl⟩
  rw [he3] at HFa ⊢
  clear he3
  by_cases h1 : v < lo
  · rw [if_pos (Or.inl h1)]
    go_enter Try.func31, Try.ntmps31
    go_wp2_with fail
    refine HG.out.mono ?_
    rintro e w1 ⟨rfl, hg, hk⟩
    have HF := Lib.hid (HFa.out w1 hg)
    have HK := Lib.hid hk
    clear hg hk HG
    go_wp2_with fail
    refine HF.out.mono ?_
    rintro e w2 ⟨rfl, hg2, hk2⟩
    have HF2 := Lib.hid hg2
    have HK2 := Lib.hid (HK.out.trans (hk2.mono fun q hq => ⟨Nat.lt_of_lt_of_le hq.1 HK.out.size, hq.2⟩))
    clear hg2 hk2 HF HK
    go_wp2_with fail
    go_ret
    exact ⟨rfl, HF2.out, HK2.out⟩
  · by_cases h2 : hi < v
    · rw [if_pos (Or.inr h2)]
      have h1' : lo ≤ v := by omega
      clear h1
      go_enter Try.func31, Try.ntmps31
      go_wp2_with fail
      refine HG.out.mono ?_
      rintro e w1 ⟨rfl, hg, hk⟩
      have HF := Lib.hid (HFa.out w1 hg)
      have HK := Lib.hid hk
      clear hg hk HG
      go_wp2_with fail
      refine HF.out.mono ?_
      rintro e w2 ⟨rfl, hg2, hk2⟩
      have HF2 := Lib.hid hg2
      have HK2 := Lib.hid (HK.out.trans (hk2.mono fun q hq => ⟨Nat.lt_of_lt_of_le hq.1 HK.out.size, hq.2⟩))
      clear hg2 hk2 HF HK
      go_wp2_with fail
      go_ret
      exact ⟨rfl, HF2.out, HK2.out⟩
    · rw [if_neg (by omega)]
      have h1' : lo ≤ v := by omega
      have h2' : v ≤ hi := by omega
      clear h1 h2
      go_enter Try.func31, Try.ntmps31
      go_wp2_with fail
      refine HG.out.mono ?_
      rintro e w1 ⟨rfl, hg, hk⟩
      have HF := Lib.hid hg
      have HK := Lib.hid hk
      clear hg hk HG
      go_wp2_with fail
      go_ret
      exact ⟨rfl, HF.out, HK.out⟩

/-- The reader at block b has told bits L and no error; or an error, that is 2 or 4. -/
def RdP (w : World) (b : Nat) (bs : List Int) (er : Int) (L : List Bool) : Prop :=
  ∃ i, RdAt w b bs i er ∧ (er = 0 → L <+: bitsOf bs ∧ i = L.length) ∧ (er = 0 ∨ er = 2 ∨ er = 4)
theorem RdP.but {w w' : World} {b q0 : Nat} {bs : List Int} {er : Int} {L : List Bool} {cs : Array Value} {t : TypeId} {fr : Nat × Nat} (h : RdP w b bs er L) (k : Kept (butOf w q0) w w') (h0 : w.heap[q0]? = some (.cells cs t fr)) (h1 : t ≠ 5) (h2 : t ≠ 76) : RdP w' b bs er L := by
  obtain ⟨i, h3, h4⟩ := h
  exact ⟨i, h3.but k h0 h1 h2, h4⟩
theorem RdP.old {w w' : World} {b : Nat} {bs : List Int} {er : Int} {L : List Bool} (h : RdP w b bs er L) (k : Old w w') : RdP w' b bs er L := by
  obtain ⟨i, h3, h4⟩ := h
  exact ⟨i, h3.old k, h4⟩
theorem RdP.congr {w : World} {b : Nat} {bs : List Int} {er : Int} {L M : List Bool} (h : RdP w b bs er L) (e : L = M) : RdP w b bs er M := by subst e; exact h

theorem getTo_spec {w : World} {b : Nat} {bs : List Int} {er : Int} {L : List Bool} {i : Nat} (h1 : RdAt w b bs i er) (h2 : er = 0 → L <+: bitsOf bs ∧ i = L.length) (h3 : er = 0 ∨ er = 2 ∨ er = 4) (k : Nat) (hk : k ≤ 57) :
    (er ≠ 0 ∧ getTo bs i er k = (0, i, er)) ∨ (er = 0 ∧ 8 * bs.length < L.length + k ∧ getTo bs i er k = (0, i, 2)) ∨
    (er = 0 ∧ L.length + k ≤ 8 * bs.length ∧ getTo bs i er k = (numB (nextB bs L.length k), L.length + k, 0) ∧ (L ++ nextB bs L.length k) <+: bitsOf bs ∧ (nextB bs L.length k).length = k) := by
  by_cases her : er = 0
  · subst her
    obtain ⟨hp, rfl⟩ := h2 rfl
    have hl := pre_len hp
    by_cases hs : 8 * bs.length < L.length + k
    · refine .inr (.inl ⟨rfl, hs, ?_⟩)
      unfold getTo
      rw [if_neg (by omega), if_neg (by simp), if_pos (by omega)]
    · refine .inr (.inr ⟨rfl, by omega, ?_, pre_next hp k (by omega), nextB_len bs _ _ (by omega)⟩)
      unfold getTo
      rw [if_neg (by omega), if_neg (by simp), if_neg (by omega)]
      rfl
  · refine .inl ⟨her, ?_⟩
    unfold getTo
    rw [if_neg (by omega), if_pos her]

/-- A field without a sign is read. -/
theorem with_step {w : World} {b : Nat} {bs : List Int} {er : Int} {L : List Bool} (h : RdP w b bs er L) (k : Nat) (lo hi : Int) (hk : k ≤ 57) (h0 : 0 ≤ hi) (hlo : 0 ≤ lo) :
    Calls Try.prog 31 #[.pointer (some ⟨b, 0, none⟩), .int .i64 k, .int .i64 lo, .int .i64 hi] w fun e w' => ∃ v er', e = .returned (.int .i64 v) ∧ Kept (butOf w b) w w' ∧ RdP w' b bs er' (L ++ bitsI v k) ∧
      (er' = 0 → er = 0 ∧ lo ≤ v ∧ v ≤ hi) ∧ (0 ≤ v ∧ v ≤ hi) ∧ (∀ v0, er = 0 → lo ≤ v0 → v0 ≤ hi → v0 < pw k → (L ++ bitsI v0 k) <+: bitsOf bs → er' = 0 ∧ v = v0) := by
  obtain ⟨i, h1, h2, h3⟩ := h
  refine (within_any b bs i er k lo hi w h1).mono ?_
  rintro e w' ⟨rfl, hr, hkp⟩
  refine ⟨(withTo bs i er k lo hi).1, (withTo bs i er k lo hi).2.2, rfl, hkp, ?_⟩
  rcases getTo_spec h1 h2 h3 k hk with ⟨a1, a2⟩ | ⟨a1, a2, a3⟩ | ⟨a1, a2, a3, a4, a5⟩
  · have e : withTo bs i er k lo hi = (0, i, er) := by
      unfold withTo; rw [a2]; dsimp only
      split
      · first | rfl | rw [if_neg a1]
      · rfl
    rw [e] at hr ⊢
    exact ⟨⟨i, hr, fun h => absurd h a1, h3⟩, fun h => absurd h a1, ⟨Int.le_refl _, h0⟩, fun v0 h => absurd h a1⟩
  · have e : withTo bs i er k lo hi = (0, i, 2) := by
      unfold withTo; rw [a3]; dsimp only
      split
      · rw [if_neg (by omega)]
      · rfl
    rw [e] at hr ⊢
    refine ⟨⟨i, hr, fun h => by dsimp only at h; omega, .inr (.inl rfl)⟩, fun h => by dsimp only at h; omega, ⟨Int.le_refl _, h0⟩, fun v0 _ _ _ _ hp => ?_⟩
    have := (next_pre hp).2
    rw [len_bitsI, Int.toNat_natCast] at this
    omega
  · have hn0 := (numB_range (nextB bs L.length k)).1
    by_cases hb : numB (nextB bs L.length k) < lo ∨ hi < numB (nextB bs L.length k)
    · have e : withTo bs i er k lo hi = (0, L.length + k, 4) := by
        unfold withTo; rw [a3]; dsimp only; rw [if_pos hb, if_pos rfl]
      rw [e] at hr ⊢
      refine ⟨⟨_, hr, fun h => by dsimp only at h; omega, .inr (.inr rfl)⟩, fun h => by dsimp only at h; omega, ⟨Int.le_refl _, h0⟩, fun v0 _ l0 l1 l2 hp => ?_⟩
      have hv := (next_pre hp).1
      rw [len_bitsI, Int.toNat_natCast] at hv
      rw [hv] at hb
      have : numB (bitsI v0 k) = v0 := by unfold bitsI; rw [if_neg (by omega), Int.toNat_natCast]; exact numB_bitsN _ _ (by omega) l2
      rw [this] at hb
      omega
    · have e : withTo bs i er k lo hi = (numB (nextB bs L.length k), L.length + k, 0) := by
        unfold withTo; rw [a3]; dsimp only; rw [if_neg hb]
      rw [e] at hr ⊢
      dsimp only at hr ⊢
      refine ⟨⟨_, hr, fun _ => ?_, .inl rfl⟩, fun _ => ⟨a1, by omega, by omega⟩, ⟨hn0, by omega⟩, fun v0 _ l0 l1 l2 hp => ⟨rfl, ?_⟩⟩
      · rw [bitsI_numB _ k a5]
        exact ⟨a4, by rw [List.length_append, a5]⟩
      · have hv := (next_pre hp).1
        rw [len_bitsI, Int.toNat_natCast] at hv
        rw [hv]
        unfold bitsI; rw [if_neg (by omega), Int.toNat_natCast]; exact numB_bitsN _ _ (by omega) l2

/-- A field with a sign is read. -/
theorem sgn_step {w : World} {b : Nat} {bs : List Int} {er : Int} {L : List Bool} (h : RdP w b bs er L) (k : Nat) (hk : k ≤ 57) :
    Calls Try.prog 33 #[.pointer (some ⟨b, 0, none⟩), .int .i64 k] w fun e w' => ∃ v er', e = .returned (.int .i64 v) ∧ Kept (butOf w b) w w' ∧ RdP w' b bs er' (L ++ bitsI v k) ∧
      (er' = 0 → er = 0) ∧ fitB v k = true ∧ (∀ v0, er = 0 → validI true v0 k = true → (L ++ bitsI v0 k) <+: bitsOf bs → er' = 0 ∧ v = v0) := by
  obtain ⟨i, h1, h2, h3⟩ := h
  refine (RSigned_any b bs i er k w (by omega) h1).mono ?_
  rintro e w' ⟨rfl, hr, hkp⟩
  refine ⟨sgnTo bs i er k, (getTo bs i er k).2.2, rfl, hkp, ?_⟩
  have hz : fitB 0 (k : Int) = true := by
    by_cases h0 : k = 0
    · subst h0; rfl
    · rw [fitB_mid _ _ (by omega) (by omega), decide_eq_true_eq]
      have := pw_pos ((k : Int) - 1).toNat
      omega
  rcases getTo_spec h1 h2 h3 k hk with ⟨a1, a2⟩ | ⟨a1, a2, a3⟩ | ⟨a1, a2, a3, a4, a5⟩
  · have e : sgnTo bs i er k = 0 := by unfold sgnTo; rw [a2]; dsimp only; rw [if_neg (by simp)]
    rw [e]
    rw [a2] at hr ⊢
    exact ⟨⟨i, hr, fun h => absurd h a1, h3⟩, fun h => absurd h a1, hz, fun v0 h => absurd h a1⟩
  · have e : sgnTo bs i er k = 0 := by unfold sgnTo; rw [a3]; dsimp only; rw [if_neg (by simp)]
    rw [e]
    rw [a3] at hr ⊢
    refine ⟨⟨i, hr, fun h => by dsimp only at h; omega, .inr (.inl rfl)⟩, fun h => by dsimp only at h; omega, hz, fun v0 _ _ hp => ?_⟩
    have := (next_pre hp).2
    rw [len_bitsI, Int.toNat_natCast] at this
    omega
  · have e : sgnTo bs i er k = sgnB (nextB bs L.length k) k := by
      unfold sgnTo sgnB; rw [a3]; dsimp only; rw [Int.toNat_natCast]
      have : (0 < (k : Int) ∧ numB (nextB bs L.length k) / 2 ^ (k - 1) = 1) ↔ (0 < k ∧ numB (nextB bs L.length k) / 2 ^ (k - 1) = 1) := ⟨fun h => ⟨by omega, h.2⟩, fun h => ⟨by omega, h.2⟩⟩
      split
      · next hh => rw [if_pos (this.1 hh)]
      · next hh => rw [if_neg (fun h => hh (this.2 h))]
    rw [e]
    rw [a3] at hr ⊢
    dsimp only at hr ⊢
    refine ⟨⟨_, hr, fun _ => ?_, .inl rfl⟩, fun _ => a1, fit_sgnB _ k a5 hk, fun v0 _ hv0 hp => ⟨rfl, ?_⟩⟩
    · rw [bitsI_sgnB _ k a5]
      exact ⟨a4, by rw [List.length_append, a5]⟩
    · have hv := (next_pre hp).1
      rw [len_bitsI, Int.toNat_natCast] at hv
      rw [hv]
      have := sgn_bitsI v0 k hv0
      unfold sgnB
      rw [Int.toNat_natCast] at this
      have hiff : (0 < (k : Int) ∧ numB (bitsI v0 k) / 2 ^ (k - 1) = 1) ↔ (0 < k ∧ numB (bitsI v0 k) / 2 ^ (k - 1) = 1) := ⟨fun h => ⟨by omega, h.2⟩, fun h => ⟨by omega, h.2⟩⟩
      split
      · next hh => rwa [if_pos (hiff.2 hh)] at this
      · next hh => rwa [if_neg (fun h => hh (hiff.1 h))] at this
end Go.Proofs.Ytdiahlhfoplmjaa
