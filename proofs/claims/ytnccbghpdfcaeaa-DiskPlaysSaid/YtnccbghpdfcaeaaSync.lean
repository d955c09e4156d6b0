/- The disk and the law's own disk say the same: kept by each call. -/
import Derived.Test.YtnccbghpdfcaeaaPlainG
namespace Go.Proofs.Ytnccbghpdfcaeaa
set_option linter.unusedVariables false
set_option linter.unusedSimpArgs false
set_option maxRecDepth 100000
open Go.RowKit Go.ChangeShapes Go.WideShapes

/-- How many readings fail, as the law says it. -/
def clip (f : Int) : Int := if f < 0 then -1 else f
structure Sync (d : Dsk) (x : Pln) : Prop where
  N : d.N = x.N
  G : ∀ j, j < d.N * 64 → d.G j = x.I j
  r : d.r = x.r
  f : d.f = x.f
  ff : ∀ k, k < d.N → x.FF k = clip (d.F k).f
  xx : ∀ k, k < d.N → x.XX k = (d.F k).x
  at_ : ∀ k, k < d.N → (d.F k).x ≠ 0 → x.AT k = (d.F k).a
  rg : ∀ k, k < d.N → 0 ≤ x.AT k ∧ x.AT k ≤ 63
theorem sync0 (m : Nat) (F : Nat → Int) : Sync (dk0 m F) (pl0 m F) := ⟨rfl, fun _ _ => rfl, rfl, rfl, fun _ _ => rfl, fun _ _ => rfl, fun _ _ h => absurd rfl h, fun _ _ => ⟨Int.le_refl _, by show (0 : Int) ≤ 63; omega⟩⟩
/-- One page is said anew on both sides. -/
theorem Sync.set {d : Dsk} {x : Pln} (h : Sync d x) {k : Nat} (y : Flt) (FF' AT' XX' : Nat → Int) (hF : ∀ j, FF' j = if j = k then clip y.f else x.FF j) (hX : ∀ j, XX' j = if j = k then y.x else x.XX j) (hA : ∀ j, j ≠ k → AT' j = x.AT j) (hA1 : y.x ≠ 0 → AT' k = y.a) (hA2 : 0 ≤ AT' k ∧ AT' k ≤ 63) :
    Sync (d.set k y) { x with FF := FF', AT := AT', XX := XX' } := by
  refine ⟨h.N, h.G, h.r, h.f, fun j hj => ?_, fun j hj => ?_, fun j hj hx => ?_, fun j hj => ?_⟩
  · show FF' j = clip (updF d.F k y j).f
    rw [hF]
    unfold updF
    by_cases e : j = k
    · rw [if_pos e, if_pos e]
    · rw [if_neg e, if_neg e]; exact h.ff j hj
  · show XX' j = (updF d.F k y j).x
    rw [hX]
    unfold updF
    by_cases e : j = k
    · rw [if_pos e, if_pos e]
    · rw [if_neg e, if_neg e]; exact h.xx j hj
  · have hx : (updF d.F k y j).x ≠ 0 := hx
    show AT' j = (updF d.F k y j).a
    unfold updF at hx ⊢
    by_cases e : j = k
    · rw [if_pos e] at hx ⊢; rw [e]; exact hA1 hx
    · rw [if_neg e] at hx ⊢; rw [hA j e]; exact h.at_ j hj hx
  · show 0 ≤ AT' j ∧ AT' j ≤ 63
    by_cases e : j = k
    · rw [e]; exact hA2
    · rw [hA j e]; exact h.rg j hj
theorem norm_f (y : Flt) : y.norm.f = y.f ∧ y.norm.x = y.x := by
  unfold Flt.norm
  split
  · rename_i h; exact ⟨h.1.symm, h.2.symm⟩
  · exact ⟨rfl, rfl⟩
theorem norm_a (y : Flt) (h : y.x ≠ 0) : y.norm.a = y.a := by
  unfold Flt.norm
  rw [if_neg (fun e => h e.2)]
theorem Sync.fail {d : Dsk} {x : Pln} (h : Sync d x) {k : Nat} (hk : k < d.N) (n : Int) : Sync (d.set k (Flt.mk n (d.F k).a (d.F k).x).norm) { x with FF := updI x.FF k (if n < 0 then -1 else n) } := by
  have e := norm_f (Flt.mk n (d.F k).a (d.F k).x)
  refine h.set _ (updI x.FF k (if n < 0 then -1 else n)) x.AT x.XX (fun j => ?_) (fun j => ?_) (fun _ _ => rfl) (fun hx => ?_) (h.rg k hk)
  · unfold updI
    rw [e.1]; rfl
  · by_cases e' : j = k
    · rw [if_pos e', e.2, e']; exact h.xx k hk
    · rw [if_neg e']
  · rw [e.2] at hx
    rw [norm_a _ hx]; exact h.at_ k hk hx
theorem Sync.spoil {d : Dsk} {x : Pln} (h : Sync d x) {k : Nat} (hk : k < d.N) (n z : Int) (hn : 0 ≤ n ∧ n ≤ 63) : Sync (d.set k (Flt.mk (d.F k).f n z).norm) { x with AT := updI x.AT k n, XX := updI x.XX k z } := by
  have e := norm_f (Flt.mk (d.F k).f n z)
  refine h.set _ x.FF (updI x.AT k n) (updI x.XX k z) (fun j => ?_) (fun j => ?_) (fun j hj => ?_) (fun hx => ?_) ?_
  · by_cases e' : j = k
    · rw [if_pos e', e.1, e']; exact h.ff k hk
    · rw [if_neg e']
  · unfold updI
    rw [e.2]
  · unfold updI; rw [if_neg hj]
  · rw [e.2] at hx
    rw [norm_a _ hx]; unfold updI; rw [if_pos rfl]
  · unfold updI; rw [if_pos rfl]; exact hn
theorem Sync.heal {d : Dsk} {x : Pln} (h : Sync d x) {k : Nat} (hk : k < d.N) : Sync (d.set k Flt.z) { x with FF := updI x.FF k 0, XX := updI x.XX k 0 } :=
  h.set _ (updI x.FF k 0) x.AT (updI x.XX k 0) (fun j => rfl) (fun j => rfl) (fun _ _ => rfl) (fun hx => absurd rfl hx) (h.rg k hk)
theorem Sync.more {d : Dsk} {x : Pln} (h : Sync d x) : Sync d.more x.more := ⟨h.N, h.G, by show wrap64 (d.r + 1) = wrap64 (x.r + 1); rw [h.r], h.f, h.ff, h.xx, h.at_, h.rg⟩
theorem clip_pos {f : Int} : 0 < clip f ↔ 0 < f := by unfold clip; split <;> omega
theorem clip_ne {f : Int} : clip f = 0 ↔ f = 0 := by unfold clip; split <;> omega
theorem Sync.bad {d : Dsk} {x : Pln} (h : Sync d x) {k : Nat} (hk : k < d.N) : Sync (d.bad k) (x.bad k) := by
  have hff := h.ff k hk
  unfold Dsk.bad Dsk.failK Pln.bad
  by_cases h0 : 0 < (d.F k).f
  · rw [if_pos (show 0 < (d.more.F k).f from h0), if_pos (by rw [hff]; exact clip_pos.2 h0)]
    have e := norm_f (d.F k).less
    have hs := h.set (k := k) (d.F k).less.norm (updI x.FF k (x.FF k - 1)) x.AT x.XX (fun j => by
      unfold updI
      by_cases e' : j = k
      · rw [if_pos e', if_pos e', e.1, hff]; show clip (d.F k).f - 1 = clip ((d.F k).f - 1); unfold clip; rw [if_neg (by omega), if_neg (by omega)]
      · rw [if_neg e', if_neg e']) (fun j => by
      by_cases e' : j = k
      · rw [if_pos e', e.2, e']; exact h.xx k hk
      · rw [if_neg e']) (fun _ _ => rfl) (fun hx => by
      rw [e.2] at hx
      rw [norm_a _ hx]; exact h.at_ k hk hx) (h.rg k hk)
    exact ⟨hs.N, hs.G, by show wrap64 (d.r + 1) = wrap64 (x.r + 1); rw [h.r], by show wrap64 (d.f + 1) = wrap64 (x.f + 1); rw [h.f], hs.ff, hs.xx, hs.at_, hs.rg⟩
  · rw [if_neg (show ¬ 0 < (d.more.F k).f from h0), if_neg (by rw [hff]; exact fun e => h0 (clip_pos.1 e))]
    exact ⟨h.N, h.G, by show wrap64 (d.r + 1) = wrap64 (x.r + 1); rw [h.r], by show wrap64 (d.f + 1) = wrap64 (x.f + 1); rw [h.f], h.ff, h.xx, h.at_, h.rg⟩
theorem Sync.read {d : Dsk} {x : Pln} (h : Sync d x) {k : Nat} (hk : k < d.N) (hb : Byt d.G (d.N * 64)) (j : Nat) (hj : j < 64) : readF d k j = x.readF k j := by
  have hp : pageF d k j = x.pageF k j := h.G (k * 64 + j) (by omega)
  have hp' := hb (k * 64 + j) (by omega)
  unfold readF Pln.readF
  rw [hp, h.xx k hk]
  by_cases hx : (d.F k).x = 0
  · have e0 : xorB (x.pageF k j) 0 = x.pageF k j := by rw [← hp]; exact xorB_zero hp'
    rw [hx, e0]
    split <;> split <;> rfl
  · rw [h.at_ k hk hx]

/-! Each call of both, beside each other. -/
theorem same_read (b m : Nat) (p : Option Addr) (c : Nat) (B : PlB) {d : Dsk} {x : Pln} (h : Sync d x) (hn : d.N ≤ 8) (hby : Byt d.G (d.N * 64)) (hok : ∀ k, k < d.N → (d.F k).ok) (pg : Int) :
    ∃ d' x', Sync d' x' ∧ d'.N = d.N ∧
    ((∃ er, (∀ w, DkAt w b m p c d → Calls Try.prog 10 #[.pointer (some ⟨b, 0, none⟩), .int .i64 pg] w fun e w' => e = .returned (.tuple #[.slice none 0 0, .int .i64 er]) ∧ DkAt w' b m p c d' ∧ Kept (butD w b m) w w') ∧
      (∀ w, PlAt w B x → Calls Try.prog 11 #[.pointer (some ⟨B.q, 0, none⟩), .int .i64 pg] w fun e w' => e = .returned (.tuple #[.slice none 0 0, .int .i64 er]) ∧ PlAt w' B x' ∧ Kept (butP w B) w w')) ∨
     (∃ R, (∀ w, DkAt w b m p c d → Calls Try.prog 10 #[.pointer (some ⟨b, 0, none⟩), .int .i64 pg] w fun e w' => ∃ g, e = .returned (.tuple #[.slice (some ⟨g, 0, none⟩) 64 64, .int .i64 0]) ∧ UAt w' g 64 R ∧ w.heap.size ≤ g ∧ DkAt w' b m p c d' ∧ Kept (butD w b m) w w') ∧
      (∀ w, PlAt w B x → Calls Try.prog 11 #[.pointer (some ⟨B.q, 0, none⟩), .int .i64 pg] w fun e w' => ∃ g cc, e = .returned (.tuple #[.slice (some ⟨g, 0, none⟩) 64 cc, .int .i64 0]) ∧ UAt w' g 64 R ∧ 64 ≤ cc ∧ cc ≤ maxLen ∧ PlAt w' B x' ∧ Kept (butP w B) w w'))) := by
  have hxn : x.N ≤ 8 := by rw [← h.N]; exact hn
  by_cases hpg : pg < 0 ∨ (d.N : Int) ≤ pg
  · refine ⟨d, x, h, rfl, .inl ⟨5, fun w hd => (Read_out b m p c d pg w hd hpg).mono ?_, fun w hp => (lawRead_out B x pg w hp hxn (by rw [← h.N]; exact hpg)).mono ?_⟩⟩
    · rintro e w' ⟨rfl, rfl⟩; exact ⟨rfl, hd, Kept.refl _ _⟩
    · rintro e w' ⟨rfl, rfl⟩; exact ⟨rfl, hp, Kept.refl _ _⟩
  · obtain ⟨k, rfl⟩ : ∃ k : Nat, pg = k := ⟨pg.toNat, by omega⟩
    have hk : k < d.N := by omega
    by_cases hf : (d.F k).f = 0
    · refine ⟨d.more, x.more, h.more, rfl, .inr ⟨x.readF k, fun w hd => (Read_ok b m p c d k w hd hk hf).mono ?_, fun w hp => (lawRead_ok B x k w hp hxn (by rw [← h.N]; exact hk) (by rw [h.ff k hk]; exact clip_ne.2 hf) (h.rg k hk)).mono ?_⟩⟩
      · rintro e w' ⟨g, rfl, hg, hu, hd', hk'⟩
        exact ⟨g, rfl, UAt.ext hu (fun j hj => h.read hk hby j hj), hg, hd', hk'⟩
      · rintro e w' ⟨g, cc, rfl, h1, h2, hu, hp', hk'⟩
        exact ⟨g, cc, rfl, hu, h1, h2, hp', hk'⟩
    · have hN : (d.bad k).N = d.N := by unfold Dsk.bad Dsk.failK; split <;> rfl
      refine ⟨d.bad k, x.bad k, h.bad hk, hN, .inl ⟨8, fun w hd => (Read_bad b m p c d k w hd hk hf).mono fun e w' h => h, fun w hp => (lawRead_bad B x k w hp hxn (by rw [← h.N]; exact hk) (by rw [h.ff k hk]; exact fun e => hf (clip_ne.1 e)) ?_).mono fun e w' h => h⟩⟩
      rw [h.ff k hk]
      have := (hok k hk).1
      unfold clip
      split <;> omega
theorem call3 (b m : Nat) (p : Option Addr) (c : Nat) (d' : Dsk) (er pg n z : Int) (w : World) (hc : ∀ W, Old w W → Calls Try.prog 16 #[.pointer (some ⟨b, 0, none⟩), .int .i64 pg, .int .i64 n] W fun e w' => e = .returned (.int .i64 er) ∧ DkAt w' b m p c d' ∧ Kept (fun j => j < W.heap.size ∧ j ≠ m) W w') :
    Calls Try.prog 8 #[.pointer (some ⟨b, 0, none⟩), .agg #[.int .i64 3, .int .i64 pg, .int .i64 n, .int .u8 z]] w fun e w' => e = .returned (.int .i64 er) ∧ DkAt w' b m p c d' ∧ Kept (fun j => j < w.heap.size ∧ j ≠ m) w w' := by
  have HO := Lib.hid (Old.alloc w (.cells #[.int .i64 3, .int .i64 pg, .int .i64 n, .int .u8 z] 31))
  have HC := Lib.hid hc
  clear hc
  go_enter Try.func8, Try.ntmps8
  go_wp2_with fail
  refine (HC.out _ HO.out).mono ?_
  rintro e w1 ⟨rfl, hd, hk⟩
  have H1 := Lib.hid (And.intro hd (Kept.fore HO.out hk))
  clear hd hk
  go_wp2_with fail
  go_ret
  exact ⟨rfl, H1.out⟩
theorem call4 (b m : Nat) (p : Option Addr) (c : Nat) (d' : Dsk) (er pg n z : Int) (w : World) (hc : ∀ W, Old w W → Calls Try.prog 17 #[.pointer (some ⟨b, 0, none⟩), .int .i64 pg, .int .i64 n, .int .u8 z] W fun e w' => e = .returned (.int .i64 er) ∧ DkAt w' b m p c d' ∧ Kept (fun j => j < W.heap.size ∧ j ≠ m) W w') :
    Calls Try.prog 8 #[.pointer (some ⟨b, 0, none⟩), .agg #[.int .i64 4, .int .i64 pg, .int .i64 n, .int .u8 z]] w fun e w' => e = .returned (.int .i64 er) ∧ DkAt w' b m p c d' ∧ Kept (fun j => j < w.heap.size ∧ j ≠ m) w w' := by
  have HO := Lib.hid (Old.alloc w (.cells #[.int .i64 4, .int .i64 pg, .int .i64 n, .int .u8 z] 31))
  have HC := Lib.hid hc
  clear hc
  go_enter Try.func8, Try.ntmps8
  go_wp2_with fail
  refine (HC.out _ HO.out).mono ?_
  rintro e w1 ⟨rfl, hd, hk⟩
  have H1 := Lib.hid (And.intro hd (Kept.fore HO.out hk))
  clear hd hk
  go_wp2_with fail
  go_ret
  exact ⟨rfl, H1.out⟩
theorem call5 (b m : Nat) (p : Option Addr) (c : Nat) (d' : Dsk) (er pg n z : Int) (w : World) (hc : ∀ W, Old w W → Calls Try.prog 18 #[.pointer (some ⟨b, 0, none⟩), .int .i64 pg] W fun e w' => e = .returned (.int .i64 er) ∧ DkAt w' b m p c d' ∧ Kept (fun j => j < W.heap.size ∧ j ≠ m) W w') :
    Calls Try.prog 8 #[.pointer (some ⟨b, 0, none⟩), .agg #[.int .i64 5, .int .i64 pg, .int .i64 n, .int .u8 z]] w fun e w' => e = .returned (.int .i64 er) ∧ DkAt w' b m p c d' ∧ Kept (fun j => j < w.heap.size ∧ j ≠ m) w w' := by
  have HO := Lib.hid (Old.alloc w (.cells #[.int .i64 5, .int .i64 pg, .int .i64 n, .int .u8 z] 31))
  have HC := Lib.hid hc
  clear hc
  go_enter Try.func8, Try.ntmps8
  go_wp2_with fail
  refine (HC.out _ HO.out).mono ?_
  rintro e w1 ⟨rfl, hd, hk⟩
  have H1 := Lib.hid (And.intro hd (Kept.fore HO.out hk))
  clear hd hk
  go_wp2_with fail
  go_ret
  exact ⟨rfl, H1.out⟩
theorem same_other (b m : Nat) (p : Option Addr) (c : Nat) (B : PlB) {d : Dsk} {x : Pln} (h : Sync d x) (hn : d.N ≤ 8) (kd pg n z : Int) (hkd : 3 ≤ kd ∧ kd ≤ 5) (hn64 : -9223372036854775808 ≤ n ∧ n ≤ 9223372036854775807) (hz : 0 ≤ z ∧ z ≤ 255) :
    ∃ d' x' er, Sync d' x' ∧ d'.N = d.N ∧
      (∀ w, DkAt w b m p c d → Calls Try.prog 8 #[.pointer (some ⟨b, 0, none⟩), .agg #[.int .i64 kd, .int .i64 pg, .int .i64 n, .int .u8 z]] w fun e w' => e = .returned (.int .i64 er) ∧ DkAt w' b m p c d' ∧ Kept (fun j => j < w.heap.size ∧ j ≠ m) w w') ∧
      (∀ w, PlAt w B x → Calls Try.prog 9 #[.pointer (some ⟨B.q, 0, none⟩), .agg #[.int .i64 kd, .int .i64 pg, .int .i64 n, .int .u8 z]] w fun e w' => e = .returned (.int .i64 er) ∧ PlAt w' B x' ∧ Kept (butP w B) w w') := by
  have hxn : x.N ≤ 8 := by rw [← h.N]; exact hn
  have oldP : ∀ {w w' : World}, PlAt w B x → Old w w' → PlAt w' B x ∧ Kept (butP w B) w w' := fun hp ho => ⟨hp.old ho, ho.kept fun j hj => hj.1⟩
  by_cases hpg : pg < 0 ∨ (d.N : Int) ≤ pg
  · refine ⟨d, x, 5, h, rfl, fun w hd => ?_, fun w hp => (lawOther_out B x kd pg n z w hp hxn (by rw [← h.N]; exact hpg)).mono fun e w' hh => ⟨hh.1, oldP hp hh.2⟩⟩
    rcases (by omega : kd = 3 ∨ kd = 4 ∨ kd = 5) with rfl | rfl | rfl
    · exact call3 b m p c d 5 pg n z w fun W ho => (Fail_out b m p c d pg n W (hd.old ho) hpg).mono fun e w' hh => ⟨hh.1, hh.2 ▸ hd.old ho, hh.2 ▸ Kept.refl _ _⟩
    · exact call4 b m p c d 5 pg n z w fun W ho => (Spoil_out b m p c d pg n z W (hd.old ho) hpg).mono fun e w' hh => ⟨hh.1, hh.2 ▸ hd.old ho, hh.2 ▸ Kept.refl _ _⟩
    · exact call5 b m p c d 5 pg n z w fun W ho => (Heal_out b m p c d pg W (hd.old ho) hpg).mono fun e w' hh => ⟨hh.1, hh.2 ▸ hd.old ho, hh.2 ▸ Kept.refl _ _⟩
  · obtain ⟨k, rfl⟩ : ∃ k : Nat, pg = k := ⟨pg.toNat, by omega⟩
    have hk : k < d.N := by omega
    have hkx : k < x.N := by rw [← h.N]; exact hk
    rcases (by omega : kd = 3 ∨ kd = 4 ∨ kd = 5) with rfl | rfl | rfl
    · exact ⟨_, _, 0, h.fail hk n, rfl, fun w hd => call3 b m p c _ 0 k n z w fun W ho => Fail_ok b m p c d k n W (hd.old ho) hk hn64, fun w hp => lawOther_fail B x k n z w hp hxn hkx⟩
    · by_cases h63 : 0 ≤ n ∧ n ≤ 63
      · exact ⟨_, _, 0, h.spoil hk n z h63, rfl, fun w hd => call4 b m p c _ 0 k n z w fun W ho => Spoil_ok b m p c d k n z W (hd.old ho) hk h63 hz, fun w hp => lawOther_spoil B x k n z w hp hxn hkx h63⟩
      · exact ⟨d, x, 1, h, rfl, fun w hd => call4 b m p c d 1 k n z w fun W ho => (Spoil_arg b m p c d k n z W (hd.old ho) hk (by omega)).mono fun e w' hh => ⟨hh.1, hh.2 ▸ hd.old ho, hh.2 ▸ Kept.refl _ _⟩, fun w hp => (lawOther_arg B x k n z w hp hxn hkx (by omega)).mono fun e w' hh => ⟨hh.1, oldP hp hh.2⟩⟩
    · exact ⟨_, _, 0, h.heal hk, rfl, fun w hd => call5 b m p c _ 0 k n z w fun W ho => Heal_ok b m p c d k W (hd.old ho) hk, fun w hp => lawOther_heal B x k n z w hp hxn hkx⟩
end Go.Proofs.Ytnccbghpdfcaeaa
