/- Package cache, fifth part: take. -/
import Derived.Test.YtooamkicmmgniaaCacheD
namespace Go.Proofs.Ytooamkicmmgniaa
set_option linter.unusedVariables false
set_option maxRecDepth 100000
open Go.RowKit Go.ChangeShapes Go.WideShapes

/-- What taking a page told. -/
def TakeRes (w' : World) (z : Nat) (r : Option (Nat → Int)) (e : Ending) : Prop :=
  match r with
  | none => e = .returned (.tuple #[.slice none 0 0, .int .i64 8])
  | some G => ∃ g, e = .returned (.tuple #[.slice (some ⟨g, 0, none⟩) 64 64, .int .i64 0]) ∧ z ≤ g ∧ g < w'.heap.size ∧ SlU w' (some ⟨g, 0, none⟩) 64 G
theorem takeR_hit {c : Cch} {d : Dsk} {k i : Nat} {s : Slt} (h : fnd c.S k c.n = some i) (hs : c.S i = some s) : takeR c d k = ⟨some s.G, c.hit i, d⟩ := by
  unfold takeR
  rw [h]
  dsimp only
  rw [hs]
  rfl
theorem takeR_lost {c : Cch} {d d' : Dsk} {k : Nat} {t' : Int} (h : fnd c.S k c.n = none) (ht : tryN k (c.rt + 1) d c.t = (none, d', t')) : takeR c d k = ⟨none, (c.miss.tried t').lose, d'⟩ := by
  unfold takeR
  rw [h]
  dsimp only
  rw [ht]
theorem takeR_had {c : Cch} {d d' : Dsk} {k : Nat} {t' : Int} {G : Nat → Int} (h : fnd c.S k c.n = none) (ht : tryN k (c.rt + 1) d c.t = (some G, d', t')) : takeR c d k = ⟨some G, (c.miss.tried t').put k G, d'⟩ := by
  unfold takeR
  rw [h]
  dsimp only
  rw [ht]
theorem CkAt.cacheT {w w' : World} {z0 z av b sb hm db dm cd N : Nat} {p : Option Addr} {c c' : Cch} {d : Dsk} (h : CkAt w z0 z av b sb hm db dm p cd N c d) {X : Nat → Prop} (k : Kept X w w') (hX : ∀ q, q < z0 → q < w.heap.size → X q) (hc : CcAt w' z0 z av b sb hm db N c') : CkAt w' z0 z av b sb hm db dm p cd N c' d := by
  refine ⟨hc, h.dk.kept k (hX _ h.lo.1 h.dk.ltb) (hX _ h.lo.2.1 h.dk.map.lt) fun a hn ha => hX _ (h.lo.2.2 a (by rw [← h.nN]; exact hn) ha) (h.dk.plt a hn ha), h.nN, h.lo, Nat.le_trans h.hi k.size⟩
set_option maxHeartbeats 1000000 in
theorem cTake_any (z0 z av b sb hm db dm : Nat) (p : Option Addr) (cd N k : Nat) (c : Cch) (d : Dsk) (w : World) (h : CkAt w z0 z av b sb hm db dm p cd N c d) (hk : k < N) (hav : av < w.heap.size) : Calls Try.prog 29 #[.pointer (some ⟨b, 0, none⟩), .int .i64 (k : Int)] w fun e w' =>
    TakeRes w' z (takeR c d k).r e ∧ CkAt w' z0 z av b sb hm db dm p cd N (takeR c d k).c (takeR c d k).d ∧ Kept (butK w b sb hm db dm) w w' := by
  have hN : N ≤ 65536 := h.cc.num.2.2.2.2
  obtain ⟨c0, c1, c2, c3, c4, c5, c6, c7, c8⟩ := h.cc.cells
  have f0 := h.cc.frz 0
  have f1 := h.cc.frz 1
  have hr := h.cc.rng
  have hlo := h.lo
  cases hf : fnd c.S k c.n with
  | some i =>
    obtain ⟨hi, s, hs, hp⟩ := (fnd_eq h.cc.uq).1 hf
    rw [takeR_hit hf hs]
    have hl := h.cc.map.look_some hk (by omega) hf
    obtain ⟨q, hq⟩ : ∃ q, q = wrap64 (c.h + 1) := ⟨_, rfl⟩
    have e1 : wrap64 (c.h + 1) = q := hq.symm
    have h2 := h.stat 0 (.int .i64 q) q c.m c.t c.l rfl
    obtain ⟨_, _, _, _, _, _, d6, _, _⟩ := h2.cc.cells
    obtain ⟨n, hn⟩ : ∃ n, n = c.n := ⟨_, rfl⟩
    have d6' : (w.setCell ⟨b, 0, none⟩ (.int .i64 q)).cell? ⟨b, 6, none⟩ = some (.slice (some ⟨sb, 0, none⟩) n n) := by rw [hn]; exact d6
    have hi2 : i < n := by rw [hn]; exact hi
    have hn2 : n ≤ 1024 := by rw [hn]; exact h.cc.num.2.1
    obtain ⟨g, g0, g1, g2, _, _, k2, hg⟩ := h2.cc.slots.cells hi
    have hs' : (show Cch from { c with h := q, m := c.m, t := c.t, l := c.l }).S i = some s := hs
    have h3 := h2.cc.markd hi hs true
    obtain ⟨_, _, _, _, _, _, x6, _, _⟩ := h3.cells
    obtain ⟨g', y0, y1, y2, _, _, _, hg'⟩ := h3.slots.cells hi
    have hsm : setM c.S i true i = some (s.mark true) := by unfold setM; rw [updS_at, hs]; rfl
    obtain ⟨p1, p2, p3⟩ := hg' (s.mark true) hsm
    have g2' : (w.setCell ⟨b, 0, none⟩ (.int .i64 q)).cell? ⟨sb, i * 3 + 2, none⟩ = some (.bool s.m) := by
      rw [g2]
      show some (cellS (c.S i) g 2) = _
      rw [hs]
      rfl
    have y1' : ((w.setCell ⟨b, 0, none⟩ (.int .i64 q)).setCell ⟨sb, i * 3 + 2, none⟩ (.bool true)).cell? ⟨sb, i * 3 + 1, none⟩ = some (.slice (some ⟨g', 0, none⟩) 64 64) := by
      rw [y1]
      show some (cellS (setM c.S i true i) g' 1) = _
      rw [hsm]
      rfl
    have x6' : ((w.setCell ⟨b, 0, none⟩ (.int .i64 q)).setCell ⟨sb, i * 3 + 2, none⟩ (.bool true)).cell? ⟨b, 6, none⟩ = some (.slice (some ⟨sb, 0, none⟩) n n) := by rw [hn]; exact x6
    have hkk : Kept (fun q => q ≠ b ∧ q ≠ sb) w ((w.setCell ⟨b, 0, none⟩ (.int .i64 q)).setCell ⟨sb, i * 3 + 2, none⟩ (.bool true)) :=
      ((Kept.setCell (X := fun q => q ≠ b) w (a := ⟨b, 0, none⟩) (fun e => e rfl) _).mono fun q hq => hq.1).trans ((Kept.setCell (X := fun q => q ≠ sb) _ (a := ⟨sb, i * 3 + 2, none⟩) (fun e => e rfl) _).mono fun q hq => hq.2)
    have HE : Hid (z ≤ g' ∧ g' < ((w.setCell ⟨b, 0, none⟩ (.int .i64 q)).setCell ⟨sb, i * 3 + 2, none⟩ (.bool true)).heap.size ∧ SlU ((w.setCell ⟨b, 0, none⟩ (.int .i64 q)).setCell ⟨sb, i * 3 + 2, none⟩ (.bool true)) (some ⟨g', 0, none⟩) 64 s.G) := ⟨p1, p2, p3⟩
    have HF : Hid (CkAt ((w.setCell ⟨b, 0, none⟩ (.int .i64 q)).setCell ⟨sb, i * 3 + 2, none⟩ (.bool true)) z0 z av b sb hm db dm p cd N (c.hit i) d ∧ Kept (butK w b sb hm db dm) w ((w.setCell ⟨b, 0, none⟩ (.int .i64 q)).setCell ⟨sb, i * 3 + 2, none⟩ (.bool true))) := by
      refine ⟨h.cacheT hkk (fun q hq _ => ⟨by omega, by omega⟩) ?_, hkk.mono fun q hq => ⟨hq.2.1, hq.2.2.1⟩⟩
      have e9 : c.hit i = { (show Cch from { c with h := q, m := c.m, t := c.t, l := c.l }) with S := setM c.S i true } := by unfold Cch.hit; rw [hq]
      rw [e9]
      exact h3
    clear h h2 h3 hf hs hs' hp hr hlo hkk p1 p2 p3 hg hg' hsm g0 g1 g2 y0 y1 y2 x6 d6 hn hi hq c1 c2 c3 c4 c5 c8
    go_enter Try.func29, Try.ntmps29
    go_wp2_with fail
    go_ret2
    exact ⟨⟨g', rfl, HE.out⟩, HF.out⟩
  | none =>
    have hl := h.cc.map.look_none (z := (k : Int)) (by omega) (by omega) fun j _ e => by
      have : k = j := by omega
      rw [← this]; exact hf
    obtain ⟨q, hq⟩ : ∃ q, q = wrap64 (c.m + 1) := ⟨_, rfl⟩
    have e1 : wrap64 (c.m + 1) = q := hq.symm
    have h2 : CkAt (w.setCell ⟨b, 1, none⟩ (.int .i64 q)) z0 z av b sb hm db dm p cd N c.miss d := by
      have := h.stat 1 (.int .i64 q) c.h q c.t c.l rfl
      have e9 : c.miss = { c with h := c.h, m := q, t := c.t, l := c.l } := by unfold Cch.miss; rw [hq]
      rw [e9]
      exact this
    have HC := Lib.hid (cRead_any z0 z av b sb hm db dm p cd N k c.miss d _ h2 hk)
    have HK1 : Hid (Kept (fun x => x ≠ b) w (w.setCell ⟨b, 1, none⟩ (.int .i64 q))) := Lib.hid (Kept.setCell (X := fun q => q ≠ b) w (a := ⟨b, 1, none⟩) (fun e => e rfl) _)
    have hme : c.miss.rt = c.rt ∧ c.miss.t = c.t := ⟨rfl, rfl⟩
    rw [hme.1, hme.2] at HC
    have HHi := Lib.hid h2.hi
    have HF := Lib.hid hf
    have HKn := Lib.hid hk
    have HAv := Lib.hid hav
    clear hav
    obtain ⟨T, hT⟩ : ∃ T, T = takeR c d k := ⟨_, rfl⟩
    rw [← hT]
    have HT := Lib.hid hT
    obtain ⟨R, hR⟩ : ∃ R, R = tryN k (c.rt + 1) d c.t := ⟨_, rfl⟩
    rw [← hR] at HC
    have HR := Lib.hid hR.symm
    obtain ⟨r, d', t'⟩ := R
    dsimp only at HC
    clear h h2 hf hk hr hlo hT hR hq c0 c2 c3 c4 c5 c6 c8 hme
    go_enter Try.func29, Try.ntmps29
    go_wp2_with fail
    refine HC.out.mono ?_
    intro e w2 hh
    cases r with
    | none =>
      obtain ⟨he, hat, hkk⟩ := hh
      have he' : e = .returned (.tuple #[.slice none 0 0, .int .i64 8]) := he
      subst he'
      obtain ⟨_, _, _, x3, _, _, _, _, _⟩ := hat.cc.cells
      have x3' : w2.cell? ⟨b, 3, none⟩ = some (.int .i64 c.l) := x3
      have fz3 := hat.cc.frz 3
      obtain ⟨u, hu⟩ : ∃ u, u = wrap64 (c.l + 1) := ⟨_, rfl⟩
      have e2 : wrap64 (c.l + 1) = u := hu.symm
      have HE : Hid (TakeRes (w2.setCell ⟨b, 3, none⟩ (.int .i64 u)) z T.r (.returned (.tuple #[.slice none 0 0, .int .i64 8])) ∧ CkAt (w2.setCell ⟨b, 3, none⟩ (.int .i64 u)) z0 z av b sb hm db dm p cd N T.c T.d ∧ Kept (butK w b sb hm db dm) w (w2.setCell ⟨b, 3, none⟩ (.int .i64 u))) := by
        rw [HT.out, takeR_lost HF.out HR.out]
        have := hat.stat 3 (.int .i64 u) c.h (wrap64 (c.m + 1)) t' u rfl
        have e9 : (c.miss.tried t').lose = { c.miss.tried t' with h := c.h, m := wrap64 (c.m + 1), t := t', l := u } := by unfold Cch.lose; rw [hu]; rfl
        rw [e9]
        exact ⟨rfl, this, (HK1.out.mono fun q hq => hq.2.1).trans ((hkk.mono fun q hq => ⟨Nat.lt_of_lt_of_le hq.1 HK1.out.size, hq.2.1, hq.2.2.2.2.1, hq.2.2.2.2.2⟩).trans ((Kept.setCell (X := fun q => q ≠ b) _ (a := ⟨b, 3, none⟩) (fun e => e rfl) _).mono fun q hq => hq.2.1))⟩
      clear hat hkk hu x3 HC he
      go_wp2_with fail
      go_ret2
      exact HE.out
    | some G =>
      obtain ⟨he, hat, hkk⟩ := hh
      have he' : ∃ g, e = .returned (.tuple #[.slice (some ⟨g, 0, none⟩) 64 64, .int .i64 0]) ∧ (w.setCell ⟨b, 1, none⟩ (.int .i64 q)).heap.size ≤ g ∧ UAt w2 g 64 G := he
      obtain ⟨g, rfl, hg, hu⟩ := he'
      have hgz : z ≤ g := Nat.le_trans HHi.out hg
      have hsl : SlU w2 (some ⟨g, 0, none⟩) 64 G := (hu.sl 0 64 (by omega)).ext fun j _ => by rw [Nat.zero_add]
      have hglt := hu.lt
      have HP := Lib.hid (cPut_any z0 z av b sb hm db N k g G (c.miss.tried t') w2 hat.cc HKn.out HF.out hgz (by have h9 := HAv.out; have h8 := Nat.le_trans HK1.out.size hg; omega) hsl)
      have HE : Hid (∀ w3, CcAt w3 z0 z av b sb hm db N ((c.miss.tried t').put k G) → Kept (fun q => q < w2.heap.size ∧ q ≠ b ∧ q ≠ sb ∧ q ≠ hm) w2 w3 →
          TakeRes w3 z T.r (.returned (.tuple #[.slice (some ⟨g, 0, none⟩) 64 64, .int .i64 0])) ∧ CkAt w3 z0 z av b sb hm db dm p cd N T.c T.d ∧ Kept (butK w b sb hm db dm) w w3) := by
        intro w3 hc3 hk3
        rw [HT.out, takeR_had HF.out HR.out]
        have hr := hat.cc.rng
        refine ⟨⟨g, rfl, hgz, Nat.lt_of_lt_of_le hglt hk3.size, hsl.kept hk3 fun a _ ha => ?_⟩, hat.cacheT hk3 (fun q hq hq2 => ⟨hq2, by omega, by omega, by omega⟩) hc3, (HK1.out.mono fun q hq => hq.2.1).trans ((hkk.mono fun q hq => ⟨Nat.lt_of_lt_of_le hq.1 HK1.out.size, hq.2.1, hq.2.2.2.2.1, hq.2.2.2.2.2⟩).trans (hk3.mono fun q hq => ⟨Nat.lt_of_lt_of_le hq.1 (Nat.le_trans HK1.out.size hkk.size), hq.2.1, hq.2.2.1, hq.2.2.2.1⟩))⟩
        cases ha
        exact ⟨hglt, by show g ≠ b; omega, by show g ≠ sb; omega, by show g ≠ hm; omega⟩
      clear hat hkk hu hg hgz hsl hglt HC he
      go_wp2_with fail
      refine HP.out.mono ?_
      rintro e w3 ⟨rfl, hc3, hk3⟩
      have HF3 := Lib.hid (HE.out w3 hc3 hk3)
      clear HE hc3 hk3 HP
      go_wp2_with fail
      go_ret2
      exact HF3.out
end Go.Proofs.Ytooamkicmmgniaa
