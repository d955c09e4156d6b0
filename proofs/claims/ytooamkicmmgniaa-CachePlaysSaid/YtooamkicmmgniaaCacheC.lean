/- Package cache, third part: a cache and its disk; read. -/
import Derived.Test.YtooamkicmmgniaaCacheB
namespace Go.Proofs.Ytooamkicmmgniaa
set_option linter.unusedVariables false
set_option maxRecDepth 100000
open Go.RowKit Go.ChangeShapes Go.WideShapes

theorem CcAt.stat {w : World} {z0 z av b sb hm db N : Nat} {c : Cch} (h : CcAt w z0 z av b sb hm db N c) (o : Nat) (v : Value) (h' m' t' l' : Int)
    (e : (#[.int .i64 c.h, .int .i64 c.m, .int .i64 c.t, .int .i64 c.l, .pointer (some ⟨db, 0, none⟩), .int .i64 (c.rt : Int), .slice (some ⟨sb, 0, none⟩) c.n c.n, .map (some hm), .int .i64 (c.hand : Int)] : Array Value).setIfInBounds o v =
      #[.int .i64 h', .int .i64 m', .int .i64 t', .int .i64 l', .pointer (some ⟨db, 0, none⟩), .int .i64 (c.rt : Int), .slice (some ⟨sb, 0, none⟩) c.n c.n, .map (some hm), .int .i64 (c.hand : Int)]) :
    CcAt (w.setCell ⟨b, o, none⟩ v) z0 z av b sb hm db N { c with h := h', m := m', t := t', l := l' } := by
  have k : Kept (fun j => j ≠ b) w (w.setCell ⟨b, o, none⟩ v) := Kept.setCell w (a := ⟨b, o, none⟩) (fun e => e rfl) _
  have hr := h.rng
  exact ⟨by rw [heap_setCell_at h.blk, e], h.num, h.slots.kept k (by omega) fun g hg _ _ => by omega, h.map.kept k (by omega), h.pgs, h.uq, hr⟩
/-- A cache and its disk: the disk's blocks lie below z0. -/
structure CkAt (w : World) (z0 z av b sb hm db dm : Nat) (p : Option Addr) (cd N : Nat) (c : Cch) (d : Dsk) : Prop where
  cc : CcAt w z0 z av b sb hm db N c
  dk : DkAt w db dm p cd d
  nN : d.N = N
  lo : db < z0 ∧ dm < z0 ∧ ∀ a, 0 < N → p = some a → a.block < z0
  hi : z ≤ w.heap.size
/-- All blocks but those that a cache and its disk write. -/
def butK (w : World) (b sb hm db dm : Nat) : Nat → Prop := fun q => q < w.heap.size ∧ q ≠ b ∧ q ≠ sb ∧ q ≠ hm ∧ q ≠ db ∧ q ≠ dm
namespace CkAt
variable {w w' : World} {z0 z av b sb hm db dm cd N : Nat} {p : Option Addr} {c : Cch} {d : Dsk}
theorem kept {X : Nat → Prop} (h : CkAt w z0 z av b sb hm db dm p cd N c d) (k : Kept X w w') (hX : ∀ q, q < w.heap.size → q = b ∨ q = sb ∨ q = hm ∨ q = db ∨ q = dm ∨ q < z0 ∨ (z ≤ q ∧ q ≠ av) → X q) : CkAt w' z0 z av b sb hm db dm p cd N c d := by
  refine ⟨h.cc.kept k (hX _ h.cc.ltb (by simp)) (hX _ h.cc.slots.lt (by simp)) (hX _ h.cc.map.lt (by simp)) fun g h1 h1' h2 => hX g h2 (by simp [h1, h1']), h.dk.kept k (hX _ h.dk.ltb (by simp)) (hX _ h.dk.map.lt (by simp)) fun a hn ha => hX _ (h.dk.plt a hn ha) ?_, h.nN, h.lo, Nat.le_trans h.hi k.size⟩
  have := h.lo.2.2 a (by rw [← h.nN]; exact hn) ha
  simp [this]
theorem old (h : CkAt w z0 z av b sb hm db dm p cd N c d) (k : Old w w') : CkAt w' z0 z av b sb hm db dm p cd N c d := h.kept k fun _ hq _ => hq
/-- One of what it has done, anew. -/
theorem stat (h : CkAt w z0 z av b sb hm db dm p cd N c d) (o : Nat) (v : Value) (h' m' t' l' : Int)
    (e : (#[.int .i64 c.h, .int .i64 c.m, .int .i64 c.t, .int .i64 c.l, .pointer (some ⟨db, 0, none⟩), .int .i64 (c.rt : Int), .slice (some ⟨sb, 0, none⟩) c.n c.n, .map (some hm), .int .i64 (c.hand : Int)] : Array Value).setIfInBounds o v =
      #[.int .i64 h', .int .i64 m', .int .i64 t', .int .i64 l', .pointer (some ⟨db, 0, none⟩), .int .i64 (c.rt : Int), .slice (some ⟨sb, 0, none⟩) c.n c.n, .map (some hm), .int .i64 (c.hand : Int)]) :
    CkAt (w.setCell ⟨b, o, none⟩ v) z0 z av b sb hm db dm p cd N { c with h := h', m := m', t := t', l := l' } d := by
  have k : Kept (fun j => j ≠ b) w (w.setCell ⟨b, o, none⟩ v) := Kept.setCell w (a := ⟨b, o, none⟩) (fun e => e rfl) _
  have hr := h.cc.rng
  have hl := h.lo
  exact ⟨h.cc.stat o v h' m' t' l' e, h.dk.kept k (by omega) (by omega) (fun a hn ha => by have := hl.2.2 a (by rw [← h.nN]; exact hn) ha; omega), h.nN, hl, Nat.le_trans h.hi k.size⟩
/-- The cache is as it was, the disk another. -/
theorem disk (h : CkAt w z0 z av b sb hm db dm p cd N c d) {d' : Dsk} (k : Kept (butD w db dm) w w') (hd : DkAt w' db dm p cd d') (hN : d'.N = N) : CkAt w' z0 z av b sb hm db dm p cd N c d' := by
  have hr := h.cc.rng
  have hl := h.lo
  exact ⟨h.cc.kept k ⟨h.cc.ltb, by omega, by omega⟩ ⟨h.cc.slots.lt, by omega, by omega⟩ ⟨h.cc.map.lt, by omega, by omega⟩ fun g h1 _ h2 => ⟨h2, by omega, by omega⟩, hd, hN, hl, Nat.le_trans h.hi k.size⟩
theorem reav (h : CkAt w z0 z av b sb hm db dm p cd N c d) {q : Nat} (hq : w.heap.size ≤ q ∨ q < z) : CkAt w z0 z q b sb hm db dm p cd N c d := ⟨h.cc.reav hq, h.dk, h.nN, h.lo, h.hi⟩
end CkAt
theorem bad_N (d : Dsk) (k : Nat) : (d.bad k).N = d.N := by
  unfold Dsk.bad Dsk.failK
  split <;> rfl
theorem tryN_bad {k : Nat} {d : Dsk} (h : (d.F k).f ≠ 0) (j : Nat) (t : Int) : tryN k (j + 1) d t = tryN k j (d.bad k) (wrap64 (t + 1)) := by
  show (if (d.F k).f ≠ 0 then _ else _) = _
  rw [if_pos h]
theorem tryN_ok {k : Nat} {d : Dsk} (h : (d.F k).f = 0) (j : Nat) (t : Int) : tryN k (j + 1) d t = (some (readF d k), d.more, wrap64 (t + 1)) := by
  show (if (d.F k).f ≠ 0 then _ else _) = _
  rw [if_neg (by rw [h]; simp)]
/-- What reading a page told. -/
def ReadRes (w w' : World) (r : Option (Nat → Int)) (e : Ending) : Prop :=
  match r with
  | none => e = .returned (.tuple #[.slice none 0 0, .int .i64 8])
  | some G => ∃ g, e = .returned (.tuple #[.slice (some ⟨g, 0, none⟩) 64 64, .int .i64 0]) ∧ w.heap.size ≤ g ∧ UAt w' g 64 G
def butR (w : World) (b db dm : Nat) : Nat → Prop := fun q => q < w.heap.size ∧ q ≠ b ∧ q ≠ db ∧ q ≠ dm
theorem butR_step {w wr w1 w2 : World} {b db dm : Nat} (h : Kept (butR w b db dm) w wr) (h1 : Kept (fun q => q ≠ b) wr w1) (h2 : Kept (butD w1 db dm) w1 w2) : Kept (butR w b db dm) w w2 :=
  (h.trans (h1.mono fun q hq => hq.2.1)).trans (h2.mono fun q hq => ⟨Nat.lt_of_lt_of_le hq.1 (Nat.le_trans h.size h1.size), hq.2.2.1, hq.2.2.2⟩)
/-- The error on the way. -/
def errV : Nat → Value
  | 0 => .int .i64 0
  | _ + 1 => .int .i64 8
/-- On the way: so many readings failed. -/
structure RdR (w : World) (z0 z av b sb hm db dm : Nat) (p : Option Addr) (cd N k : Nat) (c : Cch) (d : Dsk) (i : Nat) (wr : World) : Prop where
  ex : ∃ d' t', tryN k (c.rt + 1) d c.t = tryN k (c.rt + 1 - i) d' t' ∧ CkAt wr z0 z av b sb hm db dm p cd N (c.tried t') d'
  kp : Kept (butR w b db dm) w wr
set_option maxHeartbeats 1000000 in
theorem cRead_any (z0 z av b sb hm db dm : Nat) (p : Option Addr) (cd N k : Nat) (c : Cch) (d : Dsk) (w : World) (h : CkAt w z0 z av b sb hm db dm p cd N c d) (hk : k < N) : Calls Try.prog 37 #[.pointer (some ⟨b, 0, none⟩), .int .i64 (k : Int)] w fun e w' =>
    ReadRes w w' (tryN k (c.rt + 1) d c.t).1 e ∧ CkAt w' z0 z av b sb hm db dm p cd N (c.tried (tryN k (c.rt + 1) d c.t).2.2) (tryN k (c.rt + 1) d c.t).2.1 ∧ Kept (butR w b db dm) w w' := by
  obtain ⟨R, hR⟩ : ∃ R, R = tryN k (c.rt + 1) d c.t := ⟨_, rfl⟩
  have H0 : Hid (RdR w z0 z av b sb hm db dm p cd N k c d 0 w) := ⟨⟨d, c.t, rfl, h⟩, Kept.refl _ _⟩
  have HR := Lib.hid hR
  have HK := Lib.hid hk
  obtain ⟨_, _, _, _, _, c5, _, _, _⟩ := h.cc.cells
  have hrt := h.cc.num.2.2.1
  obtain ⟨rt, hrt2⟩ : ∃ rt, rt = c.rt := ⟨_, rfl⟩
  have HT := Lib.hid hrt2
  rw [← hrt2] at c5 hrt
  have t0 : wrap64 (1 + (rt : Int)) = ((rt + 1 : Nat) : Int) := by rw [IntWalk.wrap64_in _ (by omega)]; omega
  obtain ⟨m, hm2⟩ : ∃ m, m = rt + 1 := ⟨_, rfl⟩
  have HM := Lib.hid hm2
  rw [← hm2] at t0
  have hm9 : m ≤ 9 := by omega
  have hm1 : 1 ≤ m := by omega
  rw [← hR]
  clear h hR hk hrt2 hm2 hrt
  go_enter Try.func37, Try.ntmps37
  go_wp2_with fail
  rw [t0]
  clear t0 c5
  go_loopw [4, 5, 11] (fun s4 s5 s11 wr => ∃ i : Nat, i ≤ m ∧ s4 = .slice none 0 0 ∧ s5 = errV i ∧ s11 = .int .i64 i ∧ Hid (RdR w z0 z av b sb hm db dm p cd N k c d i wr)) (fun _ _ s11 _ => m - (intOf s11).toNat)
  case atStart => exact ⟨0, by omega, rfl, rfl, rfl, H0⟩
  case round =>
    obtain ⟨i, hi, rfl, rfl, rfl, HI⟩ := hrel
    clear H0
    by_cases hlt : i < m
    · obtain ⟨d', t', htr, hat⟩ := HI.out.ex
      obtain ⟨_, _, c2, _, _, _, _, _, _⟩ := hat.cc.cells
      have f2 := hat.cc.frz 2
      obtain ⟨t1, ht1⟩ : ∃ t1, t1 = wrap64 (t' + 1) := ⟨_, rfl⟩
      have e1 : wrap64 (t' + 1) = t1 := ht1.symm
      have hat1 := hat.stat 2 (.int .i64 t1) c.h c.m t1 c.l rfl
      obtain ⟨_, _, _, _, c4', _, _, _, _⟩ := hat1.cc.cells
      have hkd : k < d'.N := by rw [hat.nN]; exact HK.out
      have hK1 : Kept (fun q => q ≠ b) wr (wr.setCell ⟨b, 2, none⟩ (.int .i64 t1)) := Kept.setCell _ (a := ⟨b, 2, none⟩) (fun e => e rfl) _
      have c2' : wr.cell? ⟨b, 2, none⟩ = some (.int .i64 t') := c2
      have hstep : tryN k (c.rt + 1 - i) d' t' = tryN k (c.rt + 1 - (i + 1) + 1) d' t' := by
        have := HM.out; have := HT.out
        rw [show c.rt + 1 - i = c.rt + 1 - (i + 1) + 1 by omega]
      by_cases hf : (d'.F k).f = 0
      · have HC := Lib.hid (Read_ok db dm p cd d' k _ hat1.dk hkd hf)
        have HE : Hid (∀ g w2, (wr.setCell ⟨b, 2, none⟩ (.int .i64 t1)).heap.size ≤ g → UAt w2 g 64 (readF d' k) → DkAt w2 db dm p cd d'.more → Kept (butD (wr.setCell ⟨b, 2, none⟩ (.int .i64 t1)) db dm) (wr.setCell ⟨b, 2, none⟩ (.int .i64 t1)) w2 →
            ReadRes w w2 R.1 (.returned (.tuple #[.slice (some ⟨g, 0, none⟩) 64 64, .int .i64 0])) ∧ CkAt w2 z0 z av b sb hm db dm p cd N (c.tried R.2.2) R.2.1 ∧ Kept (butR w b db dm) w w2) := by
          intro g w2 hg hu hd hkk
          have hRe : R = (some (readF d' k), d'.more, t1) := by rw [HR.out, htr, hstep, tryN_ok hf, e1]
          rw [hRe]
          exact ⟨⟨g, rfl, Nat.le_trans (Nat.le_trans HI.out.kp.size hK1.size) hg, hu⟩, hat1.disk hkk hd hat.nN, butR_step HI.out.kp hK1 hkk⟩
        clear hat hat1 htr hstep hkd ht1 hf c2 hK1 HI
        go_wp2_with fail
        refine HC.out.mono ?_
        rintro e w2 ⟨g, rfl, hg, hu, hd, hkk⟩
        have HZ := Lib.hid (HE.out g w2 hg hu hd hkk)
        clear HE hg hu hd hkk
        go_wp2_with fail
        go_ret2
        exact HZ.out
      · have HC := Lib.hid (Read_bad db dm p cd d' k _ hat1.dk hkd hf)
        have HE : Hid (∀ w2, DkAt w2 db dm p cd (d'.bad k) → Kept (butD (wr.setCell ⟨b, 2, none⟩ (.int .i64 t1)) db dm) (wr.setCell ⟨b, 2, none⟩ (.int .i64 t1)) w2 →
            RdR w z0 z av b sb hm db dm p cd N k c d (i + 1) w2) := by
          intro w2 hd hkk
          exact ⟨⟨d'.bad k, t1, by rw [htr, hstep, tryN_bad hf, e1], hat1.disk hkk hd (by rw [bad_N]; exact hat.nN)⟩, butR_step HI.out.kp hK1 hkk⟩
        clear hat hat1 htr hstep hkd ht1 hf c2 hK1 HI
        go_wp2_with fail
        refine HC.out.mono ?_
        rintro e w2 ⟨rfl, hd, hkk⟩
        have HZ := Lib.hid (HE.out w2 hd hkk)
        clear HE hd hkk
        go_wp2_with fail
        go_roundw
        case rel => exact ⟨i + 1, by omega, rfl, rfl, by go_num, HZ⟩
        case measure => simp [intOf]; omega
    · obtain rfl : i = m := by omega
      obtain ⟨i', rfl⟩ : ∃ i', i = i' + 1 := ⟨i - 1, by omega⟩
      have h5 : errV (i' + 1) = .int .i64 8 := rfl
      rw [h5]
      have HE : Hid (ReadRes w wr R.1 (.returned (.tuple #[.slice none 0 0, .int .i64 8])) ∧ CkAt wr z0 z av b sb hm db dm p cd N (c.tried R.2.2) R.2.1 ∧ Kept (butR w b db dm) w wr) := by
        obtain ⟨d', t', htr, hat⟩ := HI.out.ex
        have hRe : R = (none, d', t') := by
          rw [HR.out, htr, show c.rt + 1 - (i' + 1) = 0 by have := HM.out; have := HT.out; omega]
          rfl
        rw [hRe]
        exact ⟨rfl, hat, HI.out.kp⟩
      clear HI HM
      go_wp2_with fail
      go_ret2
      exact HE.out
end Go.Proofs.Ytooamkicmmgniaa
