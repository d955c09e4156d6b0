/- The law's plain cache, second part: take. -/
import Derived.Test.YtooamkicmmgniaaPlnA
namespace Go.Proofs.Ytooamkicmmgniaa
set_option linter.unusedVariables false
set_option maxRecDepth 100000
open Go.RowKit Go.ChangeShapes Go.WideShapes

namespace PnAt
variable {w w' : World} {z0 z av q gp gk gd db dm cd N : Nat} {p : Option Addr} {c : Cch} {d : Dsk}
theorem tick (h : PnAt w z0 z av q gp gk gd db dm p cd N c d) (t' : Int) : PnAt (w.setCell ⟨q, 8, none⟩ (.int .i64 t')) z0 z av q gp gk gd db dm p cd N (c.tried t') d := h.stat 8 (.int .i64 t') c.hand c.h c.m t' c.l h.num.2.2.2.1 rfl
theorem next (h : PnAt w z0 z av q gp gk gd db dm p cd N c d) : PnAt (w.setCell ⟨q, 4, none⟩ (.int .i64 (((c.hand + 1) % c.n : Nat) : Int))) z0 z av q gp gk gd db dm p cd N c.next d := h.stat 4 _ ((c.hand + 1) % c.n) c.h c.m c.t c.l (Nat.mod_lt _ h.num.1) rfl
/-- A mark. -/
theorem mark (h : PnAt w z0 z av q gp gk gd db dm p cd N c d) {i : Nat} (hi : i < c.n) {s : Slt} (hs : c.S i = some s) (b : Bool) : PnAt (w.setCell ⟨gk, i, none⟩ (.bool b)) z0 z av q gp gk gd db dm p cd N { c with S := setM c.S i b } d := by
  have k : Kept (fun j => j ≠ gk) w (w.setCell ⟨gk, i, none⟩ (.bool b)) := Kept.setCell w (a := ⟨gk, i, none⟩) (fun e => e rfl) _
  have hr := h.rng
  have hl := h.lo
  refine ⟨(k.block q (by omega)).trans h.blk, h.num, (h.pages.kept k (by omega)).ext fun j hj => ?_, ?_, (h.data.kept k (by omega) fun g hg _ _ => by omega).sub fun j t ht => ?_, setM_uniq h.uq i b, fun j hj t ht => ?_, hr, h.dk.kept k (by omega) (by omega) (fun a hn ha => by have := hl.2.2 a (by rw [← h.nN]; exact hn) ha; omega), h.nN, hl, Nat.le_trans h.hi k.size⟩
  · show pgV c.S j = pgV (setM c.S i b) j
    unfold pgV setM updS
    by_cases e : j = i
    · rw [if_pos e, e, hs]; rfl
    · rw [if_neg e]
  · refine ⟨by have := h.marks.lt; simpa [World.setCell] using this, fun j hj => ?_, fun j hj => by rw [World.frozen?_setCell]; exact h.marks.frz j hj⟩
    show _ = some (Value.bool (mkS (setM c.S i b) j))
    by_cases e : j = i
    · subst e
      rw [World.cell?_setCell_same _ _ _ (h.marks.cell j hj)]
      unfold mkS setM updS
      rw [if_pos rfl, hs]
      rfl
    · rw [World.cell?_setCell_other _ _ _ _ (fun e' => e (by injection e' with _ e2; exact e2.symm)), h.marks.cell j hj, mkS_setM _ _ _ _ e]
  · obtain ⟨u, h1, h2, _⟩ := setM_G c.S i b j t ht
    exact ⟨u, h1, h2⟩
  · obtain ⟨u, hu, _, e2⟩ := setM_G c.S i b j t ht
    rw [e2]
    exact h.pgs j hj u hu
end PnAt
/-- So far no reading was right. -/
def PlT (w : World) (z0 z av q gp gk gd db dm : Nat) (p : Option Addr) (cd N k : Nat) (c : Cch) (d : Dsk) (i : Nat) (wr : World) : Prop :=
  (∃ d' t', tryN k (c.rt + 1) d c.t = tryN k (c.rt + 1 - i) d' t' ∧ PnAt wr z0 z av q gp gk gd db dm p cd N (c.miss.tried t') d') ∧ Kept (butP w q gp gk gd db dm) w wr
/-- One was. -/
def PlG (w : World) (z0 z av q gp gk gd db dm : Nat) (p : Option Addr) (cd N k : Nat) (c : Cch) (d : Dsk) (g : Nat) (wr : World) : Prop :=
  (∃ G d' t', tryN k (c.rt + 1) d c.t = (some G, d', t') ∧ PnAt wr z0 z av q gp gk gd db dm p cd N (c.miss.tried t') d' ∧ (z ≤ g ∧ g ≠ av) ∧ SlU wr (some ⟨g, 0, none⟩) 64 G) ∧ Kept (butP w q gp gk gd db dm) w wr
theorem butP_step {w wr w1 w2 : World} {q gp gk gd db dm : Nat} (h : Kept (butP w q gp gk gd db dm) w wr) (h1 : Kept (fun x => x ≠ q) wr w1) (h2 : Kept (butD w1 db dm) w1 w2) : Kept (butP w q gp gk gd db dm) w w2 :=
  (h.trans (h1.mono fun x hx => hx.2.1)).trans (h2.mono fun x hx => ⟨Nat.lt_of_lt_of_le hx.1 (Nat.le_trans h.size h1.size), hx.2.2.2.2.2.1, hx.2.2.2.2.2.2⟩)
/-- The slot that the hand tells is known: the page is put. -/
theorem put_at {w : World} {z0 z av q gp gk gd db dm cd N : Nat} {p : Option Addr} {cur : Cch} {d : Dsk} (h : PnAt w z0 z av q gp gk gd db dm p cd N cur d) {k : Nat} (hk : k < N) {g : Nat} {G : Nat → Int} (hg : z ≤ g ∧ g ≠ av) (hG : SlU w (some ⟨g, 0, none⟩) 64 G) (hf : fnd cur.S k cur.n = none) :
    PnAt ((((w.setCell ⟨gp, cur.hand, none⟩ (.int .i64 (k : Int))).setCell ⟨gk, cur.hand, none⟩ (.bool true)).setCell ⟨gd, cur.hand, none⟩ (.slice (some ⟨g, 0, none⟩) 64 64))) z0 z av q gp gk gd db dm p cd N { cur with S := updS cur.S cur.hand (some ⟨k, true, G⟩) } d := by
  obtain ⟨i, hi⟩ : ∃ i, i = cur.hand := ⟨_, rfl⟩
  rw [← hi]
  have hin : i < cur.n := by rw [hi]; exact h.num.2.2.2.1
  have hr := h.rng
  have hl := h.lo
  obtain ⟨W1, hW1⟩ : ∃ W1, W1 = w.setCell ⟨gp, i, none⟩ (.int .i64 (k : Int)) := ⟨_, rfl⟩
  have k1 : Kept (fun j => j ≠ gp) w W1 := by rw [hW1]; exact Kept.setCell w (a := ⟨gp, i, none⟩) (fun e => e rfl) _
  have P1 : CellsAt W1 gp cur.n (fun j => if j = i then (k : Int) else pgV cur.S j) := by rw [hW1]; exact h.pages.set i hin k
  have M1 := h.marks.kept k1 (by omega)
  have D1 := h.data.kept k1 (by omega) fun g hg _ _ => by omega
  rw [← hW1]
  obtain ⟨W2, hW2⟩ : ∃ W2, W2 = W1.setCell ⟨gk, i, none⟩ (.bool true) := ⟨_, rfl⟩
  have k2 : Kept (fun j => j ≠ gk) W1 W2 := by rw [hW2]; exact Kept.setCell W1 (a := ⟨gk, i, none⟩) (fun e => e rfl) _
  have P2 := P1.kept k2 (by omega)
  have M2 : CellsV W2 gk cur.n (fun j => .bool (mkS (updS cur.S i (some ⟨k, true, G⟩)) j)) := by
    refine ⟨by have := M1.lt; rw [hW2]; simpa [World.setCell] using this, fun j hj => ?_, fun j hj => by rw [hW2, World.frozen?_setCell]; exact M1.frz j hj⟩
    rw [hW2]
    by_cases e : j = i
    · subst e
      rw [World.cell?_setCell_same _ _ _ (M1.cell j hj)]
      unfold mkS updS
      rw [if_pos rfl]
    · rw [World.cell?_setCell_other _ _ _ _ (fun e' => e (by injection e' with _ e2; exact e2.symm)), M1.cell j hj]
      unfold mkS updS
      rw [if_neg e]
  have D2 := D1.kept k2 (by omega) fun g hg _ _ => by omega
  rw [← hW2]
  obtain ⟨W3, hW3⟩ : ∃ W3, W3 = W2.setCell ⟨gd, i, none⟩ (.slice (some ⟨g, 0, none⟩) 64 64) := ⟨_, rfl⟩
  have k3 : Kept (fun j => j ≠ gd) W2 W3 := by rw [hW3]; exact Kept.setCell W2 (a := ⟨gd, i, none⟩) (fun e => e rfl) _
  have kk : Kept (fun j => j ≠ gp ∧ j ≠ gk ∧ j ≠ gd) w W3 := ((k1.mono fun j hj => hj.1).trans (k2.mono fun j hj => hj.2.1)).trans (k3.mono fun j hj => hj.2.2)
  have D3 : DataAt W3 gd cur.n z av (updS cur.S i (some ⟨k, true, G⟩)) := by
    obtain ⟨DV, h1, h2⟩ := D2
    refine ⟨fun j => if j = i then .slice (some ⟨g, 0, none⟩) 64 64 else DV j, ⟨by have := h1.lt; rw [hW3]; simpa [World.setCell] using this, fun j hj => ?_, fun j hj => by rw [hW3, World.frozen?_setCell]; exact h1.frz j hj⟩, fun j hj s hs => ?_⟩
    · rw [hW3]
      by_cases e : j = i
      · subst e
        rw [World.cell?_setCell_same _ _ _ (h1.cell j hj), if_pos rfl]
      · rw [World.cell?_setCell_other _ _ _ _ (fun e' => e (by injection e' with _ e2; exact e2.symm)), h1.cell j hj, if_neg e]
    · unfold updS at hs
      by_cases e : j = i
      · rw [if_pos e] at hs
        cases hs
        refine ⟨g, (show (if j = i then _ else DV j) = _ from if_pos e), hg, hG.kept kk fun a _ ha => ?_⟩
        cases ha
        exact ⟨by show g ≠ gp; omega, by show g ≠ gk; omega, by show g ≠ gd; omega⟩
      · rw [if_neg e] at hs
        obtain ⟨g', h3, h4, h5⟩ := h2 j hj s hs
        refine ⟨g', (show (if j = i then _ else DV j) = _ from (if_neg e).trans h3), h4, h5.kept k3 fun a _ ha => ?_⟩
        cases ha
        show g' ≠ gd
        omega
  rw [← hW3]
  have huq : uniq cur.n (updS cur.S i (some ⟨k, true, G⟩)) := put_uniq h.uq hf
  subst hi
  refine ⟨(kk.block q (by omega)).trans h.blk, h.num, (P2.kept k3 (by omega)).ext fun j hj => ?_, M2.kept k3 (by omega), D3, huq, fun j hj s hs => ?_, hr, h.dk.kept kk (by omega) (by omega) (fun a hn ha => by have := hl.2.2 a (by rw [← h.nN]; exact hn) ha; omega), h.nN, hl, Nat.le_trans h.hi kk.size⟩
  · show _ = pgV (updS cur.S cur.hand (some ⟨k, true, G⟩)) j
    unfold pgV updS
    by_cases e : j = cur.hand
    · rw [if_pos e, if_pos e]
    · rw [if_neg e, if_neg e]
  · have hs' : updS cur.S cur.hand (some ⟨k, true, G⟩) j = some s := hs
    unfold updS at hs'
    split at hs'
    · cases hs'; exact hk
    · exact h.pgs j hj s hs'
/-- The hand on its way. -/
structure LpR (w : World) (z0 z av q gp gk gd db dm : Nat) (p : Option Addr) (cd N k : Nat) (CC : Cch × Nat) (n : Nat) (G : Nat → Int) (d : Dsk) (g gh : Nat) (wr : World) : Prop where
  ex : ∃ cur : Cch, cntM (mkS cur.S) cur.n ≤ gh ∧ chs gh cur = CC ∧ PnAt wr z0 z av q gp gk gd db dm p cd N cur d ∧ cur.n = n ∧ fnd cur.S k cur.n = none
  gz : z ≤ g ∧ g ≠ av
  sl : SlU wr (some ⟨g, 0, none⟩) 64 G
  kp : Kept (butP w q gp gk gd db dm) w wr
/-- What taking a page told: the bytes lie in no block that is avoided. -/
def TakeResA (w' : World) (z av : Nat) (r : Option (Nat → Int)) (e : Ending) : Prop :=
  match r with
  | none => e = .returned (.tuple #[.slice none 0 0, .int .i64 8])
  | some G => ∃ g, e = .returned (.tuple #[.slice (some ⟨g, 0, none⟩) 64 64, .int .i64 0]) ∧ (z ≤ g ∧ g ≠ av) ∧ g < w'.heap.size ∧ SlU w' (some ⟨g, 0, none⟩) 64 G
set_option maxHeartbeats 2000000 in
theorem lawTake_any (z0 z av q gp gy gd db dm : Nat) (p : Option Addr) (cd N k : Nat) (c : Cch) (d : Dsk) (w : World) (h : PnAt w z0 z av q gp gy gd db dm p cd N c d) (hk : k < N) (hav : av < w.heap.size) : Calls Try.prog 33 #[.pointer (some ⟨q, 0, none⟩), .int .i64 (k : Int)] w fun e w' =>
    TakeResA w' z av (takeR c d k).r e ∧ PnAt w' z0 z av q gp gy gd db dm p cd N (takeR c d k).c (takeR c d k).d ∧ Kept (butP w q gp gy gd db dm) w w' := by
  have HFd := Lib.hid (lawFind_any z0 z av q gp gy gd db dm p cd N (k : Int) c d w h)
  obtain ⟨c0, c1, c2, c3, c4, c5, c6, c7, c8, c9⟩ := h.cells
  have f6 := h.frz 6
  have f7 := h.frz 7
  have hr := h.rng
  have HH := Lib.hid h
  have HK := Lib.hid hk
  have HAv := Lib.hid hav
  obtain ⟨T, hT⟩ : ∃ T, T = takeR c d k := ⟨_, rfl⟩
  rw [← hT]
  have HT := Lib.hid hT
  clear h hav hT
  go_enter Try.func33, Try.ntmps33
  go_wp2_with fail
  refine HFd.out.mono ?_
  rintro e w' ⟨r, rfl, hr0, rfl⟩
  clear HFd
  rcases hr0.nat HH.out.uq with ⟨i, rfl, hf⟩ | ⟨rfl, hf⟩
  · obtain ⟨hi, s, hs, hp⟩ := (fnd_eq HH.out.uq).1 hf
    obtain ⟨u, hu⟩ : ∃ u, u = wrap64 (c.h + 1) := ⟨_, rfl⟩
    have e1 : wrap64 (c.h + 1) = u := hu.symm
    obtain ⟨n, hn⟩ : ∃ n, n = c.n := ⟨_, rfl⟩
    have hi2 : i < n := by rw [hn]; exact hi
    have hn2 : n ≤ 1024 := by rw [hn]; exact HH.out.num.2.1
    have h2 := HH.out.stat 6 (.int .i64 u) c.hand u c.m c.t c.l HH.out.num.2.2.2.1 rfl
    obtain ⟨_, _, x2, _, _, _, _, _, _, _⟩ := h2.cells
    have x2' : (w.setCell ⟨q, 6, none⟩ (.int .i64 u)).cell? ⟨q, 2, none⟩ = some (.slice (some ⟨gy, 0, none⟩) n n) := by rw [hn]; exact x2
    have km : (w.setCell ⟨q, 6, none⟩ (.int .i64 u)).cell? ⟨gy, i, none⟩ = some (.bool (mkS c.S i)) := h2.marks.cell i hi
    have kf := h2.marks.frz i hi
    have h3 := h2.mark hi hs true
    obtain ⟨_, _, _, x3, _, _, _, _, _, _⟩ := h3.cells
    have x3' : ((w.setCell ⟨q, 6, none⟩ (.int .i64 u)).setCell ⟨gy, i, none⟩ (.bool true)).cell? ⟨q, 3, none⟩ = some (.slice (some ⟨gd, 0, none⟩) n n) := by rw [hn]; exact x3
    have hsm : setM c.S i true i = some (s.mark true) := by unfold setM; rw [updS_at, hs]; rfl
    obtain ⟨DV, d1, d2⟩ := h3.data
    obtain ⟨g, e3, e4, e5⟩ := d2 i hi (s.mark true) hsm
    have y1 := d1.cell i hi
    rw [e3] at y1
    obtain ⟨g', o', e6, e7, _⟩ := e5 (by omega)
    have hkk : Kept (fun x => x ≠ q ∧ x ≠ gy) w ((w.setCell ⟨q, 6, none⟩ (.int .i64 u)).setCell ⟨gy, i, none⟩ (.bool true)) :=
      ((Kept.setCell (X := fun x => x ≠ q) w (a := ⟨q, 6, none⟩) (fun e => e rfl) _).mono fun x hx => hx.1).trans ((Kept.setCell (X := fun x => x ≠ gy) _ (a := ⟨gy, i, none⟩) (fun e => e rfl) _).mono fun x hx => hx.2)
    have HE : Hid (TakeResA ((w.setCell ⟨q, 6, none⟩ (.int .i64 u)).setCell ⟨gy, i, none⟩ (.bool true)) z av T.r (.returned (.tuple #[.slice (some ⟨g, 0, none⟩) 64 64, .int .i64 0])) ∧ PnAt ((w.setCell ⟨q, 6, none⟩ (.int .i64 u)).setCell ⟨gy, i, none⟩ (.bool true)) z0 z av q gp gy gd db dm p cd N T.c T.d ∧ Kept (butP w q gp gy gd db dm) w ((w.setCell ⟨q, 6, none⟩ (.int .i64 u)).setCell ⟨gy, i, none⟩ (.bool true))) := by
      rw [HT.out, takeR_hit hf hs]
      cases e6
      have e9 : c.hit i = { (show Cch from { c with h := u, m := c.m, t := c.t, l := c.l, hand := c.hand }) with S := setM c.S i true } := by unfold Cch.hit; rw [hu]
      refine ⟨⟨g, rfl, e4, e7, e5⟩, ?_, hkk.mono fun x hx => ⟨hx.2.1, hx.2.2.2.1⟩⟩
      show PnAt _ z0 z av q gp gy gd db dm p cd N (c.hit i) d
      rw [e9]
      exact h3
    clear HH h2 h3 hf hs hp hr hkk d1 d2 e3 e4 e5 e6 e7 hsm x2 x3 hn hi hu hr0 c1 c2 c3 c4 c5 c7 c8 c9 c0
    go_wp2_with fail
    go_ret2
    exact HE.out
  · obtain ⟨u, hu⟩ : ∃ u, u = wrap64 (c.m + 1) := ⟨_, rfl⟩
    have e1 : wrap64 (c.m + 1) = u := hu.symm
    have h2 : PnAt (w.setCell ⟨q, 7, none⟩ (.int .i64 u)) z0 z av q gp gy gd db dm p cd N c.miss d := by
      have := HH.out.stat 7 (.int .i64 u) c.hand c.h u c.t c.l HH.out.num.2.2.2.1 rfl
      have e9 : c.miss = { c with h := c.h, m := u, t := c.t, l := c.l, hand := c.hand } := by unfold Cch.miss; rw [hu]
      rw [e9]
      exact this
    obtain ⟨_, _, _, _, _, x5, _, _, _, _⟩ := h2.cells
    have hrt := HH.out.num.2.2.1
    have HF := Lib.hid hf
    have H0 : Hid (PlT w z0 z av q gp gy gd db dm p cd N k c d 0 (w.setCell ⟨q, 7, none⟩ (.int .i64 u))) := Lib.hid ⟨⟨d, c.t, rfl, h2⟩, (Kept.setCell (X := fun x => x ≠ q) w (a := ⟨q, 7, none⟩) (fun e => e rfl) _).mono fun x hx => hx.2.1⟩
    obtain ⟨rt, hrt2⟩ : ∃ rt, rt = c.rt := ⟨_, rfl⟩
    have HRt := Lib.hid hrt2
    rw [← hrt2] at hrt
    clear h2 hf hu hr hrt2 hr0 x5 c0 c1 c2 c3 c4 c5 c6 c8 c9 f6
    go_wp2_with fail
    clear c7 f7 e1
    go_loopw [7, 8, 9] (fun s7 s8 s9 wr => ∃ i : Nat, i ≤ rt + 1 ∧ s9 = .int .i64 i ∧ ((s7 = .slice none 0 0 ∧ s8 = .int .i64 8 ∧ Hid (PlT w z0 z av q gp gy gd db dm p cd N k c d i wr)) ∨ ∃ g, s7 = .slice (some ⟨g, 0, none⟩) 64 64 ∧ s8 = .int .i64 0 ∧ Hid (PlG w z0 z av q gp gy gd db dm p cd N k c d g wr))) (fun _ _ s9 _ => rt + 1 - (intOf s9).toNat)
    case atStart => exact ⟨0, by omega, rfl, .inl ⟨rfl, rfl, H0⟩⟩
    case round =>
      obtain ⟨i, hi, rfl, ⟨rfl, rfl, HI⟩ | ⟨g, rfl, rfl, HI⟩⟩ := hrel
      · clear H0
        by_cases hlt : i ≤ rt
        · obtain ⟨⟨d', t', htr, hat⟩, hkp⟩ := HI.out
          obtain ⟨x0, _, _, _, _, x5, _, _, x8, _⟩ := hat.cells
          have f8 := hat.frz 8
          obtain ⟨t1, ht1⟩ : ∃ t1, t1 = wrap64 (t' + 1) := ⟨_, rfl⟩
          have e1 : wrap64 (t' + 1) = t1 := ht1.symm
          have x5' : wr.cell? ⟨q, 5, none⟩ = some (.int .i64 (rt : Int)) := by rw [HRt.out]; exact x5
          have x8' : wr.cell? ⟨q, 8, none⟩ = some (.int .i64 t') := x8
          have hat1 := hat.tick t1
          obtain ⟨y0, _⟩ := hat1.cells
          have hkd : k < d'.N := by rw [hat.nN]; exact HK.out
          have hK1 : Kept (fun x => x ≠ q) wr (wr.setCell ⟨q, 8, none⟩ (.int .i64 t1)) := Kept.setCell _ (a := ⟨q, 8, none⟩) (fun e => e rfl) _
          have hilt : (i : Int) ≤ rt := by omega
          have hstep : tryN k (c.rt + 1 - i) d' t' = tryN k (c.rt + 1 - (i + 1) + 1) d' t' := by
            have := HRt.out
            rw [show c.rt + 1 - i = c.rt + 1 - (i + 1) + 1 by omega]
          by_cases hf : (d'.F k).f = 0
          · have HC := Lib.hid (Read_ok db dm p cd d' k _ hat1.dk hkd hf)
            have HE : Hid (∀ g w2, (wr.setCell ⟨q, 8, none⟩ (.int .i64 t1)).heap.size ≤ g → UAt w2 g 64 (readF d' k) → DkAt w2 db dm p cd d'.more → Kept (butD (wr.setCell ⟨q, 8, none⟩ (.int .i64 t1)) db dm) (wr.setCell ⟨q, 8, none⟩ (.int .i64 t1)) w2 →
                PlG w z0 z av q gp gy gd db dm p cd N k c d g w2) := by
              intro g w2 hg hu hd hkk
              have hsz : w.heap.size ≤ g := Nat.le_trans (Nat.le_trans hkp.size hK1.size) hg
              refine ⟨⟨readF d' k, d'.more, t1, by rw [htr, hstep, tryN_ok hf, e1], hat1.disk hkk hd hat.nN, ⟨Nat.le_trans HH.out.hi hsz, by have := HAv.out; omega⟩, (hu.sl 0 64 (by omega)).ext fun j _ => by rw [Nat.zero_add]⟩, butP_step hkp hK1 hkk⟩
            clear hat hat1 htr hstep hkd ht1 hf x8 x5 hK1 HI hkp
            go_wp2_with fail
            refine HC.out.mono ?_
            rintro e w2 ⟨g, rfl, hg, hu, hd, hkk⟩
            have HZ := Lib.hid (HE.out g w2 hg hu hd hkk)
            clear HE hg hu hd hkk
            go_wp2_with fail
            go_roundw
            case rel => exact ⟨i + 1, by omega, by go_num, .inr ⟨g, rfl, rfl, HZ⟩⟩
            case measure => simp [intOf]; omega
          · have HC := Lib.hid (Read_bad db dm p cd d' k _ hat1.dk hkd hf)
            have HE : Hid (∀ w2, DkAt w2 db dm p cd (d'.bad k) → Kept (butD (wr.setCell ⟨q, 8, none⟩ (.int .i64 t1)) db dm) (wr.setCell ⟨q, 8, none⟩ (.int .i64 t1)) w2 →
                PlT w z0 z av q gp gy gd db dm p cd N k c d (i + 1) w2) := by
              intro w2 hd hkk
              exact ⟨⟨d'.bad k, t1, by rw [htr, hstep, tryN_bad hf, e1], hat1.disk hkk hd (by rw [bad_N]; exact hat.nN)⟩, butP_step hkp hK1 hkk⟩
            clear hat hat1 htr hstep hkd ht1 hf x8 x5 hK1 HI hkp
            go_wp2_with fail
            refine HC.out.mono ?_
            rintro e w2 ⟨rfl, hd, hkk⟩
            have HZ := Lib.hid (HE.out w2 hd hkk)
            clear HE hd hkk
            go_wp2_with fail
            go_roundw
            case rel => exact ⟨i + 1, by omega, by go_num, .inl ⟨rfl, rfl, HZ⟩⟩
            case measure => simp [intOf]; omega
        · obtain ⟨⟨d', t', htr, hat⟩, hkp⟩ := HI.out
          obtain ⟨_, _, _, _, _, x5, _, _, _, x9⟩ := hat.cells
          have f9 := hat.frz 9
          obtain ⟨u9, hu9⟩ : ∃ u9, u9 = wrap64 (c.l + 1) := ⟨_, rfl⟩
          have e1 : wrap64 (c.l + 1) = u9 := hu9.symm
          have x5' : wr.cell? ⟨q, 5, none⟩ = some (.int .i64 (rt : Int)) := by rw [HRt.out]; exact x5
          have x9' : wr.cell? ⟨q, 9, none⟩ = some (.int .i64 c.l) := x9
          have hilt : ¬ (i : Int) ≤ rt := by omega
          have HE : Hid (TakeResA (wr.setCell ⟨q, 9, none⟩ (.int .i64 u9)) z av T.r (.returned (.tuple #[.slice none 0 0, .int .i64 8])) ∧ PnAt (wr.setCell ⟨q, 9, none⟩ (.int .i64 u9)) z0 z av q gp gy gd db dm p cd N T.c T.d ∧ Kept (butP w q gp gy gd db dm) w (wr.setCell ⟨q, 9, none⟩ (.int .i64 u9))) := by
            have hRe : tryN k (c.rt + 1) d c.t = (none, d', t') := by
              rw [htr, show c.rt + 1 - i = 0 by have := HRt.out; omega]
              rfl
            rw [HT.out, takeR_lost HF.out hRe]
            have := hat.stat 9 (.int .i64 u9) c.hand c.h (wrap64 (c.m + 1)) t' u9 hat.num.2.2.2.1 rfl
            have e9 : (c.miss.tried t').lose = { c.miss.tried t' with h := c.h, m := wrap64 (c.m + 1), t := t', l := u9, hand := c.hand } := by unfold Cch.lose; rw [hu9]; rfl
            rw [e9]
            exact ⟨rfl, this, hkp.trans ((Kept.setCell (X := fun x => x ≠ q) _ (a := ⟨q, 9, none⟩) (fun e => e rfl) _).mono fun x hx => hx.2.1)⟩
          clear hat hkp htr hu9 x5 x9 HI
          go_wp2_with fail
          go_ret2
          exact HE.out
      · clear H0
        obtain ⟨⟨G, d', t', htr, hat, hgz, hsl⟩, hkp⟩ := HI.out
        obtain ⟨_, _, _, _, _, x5, _, _, _, _⟩ := hat.cells
        have x5' : wr.cell? ⟨q, 5, none⟩ = some (.int .i64 (rt : Int)) := by rw [HRt.out]; exact x5
        clear x5
        go_upto_region 10 with (fail)
        go_cut [57] (fun v wx => v = .bool false ∧ wr = wx)
        case first =>
          by_cases c1 : (i : Int) ≤ rt
          · go_wp2_with fail
            go_meet
            exact ⟨rfl, rfl⟩
          · go_wp2_with fail
            go_meet
            exact ⟨rfl, rfl⟩
        case rest =>
          obtain ⟨rfl, rfl⟩ := hcut
          clear x5'
          go_wp2_with fail
          have HL0 : Hid (∃ gh, LpR w z0 z av q gp gy gd db dm p cd N k (c.miss.tried t').choose (c.miss.tried t').n G d' g gh wr) := Lib.hid ⟨(c.miss.tried t').n, ⟨⟨c.miss.tried t', cntM_le _ _, rfl, hat, rfl, HF.out⟩, hgz, hsl, hkp⟩⟩
          have HTe : Hid (takeR c d k = ⟨some G, (c.miss.tried t').put k G, d'⟩) := Lib.hid (takeR_had HF.out htr)
          obtain ⟨CC, hCC⟩ : ∃ CC, CC = (c.miss.tried t').choose := ⟨_, rfl⟩
          have HPt : Hid ((c.miss.tried t').put k G = { CC.1 with S := updS CC.1.S CC.2 (some ⟨k, true, G⟩) }) := by rw [hCC]; exact Lib.hid rfl
          obtain ⟨n, hn⟩ : ∃ n, n = (c.miss.tried t').n := ⟨_, rfl⟩
          have hn2 : 0 < n ∧ n ≤ 1024 := by rw [hn]; exact ⟨hat.num.1, hat.num.2.1⟩
          rw [← hCC, ← hn] at HL0
          rw [HPt.out] at HTe
          have hr := Lib.hid hat.rng
          clear HPt hat htr hgz hsl hkp hCC hn HI HF
          obtain ⟨gh0, hgh⟩ := HL0.out
          have HL1 := Lib.hid hgh
          clear HL0 hgh
          go_loopg [] gh0 (fun gh wr => Hid (LpR w z0 z av q gp gy gd db dm p cd N k CC n G d' g gh wr))
          case atStart => exact HL1
          case round =>
            clear HL1
            obtain ⟨cur, hcnt, hch, hat, hcn, hfn⟩ := hrel.out.ex
            obtain ⟨x0, x1, x2, x3, x4, _, _, _, _, _⟩ := hat.cells
            obtain ⟨hd, hhd⟩ : ∃ hd, hd = cur.hand := ⟨_, rfl⟩
            have hdn : hd < n := by rw [hhd, ← hcn]; exact hat.num.2.2.2.1
            rw [← hhd] at x4
            rw [hcn] at x1 x2 x3
            have xp := hat.pages.cell hd (by rw [hcn]; exact hdn)
            have xk : wr.cell? ⟨gy, hd, none⟩ = some (.bool (mkS cur.S hd)) := hat.marks.cell hd (by rw [hcn]; exact hdn)
            obtain ⟨pv, hpv⟩ : ∃ pv, pv = pgV cur.S hd := ⟨_, rfl⟩
            obtain ⟨mk, hmk⟩ : ∃ mk, mk = mkS cur.S hd := ⟨_, rfl⟩
            rw [← hpv] at xp
            rw [← hmk] at xk
            have hpm : mk = true → 0 ≤ pv := fun h => by
              rw [hmk] at h
              obtain ⟨s, hs, _⟩ := mkS_some h
              rw [hpv]
              unfold pgV
              rw [hs]
              show (0 : Int) ≤ (s.p : Int)
              omega
            have hn1 : n ≤ 1024 := hn2.2
            have HQ := Lib.hid (And.intro hcnt (And.intro hch (And.intro hcn (And.intro hhd (And.intro hmk hfn)))))
            have HA := Lib.hid hat
            have HRl := Lib.hid (And.intro hrel.out.gz (And.intro hrel.out.sl hrel.out.kp))
            clear hcnt hch hcn hhd hmk hpv hfn hat hrel
            go_upto_region 17 with (fail)
            go_cut [114] (fun v wx => v = .bool mk ∧ wx = wr.drew)
            case first =>
              by_cases hge : 0 ≤ pv
              · have q1 : decide (0 ≤ pv) = true := decide_eq_true hge
                cases mk with
                | true =>
                  refine wp_region_still_tail 22 (by kernel_rfl) (by kernel_rfl) ?_
                  simp only [List.take_succ_cons, List.take_zero, List.drop_succ_cons, List.drop_zero]
                  iterate 22 (with_reducible refine wpStill_step (fun K hK => ?_); go_simp; with_reducible refine hK _ ?_; clear hK K)
                  with_reducible refine wpStill_nil ?_
                  change wpList _ _ _ _ _ (World.drew _)
                  go_wp2_with fail
                  go_meet
                  exact ⟨rfl, rfl⟩
                | false =>
                  refine wp_region_still_tail 22 (by kernel_rfl) (by kernel_rfl) ?_
                  simp only [List.take_succ_cons, List.take_zero, List.drop_succ_cons, List.drop_zero]
                  iterate 22 (with_reducible refine wpStill_step (fun K hK => ?_); go_simp; with_reducible refine hK _ ?_; clear hK K)
                  with_reducible refine wpStill_nil ?_
                  change wpList _ _ _ _ _ (World.drew _)
                  go_wp2_with fail
                  go_meet
                  exact ⟨rfl, rfl⟩
              · have q1 : decide (0 ≤ pv) = false := decide_eq_false hge
                have hmf : mk = false := by
                  cases mk with
                  | true => exact absurd (hpm rfl) hge
                  | false => rfl
                subst hmf
                clear hpm
                refine wp_region_still_tail 22 (by kernel_rfl) (by kernel_rfl) ?_
                simp only [List.take_succ_cons, List.take_zero, List.drop_succ_cons, List.drop_zero]
                iterate 22 (with_reducible refine wpStill_step (fun K hK => ?_); go_simp; with_reducible refine hK _ ?_; clear hK K)
                with_reducible refine wpStill_nil ?_
                change wpList _ _ _ _ _ (World.drew _)
                go_wp2_with fail
                go_meet
                exact ⟨rfl, rfl⟩
            case rest =>
              obtain ⟨rfl, rfl⟩ := hcut
              cases mk with
              | true =>
                clear xp hpm
                have hatW : PnAt wr.drew z0 z av q gp gy gd db dm p cd N cur d' := HA.out.old (Old.refl wr).drew
                have HKw : Hid (SlU wr.drew (some ⟨g, 0, none⟩) 64 G ∧ Kept (butP w q gp gy gd db dm) w wr.drew) := Lib.hid ⟨HRl.out.2.1.old (Old.refl wr).drew, HRl.out.2.2.drew⟩
                generalize wr.drew = W at *
                obtain ⟨hcnt, hch, hcn, hhd, hmk, hfn⟩ := HQ.out
                obtain ⟨y0, y1, y2, y3, y4, _⟩ := hatW.cells
                rw [← hhd] at y4
                rw [hcn] at y1 y2 y3
                have yk : W.cell? ⟨gy, hd, none⟩ = some (.bool (mkS cur.S hd)) := hatW.marks.cell hd (by rw [hcn]; exact hdn)
                have fk := hatW.marks.frz hd (by rw [hcn]; exact hdn)
                have hm : mkS cur.S cur.hand = true := by rw [← hhd]; exact hmk.symm
                obtain ⟨s, hs, _⟩ := mkS_some hm
                have hat1 : PnAt ((W.setCell ⟨gy, hd, none⟩ (.bool false)).drew) z0 z av q gp gy gd db dm p cd N { cur with S := setM cur.S cur.hand false } d' := by
                  rw [hhd]
                  exact (hatW.mark hatW.num.2.2.2.1 hs false).old (Old.refl _).drew
                obtain ⟨_, u1, _, _, u4, _⟩ := hat1.cells
                have fu := hat1.frz 4
                have u1' : ((W.setCell ⟨gy, hd, none⟩ (.bool false)).drew).cell? ⟨q, 1, none⟩ = some (.slice (some ⟨gp, 0, none⟩) n n) := by rw [← hcn]; exact u1
                have u4' : ((W.setCell ⟨gy, hd, none⟩ (.bool false)).drew).cell? ⟨q, 4, none⟩ = some (.int .i64 (hd : Int)) := by
                  rw [u4]
                  show some (Value.int .i64 (cur.hand : Int)) = _
                  rw [← hhd]
                obtain ⟨nx, hnx⟩ : ∃ nx, nx = (hd + 1) % n := ⟨_, rfl⟩
                have hz0 : ¬ n = 0 := by omega
                have hnxn : nx < n := by rw [hnx]; exact Nat.mod_lt _ hn2.1
                have tw0 : IntKind.i64.wrap ((hd : Int) + 1) = (hd : Int) + 1 := IntWalk.i64_in _ (by omega)
                have tw1 : ((hd : Int) + 1).tmod (n : Int) = nx := by rw [Int.tmod_eq_emod_of_nonneg (by omega), hnx, Int.natCast_emod]; rfl
                have tw2 : IntKind.i64.wrap (nx : Int) = nx := IntWalk.i64_in _ (by omega)
                have HTw := Lib.hid (And.intro tw0 (And.intro tw1 tw2))
                have hat2 : PnAt ((((W.setCell ⟨gy, hd, none⟩ (.bool false)).drew).setCell ⟨q, 4, none⟩ (.int .i64 (nx : Int))).drew) z0 z av q gp gy gd db dm p cd N cur.by_ d' := by
                  have := hat1.next.old (Old.refl _).drew
                  rw [hnx, hhd, ← hcn]
                  rw [hhd] at this
                  exact this
                have HNx : Hid (∃ gh', gh' < gk ∧ LpR w z0 z av q gp gy gd db dm p cd N k CC n G d' g gh' ((((W.setCell ⟨gy, hd, none⟩ (.bool false)).drew).setCell ⟨q, 4, none⟩ (.int .i64 (nx : Int))).drew)) := by
                  have hlt : cur.hand < cur.n := hatW.num.2.2.2.1
                  have hc1 := cntM_less (f := mkS cur.S) (g := mkS (setM cur.S cur.hand false)) hlt hm (mkS_setM_false _ _) fun j hj => mkS_setM _ _ _ j hj
                  obtain ⟨g', hg'⟩ : ∃ g', gk = g' + 1 := ⟨gk - 1, by omega⟩
                  have k1 : Kept (fun x => x ≠ gy ∧ x ≠ q) W ((((W.setCell ⟨gy, hd, none⟩ (.bool false)).drew).setCell ⟨q, 4, none⟩ (.int .i64 (nx : Int))).drew) :=
                    ((((Kept.setCell (X := fun x => x ≠ gy) W (a := ⟨gy, hd, none⟩) (fun e => e rfl) (.bool false)).drew).mono fun x hx => hx.1).trans ((Kept.setCell (X := fun x => x ≠ q) _ (a := ⟨q, 4, none⟩) (fun e => e rfl) _).mono fun x hx => hx.2)).drew
                  have hrr := hr.out
                  refine ⟨g', by omega, ⟨⟨cur.by_, ?_, ?_, hat2, hcn, ?_⟩, HRl.out.1, HKw.out.1.kept k1 fun a _ ha => ?_, HKw.out.2.trans (k1.mono fun x hx => ⟨hx.2.2.2.1, hx.2.1⟩)⟩⟩
                  · show cntM (mkS (setM cur.S cur.hand false)) cur.n ≤ g'
                    omega
                  · rw [← hch, hg', chs_yes hm]
                  · show fnd (setM cur.S cur.hand false) k cur.n = none
                    rw [setM_fnd hatW.uq]
                    exact hfn
                  · cases ha
                    have := HRl.out.1
                    exact ⟨by show g ≠ gy; omega, by show g ≠ q; omega⟩
                clear hat1 hat2 hatW hcnt hch hcn hhd hmk hfn hm hs u1 u4 hnx hnxn x0 x1 x2 x3 x4 xk
                go_wp2_with fail
                refine wp_region_still_tail 9 (by kernel_rfl) (by kernel_rfl) ?_
                simp only [List.take_succ_cons, List.take_zero, List.drop_succ_cons, List.drop_zero]
                iterate 9 (with_reducible refine wpStill_step (fun K hK => ?_); go_simp; with_reducible refine hK _ ?_; clear hK K)
                with_reducible refine wpStill_nil ?_
                change wpList _ _ _ _ _ (World.drew _)
                clear tw0 tw1 tw2
                go_upto_region 19 with (fail)
                generalize (W.setCell ⟨gy, hd, none⟩ (.bool false)).drew = W2 at *
                obtain ⟨tw0, tw1, tw2⟩ := HTw.out
                refine wp_region_still_tail 14 (by kernel_rfl) (by kernel_rfl) ?_
                simp only [List.take_succ_cons, List.take_zero, List.drop_succ_cons, List.drop_zero]
                iterate 14 (with_reducible refine wpStill_step (fun K hK => ?_); go_simp; with_reducible refine hK _ ?_; clear hK K)
                with_reducible refine wpStill_nil ?_
                change wpList _ _ _ _ _ (World.drew _)
                go_wp2_with fail
                obtain ⟨gh', hg1, hg2⟩ := HNx.out
                go_roundg gh'
                case measure => exact hg1
                case rel => exact hg2
              | false =>
                clear hpm
                have hatW : PnAt wr.drew z0 z av q gp gy gd db dm p cd N cur d' := HA.out.old (Old.refl wr).drew
                have HKw : Hid (SlU wr.drew (some ⟨g, 0, none⟩) 64 G ∧ Kept (butP w q gp gy gd db dm) w wr.drew) := Lib.hid ⟨HRl.out.2.1.old (Old.refl wr).drew, HRl.out.2.2.drew⟩
                generalize wr.drew = W at *
                obtain ⟨hcnt, hch, hcn, hhd, hmk, hfn⟩ := HQ.out
                obtain ⟨_, y1, y2, y3, y4, _⟩ := hatW.cells
                have hrr := hr.out
                have hdc : hd < cur.n := by rw [hcn]; exact hdn
                rw [← hhd] at y4
                rw [hcn] at y1 y2 y3
                have yp := hatW.pages.cell hd hdc
                have fp := hatW.pages.frz hd hdc
                obtain ⟨A1, hA1⟩ : ∃ A, A = (W.setCell ⟨gp, hd, none⟩ (.int .i64 (k : Int))).drew := ⟨_, rfl⟩
                have k1 : Kept (fun x => x ≠ gp) W A1 := by rw [hA1]; exact (Kept.setCell (X := fun x => x ≠ gp) W (a := ⟨gp, hd, none⟩) (fun e => e rfl) _).drew
                have z2 : A1.cell? ⟨q, 2, none⟩ = some (.slice (some ⟨gy, 0, none⟩) n n) := (k1.cell (a := ⟨q, 2, none⟩) (show q ≠ gp by omega)).trans y2
                have z4 : A1.cell? ⟨q, 4, none⟩ = some (.int .i64 (hd : Int)) := (k1.cell (a := ⟨q, 4, none⟩) (show q ≠ gp by omega)).trans y4
                have zk : A1.cell? ⟨gy, hd, none⟩ = some (.bool (mkS cur.S hd)) := (k1.cell (a := ⟨gy, hd, none⟩) (show gy ≠ gp by omega)).trans (hatW.marks.cell hd hdc)
                have fk : A1.frozen? ⟨gy, hd, none⟩ = false := (k1.frozen (a := ⟨gy, hd, none⟩) (show gy ≠ gp by omega)).trans (hatW.marks.frz hd hdc)
                obtain ⟨A2, hA2⟩ : ∃ A, A = (A1.setCell ⟨gy, hd, none⟩ (.bool true)).drew := ⟨_, rfl⟩
                have k2 : Kept (fun x => x ≠ gy) A1 A2 := by rw [hA2]; exact (Kept.setCell (X := fun x => x ≠ gy) A1 (a := ⟨gy, hd, none⟩) (fun e => e rfl) _).drew
                have k12 : Kept (fun x => x ≠ gp ∧ x ≠ gy) W A2 := (k1.mono fun x hx => hx.1).trans (k2.mono fun x hx => hx.2)
                have v3 : A2.cell? ⟨q, 3, none⟩ = some (.slice (some ⟨gd, 0, none⟩) n n) := (k12.cell (a := ⟨q, 3, none⟩) (show q ≠ gp ∧ q ≠ gy by omega)).trans y3
                have v4 : A2.cell? ⟨q, 4, none⟩ = some (.int .i64 (hd : Int)) := (k12.cell (a := ⟨q, 4, none⟩) (show q ≠ gp ∧ q ≠ gy by omega)).trans y4
                obtain ⟨DV, hdv, _⟩ := hatW.data
                have vd : A2.cell? ⟨gd, hd, none⟩ = some (DV hd) := (k12.cell (a := ⟨gd, hd, none⟩) (show gd ≠ gp ∧ gd ≠ gy by omega)).trans (hdv.cell hd hdc)
                have fd : A2.frozen? ⟨gd, hd, none⟩ = false := (k12.frozen (a := ⟨gd, hd, none⟩) (show gd ≠ gp ∧ gd ≠ gy by omega)).trans (hdv.frz hd hdc)
                obtain ⟨A3, hA3⟩ : ∃ A, A = (A2.setCell ⟨gd, hd, none⟩ (.slice (some ⟨g, 0, none⟩) 64 64)).drew := ⟨_, rfl⟩
                have k3 : Kept (fun x => x ≠ gd) A2 A3 := by rw [hA3]; exact (Kept.setCell (X := fun x => x ≠ gd) A2 (a := ⟨gd, hd, none⟩) (fun e => e rfl) _).drew
                have k13 : Kept (fun x => x ≠ gp ∧ x ≠ gy ∧ x ≠ gd) W A3 := (k12.mono fun x hx => ⟨hx.1, hx.2.1⟩).trans (k3.mono fun x hx => hx.2.2)
                have t1 : A3.cell? ⟨q, 1, none⟩ = some (.slice (some ⟨gp, 0, none⟩) n n) := (k13.cell (a := ⟨q, 1, none⟩) (show q ≠ gp ∧ q ≠ gy ∧ q ≠ gd by omega)).trans y1
                have t4 : A3.cell? ⟨q, 4, none⟩ = some (.int .i64 (hd : Int)) := (k13.cell (a := ⟨q, 4, none⟩) (show q ≠ gp ∧ q ≠ gy ∧ q ≠ gd by omega)).trans y4
                have hat3 : PnAt A3 z0 z av q gp gy gd db dm p cd N { cur with S := updS cur.S cur.hand (some ⟨k, true, G⟩) } d' := by
                  rw [hA3, hA2, hA1, hhd]
                  exact (put_at hatW HK.out HRl.out.1 HKw.out.1 hfn).old ⟨rfl, rfl, Nat.le_refl _, fun _ _ => rfl⟩
                have f4 := hat3.frz 4
                obtain ⟨nx, hnx⟩ : ∃ nx, nx = (hd + 1) % n := ⟨_, rfl⟩
                have hz0 : ¬ n = 0 := by omega
                have hnxn : nx < n := by rw [hnx]; exact Nat.mod_lt _ hn2.1
                have tw0 : IntKind.i64.wrap ((hd : Int) + 1) = (hd : Int) + 1 := IntWalk.i64_in _ (by omega)
                have tw1 : ((hd : Int) + 1).tmod (n : Int) = nx := by rw [Int.tmod_eq_emod_of_nonneg (by omega), hnx, Int.natCast_emod]; rfl
                have tw2 : IntKind.i64.wrap (nx : Int) = nx := IntWalk.i64_in _ (by omega)
                have HTw := Lib.hid (And.intro tw0 (And.intro tw1 tw2))
                have HEnd : Hid (TakeResA ((A3.setCell ⟨q, 4, none⟩ (.int .i64 (nx : Int))).drew) z av T.r (.returned (.tuple #[.slice (some ⟨g, 0, none⟩) 64 64, .int .i64 0])) ∧ PnAt ((A3.setCell ⟨q, 4, none⟩ (.int .i64 (nx : Int))).drew) z0 z av q gp gy gd db dm p cd N T.c T.d ∧ Kept (butP w q gp gy gd db dm) w ((A3.setCell ⟨q, 4, none⟩ (.int .i64 (nx : Int))).drew)) := by
                  have k4 : Kept (fun x => x ≠ q) A3 ((A3.setCell ⟨q, 4, none⟩ (.int .i64 (nx : Int))).drew) := (Kept.setCell (X := fun x => x ≠ q) A3 (a := ⟨q, 4, none⟩) (fun e => e rfl) _).drew
                  have k14 : Kept (fun x => x ≠ gp ∧ x ≠ gy ∧ x ≠ gd ∧ x ≠ q) W ((A3.setCell ⟨q, 4, none⟩ (.int .i64 (nx : Int))).drew) := (k13.mono fun x hx => ⟨hx.1, hx.2.1, hx.2.2.1⟩).trans (k4.mono fun x hx => hx.2.2.2)
                  have hgz := HRl.out.1
                  have hslf : SlU ((A3.setCell ⟨q, 4, none⟩ (.int .i64 (nx : Int))).drew) (some ⟨g, 0, none⟩) 64 G := HKw.out.1.kept k14 fun a _ ha => by
                    cases ha
                    exact ⟨by show g ≠ gp; omega, by show g ≠ gy; omega, by show g ≠ gd; omega, by show g ≠ q; omega⟩
                  obtain ⟨g', o', e6, e7, _⟩ := hslf (by omega)
                  cases e6
                  have hCC : CC = (cur.next, cur.hand) := by rw [← hch, chs_no (by rw [← hhd]; exact hmk.symm)]
                  rw [HT.out, HTe.out, hCC]
                  refine ⟨⟨g, rfl, hgz, e7, hslf⟩, ?_, HKw.out.2.trans (k14.mono fun x hx => ⟨hx.2.2.1, hx.2.2.2.1, hx.2.2.2.2.1, hx.2.1⟩)⟩
                  have := hat3.next.old (Old.refl _).drew
                  rw [hnx, hhd, ← hcn]
                  exact this
                have HA1 := Lib.hid hA1
                have HA2 := Lib.hid hA2
                have HA3 := Lib.hid hA3
                clear hatW hcnt hch hhd hmk hfn hdv hat3 k1 k2 k12 k3 k13 hnx hnxn x0 x1 x2 x3 x4 xk xp hA1 hA2 hA3 tw0 tw1 tw2 hrr
                go_wp2_with fail
                refine wp_region_still_tail 10 (by kernel_rfl) (by kernel_rfl) ?_
                simp only [List.take_succ_cons, List.take_zero, List.drop_succ_cons, List.drop_zero]
                iterate 10 (with_reducible refine wpStill_step (fun K hK => ?_); go_simp; with_reducible refine hK _ ?_; clear hK K)
                with_reducible refine wpStill_nil ?_
                change wpList _ _ _ _ _ (World.drew _)
                go_upto_region 21 with (fail)
                rw [← HA1.out]
                refine wp_region_still_tail 9 (by kernel_rfl) (by kernel_rfl) ?_
                simp only [List.take_succ_cons, List.take_zero, List.drop_succ_cons, List.drop_zero]
                iterate 9 (with_reducible refine wpStill_step (fun K hK => ?_); go_simp; with_reducible refine hK _ ?_; clear hK K)
                with_reducible refine wpStill_nil ?_
                change wpList _ _ _ _ _ (World.drew _)
                go_upto_region 22 with (fail)
                rw [← HA2.out]
                refine wp_region_still_tail 10 (by kernel_rfl) (by kernel_rfl) ?_
                simp only [List.take_succ_cons, List.take_zero, List.drop_succ_cons, List.drop_zero]
                iterate 10 (with_reducible refine wpStill_step (fun K hK => ?_); go_simp; with_reducible refine hK _ ?_; clear hK K)
                with_reducible refine wpStill_nil ?_
                change wpList _ _ _ _ _ (World.drew _)
                go_upto_region 23 with (fail)
                rw [← HA3.out]
                obtain ⟨tw0, tw1, tw2⟩ := HTw.out
                refine wp_region_still_tail 14 (by kernel_rfl) (by kernel_rfl) ?_
                simp only [List.take_succ_cons, List.take_zero, List.drop_succ_cons, List.drop_zero]
                iterate 14 (with_reducible refine wpStill_step (fun K hK => ?_); go_simp; with_reducible refine hK _ ?_; clear hK K)
                with_reducible refine wpStill_nil ?_
                change wpList _ _ _ _ _ (World.drew _)
                go_wp2_with fail
                go_ret2
                exact HEnd.out
end Go.Proofs.Ytooamkicmmgniaa
