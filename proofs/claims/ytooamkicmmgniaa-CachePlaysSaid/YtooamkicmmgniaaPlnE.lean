/- The law's fault; both caches side by side. -/
import Derived.Test.YtooamkicmmgniaaPlnD
import Derived.Test.YtooamkicmmgniaaConvL
namespace Go.Proofs.Ytooamkicmmgniaa
set_option linter.unusedVariables false
set_option maxRecDepth 100000
open Go.RowKit Go.ChangeShapes Go.WideShapes

/-- What a disk is when it was told. -/
def faultD (d : Dsk) (kd pg n z : Int) : Dsk :=
  if pg < 0 ∨ (d.N : Int) ≤ pg then d
  else if kd = 5 then d.set pg.toNat (Flt.mk n (d.F pg.toNat).a (d.F pg.toNat).x).norm
  else if kd = 6 then if 0 ≤ n ∧ n ≤ 63 then d.set pg.toNat (Flt.mk (d.F pg.toNat).f n z).norm else d
  else d.set pg.toNat Flt.z
theorem faultD_N (d : Dsk) (kd pg n z : Int) : (faultD d kd pg n z).N = d.N := by
  unfold faultD
  repeat' split
  all_goals rfl
theorem fault_ops (b m : Nat) (p : Option Addr) (c : Nat) (d : Dsk) (kd pg n z : Int) (w : World) (h : DkAt w b m p c d) (hn : -9223372036854775808 ≤ n ∧ n ≤ 9223372036854775807) (hz : 0 ≤ z ∧ z ≤ 255) :
    (kd = 5 → Calls Try.prog 17 #[.pointer (some ⟨b, 0, none⟩), .int .i64 pg, .int .i64 n] w fun e w' => ∃ er, e = .returned (.int .i64 er) ∧ DkAt w' b m p c (faultD d kd pg n z) ∧ Kept (fun j => j < w.heap.size ∧ j ≠ m) w w') ∧
    (kd = 6 → Calls Try.prog 35 #[.pointer (some ⟨b, 0, none⟩), .int .i64 pg, .int .i64 n, .int .u8 z] w fun e w' => ∃ er, e = .returned (.int .i64 er) ∧ DkAt w' b m p c (faultD d kd pg n z) ∧ Kept (fun j => j < w.heap.size ∧ j ≠ m) w w') ∧
    (kd ≠ 5 → kd ≠ 6 → Calls Try.prog 36 #[.pointer (some ⟨b, 0, none⟩), .int .i64 pg] w fun e w' => ∃ er, e = .returned (.int .i64 er) ∧ DkAt w' b m p c (faultD d kd pg n z) ∧ Kept (fun j => j < w.heap.size ∧ j ≠ m) w w') := by
  by_cases ho : pg < 0 ∨ (d.N : Int) ≤ pg
  · have e : faultD d kd pg n z = d := by unfold faultD; rw [if_pos ho]
    rw [e]
    refine ⟨fun _ => (Fail_out b m p c d pg n w h ho).mono ?_, fun _ => (Spoil_out b m p c d pg n z w h ho).mono ?_, fun _ _ => (Heal_out b m p c d pg w h ho).mono ?_⟩
    all_goals
      rintro e w' ⟨rfl, rfl⟩
      exact ⟨_, rfl, h, Kept.refl _ _⟩
  · obtain ⟨k, rfl⟩ : ∃ k : Nat, pg = k := ⟨pg.toNat, by omega⟩
    have hk : k < d.N := by omega
    unfold faultD
    rw [if_neg ho, Int.toNat_natCast]
    refine ⟨fun e => ?_, fun e => ?_, fun e e' => ?_⟩
    · rw [if_pos e]
      refine (Fail_ok b m p c d k n w h hk hn).mono ?_
      rintro e w' ⟨rfl, h1, h2⟩
      exact ⟨_, rfl, h1, h2⟩
    · rw [if_neg (by omega), if_pos e]
      by_cases hx : 0 ≤ n ∧ n ≤ 63
      · rw [if_pos hx]
        refine (Spoil_ok b m p c d k n z w h hk hx hz).mono ?_
        rintro e w' ⟨rfl, h1, h2⟩
        exact ⟨_, rfl, h1, h2⟩
      · rw [if_neg hx]
        refine (Spoil_arg b m p c d k n z w h hk (by omega)).mono ?_
        rintro e w' ⟨rfl, rfl⟩
        exact ⟨_, rfl, h, Kept.refl _ _⟩
    · rw [if_neg e, if_neg e']
      refine (Heal_ok b m p c d k w h hk).mono ?_
      rintro e w' ⟨rfl, h1, h2⟩
      exact ⟨_, rfl, h1, h2⟩
theorem lawFault_any (b m : Nat) (p : Option Addr) (c : Nat) (d : Dsk) (kd pg n z : Int) (w : World) (h : DkAt w b m p c d) (hn : -9223372036854775808 ≤ n ∧ n ≤ 9223372036854775807) (hz : 0 ≤ z ∧ z ≤ 255) :
    Calls Try.prog 25 #[.pointer (some ⟨b, 0, none⟩), .agg #[.int .i64 kd, .int .i64 pg, .int .i64 n, .int .u8 z]] w fun e w' => e = .returned (.tuple #[]) ∧ DkAt w' b m p c (faultD d kd pg n z) ∧ Kept (fun j => j < w.heap.size ∧ j ≠ m) w w' := by
  have HO := Lib.hid (Old.alloc w (.cells #[.int .i64 kd, .int .i64 pg, .int .i64 n, .int .u8 z] 42))
  have HP := Lib.hid (fault_ops b m p c d kd pg n z _ (h.old HO.out) hn hz)
  have HE : Hid (∀ w', Kept (fun j => j < (w.alloc (.cells #[.int .i64 kd, .int .i64 pg, .int .i64 n, .int .u8 z] 42)).heap.size ∧ j ≠ m) (w.alloc (.cells #[.int .i64 kd, .int .i64 pg, .int .i64 n, .int .u8 z] 42)) w' → Kept (fun j => j < w.heap.size ∧ j ≠ m) w w') := Lib.hid fun w' hk => Kept.fore HO.out hk
  clear h hn hz
  by_cases h5 : kd = 5
  · have HC := Lib.hid (HP.out.1 h5)
    have q5 : (kd == 5) = true := by simp [h5]
    clear HP h5
    go_enter Try.func25, Try.ntmps25
    go_wp2_with fail
    refine HC.out.mono ?_
    rintro e w' ⟨er, rfl, h1, h2⟩
    have HF := Lib.hid (And.intro h1 (HE.out w' h2))
    clear h1 h2 HC
    go_wp2_with fail
    go_end0
    exact ⟨rfl, HF.out⟩
  · have q5 : (kd == 5) = false := by simp [h5]
    by_cases h6 : kd = 6
    · have HC := Lib.hid (HP.out.2.1 h6)
      have q6 : (kd == 6) = true := by simp [h6]
      clear HP h5 h6
      go_enter Try.func25, Try.ntmps25
      go_wp2_with fail
      refine HC.out.mono ?_
      rintro e w' ⟨er, rfl, h1, h2⟩
      have HF := Lib.hid (And.intro h1 (HE.out w' h2))
      clear h1 h2 HC
      go_wp2_with fail
      go_end0
      exact ⟨rfl, HF.out⟩
    · have q6 : (kd == 6) = false := by simp [h6]
      have HC := Lib.hid (HP.out.2.2 h5 h6)
      clear HP h5 h6
      go_enter Try.func25, Try.ntmps25
      go_wp2_with fail
      refine HC.out.mono ?_
      rintro e w' ⟨er, rfl, h1, h2⟩
      have HF := Lib.hid (And.intro h1 (HE.out w' h2))
      clear h1 h2 HC
      go_wp2_with fail
      go_end0
      exact ⟨rfl, HF.out⟩

/-- Which blocks are whose: the cache's slots z0, its disk's map dm, the plain cache's q, gp, gm, gd, its disk's map dx; all lie below z. -/
structure Bks where
  lo : Nat
  z0 : Nat
  dm : Nat
  z1 : Nat
  z : Nat
  q : Nat
  gp : Nat
  gm : Nat
  gd : Nat
  dx : Nat
/-- Both caches, and both disks: they have the same. -/
structure SyS (W : World) (B : Bks) (N : Nat) (c : Cch) (d : Dsk) : Prop where
  ca : ∃ p, CkAt W B.z0 B.z (B.z0 + 2) (B.z0 + 2) B.z0 (B.z0 + 1) (B.dm + 1) B.dm p N N c d
  pl : ∃ p, PnAt W B.z1 B.z B.q B.q B.gp B.gm B.gd (B.dx + 1) B.dx p N N c d ∧ ∀ a, 0 < N → p = some a → B.z0 + 3 ≤ a.block
  ord : B.lo ≤ B.dm ∧ B.lo ≤ B.z0 ∧ B.z0 + 3 ≤ B.dx
/-- Blocks that the cache and its disk leave as they are, and that the plain one does. -/
def butC (W : World) (B : Bks) : Nat → Prop := butK W (B.z0 + 2) B.z0 (B.z0 + 1) (B.dm + 1) B.dm
def butL (W : World) (B : Bks) : Nat → Prop := butP W B.q B.gp B.gm B.gd (B.dx + 1) B.dx
theorem PnAt.keptF {w w' : World} {z0 z av q gp gk gd db dm cd N : Nat} {p : Option Addr} {c : Cch} {d : Dsk} {X : Nat → Prop} (h : PnAt w z0 z av q gp gk gd db dm p cd N c d) (k : Kept X w w') (h1 : X q) (h2 : X gp) (h3 : X gk) (h4 : X gd) (h5 : X db) (h6 : X dm) (h7 : ∀ a, 0 < N → p = some a → X a.block) (h8 : ∀ x, z ≤ x → x < w.heap.size → X x) : PnAt w' z0 z av q gp gk gd db dm p cd N c d :=
  ⟨(k.block q h1).trans h.blk, h.num, h.pages.kept k h2, h.marks.kept k h3, h.data.kept k h4 fun g g1 _ g2 => h8 g g1 g2, h.uq, h.pgs, h.rng, h.dk.kept k h5 h6 fun a hn ha => h7 a (by rw [← h.nN]; exact hn) ha, h.nN, h.lo, Nat.le_trans h.hi k.size⟩
namespace SyS
variable {W V : World} {B : Bks} {N : Nat} {c : Cch} {d : Dsk}
theorem old (h : SyS W B N c d) (k : Old W V) : SyS V B N c d := by
  obtain ⟨⟨p, h1⟩, ⟨p2, h2, h3⟩, h4⟩ := h
  exact ⟨⟨p, h1.old k⟩, ⟨p2, h2.old k, h3⟩, h4⟩
/-- The cache did something, the plain one not yet. -/
theorem plain (h : SyS W B N c d) (k : Kept (butC W B) W V) : ∃ p, PnAt V B.z1 B.z B.q B.q B.gp B.gm B.gd (B.dx + 1) B.dx p N N c d ∧ ∀ a, 0 < N → p = some a → B.z0 + 3 ≤ a.block := by
  obtain ⟨⟨p, h1⟩, ⟨p2, h2, h3⟩, h4⟩ := h
  have hr := h2.rng
  have hl := h2.lo
  have hc := h1.lo
  refine ⟨p2, h2.keptF k ⟨h2.ltq, by omega, by omega, by omega, by omega, by omega⟩ ⟨h2.pages.lt, by omega, by omega, by omega, by omega, by omega⟩ ⟨h2.marks.lt, by omega, by omega, by omega, by omega, by omega⟩ ⟨h2.data.lt, by omega, by omega, by omega, by omega, by omega⟩ ⟨h2.dk.ltb, by omega, by omega, by omega, by omega, by omega⟩ ⟨h2.dk.map.lt, by omega, by omega, by omega, by omega, by omega⟩ (fun a hn ha => ?_) fun x hx hx2 => ⟨hx2, by omega, by omega, by omega, by omega, by omega⟩, h3⟩
  have h5 := h3 a hn ha
  exact ⟨h2.dk.plt a (by rw [h2.nN]; exact hn) ha, by omega, by omega, by omega, by omega, by omega⟩
/-- The plain one did it, too. -/
theorem join (ho : B.lo ≤ B.dm ∧ B.lo ≤ B.z0 ∧ B.z0 + 3 ≤ B.dx) (hc : ∃ p, CkAt W B.z0 B.z (B.z0 + 2) (B.z0 + 2) B.z0 (B.z0 + 1) (B.dm + 1) B.dm p N N c d) (k : Kept (butL W B) W V) (hp : ∃ p, PnAt V B.z1 B.z B.q B.q B.gp B.gm B.gd (B.dx + 1) B.dx p N N c d ∧ ∀ a, 0 < N → p = some a → B.z0 + 3 ≤ a.block) : SyS V B N c d := by
  obtain ⟨p, h1⟩ := hc
  obtain ⟨p2, h2, h3⟩ := hp
  have hr := h2.rng
  have hl := h2.lo
  have hcr := h1.cc.rng
  have hcl := h1.lo
  exact ⟨⟨p, h1.kept k fun x hx hx2 => ⟨hx, by omega, by omega, by omega, by omega, by omega, by omega⟩⟩, ⟨p2, h2, h3⟩, ho⟩
theorem lows (h : SyS W B N c d) : B.lo ≤ W.heap.size ∧ B.z1 ≤ W.heap.size := by
  obtain ⟨⟨p, h1⟩, ⟨p2, h2, h3⟩, h4⟩ := h
  have := h1.hi
  have := h2.rng
  have := h1.cc.rng
  omega
theorem keepC (h : SyS W B N c d) (k : Kept (butC W B) W V) : Kept (fun x => x < B.lo) W V := by
  have h1 := h.lows
  have h2 := h.ord
  exact k.mono fun x hx => ⟨by omega, by omega, by omega, by omega, by omega, by omega⟩
theorem keepL (h : SyS W B N c d) {U : World} (hU : W.heap.size ≤ U.heap.size) (k : Kept (butL U B) U V) : Kept (fun x => x < B.lo) U V := by
  have h1 := h.lows
  obtain ⟨⟨p, h1'⟩, ⟨p2, h2, h3⟩, h4⟩ := h
  have hr := h2.rng
  have hl := h2.lo
  have hc := h1'.lo
  exact k.mono fun x hx => ⟨by omega, by omega, by omega, by omega, by omega, by omega, by omega⟩
end SyS
end Go.Proofs.Ytooamkicmmgniaa
