/- The law's step: both caches answer alike. -/
import Derived.Test.YtooamkicmmgniaaPlnE
import Derived.Deep.RegionHeld
import Derived.RegionTactic
namespace Go.Proofs.Ytooamkicmmgniaa
set_option linter.unusedVariables false
set_option maxRecDepth 100000
open Go.RowKit Go.ChangeShapes Go.WideShapes

theorem conv_none (w : World) (q : Option Addr) (c : Nat) : (convert 22 9 (.slice q 0 c)).run Try.prog w = .ok (.string (strOfNums [])) w :=
  conv_slI ⟨q, c, rfl, fun h => absurd rfl h⟩
theorem conv_slU {w : World} {q : Option Addr} {n c : Nat} {G : Nat → Int} (h : SlU w q n G) (h1 : n ≤ c) (h2 : c ≤ maxLen) : (convert 22 9 (.slice q n c)).run Try.prog w = .ok (.string (strOfNums (lst G n))) w :=
  conv_slI (h.slI h1 h2)
theorem opCell {w : World} {b : Nat} {x y z u : Value} {t : TypeId} (h : w.heap[b]? = some (.cells #[x, y, z, u] t (0, 0))) :
    w.cell? ⟨b, 0, none⟩ = some x ∧ w.cell? ⟨b, 1, none⟩ = some y ∧ w.cell? ⟨b, 2, none⟩ = some z ∧ w.cell? ⟨b, 3, none⟩ = some u := by
  simp [World.cell?, h]
/-- The cache's part, the plain one's. -/
def CaP (W : World) (B : Bks) (N : Nat) (c : Cch) (d : Dsk) : Prop := ∃ p, CkAt W B.z0 B.z (B.z0 + 2) (B.z0 + 2) B.z0 (B.z0 + 1) (B.dm + 1) B.dm p N N c d
def PlP (W : World) (B : Bks) (N : Nat) (c : Cch) (d : Dsk) : Prop := ∃ p, PnAt W B.z1 B.z B.q B.q B.gp B.gm B.gd (B.dx + 1) B.dx p N N c d ∧ ∀ a, 0 < N → p = some a → B.z0 + 3 ≤ a.block
/-- The same in the slots that there are. -/
theorem PnAt.extS {w : World} {z0 z av q gp gk gd db dm cd N : Nat} {p : Option Addr} {c : Cch} {d : Dsk} (h : PnAt w z0 z av q gp gk gd db dm p cd N c d) {S' : Nat → Option Slt} (e : ∀ i, i < c.n → c.S i = S' i) : PnAt w z0 z av q gp gk gd db dm p cd N { c with S := S' } d := by
  refine ⟨h.blk, h.num, h.pages.ext fun j hj => ?_, h.marks.ext fun j hj => ?_, ?_, fun i j s t hi hj hs ht => h.uq i j s t hi hj ((e i hi).trans hs) ((e j hj).trans ht), fun i hi s hs => h.pgs i hi s ((e i hi).trans hs), h.rng, h.dk, h.nN, h.lo, h.hi⟩
  · show pgV c.S j = pgV S' j
    unfold pgV
    rw [e j hj]
  · show Value.bool (mkS c.S j) = .bool (mkS S' j)
    unfold mkS
    rw [e j hj]
  · obtain ⟨DV, h1, h2⟩ := h.data
    exact ⟨DV, h1, fun i hi s hs => h2 i hi s ((e i hi).trans hs)⟩
namespace SyS
variable {W V U : World} {B : Bks} {N : Nat} {c c' : Cch} {d d' : Dsk}
theorem hz (h : SyS W B N c d) : B.z ≤ W.heap.size := by obtain ⟨⟨p, h1⟩, _⟩ := h; exact h1.hi
theorem num (h : SyS W B N c d) : N ≤ 65536 ∧ c.n ≤ 1024 := by obtain ⟨⟨p, h1⟩, _⟩ := h; exact ⟨h1.cc.num.2.2.2.2, h1.cc.num.2.1⟩
theorem muts (h : SyS W B N c d) : B.z0 + 2 < B.z ∧ B.dm + 1 < B.z0 ∧ B.q < B.z ∧ B.gp < B.z ∧ B.gm < B.z ∧ B.gd < B.z ∧ B.dx + 1 < B.z := by
  obtain ⟨⟨p, h1⟩, ⟨p2, h2, h3⟩, h4⟩ := h
  have := h1.cc.rng
  have := h1.lo
  have := h2.rng
  have := h2.lo
  omega
theorem cGet (h : SyS W B N c d) {k : Nat} (hk : k < N) : Calls Try.prog 18 #[.pointer (some ⟨B.z0 + 2, 0, none⟩), .int .i64 (k : Int)] W fun e V => GetRes W.heap.size V (takeR c d k).r e ∧ CaP V B N (takeR c d k).c (takeR c d k).d ∧ Kept (butC W B) W V := by
  have hm := h.muts
  obtain ⟨⟨p, h1⟩, _⟩ := h
  refine (cGet_any _ _ _ _ _ _ _ _ _ _ _ k c d W h1 hk (by have := h1.hi; omega)).mono ?_
  rintro e V ⟨r1, r2, r3⟩
  exact ⟨r1, ⟨p, r2⟩, r3⟩
theorem cGetOut (h : SyS W B N c d) {i : Int} (hi : i < 0 ∨ (N : Int) ≤ i) : Calls Try.prog 18 #[.pointer (some ⟨B.z0 + 2, 0, none⟩), .int .i64 i] W fun e V => e = .returned (.tuple #[.slice none 0 0, .int .i64 5]) ∧ W = V := by
  obtain ⟨⟨p, h1⟩, _⟩ := h
  exact cGet_out _ _ _ _ _ _ _ _ _ _ _ i c d W h1 hi
theorem cSpan (h : SyS W B N c d) {a n : Nat} (hn : a + n ≤ 64 * N) : Calls Try.prog 16 #[.pointer (some ⟨B.z0 + 2, 0, none⟩), .int .i64 (a : Int), .int .i64 (n : Int)] W fun e V => SpanRes W.heap.size V n (spanR c d a n).r e ∧ CaP V B N (spanR c d a n).c (spanR c d a n).d ∧ Kept (butC W B) W V := by
  have hm := h.muts
  obtain ⟨⟨p, h1⟩, _⟩ := h
  refine (cSpan_any _ _ _ _ _ _ _ _ _ _ _ a n c d W h1 hn (by omega)).mono ?_
  rintro e V ⟨r1, r2, r3⟩
  exact ⟨r1, ⟨p, r2⟩, r3⟩
theorem cSpanOut (h : SyS W B N c d) {a n : Int} (hi : a < 0 ∨ n < 0 ∨ 64 * (N : Int) - a < n) (h63 : a ≤ 9223372036854775807) : Calls Try.prog 16 #[.pointer (some ⟨B.z0 + 2, 0, none⟩), .int .i64 a, .int .i64 n] W fun e V => e = .returned (.tuple #[.slice none 0 0, .int .i64 5]) ∧ W = V := by
  obtain ⟨⟨p, h1⟩, _⟩ := h
  exact cSpan_out _ _ _ _ _ _ _ _ _ _ _ a n c d W h1 hi h63
theorem cEvict (h : SyS W B N c d) {i : Int} (hi : -9223372036854775808 ≤ i ∧ i ≤ 9223372036854775807) : Calls Try.prog 14 #[.pointer (some ⟨B.z0 + 2, 0, none⟩), .int .i64 i] W fun e V => e = .returned (.bool (fndI c i).isSome) ∧ CaP V B N (c.evict i) d ∧ Kept (butC W B) W V := by
  obtain ⟨⟨p, h1⟩, _⟩ := h
  have hr := h1.cc.rng
  have hl := h1.lo
  refine (cEvict_any _ _ _ _ _ _ _ _ c i W h1.cc hi).mono ?_
  rintro e V ⟨r1, r2, r3⟩
  exact ⟨r1, ⟨p, h1.cacheT r3 (fun q hq hq2 => ⟨hq2, by omega, by omega⟩) r2⟩, r3.mono fun q hq => ⟨hq.1, hq.2.2.1, hq.2.2.2.1⟩⟩
theorem cEmpty (h : SyS W B N c d) : Calls Try.prog 15 #[.pointer (some ⟨B.z0 + 2, 0, none⟩)] W fun e V => e = .returned (.tuple #[]) ∧ CaP V B N c.empty d ∧ Kept (butC W B) W V := by
  obtain ⟨⟨p, h1⟩, _⟩ := h
  have hr := h1.cc.rng
  have hl := h1.lo
  refine (cEmpty_any _ _ _ _ _ _ _ _ c W h1.cc).mono ?_
  rintro e V ⟨r1, r2, r3⟩
  exact ⟨r1, ⟨p, h1.cacheT r3 (fun q hq hq2 => ⟨hq2, by omega, by omega⟩) r2⟩, r3.mono fun q hq => ⟨hq.1, hq.2.2.1, hq.2.2.2.1⟩⟩
theorem cFault (h : SyS W B N c d) (kd pg n z : Int) (hn : -9223372036854775808 ≤ n ∧ n ≤ 9223372036854775807) (hz : 0 ≤ z ∧ z ≤ 255) : Calls Try.prog 25 #[.pointer (some ⟨B.dm + 1, 0, none⟩), .agg #[.int .i64 kd, .int .i64 pg, .int .i64 n, .int .u8 z]] W fun e V => e = .returned (.tuple #[]) ∧ CaP V B N c (faultD d kd pg n z) ∧ Kept (butC W B) W V := by
  obtain ⟨⟨p, h1⟩, _⟩ := h
  refine (lawFault_any _ _ p N d kd pg n z W h1.dk hn hz).mono ?_
  rintro e V ⟨r1, r2, r3⟩
  exact ⟨r1, ⟨p, h1.disk (r3.mono fun q hq => ⟨hq.1, hq.2.2⟩) r2 (by rw [faultD_N]; exact h1.nN)⟩, r3.mono fun q hq => ⟨hq.1, hq.2.2.2.2.2⟩⟩
end SyS
namespace PlP
variable {W V U : World} {B : Bks} {N : Nat} {c c' : Cch} {d d' : Dsk}
theorem get (h : PlP W B N c d) {k : Nat} (hk : k < N) : Calls Try.prog 22 #[.pointer (some ⟨B.q, 0, none⟩), .int .i64 (k : Int)] W fun e V => TakeResA V B.z B.q (takeR c d k).r e ∧ PlP V B N (takeR c d k).c (takeR c d k).d ∧ Kept (butL W B) W V := by
  obtain ⟨p, h1, h2⟩ := h
  refine (lawGet_any _ _ _ _ _ _ _ _ _ _ _ _ k c d W h1 hk h1.ltq).mono ?_
  rintro e V ⟨r1, r2, r3⟩
  exact ⟨r1, ⟨p, r2, h2⟩, r3⟩
theorem getOut (h : PlP W B N c d) {i : Int} (hi : i < 0 ∨ (N : Int) ≤ i) : Calls Try.prog 22 #[.pointer (some ⟨B.q, 0, none⟩), .int .i64 i] W fun e V => e = .returned (.tuple #[.slice none 0 0, .int .i64 5]) ∧ W = V := by
  obtain ⟨p, h1, h2⟩ := h
  exact lawGet_out _ _ _ _ _ _ _ _ _ _ _ _ i c d W h1 hi
theorem span (h : PlP W B N c d) {a n : Nat} (hn : a + n ≤ 64 * N) : Calls Try.prog 23 #[.pointer (some ⟨B.q, 0, none⟩), .int .i64 (a : Int), .int .i64 (n : Int)] W fun e V => SpanRes W.heap.size V n (spanR c d a n).r e ∧ PlP V B N (spanR c d a n).c (spanR c d a n).d ∧ Kept (butL W B) W V := by
  obtain ⟨p, h1, h2⟩ := h
  refine (lawSpan_any _ _ _ _ _ _ _ _ _ _ _ _ a n c d W h1 hn h1.rng.1.2).mono ?_
  rintro e V ⟨r1, r2, r3⟩
  exact ⟨r1, ⟨p, r2, h2⟩, r3⟩
theorem spanOut (h : PlP W B N c d) {a n : Int} (hi : a < 0 ∨ n < 0 ∨ 64 * (N : Int) - a < n) : Calls Try.prog 23 #[.pointer (some ⟨B.q, 0, none⟩), .int .i64 a, .int .i64 n] W fun e V => e = .returned (.tuple #[.slice none 0 0, .int .i64 5]) ∧ W = V := by
  obtain ⟨p, h1, h2⟩ := h
  exact lawSpan_out _ _ _ _ _ _ _ _ _ _ _ _ a n c d W h1 hi
theorem evict (h : PlP W B N c d) (i : Int) : Calls Try.prog 24 #[.pointer (some ⟨B.q, 0, none⟩), .int .i64 i] W fun e V => e = .returned (.bool (fndI c i).isSome) ∧ PlP V B N (c.evict i) d ∧ Kept (butL W B) W V := by
  obtain ⟨p, h1, h2⟩ := h
  refine (lawEvict_any _ _ _ _ _ _ _ _ _ _ _ _ i c d W h1).mono ?_
  rintro e V ⟨r1, r2, r3⟩
  exact ⟨r1, ⟨p, r2, h2⟩, r3.mono fun q hq => ⟨hq.1, hq.2.2.1, hq.2.2.2.1⟩⟩
theorem fault (h : PlP W B N c d) (kd pg n z : Int) (hn : -9223372036854775808 ≤ n ∧ n ≤ 9223372036854775807) (hz : 0 ≤ z ∧ z ≤ 255) : Calls Try.prog 25 #[.pointer (some ⟨B.dx + 1, 0, none⟩), .agg #[.int .i64 kd, .int .i64 pg, .int .i64 n, .int .u8 z]] W fun e V => e = .returned (.tuple #[]) ∧ PlP V B N c (faultD d kd pg n z) ∧ Kept (butL W B) W V := by
  obtain ⟨p, h1, h2⟩ := h
  refine (lawFault_any _ _ p N d kd pg n z W h1.dk hn hz).mono ?_
  rintro e V ⟨r1, r2, r3⟩
  exact ⟨r1, ⟨p, h1.disk (r3.mono fun q hq => ⟨hq.1, hq.2.2⟩) r2 (by rw [faultD_N]; exact h1.nN), h2⟩, r3.mono fun q hq => ⟨hq.1, hq.2.2.2.2.2.2⟩⟩
end PlP
theorem takeR_n (c : Cch) (d : Dsk) (k : Nat) : (takeR c d k).c.n = c.n := by
  cases hf : fnd c.S k c.n with
  | some i =>
    obtain ⟨_, s, hs, _⟩ := (show i < c.n ∧ ∃ s, c.S i = some s ∧ s.p = k from ⟨(fnd_some hf).1, hasS_iff.1 (fnd_some hf).2⟩)
    rw [takeR_hit hf hs]
    rfl
  | none =>
    rcases ht : tryN k (c.rt + 1) d c.t with ⟨r, d', t'⟩
    cases r with
    | none => rw [takeR_lost hf ht]; rfl
    | some G =>
      rw [takeR_had hf ht]
      exact (chs_same (c.miss.tried t').n (c.miss.tried t')).n
theorem spanF_n (at_ n : Nat) : ∀ (f : Nat) (c : Cch) (d : Dsk) (len : Nat) (B : Nat → Int), (spanF at_ n f c d len B).c.n = c.n
  | 0, c, d, len, B => rfl
  | f + 1, c, d, len, B => by
    by_cases h : len < n
    · have h1 := takeR_n c d ((at_ + len) / 64)
      rcases ht : takeR c d ((at_ + len) / 64) with ⟨r, c', d'⟩
      rw [ht] at h1
      cases r with
      | none => rw [spanF_lost h f c c' d d' B ht]; exact h1
      | some G => rw [spanF_had h f c c' d d' B G ht, spanF_n at_ n f]; exact h1
    · rw [spanF_end (by omega)]
theorem evict_n (c : Cch) (i : Int) : (c.evict i).n = c.n := by
  unfold Cch.evict
  cases fndI c i <;> rfl
/-- What a step leaves: both have the same again. -/
def StE (w : World) (B : Bks) (N n : Nat) (V : World) : Prop := (∃ c d, SyS V B N c d ∧ c.n = n) ∧ Kept (fun x => x < B.lo) w V
/-- Behind both: the end. -/
theorem SyS.done {w W V U : World} {B : Bks} {N : Nat} {c c' : Cch} {d d' : Dsk} (h : SyS W B N c d) (ho : Old w W) (hw : B.lo ≤ w.heap.size) (k1 : Kept (butC W B) W V) (hc : CaP V B N c' d') (k2 : Kept (butL V B) V U) (hp : PlP U B N c' d') (hn : c'.n = c.n) : StE w B N c.n U :=
  ⟨⟨c', d', SyS.join h.ord hc k2 hp, hn⟩, ((ho.kept fun x hx => Nat.lt_of_lt_of_le hx hw).trans (h.keepC k1)).trans (h.keepL k1.size k2)⟩
/-- A block of the law's own stays. -/
theorem SyS.box {W V : World} {B : Bks} {N : Nat} {c : Cch} {d : Dsk} (h : SyS W B N c d) (k : Kept (butC W B) W V) {b : Nat} (hb : B.z ≤ b) (hlt : b < W.heap.size) : V.heap[b]? = W.heap[b]? := by
  have hm := h.muts
  exact k.block b ⟨hlt, by omega, by omega, by omega, by omega, by omega⟩
theorem SyS.boxL {W V U : World} {B : Bks} {N : Nat} {c : Cch} {d : Dsk} (h : SyS W B N c d) (k : Kept (butL V B) V U) {b : Nat} (hb : B.z ≤ b) (hlt : b < V.heap.size) : U.heap[b]? = V.heap[b]? := by
  have hm := h.muts
  exact k.block b ⟨hlt, by omega, by omega, by omega, by omega, by omega, by omega⟩
/-- Bytes behind the law's own blocks stay. -/
theorem SyS.strL {W V U : World} {B : Bks} {N : Nat} {c : Cch} {d : Dsk} (h : SyS W B N c d) (k : Kept (butL V B) V U) {q : Option Addr} {n : Nat} {G : Nat → Int} (hs : SlU V q n G) (hf : ∀ a, 0 < n → q = some a → W.heap.size ≤ a.block) : SlU U q n G := by
  have hm := h.muts
  have hz := h.hz
  refine hs.kept k fun a hn ha => ?_
  obtain ⟨g, o, e1, e2, _⟩ := hs hn
  have h5 := hf a hn ha
  rw [e1] at ha
  cases ha
  exact ⟨e2, by omega, by omega, by omega, by omega, by omega, by omega⟩
set_option maxHeartbeats 4000000 in
theorem step_get0 {w : World} {B : Bks} {N : Nat} {c : Cch} {d : Dsk} (h : SyS w B N c d) (kd pg n z : Int) (hlo : B.lo ≤ w.heap.size) (hn : -9223372036854775808 ≤ n ∧ n ≤ 9223372036854775807) (hp : -9223372036854775808 ≤ pg ∧ pg ≤ 9223372036854775807) (hz : 0 ≤ z ∧ z ≤ 255) (hk : kd = 0) :
    Calls Try.prog 10 #[.pointer (some ⟨B.dm + 1, 0, none⟩), .pointer (some ⟨B.z0 + 2, 0, none⟩), .pointer (some ⟨B.q, 0, none⟩), .agg #[.int .i64 kd, .int .i64 pg, .int .i64 n, .int .u8 z]] w fun e V => e = .returned (.bool true) ∧ StE w B N c.n V := by
  subst hk
  have HO := Lib.hid (Old.alloc w (.cells #[.int .i64 0, .int .i64 pg, .int .i64 n, .int .u8 z] 42))
  have HW := Lib.hid (h.old HO.out)
  have HBx : Hid ((w.alloc (.cells #[.int .i64 0, .int .i64 pg, .int .i64 n, .int .u8 z] 42)).heap[w.heap.size]? = some (.cells #[.int .i64 0, .int .i64 pg, .int .i64 n, .int .u8 z] 42 (0, 0))) := Lib.hid (heap_alloc_new w _)
  have HBz : Hid (B.z ≤ w.heap.size) := Lib.hid h.hz
  have HPl : Hid (PlP (w.alloc (.cells #[.int .i64 0, .int .i64 pg, .int .i64 n, .int .u8 z] 42)) B N c d) := Lib.hid HW.out.pl
  have HNum := Lib.hid h.num
  have HLo := Lib.hid hlo
  have HBd := Lib.hid (And.intro hn (And.intro hp hz))
  have HLt := Lib.hid (lt_of_block HBx.out)
  clear h hlo hn hp hz
  by_cases hout : pg < 0 ∨ (N : Int) ≤ pg
  · have HG := Lib.hid (HW.out.cGetOut hout)
    have HG2 := Lib.hid (HPl.out.getOut hout)
    have HD := Lib.hid (show StE w B N c.n (w.alloc (.cells #[.int .i64 0, .int .i64 pg, .int .i64 n, .int .u8 z] 42)) from ⟨⟨c, d, HW.out, rfl⟩, HO.out.kept fun x hx => Nat.lt_of_lt_of_le hx HLo.out⟩)
    obtain ⟨b0, b1, b2, b3⟩ := opCell HBx.out
    have hcv := fun V => conv_none V none 0
    clear hout
    go_enter Try.func10, Try.ntmps10
    go_wp2_with fail
    refine HG.out.mono ?_
    rintro e V ⟨rfl, rfl⟩
    go_wp2_with fail
    refine HG2.out.mono ?_
    rintro e V ⟨rfl, rfl⟩
    clear HG HG2
    go_wp2_with fail
    go_ret
    exact ⟨rfl, HD.out⟩
  · obtain ⟨k, rfl⟩ : ∃ k : Nat, pg = k := ⟨pg.toNat, by omega⟩
    have hkN : k < N := by omega
    have HKN := Lib.hid hkN
    have HG := Lib.hid (HW.out.cGet hkN)
    have HP2 : Hid (∀ V, Kept (butC (w.alloc (.cells #[.int .i64 0, .int .i64 (k : Int), .int .i64 n, .int .u8 z] 42)) B) (w.alloc (.cells #[.int .i64 0, .int .i64 (k : Int), .int .i64 n, .int .u8 z] 42)) V → PlP V B N c d) := Lib.hid fun V hV => HW.out.plain hV
    obtain ⟨T, hT⟩ : ∃ T, T = takeR c d k := ⟨_, rfl⟩
    have HT := Lib.hid hT
    rw [← hT] at HG
    clear hout hkN hT
    go_enter Try.func10, Try.ntmps10
    go_wp2_with fail
    refine HG.out.mono ?_
    intro e V hh
    obtain ⟨r, c', d'⟩ := T
    have HCn : Hid (c'.n = c.n) := Lib.hid (by have h9 := takeR_n c d k; rw [← HT.out] at h9; exact h9)
    dsimp only at hh
    obtain ⟨hr, hc, hk⟩ := hh
    have HG2 := Lib.hid ((HP2.out V hk).get HKN.out)
    rw [← HT.out] at HG2
    have hbx := (HW.out.box hk HBz.out HLt.out).trans HBx.out
    obtain ⟨b0, b1, b2, b3⟩ := opCell hbx
    have HHc := Lib.hid hc
    have HHk := Lib.hid hk
    clear HG hc hk hbx
    cases r with
    | none =>
      obtain ⟨q1, c1, rfl, _⟩ := (show ∃ q c, e = .returned (.tuple #[.slice q 0 c, .int .i64 8]) ∧ c ≤ maxLen from hr)
      clear hr
      go_wp2_with fail
      refine HG2.out.mono ?_
      rintro e U ⟨he, hp, hk2⟩
      have he' : e = .returned (.tuple #[.slice none 0 0, .int .i64 8]) := he
      subst he'
      have hcv := conv_none U q1 c1
      have hcv2 := conv_none U none 0
      have HD := Lib.hid (HW.out.done HO.out HLo.out HHk.out HHc.out hk2 hp HCn.out)
      clear hp hk2 HG2 he
      go_wp2_with fail
      go_ret
      exact ⟨rfl, HD.out⟩
    | some G =>
      obtain ⟨q1, c1, rfl, h1, h2, h3, h4⟩ := (show ∃ q c, e = .returned (.tuple #[.slice q 64 c, .int .i64 0]) ∧ 64 ≤ c ∧ c ≤ maxLen ∧ SlU V q 64 G ∧ ∀ a, q = some a → (w.alloc (.cells #[.int .i64 0, .int .i64 (k : Int), .int .i64 n, .int .u8 z] 42)).heap.size ≤ a.block from hr)
      have HS := Lib.hid (And.intro h1 (And.intro h2 (And.intro h3 h4)))
      clear hr h1 h2 h3 h4
      go_wp2_with fail
      refine HG2.out.mono ?_
      rintro e U ⟨he, hp, hk2⟩
      obtain ⟨g, rfl, _, _, hsl⟩ := (show ∃ g, e = .returned (.tuple #[.slice (some ⟨g, 0, none⟩) 64 64, .int .i64 0]) ∧ (B.z ≤ g ∧ g ≠ B.q) ∧ g < U.heap.size ∧ SlU U (some ⟨g, 0, none⟩) 64 G from he)
      have hcv := conv_slU (HW.out.strL hk2 HS.out.2.2.1 fun a _ ha => HS.out.2.2.2 a ha) HS.out.1 HS.out.2.1
      have hcv2 := conv_slU (c := 64) hsl (by omega) (by unfold maxLen; omega)
      generalize strOfNums (lst G 64) = s1 at hcv hcv2
      have HD := Lib.hid (HW.out.done HO.out HLo.out HHk.out HHc.out hk2 hp HCn.out)
      clear hp hk2 HG2 he hsl
      go_wp2_with fail
      go_ret
      exact ⟨rfl, HD.out⟩
set_option maxHeartbeats 4000000 in
theorem step_get1 {w : World} {B : Bks} {N : Nat} {c : Cch} {d : Dsk} (h : SyS w B N c d) (kd pg n z : Int) (hlo : B.lo ≤ w.heap.size) (hn : -9223372036854775808 ≤ n ∧ n ≤ 9223372036854775807) (hp : -9223372036854775808 ≤ pg ∧ pg ≤ 9223372036854775807) (hz : 0 ≤ z ∧ z ≤ 255) (hk : kd = 1) :
    Calls Try.prog 10 #[.pointer (some ⟨B.dm + 1, 0, none⟩), .pointer (some ⟨B.z0 + 2, 0, none⟩), .pointer (some ⟨B.q, 0, none⟩), .agg #[.int .i64 kd, .int .i64 pg, .int .i64 n, .int .u8 z]] w fun e V => e = .returned (.bool true) ∧ StE w B N c.n V := by
  subst hk
  have HO := Lib.hid (Old.alloc w (.cells #[.int .i64 1, .int .i64 pg, .int .i64 n, .int .u8 z] 42))
  have HW := Lib.hid (h.old HO.out)
  have HBx : Hid ((w.alloc (.cells #[.int .i64 1, .int .i64 pg, .int .i64 n, .int .u8 z] 42)).heap[w.heap.size]? = some (.cells #[.int .i64 1, .int .i64 pg, .int .i64 n, .int .u8 z] 42 (0, 0))) := Lib.hid (heap_alloc_new w _)
  have HBz : Hid (B.z ≤ w.heap.size) := Lib.hid h.hz
  have HPl : Hid (PlP (w.alloc (.cells #[.int .i64 1, .int .i64 pg, .int .i64 n, .int .u8 z] 42)) B N c d) := Lib.hid HW.out.pl
  have HNum := Lib.hid h.num
  have HLo := Lib.hid hlo
  have HBd := Lib.hid (And.intro hn (And.intro hp hz))
  have HLt := Lib.hid (lt_of_block HBx.out)
  clear h hlo hn hp hz
  by_cases hout : pg < 0 ∨ (N : Int) ≤ pg
  · have HG := Lib.hid (HW.out.cGetOut hout)
    have HG2 := Lib.hid (HPl.out.getOut hout)
    have HD := Lib.hid (show StE w B N c.n (w.alloc (.cells #[.int .i64 1, .int .i64 pg, .int .i64 n, .int .u8 z] 42)) from ⟨⟨c, d, HW.out, rfl⟩, HO.out.kept fun x hx => Nat.lt_of_lt_of_le hx HLo.out⟩)
    obtain ⟨b0, b1, b2, b3⟩ := opCell HBx.out
    have hcv := fun V => conv_none V none 0
    clear hout
    go_enter Try.func10, Try.ntmps10
    go_wp2_with fail
    refine HG.out.mono ?_
    rintro e V ⟨rfl, rfl⟩
    go_wp2_with fail
    refine HG2.out.mono ?_
    rintro e V ⟨rfl, rfl⟩
    clear HG HG2
    go_wp2_with fail
    go_ret
    exact ⟨rfl, HD.out⟩
  · obtain ⟨k, rfl⟩ : ∃ k : Nat, pg = k := ⟨pg.toNat, by omega⟩
    have hkN : k < N := by omega
    have HKN := Lib.hid hkN
    have HG := Lib.hid (HW.out.cGet hkN)
    have HP2 : Hid (∀ V, Kept (butC (w.alloc (.cells #[.int .i64 1, .int .i64 (k : Int), .int .i64 n, .int .u8 z] 42)) B) (w.alloc (.cells #[.int .i64 1, .int .i64 (k : Int), .int .i64 n, .int .u8 z] 42)) V → PlP V B N c d) := Lib.hid fun V hV => HW.out.plain hV
    obtain ⟨T, hT⟩ : ∃ T, T = takeR c d k := ⟨_, rfl⟩
    have HT := Lib.hid hT
    rw [← hT] at HG
    clear hout hkN hT
    go_enter Try.func10, Try.ntmps10
    go_wp2_with fail
    refine HG.out.mono ?_
    intro e V hh
    obtain ⟨r, c', d'⟩ := T
    have HCn : Hid (c'.n = c.n) := Lib.hid (by have h9 := takeR_n c d k; rw [← HT.out] at h9; exact h9)
    dsimp only at hh
    obtain ⟨hr, hc, hk⟩ := hh
    have HG2 := Lib.hid ((HP2.out V hk).get HKN.out)
    rw [← HT.out] at HG2
    have hbx := (HW.out.box hk HBz.out HLt.out).trans HBx.out
    obtain ⟨b0, b1, b2, b3⟩ := opCell hbx
    have HHc := Lib.hid hc
    have HHk := Lib.hid hk
    clear HG hc hk hbx
    cases r with
    | none =>
      obtain ⟨q1, c1, rfl, _⟩ := (show ∃ q c, e = .returned (.tuple #[.slice q 0 c, .int .i64 8]) ∧ c ≤ maxLen from hr)
      clear hr
      go_wp2_with fail
      refine HG2.out.mono ?_
      rintro e U ⟨he, hp, hk2⟩
      have he' : e = .returned (.tuple #[.slice none 0 0, .int .i64 8]) := he
      subst he'
      have hcv := conv_none U q1 c1
      have hcv2 := conv_none U none 0
      have HD := Lib.hid (HW.out.done HO.out HLo.out HHk.out HHc.out hk2 hp HCn.out)
      clear hp hk2 HG2 he
      go_wp2_with fail
      go_ret
      exact ⟨rfl, HD.out⟩
    | some G =>
      obtain ⟨q1, c1, rfl, h1, h2, h3, h4⟩ := (show ∃ q c, e = .returned (.tuple #[.slice q 64 c, .int .i64 0]) ∧ 64 ≤ c ∧ c ≤ maxLen ∧ SlU V q 64 G ∧ ∀ a, q = some a → (w.alloc (.cells #[.int .i64 1, .int .i64 (k : Int), .int .i64 n, .int .u8 z] 42)).heap.size ≤ a.block from hr)
      have HS := Lib.hid (And.intro h1 (And.intro h2 (And.intro h3 h4)))
      clear hr h1 h2 h3 h4
      go_wp2_with fail
      refine HG2.out.mono ?_
      rintro e U ⟨he, hp, hk2⟩
      obtain ⟨g, rfl, _, _, hsl⟩ := (show ∃ g, e = .returned (.tuple #[.slice (some ⟨g, 0, none⟩) 64 64, .int .i64 0]) ∧ (B.z ≤ g ∧ g ≠ B.q) ∧ g < U.heap.size ∧ SlU U (some ⟨g, 0, none⟩) 64 G from he)
      have hcv := conv_slU (HW.out.strL hk2 HS.out.2.2.1 fun a _ ha => HS.out.2.2.2 a ha) HS.out.1 HS.out.2.1
      have hcv2 := conv_slU (c := 64) hsl (by omega) (by unfold maxLen; omega)
      generalize strOfNums (lst G 64) = s1 at hcv hcv2
      have HD := Lib.hid (HW.out.done HO.out HLo.out HHk.out HHc.out hk2 hp HCn.out)
      clear hp hk2 HG2 he hsl
      go_wp2_with fail
      go_ret
      exact ⟨rfl, HD.out⟩
end Go.Proofs.Ytooamkicmmgniaa


