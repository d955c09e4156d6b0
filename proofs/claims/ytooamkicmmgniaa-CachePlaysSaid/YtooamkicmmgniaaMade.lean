/- The law's made; a cache and its disk that it made, and what is told of them. -/
import Derived.Test.YtooamkicmmgniaaCacheH
namespace Go.Proofs.Ytooamkicmmgniaa
set_option linter.unusedVariables false
set_option maxRecDepth 100000
open Go.RowKit Go.ChangeShapes Go.WideShapes

/-- A cache and its disk, made behind lo: the disk's map is dm, the cache's slots z0. -/
def CD (W : World) (lo z0 dm N : Nat) (c : Cch) (d : Dsk) : Prop := ∃ p, CkAt W z0 (z0 + 3) (z0 + 2) (z0 + 2) z0 (z0 + 1) (dm + 1) dm p N N c d ∧ lo ≤ dm ∧ lo ≤ z0
def butCD (W : World) (z0 dm : Nat) : Nat → Prop := butK W (z0 + 2) z0 (z0 + 1) (dm + 1) dm
theorem butCD_lo {W V : World} {lo z0 dm : Nat} (h : Kept (butCD W z0 dm) W V) (h1 : lo ≤ dm) (h2 : lo ≤ z0) (h3 : lo ≤ W.heap.size) : Kept (fun q => q < lo) W V :=
  h.mono fun q hq => ⟨by omega, by omega, by omega, by omega, by omega, by omega⟩
namespace CD
variable {W V : World} {lo z0 dm N : Nat} {c : Cch} {d : Dsk}
theorem old (h : CD W lo z0 dm N c d) (k : Old W V) : CD V lo z0 dm N c d := by
  obtain ⟨p, h1, h2⟩ := h
  exact ⟨p, h1.old k, h2⟩
theorem size (h : CD W lo z0 dm N c d) : lo ≤ W.heap.size ∧ z0 + 3 ≤ W.heap.size := by
  obtain ⟨p, h1, h2, h3⟩ := h
  have := h1.hi
  omega
/-- Blocks below the cache's first are kept. -/
theorem keep (h : CD W lo z0 dm N c d) (k : Kept (butCD W z0 dm) W V) : Kept (fun q => q < lo) W V := by
  have hs := h.size
  obtain ⟨p, h1, h2, h3⟩ := h
  exact butCD_lo k h2 h3 hs.1
theorem cN (h : CD W lo z0 dm N c d) : N ≤ 65536 ∧ d.N = N ∧ 0 < c.n ∧ c.n ≤ 1024 := by
  obtain ⟨p, h1, _⟩ := h
  exact ⟨h1.cc.num.2.2.2.2, h1.nN, h1.cc.num.1, h1.cc.num.2.1⟩
theorem Get (h : CD W lo z0 dm N c d) {k : Nat} (hk : k < N) : Calls Try.prog 18 #[.pointer (some ⟨z0 + 2, 0, none⟩), .int .i64 (k : Int)] W fun e V =>
    GetRes W.heap.size V (takeR c d k).r e ∧ CD V lo z0 dm N (takeR c d k).c (takeR c d k).d ∧ Kept (butCD W z0 dm) W V := by
  obtain ⟨p, h1, h2⟩ := h
  refine (cGet_any _ _ _ _ _ _ _ _ _ _ _ k c d W h1 hk (by have := h1.hi; omega)).mono ?_
  rintro e V ⟨r1, r2, r3⟩
  exact ⟨r1, ⟨p, r2, h2⟩, r3⟩
theorem GetOut (h : CD W lo z0 dm N c d) {i : Int} (hi : i < 0 ∨ (N : Int) ≤ i) : Calls Try.prog 18 #[.pointer (some ⟨z0 + 2, 0, none⟩), .int .i64 i] W fun e V => e = .returned (.tuple #[.slice none 0 0, .int .i64 5]) ∧ W = V := by
  obtain ⟨p, h1, h2⟩ := h
  exact cGet_out _ _ _ _ _ _ _ _ _ _ _ i c d W h1 hi
theorem Span (h : CD W lo z0 dm N c d) {at_ n : Nat} (hn : at_ + n ≤ 64 * N) : Calls Try.prog 16 #[.pointer (some ⟨z0 + 2, 0, none⟩), .int .i64 (at_ : Int), .int .i64 (n : Int)] W fun e V =>
    SpanRes W.heap.size V n (spanR c d at_ n).r e ∧ CD V lo z0 dm N (spanR c d at_ n).c (spanR c d at_ n).d ∧ Kept (butCD W z0 dm) W V := by
  obtain ⟨p, h1, h2⟩ := h
  refine (cSpan_any _ _ _ _ _ _ _ _ _ _ _ at_ n c d W h1 hn (by omega)).mono ?_
  rintro e V ⟨r1, r2, r3⟩
  exact ⟨r1, ⟨p, r2, h2⟩, r3⟩
theorem SpanOut (h : CD W lo z0 dm N c d) {at_ n : Int} (hi : at_ < 0 ∨ n < 0 ∨ 64 * (N : Int) - at_ < n) (h63 : at_ ≤ 9223372036854775807) : Calls Try.prog 16 #[.pointer (some ⟨z0 + 2, 0, none⟩), .int .i64 at_, .int .i64 n] W fun e V => e = .returned (.tuple #[.slice none 0 0, .int .i64 5]) ∧ W = V := by
  obtain ⟨p, h1, h2⟩ := h
  exact cSpan_out _ _ _ _ _ _ _ _ _ _ _ at_ n c d W h1 hi h63
theorem withC (h : CD W lo z0 dm N c d) {c' : Cch} {X : Nat → Prop} (k : Kept X W V) (hX : ∀ q, q < z0 → q < W.heap.size → X q) (hc : CcAt V z0 (z0 + 3) (z0 + 2) (z0 + 2) z0 (z0 + 1) (dm + 1) N c') : CD V lo z0 dm N c' d := by
  obtain ⟨p, h1, h2⟩ := h
  exact ⟨p, h1.cacheT k hX hc, h2⟩
theorem Evict (h : CD W lo z0 dm N c d) {i : Int} (hi : -9223372036854775808 ≤ i ∧ i ≤ 9223372036854775807) : Calls Try.prog 14 #[.pointer (some ⟨z0 + 2, 0, none⟩), .int .i64 i] W fun e V =>
    e = .returned (.bool (fndI c i).isSome) ∧ CD V lo z0 dm N (c.evict i) d ∧ Kept (butCD W z0 dm) W V := by
  have hh := h
  obtain ⟨p, h1, h2⟩ := h
  refine (cEvict_any _ _ _ _ _ _ _ _ c i W h1.cc hi).mono ?_
  rintro e V ⟨r1, r2, r3⟩
  exact ⟨r1, hh.withC r3 (fun q hq hq2 => ⟨hq2, by omega, by omega⟩) r2, r3.mono fun q hq => ⟨hq.1, hq.2.2.1, hq.2.2.2.1⟩⟩
theorem Empty (h : CD W lo z0 dm N c d) : Calls Try.prog 15 #[.pointer (some ⟨z0 + 2, 0, none⟩)] W fun e V =>
    e = .returned (.tuple #[]) ∧ CD V lo z0 dm N c.empty d ∧ Kept (butCD W z0 dm) W V := by
  have hh := h
  obtain ⟨p, h1, h2⟩ := h
  refine (cEmpty_any _ _ _ _ _ _ _ _ c W h1.cc).mono ?_
  rintro e V ⟨r1, r2, r3⟩
  exact ⟨r1, hh.withC r3 (fun q hq hq2 => ⟨hq2, by omega, by omega⟩) r2, r3.mono fun q hq => ⟨hq.1, hq.2.2.1, hq.2.2.2.1⟩⟩
theorem Told (h : CD W lo z0 dm N c d) : Calls Try.prog 11 #[.pointer (some ⟨z0 + 2, 0, none⟩)] W fun e V => e = .returned (statV c) ∧ Old W V := by
  obtain ⟨p, h1, h2⟩ := h
  exact cTold_at _ _ _ _ _ _ _ _ c W h1.cc
theorem Pages (h : CD W lo z0 dm N c d) : Calls Try.prog 13 #[.pointer (some ⟨z0 + 2, 0, none⟩)] W fun e V => e = .returned (.slice (some ⟨W.heap.size, 0, none⟩) c.n c.n) ∧ CellsAt V W.heap.size c.n (pgV c.S) ∧ Old W V := by
  obtain ⟨p, h1, h2⟩ := h
  exact cPages_any _ _ _ _ _ _ _ _ c W h1.cc
end CD

set_option maxHeartbeats 1000000 in
theorem made_ok (p : Option Addr) (n cap : Nat) (F : Nat → Int) (sl rt : Nat) (w : World) (hs : SlU w p n F) (hb : Byt F n) (hn : n ≤ 4194304) (hc : n ≤ cap) (h1 : 1 ≤ sl) (h2 : sl ≤ 1024) (h3 : rt ≤ 8) :
    Calls Try.prog 8 #[.slice p n cap, .int .i64 (sl : Int), .int .i64 (rt : Int)] w fun e w' => ∃ z0 dm, e = .returned (.tuple #[.pointer (some ⟨dm + 1, 0, none⟩), .pointer (some ⟨z0 + 2, 0, none⟩)]) ∧
      CD w' w.heap.size z0 dm (pgs n) (cc0 sl rt) (dk0 n F) ∧ w'.heap.size = z0 + 3 ∧ Old w w' := by
  have HN := Lib.hid (DNew_ok p n cap F w hs hn hc hb)
  have hpg : pgs n ≤ 65536 := by unfold pgs; omega
  have HP := Lib.hid hpg
  clear hs hb hpg
  go_enter Try.func8, Try.ntmps8
  go_wp2_with fail
  refine HN.out.mono ?_
  rintro e w1 ⟨dm, rfl, hlt, hd, ho⟩
  have HC := Lib.hid (cNew_ok (dm + 1) sl rt (pgs n) w1 h1 h2 h3 HP.out)
  have HE : Hid (∀ w2, w2.heap.size = w1.heap.size + 3 → CcAt w2 w1.heap.size (w1.heap.size + 3) (w1.heap.size + 2) (w1.heap.size + 2) w1.heap.size (w1.heap.size + 1) (dm + 1) (pgs n) (cc0 sl rt) → Old w1 w2 →
      CD w2 w.heap.size w1.heap.size dm (pgs n) (cc0 sl rt) (dk0 n F) ∧ w2.heap.size = w1.heap.size + 3 ∧ Old w w2) := by
    intro w2 q1 q2 q3
    refine ⟨⟨_, ⟨q2, hd.old q3, rfl, ⟨hd.ltb, hd.map.lt, fun a hn' ha => hd.plt a hn' ha⟩, by omega⟩, by omega, ho.size⟩, q1, ho.trans q3⟩
  clear hlt hd ho HN
  go_wp2_with fail
  refine HC.out.mono ?_
  rintro e w2 ⟨rfl, q1, q2, q3⟩
  have HF := Lib.hid (HE.out w2 q1 q2 q3)
  clear q1 q2 q3 HC HE
  go_wp2_with fail
  go_ret2
  exact ⟨_, _, rfl, HF.out⟩
theorem made_bad (p : Option Addr) (n cap : Nat) (F : Nat → Int) (sl rt : Int) (w : World) (hs : SlU w p n F) (hb : Byt F n) (hn : n ≤ 4194304) (hc : n ≤ cap) (h : sl < 1 ∨ 1024 < sl ∨ rt < 0 ∨ 8 < rt) :
    Calls Try.prog 8 #[.slice p n cap, .int .i64 sl, .int .i64 rt] w fun e w' => e = .returned (.tuple #[.pointer none, .pointer none]) ∧ Old w w' := by
  have HN := Lib.hid (DNew_ok p n cap F w hs hn hc hb)
  clear hs hb
  go_enter Try.func8, Try.ntmps8
  go_wp2_with fail
  refine HN.out.mono ?_
  rintro e w1 ⟨dm, rfl, _, _, ho⟩
  have HO := Lib.hid ho
  have HC := Lib.hid (cNew_bad (dm + 1) sl rt w1 h)
  clear ho HN h
  go_wp2_with fail
  refine HC.out.mono ?_
  rintro e w2 ⟨rfl, rfl⟩
  go_wp2_with fail
  go_ret2
  exact ⟨rfl, HO.out⟩
end Go.Proofs.Ytooamkicmmgniaa
