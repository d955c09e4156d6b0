/- Package disk, fifth part: Read. -/
import Derived.Test.YtooamkicmmgniaaDiskD
import Derived.RegionTactic
namespace Go.Proofs.Ytooamkicmmgniaa
set_option linter.unusedVariables false
set_option maxRecDepth 100000
open Go.RowKit Go.ChangeShapes Go.WideShapes

theorem Read_no (v : Value) (i : Int) (w : World) (h : NoDk w v) : Calls Try.prog 39 #[v, .int .i64 i] w fun e w' => e = .returned (.tuple #[.slice none 0 0, .int .i64 16]) ∧ w = w' := by
  have H := Lib.hid (refuse_no v i w h)
  clear h
  go_enter Try.func39, Try.ntmps39
  go_wp2_with fail
  refine H.out.mono ?_
  rintro e w' ⟨rfl, rfl⟩
  go_wp2
  go_ret2
  exact ⟨rfl, rfl⟩
theorem Read_out (b m : Nat) (p : Option Addr) (c : Nat) (d : Dsk) (i : Int) (w : World) (h : DkAt w b m p c d) (hi : noPg d i) : Calls Try.prog 39 #[.pointer (some ⟨b, 0, none⟩), .int .i64 i] w fun e w' => e = .returned (.tuple #[.slice none 0 0, .int .i64 5]) ∧ w = w' := by
  have H := Lib.hid (refuse_out b m p c d i w h hi)
  clear h hi
  go_enter Try.func39, Try.ntmps39
  go_wp2_with fail
  refine H.out.mono ?_
  rintro e w' ⟨rfl, rfl⟩
  go_wp2
  go_ret2
  exact ⟨rfl, rfl⟩

/-- One reading more, and one that failed. -/
def Dsk.more (d : Dsk) : Dsk := { d with r := wrap64 (d.r + 1) }
def Dsk.moref (d : Dsk) : Dsk := { d with f := wrap64 (d.f + 1) }
theorem DkAt.more {w : World} {b m c : Nat} {p : Option Addr} {d : Dsk} (h : DkAt w b m p c d) : DkAt (w.setCell ⟨b, 2, none⟩ (.int .i64 (wrap64 (d.r + 1)))) b m p c d.more := by
  have k : Kept (fun j => j ≠ b) w (w.setCell ⟨b, 2, none⟩ (.int .i64 (wrap64 (d.r + 1)))) := Kept.setCell w (a := ⟨b, 2, none⟩) (fun e => e rfl) _
  exact ⟨(heap_setCell_at h.blk).trans rfl, h.row.kept k (fun a hn ha => (h.apart a (by omega) ha).1), h.cap, h.map.kept k (fun e => h.ne e.symm), h.ne, h.apart, h.num, h.ok, h.byt⟩
theorem DkAt.moref {w : World} {b m c : Nat} {p : Option Addr} {d : Dsk} (h : DkAt w b m p c d) : DkAt (w.setCell ⟨b, 3, none⟩ (.int .i64 (wrap64 (d.f + 1)))) b m p c d.moref := by
  have k : Kept (fun j => j ≠ b) w (w.setCell ⟨b, 3, none⟩ (.int .i64 (wrap64 (d.f + 1)))) := Kept.setCell w (a := ⟨b, 3, none⟩) (fun e => e rfl) _
  exact ⟨(heap_setCell_at h.blk).trans rfl, h.row.kept k (fun a hn ha => (h.apart a (by omega) ha).1), h.cap, h.map.kept k (fun e => h.ne e.symm), h.ne, h.apart, h.num, h.ok, h.byt⟩
theorem butD_of {w w1 w2 : World} {b m : Nat} (h1 : Kept (fun j => j ≠ b) w w1) (h2 : Kept (fun j => j < w1.heap.size ∧ j ≠ m) w1 w2) : Kept (butD w b m) w w2 :=
  (h1.mono fun j hj => hj.2.1).trans (h2.mono fun j hj => ⟨Nat.lt_of_lt_of_le hj.1 h1.size, hj.2.2⟩)
/-- What a reading that fails leaves. -/
def Dsk.bad (d : Dsk) (k : Nat) : Dsk := ((d.more).failK k).moref
theorem Read_bad (b m : Nat) (p : Option Addr) (c : Nat) (d : Dsk) (k : Nat) (w : World) (h : DkAt w b m p c d) (hk : k < d.N) (hf : (d.F k).f ≠ 0) :
    Calls Try.prog 39 #[.pointer (some ⟨b, 0, none⟩), .int .i64 k] w fun e w' => e = .returned (.tuple #[.slice none 0 0, .int .i64 8]) ∧ DkAt w' b m p c (d.bad k) ∧ Kept (butD w b m) w w' := by
  have H := Lib.hid (refuse_ok b m p c d k w h hk)
  obtain ⟨c0, c1, c2, c3, f2, f3⟩ := h.cells
  have HC := Lib.hid (fails_any b m p c d.more k _ h.more hk)
  obtain ⟨r, hr⟩ : ∃ r, r = wrap64 (d.r + 1) := ⟨_, rfl⟩
  have e1 : wrap64 (d.r + 1) = r := hr.symm
  have hdec : decide ((d.more.F k).f ≠ 0) = true := by simp only [Dsk.more]; simp [hf]
  rw [hdec, ← hr] at HC
  have HK := Lib.hid (Kept.setCell (X := fun j => j ≠ b) w (a := ⟨b, 2, none⟩) (fun e => e rfl) (.int .i64 r))
  have HB : Hid (d.bad k = ((d.more).failK k).moref) := Lib.hid rfl
  rw [HB.out]
  obtain ⟨y, hy⟩ : ∃ y, y = (d.more).failK k := ⟨_, rfl⟩
  rw [← hy] at HC ⊢
  clear h HB hdec hr hf hk hy
  go_enter Try.func39, Try.ntmps39
  go_wp2_with fail
  refine H.out.mono ?_
  rintro e w' ⟨rfl, rfl⟩
  clear H
  go_wp2_with fail
  refine HC.out.mono ?_
  rintro e w2 ⟨rfl, hd, hk⟩
  obtain ⟨_, _, _, c3', _, f3'⟩ := hd.cells
  obtain ⟨q, hq⟩ : ∃ q, q = wrap64 (y.f + 1) := ⟨_, rfl⟩
  have e2 : wrap64 (y.f + 1) = q := hq.symm
  have HE : Hid (DkAt (w2.setCell ⟨b, 3, none⟩ (.int .i64 q)) b m p c y.moref ∧ Kept (butD w b m) w (w2.setCell ⟨b, 3, none⟩ (.int .i64 q))) := Lib.hid ⟨by rw [hq]; exact hd.moref, (butD_of HK.out hk).trans (Kept.setCell (X := butD w b m) w2 (a := ⟨b, 3, none⟩) (fun e => e.2.1 rfl) _)⟩
  clear hd hk hq HC
  go_wp2_with fail
  go_ret2
  exact ⟨rfl, HE.out⟩
/-- A page's bytes, with the one that is spoilt. -/
def xorB (u v : Int) : Int := bits .xor .u8 u v
def pageF (d : Dsk) (k : Nat) : Nat → Int := fun j => d.G (k * 64 + j)
def readF (d : Dsk) (k : Nat) : Nat → Int := fun j => if j = (d.F k).a.toNat then xorB (pageF d k j) (d.F k).x else pageF d k j
set_option maxHeartbeats 1000000 in
theorem Read_ok (b m : Nat) (p : Option Addr) (c : Nat) (d : Dsk) (k : Nat) (w : World) (h : DkAt w b m p c d) (hk : k < d.N) (hf : (d.F k).f = 0) :
    Calls Try.prog 39 #[.pointer (some ⟨b, 0, none⟩), .int .i64 k] w fun e w' => ∃ g, e = .returned (.tuple #[.slice (some ⟨g, 0, none⟩) 64 64, .int .i64 0]) ∧ w.heap.size ≤ g ∧ UAt w' g 64 (readF d k) ∧ DkAt w' b m p c d.more ∧ Kept (butD w b m) w w' := by
  have H := Lib.hid (refuse_ok b m p c d k w h hk)
  obtain ⟨c0, c1, c2, c3, f2, f3⟩ := h.cells
  have HC := Lib.hid (fails_any b m p c d.more k _ h.more hk)
  obtain ⟨r, hr⟩ : ∃ r, r = wrap64 (d.r + 1) := ⟨_, rfl⟩
  have e1 : wrap64 (d.r + 1) = r := hr.symm
  have hdec : decide ((d.more.F k).f ≠ 0) = false := by simp only [Dsk.more]; simp [hf]
  have hfk : d.more.failK k = d.more := by unfold Dsk.failK; rw [if_neg (by show ¬ 0 < (d.F k).f; omega)]
  rw [hdec, hfk, ← hr] at HC
  have HK := Lib.hid (Kept.setCell (X := fun j => j ≠ b) w (a := ⟨b, 2, none⟩) (fun e => e rfl) (.int .i64 r))
  have hn := h.num
  have HN := Lib.hid h.num
  have HKn := Lib.hid hk
  have hok := h.ok k hk
  have hN : d.more.N = d.N := rfl
  have HR : Hid (readF d k = fun j => if j = (d.F k).a.toNat then xorB (pageF d k j) (d.F k).x else pageF d k j) := Lib.hid rfl
  obtain ⟨y, hy⟩ : ∃ y, y = d.F k := ⟨_, rfl⟩
  have HY : Hid (d.more.F k = y) := Lib.hid hy.symm
  rw [HR.out]
  rw [← hy] at hok ⊢
  clear hy HR hfk hdec hf h
  obtain ⟨f, a, x⟩ := y
  obtain ⟨⟨hf1, hf2⟩, ⟨ha0, ha1⟩, hx0, hx1⟩ := hok
  dsimp only at hf1 hf2 ha0 ha1 hx0 hx1 ⊢
  obtain ⟨an, rfl⟩ : ∃ n : Nat, a = n := ⟨a.toNat, by omega⟩
  rw [Int.toNat_natCast]
  obtain ⟨N, hNe⟩ : ∃ N, N = d.N := ⟨_, rfl⟩
  obtain ⟨R, hR⟩ : ∃ R, R = rowN 64 (bU (pageF d k)) := ⟨_, rfl⟩
  have HRs := Lib.hid (show R.size = 64 by rw [hR]; exact rowN_size _ _)
  have HRe := Lib.hid hR
  have HR1 : Hid (R.all (·.oneCell') = true) := Lib.hid (by rw [hR]; simp [rowN, bU, Value.oneCell'])
  clear hr hR
  rw [← hNe] at c0
  go_enter Try.func39, Try.ntmps39
  go_wp2_with fail
  refine H.out.mono ?_
  rintro e w' ⟨rfl, rfl⟩
  clear H
  go_wp2_with fail
  refine HC.out.mono ?_
  rintro e w2 ⟨rfl, hd, hk2⟩
  obtain ⟨bp, o, hpe, hlt, hcell⟩ := hd.row (by rw [hN]; omega)
  subst hpe
  have HL := Lib.hid (show ∀ j, j < 64 → w2.cell? ⟨bp, o + k * 64 + j, none⟩ = some (.int .u8 (pageF d k j)) from fun j hj => by
    rw [show o + k * 64 + j = o + (k * 64 + j) by omega]
    exact hcell (k * 64 + j) (by rw [hN]; omega))
  have hd3 := hd.old (Old.alloc w2 (.cells R 75))
  have hl3 := hd3.map.look hk (by omega)
  rw [HY.out] at hl3
  unfold Flt.v at hl3
  dsimp only at hl3
  obtain ⟨c0', _, _, _, _, _⟩ := hd.cells
  obtain ⟨_, c1', _, _, _, _⟩ := hd3.cells
  rw [hN, ← hNe] at c0'
  have HD := Lib.hid (And.intro (hd3.old (Old.alloc _ (.cells #[.int .i64 f, .int .i64 an, .int .u8 x] 72))) (And.intro (butD_of HK.out hk2) (((Old.alloc w2 (.cells R 75))).alloc' (.cells #[.int .i64 f, .int .i64 an, .int .u8 x] 72))))
  have Hp := Lib.hid (heap_alloc_new w2 (.cells R 75))
  have hge : w.heap.size ≤ w2.heap.size := (butD_of HK.out hk2).size
  have HGe := Lib.hid hge
  have HDk := Lib.hid hd
  have HS0 : Hid ((Try.prog.info? 75).map (·.size) = some 64) := Lib.hid Try.page_size
  have hkN : (k : Int) < N := by omega
  clear hcell hd hd3 hk2 hn hge hlt HC hNe HK hN hk c1 c2 c3 f2 f3 c0 e1
  go_wp2_with (first
    | (with_reducible refine wpList_load_u8 rfl 64 (pageF d k) 75 _ rfl bp (o + k * 64) rfl _ HL.out Try.underlying75 rfl HS0.out ?_; rw [← HRe.out])
    | (with_reducible refine wpList_store_row rfl 75 _ _ rfl w2.heap.size R rfl rfl 75 _ (heap_alloc_new _ _) (by rw [HRs.out]; exact HS0.out) (by rw [HRs.out]; kernel_rfl) HR1.out ?_; rw [World.setRow_alloc_new]))
  have hp1 : ((w2.alloc (.cells R 75)).alloc (.cells #[.int .i64 f, .int .i64 an, .int .u8 x] 72)).heap[w2.heap.size]? = some (.cells R 75 (0, 0)) :=
    ((Old.alloc (w2.alloc (.cells R 75)) _).block _ (lt_of_block Hp.out)).trans Hp.out
  have hf1 := heap_alloc_new (w2.alloc (.cells R 75)) (.cells #[.int .i64 f, .int .i64 an, .int .u8 x] 72)
  rw [show (w2.alloc (.cells R 75)).heap.size = w2.heap.size + 1 by simp] at hf1
  have HD1 := HD.out
  generalize (w2.alloc (.cells R 75)).alloc (.cells #[.int .i64 f, .int .i64 an, .int .u8 x] 72) = W at *
  obtain ⟨e0, e1, e2, _, _, _⟩ := cell3 hf1
  rw [HRe.out] at hp1
  have hU := uAt_of hp1
  have ca : W.cell? ⟨w2.heap.size, an, none⟩ = some (.int .u8 (pageF d k an)) := hU.at_ an (by omega)
  have fa : W.frozen? ⟨w2.heap.size, an, none⟩ = false := hU.fz an (by omega)
  obtain ⟨u, hu⟩ : ∃ u, u = pageF d k an := ⟨_, rfl⟩
  obtain ⟨q, hq⟩ : ∃ q, q = xorB u x := ⟨_, rfl⟩
  have hq' : bits .xor .u8 u x = q := hq.symm
  have HEnd : Hid (UAt (W.drew.setCell ⟨w2.heap.size, an, none⟩ (.int .u8 q)) w2.heap.size 64 (fun j => if j = an then xorB (pageF d k j) x else pageF d k j) ∧ DkAt (W.drew.setCell ⟨w2.heap.size, an, none⟩ (.int .u8 q)) b m (some ⟨bp, o, none⟩) c d.more ∧ Kept (butD w b m) w (W.drew.setCell ⟨w2.heap.size, an, none⟩ (.int .u8 q))) := by
    have o1 : Old w2 (W.drew.setCell ⟨w2.heap.size, an, none⟩ (.int .u8 q)) := HD1.2.2.drew.after (Kept.setCell (X := fun j => j < w2.heap.size) _ (a := ⟨w2.heap.size, an, none⟩) (fun e => by have : w2.heap.size < w2.heap.size := e; omega) _) fun _ h => h
    refine ⟨UAt.ext (UAt.set hU.drew an (by omega) q) fun j hj => ?_, ?_, HD1.2.1.trans (o1.kept fun j hj => Nat.lt_of_lt_of_le hj.1 HGe.out)⟩
    · by_cases e : j = an
      · rw [if_pos e, if_pos e, hq, hu, e]
      · rw [if_neg e, if_neg e]
    · exact HDk.out.old o1
  rw [← hu] at ca
  have an0 : (0 : Int) ≤ an := by omega
  have an1 : (an : Int) < 64 := by omega
  obtain ⟨g, hg⟩ : ∃ g, g = w2.heap.size := ⟨_, rfl⟩
  rw [← hg] at e0 e1 e2 ca fa HEnd HGe ⊢
  have HQ := Lib.hid hq'
  have hxo : ∀ V, (binOp .xor 5 (.int .u8 u) (.int .u8 x)).run Try.prog V = .ok (.int .u8 q) V := fun V => by rw [← hq']; kernel_rfl
  clear hU hp1 hf1 HD1 HD hq hq' hu hg HL Hp
  refine wp_region_still_tail 8 (by kernel_rfl) (by kernel_rfl) ?_
  simp only [List.take_succ_cons, List.take_zero, List.drop_succ_cons, List.drop_zero]
  iterate 8 (with_reducible refine wpStill_step (fun K hK => ?_); go_simp; with_reducible refine hK _ ?_; clear hK K)
  with_reducible refine wpStill_nil ?_
  change wpList _ _ _ _ _ W.drew
  rw [← HQ.out] at HEnd
  go_wp2_with fail
  go_ret2
  exact ⟨g, rfl, HGe.out, HEnd.out⟩
end Go.Proofs.Ytooamkicmmgniaa
