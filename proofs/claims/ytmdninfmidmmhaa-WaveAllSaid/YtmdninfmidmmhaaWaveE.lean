/- Package wave's contracts on lists of samples, first part: byName. -/
import Derived.Test.YtmdninfmidmmhaaSortG
import Derived.Test.YtmdninfmidmmhaaWaveB
namespace Go.Proofs.Ytmdninfmidmmhaa
set_option linter.unusedVariables false
set_option maxRecDepth 100000
open Go.RowKit Go.ChangeShapes Go.WideShapes

/-- A list of samples, to be read. -/
structure SmsS (w : World) (p : Option Addr) (n : Nat) (L : Nat → Smp) : Prop where
  cell : 0 < n → ∃ g o, p = some ⟨g, o, none⟩ ∧ g < w.heap.size ∧ ∀ i, i < n → ∀ f v, (L i).cells[f]? = some v → w.cell? ⟨g, o + i * 6 + f, none⟩ = some v
  ok : ∀ i, i < n → SmOk w (L i)
theorem SmsS.old {w w' : World} {p : Option Addr} {n : Nat} {L : Nat → Smp} (h : SmsS w p n L) (k : Old w w') : SmsS w' p n L where
  cell := fun hn => by
    obtain ⟨g, o, h1, h2, h3⟩ := h.cell hn
    exact ⟨g, o, h1, Nat.lt_of_lt_of_le h2 k.size, fun i hi f v hf => (k.cell (a := ⟨g, o + i * 6 + f, none⟩) h2).trans (h3 i hi f v hf)⟩
  ok := fun i hi => (h.ok i hi).old k
/-- The names of samples. -/
def nmS (L : Nat → Smp) (i : Nat) : ByteArray := (L i).s
theorem names_yes (L : Nat → Smp) (x y : Nat) (hxy : x < y) (h : Lib.compareBytes (nmS L y).data.toList (nmS L x).data.toList < 0) : nameR (nmS L) y x := .inl (by
    have := (cmpS_neg _ _).1 h
    rwa [Int.toNat_natCast, Int.toNat_natCast])
theorem names_no (L : Nat → Smp) (x y : Nat) (hxy : x < y) (h : ¬ Lib.compareBytes (nmS L y).data.toList (nmS L x).data.toList < 0) : nameR (nmS L) x y := .inr ⟨by
    rw [Int.toNat_natCast, Int.toNat_natCast]
    exact Bool.eq_false_iff.2 fun e => h ((cmpS_neg _ _).2 e), by omega⟩
theorem cmpE_names {w0 : World} {g b n cp gp o : Nat} {L : Nat → Smp} (hb : w0.cell? ⟨b, 0, none⟩ = some (.slice (some ⟨gp, o, none⟩) n cp)) (hk : ∀ i, i < n → w0.cell? ⟨gp, o + i * 6, none⟩ = some (.string (nmS L i))) (h1 : b < w0.heap.size) (h2 : b ≠ g) (h3 : gp < w0.heap.size) (h4 : gp ≠ g) :
    CmpE w0 g b n (fun x y => Lib.compareBytes (nmS L x).data.toList (nmS L y).data.toList) (nameR (nmS L)) where
  call := fun W hW x y hx hy => byName1_any (nmS L) none b n cp gp o x y W ((hW.cell (a := ⟨b, 0, none⟩) ⟨h1, h2⟩).trans hb) (fun i hi => (hW.cell (a := ⟨gp, o + i * 6, none⟩) ⟨h3, h4⟩).trans (hk i hi)) hx hy
  yes := names_yes L
  no := names_no L
  tr := nameR_tr _
theorem Try.info_int : (Try.prog.info? 3).map (fun i => (i.zero, i.size, i.bytes)) = some (some (.int .i64 0), 1, 8) := by kernel_rfl
theorem zero1i (n : Nat) : madeCells (Value.int .i64 0 : Value).cells n = rowN n (blk fun _ => 0) :=
  made_rowN n _ (by decide) (fun j hj => by
    have h1 : j < 1 := hj
    have h2 : j = 0 := by omega
    rw [h2]; rfl)
/-- make([]int, n). -/
theorem make_intsI (n : Nat) (hn : n ≤ 1099511627776) (w : World) : (Instr.makeSlice 31 (.int .i64 n) (.int .i64 n)).run Try.prog w = .ok (.slice (some ⟨w.heap.size, 0, none⟩) n n) (w.alloc (.cells (rowN n (blk fun _ => 0)) 3)) := by
  obtain ⟨i, hi, hz0, hz1, hz2⟩ := info_parts Try.info_int
  rw [run_make w _ _ i _ Try.underlying31 hi hz0 .i64 .i64 n n (by omega) (by omega) (by rw [hz2]; omega) (by omega), hz1, Int.toNat_natCast, Nat.mul_one, zero1i n]
/-- The places so far. -/
def idTo (k : Nat) : Nat → Int := fun j => if j < k then (j : Int) else 0
theorem idTo_step (k : Nat) : (fun j => if j = k then (k : Int) else idTo k j) = idTo (k + 1) := by
  funext j
  unfold idTo
  by_cases e : j = k
  · subst e; rw [if_pos rfl, if_pos (by omega)]
  · rw [if_neg e]
    by_cases h : j < k
    · rw [if_pos h, if_pos (by omega)]
    · rw [if_neg h, if_neg (by omega)]
set_option maxHeartbeats 4000000 in
theorem byName_any (p : Option Addr) (n cp : Nat) (L : Nat → Smp) (w : World) (hs : SmsS w p n L) (hn : n ≤ 1048576) :
    Calls Try.prog 22 #[.slice p n cp] w fun e w' => ∃ g G, e = .returned (.slice (some ⟨g, 0, none⟩) n n) ∧ SrtO (nameR (nmS L)) (fun j => (j : Int)) n G ∧ CellsAt w' g n G ∧ w.heap.size ≤ g ∧ Old w w' := by
  obtain ⟨W1, hW1⟩ : ∃ W1, W1 = w.alloc (.cells #[.slice p n cp] 38) := ⟨_, rfl⟩
  obtain ⟨b, hb⟩ : ∃ b, b = w.heap.size := ⟨_, rfl⟩
  have ho1 : Old w W1 := by rw [hW1]; exact Old.alloc _ _
  have hsz1 : W1.heap.size = b + 1 := by rw [hW1, hb]; exact World.size_alloc ..
  have cb : W1.cell? ⟨b, 0, none⟩ = some (.slice p n cp) := by
    rw [hW1, hb]
    exact (cell_of_row _ _ _ _ _ _ (heap_alloc_new _ _)).trans rfl
  have hmk := make_intsI n (by omega) W1
  rw [hsz1] at hmk
  obtain ⟨W2, hW2⟩ : ∃ W2, W2 = W1.alloc (.cells (rowN n (blk fun _ => 0)) 3) := ⟨_, rfl⟩
  rw [← hW2] at hmk
  have ho2 : Old W1 W2 := by rw [hW2]; exact Old.alloc _ _
  have hc2 : CellsAt W2 (b + 1) n (idTo 0) := by
    rw [hW2, ← hsz1]
    exact (cellsAt_new W1 n _ _).ext fun j _ => by unfold idTo; rw [if_neg (by omega)]
  have H0 := Lib.hid (show SrtW W2 (b + 1) n (idTo 0) W2 from ⟨hc2, Kept.refl _ _⟩)
  have HOW := Lib.hid (ho1.trans ho2)
  have hE : 0 < n → CmpE W2 (b + 1) b n (fun x y => Lib.compareBytes (nmS L x).data.toList (nmS L y).data.toList) (nameR (nmS L)) := fun h0 => by
    obtain ⟨gp, o, hp, hg, hc⟩ := hs.cell h0
    have hb2 : b < W2.heap.size := by have := ho2.size; omega
    refine cmpE_names (cp := cp) (gp := gp) (o := o) ?_ (fun i hi => ?_) hb2 (by omega) (Nat.lt_of_lt_of_le hg (HOW.out.size)) (by omega)
    · rw [← hp]
      exact (ho2.cell (a := ⟨b, 0, none⟩) (by show b < _; omega)).trans cb
    · have := hc i hi 0 (.string (L i).s) rfl
      exact (HOW.out.cell (a := ⟨gp, o + i * 6 + 0, none⟩) hg).trans this
  have HE := Lib.hid hE
  have HW := Lib.hid hW1
  have HB := Lib.hid hb
  have hcb2 := (ho2.cell (a := ⟨b, 0, none⟩) (by show b < _; omega)).trans cb
  clear hE ho1 ho2 hc2 hsz1 hW1 hW2 hs hb
  go_enter Try.func22, Try.ntmps22
  go_upto_region 1 with (fail)
  rw [← HW.out, ← HB.out]
  go_wp2_with fail
  clear hmk cb
  go_loopw [10] (fun iv wr => ∃ k : Nat, k ≤ n ∧ iv = .int .i64 k ∧ Hid (SrtW W2 (b + 1) n (idTo k) wr)) (fun i _ => n - (intOf i).toNat)
  case atStart => exact ⟨0, Nat.zero_le _, by go_num, H0⟩
  case round =>
    clear H0
    obtain ⟨k, hk, rfl, HS⟩ := hrel
    by_cases hkn : k < n
    · have c1 := HS.out.row.cell k hkn
      have f1 := HS.out.row.frz k hkn
      have HS2 := Lib.hid ((HS.out.set k hkn k).ext (idTo_step k))
      clear HS
      generalize idTo k k = u at *
      go_wp2_with fail
      go_roundw
      case rel => exact ⟨k + 1, by omega, by go_num, HS2⟩
      case measure => simp [intOf]; omega
    · obtain rfl : k = n := by omega
      have hF : RisAB (idTo k) k 0 k := ⟨fun j _ h => by unfold idTo; rw [if_pos h]; omega, fun i j _ h1 h2 => by unfold idTo; rw [if_pos (by omega), if_pos h2]; omega⟩
      have hsort : Calls Try.prog 26 #[.slice (some ⟨b + 1, 0, none⟩) k k, cmpV b] wr fun e w' => e = .returned (.tuple #[]) ∧ ∃ G, SrtO (nameR (nmS L)) (idTo k) k G ∧ SrtW W2 (b + 1) k G w' := by
        by_cases h0 : 0 < k
        · exact SortStableN_any (b + 1) b k k _ _ W2 (HE.out h0) (by omega) (idTo k) hF wr HS.out
        · obtain rfl : k = 0 := by omega
          exact SortStableN_any (b + 1) b 0 0 (fun x y => Lib.compareBytes (nmS L x).data.toList (nmS L y).data.toList) (nameR (nmS L)) W2 ⟨fun _ _ x y h => by omega, names_yes L, names_no L, nameR_tr _⟩ (by omega) (idTo 0) hF wr HS.out
      have HST := Lib.hid hsort
      clear hF hsort HS HE
      unfold cmpV at *
      go_wp2_with fail
      refine HST.out.mono ?_
      rintro e w1 ⟨rfl, G, h1, h2⟩
      have hsr : SrtO (nameR (nmS L)) (fun j => (j : Int)) k G := ⟨h1.ord, fun q hq => by
        obtain ⟨m, a1, a2⟩ := h1.frm q hq
        exact ⟨m, a1, by rw [a2]; unfold idTo; rw [if_pos a1]⟩, fun q hq => by
        obtain ⟨m, a1, a2⟩ := h1.all q hq
        exact ⟨m, a1, by rw [a2]; unfold idTo; rw [if_pos hq]⟩⟩
      have HSR := Lib.hid hsr
      have HC := Lib.hid h2.row
      have HO := Lib.hid (show Old w w1 from HOW.out.after h2.kept fun q hq => ⟨by have := HOW.out.size; omega, by have := HB.out; omega⟩)
      clear hsr h1 h2 HST
      go_wp2_with fail
      go_ret
      exact ⟨b + 1, G, rfl, HSR.out, HC.out, by have := HB.out; omega, HO.out⟩
end Go.Proofs.Ytmdninfmidmmhaa
