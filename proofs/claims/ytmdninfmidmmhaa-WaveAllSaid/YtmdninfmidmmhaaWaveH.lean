/- Package wave's contracts on lists of samples, third part: Sort. -/
import Derived.Test.YtmdninfmidmmhaaWaveG
namespace Go.Proofs.Ytmdninfmidmmhaa
set_option linter.unusedVariables false
set_option maxRecDepth 100000
open Go.RowKit Go.ChangeShapes Go.WideShapes

/-- A row of samples of the call's own, of which k are laid. -/
structure SrW (B : Nat) (W : World) (gs n k : Nat) (Z : Nat → Smp) : Prop where
  lt : gs < W.heap.size
  ge : B ≤ gs
  there : W.there gs 0 (n * 6)
  cell : ∀ i, i < k → ∀ f v, (Z i).cells[f]? = some v → W.cell? ⟨gs, i * 6 + f, none⟩ = some v
  ok : ∀ i, i < k → SmOk W (Z i)
  inx : ∀ i, i < k → (Z i).inX (fun q => gs < q)
theorem SrW.old {B : Nat} {W W' : World} {gs n k : Nat} {Z : Nat → Smp} (h : SrW B W gs n k Z) (o : Old W W') : SrW B W' gs n k Z where
  lt := Nat.lt_of_lt_of_le h.lt o.size
  ge := h.ge
  there := fun j hj => by
    have := h.there j hj
    exact ⟨by rw [o.cell (a := ⟨gs, 0 + j, none⟩) h.lt]; exact this.1, by rw [Kept.frozen o (a := ⟨gs, 0 + j, none⟩) h.lt]; exact this.2⟩
  cell := fun i hi f v hf => (o.cell (a := ⟨gs, i * 6 + f, none⟩) h.lt).trans (h.cell i hi f v hf)
  ok := fun i hi => (h.ok i hi).old o
  inx := h.inx
theorem smp_len (S : Smp) : S.cells.toList.length = 6 := rfl
theorem SrW.put {B : Nat} {W : World} {gs n k : Nat} {Z : Nat → Smp} (h : SrW B W gs n k Z) (hk : k < n) (S : Smp) (hok : SmOk W S) (hin : S.inX (fun q => gs < q)) :
    SrW B (W.setCells gs (k * 6) S.cells.toList) gs n (k + 1) (fun i => if i = k then S else Z i) where
  lt := by rw [setCells_size]; exact h.lt
  ge := h.ge
  there := World.there_setCells h.there _ _ _
  cell := fun i hi f v hf => by
    by_cases e : i = k
    · subst e
      rw [if_pos rfl] at hf
      have hf6 : f < 6 := by
        rcases Nat.lt_or_ge f 6 with h | h
        · exact h
        · rw [Array.getElem?_eq_none (by show 6 ≤ f; exact h)] at hf; cases hf
      have h1 := World.cell?_setCells_in gs S.cells.toList (i * 6) W (fun j hj => by
        have := (h.there (i * 6 + j) (by rw [smp_len] at hj; omega)).1
        rwa [Nat.zero_add] at this) f (by rw [smp_len]; exact hf6)
      rw [h1, ← hf]
      simp
    · rw [if_neg e] at hf
      rw [World.cell?_setCells_out gs S.cells.toList (k * 6) W ⟨gs, i * 6 + f, none⟩ (fun _ _ => ?_)]
      · exact h.cell i (by omega) f v hf
      · have hf6 : f < 6 := by
          rcases Nat.lt_or_ge f 6 with h | h
          · exact h
          · rw [Array.getElem?_eq_none (by show 6 ≤ f; exact h)] at hf; cases hf
        rw [smp_len]; show i * 6 + f < k * 6 ∨ k * 6 + 6 ≤ i * 6 + f; omega
  ok := fun i hi => by
    have hK : Kept (fun q => gs < q) W (W.setCells gs (k * 6) S.cells.toList) := Kept.setCells W (by omega) _ _
    by_cases e : i = k
    · rw [if_pos e]; exact hok.kept hK hin
    · rw [if_neg e]; exact (h.ok i (by omega)).kept hK (h.inx i (by omega))
  inx := fun i hi => by
    by_cases e : i = k
    · rw [if_pos e]; exact hin
    · rw [if_neg e]; exact h.inx i (by omega)
theorem Try.info_smp : (Try.prog.info? 24).map (fun i => (i.zero, i.size, i.bytes)) = some (some (.agg #[.string ⟨#[]⟩, .int .i64 0, .bool false, .int .i64 0, .int .i64 0, .slice none 0 0]), 6, 72) := by kernel_rfl
def zeroS : Array Value := #[.string ⟨#[]⟩, .int .i64 0, .bool false, .int .i64 0, .int .i64 0, .slice none 0 0]
/-- make([]api.Sample, n). -/
theorem make_smps (n : Nat) (hn : n ≤ 1099511627776) (w : World) : (Instr.makeSlice 38 (.int .i64 n) (.int .i64 n)).run Try.prog w = .ok (.slice (some ⟨w.heap.size, 0, none⟩) n n) (w.alloc (.cells (madeCells zeroS (n * 6)) 24)) := by
  obtain ⟨i, hi, hz0, hz1, hz2⟩ := info_parts Try.info_smp
  rw [run_make w _ _ i _ Try.underlying38 hi hz0 .i64 .i64 n n (by omega) (by omega) (by rw [hz2]; omega) (by omega), hz1, Int.toNat_natCast]
  rfl
theorem made_there (w : World) (m : Nat) (z : Array Value) (t : TypeId) : (w.alloc (.cells (madeCells z m) t)).there w.heap.size 0 m := fun j hj => by
  have hb : (w.alloc (.cells (madeCells z m) t)).heap[w.heap.size]? = some (.cells (madeCells z m) t (0, 0)) := heap_alloc_new _ _
  refine ⟨?_, frozen_of_row _ _ _ _ _ hb⟩
  rw [cell_of_row _ _ _ _ _ _ hb, Nat.zero_add, Array.getElem?_eq_getElem (by rw [size_madeCells]; exact hj)]
  rfl
set_option maxHeartbeats 8000000 in
theorem Sort_any (p : Option Addr) (n cp : Nat) (L : Nat → Smp) (w : World) (hs : SmsS w p n L) (hn : n ≤ 1048576) (hN : ∀ i, i < n → (L i).n ≤ 1048576) (hM : ∀ i, i < n → ∀ k, k < (L i).n → (L i).M k ≤ 1048576) :
    Calls Try.prog 16 #[.slice p n cp] w fun e w' => ∃ gs G Z, e = .returned (.slice (some ⟨gs, 0, none⟩) n n) ∧ SrtO (nameR (nmS L)) (fun j => (j : Int)) n G ∧ (∀ i, i < n → (Z i).s = (L (G i).toNat).s ∧ (Z i).r = (L (G i).toNat).r ∧ (Z i).len = (L (G i).toNat).len) ∧ SmsS w' (some ⟨gs, 0, none⟩) n Z ∧ Old w w' := by
  have hmk := make_smps n (by omega) w
  obtain ⟨W1, hW1⟩ : ∃ W1, W1 = w.alloc (.cells (madeCells zeroS (n * 6)) 24) := ⟨_, rfl⟩
  rw [← hW1] at hmk
  have ho1 : Old w W1 := by rw [hW1]; exact Old.alloc _ _
  have hsw : SrW w.heap.size W1 w.heap.size n 0 L := by
    refine ⟨by rw [hW1]; simp, Nat.le_refl _, by rw [hW1]; exact made_there _ _ _ _, fun i hi => by omega, fun i hi => by omega, fun i hi => by omega⟩
  have HB := Lib.hid (byName_any p n cp L W1 (hs.old ho1) hn)
  have H0 := Lib.hid hsw
  have HO := Lib.hid ho1
  have HS := Lib.hid hs
  have HNM := Lib.hid (And.intro hN hM)
  obtain ⟨gs, hgs⟩ : ∃ gs, gs = w.heap.size := ⟨_, rfl⟩
  rw [← hgs] at hmk H0
  have HG := Lib.hid hgs
  clear hsw ho1 hs hN hM hW1 hgs
  go_enter Try.func16, Try.ntmps16
  go_wp2_with fail
  refine HB.out.mono ?_
  rintro e w1 ⟨go, G, rfl, hsr, hc, hge, ho2⟩
  have HS1 := Lib.hid (H0.out.old ho2)
  have HO1 := Lib.hid (HO.out.trans ho2)
  have HSR := Lib.hid hsr
  have HC := Lib.hid hc
  have HGO0 : Hid (go ≠ gs) := Lib.hid (by have := H0.out.lt; omega)
  clear hmk HB H0 HO hsr hc hge ho2
  obtain ⟨wo, rfl⟩ : ∃ V, V = w1 := ⟨_, rfl⟩
  go_wp2_with fail
  have HGO : Hid (go ≠ gs) := HGO0
  have HK0 := Lib.hid (show Kept (butOf wo gs) wo wo from Kept.refl _ _)
  have HGL := Lib.hid HS1.out.lt
  go_loopw [12] (fun iv wr => ∃ (k : Nat) (Z : Nat → Smp), k ≤ n ∧ iv = .int .i64 k ∧ Hid (SrW gs wr gs n k Z) ∧ Hid (∀ i, i < k → (Z i).s = (L (G i).toNat).s ∧ (Z i).r = (L (G i).toNat).r ∧ (Z i).len = (L (G i).toNat).len) ∧ Hid (Kept (butOf wo gs) wo wr)) (fun i _ => n - (intOf i).toNat)
  case atStart => exact ⟨0, L, Nat.zero_le _, by go_num, HS1, Lib.hid fun i hi => by omega, HK0⟩
  case round =>
    clear HS1 HK0
    obtain ⟨k, Z, hk, rfl, HR, HZ, HK⟩ := hrel
    have HOW := Lib.hid (show Old w wr from HO1.out.after HK.out fun q hq => ⟨by have := HO1.out.size; omega, by have := HG.out; omega⟩)
    by_cases hkn : k < n
    · obtain ⟨m, hm, hGm⟩ := HSR.out.frm k hkn
      have ck := (HK.out.cell (a := ⟨go, k, none⟩) ⟨HC.out.lt, HGO.out⟩).trans (HC.out.cell k hkn)
      rw [hGm] at ck
      have hS := HS.out.old HOW.out
      obtain ⟨g, o, rfl, hg, hcs⟩ := hS.cell (by omega)
      have c0 : wr.cell? ⟨g, o + m * 6, none⟩ = some (.string (L m).s) := hcs m hm 0 _ rfl
      have c1 : wr.cell? ⟨g, o + m * 6 + 1, none⟩ = some (.int .i64 (L m).r) := hcs m hm 1 _ rfl
      have c2 : wr.cell? ⟨g, o + m * 6 + 2, none⟩ = some (.bool (L m).lp) := hcs m hm 2 _ rfl
      have c3 : wr.cell? ⟨g, o + m * 6 + 3, none⟩ = some (.int .i64 (L m).a) := hcs m hm 3 _ rfl
      have c4 : wr.cell? ⟨g, o + m * 6 + 4, none⟩ = some (.int .i64 (L m).b) := hcs m hm 4 _ rfl
      have c5 : wr.cell? ⟨g, o + m * 6 + 5, none⟩ = some (.slice (L m).p (L m).n (L m).c) := hcs m hm 5 _ rfl
      have HA := Lib.hid (apart_any (L m) wr (hS.ok m hm) (HNM.out.1 m hm) (HNM.out.2 m hm))
      have q0 : (0 : Int) ≤ m := by omega
      have q1 : (m : Int) < n := by omega
      have HGM : Hid ((G k).toNat = m) := Lib.hid (by rw [hGm]; simp)
      have Hs6 : Hid ((Try.prog.info? 24).map (·.size) = some 6) := Lib.hid (by kernel_rfl)
      clear hcs hS hg hGm
      unfold Smp.val Smp.cells at HA
      go_wp2_with fail
      refine HA.out.mono ?_
      rintro e w2 ⟨S', rfl, hok, hs1, hr1, hl1, ho2, hin⟩
      have hin' : S'.inX (fun q => gs < q) := hin.mono fun q hq => by
        have h1 := HR.out.lt
        exact Nat.lt_of_lt_of_le h1 hq
      have hR2 := HR.out.old ho2
      have HTH := Lib.hid (show w2.there gs (k * 6) 6 from fun j hj => by
        have := hR2.there (k * 6 + j) (by omega)
        rwa [Nat.zero_add] at this)
      have HP := Lib.hid (hR2.put hkn S' hok hin')
      have HZ2 := Lib.hid (show ∀ i, i < k + 1 → ((fun i => if i = k then S' else Z i) i).s = (L (G i).toNat).s ∧ ((fun i => if i = k then S' else Z i) i).r = (L (G i).toNat).r ∧ ((fun i => if i = k then S' else Z i) i).len = (L (G i).toNat).len from fun i hi => by
        by_cases e : i = k
        · subst e; simp only [if_true]; rw [HGM.out]; exact ⟨hs1, hr1, hl1⟩
        · simp only [if_neg e]; exact HZ.out i (by omega))
      have HK2 := Lib.hid (show Kept (butOf wo gs) wo (w2.setCells gs (k * 6) S'.cells.toList) from
        (HK.out.trans (ho2.kept fun q hq => Nat.lt_of_lt_of_le hq.1 HK.out.size)).trans (Kept.setCells (X := butOf wo gs) w2 (fun e => e.2 rfl) _ _))
      have H1 : Hid (S'.cells.all (·.oneCell') = true) := Lib.hid (by kernel_rfl)
      have H6 : Hid (S'.cells.size = 6) := Lib.hid rfl
      clear HR HA HZ HK hok hs1 hr1 hl1 ho2 hin hin' hR2 c0 c1 c2 c3 c4 c5 ck HOW
      generalize S'.cells = R at *
      go_wp2_with (with_reducible refine wpList_store_mid rfl 24 _ _ rfl gs (k * 6) R rfl rfl (by rw [H6.out]; exact HTH.out) (by rw [H6.out]; exact Hs6.out) H1.out ?_)
      go_roundw
      case rel => exact ⟨k + 1, _, by omega, by go_num, HP, HZ2, HK2⟩
      case measure => simp [intOf]; omega
    · obtain rfl : k = n := by omega
      have hend : ¬ ((k : Int) < (k : Int)) := by omega
      have HF := Lib.hid (show SmsS wr (some ⟨gs, 0, none⟩) k Z from ⟨fun _ => ⟨gs, 0, rfl, HR.out.lt, fun i hi f v hf => by rw [Nat.zero_add]; exact HR.out.cell i hi f v hf⟩, HR.out.ok⟩)
      clear HR HK
      go_wp2_with fail
      go_ret
      first | exact ⟨gs, G, Z, rfl, HSR.out, HZ.out, HF.out, HOW.out⟩ | exact ⟨gs, rfl, G, HSR.out, Z, HZ.out, HF.out, HOW.out⟩
end Go.Proofs.Ytmdninfmidmmhaa
