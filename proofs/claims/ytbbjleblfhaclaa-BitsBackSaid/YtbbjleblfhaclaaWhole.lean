/- The law's bits as bytes: contract of calliopelaw01.whole; an item is laid: contract of calliopelaw01.lay. -/
import Derived.Test.YtbbjleblfhaclaaItems
import Derived.StillTailTactics
namespace Go.Proofs.Ytbbjleblfhaclaa
set_option linter.unusedVariables false
open Go.RowKit

/-- After j bits: the block of the bytes. -/
def WholeR (w : World) (L : List Bool) (n j : Nat) (wr : World) : Prop := wr.heap[w.heap.size]? = some (.cells ((padded (L.take j) n).map (Value.int .u8)).toArray 5 (0, 0)) ∧ Old w wr

theorem take_len {α : Type} (L : List α) (j : Nat) (h : j ≤ L.length) : (L.take j).length = j := by rw [List.length_take]; omega
theorem bool_take (L : List Bool) (j : Nat) (h : j < L.length) : L.take (j + 1) = L.take j ++ [L.getD j false] := by
  rw [List.take_succ_eq_append_getElem h]
  simp [List.getD, List.getElem?_eq_getElem h]
theorem padded_same (L : List Bool) (n j : Nat) (h : j < L.length) (hb : L.getD j false = false) : padded (L.take (j + 1)) n = padded (L.take j) n := by
  rw [bool_take L j h, hb]
  apply List.ext_getElem?
  intro i
  simp only [padded, List.getElem?_map]
  by_cases hi : i < n
  · simp only [List.getElem?_range hi, Option.map_some]
    by_cases he : i = j / 8
    · have e := byteAt_snoc (L.take j) false
      rw [take_len L j (by omega), bi_f, Int.zero_mul, Int.add_zero] at e
      rw [he, e]
    · rw [byteAt_snoc_ne _ _ _ (by rw [take_len L j (by omega)]; exact he)]
  · simp [hi]
theorem padded_next (L : List Bool) (n j : Nat) (h : j < L.length) (hb : L.getD j false = true) : padded (L.take (j + 1)) n = (padded (L.take j) n).set (j / 8) (byteAt (L.take j) (j / 8) + pw (7 - j % 8)) := by
  rw [bool_take L j h, hb]
  apply List.ext_getElem?
  intro i
  rw [List.getElem?_set]
  simp only [padded, List.getElem?_map, List.length_map, List.length_range]
  by_cases hi : i < n
  · simp only [List.getElem?_range hi, Option.map_some]
    by_cases he : j / 8 = i
    · subst he
      have e := byteAt_snoc (L.take j) true
      rw [take_len L j (by omega), bi_t, Int.one_mul] at e
      rw [e]
      simp [hi, pw]
    · rw [byteAt_snoc_ne _ _ _ (by rw [take_len L j (by omega)]; omega), if_neg he]
  · by_cases he : j / 8 = i
    · subst he; simp [hi]
    · simp [hi, he]
theorem padded_at (L : List Bool) (n i : Nat) (h : i < n) : ((padded L n).map (Value.int .u8))[i]? = some (.int .u8 (byteAt L i)) := by simp [padded, h]
theorem byteAt_room (L : List Bool) (j : Nat) (h : j < L.length) : 0 ≤ byteAt (L.take j) (j / 8) ∧ byteAt (L.take j) (j / 8) + pw (7 - j % 8) ≤ 255 := by
  have e := byteAt_snoc (L.take j) true
  rw [take_len L j (by omega), bi_t, Int.one_mul] at e
  have h2 := byteAt_range (L.take j ++ [true]) (j / 8)
  have h3 := byteAt_range (L.take j) (j / 8)
  rw [e] at h2
  exact ⟨h3.1, h2.2⟩

theorem whole_set {w wr : World} {L : List Bool} {n j : Nat} (h : j < L.length) (hb : L.getD j false = true) (hw : WholeR w L n j wr) :
    WholeR w L n (j + 1) (wr.drew.setCell ⟨w.heap.size, j / 8, none⟩ (.int .u8 (byteAt (L.take j) (j / 8) + pw (7 - j % 8)))) := by
  refine ⟨?_, hw.2.drew.after (Kept.setCell _ (X := fun k => k < w.heap.size) (a := ⟨w.heap.size, j / 8, none⟩) (Nat.lt_irrefl _) _) (fun _ h => h)⟩
  rw [padded_next L n j h hb]
  have := heap_setCell_at (w := wr.drew) (o := j / 8) (u := .int .u8 (byteAt (L.take j) (j / 8) + pw (7 - j % 8))) hw.1
  rw [this]
  simp [List.map_set]
theorem whole_start (w : World) (L : List Bool) (n : Nat) : WholeR w L n 0 (w.alloc (.cells (madeCells #[Value.int .u8 0] n) 5)) := by
  refine ⟨?_, Old.below ((Below.refl _ _).alloc (Nat.le_refl _) _)⟩
  have e : ((padded (L.take 0) n).map (Value.int .u8)) = (madeCells #[Value.int .u8 0] n).toList := by
    rw [toList_madeCells_one]
    apply List.ext_getElem?
    intro i
    simp only [padded, List.take_zero, List.map_map, List.getElem?_map]
    by_cases hi : i < n
    · have h0 := byteAt_past [] i (by simp)
      simp [hi, h0]
    · simp [hi]
  rw [e]
  exact heap_alloc_new _ _

set_option maxHeartbeats 1000000 in
theorem whole_any (L : List Bool) (vb : Value) (n : Nat) (w : World) (hv : SlV w vb (L.map Value.bool)) (hn : n ≤ 1000) (hL : nb L ≤ n) :
    Calls Try.prog 16 #[vb, .int .i64 n] w fun e w' => e = .returned (.slice (some ⟨w.heap.size, 0, none⟩) n n) ∧ w'.heap[w.heap.size]? = some (.cells ((padded L n).map (Value.int .u8)).toArray 5 (0, 0)) ∧ Old w w' := by
  obtain ⟨p, m, cap, rfl, hm, hc⟩ := hv.shape
  rw [List.length_map] at hm
  have hmk := fun W => run_make_row' (P := Try.prog) 26 5 (.int .u8 0) 1 Try.underlying26 Try.info5 rfl .i64 .i64 n (by omega) (by omega) W
  have hst := whole_start w L n
  have hlen : m ≤ 8000 := by simp only [nb] at hL; omega
  have HM := Lib.hid hm; have HC := Lib.hid hc; have HST := Lib.hid hst
  clear hm hc hst hv
  go_enter Try.func16, Try.ntmps16
  go_wp2_with fail
  go_loopw [6] (fun vi wr => ∃ j : Nat, j ≤ m ∧ vi = .int .i64 j ∧ WholeR w L n j wr) (fun vi _ => m - (intOf vi).toNat)
  case atStart => exact ⟨0, by omega, rfl, HST.out⟩
  case round =>
    obtain ⟨j, hj, rfl, hwr⟩ := hrel
    by_cases hlt : j < m
    · obtain ⟨b, off, rfl, hb, hlc, hcm, hcell⟩ := HC.out (by omega)
      have hjL : j < L.length := by have := HM.out; omega
      have hcj : wr.cell? ⟨b, off + j, none⟩ = some (.bool (L.getD j false)) := (World.cell?_of_block (w := w) (w' := wr) (a := ⟨b, off + j, none⟩) (hwr.2.block b hb)).trans (hcell j _ (by simp [hjL]))
      have hjn : j / 8 < n := by simp only [nb] at hL; omega
      have hk : wr.cell? ⟨w.heap.size, j / 8, none⟩ = some (.int .u8 (byteAt (L.take j) (j / 8))) := by
        have := hwr.1
        simp only [World.cell?, this]
        simpa using padded_at (L.take j) n (j / 8) hjn
      have hf : wr.frozen? ⟨w.heap.size, j / 8, none⟩ = false := by simp [World.frozen?, hwr.1]
      cases hbit : L.getD j false with
      | false =>
        rw [hbit] at hcj
        have hnx : WholeR w L n (j + 1) wr := by
          have := hwr
          unfold WholeR at this ⊢
          rw [padded_same L n j hjL hbit]
          exact this
        have HN := Lib.hid hnx
        clear hnx hwr hbit hcell
        go_wp2_with fail
        go_roundw
        case rel => exact ⟨j + 1, by omega, by go_num, HN.out⟩
        case measure => simp [intOf]; omega
      | true =>
        rw [hbit] at hcj
        have hnx := whole_set hjL hbit hwr
        have HN := Lib.hid hnx
        have hroom := byteAt_room L j hjL
        have hcp := Lib.hid (fun w' => power_any (7 - (j : Int) % 8) w' (by omega) (by omega))
        rw [show (7 - (j : Int) % 8).toNat = 7 - j % 8 by omega] at hcp
        have hp := pw_pos (7 - j % 8)
        generalize byteAt (L.take j) (j / 8) = y at *
        generalize pw (7 - j % 8) = q at *
        obtain ⟨r0, r1⟩ := hroom
        clear hnx hwr hbit hcell
        go_wp2_with fail
        have x1 : IntKind.i64.wrap ((j : Int) / 8) = (j : Int) / 8 := IntWalk.i64_in _ (by omega)
        have x2 : 0 ≤ (j : Int) / 8 := by omega
        have x3 : ((j : Int) / 8).toNat = j / 8 := by omega
        have x4 : (j : Int) / 8 < n := by omega
        have x5 : (j : Int).tmod 8 = (j : Int) % 8 := Int.tmod_eq_emod_of_nonneg (by omega)
        have x6 : IntKind.i64.wrap (7 - (j : Int) % 8) = 7 - (j : Int) % 8 := IntWalk.i64_in _ (by omega)
        have x7 : IntKind.u8.wrap q = q := IntWalk.u8_in _ (by omega)
        have x8 : IntKind.u8.wrap (y + q) = y + q := IntWalk.u8_in _ (by omega)
        go_still_tail 15, (by kernel_rfl)
        still_call ((hcp.out _).mono fun _ _ hh => ⟨hh.1, hh.2.symm⟩)
        repeat still_step
        refine wpStill_nil ?_
        change wpList _ _ _ _ _ wr.drew
        have hk2 : wr.drew.cell? ⟨w.heap.size, j / 8, none⟩ = some (.int .u8 y) := hk
        have hf2 : wr.drew.frozen? ⟨w.heap.size, j / 8, none⟩ = false := hf
        go_wp2
        go_roundw
        case rel => exact ⟨j + 1, by omega, by go_num, HN.out⟩
        case measure => simp [intOf]; omega
    · have hend : WholeR w L n L.length wr := by
        have : j = L.length := by have := HM.out; omega
        rw [← this]; exact hwr
      have h1 := hend.1
      rw [List.take_of_length_le (Nat.le_refl _)] at h1
      have H1 := Lib.hid h1
      have H2 := Lib.hid hend.2
      clear hend h1 hwr
      go_wp2
      go_ret
      exact ⟨rfl, H1.out, H2.out⟩
end Go.Proofs.Ytbbjleblfhaclaa
