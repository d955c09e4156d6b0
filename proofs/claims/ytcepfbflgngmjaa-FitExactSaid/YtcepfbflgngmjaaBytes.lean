/- What was laid, as bytes: contract of (*bits.Writer).Bytes. -/
import Derived.Test.YtcepfbflgngmjaaLay
import Derived.Laws.CopyOwn
import Derived.Deep.QuietTactic
import Derived.BigQuiet
namespace Go.Proofs.Ytcepfbflgngmjaa
set_option linter.unusedVariables false
set_option maxRecDepth 100000
open Go.RowKit Go.ChangeShapes Go.WideShapes

def padded (L : List Bool) (n : Nat) : List Int := (List.range n).map (byteAt L)
theorem length_padded (L : List Bool) (n : Nat) : (padded L n).length = n := by simp [padded]
theorem splice_padded (L : List Bool) (n : Nat) (h : nb L ≤ n) : splice (List.replicate n (Value.int .u8 0)) 0 ((bytesOf L).map (Value.int .u8)) = (padded L n).map (Value.int .u8) := by
  apply List.ext_getElem?
  intro i
  simp only [splice, List.take_zero, List.nil_append, Nat.zero_add, List.length_map, length_bytesOf]
  by_cases hi : i < nb L
  · rw [List.getElem?_append_left (by simpa [length_bytesOf] using hi), List.getElem?_map, List.getElem?_map, getElem?_bytesOf L i hi]
    simp [padded, show i < n by omega]
  · rw [List.getElem?_append_right (by simp [length_bytesOf]; omega), List.getElem?_map]
    simp only [List.length_map, length_bytesOf, List.getElem?_drop, padded, List.getElem?_map]
    by_cases hn : i < n
    · have e := byteAt_past L i (by simp only [nb] at hi; omega)
      simp [show nb L + (i - nb L) = i by omega, hn, e]
    · simp [show nb L + (i - nb L) = i by omega, hn]

theorem src_cells {w : World} {X : Nat → Prop} {L : List Bool} {v : Value} (o : Obj) (hown : ownX X w 5 v (nb L) ((bytesOf L).map (Value.int .u8))) :
    ∃ sp sc, v = .slice sp (nb L) sc ∧ (0 < nb L → ∃ ad, sp = some ad ∧ ∀ j u, ((bytesOf L).map (Value.int .u8))[j]? = some u → (w.alloc o).cell? (ad.add j) = some u) := by
  rcases (hown.old (Old.alloc w o)).shape with ⟨hv, h0⟩ | ⟨g, cap, rfl, _, _, _, _, hc⟩
  · exact ⟨none, 0, by rw [hv, h0], fun h => by omega⟩
  · exact ⟨some ⟨g, 0, none⟩, cap, rfl, fun _ => ⟨_, rfl, fun j u hj => by rw [add_plain, Nat.zero_add]; exact hc j u hj⟩⟩

/-- The result of Bytes(size). -/
def bytesErr (L : List Bool) (er size : Int) : Int := if er ≠ 0 then er else if size < 0 ∨ 2147483647 < size then 1 else if size < nb L then 3 else 0

set_option maxHeartbeats 400000 in
theorem Bytes_err (X : Nat → Prop) (b : Nat) (L : List Bool) (er size : Int) (w : World) (h : WrAt w X b L er) (he : bytesErr L er size ≠ 0) :
    Calls Try.prog 38 #[.pointer (some ⟨b, 0, none⟩), .int .i64 size] w fun e w' => e = .returned (.tuple #[.slice none 0 0, .int .i64 (bytesErr L er size)]) ∧ w'.Alike w := by
  obtain ⟨hXb, hX, v0, hblk, hown⟩ := h
  obtain ⟨sp, sc, rfl, _⟩ := src_cells (.cells #[] 0) hown
  obtain ⟨c0, c1, c2, f0, f1, f2⟩ := cell3 hblk
  clear hblk hown hX
  unfold bytesErr at he ⊢
  by_cases her : er = 0
  · subst her
    simp only [ne_eq, not_true_eq_false, if_false] at he ⊢
    by_cases hs : size < 0 ∨ 2147483647 < size
    · rw [if_pos hs]
      clear he
      rcases hs with hs | hs
      · go_enter Try.func38, Try.ntmps38
        go_wp2
        go_ret2
        exact ⟨rfl, rfl, rfl, rfl⟩
      · go_enter Try.func38, Try.ntmps38
        go_wp2
        go_ret2
        exact ⟨rfl, rfl, rfl, rfl⟩
    · rw [if_neg hs] at he ⊢
      have hlt : size < nb L := by
        by_cases h : size < nb L
        · exact h
        · rw [if_neg h] at he; exact absurd rfl he
      rw [if_pos hlt]
      clear he
      have h1 : 0 ≤ size := by omega
      have h2 : size ≤ 2147483647 := by omega
      go_enter Try.func38, Try.ntmps38
      go_wp2
      go_ret2
      exact ⟨rfl, rfl, rfl, rfl⟩
  · have hne : (er != 0) = true := by simpa using her
    rw [if_pos her]
    clear he
    go_enter Try.func38, Try.ntmps38
    go_wp2
    go_region
    go_wp2
    go_ret2
    exact ⟨rfl, rfl, rfl, rfl⟩

theorem Try.size5 : (Try.prog.info? 5).map (·.size) = some 1 := by kernel_rfl
theorem bytes_oneCell (l : List Int) : ∀ v ∈ l.map (Value.int .u8), v.oneCell' = true := by
  intro v hv
  obtain ⟨x, _, rfl⟩ := List.mem_map.1 hv
  rfl

set_option maxHeartbeats 400000 in
theorem Bytes_ok (X : Nat → Prop) (b : Nat) (L : List Bool) (n : Nat) (w : World) (h : WrAt w X b L 0) (hn : n ≤ 2147483647) (hL : nb L ≤ n) :
    Calls Try.prog 38 #[.pointer (some ⟨b, 0, none⟩), .int .i64 n] w fun e w' => e = .returned (.tuple #[.slice (some ⟨w.heap.size, 0, none⟩) n n, .int .i64 0]) ∧
      w'.heap[w.heap.size]? = some (.cells ((padded L n).map (Value.int .u8)).toArray 5 (0, 0)) ∧ Below w.heap.size w w' := by
  obtain ⟨hXb, hX, v0, hblk, hown⟩ := h
  obtain ⟨sp, sc, rfl, hsrc⟩ := src_cells (.cells (madeCells #[Value.int .u8 0] n) 5) hown
  obtain ⟨c0, c1, c2, f0, f1, f2⟩ := cell3 hblk
  have hmk := fun W => run_make_row' (P := Try.prog) 40 5 (.int .u8 0) 1 Try.underlying40 Try.info5 rfl .i64 .i64 n (by omega) (by omega) W
  have hnew : Hid ((w.alloc (.cells (madeCells #[Value.int .u8 0] n) 5)).heap[w.heap.size]? = some (.cells (List.replicate n (Value.int .u8 0)).toArray 5 (0, 0))) := by
    unfold Hid
    rw [← toList_madeCells_one]
    exact heap_alloc_new _ _
  have hblt : b < w.heap.size := lt_of_block hblk
  have hq2 : Hid (((bytesOf L).map (Value.int .u8)).length = Nat.min (nb L) n) := by unfold Hid; rw [List.length_map, length_bytesOf]; exact (Nat.min_eq_left hL).symm
  have hq3 : Hid (0 < ((bytesOf L).map (Value.int .u8)).length → some (⟨w.heap.size, 0, none⟩ : Addr) = some ⟨w.heap.size, 0, none⟩ ∧ ∃ ad, sp = some ad ∧ ∀ j u, ((bytesOf L).map (Value.int .u8))[j]? = some u → (w.alloc (.cells (madeCells #[Value.int .u8 0] n) 5)).cell? (ad.add j) = some u) :=
    fun h => ⟨rfl, hsrc (by simpa [length_bytesOf] using h)⟩
  have hq4 : Hid (0 + ((bytesOf L).map (Value.int .u8)).length ≤ (List.replicate n (Value.int .u8 0)).length) := by unfold Hid; simp [length_bytesOf]; omega
  have hq6 : Hid (Below w.heap.size w (w.alloc (.cells (madeCells #[Value.int .u8 0] n) 5))) := (Below.refl _ _).alloc (Nat.le_refl _) _
  clear hblk hown hsrc hX
  go_enter Try.func38, Try.ntmps38
  go_wp2_with (with_reducible refine wpList_copy_splice rfl _ _ 40 40 rfl 5 Try.underlying40 Try.size5 _ _ _ _ _ _ rfl rfl w.heap.size 0 _ 5 hnew.out ((bytesOf L).map (Value.int .u8)) hq2.out hq3.out hq4.out (bytes_oneCell _) w.heap.size w hq6.out (Nat.le_refl _) ?_; intro w1 h1 hb1)
  go_ret2
  rw [splice_padded L n hL] at h1
  exact ⟨rfl, h1.out, hb1⟩
end Go.Proofs.Ytcepfbflgngmjaa
