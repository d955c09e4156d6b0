/- Numbers are laid together: contracts of (*bits.Writer).All and calliopelaw01.same. -/
import Derived.Test.YtbbjleblfhaclaaAwake
import Derived.Laws.BytesArg
namespace Go.Proofs.Ytbbjleblfhaclaa
set_option linter.unusedVariables false
open Go.RowKit

def putAll (s : List Bool × Int) (k : Int) (us : List Int) : List Bool × Int := us.foldl (fun s v => putTo s.1 s.2 (okPut v k) v k) s
theorem putAll_snoc (s : List Bool × Int) (k : Int) (us : List Int) (v : Int) : putAll s k (us ++ [v]) = putTo (putAll s k us).1 (putAll s k us).2 (okPut v k) v k := by
  simp [putAll]
theorem putTo_len (L : List Bool) (er : Int) (v k : Int) : (putTo L er (okPut v k) v k).1.length ≤ L.length + 57 := by
  unfold putTo
  split
  · simp
  · split
    · rename_i h
      simp only [okPut, decide_eq_true_eq] at h
      rw [List.length_append, length_bitsN]; omega
    · simp
theorem putAll_len (us : List Int) (s : List Bool × Int) (k : Int) : (putAll s k us).1.length ≤ s.1.length + 57 * us.length := by
  induction us generalizing s with
  | nil => simp [putAll]
  | cons u us ih =>
    have h1 := ih (putTo s.1 s.2 (okPut u k) u k)
    have h2 := putTo_len s.1 s.2 u k
    show (putAll (putTo s.1 s.2 (okPut u k) u k) k us).1.length ≤ _
    rw [List.length_cons]; omega

/-- After j numbers. -/
def AllR (w : World) (X : Nat → Prop) (b : Nat) (s : List Bool × Int) (k : Int) (us : List Int) (j : Nat) (wr : World) : Prop := WrAt wr X b (putAll s k (us.take j)).1 (putAll s k (us.take j)).2 ∧ Kept X w wr

theorem take_snoc (us : List Int) (j : Nat) (h : j < us.length) : us.take (j + 1) = us.take j ++ [us.getD j 0] := by
  rw [List.take_succ_eq_append_getElem h]
  simp [List.getD, List.getElem?_eq_getElem h]

theorem all_next (w : World) (X : Nat → Prop) (b : Nat) (s : List Bool × Int) (k : Int) (us : List Int) (j : Nat) (wr : World) (hj : j < us.length) (hs : s.1.length + 57 * us.length ≤ 4294967200) (hu : ∀ u ∈ us, 0 ≤ u ∧ u ≤ 18446744073709551615)
    (h : AllR w X b s k us j wr) :
    Calls Try.prog 29 #[.pointer (some ⟨b, 0, none⟩), .int .u64 (us.getD j 0), .int .i64 k] wr fun e w' => e = .returned (.tuple #[]) ∧ AllR w X b s k us (j + 1) w' := by
  have hm : us.getD j 0 ∈ us := by
    simp only [List.getD, List.getElem?_eq_getElem hj, Option.getD_some]; exact List.getElem_mem hj
  have hl := putAll_len (us.take j) s k
  have ht := List.length_take_le j us
  refine (Put_any X b (putAll s k (us.take j)).1 (putAll s k (us.take j)).2 (us.getD j 0) k wr ?_ (hu _ hm).1 (hu _ hm).2 h.1).mono ?_
  · rw [List.length_take] at hl; omega
  · rintro e w' ⟨rfl, h1, h2⟩
    refine ⟨rfl, ?_, h.2.trans h2⟩
    rw [take_snoc us j hj, putAll_snoc]
    exact h1

theorem All_any (X : Nat → Prop) (b : Nat) (s : List Bool × Int) (k : Int) (us : List Int) (v : Value) (w : World) (hs : s.1.length + 57 * us.length ≤ 4294967200) (hu : ∀ u ∈ us, 0 ≤ u ∧ u ≤ 18446744073709551615)
    (hv : SlI w .u64 v us) (hlow : ∀ c p l q, v = .slice (some ⟨c, p, none⟩) l q → us ≠ [] → X c) (h : WrAt w X b s.1 s.2) :
    Calls Try.prog 28 #[.pointer (some ⟨b, 0, none⟩), .int .i64 k, v] w fun e w' => e = .returned (.tuple #[]) ∧ WrAt w' X b (putAll s k us).1 (putAll s k us).2 ∧ Kept X w w' := by
  have hst : AllR w X b s k us 0 w := ⟨by simpa [putAll] using h, Kept.refl _ _⟩
  obtain ⟨p, cap, rfl, hc⟩ := hv
  by_cases hne : us = []
  · subst hne
    have HE := Lib.hid hst
    clear h hst hc hlow
    go_enter Try.func28, Try.ntmps28
    go_wp2_with fail
    refine wp_loop_rounds 1 ?_
    rw [rounds_succ]
    go_wp2_with fail
    go_end0
    exact ⟨rfl, HE.out⟩
  · obtain ⟨c, off, rfl, hcs, hlc, hcm, hcell⟩ := hc hne
    have hcb := hlow c off _ _ rfl hne
    have HC := Lib.hid hcell
    have HN := Lib.hid hne
    have HS := Lib.hid hs
    have HU := Lib.hid hu
    have HT := Lib.hid hst
    have hlen : us.length ≤ 4294967200 := by omega
    clear h hc hlow hcell hne hs hu hst
    go_enter Try.func28, Try.ntmps28
    go_wp2_with fail
    go_loopw [10] (fun i wr => ∃ j : Nat, j ≤ us.length ∧ i = .int .i64 j ∧ AllR w X b s k us j wr) (fun i _ => us.length - (intOf i).toNat)
    case atStart => exact ⟨0, by omega, rfl, HT.out⟩
    case round =>
      obtain ⟨j, hj, rfl, hall⟩ := hrel
      by_cases hlt : j < us.length
      · have hcj := (World.cell?_of_block (w := w) (w' := wr) (a := ⟨c, off + j, none⟩) (hall.2.block c hcb)).trans (HC.out j hlt)
        have HA := Lib.hid (all_next w X b s k us j wr hlt HS.out HU.out hall)
        clear hall
        generalize us.getD j 0 = u at hcj HA
        go_wp2_with fail
        refine HA.out.mono ?_
        rintro e w1 ⟨rfl, hl1⟩
        go_wp2
        go_roundw
        case rel => exact ⟨j + 1, by omega, by go_num, hl1⟩
        case measure => simp [intOf]; omega
      · have hend : WrAt wr X b (putAll s k us).1 (putAll s k us).2 ∧ Kept X w wr := by
          have := hall
          unfold AllR at this
          rw [List.take_of_length_le (by omega)] at this
          exact this
        have HE := Lib.hid hend
        clear hend hall
        go_wp2
        go_end0
        exact ⟨rfl, HE.out⟩

theorem bytes_zero {P : Program} (w : World) (src e : TypeId) (hs : P.underlying src = some (.slice e)) (he : P.underlying e = some (.int .u8)) (p : Option Addr) (c : Nat) :
    ∀ dst, P.underlying dst = some .string → (convert src dst (.slice p 0 c)).run P w = .ok (.string ByteArray.empty) w := by
  intro dst hd
  rw [run_convert_bytes_string w src dst e _ 0 c hs he hd]
  cases p <;> simp [Conv.bytesToString, loadCells]
  all_goals rfl

theorem conv_slI {w : World} {v : Value} {xs : List Int} (h : SlI w .u8 v xs) : ∀ dst, Try.prog.underlying dst = some .string → (convert 26 dst v).run Try.prog w = .ok (.string (strOfNums xs)) w := by
  obtain ⟨p, cap, rfl, h⟩ := h
  by_cases hne : xs = []
  · subst hne
    intro dst hd
    exact bytes_zero w 26 5 Try.underlying26 Try.underlying5 p cap dst hd
  · obtain ⟨b, off, rfl, _, _, _, hc⟩ := h hne
    exact run_convert_bytes_arg w 26 5 Try.underlying26 Try.underlying5 b off xs.length cap xs rfl hc

theorem same_any (u v : Value) (xs ys : List Int) (w : World) (hx : SlI w .u8 u xs) (hy : SlI w .u8 v ys) :
    Calls Try.prog 15 #[u, v] w fun e w' => e = .returned (.bool ((strOfNums xs).toList == (strOfNums ys).toList)) ∧ w = w' := by
  have h1 := conv_slI hx 9 Try.underlying9
  have h2 := conv_slI hy 9 Try.underlying9
  obtain ⟨p, cap, rfl, _⟩ := hx
  obtain ⟨q, cap', rfl, _⟩ := hy
  go_enter Try.func15, Try.ntmps15
  go_wp2
  go_ret
  exact ⟨rfl, rfl⟩

/-- The bytes that Bytes(size) answers. -/
def bytesL (L : List Bool) (er size : Int) : List Int := if bytesErr L er size = 0 then padded L size.toNat else []

theorem Bytes_any (X : Nat → Prop) (b : Nat) (L : List Bool) (er size : Int) (w : World) (h : WrAt w X b L er) :
    Calls Try.prog 13 #[.pointer (some ⟨b, 0, none⟩), .int .i64 size] w fun e w' => ∃ p n cap, e = .returned (.tuple #[.slice p n cap, .int .i64 (bytesErr L er size)]) ∧ n = (bytesL L er size).length ∧ SlI w' .u8 (.slice p n cap) (bytesL L er size) ∧ Old w w' := by
  by_cases he : bytesErr L er size = 0
  · have her : er = 0 := by
      unfold bytesErr at he
      by_cases h0 : er = 0
      · exact h0
      · rw [if_pos h0] at he; exact he
    subst her
    have hs : 0 ≤ size ∧ size ≤ 2147483647 ∧ (nb L : Int) ≤ size := by
      unfold bytesErr at he
      simp only [ne_eq, not_true_eq_false, if_false] at he
      by_cases h1 : size < 0 ∨ 2147483647 < size
      · rw [if_pos h1] at he; omega
      · rw [if_neg h1] at he
        by_cases h2 : size < nb L
        · rw [if_pos h2] at he; omega
        · omega
    obtain ⟨n, rfl⟩ := Int.eq_ofNat_of_zero_le hs.1
    have hbl : bytesL L 0 n = padded L n := by unfold bytesL; rw [if_pos he]; rfl
    rw [he, hbl]
    refine (Bytes_ok X b L n w h (by omega) (by omega)).mono ?_
    rintro e w' ⟨rfl, hh, hb⟩
    refine ⟨some ⟨w.heap.size, 0, none⟩, n, n, rfl, (length_padded L n).symm, ⟨_, _, by rw [length_padded], fun _ => ⟨w.heap.size, 0, rfl, lt_of_block hh, by rw [length_padded]; omega, by unfold maxLen; omega, fun i hi => ?_⟩⟩, Old.below hb⟩
    simp only [World.cell?, hh]
    rw [length_padded] at hi
    simp [padded, hi]
  · have hbl : bytesL L er size = [] := by unfold bytesL; rw [if_neg he]
    rw [hbl]
    refine (Bytes_err X b L er size w h he).mono ?_
    rintro e w' ⟨rfl, ha⟩
    exact ⟨none, 0, 0, rfl, rfl, ⟨none, 0, rfl, fun h => absurd rfl h⟩, (Old.refl w).alike ha⟩

end Go.Proofs.Ytbbjleblfhaclaa
