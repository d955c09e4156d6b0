/- Sums of parts: contracts of crc.Parts, crc.Sum and the chapter's example. -/
import Derived.Test.YtbnenkmkkookdaaGoOn
namespace Go.Proofs.Ytbnenkmkkookdaa
set_option linter.unusedVariables false
open Go.RowKit

theorem SlI.shape {w : World} {k : IntKind} {v : Value} {xs : List Int} (h : SlI w k v xs) : ∃ p n cap, v = .slice p n cap ∧ n = xs.length ∧ n ≤ 9223372036854775807 := by
  obtain ⟨p, cap, rfl, hc⟩ := h
  refine ⟨p, _, cap, rfl, rfl, ?_⟩
  by_cases he : xs = []
  · subst he; simp
  · obtain ⟨b, off, _, _, hl, hm, _⟩ := hc he
    unfold maxLen at hm; omega

/-- The slice v reads as these rows of bytes. -/
def SlR (w : World) (v : Value) (xss : List (List Int)) : Prop :=
  ∃ vals, SlV w v vals ∧ vals.length = xss.length ∧ ∀ i u, vals[i]? = some u → SlI w .u8 u (xss.getD i [])
theorem SlR.old {w w' : World} {v : Value} {xss : List (List Int)} (h : SlR w v xss) (ho : Old w w') : SlR w' v xss := by
  obtain ⟨vals, h1, h2, h3⟩ := h
  exact ⟨vals, h1.old ho, h2, fun i u hi => (h3 i u hi).old ho⟩
theorem SlR.shape {w : World} {v : Value} {xss : List (List Int)} (h : SlR w v xss) : ∃ p n cap, v = .slice p n cap ∧ n = xss.length ∧ n ≤ 9223372036854775807 ∧ (0 < n → ∃ b off, p = some ⟨b, off, none⟩ ∧ b < w.heap.size ∧ ∀ i, i < n → ∃ q m c, w.cell? ⟨b, off + i, none⟩ = some (.slice q m c) ∧ SlI w .u8 (.slice q m c) (xss.getD i []) ∧ m ≤ 9223372036854775807) := by
  obtain ⟨vals, h1, h2, h3⟩ := h
  obtain ⟨p, n, cap, rfl, hn, hc⟩ := h1.shape
  refine ⟨p, n, cap, rfl, by omega, ?_, ?_⟩
  · by_cases h0 : 0 < n
    · obtain ⟨b, off, _, _, h4, h5, _⟩ := hc h0
      unfold maxLen at h5; omega
    · omega
  · intro h0
    obtain ⟨b, off, rfl, hb, h4, h5, h6⟩ := hc h0
    refine ⟨b, off, rfl, hb, fun i hi => ?_⟩
    have hv : vals[i]? = some (vals[i]'(by omega)) := List.getElem?_eq_getElem (by omega)
    have hs := h3 i _ hv
    obtain ⟨q, m, c, he, hm, hm2⟩ := hs.shape
    rw [he] at hs hv
    exact ⟨q, m, c, h6 i _ hv, hs, hm2⟩
/-- Rows of bytes. -/
def BytesR (xss : List (List Int)) : Prop := ∀ xs ∈ xss, ∀ x ∈ xs, 0 ≤ x ∧ x ≤ 255
theorem BytesR.getD {xss : List (List Int)} (h : BytesR xss) (i : Nat) : ∀ x ∈ xss.getD i [], 0 ≤ x ∧ x ≤ 255 := by
  rw [List.getD_eq_getElem?_getD]
  by_cases hi : i < xss.length
  · rw [List.getElem?_eq_getElem hi]; exact h _ (List.getElem_mem hi)
  · rw [List.getElem?_eq_none (by omega)]; simp
theorem take_succ_rows (xss : List (List Int)) (k : Nat) (h : k < xss.length) : (xss.take (k + 1)).flatten = (xss.take k).flatten ++ xss.getD k [] := by
  rw [List.take_succ_eq_append_getElem h, List.flatten_append, List.flatten_singleton]
  simp [List.getD, h]
theorem BytesR.flat {xss : List (List Int)} (h : BytesR xss) (k : Nat) : ∀ x ∈ (xss.take k).flatten, 0 ≤ x ∧ x ≤ 255 := by
  intro x hx
  obtain ⟨l, hl, hx⟩ := List.mem_flatten.1 hx
  exact h l (List.mem_of_mem_take hl) x hx

set_option maxRecDepth 100000 in
theorem Parts_any (v : Value) (xss : List (List Int)) (w : World) (hs : SlR w v xss) (hb : BytesR xss) :
    Calls Try.prog 16 #[v] w fun e w' => e = .returned (.int .u32 (sumOf xss.flatten)) ∧ Old w w' := by
  obtain ⟨p, n, cap, rfl, hl, hn, _⟩ := hs.shape
  have HS := Lib.hid hs
  clear hs
  unfold sumOf
  go_enter Try.func16, Try.ntmps16
  go_wp2_with fail
  refine (Table_any w).mono ?_
  rintro e w1 ⟨rfl, ho1⟩
  have hT : Hid ((w1.alloc (.cells (row push) 27)).heap[w1.heap.size]? = some (.cells (row push) 27 (0, 0))) := heap_alloc_new _ _
  have HO : Hid (Old w (w1.alloc (.cells (row push) 27))) := ho1.alloc' _
  have hs2 := HS.out.old HO.out
  obtain ⟨p2, n2, cap2, he2, _, _, hc2⟩ := hs2.shape
  simp only [Value.slice.injEq] at he2
  obtain ⟨rfl, rfl, rfl⟩ := he2
  have HC := Lib.hid hc2
  have Hz := Lib.hid Try.zero.2
  have Hr := Lib.hid (heap_alloc_new w1 (.cells (row fun _ => 0) 27))
  have hz := Try.zero.1
  clear ho1 hs2 HS hc2
  go_wp2_with (with_reducible refine wpList_store_row rfl 27 _ _ rfl w1.heap.size (row push) rfl rfl 27 _ Hr.out (by rw [row_size]; exact Hz.out) (by rw [row_size, row_size]) (row_one _) ?_; rw [World.setRow_alloc_new]; clear hz)
  clear Hr Hz
  generalize w1.alloc (.cells (row push) 27) = w2 at *
  go_loop [4, 10] (fun t i => ∃ k : Nat, k ≤ n ∧ i = .int .i64 k ∧ t = .int .u32 (4294967295 - (reg 4294967295 (xss.take k).flatten : Int))) (fun _ i => n - (intOf i).toNat)
  case atStart => exact ⟨0, by omega, rfl, rfl⟩
  case round =>
    obtain ⟨k, hk, rfl, rfl⟩ := hrel
    have hlt2 := reg_lt (r := 4294967295) (by omega) _ (hb.flat k)
    have hts : Hid (k < n → reg 4294967295 (xss.take (k + 1)).flatten = reg (reg 4294967295 (xss.take k).flatten) (xss.getD k [])) := fun h => by
      rw [take_succ_rows xss k (by omega), reg_append]
    by_cases hlt : k < n
    · obtain ⟨b, off, rfl, _, hc⟩ := HC.out (by omega)
      obtain ⟨q, m, c, hc1, hsi, hm⟩ := hc k hlt
      have hgo := Lib.hid (goOn_any w1.heap.size _ q m c _ w2 hlt2 hT.out hsi (hb.getD k) (by omega))
      have hnx := hts.out hlt
      rw [← hnx] at hgo
      clear hc hts HC hsi hnx hlt2
      go_wp2_with fail
      refine hgo.out.mono ?_
      rintro e w' ⟨rfl, rfl⟩
      go_wp2
      go_round
      case rel => exact ⟨k + 1, by omega, by go_num, rfl⟩
      case measure => simp [intOf]; omega
    · have hend : Hid (xss.take k = xss) := by unfold Hid; rw [List.take_of_length_le (by omega)]
      clear HC hts
      go_wp2
      go_ret
      exact ⟨by rw [hend.out]; rfl, HO.out⟩

theorem Sum_any (v : Value) (xs : List Int) (w : World) (hs : SlI w .u8 v xs) (hb : ∀ x ∈ xs, 0 ≤ x ∧ x ≤ 255) :
    Calls Try.prog 7 #[v] w fun e w' => e = .returned (.int .u32 (sumOf xs)) ∧ Old w w' := by
  have ho : Old w (w.alloc (.cells #[v] 22)) := Old.alloc _ _
  have hr : SlR (w.alloc (.cells #[v] 22)) (.slice (some ⟨w.heap.size, 0, none⟩) 1 1) [xs] := by
    refine ⟨[v], ⟨some ⟨w.heap.size, 0, none⟩, 1, rfl, fun _ => ⟨w.heap.size, 0, rfl, by simp, Nat.le_refl _, by unfold maxLen; simp, fun i u hi => ?_⟩⟩, rfl, fun i u hi => ?_⟩
    · match i, hi with
      | 0, hi =>
        simp only [List.getElem?_cons_zero, Option.some.injEq] at hi
        subst hi
        rw [World.cell?_alloc_at _ _ _ _ rfl]; rfl
      | i + 1, hi => simp at hi
    · match i, hi with
      | 0, hi =>
        simp only [List.getElem?_cons_zero, Option.some.injEq] at hi
        subst hi
        exact hs.old ho
      | i + 1, hi => simp at hi
  have hp := Lib.hid (Parts_any _ _ _ hr (fun l hl => by simp at hl; subst hl; exact hb))
  have HO := Lib.hid ho
  clear hr ho
  obtain ⟨p, n, cap, rfl, hl, hn⟩ := hs.shape
  clear hs hl
  go_enter Try.func7, Try.ntmps7
  go_wp2_with fail
  refine hp.out.mono ?_
  rintro e w1 ⟨rfl, ho1⟩
  have H1 := Lib.hid ho1
  clear ho1
  go_wp2
  go_ret
  exact ⟨by simp, HO.out.trans H1.out⟩
end Go.Proofs.Ytbnenkmkkookdaa
