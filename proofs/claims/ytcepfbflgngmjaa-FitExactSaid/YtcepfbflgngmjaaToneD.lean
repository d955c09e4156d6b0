/- Package tone's contracts, third part: the places that are tones, rising. -/
import Derived.Test.YtcepfbflgngmjaaToneC
import Derived.Test.YtcepfbflgngmjaaListL
import Derived.Laws.MakeOwn
namespace Go.Proofs.Ytcepfbflgngmjaa
set_option linter.unusedVariables false
set_option maxRecDepth 100000
open Go.RowKit Go.ChangeShapes Go.WideShapes

/-- The places below k that are tones. -/
def placesL (f : Nat → Int) (k : Nat) : List Nat := (List.range k).filter fun i => decide (isT f i)
def intsOf (l : List Nat) : List Int := l.map (fun i : Nat => (i : Int))
theorem intsOf_len (l : List Nat) : (intsOf l).length = l.length := by simp [intsOf]
theorem intsOf_getD (l : List Nat) (k : Nat) (h : k < l.length) : (intsOf l).getD k 0 = ((l.getD k 0 : Nat) : Int) := by simp [intsOf, List.getD, h]
theorem placesL_yes (f : Nat → Int) (k : Nat) (h : isT f k) : placesL f (k + 1) = placesL f k ++ [k] := by
  unfold placesL
  rw [List.range_succ, List.filter_append]
  simp [h]
theorem placesL_no (f : Nat → Int) (k : Nat) (h : ¬ isT f k) : placesL f (k + 1) = placesL f k := by
  unfold placesL
  rw [List.range_succ, List.filter_append]
  simp [h]
theorem placesL_len (f : Nat → Int) (k : Nat) : (placesL f k).length ≤ k := by
  have := List.length_filter_le (fun i => decide (isT f i)) (List.range k)
  simpa [placesL] using this
theorem mem_placesL {f : Nat → Int} {k i : Nat} : i ∈ placesL f k ↔ i < k ∧ isT f i := by simp [placesL]
theorem placesL_rising (f : Nat → Int) (k : Nat) : (placesL f k).Pairwise (· < ·) := List.Pairwise.filter _ List.pairwise_lt_range
/-- The spectrum's box, and the row of the places so far. -/
structure PlSt (tb te : TypeId) (w : World) (f : Nat → Int) (k : Nat) (v : Value) (W : World) : Prop where
  own : OwnL .i64 te (fun q => q < w.heap.size + 1) W v (intsOf (placesL f k))
  box : W.heap[w.heap.size]? = some (.cells (rowN 16 (blk f)) tb (0, 0))
  old : Old w W
theorem PlSt.keep {tb te : TypeId} {w W W' : World} {f : Nat → Int} {k : Nat} {v : Value} (h : PlSt tb te w f k v W) (o : Old W W') : PlSt tb te w f k v W' :=
  ⟨h.own.old o, (o.block _ (lt_of_block h.box)).trans h.box, h.old.trans o⟩
theorem PlSt.next {tb te : TypeId} {w W W' : World} {f : Nat → Int} {k : Nat} {v v' : Value} (h : PlSt tb te w f k v W) (hk : isT f k)
    (ho : ownX (fun q => q < w.heap.size + 1) W' te v' ((intsOf (placesL f k)).length + 1) ((intsOf (placesL f k)).map (Value.int .i64) ++ [.int .i64 k])) (ka : Kept (fun q => q < w.heap.size + 1) W W') : PlSt tb te w f (k + 1) v' W' := by
  refine ⟨?_, ?_, h.old.after ka fun q hq => by omega⟩
  · rw [placesL_yes f k hk, show intsOf (placesL f k ++ [k]) = intsOf (placesL f k) ++ [(k : Int)] from by simp [intsOf]]
    exact OwnL.snoc ho
  · exact (ka.block _ (by show w.heap.size < w.heap.size + 1; omega)).trans h.box
theorem Try.info_int' : (Try.prog.info? 3).map (fun i => (i.zero, i.size, i.bytes)) = some (some (.int .i64 0), 1, 8) := by kernel_rfl
set_option maxRecDepth 100000 in
set_option maxHeartbeats 1000000 in
theorem places_any (f : Nat → Int) (hf : Fits64 f) (w : World) :
    Calls Try.prog 47 #[.agg (rowN 16 (blk f))] w fun e w' => ∃ v, e = .returned v ∧ OwnL .i64 3 (fun q => q < w.heap.size) w' v (intsOf (placesL f 16)) ∧ Old w w' := by
  obtain ⟨i0, hi, hz0, hz1, hz2⟩ := info_parts Try.info_int'
  have Hb16 : Hid ((Try.prog.info? 23).map (·.size) = some 16) := Lib.hid (by kernel_rfl)
  have HIs := Lib.hid (fun (k : Nat) (hk : k < 16) w => Is_any f hf k w (by omega) (by omega))
  have H0 : Hid (PlSt 23 3 w f 0 (.slice none 0 0) (w.alloc (.cells (rowN 16 (blk f)) 23))) := ⟨by have := OwnL.nil .i64 3 (fun q => q < w.heap.size + 1) (w.alloc (.cells (rowN 16 (blk f)) 23)); exact this, heap_alloc_new _ _, Old.alloc _ _⟩
  clear hf
  go_enter Try.func47, Try.ntmps47
  go_wp2_with fail
  go_loopw [3, 5] (fun v i wr => ∃ k : Nat, k ≤ 16 ∧ i = .int .i64 k ∧ Hid (PlSt 23 3 w f k v wr)) (fun _ i _ => 16 - (intOf i).toNat)
  case atStart => exact ⟨0, by omega, rfl, H0⟩
  case round =>
    obtain ⟨k, hk, rfl, hs⟩ := hrel
    clear H0
    by_cases hlt : k < 16
    · have k0 : (0 : Int) ≤ k := by omega
      have k1 : (k : Int) < 16 := by omega
      have HI := Lib.hid (HIs.out k hlt wr)
      have Hbox := Lib.hid hs.out.box
      rw [isI_nat] at HI
      clear HIs
      go_wp2_with (with_reducible refine wpList_load_row rfl 23 _ rfl w.heap.size rfl 23 (rowN 16 (blk f)) (0, 0) _ Hbox.out Try.underlying23 rfl (by rw [rowN_size]; exact Hb16.out) ?_)
      refine HI.out.mono ?_
      rintro e w1 ⟨rfl, ho⟩
      have HS := Lib.hid (hs.out.keep ho)
      clear hs ho HI Hbox
      by_cases ht : isT f k
      · have hown := HS.out.own
        have hlen := placesL_len f k
        have HN := Lib.hid (fun v' w2 ho ka => HS.out.next (v' := v') (W' := w2) ht ho ka)
        have hd : decide (isT f k) = true := decide_eq_true ht
        have HXX : Hid (∀ (o : Obj) (q : Nat), q < w.heap.size + 1 → q < (w1.alloc o).heap.size) := fun o q hq => by
          have := lt_of_block HS.out.box
          simp
          omega
        have HXS : Hid (w.heap.size + 1 ≤ w1.heap.size) := lt_of_block HS.out.box
        have hll := intsOf_len (placesL f k)
        clear HS ht
        unfold OwnL at hown
        rw [hd]
        clear hd
        generalize intsOf (placesL f k) = xs at *
        generalize placesL f k = ps at *
        go_wp2_with ((at_builtin; refine append_X _ rfl _ _ 77 rfl (fun q => q < w.heap.size + 1) 3 i0 (.int .i64 0) 8 Try.underlying77 hi hz0 hz1 hz2 rfl _ _ _ rfl (hown.old (Old.alloc _ _)) ⟨w1.heap.size, 0, none⟩ 1 1 [.int .i64 k] rfl rfl (news_one w1 _ _) (one_oneCell _ _) (by unfold maxLen; omega) (by omega) (HXX.out _) ?_; intro v' w2 hown2 hk2 _; have hn2 := Lib.hid (HN.out v' w2 hown2 ((Kept.alloc _ _ (fun q hq => Nat.lt_of_lt_of_le hq HXS.out)).trans hk2)); clear hown hown2 hk2 HN))
        go_roundw
        case rel => exact ⟨k + 1, by omega, by go_num, hn2⟩
        case measure => simp [intOf]; omega
      · have hd : decide (isT f k) = false := decide_eq_false ht
        have hn : PlSt 23 3 w f (k + 1) u3 w1 := ⟨by rw [placesL_no f k ht]; exact HS.out.own, HS.out.box, HS.out.old⟩
        have HN := Lib.hid hn
        rw [hd]
        clear HS hn ht hd
        go_wp2_with fail
        go_roundw
        case rel => exact ⟨k + 1, by omega, by go_num, HN⟩
        case measure => simp [intOf]; omega
    · obtain rfl : k = 16 := by omega
      have hr : OwnL .i64 3 (fun q => q < w.heap.size) wr u3 (intsOf (placesL f 16)) ∧ Old w wr := ⟨hs.out.own.mono fun q hq h => by have := hs.out.own.2 q hq; omega, hs.out.old⟩
      have HR := Lib.hid hr
      clear hs hr HIs
      go_wp2_with fail
      go_ret
      exact ⟨u3, rfl, HR.out.1, HR.out.2⟩
end Go.Proofs.Ytcepfbflgngmjaa
