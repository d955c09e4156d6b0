/- Package tone's contracts, fifth part: Find. -/
import Derived.Test.YtcepfbflgngmjaaToneE
import Derived.Test.YtcepfbflgngmjaaTwoL
namespace Go.Proofs.Ytcepfbflgngmjaa
set_option linter.unusedVariables false
set_option maxRecDepth 100000
open Go.RowKit Go.ChangeShapes Go.WideShapes

theorem stable_none (b : Nat) (w : World) :
    Calls Try.prog 64 #[.slice none 0 0, .int .i64 0, .func (.func 49) #[] #[.pointer (some ⟨b, 0, none⟩)]] w fun e w' => e = .returned (.tuple #[]) ∧ w = w' := by
  have HI : Hid (∀ w, Calls Try.prog 73 #[.slice none 0 0, .int .i64 0, .int .i64 0, .func (.func 49) #[] #[.pointer (some ⟨b, 0, none⟩)]] w fun e w' => e = .returned (.tuple #[]) ∧ w = w') := fun w => by
    go_enter Try.func73, Try.ntmps73
    go_wp2_with fail
    go_loop [8] (fun i => i = .int .i64 1) (fun _ => 0)
    case atStart => rfl
    case round =>
      subst hrel
      go_wp2_with fail
      go_end0
      exact ⟨rfl, rfl⟩
  go_enter Try.func64, Try.ntmps64
  go_wp2_with fail
  go_loop [7, 8] (fun a c => a = .int .i64 0 ∧ c = .int .i64 20) (fun _ _ => 0)
  case atStart => exact ⟨rfl, rfl⟩
  case round =>
    obtain ⟨rfl, rfl⟩ := hrel
    go_wp2_with fail
    refine (HI.out _).mono ?_
    rintro e w1 ⟨rfl, rfl⟩
    go_wp2_with fail
    go_loop [6] (fun c => c = .int .i64 20) (fun _ => 0)
    case atStart => rfl
    case round =>
      subst hrel
      go_wp2_with fail
      go_end0
      exact ⟨rfl, rfl⟩
theorem SortStable_none (b : Nat) (w : World) :
    Calls Try.prog 48 #[.slice none 0 0, .func (.func 49) #[] #[.pointer (some ⟨b, 0, none⟩)]] w fun e w' => e = .returned (.tuple #[]) ∧ w = w' := by
  have HI := Lib.hid (fun w => stable_none b w)
  go_enter Try.func48, Try.ntmps48
  go_wp2_with fail
  refine (HI.out _).mono ?_
  rintro e w1 ⟨rfl, rfl⟩
  go_wp2_with fail
  go_end0
  exact ⟨rfl, rfl⟩

/-- The tones so far; beside them the spectrum, and the places. -/
structure FdSt (tb tt : TypeId) (w : World) (f : Nat → Int) (g k : Nat) (v : Value) (W : World) : Prop where
  own : ownS (fun q => q < w.heap.size + 1 ∨ q = g) W tt 2 v k (rowL (2 * k) (toneF f))
  box : W.heap[w.heap.size]? = some (.cells (rowN 16 (blk f)) tb (0, 0))
  row : CellsAt W g (findL f).length (fun j => (intsOf (findL f)).getD j 0)
  old : Old w W
  far : w.heap.size < g
theorem FdSt.next {tb tt : TypeId} {w W W' : World} {f : Nat → Int} {g k : Nat} {v v' : Value} {o : Obj} (h : FdSt tb tt w f g k v W)
    (ho : ownS (fun q => q < w.heap.size + 1 ∨ q = g) W' tt 2 v' (k + 1) (rowL (2 * k) (toneF f) ++ [.int .i64 (((findL f).getD k 0 : Nat) : Int), .int .i64 (f ((findL f).getD k 0))])) (ka : Kept (fun q => q < w.heap.size + 1 ∨ q = g) (W.alloc o) W') : FdSt tb tt w f g (k + 1) v' W' := by
  have hb := lt_of_block h.box
  have hg := h.row.lt
  have ka' : Kept (fun q => q < w.heap.size + 1 ∨ q = g) W W' := (Kept.alloc W o fun q hq => by rcases hq with hq | hq <;> omega).trans ka
  refine ⟨by rw [rowL_succ2, toneF_even, toneF_odd]; exact ho, (ka'.block _ (.inl (by omega))).trans h.box, h.row.kept ka' (.inr rfl), h.old.after ka' fun q hq => .inl (by omega), h.far⟩
set_option maxRecDepth 100000 in
set_option maxHeartbeats 4000000 in
theorem Find_any (f : Nat → Int) (hf : Fits64 f) (w : World) :
    Calls Try.prog 23 #[.agg (rowN 16 (blk f))] w fun e w' => ∃ v, e = .returned v ∧ (findL f).length ≤ 2 ∧ ownS (fun q => q < w.heap.size) w' 61 2 v (findL f).length (rowL (2 * (findL f).length) (toneF f)) ∧ Old w w' := by
  obtain ⟨i0, hi, hz0, hz1, hz2⟩ := info_parts Try.info_tone
  have Hb16 : Hid ((Try.prog.info? 23).map (·.size) = some 16) := Lib.hid (by kernel_rfl)
  have Hbox : Hid ((w.alloc (.cells (rowN 16 (blk f)) 23)).heap[w.heap.size]? = some (.cells (rowN 16 (blk f)) 23 (0, 0))) := Lib.hid (heap_alloc_new _ _)
  have HP := Lib.hid (fun w => places_any f hf w)
  have HF := Lib.hid hf
  clear hf
  go_enter Try.func23, Try.ntmps23
  go_wp2_with (with_reducible refine wpList_load_row rfl 23 _ rfl w.heap.size rfl 23 (rowN 16 (blk f)) (0, 0) _ Hbox.out Try.underlying23 rfl (by rw [rowN_size]; exact Hb16.out) ?_)
  refine (HP.out _).mono ?_
  rintro e w1 ⟨v, rfl, hown, ho⟩
  rcases own_cells hown with ⟨rfl, hx⟩ | ⟨g, cap, rfl, hg, hnc, hcm, hcells⟩
  · have hno : findL f = [] := find_none (by simpa [intsOf] using hx)
    have HNO := Lib.hid hno
    have HO := Lib.hid ((Old.alloc w _).trans ho)
    have HS := Lib.hid (fun w' => SortStable_none w.heap.size w')
    have HI := Lib.hid (fun w' => Try.slices_Sort_int_none none 0 w')
    clear hx hown ho hno HP
    go_wp2_with fail
    refine (HS.out _).mono ?_
    rintro e w2 ⟨rfl, rfl⟩
    go_wp2_with fail
    rw [show (min (0 : Int) 2).toNat = 0 from rfl]
    refine (HI.out _).mono ?_
    rintro e w3 ⟨rfl, rfl⟩
    go_wp2_with fail
    go_loop [4, 21] (fun v i => v = .slice none 0 0 ∧ i = .int .i64 0) (fun _ _ => 0)
    case atStart => exact ⟨rfl, rfl⟩
    case round =>
      obtain ⟨rfl, rfl⟩ := hrel
      go_wp2_with fail
      go_ret
      rw [HNO.out]
      exact ⟨_, rfl, by simp, ownS.nil _ _ _ _, HO.out⟩
  · obtain ⟨n, hn⟩ : ∃ n, n = (placesL f 16).length := ⟨_, rfl⟩
    have hlen := placesL_len f 16
    rw [intsOf_len, ← hn] at hnc hcells ⊢
    have hgw : w.heap.size < g := by
      have : (w.alloc (.cells (rowN 16 (blk f)) 23)).heap.size = w.heap.size + 1 := by simp
      omega
    have hb1 : w1.heap[w.heap.size]? = some (.cells (rowN 16 (blk f)) 23 (0, 0)) := (ho.block _ (by simp)).trans Hbox.out
    have hP := places_P f
    rw [← hn] at hP
    have HS := Lib.hid (SortStable_any f HF.out w.heap.size g n cap _ w1 hP hb1 hcells (by omega) (by omega))
    have HN := Lib.hid hn
    have HO := Lib.hid ((Old.alloc w (.cells (rowN 16 (blk f)) 23)).trans ho)
    have HG := Lib.hid hgw
    have hn16 : n ≤ 16 := by omega
    have HB1 := Lib.hid hb1
    have HLT := Lib.hid (lt_of_block hb1)
    clear hn hlen hown ho hg hgw hcells hb1 hP HP Hbox Hb16
    unfold maxLen at hcm
    go_wp2_with fail
    refine HS.out.mono ?_
    rintro e w2 ⟨rfl, G, hS, hc2, k2⟩
    obtain ⟨m, hm⟩ : ∃ m, m = min n 2 := ⟨_, rfl⟩
    have hmI : (min (n : Int) 2).toNat = m := by omega
    have hI := SortInts_any g m cap G w2 (hc2.less (by omega)) (by omega)
    have HI := Lib.hid hI
    have HM := Lib.hid hm
    have HSS := Lib.hid hS
    have hb2 : w2.heap[w.heap.size]? = some (.cells (rowN 16 (blk f)) 23 (0, 0)) := (k2.block _ ⟨HLT.out, Nat.ne_of_lt HG.out⟩).trans HB1.out
    have HB2 := Lib.hid hb2
    have HO2 := Lib.hid (HO.out.after k2 (fun q hq => ⟨Nat.lt_of_lt_of_le hq HO.out.size, by have := HG.out; omega⟩))
    have hm2 : m ≤ n := by omega
    have HMI := Lib.hid hmI
    clear hI hm hS hc2 k2 hb2 HS HO HB1 hmI
    go_wp2_with fail
    rw [HMI.out]
    refine HI.out.mono ?_
    rintro e w3 ⟨rfl, k3, zs, hp, hz, hc3⟩
    have e1 := sorted_find HN.out HSS.out (by rw [← HM.out]; exact hp) hz
    have e2 := find_len HN.out HSS.out (by rw [← HM.out]; exact hp) hz
    rw [← HM.out] at e2
    rw [e1] at hc3
    have hlt2 : w.heap.size < w2.heap.size := lt_of_block HB2.out
    have H0 : Hid (FdSt 23 61 w f g 0 (.slice none 0 0) w3) := by
      refine ⟨ownS.nil _ _ _ _, (k3.block _ ⟨hlt2, Nat.ne_of_lt HG.out⟩).trans HB2.out, by rw [e2]; exact hc3, HO2.out.after k3 (fun q hq => ⟨Nat.lt_of_lt_of_le hq HO2.out.size, by have := HG.out; omega⟩), HG.out⟩
    have HE := Lib.hid e2
    have hmm : m ≤ 2 := by have := HM.out; omega
    clear k3 hp hz hc3 e1 e2 hlt2 HI HMI HSS HN HM HB2 HO2 HG HF HLT
    go_wp2_with fail
    go_loopw [4, 21] (fun v i wr => ∃ k : Nat, k ≤ m ∧ i = .int .i64 k ∧ Hid (FdSt 23 61 w f g k v wr)) (fun _ i _ => m - (intOf i).toNat)
    case atStart => exact ⟨0, by omega, rfl, H0⟩
    case round =>
      obtain ⟨k, hk, rfl, hs⟩ := hrel
      clear H0
      by_cases hlt : k < m
      · have hkl : k < (findL f).length := by rw [HE.out]; exact hlt
        have c1 := hs.out.row.cell k hkl
        rw [intsOf_getD _ _ hkl] at c1
        have hp16 : (findL f).getD k 0 < 16 := by
          rw [List.getD_eq_getElem?_getD, List.getElem?_eq_getElem hkl]
          exact (mem_findL.1 (List.getElem_mem hkl)).1.1
        have c2 : wr.cell? ⟨w.heap.size, (findL f).getD k 0, none⟩ = some (.int .i64 (f ((findL f).getD k 0))) := (cell_of_row _ _ _ _ _ _ hs.out.box).trans (blk_at 16 f _ hp16)
        have HN := Lib.hid (fun v' w2 o ho ka => hs.out.next (v' := v') (W' := w2) (o := o) ho ka)
        have hown := hs.out.own
        have hsz : ∀ (o : Obj) (q : Nat), (q < w.heap.size + 1 ∨ q = g) → q < (wr.alloc o).heap.size := fun o q hq => by
          have h1 := lt_of_block hs.out.box
          have h2 := hs.out.row.lt
          simp
          rcases hq with hq | hq <;> omega
        have HSZ := Lib.hid hsz
        clear hs hkl HE hsz
        generalize (findL f).getD k 0 = p at *
        generalize f p = x at *
        have p0 : (0 : Int) ≤ p := by omega
        have p1 : (p : Int) < 16 := by omega
        go_wp2_with ((at_builtin; refine append_S _ rfl _ _ 27 rfl (fun q => q < w.heap.size + 1 ∨ q = g) 61 i0 (.agg #[.int .i64 0, .int .i64 0]) 2 16 Try.underlying27 hi hz0 hz1 hz2 rfl (by decide) _ _ _ rfl (hown.old (Old.alloc _ _)) ⟨_, 0, none⟩ 1 1 [.int .i64 p, .int .i64 x] rfl rfl (news_two _ _ _ _) (two_oneCell _ _) (by unfold maxLen; omega) (by omega) (HSZ.out _) ?_; intro v' w5 hown5 hk5 hv5; have hn5 := Lib.hid (HN.out v' w5 _ hown5 hk5); clear hown hown5 hk5 hv5 HN))
        go_roundw
        case rel => exact ⟨k + 1, by omega, by go_num, hn5⟩
        case measure => simp [intOf]; omega
      · obtain rfl : k = m := by omega
        have hr : (findL f).length ≤ 2 ∧ ownS (fun q => q < w.heap.size) wr 61 2 u4 (findL f).length (rowL (2 * (findL f).length) (toneF f)) ∧ Old w wr := by
          rw [HE.out]
          exact ⟨hmm, hs.out.own.mono fun q hq h => hs.out.own.2 q hq (.inl (by omega)), hs.out.old⟩
        have HR := Lib.hid hr
        clear hs hr HE
        go_wp2_with fail
        go_ret
        exact ⟨_, rfl, HR.out⟩
end Go.Proofs.Ytcepfbflgngmjaa
