/- Contracts of slices.Clone and slices.Reverse at []int64. -/
import Derived.Test.YtpdjdejlhjcicaaChecked
import Derived.Test.YtpdjdejlhjcicaaListL
import Derived.BigRegion
import Derived.Laws.MakeOwn
namespace Go.Proofs.Ytpdjdejlhjcicaa
set_option linter.unusedVariables false
open Go.RowKit Go.ChangeShapes Go.WideShapes

theorem Try.info_i64' : (Try.prog.info? 2).map (fun i => (i.zero, i.size, i.bytes)) = some (some (.int .i64 0), 1, 8) := by kernel_rfl
theorem own_empty (w : World) (t : TypeId) : ownX (fun q => q < w.heap.size) (w.alloc (.cells #[] t)) t (.slice (some ⟨w.heap.size, 0, none⟩) 0 0) 0 [] := by
  refine ⟨⟨rfl, .inr ⟨w.heap.size, 0, #[], rfl, Nat.zero_le _, heap_alloc_new _ _, Nat.le_refl _, Nat.zero_le _, rfl, rfl⟩⟩, fun k hk => ?_⟩
  have : k = w.heap.size := by simpa [Value.ownBlock, eq_comm] using hk
  omega

theorem Clone_any (p : Option Addr) (n cap : Nat) (xs : List Int) (w : World) (hs : SlI w .i64 (.slice p n cap) xs) (hn : n ≤ 1099511627776) :
    Calls Try.prog 49 #[.slice p n cap] w fun e w' => ∃ v, e = .returned v ∧ OwnL .i64 2 (fun q => q < w.heap.size) w' v xs ∧ Old w w' := by
  obtain ⟨hl, hc⟩ := hs.cellAt
  have HC := Lib.hid hc
  have HL := Lib.hid hl
  clear hs hc hl
  obtain ⟨i0, hi, hz0, hz1, hz2⟩ := info_parts Try.info_i64'
  cases p with
  | none =>
    have h0 : n = 0 := by
      rcases Nat.eq_zero_or_pos n with h | h
      · exact h
      · obtain ⟨b, off, hp, _⟩ := HC.out h
        cases hp
    have hx : xs = [] := List.eq_nil_of_length_eq_zero (by rw [HL.out]; exact h0)
    have HX := Lib.hid hx
    clear hx h0 HC HL
    have hE := eql_sl_nil 22 2 none n cap Try.underlying22
    go_enter Try.func49, Try.ntmps49
    go_wp2
    go_ret
    exact ⟨_, rfl, by rw [HX.out]; exact OwnL.nil _ _ _ _, Old.refl w⟩
  | some a =>
    have HN : Hid (∀ j u, (xs.map (Value.int .i64))[j]? = some u → (w.alloc (.cells #[] 2)).cell? (a.add j) = some u) := by
      intro j u hj
      rw [List.getElem?_map] at hj
      cases hx : xs[j]? with
      | none => rw [hx] at hj; cases hj
      | some x =>
        rw [hx] at hj
        have hjl : j < xs.length := by
          by_cases h : j < xs.length
          · exact h
          · rw [List.getElem?_eq_none (by omega)] at hx; cases hx
        obtain ⟨b, off, hp, hb, _, _, hcell⟩ := HC.out (by have := HL.out; omega)
        obtain rfl : a = ⟨b, off, none⟩ := by simpa using hp
        rw [add_plain, (Old.alloc w (.cells #[] 2)).cell (a := ⟨b, off + j, none⟩) hb, hcell j (by have := HL.out; omega)]
        have hx' : xs.getD j 0 = x := by rw [List.getD_eq_getElem?_getD, hx]; rfl
        rw [hx']
        simpa using hj
    have HO : Hid (Old w (w.alloc (.cells #[] 2))) := Old.alloc _ _
    have HM : Hid ((xs.map (Value.int .i64)).length = n) := by unfold Hid; rw [List.length_map, HL.out]
    have H1 : Hid (∀ u ∈ xs.map (Value.int .i64), u.oneCell' = true) := by
      intro u hu
      obtain ⟨x, _, rfl⟩ := List.mem_map.1 hu
      rfl
    clear HC
    have hE := eql_sl_nil 22 2 (some a) n cap Try.underlying22
    go_enter Try.func49, Try.ntmps49
    go_wp2_with (at_builtin; refine append_X _ rfl _ _ 22 rfl (fun q => q < w.heap.size) 2 i0 (.int .i64 0) 8 Try.underlying22 hi hz0 hz1 hz2 rfl _ _ _ rfl (own_empty w 2) a n cap (xs.map (Value.int .i64)) rfl HM.out HN.out H1.out (by unfold maxLen; omega) (by omega) (fun q hq => Nat.lt_of_lt_of_le hq HO.out.size) ?_; intro v' w2 hown2 hk2 _; have HR2 := Lib.hid (show OwnL .i64 2 (fun q => q < w.heap.size) w2 v' xs from (by unfold OwnL; rw [HL.out]; have := hown2; rw [Nat.zero_add, List.nil_append] at this; exact this)); have HO2 := Lib.hid (HO.out.after hk2 (fun _ h => h)); clear hown2 hk2 HO HN HM H1 HL)
    go_ret
    exact ⟨_, rfl, HR2.out, HO2.out⟩

/-- A list of which the first and last k places are turned round. -/
def revK (xs : List Int) (k : Nat) : List Int := (List.range xs.length).map fun i => if i < k ∨ xs.length ≤ i + k then xs.getD (xs.length - 1 - i) 0 else xs.getD i 0
theorem revK_length (xs : List Int) (k : Nat) : (revK xs k).length = xs.length := by simp [revK]
theorem revK_get (xs : List Int) (k i : Nat) (h : i < xs.length) : (revK xs k)[i]? = some (if i < k ∨ xs.length ≤ i + k then xs.getD (xs.length - 1 - i) 0 else xs.getD i 0) := by
  simp [revK, h]
theorem revK_zero (xs : List Int) : revK xs 0 = xs := by
  apply List.ext_getElem?
  intro i
  by_cases h : i < xs.length
  · rw [revK_get _ _ _ h, if_neg (by omega)]; simp [List.getD, h]
  · rw [List.getElem?_eq_none (by rw [revK_length]; omega), List.getElem?_eq_none (by omega)]
theorem revK_end (xs : List Int) (k : Nat) (hk : xs.length ≤ 2 * k + 1) : revK xs k = xs.reverse := by
  apply List.ext_getElem?
  intro i
  by_cases h : i < xs.length
  · rw [revK_get _ _ _ h, List.getElem?_reverse h]
    by_cases c : i < k ∨ xs.length ≤ i + k
    · rw [if_pos c]
      have : xs.length - 1 - i < xs.length := by omega
      simp [List.getD, this]
    · rw [if_neg c]
      have : i = xs.length - 1 - i := by omega
      rw [← this]
      simp [List.getD, h]
  · rw [List.getElem?_eq_none (by rw [revK_length]; omega), List.getElem?_eq_none (by simp; omega)]
theorem revK_succ (xs : List Int) (k : Nat) (h : 2 * k + 1 < xs.length) : ((revK xs k).set k (xs.getD (xs.length - 1 - k) 0)).set (xs.length - 1 - k) (xs.getD k 0) = revK xs (k + 1) := by
  apply List.ext_getElem?
  intro i
  by_cases hi : i < xs.length
  · rw [revK_get _ _ _ hi, List.getElem?_set, List.getElem?_set, List.length_set, revK_length, revK_get _ _ _ hi]
    by_cases c1 : xs.length - 1 - k = i
    · rw [if_pos c1, if_pos (by omega), if_pos (by omega), show xs.length - 1 - i = k by omega]
    · rw [if_neg c1]
      by_cases c2 : k = i
      · subst c2
        rw [if_pos rfl, if_pos (by omega), if_pos (by omega)]
      · rw [if_neg c2]
        by_cases c3 : i < k ∨ xs.length ≤ i + k
        · rw [if_pos c3, if_pos (by omega)]
        · rw [if_neg c3, if_neg (by omega)]
  · rw [List.getElem?_eq_none (by simp [revK_length]; omega), List.getElem?_eq_none (by rw [revK_length]; omega)]

/-- After k rounds. -/
def RevR (X : Nat → Prop) (w : World) (v : Value) (xs : List Int) (k : Nat) (wr : World) : Prop := ownX X wr 2 v xs.length ((revK xs k).map (Value.int .i64)) ∧ Kept X w wr
theorem RevR.drew {X : Nat → Prop} {w wr : World} {v : Value} {xs : List Int} {k : Nat} (h : Hid (RevR X w v xs k wr)) : Hid (RevR X w v xs k wr.drew) := ⟨⟨⟨h.out.1.1.1, h.out.1.1.2⟩, h.out.1.2⟩, h.out.2.drew⟩

set_option maxHeartbeats 1000000 in
theorem Reverse_any (X : Nat → Prop) (v : Value) (xs : List Int) (w : World) (hs : OwnL .i64 2 X w v xs) (hX : ∀ k, X k → k < w.heap.size) :
    Calls Try.prog 50 #[v] w fun e w' => e = .returned (.tuple #[]) ∧ OwnL .i64 2 X w' v xs.reverse ∧ Kept X w w' := by
  have HS : Hid (RevR X w v xs 0 w) := ⟨by rw [revK_zero]; exact hs, Kept.refl _ _⟩
  rcases hs.shape with ⟨rfl, h0⟩ | ⟨g, cap, rfl, hg, hgl, hnc, hcm, hcell⟩
  · have hx : xs = [] := List.eq_nil_of_length_eq_zero h0
    have HX := Lib.hid hx
    clear h0 hx HS hs
    go_enter Try.func50, Try.ntmps50
    go_wp2
    go_loop [2, 3] (fun i j => i = .int .i64 0 ∧ j = .int .i64 (-1)) (fun _ _ => 0)
    case atStart => exact ⟨rfl, rfl⟩
    case round =>
      obtain ⟨rfl, rfl⟩ := hrel
      go_wp2
      go_end0
      exact ⟨rfl, by rw [HX.out]; exact OwnL.nil _ _ _ _, Kept.refl _ _⟩
  · unfold maxLen at hcm
    obtain ⟨n, hn⟩ : ∃ n, n = xs.length := ⟨_, rfl⟩
    rw [← hn] at hnc ⊢
    have HN := Lib.hid hn
    clear hs hcell hn
    go_enter Try.func50, Try.ntmps50
    go_wp2
    go_loopw [2, 3] (fun i j wr => ∃ k : Nat, 2 * k ≤ n + 1 ∧ i = .int .i64 k ∧ j = .int .i64 ((n : Int) - 1 - k) ∧ Hid (RevR X w (.slice (some ⟨g, 0, none⟩) n cap) xs k wr)) (fun i _ _ => n - (intOf i).toNat)
    case atStart => exact ⟨0, by omega, rfl, by go_num, by rw [HN.out]; exact HS⟩
    case round =>
      obtain ⟨k, hk, rfl, rfl, HR⟩ := hrel
      by_cases h : 2 * k + 1 < n
      · obtain ⟨m, hm⟩ : ∃ m : Nat, (m : Int) = (n : Int) - 1 - k := ⟨n - 1 - k, by omega⟩
        rw [← hm]
        have hx1 : (xs.length - 1 - k) = m := by have := HN.out; omega
        obtain ⟨x, hx⟩ : ∃ x, x = xs.getD k 0 := ⟨_, rfl⟩
        obtain ⟨y, hy⟩ : ∃ y, y = xs.getD m 0 := ⟨_, rfl⟩
        have c1 : wr.cell? ⟨g, k, none⟩ = some (.int .i64 x) := by
          have hr := HR.out.1
          rw [← HN.out] at hr
          rw [hr.cellAt k (by omega), List.getElem?_map, revK_get _ _ _ (by have := HN.out; omega), if_neg (by have := HN.out; omega), ← hx]; rfl
        have c2 : wr.cell? ⟨g, m, none⟩ = some (.int .i64 y) := by
          have hr := HR.out.1
          rw [← HN.out] at hr
          rw [hr.cellAt m (by omega), List.getElem?_map, revK_get _ _ _ (by have := HN.out; omega), if_neg (by have := HN.out; omega), ← hy]; rfl
        have f1 : wr.frozen? ⟨g, k, none⟩ = false := by have hr := HR.out.1; rw [← HN.out] at hr; exact hr.frozenAt k
        have f2 : wr.frozen? ⟨g, m, none⟩ = false := by have hr := HR.out.1; rw [← HN.out] at hr; exact hr.frozenAt m
        have hr2 : RevR X w (.slice (some ⟨g, 0, none⟩) n cap) xs (k + 1) ((wr.setCell ⟨g, k, none⟩ (.int .i64 y)).setCell ⟨g, m, none⟩ (.int .i64 x)) := by
          have hr := HR.out
          unfold RevR at hr ⊢
          rw [← HN.out] at hr ⊢
          refine ⟨?_, (hr.2.trans (Kept.setCell wr (a := ⟨g, k, none⟩) hg _)).trans (Kept.setCell _ (a := ⟨g, m, none⟩) hg _)⟩
          have h2 := (hr.1.stored k (.int .i64 y)).stored m (.int .i64 x)
          have h3 := revK_succ xs k (by have := HN.out; omega)
          rw [hx1, ← hx, ← hy] at h3
          rw [← List.map_set, ← List.map_set, h3] at h2
          exact h2
        have HR2 := Lib.hid hr2
        have hkm : k < m := by omega
        have hmn : m < n := by omega
        have hkn : k < n := by omega
        have HM := Lib.hid hm
        have HJ : Hid ((m : Int) - 1 = (n : Int) - 1 - (k + 1 : Nat)) := by unfold Hid; omega
        clear hr2 HR HS hx hy hx1 hm
        go_wp2
        go_region
        go_wp2
        go_roundw
        case rel => exact ⟨k + 1, by omega, by go_num, by rw [← HJ.out], RevR.drew HR2⟩
        case measure => simp [intOf]; omega
      · have HE : Hid (OwnL .i64 2 X wr (.slice (some ⟨g, 0, none⟩) n cap) xs.reverse ∧ Kept X w wr) := by
          have := HR.out
          unfold RevR at this
          rw [revK_end xs k (by have := HN.out; omega)] at this
          unfold OwnL
          rw [List.length_reverse]
          exact this
        have h' : (n : Int) - 1 - k ≤ k := by omega
        clear HR HS h
        go_wp2
        go_end0
        exact ⟨rfl, HE.out⟩
end Go.Proofs.Ytpdjdejlhjcicaa
