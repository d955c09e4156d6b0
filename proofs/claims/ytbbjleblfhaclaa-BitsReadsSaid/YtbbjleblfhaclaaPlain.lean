/- The document's reader: contracts of its get, signed and end. -/
import Derived.Test.YtbbjleblfhaclaaEnd
namespace Go.Proofs.Ytbbjleblfhaclaa
set_option linter.unusedVariables false
open Go.RowKit Go.ChangeShapes Go.WideShapes

/-- The document's reader at block b has these bits and this error. -/
def PlAt (w : World) (b : Nat) (l : List Bool) (er : Int) : Prop :=
  ∃ v, w.heap[b]? = some (.cells #[v, .int .i64 er] 52 (0, 0)) ∧ SlV w v (l.map Value.bool) ∧ (∀ q, v.ownBlock = some q → q ≠ b) ∧ l.length ≤ 1600

theorem SlV.kept {w w' : World} {X : Nat → Prop} {v : Value} {xs : List Value} (h : SlV w v xs) (ho : Kept X w w') (hX : ∀ q, v.ownBlock = some q → q < w.heap.size → X q) : SlV w' v xs := by
  obtain ⟨p, cap, rfl, h⟩ := h
  refine ⟨p, cap, rfl, fun hne => ?_⟩
  obtain ⟨b, off, rfl, hb, hl, hm, hc⟩ := h hne
  exact ⟨b, off, rfl, Nat.lt_of_lt_of_le hb ho.size, hl, hm, fun i u hi => (ho.cell (a := ⟨b, off + i, none⟩) (hX b rfl hb)).trans (hc i u hi)⟩
theorem PlAt.kept {w w' : World} {X : Nat → Prop} {b : Nat} {l : List Bool} {er : Int} (h : PlAt w b l er) (k : Kept X w w') (hX : ∀ q, q < w.heap.size → X q) : PlAt w' b l er := by
  obtain ⟨v, hb, hs, hne, hl⟩ := h
  exact ⟨v, (k.block b (hX b (lt_of_block hb))).trans hb, hs.kept k (fun q _ hq => hX q hq), hne, hl⟩
theorem PlAt.set1 {w : World} {b : Nat} {l : List Bool} {er e : Int} (h : PlAt w b l er) : PlAt (w.setCell ⟨b, 1, none⟩ (.int .i64 e)) b l e ∧ Kept (butOf w b) w (w.setCell ⟨b, 1, none⟩ (.int .i64 e)) := by
  obtain ⟨v, hb, hs, hne, hl⟩ := h
  have hk : Kept (butOf w b) w (w.setCell ⟨b, 1, none⟩ (.int .i64 e)) := Kept.setCell _ (a := ⟨b, 1, none⟩) (fun h => h.2 rfl) _
  exact ⟨⟨v, heap_setCell_at (o := 1) (u := .int .i64 e) hb, hs.kept hk (fun q hq hlt => ⟨hlt, hne q hq⟩), hne, hl⟩, hk⟩
theorem cell2 {w : World} {b : Nat} {x y : Value} {t : TypeId} (h : w.heap[b]? = some (.cells #[x, y] t (0, 0))) :
    w.cell? ⟨b, 0, none⟩ = some x ∧ w.cell? ⟨b, 1, none⟩ = some y ∧ w.frozen? ⟨b, 0, none⟩ = false ∧ w.frozen? ⟨b, 1, none⟩ = false := by
  simp [World.cell?, World.frozen?, h]
theorem slV_drop {w : World} {p : Option Addr} {n cap k : Nat} {xs : List Value} (h : SlV w (.slice p n cap) xs) (hk : k ≤ n) : SlV w (.slice (if cap = k then p else p.map (·.add k)) (n - k) (cap - k)) (xs.drop k) := by
  obtain ⟨p', n', cap', e, hn, hc⟩ := h.shape
  simp only [Value.slice.injEq] at e
  obtain ⟨rfl, rfl, rfl⟩ := e
  have hl : (xs.drop k).length = n - k := by rw [List.length_drop, hn]
  refine ⟨if cap = k then p else p.map (·.add k), cap - k, by rw [hl], fun hne => ?_⟩
  have h0 : 0 < (xs.drop k).length := List.length_pos_iff.2 hne
  rw [hl] at h0
  obtain ⟨b, off, rfl, hb, hl', hm, hcell⟩ := hc (by omega)
  rw [if_neg (by omega)]
  refine ⟨b, off + k, by simp [Option.map, add_plain], hb, by rw [hl]; omega, by omega, fun i u hi => ?_⟩
  rw [List.getElem?_drop] at hi
  rw [Nat.add_assoc]
  exact hcell _ u hi
theorem PlAt.set0 {w : World} {b : Nat} {l : List Bool} {er : Int} {p : Option Addr} {n cap k : Nat} (hb : w.heap[b]? = some (.cells #[.slice p n cap, .int .i64 er] 52 (0, 0))) (hs : SlV w (.slice p n cap) (l.map Value.bool)) (hne : ∀ q, (Value.slice p n cap).ownBlock = some q → q ≠ b)
    (hl : l.length ≤ 1600) (hk : k ≤ n) : PlAt (w.setCell ⟨b, 0, none⟩ (.slice (if cap = k then p else p.map (·.add k)) (n - k) (cap - k))) b (l.drop k) er ∧ Kept (butOf w b) w (w.setCell ⟨b, 0, none⟩ (.slice (if cap = k then p else p.map (·.add k)) (n - k) (cap - k))) := by
  have hk' : Kept (butOf w b) w (w.setCell ⟨b, 0, none⟩ (.slice (if cap = k then p else p.map (·.add k)) (n - k) (cap - k))) := Kept.setCell _ (a := ⟨b, 0, none⟩) (fun h => h.2 rfl) _
  have hb1 : ∀ q, (Value.slice (if cap = k then p else p.map (·.add k)) (n - k) (cap - k)).ownBlock = some q → q ≠ b := by
    intro q hq
    apply hne q
    cases p with
    | none => by_cases hc : cap = k <;> simp [hc, Value.ownBlock] at hq
    | some a =>
      have e : (a.add k).block = a.block := by unfold Addr.add; split <;> rfl
      by_cases hc : cap = k
      · simp only [hc, if_true, Value.ownBlock] at hq ⊢; exact hq
      · simp only [hc, if_false, Option.map, Value.ownBlock, e] at hq ⊢; exact hq
  have hd := slV_drop hs hk
  rw [← List.map_drop] at hd
  exact ⟨⟨_, heap_setCell_at (o := 0) hb, hd.kept hk' (fun q hq hlt => ⟨hlt, hb1 q hq⟩), hb1, by rw [List.length_drop]; omega⟩, hk'⟩

/-- What get answers, the bits and the error behind it. -/
def pgetTo (l : List Bool) (er k : Int) : Int × List Bool × Int :=
  if er ≠ 0 then (0, l, er)
  else if k < 0 ∨ 57 < k then (0, l, 1)
  else if (l.length : Int) < k then (0, l, 2)
  else (numB (l.take k.toNat), l.drop k.toNat, 0)

theorem numB_take (l : List Bool) (j : Nat) (h : j < l.length) : numB (l.take (j + 1)) = 2 * numB (l.take j) + bi (l.getD j false) := by
  rw [List.take_succ_eq_append_getElem h, numB_snoc]
  simp [List.getD, h]
theorem bool_cell {w : World} {p : Option Addr} {n cap : Nat} {l : List Bool} (h : SlV w (.slice p n cap) (l.map Value.bool)) : n = l.length ∧ (0 < n → ∃ g off, p = some ⟨g, off, none⟩ ∧ ∀ j, j < n → w.cell? ⟨g, off + j, none⟩ = some (.bool (l.getD j false))) := by
  obtain ⟨p', n', cap', e, hn, hc⟩ := h.shape
  simp only [Value.slice.injEq] at e
  obtain ⟨rfl, rfl, rfl⟩ := e
  rw [List.length_map] at hn
  refine ⟨hn, fun h0 => ?_⟩
  obtain ⟨b, off, rfl, hb, _, _, hcell⟩ := hc h0
  exact ⟨b, off, rfl, fun j hj => hcell j _ (by rw [List.getElem?_map, List.getElem?_eq_getElem (by omega)]; simp [List.getD, List.getElem?_eq_getElem (show j < l.length by omega)])⟩

set_option maxHeartbeats 1000000 in
theorem pget_yes (b : Nat) (l : List Bool) (k : Nat) (w : World) (hk : k ≤ 57) (hkl : k ≤ l.length) (h : PlAt w b l 0) :
    Calls Try.prog 23 #[.pointer (some ⟨b, 0, none⟩), .int .i64 k] w fun en w' => en = .returned (.int .u64 (numB (l.take k))) ∧ PlAt w' b (l.drop k) 0 ∧ Kept (butOf w b) w w' := by
  obtain ⟨v, hb, hs, hne, hl⟩ := h
  obtain ⟨p, n, cap, rfl⟩ : ∃ p n cap, v = .slice p n cap := by obtain ⟨p, cap, rfl, _⟩ := hs; exact ⟨_, _, _, rfl⟩
  obtain ⟨c0, c1, f0, f1⟩ := cell2 hb
  obtain ⟨hn, hcell⟩ := bool_cell hs
  have HS := Lib.hid (PlAt.set0 hb hs hne hl (k := k) (by omega))
  have HC := Lib.hid hcell
  have hkn : k ≤ n := by omega
  have hn1 : n ≤ 1600 := by omega
  have HN := Lib.hid hn
  clear hb hs hne hl hcell hn hkl
  go_enter Try.func23, Try.ntmps23
  go_wp2_with fail
  go_loop [5, 6] (fun vv vi => ∃ j : Nat, j ≤ k ∧ vi = .int .i64 j ∧ vv = .int .u64 (numB (l.take j))) (fun _ vi => k - (intOf vi).toNat)
  case atStart => exact ⟨0, by omega, rfl, rfl⟩
  case round =>
    obtain ⟨j, hj, rfl, rfl⟩ := hrel
    by_cases hlt : j < k
    · obtain ⟨g, off, rfl, hc⟩ := HC.out (by omega)
      have hcj := hc j (by omega)
      have hr := numB_range (l.take j)
      have htl : (l.take j).length = j := by rw [List.length_take]; have := HN.out; omega
      rw [htl] at hr
      have hpw := pw_mono j 56 (by omega)
      rw [show pw 56 = 72057594037927936 from rfl] at hpw
      have HT := Lib.hid (numB_take l j (by have := HN.out; omega))
      obtain ⟨r0, r1⟩ := hr
      have r2 : numB (l.take j) ≤ 72057594037927936 := by omega
      clear hc htl hpw r1
      generalize numB (l.take j) = y at *
      cases hx : l.getD j false
      all_goals
        rw [hx] at hcj HT
        clear hx
        go_wp2
        go_round
        case rel => exact ⟨j + 1, by omega, by go_num, by rw [HT.out]; simp [bi]⟩
        case measure => simp [intOf]; omega
    · obtain rfl : j = k := by omega
      have hs := HS.out
      have hif : (if cap = j then p else p.map (·.add j)) = (if cap = j then p else p.map (·.add j)) := rfl
      by_cases hcj : cap = j
      case' pos => rw [if_pos hcj, show cap - j = 0 by omega] at hs
      case' neg => rw [if_neg hcj] at hs
      all_goals
        have HS1 := Lib.hid hs
        clear hs HS hif
        go_wp2_with fail
        go_ret
        exact ⟨rfl, HS1.out⟩

theorem pget_any (b : Nat) (l : List Bool) (er k : Int) (w : World) (h : PlAt w b l er) :
    Calls Try.prog 23 #[.pointer (some ⟨b, 0, none⟩), .int .i64 k] w fun en w' => en = .returned (.int .u64 (pgetTo l er k).1) ∧ PlAt w' b (pgetTo l er k).2.1 (pgetTo l er k).2.2 ∧ Kept (butOf w b) w w' := by
  by_cases her : er = 0
  · subst her
    by_cases hk : k < 0 ∨ 57 < k
    · have e : pgetTo l 0 k = (0, l, 1) := by unfold pgetTo; rw [if_neg (by simp), if_pos hk]
      rw [e]
      have HS := Lib.hid (h.set1 (e := 1))
      obtain ⟨v, hb, hs, hne, hl⟩ := h
      obtain ⟨c0, c1, f0, f1⟩ := cell2 hb
      clear hb hs hne hl e
      rcases hk with hk | hk
      all_goals
        go_enter Try.func23, Try.ntmps23
        go_wp2_with fail
        go_ret
        exact ⟨rfl, HS.out⟩
    · by_cases hlk : (l.length : Int) < k
      · have e : pgetTo l 0 k = (0, l, 2) := by unfold pgetTo; rw [if_neg (by simp), if_neg hk, if_pos hlk]
        rw [e]
        have HS := Lib.hid (h.set1 (e := 2))
        obtain ⟨v, hb, hs, hne, hl⟩ := h
        obtain ⟨p, n, cap, rfl⟩ : ∃ p n cap, v = .slice p n cap := by obtain ⟨p, cap, rfl, _⟩ := hs; exact ⟨_, _, _, rfl⟩
        have hn := (bool_cell hs).1
        obtain ⟨c0, c1, f0, f1⟩ := cell2 hb
        have hkn : (n : Int) < k := by omega
        have hk0 : ¬ k < 0 := by omega
        have hk57 : ¬ 57 < k := by omega
        clear hb hs hne hl e hk hlk hn
        go_enter Try.func23, Try.ntmps23
        go_wp2_with fail
        go_ret
        exact ⟨rfl, HS.out⟩
      · obtain ⟨m, rfl⟩ := Int.eq_ofNat_of_zero_le (show 0 ≤ k by omega)
        have e : pgetTo l 0 m = (numB (l.take m), l.drop m, 0) := by unfold pgetTo; rw [if_neg (by simp), if_neg hk, if_neg hlk]; rfl
        rw [e]
        exact pget_yes b l m w (by omega) (by omega) h
  · have e : pgetTo l er k = (0, l, er) := by unfold pgetTo; rw [if_pos her]
    rw [e]
    have HS := Lib.hid h
    obtain ⟨v, hb, hs, hne, hl⟩ := h
    obtain ⟨c0, c1, f0, f1⟩ := cell2 hb
    have hb1 : (er == 0) = false := by simpa using her
    have hb2 : (er != 0) = true := by simpa using her
    clear hb hs hne hl e her
    go_enter Try.func23, Try.ntmps23
    go_wp2_with fail
    go_ret
    exact ⟨rfl, HS.out, Kept.refl _ _⟩

/-- What signed answers. -/
def psgnTo (l : List Bool) (er k : Int) : Int :=
  if (pgetTo l er k).2.2 ≠ 0 ∨ k < 1 then 0 else if pw (k.toNat - 1) ≤ (pgetTo l er k).1 then (pgetTo l er k).1 - pw k.toNat else (pgetTo l er k).1
theorem pgetTo_range (l : List Bool) (er k : Int) : 0 ≤ (pgetTo l er k).1 ∧ (pgetTo l er k).1 < 144115188075855872 ∧ ((pgetTo l er k).2.2 = 0 → 0 ≤ k ∧ k ≤ 57) := by
  unfold pgetTo
  split
  · rename_i h; exact ⟨by simp, by simp, fun h' => absurd h' h⟩
  · split
    · exact ⟨by simp, by simp, fun h => by simp at h⟩
    · split
      · exact ⟨by simp, by simp, fun h => by simp at h⟩
      · have := numB_range (l.take k.toNat)
        rw [List.length_take, Nat.min_eq_left (by omega)] at this
        have hm := pw_mono k.toNat 57 (by omega)
        rw [show pw 57 = 144115188075855872 from rfl] at hm
        exact ⟨this.1, by simp only []; omega, fun _ => by omega⟩

set_option maxHeartbeats 400000 in
theorem psigned_any (b : Nat) (l : List Bool) (er k : Int) (w : World) (h : PlAt w b l er) :
    Calls Try.prog 24 #[.pointer (some ⟨b, 0, none⟩), .int .i64 k] w fun en w' => en = .returned (.int .i64 (psgnTo l er k)) ∧ PlAt w' b (pgetTo l er k).2.1 (pgetTo l er k).2.2 ∧ Kept (butOf w b) w w' := by
  have hr := pgetTo_range l er k
  have cG := Lib.hid (pget_any b l er k w h)
  unfold psgnTo
  generalize pgetTo l er k = g at *
  obtain ⟨g, gl, ge⟩ := g
  simp only [] at *
  obtain ⟨r0, r1, r2⟩ := hr
  clear h
  by_cases he : ge = 0
  · obtain ⟨k0, k1⟩ := r2 he
    subst he
    by_cases hk : k < 1
    · rw [if_pos (.inr hk)]
      clear r2
      go_enter Try.func24, Try.ntmps24
      go_wp2_with fail
      refine cG.out.mono ?_
      rintro e w1 ⟨rfl, hg⟩
      have HG := Lib.hid hg
      obtain ⟨⟨v, hb, _⟩, _⟩ := hg
      obtain ⟨c0, c1, f0, f1⟩ := cell2 hb
      clear hb
      go_wp2_with fail
      go_ret
      exact ⟨rfl, HG.out⟩
    · rw [if_neg (by omega)]
      have hp := pw_pos (k.toNat - 1)
      have hq := pw_le (k.toNat - 1) (by omega)
      have hp' := pw_pos k.toNat
      have hq' := pw_le k.toNat (by omega)
      have c1' := Lib.hid (fun w' => power_any (k - 1) w' (by omega) (by omega))
      have c2' := Lib.hid (fun w' => power_any k w' (by omega) (by omega))
      have ek : (k - 1).toNat = k.toNat - 1 := by omega
      rw [ek] at c1'
      clear ek r2
      generalize pw (k.toNat - 1) = h1 at *
      generalize pw k.toNat = h2 at *
      by_cases hlt : h1 ≤ g
      · rw [if_pos hlt]
        go_enter Try.func24, Try.ntmps24
        go_wp2_with fail
        refine cG.out.mono ?_
        rintro e w1 ⟨rfl, hg⟩
        have HG := Lib.hid hg
        obtain ⟨⟨v, hb, _⟩, _⟩ := hg
        obtain ⟨c0, c1, f0, f1⟩ := cell2 hb
        clear hb
        go_wp2_with fail
        refine (c1'.out _).mono ?_
        rintro e w2 ⟨rfl, rfl⟩
        go_wp2_with fail
        refine (c2'.out _).mono ?_
        rintro e w2 ⟨rfl, rfl⟩
        go_wp2_with fail
        go_ret
        exact ⟨rfl, HG.out⟩
      · rw [if_neg hlt]
        go_enter Try.func24, Try.ntmps24
        go_wp2_with fail
        refine cG.out.mono ?_
        rintro e w1 ⟨rfl, hg⟩
        have HG := Lib.hid hg
        obtain ⟨⟨v, hb, _⟩, _⟩ := hg
        obtain ⟨c0, c1, f0, f1⟩ := cell2 hb
        clear hb
        go_wp2_with fail
        refine (c1'.out _).mono ?_
        rintro e w2 ⟨rfl, rfl⟩
        go_wp2_with fail
        go_ret
        exact ⟨rfl, HG.out⟩
  · rw [if_pos (.inl he)]
    have hb2 : (ge != 0) = true := by simpa using he
    clear r2 he
    go_enter Try.func24, Try.ntmps24
    go_wp2_with fail
    refine cG.out.mono ?_
    rintro e w1 ⟨rfl, hg⟩
    have HG := Lib.hid hg
    obtain ⟨⟨v, hb, _⟩, _⟩ := hg
    obtain ⟨c0, c1, f0, f1⟩ := cell2 hb
    clear hb
    go_wp2_with fail
    go_ret
    exact ⟨rfl, HG.out⟩
end Go.Proofs.Ytbbjleblfhaclaa
