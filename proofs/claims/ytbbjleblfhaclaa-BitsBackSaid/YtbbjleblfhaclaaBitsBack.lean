/- BitsBack: whatever numbers are laid, those that don't fit left out, each is read as it was, with a sign or without; and behind them fewer than eight bits are left, all of them 0, and End is content (1.2, 1.3: up to 40 numbers); and the chapter's example holds. No condition. -/
import Derived.Test.YtbbjleblfhaclaaRows
import Derived.Test.YtbbjleblfhaclaaBack
import Derived.Test.YtbbjleblfhaclaaAwake
import Derived.Deep.RegionHeld3
import Derived.Deep.DrawnRows
import Derived.Deep.DeepCutAuto
import Derived.Deep.CutBlock
import Derived.Deep.LoopGhost
namespace Go.Proofs.Ytbbjleblfhaclaa.bitsBack
open Go.ChangeShapes Go.WideShapes Go.ChangeAt Go.RowKit
set_option linter.unusedVariables false
set_option linter.unusedSimpArgs false
attribute [local go_sem ↓] Go.wp_at_zero Go.wp_at_succ

theorem Try.infoItem : (Try.prog.info? 34).map (fun i => (i.zero, i.size, i.bytes)) = some (some (.agg #[.bool false, .int .i64 0, .int .i64 0]), 3, 24) := by kernel_rfl

/-- The state of the first loop: all that is kept has been laid. -/
def R (w : World) (j : Nat) (va : Value) (wr : World) : Prop :=
  ∃ vw ks, WrV wr w.heap.size vw (bitsK ks) 0 ∧ (∀ q, vw.ownBlock = some q → w.heap.size < q) ∧
    ownS (fun q => q ≤ w.heap.size ∨ vw.ownBlock = some q) wr 34 3 va ks.length (cellsK ks) ∧ Old w wr ∧ AllV ks ∧ ks.length ≤ j

/-- What the round's two calls leave. -/
theorem R_step {w wr w1 w2 : World} {vw va : Value} {n : Nat} {xs : List Value} {L0 L1 : List Bool} {e0 e1 : Int} (hV : WrV wr w.heap.size vw L0 e0) (hvN : ∀ q, vw.ownBlock = some q → w.heap.size < q)
    (hA : ownS (fun q => q ≤ w.heap.size ∨ vw.ownBlock = some q) wr 34 3 va n xs) (hO : Old w wr) (h1 : Old wr w1)
    (h2 : WrAt w2 (restOf w1 w.heap.size vw) w.heap.size L1 e1) (h3 : Kept (restOf w1 w.heap.size vw) w1 w2) :
    ∃ vw', WrV w2 w.heap.size vw' L1 e1 ∧ (∀ q, vw'.ownBlock = some q → w.heap.size < q) ∧ ownS (fun q => q ≤ w.heap.size ∨ vw'.ownBlock = some q) w2 34 3 va n xs ∧ Old w w2 := by
  obtain ⟨vw', hV', hn⟩ := WrAt.toV h2
  have hNw := lt_of_block hV.1
  have hs1 := h1.size
  have hs3 := h3.size
  have hOws := hO.size
  have own' : ∀ q, vw'.ownBlock = some q → w.heap.size < q := fun q hq => by
    rcases (hn q hq).2 with h | h
    · exact hvN q h
    · omega
  have hA1 := hA.old h1
  have hAr : ∀ q, va.ownBlock = some q → restOf w1 w.heap.size vw q := fun q hq => ⟨hA1.lt q hq, fun e => hA.2 q hq (.inl (by omega)), fun e => hA.2 q hq (.inr e)⟩
  have hA2 := (hA1.kept h3 hAr)
  have hdis : ∀ q, va.ownBlock = some q → ¬ (q ≤ w.heap.size ∨ vw'.ownBlock = some q) := by
    rintro q hq (h | h)
    · exact hA.2 q hq (.inl h)
    · rcases (hn q h).2 with h' | h'
      · exact hA.2 q hq (.inr h')
      · have := hA1.lt q hq; omega
  have hO2 : Old w w2 := (hO.trans h1).after h3 (fun q hq => ⟨by omega, by omega, fun e => by have := hvN q e; omega⟩)
  exact ⟨vw', hV', own', hA2.mono hdis, hO2⟩

theorem R_grow {w w2 w3 : World} {vw va' : Value} {ks : List It} {x : It} {j : Nat} {o : Obj} (hV : WrV w2 w.heap.size vw (bitsK (ks ++ [x])) 0) (hvN : ∀ q, vw.ownBlock = some q → w.heap.size < q) (hO : Old w w2) (hall : AllV (ks ++ [x])) (hj : ks.length ≤ j)
    (h1 : ownS (fun q => q ≤ w.heap.size ∨ vw.ownBlock = some q) w3 34 3 va' (ks.length + 1) (cellsK ks ++ [.bool x.1, .int .i64 x.2.1, .int .i64 x.2.2])) (h2 : Kept (fun q => q ≤ w.heap.size ∨ vw.ownBlock = some q) (w2.alloc o) w3) : R w (j + 1) va' w3 := by
  have hX : ∀ q, (q ≤ w.heap.size ∨ vw.ownBlock = some q) → q < w2.heap.size := by
    rintro q (h | h)
    · have := lt_of_block hV.1; omega
    · exact hV.2.lt q h
  have hkk : Kept (fun q => q ≤ w.heap.size ∨ vw.ownBlock = some q) w2 w3 := (Kept.alloc w2 o hX).trans h2
  refine ⟨vw, ks ++ [x], hV.kept hkk (.inl (Nat.le_refl _)) (fun q hq => .inr hq), hvN, ?_, hO.after hkk (fun q hq => .inl (by omega)), hall, by simp; omega⟩
  rw [cellsK_snoc]
  simpa using h1

theorem laid_some (s : Bool) (v k : Int) (w : World) : Calls Try.prog 11 #[.agg #[.bool s, .int .i64 v, .int .i64 k]] w fun e w' => ∃ vb, e = .returned (.tuple #[vb, .bool (validI s v k)]) ∧ Old w w' := by
  cases h : validI s v k with
  | false => exact (laid_no s v k w h).mono fun e w' hh => ⟨_, hh.1, hh.2⟩
  | true => exact (laid_yes s v k w h).mono fun e w' ⟨vb, h1, _, h2⟩ => ⟨vb, h1, h2⟩

theorem item_oneCell (x : It) : ∀ u ∈ [Value.bool x.1, .int .i64 x.2.1, .int .i64 x.2.2], u.oneCell' = true := by
  intro u hu
  simp only [List.mem_cons, List.mem_nil_iff, or_false] at hu
  rcases hu with rfl | rfl | rfl <;> rfl
theorem news_three (w : World) (x y z : Value) (t : TypeId) : ∀ (j : Nat) (u : Value), [x, y, z][j]? = some u → (w.alloc (.cells #[x, y, z] t)).cell? ((⟨w.heap.size, 0, none⟩ : Addr).add j) = some u := by
  intro j u h
  rw [add_plain, Nat.zero_add]
  have hc := cell3 (heap_alloc_new w (.cells #[x, y, z] t))
  match j, h with
  | 0, h => simp at h; subst h; exact hc.1
  | 1, h => simp at h; subst h; exact hc.2.1
  | 2, h => simp at h; subst h; exact hc.2.2.1
  | n + 3, h => simp at h

theorem own_shape3 {X : Nat → Prop} {w : World} {e : TypeId} {v : Value} {n : Nat} {xs : List Value} (h : ownS X w e 3 v n xs) :
    ∃ p cap, v = .slice p n cap ∧ (0 < n → ∃ g, p = some ⟨g, 0, none⟩ ∧ g < w.heap.size ∧ ∀ i u, xs[i]? = some u → w.cell? ⟨g, i, none⟩ = some u) := by
  rcases h.shape with ⟨rfl, rfl⟩ | ⟨g, cap, rfl, _, h1, _, _, h2⟩
  · exact ⟨none, 0, rfl, fun h => by omega⟩
  · exact ⟨_, cap, rfl, fun _ => ⟨g, rfl, h1, h2⟩⟩
theorem bytes_padded (L : List Bool) (n : Nat) : isBytes (padded L n) := by
  intro x hx
  simp only [padded, List.mem_map] at hx
  obtain ⟨i, _, rfl⟩ := hx
  exact byteAt_range L i
/-- The state of the second loop: j numbers have been read. -/
def R2 (w : World) (br : Nat) (bs : List Int) (ks : List It) (j : Nat) (wr : World) : Prop := RdAt wr br bs (posK ks j) 0 ∧ Kept (butOf w br) w wr

/-- What the first loop leaves. -/
def R1 (w : World) (va : Value) (wr : World) : Prop := ∃ j, R w j va wr ∧ j ≤ 40

set_option maxRecDepth 100000 in
set_option maxHeartbeats 8000000 in
theorem walk (its : List It) (p : Option Addr) (n cap : Nat) (w : World) (hv : SlIt w (.slice p n cap) its) :
    Calls Try.prog 5 #[.slice p n cap] w fun e w' => e = .returned (.bool true) ∧ Old w w' := by
  obtain ⟨p', cap', e, hn, hit, hc⟩ := hv
  simp only [Value.slice.injEq] at e
  obtain ⟨rfl, hnl, rfl⟩ := e
  have hn63 : n ≤ 9223372036854775807 := by omega
  have hst : R w 0 (.slice none 0 0) (w.alloc (.cells #[.slice none 0 0, .int .i64 0, .int .i64 0] 29)) :=
    ⟨.slice none 0 0, [], ⟨heap_alloc_new _ _, by simpa [bitsK, nb, bytesOf] using ownX.nil _ _ 5⟩, (fun q hq => by cases hq), by simpa [cellsK] using ownS.nil _ _ 34 3, Old.alloc _ _, (fun x hx => by cases hx), Nat.le_refl _⟩
  have HST := Lib.hid hst; have HC := Lib.hid hc; have HIT := Lib.hid hit; have HN := Lib.hid hnl
  obtain ⟨i0, hi, hz0, hz1, hz2⟩ := info_parts Try.infoItem
  clear hst hc hit hnl
  go_enter Try.func5, Try.ntmps5
  go_upto_block 0 with (fail)
  go_cut [4] (fun va wx => R1 w va wx)
  case first =>
    go_wp2_with fail
    go_loopw [4, 5] (fun va vi wr => ∃ j : Nat, j ≤ n ∧ j ≤ 40 ∧ vi = .int .i64 j ∧ R w j va wr) (fun _ vi _ => n - (intOf vi).toNat)
    case atStart => exact ⟨0, by omega, by omega, rfl, HST.out⟩
    case round =>
      obtain ⟨j, hj, hj40, rfl, hR⟩ := hrel
      by_cases hlt : j < n ∧ j < 40
      · obtain ⟨hlt, hl40⟩ := hlt
        obtain ⟨b, off, rfl, hb, hcell⟩ := HC.out (by intro e; have := HN.out; rw [e] at this; simp at this; omega)
        have hjl : j < its.length := by rw [← HN.out]; exact hlt
        obtain ⟨x, hx⟩ : ∃ x, its[j]? = some x := ⟨_, List.getElem?_eq_getElem hjl⟩
        have hir := HIT.out x (List.mem_of_getElem? hx)
        obtain ⟨xs, xv, xk⟩ := x
        obtain ⟨y0, y1, y2⟩ := hcell j _ hx
        simp only [] at y0 y1 y2 hir
        obtain ⟨hv0, hv1⟩ := hir
        obtain ⟨vw, ks, hV, hvN, hA, hO, hall, hkl⟩ := hR
        have z0 := (hO.cell (a := ⟨b, off + j * 3, none⟩) hb).trans y0
        have z1 := (hO.cell (a := ⟨b, off + j * 3 + 1, none⟩) hb).trans y1
        have z2 := (hO.cell (a := ⟨b, off + j * 3 + 2, none⟩) hb).trans y2
        have hlenL := bitsK_len ks hall
        have hlenL' : (bitsK ks).length ≤ 2280 := by omega
        have HV := Lib.hid hV; have HVN := Lib.hid hvN; have HA := Lib.hid hA; have HO := Lib.hid hO; have HALL := Lib.hid hall
        clear hx hcell y0 y1 y2 hV hvN hA hO hall hlenL
        cases hval : validI xs xv xk with
        | true =>
          have cl := Lib.hid (fun w' => laid_some xs xv xk w')
          rw [hval] at cl
          have hall' : AllV (ks ++ [(xs, xv, xk)]) := by
            intro y hy
            rcases List.mem_append.1 hy with h | h
            · exact HALL.out y h
            · simp only [List.mem_singleton] at h; subst h; exact ⟨hval, hv0, hv1⟩
          have HALL' := Lib.hid hall'
          have hput : putI (bitsK ks) 0 xs xv xk = (bitsK (ks ++ [(xs, xv, xk)]), 0) := by
            unfold putI; rw [if_neg (by simp), if_pos hval, bitsK_snoc]
          have HPUT := Lib.hid hput
          clear hall' hput hval
          go_wp2_with fail
          refine (cl.out _).mono ?_
          rintro e w1 ⟨vb, rfl, hO1⟩
          have c2 := Lib.hid (lay_item (restOf w1 w.heap.size _) w.heap.size (bitsK ks) _ xs xv xk w1 (by omega) hv0 hv1 (HV.out.old hO1).rest)
          rw [HPUT.out] at c2
          have HO1 := Lib.hid hO1
          have z0' := (hO1.cell (a := ⟨b, off + j * 3, none⟩) (Nat.lt_of_lt_of_le hb HO.out.size)).trans z0
          have z1' := (hO1.cell (a := ⟨b, off + j * 3 + 1, none⟩) (Nat.lt_of_lt_of_le hb HO.out.size)).trans z1
          have z2' := (hO1.cell (a := ⟨b, off + j * 3 + 2, none⟩) (Nat.lt_of_lt_of_le hb HO.out.size)).trans z2
          clear hO1 z0 z1 z2 cl
          go_wp2_with fail
          refine c2.out.mono ?_
          rintro e w2 ⟨rfl, hw2, hk2⟩
          have hbw : b < w1.heap.size := Nat.lt_of_lt_of_le hb (Nat.le_trans HO.out.size HO1.out.size)
          have hbr : restOf w1 w.heap.size vw b := ⟨hbw, by omega, fun e => by have := HVN.out b e; omega⟩
          have y0 := (hk2.cell (a := ⟨b, off + j * 3, none⟩) hbr).trans z0'
          have y1 := (hk2.cell (a := ⟨b, off + j * 3 + 1, none⟩) hbr).trans z1'
          have y2 := (hk2.cell (a := ⟨b, off + j * 3 + 2, none⟩) hbr).trans z2'
          obtain ⟨vw', hV', hvN', hA', hO'⟩ := R_step HV.out HVN.out HA.out HO.out HO1.out hw2 hk2
          have HNX := Lib.hid (fun va' w3 o h1 h2 => R_grow (va' := va') (w3 := w3) (o := o) hV' hvN' hO' HALL'.out hkl h1 h2)
          have HXA := Lib.hid (fun (o : Obj) (q : Nat) (hq : q ≤ w.heap.size ∨ vw'.ownBlock = some q) => (show q < (w2.alloc o).heap.size from by
            rcases hq with h | h
            · have := lt_of_block hV'.1; simp; omega
            · have := hV'.2.lt q h; simp; omega))
          have hk41 : ks.length ≤ 40 := by omega
          clear z0' z1' z2' hw2 hk2 hbw hbr hV' hvN' hO' HV HVN HA HO HO1 HALL HALL' HPUT c2
          go_wp2_with ((at_builtin; refine append_S _ rfl _ _ 24 rfl (fun q => q ≤ w.heap.size ∨ vw'.ownBlock = some q) 34 i0 (.agg #[.bool false, .int .i64 0, .int .i64 0]) 3 24 Try.underlying24 hi hz0 hz1 hz2 rfl (by decide) _ _ _ rfl (hA'.old (Old.alloc _ _)) ⟨_, 0, none⟩ 1 1 [.bool xs, .int .i64 xv, .int .i64 xk] rfl rfl (news_three _ _ _ _ _) (item_oneCell (xs, xv, xk)) (by unfold maxLen; omega) (by omega) (HXA.out _) ?_; intro v' w3 hown3 hk3 _; have hn3 := Lib.hid (HNX.out v' w3 _ hown3 hk3); clear hA' hown3 hk3))
          go_roundw
          case rel => exact ⟨j + 1, by omega, by omega, by go_num, hn3.out⟩
          case measure => simp [intOf]; omega
        | false =>
          have cl := Lib.hid (fun w' => laid_some xs xv xk w')
          rw [hval] at cl
          clear hval
          go_wp2_with fail
          refine (cl.out _).mono ?_
          rintro e w1 ⟨vb, rfl, hO1⟩
          have hR1 : R w (j + 1) _ w1 := ⟨vw, ks, HV.out.old hO1, HVN.out, HA.out.old hO1, HO.out.trans hO1, HALL.out, by omega⟩
          have HR1 := Lib.hid hR1
          clear hO1 hR1 z0 z1 z2 cl HV HVN HA HO HALL
          go_wp2_with fail
          go_roundw
          case rel => exact ⟨j + 1, by omega, by omega, by go_num, HR1.out⟩
          case measure => simp [intOf]; omega
      · have hR1 : R1 w _ wr := ⟨j, hR, hj40⟩
        have HR1 := Lib.hid hR1
        have hj40' : ¬ (j < n) ∨ ¬ (j < 40) := by omega
        clear hR hR1 HC HIT HN HST hlt
        by_cases hjn : j < n
        case' pos => have hj4 : ¬ j < 40 := by omega
        all_goals
          clear hj40'
          go_wp2_with fail
          go_meet
          exact HR1.out
  case rest =>
    obtain ⟨j, hR, hj40⟩ := hcut
    obtain ⟨wr, rfl⟩ : ∃ wr, wr = wc := ⟨_, rfl⟩
    obtain ⟨vw, ks, hV, hvN, hA, hO, hall, hkl⟩ := hR
    have hlenL := bitsK_len ks hall
    have hlenL' : (bitsK ks).length ≤ 2280 := by omega
    obtain ⟨pv, cv, rfl, hcK⟩ := own_shape3 hA
    have hkk : ks.length ≤ 40 := by omega
    have hbl := lt_of_block hV.1
    have cN := Lib.hid (Len_any _ _ _ _ _ hV.rest)
    have cB := Lib.hid (Bytes_any _ _ _ _ (((bitsK ks).length + 7) / 8 : Int) _ hV.rest)
    have hnb : (((bitsK ks).length : Int) + 7) / 8 = (nb (bitsK ks) : Int) := by simp only [nb]; omega
    have he : bytesErr (bitsK ks) 0 ((((bitsK ks).length : Int) + 7) / 8) = 0 := by
      rw [hnb]; simp [bytesErr]; simp only [nb]; omega
    have hl : bytesL (bitsK ks) 0 ((((bitsK ks).length : Int) + 7) / 8) = padded (bitsK ks) (nb (bitsK ks)) := by
      unfold bytesL; rw [if_pos he, hnb, Int.toNat_natCast]
    rw [he, hl] at cB
    have hnb8 : (bitsK ks).length ≤ 8 * nb (bitsK ks) ∧ 8 * nb (bitsK ks) < (bitsK ks).length + 8 := by simp only [nb]; omega
    have HALL := Lib.hid hall; have HO := Lib.hid hO; have HCK := Lib.hid hcK
    have hNX := Lib.hid (fun j x hx => next_item ks j x (nb (bitsK ks)) hx hall hnb8.1)
    have hRS := Lib.hid (rest_padded (bitsK ks) (nb (bitsK ks)) hnb8.1)
    have hPE : posK ks ks.length = (bitsK ks).length := by unfold posK; rw [List.take_of_length_le (Nat.le_refl _)]
    have HPE := Lib.hid hPE
    obtain ⟨hnb1, hnb2⟩ := hnb8
    clear hV hvN hA hO hall hlenL hnb he hl hcK hPE HC HIT HN HST
    generalize nb (bitsK ks) = nn at *
    generalize (bitsK ks).length = ll at *
    have hfe : ∀ z, z < ks.length → ∃ x, ks[z]? = some x := fun z hz => ⟨_, List.getElem?_eq_getElem hz⟩
    have HFE := Lib.hid hfe
    clear hfe
    generalize ks.length = nk at *
    go_wp2_with fail
    refine cN.out.mono ?_
    rintro e w' ⟨rfl, rfl⟩
    go_wp2_with fail
    refine cB.out.mono ?_
    rintro e w3 ⟨p3, n3, c3, rfl, hn3, hs3, ho3⟩
    have cR := Lib.hid (Read_any _ _ w3 hs3 (bytes_padded _ _) (by rw [length_padded]; omega))
    have HO3 := Lib.hid ho3
    clear hn3 hs3 ho3 cN cB
    go_wp2_with fail
    refine cR.out.mono ?_
    rintro e w4 ⟨br, rfl, hr4, ho4, hbr⟩
    have hst2 : R2 w4 br (padded (bitsK ks) nn) ks 0 w4 := ⟨by simpa [posK, bitsK] using hr4, Kept.refl _ _⟩
    have HST2 := Lib.hid hst2
    have hck4 : 0 < nk → ∃ g, pv = some ⟨g, 0, none⟩ ∧ ∀ i u, (cellsK ks)[i]? = some u → ∀ w5, Kept (butOf w4 br) w4 w5 → w5.cell? ⟨g, i, none⟩ = some u := by
      intro h0
      obtain ⟨g, hg, hglt, hgc⟩ := HCK.out h0
      refine ⟨g, hg, fun i u hu w5 hk5 => ?_⟩
      have g3 := HO3.out.size
      have g4 := ho4.size
      exact (hk5.cell (a := ⟨g, i, none⟩) ⟨by show g < _; omega, by show g ≠ _; omega⟩).trans (((HO3.out.trans ho4).cell (a := ⟨g, i, none⟩) hglt).trans (hgc i u hu))
    have HCK4 := Lib.hid hck4
    have HO4 := Lib.hid ((HO.out.trans HO3.out).trans ho4)
    have hbrw : w.heap.size ≤ br := by have := HO.out.size; have := HO3.out.size; omega
    clear hr4 ho4 hst2 hck4 HCK cR HO HO3 hbr
    go_wp2_with fail
    go_loopw [11] (fun vi wr => ∃ j2 : Nat, j2 ≤ nk ∧ vi = .int .i64 j2 ∧ R2 w4 br (padded (bitsK ks) nn) ks j2 wr) (fun vi _ => nk - (intOf vi).toNat)
    case atStart => exact ⟨0, by omega, rfl, HST2.out⟩
    case round =>
      obtain ⟨j2, hj2, rfl, hR2⟩ := hrel
      by_cases hlt2 : j2 < nk
      · obtain ⟨g, rfl, hgc⟩ := HCK4.out (by omega)
        obtain ⟨x, hx⟩ := HFE.out j2 hlt2
        obtain ⟨q0, q1, q2⟩ := cellsK_get ks j2 x hx
        have hk5 : Kept (butOf w4 br) w4 wr.drew := hR2.2.drew
        have hcs : ∀ w5, Kept (butOf w4 br) w4 w5 → w5.cell? ⟨g, j2 * 3, none⟩ = some (.bool x.1) ∧ w5.cell? ⟨g, j2 * 3 + 1, none⟩ = some (.int .i64 x.2.1) ∧ w5.cell? ⟨g, j2 * 3 + 2, none⟩ = some (.int .i64 x.2.2) := fun w5 h5 => ⟨hgc _ _ q0 w5 h5, hgc _ _ q1 w5 h5, hgc _ _ q2 w5 h5⟩
        have hd0 := Lib.hid (hcs _ hk5)
        have HCS := Lib.hid hcs
        obtain ⟨hnx, _⟩ := hNX.out j2 x hx
        have hv := HALL.out x (List.mem_of_getElem? hx)
        have hrd : RdAt wr.drew br (padded (bitsK ks) nn) (posK ks j2) 0 := hR2.1.kept ((Kept.refl (fun _ => True) wr).drew) (fun _ _ => trivial)
        have hk6 : ∀ w6, RdAt w6 br (padded (bitsK ks) nn) (posK ks (j2 + 1)) 0 → Kept (butOf wr.drew br) wr.drew w6 → R2 w4 br (padded (bitsK ks) nn) ks (j2 + 1) w6 := fun w6 h1 h2 => ⟨h1, hk5.trans (h2.mono fun q hq => ⟨Nat.lt_of_lt_of_le hq.1 hk5.size, hq.2⟩)⟩
        obtain ⟨xs, xv, xk⟩ := x
        simp only [] at hv hnx hd0 HCS
        obtain ⟨hval, hv0, hv1⟩ := hv
        have hni := numB_bitsI xs xv xk hval
        obtain ⟨hn1, hk0, hk1, hpos⟩ := hni
        have hj3 : (j2 : Int) < (nk : Int) := by omega
        have hj4' : (0 : Int) ≤ (j2 : Int) := by omega
        cases xs with
        | true =>
          have hsg : sgnTo (padded (bitsK ks) nn) (posK ks j2) 0 xk = xv := by
            unfold sgnTo; rw [hnx]; exact sgn_bitsI xv xk hval
          have cS := Lib.hid ((RSigned_any br _ _ 0 xk wr.drew (by omega) hrd).mono fun en w6 ⟨e, h1, h2⟩ => (⟨by rw [hsg] at e; exact e, hk6 w6 (by rw [hnx] at h1; exact h1) h2⟩ : en = Ending.returned (.int .i64 xv) ∧ R2 w4 br (padded (bitsK ks) nn) ks (j2 + 1) w6))
          clear hcs hgc q0 q1 q2 hk5 hnx hrd hk6 hR2 hx hval hn1 hpos hsg
          go_wp2_with fail
          refine wp_region_held_drew (S := (fun w' => w'.cell? ⟨g, j2 * 3, none⟩ = some (.bool true) ∧ w'.cell? ⟨g, j2 * 3 + 1, none⟩ = some (.int .i64 xv) ∧ w'.cell? ⟨g, j2 * 3 + 2, none⟩ = some (.int .i64 xk))) (by kernel_rfl) ?_ (fun hHeld => ?_)
          · (try dsimp only); (first | exact hd0.out | exact hd1.out)
          refine wpAnyH_take (i := 0) (oi := ⟨some _, _, _, _, _, _⟩) (v := ?_) rfl (by kernel_rfl) (by kernel_rfl) (by kernel_rfl) (fun _ _ _ h => h) (Or.inl ⟨by kernel_rfl, ?_⟩) (by assumption) ?_; rotate_left; (intro w hSw; (try dsimp only at hSw); go_simp; try with_reducible rfl); try simp only [Act.put, List.setIfInBounds_toArray, List.set_cons_zero, List.set_cons_succ]
          refine wpAnyH_take (i := 1) (oi := ⟨some _, _, _, _, _, _⟩) (v := ?_) rfl (by kernel_rfl) (by kernel_rfl) (by kernel_rfl) (fun _ _ _ h => h) (Or.inl ⟨by kernel_rfl, ?_⟩) (by assumption) ?_; rotate_left; (intro w hSw; (try dsimp only at hSw); go_simp; try with_reducible rfl); try simp only [Act.put, List.setIfInBounds_toArray, List.set_cons_zero, List.set_cons_succ]
          refine wpAnyH_take (i := 2) (oi := ⟨some _, _, _, _, _, _⟩) (v := ?_) rfl (by kernel_rfl) (by kernel_rfl) (by kernel_rfl) (fun _ _ _ h => h) (Or.inl ⟨by kernel_rfl, ?_⟩) (by assumption) ?_; rotate_left; (intro w hSw; (try dsimp only at hSw); go_simp; try with_reducible rfl); try simp only [Act.put, List.setIfInBounds_toArray, List.set_cons_zero, List.set_cons_succ]
          refine wpAnyH_take (i := 3) (oi := ⟨some _, _, _, _, _, _⟩) (v := ?_) rfl (by kernel_rfl) (by kernel_rfl) (by kernel_rfl) (fun _ _ _ h => h) (Or.inl ⟨by kernel_rfl, ?_⟩) (by assumption) ?_; rotate_left; (intro w hSw; (try dsimp only at hSw); go_simp; try with_reducible rfl); try simp only [Act.put, List.setIfInBounds_toArray, List.set_cons_zero, List.set_cons_succ]
          refine wpAnyH_take (i := 4) (oi := ⟨some _, _, _, _, _, _⟩) (v := ?_) rfl (by kernel_rfl) (by kernel_rfl) (by kernel_rfl) (fun _ _ _ h => h) (Or.inl ⟨by kernel_rfl, ?_⟩) (by assumption) ?_; rotate_left; (intro w hSw; (try dsimp only at hSw); go_simp; try with_reducible rfl); try simp only [Act.put, List.setIfInBounds_toArray, List.set_cons_zero, List.set_cons_succ]
          refine wpAnyH_take (i := 5) (oi := ⟨some _, _, _, _, _, _⟩) (v := ?_) rfl (by kernel_rfl) (by kernel_rfl) (by kernel_rfl) (fun _ _ _ h => h) (Or.inl ⟨by kernel_rfl, ?_⟩) (by assumption) ?_; rotate_left; (intro w hSw; (try dsimp only at hSw); go_simp; try with_reducible rfl); try simp only [Act.put, List.setIfInBounds_toArray, List.set_cons_zero, List.set_cons_succ]
          refine wpAnyH_take (i := 6) (oi := ⟨some _, _, _, _, _, _⟩) (v := ?_) rfl (by kernel_rfl) (by kernel_rfl) (by kernel_rfl) (fun _ _ _ h => h) (Or.inl ⟨by kernel_rfl, ?_⟩) (by assumption) ?_; rotate_left; (intro w hSw; (try dsimp only at hSw); go_simp; try with_reducible rfl); try simp only [Act.put, List.setIfInBounds_toArray, List.set_cons_zero, List.set_cons_succ]
          refine wpAnyH_take (i := 7) (oi := ⟨some _, _, _, _, _, _⟩) (v := ?_) rfl (by kernel_rfl) (by kernel_rfl) (by kernel_rfl) (fun _ _ _ h => h) (Or.inl ⟨by kernel_rfl, ?_⟩) (by assumption) ?_; rotate_left; (intro w hSw; (try dsimp only at hSw); go_simp; try with_reducible rfl); try simp only [Act.put, List.setIfInBounds_toArray, List.set_cons_zero, List.set_cons_succ]
          refine wpAnyH_take (i := 8) (oi := ⟨some _, _, _, _, _, _⟩) (v := ?_) rfl (by kernel_rfl) (by kernel_rfl) (by kernel_rfl) (fun _ _ _ h => h) (Or.inl ⟨by kernel_rfl, ?_⟩) (by assumption) ?_; rotate_left; (intro w hSw; (try dsimp only at hSw); go_simp; try with_reducible rfl); try simp only [Act.put, List.setIfInBounds_toArray, List.set_cons_zero, List.set_cons_succ]
          refine wpAnyH_take (i := 9) (oi := ⟨some _, _, _, _, _, _⟩) (v := ?_) rfl (by kernel_rfl) (by kernel_rfl) (by kernel_rfl) (fun _ _ _ h => h) (Or.inl ⟨by kernel_rfl, ?_⟩) (by assumption) ?_; rotate_left; (intro w hSw; (try dsimp only at hSw); go_simp; try with_reducible rfl); try simp only [Act.put, List.setIfInBounds_toArray, List.set_cons_zero, List.set_cons_succ]
          refine wpAnyH_take (i := 10) (oi := ⟨some _, _, _, _, _, _⟩) (v := ?_) rfl (by kernel_rfl) (by kernel_rfl) (by kernel_rfl) (fun _ _ _ h => h) (Or.inl ⟨by kernel_rfl, ?_⟩) (by assumption) ?_; rotate_left; (intro w hSw; (try dsimp only at hSw); go_simp; try with_reducible rfl); try simp only [Act.put, List.setIfInBounds_toArray, List.set_cons_zero, List.set_cons_succ]
          refine wpAnyH_take (i := 11) (oi := ⟨some _, _, _, _, _, _⟩) (v := ?_) rfl (by kernel_rfl) (by kernel_rfl) (by kernel_rfl) (fun _ _ _ h => h) (Or.inl ⟨by kernel_rfl, ?_⟩) (by assumption) ?_; rotate_left; (intro w hSw; (try dsimp only at hSw); go_simp; try with_reducible rfl); try simp only [Act.put, List.setIfInBounds_toArray, List.set_cons_zero, List.set_cons_succ]
          refine wpAnyH_take (i := 13) (oi := ⟨some _, _, _, _, _, _⟩) (v := ?_) rfl (by kernel_rfl) (by kernel_rfl) (by kernel_rfl) (fun _ _ _ h => h) (Or.inl ⟨by kernel_rfl, ?_⟩) (by assumption) ?_; rotate_left; (intro w hSw; (try dsimp only at hSw); go_simp; try with_reducible rfl); try simp only [Act.put, List.setIfInBounds_toArray, List.set_cons_zero, List.set_cons_succ]
          refine wpAnyH_take (i := 14) (oi := ⟨some _, _, _, _, _, _⟩) (v := ?_) rfl (by kernel_rfl) (by kernel_rfl) (by kernel_rfl) (fun _ _ _ h => h) (Or.inl ⟨by kernel_rfl, ?_⟩) (by assumption) ?_; rotate_left; (intro w hSw; (try dsimp only at hSw); go_simp; try with_reducible rfl); try simp only [Act.put, List.setIfInBounds_toArray, List.set_cons_zero, List.set_cons_succ]
          refine wpAnyH_take (i := 15) (oi := ⟨some _, _, _, _, _, _⟩) (v := ?_) rfl (by kernel_rfl) (by kernel_rfl) (by kernel_rfl) (fun _ _ _ h => h) (Or.inl ⟨by kernel_rfl, ?_⟩) (by assumption) ?_; rotate_left; (intro w hSw; (try dsimp only at hSw); go_simp; try with_reducible rfl); try simp only [Act.put, List.setIfInBounds_toArray, List.set_cons_zero, List.set_cons_succ]
          refine wpAnyH_take (i := 16) (oi := ⟨some _, _, _, _, _, _⟩) (v := ?_) rfl (by kernel_rfl) (by kernel_rfl) (by kernel_rfl) (fun _ _ _ h => h) (Or.inl ⟨by kernel_rfl, ?_⟩) (by assumption) ?_; rotate_left; (intro w hSw; (try dsimp only at hSw); go_simp; try with_reducible rfl); try simp only [Act.put, List.setIfInBounds_toArray, List.set_cons_zero, List.set_cons_succ]
          refine wpAnyH_take (i := 17) (oi := ⟨some _, _, _, _, _, _⟩) (v := ?_) rfl (by kernel_rfl) (by kernel_rfl) (by kernel_rfl) (fun _ _ _ h => h) (Or.inl ⟨by kernel_rfl, ?_⟩) (by assumption) ?_; rotate_left; (intro w hSw; (try dsimp only at hSw); go_simp; try with_reducible rfl); try simp only [Act.put, List.setIfInBounds_toArray, List.set_cons_zero, List.set_cons_succ]
          refine wpAnyH_ready (rs := [12]) (by kernel_rfl) (by simp) ?_
          refine AllReadyH.cons (o := ⟨some _, _, _, _, _, _⟩) rfl (fun K hK => ?_) AllReadyH.nil
          go_simp
          (go_at_call 18; refine cS.out.mono ?_; rintro e w1 ⟨rfl, hs1⟩; have hd1 := Lib.hid (HCS.out w1 hs1.2); have HS1 := Lib.hid hs1; clear hs1)
          go_wp2_with fail
          refine hK.out _ _ ?_ (fun hHeld => ?_)
          · (try dsimp only); (first | exact hd0.out | exact hd1.out)
          clear hK K
          try simp only [Act.put, List.setIfInBounds_toArray, List.set_cons_zero, List.set_cons_succ]
          refine wpAnyH_take (i := 18) (oi := ⟨some _, _, _, _, _, _⟩) (v := ?_) rfl (by kernel_rfl) (by kernel_rfl) (by kernel_rfl) (fun _ _ _ h => h) (Or.inl ⟨by kernel_rfl, ?_⟩) (by assumption) ?_; rotate_left; (intro w hSw; (try dsimp only at hSw); go_simp; try with_reducible rfl); try simp only [Act.put, List.setIfInBounds_toArray, List.set_cons_zero, List.set_cons_succ]
          refine wpAnyH_take (i := 19) (oi := ⟨some _, _, _, _, _, _⟩) (v := ?_) rfl (by kernel_rfl) (by kernel_rfl) (by kernel_rfl) (fun _ _ _ h => h) (Or.inl ⟨by kernel_rfl, ?_⟩) (by assumption) ?_; rotate_left; (intro w hSw; (try dsimp only at hSw); go_simp; try with_reducible rfl); try simp only [Act.put, List.setIfInBounds_toArray, List.set_cons_zero, List.set_cons_succ]
          refine wpAnyH_take (i := 20) (oi := ⟨some _, _, _, _, _, _⟩) (v := ?_) rfl (by kernel_rfl) (by kernel_rfl) (by kernel_rfl) (fun _ _ _ h => h) (Or.inl ⟨by kernel_rfl, ?_⟩) (by assumption) ?_; rotate_left; (intro w hSw; (try dsimp only at hSw); go_simp; try with_reducible rfl); try simp only [Act.put, List.setIfInBounds_toArray, List.set_cons_zero, List.set_cons_succ]
          refine wpAnyH_take (i := 21) (oi := ⟨some _, _, _, _, _, _⟩) (v := ?_) rfl (by kernel_rfl) (by kernel_rfl) (by kernel_rfl) (fun _ _ _ h => h) (Or.inl ⟨by kernel_rfl, ?_⟩) (by assumption) ?_; rotate_left; (intro w hSw; (try dsimp only at hSw); go_simp; try with_reducible rfl); try simp only [Act.put, List.setIfInBounds_toArray, List.set_cons_zero, List.set_cons_succ]
          refine wpAnyH_take (i := 22) (oi := ⟨some _, _, _, _, _, _⟩) (v := ?_) rfl (by kernel_rfl) (by kernel_rfl) (by kernel_rfl) (fun _ _ _ h => h) (Or.inl ⟨by kernel_rfl, ?_⟩) (by assumption) ?_; rotate_left; (intro w hSw; (try dsimp only at hSw); go_simp; try with_reducible rfl); try simp only [Act.put, List.setIfInBounds_toArray, List.set_cons_zero, List.set_cons_succ]
          refine wpAnyH_take (i := 23) (oi := ⟨some _, _, _, _, _, _⟩) (v := ?_) rfl (by kernel_rfl) (by kernel_rfl) (by kernel_rfl) (fun _ _ _ h => h) (Or.inl ⟨by kernel_rfl, ?_⟩) (by assumption) ?_; rotate_left; (intro w hSw; (try dsimp only at hSw); go_simp; try with_reducible rfl); try simp only [Act.put, List.setIfInBounds_toArray, List.set_cons_zero, List.set_cons_succ]
          refine wpAnyH_take (i := 24) (oi := ⟨some _, _, _, _, _, _⟩) (v := ?_) rfl (by kernel_rfl) (by kernel_rfl) (by kernel_rfl) (fun _ _ _ h => h) (Or.inl ⟨by kernel_rfl, ?_⟩) (by assumption) ?_; rotate_left; (intro w hSw; (try dsimp only at hSw); go_simp; try with_reducible rfl); try simp only [Act.put, List.setIfInBounds_toArray, List.set_cons_zero, List.set_cons_succ]
          refine wpAnyH_take (i := 25) (oi := ⟨some _, _, _, _, _, _⟩) (v := ?_) rfl (by kernel_rfl) (by kernel_rfl) (by kernel_rfl) (fun _ _ _ h => h) (Or.inl ⟨by kernel_rfl, ?_⟩) (by assumption) ?_; rotate_left; (intro w hSw; (try dsimp only at hSw); go_simp; try with_reducible rfl); try simp only [Act.put, List.setIfInBounds_toArray, List.set_cons_zero, List.set_cons_succ]
          refine wpAnyH_take (i := 26) (oi := ⟨some _, _, _, _, _, _⟩) (v := ?_) rfl (by kernel_rfl) (by kernel_rfl) (by kernel_rfl) (fun _ _ _ h => h) (Or.inl ⟨by kernel_rfl, ?_⟩) (by assumption) ?_; rotate_left; (intro w hSw; (try dsimp only at hSw); go_simp; try with_reducible rfl); try simp only [Act.put, List.setIfInBounds_toArray, List.set_cons_zero, List.set_cons_succ]
          refine wpAnyH_take (i := 27) (oi := ⟨some _, _, _, _, _, _⟩) (v := ?_) rfl (by kernel_rfl) (by kernel_rfl) (by kernel_rfl) (fun _ _ _ h => h) (Or.inl ⟨by kernel_rfl, ?_⟩) (by assumption) ?_; rotate_left; (intro w hSw; (try dsimp only at hSw); go_simp; try with_reducible rfl); try simp only [Act.put, List.setIfInBounds_toArray, List.set_cons_zero, List.set_cons_succ]
          refine wpAnyH_take (i := 28) (oi := ⟨some _, _, _, _, _, _⟩) (v := undef) rfl (by kernel_rfl) (by kernel_rfl) (by kernel_rfl) (fun _ _ _ h => h) (Or.inr ⟨by kernel_rfl, rfl⟩) (by assumption) ?_; try simp only [Act.put, List.setIfInBounds_toArray, List.set_cons_zero, List.set_cons_succ]
          refine wpAnyH_take (i := 29) (oi := ⟨some _, _, _, _, _, _⟩) (v := undef) rfl (by kernel_rfl) (by kernel_rfl) (by kernel_rfl) (fun _ _ _ h => h) (Or.inr ⟨by kernel_rfl, rfl⟩) (by assumption) ?_; try simp only [Act.put, List.setIfInBounds_toArray, List.set_cons_zero, List.set_cons_succ]
          refine wpAnyH_take (i := 30) (oi := ⟨some _, _, _, _, _, _⟩) (v := undef) rfl (by kernel_rfl) (by kernel_rfl) (by kernel_rfl) (fun _ _ _ h => h) (Or.inr ⟨by kernel_rfl, rfl⟩) (by assumption) ?_; try simp only [Act.put, List.setIfInBounds_toArray, List.set_cons_zero, List.set_cons_succ]
          refine wpAnyH_take (i := 31) (oi := ⟨some _, _, _, _, _, _⟩) (v := undef) rfl (by kernel_rfl) (by kernel_rfl) (by kernel_rfl) (fun _ _ _ h => h) (Or.inr ⟨by kernel_rfl, rfl⟩) (by assumption) ?_; try simp only [Act.put, List.setIfInBounds_toArray, List.set_cons_zero, List.set_cons_succ]
          refine wpAnyH_take (i := 32) (oi := ⟨some _, _, _, _, _, _⟩) (v := undef) rfl (by kernel_rfl) (by kernel_rfl) (by kernel_rfl) (fun _ _ _ h => h) (Or.inr ⟨by kernel_rfl, rfl⟩) (by assumption) ?_; try simp only [Act.put, List.setIfInBounds_toArray, List.set_cons_zero, List.set_cons_succ]
          refine wpAnyH_take (i := 33) (oi := ⟨some _, _, _, _, _, _⟩) (v := undef) rfl (by kernel_rfl) (by kernel_rfl) (by kernel_rfl) (fun _ _ _ h => h) (Or.inr ⟨by kernel_rfl, rfl⟩) (by assumption) ?_; try simp only [Act.put, List.setIfInBounds_toArray, List.set_cons_zero, List.set_cons_succ]
          refine wpAnyH_take (i := 34) (oi := ⟨some _, _, _, _, _, _⟩) (v := undef) rfl (by kernel_rfl) (by kernel_rfl) (by kernel_rfl) (fun _ _ _ h => h) (Or.inr ⟨by kernel_rfl, rfl⟩) (by assumption) ?_; try simp only [Act.put, List.setIfInBounds_toArray, List.set_cons_zero, List.set_cons_succ]
          refine wpAnyH_take (i := 35) (oi := ⟨some _, _, _, _, _, _⟩) (v := undef) rfl (by kernel_rfl) (by kernel_rfl) (by kernel_rfl) (fun _ _ _ h => h) (Or.inr ⟨by kernel_rfl, rfl⟩) (by assumption) ?_; try simp only [Act.put, List.setIfInBounds_toArray, List.set_cons_zero, List.set_cons_succ]
          refine wpAnyH_take (i := 36) (oi := ⟨some _, _, _, _, _, _⟩) (v := undef) rfl (by kernel_rfl) (by kernel_rfl) (by kernel_rfl) (fun _ _ _ h => h) (Or.inr ⟨by kernel_rfl, rfl⟩) (by assumption) ?_; try simp only [Act.put, List.setIfInBounds_toArray, List.set_cons_zero, List.set_cons_succ]
          refine wpAnyH_take (i := 37) (oi := ⟨some _, _, _, _, _, _⟩) (v := undef) rfl (by kernel_rfl) (by kernel_rfl) (by kernel_rfl) (fun _ _ _ h => h) (Or.inr ⟨by kernel_rfl, rfl⟩) (by assumption) ?_; try simp only [Act.put, List.setIfInBounds_toArray, List.set_cons_zero, List.set_cons_succ]
          refine wpAnyH_take (i := 38) (oi := ⟨some _, _, _, _, _, _⟩) (v := undef) rfl (by kernel_rfl) (by kernel_rfl) (by kernel_rfl) (fun _ _ _ h => h) (Or.inr ⟨by kernel_rfl, rfl⟩) (by assumption) ?_; try simp only [Act.put, List.setIfInBounds_toArray, List.set_cons_zero, List.set_cons_succ]
          refine wpAnyH_take (i := 39) (oi := ⟨some _, _, _, _, _, _⟩) (v := undef) rfl (by kernel_rfl) (by kernel_rfl) (by kernel_rfl) (fun _ _ _ h => h) (Or.inr ⟨by kernel_rfl, rfl⟩) (by assumption) ?_; try simp only [Act.put, List.setIfInBounds_toArray, List.set_cons_zero, List.set_cons_succ]
          refine wpAnyH_take (i := 40) (oi := ⟨some _, _, _, _, _, _⟩) (v := undef) rfl (by kernel_rfl) (by kernel_rfl) (by kernel_rfl) (fun _ _ _ h => h) (Or.inr ⟨by kernel_rfl, rfl⟩) (by assumption) ?_; try simp only [Act.put, List.setIfInBounds_toArray, List.set_cons_zero, List.set_cons_succ]
          refine wpAnyH_take (i := 41) (oi := ⟨some _, _, _, _, _, _⟩) (v := undef) rfl (by kernel_rfl) (by kernel_rfl) (by kernel_rfl) (fun _ _ _ h => h) (Or.inr ⟨by kernel_rfl, rfl⟩) (by assumption) ?_; try simp only [Act.put, List.setIfInBounds_toArray, List.set_cons_zero, List.set_cons_succ]
          refine wpAnyH_take (i := 42) (oi := ⟨some _, _, _, _, _, _⟩) (v := ?_) rfl (by kernel_rfl) (by kernel_rfl) (by kernel_rfl) (fun _ _ _ h => h) (Or.inl ⟨by kernel_rfl, ?_⟩) (by assumption) ?_; rotate_left; (intro w hSw; (try dsimp only at hSw); go_simp; try with_reducible rfl); try simp only [Act.put, List.setIfInBounds_toArray, List.set_cons_zero, List.set_cons_succ]
          refine wpAnyH_take (i := 43) (oi := ⟨some _, _, _, _, _, _⟩) (v := ?_) rfl (by kernel_rfl) (by kernel_rfl) (by kernel_rfl) (fun _ _ _ h => h) (Or.inl ⟨by kernel_rfl, ?_⟩) (by assumption) ?_; rotate_left; (intro w hSw; (try dsimp only at hSw); go_simp; try with_reducible rfl); try simp only [Act.put, List.setIfInBounds_toArray, List.set_cons_zero, List.set_cons_succ]
          refine wpAnyH_done (by kernel_rfl) ?_ _
          all_goals
            go_wp2_with fail
            go_roundw
            case rel => exact ⟨j2 + 1, by omega, by go_num, HS1.out⟩
            case measure => simp [intOf]; omega
        | false =>
          have hx0 : 0 ≤ xv := hpos rfl
          rw [if_neg (by omega)] at hn1
          have hw64 : IntKind.u64.wrap xv = xv := IntWalk.u64_in _ (by omega)
          have cS := Lib.hid ((Get_any br _ _ 0 xk wr.drew hrd).mono fun en w6 ⟨e, h1, h2⟩ => (⟨by rw [hnx] at e; rw [← hn1]; exact e, hk6 w6 (by rw [hnx] at h1; exact h1) h2⟩ : en = Ending.returned (.int .u64 xv) ∧ R2 w4 br (padded (bitsK ks) nn) ks (j2 + 1) w6))
          clear hcs hgc q0 q1 q2 hk5 hnx hrd hk6 hR2 hx hval hn1 hpos
          go_wp2_with fail
          refine wp_region_held_drew (S := (fun w' => w'.cell? ⟨g, j2 * 3, none⟩ = some (.bool false) ∧ w'.cell? ⟨g, j2 * 3 + 1, none⟩ = some (.int .i64 xv) ∧ w'.cell? ⟨g, j2 * 3 + 2, none⟩ = some (.int .i64 xk))) (by kernel_rfl) ?_ (fun hHeld => ?_)
          · (try dsimp only); (first | exact hd0.out | exact hd1.out)
          refine wpAnyH_take (i := 0) (oi := ⟨some _, _, _, _, _, _⟩) (v := ?_) rfl (by kernel_rfl) (by kernel_rfl) (by kernel_rfl) (fun _ _ _ h => h) (Or.inl ⟨by kernel_rfl, ?_⟩) (by assumption) ?_; rotate_left; (intro w hSw; (try dsimp only at hSw); go_simp; try with_reducible rfl); try simp only [Act.put, List.setIfInBounds_toArray, List.set_cons_zero, List.set_cons_succ]
          refine wpAnyH_take (i := 1) (oi := ⟨some _, _, _, _, _, _⟩) (v := ?_) rfl (by kernel_rfl) (by kernel_rfl) (by kernel_rfl) (fun _ _ _ h => h) (Or.inl ⟨by kernel_rfl, ?_⟩) (by assumption) ?_; rotate_left; (intro w hSw; (try dsimp only at hSw); go_simp; try with_reducible rfl); try simp only [Act.put, List.setIfInBounds_toArray, List.set_cons_zero, List.set_cons_succ]
          refine wpAnyH_take (i := 2) (oi := ⟨some _, _, _, _, _, _⟩) (v := ?_) rfl (by kernel_rfl) (by kernel_rfl) (by kernel_rfl) (fun _ _ _ h => h) (Or.inl ⟨by kernel_rfl, ?_⟩) (by assumption) ?_; rotate_left; (intro w hSw; (try dsimp only at hSw); go_simp; try with_reducible rfl); try simp only [Act.put, List.setIfInBounds_toArray, List.set_cons_zero, List.set_cons_succ]
          refine wpAnyH_take (i := 3) (oi := ⟨some _, _, _, _, _, _⟩) (v := ?_) rfl (by kernel_rfl) (by kernel_rfl) (by kernel_rfl) (fun _ _ _ h => h) (Or.inl ⟨by kernel_rfl, ?_⟩) (by assumption) ?_; rotate_left; (intro w hSw; (try dsimp only at hSw); go_simp; try with_reducible rfl); try simp only [Act.put, List.setIfInBounds_toArray, List.set_cons_zero, List.set_cons_succ]
          refine wpAnyH_take (i := 4) (oi := ⟨some _, _, _, _, _, _⟩) (v := ?_) rfl (by kernel_rfl) (by kernel_rfl) (by kernel_rfl) (fun _ _ _ h => h) (Or.inl ⟨by kernel_rfl, ?_⟩) (by assumption) ?_; rotate_left; (intro w hSw; (try dsimp only at hSw); go_simp; try with_reducible rfl); try simp only [Act.put, List.setIfInBounds_toArray, List.set_cons_zero, List.set_cons_succ]
          refine wpAnyH_take (i := 5) (oi := ⟨some _, _, _, _, _, _⟩) (v := ?_) rfl (by kernel_rfl) (by kernel_rfl) (by kernel_rfl) (fun _ _ _ h => h) (Or.inl ⟨by kernel_rfl, ?_⟩) (by assumption) ?_; rotate_left; (intro w hSw; (try dsimp only at hSw); go_simp; try with_reducible rfl); try simp only [Act.put, List.setIfInBounds_toArray, List.set_cons_zero, List.set_cons_succ]
          refine wpAnyH_take (i := 6) (oi := ⟨some _, _, _, _, _, _⟩) (v := undef) rfl (by kernel_rfl) (by kernel_rfl) (by kernel_rfl) (fun _ _ _ h => h) (Or.inr ⟨by kernel_rfl, rfl⟩) (by assumption) ?_; try simp only [Act.put, List.setIfInBounds_toArray, List.set_cons_zero, List.set_cons_succ]
          refine wpAnyH_take (i := 7) (oi := ⟨some _, _, _, _, _, _⟩) (v := undef) rfl (by kernel_rfl) (by kernel_rfl) (by kernel_rfl) (fun _ _ _ h => h) (Or.inr ⟨by kernel_rfl, rfl⟩) (by assumption) ?_; try simp only [Act.put, List.setIfInBounds_toArray, List.set_cons_zero, List.set_cons_succ]
          refine wpAnyH_take (i := 8) (oi := ⟨some _, _, _, _, _, _⟩) (v := undef) rfl (by kernel_rfl) (by kernel_rfl) (by kernel_rfl) (fun _ _ _ h => h) (Or.inr ⟨by kernel_rfl, rfl⟩) (by assumption) ?_; try simp only [Act.put, List.setIfInBounds_toArray, List.set_cons_zero, List.set_cons_succ]
          refine wpAnyH_take (i := 9) (oi := ⟨some _, _, _, _, _, _⟩) (v := undef) rfl (by kernel_rfl) (by kernel_rfl) (by kernel_rfl) (fun _ _ _ h => h) (Or.inr ⟨by kernel_rfl, rfl⟩) (by assumption) ?_; try simp only [Act.put, List.setIfInBounds_toArray, List.set_cons_zero, List.set_cons_succ]
          refine wpAnyH_take (i := 10) (oi := ⟨some _, _, _, _, _, _⟩) (v := undef) rfl (by kernel_rfl) (by kernel_rfl) (by kernel_rfl) (fun _ _ _ h => h) (Or.inr ⟨by kernel_rfl, rfl⟩) (by assumption) ?_; try simp only [Act.put, List.setIfInBounds_toArray, List.set_cons_zero, List.set_cons_succ]
          refine wpAnyH_take (i := 11) (oi := ⟨some _, _, _, _, _, _⟩) (v := undef) rfl (by kernel_rfl) (by kernel_rfl) (by kernel_rfl) (fun _ _ _ h => h) (Or.inr ⟨by kernel_rfl, rfl⟩) (by assumption) ?_; try simp only [Act.put, List.setIfInBounds_toArray, List.set_cons_zero, List.set_cons_succ]
          refine wpAnyH_take (i := 12) (oi := ⟨some _, _, _, _, _, _⟩) (v := undef) rfl (by kernel_rfl) (by kernel_rfl) (by kernel_rfl) (fun _ _ _ h => h) (Or.inr ⟨by kernel_rfl, rfl⟩) (by assumption) ?_; try simp only [Act.put, List.setIfInBounds_toArray, List.set_cons_zero, List.set_cons_succ]
          refine wpAnyH_take (i := 13) (oi := ⟨some _, _, _, _, _, _⟩) (v := undef) rfl (by kernel_rfl) (by kernel_rfl) (by kernel_rfl) (fun _ _ _ h => h) (Or.inr ⟨by kernel_rfl, rfl⟩) (by assumption) ?_; try simp only [Act.put, List.setIfInBounds_toArray, List.set_cons_zero, List.set_cons_succ]
          refine wpAnyH_take (i := 14) (oi := ⟨some _, _, _, _, _, _⟩) (v := undef) rfl (by kernel_rfl) (by kernel_rfl) (by kernel_rfl) (fun _ _ _ h => h) (Or.inr ⟨by kernel_rfl, rfl⟩) (by assumption) ?_; try simp only [Act.put, List.setIfInBounds_toArray, List.set_cons_zero, List.set_cons_succ]
          refine wpAnyH_take (i := 15) (oi := ⟨some _, _, _, _, _, _⟩) (v := undef) rfl (by kernel_rfl) (by kernel_rfl) (by kernel_rfl) (fun _ _ _ h => h) (Or.inr ⟨by kernel_rfl, rfl⟩) (by assumption) ?_; try simp only [Act.put, List.setIfInBounds_toArray, List.set_cons_zero, List.set_cons_succ]
          refine wpAnyH_take (i := 16) (oi := ⟨some _, _, _, _, _, _⟩) (v := undef) rfl (by kernel_rfl) (by kernel_rfl) (by kernel_rfl) (fun _ _ _ h => h) (Or.inr ⟨by kernel_rfl, rfl⟩) (by assumption) ?_; try simp only [Act.put, List.setIfInBounds_toArray, List.set_cons_zero, List.set_cons_succ]
          refine wpAnyH_take (i := 17) (oi := ⟨some _, _, _, _, _, _⟩) (v := undef) rfl (by kernel_rfl) (by kernel_rfl) (by kernel_rfl) (fun _ _ _ h => h) (Or.inr ⟨by kernel_rfl, rfl⟩) (by assumption) ?_; try simp only [Act.put, List.setIfInBounds_toArray, List.set_cons_zero, List.set_cons_succ]
          refine wpAnyH_take (i := 18) (oi := ⟨some _, _, _, _, _, _⟩) (v := undef) rfl (by kernel_rfl) (by kernel_rfl) (by kernel_rfl) (fun _ _ _ h => h) (Or.inr ⟨by kernel_rfl, rfl⟩) (by assumption) ?_; try simp only [Act.put, List.setIfInBounds_toArray, List.set_cons_zero, List.set_cons_succ]
          refine wpAnyH_take (i := 19) (oi := ⟨some _, _, _, _, _, _⟩) (v := ?_) rfl (by kernel_rfl) (by kernel_rfl) (by kernel_rfl) (fun _ _ _ h => h) (Or.inl ⟨by kernel_rfl, ?_⟩) (by assumption) ?_; rotate_left; (intro w hSw; (try dsimp only at hSw); go_simp; try with_reducible rfl); try simp only [Act.put, List.setIfInBounds_toArray, List.set_cons_zero, List.set_cons_succ]
          refine wpAnyH_take (i := 20) (oi := ⟨some _, _, _, _, _, _⟩) (v := ?_) rfl (by kernel_rfl) (by kernel_rfl) (by kernel_rfl) (fun _ _ _ h => h) (Or.inl ⟨by kernel_rfl, ?_⟩) (by assumption) ?_; rotate_left; (intro w hSw; (try dsimp only at hSw); go_simp; try with_reducible rfl); try simp only [Act.put, List.setIfInBounds_toArray, List.set_cons_zero, List.set_cons_succ]
          refine wpAnyH_take (i := 21) (oi := ⟨some _, _, _, _, _, _⟩) (v := ?_) rfl (by kernel_rfl) (by kernel_rfl) (by kernel_rfl) (fun _ _ _ h => h) (Or.inl ⟨by kernel_rfl, ?_⟩) (by assumption) ?_; rotate_left; (intro w hSw; (try dsimp only at hSw); go_simp; try with_reducible rfl); try simp only [Act.put, List.setIfInBounds_toArray, List.set_cons_zero, List.set_cons_succ]
          refine wpAnyH_take (i := 22) (oi := ⟨some _, _, _, _, _, _⟩) (v := ?_) rfl (by kernel_rfl) (by kernel_rfl) (by kernel_rfl) (fun _ _ _ h => h) (Or.inl ⟨by kernel_rfl, ?_⟩) (by assumption) ?_; rotate_left; (intro w hSw; (try dsimp only at hSw); go_simp; try with_reducible rfl); try simp only [Act.put, List.setIfInBounds_toArray, List.set_cons_zero, List.set_cons_succ]
          refine wpAnyH_take (i := 23) (oi := ⟨some _, _, _, _, _, _⟩) (v := ?_) rfl (by kernel_rfl) (by kernel_rfl) (by kernel_rfl) (fun _ _ _ h => h) (Or.inl ⟨by kernel_rfl, ?_⟩) (by assumption) ?_; rotate_left; (intro w hSw; (try dsimp only at hSw); go_simp; try with_reducible rfl); try simp only [Act.put, List.setIfInBounds_toArray, List.set_cons_zero, List.set_cons_succ]
          refine wpAnyH_take (i := 24) (oi := ⟨some _, _, _, _, _, _⟩) (v := ?_) rfl (by kernel_rfl) (by kernel_rfl) (by kernel_rfl) (fun _ _ _ h => h) (Or.inl ⟨by kernel_rfl, ?_⟩) (by assumption) ?_; rotate_left; (intro w hSw; (try dsimp only at hSw); go_simp; try with_reducible rfl); try simp only [Act.put, List.setIfInBounds_toArray, List.set_cons_zero, List.set_cons_succ]
          refine wpAnyH_take (i := 25) (oi := ⟨some _, _, _, _, _, _⟩) (v := ?_) rfl (by kernel_rfl) (by kernel_rfl) (by kernel_rfl) (fun _ _ _ h => h) (Or.inl ⟨by kernel_rfl, ?_⟩) (by assumption) ?_; rotate_left; (intro w hSw; (try dsimp only at hSw); go_simp; try with_reducible rfl); try simp only [Act.put, List.setIfInBounds_toArray, List.set_cons_zero, List.set_cons_succ]
          refine wpAnyH_take (i := 26) (oi := ⟨some _, _, _, _, _, _⟩) (v := ?_) rfl (by kernel_rfl) (by kernel_rfl) (by kernel_rfl) (fun _ _ _ h => h) (Or.inl ⟨by kernel_rfl, ?_⟩) (by assumption) ?_; rotate_left; (intro w hSw; (try dsimp only at hSw); go_simp; try with_reducible rfl); try simp only [Act.put, List.setIfInBounds_toArray, List.set_cons_zero, List.set_cons_succ]
          refine wpAnyH_take (i := 27) (oi := ⟨some _, _, _, _, _, _⟩) (v := ?_) rfl (by kernel_rfl) (by kernel_rfl) (by kernel_rfl) (fun _ _ _ h => h) (Or.inl ⟨by kernel_rfl, ?_⟩) (by assumption) ?_; rotate_left; (intro w hSw; (try dsimp only at hSw); go_simp; try with_reducible rfl); try simp only [Act.put, List.setIfInBounds_toArray, List.set_cons_zero, List.set_cons_succ]
          refine wpAnyH_take (i := 28) (oi := ⟨some _, _, _, _, _, _⟩) (v := ?_) rfl (by kernel_rfl) (by kernel_rfl) (by kernel_rfl) (fun _ _ _ h => h) (Or.inl ⟨by kernel_rfl, ?_⟩) (by assumption) ?_; rotate_left; (intro w hSw; (try dsimp only at hSw); go_simp; try with_reducible rfl); try simp only [Act.put, List.setIfInBounds_toArray, List.set_cons_zero, List.set_cons_succ]
          refine wpAnyH_take (i := 29) (oi := ⟨some _, _, _, _, _, _⟩) (v := ?_) rfl (by kernel_rfl) (by kernel_rfl) (by kernel_rfl) (fun _ _ _ h => h) (Or.inl ⟨by kernel_rfl, ?_⟩) (by assumption) ?_; rotate_left; (intro w hSw; (try dsimp only at hSw); go_simp; try with_reducible rfl); try simp only [Act.put, List.setIfInBounds_toArray, List.set_cons_zero, List.set_cons_succ]
          refine wpAnyH_take (i := 30) (oi := ⟨some _, _, _, _, _, _⟩) (v := ?_) rfl (by kernel_rfl) (by kernel_rfl) (by kernel_rfl) (fun _ _ _ h => h) (Or.inl ⟨by kernel_rfl, ?_⟩) (by assumption) ?_; rotate_left; (intro w hSw; (try dsimp only at hSw); go_simp; try with_reducible rfl); try simp only [Act.put, List.setIfInBounds_toArray, List.set_cons_zero, List.set_cons_succ]
          refine wpAnyH_take (i := 31) (oi := ⟨some _, _, _, _, _, _⟩) (v := ?_) rfl (by kernel_rfl) (by kernel_rfl) (by kernel_rfl) (fun _ _ _ h => h) (Or.inl ⟨by kernel_rfl, ?_⟩) (by assumption) ?_; rotate_left; (intro w hSw; (try dsimp only at hSw); go_simp; try with_reducible rfl); try simp only [Act.put, List.setIfInBounds_toArray, List.set_cons_zero, List.set_cons_succ]
          refine wpAnyH_take (i := 32) (oi := ⟨some _, _, _, _, _, _⟩) (v := ?_) rfl (by kernel_rfl) (by kernel_rfl) (by kernel_rfl) (fun _ _ _ h => h) (Or.inl ⟨by kernel_rfl, ?_⟩) (by assumption) ?_; rotate_left; (intro w hSw; (try dsimp only at hSw); go_simp; try with_reducible rfl); try simp only [Act.put, List.setIfInBounds_toArray, List.set_cons_zero, List.set_cons_succ]
          refine wpAnyH_take (i := 33) (oi := ⟨some _, _, _, _, _, _⟩) (v := ?_) rfl (by kernel_rfl) (by kernel_rfl) (by kernel_rfl) (fun _ _ _ h => h) (Or.inl ⟨by kernel_rfl, ?_⟩) (by assumption) ?_; rotate_left; (intro w hSw; (try dsimp only at hSw); go_simp; try with_reducible rfl); try simp only [Act.put, List.setIfInBounds_toArray, List.set_cons_zero, List.set_cons_succ]
          refine wpAnyH_take (i := 35) (oi := ⟨some _, _, _, _, _, _⟩) (v := ?_) rfl (by kernel_rfl) (by kernel_rfl) (by kernel_rfl) (fun _ _ _ h => h) (Or.inl ⟨by kernel_rfl, ?_⟩) (by assumption) ?_; rotate_left; (intro w hSw; (try dsimp only at hSw); go_simp; try with_reducible rfl); try simp only [Act.put, List.setIfInBounds_toArray, List.set_cons_zero, List.set_cons_succ]
          refine wpAnyH_take (i := 36) (oi := ⟨some _, _, _, _, _, _⟩) (v := ?_) rfl (by kernel_rfl) (by kernel_rfl) (by kernel_rfl) (fun _ _ _ h => h) (Or.inl ⟨by kernel_rfl, ?_⟩) (by assumption) ?_; rotate_left; (intro w hSw; (try dsimp only at hSw); go_simp; try with_reducible rfl); try simp only [Act.put, List.setIfInBounds_toArray, List.set_cons_zero, List.set_cons_succ]
          refine wpAnyH_take (i := 37) (oi := ⟨some _, _, _, _, _, _⟩) (v := ?_) rfl (by kernel_rfl) (by kernel_rfl) (by kernel_rfl) (fun _ _ _ h => h) (Or.inl ⟨by kernel_rfl, ?_⟩) (by assumption) ?_; rotate_left; (intro w hSw; (try dsimp only at hSw); go_simp; try with_reducible rfl); try simp only [Act.put, List.setIfInBounds_toArray, List.set_cons_zero, List.set_cons_succ]
          refine wpAnyH_take (i := 38) (oi := ⟨some _, _, _, _, _, _⟩) (v := ?_) rfl (by kernel_rfl) (by kernel_rfl) (by kernel_rfl) (fun _ _ _ h => h) (Or.inl ⟨by kernel_rfl, ?_⟩) (by assumption) ?_; rotate_left; (intro w hSw; (try dsimp only at hSw); go_simp; try with_reducible rfl); try simp only [Act.put, List.setIfInBounds_toArray, List.set_cons_zero, List.set_cons_succ]
          refine wpAnyH_take (i := 39) (oi := ⟨some _, _, _, _, _, _⟩) (v := ?_) rfl (by kernel_rfl) (by kernel_rfl) (by kernel_rfl) (fun _ _ _ h => h) (Or.inl ⟨by kernel_rfl, ?_⟩) (by assumption) ?_; rotate_left; (intro w hSw; (try dsimp only at hSw); go_simp; try with_reducible rfl); try simp only [Act.put, List.setIfInBounds_toArray, List.set_cons_zero, List.set_cons_succ]
          refine wpAnyH_take (i := 40) (oi := ⟨some _, _, _, _, _, _⟩) (v := ?_) rfl (by kernel_rfl) (by kernel_rfl) (by kernel_rfl) (fun _ _ _ h => h) (Or.inl ⟨by kernel_rfl, ?_⟩) (by assumption) ?_; rotate_left; (intro w hSw; (try dsimp only at hSw); go_simp; try with_reducible rfl); try simp only [Act.put, List.setIfInBounds_toArray, List.set_cons_zero, List.set_cons_succ]
          refine wpAnyH_ready (rs := [34]) (by kernel_rfl) (by simp) ?_
          refine AllReadyH.cons (o := ⟨some _, _, _, _, _, _⟩) rfl (fun K hK => ?_) AllReadyH.nil
          go_simp
          (go_at_call 19; refine cS.out.mono ?_; rintro e w1 ⟨rfl, hs1⟩; have hd1 := Lib.hid (HCS.out w1 hs1.2); have HS1 := Lib.hid hs1; clear hs1)
          go_wp2_with fail
          refine hK.out _ _ ?_ (fun hHeld => ?_)
          · (try dsimp only); (first | exact hd0.out | exact hd1.out)
          clear hK K
          try simp only [Act.put, List.setIfInBounds_toArray, List.set_cons_zero, List.set_cons_succ]
          refine wpAnyH_take (i := 41) (oi := ⟨some _, _, _, _, _, _⟩) (v := ?_) rfl (by kernel_rfl) (by kernel_rfl) (by kernel_rfl) (fun _ _ _ h => h) (Or.inl ⟨by kernel_rfl, ?_⟩) (by assumption) ?_; rotate_left; (intro w hSw; (try dsimp only at hSw); go_simp; try with_reducible rfl); try simp only [Act.put, List.setIfInBounds_toArray, List.set_cons_zero, List.set_cons_succ]
          refine wpAnyH_take (i := 42) (oi := ⟨some _, _, _, _, _, _⟩) (v := ?_) rfl (by kernel_rfl) (by kernel_rfl) (by kernel_rfl) (fun _ _ _ h => h) (Or.inl ⟨by kernel_rfl, ?_⟩) (by assumption) ?_; rotate_left; (intro w hSw; (try dsimp only at hSw); go_simp; try with_reducible rfl); try simp only [Act.put, List.setIfInBounds_toArray, List.set_cons_zero, List.set_cons_succ]
          refine wpAnyH_take (i := 43) (oi := ⟨some _, _, _, _, _, _⟩) (v := ?_) rfl (by kernel_rfl) (by kernel_rfl) (by kernel_rfl) (fun _ _ _ h => h) (Or.inl ⟨by kernel_rfl, ?_⟩) (by assumption) ?_; rotate_left; (intro w hSw; (try dsimp only at hSw); go_simp; try with_reducible rfl); try simp only [Act.put, List.setIfInBounds_toArray, List.set_cons_zero, List.set_cons_succ]
          refine wpAnyH_done (by kernel_rfl) ?_ _
          all_goals
            go_wp2_with fail
            go_roundw
            case rel => exact ⟨j2 + 1, by omega, by go_num, HS1.out⟩
            case measure => simp [intOf]; omega
      · have hr2 := hR2.1
        have hk2 := hR2.2
        obtain rfl : j2 = nk := by omega
        rw [HPE.out] at hr2
        have hd : ∀ q, RdAt (wr.drewN q) br (padded (bitsK ks) nn) ll 0 := fun q => hr2.kept ((Kept.refl (fun _ => True) wr).drewN q) (fun _ _ => trivial)
        have cL := Left_any br _ _ 0 wr hr2
        rw [if_pos rfl, length_padded] at cL
        have cL' := Lib.hid cL
        have cE := Lib.hid (fun q => End_any br _ _ 0 (wr.drewN q) (hd q))
        have hez : endTo (padded (bitsK ks) nn) ll 0 = 0 := by unfold endTo; rw [if_pos rfl]; rw [hRS.out]; rfl
        rw [hez] at cE
        have hl8 : ((8 * nn - ll : Nat) : Int) < 8 := by omega
        have HO5 := Lib.hid (HO4.out.after hk2 fun q hq => ⟨by have := HO4.out.size; omega, by omega⟩)
        clear hr2 hk2 hR2 hd cL hez hRS HPE HCK4 HALL hNX HST2
        generalize ((8 * nn - ll : Nat) : Int) = lf at *
        go_wp2_with fail
        refine cL'.out.mono ?_
        rintro e w5 ⟨rfl, q, rfl⟩
        go_wp2_with fail
        refine (cE.out q).mono ?_
        rintro e w6 ⟨rfl, _, hk6⟩
        have HO6 := Lib.hid (((HO5.out.drewN q).after hk6 fun z hz => ⟨by have := (HO5.out.drewN q).size; omega, by omega⟩ : Old w w6))
        clear hk6
        go_wp2_with fail
        refine (awake_any _).mono ?_
        rintro e w7 ⟨rfl, ho7⟩
        have HO7 := Lib.hid ho7
        clear ho7
        go_wp2
        go_ret
        exact ⟨rfl, HO6.out.trans HO7.out⟩

theorem own : ownKnob Try.prog.godebug = none := by kernel_rfl
theorem laidOut : laidOutB Try.prog = true := by kernel_rfl

set_option maxRecDepth 100000 in
theorem lifted (os : Os) (started : os.Started) (H : Type) (enc : TypeId × Value → H) :
    ReturnsInHanded {} Try.checked os 5 .any (Rows.bitsBackSpec.pre6 enc Try.prog Try.f5 Rows.bitsBackRow.domain false) (Rows.bitsBackSpec.post enc Try.prog Try.f5 false true false false) := by
  refine returnsInHanded_of_change (C := Try.checked) own started (by kernel_rfl) Try.func5
    (ChangeSpec.witness6 (enc := enc) (C := Try.checked) false ⟨#[], #[.slice none 0 0], []⟩ 8 (by kernel_rfl) (by kernel_rfl) (by kernel_rfl) (by kernel_rfl)) ?_
  intro W base args ds gs before hval0 hW hcnd _
  have hval : ∀ (j : Nat) t v, Try.f5.params[j]? = some t → args[j]? = some v → Value.okWide Try.prog W .any base t v := hval0
  have hW' := hW
  have hlt : ∀ p ∈ before, p.block < W.heap.size := fun p hp => hW'.lt p hp
  obtain ⟨p, q, hA0, hV, rfl, hfz, hnd⟩ := hW
  have hA : DataW.TrodAll enc Try.prog W 0 (fun _ => true) true Try.f5.params.toList args.toList ds p := hA0
  rw [Try.params5] at hA hval
  obtain ⟨v0, vs0, d0, ds0, p0, q0, hargs, rfl, rfl, h0, r0⟩ := trodAll_cons hA
  obtain ⟨rfl, rfl, rfl⟩ := trodAll_nil r0
  obtain rfl : args = #[v0] := by cases args; simp_all
  obtain ⟨rfl, rfl⟩ := trodVars_none hV
  obtain ⟨s0, n0, c0, its, rfl, hs0⟩ := open_slIt (hval 0 24 v0 rfl rfl) h0 (fun x hx => hlt x (by simp [hx]))
  refine (walk its s0 n0 c0 W hs0).mono fun e W' ⟨he, hg⟩ => ?_
  subst he
  exact ⟨_, rfl, law_done laidOut Try.underlying4 rfl (by kernel_rfl) rfl hW' rfl hg⟩

theorem over : Rows.bitsBackRow.holds Try.pinned (OpenSpec.ofChange Rows.bitsBackSpec) :=
  OpenClaim.holds_of_wide 5 Try.f5 rfl rfl rfl rfl rfl rfl rfl ⟨rfl, rfl, rfl, rfl, rfl⟩ rfl rfl rfl rfl rfl (by kernel_rfl) Try.func5 (by kernel_rfl)
    (of_decide_eq_true (by kernel_rfl)) (by unfold Func.isWrapper; first | (rw [if_pos (by decide +kernel)]; kernel_rfl) | (rw [if_neg (by decide +kernel)]; exact ⟨rfl, rfl⟩))
    (fun os started H enc _ => lifted os started H enc)

theorem proved : Rows.BitsBackSaid :=
  over
end Go.Proofs.Ytbbjleblfhaclaa.bitsBack
