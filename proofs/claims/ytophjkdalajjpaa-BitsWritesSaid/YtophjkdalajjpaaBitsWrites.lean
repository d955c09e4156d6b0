/- BitsWrites: whatever numbers a writer was given, with a sign or without, it has laid just the bits of those ahead of the first that doesn't fit, and Bytes answers them, or the error that the document names first (1.1: up to 40 numbers, up to 1000 bytes); and the chapter's example holds. No condition. -/
import Derived.Test.YtophjkdalajjpaaRows
import Derived.Test.YtophjkdalajjpaaLayI
namespace Go.Proofs.Ytophjkdalajjpaa.bitsWrites
open Go.ChangeShapes Go.WideShapes Go.ChangeAt Go.RowKit
set_option linter.unusedVariables false

/-- What was laid, and whether all fitted. -/
def st (its : List It) : List Bool × Bool := its.foldl (fun s x => if s.2 && validI x.1 x.2.1 x.2.2 then (s.1 ++ bitsI x.2.1 x.2.2, true) else (s.1, false)) ([], true)
def erOf (ok : Bool) : Int := if ok then 0 else 5
theorem st_snoc (its : List It) (x : It) : st (its ++ [x]) = if (st its).2 && validI x.1 x.2.1 x.2.2 then ((st its).1 ++ bitsI x.2.1 x.2.2, true) else ((st its).1, false) := by simp [st]
theorem st_put (its : List It) (x : It) : putI (st its).1 (erOf (st its).2) x.1 x.2.1 x.2.2 = ((st (its ++ [x])).1, erOf (st (its ++ [x])).2) := by
  rw [st_snoc]
  unfold putI erOf
  cases (st its).2 <;> cases validI x.1 x.2.1 x.2.2 <;> simp
theorem length_bitsI (v k : Int) : (bitsI v k).length = k.toNat := by unfold bitsI; rw [length_bitsN]
theorem st_len (its : List It) : (st its).1.length ≤ 57 * its.length := by
  have : ∀ (l : List It) (s : List Bool × Bool), (l.foldl (fun s x => if s.2 && validI x.1 x.2.1 x.2.2 then (s.1 ++ bitsI x.2.1 x.2.2, true) else (s.1, false)) s).1.length ≤ s.1.length + 57 * l.length := by
    intro l
    induction l with
    | nil => intro s; simp
    | cons x l ih =>
      intro s
      rw [List.foldl_cons]
      refine Nat.le_trans (ih _) ?_
      rw [List.length_cons]
      by_cases h : (s.2 && validI x.1 x.2.1 x.2.2) = true
      · rw [if_pos h]
        simp only [Bool.and_eq_true, validI, decide_eq_true_eq] at h
        simp only [List.length_append, length_bitsI]
        omega
      · rw [if_neg h]; simp only []; omega
  have := this its ([], true)
  simpa [st] using this

/-- The state of the loop after j items. -/
def R (w : World) (its : List It) (j : Nat) (va : Value) (wr : World) : Prop :=
  ∃ vw, WrV wr w.heap.size vw (st (its.take j)).1 (erOf (st (its.take j)).2) ∧ (∀ q, vw.ownBlock = some q → w.heap.size < q) ∧
    ownX (fun q => q ≤ w.heap.size ∨ vw.ownBlock = some q) wr 4 va (st (its.take j)).1.length ((st (its.take j)).1.map Value.bool) ∧ Old w wr

/-- The state of the inner loop: k bits of bs have been appended to L. -/
def I (w : World) (L bs : List Bool) (er : Int) (vw vb : Value) (k : Nat) (va : Value) (wr : World) : Prop :=
  WrV wr w.heap.size vw (L ++ bs) er ∧ (∀ q, vw.ownBlock = some q → w.heap.size < q) ∧ ownX (fun q => q ≤ w.heap.size ∨ vw.ownBlock = some q) wr 4 vb bs.length (bs.map Value.bool) ∧
    ownX (fun q => q ≤ w.heap.size ∨ vw.ownBlock = some q ∨ vb.ownBlock = some q) wr 4 va (L.length + k) ((L ++ bs.take k).map Value.bool) ∧ Old w wr

theorem I_X {w wr : World} {L bs : List Bool} {er : Int} {vw vb va : Value} {k : Nat} (h : I w L bs er vw vb k va wr) : ∀ q, (q ≤ w.heap.size ∨ vw.ownBlock = some q ∨ vb.ownBlock = some q) → q < wr.heap.size := by
  rintro q (hq | hq | hq)
  · have := lt_of_block h.1.1; omega
  · exact h.1.2.lt q hq
  · exact h.2.2.1.lt q hq

theorem I_next {w wr w1 : World} {L bs : List Bool} {er : Int} {vw vb va va' : Value} {k : Nat} {o : Obj} (h : I w L bs er vw vb k va wr) (hk : k < bs.length)
    (h1 : ownX (fun q => q ≤ w.heap.size ∨ vw.ownBlock = some q ∨ vb.ownBlock = some q) w1 4 va' (L.length + k + 1) ((L ++ bs.take k).map Value.bool ++ [.bool (bs.getD k false)]))
    (h2 : Kept (fun q => q ≤ w.heap.size ∨ vw.ownBlock = some q ∨ vb.ownBlock = some q) (wr.alloc o) w1) : I w L bs er vw vb (k + 1) va' w1 := by
  have hX := I_X h
  have hkk : Kept (fun q => q ≤ w.heap.size ∨ vw.ownBlock = some q ∨ vb.ownBlock = some q) wr w1 := (Kept.alloc wr o hX).trans h2
  refine ⟨h.1.kept hkk (.inl (Nat.le_refl _)) (fun q hq => .inr (.inl hq)), h.2.1, h.2.2.1.kept hkk (fun q hq => .inr (.inr hq)), ?_, h.2.2.2.2.after hkk (fun q hq => .inl (by omega))⟩
  have e : (L ++ bs.take (k + 1)).map Value.bool = (L ++ bs.take k).map Value.bool ++ [.bool (bs.getD k false)] := by rw [bool_take bs k hk]; simp
  rw [e]
  exact h1

/-- What the round's two calls leave: the writer's new state, and what was there of the call's own. -/
theorem R_step {w wr w1 w2 : World} {vw va : Value} {L0 L1 : List Bool} {e0 e1 : Int} (hV : WrV wr w.heap.size vw L0 e0) (hvN : ∀ q, vw.ownBlock = some q → w.heap.size < q)
    (hA : ownX (fun q => q ≤ w.heap.size ∨ vw.ownBlock = some q) wr 4 va L0.length (L0.map Value.bool)) (hO : Old w wr) (h1 : Old wr w1)
    (h2 : WrAt w2 (restOf w1 w.heap.size vw) w.heap.size L1 e1) (h3 : Kept (restOf w1 w.heap.size vw) w1 w2) :
    ∃ vw', WrV w2 w.heap.size vw' L1 e1 ∧ (∀ q, vw'.ownBlock = some q → w.heap.size < q) ∧ ownX (fun q => q ≤ w.heap.size ∨ vw'.ownBlock = some q) w2 4 va L0.length (L0.map Value.bool) ∧ Old w w2 ∧
      ∀ (vb : Value) (n : Nat) (bs : List Bool), ownX (fun q => q < wr.heap.size) w1 4 vb n (bs.map Value.bool) → ownX (fun q => q ≤ w.heap.size ∨ vw'.ownBlock = some q) w2 4 vb n (bs.map Value.bool) ∧
        ownX (fun q => q ≤ w.heap.size ∨ vw'.ownBlock = some q ∨ vb.ownBlock = some q) w2 4 va L0.length (L0.map Value.bool) := by
  obtain ⟨vw', hV', hn⟩ := WrAt.toV h2
  have hNw := lt_of_block hV.1
  have hs1 := h1.size
  have hs3 := h3.size
  have hOws := hO.size
  have own' : ∀ q, vw'.ownBlock = some q → w.heap.size < q := fun q hq => by
    rcases (hn q hq).2 with h | h
    · exact hvN q h
    · omega
  have hA1 := hA.old h1
  have hAr : ∀ q, va.ownBlock = some q → restOf w1 w.heap.size vw q := fun q hq => ⟨hA1.lt q hq, fun e => hA.2 q hq (.inl (by omega)), fun e => hA.2 q hq (.inr e)⟩
  have hA2 := (hA1.kept h3 hAr)
  have hdis : ∀ q, va.ownBlock = some q → ¬ (q ≤ w.heap.size ∨ vw'.ownBlock = some q) := by
    rintro q hq (h | h)
    · exact hA.2 q hq (.inl h)
    · rcases (hn q h).2 with h' | h'
      · exact hA.2 q hq (.inr h')
      · have := hA1.lt q hq; omega
  have hO2 : Old w w2 := (hO.trans h1).after h3 (fun q hq => ⟨by omega, by omega, fun e => by have := hvN q e; omega⟩)
  refine ⟨vw', hV', own', hA2.mono hdis, hO2, fun vb n bs hb => ?_⟩
  have hbr : ∀ q, vb.ownBlock = some q → wr.heap.size ≤ q ∧ q < w1.heap.size := fun q hq => ⟨by have := hb.2 q hq; omega, hb.lt q hq⟩
  have hb2 := hb.kept h3 (fun q hq => ⟨(hbr q hq).2, by have := (hbr q hq).1; omega, fun e => by have := (hbr q hq).1; have := hV.2.lt q e; omega⟩)
  refine ⟨hb2.mono ?_, hA2.mono ?_⟩
  · rintro q hq (h | h)
    · have := (hbr q hq).1; omega
    · rcases (hn q h).2 with h' | h'
      · have := (hbr q hq).1; have := hV.2.lt q h'; omega
      · have := (hbr q hq).2; omega
  · rintro q hq (h | h | h)
    · exact hdis q hq (.inl h)
    · exact hdis q hq (.inr h)
    · have := (hbr q h).1; have := hA.lt q hq; omega

theorem own_slice {X : Nat → Prop} {w : World} {e : TypeId} {v : Value} {n : Nat} {xs : List Value} (h : ownX X w e v n xs) : ∃ p cap, v = .slice p n cap ∧ (0 < n → ∃ g, p = some ⟨g, 0, none⟩ ∧ n ≤ cap ∧ cap ≤ maxLen) := by
  rcases h.shape with ⟨rfl, rfl⟩ | ⟨g, cap, rfl, _, _, h1, h2, _⟩
  · exact ⟨none, 0, rfl, fun h => by omega⟩
  · exact ⟨_, cap, rfl, fun _ => ⟨g, rfl, h1, h2⟩⟩
theorem I_cell {w wr : World} {L bs : List Bool} {er : Int} {vw va : Value} {g n cap k : Nat} (hn : n = bs.length) (h : I w L bs er vw (.slice (some ⟨g, 0, none⟩) n cap) k va wr) (j : Nat) (hj : j < n) : wr.cell? ⟨g, j, none⟩ = some (.bool (bs.getD j false)) := by
  subst hn
  rw [h.2.2.1.cellAt j hj]
  simp [List.getD, hj]

theorem R_of_I {w wr : World} {its : List It} {L bs : List Bool} {vw vb va : Value} {j k : Nat} (hs : st (its.take (j + 1)) = (L ++ bs, true)) (h : I w L bs (erOf true) vw vb k va wr) (hk : bs.length = k) : R w its (j + 1) va wr := by
  refine ⟨vw, by rw [hs]; exact h.1, h.2.1, ?_, h.2.2.2.2⟩
  have := h.2.2.2.1
  rw [List.take_of_length_le (by omega)] at this
  rw [hs]
  simp only [List.length_append, hk]
  exact this.mono fun q hq hh => this.2 q hq (hh.elim .inl (fun e => .inr (.inl e)))

theorem laid_some (s : Bool) (v k : Int) (w : World) : Calls Try.prog 10 #[.agg #[.bool s, .int .i64 v, .int .i64 k]] w fun e w' => ∃ vb, e = .returned (.tuple #[vb, .bool (validI s v k)]) ∧ Old w w' := by
  cases h : validI s v k with
  | false => exact (laid_no s v k w h).mono fun e w' hh => ⟨_, hh.1, hh.2⟩
  | true => exact (laid_yes s v k w h).mono fun e w' ⟨vb, h1, _, h2⟩ => ⟨vb, h1, h2⟩
theorem R_of_step {w w2 : World} {its : List It} {L : List Bool} {vw va : Value} {j : Nat} (hs : st (its.take (j + 1)) = (L, false)) (h1 : WrV w2 w.heap.size vw L (erOf false)) (h2 : ∀ q, vw.ownBlock = some q → w.heap.size < q)
    (h3 : ownX (fun q => q ≤ w.heap.size ∨ vw.ownBlock = some q) w2 4 va L.length (L.map Value.bool)) (h4 : Old w w2) : R w its (j + 1) va w2 :=
  ⟨vw, by rw [hs]; exact h1, h2, by rw [hs]; exact h3, h4⟩

set_option maxHeartbeats 2000000 in
theorem walk (its : List It) (p : Option Addr) (n cap : Nat) (size : Int) (w : World) (hv : SlIt w (.slice p n cap) its) :
    Calls Try.prog 4 #[.slice p n cap, .int .i64 size] w fun e w' => e = .returned (.bool true) ∧ Old w w' := by
  obtain ⟨p', cap', e, hn, hit, hc⟩ := hv
  simp only [Value.slice.injEq] at e
  obtain ⟨rfl, hnl, rfl⟩ := e
  have hn63 : n ≤ 9223372036854775807 := by omega
  have hst : R w its 0 (.slice none 0 0) (w.alloc (.cells #[.slice none 0 0, .int .i64 0, .int .i64 0] 29)) :=
    ⟨.slice none 0 0, ⟨heap_alloc_new _ _, by simpa [st, nb, bytesOf] using ownX.nil _ _ 5⟩, (fun q hq => by cases hq), by simpa [st] using ownX.nil _ _ 4, Old.alloc _ _⟩
  have HST := Lib.hid hst; have HC := Lib.hid hc; have HIT := Lib.hid hit; have HN := Lib.hid hnl
  obtain ⟨i0, hi, hz0, hz1, hz2⟩ := info_parts Try.info4
  clear hst hc hit hnl
  go_enter Try.func4, Try.ntmps4
  go_wp2_with fail
  go_loopw [6, 7, 8] (fun va vo vi wr => ∃ j : Nat, j ≤ n ∧ j ≤ 40 ∧ vi = .int .i64 j ∧ vo = .bool (st (its.take j)).2 ∧ R w its j va wr) (fun _ _ vi _ => n - (intOf vi).toNat)
  case atStart => exact ⟨0, by omega, by omega, rfl, rfl, HST.out⟩
  case round =>
    obtain ⟨j, hj, hj40, rfl, rfl, hR⟩ := hrel
    obtain ⟨wo, rfl⟩ : ∃ wo : World, wo = wr := ⟨_, rfl⟩
    by_cases hlt : j < n ∧ j < 40
    · obtain ⟨hlt, hl40⟩ := hlt
      obtain ⟨b, off, rfl, hb, hcell⟩ := HC.out (by intro e; have := HN.out; rw [e] at this; simp at this; omega)
      have hjl : j < its.length := by rw [← HN.out]; exact hlt
      obtain ⟨x, hx⟩ : ∃ x, its[j]? = some x := ⟨_, List.getElem?_eq_getElem hjl⟩
      have hxt : its.take (j + 1) = its.take j ++ [x] := by
        rw [List.take_succ_eq_append_getElem hjl]; congr 1; rw [List.getElem?_eq_getElem hjl] at hx; simpa using hx
      have hxm : x ∈ its := List.mem_of_getElem? hx
      have hput := st_put (its.take j) x
      have hsn := st_snoc (its.take j) x
      rw [← hxt] at hput hsn
      obtain ⟨xs, xv, xk⟩ := x
      obtain ⟨y0, y1, y2⟩ := hcell j _ hx
      simp only [] at y0 y1 y2 hput hsn
      obtain ⟨vw, hV, hvN, hA, hO⟩ := hR
      have z0 := (hO.cell (a := ⟨b, off + j * 3, none⟩) hb).trans y0
      have z1 := (hO.cell (a := ⟨b, off + j * 3 + 1, none⟩) hb).trans y1
      have z2 := (hO.cell (a := ⟨b, off + j * 3 + 2, none⟩) hb).trans y2
      have hir := HIT.out _ hxm
      have hlenL := st_len (its.take j)
      have hlt40 : (its.take j).length ≤ 40 := by rw [List.length_take]; omega
      have hlenL' : (st (its.take j)).1.length ≤ 2280 := by omega
      obtain ⟨hv0, hv1⟩ := hir
      simp only [] at hv0 hv1
      have HPUT := Lib.hid hput; have HSN := Lib.hid hsn
      clear hput hsn hlenL hlt40 hxt hxm hx hcell y0 y1 y2
      obtain ⟨s1, hs1⟩ : ∃ s1, st (its.take (j + 1)) = s1 := ⟨_, rfl⟩
      rw [hs1] at HPUT HSN
      have HS1 := Lib.hid hs1
      clear hs1
      generalize st (its.take j) = s0 at *
      obtain ⟨L0, ok0⟩ := s0
      obtain ⟨L1, ok1⟩ := s1
      simp only [] at *
      have HV := Lib.hid hV; have HVN := Lib.hid hvN; have HA := Lib.hid hA; have HO := Lib.hid hO
      clear hV hvN hA hO
      have hcase : (ok0 = true ∧ validI xs xv xk = true) ∨ ((ok0 = false ∨ validI xs xv xk = false) ∧ (L1, ok1) = (L0, false)) := by
        have := HSN.out
        cases ok0 <;> cases h : validI xs xv xk <;> simp [h] at this ⊢ <;> simp [this]
      rcases hcase with ⟨rfl, hval⟩ | ⟨hbad, heq⟩
      · have hsn : (L1, ok1) = (L0 ++ bitsI xv xk, true) := by have := HSN.out; simpa [hval] using this
        simp only [Prod.mk.injEq] at hsn
        obtain ⟨rfl, rfl⟩ := hsn
        have cl := Lib.hid (fun w' => laid_yes xs xv xk w' hval)
        have hval := Lib.hid hval
        go_wp2_with fail
        refine (cl.out _).mono ?_
        rintro e w1 ⟨vb, rfl, hvb, hO1⟩
        have c2 := Lib.hid (lay_item (restOf w1 w.heap.size _) w.heap.size L0 _ xs xv xk w1 (by omega) hv0 hv1 (HV.out.old hO1).rest)
        rw [HPUT.out] at c2
        have HO1 := Lib.hid hO1
        have HB := Lib.hid hvb
        have z0' := (hO1.cell (a := ⟨b, off + j * 3, none⟩) (Nat.lt_of_lt_of_le hb HO.out.size)).trans z0
        have z1' := (hO1.cell (a := ⟨b, off + j * 3 + 1, none⟩) (Nat.lt_of_lt_of_le hb HO.out.size)).trans z1
        have z2' := (hO1.cell (a := ⟨b, off + j * 3 + 2, none⟩) (Nat.lt_of_lt_of_le hb HO.out.size)).trans z2
        clear hO1 hvb z0 z1 z2 cl
        go_wp2_with fail
        refine c2.out.mono ?_
        rintro e w2 ⟨rfl, hw2, hk2⟩
        obtain ⟨vw', hV', hvN', hA', hO', hvb'⟩ := R_step HV.out HVN.out HA.out HO.out HO1.out hw2 hk2
        obtain ⟨hvb1, hA1⟩ := hvb' _ _ _ HB.out
        have hbl := length_bitsI xv xk
        have hbk : xk.toNat ≤ 57 := by
          have := hval.out
          simp only [validI, Bool.and_eq_true, decide_eq_true_eq] at this
          omega
        obtain ⟨p, c3, rfl, hp⟩ := own_slice hvb1
        have hst2 : I w L0 (bitsI xv xk) (erOf true) vw' (.slice p xk.toNat c3) 0 _ w2 := ⟨hV', hvN', by rw [length_bitsI]; exact hvb1, by simpa using hA1, hO'⟩
        have HST2 := Lib.hid hst2
        have HP := Lib.hid hp
        have HBL := Lib.hid hbl
        clear hV' hvN' hA' hO' hvb' hvb1 hA1 hst2 hp hw2 hk2 HV HVN HA HO HO1 HB z0' z1' z2' hbl hval c2
        generalize bitsI xv xk = bs at *
        generalize xk.toNat = m at *
        go_wp2_with fail
        go_loopw [6, 11] (fun va vk wi => ∃ kk : Nat, kk ≤ m ∧ vk = .int .i64 kk ∧ I w L0 bs (erOf true) vw' (.slice p m c3) kk va wi) (fun _ vk _ => m - (intOf vk).toNat)
        case atStart => exact ⟨0, by omega, rfl, HST2.out⟩
        case round =>
          obtain ⟨kk, hkk, rfl, hI⟩ := hrel
          by_cases hltk : kk < m
          · obtain ⟨g, rfl, hmc, hcm⟩ := HP.out (by omega)
            have hkb : kk < bs.length := by rw [HBL.out]; exact hltk
            have q0 := I_cell HBL.out.symm hI kk hltk
            have hown := hI.2.2.2.1
            have HX := Lib.hid (I_X hI)
            have HNX := Lib.hid (fun va' w1 o h1 h2 => I_next (va' := va') (w1 := w1) (o := o) hI hkb h1 h2)
            have hl0 : L0.length + kk ≤ 2400 := by omega
            have HXA := Lib.hid (fun (o : Obj) (q : Nat) hq => (show q < (wr.alloc o).heap.size from by have := I_X hI q hq; simp; omega))
            clear hI
            generalize bs.getD kk false = c at *
            go_wp2_with ((at_builtin; refine append_X _ rfl _ _ 30 rfl (fun q => q ≤ w.heap.size ∨ vw'.ownBlock = some q ∨ (Value.slice (some ⟨g, 0, none⟩) m c3).ownBlock = some q) 4 i0 (.bool false) 1 Try.underlying30 hi hz0 hz1 hz2 rfl _ _ _ rfl (hown.old (Old.alloc _ _)) ⟨_, 0, none⟩ 1 1 [.bool c] rfl rfl (news_one _ _ _) (one_bool _) (by unfold maxLen; omega) (by omega) (HXA.out _) ?_; intro v' w3 hown3 hk3 _; have hn3 := Lib.hid (HNX.out v' w3 _ hown3 hk3); clear hown hown3 hk3))
            go_roundw
            case rel => exact ⟨kk + 1, by omega, by go_num, hn3.out⟩
            case measure => simp [intOf]; omega
          · obtain rfl : kk = m := by omega
            have hR1 := R_of_I HS1.out hI HBL.out
            have HR1 := Lib.hid hR1
            clear hI hR1
            go_wp2_with fail
            go_roundw
            case rel => exact ⟨j + 1, by omega, by omega, by go_num, by rw [HS1.out], HR1.out⟩
            case measure => simp [intOf]; omega
      · simp only [Prod.mk.injEq] at heq
        obtain ⟨rfl, rfl⟩ := heq
        have cl := Lib.hid (fun w' => laid_some xs xv xk w')
        have hand : (ok0 && validI xs xv xk) = false := by
          rcases hbad with h | h
          · rw [h]; rfl
          · rw [h]; cases ok0 <;> rfl
        have HAND := Lib.hid hand
        clear hand hbad
        generalize validI xs xv xk = isB at *
        go_wp2_with fail
        refine (cl.out _).mono ?_
        rintro e w1 ⟨vb, rfl, hO1⟩
        have c2 := Lib.hid (lay_item (restOf w1 w.heap.size _) w.heap.size L1 _ xs xv xk w1 (by omega) hv0 hv1 (HV.out.old hO1).rest)
        rw [HPUT.out] at c2
        have HO1 := Lib.hid hO1
        have z0' := (hO1.cell (a := ⟨b, off + j * 3, none⟩) (Nat.lt_of_lt_of_le hb HO.out.size)).trans z0
        have z1' := (hO1.cell (a := ⟨b, off + j * 3 + 1, none⟩) (Nat.lt_of_lt_of_le hb HO.out.size)).trans z1
        have z2' := (hO1.cell (a := ⟨b, off + j * 3 + 2, none⟩) (Nat.lt_of_lt_of_le hb HO.out.size)).trans z2
        clear hO1 z0 z1 z2 cl
        go_wp2_with fail
        refine c2.out.mono ?_
        rintro e w2 ⟨rfl, hw2, hk2⟩
        obtain ⟨vw', hV', hvN', hA', hO', _⟩ := R_step HV.out HVN.out HA.out HO.out HO1.out hw2 hk2
        have HR1 := Lib.hid (R_of_step HS1.out hV' hvN' hA' hO')
        clear hV' hvN' hA' hO' hw2 hk2 HV HVN HA HO HO1 c2
        cases ok0 <;> cases isB <;> first | (exfalso; have := HAND.out; simp at this; done) | skip
        all_goals
          go_wp2_with fail
          go_roundw
          case rel => exact ⟨j + 1, by omega, by omega, by go_num, by rw [HS1.out], HR1.out⟩
          case measure => simp [intOf]; omega
    · have hj40' : ¬ (j < n) ∨ ¬ (j < 40) := by omega
      obtain ⟨vw, hV, hvN, hA, hO⟩ := hR
      have hlenL := st_len (its.take j)
      have hlt40 : (its.take j).length ≤ 40 := by rw [List.length_take]; omega
      have hlenL' : (st (its.take j)).1.length ≤ 2280 := by omega
      clear hlenL hlt40
      generalize st (its.take j) = s0 at *
      obtain ⟨L, ok⟩ := s0
      simp only [] at *
      obtain ⟨pa, ca, rfl, hpa⟩ := own_slice hA
      have hbl := lt_of_block hV.1
      have hsl := SlV.own hA.1
      have HA := Lib.hid hA
      have HV := Lib.hid hV
      have HO := Lib.hid hO
      have HSL := Lib.hid hsl
      clear hV hvN hA hO hpa hsl HC HIT HN HST hlt
      by_cases hjn : j < n <;> by_cases hsz : 1000 < size
      all_goals
        first | (have hj4 : ¬ j < 40 := by omega) | skip
        clear hj40'
        go_wp2_with fail
      all_goals first
        | (have hgt : 1000 < size := by assumption
           obtain ⟨sz, hse⟩ : ∃ sz : Int, sz = 1000 := ⟨_, rfl⟩
           rw [← hse]
           have hle : sz ≤ 1000 := by omega
           clear hse hgt)
        | (generalize size = sz at *
           have hle : sz ≤ 1000 := by omega)
      all_goals
        have cB := Lib.hid (Bytes_any _ _ _ _ sz _ HV.out.rest)
        clear hsz
        have hcs : (ok = false ∧ bytesErr L (erOf ok) sz = 5 ∧ bytesL L (erOf ok) sz = []) ∨ (ok = true ∧ sz < 0 ∧ bytesErr L (erOf ok) sz = 1 ∧ bytesL L (erOf ok) sz = []) ∨
            (ok = true ∧ 0 ≤ sz ∧ sz < ((L.length : Int) + 7) / 8 ∧ bytesErr L (erOf ok) sz = 3 ∧ bytesL L (erOf ok) sz = []) ∨ (ok = true ∧ 0 ≤ sz ∧ ((L.length : Int) + 7) / 8 ≤ sz ∧ bytesErr L (erOf ok) sz = 0 ∧ bytesL L (erOf ok) sz = padded L sz.toNat) := by
          cases ok with
          | false => exact .inl ⟨rfl, by simp [bytesErr, erOf], by simp [bytesL, bytesErr, erOf]⟩
          | true =>
            have hnb : (nb L : Int) = ((L.length : Int) + 7) / 8 := by simp only [nb]; omega
            by_cases h0 : sz < 0
            · exact .inr (.inl ⟨rfl, h0, by simp [bytesErr, erOf, h0], by simp [bytesL, bytesErr, erOf, h0]⟩)
            · have h1 : ¬ (sz < 0 ∨ 2147483647 < sz) := by omega
              by_cases h2 : sz < ((L.length : Int) + 7) / 8
              · have h3 : sz < (nb L : Int) := by omega
                exact .inr (.inr (.inl ⟨rfl, by omega, h2, by simp [bytesErr, erOf, h1, h3], by simp [bytesL, bytesErr, erOf, h1, h3]⟩))
              · have h3 : ¬ sz < (nb L : Int) := by omega
                exact .inr (.inr (.inr ⟨rfl, by omega, by omega, by simp [bytesErr, erOf, h1, h3], by simp [bytesL, bytesErr, erOf, h1, h3]⟩))
        rcases hcs with ⟨rfl, he, hl⟩ | ⟨rfl, hs0, he, hl⟩ | ⟨rfl, hs0, hs1, he, hl⟩ | ⟨rfl, hs0, hs1, he, hl⟩
        case inr.inr.inr =>
          rw [he, hl] at cB
          clear he hl
          obtain ⟨n2, rfl⟩ := Int.eq_ofNat_of_zero_le hs0
          rw [Int.toNat_natCast] at cB
          refine cB.out.mono ?_
          rintro e w3 ⟨p3, n3, c3, rfl, hn3, hs3, ho3⟩
          have cE := Lib.hid (Len_any _ _ _ _ w3 (HV.out.old ho3).rest)
          have cW := Lib.hid (whole_any L _ n2 w3 (HSL.out.old ho3) (by omega) (by simp only [nb]; omega))
          have HN3 := Lib.hid hn3; have HS3 := Lib.hid hs3; have HO3 := Lib.hid ho3
          clear hn3 hs3 ho3
          go_wp2_with fail
          refine cE.out.mono ?_
          rintro e w' ⟨rfl, rfl⟩
          go_wp2_with fail
          refine cW.out.mono ?_
          rintro e w4 ⟨rfl, hh4, ho4⟩
          have hs4 : SlI w4 .u8 (.slice (some ⟨w3.heap.size, 0, none⟩) n2 n2) (padded L n2) :=
            ⟨_, _, by rw [length_padded], fun _ => ⟨w3.heap.size, 0, rfl, lt_of_block hh4, by rw [length_padded]; omega, by unfold maxLen; omega, fun i hi => by rw [length_padded] at hi; simp [World.cell?, hh4, padded, hi]⟩⟩
          have cD := Lib.hid (same_any _ _ _ _ w4 (HS3.out.old ho4) hs4)
          have HO4 := Lib.hid ho4
          clear hh4 ho4 hs4
          go_wp2_with fail
          refine cD.out.mono ?_
          rintro e w' ⟨rfl, rfl⟩
          go_wp2_with fail
          refine (awake_any _).mono ?_
          rintro e w5 ⟨rfl, ho5⟩
          have HO5 := Lib.hid ho5
          clear ho5
          go_wp2
          go_ret
          exact ⟨rfl, ((HO.out.trans HO3.out).trans HO4.out).trans HO5.out⟩
        all_goals
          rw [he, hl] at cB
          clear he hl
          refine cB.out.mono ?_
          rintro e w3 ⟨p3, n3, c3, rfl, hn3, hs3, ho3⟩
          have cE := Lib.hid (Len_any _ _ _ _ w3 (HV.out.old ho3).rest)
          have HO3 := Lib.hid ho3
          obtain rfl : n3 = 0 := by simpa using hn3
          clear hn3 hs3 ho3
          go_wp2_with fail
          refine cE.out.mono ?_
          rintro e w' ⟨rfl, rfl⟩
          go_wp2_with fail
          refine (awake_any _).mono ?_
          rintro e w5 ⟨rfl, ho5⟩
          have HO5 := Lib.hid ho5
          clear ho5
          go_wp2
          go_ret
          exact ⟨rfl, (HO.out.trans HO3.out).trans HO5.out⟩

theorem own : ownKnob Try.prog.godebug = none := by kernel_rfl
theorem laidOut : laidOutB Try.prog = true := by kernel_rfl

set_option maxRecDepth 100000 in
theorem lifted (os : Os) (started : os.Started) (H : Type) (enc : TypeId × Value → H) :
    ReturnsInHanded {} Try.checked os 4 .any (Rows.bitsWritesSpec.pre6 enc Try.prog Try.f4 Rows.bitsWritesRow.domain false) (Rows.bitsWritesSpec.post enc Try.prog Try.f4 false true false false) := by
  refine returnsInHanded_of_change (C := Try.checked) own started (by kernel_rfl) Try.func4
    (ChangeSpec.witness6 (enc := enc) (C := Try.checked) false ⟨#[], #[.slice none 0 0, .int .i64 0], []⟩ 8 (by kernel_rfl) (by kernel_rfl) (by kernel_rfl) (by kernel_rfl)) ?_
  intro W base args ds gs before hval0 hW hcnd _
  have hval : ∀ (j : Nat) t v, Try.f4.params[j]? = some t → args[j]? = some v → Value.okWide Try.prog W .any base t v := hval0
  have hW' := hW
  have hlt : ∀ p ∈ before, p.block < W.heap.size := fun p hp => hW'.lt p hp
  obtain ⟨p, q, hA0, hV, rfl, hfz, hnd⟩ := hW
  have hA : DataW.TrodAll enc Try.prog W 0 (fun _ => true) true Try.f4.params.toList args.toList ds p := hA0
  rw [Try.params4] at hA hval
  obtain ⟨v0, vs0, d0, ds0, p0, q0, hargs, rfl, rfl, h0, r0⟩ := trodAll_cons hA
  obtain ⟨v1, vs1, d1, ds1, p1, q1, rfl, rfl, rfl, h1, r1⟩ := trodAll_cons r0
  obtain ⟨rfl, rfl, rfl⟩ := trodAll_nil r1
  obtain rfl : args = #[v0, v1] := by cases args; simp_all
  obtain ⟨rfl, rfl⟩ := trodVars_none hV
  obtain ⟨s0, n0, c0, its, rfl, hs0⟩ := open_slIt (hval 0 24 v0 rfl rfl) h0 (fun x hx => hlt x (by simp [hx]))
  obtain ⟨a1, rfl, _, _, w1⟩ := open_int Try.underlying3 (hval 1 3 v1 rfl rfl) h1
  refine (walk its s0 n0 c0 a1 W hs0).mono fun e W' ⟨he, hg⟩ => ?_
  subst he
  exact ⟨_, rfl, law_done laidOut Try.underlying4 rfl (by kernel_rfl) rfl hW' rfl hg⟩

theorem over : Rows.bitsWritesRow.holds Try.pinned (OpenSpec.ofChange Rows.bitsWritesSpec) :=
  OpenClaim.holds_of_wide 4 Try.f4 rfl rfl rfl rfl rfl rfl rfl ⟨rfl, rfl, rfl, rfl, rfl⟩ rfl rfl rfl rfl rfl (by kernel_rfl) Try.func4 (by kernel_rfl)
    (of_decide_eq_true (by kernel_rfl)) (by unfold Func.isWrapper; first | (rw [if_pos (by decide +kernel)]; kernel_rfl) | (rw [if_neg (by decide +kernel)]; exact ⟨rfl, rfl⟩))
    (fun os started H enc _ => lifted os started H enc)

theorem proved : Rows.BitsWritesSaid :=
  over
end Go.Proofs.Ytophjkdalajjpaa.bitsWrites
