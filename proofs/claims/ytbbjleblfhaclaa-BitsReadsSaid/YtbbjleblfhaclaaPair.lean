/- Both readers side by side, and a call's number beside them: what each call leaves of the other. -/
import Derived.Test.YtbbjleblfhaclaaPlainEnd
namespace Go.Proofs.Ytbbjleblfhaclaa
set_option linter.unusedVariables false
open Go.RowKit Go.ChangeShapes Go.WideShapes

theorem rd_pl_ne {w : World} {br bp : Nat} {bs : List Int} {i : Nat} {er el : Int} {l : List Bool} (hr : RdAt w br bs i er) (hp : PlAt w bp l el) : bp ≠ br := by
  intro e
  subst e
  obtain ⟨v, hb, _⟩ := hr
  obtain ⟨u, hc, _⟩ := hp
  rw [hb] at hc
  simp at hc
theorem PlAt.keptR {w w' : World} {br bp : Nat} {bs : List Int} {i : Nat} {er el : Int} {l : List Bool} (hp : PlAt w bp l el) (hr : RdAt w br bs i er) (k : Kept (butOf w br) w w') : PlAt w' bp l el := by
  have hne := rd_pl_ne hr hp
  obtain ⟨v, hb, ⟨p, cap, rfl, h⟩, hv, hl⟩ := hp
  refine ⟨_, (k.block bp ⟨lt_of_block hb, hne⟩).trans hb, ⟨p, cap, rfl, fun hx => ?_⟩, hv, hl⟩
  obtain ⟨g, off, rfl, hg, hl', hm, hc⟩ := h hx
  refine ⟨g, off, rfl, Nat.lt_of_lt_of_le hg k.size, hl', hm, fun j u hj => (k.cell (a := ⟨g, off + j, none⟩) ⟨hg, fun e => ?_⟩).trans (hc j u hj)⟩
  have e' : g = br := e
  subst e'
  have hj0 := hc j u hj
  rw [List.getElem?_map] at hj
  obtain ⟨x, _, rfl⟩ := Option.map_eq_some_iff.1 hj
  obtain ⟨v', hb', ⟨p', cap', rfl, _⟩, _⟩ := hr
  simp only [World.cell?, hb'] at hj0
  match off + j, hj0 with
  | 0, h => simp at h
  | 1, h => simp at h
  | 2, h => simp at h
  | n + 3, h => simp at h
theorem RdAt.keptP {w w' : World} {br bp : Nat} {bs : List Int} {i : Nat} {er el : Int} {l : List Bool} (hr : RdAt w br bs i er) (hp : PlAt w bp l el) (k : Kept (butOf w bp) w w') : RdAt w' br bs i er := by
  have hne := rd_pl_ne hr hp
  obtain ⟨v, hb, ⟨p, cap, rfl, h⟩, hv, hbt, hl, hi⟩ := hr
  refine ⟨_, (k.block br ⟨lt_of_block hb, Ne.symm hne⟩).trans hb, ⟨p, cap, rfl, fun hx => ?_⟩, hv, hbt, hl, hi⟩
  obtain ⟨g, off, rfl, hg, hl', hm, hc⟩ := h hx
  refine ⟨g, off, rfl, Nat.lt_of_lt_of_le hg k.size, hl', hm, fun j hj => (k.cell (a := ⟨g, off + j, none⟩) ⟨hg, fun e => ?_⟩).trans (hc j hj)⟩
  have e' : g = bp := e
  subst e'
  have hj0 := hc j hj
  obtain ⟨v', hb', ⟨p', cap', rfl, _⟩, _⟩ := hp
  simp only [World.cell?, hb'] at hj0
  match off + j, hj0 with
  | 0, h => simp at h
  | 1, h => simp at h
  | n + 2, h => simp at h

/-- Both readers, and a cell with a number. -/
def ST (w0 : World) (bo : Nat) (k : Int) (br bp : Nat) (bs : List Int) (i : Nat) (er : Int) (l : List Bool) (el : Int) (w : World) : Prop :=
  RdAt w br bs i er ∧ PlAt w bp l el ∧ w.cell? ⟨bo, 1, none⟩ = some (.int .i64 k) ∧ bo ≠ br ∧ bo ≠ bp ∧ bo < w.heap.size ∧ w0.heap.size ≤ br ∧ w0.heap.size ≤ bp ∧ Old w0 w
section
variable {w0 w w' : World} {bo : Nat} {k : Int} {br bp : Nat} {bs : List Int} {i i' : Nat} {er er' : Int} {l l' : List Bool} {el el' : Int}
theorem ST.rd (h : ST w0 bo k br bp bs i er l el w) (hr : RdAt w' br bs i' er') (kk : Kept (butOf w br) w w') : ST w0 bo k br bp bs i' er' l el w' := by
  obtain ⟨h1, h2, h3, h4, h5, h6, h7, h8, h9⟩ := h
  have := h9.size
  exact ⟨hr, h2.keptR h1 kk, (kk.cell (a := ⟨bo, 1, none⟩) ⟨h6, h4⟩).trans h3, h4, h5, Nat.lt_of_lt_of_le h6 kk.size, h7, h8, h9.after kk fun q hq => ⟨by omega, by omega⟩⟩
theorem ST.pl (h : ST w0 bo k br bp bs i er l el w) (hp : PlAt w' bp l' el') (kk : Kept (butOf w bp) w w') : ST w0 bo k br bp bs i er l' el' w' := by
  obtain ⟨h1, h2, h3, h4, h5, h6, h7, h8, h9⟩ := h
  have := h9.size
  exact ⟨h1.keptP h2 kk, hp, (kk.cell (a := ⟨bo, 1, none⟩) ⟨h6, h5⟩).trans h3, h4, h5, Nat.lt_of_lt_of_le h6 kk.size, h7, h8, h9.after kk fun q hq => ⟨by omega, by omega⟩⟩
theorem ST.drew (h : ST w0 bo k br bp bs i er l el w) : ST w0 bo k br bp bs i er l el w.drew := by
  obtain ⟨h1, h2, h3, h4, h5, h6, h7, h8, h9⟩ := h
  exact ⟨h1, h2, h3, h4, h5, h6, h7, h8, Kept.drew h9⟩

theorem Get_st (h : ST w0 bo k br bp bs i er l el w) (x : Int) :
    Calls Try.prog 19 #[.pointer (some ⟨br, 0, none⟩), .int .i64 x] w fun en w' => en = .returned (.int .u64 (getTo bs i er x).1) ∧ ST w0 bo k br bp bs (getTo bs i er x).2.1 (getTo bs i er x).2.2 l el w' :=
  (Get_any br bs i er x w h.1).mono fun en w' ⟨e, h1, h2⟩ => ⟨e, h.rd h1 h2⟩
theorem RSigned_st (h : ST w0 bo k br bp bs i er l el w) (x : Int) (hx : -9223372036854775808 ≤ x ∧ x ≤ 9223372036854775807) :
    Calls Try.prog 18 #[.pointer (some ⟨br, 0, none⟩), .int .i64 x] w fun en w' => en = .returned (.int .i64 (sgnTo bs i er x)) ∧ ST w0 bo k br bp bs (getTo bs i er x).2.1 (getTo bs i er x).2.2 l el w' :=
  (RSigned_any br bs i er x w hx h.1).mono fun en w' ⟨e, h1, h2⟩ => ⟨e, h.rd h1 h2⟩
theorem Fail_st (h : ST w0 bo k br bp bs i er l el w) (x : Int) :
    Calls Try.prog 25 #[.pointer (some ⟨br, 0, none⟩), .int .i64 x] w fun en w' => en = .returned (.tuple #[]) ∧ ST w0 bo k br bp bs i (if er = 0 then x else er) l el w' :=
  (Fail_any br bs i er x w h.1).mono fun en w' ⟨e, h1, h2⟩ => ⟨e, h.rd h1 h2⟩
theorem End_st (h : ST w0 bo k br bp bs i er l el w) :
    Calls Try.prog 21 #[.pointer (some ⟨br, 0, none⟩)] w fun en w' => en = .returned (.int .i64 (endTo bs i er)) ∧ ∃ j, (endTo bs i er = 0 → j = 8 * bs.length) ∧ ST w0 bo k br bp bs j (endTo bs i er) l el w' :=
  (End_any br bs i er w h.1).mono fun en w' ⟨e, ⟨j, h1, h2⟩, h3⟩ => ⟨e, j, h2, h.rd h1 h3⟩
theorem pget_st (h : ST w0 bo k br bp bs i er l el w) (x : Int) :
    Calls Try.prog 23 #[.pointer (some ⟨bp, 0, none⟩), .int .i64 x] w fun en w' => en = .returned (.int .u64 (pgetTo l el x).1) ∧ ST w0 bo k br bp bs i er (pgetTo l el x).2.1 (pgetTo l el x).2.2 w' :=
  (pget_any bp l el x w h.2.1).mono fun en w' ⟨e, h1, h2⟩ => ⟨e, h.pl h1 h2⟩
theorem psigned_st (h : ST w0 bo k br bp bs i er l el w) (x : Int) :
    Calls Try.prog 24 #[.pointer (some ⟨bp, 0, none⟩), .int .i64 x] w fun en w' => en = .returned (.int .i64 (psgnTo l el x)) ∧ ST w0 bo k br bp bs i er (pgetTo l el x).2.1 (pgetTo l el x).2.2 w' :=
  (psigned_any bp l el x w h.2.1).mono fun en w' ⟨e, h1, h2⟩ => ⟨e, h.pl h1 h2⟩
theorem pend_st (h : ST w0 bo k br bp bs i er l el w) :
    Calls Try.prog 26 #[.pointer (some ⟨bp, 0, none⟩)] w fun en w' => en = .returned (.int .i64 (pendTo l el)) ∧ ST w0 bo k br bp bs i er [] (pendTo l el) w' :=
  (pend_any bp l el w h.2.1).mono fun en w' ⟨e, h1, h2⟩ => ⟨e, h.pl h1 h2⟩
end

/-- The state of the second loop. -/
def L2 (w : World) (br bp : Nat) (bs : List Int) (wr : World) : Prop := Both wr br bp bs ∧ w.heap.size ≤ br ∧ w.heap.size ≤ bp ∧ Old w wr
theorem L2.of {w0 w : World} {bo : Nat} {k : Int} {br bp : Nat} {bs : List Int} {i : Nat} {er : Int} {l : List Bool} {el : Int} (h : ST w0 bo k br bp bs i er l el w) (he : er = el) (hl : er = 0 → l = (bitsOf bs).drop i) : L2 w0 br bp bs w := by
  obtain ⟨h1, h2, h3, h4, h5, h6, h7, h8, h9⟩ := h
  subst he
  exact ⟨⟨i, l, er, h1, h2, hl⟩, h7, h8, h9⟩
theorem L2.of_drewN {w wr : World} {br bp : Nat} {bs : List Int} (h : L2 w br bp bs wr) (n : Nat) : L2 w br bp bs (wr.drewN n) := by
  obtain ⟨⟨i, l, er, h1, h2, hl⟩, h7, h8, h9⟩ := h
  have k := (Kept.refl (fun _ => True) wr).drewN n
  exact ⟨⟨i, l, er, h1.kept k (fun _ _ => trivial), h2.kept k (fun _ _ => trivial), hl⟩, h7, h8, h9.drewN n⟩
end Go.Proofs.Ytbbjleblfhaclaa
