/- What every walk of this seat shares: which blocks stay as they were, small facts on blocks, and how a law's row is closed from its walk. No program. -/
import Derived.WalkKit
import Derived.Handy
import Derived.Outline
import Derived.Lib.Hide
import Derived.IntWalk
import Derived.OwnWalk
import Derived.OneCell
import Derived.Below
import Derived.ChangeAlike
import Derived.ProofKit
import Derived.OpenShut
import Derived.Carry
namespace Go.Proofs.Ytophjkdalajjpaa
open Go.RowKit Go.ChangeShapes Go.WideShapes

/-- Below B all blocks but b are as they were. -/
structure But (B b : Nat) (w w' : World) : Prop where
  os : w'.os = w.os
  output : w'.output = w.output
  size : w.heap.size ≤ w'.heap.size
  block : ∀ k, k < B → k ≠ b → w'.heap[k]? = w.heap[k]?
namespace But
theorem refl (B b : Nat) (w : World) : But B b w w := ⟨rfl, rfl, Nat.le_refl _, fun _ _ _ => rfl⟩
theorem trans {B b : Nat} {u v w : World} (h : But B b u v) (k : But B b v w) : But B b u w :=
  ⟨k.os.trans h.os, k.output.trans h.output, Nat.le_trans h.size k.size, fun i hi hn => (k.block i hi hn).trans (h.block i hi hn)⟩
theorem below {B b : Nat} {w w' : World} (h : Below B w w') : But B b w w' := ⟨h.os, h.output, h.size, fun k hk _ => h.block k hk⟩
theorem setCell {B b : Nat} (w : World) {a : Addr} (ha : a.block = b ∨ B ≤ a.block) (u : Value) : But B b w (w.setCell a u) :=
  ⟨rfl, rfl, by simp [World.setCell], fun k hk hn => Below.heap_setCell _ _ _ _ (by omega)⟩
theorem grown {B b : Nat} {w w' : World} {row : Option Nat} (hg : w.grownBy w' row) (hB : B ≤ w.heap.size) (hr : ∀ k, row = some k → B ≤ k) : But B b w w' :=
  below ((Below.refl B w).grown hg hB hr)
theorem alike {B b : Nat} {w w' w'' : World} (h : But B b w w') (k : w''.Alike w') : But B b w w'' := by
  have e := k.1
  exact ⟨k.2.1.trans h.os, k.2.2.trans h.output, by rw [e]; exact h.size, fun i hi hn => by rw [e]; exact h.block i hi hn⟩
end But

/-- All that there was is as it was. -/
def Old (w w' : World) : Prop := But w.heap.size w.heap.size w w'
theorem Old.refl (w : World) : Old w w := But.refl _ _ _
theorem But.mono {B b B' b' : Nat} {w w' : World} (h : But B b w w') (hB : B' ≤ B) (hb : b = b' ∨ B' ≤ b) : But B' b' w w' :=
  ⟨h.os, h.output, h.size, fun k hk hn => h.block k (by omega) (by omega)⟩
theorem Old.trans {u v w : World} (h : Old u v) (k : Old v w) : Old u w :=
  But.trans h (But.mono k h.size (.inr h.size))
theorem Old.below {u v : World} (h : Below u.heap.size u v) : Old u v := But.below h
theorem Old.alike {u v w : World} (h : Old u v) (k : w.Alike v) : Old u w := But.alike h k
theorem Old.of_new {w w' : World} {o : Obj} {B : Nat} (h : But B w.heap.size (w.alloc o) w') (hB : w.heap.size ≤ B) : Old w w' :=
  ⟨h.os, h.output, by have := h.size; simp at this; omega, fun k hk hn => (h.block k (by omega) (by omega)).trans (Below.heap_alloc w o k hk)⟩

theorem news_one (w : World) (u : Value) (t : TypeId) : ∀ (j : Nat) (x : Value), [u][j]? = some x → (w.alloc (.cells #[u] t)).cell? ((⟨w.heap.size, 0, none⟩ : Addr).add j) = some x := by
  intro j x h
  match j, h with
  | 0, h => 
    simp only [List.getElem?_cons_zero, Option.some.injEq] at h
    subst h
    show (w.alloc (.cells #[u] t)).cell? ⟨w.heap.size, 0, none⟩ = _
    rw [World.cell?_alloc_at _ _ _ _ rfl]; rfl
  | j + 1, h => simp at h
theorem one_oneCell (k : IntKind) (n : Int) : ∀ u ∈ [Value.int k n], u.oneCell' = true := by
  intro u hu
  simp only [List.mem_singleton] at hu
  subst hu
  rfl

theorem own_shape {w : World} {B t m : Nat} {v : Value} {xs : List Value} (h : w.ownsRow B t 1 v (m + 1) xs) :
    ∃ g cap, v = .slice (some ⟨g, 0, none⟩) (m + 1) cap ∧ B ≤ g ∧ g < w.heap.size ∧ m + 1 ≤ cap ∧ cap ≤ maxLen := by
  rcases h.2 with ⟨_, h0⟩ | ⟨g, cap, cur, hv, hb, hg, hn, hc, _⟩
  · omega
  · exact ⟨g, cap, hv, hb, lt_of_block hg, hn, hc⟩

theorem cell3 {w : World} {b : Nat} {x y z : Value} {t : TypeId} (h : w.heap[b]? = some (.cells #[x, y, z] t (0, 0))) :
    w.cell? ⟨b, 0, none⟩ = some x ∧ w.cell? ⟨b, 1, none⟩ = some y ∧ w.cell? ⟨b, 2, none⟩ = some z ∧ w.frozen? ⟨b, 0, none⟩ = false ∧ w.frozen? ⟨b, 1, none⟩ = false ∧ w.frozen? ⟨b, 2, none⟩ = false := by
  simp [World.cell?, World.frozen?, h]

theorem heap_setCell_at {w : World} {b o : Nat} {u : Value} {c : Array Value} {t : TypeId} (h : w.heap[b]? = some (.cells c t (0, 0))) : (w.setCell ⟨b, o, none⟩ u).heap[b]? = some (.cells (c.setIfInBounds o u) t (0, 0)) := by
  have hlt := lt_of_block h
  have h' : w.heap[b] = .cells c t (0, 0) := by simpa [Array.getElem?_eq_getElem hlt] using h
  show (w.heap.modify b _)[b]? = _
  rw [Array.getElem?_eq_getElem (by simpa using hlt), Array.getElem_modify_self, h']
  rfl

theorem ownsRow_alike {w w' : World} {B t n : Nat} {v : Value} {xs : List Value} (h : w.ownsRow B t 1 v n xs) (k : w'.Alike w) : w'.ownsRow B t 1 v n xs := by
  obtain ⟨h1, h2⟩ := h
  refine ⟨h1, ?_⟩
  rw [k.1]
  exact h2

/-- All arguments read behind the call as they read before. -/
theorem trodAll_stays {H : Type} {enc : TypeId × Value → H} {P : Program} (hl : laidOutB P = true) {W W' : World} (hb : Old W W') :
    ∀ (ts : List TypeId) (vs : List Value) (ds : List (DataW H)) (ps : List MemPlace), ts.all (fun t => P.readableRec t && decide (t < P.types.size)) = true → (∀ x ∈ ps, x.block < W.heap.size) →
      DataW.TrodAll enc P W 0 (fun _ => true) true ts vs ds ps → DataW.TrodAll enc P W' 0 (fun b => decide (b < W.heap.size)) true ts vs ds ps := by
  intro ts
  induction ts with
  | nil =>
    intro vs ds ps _ _ h
    cases vs <;> cases ds <;> simp [DataW.TrodAll] at h ⊢
    exact h
  | cons t ts ih =>
    intro vs ds ps hr hlt h
    obtain ⟨v, vs', d, ds', p, q, rfl, rfl, rfl, h0, h1⟩ := trodAll_cons h
    simp only [List.all_cons, Bool.and_eq_true, decide_eq_true_eq] at hr
    refine ⟨p, q, WideElems.Trod_stays hl hr.1.1 hr.1.2 h0 (fun x hx => ?_) (fun x hx => by simpa using hlt x (List.mem_append_left _ hx)), ih vs' ds' q hr.2 (fun x hx => hlt x (List.mem_append_right _ hx)) h1, rfl⟩
    have hx' := hlt x (List.mem_append_left _ hx)
    have hblk := hb.block x.block hx' (by omega)
    cases x with
    | cell b o => simp only [World.sameAt]; exact World.cell?_of_block (a := ⟨b, o, none⟩) hblk
    | map b => simp only [World.sameAt]; exact hblk

theorem Old.frame {W W' : World} (h : Old W W') (may : MemPlace → Prop) : W.keptBut W' may := by
  refine ⟨h.os, h.output, fun i hi => ?_⟩
  rw [h.block i hi (by omega)]
  split <;> simp_all

/-- A law has returned true and left all that there was as it was: what its row asks behind the call. -/
theorem law_done {H : Type} {enc : TypeId × Value → H} {P : Program} (hl : laidOutB P = true) {f : Func} {s : ChangeSpec} {tb : TypeId} (hbool : P.underlying tb = some .bool) (hrt : f.resultTypes = #[tb])
    (hr : f.params.toList.all (fun t => P.readableRec t && decide (t < P.types.size)) = true) (hvars : s.vars = []) {W W' : World} {args : Array Value} {ds gs : List (DataW H)} {before : List MemPlace}
    (hW : DataW.Whole enc P f.params.toList s.vars false W args.toList ds gs before) (hs : s.fn H (ds ++ gs) = { results := [.lit (.bool true)], args := ds }) (hb : Old W W') :
    s.post enc P f false true false false W args (.bool true) W' := by
  have hlt : ∀ p ∈ before, p.block < W.heap.size := fun p hp => hW.lt p hp
  have hW' := hW
  obtain ⟨p, q, hA, hV, rfl, _, _⟩ := hW
  rw [hvars] at hV
  obtain ⟨rfl, rfl⟩ := trodVars_none hV
  refine ⟨ds, [], p ++ [], [], p, [], hW', ?_, ?_, ?_, hb.frame _, fun h => by cases h⟩
  · rw [hs, hrt]; exact trodAll_cons_mk (shut_bool hbool _) trodAll_mk0
  · rw [hs]; exact trodAll_stays hl hb _ _ _ _ hr (fun x hx => hlt x (List.mem_append_left _ hx)) hA
  · rw [hs, hvars]; rfl

/-- The slice v reads as these numbers. -/
def SlI (w : World) (k : IntKind) (v : Value) (xs : List Int) : Prop :=
  ∃ p cap, v = .slice p xs.length cap ∧ (xs ≠ [] → ∃ b off, p = some ⟨b, off, none⟩ ∧ b < w.heap.size ∧ xs.length ≤ cap ∧ cap ≤ maxLen ∧ ∀ i, i < xs.length → w.cell? ⟨b, off + i, none⟩ = some (.int k (xs.getD i 0)))

theorem SlI.old {w w' : World} {k : IntKind} {v : Value} {xs : List Int} (h : SlI w k v xs) (ho : Old w w') : SlI w' k v xs := by
  obtain ⟨p, cap, rfl, h⟩ := h
  refine ⟨p, cap, rfl, fun hne => ?_⟩
  obtain ⟨b, off, hp, hb, hl, hm, hc⟩ := h hne
  exact ⟨b, off, hp, Nat.lt_of_lt_of_le hb ho.size, hl, hm, fun i hi => (World.cell?_of_block (w := w) (w' := w') (a := ⟨b, off + i, none⟩) (ho.block b hb (by omega))).trans (hc i hi)⟩

theorem SlI.cellAt {w : World} {k : IntKind} {p : Option Addr} {n cap : Nat} {xs : List Int} (h : SlI w k (.slice p n cap) xs) : xs.length = n ∧ (0 < n → ∃ b off, p = some ⟨b, off, none⟩ ∧ b < w.heap.size ∧ n ≤ cap ∧ cap ≤ maxLen ∧ ∀ i, i < n → w.cell? ⟨b, off + i, none⟩ = some (.int k (xs.getD i 0))) := by
  obtain ⟨p', cap', e, h⟩ := h
  simp only [Value.slice.injEq] at e
  obtain ⟨rfl, rfl, rfl⟩ := e
  refine ⟨rfl, fun hn => h (fun e => by rw [e] at hn; simp at hn)⟩
theorem SlI.take {w : World} {k : IntKind} {p : Option Addr} {n cap m : Nat} {xs : List Int} (h : SlI w k (.slice p n cap) xs) (hm : m ≤ n) : SlI w k (.slice p m cap) (xs.take m) := by
  obtain ⟨hl, hc⟩ := h.cellAt
  have e : (xs.take m).length = m := by rw [List.length_take]; omega
  refine ⟨p, cap, by rw [e], fun hne => ?_⟩
  have hm0 : 0 < m := by
    rcases Nat.eq_zero_or_pos m with h | h
    · subst h; simp at hne
    · exact h
  obtain ⟨b, off, hp, hb, hl', hcm, hcell⟩ := hc (by omega)
  refine ⟨b, off, hp, hb, by omega, hcm, fun i hi => ?_⟩
  rw [e] at hi
  rw [hcell i (by omega)]
  simp [List.getD, hi]
/-- An argument that is a slice of integers. -/
theorem open_slI {H : Type} {enc : TypeId × Value → H} {P : Program} {W : World} {base : Nat} {t e : TypeId} {k : IntKind} {v : Value} {d : DataW H} {p : List MemPlace} (ht : P.underlying t = some (.slice e)) (he : P.underlying e = some (.int k)) (hc : P.cellsOf e = 1)
    (hv : Value.okWide P W .any base t v) (h : DataW.Trod enc P W 0 (fun _ => true) true t v d p) (hlt : ∀ x ∈ p, x.block < W.heap.size) :
    ∃ q n cap xs, v = .slice q n cap ∧ SlI W k (.slice q n cap) xs ∧ n ≤ cap ∧ cap ≤ maxLen ∧ ∀ x ∈ xs, (Lit.int k x).wf = true := by
  obtain ⟨a0, len, cap, rfl⟩ := okWide_slice ht hv
  obtain ⟨fuel, hf⟩ := h
  rcases open_ints ht he hc hf with ⟨hcs, _⟩ | ⟨a, len', cap', zs, hcs, _, hl, hm, hz, hx, hcell, hwz⟩
  · simp [Value.cells] at hcs
    obtain ⟨rfl, rfl, rfl⟩ := hcs
    exact ⟨none, 0, 0, [], rfl, ⟨none, 0, rfl, fun h => absurd rfl h⟩, Nat.le_refl _, Nat.zero_le _, fun x hx => by cases hx⟩
  · simp [Value.cells] at hcs
    obtain ⟨rfl, rfl, rfl⟩ := hcs
    simp only [if_true] at hz
    have hlen : (zs.take len).length = len := by rw [List.length_take]; omega
    refine ⟨some a, len, cap, zs.take len, rfl, ⟨some a, cap, by rw [hlen], fun hne => ?_⟩, hl, hm, fun x hx => hwz x (List.mem_of_mem_take hx)⟩
    have h0 : 0 < len := by
      rcases Nat.eq_zero_or_pos len with h | h
      · subst h; simp at hne
      · exact h
    obtain ⟨b, off, spot⟩ := a
    have hspot : spot = none := by simpa [Addr.add] using World.cell?_spot (hcell 0 (by omega))
    subst hspot
    simp only [Prod.mk.injEq] at hx
    refine ⟨b, off, rfl, hlt (.cell b off) (by rw [hx.2]; exact MemPlace.mem_row.2 ⟨0, by omega, by simp⟩), by rw [hlen]; exact hl, hm, fun i hi => ?_⟩
    rw [hlen] at hi
    rw [← add_plain, hcell i (by omega)]
    simp [List.getD, hi]
end Go.Proofs.Ytophjkdalajjpaa
