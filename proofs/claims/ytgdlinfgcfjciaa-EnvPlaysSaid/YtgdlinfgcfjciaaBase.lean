/- What every walk of this seat shares: which blocks stay as they were, small facts on blocks, and how a law's row is closed from its walk. No program. -/
import Derived.WalkKit
import Derived.Handy
import Derived.Outline
import Derived.Lib.Hide
import Derived.IntWalk
import Derived.OwnWalk
import Derived.OneCell
import Derived.ArgAppend
import Derived.Below
import Derived.ChangeAlike
import Derived.ProofKit
import Derived.OpenShut
import Derived.Carry
import Derived.Deep.Draws
import Derived.Deep.Slices
import Derived.Deep.Fields
import Derived.Laws.Rows
import Derived.Deep.Matrix
import Derived.Deep.WholeRow
import Derived.Lib.SlBytesConst
namespace Go.Proofs.Ytgdlinfgcfjciaa
set_option linter.unusedVariables false
set_option maxRecDepth 100000
open Go.RowKit Go.ChangeShapes Go.WideShapes

/-- The blocks X are as they were. -/
structure Kept (X : Nat → Prop) (w w' : World) : Prop where
  os : w'.os = w.os
  output : w'.output = w.output
  size : w.heap.size ≤ w'.heap.size
  block : ∀ k, X k → w'.heap[k]? = w.heap[k]?
namespace Kept
variable {X Y : Nat → Prop} {u v w w' w'' : World}
theorem refl (X : Nat → Prop) (w : World) : Kept X w w := ⟨rfl, rfl, Nat.le_refl _, fun _ _ => rfl⟩
theorem trans (h : Kept X u v) (k : Kept X v w) : Kept X u w := ⟨k.os.trans h.os, k.output.trans h.output, Nat.le_trans h.size k.size, fun i hi => (k.block i hi).trans (h.block i hi)⟩
theorem mono (h : Kept X w w') (hY : ∀ k, Y k → X k) : Kept Y w w' := ⟨h.os, h.output, h.size, fun k hk => h.block k (hY k hk)⟩
theorem below {B : Nat} (h : Below B w w') (hX : ∀ k, X k → k < B) : Kept X w w' := ⟨h.os, h.output, h.size, fun k hk => h.block k (hX k hk)⟩
theorem setCell (w : World) {a : Addr} (ha : ¬ X a.block) (u : Value) : Kept X w (w.setCell a u) :=
  ⟨rfl, rfl, by simp [World.setCell], fun k hk => Below.heap_setCell _ _ _ _ (fun e => ha (by rw [← e]; exact hk))⟩
theorem alloc (w : World) (o : Obj) (hX : ∀ k, X k → k < w.heap.size) : Kept X w (w.alloc o) := ⟨rfl, rfl, by simp, fun k hk => Below.heap_alloc w o k (hX k hk)⟩
theorem drew (h : Kept X w w') : Kept X w w'.drew := ⟨h.os, h.output, h.size, h.block⟩
theorem drewN (h : Kept X w w') (n : Nat) : Kept X w (w'.drewN n) := ⟨h.os, h.output, h.size, h.block⟩
theorem grown {row : Option Nat} (hg : w.grownBy w' row) (hX : ∀ k, X k → k < w.heap.size) (hr : ∀ k, row = some k → ¬ X k) : Kept X w w' :=
  ⟨hg.os, hg.output, hg.size, fun k hk => hg.block k (hX k hk) (fun e => hr k e.symm hk)⟩
theorem alike (h : Kept X w w') (k : w''.Alike w') : Kept X w w'' := by
  have e := k.1
  exact ⟨k.2.1.trans h.os, k.2.2.trans h.output, by rw [e]; exact h.size, fun i hi => by rw [e]; exact h.block i hi⟩
theorem cell (h : Kept X w w') {a : Addr} (ha : X a.block) : w'.cell? a = w.cell? a := World.cell?_of_block (h.block a.block ha)
theorem frozen (h : Kept X w w') {a : Addr} (ha : X a.block) : w'.frozen? a = w.frozen? a := World.frozen?_of_block (h.block a.block ha)
end Kept

/-- All that there was is as it was. -/
def Old (w w' : World) : Prop := Kept (fun k => k < w.heap.size) w w'
namespace Old
variable {u v w w' w'' : World} {X : Nat → Prop}
theorem refl (w : World) : Old w w := Kept.refl _ _
theorem trans (h : Old u v) (k : Old v w) : Old u w := Kept.trans h (Kept.mono k fun _ hk => Nat.lt_of_lt_of_le hk h.size)
theorem below (h : Below u.heap.size u v) : Old u v := Kept.below h fun _ hk => hk
theorem alike (h : Old u v) (k : w.Alike v) : Old u w := Kept.alike h k
theorem alloc (w : World) (o : Obj) : Old w (w.alloc o) := Kept.alloc w o fun _ hk => hk
theorem alloc' (h : Old w w') (o : Obj) : Old w (w'.alloc o) := h.trans (alloc w' o)
theorem drew (h : Old w w') : Old w w'.drew := Kept.drew h
theorem drewN (h : Old w w') (n : Nat) : Old w (w'.drewN n) := Kept.drewN h n
theorem kept (h : Old w w') (hX : ∀ k, X k → k < w.heap.size) : Kept X w w' := Kept.mono h hX
/-- What was done to new blocks alone. -/
theorem after (h : Old u v) (k : Kept X v w) (hX : ∀ k, k < u.heap.size → X k) : Old u w := Kept.trans h (Kept.mono k hX)
theorem cell (h : Old w w') {a : Addr} (ha : a.block < w.heap.size) : w'.cell? a = w.cell? a := Kept.cell h ha
theorem size (h : Old w w') : w.heap.size ≤ w'.heap.size := Kept.size h
end Old

/-- A row of the call's own, of one-cell elements, outside X. -/
def ownX (X : Nat → Prop) (w : World) (e : TypeId) (v : Value) (n : Nat) (xs : List Value) : Prop := w.ownsRow 0 e 1 v n xs ∧ ∀ k, v.ownBlock = some k → ¬ X k
namespace ownX
variable {X Y : Nat → Prop} {w w' : World} {e : TypeId} {v : Value} {n : Nat} {xs : List Value}
theorem nil (X : Nat → Prop) (w : World) (e : TypeId) : ownX X w e (.slice none 0 0) 0 [] := ⟨World.ownsRow_nil _ _ _ _, fun k h => by cases h⟩
theorem lt (h : ownX X w e v n xs) : ∀ k, v.ownBlock = some k → k < w.heap.size := fun k hk => (h.1.lt k hk).2
theorem kept (h : ownX X w e v n xs) (k : Kept Y w w') (hY : ∀ k, v.ownBlock = some k → Y k) : ownX X w' e v n xs := by
  refine ⟨⟨h.1.1, ?_⟩, h.2⟩
  rcases h.1.2 with h2 | ⟨g, cap, cur, hv, hg, hh, r⟩
  · exact .inl h2
  · exact .inr ⟨g, cap, cur, hv, hg, (k.block g (hY g (by rw [hv]; rfl))).trans hh, r⟩
theorem old (h : ownX X w e v n xs) (k : Old w w') : ownX X w' e v n xs := h.kept k fun q hq => h.lt q hq
theorem mono (h : ownX X w e v n xs) (hY : ∀ k, v.ownBlock = some k → ¬ Y k) : ownX Y w e v n xs := ⟨h.1, hY⟩
theorem alike (h : ownX X w e v n xs) (k : w'.Alike w) : ownX X w' e v n xs := by
  refine ⟨⟨h.1.1, ?_⟩, h.2⟩
  rw [k.1]; exact h.1.2
theorem shape (h : ownX X w e v n xs) : (v = .slice none 0 0 ∧ n = 0) ∨ ∃ g cap, v = .slice (some ⟨g, 0, none⟩) n cap ∧ ¬ X g ∧ g < w.heap.size ∧ n ≤ cap ∧ cap ≤ maxLen ∧ ∀ i u, xs[i]? = some u → w.cell? ⟨g, i, none⟩ = some u := by
  rcases h.1.2 with h2 | ⟨g, cap, cur, hv, hg, hh, hn, hc, hs, ht⟩
  · exact .inl h2
  · subst hv
    refine .inr ⟨g, cap, rfl, h.2 g rfl, lt_of_block hh, hn, hc, fun i u hi => ?_⟩
    have := h.1.cells (g := g) rfl i u hi
    rwa [add_plain, Nat.zero_add] at this
theorem cellAt {g cap : Nat} (h : ownX X w e (.slice (some ⟨g, 0, none⟩) n cap) n xs) (j : Nat) (hj : j < n) : w.cell? ⟨g, j, none⟩ = xs[j]? := h.1.cellAt j (by omega)
theorem frozenAt {g cap : Nat} (h : ownX X w e (.slice (some ⟨g, 0, none⟩) n cap) n xs) (j : Nat) : w.frozen? ⟨g, j, none⟩ = false := h.1.frozenAt j
theorem stored {g cap : Nat} (h : ownX X w e (.slice (some ⟨g, 0, none⟩) n cap) n xs) (j : Nat) (u : Value) : ownX X (w.setCell ⟨g, j, none⟩ u) e (.slice (some ⟨g, 0, none⟩) n cap) n (xs.set j u) := ⟨(h.1.stored j u).1, h.2⟩
theorem other (h : ownX X w e v n xs) {a : Addr} (ha : v.ownBlock ≠ some a.block) (u : Value) : ownX X (w.setCell a u) e v n xs := ⟨ownsRow_setCell_other h.1 ha u, h.2⟩
end ownX

theorem ownsRow_zero {w : World} {B : Nat} {e : TypeId} {v : Value} {n : Nat} {xs : List Value} (h : w.ownsRow B e 1 v n xs) : w.ownsRow 0 e 1 v n xs := by
  refine ⟨h.1, ?_⟩
  rcases h.2 with h2 | ⟨g, cap, cur, hv, hg, r⟩
  · exact .inl h2
  · exact .inr ⟨g, cap, cur, hv, Nat.zero_le _, r⟩

/-- append to a row of the call's own: the new row is of the call's own, the blocks X are as they were. -/
theorem append_X {P : Program} (w : World) {ops : Array Oper} {rest : List Oper} {o : Oper} {a : Act} {Q : Exit → Act → World → Prop} (hgd : o.guard = none) (s x : Operand) (t : TypeId)
    (ho : o.op = .call { callee := .builtin .append, args := #[s, x], argTypes := #[t, t] })
    (X : Nat → Prop) (e : TypeId) (i : TypeInfo) (z : Value) (bytes : Nat) (ht : P.underlying t = some (.slice e)) (hi : P.info? e = some i) (hz : i.zero = some z)
    (hsize : i.size = 1) (hby : i.bytes = bytes) (hzs : z.cells.size = 1)
    (v : Value) (n : Nat) (xs : List Value) (hs : a.eval s = v) (hown : ownX X w e v n xs)
    (ad : Addr) (m c : Nat) (news : List Value) (hx : a.eval x = .slice (some ad) m c) (hl : news.length = m) (hnews : ∀ j u, news[j]? = some u → w.cell? (ad.add j) = some u) (h1 : ∀ u ∈ news, u.oneCell' = true)
    (h63 : n + m ≤ maxLen) (hbytes : (n + m) * bytes ≤ 140737488355328) (hX : ∀ k, X k → k < w.heap.size)
    (h : ∀ v' w', ownX X w' e v' (n + m) (xs ++ news) → Kept X w w' → (∀ k, v'.ownBlock = some k → v.ownBlock = some k ∨ w.heap.size ≤ k) → wpList P ops Q rest (a.put o.dst v') w') : wpList P ops Q (o :: rest) a w := by
  rcases hown.1.2 with ⟨hv, h0⟩ | ⟨g, cap, cur, hv, hg, hh, hnc, hcm, hcs, htake⟩
  · subst h0
    subst hv
    have hx0 : xs = [] := List.eq_nil_of_length_eq_zero (by simpa using hown.1.1)
    subst hx0
    refine wpList_append_own w hgd s x t ho w.heap.size e i z 1 bytes ht hi hz hsize hby hzs (by omega) _ 0 [] hs (World.ownsRow_nil _ _ _ _) ad m c news hx (by omega) hnews h1 h63 hbytes (Nat.le_refl _) ?_
    intro v' w' h2 h3 _
    exact h v' w' ⟨ownsRow_zero h2, fun k hk hXk => by have := (h2.lt k hk).1; have := hX k hXk; omega⟩ (Kept.grown h3 hX (fun k hk => by cases hk)) (fun k hk => .inr (h2.lt k hk).1)
  · subst hv
    by_cases hroom : n + m ≤ cap
    · refine wpList_append_fits w hgd s x t ho 0 e i 1 ht hi hsize g n cap xs hs hown.1 ad m c news hx (by omega) hnews h1 hroom ?_
      intro w' h2 h3
      exact h _ w' ⟨h2, fun k hk => hown.2 k hk⟩ (Kept.grown h3 hX (fun k hk => by cases hk; exact hown.2 g rfl)) (fun k hk => .inl hk)
    · refine wpList_append_grows w hgd s x t ho e i z 1 bytes ht hi hz hsize hby hzs (by omega) (some ⟨g, 0, none⟩) n cap xs hs (fun h => by cases h) (by have := hown.1.1; omega) (fun b hb => by cases hb; exact hown.1.cells (g := g) rfl) ad m c news hx (by omega) hnews h1 (by omega) h63 hbytes ?_
      intro v' w' h2 h3
      exact h v' w' ⟨ownsRow_zero h2, fun k hk hXk => by have := (h2.lt k hk).1; have := hX k hXk; omega⟩ (Kept.grown h3 hX (fun k hk => by cases hk)) (fun k hk => .inr (h2.lt k hk).1)

theorem news_one (w : World) (u : Value) (t : TypeId) : ∀ (j : Nat) (x : Value), [u][j]? = some x → (w.alloc (.cells #[u] t)).cell? ((⟨w.heap.size, 0, none⟩ : Addr).add j) = some x := by
  intro j x h
  match j, h with
  | 0, h => 
    simp only [List.getElem?_cons_zero, Option.some.injEq] at h
    subst h
    show (w.alloc (.cells #[u] t)).cell? ⟨w.heap.size, 0, none⟩ = _
    rw [World.cell?_alloc_at _ _ _ _ rfl]; rfl
  | j + 1, h => simp at h
theorem one_oneCell (k : IntKind) (n : Int) : ∀ u ∈ [Value.int k n], u.oneCell' = true := by
  intro u hu
  simp only [List.mem_singleton] at hu
  subst hu
  rfl

theorem own_shape {w : World} {B t m : Nat} {v : Value} {xs : List Value} (h : w.ownsRow B t 1 v (m + 1) xs) :
    ∃ g cap, v = .slice (some ⟨g, 0, none⟩) (m + 1) cap ∧ B ≤ g ∧ g < w.heap.size ∧ m + 1 ≤ cap ∧ cap ≤ maxLen := by
  rcases h.2 with ⟨_, h0⟩ | ⟨g, cap, cur, hv, hb, hg, hn, hc, _⟩
  · omega
  · exact ⟨g, cap, hv, hb, lt_of_block hg, hn, hc⟩

theorem cell3 {w : World} {b : Nat} {x y z : Value} {t : TypeId} (h : w.heap[b]? = some (.cells #[x, y, z] t (0, 0))) :
    w.cell? ⟨b, 0, none⟩ = some x ∧ w.cell? ⟨b, 1, none⟩ = some y ∧ w.cell? ⟨b, 2, none⟩ = some z ∧ w.frozen? ⟨b, 0, none⟩ = false ∧ w.frozen? ⟨b, 1, none⟩ = false ∧ w.frozen? ⟨b, 2, none⟩ = false := by
  simp [World.cell?, World.frozen?, h]

theorem heap_setCell_at {w : World} {b o : Nat} {u : Value} {c : Array Value} {t : TypeId} (h : w.heap[b]? = some (.cells c t (0, 0))) : (w.setCell ⟨b, o, none⟩ u).heap[b]? = some (.cells (c.setIfInBounds o u) t (0, 0)) := by
  have hlt := lt_of_block h
  have h' : w.heap[b] = .cells c t (0, 0) := by simpa [Array.getElem?_eq_getElem hlt] using h
  show (w.heap.modify b _)[b]? = _
  rw [Array.getElem?_eq_getElem (by simpa using hlt), Array.getElem_modify_self, h']
  rfl

theorem ownsRow_alike {w w' : World} {B t n : Nat} {v : Value} {xs : List Value} (h : w.ownsRow B t 1 v n xs) (k : w'.Alike w) : w'.ownsRow B t 1 v n xs := by
  obtain ⟨h1, h2⟩ := h
  refine ⟨h1, ?_⟩
  rw [k.1]
  exact h2

/-- All arguments read behind the call as they read before. -/
theorem trodAll_stays {H : Type} {enc : TypeId × Value → H} {P : Program} (hl : laidOutB P = true) {W W' : World} (hb : Old W W') :
    ∀ (ts : List TypeId) (vs : List Value) (ds : List (DataW H)) (ps : List MemPlace), ts.all (fun t => P.readableRec t && decide (t < P.types.size)) = true → (∀ x ∈ ps, x.block < W.heap.size) →
      DataW.TrodAll enc P W 0 (fun _ => true) true ts vs ds ps → DataW.TrodAll enc P W' 0 (fun b => decide (b < W.heap.size)) true ts vs ds ps := by
  intro ts
  induction ts with
  | nil =>
    intro vs ds ps _ _ h
    cases vs <;> cases ds <;> simp [DataW.TrodAll] at h ⊢
    exact h
  | cons t ts ih =>
    intro vs ds ps hr hlt h
    obtain ⟨v, vs', d, ds', p, q, rfl, rfl, rfl, h0, h1⟩ := trodAll_cons h
    simp only [List.all_cons, Bool.and_eq_true, decide_eq_true_eq] at hr
    refine ⟨p, q, WideElems.Trod_stays hl hr.1.1 hr.1.2 h0 (fun x hx => ?_) (fun x hx => by simpa using hlt x (List.mem_append_left _ hx)), ih vs' ds' q hr.2 (fun x hx => hlt x (List.mem_append_right _ hx)) h1, rfl⟩
    have hx' := hlt x (List.mem_append_left _ hx)
    have hblk := hb.block x.block hx'
    cases x with
    | cell b o => simp only [World.sameAt]; exact World.cell?_of_block (a := ⟨b, o, none⟩) hblk
    | map b => simp only [World.sameAt]; exact hblk

theorem Old.frame {W W' : World} (h : Old W W') (may : MemPlace → Prop) : W.keptBut W' may := by
  refine ⟨h.os, h.output, fun i hi => ?_⟩
  rw [h.block i hi]
  split <;> simp_all

/-- A law has returned true and left all that there was as it was: what its row asks behind the call. -/
theorem law_done {H : Type} {enc : TypeId × Value → H} {P : Program} (hl : laidOutB P = true) {f : Func} {s : ChangeSpec} {tb : TypeId} (hbool : P.underlying tb = some .bool) (hrt : f.resultTypes = #[tb])
    (hr : f.params.toList.all (fun t => P.readableRec t && decide (t < P.types.size)) = true) (hvars : s.vars = []) {W W' : World} {args : Array Value} {ds gs : List (DataW H)} {before : List MemPlace}
    (hW : DataW.Whole enc P f.params.toList s.vars false W args.toList ds gs before) (hs : s.fn H (ds ++ gs) = { results := [.lit (.bool true)], args := ds }) (hb : Old W W') :
    s.post enc P f false true false false W args (.bool true) W' := by
  have hlt : ∀ p ∈ before, p.block < W.heap.size := fun p hp => hW.lt p hp
  have hW' := hW
  obtain ⟨p, q, hA, hV, rfl, _, _⟩ := hW
  rw [hvars] at hV
  obtain ⟨rfl, rfl⟩ := trodVars_none hV
  refine ⟨ds, [], p ++ [], [], p, [], hW', ?_, ?_, ?_, hb.frame _, fun h => by cases h⟩
  · rw [hs, hrt]; exact trodAll_cons_mk (shut_bool hbool _) trodAll_mk0
  · rw [hs]; exact trodAll_stays hl hb _ _ _ _ hr (fun x hx => hlt x (List.mem_append_left _ hx)) hA
  · rw [hs, hvars]; rfl

/-- The slice v reads as these numbers. -/
def SlI (w : World) (k : IntKind) (v : Value) (xs : List Int) : Prop :=
  ∃ p cap, v = .slice p xs.length cap ∧ (xs ≠ [] → ∃ b off, p = some ⟨b, off, none⟩ ∧ b < w.heap.size ∧ xs.length ≤ cap ∧ cap ≤ maxLen ∧ ∀ i, i < xs.length → w.cell? ⟨b, off + i, none⟩ = some (.int k (xs.getD i 0)))

theorem SlI.old {w w' : World} {k : IntKind} {v : Value} {xs : List Int} (h : SlI w k v xs) (ho : Old w w') : SlI w' k v xs := by
  obtain ⟨p, cap, rfl, h⟩ := h
  refine ⟨p, cap, rfl, fun hne => ?_⟩
  obtain ⟨b, off, hp, hb, hl, hm, hc⟩ := h hne
  exact ⟨b, off, hp, Nat.lt_of_lt_of_le hb ho.size, hl, hm, fun i hi => (World.cell?_of_block (w := w) (w' := w') (a := ⟨b, off + i, none⟩) (ho.block b hb)).trans (hc i hi)⟩

theorem SlI.cellAt {w : World} {k : IntKind} {p : Option Addr} {n cap : Nat} {xs : List Int} (h : SlI w k (.slice p n cap) xs) : xs.length = n ∧ (0 < n → ∃ b off, p = some ⟨b, off, none⟩ ∧ b < w.heap.size ∧ n ≤ cap ∧ cap ≤ maxLen ∧ ∀ i, i < n → w.cell? ⟨b, off + i, none⟩ = some (.int k (xs.getD i 0))) := by
  obtain ⟨p', cap', e, h⟩ := h
  simp only [Value.slice.injEq] at e
  obtain ⟨rfl, rfl, rfl⟩ := e
  refine ⟨rfl, fun hn => h (fun e => by rw [e] at hn; simp at hn)⟩
theorem SlI.take {w : World} {k : IntKind} {p : Option Addr} {n cap m : Nat} {xs : List Int} (h : SlI w k (.slice p n cap) xs) (hm : m ≤ n) : SlI w k (.slice p m cap) (xs.take m) := by
  obtain ⟨hl, hc⟩ := h.cellAt
  have e : (xs.take m).length = m := by rw [List.length_take]; omega
  refine ⟨p, cap, by rw [e], fun hne => ?_⟩
  have hm0 : 0 < m := by
    rcases Nat.eq_zero_or_pos m with h | h
    · subst h; simp at hne
    · exact h
  obtain ⟨b, off, hp, hb, hl', hcm, hcell⟩ := hc (by omega)
  refine ⟨b, off, hp, hb, by omega, hcm, fun i hi => ?_⟩
  rw [e] at hi
  rw [hcell i (by omega)]
  simp [List.getD, hi]
/-- An argument that is a slice of integers. -/
theorem open_slI {H : Type} {enc : TypeId × Value → H} {P : Program} {W : World} {base : Nat} {t e : TypeId} {k : IntKind} {v : Value} {d : DataW H} {p : List MemPlace} (ht : P.underlying t = some (.slice e)) (he : P.underlying e = some (.int k)) (hc : P.cellsOf e = 1)
    (hv : Value.okWide P W .any base t v) (h : DataW.Trod enc P W 0 (fun _ => true) true t v d p) (hlt : ∀ x ∈ p, x.block < W.heap.size) :
    ∃ q n cap xs, v = .slice q n cap ∧ SlI W k (.slice q n cap) xs ∧ n ≤ cap ∧ cap ≤ maxLen ∧ ∀ x ∈ xs, (Lit.int k x).wf = true := by
  obtain ⟨a0, len, cap, rfl⟩ := okWide_slice ht hv
  obtain ⟨fuel, hf⟩ := h
  rcases open_ints ht he hc hf with ⟨hcs, _⟩ | ⟨a, len', cap', zs, hcs, _, hl, hm, hz, hx, hcell, hwz⟩
  · simp [Value.cells] at hcs
    obtain ⟨rfl, rfl, rfl⟩ := hcs
    exact ⟨none, 0, 0, [], rfl, ⟨none, 0, rfl, fun h => absurd rfl h⟩, Nat.le_refl _, Nat.zero_le _, fun x hx => by cases hx⟩
  · simp [Value.cells] at hcs
    obtain ⟨rfl, rfl, rfl⟩ := hcs
    simp only [if_true] at hz
    have hlen : (zs.take len).length = len := by rw [List.length_take]; omega
    refine ⟨some a, len, cap, zs.take len, rfl, ⟨some a, cap, by rw [hlen], fun hne => ?_⟩, hl, hm, fun x hx => hwz x (List.mem_of_mem_take hx)⟩
    have h0 : 0 < len := by
      rcases Nat.eq_zero_or_pos len with h | h
      · subst h; simp at hne
      · exact h
    obtain ⟨b, off, spot⟩ := a
    have hspot : spot = none := by simpa [Addr.add] using World.cell?_spot (hcell 0 (by omega))
    subst hspot
    simp only [Prod.mk.injEq] at hx
    refine ⟨b, off, rfl, hlt (.cell b off) (by rw [hx.2]; exact MemPlace.mem_row.2 ⟨0, by omega, by simp⟩), by rw [hlen]; exact hl, hm, fun i hi => ?_⟩
    rw [hlen] at hi
    rw [← add_plain, hcell i (by omega)]
    simp [List.getD, hi]

/-- The slice v reads as these values, one cell each. -/
def SlV (w : World) (v : Value) (xs : List Value) : Prop :=
  ∃ p cap, v = .slice p xs.length cap ∧ (xs ≠ [] → ∃ b off, p = some ⟨b, off, none⟩ ∧ b < w.heap.size ∧ xs.length ≤ cap ∧ cap ≤ maxLen ∧ ∀ i u, xs[i]? = some u → w.cell? ⟨b, off + i, none⟩ = some u)
theorem SlV.old {w w' : World} {v : Value} {xs : List Value} (h : SlV w v xs) (ho : Old w w') : SlV w' v xs := by
  obtain ⟨p, cap, rfl, h⟩ := h
  refine ⟨p, cap, rfl, fun hne => ?_⟩
  obtain ⟨b, off, hp, hb, hl, hm, hc⟩ := h hne
  exact ⟨b, off, hp, Nat.lt_of_lt_of_le hb ho.size, hl, hm, fun i u hi => (World.cell?_of_block (w := w) (w' := w') (a := ⟨b, off + i, none⟩) (ho.block b hb)).trans (hc i u hi)⟩
theorem SlV.own {w : World} {B t n : Nat} {v : Value} {xs : List Value} (h : w.ownsRow B t 1 v n xs) : SlV w v xs := by
  have hl := h.1
  rcases h.2 with ⟨hv, h0⟩ | ⟨g, cap, cur, hv, hb, hg, hn, hc, hs, ht⟩
  · subst h0
    obtain rfl : xs = [] := List.eq_nil_of_length_eq_zero (by omega)
    exact ⟨none, 0, hv, fun h => absurd rfl h⟩
  · subst hv
    refine ⟨some ⟨g, 0, none⟩, cap, by rw [hl, Nat.mul_one], fun _ => ⟨g, 0, rfl, lt_of_block hg, by omega, hc, fun i u hi => ?_⟩⟩
    rw [← add_plain]
    exact h.cells (g := g) rfl i u hi
theorem SlV.shape {w : World} {v : Value} {xs : List Value} (h : SlV w v xs) : ∃ p n cap, v = .slice p n cap ∧ n = xs.length ∧ (0 < n → ∃ b off, p = some ⟨b, off, none⟩ ∧ b < w.heap.size ∧ n ≤ cap ∧ cap ≤ maxLen ∧ ∀ i u, xs[i]? = some u → w.cell? ⟨b, off + i, none⟩ = some u) := by
  obtain ⟨p, cap, rfl, h⟩ := h
  exact ⟨p, xs.length, cap, rfl, rfl, fun hn => h (fun e => by rw [e] at hn; simp at hn)⟩

open Go.Deep in
/-- An argument that is a slice of structs of one-cell fields: where each field of each element lies, and that it reads. -/
theorem open_structs {H : Type} {enc : TypeId × Value → H} {P : Program} {W : World} {base : Nat} {t e : TypeId} {fs : Array Field} {v : Value} {d : DataW H} {p : List MemPlace} (ht : P.underlying t = some (.slice e)) (he : P.underlying e = some (.struct fs))
    (hone : oneCellFields P fs = true) (hC : P.cellsOf e = fs.size) (h0 : 0 < fs.size) (hv : Value.okWide P W .any base t v) (h : DataW.Trod enc P W 0 (fun _ => true) true t v d p) (hlt : ∀ x ∈ p, x.block < W.heap.size) :
    ∃ q n cap, v = .slice q n cap ∧ n ≤ cap ∧ cap ≤ maxLen ∧ (0 < n → ∃ b off, q = some ⟨b, off, none⟩ ∧ b < W.heap.size ∧ ∀ i, i < n → ∀ (j : Nat) (f : Field), fs[j]? = some f →
      ∃ (u : Value) (y : DataW H × List MemPlace) (k : Nat), W.cell? ⟨b, off + i * fs.size + j, none⟩ = some u ∧ (∀ x ∈ y.2, x.block < W.heap.size) ∧ DataW.trod enc P W 0 (fun _ => true) true k f.type [u] = some y) := by
  obtain ⟨a0, len, cap, rfl⟩ := okWide_slice ht hv
  obtain ⟨fuel, hf⟩ := h
  refine ⟨a0, len, cap, rfl, ?_⟩
  rcases open_slice ht hf with ⟨hcs, _⟩ | ⟨a, len', cap', m, k, D, Pl, hcs, _, hl, hm, hmm, hx, hi⟩
  · simp [Value.cells] at hcs
    obtain ⟨rfl, rfl, rfl⟩ := hcs
    exact ⟨Nat.le_refl _, Nat.zero_le _, fun h => absurd h (by omega)⟩
  · simp [Value.cells] at hcs
    obtain ⟨rfl, rfl, rfl⟩ := hcs
    simp only [if_true] at hmm
    subst hmm
    refine ⟨hl, hm, fun hn => ?_⟩
    simp only [Prod.mk.injEq] at hx
    have field : ∀ i, i < m → ∀ (j : Nat) (f : Field), fs[j]? = some f → ∃ (u : Value) (y : DataW H × List MemPlace) (k : Nat), W.cell? (a.add (i * fs.size + j)) = some u ∧ (∀ x ∈ y.2, x ∈ Pl i) ∧ DataW.trod enc P W 0 (fun _ => true) true k f.type [u] = some y := by
      intro i him j f hj
      obtain ⟨cs, hc, hd⟩ := hi i him
      rw [hC] at hc
      obtain ⟨ys, k', _, hy, _, hyl, hg⟩ := DataW.trod_struct he hd
      obtain ⟨_, hcl, hat⟩ := World.cells?_some hc
      obtain ⟨ho, hk⟩ := hone_of hone j f hj
      have hjl : j < fs.size := (Array.getElem?_eq_some_iff.1 hj).1
      have h1 := hg j f hj
      rw [ho, hk, List.drop_eq_getElem_cons (by omega)] at h1
      have h2 : ys[j]? = some (ys[j]'(by omega)) := List.getElem?_eq_getElem (by omega)
      refine ⟨cs[j]'(by omega), ys[j]'(by omega), k', ?_, fun x hxx => ?_, h1.trans h2⟩
      · rw [← Go.Deep.add_add, hat j hjl]; exact List.getElem?_eq_getElem (by omega)
      · simp only [Prod.mk.injEq] at hy
        rw [hy.2]
        exact List.mem_flatMap.2 ⟨_, List.getElem_mem _, hxx⟩
    obtain ⟨f0, hf0⟩ : ∃ f, fs[0]? = some f := ⟨_, Array.getElem?_eq_getElem h0⟩
    obtain ⟨u0, _, _, hc0, _⟩ := field 0 (by omega) 0 f0 hf0
    obtain ⟨b, off, spot⟩ := a
    have hspot : spot = none := by simpa [Addr.add] using World.cell?_spot hc0
    subst hspot
    refine ⟨b, off, rfl, hlt (.cell b off) (by rw [hx.2]; exact List.mem_append_left _ (MemPlace.mem_row.2 ⟨0, by rw [hC]; exact Nat.mul_pos (by omega) h0, by simp⟩)), fun i him j f hj => ?_⟩
    obtain ⟨u, y, k2, hc, hy, hd⟩ := field i (by omega) j f hj
    rw [add_plain] at hc
    exact ⟨u, y, k2, by rw [Nat.add_assoc]; exact hc, fun x hxx => hlt x (by rw [hx.2]; exact List.mem_append_right _ (List.mem_flatMap.2 ⟨i, List.mem_range.2 (by omega), hy x hxx⟩)), hd⟩

theorem list_of {α : Type} {P : Nat → α → Prop} (n : Nat) (h : ∀ i, i < n → ∃ x, P i x) : ∃ l : List α, l.length = n ∧ ∀ i x, l[i]? = some x → P i x := by
  induction n with
  | zero => exact ⟨[], rfl, fun i x hx => by simp at hx⟩
  | succ n ih =>
    obtain ⟨l, hl, hp⟩ := ih fun i hi => h i (by omega)
    obtain ⟨x, hx⟩ := h n (by omega)
    refine ⟨l ++ [x], by simp [hl], fun i y hy => ?_⟩
    by_cases hi : i < n
    · rw [List.getElem?_append_left (by omega)] at hy; exact hp i y hy
    · by_cases he : i = n
      · subst he
        rw [List.getElem?_append_right (by omega), hl, Nat.sub_self] at hy
        simp at hy
        subst hy
        exact hx
      · rw [List.getElem?_eq_none (by simp [hl]; omega)] at hy
        cases hy

/-- A row of the call's own, of elements of several cells, outside X. -/
def ownS (X : Nat → Prop) (w : World) (e : TypeId) (s : Nat) (v : Value) (n : Nat) (xs : List Value) : Prop := w.ownsRow 0 e s v n xs ∧ ∀ k, v.ownBlock = some k → ¬ X k
namespace ownS
variable {X Y : Nat → Prop} {w w' : World} {e : TypeId} {s : Nat} {v : Value} {n : Nat} {xs : List Value}
theorem nil (X : Nat → Prop) (w : World) (e : TypeId) (s : Nat) : ownS X w e s (.slice none 0 0) 0 [] := ⟨World.ownsRow_nil _ _ _ _, fun k h => by cases h⟩
theorem lt (h : ownS X w e s v n xs) : ∀ k, v.ownBlock = some k → k < w.heap.size := fun k hk => (h.1.lt k hk).2
theorem kept (h : ownS X w e s v n xs) (k : Kept Y w w') (hY : ∀ k, v.ownBlock = some k → Y k) : ownS X w' e s v n xs := by
  refine ⟨⟨h.1.1, ?_⟩, h.2⟩
  rcases h.1.2 with h2 | ⟨g, cap, cur, hv, hg, hh, r⟩
  · exact .inl h2
  · exact .inr ⟨g, cap, cur, hv, hg, (k.block g (hY g (by rw [hv]; rfl))).trans hh, r⟩
theorem old (h : ownS X w e s v n xs) (k : Old w w') : ownS X w' e s v n xs := h.kept k fun q hq => h.lt q hq
theorem mono (h : ownS X w e s v n xs) (hY : ∀ k, v.ownBlock = some k → ¬ Y k) : ownS Y w e s v n xs := ⟨h.1, hY⟩
theorem shape (h : ownS X w e s v n xs) : (v = .slice none 0 0 ∧ n = 0) ∨ ∃ g cap, v = .slice (some ⟨g, 0, none⟩) n cap ∧ ¬ X g ∧ g < w.heap.size ∧ n ≤ cap ∧ cap ≤ maxLen ∧ ∀ i u, xs[i]? = some u → w.cell? ⟨g, i, none⟩ = some u := by
  rcases h.1.2 with h2 | ⟨g, cap, cur, hv, hg, hh, hn, hc, hs, ht⟩
  · exact .inl h2
  · subst hv
    refine .inr ⟨g, cap, rfl, h.2 g rfl, lt_of_block hh, hn, hc, fun i u hi => ?_⟩
    have := h.1.cells (g := g) rfl i u hi
    rwa [add_plain, Nat.zero_add] at this
end ownS
theorem ownsRow_zeroS {w : World} {B s : Nat} {e : TypeId} {v : Value} {n : Nat} {xs : List Value} (h : w.ownsRow B e s v n xs) : w.ownsRow 0 e s v n xs := by
  refine ⟨h.1, ?_⟩
  rcases h.2 with h2 | ⟨g, cap, cur, hv, hg, r⟩
  · exact .inl h2
  · exact .inr ⟨g, cap, cur, hv, Nat.zero_le _, r⟩

/-- append to a row of the call's own, of elements of several cells. -/
theorem append_S {P : Program} (w : World) {ops : Array Oper} {rest : List Oper} {o : Oper} {a : Act} {Q : Exit → Act → World → Prop} (hgd : o.guard = none) (s x : Operand) (t : TypeId)
    (ho : o.op = .call { callee := .builtin .append, args := #[s, x], argTypes := #[t, t] })
    (X : Nat → Prop) (e : TypeId) (i : TypeInfo) (z : Value) (size bytes : Nat) (ht : P.underlying t = some (.slice e)) (hi : P.info? e = some i) (hz : i.zero = some z)
    (hsize : i.size = size) (hby : i.bytes = bytes) (hzs : z.cells.size = size) (hpos : 0 < size)
    (v : Value) (n : Nat) (xs : List Value) (hs : a.eval s = v) (hown : ownS X w e size v n xs)
    (ad : Addr) (m c : Nat) (news : List Value) (hx : a.eval x = .slice (some ad) m c) (hl : news.length = m * size) (hnews : ∀ j u, news[j]? = some u → w.cell? (ad.add j) = some u) (h1 : ∀ u ∈ news, u.oneCell' = true)
    (h63 : n + m ≤ maxLen) (hbytes : (n + m) * bytes ≤ 140737488355328) (hX : ∀ k, X k → k < w.heap.size)
    (h : ∀ v' w', ownS X w' e size v' (n + m) (xs ++ news) → Kept X w w' → (∀ k, v'.ownBlock = some k → v.ownBlock = some k ∨ w.heap.size ≤ k) → wpList P ops Q rest (a.put o.dst v') w') : wpList P ops Q (o :: rest) a w := by
  rcases hown.1.2 with ⟨hv, h0⟩ | ⟨g, cap, cur, hv, hg, hh, hnc, hcm, hcs, htake⟩
  · subst h0
    subst hv
    have hx0 : xs = [] := List.eq_nil_of_length_eq_zero (by simpa using hown.1.1)
    subst hx0
    refine wpList_append_own w hgd s x t ho w.heap.size e i z size bytes ht hi hz hsize hby hzs hpos _ 0 [] hs (World.ownsRow_nil _ _ _ _) ad m c news hx hl hnews h1 h63 hbytes (Nat.le_refl _) ?_
    intro v' w' h2 h3 _
    exact h v' w' ⟨ownsRow_zeroS h2, fun k hk hXk => by have := (h2.lt k hk).1; have := hX k hXk; omega⟩ (Kept.grown h3 hX (fun k hk => by cases hk)) (fun k hk => .inr (h2.lt k hk).1)
  · subst hv
    by_cases hroom : n + m ≤ cap
    · refine wpList_append_fits w hgd s x t ho 0 e i size ht hi hsize g n cap xs hs hown.1 ad m c news hx hl hnews h1 hroom ?_
      intro w' h2 h3
      exact h _ w' ⟨h2, fun k hk => hown.2 k hk⟩ (Kept.grown h3 hX (fun k hk => by cases hk; exact hown.2 g rfl)) (fun k hk => .inl hk)
    · refine wpList_append_grows w hgd s x t ho e i z size bytes ht hi hz hsize hby hzs hpos (some ⟨g, 0, none⟩) n cap xs hs (fun h => by cases h) hown.1.1 (fun b hb => by cases hb; exact hown.1.cells (g := g) rfl) ad m c news hx hl hnews h1 (by omega) h63 hbytes ?_
      intro v' w' h2 h3
      exact h v' w' ⟨ownsRow_zeroS h2, fun k hk hXk => by have := (h2.lt k hk).1; have := hX k hXk; omega⟩ (Kept.grown h3 hX (fun k hk => by cases hk)) (fun k hk => .inr (h2.lt k hk).1)

/-! Behind stage 2. -/
theorem SlI.shape {w : World} {k : IntKind} {v : Value} {xs : List Int} (h : SlI w k v xs) : ∃ p n cap, v = .slice p n cap ∧ n = xs.length ∧ n ≤ 9223372036854775807 := by
  obtain ⟨p, cap, rfl, hc⟩ := h
  refine ⟨p, _, cap, rfl, rfl, ?_⟩
  by_cases he : xs = []
  · subst he; simp
  · obtain ⟨b, off, _, _, hl, hm, _⟩ := hc he
    unfold maxLen at hm; omega

/-- The slice v reads as these rows of bytes. -/
def SlR (w : World) (v : Value) (xss : List (List Int)) : Prop :=
  ∃ vals, SlV w v vals ∧ vals.length = xss.length ∧ ∀ i u, vals[i]? = some u → SlI w .u8 u (xss.getD i [])
theorem SlR.old {w w' : World} {v : Value} {xss : List (List Int)} (h : SlR w v xss) (ho : Old w w') : SlR w' v xss := by
  obtain ⟨vals, h1, h2, h3⟩ := h
  exact ⟨vals, h1.old ho, h2, fun i u hi => (h3 i u hi).old ho⟩
theorem SlR.shape {w : World} {v : Value} {xss : List (List Int)} (h : SlR w v xss) : ∃ p n cap, v = .slice p n cap ∧ n = xss.length ∧ n ≤ 9223372036854775807 ∧ (0 < n → ∃ b off, p = some ⟨b, off, none⟩ ∧ b < w.heap.size ∧ ∀ i, i < n → ∃ q m c, w.cell? ⟨b, off + i, none⟩ = some (.slice q m c) ∧ SlI w .u8 (.slice q m c) (xss.getD i []) ∧ m ≤ 9223372036854775807) := by
  obtain ⟨vals, h1, h2, h3⟩ := h
  obtain ⟨p, n, cap, rfl, hn, hc⟩ := h1.shape
  refine ⟨p, n, cap, rfl, by omega, ?_, ?_⟩
  · by_cases h0 : 0 < n
    · obtain ⟨b, off, _, _, h4, h5, _⟩ := hc h0
      unfold maxLen at h5; omega
    · omega
  · intro h0
    obtain ⟨b, off, rfl, hb, h4, h5, h6⟩ := hc h0
    refine ⟨b, off, rfl, hb, fun i hi => ?_⟩
    have hv : vals[i]? = some (vals[i]'(by omega)) := List.getElem?_eq_getElem (by omega)
    have hs := h3 i _ hv
    obtain ⟨q, m, c, he, hm, hm2⟩ := hs.shape
    rw [he] at hs hv
    exact ⟨q, m, c, h6 i _ hv, hs, hm2⟩
theorem take_succ_getD (xs : List Int) (k : Nat) (h : k < xs.length) : xs.take (k + 1) = xs.take k ++ [xs.getD k 0] := by
  rw [List.take_succ_eq_append_getElem h]
  simp [List.getD, h]
theorem spot_none {w : World} {a : Addr} {u : Value} (h : w.cell? (a.add 0) = some u) : ∃ b off, a = ⟨b, off, none⟩ ∧ b < w.heap.size := by
  obtain ⟨b, off, spot⟩ := a
  have hspot : spot = none := by simpa [Addr.add] using World.cell?_spot h
  subst hspot
  rw [add_plain] at h
  exact ⟨b, off, rfl, block_lt_of_cell h⟩

open Go.Deep in
/-- The slice v reads as these rows of integers. -/
theorem open_rows {H : Type} {enc : TypeId × Value → H} {P : Program} {W : World} {base : Nat} {t e q : TypeId} {v : Value} {d : DataW H} {p : List MemPlace} (ht : P.underlying t = some (.slice e)) (he : P.underlying e = some (.slice q)) (hq : P.underlying q = some (.int .u8)) (ce : P.cellsOf e = 1) (cq : P.cellsOf q = 1)
    (hv : Value.okWide P W .any base t v) (h : DataW.Trod enc P W 0 (fun _ => true) true t v d p) :
    ∃ xss : List (List Int), SlR W v xss ∧ ∀ xs ∈ xss, ∀ x ∈ xs, (Lit.int .u8 x).wf = true := by
  obtain ⟨a0, len, cap, rfl⟩ := okWide_slice ht hv
  obtain ⟨fuel, hf⟩ := h
  rcases open_int_rows ht he hq ce cq hf with ⟨hcs, _⟩ | ⟨a, len', cap', A, L, C, Z, hcs, _, hl, hm, hx, hrow⟩
  · simp [Value.cells] at hcs
    obtain ⟨rfl, rfl, rfl⟩ := hcs
    exact ⟨[], ⟨[], ⟨none, 0, rfl, fun h => absurd rfl h⟩, rfl, fun i u hi => by simp at hi⟩, fun xs hxs => by cases hxs⟩
  · simp [Value.cells] at hcs
    obtain ⟨rfl, rfl, rfl⟩ := hcs
    refine ⟨(List.range len).map fun r => (Z r).take (L r), ⟨(List.range len).map fun r => .slice (A r) (L r) (C r), ?_, by simp, ?_⟩, ?_⟩
    · refine ⟨some a, cap, by simp, fun hne => ?_⟩
      have h0 : 0 < len := by
        rcases Nat.eq_zero_or_pos len with h | h
        · subst h; simp at hne
        · exact h
      obtain ⟨b, off, rfl, hb⟩ := spot_none (hrow 0 (by omega)).1
      refine ⟨b, off, rfl, hb, by simpa using hl, hm, fun i u hi => ?_⟩
      have hi' : i < len := by
        by_cases h : i < len
        · exact h
        · rw [List.getElem?_eq_none (by simp; omega)] at hi; cases hi
      simp [hi'] at hi
      subst hi
      rw [← add_plain]
      exact (hrow i (by omega)).1
    · intro i u hi
      have hi' : i < len := by
        by_cases h : i < len
        · exact h
        · rw [List.getElem?_eq_none (by simp; omega)] at hi; cases hi
      simp [hi'] at hi
      subst hi
      obtain ⟨_, hLC, hC, hZ, _, hN, hA⟩ := hrow i (by omega)
      have e1 : ((List.range len).map fun r => (Z r).take (L r)).getD i [] = (Z i).take (L i) := by simp [List.getD, hi']
      have e2 : ((Z i).take (L i)).length = L i := by rw [List.length_take]; omega
      rw [e1]
      refine ⟨A i, C i, by rw [e2], fun hne => ?_⟩
      have h0 : 0 < L i := by
        rcases Nat.eq_zero_or_pos (L i) with h | h
        · rw [h] at hne; simp at hne
        · exact h
      cases hAi : A i with
      | none => have := hN hAi; omega
      | some a' =>
        obtain ⟨_, hc⟩ := hA a' hAi
        obtain ⟨b', off', rfl, hb⟩ := spot_none (hc 0 (by omega))
        refine ⟨b', off', rfl, hb, by rw [e2]; exact hLC, hC, fun c hcl => ?_⟩
        rw [e2] at hcl
        rw [← add_plain, hc c (by omega)]
        simp [List.getD, hcl]
    · intro xs hxs x hx
      obtain ⟨r, hr, rfl⟩ := List.mem_map.1 hxs
      exact (hrow r (by have := List.mem_range.1 hr; omega)).2.2.2.2.1 x (List.mem_of_mem_take hx)
theorem own_ne {X Y : Nat → Prop} {w : World} {e e' : TypeId} {v v' : Value} {n n' : Nat} {xs xs' : List Value} (h : ownX X w e v n xs) (h' : ownX Y w e' v' n' xs') (hne : e ≠ e') : ∀ k, v.ownBlock = some k → v'.ownBlock ≠ some k := by
  intro k hk hk'
  rcases h.1.2 with ⟨rfl, _⟩ | ⟨g, cap, cur, rfl, _, hg, _⟩
  · cases hk
  · rcases h'.1.2 with ⟨rfl, _⟩ | ⟨g', cap', cur', rfl, _, hg', _⟩
    · cases hk'
    · have e1 : g = k := by simpa [Value.ownBlock] using hk
      have e2 : g' = k := by simpa [Value.ownBlock] using hk'
      subst e1
      subst e2
      rw [hg] at hg'
      simp only [Option.some.injEq, Obj.cells.injEq] at hg'
      exact hne hg'.2.1

theorem own_SlI {X : Nat → Prop} {w : World} {e : TypeId} {v : Value} {k : IntKind} {xs : List Int} (h : ownX X w e v xs.length (xs.map (Value.int k))) : SlI w k v xs := by
  rcases h.shape with ⟨rfl, h0⟩ | ⟨g, cap, rfl, _, hg, hn, hc, hcell⟩
  · obtain rfl : xs = [] := List.eq_nil_of_length_eq_zero h0
    exact ⟨none, 0, rfl, fun h => absurd rfl h⟩
  · refine ⟨_, cap, rfl, fun _ => ⟨g, 0, rfl, hg, hn, hc, fun i hi => ?_⟩⟩
    rw [Nat.zero_add]
    exact hcell i _ (by simp [hi, List.getD])

/-- All blocks of w but b. -/
def butOf (w : World) (b : Nat) : Nat → Prop := fun k => k < w.heap.size ∧ k ≠ b
theorem cell2 {w : World} {b : Nat} {x y : Value} {t : TypeId} (h : w.heap[b]? = some (.cells #[x, y] t (0, 0))) :
    w.cell? ⟨b, 0, none⟩ = some x ∧ w.cell? ⟨b, 1, none⟩ = some y ∧ w.frozen? ⟨b, 0, none⟩ = false ∧ w.frozen? ⟨b, 1, none⟩ = false := by
  simp [World.cell?, World.frozen?, h]

/-- A new block of numbers reads as a list. -/
theorem SlI.fresh (w : World) (k : IntKind) (t : TypeId) (xs : List Int) (n : Nat) (fr : Nat × Nat) (hn : n = xs.length) (hmax : n ≤ 9223372036854775807) : SlI (w.alloc (.cells (xs.map (Value.int k)).toArray t fr)) k (.slice (some ⟨w.heap.size, 0, none⟩) n n) xs := by
  subst hn
  refine ⟨_, _, rfl, fun _ => ⟨w.heap.size, 0, rfl, by simp, Nat.le_refl _, by unfold maxLen; exact hmax, fun i hi => ?_⟩⟩
  rw [cell_of_row _ _ _ _ _ _ (heap_alloc_new _ _)]
  simp [hi, List.getD]

theorem one_val {u : Value} (h : u.oneCell' = true) : ∀ x ∈ [u], x.oneCell' = true := by
  intro x hx
  simp only [List.mem_singleton] at hx
  subst hx
  exact h

theorem bytes_of {xs : List Int} (h : ∀ x ∈ xs, (Lit.int .u8 x).wf = true) : ∀ x ∈ xs, 0 ≤ x ∧ x ≤ 255 := by
  intro x hx
  have := h x hx
  simp [Lit.wf, IntKind.min, IntKind.max, IntKind.signed, IntKind.bits] at this
  omega

end Go.Proofs.Ytgdlinfgcfjciaa
