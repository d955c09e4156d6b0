/- CrcParts: what is known at each round, and how it goes on. -/
import Derived.Test.YtbnenkmkkookdaaState
namespace Go.Proofs.Ytbnenkmkkookdaa
set_option linter.unusedVariables false
open Go.RowKit Go.ChangeShapes Go.WideShapes

/-- What was there at first, and the state. -/
def X0 (w : World) (bs : Nat) : Nat → Prop := fun k => k < w.heap.size ∨ k = bs
/-- The same, and a row of the call's own. -/
def X1 (w : World) (bs : Nat) (v : Value) : Nat → Prop := fun k => X0 w bs k ∨ v.ownBlock = some k

theorem own_ne {X Y : Nat → Prop} {w : World} {e e' : TypeId} {v v' : Value} {n n' : Nat} {xs xs' : List Value} (h : ownX X w e v n xs) (h' : ownX Y w e' v' n' xs') (hne : e ≠ e') : ∀ k, v.ownBlock = some k → v'.ownBlock ≠ some k := by
  intro k hk hk'
  rcases h.1.2 with ⟨rfl, _⟩ | ⟨g, cap, cur, rfl, _, hg, _⟩
  · cases hk
  · rcases h'.1.2 with ⟨rfl, _⟩ | ⟨g', cap', cur', rfl, _, hg', _⟩
    · cases hk'
    · have e1 : g = k := by simpa [Value.ownBlock] using hk
      have e2 : g' = k := by simpa [Value.ownBlock] using hk'
      subst e1
      subst e2
      rw [hg] at hg'
      simp only [Option.some.injEq, Obj.cells.injEq] at hg'
      exact hne hg'.2.1

theorem own_SlI {X : Nat → Prop} {w : World} {e : TypeId} {v : Value} {k : IntKind} {xs : List Int} (h : ownX X w e v xs.length (xs.map (Value.int k))) : SlI w k v xs := by
  rcases h.shape with ⟨rfl, h0⟩ | ⟨g, cap, rfl, _, hg, hn, hc, hcell⟩
  · obtain rfl : xs = [] := List.eq_nil_of_length_eq_zero h0
    exact ⟨none, 0, rfl, fun h => absurd rfl h⟩
  · refine ⟨_, cap, rfl, fun _ => ⟨g, 0, rfl, hg, hn, hc, fun i hi => ?_⟩⟩
    rw [Nat.zero_add]
    exact hcell i _ (by simp [hi, List.getD])

structure PS (w : World) (bs : Nat) (st al : List Int) (vals : List Value) (v4 v5 : Value) (wr : World) : Prop where
  st : StAt wr bs st
  old : Old w wr
  ge : w.heap.size ≤ bs
  all : ownX (X0 w bs) wr 5 v4 al.length (al.map (Value.int .u8))
  parts : ownX (X0 w bs) wr 22 v5 vals.length vals
namespace PS
variable {w : World} {bs : Nat} {st al : List Int} {vals : List Value} {v4 v5 : Value} {wr w1 : World}
theorem lt (h : PS w bs st al vals v4 v5 wr) : bs < wr.heap.size := lt_of_block h.st
theorem x0 (h : PS w bs st al vals v4 v5 wr) : ∀ k, X0 w bs k → k < wr.heap.size := fun k hk => hk.elim (fun h' => Nat.lt_of_lt_of_le h' h.old.size) (fun e => by rw [e]; exact h.lt)
theorem start {w w0 : World} {bs : Nat} (h : StAt w0 bs []) (ho : Old w w0) (hb : w.heap.size ≤ bs) : PS w bs [] [] [] (.slice none 0 0) (.slice none 0 0) w0 := ⟨h, ho, hb, ownX.nil _ _ _, ownX.nil _ _ _⟩
theorem next (h : PS w bs st al vals v4 v5 wr) (k : Old wr w1) : PS w bs st al vals v4 v5 w1 := ⟨h.st.old k, h.old.trans k, h.ge, h.all.old k, h.parts.old k⟩
theorem wrote {st' : List Int} (h : PS w bs st al vals v4 v5 wr) (hs : StAt w1 bs st') (k : Kept (butOf wr bs) wr w1) : PS w bs st' al vals v4 v5 w1 := by
  refine ⟨hs, h.old.after k fun q hq => ⟨Nat.lt_of_lt_of_le hq h.old.size, by have := h.ge; omega⟩, h.ge, h.all.kept k fun q hq => ⟨h.all.lt q hq, fun e => h.all.2 q hq (.inr e)⟩, h.parts.kept k fun q hq => ⟨h.parts.lt q hq, fun e => h.parts.2 q hq (.inr e)⟩⟩
theorem x1a (h : PS w bs st al vals v4 v5 wr) : ∀ k, X1 w bs v4 k → k < wr.heap.size := fun k hk => hk.elim (h.x0 k) (h.all.lt k)
theorem x1p (h : PS w bs st al vals v4 v5 wr) : ∀ k, X1 w bs v5 k → k < wr.heap.size := fun k hk => hk.elim (h.x0 k) (h.parts.lt k)
theorem ownP (h : PS w bs st al vals v4 v5 wr) : ownX (X1 w bs v4) wr 22 v5 vals.length vals :=
  h.parts.mono fun k hk hx => hx.elim (h.parts.2 k hk) (fun e => own_ne h.parts h.all (by decide) k hk e)
theorem ownA (h : PS w bs st al vals v4 v5 wr) : ownX (X1 w bs v5) wr 5 v4 al.length (al.map (Value.int .u8)) :=
  h.all.mono fun k hk hx => hx.elim (h.all.2 k hk) (fun e => own_ne h.all h.parts (by decide) k hk e)
theorem addP {u v5' : Value} (h : PS w bs st al vals v4 v5 wr) (ho : ownX (X1 w bs v4) w1 22 v5' (vals.length + 1) (vals ++ [u])) (k : Kept (X1 w bs v4) wr w1) : PS w bs st al (vals ++ [u]) v4 v5' w1 := by
  refine ⟨h.st.kept k (.inl (.inr rfl)), h.old.after k fun q hq => .inl (.inl hq), h.ge, h.all.kept k fun q hq => .inr hq, ?_⟩
  rw [List.length_append]
  exact ho.mono fun q hq hx => ho.2 q hq (.inl hx)
theorem addA {x : Int} {v4' : Value} (h : PS w bs st al vals v4 v5 wr) (ho : ownX (X1 w bs v5) w1 5 v4' (al.length + 1) (al.map (Value.int .u8) ++ [.int .u8 x])) (k : Kept (X1 w bs v5) wr w1) : PS w bs st (al ++ [x]) vals v4' v5 w1 := by
  refine ⟨h.st.kept k (.inl (.inr rfl)), h.old.after k fun q hq => .inl (.inl hq), h.ge, ?_, h.parts.kept k fun q hq => .inr hq⟩
  rw [List.length_append, List.map_append]
  exact ho.mono fun q hq hx => ho.2 q hq (.inl hx)
/-- The rows that were written. -/
theorem rows {rs : List (List Int)} (h : PS w bs st al vals v4 v5 wr) (hl : vals.length = rs.length) (hv : ∀ j u, vals[j]? = some u → SlI w .u8 u (rs.getD j [])) : SlR wr v5 rs := by
  refine ⟨vals, ?_, hl, fun j u hj => (hv j u hj).old h.old⟩
  have := SlV.own h.parts.1
  exact this
end PS

theorem Try.infoB : (Try.prog.info? 5).map (fun i => (i.zero, i.size, i.bytes)) = some (some (.int .u8 0), 1, 1) := by kernel_rfl
theorem Try.infoR : (Try.prog.info? 22).map (fun i => (i.zero, i.size, i.bytes)) = some (some (.slice none 0 0), 1, 24) := by kernel_rfl

/-- The first k rows, each cut to 200. -/
def cutR (xss : List (List Int)) (k : Nat) : List (List Int) := (xss.take k).map (·.take 200)
theorem cutR_succ (xss : List (List Int)) (k : Nat) (h : k < xss.length) : cutR xss (k + 1) = cutR xss k ++ [(xss.getD k []).take 200] := by
  unfold cutR
  rw [List.take_succ_eq_append_getElem h, List.map_append]
  simp [List.getD, h]
theorem cutR_length (xss : List (List Int)) (k : Nat) (h : k ≤ xss.length) : (cutR xss k).length = k := by
  unfold cutR
  rw [List.length_map, List.length_take]; omega
theorem cutR_flat (xss : List (List Int)) (k : Nat) : (cutR xss k).flatten.length ≤ 200 * k := by
  unfold cutR
  induction k generalizing xss with
  | zero => simp
  | succ k ih =>
    cases xss with
    | nil => simp
    | cons x xss =>
      have := ih xss
      simp only [List.take_succ_cons, List.map_cons, List.flatten_cons, List.length_append, List.length_take]
      omega
theorem cutR_bytes {xss : List (List Int)} (h : BytesR xss) (k : Nat) : BytesR (cutR xss k) := by
  intro xs hxs x hx
  obtain ⟨ys, hys, rfl⟩ := List.mem_map.1 hxs
  exact h ys (List.mem_of_mem_take hys) x (List.mem_of_mem_take hx)
theorem flat_bytes {xss : List (List Int)} (h : BytesR xss) : ∀ x ∈ xss.flatten, 0 ≤ x ∧ x ≤ 255 := by
  intro x hx
  obtain ⟨l, hl, hx⟩ := List.mem_flatten.1 hx
  exact h l hl x hx
/-- Each value reads as its row. -/
def ValsR (w : World) (vals : List Value) (rs : List (List Int)) : Prop := vals.length = rs.length ∧ ∀ j u, vals[j]? = some u → SlI w .u8 u (rs.getD j [])
theorem ValsR.snoc {w : World} {vals : List Value} {rs : List (List Int)} {u : Value} {r : List Int} (h : ValsR w vals rs) (hu : SlI w .u8 u r) : ValsR w (vals ++ [u]) (rs ++ [r]) := by
  obtain ⟨h1, h2⟩ := h
  refine ⟨by simp [h1], fun j x hj => ?_⟩
  by_cases hlt : j < vals.length
  · rw [List.getElem?_append_left hlt] at hj
    have := h2 j x hj
    rw [List.getD_eq_getElem?_getD] at this ⊢
    rwa [List.getElem?_append_left (by omega)]
  · by_cases he : j = vals.length
    · subst he
      rw [List.getElem?_append_right (by omega)] at hj
      simp at hj
      subst hj
      rw [List.getD_eq_getElem?_getD, h1, List.getElem?_append_right (by omega)]
      simpa using hu
    · rw [List.getElem?_eq_none (by simp; omega)] at hj
      cases hj
end Go.Proofs.Ytbnenkmkkookdaa
