/- A map from pages to the slots that have them, as a function of the page. -/
import Derived.Test.YtooamkicmmgniaaFltM
namespace Go.Proofs.Ytooamkicmmgniaa
set_option linter.unusedVariables false
set_option maxRecDepth 100000
open Go.RowKit Go.ChangeShapes Go.WideShapes
open Go.Maps (Keyed IsMap Tidy)
open Go.ChangeMaps Go.MapKept

/-- A slot's number as an element. -/
def hldR : Value → Option (DataW Unit × List MemPlace)
  | .int .i64 f => some (.lit (.int .i64 f), [])
  | _ => none
theorem hldR_v (i : Int) : hldR (.int .i64 i) = some (.lit (.int .i64 i), []) := rfl
theorem hldR_inv {v : Value} {z : DataW Unit × List MemPlace} (h : hldR v = some z) : ∃ i, v = .int .i64 i ∧ z = (.lit (.int .i64 i), []) := by
  unfold hldR at h
  split at h
  · cases h; exact ⟨_, rfl, rfl⟩
  · cases h
theorem int_zero (w : World) : (zeroValue 3).run Try.prog w = .ok (.int .i64 0) w := by kernel_rfl
theorem hld_key {k : Int} (h : -9223372036854775808 ≤ k ∧ k ≤ 9223372036854775807) : keyOf Try.prog 3 (.int .i64 k) = some (.int .i64 k) := Maps.keyOf_int_mk Try.underlying3 (WalkArith.wf_i64 (by omega))

/-- Block b is a map that says of each page below n which slot has it, if any. -/
def HldAt (w : World) (b n : Nat) (F : Nat → Option Nat) : Prop :=
  ∃ D : DataW Unit, w.ownsMap Try.prog 3 hldR b n D ∧ (∀ kl, Maps.has D kl = true → ∃ k : Nat, k < n ∧ kl = .int .i64 (k : Int)) ∧
    ∀ k : Nat, k < n → (F k = none → Maps.has D (.int .i64 (k : Int)) = false) ∧ ∀ i, F k = some i → Maps.has D (.int .i64 (k : Int)) = true ∧ D.atKey (.int .i64 (k : Int)) (.lit (.int .i64 0)) = .lit (.int .i64 (i : Int))
def updO (F : Nat → Option Nat) (k : Nat) (d : Option Nat) : Nat → Option Nat := fun j => if j = k then d else F j

theorem hld_made (w : World) (n : Nat) : HldAt (w.alloc (.map #[] 0)) w.heap.size n (fun _ => none) :=
  ⟨.map [], (World.ownsMap_made _ _ _ _).mono (Nat.zero_le _), fun kl h => by simp [Maps.has] at h, fun k _ => ⟨fun _ => by simp [Maps.has], fun i h => by cases h⟩⟩
namespace HldAt
variable {w w' : World} {b n : Nat} {F : Nat → Option Nat}
theorem lt (h : HldAt w b n F) : b < w.heap.size := by obtain ⟨D, h1, _⟩ := h; exact h1.lt
theorem kept {X : Nat → Prop} (h : HldAt w b n F) (k : Kept X w w') (hb : X b) : HldAt w' b n F := by
  obtain ⟨D, ⟨es, clock, h1, h2⟩, r⟩ := h
  exact ⟨D, ⟨es, clock, (k.block b hb).trans h1, h2⟩, r⟩
theorem old (h : HldAt w b n F) (k : Old w w') : HldAt w' b n F := h.kept k h.lt
theorem ext {G : Nat → Option Nat} (h : HldAt w b n F) (e : ∀ k, k < n → F k = G k) : HldAt w b n G := by
  obtain ⟨D, h1, h2, h3⟩ := h
  exact ⟨D, h1, h2, fun k hk => by rw [← e k hk]; exact h3 k hk⟩
theorem tight {D : DataW Unit} {m : Nat} (h : w.ownsMap Try.prog 3 hldR b m D) (hk : ∀ kl, Maps.has D kl = true → ∃ k : Nat, k < n ∧ kl = .int .i64 (k : Int)) : w.ownsMap Try.prog 3 hldR b n D := by
  refine (own_tight h).mono ?_
  obtain ⟨es, rfl, hr, hkl⟩ := h.canon flt_law
  have hp := Maps.apart_of_rising hr
  show es.length ≤ n
  have hkey : ∀ p ∈ es, ∃ k : Nat, k < n ∧ p.1 = .int .i64 (k : Int) := fun p hp' =>
    hk p.1 (by simp only [Maps.has, List.any_eq_true]; exact ⟨p, hp', WideAt.sameKey_self (hkl p hp')⟩)
  have hl : (es.map fun p => match p.1 with | .int _ z => z.toNat | _ => 0).length ≤ n := by
    refine apart_len n _ ?_ ?_
    · rw [List.pairwise_map]
      refine List.Pairwise.imp_of_mem ?_ hp
      intro p q hp' hq' hne e
      obtain ⟨k1, _, e1⟩ := hkey p hp'
      obtain ⟨k2, _, e2⟩ := hkey q hq'
      rw [e1, e2] at e
      simp only [Int.toNat_natCast] at e
      exact hne (by rw [e1, e2, e])
    · intro x hx
      obtain ⟨p, hp', rfl⟩ := List.mem_map.1 hx
      obtain ⟨k, hk', e⟩ := hkey p hp'
      rw [e]
      simpa using hk'
  simpa using hl
/-- Which slot has a page. -/
theorem look_some (h : HldAt w b n F) {k i : Nat} (hk : k < n) (h63 : n ≤ 1099511627776) (hF : F k = some i) : (Instr.lookup 55 (.map (some b)) (.int .i64 (k : Int)) true).run Try.prog w = .ok (.tuple #[.int .i64 (i : Int), .bool true]) w := by
  obtain ⟨D, h1, _, h3⟩ := h
  obtain ⟨v, ps, hr, hv⟩ := h1.look_ok flt_law Try.underlying55 (int_zero w) (hldR_v 0) (hld_key (k := (k : Int)) (by omega))
  obtain ⟨e1, e2⟩ := (h3 k hk).2 i hF
  obtain ⟨d, rfl, hd⟩ := hldR_inv hv
  rw [e2] at hd
  have e := congrArg Prod.fst hd
  simp at e
  rw [hr, e1, ← e]
/-- No slot has it. -/
theorem look_none (h : HldAt w b n F) {z : Int} (h63 : n ≤ 1099511627776) (hz : -9223372036854775808 ≤ z ∧ z ≤ 9223372036854775807) (hF : ∀ k : Nat, k < n → z = (k : Int) → F k = none) : (Instr.lookup 55 (.map (some b)) (.int .i64 z) true).run Try.prog w = .ok (.tuple #[.int .i64 0, .bool false]) w := by
  obtain ⟨D, h1, h2, h3⟩ := h
  obtain ⟨v, ps, hr, hv⟩ := h1.look_ok flt_law Try.underlying55 (int_zero w) (hldR_v 0) (hld_key hz)
  have hno : Maps.has D (.int .i64 z) = false := by
    cases hb : Maps.has D (.int .i64 z) with
    | false => rfl
    | true =>
      obtain ⟨k, hk, e⟩ := h2 _ hb
      injection e with _ e2
      have := (h3 k hk).1 (hF k hk e2)
      rw [← e2, hb] at this
      exact this
  obtain ⟨d, rfl, hd⟩ := hldR_inv hv
  rw [Maps.atKey_of_not_has hno] at hd
  have e := congrArg Prod.fst hd
  simp at e
  rw [hr, hno, ← e]
/-- A slot has it now. -/
theorem put (h : HldAt w b n F) {k : Nat} (hk : k < n) (h63 : n ≤ 1099511627776) (i : Nat) : ∃ w', (Instr.mapUpdate 55 (.map (some b)) (.int .i64 (k : Int)) (.int .i64 (i : Int))).run Try.prog w = .ok () w' ∧ HldAt w' b n (updO F k (some i)) ∧ Kept (fun j => j < w.heap.size ∧ j ≠ b) w w' := by
  obtain ⟨D, h1, h2, h3⟩ := h
  obtain ⟨w', hr, ho, hm⟩ := h1.store flt_law Try.underlying55 (by unfold maxLen; omega) (hld_key (k := (k : Int)) (by omega)) (hldR_v i)
  have hkl : WideAt.IsKeyLit (Lit.int .i64 (k : Int)) := flt_law.key (hld_key (k := (k : Int)) (by omega))
  have hk' : ∀ kl, Maps.has (D.put (.int .i64 (k : Int)) (.lit (.int .i64 (i : Int)))) kl = true → ∃ k : Nat, k < n ∧ kl = .int .i64 (k : Int) := fun kl hkl' => by
    by_cases e : kl = .int .i64 (k : Int)
    · exact ⟨k, hk, e⟩
    · rw [Maps.has_put_other e] at hkl'
      exact h2 kl hkl'
  refine ⟨w', hr, ⟨_, tight ho hk', hk', fun j hj => ?_⟩, Kept.grown hm.grown (fun _ h => h.1) (fun j e hj => by cases e; exact hj.2 rfl)⟩
  unfold updO
  by_cases e : j = k
  · rw [if_pos e, e, Maps.has_put_same h1.isMap hkl, Maps.atKey_put_same h1.isMap hkl]
    exact ⟨fun h => (nomatch h), fun i' h => by cases h; exact ⟨rfl, rfl⟩⟩
  · rw [if_neg e, Maps.has_put_other (key_ne e), Maps.atKey_put_other (key_ne e)]
    exact h3 j hj
/-- No slot has it any more. -/
theorem del (h : HldAt w b n F) {k : Nat} (hk : k < n) (h63 : n ≤ 1099511627776) (ty : TypeId) : ∃ w', (Builtin.delete_ #[55, 3] ty #[.map (some b), .int .i64 (k : Int)]).run Try.prog w = .ok (.tuple #[]) w' ∧ HldAt w' b n (updO F k none) ∧ Kept (fun j => j < w.heap.size ∧ j ≠ b) w w' := by
  obtain ⟨D, h1, h2, h3⟩ := h
  obtain ⟨w', hr, ho, hm⟩ := h1.drop flt_law Try.underlying55 (hld_key (k := (k : Int)) (by omega)) ty
  have hk' : ∀ kl, Maps.has (D.del (.int .i64 (k : Int))) kl = true → ∃ k : Nat, k < n ∧ kl = .int .i64 (k : Int) := fun kl hkl' => by
    by_cases e : kl = .int .i64 (k : Int)
    · exact ⟨k, hk, e⟩
    · rw [Maps.has_del_other e] at hkl'
      exact h2 kl hkl'
  refine ⟨w', hr, ⟨_, tight ho hk', hk', fun j hj => ?_⟩, Kept.grown hm.grown (fun _ h => h.1) (fun j e hj => by cases e; exact hj.2 rfl)⟩
  unfold updO
  by_cases e : j = k
  · rw [if_pos e, e, Maps.has_del_same]
    exact ⟨fun _ => rfl, fun i h => by cases h⟩
  · rw [if_neg e, Maps.has_del_other (key_ne e), Maps.atKey_del_other (key_ne e)]
    exact h3 j hj
/-- No slot has any. -/
theorem wipe (h : HldAt w b n F) (ty : TypeId) : ∃ w', (Builtin.clear_ #[55] ty #[.map (some b)]).run Try.prog w = .ok (.tuple #[]) w' ∧ HldAt w' b n (fun _ => none) ∧ Kept (fun j => j < w.heap.size ∧ j ≠ b) w w' := by
  obtain ⟨D, ⟨es, clock, hb, hF, hs, hD⟩, h2, h3⟩ := h
  refine ⟨setBlock w b (.map #[] clock), ?_, ⟨.map [], ⟨#[], clock, heap_setBlock_same hb _, ⟨by simp, ?_, by simp⟩, by simp, rfl⟩, fun kl h => by simp [Maps.has] at h, fun k _ => ⟨fun _ => by simp [Maps.has], fun i h => by cases h⟩⟩, ?_⟩
  · simp [Builtin.clear_, run_underlying Try.underlying55, MapKept.run_getObj_map hb, MapKept.run_setObj_map _ hb, Result.andThen]
    rfl
  · exact stamped_empty clock
  · exact Kept.grown (World.mapTurned.grown ⟨es, clock, #[], clock, hb, rfl⟩) (fun _ h => h.1) (fun j e hj => by cases e; exact hj.2 rfl)
end HldAt

/-! At the operation. -/
theorem wpList_put_hld (w : World) {ops : Array Oper} {rest : List Oper} {o : Oper} {a : Act} {Q : Exit → Act → World → Prop} (hg : o.guard = none) (m x v : Operand) (hop : o.op = Op.mapUpdate 55 m x v)
    (b n k i : Nat) (F : Nat → Option Nat) (hm : a.eval m = .map (some b)) (h : HldAt w b n F) (hk : k < n) (h63 : n ≤ 1099511627776) (hx : a.eval x = .int .i64 (k : Int)) (hv : a.eval v = .int .i64 (i : Int))
    (hK : ∀ w', HldAt w' b n (updO F k (some i)) → Kept (fun j => j < w.heap.size ∧ j ≠ b) w w' → wpList Try.prog ops Q rest (a.put o.dst undef) w') : wpList Try.prog ops Q (o :: rest) a w := by
  refine wpList_plain hg fun K' hK' => ?_
  obtain ⟨w', hrun, r1, r2⟩ := h.put hk h63 i
  unfold Oper.wp
  simp [execOp, hop, hm, hx, hv, hrun, Result.andThen]
  exact hK' _ _ (hK w' r1 r2)
theorem wpList_del_hld (w : World) {ops : Array Oper} {rest : List Oper} {o : Oper} {a : Act} {Q : Exit → Act → World → Prop} (hg : o.guard = none) (m x : Operand) (hop : o.op = Op.call { callee := Callee.builtin Builtin.delete, args := #[m, x], argTypes := #[55, 3] })
    (b n k : Nat) (F : Nat → Option Nat) (hm : a.eval m = .map (some b)) (h : HldAt w b n F) (hk : k < n) (h63 : n ≤ 1099511627776) (hx : a.eval x = .int .i64 (k : Int))
    (hK : ∀ w', HldAt w' b n (updO F k none) → Kept (fun j => j < w.heap.size ∧ j ≠ b) w w' → wpList Try.prog ops Q rest (a.put o.dst (.tuple #[])) w') : wpList Try.prog ops Q (o :: rest) a w := by
  refine wpList_plain hg fun K' hK' => ?_
  obtain ⟨w', hrun, r1, r2⟩ := h.del hk h63 o.type
  unfold Oper.wp
  simp [execOp, hop, resolve, invoke, builtin, hm, hx, hrun, Result.andThen]
  exact hK' _ _ (hK w' r1 r2)
theorem wpList_wipe_hld (w : World) {ops : Array Oper} {rest : List Oper} {o : Oper} {a : Act} {Q : Exit → Act → World → Prop} (hg : o.guard = none) (m : Operand) (hop : o.op = Op.call { callee := Callee.builtin Builtin.clear, args := #[m], argTypes := #[55] })
    (b n : Nat) (F : Nat → Option Nat) (hm : a.eval m = .map (some b)) (h : HldAt w b n F)
    (hK : ∀ w', HldAt w' b n (fun _ => none) → Kept (fun j => j < w.heap.size ∧ j ≠ b) w w' → wpList Try.prog ops Q rest (a.put o.dst (.tuple #[])) w') : wpList Try.prog ops Q (o :: rest) a w := by
  refine wpList_plain hg fun K' hK' => ?_
  obtain ⟨w', hrun, r1, r2⟩ := h.wipe o.type
  unfold Oper.wp
  simp [execOp, hop, resolve, invoke, builtin, hm, hrun, Result.andThen]
  exact hK' _ _ (hK w' r1 r2)
end Go.Proofs.Ytooamkicmmgniaa
