/- A map from pages to what befalls them, as a function of the page. -/
import Derived.Test.YtooamkicmmgniaaByt
import Derived.Test.YtooamkicmmgniaaChecked
import Derived.Maps.OwnSet
import Derived.Maps.Ext
namespace Go.Proofs.Ytooamkicmmgniaa
set_option linter.unusedVariables false
set_option maxRecDepth 100000
open Go.RowKit Go.ChangeShapes Go.WideShapes
open Go.Maps (Keyed IsMap Tidy)

/-- What befalls a page: how many readings fail, where a byte is spoilt, by what. -/
structure Flt where
  f : Int
  a : Int
  x : Int
def Flt.z : Flt := ⟨0, 0, 0⟩
def Flt.v (d : Flt) : Value := .agg #[.int .i64 d.f, .int .i64 d.a, .int .u8 d.x]
def Flt.dt (d : Flt) : DataW Unit := .agg [.lit (.int .i64 d.f), .lit (.int .i64 d.a), .lit (.int .u8 d.x)]
def Flt.ok (d : Flt) : Prop := (-9223372036854775808 ≤ d.f ∧ d.f ≤ 9223372036854775807) ∧ (0 ≤ d.a ∧ d.a ≤ 63) ∧ 0 ≤ d.x ∧ d.x ≤ 255
theorem Flt.z_ok : Flt.z.ok := by unfold Flt.ok Flt.z; simp
theorem Flt.dt_inj {d e : Flt} (h : d.dt = e.dt) : d = e := by
  cases d; cases e
  simp [Flt.dt] at h
  simp [h]
def fltR : Value → Option (DataW Unit × List MemPlace)
  | .agg cs => match cs.toList with
    | [.int .i64 f, .int .i64 a, .int .u8 x] => some (Flt.dt ⟨f, a, x⟩, [])
    | _ => none
  | _ => none
theorem fltR_v (d : Flt) : fltR d.v = some (d.dt, []) := rfl
theorem fltR_inv {v : Value} {z : DataW Unit × List MemPlace} (h : fltR v = some z) : ∃ d : Flt, v = d.v ∧ z = (d.dt, []) := by
  unfold fltR at h
  split at h
  · rename_i cs
    split at h
    · rename_i f a x he
      cases h
      refine ⟨⟨f, a, x⟩, ?_, rfl⟩
      unfold Flt.v
      rw [← Array.toArray_toList (xs := cs), he]
    · cases h
  · cases h

/-! Lists of different numbers. -/
theorem drop_one (a : Nat) : ∀ l : List Nat, l.Pairwise (· ≠ ·) → l.length ≤ (l.filter (fun x => decide (x ≠ a))).length + 1
  | [], _ => by simp
  | x :: r, h => by
    obtain ⟨h1, h2⟩ := List.pairwise_cons.1 h
    by_cases e : x = a
    · subst e
      have : r.filter (fun y => decide (y ≠ x)) = r := List.filter_eq_self.2 fun y hy => by simpa using (h1 y hy).symm
      rw [List.filter_cons_of_neg (by simp), this]
      simp
    · rw [List.filter_cons_of_pos (by simpa using e)]
      have := drop_one a r h2
      simp only [List.length_cons]
      omega
theorem apart_len : ∀ (P : Nat) (l : List Nat), l.Pairwise (· ≠ ·) → (∀ x ∈ l, x < P) → l.length ≤ P
  | 0, l, _, h => by
    cases l with
    | nil => simp
    | cons x r => exact absurd (h x (by simp)) (by omega)
  | P + 1, l, hp, h => by
    have h1 := drop_one P l hp
    have h2 := apart_len P (l.filter (fun x => decide (x ≠ P))) (hp.filter _) fun x hx => by
      obtain ⟨m1, m2⟩ := List.mem_filter.1 hx
      have := h x m1
      have : x ≠ P := by simpa using m2
      omega
    omega

theorem own_tight {P : Program} {k : TypeId} {R : Value → Option (DataW Unit × List MemPlace)} {w : World} {b n : Nat} {D : DataW Unit} (h : w.ownsMap P k R b n D) : w.ownsMap P k R b (Maps.size D) D := by
  obtain ⟨es, clock, hb, F, hs, hD⟩ := h
  refine ⟨es, clock, hb, F, ?_, hD⟩
  rw [hD]
  simp [Maps.size, length_sorted]

theorem flt_law : Keyed Try.prog 3 := Maps.int_keyed Try.underlying3
theorem flt_zero (w : World) : (zeroValue 72).run Try.prog w = .ok Flt.z.v w := by kernel_rfl
theorem flt_key {k : Nat} (hk : k ≤ 9223372036854775807) : keyOf Try.prog 3 (.int .i64 (k : Int)) = some (.int .i64 (k : Int)) := Maps.keyOf_int_mk Try.underlying3 (WalkArith.wf_i64 (by omega))

/-- Block b is a map that says of each page below n what befalls it, and of no other. -/
def FltAt (w : World) (b n : Nat) (F : Nat → Flt) : Prop :=
  ∃ D : DataW Unit, w.ownsMap Try.prog 3 fltR b n D ∧ (∀ kl, Maps.has D kl = true → ∃ k : Nat, k < n ∧ kl = .int .i64 (k : Int)) ∧ ∀ k : Nat, k < n → D.atKey (.int .i64 (k : Int)) Flt.z.dt = (F k).dt
def updF (F : Nat → Flt) (k : Nat) (d : Flt) : Nat → Flt := fun j => if j = k then d else F j

theorem key_ne {j k : Nat} (h : j ≠ k) : (Lit.int .i64 (j : Int)) ≠ Lit.int .i64 (k : Int) := fun e => h (by injection e with _ e2; omega)

theorem flt_made (w : World) (n : Nat) : FltAt (w.alloc (.map #[] 0)) w.heap.size n (fun _ => Flt.z) :=
  ⟨.map [], (World.ownsMap_made _ _ _ _).mono (Nat.zero_le _), fun kl h => by simp [Maps.has] at h, fun k _ => rfl⟩
namespace FltAt
variable {w w' : World} {b n : Nat} {F : Nat → Flt}
theorem lt (h : FltAt w b n F) : b < w.heap.size := by obtain ⟨D, h1, _⟩ := h; exact h1.lt
theorem kept {X : Nat → Prop} (h : FltAt w b n F) (k : Kept X w w') (hb : X b) : FltAt w' b n F := by
  obtain ⟨D, ⟨es, clock, h1, h2⟩, r⟩ := h
  exact ⟨D, ⟨es, clock, (k.block b hb).trans h1, h2⟩, r⟩
theorem old (h : FltAt w b n F) (k : Old w w') : FltAt w' b n F := h.kept k h.lt
theorem ext {G : Nat → Flt} (h : FltAt w b n F) (e : ∀ k, k < n → F k = G k) : FltAt w b n G := by
  obtain ⟨D, h1, h2, h3⟩ := h
  exact ⟨D, h1, h2, fun k hk => by rw [← e k hk]; exact h3 k hk⟩
/-- It has at most n entries. -/
theorem tight {D : DataW Unit} {m : Nat} (h : w.ownsMap Try.prog 3 fltR b m D) (hk : ∀ kl, Maps.has D kl = true → ∃ k : Nat, k < n ∧ kl = .int .i64 (k : Int)) : w.ownsMap Try.prog 3 fltR b n D := by
  refine (own_tight h).mono ?_
  obtain ⟨es, rfl, hr, hkl⟩ := h.canon flt_law
  have hp := Maps.apart_of_rising hr
  show es.length ≤ n
  have hkey : ∀ p ∈ es, ∃ k : Nat, k < n ∧ p.1 = .int .i64 (k : Int) := fun p hp' =>
    hk p.1 (by simp only [Maps.has, List.any_eq_true]; exact ⟨p, hp', WideAt.sameKey_self (hkl p hp')⟩)
  have hl : (es.map fun p => match p.1 with | .int _ z => z.toNat | _ => 0).length ≤ n := by
    refine apart_len n _ ?_ ?_
    · rw [List.pairwise_map]
      refine List.Pairwise.imp_of_mem ?_ hp
      intro p q hp' hq' hne e
      obtain ⟨k1, _, e1⟩ := hkey p hp'
      obtain ⟨k2, _, e2⟩ := hkey q hq'
      rw [e1, e2] at e
      simp only [Int.toNat_natCast] at e
      exact hne (by rw [e1, e2, e])
    · intro x hx
      obtain ⟨p, hp', rfl⟩ := List.mem_map.1 hx
      obtain ⟨k, hk', e⟩ := hkey p hp'
      rw [e]
      simpa using hk'
  simpa using hl
/-- What is said of a page. -/
theorem look (h : FltAt w b n F) {k : Nat} (hk : k < n) (h63 : k ≤ 9223372036854775807) : (Instr.lookup 63 (.map (some b)) (.int .i64 (k : Int)) false).run Try.prog w = .ok (F k).v w := by
  obtain ⟨D, h1, _, h3⟩ := h
  obtain ⟨v, ps, hr, hv⟩ := h1.lookup flt_law Try.underlying63 (flt_zero w) (fltR_v Flt.z) (flt_key h63)
  obtain ⟨d, rfl, hd⟩ := fltR_inv hv
  rw [h3 k hk] at hd
  have e := Flt.dt_inj (congrArg Prod.fst hd)
  rw [hr, e]
/-- Something is said of a page. -/
theorem put (h : FltAt w b n F) {k : Nat} (hk : k < n) (h63 : n ≤ 1099511627776) (d : Flt) : ∃ w', (Instr.mapUpdate 63 (.map (some b)) (.int .i64 (k : Int)) d.v).run Try.prog w = .ok () w' ∧ FltAt w' b n (updF F k d) ∧ Kept (fun j => j < w.heap.size ∧ j ≠ b) w w' := by
  obtain ⟨D, h1, h2, h3⟩ := h
  obtain ⟨w', hr, ho, hm⟩ := h1.store flt_law Try.underlying63 (by unfold maxLen; omega) (flt_key (k := k) (by omega)) (fltR_v d)
  have hkl : WideAt.IsKeyLit (Lit.int .i64 (k : Int)) := flt_law.key (flt_key (k := k) (by omega))
  have hk' : ∀ kl, Maps.has (D.put (.int .i64 (k : Int)) d.dt) kl = true → ∃ k : Nat, k < n ∧ kl = .int .i64 (k : Int) := fun kl hkl' => by
    by_cases e : kl = .int .i64 (k : Int)
    · exact ⟨k, hk, e⟩
    · rw [Maps.has_put_other e] at hkl'
      exact h2 kl hkl'
  refine ⟨w', hr, ⟨_, tight ho hk', hk', fun j hj => ?_⟩, Kept.grown hm.grown (fun _ h => h.1) (fun j e hj => by cases e; exact hj.2 rfl)⟩
  unfold updF
  by_cases e : j = k
  · rw [if_pos e, e, Maps.atKey_put_same h1.isMap hkl]
  · rw [if_neg e, Maps.atKey_put_other (key_ne e), h3 j hj]
/-- Nothing is said of a page any more. -/
theorem del (h : FltAt w b n F) {k : Nat} (hk : k < n) (h63 : n ≤ 1099511627776) (ty : TypeId) : ∃ w', (Builtin.delete_ #[63, 3] ty #[.map (some b), .int .i64 (k : Int)]).run Try.prog w = .ok (.tuple #[]) w' ∧ FltAt w' b n (updF F k Flt.z) ∧ Kept (fun j => j < w.heap.size ∧ j ≠ b) w w' := by
  obtain ⟨D, h1, h2, h3⟩ := h
  obtain ⟨w', hr, ho, hm⟩ := h1.drop flt_law Try.underlying63 (flt_key (k := k) (by omega)) ty
  have hk' : ∀ kl, Maps.has (D.del (.int .i64 (k : Int))) kl = true → ∃ k : Nat, k < n ∧ kl = .int .i64 (k : Int) := fun kl hkl' => by
    by_cases e : kl = .int .i64 (k : Int)
    · exact ⟨k, hk, e⟩
    · rw [Maps.has_del_other e] at hkl'
      exact h2 kl hkl'
  refine ⟨w', hr, ⟨_, tight ho hk', hk', fun j hj => ?_⟩, Kept.grown hm.grown (fun _ h => h.1) (fun j e hj => by cases e; exact hj.2 rfl)⟩
  unfold updF
  by_cases e : j = k
  · rw [if_pos e, e, Maps.atKey_del_same]
  · rw [if_neg e, Maps.atKey_del_other (key_ne e), h3 j hj]
end FltAt

/-! At the operation. -/
theorem wpList_put_flt (w : World) {ops : Array Oper} {rest : List Oper} {o : Oper} {a : Act} {Q : Exit → Act → World → Prop} (hg : o.guard = none) (m x v : Operand) (hop : o.op = Op.mapUpdate 63 m x v)
    (b n k : Nat) (F : Nat → Flt) (d : Flt) (hm : a.eval m = .map (some b)) (h : FltAt w b n F) (hk : k < n) (h63 : n ≤ 1099511627776) (hx : a.eval x = .int .i64 (k : Int)) (hv : a.eval v = d.v)
    (hK : ∀ w', FltAt w' b n (updF F k d) → Kept (fun j => j < w.heap.size ∧ j ≠ b) w w' → wpList Try.prog ops Q rest (a.put o.dst undef) w') : wpList Try.prog ops Q (o :: rest) a w := by
  refine wpList_plain hg fun K' hK' => ?_
  obtain ⟨w', hrun, r1, r2⟩ := h.put hk h63 d
  unfold Oper.wp
  simp [execOp, hop, hm, hx, hv, hrun, Result.andThen]
  exact hK' _ _ (hK w' r1 r2)
theorem wpList_del_flt (w : World) {ops : Array Oper} {rest : List Oper} {o : Oper} {a : Act} {Q : Exit → Act → World → Prop} (hg : o.guard = none) (m x : Operand) (hop : o.op = Op.call { callee := Callee.builtin Builtin.delete, args := #[m, x], argTypes := #[63, 3] })
    (b n k : Nat) (F : Nat → Flt) (hm : a.eval m = .map (some b)) (h : FltAt w b n F) (hk : k < n) (h63 : n ≤ 1099511627776) (hx : a.eval x = .int .i64 (k : Int))
    (hK : ∀ w', FltAt w' b n (updF F k Flt.z) → Kept (fun j => j < w.heap.size ∧ j ≠ b) w w' → wpList Try.prog ops Q rest (a.put o.dst (.tuple #[])) w') : wpList Try.prog ops Q (o :: rest) a w := by
  refine wpList_plain hg fun K' hK' => ?_
  obtain ⟨w', hrun, r1, r2⟩ := h.del hk h63 o.type
  unfold Oper.wp
  simp [execOp, hop, resolve, invoke, builtin, hm, hx, hrun, Result.andThen]
  exact hK' _ _ (hK w' r1 r2)
end Go.Proofs.Ytooamkicmmgniaa
