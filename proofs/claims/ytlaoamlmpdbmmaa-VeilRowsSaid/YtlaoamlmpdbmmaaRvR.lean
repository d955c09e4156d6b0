/- Rows of pointers to frames, and of pieces, that grow beside a veil; a law's argument of bools. -/
import Derived.Test.YtlaoamlmpdbmmaaVeilC
import Derived.Test.YtlaoamlmpdbmmaaFrsArg
import Derived.ChangeArms
namespace Go.Proofs.Ytlaoamlmpdbmmaa
set_option linter.unusedVariables false
set_option maxRecDepth 100000
open Go.RowKit Go.ChangeShapes Go.WideShapes

theorem ownS.blk {X : Nat → Prop} {w : World} {e : TypeId} {s n : Nat} {v : Value} {xs : List Value} (h : ownS X w e s v n xs) : ∀ q, v.ownBlock = some q → ∃ cs, w.heap[q]? = some (.cells cs e (0, 0)) := by
  intro q hq
  rcases h.1.2 with ⟨rfl, _⟩ | ⟨g, cap, cur, rfl, _, hg, _⟩
  · cases hq
  · have e1 : g = q := by simpa [Value.ownBlock] using hq
    subst e1
    exact ⟨cur, hg⟩
theorem ownX.blk {X : Nat → Prop} {w : World} {e : TypeId} {n : Nat} {v : Value} {xs : List Value} (h : ownX X w e v n xs) : ∀ q, v.ownBlock = some q → ∃ cs, w.heap[q]? = some (.cells cs e (0, 0)) := by
  intro q hq
  rcases h.1.2 with ⟨rfl, _⟩ | ⟨g, cap, cur, rfl, _, hg, _⟩
  · cases hq
  · have e1 : g = q := by simpa [Value.ownBlock] using hq
    subst e1
    exact ⟨cur, hg⟩
/-- At most 5 tones. -/
def fewS : Value → Value
  | .slice p n c => .slice p (min n 5) c
  | v => v
def fewX (x : Fr) : Fr := ⟨x.F, fewS x.s, min x.n 5, x.T⟩
theorem ToV.few {X : Nat → Prop} {w : World} {x : Fr} (h : ToV X w x) : ToV X w (fewX x) := by
  obtain ⟨p, c, h1, h2, h3, h4, h5⟩ := h
  refine ⟨p, c, ?_, ?_, h3, slF_less h4 (Nat.min_le_left _ _), fun hn => h5 ?_⟩
  · show fewS x.s = _
    rw [h1]
    rfl
  · have := Nat.min_le_left x.n 5
    show min x.n 5 ≤ c
    omega
  · have hn' : 0 < min x.n 5 := hn
    omega
/-- Which frames of a row come, and which are lost. -/
def rvX (L : Nat → Fr) (B : Nat → Bool) (nb i : Nat) : Option Fr := if (i < nb ∧ B i = true) ∨ ¬ FrP (fewX (L i)).F (fewX (L i)).n (fewX (L i)).T then none else some (fewX (L i))
/-- What one pointer's box holds. -/
def PtB (w : World) (u : Value) : Option Fr → Prop
  | none => u = .pointer none
  | some x => ∃ fb, u = .pointer (some ⟨fb, 0, none⟩) ∧ FrB 33 w fb x.F x.s
theorem PtB.kept {Y : Nat → Prop} {w w' : World} {u : Value} {x : Option Fr} (h : PtB w u x) (k : Kept Y w w') (hY : ∀ q cs, w.heap[q]? = some (.cells cs 33 (0, 0)) → Y q) : PtB w' u x := by
  cases x with
  | none => exact h
  | some x => obtain ⟨fb, h1, h2⟩ := h; exact ⟨fb, h1, h2.kept k (hY _ _ h2)⟩
theorem PtB.old {w w' : World} {u : Value} {x : Option Fr} (h : PtB w u x) (k : Old w w') : PtB w' u x := h.kept k fun _ _ hq => lt_of_block hq
theorem RwR.kept {w vw w' : World} {vb k : Nat} {X : Nat → Option Fr} {v : Value} {Y : Nat → Prop} (h : RwR w vb k X v vw) (hk : Kept Y vw w') (h1 : ∀ q, v.ownBlock = some q → Y q) (h2 : Y vb) (h3 : ∀ q, q < w.heap.size → Y q) : RwR w vb k X v w' :=
  ⟨h.own.kept hk h1, h.vl.kept hk h2, h.old.after hk h3, h.nv⟩
structure RvR (w : World) (vb kp kv : Nat) (X : Nat → Option Fr) (U : Nat → Value) (v5 v6 : Value) (wr : World) : Prop where
  pt : ownX (fun q => q < w.heap.size) wr 49 v5 kp ((List.range kp).map U)
  rw : RwR w vb kv X v6 wr
  bx : ∀ i, i < kp → PtB wr (U i) (X i)
theorem RvR.keep {w wr w' : World} {vb kp kv : Nat} {X : Nat → Option Fr} {U : Nat → Value} {v5 v6 : Value} (h : RvR w vb kp kv X U v5 v6 wr) (k : Old wr w') : RvR w vb kp kv X U v5 v6 w' :=
  ⟨h.pt.old k, h.rw.kept k (fun q hq => h.rw.own.lt q hq) h.rw.vl.lt (fun q hq => Nat.lt_of_lt_of_le hq h.rw.old.size), fun i hi => (h.bx i hi).old k⟩
theorem RvR.addP {w wr w3 : World} {vb kp kv : Nat} {X : Nat → Option Fr} {U : Nat → Value} {v5 v6 v' u : Value} (h : RvR w vb kp kv X U v5 v6 wr) (hu : PtB wr u (X kp))
    (hown : ownX (but wr v5) w3 49 v' (kp + 1) ((List.range kp).map U ++ [u])) (hK : Kept (but wr v5) wr w3) (hv : ∀ q, v'.ownBlock = some q → v5.ownBlock = some q ∨ wr.heap.size ≤ q) : RvR w vb (kp + 1) kv X (fun i => if i = kp then u else U i) v' v6 w3 := by
  have hbut : ∀ q cs t, wr.heap[q]? = some (.cells cs t (0, 0)) → 49 ≠ t → but wr v5 q := fun q cs t hq hne => ⟨lt_of_block hq, fun e => own_notX h.pt hq hne q e rfl⟩
  refine ⟨?_, h.rw.kept hK (fun q hq => ?_) (hbut _ _ _ h.rw.vl.heap (by decide)) (fun q hq => ⟨Nat.lt_of_lt_of_le hq h.rw.old.size, fun e => h.pt.2 q e hq⟩), fun i hi => ?_⟩
  · have e1 : (List.range (kp + 1)).map (fun i => if i = kp then u else U i) = (List.range kp).map U ++ [u] := by
      rw [List.range_succ, List.map_append, List.map_cons, List.map_nil, if_pos rfl]
      congr 1
      exact List.map_congr_left fun i hi => by rw [if_neg (by have := List.mem_range.1 hi; omega)]
    rw [e1]
    refine ⟨hown.1, fun q hq hlt => ?_⟩
    rcases hv q hq with h1 | h1
    · exact h.pt.2 q h1 hlt
    · have := h.rw.old.size
      omega
  · obtain ⟨cs, hq2⟩ := h.rw.own.blk q hq
    exact hbut _ _ _ hq2 (by decide)
  · show PtB w3 (if i = kp then u else U i) (X i)
    by_cases e : i = kp
    · subst e
      rw [if_pos rfl]
      exact hu.kept hK fun q cs hq => hbut q cs _ hq (by decide)
    · rw [if_neg e]
      exact (h.bx i (by omega)).kept hK fun q cs hq => hbut q cs _ hq (by decide)
theorem RvR.addV {w wr W1 w3 : World} {vb kp kv l : Nat} {X : Nat → Option Fr} {U : Nat → Value} {v5 v6 v' : Value} {P : Nat → Int} {o : Obj} (h : RvR w vb kp kv X U v5 v6 wr) (hl : l = (rwP X (kv + 1)).2) (hP : P = (rwP X (kv + 1)).1) (hk : Kept (butOf wr vb) wr W1) (hb : VlB W1 vb P l)
    (hown : ownS (but (W1.alloc o) v6) w3 28 20 v' (kv + 1) (rowL (kv * 20) (rwR X) ++ rowL 20 (rwA X kv))) (hK : Kept (but (W1.alloc o) v6) (W1.alloc o) w3) (hv : ∀ q, v'.ownBlock = some q → v6.ownBlock = some q ∨ (W1.alloc o).heap.size ≤ q) : RvR w vb kp (kv + 1) X U v5 v' w3 := by
  have s1 : ∀ q cs t, wr.heap[q]? = some (.cells cs t (0, 0)) → 30 ≠ t → butOf wr vb q := fun q cs t hq hne => ⟨lt_of_block hq, fun e => by
    subst e
    rw [h.rw.vl.heap] at hq
    simp only [Option.some.injEq, Obj.cells.injEq] at hq
    exact hne hq.2.1⟩
  have own1 : ownS (fun q => q < w.heap.size) W1 28 20 v6 kv (rowL (kv * 20) (rwR X)) := h.rw.own.kept hk fun q hq => by
    obtain ⟨cs, hq2⟩ := h.rw.own.blk q hq
    exact s1 _ _ _ hq2 (by decide)
  have s2 : ∀ q cs t, W1.heap[q]? = some (.cells cs t (0, 0)) → 28 ≠ t → but (W1.alloc o) v6 q := fun q cs t hq hne => ⟨Nat.lt_of_lt_of_le (lt_of_block hq) (Old.alloc W1 o).size, fun e => own_not own1 hq hne q e rfl⟩
  refine ⟨?_, h.rw.add hl hP hk hb hown hK hv, fun i hi => ?_⟩
  · have p1 : ownX (fun q => q < w.heap.size) W1 49 v5 kp ((List.range kp).map U) := h.pt.kept hk fun q hq => by
      obtain ⟨cs, hq2⟩ := h.pt.blk q hq
      exact s1 _ _ _ hq2 (by decide)
    refine (p1.old (Old.alloc W1 o)).kept hK fun q hq => ?_
    obtain ⟨cs, hq2⟩ := p1.blk q hq
    exact s2 _ _ _ hq2 (by decide)
  · have b1 := (h.bx i hi).kept hk fun q cs hq => s1 q cs _ hq (by decide)
    refine (b1.old (Old.alloc W1 o)).kept hK fun q cs hq => ?_
    by_cases hlt : q < W1.heap.size
    · rw [(Old.alloc W1 o).block q hlt] at hq
      exact s2 _ _ _ hq (by decide)
    · exact ⟨lt_of_block hq, fun e => hlt (own1.lt q e)⟩
/-- The row of pointers, as Row reads it. -/
theorem RvR.ptr {w wr : World} {vb n kv : Nat} {X : Nat → Option Fr} {U : Nat → Value} {v5 v6 : Value} (h : RvR w vb n kv X U v5 v6 wr) (ht : ∀ i x, i < n → X i = some x → ToV (fun _ => False) w x ∧ FrP x.F x.n x.T) : ∃ q c, v5 = .slice q n c ∧ PtrS wr q n X := by
  have one : ∀ i, i < n → PtrA wr (U i) (X i) := fun i hi => by
    have hb := h.bx i hi
    cases hx : X i with
    | none => rw [hx] at hb; exact hb
    | some x =>
      rw [hx] at hb
      obtain ⟨fb, h1, h2⟩ := hb
      obtain ⟨h3, h4⟩ := ht i x hi hx
      exact ⟨fb, h1, h2, h3.old h.rw.old, h4⟩
  rcases h.pt.shape with ⟨h1, h2⟩ | ⟨g, c, h1, _, hg, hn, hc, hcell⟩
  · subst h2
    exact ⟨none, 0, h1, fun h => absurd h (by omega)⟩
  · exact ⟨some ⟨g, 0, none⟩, c, h1, fun _ => ⟨g, 0, rfl, hg, fun i hi => ⟨U i, by rw [Nat.zero_add]; exact hcell i _ (by simp [hi]), one i hi⟩⟩⟩

/-- Bools, to be read. -/
def SlB (w : World) (p : Option Addr) (n : Nat) (B : Nat → Bool) : Prop := 0 < n → ∃ g o, p = some ⟨g, o, none⟩ ∧ g < w.heap.size ∧ ∀ i, i < n → w.cell? ⟨g, o + i, none⟩ = some (.bool (B i))
theorem SlB.old {w w' : World} {p : Option Addr} {n : Nat} {B : Nat → Bool} (h : SlB w p n B) (k : Old w w') : SlB w' p n B := fun hn => by
  obtain ⟨g, o, h1, h2, h3⟩ := h hn
  exact ⟨g, o, h1, Nat.lt_of_lt_of_le h2 k.size, fun i hi => (k.cell (a := ⟨g, o + i, none⟩) h2).trans (h3 i hi)⟩
open Go.Deep in
theorem open_bools {H : Type} {enc : TypeId × Value → H} {W : World} {base : Nat} {v : Value} {d : DataW H} {p : List MemPlace}
    (hv : Value.okWide Try.prog W .any base 46 v) (h : DataW.Trod enc Try.prog W 0 (fun _ => true) true 46 v d p) (hlt : ∀ x ∈ p, x.block < W.heap.size) :
    ∃ q n cap B, v = .slice q n cap ∧ n ≤ cap ∧ cap ≤ maxLen ∧ SlB W q n B := by
  obtain ⟨a0, len, cap, rfl⟩ := okWide_slice Try.underlying46 hv
  obtain ⟨fuel, hf⟩ := h
  have c1 : Try.prog.cellsOf 4 = 1 := by kernel_rfl
  rcases open_slice Try.underlying46 hf with ⟨hcs, _⟩ | ⟨a, len', cap', m, k, D, Pl, hcs, _, hl, hm, hmm, hx, hi⟩
  · simp [Value.cells] at hcs
    obtain ⟨rfl, rfl, rfl⟩ := hcs
    exact ⟨none, 0, 0, fun _ => false, rfl, Nat.le_refl _, Nat.zero_le _, fun h => absurd h (by omega)⟩
  · simp [Value.cells] at hcs
    obtain ⟨rfl, rfl, rfl⟩ := hcs
    simp only [if_true] at hmm
    subst hmm
    have one : ∀ i, i < m → ∃ b : Bool, W.cell? (a.add i) = some (.bool b) := by
      intro i him
      obtain ⟨cs, hc, hd⟩ := hi i him
      rw [c1, Nat.mul_one] at hc
      obtain ⟨b, rfl, _⟩ := DataW.trod_bool Try.underlying4 hd
      obtain ⟨_, _, hat⟩ := World.cells?_some hc
      have := hat 0 (by simp)
      rw [Go.Deep.add_add, Nat.add_zero] at this
      exact ⟨b, by rw [this]; rfl⟩
    refine ⟨some a, len, m, fun i => if h : i < m then (one i h).choose else false, rfl, hl, hm, fun hn => ?_⟩
    obtain ⟨b0, h0⟩ := one 0 (by omega)
    obtain ⟨b, off, rfl, hb⟩ := spot_none h0
    refine ⟨b, off, rfl, hb, fun i hin => ?_⟩
    dsimp only
    rw [dif_pos (show i < m by omega), ← add_plain]
    exact (one i (by omega)).choose_spec
end Go.Proofs.Ytlaoamlmpdbmmaa
