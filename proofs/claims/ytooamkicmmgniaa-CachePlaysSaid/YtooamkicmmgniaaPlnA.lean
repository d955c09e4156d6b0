/- The law's plain cache, first part: its state; find. -/
import Derived.Test.YtooamkicmmgniaaCleanP
namespace Go.Proofs.Ytooamkicmmgniaa
set_option linter.unusedVariables false
set_option maxRecDepth 100000
open Go.RowKit Go.ChangeShapes Go.WideShapes

/-- Block gd holds slices of the slots' bytes; these lie in blocks from z on. -/
def DataAt (w : World) (gd n z av : Nat) (S : Nat → Option Slt) : Prop :=
  ∃ DV : Nat → Value, CellsV w gd n DV ∧ ∀ i, i < n → ∀ s, S i = some s → ∃ g, DV i = .slice (some ⟨g, 0, none⟩) 64 64 ∧ (z ≤ g ∧ g ≠ av) ∧ SlU w (some ⟨g, 0, none⟩) 64 s.G
namespace DataAt
variable {w w' : World} {gd n z av : Nat} {S : Nat → Option Slt}
theorem keptA {X : Nat → Prop} (h : DataAt w gd n z av S) (k : Kept X w w') (hb : X gd) (hz : ∀ g, z ≤ g → g ≠ av → g < w.heap.size → X g) {q : Nat} (hq : q = av ∨ w.heap.size ≤ q) : DataAt w' gd n z q S := by
  obtain ⟨DV, h1, h2⟩ := h
  refine ⟨DV, h1.kept k hb, fun i hi s hs => ?_⟩
  obtain ⟨g, h3, h4, h5⟩ := h2 i hi s hs
  obtain ⟨g', o, e1, e2, _⟩ := h5 (by omega)
  cases e1
  exact ⟨g, h3, ⟨h4.1, by have := h4.2; omega⟩, h5.kept k fun a _ ha => by cases ha; exact hz _ h4.1 h4.2 e2⟩
theorem kept {X : Nat → Prop} (h : DataAt w gd n z av S) (k : Kept X w w') (hb : X gd) (hz : ∀ g, z ≤ g → g ≠ av → g < w.heap.size → X g) : DataAt w' gd n z av S := h.keptA k hb hz (.inl rfl)
theorem reav (h : DataAt w gd n z av S) {q : Nat} (hq : w.heap.size ≤ q ∨ q < z) : DataAt w gd n z q S := by
  obtain ⟨DV, h1, h2⟩ := h
  refine ⟨DV, h1, fun i hi s hs => ?_⟩
  obtain ⟨g, h3, h4, h5⟩ := h2 i hi s hs
  obtain ⟨g', o, e1, e2, _⟩ := h5 (by omega)
  cases e1
  exact ⟨g, h3, ⟨h4.1, by omega⟩, h5⟩
/-- The same bytes, fewer slots. -/
theorem sub (h : DataAt w gd n z av S) {T : Nat → Option Slt} (hT : ∀ i t, T i = some t → ∃ s, S i = some s ∧ t.G = s.G) : DataAt w gd n z av T := by
  obtain ⟨DV, h1, h2⟩ := h
  refine ⟨DV, h1, fun i hi t ht => ?_⟩
  obtain ⟨s, hs, e⟩ := hT i t ht
  obtain ⟨g, h3, h4, h5⟩ := h2 i hi s hs
  exact ⟨g, h3, h4, by rw [e]; exact h5⟩
theorem lt (h : DataAt w gd n z av S) : gd < w.heap.size := by obtain ⟨_, h1, _⟩ := h; exact h1.lt
end DataAt

/-- The law's plain cache and its disk. -/
structure PnAt (w : World) (z0 z av q gp gk gd db dm : Nat) (p : Option Addr) (cd N : Nat) (c : Cch) (d : Dsk) : Prop where
  blk : w.heap[q]? = some (.cells #[.pointer (some ⟨db, 0, none⟩), .slice (some ⟨gp, 0, none⟩) c.n c.n, .slice (some ⟨gk, 0, none⟩) c.n c.n, .slice (some ⟨gd, 0, none⟩) c.n c.n, .int .i64 (c.hand : Int), .int .i64 (c.rt : Int), .int .i64 c.h, .int .i64 c.m, .int .i64 c.t, .int .i64 c.l] 39 (0, 0))
  num : 0 < c.n ∧ c.n ≤ 1024 ∧ c.rt ≤ 8 ∧ c.hand < c.n ∧ N ≤ 65536
  pages : CellsAt w gp c.n (pgV c.S)
  marks : CellsV w gk c.n (fun i => .bool (mkS c.S i))
  data : DataAt w gd c.n z av c.S
  uq : uniq c.n c.S
  pgs : ∀ i, i < c.n → ∀ s, c.S i = some s → s.p < N
  rng : (z0 ≤ q ∧ q < z) ∧ (z0 ≤ gp ∧ gp < z) ∧ (z0 ≤ gk ∧ gk < z) ∧ (z0 ≤ gd ∧ gd < z) ∧ q ≠ gp ∧ q ≠ gk ∧ q ≠ gd ∧ gp ≠ gk ∧ gp ≠ gd ∧ gk ≠ gd
  dk : DkAt w db dm p cd d
  nN : d.N = N
  lo : db < z0 ∧ dm < z0 ∧ ∀ a, 0 < N → p = some a → a.block < z0
  hi : z ≤ w.heap.size
/-- All blocks but those that the plain cache and its disk write. -/
def butP (w : World) (q gp gk gd db dm : Nat) : Nat → Prop := fun k => k < w.heap.size ∧ k ≠ q ∧ k ≠ gp ∧ k ≠ gk ∧ k ≠ gd ∧ k ≠ db ∧ k ≠ dm
namespace PnAt
variable {w w' : World} {z0 z av q gp gk gd db dm cd N : Nat} {p : Option Addr} {c : Cch} {d : Dsk}
theorem ltq (h : PnAt w z0 z av q gp gk gd db dm p cd N c d) : q < w.heap.size := lt_of_block h.blk
theorem keptA {X : Nat → Prop} (h : PnAt w z0 z av q gp gk gd db dm p cd N c d) (k : Kept X w w') (hX : ∀ x, x < w.heap.size → x = q ∨ x = gp ∨ x = gk ∨ x = gd ∨ x = db ∨ x = dm ∨ x < z0 ∨ (z ≤ x ∧ x ≠ av) → X x) {av' : Nat} (ha : av' = av ∨ w.heap.size ≤ av') : PnAt w' z0 z av' q gp gk gd db dm p cd N c d := by
  refine ⟨(k.block q (hX _ h.ltq (by simp))).trans h.blk, h.num, h.pages.kept k (hX _ h.pages.lt (by simp)), h.marks.kept k (hX _ h.marks.lt (by simp)), h.data.keptA k (hX _ h.data.lt (by simp)) (fun g h1 h1' h2 => hX g h2 (by simp [h1, h1'])) ha, h.uq, h.pgs, h.rng,
    h.dk.kept k (hX _ h.dk.ltb (by simp)) (hX _ h.dk.map.lt (by simp)) fun a hn ha => hX _ (h.dk.plt a hn ha) ?_, h.nN, h.lo, Nat.le_trans h.hi k.size⟩
  have := h.lo.2.2 a (by rw [← h.nN]; exact hn) ha
  simp [this]
theorem kept {X : Nat → Prop} (h : PnAt w z0 z av q gp gk gd db dm p cd N c d) (k : Kept X w w') (hX : ∀ x, x < w.heap.size → x = q ∨ x = gp ∨ x = gk ∨ x = gd ∨ x = db ∨ x = dm ∨ x < z0 ∨ (z ≤ x ∧ x ≠ av) → X x) : PnAt w' z0 z av q gp gk gd db dm p cd N c d := h.keptA k hX (.inl rfl)
theorem old (h : PnAt w z0 z av q gp gk gd db dm p cd N c d) (k : Old w w') : PnAt w' z0 z av q gp gk gd db dm p cd N c d := h.kept k fun _ hx _ => hx
theorem reav (h : PnAt w z0 z av q gp gk gd db dm p cd N c d) {x : Nat} (hx : w.heap.size ≤ x ∨ x < z) : PnAt w z0 z x q gp gk gd db dm p cd N c d := ⟨h.blk, h.num, h.pages, h.marks, h.data.reav hx, h.uq, h.pgs, h.rng, h.dk, h.nN, h.lo, h.hi⟩
theorem cells (h : PnAt w z0 z av q gp gk gd db dm p cd N c d) : w.cell? ⟨q, 0, none⟩ = some (.pointer (some ⟨db, 0, none⟩)) ∧ w.cell? ⟨q, 1, none⟩ = some (.slice (some ⟨gp, 0, none⟩) c.n c.n) ∧ w.cell? ⟨q, 2, none⟩ = some (.slice (some ⟨gk, 0, none⟩) c.n c.n) ∧ w.cell? ⟨q, 3, none⟩ = some (.slice (some ⟨gd, 0, none⟩) c.n c.n) ∧
    w.cell? ⟨q, 4, none⟩ = some (.int .i64 (c.hand : Int)) ∧ w.cell? ⟨q, 5, none⟩ = some (.int .i64 (c.rt : Int)) ∧ w.cell? ⟨q, 6, none⟩ = some (.int .i64 c.h) ∧ w.cell? ⟨q, 7, none⟩ = some (.int .i64 c.m) ∧ w.cell? ⟨q, 8, none⟩ = some (.int .i64 c.t) ∧ w.cell? ⟨q, 9, none⟩ = some (.int .i64 c.l) := by
  have := h.blk
  simp [World.cell?, this]
theorem frz (h : PnAt w z0 z av q gp gk gd db dm p cd N c d) (o : Nat) : w.frozen? ⟨q, o, none⟩ = false := by
  have := h.blk
  simp [World.frozen?, this]
/-- A number of the struct's, anew. -/
theorem stat (h : PnAt w z0 z av q gp gk gd db dm p cd N c d) (o : Nat) (v : Value) (hand' : Nat) (h' m' t' l' : Int) (hh : hand' < c.n)
    (e : (#[.pointer (some ⟨db, 0, none⟩), .slice (some ⟨gp, 0, none⟩) c.n c.n, .slice (some ⟨gk, 0, none⟩) c.n c.n, .slice (some ⟨gd, 0, none⟩) c.n c.n, .int .i64 (c.hand : Int), .int .i64 (c.rt : Int), .int .i64 c.h, .int .i64 c.m, .int .i64 c.t, .int .i64 c.l] : Array Value).setIfInBounds o v =
      #[.pointer (some ⟨db, 0, none⟩), .slice (some ⟨gp, 0, none⟩) c.n c.n, .slice (some ⟨gk, 0, none⟩) c.n c.n, .slice (some ⟨gd, 0, none⟩) c.n c.n, .int .i64 (hand' : Int), .int .i64 (c.rt : Int), .int .i64 h', .int .i64 m', .int .i64 t', .int .i64 l']) :
    PnAt (w.setCell ⟨q, o, none⟩ v) z0 z av q gp gk gd db dm p cd N { c with h := h', m := m', t := t', l := l', hand := hand' } d := by
  have k : Kept (fun j => j ≠ q) w (w.setCell ⟨q, o, none⟩ v) := Kept.setCell w (a := ⟨q, o, none⟩) (fun e => e rfl) _
  have hr := h.rng
  have hl := h.lo
  exact ⟨by rw [heap_setCell_at h.blk, e], ⟨h.num.1, h.num.2.1, h.num.2.2.1, hh, h.num.2.2.2.2⟩, h.pages.kept k (by omega), h.marks.kept k (by omega), h.data.kept k (by omega) fun g hg _ _ => by omega, h.uq, h.pgs, hr, h.dk.kept k (by omega) (by omega) (fun a hn ha => by have := hl.2.2 a (by rw [← h.nN]; exact hn) ha; omega), h.nN, hl, Nat.le_trans h.hi k.size⟩
/-- The disk is another. -/
theorem disk (h : PnAt w z0 z av q gp gk gd db dm p cd N c d) {d' : Dsk} (k : Kept (butD w db dm) w w') (hd : DkAt w' db dm p cd d') (hN : d'.N = N) : PnAt w' z0 z av q gp gk gd db dm p cd N c d' := by
  have hr := h.rng
  have hl := h.lo
  exact ⟨(k.block q ⟨h.ltq, by omega, by omega⟩).trans h.blk, h.num, h.pages.kept k ⟨h.pages.lt, by omega, by omega⟩, h.marks.kept k ⟨h.marks.lt, by omega, by omega⟩, h.data.kept k ⟨h.data.lt, by omega, by omega⟩ fun g h1 _ h2 => ⟨h2, by omega, by omega⟩, h.uq, h.pgs, hr, hd, hN, hl, Nat.le_trans h.hi k.size⟩
end PnAt
theorem pgV_eq {S : Nat → Option Slt} {i k : Nat} : pgV S i = (k : Int) ↔ ∃ s, S i = some s ∧ s.p = k := by
  unfold pgV
  cases S i with
  | none => simp
  | some s => simp; omega
/-- What find tells. -/
def FndR (S : Nat → Option Slt) (n : Nat) (page r : Int) : Prop := (∃ i : Nat, i < n ∧ r = i ∧ pgV S i = page) ∨ (r = -1 ∧ ∀ j, j < n → pgV S j ≠ page)
theorem FndR.nat {S : Nat → Option Slt} {n k : Nat} {r : Int} (hu : uniq n S) (h : FndR S n (k : Int) r) : (∃ i : Nat, r = i ∧ fnd S k n = some i) ∨ (r = -1 ∧ fnd S k n = none) := by
  rcases h with ⟨i, h1, h2, h3⟩ | ⟨h1, h2⟩
  · obtain ⟨s, h4, h5⟩ := pgV_eq.1 h3
    exact .inl ⟨i, h2, (fnd_eq hu).2 ⟨h1, s, h4, h5⟩⟩
  · refine .inr ⟨h1, ?_⟩
    cases hf : fnd S k n with
    | none => rfl
    | some i =>
      obtain ⟨h3, h4⟩ := (fnd_eq hu).1 hf
      exact absurd (pgV_eq.2 h4) (h2 i h3)
theorem lawFind_any (z0 z av q gp gk gd db dm : Nat) (p : Option Addr) (cd N : Nat) (page : Int) (c : Cch) (d : Dsk) (w : World) (h : PnAt w z0 z av q gp gk gd db dm p cd N c d) : Calls Try.prog 34 #[.pointer (some ⟨q, 0, none⟩), .int .i64 page] w fun e w' =>
    ∃ r, e = .returned (.int .i64 r) ∧ FndR c.S c.n page r ∧ w = w' := by
  obtain ⟨_, c1, _⟩ := h.cells
  have hn2 := h.num.2.1
  have HP := Lib.hid h.pages
  obtain ⟨n, hn⟩ : ∃ n, n = c.n := ⟨_, rfl⟩
  rw [← hn] at c1 hn2 HP ⊢
  generalize c.S = S at *
  clear h hn
  go_enter Try.func34, Try.ntmps34
  go_wp2_with fail
  have H0 : Hid (∀ j, j < 0 → pgV S j ≠ page) := Lib.hid fun j hj => absurd hj (by omega)
  go_loopw [5] (fun iv wr => ∃ k : Nat, k ≤ n ∧ iv = .int .i64 k ∧ wr = w ∧ Hid (∀ j, j < k → pgV S j ≠ page)) (fun i _ => n - (intOf i).toNat)
  case atStart => exact ⟨0, by omega, rfl, rfl, H0⟩
  case round =>
    obtain ⟨k, hk, rfl, rfl, HR⟩ := hrel
    clear H0
    by_cases hlt : k < n
    · have ck := HP.out.cell k hlt
      obtain ⟨x, hx⟩ : ∃ x, x = pgV S k := ⟨_, rfl⟩
      rw [← hx] at ck
      have HX := Lib.hid hx
      by_cases he : x = page
      · have he2 : (x == page) = true := by simp [he]
        clear hx
        subst he
        go_wp2_with fail
        go_ret
        exact ⟨_, rfl, .inl ⟨k, hlt, rfl, HX.out.symm⟩, rfl⟩
      · have he2 : (x == page) = false := by simp [he]
        have HN : Hid (∀ j, j < k + 1 → pgV S j ≠ page) := Lib.hid fun j hj => by
          by_cases e : j = k
          · rw [e, ← hx]; exact he
          · exact HR.out j (by omega)
        clear hx he
        go_wp2_with fail
        go_roundw
        case rel => exact ⟨k + 1, by omega, by go_num, trivial, HN⟩
        case measure => simp [intOf]; omega
    · obtain rfl : k = n := by omega
      have HE := Lib.hid HR.out
      clear HR
      go_wp2_with fail
      go_ret
      exact ⟨_, rfl, .inr ⟨rfl, HE.out⟩, rfl⟩
end Go.Proofs.Ytooamkicmmgniaa
