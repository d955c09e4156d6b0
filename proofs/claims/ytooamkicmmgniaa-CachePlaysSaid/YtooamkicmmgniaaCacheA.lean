/- Package cache, first part: a cache's state; isMade; what nobody's says. -/
import Derived.Test.YtooamkicmmgniaaCacheP
import Derived.Test.YtooamkicmmgniaaHeldM
namespace Go.Proofs.Ytooamkicmmgniaa
set_option linter.unusedVariables false
set_option maxRecDepth 100000
open Go.RowKit Go.ChangeShapes Go.WideShapes

/-- A slot's cells: the page, its bytes (in block g), the mark. -/
def cellS (s : Option Slt) (g : Nat) : Nat → Value
  | 0 => match s with | some s => .int .i64 (s.p : Int) | none => .int .i64 0
  | 1 => match s with | some _ => .slice (some ⟨g, 0, none⟩) 64 64 | none => .slice none 0 0
  | _ => match s with | some s => .bool s.m | none => .bool false
def slV (S : Nat → Option Slt) (gs : Nat → Nat) : Nat → Value := fun j => cellS (S (j / 3)) (gs (j / 3)) (j % 3)
/-- Block sb holds the slots; their bytes lie in blocks from z on. -/
def SlotsAt (w : World) (sb n z av : Nat) (S : Nat → Option Slt) : Prop :=
  ∃ gs : Nat → Nat, CellsV w sb (3 * n) (slV S gs) ∧ ∀ i, i < n → ∀ s, S i = some s → (z ≤ gs i ∧ gs i ≠ av) ∧ SlU w (some ⟨gs i, 0, none⟩) 64 s.G
namespace SlotsAt
variable {w w' : World} {sb n z av : Nat} {S : Nat → Option Slt}
theorem lt (h : SlotsAt w sb n z av S) : sb < w.heap.size := by obtain ⟨gs, h1, _⟩ := h; exact h1.lt
theorem kept {X : Nat → Prop} (h : SlotsAt w sb n z av S) (k : Kept X w w') (hb : X sb) (hz : ∀ g, z ≤ g → g ≠ av → g < w.heap.size → X g) : SlotsAt w' sb n z av S := by
  obtain ⟨gs, h1, h2⟩ := h
  refine ⟨gs, h1.kept k hb, fun i hi s hs => ?_⟩
  obtain ⟨h3, h4⟩ := h2 i hi s hs
  refine ⟨h3, h4.kept k fun a _ ha => ?_⟩
  cases ha
  obtain ⟨g, o, e1, e2, _⟩ := h4 (by omega)
  cases e1
  exact hz _ h3.1 h3.2 e2
theorem old (h : SlotsAt w sb n z av S) (k : Old w w') : SlotsAt w' sb n z av S := h.kept k h.lt fun _ _ _ h => h
/-- Slot i's cells. -/
theorem cells (h : SlotsAt w sb n z av S) {i : Nat} (hi : i < n) : ∃ g, w.cell? ⟨sb, i * 3, none⟩ = some (cellS (S i) g 0) ∧ w.cell? ⟨sb, i * 3 + 1, none⟩ = some (cellS (S i) g 1) ∧ w.cell? ⟨sb, i * 3 + 2, none⟩ = some (cellS (S i) g 2) ∧
    w.frozen? ⟨sb, i * 3, none⟩ = false ∧ w.frozen? ⟨sb, i * 3 + 1, none⟩ = false ∧ w.frozen? ⟨sb, i * 3 + 2, none⟩ = false ∧ ∀ s, S i = some s → z ≤ g ∧ g < w.heap.size ∧ SlU w (some ⟨g, 0, none⟩) 64 s.G := by
  obtain ⟨gs, h1, h2⟩ := h
  refine ⟨gs i, ?_, ?_, ?_, h1.frz _ (by omega), h1.frz _ (by omega), h1.frz _ (by omega), fun s hs => ?_⟩
  · rw [h1.cell (i * 3) (by omega)]
    unfold slV
    rw [show i * 3 / 3 = i by omega, show i * 3 % 3 = 0 by omega]
  · rw [h1.cell (i * 3 + 1) (by omega)]
    unfold slV
    rw [show (i * 3 + 1) / 3 = i by omega, show (i * 3 + 1) % 3 = 1 by omega]
  · rw [h1.cell (i * 3 + 2) (by omega)]
    unfold slV
    rw [show (i * 3 + 2) / 3 = i by omega, show (i * 3 + 2) % 3 = 2 by omega]
  · obtain ⟨h3, h4⟩ := h2 i hi s hs
    obtain ⟨g, o, e1, e2, _⟩ := h4 (by omega)
    cases e1
    exact ⟨h3.1, e2, h4⟩
/-- A mark. -/
theorem mark (h : SlotsAt w sb n z av S) {i : Nat} (hi : i < n) {s : Slt} (hs : S i = some s) (hz : sb < z) (b : Bool) : SlotsAt (w.setCell ⟨sb, i * 3 + 2, none⟩ (.bool b)) sb n z av (setM S i b) := by
  obtain ⟨gs, h1, h2⟩ := h
  have hk : Kept (fun q => q ≠ sb) w (w.setCell ⟨sb, i * 3 + 2, none⟩ (.bool b)) := Kept.setCell w (a := ⟨sb, i * 3 + 2, none⟩) (fun e => e rfl) _
  refine ⟨gs, ⟨by have := h1.lt; simpa [World.setCell] using this, fun j hj => ?_, fun j hj => by rw [World.frozen?_setCell]; exact h1.frz j hj⟩, fun j hj t ht => ?_⟩
  · by_cases e : j = i * 3 + 2
    · subst e
      rw [World.cell?_setCell_same _ _ _ (h1.cell _ hj)]
      unfold slV
      rw [show (i * 3 + 2) / 3 = i by omega, show (i * 3 + 2) % 3 = 2 by omega]
      unfold setM updS
      rw [if_pos rfl, hs]
      rfl
    · rw [World.cell?_setCell_other _ _ _ _ (fun e' => e (by injection e' with _ e2; exact e2.symm)), h1.cell j hj]
      unfold slV setM updS
      by_cases e2 : j / 3 = i
      · rw [if_pos e2, e2, hs]
        have h3 : j % 3 = 0 ∨ j % 3 = 1 := by omega
        rcases h3 with h3 | h3 <;> rw [h3] <;> rfl
      · rw [if_neg e2]
  · obtain ⟨u, hu, e1, e2⟩ := setM_G S i b j t ht
    obtain ⟨h3, h4⟩ := h2 j hj u hu
    refine ⟨h3, ?_⟩
    rw [e1]
    exact h4.kept hk fun a _ ha => by cases ha; show gs j ≠ sb; omega
/-- A slot's three cells anew. -/
theorem setS (h : SlotsAt w sb n z av S) {i : Nat} (hi : i < n) (hz : sb < z) (s : Option Slt) (g : Nat) (hg : ∀ t, s = some t → (z ≤ g ∧ g ≠ av) ∧ SlU w (some ⟨g, 0, none⟩) 64 t.G) :
    SlotsAt (w.setCells sb (i * 3) [cellS s g 0, cellS s g 1, cellS s g 2]) sb n z av (updS S i s) := by
  obtain ⟨gs, h1, h2⟩ := h
  have e0 : [cellS s g 0, cellS s g 1, cellS s g 2] = (rowN 3 (cellS s g)).toList := rfl
  rw [e0]
  have hk : Kept (fun q => q ≠ sb) w (w.setCells sb (i * 3) (rowN 3 (cellS s g)).toList) := Kept.setCells _ (fun e => e rfl) _ _
  refine ⟨fun j => if j = i then g else gs j, CellsV.ext (h1.setCells (i * 3) 3 (by omega) (cellS s g)) fun j hj => ?_, fun j hj t ht => ?_⟩
  · unfold patchV slV updS
    by_cases e : j / 3 = i
    · rw [if_pos (show i * 3 ≤ j ∧ j < i * 3 + 3 by omega)]
      simp only [if_pos e]
      rw [show j - i * 3 = j % 3 by omega]
    · rw [if_neg (show ¬ (i * 3 ≤ j ∧ j < i * 3 + 3) by omega)]
      simp only [if_neg e]
  · unfold updS at ht
    by_cases e : j = i
    · rw [if_pos e] at ht
      simp only [if_pos e]
      obtain ⟨h3, h4⟩ := hg t ht
      exact ⟨h3, h4.kept hk fun a _ ha => by cases ha; show g ≠ sb; omega⟩
    · rw [if_neg e] at ht
      simp only [if_neg e]
      obtain ⟨h3, h4⟩ := h2 j hj t ht
      exact ⟨h3, h4.kept hk fun a _ ha => by cases ha; show gs j ≠ sb; omega⟩
/-- Another block is avoided. -/
theorem reav (h : SlotsAt w sb n z av S) {q : Nat} (hq : w.heap.size ≤ q ∨ q < z) : SlotsAt w sb n z q S := by
  obtain ⟨gs, h1, h2⟩ := h
  refine ⟨gs, h1, fun i hi s hs => ?_⟩
  obtain ⟨h3, h4⟩ := h2 i hi s hs
  obtain ⟨g, o, e1, e2, _⟩ := h4 (by omega)
  cases e1
  exact ⟨⟨h3.1, by omega⟩, h4⟩
end SlotsAt

/-- A cache: its block, its slots', its map's, its disk; which pages the disk has; its blocks lie from z0 up to z. -/
structure CcAt (w : World) (z0 z av b sb hm db N : Nat) (c : Cch) : Prop where
  blk : w.heap[b]? = some (.cells #[.int .i64 c.h, .int .i64 c.m, .int .i64 c.t, .int .i64 c.l, .pointer (some ⟨db, 0, none⟩), .int .i64 (c.rt : Int), .slice (some ⟨sb, 0, none⟩) c.n c.n, .map (some hm), .int .i64 (c.hand : Int)] 57 (0, 0))
  num : 0 < c.n ∧ c.n ≤ 1024 ∧ c.rt ≤ 8 ∧ c.hand < c.n ∧ N ≤ 65536
  slots : SlotsAt w sb c.n z av c.S
  map : HldAt w hm N (fun k => fnd c.S k c.n)
  pgs : ∀ i, i < c.n → ∀ s, c.S i = some s → s.p < N
  uq : uniq c.n c.S
  rng : (z0 ≤ b ∧ b < z) ∧ (z0 ≤ sb ∧ sb < z) ∧ (z0 ≤ hm ∧ hm < z) ∧ b ≠ sb ∧ b ≠ hm ∧ sb ≠ hm
namespace CcAt
variable {w w' : World} {z0 z av b sb hm db N : Nat} {c : Cch}
theorem ltb (h : CcAt w z0 z av b sb hm db N c) : b < w.heap.size := lt_of_block h.blk
theorem kept {X : Nat → Prop} (h : CcAt w z0 z av b sb hm db N c) (k : Kept X w w') (hb : X b) (hs : X sb) (hh : X hm) (hz : ∀ g, z ≤ g → g ≠ av → g < w.heap.size → X g) : CcAt w' z0 z av b sb hm db N c :=
  ⟨(k.block b hb).trans h.blk, h.num, h.slots.kept k hs hz, h.map.kept k hh, h.pgs, h.uq, h.rng⟩
theorem old (h : CcAt w z0 z av b sb hm db N c) (k : Old w w') : CcAt w' z0 z av b sb hm db N c := h.kept k h.ltb h.slots.lt h.map.lt fun _ _ _ h => h
theorem cells (h : CcAt w z0 z av b sb hm db N c) : w.cell? ⟨b, 0, none⟩ = some (.int .i64 c.h) ∧ w.cell? ⟨b, 1, none⟩ = some (.int .i64 c.m) ∧ w.cell? ⟨b, 2, none⟩ = some (.int .i64 c.t) ∧ w.cell? ⟨b, 3, none⟩ = some (.int .i64 c.l) ∧
    w.cell? ⟨b, 4, none⟩ = some (.pointer (some ⟨db, 0, none⟩)) ∧ w.cell? ⟨b, 5, none⟩ = some (.int .i64 (c.rt : Int)) ∧ w.cell? ⟨b, 6, none⟩ = some (.slice (some ⟨sb, 0, none⟩) c.n c.n) ∧ w.cell? ⟨b, 7, none⟩ = some (.map (some hm)) ∧ w.cell? ⟨b, 8, none⟩ = some (.int .i64 (c.hand : Int)) := by
  have := h.blk
  simp [World.cell?, this]
theorem frz (h : CcAt w z0 z av b sb hm db N c) (o : Nat) : w.frozen? ⟨b, o, none⟩ = false := by
  have := h.blk
  simp [World.frozen?, this]
theorem reav (h : CcAt w z0 z av b sb hm db N c) {q : Nat} (hq : w.heap.size ≤ q ∨ q < z) : CcAt w z0 z q b sb hm db N c := ⟨h.blk, h.num, h.slots.reav hq, h.map, h.pgs, h.uq, h.rng⟩
end CcAt

/-- Nobody's cache: nil, or one that New did not give. -/
def NoCc (w : World) (v : Value) : Prop := v = .pointer none ∨ ∃ b, v = .pointer (some ⟨b, 0, none⟩) ∧ b < w.heap.size ∧ w.cell? ⟨b, 4, none⟩ = some (.pointer none)
theorem cMade_no (v : Value) (w : World) (h : NoCc w v) : Calls Try.prog 26 #[v] w fun e w' => e = .returned (.bool false) ∧ w = w' := by
  rcases h with rfl | ⟨b, rfl, hb, hc⟩
  · go_enter Try.func26, Try.ntmps26
    go_wp2
    go_ret
    exact ⟨rfl, rfl⟩
  · go_enter Try.func26, Try.ntmps26
    go_wp2
    go_ret
    exact ⟨rfl, rfl⟩
theorem cMade_yes (b db : Nat) (w : World) (hc : w.cell? ⟨b, 4, none⟩ = some (.pointer (some ⟨db, 0, none⟩))) : Calls Try.prog 26 #[.pointer (some ⟨b, 0, none⟩)] w fun e w' => e = .returned (.bool true) ∧ w = w' := by
  go_enter Try.func26, Try.ntmps26
  go_wp2
  go_ret
  exact ⟨rfl, rfl⟩
theorem cDisk_no (v : Value) (w : World) (h : NoCc w v) : Calls Try.prog 20 #[v] w fun e w' => e = .returned (.pointer none) ∧ w = w' := by
  have H := Lib.hid (cMade_no v w h)
  clear h
  go_enter Try.func20, Try.ntmps20
  go_wp2_with fail
  refine H.out.mono ?_
  rintro e w' ⟨rfl, rfl⟩
  go_wp2
  go_ret
  exact ⟨rfl, rfl⟩
theorem cPages_no (v : Value) (w : World) (h : NoCc w v) : Calls Try.prog 13 #[v] w fun e w' => e = .returned (.slice none 0 0) ∧ w = w' := by
  have H := Lib.hid (cMade_no v w h)
  clear h
  go_enter Try.func13, Try.ntmps13
  go_wp2_with fail
  refine H.out.mono ?_
  rintro e w' ⟨rfl, rfl⟩
  go_wp2
  go_ret
  exact ⟨rfl, rfl⟩
theorem cEvict_no (v : Value) (i : Int) (w : World) (h : NoCc w v) : Calls Try.prog 14 #[v, .int .i64 i] w fun e w' => e = .returned (.bool false) ∧ w = w' := by
  have H := Lib.hid (cMade_no v w h)
  clear h
  go_enter Try.func14, Try.ntmps14
  go_wp2_with fail
  refine H.out.mono ?_
  rintro e w' ⟨rfl, rfl⟩
  go_wp2
  go_ret
  exact ⟨rfl, rfl⟩
theorem cEmpty_no (v : Value) (w : World) (h : NoCc w v) : Calls Try.prog 15 #[v] w fun e w' => e = .returned (.tuple #[]) ∧ w = w' := by
  have H := Lib.hid (cMade_no v w h)
  clear h
  go_enter Try.func15, Try.ntmps15
  go_wp2_with fail
  refine H.out.mono ?_
  rintro e w' ⟨rfl, rfl⟩
  go_wp2_with fail
  refine bodyPost_ret (results_none rfl _ _ _) rfl ?_
  exact ⟨rfl, rfl⟩
theorem cSpan_no (v : Value) (i n : Int) (w : World) (h : NoCc w v) : Calls Try.prog 16 #[v, .int .i64 i, .int .i64 n] w fun e w' => e = .returned (.tuple #[.slice none 0 0, .int .i64 16]) ∧ w = w' := by
  have H := Lib.hid (cMade_no v w h)
  clear h
  go_enter Try.func16, Try.ntmps16
  go_wp2_with fail
  refine H.out.mono ?_
  rintro e w' ⟨rfl, rfl⟩
  go_wp2
  go_ret2
  exact ⟨rfl, rfl⟩
theorem cGet_no (v : Value) (i : Int) (w : World) (h : NoCc w v) : Calls Try.prog 18 #[v, .int .i64 i] w fun e w' => e = .returned (.tuple #[.slice none 0 0, .int .i64 16]) ∧ w = w' := by
  have H := Lib.hid (cMade_no v w h)
  clear h
  go_enter Try.func18, Try.ntmps18
  go_wp2_with fail
  refine H.out.mono ?_
  rintro e w' ⟨rfl, rfl⟩
  go_wp2
  go_ret2
  exact ⟨rfl, rfl⟩
def statV (c : Cch) : Value := .agg #[.int .i64 c.h, .int .i64 c.m, .int .i64 c.t, .int .i64 c.l]
theorem cTold_no (v : Value) (w : World) (h : NoCc w v) : Calls Try.prog 11 #[v] w fun e w' => e = .returned (.agg #[.int .i64 0, .int .i64 0, .int .i64 0, .int .i64 0]) ∧ Old w w' := by
  have hn : NoCc (w.alloc (.cells #[.int .i64 0, .int .i64 0, .int .i64 0, .int .i64 0] 37)) v := by
    rcases h with rfl | ⟨b, rfl, hb, hc⟩
    · exact .inl rfl
    · exact .inr ⟨b, rfl, Nat.lt_of_lt_of_le hb (Old.alloc _ _).size, ((Old.alloc w _).cell (a := ⟨b, 4, none⟩) hb).trans hc⟩
  have H := Lib.hid (cMade_no v _ hn)
  have HO := Lib.hid (Old.alloc w (.cells #[.int .i64 0, .int .i64 0, .int .i64 0, .int .i64 0] 37))
  clear h hn
  go_enter Try.func11, Try.ntmps11
  go_wp2_with fail
  refine H.out.mono ?_
  rintro e w' ⟨rfl, rfl⟩
  go_wp2_with fail
  refine bodyPost_ret (results_cell_row rfl _ _ w.heap.size 37 _ (0, 0) _ rfl (heap_alloc_new _ _) Try.underlying37 rfl (by kernel_rfl)) rfl ?_
  exact ⟨rfl, HO.out⟩
end Go.Proofs.Ytooamkicmmgniaa
