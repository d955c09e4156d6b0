/- Package wave's contracts on lists of samples, second part: apart. (by wip/tools/exp.py of XWaveG.src) -/
import Derived.Test.YtmdninfmidmmhaaWaveF
import Derived.Test.YtmdninfmidmmhaaSampK
import Derived.Deep.RegionHeld
namespace Go.Proofs.Ytmdninfmidmmhaa
set_option linter.unusedVariables false
set_option maxRecDepth 100000
open Go.RowKit Go.ChangeShapes Go.WideShapes

/-- A sample whose channels are copied one by one: the rows' block is gc. -/
structure ApR (w W : World) (S : Smp) (z : Array Value) (gc : Nat) (p : Option Addr) (c : Nat) (Q : Nat → Option Addr) (C : Nat → Nat) : Prop where
  st : FewSt w W (S.celled p c Q C) z
  le : S.n ≤ c
  cap : c ≤ maxLen
  hp : 0 < S.n → p = some ⟨gc, 0, none⟩ ∧ gc < W.heap.size
  cell : ∀ i, i < S.n → W.cell? ⟨gc, i, none⟩ = some (.slice (Q i) (S.M i) (C i))
  frz : ∀ i, i < S.n → W.frozen? ⟨gc, i, none⟩ = false
  lo : w.heap.size + 2 ≤ gc
  row : ∀ i, i < S.n → S.M i ≤ C i ∧ C i ≤ maxLen ∧ RdRow W (Q i) (S.M i) (S.X i)
  ne : ∀ i, i < S.n → 0 < S.M i → ∀ a, Q i = some a → a.block ≠ gc ∧ (a.block < w.heap.size ∨ w.heap.size + 2 ≤ a.block)
theorem ApR.old {w W W' : World} {S : Smp} {z : Array Value} {gc : Nat} {p : Option Addr} {c : Nat} {Q : Nat → Option Addr} {C : Nat → Nat} (h : ApR w W S z gc p c Q C) (k : Old W W') : ApR w W' S z gc p c Q C where
  st := h.st.kept (k.kept fun q hq => by have := h.st.lt; omega)
  le := h.le
  cap := h.cap
  hp := fun h0 => ⟨(h.hp h0).1, Nat.lt_of_lt_of_le (h.hp h0).2 k.size⟩
  cell := fun i hi => (k.cell (a := ⟨gc, i, none⟩) (h.hp (by omega)).2).trans (h.cell i hi)
  frz := fun i hi => (Kept.frozen k (a := ⟨gc, i, none⟩) (h.hp (by omega)).2).trans (h.frz i hi)
  lo := h.lo
  row := fun i hi => ⟨(h.row i hi).1, (h.row i hi).2.1, (h.row i hi).2.2.old k⟩
  ne := h.ne
theorem ApR.put {w W : World} {S : Smp} {z : Array Value} {gc : Nat} {p : Option Addr} {c : Nat} {Q : Nat → Option Addr} {C : Nat → Nat} (h : ApR w W S z gc p c Q C) (k : Nat) (hk : k < S.n) (q : Option Addr) (cq : Nat) (h1 : S.M k ≤ cq) (h2 : cq ≤ maxLen) (h3 : RdRow W q (S.M k) (S.X k)) (h4 : ∀ a, q = some a → a.block ≠ gc ∧ w.heap.size + 2 ≤ a.block) :
    ApR w (W.setCell ⟨gc, k, none⟩ (.slice q (S.M k) cq)) S z gc p c (fun i => if i = k then q else Q i) (fun i => if i = k then cq else C i) where
  st := by
    have := h.st.kept (Kept.setCell (X := fun q => q < w.heap.size + 2) W (a := ⟨gc, k, none⟩) (by have := h.lo; simp only; omega) (.slice q (S.M k) cq))
    exact ⟨this.b, this.r, this.old⟩
  le := h.le
  cap := h.cap
  hp := fun h0 => ⟨(h.hp h0).1, by rw [World.size_setCell]; exact (h.hp h0).2⟩
  cell := fun i hi => by
    by_cases e : i = k
    · subst e; rw [World.cell?_setCell_same _ _ _ (h.cell i hi), if_pos rfl, if_pos rfl]
    · rw [World.cell?_setCell_other _ _ _ _ (fun e' => e (by injection e' with _ e2; exact e2.symm)), if_neg e, if_neg e]; exact h.cell i hi
  frz := fun i hi => by rw [World.frozen?_setCell]; exact h.frz i hi
  lo := h.lo
  row := fun i hi => by
    have hr : ∀ (q' : Option Addr) (n' : Nat) (X' : Nat → Int), RdRow W q' n' X' → (0 < n' → ∀ a, q' = some a → a.block ≠ gc) → RdRow (W.setCell ⟨gc, k, none⟩ (.slice q (S.M k) cq)) q' n' X' := fun q' n' X' hh hne h0 => by
      obtain ⟨g, o, e1, e2, e3⟩ := hh h0
      refine ⟨g, o, e1, by rw [World.size_setCell]; exact e2, fun j hj => ?_⟩
      rw [World.cell?_setCell_other _ _ _ _ (fun e' => hne h0 _ e1 (by injection e' with e2 _; exact e2.symm))]
      exact e3 j hj
    by_cases e : i = k
    · subst e; rw [if_pos rfl, if_pos rfl]; exact ⟨h1, h2, hr _ _ _ h3 fun _ a ha => (h4 a ha).1⟩
    · rw [if_neg e, if_neg e]; exact ⟨(h.row i hi).1, (h.row i hi).2.1, hr _ _ _ (h.row i hi).2.2 fun h0 a ha => (h.ne i hi h0 a ha).1⟩
  ne := fun i hi h0 a ha => by
    by_cases e : i = k
    · subst e; rw [if_pos rfl] at ha; exact ⟨(h4 a ha).1, .inr (h4 a ha).2⟩
    · rw [if_neg e] at ha; exact h.ne i hi h0 a ha
/-- All blocks of a sample's channels are in X. -/
def Smp.inX (S : Smp) (X : Nat → Prop) : Prop := (∀ a, 0 < S.n → S.p = some a → X a.block) ∧ ∀ i, i < S.n → 0 < S.M i → ∀ a, S.Q i = some a → X a.block
theorem SmOk.kept {w w' : World} {S : Smp} {X : Nat → Prop} (h : SmOk w S) (k : Kept X w w') (hX : S.inX X) : SmOk w' S where
  size := h.size
  le := h.le
  cap := h.cap
  rows := {
    cell := fun hn => by
      obtain ⟨g, o, h1, h2, h3⟩ := h.rows.cell hn
      exact ⟨g, o, h1, Nat.lt_of_lt_of_le h2 k.size, fun i hi => (k.cell (a := ⟨g, o + i, none⟩) (hX.1 ⟨g, o, none⟩ hn h1)).trans (h3 i hi)⟩
    row := fun i hi => by
      obtain ⟨a, b, c⟩ := h.rows.row i hi
      refine ⟨a, b, fun hm => ?_⟩
      obtain ⟨g, o, h1, h2, h3⟩ := c hm
      exact ⟨g, o, h1, Nat.lt_of_lt_of_le h2 k.size, fun j hj => (k.cell (a := ⟨g, o + j, none⟩) (hX.2 i hi hm ⟨g, o, none⟩ h1)).trans (h3 j hj)⟩ }
theorem Smp.inX.mono {S : Smp} {X Y : Nat → Prop} (h : S.inX X) (k : ∀ q, X q → Y q) : S.inX Y := ⟨fun a h0 ha => k _ (h.1 a h0 ha), fun i hi h0 a ha => k _ (h.2 i hi h0 a ha)⟩
/-- What apart tells. -/
def AprtR (w : World) (S : Smp) (e : Ending) (w' : World) : Prop := ∃ S' : Smp, e = .returned (.agg S'.cells) ∧ SmOk w' S' ∧ S'.s = S.s ∧ S'.r = S.r ∧ S'.len = S.len ∧ Old w w' ∧ S'.inX (fun q => w.heap.size ≤ q)
def rowV (S : Smp) (k : Nat) : List Value := (List.range (S.M k)).map fun j => .int .i64 (S.X k j)
def hdrV (S : Smp) : List Value := (List.range S.n).map fun i => .slice (S.Q i) (S.M i) (S.C i)
theorem map_range_get {f : Nat → Value} {n j : Nat} {u : Value} (h : ((List.range n).map f)[j]? = some u) : j < n ∧ u = f j := by
  by_cases hj : j < n
  · rw [List.getElem?_map, List.getElem?_range hj] at h; exact ⟨hj, by simpa using h.symm⟩
  · rw [List.getElem?_eq_none (by simp; omega)] at h; cases h
set_option maxHeartbeats 8000000 in
theorem apart_any (S : Smp) (w : World) (hs : SmOk w S) (hn : S.n ≤ 1048576) (hm : ∀ i, i < S.n → S.M i ≤ 1048576) :
    Calls Try.prog 23 #[S.val] w (AprtR w S) := by
  have Hs6 : Hid ((Try.prog.info? 24).map (·.size) = some 6) := Lib.hid (by kernel_rfl)
  obtain ⟨z, hz⟩ : ∃ z : Array Value, z = #[.string ⟨#[]⟩, .int .i64 0, .bool false, .int .i64 0, .int .i64 0, .slice none 0 0] := ⟨_, rfl⟩
  have Hz6 : Hid (z.size = 6) := Lib.hid (by rw [hz]; rfl)
  obtain ⟨W1, hW1⟩ : ∃ W1, W1 = (w.alloc (.cells S.cells 24)).alloc (.cells z 24) := ⟨_, rfl⟩
  have hst : FewSt w W1 S z := by
    rw [hW1]
    refine ⟨(SmB.new w S).old (Old.alloc _ _), ?_, (Old.alloc w _).alloc' _⟩
    exact heap_alloc2_new w _ _
  have c5 := hst.b.at.2.2.2.2.2
  have hok1 := hs.old hst.old
  have HC := Lib.hid (CloneR_any S.p S.n S.c (hdrV S) W1 (by simp [hdrV]) (fun u hu => by
    obtain ⟨i, _, rfl⟩ := List.mem_map.1 hu
    rfl) (fun h0 => by
    obtain ⟨g, o, h1, h2, h3⟩ := hok1.rows.cell h0
    exact ⟨g, o, h1, h2, fun j u hj => by
      obtain ⟨hj', rfl⟩ := map_range_get hj
      exact h3 j hj'⟩) (by omega))
  have HS := Lib.hid hst
  have HOK := Lib.hid hs
  have HNM := Lib.hid (And.intro hn hm)
  rw [hz] at hW1
  unfold Smp.cells at hW1
  have HW := Lib.hid hW1
  unfold Smp.val Smp.cells
  clear hs hst hok1 hW1 hz hn hm
  go_enter Try.func23, Try.ntmps23
  go_upto_region 1 with (fail)
  rw [← HW.out]
  clear HW
  go_wp2_with fail
  refine HC.out.mono ?_
  rintro e w1 ⟨v, rfl, hown, ho1⟩
  have hst1 : FewSt w w1 S z := HS.out.kept (ho1.kept fun q hq => by have := HS.out.lt; omega)
  have hlt := HS.out.lt
  obtain ⟨gc, p', c', hv, hap⟩ : ∃ gc p' c', v = .slice p' S.n c' ∧ ApR w (w1.setCell ⟨w.heap.size, 5, none⟩ (.slice p' S.n c')) S z gc p' c' S.Q S.C := by
    have hrows : ∀ W, Old w W → ∀ i, i < S.n → S.M i ≤ S.C i ∧ S.C i ≤ maxLen ∧ RdRow W (S.Q i) (S.M i) (S.X i) := fun W k i hi => ⟨((HOK.out.old k).rows.row i hi).1, ((HOK.out.old k).rows.row i hi).2.1, ((HOK.out.old k).rows.row i hi).2.2⟩
    have hlow : ∀ i, i < S.n → 0 < S.M i → ∀ a, S.Q i = some a → a.block < w.heap.size := fun i hi h0 a ha => by
      obtain ⟨g, o, e1, e2, _⟩ := (HOK.out.rows.row i hi).2.2 h0
      rw [e1] at ha; cases ha; exact e2
    rcases hown.shape with ⟨hv, h0⟩ | ⟨g, cap, hv, hX, hg, h1, h2, h3⟩
    · refine ⟨w.heap.size + 2, none, 0, by rw [h0]; exact hv, ?_⟩
      have hs2 := hst1.celled none 0 S.Q S.C
      exact ⟨hs2, by omega, Nat.zero_le _, fun h => by omega, fun i hi => by omega, fun i hi => by omega, Nat.le_refl _, hrows _ hs2.old, fun i hi => by omega⟩
    · have hge : w.heap.size + 2 ≤ g := by omega
      refine ⟨g, some ⟨g, 0, none⟩, cap, hv, ?_⟩
      have hs2 := hst1.celled (some ⟨g, 0, none⟩) cap S.Q S.C
      refine ⟨hs2, h1, h2, fun _ => ⟨rfl, by rw [World.size_setCell]; exact hg⟩, fun i hi => ?_, fun i hi => ?_, hge, hrows _ hs2.old, fun i hi h0 a ha => ?_⟩
      · rw [World.cell?_setCell_other _ _ _ _ (fun e' => by injection e' with e2 _; omega)]
        refine h3 i _ ?_
        unfold hdrV
        rw [List.getElem?_map, List.getElem?_range hi]
        rfl
      · rw [World.frozen?_setCell]
        subst hv
        exact hown.frozenAt i
      · have := hlow i hi h0 a ha
        exact ⟨by omega, .inl this⟩
  have f5 : w1.frozen? ⟨w.heap.size, 5, none⟩ = false := frozen_of_row _ _ _ _ _ hst1.b
  have k5 := hst1.b.at.2.2.2.2.2
  subst hv
  obtain ⟨W2, hW2⟩ : ∃ W2, W2 = w1.setCell ⟨w.heap.size, 5, none⟩ (.slice p' S.n c') := ⟨_, rfl⟩
  rw [← hW2] at hap
  have HA := Lib.hid hap
  have HW2 := Lib.hid hW2
  have m5 : W2.cell? ⟨w.heap.size, 5, none⟩ = some (.slice p' S.n c') := hap.st.b.at.2.2.2.2.2
  clear HC hown ho1 hst1 hlt hap hW2 c5 HS
  go_wp2_with (rw [← HW2.out])
  clear m5 k5 f5
  go_loopw [12] (fun iv wr => ∃ (k : Nat) (Q : Nat → Option Addr) (C : Nat → Nat), k ≤ S.n ∧ iv = .int .i64 k ∧ Hid (ApR w wr S z gc p' c' Q C) ∧ Hid (∀ i, i < k → 0 < S.M i → ∀ a, Q i = some a → w.heap.size + 2 ≤ a.block)) (fun i _ => S.n - (intOf i).toNat)
  case atStart => exact ⟨0, S.Q, S.C, Nat.zero_le _, by go_num, HA, Lib.hid fun i hi => by omega⟩
  case round =>
    clear HA HW2
    obtain ⟨k, Q, C, hk, rfl, HA, HNW⟩ := hrel
    by_cases hkn : k < S.n
    · have hp1 := (HA.out.hp (by omega)).1
      subst hp1
      have ck := HA.out.cell k hkn
      have hrow := HA.out.row k hkn
      have hMk := HNM.out.2 k hkn
      have HCI := Lib.hid (CloneI_any (Q k) (S.M k) (C k) (rowV S k) wr.drew (by simp [rowV]) (fun u hu => by
        obtain ⟨j, _, rfl⟩ := List.mem_map.1 hu
        rfl) (fun h0 => by
        obtain ⟨g, o, h1, h2, h3⟩ := hrow.2.2 h0
        exact ⟨g, o, h1, h2, fun j u hj => by
          obtain ⟨hj', rfl⟩ := map_range_get hj
          exact h3 j hj'⟩) (by omega))
      have m5 : wr.cell? ⟨w.heap.size, 5, none⟩ = some (.slice (some ⟨gc, 0, none⟩) S.n c') := HA.out.st.b.at.2.2.2.2.2
      have HM5 := Lib.hid m5
      have hlt := HA.out.st.lt
      have q0 : (0 : Int) ≤ k := by omega
      have q1 : (k : Int) < S.n := by omega
      have hkb : k < 1048576 := by have := HNM.out.1; omega
      have HR := Lib.hid (And.intro hlt hMk)
      clear hrow hMk hlt m5
      obtain ⟨qk, hqk⟩ : ∃ qk, qk = Q k := ⟨_, rfl⟩
      obtain ⟨ckk, hckk⟩ : ∃ ckk, ckk = C k := ⟨_, rfl⟩
      rw [← hqk, ← hckk] at ck HCI
      clear hqk hckk
      go_wp2_with fail
      refine wp_region_held_drew (S := (fun W => W.cell? ⟨w.heap.size, 5, none⟩ = some (.slice (some ⟨gc, 0, none⟩) S.n c'))) (by kernel_rfl) ?_ (fun hHeld => ?_)
      · (try dsimp only); exact HM5.out
      refine wpAnyH_take (i := 0) (oi := ⟨some _, _, _, _, _, _⟩) (v := ?_) rfl (by kernel_rfl) (by kernel_rfl) (by kernel_rfl) (fun _ _ _ h => h) (Or.inl ⟨by kernel_rfl, ?_⟩) (by assumption) ?_; rotate_left; (intro w hSw; (try dsimp only at hSw); go_simp; try with_reducible rfl); try simp only [Act.put, List.setIfInBounds_toArray, List.set_cons_zero, List.set_cons_succ]
      refine wpAnyH_take (i := 1) (oi := ⟨some _, _, _, _, _, _⟩) (v := ?_) rfl (by kernel_rfl) (by kernel_rfl) (by kernel_rfl) (fun _ _ _ h => h) (Or.inl ⟨by kernel_rfl, ?_⟩) (by assumption) ?_; rotate_left; (intro w hSw; (try dsimp only at hSw); go_simp; try with_reducible rfl); try simp only [Act.put, List.setIfInBounds_toArray, List.set_cons_zero, List.set_cons_succ]
      refine wpAnyH_take (i := 2) (oi := ⟨some _, _, _, _, _, _⟩) (v := ?_) rfl (by kernel_rfl) (by kernel_rfl) (by kernel_rfl) (fun _ _ _ h => h) (Or.inl ⟨by kernel_rfl, ?_⟩) (by assumption) ?_; rotate_left; (intro w hSw; (try dsimp only at hSw); go_simp; try with_reducible rfl); try simp only [Act.put, List.setIfInBounds_toArray, List.set_cons_zero, List.set_cons_succ]
      refine wpAnyH_take (i := 3) (oi := ⟨some _, _, _, _, _, _⟩) (v := ?_) rfl (by kernel_rfl) (by kernel_rfl) (by kernel_rfl) (fun _ _ _ h => h) (Or.inl ⟨by kernel_rfl, ?_⟩) (by assumption) ?_; rotate_left; (intro w hSw; (try dsimp only at hSw); go_simp; try with_reducible rfl); try simp only [Act.put, List.setIfInBounds_toArray, List.set_cons_zero, List.set_cons_succ]
      refine wpAnyH_ready (rs := [4]) (by kernel_rfl) (by simp) ?_
      refine AllReadyH.cons (o := ⟨_, _, _, _, _, _⟩) (by rfl) ?_ AllReadyH.nil
      intro K hK
      go_simp
      refine HCI.out.mono ?_
      rintro e V1 ⟨v, rfl, hown, ho1⟩
      have hoo : Old wr V1 := ((Old.refl wr).drew).trans ho1
      have hap := HA.out.old hoo
      obtain ⟨q2, c2, hv, g1, g2, g3, g4⟩ : ∃ q2 c2, v = .slice q2 (S.M k) c2 ∧ S.M k ≤ c2 ∧ c2 ≤ maxLen ∧ RdRow V1 q2 (S.M k) (S.X k) ∧ ∀ a, q2 = some a → a.block ≠ gc ∧ w.heap.size + 2 ≤ a.block := by
        rcases hown.shape with ⟨hv, h0⟩ | ⟨g, cap, hv, hX, hg, h1, h2, h3⟩
        · exact ⟨none, 0, by rw [h0]; exact hv, by omega, Nat.zero_le _, fun h => by omega, fun a ha => by cases ha⟩
        · refine ⟨_, cap, hv, h1, h2, fun h0 => ⟨g, 0, rfl, hg, fun j hj => ?_⟩, fun a ha => ?_⟩
          · rw [Nat.zero_add]
            refine h3 j _ ?_
            unfold rowV
            rw [List.getElem?_map, List.getElem?_range hj]
            rfl
          · cases ha
            have hX : ¬ g < wr.heap.size := hX
            have := (HA.out.hp (by omega)).2
            have := HR.out.1
            exact ⟨by show g ≠ gc; omega, by show w.heap.size + 2 ≤ g; omega⟩
      subst hv
      have HP := Lib.hid (hap.put k hkn q2 c2 g1 g2 g3 g4)
      have HNW2 := Lib.hid (show ∀ i, i < k + 1 → 0 < S.M i → ∀ a, (if i = k then q2 else Q i) = some a → w.heap.size + 2 ≤ a.block from fun i hi h0 a ha => by
        by_cases e : i = k
        · rw [if_pos e] at ha; exact (g4 a ha).2
        · rw [if_neg e] at ha; exact HNW.out i (by omega) h0 a ha)
      have ck2 := hap.cell k hkn
      have fk2 := hap.frz k hkn
      have n5 : V1.cell? ⟨w.heap.size, 5, none⟩ = some (.slice (some ⟨gc, 0, none⟩) S.n c') := hap.st.b.at.2.2.2.2.2
      have HN5 := Lib.hid n5
      have o5 : (V1.setCell ⟨gc, k, none⟩ (.slice q2 (S.M k) c2)).cell? ⟨w.heap.size, 5, none⟩ = some (.slice (some ⟨gc, 0, none⟩) S.n c') := HP.out.st.b.at.2.2.2.2.2
      have HO5 := Lib.hid o5
      clear hown ho1 hoo hap g1 g2 g3 g4 HCI HA HM5 n5 o5 ck
      go_wp2_with fail
      refine hK.out _ _ ?_ (fun hHeld => ?_)
      · (try dsimp only); exact HN5.out
      clear hK K
      try simp only [Act.put, List.setIfInBounds_toArray, List.set_cons_zero, List.set_cons_succ]
      refine wpAnyH_take (i := 5) (oi := ⟨some _, _, _, _, _, _⟩) (v := ?_) rfl (by kernel_rfl) (by kernel_rfl) (by kernel_rfl) (fun _ _ _ h => h) (Or.inl ⟨by kernel_rfl, ?_⟩) (by assumption) ?_; rotate_left; (intro w hSw; (try dsimp only at hSw); go_simp; try with_reducible rfl); try simp only [Act.put, List.setIfInBounds_toArray, List.set_cons_zero, List.set_cons_succ]
      refine wpAnyH_ready (rs := [6]) (by kernel_rfl) (by simp) ?_
      refine AllReadyH.cons (o := ⟨_, _, _, _, _, _⟩) (by rfl) ?_ AllReadyH.nil
      intro K hK
      go_simp
      refine hK.out _ _ ?_ (fun hHeld => ?_)
      · (try dsimp only); exact HO5.out
      clear hK K
      try simp only [Act.put, List.setIfInBounds_toArray, List.set_cons_zero, List.set_cons_succ]
      refine wpAnyH_done (by kernel_rfl) ?_ _
      go_wp2_with fail
      go_roundw
      case rel => exact ⟨k + 1, _, _, by omega, by go_num, HP, HNW2⟩
      case measure => simp [intOf]; omega
    · have hend : ¬ ((k : Int) < (S.n : Int)) := by omega
      have hst := HA.out.st
      have d0 : wr.cell? ⟨w.heap.size, 0, none⟩ = some (.string S.s) := hst.b.at.1
      have d1 : wr.cell? ⟨w.heap.size, 1, none⟩ = some (.int .i64 S.r) := hst.b.at.2.1
      have d2 : wr.cell? ⟨w.heap.size, 2, none⟩ = some (.bool S.lp) := hst.b.at.2.2.1
      have d3 : wr.cell? ⟨w.heap.size, 3, none⟩ = some (.int .i64 S.a) := hst.b.at.2.2.2.1
      have d4 : wr.cell? ⟨w.heap.size, 4, none⟩ = some (.int .i64 S.b) := hst.b.at.2.2.2.2.1
      have d5 : wr.cell? ⟨w.heap.size, 5, none⟩ = some (.slice p' S.n c') := hst.b.at.2.2.2.2.2
      obtain ⟨R, hR⟩ : ∃ R : Array Value, R = #[.string S.s, .int .i64 S.r, .bool S.lp, .int .i64 S.a, .int .i64 S.b, .slice p' S.n c'] := ⟨_, rfl⟩
      have HR := Lib.hid hR
      have HR6 : Hid (R.size = 6) := Lib.hid (by rw [hR]; rfl)
      have HR1 : Hid (R.all (·.oneCell') = true) := Lib.hid (by rw [hR]; kernel_rfl)
      have hrr := row_ret hst.r hst.old (by omega) R
      have hok : SmOk (wr.setRow (w.heap.size + 1) R) (S.celled p' c' Q C) := by
        have hk : Kept (fun q => q ≠ w.heap.size + 1) wr (wr.setRow (w.heap.size + 1) R) := ⟨rfl, rfl, by simp, fun k hk => setRow_other _ _ _ _ hk⟩
        have hlo := HA.out.lo
        refine ⟨HOK.out.size, HA.out.le, HA.out.cap, ⟨fun h0 => ⟨gc, 0, (HA.out.hp h0).1, Nat.lt_of_lt_of_le (HA.out.hp h0).2 hk.size, fun i hi => ?_⟩, fun i hi => ⟨(HA.out.row i hi).1, (HA.out.row i hi).2.1, fun h0 => ?_⟩⟩⟩
        · rw [Nat.zero_add]
          exact (hk.cell (a := ⟨gc, i, none⟩) (by simp only; omega)).trans (HA.out.cell i hi)
        · obtain ⟨g, o, e1, e2, e3⟩ := (HA.out.row i hi).2.2 h0
          have hne := (HA.out.ne i hi h0 _ e1).2
          exact ⟨g, o, e1, Nat.lt_of_lt_of_le e2 hk.size, fun j hj => (hk.cell (a := ⟨g, o + j, none⟩) (by simp only at *; omega)).trans (e3 j hj)⟩
      have hinx : (S.celled p' c' Q C).inX (fun q => w.heap.size ≤ q) := by
        have hlo := HA.out.lo
        refine ⟨fun a h0 ha => ?_, fun i hi h0 a ha => ?_⟩
        · have h1 := (HA.out.hp h0).1
          have ha : p' = some a := ha
          rw [h1] at ha; cases ha; simp only; omega
        · have := HNW.out i (by have : i < S.n := hi; omega) h0 a ha
          omega
      have HINX := Lib.hid hinx
      have HOK2 := Lib.hid hok
      have HRR := Lib.hid hrr
      have HST := Lib.hid hst
      clear hok hrr hst hR HA HOK hinx
      go_wp2_with (rw [← HR.out]; with_reducible refine wpList_store_row rfl 24 _ _ rfl (w.heap.size + 1) R rfl rfl 24 _ HST.out.r (by rw [HR6.out]; exact Hs6.out) (by rw [HR6.out, Hz6.out]) HR1.out ?_)
      refine bodyPost_ret (results_cell_row rfl _ _ (w.heap.size + 1) 24 R (0, 0) _ rfl HRR.out.1 Try.underlying24 rfl (by rw [HR6.out]; exact Hs6.out)) rfl ?_
      exact ⟨_, by rw [HR.out]; rfl, HOK2.out, rfl, rfl, rfl, HRR.out.2, HINX.out⟩
end Go.Proofs.Ytmdninfmidmmhaa

