/- A bit is laid into the last byte. -/
import Derived.Test.YtcepfbflgngmjaaFitsL
import Derived.Test.YtcepfbflgngmjaaPack
import Derived.RegionTactic
import Derived.BigRegion
import Derived.ChangeAlike
import Derived.OwnWalk
import Derived.OneCell
import Derived.Deep.OwnRows
namespace Go.Proofs.Ytcepfbflgngmjaa
set_option linter.unusedVariables false
set_option maxRecDepth 100000
open Go.RowKit


theorem Try.info5 : (Try.prog.info? 5).map (fun i => (i.zero, i.size, i.bytes)) = some (some (.int .u8 0), 1, 1) := by kernel_rfl

set_option maxHeartbeats 400000 in
/-- There is room in the last byte. -/
theorem layBit_in (b g m cap n : Nat) (old bit : Int) (w : World) (hn : n ≤ 9223372036854775800)
    (hm : n / 8 < m) (hr : 0 < n % 8)
    (c0 : w.cell? ⟨b, 0, none⟩ = some (.slice (some ⟨g, 0, none⟩) m cap)) (c1 : w.cell? ⟨b, 1, none⟩ = some (.int .i64 n)) (f1 : w.frozen? ⟨b, 1, none⟩ = false)
    (hbg : b ≠ g)
    (hc : w.cell? ⟨g, n / 8, none⟩ = some (.int .u8 old)) (hf : w.frozen? ⟨g, n / 8, none⟩ = false) :
    Calls Try.prog 71 #[.pointer (some ⟨b, 0, none⟩), .int .u8 bit] w fun e w' => e = .returned (.tuple #[]) ∧
      w'.Alike ((w.setCell ⟨g, n / 8, none⟩ (.int .u8 (bits .or .u8 old (bit * 2 ^ (7 - n % 8) % 256)))).setCell ⟨b, 1, none⟩ (.int .i64 ((n : Int) + 1))) := by
  go_enter Try.func71, Try.ntmps71
  go_wp2_with fail
  go_region
  go_wp2
  go_end0
  exact ⟨rfl, rfl, rfl, rfl⟩

/-- What is known behind the append of a zero byte. -/
theorem new_facts {w w1 : World} {X : Nat → Prop} {b m : Nat} {v v' x y : Value} {xs : List Value} {o : Obj} (hown1 : ownX (fun k => X k ∨ k = b) w1 5 v' (m + 1) (xs ++ [x])) (hk : Kept (fun k => X k ∨ k = b) (w.alloc o) w1)
    (hX : ∀ k, X k → k < w.heap.size) (hb : b < w.heap.size) (hx : xs.length = m) (c0 : w.cell? ⟨b, 0, none⟩ = some v) (c1 : w.cell? ⟨b, 1, none⟩ = some y) (f0 : w.frozen? ⟨b, 0, none⟩ = false) (f1 : w.frozen? ⟨b, 1, none⟩ = false) :
    ∃ g cap, v' = .slice (some ⟨g, 0, none⟩) (m + 1) cap ∧ Hid (ownX (fun k => X k ∨ k = b) w1 5 (.slice (some ⟨g, 0, none⟩) (m + 1) cap) (m + 1) (xs ++ [x])) ∧ Hid (Kept (fun k => X k ∨ k = b) w w1) ∧ b ≠ g ∧
      w1.cell? ⟨b, 0, none⟩ = some v ∧ w1.cell? ⟨b, 1, none⟩ = some y ∧ w1.frozen? ⟨b, 0, none⟩ = false ∧ w1.frozen? ⟨b, 1, none⟩ = false ∧ w1.cell? ⟨g, m, none⟩ = some x ∧ w1.frozen? ⟨g, m, none⟩ = false ∧ m + 1 ≤ cap := by
  have hkk : Kept (fun k => X k ∨ k = b) w w1 := (Kept.alloc w o fun k hk => hk.elim (hX k) (fun e => by omega)).trans hk
  rcases hown1.shape with ⟨_, h0⟩ | ⟨g, cap, rfl, hg, hgl, hmc, hcap, hcell⟩
  · omega
  · have hgb : b ≠ g := fun e => hg (.inr e.symm)
    have k2 := hcell m x (by rw [← hx]; simp)
    exact ⟨g, cap, rfl, hown1, hkk, hgb, (hkk.cell (a := ⟨b, 0, none⟩) (.inr rfl)).trans c0, (hkk.cell (a := ⟨b, 1, none⟩) (.inr rfl)).trans c1,
      (hkk.frozen (a := ⟨b, 0, none⟩) (.inr rfl)).trans f0, (hkk.frozen (a := ⟨b, 1, none⟩) (.inr rfl)).trans f1, k2, hown1.frozenAt m, hmc⟩

set_option maxHeartbeats 400000 in
/-- A new byte. -/
theorem layBit_new (X : Nat → Prop) (b m n : Nat) (v : Value) (xs : List Value) (bit : Int) (w : World) (hn : n ≤ 4294967296) (hmn : n / 8 = m)
    (hr : n % 8 = 0) (hX : ∀ k, X k → k < w.heap.size) (hblt : b < w.heap.size)
    (hx : xs.length = m)
    (c0 : w.cell? ⟨b, 0, none⟩ = some v) (c1 : w.cell? ⟨b, 1, none⟩ = some (.int .i64 n)) (f0 : w.frozen? ⟨b, 0, none⟩ = false) (f1 : w.frozen? ⟨b, 1, none⟩ = false)
    (hown : ownX (fun k => X k ∨ k = b) w 5 v m xs) :
    Calls Try.prog 71 #[.pointer (some ⟨b, 0, none⟩), .int .u8 bit] w fun e w' => e = .returned (.tuple #[]) ∧
      ∃ w1 g cap, ownX (fun k => X k ∨ k = b) w1 5 (.slice (some ⟨g, 0, none⟩) (m + 1) cap) (m + 1) (xs ++ [.int .u8 0]) ∧ Kept (fun k => X k ∨ k = b) w w1 ∧
      w'.Alike (((w1.setCell ⟨b, 0, none⟩ (.slice (some ⟨g, 0, none⟩) (m + 1) cap)).setCell ⟨g, m, none⟩ (.int .u8 (bits .or .u8 0 (bit * 128 % 256)))).setCell ⟨b, 1, none⟩ (.int .i64 ((n : Int) + 1))) := by
  obtain ⟨i0, hi, hz0, hz1, hz2⟩ := info_parts Try.info5
  have hd : ((n : Int) % 8 == 0) = true := by rw [beq_iff_eq]; omega
  have HX := Lib.hid hX
  have HXX := Lib.hid (fun (o : Obj) (k : Nat) (h : X k ∨ k = b) => (show k < (w.alloc o).heap.size from by have := h.elim (hX k) (fun e => by omega); simp; omega))
  clear hX
  go_enter Try.func71, Try.ntmps71
  go_wp2_with ((at_builtin; refine append_X _ rfl _ _ 40 rfl (fun k => X k ∨ k = b) 5 i0 (.int .u8 0) 1 Try.underlying40 hi hz0 hz1 hz2 rfl _ _ _ rfl (hown.old (Old.alloc _ _)) ⟨w.heap.size, 0, none⟩ 1 1 [.int .u8 0] rfl rfl (news_one w _ _) (one_oneCell _ _) (by unfold maxLen; omega) (by omega) (HXX.out _) ?_; intro v' w1 hown1 hgrow1 _; obtain ⟨g, cap, rfl, HO, HB, hne, k0, k1, l0, l1, k2, l2, hmc⟩ := new_facts hown1 hgrow1 HX.out hblt hx c0 c1 f0 f1; clear hown hown1 hgrow1 hx c0 c1 f0 f1))
  go_region
  go_wp2
  go_end0
  exact ⟨rfl, w1, g, cap, HO.out, HB.out, rfl, rfl, rfl⟩

/-- The writer at block b has laid the bits L, its first error is er; what it owns lies outside X. -/
def WrAt (w : World) (X : Nat → Prop) (b : Nat) (L : List Bool) (er : Int) : Prop :=
  ¬ X b ∧ (∀ k, X k → k < w.heap.size) ∧ ∃ v, w.heap[b]? = some (.cells #[v, .int .i64 (L.length : Int), .int .i64 er] 66 (0, 0)) ∧ ownX (fun k => X k ∨ k = b) w 5 v (nb L) ((bytesOf L).map (Value.int .u8))

theorem bytesOf_snoc_old (L : List Bool) (x : Bool) (h : L.length % 8 ≠ 0) : bytesOf (L ++ [x]) = (bytesOf L).set (L.length / 8) (byteAt L (L.length / 8) + bi x * 2 ^ (7 - L.length % 8)) := by
  have hn : nb (L ++ [x]) = nb L := by simp only [nb, List.length_append, List.length_singleton]; omega
  apply List.ext_getElem?
  intro i
  rw [List.getElem?_set]
  simp only [bytesOf, hn, List.length_map, List.length_range]
  by_cases hi : i < nb L
  · by_cases he : L.length / 8 = i
    · subst he
      simp [hi, byteAt_snoc]
    · simp [he, hi, byteAt_snoc_ne L x i (fun e => he e.symm)]
  · have : L.length / 8 ≠ i := by simp only [nb] at hi; omega
    simp [this, hi]
theorem bytesOf_snoc_new (L : List Bool) (x : Bool) (h : L.length % 8 = 0) : bytesOf (L ++ [x]) = (bytesOf L ++ [0]).set (L.length / 8) (bi x * 128) := by
  have hn : nb (L ++ [x]) = nb L + 1 := by simp only [nb, List.length_append, List.length_singleton]; omega
  have hnl : nb L = L.length / 8 := by simp only [nb]; omega
  have hp := byteAt_past L (L.length / 8) (by omega)
  apply List.ext_getElem?
  intro i
  rw [List.getElem?_set]
  simp only [bytesOf, hn, List.length_append, List.length_map, List.length_range, List.length_singleton]
  by_cases he : L.length / 8 = i
  · subst he
    have e := byteAt_snoc L x
    rw [h, hp] at e
    simp [hnl, e]
  · by_cases hi : i < nb L
    · have h2 : i < nb L + 1 := by omega
      simp [he, hi, h2, byteAt_snoc_ne L x i (fun e => he e.symm)]
    · have h2 : ¬ i < nb L + 1 := by omega
      have h3 : nb L + 1 ≤ i := by omega
      simp [he, h2]

theorem layBit_any (X : Nat → Prop) (b : Nat) (L : List Bool) (er : Int) (x : Bool) (w : World) (hL : L.length ≤ 4294967296) (h : WrAt w X b L er) :
    Calls Try.prog 71 #[.pointer (some ⟨b, 0, none⟩), .int .u8 (bi x)] w fun e w' => e = .returned (.tuple #[]) ∧ WrAt w' X b (L ++ [x]) er ∧ Kept X w w' := by
  obtain ⟨hXb, hX, v, hblk, hown⟩ := h
  obtain ⟨c0, c1, c2, f0, f1, f2⟩ := cell3 hblk
  have hx := bi_01 x
  have hbl := lt_of_block hblk
  have hlen : ((L ++ [x]).length : Int) = (L.length : Int) + 1 := by simp
  by_cases h8 : L.length % 8 = 0
  · have hnl : nb L = L.length / 8 := by simp only [nb]; omega
    have hnl' : nb (L ++ [x]) = L.length / 8 + 1 := by simp only [nb, List.length_append, List.length_singleton]; omega
    refine (layBit_new X b (L.length / 8) L.length v ((bytesOf L).map (Value.int .u8)) (bi x) w hL rfl h8 hX hbl (by simp [length_bytesOf, hnl]) c0 c1 f0 f1 (by rw [← hnl]; exact hown)).mono ?_
    rintro e w' ⟨rfl, w1, g, cap, ho, hbut, hal⟩
    have e := or_add 0 x 7 (by omega) (by omega) (by omega) (by omega)
    simp only [show (2 : Int) ^ 7 = 128 from rfl, Int.zero_add] at e
    rw [e] at hal
    have hg := ho.2 g rfl
    have hbg : b ≠ g := fun e => hg (.inr e.symm)
    have hk := (hbut.block b (.inr rfl)).trans hblk
    have hsz := hbut.size
    refine ⟨rfl, ⟨hXb, ?_, .slice (some ⟨g, 0, none⟩) (L.length / 8 + 1) cap, ?_, ?_⟩, ?_⟩
    · intro k hk; rw [hal.1]; have := hX k hk; simp [World.setCell]; omega
    · rw [hal.1, hlen]
      have h1 := heap_setCell_at (o := 0) (u := .slice (some ⟨g, 0, none⟩) (L.length / 8 + 1) cap) hk
      have h2 := (Below.heap_setCell (w1.setCell ⟨b, 0, none⟩ (.slice (some ⟨g, 0, none⟩) (L.length / 8 + 1) cap)) ⟨g, L.length / 8, none⟩ (.int .u8 (bi x * 128)) b hbg).trans h1
      exact heap_setCell_at (o := 1) (u := .int .i64 ((L.length : Int) + 1)) h2
    · rw [hnl']
      refine ownX.alike ?_ hal
      refine ownX.other ?_ (by simp [Value.ownBlock]; omega) _
      have := (ho.other (a := ⟨b, 0, none⟩) (by simp [Value.ownBlock]; omega) (.slice (some ⟨g, 0, none⟩) (L.length / 8 + 1) cap)).stored (L.length / 8) (.int .u8 (bi x * 128))
      rw [bytesOf_snoc_new L x h8]
      simpa using this
    · have hbX : Kept X w w1 := hbut.mono fun _ h => .inl h
      exact (((hbX.trans (Kept.setCell _ (a := ⟨b, 0, none⟩) hXb _)).trans (Kept.setCell _ (a := ⟨g, L.length / 8, none⟩) (fun h => hg (.inl h)) _)).trans (Kept.setCell _ (a := ⟨b, 1, none⟩) hXb _)).alike hal
  · have hnl : nb L = L.length / 8 + 1 := by simp only [nb]; omega
    have hnl' : nb (L ++ [x]) = nb L := by simp only [nb, List.length_append, List.length_singleton]; omega
    have hown' : ownX (fun k => X k ∨ k = b) w 5 v (L.length / 8 + 1) ((bytesOf L).map (Value.int .u8)) := by rw [← hnl]; exact hown
    rcases hown'.shape with ⟨_, h0⟩ | ⟨g, cap, rfl, hg, hgl, hmc, hcap, _⟩
    · omega
    have hbg : b ≠ g := fun e => hg (.inr e.symm)
    have k2 := hown'.cellAt (L.length / 8) (by omega)
    rw [List.getElem?_map, getElem?_bytesOf L _ (by omega)] at k2
    have hr := byteAt_range L (L.length / 8)
    have hlow := byteAt_low L
    rw [show 8 - L.length % 8 = 7 - L.length % 8 + 1 by omega] at hlow
    refine (layBit_in b g (L.length / 8 + 1) cap L.length (byteAt L (L.length / 8)) (bi x) w (by omega) (by omega) (by omega) c0 c1 f1 hbg k2 (hown'.frozenAt _)).mono ?_
    rintro e w' ⟨rfl, hal⟩
    rw [or_add _ x _ (by omega) hr.1 hr.2 hlow] at hal
    refine ⟨rfl, ⟨hXb, ?_, .slice (some ⟨g, 0, none⟩) (L.length / 8 + 1) cap, ?_, ?_⟩, ?_⟩
    · intro k hk; rw [hal.1]; have := hX k hk; simp [World.setCell]; omega
    · rw [hal.1, hlen]
      have h2 := (Below.heap_setCell w ⟨g, L.length / 8, none⟩ (.int .u8 (byteAt L (L.length / 8) + bi x * 2 ^ (7 - L.length % 8))) b hbg).trans hblk
      exact heap_setCell_at (o := 1) (u := .int .i64 ((L.length : Int) + 1)) h2
    · rw [hnl', hnl]
      refine ownX.alike ?_ hal
      refine ownX.other ?_ (by simp [Value.ownBlock]; omega) _
      have := hown'.stored (L.length / 8) (.int .u8 (byteAt L (L.length / 8) + bi x * 2 ^ (7 - L.length % 8)))
      rw [bytesOf_snoc_old L x h8, List.map_set]
      exact this
    · exact ((Kept.setCell _ (a := ⟨g, L.length / 8, none⟩) (fun h => hg (.inl h)) _).trans (Kept.setCell _ (a := ⟨b, 1, none⟩) hXb _)).alike hal
end Go.Proofs.Ytcepfbflgngmjaa
