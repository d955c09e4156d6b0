/- Texts joined: LapD, LapE, GainU, LapF. -/
import Derived.Deep.RegionHeld
import Derived.Test.YtlcbmgbnhjgelaaGreatPkAB
import Derived.Test.YtlcbmgbnhjgelaaGreatPkAC
import Derived.Test.YtlcbmgbnhjgelaaGreatPkAD
/- Contracts of (lift.Pairs).Turn and Back over a row of eight of one block and eight numbers of another (by wip/tools/lapd.py). -/
namespace Go.Proofs.YtlcbmgbnhjgelaaGreat
set_option linter.unusedVariables false
set_option maxRecDepth 100000
open Go.RowKit

/-- What becomes of the eight ahead, and of those behind. -/
def metA (wa : Int → Int → Int → Int → Int) (fa fb : Nat → Int) : Nat → Int := fun k => wa (fa k) (fb k) (turnP k) (turnU k)
def upto (n : Nat) (f g : Nat → Int) : Nat → Int := fun k => if k < n then f k else g k
def from_ (n : Nat) (f g : Nat → Int) : Nat → Int := fun k => if k < n then g k else f k
theorem upto_zero (f g : Nat → Int) : upto 0 f g = g := by funext k; unfold upto; rw [if_neg (by omega)]
theorem from_eight (f g : Nat → Int) (k : Nat) (h : k < 8) : from_ 8 f g k = g k := by unfold from_; rw [if_pos h]
/-- The two rows while they are turned: ga holds fa', gb holds F with fb' over it; t3's block holds the turns. -/
structure PT (X : Nat → Prop) (w : World) (bt tt ga gb m ob : Nat) (F fa' fb' : Nat → Int) (W : World) : Prop where
  a : CellsAt W ga 8 fa'
  b : CellsAt W gb m (patch F ob 8 fb')
  t : W.heap[bt]? = some (.cells T8 tt (0, 0))
  k : Kept X w W
theorem PT.ext {X : Nat → Prop} {w : World} {bt tt ga gb m ob : Nat} {F fa fa' fb fb' : Nat → Int} {W : World} (h : PT X w bt tt ga gb m ob F fa fb W) (ha : ∀ j, j < 8 → fa j = fa' j) (hb : ∀ j, j < 8 → fb j = fb' j) : PT X w bt tt ga gb m ob F fa' fb' W :=
  ⟨h.a.ext ha, h.b.ext fun j _ => by unfold patch; split <;> first | rfl | exact hb _ (by omega), h.t, h.k⟩
theorem PT.step {X : Nat → Prop} {w W V : World} {bt tt ga gb m ob k : Nat} {F fa fb : Nat → Int} (h : PT X w bt tt ga gb m ob F fa fb W) (ho : Old W V) (hX : ∀ q, X q → q < w.heap.size) (hk : k < 8) (hm : ob + 8 ≤ m) (h1 : ga ≠ gb) (h2 : bt ≠ ga) (h3 : bt ≠ gb) (xa : ¬ X ga) (xb : ¬ X gb) (va vb : Int) :
    PT X w bt tt ga gb m ob F (fun j => if j = k then va else fa j) (fun j => if j = k then vb else fb j) ((V.setCell ⟨ga, k, none⟩ (.int .i64 va)).setCell ⟨gb, ob + k, none⟩ (.int .i64 vb)) := by
  have a1 := (h.a.old ho).set k hk va
  have b1 := (h.b.old ho)
  refine ⟨a1.setOther (a := ⟨gb, ob + k, none⟩) (fun e => h1 e.symm) _, ?_, ?_, ((h.k.trans (Kept.mono ho fun q hq => Nat.lt_of_lt_of_le (hX q hq) h.k.size)).trans (Kept.setCell _ (a := ⟨ga, k, none⟩) xa _)).trans (Kept.setCell _ (a := ⟨gb, ob + k, none⟩) xb _)⟩
  · refine ((b1.setOther (a := ⟨ga, k, none⟩) h1 _).set (ob + k) (by omega) vb).ext fun j _ => ?_
    unfold patch
    dsimp only
    by_cases e : j = ob + k
    · subst e; rw [if_pos rfl, if_pos ⟨by omega, by omega⟩, if_pos (by omega)]
    · rw [if_neg e]
      split
      · rw [if_neg (by omega)]
      · rfl
  · rw [Below.heap_setCell _ _ _ _ h3, Below.heap_setCell _ _ _ _ h2]
    exact (ho.block bt (lt_of_block h.t)).trans h.t

set_option maxRecDepth 100000 in
set_option maxHeartbeats 4000000 in
theorem PTurn_any (X : Nat → Prop) (ga gb m ob ca cb : Nat) (fa F : Nat → Int) (w : World) (ha : CellsAt w ga 8 fa) (hb : CellsAt w gb m F) (hm : ob + 8 ≤ m) (hne : ga ≠ gb) (xa : ¬ X ga) (xb : ¬ X gb) (hX : ∀ q, X q → q < w.heap.size) :
    Calls Tryz.prog 43 #[.agg T8, .slice (some ⟨ga, 0, none⟩) 8 ca, .slice (some ⟨gb, ob, none⟩) 8 cb] w fun e w' => e = .returned (.tuple #[]) ∧
      CellsAt w' ga 8 (metA turnWA fa (fun k => F (ob + k))) ∧ CellsAt w' gb m (patch F ob 8 (metA turnWB fa (fun k => F (ob + k)))) ∧ Kept X w w' := by
  have hs := T8_size
  have HT := Lib.hid T8_at
  have HZ : Hid ((Tryz.prog.info? 43).map (·.size) = some 16) := Lib.hid (by kernel_rfl)
  have hC := Lib.hid (fun w => count_any (some ⟨ga, 0, none⟩) (some ⟨gb, ob, none⟩) ca cb w)
  have H0 : Hid (∀ W, Old (w.alloc (.cells T8 43)) W → PT X w w.heap.size 43 ga gb m ob F fa (fun k => F (ob + k)) W) := fun W hW => by
    have h1 := (Old.alloc w (.cells T8 43)).trans hW
    refine ⟨ha.old h1, (hb.old h1).ext fun j hj => ?_, (hW.block _ (by simp)).trans (heap_alloc_new _ _), Kept.mono h1 hX⟩
    unfold patch
    dsimp only
    split
    · rw [show ob + (j - ob) = j by omega]
    · rfl
  have hga := ha.lt
  have hgb := hb.lt
  have HP : Hid (PT X w w.heap.size 43 ga gb m ob F = PT X w w.heap.size 43 ga gb m ob F) := rfl
  clear ha hb HP
  generalize hR : T8 = R at hs hC ⊢
  have HR := Lib.hid hR
  clear hR
  go_enter Tryz.func43, Tryz.ntmps43
  go_wp2_with (with_reducible refine wpList_load_row rfl 43 _ rfl w.heap.size rfl 43 R (0, 0) _ (heap_alloc_new _ _) Tryz.underlying43 rfl (by rw [hs]; exact HZ.out) ?_)
  refine (hC.out _).mono ?_
  rintro e w1 ⟨rfl, ho1⟩
  have H1 : Hid (PT X w w.heap.size 43 ga gb m ob F fa (fun k => F (ob + k)) w1) := H0.out w1 (by rw [HR.out]; exact ho1)
  clear H0 ho1 hC
  go_wp2_with fail
  go_loopw [11] (fun i wr => ∃ k : Nat, k ≤ 8 ∧ i = .int .i64 k ∧ Hid (PT X w w.heap.size 43 ga gb m ob F (upto k (metA turnWA fa (fun k => F (ob + k))) fa) (upto k (metA turnWB fa (fun k => F (ob + k))) (fun k => F (ob + k))) wr)) (fun i _ => 8 - (intOf i).toNat)
  case atStart => exact ⟨0, by omega, rfl, by rw [upto_zero, upto_zero]; exact H1⟩
  case round =>
    obtain ⟨k, hk, rfl, HS⟩ := hrel
    clear H1
    by_cases hlt : k < 8
    · have i1 : (0 : Int) ≤ k := by omega
      have i2 : (k : Int) < 8 := by omega
      have hk8 : k < 8 := by omega
      obtain ⟨ga', hga'⟩ : ∃ f, f = upto k (metA turnWA fa (fun k => F (ob + k))) fa := ⟨_, rfl⟩
      obtain ⟨gb', hgb'⟩ : ∃ f, f = upto k (metA turnWB fa (fun k => F (ob + k))) (fun k => F (ob + k)) := ⟨_, rfl⟩
      have ea : ga' k = fa k := by rw [hga']; unfold upto; rw [if_neg (by omega)]
      have eb : gb' k = F (ob + k) := by rw [hgb']; unfold upto; rw [if_neg (by omega)]
      rw [← hga', ← hgb'] at HS
      have hcT := fun w => Turn_all (fa k) (F (ob + k)) (turnP k) (turnU k) w
      have na : ∀ j, j < 8 → (if j = k then turnWA (fa k) (F (ob + k)) (turnP k) (turnU k) else ga' j) = upto (k + 1) (metA turnWA fa (fun k => F (ob + k))) fa j := fun j hj => by
        rw [hga']; unfold upto metA
        by_cases e : j = k
        · subst e; rw [if_pos rfl, if_pos (by omega)]
        · rw [if_neg e]
          by_cases c : j < k
          · rw [if_pos c, if_pos (by omega)]
          · rw [if_neg c, if_neg (by omega)]
      have nb : ∀ j, j < 8 → (if j = k then turnWB (fa k) (F (ob + k)) (turnP k) (turnU k) else gb' j) = upto (k + 1) (metA turnWB fa (fun k => F (ob + k))) (fun k => F (ob + k)) j := fun j hj => by
        rw [hgb']; unfold upto metA
        by_cases e : j = k
        · subst e; rw [if_pos rfl, if_pos (by omega)]
        · rw [if_neg e]
          by_cases c : j < k
          · rw [if_pos c, if_pos (by omega)]
          · rw [if_neg c, if_neg (by omega)]
      obtain ⟨x, hx⟩ : ∃ x, x = fa k := ⟨_, rfl⟩
      obtain ⟨y, hy⟩ : ∃ y, y = F (ob + k) := ⟨_, rfl⟩
      rw [← hx, ← hy] at hcT na nb
      rw [← hx] at ea
      rw [← hy] at eb
      have hT8 := HT.out k hk8
      rw [HR.out] at hT8
      have ht := HS.out.t
      rw [HR.out] at ht
      generalize turnP k = pv at *
      generalize turnU k = uv at *
      generalize hva : turnWA x y pv uv = va at *
      generalize hvb : turnWB x y pv uv = vb at *
      have NX : Hid (∀ V, Old wr.drew V → PT X w w.heap.size 43 ga gb m ob F (upto (k + 1) (metA turnWA fa (fun k => F (ob + k))) fa) (upto (k + 1) (metA turnWB fa (fun k => F (ob + k))) (fun k => F (ob + k))) ((V.setCell ⟨ga, k, none⟩ (.int .i64 va)).setCell ⟨gb, ob + k, none⟩ (.int .i64 vb))) := fun V hV =>
        (HS.out.step (Old.drew (Old.refl _) |>.trans hV) hX hk8 hm hne (by omega) (by omega) xa xb va vb).ext na nb
      have keep1 : ∀ V : World, Old wr.drew V → V.cell? ⟨w.heap.size, k * 2, none⟩ = some (.int .i64 pv) ∧ V.cell? ⟨w.heap.size, k * 2 + 1, none⟩ = some (.int .i64 uv) := fun V hV => by
        have e : V.heap[w.heap.size]? = some (.cells R 43 (0, 0)) := (hV.block _ (lt_of_block ht)).trans ht
        exact ⟨(cell_of_row _ _ _ _ _ _ e).trans hT8.1, (cell_of_row _ _ _ _ _ _ e).trans hT8.2⟩
      have keep2 : ∀ (V : World) (g j : Nat) (v : Value), w.heap.size ≠ g → (V.cell? ⟨w.heap.size, k * 2, none⟩ = some (.int .i64 pv) ∧ V.cell? ⟨w.heap.size, k * 2 + 1, none⟩ = some (.int .i64 uv)) → (V.setCell ⟨g, j, none⟩ v).cell? ⟨w.heap.size, k * 2, none⟩ = some (.int .i64 pv) ∧ (V.setCell ⟨g, j, none⟩ v).cell? ⟨w.heap.size, k * 2 + 1, none⟩ = some (.int .i64 uv) := fun V g j v hg hV =>
        ⟨(World.cell?_setCell_far _ _ _ _ (fun e => hg e.symm)).trans hV.1, (World.cell?_setCell_far _ _ _ _ (fun e => hg e.symm)).trans hV.2⟩
      have cells : ∀ V : World, Old wr.drew V → V.cell? ⟨ga, k, none⟩ = some (.int .i64 x) ∧ V.cell? ⟨gb, ob + k, none⟩ = some (.int .i64 y) ∧ V.frozen? ⟨ga, k, none⟩ = false ∧ V.frozen? ⟨gb, ob + k, none⟩ = false ∧
          (V.setCell ⟨ga, k, none⟩ (.int .i64 va)).cell? ⟨gb, ob + k, none⟩ = some (.int .i64 y) ∧ (V.setCell ⟨ga, k, none⟩ (.int .i64 va)).frozen? ⟨gb, ob + k, none⟩ = false := fun V hV => by
        have a1 := (HS.out.a.drew.old hV).cell k hk8
        have a2 := (HS.out.a.drew.old hV).frz k hk8
        have b1 := (HS.out.b.drew.old hV).cell (ob + k) (by omega)
        have b2 := (HS.out.b.drew.old hV).frz (ob + k) (by omega)
        unfold patch at b1
        rw [if_pos ⟨by omega, by omega⟩, show ob + k - ob = k by omega, eb] at b1
        rw [ea] at a1
        refine ⟨a1, b1, a2, b2, ?_, ?_⟩
        · rw [World.cell?_setCell_far _ _ _ _ (by exact hne)]; exact b1
        · rw [World.frozen?_setCell]; exact b2
      have HK1 := Lib.hid keep1
      have HK2 := Lib.hid keep2
      have HCl := Lib.hid cells
      have HcT := Lib.hid hcT
      have nga : w.heap.size ≠ ga := by omega
      have ngb : w.heap.size ≠ gb := by omega
      obtain ⟨c1, c2, c3, c4, c5, c6⟩ := cells wr.drew (Old.refl _)
      clear keep1 keep2 cells hcT na nb hx hy hga' hgb' ea eb hT8 ht HS HT HR hva hvb HZ
      go_wp2_with fail
      refine wp_region_held_drew (S := (fun w' => w'.cell? ⟨w.heap.size, k * 2, none⟩ = some (.int .i64 pv) ∧ w'.cell? ⟨w.heap.size, k * 2 + 1, none⟩ = some (.int .i64 uv))) (by kernel_rfl) ?_ (fun hHeld => ?_)
      · (try dsimp only); exact HK1.out _ (Old.refl _)
      refine wpAnyH_take (i := 0) (oi := ⟨some _, _, _, _, _, _⟩) (v := ?_) rfl (by kernel_rfl) (by kernel_rfl) (by kernel_rfl) (fun _ _ _ h => h) (Or.inl ⟨by kernel_rfl, ?_⟩) (by assumption) ?_; rotate_left; (intro w hSw; (try dsimp only at hSw); go_simp; try with_reducible rfl); try simp only [Act.put, List.setIfInBounds_toArray, List.set_cons_zero, List.set_cons_succ]
      refine wpAnyH_take (i := 1) (oi := ⟨some _, _, _, _, _, _⟩) (v := ?_) rfl (by kernel_rfl) (by kernel_rfl) (by kernel_rfl) (fun _ _ _ h => h) (Or.inl ⟨by kernel_rfl, ?_⟩) (by assumption) ?_; rotate_left; (intro w hSw; (try dsimp only at hSw); go_simp; try with_reducible rfl); try simp only [Act.put, List.setIfInBounds_toArray, List.set_cons_zero, List.set_cons_succ]
      refine wpAnyH_take (i := 2) (oi := ⟨some _, _, _, _, _, _⟩) (v := ?_) rfl (by kernel_rfl) (by kernel_rfl) (by kernel_rfl) (fun _ _ _ h => h) (Or.inl ⟨by kernel_rfl, ?_⟩) (by assumption) ?_; rotate_left; (intro w hSw; (try dsimp only at hSw); go_simp; try with_reducible rfl); try simp only [Act.put, List.setIfInBounds_toArray, List.set_cons_zero, List.set_cons_succ]
      refine wpAnyH_take (i := 3) (oi := ⟨some _, _, _, _, _, _⟩) (v := ?_) rfl (by kernel_rfl) (by kernel_rfl) (by kernel_rfl) (fun _ _ _ h => h) (Or.inl ⟨by kernel_rfl, ?_⟩) (by assumption) ?_; rotate_left; (intro w hSw; (try dsimp only at hSw); go_simp; try with_reducible rfl); try simp only [Act.put, List.setIfInBounds_toArray, List.set_cons_zero, List.set_cons_succ]
      refine wpAnyH_take (i := 4) (oi := ⟨some _, _, _, _, _, _⟩) (v := ?_) rfl (by kernel_rfl) (by kernel_rfl) (by kernel_rfl) (fun _ _ _ h => h) (Or.inl ⟨by kernel_rfl, ?_⟩) (by assumption) ?_; rotate_left; (intro w hSw; (try dsimp only at hSw); go_simp; try with_reducible rfl); try simp only [Act.put, List.setIfInBounds_toArray, List.set_cons_zero, List.set_cons_succ]
      refine wpAnyH_take (i := 5) (oi := ⟨some _, _, _, _, _, _⟩) (v := ?_) rfl (by kernel_rfl) (by kernel_rfl) (by kernel_rfl) (fun _ _ _ h => h) (Or.inl ⟨by kernel_rfl, ?_⟩) (by assumption) ?_; rotate_left; (intro w hSw; (try dsimp only at hSw); go_simp; try with_reducible rfl); try simp only [Act.put, List.setIfInBounds_toArray, List.set_cons_zero, List.set_cons_succ]
      refine wpAnyH_take (i := 6) (oi := ⟨some _, _, _, _, _, _⟩) (v := ?_) rfl (by kernel_rfl) (by kernel_rfl) (by kernel_rfl) (fun _ _ _ h => h) (Or.inl ⟨by kernel_rfl, ?_⟩) (by assumption) ?_; rotate_left; (intro w hSw; (try dsimp only at hSw); go_simp; try with_reducible rfl); try simp only [Act.put, List.setIfInBounds_toArray, List.set_cons_zero, List.set_cons_succ]
      refine wpAnyH_take (i := 8) (oi := ⟨some _, _, _, _, _, _⟩) (v := ?_) rfl (by kernel_rfl) (by kernel_rfl) (by kernel_rfl) (fun _ _ _ h => h) (Or.inl ⟨by kernel_rfl, ?_⟩) (by assumption) ?_; rotate_left; (intro w hSw; (try dsimp only at hSw); go_simp; try with_reducible rfl); try simp only [Act.put, List.setIfInBounds_toArray, List.set_cons_zero, List.set_cons_succ]
      refine wpAnyH_take (i := 9) (oi := ⟨some _, _, _, _, _, _⟩) (v := ?_) rfl (by kernel_rfl) (by kernel_rfl) (by kernel_rfl) (fun _ _ _ h => h) (Or.inl ⟨by kernel_rfl, ?_⟩) (by assumption) ?_; rotate_left; (intro w hSw; (try dsimp only at hSw); go_simp; try with_reducible rfl); try simp only [Act.put, List.setIfInBounds_toArray, List.set_cons_zero, List.set_cons_succ]
      refine wpAnyH_take (i := 10) (oi := ⟨some _, _, _, _, _, _⟩) (v := ?_) rfl (by kernel_rfl) (by kernel_rfl) (by kernel_rfl) (fun _ _ _ h => h) (Or.inl ⟨by kernel_rfl, ?_⟩) (by assumption) ?_; rotate_left; (intro w hSw; (try dsimp only at hSw); go_simp; try with_reducible rfl); try simp only [Act.put, List.setIfInBounds_toArray, List.set_cons_zero, List.set_cons_succ]
      refine wpAnyH_take (i := 12) (oi := ⟨some _, _, _, _, _, _⟩) (v := ?_) rfl (by kernel_rfl) (by kernel_rfl) (by kernel_rfl) (fun _ _ _ h => h) (Or.inl ⟨by kernel_rfl, ?_⟩) (by assumption) ?_; rotate_left; (intro w hSw; (try dsimp only at hSw); go_simp; try with_reducible rfl); try simp only [Act.put, List.setIfInBounds_toArray, List.set_cons_zero, List.set_cons_succ]
      refine wpAnyH_take (i := 13) (oi := ⟨some _, _, _, _, _, _⟩) (v := ?_) rfl (by kernel_rfl) (by kernel_rfl) (by kernel_rfl) (fun _ _ _ h => h) (Or.inl ⟨by kernel_rfl, ?_⟩) (by assumption) ?_; rotate_left; (intro w hSw; (try dsimp only at hSw); go_simp; try with_reducible rfl); try simp only [Act.put, List.setIfInBounds_toArray, List.set_cons_zero, List.set_cons_succ]
      refine wpAnyH_take (i := 14) (oi := ⟨some _, _, _, _, _, _⟩) (v := ?_) rfl (by kernel_rfl) (by kernel_rfl) (by kernel_rfl) (fun _ _ _ h => h) (Or.inl ⟨by kernel_rfl, ?_⟩) (by assumption) ?_; rotate_left; (intro w hSw; (try dsimp only at hSw); go_simp; try with_reducible rfl); try simp only [Act.put, List.setIfInBounds_toArray, List.set_cons_zero, List.set_cons_succ]
      refine wpAnyH_take (i := 15) (oi := ⟨some _, _, _, _, _, _⟩) (v := ?_) rfl (by kernel_rfl) (by kernel_rfl) (by kernel_rfl) (fun _ _ _ h => h) (Or.inl ⟨by kernel_rfl, ?_⟩) (by assumption) ?_; rotate_left; (intro w hSw; (try dsimp only at hSw); go_simp; try with_reducible rfl); try simp only [Act.put, List.setIfInBounds_toArray, List.set_cons_zero, List.set_cons_succ]
      refine wpAnyH_ready (rs := [7, 11]) (by kernel_rfl) (by simp) ?_
      refine AllReadyH.cons (o := ⟨_, _, _, _, _, _⟩) rfl (fun K hK => ?_) (AllReadyH.cons (o := ⟨_, _, _, _, _, _⟩) rfl (fun K hK => ?_) AllReadyH.nil)
      · go_simp
        refine hK.out _ _ ?_ (fun hHeld => ?_)
        · (try dsimp only); exact hHeld
        clear hK K
        try simp only [Act.put, List.setIfInBounds_toArray, List.set_cons_zero, List.set_cons_succ]
        refine wpAnyH_ready (rs := [11]) (by kernel_rfl) (by simp) ?_
        refine AllReadyH.cons (o := ⟨_, _, _, _, _, _⟩) rfl (fun K hK => ?_) AllReadyH.nil
        go_simp
        refine hK.out _ _ ?_ (fun hHeld => ?_)
        · (try dsimp only); exact hHeld
        clear hK K
        try simp only [Act.put, List.setIfInBounds_toArray, List.set_cons_zero, List.set_cons_succ]
        refine wpAnyH_ready (rs := [16]) (by kernel_rfl) (by simp) ?_
        refine AllReadyH.cons (o := ⟨_, _, _, _, _, _⟩) rfl (fun K hK => ?_) AllReadyH.nil
        go_simp
        refine (HcT.out _).mono ?_
        rintro e V1 ⟨rfl, o1⟩
        go_wp2_with fail
        refine hK.out _ _ ?_ (fun hHeld => ?_)
        · (try dsimp only); exact HK1.out _ o1
        clear hK K
        try simp only [Act.put, List.setIfInBounds_toArray, List.set_cons_zero, List.set_cons_succ]
        refine wpAnyH_take (i := 17) (oi := ⟨some _, _, _, _, _, _⟩) (v := ?_) rfl (by kernel_rfl) (by kernel_rfl) (by kernel_rfl) (fun _ _ _ h => h) (Or.inl ⟨by kernel_rfl, ?_⟩) (by assumption) ?_; rotate_left; (intro w hSw; (try dsimp only at hSw); go_simp; try with_reducible rfl); try simp only [Act.put, List.setIfInBounds_toArray, List.set_cons_zero, List.set_cons_succ]
        refine wpAnyH_take (i := 18) (oi := ⟨some _, _, _, _, _, _⟩) (v := ?_) rfl (by kernel_rfl) (by kernel_rfl) (by kernel_rfl) (fun _ _ _ h => h) (Or.inl ⟨by kernel_rfl, ?_⟩) (by assumption) ?_; rotate_left; (intro w hSw; (try dsimp only at hSw); go_simp; try with_reducible rfl); try simp only [Act.put, List.setIfInBounds_toArray, List.set_cons_zero, List.set_cons_succ]
        refine wpAnyH_take (i := 19) (oi := ⟨some _, _, _, _, _, _⟩) (v := ?_) rfl (by kernel_rfl) (by kernel_rfl) (by kernel_rfl) (fun _ _ _ h => h) (Or.inl ⟨by kernel_rfl, ?_⟩) (by assumption) ?_; rotate_left; (intro w hSw; (try dsimp only at hSw); go_simp; try with_reducible rfl); try simp only [Act.put, List.setIfInBounds_toArray, List.set_cons_zero, List.set_cons_succ]
        refine wpAnyH_take (i := 20) (oi := ⟨some _, _, _, _, _, _⟩) (v := ?_) rfl (by kernel_rfl) (by kernel_rfl) (by kernel_rfl) (fun _ _ _ h => h) (Or.inl ⟨by kernel_rfl, ?_⟩) (by assumption) ?_; rotate_left; (intro w hSw; (try dsimp only at hSw); go_simp; try with_reducible rfl); try simp only [Act.put, List.setIfInBounds_toArray, List.set_cons_zero, List.set_cons_succ]
        obtain ⟨-, -, d3, d4, d5, d6⟩ := HCl.out V1 o1
        have dc := (HCl.out V1 o1).1
        refine wpAnyH_ready (rs := [21]) (by kernel_rfl) (by simp) ?_
        refine AllReadyH.cons (o := ⟨_, _, _, _, _, _⟩) rfl (fun K hK => ?_) AllReadyH.nil
        go_simp
        refine hK.out _ _ ?_ (fun hHeld => ?_)
        · (try dsimp only); exact HK2.out _ _ _ _ nga (HK1.out _ o1)
        clear hK K
        try simp only [Act.put, List.setIfInBounds_toArray, List.set_cons_zero, List.set_cons_succ]
        refine wpAnyH_take (i := 22) (oi := ⟨some _, _, _, _, _, _⟩) (v := ?_) rfl (by kernel_rfl) (by kernel_rfl) (by kernel_rfl) (fun _ _ _ h => h) (Or.inl ⟨by kernel_rfl, ?_⟩) (by assumption) ?_; rotate_left; (intro w hSw; (try dsimp only at hSw); go_simp; try with_reducible rfl); try simp only [Act.put, List.setIfInBounds_toArray, List.set_cons_zero, List.set_cons_succ]
        refine wpAnyH_ready (rs := [23]) (by kernel_rfl) (by simp) ?_
        refine AllReadyH.cons (o := ⟨_, _, _, _, _, _⟩) rfl (fun K hK => ?_) AllReadyH.nil
        go_simp
        refine hK.out _ _ ?_ (fun hHeld => ?_)
        · (try dsimp only); exact HK2.out _ _ _ _ ngb (HK2.out _ _ _ _ nga (HK1.out _ o1))
        clear hK K
        try simp only [Act.put, List.setIfInBounds_toArray, List.set_cons_zero, List.set_cons_succ]
        refine wpAnyH_done (by kernel_rfl) ?_ _
        have HN := Lib.hid (NX.out V1 o1)
        clear HK1 HK2 HCl NX HcT o1 c1 c2 c3 c4 c5 c6 d3 d4 d5 d6 dc
        go_wp2_with fail
        go_roundw
        case rel => exact ⟨k + 1, by omega, by go_num, HN⟩
        case measure => (simp [intOf]; try omega)
      · go_simp
        refine hK.out _ _ ?_ (fun hHeld => ?_)
        · (try dsimp only); exact hHeld
        clear hK K
        try simp only [Act.put, List.setIfInBounds_toArray, List.set_cons_zero, List.set_cons_succ]
        refine wpAnyH_ready (rs := [7]) (by kernel_rfl) (by simp) ?_
        refine AllReadyH.cons (o := ⟨_, _, _, _, _, _⟩) rfl (fun K hK => ?_) AllReadyH.nil
        go_simp
        refine hK.out _ _ ?_ (fun hHeld => ?_)
        · (try dsimp only); exact hHeld
        clear hK K
        try simp only [Act.put, List.setIfInBounds_toArray, List.set_cons_zero, List.set_cons_succ]
        refine wpAnyH_ready (rs := [16]) (by kernel_rfl) (by simp) ?_
        refine AllReadyH.cons (o := ⟨_, _, _, _, _, _⟩) rfl (fun K hK => ?_) AllReadyH.nil
        go_simp
        refine (HcT.out _).mono ?_
        rintro e V1 ⟨rfl, o1⟩
        go_wp2_with fail
        refine hK.out _ _ ?_ (fun hHeld => ?_)
        · (try dsimp only); exact HK1.out _ o1
        clear hK K
        try simp only [Act.put, List.setIfInBounds_toArray, List.set_cons_zero, List.set_cons_succ]
        refine wpAnyH_take (i := 17) (oi := ⟨some _, _, _, _, _, _⟩) (v := ?_) rfl (by kernel_rfl) (by kernel_rfl) (by kernel_rfl) (fun _ _ _ h => h) (Or.inl ⟨by kernel_rfl, ?_⟩) (by assumption) ?_; rotate_left; (intro w hSw; (try dsimp only at hSw); go_simp; try with_reducible rfl); try simp only [Act.put, List.setIfInBounds_toArray, List.set_cons_zero, List.set_cons_succ]
        refine wpAnyH_take (i := 18) (oi := ⟨some _, _, _, _, _, _⟩) (v := ?_) rfl (by kernel_rfl) (by kernel_rfl) (by kernel_rfl) (fun _ _ _ h => h) (Or.inl ⟨by kernel_rfl, ?_⟩) (by assumption) ?_; rotate_left; (intro w hSw; (try dsimp only at hSw); go_simp; try with_reducible rfl); try simp only [Act.put, List.setIfInBounds_toArray, List.set_cons_zero, List.set_cons_succ]
        refine wpAnyH_take (i := 19) (oi := ⟨some _, _, _, _, _, _⟩) (v := ?_) rfl (by kernel_rfl) (by kernel_rfl) (by kernel_rfl) (fun _ _ _ h => h) (Or.inl ⟨by kernel_rfl, ?_⟩) (by assumption) ?_; rotate_left; (intro w hSw; (try dsimp only at hSw); go_simp; try with_reducible rfl); try simp only [Act.put, List.setIfInBounds_toArray, List.set_cons_zero, List.set_cons_succ]
        refine wpAnyH_take (i := 20) (oi := ⟨some _, _, _, _, _, _⟩) (v := ?_) rfl (by kernel_rfl) (by kernel_rfl) (by kernel_rfl) (fun _ _ _ h => h) (Or.inl ⟨by kernel_rfl, ?_⟩) (by assumption) ?_; rotate_left; (intro w hSw; (try dsimp only at hSw); go_simp; try with_reducible rfl); try simp only [Act.put, List.setIfInBounds_toArray, List.set_cons_zero, List.set_cons_succ]
        obtain ⟨-, -, d3, d4, d5, d6⟩ := HCl.out V1 o1
        have dc := (HCl.out V1 o1).1
        refine wpAnyH_ready (rs := [21]) (by kernel_rfl) (by simp) ?_
        refine AllReadyH.cons (o := ⟨_, _, _, _, _, _⟩) rfl (fun K hK => ?_) AllReadyH.nil
        go_simp
        refine hK.out _ _ ?_ (fun hHeld => ?_)
        · (try dsimp only); exact HK2.out _ _ _ _ nga (HK1.out _ o1)
        clear hK K
        try simp only [Act.put, List.setIfInBounds_toArray, List.set_cons_zero, List.set_cons_succ]
        refine wpAnyH_take (i := 22) (oi := ⟨some _, _, _, _, _, _⟩) (v := ?_) rfl (by kernel_rfl) (by kernel_rfl) (by kernel_rfl) (fun _ _ _ h => h) (Or.inl ⟨by kernel_rfl, ?_⟩) (by assumption) ?_; rotate_left; (intro w hSw; (try dsimp only at hSw); go_simp; try with_reducible rfl); try simp only [Act.put, List.setIfInBounds_toArray, List.set_cons_zero, List.set_cons_succ]
        refine wpAnyH_ready (rs := [23]) (by kernel_rfl) (by simp) ?_
        refine AllReadyH.cons (o := ⟨_, _, _, _, _, _⟩) rfl (fun K hK => ?_) AllReadyH.nil
        go_simp
        refine hK.out _ _ ?_ (fun hHeld => ?_)
        · (try dsimp only); exact HK2.out _ _ _ _ ngb (HK2.out _ _ _ _ nga (HK1.out _ o1))
        clear hK K
        try simp only [Act.put, List.setIfInBounds_toArray, List.set_cons_zero, List.set_cons_succ]
        refine wpAnyH_done (by kernel_rfl) ?_ _
        have HN := Lib.hid (NX.out V1 o1)
        clear HK1 HK2 HCl NX HcT o1 c1 c2 c3 c4 c5 c6 d3 d4 d5 d6 dc
        go_wp2_with fail
        go_roundw
        case rel => exact ⟨k + 1, by omega, by go_num, HN⟩
        case measure => (simp [intOf]; try omega)
    · obtain rfl : k = 8 := by omega
      have HE : Hid (CellsAt wr ga 8 (metA turnWA fa (fun k => F (ob + k))) ∧ CellsAt wr gb m (patch F ob 8 (metA turnWB fa (fun k => F (ob + k)))) ∧ Kept X w wr) := by
        have h := HS.out.ext (fa' := (metA turnWA fa (fun k => F (ob + k)))) (fb' := (metA turnWB fa (fun k => F (ob + k)))) (fun j hj => by unfold upto; rw [if_pos hj]) (fun j hj => by unfold upto; rw [if_pos hj])
        exact ⟨h.a, h.b, h.k⟩
      clear HS HT HR
      go_wp2_with fail
      go_end0
      exact ⟨rfl, HE.out⟩
set_option maxRecDepth 100000 in
set_option maxHeartbeats 4000000 in
theorem PBack_any (X : Nat → Prop) (ga gb m ob ca cb : Nat) (fa F : Nat → Int) (w : World) (ha : CellsAt w ga 8 fa) (hb : CellsAt w gb m F) (hm : ob + 8 ≤ m) (hne : ga ≠ gb) (xa : ¬ X ga) (xb : ¬ X gb) (hX : ∀ q, X q → q < w.heap.size) :
    Calls Tryz.prog 61 #[.agg T8, .slice (some ⟨ga, 0, none⟩) 8 ca, .slice (some ⟨gb, ob, none⟩) 8 cb] w fun e w' => e = .returned (.tuple #[]) ∧
      CellsAt w' ga 8 (metA backWA fa (fun k => F (ob + k))) ∧ CellsAt w' gb m (patch F ob 8 (metA backWB fa (fun k => F (ob + k)))) ∧ Kept X w w' := by
  have hs := T8_size
  have HT := Lib.hid T8_at
  have HZ : Hid ((Tryz.prog.info? 43).map (·.size) = some 16) := Lib.hid (by kernel_rfl)
  have hC := Lib.hid (fun w => count_any (some ⟨ga, 0, none⟩) (some ⟨gb, ob, none⟩) ca cb w)
  have H0 : Hid (∀ W, Old (w.alloc (.cells T8 43)) W → PT X w w.heap.size 43 ga gb m ob F fa (fun k => F (ob + k)) W) := fun W hW => by
    have h1 := (Old.alloc w (.cells T8 43)).trans hW
    refine ⟨ha.old h1, (hb.old h1).ext fun j hj => ?_, (hW.block _ (by simp)).trans (heap_alloc_new _ _), Kept.mono h1 hX⟩
    unfold patch
    dsimp only
    split
    · rw [show ob + (j - ob) = j by omega]
    · rfl
  have hga := ha.lt
  have hgb := hb.lt
  have HP : Hid (PT X w w.heap.size 43 ga gb m ob F = PT X w w.heap.size 43 ga gb m ob F) := rfl
  clear ha hb HP
  generalize hR : T8 = R at hs hC ⊢
  have HR := Lib.hid hR
  clear hR
  go_enter Tryz.func61, Tryz.ntmps61
  go_wp2_with (with_reducible refine wpList_load_row rfl 43 _ rfl w.heap.size rfl 43 R (0, 0) _ (heap_alloc_new _ _) Tryz.underlying43 rfl (by rw [hs]; exact HZ.out) ?_)
  refine (hC.out _).mono ?_
  rintro e w1 ⟨rfl, ho1⟩
  have H1 : Hid (PT X w w.heap.size 43 ga gb m ob F fa (fun k => F (ob + k)) w1) := H0.out w1 (by rw [HR.out]; exact ho1)
  clear H0 ho1 hC
  go_wp2_with fail
  go_loopw [6] (fun i wr => ∃ k : Nat, k ≤ 8 ∧ i = .int .i64 ((k : Int) - 1) ∧ Hid (PT X w w.heap.size 43 ga gb m ob F (from_ k (metA backWA fa (fun k => F (ob + k))) fa) (from_ k (metA backWB fa (fun k => F (ob + k))) (fun k => F (ob + k))) wr)) (fun i _ => (intOf i + 1).toNat)
  case atStart => exact ⟨8, by omega, rfl, H1.out.ext (fun j hj => (from_eight (metA backWA fa (fun k => F (ob + k))) fa j hj).symm) (fun j hj => (from_eight (metA backWB fa (fun k => F (ob + k))) (fun k => F (ob + k)) j hj).symm)⟩
  case round =>
    obtain ⟨k1, hk, rfl, HS⟩ := hrel
    clear H1
    by_cases hlt : 0 < k1
    · obtain ⟨k, rfl⟩ : ∃ k, k1 = k + 1 := ⟨k1 - 1, by omega⟩
      rw [show ((k + 1 : Nat) : Int) - 1 = (k : Int) by omega]
      have i1 : (0 : Int) ≤ k := by omega
      have i2 : (k : Int) < 8 := by omega
      have hk8 : k < 8 := by omega
      obtain ⟨ga', hga'⟩ : ∃ f, f = from_ (k + 1) (metA backWA fa (fun k => F (ob + k))) fa := ⟨_, rfl⟩
      obtain ⟨gb', hgb'⟩ : ∃ f, f = from_ (k + 1) (metA backWB fa (fun k => F (ob + k))) (fun k => F (ob + k)) := ⟨_, rfl⟩
      have ea : ga' k = fa k := by rw [hga']; unfold from_; rw [if_pos (by omega)]
      have eb : gb' k = F (ob + k) := by rw [hgb']; unfold from_; rw [if_pos (by omega)]
      rw [← hga', ← hgb'] at HS
      have hcT := fun w => Back_all (fa k) (F (ob + k)) (turnP k) (turnU k) w
      have na : ∀ j, j < 8 → (if j = k then backWA (fa k) (F (ob + k)) (turnP k) (turnU k) else ga' j) = from_ k (metA backWA fa (fun k => F (ob + k))) fa j := fun j hj => by
        rw [hga']; unfold from_ metA
        by_cases e : j = k
        · subst e; rw [if_pos rfl, if_neg (by omega)]
        · rw [if_neg e]
          by_cases c : j < k
          · rw [if_pos (by omega), if_pos (by omega)]
          · rw [if_neg (by omega), if_neg (by omega)]
      have nb : ∀ j, j < 8 → (if j = k then backWB (fa k) (F (ob + k)) (turnP k) (turnU k) else gb' j) = from_ k (metA backWB fa (fun k => F (ob + k))) (fun k => F (ob + k)) j := fun j hj => by
        rw [hgb']; unfold from_ metA
        by_cases e : j = k
        · subst e; rw [if_pos rfl, if_neg (by omega)]
        · rw [if_neg e]
          by_cases c : j < k
          · rw [if_pos (by omega), if_pos (by omega)]
          · rw [if_neg (by omega), if_neg (by omega)]
      obtain ⟨x, hx⟩ : ∃ x, x = fa k := ⟨_, rfl⟩
      obtain ⟨y, hy⟩ : ∃ y, y = F (ob + k) := ⟨_, rfl⟩
      rw [← hx, ← hy] at hcT na nb
      rw [← hx] at ea
      rw [← hy] at eb
      have hT8 := HT.out k hk8
      rw [HR.out] at hT8
      have ht := HS.out.t
      rw [HR.out] at ht
      generalize turnP k = pv at *
      generalize turnU k = uv at *
      generalize hva : backWA x y pv uv = va at *
      generalize hvb : backWB x y pv uv = vb at *
      have NX : Hid (∀ V, Old wr.drew V → PT X w w.heap.size 43 ga gb m ob F (from_ k (metA backWA fa (fun k => F (ob + k))) fa) (from_ k (metA backWB fa (fun k => F (ob + k))) (fun k => F (ob + k))) ((V.setCell ⟨ga, k, none⟩ (.int .i64 va)).setCell ⟨gb, ob + k, none⟩ (.int .i64 vb))) := fun V hV =>
        (HS.out.step (Old.drew (Old.refl _) |>.trans hV) hX hk8 hm hne (by omega) (by omega) xa xb va vb).ext na nb
      have keep1 : ∀ V : World, Old wr.drew V → V.cell? ⟨w.heap.size, k * 2, none⟩ = some (.int .i64 pv) ∧ V.cell? ⟨w.heap.size, k * 2 + 1, none⟩ = some (.int .i64 uv) := fun V hV => by
        have e : V.heap[w.heap.size]? = some (.cells R 43 (0, 0)) := (hV.block _ (lt_of_block ht)).trans ht
        exact ⟨(cell_of_row _ _ _ _ _ _ e).trans hT8.1, (cell_of_row _ _ _ _ _ _ e).trans hT8.2⟩
      have keep2 : ∀ (V : World) (g j : Nat) (v : Value), w.heap.size ≠ g → (V.cell? ⟨w.heap.size, k * 2, none⟩ = some (.int .i64 pv) ∧ V.cell? ⟨w.heap.size, k * 2 + 1, none⟩ = some (.int .i64 uv)) → (V.setCell ⟨g, j, none⟩ v).cell? ⟨w.heap.size, k * 2, none⟩ = some (.int .i64 pv) ∧ (V.setCell ⟨g, j, none⟩ v).cell? ⟨w.heap.size, k * 2 + 1, none⟩ = some (.int .i64 uv) := fun V g j v hg hV =>
        ⟨(World.cell?_setCell_far _ _ _ _ (fun e => hg e.symm)).trans hV.1, (World.cell?_setCell_far _ _ _ _ (fun e => hg e.symm)).trans hV.2⟩
      have cells : ∀ V : World, Old wr.drew V → V.cell? ⟨ga, k, none⟩ = some (.int .i64 x) ∧ V.cell? ⟨gb, ob + k, none⟩ = some (.int .i64 y) ∧ V.frozen? ⟨ga, k, none⟩ = false ∧ V.frozen? ⟨gb, ob + k, none⟩ = false ∧
          (V.setCell ⟨ga, k, none⟩ (.int .i64 va)).cell? ⟨gb, ob + k, none⟩ = some (.int .i64 y) ∧ (V.setCell ⟨ga, k, none⟩ (.int .i64 va)).frozen? ⟨gb, ob + k, none⟩ = false := fun V hV => by
        have a1 := (HS.out.a.drew.old hV).cell k hk8
        have a2 := (HS.out.a.drew.old hV).frz k hk8
        have b1 := (HS.out.b.drew.old hV).cell (ob + k) (by omega)
        have b2 := (HS.out.b.drew.old hV).frz (ob + k) (by omega)
        unfold patch at b1
        rw [if_pos ⟨by omega, by omega⟩, show ob + k - ob = k by omega, eb] at b1
        rw [ea] at a1
        refine ⟨a1, b1, a2, b2, ?_, ?_⟩
        · rw [World.cell?_setCell_far _ _ _ _ (by exact hne)]; exact b1
        · rw [World.frozen?_setCell]; exact b2
      have HK1 := Lib.hid keep1
      have HK2 := Lib.hid keep2
      have HCl := Lib.hid cells
      have HcT := Lib.hid hcT
      have nga : w.heap.size ≠ ga := by omega
      have ngb : w.heap.size ≠ gb := by omega
      obtain ⟨c1, c2, c3, c4, c5, c6⟩ := cells wr.drew (Old.refl _)
      clear keep1 keep2 cells hcT na nb hx hy hga' hgb' ea eb hT8 ht HS HT HR hva hvb HZ
      go_wp2_with fail
      refine wp_region_held_drew (S := (fun w' => w'.cell? ⟨w.heap.size, k * 2, none⟩ = some (.int .i64 pv) ∧ w'.cell? ⟨w.heap.size, k * 2 + 1, none⟩ = some (.int .i64 uv))) (by kernel_rfl) ?_ (fun hHeld => ?_)
      · (try dsimp only); exact HK1.out _ (Old.refl _)
      refine wpAnyH_take (i := 0) (oi := ⟨some _, _, _, _, _, _⟩) (v := ?_) rfl (by kernel_rfl) (by kernel_rfl) (by kernel_rfl) (fun _ _ _ h => h) (Or.inl ⟨by kernel_rfl, ?_⟩) (by assumption) ?_; rotate_left; (intro w hSw; (try dsimp only at hSw); go_simp; try with_reducible rfl); try simp only [Act.put, List.setIfInBounds_toArray, List.set_cons_zero, List.set_cons_succ]
      refine wpAnyH_take (i := 1) (oi := ⟨some _, _, _, _, _, _⟩) (v := ?_) rfl (by kernel_rfl) (by kernel_rfl) (by kernel_rfl) (fun _ _ _ h => h) (Or.inl ⟨by kernel_rfl, ?_⟩) (by assumption) ?_; rotate_left; (intro w hSw; (try dsimp only at hSw); go_simp; try with_reducible rfl); try simp only [Act.put, List.setIfInBounds_toArray, List.set_cons_zero, List.set_cons_succ]
      refine wpAnyH_take (i := 2) (oi := ⟨some _, _, _, _, _, _⟩) (v := ?_) rfl (by kernel_rfl) (by kernel_rfl) (by kernel_rfl) (fun _ _ _ h => h) (Or.inl ⟨by kernel_rfl, ?_⟩) (by assumption) ?_; rotate_left; (intro w hSw; (try dsimp only at hSw); go_simp; try with_reducible rfl); try simp only [Act.put, List.setIfInBounds_toArray, List.set_cons_zero, List.set_cons_succ]
      refine wpAnyH_take (i := 3) (oi := ⟨some _, _, _, _, _, _⟩) (v := ?_) rfl (by kernel_rfl) (by kernel_rfl) (by kernel_rfl) (fun _ _ _ h => h) (Or.inl ⟨by kernel_rfl, ?_⟩) (by assumption) ?_; rotate_left; (intro w hSw; (try dsimp only at hSw); go_simp; try with_reducible rfl); try simp only [Act.put, List.setIfInBounds_toArray, List.set_cons_zero, List.set_cons_succ]
      refine wpAnyH_take (i := 4) (oi := ⟨some _, _, _, _, _, _⟩) (v := ?_) rfl (by kernel_rfl) (by kernel_rfl) (by kernel_rfl) (fun _ _ _ h => h) (Or.inl ⟨by kernel_rfl, ?_⟩) (by assumption) ?_; rotate_left; (intro w hSw; (try dsimp only at hSw); go_simp; try with_reducible rfl); try simp only [Act.put, List.setIfInBounds_toArray, List.set_cons_zero, List.set_cons_succ]
      refine wpAnyH_take (i := 5) (oi := ⟨some _, _, _, _, _, _⟩) (v := ?_) rfl (by kernel_rfl) (by kernel_rfl) (by kernel_rfl) (fun _ _ _ h => h) (Or.inl ⟨by kernel_rfl, ?_⟩) (by assumption) ?_; rotate_left; (intro w hSw; (try dsimp only at hSw); go_simp; try with_reducible rfl); try simp only [Act.put, List.setIfInBounds_toArray, List.set_cons_zero, List.set_cons_succ]
      refine wpAnyH_take (i := 6) (oi := ⟨some _, _, _, _, _, _⟩) (v := ?_) rfl (by kernel_rfl) (by kernel_rfl) (by kernel_rfl) (fun _ _ _ h => h) (Or.inl ⟨by kernel_rfl, ?_⟩) (by assumption) ?_; rotate_left; (intro w hSw; (try dsimp only at hSw); go_simp; try with_reducible rfl); try simp only [Act.put, List.setIfInBounds_toArray, List.set_cons_zero, List.set_cons_succ]
      refine wpAnyH_take (i := 8) (oi := ⟨some _, _, _, _, _, _⟩) (v := ?_) rfl (by kernel_rfl) (by kernel_rfl) (by kernel_rfl) (fun _ _ _ h => h) (Or.inl ⟨by kernel_rfl, ?_⟩) (by assumption) ?_; rotate_left; (intro w hSw; (try dsimp only at hSw); go_simp; try with_reducible rfl); try simp only [Act.put, List.setIfInBounds_toArray, List.set_cons_zero, List.set_cons_succ]
      refine wpAnyH_take (i := 9) (oi := ⟨some _, _, _, _, _, _⟩) (v := ?_) rfl (by kernel_rfl) (by kernel_rfl) (by kernel_rfl) (fun _ _ _ h => h) (Or.inl ⟨by kernel_rfl, ?_⟩) (by assumption) ?_; rotate_left; (intro w hSw; (try dsimp only at hSw); go_simp; try with_reducible rfl); try simp only [Act.put, List.setIfInBounds_toArray, List.set_cons_zero, List.set_cons_succ]
      refine wpAnyH_take (i := 10) (oi := ⟨some _, _, _, _, _, _⟩) (v := ?_) rfl (by kernel_rfl) (by kernel_rfl) (by kernel_rfl) (fun _ _ _ h => h) (Or.inl ⟨by kernel_rfl, ?_⟩) (by assumption) ?_; rotate_left; (intro w hSw; (try dsimp only at hSw); go_simp; try with_reducible rfl); try simp only [Act.put, List.setIfInBounds_toArray, List.set_cons_zero, List.set_cons_succ]
      refine wpAnyH_take (i := 12) (oi := ⟨some _, _, _, _, _, _⟩) (v := ?_) rfl (by kernel_rfl) (by kernel_rfl) (by kernel_rfl) (fun _ _ _ h => h) (Or.inl ⟨by kernel_rfl, ?_⟩) (by assumption) ?_; rotate_left; (intro w hSw; (try dsimp only at hSw); go_simp; try with_reducible rfl); try simp only [Act.put, List.setIfInBounds_toArray, List.set_cons_zero, List.set_cons_succ]
      refine wpAnyH_take (i := 13) (oi := ⟨some _, _, _, _, _, _⟩) (v := ?_) rfl (by kernel_rfl) (by kernel_rfl) (by kernel_rfl) (fun _ _ _ h => h) (Or.inl ⟨by kernel_rfl, ?_⟩) (by assumption) ?_; rotate_left; (intro w hSw; (try dsimp only at hSw); go_simp; try with_reducible rfl); try simp only [Act.put, List.setIfInBounds_toArray, List.set_cons_zero, List.set_cons_succ]
      refine wpAnyH_take (i := 14) (oi := ⟨some _, _, _, _, _, _⟩) (v := ?_) rfl (by kernel_rfl) (by kernel_rfl) (by kernel_rfl) (fun _ _ _ h => h) (Or.inl ⟨by kernel_rfl, ?_⟩) (by assumption) ?_; rotate_left; (intro w hSw; (try dsimp only at hSw); go_simp; try with_reducible rfl); try simp only [Act.put, List.setIfInBounds_toArray, List.set_cons_zero, List.set_cons_succ]
      refine wpAnyH_take (i := 15) (oi := ⟨some _, _, _, _, _, _⟩) (v := ?_) rfl (by kernel_rfl) (by kernel_rfl) (by kernel_rfl) (fun _ _ _ h => h) (Or.inl ⟨by kernel_rfl, ?_⟩) (by assumption) ?_; rotate_left; (intro w hSw; (try dsimp only at hSw); go_simp; try with_reducible rfl); try simp only [Act.put, List.setIfInBounds_toArray, List.set_cons_zero, List.set_cons_succ]
      refine wpAnyH_ready (rs := [7, 11]) (by kernel_rfl) (by simp) ?_
      refine AllReadyH.cons (o := ⟨_, _, _, _, _, _⟩) rfl (fun K hK => ?_) (AllReadyH.cons (o := ⟨_, _, _, _, _, _⟩) rfl (fun K hK => ?_) AllReadyH.nil)
      · go_simp
        refine hK.out _ _ ?_ (fun hHeld => ?_)
        · (try dsimp only); exact hHeld
        clear hK K
        try simp only [Act.put, List.setIfInBounds_toArray, List.set_cons_zero, List.set_cons_succ]
        refine wpAnyH_ready (rs := [11]) (by kernel_rfl) (by simp) ?_
        refine AllReadyH.cons (o := ⟨_, _, _, _, _, _⟩) rfl (fun K hK => ?_) AllReadyH.nil
        go_simp
        refine hK.out _ _ ?_ (fun hHeld => ?_)
        · (try dsimp only); exact hHeld
        clear hK K
        try simp only [Act.put, List.setIfInBounds_toArray, List.set_cons_zero, List.set_cons_succ]
        refine wpAnyH_ready (rs := [16]) (by kernel_rfl) (by simp) ?_
        refine AllReadyH.cons (o := ⟨_, _, _, _, _, _⟩) rfl (fun K hK => ?_) AllReadyH.nil
        go_simp
        refine (HcT.out _).mono ?_
        rintro e V1 ⟨rfl, o1⟩
        go_wp2_with fail
        refine hK.out _ _ ?_ (fun hHeld => ?_)
        · (try dsimp only); exact HK1.out _ o1
        clear hK K
        try simp only [Act.put, List.setIfInBounds_toArray, List.set_cons_zero, List.set_cons_succ]
        refine wpAnyH_take (i := 17) (oi := ⟨some _, _, _, _, _, _⟩) (v := ?_) rfl (by kernel_rfl) (by kernel_rfl) (by kernel_rfl) (fun _ _ _ h => h) (Or.inl ⟨by kernel_rfl, ?_⟩) (by assumption) ?_; rotate_left; (intro w hSw; (try dsimp only at hSw); go_simp; try with_reducible rfl); try simp only [Act.put, List.setIfInBounds_toArray, List.set_cons_zero, List.set_cons_succ]
        refine wpAnyH_take (i := 18) (oi := ⟨some _, _, _, _, _, _⟩) (v := ?_) rfl (by kernel_rfl) (by kernel_rfl) (by kernel_rfl) (fun _ _ _ h => h) (Or.inl ⟨by kernel_rfl, ?_⟩) (by assumption) ?_; rotate_left; (intro w hSw; (try dsimp only at hSw); go_simp; try with_reducible rfl); try simp only [Act.put, List.setIfInBounds_toArray, List.set_cons_zero, List.set_cons_succ]
        refine wpAnyH_take (i := 19) (oi := ⟨some _, _, _, _, _, _⟩) (v := ?_) rfl (by kernel_rfl) (by kernel_rfl) (by kernel_rfl) (fun _ _ _ h => h) (Or.inl ⟨by kernel_rfl, ?_⟩) (by assumption) ?_; rotate_left; (intro w hSw; (try dsimp only at hSw); go_simp; try with_reducible rfl); try simp only [Act.put, List.setIfInBounds_toArray, List.set_cons_zero, List.set_cons_succ]
        refine wpAnyH_take (i := 20) (oi := ⟨some _, _, _, _, _, _⟩) (v := ?_) rfl (by kernel_rfl) (by kernel_rfl) (by kernel_rfl) (fun _ _ _ h => h) (Or.inl ⟨by kernel_rfl, ?_⟩) (by assumption) ?_; rotate_left; (intro w hSw; (try dsimp only at hSw); go_simp; try with_reducible rfl); try simp only [Act.put, List.setIfInBounds_toArray, List.set_cons_zero, List.set_cons_succ]
        obtain ⟨-, -, d3, d4, d5, d6⟩ := HCl.out V1 o1
        have dc := (HCl.out V1 o1).1
        refine wpAnyH_ready (rs := [21]) (by kernel_rfl) (by simp) ?_
        refine AllReadyH.cons (o := ⟨_, _, _, _, _, _⟩) rfl (fun K hK => ?_) AllReadyH.nil
        go_simp
        refine hK.out _ _ ?_ (fun hHeld => ?_)
        · (try dsimp only); exact HK2.out _ _ _ _ nga (HK1.out _ o1)
        clear hK K
        try simp only [Act.put, List.setIfInBounds_toArray, List.set_cons_zero, List.set_cons_succ]
        refine wpAnyH_take (i := 22) (oi := ⟨some _, _, _, _, _, _⟩) (v := ?_) rfl (by kernel_rfl) (by kernel_rfl) (by kernel_rfl) (fun _ _ _ h => h) (Or.inl ⟨by kernel_rfl, ?_⟩) (by assumption) ?_; rotate_left; (intro w hSw; (try dsimp only at hSw); go_simp; try with_reducible rfl); try simp only [Act.put, List.setIfInBounds_toArray, List.set_cons_zero, List.set_cons_succ]
        refine wpAnyH_ready (rs := [23]) (by kernel_rfl) (by simp) ?_
        refine AllReadyH.cons (o := ⟨_, _, _, _, _, _⟩) rfl (fun K hK => ?_) AllReadyH.nil
        go_simp
        refine hK.out _ _ ?_ (fun hHeld => ?_)
        · (try dsimp only); exact HK2.out _ _ _ _ ngb (HK2.out _ _ _ _ nga (HK1.out _ o1))
        clear hK K
        try simp only [Act.put, List.setIfInBounds_toArray, List.set_cons_zero, List.set_cons_succ]
        refine wpAnyH_done (by kernel_rfl) ?_ _
        have HN := Lib.hid (NX.out V1 o1)
        clear HK1 HK2 HCl NX HcT o1 c1 c2 c3 c4 c5 c6 d3 d4 d5 d6 dc
        go_wp2_with fail
        go_roundw
        case rel => exact ⟨k, by omega, by go_num, HN⟩
        case measure => (simp [intOf]; try omega)
      · go_simp
        refine hK.out _ _ ?_ (fun hHeld => ?_)
        · (try dsimp only); exact hHeld
        clear hK K
        try simp only [Act.put, List.setIfInBounds_toArray, List.set_cons_zero, List.set_cons_succ]
        refine wpAnyH_ready (rs := [7]) (by kernel_rfl) (by simp) ?_
        refine AllReadyH.cons (o := ⟨_, _, _, _, _, _⟩) rfl (fun K hK => ?_) AllReadyH.nil
        go_simp
        refine hK.out _ _ ?_ (fun hHeld => ?_)
        · (try dsimp only); exact hHeld
        clear hK K
        try simp only [Act.put, List.setIfInBounds_toArray, List.set_cons_zero, List.set_cons_succ]
        refine wpAnyH_ready (rs := [16]) (by kernel_rfl) (by simp) ?_
        refine AllReadyH.cons (o := ⟨_, _, _, _, _, _⟩) rfl (fun K hK => ?_) AllReadyH.nil
        go_simp
        refine (HcT.out _).mono ?_
        rintro e V1 ⟨rfl, o1⟩
        go_wp2_with fail
        refine hK.out _ _ ?_ (fun hHeld => ?_)
        · (try dsimp only); exact HK1.out _ o1
        clear hK K
        try simp only [Act.put, List.setIfInBounds_toArray, List.set_cons_zero, List.set_cons_succ]
        refine wpAnyH_take (i := 17) (oi := ⟨some _, _, _, _, _, _⟩) (v := ?_) rfl (by kernel_rfl) (by kernel_rfl) (by kernel_rfl) (fun _ _ _ h => h) (Or.inl ⟨by kernel_rfl, ?_⟩) (by assumption) ?_; rotate_left; (intro w hSw; (try dsimp only at hSw); go_simp; try with_reducible rfl); try simp only [Act.put, List.setIfInBounds_toArray, List.set_cons_zero, List.set_cons_succ]
        refine wpAnyH_take (i := 18) (oi := ⟨some _, _, _, _, _, _⟩) (v := ?_) rfl (by kernel_rfl) (by kernel_rfl) (by kernel_rfl) (fun _ _ _ h => h) (Or.inl ⟨by kernel_rfl, ?_⟩) (by assumption) ?_; rotate_left; (intro w hSw; (try dsimp only at hSw); go_simp; try with_reducible rfl); try simp only [Act.put, List.setIfInBounds_toArray, List.set_cons_zero, List.set_cons_succ]
        refine wpAnyH_take (i := 19) (oi := ⟨some _, _, _, _, _, _⟩) (v := ?_) rfl (by kernel_rfl) (by kernel_rfl) (by kernel_rfl) (fun _ _ _ h => h) (Or.inl ⟨by kernel_rfl, ?_⟩) (by assumption) ?_; rotate_left; (intro w hSw; (try dsimp only at hSw); go_simp; try with_reducible rfl); try simp only [Act.put, List.setIfInBounds_toArray, List.set_cons_zero, List.set_cons_succ]
        refine wpAnyH_take (i := 20) (oi := ⟨some _, _, _, _, _, _⟩) (v := ?_) rfl (by kernel_rfl) (by kernel_rfl) (by kernel_rfl) (fun _ _ _ h => h) (Or.inl ⟨by kernel_rfl, ?_⟩) (by assumption) ?_; rotate_left; (intro w hSw; (try dsimp only at hSw); go_simp; try with_reducible rfl); try simp only [Act.put, List.setIfInBounds_toArray, List.set_cons_zero, List.set_cons_succ]
        obtain ⟨-, -, d3, d4, d5, d6⟩ := HCl.out V1 o1
        have dc := (HCl.out V1 o1).1
        refine wpAnyH_ready (rs := [21]) (by kernel_rfl) (by simp) ?_
        refine AllReadyH.cons (o := ⟨_, _, _, _, _, _⟩) rfl (fun K hK => ?_) AllReadyH.nil
        go_simp
        refine hK.out _ _ ?_ (fun hHeld => ?_)
        · (try dsimp only); exact HK2.out _ _ _ _ nga (HK1.out _ o1)
        clear hK K
        try simp only [Act.put, List.setIfInBounds_toArray, List.set_cons_zero, List.set_cons_succ]
        refine wpAnyH_take (i := 22) (oi := ⟨some _, _, _, _, _, _⟩) (v := ?_) rfl (by kernel_rfl) (by kernel_rfl) (by kernel_rfl) (fun _ _ _ h => h) (Or.inl ⟨by kernel_rfl, ?_⟩) (by assumption) ?_; rotate_left; (intro w hSw; (try dsimp only at hSw); go_simp; try with_reducible rfl); try simp only [Act.put, List.setIfInBounds_toArray, List.set_cons_zero, List.set_cons_succ]
        refine wpAnyH_ready (rs := [23]) (by kernel_rfl) (by simp) ?_
        refine AllReadyH.cons (o := ⟨_, _, _, _, _, _⟩) rfl (fun K hK => ?_) AllReadyH.nil
        go_simp
        refine hK.out _ _ ?_ (fun hHeld => ?_)
        · (try dsimp only); exact HK2.out _ _ _ _ ngb (HK2.out _ _ _ _ nga (HK1.out _ o1))
        clear hK K
        try simp only [Act.put, List.setIfInBounds_toArray, List.set_cons_zero, List.set_cons_succ]
        refine wpAnyH_done (by kernel_rfl) ?_ _
        have HN := Lib.hid (NX.out V1 o1)
        clear HK1 HK2 HCl NX HcT o1 c1 c2 c3 c4 c5 c6 d3 d4 d5 d6 dc
        go_wp2_with fail
        go_roundw
        case rel => exact ⟨k, by omega, by go_num, HN⟩
        case measure => (simp [intOf]; try omega)
    · obtain rfl : k1 = 0 := by omega
      have HE : Hid (CellsAt wr ga 8 (metA backWA fa (fun k => F (ob + k))) ∧ CellsAt wr gb m (patch F ob 8 (metA backWB fa (fun k => F (ob + k)))) ∧ Kept X w wr) := by
        have h := HS.out.ext (fa' := (metA backWA fa (fun k => F (ob + k)))) (fb' := (metA backWB fa (fun k => F (ob + k)))) (fun j hj => by unfold from_; rw [if_neg (by omega)]) (fun j hj => by unfold from_; rw [if_neg (by omega)])
        exact ⟨h.a, h.b, h.k⟩
      clear HS HT HR
      rw [show ((0 : Nat) : Int) - 1 = -1 from rfl]
      go_wp2_with fail
      go_end0
      exact ⟨rfl, HE.out⟩
end Go.Proofs.YtlcbmgbnhjgelaaGreat

/- Contract of lap.meet, with either way (by wip/tools/lape.py). -/
namespace Go.Proofs.YtlcbmgbnhjgelaaGreat
set_option linter.unusedVariables false
set_option maxRecDepth 100000
open Go.RowKit

theorem part_rev (f : Nat → Int) (a j : Nat) (h : j < 8) : (part f a 8).reverse.getD j 0 = f (a + (7 - j)) := by
  rw [List.getD_eq_getElem?_getD, List.getElem?_reverse (by rw [part_len]; exact h), part_len, ← List.getD_eq_getElem?_getD, show 8 - 1 - j = 7 - j by omega]
  exact part_getD f a 8 (7 - j) (by omega)
/-- The edges below k are turned; the blocks X are as they were. -/
def MeetR (wa wb : Way) (X : Nat → Prop) (w : World) (pt : Option Addr) (n : Nat) (F : Nat → Int) (k : Nat) (wr : World) : Prop :=
  OwnR 16 X wr pt n (meetTo wa wb k F) ∧ Kept X w wr

set_option maxRecDepth 100000 in
set_option maxHeartbeats 4000000 in
theorem meetTurn_any (X : Nat → Prop) (pt : Option Addr) (n cap : Nat) (F : Nat → Int) (w : World) (h : OwnR 16 X w pt n F) (hX : ∀ q, X q → q < w.heap.size) (hn : n ≤ 17179869184) :
    Calls Tryz.prog 42 #[.slice pt n cap, .func (.func 43) #[.agg T8] #[]] w fun e w' => e = .returned (.tuple #[]) ∧ OwnR 16 X w' pt n (meetTo turnWA turnWB n F) ∧ Kept X w w' := by
  have H0 : Hid (MeetR turnWA turnWB X w pt n F 1 w) := ⟨by rw [meetTo_one]; exact h, Kept.refl _ _⟩
  have HE0 : Hid (n ≤ 1 → meetTo turnWA turnWB n F = F) := fun hn => by
    rcases (by omega : n = 0 ∨ n = 1) with rfl | rfl
    · funext q
      obtain ⟨b, r, rfl, hr, _, _⟩ := split16 q
      by_cases h8 : 8 ≤ r
      · rw [meetTo_hi _ _ _ _ _ _ hr h8, if_neg (by omega)]
      · rw [meetTo_lo _ _ _ _ _ _ (by omega), if_neg (by omega)]
    · exact meetTo_one _ _ _
  have HX := Lib.hid hX
  have hR : (Value.agg T8) = .agg T8 := rfl
  clear h hR hX
  generalize hT : T8 = R
  have HR := Lib.hid hT
  clear hT
  go_enter Tryz.func42, Tryz.ntmps42
  go_wp2_with fail
  go_loopw [4] (fun i wr => ∃ k : Nat, 1 ≤ k ∧ (k ≤ n ∨ k = 1) ∧ i = .int .i64 k ∧ Hid (MeetR turnWA turnWB X w pt n F k wr)) (fun i _ => n - (intOf i).toNat)
  case atStart => exact ⟨1, by omega, by omega, rfl, H0⟩
  case round =>
    obtain ⟨k, hk1, hk, rfl, HS⟩ := hrel
    clear H0
    by_cases hlt : k < n
    · obtain ⟨j, rfl⟩ : ∃ j, k = j + 1 := ⟨k - 1, by omega⟩
      obtain ⟨g, rfl, xg, hc⟩ := HS.out.1 (by omega)
      obtain ⟨M, hM⟩ : ∃ M, M = meetTo turnWA turnWB (j + 1) F := ⟨_, rfl⟩
      rw [← hM] at hc
      have hstep := meetTo_step turnWA turnWB F j
      rw [← hM] at hstep
      have HStep := Lib.hid hstep
      have HC := Lib.hid hc
      have HK := Lib.hid HS.out.2
      have hgl := hc.lt
      have e1 : (((j + 1 : Nat) : Int)) = (j : Int) + 1 := by omega
      have q1 : wrap64 ((j : Int) + 1 - 1) = j := by rw [show (j : Int) + 1 - 1 = j by omega]; exact IntWalk.wrap64_in _ (by omega)
      have hS1 := fun o w => slice_arr_lo (P := Tryz.prog) (t := 53) 16 8 Tryz.block_under Tryz.block_len Tryz.block_elem (by omega) g o w
      have hS2 := fun o w => slice_arr_hi (P := Tryz.prog) (t := 53) 16 8 Tryz.block_under Tryz.block_len Tryz.block_elem (by omega) (by omega) g o w
      rw [show ((8 : Nat) : Int) = 8 from rfl] at hS1 hS2
      have HF1 := Lib.hid (Flip_any (some ⟨g, j * 16 + 8, none⟩) 8 8 (part M (j * 16 + 8) 8) wr (hc.sl (j * 16 + 8) 8 8 (by omega) (by omega) (by unfold maxLen; omega)) (by omega))
      clear hstep hc HS hM
      go_wp2_with fail
      refine HF1.out.mono ?_
      rintro e w1 ⟨v1, rfl, hv1, ho1⟩
      obtain ⟨ga, ca, rfl, xga, hca1, hca2, hA⟩ := hv1.cells (by rw [List.length_reverse, part_len]; omega)
      rw [List.length_reverse, part_len] at hA hca1 ⊢
      have xga' : ¬ X ga := fun e => xga (Nat.lt_of_lt_of_le (HX.out _ e) HK.out.size)
      have hne : ga ≠ g := fun e => xga (by rw [e]; exact hgl)
      have HP := Lib.hid (PTurn_any X ga g (16 * n) ((j + 1) * 16) ca 16 (fun i => (part M (j * 16 + 8) 8).reverse.getD i 0) M w1 hA (HC.out.old ho1) (by omega) hne xga' xg (fun q hq => Nat.lt_of_lt_of_le (HX.out q hq) (Nat.le_trans HK.out.size ho1.size)))
      rw [HR.out] at HP
      have HK1 : Hid (Kept X w w1) := HK.out.trans (ho1.kept fun q hq => Nat.lt_of_lt_of_le (HX.out q hq) HK.out.size)
      clear HF1 hv1 ho1 hA HK HC
      go_wp2_with fail
      refine HP.out.mono ?_
      rintro e w2 ⟨rfl, hA2, hC2, hK2⟩
      have hfA : metA turnWA (fun i => (part M (j * 16 + 8) 8).reverse.getD i 0) (fun k => M ((j + 1) * 16 + k)) = fun i => turnWA ((part M (j * 16 + 8) 8).reverse.getD i 0) (M ((j + 1) * 16 + i)) (turnP i) (turnU i) := rfl
      obtain ⟨fA, hfA⟩ : ∃ f, f = metA turnWA (fun i => (part M (j * 16 + 8) 8).reverse.getD i 0) (fun k => M ((j + 1) * 16 + k)) := ⟨_, rfl⟩
      rw [← hfA] at hA2
      have HFA : Hid (∀ i, i < 8 → fA i = turnWA (M (j * 16 + 8 + (7 - i))) (M ((j + 1) * 16 + i)) (turnP i) (turnU i)) := fun i hi => by rw [hfA]; unfold metA; dsimp only; rw [part_rev _ _ _ hi]
      have HF2 := Lib.hid (Flip_any (some ⟨ga, 0, none⟩) 8 ca (part fA 0 8) w2 (hA2.sl 0 8 ca (by omega) hca1 hca2) (by omega))
      have HC2 := Lib.hid hC2
      have HK2 : Hid (Kept X w w2) := HK1.out.trans hK2
      clear hfA HP hA2 hC2 hK2 HK1
      go_wp2_with fail
      refine HF2.out.mono ?_
      rintro e w3 ⟨v3, rfl, hv3, ho3⟩
      obtain ⟨gc, cc, rfl, _, _, _, hG⟩ := hv3.cells (by rw [List.length_reverse, part_len]; omega)
      rw [List.length_reverse, part_len] at hG ⊢
      have HC3 := Lib.hid (HC2.out.old ho3)
      have HSrc : Hid (∀ i, i < 8 → w3.cell? ⟨gc, 0 + i, none⟩ = some (.int .i64 (fA (7 - i)))) := fun i hi => by
        rw [Nat.zero_add, hG.cell i hi, part_rev _ _ _ hi, Nat.zero_add]
      have HT : Hid (w3.there g (j * 16 + 8) 8) := HC3.out.there _ _ (by omega)
      have HN : Hid (MeetR turnWA turnWB X w (some ⟨g, 0, none⟩) n F (j + 1 + 1) (w3.setCells g (j * 16 + 8) (rowL 8 fun i => fA (7 - i)))) := by
        refine ⟨fun _ => ⟨g, rfl, xg, ?_⟩, (HK2.out.trans (ho3.kept fun q hq => Nat.lt_of_lt_of_le (HX.out q hq) HK2.out.size)).trans (Kept.setCells _ xg _ _)⟩
        refine (HC3.out.setCells (j * 16 + 8) 8 (by omega) _).ext fun q hq => ?_
        rw [← HStep.out]
        unfold patch
        dsimp only
        split
        · rw [HFA.out _ (by omega)]
        · split
          · unfold metA
            dsimp only
            rw [part_rev _ _ _ (by omega)]
          · rfl
      clear HF2 hv3 ho3 hG HC2 HC3 HK2 HFA HStep HX
      go_wp2_with (with_reducible refine wpList_copy_blk rfl _ _ 30 30 rfl 2 Tryz.underlying30 Tryz.int64_cells 8 (fun i => fA (7 - i)) g (j * 16 + 8) 8 8 gc 0 8 cc rfl rfl (by decide) HSrc.out HT.out ?_)
      go_roundw
      case rel => exact ⟨j + 1 + 1, by omega, by omega, by go_num, HN⟩
      case measure => simp [intOf]; omega
    · have HE : Hid (OwnR 16 X wr pt n (meetTo turnWA turnWB n F) ∧ Kept X w wr) := by
        refine ⟨?_, HS.out.2⟩
        by_cases h1 : n ≤ 1
        · rw [HE0.out h1]
          have := HS.out.1
          rcases hk with h | rfl
          · obtain rfl : k = 1 := by omega
            rwa [meetTo_one] at this
          · rwa [meetTo_one] at this
        · obtain rfl : k = n := by omega
          exact HS.out.1
      have hlt' : n ≤ k := by omega
      clear HS HE0 HX HR
      go_wp2_with fail
      go_end0
      exact ⟨rfl, HE.out⟩
set_option maxRecDepth 100000 in
set_option maxHeartbeats 4000000 in
theorem meetBack_any (X : Nat → Prop) (pt : Option Addr) (n cap : Nat) (F : Nat → Int) (w : World) (h : OwnR 16 X w pt n F) (hX : ∀ q, X q → q < w.heap.size) (hn : n ≤ 17179869184) :
    Calls Tryz.prog 42 #[.slice pt n cap, .func (.func 61) #[.agg T8] #[]] w fun e w' => e = .returned (.tuple #[]) ∧ OwnR 16 X w' pt n (meetTo backWA backWB n F) ∧ Kept X w w' := by
  have H0 : Hid (MeetR backWA backWB X w pt n F 1 w) := ⟨by rw [meetTo_one]; exact h, Kept.refl _ _⟩
  have HE0 : Hid (n ≤ 1 → meetTo backWA backWB n F = F) := fun hn => by
    rcases (by omega : n = 0 ∨ n = 1) with rfl | rfl
    · funext q
      obtain ⟨b, r, rfl, hr, _, _⟩ := split16 q
      by_cases h8 : 8 ≤ r
      · rw [meetTo_hi _ _ _ _ _ _ hr h8, if_neg (by omega)]
      · rw [meetTo_lo _ _ _ _ _ _ (by omega), if_neg (by omega)]
    · exact meetTo_one _ _ _
  have HX := Lib.hid hX
  have hR : (Value.agg T8) = .agg T8 := rfl
  clear h hR hX
  generalize hT : T8 = R
  have HR := Lib.hid hT
  clear hT
  go_enter Tryz.func42, Tryz.ntmps42
  go_wp2_with fail
  go_loopw [4] (fun i wr => ∃ k : Nat, 1 ≤ k ∧ (k ≤ n ∨ k = 1) ∧ i = .int .i64 k ∧ Hid (MeetR backWA backWB X w pt n F k wr)) (fun i _ => n - (intOf i).toNat)
  case atStart => exact ⟨1, by omega, by omega, rfl, H0⟩
  case round =>
    obtain ⟨k, hk1, hk, rfl, HS⟩ := hrel
    clear H0
    by_cases hlt : k < n
    · obtain ⟨j, rfl⟩ : ∃ j, k = j + 1 := ⟨k - 1, by omega⟩
      obtain ⟨g, rfl, xg, hc⟩ := HS.out.1 (by omega)
      obtain ⟨M, hM⟩ : ∃ M, M = meetTo backWA backWB (j + 1) F := ⟨_, rfl⟩
      rw [← hM] at hc
      have hstep := meetTo_step backWA backWB F j
      rw [← hM] at hstep
      have HStep := Lib.hid hstep
      have HC := Lib.hid hc
      have HK := Lib.hid HS.out.2
      have hgl := hc.lt
      have e1 : (((j + 1 : Nat) : Int)) = (j : Int) + 1 := by omega
      have q1 : wrap64 ((j : Int) + 1 - 1) = j := by rw [show (j : Int) + 1 - 1 = j by omega]; exact IntWalk.wrap64_in _ (by omega)
      have hS1 := fun o w => slice_arr_lo (P := Tryz.prog) (t := 53) 16 8 Tryz.block_under Tryz.block_len Tryz.block_elem (by omega) g o w
      have hS2 := fun o w => slice_arr_hi (P := Tryz.prog) (t := 53) 16 8 Tryz.block_under Tryz.block_len Tryz.block_elem (by omega) (by omega) g o w
      rw [show ((8 : Nat) : Int) = 8 from rfl] at hS1 hS2
      have HF1 := Lib.hid (Flip_any (some ⟨g, j * 16 + 8, none⟩) 8 8 (part M (j * 16 + 8) 8) wr (hc.sl (j * 16 + 8) 8 8 (by omega) (by omega) (by unfold maxLen; omega)) (by omega))
      clear hstep hc HS hM
      go_wp2_with fail
      refine HF1.out.mono ?_
      rintro e w1 ⟨v1, rfl, hv1, ho1⟩
      obtain ⟨ga, ca, rfl, xga, hca1, hca2, hA⟩ := hv1.cells (by rw [List.length_reverse, part_len]; omega)
      rw [List.length_reverse, part_len] at hA hca1 ⊢
      have xga' : ¬ X ga := fun e => xga (Nat.lt_of_lt_of_le (HX.out _ e) HK.out.size)
      have hne : ga ≠ g := fun e => xga (by rw [e]; exact hgl)
      have HP := Lib.hid (PBack_any X ga g (16 * n) ((j + 1) * 16) ca 16 (fun i => (part M (j * 16 + 8) 8).reverse.getD i 0) M w1 hA (HC.out.old ho1) (by omega) hne xga' xg (fun q hq => Nat.lt_of_lt_of_le (HX.out q hq) (Nat.le_trans HK.out.size ho1.size)))
      rw [HR.out] at HP
      have HK1 : Hid (Kept X w w1) := HK.out.trans (ho1.kept fun q hq => Nat.lt_of_lt_of_le (HX.out q hq) HK.out.size)
      clear HF1 hv1 ho1 hA HK HC
      go_wp2_with fail
      refine HP.out.mono ?_
      rintro e w2 ⟨rfl, hA2, hC2, hK2⟩
      have hfA : metA backWA (fun i => (part M (j * 16 + 8) 8).reverse.getD i 0) (fun k => M ((j + 1) * 16 + k)) = fun i => backWA ((part M (j * 16 + 8) 8).reverse.getD i 0) (M ((j + 1) * 16 + i)) (turnP i) (turnU i) := rfl
      obtain ⟨fA, hfA⟩ : ∃ f, f = metA backWA (fun i => (part M (j * 16 + 8) 8).reverse.getD i 0) (fun k => M ((j + 1) * 16 + k)) := ⟨_, rfl⟩
      rw [← hfA] at hA2
      have HFA : Hid (∀ i, i < 8 → fA i = backWA (M (j * 16 + 8 + (7 - i))) (M ((j + 1) * 16 + i)) (turnP i) (turnU i)) := fun i hi => by rw [hfA]; unfold metA; dsimp only; rw [part_rev _ _ _ hi]
      have HF2 := Lib.hid (Flip_any (some ⟨ga, 0, none⟩) 8 ca (part fA 0 8) w2 (hA2.sl 0 8 ca (by omega) hca1 hca2) (by omega))
      have HC2 := Lib.hid hC2
      have HK2 : Hid (Kept X w w2) := HK1.out.trans hK2
      clear hfA HP hA2 hC2 hK2 HK1
      go_wp2_with fail
      refine HF2.out.mono ?_
      rintro e w3 ⟨v3, rfl, hv3, ho3⟩
      obtain ⟨gc, cc, rfl, _, _, _, hG⟩ := hv3.cells (by rw [List.length_reverse, part_len]; omega)
      rw [List.length_reverse, part_len] at hG ⊢
      have HC3 := Lib.hid (HC2.out.old ho3)
      have HSrc : Hid (∀ i, i < 8 → w3.cell? ⟨gc, 0 + i, none⟩ = some (.int .i64 (fA (7 - i)))) := fun i hi => by
        rw [Nat.zero_add, hG.cell i hi, part_rev _ _ _ hi, Nat.zero_add]
      have HT : Hid (w3.there g (j * 16 + 8) 8) := HC3.out.there _ _ (by omega)
      have HN : Hid (MeetR backWA backWB X w (some ⟨g, 0, none⟩) n F (j + 1 + 1) (w3.setCells g (j * 16 + 8) (rowL 8 fun i => fA (7 - i)))) := by
        refine ⟨fun _ => ⟨g, rfl, xg, ?_⟩, (HK2.out.trans (ho3.kept fun q hq => Nat.lt_of_lt_of_le (HX.out q hq) HK2.out.size)).trans (Kept.setCells _ xg _ _)⟩
        refine (HC3.out.setCells (j * 16 + 8) 8 (by omega) _).ext fun q hq => ?_
        rw [← HStep.out]
        unfold patch
        dsimp only
        split
        · rw [HFA.out _ (by omega)]
        · split
          · unfold metA
            dsimp only
            rw [part_rev _ _ _ (by omega)]
          · rfl
      clear HF2 hv3 ho3 hG HC2 HC3 HK2 HFA HStep HX
      go_wp2_with (with_reducible refine wpList_copy_blk rfl _ _ 30 30 rfl 2 Tryz.underlying30 Tryz.int64_cells 8 (fun i => fA (7 - i)) g (j * 16 + 8) 8 8 gc 0 8 cc rfl rfl (by decide) HSrc.out HT.out ?_)
      go_roundw
      case rel => exact ⟨j + 1 + 1, by omega, by omega, by go_num, HN⟩
      case measure => simp [intOf]; omega
    · have HE : Hid (OwnR 16 X wr pt n (meetTo backWA backWB n F) ∧ Kept X w wr) := by
        refine ⟨?_, HS.out.2⟩
        by_cases h1 : n ≤ 1
        · rw [HE0.out h1]
          have := HS.out.1
          rcases hk with h | rfl
          · obtain rfl : k = 1 := by omega
            rwa [meetTo_one] at this
          · rwa [meetTo_one] at this
        · obtain rfl : k = n := by omega
          exact HS.out.1
      have hlt' : n ≤ k := by omega
      clear HS HE0 HX HR
      go_wp2_with fail
      go_end0
      exact ⟨rfl, HE.out⟩
end Go.Proofs.YtlcbmgbnhjgelaaGreat

/- Package gain's Up and Down. (wip/lib/XGainU.src, by wip/tools/exp.py) -/
namespace Go.Proofs.YtlcbmgbnhjgelaaGreat
set_option linter.unusedVariables false
set_option maxRecDepth 100000
open Go.RowKit

theorem atI_bd (g : Nat → Int) (i : Int) : 0 ≤ atI g i ∧ atI g i ≤ 3 := by
  unfold atI
  split
  · rename_i h
    have := h.2.2 (i / 4).toNat (by omega)
    omega
  · omega
theorem wrap_both (x : Int) : IntKind.i64.wrap x = wrap64 x := by rw [IntKind.wrap_i64]; unfold wrap64; omega
/-- A number, louder by a gain, and quieter. -/
def upI (x s : Int) : Int := wrap64 (x * 2 ^ s.toNat)
def upB (f g : Nat → Int) : Nat → Int := fun k => upI (f k) (atI g k)
def downI (x s : Int) : Int := roundI x (pw s.toNat)
def downB (f g : Nat → Int) : Nat → Int := fun k => downI (f k) (atI g k)
def toB (n : Nat) (f g : Nat → Int) : Nat → Int := fun k => if k < n then f k else g k
/-- A block that is turned number by number, the gains, and the result's block. -/
structure UpSt (w : World) (tb tg : TypeId) (z : Array Value) (f g : Nat → Int) (W : World) : Prop where
  b : W.heap[w.heap.size]? = some (.cells (rowN 16 (blk f)) tb (0, 0))
  g : W.heap[w.heap.size + 1]? = some (.cells (rowN 4 (blk g)) tg (0, 0))
  r : W.heap[w.heap.size + 1 + 1]? = some (.cells z tb (0, 0))
  old : Old w W
namespace UpSt
variable {w W V : World} {tb tg : TypeId} {z : Array Value} {f g : Nat → Int}
theorem keep (h : UpSt w tb tg z f g W) (o : Old W V) : UpSt w tb tg z f g V :=
  ⟨(o.block _ (lt_of_block h.b)).trans h.b, (o.block _ (lt_of_block h.g)).trans h.g, (o.block _ (lt_of_block h.r)).trans h.r, h.old.trans o⟩
theorem set (h : UpSt w tb tg z f g W) (j : Nat) (hj : j < 16) (v : Int) : UpSt w tb tg z (fun k => if k = j then v else f k) g (W.setCell ⟨w.heap.size, j, none⟩ (.int .i64 v)) := by
  refine ⟨?_, (heap_setCell_other _ _ _ _ (by simp)).trans h.g, (heap_setCell_other _ _ _ _ (by simp; omega)).trans h.r, h.old.after (Kept.setCell (X := fun k => k < w.heap.size) _ (a := ⟨w.heap.size, j, none⟩) (by show ¬ w.heap.size < w.heap.size; omega) _) fun _ hk => hk⟩
  rw [← blk_upd, ← rowN_set _ _ _ _ hj]
  exact heap_setCell_same _ _ _ _ _ _ h.b
theorem cell (h : UpSt w tb tg z f g W) (j : Nat) (hj : j < 16) : W.cell? ⟨w.heap.size, j, none⟩ = some (.int .i64 (f j)) ∧ W.frozen? ⟨w.heap.size, j, none⟩ = false :=
  ⟨(cell_of_row _ _ _ _ _ _ h.b).trans (blk_at 16 f j hj), frozen_of_row _ _ _ _ _ h.b⟩
theorem row (h : UpSt w tb tg z f g W) (cs : Array Value) : (W.setRow (w.heap.size + 1 + 1) cs).heap[w.heap.size + 1 + 1]? = some (.cells cs tb (0, 0)) ∧ Old w (W.setRow (w.heap.size + 1 + 1) cs) :=
  ⟨setRow_heap _ _ _ _ _ _ h.r, h.old.after (X := fun k => k < w.heap.size) ⟨rfl, rfl, by simp, fun k hk => setRow_other _ _ _ _ (by omega)⟩ fun _ h => h⟩
end UpSt
theorem toB_succ (n : Nat) (f g : Nat → Int) (v : Int) (hv : v = f n) : (fun k => if k = n then v else toB n f g k) = toB (n + 1) f g := by
  funext k
  unfold toB
  by_cases h : k = n
  · subst h; rw [if_pos rfl, if_pos (by omega), hv]
  · rw [if_neg h]
    by_cases h2 : k < n
    · rw [if_pos h2, if_pos (by omega)]
    · rw [if_neg h2, if_neg (by omega)]
theorem toB_zero (f g : Nat → Int) : toB 0 f g = g := by funext k; unfold toB; rw [if_neg (by omega)]
theorem upd_start (w : World) (tb tg : TypeId) (z : Array Value) (f g : Nat → Int) : UpSt w tb tg z f g (((w.alloc (.cells (rowN 16 (blk f)) tb)).alloc (.cells (rowN 4 (blk g)) tg)).alloc (.cells z tb)) := by
  refine ⟨?_, ?_, ?_, ((Old.alloc w _).alloc' _).alloc' _⟩
  · exact (Below.heap_alloc _ _ _ (by simp; omega)).trans (heap_alloc2_old w _ _)
  · exact (Below.heap_alloc _ _ _ (by simp)).trans (heap_alloc2_new w _ _)
  · have := heap_alloc_new ((w.alloc (.cells (rowN 16 (blk f)) tb)).alloc (.cells (rowN 4 (blk g)) tg)) (.cells z tb)
    rw [World.size_alloc, World.size_alloc] at this
    exact this
set_option maxRecDepth 100000 in
set_option maxHeartbeats 4000000 in
theorem Up_any (f g : Nat → Int) (w : World) :
    Calls Tryz.prog 40 #[.agg (rowN 16 (blk f)), .agg (rowN 4 (blk g))] w fun e w' => e = .returned (.agg (rowN 16 (blk (upB f g)))) ∧ Old w w' := by
  obtain ⟨z, hz⟩ : ∃ z : Array Value, z = #[.int .i64 0, .int .i64 0, .int .i64 0, .int .i64 0, .int .i64 0, .int .i64 0, .int .i64 0, .int .i64 0, .int .i64 0, .int .i64 0, .int .i64 0, .int .i64 0, .int .i64 0, .int .i64 0, .int .i64 0, .int .i64 0] := ⟨_, rfl⟩
  have hzs : z.size = 16 := by rw [hz]; rfl
  have hst := upd_start w 53 50 z f g
  have HAt := Lib.hid (fun (i : Nat) (h : i < 16) w => At_any g i w (by omega) (by omega))
  have Hs4 : Hid ((Tryz.prog.info? 50).map (·.size) = some 4) := Lib.hid (by kernel_rfl)
  have H0 : Hid (UpSt w 53 50 z (toB 0 (upB f g) f) g (((w.alloc (.cells (rowN 16 (blk f)) 53)).alloc (.cells (rowN 4 (blk g)) 50)).alloc (.cells z 53))) := by rw [toB_zero]; exact hst
  clear hst
  go_enter Tryz.func40, Tryz.ntmps40
  go_wp2_with fail
  rw [← hz]
  clear hz
  go_loopw [6] (fun i wr => ∃ k : Nat, k ≤ 16 ∧ i = .int .i64 k ∧ Hid (UpSt w 53 50 z (toB k (upB f g) f) g wr)) (fun i _ => 16 - (intOf i).toNat)
  case atStart => exact ⟨0, by omega, rfl, H0⟩
  case round =>
    obtain ⟨k, hk, rfl, HS⟩ := hrel
    clear H0
    by_cases hlt : k < 16
    · have i1 : (0 : Int) ≤ k := by omega
      have i2 : (k : Int) < 16 := by omega
      have hA := HAt.out k hlt
      obtain ⟨s0, s3⟩ := atI_bd g k
      have NX : Hid (∀ V, Old wr.drew V → UpSt w 53 50 z (toB (k + 1) (upB f g) f) g (V.setCell ⟨w.heap.size, k, none⟩ (.int .i64 (upI (f k) (atI g k))))) := fun V hV => by
        have h := (HS.out.keep (Old.drew (Old.refl _) |>.trans hV)).set k hlt (upI (f k) (atI g k))
        rw [toB_succ k (upB f g) f (upI (f k) (atI g k)) rfl] at h
        exact h
      have cells : Hid (∀ V, Old wr.drew V → V.cell? ⟨w.heap.size, k, none⟩ = some (.int .i64 (f k)) ∧ V.frozen? ⟨w.heap.size, k, none⟩ = false ∧ V.heap[w.heap.size + 1]? = some (.cells (rowN 4 (blk g)) 50 (0, 0))) := fun V hV => by
        have h := HS.out.keep (Old.drew (Old.refl _) |>.trans hV)
        have c := h.cell k hlt
        unfold toB at c
        rw [if_neg (by omega)] at c
        exact ⟨c.1, c.2, h.g⟩
      have keep2 : Hid (∀ (V : World) (v : Value), V.heap[w.heap.size + 1]? = some (.cells (rowN 4 (blk g)) 50 (0, 0)) → (V.setCell ⟨w.heap.size, k, none⟩ v).heap[w.heap.size + 1]? = some (.cells (rowN 4 (blk g)) 50 (0, 0))) := fun V v hV => (heap_setCell_other _ _ _ _ (by simp)).trans hV
      have HA := Lib.hid hA
      obtain ⟨x, hx⟩ : ∃ x, x = f k := ⟨_, rfl⟩
      rw [← hx] at NX cells
      clear hA hx HAt HS
      generalize atI g (k : Int) = s at *
      have q1 : IntKind.i64.wrap (x * 2 ^ s.toNat) = upI x s := wrap_both _
      have q2 : wrap64 (x * 2 ^ s.toNat) = upI x s := rfl
      generalize upI x s = u at *
      obtain ⟨c1, c2, c3⟩ := cells.out wr.drew (Old.refl _)
      go_wp2_with fail
      refine wp_region_held_drew (S := (fun w' => w'.heap[w.heap.size + 1]? = some (.cells (rowN 4 (blk g)) 50 (0, 0)))) (by kernel_rfl) ?_ (fun hHeld => ?_)
      · (try dsimp only); exact c3
      refine wpAnyH_take (i := 0) (oi := ⟨some _, _, _, _, _, _⟩) (v := ?_) rfl (by kernel_rfl) (by kernel_rfl) (by kernel_rfl) (fun _ _ _ h => h) (Or.inl ⟨by kernel_rfl, ?_⟩) (by assumption) ?_; rotate_left; (intro w hSw; (try dsimp only at hSw); go_simp; try with_reducible rfl); try simp only [Act.put, List.setIfInBounds_toArray, List.set_cons_zero, List.set_cons_succ]
      refine wpAnyH_take (i := 1) (oi := ⟨some _, _, _, _, _, _⟩) (v := ?_) rfl (by kernel_rfl) (by kernel_rfl) (by kernel_rfl) (fun _ _ _ h => h) (Or.inl ⟨by kernel_rfl, ?_⟩) (by assumption) ?_; rotate_left; (intro w hSw; (try dsimp only at hSw); go_simp; try with_reducible rfl); try simp only [Act.put, List.setIfInBounds_toArray, List.set_cons_zero, List.set_cons_succ]
      refine wpAnyH_take (i := 3) (oi := ⟨some _, _, _, _, _, _⟩) (v := .agg (rowN 4 (blk g))) rfl (by kernel_rfl) (by kernel_rfl) (by kernel_rfl) (fun _ _ _ h => h) (yieldsIf_load_row (by kernel_rfl) 50 (.tmp 3) rfl (w.heap.size + 1) rfl 50 (rowN 4 (blk g)) (0, 0) _ (fun _ h => h) Tryz.underlying50 rfl (by rw [rowN_size]; exact Hs4.out)) (by assumption) ?_; try simp only [Act.put, List.setIfInBounds_toArray, List.set_cons_zero, List.set_cons_succ]
      refine wpAnyH_take (i := 4) (oi := ⟨some _, _, _, _, _, _⟩) (v := ?_) rfl (by kernel_rfl) (by kernel_rfl) (by kernel_rfl) (fun _ _ _ h => h) (Or.inl ⟨by kernel_rfl, ?_⟩) (by assumption) ?_; rotate_left; (intro w hSw; (try dsimp only at hSw); go_simp; try with_reducible rfl); try simp only [Act.put, List.setIfInBounds_toArray, List.set_cons_zero, List.set_cons_succ]
      refine wpAnyH_ready (rs := [2, 5]) (by kernel_rfl) (by simp) ?_
      refine AllReadyH.cons (o := ⟨_, _, _, _, _, _⟩) rfl (fun K hK => ?_) (AllReadyH.cons (o := ⟨_, _, _, _, _, _⟩) rfl (fun K hK => ?_) AllReadyH.nil)
      · go_simp
        refine hK.out _ _ ?_ (fun hHeld => ?_)
        · (try dsimp only); exact c3
        clear hK K
        try simp only [Act.put, List.setIfInBounds_toArray, List.set_cons_zero, List.set_cons_succ]
        refine wpAnyH_ready (rs := [5]) (by kernel_rfl) (by simp) ?_
        refine AllReadyH.cons (o := ⟨_, _, _, _, _, _⟩) rfl (fun K hK => ?_) AllReadyH.nil
        go_simp
        refine (HA.out _).mono ?_
        rintro e V1 ⟨rfl, o1⟩
        go_wp2_with fail
        refine hK.out _ _ ?_ (fun hHeld => ?_)
        · (try dsimp only); exact (cells.out V1 o1).2.2
        clear hK K
        try simp only [Act.put, List.setIfInBounds_toArray, List.set_cons_zero, List.set_cons_succ]
        refine wpAnyH_take (i := 6) (oi := ⟨some _, _, _, _, _, _⟩) (v := ?_) rfl (by kernel_rfl) (by kernel_rfl) (by kernel_rfl) (fun _ _ _ h => h) (Or.inl ⟨by kernel_rfl, ?_⟩) (by assumption) ?_; rotate_left; (intro w hSw; (try dsimp only at hSw); go_simp; try with_reducible rfl); try simp only [Act.put, List.setIfInBounds_toArray, List.set_cons_zero, List.set_cons_succ]
        refine wpAnyH_take (i := 7) (oi := ⟨some _, _, _, _, _, _⟩) (v := ?_) rfl (by kernel_rfl) (by kernel_rfl) (by kernel_rfl) (fun _ _ _ h => h) (Or.inl ⟨by kernel_rfl, ?_⟩) (by assumption) ?_; rotate_left; (intro w hSw; (try dsimp only at hSw); go_simp; try with_reducible rfl); try simp only [Act.put, List.setIfInBounds_toArray, List.set_cons_zero, List.set_cons_succ]
        obtain ⟨d1, d2, d3⟩ := cells.out V1 o1
        refine wpAnyH_ready (rs := [8]) (by kernel_rfl) (by simp) ?_
        refine AllReadyH.cons (o := ⟨_, _, _, _, _, _⟩) rfl (fun K hK => ?_) AllReadyH.nil
        go_simp
        refine hK.out _ _ ?_ (fun hHeld => ?_)
        · (try dsimp only); exact keep2.out _ _ d3
        clear hK K
        try simp only [Act.put, List.setIfInBounds_toArray, List.set_cons_zero, List.set_cons_succ]
        refine wpAnyH_done (by kernel_rfl) ?_ _
        have HN := Lib.hid (NX.out V1 o1)
        clear cells keep2 NX o1 c1 c2 c3 d1 d2 d3 q1 q2 HA
        go_wp2_with fail
        go_roundw
        case rel => exact ⟨k + 1, by omega, by go_num, HN⟩
        case measure => simp [intOf]; omega
      · go_simp
        refine (HA.out _).mono ?_
        rintro e V1 ⟨rfl, o1⟩
        go_wp2_with fail
        refine hK.out _ _ ?_ (fun hHeld => ?_)
        · (try dsimp only); exact (cells.out V1 o1).2.2
        clear hK K
        try simp only [Act.put, List.setIfInBounds_toArray, List.set_cons_zero, List.set_cons_succ]
        obtain ⟨d1, d2, d3⟩ := cells.out V1 o1
        refine wpAnyH_ready (rs := [2]) (by kernel_rfl) (by simp) ?_
        refine AllReadyH.cons (o := ⟨_, _, _, _, _, _⟩) rfl (fun K hK => ?_) AllReadyH.nil
        go_simp
        refine hK.out _ _ ?_ (fun hHeld => ?_)
        · (try dsimp only); exact d3
        clear hK K
        try simp only [Act.put, List.setIfInBounds_toArray, List.set_cons_zero, List.set_cons_succ]
        refine wpAnyH_take (i := 6) (oi := ⟨some _, _, _, _, _, _⟩) (v := ?_) rfl (by kernel_rfl) (by kernel_rfl) (by kernel_rfl) (fun _ _ _ h => h) (Or.inl ⟨by kernel_rfl, ?_⟩) (by assumption) ?_; rotate_left; (intro w hSw; (try dsimp only at hSw); go_simp; try with_reducible rfl); try simp only [Act.put, List.setIfInBounds_toArray, List.set_cons_zero, List.set_cons_succ]
        refine wpAnyH_take (i := 7) (oi := ⟨some _, _, _, _, _, _⟩) (v := ?_) rfl (by kernel_rfl) (by kernel_rfl) (by kernel_rfl) (fun _ _ _ h => h) (Or.inl ⟨by kernel_rfl, ?_⟩) (by assumption) ?_; rotate_left; (intro w hSw; (try dsimp only at hSw); go_simp; try with_reducible rfl); try simp only [Act.put, List.setIfInBounds_toArray, List.set_cons_zero, List.set_cons_succ]
        refine wpAnyH_ready (rs := [8]) (by kernel_rfl) (by simp) ?_
        refine AllReadyH.cons (o := ⟨_, _, _, _, _, _⟩) rfl (fun K hK => ?_) AllReadyH.nil
        go_simp
        refine hK.out _ _ ?_ (fun hHeld => ?_)
        · (try dsimp only); exact keep2.out _ _ d3
        clear hK K
        try simp only [Act.put, List.setIfInBounds_toArray, List.set_cons_zero, List.set_cons_succ]
        refine wpAnyH_done (by kernel_rfl) ?_ _
        have HN := Lib.hid (NX.out V1 o1)
        clear cells keep2 NX o1 c1 c2 c3 d1 d2 d3 q1 q2 HA
        go_wp2_with fail
        go_roundw
        case rel => exact ⟨k + 1, by omega, by go_num, HN⟩
        case measure => simp [intOf]; omega
    · obtain rfl : k = 16 := by omega
      have hg : rowN 16 (blk (toB 16 (upB f g) f)) = rowN 16 (blk (upB f g)) := rowN_ext _ _ _ fun k hk => by unfold blk toB; rw [if_pos hk]
      have Hg := Lib.hid HS.out.b
      rw [hg] at Hg
      have Hr := Lib.hid HS.out.r
      have Hd := Lib.hid (HS.out.row (rowN 16 (blk (upB f g))))
      have Hs : Hid ((Tryz.prog.info? 53).map (·.size) = some 16) := Lib.hid (by kernel_rfl)
      have H1 : Hid ((rowN 16 (blk (upB f g))).all (·.oneCell') = true) := Lib.hid (blk_one _ _)
      clear HS hg HAt
      have hsz := rowN_size 16 (blk (upB f g))
      go_wp2_with (first | (with_reducible refine wpList_load_row rfl 53 _ rfl w.heap.size rfl 53 (rowN 16 (blk (upB f g))) (0, 0) _ Hg.out Tryz.underlying53 rfl (by rw [hsz]; exact Hs.out) ?_) | (with_reducible refine wpList_store_row rfl 53 _ _ rfl (w.heap.size + 1 + 1) (rowN 16 (blk (upB f g))) rfl rfl 53 _ Hr.out (by rw [hsz]; exact Hs.out) (by rw [hsz]; exact hzs) H1.out ?_))
      exact bodyPost_ret (results_cell_row rfl _ _ (w.heap.size + 1 + 1) 53 (rowN 16 (blk (upB f g))) (0, 0) _ rfl Hd.out.1 Tryz.underlying53 rfl (by rw [hsz]; exact Hs.out)) rfl ⟨rfl, Hd.out.2⟩

set_option maxRecDepth 100000 in
set_option maxHeartbeats 4000000 in
theorem Down_any (f g : Nat → Int) (hf : ∀ k, k < 16 → -9223372036854775808 ≤ f k ∧ f k ≤ 9223372036854775807) (w : World) :
    Calls Tryz.prog 62 #[.agg (rowN 16 (blk f)), .agg (rowN 4 (blk g))] w fun e w' => e = .returned (.agg (rowN 16 (blk (downB f g)))) ∧ Old w w' := by
  obtain ⟨z, hz⟩ : ∃ z : Array Value, z = #[.int .i64 0, .int .i64 0, .int .i64 0, .int .i64 0, .int .i64 0, .int .i64 0, .int .i64 0, .int .i64 0, .int .i64 0, .int .i64 0, .int .i64 0, .int .i64 0, .int .i64 0, .int .i64 0, .int .i64 0, .int .i64 0] := ⟨_, rfl⟩
  have hzs : z.size = 16 := by rw [hz]; rfl
  have hst := upd_start w 53 50 z f g
  have HAt := Lib.hid (fun (i : Nat) (h : i < 16) w => At_any g i w (by omega) (by omega))
  have HRd := Lib.hid (fun (i : Nat) (h : i < 16) w => Round_any (f i) (atI g i) w (atI_bd g i).1 (by have := (atI_bd g i).2; omega) (hf i h).1 (hf i h).2)
  have Hs4 : Hid ((Tryz.prog.info? 50).map (·.size) = some 4) := Lib.hid (by kernel_rfl)
  have Hs16 : Hid ((Tryz.prog.info? 53).map (·.size) = some 16) := Lib.hid (by kernel_rfl)
  have HB0 : Hid ((((w.alloc (.cells (rowN 16 (blk f)) 53)).alloc (.cells (rowN 4 (blk g)) 50)).alloc (.cells z 53)).heap[w.heap.size]? = some (.cells (rowN 16 (blk f)) 53 (0, 0))) := hst.b
  have H0 : Hid (UpSt w 53 50 z (toB 0 (downB f g) f) g (((w.alloc (.cells (rowN 16 (blk f)) 53)).alloc (.cells (rowN 4 (blk g)) 50)).alloc (.cells z 53))) := by rw [toB_zero]; exact hst
  clear hst hf
  go_enter Tryz.func62, Tryz.ntmps62
  rw [hz] at HB0
  go_wp2_with (with_reducible refine wpList_load_row rfl 53 _ rfl w.heap.size rfl 53 (rowN 16 (blk f)) (0, 0) _ HB0.out Tryz.underlying53 rfl (by rw [rowN_size]; exact Hs16.out) ?_)
  rw [← hz]
  clear hz HB0
  go_loopw [8] (fun i wr => ∃ k : Nat, k ≤ 16 ∧ i = .int .i64 k ∧ Hid (UpSt w 53 50 z (toB k (downB f g) f) g wr)) (fun i _ => 16 - (intOf i).toNat)
  case atStart => exact ⟨0, by omega, rfl, H0⟩
  case round =>
    obtain ⟨k, hk, rfl, HS⟩ := hrel
    clear H0
    by_cases hlt : k < 16
    · have i1 : (0 : Int) ≤ k := by omega
      have i2 : (k : Int) < 16 := by omega
      have hA := HAt.out k hlt
      have hR := HRd.out k hlt
      have hat : ∀ w : World, (Instr.index 53 (.agg (rowN 16 (blk f))) (.int .i64 k)).run Tryz.prog w = .ok (.int .i64 (f k)) w := fun w => run_index_ints Tryz.underlying53 Tryz.underlying2 (fun _ => by kernel_rfl) f k hlt w
      have NX : Hid (∀ V, Old wr V → UpSt w 53 50 z (toB (k + 1) (downB f g) f) g (V.setCell ⟨w.heap.size, k, none⟩ (.int .i64 (downI (f k) (atI g k))))) := fun V hV => by
        have h := (HS.out.keep hV).set k hlt (downI (f k) (atI g k))
        rw [toB_succ k (downB f g) f (downI (f k) (atI g k)) rfl] at h
        exact h
      have cells : Hid (∀ V, Old wr V → V.cell? ⟨w.heap.size, k, none⟩ = some (.int .i64 (toB k (downB f g) f k)) ∧ V.frozen? ⟨w.heap.size, k, none⟩ = false) := fun V hV => (HS.out.keep hV).cell k hlt
      have HG := Lib.hid HS.out.g
      rw [show roundI (f k) (pw (atI g k).toNat) = downI (f k) (atI g k) from rfl] at hR
      have HA := Lib.hid hA
      have HR := Lib.hid hR
      clear hA hR HAt HRd HS
      generalize atI g (k : Int) = s at *
      generalize downI (f k) s = u at *
      generalize toB k (downB f g) f k = c at *
      generalize f k = x at *
      go_wp2_with (with_reducible refine wpList_load_row rfl 50 _ rfl (w.heap.size + 1) rfl 50 (rowN 4 (blk g)) (0, 0) _ HG.out Tryz.underlying50 rfl (by rw [rowN_size]; exact Hs4.out) ?_)
      refine (HA.out _).mono ?_
      rintro e V1 ⟨rfl, o1⟩
      go_wp2_with fail
      refine (HR.out _).mono ?_
      rintro e V2 ⟨rfl, n2, rfl⟩
      obtain ⟨d1, d2⟩ := cells.out _ (o1.drewN n2)
      have HN := Lib.hid (NX.out _ (o1.drewN n2))
      clear cells NX o1 HA HR HG
      go_wp2_with fail
      go_roundw
      case rel => exact ⟨k + 1, by omega, by go_num, HN⟩
      case measure => simp [intOf]; omega
    · obtain rfl : k = 16 := by omega
      have hg : rowN 16 (blk (toB 16 (downB f g) f)) = rowN 16 (blk (downB f g)) := rowN_ext _ _ _ fun k hk => by unfold blk toB; rw [if_pos hk]
      have Hg := Lib.hid HS.out.b
      rw [hg] at Hg
      have Hr := Lib.hid HS.out.r
      have Hd := Lib.hid (HS.out.row (rowN 16 (blk (downB f g))))
      have H1 : Hid ((rowN 16 (blk (downB f g))).all (·.oneCell') = true) := Lib.hid (blk_one _ _)
      clear HS hg HAt HRd
      have hsz := rowN_size 16 (blk (downB f g))
      go_wp2_with (first | (with_reducible refine wpList_load_row rfl 53 _ rfl w.heap.size rfl 53 (rowN 16 (blk (downB f g))) (0, 0) _ Hg.out Tryz.underlying53 rfl (by rw [hsz]; exact Hs16.out) ?_) | (with_reducible refine wpList_store_row rfl 53 _ _ rfl (w.heap.size + 1 + 1) (rowN 16 (blk (downB f g))) rfl rfl 53 _ Hr.out (by rw [hsz]; exact Hs16.out) (by rw [hsz]; exact hzs) H1.out ?_))
      exact bodyPost_ret (results_cell_row rfl _ _ (w.heap.size + 1 + 1) 53 (rowN 16 (blk (downB f g))) (0, 0) _ rfl Hd.out.1 Tryz.underlying53 rfl (by rw [hsz]; exact Hs16.out)) rfl ⟨rfl, Hd.out.2⟩
end Go.Proofs.YtlcbmgbnhjgelaaGreat


/- Package lap: gainsOf, and the copy of a list of blocks. (wip/lib/XLapF.src, by wip/tools/exp.py) -/
namespace Go.Proofs.YtlcbmgbnhjgelaaGreat
set_option linter.unusedVariables false
set_option maxRecDepth 100000
open Go.RowKit Go.ChangeShapes Go.WideShapes

/-- The gains of block i, of ng. -/
def gainsAt (G : Nat → Int) (ng i : Nat) : Nat → Int := if i < ng then (fun k => G (i * 4 + k)) else fun _ => 0
set_option maxRecDepth 100000 in
theorem gainsOf_any (p : Option Addr) (ng cap i : Nat) (G : Nat → Int) (w : World) (hs : SlF 4 w p ng G) (hi : i ≤ 17179869184) :
    Calls Tryz.prog 41 #[.slice p ng cap, .int .i64 i] w fun e w' => e = .returned (.agg (rowN 4 (blk (gainsAt G ng i)))) ∧ Old w w' := by
  have Hs4 : Hid ((Tryz.prog.info? 50).map (·.size) = some 4) := Lib.hid (by kernel_rfl)
  have i0 : (0 : Int) ≤ i := by omega
  by_cases h : i < ng
  · obtain ⟨g, o, rfl, hg, hc⟩ := hs (by omega)
    have e : gainsAt G ng i = fun k => G (i * 4 + k) := by unfold gainsAt; rw [if_pos h]
    rw [e]
    have HC : Hid (∀ j, j < 4 → (w.alloc (.cells #[.int .i64 0, .int .i64 0, .int .i64 0, .int .i64 0] 50)).cell? ⟨g, o + i * 4 + j, none⟩ = some (.int .i64 (G (i * 4 + j)))) := fun j hj => by
      rw [Nat.add_assoc, (Old.alloc w _).cell (a := ⟨g, o + (i * 4 + j), none⟩) hg]
      exact hc (i * 4 + j) (by omega)
    have h' : (i : Int) < ng := by omega
    have H1 := Lib.hid (blk_one (fun k => G (i * 4 + k)) 4)
    clear hs hc e hg
    go_enter Tryz.func41, Tryz.ntmps41
    go_wp2_with (first | (with_reducible refine wpList_load_blk rfl 4 (fun k => G (i * 4 + k)) 50 _ rfl g (o + i * 4) rfl _ HC.out Tryz.underlying50 rfl Hs4.out ?_) | (with_reducible refine wpList_store_row rfl 50 _ _ rfl w.heap.size (rowN 4 (blk fun k => G (i * 4 + k))) rfl rfl 50 _ (heap_alloc_new _ _) (by rw [rowN_size]; exact Hs4.out) (by rw [rowN_size]; kernel_rfl) H1.out ?_; rw [World.setRow_alloc_new]))
    exact bodyPost_ret (results_cell_row rfl _ _ w.heap.size 50 _ (0, 0) _ rfl (heap_alloc_new _ _) Tryz.underlying50 rfl (by rw [rowN_size]; exact Hs4.out)) rfl ⟨rfl, Old.alloc _ _⟩
  · have e : rowN 4 (blk (gainsAt G ng i)) = rowN 4 (blk fun _ => 0) := by unfold gainsAt; rw [if_neg h]
    have h' : (ng : Int) ≤ i := by omega
    rw [e, show rowN 4 (blk fun _ => 0) = #[.int .i64 0, .int .i64 0, .int .i64 0, .int .i64 0] from rfl]
    clear hs e
    go_enter Tryz.func41, Tryz.ntmps41
    go_wp2_with (with_reducible refine wpList_store_row rfl 50 _ _ rfl w.heap.size #[.int .i64 0, .int .i64 0, .int .i64 0, .int .i64 0] rfl rfl 50 _ (heap_alloc_new _ _) Hs4.out (by kernel_rfl) (by kernel_rfl) ?_; rw [World.setRow_alloc_new])
    exact bodyPost_ret (results_cell_row rfl _ _ w.heap.size 50 _ (0, 0) _ rfl (heap_alloc_new _ _) Tryz.underlying50 rfl Hs4.out) rfl ⟨rfl, Old.alloc _ _⟩
/-- A row of the call's own, of elements of s cells, that holds these numbers. -/
theorem ownS.cells {X : Nat → Prop} {w : World} {e : TypeId} {s n : Nat} {v : Value} {F : Nat → Int} (h : ownS X w e s v n (rowL (n * s) F)) (h0 : 0 < n) : ∃ g cap, v = .slice (some ⟨g, 0, none⟩) n cap ∧ ¬ X g ∧ CellsAt w g (s * n) F := by
  rcases h.1.2 with ⟨_, h1⟩ | ⟨g, cap, cur, rfl, hb, hg, hn, hc, hs, ht⟩
  · omega
  · refine ⟨g, cap, rfl, h.2 g rfl, lt_of_block hg, fun j hj => ?_, fun j hj => frozen_of_row _ _ _ _ _ hg⟩
    rw [cell_of_row _ _ _ _ _ _ hg]
    have h1 := rowL_at (n * s) F j (by rw [Nat.mul_comm]; exact hj)
    rw [← ht, List.getElem?_take] at h1
    rw [if_pos (by rw [Nat.mul_comm n s]; exact hj)] at h1
    simpa using h1
theorem own_emptyS (w : World) (t : TypeId) (s : Nat) : ownS (fun q => q < w.heap.size) (w.alloc (.cells #[] t)) t s (.slice (some ⟨w.heap.size, 0, none⟩) 0 0) 0 [] := by
  refine ⟨⟨by simp, .inr ⟨w.heap.size, 0, #[], rfl, Nat.zero_le _, heap_alloc_new _ _, Nat.le_refl _, Nat.zero_le _, by simp, by simp⟩⟩, fun k hk => ?_⟩
  have : k = w.heap.size := by simpa [Value.ownBlock, eq_comm] using hk
  omega
set_option maxRecDepth 100000 in
set_option maxHeartbeats 1000000 in
theorem CloneB_any (p : Option Addr) (n cap : Nat) (F : Nat → Int) (w : World) (hs : SlF 16 w p n F) (hn : n ≤ 17179869184) (hp : n = 0 → p = none → cap = 0) :
    Calls Tryz.prog 59 #[.slice p n cap] w fun e w' => ∃ q c, e = .returned (.slice q n c) ∧ OwnR 16 (fun q => q < w.heap.size) w' q n F ∧ Old w w' := by
  obtain ⟨i0, hi, hz0, hz1, hz2⟩ := info_parts Tryz.info_block
  cases p with
  | none =>
    have h0 : n = 0 := by
      rcases Nat.eq_zero_or_pos n with h | h
      · exact h
      · obtain ⟨b, off, hp, _⟩ := hs h
        cases hp
    subst h0
    have hE := eql_sl_nil 38 53 none 0 cap Tryz.underlying38
    clear hs hp
    go_enter Tryz.func59, Tryz.ntmps59
    go_wp2
    go_ret
    exact ⟨_, _, rfl, fun h => absurd h (by omega), Old.refl w⟩
  | some a =>
    have HN : Hid (∀ j u, (rowL (n * 16) F)[j]? = some u → (w.alloc (.cells #[] 53)).cell? (a.add j) = some u) := by
      intro j u hj
      obtain ⟨hj, rfl⟩ := rowL_get hj
      obtain ⟨b, off, hp, hb, hcell⟩ := hs (by omega)
      obtain rfl : a = ⟨b, off, none⟩ := by simpa using hp
      rw [add_plain, (Old.alloc w (.cells #[] 53)).cell (a := ⟨b, off + j, none⟩) hb]
      exact hcell j (by omega)
    have HO : Hid (Old w (w.alloc (.cells #[] 53))) := Old.alloc _ _
    have HM : Hid ((rowL (n * 16) F).length = n * 16) := rowL_len _ _
    have H1 := Lib.hid (rowL_one (n * 16) F)
    clear hs hp
    have hE := eql_sl_nil 38 53 (some a) n cap Tryz.underlying38
    go_enter Tryz.func59, Tryz.ntmps59
    go_wp2_with (at_builtin; refine append_S _ rfl _ _ 38 rfl (fun q => q < w.heap.size) 53 i0 _ 16 128 Tryz.underlying38 hi hz0 hz1 hz2 rfl (by omega) _ _ _ rfl (own_emptyS w 53 16) a n cap (rowL (n * 16) F) rfl HM.out HN.out H1.out (by unfold maxLen; omega) (by omega) (fun q hq => Nat.lt_of_lt_of_le hq HO.out.size) ?_; intro v' w2 hown2 hk2 _; have HR2 := Lib.hid (show ownS (fun q => q < w.heap.size) w2 53 16 v' n (rowL (n * 16) F) from (by have := hown2; rw [Nat.zero_add, List.nil_append] at this; exact this)); have HO2 := Lib.hid (HO.out.after hk2 (fun _ h => h)); clear hown2 hk2 HO HN HM H1)
    obtain ⟨q, c, hv⟩ : ∃ q c, v' = .slice q n c := by
      rcases HR2.out.1.2 with ⟨rfl, h0⟩ | ⟨g, c, _, rfl, _⟩
      · exact ⟨none, 0, by rw [h0]⟩
      · exact ⟨_, c, rfl⟩
    subst hv
    have HF : Hid (OwnR 16 (fun q => q < w.heap.size) w2 q n F) := fun h0 => by
      obtain ⟨g, c', hv, hX, hc⟩ := HR2.out.cells h0
      simp only [Value.slice.injEq] at hv
      exact ⟨g, hv.1, hX, hc⟩
    clear HR2
    go_ret
    exact ⟨_, _, rfl, HF.out, HO2.out⟩
end Go.Proofs.YtlcbmgbnhjgelaaGreat


