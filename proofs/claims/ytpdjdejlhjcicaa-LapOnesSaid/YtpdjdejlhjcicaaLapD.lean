/- Contracts of (lift.Pairs).Turn and Back over a row of eight of one block and eight numbers of another (by wip/tools/lapd.py). -/
import Derived.Test.YtpdjdejlhjcicaaLapC
import Derived.Test.YtpdjdejlhjcicaaLiftL
import Derived.Deep.RegionHeld
namespace Go.Proofs.Ytpdjdejlhjcicaa
set_option linter.unusedVariables false
open Go.RowKit

/-- What becomes of the eight ahead, and of those behind. -/
def metA (wa : Int → Int → Int → Int → Int) (fa fb : Nat → Int) : Nat → Int := fun k => wa (fa k) (fb k) (turnP k) (turnU k)
def upto (n : Nat) (f g : Nat → Int) : Nat → Int := fun k => if k < n then f k else g k
def from_ (n : Nat) (f g : Nat → Int) : Nat → Int := fun k => if k < n then g k else f k
theorem upto_zero (f g : Nat → Int) : upto 0 f g = g := by funext k; unfold upto; rw [if_neg (by omega)]
theorem from_eight (f g : Nat → Int) (k : Nat) (h : k < 8) : from_ 8 f g k = g k := by unfold from_; rw [if_pos h]
/-- The two rows while they are turned: ga holds fa', gb holds F with fb' over it; t3's block holds the turns. -/
structure PT (X : Nat → Prop) (w : World) (bt tt ga gb m ob : Nat) (F fa' fb' : Nat → Int) (W : World) : Prop where
  a : CellsAt W ga 8 fa'
  b : CellsAt W gb m (patch F ob 8 fb')
  t : W.heap[bt]? = some (.cells T8 tt (0, 0))
  k : Kept X w W
theorem PT.ext {X : Nat → Prop} {w : World} {bt tt ga gb m ob : Nat} {F fa fa' fb fb' : Nat → Int} {W : World} (h : PT X w bt tt ga gb m ob F fa fb W) (ha : ∀ j, j < 8 → fa j = fa' j) (hb : ∀ j, j < 8 → fb j = fb' j) : PT X w bt tt ga gb m ob F fa' fb' W :=
  ⟨h.a.ext ha, h.b.ext fun j _ => by unfold patch; split <;> first | rfl | exact hb _ (by omega), h.t, h.k⟩
theorem PT.step {X : Nat → Prop} {w W V : World} {bt tt ga gb m ob k : Nat} {F fa fb : Nat → Int} (h : PT X w bt tt ga gb m ob F fa fb W) (ho : Old W V) (hX : ∀ q, X q → q < w.heap.size) (hk : k < 8) (hm : ob + 8 ≤ m) (h1 : ga ≠ gb) (h2 : bt ≠ ga) (h3 : bt ≠ gb) (xa : ¬ X ga) (xb : ¬ X gb) (va vb : Int) :
    PT X w bt tt ga gb m ob F (fun j => if j = k then va else fa j) (fun j => if j = k then vb else fb j) ((V.setCell ⟨ga, k, none⟩ (.int .i64 va)).setCell ⟨gb, ob + k, none⟩ (.int .i64 vb)) := by
  have a1 := (h.a.old ho).set k hk va
  have b1 := (h.b.old ho)
  refine ⟨a1.setOther (a := ⟨gb, ob + k, none⟩) (fun e => h1 e.symm) _, ?_, ?_, ((h.k.trans (Kept.mono ho fun q hq => Nat.lt_of_lt_of_le (hX q hq) h.k.size)).trans (Kept.setCell _ (a := ⟨ga, k, none⟩) xa _)).trans (Kept.setCell _ (a := ⟨gb, ob + k, none⟩) xb _)⟩
  · refine ((b1.setOther (a := ⟨ga, k, none⟩) h1 _).set (ob + k) (by omega) vb).ext fun j _ => ?_
    unfold patch
    dsimp only
    by_cases e : j = ob + k
    · subst e; rw [if_pos rfl, if_pos ⟨by omega, by omega⟩, if_pos (by omega)]
    · rw [if_neg e]
      split
      · rw [if_neg (by omega)]
      · rfl
  · rw [Below.heap_setCell _ _ _ _ h3, Below.heap_setCell _ _ _ _ h2]
    exact (ho.block bt (lt_of_block h.t)).trans h.t

set_option maxRecDepth 100000 in
set_option maxHeartbeats 4000000 in
theorem PTurn_any (X : Nat → Prop) (ga gb m ob ca cb : Nat) (fa F : Nat → Int) (w : World) (ha : CellsAt w ga 8 fa) (hb : CellsAt w gb m F) (hm : ob + 8 ≤ m) (hne : ga ≠ gb) (xa : ¬ X ga) (xb : ¬ X gb) (hX : ∀ q, X q → q < w.heap.size) :
    Calls Try.prog 35 #[.agg T8, .slice (some ⟨ga, 0, none⟩) 8 ca, .slice (some ⟨gb, ob, none⟩) 8 cb] w fun e w' => e = .returned (.tuple #[]) ∧
      CellsAt w' ga 8 (metA turnWA fa (fun k => F (ob + k))) ∧ CellsAt w' gb m (patch F ob 8 (metA turnWB fa (fun k => F (ob + k)))) ∧ Kept X w w' := by
  have hs := T8_size
  have HT := Lib.hid T8_at
  have HZ : Hid ((Try.prog.info? 47).map (·.size) = some 16) := Lib.hid (by kernel_rfl)
  have hC := Lib.hid (fun w => count_any (some ⟨ga, 0, none⟩) (some ⟨gb, ob, none⟩) ca cb w)
  have H0 : Hid (∀ W, Old (w.alloc (.cells T8 47)) W → PT X w w.heap.size 47 ga gb m ob F fa (fun k => F (ob + k)) W) := fun W hW => by
    have h1 := (Old.alloc w (.cells T8 47)).trans hW
    refine ⟨ha.old h1, (hb.old h1).ext fun j hj => ?_, (hW.block _ (by simp)).trans (heap_alloc_new _ _), Kept.mono h1 hX⟩
    unfold patch
    dsimp only
    split
    · rw [show ob + (j - ob) = j by omega]
    · rfl
  have hga := ha.lt
  have hgb := hb.lt
  have HP : Hid (PT X w w.heap.size 47 ga gb m ob F = PT X w w.heap.size 47 ga gb m ob F) := rfl
  clear ha hb HP
  generalize hR : T8 = R at hs hC ⊢
  have HR := Lib.hid hR
  clear hR
  go_enter Try.func35, Try.ntmps35
  go_wp2_with (with_reducible refine wpList_load_row rfl 47 _ rfl w.heap.size rfl 47 R (0, 0) _ (heap_alloc_new _ _) Try.underlying47 rfl (by rw [hs]; exact HZ.out) ?_)
  refine (hC.out _).mono ?_
  rintro e w1 ⟨rfl, ho1⟩
  have H1 : Hid (PT X w w.heap.size 47 ga gb m ob F fa (fun k => F (ob + k)) w1) := H0.out w1 (by rw [HR.out]; exact ho1)
  clear H0 ho1 hC
  go_wp2_with fail
  go_loopw [11] (fun i wr => ∃ k : Nat, k ≤ 8 ∧ i = .int .i64 k ∧ Hid (PT X w w.heap.size 47 ga gb m ob F (upto k (metA turnWA fa (fun k => F (ob + k))) fa) (upto k (metA turnWB fa (fun k => F (ob + k))) (fun k => F (ob + k))) wr)) (fun i _ => 8 - (intOf i).toNat)
  case atStart => exact ⟨0, by omega, rfl, by rw [upto_zero, upto_zero]; exact H1⟩
  case round =>
    obtain ⟨k, hk, rfl, HS⟩ := hrel
    clear H1
    by_cases hlt : k < 8
    · have i1 : (0 : Int) ≤ k := by omega
      have i2 : (k : Int) < 8 := by omega
      have hk8 : k < 8 := by omega
      obtain ⟨ga', hga'⟩ : ∃ f, f = upto k (metA turnWA fa (fun k => F (ob + k))) fa := ⟨_, rfl⟩
      obtain ⟨gb', hgb'⟩ : ∃ f, f = upto k (metA turnWB fa (fun k => F (ob + k))) (fun k => F (ob + k)) := ⟨_, rfl⟩
      have ea : ga' k = fa k := by rw [hga']; unfold upto; rw [if_neg (by omega)]
      have eb : gb' k = F (ob + k) := by rw [hgb']; unfold upto; rw [if_neg (by omega)]
      rw [← hga', ← hgb'] at HS
      have hcT := fun w => Turn_all (fa k) (F (ob + k)) (turnP k) (turnU k) w
      have na : ∀ j, j < 8 → (if j = k then turnWA (fa k) (F (ob + k)) (turnP k) (turnU k) else ga' j) = upto (k + 1) (metA turnWA fa (fun k => F (ob + k))) fa j := fun j hj => by
        rw [hga']; unfold upto metA
        by_cases e : j = k
        · subst e; rw [if_pos rfl, if_pos (by omega)]
        · rw [if_neg e]
          by_cases c : j < k
          · rw [if_pos c, if_pos (by omega)]
          · rw [if_neg c, if_neg (by omega)]
      have nb : ∀ j, j < 8 → (if j = k then turnWB (fa k) (F (ob + k)) (turnP k) (turnU k) else gb' j) = upto (k + 1) (metA turnWB fa (fun k => F (ob + k))) (fun k => F (ob + k)) j := fun j hj => by
        rw [hgb']; unfold upto metA
        by_cases e : j = k
        · subst e; rw [if_pos rfl, if_pos (by omega)]
        · rw [if_neg e]
          by_cases c : j < k
          · rw [if_pos c, if_pos (by omega)]
          · rw [if_neg c, if_neg (by omega)]
      obtain ⟨x, hx⟩ : ∃ x, x = fa k := ⟨_, rfl⟩
      obtain ⟨y, hy⟩ : ∃ y, y = F (ob + k) := ⟨_, rfl⟩
      rw [← hx, ← hy] at hcT na nb
      rw [← hx] at ea
      rw [← hy] at eb
      have hT8 := HT.out k hk8
      rw [HR.out] at hT8
      have ht := HS.out.t
      rw [HR.out] at ht
      generalize turnP k = pv at *
      generalize turnU k = uv at *
      generalize hva : turnWA x y pv uv = va at *
      generalize hvb : turnWB x y pv uv = vb at *
      have NX : Hid (∀ V, Old wr.drew V → PT X w w.heap.size 47 ga gb m ob F (upto (k + 1) (metA turnWA fa (fun k => F (ob + k))) fa) (upto (k + 1) (metA turnWB fa (fun k => F (ob + k))) (fun k => F (ob + k))) ((V.setCell ⟨ga, k, none⟩ (.int .i64 va)).setCell ⟨gb, ob + k, none⟩ (.int .i64 vb))) := fun V hV =>
        (HS.out.step (Old.drew (Old.refl _) |>.trans hV) hX hk8 hm hne (by omega) (by omega) xa xb va vb).ext na nb
      have keep1 : ∀ V : World, Old wr.drew V → V.cell? ⟨w.heap.size, k * 2, none⟩ = some (.int .i64 pv) ∧ V.cell? ⟨w.heap.size, k * 2 + 1, none⟩ = some (.int .i64 uv) := fun V hV => by
        have e : V.heap[w.heap.size]? = some (.cells R 47 (0, 0)) := (hV.block _ (lt_of_block ht)).trans ht
        exact ⟨(cell_of_row _ _ _ _ _ _ e).trans hT8.1, (cell_of_row _ _ _ _ _ _ e).trans hT8.2⟩
      have keep2 : ∀ (V : World) (g j : Nat) (v : Value), w.heap.size ≠ g → (V.cell? ⟨w.heap.size, k * 2, none⟩ = some (.int .i64 pv) ∧ V.cell? ⟨w.heap.size, k * 2 + 1, none⟩ = some (.int .i64 uv)) → (V.setCell ⟨g, j, none⟩ v).cell? ⟨w.heap.size, k * 2, none⟩ = some (.int .i64 pv) ∧ (V.setCell ⟨g, j, none⟩ v).cell? ⟨w.heap.size, k * 2 + 1, none⟩ = some (.int .i64 uv) := fun V g j v hg hV =>
        ⟨(World.cell?_setCell_far _ _ _ _ (fun e => hg e.symm)).trans hV.1, (World.cell?_setCell_far _ _ _ _ (fun e => hg e.symm)).trans hV.2⟩
      have cells : ∀ V : World, Old wr.drew V → V.cell? ⟨ga, k, none⟩ = some (.int .i64 x) ∧ V.cell? ⟨gb, ob + k, none⟩ = some (.int .i64 y) ∧ V.frozen? ⟨ga, k, none⟩ = false ∧ V.frozen? ⟨gb, ob + k, none⟩ = false ∧
          (V.setCell ⟨ga, k, none⟩ (.int .i64 va)).cell? ⟨gb, ob + k, none⟩ = some (.int .i64 y) ∧ (V.setCell ⟨ga, k, none⟩ (.int .i64 va)).frozen? ⟨gb, ob + k, none⟩ = false := fun V hV => by
        have a1 := (HS.out.a.drew.old hV).cell k hk8
        have a2 := (HS.out.a.drew.old hV).frz k hk8
        have b1 := (HS.out.b.drew.old hV).cell (ob + k) (by omega)
        have b2 := (HS.out.b.drew.old hV).frz (ob + k) (by omega)
        unfold patch at b1
        rw [if_pos ⟨by omega, by omega⟩, show ob + k - ob = k by omega, eb] at b1
        rw [ea] at a1
        refine ⟨a1, b1, a2, b2, ?_, ?_⟩
        · rw [World.cell?_setCell_far _ _ _ _ (by exact hne)]; exact b1
        · rw [World.frozen?_setCell]; exact b2
      have HK1 := Lib.hid keep1
      have HK2 := Lib.hid keep2
      have HCl := Lib.hid cells
      have HcT := Lib.hid hcT
      have nga : w.heap.size ≠ ga := by omega
      have ngb : w.heap.size ≠ gb := by omega
      obtain ⟨c1, c2, c3, c4, c5, c6⟩ := cells wr.drew (Old.refl _)
      clear keep1 keep2 cells hcT na nb hx hy hga' hgb' ea eb hT8 ht HS HT HR hva hvb HZ
      go_wp2_with fail
      refine wp_region_held_drew (S := (fun w' => w'.cell? ⟨w.heap.size, k * 2, none⟩ = some (.int .i64 pv) ∧ w'.cell? ⟨w.heap.size, k * 2 + 1, none⟩ = some (.int .i64 uv))) (by kernel_rfl) ?_ (fun hHeld => ?_)
      · (try dsimp only); exact HK1.out _ (Old.refl _)
      refine wpAnyH_take (i := 0) (oi := ⟨some _, _, _, _, _, _⟩) (v := ?_) rfl (by kernel_rfl) (by kernel_rfl) (by kernel_rfl) (fun _ _ _ h => h) (Or.inl ⟨by kernel_rfl, ?_⟩) (by assumption) ?_; rotate_left; (intro w hSw; (try dsimp only at hSw); go_simp; try with_reducible rfl); try simp only [Act.put, List.setIfInBounds_toArray, List.set_cons_zero, List.set_cons_succ]
      refine wpAnyH_take (i := 1) (oi := ⟨some _, _, _, _, _, _⟩) (v := ?_) rfl (by kernel_rfl) (by kernel_rfl) (by kernel_rfl) (fun _ _ _ h => h) (Or.inl ⟨by kernel_rfl, ?_⟩) (by assumption) ?_; rotate_left; (intro w hSw; (try dsimp only at hSw); go_simp; try with_reducible rfl); try simp only [Act.put, List.setIfInBounds_toArray, List.set_cons_zero, List.set_cons_succ]
      refine wpAnyH_take (i := 2) (oi := ⟨some _, _, _, _, _, _⟩) (v := ?_) rfl (by kernel_rfl) (by kernel_rfl) (by kernel_rfl) (fun _ _ _ h => h) (Or.inl ⟨by kernel_rfl, ?_⟩) (by assumption) ?_; rotate_left; (intro w hSw; (try dsimp only at hSw); go_simp; try with_reducible rfl); try simp only [Act.put, List.setIfInBounds_toArray, List.set_cons_zero, List.set_cons_succ]
      refine wpAnyH_take (i := 3) (oi := ⟨some _, _, _, _, _, _⟩) (v := ?_) rfl (by kernel_rfl) (by kernel_rfl) (by kernel_rfl) (fun _ _ _ h => h) (Or.inl ⟨by kernel_rfl, ?_⟩) (by assumption) ?_; rotate_left; (intro w hSw; (try dsimp only at hSw); go_simp; try with_reducible rfl); try simp only [Act.put, List.setIfInBounds_toArray, List.set_cons_zero, List.set_cons_succ]
      refine wpAnyH_take (i := 4) (oi := ⟨some _, _, _, _, _, _⟩) (v := ?_) rfl (by kernel_rfl) (by kernel_rfl) (by kernel_rfl) (fun _ _ _ h => h) (Or.inl ⟨by kernel_rfl, ?_⟩) (by assumption) ?_; rotate_left; (intro w hSw; (try dsimp only at hSw); go_simp; try with_reducible rfl); try simp only [Act.put, List.setIfInBounds_toArray, List.set_cons_zero, List.set_cons_succ]
      refine wpAnyH_take (i := 5) (oi := ⟨some _, _, _, _, _, _⟩) (v := ?_) rfl (by kernel_rfl) (by kernel_rfl) (by kernel_rfl) (fun _ _ _ h => h) (Or.inl ⟨by kernel_rfl, ?_⟩) (by assumption) ?_; rotate_left; (intro w hSw; (try dsimp only at hSw); go_simp; try with_reducible rfl); try simp only [Act.put, List.setIfInBounds_toArray, List.set_cons_zero, List.set_cons_succ]
      refine wpAnyH_take (i := 6) (oi := ⟨some _, _, _, _, _, _⟩) (v := ?_) rfl (by kernel_rfl) (by kernel_rfl) (by kernel_rfl) (fun _ _ _ h => h) (Or.inl ⟨by kernel_rfl, ?_⟩) (by assumption) ?_; rotate_left; (intro w hSw; (try dsimp only at hSw); go_simp; try with_reducible rfl); try simp only [Act.put, List.setIfInBounds_toArray, List.set_cons_zero, List.set_cons_succ]
      refine wpAnyH_take (i := 8) (oi := ⟨some _, _, _, _, _, _⟩) (v := ?_) rfl (by kernel_rfl) (by kernel_rfl) (by kernel_rfl) (fun _ _ _ h => h) (Or.inl ⟨by kernel_rfl, ?_⟩) (by assumption) ?_; rotate_left; (intro w hSw; (try dsimp only at hSw); go_simp; try with_reducible rfl); try simp only [Act.put, List.setIfInBounds_toArray, List.set_cons_zero, List.set_cons_succ]
      refine wpAnyH_take (i := 9) (oi := ⟨some _, _, _, _, _, _⟩) (v := ?_) rfl (by kernel_rfl) (by kernel_rfl) (by kernel_rfl) (fun _ _ _ h => h) (Or.inl ⟨by kernel_rfl, ?_⟩) (by assumption) ?_; rotate_left; (intro w hSw; (try dsimp only at hSw); go_simp; try with_reducible rfl); try simp only [Act.put, List.setIfInBounds_toArray, List.set_cons_zero, List.set_cons_succ]
      refine wpAnyH_take (i := 10) (oi := ⟨some _, _, _, _, _, _⟩) (v := ?_) rfl (by kernel_rfl) (by kernel_rfl) (by kernel_rfl) (fun _ _ _ h => h) (Or.inl ⟨by kernel_rfl, ?_⟩) (by assumption) ?_; rotate_left; (intro w hSw; (try dsimp only at hSw); go_simp; try with_reducible rfl); try simp only [Act.put, List.setIfInBounds_toArray, List.set_cons_zero, List.set_cons_succ]
      refine wpAnyH_take (i := 12) (oi := ⟨some _, _, _, _, _, _⟩) (v := ?_) rfl (by kernel_rfl) (by kernel_rfl) (by kernel_rfl) (fun _ _ _ h => h) (Or.inl ⟨by kernel_rfl, ?_⟩) (by assumption) ?_; rotate_left; (intro w hSw; (try dsimp only at hSw); go_simp; try with_reducible rfl); try simp only [Act.put, List.setIfInBounds_toArray, List.set_cons_zero, List.set_cons_succ]
      refine wpAnyH_take (i := 13) (oi := ⟨some _, _, _, _, _, _⟩) (v := ?_) rfl (by kernel_rfl) (by kernel_rfl) (by kernel_rfl) (fun _ _ _ h => h) (Or.inl ⟨by kernel_rfl, ?_⟩) (by assumption) ?_; rotate_left; (intro w hSw; (try dsimp only at hSw); go_simp; try with_reducible rfl); try simp only [Act.put, List.setIfInBounds_toArray, List.set_cons_zero, List.set_cons_succ]
      refine wpAnyH_take (i := 14) (oi := ⟨some _, _, _, _, _, _⟩) (v := ?_) rfl (by kernel_rfl) (by kernel_rfl) (by kernel_rfl) (fun _ _ _ h => h) (Or.inl ⟨by kernel_rfl, ?_⟩) (by assumption) ?_; rotate_left; (intro w hSw; (try dsimp only at hSw); go_simp; try with_reducible rfl); try simp only [Act.put, List.setIfInBounds_toArray, List.set_cons_zero, List.set_cons_succ]
      refine wpAnyH_take (i := 15) (oi := ⟨some _, _, _, _, _, _⟩) (v := ?_) rfl (by kernel_rfl) (by kernel_rfl) (by kernel_rfl) (fun _ _ _ h => h) (Or.inl ⟨by kernel_rfl, ?_⟩) (by assumption) ?_; rotate_left; (intro w hSw; (try dsimp only at hSw); go_simp; try with_reducible rfl); try simp only [Act.put, List.setIfInBounds_toArray, List.set_cons_zero, List.set_cons_succ]
      refine wpAnyH_ready (rs := [7, 11]) (by kernel_rfl) (by simp) ?_
      refine AllReadyH.cons (o := ⟨_, _, _, _, _, _⟩) rfl (fun K hK => ?_) (AllReadyH.cons (o := ⟨_, _, _, _, _, _⟩) rfl (fun K hK => ?_) AllReadyH.nil)
      · go_simp
        refine hK.out _ _ ?_ (fun hHeld => ?_)
        · (try dsimp only); exact hHeld
        clear hK K
        try simp only [Act.put, List.setIfInBounds_toArray, List.set_cons_zero, List.set_cons_succ]
        refine wpAnyH_ready (rs := [11]) (by kernel_rfl) (by simp) ?_
        refine AllReadyH.cons (o := ⟨_, _, _, _, _, _⟩) rfl (fun K hK => ?_) AllReadyH.nil
        go_simp
        refine hK.out _ _ ?_ (fun hHeld => ?_)
        · (try dsimp only); exact hHeld
        clear hK K
        try simp only [Act.put, List.setIfInBounds_toArray, List.set_cons_zero, List.set_cons_succ]
        refine wpAnyH_ready (rs := [16]) (by kernel_rfl) (by simp) ?_
        refine AllReadyH.cons (o := ⟨_, _, _, _, _, _⟩) rfl (fun K hK => ?_) AllReadyH.nil
        go_simp
        refine (HcT.out _).mono ?_
        rintro e V1 ⟨rfl, o1⟩
        go_wp2_with fail
        refine hK.out _ _ ?_ (fun hHeld => ?_)
        · (try dsimp only); exact HK1.out _ o1
        clear hK K
        try simp only [Act.put, List.setIfInBounds_toArray, List.set_cons_zero, List.set_cons_succ]
        refine wpAnyH_take (i := 17) (oi := ⟨some _, _, _, _, _, _⟩) (v := ?_) rfl (by kernel_rfl) (by kernel_rfl) (by kernel_rfl) (fun _ _ _ h => h) (Or.inl ⟨by kernel_rfl, ?_⟩) (by assumption) ?_; rotate_left; (intro w hSw; (try dsimp only at hSw); go_simp; try with_reducible rfl); try simp only [Act.put, List.setIfInBounds_toArray, List.set_cons_zero, List.set_cons_succ]
        refine wpAnyH_take (i := 18) (oi := ⟨some _, _, _, _, _, _⟩) (v := ?_) rfl (by kernel_rfl) (by kernel_rfl) (by kernel_rfl) (fun _ _ _ h => h) (Or.inl ⟨by kernel_rfl, ?_⟩) (by assumption) ?_; rotate_left; (intro w hSw; (try dsimp only at hSw); go_simp; try with_reducible rfl); try simp only [Act.put, List.setIfInBounds_toArray, List.set_cons_zero, List.set_cons_succ]
        refine wpAnyH_take (i := 19) (oi := ⟨some _, _, _, _, _, _⟩) (v := ?_) rfl (by kernel_rfl) (by kernel_rfl) (by kernel_rfl) (fun _ _ _ h => h) (Or.inl ⟨by kernel_rfl, ?_⟩) (by assumption) ?_; rotate_left; (intro w hSw; (try dsimp only at hSw); go_simp; try with_reducible rfl); try simp only [Act.put, List.setIfInBounds_toArray, List.set_cons_zero, List.set_cons_succ]
        refine wpAnyH_take (i := 20) (oi := ⟨some _, _, _, _, _, _⟩) (v := ?_) rfl (by kernel_rfl) (by kernel_rfl) (by kernel_rfl) (fun _ _ _ h => h) (Or.inl ⟨by kernel_rfl, ?_⟩) (by assumption) ?_; rotate_left; (intro w hSw; (try dsimp only at hSw); go_simp; try with_reducible rfl); try simp only [Act.put, List.setIfInBounds_toArray, List.set_cons_zero, List.set_cons_succ]
        obtain ⟨-, -, d3, d4, d5, d6⟩ := HCl.out V1 o1
        have dc := (HCl.out V1 o1).1
        refine wpAnyH_ready (rs := [21]) (by kernel_rfl) (by simp) ?_
        refine AllReadyH.cons (o := ⟨_, _, _, _, _, _⟩) rfl (fun K hK => ?_) AllReadyH.nil
        go_simp
        refine hK.out _ _ ?_ (fun hHeld => ?_)
        · (try dsimp only); exact HK2.out _ _ _ _ nga (HK1.out _ o1)
        clear hK K
        try simp only [Act.put, List.setIfInBounds_toArray, List.set_cons_zero, List.set_cons_succ]
        refine wpAnyH_take (i := 22) (oi := ⟨some _, _, _, _, _, _⟩) (v := ?_) rfl (by kernel_rfl) (by kernel_rfl) (by kernel_rfl) (fun _ _ _ h => h) (Or.inl ⟨by kernel_rfl, ?_⟩) (by assumption) ?_; rotate_left; (intro w hSw; (try dsimp only at hSw); go_simp; try with_reducible rfl); try simp only [Act.put, List.setIfInBounds_toArray, List.set_cons_zero, List.set_cons_succ]
        refine wpAnyH_ready (rs := [23]) (by kernel_rfl) (by simp) ?_
        refine AllReadyH.cons (o := ⟨_, _, _, _, _, _⟩) rfl (fun K hK => ?_) AllReadyH.nil
        go_simp
        refine hK.out _ _ ?_ (fun hHeld => ?_)
        · (try dsimp only); exact HK2.out _ _ _ _ ngb (HK2.out _ _ _ _ nga (HK1.out _ o1))
        clear hK K
        try simp only [Act.put, List.setIfInBounds_toArray, List.set_cons_zero, List.set_cons_succ]
        refine wpAnyH_done (by kernel_rfl) ?_ _
        have HN := Lib.hid (NX.out V1 o1)
        clear HK1 HK2 HCl NX HcT o1 c1 c2 c3 c4 c5 c6 d3 d4 d5 d6 dc
        go_wp2_with fail
        go_roundw
        case rel => exact ⟨k + 1, by omega, by go_num, HN⟩
        case measure => (simp [intOf]; try omega)
      · go_simp
        refine hK.out _ _ ?_ (fun hHeld => ?_)
        · (try dsimp only); exact hHeld
        clear hK K
        try simp only [Act.put, List.setIfInBounds_toArray, List.set_cons_zero, List.set_cons_succ]
        refine wpAnyH_ready (rs := [7]) (by kernel_rfl) (by simp) ?_
        refine AllReadyH.cons (o := ⟨_, _, _, _, _, _⟩) rfl (fun K hK => ?_) AllReadyH.nil
        go_simp
        refine hK.out _ _ ?_ (fun hHeld => ?_)
        · (try dsimp only); exact hHeld
        clear hK K
        try simp only [Act.put, List.setIfInBounds_toArray, List.set_cons_zero, List.set_cons_succ]
        refine wpAnyH_ready (rs := [16]) (by kernel_rfl) (by simp) ?_
        refine AllReadyH.cons (o := ⟨_, _, _, _, _, _⟩) rfl (fun K hK => ?_) AllReadyH.nil
        go_simp
        refine (HcT.out _).mono ?_
        rintro e V1 ⟨rfl, o1⟩
        go_wp2_with fail
        refine hK.out _ _ ?_ (fun hHeld => ?_)
        · (try dsimp only); exact HK1.out _ o1
        clear hK K
        try simp only [Act.put, List.setIfInBounds_toArray, List.set_cons_zero, List.set_cons_succ]
        refine wpAnyH_take (i := 17) (oi := ⟨some _, _, _, _, _, _⟩) (v := ?_) rfl (by kernel_rfl) (by kernel_rfl) (by kernel_rfl) (fun _ _ _ h => h) (Or.inl ⟨by kernel_rfl, ?_⟩) (by assumption) ?_; rotate_left; (intro w hSw; (try dsimp only at hSw); go_simp; try with_reducible rfl); try simp only [Act.put, List.setIfInBounds_toArray, List.set_cons_zero, List.set_cons_succ]
        refine wpAnyH_take (i := 18) (oi := ⟨some _, _, _, _, _, _⟩) (v := ?_) rfl (by kernel_rfl) (by kernel_rfl) (by kernel_rfl) (fun _ _ _ h => h) (Or.inl ⟨by kernel_rfl, ?_⟩) (by assumption) ?_; rotate_left; (intro w hSw; (try dsimp only at hSw); go_simp; try with_reducible rfl); try simp only [Act.put, List.setIfInBounds_toArray, List.set_cons_zero, List.set_cons_succ]
        refine wpAnyH_take (i := 19) (oi := ⟨some _, _, _, _, _, _⟩) (v := ?_) rfl (by kernel_rfl) (by kernel_rfl) (by kernel_rfl) (fun _ _ _ h => h) (Or.inl ⟨by kernel_rfl, ?_⟩) (by assumption) ?_; rotate_left; (intro w hSw; (try dsimp only at hSw); go_simp; try with_reducible rfl); try simp only [Act.put, List.setIfInBounds_toArray, List.set_cons_zero, List.set_cons_succ]
        refine wpAnyH_take (i := 20) (oi := ⟨some _, _, _, _, _, _⟩) (v := ?_) rfl (by kernel_rfl) (by kernel_rfl) (by kernel_rfl) (fun _ _ _ h => h) (Or.inl ⟨by kernel_rfl, ?_⟩) (by assumption) ?_; rotate_left; (intro w hSw; (try dsimp only at hSw); go_simp; try with_reducible rfl); try simp only [Act.put, List.setIfInBounds_toArray, List.set_cons_zero, List.set_cons_succ]
        obtain ⟨-, -, d3, d4, d5, d6⟩ := HCl.out V1 o1
        have dc := (HCl.out V1 o1).1
        refine wpAnyH_ready (rs := [21]) (by kernel_rfl) (by simp) ?_
        refine AllReadyH.cons (o := ⟨_, _, _, _, _, _⟩) rfl (fun K hK => ?_) AllReadyH.nil
        go_simp
        refine hK.out _ _ ?_ (fun hHeld => ?_)
        · (try dsimp only); exact HK2.out _ _ _ _ nga (HK1.out _ o1)
        clear hK K
        try simp only [Act.put, List.setIfInBounds_toArray, List.set_cons_zero, List.set_cons_succ]
        refine wpAnyH_take (i := 22) (oi := ⟨some _, _, _, _, _, _⟩) (v := ?_) rfl (by kernel_rfl) (by kernel_rfl) (by kernel_rfl) (fun _ _ _ h => h) (Or.inl ⟨by kernel_rfl, ?_⟩) (by assumption) ?_; rotate_left; (intro w hSw; (try dsimp only at hSw); go_simp; try with_reducible rfl); try simp only [Act.put, List.setIfInBounds_toArray, List.set_cons_zero, List.set_cons_succ]
        refine wpAnyH_ready (rs := [23]) (by kernel_rfl) (by simp) ?_
        refine AllReadyH.cons (o := ⟨_, _, _, _, _, _⟩) rfl (fun K hK => ?_) AllReadyH.nil
        go_simp
        refine hK.out _ _ ?_ (fun hHeld => ?_)
        · (try dsimp only); exact HK2.out _ _ _ _ ngb (HK2.out _ _ _ _ nga (HK1.out _ o1))
        clear hK K
        try simp only [Act.put, List.setIfInBounds_toArray, List.set_cons_zero, List.set_cons_succ]
        refine wpAnyH_done (by kernel_rfl) ?_ _
        have HN := Lib.hid (NX.out V1 o1)
        clear HK1 HK2 HCl NX HcT o1 c1 c2 c3 c4 c5 c6 d3 d4 d5 d6 dc
        go_wp2_with fail
        go_roundw
        case rel => exact ⟨k + 1, by omega, by go_num, HN⟩
        case measure => (simp [intOf]; try omega)
    · obtain rfl : k = 8 := by omega
      have HE : Hid (CellsAt wr ga 8 (metA turnWA fa (fun k => F (ob + k))) ∧ CellsAt wr gb m (patch F ob 8 (metA turnWB fa (fun k => F (ob + k)))) ∧ Kept X w wr) := by
        have h := HS.out.ext (fa' := (metA turnWA fa (fun k => F (ob + k)))) (fb' := (metA turnWB fa (fun k => F (ob + k)))) (fun j hj => by unfold upto; rw [if_pos hj]) (fun j hj => by unfold upto; rw [if_pos hj])
        exact ⟨h.a, h.b, h.k⟩
      clear HS HT HR
      go_wp2_with fail
      go_end0
      exact ⟨rfl, HE.out⟩
set_option maxRecDepth 100000 in
set_option maxHeartbeats 4000000 in
theorem PBack_any (X : Nat → Prop) (ga gb m ob ca cb : Nat) (fa F : Nat → Int) (w : World) (ha : CellsAt w ga 8 fa) (hb : CellsAt w gb m F) (hm : ob + 8 ≤ m) (hne : ga ≠ gb) (xa : ¬ X ga) (xb : ¬ X gb) (hX : ∀ q, X q → q < w.heap.size) :
    Calls Try.prog 37 #[.agg T8, .slice (some ⟨ga, 0, none⟩) 8 ca, .slice (some ⟨gb, ob, none⟩) 8 cb] w fun e w' => e = .returned (.tuple #[]) ∧
      CellsAt w' ga 8 (metA backWA fa (fun k => F (ob + k))) ∧ CellsAt w' gb m (patch F ob 8 (metA backWB fa (fun k => F (ob + k)))) ∧ Kept X w w' := by
  have hs := T8_size
  have HT := Lib.hid T8_at
  have HZ : Hid ((Try.prog.info? 47).map (·.size) = some 16) := Lib.hid (by kernel_rfl)
  have hC := Lib.hid (fun w => count_any (some ⟨ga, 0, none⟩) (some ⟨gb, ob, none⟩) ca cb w)
  have H0 : Hid (∀ W, Old (w.alloc (.cells T8 47)) W → PT X w w.heap.size 47 ga gb m ob F fa (fun k => F (ob + k)) W) := fun W hW => by
    have h1 := (Old.alloc w (.cells T8 47)).trans hW
    refine ⟨ha.old h1, (hb.old h1).ext fun j hj => ?_, (hW.block _ (by simp)).trans (heap_alloc_new _ _), Kept.mono h1 hX⟩
    unfold patch
    dsimp only
    split
    · rw [show ob + (j - ob) = j by omega]
    · rfl
  have hga := ha.lt
  have hgb := hb.lt
  have HP : Hid (PT X w w.heap.size 47 ga gb m ob F = PT X w w.heap.size 47 ga gb m ob F) := rfl
  clear ha hb HP
  generalize hR : T8 = R at hs hC ⊢
  have HR := Lib.hid hR
  clear hR
  go_enter Try.func37, Try.ntmps37
  go_wp2_with (with_reducible refine wpList_load_row rfl 47 _ rfl w.heap.size rfl 47 R (0, 0) _ (heap_alloc_new _ _) Try.underlying47 rfl (by rw [hs]; exact HZ.out) ?_)
  refine (hC.out _).mono ?_
  rintro e w1 ⟨rfl, ho1⟩
  have H1 : Hid (PT X w w.heap.size 47 ga gb m ob F fa (fun k => F (ob + k)) w1) := H0.out w1 (by rw [HR.out]; exact ho1)
  clear H0 ho1 hC
  go_wp2_with fail
  go_loopw [6] (fun i wr => ∃ k : Nat, k ≤ 8 ∧ i = .int .i64 ((k : Int) - 1) ∧ Hid (PT X w w.heap.size 47 ga gb m ob F (from_ k (metA backWA fa (fun k => F (ob + k))) fa) (from_ k (metA backWB fa (fun k => F (ob + k))) (fun k => F (ob + k))) wr)) (fun i _ => (intOf i + 1).toNat)
  case atStart => exact ⟨8, by omega, rfl, H1.out.ext (fun j hj => (from_eight (metA backWA fa (fun k => F (ob + k))) fa j hj).symm) (fun j hj => (from_eight (metA backWB fa (fun k => F (ob + k))) (fun k => F (ob + k)) j hj).symm)⟩
  case round =>
    obtain ⟨k1, hk, rfl, HS⟩ := hrel
    clear H1
    by_cases hlt : 0 < k1
    · obtain ⟨k, rfl⟩ : ∃ k, k1 = k + 1 := ⟨k1 - 1, by omega⟩
      rw [show ((k + 1 : Nat) : Int) - 1 = (k : Int) by omega]
      have i1 : (0 : Int) ≤ k := by omega
      have i2 : (k : Int) < 8 := by omega
      have hk8 : k < 8 := by omega
      obtain ⟨ga', hga'⟩ : ∃ f, f = from_ (k + 1) (metA backWA fa (fun k => F (ob + k))) fa := ⟨_, rfl⟩
      obtain ⟨gb', hgb'⟩ : ∃ f, f = from_ (k + 1) (metA backWB fa (fun k => F (ob + k))) (fun k => F (ob + k)) := ⟨_, rfl⟩
      have ea : ga' k = fa k := by rw [hga']; unfold from_; rw [if_pos (by omega)]
      have eb : gb' k = F (ob + k) := by rw [hgb']; unfold from_; rw [if_pos (by omega)]
      rw [← hga', ← hgb'] at HS
      have hcT := fun w => Back_all (fa k) (F (ob + k)) (turnP k) (turnU k) w
      have na : ∀ j, j < 8 → (if j = k then backWA (fa k) (F (ob + k)) (turnP k) (turnU k) else ga' j) = from_ k (metA backWA fa (fun k => F (ob + k))) fa j := fun j hj => by
        rw [hga']; unfold from_ metA
        by_cases e : j = k
        · subst e; rw [if_pos rfl, if_neg (by omega)]
        · rw [if_neg e]
          by_cases c : j < k
          · rw [if_pos (by omega), if_pos (by omega)]
          · rw [if_neg (by omega), if_neg (by omega)]
      have nb : ∀ j, j < 8 → (if j = k then backWB (fa k) (F (ob + k)) (turnP k) (turnU k) else gb' j) = from_ k (metA backWB fa (fun k => F (ob + k))) (fun k => F (ob + k)) j := fun j hj => by
        rw [hgb']; unfold from_ metA
        by_cases e : j = k
        · subst e; rw [if_pos rfl, if_neg (by omega)]
        · rw [if_neg e]
          by_cases c : j < k
          · rw [if_pos (by omega), if_pos (by omega)]
          · rw [if_neg (by omega), if_neg (by omega)]
      obtain ⟨x, hx⟩ : ∃ x, x = fa k := ⟨_, rfl⟩
      obtain ⟨y, hy⟩ : ∃ y, y = F (ob + k) := ⟨_, rfl⟩
      rw [← hx, ← hy] at hcT na nb
      rw [← hx] at ea
      rw [← hy] at eb
      have hT8 := HT.out k hk8
      rw [HR.out] at hT8
      have ht := HS.out.t
      rw [HR.out] at ht
      generalize turnP k = pv at *
      generalize turnU k = uv at *
      generalize hva : backWA x y pv uv = va at *
      generalize hvb : backWB x y pv uv = vb at *
      have NX : Hid (∀ V, Old wr.drew V → PT X w w.heap.size 47 ga gb m ob F (from_ k (metA backWA fa (fun k => F (ob + k))) fa) (from_ k (metA backWB fa (fun k => F (ob + k))) (fun k => F (ob + k))) ((V.setCell ⟨ga, k, none⟩ (.int .i64 va)).setCell ⟨gb, ob + k, none⟩ (.int .i64 vb))) := fun V hV =>
        (HS.out.step (Old.drew (Old.refl _) |>.trans hV) hX hk8 hm hne (by omega) (by omega) xa xb va vb).ext na nb
      have keep1 : ∀ V : World, Old wr.drew V → V.cell? ⟨w.heap.size, k * 2, none⟩ = some (.int .i64 pv) ∧ V.cell? ⟨w.heap.size, k * 2 + 1, none⟩ = some (.int .i64 uv) := fun V hV => by
        have e : V.heap[w.heap.size]? = some (.cells R 47 (0, 0)) := (hV.block _ (lt_of_block ht)).trans ht
        exact ⟨(cell_of_row _ _ _ _ _ _ e).trans hT8.1, (cell_of_row _ _ _ _ _ _ e).trans hT8.2⟩
      have keep2 : ∀ (V : World) (g j : Nat) (v : Value), w.heap.size ≠ g → (V.cell? ⟨w.heap.size, k * 2, none⟩ = some (.int .i64 pv) ∧ V.cell? ⟨w.heap.size, k * 2 + 1, none⟩ = some (.int .i64 uv)) → (V.setCell ⟨g, j, none⟩ v).cell? ⟨w.heap.size, k * 2, none⟩ = some (.int .i64 pv) ∧ (V.setCell ⟨g, j, none⟩ v).cell? ⟨w.heap.size, k * 2 + 1, none⟩ = some (.int .i64 uv) := fun V g j v hg hV =>
        ⟨(World.cell?_setCell_far _ _ _ _ (fun e => hg e.symm)).trans hV.1, (World.cell?_setCell_far _ _ _ _ (fun e => hg e.symm)).trans hV.2⟩
      have cells : ∀ V : World, Old wr.drew V → V.cell? ⟨ga, k, none⟩ = some (.int .i64 x) ∧ V.cell? ⟨gb, ob + k, none⟩ = some (.int .i64 y) ∧ V.frozen? ⟨ga, k, none⟩ = false ∧ V.frozen? ⟨gb, ob + k, none⟩ = false ∧
          (V.setCell ⟨ga, k, none⟩ (.int .i64 va)).cell? ⟨gb, ob + k, none⟩ = some (.int .i64 y) ∧ (V.setCell ⟨ga, k, none⟩ (.int .i64 va)).frozen? ⟨gb, ob + k, none⟩ = false := fun V hV => by
        have a1 := (HS.out.a.drew.old hV).cell k hk8
        have a2 := (HS.out.a.drew.old hV).frz k hk8
        have b1 := (HS.out.b.drew.old hV).cell (ob + k) (by omega)
        have b2 := (HS.out.b.drew.old hV).frz (ob + k) (by omega)
        unfold patch at b1
        rw [if_pos ⟨by omega, by omega⟩, show ob + k - ob = k by omega, eb] at b1
        rw [ea] at a1
        refine ⟨a1, b1, a2, b2, ?_, ?_⟩
        · rw [World.cell?_setCell_far _ _ _ _ (by exact hne)]; exact b1
        · rw [World.frozen?_setCell]; exact b2
      have HK1 := Lib.hid keep1
      have HK2 := Lib.hid keep2
      have HCl := Lib.hid cells
      have HcT := Lib.hid hcT
      have nga : w.heap.size ≠ ga := by omega
      have ngb : w.heap.size ≠ gb := by omega
      obtain ⟨c1, c2, c3, c4, c5, c6⟩ := cells wr.drew (Old.refl _)
      clear keep1 keep2 cells hcT na nb hx hy hga' hgb' ea eb hT8 ht HS HT HR hva hvb HZ
      go_wp2_with fail
      refine wp_region_held_drew (S := (fun w' => w'.cell? ⟨w.heap.size, k * 2, none⟩ = some (.int .i64 pv) ∧ w'.cell? ⟨w.heap.size, k * 2 + 1, none⟩ = some (.int .i64 uv))) (by kernel_rfl) ?_ (fun hHeld => ?_)
      · (try dsimp only); exact HK1.out _ (Old.refl _)
      refine wpAnyH_take (i := 0) (oi := ⟨some _, _, _, _, _, _⟩) (v := ?_) rfl (by kernel_rfl) (by kernel_rfl) (by kernel_rfl) (fun _ _ _ h => h) (Or.inl ⟨by kernel_rfl, ?_⟩) (by assumption) ?_; rotate_left; (intro w hSw; (try dsimp only at hSw); go_simp; try with_reducible rfl); try simp only [Act.put, List.setIfInBounds_toArray, List.set_cons_zero, List.set_cons_succ]
      refine wpAnyH_take (i := 1) (oi := ⟨some _, _, _, _, _, _⟩) (v := ?_) rfl (by kernel_rfl) (by kernel_rfl) (by kernel_rfl) (fun _ _ _ h => h) (Or.inl ⟨by kernel_rfl, ?_⟩) (by assumption) ?_; rotate_left; (intro w hSw; (try dsimp only at hSw); go_simp; try with_reducible rfl); try simp only [Act.put, List.setIfInBounds_toArray, List.set_cons_zero, List.set_cons_succ]
      refine wpAnyH_take (i := 2) (oi := ⟨some _, _, _, _, _, _⟩) (v := ?_) rfl (by kernel_rfl) (by kernel_rfl) (by kernel_rfl) (fun _ _ _ h => h) (Or.inl ⟨by kernel_rfl, ?_⟩) (by assumption) ?_; rotate_left; (intro w hSw; (try dsimp only at hSw); go_simp; try with_reducible rfl); try simp only [Act.put, List.setIfInBounds_toArray, List.set_cons_zero, List.set_cons_succ]
      refine wpAnyH_take (i := 3) (oi := ⟨some _, _, _, _, _, _⟩) (v := ?_) rfl (by kernel_rfl) (by kernel_rfl) (by kernel_rfl) (fun _ _ _ h => h) (Or.inl ⟨by kernel_rfl, ?_⟩) (by assumption) ?_; rotate_left; (intro w hSw; (try dsimp only at hSw); go_simp; try with_reducible rfl); try simp only [Act.put, List.setIfInBounds_toArray, List.set_cons_zero, List.set_cons_succ]
      refine wpAnyH_take (i := 4) (oi := ⟨some _, _, _, _, _, _⟩) (v := ?_) rfl (by kernel_rfl) (by kernel_rfl) (by kernel_rfl) (fun _ _ _ h => h) (Or.inl ⟨by kernel_rfl, ?_⟩) (by assumption) ?_; rotate_left; (intro w hSw; (try dsimp only at hSw); go_simp; try with_reducible rfl); try simp only [Act.put, List.setIfInBounds_toArray, List.set_cons_zero, List.set_cons_succ]
      refine wpAnyH_take (i := 5) (oi := ⟨some _, _, _, _, _, _⟩) (v := ?_) rfl (by kernel_rfl) (by kernel_rfl) (by kernel_rfl) (fun _ _ _ h => h) (Or.inl ⟨by kernel_rfl, ?_⟩) (by assumption) ?_; rotate_left; (intro w hSw; (try dsimp only at hSw); go_simp; try with_reducible rfl); try simp only [Act.put, List.setIfInBounds_toArray, List.set_cons_zero, List.set_cons_succ]
      refine wpAnyH_take (i := 6) (oi := ⟨some _, _, _, _, _, _⟩) (v := ?_) rfl (by kernel_rfl) (by kernel_rfl) (by kernel_rfl) (fun _ _ _ h => h) (Or.inl ⟨by kernel_rfl, ?_⟩) (by assumption) ?_; rotate_left; (intro w hSw; (try dsimp only at hSw); go_simp; try with_reducible rfl); try simp only [Act.put, List.setIfInBounds_toArray, List.set_cons_zero, List.set_cons_succ]
      refine wpAnyH_take (i := 8) (oi := ⟨some _, _, _, _, _, _⟩) (v := ?_) rfl (by kernel_rfl) (by kernel_rfl) (by kernel_rfl) (fun _ _ _ h => h) (Or.inl ⟨by kernel_rfl, ?_⟩) (by assumption) ?_; rotate_left; (intro w hSw; (try dsimp only at hSw); go_simp; try with_reducible rfl); try simp only [Act.put, List.setIfInBounds_toArray, List.set_cons_zero, List.set_cons_succ]
      refine wpAnyH_take (i := 9) (oi := ⟨some _, _, _, _, _, _⟩) (v := ?_) rfl (by kernel_rfl) (by kernel_rfl) (by kernel_rfl) (fun _ _ _ h => h) (Or.inl ⟨by kernel_rfl, ?_⟩) (by assumption) ?_; rotate_left; (intro w hSw; (try dsimp only at hSw); go_simp; try with_reducible rfl); try simp only [Act.put, List.setIfInBounds_toArray, List.set_cons_zero, List.set_cons_succ]
      refine wpAnyH_take (i := 10) (oi := ⟨some _, _, _, _, _, _⟩) (v := ?_) rfl (by kernel_rfl) (by kernel_rfl) (by kernel_rfl) (fun _ _ _ h => h) (Or.inl ⟨by kernel_rfl, ?_⟩) (by assumption) ?_; rotate_left; (intro w hSw; (try dsimp only at hSw); go_simp; try with_reducible rfl); try simp only [Act.put, List.setIfInBounds_toArray, List.set_cons_zero, List.set_cons_succ]
      refine wpAnyH_take (i := 12) (oi := ⟨some _, _, _, _, _, _⟩) (v := ?_) rfl (by kernel_rfl) (by kernel_rfl) (by kernel_rfl) (fun _ _ _ h => h) (Or.inl ⟨by kernel_rfl, ?_⟩) (by assumption) ?_; rotate_left; (intro w hSw; (try dsimp only at hSw); go_simp; try with_reducible rfl); try simp only [Act.put, List.setIfInBounds_toArray, List.set_cons_zero, List.set_cons_succ]
      refine wpAnyH_take (i := 13) (oi := ⟨some _, _, _, _, _, _⟩) (v := ?_) rfl (by kernel_rfl) (by kernel_rfl) (by kernel_rfl) (fun _ _ _ h => h) (Or.inl ⟨by kernel_rfl, ?_⟩) (by assumption) ?_; rotate_left; (intro w hSw; (try dsimp only at hSw); go_simp; try with_reducible rfl); try simp only [Act.put, List.setIfInBounds_toArray, List.set_cons_zero, List.set_cons_succ]
      refine wpAnyH_take (i := 14) (oi := ⟨some _, _, _, _, _, _⟩) (v := ?_) rfl (by kernel_rfl) (by kernel_rfl) (by kernel_rfl) (fun _ _ _ h => h) (Or.inl ⟨by kernel_rfl, ?_⟩) (by assumption) ?_; rotate_left; (intro w hSw; (try dsimp only at hSw); go_simp; try with_reducible rfl); try simp only [Act.put, List.setIfInBounds_toArray, List.set_cons_zero, List.set_cons_succ]
      refine wpAnyH_take (i := 15) (oi := ⟨some _, _, _, _, _, _⟩) (v := ?_) rfl (by kernel_rfl) (by kernel_rfl) (by kernel_rfl) (fun _ _ _ h => h) (Or.inl ⟨by kernel_rfl, ?_⟩) (by assumption) ?_; rotate_left; (intro w hSw; (try dsimp only at hSw); go_simp; try with_reducible rfl); try simp only [Act.put, List.setIfInBounds_toArray, List.set_cons_zero, List.set_cons_succ]
      refine wpAnyH_ready (rs := [7, 11]) (by kernel_rfl) (by simp) ?_
      refine AllReadyH.cons (o := ⟨_, _, _, _, _, _⟩) rfl (fun K hK => ?_) (AllReadyH.cons (o := ⟨_, _, _, _, _, _⟩) rfl (fun K hK => ?_) AllReadyH.nil)
      · go_simp
        refine hK.out _ _ ?_ (fun hHeld => ?_)
        · (try dsimp only); exact hHeld
        clear hK K
        try simp only [Act.put, List.setIfInBounds_toArray, List.set_cons_zero, List.set_cons_succ]
        refine wpAnyH_ready (rs := [11]) (by kernel_rfl) (by simp) ?_
        refine AllReadyH.cons (o := ⟨_, _, _, _, _, _⟩) rfl (fun K hK => ?_) AllReadyH.nil
        go_simp
        refine hK.out _ _ ?_ (fun hHeld => ?_)
        · (try dsimp only); exact hHeld
        clear hK K
        try simp only [Act.put, List.setIfInBounds_toArray, List.set_cons_zero, List.set_cons_succ]
        refine wpAnyH_ready (rs := [16]) (by kernel_rfl) (by simp) ?_
        refine AllReadyH.cons (o := ⟨_, _, _, _, _, _⟩) rfl (fun K hK => ?_) AllReadyH.nil
        go_simp
        refine (HcT.out _).mono ?_
        rintro e V1 ⟨rfl, o1⟩
        go_wp2_with fail
        refine hK.out _ _ ?_ (fun hHeld => ?_)
        · (try dsimp only); exact HK1.out _ o1
        clear hK K
        try simp only [Act.put, List.setIfInBounds_toArray, List.set_cons_zero, List.set_cons_succ]
        refine wpAnyH_take (i := 17) (oi := ⟨some _, _, _, _, _, _⟩) (v := ?_) rfl (by kernel_rfl) (by kernel_rfl) (by kernel_rfl) (fun _ _ _ h => h) (Or.inl ⟨by kernel_rfl, ?_⟩) (by assumption) ?_; rotate_left; (intro w hSw; (try dsimp only at hSw); go_simp; try with_reducible rfl); try simp only [Act.put, List.setIfInBounds_toArray, List.set_cons_zero, List.set_cons_succ]
        refine wpAnyH_take (i := 18) (oi := ⟨some _, _, _, _, _, _⟩) (v := ?_) rfl (by kernel_rfl) (by kernel_rfl) (by kernel_rfl) (fun _ _ _ h => h) (Or.inl ⟨by kernel_rfl, ?_⟩) (by assumption) ?_; rotate_left; (intro w hSw; (try dsimp only at hSw); go_simp; try with_reducible rfl); try simp only [Act.put, List.setIfInBounds_toArray, List.set_cons_zero, List.set_cons_succ]
        refine wpAnyH_take (i := 19) (oi := ⟨some _, _, _, _, _, _⟩) (v := ?_) rfl (by kernel_rfl) (by kernel_rfl) (by kernel_rfl) (fun _ _ _ h => h) (Or.inl ⟨by kernel_rfl, ?_⟩) (by assumption) ?_; rotate_left; (intro w hSw; (try dsimp only at hSw); go_simp; try with_reducible rfl); try simp only [Act.put, List.setIfInBounds_toArray, List.set_cons_zero, List.set_cons_succ]
        refine wpAnyH_take (i := 20) (oi := ⟨some _, _, _, _, _, _⟩) (v := ?_) rfl (by kernel_rfl) (by kernel_rfl) (by kernel_rfl) (fun _ _ _ h => h) (Or.inl ⟨by kernel_rfl, ?_⟩) (by assumption) ?_; rotate_left; (intro w hSw; (try dsimp only at hSw); go_simp; try with_reducible rfl); try simp only [Act.put, List.setIfInBounds_toArray, List.set_cons_zero, List.set_cons_succ]
        obtain ⟨-, -, d3, d4, d5, d6⟩ := HCl.out V1 o1
        have dc := (HCl.out V1 o1).1
        refine wpAnyH_ready (rs := [21]) (by kernel_rfl) (by simp) ?_
        refine AllReadyH.cons (o := ⟨_, _, _, _, _, _⟩) rfl (fun K hK => ?_) AllReadyH.nil
        go_simp
        refine hK.out _ _ ?_ (fun hHeld => ?_)
        · (try dsimp only); exact HK2.out _ _ _ _ nga (HK1.out _ o1)
        clear hK K
        try simp only [Act.put, List.setIfInBounds_toArray, List.set_cons_zero, List.set_cons_succ]
        refine wpAnyH_take (i := 22) (oi := ⟨some _, _, _, _, _, _⟩) (v := ?_) rfl (by kernel_rfl) (by kernel_rfl) (by kernel_rfl) (fun _ _ _ h => h) (Or.inl ⟨by kernel_rfl, ?_⟩) (by assumption) ?_; rotate_left; (intro w hSw; (try dsimp only at hSw); go_simp; try with_reducible rfl); try simp only [Act.put, List.setIfInBounds_toArray, List.set_cons_zero, List.set_cons_succ]
        refine wpAnyH_ready (rs := [23]) (by kernel_rfl) (by simp) ?_
        refine AllReadyH.cons (o := ⟨_, _, _, _, _, _⟩) rfl (fun K hK => ?_) AllReadyH.nil
        go_simp
        refine hK.out _ _ ?_ (fun hHeld => ?_)
        · (try dsimp only); exact HK2.out _ _ _ _ ngb (HK2.out _ _ _ _ nga (HK1.out _ o1))
        clear hK K
        try simp only [Act.put, List.setIfInBounds_toArray, List.set_cons_zero, List.set_cons_succ]
        refine wpAnyH_done (by kernel_rfl) ?_ _
        have HN := Lib.hid (NX.out V1 o1)
        clear HK1 HK2 HCl NX HcT o1 c1 c2 c3 c4 c5 c6 d3 d4 d5 d6 dc
        go_wp2_with fail
        go_roundw
        case rel => exact ⟨k, by omega, by go_num, HN⟩
        case measure => (simp [intOf]; try omega)
      · go_simp
        refine hK.out _ _ ?_ (fun hHeld => ?_)
        · (try dsimp only); exact hHeld
        clear hK K
        try simp only [Act.put, List.setIfInBounds_toArray, List.set_cons_zero, List.set_cons_succ]
        refine wpAnyH_ready (rs := [7]) (by kernel_rfl) (by simp) ?_
        refine AllReadyH.cons (o := ⟨_, _, _, _, _, _⟩) rfl (fun K hK => ?_) AllReadyH.nil
        go_simp
        refine hK.out _ _ ?_ (fun hHeld => ?_)
        · (try dsimp only); exact hHeld
        clear hK K
        try simp only [Act.put, List.setIfInBounds_toArray, List.set_cons_zero, List.set_cons_succ]
        refine wpAnyH_ready (rs := [16]) (by kernel_rfl) (by simp) ?_
        refine AllReadyH.cons (o := ⟨_, _, _, _, _, _⟩) rfl (fun K hK => ?_) AllReadyH.nil
        go_simp
        refine (HcT.out _).mono ?_
        rintro e V1 ⟨rfl, o1⟩
        go_wp2_with fail
        refine hK.out _ _ ?_ (fun hHeld => ?_)
        · (try dsimp only); exact HK1.out _ o1
        clear hK K
        try simp only [Act.put, List.setIfInBounds_toArray, List.set_cons_zero, List.set_cons_succ]
        refine wpAnyH_take (i := 17) (oi := ⟨some _, _, _, _, _, _⟩) (v := ?_) rfl (by kernel_rfl) (by kernel_rfl) (by kernel_rfl) (fun _ _ _ h => h) (Or.inl ⟨by kernel_rfl, ?_⟩) (by assumption) ?_; rotate_left; (intro w hSw; (try dsimp only at hSw); go_simp; try with_reducible rfl); try simp only [Act.put, List.setIfInBounds_toArray, List.set_cons_zero, List.set_cons_succ]
        refine wpAnyH_take (i := 18) (oi := ⟨some _, _, _, _, _, _⟩) (v := ?_) rfl (by kernel_rfl) (by kernel_rfl) (by kernel_rfl) (fun _ _ _ h => h) (Or.inl ⟨by kernel_rfl, ?_⟩) (by assumption) ?_; rotate_left; (intro w hSw; (try dsimp only at hSw); go_simp; try with_reducible rfl); try simp only [Act.put, List.setIfInBounds_toArray, List.set_cons_zero, List.set_cons_succ]
        refine wpAnyH_take (i := 19) (oi := ⟨some _, _, _, _, _, _⟩) (v := ?_) rfl (by kernel_rfl) (by kernel_rfl) (by kernel_rfl) (fun _ _ _ h => h) (Or.inl ⟨by kernel_rfl, ?_⟩) (by assumption) ?_; rotate_left; (intro w hSw; (try dsimp only at hSw); go_simp; try with_reducible rfl); try simp only [Act.put, List.setIfInBounds_toArray, List.set_cons_zero, List.set_cons_succ]
        refine wpAnyH_take (i := 20) (oi := ⟨some _, _, _, _, _, _⟩) (v := ?_) rfl (by kernel_rfl) (by kernel_rfl) (by kernel_rfl) (fun _ _ _ h => h) (Or.inl ⟨by kernel_rfl, ?_⟩) (by assumption) ?_; rotate_left; (intro w hSw; (try dsimp only at hSw); go_simp; try with_reducible rfl); try simp only [Act.put, List.setIfInBounds_toArray, List.set_cons_zero, List.set_cons_succ]
        obtain ⟨-, -, d3, d4, d5, d6⟩ := HCl.out V1 o1
        have dc := (HCl.out V1 o1).1
        refine wpAnyH_ready (rs := [21]) (by kernel_rfl) (by simp) ?_
        refine AllReadyH.cons (o := ⟨_, _, _, _, _, _⟩) rfl (fun K hK => ?_) AllReadyH.nil
        go_simp
        refine hK.out _ _ ?_ (fun hHeld => ?_)
        · (try dsimp only); exact HK2.out _ _ _ _ nga (HK1.out _ o1)
        clear hK K
        try simp only [Act.put, List.setIfInBounds_toArray, List.set_cons_zero, List.set_cons_succ]
        refine wpAnyH_take (i := 22) (oi := ⟨some _, _, _, _, _, _⟩) (v := ?_) rfl (by kernel_rfl) (by kernel_rfl) (by kernel_rfl) (fun _ _ _ h => h) (Or.inl ⟨by kernel_rfl, ?_⟩) (by assumption) ?_; rotate_left; (intro w hSw; (try dsimp only at hSw); go_simp; try with_reducible rfl); try simp only [Act.put, List.setIfInBounds_toArray, List.set_cons_zero, List.set_cons_succ]
        refine wpAnyH_ready (rs := [23]) (by kernel_rfl) (by simp) ?_
        refine AllReadyH.cons (o := ⟨_, _, _, _, _, _⟩) rfl (fun K hK => ?_) AllReadyH.nil
        go_simp
        refine hK.out _ _ ?_ (fun hHeld => ?_)
        · (try dsimp only); exact HK2.out _ _ _ _ ngb (HK2.out _ _ _ _ nga (HK1.out _ o1))
        clear hK K
        try simp only [Act.put, List.setIfInBounds_toArray, List.set_cons_zero, List.set_cons_succ]
        refine wpAnyH_done (by kernel_rfl) ?_ _
        have HN := Lib.hid (NX.out V1 o1)
        clear HK1 HK2 HCl NX HcT o1 c1 c2 c3 c4 c5 c6 d3 d4 d5 d6 dc
        go_wp2_with fail
        go_roundw
        case rel => exact ⟨k, by omega, by go_num, HN⟩
        case measure => (simp [intOf]; try omega)
    · obtain rfl : k1 = 0 := by omega
      have HE : Hid (CellsAt wr ga 8 (metA backWA fa (fun k => F (ob + k))) ∧ CellsAt wr gb m (patch F ob 8 (metA backWB fa (fun k => F (ob + k)))) ∧ Kept X w wr) := by
        have h := HS.out.ext (fa' := (metA backWA fa (fun k => F (ob + k)))) (fb' := (metA backWB fa (fun k => F (ob + k)))) (fun j hj => by unfold from_; rw [if_neg (by omega)]) (fun j hj => by unfold from_; rw [if_neg (by omega)])
        exact ⟨h.a, h.b, h.k⟩
      clear HS HT HR
      rw [show ((0 : Nat) : Int) - 1 = -1 from rfl]
      go_wp2_with fail
      go_end0
      exact ⟨rfl, HE.out⟩
end Go.Proofs.Ytpdjdejlhjcicaa
