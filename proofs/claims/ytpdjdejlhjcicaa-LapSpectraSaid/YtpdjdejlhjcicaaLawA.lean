/- The law's own functions: same, sameBlocks, join. (by wip/tools/exp.py of XLawA.src) -/
import Derived.Test.YtpdjdejlhjcicaaLapF
import Derived.Test.YtpdjdejlhjcicaaMeet
import Derived.Deep.RegionHeld
namespace Go.Proofs.Ytpdjdejlhjcicaa
set_option linter.unusedVariables false
set_option linter.unusedSimpArgs false
open Go.RowKit Go.ChangeShapes Go.WideShapes

set_option maxRecDepth 100000 in
theorem same_any (pa pb : Option Addr) (n ca cb : Nat) (F G : Nat → Int) (w : World) (ha : SlF 1 w pa n F) (hb : SlF 1 w pb n G) (he : ∀ j, j < n → F j = G j) (hn : n ≤ 17179869184) :
    Calls Try.prog 21 #[.slice pa n ca, .slice pb n cb] w fun e w' => e = .returned (.bool true) ∧ ∃ d, w' = w.drewN d := by
  have HA := Lib.hid ha
  have HB := Lib.hid hb
  have HE := Lib.hid he
  clear ha hb he
  go_enter Try.func21, Try.ntmps21
  go_wp2_with fail
  go_loopw [5] (fun i wr => ∃ k : Nat, k ≤ n ∧ i = .int .i64 k ∧ ∃ d, wr = w.drewN d) (fun i _ => n - (intOf i).toNat)
  case atStart => exact ⟨0, by omega, rfl, 0, rfl⟩
  case round =>
    obtain ⟨k, hk, rfl, d, rfl⟩ := hrel
    by_cases h : k < n
    · obtain ⟨b1, o1, rfl, _, h1⟩ := HA.out (by omega)
      obtain ⟨b2, o2, rfl, _, h2⟩ := HB.out (by omega)
      have k1 := h1 k (by omega)
      have k2 := h2 k (by omega)
      rw [HE.out k h] at k1
      generalize G k = x at *
      clear h1 h2 HA HB HE
      go_wp2_with fail
      go_quiet (fail)
      go_wp2_with fail
      go_roundw
      case rel => exact ⟨k + 1, by omega, by go_num, _, rfl⟩
      case measure => (simp [intOf]; try omega)
    · obtain rfl : k = n := by omega
      clear HA HB HE
      go_wp2_with fail
      go_ret
      exact ⟨rfl, d, rfl⟩

set_option maxRecDepth 100000 in
set_option maxHeartbeats 2000000 in
theorem sameBlocks_any (pa pb : Option Addr) (n ca cb : Nat) (F G : Nat → Int) (w : World) (ha : SlF 16 w pa n F) (hb : SlF 16 w pb n G) (he : ∀ j, j < n * 16 → F j = G j) (hn : n ≤ 17179869184) :
    Calls Try.prog 18 #[.slice pa n ca, .slice pb n cb] w fun e w' => e = .returned (.bool true) ∧ ∃ d, w' = w.drewN d := by
  have HA := Lib.hid ha
  have HB := Lib.hid hb
  have HE := Lib.hid he
  have Hs16 := Lib.hid Try.block_size
  clear ha hb he
  go_enter Try.func18, Try.ntmps18
  go_wp2_with fail
  go_loopw [5] (fun i wr => ∃ k : Nat, k ≤ n ∧ i = .int .i64 k ∧ ∃ d, wr = w.drewN d) (fun i _ => n - (intOf i).toNat)
  case atStart => exact ⟨0, by omega, rfl, 0, rfl⟩
  case round =>
    obtain ⟨k, hk, rfl, d, rfl⟩ := hrel
    by_cases h : k < n
    · obtain ⟨b1, o1, rfl, _, h1⟩ := HA.out (by omega)
      obtain ⟨b2, o2, rfl, _, h2⟩ := HB.out (by omega)
      have K1 : Hid (∀ j, j < 16 → w.cell? ⟨b1, o1 + k * 16 + j, none⟩ = some (.int .i64 (rowAt G k j))) := fun j hj => by
        rw [Nat.add_assoc, h1 _ (by omega), HE.out _ (by omega)]; rfl
      have K2 : Hid (∀ j, j < 16 → w.cell? ⟨b2, o2 + k * 16 + j, none⟩ = some (.int .i64 (rowAt G k j))) := fun j hj => by
        rw [Nat.add_assoc, h2 _ (by omega)]; rfl
      have hE : ∀ V : World, (binOp .neq 28 (.agg (rowN 16 (blk (rowAt G k)))) (.agg (rowN 16 (blk (rowAt G k))))).run Try.prog V = .ok (.bool false) V := fun V => by
        have := neq_ints (P := Try.prog) Try.underlying28 Try.underlying2 (by kernel_rfl) (by kernel_rfl) (rowAt G k) (rowAt G k) V
        rwa [show eqB 16 (rowAt G k) (rowAt G k) = true from eqB_true.2 fun _ _ => rfl] at this
      clear h1 h2 HA HB HE
      generalize rowAt G k = f at *
      go_wp2_with fail
      refine wp_region_held_drew (S := (fun w' => (∀ j, j < 16 → w'.cell? ⟨b1, o1 + k * 16 + j, none⟩ = some (.int .i64 (f j))) ∧ (∀ j, j < 16 → w'.cell? ⟨b2, o2 + k * 16 + j, none⟩ = some (.int .i64 (f j))))) (by kernel_rfl) ?_ (fun hHeld => ?_)
      · (try dsimp only); exact ⟨K1.out, K2.out⟩
      refine wpAnyH_take (i := 0) (oi := ⟨some _, _, _, _, _, _⟩) (v := ?_) rfl (by kernel_rfl) (by kernel_rfl) (by kernel_rfl) (fun _ _ _ h => h) (Or.inl ⟨by kernel_rfl, ?_⟩) (by assumption) ?_; rotate_left; (intro w hSw; (try dsimp only at hSw); go_simp; try with_reducible rfl); try simp only [Act.put, List.setIfInBounds_toArray, List.set_cons_zero, List.set_cons_succ]
      refine wpAnyH_take (i := 1) (oi := ⟨some _, _, _, _, _, _⟩) (v := ?_) rfl (by kernel_rfl) (by kernel_rfl) (by kernel_rfl) (fun _ _ _ h => h) (Or.inl ⟨by kernel_rfl, ?_⟩) (by assumption) ?_; rotate_left; (intro w hSw; (try dsimp only at hSw); go_simp; try with_reducible rfl); try simp only [Act.put, List.setIfInBounds_toArray, List.set_cons_zero, List.set_cons_succ]
      refine wpAnyH_take (i := 2) (oi := ⟨some _, _, _, _, _, _⟩) (v := ?_) rfl (by kernel_rfl) (by kernel_rfl) (by kernel_rfl) (fun _ _ _ h => h) (Or.inl ⟨by kernel_rfl, ?_⟩) (by assumption) ?_; rotate_left; (intro w hSw; (try dsimp only at hSw); go_simp; try with_reducible rfl); try simp only [Act.put, List.setIfInBounds_toArray, List.set_cons_zero, List.set_cons_succ]
      refine wpAnyH_take (i := 3) (oi := ⟨some _, _, _, _, _, _⟩) (v := .agg (rowN 16 (blk f))) rfl (by kernel_rfl) (by kernel_rfl) (by kernel_rfl) (fun _ _ _ h => h) (yieldsIf_load_blk 16 f (by kernel_rfl) 28 (.tmp 19) rfl b1 (o1 + k * 16) rfl _ (fun _ h => h.1) Try.underlying28 rfl Hs16.out) (by assumption) ?_; try simp only [Act.put, List.setIfInBounds_toArray, List.set_cons_zero, List.set_cons_succ]
      refine wpAnyH_take (i := 4) (oi := ⟨some _, _, _, _, _, _⟩) (v := ?_) rfl (by kernel_rfl) (by kernel_rfl) (by kernel_rfl) (fun _ _ _ h => h) (Or.inl ⟨by kernel_rfl, ?_⟩) (by assumption) ?_; rotate_left; (intro w hSw; (try dsimp only at hSw); go_simp; try with_reducible rfl); try simp only [Act.put, List.setIfInBounds_toArray, List.set_cons_zero, List.set_cons_succ]
      refine wpAnyH_take (i := 5) (oi := ⟨some _, _, _, _, _, _⟩) (v := ?_) rfl (by kernel_rfl) (by kernel_rfl) (by kernel_rfl) (fun _ _ _ h => h) (Or.inl ⟨by kernel_rfl, ?_⟩) (by assumption) ?_; rotate_left; (intro w hSw; (try dsimp only at hSw); go_simp; try with_reducible rfl); try simp only [Act.put, List.setIfInBounds_toArray, List.set_cons_zero, List.set_cons_succ]
      refine wpAnyH_take (i := 6) (oi := ⟨some _, _, _, _, _, _⟩) (v := ?_) rfl (by kernel_rfl) (by kernel_rfl) (by kernel_rfl) (fun _ _ _ h => h) (Or.inl ⟨by kernel_rfl, ?_⟩) (by assumption) ?_; rotate_left; (intro w hSw; (try dsimp only at hSw); go_simp; try with_reducible rfl); try simp only [Act.put, List.setIfInBounds_toArray, List.set_cons_zero, List.set_cons_succ]
      refine wpAnyH_take (i := 7) (oi := ⟨some _, _, _, _, _, _⟩) (v := .agg (rowN 16 (blk f))) rfl (by kernel_rfl) (by kernel_rfl) (by kernel_rfl) (fun _ _ _ h => h) (yieldsIf_load_blk 16 f (by kernel_rfl) 28 (.tmp 23) rfl b2 (o2 + k * 16) rfl _ (fun _ h => h.2) Try.underlying28 rfl Hs16.out) (by assumption) ?_; try simp only [Act.put, List.setIfInBounds_toArray, List.set_cons_zero, List.set_cons_succ]
      refine wpAnyH_take (i := 8) (oi := ⟨some _, _, _, _, _, _⟩) (v := ?_) rfl (by kernel_rfl) (by kernel_rfl) (by kernel_rfl) (fun _ _ _ h => h) (Or.inl ⟨by kernel_rfl, ?_⟩) (by assumption) ?_; rotate_left; (intro w hSw; (try dsimp only at hSw); go_simp; try with_reducible rfl); try simp only [Act.put, List.setIfInBounds_toArray, List.set_cons_zero, List.set_cons_succ]
      refine wpAnyH_done (by kernel_rfl) ?_ _
      go_wp2_with fail
      go_roundw
      case rel => exact ⟨k + 1, by omega, by go_num, d + 1, rfl⟩
      case measure => (simp [intOf]; try omega)
    · obtain rfl : k = n := by omega
      clear HA HB HE
      go_wp2_with fail
      go_ret
      exact ⟨rfl, d, rfl⟩

/-- At edge j + 1, k numbers of each side are turned. -/
def edgeTo (j k : Nat) (F : Nat → Int) : Nat → Int := fun q => if (j + 1) * 16 ≤ q + k ∧ q < (j + 1) * 16 + k then meetTo turnWA turnWB (j + 1 + 1) F q else meetTo turnWA turnWB (j + 1) F q
theorem edgeTo_zero (j : Nat) (F : Nat → Int) : edgeTo j 0 F = meetTo turnWA turnWB (j + 1) F := by funext q; unfold edgeTo; rw [if_neg (by omega)]
theorem edgeTo_end (j : Nat) (F : Nat → Int) : edgeTo j 8 F = meetTo turnWA turnWB (j + 1 + 1) F := by
  funext q
  unfold edgeTo
  split
  · rfl
  · rename_i h
    rw [← meetTo_step turnWA turnWB F j]
    unfold patch
    rw [if_neg (by omega), if_neg (by omega)]
theorem edgeTo_ahead (j k : Nat) (F : Nat → Int) (hk : k < 8) : edgeTo j k F (j * 16 + (15 - k)) = F (j * 16 + (15 - k)) := by
  unfold edgeTo
  rw [if_neg (by omega), meetTo_hi _ _ _ _ _ _ (by omega) (by omega), if_neg (by omega)]
theorem edgeTo_behind (j k : Nat) (F : Nat → Int) (hk : k < 8) : edgeTo j k F ((j + 1) * 16 + k) = F ((j + 1) * 16 + k) := by
  unfold edgeTo
  rw [if_neg (by omega), meetTo_lo _ _ _ _ _ _ hk, if_neg (by omega)]
theorem edgeTo_step (j k : Nat) (F : Nat → Int) (hk : k < 8) :
    (fun q => if q = (j + 1) * 16 + k then turnWB (F (j * 16 + (15 - k))) (F ((j + 1) * 16 + k)) (turnP k) (turnU k) else if q = j * 16 + (15 - k) then turnWA (F (j * 16 + (15 - k))) (F ((j + 1) * 16 + k)) (turnP k) (turnU k) else edgeTo j k F q) = edgeTo j (k + 1) F := by
  funext q
  unfold edgeTo
  by_cases h1 : q = (j + 1) * 16 + k
  · subst h1
    rw [if_pos rfl, if_pos ⟨by omega, by omega⟩, meetTo_lo _ _ _ _ _ _ hk, if_pos ⟨by omega, by omega⟩, show (j + 1) * 16 - 16 + (15 - k) = j * 16 + (15 - k) by omega]
  · rw [if_neg h1]
    by_cases h2 : q = j * 16 + (15 - k)
    · subst h2
      rw [if_pos rfl, if_pos ⟨by omega, by omega⟩, meetTo_hi _ _ _ _ _ _ (by omega) (by omega), if_pos (by omega), show 15 - (15 - k) = k by omega, show j * 16 + 16 + k = (j + 1) * 16 + k by omega]
    · rw [if_neg h2]
      by_cases h3 : (j + 1) * 16 ≤ q + k ∧ q < (j + 1) * 16 + k
      · rw [if_pos h3, if_pos ⟨by omega, by omega⟩]
      · rw [if_neg h3, if_neg (by omega)]
/-- The law's own copy is turned up to an edge. -/
def JoinR (w : World) (pt : Option Addr) (n : Nat) (M : Nat → Int) (wr : World) : Prop := OwnR 16 (fun q => q < w.heap.size) wr pt n M ∧ Old w wr
theorem JoinR.keep {w W V : World} {pt : Option Addr} {n : Nat} {M : Nat → Int} (h : JoinR w pt n M W) (o : Old W V) : JoinR w pt n M V := ⟨h.1.old o, h.2.trans o⟩
theorem JoinR.two {w W V : World} {g n : Nat} {M : Nat → Int} (h : JoinR w (some ⟨g, 0, none⟩) n M W) (o : Old W V) (a b : Nat) (ha : a < n * 16) (hb : b < n * 16) (va vb : Int) :
    JoinR w (some ⟨g, 0, none⟩) n (fun q => if q = b then vb else if q = a then va else M q) ((V.setCell ⟨g, a, none⟩ (.int .i64 va)).setCell ⟨g, b, none⟩ (.int .i64 vb)) := by
  have h1 := h.keep o
  obtain ⟨g', e1, e2, e3⟩ := h1.1 (by omega)
  have e : g = g' := congrArg Addr.block (Option.some.inj e1)
  subst e
  exact ⟨fun _ => ⟨g, rfl, e2, (e3.set a (by omega) va).set b (by omega) vb⟩, (h1.2.after (Kept.setCell (X := fun q => q < w.heap.size) _ (a := ⟨g, a, none⟩) e2 _) fun _ h => h).after (Kept.setCell (X := fun q => q < w.heap.size) _ (a := ⟨g, b, none⟩) e2 _) fun _ h => h⟩

theorem JoinR.store {w W : World} {g N : Nat} {M : Nat → Int} (h : JoinR w (some ⟨g, 0, none⟩) N M W) (k : Nat) (hk : k < N) (f : Nat → Int) : JoinR w (some ⟨g, 0, none⟩) N (patch M (k * 16) 16 f) (W.setCells g (k * 16) (rowL 16 f)) := by
  obtain ⟨g', e1, e2, e3⟩ := h.1 (by omega)
  have e : g = g' := congrArg Addr.block (Option.some.inj e1)
  subst e
  exact ⟨fun _ => ⟨g, rfl, e2, e3.setCells (k * 16) 16 (by omega) f⟩, h.2.after (Kept.setCells (X := fun q => q < w.heap.size) W e2 _ _) fun _ h => h⟩
theorem JoinR.row {w W : World} {g N : Nat} {M : Nat → Int} (h : JoinR w (some ⟨g, 0, none⟩) N M W) (k : Nat) (hk : k < N) : (∀ j, j < 16 → W.cell? ⟨g, k * 16 + j, none⟩ = some (.int .i64 (M (k * 16 + j)))) ∧ W.there g (k * 16) 16 := by
  obtain ⟨g', e1, _, h3⟩ := h.1 (by omega)
  have e : g = g' := congrArg Addr.block (Option.some.inj e1)
  subst e
  exact ⟨fun j hj => h3.cell _ (by omega), h3.there _ _ (by omega)⟩

set_option maxRecDepth 100000 in
set_option maxHeartbeats 4000000 in
theorem join_any (a : Addr) (n cap : Nat) (F : Nat → Int) (w : World) (hs : SlF 16 w (some a) n F) (hn : n ≤ 17179869184) :
    Calls Try.prog 15 #[.slice (some a) n cap] w fun e w' => ∃ q c, e = .returned (.slice q n c) ∧ OwnR 16 (fun q => q < w.heap.size) w' q n (meetTo turnWA turnWB n F) ∧ Old w w' := by
  obtain ⟨i0, hi, hz0, hz1, hz2⟩ := info_parts Try.info_block
  have HN : Hid (∀ j u, (rowL (n * 16) F)[j]? = some u → (w.alloc (.cells #[] 28)).cell? (a.add j) = some u) := by
    intro j u hj
    obtain ⟨hj, rfl⟩ := rowL_get hj
    obtain ⟨b, off, hp, hb, hcell⟩ := hs (by omega)
    obtain rfl : a = ⟨b, off, none⟩ := by simpa using hp
    rw [add_plain, (Old.alloc w (.cells #[] 28)).cell (a := ⟨b, off + j, none⟩) hb]
    exact hcell j (by omega)
  have HO : Hid (Old w (w.alloc (.cells #[] 28))) := Old.alloc _ _
  have HM : Hid ((rowL (n * 16) F).length = n * 16) := rowL_len _ _
  have H1 := Lib.hid (rowL_one (n * 16) F)
  have HE0 : Hid (n ≤ 1 → meetTo turnWA turnWB n F = F) := fun hn => by
    rcases (by omega : n = 0 ∨ n = 1) with rfl | rfl
    · funext q
      obtain ⟨b, r, rfl, hr, _, _⟩ := split16 q
      by_cases h8 : 8 ≤ r
      · rw [meetTo_hi _ _ _ _ _ _ hr h8, if_neg (by omega)]
      · rw [meetTo_lo _ _ _ _ _ _ (by omega), if_neg (by omega)]
    · exact meetTo_one _ _ _
  clear hs
  go_enter Try.func15, Try.ntmps15
  go_wp2_with (at_builtin; refine append_S _ rfl _ _ 24 rfl (fun q => q < w.heap.size) 28 i0 _ 16 128 Try.underlying24 hi hz0 hz1 hz2 rfl (by omega) _ _ _ rfl (own_emptyS w 28 16) a n cap (rowL (n * 16) F) rfl HM.out HN.out H1.out (by unfold maxLen; omega) (by omega) (fun q hq => Nat.lt_of_lt_of_le hq HO.out.size) ?_; intro v' w2 hown2 hk2 _; have HR2 := Lib.hid (show ownS (fun q => q < w.heap.size) w2 28 16 v' n (rowL (n * 16) F) from (by have := hown2; rw [Nat.zero_add, List.nil_append] at this; exact this)); have HO2 := Lib.hid (HO.out.after hk2 (fun _ h => h)); clear hown2 hk2 HO HN HM H1; obtain ⟨pt, cc, hv⟩ : ∃ q c, v' = .slice q n c := (by rcases HR2.out.1.2 with ⟨rfl, h0⟩ | ⟨g, c, _, rfl, _⟩; exact ⟨none, 0, by rw [h0]⟩; exact ⟨_, c, rfl⟩); subst hv; have HF : Hid (JoinR w pt n (meetTo turnWA turnWB 1 F) w2) := ⟨fun h0 => (by obtain ⟨g, c', hv, hX, hc⟩ := HR2.out.cells h0; simp only [Value.slice.injEq] at hv; rw [meetTo_one]; exact ⟨g, hv.1, hX, hc⟩), HO2.out⟩; clear HR2 HO2)
  go_loopw [4] (fun i wr => ∃ k : Nat, 1 ≤ k ∧ (k ≤ n ∨ k = 1) ∧ i = .int .i64 k ∧ Hid (JoinR w pt n (meetTo turnWA turnWB k F) wr)) (fun i _ => n - (intOf i).toNat)
  case atStart => exact ⟨1, by omega, by omega, rfl, HF⟩
  case round =>
    obtain ⟨m, hk1, hk, rfl, HS⟩ := hrel
    clear HF
    obtain ⟨wo, rfl⟩ : ∃ wo, wo = wr := ⟨_, rfl⟩
    by_cases hlt : m < n
    · obtain ⟨j, hj⟩ : ∃ j, m = j + 1 := ⟨m - 1, by omega⟩
      obtain ⟨g, rfl, _, _⟩ := HS.out.1 (by omega)
      rw [hj, ← edgeTo_zero] at HS
      have HJ := Lib.hid hj
      clear HE0
      have hjn : j < n := by omega
      have q1 : wrap64 ((m : Int) - 1) = j := by rw [IntWalk.wrap64_in _ (by omega)]; omega
      have q2 : IntKind.i64.wrap ((m : Int) - 1) = j := by rw [IntWalk.i64_in _ (by omega)]; omega
      have q3 : IntKind.i64.wrap (j : Int) = j := IntWalk.i64_in _ (by omega)
      have q4 : IntKind.i64.wrap (m : Int) = m := IntWalk.i64_in _ (by omega)
      clear hj
      go_wp2_with fail
      go_loopw [5] (fun i wr => ∃ k : Nat, k ≤ 8 ∧ i = .int .i64 k ∧ Hid (JoinR w (some ⟨g, 0, none⟩) n (edgeTo j k F) wr)) (fun i _ => 8 - (intOf i).toNat)
      case atStart => exact ⟨0, by omega, rfl, HS⟩
      case round =>
        obtain ⟨k, hk8, rfl, HI⟩ := hrel
        clear HS
        by_cases h8 : k < 8
        · have hj := HJ.out
          have i1 : (0 : Int) ≤ k := by omega
          have i2 : (k : Int) < 8 := by omega
          obtain ⟨r, hr⟩ : ∃ r : Nat, r = 15 - k := ⟨_, rfl⟩
          have r1 : (r : Int) < 16 := by omega
          have r2 : (0 : Int) ≤ r := by omega
          have i3 : (k : Int) < 16 := by omega
          have i4 : (m : Int) < n := by omega
          have i5 : (j : Int) < n := by omega
          have t1 : wrap64 (15 - (k : Int)) = r := by rw [IntWalk.wrap64_in _ (by omega)]; omega
          have t3 : IntKind.i64.wrap (r : Int) = r := IntWalk.i64_in _ (by omega)
          have t4 : IntKind.i64.wrap (k : Int) = k := IntWalk.i64_in _ (by omega)
          have t2 : IntKind.i64.wrap (15 - (k : Int)) = r := by rw [IntWalk.i64_in _ (by omega)]; omega
          have hN := fun V (o : Old wr.drew V) (va vb : Int) => (show JoinR w (some ⟨g, 0, none⟩) n (edgeTo j k F) wr.drew from HI.out.keep (Old.drew (Old.refl _))).two o (j * 16 + r) (m * 16 + k) (by omega) (by omega) va vb
          have hst := edgeTo_step j k F h8
          rw [← hr, ← hj] at hst
          have hC : ∀ V, Old wr.drew V → V.cell? ⟨g, j * 16 + r, none⟩ = some (.int .i64 (F (j * 16 + r))) ∧ V.cell? ⟨g, m * 16 + k, none⟩ = some (.int .i64 (F (m * 16 + k))) ∧ V.frozen? ⟨g, j * 16 + r, none⟩ = false ∧ V.frozen? ⟨g, m * 16 + k, none⟩ = false := fun V o => by
            have h := (HI.out.keep (Old.drew (Old.refl _))).keep o
            obtain ⟨g', e1, _, e3⟩ := h.1 (by omega)
            have e : g = g' := congrArg Addr.block (Option.some.inj e1)
            subst e
            have c1 := e3.cell (j * 16 + r) (by omega)
            have c2 := e3.cell (m * 16 + k) (by omega)
            rw [hj, edgeTo_behind j k F h8, ← hj] at c2
            rw [hr, edgeTo_ahead j k F h8, ← hr] at c1
            exact ⟨c1, c2, e3.frz _ (by omega), e3.frz _ (by omega)⟩
          have NX : Hid (∀ V, Old wr.drew V → JoinR w (some ⟨g, 0, none⟩) n (edgeTo j (k + 1) F) ((V.setCell ⟨g, j * 16 + r, none⟩ (.int .i64 (turnWA (F (j * 16 + r)) (F (m * 16 + k)) (turnP k) (turnU k)))).setCell ⟨g, m * 16 + k, none⟩ (.int .i64 (turnWB (F (j * 16 + r)) (F (m * 16 + k)) (turnP k) (turnU k))))) := fun V o => by
            rw [← hst]
            exact hN V o _ _
          have hcY := fun V => Turn_yes k V (by omega)
          have hcT := fun V => Turn_all (F (j * 16 + r)) (F (m * 16 + k)) (turnP k) (turnU k) V
          unfold turnV at hcY
          have HcY := Lib.hid hcY
          have HcT := Lib.hid hcT
          have HC := Lib.hid hC
          clear hN hst hC hcY hcT HI hr hj
          generalize turnWA (F (j * 16 + r)) (F (m * 16 + k)) (turnP k) (turnU k) = va at *
          generalize turnWB (F (j * 16 + r)) (F (m * 16 + k)) (turnP k) (turnU k) = vb at *
          generalize turnP k = pv at *
          generalize turnU k = uv at *
          generalize F (j * 16 + r) = x at *
          generalize F (m * 16 + k) = y at *
          go_wp2_with fail
          refine wp_region_held_drew (S := (fun w' => w'.cell? ⟨g, j * 16 + r, none⟩ = some (.int .i64 x) ∧ w'.cell? ⟨g, m * 16 + k, none⟩ = some (.int .i64 y))) (by kernel_rfl) ?_ (fun hHeld => ?_)
          · (try dsimp only); exact ⟨(HC.out _ (Old.refl _)).1, (HC.out _ (Old.refl _)).2.1⟩
          refine wpAnyH_take (i := 0) (oi := ⟨some _, _, _, _, _, _⟩) (v := ?_) rfl (by kernel_rfl) (by kernel_rfl) (by kernel_rfl) (fun _ _ _ h => h) (Or.inl ⟨by kernel_rfl, ?_⟩) (by assumption) ?_; rotate_left; (intro w hSw; (try dsimp only at hSw); go_simp; try with_reducible rfl); try simp only [Act.put, List.setIfInBounds_toArray, List.set_cons_zero, List.set_cons_succ]
          refine wpAnyH_take (i := 1) (oi := ⟨some _, _, _, _, _, _⟩) (v := ?_) rfl (by kernel_rfl) (by kernel_rfl) (by kernel_rfl) (fun _ _ _ h => h) (Or.inl ⟨by kernel_rfl, ?_⟩) (by assumption) ?_; rotate_left; (intro w hSw; (try dsimp only at hSw); go_simp; try with_reducible rfl); try simp only [Act.put, List.setIfInBounds_toArray, List.set_cons_zero, List.set_cons_succ]
          refine wpAnyH_take (i := 2) (oi := ⟨some _, _, _, _, _, _⟩) (v := ?_) rfl (by kernel_rfl) (by kernel_rfl) (by kernel_rfl) (fun _ _ _ h => h) (Or.inl ⟨by kernel_rfl, ?_⟩) (by assumption) ?_; rotate_left; (intro w hSw; (try dsimp only at hSw); go_simp; try with_reducible rfl); try simp only [Act.put, List.setIfInBounds_toArray, List.set_cons_zero, List.set_cons_succ]
          refine wpAnyH_take (i := 3) (oi := ⟨some _, _, _, _, _, _⟩) (v := ?_) rfl (by kernel_rfl) (by kernel_rfl) (by kernel_rfl) (fun _ _ _ h => h) (Or.inl ⟨by kernel_rfl, ?_⟩) (by assumption) ?_; rotate_left; (intro w hSw; (try dsimp only at hSw); go_simp; try with_reducible rfl); try simp only [Act.put, List.setIfInBounds_toArray, List.set_cons_zero, List.set_cons_succ]
          refine wpAnyH_take (i := 4) (oi := ⟨some _, _, _, _, _, _⟩) (v := ?_) rfl (by kernel_rfl) (by kernel_rfl) (by kernel_rfl) (fun _ _ _ h => h) (Or.inl ⟨by kernel_rfl, ?_⟩) (by assumption) ?_; rotate_left; (intro w hSw; (try dsimp only at hSw); go_simp; try with_reducible rfl); try simp only [Act.put, List.setIfInBounds_toArray, List.set_cons_zero, List.set_cons_succ]
          refine wpAnyH_take (i := 5) (oi := ⟨some _, _, _, _, _, _⟩) (v := ?_) rfl (by kernel_rfl) (by kernel_rfl) (by kernel_rfl) (fun _ _ _ h => h) (Or.inl ⟨by kernel_rfl, ?_⟩) (by assumption) ?_; rotate_left; (intro w hSw; (try dsimp only at hSw); go_simp; try with_reducible rfl); try simp only [Act.put, List.setIfInBounds_toArray, List.set_cons_zero, List.set_cons_succ]
          refine wpAnyH_take (i := 6) (oi := ⟨some _, _, _, _, _, _⟩) (v := ?_) rfl (by kernel_rfl) (by kernel_rfl) (by kernel_rfl) (fun _ _ _ h => h) (Or.inl ⟨by kernel_rfl, ?_⟩) (by assumption) ?_; rotate_left; (intro w hSw; (try dsimp only at hSw); go_simp; try with_reducible rfl); try simp only [Act.put, List.setIfInBounds_toArray, List.set_cons_zero, List.set_cons_succ]
          refine wpAnyH_take (i := 7) (oi := ⟨some _, _, _, _, _, _⟩) (v := ?_) rfl (by kernel_rfl) (by kernel_rfl) (by kernel_rfl) (fun _ _ _ h => h) (Or.inl ⟨by kernel_rfl, ?_⟩) (by assumption) ?_; rotate_left; (intro w hSw; (try dsimp only at hSw); go_simp; try with_reducible rfl); try simp only [Act.put, List.setIfInBounds_toArray, List.set_cons_zero, List.set_cons_succ]
          refine wpAnyH_take (i := 8) (oi := ⟨some _, _, _, _, _, _⟩) (v := ?_) rfl (by kernel_rfl) (by kernel_rfl) (by kernel_rfl) (fun _ _ _ h => h) (Or.inl ⟨by kernel_rfl, ?_⟩) (by assumption) ?_; rotate_left; (intro w hSw; (try dsimp only at hSw); go_simp; try with_reducible rfl); try simp only [Act.put, List.setIfInBounds_toArray, List.set_cons_zero, List.set_cons_succ]
          refine wpAnyH_take (i := 9) (oi := ⟨some _, _, _, _, _, _⟩) (v := ?_) rfl (by kernel_rfl) (by kernel_rfl) (by kernel_rfl) (fun _ _ _ h => h) (Or.inl ⟨by kernel_rfl, ?_⟩) (by assumption) ?_; rotate_left; (intro w hSw; (try dsimp only at hSw); go_simp; try with_reducible rfl); try simp only [Act.put, List.setIfInBounds_toArray, List.set_cons_zero, List.set_cons_succ]
          refine wpAnyH_take (i := 10) (oi := ⟨some _, _, _, _, _, _⟩) (v := ?_) rfl (by kernel_rfl) (by kernel_rfl) (by kernel_rfl) (fun _ _ _ h => h) (Or.inl ⟨by kernel_rfl, ?_⟩) (by assumption) ?_; rotate_left; (intro w hSw; (try dsimp only at hSw); go_simp; try with_reducible rfl); try simp only [Act.put, List.setIfInBounds_toArray, List.set_cons_zero, List.set_cons_succ]
          refine wpAnyH_take (i := 11) (oi := ⟨some _, _, _, _, _, _⟩) (v := ?_) rfl (by kernel_rfl) (by kernel_rfl) (by kernel_rfl) (fun _ _ _ h => h) (Or.inl ⟨by kernel_rfl, ?_⟩) (by assumption) ?_; rotate_left; (intro w hSw; (try dsimp only at hSw); go_simp; try with_reducible rfl); try simp only [Act.put, List.setIfInBounds_toArray, List.set_cons_zero, List.set_cons_succ]
          refine wpAnyH_take (i := 12) (oi := ⟨some _, _, _, _, _, _⟩) (v := ?_) rfl (by kernel_rfl) (by kernel_rfl) (by kernel_rfl) (fun _ _ _ h => h) (Or.inl ⟨by kernel_rfl, ?_⟩) (by assumption) ?_; rotate_left; (intro w hSw; (try dsimp only at hSw); go_simp; try with_reducible rfl); try simp only [Act.put, List.setIfInBounds_toArray, List.set_cons_zero, List.set_cons_succ]
          refine wpAnyH_take (i := 13) (oi := ⟨some _, _, _, _, _, _⟩) (v := ?_) rfl (by kernel_rfl) (by kernel_rfl) (by kernel_rfl) (fun _ _ _ h => h) (Or.inl ⟨by kernel_rfl, ?_⟩) (by assumption) ?_; rotate_left; (intro w hSw; (try dsimp only at hSw); go_simp; try with_reducible rfl); try simp only [Act.put, List.setIfInBounds_toArray, List.set_cons_zero, List.set_cons_succ]
          refine wpAnyH_take (i := 14) (oi := ⟨some _, _, _, _, _, _⟩) (v := ?_) rfl (by kernel_rfl) (by kernel_rfl) (by kernel_rfl) (fun _ _ _ h => h) (Or.inl ⟨by kernel_rfl, ?_⟩) (by assumption) ?_; rotate_left; (intro w hSw; (try dsimp only at hSw); go_simp; try with_reducible rfl); try simp only [Act.put, List.setIfInBounds_toArray, List.set_cons_zero, List.set_cons_succ]
          refine wpAnyH_ready (rs := [15]) (by kernel_rfl) (by simp) ?_
          refine AllReadyH.cons (o := ⟨_, _, _, _, _, _⟩) rfl (fun K hK => ?_) AllReadyH.nil
          go_simp
          refine (HcY.out _).mono ?_
          rintro e V1 ⟨rfl, o1⟩
          go_wp2_with fail
          refine hK.out _ _ ?_ (fun hHeld => ?_)
          · (try dsimp only); exact ⟨(HC.out _ o1).1, (HC.out _ o1).2.1⟩
          clear hK K
          try simp only [Act.put, List.setIfInBounds_toArray, List.set_cons_zero, List.set_cons_succ]
          refine wpAnyH_ready (rs := [16]) (by kernel_rfl) (by simp) ?_
          refine AllReadyH.cons (o := ⟨_, _, _, _, _, _⟩) rfl (fun K hK => ?_) AllReadyH.nil
          go_simp
          refine (HcT.out _).mono ?_
          rintro e V2 ⟨rfl, o2⟩
          go_wp2_with fail
          refine hK.out _ _ ?_ (fun hHeld => ?_)
          · (try dsimp only); exact ⟨(HC.out _ (o1.trans o2)).1, (HC.out _ (o1.trans o2)).2.1⟩
          clear hK K
          try simp only [Act.put, List.setIfInBounds_toArray, List.set_cons_zero, List.set_cons_succ]
          refine wpAnyH_take (i := 17) (oi := ⟨some _, _, _, _, _, _⟩) (v := ?_) rfl (by kernel_rfl) (by kernel_rfl) (by kernel_rfl) (fun _ _ _ h => h) (Or.inl ⟨by kernel_rfl, ?_⟩) (by assumption) ?_; rotate_left; (intro w hSw; (try dsimp only at hSw); go_simp; try with_reducible rfl); try simp only [Act.put, List.setIfInBounds_toArray, List.set_cons_zero, List.set_cons_succ]
          refine wpAnyH_take (i := 18) (oi := ⟨some _, _, _, _, _, _⟩) (v := ?_) rfl (by kernel_rfl) (by kernel_rfl) (by kernel_rfl) (fun _ _ _ h => h) (Or.inl ⟨by kernel_rfl, ?_⟩) (by assumption) ?_; rotate_left; (intro w hSw; (try dsimp only at hSw); go_simp; try with_reducible rfl); try simp only [Act.put, List.setIfInBounds_toArray, List.set_cons_zero, List.set_cons_succ]
          refine wpAnyH_take (i := 19) (oi := ⟨some _, _, _, _, _, _⟩) (v := ?_) rfl (by kernel_rfl) (by kernel_rfl) (by kernel_rfl) (fun _ _ _ h => h) (Or.inl ⟨by kernel_rfl, ?_⟩) (by assumption) ?_; rotate_left; (intro w hSw; (try dsimp only at hSw); go_simp; try with_reducible rfl); try simp only [Act.put, List.setIfInBounds_toArray, List.set_cons_zero, List.set_cons_succ]
          refine wpAnyH_take (i := 20) (oi := ⟨some _, _, _, _, _, _⟩) (v := ?_) rfl (by kernel_rfl) (by kernel_rfl) (by kernel_rfl) (fun _ _ _ h => h) (Or.inl ⟨by kernel_rfl, ?_⟩) (by assumption) ?_; rotate_left; (intro w hSw; (try dsimp only at hSw); go_simp; try with_reducible rfl); try simp only [Act.put, List.setIfInBounds_toArray, List.set_cons_zero, List.set_cons_succ]
          refine wpAnyH_take (i := 21) (oi := ⟨some _, _, _, _, _, _⟩) (v := ?_) rfl (by kernel_rfl) (by kernel_rfl) (by kernel_rfl) (fun _ _ _ h => h) (Or.inl ⟨by kernel_rfl, ?_⟩) (by assumption) ?_; rotate_left; (intro w hSw; (try dsimp only at hSw); go_simp; try with_reducible rfl); try simp only [Act.put, List.setIfInBounds_toArray, List.set_cons_zero, List.set_cons_succ]
          refine wpAnyH_done (by kernel_rfl) ?_ _
          obtain ⟨c1, c2, c3, c4⟩ := HC.out _ (o1.trans o2)
          have c5 : (V2.setCell ⟨g, j * 16 + r, none⟩ (.int .i64 va)).cell? ⟨g, m * 16 + k, none⟩ = some (.int .i64 y) := by
            rw [World.cell?_setCell_other _ _ _ _ (fun e => by injection e with _ e; have := HJ.out; omega)]; exact c2
          have c6 : (V2.setCell ⟨g, j * 16 + r, none⟩ (.int .i64 va)).frozen? ⟨g, m * 16 + k, none⟩ = false := by
            rw [World.frozen?_setCell]; exact c4
          have HNx := Lib.hid (NX.out _ (o1.trans o2))
          clear HC NX o1 o2 HcY HcT
          go_wp2_with fail
          go_roundw
          case rel => exact ⟨k + 1, by omega, by go_num, HNx⟩
          case measure => (simp [intOf]; try omega)
        · obtain rfl : k = 8 := by omega
          rw [edgeTo_end, ← HJ.out] at HI
          clear HJ
          go_wp2_with fail
          go_roundw
          case rel => exact ⟨m + 1, by omega, by omega, by go_num, HI⟩
          case measure => (simp [intOf]; try omega)
    · have HE : Hid (OwnR 16 (fun q => q < w.heap.size) wo pt n (meetTo turnWA turnWB n F) ∧ Old w wo) := by
        refine ⟨?_, HS.out.2⟩
        by_cases h1 : n ≤ 1
        · rw [HE0.out h1]
          have := HS.out.1
          rcases hk with h | rfl
          · obtain rfl : m = 1 := by omega
            rwa [meetTo_one] at this
          · rwa [meetTo_one] at this
        · obtain rfl : m = n := by omega
          exact HS.out.1
      have hlt' : n ≤ m := by omega
      clear HS HE0
      go_wp2_with fail
      go_ret
      exact ⟨_, _, rfl, HE.out⟩
end Go.Proofs.Ytpdjdejlhjcicaa

