/- A frame's spectrum: contract of frame.Spectrum. (by wip/tools/exp.py of XSpecL.src) -/
import Derived.Test.YtlaoamlmpdbmmaaRightL
import Derived.Test.YtlaoamlmpdbmmaaQuantM
import Derived.Deep.RegionHeld
namespace Go.Proofs.Ytlaoamlmpdbmmaa
set_option linter.unusedVariables false
set_option maxRecDepth 100000
set_option linter.unusedSimpArgs false
open Go.RowKit Go.ChangeShapes Go.WideShapes

/-- A frame's steps. -/
def stQ (F : Nat → Int) : Nat → Int := fun k => if k < 16 then F (13 + k) else 0
theorem stQ_row (F : Nat → Int) : rowN 16 (blk fun j => F (13 + j)) = rowN 16 (blk (stQ F)) := rowN_ext _ _ _ fun k hk => by unfold blk stQ; rw [if_pos hk]
def stS (F : Nat → Int) : Nat → Int := fun k => F (5 + k)
/-- The values of steps, and at tones' places their values added. -/
def specTo (V : Nat → Int) (T : Nat → Int) : Nat → Nat → Int
  | 0 => V
  | j + 1 => fun k => if (k : Int) = T (2 * j) then specTo V T j k + T (2 * j + 1) else specTo V T j k
def clampTo (V : Nat → Int) (n : Nat) : Nat → Int := fun k => if k < n then clampI (V k) (-2147483648) 2147483648 else V k
def specV (F : Nat → Int) : Nat → Int := toldR valI (stQ F) (stS F)
def specF (F : Nat → Int) (n : Nat) (T : Nat → Int) : Nat → Int := clampTo (specTo (specV F) T n) 16
theorem clampTo_succ (V : Nat → Int) (n : Nat) : (fun k => if k = n then clampI (V n) (-2147483648) 2147483648 else clampTo V n k) = clampTo V (n + 1) := by
  funext k
  unfold clampTo
  by_cases h : k = n
  · subst h; rw [if_pos rfl, if_pos (Nat.lt_succ_self _)]
  · rw [if_neg h]
    by_cases h2 : k < n
    · rw [if_pos h2, if_pos (by omega)]
    · rw [if_neg h2, if_neg (by omega)]
theorem fit24 {v k : Int} (h : fitB v k = true) (h0 : 0 ≤ k) (h1 : k ≤ 24) : -8388608 ≤ v ∧ v ≤ 8388607 := by
  by_cases hz : k ≤ 0
  · rw [fitB_neg v k hz, beq_iff_eq] at h
    omega
  · rw [fitB_mid v k (by omega) (by omega), decide_eq_true_eq] at h
    have := pw_mono (k - 1).toNat 23 (by omega)
    rw [show pw 23 = 8388608 from rfl] at this
    omega
theorem stQ_bd {F : Nat → Int} {n : Nat} {T : Nat → Int} (h : FrP F n T) (k : Nat) : -8388608 ≤ stQ F k ∧ stQ F k ≤ 8388607 := by
  unfold stQ
  split
  · next hk => exact fit24 (h.hq k hk) (h.hw _ (by omega)).1 (h.hw _ (by omega)).2
  · omega
theorem stQ_fits {F : Nat → Int} {n : Nat} {T : Nat → Int} (h : FrP F n T) : Fits64 (stQ F) := fun k => by have := stQ_bd h k; omega
theorem specV_bd {F : Nat → Int} {n : Nat} {T : Nat → Int} (h : FrP F n T) (k : Nat) (hk : k < 16) : -70368744177664 ≤ specV F k ∧ specV F k ≤ 70368744177664 := by
  have hs : scalesP (stS F) := fun k hk => h.hs k hk
  unfold specV toldR
  rw [if_pos hs]
  unfold toldF valI
  have hq := stQ_bd h k
  have h1 := pw_pos (stS F (k / 4)).toNat
  have h2 := pw_mono (stS F (k / 4)).toNat 23 (by have := hs (k / 4) (by omega); omega)
  rw [show pw 23 = 8388608 from rfl] at h2
  generalize pw (stS F (k / 4)).toNat = p at *
  generalize stQ F k = x at *
  have a1 : x * p ≤ 8388608 * 8388608 := by
    rcases Int.le_total 0 x with h0 | h0
    · exact Int.mul_le_mul (by omega) h2 (by omega) (by omega)
    · have := Int.mul_nonpos_of_nonpos_of_nonneg h0 (by omega : 0 ≤ p)
      omega
  have a2 : -(8388608 * 8388608) ≤ x * p := by
    rcases Int.le_total 0 x with h0 | h0
    · have := Int.mul_nonneg h0 (by omega : 0 ≤ p)
      omega
    · have : (-x) * p ≤ 8388608 * 8388608 := Int.mul_le_mul (by omega) h2 (by omega) (by omega)
      rw [Int.neg_mul] at this
      omega
  rw [IntWalk.wrap64_in _ (by omega)]
  omega
theorem specTo_bd {F : Nat → Int} {n : Nat} {T : Nat → Int} (h : FrP F n T) (j : Nat) (hj : j ≤ n) (k : Nat) (hk : k < 16) : -(70368744177664 + 8388608 * (j : Int)) ≤ specTo (specV F) T j k ∧ specTo (specV F) T j k ≤ 70368744177664 + 8388608 * (j : Int) := by
  induction j with
  | zero => have := specV_bd h k hk; unfold specTo; omega
  | succ j ih =>
    have h1 := ih (by omega)
    have h2 := fit24 (h.ht j (by omega)).2.2.1 (by omega) (by omega)
    unfold specTo
    split <;> omega
theorem addL_two (a b : Int) (ha : In64 a) (hb : In64 (a + b)) : addL [a, b] = a + b := by
  unfold In64 at ha hb
  unfold addL
  simp only [List.foldl_cons, List.foldl_nil]
  have e : add2 0 a = a := by unfold add2; rw [if_neg (by omega), if_neg (by omega)]; omega
  rw [e]
  unfold add2
  rw [if_neg (by omega), if_neg (by omega)]

/-- The state of the loops: rb is the result's block, bb the spectrum's. -/
structure SpSt (w : World) (fb rb bb : Nat) (z : Array Value) (F : Nat → Int) (s : Value) (V : Nat → Int) (W : World) : Prop where
  fr : FrB 33 W fb F s
  res : W.heap[rb]? = some (.cells z 25 (0, 0))
  v : W.heap[bb]? = some (.cells (rowN 16 (blk V)) 25 (0, 0))
  old : Old w W
  nbb : w.heap.size ≤ bb
  nrb : w.heap.size ≤ rb
  n1 : fb ≠ bb
  n2 : rb ≠ bb
namespace SpSt
variable {w W W' : World} {fb rb bb : Nat} {z : Array Value} {F V : Nat → Int} {s : Value}
theorem keep (h : SpSt w fb rb bb z F s V W) (k : Old W W') : SpSt w fb rb bb z F s V W' :=
  ⟨h.fr.old k, (k.block _ (lt_of_block h.res)).trans h.res, (k.block _ (lt_of_block h.v)).trans h.v, h.old.trans k, h.nbb, h.nrb, h.n1, h.n2⟩
theorem cell (h : SpSt w fb rb bb z F s V W) (j : Nat) (hj : j < 16) : W.cell? ⟨bb, j, none⟩ = some (.int .i64 (V j)) ∧ W.frozen? ⟨bb, j, none⟩ = false :=
  ⟨(cell_of_row _ _ _ _ _ _ h.v).trans (blk_at 16 V j hj), frozen_of_row _ _ _ _ _ h.v⟩
theorem set (h : SpSt w fb rb bb z F s V W) (j : Nat) (hj : j < 16) (x : Int) : SpSt w fb rb bb z F s (fun k => if k = j then x else V k) (W.setCell ⟨bb, j, none⟩ (.int .i64 x)) := by
  have hk : Kept (butOf W bb) W (W.setCell ⟨bb, j, none⟩ (.int .i64 x)) := Kept.setCell W (a := ⟨bb, j, none⟩) (fun h => h.2 rfl) _
  have hn := h.nbb
  refine ⟨h.fr.kept hk ⟨lt_of_block h.fr, h.n1⟩, (hk.block rb ⟨lt_of_block h.res, h.n2⟩).trans h.res, ?_, Kept.trans h.old (hk.mono fun q hq => ⟨Nat.lt_of_lt_of_le hq h.old.size, fun e => by omega⟩), h.nbb, h.nrb, h.n1, h.n2⟩
  rw [← blk_upd, ← rowN_set 16 _ j _ hj]
  exact heap_setCell_same _ _ _ _ _ _ h.v
end SpSt

set_option maxRecDepth 100000 in
set_option maxHeartbeats 4000000 in
theorem Spectrum_any (F : Nat → Int) (p : Option Addr) (n cap : Nat) (T : Nat → Int) (w : World) (hT : SlF 2 w p n T) (hn : n ≤ cap) (hc : cap ≤ maxLen) (hF : FrP F n T) :
    Calls Try.prog 11 #[.agg (rowN 29 (frC F (.slice p n cap)))] w fun e w' => e = .returned (.agg (rowN 16 (blk (specF F n T)))) ∧ Old w w' := by
  have Hs4 : Hid ((Try.prog.info? 26).map (·.size) = some 4) := Lib.hid (by kernel_rfl)
  have Hs16 : Hid ((Try.prog.info? 25).map (·.size) = some 16) := Lib.hid (by kernel_rfl)
  obtain ⟨z, hz⟩ : ∃ z : Array Value, z = #[.int .i64 0, .int .i64 0, .int .i64 0, .int .i64 0, .int .i64 0, .int .i64 0, .int .i64 0, .int .i64 0, .int .i64 0, .int .i64 0, .int .i64 0, .int .i64 0, .int .i64 0, .int .i64 0, .int .i64 0, .int .i64 0] := ⟨_, rfl⟩
  have hzs : z.size = 16 := by rw [hz]; rfl
  obtain ⟨W0, hW0⟩ : ∃ W0, W0 = ((w.alloc (.cells (rowN 29 (frC F (.slice p n cap))) 33)).alloc (.cells z 25)) := ⟨_, rfl⟩
  have hA : FrB 33 W0 w.heap.size F (.slice p n cap) := by rw [hW0]; exact heap_alloc2_old w _ _
  have hR : W0.heap[w.heap.size + 1]? = some (.cells z 25 (0, 0)) := by rw [hW0]; exact heap_alloc2_new w _ _
  have hO : Old w W0 := by rw [hW0]; exact (Old.alloc w _).alloc' _
  have HW0 := Lib.hid hW0
  have HA := Lib.hid hA
  have HR := Lib.hid hR
  have HO := Lib.hid hO
  have Hz := Lib.hid hz
  have Hzs := Lib.hid hzs
  have HT := Lib.hid hT
  have HF := Lib.hid hF
  have HV := Lib.hid (fun w => Values_any (stQ F) (stS F) w (stQ_fits hF))
  have n2 := hF.hn
  clear hW0 hA hR hO hz hzs hT hF
  go_enter Try.func11, Try.ntmps11
  go_wp2_with (first | (rw [← Hz.out, ← HW0.out]; with_reducible refine wpList_load_blk rfl 16 (fun j => F (13 + j)) 25 _ rfl w.heap.size 13 rfl _ (HA.out.part 13 16 (by omega)) Try.underlying25 rfl Hs16.out ?_) | (with_reducible refine wpList_load_blk rfl 4 (fun j => F (5 + j)) 26 _ rfl w.heap.size 5 rfl _ (HA.out.part 5 4 (by omega)) Try.underlying26 rfl Hs4.out ?_))
  rw [stQ_row]
  refine (HV.out _).mono ?_
  rintro e w1 ⟨rfl, ho⟩
  have hst : SpSt w w.heap.size (w.heap.size + 1) w1.heap.size z F (.slice p n cap) (specTo (specV F) T 0) (w1.alloc (.cells (rowN 16 (blk (specV F))) 25)) := by
    have ho' := ho.alloc' (.cells (rowN 16 (blk (specV F))) 25)
    have h1 := lt_of_block HA.out
    have h2 := lt_of_block HR.out
    have h3 := ho.size
    exact ⟨HA.out.old ho', (ho'.block _ h2).trans HR.out, heap_alloc_new _ _, HO.out.trans ho', by omega, by omega, by omega, by omega⟩
  have HS := Lib.hid hst
  have H1 : Hid ((rowN 16 (blk (specV F))).all (·.oneCell') = true) := Lib.hid (blk_one _ _)
  have c4 := HS.out.fr.cell4.1
  clear ho hst HV HA HR HO HW0
  go_wp2_with (with_reducible refine wpList_store_row rfl 25 _ _ rfl w1.heap.size (rowN 16 (blk (specV F))) rfl rfl 25 _ (heap_alloc_new _ _) (by rw [rowN_size]; exact Hs16.out) (by rw [rowN_size]; kernel_rfl) H1.out ?_; rw [World.setRow_alloc_new])
  obtain ⟨W2, hW2⟩ : ∃ W2, W2 = w1.alloc (.cells (rowN 16 (blk (specV F))) 25) := ⟨_, rfl⟩
  obtain ⟨bb, hbb⟩ : ∃ bb, bb = w1.heap.size := ⟨_, rfl⟩
  rw [← hW2, ← hbb] at HS ⊢
  generalize hrb : w.heap.size + 1 = rb at HS ⊢
  clear hW2 hbb hrb c4 H1
  go_loopw [16] (fun i wr => ∃ k : Nat, k ≤ n ∧ i = .int .i64 k ∧ Hid (SpSt w w.heap.size rb bb z F (.slice p n cap) (specTo (specV F) T k) wr)) (fun i _ => n - (intOf i).toNat)
  case atStart => exact ⟨0, by omega, rfl, HS⟩
  case round =>
    obtain ⟨k, hk, rfl, hs⟩ := hrel
    obtain ⟨wo, rfl⟩ : ∃ V, V = wr := ⟨_, rfl⟩
    clear HS
    by_cases hlt : k < n
    · have i1 : (0 : Int) ≤ k := by omega
      have hT := HT.out.old hs.out.old
      obtain ⟨g, o, rfl, hg, hcc⟩ := two_cells hT (by omega)
      obtain ⟨a0, a1⟩ := hcc k hlt
      obtain ⟨t0, t1, t2, _⟩ := HF.out.ht k hlt
      have ty := fit24 t2 (by omega) (by omega)
      obtain ⟨j, hj⟩ : ∃ j : Nat, T (2 * k) = j := ⟨(T (2 * k)).toNat, by omega⟩
      have hj16 : j < 16 := by omega
      have hbd := specTo_bd HF.out k (by omega) j hj16
      have hsucc : specTo (specV F) T (k + 1) = fun q => if q = j then specTo (specV F) T k j + T (2 * k + 1) else specTo (specV F) T k q := by
        funext q
        show (if (q : Int) = T (2 * k) then specTo (specV F) T k q + T (2 * k + 1) else specTo (specV F) T k q) = _
        rw [hj]
        by_cases e : q = j
        · subst e; rw [if_pos rfl, if_pos rfl]
        · rw [if_neg (by omega), if_neg e]
      obtain ⟨V, hV⟩ : ∃ V, specTo (specV F) T k j = V := ⟨_, rfl⟩
      rw [hj] at a0
      rw [hV] at hbd hsucc
      have hcj := fun W (h : Old wo W) => (hs.out.keep h).cell j hj16
      rw [hV] at hcj
      have HCj := Lib.hid hcj
      obtain ⟨y, hy⟩ : ∃ y, T (2 * k + 1) = y := ⟨_, rfl⟩
      rw [hy] at a1 ty hsucc
      obtain ⟨r, hr⟩ : ∃ r, V + y = r := ⟨_, rfl⟩
      have hr64 : In64 (V + y) := by unfold In64; omega
      have hV64 : In64 V := by unfold In64; omega
      have hy64 : In64 y := by unfold In64; omega
      have hadd := addL_two V y hV64 hr64
      rw [hr] at hadd hsucc
      have HN := Lib.hid (fun W (h : Old wo W) => (hs.out.keep h).set j hj16 r)
      rw [← hsucc] at HN
      have HAdd := Lib.hid (fun (W : World) => (by
        have := Add_any (some ⟨W.heap.size, 0, none⟩) 2 2 [V, y] (W.alloc (.cells #[.int .i64 V, .int .i64 y] 2)).drew ((SlI.fresh W .i64 2 [V, y] 2 (0, 0) rfl (by omega)).old (Old.refl _).drew) (fun x hx => by
          simp only [List.mem_cons, List.mem_nil_iff, or_false] at hx
          rcases hx with rfl | rfl
          · exact hV64
          · exact hy64) (by omega)
        rw [hadd] at this
        exact this : Calls Try.prog 23 #[.slice (some ⟨W.heap.size, 0, none⟩) 2 2] (W.alloc (.cells #[.int .i64 V, .int .i64 y] 2)).drew fun e w' => e = .returned (.int .i64 r) ∧ (W.alloc (.cells #[.int .i64 V, .int .i64 y] 2)).drew = w'))
      have HTn : Hid (∀ W, Old (wo.alloc (.cells #[.int .i64 (j : Int), .int .i64 y] 60)) W → W.cell? ⟨wo.heap.size, 0, none⟩ = some (.int .i64 (j : Int)) ∧ W.cell? ⟨wo.heap.size, 1, none⟩ = some (.int .i64 y)) := Lib.hid fun W h => by
        have hb := (h.block wo.heap.size (by simp)).trans (heap_alloc_new wo (.cells #[.int .i64 (j : Int), .int .i64 y] 60))
        exact ⟨cell_of_row _ _ _ _ _ _ hb, cell_of_row _ _ _ _ _ _ hb⟩
      have HBb : Hid (bb < wo.heap.size) := Lib.hid (lt_of_block hs.out.v)
      have j0 : (0 : Int) ≤ j := by omega
      have j1 : (j : Int) < 16 := by omega
      clear hT hcc t0 t1 t2 ty hj hbd hsucc hV hcj hy hr hr64 hV64 hy64 hadd hs
      go_wp2_with fail
      obtain ⟨tb, htb⟩ : ∃ tb, tb = wo.heap.size := ⟨_, rfl⟩
      have hoA : Old wo (wo.alloc (.cells #[.int .i64 (j : Int), .int .i64 y] 60)) := Old.alloc _ _
      obtain ⟨W3, hW3⟩ : ∃ W3, W3 = wo.alloc (.cells #[.int .i64 (j : Int), .int .i64 y] 60) := ⟨_, rfl⟩
      rw [← hW3, ← htb] at HTn
      rw [← hW3] at hoA ⊢
      try rw [← htb]
      have HoA := Lib.hid hoA
      have HTb : Hid (tb = wo.heap.size) := Lib.hid htb
      clear hW3 htb hoA
      refine wp_region_held_drew (S := (fun w' => w'.cell? ⟨tb, 0, none⟩ = some (.int .i64 (j : Int)) ∧ w'.cell? ⟨tb, 1, none⟩ = some (.int .i64 y))) (by kernel_rfl) ?_ (fun hHeld => ?_)
      · (try dsimp only); exact HTn.out _ ((Old.refl W3).drew)
      refine wpAnyH_take (i := 0) (oi := ⟨some _, _, _, _, _, _⟩) (v := ?_) rfl (by kernel_rfl) (by kernel_rfl) (by kernel_rfl) (fun _ _ _ h => h) (Or.inl ⟨by kernel_rfl, ?_⟩) (by assumption) ?_; rotate_left; (intro w hSw; (try dsimp only at hSw); go_simp; try with_reducible rfl); try simp only [Act.put, List.setIfInBounds_toArray, List.set_cons_zero, List.set_cons_succ]
      refine wpAnyH_take (i := 2) (oi := ⟨some _, _, _, _, _, _⟩) (v := ?_) rfl (by kernel_rfl) (by kernel_rfl) (by kernel_rfl) (fun _ _ _ h => h) (Or.inl ⟨by kernel_rfl, ?_⟩) (by assumption) ?_; rotate_left; (intro w hSw; (try dsimp only at hSw); go_simp; try with_reducible rfl); try simp only [Act.put, List.setIfInBounds_toArray, List.set_cons_zero, List.set_cons_succ]
      refine wpAnyH_take (i := 6) (oi := ⟨some _, _, _, _, _, _⟩) (v := ?_) rfl (by kernel_rfl) (by kernel_rfl) (by kernel_rfl) (fun _ _ _ h => h) (Or.inl ⟨by kernel_rfl, ?_⟩) (by assumption) ?_; rotate_left; (intro w hSw; (try dsimp only at hSw); go_simp; try with_reducible rfl); try simp only [Act.put, List.setIfInBounds_toArray, List.set_cons_zero, List.set_cons_succ]
      refine wpAnyH_take (i := 1) (oi := ⟨some _, _, _, _, _, _⟩) (v := ?_) rfl (by kernel_rfl) (by kernel_rfl) (by kernel_rfl) (fun _ _ _ h => h) (Or.inl ⟨by kernel_rfl, ?_⟩) (by assumption) ?_; rotate_left; (intro w hSw; (try dsimp only at hSw); go_simp; try with_reducible rfl); try simp only [Act.put, List.setIfInBounds_toArray, List.set_cons_zero, List.set_cons_succ]
      refine wpAnyH_take (i := 3) (oi := ⟨some _, _, _, _, _, _⟩) (v := ?_) rfl (by kernel_rfl) (by kernel_rfl) (by kernel_rfl) (fun _ _ _ h => h) (Or.inl ⟨by kernel_rfl, ?_⟩) (by assumption) ?_; rotate_left; (intro w hSw; (try dsimp only at hSw); go_simp; try with_reducible rfl); try simp only [Act.put, List.setIfInBounds_toArray, List.set_cons_zero, List.set_cons_succ]
      refine wpAnyH_take (i := 4) (oi := ⟨some _, _, _, _, _, _⟩) (v := ?_) rfl (by kernel_rfl) (by kernel_rfl) (by kernel_rfl) (fun _ _ _ h => h) (Or.inl ⟨by kernel_rfl, ?_⟩) (by assumption) ?_; rotate_left; (intro w hSw; (try dsimp only at hSw); go_simp; try with_reducible rfl); try simp only [Act.put, List.setIfInBounds_toArray, List.set_cons_zero, List.set_cons_succ]
      refine wpAnyH_take (i := 7) (oi := ⟨some _, _, _, _, _, _⟩) (v := ?_) rfl (by kernel_rfl) (by kernel_rfl) (by kernel_rfl) (fun _ _ _ h => h) (Or.inl ⟨by kernel_rfl, ?_⟩) (by assumption) ?_; rotate_left; (intro w hSw; (try dsimp only at hSw); go_simp; try with_reducible rfl); try simp only [Act.put, List.setIfInBounds_toArray, List.set_cons_zero, List.set_cons_succ]
      refine wpAnyH_ready (rs := [5]) (by kernel_rfl) (by simp) ?_
      refine AllReadyH.cons (o := ⟨_, _, _, _, _, _⟩) rfl (fun K hK => ?_) AllReadyH.nil
      obtain ⟨b0, b1⟩ := HCj.out _ (HoA.out.trans ((Old.refl W3).drew))
      go_simp
      refine hK.out _ _ ?_ (fun hHeld => ?_)
      · (try dsimp only); exact HTn.out _ ((Old.refl W3).drew)
      clear hK K
      try simp only [Act.put, List.setIfInBounds_toArray, List.set_cons_zero, List.set_cons_succ]
      clear b0 b1
      obtain ⟨W4, hW4⟩ : ∃ W4, W4 = (W3.alloc (.cells #[.int .i64 V, .int .i64 y] 2)).drew := ⟨_, rfl⟩
      have ho4 : Old W3 W4 := by rw [hW4]; exact (Old.alloc W3 _).drew
      have HAd := Lib.hid (HAdd.out W3)
      rw [← hW4] at HAd
      have HK : Hid (W4.cell? ⟨tb, 0, none⟩ = some (.int .i64 (j : Int)) ∧ W4.cell? ⟨tb, 1, none⟩ = some (.int .i64 y)) := Lib.hid (HTn.out _ ho4)
      have htb : tb ≠ bb := fun e => by
        have h1 := (HCj.out _ HoA.out).1
        have h2 := (HTn.out _ (Old.refl W3)).1
        have := HTb.out
        have := HBb.out
        omega
      have HK2 : Hid ((W4.setCell ⟨bb, j, none⟩ (.int .i64 r)).cell? ⟨tb, 0, none⟩ = some (.int .i64 (j : Int)) ∧ (W4.setCell ⟨bb, j, none⟩ (.int .i64 r)).cell? ⟨tb, 1, none⟩ = some (.int .i64 y)) := Lib.hid (by
        rw [World.cell?_setCell_other _ _ _ _ (fun e => htb (by injection e with e1 _; exact e1.symm)), World.cell?_setCell_other _ _ _ _ (fun e => htb (by injection e with e1 _; exact e1.symm))]
        exact HTn.out _ ho4)
      have HNn := Lib.hid (HN.out W4 (HoA.out.trans ho4))
      have HD := Lib.hid (HCj.out _ (HoA.out.trans ho4))
      have HW4 := Lib.hid hW4
      clear hW4 ho4 HAdd HN HCj HTn HoA
      refine wpAnyH_ready (rs := [8]) (by kernel_rfl) (by simp) ?_
      refine AllReadyH.cons (o := ⟨_, _, _, _, _, _⟩) rfl (fun K hK => ?_) AllReadyH.nil
      go_simp
      try rw [← HW4.out]
      refine hK.out _ _ ?_ (fun hHeld => ?_)
      · (try dsimp only); exact HK.out
      clear hK K
      try simp only [Act.put, List.setIfInBounds_toArray, List.set_cons_zero, List.set_cons_succ]
      refine wpAnyH_ready (rs := [9]) (by kernel_rfl) (by simp) ?_
      refine AllReadyH.cons (o := ⟨_, _, _, _, _, _⟩) rfl (fun K hK => ?_) AllReadyH.nil
      go_simp
      refine HAd.out.mono ?_
      rintro e V5 ⟨rfl, rfl⟩
      go_wp2_with fail
      refine hK.out _ _ ?_ (fun hHeld => ?_)
      · (try dsimp only); exact HK.out
      clear hK K
      try simp only [Act.put, List.setIfInBounds_toArray, List.set_cons_zero, List.set_cons_succ]
      refine wpAnyH_take (i := 10) (oi := ⟨some _, _, _, _, _, _⟩) (v := ?_) rfl (by kernel_rfl) (by kernel_rfl) (by kernel_rfl) (fun _ _ _ h => h) (Or.inl ⟨by kernel_rfl, ?_⟩) (by assumption) ?_; rotate_left; (intro w hSw; (try dsimp only at hSw); go_simp; try with_reducible rfl); try simp only [Act.put, List.setIfInBounds_toArray, List.set_cons_zero, List.set_cons_succ]
      refine wpAnyH_ready (rs := [11]) (by kernel_rfl) (by simp) ?_
      refine AllReadyH.cons (o := ⟨_, _, _, _, _, _⟩) rfl (fun K hK => ?_) AllReadyH.nil
      obtain ⟨d0, d1⟩ := HD.out
      go_simp
      refine hK.out _ _ ?_ (fun hHeld => ?_)
      · (try dsimp only); exact HK2.out
      clear hK K
      try simp only [Act.put, List.setIfInBounds_toArray, List.set_cons_zero, List.set_cons_succ]
      refine wpAnyH_done (by kernel_rfl) ?_ _
      clear HK HK2 HAd HD d0 d1
      go_wp2_with fail
      go_roundw
      case rel => exact ⟨k + 1, by omega, by go_num, HNn⟩
      case measure => simp [intOf]; omega
    · obtain rfl : k = n := by omega
      have HS := hs
      have Hv := Lib.hid hs.out.v
      obtain ⟨V, hV⟩ : ∃ V, specTo (specV F) T k = V := ⟨_, rfl⟩
      have hspec : specF F k T = clampTo V 16 := by unfold specF; rw [hV]
      rw [hV] at HS Hv
      have HSp := Lib.hid hspec
      have h0 : clampTo V 0 = V := by funext q; unfold clampTo; rw [if_neg (by omega)]
      rw [← h0] at HS
      clear hs hV hspec h0 HF HT hlt hk
      go_wp2_with (with_reducible refine wpList_load_row rfl 25 _ rfl bb rfl 25 (rowN 16 (blk V)) (0, 0) _ Hv.out Try.underlying25 rfl (by rw [rowN_size]; exact Hs16.out) ?_)
      clear Hv
      go_loopw [41] (fun i wr => ∃ j : Nat, j ≤ 16 ∧ i = .int .i64 j ∧ Hid (SpSt w w.heap.size rb bb z F (.slice p k cap) (clampTo V j) wr)) (fun i _ => 16 - (intOf i).toNat)
      case atStart => exact ⟨0, by omega, rfl, HS⟩
      case round =>
        obtain ⟨j, hj, rfl, hs⟩ := hrel
        obtain ⟨wp, rfl⟩ : ∃ X, X = wr := ⟨_, rfl⟩
        clear HS
        by_cases hlt : j < 16
        · have i1 : (0 : Int) ≤ j := by omega
          have i2 : (j : Int) < 16 := by omega
          have hat : ∀ w : World, (Instr.index 25 (.agg (rowN 16 (blk V))) (.int .i64 j)).run Try.prog w = .ok (.int .i64 (V j)) w := fun w => run_index_ints Try.underlying25 Try.underlying2 (fun _ => by kernel_rfl) V j hlt w
          have hn := hs.out.set j hlt (clampI (V j) (-2147483648) 2147483648)
          rw [clampTo_succ] at hn
          have HN := Lib.hid hn
          obtain ⟨d0, d1⟩ := hs.out.cell j hlt
          have HC := Lib.hid (fun w => Clamp_any (V j) (-2147483648) 2147483648 w)
          clear hs hn
          generalize clampI (V j) (-2147483648) 2147483648 = y at *
          generalize V j = x at *
          go_wp2_with fail
          refine (HC.out _).mono ?_
          rintro e w5 ⟨rfl, rfl⟩
          go_wp2_with fail
          go_roundw
          case rel => exact ⟨j + 1, by omega, by go_num, HN⟩
          case measure => simp [intOf]; omega
        · obtain rfl : j = 16 := by omega
          have Hv := Lib.hid hs.out.v
          have Hres := Lib.hid hs.out.res
          have Hold := Lib.hid hs.out.old
          have Hnrb := Lib.hid hs.out.nrb
          have H1 : Hid ((rowN 16 (blk (clampTo V 16))).all (·.oneCell') = true) := Lib.hid (blk_one _ _)
          clear hs hlt hj
          go_wp2_with (first | (with_reducible refine wpList_load_row rfl 25 _ rfl bb rfl 25 (rowN 16 (blk (clampTo V 16))) (0, 0) _ Hv.out Try.underlying25 rfl (by rw [rowN_size]; exact Hs16.out) ?_) | (with_reducible refine wpList_store_row rfl 25 _ _ rfl rb (rowN 16 (blk (clampTo V 16))) rfl rfl 25 _ Hres.out (by rw [rowN_size]; exact Hs16.out) (by rw [rowN_size]; exact Hzs.out) H1.out ?_))
          have hr := row_ret Hres.out Hold.out Hnrb.out (rowN 16 (blk (clampTo V 16)))
          exact bodyPost_ret (results_cell_row rfl _ _ rb 25 (rowN 16 (blk (clampTo V 16))) (0, 0) _ rfl hr.1 Try.underlying25 rfl (by rw [rowN_size]; exact Hs16.out)) rfl ⟨by rw [HSp.out], hr.2⟩
end Go.Proofs.Ytlaoamlmpdbmmaa

