/- Package fit's contracts, second part: coarser, Mask. -/
import Derived.Test.YtcepfbflgngmjaaFitB
namespace Go.Proofs.Ytcepfbflgngmjaa
set_option linter.unusedVariables false
set_option maxRecDepth 100000
set_option linter.unusedSimpArgs false
open Go.RowKit Go.ChangeShapes Go.WideShapes

/-- The band that is told coarser next, of the first k; -1: there is none. -/
def candI (m s u : Nat → Int) (b : Int) (k : Nat) : Int := if 0 < u k ∧ s k < 23 ∧ (b < 0 ∨ m b.toNat - s b.toNat < m k - s k) then k else b
def bestTo (m s u : Nat → Int) : Nat → Int
  | 0 => -1
  | k + 1 => candI m s u (bestTo m s u k) k
theorem bestTo_bd (m s u : Nat → Int) (k : Nat) : -1 ≤ bestTo m s u k ∧ bestTo m s u k < k := by
  induction k with
  | zero => exact ⟨by show (-1 : Int) ≤ -1; omega, by show (-1 : Int) < 0; omega⟩
  | succ k ih =>
    show -1 ≤ candI m s u (bestTo m s u k) k ∧ candI m s u (bestTo m s u k) k < ((k + 1 : Nat) : Int)
    unfold candI
    split <;> omega
theorem bestTo_ok (m s u : Nat → Int) (k : Nat) (h : 0 ≤ bestTo m s u k) : 0 < u (bestTo m s u k).toNat ∧ s (bestTo m s u k).toNat < 23 := by
  induction k with
  | zero => exact absurd h (by show ¬ (0 : Int) ≤ -1; omega)
  | succ k ih =>
    have e : bestTo m s u (k + 1) = candI m s u (bestTo m s u k) k := rfl
    rw [e] at h ⊢
    unfold candI at h ⊢
    split
    · next hc => rw [Int.toNat_natCast]; exact ⟨hc.1, hc.2.1⟩
    · next hc => rw [if_neg hc] at h; exact ih h
/-- If there is none, no band is left. -/
theorem bestTo_none (m s u : Nat → Int) (k : Nat) (h : bestTo m s u k < 0) (j : Nat) (hj : j < k) : ¬ (0 < u j ∧ s j < 23) := by
  induction k with
  | zero => omega
  | succ k ih =>
    have e : bestTo m s u (k + 1) = candI m s u (bestTo m s u k) k := rfl
    rw [e] at h
    unfold candI at h
    split at h
    · omega
    · next hc =>
      by_cases e2 : j = k
      · subst e2
        rintro ⟨h1, h2⟩
        exact hc ⟨h1, h2, .inl h⟩
      · exact ih h (by omega)
theorem bestTo_congr {m m' s s' u u' : Nat → Int} (hm : ∀ k, k < 4 → m k = m' k) (hs : ∀ k, k < 4 → s k = s' k) (hu : ∀ k, k < 4 → u k = u' k) (k : Nat) (hk : k ≤ 4) : bestTo m s u k = bestTo m' s' u' k := by
  induction k with
  | zero => rfl
  | succ k ih =>
    have hb := bestTo_bd m s u k
    have e : bestTo m s u (k + 1) = candI m s u (bestTo m s u k) k := rfl
    have e' : bestTo m' s' u' (k + 1) = candI m' s' u' (bestTo m' s' u' k) k := rfl
    rw [e, e', ← ih (by omega)]
    unfold candI
    rw [hm k (by omega), hs k (by omega), hu k (by omega), hm (bestTo m s u k).toNat (by omega), hs (bestTo m s u k).toNat (by omega)]

structure CoSt (w : World) (m F : Nat → Int) (sl : Value) (W : World) : Prop where
  m : W.heap[w.heap.size]? = some (.cells (rowN 4 (blk m)) 24 (0, 0))
  f : FrB 29 W (w.heap.size + 1) F sl
  old : Old w W
theorem CoSt.start (w : World) (m F : Nat → Int) (sl : Value) : CoSt w m F sl ((w.alloc (.cells (rowN 4 (blk m)) 24)).alloc (.cells (rowN 29 (frC F sl)) 29)) :=
  ⟨heap_alloc2_old w _ _, heap_alloc2_new w _ _, (Old.alloc w _).alloc' _⟩
theorem CoSt.keep {w W W' : World} {m F : Nat → Int} {sl : Value} (h : CoSt w m F sl W) (k : Old W W') : CoSt w m F sl W' := ⟨(k.block _ (lt_of_block h.m)).trans h.m, h.f.old k, h.old.trans k⟩
set_option maxHeartbeats 4000000 in
theorem Coarser_any (m F : Nat → Int) (p : Option Addr) (n cap : Nat) (w : World) (hm : ∀ k, k < 4 → 0 ≤ m k ∧ m k ≤ 99) (hs : ∀ k, k < 4 → 0 ≤ F (5 + k) ∧ F (5 + k) ≤ 23) (hu : ∀ k, k < 4 → 0 ≤ F (9 + k) ∧ F (9 + k) ≤ 99) :
    Calls Try.prog 26 #[.agg (rowN 4 (blk m)), .agg (rowN 29 (frC F (.slice p n cap)))] w fun e w' => e = .returned (.tuple #[.int .i64 ((bestTo m (fun k => F (5 + k)) (fun k => F (9 + k)) 4).toNat : Int), .bool (decide (0 ≤ bestTo m (fun k => F (5 + k)) (fun k => F (9 + k)) 4))]) ∧ Old w w' := by
  have Hs4 : Hid ((Try.prog.info? 24).map (·.size) = some 4) := Lib.hid (by kernel_rfl)
  obtain ⟨W0, hW0⟩ : ∃ W0, W0 = ((w.alloc (.cells (rowN 4 (blk m)) 24)).alloc (.cells (rowN 29 (frC F (.slice p n cap))) 29)) := ⟨_, rfl⟩
  have h0 : CoSt w m F (.slice p n cap) W0 := by rw [hW0]; exact CoSt.start _ _ _ _
  have H0 := Lib.hid h0
  have HM := Lib.hid hm
  have HS := Lib.hid hs
  have HU := Lib.hid hu
  have HW0 := Lib.hid hW0
  clear h0 hm hs hu hW0
  go_enter Try.func26, Try.ntmps26
  go_wp2_with (rw [← HW0.out]; with_reducible refine wpList_load_blk rfl 4 (fun j => F (5 + j)) 24 _ rfl (w.heap.size + 1) 5 rfl _ (H0.out.f.part 5 4 (by omega)) Try.underlying24 rfl Hs4.out ?_)
  clear HW0
  go_loopw [6, 7, 12] (fun a b i wr => ∃ k : Nat, k ≤ 4 ∧ i = .int .i64 k ∧ a = .int .i64 ((bestTo m (fun k => F (5 + k)) (fun k => F (9 + k)) k).toNat : Int) ∧ b = .bool (decide (0 ≤ bestTo m (fun k => F (5 + k)) (fun k => F (9 + k)) k)) ∧ Hid (Old W0 wr)) (fun _ _ i _ => 4 - (intOf i).toNat)
  case atStart => exact ⟨0, by omega, rfl, rfl, rfl, Lib.hid (Old.refl _)⟩
  case round =>
    obtain ⟨k, hk, rfl, rfl, rfl, ho⟩ := hrel
    by_cases hlt : k < 4
    · have hst := H0.out.keep ho.out
      have i0 : (0 : Int) ≤ k := by omega
      have i1 : (k : Int) < 4 := by omega
      have hat : ∀ w : World, (Instr.index 24 (.agg (rowN 4 (blk fun j => F (5 + j)))) (.int .i64 k)).run Try.prog w = .ok (.int .i64 (F (5 + k))) w := fun w => run_index_ints Try.underlying24 Try.underlying3 (fun _ => by kernel_rfl) (fun j => F (5 + j)) k hlt w
      obtain ⟨b, hb⟩ : ∃ b, bestTo m (fun k => F (5 + k)) (fun k => F (9 + k)) k = b := ⟨_, rfl⟩
      have hbd := bestTo_bd m (fun k => F (5 + k)) (fun k => F (9 + k)) k
      have hnx : bestTo m (fun k => F (5 + k)) (fun k => F (9 + k)) (k + 1) = candI m (fun k => F (5 + k)) (fun k => F (9 + k)) b k := by rw [← hb]; rfl
      rw [hb] at hbd ⊢
      obtain ⟨nx, hnxt⟩ : ∃ nx : Nat, nx = b.toNat := ⟨_, rfl⟩
      have hnx4 : nx < 4 := by omega
      have n0 : (0 : Int) ≤ nx := by omega
      have n1 : (nx : Int) < 4 := by omega
      have c1 := (hst.f.cell (9 + k) (by omega) (by omega)).1
      have c2 := (cell_of_row _ _ _ _ _ _ hst.m).trans (blk_at 4 m k hlt)
      have c3 := (cell_of_row _ _ _ _ _ _ hst.m).trans (blk_at 4 m nx hnx4)
      have c4 := (hst.f.cell (5 + nx) (by omega) (by omega)).1
      obtain ⟨u0, u1⟩ := HU.out k hlt
      obtain ⟨s0, s1⟩ := HS.out k hlt
      obtain ⟨m0, m1⟩ := HM.out k hlt
      obtain ⟨t0, t1⟩ := HS.out nx hnx4
      obtain ⟨v0, v1⟩ := HM.out nx hnx4
      unfold candI at hnx
      rw [← hnxt] at hnx ⊢
      dsimp only at hnx
      have HY : Hid (0 < F (9 + k) → F (5 + k) < 23 → (b < 0 ∨ m nx - F (5 + nx) < m k - F (5 + k)) → bestTo m (fun k => F (5 + k)) (fun k => F (9 + k)) (k + 1) = k) := Lib.hid fun h1 h2 h3 => by rw [hnx, if_pos ⟨h1, h2, h3⟩]
      have HZ : Hid (¬ (0 < F (9 + k) ∧ F (5 + k) < 23 ∧ (b < 0 ∨ m nx - F (5 + nx) < m k - F (5 + k))) → bestTo m (fun k => F (5 + k)) (fun k => F (9 + k)) (k + 1) = b) := Lib.hid fun h => by rw [hnx, if_neg h]
      have Hnb : Hid (nx = b.toNat) := Lib.hid hnxt
      clear hst hb hnx hnxt
      generalize F (9 + k) = uk at *
      generalize F (5 + k) = sk at *
      generalize m k = mk at *
      generalize F (5 + nx) = sn at *
      generalize m nx = mn at *
      obtain ⟨x, hx⟩ : ∃ x, mk - sk = x := ⟨_, rfl⟩
      obtain ⟨y, hy⟩ : ∃ y, mn - sn = y := ⟨_, rfl⟩
      have q1 : wrap64 (mk - sk) = x := by rw [IntWalk.wrap64_in _ (by omega)]; exact hx
      have q2 : wrap64 (mn - sn) = y := by rw [IntWalk.wrap64_in _ (by omega)]; exact hy
      have q1' : IntKind.i64.wrap (mk - sk) = x := by rw [IntWalk.i64_in _ (by omega)]; exact hx
      have q2' : IntKind.i64.wrap (mn - sn) = y := by rw [IntWalk.i64_in _ (by omega)]; exact hy
      rw [hx, hy] at HY HZ
      clear hx hy
      by_cases hu0 : uk = 0
      · subst hu0
        have HN2 : Hid (bestTo m (fun k => F (5 + k)) (fun k => F (9 + k)) (k + 1) = b) := Lib.hid (HZ.out (by omega))
        clear HY HZ
        go_wp2_with fail
        go_roundw
        case rel => exact ⟨k + 1, by omega, by go_num, by rw [HN2.out, Hnb.out], by rw [HN2.out], ho⟩
        case measure => simp [intOf]; omega
      · have hu0' : (uk == 0) = false := by simpa using hu0
        by_cases hs23 : 23 ≤ sk
        · have HN2 : Hid (bestTo m (fun k => F (5 + k)) (fun k => F (9 + k)) (k + 1) = b) := Lib.hid (HZ.out (by omega))
          clear HY HZ
          go_wp2_with fail
          go_roundw
          case rel => exact ⟨k + 1, by omega, by go_num, by rw [HN2.out, Hnb.out], by rw [HN2.out], ho⟩
          case measure => simp [intOf]; omega
        · by_cases hb0 : 0 ≤ b
          · have hd : decide (0 ≤ b) = true := decide_eq_true hb0
            rw [hd]
            by_cases hxy : y < x
            · have HN2 : Hid (bestTo m (fun k => F (5 + k)) (fun k => F (9 + k)) (k + 1) = k) := Lib.hid (HY.out (by omega) (by omega) (.inr hxy))
              clear HY HZ hd
              go_wp2_with fail
              go_quiet (fail)
              go_wp2_with fail
              go_roundw
              case rel => exact ⟨k + 1, by omega, by go_num, by rw [HN2.out]; simp, by rw [HN2.out]; simp, Lib.hid (ho.out.drewN _)⟩
              case measure => simp [intOf]; omega
            · have HN2 : Hid (bestTo m (fun k => F (5 + k)) (fun k => F (9 + k)) (k + 1) = b) := Lib.hid (HZ.out (by omega))
              clear HY HZ hd
              go_wp2_with fail
              go_quiet (fail)
              go_wp2_with fail
              go_roundw
              case rel => exact ⟨k + 1, by omega, by go_num, by rw [HN2.out, Hnb.out], by rw [HN2.out]; simp; omega, Lib.hid (ho.out.drewN _)⟩
              case measure => simp [intOf]; omega
          · have hd : decide (0 ≤ b) = false := decide_eq_false hb0
            rw [hd]
            have HN2 : Hid (bestTo m (fun k => F (5 + k)) (fun k => F (9 + k)) (k + 1) = k) := Lib.hid (HY.out (by omega) (by omega) (.inl (by omega)))
            clear HY HZ hd
            go_wp2_with fail
            go_quiet (fail)
            go_wp2_with fail
            go_roundw
            case rel => exact ⟨k + 1, by omega, by go_num, by rw [HN2.out]; simp, by rw [HN2.out]; simp, Lib.hid (ho.out.drewN _)⟩
            case measure => simp [intOf]; omega
    · obtain rfl : k = 4 := by omega
      have HO := Lib.hid (H0.out.old.trans ho.out)
      clear ho H0 HM HS HU
      go_wp2_with fail
      go_ret2
      exact ⟨rfl, HO.out⟩

def maskTo (X : Nat → Int) (n : Nat) : Nat → Int := fun k => if k < n then maskI X k else 0
theorem maskTo_succ (X : Nat → Int) (n : Nat) : (fun k => if k = n then maskI X n else maskTo X n k) = maskTo X (n + 1) := by
  funext k
  unfold maskTo
  by_cases h : k = n
  · subst h; rw [if_pos rfl, if_pos (by omega)]
  · rw [if_neg h]
    by_cases h2 : k < n
    · rw [if_pos h2, if_pos (by omega)]
    · rw [if_neg h2, if_neg (by omega)]
theorem mask_row (X : Nat → Int) : rowN 4 (blk (maskTo X 4)) = rowN 4 (blk (maskI X)) := rowN_ext _ _ _ fun k hk => by unfold blk maskTo; rw [if_pos hk]
set_option maxHeartbeats 1000000 in
theorem Mask_any (X : Nat → Int) (w : World) (hX : Fits64 X) :
    Calls Try.prog 10 #[.agg (rowN 16 (blk X))] w fun e w' => e = .returned (.agg (rowN 4 (blk (maskI X)))) ∧ Old w w' := by
  have Hw4 : Hid ((Try.prog.info? 24).map (·.size) = some 4) := Lib.hid (by kernel_rfl)
  obtain ⟨z, hz⟩ : ∃ z : Array Value, z = #[.int .i64 0, .int .i64 0, .int .i64 0, .int .i64 0] := ⟨_, rfl⟩
  have hzs : z.size = 4 := by rw [hz]; rfl
  have H0 := WdSt.start w 23 24 X
  rw [show wideTo X 0 = maskTo X 0 from funext fun k => by unfold maskTo; rw [if_neg (by omega)]; rfl] at H0
  have HX := Lib.hid hX
  have HS := Lib.hid (fun k hk w => slice_band w.heap.size k hk w)
  clear hX
  have H0 := Lib.hid H0
  go_enter Try.func10, Try.ntmps10
  go_wp2_with fail
  rw [← hz] at H0 ⊢
  clear hz
  go_loopw [6] (fun i wr => ∃ k : Nat, k ≤ 4 ∧ i = .int .i64 k ∧ Hid (WdSt w 23 24 z X (maskTo X k) wr)) (fun i _ => 4 - (intOf i).toNat)
  case atStart => exact ⟨0, by omega, rfl, H0⟩
  case round =>
    obtain ⟨k, hk, rfl, hs⟩ := hrel
    clear H0
    by_cases hlt : k < 4
    · have k1 : (0 : Int) ≤ k := by omega
      have k2 : (k : Int) < 4 := by omega
      have hS := fun w' : World => slice_band w.heap.size k hlt w'
      have HPk := Lib.hid (Peak_any _ _ _ _ wr (part_SlI hs.out.b (k * 4) 4 (16 - k * 4) (by omega) (by omega) (by omega)) (part_in HX.out (k * 4) 4) (by omega))
      have hpb := peakL_in _ (part_in HX.out (k * 4) 4)
      have hmk : maskI X k = widthI (peakL (part X (k * 4) 4)) := rfl
      obtain ⟨c1, c2⟩ := hs.out.cell k hlt
      have h1 := hs.out.set k hlt (maskI X k)
      rw [maskTo_succ, hmk] at h1
      have H1 := Lib.hid h1
      have HWd := Lib.hid (fun w => Width_any (peakL (part X (k * 4) 4)) w (by omega) (by omega))
      clear h1 hs hmk hpb HS
      generalize peakL (part X (k * 4) 4) = pk at *
      generalize widthI pk = wk at *
      go_wp2_with fail
      refine HPk.out.mono ?_
      rintro e w1 ⟨rfl, rfl⟩
      go_wp2_with fail
      refine (HWd.out _).mono ?_
      rintro e w1 ⟨rfl, rfl⟩
      go_wp2_with fail
      go_roundw
      case rel => exact ⟨k + 1, by omega, by go_num, H1⟩
      case measure => simp [intOf]; omega
    · obtain rfl : k = 4 := by omega
      have hst := hs.out
      have hg := hst.g
      rw [mask_row] at hg
      have HG := Lib.hid hg
      have HR := Lib.hid hst.r
      have HD := Lib.hid (hst.row (rowN 4 (blk (maskI X))))
      have H1 : Hid ((rowN 4 (blk (maskI X))).all (·.oneCell') = true) := Lib.hid (blk_one _ _)
      clear hs hst hg HX HS
      go_wp2_with (first | (with_reducible refine wpList_load_row rfl 24 _ rfl (w.heap.size + 1 + 1) rfl 24 (rowN 4 (blk (maskI X))) (0, 0) _ HG.out Try.underlying24 rfl (by rw [rowN_size]; exact Hw4.out) ?_) | (with_reducible refine wpList_store_row rfl 24 _ _ rfl (w.heap.size + 1) (rowN 4 (blk (maskI X))) rfl rfl 24 _ HR.out (by rw [rowN_size]; exact Hw4.out) (by rw [rowN_size]; exact hzs) H1.out ?_))
      exact bodyPost_ret (results_cell_row rfl _ _ (w.heap.size + 1) 24 (rowN 4 (blk (maskI X))) (0, 0) _ rfl HD.out.1 Try.underlying24 rfl (by rw [rowN_size]; exact Hw4.out)) rfl ⟨rfl, HD.out.2⟩
end Go.Proofs.Ytcepfbflgngmjaa
