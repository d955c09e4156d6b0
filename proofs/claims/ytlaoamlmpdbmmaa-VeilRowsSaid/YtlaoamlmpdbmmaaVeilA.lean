/- Veils: pieces by value, contracts of veil.faded and veil.Of. (.src by exp.py) -/
import Derived.Test.YtlaoamlmpdbmmaaSpecL
import Derived.Test.YtlaoamlmpdbmmaaRowK
namespace Go.Proofs.Ytlaoamlmpdbmmaa
set_option linter.unusedVariables false
set_option maxRecDepth 100000
open Go.RowKit Go.ChangeShapes Go.WideShapes

/-- A frame's piece: 16 numbers of its spectrum, 4 gains. -/
def pcF (F : Nat → Int) (n : Nat) (T : Nat → Int) : Nat → Int := fun k => if k < 16 then specF F n T k else F (k - 16)
def cutTo (P : Nat → Int) (k n : Nat) : Nat → Int := fun j => if j < n then (P j).tdiv (pw k) else P j
/-- What stands in for the k-th frame that is lost. -/
def fadeF (P : Nat → Int) (k : Nat) : Nat → Int := if 4 < k then fun _ => 0 else cutTo P k 16
theorem cutTo_zero (P : Nat → Int) (k : Nat) : cutTo P k 0 = P := by funext j; unfold cutTo; rw [if_neg (by omega)]
theorem cutTo_succ (P : Nat → Int) (k n : Nat) : (fun j => if j = n then (P n).tdiv (pw k) else cutTo P k n j) = cutTo P k (n + 1) := by
  funext j
  unfold cutTo
  by_cases h : j = n
  · subst h; rw [if_pos rfl, if_pos (by omega)]
  · rw [if_neg h]
    by_cases h2 : j < n
    · rw [if_pos h2, if_pos (by omega)]
    · rw [if_neg h2, if_neg (by omega)]
theorem specF_in (F : Nat → Int) (n : Nat) (T : Nat → Int) (j : Nat) (hj : j < 16) : -2147483648 ≤ specF F n T j ∧ specF F n T j ≤ 2147483648 := by
  unfold specF clampTo
  rw [if_pos hj]
  unfold clampI
  split <;> (try split) <;> omega
theorem pcF_in (F : Nat → Int) (n : Nat) (T : Nat → Int) (j : Nat) (hj : j < 16) : -2147483648 ≤ pcF F n T j ∧ pcF F n T j ≤ 2147483648 := by
  unfold pcF
  rw [if_pos hj]
  exact specF_in F n T j hj
/-- Numbers are small: a spectrum's. -/
def Sml (P : Nat → Int) : Prop := ∀ j, j < 16 → -2147483648 ≤ P j ∧ P j ≤ 2147483648
theorem sml_zero : Sml fun _ => 0 := fun j _ => by dsimp only; omega
theorem row20_zero : rowN 20 (blk fun _ => 0) = #[.int .i64 0, .int .i64 0, .int .i64 0, .int .i64 0, .int .i64 0, .int .i64 0, .int .i64 0, .int .i64 0, .int .i64 0, .int .i64 0, .int .i64 0, .int .i64 0, .int .i64 0, .int .i64 0, .int .i64 0, .int .i64 0, .int .i64 0, .int .i64 0, .int .i64 0, .int .i64 0] := rfl
theorem row21_zero : rowN 21 (blk fun _ => 0) = #[.int .i64 0, .int .i64 0, .int .i64 0, .int .i64 0, .int .i64 0, .int .i64 0, .int .i64 0, .int .i64 0, .int .i64 0, .int .i64 0, .int .i64 0, .int .i64 0, .int .i64 0, .int .i64 0, .int .i64 0, .int .i64 0, .int .i64 0, .int .i64 0, .int .i64 0, .int .i64 0, .int .i64 0] := rfl
/-- A box of n numbers and a result's box beside it. -/
structure FdSt (w : World) (t : TypeId) (n : Nat) (z : Array Value) (V : Nat → Int) (W : World) : Prop where
  b : W.heap[w.heap.size]? = some (.cells (rowN n (blk V)) t (0, 0))
  r : W.heap[w.heap.size + 1]? = some (.cells z t (0, 0))
  old : Old w W
namespace FdSt
variable {w W W' : World} {t : TypeId} {n : Nat} {z : Array Value} {V : Nat → Int}
theorem keep (h : FdSt w t n z V W) (k : Old W W') : FdSt w t n z V W' :=
  ⟨(k.block _ (lt_of_block h.b)).trans h.b, (k.block _ (lt_of_block h.r)).trans h.r, h.old.trans k⟩
theorem set (h : FdSt w t n z V W) (j : Nat) (hj : j < n) (v : Int) : FdSt w t n z (fun k => if k = j then v else V k) (W.setCell ⟨w.heap.size, j, none⟩ (.int .i64 v)) := by
  refine ⟨?_, (heap_setCell_other _ _ _ _ (by simp)).trans h.r, h.old.after (Kept.setCell (X := fun k => k < w.heap.size) _ (a := ⟨w.heap.size, j, none⟩) (by show ¬ w.heap.size < w.heap.size; omega) _) fun _ hk => hk⟩
  rw [← blk_upd, ← rowN_set _ _ _ _ hj]
  exact heap_setCell_same _ _ _ _ _ _ h.b
theorem cell (h : FdSt w t n z V W) (j : Nat) (hj : j < n) : W.cell? ⟨w.heap.size, j, none⟩ = some (.int .i64 (V j)) ∧ W.frozen? ⟨w.heap.size, j, none⟩ = false :=
  ⟨(cell_of_row _ _ _ _ _ _ h.b).trans (blk_at n V j hj), frozen_of_row _ _ _ _ _ h.b⟩
theorem row (h : FdSt w t n z V W) (cs : Array Value) : (W.setRow (w.heap.size + 1) cs).heap[w.heap.size + 1]? = some (.cells cs t (0, 0)) ∧ Old w (W.setRow (w.heap.size + 1) cs) :=
  row_ret h.r h.old (Nat.le_succ _) cs
theorem start (w : World) (t : TypeId) (n : Nat) (z : Array Value) (V : Nat → Int) : FdSt w t n z V ((w.alloc (.cells (rowN n (blk V)) t)).alloc (.cells z t)) :=
  ⟨heap_alloc2_old w _ _, heap_alloc2_new w _ _, (Old.alloc w _).alloc' _⟩
end FdSt

theorem FrB.heap {t : TypeId} {w : World} {b : Nat} {F : Nat → Int} {s : Value} (h : FrB t w b F s) : w.heap[b]? = some (.cells (rowN 29 (frC F s)) t (0, 0)) := h
set_option maxHeartbeats 2000000 in
theorem faded_any (P : Nat → Int) (k : Nat) (w : World) (hP : Sml P) :
    Calls Try.prog 17 #[.agg (rowN 20 (blk P)), .int .i64 k] w fun e w' => e = .returned (.agg (rowN 20 (blk (fadeF P k)))) ∧ Old w w' := by
  have Hs16 : Hid ((Try.prog.info? 25).map (·.size) = some 16) := Lib.hid (by kernel_rfl)
  have Hs20 : Hid ((Try.prog.info? 28).map (·.size) = some 20) := Lib.hid (by kernel_rfl)
  have k0 : (0 : Int) ≤ k := by omega
  obtain ⟨z, hz⟩ : ∃ z : Array Value, z = #[.int .i64 0, .int .i64 0, .int .i64 0, .int .i64 0, .int .i64 0, .int .i64 0, .int .i64 0, .int .i64 0, .int .i64 0, .int .i64 0, .int .i64 0, .int .i64 0, .int .i64 0, .int .i64 0, .int .i64 0, .int .i64 0, .int .i64 0, .int .i64 0, .int .i64 0, .int .i64 0] := ⟨_, rfl⟩
  have hst := FdSt.start w 28 20 z P
  have H0 := Lib.hid hst
  have zs : Hid (z.size = 20) := Lib.hid (by rw [hz]; rfl)
  clear hst
  by_cases h4 : 4 < k
  · have hf : fadeF P k = fun _ => 0 := if_pos h4
    rw [hf, row20_zero, ← hz]
    have z1 : Hid (z.all (·.oneCell') = true) := Lib.hid (by rw [hz, ← row20_zero]; exact blk_one _ _)
    have Hz := Lib.hid hz
    have HR := Lib.hid H0.out.r
    have HD := Lib.hid (H0.out.row z)
    clear hz hf hP H0
    go_enter Try.func17, Try.ntmps17
    go_wp2_with (rw [← Hz.out]; with_reducible refine wpList_store_row rfl 28 _ _ rfl (w.heap.size + 1) z rfl rfl 28 _ HR.out (by rw [zs.out]; exact Hs20.out) rfl z1.out ?_)
    exact bodyPost_ret (results_cell_row rfl _ _ (w.heap.size + 1) 28 z (0, 0) _ rfl HD.out.1 Try.underlying28 rfl (by rw [zs.out]; exact Hs20.out)) rfl ⟨rfl, HD.out.2⟩
  · have hf : fadeF P k = cutTo P k 16 := if_neg h4
    rw [hf]
    have h4' : (k : Int) ≤ 4 := by omega
    have HP := Lib.hid hP
    have HC : Hid (∀ v w, -2147483648 ≤ v → v ≤ 2147483648 → Calls Try.prog 25 #[.int .i64 v, .int .i64 k] w fun e w' => e = .returned (.int .i64 (v.tdiv (pw k))) ∧ w = w') := Lib.hid fun v w a b => by
      have := Cut_any v k w k0 (by omega) (by omega) (by omega)
      rwa [show (k : Int).toNat = k from rfl] at this
    have Hz := Lib.hid hz
    have HB : Hid (∀ j, j < 16 → ((w.alloc (.cells (rowN 20 (blk P)) 28)).alloc (.cells z 28)).cell? ⟨w.heap.size, 0 + j, none⟩ = some (.int .i64 (P j))) := Lib.hid fun j hj => by rw [Nat.zero_add]; exact (H0.out.cell j (by omega)).1
    clear hz hf hP h4
    go_enter Try.func17, Try.ntmps17
    go_wp2_with (rw [← Hz.out]; with_reducible refine wpList_load_blk rfl 16 P 25 _ rfl w.heap.size 0 rfl _ HB.out Try.underlying25 rfl Hs16.out ?_)
    clear HB
    go_loopw [12] (fun i wr => ∃ j : Nat, j ≤ 16 ∧ i = .int .i64 j ∧ Hid (FdSt w 28 20 z (cutTo P k j) wr)) (fun i _ => 16 - (intOf i).toNat)
    case atStart => exact ⟨0, by omega, rfl, by rw [cutTo_zero]; exact H0⟩
    case round =>
      obtain ⟨j, hj, rfl, hs⟩ := hrel
      clear H0
      by_cases hlt : j < 16
      · have i1 : (0 : Int) ≤ j := by omega
        have i2 : (j : Int) < 16 := by omega
        have hat : ∀ w : World, (Instr.index 25 (.agg (rowN 16 (blk P))) (.int .i64 j)).run Try.prog w = .ok (.int .i64 (P j)) w := fun w => run_index_ints Try.underlying25 Try.underlying2 (fun _ => by kernel_rfl) P j hlt w
        obtain ⟨x0, x1⟩ := HP.out j hlt
        have HCj := Lib.hid (fun w => HC.out (P j) w x0 x1)
        have hn := hs.out.set j (by omega) ((P j).tdiv (pw k))
        rw [cutTo_succ] at hn
        have HN := Lib.hid hn
        obtain ⟨d0, d1⟩ := hs.out.cell j (by omega)
        clear hs hn HC HP x0 x1
        generalize (P j).tdiv (pw k) = y at *
        generalize P j = x at *
        go_wp2_with fail
        refine (HCj.out _).mono ?_
        rintro e w5 ⟨rfl, rfl⟩
        go_wp2_with fail
        go_roundw
        case rel => exact ⟨j + 1, by omega, by go_num, HN⟩
        case measure => simp [intOf]; omega
      · obtain rfl : j = 16 := by omega
        have HB := Lib.hid hs.out.b
        have HR := Lib.hid hs.out.r
        have HD := Lib.hid (hs.out.row (rowN 20 (blk (cutTo P k 16))))
        have H1 : Hid ((rowN 20 (blk (cutTo P k 16))).all (·.oneCell') = true) := Lib.hid (blk_one _ _)
        clear hs hlt hj HC HP
        obtain ⟨Z, hZ⟩ : ∃ Z, cutTo P k 16 = Z := ⟨_, rfl⟩
        rw [hZ] at HB HD H1
        have HZ := Lib.hid hZ
        clear hZ
        go_wp2_with (first | (with_reducible refine wpList_load_row rfl 28 _ rfl w.heap.size rfl 28 (rowN 20 (blk Z)) (0, 0) _ HB.out Try.underlying28 rfl (by rw [rowN_size]; exact Hs20.out) ?_) | (with_reducible refine wpList_store_row rfl 28 _ _ rfl (w.heap.size + 1) (rowN 20 (blk Z)) rfl rfl 28 _ HR.out (by rw [rowN_size]; exact Hs20.out) (by rw [rowN_size]; exact zs.out) H1.out ?_))
        exact bodyPost_ret (results_cell_row rfl _ _ (w.heap.size + 1) 28 (rowN 20 (blk Z)) (0, 0) _ rfl HD.out.1 Try.underlying28 rfl (by rw [rowN_size]; exact Hs20.out)) rfl ⟨by rw [HZ.out], HD.out.2⟩
theorem piece_built (S G : Nat → Int) : Try.prog.built 28 [(0, .agg (rowN 16 (blk S))), (1, .agg (rowN 4 (blk fun j => G (0 + j))))] = some (rowN 20 (blk fun k => if k < 16 then S k else G (k - 16))) := by
  rw [show (fun j => G (0 + j)) = G from funext fun j => by rw [Nat.zero_add]]
  kernel_rfl
set_option maxHeartbeats 2000000 in
theorem POf_any (F : Nat → Int) (p : Option Addr) (n cap : Nat) (T : Nat → Int) (w : World) (hT : SlF 2 w p n T) (hn : n ≤ cap) (hc : cap ≤ maxLen) (hF : FrP F n T) :
    Calls Try.prog 13 #[.agg (rowN 29 (frC F (.slice p n cap)))] w fun e w' => e = .returned (.agg (rowN 20 (blk (pcF F n T)))) ∧ Old w w' := by
  have Hs29 : Hid ((Try.prog.info? 33).map (·.size) = some 29) := Lib.hid (by kernel_rfl)
  have Hs20 : Hid ((Try.prog.info? 28).map (·.size) = some 20) := Lib.hid (by kernel_rfl)
  have Hs4 : Hid ((Try.prog.info? 26).map (·.size) = some 4) := Lib.hid (by kernel_rfl)
  obtain ⟨z, hz⟩ : ∃ z : Array Value, z = #[.int .i64 0, .int .i64 0, .int .i64 0, .int .i64 0, .int .i64 0, .int .i64 0, .int .i64 0, .int .i64 0, .int .i64 0, .int .i64 0, .int .i64 0, .int .i64 0, .int .i64 0, .int .i64 0, .int .i64 0, .int .i64 0, .int .i64 0, .int .i64 0, .int .i64 0, .int .i64 0] := ⟨_, rfl⟩
  obtain ⟨W0, hW0⟩ : ∃ W0, W0 = ((w.alloc (.cells (rowN 29 (frC F (.slice p n cap))) 33)).alloc (.cells z 28)) := ⟨_, rfl⟩
  have zs : Hid (z.size = 20) := Lib.hid (by rw [hz]; rfl)
  have HA : Hid (FrB 33 W0 w.heap.size F (.slice p n cap)) := Lib.hid (by rw [hW0]; exact heap_alloc2_old w _ _)
  have HR : Hid (W0.heap[w.heap.size + 1]? = some (.cells z 28 (0, 0))) := Lib.hid (by rw [hW0]; exact heap_alloc2_new w _ _)
  have HO : Hid (Old w W0) := Lib.hid (by rw [hW0]; exact (Old.alloc w _).alloc' _)
  have HSp := Lib.hid (fun (W : World) (h : Old w W) => Spectrum_any F p n cap T W (hT.old h) hn hc hF)
  have HBd := Lib.hid (piece_built (specF F n T) F)
  have H1 : Hid ((rowN 20 (blk (pcF F n T))).all (·.oneCell') = true) := Lib.hid (blk_one _ _)
  have Hz := Lib.hid hz
  have HW0 := Lib.hid hW0
  clear hz hW0 hT hn hc hF
  go_enter Try.func13, Try.ntmps13
  go_wp2_with fail
  rw [← Hz.out, ← HW0.out]
  refine wp_region_held_drew (S := (fun w' => FrB 33 w' w.heap.size F (.slice p n cap))) (by kernel_rfl) ?_ (fun hHeld => ?_)
  · (try dsimp only); exact HA.out.old ((Old.refl W0).drew)
  refine wpAnyH_take (i := 2) (oi := ⟨some _, _, _, _, _, _⟩) (v := ?_) rfl (by kernel_rfl) (by kernel_rfl) (by kernel_rfl) (fun _ _ _ h => h) (Or.inl ⟨by kernel_rfl, ?_⟩) (by assumption) ?_; rotate_left; (intro w hSw; (try dsimp only at hSw); go_simp; try with_reducible rfl); try simp only [Act.put, List.setIfInBounds_toArray, List.set_cons_zero, List.set_cons_succ]
  refine wpAnyH_take (i := 0) (oi := ⟨some _, _, _, _, _, _⟩) (v := .agg (rowN 29 (frC F (.slice p n cap)))) rfl (by kernel_rfl) (by kernel_rfl) (by kernel_rfl) (fun _ _ _ h => h) (yieldsIf_load_row (by kernel_rfl) 33 (.tmp 1) rfl w.heap.size rfl 33 (rowN 29 (frC F (.slice p n cap))) (0, 0) _ (fun _ h => FrB.heap h) Try.underlying33 rfl (by rw [rowN_size]; exact Hs29.out)) (by assumption) ?_; try simp only [Act.put, List.setIfInBounds_toArray, List.set_cons_zero, List.set_cons_succ]
  refine wpAnyH_take (i := 3) (oi := ⟨some _, _, _, _, _, _⟩) (v := .agg (rowN 4 (blk fun j => F (0 + j)))) rfl (by kernel_rfl) (by kernel_rfl) (by kernel_rfl) (fun _ _ _ h => h) (yieldsIf_load_blk 4 (fun j => F (0 + j)) (by kernel_rfl) 26 (.tmp 5) rfl w.heap.size 0 rfl _ (fun _ h => FrB.part h 0 4 (by omega)) Try.underlying26 rfl Hs4.out) (by assumption) ?_; try simp only [Act.put, List.setIfInBounds_toArray, List.set_cons_zero, List.set_cons_succ]
  refine wpAnyH_ready (rs := [1]) (by kernel_rfl) (by simp) ?_
  refine AllReadyH.cons (o := ⟨_, _, _, _, _, _⟩) (by rfl) ?_ AllReadyH.nil
  intro K hK
  go_simp
  refine (HSp.out _ (HO.out.trans (Old.refl W0).drew)).mono ?_
  rintro e V1 ⟨rfl, o1⟩
  have o1' : Old W0 V1 := ((Old.refl W0).drew).trans o1
  go_wp2_with fail
  refine hK.out _ _ ?_ (fun hHeld => ?_)
  · (try dsimp only); exact HA.out.old o1'
  clear hK K
  try simp only [Act.put, List.setIfInBounds_toArray, List.set_cons_zero, List.set_cons_succ]
  refine wpAnyH_take (i := 4) (oi := ⟨some _, _, _, _, _, _⟩) (v := .agg (rowN 20 (blk (pcF F n T)))) rfl (by kernel_rfl) (by kernel_rfl) (by kernel_rfl) (fun _ _ _ h => h) (yieldsIf_build (by kernel_rfl) 28 _ rfl [(0, .agg (rowN 16 (blk (specF F n T)))), (1, .agg (rowN 4 (blk fun j => F (0 + j))))] _ (by kernel_rfl) HBd.out) (by assumption) ?_; try simp only [Act.put, List.setIfInBounds_toArray, List.set_cons_zero, List.set_cons_succ]
  refine wpAnyH_ready (rs := [5]) (by kernel_rfl) (by simp) ?_
  refine AllReadyH.cons (o := ⟨_, _, _, _, _, _⟩) (by rfl) ?_ AllReadyH.nil
  intro K hK
  rw [if_pos (by kernel_rfl)]
  have HR1 : Hid (V1.heap[w.heap.size + 1]? = some (.cells z 28 (0, 0))) := Lib.hid ((o1'.block _ (lt_of_block HR.out)).trans HR.out)
  have HD := Lib.hid (row_ret HR1.out (HO.out.trans o1') (Nat.le_succ _) (rowN 20 (blk (pcF F n T))))
  with_reducible refine wp_store_row 28 _ _ rfl (w.heap.size + 1) (rowN 20 (blk (pcF F n T))) rfl rfl 28 _ HR1.out (by rw [rowN_size]; exact Hs20.out) (by rw [rowN_size]; exact zs.out) H1.out ?_
  refine hK.out _ _ ?_ (fun hHeld => ?_)
  · (try dsimp only); exact (setRow_other _ _ _ _ (by omega)).trans (HA.out.old o1').heap
  clear hK K
  refine wpAnyH_done (by kernel_rfl) ?_ _
  go_wp2_with fail
  exact bodyPost_ret (results_cell_row rfl _ _ (w.heap.size + 1) 28 (rowN 20 (blk (pcF F n T))) (0, 0) _ rfl HD.out.1 Try.underlying28 rfl (by rw [rowN_size]; exact Hs20.out)) rfl ⟨rfl, HD.out.2⟩
end Go.Proofs.Ytlaoamlmpdbmmaa

