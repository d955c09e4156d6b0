/- Package wave's contracts on samples, second part: Meta, what is beyond bounds, Check. (by wip/tools/exp.py of XWaveC.src) -/
import Derived.Test.YtmdninfmidmmhaaWaveB
import Derived.Test.YtmdninfmidmmhaaRowK
import Derived.Deep.RegionHeld
namespace Go.Proofs.Ytmdninfmidmmhaa
set_option linter.unusedVariables false
set_option maxRecDepth 100000
set_option linter.unusedSimpArgs false
open Go.RowKit Go.ChangeShapes Go.WideShapes

def metaC (s : ByteArray) (n r c : Int) (lp : Bool) (a b : Int) : Array Value := #[.string s, .int .i64 n, .int .i64 r, .int .i64 c, .bool lp, .int .i64 a, .int .i64 b, .int .i64 0, .int .i64 0]
theorem meta_built (s : ByteArray) (n r c : Int) (lp : Bool) (a b : Int) : Try.prog.built 29 [(0, .string s), (1, .int .i64 n), (2, .int .i64 r), (3, .int .i64 c), (4, .bool lp), (5, .int .i64 a), (6, .int .i64 b)] = some (metaC s n r c lp a b) := by kernel_rfl
theorem SmB.cellF {w : World} {g : Nat} {S : Smp} (h : SmB w g S) : w.heap[g]? = some (.cells S.cells 24 (0, 0)) := h
theorem Smp.size (S : Smp) : S.cells.size = 6 := rfl
theorem metaC_size (s : ByteArray) (n r c : Int) (lp : Bool) (a b : Int) : (metaC s n r c lp a b).size = 9 := rfl
theorem metaC_one (s : ByteArray) (n r c : Int) (lp : Bool) (a b : Int) : (metaC s n r c lp a b).all (·.oneCell') = true := by kernel_rfl
set_option maxHeartbeats 2000000 in
theorem Meta_any (S : Smp) (w : World) (hs : SmOk w S) :
    Calls Try.prog 8 #[S.val] w fun e w' => e = .returned (.agg (metaC S.s S.len S.r S.n S.lp S.a S.b)) ∧ Old w w' := by
  have Hs6 : Hid ((Try.prog.info? 24).map (·.size) = some 6) := Lib.hid (by kernel_rfl)
  have Hs9 : Hid ((Try.prog.info? 29).map (·.size) = some 9) := Lib.hid (by kernel_rfl)
  obtain ⟨W0, hW0⟩ : ∃ W0, W0 = ((w.alloc (.cells S.cells 24)).alloc (.cells (metaC ⟨#[]⟩ 0 0 0 false 0 0) 29)) := ⟨_, rfl⟩
  have ho : Old w W0 := by rw [hW0]; exact (Old.alloc w _).alloc' _
  have hb : SmB W0 w.heap.size S := by rw [hW0]; exact (SmB.new w S).old (Old.alloc _ _)
  have hr : W0.heap[w.heap.size + 1]? = some (.cells (metaC ⟨#[]⟩ 0 0 0 false 0 0) 29 (0, 0)) := by rw [hW0]; exact heap_alloc2_new w _ _
  have HO := Lib.hid ho
  have HB := Lib.hid hb
  have HR := Lib.hid hr
  unfold metaC at hW0
  have HW := Lib.hid hW0
  have HL := Lib.hid (fun W (k : Old w W) => Length_any S W (hs.old k))
  have HBd := Lib.hid (meta_built S.s S.len S.r S.n S.lp S.a S.b)
  have HK : Hid (∀ W, Old W0 W → (W.heap[w.heap.size]? = some (.cells S.cells 24 (0, 0)) ∧ W.cell? ⟨w.heap.size, 0, none⟩ = some (.string S.s) ∧ W.cell? ⟨w.heap.size, 1, none⟩ = some (.int .i64 S.r) ∧ W.cell? ⟨w.heap.size, 2, none⟩ = some (.bool S.lp) ∧ W.cell? ⟨w.heap.size, 3, none⟩ = some (.int .i64 S.a) ∧ W.cell? ⟨w.heap.size, 4, none⟩ = some (.int .i64 S.b) ∧ W.cell? ⟨w.heap.size, 5, none⟩ = some (.slice S.p S.n S.c))) := Lib.hid fun W k => ⟨hb.old k, (hb.old k).at⟩
  obtain ⟨M, hM⟩ : ∃ M, M = metaC S.s S.len S.r S.n S.lp S.a S.b := ⟨_, rfl⟩
  have H9 : Hid (M.all (·.oneCell') = true) := Lib.hid (by rw [hM]; exact metaC_one _ _ _ _ _ _ _)
  have HM9 : Hid (M.size = 9) := Lib.hid (by rw [hM]; rfl)
  rw [← hM] at HBd ⊢
  unfold Smp.val
  clear hM ho hb hr hW0 hs
  go_enter Try.func8, Try.ntmps8
  go_wp2_with fail
  rw [← HW.out]
  clear HW
  refine wp_region_held_drew (S := (fun W => W.heap[w.heap.size]? = some (.cells S.cells 24 (0, 0)) ∧ W.cell? ⟨w.heap.size, 0, none⟩ = some (.string S.s) ∧ W.cell? ⟨w.heap.size, 1, none⟩ = some (.int .i64 S.r) ∧ W.cell? ⟨w.heap.size, 2, none⟩ = some (.bool S.lp) ∧ W.cell? ⟨w.heap.size, 3, none⟩ = some (.int .i64 S.a) ∧ W.cell? ⟨w.heap.size, 4, none⟩ = some (.int .i64 S.b) ∧ W.cell? ⟨w.heap.size, 5, none⟩ = some (.slice S.p S.n S.c))) (by kernel_rfl) ?_ (fun hHeld => ?_)
  · (try dsimp only); exact HK.out _ ((Old.refl W0).drew)
  refine wpAnyH_take (i := 0) (oi := ⟨some _, _, _, _, _, _⟩) (v := ?_) rfl (by kernel_rfl) (by kernel_rfl) (by kernel_rfl) (fun _ _ _ h => h) (Or.inl ⟨by kernel_rfl, ?_⟩) (by assumption) ?_; rotate_left; (intro w hSw; (try dsimp only at hSw); go_simp; try with_reducible rfl); try simp only [Act.put, List.setIfInBounds_toArray, List.set_cons_zero, List.set_cons_succ]
  refine wpAnyH_take (i := 1) (oi := ⟨some _, _, _, _, _, _⟩) (v := ?_) rfl (by kernel_rfl) (by kernel_rfl) (by kernel_rfl) (fun _ _ _ h => h) (Or.inl ⟨by kernel_rfl, ?_⟩) (by assumption) ?_; rotate_left; (intro w hSw; (try dsimp only at hSw); go_simp; try with_reducible rfl); try simp only [Act.put, List.setIfInBounds_toArray, List.set_cons_zero, List.set_cons_succ]
  refine wpAnyH_take (i := 2) (oi := ⟨some _, _, _, _, _, _⟩) (v := .agg S.cells) rfl (by kernel_rfl) (by kernel_rfl) (by kernel_rfl) (fun _ _ _ h => h) (yieldsIf_load_row (by kernel_rfl) 24 (.tmp 1) rfl w.heap.size rfl 24 S.cells (0, 0) _ (fun _ h => h.1) Try.underlying24 rfl (by rw [S.size]; exact Hs6.out)) (by assumption) ?_; try simp only [Act.put, List.setIfInBounds_toArray, List.set_cons_zero, List.set_cons_succ]
  refine wpAnyH_take (i := 4) (oi := ⟨some _, _, _, _, _, _⟩) (v := ?_) rfl (by kernel_rfl) (by kernel_rfl) (by kernel_rfl) (fun _ _ _ h => h) (Or.inl ⟨by kernel_rfl, ?_⟩) (by assumption) ?_; rotate_left; (intro w hSw; (try dsimp only at hSw); go_simp; try with_reducible rfl); try simp only [Act.put, List.setIfInBounds_toArray, List.set_cons_zero, List.set_cons_succ]
  refine wpAnyH_take (i := 5) (oi := ⟨some _, _, _, _, _, _⟩) (v := ?_) rfl (by kernel_rfl) (by kernel_rfl) (by kernel_rfl) (fun _ _ _ h => h) (Or.inl ⟨by kernel_rfl, ?_⟩) (by assumption) ?_; rotate_left; (intro w hSw; (try dsimp only at hSw); go_simp; try with_reducible rfl); try simp only [Act.put, List.setIfInBounds_toArray, List.set_cons_zero, List.set_cons_succ]
  refine wpAnyH_take (i := 6) (oi := ⟨some _, _, _, _, _, _⟩) (v := ?_) rfl (by kernel_rfl) (by kernel_rfl) (by kernel_rfl) (fun _ _ _ h => h) (Or.inl ⟨by kernel_rfl, ?_⟩) (by assumption) ?_; rotate_left; (intro w hSw; (try dsimp only at hSw); go_simp; try with_reducible rfl); try simp only [Act.put, List.setIfInBounds_toArray, List.set_cons_zero, List.set_cons_succ]
  refine wpAnyH_take (i := 7) (oi := ⟨some _, _, _, _, _, _⟩) (v := ?_) rfl (by kernel_rfl) (by kernel_rfl) (by kernel_rfl) (fun _ _ _ h => h) (Or.inl ⟨by kernel_rfl, ?_⟩) (by assumption) ?_; rotate_left; (intro w hSw; (try dsimp only at hSw); go_simp; try with_reducible rfl); try simp only [Act.put, List.setIfInBounds_toArray, List.set_cons_zero, List.set_cons_succ]
  refine wpAnyH_take (i := 8) (oi := ⟨some _, _, _, _, _, _⟩) (v := ?_) rfl (by kernel_rfl) (by kernel_rfl) (by kernel_rfl) (fun _ _ _ h => h) (Or.inl ⟨by kernel_rfl, ?_⟩) (by assumption) ?_; rotate_left; (intro w hSw; (try dsimp only at hSw); go_simp; try with_reducible rfl); try simp only [Act.put, List.setIfInBounds_toArray, List.set_cons_zero, List.set_cons_succ]
  refine wpAnyH_take (i := 9) (oi := ⟨some _, _, _, _, _, _⟩) (v := ?_) rfl (by kernel_rfl) (by kernel_rfl) (by kernel_rfl) (fun _ _ _ h => h) (Or.inl ⟨by kernel_rfl, ?_⟩) (by assumption) ?_; rotate_left; (intro w hSw; (try dsimp only at hSw); go_simp; try with_reducible rfl); try simp only [Act.put, List.setIfInBounds_toArray, List.set_cons_zero, List.set_cons_succ]
  refine wpAnyH_take (i := 10) (oi := ⟨some _, _, _, _, _, _⟩) (v := ?_) rfl (by kernel_rfl) (by kernel_rfl) (by kernel_rfl) (fun _ _ _ h => h) (Or.inl ⟨by kernel_rfl, ?_⟩) (by assumption) ?_; rotate_left; (intro w hSw; (try dsimp only at hSw); go_simp; try with_reducible rfl); try simp only [Act.put, List.setIfInBounds_toArray, List.set_cons_zero, List.set_cons_succ]
  refine wpAnyH_take (i := 11) (oi := ⟨some _, _, _, _, _, _⟩) (v := ?_) rfl (by kernel_rfl) (by kernel_rfl) (by kernel_rfl) (fun _ _ _ h => h) (Or.inl ⟨by kernel_rfl, ?_⟩) (by assumption) ?_; rotate_left; (intro w hSw; (try dsimp only at hSw); go_simp; try with_reducible rfl); try simp only [Act.put, List.setIfInBounds_toArray, List.set_cons_zero, List.set_cons_succ]
  refine wpAnyH_take (i := 12) (oi := ⟨some _, _, _, _, _, _⟩) (v := ?_) rfl (by kernel_rfl) (by kernel_rfl) (by kernel_rfl) (fun _ _ _ h => h) (Or.inl ⟨by kernel_rfl, ?_⟩) (by assumption) ?_; rotate_left; (intro w hSw; (try dsimp only at hSw); go_simp; try with_reducible rfl); try simp only [Act.put, List.setIfInBounds_toArray, List.set_cons_zero, List.set_cons_succ]
  refine wpAnyH_take (i := 13) (oi := ⟨some _, _, _, _, _, _⟩) (v := ?_) rfl (by kernel_rfl) (by kernel_rfl) (by kernel_rfl) (fun _ _ _ h => h) (Or.inl ⟨by kernel_rfl, ?_⟩) (by assumption) ?_; rotate_left; (intro w hSw; (try dsimp only at hSw); go_simp; try with_reducible rfl); try simp only [Act.put, List.setIfInBounds_toArray, List.set_cons_zero, List.set_cons_succ]
  refine wpAnyH_take (i := 14) (oi := ⟨some _, _, _, _, _, _⟩) (v := ?_) rfl (by kernel_rfl) (by kernel_rfl) (by kernel_rfl) (fun _ _ _ h => h) (Or.inl ⟨by kernel_rfl, ?_⟩) (by assumption) ?_; rotate_left; (intro w hSw; (try dsimp only at hSw); go_simp; try with_reducible rfl); try simp only [Act.put, List.setIfInBounds_toArray, List.set_cons_zero, List.set_cons_succ]
  refine wpAnyH_ready (rs := [3]) (by kernel_rfl) (by simp) ?_
  refine AllReadyH.cons (o := ⟨_, _, _, _, _, _⟩) (by rfl) ?_ AllReadyH.nil
  intro K hK
  go_simp
  refine (HL.out _ (HO.out.drew)).mono ?_
  rintro e V1 ⟨rfl, o1'⟩
  have o1 := ((Old.refl W0).drew).trans o1'
  clear o1'
  have HK1 := Lib.hid (HK.out _ o1)
  have HO1 := Lib.hid (HO.out.trans o1)
  have HR1 := Lib.hid ((o1.block _ (lt_of_block HR.out)).trans HR.out)
  clear HO HR HK HL o1
  go_wp2_with fail
  refine hK.out _ _ ?_ (fun hHeld => ?_)
  · (try dsimp only); exact HK1.out
  clear hK K
  try simp only [Act.put, List.setIfInBounds_toArray, List.set_cons_zero, List.set_cons_succ]
  refine wpAnyH_take (i := 15) (oi := ⟨some _, _, _, _, _, _⟩) (v := .agg M) rfl (by kernel_rfl) (by kernel_rfl) (by kernel_rfl) (fun _ _ _ h => h) (yieldsIf_build (by kernel_rfl) 29 _ rfl [(0, .string S.s), (1, .int .i64 S.len), (2, .int .i64 S.r), (3, .int .i64 S.n), (4, .bool S.lp), (5, .int .i64 S.a), (6, .int .i64 S.b)] _ (by kernel_rfl) HBd.out) (by assumption) ?_; try simp only [Act.put, List.setIfInBounds_toArray, List.set_cons_zero, List.set_cons_succ]
  have hr := row_ret HR1.out HO1.out (by omega) M
  have HRt := Lib.hid hr
  have HK2 : Hid ((V1.setRow (w.heap.size + 1) M).heap[w.heap.size]? = some (.cells S.cells 24 (0, 0)) ∧ (V1.setRow (w.heap.size + 1) M).cell? ⟨w.heap.size, 0, none⟩ = some (.string S.s) ∧ (V1.setRow (w.heap.size + 1) M).cell? ⟨w.heap.size, 1, none⟩ = some (.int .i64 S.r) ∧ (V1.setRow (w.heap.size + 1) M).cell? ⟨w.heap.size, 2, none⟩ = some (.bool S.lp) ∧ (V1.setRow (w.heap.size + 1) M).cell? ⟨w.heap.size, 3, none⟩ = some (.int .i64 S.a) ∧ (V1.setRow (w.heap.size + 1) M).cell? ⟨w.heap.size, 4, none⟩ = some (.int .i64 S.b) ∧ (V1.setRow (w.heap.size + 1) M).cell? ⟨w.heap.size, 5, none⟩ = some (.slice S.p S.n S.c)) := Lib.hid (by
    have hb : SmB (V1.setRow (w.heap.size + 1) M) w.heap.size S := (setRow_other _ _ _ _ (by omega)).trans HK1.out.1
    exact ⟨hb, hb.at⟩)
  clear hr
  refine wpAnyH_ready (rs := [16]) (by kernel_rfl) (by simp) ?_
  refine AllReadyH.cons (o := ⟨_, _, _, _, _, _⟩) (by rfl) ?_ AllReadyH.nil
  intro K hK
  rw [if_pos (by kernel_rfl)]
  with_reducible refine wp_store_row 29 _ _ rfl (w.heap.size + 1) M rfl rfl 29 _ HR1.out (by rw [HM9.out]; exact Hs9.out) (by rw [HM9.out, metaC_size]) H9.out ?_
  refine hK.out _ _ ?_ (fun hHeld => ?_)
  · (try dsimp only); exact HK2.out
  clear hK K
  try simp only [Act.put, List.setIfInBounds_toArray, List.set_cons_zero, List.set_cons_succ]
  refine wpAnyH_done (by kernel_rfl) ?_ _
  go_wp2_with fail
  exact bodyPost_ret (results_cell_row rfl _ _ (w.heap.size + 1) 29 M (0, 0) _ rfl HRt.out.1 Try.underlying29 rfl (by rw [HM9.out]; exact Hs9.out)) rfl ⟨rfl, HRt.out.2⟩
/-- Beyond a sample's bounds. -/
def beyB (v : Int) : Bool := decide (v < -32768 ∨ 32767 < v)
theorem farP_iff (n : Nat) (F : Nat → Int) : farP n F ↔ ∃ i, i < n ∧ beyB (F i) = true := by unfold farP beyB; simp only [decide_eq_true_eq]
/-- A row of integers behind a slice, to be read. -/
def RdRow (w : World) (p : Option Addr) (n : Nat) (X : Nat → Int) : Prop := 0 < n → ∃ g o, p = some ⟨g, o, none⟩ ∧ g < w.heap.size ∧ ∀ j, j < n → w.cell? ⟨g, o + j, none⟩ = some (.int .i64 (X j))
theorem RdRow.old {w w' : World} {p : Option Addr} {n : Nat} {X : Nat → Int} (h : RdRow w p n X) (k : Old w w') : RdRow w' p n X := fun hn => by
  obtain ⟨g, o, h1, h2, h3⟩ := h hn
  exact ⟨g, o, h1, Nat.lt_of_lt_of_le h2 k.size, fun j hj => (k.cell (a := ⟨g, o + j, none⟩) h2).trans (h3 j hj)⟩
theorem isBeyond_any (v : Int) (w : World) : Calls Try.prog 20 #[.int .i64 v] w fun e w' => e = .returned (.bool (beyB v)) ∧ w = w' := by
  have HE := Lib.hid (show (decide (v < -32768) || decide (32767 < v)) = beyB v by unfold beyB; simp)
  go_enter Try.func20, Try.ntmps20
  go_wp2_with fail
  all_goals
    go_ret
    refine ⟨ret_bool (Eq.trans ?_ HE.out), rfl⟩
    first | (have c1 : decide (v < -32768) = true := decide_eq_true (by assumption); simp [c1]) | (have c1 : decide (v < -32768) = false := decide_eq_false (by omega); simp [c1])
set_option maxHeartbeats 1000000 in
theorem IndexBeyond_any (p : Option Addr) (n cap : Nat) (X : Nat → Int) (w : World) (h : RdRow w p n X) (hn : n ≤ 9223372036854775807) :
    Calls Try.prog 25 #[.slice p n cap, .func (.func 20) #[] #[]] w fun e w' => (∃ i : Int, e = .returned (.int .i64 i) ∧ ((0 ≤ i ∧ farP n X) ∨ (i = -1 ∧ ¬ farP n X))) ∧ w = w' := by
  have HB := Lib.hid (fun v w => isBeyond_any v w)
  have HP := Lib.hid (farP_iff n X)
  have H := Lib.hid h
  clear h
  go_enter Try.func25, Try.ntmps25
  go_wp2_with fail
  go_loop [8] (fun i => ∃ k : Nat, k ≤ n ∧ i = .int .i64 k ∧ Hid (∀ j, j < k → beyB (X j) = false)) (fun i => n - (intOf i).toNat)
  case atStart => exact ⟨0, by omega, rfl, Lib.hid fun j hj => by omega⟩
  case round =>
    obtain ⟨k, hk, rfl, HJ⟩ := hrel
    by_cases hkn : k < n
    · obtain ⟨g, o, rfl, hg, hc⟩ := H.out (by omega)
      have ck := hc k hkn
      clear hc hg
      go_wp2_with fail
      refine (HB.out _ _).mono ?_
      rintro e w1 ⟨rfl, rfl⟩
      cases hb : beyB (X k)
      · have HJ2 := Lib.hid (show ∀ j, j < k + 1 → beyB (X j) = false from fun j hj => by
          by_cases e : j = k
          · subst e; exact hb
          · exact HJ.out j (by omega))
        clear HJ hb ck
        go_wp2_with fail
        go_round
        case rel => exact ⟨k + 1, by omega, by go_num, HJ2⟩
        case measure => simp [intOf]; omega
      · have hf := HP.out.2 ⟨k, hkn, hb⟩
        have HF := Lib.hid hf
        clear HJ hb ck hf
        go_wp2_with fail
        go_ret
        exact ⟨⟨k, rfl, .inl ⟨by omega, HF.out⟩⟩, rfl⟩
    · have hf : ¬ farP n X := fun h => by
        obtain ⟨j, h1, h2⟩ := HP.out.1 h
        rw [HJ.out j (by omega)] at h2
        cases h2
      have HF := Lib.hid hf
      clear HJ hf
      go_wp2_with fail
      go_ret
      exact ⟨⟨-1, rfl, .inr ⟨rfl, HF.out⟩⟩, rfl⟩
theorem ContainsBeyond_any (p : Option Addr) (n cap : Nat) (X : Nat → Int) (w : World) (h : RdRow w p n X) (hn : n ≤ 9223372036854775807) :
    Calls Try.prog 19 #[.slice p n cap, .func (.func 20) #[] #[]] w fun e w' => (∃ b, e = .returned (.bool b) ∧ (b = true ↔ farP n X)) ∧ w = w' := by
  have HI := Lib.hid (IndexBeyond_any p n cap X w h hn)
  clear h
  go_enter Try.func19, Try.ntmps19
  go_wp2_with fail
  refine HI.out.mono ?_
  rintro e w1 ⟨⟨i, rfl, hi⟩, rfl⟩
  have H := Lib.hid hi
  rcases hi with ⟨hi, hf⟩ | ⟨hi, hf⟩
  · have d : decide (0 ≤ i) = true := decide_eq_true hi
    have Hhi := Lib.hid hi
    clear hi hf HI
    go_wp2_with fail
    go_ret
    have hi := Hhi.out
    refine ⟨⟨true, rfl, ?_⟩, rfl⟩
    rcases H.out with h | h
    · simp [h.2]
    · omega
  · subst hi
    clear hf HI
    go_wp2_with fail
    go_ret
    refine ⟨⟨false, rfl, ?_⟩, rfl⟩
    rcases H.out with h | h
    · omega
    · simp [h.2]
end Go.Proofs.Ytmdninfmidmmhaa

