/- WaveChecks: which samples may be, and what a directory says of them. -/
import Derived.Test.YtmdninfmidmmhaaRows
import Derived.Test.YtmdninfmidmmhaaAwake
import Derived.Test.YtmdninfmidmmhaaFewS
import Derived.Test.YtmdninfmidmmhaaSampArg
import Derived.Deep.RegionHeld
namespace Go.Proofs.Ytmdninfmidmmhaa.waveChecks
open Go.ChangeShapes Go.WideShapes Go.ChangeAt Go.RowKit
set_option linter.unusedVariables false
set_option linter.unusedSimpArgs false

theorem meta_neq (w : World) (s : ByteArray) (n r c : Int) (lp : Bool) (a b : Int) : (binOp .neq 29 (.agg (metaC s n r c lp a b)) (.agg (metaC s n r c lp a b))).run Try.prog w = .ok (.bool false) w := by
  unfold metaC
  rw [run_neq_struct, run_equalIn_agg w 9999 29 _ _ (by kernel_rfl) (by kernel_rfl)]
  have h1 := fun (w : World) (a b : Int) => run_equalIn_int (P := Try.prog) w 9998 3 .i64 .i64 a b Try.underlying3
  have h2 := fun (w : World) (a b : Bool) => run_equalIn_bool (P := Try.prog) w 9998 4 a b Try.underlying4
  have h3 := fun (w : World) (a b : ByteArray) => run_equalIn_string (P := Try.prog) w 9998 9 a b Try.underlying9
  have hfs : (Try.prog.fieldsOf 29).toList = [{ name := "Name", type := 9, offset := 0, embedded := false, tag := "", pkgPath := "", byteOffset := 0 }, { name := "Length", type := 3, offset := 1, embedded := false, tag := "", pkgPath := "", byteOffset := 16 }, { name := "Rate", type := 3, offset := 2, embedded := false, tag := "", pkgPath := "", byteOffset := 24 }, { name := "Channels", type := 3, offset := 3, embedded := false, tag := "", pkgPath := "", byteOffset := 32 }, { name := "Loop", type := 4, offset := 4, embedded := false, tag := "", pkgPath := "", byteOffset := 40 }, { name := "LoopStart", type := 3, offset := 5, embedded := false, tag := "", pkgPath := "", byteOffset := 48 }, { name := "LoopEnd", type := 3, offset := 6, embedded := false, tag := "", pkgPath := "", byteOffset := 56 }, { name := "Sums", type := 3, offset := 7, embedded := false, tag := "", pkgPath := "", byteOffset := 64 }, { name := "First", type := 3, offset := 8, embedded := false, tag := "", pkgPath := "", byteOffset := 72 }] := by kernel_rfl
  rw [hfs]
  simp [Op.eqFields, part, isAgg, run_underlying Try.underlying3, run_underlying Try.underlying4, run_underlying Try.underlying9, h1, h2, h3, sizeOf]
theorem yieldsIf_neq_agg {P : Program} {ops : Array Oper} {S : World → Prop} {op : Oper} {a : Act} (hw : Region.wanted op (yielded ops a.tmps) = true) (t u : TypeId) (x y : Operand) (ho : op.op = .binOp .neq t x y u) (M : Array Value) (hx : a.eval x = .agg M) (hy : a.eval y = .agg M)
    (hq : P.eqGuardType P.depth t = false) (h : ∀ w, (binOp .neq t (.agg M) (.agg M)).run P w = .ok (.bool false) w) : YieldsIf P ops S op (.bool false) a :=
  .inl ⟨hw, fun w _ => by
    unfold execOp
    simp [ho, hx, hy, eqGuard, h, hq]⟩
/-- The law's boxes. -/
structure WcSt (b0 : Nat) (S : Smp) (M : Array Value) (b4 b6 : Nat) (w : World) : Prop where
  b : w.heap[b0]? = some (.cells S.cells 24 (0, 0))
  s : w.cell? ⟨b0, 0, none⟩ = some (.string S.s)
  m4 : w.heap[b4]? = some (.cells M 29 (0, 0))
  m6 : w.heap[b6]? = some (.cells M 29 (0, 0))
theorem WcSt.old {b0 b4 b6 : Nat} {S : Smp} {M : Array Value} {w w' : World} (h : WcSt b0 S M b4 b6 w) (k : Old w w') : WcSt b0 S M b4 b6 w' := by
  have hb : SmB w' b0 S := (k.block _ (lt_of_block h.b)).trans h.b
  exact ⟨hb, hb.at.1, (k.block _ (lt_of_block h.m4)).trans h.m4, (k.block _ (lt_of_block h.m6)).trans h.m6⟩
set_option maxRecDepth 100000 in
set_option maxHeartbeats 8000000 in
theorem walk (S : Smp) (w : World) (hs : SmOk w S) :
    Calls Try.prog 3 #[S.val] w fun e w' => e = .returned (.bool true) ∧ Old w w' := by
  have Hs6 : Hid ((Try.prog.info? 24).map (·.size) = some 6) := Lib.hid (by kernel_rfl)
  have Hs9 : Hid ((Try.prog.info? 29).map (·.size) = some 9) := Lib.hid (by kernel_rfl)
  have hq := Few_any S (w.alloc (.cells S.cells 24)) (hs.old (Old.alloc _ _))
  have HF := Lib.hid hq
  have HB := Lib.hid (SmB.new w S)
  have HO := Lib.hid (Old.alloc w (.cells S.cells 24))
  obtain ⟨c0, c1, c2, c3, c4, c5⟩ := (SmB.new w S).at
  have HOK := Lib.hid hs
  clear hs hq
  unfold Smp.val
  go_enter Try.func3, Try.ntmps3
  go_wp2_with fail
  refine HF.out.mono ?_
  rintro e w1 ⟨S', rfl, hok, hfew, ho, hp, hQ, hn, hM⟩
  clear c0 c1 c2 c3 c4 c5 HF
  have hb1 : SmB w1 w.heap.size S := HB.out.old ho
  have hsz : (w.alloc (.cells S.cells 24)).heap.size = w.heap.size + 1 := World.size_alloc ..
  have hb2 : SmB (w1.setRow w.heap.size S'.cells) w.heap.size S' := setRow_heap _ _ _ _ _ _ hb1
  have ho2 : Old w (w1.setRow w.heap.size S'.cells) := (row_ret hb1 (HO.out.trans ho) (Nat.le_refl _) S'.cells).2
  have hok2 : SmOk (w1.setRow w.heap.size S'.cells) S' := ⟨hok.size, hok.le, hok.cap, hok.rows.but (b := w.heap.size) (by simp) (fun k hk => setRow_other _ _ _ _ hk)
    (fun g o h0 e => by have := hp _ h0 e; rw [hsz] at this; simp only at this; omega)
    (fun i g o hi h0 e => by
      obtain ⟨g', o', e', h1, _⟩ := (HOK.out.rows.row i (by omega)).2.2 (by have := hM i; omega)
      rw [hQ, e'] at e
      cases e
      omega)⟩
  have HB1 := Lib.hid hb1
  have HB2 := Lib.hid hb2
  have HO2 := Lib.hid ho2
  have HOK2 := Lib.hid hok2
  have HFEW := Lib.hid hfew
  have HS1 : Hid (S'.cells.all (·.oneCell') = true) := Lib.hid (by kernel_rfl)
  clear hok hfew ho hp hQ hn hM hb1 hsz hb2 ho2 hok2 HB HO HOK
  obtain ⟨W2, hW2⟩ : ∃ W2, W2 = w1.setRow w.heap.size S'.cells := ⟨_, rfl⟩
  rw [← hW2] at HB2 HO2 HOK2
  have HW2 := Lib.hid hW2
  clear hW2
  obtain ⟨g, hg⟩ : ∃ g, g = w.heap.size := ⟨_, rfl⟩
  have HG := Lib.hid hg
  rw [← hg] at HB1 HB2 HW2
  have HC := Lib.hid (fun W (k : Old W2 W) => lawCheck_any S' W (HOK2.out.old k) HFEW.out)
  have HMt := Lib.hid (fun W (k : Old W2 W) => Meta_any S' W (HOK2.out.old k))
  have HPC := Lib.hid (fun W (k : Old W2 W) => Check_any S' W (HOK2.out.old k))
  have HIN := Lib.hid (fun W => IsName_any S'.s W HOK2.out.size)
  have HLN := Lib.hid (fun W => lawName_any S'.s W HOK2.out.size)
  have HLE := Lib.hid (fun W (k : Old W2 W) => Length_any S' W (HOK2.out.old k))
  have HBO := Lib.hid (fun W (k : Old W2 W) => (HB2.out.old k).at)
  obtain ⟨c0, c1, c2, c3, c4, c5⟩ := HBO.out _ (Old.refl _)
  clear hg
  rw [← HG.out]
  go_wp2_with (with_reducible refine wpList_store_row rfl 24 _ _ rfl g S'.cells rfl rfl 24 _ HB1.out.cellF (by rw [Smp.size]; exact Hs6.out) (by rw [Smp.size, Smp.size]) HS1.out ?_; rw [← HW2.out])
  refine (HC.out _ (Old.refl _)).mono ?_
  rintro e w3 ⟨rfl, ho3⟩
  clear c0 c1 c2 c3 c4 c5 HB1
  obtain ⟨c0, c1, c2, c3, c4, c5⟩ := HBO.out _ ho3
  go_wp2_with fail
  refine (HMt.out _ ho3).mono ?_
  rintro e w4 ⟨rfl, ho4⟩
  clear c0 c1 c2 c3 c4 c5
  have ho4 := ho3.trans ho4
  have HO3 := Lib.hid ho4
  clear ho3 ho4
  obtain ⟨L, hL⟩ : ∃ L, L = S'.len := ⟨_, rfl⟩
  have HOL := Lib.hid (HO3.out.trans (Old.alloc w4 (.cells (metaC S'.s S'.len S'.r S'.n S'.lp S'.a S'.b) 29)))
  obtain ⟨c0, c1, c2, c3, c4, c5⟩ := HBO.out _ HOL.out
  rw [← hL] at c0 c1 c2 c3 c4 c5 HOL HLE ⊢
  have HL := Lib.hid hL
  clear hL
  unfold metaC at c0 c1 c2 c3 c4 c5 ⊢
  go_upto_if 16 with (fail)
  go_cut [5] (fun v wx => v = .int .i64 L ∧ w4.alloc (.cells #[.string S'.s, .int .i64 L, .int .i64 S'.r, .int .i64 S'.n, .bool S'.lp, .int .i64 S'.a, .int .i64 S'.b, .int .i64 0, .int .i64 0] 29) = wx)
  case first =>
    by_cases h0 : S'.n = 0
    · have e1 : Hid (L = 0) := Lib.hid (by rw [HL.out]; unfold Smp.len; rw [if_pos h0])
      have q0 : decide (0 < (S'.n : Int)) = false := decide_eq_false (by omega)
      have q1 : ¬ ((0 : Int) < (S'.n : Int)) := by omega
      clear h0
      go_wp2_with fail
      go_meet
      exact ⟨by rw [e1.out], rfl⟩
    · have e1 : Hid (L = (S'.M 0 : Int)) := Lib.hid (by rw [HL.out]; unfold Smp.len; rw [if_neg h0])
      have q0 : decide (0 < (S'.n : Int)) = true := decide_eq_true (by omega)
      obtain ⟨gp, op, hp, hgp, hc⟩ := (HOK2.out.old HOL.out).rows.cell (by omega)
      have k0 := hc 0 (by omega)
      rw [Nat.add_zero] at k0
      rw [hp] at c5
      unfold metaC at k0
      have b0 : (0 : Int) < S'.n := by omega
      clear hp hc h0 hgp
      go_wp2_with fail
      go_meet
      exact ⟨by rw [e1.out], rfl⟩
  case rest =>
    obtain ⟨rfl, rfl⟩ := hcut
    go_wp2_with fail
    obtain ⟨M, hM⟩ : ∃ M, M = metaC S'.s L S'.r S'.n S'.lp S'.a S'.b := ⟨_, rfl⟩
    obtain ⟨q4, hq4⟩ : ∃ q, q = w4.heap.size := ⟨_, rfl⟩
    obtain ⟨W6, hW6⟩ : ∃ W6, W6 = (w4.alloc (.cells M 29)).alloc (.cells M 29) := ⟨_, rfl⟩
    have ho6 : Old W2 W6 := by rw [hW6]; exact (HO3.out.alloc' _).alloc' _
    have hb6 : SmB W6 g S' := HB2.out.old ho6
    have h4 : W6.heap[q4]? = some (.cells M 29 (0, 0)) := by rw [hW6, hq4]; exact heap_alloc2_old w4 _ _
    have h6 : W6.heap[q4 + 1]? = some (.cells M 29 (0, 0)) := by rw [hW6, hq4]; exact heap_alloc2_new w4 _ _
    have HK : Hid (∀ W, Old W6 W → W.heap[g]? = some (.cells S'.cells 24 (0, 0)) ∧ W.cell? ⟨g, 0, none⟩ = some (.string S'.s) ∧ W.heap[q4]? = some (.cells M 29 (0, 0)) ∧ W.heap[q4 + 1]? = some (.cells M 29 (0, 0))) := Lib.hid fun W k => ⟨hb6.old k, (hb6.old k).at.1, (k.block _ (lt_of_block h4)).trans h4, (k.block _ (lt_of_block h6)).trans h6⟩
    have HO6 := Lib.hid ho6
    have HNQ : Hid (∀ w, (binOp .neq 29 (.agg M) (.agg M)).run Try.prog w = .ok (.bool false) w) := Lib.hid (fun w => by rw [hM]; exact meta_neq w _ _ _ _ _ _ _)
    have HM9 : Hid (M.size = 9) := Lib.hid (by rw [hM]; rfl)
    unfold metaC at hM
    rw [← hq4, ← hM, ← hW6]
    have HM := Lib.hid hM
    have HOO0 := Lib.hid ((Old.refl W6).drew)
    have HKK0 := Lib.hid (HK.out _ HOO0.out)
    clear ho6 hb6 h4 h6 hM hW6 hq4 c0 c1 c2 c3 c4 c5 HOL HO3
    refine wp_region_held_drew (S := (fun W => W.heap[g]? = some (.cells S'.cells 24 (0, 0)) ∧ W.cell? ⟨g, 0, none⟩ = some (.string S'.s) ∧ W.heap[q4]? = some (.cells M 29 (0, 0)) ∧ W.heap[q4 + 1]? = some (.cells M 29 (0, 0)))) (by kernel_rfl) ?_ (fun hHeld => ?_)
    · (try dsimp only); exact HKK0.out
    refine wpAnyH_take (i := 0) (oi := ⟨some _, _, _, _, _, _⟩) (v := .agg S'.cells) rfl (by kernel_rfl) (by kernel_rfl) (by kernel_rfl) (fun _ _ _ h => h) (yieldsIf_load_row (by kernel_rfl) 24 (.tmp 1) rfl g rfl 24 S'.cells (0, 0) _ (fun _ h => h.1) Try.underlying24 rfl (by rw [Smp.size]; exact Hs6.out)) (by assumption) ?_; try simp only [Act.put, List.setIfInBounds_toArray, List.set_cons_zero, List.set_cons_succ]
    refine wpAnyH_take (i := 2) (oi := ⟨some _, _, _, _, _, _⟩) (v := ?_) rfl (by kernel_rfl) (by kernel_rfl) (by kernel_rfl) (fun _ _ _ h => h) (Or.inl ⟨by kernel_rfl, ?_⟩) (by assumption) ?_; rotate_left; (intro w hSw; (try dsimp only at hSw); go_simp; try with_reducible rfl); try simp only [Act.put, List.setIfInBounds_toArray, List.set_cons_zero, List.set_cons_succ]
    refine wpAnyH_ready (rs := [1]) (by kernel_rfl) (by simp) ?_
    refine AllReadyH.cons (o := ⟨_, _, _, _, _, _⟩) (by rfl) ?_ AllReadyH.nil
    intro K hK
    go_simp
    refine (HPC.out _ (HO6.out.trans HOO0.out)).mono ?_
    rintro e V1 ⟨rfl, ok1⟩
    have oo1 := HOO0.out.trans ok1
    have HOO1 := Lib.hid oo1
    have HKK1 := Lib.hid (HK.out _ oo1)
    clear oo1 ok1 HOO0 HKK0
    go_wp2_with fail
    refine hK.out _ _ ?_ (fun hHeld => ?_)
    · (try dsimp only); exact HKK1.out
    clear hK K
    try simp only [Act.put, List.setIfInBounds_toArray, List.set_cons_zero, List.set_cons_succ]
    refine wpAnyH_take (i := 3) (oi := ⟨some _, _, _, _, _, _⟩) (v := ?_) rfl (by kernel_rfl) (by kernel_rfl) (by kernel_rfl) (fun _ _ _ h => h) (Or.inl ⟨by kernel_rfl, ?_⟩) (by assumption) ?_; rotate_left; (intro w hSw; (try dsimp only at hSw); go_simp; try with_reducible rfl); try simp only [Act.put, List.setIfInBounds_toArray, List.set_cons_zero, List.set_cons_succ]
    refine wpAnyH_take (i := 4) (oi := ⟨some _, _, _, _, _, _⟩) (v := ?_) rfl (by kernel_rfl) (by kernel_rfl) (by kernel_rfl) (fun _ _ _ h => h) (Or.inl ⟨by kernel_rfl, ?_⟩) (by assumption) ?_; rotate_left; (intro w hSw; (try dsimp only at hSw); go_simp; try with_reducible rfl); try simp only [Act.put, List.setIfInBounds_toArray, List.set_cons_zero, List.set_cons_succ]
    refine wpAnyH_take (i := 5) (oi := ⟨some _, _, _, _, _, _⟩) (v := ?_) rfl (by kernel_rfl) (by kernel_rfl) (by kernel_rfl) (fun _ _ _ h => h) (Or.inl ⟨by kernel_rfl, ?_⟩) (by assumption) ?_; rotate_left; (intro w hSw; (try dsimp only at hSw); go_simp; try with_reducible rfl); try simp only [Act.put, List.setIfInBounds_toArray, List.set_cons_zero, List.set_cons_succ]
    refine wpAnyH_take (i := 6) (oi := ⟨some _, _, _, _, _, _⟩) (v := ?_) rfl (by kernel_rfl) (by kernel_rfl) (by kernel_rfl) (fun _ _ _ h => h) (Or.inl ⟨by kernel_rfl, ?_⟩) (by assumption) ?_; rotate_left; (intro w hSw; (try dsimp only at hSw); go_simp; try with_reducible rfl); try simp only [Act.put, List.setIfInBounds_toArray, List.set_cons_zero, List.set_cons_succ]
    refine wpAnyH_take (i := 8) (oi := ⟨some _, _, _, _, _, _⟩) (v := ?_) rfl (by kernel_rfl) (by kernel_rfl) (by kernel_rfl) (fun _ _ _ h => h) (Or.inl ⟨by kernel_rfl, ?_⟩) (by assumption) ?_; rotate_left; (intro w hSw; (try dsimp only at hSw); go_simp; try with_reducible rfl); try simp only [Act.put, List.setIfInBounds_toArray, List.set_cons_zero, List.set_cons_succ]
    refine wpAnyH_take (i := 9) (oi := ⟨some _, _, _, _, _, _⟩) (v := ?_) rfl (by kernel_rfl) (by kernel_rfl) (by kernel_rfl) (fun _ _ _ h => h) (Or.inl ⟨by kernel_rfl, ?_⟩) (by assumption) ?_; rotate_left; (intro w hSw; (try dsimp only at hSw); go_simp; try with_reducible rfl); try simp only [Act.put, List.setIfInBounds_toArray, List.set_cons_zero, List.set_cons_succ]
    refine wpAnyH_ready (rs := [7]) (by kernel_rfl) (by simp) ?_
    refine AllReadyH.cons (o := ⟨_, _, _, _, _, _⟩) (by rfl) ?_ AllReadyH.nil
    intro K hK
    go_simp
    refine (HIN.out _).mono ?_
    rintro e V2 ⟨rfl, ok2⟩
    have oo2 := HOO1.out.trans ok2
    have HOO2 := Lib.hid oo2
    have HKK2 := Lib.hid (HK.out _ oo2)
    clear oo2 ok2 HOO1 HKK1
    go_wp2_with fail
    refine hK.out _ _ ?_ (fun hHeld => ?_)
    · (try dsimp only); exact HKK2.out
    clear hK K
    try simp only [Act.put, List.setIfInBounds_toArray, List.set_cons_zero, List.set_cons_succ]
    refine wpAnyH_ready (rs := [10]) (by kernel_rfl) (by simp) ?_
    refine AllReadyH.cons (o := ⟨_, _, _, _, _, _⟩) (by rfl) ?_ AllReadyH.nil
    intro K hK
    go_simp
    refine (HLN.out _).mono ?_
    rintro e V3 ⟨rfl, ok3⟩
    have oo3 : Old W6 V3 := by rw [← ok3]; exact HOO2.out
    have HOO3 := Lib.hid oo3
    have HKK3 := Lib.hid (HK.out _ oo3)
    clear oo3 ok3 HOO2 HKK2
    go_wp2_with fail
    refine hK.out _ _ ?_ (fun hHeld => ?_)
    · (try dsimp only); exact HKK3.out
    clear hK K
    try simp only [Act.put, List.setIfInBounds_toArray, List.set_cons_zero, List.set_cons_succ]
    refine wpAnyH_take (i := 11) (oi := ⟨some _, _, _, _, _, _⟩) (v := ?_) rfl (by kernel_rfl) (by kernel_rfl) (by kernel_rfl) (fun _ _ _ h => h) (Or.inl ⟨by kernel_rfl, ?_⟩) (by assumption) ?_; rotate_left; (intro w hSw; (try dsimp only at hSw); go_simp; try with_reducible rfl); try simp only [Act.put, List.setIfInBounds_toArray, List.set_cons_zero, List.set_cons_succ]
    refine wpAnyH_take (i := 12) (oi := ⟨some _, _, _, _, _, _⟩) (v := ?_) rfl (by kernel_rfl) (by kernel_rfl) (by kernel_rfl) (fun _ _ _ h => h) (Or.inl ⟨by kernel_rfl, ?_⟩) (by assumption) ?_; rotate_left; (intro w hSw; (try dsimp only at hSw); go_simp; try with_reducible rfl); try simp only [Act.put, List.setIfInBounds_toArray, List.set_cons_zero, List.set_cons_succ]
    refine wpAnyH_take (i := 13) (oi := ⟨some _, _, _, _, _, _⟩) (v := ?_) rfl (by kernel_rfl) (by kernel_rfl) (by kernel_rfl) (fun _ _ _ h => h) (Or.inl ⟨by kernel_rfl, ?_⟩) (by assumption) ?_; rotate_left; (intro w hSw; (try dsimp only at hSw); go_simp; try with_reducible rfl); try simp only [Act.put, List.setIfInBounds_toArray, List.set_cons_zero, List.set_cons_succ]
    refine wpAnyH_take (i := 14) (oi := ⟨some _, _, _, _, _, _⟩) (v := .agg S'.cells) rfl (by kernel_rfl) (by kernel_rfl) (by kernel_rfl) (fun _ _ _ h => h) (yieldsIf_load_row (by kernel_rfl) 24 (.tmp 1) rfl g rfl 24 S'.cells (0, 0) _ (fun _ h => h.1) Try.underlying24 rfl (by rw [Smp.size]; exact Hs6.out)) (by assumption) ?_; try simp only [Act.put, List.setIfInBounds_toArray, List.set_cons_zero, List.set_cons_succ]
    refine wpAnyH_take (i := 16) (oi := ⟨some _, _, _, _, _, _⟩) (v := ?_) rfl (by kernel_rfl) (by kernel_rfl) (by kernel_rfl) (fun _ _ _ h => h) (Or.inl ⟨by kernel_rfl, ?_⟩) (by assumption) ?_; rotate_left; (intro w hSw; (try dsimp only at hSw); go_simp; try with_reducible rfl); try simp only [Act.put, List.setIfInBounds_toArray, List.set_cons_zero, List.set_cons_succ]
    refine wpAnyH_ready (rs := [15]) (by kernel_rfl) (by simp) ?_
    refine AllReadyH.cons (o := ⟨_, _, _, _, _, _⟩) (by rfl) ?_ AllReadyH.nil
    intro K hK
    go_simp
    refine (HLE.out _ (HO6.out.trans HOO3.out)).mono ?_
    rintro e V4 ⟨rfl, ok4⟩
    have oo4 := HOO3.out.trans ok4
    have HOO4 := Lib.hid oo4
    have HKK4 := Lib.hid (HK.out _ oo4)
    clear oo4 ok4 HOO3 HKK3
    go_wp2_with fail
    refine hK.out _ _ ?_ (fun hHeld => ?_)
    · (try dsimp only); exact HKK4.out
    clear hK K
    try simp only [Act.put, List.setIfInBounds_toArray, List.set_cons_zero, List.set_cons_succ]
    refine wpAnyH_take (i := 17) (oi := ⟨some _, _, _, _, _, _⟩) (v := ?_) rfl (by kernel_rfl) (by kernel_rfl) (by kernel_rfl) (fun _ _ _ h => h) (Or.inl ⟨by kernel_rfl, ?_⟩) (by assumption) ?_; rotate_left; (intro w hSw; (try dsimp only at hSw); go_simp; try with_reducible rfl); try simp only [Act.put, List.setIfInBounds_toArray, List.set_cons_zero, List.set_cons_succ]
    refine wpAnyH_take (i := 18) (oi := ⟨some _, _, _, _, _, _⟩) (v := ?_) rfl (by kernel_rfl) (by kernel_rfl) (by kernel_rfl) (fun _ _ _ h => h) (Or.inl ⟨by kernel_rfl, ?_⟩) (by assumption) ?_; rotate_left; (intro w hSw; (try dsimp only at hSw); go_simp; try with_reducible rfl); try simp only [Act.put, List.setIfInBounds_toArray, List.set_cons_zero, List.set_cons_succ]
    refine wpAnyH_take (i := 19) (oi := ⟨some _, _, _, _, _, _⟩) (v := ?_) rfl (by kernel_rfl) (by kernel_rfl) (by kernel_rfl) (fun _ _ _ h => h) (Or.inl ⟨by kernel_rfl, ?_⟩) (by assumption) ?_; rotate_left; (intro w hSw; (try dsimp only at hSw); go_simp; try with_reducible rfl); try simp only [Act.put, List.setIfInBounds_toArray, List.set_cons_zero, List.set_cons_succ]
    refine wpAnyH_take (i := 20) (oi := ⟨some _, _, _, _, _, _⟩) (v := .agg M) rfl (by kernel_rfl) (by kernel_rfl) (by kernel_rfl) (fun _ _ _ h => h) (yieldsIf_load_row (by kernel_rfl) 29 (.tmp 4) rfl q4 rfl 29 M (0, 0) _ (fun _ h => h.2.2.1) Try.underlying29 rfl (by rw [HM9.out]; exact Hs9.out)) (by assumption) ?_; try simp only [Act.put, List.setIfInBounds_toArray, List.set_cons_zero, List.set_cons_succ]
    refine wpAnyH_take (i := 21) (oi := ⟨some _, _, _, _, _, _⟩) (v := .agg M) rfl (by kernel_rfl) (by kernel_rfl) (by kernel_rfl) (fun _ _ _ h => h) (yieldsIf_load_row (by kernel_rfl) 29 (.tmp 6) rfl (q4 + 1) rfl 29 M (0, 0) _ (fun _ h => h.2.2.2) Try.underlying29 rfl (by rw [HM9.out]; exact Hs9.out)) (by assumption) ?_; try simp only [Act.put, List.setIfInBounds_toArray, List.set_cons_zero, List.set_cons_succ]
    refine wpAnyH_take (i := 22) (oi := ⟨some _, _, _, _, _, _⟩) (v := .bool false) rfl (by kernel_rfl) (by kernel_rfl) (by kernel_rfl) (fun _ _ _ h => h) (yieldsIf_neq_agg (by kernel_rfl) 29 _ _ _ rfl M rfl rfl (by kernel_rfl) HNQ.out) (by assumption) ?_; try simp only [Act.put, List.setIfInBounds_toArray, List.set_cons_zero, List.set_cons_succ]
    refine wpAnyH_take (i := 23) (oi := ⟨some _, _, _, _, _, _⟩) (v := ?_) rfl (by kernel_rfl) (by kernel_rfl) (by kernel_rfl) (fun _ _ _ h => h) (Or.inl ⟨by kernel_rfl, ?_⟩) (by assumption) ?_; rotate_left; (intro w hSw; (try dsimp only at hSw); go_simp; try with_reducible rfl); try simp only [Act.put, List.setIfInBounds_toArray, List.set_cons_zero, List.set_cons_succ]
    refine wpAnyH_done (by kernel_rfl) ?_ _
    have hmb : MetaB V4 q4 S'.s L S'.r S'.n S'.lp S'.a S'.b 0 0 := by
      have h := HKK4.out.2.2.1
      rw [HM.out] at h
      exact h
    obtain ⟨m0, m1, m2, m3, m4, m5, m6, m7, m8⟩ := hmb.cells
    have HAW := Lib.hid (fun w => awake_any w)
    have HFO := Lib.hid (HO2.out.trans (HO6.out.trans HOO4.out))
    have hrm := fun w => RightMeta_any S'.s L S'.r S'.n S'.lp S'.a S'.b 0 0 w HOK2.out.size
    clear hmb HK HNQ HPC HIN HLN HLE HMt HC HBO HKK4
    by_cases hc : S'.check = 0
    · have q : (S'.check != 0) = false := by simpa using hc
      have hz : wrongI S'.s L S'.r S'.n S'.lp S'.a S'.b = 0 := by
        by_cases h : wrongI S'.s L S'.r S'.n S'.lp S'.a S'.b = 0
        · exact h
        · rw [HL.out] at h ⊢
          have := Smp.check_wrong h
          omega
      rw [hz] at hrm
      unfold metaV at hrm
      have HRM := Lib.hid hrm
      clear hrm hz
      rw [hc]
      go_wp2_with fail
      refine (HRM.out _).mono ?_
      rintro e V5 ⟨rfl, o5⟩
      have HFO5 := Lib.hid (HFO.out.trans o5)
      clear o5
      go_wp2_with fail
      refine (HAW.out _).mono ?_
      rintro e V6 ⟨rfl, o6⟩
      have HFO6 := Lib.hid (HFO5.out.trans o6)
      clear o6
      go_wp2_with fail
      go_ret
      exact ⟨rfl, HFO6.out⟩
    · have q : (S'.check != 0) = true := by simpa using hc
      clear hrm
      go_wp2_with fail
      refine (HAW.out _).mono ?_
      rintro e V6 ⟨rfl, o6⟩
      have HFO6 := Lib.hid (HFO.out.trans o6)
      clear o6
      go_wp2_with fail
      go_ret
      exact ⟨rfl, HFO6.out⟩


theorem own : ownKnob Try.prog.godebug = none := by kernel_rfl
theorem laidOut : laidOutB Try.prog = true := by kernel_rfl

set_option maxRecDepth 100000 in
theorem lifted (os : Os) (started : os.Started) (H : Type) (enc : TypeId × Value → H) :
    ReturnsInHanded {} Try.checked os 3 .any (Rows.waveChecksSpec.pre6 enc Try.prog Try.f3 Rows.waveChecksRow.domain false) (Rows.waveChecksSpec.post enc Try.prog Try.f3 false true false false) := by
  refine returnsInHanded_of_change (C := Try.checked) own started (by kernel_rfl) Try.func3
    (ChangeSpec.witness6 (enc := enc) (C := Try.checked) false ⟨#[], #[.agg #[.string ⟨#[]⟩, .int .i64 0, .bool false, .int .i64 0, .int .i64 0, .slice none 0 0]], []⟩ 8 (by kernel_rfl) (by kernel_rfl) (by kernel_rfl) (by kernel_rfl)) ?_
  intro W base args ds gs before hval0 hW hcnd _
  have hval : ∀ (j : Nat) t v, Try.f3.params[j]? = some t → args[j]? = some v → Value.okWide Try.prog W .any base t v := hval0
  have hW' := hW
  have hlt : ∀ p ∈ before, p.block < W.heap.size := fun p hp => hW'.lt p hp
  obtain ⟨p, q, hA0, hV, rfl, hfz, hnd⟩ := hW
  have hA : DataW.TrodAll enc Try.prog W 0 (fun _ => true) true Try.f3.params.toList args.toList ds p := hA0
  rw [Try.params3] at hA hval
  obtain ⟨v0, vs0, d0, ds0, p0, q0, hargs, rfl, rfl, h0, r0⟩ := trodAll_cons hA
  obtain ⟨rfl, rfl, rfl⟩ := trodAll_nil r0
  obtain rfl : args = #[v0] := by cases args; simp_all
  obtain ⟨rfl, rfl⟩ := trodVars_none hV
  obtain ⟨S0, rfl, sm0⟩ := open_sample (hval 0 24 v0 rfl rfl) h0 (fun x hx => hlt x (by simp [hx]))
  refine (walk S0 W sm0).mono fun e W' ⟨he, hg⟩ => ?_
  subst he
  exact ⟨_, rfl, law_done laidOut Try.underlying4 rfl (by kernel_rfl) rfl hW' rfl hg⟩

theorem over : Rows.waveChecksRow.holds Try.pinned (OpenSpec.ofChange Rows.waveChecksSpec) :=
  OpenClaim.holds_of_wide 3 Try.f3 rfl rfl rfl rfl rfl rfl rfl ⟨rfl, rfl, rfl, rfl, rfl⟩ rfl rfl rfl rfl rfl (by kernel_rfl) Try.func3 (by kernel_rfl)
    (of_decide_eq_true (by kernel_rfl)) (by unfold Func.isWrapper; first | (rw [if_pos (by decide +kernel)]; kernel_rfl) | (rw [if_neg (by decide +kernel)]; exact ⟨rfl, rfl⟩))
    (fun os started H enc _ => lifted os started H enc)

theorem proved : Rows.WaveChecksSaid :=
  over
end Go.Proofs.Ytmdninfmidmmhaa.waveChecks
