/- Texts joined: RowK, WaveC, WaveD, SampK, LapD, LapE, GainU, LapF. -/
import Derived.Deep.RegionHeld
import Derived.Test.YtanmbhakjfhhdaaGreatDoorPkAB
import Derived.Test.YtanmbhakjfhhdaaGreatDoorPkAC
import Derived.Test.YtanmbhakjfhhdaaGreatDoorPkAD
import Derived.Test.YtanmbhakjfhhdaaGreatDoorTk
/- Whole rows: stores into a new block, literals in a drawn region, results out of a cell. No program. -/
namespace Go.Proofs.YtanmbhakjfhhdaaGreatDoor
set_option linter.unusedVariables false
set_option maxRecDepth 100000
open Go.RowKit Go.ChangeShapes Go.WideShapes
theorem row_ret {t : TypeId} {w W : World} {b : Nat} {z : Array Value} (h : W.heap[b]? = some (.cells z t (0, 0))) (ho : Old w W) (hb : w.heap.size ≤ b) (cs : Array Value) : (W.setRow b cs).heap[b]? = some (.cells cs t (0, 0)) ∧ Old w (W.setRow b cs) :=
 ⟨setRow_heap _ _ _ _ _ _ h, ho.after (X := fun k => k < w.heap.size) ⟨rfl, rfl, by simp, fun k hk => setRow_other _ _ _ _ (by omega)⟩ fun _ h => h⟩
theorem yieldsIf_build {P : Program} {ops : Array Oper} {S : World → Prop} {op : Oper} {a : Act} (hw : Region.wanted op (yielded ops a.tmps) = true) (t : TypeId) (parts : Array (Nat × Operand)) (ho : op.op = .build t parts) (ps : List (Nat × Value)) (cells : Array Value)
  (hp : (parts.map fun x => (x.1, a.eval x.2)).toList = ps) (hr : P.built t ps = some cells) : YieldsIf P ops S op (.agg cells) a :=
 .inl ⟨hw, fun w _ => by
  unfold execOp
  simp only [ho, Sem.run_bind, run_build w t _ cells (by rw [hp]; exact hr), Result.andThen_ok, Sem.run_pure]⟩
theorem wpList_build_w {P : Program} {ops : Array Oper} {rest : List Oper} {o : Oper} {a : Act} {w : World} {Q : Exit → Act → World → Prop} (hw : Region.wanted o (yielded ops a.tmps) = true) (t : TypeId) (parts : Array (Nat × Operand)) (ho : o.op = .build t parts) (ps : List (Nat × Value)) (cells : Array Value)
  (hp : (parts.map fun x => (x.1, a.eval x.2)).toList = ps) (hr : P.built t ps = some cells) (h : wpList P ops Q rest (a.put o.dst (.agg cells)) w) : wpList P ops Q (o :: rest) a w :=
 wpList_step fun K hK => by
  rw [if_pos hw]
  unfold Oper.wp execOp
  simp only [ho, Sem.run_bind, run_build w t _ cells (by rw [hp]; exact hr), Result.andThen_ok]
  exact hK _ _ h
theorem results_row_tmp {P : Program} {fn : Func} {p u : Tmp} {ty : TypeId} (h : fn.results = #[.cell p ty, .tmp u]) (tmps : Array Value) (w : World) (g : Nat) (t : TypeId) (cs : Array Value) (fr : Nat × Nat) (d : TypeDesc)
  (hp : tmps.getD p undef = .pointer (some ⟨g, 0, none⟩)) (hg : w.heap[g]? = some (.cells cs t fr))
  (hu : P.underlying ty = some d) (hd : (match d with | .struct _ | .array _ _ => true | _ => false) = true) (hi : (P.info? ty).map (·.size) = some cs.size) :
  (results fn tmps).run P w = .ok (.tuple #[.agg cs, tmps.getD u undef]) w := by
 rw [results_cell_tmp h, hp]
 simp [asAddr, run_loadVar_row w g t ty cs fr d hg hu hd hi]
end Go.Proofs.YtanmbhakjfhhdaaGreatDoor
/- Package wave's contracts on samples, second part: Meta, what is beyond bounds, Check. (by wip/tools/exp.py of XWaveC.src) -/
namespace Go.Proofs.YtanmbhakjfhhdaaGreatDoor
set_option linter.unusedVariables false
set_option maxRecDepth 100000
set_option linter.unusedSimpArgs false
open Go.RowKit Go.ChangeShapes Go.WideShapes
def metaC (s : ByteArray) (n r c : Int) (lp : Bool) (a b : Int) : Array Value := #[.string s, .int .i64 n, .int .i64 r, .int .i64 c, .bool lp, .int .i64 a, .int .i64 b, .int .i64 0, .int .i64 0]
theorem meta_built (s : ByteArray) (n r c : Int) (lp : Bool) (a b : Int) : Tryz.prog.built 45 [(0, .string s), (1, .int .i64 n), (2, .int .i64 r), (3, .int .i64 c), (4, .bool lp), (5, .int .i64 a), (6, .int .i64 b)] = some (metaC s n r c lp a b) := by kernel_rfl
theorem Smp.size (S : Smp) : S.cells.size = 6 := rfl
theorem metaC_size (s : ByteArray) (n r c : Int) (lp : Bool) (a b : Int) : (metaC s n r c lp a b).size = 9 := rfl
theorem metaC_one (s : ByteArray) (n r c : Int) (lp : Bool) (a b : Int) : (metaC s n r c lp a b).all (·.oneCell') = true := by kernel_rfl
set_option maxHeartbeats 2000000 in
theorem Meta_any (S : Smp) (w : World) (hs : SmOk w S) :
  Calls Tryz.prog 23 #[S.val] w fun e w' => e = .returned (.agg (metaC S.s S.len S.r S.n S.lp S.a S.b)) ∧ Old w w' := by
 have Hs6 : Hid ((Tryz.prog.info? 50).map (·.size) = some 6) := Lib.hid (by kernel_rfl)
 have Hs9 : Hid ((Tryz.prog.info? 45).map (·.size) = some 9) := Lib.hid (by kernel_rfl)
 obtain ⟨W0, hW0⟩ : ∃ W0, W0 = ((w.alloc (.cells S.cells 50)).alloc (.cells (metaC ⟨#[]⟩ 0 0 0 false 0 0) 45)) := ⟨_, rfl⟩
 have ho : Old w W0 := by rw [hW0]; exact (Old.alloc w _).alloc' _
 have hb : SmB W0 w.heap.size S := by rw [hW0]; exact (SmB.new w S).old (Old.alloc _ _)
 have hr : W0.heap[w.heap.size + 1]? = some (.cells (metaC ⟨#[]⟩ 0 0 0 false 0 0) 45 (0, 0)) := by rw [hW0]; exact heap_alloc2_new w _ _
 have HO := Lib.hid ho
 have HB := Lib.hid hb
 have HR := Lib.hid hr
 unfold metaC at hW0
 have HW := Lib.hid hW0
 have HL := Lib.hid (fun W (k : Old w W) => Length_any S W (hs.old k))
 have HBd := Lib.hid (meta_built S.s S.len S.r S.n S.lp S.a S.b)
 have HK : Hid (∀ W, Old W0 W → (W.heap[w.heap.size]? = some (.cells S.cells 50 (0, 0)) ∧ W.cell? ⟨w.heap.size, 0, none⟩ = some (.string S.s) ∧ W.cell? ⟨w.heap.size, 1, none⟩ = some (.int .i64 S.r) ∧ W.cell? ⟨w.heap.size, 2, none⟩ = some (.bool S.lp) ∧ W.cell? ⟨w.heap.size, 3, none⟩ = some (.int .i64 S.a) ∧ W.cell? ⟨w.heap.size, 4, none⟩ = some (.int .i64 S.b) ∧ W.cell? ⟨w.heap.size, 5, none⟩ = some (.slice S.p S.n S.c))) := Lib.hid fun W k => ⟨hb.old k, (hb.old k).at⟩
 obtain ⟨M, hM⟩ : ∃ M, M = metaC S.s S.len S.r S.n S.lp S.a S.b := ⟨_, rfl⟩
 have H9 : Hid (M.all (·.oneCell') = true) := Lib.hid (by rw [hM]; exact metaC_one _ _ _ _ _ _ _)
 have HM9 : Hid (M.size = 9) := Lib.hid (by rw [hM]; rfl)
 rw [← hM] at HBd ⊢
 unfold Smp.val
 clear hM ho hb hr hW0 hs
 go_enter Tryz.func23, Tryz.ntmps23
 go_wp2_with fail
 rw [← HW.out]
 clear HW
 refine wp_region_held_drew (S := (fun W => W.heap[w.heap.size]? = some (.cells S.cells 50 (0, 0)) ∧ W.cell? ⟨w.heap.size, 0, none⟩ = some (.string S.s) ∧ W.cell? ⟨w.heap.size, 1, none⟩ = some (.int .i64 S.r) ∧ W.cell? ⟨w.heap.size, 2, none⟩ = some (.bool S.lp) ∧ W.cell? ⟨w.heap.size, 3, none⟩ = some (.int .i64 S.a) ∧ W.cell? ⟨w.heap.size, 4, none⟩ = some (.int .i64 S.b) ∧ W.cell? ⟨w.heap.size, 5, none⟩ = some (.slice S.p S.n S.c))) (by kernel_rfl) ?_ (fun hHeld => ?_)
 ·(try dsimp only); exact HK.out _ ((Old.refl W0).drew)
 refine wpT 0 (v := ?_) rfl (Or.inl ⟨by kernel_rfl, ?_⟩) (by assumption) ?_; rotate_left; (intro w hSw; (try dsimp only at hSw); go_simp; try with_reducible rfl); try simp only [Act.put, sA, sZ, sS]
 refine wpT 1 (v := ?_) rfl (Or.inl ⟨by kernel_rfl, ?_⟩) (by assumption) ?_; rotate_left; (intro w hSw; (try dsimp only at hSw); go_simp; try with_reducible rfl); try simp only [Act.put, sA, sZ, sS]
 refine wpT 2 (v := .agg S.cells) rfl (yieldsIf_load_row (by kernel_rfl) 50 (.tmp 1) rfl w.heap.size rfl 50 S.cells (0, 0) _ (fun _ h => h.1) Tryz.underlying50 rfl (by rw [S.size]; exact Hs6.out)) (by assumption) ?_; try simp only [Act.put, sA, sZ, sS]
 refine wpT 4 (v := ?_) rfl (Or.inl ⟨by kernel_rfl, ?_⟩) (by assumption) ?_; rotate_left; (intro w hSw; (try dsimp only at hSw); go_simp; try with_reducible rfl); try simp only [Act.put, sA, sZ, sS]
 refine wpT 5 (v := ?_) rfl (Or.inl ⟨by kernel_rfl, ?_⟩) (by assumption) ?_; rotate_left; (intro w hSw; (try dsimp only at hSw); go_simp; try with_reducible rfl); try simp only [Act.put, sA, sZ, sS]
 refine wpT 6 (v := ?_) rfl (Or.inl ⟨by kernel_rfl, ?_⟩) (by assumption) ?_; rotate_left; (intro w hSw; (try dsimp only at hSw); go_simp; try with_reducible rfl); try simp only [Act.put, sA, sZ, sS]
 refine wpT 7 (v := ?_) rfl (Or.inl ⟨by kernel_rfl, ?_⟩) (by assumption) ?_; rotate_left; (intro w hSw; (try dsimp only at hSw); go_simp; try with_reducible rfl); try simp only [Act.put, sA, sZ, sS]
 refine wpT 8 (v := ?_) rfl (Or.inl ⟨by kernel_rfl, ?_⟩) (by assumption) ?_; rotate_left; (intro w hSw; (try dsimp only at hSw); go_simp; try with_reducible rfl); try simp only [Act.put, sA, sZ, sS]
 refine wpT 9 (v := ?_) rfl (Or.inl ⟨by kernel_rfl, ?_⟩) (by assumption) ?_; rotate_left; (intro w hSw; (try dsimp only at hSw); go_simp; try with_reducible rfl); try simp only [Act.put, sA, sZ, sS]
 refine wpT 10 (v := ?_) rfl (Or.inl ⟨by kernel_rfl, ?_⟩) (by assumption) ?_; rotate_left; (intro w hSw; (try dsimp only at hSw); go_simp; try with_reducible rfl); try simp only [Act.put, sA, sZ, sS]
 refine wpT 11 (v := ?_) rfl (Or.inl ⟨by kernel_rfl, ?_⟩) (by assumption) ?_; rotate_left; (intro w hSw; (try dsimp only at hSw); go_simp; try with_reducible rfl); try simp only [Act.put, sA, sZ, sS]
 refine wpT 12 (v := ?_) rfl (Or.inl ⟨by kernel_rfl, ?_⟩) (by assumption) ?_; rotate_left; (intro w hSw; (try dsimp only at hSw); go_simp; try with_reducible rfl); try simp only [Act.put, sA, sZ, sS]
 refine wpT 13 (v := ?_) rfl (Or.inl ⟨by kernel_rfl, ?_⟩) (by assumption) ?_; rotate_left; (intro w hSw; (try dsimp only at hSw); go_simp; try with_reducible rfl); try simp only [Act.put, sA, sZ, sS]
 refine wpT 14 (v := ?_) rfl (Or.inl ⟨by kernel_rfl, ?_⟩) (by assumption) ?_; rotate_left; (intro w hSw; (try dsimp only at hSw); go_simp; try with_reducible rfl); try simp only [Act.put, sA, sZ, sS]
 refine wpAnyH_ready (rs := [3]) (by kernel_rfl) (by simp) ?_
 refine AllReadyH.cons (o := ⟨_, _, _, _, _, _⟩) (by rfl) ?_ AllReadyH.nil
 intro K hK
 go_simp
 refine (HL.out _ (HO.out.drew)).mono ?_
 rintro e V1 ⟨rfl, o1'⟩
 have o1 := ((Old.refl W0).drew).trans o1'
 clear o1'
 have HK1 := Lib.hid (HK.out _ o1)
 have HO1 := Lib.hid (HO.out.trans o1)
 have HR1 := Lib.hid ((o1.block _ (lt_of_block HR.out)).trans HR.out)
 clear HO HR HK HL o1
 go_wp2_with fail
 refine hK.out _ _ ?_ (fun hHeld => ?_)
 ·(try dsimp only); exact HK1.out
 clear hK K
 try simp only [Act.put, sA, sZ, sS]
 refine wpT 15 (v := .agg M) rfl (yieldsIf_build (by kernel_rfl) 45 _ rfl [(0, .string S.s), (1, .int .i64 S.len), (2, .int .i64 S.r), (3, .int .i64 S.n), (4, .bool S.lp), (5, .int .i64 S.a), (6, .int .i64 S.b)] _ (by kernel_rfl) HBd.out) (by assumption) ?_; try simp only [Act.put, sA, sZ, sS]
 have hr := row_ret HR1.out HO1.out (by omega) M
 have HRt := Lib.hid hr
 have HK2 : Hid ((V1.setRow (w.heap.size + 1) M).heap[w.heap.size]? = some (.cells S.cells 50 (0, 0)) ∧ (V1.setRow (w.heap.size + 1) M).cell? ⟨w.heap.size, 0, none⟩ = some (.string S.s) ∧ (V1.setRow (w.heap.size + 1) M).cell? ⟨w.heap.size, 1, none⟩ = some (.int .i64 S.r) ∧ (V1.setRow (w.heap.size + 1) M).cell? ⟨w.heap.size, 2, none⟩ = some (.bool S.lp) ∧ (V1.setRow (w.heap.size + 1) M).cell? ⟨w.heap.size, 3, none⟩ = some (.int .i64 S.a) ∧ (V1.setRow (w.heap.size + 1) M).cell? ⟨w.heap.size, 4, none⟩ = some (.int .i64 S.b) ∧ (V1.setRow (w.heap.size + 1) M).cell? ⟨w.heap.size, 5, none⟩ = some (.slice S.p S.n S.c)) := Lib.hid (by
  have hb : SmB (V1.setRow (w.heap.size + 1) M) w.heap.size S := (setRow_other _ _ _ _ (by omega)).trans HK1.out.1
  exact ⟨hb, hb.at⟩)
 clear hr
 refine wpAnyH_ready (rs := [16]) (by kernel_rfl) (by simp) ?_
 refine AllReadyH.cons (o := ⟨_, _, _, _, _, _⟩) (by rfl) ?_ AllReadyH.nil
 intro K hK
 rw [if_pos (by kernel_rfl)]
 with_reducible refine wp_store_row 45 _ _ rfl (w.heap.size + 1) M rfl rfl 45 _ HR1.out (by rw [HM9.out]; exact Hs9.out) (by rw [HM9.out, metaC_size]) H9.out ?_
 refine hK.out _ _ ?_ (fun hHeld => ?_)
 ·(try dsimp only); exact HK2.out
 clear hK K
 try simp only [Act.put, sA, sZ, sS]
 refine wpAnyH_done (by kernel_rfl) ?_ _
 go_wp2_with fail
 exact bodyPost_ret (results_cell_row rfl _ _ (w.heap.size + 1) 45 M (0, 0) _ rfl HRt.out.1 Tryz.underlying45 rfl (by rw [HM9.out]; exact Hs9.out)) rfl ⟨rfl, HRt.out.2⟩
def beyB (v : Int) : Bool := decide (v < -32768 ∨ 32767 < v)
theorem farP_iff (n : Nat) (F : Nat → Int) : farP n F ↔ ∃ i, i < n ∧ beyB (F i) = true := by unfold farP beyB; simp only [decide_eq_true_eq]
def RdRow (w : World) (p : Option Addr) (n : Nat) (X : Nat → Int) : Prop := 0 < n → ∃ g o, p = some ⟨g, o, none⟩ ∧ g < w.heap.size ∧ ∀ j, j < n → w.cell? ⟨g, o + j, none⟩ = some (.int .i64 (X j))
theorem RdRow.old {w w' : World} {p : Option Addr} {n : Nat} {X : Nat → Int} (h : RdRow w p n X) (k : Old w w') : RdRow w' p n X := fun hn => by
 obtain ⟨g, o, h1, h2, h3⟩ := h hn
 exact ⟨g, o, h1, Nat.lt_of_lt_of_le h2 k.size, fun j hj => (k.cell (a := ⟨g, o + j, none⟩) h2).trans (h3 j hj)⟩
theorem isBeyond_any (v : Int) (w : World) : Calls Tryz.prog 107 #[.int .i64 v] w fun e w' => e = .returned (.bool (beyB v)) ∧ w = w' := by
 have HE := Lib.hid (show (decide (v < -32768) || decide (32767 < v)) = beyB v by unfold beyB; simp)
 go_enter Tryz.func107, Tryz.ntmps107
 go_wp2_with fail
 all_goals
  go_ret
  refine ⟨ret_bool (Eq.trans ?_ HE.out), rfl⟩
  first | (have c1 : decide (v < -32768) = true := decide_eq_true (by assumption); simp [c1]) | (have c1 : decide (v < -32768) = false := decide_eq_false (by omega); simp [c1])
set_option maxHeartbeats 1000000 in
theorem IndexBeyond_any (p : Option Addr) (n cap : Nat) (X : Nat → Int) (w : World) (h : RdRow w p n X) (hn : n ≤ 9223372036854775807) :
  Calls Tryz.prog 147 #[.slice p n cap, .func (.func 107) #[] #[]] w fun e w' => (∃ i : Int, e = .returned (.int .i64 i) ∧ ((0 ≤ i ∧ farP n X) ∨ (i = -1 ∧ ¬ farP n X))) ∧ w = w' := by
 have HB := Lib.hid (fun v w => isBeyond_any v w)
 have HP := Lib.hid (farP_iff n X)
 have H := Lib.hid h
 clear h
 go_enter Tryz.func147, Tryz.ntmps147
 go_wp2_with fail
 go_loop [8] (fun i => ∃ k : Nat, k ≤ n ∧ i = .int .i64 k ∧ Hid (∀ j, j < k → beyB (X j) = false)) (fun i => n - (intOf i).toNat)
 case atStart => exact ⟨0, by omega, rfl, Lib.hid fun j hj => by omega⟩
 case round =>
  obtain ⟨k, hk, rfl, HJ⟩ := hrel
  by_cases hkn : k < n
  ·obtain ⟨g, o, rfl, hg, hc⟩ := H.out (by omega)
   have ck := hc k hkn
   clear hc hg
   go_wp2_with fail
   refine (HB.out _ _).mono ?_
   rintro e w1 ⟨rfl, rfl⟩
   cases hb : beyB (X k)
   ·have HJ2 := Lib.hid (show ∀ j, j < k + 1 → beyB (X j) = false from fun j hj => by
     by_cases e : j = k
     ·subst e; exact hb
     ·exact HJ.out j (by omega))
    clear HJ hb ck
    go_wp2_with fail
    go_round
    case rel => exact ⟨k + 1, by omega, by go_num, HJ2⟩
    case measure => simp [intOf]; omega
   ·have hf := HP.out.2 ⟨k, hkn, hb⟩
    have HF := Lib.hid hf
    clear HJ hb ck hf
    go_wp2_with fail
    go_ret
    exact ⟨⟨k, rfl, .inl ⟨by omega, HF.out⟩⟩, rfl⟩
  ·have hf : ¬ farP n X := fun h => by
    obtain ⟨j, h1, h2⟩ := HP.out.1 h
    rw [HJ.out j (by omega)] at h2
    cases h2
   have HF := Lib.hid hf
   clear HJ hf
   go_wp2_with fail
   go_ret
   exact ⟨⟨-1, rfl, .inr ⟨rfl, HF.out⟩⟩, rfl⟩
theorem ContainsBeyond_any (p : Option Addr) (n cap : Nat) (X : Nat → Int) (w : World) (h : RdRow w p n X) (hn : n ≤ 9223372036854775807) :
  Calls Tryz.prog 106 #[.slice p n cap, .func (.func 107) #[] #[]] w fun e w' => (∃ b, e = .returned (.bool b) ∧ (b = true ↔ farP n X)) ∧ w = w' := by
 have HI := Lib.hid (IndexBeyond_any p n cap X w h hn)
 clear h
 go_enter Tryz.func106, Tryz.ntmps106
 go_wp2_with fail
 refine HI.out.mono ?_
 rintro e w1 ⟨⟨i, rfl, hi⟩, rfl⟩
 have H := Lib.hid hi
 rcases hi with ⟨hi, hf⟩ | ⟨hi, hf⟩
 ·have d : decide (0 ≤ i) = true := decide_eq_true hi
  have Hhi := Lib.hid hi
  clear hi hf HI
  go_wp2_with fail
  go_ret
  have hi := Hhi.out
  refine ⟨⟨true, rfl, ?_⟩, rfl⟩
  rcases H.out with h | h
  ·simp [h.2]
  ·omega
 ·subst hi
  clear hf HI
  go_wp2_with fail
  go_ret
  refine ⟨⟨false, rfl, ?_⟩, rfl⟩
  rcases H.out with h | h
  ·omega
  ·simp [h.2]
end Go.Proofs.YtanmbhakjfhhdaaGreatDoor
/- Package wave's contracts on samples, third part: Check. -/
namespace Go.Proofs.YtanmbhakjfhhdaaGreatDoor
set_option linter.unusedVariables false
set_option maxRecDepth 100000
set_option linter.unusedSimpArgs false
open Go.RowKit Go.ChangeShapes Go.WideShapes
theorem SmOk.row {w : World} {S : Smp} (h : SmOk w S) (i : Nat) (hi : i < S.n) : RdRow w (S.Q i) (S.M i) (S.X i) := (h.rows.row i hi).2.2
theorem wrongI_ok {s : ByteArray} {n r c : Int} {lp : Bool} {a b : Int} (h : wrongI s n r c lp a b = 0) : nameB s = true ∧ (1 ≤ r ∧ r ≤ 192000) ∧ (1 ≤ c ∧ c ≤ 2) ∧ (1 ≤ n ∧ n ≤ 1048576) ∧ loopP lp a b n := by
 unfold wrongI at h
 cases hn : nameB s
 ·rw [hn, if_pos rfl] at h; omega
 rw [hn, if_neg (by simp)] at h
 by_cases h1 : r < 1 ∨ 192000 < r
 ·rw [if_pos h1] at h; omega
 rw [if_neg h1] at h
 by_cases h2 : (c < 1 ∨ 2 < c) ∨ n < 1 ∨ 1048576 < n
 ·rw [if_pos h2] at h; omega
 rw [if_neg h2] at h
 by_cases h3 : loopP lp a b n
 ·exact ⟨rfl, by omega, by omega, by omega, h3⟩
 ·rw [if_neg h3] at h; omega
theorem Smp.check_wrong {S : Smp} (h : wrongI S.s S.len S.r S.n S.lp S.a S.b ≠ 0) : S.check = wrongI S.s S.len S.r S.n S.lp S.a S.b := by unfold Smp.check; rw [if_pos h]
theorem Smp.check_odd {S : Smp} (h : wrongI S.s S.len S.r S.n S.lp S.a S.b = 0) (h2 : S.odd) : S.check = 12 := by unfold Smp.check; rw [if_neg (by omega), if_pos h2]
theorem Smp.check_far {S : Smp} (h : wrongI S.s S.len S.r S.n S.lp S.a S.b = 0) (h2 : ¬ S.odd) (h3 : S.far) : S.check = 5 := by unfold Smp.check; rw [if_neg (by omega), if_neg h2, if_pos h3]
theorem Smp.check_ok {S : Smp} (h : wrongI S.s S.len S.r S.n S.lp S.a S.b = 0) (h2 : ¬ S.odd) (h3 : ¬ S.far) : S.check = 0 := by unfold Smp.check; rw [if_neg (by omega), if_neg h2, if_neg h3]
set_option maxHeartbeats 4000000 in
theorem Check_any (S : Smp) (w : World) (hs : SmOk w S) :
  Calls Tryz.prog 51 #[S.val] w fun e w' => e = .returned (.int .i64 S.check) ∧ Old w w' := by
 have HO := Lib.hid (Old.alloc w (.cells S.cells 50))
 have HB := Lib.hid (SmB.new w S)
 obtain ⟨c0, c1, c2, c3, c4, c5⟩ := (SmB.new w S).at
 have HOK := Lib.hid hs
 have HM := Lib.hid (Meta_any S (w.alloc (.cells S.cells 50)) (hs.old (Old.alloc _ _)))
 have HWr : Hid (∀ w, Calls Tryz.prog 73 #[.agg (metaC S.s S.len S.r S.n S.lp S.a S.b)] w fun e w' => e = .returned (.int .i64 (wrongI S.s S.len S.r S.n S.lp S.a S.b)) ∧ Old w w') := Lib.hid (fun w => wrong_any S.s S.len S.r S.n S.lp S.a S.b 0 0 w hs.size)
 unfold Smp.val
 clear hs
 go_enter Tryz.func51, Tryz.ntmps51
 go_wp2_with fail
 refine HM.out.mono ?_
 rintro e w1 ⟨rfl, ho1⟩
 have HO1 := Lib.hid (HO.out.trans ho1)
 have HB1 := Lib.hid (HB.out.old ho1)
 clear HO HB HM ho1 c0 c1 c2 c3 c4 c5
 unfold metaC at *
 go_wp2_with fail
 refine (HWr.out _).mono ?_
 rintro e w2 ⟨rfl, ho2⟩
 obtain ⟨M, hM⟩ : ∃ M : Array Value, M = #[.string S.s, .int .i64 S.len, .int .i64 S.r, .int .i64 S.n, .bool S.lp, .int .i64 S.a, .int .i64 S.b, .int .i64 0, .int .i64 0] := ⟨_, rfl⟩
 have HM1 : Hid (M[1]? = some (.int .i64 S.len)) := Lib.hid (by rw [hM]; rfl)
 rw [← hM] at ho2
 clear hM
 have hg := lt_of_block HB1.out
 have cl : w2.cell? ⟨w1.heap.size, 1, none⟩ = some (.int .i64 S.len) := by
  have h1 : (w1.alloc (.cells M 45)).heap[w1.heap.size]? = some (.cells M 45 (0, 0)) := heap_alloc_new _ _
  exact (cell_of_row _ _ _ _ _ _ ((ho2.block _ (lt_of_block h1)).trans h1)).trans HM1.out
 have o12 := (Old.alloc w1 (.cells M 45)).trans ho2
 have HO2 := Lib.hid (HO1.out.trans o12)
 obtain ⟨_, _, _, _, _, c5⟩ := (HB1.out.old o12).at
 have HOK2 := Lib.hid (HOK.out.old HO2.out)
 clear HO1 HB1 HWr ho2 o12 HM1 hg HOK
 obtain ⟨v, hv⟩ : ∃ v, v = wrongI S.s S.len S.r S.n S.lp S.a S.b := ⟨_, rfl⟩
 rw [← hv]
 generalize w1.heap.size = mb at *
 by_cases h0 : v = 0
 case neg =>
  have hc := Smp.check_wrong (S := S) (by rw [← hv]; exact h0)
  rw [← hv] at hc
  have q : (v != 0) = true := by simpa using h0
  have HC := Lib.hid hc
  clear hc hv h0 HOK2 cl c5
  go_wp2_with fail
  go_ret
  exact ⟨ret_int HC.out.symm, HO2.out⟩
 rw [h0] at hv
 subst h0
 have HV := Lib.hid hv.symm
 have hok := wrongI_ok hv.symm
 have hn1 : 1 ≤ S.n := by have := hok.2.2.1; omega
 have hn2 : S.n ≤ 2 := by have := hok.2.2.1; omega
 have hl : S.len = (S.M 0 : Int) := by unfold Smp.len; rw [if_neg (by omega)]
 obtain ⟨g, o, hp, hg, hc⟩ := HOK2.out.rows.cell (by omega)
 obtain ⟨n, hn⟩ : ∃ n, n = S.n := ⟨_, rfl⟩
 have HC : Hid (∀ i, i < n → w2.cell? ⟨g, o + i, none⟩ = some (.slice (S.Q i) (S.M i) (S.C i))) := Lib.hid (by rw [hn]; exact hc)
 rw [hp, ← hn] at c5
 rw [← hn] at hn1 hn2
 have HN := Lib.hid hn
 clear hn
 rw [hl] at cl
 clear hv hok hl hc hp
 generalize S.c = cap at *
 go_wp2_with fail
 go_loop [19] (fun i => ∃ k : Nat, k ≤ n ∧ i = .int .i64 k ∧ Hid (∀ j, j < k → S.M j = S.M 0)) (fun i => n - (intOf i).toNat)
 case atStart => exact ⟨0, by omega, rfl, Lib.hid fun j hj => by omega⟩
 case round =>
  obtain ⟨k, hk, rfl, HJ⟩ := hrel
  by_cases hkn : k < n
  ·have ck := HC.out k hkn
   by_cases hm : S.M k = S.M 0
   ·have HJ2 := Lib.hid (show ∀ j, j < k + 1 → S.M j = S.M 0 from fun j hj => by
     by_cases e : j = k
     ·subst e; exact hm
     ·exact HJ.out j (by omega))
    have q : ((S.M k : Int) != (S.M 0 : Int)) = false := by rw [hm]; simp
    clear HJ hm
    go_wp2_with fail
    go_round
    case rel => exact ⟨k + 1, by omega, by go_num, HJ2⟩
    case measure => simp [intOf]; omega
   ·have q : ((S.M k : Int) != (S.M 0 : Int)) = true := by simp only [bne_iff_ne, ne_eq]; omega
    have hck := Smp.check_odd HV.out ⟨k, by have := HN.out; omega, hm⟩
    have HCK := Lib.hid hck
    clear HJ hm hck
    go_wp2_with fail
    go_ret
    exact ⟨ret_int HCK.out.symm, HO2.out⟩
  ·have hodd : ¬ S.odd := fun ⟨j, h1, h2⟩ => h2 (HJ.out j (by have := HN.out; omega))
   have HODD := Lib.hid hodd
   obtain rfl : k = n := by omega
   clear HJ hodd cl hkn hk
   go_wp2_with fail
   go_loop [32] (fun i => ∃ j : Nat, j ≤ k ∧ i = .int .i64 j ∧ Hid (∀ m, m < j → ¬ farP (S.M m) (S.X m))) (fun i => k - (intOf i).toNat)
   case atStart => exact ⟨0, by omega, rfl, Lib.hid fun j hj => by omega⟩
   case round =>
    obtain ⟨j, hj, rfl, HJ⟩ := hrel
    by_cases hjn : j < k
    ·have ck := HC.out j hjn
     have hr := HOK2.out.row j (by have := HN.out; omega)
     have hrr := HOK2.out.rows.row j (by have := HN.out; omega)
     have HF := Lib.hid (ContainsBeyond_any (S.Q j) (S.M j) (S.C j) (S.X j) w2 hr (by have := hrr.1; have := hrr.2.1; unfold maxLen at *; omega))
     clear hr hrr
     go_wp2_with fail
     refine HF.out.mono ?_
     rintro e w3 ⟨⟨b, rfl, hbf⟩, rfl⟩
     clear HF
     cases b
     ·have HJ2 := Lib.hid (show ∀ m, m < j + 1 → ¬ farP (S.M m) (S.X m) from fun m hm => by
       by_cases e : m = j
       ·subst e; exact fun h => by have := hbf.2 h; cases this
       ·exact HJ.out m (by omega))
      clear HJ hbf
      go_wp2_with fail
      go_round
      case rel => exact ⟨j + 1, by omega, by go_num, HJ2⟩
      case measure => simp [intOf]; omega
     ·have hck := Smp.check_far HV.out HODD.out ⟨j, by have := HN.out; omega, hbf.1 rfl⟩
      have HCK := Lib.hid hck
      clear HJ hbf hck
      go_wp2_with fail
      go_ret
      exact ⟨ret_int HCK.out.symm, HO2.out⟩
    ·have hck := Smp.check_ok HV.out HODD.out fun ⟨m, h1, h2⟩ => HJ.out m (by have := HN.out; omega) h2
     have HCK := Lib.hid hck
     clear HJ hck
     go_wp2_with fail
     go_ret
     exact ⟨ret_int HCK.out.symm, HO2.out⟩
end Go.Proofs.YtanmbhakjfhhdaaGreatDoor
/- Samples in boxes of their own: what is written into them. -/
namespace Go.Proofs.YtanmbhakjfhhdaaGreatDoor
set_option linter.unusedVariables false
set_option maxRecDepth 100000
open Go.RowKit Go.ChangeShapes Go.WideShapes
def Smp.celled (S : Smp) (p : Option Addr) (c : Nat) (Q : Nat → Option Addr) (C : Nat → Nat) : Smp := { S with p := p, c := c, Q := Q, C := C }
structure FewSt (w W : World) (S : Smp) (z : Array Value) : Prop where
 b : SmB W w.heap.size S
 r : W.heap[w.heap.size + 1]? = some (.cells z 50 (0, 0))
 old : Old w W
theorem FewSt.kept {w W W' : World} {S : Smp} {z : Array Value} (h : FewSt w W S z) (k : Kept (fun q => q < w.heap.size + 2) W W') : FewSt w W' S z :=
 ⟨(k.block _ (by omega)).trans h.b, (k.block _ (by omega)).trans h.r, h.old.after k (fun _ _ => by omega)⟩
theorem FewSt.lt {w W : World} {S : Smp} {z : Array Value} (h : FewSt w W S z) : w.heap.size + 2 ≤ W.heap.size := lt_of_block h.r
theorem FewSt.celled {w W : World} {S : Smp} {z : Array Value} (h : FewSt w W S z) (p : Option Addr) (c : Nat) (Q : Nat → Option Addr) (C : Nat → Nat) : FewSt w (W.setCell ⟨w.heap.size, 5, none⟩ (.slice p S.n c)) (S.celled p c Q C) z :=
 ⟨heap_setCell_same _ _ _ _ _ _ h.b, (heap_setCell_other _ _ _ _ (by simp)).trans h.r, h.old.after (X := fun k => k < w.heap.size) (Kept.setCell _ (a := ⟨w.heap.size, 5, none⟩) (by simp) _) fun _ h => h⟩
theorem Rws.but {w w' : World} {p : Option Addr} {n : Nat} {Q : Nat → Option Addr} {M C : Nat → Nat} {X : Nat → Nat → Int} {b : Nat} (h : Rws w p n Q M C X) (hs : w'.heap.size = w.heap.size) (hk : ∀ k, k ≠ b → w'.heap[k]? = w.heap[k]?)
  (hp : ∀ g o, 0 < n → p = some ⟨g, o, none⟩ → g ≠ b) (hq : ∀ i g o, i < n → 0 < M i → Q i = some ⟨g, o, none⟩ → g ≠ b) : Rws w' p n Q M C X where
 cell := fun hn => by
  obtain ⟨g, o, h1, h2, h3⟩ := h.cell hn
  exact ⟨g, o, h1, by omega, fun i hi => (World.cell?_of_block (a := ⟨g, o + i, none⟩) (hk g (hp g o hn h1))).trans (h3 i hi)⟩
 row := fun i hi => by
  obtain ⟨a, b', c⟩ := h.row i hi
  refine ⟨a, b', fun hm => ?_⟩
  obtain ⟨g, o, h1, h2, h3⟩ := c hm
  exact ⟨g, o, h1, by omega, fun j hj => (World.cell?_of_block (a := ⟨g, o + j, none⟩) (hk g (hq i g o hi hm h1))).trans (h3 j hj)⟩
end Go.Proofs.YtanmbhakjfhhdaaGreatDoor
/- Contracts of (lift.Pairs).Turn and Back over a row of eight of one block and eight numbers of another (by wip/tools/lapd.py). -/
namespace Go.Proofs.YtanmbhakjfhhdaaGreatDoor
set_option linter.unusedVariables false
set_option maxRecDepth 100000
open Go.RowKit
def metA (wa : Int → Int → Int → Int → Int) (fa fb : Nat → Int) : Nat → Int := fun k => wa (fa k) (fb k) (turnP k) (turnU k)
def upto (n : Nat) (f g : Nat → Int) : Nat → Int := fun k => if k < n then f k else g k
def from_ (n : Nat) (f g : Nat → Int) : Nat → Int := fun k => if k < n then g k else f k
theorem upto_zero (f g : Nat → Int) : upto 0 f g = g := by funext k; unfold upto; rw [if_neg (by omega)]
structure PT (X : Nat → Prop) (w : World) (bt tt ga gb m ob : Nat) (F fa' fb' : Nat → Int) (W : World) : Prop where
 a : CellsAt W ga 8 fa'
 b : CellsAt W gb m (patch F ob 8 fb')
 t : W.heap[bt]? = some (.cells T8 tt (0, 0))
 k : Kept X w W
theorem PT.ext {X : Nat → Prop} {w : World} {bt tt ga gb m ob : Nat} {F fa fa' fb fb' : Nat → Int} {W : World} (h : PT X w bt tt ga gb m ob F fa fb W) (ha : ∀ j, j < 8 → fa j = fa' j) (hb : ∀ j, j < 8 → fb j = fb' j) : PT X w bt tt ga gb m ob F fa' fb' W :=
 ⟨h.a.ext ha, h.b.ext fun j _ => by unfold patch; split <;> first | rfl | exact hb _ (by omega), h.t, h.k⟩
theorem PT.step {X : Nat → Prop} {w W V : World} {bt tt ga gb m ob k : Nat} {F fa fb : Nat → Int} (h : PT X w bt tt ga gb m ob F fa fb W) (ho : Old W V) (hX : ∀ q, X q → q < w.heap.size) (hk : k < 8) (hm : ob + 8 ≤ m) (h1 : ga ≠ gb) (h2 : bt ≠ ga) (h3 : bt ≠ gb) (xa : ¬ X ga) (xb : ¬ X gb) (va vb : Int) :
  PT X w bt tt ga gb m ob F (fun j => if j = k then va else fa j) (fun j => if j = k then vb else fb j) ((V.setCell ⟨ga, k, none⟩ (.int .i64 va)).setCell ⟨gb, ob + k, none⟩ (.int .i64 vb)) := by
 have a1 := (h.a.old ho).set k hk va
 have b1 := (h.b.old ho)
 refine ⟨a1.setOther (a := ⟨gb, ob + k, none⟩) (fun e => h1 e.symm) _, ?_, ?_, ((h.k.trans (Kept.mono ho fun q hq => Nat.lt_of_lt_of_le (hX q hq) h.k.size)).trans (Kept.setCell _ (a := ⟨ga, k, none⟩) xa _)).trans (Kept.setCell _ (a := ⟨gb, ob + k, none⟩) xb _)⟩
 ·refine ((b1.setOther (a := ⟨ga, k, none⟩) h1 _).set (ob + k) (by omega) vb).ext fun j _ => ?_
  unfold patch
  dsimp only
  by_cases e : j = ob + k
  ·subst e; rw [if_pos rfl, if_pos ⟨by omega, by omega⟩, if_pos (by omega)]
  ·rw [if_neg e]
   split
   ·rw [if_neg (by omega)]
   ·rfl
 ·rw [Below.heap_setCell _ _ _ _ h3, Below.heap_setCell _ _ _ _ h2]
  exact (ho.block bt (lt_of_block h.t)).trans h.t
set_option maxRecDepth 100000 in
set_option maxHeartbeats 4000000 in
theorem PTurn_any (X : Nat → Prop) (ga gb m ob ca cb : Nat) (fa F : Nat → Int) (w : World) (ha : CellsAt w ga 8 fa) (hb : CellsAt w gb m F) (hm : ob + 8 ≤ m) (hne : ga ≠ gb) (xa : ¬ X ga) (xb : ¬ X gb) (hX : ∀ q, X q → q < w.heap.size) :
  Calls Tryz.prog 155 #[.agg T8, .slice (some ⟨ga, 0, none⟩) 8 ca, .slice (some ⟨gb, ob, none⟩) 8 cb] w fun e w' => e = .returned (.tuple #[]) ∧
   CellsAt w' ga 8 (metA turnWA fa (fun k => F (ob + k))) ∧ CellsAt w' gb m (patch F ob 8 (metA turnWB fa (fun k => F (ob + k)))) ∧ Kept X w w' := by
 have hs := T8_size
 have HT := Lib.hid T8_at
 have HZ : Hid ((Tryz.prog.info? 175).map (·.size) = some 16) := Lib.hid (by kernel_rfl)
 have hC := Lib.hid (fun w => count_any (some ⟨ga, 0, none⟩) (some ⟨gb, ob, none⟩) ca cb w)
 have H0 : Hid (∀ W, Old (w.alloc (.cells T8 175)) W → PT X w w.heap.size 175 ga gb m ob F fa (fun k => F (ob + k)) W) := fun W hW => by
  have h1 := (Old.alloc w (.cells T8 175)).trans hW
  refine ⟨ha.old h1, (hb.old h1).ext fun j hj => ?_, (hW.block _ (by simp)).trans (heap_alloc_new _ _), Kept.mono h1 hX⟩
  unfold patch
  dsimp only
  split
  ·rw [show ob + (j - ob) = j by omega]
  ·rfl
 have hga := ha.lt
 have hgb := hb.lt
 have HP : Hid (PT X w w.heap.size 175 ga gb m ob F = PT X w w.heap.size 175 ga gb m ob F) := rfl
 clear ha hb HP
 generalize hR : T8 = R at hs hC ⊢
 have HR := Lib.hid hR
 clear hR
 go_enter Tryz.func155, Tryz.ntmps155
 go_wp2_with (with_reducible refine wpList_load_row rfl 175 _ rfl w.heap.size rfl 175 R (0, 0) _ (heap_alloc_new _ _) Tryz.underlying175 rfl (by rw [hs]; exact HZ.out) ?_)
 refine (hC.out _).mono ?_
 rintro e w1 ⟨rfl, ho1⟩
 have H1 : Hid (PT X w w.heap.size 175 ga gb m ob F fa (fun k => F (ob + k)) w1) := H0.out w1 (by rw [HR.out]; exact ho1)
 clear H0 ho1 hC
 go_wp2_with fail
 go_loopw [11] (fun i wr => ∃ k : Nat, k ≤ 8 ∧ i = .int .i64 k ∧ Hid (PT X w w.heap.size 175 ga gb m ob F (upto k (metA turnWA fa (fun k => F (ob + k))) fa) (upto k (metA turnWB fa (fun k => F (ob + k))) (fun k => F (ob + k))) wr)) (fun i _ => 8 - (intOf i).toNat)
 case atStart => exact ⟨0, by omega, rfl, by rw [upto_zero, upto_zero]; exact H1⟩
 case round =>
  obtain ⟨k, hk, rfl, HS⟩ := hrel
  clear H1
  by_cases hlt : k < 8
  ·have i1 : (0 : Int) ≤ k := by omega
   have i2 : (k : Int) < 8 := by omega
   have hk8 : k < 8 := by omega
   obtain ⟨ga', hga'⟩ : ∃ f, f = upto k (metA turnWA fa (fun k => F (ob + k))) fa := ⟨_, rfl⟩
   obtain ⟨gb', hgb'⟩ : ∃ f, f = upto k (metA turnWB fa (fun k => F (ob + k))) (fun k => F (ob + k)) := ⟨_, rfl⟩
   have ea : ga' k = fa k := by rw [hga']; unfold upto; rw [if_neg (by omega)]
   have eb : gb' k = F (ob + k) := by rw [hgb']; unfold upto; rw [if_neg (by omega)]
   rw [← hga', ← hgb'] at HS
   have hcT := fun w => Turn_all (fa k) (F (ob + k)) (turnP k) (turnU k) w
   have na : ∀ j, j < 8 → (if j = k then turnWA (fa k) (F (ob + k)) (turnP k) (turnU k) else ga' j) = upto (k + 1) (metA turnWA fa (fun k => F (ob + k))) fa j := fun j hj => by
    rw [hga']; unfold upto metA
    by_cases e : j = k
    ·subst e; rw [if_pos rfl, if_pos (by omega)]
    ·rw [if_neg e]
     by_cases c : j < k
     ·rw [if_pos c, if_pos (by omega)]
     ·rw [if_neg c, if_neg (by omega)]
   have nb : ∀ j, j < 8 → (if j = k then turnWB (fa k) (F (ob + k)) (turnP k) (turnU k) else gb' j) = upto (k + 1) (metA turnWB fa (fun k => F (ob + k))) (fun k => F (ob + k)) j := fun j hj => by
    rw [hgb']; unfold upto metA
    by_cases e : j = k
    ·subst e; rw [if_pos rfl, if_pos (by omega)]
    ·rw [if_neg e]
     by_cases c : j < k
     ·rw [if_pos c, if_pos (by omega)]
     ·rw [if_neg c, if_neg (by omega)]
   obtain ⟨x, hx⟩ : ∃ x, x = fa k := ⟨_, rfl⟩
   obtain ⟨y, hy⟩ : ∃ y, y = F (ob + k) := ⟨_, rfl⟩
   rw [← hx, ← hy] at hcT na nb
   rw [← hx] at ea
   rw [← hy] at eb
   have hT8 := HT.out k hk8
   rw [HR.out] at hT8
   have ht := HS.out.t
   rw [HR.out] at ht
   generalize turnP k = pv at *
   generalize turnU k = uv at *
   generalize hva : turnWA x y pv uv = va at *
   generalize hvb : turnWB x y pv uv = vb at *
   have NX : Hid (∀ V, Old wr.drew V → PT X w w.heap.size 175 ga gb m ob F (upto (k + 1) (metA turnWA fa (fun k => F (ob + k))) fa) (upto (k + 1) (metA turnWB fa (fun k => F (ob + k))) (fun k => F (ob + k))) ((V.setCell ⟨ga, k, none⟩ (.int .i64 va)).setCell ⟨gb, ob + k, none⟩ (.int .i64 vb))) := fun V hV =>
    (HS.out.step (Old.drew (Old.refl _) |>.trans hV) hX hk8 hm hne (by omega) (by omega) xa xb va vb).ext na nb
   have keep1 : ∀ V : World, Old wr.drew V → V.cell? ⟨w.heap.size, k * 2, none⟩ = some (.int .i64 pv) ∧ V.cell? ⟨w.heap.size, k * 2 + 1, none⟩ = some (.int .i64 uv) := fun V hV => by
    have e : V.heap[w.heap.size]? = some (.cells R 175 (0, 0)) := (hV.block _ (lt_of_block ht)).trans ht
    exact ⟨(cell_of_row _ _ _ _ _ _ e).trans hT8.1, (cell_of_row _ _ _ _ _ _ e).trans hT8.2⟩
   have keep2 : ∀ (V : World) (g j : Nat) (v : Value), w.heap.size ≠ g → (V.cell? ⟨w.heap.size, k * 2, none⟩ = some (.int .i64 pv) ∧ V.cell? ⟨w.heap.size, k * 2 + 1, none⟩ = some (.int .i64 uv)) → (V.setCell ⟨g, j, none⟩ v).cell? ⟨w.heap.size, k * 2, none⟩ = some (.int .i64 pv) ∧ (V.setCell ⟨g, j, none⟩ v).cell? ⟨w.heap.size, k * 2 + 1, none⟩ = some (.int .i64 uv) := fun V g j v hg hV =>
    ⟨(World.cell?_setCell_far _ _ _ _ (fun e => hg e.symm)).trans hV.1, (World.cell?_setCell_far _ _ _ _ (fun e => hg e.symm)).trans hV.2⟩
   have cells : ∀ V : World, Old wr.drew V → V.cell? ⟨ga, k, none⟩ = some (.int .i64 x) ∧ V.cell? ⟨gb, ob + k, none⟩ = some (.int .i64 y) ∧ V.frozen? ⟨ga, k, none⟩ = false ∧ V.frozen? ⟨gb, ob + k, none⟩ = false ∧
     (V.setCell ⟨ga, k, none⟩ (.int .i64 va)).cell? ⟨gb, ob + k, none⟩ = some (.int .i64 y) ∧ (V.setCell ⟨ga, k, none⟩ (.int .i64 va)).frozen? ⟨gb, ob + k, none⟩ = false := fun V hV => by
    have a1 := (HS.out.a.drew.old hV).cell k hk8
    have a2 := (HS.out.a.drew.old hV).frz k hk8
    have b1 := (HS.out.b.drew.old hV).cell (ob + k) (by omega)
    have b2 := (HS.out.b.drew.old hV).frz (ob + k) (by omega)
    unfold patch at b1
    rw [if_pos ⟨by omega, by omega⟩, show ob + k - ob = k by omega, eb] at b1
    rw [ea] at a1
    refine ⟨a1, b1, a2, b2, ?_, ?_⟩
    ·rw [World.cell?_setCell_far _ _ _ _ (by exact hne)]; exact b1
    ·rw [World.frozen?_setCell]; exact b2
   have HK1 := Lib.hid keep1
   have HK2 := Lib.hid keep2
   have HCl := Lib.hid cells
   have HcT := Lib.hid hcT
   have nga : w.heap.size ≠ ga := by omega
   have ngb : w.heap.size ≠ gb := by omega
   obtain ⟨c1, c2, c3, c4, c5, c6⟩ := cells wr.drew (Old.refl _)
   clear keep1 keep2 cells hcT na nb hx hy hga' hgb' ea eb hT8 ht HS HT HR hva hvb HZ
   go_wp2_with fail
   refine wp_region_held_drew (S := (fun w' => w'.cell? ⟨w.heap.size, k * 2, none⟩ = some (.int .i64 pv) ∧ w'.cell? ⟨w.heap.size, k * 2 + 1, none⟩ = some (.int .i64 uv))) (by kernel_rfl) ?_ (fun hHeld => ?_)
   ·(try dsimp only); exact HK1.out _ (Old.refl _)
   refine wpT 0 (v := ?_) rfl (Or.inl ⟨by kernel_rfl, ?_⟩) (by assumption) ?_; rotate_left; (intro w hSw; (try dsimp only at hSw); go_simp; try with_reducible rfl); try simp only [Act.put, sA, sZ, sS]
   refine wpT 1 (v := ?_) rfl (Or.inl ⟨by kernel_rfl, ?_⟩) (by assumption) ?_; rotate_left; (intro w hSw; (try dsimp only at hSw); go_simp; try with_reducible rfl); try simp only [Act.put, sA, sZ, sS]
   refine wpT 2 (v := ?_) rfl (Or.inl ⟨by kernel_rfl, ?_⟩) (by assumption) ?_; rotate_left; (intro w hSw; (try dsimp only at hSw); go_simp; try with_reducible rfl); try simp only [Act.put, sA, sZ, sS]
   refine wpT 3 (v := ?_) rfl (Or.inl ⟨by kernel_rfl, ?_⟩) (by assumption) ?_; rotate_left; (intro w hSw; (try dsimp only at hSw); go_simp; try with_reducible rfl); try simp only [Act.put, sA, sZ, sS]
   refine wpT 4 (v := ?_) rfl (Or.inl ⟨by kernel_rfl, ?_⟩) (by assumption) ?_; rotate_left; (intro w hSw; (try dsimp only at hSw); go_simp; try with_reducible rfl); try simp only [Act.put, sA, sZ, sS]
   refine wpT 5 (v := ?_) rfl (Or.inl ⟨by kernel_rfl, ?_⟩) (by assumption) ?_; rotate_left; (intro w hSw; (try dsimp only at hSw); go_simp; try with_reducible rfl); try simp only [Act.put, sA, sZ, sS]
   refine wpT 6 (v := ?_) rfl (Or.inl ⟨by kernel_rfl, ?_⟩) (by assumption) ?_; rotate_left; (intro w hSw; (try dsimp only at hSw); go_simp; try with_reducible rfl); try simp only [Act.put, sA, sZ, sS]
   refine wpT 8 (v := ?_) rfl (Or.inl ⟨by kernel_rfl, ?_⟩) (by assumption) ?_; rotate_left; (intro w hSw; (try dsimp only at hSw); go_simp; try with_reducible rfl); try simp only [Act.put, sA, sZ, sS]
   refine wpT 9 (v := ?_) rfl (Or.inl ⟨by kernel_rfl, ?_⟩) (by assumption) ?_; rotate_left; (intro w hSw; (try dsimp only at hSw); go_simp; try with_reducible rfl); try simp only [Act.put, sA, sZ, sS]
   refine wpT 10 (v := ?_) rfl (Or.inl ⟨by kernel_rfl, ?_⟩) (by assumption) ?_; rotate_left; (intro w hSw; (try dsimp only at hSw); go_simp; try with_reducible rfl); try simp only [Act.put, sA, sZ, sS]
   refine wpT 12 (v := ?_) rfl (Or.inl ⟨by kernel_rfl, ?_⟩) (by assumption) ?_; rotate_left; (intro w hSw; (try dsimp only at hSw); go_simp; try with_reducible rfl); try simp only [Act.put, sA, sZ, sS]
   refine wpT 13 (v := ?_) rfl (Or.inl ⟨by kernel_rfl, ?_⟩) (by assumption) ?_; rotate_left; (intro w hSw; (try dsimp only at hSw); go_simp; try with_reducible rfl); try simp only [Act.put, sA, sZ, sS]
   refine wpT 14 (v := ?_) rfl (Or.inl ⟨by kernel_rfl, ?_⟩) (by assumption) ?_; rotate_left; (intro w hSw; (try dsimp only at hSw); go_simp; try with_reducible rfl); try simp only [Act.put, sA, sZ, sS]
   refine wpT 15 (v := ?_) rfl (Or.inl ⟨by kernel_rfl, ?_⟩) (by assumption) ?_; rotate_left; (intro w hSw; (try dsimp only at hSw); go_simp; try with_reducible rfl); try simp only [Act.put, sA, sZ, sS]
   refine wpAnyH_ready (rs := [7, 11]) (by kernel_rfl) (by simp) ?_
   refine AllReadyH.cons (o := ⟨_, _, _, _, _, _⟩) rfl (fun K hK => ?_) (AllReadyH.cons (o := ⟨_, _, _, _, _, _⟩) rfl (fun K hK => ?_) AllReadyH.nil)
   ·go_simp
    refine hK.out _ _ ?_ (fun hHeld => ?_)
    ·(try dsimp only); exact hHeld
    clear hK K
    try simp only [Act.put, sA, sZ, sS]
    refine wpAnyH_ready (rs := [11]) (by kernel_rfl) (by simp) ?_
    refine AllReadyH.cons (o := ⟨_, _, _, _, _, _⟩) rfl (fun K hK => ?_) AllReadyH.nil
    go_simp
    refine hK.out _ _ ?_ (fun hHeld => ?_)
    ·(try dsimp only); exact hHeld
    clear hK K
    try simp only [Act.put, sA, sZ, sS]
    refine wpAnyH_ready (rs := [16]) (by kernel_rfl) (by simp) ?_
    refine AllReadyH.cons (o := ⟨_, _, _, _, _, _⟩) rfl (fun K hK => ?_) AllReadyH.nil
    go_simp
    refine (HcT.out _).mono ?_
    rintro e V1 ⟨rfl, o1⟩
    go_wp2_with fail
    refine hK.out _ _ ?_ (fun hHeld => ?_)
    ·(try dsimp only); exact HK1.out _ o1
    clear hK K
    try simp only [Act.put, sA, sZ, sS]
    refine wpT 17 (v := ?_) rfl (Or.inl ⟨by kernel_rfl, ?_⟩) (by assumption) ?_; rotate_left; (intro w hSw; (try dsimp only at hSw); go_simp; try with_reducible rfl); try simp only [Act.put, sA, sZ, sS]
    refine wpT 18 (v := ?_) rfl (Or.inl ⟨by kernel_rfl, ?_⟩) (by assumption) ?_; rotate_left; (intro w hSw; (try dsimp only at hSw); go_simp; try with_reducible rfl); try simp only [Act.put, sA, sZ, sS]
    refine wpT 19 (v := ?_) rfl (Or.inl ⟨by kernel_rfl, ?_⟩) (by assumption) ?_; rotate_left; (intro w hSw; (try dsimp only at hSw); go_simp; try with_reducible rfl); try simp only [Act.put, sA, sZ, sS]
    refine wpT 20 (v := ?_) rfl (Or.inl ⟨by kernel_rfl, ?_⟩) (by assumption) ?_; rotate_left; (intro w hSw; (try dsimp only at hSw); go_simp; try with_reducible rfl); try simp only [Act.put, sA, sZ, sS]
    obtain ⟨-, -, d3, d4, d5, d6⟩ := HCl.out V1 o1
    have dc := (HCl.out V1 o1).1
    refine wpAnyH_ready (rs := [21]) (by kernel_rfl) (by simp) ?_
    refine AllReadyH.cons (o := ⟨_, _, _, _, _, _⟩) rfl (fun K hK => ?_) AllReadyH.nil
    go_simp
    refine hK.out _ _ ?_ (fun hHeld => ?_)
    ·(try dsimp only); exact HK2.out _ _ _ _ nga (HK1.out _ o1)
    clear hK K
    try simp only [Act.put, sA, sZ, sS]
    refine wpT 22 (v := ?_) rfl (Or.inl ⟨by kernel_rfl, ?_⟩) (by assumption) ?_; rotate_left; (intro w hSw; (try dsimp only at hSw); go_simp; try with_reducible rfl); try simp only [Act.put, sA, sZ, sS]
    refine wpAnyH_ready (rs := [23]) (by kernel_rfl) (by simp) ?_
    refine AllReadyH.cons (o := ⟨_, _, _, _, _, _⟩) rfl (fun K hK => ?_) AllReadyH.nil
    go_simp
    refine hK.out _ _ ?_ (fun hHeld => ?_)
    ·(try dsimp only); exact HK2.out _ _ _ _ ngb (HK2.out _ _ _ _ nga (HK1.out _ o1))
    clear hK K
    try simp only [Act.put, sA, sZ, sS]
    refine wpAnyH_done (by kernel_rfl) ?_ _
    have HN := Lib.hid (NX.out V1 o1)
    clear HK1 HK2 HCl NX HcT o1 c1 c2 c3 c4 c5 c6 d3 d4 d5 d6 dc
    go_wp2_with fail
    go_roundw
    case rel => exact ⟨k + 1, by omega, by go_num, HN⟩
    case measure => (simp [intOf]; try omega)
   ·go_simp
    refine hK.out _ _ ?_ (fun hHeld => ?_)
    ·(try dsimp only); exact hHeld
    clear hK K
    try simp only [Act.put, sA, sZ, sS]
    refine wpAnyH_ready (rs := [7]) (by kernel_rfl) (by simp) ?_
    refine AllReadyH.cons (o := ⟨_, _, _, _, _, _⟩) rfl (fun K hK => ?_) AllReadyH.nil
    go_simp
    refine hK.out _ _ ?_ (fun hHeld => ?_)
    ·(try dsimp only); exact hHeld
    clear hK K
    try simp only [Act.put, sA, sZ, sS]
    refine wpAnyH_ready (rs := [16]) (by kernel_rfl) (by simp) ?_
    refine AllReadyH.cons (o := ⟨_, _, _, _, _, _⟩) rfl (fun K hK => ?_) AllReadyH.nil
    go_simp
    refine (HcT.out _).mono ?_
    rintro e V1 ⟨rfl, o1⟩
    go_wp2_with fail
    refine hK.out _ _ ?_ (fun hHeld => ?_)
    ·(try dsimp only); exact HK1.out _ o1
    clear hK K
    try simp only [Act.put, sA, sZ, sS]
    refine wpT 17 (v := ?_) rfl (Or.inl ⟨by kernel_rfl, ?_⟩) (by assumption) ?_; rotate_left; (intro w hSw; (try dsimp only at hSw); go_simp; try with_reducible rfl); try simp only [Act.put, sA, sZ, sS]
    refine wpT 18 (v := ?_) rfl (Or.inl ⟨by kernel_rfl, ?_⟩) (by assumption) ?_; rotate_left; (intro w hSw; (try dsimp only at hSw); go_simp; try with_reducible rfl); try simp only [Act.put, sA, sZ, sS]
    refine wpT 19 (v := ?_) rfl (Or.inl ⟨by kernel_rfl, ?_⟩) (by assumption) ?_; rotate_left; (intro w hSw; (try dsimp only at hSw); go_simp; try with_reducible rfl); try simp only [Act.put, sA, sZ, sS]
    refine wpT 20 (v := ?_) rfl (Or.inl ⟨by kernel_rfl, ?_⟩) (by assumption) ?_; rotate_left; (intro w hSw; (try dsimp only at hSw); go_simp; try with_reducible rfl); try simp only [Act.put, sA, sZ, sS]
    obtain ⟨-, -, d3, d4, d5, d6⟩ := HCl.out V1 o1
    have dc := (HCl.out V1 o1).1
    refine wpAnyH_ready (rs := [21]) (by kernel_rfl) (by simp) ?_
    refine AllReadyH.cons (o := ⟨_, _, _, _, _, _⟩) rfl (fun K hK => ?_) AllReadyH.nil
    go_simp
    refine hK.out _ _ ?_ (fun hHeld => ?_)
    ·(try dsimp only); exact HK2.out _ _ _ _ nga (HK1.out _ o1)
    clear hK K
    try simp only [Act.put, sA, sZ, sS]
    refine wpT 22 (v := ?_) rfl (Or.inl ⟨by kernel_rfl, ?_⟩) (by assumption) ?_; rotate_left; (intro w hSw; (try dsimp only at hSw); go_simp; try with_reducible rfl); try simp only [Act.put, sA, sZ, sS]
    refine wpAnyH_ready (rs := [23]) (by kernel_rfl) (by simp) ?_
    refine AllReadyH.cons (o := ⟨_, _, _, _, _, _⟩) rfl (fun K hK => ?_) AllReadyH.nil
    go_simp
    refine hK.out _ _ ?_ (fun hHeld => ?_)
    ·(try dsimp only); exact HK2.out _ _ _ _ ngb (HK2.out _ _ _ _ nga (HK1.out _ o1))
    clear hK K
    try simp only [Act.put, sA, sZ, sS]
    refine wpAnyH_done (by kernel_rfl) ?_ _
    have HN := Lib.hid (NX.out V1 o1)
    clear HK1 HK2 HCl NX HcT o1 c1 c2 c3 c4 c5 c6 d3 d4 d5 d6 dc
    go_wp2_with fail
    go_roundw
    case rel => exact ⟨k + 1, by omega, by go_num, HN⟩
    case measure => (simp [intOf]; try omega)
  ·obtain rfl : k = 8 := by omega
   have HE : Hid (CellsAt wr ga 8 (metA turnWA fa (fun k => F (ob + k))) ∧ CellsAt wr gb m (patch F ob 8 (metA turnWB fa (fun k => F (ob + k)))) ∧ Kept X w wr) := by
    have h := HS.out.ext (fa' := (metA turnWA fa (fun k => F (ob + k)))) (fb' := (metA turnWB fa (fun k => F (ob + k)))) (fun j hj => by unfold upto; rw [if_pos hj]) (fun j hj => by unfold upto; rw [if_pos hj])
    exact ⟨h.a, h.b, h.k⟩
   clear HS HT HR
   go_wp2_with fail
   go_end0
   exact ⟨rfl, HE.out⟩
end Go.Proofs.YtanmbhakjfhhdaaGreatDoor
/- Contract of lap.meet, with either way (by wip/tools/lape.py). -/
namespace Go.Proofs.YtanmbhakjfhhdaaGreatDoor
set_option linter.unusedVariables false
set_option maxRecDepth 100000
open Go.RowKit
theorem part_rev (f : Nat → Int) (a j : Nat) (h : j < 8) : (part f a 8).reverse.getD j 0 = f (a + (7 - j)) := by
 rw [List.getD_eq_getElem?_getD, List.getElem?_reverse (by rw [part_len]; exact h), part_len, ← List.getD_eq_getElem?_getD, show 8 - 1 - j = 7 - j by omega]
 exact part_getD f a 8 (7 - j) (by omega)
def MeetR (wa wb : Way) (X : Nat → Prop) (w : World) (pt : Option Addr) (n : Nat) (F : Nat → Int) (k : Nat) (wr : World) : Prop :=
 OwnR 16 X wr pt n (meetTo wa wb k F) ∧ Kept X w wr
set_option maxRecDepth 100000 in
set_option maxHeartbeats 4000000 in
theorem meetTurn_any (X : Nat → Prop) (pt : Option Addr) (n cap : Nat) (F : Nat → Int) (w : World) (h : OwnR 16 X w pt n F) (hX : ∀ q, X q → q < w.heap.size) (hn : n ≤ 17179869184) :
  Calls Tryz.prog 154 #[.slice pt n cap, .func (.func 155) #[.agg T8] #[]] w fun e w' => e = .returned (.tuple #[]) ∧ OwnR 16 X w' pt n (meetTo turnWA turnWB n F) ∧ Kept X w w' := by
 have H0 : Hid (MeetR turnWA turnWB X w pt n F 1 w) := ⟨by rw [meetTo_one]; exact h, Kept.refl _ _⟩
 have HE0 : Hid (n ≤ 1 → meetTo turnWA turnWB n F = F) := fun hn => by
  rcases (by omega : n = 0 ∨ n = 1) with rfl | rfl
  ·funext q
   obtain ⟨b, r, rfl, hr, _, _⟩ := split16 q
   by_cases h8 : 8 ≤ r
   ·rw [meetTo_hi _ _ _ _ _ _ hr h8, if_neg (by omega)]
   ·rw [meetTo_lo _ _ _ _ _ _ (by omega), if_neg (by omega)]
  ·exact meetTo_one _ _ _
 have HX := Lib.hid hX
 have hR : (Value.agg T8) = .agg T8 := rfl
 clear h hR hX
 generalize hT : T8 = R
 have HR := Lib.hid hT
 clear hT
 go_enter Tryz.func154, Tryz.ntmps154
 go_wp2_with fail
 go_loopw [4] (fun i wr => ∃ k : Nat, 1 ≤ k ∧ (k ≤ n ∨ k = 1) ∧ i = .int .i64 k ∧ Hid (MeetR turnWA turnWB X w pt n F k wr)) (fun i _ => n - (intOf i).toNat)
 case atStart => exact ⟨1, by omega, by omega, rfl, H0⟩
 case round =>
  obtain ⟨k, hk1, hk, rfl, HS⟩ := hrel
  clear H0
  by_cases hlt : k < n
  ·obtain ⟨j, rfl⟩ : ∃ j, k = j + 1 := ⟨k - 1, by omega⟩
   obtain ⟨g, rfl, xg, hc⟩ := HS.out.1 (by omega)
   obtain ⟨M, hM⟩ : ∃ M, M = meetTo turnWA turnWB (j + 1) F := ⟨_, rfl⟩
   rw [← hM] at hc
   have hstep := meetTo_step turnWA turnWB F j
   rw [← hM] at hstep
   have HStep := Lib.hid hstep
   have HC := Lib.hid hc
   have HK := Lib.hid HS.out.2
   have hgl := hc.lt
   have e1 : (((j + 1 : Nat) : Int)) = (j : Int) + 1 := by omega
   have q1 : wrap64 ((j : Int) + 1 - 1) = j := by rw [show (j : Int) + 1 - 1 = j by omega]; exact IntWalk.wrap64_in _ (by omega)
   have hS1 := fun o w => slice_arr_lo (P := Tryz.prog) (t := 67) 16 8 Tryz.block_under Tryz.block_len Tryz.block_elem (by omega) g o w
   have hS2 := fun o w => slice_arr_hi (P := Tryz.prog) (t := 67) 16 8 Tryz.block_under Tryz.block_len Tryz.block_elem (by omega) (by omega) g o w
   rw [show ((8 : Nat) : Int) = 8 from rfl] at hS1 hS2
   have HF1 := Lib.hid (Flip_any (some ⟨g, j * 16 + 8, none⟩) 8 8 (part M (j * 16 + 8) 8) wr (hc.sl (j * 16 + 8) 8 8 (by omega) (by omega) (by unfold maxLen; omega)) (by omega))
   clear hstep hc HS hM
   go_wp2_with fail
   refine HF1.out.mono ?_
   rintro e w1 ⟨v1, rfl, hv1, ho1⟩
   obtain ⟨ga, ca, rfl, xga, hca1, hca2, hA⟩ := hv1.cells (by rw [List.length_reverse, part_len]; omega)
   rw [List.length_reverse, part_len] at hA hca1 ⊢
   have xga' : ¬ X ga := fun e => xga (Nat.lt_of_lt_of_le (HX.out _ e) HK.out.size)
   have hne : ga ≠ g := fun e => xga (by rw [e]; exact hgl)
   have HP := Lib.hid (PTurn_any X ga g (16 * n) ((j + 1) * 16) ca 16 (fun i => (part M (j * 16 + 8) 8).reverse.getD i 0) M w1 hA (HC.out.old ho1) (by omega) hne xga' xg (fun q hq => Nat.lt_of_lt_of_le (HX.out q hq) (Nat.le_trans HK.out.size ho1.size)))
   rw [HR.out] at HP
   have HK1 : Hid (Kept X w w1) := HK.out.trans (ho1.kept fun q hq => Nat.lt_of_lt_of_le (HX.out q hq) HK.out.size)
   clear HF1 hv1 ho1 hA HK HC
   go_wp2_with fail
   refine HP.out.mono ?_
   rintro e w2 ⟨rfl, hA2, hC2, hK2⟩
   have hfA : metA turnWA (fun i => (part M (j * 16 + 8) 8).reverse.getD i 0) (fun k => M ((j + 1) * 16 + k)) = fun i => turnWA ((part M (j * 16 + 8) 8).reverse.getD i 0) (M ((j + 1) * 16 + i)) (turnP i) (turnU i) := rfl
   obtain ⟨fA, hfA⟩ : ∃ f, f = metA turnWA (fun i => (part M (j * 16 + 8) 8).reverse.getD i 0) (fun k => M ((j + 1) * 16 + k)) := ⟨_, rfl⟩
   rw [← hfA] at hA2
   have HFA : Hid (∀ i, i < 8 → fA i = turnWA (M (j * 16 + 8 + (7 - i))) (M ((j + 1) * 16 + i)) (turnP i) (turnU i)) := fun i hi => by rw [hfA]; unfold metA; dsimp only; rw [part_rev _ _ _ hi]
   have HF2 := Lib.hid (Flip_any (some ⟨ga, 0, none⟩) 8 ca (part fA 0 8) w2 (hA2.sl 0 8 ca (by omega) hca1 hca2) (by omega))
   have HC2 := Lib.hid hC2
   have HK2 : Hid (Kept X w w2) := HK1.out.trans hK2
   clear hfA HP hA2 hC2 hK2 HK1
   go_wp2_with fail
   refine HF2.out.mono ?_
   rintro e w3 ⟨v3, rfl, hv3, ho3⟩
   obtain ⟨gc, cc, rfl, _, _, _, hG⟩ := hv3.cells (by rw [List.length_reverse, part_len]; omega)
   rw [List.length_reverse, part_len] at hG ⊢
   have HC3 := Lib.hid (HC2.out.old ho3)
   have HSrc : Hid (∀ i, i < 8 → w3.cell? ⟨gc, 0 + i, none⟩ = some (.int .i64 (fA (7 - i)))) := fun i hi => by
    rw [Nat.zero_add, hG.cell i hi, part_rev _ _ _ hi, Nat.zero_add]
   have HT : Hid (w3.there g (j * 16 + 8) 8) := HC3.out.there _ _ (by omega)
   have HN : Hid (MeetR turnWA turnWB X w (some ⟨g, 0, none⟩) n F (j + 1 + 1) (w3.setCells g (j * 16 + 8) (rowL 8 fun i => fA (7 - i)))) := by
    refine ⟨fun _ => ⟨g, rfl, xg, ?_⟩, (HK2.out.trans (ho3.kept fun q hq => Nat.lt_of_lt_of_le (HX.out q hq) HK2.out.size)).trans (Kept.setCells _ xg _ _)⟩
    refine (HC3.out.setCells (j * 16 + 8) 8 (by omega) _).ext fun q hq => ?_
    rw [← HStep.out]
    unfold patch
    dsimp only
    split
    ·rw [HFA.out _ (by omega)]
    ·split
     ·unfold metA
      dsimp only
      rw [part_rev _ _ _ (by omega)]
     ·rfl
   clear HF2 hv3 ho3 hG HC2 HC3 HK2 HFA HStep HX
   go_wp2_with (with_reducible refine wpList_copy_blk rfl _ _ 189 189 rfl 2 Tryz.underlying189 Tryz.int64_cells 8 (fun i => fA (7 - i)) g (j * 16 + 8) 8 8 gc 0 8 cc rfl rfl (by decide) HSrc.out HT.out ?_)
   go_roundw
   case rel => exact ⟨j + 1 + 1, by omega, by omega, by go_num, HN⟩
   case measure => simp [intOf]; omega
  ·have HE : Hid (OwnR 16 X wr pt n (meetTo turnWA turnWB n F) ∧ Kept X w wr) := by
    refine ⟨?_, HS.out.2⟩
    by_cases h1 : n ≤ 1
    ·rw [HE0.out h1]
     have := HS.out.1
     rcases hk with h | rfl
     ·obtain rfl : k = 1 := by omega
      rwa [meetTo_one] at this
     ·rwa [meetTo_one] at this
    ·obtain rfl : k = n := by omega
     exact HS.out.1
   have hlt' : n ≤ k := by omega
   clear HS HE0 HX HR
   go_wp2_with fail
   go_end0
   exact ⟨rfl, HE.out⟩
end Go.Proofs.YtanmbhakjfhhdaaGreatDoor
/- Package gain's Up and Down. (wip/lib/XGainU.src, by wip/tools/exp.py) -/
namespace Go.Proofs.YtanmbhakjfhhdaaGreatDoor
set_option linter.unusedVariables false
set_option maxRecDepth 100000
open Go.RowKit
theorem atI_bd (g : Nat → Int) (i : Int) : 0 ≤ atI g i ∧ atI g i ≤ 3 := by
 unfold atI
 split
 ·rename_i h
  have := h.2.2 (i / 4).toNat (by omega)
  omega
 ·omega
theorem wrap_both (x : Int) : IntKind.i64.wrap x = wrap64 x := by rw [IntKind.wrap_i64]; unfold wrap64; omega
def upI (x s : Int) : Int := wrap64 (x * 2 ^ s.toNat)
def upB (f g : Nat → Int) : Nat → Int := fun k => upI (f k) (atI g k)
def downI (x s : Int) : Int := roundI x (pw s.toNat)
def downB (f g : Nat → Int) : Nat → Int := fun k => downI (f k) (atI g k)
def toB (n : Nat) (f g : Nat → Int) : Nat → Int := fun k => if k < n then f k else g k
structure UpSt (w : World) (tb tg : TypeId) (z : Array Value) (f g : Nat → Int) (W : World) : Prop where
 b : W.heap[w.heap.size]? = some (.cells (rowN 16 (blk f)) tb (0, 0))
 g : W.heap[w.heap.size + 1]? = some (.cells (rowN 4 (blk g)) tg (0, 0))
 r : W.heap[w.heap.size + 1 + 1]? = some (.cells z tb (0, 0))
 old : Old w W
namespace UpSt
variable {w W V : World} {tb tg : TypeId} {z : Array Value} {f g : Nat → Int}
theorem keep (h : UpSt w tb tg z f g W) (o : Old W V) : UpSt w tb tg z f g V :=
 ⟨(o.block _ (lt_of_block h.b)).trans h.b, (o.block _ (lt_of_block h.g)).trans h.g, (o.block _ (lt_of_block h.r)).trans h.r, h.old.trans o⟩
theorem set (h : UpSt w tb tg z f g W) (j : Nat) (hj : j < 16) (v : Int) : UpSt w tb tg z (fun k => if k = j then v else f k) g (W.setCell ⟨w.heap.size, j, none⟩ (.int .i64 v)) := by
 refine ⟨?_, (heap_setCell_other _ _ _ _ (by simp)).trans h.g, (heap_setCell_other _ _ _ _ (by simp; omega)).trans h.r, h.old.after (Kept.setCell (X := fun k => k < w.heap.size) _ (a := ⟨w.heap.size, j, none⟩) (by show ¬ w.heap.size < w.heap.size; omega) _) fun _ hk => hk⟩
 rw [← blk_upd, ← rowN_set _ _ _ _ hj]
 exact heap_setCell_same _ _ _ _ _ _ h.b
theorem cell (h : UpSt w tb tg z f g W) (j : Nat) (hj : j < 16) : W.cell? ⟨w.heap.size, j, none⟩ = some (.int .i64 (f j)) ∧ W.frozen? ⟨w.heap.size, j, none⟩ = false :=
 ⟨(cell_of_row _ _ _ _ _ _ h.b).trans (blk_at 16 f j hj), frozen_of_row _ _ _ _ _ h.b⟩
theorem row (h : UpSt w tb tg z f g W) (cs : Array Value) : (W.setRow (w.heap.size + 1 + 1) cs).heap[w.heap.size + 1 + 1]? = some (.cells cs tb (0, 0)) ∧ Old w (W.setRow (w.heap.size + 1 + 1) cs) :=
 ⟨setRow_heap _ _ _ _ _ _ h.r, h.old.after (X := fun k => k < w.heap.size) ⟨rfl, rfl, by simp, fun k hk => setRow_other _ _ _ _ (by omega)⟩ fun _ h => h⟩
end UpSt
theorem toB_succ (n : Nat) (f g : Nat → Int) (v : Int) (hv : v = f n) : (fun k => if k = n then v else toB n f g k) = toB (n + 1) f g := by
 funext k
 unfold toB
 by_cases h : k = n
 ·subst h; rw [if_pos rfl, if_pos (by omega), hv]
 ·rw [if_neg h]
  by_cases h2 : k < n
  ·rw [if_pos h2, if_pos (by omega)]
  ·rw [if_neg h2, if_neg (by omega)]
theorem toB_zero (f g : Nat → Int) : toB 0 f g = g := by funext k; unfold toB; rw [if_neg (by omega)]
theorem upd_start (w : World) (tb tg : TypeId) (z : Array Value) (f g : Nat → Int) : UpSt w tb tg z f g (((w.alloc (.cells (rowN 16 (blk f)) tb)).alloc (.cells (rowN 4 (blk g)) tg)).alloc (.cells z tb)) := by
 refine ⟨?_, ?_, ?_, ((Old.alloc w _).alloc' _).alloc' _⟩
 ·exact (Below.heap_alloc _ _ _ (by simp; omega)).trans (heap_alloc2_old w _ _)
 ·exact (Below.heap_alloc _ _ _ (by simp)).trans (heap_alloc2_new w _ _)
 ·have := heap_alloc_new ((w.alloc (.cells (rowN 16 (blk f)) tb)).alloc (.cells (rowN 4 (blk g)) tg)) (.cells z tb)
  rw [World.size_alloc, World.size_alloc] at this
  exact this
set_option maxRecDepth 100000 in
set_option maxHeartbeats 4000000 in
theorem Up_any (f g : Nat → Int) (w : World) :
  Calls Tryz.prog 152 #[.agg (rowN 16 (blk f)), .agg (rowN 4 (blk g))] w fun e w' => e = .returned (.agg (rowN 16 (blk (upB f g)))) ∧ Old w w' := by
 obtain ⟨z, hz⟩ : ∃ z : Array Value, z = #[.int .i64 0, .int .i64 0, .int .i64 0, .int .i64 0, .int .i64 0, .int .i64 0, .int .i64 0, .int .i64 0, .int .i64 0, .int .i64 0, .int .i64 0, .int .i64 0, .int .i64 0, .int .i64 0, .int .i64 0, .int .i64 0] := ⟨_, rfl⟩
 have hzs : z.size = 16 := by rw [hz]; rfl
 have hst := upd_start w 67 64 z f g
 have HAt := Lib.hid (fun (i : Nat) (h : i < 16) w => At_any g i w (by omega) (by omega))
 have Hs4 : Hid ((Tryz.prog.info? 64).map (·.size) = some 4) := Lib.hid (by kernel_rfl)
 have H0 : Hid (UpSt w 67 64 z (toB 0 (upB f g) f) g (((w.alloc (.cells (rowN 16 (blk f)) 67)).alloc (.cells (rowN 4 (blk g)) 64)).alloc (.cells z 67))) := by rw [toB_zero]; exact hst
 clear hst
 go_enter Tryz.func152, Tryz.ntmps152
 go_wp2_with fail
 rw [← hz]
 clear hz
 go_loopw [6] (fun i wr => ∃ k : Nat, k ≤ 16 ∧ i = .int .i64 k ∧ Hid (UpSt w 67 64 z (toB k (upB f g) f) g wr)) (fun i _ => 16 - (intOf i).toNat)
 case atStart => exact ⟨0, by omega, rfl, H0⟩
 case round =>
  obtain ⟨k, hk, rfl, HS⟩ := hrel
  clear H0
  by_cases hlt : k < 16
  ·have i1 : (0 : Int) ≤ k := by omega
   have i2 : (k : Int) < 16 := by omega
   have hA := HAt.out k hlt
   obtain ⟨s0, s3⟩ := atI_bd g k
   have NX : Hid (∀ V, Old wr.drew V → UpSt w 67 64 z (toB (k + 1) (upB f g) f) g (V.setCell ⟨w.heap.size, k, none⟩ (.int .i64 (upI (f k) (atI g k))))) := fun V hV => by
    have h := (HS.out.keep (Old.drew (Old.refl _) |>.trans hV)).set k hlt (upI (f k) (atI g k))
    rw [toB_succ k (upB f g) f (upI (f k) (atI g k)) rfl] at h
    exact h
   have cells : Hid (∀ V, Old wr.drew V → V.cell? ⟨w.heap.size, k, none⟩ = some (.int .i64 (f k)) ∧ V.frozen? ⟨w.heap.size, k, none⟩ = false ∧ V.heap[w.heap.size + 1]? = some (.cells (rowN 4 (blk g)) 64 (0, 0))) := fun V hV => by
    have h := HS.out.keep (Old.drew (Old.refl _) |>.trans hV)
    have c := h.cell k hlt
    unfold toB at c
    rw [if_neg (by omega)] at c
    exact ⟨c.1, c.2, h.g⟩
   have keep2 : Hid (∀ (V : World) (v : Value), V.heap[w.heap.size + 1]? = some (.cells (rowN 4 (blk g)) 64 (0, 0)) → (V.setCell ⟨w.heap.size, k, none⟩ v).heap[w.heap.size + 1]? = some (.cells (rowN 4 (blk g)) 64 (0, 0))) := fun V v hV => (heap_setCell_other _ _ _ _ (by simp)).trans hV
   have HA := Lib.hid hA
   obtain ⟨x, hx⟩ : ∃ x, x = f k := ⟨_, rfl⟩
   rw [← hx] at NX cells
   clear hA hx HAt HS
   generalize atI g (k : Int) = s at *
   have q1 : IntKind.i64.wrap (x * 2 ^ s.toNat) = upI x s := wrap_both _
   have q2 : wrap64 (x * 2 ^ s.toNat) = upI x s := rfl
   generalize upI x s = u at *
   obtain ⟨c1, c2, c3⟩ := cells.out wr.drew (Old.refl _)
   go_wp2_with fail
   refine wp_region_held_drew (S := (fun w' => w'.heap[w.heap.size + 1]? = some (.cells (rowN 4 (blk g)) 64 (0, 0)))) (by kernel_rfl) ?_ (fun hHeld => ?_)
   ·(try dsimp only); exact c3
   refine wpT 0 (v := ?_) rfl (Or.inl ⟨by kernel_rfl, ?_⟩) (by assumption) ?_; rotate_left; (intro w hSw; (try dsimp only at hSw); go_simp; try with_reducible rfl); try simp only [Act.put, sA, sZ, sS]
   refine wpT 1 (v := ?_) rfl (Or.inl ⟨by kernel_rfl, ?_⟩) (by assumption) ?_; rotate_left; (intro w hSw; (try dsimp only at hSw); go_simp; try with_reducible rfl); try simp only [Act.put, sA, sZ, sS]
   refine wpT 3 (v := .agg (rowN 4 (blk g))) rfl (yieldsIf_load_row (by kernel_rfl) 64 (.tmp 3) rfl (w.heap.size + 1) rfl 64 (rowN 4 (blk g)) (0, 0) _ (fun _ h => h) Tryz.underlying64 rfl (by rw [rowN_size]; exact Hs4.out)) (by assumption) ?_; try simp only [Act.put, sA, sZ, sS]
   refine wpT 4 (v := ?_) rfl (Or.inl ⟨by kernel_rfl, ?_⟩) (by assumption) ?_; rotate_left; (intro w hSw; (try dsimp only at hSw); go_simp; try with_reducible rfl); try simp only [Act.put, sA, sZ, sS]
   refine wpAnyH_ready (rs := [2, 5]) (by kernel_rfl) (by simp) ?_
   refine AllReadyH.cons (o := ⟨_, _, _, _, _, _⟩) rfl (fun K hK => ?_) (AllReadyH.cons (o := ⟨_, _, _, _, _, _⟩) rfl (fun K hK => ?_) AllReadyH.nil)
   ·go_simp
    refine hK.out _ _ ?_ (fun hHeld => ?_)
    ·(try dsimp only); exact c3
    clear hK K
    try simp only [Act.put, sA, sZ, sS]
    refine wpAnyH_ready (rs := [5]) (by kernel_rfl) (by simp) ?_
    refine AllReadyH.cons (o := ⟨_, _, _, _, _, _⟩) rfl (fun K hK => ?_) AllReadyH.nil
    go_simp
    refine (HA.out _).mono ?_
    rintro e V1 ⟨rfl, o1⟩
    go_wp2_with fail
    refine hK.out _ _ ?_ (fun hHeld => ?_)
    ·(try dsimp only); exact (cells.out V1 o1).2.2
    clear hK K
    try simp only [Act.put, sA, sZ, sS]
    refine wpT 6 (v := ?_) rfl (Or.inl ⟨by kernel_rfl, ?_⟩) (by assumption) ?_; rotate_left; (intro w hSw; (try dsimp only at hSw); go_simp; try with_reducible rfl); try simp only [Act.put, sA, sZ, sS]
    refine wpT 7 (v := ?_) rfl (Or.inl ⟨by kernel_rfl, ?_⟩) (by assumption) ?_; rotate_left; (intro w hSw; (try dsimp only at hSw); go_simp; try with_reducible rfl); try simp only [Act.put, sA, sZ, sS]
    obtain ⟨d1, d2, d3⟩ := cells.out V1 o1
    refine wpAnyH_ready (rs := [8]) (by kernel_rfl) (by simp) ?_
    refine AllReadyH.cons (o := ⟨_, _, _, _, _, _⟩) rfl (fun K hK => ?_) AllReadyH.nil
    go_simp
    refine hK.out _ _ ?_ (fun hHeld => ?_)
    ·(try dsimp only); exact keep2.out _ _ d3
    clear hK K
    try simp only [Act.put, sA, sZ, sS]
    refine wpAnyH_done (by kernel_rfl) ?_ _
    have HN := Lib.hid (NX.out V1 o1)
    clear cells keep2 NX o1 c1 c2 c3 d1 d2 d3 q1 q2 HA
    go_wp2_with fail
    go_roundw
    case rel => exact ⟨k + 1, by omega, by go_num, HN⟩
    case measure => simp [intOf]; omega
   ·go_simp
    refine (HA.out _).mono ?_
    rintro e V1 ⟨rfl, o1⟩
    go_wp2_with fail
    refine hK.out _ _ ?_ (fun hHeld => ?_)
    ·(try dsimp only); exact (cells.out V1 o1).2.2
    clear hK K
    try simp only [Act.put, sA, sZ, sS]
    obtain ⟨d1, d2, d3⟩ := cells.out V1 o1
    refine wpAnyH_ready (rs := [2]) (by kernel_rfl) (by simp) ?_
    refine AllReadyH.cons (o := ⟨_, _, _, _, _, _⟩) rfl (fun K hK => ?_) AllReadyH.nil
    go_simp
    refine hK.out _ _ ?_ (fun hHeld => ?_)
    ·(try dsimp only); exact d3
    clear hK K
    try simp only [Act.put, sA, sZ, sS]
    refine wpT 6 (v := ?_) rfl (Or.inl ⟨by kernel_rfl, ?_⟩) (by assumption) ?_; rotate_left; (intro w hSw; (try dsimp only at hSw); go_simp; try with_reducible rfl); try simp only [Act.put, sA, sZ, sS]
    refine wpT 7 (v := ?_) rfl (Or.inl ⟨by kernel_rfl, ?_⟩) (by assumption) ?_; rotate_left; (intro w hSw; (try dsimp only at hSw); go_simp; try with_reducible rfl); try simp only [Act.put, sA, sZ, sS]
    refine wpAnyH_ready (rs := [8]) (by kernel_rfl) (by simp) ?_
    refine AllReadyH.cons (o := ⟨_, _, _, _, _, _⟩) rfl (fun K hK => ?_) AllReadyH.nil
    go_simp
    refine hK.out _ _ ?_ (fun hHeld => ?_)
    ·(try dsimp only); exact keep2.out _ _ d3
    clear hK K
    try simp only [Act.put, sA, sZ, sS]
    refine wpAnyH_done (by kernel_rfl) ?_ _
    have HN := Lib.hid (NX.out V1 o1)
    clear cells keep2 NX o1 c1 c2 c3 d1 d2 d3 q1 q2 HA
    go_wp2_with fail
    go_roundw
    case rel => exact ⟨k + 1, by omega, by go_num, HN⟩
    case measure => simp [intOf]; omega
  ·obtain rfl : k = 16 := by omega
   have hg : rowN 16 (blk (toB 16 (upB f g) f)) = rowN 16 (blk (upB f g)) := rowN_ext _ _ _ fun k hk => by unfold blk toB; rw [if_pos hk]
   have Hg := Lib.hid HS.out.b
   rw [hg] at Hg
   have Hr := Lib.hid HS.out.r
   have Hd := Lib.hid (HS.out.row (rowN 16 (blk (upB f g))))
   have Hs : Hid ((Tryz.prog.info? 67).map (·.size) = some 16) := Lib.hid (by kernel_rfl)
   have H1 : Hid ((rowN 16 (blk (upB f g))).all (·.oneCell') = true) := Lib.hid (blk_one _ _)
   clear HS hg HAt
   have hsz := rowN_size 16 (blk (upB f g))
   go_wp2_with (first | (with_reducible refine wpList_load_row rfl 67 _ rfl w.heap.size rfl 67 (rowN 16 (blk (upB f g))) (0, 0) _ Hg.out Tryz.underlying67 rfl (by rw [hsz]; exact Hs.out) ?_) | (with_reducible refine wpList_store_row rfl 67 _ _ rfl (w.heap.size + 1 + 1) (rowN 16 (blk (upB f g))) rfl rfl 67 _ Hr.out (by rw [hsz]; exact Hs.out) (by rw [hsz]; exact hzs) H1.out ?_))
   exact bodyPost_ret (results_cell_row rfl _ _ (w.heap.size + 1 + 1) 67 (rowN 16 (blk (upB f g))) (0, 0) _ rfl Hd.out.1 Tryz.underlying67 rfl (by rw [hsz]; exact Hs.out)) rfl ⟨rfl, Hd.out.2⟩
end Go.Proofs.YtanmbhakjfhhdaaGreatDoor
/- Package lap: gainsOf, and the copy of a list of blocks. (wip/lib/XLapF.src, by wip/tools/exp.py) -/
namespace Go.Proofs.YtanmbhakjfhhdaaGreatDoor
set_option linter.unusedVariables false
set_option maxRecDepth 100000
open Go.RowKit Go.ChangeShapes Go.WideShapes
def gainsAt (G : Nat → Int) (ng i : Nat) : Nat → Int := if i < ng then (fun k => G (i * 4 + k)) else fun _ => 0
set_option maxRecDepth 100000 in
theorem gainsOf_any (p : Option Addr) (ng cap i : Nat) (G : Nat → Int) (w : World) (hs : SlF 4 w p ng G) (hi : i ≤ 17179869184) :
  Calls Tryz.prog 153 #[.slice p ng cap, .int .i64 i] w fun e w' => e = .returned (.agg (rowN 4 (blk (gainsAt G ng i)))) ∧ Old w w' := by
 have Hs4 : Hid ((Tryz.prog.info? 64).map (·.size) = some 4) := Lib.hid (by kernel_rfl)
 have i0 : (0 : Int) ≤ i := by omega
 by_cases h : i < ng
 ·obtain ⟨g, o, rfl, hg, hc⟩ := hs (by omega)
  have e : gainsAt G ng i = fun k => G (i * 4 + k) := by unfold gainsAt; rw [if_pos h]
  rw [e]
  have HC : Hid (∀ j, j < 4 → (w.alloc (.cells #[.int .i64 0, .int .i64 0, .int .i64 0, .int .i64 0] 64)).cell? ⟨g, o + i * 4 + j, none⟩ = some (.int .i64 (G (i * 4 + j)))) := fun j hj => by
   rw [Nat.add_assoc, (Old.alloc w _).cell (a := ⟨g, o + (i * 4 + j), none⟩) hg]
   exact hc (i * 4 + j) (by omega)
  have h' : (i : Int) < ng := by omega
  have H1 := Lib.hid (blk_one (fun k => G (i * 4 + k)) 4)
  clear hs hc e hg
  go_enter Tryz.func153, Tryz.ntmps153
  go_wp2_with (first | (with_reducible refine wpList_load_blk rfl 4 (fun k => G (i * 4 + k)) 64 _ rfl g (o + i * 4) rfl _ HC.out Tryz.underlying64 rfl Hs4.out ?_) | (with_reducible refine wpList_store_row rfl 64 _ _ rfl w.heap.size (rowN 4 (blk fun k => G (i * 4 + k))) rfl rfl 64 _ (heap_alloc_new _ _) (by rw [rowN_size]; exact Hs4.out) (by rw [rowN_size]; kernel_rfl) H1.out ?_; rw [World.setRow_alloc_new]))
  exact bodyPost_ret (results_cell_row rfl _ _ w.heap.size 64 _ (0, 0) _ rfl (heap_alloc_new _ _) Tryz.underlying64 rfl (by rw [rowN_size]; exact Hs4.out)) rfl ⟨rfl, Old.alloc _ _⟩
 ·have e : rowN 4 (blk (gainsAt G ng i)) = rowN 4 (blk fun _ => 0) := by unfold gainsAt; rw [if_neg h]
  have h' : (ng : Int) ≤ i := by omega
  rw [e, show rowN 4 (blk fun _ => 0) = #[.int .i64 0, .int .i64 0, .int .i64 0, .int .i64 0] from rfl]
  clear hs e
  go_enter Tryz.func153, Tryz.ntmps153
  go_wp2_with (with_reducible refine wpList_store_row rfl 64 _ _ rfl w.heap.size #[.int .i64 0, .int .i64 0, .int .i64 0, .int .i64 0] rfl rfl 64 _ (heap_alloc_new _ _) Hs4.out (by kernel_rfl) (by kernel_rfl) ?_; rw [World.setRow_alloc_new])
  exact bodyPost_ret (results_cell_row rfl _ _ w.heap.size 64 _ (0, 0) _ rfl (heap_alloc_new _ _) Tryz.underlying64 rfl Hs4.out) rfl ⟨rfl, Old.alloc _ _⟩
theorem ownS.cells {X : Nat → Prop} {w : World} {e : TypeId} {s n : Nat} {v : Value} {F : Nat → Int} (h : ownS X w e s v n (rowL (n * s) F)) (h0 : 0 < n) : ∃ g cap, v = .slice (some ⟨g, 0, none⟩) n cap ∧ ¬ X g ∧ CellsAt w g (s * n) F := by
 rcases h.1.2 with ⟨_, h1⟩ | ⟨g, cap, cur, rfl, hb, hg, hn, hc, hs, ht⟩
 ·omega
 ·refine ⟨g, cap, rfl, h.2 g rfl, lt_of_block hg, fun j hj => ?_, fun j hj => frozen_of_row _ _ _ _ _ hg⟩
  rw [cell_of_row _ _ _ _ _ _ hg]
  have h1 := rowL_at (n * s) F j (by rw [Nat.mul_comm]; exact hj)
  rw [← ht, List.getElem?_take] at h1
  rw [if_pos (by rw [Nat.mul_comm n s]; exact hj)] at h1
  simpa using h1
end Go.Proofs.YtanmbhakjfhhdaaGreatDoor
