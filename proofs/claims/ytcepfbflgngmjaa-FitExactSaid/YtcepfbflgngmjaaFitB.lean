/- Package fit's contracts, first part: told. (by wip/tools/exp.py of XFitB.src) -/
import Derived.Test.YtcepfbflgngmjaaFitA
import Derived.Test.YtcepfbflgngmjaaFrBitsL
import Derived.Deep.RegionHeld
namespace Go.Proofs.Ytcepfbflgngmjaa
set_option linter.unusedVariables false
set_option maxRecDepth 100000
set_option linter.unusedSimpArgs false
open Go.RowKit Go.ChangeShapes Go.WideShapes

/-- A literal whose value is known, in a drawn region. -/
theorem yieldsIf_build {P : Program} {ops : Array Oper} {S : World → Prop} {op : Oper} {a : Act} (hw : Region.wanted op (yielded ops a.tmps) = true) (t : TypeId) (parts : Array (Nat × Operand)) (ho : op.op = .build t parts) (ps : List (Nat × Value)) (cells : Array Value)
    (hp : (parts.map fun x => (x.1, a.eval x.2)).toList = ps) (hr : P.built t ps = some cells) : YieldsIf P ops S op (.agg cells) a :=
  .inl ⟨hw, fun w _ => by
    unfold execOp
    simp only [ho, Sem.run_bind, run_build w t _ cells (by rw [hp]; exact hr), Result.andThen_ok, Sem.run_pure]⟩
/-- .. and under a guard that holds. -/
theorem wpList_build_w {P : Program} {ops : Array Oper} {rest : List Oper} {o : Oper} {a : Act} {w : World} {Q : Exit → Act → World → Prop} (hw : Region.wanted o (yielded ops a.tmps) = true) (t : TypeId) (parts : Array (Nat × Operand)) (ho : o.op = .build t parts) (ps : List (Nat × Value)) (cells : Array Value)
    (hp : (parts.map fun x => (x.1, a.eval x.2)).toList = ps) (hr : P.built t ps = some cells) (h : wpList P ops Q rest (a.put o.dst (.agg cells)) w) : wpList P ops Q (o :: rest) a w :=
  wpList_step fun K hK => by
    rw [if_pos hw]
    unfold Oper.wp execOp
    simp only [ho, Sem.run_bind, run_build w t _ cells (by rw [hp]; exact hr), Result.andThen_ok]
    exact hK _ _ h
theorem frame_build3 (s u q : Nat → Int) : Try.prog.built 29 [(2, .agg (rowN 4 (blk s))), (3, .agg (rowN 4 (blk u))), (4, .agg (rowN 16 (blk q)))] = some (rowN 29 (frC (frN (fun _ => 0) s u q) (.slice none 0 0))) := by kernel_rfl
theorem frame_build5 (g s u q : Nat → Int) (l : Option Addr) (n c : Nat) : Try.prog.built 29 [(0, .agg (rowN 4 (blk g))), (1, .slice l n c), (2, .agg (rowN 4 (blk s))), (3, .agg (rowN 4 (blk u))), (4, .agg (rowN 16 (blk q)))] = some (rowN 29 (frC (frN g s u q) (.slice l n c))) := by kernel_rfl

/-- The boxes of a spectrum, scales, a result, and steps. -/
structure TlSt (w : World) (z : Array Value) (X s : Nat → Int) (W : World) : Prop where
  b : W.heap[w.heap.size]? = some (.cells (rowN 16 (blk X)) 23 (0, 0))
  s : W.heap[w.heap.size + 1]? = some (.cells (rowN 4 (blk s)) 51 (0, 0))
  r : W.heap[w.heap.size + 1 + 1]? = some (.cells z 29 (0, 0))
  old : Old w W
namespace TlSt
variable {w W W' : World} {z : Array Value} {X s : Nat → Int}
theorem keep (h : TlSt w z X s W) (k : Old W W') : TlSt w z X s W' := ⟨(k.block _ (lt_of_block h.b)).trans h.b, (k.block _ (lt_of_block h.s)).trans h.s, (k.block _ (lt_of_block h.r)).trans h.r, h.old.trans k⟩
theorem start (w : World) (z : Array Value) (X s : Nat → Int) : TlSt w z X s (((w.alloc (.cells (rowN 16 (blk X)) 23)).alloc (.cells (rowN 4 (blk s)) 51)).alloc (.cells z 29)) := by
  refine ⟨?_, ?_, ?_, ((Old.alloc w _).alloc' _).alloc' _⟩
  · exact (Below.heap_alloc _ _ _ (by simp; omega)).trans (heap_alloc2_old w _ _)
  · exact (Below.heap_alloc _ _ _ (by simp)).trans (heap_alloc2_new w _ _)
  · have := heap_alloc_new ((w.alloc (.cells (rowN 16 (blk X)) 23)).alloc (.cells (rowN 4 (blk s)) 51)) (.cells z 29)
    rw [World.size_alloc, World.size_alloc] at this
    exact this
end TlSt
set_option maxHeartbeats 2000000 in
theorem Told_any (X s : Nat → Int) (w : World) (hX : Fits64 X) :
    Calls Try.prog 25 #[.agg (rowN 16 (blk X)), .agg (rowN 4 (blk s))] w fun e w' => e = .returned (.agg (rowN 29 (frC (tolN (fun _ => 0) s X) (.slice none 0 0)))) ∧ Old w w' := by
  have Hs4 : Hid ((Try.prog.info? 51).map (·.size) = some 4) := Lib.hid (by kernel_rfl)
  have Hs16 : Hid ((Try.prog.info? 23).map (·.size) = some 16) := Lib.hid (by kernel_rfl)
  have Hs29 : Hid ((Try.prog.info? 29).map (·.size) = some 29) := Lib.hid (by kernel_rfl)
  obtain ⟨z, hz⟩ : ∃ z : Array Value, z = rowN 29 (frC (fun _ => 0) (.slice none 0 0)) := ⟨_, rfl⟩
  have hzs : z.size = 29 := by rw [hz, rowN_size]
  rw [frC_zero] at hz
  obtain ⟨W0, hW0⟩ : ∃ W0, W0 = (((w.alloc (.cells (rowN 16 (blk X)) 23)).alloc (.cells (rowN 4 (blk s)) 51)).alloc (.cells z 29)) := ⟨_, rfl⟩
  have h0 : TlSt w z X s W0 := by rw [hW0]; exact TlSt.start w z X s
  have H0 := Lib.hid h0
  have HS := Lib.hid (Steps_any X s W0 hX)
  have HQ := Lib.hid (told_fits s hX)
  have HW0 := Lib.hid hW0
  have Hz := Lib.hid hz
  have Hzs := Lib.hid hzs
  unfold tolN
  generalize toldR stepI X s = q at *
  obtain ⟨F, hF⟩ : ∃ F, frN (fun _ => 0) s (wideF q) q = F := ⟨_, rfl⟩
  have hbd := frame_build3 s (wideF q) q
  rw [hF] at hbd ⊢
  have HBd := Lib.hid hbd
  clear hF hbd
  clear h0 hX hW0 hz hzs
  go_enter Try.func25, Try.ntmps25
  go_wp2_with (first | (rw [← Hz.out, ← HW0.out]; with_reducible refine wpList_load_row rfl 23 _ rfl w.heap.size rfl 23 (rowN 16 (blk X)) (0, 0) _ H0.out.b Try.underlying23 rfl (by rw [rowN_size]; exact Hs16.out) ?_) | (with_reducible refine wpList_load_row rfl 51 _ rfl (w.heap.size + 1) rfl 51 (rowN 4 (blk s)) (0, 0) _ H0.out.s Try.underlying51 rfl (by rw [rowN_size]; exact Hs4.out) ?_))
  refine HS.out.mono ?_
  rintro e w1 ⟨rfl, ho⟩
  have h1 := H0.out.keep (ho.alloc' (.cells (rowN 16 (blk q)) 23))
  have hq1 := heap_alloc_new w1 (.cells (rowN 16 (blk q)) 23)
  have H1 : Hid ((rowN 16 (blk q)).all (·.oneCell') = true) := Lib.hid (blk_one _ _)
  have HA := Lib.hid h1
  have HB := Lib.hid hq1
  have HWd := Lib.hid (fun w => Widths_any q w HQ.out)
  clear h1 hq1 ho H0 HS HW0
  go_wp2_with (with_reducible refine wpList_store_row rfl 23 _ _ rfl w1.heap.size (rowN 16 (blk q)) rfl rfl 23 _ (heap_alloc_new _ _) (by rw [rowN_size]; exact Hs16.out) (by rw [rowN_size]; kernel_rfl) H1.out ?_; rw [World.setRow_alloc_new])
  obtain ⟨W2, hW2⟩ : ∃ W2, W2 = w1.alloc (.cells (rowN 16 (blk q)) 23) := ⟨_, rfl⟩
  obtain ⟨qb, hqb⟩ : ∃ qb, qb = w1.heap.size := ⟨_, rfl⟩
  rw [← hW2] at HA HB ⊢
  rw [← hqb] at HB ⊢
  clear hW2 hqb H1
  have HK : Hid (∀ W, Old W2 W → (W.heap[w.heap.size + 1]? = some (.cells (rowN 4 (blk s)) 51 (0, 0)) ∧ W.heap[qb]? = some (.cells (rowN 16 (blk q)) 23 (0, 0)))) := Lib.hid fun W k => ⟨(HA.out.keep k).s, (k.block _ (lt_of_block HB.out)).trans HB.out⟩
  refine wp_region_held_drew (S := (fun w' => w'.heap[w.heap.size + 1]? = some (.cells (rowN 4 (blk s)) 51 (0, 0)) ∧ w'.heap[qb]? = some (.cells (rowN 16 (blk q)) 23 (0, 0)))) (by kernel_rfl) ?_ (fun hHeld => ?_)
  · (try dsimp only); exact HK.out _ ((Old.refl W2).drew)
  refine wpAnyH_take (i := 0) (oi := ⟨some _, _, _, _, _, _⟩) (v := .agg (rowN 4 (blk s))) rfl (by kernel_rfl) (by kernel_rfl) (by kernel_rfl) (fun _ _ _ h => h) (yieldsIf_load_row (by kernel_rfl) 51 (.tmp 3) rfl (w.heap.size + 1) rfl 51 (rowN 4 (blk s)) (0, 0) _ (fun _ h => h.1) Try.underlying51 rfl (by rw [rowN_size]; exact Hs4.out)) (by assumption) ?_; try simp only [Act.put, List.setIfInBounds_toArray, List.set_cons_zero, List.set_cons_succ]
  refine wpAnyH_take (i := 1) (oi := ⟨some _, _, _, _, _, _⟩) (v := .agg (rowN 16 (blk q))) rfl (by kernel_rfl) (by kernel_rfl) (by kernel_rfl) (fun _ _ _ h => h) (yieldsIf_load_row (by kernel_rfl) 23 (.tmp 5) rfl qb rfl 23 (rowN 16 (blk q)) (0, 0) _ (fun _ h => h.2) Try.underlying23 rfl (by rw [rowN_size]; exact Hs16.out)) (by assumption) ?_; try simp only [Act.put, List.setIfInBounds_toArray, List.set_cons_zero, List.set_cons_succ]
  refine wpAnyH_take (i := 3) (oi := ⟨some _, _, _, _, _, _⟩) (v := .agg (rowN 16 (blk q))) rfl (by kernel_rfl) (by kernel_rfl) (by kernel_rfl) (fun _ _ _ h => h) (yieldsIf_load_row (by kernel_rfl) 23 (.tmp 5) rfl qb rfl 23 (rowN 16 (blk q)) (0, 0) _ (fun _ h => h.2) Try.underlying23 rfl (by rw [rowN_size]; exact Hs16.out)) (by assumption) ?_; try simp only [Act.put, List.setIfInBounds_toArray, List.set_cons_zero, List.set_cons_succ]
  refine wpAnyH_ready (rs := [2]) (by kernel_rfl) (by simp) ?_
  refine AllReadyH.cons (o := ⟨_, _, _, _, _, _⟩) rfl (fun K hK => ?_) AllReadyH.nil
  go_simp
  refine (HWd.out _).mono ?_
  rintro e V1 ⟨rfl, o1'⟩
  have o1 := ((Old.refl W2).drew).trans o1'
  clear o1'
  have HA1 := Lib.hid (HA.out.keep o1)
  have HK1 := Lib.hid (HK.out _ o1)
  clear HA HK HB HWd o1
  go_wp2_with fail
  refine hK.out _ _ ?_ (fun hHeld => ?_)
  · (try dsimp only); exact HK1.out
  clear hK K
  try simp only [Act.put, List.setIfInBounds_toArray, List.set_cons_zero, List.set_cons_succ]
  refine wpAnyH_take (i := 4) (oi := ⟨some _, _, _, _, _, _⟩) (v := .agg (rowN 29 (frC F (.slice none 0 0)))) rfl (by kernel_rfl) (by kernel_rfl) (by kernel_rfl) (fun _ _ _ h => h) (yieldsIf_build (by kernel_rfl) 29 _ rfl [(2, .agg (rowN 4 (blk s))), (3, .agg (rowN 4 (blk (wideF q)))), (4, .agg (rowN 16 (blk q)))] _ (by kernel_rfl) HBd.out) (by assumption) ?_; try simp only [Act.put, List.setIfInBounds_toArray, List.set_cons_zero, List.set_cons_succ]
  have H29 : Hid ((rowN 29 (frC F (.slice none 0 0))).all (·.oneCell') = true) := Lib.hid (frC_one _ _ rfl)
  have hr := row_ret HA1.out.r HA1.out.old (by omega) (rowN 29 (frC F (.slice none 0 0)))
  have HR := Lib.hid hr
  have HK2 : Hid ((V1.setRow (w.heap.size + 1 + 1) (rowN 29 (frC F (.slice none 0 0)))).heap[w.heap.size + 1]? = some (.cells (rowN 4 (blk s)) 51 (0, 0)) ∧ (V1.setRow (w.heap.size + 1 + 1) (rowN 29 (frC F (.slice none 0 0)))).heap[qb]? = some (.cells (rowN 16 (blk q)) 23 (0, 0))) := by
    refine ⟨(setRow_other _ _ _ _ (by omega)).trans HK1.out.1, (setRow_other _ _ _ _ fun e => ?_).trans HK1.out.2⟩
    have h1 := HK1.out.2
    rw [e, HA1.out.r] at h1
    cases h1
  refine wpAnyH_ready (rs := [5]) (by kernel_rfl) (by simp) ?_
  refine AllReadyH.cons (o := ⟨_, _, _, _, _, _⟩) rfl (fun K hK => ?_) AllReadyH.nil
  rw [if_pos (by kernel_rfl)]
  refine wp_store_row 29 _ _ rfl (w.heap.size + 1 + 1) (rowN 29 (frC F (.slice none 0 0))) rfl rfl 29 _ HA1.out.r (by rw [rowN_size]; exact Hs29.out) (by rw [rowN_size]; exact Hzs.out) H29.out ?_
  refine hK.out _ _ ?_ (fun hHeld => ?_)
  · (try dsimp only); exact HK2.out
  clear hK K
  try simp only [Act.put, List.setIfInBounds_toArray, List.set_cons_zero, List.set_cons_succ]
  refine wpAnyH_done (by kernel_rfl) ?_ _
  go_wp2_with fail
  exact bodyPost_ret (results_cell_row rfl _ _ (w.heap.size + 1 + 1) 29 (rowN 29 (frC F (.slice none 0 0))) (0, 0) _ rfl HR.out.1 Try.underlying29 rfl (by rw [rowN_size]; exact Hs29.out)) rfl ⟨rfl, HR.out.2⟩
end Go.Proofs.Ytcepfbflgngmjaa

