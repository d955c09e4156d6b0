/- Package env: move, pass, Next. (by wip/tools/exp.py of XEnvC.src) -/
import Derived.Test.YtgdlinfgcfjciaaEnvB
namespace Go.Proofs.Ytgdlinfgcfjciaa
set_option linter.unusedVariables false
set_option linter.unusedSimpArgs false
set_option maxRecDepth 100000
open Go.RowKit Go.ChangeShapes Go.WideShapes

/-- Where a move leads. -/
def mvL (lv o t l : Int) : Int := lv + clampI (l - lv) (-slopeI o t) (slopeI o t)
theorem mvL_bd {lv o t l : Int} (h0 : 0 ≤ o) (h1 : o ≤ 16777216) (v0 : 0 ≤ lv) (v1 : lv ≤ 16777216) (l0 : 0 ≤ l) (l1 : l ≤ 16777216) : 0 ≤ mvL lv o t l ∧ mvL lv o t l ≤ 16777216 := by
  obtain ⟨s0, s1, -⟩ := slopeI_bd (n := t) h0 h1
  unfold mvL clampI
  split <;> (try split) <;> omega
set_option maxHeartbeats 800000 in
theorem eMove_any (g : Nat) (a d s r st lv o t l : Int) (w : World) (h : EB w g a d s r st lv) (h0 : 0 ≤ o) (h1 : o ≤ 16777216) (v0 : 0 ≤ lv) (v1 : lv ≤ 16777216) (l0 : 0 ≤ l) (l1 : l ≤ 16777216) (ht : t ≤ 9223372036854775807) (s0 : 0 ≤ st) (s1 : st ≤ 4) :
    Calls Try.prog 21 #[.pointer (some ⟨g, 0, none⟩), .agg (wyC o t l)] w fun e w' => e = .returned (.tuple #[]) ∧ EB w' g a d s r (if mvL lv o t l = l then st + 1 else st) (mvL lv o t l) ∧ Kept (butOf w g) w w' := by
  have HSl := Lib.hid (fun w => eSlope_any o t l w h0 h1 ht)
  have HC := Lib.hid (fun v lo hi w => Clamp_any v lo hi w)
  obtain ⟨p0, p1, -⟩ := slopeI_bd (n := t) h0 h1
  have hL := mvL_bd (t := t) h0 h1 v0 v1 l0 l1
  have hw : mvL lv o t l = lv + clampI (l - lv) (-slopeI o t) (slopeI o t) := rfl
  have HW := Lib.hid hw
  obtain ⟨s2, hs2⟩ : ∃ s2, (if mvL lv o t l = l then st + 1 else st) = s2 := ⟨_, rfl⟩
  rw [hs2]
  have HS2 := Lib.hid hs2
  clear hs2
  generalize mvL lv o t l = L at *
  generalize slopeI o t = sl at *
  have hO := Old.alloc w (.cells (wyC o t l) 46)
  have hE := Lib.hid (h.old hO)
  have hB : Hid ((w.alloc (.cells (wyC o t l) 46)).heap[w.heap.size]? = some (.cells (wyC o t l) 46 (0, 0))) := Lib.hid (heap_alloc_new _ _)
  have HO := Lib.hid hO
  have HG := Lib.hid h.lt
  clear hO h hw
  unfold wyC at *
  go_enter Try.func21, Try.ntmps21
  go_wp2_with fail
  refine (HSl.out _).mono ?_
  rintro e w1 ⟨rfl, ho⟩
  obtain ⟨c0, c1, c2, c3, c4, c5, f4, f5⟩ := (hE.out.old ho).cells
  have hb2 : w1.cell? ⟨w.heap.size, 2, none⟩ = some (.int .i64 l) := by
    have := (ho.block w.heap.size (lt_of_block hB.out)).trans hB.out
    simp [World.cell?, this]
  have HE1 := Lib.hid (hE.out.old ho)
  have HO1 := Lib.hid (HO.out.trans ho)
  clear ho hE HO hB c0 c1 c2 c3
  go_wp2_with fail
  have e1 : wrap64 (l - lv) = l - lv := IntWalk.wrap64_in _ (by omega)
  have e2 : wrap64 (-sl) = -sl := IntWalk.wrap64_in _ (by omega)
  have e1' : IntKind.i64.wrap (l - lv) = l - lv := IntWalk.i64_in _ (by omega)
  have e2' : IntKind.i64.wrap (-sl) = -sl := IntWalk.i64_in _ (by omega)
  obtain ⟨x, hx⟩ : ∃ x, clampI (l - lv) (-sl) sl = x := ⟨_, rfl⟩
  have HX := Lib.hid (HC.out (l - lv) (-sl) sl)
  have hLx : L = lv + x := by rw [← hx]; exact HW.out
  rw [hx] at HX
  have e3 : wrap64 (lv + x) = L := by rw [← hLx]; exact IntWalk.wrap64_in _ (by omega)
  have e3' : IntKind.i64.wrap (lv + x) = L := by rw [← hLx]; exact IntWalk.i64_in _ (by omega)
  clear hx hLx
  refine wp_region_still_tail 18 (by kernel_rfl) (by kernel_rfl) ?_
  simp only [List.take_succ_cons, List.take_zero, List.drop_succ_cons, List.drop_zero]
  iterate 14 (with_reducible refine wpStill_step (fun K hK => ?_); go_simp; with_reducible refine hK _ ?_; clear hK K)
  still_call ((HX.out _).mono fun _ _ hh => ⟨hh.1, hh.2.symm⟩)
  iterate 3 (with_reducible refine wpStill_step (fun K hK => ?_); go_simp; with_reducible refine hK _ ?_; clear hK K)
  with_reducible refine wpStill_nil ?_
  change wpList _ _ _ _ _ w1.drew
  go_wp2_with fail
  obtain ⟨V, hV⟩ : ∃ V, V = (w1.setCell ⟨g, 5, none⟩ (.int .i64 L)).drew := ⟨_, rfl⟩
  have hEV : EB V g a d s r st L := by rw [hV]; exact EB.setLv HE1.out L
  have hKV : Kept (butOf w g) w V := by rw [hV]; exact ((HO1.out.kept fun k hk => hk.1).trans (Kept.setCell _ (a := ⟨g, 5, none⟩) (fun h => h.2 rfl) _)).drew
  have hbV : V.cell? ⟨w.heap.size, 2, none⟩ = some (.int .i64 l) := by
    rw [hV]
    show (w1.setCell _ _).cell? _ = _
    rw [World.cell?_setCell_other _ _ _ _ (fun e => by have := HG.out; injection e with e1; omega)]
    exact hb2
  rw [← hV]
  obtain ⟨-, -, -, -, c4, c5, f4, f5⟩ := hEV.cells
  have HEV := Lib.hid hEV
  have HKV := Lib.hid hKV
  clear hV hEV hKV hb2 HE1 HO1 e1 e2 e3 e1' e2' e3'
  by_cases hl : L = l
  · have h2 := HS2.out
    rw [if_pos hl] at h2
    subst h2
    have hd : (L == l) = true := by simpa using hl
    have HN : ∀ n, Hid (EB ((V.drewN n).setCell ⟨g, 4, none⟩ (.int .i64 (st + 1))) g a d s r (st + 1) L ∧ Kept (butOf w g) w ((V.drewN n).setCell ⟨g, 4, none⟩ (.int .i64 (st + 1)))) := fun n => Lib.hid ⟨EB.setSt (w := V.drewN n) HEV.out (st + 1), (HKV.out.drewN n).trans (Kept.setCell _ (a := ⟨g, 4, none⟩) (fun h => h.2 rfl) _)⟩
    have y1 : wrap64 (st + 1) = st + 1 := IntWalk.wrap64_in _ (by omega)
    clear hl HS2
    go_quiet (fail)
    go_wp2_with fail
    refine bodyPost_end (results_none rfl _ _ _) rfl ?_
    exact ⟨rfl, (HN _).out⟩
  · have h2 := HS2.out
    rw [if_neg hl] at h2
    subst h2
    have hd : (L == l) = false := by simpa using hl
    clear hl HS2
    go_quiet (fail)
    go_wp2_with fail
    refine bodyPost_end (results_none rfl _ _ _) rfl ?_
    exact ⟨rfl, HEV.out, HKV.out.drewN _⟩
end Go.Proofs.Ytgdlinfgcfjciaa

