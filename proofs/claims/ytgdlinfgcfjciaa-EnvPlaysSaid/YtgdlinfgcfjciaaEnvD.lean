/- Package env: pass. (by wip/tools/exp.py of XEnvD.src) -/
import Derived.Test.YtgdlinfgcfjciaaEnvC
namespace Go.Proofs.Ytgdlinfgcfjciaa
set_option linter.unusedVariables false
set_option linter.unusedSimpArgs false
set_option maxRecDepth 100000
open Go.RowKit Go.ChangeShapes Go.WideShapes

def passSt (a d r st : Int) : Int := if st = 0 ∧ a = 0 then (if d = 0 then 2 else 1) else if st = 1 ∧ d = 0 then 2 else if st = 3 ∧ r = 0 then 4 else st
def passLv (a d s r st lv : Int) : Int := if st = 0 ∧ a = 0 then (if d = 0 then s * 65536 else 16777216) else if st = 1 ∧ d = 0 then s * 65536 else if st = 3 ∧ r = 0 then 0 else lv
/-- A state that may be. -/
structure StOk (s st lv : Int) : Prop where
  s0 : 0 ≤ st
  s1 : st ≤ 4
  v0 : 0 ≤ lv
  v1 : lv ≤ 16777216
  fall : st = 1 → s * 65536 ≤ lv
def stOf (w : World) (g : Nat) : Int := match w.cell? ⟨g, 4, none⟩ with
  | some (.int _ x) => x
  | _ => 0
theorem wy_bd {s st : Int} (h0 : 0 ≤ s) (h1 : s ≤ 256) : 0 ≤ wyO s st ∧ wyO s st ≤ 16777216 ∧ 0 ≤ wyL s st ∧ wyL s st ≤ 16777216 := by
  unfold wyO wyL
  refine ⟨?_, ?_, ?_, ?_⟩ <;> split <;> (try split) <;> (try split) <;> omega
theorem pass_step {a d s r st lv : Int} (h : StOk s st lv) (hs0 : 0 ≤ s) (hs1 : s ≤ 256) (hg : wyG st = true) (ht : wyT a d r st = 0) :
    mvL lv (wyO s st) 0 (wyL s st) = wyL s st ∧ StOk s (st + 1) (wyL s st) ∧ passSt a d r (st + 1) = passSt a d r st ∧ passLv a d s r (st + 1) (wyL s st) = passLv a d s r st lv ∧ st ≤ 3 := by
  obtain ⟨a0, a1, a2, a3, a4⟩ := h
  have hst : st = 0 ∨ st = 1 ∨ st = 3 := by unfold wyG at hg; simpa using hg
  rcases hst with rfl | rfl | rfl
  · have ha : a = 0 := by simpa [wyT] using ht
    subst ha
    refine ⟨?_, ⟨by omega, by omega, by simp [wyL], by simp [wyL], fun _ => by simp [wyL]; omega⟩, ?_, ?_, by omega⟩
    · simp only [mvL, wyO, wyL, slopeI, clampI, if_true]
      split <;> (try split) <;> (try split) <;> omega
    · simp [passSt]
    · simp [passLv, wyL]
  · have hd : d = 0 := by simpa [wyT] using ht
    subst hd
    have := a4 rfl
    refine ⟨?_, ⟨by omega, by omega, by simp [wyL]; omega, by simp [wyL]; omega, fun h => by omega⟩, ?_, ?_, by omega⟩
    · simp [mvL, wyO, wyL, slopeI, clampI]
      split <;> (try split) <;> (try split) <;> omega
    · simp [passSt]
    · simp [passLv, wyL]
  · have hr : r = 0 := by simpa [wyT] using ht
    subst hr
    refine ⟨?_, ⟨by omega, by omega, by simp [wyL], by simp [wyL], fun h => by omega⟩, ?_, ?_, by omega⟩
    · simp [mvL, wyO, wyL, slopeI, clampI]
      split <;> (try split) <;> (try split) <;> omega
    · simp [passSt]
    · simp [passLv, wyL]
theorem pass_end {a d s r st lv : Int} (h : ¬ (wyG st = true ∧ wyT a d r st = 0)) : passSt a d r st = st ∧ passLv a d s r st lv = lv := by
  have h0 : ¬ (st = 0 ∧ a = 0) := fun ⟨e1, e2⟩ => h (by subst e1; subst e2; exact ⟨rfl, by simp [wyT]⟩)
  have h1 : ¬ (st = 1 ∧ d = 0) := fun ⟨e1, e2⟩ => h (by subst e1; subst e2; exact ⟨rfl, by simp [wyT]⟩)
  have h3 : ¬ (st = 3 ∧ r = 0) := fun ⟨e1, e2⟩ => h (by subst e1; subst e2; exact ⟨rfl, by simp [wyT]⟩)
  unfold passSt passLv
  rw [if_neg h0, if_neg h0, if_neg h1, if_neg h1, if_neg h3, if_neg h3]
  exact ⟨rfl, rfl⟩
theorem EB.stOf {w : World} {g : Nat} {a d s r st lv : Int} (h : EB w g a d s r st lv) : Go.Proofs.Ytgdlinfgcfjciaa.stOf w g = st := by
  unfold Go.Proofs.Ytgdlinfgcfjciaa.stOf
  rw [h.cells.2.2.2.2.1]
theorem way_set {w : World} {b : Nat} {u v z : Value} (h : w.heap[b]? = some (.cells #[u, v, z] 46 (0, 0))) (x y t : Value) : (((w.setCell ⟨b, 0, none⟩ x).setCell ⟨b, 1, none⟩ y).setCell ⟨b, 2, none⟩ t).heap[b]? = some (.cells #[x, y, t] 46 (0, 0)) ∧
    Kept (fun q => q ≠ b) w (((w.setCell ⟨b, 0, none⟩ x).setCell ⟨b, 1, none⟩ y).setCell ⟨b, 2, none⟩ t) := by
  have k := fun (V : World) (o : Nat) (u : Value) => Kept.setCell V (X := fun q => q ≠ b) (a := ⟨b, o, none⟩) (fun h => h rfl) u
  exact ⟨(heap_setCell_at (heap_setCell_at (heap_setCell_at h))).trans rfl, ((k _ 0 x).trans (k _ 1 y)).trans (k _ 2 t)⟩
def PassR (w : World) (g B : Nat) (a d s r st lv : Int) (u : Value) (wr : World) : Prop := ∃ st' lv', StOk s st' lv' ∧ passSt a d r st' = passSt a d r st ∧ passLv a d s r st' lv' = passLv a d s r st lv ∧ u = .bool (wyG st') ∧ EB wr g a d s r st' lv' ∧
  wr.heap[B]? = some (.cells (wyC (wyO s st') (wyT a d r st') (wyL s st')) 46 (0, 0)) ∧ Kept (butOf w g) w wr
set_option maxHeartbeats 4000000 in
theorem ePass_any (g : Nat) (a d s r st lv : Int) (w : World) (h : EB w g a d s r st lv) (hr : shB a d s r = true) (ho : StOk s st lv) :
    Calls Try.prog 18 #[.pointer (some ⟨g, 0, none⟩)] w fun e w' => e = .returned (.tuple #[]) ∧ EB w' g a d s r (passSt a d r st) (passLv a d s r st lv) ∧ Kept (butOf w g) w w' := by
  obtain ⟨-, -, ⟨s0, s1⟩, -⟩ := shB_yes hr
  have HWy := Lib.hid (fun st lv w (h : EB w g a d s r st lv) h0 h1 => eWay_any g a d s r st lv w h s0 s1 h0 h1)
  have HMv := Lib.hid (fun st lv w (h : EB w g a d s r st lv) (k : StOk s st lv) (ht : wyT a d r st ≤ 9223372036854775807) => eMove_any g a d s r st lv (wyO s st) (wyT a d r st) (wyL s st) w h (wy_bd s0 s1).1 (wy_bd s0 s1).2.1 k.v0 k.v1 (wy_bd s0 s1).2.2.1 (wy_bd s0 s1).2.2.2 ht k.s0 k.s1)
  have HE := Lib.hid h
  have HK := Lib.hid ho
  have Hs0 := Lib.hid s0
  have Hs1 := Lib.hid s1
  have HG := Lib.hid h.lt
  clear h ho s0 s1 hr
  obtain ⟨O, hO⟩ : ∃ O, wyO s st = O := ⟨_, rfl⟩
  obtain ⟨T, hT⟩ : ∃ T, wyT a d r st = T := ⟨_, rfl⟩
  obtain ⟨L, hL⟩ : ∃ L, wyL s st = L := ⟨_, rfl⟩
  obtain ⟨G, hG⟩ : ∃ G, wyG st = G := ⟨_, rfl⟩
  have HW1 := Lib.hid (HWy.out st lv w HE.out HK.out.s0 HK.out.s1)
  rw [hO, hT, hL, hG] at HW1
  have HX := Lib.hid (And.intro hO (And.intro hT (And.intro hL hG)))
  clear hO hT hL hG
  unfold wyC at HW1
  go_enter Try.func18, Try.ntmps18
  go_wp2_with fail
  refine HW1.out.mono ?_
  rintro e w1 ⟨rfl, ho⟩
  have HE1 := Lib.hid (HE.out.old ho)
  have HO1 := Lib.hid ho
  clear ho HW1 HE
  go_wp2_with fail
  have HST : Hid (PassR w g w1.heap.size a d s r st lv (.bool G) (w1.alloc (.cells #[.int .i64 O, .int .i64 T, .int .i64 L] 46))) := Lib.hid (by
    obtain ⟨x1, x2, x3, x4⟩ := HX.out
    have hb := heap_alloc_new w1 (.cells #[.int .i64 O, .int .i64 T, .int .i64 L] 46)
    have hA := Old.alloc w1 (.cells #[.int .i64 O, .int .i64 T, .int .i64 L] 46)
    refine ⟨st, lv, HK.out, rfl, rfl, by rw [x4], HE1.out.old hA, ?_, ?_⟩
    · rw [x1, x2, x3]; exact hb
    · exact (HO1.out.trans hA).kept fun k hk => hk.1)
  have HB : Hid (g < w1.heap.size ∧ w.heap.size ≤ w1.heap.size) := Lib.hid ⟨HE1.out.lt, HO1.out.size⟩
  generalize w1.heap.size = B at *
  generalize (w1.alloc (.cells #[.int .i64 O, .int .i64 T, .int .i64 L] 46)) = V at *
  clear HE1 HO1 HX HK
  go_loopw [3] (fun u wr => Hid (PassR w g B a d s r st lv u wr)) (fun _ wr => (4 - stOf wr g).toNat)
  case atStart => exact HST
  case round =>
    obtain ⟨st', lv', k, p1, p2, rfl, hE, hB, hK⟩ := hrel.out
    have HEr := Lib.hid hE
    have HBr := Lib.hid hB
    have HKr := Lib.hid hK
    have Hk := Lib.hid k
    have Hp := Lib.hid (And.intro p1 p2)
    have c1 : wr.cell? ⟨B, 1, none⟩ = some (.int .i64 (wyT a d r st')) := by
      unfold wyC at hB
      simp [World.cell?, hB]
    have Hm := Lib.hid hE.stOf
    clear hrel hE hB hK k p1 p2 HST
    by_cases hgo : wyG st' = true ∧ wyT a d r st' = 0
    · obtain ⟨e1, e2⟩ := hgo
      obtain ⟨q1, q2, q3, q4, q5⟩ := pass_step Hk.out Hs0.out Hs1.out e1 e2
      have HM1 := Lib.hid (HMv.out st' lv' wr HEr.out Hk.out (by omega))
      rw [e2, q1, if_pos rfl] at HM1
      have hBr := HBr.out
      rw [e2] at hBr c1
      rw [e1]
      obtain ⟨O1, hO1⟩ : ∃ O, wyO s st' = O := ⟨_, rfl⟩
      obtain ⟨L1, hL1⟩ : ∃ L, wyL s st' = L := ⟨_, rfl⟩
      rw [hO1, hL1] at hBr HM1
      rw [hL1] at q2 q4
      have HQ := Lib.hid (And.intro q2 (And.intro (q3.trans Hp.out.1) (q4.trans Hp.out.2)))
      have HW2 := Lib.hid (fun w (h : EB w g a d s r (st' + 1) L1) => HWy.out (st' + 1) L1 w h q2.s0 q2.s1)
      clear q1 q2 q3 q4 e1 e2 hO1 hL1 HMv HBr
      unfold wyC at *
      obtain ⟨z0, z1, z2⟩ : wr.cell? ⟨B, 0, none⟩ = some (.int .i64 O1) ∧ wr.cell? ⟨B, 1, none⟩ = some (.int .i64 0) ∧ wr.cell? ⟨B, 2, none⟩ = some (.int .i64 L1) := by
        simp [World.cell?, hBr]
      have HBr := Lib.hid hBr
      clear c1 hBr
      go_wp2_with fail
      refine HM1.out.mono ?_
      rintro e w2 ⟨rfl, hE2, hK2⟩
      have hB2 : w2.heap[B]? = some (.cells #[.int .i64 O1, .int .i64 0, .int .i64 L1] 46 (0, 0)) := (hK2.block B ⟨lt_of_block HBr.out, by have := HB.out.1; omega⟩).trans HBr.out
      have HE2 := Lib.hid hE2
      have HK2 := Lib.hid hK2
      have HB2 := Lib.hid hB2
      have HW3 := Lib.hid (HW2.out w2 hE2)
      clear hE2 hK2 hB2 HW2 HM1 z0 z1 z2
      obtain ⟨O2, hO2⟩ : ∃ O, wyO s (st' + 1) = O := ⟨_, rfl⟩
      obtain ⟨T2, hT2⟩ : ∃ T, wyT a d r (st' + 1) = T := ⟨_, rfl⟩
      obtain ⟨L2, hL2⟩ : ∃ L, wyL s (st' + 1) = L := ⟨_, rfl⟩
      obtain ⟨G2, hG2⟩ : ∃ G, wyG (st' + 1) = G := ⟨_, rfl⟩
      rw [hO2, hT2, hL2, hG2] at HW3
      have HX2 := Lib.hid (And.intro hO2 (And.intro hT2 (And.intro hL2 hG2)))
      clear hO2 hT2 hL2 hG2
      go_wp2_with fail
      refine HW3.out.mono ?_
      rintro e w3 ⟨rfl, ho⟩
      have HE3 := Lib.hid (HE2.out.old ho)
      have hB3 := (ho.block B (lt_of_block HB2.out)).trans HB2.out
      have hs := way_set hB3 (.int .i64 O2) (.int .i64 T2) (.int .i64 L2)
      have hgl := HB.out
      have hE4 := HE3.out.kept hs.2 (by omega)
      have hN : PassR w g B a d s r st lv (.bool G2) (((w3.setCell ⟨B, 0, none⟩ (.int .i64 O2)).setCell ⟨B, 1, none⟩ (.int .i64 T2)).setCell ⟨B, 2, none⟩ (.int .i64 L2)) := by
        obtain ⟨x1, x2, x3, x4⟩ := HX2.out
        obtain ⟨y1, y2, y3⟩ := HQ.out
        refine ⟨st' + 1, L1, y1, y2, y3, by rw [x4], hE4, ?_, ?_⟩
        · rw [x1, x2, x3]; exact hs.1
        · exact (HKr.out.trans ((HK2.out.mono fun k hk => ⟨Nat.lt_of_lt_of_le hk.1 HKr.out.size, hk.2⟩).trans (ho.kept fun k hk => Nat.lt_of_lt_of_le hk.1 (Nat.le_trans HKr.out.size HK2.out.size)))).trans (hs.2.mono fun k hk e => by have := hk.1; omega)
      have HN := Lib.hid hN
      have HM4 := Lib.hid hE4.stOf
      obtain ⟨t0, t1, t2⟩ : w3.cell? ⟨B, 0, none⟩ = some (.int .i64 O1) ∧ w3.cell? ⟨B, 1, none⟩ = some (.int .i64 0) ∧ w3.cell? ⟨B, 2, none⟩ = some (.int .i64 L1) := by
        simp [World.cell?, hB3]
      obtain ⟨f0, f1, f2⟩ : w3.frozen? ⟨B, 0, none⟩ = false ∧ w3.frozen? ⟨B, 1, none⟩ = false ∧ w3.frozen? ⟨B, 2, none⟩ = false := by
        simp [World.frozen?, hB3]
      clear ho hB3 hs hE4 hN HE3 HW3 HX2 HB2 HE2 HK2 HQ hgl
      go_wp2_with fail
      go_roundw
      case rel => exact HN
      case measure => rw [Hm.out, HM4.out]; omega
    · obtain ⟨q1, q2⟩ := pass_end (s := s) (lv := lv') hgo
      have HF : Hid (EB wr g a d s r (passSt a d r st) (passLv a d s r st lv)) := Lib.hid (by rw [← Hp.out.1, ← Hp.out.2, q1, q2]; exact HEr.out)
      clear q1 q2 Hp HMv HWy
      obtain ⟨T1, hT1⟩ : ∃ T, wyT a d r st' = T := ⟨_, rfl⟩
      rw [hT1] at c1 hgo
      clear hT1
      generalize wyG st' = G1 at *
      cases G1
      · go_wp2_with fail
        refine bodyPost_end (results_none rfl _ _ _) rfl ?_
        exact ⟨rfl, HF.out, HKr.out⟩
      · have hd : (T1 == 0) = false := by simp only [beq_eq_false_iff_ne]; exact fun e => hgo ⟨rfl, e⟩
        clear hgo
        go_wp2_with fail
        refine bodyPost_end (results_none rfl _ _ _) rfl ?_
        exact ⟨rfl, HF.out, HKr.out⟩
end Go.Proofs.Ytgdlinfgcfjciaa

