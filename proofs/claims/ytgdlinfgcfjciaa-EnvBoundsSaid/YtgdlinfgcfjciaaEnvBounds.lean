/- EnvBounds: whatever the shape, the envelope is never louder than can be, never falls while it rises, never rises behind that, and is silent when it was let go for long enough; the example holds. No condition. -/
import Derived.Test.YtgdlinfgcfjciaaRows
import Derived.Test.YtgdlinfgcfjciaaEnvP
import Derived.Test.YtgdlinfgcfjciaaEnvS
import Derived.Deep.DeepCutAuto
import Derived.Deep.Cut
namespace Go.Proofs.Ytgdlinfgcfjciaa.envBounds
open Go.ChangeShapes Go.WideShapes Go.ChangeAt Go.RowKit
set_option linter.unusedVariables false
set_option linter.unusedSimpArgs false

/-- What was told last. -/
def lastV (a d s r : Int) : Nat → Int
  | 0 => 0
  | k + 1 => evV a d s r (0, 0) k
structure BR (w : World) (g gs : Nat) (a d s r : Int) (x : Int × Int) (wr : World) : Prop where
  eb : EB wr g a d s r x.1 x.2
  sh : wr.heap[gs]? = some (.cells #[.int .i64 a, .int .i64 d, .int .i64 s, .int .i64 r] 23 (0, 0))
  old : Old w wr
theorem BR.next {w wr V : World} {g gs : Nat} {a d s r : Int} {x y : Int × Int} (h : BR w g gs a d s r x wr) (hg : w.heap.size ≤ g) (hne : gs ≠ g) (hE : EB V g a d s r y.1 y.2) (hK : Kept (butOf wr g) wr V) : BR w g gs a d s r y V :=
  ⟨hE, (hK.block gs ⟨lt_of_block h.sh, hne⟩).trans h.sh, h.old.after hK fun k hk => ⟨Nat.lt_of_lt_of_le hk h.old.size, by omega⟩⟩
theorem BR.cells {w wr : World} {g gs : Nat} {a d s r : Int} {x : Int × Int} (h : BR w g gs a d s r x wr) : wr.cell? ⟨gs, 0, none⟩ = some (.int .i64 a) ∧ wr.cell? ⟨gs, 3, none⟩ = some (.int .i64 r) := by
  have hb := h.sh
  simp [World.cell?, hb]
set_option maxRecDepth 100000 in
set_option maxHeartbeats 8000000 in
theorem walk (a d s r hh : Int) (w : World) (h1 : -9223372036854775808 ≤ hh) (h2 : hh ≤ 9223372036854775807) :
    Calls Try.prog 4 #[shV a d s r, .int .i64 hh] w fun e w' => e = .returned (.bool true) ∧ Old w w' := by
  have HA := Lib.hid (fun w => awake22_any w)
  have HRt := Lib.hid (fun w => right22_any a d s r w)
  have HNw := Lib.hid (fun w => eNew_any a d s r w)
  obtain ⟨W, hW⟩ : ∃ W, W = w.alloc (.cells #[.int .i64 a, .int .i64 d, .int .i64 s, .int .i64 r] 23) := ⟨_, rfl⟩
  obtain ⟨gs, hgs⟩ : ∃ g, g = w.heap.size := ⟨_, rfl⟩
  have hO : Old w W := by rw [hW]; exact Old.alloc _ _
  have hb : W.heap[gs]? = some (.cells #[.int .i64 a, .int .i64 d, .int .i64 s, .int .i64 r] 23 (0, 0)) := by rw [hW, hgs]; exact heap_alloc_new _ _
  have HO := Lib.hid hO
  have HB := Lib.hid hb
  have HW := Lib.hid hW
  have HG := Lib.hid hgs
  clear hO hb hW hgs
  obtain ⟨B, hB⟩ : ∃ B, shB a d s r = B := ⟨_, rfl⟩
  rw [hB] at HRt HNw
  have HBs : Hid (B = true → (0 ≤ a ∧ a ≤ 1048576) ∧ (0 ≤ d ∧ d ≤ 1048576) ∧ (0 ≤ s ∧ s ≤ 256) ∧ 0 ≤ r ∧ r ≤ 1048576) := Lib.hid fun h => shB_yes (hB.trans h)
  have HNx := Lib.hid (fun (h : B = true) g st lv w hE ho => eNext_any g a d s r st lv w hE (hB.trans h) ho)
  clear hB
  unfold shV at *
  go_enter Try.func4, Try.ntmps4
  go_wp2_with fail
  rw [← HW.out, ← HG.out]
  obtain ⟨c0, c1, c2, c3⟩ : W.cell? ⟨gs, 0, none⟩ = some (.int .i64 a) ∧ W.cell? ⟨gs, 1, none⟩ = some (.int .i64 d) ∧ W.cell? ⟨gs, 2, none⟩ = some (.int .i64 s) ∧ W.cell? ⟨gs, 3, none⟩ = some (.int .i64 r) := by
    have hb := HB.out
    simp [World.cell?, hb]
  go_wp2_with fail
  clear c0 c1 c2 c3
  refine (HRt.out _).mono ?_
  rintro e w1 ⟨rfl, ho⟩
  have hb1 := (ho.block gs (lt_of_block HB.out)).trans HB.out
  obtain ⟨c0, c1, c2, c3⟩ : w1.cell? ⟨gs, 0, none⟩ = some (.int .i64 a) ∧ w1.cell? ⟨gs, 1, none⟩ = some (.int .i64 d) ∧ w1.cell? ⟨gs, 2, none⟩ = some (.int .i64 s) ∧ w1.cell? ⟨gs, 3, none⟩ = some (.int .i64 r) := by
    simp [World.cell?, hb1]
  have HB1 := Lib.hid hb1
  have HO1 := Lib.hid (HO.out.trans ho)
  clear hb1 ho HB HO HW HRt
  cases B
  · go_wp2_with fail
    refine (HA.out _).mono ?_
    rintro e w2 ⟨rfl, ho⟩
    have HO2 := Lib.hid (HO1.out.trans ho)
    clear ho
    go_wp2_with fail
    go_ret
    exact ⟨rfl, HO2.out⟩
  obtain ⟨⟨a0, a1⟩, ⟨d0, d1⟩, ⟨s0, s1⟩, r0, r1⟩ := HBs.out rfl
  clear HBs
  have HNy := Lib.hid (HNx.out rfl)
  clear HNx
  by_cases y0 : 100 < a
  · go_wp2_with fail
    refine (HA.out _).mono ?_
    rintro e w2 ⟨rfl, ho⟩
    have HO2 := Lib.hid (HO1.out.trans ho)
    clear ho
    go_wp2_with fail
    go_ret
    exact ⟨rfl, HO2.out⟩
  have x0 : a ≤ 100 := by omega
  clear y0
  by_cases y1 : 100 < d
  · go_wp2_with fail
    refine (HA.out _).mono ?_
    rintro e w2 ⟨rfl, ho⟩
    have HO2 := Lib.hid (HO1.out.trans ho)
    clear ho
    go_wp2_with fail
    go_ret
    exact ⟨rfl, HO2.out⟩
  have x1 : d ≤ 100 := by omega
  clear y1
  by_cases y2 : 100 < r
  · go_wp2_with fail
    refine (HA.out _).mono ?_
    rintro e w2 ⟨rfl, ho⟩
    have HO2 := Lib.hid (HO1.out.trans ho)
    clear ho
    go_wp2_with fail
    go_ret
    exact ⟨rfl, HO2.out⟩
  have x2 : r ≤ 100 := by omega
  clear y2
  by_cases y3 : hh < 0
  · go_wp2_with fail
    refine (HA.out _).mono ?_
    rintro e w2 ⟨rfl, ho⟩
    have HO2 := Lib.hid (HO1.out.trans ho)
    clear ho
    go_wp2_with fail
    go_ret
    exact ⟨rfl, HO2.out⟩
  have x3 : 0 ≤ hh := by omega
  clear y3
  by_cases y4 : 300 < hh
  · go_wp2_with fail
    refine (HA.out _).mono ?_
    rintro e w2 ⟨rfl, ho⟩
    have HO2 := Lib.hid (HO1.out.trans ho)
    clear ho
    go_wp2_with fail
    go_ret
    exact ⟨rfl, HO2.out⟩
  have x4 : hh ≤ 300 := by omega
  clear y4
  go_wp2_with fail
  refine (HNw.out _).mono ?_
  rintro e w2 hN
  obtain ⟨h, -⟩ | ⟨-, g, rfl, hg, hE, hO⟩ := hN
  · cases h
  have HBR0 : Hid (BR w g gs a d s r (0, 0) w2) := Lib.hid ⟨hE, (hO.block gs (lt_of_block HB1.out)).trans HB1.out, HO1.out.trans hO⟩
  have Hg : Hid (w.heap.size ≤ g ∧ gs ≠ g) := Lib.hid (by have := HO1.out.size; have := lt_of_block HB1.out; omega)
  clear hg hE hO HNw HB1 HO1 c0 c1 c2 c3 HG
  have Hs0 := Lib.hid s0
  have Hs1 := Lib.hid s1
  have Hd := Lib.hid (And.intro d0 d1)
  have Hr := Lib.hid (And.intro r0 r1)
  have HNk := Lib.hid (fun (k : Nat) V (hE : EB V g a d s r (evI a d s r (0, 0) k).1 (evI a d s r (0, 0) k).2) => HNy.out g _ _ V hE (evI_ok (x := (0, 0)) ⟨by omega, by omega, by omega, by omega, by omega⟩ s0 s1 k))
  clear d0 d1 r1 s0 s1
  go_wp2_with fail
  go_loopw [7, 8] (fun lv iv wr => ∃ k : Nat, (k : Int) ≤ hh ∧ lv = .int .i64 (lastV a d s r k) ∧ iv = .int .i64 k ∧ Hid (BR w g gs a d s r (evI a d s r (0, 0) k) wr)) (fun _ iv _ => (hh - intOf iv).toNat)
  case atStart => exact ⟨0, by omega, rfl, rfl, HBR0⟩
  case round =>
    clear HBR0
    obtain ⟨k, hk, rfl, rfl, HS⟩ := hrel
    by_cases hlt : (k : Int) < hh
    · have HSt := Lib.hid (eStage_any g _ _ _ _ _ _ wr HS.out.eb)
      have HN := Lib.hid (HNk.out k wr HS.out.eb)
      obtain ⟨c0, -⟩ := HS.out.cells
      have hok := evI_ok (a := a) (d := d) (r := r) (s := s) (x := (0, 0)) ⟨by omega, by omega, by omega, by omega, by omega⟩ Hs0.out Hs1.out k
      have hok1 := evI_ok (a := a) (d := d) (r := r) (s := s) (x := (0, 0)) ⟨by omega, by omega, by omega, by omega, by omega⟩ Hs0.out Hs1.out (k + 1)
      have f1 : ¬ (evV a d s r (0, 0) k < lastV a d s r k ∧ (evI a d s r (0, 0) k).1 = 0 ∧ 0 < a) := fun ⟨h1, h2, h3⟩ => by
        have hb := nxV_bd (a := a) (d := d) (r := r) hok Hs0.out Hs1.out
        cases k with
        | zero => exact absurd h1 (by show ¬ (nxV a d s r _ _ < 0); omega)
        | succ j =>
          have := ev_rises (a := a) (d := d) (r := r) Hs0.out Hs1.out j h2 h3
          have h1 : evV a d s r (0, 0) (j + 1) < evV a d s r (0, 0) j := h1
          omega
      have f2 : ¬ (lastV a d s r k < evV a d s r (0, 0) k ∧ a < (k : Int)) := fun ⟨h1, h2⟩ => by
        cases k with
        | zero => omega
        | succ j =>
          have := ev_falls (a := a) (d := d) (r := r) Hs0.out Hs1.out a0 j h2
          have h1 : evV a d s r (0, 0) j < evV a d s r (0, 0) (j + 1) := h1
          omega
      have f3 : a ≤ (k : Int) → (evI a d s r (0, 0) (k + 1)).1 ≠ 0 := fun h => ev_done Hs0.out Hs1.out a0 (k + 1) (by omega) (by omega)
      have f4 : 0 ≤ evV a d s r (0, 0) k ∧ evV a d s r (0, 0) k ≤ 256 := nxV_bd (a := a) (d := d) (r := r) hok Hs0.out Hs1.out
      have f5 := hok1.v1
      have HX : Hid (BR w g gs a d s r (evI a d s r (0, 0) k) wr ∧ ∀ V, EB V g a d s r (evI a d s r (0, 0) (k + 1)).1 (evI a d s r (0, 0) (k + 1)).2 → Kept (butOf wr g) wr V → BR w g gs a d s r (evI a d s r (0, 0) (k + 1)) V) := Lib.hid ⟨HS.out, fun V h1 h2 => HS.out.next Hg.out.1 Hg.out.2 h1 h2⟩
      have HM : Hid (Calls Try.prog 11 #[.pointer (some ⟨g, 0, none⟩)] wr fun e w' => e = .returned (.int .i64 (evV a d s r (0, 0) k)) ∧ EB w' g a d s r (evI a d s r (0, 0) (k + 1)).1 (evI a d s r (0, 0) (k + 1)).2 ∧ Kept (butOf wr g) wr w') := HN
      have HL : Hid (lastV a d s r (k + 1) = evV a d s r (0, 0) k) := Lib.hid rfl
      clear HNk HNy HS hok hok1 HN
      generalize lastV a d s r k = last at *
      generalize evV a d s r (0, 0) k = v at *
      generalize evI a d s r (0, 0) k = x at *
      obtain ⟨y, hy⟩ : ∃ y, evI a d s r (0, 0) (k + 1) = y := ⟨_, rfl⟩
      rw [hy] at f3 f5 HX HM
      have HY := Lib.hid hy
      clear hy
      obtain ⟨x1, x2⟩ := x
      obtain ⟨y1, y2⟩ := y
      dsimp only at *
      have F1 := Lib.hid f1
      have F2 := Lib.hid f2
      have F3 := Lib.hid f3
      clear f1 f2 f3
      go_upto_region 10 with (fail)
      go_cut [9] (fun bv wx => bv = .bool (decide (x1 = 0 ∧ 0 < a)) ∧ wr = wx)
      case first =>
        clear HX HM F1 F2 F3 HL HY
        by_cases q1 : x1 = 0
        · subst q1
          by_cases q2 : 0 < a
          · have hE := Lib.hid (show decide ((0 : Int) = 0 ∧ 0 < a) = true from decide_eq_true ⟨rfl, q2⟩)
            go_wp2_with fail
            refine HSt.out.mono ?_
            rintro e w3 ⟨rfl, rfl⟩
            go_wp2_with fail
            go_meet
            exact ⟨by rw [hE.out], rfl⟩
          · have hE := Lib.hid (show decide ((0 : Int) = 0 ∧ 0 < a) = false from decide_eq_false fun h => q2 h.2)
            go_wp2_with fail
            refine HSt.out.mono ?_
            rintro e w3 ⟨rfl, rfl⟩
            go_wp2_with fail
            go_meet
            exact ⟨by rw [hE.out]; exact congrArg Value.bool (decide_eq_false (by omega)), rfl⟩
        · have hE := Lib.hid (show decide (x1 = 0 ∧ 0 < a) = false from decide_eq_false fun h => q1 h.1)
          have q1' : (x1 == 0) = false := by simpa using q1
          clear q1
          go_wp2_with fail
          refine HSt.out.mono ?_
          rintro e w3 ⟨rfl, rfl⟩
          go_wp2_with fail
          go_meet
          exact ⟨by rw [hE.out], rfl⟩
      case rest => as_aux_lemma =>
        obtain ⟨rfl, rfl⟩ := hcut
        clear HSt
        have F4 : Hid (∀ R : Bool, R = decide (x1 = 0 ∧ 0 < a) → ¬ (v < last ∧ R = true)) := Lib.hid fun R hR ⟨h1, h2⟩ => F1.out ⟨h1, by rw [hR] at h2; exact (of_decide_eq_true h2)⟩
        obtain ⟨R, hR⟩ : ∃ R, R = decide (x1 = 0 ∧ 0 < a) := ⟨_, rfl⟩
        rw [← hR]
        have F5 := Lib.hid (F4.out R hR)
        clear F4 F1 hR
        go_wp2_with fail
        refine HM.out.mono ?_
        rintro e w3 ⟨rfl, hE3, hK3⟩
        have H3 := Lib.hid (HX.out.2 w3 hE3 hK3)
        have HLv := Lib.hid (eLevel_any g _ _ _ _ _ _ w3 hE3)
        have HSt3 := Lib.hid (eStage_any g _ _ _ _ _ _ w3 hE3)
        obtain ⟨c0, -⟩ := H3.out.cells
        clear HX HM hE3 hK3
        go_upto_region 12 with (fail)
        go_cut [94] (fun bv wx => bv = .bool false ∧ w3 = wx)
        case first =>
          clear H3 HSt3 F3 HL HY
          have hg1 := Lib.hid (show decide (v < 0) = false from decide_eq_false (by omega))
          have hg2 := Lib.hid (show decide (256 < v) = false from decide_eq_false (by omega))
          have hg3 := Lib.hid (show decide (16777216 < y2) = false from decide_eq_false (by omega))
          by_cases q1 : v < last
          · have hR : R = false := by cases R <;> first | rfl | exact absurd ⟨q1, rfl⟩ F5.out
            subst hR
            clear F5 F2
            go_wp2_with fail
            refine HLv.out.mono ?_
            rintro e w4 ⟨rfl, rfl⟩
            go_wp2_with fail
            go_meet
            exact ⟨by first | rfl | (rw [hg1.out, hg2.out, hg3.out]; rfl), rfl⟩
          · by_cases q2 : last < v
            · have q3 : ¬ a < (k : Int) := fun h => F2.out ⟨q2, h⟩
              clear F5 F2
              go_wp2_with fail
              refine HLv.out.mono ?_
              rintro e w4 ⟨rfl, rfl⟩
              go_wp2_with fail
              go_meet
              exact ⟨by first | rfl | (rw [hg1.out, hg2.out, hg3.out]; rfl), rfl⟩
            · clear F5 F2
              go_wp2_with fail
              refine HLv.out.mono ?_
              rintro e w4 ⟨rfl, rfl⟩
              go_wp2_with fail
              go_meet
              exact ⟨by first | rfl | (rw [hg1.out, hg2.out, hg3.out]; rfl), rfl⟩
        case rest => as_aux_lemma =>
          obtain ⟨rfl, rfl⟩ := hcut
          clear HLv F5 F2
          by_cases q4 : a ≤ (k : Int)
          · have q5 : (y1 == 0) = false := by simpa using F3.out q4
            clear F3
            go_wp2_with fail
            refine HSt3.out.mono ?_
            rintro e w4 ⟨rfl, rfl⟩
            go_wp2_with fail
            go_roundw
            case rel => exact ⟨k + 1, by omega, by rw [HL.out], by go_num, by rw [HY.out]; exact H3⟩
            case measure => simp [intOf]; omega
          · clear F3 HSt3
            go_wp2_with fail
            go_roundw
            case rel => exact ⟨k + 1, by omega, by rw [HL.out], by go_num, by rw [HY.out]; exact H3⟩
            case measure => simp [intOf]; omega
    · have HRl := Lib.hid (eRelease_any g _ _ _ _ _ _ wr HS.out.eb)
      have hok := evI_ok (a := a) (d := d) (r := r) (s := s) (x := (0, 0)) ⟨by omega, by omega, by omega, by omega, by omega⟩ Hs0.out Hs1.out k
      have h2 := ev_two (a := a) (d := d) (r := r) Hs0.out Hs1.out k
      have hs3 : relSt (evI a d s r (0, 0) k).1 = 3 := if_neg (by omega)
      rw [hs3] at HRl
      obtain ⟨lv, hlv⟩ : ∃ lv, (evI a d s r (0, 0) k).2 = lv := ⟨_, rfl⟩
      have l0 := hok.v0
      have l1 := hok.v1
      rw [hlv] at HRl l0 l1
      have HL := Lib.hid (And.intro l0 l1)
      have HNg := Lib.hid (fun (j : Nat) V (hE : EB V g a d s r (evI a d s r (3, lv) j).1 (evI a d s r (3, lv) j).2) => HNy.out g _ _ V hE (evI_ok (x := (3, lv)) ⟨by omega, by omega, l0, l1, by omega⟩ Hs0.out Hs1.out j))
      clear hlv hs3 h2 hok l0 l1 HNk HNy
      go_wp2_with fail
      refine HRl.out.mono ?_
      rintro e w3 ⟨rfl, hE3, hK3⟩
      have H3 : Hid (BR w g gs a d s r (evI a d s r (3, lv) 0) w3) := Lib.hid (HS.out.next (y := (3, lv)) Hg.out.1 Hg.out.2 hE3 hK3)
      clear hE3 hK3 HRl HS
      go_wp2_with fail
      go_loopw [11] (fun iv wr => ∃ j : Nat, (j : Int) ≤ r + 1 ∧ iv = .int .i64 j ∧ Hid (BR w g gs a d s r (evI a d s r (3, lv) j) wr)) (fun iv _ => (r + 1 - intOf iv).toNat)
      case atStart => exact ⟨0, by omega, rfl, H3⟩
      case round =>
        clear H3
        rename_i wr0 _ _ _
        obtain ⟨j, hj, rfl, HS⟩ := hrel
        obtain ⟨-, c3⟩ := HS.out.cells
        have HN := Lib.hid (HNg.out j _ HS.out.eb)
        by_cases hjr : (j : Int) ≤ r
        · have HX : Hid (∀ V, EB V g a d s r (evI a d s r (3, lv) (j + 1)).1 (evI a d s r (3, lv) (j + 1)).2 → Kept (butOf _ g) _ V → BR w g gs a d s r (evI a d s r (3, lv) (j + 1)) V) := Lib.hid fun V h1 h2 => HS.out.next Hg.out.1 Hg.out.2 h1 h2
          clear HNg HS
          go_wp2_with fail
          refine HN.out.mono ?_
          rintro e w4 ⟨rfl, hE4, hK4⟩
          have H4 := Lib.hid (HX.out w4 hE4 hK4)
          clear hE4 hK4 HX HN
          go_wp2_with fail
          go_roundw
          case rel => exact ⟨j + 1, by omega, by go_num, H4⟩
          case measure => simp [intOf]; omega
        · have hov := ev_over (a := a) (d := d) (s := s) HL.out.1 HL.out.2 r0 j (by omega)
          have hX := fun V h1 h2 => HS.out.next (V := V) (y := (4, 0)) Hg.out.1 Hg.out.2 h1 h2
          rw [hov] at HN
          have HM : Hid (Calls Try.prog 11 #[.pointer (some ⟨g, 0, none⟩)] _ fun e w' => e = .returned (.int .i64 (nxV a d s r 4 0)) ∧ EB w' g a d s r (nxSt a d s r 4 0) (nxLv a d s r 4 0) ∧ Kept (butOf _ g) _ w') := HN
          rw [nx_over.1, nx_over.2.1, nx_over.2.2] at HM
          have HX := Lib.hid hX
          clear hov hX HNg HS HL HN
          go_wp2_with fail
          refine HM.out.mono ?_
          rintro e w4 ⟨rfl, hE4, hK4⟩
          have H4 := Lib.hid (HX.out w4 hE4 hK4)
          have HSt := Lib.hid (eStage_any g _ _ _ _ _ _ w4 hE4)
          clear hE4 hK4 HX HM
          go_wp2_with fail
          refine HSt.out.mono ?_
          rintro e w5 ⟨rfl, rfl⟩
          clear HSt
          go_wp2_with fail
          refine (HA.out _).mono ?_
          rintro e w6 ⟨rfl, ho⟩
          have HO6 := Lib.hid (H4.out.old.trans ho)
          clear ho
          go_wp2_with fail
          go_ret
          exact ⟨rfl, HO6.out⟩


theorem own : ownKnob Try.prog.godebug = none := by kernel_rfl
theorem laidOut : laidOutB Try.prog = true := by kernel_rfl

set_option maxRecDepth 100000 in
theorem lifted (os : Os) (started : os.Started) (H : Type) (enc : TypeId × Value → H) :
    ReturnsInHanded {} Try.checked os 4 .any (Rows.envBoundsSpec.pre6 enc Try.prog Try.f4 Rows.envBoundsRow.domain false) (Rows.envBoundsSpec.post enc Try.prog Try.f4 false true false false) := by
  refine returnsInHanded_of_change (C := Try.checked) own started (by kernel_rfl) Try.func4
    (ChangeSpec.witness6 (enc := enc) (C := Try.checked) false ⟨#[], #[(.agg #[.int .i64 0, .int .i64 0, .int .i64 0, .int .i64 0]), .int .i64 0], []⟩ 8 (by kernel_rfl) (by kernel_rfl) (by kernel_rfl) (by kernel_rfl)) ?_
  intro W base args ds gs before hval0 hW hcnd _
  have hval : ∀ (j : Nat) t v, Try.f4.params[j]? = some t → args[j]? = some v → Value.okWide Try.prog W .any base t v := hval0
  have hW' := hW
  have hlt : ∀ p ∈ before, p.block < W.heap.size := fun p hp => hW'.lt p hp
  obtain ⟨p, q, hA0, hV, rfl, hfz, hnd⟩ := hW
  have hA : DataW.TrodAll enc Try.prog W 0 (fun _ => true) true Try.f4.params.toList args.toList ds p := hA0
  rw [Try.params4] at hA hval
  obtain ⟨v0, vs0, d0, ds0, p0, q0, hargs, rfl, rfl, h0, r0⟩ := trodAll_cons hA
  obtain ⟨v1, vs1, d1, ds1, p1, q1, rfl, rfl, rfl, h1, r1⟩ := trodAll_cons r0
  obtain ⟨rfl, rfl, rfl⟩ := trodAll_nil r1
  obtain rfl : args = #[v0, v1] := by cases args; simp_all
  obtain ⟨rfl, rfl⟩ := trodVars_none hV
  obtain ⟨a0, b0, c0, e0, rfl⟩ := open_shape (hval 0 23 v0 rfl rfl) h0
  obtain ⟨a1, rfl, _, _, w1⟩ := open_int Try.underlying3 (hval 1 3 v1 rfl rfl) h1
  refine (walk a0 b0 c0 e0 a1 W (i64_of w1).1 (i64_of w1).2).mono fun e W' ⟨he, hg⟩ => ?_
  subst he
  exact ⟨_, rfl, law_done laidOut Try.underlying4 rfl (by kernel_rfl) rfl hW' rfl hg⟩

theorem over : Rows.envBoundsRow.holds Try.pinned (OpenSpec.ofChange Rows.envBoundsSpec) :=
  OpenClaim.holds_of_wide 4 Try.f4 rfl rfl rfl rfl rfl rfl rfl ⟨rfl, rfl, rfl, rfl, rfl⟩ rfl rfl rfl rfl rfl (by kernel_rfl) Try.func4 (by kernel_rfl)
    (of_decide_eq_true (by kernel_rfl)) (by unfold Func.isWrapper; first | (rw [if_pos (by decide +kernel)]; kernel_rfl) | (rw [if_neg (by decide +kernel)]; exact ⟨rfl, rfl⟩))
    (fun os started H enc _ => lifted os started H enc)

theorem proved : Rows.EnvBoundsSaid :=
  over
end Go.Proofs.Ytgdlinfgcfjciaa.envBounds
