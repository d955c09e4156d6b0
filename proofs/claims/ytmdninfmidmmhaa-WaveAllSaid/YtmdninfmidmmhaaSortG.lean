/- The library's stable sort by wave's comparer, whole. -/
import Derived.Test.YtmdninfmidmmhaaSortF
import Derived.Test.YtmdninfmidmmhaaStabP
namespace Go.Proofs.Ytmdninfmidmmhaa
set_option linter.unusedVariables false
set_option maxRecDepth 100000
open Go.RowKit Go.ChangeShapes Go.WideShapes

set_option maxHeartbeats 8000000 in
theorem stableN_any (g b N cap : Nat) (c : Nat → Nat → Int) (R : Int → Int → Prop) (w0 : World) (hE : CmpE w0 g b N c R) (hN : N ≤ 1152921504606846976) (F : Nat → Int) (hF : RisAB F N 0 N) (w : World) (hw : SrtW w0 g N F w) :
    Calls Try.prog 31 #[.slice (some ⟨g, 0, none⟩) N cap, .int .i64 N, cmpV b] w fun e w' => e = .returned (.tuple #[]) ∧ ∃ G, SrtO R F N G ∧ SrtW w0 g N G w' := by
  have HINS := Lib.hid (fun x y (h1 : x ≤ y) (h2 : y ≤ N) F hF w hw => insAB_any g b N cap c R w0 hE x y h1 h2 (by omega) F hF w hw)
  have HMRG := Lib.hid (fun x m y (h1 : x < m) (h2 : m < y) (h3 : y ≤ N) F hF w hw => symMerge_any g b N cap c R w0 hE (by omega) (y - x) x m y (Nat.le_refl _) h1 h2 h3 F hF w hw)
  have HRI := Lib.hid (fun i j (h1 : i < j) (h2 : j < N) => hF.2 i j (Nat.zero_le _) h1 h2)
  have HBD := Lib.hid (fun k (h1 : k < N) => hF.1 k (Nat.zero_le _) h1)
  unfold cmpV MrgO at *
  have H0 := Lib.hid hw
  clear hw hE hF
  go_enter Try.func31, Try.ntmps31
  go_wp2_with fail
  go_loopw [7, 8] (fun av bv wr => ∃ (a : Nat) (G : Nat → Int), av = .int .i64 a ∧ bv = .int .i64 ((a : Int) + 20) ∧ a ≤ N ∧ Hid (Ini R F N a G) ∧ Hid (SrtW w0 g N G wr)) (fun av _ _ => N - (intOf av).toNat)
  case atStart => exact ⟨0, F, by go_num, by go_num, Nat.zero_le _, Lib.hid (Ini.start R F N), H0⟩
  case round =>
    clear H0
    obtain ⟨a, G, rfl, rfl, ha, HI, HW⟩ := hrel
    by_cases hlt : a + 20 ≤ N
    · have hr : RisAB G N a (a + 20) := ⟨fun k h1 h2 => by rw [HI.out.rest k h1]; exact HBD.out k (by omega), fun i j h1 h2 h3 => by rw [HI.out.rest i h1, HI.out.rest j (by omega)]; exact HRI.out i j h2 (by omega)⟩
      have hc := HINS.out a (a + 20) (by omega) hlt G hr wr HW.out
      rw [show ((a + 20 : Nat) : Int) = (a : Int) + 20 by omega] at hc
      have HC := Lib.hid hc
      have dd : decide ((a : Int) + 20 ≤ (N : Int)) = true := decide_eq_true (by omega)
      clear hr hc HW
      go_wp2_with fail
      refine HC.out.mono ?_
      rintro e w1 ⟨rfl, G2, h1, h2, h3⟩
      have HI2 := Lib.hid (HI.out.step h2 h3)
      have HW2 := Lib.hid h1
      clear h1 h2 h3 HC HI
      go_wp2_with fail
      go_roundw
      case rel => exact ⟨a + 20, G2, by go_num, by go_num, hlt, HI2, HW2⟩
      case measure => simp [intOf]; omega
    · have hr : RisAB G N a N := ⟨fun k h1 h2 => by rw [HI.out.rest k h1]; exact HBD.out k (by omega), fun i j h1 h2 h3 => by rw [HI.out.rest i h1, HI.out.rest j (by omega)]; exact HRI.out i j h2 (by omega)⟩
      have HC := Lib.hid (HINS.out a N ha (Nat.le_refl _) G hr wr HW.out)
      have dd : decide ((a : Int) + 20 ≤ (N : Int)) = false := decide_eq_false (by omega)
      have hlt' : N < a + 20 := by omega
      clear hr HW HINS
      go_wp2_with fail
      refine HC.out.mono ?_
      rintro e w1 ⟨rfl, G2, h1, h2, h3⟩
      have HB := Lib.hid (HI.out.last ha hlt' h2 h3)
      have HW2 := Lib.hid h1
      clear h1 h2 h3 HC HI ha hlt hlt' dd
      obtain ⟨wo, rfl⟩ : ∃ V, V = w1 := ⟨_, rfl⟩
      go_wp2_with fail
      go_loopw [6] (fun sv wr => ∃ (bs : Nat) (G : Nat → Int), sv = .int .i64 bs ∧ 0 < bs ∧ bs ≤ 2 * N + 20 ∧ Hid (Blk R F N bs G) ∧ Hid (SrtW w0 g N G wr)) (fun sv _ => N - (intOf sv).toNat)
      case atStart => exact ⟨20, G2, by go_num, by omega, by omega, HB, HW2⟩
      case round =>
        clear HB HW2
        obtain ⟨bs, G, rfl, hb0, hb1, HB, HW⟩ := hrel
        by_cases hbn : bs < N
        · have HM0 := Lib.hid (HB.out.mix (2 * bs))
          have dd : decide ((bs : Int) < (N : Int)) = true := decide_eq_true (by omega)
          clear HB hb1
          obtain ⟨wo, rfl⟩ : ∃ V, V = wr := ⟨_, rfl⟩
          go_wp2_with fail
          clear dd
          go_loopw [7, 8] (fun av bv wr => ∃ (a t : Nat) (G : Nat → Int), av = .int .i64 a ∧ bv = .int .i64 ((a : Int) + 2 * (bs : Int)) ∧ Hid (a = 2 * bs * t) ∧ a ≤ N ∧ Hid (Mix R F N (2 * bs) bs a G) ∧ Hid (SrtW w0 g N G wr)) (fun av _ _ => N - (intOf av).toNat)
          case atStart => exact ⟨0, 0, G, by go_num, by go_num, Lib.hid (by rw [Nat.mul_zero]), Nat.zero_le _, HM0, HW⟩
          case round =>
            clear HM0 HW
            obtain ⟨a, t, G, rfl, rfl, HT, ha, HM, HW⟩ := hrel
            by_cases hlt : a + 2 * bs ≤ N
            · have hrow := HM.out.rows hb0 HT.out (y := a + 2 * bs) (by omega) (Nat.le_refl _) hlt HRI.out HBD.out
              have hc := HMRG.out a (a + bs) (a + 2 * bs) (by omega) (by omega) hlt G ⟨hrow.1, hrow.2.1, hrow.2.2.1, hrow.2.2.2⟩ wr HW.out
              rw [show ((a + bs : Nat) : Int) = (a : Int) + (bs : Int) by omega, show ((a + 2 * bs : Nat) : Int) = (a : Int) + 2 * (bs : Int) by omega] at hc
              have HC := Lib.hid hc
              have dd : decide ((a : Int) + 2 * (bs : Int) ≤ (N : Int)) = true := decide_eq_true (by omega)
              clear hrow hc HW
              go_wp2_with fail
              refine HC.out.mono ?_
              rintro e w2 ⟨rfl, G2, h1, h2, h3⟩
              have HM2 := Lib.hid (HM.out.step hb0 HT.out hlt h2 h3)
              have HT2 := Lib.hid (show a + 2 * bs = 2 * bs * (t + 1) by rw [Nat.mul_add, Nat.mul_one, ← HT.out])
              have HW2 := Lib.hid h1
              clear h1 h2 h3 HC HM HT
              go_wp2_with fail
              go_roundw
              case rel => exact ⟨a + 2 * bs, t + 1, G2, by go_num, by go_num, HT2, hlt, HM2, HW2⟩
              case measure => simp [intOf]; omega
            · have dd : decide ((a : Int) + 2 * (bs : Int) ≤ (N : Int)) = false := decide_eq_false (by omega)
              have hlt' : N < a + 2 * bs := by omega
              by_cases hm : a + bs < N
              · have hrow := HM.out.rows hb0 HT.out (y := N) (by omega) (by omega) (Nat.le_refl _) HRI.out HBD.out
                have hc := HMRG.out a (a + bs) N (by omega) hm (Nat.le_refl _) G ⟨hrow.1, hrow.2.1, hrow.2.2.1, hrow.2.2.2⟩ wr HW.out
                rw [show ((a + bs : Nat) : Int) = (a : Int) + (bs : Int) by omega] at hc
                have HC := Lib.hid hc
                have d2 : decide ((a : Int) + (bs : Int) < (N : Int)) = true := decide_eq_true (by omega)
                clear hrow hc HW
                go_wp2_with fail
                refine HC.out.mono ?_
                rintro e w2 ⟨rfl, G2, h1, h2, h3⟩
                have HB2 := Lib.hid (HM.out.last hb0 HT.out ha hlt' h2 h3)
                have HW2 := Lib.hid h1
                clear h1 h2 h3 HC HM HT
                go_wp2_with fail
                go_roundw
                case rel => exact ⟨2 * bs, G2, by go_num, by omega, by omega, HB2, HW2⟩
                case measure => simp [intOf]; omega
              · have d2 : decide ((a : Int) + (bs : Int) < (N : Int)) = false := decide_eq_false (by omega)
                have HB2 := Lib.hid (HM.out.last hb0 HT.out ha hlt' (PermAB.refl G a N) (HM.out.alone hb0 HT.out (by omega)))
                clear HM HT
                go_wp2_with fail
                go_roundw
                case rel => exact ⟨2 * bs, G, by go_num, by omega, by omega, HB2, HW⟩
                case measure => simp [intOf]; omega
        · have dd : decide ((bs : Int) < (N : Int)) = false := decide_eq_false (by omega)
          have HS := Lib.hid (HB.out.done (by omega))
          clear HB
          go_wp2_with fail
          go_end0
          exact ⟨rfl, G, HS.out, HW.out⟩
theorem SortStableN_any (g b N cap : Nat) (c : Nat → Nat → Int) (R : Int → Int → Prop) (w0 : World) (hE : CmpE w0 g b N c R) (hN : N ≤ 1152921504606846976) (F : Nat → Int) (hF : RisAB F N 0 N) (w : World) (hw : SrtW w0 g N F w) :
    Calls Try.prog 26 #[.slice (some ⟨g, 0, none⟩) N cap, cmpV b] w fun e w' => e = .returned (.tuple #[]) ∧ ∃ G, SrtO R F N G ∧ SrtW w0 g N G w' := by
  have HI := Lib.hid (stableN_any g b N cap c R w0 hE hN F hF w hw)
  unfold cmpV at *
  clear hF hw hE
  go_enter Try.func26, Try.ntmps26
  go_wp2_with fail
  refine HI.out.mono ?_
  rintro e w1 ⟨rfl, hh⟩
  have HH := Lib.hid hh
  clear hh HI
  go_wp2_with fail
  go_end0
  exact ⟨rfl, HH.out⟩
end Go.Proofs.Ytmdninfmidmmhaa
