/- Package wave's contracts on lists of samples, fourth part: CheckAll. -/
import Derived.Test.YtmdninfmidmmhaaWaveE
import Derived.Test.YtmdninfmidmmhaaWaveD
import Derived.Test.YtmdninfmidmmhaaSortC
namespace Go.Proofs.Ytmdninfmidmmhaa
set_option linter.unusedVariables false
set_option maxRecDepth 100000
open Go.RowKit Go.ChangeShapes Go.WideShapes

/-- The first error of k samples. -/
noncomputable def errTo (L : Nat → Smp) : Nat → Int
  | 0 => 0
  | k + 1 => if errTo L k ≠ 0 then errTo L k else (L k).check
theorem errTo_next {L : Nat → Smp} {k : Nat} (h : errTo L k = 0) : errTo L (k + 1) = (L k).check := by show (if errTo L k ≠ 0 then errTo L k else (L k).check) = _; rw [if_neg (by omega)]
theorem errTo_stays {L : Nat → Smp} {k n : Nat} (h : errTo L k ≠ 0) (hn : k ≤ n) : errTo L n = errTo L k := by
  induction hn with
  | refl => rfl
  | @step m hm ih => show (if errTo L m ≠ 0 then errTo L m else (L m).check) = _; rw [if_pos (by rw [ih]; exact h), ih]
/-- Two of k samples have one name. -/
def twiceP (L : Nat → Smp) (n : Nat) : Prop := ∃ i k, k < i ∧ i < n ∧ nmS L i = nmS L k
open Classical in
/-- Why samples may not be packed together. -/
noncomputable def allI (L : Nat → Smp) (n : Nat) : Int := if 64 < n then 6 else if errTo L n ≠ 0 then errTo L n else if twiceP L n then 11 else 0
theorem allI_full {L : Nat → Smp} {n : Nat} (h : 64 < n) : allI L n = 6 := by unfold allI; rw [if_pos h]
theorem allI_err {L : Nat → Smp} {n : Nat} (h : ¬ 64 < n) (h2 : errTo L n ≠ 0) : allI L n = errTo L n := by unfold allI; rw [if_neg h, if_pos h2]
theorem allI_twice {L : Nat → Smp} {n : Nat} (h : ¬ 64 < n) (h2 : errTo L n = 0) (h3 : twiceP L n) : allI L n = 11 := by unfold allI; rw [if_neg h, if_neg (by omega), if_pos h3]
theorem allI_ok {L : Nat → Smp} {n : Nat} (h : ¬ 64 < n) (h2 : errTo L n = 0) (h3 : ¬ twiceP L n) : allI L n = 0 := by unfold allI; rw [if_neg h, if_neg (by omega), if_neg h3]
/-- The name at a place of the order. -/
def onm (L : Nat → Smp) (G : Nat → Int) (i : Nat) : ByteArray := nmS L (G i).toNat
theorem srt_bd {R : Int → Int → Prop} {n : Nat} {G : Nat → Int} (h : SrtO R (fun j => (j : Int)) n G) (i : Nat) (hi : i < n) : ∃ m : Nat, m < n ∧ G i = (m : Int) := h.frm i hi
/-- Neighbours of one name tell two samples of one name. -/
theorem twice_of {L : Nat → Smp} {n : Nat} {G : Nat → Int} (h : SrtO (nameR (nmS L)) (fun j => (j : Int)) n G) (i : Nat) (h0 : 0 < i) (hi : i < n) (he : onm L G (i - 1) = onm L G i) : twiceP L n := by
  obtain ⟨x, hx, ex⟩ := srt_bd h (i - 1) (by omega)
  obtain ⟨y, hy, ey⟩ := srt_bd h i hi
  have hr := h.ord (i - 1) i (by omega) hi
  unfold onm at he
  rw [ex, ey] at hr he
  rw [Int.toNat_natCast, Int.toNat_natCast] at he
  unfold nameR at hr
  rw [Int.toNat_natCast, Int.toNat_natCast, he, ltS_irr] at hr
  rcases hr with hr | ⟨_, hr⟩
  · cases hr
  · exact ⟨y, x, by omega, hy, he.symm⟩
theorem no_twice {L : Nat → Smp} {n : Nat} {G : Nat → Int} (h : SrtO (nameR (nmS L)) (fun j => (j : Int)) n G) (hne : ∀ i, 0 < i → i < n → onm L G (i - 1) ≠ onm L G i) : ¬ twiceP L n := by
  have step : ∀ i, 0 < i → i < n → ltS (onm L G (i - 1)) (onm L G i) = true := fun i h0 hi => by
    have hr := h.ord (i - 1) i (by omega) hi
    rcases hr with hr | ⟨hr, _⟩
    · exact hr
    · cases hc : ltS (onm L G (i - 1)) (onm L G i)
      · exact absurd (ltS_tri hc hr) (hne i h0 hi)
      · rfl
  have up : ∀ d i, i + d + 1 < n → ltS (onm L G i) (onm L G (i + d + 1)) = true := by
    intro d
    induction d with
    | zero => intro i hi; exact step (i + 1) (by omega) (by omega)
    | succ d ih => intro i hi; exact ltS_tr (ih i (by omega)) (step (i + (d + 1) + 1) (by omega) hi)
  rintro ⟨i, k, hki, hin, he⟩
  obtain ⟨a, ha, ea⟩ := h.all i hin
  obtain ⟨b, hb, eb⟩ := h.all k (by omega)
  have hab : onm L G a = onm L G b := by unfold onm; rw [ea, eb, Int.toNat_natCast, Int.toNat_natCast]; exact he
  have hne2 : a ≠ b := fun e => by rw [e, eb] at ea; omega
  rcases Nat.lt_or_gt_of_ne hne2 with c | c
  · have := up (b - a - 1) a (by omega)
    rw [show a + (b - a - 1) + 1 = b by omega, hab, ltS_irr] at this
    cases this
  · have := up (a - b - 1) b (by omega)
    rw [show b + (a - b - 1) + 1 = a by omega, hab, ltS_irr] at this
    cases this
theorem eqS_neq {a b : ByteArray} (h : a ≠ b) : (a.toList == b.toList) = false := by rw [eqS]; exact decide_eq_false h
theorem eqS_eq (a : ByteArray) : (a.toList == a.toList) = true := by rw [eqS]; exact decide_eq_true rfl
set_option maxHeartbeats 8000000 in
theorem CheckAll_any (p : Option Addr) (n cp : Nat) (L : Nat → Smp) (w : World) (hs : SmsS w p n L) (hn : n ≤ 1048576) :
    Calls Try.prog 17 #[.slice p n cp] w fun e w' => e = .returned (.int .i64 (allI L n)) ∧ Old w w' := by
  have HS := Lib.hid hs
  have HO := Lib.hid (Old.refl w)
  by_cases h64 : 64 < n
  · have HA := Lib.hid (allI_full (L := L) h64)
    have dd : decide (64 < (n : Int)) = true := decide_eq_true (by omega)
    clear hs
    go_enter Try.func17, Try.ntmps17
    go_wp2_with fail
    go_ret
    exact ⟨ret_int HA.out.symm, HO.out⟩
  have dd : decide (64 < (n : Int)) = false := decide_eq_false (by omega)
  clear hs
  go_enter Try.func17, Try.ntmps17
  go_wp2_with fail
  clear dd
  go_loopw [13] (fun iv wr => ∃ k : Nat, k ≤ n ∧ iv = .int .i64 k ∧ Hid (errTo L k = 0) ∧ Hid (Old w wr)) (fun i _ => n - (intOf i).toNat)
  case atStart => exact ⟨0, Nat.zero_le _, by go_num, Lib.hid rfl, HO⟩
  case round =>
    clear HO
    obtain ⟨k, hk, rfl, HE, HO⟩ := hrel
    by_cases hkn : k < n
    · have hS := HS.out.old HO.out
      obtain ⟨g, o, rfl, hg, hcs⟩ := hS.cell (by omega)
      have c0 : wr.cell? ⟨g, o + k * 6, none⟩ = some (.string (L k).s) := hcs k hkn 0 _ rfl
      have c1 : wr.cell? ⟨g, o + k * 6 + 1, none⟩ = some (.int .i64 (L k).r) := hcs k hkn 1 _ rfl
      have c2 : wr.cell? ⟨g, o + k * 6 + 2, none⟩ = some (.bool (L k).lp) := hcs k hkn 2 _ rfl
      have c3 : wr.cell? ⟨g, o + k * 6 + 3, none⟩ = some (.int .i64 (L k).a) := hcs k hkn 3 _ rfl
      have c4 : wr.cell? ⟨g, o + k * 6 + 4, none⟩ = some (.int .i64 (L k).b) := hcs k hkn 4 _ rfl
      have c5 : wr.cell? ⟨g, o + k * 6 + 5, none⟩ = some (.slice (L k).p (L k).n (L k).c) := hcs k hkn 5 _ rfl
      have HCK := Lib.hid (Check_any (L k) (wr.alloc (.cells (L k).cells 24)) ((hS.ok k hkn).old (Old.alloc _ _)))
      have HOa := Lib.hid (HO.out.alloc' (.cells (L k).cells 24))
      have q0 : (0 : Int) ≤ k := by omega
      have q1 : (k : Int) < n := by omega
      clear hS hcs hg HO
      unfold Smp.val Smp.cells at HCK
      unfold Smp.cells at HOa
      go_wp2_with fail
      refine HCK.out.mono ?_
      rintro e w2 ⟨rfl, ho2⟩
      have HO2 := Lib.hid (HOa.out.trans ho2)
      clear ho2 HCK HOa c0 c1 c2 c3 c4 c5
      by_cases hc : (L k).check = 0
      · have HE2 := Lib.hid ((errTo_next HE.out).trans hc)
        have d : ((L k).check != 0) = false := by simpa using hc
        clear hc HE
        go_wp2_with fail
        go_roundw
        case rel => exact ⟨k + 1, by omega, by go_num, HE2, HO2⟩
        case measure => simp [intOf]; omega
      · have he := errTo_next HE.out
        have hst := errTo_stays (L := L) (k := k + 1) (n := n) (by rw [he]; exact hc) (by omega)
        have HA := Lib.hid ((allI_err h64 (by rw [hst, he]; exact hc)).trans (hst.trans he))
        have d : ((L k).check != 0) = true := by simpa using hc
        clear hc he hst HE
        go_wp2_with fail
        go_ret
        exact ⟨ret_int HA.out.symm, HO2.out⟩
    · obtain rfl : k = n := by omega
      have hend : ¬ ((k : Int) < (k : Int)) := by omega
      have HB := Lib.hid (byName_any p k cp L wr (HS.out.old HO.out) hn)
      go_wp2_with fail
      refine HB.out.mono ?_
      rintro e w2 ⟨go, G, rfl, hsr, hc, hge, ho2⟩
      have HSR := Lib.hid hsr
      have HC := Lib.hid hc
      have HO2 := Lib.hid (HO.out.trans ho2)
      clear hsr hc hge ho2 HB HO hend
      obtain ⟨wo, rfl⟩ : ∃ V, V = w2 := ⟨_, rfl⟩
      go_wp2_with fail
      go_loopw [7] (fun iv wr => ∃ i : Nat, 0 < i ∧ (i ≤ k ∨ i = 1) ∧ iv = .int .i64 i ∧ Hid (∀ j, 0 < j → j < i → onm L G (j - 1) ≠ onm L G j) ∧ Hid (∃ d, wr = wo.drewN d)) (fun i _ => k + 1 - (intOf i).toNat)
      case atStart => exact ⟨1, by omega, .inr rfl, by go_num, Lib.hid fun j h1 h2 => by omega, Lib.hid ⟨0, rfl⟩⟩
      case round =>
        obtain ⟨i, h0, hi, rfl, HNE, HD⟩ := hrel
        by_cases hik : i < k
        · clear hi
          obtain ⟨d, rfl⟩ := HD.out
          clear HD
          obtain ⟨m, hm⟩ : ∃ m : Nat, m = i - 1 := ⟨_, rfl⟩
          have hmk : m < k := by omega
          obtain ⟨x, hx, ex⟩ := srt_bd HSR.out m hmk
          obtain ⟨y, hy, ey⟩ := srt_bd HSR.out i hik
          have cx := HC.out.cell m hmk
          have cy := HC.out.cell i hik
          rw [ex] at cx
          rw [ey] at cy
          obtain ⟨g, o, rfl, hg, hcs⟩ := (HS.out.old HO2.out).cell (by omega)
          have nx : wo.cell? ⟨g, o + x * 6, none⟩ = some (.string (L x).s) := hcs x hx 0 _ rfl
          have ny : wo.cell? ⟨g, o + y * 6, none⟩ = some (.string (L y).s) := hcs y hy 0 _ rfl
          have q1 : (i : Int) < k := by omega
          have q2 : (m : Int) < k := by omega
          have q3 : (x : Int) < k := by omega
          have q4 : (y : Int) < k := by omega
          have hox : onm L G (i - 1) = (L x).s := by unfold onm nmS; rw [← hm, ex, Int.toNat_natCast]
          have hoy : onm L G i = (L y).s := by unfold onm nmS; rw [ey, Int.toNat_natCast]
          have HB1 := Lib.hid (show m ≤ 9223372036854775807 by omega)
          have hmi : (i : Int) - 1 = (m : Int) := by omega
          by_cases he : (L x).s = (L y).s
          · have HA := Lib.hid (allI_twice h64 HE.out (twice_of HSR.out i h0 hik (by rw [hox, hoy]; exact he)))
            rw [he] at nx
            have de := eqS_eq (L y).s
            clear hcs hg hox hoy he ex ey hm HNE
            obtain ⟨e1, e2⟩ := wrapN (x := (i : Int) - 1) (p := m) hmi HB1.out
            clear hmi
            generalize (L y).s = s at *
            go_wp2_with fail
            go_quiet (fail)
            clear e1 e2
            go_wp2_with fail
            go_ret
            exact ⟨ret_int HA.out.symm, (HO2.out.drewN _).drewN _⟩
          · have HNE2 := Lib.hid (show ∀ j, 0 < j → j < i + 1 → onm L G (j - 1) ≠ onm L G j from fun j h1 h2 => by
              by_cases e : j = i
              · subst e; rw [hox, hoy]; exact he
              · exact HNE.out j h1 (by omega))
            have de := eqS_neq he
            clear hcs hg hox hoy he ex ey hm HNE
            obtain ⟨e1, e2⟩ := wrapN (x := (i : Int) - 1) (p := m) hmi HB1.out
            clear hmi
            generalize (L x).s = s at *
            generalize (L y).s = t at *
            go_wp2_with fail
            go_quiet (fail)
            clear e1 e2
            go_wp2_with fail
            go_roundw
            case rel => exact ⟨i + 1, by omega, .inl (by omega), by go_num, HNE2, Lib.hid ⟨_, rfl⟩⟩
            case measure => simp [intOf]; omega
        · have hend : ¬ ((i : Int) < (k : Int)) := by omega
          have HA := Lib.hid (allI_ok h64 HE.out (no_twice HSR.out fun j h1 h2 => HNE.out j h1 (by omega)))
          obtain ⟨d, rfl⟩ := HD.out
          clear HNE HD
          go_wp2_with fail
          go_ret
          exact ⟨ret_int HA.out.symm, HO2.out.drewN _⟩
end Go.Proofs.Ytmdninfmidmmhaa
