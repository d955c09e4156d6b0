/- Texts joined: BankPar. -/
import Derived.Deep.DeepCutAuto
import Derived.Deep.CutBlock
import Derived.Test.YtomhaabnfaagnaaGreatDoorPkAQ
import Derived.Test.YtomhaabnfaagnaaGreatDoorPkBA
import Derived.Test.YtomhaabnfaagnaaGreatDoorPkBD
import Derived.Test.YtomhaabnfaagnaaGreatDoorTk
/- BankParses' walk. (by wip/tools/exp.py of XBankPar.src, by bankpar.py) -/
namespace Go.Proofs.YtomhaabnfaagnaaGreatDoor
set_option linter.unusedVariables false
set_option linter.unusedSimpArgs false
set_option maxRecDepth 100000
open Go.RowKit Go.ChangeShapes Go.WideShapes
structure PrV (F : Nat → Int) (N : Nat) (o : Option Addr) (ev : Int) (W : World) : Prop where
  pre : preI F N ≠ 0 → o = none ∧ ev = preI F N
  ok : preI F N = 0 → (o = none ∧ (ev = 4 ∨ ev = 12)) ∨ (ev = 0 ∧ ∃ bb q c im ci D, o = some ⟨bb, 0, none⟩ ∧ BkB W bb (hdZ F) (hdN F) N q c im ci D F ∧ BkD F N D)
theorem PrV.of {w W : World} {F : Nat → Int} {N : Nat} {e : Ending} (h : PrsR w F N e W) : ∃ o ev, e = .returned (.tuple #[.pointer o, .int .i64 ev]) ∧ PrV F N o ev W ∧ Old w W := by
  rcases h with ⟨h0, rfl, ho⟩ | ⟨h0, ⟨er, her, rfl, _, ho⟩ | ⟨bb, q, c, im, ci, D, rfl, hbk, hbd, ho⟩⟩
  · exact ⟨none, _, rfl, ⟨fun _ => ⟨rfl, rfl⟩, fun h => absurd h h0⟩, ho⟩
  · exact ⟨none, er, rfl, ⟨fun h => absurd h0 h, fun _ => .inl ⟨rfl, her⟩⟩, ho⟩
  · exact ⟨_, 0, rfl, ⟨fun h => absurd h0 h, fun _ => .inr ⟨rfl, bb, q, c, im, ci, D, rfl, hbk, hbd⟩⟩, ho⟩
theorem hd5_two {F : Nat → Int} {N : Nat} (hb : Byt F N) (h : 16 ≤ N) : (hd5 F ≠ 0) ↔ (numTo (fun j => F (11 + j)) 4 ≠ 0 ∨ F 15 ≠ 0) := by
  have e : hd5 F = numTo (fun j => F (11 + j)) 4 * 256 + F 15 := rfl
  have h1 := (numTo_bd (F := fun j => F (11 + j)) (w := 4) fun j hj => hb _ (by omega)).1
  have h2 := hb 15 (by omega)
  rw [e]
  omega
theorem few_len {D : Nat → Mt} {n sz i : Nat} (h24 : 24 ≤ sz) (hi : i < n) (hok : (D i).OkR) (ht : totalAt (frD D) sz n ≤ 4000) : (D i).n ≤ 4000 := by
  have h1 : atTo (frD D) sz n (i + 1) ≤ atTo (frD D) sz n n := atTo_mono _ _ _ (by omega)
  have h2 := (total_le (frD D) sz n).1
  have h3 := (firstAt_le (frD D) sz n i).1
  rw [atTo_succ] at h1
  have h4 : frD D i * 24 ≤ frD D i * sz := Nat.mul_le_mul_left _ h24
  have h5 : frD D i = cnt (D i).n.toNat * (D i).c.toNat := rfl
  have h6 : (D i).c.toNat = 1 ∨ (D i).c.toNat = 2 := by have := hok.c1; have := hok.c2; omega
  have h7 : cnt (D i).n.toNat = ((D i).n.toNat + 15) / 16 := rfl
  have h8 := hok.n1
  rcases h6 with e | e <;> rw [e] at h5 <;> omega
def B0 (w : World) (v : Value) (wx : World) : Prop := w = wx ∧ ∃ p m cap F, v = .slice p m cap ∧ SlU w p m F ∧ Byt F m ∧ m ≤ 4000 ∧ m ≤ cap ∧ cap ≤ maxLen
set_option maxHeartbeats 8000000 in
theorem parses_any (xs : List Int) (p : Option Addr) (n cap : Nat) (w : World) (hv : SlI w .u8 (.slice p n cap) xs) (hbt : ∀ x ∈ xs, 0 ≤ x ∧ x ≤ 255) (hcap : n ≤ cap) (hm : cap ≤ maxLen) :
    Calls Tryz.prog 6 #[.slice p n cap] w fun e w' => e = .returned (.bool true) ∧ Old w w' := by
  obtain ⟨hU, hl⟩ := hv.slU
  have HU := Lib.hid hU
  have HCm := Lib.hid hm
  have HBy : Hid (Byt (fun j => xs.getD j 0) n) := Lib.hid fun j hj => hbt _ (by
    show xs.getD j 0 ∈ xs
    rw [List.getD_eq_getElem?_getD, List.getElem?_eq_getElem (by omega)]; exact List.getElem_mem _)
  generalize (fun j => xs.getD j 0) = F0 at HU HBy
  clear hv hbt hU hl
  go_enter Tryz.func6, Tryz.ntmps6
  unfold maxLen at hm
  go_upto_if 14 with (fail)
  go_cut [0] (fun v0 wx => B0 w v0 wx)
  case first => as_aux_lemma =>
    by_cases hlen : n ≤ 4000
    · have hl31 : ¬ (4000 : Int) < (n : Int) := by omega
      go_wp2_with fail
      go_meet
      exact ⟨rfl, p, n, cap, F0, rfl, HU.out, HBy.out, hlen, hcap, HCm.out⟩
    · obtain ⟨b, off, rfl, hb, hc⟩ := HU.out (by omega)
      have hv' : Hid (SlU w (some ⟨b, off, none⟩) 4000 F0) := Lib.hid fun _ => ⟨b, off, rfl, hb, fun j hj => hc j (by omega)⟩
      clear hb hc
      go_wp2_with fail
      go_meet
      exact ⟨rfl, _, 4000, cap, F0, rfl, hv'.out, fun j hj => HBy.out j (by omega), Nat.le_refl _, by omega, HCm.out⟩
  case rest => as_aux_lemma =>
    obtain ⟨rfl, p, N, cap, F, rfl, hv, hbt, hN4, hNc, hcm⟩ := hcut
    have HV := Lib.hid hv
    have HB := Lib.hid hbt
    have HCm := Lib.hid hcm
    have hcm' : cap ≤ 9223372036854775807 := by unfold maxLen at hcm; omega
    clear hv hbt HU HBy hcap hm hcm
    go_wp2_with fail
    refine (Parse_any p N cap F w HV.out HB.out hNc HCm.out (by omega)).mono ?_
    intro e w1 hprs
    obtain ⟨o, ev, rfl, hpv, ho⟩ := PrV.of hprs
    have HP := Lib.hid hpv
    have HO := Lib.hid ho
    clear hpv ho hprs
    by_cases h20 : N < 20
    · have hpre : preI F N = 2 := by unfold preI hdI; rw [if_pos h20, if_pos (by omega)]
      obtain ⟨rfl, hev⟩ := HP.out.pre (by rw [hpre]; omega)
      rw [hpre] at hev
      subst hev
      have i0 : (N : Int) < 20 := by omega
      clear hpre HP
      go_wp2_with fail
      refine (awake_any _).mono ?_
      rintro e w3 ⟨rfl, ho⟩
      have H3 := Lib.hid (HO.out.trans ho)
      clear ho
      go_wp2_with fail
      go_ret
      exact ⟨rfl, H3.out⟩
    · have HVo := Lib.hid (HV.out.old HO.out)
      obtain ⟨g, og, hpe, hg, hcs⟩ := HVo.out (by omega)
      subst hpe
      have HCs := Lib.hid hcs
      have sub : ∀ a n, a + n ≤ N → SlU w1 (some ⟨g, og + a, none⟩) n (fun j => F (a + j)) := fun a n ha _ => ⟨g, og + a, rfl, hg, fun j hj => by rw [Nat.add_assoc]; exact hcs (a + j) (by omega)⟩
      have HSub := Lib.hid sub
      have HG2 := Lib.hid (lawRead_any (some ⟨g, og + 8, none⟩) 2 (cap - 8) (fun j => F (8 + j)) w1 (by omega) (sub 8 2 (by omega)) (fun j hj => HB.out _ (by omega)))
      have HG4 := Lib.hid (lawRead_any (some ⟨g, og + 11, none⟩) 4 (cap - 11) (fun j => F (11 + j)) w1 (by omega) (sub 11 4 (by omega)) (fun j hj => HB.out _ (by omega)))
      have HGl := Lib.hid (lawRead_any (some ⟨g, og + 4, none⟩) 4 (cap - 4) (fun j => F (4 + j)) w1 (by omega) (sub 4 4 (by omega)) (fun j hj => HB.out _ (by omega)))
      have hl2 : ∀ V, (Instr.sliceAt 24 (.slice (some ⟨g, og, none⟩) N cap) (some (.int .i64 8)) (some (.int .i64 10)) none).run Tryz.prog V = .ok (.slice (some ⟨g, og + 8, none⟩) 2 (cap - 8)) V := fun V => cut_lh g og N cap 8 10 (by omega) (by omega) V
      have hl4 : ∀ V, (Instr.sliceAt 24 (.slice (some ⟨g, og, none⟩) N cap) (some (.int .i64 4)) (some (.int .i64 8)) none).run Tryz.prog V = .ok (.slice (some ⟨g, og + 4, none⟩) 4 (cap - 4)) V := fun V => cut_lh g og N cap 4 8 (by omega) (by omega) V
      have hl5 : ∀ V, (Instr.sliceAt 24 (.slice (some ⟨g, og, none⟩) N cap) (some (.int .i64 11)) (some (.int .i64 15)) none).run Tryz.prog V = .ok (.slice (some ⟨g, og + 11, none⟩) 4 (cap - 11)) V := fun V => cut_lh g og N cap 11 15 (by omega) (by omega) V
      have hh4 : ∀ V, (Instr.sliceAt 24 (.slice (some ⟨g, og, none⟩) N cap) none (some (.int .i64 4)) none).run Tryz.prog V = .ok (.slice (some ⟨g, og, none⟩) 4 cap) V := fun V => cut_hi g og N cap 4 (by omega) (by omega) V
      have c10 := hcs 10 (by omega)
      have c15 := hcs 15 (by omega)
      have hcv := conv_at (w := w1) (F := F) (N := 4) (cap := cap) (fun j hj => hcs j (by omega)) (by omega) (by omega) HCm.out
      have hsx := strOf_ext calS F 4 (fun j hj => HB.out j (by omega))
      have hmk : strOfNums (lst F 4) = calS ↔ markP F := by
        rw [hsx]
        constructor
        · rintro ⟨_, h⟩ j hj
          rw [← h j hj, calS_at j hj]
        · intro h
          exact ⟨rfl, fun j hj => by rw [h j hj, calS_at j hj]⟩
      obtain ⟨s, hss⟩ : ∃ s, s = strOfNums (lst F 4) := ⟨_, rfl⟩
      rw [← hss] at hcv hmk
      have b10 := HB.out 10 (by omega)
      have b15 := HB.out 15 (by omega)
      have e1 : hd1 F = F 10 := by show 0 * 256 + F 10 = F 10; omega
      have e2 : hd2 F = numTo (fun j => F (8 + j)) 2 := rfl
      have e4 : hd4 F = numTo (fun j => F (4 + j)) 4 := rfl
      rw [← e2] at HG2
      rw [← e4] at HGl
      have b2 := numTo_bd (F := fun j => F (8 + j)) (w := 2) fun j hj => HB.out _ (by omega)
      rw [← e2] at b2
      have b2' : hd2 F ≤ 65535 := by
        have h := b2.2
        rw [show (256 : Int) ^ 2 = 65536 from by decide] at h
        omega
      have b2'' := b2.1
      have i0 : ¬ (N : Int) < 20 := by omega
      have ic : (20 : Int) ≤ cap := by omega
      have iN : (20 : Int) ≤ N := by omega
      have HE1 := Lib.hid e1
      have HMk := Lib.hid hmk
      have H5 := Lib.hid (hd5_two HB.out (by omega))
      obtain ⟨z, hz⟩ : ∃ z, z = F 10 := ⟨_, rfl⟩
      obtain ⟨f15, hf15⟩ : ∃ z, z = F 15 := ⟨_, rfl⟩
      obtain ⟨x4, hx4⟩ : ∃ z, z = numTo (fun j => F (11 + j)) 4 := ⟨_, rfl⟩
      rw [← hz] at c10 b10
      rw [← hf15] at c15 b15
      rw [← hx4] at HG4
      have HZ := Lib.hid (And.intro hz (And.intro hf15 hx4))
      clear hsx hmk e1 e2 e4 b2 hz hf15 hx4 hcs sub hg hss
      go_wp2_with fail
      refine HG2.out.mono ?_
      rintro e w' ⟨rfl, hv'⟩
      subst hv'
      clear HG2
      go_upto_region 8 with (fail)
      go_cut [56] (fun v wx => v = .bool (decide (¬ markP F ∨ hd5 F ≠ 0)) ∧ w1 = wx)
      case first => as_aux_lemma =>
        by_cases hmp : markP F
        · have hsc := HMk.out.2 hmp
          subst hsc
          unfold calS at hcv
          by_cases h4 : x4 = 0
          · by_cases h15 : f15 = 0
            · have hdv : decide (¬ markP F ∨ hd5 F ≠ 0) = false := decide_eq_false fun h => h.elim (fun h => h hmp) fun h => (H5.out.1 h).elim (fun h => h (HZ.out.2.2 ▸ h4)) fun h => h (HZ.out.2.1 ▸ h15)
              clear H5 HZ HMk hmp
              subst h4 h15
              go_wp2_with fail
              refine HG4.out.mono ?_
              rintro e w' ⟨rfl, hv'⟩
              subst hv'
              go_wp2_with fail
              go_meet
              exact ⟨by rw [hdv], rfl⟩
            · have hdv : decide (¬ markP F ∨ hd5 F ≠ 0) = true := decide_eq_true (.inr (H5.out.2 (.inr (HZ.out.2.1 ▸ h15))))
              have d15 : (f15 != 0) = true := by simpa using h15
              clear H5 HZ HMk hmp h15
              subst h4
              go_wp2_with fail
              refine HG4.out.mono ?_
              rintro e w' ⟨rfl, hv'⟩
              subst hv'
              go_wp2_with fail
              go_meet
              exact ⟨by rw [hdv], rfl⟩
          · have hdv : decide (¬ markP F ∨ hd5 F ≠ 0) = true := decide_eq_true (.inr (H5.out.2 (.inl (HZ.out.2.2 ▸ h4))))
            have d4 : (x4 != 0) = true := by simpa using h4
            clear H5 HZ HMk hmp h4
            go_wp2_with fail
            refine HG4.out.mono ?_
            rintro e w' ⟨rfl, hv'⟩
            subst hv'
            go_wp2_with fail
            go_meet
            exact ⟨by rw [hdv], rfl⟩
        · have hdv : decide (¬ markP F ∨ hd5 F ≠ 0) = true := decide_eq_true (.inl hmp)
          have hne : s ≠ calS := fun e => hmp (HMk.out.1 e)
          have hq := str_neq s calS hne
          rw [calS_list] at hq
          have hq2 : ¬ s.toList = [67, 65, 76, 49] := by simpa using hq
          have hq3 : s ≠ ⟨#[67, 65, 76, 49]⟩ := hne
          have hq4 := str_neq s calS hne
          unfold calS at hq4
          clear H5 HZ HMk hmp hne
          go_wp2_with fail
          go_meet
          exact ⟨by rw [hdv], rfl⟩
      case rest => as_aux_lemma =>
        obtain ⟨rfl, rfl⟩ := hcut
        have HHd : Hid (hdI F N = if ¬ markP F ∨ hd5 F ≠ 0 then 4 else if ¬ (24 ≤ z ∧ z ≤ 96) ∨ 64 < hd2 F ∨ hd4 F ≠ N then 12 else 0) := Lib.hid (by unfold hdI; rw [if_neg h20, HE1.out, HZ.out.1])
        by_cases hfm : ¬ markP F ∨ hd5 F ≠ 0
        · have hpre : preI F N = 4 := by unfold preI; rw [HHd.out, if_pos hfm]; rfl
          obtain ⟨rfl, hev⟩ := HP.out.pre (by rw [hpre]; omega)
          rw [hpre] at hev
          subst hev
          rw [show decide (¬ markP F ∨ hd5 F ≠ 0) = true from decide_eq_true hfm]
          clear hpre HP HHd HMk H5 HZ HE1
          go_wp2_with fail
          refine (awake_any _).mono ?_
          rintro e w3 ⟨rfl, ho⟩
          have H3 := Lib.hid (HO.out.trans ho)
          clear ho
          go_wp2_with fail
          go_ret
          exact ⟨rfl, H3.out⟩
        · rw [show decide (¬ markP F ∨ hd5 F ≠ 0) = false from decide_eq_false hfm]
          rw [if_neg hfm] at HHd
          clear hfm HMk H5 hcv
          go_upto_region 10 with (fail)
          go_cut [83] (fun v wx => v = .bool (decide (¬ (24 ≤ z ∧ z ≤ 96) ∨ 64 < hd2 F ∨ hd4 F ≠ N)) ∧ w1 = wx)
          case first => as_aux_lemma =>
            by_cases a1 : z < 24
            · have hdv : decide (¬ (24 ≤ z ∧ z ≤ 96) ∨ 64 < hd2 F ∨ hd4 F ≠ N) = true := decide_eq_true (.inl (by omega))
              clear HHd HZ HE1
              go_wp2_with fail
              go_meet
              exact ⟨by rw [hdv], rfl⟩
            · by_cases a2 : 96 < z
              · have hdv : decide (¬ (24 ≤ z ∧ z ≤ 96) ∨ 64 < hd2 F ∨ hd4 F ≠ N) = true := decide_eq_true (.inl (by omega))
                clear HHd HZ HE1
                go_wp2_with fail
                go_meet
                exact ⟨by rw [hdv], rfl⟩
              · by_cases a3 : 64 < hd2 F
                · have hdv : decide (¬ (24 ≤ z ∧ z ≤ 96) ∨ 64 < hd2 F ∨ hd4 F ≠ N) = true := decide_eq_true (.inr (.inl a3))
                  clear HHd HZ HE1
                  go_wp2_with fail
                  go_meet
                  exact ⟨by rw [hdv], rfl⟩
                · by_cases a4 : hd4 F = N
                  · have hdv : decide (¬ (24 ≤ z ∧ z ≤ 96) ∨ 64 < hd2 F ∨ hd4 F ≠ N) = false := decide_eq_false (by omega)
                    have d4 : (hd4 F != (N : Int)) = false := by simp [a4]
                    clear HHd HZ HE1 a4
                    go_wp2_with fail
                    refine HGl.out.mono ?_
                    rintro e w' ⟨rfl, hv'⟩
                    subst hv'
                    go_wp2_with fail
                    go_meet
                    exact ⟨by rw [hdv], rfl⟩
                  · have hdv : decide (¬ (24 ≤ z ∧ z ≤ 96) ∨ 64 < hd2 F ∨ hd4 F ≠ N) = true := decide_eq_true (.inr (.inr a4))
                    have d4 : (hd4 F != (N : Int)) = true := by simpa using a4
                    clear HHd HZ HE1 a4
                    go_wp2_with fail
                    refine HGl.out.mono ?_
                    rintro e w' ⟨rfl, hv'⟩
                    subst hv'
                    go_wp2_with fail
                    go_meet
                    exact ⟨by rw [hdv], rfl⟩
          case rest => as_aux_lemma =>
            obtain ⟨rfl, rfl⟩ := hcut
            by_cases hsz : ¬ (24 ≤ z ∧ z ≤ 96) ∨ 64 < hd2 F ∨ hd4 F ≠ N
            · have hpre : preI F N = 12 := by unfold preI; rw [HHd.out, if_pos hsz]; rfl
              obtain ⟨rfl, hev⟩ := HP.out.pre (by rw [hpre]; omega)
              rw [hpre] at hev
              subst hev
              rw [show decide (¬ (24 ≤ z ∧ z ≤ 96) ∨ 64 < hd2 F ∨ hd4 F ≠ N) = true from decide_eq_true hsz]
              clear hpre HP HHd HZ HE1
              go_wp2_with fail
              refine (awake_any _).mono ?_
              rintro e w3 ⟨rfl, ho⟩
              have H3 := Lib.hid (HO.out.trans ho)
              clear ho
              go_wp2_with fail
              go_ret
              exact ⟨rfl, H3.out⟩
            · rw [show decide (¬ (24 ≤ z ∧ z ≤ 96) ∨ 64 < hd2 F ∨ hd4 F ≠ N) = false from decide_eq_false hsz]
              rw [if_neg hsz] at HHd
              have hz : 24 ≤ z ∧ z ≤ 96 ∧ hd2 F ≤ 64 ∧ hd4 F = N := by omega
              obtain ⟨hz1, hz2, hn64, hN4'⟩ := hz
              obtain ⟨n, hn⟩ : ∃ n : Nat, n = hdN F := ⟨_, rfl⟩
              have e2 : hd2 F = (n : Int) := by
                rw [hn]
                unfold hdN
                omega
              have HPre : Hid (preI F N = if N < 20 + 64 * n then 2 else if hdS F ≠ sumF F (16 + 64 * n) then 9 else 0) := Lib.hid (by unfold preI; rw [HHd.out, if_neg (by omega), hn])
              rw [e2] at hn64 ⊢
              have HN := Lib.hid hn
              have HSz := Lib.hid (And.intro hsz hN4')
              clear hsz hn HHd b2' b2'' e2 HGl hN4'
              by_cases hsh : N < 20 + 64 * n
              · have hpre : preI F N = 2 := by rw [HPre.out, if_pos hsh]
                obtain ⟨rfl, hev⟩ := HP.out.pre (by rw [hpre]; omega)
                rw [hpre] at hev
                subst hev
                have i2 : (N : Int) < 20 + 64 * (n : Int) := by omega
                clear hpre HP HPre HZ HE1 hsh HSz HN
                go_wp2_with fail
                refine (awake_any _).mono ?_
                rintro e w3 ⟨rfl, ho⟩
                have H3 := Lib.hid (HO.out.trans ho)
                clear ho
                go_wp2_with fail
                go_ret
                exact ⟨rfl, H3.out⟩
              · have i2 : ¬ (N : Int) < 20 + 64 * (n : Int) := by omega
                obtain ⟨E, hE⟩ : ∃ E, E = 16 + 64 * n := ⟨_, rfl⟩
                have HSum : Hid (preI F N = if numTo (fun j => F (E + j)) 4 ≠ sumF F E then 9 else 0) := Lib.hid (by
                  rw [HPre.out, if_neg hsh, hE, HN.out]
                  rfl)
                have hEN : E + 4 ≤ N := by omega
                have HGS := Lib.hid (fun V (hV : Old w1 V) => lawRead_any (some ⟨g, og + E, none⟩) 4 (cap - E) (fun j => F (E + j)) V (by omega) ((HSub.out E 4 (by omega)).old hV) (fun j hj => HB.out _ (by omega)))
                have HSm := Lib.hid (fun V (hV : Old w1 V) => CSum_any (some ⟨g, og, none⟩) E cap F V (by
                  have := (HSub.out 0 E (by omega)).old hV
                  rw [Nat.add_zero] at this
                  exact this.ext fun j _ => by rw [Nat.zero_add]) (fun j hj => HB.out j (by omega)) (by omega) HCm.out)
                have hxb := numTo_bd (F := fun j => F (E + j)) (w := 4) (fun j hj => HB.out _ (by omega))
                have hyb := sumF_bd (F := F) (n := E) (fun j hj => HB.out j (by omega))
                obtain ⟨x, hx⟩ : ∃ x, x = numTo (fun j => F (E + j)) 4 := ⟨_, rfl⟩
                obtain ⟨y, hy⟩ : ∃ y, y = sumF F E := ⟨_, rfl⟩
                rw [← hx] at HGS hxb HSum
                rw [← hy] at HSm HSum hyb
                have hxb2 : x < 4294967296 := hxb.2
                have hx0 : 0 ≤ x := hxb.1
                have c2 := fun w' => cut_hi g og N cap E (by omega) (by omega) w'
                have c1 : ∀ w', (Instr.sliceAt 24 (.slice (some ⟨g, og, none⟩) N cap) (some (.int .i64 (16 + 64 * (n : Int)))) (some (.int .i64 (20 + 64 * (n : Int)))) none).run Tryz.prog w' = .ok (.slice (some ⟨g, og + E, none⟩) 4 (cap - E)) w' := fun w' => by
                  have := cut_lh g og N cap E (E + 4) (by omega) (by omega) w'
                  rwa [show E + 4 - E = 4 by omega, show ((E : Nat) : Int) = 16 + 64 * (n : Int) by omega, show ((E + 4 : Nat) : Int) = 20 + 64 * (n : Int) by omega] at this
                rw [show ((E : Nat) : Int) = 16 + 64 * (n : Int) by omega] at c2
                have k1 : 16 + 64 * (n : Int) ≤ cap := by omega
                have k2 : 20 + 64 * (n : Int) ≤ cap := by omega
                have HEE := Lib.hid hE
                obtain ⟨q, hq⟩ : ∃ q, q = (y != x) := ⟨_, rfl⟩
                have hq2 : (y != x) = q := hq.symm
                have HQ : Hid (preI F N = if q then 9 else 0) := Lib.hid (by
                  rw [HSum.out, hq]
                  by_cases e : x = y
                  · rw [if_neg (fun h => h e)]; simp [e]
                  · rw [if_pos e]; simp; exact fun h => e h.symm)
                clear hx hy hxb hq HSum HPre hEN hE hsh
                go_upto_region 14 with (fail)
                go_cut [124] (fun v wx => v = .bool q ∧ Old w1 wx)
                case first => as_aux_lemma =>
                  have hw1 : IntKind.i64.wrap ((64 : Int) * (n : Int)) = 64 * (n : Int) := IntWalk.i64_in _ (by omega)
                  have hw2 : IntKind.i64.wrap ((16 : Int) + 64 * (n : Int)) = 16 + 64 * (n : Int) := IntWalk.i64_in _ (by omega)
                  have hw3 : IntKind.i64.wrap ((20 : Int) + 64 * (n : Int)) = 20 + 64 * (n : Int) := IntWalk.i64_in _ (by omega)
                  have HW := Lib.hid (And.intro hw1 (And.intro hw2 hw3))
                  clear hw1 hw2 hw3
                  refine wp_region_held_drew (S := (fun _ => True)) (by kernel_rfl) ?_ (fun hHeld => ?_)
                  · exact trivial
                  refine wpT 0 (v := ?_) rfl (Or.inl ⟨by kernel_rfl, ?_⟩) (by assumption) ?_; rotate_left; (intro w hSw; (try dsimp only at hSw); go_simp; try with_reducible rfl); try simp only [Act.put, List.setIfInBounds_toArray, List.set_cons_zero, List.set_cons_succ]
                  refine wpT 1 (v := ?_) rfl (Or.inl ⟨by kernel_rfl, ?_⟩) (by assumption) ?_; rotate_left; (intro w hSw; (try dsimp only at hSw); go_simp; try with_reducible rfl); try simp only [Act.put, List.setIfInBounds_toArray, List.set_cons_zero, List.set_cons_succ]
                  refine wpT 2 (v := ?_) rfl (Or.inl ⟨by kernel_rfl, ?_⟩) (by assumption) ?_; rotate_left; (intro w hSw; (try dsimp only at hSw); go_simp; try with_reducible rfl); try simp only [Act.put, List.setIfInBounds_toArray, List.set_cons_zero, List.set_cons_succ]
                  try rw [HW.out.1]
                  refine wpT 3 (v := ?_) rfl (Or.inl ⟨by kernel_rfl, ?_⟩) (by assumption) ?_; rotate_left; (intro w hSw; (try dsimp only at hSw); go_simp; try with_reducible rfl); try simp only [Act.put, List.setIfInBounds_toArray, List.set_cons_zero, List.set_cons_succ]
                  try rw [HW.out.2.1]
                  refine wpT 4 (v := ?_) rfl (Or.inl ⟨by kernel_rfl, ?_⟩) (by assumption) ?_; rotate_left; (intro w hSw; (try dsimp only at hSw); go_simp; try with_reducible rfl); try simp only [Act.put, List.setIfInBounds_toArray, List.set_cons_zero, List.set_cons_succ]
                  refine wpT 7 (v := ?_) rfl (Or.inl ⟨by kernel_rfl, ?_⟩) (by assumption) ?_; rotate_left; (intro w hSw; (try dsimp only at hSw); go_simp; try with_reducible rfl); try simp only [Act.put, List.setIfInBounds_toArray, List.set_cons_zero, List.set_cons_succ]
                  refine wpT 8 (v := ?_) rfl (Or.inl ⟨by kernel_rfl, ?_⟩) (by assumption) ?_; rotate_left; (intro w hSw; (try dsimp only at hSw); go_simp; try with_reducible rfl); try simp only [Act.put, List.setIfInBounds_toArray, List.set_cons_zero, List.set_cons_succ]
                  refine wpT 9 (v := ?_) rfl (Or.inl ⟨by kernel_rfl, ?_⟩) (by assumption) ?_; rotate_left; (intro w hSw; (try dsimp only at hSw); go_simp; try with_reducible rfl); try simp only [Act.put, List.setIfInBounds_toArray, List.set_cons_zero, List.set_cons_succ]
                  try rw [HW.out.1]
                  refine wpT 10 (v := ?_) rfl (Or.inl ⟨by kernel_rfl, ?_⟩) (by assumption) ?_; rotate_left; (intro w hSw; (try dsimp only at hSw); go_simp; try with_reducible rfl); try simp only [Act.put, List.setIfInBounds_toArray, List.set_cons_zero, List.set_cons_succ]
                  try rw [HW.out.2.1]
                  refine wpT 11 (v := ?_) rfl (Or.inl ⟨by kernel_rfl, ?_⟩) (by assumption) ?_; rotate_left; (intro w hSw; (try dsimp only at hSw); go_simp; try with_reducible rfl); try simp only [Act.put, List.setIfInBounds_toArray, List.set_cons_zero, List.set_cons_succ]
                  refine wpT 12 (v := ?_) rfl (Or.inl ⟨by kernel_rfl, ?_⟩) (by assumption) ?_; rotate_left; (intro w hSw; (try dsimp only at hSw); go_simp; try with_reducible rfl); try simp only [Act.put, List.setIfInBounds_toArray, List.set_cons_zero, List.set_cons_succ]
                  try rw [HW.out.1]
                  refine wpT 13 (v := ?_) rfl (Or.inl ⟨by kernel_rfl, ?_⟩) (by assumption) ?_; rotate_left; (intro w hSw; (try dsimp only at hSw); go_simp; try with_reducible rfl); try simp only [Act.put, List.setIfInBounds_toArray, List.set_cons_zero, List.set_cons_succ]
                  try rw [HW.out.2.2]
                  refine wpT 14 (v := ?_) rfl (Or.inl ⟨by kernel_rfl, ?_⟩) (by assumption) ?_; rotate_left; (intro w hSw; (try dsimp only at hSw); go_simp; try with_reducible rfl); try simp only [Act.put, List.setIfInBounds_toArray, List.set_cons_zero, List.set_cons_succ]
                  refine wpAnyH_ready (rs := [5]) (by kernel_rfl) (by simp) ?_
                  refine AllReadyH.cons (o := ⟨_, _, _, _, _, _⟩) (by rfl) ?_ AllReadyH.nil
                  intro K hK
                  go_simp
                  refine (HSm.out _ (Old.refl w1).drew).mono ?_
                  rintro e V ⟨rfl, o1⟩
                  have HO1 := Lib.hid ((Old.refl w1).drew.trans o1)
                  clear o1
                  go_wp2_with fail
                  refine hK.out _ _ ?_ (fun hHeld => ?_)
                  · exact trivial
                  clear hK K
                  try simp only [Act.put, List.setIfInBounds_toArray, List.set_cons_zero, List.set_cons_succ]
                  refine wpT 6 (v := ?_) rfl (Or.inl ⟨by kernel_rfl, ?_⟩) (by assumption) ?_; rotate_left; (intro w hSw; (try dsimp only at hSw); go_simp; try with_reducible rfl); try simp only [Act.put, List.setIfInBounds_toArray, List.set_cons_zero, List.set_cons_succ]
                  refine wpAnyH_ready (rs := [15]) (by kernel_rfl) (by simp) ?_
                  refine AllReadyH.cons (o := ⟨_, _, _, _, _, _⟩) (by rfl) ?_ AllReadyH.nil
                  intro K hK
                  go_simp
                  refine (HGS.out _ HO1.out).mono ?_
                  rintro e V1 ⟨rfl, hv⟩
                  subst hv
                  go_wp2_with fail
                  refine hK.out _ _ ?_ (fun hHeld => ?_)
                  · exact trivial
                  clear hK K
                  try simp only [Act.put, List.setIfInBounds_toArray, List.set_cons_zero, List.set_cons_succ]
                  refine wpT 16 (v := ?_) rfl (Or.inl ⟨by kernel_rfl, ?_⟩) (by assumption) ?_; rotate_left; (intro w hSw; (try dsimp only at hSw); go_simp; try with_reducible rfl); try simp only [Act.put, List.setIfInBounds_toArray, List.set_cons_zero, List.set_cons_succ]
                  refine wpAnyH_done (by kernel_rfl) ?_ _
                  go_wp2_with fail
                  go_meet
                  exact ⟨by rw [← hq2, IntWalk.i64_in y (by omega)], HO1.out⟩
                case rest => as_aux_lemma =>
                  obtain ⟨rfl, ho2⟩ := hcut
                  have HO2 := Lib.hid (HO.out.trans ho2)
                  have HOL := Lib.hid ho2
                  clear ho2 HGS HSm c1 c2 hq2
                  cases q
                  case true =>
                    have hpre : preI F N = 9 := by rw [HQ.out]; rfl
                    obtain ⟨rfl, hev⟩ := HP.out.pre (by rw [hpre]; omega)
                    rw [hpre] at hev
                    subst hev
                    clear hpre HP HQ HZ HE1 HSz HN
                    go_wp2_with fail
                    refine (awake_any _).mono ?_
                    rintro e w3 ⟨rfl, ho⟩
                    have H3 := Lib.hid (HO2.out.trans ho)
                    clear ho
                    go_wp2_with fail
                    go_ret
                    exact ⟨rfl, H3.out⟩
                  case false =>
                    have hpre : preI F N = 0 := by rw [HQ.out]; rfl
                    rcases HP.out.ok hpre with ⟨rfl, rfl | rfl⟩ | ⟨rfl, bb, qd, cd, im, ci, D, rfl, hbk, hbd⟩
                    · clear hpre HP HQ HZ HE1 HSz HN
                      go_wp2_with fail
                      refine (awake_any _).mono ?_
                      rintro e w3 ⟨rfl, ho⟩
                      have H3 := Lib.hid (HO2.out.trans ho)
                      clear ho
                      go_wp2_with fail
                      go_ret
                      exact ⟨rfl, H3.out⟩
                    · clear hpre HP HQ HZ HE1 HSz HN
                      go_wp2_with fail
                      refine (awake_any _).mono ?_
                      rintro e w3 ⟨rfl, ho⟩
                      have H3 := Lib.hid (HO2.out.trans ho)
                      clear ho
                      go_wp2_with fail
                      go_ret
                      exact ⟨rfl, H3.out⟩
                    · have HBk := Lib.hid hbk
                      have HBd := Lib.hid hbd
                      have e1 : (hdZ F : Nat) = z := by
                        unfold hdZ
                        rw [HE1.out, ← HZ.out.1]
                        omega
                      have HZz := Lib.hid e1
                      have HNN := Lib.hid HN.out
                      obtain ⟨sz, hsz⟩ : ∃ s, s = hdZ F := ⟨_, rfl⟩
                      have HSZ := Lib.hid hsz
                      rw [← hsz] at hbk e1
                      rw [← HN.out] at hbk
                      have HBk := Lib.hid hbk
                      have hz24 : 24 ≤ sz := by omega
                      have hz96 : sz ≤ 96 := by omega
                      have hn64' : n ≤ 64 := by omega
                      have hfr := front_back HB.out hpre hbd
                      rw [← hsz, ← HN.out] at hfr
                      have HFr := Lib.hid hfr
                      subst e1
                      clear hbk hbd hpre hfr HP HQ hsz HZ HE1
                      go_wp2_with fail
                      refine (BDir_at bb sz n N qd cd im ci D F _ (HBk.out.old HOL.out) (by omega) (by omega)).mono ?_
                      rintro e w3 ⟨q2, c2, rfl, hc2, hc2m, hds, ho⟩
                      have H3 := Lib.hid (HO2.out.trans ho)
                      have H3b := Lib.hid (HOL.out.trans ho)
                      have HDs := Lib.hid hds
                      clear ho hds
                      obtain ⟨s9, hs9⟩ : ∃ s, s = strOfNums (lst F N) := ⟨_, rfl⟩
                      have HCv : Hid (∀ V p2 c, SlU V p2 N F → N ≤ c → c ≤ maxLen → (convert 24 9 (.slice p2 N c)).run Tryz.prog V = .ok (.string s9) V) := Lib.hid fun V p2 c hV hc hm => by
                        obtain ⟨g2, o2, rfl, _, h2⟩ := hV (by omega)
                        rw [hs9]
                        exact conv_at h2 (by omega) hc hm
                      have HSl := Lib.hid (HVo.out.old H3b.out)
                      have HB3 := Lib.hid (HBk.out.old H3b.out)
                      clear hs9
                      go_upto_region 19 with (fail)
                      go_cut [168] (fun v wx => v = .bool false ∧ Old w3 wx)
                      case first => as_aux_lemma =>
                        refine wp_region_held_drew (S := (fun V => Old w3 V)) (by kernel_rfl) ?_ (fun hHeld => ?_)
                        · (try dsimp only); exact (Old.refl w3).drew
                        refine wpT 0 (v := ?_) rfl (Or.inl ⟨by kernel_rfl, ?_⟩) (by assumption) ?_; rotate_left; (intro w hSw; (try dsimp only at hSw); go_simp; try with_reducible rfl); try simp only [Act.put, List.setIfInBounds_toArray, List.set_cons_zero, List.set_cons_succ]
                        refine wpT 1 (v := ?_) rfl (Or.inl ⟨by kernel_rfl, ?_⟩) (by assumption) ?_; rotate_left; (intro w hSw; (try dsimp only at hSw); go_simp; try with_reducible rfl); try simp only [Act.put, List.setIfInBounds_toArray, List.set_cons_zero, List.set_cons_succ]
                        refine wpT 2 (v := ?_) rfl (Or.inl ⟨by kernel_rfl, ?_⟩) (by assumption) ?_; rotate_left; (intro w hSw; (try dsimp only at hSw); go_simp; try with_reducible rfl); try simp only [Act.put, List.setIfInBounds_toArray, List.set_cons_zero, List.set_cons_succ]
                        refine wpT 3 (v := ?_) rfl (Or.inl ⟨by kernel_rfl, ?_⟩) (by assumption) ?_; rotate_left; (intro w hSw; (try dsimp only at hSw); go_simp; try with_reducible rfl); try simp only [Act.put, List.setIfInBounds_toArray, List.set_cons_zero, List.set_cons_succ]
                        refine wpT 4 (v := ?_) rfl (Or.inl ⟨by kernel_rfl, ?_⟩) (by assumption) ?_; rotate_left; (intro w hSw; (try dsimp only at hSw); go_simp; try with_reducible rfl); try simp only [Act.put, List.setIfInBounds_toArray, List.set_cons_zero, List.set_cons_succ]
                        refine wpT 5 (v := ?_) rfl (Or.inl ⟨by kernel_rfl, ?_⟩) (by assumption) ?_; rotate_left; (intro w hSw; (try dsimp only at hSw); go_simp; try with_reducible rfl); try simp only [Act.put, List.setIfInBounds_toArray, List.set_cons_zero, List.set_cons_succ]
                        refine wpT 7 (v := ?_) rfl (Or.inl ⟨by kernel_rfl, ?_⟩) (by assumption) ?_; rotate_left; (intro w hSw; (try dsimp only at hSw); go_simp; try with_reducible rfl); try simp only [Act.put, List.setIfInBounds_toArray, List.set_cons_zero, List.set_cons_succ]
                        refine wpAnyH_ready (rs := [6]) (by kernel_rfl) (by simp) ?_
                        refine AllReadyH.cons (o := ⟨_, _, _, _, _, _⟩) (by rfl) ?_ AllReadyH.nil
                        intro K hK
                        go_simp
                        refine (BSize_at bb sz w3.drew ((cell_of_row _ _ _ _ _ _ (HB3.out.old (Old.refl w3).drew).blk).trans rfl)).mono ?_
                        rintro e V ⟨rfl, hv⟩
                        subst hv
                        go_wp2_with fail
                        refine hK.out _ _ ?_ (fun hHeld => ?_)
                        · (try dsimp only); exact (Old.refl w3).drew
                        clear hK K
                        try simp only [Act.put, List.setIfInBounds_toArray, List.set_cons_zero, List.set_cons_succ]
                        refine wpT 8 (v := ?_) rfl (Or.inl ⟨by kernel_rfl, ?_⟩) (by assumption) ?_; rotate_left; (intro w hSw; (try dsimp only at hSw); go_simp; try with_reducible rfl); try simp only [Act.put, List.setIfInBounds_toArray, List.set_cons_zero, List.set_cons_succ]
                        refine wpT 9 (v := ?_) rfl (Or.inl ⟨by kernel_rfl, ?_⟩) (by assumption) ?_; rotate_left; (intro w hSw; (try dsimp only at hSw); go_simp; try with_reducible rfl); try simp only [Act.put, List.setIfInBounds_toArray, List.set_cons_zero, List.set_cons_succ]
                        refine wpT 10 (v := ?_) rfl (Or.inl ⟨by kernel_rfl, ?_⟩) (by assumption) ?_; rotate_left; (intro w hSw; (try dsimp only at hSw); go_simp; try with_reducible rfl); try simp only [Act.put, List.setIfInBounds_toArray, List.set_cons_zero, List.set_cons_succ]
                        refine wpT 11 (v := ?_) rfl (Or.inl ⟨by kernel_rfl, ?_⟩) (by assumption) ?_; rotate_left; (intro w hSw; (try dsimp only at hSw); go_simp; try with_reducible rfl); try simp only [Act.put, List.setIfInBounds_toArray, List.set_cons_zero, List.set_cons_succ]
                        refine wpT 14 (v := ?_) rfl (Or.inl ⟨by kernel_rfl, ?_⟩) (by assumption) ?_; rotate_left; (intro w hSw; (try dsimp only at hSw); go_simp; try with_reducible rfl); try simp only [Act.put, List.setIfInBounds_toArray, List.set_cons_zero, List.set_cons_succ]
                        refine wpT 15 (v := (.string s9)) rfl (Or.inl ⟨by kernel_rfl, fun V hSV => by (try dsimp only at hSV); have hcB := HCv.out V _ cap (HSl.out.old hSV) hNc HCm.out; go_simp⟩) (by assumption) ?_; try simp only [Act.put, List.setIfInBounds_toArray, List.set_cons_zero, List.set_cons_succ]
                        refine wpAnyH_ready (rs := [12]) (by kernel_rfl) (by simp) ?_
                        refine AllReadyH.cons (o := ⟨_, _, _, _, _, _⟩) (by rfl) ?_ AllReadyH.nil
                        intro K hK
                        go_simp
                        refine (BImage_at bb sz n N qd cd im ci D F _ (HB3.out.old (Old.refl w3).drew) (by omega) (by omega)).mono ?_
                        rintro e V ⟨q3, c3, rfl, hc3, hc3m, him, ho⟩
                        have HO4 := Lib.hid ((Old.refl w3).drew.trans ho)
                        have hc13 := HCv.out V q3 c3 him hc3 hc3m
                        clear ho him
                        go_wp2_with fail
                        refine hK.out _ _ ?_ (fun hHeld => ?_)
                        · (try dsimp only); exact HO4.out
                        clear hK K
                        try simp only [Act.put, List.setIfInBounds_toArray, List.set_cons_zero, List.set_cons_succ]
                        refine wpAnyH_ready (rs := [13]) (by kernel_rfl) (by simp) ?_
                        refine AllReadyH.cons (o := ⟨_, _, _, _, _, _⟩) (by rfl) ?_ AllReadyH.nil
                        intro K hK
                        go_simp
                        go_wp2_with fail
                        refine hK.out _ _ ?_ (fun hHeld => ?_)
                        · (try dsimp only); exact HO4.out
                        clear hK K
                        try simp only [Act.put, List.setIfInBounds_toArray, List.set_cons_zero, List.set_cons_succ]
                        refine wpT 16 (v := ?_) rfl (Or.inl ⟨by kernel_rfl, ?_⟩) (by assumption) ?_; rotate_left; (intro w hSw; (try dsimp only at hSw); go_simp; try with_reducible rfl); try simp only [Act.put, List.setIfInBounds_toArray, List.set_cons_zero, List.set_cons_succ]
                        refine wpT 17 (v := ?_) rfl (Or.inl ⟨by kernel_rfl, ?_⟩) (by assumption) ?_; rotate_left; (intro w hSw; (try dsimp only at hSw); go_simp; try with_reducible rfl); try simp only [Act.put, List.setIfInBounds_toArray, List.set_cons_zero, List.set_cons_succ]
                        refine wpAnyH_done (by kernel_rfl) ?_ _
                        go_wp2_with fail
                        go_meet
                        exact ⟨rfl, HO4.out⟩
                      case rest => as_aux_lemma =>
                        obtain ⟨rfl, ho⟩ := hcut
                        have H4 := Lib.hid (H3.out.trans ho)
                        have HD4 := Lib.hid (HDs.out.old ho)
                        have HV4 := Lib.hid (HSl.out.old ho)
                        have hdir := HBd.out.dir
                        have htot := HBd.out.total
                        rw [← HN.out] at hdir
                        rw [← HN.out, ← HSZ.out] at htot
                        have HL4 : Hid (∀ i, i < n → (D i).n ≤ 4000) := Lib.hid fun i hi => few_len hz24 hi (dirP_ok hdir i hi) (by omega)
                        have HDir := Lib.hid hdir
                        have HOwc := Lib.hid (Old.refl wc)
                        have HTot := Lib.hid htot
                        clear ho HCv HB3 hdir htot
                        go_wp2_with fail
                        go_loopw [8, 9] (fun mv iv wr => ∃ (k : Nat) (m : Int), k ≤ n ∧ iv = .int .i64 k ∧ mv = .int .i64 m ∧ Hid (Old wc wr)) (fun _ i _ => n - (intOf i).toNat)
                        case atStart => exact ⟨0, 0, by omega, by go_num, rfl, HOwc⟩
                        case round => as_aux_lemma =>
                          obtain ⟨k, mm, hk, rfl, rfl, HP⟩ := hrel
                          by_cases hkn : k < n
                          · obtain ⟨g0, o0, hp0, hg0, hcs⟩ := (HD4.out.old HP.out).cell (by omega)
                            obtain ⟨m, hm⟩ : ∃ m, m = D k := ⟨_, rfl⟩
                            have hck := hcs k hkn
                            rw [← hm] at hck
                            have c0 : wr.cell? ⟨g0, o0 + k * 9, none⟩ = some (.string m.s) := hck 0 _ rfl
                            have c1 : wr.cell? ⟨g0, o0 + k * 9 + 1, none⟩ = some (.int .i64 m.n) := hck 1 _ rfl
                            have c2' : wr.cell? ⟨g0, o0 + k * 9 + 2, none⟩ = some (.int .i64 m.r) := hck 2 _ rfl
                            have c3 : wr.cell? ⟨g0, o0 + k * 9 + 3, none⟩ = some (.int .i64 m.c) := hck 3 _ rfl
                            have c4 : wr.cell? ⟨g0, o0 + k * 9 + 4, none⟩ = some (.bool m.lp) := hck 4 _ rfl
                            have c5 : wr.cell? ⟨g0, o0 + k * 9 + 5, none⟩ = some (.int .i64 m.a) := hck 5 _ rfl
                            have c6 : wr.cell? ⟨g0, o0 + k * 9 + 6, none⟩ = some (.int .i64 m.b) := hck 6 _ rfl
                            have c7 : wr.cell? ⟨g0, o0 + k * 9 + 7, none⟩ = some (.int .i64 m.x) := hck 7 _ rfl
                            have c8 : wr.cell? ⟨g0, o0 + k * 9 + 8, none⟩ = some (.int .i64 m.y) := hck 8 _ rfl
                            have hok := dirP_ok HDir.out k hkn
                            have hw0 : (wrongI m.s m.n m.r m.c m.lp m.a m.b == 0) = true := by
                              have := (HDir.out k hkn).1
                              rw [← hm] at this
                              unfold Mt.ok at this
                              simpa using this
                            rw [← hm] at hok
                            have HRM : Hid (∀ V, Calls Tryz.prog 26 #[.agg m.cells] V fun e w' => e = .returned (.bool true) ∧ Old V w') :=
                              Lib.hid fun V => by
                                have := RightMeta_any m.s m.n m.r m.c m.lp m.a m.b m.x m.y V (by have := hok.name.1.2; omega)
                                rw [hw0] at this
                                exact this
                            have HFm := Lib.hid (fun V => Frames_any m hok V)
                            have hn4 := HL4.out k hkn
                            rw [← hm] at hn4
                            have hkn' : (k : Int) < n := by omega
                            subst hp0
                            have HM := Lib.hid hm
                            clear hcs hck hok hm hg0 hw0
                            go_wp2_with fail
                            refine (HRM.out _).mono ?_
                            rintro e V ⟨rfl, ho⟩
                            have HV := Lib.hid (HP.out.trans ho)
                            clear ho c0 c1 c2' c3 c4 c5 c6 c7 c8
                            obtain ⟨g1, o1, hp1, _, hcs⟩ := (HD4.out.old HV.out).cell (by omega)
                            obtain ⟨rfl, rfl⟩ : g1 = g0 ∧ o1 = o0 := by
                              injection hp1 with hp1
                              injection hp1 with h1 h2
                              exact ⟨h1.symm, h2.symm⟩
                            have hck := hcs k hkn
                            rw [← HM.out] at hck
                            have c0 : V.cell? ⟨g1, o1 + k * 9, none⟩ = some (.string m.s) := hck 0 _ rfl
                            have c1 : V.cell? ⟨g1, o1 + k * 9 + 1, none⟩ = some (.int .i64 m.n) := hck 1 _ rfl
                            have c2' : V.cell? ⟨g1, o1 + k * 9 + 2, none⟩ = some (.int .i64 m.r) := hck 2 _ rfl
                            have c3 : V.cell? ⟨g1, o1 + k * 9 + 3, none⟩ = some (.int .i64 m.c) := hck 3 _ rfl
                            have c4 : V.cell? ⟨g1, o1 + k * 9 + 4, none⟩ = some (.bool m.lp) := hck 4 _ rfl
                            have c5 : V.cell? ⟨g1, o1 + k * 9 + 5, none⟩ = some (.int .i64 m.a) := hck 5 _ rfl
                            have c6 : V.cell? ⟨g1, o1 + k * 9 + 6, none⟩ = some (.int .i64 m.b) := hck 6 _ rfl
                            have c7 : V.cell? ⟨g1, o1 + k * 9 + 7, none⟩ = some (.int .i64 m.x) := hck 7 _ rfl
                            have c8 : V.cell? ⟨g1, o1 + k * 9 + 8, none⟩ = some (.int .i64 m.y) := hck 8 _ rfl
                            clear hck hcs hp1
                            go_wp2_with fail
                            refine (HFm.out _).mono ?_
                            rintro e V2 ⟨rfl, ho⟩
                            have HV2 := Lib.hid (HV.out.trans ho)
                            clear ho
                            go_wp2_with fail
                            go_roundw
                            case rel => exact ⟨k + 1, _, by omega, by go_num, rfl, HV2⟩
                            case measure => simp [intOf]; omega
                          · have ekn : (k : Int) = n := by omega
                            rw [ekn]
                            have hD5 := Lib.hid (HD4.out.old HP.out)
                            clear hkn hk
                            go_wp2_with fail
                            refine (lawImage_any sz n 0 q2 c2 D none 0 (fun _ => none) (fun _ => 0) (fun _ _ => 0) _ hz24 hz96 hD5.out (by omega) (dirP_ok HDir.out) ⟨fun h => absurd h (Nat.lt_irrefl _), fun i hi => absurd hi (Nat.not_lt_zero _)⟩ (Nat.zero_le _)).mono ?_
                            rintro e V ⟨g9, c9, rfl, hc9, hc9m, hlay⟩
                            rw [HTot.out] at hlay hc9 ⊢
                            have HLay := Lib.hid hlay
                            have HV9 := Lib.hid (HP.out.trans hlay.lt.2.1)
                            clear hlay
                            have HFrN := Lib.hid (fun p hp => HFr.out p hp)
                            obtain ⟨M, hM⟩ : ∃ M, M = 20 + 64 * n := ⟨_, rfl⟩
                            have hMN : M ≤ N := by omega
                            have hM20 : 20 ≤ M := by omega
                            have HY : Hid (SlU V (some ⟨g9, 0, none⟩) M F) := Lib.hid (by
                              obtain ⟨FY, hu, hld⟩ := HLay.out
                              refine (hu.row.sl 0 M (by omega)).ext fun p hp => ?_
                              rw [Nat.zero_add, hld.front p (by omega)]
                              exact (HFr.out p (by omega)).symm)
                            have HX : Hid (SlU V (some ⟨g, og, none⟩) M F) := Lib.hid fun _ => (by
                              obtain ⟨g2, o2, e1, e2, e3⟩ := (HV4.out.old HV9.out) (by omega)
                              exact ⟨g2, o2, e1, e2, fun j hj => e3 j (by omega)⟩)
                            obtain ⟨s10, hs10⟩ : ∃ s, s = strOfNums (lst F M) := ⟨_, rfl⟩
                            have HCv2 : Hid (∀ V' p2 c, SlU V' p2 M F → M ≤ c → c ≤ maxLen → (convert 24 9 (.slice p2 M c)).run Tryz.prog V' = .ok (.string s10) V') := Lib.hid fun V' p2 c hV hc hm => (by
                              obtain ⟨g2, o2, rfl, _, h2⟩ := hV (by omega)
                              rw [hs10]
                              exact conv_at h2 (by omega) hc hm)
                            have hMI : ((M : Nat) : Int) = 20 + 64 * (n : Int) := by omega
                            have c2a := fun w' => cut_hi g9 0 N c9 M (by omega) (by omega) w'
                            have c2b := fun w' => cut_hi g og N cap M (by omega) (by omega) w'
                            rw [hMI] at c2a c2b
                            have hw1 : IntKind.i64.wrap ((64 : Int) * (n : Int)) = 64 * (n : Int) := IntWalk.i64_in _ (by omega)
                            have hw3 : IntKind.i64.wrap ((20 : Int) + 64 * (n : Int)) = 20 + 64 * (n : Int) := IntWalk.i64_in _ (by omega)
                            have HW := Lib.hid (And.intro hw1 hw3)
                            have HMs := Lib.hid (And.intro hMN hM20)
                            have hMc9 : M ≤ c9 := by omega
                            have hMcap : M ≤ cap := by omega
                            have HMc := Lib.hid (And.intro hMc9 hMcap)
                            have hg20 : (20 : Int) + 64 * (n : Int) ≤ c9 := by omega
                            clear hw1 hw3 hs10 hMI hM hMN hM20 hMc9 hMcap
                            go_upto_region 30 with (fail)
                            refine wp_region_held_drew (S := (fun V' => Old V V')) (by kernel_rfl) ?_ (fun hHeld => ?_)
                            · (try dsimp only); exact (Old.refl V).drew
                            refine wpT 0 (v := ?_) rfl (Or.inl ⟨by kernel_rfl, ?_⟩) (by assumption) ?_; rotate_left; (intro w hSw; (try dsimp only at hSw); go_simp; try with_reducible rfl); try simp only [Act.put, List.setIfInBounds_toArray, List.set_cons_zero, List.set_cons_succ]
                            refine wpT 1 (v := ?_) rfl (Or.inl ⟨by kernel_rfl, ?_⟩) (by assumption) ?_; rotate_left; (intro w hSw; (try dsimp only at hSw); go_simp; try with_reducible rfl); try simp only [Act.put, List.setIfInBounds_toArray, List.set_cons_zero, List.set_cons_succ]
                            refine wpT 2 (v := ?_) rfl (Or.inl ⟨by kernel_rfl, ?_⟩) (by assumption) ?_; rotate_left; (intro w hSw; (try dsimp only at hSw); go_simp; try with_reducible rfl); try simp only [Act.put, List.setIfInBounds_toArray, List.set_cons_zero, List.set_cons_succ]
                            refine wpT 3 (v := ?_) rfl (Or.inl ⟨by kernel_rfl, ?_⟩) (by assumption) ?_; rotate_left; (intro w hSw; (try dsimp only at hSw); go_simp; try with_reducible rfl); try simp only [Act.put, List.setIfInBounds_toArray, List.set_cons_zero, List.set_cons_succ]
                            refine wpT 4 (v := ?_) rfl (Or.inl ⟨by kernel_rfl, ?_⟩) (by assumption) ?_; rotate_left; (intro w hSw; (try dsimp only at hSw); go_simp; try with_reducible rfl); try simp only [Act.put, List.setIfInBounds_toArray, List.set_cons_zero, List.set_cons_succ]
                            refine wpT 5 (v := ?_) rfl (Or.inl ⟨by kernel_rfl, ?_⟩) (by assumption) ?_; rotate_left; (intro w hSw; (try dsimp only at hSw); go_simp; try with_reducible rfl); try simp only [Act.put, List.setIfInBounds_toArray, List.set_cons_zero, List.set_cons_succ]
                            refine wpT 6 (v := ?_) rfl (Or.inl ⟨by kernel_rfl, ?_⟩) (by assumption) ?_; rotate_left; (intro w hSw; (try dsimp only at hSw); go_simp; try with_reducible rfl); try simp only [Act.put, List.setIfInBounds_toArray, List.set_cons_zero, List.set_cons_succ]
                            refine wpT 7 (v := ?_) rfl (Or.inl ⟨by kernel_rfl, ?_⟩) (by assumption) ?_; rotate_left; (intro w hSw; (try dsimp only at hSw); go_simp; try with_reducible rfl); try simp only [Act.put, List.setIfInBounds_toArray, List.set_cons_zero, List.set_cons_succ]
                            refine wpT 8 (v := ?_) rfl (Or.inl ⟨by kernel_rfl, ?_⟩) (by assumption) ?_; rotate_left; (intro w hSw; (try dsimp only at hSw); go_simp; try with_reducible rfl); try simp only [Act.put, List.setIfInBounds_toArray, List.set_cons_zero, List.set_cons_succ]
                            try rw [HW.out.1]
                            refine wpT 9 (v := ?_) rfl (Or.inl ⟨by kernel_rfl, ?_⟩) (by assumption) ?_; rotate_left; (intro w hSw; (try dsimp only at hSw); go_simp; try with_reducible rfl); try simp only [Act.put, List.setIfInBounds_toArray, List.set_cons_zero, List.set_cons_succ]
                            try rw [HW.out.2]
                            refine wpT 10 (v := ?_) rfl (Or.inl ⟨by kernel_rfl, ?_⟩) (by assumption) ?_; rotate_left; (intro w hSw; (try dsimp only at hSw); go_simp; try with_reducible rfl); try simp only [Act.put, List.setIfInBounds_toArray, List.set_cons_zero, List.set_cons_succ]
                            refine wpT 12 (v := ?_) rfl (Or.inl ⟨by kernel_rfl, ?_⟩) (by assumption) ?_; rotate_left; (intro w hSw; (try dsimp only at hSw); go_simp; try with_reducible rfl); try simp only [Act.put, List.setIfInBounds_toArray, List.set_cons_zero, List.set_cons_succ]
                            refine wpT 13 (v := ?_) rfl (Or.inl ⟨by kernel_rfl, ?_⟩) (by assumption) ?_; rotate_left; (intro w hSw; (try dsimp only at hSw); go_simp; try with_reducible rfl); try simp only [Act.put, List.setIfInBounds_toArray, List.set_cons_zero, List.set_cons_succ]
                            refine wpT 14 (v := ?_) rfl (Or.inl ⟨by kernel_rfl, ?_⟩) (by assumption) ?_; rotate_left; (intro w hSw; (try dsimp only at hSw); go_simp; try with_reducible rfl); try simp only [Act.put, List.setIfInBounds_toArray, List.set_cons_zero, List.set_cons_succ]
                            try rw [HW.out.1]
                            refine wpT 15 (v := ?_) rfl (Or.inl ⟨by kernel_rfl, ?_⟩) (by assumption) ?_; rotate_left; (intro w hSw; (try dsimp only at hSw); go_simp; try with_reducible rfl); try simp only [Act.put, List.setIfInBounds_toArray, List.set_cons_zero, List.set_cons_succ]
                            try rw [HW.out.2]
                            refine wpT 16 (v := ?_) rfl (Or.inl ⟨by kernel_rfl, ?_⟩) (by assumption) ?_; rotate_left; (intro w hSw; (try dsimp only at hSw); go_simp; try with_reducible rfl); try simp only [Act.put, List.setIfInBounds_toArray, List.set_cons_zero, List.set_cons_succ]
                            refine wpT 11 (v := (.string s10)) rfl (Or.inl ⟨by kernel_rfl, fun V' hSV => by (try dsimp only at hSV); have hcB := HCv2.out V' _ c9 (HY.out.old hSV) HMc.out.1 hc9m; go_simp⟩) (by assumption) ?_; try simp only [Act.put, List.setIfInBounds_toArray, List.set_cons_zero, List.set_cons_succ]
                            refine wpT 17 (v := (.string s10)) rfl (Or.inl ⟨by kernel_rfl, fun V' hSV => by (try dsimp only at hSV); have hcB := HCv2.out V' _ cap (HX.out.old hSV) HMc.out.2 HCm.out; go_simp⟩) (by assumption) ?_; try simp only [Act.put, List.setIfInBounds_toArray, List.set_cons_zero, List.set_cons_succ]
                            refine wpT 18 (v := ?_) rfl (Or.inl ⟨by kernel_rfl, ?_⟩) (by assumption) ?_; rotate_left; (intro w hSw; (try dsimp only at hSw); go_simp; try with_reducible rfl); try simp only [Act.put, List.setIfInBounds_toArray, List.set_cons_zero, List.set_cons_succ]
                            refine wpT 19 (v := ?_) rfl (Or.inl ⟨by kernel_rfl, ?_⟩) (by assumption) ?_; rotate_left; (intro w hSw; (try dsimp only at hSw); go_simp; try with_reducible rfl); try simp only [Act.put, List.setIfInBounds_toArray, List.set_cons_zero, List.set_cons_succ]
                            refine wpT 20 (v := ?_) rfl (Or.inl ⟨by kernel_rfl, ?_⟩) (by assumption) ?_; rotate_left; (intro w hSw; (try dsimp only at hSw); go_simp; try with_reducible rfl); try simp only [Act.put, List.setIfInBounds_toArray, List.set_cons_zero, List.set_cons_succ]
                            refine wpAnyH_ready (rs := [21]) (by kernel_rfl) (by simp) ?_
                            refine AllReadyH.cons (o := ⟨_, _, _, _, _, _⟩) (by rfl) ?_ AllReadyH.nil
                            intro K hK
                            go_simp
                            refine (awake_any _).mono ?_
                            rintro e V3 ⟨rfl, ho3⟩
                            have HO3 := Lib.hid ((Old.refl V).drew.trans ho3)
                            clear ho3
                            go_wp2_with fail
                            refine hK.out _ _ ?_ (fun hHeld => ?_)
                            · (try dsimp only); exact HO3.out
                            clear hK K
                            try simp only [Act.put, List.setIfInBounds_toArray, List.set_cons_zero, List.set_cons_succ]
                            refine wpT 22 (v := ?_) rfl (Or.inl ⟨by kernel_rfl, ?_⟩) (by assumption) ?_; rotate_left; (intro w hSw; (try dsimp only at hSw); go_simp; try with_reducible rfl); try simp only [Act.put, List.setIfInBounds_toArray, List.set_cons_zero, List.set_cons_succ]
                            refine wpT 23 (v := ?_) rfl (Or.inl ⟨by kernel_rfl, ?_⟩) (by assumption) ?_; rotate_left; (intro w hSw; (try dsimp only at hSw); go_simp; try with_reducible rfl); try simp only [Act.put, List.setIfInBounds_toArray, List.set_cons_zero, List.set_cons_succ]
                            refine wpAnyH_done (by kernel_rfl) ?_ _
                            have HFin := Lib.hid ((H4.out.trans HV9.out).trans HO3.out)
                            go_wp2_with fail
                            go_ret
                            exact ⟨rfl, HFin.out⟩
end Go.Proofs.YtomhaabnfaagnaaGreatDoor




