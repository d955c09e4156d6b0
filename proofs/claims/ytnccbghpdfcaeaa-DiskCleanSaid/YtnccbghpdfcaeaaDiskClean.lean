/- DiskClean: a page of which nothing was said is read as it is in the image, whatever is said of another one (16.4). No condition. -/
import Derived.Test.YtnccbghpdfcaeaaRows
import Derived.Test.YtnccbghpdfcaeaaAwake
import Derived.Deep.DeepCutAuto
import Derived.Deep.CutBlock
namespace Go.Proofs.Ytnccbghpdfcaeaa.diskClean
open Go.ChangeShapes Go.WideShapes Go.ChangeAt Go.RowKit
set_option linter.unusedVariables false
set_option linter.unusedSimpArgs false

/-- A disk of an image, of which nothing was said but of another page. -/
structure CleanR (w : World) (m : Nat) (F : Nat → Int) (page : Int) (b mb : Nat) (p : Option Addr) (c : Nat) (wx : World) : Prop where
  ex : ∃ d, DkAt wx b mb p c d ∧ d.N = pgs m ∧ d.G = padF m F ∧ ∀ k : Nat, (k : Int) = page → d.F k = Flt.z
  old : Old w wx
  ge : w.heap.size ≤ mb ∧ w.heap.size ≤ b
theorem CleanR.next {w wx wy : World} {m : Nat} {F : Nat → Int} {page : Int} {b mb : Nat} {p : Option Addr} {c : Nat} (h : CleanR w m F page b mb p c wx) {d : Dsk} {i : Nat} {x : Flt} (hd : d.N = pgs m ∧ d.G = padF m F ∧ ∀ k : Nat, (k : Int) = page → d.F k = Flt.z) (hi : (i : Int) ≠ page) (hy : DkAt wy b mb p c (d.set i x)) (k : Kept (fun j => j < wx.heap.size ∧ j ≠ mb) wx wy) : CleanR w m F page b mb p c wy :=
  ⟨⟨_, hy, hd.1, hd.2.1, fun j hj => by
    show updF d.F i x j = Flt.z
    unfold updF
    rw [if_neg (fun e => hi (by rw [← e]; exact hj))]
    exact hd.2.2 j hj⟩, h.old.after k (fun j hj => ⟨Nat.lt_of_lt_of_le hj h.old.size, by have := h.ge.1; omega⟩), h.ge⟩
theorem noPg_of {d : Dsk} {i : Int} : noPg d i ∨ ∃ k : Nat, i = k ∧ k < d.N := by
  unfold noPg
  by_cases h : i < 0 ∨ (d.N : Int) ≤ i
  · exact .inl h
  · exact .inr ⟨i.toNat, by omega, by omega⟩
theorem CleanR.fail {w wx : World} {m : Nat} {F : Nat → Int} {page : Int} {b mb : Nat} {p : Option Addr} {c : Nat} (h : CleanR w m F page b mb p c wx) (i n : Int) (hi : i ≠ page) (hn : -9223372036854775808 ≤ n ∧ n ≤ 9223372036854775807) :
    Calls Try.prog 16 #[.pointer (some ⟨b, 0, none⟩), .int .i64 i, .int .i64 n] wx fun e w' => ∃ er, e = .returned (.int .i64 er) ∧ CleanR w m F page b mb p c w' := by
  obtain ⟨d, hd, h1, h2, h3⟩ := h.ex
  rcases noPg_of (d := d) (i := i) with ho | ⟨k, rfl, hk⟩
  · refine (Fail_out b mb p c d i n wx hd ho).mono ?_
    rintro e w' ⟨rfl, rfl⟩
    exact ⟨_, rfl, h⟩
  · refine (Fail_ok b mb p c d k n wx hd hk hn).mono ?_
    rintro e w' ⟨rfl, hd', hk'⟩
    exact ⟨_, rfl, h.next ⟨h1, h2, h3⟩ hi hd' hk'⟩
theorem CleanR.spoil {w wx : World} {m : Nat} {F : Nat → Int} {page : Int} {b mb : Nat} {p : Option Addr} {c : Nat} (h : CleanR w m F page b mb p c wx) (i n : Int) (hi : i ≠ page) :
    Calls Try.prog 17 #[.pointer (some ⟨b, 0, none⟩), .int .i64 i, .int .i64 n, .int .u8 255] wx fun e w' => ∃ er, e = .returned (.int .i64 er) ∧ CleanR w m F page b mb p c w' := by
  obtain ⟨d, hd, h1, h2, h3⟩ := h.ex
  rcases noPg_of (d := d) (i := i) with ho | ⟨k, rfl, hk⟩
  · refine (Spoil_out b mb p c d i n 255 wx hd ho).mono ?_
    rintro e w' ⟨rfl, rfl⟩
    exact ⟨_, rfl, h⟩
  · by_cases hn : 0 ≤ n ∧ n ≤ 63
    · refine (Spoil_ok b mb p c d k n 255 wx hd hk hn (by omega)).mono ?_
      rintro e w' ⟨rfl, hd', hk'⟩
      exact ⟨_, rfl, h.next ⟨h1, h2, h3⟩ hi hd' hk'⟩
    · refine (Spoil_arg b mb p c d k n 255 wx hd hk (by omega)).mono ?_
      rintro e w' ⟨rfl, rfl⟩
      exact ⟨_, rfl, h⟩
/-- The image, cut. -/
def B0 (w : World) (v : Value) (wx : World) : Prop := w = wx ∧ ∃ p m cap F, v = .slice p m cap ∧ SlU w p m F ∧ Byt F m ∧ m ≤ 500 ∧ m ≤ cap
set_option maxRecDepth 100000 in
set_option maxHeartbeats 4000000 in
theorem walk (xs : List Int) (p : Option Addr) (n cap : Nat) (page other q : Int) (w : World) (hv : SlI w .u8 (.slice p n cap) xs) (hbt : ∀ x ∈ xs, 0 ≤ x ∧ x ≤ 255) (hcap : n ≤ cap) (hm : cap ≤ maxLen) (hq : -9223372036854775808 ≤ q ∧ q ≤ 9223372036854775807) (hpg : -9223372036854775808 ≤ page ∧ page ≤ 9223372036854775807) :
    Calls Try.prog 4 #[.slice p n cap, .int .i64 page, .int .i64 other, .int .i64 q] w fun e w' => e = .returned (.bool true) ∧ Old w w' := by
  obtain ⟨hU, hl⟩ := hv.slU
  have HU := Lib.hid hU
  have HBy : Hid (Byt (fun j => xs.getD j 0) n) := Lib.hid fun j hj => hbt _ (by
    show xs.getD j 0 ∈ xs
    rw [List.getD_eq_getElem?_getD, List.getElem?_eq_getElem (by omega)]; exact List.getElem_mem _)
  have HQ := Lib.hid hq
  generalize (fun j => xs.getD j 0) = F0 at HU HBy
  clear hv hbt hU hl hq
  go_enter Try.func4, Try.ntmps4
  unfold maxLen at hm
  go_upto_if 17 with (fail)
  go_cut [0] (fun v0 wx => B0 w v0 wx)
  case first =>
    by_cases hlen : n ≤ 500
    · have hl31 : ¬ (500 : Int) < (n : Int) := by omega
      go_wp2_with fail
      go_meet
      exact ⟨rfl, p, n, cap, F0, rfl, HU.out, HBy.out, hlen, hcap⟩
    · obtain ⟨b, off, rfl, hb, hc⟩ := HU.out (by omega)
      have hv' : Hid (SlU w (some ⟨b, off, none⟩) 500 F0) := Lib.hid fun _ => ⟨b, off, rfl, hb, fun j hj => hc j (by omega)⟩
      clear hb hc
      go_wp2_with fail
      go_meet
      exact ⟨rfl, _, 500, cap, F0, rfl, hv'.out, fun j hj => HBy.out j (by omega), Nat.le_refl _, by omega⟩
  case rest =>
    obtain ⟨rfl, p, m, cap, F, rfl, hv, hbt, hm5, hmc⟩ := hcut
    have HV := Lib.hid hv
    have HB := Lib.hid hbt
    clear hv hbt HU HBy hcap hm
    go_wp2_with fail
    refine (DNew_ok p m cap F w HV.out (by omega) hmc HB.out).mono ?_
    rintro e w1 ⟨mb, rfl, hlt, hd, ho⟩
    generalize (some (⟨w.heap.size, 0, none⟩ : Addr)) = pp at hd
    obtain ⟨c, hc⟩ : ∃ c, c = pgs m := ⟨_, rfl⟩
    have HC : Hid (CleanR w m F page (mb + 1) mb pp c w1) := Lib.hid ⟨⟨dk0 m F, by rw [hc]; exact hd, rfl, rfl, fun _ _ => rfl⟩, ho, by omega, by omega⟩
    clear hd ho hc hlt
    go_upto_if 33 with (fail)
    go_cut [] (fun wx => CleanR w m F page (mb + 1) mb pp c wx)
    case first =>
      by_cases ho : other = page
      · have q0 : (other != page) = false := by simp [ho]
        clear ho
        go_wp2_with fail
        go_meet
        exact HC.out
      · have q0 : (other != page) = true := by simp [ho]
        have HF := Lib.hid (HC.out.fail other q ho HQ.out)
        have HS := Lib.hid (fun wx (h : CleanR w m F page (mb + 1) mb pp c wx) => h.spoil other q ho)
        clear ho HC
        go_wp2_with fail
        refine HF.out.mono ?_
        rintro e w2 ⟨er, rfl, h2⟩
        have H2 := Lib.hid h2
        clear h2
        go_wp2_with fail
        refine (HS.out w2 H2.out).mono ?_
        rintro e w3 ⟨er2, rfl, h3⟩
        have H3 := Lib.hid h3
        clear h3
        go_wp2_with fail
        go_meet
        exact H3.out
    case rest =>
      have HC2 := Lib.hid hcut
      clear hcut HC
      obtain ⟨w2, rfl⟩ : ∃ V, V = wc := ⟨_, rfl⟩
      obtain ⟨d, hd, h1, h2, h3⟩ := HC2.out.ex
      obtain ⟨N, hN⟩ : ∃ N, N = pgs m := ⟨_, rfl⟩
      have hNn : N = (m + 63) / 64 := hN
      have hN2 : N ≤ 8 := by omega
      have tq : ((m : Int) + 63) / 64 = (N : Int) := by omega
      rw [← hN] at h1
      have HO2 := Lib.hid HC2.out.old
      have HGe := Lib.hid HC2.out.ge
      rcases noPg_of (d := d) (i := page) with hno | ⟨k, rfl, hk⟩
      · have HR := Lib.hid (Read_out _ _ _ _ d page w2 hd hno)
        have hno' : page < 0 ∨ (N : Int) ≤ page := by unfold noPg at hno; rw [h1] at hno; exact hno
        clear hd h1 h2 h3 hno HC2 hN hNn
        go_wp2_with fail
        refine HR.out.mono ?_
        rintro e w' ⟨rfl, rfl⟩
        by_cases hp0 : page < 0
        · have q0 : decide (page < 0) = true := decide_eq_true hp0
          clear hno'
          go_wp2_with fail
          refine (awake_any _).mono ?_
          rintro e w3 ⟨rfl, ho⟩
          have H3 := Lib.hid (HO2.out.trans ho)
          clear ho
          go_wp2_with fail
          go_ret
          exact ⟨rfl, H3.out⟩
        · have q0 : decide (page < 0) = false := decide_eq_false hp0
          have q1 : (N : Int) ≤ page := by omega
          clear hno'
          go_wp2_with fail
          refine (awake_any _).mono ?_
          rintro e w3 ⟨rfl, ho⟩
          have H3 := Lib.hid (HO2.out.trans ho)
          clear ho
          go_wp2_with fail
          go_ret
          exact ⟨rfl, H3.out⟩
      · have HR := Lib.hid (Read_ok _ _ _ _ d k w2 hd hk (by rw [h3 k rfl]; rfl))
        have hk' : k < N := by rw [← h1]; exact hk
        have HW := Lib.hid (fun j (hj : j < 64) => (readF_z hk hd.byt (h3 k rfl) j hj).trans (by rw [h2]))
        have q0 : decide ((k : Int) < 0) = false := decide_eq_false (by omega)
        have q1 : ¬ (N : Int) ≤ k := by omega
        have HM := Lib.hid (And.intro hm5 hmc)
        have hNm : N * 64 ≤ m + 63 := by omega
        have HNm := Lib.hid hNm
        clear hd h1 h2 h3 hk HC2 hN hNn hNm
        go_wp2_with fail
        refine HR.out.mono ?_
        rintro e w3 ⟨g, rfl, hg, hu, _, hk3⟩
        have HO3 := Lib.hid (HO2.out.after hk3 fun j hj => ⟨Nat.lt_of_lt_of_le hj HO2.out.size, by have := HGe.out; omega, by have := HGe.out; omega⟩)
        have HU3 := Lib.hid (UAt.ext hu HW.out)
        clear hk3 hg hu HR HW
        go_wp2_with fail
        go_loop [13] (fun i => ∃ j : Nat, j ≤ 64 ∧ i = .int .i64 j) (fun i => 64 - (intOf i).toNat)
        case atStart => exact ⟨0, by omega, rfl⟩
        case round =>
          obtain ⟨j, hj, rfl⟩ := hrel
          by_cases hlt : j < 64
          · have hj0 : (0 : Int) ≤ j := by omega
            have hj1 : (j : Int) < 64 := by omega
            have cg := HU3.out.at_ j hlt
            obtain ⟨M, hM⟩ : ∃ M : Nat, M = 64 * k + j := ⟨_, rfl⟩
            have eM : (64 : Int) * (k : Int) + (j : Int) = (M : Int) := by omega
            by_cases hin : M < m
            · obtain ⟨bi, oi, hpi, hbi, hci⟩ := (HV.out.old HO3.out) (by omega)
              subst hpi
              have ci := hci M hin
              have ev : padF m F (k * 64 + j) = F M := by unfold padF; rw [if_pos (by omega), show k * 64 + j = M by omega]
              rw [ev] at cg
              generalize F M = v at cg ci
              have hm0 : (0 : Int) ≤ M := by omega
              have hm1 : (M : Int) < m := by omega
              have hne : (v != v) = false := by simp
              have hmc' := HM.out.2
              have hmk : M ≤ 600 := by have := HM.out.1; omega
              clear hci hM ev hin hlt
              go_wp2_with fail
              exact ⟨⟨j + 1, by omega, by go_num⟩, by simp [intOf]; omega⟩
            · have ev : padF m F (k * 64 + j) = 0 := by unfold padF; rw [if_neg (by omega)]
              rw [ev] at cg
              have hm1 : ¬ (M : Int) < m := by omega
              have hmk : M ≤ 600 := by omega
              clear hM ev hin hlt
              go_wp2_with fail
              exact ⟨⟨j + 1, by omega, by go_num⟩, by simp [intOf]; omega⟩
          · obtain rfl : j = 64 := by omega
            go_wp2_with fail
            refine (awake_any _).mono ?_
            rintro e w4 ⟨rfl, ho⟩
            have H4 := Lib.hid (HO3.out.trans ho)
            clear ho
            go_wp2_with fail
            go_ret
            exact ⟨rfl, H4.out⟩


theorem own : ownKnob Try.prog.godebug = none := by kernel_rfl
theorem laidOut : laidOutB Try.prog = true := by kernel_rfl

set_option maxRecDepth 100000 in
theorem lifted (os : Os) (started : os.Started) (H : Type) (enc : TypeId × Value → H) :
    ReturnsInHanded {} Try.checked os 4 .any (Rows.diskCleanSpec.pre6 enc Try.prog Try.f4 Rows.diskCleanRow.domain false) (Rows.diskCleanSpec.post enc Try.prog Try.f4 false true false false) := by
  refine returnsInHanded_of_change (C := Try.checked) own started (by kernel_rfl) Try.func4
    (ChangeSpec.witness6 (enc := enc) (C := Try.checked) false ⟨#[], #[.slice none 0 0, .int .i64 0, .int .i64 0, .int .i64 0], []⟩ 8 (by kernel_rfl) (by kernel_rfl) (by kernel_rfl) (by kernel_rfl)) ?_
  intro W base args ds gs before hval0 hW hcnd _
  have hval : ∀ (j : Nat) t v, Try.f4.params[j]? = some t → args[j]? = some v → Value.okWide Try.prog W .any base t v := hval0
  have hW' := hW
  have hlt : ∀ p ∈ before, p.block < W.heap.size := fun p hp => hW'.lt p hp
  obtain ⟨p, q, hA0, hV, rfl, hfz, hnd⟩ := hW
  have hA : DataW.TrodAll enc Try.prog W 0 (fun _ => true) true Try.f4.params.toList args.toList ds p := hA0
  rw [Try.params4] at hA hval
  obtain ⟨v0, vs0, d0, ds0, p0, q0, hargs, rfl, rfl, h0, r0⟩ := trodAll_cons hA
  obtain ⟨v1, vs1, d1, ds1, p1, q1, rfl, rfl, rfl, h1, r1⟩ := trodAll_cons r0
  obtain ⟨v2, vs2, d2, ds2, p2, q2, rfl, rfl, rfl, h2, r2⟩ := trodAll_cons r1
  obtain ⟨v3, vs3, d3, ds3, p3, q3, rfl, rfl, rfl, h3, r3⟩ := trodAll_cons r2
  obtain ⟨rfl, rfl, rfl⟩ := trodAll_nil r3
  obtain rfl : args = #[v0, v1, v2, v3] := by cases args; simp_all
  obtain ⟨rfl, rfl⟩ := trodVars_none hV
  obtain ⟨s0, n0, c0, xs0, rfl, hs0, hn0, hc0, hw0⟩ := open_slI Try.underlying22 Try.underlying5 (by kernel_rfl) (hval 0 22 v0 rfl rfl) h0 (fun x hx => hlt x (by simp [hx]))
  obtain ⟨a1, rfl, _, _, w1⟩ := open_int Try.underlying3 (hval 1 3 v1 rfl rfl) h1
  obtain ⟨a2, rfl, _, _, w2⟩ := open_int Try.underlying3 (hval 2 3 v2 rfl rfl) h2
  obtain ⟨a3, rfl, _, _, w3⟩ := open_int Try.underlying3 (hval 3 3 v3 rfl rfl) h3
  refine (walk xs0 s0 n0 c0 a1 a2 a3 W hs0 (bytes_of hw0) hn0 hc0 (i64_of w3) (i64_of w1)).mono fun e W' ⟨he, hg⟩ => ?_
  subst he
  exact ⟨_, rfl, law_done laidOut Try.underlying4 rfl (by kernel_rfl) rfl hW' rfl hg⟩

theorem over : Rows.diskCleanRow.holds Try.pinned (OpenSpec.ofChange Rows.diskCleanSpec) :=
  OpenClaim.holds_of_wide 4 Try.f4 rfl rfl rfl rfl rfl rfl rfl ⟨rfl, rfl, rfl, rfl, rfl⟩ rfl rfl rfl rfl rfl (by kernel_rfl) Try.func4 (by kernel_rfl)
    (of_decide_eq_true (by kernel_rfl)) (by unfold Func.isWrapper; first | (rw [if_pos (by decide +kernel)]; kernel_rfl) | (rw [if_neg (by decide +kernel)]; exact ⟨rfl, rfl⟩))
    (fun os started H enc _ => lifted os started H enc)

theorem proved : Rows.DiskCleanSaid :=
  over
end Go.Proofs.Ytnccbghpdfcaeaa.diskClean
