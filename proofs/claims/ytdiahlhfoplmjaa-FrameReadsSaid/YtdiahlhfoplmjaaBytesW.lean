/- A frame as bytes, as the law lays it: calliopelaw10.bytes. -/
import Derived.Test.YtdiahlhfoplmjaaFrBytesL
import Derived.StillTailTactics
namespace Go.Proofs.Ytdiahlhfoplmjaa
set_option linter.unusedVariables false
open Go.RowKit Go.ChangeShapes Go.WideShapes

theorem quarter_q (j m : Nat) (hj : j < 16) (hm : j / 4 = m) : wrap64 ((j : Int).tdiv 4) = m ∧ IntKind.i64.wrap ((j : Int) / 4) = m := by
  refine ⟨?_, ?_⟩
  · rw [Int.tdiv_eq_ediv_of_nonneg (by omega), IntWalk.wrap64_in _ (by omega)]; omega
  · rw [IntWalk.i64_in _ (by omega)]; omega
set_option maxRecDepth 100000 in
set_option maxHeartbeats 4000000 in
theorem bytes_any (F : Nat → Int) (p : Option Addr) (n cap : Nat) (T : Nat → Int) (N : Nat) (w : World) (hT : SlF 2 w p n T) (hn : n ≤ cap) (hc : cap ≤ maxLen) (hF : FrP F n T) (hN : N ≤ 200) (hl : (enc F n T).length ≤ 8 * N) :
    Calls Try.prog 15 #[.agg (rowN 29 (frC F (.slice p n cap))), .int .i64 N] w fun e w' => Old w w' ∧ ∃ g, e = .returned (.slice (some ⟨g, 0, none⟩) N N) ∧ w.heap.size ≤ g ∧ w'.heap[g]? = some (.cells ((padded (enc F n T) N).map (Value.int .u8)).toArray 5 (0, 0)) := by
  obtain ⟨w1, hw1⟩ : ∃ w1, w1 = w.alloc (.cells (rowN 29 (frC F (.slice p n cap))) 27) := ⟨_, rfl⟩
  have HB1 : Hid (FrB 27 w1 w.heap.size F (.slice p n cap)) := Lib.hid (by rw [hw1]; exact FrB.new w F _)
  have ho1 : Old w w1 := by rw [hw1]; exact Old.alloc _ _
  have HO1 := Lib.hid ho1
  have HT1 := Lib.hid (hT.old ho1)
  have HF := Lib.hid hF
  have n2 := hF.hn
  have he0 : bytesErr (enc F n T) 0 N = 0 := by
    unfold bytesErr nb
    rw [if_neg (by simp), if_neg (by omega), if_neg (by omega)]
  have HE0 := Lib.hid he0
  obtain ⟨bw, hbw⟩ : ∃ bw, bw = w1.heap.size := ⟨_, rfl⟩
  have hst := BySt.fresh w1
  obtain ⟨W2, hW2⟩ : ∃ W2, W2 = w1.alloc (.cells #[.slice none 0 0, .int .i64 0, .int .i64 0] 47) := ⟨_, rfl⟩
  rw [← hW2, ← hbw] at hst
  have HP := Lib.hid (Put_ok hst 1 2 (by simp) (by omega) (by omega) (valid_low 1 2 1 (by omega) (by omega) (by omega) (by omega) (by decide)))
  have hbw' : bw = w.heap.size + 1 := by rw [hbw, hw1]; simp
  have HW1 := Lib.hid hw1
  have HW2 := Lib.hid hW2
  have Hbw := Lib.hid hbw'
  clear hst hW2 hbw hT hF ho1 hw1 hbw' he0 hl
  go_enter Try.func15, Try.ntmps15
  go_wp2_with fail
  rw [← HW1.out, ← HW2.out, ← Hbw.out]
  refine HP.out.mono ?_
  rintro e w3 ⟨rfl, hs⟩
  rw [List.nil_append, ← encG_zero F] at hs
  have HS := Lib.hid hs
  clear hs HP HW2 Hbw HW1
  go_wp2_with fail
  go_loopw [6] (fun i wr => ∃ k : Nat, k ≤ 4 ∧ i = .int .i64 k ∧ Hid (BySt w1 bw (encG F k) wr)) (fun i _ => 4 - (intOf i).toNat)
  case atStart => exact ⟨0, by omega, rfl, HS⟩
  case round =>
    obtain ⟨k, hk, rfl, hs⟩ := hrel
    clear HS
    by_cases hlt : k < 4
    · have i1 : (0 : Int) ≤ k := by omega
      have i2 : (k : Int) < 4 := by omega
      have hc := ((HB1.out.old hs.out.2).cell k (by omega) (by omega)).1
      obtain ⟨g0, g1⟩ := HF.out.hg k hlt
      have HP := Lib.hid (Put_ok hs.out (F k) 2 (by rw [encG_len]; omega) g0 (by omega) (valid_low _ 2 3 (by omega) (by omega) g0 g1 (by decide)))
      rw [← encG_succ] at HP
      clear hs
      generalize F k = x at *
      go_wp2_with fail
      refine HP.out.mono ?_
      rintro e w4 ⟨rfl, hs⟩
      have HS := Lib.hid hs
      clear hs HP
      go_wp2_with fail
      go_roundw
      case rel => exact ⟨k + 1, by omega, by go_num, HS⟩
      case measure => simp [intOf]; omega
    · obtain rfl : k = 4 := by omega
      have c4 := (HB1.out.old hs.out.2).cell4.1
      have HP := Lib.hid (Put_ok hs.out n 2 (by rw [encG_len]; omega) (by omega) (by omega) (valid_low _ 2 2 (by omega) (by omega) (by omega) (by omega) (by decide)))
      clear hs hlt hk
      go_wp2_with fail
      refine HP.out.mono ?_
      rintro e w4 ⟨rfl, hs⟩
      rw [show encG F 4 ++ bitsI n 2 = encN F n from rfl, ← encT_zero F n T] at hs
      have HS := Lib.hid hs
      clear hs HP c4
      go_wp2_with fail
      try rw [show ((4 : Nat) : Int) = 4 from rfl]
      go_loopw [7] (fun i wr => ∃ k : Nat, k ≤ n ∧ i = .int .i64 k ∧ Hid (BySt w1 bw (encT F n T k) wr)) (fun i _ => n - (intOf i).toNat)
      case atStart => exact ⟨0, by omega, rfl, HS⟩
      case round =>
        obtain ⟨k, hk, rfl, hs⟩ := hrel
        obtain ⟨wo, rfl⟩ : ∃ V, V = wr := ⟨_, rfl⟩
        clear HS
        have c4 := (HB1.out.old hs.out.2).cell4.1
        by_cases hlt : k < n
        · have i1 : (0 : Int) ≤ k := by omega
          have hT := HT1.out.old hs.out.2
          obtain ⟨g, o, rfl, hg, hcc⟩ := two_cells hT (by omega)
          obtain ⟨a0, a1⟩ := hcc k hlt
          obtain ⟨t0, t1, t2, _⟩ := HF.out.ht k hlt
          obtain ⟨tv, tb0, tb1⟩ := valid_fit _ 24 (by omega) (by omega) t2
          have hlen := encT_len F n T k
          have HP := Lib.hid (Put_ok hs.out (T (2 * k)) 4 (by omega) t0 (by omega) (valid_low _ 4 15 (by omega) (by omega) t0 t1 (by decide)))
          have HQ := Lib.hid (fun wx (h : BySt w1 bw (encT F n T k ++ bitsI (T (2 * k)) 4) wx) => Signed_ok h (T (2 * k + 1)) 24 (by rw [List.length_append, len_bitsI, hlen]; show 12 + 28 * k + 4 ≤ _; omega) (by omega) (by omega) tv)
          rw [← encT_succ] at HQ
          have HC : Hid (∀ wx, Old w1 wx → wx.cell? ⟨w.heap.size, 4, none⟩ = some (.slice (some ⟨g, o, none⟩) n cap) ∧ wx.cell? ⟨g, o + k * 2 + 1, none⟩ = some (.int .i64 (T (2 * k + 1)))) := Lib.hid fun wx h => by
            refine ⟨(HB1.out.old h).cell4.1, ?_⟩
            obtain ⟨g', o', he, _, hcc'⟩ := two_cells (HT1.out.old h) (by omega)
            have he' : g = g' ∧ o = o' := by injection he with he; injection he with e1 e2; exact ⟨e1, e2⟩
            obtain ⟨rfl, rfl⟩ := he'
            exact (hcc' k hlt).2
          clear hT hcc hlen hs t2 tv
          generalize T (2 * k) = x at *
          generalize T (2 * k + 1) = y at *
          go_wp2_with fail
          refine HP.out.mono ?_
          rintro e w5 ⟨rfl, h5⟩
          obtain ⟨d0, d1⟩ := HC.out _ h5.2
          have H5 := Lib.hid h5
          clear h5 HP HC
          go_wp2_with fail
          refine (HQ.out _ H5.out).mono ?_
          rintro e w6 ⟨rfl, h6⟩
          have HS := Lib.hid h6
          clear h6 HQ H5 d1
          go_wp2_with fail
          go_roundw
          case rel => exact ⟨k + 1, by omega, by go_num, HS⟩
          case measure => simp [intOf]; omega
        · obtain rfl : k = n := by omega
          rw [← encS_zero] at hs
          have HS := hs
          clear hs hlt hk
          go_wp2_with fail
          go_loopw [8] (fun i wr => ∃ j : Nat, j ≤ 4 ∧ i = .int .i64 j ∧ Hid (BySt w1 bw (encS F k T j) wr)) (fun i _ => 4 - (intOf i).toNat)
          case atStart => exact ⟨0, by omega, rfl, HS⟩
          case round =>
            obtain ⟨j, hj, rfl, hs⟩ := hrel
            obtain ⟨wp, rfl⟩ : ∃ V, V = wr := ⟨_, rfl⟩
            clear HS c4
            by_cases hlt : j < 4
            · have i1 : (0 : Int) ≤ j := by omega
              have i2 : (j : Int) < 4 := by omega
              obtain ⟨s0, s1⟩ := HF.out.hs j hlt
              obtain ⟨v0, v1⟩ := HF.out.hw j hlt
              have hlen := encS_len F k T j
              have HP := Lib.hid (Put_ok hs.out (F (5 + j)) 5 (by omega) s0 (by omega) (valid_low _ 5 23 (by omega) (by omega) s0 s1 (by decide)))
              have HQ := Lib.hid (fun wx (h : BySt w1 bw (encS F k T j ++ bitsI (F (5 + j)) 5) wx) => Put_ok h (F (9 + j)) 5 (by rw [List.length_append, len_bitsI, hlen]; show 12 + 28 * k + 10 * j + 5 ≤ _; omega) v0 (by omega) (valid_low _ 5 24 (by omega) (by omega) v0 v1 (by decide)))
              rw [← encS_succ] at HQ
              have HC := Lib.hid (fun (wx : World) (h : Old w1 wx) => ((HB1.out.old h).cell (9 + j) (by omega) (by omega)).1)
              have hc := ((HB1.out.old hs.out.2).cell (5 + j) (by omega) (by omega)).1
              clear hs hlen
              generalize F (5 + j) = x at *
              generalize F (9 + j) = y at *
              go_wp2_with fail
              refine HP.out.mono ?_
              rintro e w5 ⟨rfl, h5⟩
              have d1 := HC.out _ h5.2
              have H5 := Lib.hid h5
              clear h5 HP HC hc
              go_wp2_with fail
              refine (HQ.out _ H5.out).mono ?_
              rintro e w6 ⟨rfl, h6⟩
              have HS := Lib.hid h6
              clear h6 HQ H5 d1
              go_wp2_with fail
              go_roundw
              case rel => exact ⟨j + 1, by omega, by go_num, HS⟩
              case measure => simp [intOf]; omega
            · obtain rfl : j = 4 := by omega
              rw [← encQ_zero] at hs
              have HS := hs
              clear hs hlt hj
              go_wp2_with fail
              try rw [show ((4 : Nat) : Int) = 4 from rfl]
              go_loopw [9] (fun i wr => ∃ j : Nat, j ≤ 16 ∧ i = .int .i64 j ∧ Hid (BySt w1 bw (encQ F k T j) wr)) (fun i _ => 16 - (intOf i).toNat)
              case atStart => exact ⟨0, by omega, rfl, HS⟩
              case round =>
                obtain ⟨j, hj, rfl, hs⟩ := hrel
                obtain ⟨wq, rfl⟩ : ∃ V, V = wr := ⟨_, rfl⟩
                clear HS
                by_cases hlt : j < 16
                · have i1 : (0 : Int) ≤ j := by omega
                  have i2 : (j : Int) < 16 := by omega
                  obtain ⟨m, hm⟩ : ∃ m, j / 4 = m := ⟨_, rfl⟩
                  have m0 : (0 : Int) ≤ m := by omega
                  have m1 : (m : Int) < 4 := by omega
                  obtain ⟨q1, q2⟩ := quarter_q j m hlt hm
                  have Hq1 := Lib.hid q1
                  have Hq2 := Lib.hid q2
                  clear q1 q2
                  have hq := HF.out.hq j hlt
                  obtain ⟨v0, v1⟩ := HF.out.hw m (by omega)
                  have hlen := encQ_len F k T j HF.out.hw hj
                  have hqs := encQ_succ F k T j
                  rw [hm] at hq hqs
                  obtain ⟨tv, tb0, tb1⟩ := valid_fit _ _ v0 v1 hq
                  have HP := Lib.hid (Signed_ok (hs.out.old (Old.refl _).drew) (F (13 + j)) (F (9 + m)) (by omega) (by omega) (by omega) tv)
                  rw [← hqs] at HP
                  have hc := ((HB1.out.old hs.out.2).cell (9 + m) (by omega) (by omega)).1
                  have hc2 := ((HB1.out.old hs.out.2).cell (13 + j) (by omega) (by omega)).1
                  clear hs hlen hqs hq tv hm
                  generalize F (13 + j) = x at *
                  generalize F (9 + m) = y at *
                  have q1 := Hq1.out
                  have q2 := Hq2.out
                  go_wp2_with fail
                  go_still_tail 10, (by kernel_rfl)
                  repeat still_step
                  change wpList _ _ _ _ _ wq.drew
                  go_wp2_with fail
                  refine HP.out.mono ?_
                  rintro e w6 ⟨rfl, h6⟩
                  have HS := Lib.hid h6
                  clear h6 HP hc hc2
                  go_wp2_with fail
                  go_roundw
                  case rel => exact ⟨j + 1, by omega, by go_num, HS⟩
                  case measure => simp [intOf]; omega
                · obtain rfl : j = 16 := by omega
                  have HE := Lib.hid (WBytes_any hs.out N)
                  clear hs hlt hj HF HT1 HB1
                  go_wp2_with fail
                  refine HE.out.mono ?_
                  rintro e w7 ⟨h7, hh⟩
                  have H7 := Lib.hid (HO1.out.trans h7)
                  have hsz := HO1.out.size
                  have HSZ := Lib.hid hsz
                  clear hsz
                  rcases hh with ⟨h0, rfl⟩ | ⟨h0, gg, rfl, hge, hgb⟩
                  · exact absurd HE0.out h0
                  · have HG := Lib.hid hgb
                    have HGe := Lib.hid hge
                    clear h0 h7 HE hgb hge HE0
                    go_wp2_with fail
                    go_ret
                    exact ⟨H7.out, gg, rfl, Nat.le_trans HSZ.out HGe.out, HG.out⟩
end Go.Proofs.Ytdiahlhfoplmjaa
