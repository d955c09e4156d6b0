/- A frame as bytes: contract of frame.Bytes. -/
import Derived.Test.YtcepfbflgngmjaaEncL
namespace Go.Proofs.Ytcepfbflgngmjaa
set_option linter.unusedVariables false
set_option maxRecDepth 100000
open Go.RowKit Go.ChangeShapes Go.WideShapes

theorem FrB.blk {t : TypeId} {w : World} {b : Nat} {F : Nat → Int} {s : Value} (h : FrB t w b F s) : w.heap[b]? = some (.cells (rowN 29 (frC F s)) t (0, 0)) := h
/-- What a writer's bytes L, up to so many, are: an error's number, or a new row. -/
def bytesR (w : World) (L : List Bool) (size : Int) (e : Ending) (w' : World) : Prop :=
  Old w w' ∧ ((bytesErr L 0 size ≠ 0 ∧ e = .returned (.tuple #[.slice none 0 0, .int .i64 (bytesErr L 0 size)])) ∨ (bytesErr L 0 size = 0 ∧ ∃ g, e = .returned (.tuple #[.slice (some ⟨g, 0, none⟩) size.toNat size.toNat, .int .i64 0]) ∧ w.heap.size ≤ g ∧ w'.heap[g]? = some (.cells ((padded L size.toNat).map (Value.int .u8)).toArray 5 (0, 0))))
theorem WBytes_any {w wr : World} {bw : Nat} {L : List Bool} (h : BySt w bw L wr) (size : Int) :
    Calls Try.prog 38 #[.pointer (some ⟨bw, 0, none⟩), .int .i64 size] wr (bytesR w L size) := by
  have hs := h.2.size
  by_cases he : bytesErr L 0 size = 0
  · have h0 : 0 ≤ size ∧ size ≤ 2147483647 ∧ (nb L : Int) ≤ size := by
      unfold bytesErr at he
      rw [if_neg (by simp)] at he
      split at he
      · omega
      · split at he <;> omega
    obtain ⟨N, rfl⟩ := Int.eq_ofNat_of_zero_le h0.1
    refine (Bytes_ok _ bw L N wr h.1 (by omega) (by omega)).mono ?_
    rintro e w' ⟨rfl, h2, h3⟩
    refine ⟨h.2.trans (Old.below h3), .inr ⟨he, wr.heap.size, rfl, hs, ?_⟩⟩
    simpa using h2
  · refine (Bytes_err _ bw L 0 size wr h.1 he).mono ?_
    rintro e w' ⟨rfl, h2⟩
    exact ⟨h.2.alike h2, .inl ⟨he, rfl⟩⟩

set_option maxRecDepth 100000 in
set_option maxHeartbeats 4000000 in
theorem FBytes_no (F : Nat → Int) (p : Option Addr) (n cap : Nat) (T : Nat → Int) (size : Int) (w : World) (hT : SlF 2 w p n T) (hf : Fits64 T) (hn : n ≤ cap) (hc : cap ≤ maxLen) (hF : ¬ FrP F n T) :
    Calls Try.prog 17 #[.agg (rowN 29 (frC F (.slice p n cap))), .int .i64 size] w fun e w' => e = .returned (.tuple #[.slice none 0 0, .int .i64 4]) ∧ Old w w' := by
  have Hs29 : Hid ((Try.prog.info? 29).map (·.size) = some 29) := Lib.hid (by kernel_rfl)
  have HB : Hid (FrB 29 (w.alloc (.cells (rowN 29 (frC F (.slice p n cap))) 29)) w.heap.size F (.slice p n cap)) := Lib.hid (FrB.new w F _)
  have HO : Hid (Old w (w.alloc (.cells (rowN 29 (frC F (.slice p n cap))) 29))) := Lib.hid (Old.alloc _ _)
  have hr := FRight_any F p n cap T _ (hT.old HO.out) hf hn hc
  rw [decide_eq_false hF] at hr
  have HR := Lib.hid hr
  clear hr hT hf hF
  go_enter Try.func17, Try.ntmps17
  go_wp2_with (with_reducible refine wpList_load_row rfl 29 _ rfl w.heap.size rfl 29 (rowN 29 (frC F (.slice p n cap))) (0, 0) _ HB.out.blk Try.underlying29 rfl (by rw [rowN_size]; exact Hs29.out) ?_)
  refine HR.out.mono ?_
  rintro e w1 ⟨rfl, ho⟩
  have HO1 := Lib.hid (HO.out.trans ho)
  clear ho
  go_wp2_with fail
  go_ret2
  exact ⟨rfl, HO1.out⟩

set_option maxRecDepth 100000 in
set_option maxHeartbeats 4000000 in
theorem FBytes_yes (F : Nat → Int) (p : Option Addr) (n cap : Nat) (T : Nat → Int) (size : Int) (w : World) (hT : SlF 2 w p n T) (hf : Fits64 T) (hn : n ≤ cap) (hc : cap ≤ maxLen) (hF : FrP F n T) :
    Calls Try.prog 17 #[.agg (rowN 29 (frC F (.slice p n cap))), .int .i64 size] w (bytesR w (enc F n T) size) := by
  have Hs29 : Hid ((Try.prog.info? 29).map (·.size) = some 29) := Lib.hid (by kernel_rfl)
  have Hs4 : Hid ((Try.prog.info? 24).map (·.size) = some 4) := Lib.hid (by kernel_rfl)
  have Hs16 : Hid ((Try.prog.info? 23).map (·.size) = some 16) := Lib.hid (by kernel_rfl)
  have HB : Hid (FrB 29 (w.alloc (.cells (rowN 29 (frC F (.slice p n cap))) 29)) w.heap.size F (.slice p n cap)) := Lib.hid (FrB.new w F _)
  have HO : Hid (Old w (w.alloc (.cells (rowN 29 (frC F (.slice p n cap))) 29))) := Lib.hid (Old.alloc _ _)
  have hr := FRight_any F p n cap T _ (hT.old HO.out) hf hn hc
  rw [decide_eq_true hF] at hr
  have HR := Lib.hid hr
  have HT := Lib.hid hT
  have HF := Lib.hid hF
  have n2 := hF.hn
  clear hr hT hf hF
  go_enter Try.func17, Try.ntmps17
  go_wp2_with (with_reducible refine wpList_load_row rfl 29 _ rfl w.heap.size rfl 29 (rowN 29 (frC F (.slice p n cap))) (0, 0) _ HB.out.blk Try.underlying29 rfl (by rw [rowN_size]; exact Hs29.out) ?_)
  refine HR.out.mono ?_
  rintro e w1 ⟨rfl, ho⟩
  have HB1 := Lib.hid (HB.out.old ho)
  have HO1 := Lib.hid (HO.out.trans ho)
  have HT1 := Lib.hid (HT.out.old HO1.out)
  clear ho HB HO HR HT
  obtain ⟨bw, hbw⟩ : ∃ bw, bw = w1.heap.size := ⟨_, rfl⟩
  have hst := BySt.fresh w1
  obtain ⟨W2, hW2⟩ : ∃ W2, W2 = w1.alloc (.cells #[.slice none 0 0, .int .i64 0, .int .i64 0] 66) := ⟨_, rfl⟩
  rw [← hW2, ← hbw] at hst
  have HP := Lib.hid (Put_ok hst 1 2 (by simp) (by omega) (by omega) (valid_low 1 2 1 (by omega) (by omega) (by omega) (by omega) (by decide)))
  have HW2 := Lib.hid hW2
  have Hbw := Lib.hid hbw
  clear hst hW2 hbw
  go_wp2_with fail
  rw [← HW2.out, ← Hbw.out]
  refine HP.out.mono ?_
  rintro e w3 ⟨rfl, hs⟩
  rw [List.nil_append, ← encG_zero F] at hs
  have HS := Lib.hid hs
  have HB3 := Lib.hid (HB1.out.old hs.2)
  clear hs HP HW2 Hbw
  go_wp2_with (with_reducible refine wpList_load_blk rfl 4 F 24 _ rfl w.heap.size 0 rfl _ (fun j hj => by have := HB3.out.part 0 4 (by omega) j hj; rwa [Nat.zero_add] at this ⊢) Try.underlying24 rfl Hs4.out ?_)
  go_loopw [21] (fun i wr => ∃ k : Nat, k ≤ 4 ∧ i = .int .i64 k ∧ Hid (BySt w1 bw (encG F k) wr)) (fun i _ => 4 - (intOf i).toNat)
  case atStart => exact ⟨0, by omega, rfl, HS⟩
  case round =>
    obtain ⟨k, hk, rfl, hs⟩ := hrel
    clear HS HB3
    by_cases hlt : k < 4
    · have i1 : (0 : Int) ≤ k := by omega
      have i2 : (k : Int) < 4 := by omega
      have hat : ∀ w : World, (Instr.index 24 (.agg (rowN 4 (blk F))) (.int .i64 k)).run Try.prog w = .ok (.int .i64 (F k)) w := fun w => run_index_ints Try.underlying24 Try.underlying3 (fun _ => by kernel_rfl) F k hlt w
      obtain ⟨g0, g1⟩ := HF.out.hg k hlt
      have HP := Lib.hid (Put_ok hs.out (F k) 2 (by rw [encG_len]; omega) g0 (by omega) (valid_low _ 2 3 (by omega) (by omega) g0 g1 (by decide)))
      rw [← encG_succ] at HP
      clear hs
      generalize F k = x at *
      go_wp2_with fail
      refine HP.out.mono ?_
      rintro e w4 ⟨rfl, hs⟩
      have HS := Lib.hid hs
      clear hs HP
      go_wp2_with fail
      go_roundw
      case rel => exact ⟨k + 1, by omega, by go_num, HS⟩
      case measure => simp [intOf]; omega
    · obtain rfl : k = 4 := by omega
      have HB4 := Lib.hid (HB1.out.old hs.out.2)
      have c4 := HB4.out.cell4.1
      have HP := Lib.hid (Put_ok hs.out n 2 (by rw [encG_len]; omega) (by omega) (by omega) (valid_low _ 2 2 (by omega) (by omega) (by omega) (by omega) (by decide)))
      clear hs hlt hk
      go_wp2_with fail
      refine HP.out.mono ?_
      rintro e w4 ⟨rfl, hs⟩
      rw [show encG F 4 ++ bitsI n 2 = encN F n from rfl, ← encT_zero F n T] at hs
      have HS := Lib.hid hs
      have c4 := (HB1.out.old hs.2).cell4.1
      clear hs HP HB4
      go_wp2_with fail
      try rw [show ((4 : Nat) : Int) = 4 from rfl]
      go_loopw [36] (fun i wr => ∃ k : Nat, k ≤ n ∧ i = .int .i64 k ∧ Hid (BySt w1 bw (encT F n T k) wr)) (fun i _ => n - (intOf i).toNat)
      case atStart => exact ⟨0, by omega, rfl, HS⟩
      case round =>
        obtain ⟨k, hk, rfl, hs⟩ := hrel
        obtain ⟨wo, rfl⟩ : ∃ V, V = wr := ⟨_, rfl⟩
        clear HS c4
        by_cases hlt : k < n
        · have i1 : (0 : Int) ≤ k := by omega
          have hT := HT1.out.old hs.out.2
          obtain ⟨g, o, rfl, hg, hcc⟩ := two_cells hT (by omega)
          obtain ⟨a0, a1⟩ := hcc k hlt
          obtain ⟨t0, t1, t2, _⟩ := HF.out.ht k hlt
          obtain ⟨tv, tb0, tb1⟩ := valid_fit _ 24 (by omega) (by omega) t2
          have hlen := encT_len F n T k
          have hgd := hs.out.guard (.cells #[.int .i64 (T (2 * k)), .int .i64 (T (2 * k + 1))] 61)
          have HP := Lib.hid (put_X hgd (T (2 * k)) 4 (by omega) t0 (by omega) (valid_low _ 4 15 (by omega) (by omega) t0 t1 (by decide)))
          have HQ := Lib.hid (fun wx (h : WrAt wx (fun q => q < w1.heap.size ∨ q = wo.heap.size) bw (encT F n T k ++ bitsI (T (2 * k)) 4) 0) => sgn_X h (T (2 * k + 1)) 24 (by rw [List.length_append, len_bitsI, hlen]; show 12 + 28 * k + 4 ≤ _; omega) (by omega) (by omega) tv)
          rw [← encT_succ] at HQ
          have HBk := Lib.hid (fun (wx : World) (h2 : WrAt wx (fun q => q < w1.heap.size ∨ q = wo.heap.size) bw (encT F n T (k + 1)) 0) (h3 : Kept (fun q => q < w1.heap.size ∨ q = wo.heap.size) (wo.alloc (.cells #[.int .i64 (T (2 * k)), .int .i64 (T (2 * k + 1))] 61)) wx) => hs.out.back h2 h3)
          have hnew : (wo.alloc (.cells #[.int .i64 (T (2 * k)), .int .i64 (T (2 * k + 1))] 61)).cell? ⟨wo.heap.size, 1, none⟩ = some (.int .i64 (T (2 * k + 1))) := by rw [World.cell?_alloc_at _ _ _ _ rfl]; rfl
          have HNw := Lib.hid hnew
          clear hT hcc hgd hlen hs t2 tv hnew
          generalize T (2 * k) = x at *
          generalize T (2 * k + 1) = y at *
          go_wp2_with fail
          refine HP.out.mono ?_
          rintro e w5 ⟨rfl, h5, k5⟩
          have d1 := (k5.cell (a := ⟨wo.heap.size, 1, none⟩) (Or.inr rfl)).trans HNw.out
          have H5 := Lib.hid h5
          have K5 := Lib.hid k5
          clear h5 k5 HP HNw
          go_wp2_with fail
          refine (HQ.out _ H5.out).mono ?_
          rintro e w6 ⟨rfl, h6, k6⟩
          have HS := Lib.hid (HBk.out _ h6 (K5.out.trans k6))
          clear h6 k6 HQ HBk H5 K5 d1
          go_wp2_with fail
          go_roundw
          case rel => exact ⟨k + 1, by omega, by go_num, HS⟩
          case measure => simp [intOf]; omega
        · obtain rfl : k = n := by omega
          have HB4 := Lib.hid (HB1.out.old hs.out.2)
          rw [← encS_zero] at hs
          have HS := hs
          clear hs hlt hk
          go_wp2_with (with_reducible refine wpList_load_blk rfl 4 (fun j => F (5 + j)) 24 _ rfl w.heap.size 5 rfl _ (HB4.out.part 5 4 (by omega)) Try.underlying24 rfl Hs4.out ?_)
          go_loopw [50] (fun i wr => ∃ j : Nat, j ≤ 4 ∧ i = .int .i64 j ∧ Hid (BySt w1 bw (encS F k T j) wr)) (fun i _ => 4 - (intOf i).toNat)
          case atStart => exact ⟨0, by omega, rfl, HS⟩
          case round =>
            obtain ⟨j, hj, rfl, hs⟩ := hrel
            obtain ⟨wp, rfl⟩ : ∃ V, V = wr := ⟨_, rfl⟩
            clear HS HB4
            by_cases hlt : j < 4
            · have i1 : (0 : Int) ≤ j := by omega
              have i2 : (j : Int) < 4 := by omega
              have hat : ∀ w : World, (Instr.index 24 (.agg (rowN 4 (blk fun q => F (5 + q)))) (.int .i64 j)).run Try.prog w = .ok (.int .i64 (F (5 + j))) w := fun w => run_index_ints Try.underlying24 Try.underlying3 (fun _ => by kernel_rfl) (fun q => F (5 + q)) j hlt w
              obtain ⟨s0, s1⟩ := HF.out.hs j hlt
              obtain ⟨v0, v1⟩ := HF.out.hw j hlt
              have hlen := encS_len F k T j
              have HP := Lib.hid (Put_ok hs.out (F (5 + j)) 5 (by omega) s0 (by omega) (valid_low _ 5 23 (by omega) (by omega) s0 s1 (by decide)))
              have HQ := Lib.hid (fun wx (h : BySt w1 bw (encS F k T j ++ bitsI (F (5 + j)) 5) wx) => Put_ok h (F (9 + j)) 5 (by rw [List.length_append, len_bitsI, hlen]; show 12 + 28 * k + 10 * j + 5 ≤ _; omega) v0 (by omega) (valid_low _ 5 24 (by omega) (by omega) v0 v1 (by decide)))
              rw [← encS_succ] at HQ
              have HC := Lib.hid (fun (wx : World) (h : Old w1 wx) => ((HB1.out.old h).cell (9 + j) (by omega) (by omega)).1)
              clear hs hlen
              generalize F (5 + j) = x at *
              generalize F (9 + j) = y at *
              go_wp2_with fail
              refine HP.out.mono ?_
              rintro e w5 ⟨rfl, h5⟩
              have d1 := HC.out _ h5.2
              have H5 := Lib.hid h5
              clear h5 HP HC
              go_wp2_with fail
              refine (HQ.out _ H5.out).mono ?_
              rintro e w6 ⟨rfl, h6⟩
              have HS := Lib.hid h6
              clear h6 HQ H5 d1
              go_wp2_with fail
              go_roundw
              case rel => exact ⟨j + 1, by omega, by go_num, HS⟩
              case measure => simp [intOf]; omega
            · obtain rfl : j = 4 := by omega
              have HB5 := Lib.hid (HB1.out.old hs.out.2)
              rw [← encQ_zero] at hs
              have HS := hs
              clear hs hlt hj
              go_wp2_with (with_reducible refine wpList_load_blk rfl 16 (fun j => F (13 + j)) 23 _ rfl w.heap.size 13 rfl _ (HB5.out.part 13 16 (by omega)) Try.underlying23 rfl Hs16.out ?_)
              try rw [show ((4 : Nat) : Int) = 4 from rfl]
              go_loopw [66] (fun i wr => ∃ j : Nat, j ≤ 16 ∧ i = .int .i64 j ∧ Hid (BySt w1 bw (encQ F k T j) wr)) (fun i _ => 16 - (intOf i).toNat)
              case atStart => exact ⟨0, by omega, rfl, HS⟩
              case round =>
                obtain ⟨j, hj, rfl, hs⟩ := hrel
                obtain ⟨wq, rfl⟩ : ∃ V, V = wr := ⟨_, rfl⟩
                clear HS HB5
                by_cases hlt : j < 16
                · have i1 : (0 : Int) ≤ j := by omega
                  have i2 : (j : Int) < 16 := by omega
                  have hat : ∀ w : World, (Instr.index 23 (.agg (rowN 16 (blk fun q => F (13 + q)))) (.int .i64 j)).run Try.prog w = .ok (.int .i64 (F (13 + j))) w := fun w => run_index_ints Try.underlying23 Try.underlying2 (fun _ => by kernel_rfl) (fun q => F (13 + q)) j hlt w
                  obtain ⟨m, hm⟩ : ∃ m, j / 4 = m := ⟨_, rfl⟩
                  have m0 : (0 : Int) ≤ m := by omega
                  have m1 : (m : Int) < 4 := by omega
                  have HBd := Lib.hid (fun w => Band_nat j m w hlt hm)
                  have hq := HF.out.hq j hlt
                  obtain ⟨v0, v1⟩ := HF.out.hw m (by omega)
                  have hlen := encQ_len F k T j HF.out.hw hj
                  have hqs := encQ_succ F k T j
                  rw [hm] at hq hqs
                  obtain ⟨tv, tb0, tb1⟩ := valid_fit _ _ v0 v1 hq
                  have HP := Lib.hid (Signed_ok hs.out (F (13 + j)) (F (9 + m)) (by omega) (by omega) (by omega) tv)
                  rw [← hqs] at HP
                  have hc := ((HB1.out.old hs.out.2).cell (9 + m) (by omega) (by omega)).1
                  clear hs hlen hqs hq tv hm
                  generalize F (13 + j) = x at *
                  generalize F (9 + m) = y at *
                  go_wp2_with fail
                  refine (HBd.out _).mono ?_
                  rintro e w5 ⟨rfl, rfl⟩
                  go_wp2_with fail
                  refine HP.out.mono ?_
                  rintro e w6 ⟨rfl, h6⟩
                  have HS := Lib.hid h6
                  clear h6 HP HBd hc
                  go_wp2_with fail
                  go_roundw
                  case rel => exact ⟨j + 1, by omega, by go_num, HS⟩
                  case measure => simp [intOf]; omega
                · obtain rfl : j = 16 := by omega
                  have HE := Lib.hid (WBytes_any hs.out size)
                  clear hs hlt hj HF HT1 HB1
                  go_wp2_with fail
                  refine HE.out.mono ?_
                  rintro e w7 ⟨h7, hh⟩
                  have H7 := Lib.hid (HO1.out.trans h7)
                  have hsz := HO1.out.size
                  have HSZ := Lib.hid hsz
                  clear hsz
                  rcases hh with ⟨h0, rfl⟩ | ⟨h0, gg, rfl, hge, hgb⟩
                  · have H0 := Lib.hid h0
                    clear h0 h7 HE
                    go_wp2_with fail
                    go_ret2
                    exact ⟨H7.out, .inl ⟨H0.out, rfl⟩⟩
                  · have H0 := Lib.hid h0
                    have HG := Lib.hid hgb
                    have HGe := Lib.hid hge
                    clear h0 h7 HE hgb hge
                    go_wp2_with fail
                    go_ret2
                    exact ⟨H7.out, .inr ⟨H0.out, gg, rfl, Nat.le_trans HSZ.out HGe.out, HG.out⟩⟩
end Go.Proofs.Ytcepfbflgngmjaa
