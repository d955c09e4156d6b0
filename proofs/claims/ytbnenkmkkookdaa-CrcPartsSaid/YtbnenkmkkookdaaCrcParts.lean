/- CrcParts: bytes' sum and length are one in whatever parts they are written, and Parts tells the same sum (2.1 to 2.3: up to 20 parts of up to 200 bytes); and the chapter's example holds. No condition. -/
import Derived.Test.YtbnenkmkkookdaaRows
import Derived.Test.YtbnenkmkkookdaaPartsRel
import Derived.Test.YtbnenkmkkookdaaRowsArg
namespace Go.Proofs.Ytbnenkmkkookdaa.crcParts
open Go.ChangeShapes Go.WideShapes Go.ChangeAt Go.RowKit
set_option linter.unusedVariables false

theorem one_val {u : Value} (h : u.oneCell' = true) : ∀ x ∈ [u], x.oneCell' = true := by
  intro x hx
  simp only [List.mem_singleton] at hx
  subst hx
  exact h

set_option maxRecDepth 100000 in
set_option maxHeartbeats 1000000 in
theorem walk (v : Value) (xss : List (List Int)) (w : World) (hs : SlR w v xss) (hb : BytesR xss) :
    Calls Try.prog 5 #[v] w fun e w' => e = .returned (.bool true) ∧ Old w w' := by
  obtain ⟨p, n, cap, rfl, hl, hn, hc⟩ := hs.shape
  have HC := Lib.hid hc
  have HL := Lib.hid hl
  obtain ⟨ir, hir, hr0, hr1, hr2⟩ := info_parts Try.infoR
  obtain ⟨ib, hib, hb0, hb1, hb2⟩ := info_parts Try.infoB
  clear hs hc hl
  go_enter Try.func5, Try.ntmps5
  go_wp2_with fail
  refine (New_any w).mono ?_
  rintro e w0 ⟨rfl, hs0, ho0⟩
  have HP0 := Lib.hid (PS.start hs0 ho0 (Nat.le_refl _))
  clear hs0 ho0
  obtain ⟨bs, hbs⟩ : ∃ bs, bs = w.heap.size := ⟨_, rfl⟩
  rw [← hbs] at HP0 ⊢
  clear hbs
  go_wp2_with fail
  go_loopw [4, 5, 6] (fun v4 v5 i wr => ∃ (k : Nat) (vals : List Value), k ≤ n ∧ k ≤ 20 ∧ i = .int .i64 k ∧ Hid (PS w bs (cutR xss k).flatten (cutR xss k).flatten vals v4 v5 wr) ∧ Hid (ValsR w vals (cutR xss k))) (fun _ _ i _ => n - (intOf i).toNat)
  case atStart => exact ⟨0, [], by omega, by omega, rfl, HP0, ⟨rfl, fun j u hj => by cases hj⟩⟩
  case round =>
    obtain ⟨k, vals, hk, hk20, rfl, HP, HV⟩ := hrel
    clear HP0
    by_cases hgo : k < n ∧ k < 20
    · obtain ⟨hlt, hlt20⟩ := hgo
      obtain ⟨b, off, rfl, hblt, hcc⟩ := HC.out (by omega)
      obtain ⟨q, m, c, hc1, hsi, hm⟩ := hcc k hlt
      have HSI := Lib.hid hsi
      have hcr : wr.cell? ⟨b, off + k, none⟩ = some (.slice q m c) := (HP.out.old.cell (a := ⟨b, off + k, none⟩) hblt).trans hc1
      clear hc1 hsi hcc HC
      obtain ⟨F, hF⟩ : ∃ F, F = (cutR xss k).flatten := ⟨_, rfl⟩
      have hFb : ∀ x ∈ F, 0 ≤ x ∧ x ≤ 255 := by rw [hF]; exact flat_bytes (cutR_bytes hb k)
      have hFl : F.length ≤ 4000 := by rw [hF]; have := cutR_flat xss k; omega
      have HK : Hid (k < 20 ∧ (cutR xss k).length = k) := ⟨hlt20, cutR_length xss k (by have := HL.out; omega)⟩
      have HS := Lib.hid (cutR_succ xss k (by have := HL.out; omega))
      rw [← hF] at HP
      obtain ⟨Y, hY⟩ : ∃ Y, Y = (xss.getD k []).take 200 := ⟨_, rfl⟩
      rw [← hY] at HS
      have hYb : ∀ x ∈ Y, 0 ≤ x ∧ x ≤ 255 := by rw [hY]; exact take_byte (hb.getD k) _
      have HF := Lib.hid hF
      have hml := HSI.out.cellAt.1
      clear hF
      by_cases h200 : 200 < m
      · obtain ⟨by0, oy0, hq0, _, hmc, hcm, _⟩ := HSI.out.cellAt.2 (by omega)
        unfold maxLen at hcm
        have HY : Hid (SlI w .u8 (.slice q 200 c) Y) := by rw [hY]; exact HSI.out.take (by omega)
        have hYl : Y.length = 200 := by rw [hY, List.length_take]; omega
        have HYl := Lib.hid hYl
        have hYl' : Y.length ≤ 200 := by omega
        clear hY hml HSI hYl hq0
        have hp := HP.out
        have hwr := HY.out.old hp.old
        have cW := Lib.hid (Write_st bs F Y (.slice q 200 c) wr hp.st hFb hwr hYb (by omega))
        clear hp hwr
        go_wp2_with fail
        refine cW.out.mono ?_
        rintro e w1 ⟨rfl, hs1, hk1⟩
        have HP1a := Lib.hid ((HP.out.wrote hs1 hk1).next (Old.alloc w1 (.cells #[.slice q 200 c] 22)))
        clear hs1 hk1 cW HP hcr
        go_wp2_with (at_builtin; refine append_X _ rfl _ _ 31 rfl (X1 w bs u4) 22 ir (.slice none 0 0) 24 Try.underlying31 hir hr0 hr1 hr2 rfl _ _ _ rfl HP1a.out.ownP ⟨w1.heap.size, 0, none⟩ 1 1 [.slice q 200 c] rfl rfl (news_one w1 _ _) (one_val rfl) (by have := HV.out.1; have := HK.out; unfold maxLen; omega) (by have := HV.out.1; have := HK.out; omega) HP1a.out.x1a ?_; intro v5' w2 hown2 hk2 _; have HP2 := Lib.hid (HP1a.out.addP hown2 hk2); have HV2 := Lib.hid (HV.out.snoc HY.out); clear hown2 hk2 HP1a HV)
        generalize vals ++ [.slice q 200 c] = vals' at *
        obtain ⟨wo, rfl⟩ : ∃ wo : World, wo = w2 := ⟨_, rfl⟩
        have HQ0 : Hid (PS w bs (F ++ Y) (F ++ Y.take 0) vals' u4 v5' wo) := by rw [List.take_zero, List.append_nil]; exact HP2.out
        clear HP2
        go_loopw [4, 8] (fun va vi wr => ∃ j : Nat, j ≤ 200 ∧ vi = .int .i64 j ∧ Hid (PS w bs (F ++ Y) (F ++ Y.take j) vals' va v5' wr)) (fun _ vi _ => 200 - (intOf vi).toNat)
        case atStart => exact ⟨0, by omega, rfl, HQ0⟩
        case round =>
          obtain ⟨j, hj, rfl, HQ⟩ := hrel
          clear HQ0
          by_cases hjm : j < 200
          · obtain ⟨by', oy, hq', hby, _, _, hcy⟩ := HY.out.cellAt.2 (by omega)
            have hcy1 := hcy j hjm
            subst hq'
            have hcj := (HQ.out.old.cell (a := ⟨by', oy + j, none⟩) hby).trans hcy1
            have HN := Lib.hid (take_succ_getD Y j (by have := HYl.out; omega))
            obtain ⟨x, hx⟩ : ∃ x, x = Y.getD j 0 := ⟨_, rfl⟩
            rw [← hx] at hcj HN
            have HQa := Lib.hid (HQ.out.next (Old.alloc wr (.cells #[.int .u8 x] 5)))
            have hlen : Hid ((F ++ Y.take j).length ≤ 4200) := by unfold Hid; rw [List.length_append]; have := List.length_take_le j Y; omega
            clear hcy hcy1 hby hx HQ
            go_wp2_with (at_builtin; refine append_X _ rfl _ _ 22 rfl (X1 w bs v5') 5 ib (.int .u8 0) 1 Try.underlying22 hib hb0 hb1 hb2 rfl _ _ _ rfl HQa.out.ownA ⟨wr.heap.size, 0, none⟩ 1 1 [.int .u8 x] rfl rfl (news_one wr _ _) (one_val rfl) (by have := hlen.out; unfold maxLen; omega) (by have := hlen.out; omega) HQa.out.x1p ?_; intro va' w3 hown3 hk3 _; have HQ3 := Lib.hid (HQa.out.addA hown3 hk3); clear hown3 hk3 HQa hlen)
            go_roundw
            case rel => exact ⟨j + 1, by omega, by go_num, by rw [HN.out, ← List.append_assoc]; exact HQ3⟩
            case measure => simp [intOf]; omega
          · have HQe : Hid (PS w bs (F ++ Y) (F ++ Y) vals' u4 v5' wr) := by
              have := HQ
              rw [List.take_of_length_le (by have := HYl.out; omega)] at this
              exact this
            clear HQ
            have hal := own_SlI HQe.out.all
            obtain ⟨pa, na, ca, he, hna, hnl⟩ := hal.shape
            subst he
            have hbt : ∀ x ∈ F ++ Y, 0 ≤ x ∧ x ≤ 255 := fun x hx => (List.mem_append.1 hx).elim (hFb x) (hYb x)
            have c1 := Lib.hid (Sum_st bs (F ++ Y) wr HQe.out.st)
            have c2 := Lib.hid (sum_law pa na ca (F ++ Y) wr hal hbt hnl)
            have c3 := Lib.hid (Len_st bs (F ++ Y) wr HQe.out.st)
            have HQn : Hid (PS w bs (cutR xss (k + 1)).flatten (cutR xss (k + 1)).flatten vals' (.slice pa na ca) v5' wr) := by
              rw [HS.out, List.flatten_append, ← HF.out, List.flatten_singleton]; exact HQe.out
            rw [← HS.out] at HV2
            rw [← hna] at c3
            generalize sumOf (F ++ Y) = Sm at *
            clear hal hna hbt HQe
            go_wp2_with fail
            refine c1.out.mono ?_
            rintro e w' ⟨rfl, rfl⟩
            go_wp2_with fail
            refine c2.out.mono ?_
            rintro e w' ⟨rfl, rfl⟩
            go_wp2_with fail
            refine c3.out.mono ?_
            rintro e w' ⟨rfl, rfl⟩
            go_wp2
            go_roundw
            case rel => exact ⟨k + 1, vals', by omega, by omega, by go_num, HQn, HV2⟩
            case measure => simp [intOf]; omega
      · have hy' : Y = xss.getD k [] := by rw [hY]; exact List.take_of_length_le (by omega)
        have HY : Hid (SlI w .u8 (.slice q m c) Y) := by rw [hy']; exact HSI.out
        have hYl : Y.length = m := by rw [hy']; exact hml
        have HYl := Lib.hid hYl
        have hYl' : Y.length ≤ 200 := by omega
        clear hY hml HSI hy' hYl
        have hp := HP.out
        have hwr := HY.out.old hp.old
        have cW := Lib.hid (Write_st bs F Y (.slice q m c) wr hp.st hFb hwr hYb (by omega))
        clear hp hwr
        go_wp2_with fail
        refine cW.out.mono ?_
        rintro e w1 ⟨rfl, hs1, hk1⟩
        have HP1a := Lib.hid ((HP.out.wrote hs1 hk1).next (Old.alloc w1 (.cells #[.slice q m c] 22)))
        clear hs1 hk1 cW HP hcr
        go_wp2_with (at_builtin; refine append_X _ rfl _ _ 31 rfl (X1 w bs u4) 22 ir (.slice none 0 0) 24 Try.underlying31 hir hr0 hr1 hr2 rfl _ _ _ rfl HP1a.out.ownP ⟨w1.heap.size, 0, none⟩ 1 1 [.slice q m c] rfl rfl (news_one w1 _ _) (one_val rfl) (by have := HV.out.1; have := HK.out; unfold maxLen; omega) (by have := HV.out.1; have := HK.out; omega) HP1a.out.x1a ?_; intro v5' w2 hown2 hk2 _; have HP2 := Lib.hid (HP1a.out.addP hown2 hk2); have HV2 := Lib.hid (HV.out.snoc HY.out); clear hown2 hk2 HP1a HV)
        generalize vals ++ [.slice q m c] = vals' at *
        obtain ⟨wo, rfl⟩ : ∃ wo : World, wo = w2 := ⟨_, rfl⟩
        have HQ0 : Hid (PS w bs (F ++ Y) (F ++ Y.take 0) vals' u4 v5' wo) := by rw [List.take_zero, List.append_nil]; exact HP2.out
        clear HP2
        go_loopw [4, 8] (fun va vi wr => ∃ j : Nat, j ≤ m ∧ vi = .int .i64 j ∧ Hid (PS w bs (F ++ Y) (F ++ Y.take j) vals' va v5' wr)) (fun _ vi _ => m - (intOf vi).toNat)
        case atStart => exact ⟨0, by omega, rfl, HQ0⟩
        case round =>
          obtain ⟨j, hj, rfl, HQ⟩ := hrel
          clear HQ0
          by_cases hjm : j < m
          · obtain ⟨by', oy, hq', hby, _, _, hcy⟩ := HY.out.cellAt.2 (by omega)
            have hcy1 := hcy j hjm
            subst hq'
            have hcj := (HQ.out.old.cell (a := ⟨by', oy + j, none⟩) hby).trans hcy1
            have HN := Lib.hid (take_succ_getD Y j (by have := HYl.out; omega))
            obtain ⟨x, hx⟩ : ∃ x, x = Y.getD j 0 := ⟨_, rfl⟩
            rw [← hx] at hcj HN
            have HQa := Lib.hid (HQ.out.next (Old.alloc wr (.cells #[.int .u8 x] 5)))
            have hlen : Hid ((F ++ Y.take j).length ≤ 4200) := by unfold Hid; rw [List.length_append]; have := List.length_take_le j Y; omega
            clear hcy hcy1 hby hx HQ
            go_wp2_with (at_builtin; refine append_X _ rfl _ _ 22 rfl (X1 w bs v5') 5 ib (.int .u8 0) 1 Try.underlying22 hib hb0 hb1 hb2 rfl _ _ _ rfl HQa.out.ownA ⟨wr.heap.size, 0, none⟩ 1 1 [.int .u8 x] rfl rfl (news_one wr _ _) (one_val rfl) (by have := hlen.out; unfold maxLen; omega) (by have := hlen.out; omega) HQa.out.x1p ?_; intro va' w3 hown3 hk3 _; have HQ3 := Lib.hid (HQa.out.addA hown3 hk3); clear hown3 hk3 HQa hlen)
            go_roundw
            case rel => exact ⟨j + 1, by omega, by go_num, by rw [HN.out, ← List.append_assoc]; exact HQ3⟩
            case measure => simp [intOf]; omega
          · have HQe : Hid (PS w bs (F ++ Y) (F ++ Y) vals' u4 v5' wr) := by
              have := HQ
              rw [List.take_of_length_le (by have := HYl.out; omega)] at this
              exact this
            clear HQ
            have hal := own_SlI HQe.out.all
            obtain ⟨pa, na, ca, he, hna, hnl⟩ := hal.shape
            subst he
            have hbt : ∀ x ∈ F ++ Y, 0 ≤ x ∧ x ≤ 255 := fun x hx => (List.mem_append.1 hx).elim (hFb x) (hYb x)
            have c1 := Lib.hid (Sum_st bs (F ++ Y) wr HQe.out.st)
            have c2 := Lib.hid (sum_law pa na ca (F ++ Y) wr hal hbt hnl)
            have c3 := Lib.hid (Len_st bs (F ++ Y) wr HQe.out.st)
            have HQn : Hid (PS w bs (cutR xss (k + 1)).flatten (cutR xss (k + 1)).flatten vals' (.slice pa na ca) v5' wr) := by
              rw [HS.out, List.flatten_append, ← HF.out, List.flatten_singleton]; exact HQe.out
            rw [← HS.out] at HV2
            rw [← hna] at c3
            generalize sumOf (F ++ Y) = Sm at *
            clear hal hna hbt HQe
            go_wp2_with fail
            refine c1.out.mono ?_
            rintro e w' ⟨rfl, rfl⟩
            go_wp2_with fail
            refine c2.out.mono ?_
            rintro e w' ⟨rfl, rfl⟩
            go_wp2_with fail
            refine c3.out.mono ?_
            rintro e w' ⟨rfl, rfl⟩
            go_wp2
            go_roundw
            case rel => exact ⟨k + 1, vals', by omega, by omega, by go_num, HQn, HV2⟩
            case measure => simp [intOf]; omega
    · have hex : k = n ∨ k = 20 := by omega
      have HPx := Lib.hid HP.out
      have hal := own_SlI HP.out.all
      obtain ⟨pa, na, ca, he, hna, hnl⟩ := hal.shape
      subst he
      have hbt := flat_bytes (cutR_bytes hb k)
      have c1 := Lib.hid (Parts_any u5 (cutR xss k) wr (HP.out.rows HV.out.1 HV.out.2) (cutR_bytes hb k))
      have c2 := Lib.hid (fun (w' : World) (ho : Old wr w') => sum_law pa na ca _ w' (hal.old ho) hbt hnl)
      have HO := Lib.hid HP.out.old
      generalize sumOf (cutR xss k).flatten = Sm at *
      clear hal hna hbt HPx HV HP HC
      by_cases hkn : k < n
      · have hk2 : ¬ k < 20 := by omega
        clear hgo hex
        go_wp2_with fail
        refine c1.out.mono ?_
        rintro e w1 ⟨rfl, ho1⟩
        have H1 := Lib.hid ho1
        clear ho1
        go_wp2_with fail
        refine (c2.out _ H1.out).mono ?_
        rintro e w' ⟨rfl, rfl⟩
        go_wp2_with fail
        refine (awake_any _).mono ?_
        rintro e w2 ⟨rfl, ho2⟩
        have H2 := Lib.hid ho2
        clear ho2
        go_wp2
        go_ret
        exact ⟨rfl, (HO.out.trans H1.out).trans H2.out⟩
      · clear hgo hex
        go_wp2_with fail
        refine c1.out.mono ?_
        rintro e w1 ⟨rfl, ho1⟩
        have H1 := Lib.hid ho1
        clear ho1
        go_wp2_with fail
        refine (c2.out _ H1.out).mono ?_
        rintro e w' ⟨rfl, rfl⟩
        go_wp2_with fail
        refine (awake_any _).mono ?_
        rintro e w2 ⟨rfl, ho2⟩
        have H2 := Lib.hid ho2
        clear ho2
        go_wp2
        go_ret
        exact ⟨rfl, (HO.out.trans H1.out).trans H2.out⟩

theorem bytes_of {xs : List Int} (h : ∀ x ∈ xs, (Lit.int .u8 x).wf = true) : ∀ x ∈ xs, 0 ≤ x ∧ x ≤ 255 := by
  intro x hx
  have := h x hx
  simp [Lit.wf, IntKind.min, IntKind.max, IntKind.signed, IntKind.bits] at this
  omega

theorem own : ownKnob Try.prog.godebug = none := by kernel_rfl
theorem laidOut : laidOutB Try.prog = true := by kernel_rfl

set_option maxRecDepth 100000 in
theorem lifted (os : Os) (started : os.Started) (H : Type) (enc : TypeId × Value → H) :
    ReturnsInHanded {} Try.checked os 5 .any (Rows.crcPartsSpec.pre6 enc Try.prog Try.f5 Rows.crcPartsRow.domain false) (Rows.crcPartsSpec.post enc Try.prog Try.f5 false true false false) := by
  refine returnsInHanded_of_change (C := Try.checked) own started (by kernel_rfl) Try.func5
    (ChangeSpec.witness6 (enc := enc) (C := Try.checked) false ⟨#[], #[.slice none 0 0], []⟩ 8 (by kernel_rfl) (by kernel_rfl) (by kernel_rfl) (by kernel_rfl)) ?_
  intro W base args ds gs before hval0 hW hcnd _
  have hval : ∀ (j : Nat) t v, Try.f5.params[j]? = some t → args[j]? = some v → Value.okWide Try.prog W .any base t v := hval0
  have hW' := hW
  have hlt : ∀ p ∈ before, p.block < W.heap.size := fun p hp => hW'.lt p hp
  obtain ⟨p, q, hA0, hV, rfl, hfz, hnd⟩ := hW
  have hA : DataW.TrodAll enc Try.prog W 0 (fun _ => true) true Try.f5.params.toList args.toList ds p := hA0
  rw [Try.params5] at hA hval
  obtain ⟨v0, vs0, d0, ds0, p0, q0, hargs, rfl, rfl, h0, r0⟩ := trodAll_cons hA
  obtain ⟨rfl, rfl, rfl⟩ := trodAll_nil r0
  obtain rfl : args = #[v0] := by cases args; simp_all
  obtain ⟨rfl, rfl⟩ := trodVars_none hV
  obtain ⟨xss, hs0, hw0⟩ := open_rows Try.underlying31 Try.underlying22 Try.underlying5 (by kernel_rfl) (by kernel_rfl) (hval 0 31 v0 rfl rfl) h0
  refine (walk v0 xss W hs0 (fun xs hxs => bytes_of (hw0 xs hxs))).mono fun e W' ⟨he, hg⟩ => ?_
  subst he
  exact ⟨_, rfl, law_done laidOut Try.underlying4 rfl (by kernel_rfl) rfl hW' rfl hg⟩

theorem over : Rows.crcPartsRow.holds Try.pinned (OpenSpec.ofChange Rows.crcPartsSpec) :=
  OpenClaim.holds_of_wide 5 Try.f5 rfl rfl rfl rfl rfl rfl rfl ⟨rfl, rfl, rfl, rfl, rfl⟩ rfl rfl rfl rfl rfl (by kernel_rfl) Try.func5 (by kernel_rfl)
    (of_decide_eq_true (by kernel_rfl)) (by unfold Func.isWrapper; first | (rw [if_pos (by decide +kernel)]; kernel_rfl) | (rw [if_neg (by decide +kernel)]; exact ⟨rfl, rfl⟩))
    (fun os started H enc _ => lifted os started H enc)

theorem proved : Rows.CrcPartsSaid :=
  over
end Go.Proofs.Ytbnenkmkkookdaa.crcParts
