/- LapBack: any samples (the first 200 of them, held within 2^20) are found again of their spectra, whatever the gains (the first 20, each of its two lowest bits) (8.4), and the example of chapter 8 holds. No condition. -/
import Derived.Test.YtpdjdejlhjcicaaRows
import Derived.Test.YtpdjdejlhjcicaaFew
import Derived.Test.YtpdjdejlhjcicaaLawA
import Derived.Test.YtpdjdejlhjcicaaLawB
import Derived.Test.YtpdjdejlhjcicaaLapQ
import Derived.Test.YtpdjdejlhjcicaaArrArg
namespace Go.Proofs.Ytpdjdejlhjcicaa.lapBack
open Go.ChangeShapes Go.WideShapes Go.ChangeAt Go.RowKit
set_option linter.unusedVariables false

set_option maxRecDepth 100000 in
set_option maxHeartbeats 4000000 in
theorem walk (p : Option Addr) (n0 cap : Nat) (xs : List Int) (pg : Option Addr) (ng0 cg : Nat) (G0 : Nat → Int) (w : World) (hs : SlI w .i64 (.slice p n0 cap) xs) (hnc : n0 ≤ cap) (hcm : cap ≤ maxLen) (hx64 : ∀ x ∈ xs, -9223372036854775808 ≤ x ∧ x ≤ 9223372036854775807) (hg : SlF 4 w pg ng0 G0) (hg64 : Fits64 G0) (hgn : ng0 ≤ 9223372036854775807) :
    Calls Try.prog 6 #[.slice p n0 cap, .slice pg ng0 cg] w fun e w' => e = .returned (.bool true) ∧ Old w w' := by
  unfold maxLen at hcm
  have hC := Lib.hid (few_any p n0 cap xs w hs (by omega) hx64)
  have HA := Lib.hid (fun w => awake_any w)
  have HG0 := Lib.hid hg
  have HG64 := Lib.hid hg64
  have Hs16 : Hid ((Try.prog.info? 49).map (·.size) = some 16) := Lib.hid (by kernel_rfl)
  have h8 := T8_size
  have H8 := Lib.hid T8_one
  have HNew := Lib.hid (fun w => LapNew_any w)
  clear hs hx64 hg hg64
  go_enter Try.func6, Try.ntmps6
  go_wp2_with fail
  refine hC.out.mono ?_
  rintro e w1 ⟨v, rfl, hv, ho⟩
  have hlen := fewL_len xs
  have hbd := fewL_bd xs
  generalize fewL xs = ys at *
  have hsl := hv.sl
  clear hC hv
  obtain ⟨q, n, c, rfl, hm, _⟩ := hsl.shape
  have hn : n ≤ 200 := by omega
  have HSL := Lib.hid hsl
  have HO := Lib.hid ho
  have HM := Lib.hid hm
  have hFG := Lib.hid (fewGains_any pg ng0 cg G0 w1 (HG0.out.old ho) HG64.out hgn)
  have HF0 : Hid (∀ j, -1048576 ≤ ys.getD j 0 ∧ ys.getD j 0 ≤ 1048576) := fun j => by
    by_cases h : j < ys.length
    · have e : ys.getD j 0 = ys[j] := by simp [List.getD, h]
      rw [e]; exact hbd _ (List.getElem_mem h)
    · rw [List.getD_eq_getElem?_getD, List.getElem?_eq_none (by omega)]
      show -1048576 ≤ (0 : Int) ∧ (0 : Int) ≤ 1048576
      omega
  clear ho hsl hlen hm hbd HG0 HG64
  go_wp2_with fail
  refine hFG.out.mono ?_
  rintro e w2 ⟨q2, c2, rfl, hg2, ho2, _⟩
  obtain ⟨ng, hng⟩ : ∃ m, m = min ng0 20 := ⟨_, rfl⟩
  rw [← hng] at hg2 ⊢
  obtain ⟨G, hG⟩ : ∃ f : Nat → Int, f = fun j => gI (G0 j) := ⟨_, rfl⟩
  rw [← hG] at hg2
  have HSL2 := Lib.hid (HSL.out.old ho2)
  have HO2 := Lib.hid (HO.out.trans ho2)
  have HG2 := Lib.hid hg2.sl
  have hng20 : ng ≤ 20 := by omega
  clear hng hG hg2 ho2 HSL HO hFG
  generalize hT : T8 = R at h8 H8 HNew
  have HR := Lib.hid hT
  clear hT
  go_wp2_with fail
  refine (HNew.out _).mono ?_
  rintro e w3 ⟨rfl, ho3⟩
  have HSL3 := Lib.hid (HSL2.out.old ho3)
  have HO3 := Lib.hid (HO2.out.trans ho3)
  have HG3 := Lib.hid (HG2.out.old ho3)
  clear ho3 HSL2 HO2 HG2 HNew
  go_wp2_with (with_reducible refine wpList_store_row rfl 49 _ _ rfl w3.heap.size R rfl rfl 49 _ (heap_alloc_new _ _) (by rw [h8]; exact Hs16.out) (by rw [h8]; kernel_rfl) H8.out ?_; rw [World.setRow_alloc_new])
  obtain ⟨w4, hw4⟩ : ∃ V, V = w3.alloc (.cells R 49) := ⟨_, rfl⟩
  rw [← hw4]
  have HSL4 : Hid (SlI w4 .i64 (.slice q n c) ys) := by rw [hw4]; exact HSL3.out.old (Old.alloc _ _)
  have HO4 : Hid (Old w w4) := by rw [hw4]; exact HO3.out.alloc' _
  have HG4 : Hid (SlF 4 w4 q2 ng G) := by rw [hw4]; exact HG3.out.old (Old.alloc _ _)
  obtain ⟨bx, hbx⟩ : ∃ b, b = w3.heap.size := ⟨_, rfl⟩
  rw [← hbx]
  have hb : w4.heap[bx]? = some (.cells R 49 (0, 0)) := by rw [hw4, hbx]; exact heap_alloc_new _ _
  have HB : Hid (∀ V, Old w4.drew V → V.heap[bx]? = some (.cells R 49 (0, 0))) := fun V hV => (hV.block _ (lt_of_block hb)).trans hb
  obtain ⟨N, hN⟩ : ∃ N, N = cnt n := ⟨_, rfl⟩
  have hN2 : N ≤ 13 := by rw [hN]; unfold cnt; omega
  have HNn : Hid (samN N n = n ∧ n ≤ N * 16) := by rw [hN]; unfold Hid samN cnt; omega
  have hSp := Spectra_any q n c ys q2 ng c2 G w4.drew HSL4.out (by omega) HG4.out
  rw [← hN, HR.out] at hSp
  have HSp := Lib.hid hSp
  have HWh := Lib.hid (fun (p : Option Addr) (cp : Nat) (V : World) (h : SlF 16 V p N (spectraF N G ng (fun j => ys.getD j 0))) (hp : p ≠ none) (hg : SlF 4 V q2 ng G) =>
    Whole_any p N cp (spectraF N G ng (fun j => ys.getD j 0)) q2 ng c2 G n V h (by omega) (fun _ e => absurd e hp) (spectraF_in N G ng (fun k => by have := HF0.out k; omega)) hg (by omega) (by omega))
  rw [HR.out] at HWh
  have HBk : Hid (∀ j, j < n → wholeF N G ng (spectraF N G ng (fun j => ys.getD j 0)) j = ys.getD j 0) := fun j hj => lap_back (F := fun j => ys.getD j 0) HF0.out N G ng j (by have := HNn.out; omega)
  rw [HNn.out.1] at HWh
  clear hSp hN hw4 hbx HSL3 HO3 HG3 hb HF0
  go_wp2_with fail
  refine wp_region_held_drew (S := (fun w' => w'.heap[bx]? = some (.cells R 49 (0, 0)))) (by kernel_rfl) ?_ (fun hHeld => ?_)
  · (try dsimp only); exact HB.out _ (Old.refl _)
  refine wpAnyH_take (i := 0) (oi := ⟨some _, _, _, _, _, _⟩) (v := .agg R) rfl (by kernel_rfl) (by kernel_rfl) (by kernel_rfl) (fun _ _ _ h => h) (yieldsIf_load_row (by kernel_rfl) 49 (.tmp 5) rfl bx rfl 49 R (0, 0) _ (fun _ h => h) Try.underlying49 rfl (by rw [h8]; exact Hs16.out)) (by assumption) ?_; try simp only [Act.put, List.setIfInBounds_toArray, List.set_cons_zero, List.set_cons_succ]
  refine wpAnyH_take (i := 1) (oi := ⟨some _, _, _, _, _, _⟩) (v := .agg R) rfl (by kernel_rfl) (by kernel_rfl) (by kernel_rfl) (fun _ _ _ h => h) (yieldsIf_load_row (by kernel_rfl) 49 (.tmp 5) rfl bx rfl 49 R (0, 0) _ (fun _ h => h) Try.underlying49 rfl (by rw [h8]; exact Hs16.out)) (by assumption) ?_; try simp only [Act.put, List.setIfInBounds_toArray, List.set_cons_zero, List.set_cons_succ]
  refine wpAnyH_take (i := 2) (oi := ⟨some _, _, _, _, _, _⟩) (v := ?_) rfl (by kernel_rfl) (by kernel_rfl) (by kernel_rfl) (fun _ _ _ h => h) (Or.inl ⟨by kernel_rfl, ?_⟩) (by assumption) ?_; rotate_left; (intro w hSw; (try dsimp only at hSw); go_simp; try with_reducible rfl); try simp only [Act.put, List.setIfInBounds_toArray, List.set_cons_zero, List.set_cons_succ]
  refine wpAnyH_take (i := 3) (oi := ⟨some _, _, _, _, _, _⟩) (v := ?_) rfl (by kernel_rfl) (by kernel_rfl) (by kernel_rfl) (fun _ _ _ h => h) (Or.inl ⟨by kernel_rfl, ?_⟩) (by assumption) ?_; rotate_left; (intro w hSw; (try dsimp only at hSw); go_simp; try with_reducible rfl); try simp only [Act.put, List.setIfInBounds_toArray, List.set_cons_zero, List.set_cons_succ]
  refine wpAnyH_take (i := 5) (oi := ⟨some _, _, _, _, _, _⟩) (v := ?_) rfl (by kernel_rfl) (by kernel_rfl) (by kernel_rfl) (fun _ _ _ h => h) (Or.inl ⟨by kernel_rfl, ?_⟩) (by assumption) ?_; rotate_left; (intro w hSw; (try dsimp only at hSw); go_simp; try with_reducible rfl); try simp only [Act.put, List.setIfInBounds_toArray, List.set_cons_zero, List.set_cons_succ]
  refine wpAnyH_take (i := 6) (oi := ⟨some _, _, _, _, _, _⟩) (v := ?_) rfl (by kernel_rfl) (by kernel_rfl) (by kernel_rfl) (fun _ _ _ h => h) (Or.inl ⟨by kernel_rfl, ?_⟩) (by assumption) ?_; rotate_left; (intro w hSw; (try dsimp only at hSw); go_simp; try with_reducible rfl); try simp only [Act.put, List.setIfInBounds_toArray, List.set_cons_zero, List.set_cons_succ]
  refine wpAnyH_take (i := 7) (oi := ⟨some _, _, _, _, _, _⟩) (v := ?_) rfl (by kernel_rfl) (by kernel_rfl) (by kernel_rfl) (fun _ _ _ h => h) (Or.inl ⟨by kernel_rfl, ?_⟩) (by assumption) ?_; rotate_left; (intro w hSw; (try dsimp only at hSw); go_simp; try with_reducible rfl); try simp only [Act.put, List.setIfInBounds_toArray, List.set_cons_zero, List.set_cons_succ]
  refine wpAnyH_take (i := 9) (oi := ⟨some _, _, _, _, _, _⟩) (v := ?_) rfl (by kernel_rfl) (by kernel_rfl) (by kernel_rfl) (fun _ _ _ h => h) (Or.inl ⟨by kernel_rfl, ?_⟩) (by assumption) ?_; rotate_left; (intro w hSw; (try dsimp only at hSw); go_simp; try with_reducible rfl); try simp only [Act.put, List.setIfInBounds_toArray, List.set_cons_zero, List.set_cons_succ]
  refine wpAnyH_ready (rs := [4]) (by kernel_rfl) (by simp) ?_
  refine AllReadyH.cons (o := ⟨_, _, _, _, _, _⟩) rfl (fun K hK => ?_) AllReadyH.nil
  go_simp
  refine HSp.out.mono ?_
  rintro e w5 ⟨q5, c5, rfl, hS5, ho5, hq5⟩
  have HWh5 := Lib.hid (HWh.out q5 c5 w5 hS5.sl hq5 (HG4.out.old (Old.drew (Old.refl _) |>.trans ho5)))
  have HO5 := Lib.hid ho5
  clear hS5 hq5 HWh HSp ho5
  go_wp2_with fail
  refine hK.out _ _ ?_ (fun hHeld => ?_)
  · (try dsimp only); exact HB.out _ HO5.out
  clear hK K
  try simp only [Act.put, List.setIfInBounds_toArray, List.set_cons_zero, List.set_cons_succ]
  refine wpAnyH_ready (rs := [8]) (by kernel_rfl) (by simp) ?_
  refine AllReadyH.cons (o := ⟨_, _, _, _, _, _⟩) rfl (fun K hK => ?_) AllReadyH.nil
  go_simp
  refine HWh5.out.mono ?_
  rintro e w6 ⟨g6, rfl, hc6, _, ho6⟩
  have HO6 := Lib.hid (HO5.out.trans ho6)
  have HSm := Lib.hid (same_any (some ⟨g6, 0, none⟩) q n n c _ (fun j => ys.getD j 0) w6 (fun _ => ⟨g6, 0, rfl, hc6.lt, fun j hj => by rw [Nat.zero_add]; exact hc6.cell j (by omega)⟩) (HSL4.out.slF.old (Old.drew (Old.refl _) |>.trans HO6.out)) HBk.out (by omega))
  clear hc6 ho6 HWh5 HO5
  go_wp2_with fail
  refine hK.out _ _ ?_ (fun hHeld => ?_)
  · (try dsimp only); exact HB.out _ HO6.out
  clear hK K
  try simp only [Act.put, List.setIfInBounds_toArray, List.set_cons_zero, List.set_cons_succ]
  refine wpAnyH_ready (rs := [10]) (by kernel_rfl) (by simp) ?_
  refine AllReadyH.cons (o := ⟨_, _, _, _, _, _⟩) rfl (fun K hK => ?_) AllReadyH.nil
  go_simp
  refine HSm.out.mono ?_
  rintro e w7 ⟨rfl, d7, rfl⟩
  go_wp2_with fail
  refine hK.out _ _ ?_ (fun hHeld => ?_)
  · (try dsimp only); exact HB.out _ (HO6.out.drewN d7)
  clear hK K
  try simp only [Act.put, List.setIfInBounds_toArray, List.set_cons_zero, List.set_cons_succ]
  refine wpAnyH_take (i := 11) (oi := ⟨some _, _, _, _, _, _⟩) (v := ?_) rfl (by kernel_rfl) (by kernel_rfl) (by kernel_rfl) (fun _ _ _ h => h) (Or.inl ⟨by kernel_rfl, ?_⟩) (by assumption) ?_; rotate_left; (intro w hSw; (try dsimp only at hSw); go_simp; try with_reducible rfl); try simp only [Act.put, List.setIfInBounds_toArray, List.set_cons_zero, List.set_cons_succ]
  refine wpAnyH_ready (rs := [12]) (by kernel_rfl) (by simp) ?_
  refine AllReadyH.cons (o := ⟨_, _, _, _, _, _⟩) rfl (fun K hK => ?_) AllReadyH.nil
  go_simp
  refine (HA.out _).mono ?_
  rintro e w8 ⟨rfl, rfl⟩
  go_wp2_with fail
  refine hK.out _ _ ?_ (fun hHeld => ?_)
  · (try dsimp only); exact HB.out _ (HO6.out.drewN d7)
  clear hK K
  try simp only [Act.put, List.setIfInBounds_toArray, List.set_cons_zero, List.set_cons_succ]
  refine wpAnyH_take (i := 13) (oi := ⟨some _, _, _, _, _, _⟩) (v := ?_) rfl (by kernel_rfl) (by kernel_rfl) (by kernel_rfl) (fun _ _ _ h => h) (Or.inl ⟨by kernel_rfl, ?_⟩) (by assumption) ?_; rotate_left; (intro w hSw; (try dsimp only at hSw); go_simp; try with_reducible rfl); try simp only [Act.put, List.setIfInBounds_toArray, List.set_cons_zero, List.set_cons_succ]
  refine wpAnyH_take (i := 14) (oi := ⟨some _, _, _, _, _, _⟩) (v := ?_) rfl (by kernel_rfl) (by kernel_rfl) (by kernel_rfl) (fun _ _ _ h => h) (Or.inl ⟨by kernel_rfl, ?_⟩) (by assumption) ?_; rotate_left; (intro w hSw; (try dsimp only at hSw); go_simp; try with_reducible rfl); try simp only [Act.put, List.setIfInBounds_toArray, List.set_cons_zero, List.set_cons_succ]
  refine wpAnyH_done (by kernel_rfl) ?_ _
  have HE := Lib.hid ((HO4.out.trans (Old.drew (Old.refl _) |>.trans HO6.out)).drewN d7)
  clear HB HO6 HSm HSL4 HO4 HG4 HBk
  go_wp2_with fail
  go_ret
  exact ⟨rfl, HE.out⟩


theorem own : ownKnob Try.prog.godebug = none := by kernel_rfl
theorem laidOut : laidOutB Try.prog = true := by kernel_rfl

set_option maxRecDepth 100000 in
theorem lifted (os : Os) (started : os.Started) (H : Type) (enc : TypeId × Value → H) :
    ReturnsInHanded {} Try.checked os 6 .any (Rows.lapBackSpec.pre6 enc Try.prog Try.f6 Rows.lapBackRow.domain false) (Rows.lapBackSpec.post enc Try.prog Try.f6 false true false false) := by
  refine returnsInHanded_of_change (C := Try.checked) own started (by kernel_rfl) Try.func6
    (ChangeSpec.witness6 (enc := enc) (C := Try.checked) false ⟨#[], #[.slice none 0 0, .slice none 0 0], []⟩ 8 (by kernel_rfl) (by kernel_rfl) (by kernel_rfl) (by kernel_rfl)) ?_
  intro W base args ds gs before hval0 hW hcnd _
  have hval : ∀ (j : Nat) t v, Try.f6.params[j]? = some t → args[j]? = some v → Value.okWide Try.prog W .any base t v := hval0
  have hW' := hW
  have hlt : ∀ p ∈ before, p.block < W.heap.size := fun p hp => hW'.lt p hp
  obtain ⟨p, q, hA0, hV, rfl, hfz, hnd⟩ := hW
  have hA : DataW.TrodAll enc Try.prog W 0 (fun _ => true) true Try.f6.params.toList args.toList ds p := hA0
  rw [Try.params6] at hA hval
  obtain ⟨v0, vs0, d0, ds0, p0, q0, hargs, rfl, rfl, h0, r0⟩ := trodAll_cons hA
  obtain ⟨v1, vs1, d1, ds1, p1, q1, rfl, rfl, rfl, h1, r1⟩ := trodAll_cons r0
  obtain ⟨rfl, rfl, rfl⟩ := trodAll_nil r1
  obtain rfl : args = #[v0, v1] := by cases args; simp_all
  obtain ⟨rfl, rfl⟩ := trodVars_none hV
  obtain ⟨s0, n0, c0, xs0, rfl, hs0, hn0, hc0, hw0⟩ := open_slI Try.underlying22 Try.underlying2 (by kernel_rfl) (hval 0 22 v0 rfl rfl) h0 (fun x hx => hlt x (by simp [hx]))
  obtain ⟨r1, m1, k1, F1, rfl, hm1, hk1, hF1, h64F1, _⟩ := open_arrs (s := 4) Try.underlying33 Try.underlying36 Try.underlying3 (by kernel_rfl) (by kernel_rfl) (by omega) (hval 1 33 v1 rfl rfl) h1 (fun x hx => hlt x (by simp [hx]))
  refine (walk s0 n0 c0 xs0 r1 m1 k1 F1 W hs0 hn0 hc0 (fun x hx => i64_of (hw0 x hx)) hF1 h64F1 (by unfold maxLen at hk1; omega)).mono fun e W' ⟨he, hg⟩ => ?_
  subst he
  exact ⟨_, rfl, law_done laidOut Try.underlying4 rfl (by kernel_rfl) rfl hW' rfl hg⟩

theorem over : Rows.lapBackRow.holds Try.pinned (OpenSpec.ofChange Rows.lapBackSpec) :=
  OpenClaim.holds_of_wide 6 Try.f6 rfl rfl rfl rfl rfl rfl rfl ⟨rfl, rfl, rfl, rfl, rfl⟩ rfl rfl rfl rfl rfl (by kernel_rfl) Try.func6 (by kernel_rfl)
    (of_decide_eq_true (by kernel_rfl)) (by unfold Func.isWrapper; first | (rw [if_pos (by decide +kernel)]; kernel_rfl) | (rw [if_neg (by decide +kernel)]; exact ⟨rfl, rfl⟩))
    (fun os started H enc _ => lifted os started H enc)

theorem proved : Rows.LapBackSaid :=
  over
end Go.Proofs.Ytpdjdejlhjcicaa.lapBack
