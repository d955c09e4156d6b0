/- CodeExact: for every size and every list of numbers (cut to 150 samples) the frames are read again of their bytes, Rate tells how many these are, and in frames of 55 bytes and more the samples are found again. No condition. -/
import Derived.Test.YtlcbmgbnhjgelaaGreatRows
import Derived.Test.YtlcbmgbnhjgelaaGreatPkAJ
import Derived.Test.YtlcbmgbnhjgelaaGreatPkAP
namespace Go.Proofs.YtlcbmgbnhjgelaaGreat.codeExact
open Go.ChangeShapes Go.WideShapes Go.ChangeAt Go.RowKit
set_option linter.unusedVariables false

set_option maxRecDepth 100000 in
set_option maxHeartbeats 8000000 in
theorem walk_no (size : Int) (p : Option Addr) (n cap : Nat) (xs : List Int) (w : World) (hs : SlI w .i64 (.slice p n cap) xs) (hn : n ≤ 9223372036854775807) (hx64 : ∀ x ∈ xs, -9223372036854775808 ≤ x ∧ x ≤ 9223372036854775807) (h : ¬ (24 ≤ size ∧ size ≤ 96)) :
    Calls Tryz.prog 4 #[.int .i64 size, .slice p n cap] w fun e w' => e = .returned (.bool true) ∧ Old w w' := by
  have H1 := Lib.hid (few_any p n cap xs w hs hn hx64)
  have HNew := Lib.hid (fun w => CNew_no size w h)
  have HA := Lib.hid (fun w => awake_any w)
  clear hs hx64 h
  go_enter Tryz.func4, Tryz.ntmps4
  go_wp2_with fail
  refine H1.out.mono ?_
  rintro e w1 ⟨v1, rfl, hv1, o1⟩
  have HO1 := Lib.hid o1
  clear hv1 o1 H1
  go_wp2_with fail
  refine (HNew.out _).mono ?_
  rintro e w2 ⟨rfl, rfl⟩
  go_wp2_with fail
  refine (HA.out _).mono ?_
  rintro e w3 ⟨rfl, o3⟩
  have HO3 := Lib.hid (HO1.out.trans o3)
  clear o3
  go_wp2
  go_ret
  exact ⟨rfl, HO3.out⟩
theorem SlF_tones {X : Nat → Prop} {w : World} {x : Fr} (h : ToV X w x) : ∃ p cap, x.s = .slice p x.n cap ∧ SlF 2 w p x.n x.T ∧ x.n ≤ maxLen := by
  obtain ⟨p, cap, h1, h2, h3, h4, _⟩ := h
  exact ⟨p, cap, h1, h4, Nat.le_trans h2 h3⟩
theorem same_fr {X Y : Nat → Prop} {V : World} {x y : Fr} (hx : ToV X V x) (hy : ToV Y V y) :
    Calls Tryz.prog 20 #[.agg (rowN 29 (frC x.F x.s)), .agg (rowN 29 (frC y.F y.s))] V fun e w' => e = .returned (.bool (decide (sameP x.F x.n x.T y.F y.n y.T))) ∧ Old V w' := by
  obtain ⟨p, c, e1, a1, a2⟩ := SlF_tones hx
  obtain ⟨q, d, e2, b1, b2⟩ := SlF_tones hy
  rw [e1, e2]
  exact Same_any _ _ p q _ _ c d _ _ V a1 b1 a2 b2
set_option maxRecDepth 100000 in
set_option maxHeartbeats 8000000 in
theorem walk (sz : Nat) (p : Option Addr) (n cap : Nat) (xs : List Int) (w : World) (hs : SlI w .i64 (.slice p n cap) xs) (hn : n ≤ 9223372036854775807) (hx64 : ∀ x ∈ xs, -9223372036854775808 ≤ x ∧ x ≤ 9223372036854775807) (z1 : 24 ≤ sz) (z2 : sz ≤ 96) :
    Calls Tryz.prog 4 #[.int .i64 sz, .slice p n cap] w fun e w' => e = .returned (.bool true) ∧ Old w w' := by
  have Hs29 : Hid ((Tryz.prog.info? 55).map (·.size) = some 29) := Lib.hid (by kernel_rfl)
  have H1 := Lib.hid (few_any p n cap xs w hs hn hx64)
  have HNew := Lib.hid (fun w => CNew_yes sz w (by omega) (by omega))
  have HA := Lib.hid (fun w => awake_any w)
  clear hs hx64
  go_enter Tryz.func4, Tryz.ntmps4
  go_wp2_with fail
  refine H1.out.mono ?_
  rintro e w1 ⟨v1, rfl, hv1, o1⟩
  have hl1 := fewL_len xs
  have hb1 := fewL_bd xs
  generalize fewL xs = us at *
  have HS1 := Lib.hid hv1.sl
  have HO1 := Lib.hid o1
  obtain ⟨p1, n1, c1, rfl, e1, _⟩ := hv1.sl.shape
  have hn1 : n1 ≤ 150 := by omega
  have HL1 := Lib.hid e1.symm
  have HX := Lib.hid hb1
  clear hv1 o1 H1 e1 hl1 hb1
  go_wp2_with fail
  refine (HNew.out _).mono ?_
  rintro e w2 ⟨cb, rfl, hcb, _, o2⟩
  have HC := Lib.hid hcb
  have HS2 := Lib.hid (HS1.out.old o2)
  have HO2 := Lib.hid (HO1.out.trans o2)
  obtain ⟨F, hF⟩ : ∃ F : Nat → Int, F = fun j => us.getD j 0 := ⟨_, rfl⟩
  have hFb : ∀ q, -32768 ≤ F q ∧ F q ≤ 32768 := fun q => by rw [hF]; have := samP_at HX.out q; dsimp only; omega
  obtain ⟨N, hN⟩ : ∃ N, N = cnt n1 := ⟨_, rfl⟩
  have hNb : N ≤ 10 ∧ n1 ≤ N * 16 := by rw [hN]; unfold cnt; omega
  obtain ⟨ex, hex⟩ : ∃ ex, decide ((55 : Int) ≤ (sz : Int)) = ex := ⟨_, rfl⟩
  have hF1 := CFrames_any cb sz p1 n1 c1 us w2 hcb (by omega) (by omega) HS2.out HX.out (by omega)
  rw [← hF, ← hN, hex] at hF1
  have HF1 := Lib.hid hF1
  have HRt := Lib.hid (fun (V : World) (h : CoB V cb sz) => CRate_any cb sz n1 V h (by omega) (by omega) (by omega))
  rw [← hN] at HRt
  have HFd := Lib.hid hF
  have HFb := Lib.hid hFb
  have HEx := Lib.hid hex
  clear hF1 hcb o2 HNew HS1 HO1 hF hFb hex
  have HN := Lib.hid hN
  clear hN
  go_wp2_with fail
  refine HF1.out.mono ?_
  rintro e w3 ⟨fb, L, rfl, hfr, hgd, o3⟩
  have hmay := fun i hi => fmG_may HFb.out (by omega) hgd i hi
  have hBy := CBytes_any cb sz (some ⟨fb, 0, none⟩) N N L (fun _ => False) w3 (HC.out.old o3) z1 z2 hfr (fun i hi => (hmay i hi).1) (fun i hi => (hmay i hi).2.1) (fun i hi => (hmay i hi).2.2) (by omega)
  have HBy := Lib.hid hBy
  have HC3 := Lib.hid (HC.out.old o3)
  have HFr3 := Lib.hid hfr
  have HGd := Lib.hid hgd
  have HMay := Lib.hid hmay
  have HS3 := Lib.hid (HS2.out.old o3)
  have HO3 := Lib.hid (HO2.out.trans o3)
  clear hBy hfr hgd hmay o3 HF1 HC HS2 HO2
  go_wp2_with fail
  refine HBy.out.mono ?_
  rintro e w4 ⟨v4, rfl, hv4, o4⟩
  obtain ⟨Bs, hBs⟩ : ∃ Bs, Bs = cbytes sz L N := ⟨_, rfl⟩
  have hbl : Bs.length = N * sz := by rw [hBs]; exact cbytes_len sz L N
  have hbB : isBytes Bs := by rw [hBs]; exact cbytes_isBytes sz L N
  have hrow : ∀ i, i < N → (Bs.drop (i * sz)).take sz = padded (enc (L i).F (L i).n (L i).T) sz := fun i hi => by rw [hBs]; exact cbytes_row sz L i N hi
  rw [← hBs] at hv4
  clear hBs
  obtain ⟨p4, n4, c4, rfl, e4, _⟩ := hv4.sl.shape
  have hSl4 := hv4.sl
  rw [hbl] at e4
  have hcap : N * sz ≤ c4 := by
    rcases hv4.shape with ⟨h1, h2⟩ | ⟨_, _, h1, _, _, h2, _⟩
    · rw [hbl] at h2; omega
    · cases h1; rw [hbl] at h2; exact h2
  have hRd := CRead_gen cb sz p4 N c4 (fun _ => 0) (fun i x => FrP x.F x.n x.T ∧ sameP x.F x.n x.T (L i).F (L i).n (L i).T) w4 (HC3.out.old o4) z1 z2 (by omega) hcap (fun h0 => by
    have hne : Bs ≠ [] := fun e => by
      rw [e] at hbl
      have : 0 < N * sz := Nat.mul_pos h0 (by omega)
      simp at hbl
      omega
    obtain ⟨pp, cc, ee, hc⟩ := hSl4
    simp only [Value.slice.injEq] at ee
    obtain ⟨rfl, _, rfl⟩ := ee
    obtain ⟨bb, off, rfl, hb, hlc, hm, hcell⟩ := hc hne
    refine ⟨bb, off, rfl, fun k hk V hV => ?_⟩
    have h3 : k * sz + sz ≤ N * sz := by
      have := Nat.mul_le_mul_right sz (show k + 1 ≤ N by omega)
      rwa [Nat.add_mul, Nat.one_mul] at this
    have hrl : ((Bs.drop (k * sz)).take sz).length = sz := by rw [List.length_take, List.length_drop, hbl]; omega
    have hsl : SlI V .u8 (.slice (some ⟨bb, off + k * sz, none⟩) sz (c4 - k * sz)) ((Bs.drop (k * sz)).take sz) := by
      refine ⟨some ⟨bb, off + k * sz, none⟩, c4 - k * sz, by rw [hrl], fun _ => ⟨bb, off + k * sz, rfl, Nat.lt_of_lt_of_le hb hV.size, by rw [hrl]; omega, by omega, fun i hi => ?_⟩⟩
      rw [hrl] at hi
      have := (hV.cell (a := ⟨bb, off + (k * sz + i), none⟩) hb).trans (hcell (k * sz + i) (by rw [hbl]; omega))
      rw [← Nat.add_assoc] at this
      rw [this]
      congr 2
      simp only [List.getD_eq_getElem?_getD, List.getElem?_take, List.getElem?_drop]
      rw [if_pos hi]
    have hib : isBytes ((Bs.drop (k * sz)).take sz) := fun x hx => hbB x (List.mem_of_mem_drop (List.mem_of_mem_take hx))
    have hte : Tells ((Bs.drop (k * sz)).take sz) (enc (L k).F (L k).n (L k).T) := by
      rw [hrow k hk]
      obtain ⟨m1, m2, _⟩ := HMay.out k hk
      exact tells_padded _ _ (by have := enc_len m1; omega)
    refine (FRead_any2 _ _ V hsl hib (by rw [hrl]; omega)).mono ?_
    rintro e w' ⟨G, m, q, cq, T, er, rfl, ho, hmc, hcm, hT, _, _, hgood, _, hback, hfresh⟩
    obtain ⟨rfl, hsame⟩ := hback _ _ _ (HMay.out k hk).1 hte
    exact ⟨⟨G, .slice q m cq, m, T⟩, rfl, fun _ => ⟨(hgood rfl).1, hsame⟩, ⟨q, cq, rfl, hmc, hcm, hT, fun h0 a ha hlt => by have := hfresh h0 a ha; omega⟩, ho⟩)
  have HRd := Lib.hid hRd
  have HC4 := Lib.hid (HC3.out.old o4)
  have HFr4 := Lib.hid (HFr3.out.old o4)
  have HS4 := Lib.hid (HS3.out.old o4)
  have HO4 := Lib.hid (HO3.out.trans o4)
  rw [e4]
  have HB := Lib.hid (Nat.mul_le_mul hNb.1 z2)
  clear hRd hv4 hSl4 o4 hbl hbB hrow HBy HC3 HFr3 HS3 HO3 e4 hcap
  obtain ⟨M, hM⟩ : ∃ M, M = N * sz := ⟨_, rfl⟩
  rw [← hM] at HRd ⊢
  have hMb : M ≤ 960 := by rw [hM]; exact HB.out
  have hMi : (sz : Int) * (N : Int) = M := by rw [hM, Int.natCast_mul, Int.mul_comm]
  have hMj : (N : Int) * (sz : Int) = M := by rw [hM, Int.natCast_mul]
  clear hM HB
  have HMi := Lib.hid hMi
  have HMj := Lib.hid hMj
  clear hMi hMj
  go_wp2_with fail
  refine HRd.out.mono ?_
  rintro e w5 (⟨j, _, h0, _⟩ | ⟨_, gb, K, rfl, hfr5, hgd5, o5⟩)
  · exact absurd rfl h0
  have HFr5 := Lib.hid hfr5
  have HGd5 := Lib.hid hgd5
  have HC5 := Lib.hid (HC4.out.old o5)
  have HFr54 := Lib.hid (HFr4.out.old o5)
  have HS5 := Lib.hid (HS4.out.old o5)
  have HO5 := Lib.hid (HO4.out.trans o5)
  clear hfr5 hgd5 o5 HRd HC4 HFr4 HS4 HO4
  go_wp2_with fail
  refine (HRt.out w5 HC5.out).mono ?_
  rintro e w6 ⟨rfl, o6⟩
  have HFr6 := Lib.hid (HFr54.out.old o6)
  have HFk6 := Lib.hid (HFr5.out.old o6)
  have HC6 := Lib.hid (HC5.out.old o6)
  have HS6 := Lib.hid (HS5.out.old o6)
  have HO6 := Lib.hid (HO5.out.trans o6)
  clear o6 HRt HFr54 HFr5 HC5 HS5 HO5
  rw [HMj.out]
  have t1 : wrap64 ((sz : Int) * (N : Int)) = M := by rw [HMi.out]; exact (wrap_nat M (by omega)).1
  have t2 : IntKind.i64.wrap ((sz : Int) * (N : Int)) = M := by rw [HMi.out]; exact (wrap_nat M (by omega)).2
  have t3 : (n1 : Int) * 2 = 2 * (n1 : Int) := Int.mul_comm _ _
  go_wp2_with fail
  clear t1 t2 t3
  have HSame := Lib.hid (fun (k : Nat) (h : k < N) (V : World) (hV : Old w6 V) => same_fr (((HFr6.out.old hV).2 k h)) ((HFk6.out.old hV).2 k h))
  go_loopw [15] (fun i wr => ∃ k : Nat, k ≤ N ∧ i = .int .i64 k ∧ Hid (Old w6 wr)) (fun i _ => N - (intOf i).toNat)
  case atStart => exact ⟨0, by omega, rfl, Lib.hid (Old.refl _)⟩
  case round =>
    obtain ⟨k, hk, rfl, HO⟩ := hrel
    by_cases hlt : k < N
    · have i1 : (0 : Int) ≤ k := by omega
      have i2 : (k : Int) < N := by omega
      obtain ⟨g1, f1, e1, _, hc1⟩ := (HFr6.out.old HO.out).row k hlt
      obtain ⟨g2, f2, e2, _, hc2⟩ := (HFk6.out.old HO.out).row k hlt
      simp only [Option.some.injEq, Addr.mk.injEq] at e1 e2
      obtain ⟨rfl, rfl, _⟩ := e1
      obtain ⟨rfl, rfl, _⟩ := e2
      have hsm : sameP (L k).F (L k).n (L k).T (K k).F (K k).n (K k).T := sameP_symm (HGd5.out k hlt).2
      have hSk := HSame.out k hlt
      rw [decide_eq_true hsm] at hSk
      have HSk := Lib.hid hSk
      have HSS : Hid (∀ V, Old wr.drew V → (∀ j, j < 29 → V.cell? ⟨fb, k * 29 + j, none⟩ = some (frC (L k).F (L k).s j)) ∧ ∀ j, j < 29 → V.cell? ⟨gb, k * 29 + j, none⟩ = some (frC (K k).F (K k).s j)) := Lib.hid fun V hV => by
        have hw := HO.out.trans ((Old.drew (Old.refl _)).trans hV)
        obtain ⟨g1, f1, e1, _, hc1⟩ := (HFr6.out.old hw).row k hlt
        obtain ⟨g2, f2, e2, _, hc2⟩ := (HFk6.out.old hw).row k hlt
        simp only [Option.some.injEq, Addr.mk.injEq] at e1 e2
        obtain ⟨rfl, rfl, _⟩ := e1
        obtain ⟨rfl, rfl, _⟩ := e2
        exact ⟨fun j hj => by have := hc1 j hj; rwa [Nat.zero_add] at this, fun j hj => by have := hc2 j hj; rwa [Nat.zero_add] at this⟩
      clear hsm hSk hc1 hc2
      go_wp2_with fail
      refine wp_region_held_drew (S := (fun w' => (∀ j, j < 29 → w'.cell? ⟨fb, k * 29 + j, none⟩ = some (frC (L k).F (L k).s j)) ∧ ∀ j, j < 29 → w'.cell? ⟨gb, k * 29 + j, none⟩ = some (frC (K k).F (K k).s j))) (by kernel_rfl) ?_ (fun hHeld => ?_)
      · (try dsimp only); exact HSS.out _ (Old.refl _)
      refine wpAnyH_take (i := 0) (oi := ⟨some _, _, _, _, _, _⟩) (v := ?_) rfl (by kernel_rfl) (by kernel_rfl) (by kernel_rfl) (fun _ _ _ h => h) (Or.inl ⟨by kernel_rfl, ?_⟩) (by assumption) ?_; rotate_left; (intro w hSw; (try dsimp only at hSw); go_simp; try with_reducible rfl); try simp only [Act.put, List.setIfInBounds_toArray, List.set_cons_zero, List.set_cons_succ]
      refine wpAnyH_take (i := 1) (oi := ⟨some _, _, _, _, _, _⟩) (v := ?_) rfl (by kernel_rfl) (by kernel_rfl) (by kernel_rfl) (fun _ _ _ h => h) (Or.inl ⟨by kernel_rfl, ?_⟩) (by assumption) ?_; rotate_left; (intro w hSw; (try dsimp only at hSw); go_simp; try with_reducible rfl); try simp only [Act.put, List.setIfInBounds_toArray, List.set_cons_zero, List.set_cons_succ]
      refine wpAnyH_take (i := 2) (oi := ⟨some _, _, _, _, _, _⟩) (v := ?_) rfl (by kernel_rfl) (by kernel_rfl) (by kernel_rfl) (fun _ _ _ h => h) (Or.inl ⟨by kernel_rfl, ?_⟩) (by assumption) ?_; rotate_left; (intro w hSw; (try dsimp only at hSw); go_simp; try with_reducible rfl); try simp only [Act.put, List.setIfInBounds_toArray, List.set_cons_zero, List.set_cons_succ]
      refine wpAnyH_take (i := 3) (oi := ⟨some _, _, _, _, _, _⟩) (v := .agg (rowN 29 (frC (L k).F (L k).s))) rfl (by kernel_rfl) (by kernel_rfl) (by kernel_rfl) (fun _ _ _ h => h) (yieldsIf_load_fr (frC (L k).F (L k).s) (by kernel_rfl) 55 (.tmp 108) rfl fb (k * 29) rfl _ (fun _ h => h.1) Tryz.underlying55 rfl Hs29.out) (by assumption) ?_; try simp only [Act.put, List.setIfInBounds_toArray, List.set_cons_zero, List.set_cons_succ]
      refine wpAnyH_take (i := 4) (oi := ⟨some _, _, _, _, _, _⟩) (v := ?_) rfl (by kernel_rfl) (by kernel_rfl) (by kernel_rfl) (fun _ _ _ h => h) (Or.inl ⟨by kernel_rfl, ?_⟩) (by assumption) ?_; rotate_left; (intro w hSw; (try dsimp only at hSw); go_simp; try with_reducible rfl); try simp only [Act.put, List.setIfInBounds_toArray, List.set_cons_zero, List.set_cons_succ]
      refine wpAnyH_take (i := 5) (oi := ⟨some _, _, _, _, _, _⟩) (v := ?_) rfl (by kernel_rfl) (by kernel_rfl) (by kernel_rfl) (fun _ _ _ h => h) (Or.inl ⟨by kernel_rfl, ?_⟩) (by assumption) ?_; rotate_left; (intro w hSw; (try dsimp only at hSw); go_simp; try with_reducible rfl); try simp only [Act.put, List.setIfInBounds_toArray, List.set_cons_zero, List.set_cons_succ]
      refine wpAnyH_take (i := 6) (oi := ⟨some _, _, _, _, _, _⟩) (v := ?_) rfl (by kernel_rfl) (by kernel_rfl) (by kernel_rfl) (fun _ _ _ h => h) (Or.inl ⟨by kernel_rfl, ?_⟩) (by assumption) ?_; rotate_left; (intro w hSw; (try dsimp only at hSw); go_simp; try with_reducible rfl); try simp only [Act.put, List.setIfInBounds_toArray, List.set_cons_zero, List.set_cons_succ]
      refine wpAnyH_take (i := 7) (oi := ⟨some _, _, _, _, _, _⟩) (v := .agg (rowN 29 (frC (K k).F (K k).s))) rfl (by kernel_rfl) (by kernel_rfl) (by kernel_rfl) (fun _ _ _ h => h) (yieldsIf_load_fr (frC (K k).F (K k).s) (by kernel_rfl) 55 (.tmp 112) rfl gb (k * 29) rfl _ (fun _ h => h.2) Tryz.underlying55 rfl Hs29.out) (by assumption) ?_; try simp only [Act.put, List.setIfInBounds_toArray, List.set_cons_zero, List.set_cons_succ]
      refine wpAnyH_ready (rs := [8]) (by kernel_rfl) (by simp) ?_
      refine AllReadyH.cons (o := ⟨_, _, _, _, _, _⟩) (by rfl) ?_ AllReadyH.nil
      intro K hK
      go_simp
      refine (HSk.out _ (HO.out.trans (Old.drew (Old.refl _)))).mono ?_
      rintro e V1 ⟨rfl, o1⟩
      have HO1 := Lib.hid o1
      have HOw := Lib.hid (HO.out.trans ((Old.drew (Old.refl _)).trans o1))
      clear o1 HSk
      go_wp2_with fail
      refine hK.out _ _ ?_ (fun hHeld => ?_)
      · (try dsimp only); exact HSS.out _ HO1.out
      clear hK K
      try simp only [Act.put, List.setIfInBounds_toArray, List.set_cons_zero, List.set_cons_succ]
      refine wpAnyH_take (i := 9) (oi := ⟨some _, _, _, _, _, _⟩) (v := ?_) rfl (by kernel_rfl) (by kernel_rfl) (by kernel_rfl) (fun _ _ _ h => h) (Or.inl ⟨by kernel_rfl, ?_⟩) (by assumption) ?_; rotate_left; (intro w hSw; (try dsimp only at hSw); go_simp; try with_reducible rfl); try simp only [Act.put, List.setIfInBounds_toArray, List.set_cons_zero, List.set_cons_succ]
      refine wpAnyH_done (by kernel_rfl) ?_ _
      clear HSS HO1 HO
      go_wp2_with fail
      go_roundw
      case rel => exact ⟨k + 1, by omega, by go_num, HOw⟩
      case measure => (simp [intOf]; try omega)
    · obtain rfl : k = N := by omega
      clear HSame
      have HSm := Lib.hid (CSamples_any cb sz (some ⟨gb, 0, none⟩) k k K n1 (fun _ => False) wr (HC6.out.old HO.out) (by omega) (HFk6.out.old HO.out) (fun i hi => (HGd5.out i hi).1) (by omega) (by omega) (by omega))
      have HSn : Hid (samN k n1 = n1) := Lib.hid (by unfold samN; omega)
      rw [HSn.out] at HSm
      obtain ⟨WF, hWF⟩ : ∃ WF, wholeF k (gfTo k K) k (smTo k K) = WF := ⟨_, rfl⟩
      rw [hWF] at HSm
      have HW : Hid (55 ≤ (sz : Int) → ∀ j, j < n1 → satI (WF j) = F j) := Lib.hid fun h55 j hj => by
        have hx : ex = true := by rw [← HEx.out]; exact decide_eq_true h55
        have hg := HGd.out
        rw [hx] at hg
        rw [← hWF, exact_back_same HFb.out h55 hg (fun i hi => (HGd5.out i hi).2) j (by omega)]
        have h := samP_at HX.out j
        have e : F j = us.getD j 0 := by rw [HFd.out]
        rw [e]
        exact satI_in _ h.1 h.2
      have HO7 := Lib.hid (HO6.out.trans HO.out)
      have HS7 := Lib.hid (HS6.out.old HO.out)
      clear hWF HFb HGd HGd5 HMay HFr6 HFk6 HO HC6 HEx HN HX HO6 HS6
      obtain ⟨wv, hwv⟩ : ∃ V, V = wr := ⟨_, rfl⟩
      subst hwv
      go_wp2_with fail
      refine HSm.out.mono ?_
      rintro e w8 ⟨r, rfl, hc8, _, o8⟩
      have HC8 := Lib.hid hc8
      have HO8 := Lib.hid (HO7.out.trans o8)
      have HS8 := Lib.hid (HS7.out.old o8).slF
      clear hc8 o8 HO7 HS7 HSm
      go_wp2_with fail
      go_loopw [17] (fun i wr => ∃ k : Nat, k ≤ n1 ∧ i = .int .i64 k ∧ Hid (Old w8 wr)) (fun i _ => n1 - (intOf i).toNat)
      case atStart => exact ⟨0, by omega, rfl, Lib.hid (Old.refl _)⟩
      case round =>
        obtain ⟨j, hj, rfl, HO⟩ := hrel
        by_cases hjt : j < n1
        · have j1 : (0 : Int) ≤ j := by omega
          have j2 : (j : Int) < n1 := by omega
          obtain ⟨b1, o1, rfl, hb1, hcl⟩ := HS8.out (by omega)
          have hx := (HO.out.cell (a := ⟨b1, o1 + j, none⟩) hb1).trans (hcl j (by omega))
          have hy := (HO.out.cell (a := ⟨r, j, none⟩) HC8.out.lt).trans (HC8.out.cell j hjt)
          dsimp only at hx hy
          have hF : F j = us.getD j 0 := by rw [HFd.out]
          rw [← hF] at hx
          clear hF hcl HS8 HC8
          by_cases h55 : 55 ≤ (sz : Int)
          · have hw := HW.out h55 j hjt
            rw [hw] at hy
            have hd : decide ((55 : Int) ≤ (sz : Int)) = true := decide_eq_true h55
            obtain ⟨y, hyv⟩ : ∃ y, F j = y := ⟨_, rfl⟩
            rw [hyv] at hx hy
            have hne : (y != y) = false := by simp
            clear hw hyv
            go_wp2_with fail
            go_quiet (fail)
            go_wp2
            go_roundw
            case rel => exact ⟨j + 1, by omega, by go_num, Lib.hid (HO.out.drewN _)⟩
            case measure => (simp [intOf]; try omega)
          · have h54 : (sz : Int) < 55 := by omega
            have hd : decide ((55 : Int) ≤ (sz : Int)) = false := decide_eq_false h55
            generalize satI (WF j) = y1 at *
            generalize F j = y2 at *
            go_wp2_with fail
            go_quiet (fail)
            go_wp2
            go_roundw
            case rel => exact ⟨j + 1, by omega, by go_num, Lib.hid (HO.out.drewN _)⟩
            case measure => (simp [intOf]; try omega)
        · obtain rfl : j = n1 := by omega
          have HO9 := Lib.hid (HO8.out.trans HO.out)
          clear HS8 HC8 HO HO8 HW
          go_wp2_with fail
          refine (HA.out _).mono ?_
          rintro e w9 ⟨rfl, o9⟩
          have HO10 := Lib.hid (HO9.out.trans o9)
          clear o9
          go_wp2
          go_ret
          exact ⟨rfl, HO10.out⟩


theorem walkAll (size : Int) (p : Option Addr) (n cap : Nat) (xs : List Int) (w : World) (hs : SlI w .i64 (.slice p n cap) xs) (hn : n ≤ 9223372036854775807) (hx64 : ∀ x ∈ xs, -9223372036854775808 ≤ x ∧ x ≤ 9223372036854775807) :
    Calls Tryz.prog 4 #[.int .i64 size, .slice p n cap] w fun e w' => e = .returned (.bool true) ∧ Old w w' := by
  by_cases h : 24 ≤ size ∧ size ≤ 96
  · obtain ⟨sz, rfl⟩ := Int.eq_ofNat_of_zero_le (show 0 ≤ size by omega)
    exact walk sz p n cap xs w hs hn hx64 (by omega) (by omega)
  · exact walk_no size p n cap xs w hs hn hx64 h
theorem own : ownKnob Tryz.prog.godebug = none := by kernel_rfl
theorem laidOut : laidOutB Tryz.prog = true := by kernel_rfl

set_option maxRecDepth 100000 in
theorem lifted (os : Os) (started : os.Started) (H : Type) (enc : TypeId × Value → H) :
    ReturnsInHanded {} Tryz.checked os 4 .any (Rows.codeExactSpec.pre6 enc Tryz.prog Tryz.f4 Rows.codeExactRow.domain false) (Rows.codeExactSpec.post enc Tryz.prog Tryz.f4 false true false false) := by
  refine returnsInHanded_of_change (C := Tryz.checked) own started (by kernel_rfl) Tryz.func4
    (ChangeSpec.witness6 (enc := enc) (C := Tryz.checked) false ⟨#[], #[.int .i64 0, .slice none 0 0], []⟩ 8 (by kernel_rfl) (by kernel_rfl) (by kernel_rfl) (by kernel_rfl)) ?_
  intro W base args ds gs before hval0 hW hcnd _
  have hval : ∀ (j : Nat) t v, Tryz.f4.params[j]? = some t → args[j]? = some v → Value.okWide Tryz.prog W .any base t v := hval0
  have hW' := hW
  have hlt : ∀ p ∈ before, p.block < W.heap.size := fun p hp => hW'.lt p hp
  obtain ⟨p, q, hA0, hV, rfl, hfz, hnd⟩ := hW
  have hA : DataW.TrodAll enc Tryz.prog W 0 (fun _ => true) true Tryz.f4.params.toList args.toList ds p := hA0
  rw [Tryz.params4] at hA hval
  obtain ⟨v0, vs0, d0, ds0, p0, q0, hargs, rfl, rfl, h0, r0⟩ := trodAll_cons hA
  obtain ⟨v1, vs1, d1, ds1, p1, q1, rfl, rfl, rfl, h1, r1⟩ := trodAll_cons r0
  obtain ⟨rfl, rfl, rfl⟩ := trodAll_nil r1
  obtain rfl : args = #[v0, v1] := by cases args; simp_all
  obtain ⟨rfl, rfl⟩ := trodVars_none hV
  obtain ⟨a0, rfl, _, _, w0⟩ := open_int Tryz.underlying3 (hval 0 3 v0 rfl rfl) h0
  obtain ⟨s1, n1, c1, xs1, rfl, hs1, hn1, hc1, hw1⟩ := open_slI Tryz.underlying22 Tryz.underlying3 (by kernel_rfl) (hval 1 22 v1 rfl rfl) h1 (fun x hx => hlt x (by simp [hx]))
  refine (walkAll a0 s1 n1 c1 xs1 W hs1 (by unfold maxLen at hc1; omega) (fun x hx => i64_of (hw1 x hx))).mono fun e W' ⟨he, hg⟩ => ?_
  subst he
  exact ⟨_, rfl, law_done laidOut Tryz.underlying4 rfl (by kernel_rfl) rfl hW' rfl hg⟩

theorem over : Rows.codeExactRow.holds Tryz.pinned (OpenSpec.ofChange Rows.codeExactSpec) :=
  OpenClaim.holds_of_wide 4 Tryz.f4 rfl rfl rfl rfl rfl rfl rfl ⟨rfl, rfl, rfl, rfl, rfl⟩ rfl rfl rfl rfl rfl (by kernel_rfl) Tryz.func4 (by kernel_rfl)
    (of_decide_eq_true (by kernel_rfl)) (by unfold Func.isWrapper; first | (rw [if_pos (by decide +kernel)]; kernel_rfl) | (rw [if_neg (by decide +kernel)]; exact ⟨rfl, rfl⟩))
    (fun os started H enc _ => lifted os started H enc)

theorem proved : Rows.CodeExactSaid :=
  over
end Go.Proofs.YtlcbmgbnhjgelaaGreat.codeExact
