/- CodeFrames: for every size and every list of numbers (cut to 150 samples) the gains and the frames are those of the spectra of the samples, each told by fit.Frame. No condition. -/
import Derived.Test.YtlcbmgbnhjgelaaGreatRows
import Derived.Test.YtlcbmgbnhjgelaaGreatPkAJ
import Derived.Test.YtlcbmgbnhjgelaaGreatPkAP
import Derived.Test.YtlcbmgbnhjgelaaGreatPkAQ
namespace Go.Proofs.YtlcbmgbnhjgelaaGreat.codeFrames
open Go.ChangeShapes Go.WideShapes Go.ChangeAt Go.RowKit
set_option linter.unusedVariables false
set_option linter.unusedSimpArgs false

set_option maxRecDepth 100000 in
set_option maxHeartbeats 8000000 in
theorem same_fr {X Y : Nat → Prop} {V : World} {x y : Fr} (hx : ToV X V x) (hy : ToV Y V y) :
    Calls Tryz.prog 20 #[.agg (rowN 29 (frC x.F x.s)), .agg (rowN 29 (frC y.F y.s))] V fun e w' => e = .returned (.bool (decide (sameP x.F x.n x.T y.F y.n y.T))) ∧ Old V w' := by
  obtain ⟨p, c, e1, a2, a3, a1, _⟩ := hx
  obtain ⟨q, d, e2, b2, b3, b1, _⟩ := hy
  rw [e1, e2]
  exact Same_any _ _ p q _ _ c d _ _ V a1 b1 (Nat.le_trans a2 a3) (Nat.le_trans b2 b3)
theorem neq_four_same (f : Nat → Int) (w : World) : (binOp .neq 50 (.agg (rowN 4 (blk f))) (.agg (rowN 4 (blk f)))).run Tryz.prog w = .ok (.bool false) w := by
  have h := neq_ints Tryz.underlying50 Tryz.underlying3 (by kernel_rfl) (by kernel_rfl) f f w
  have e : eqB 4 f f = true := decide_eq_true fun _ _ => rfl
  rw [e] at h
  exact h
theorem walk_no (size : Int) (p : Option Addr) (n cap : Nat) (xs : List Int) (w : World) (hs : SlI w .i64 (.slice p n cap) xs) (hn : n ≤ 9223372036854775807) (hx64 : ∀ x ∈ xs, -9223372036854775808 ≤ x ∧ x ≤ 9223372036854775807) (h : ¬ (24 ≤ size ∧ size ≤ 96)) :
    Calls Tryz.prog 3 #[.int .i64 size, .slice p n cap] w fun e w' => e = .returned (.bool true) ∧ Old w w' := by
  have H1 := Lib.hid (few_any p n cap xs w hs hn hx64)
  have HNew := Lib.hid (fun w => CNew_no size w h)
  have HA := Lib.hid (fun w => awake_any w)
  have hc : size < 24 ∨ (24 ≤ size ∧ 96 < size) := by omega
  clear hs hx64 h
  rcases hc with hc | ⟨hc, hc2⟩
  all_goals
    go_enter Tryz.func3, Tryz.ntmps3
    go_wp2_with fail
    refine H1.out.mono ?_
    rintro e w1 ⟨v1, rfl, hv1, o1⟩
    have HO1 := Lib.hid o1
    clear hv1 o1 H1
    go_wp2_with fail
    refine (HNew.out _).mono ?_
    rintro e w2 ⟨rfl, rfl⟩
    go_wp2_with fail
    refine (HA.out _).mono ?_
    rintro e w3 ⟨rfl, o3⟩
    have HO3 := Lib.hid (HO1.out.trans o3)
    clear o3
    go_wp2
    go_ret
    exact ⟨rfl, HO3.out⟩
set_option maxRecDepth 100000 in
set_option maxHeartbeats 8000000 in
theorem walk (size : Int) (p : Option Addr) (n cap : Nat) (xs : List Int) (w : World) (hs : SlI w .i64 (.slice p n cap) xs) (hn : n ≤ 9223372036854775807) (hx64 : ∀ x ∈ xs, -9223372036854775808 ≤ x ∧ x ≤ 9223372036854775807) (z1 : 24 ≤ size) (z2 : size ≤ 96) :
    Calls Tryz.prog 3 #[.int .i64 size, .slice p n cap] w fun e w' => e = .returned (.bool true) ∧ Old w w' := by
  have Hs29 : Hid ((Tryz.prog.info? 55).map (·.size) = some 29) := Lib.hid (by kernel_rfl)
  have Hs16 := Lib.hid Tryz.block_size
  have Hs4 : Hid ((Tryz.prog.info? 50).map (·.size) = some 4) := Lib.hid (by kernel_rfl)
  obtain ⟨z, hz⟩ : ∃ z : Array Value, z = rowN 29 (frC (fun _ => 0) (.slice none 0 0)) := ⟨_, rfl⟩
  have Hzr := Lib.hid hz
  rw [frC_zero] at hz
  have Hz := Lib.hid hz
  have H1 := Lib.hid (few_any p n cap xs w hs hn hx64)
  have HNew := Lib.hid (fun w => CNew_yes size w z1 z2)
  have HA := Lib.hid (fun w => awake_any w)
  have HLN := Lib.hid (fun w => LapNew_any w)
  clear hs hx64 hz
  go_enter Tryz.func3, Tryz.ntmps3
  go_wp2_with fail
  refine H1.out.mono ?_
  rintro e w1 ⟨v1, rfl, hv1, o1⟩
  have hl1 := fewL_len xs
  have hb1 := fewL_bd xs
  generalize fewL xs = us at *
  have HS1 := Lib.hid hv1.sl
  have HO1 := Lib.hid o1
  obtain ⟨p1, n1, c1, rfl, e1, _⟩ := hv1.sl.shape
  have hn1 : n1 ≤ 150 := by omega
  have HL1 := Lib.hid e1.symm
  have HX := Lib.hid hb1
  have hx64 : ∀ x ∈ us, In64 x := fun x h => by have := hb1 x h; unfold In64; omega
  have HX64 := Lib.hid hx64
  clear hv1 o1 H1 e1 hl1 hb1 hx64
  go_wp2_with fail
  refine (HNew.out _).mono ?_
  rintro e w2 ⟨cb, rfl, hcb, _, o2⟩
  have HC := Lib.hid hcb
  have HS2 := Lib.hid (HS1.out.old o2)
  have HO2 := Lib.hid (HO1.out.trans o2)
  obtain ⟨F, hF⟩ : ∃ F : Nat → Int, F = fun j => us.getD j 0 := ⟨_, rfl⟩
  have hFb : ∀ q, -32768 ≤ F q ∧ F q ≤ 32768 := fun q => by rw [hF]; have := samP_at HX.out q; dsimp only; omega
  have hF64 : Fits64 F := fun q => by have := hFb q; omega
  obtain ⟨N, hN⟩ : ∃ N, N = cnt n1 := ⟨_, rfl⟩
  have hNb : N ≤ 10 := by rw [hN]; unfold cnt; omega
  obtain ⟨ex, hex⟩ : ∃ ex, decide ((55 : Int) ≤ size) = ex := ⟨_, rfl⟩
  have HSz := Lib.hid (CSize_any cb size w2 hcb)
  have HEc := CExact_any cb size w2 hcb
  have HWd := Lib.hid (lwide_any p1 n1 c1 us w2 HS2.out hn1)
  have HGl := Lib.hid (fun (q : Option Addr) (c : Nat) (V : World) (h : SlI V .i64 (.slice q n1 c) us) => lgains_any size q n1 c us V h HX64.out hn1)
  have HGc := Lib.hid (fun (q : Option Addr) (c : Nat) (V : World) (hb : CoB V cb size) (h : SlI V .i64 (.slice q n1 c) us) => CGains_any cb size q n1 c us V hb z1 h HX64.out (by omega))
  have HFc := Lib.hid (fun (V : World) (hb : CoB V cb size) (h : SlI V .i64 (.slice p1 n1 c1) us) => CFrames_any cb size p1 n1 c1 us V hb z1 z2 h HX.out (by omega))
  have HSp := Lib.hid (fun (q : Option Addr) (c : Nat) (pg : Option Addr) (cg : Nat) (V : World) (h : SlI V .i64 (.slice q n1 c) us) (hg : SlF 4 V pg N (gnC ex F)) => Spectra_any q n1 c us pg N cg (gnC ex F) V h (by omega) hg)
  rw [← hF, ← hN, hex] at HGl HGc HFc
  rw [← hF, ← hN] at HSp
  rw [hex] at HEc
  obtain ⟨S, hS⟩ : ∃ S, spC ex N F = S := ⟨_, rfl⟩
  have hS' : spectraF N (gnC ex F) N F = S := hS
  have hFit : ∀ k, k < N → ∀ V, Calls Tryz.prog 19 #[.agg (rowN 16 (blk (rowAt S k))), .agg (rowN 4 (blk (gnR ex F k))), .int .i64 size] V fun e w' => ∃ x : Fr, e = .returned (.tuple #[.agg (rowN 29 (frC x.F x.s)), .int .i64 0]) ∧ FitR (rowAt S k) (gnR ex F k) size x ∧ x.n ≤ 2 ∧ ToV (fun k => k < V.heap.size) w' x ∧ Old V w' := fun k hk V =>
    Fit_any _ _ size V (fun j => by rw [← hS]; exact spectraF_in N _ N hF64 _) z1 z2 (by rw [← hS]; exact spectra_small hFb ex N k hk) (gnR_right ex F k)
  have HFit := Lib.hid hFit
  rw [hS] at HFc
  rw [hS'] at HSp
  have HEx := Lib.hid HEc
  have hexs : (ex = true ∧ 55 ≤ size) ∨ (ex = false ∧ size < 55) := by
    rw [← hex]
    by_cases c : 55 ≤ size
    · exact .inl ⟨decide_eq_true c, c⟩
    · exact .inr ⟨decide_eq_false c, by omega⟩
  clear hcb o2 HNew HS1 HO1 hF hFb hF64 hN hex HEc hS hS' hFit
  obtain ⟨d5, hd5⟩ : ∃ d, decide (55 ≤ size) = d := ⟨_, rfl⟩
  have hdx : d5 = ex := by
    rw [← hd5]
    rcases hexs with ⟨e, h⟩ | ⟨e, h⟩
    · rw [e]; exact decide_eq_true h
    · rw [e]; exact decide_eq_false (by omega)
  subst hdx
  clear hexs
  have hbn : (d5 != d5) = false := by simp
  have hsn : (size != size) = false := by simp
  have hdd : decide (55 ≤ size) = d5 := hd5
  clear hd5
  go_wp2_with fail
  refine HSz.out.mono ?_
  rintro e w3 ⟨rfl, rfl⟩
  go_wp2_with fail
  refine HEx.out.mono ?_
  rintro e w3 ⟨rfl, rfl⟩
  go_wp2_with fail
  clear hbn hsn HSz HEx hdd
  refine HWd.out.mono ?_
  rintro e w3 ⟨v3, rfl, hv3, o3⟩
  obtain ⟨q3, n3, c3, rfl, e3, _⟩ := hv3.sl.shape
  obtain rfl : n3 = n1 := by have := HL1.out; omega
  have HX3 := Lib.hid hv3.sl
  have HC3 := Lib.hid (HC.out.old o3)
  have HS3 := Lib.hid (HS2.out.old o3)
  have HO3 := Lib.hid (HO2.out.trans o3)
  have HG3 := Lib.hid (HGl.out q3 c3 w3 hv3.sl)
  clear hv3 o3 e3 HWd HC HS2 HO2 HGl
  go_wp2_with fail
  refine HG3.out.mono ?_
  rintro e w4 ⟨pg, cg, rfl, hg4, o4⟩
  have HG4 := Lib.hid hg4
  have HX4 := Lib.hid (HX3.out.old o4)
  have HC4 := Lib.hid (HC3.out.old o4)
  have HS4 := Lib.hid (HS3.out.old o4)
  have HO4 := Lib.hid (HO3.out.trans o4)
  have HH4 := Lib.hid (HGc.out q3 c3 w4 HC4.out HX4.out)
  clear hg4 o4 HG3 HX3 HC3 HS3 HO3 HGc
  go_wp2_with fail
  refine HH4.out.mono ?_
  rintro e w5 ⟨hg, rfl, hh5, _, o5⟩
  have HH5 := Lib.hid hh5
  have HG5 := Lib.hid (HG4.out.old o5)
  have HX5 := Lib.hid (HX4.out.old o5)
  have HC5 := Lib.hid (HC4.out.old o5)
  have HO5 := Lib.hid (HO4.out.trans o5)
  have HF5 := Lib.hid (HFc.out w5 HC5.out (HS4.out.old o5))
  clear hh5 o5 HH4 HG4 HX4 HC4 HS4 HO4 HFc
  go_wp2_with fail
  refine HF5.out.mono ?_
  rintro e w6 ⟨fb, L, rfl, hfr, hgd, o6⟩
  have HFr6 := Lib.hid hfr
  have HGd := Lib.hid hgd
  have HH6 := Lib.hid (HH5.out.old o6)
  have HG6 := Lib.hid (HG5.out.old o6)
  have HX6 := Lib.hid (HX5.out.old o6)
  have HO6 := Lib.hid (HO5.out.trans o6)
  clear hfr hgd o6 HF5 HH5 HG5 HX5 HC5 HO5
  obtain ⟨T, hT⟩ : ∃ T, T8 = T := ⟨_, rfl⟩
  rw [hT] at HLN HSp
  clear hT
  go_wp2_with fail
  refine (HLN.out _).mono ?_
  rintro e w7 ⟨rfl, o7⟩
  have HSp7 := Lib.hid (HSp.out q3 c3 pg cg w7 (HX6.out.old o7) (HG6.out.old o7))
  have HFr7 := Lib.hid (HFr6.out.old o7)
  have HH7 := Lib.hid (HH6.out.old o7)
  have HG7 := Lib.hid (HG6.out.old o7)
  have HO7 := Lib.hid (HO6.out.trans o7)
  clear o7 HLN HSp HFr6 HH6 HG6 HX6 HO6
  go_wp2_with fail
  refine HSp7.out.mono ?_
  rintro e w8 ⟨ps, cs, rfl, hp8, o8, _⟩
  have HP := Lib.hid hp8.sl
  have HFr := Lib.hid (HFr7.out.old o8)
  have HH := Lib.hid (HH7.out.old o8)
  have HG := Lib.hid (HG7.out.old o8)
  have HO8 := Lib.hid (HO7.out.trans o8)
  clear hp8 o8 HSp7 HFr7 HH7 HG7 HO7
  obtain ⟨ex, hdex⟩ : ∃ e, e = d5 := ⟨_, rfl⟩
  subst hdex
  go_wp2_with fail
  go_loopw [13] (fun i wr => ∃ k : Nat, k ≤ N ∧ i = .int .i64 k ∧ Hid (Old w8 wr)) (fun i _ => N - (intOf i).toNat)
  case atStart => exact ⟨0, by omega, rfl, Lib.hid (Old.refl _)⟩
  case round =>
    obtain ⟨k, hk, rfl, HO⟩ := hrel
    by_cases hlt : k < N
    · have i1 : (0 : Int) ≤ k := by omega
      have i2 : (k : Int) < N := by omega
      obtain ⟨sg, so, rfl, hsg, hsc⟩ := HP.out (by omega)
      obtain ⟨gg, go, rfl, hgg, hgc⟩ := HG.out (by omega)
      have HRows : Hid (∀ V, Old w8 V → (∀ j, j < 16 → V.cell? ⟨sg, so + k * 16 + j, none⟩ = some (.int .i64 (rowAt S k j))) ∧ (∀ j, j < 4 → V.cell? ⟨gg, go + k * 4 + j, none⟩ = some (.int .i64 (gnR ex F k j))) ∧ ∀ j, j < 4 → V.cell? ⟨hg, k * 4 + j, none⟩ = some (.int .i64 (gnR ex F k j))) := Lib.hid fun V hV =>
        ⟨fun j hj => by rw [Nat.add_assoc]; exact (hV.cell (a := ⟨sg, so + (k * 16 + j), none⟩) hsg).trans (hsc _ (by omega)), fun j hj => by rw [Nat.add_assoc]; exact (hV.cell (a := ⟨gg, go + (k * 4 + j), none⟩) hgg).trans (hgc _ (by omega)), fun j hj => (HH.out.old hV).cell (k * 4 + j) (by omega)⟩
      have HSS : Hid (∀ V, Old wr.drew V → (∀ j, j < 16 → V.cell? ⟨sg, so + k * 16 + j, none⟩ = some (.int .i64 (rowAt S k j))) ∧ ∀ j, j < 4 → V.cell? ⟨gg, go + k * 4 + j, none⟩ = some (.int .i64 (gnR ex F k j))) := Lib.hid fun V hV =>
        have h := HRows.out V (HO.out.trans ((Old.drew (Old.refl _)).trans hV))
        ⟨h.1, h.2.1⟩
      have HFk := Lib.hid (HFit.out k hlt)
      obtain ⟨U, hU⟩ : ∃ V, V = wr := ⟨_, rfl⟩
      subst hU
      clear hsc hgc hsg hgg HP HG HH HFit
      go_wp2_with fail
      refine wp_region_held_drew (S := (fun w' => (∀ j, j < 16 → w'.cell? ⟨sg, so + k * 16 + j, none⟩ = some (.int .i64 (rowAt S k j))) ∧ ∀ j, j < 4 → w'.cell? ⟨gg, go + k * 4 + j, none⟩ = some (.int .i64 (gnR ex F k j)))) (by kernel_rfl) ?_ (fun hHeld => ?_)
      · (try dsimp only); exact HSS.out _ (Old.refl _)
      refine wpAnyH_take (i := 0) (oi := ⟨some _, _, _, _, _, _⟩) (v := ?_) rfl (by kernel_rfl) (by kernel_rfl) (by kernel_rfl) (fun _ _ _ h => h) (Or.inl ⟨by kernel_rfl, ?_⟩) (by assumption) ?_; rotate_left; (intro w hSw; (try dsimp only at hSw); go_simp; try with_reducible rfl); try simp only [Act.put, List.setIfInBounds_toArray, List.set_cons_zero, List.set_cons_succ]
      refine wpAnyH_take (i := 1) (oi := ⟨some _, _, _, _, _, _⟩) (v := ?_) rfl (by kernel_rfl) (by kernel_rfl) (by kernel_rfl) (fun _ _ _ h => h) (Or.inl ⟨by kernel_rfl, ?_⟩) (by assumption) ?_; rotate_left; (intro w hSw; (try dsimp only at hSw); go_simp; try with_reducible rfl); try simp only [Act.put, List.setIfInBounds_toArray, List.set_cons_zero, List.set_cons_succ]
      refine wpAnyH_take (i := 2) (oi := ⟨some _, _, _, _, _, _⟩) (v := ?_) rfl (by kernel_rfl) (by kernel_rfl) (by kernel_rfl) (fun _ _ _ h => h) (Or.inl ⟨by kernel_rfl, ?_⟩) (by assumption) ?_; rotate_left; (intro w hSw; (try dsimp only at hSw); go_simp; try with_reducible rfl); try simp only [Act.put, List.setIfInBounds_toArray, List.set_cons_zero, List.set_cons_succ]
      refine wpAnyH_take (i := 3) (oi := ⟨some _, _, _, _, _, _⟩) (v := .agg (rowN 16 (blk (rowAt S k)))) rfl (by kernel_rfl) (by kernel_rfl) (by kernel_rfl) (fun _ _ _ h => h) (yieldsIf_load_blk 16 (rowAt S k) (by kernel_rfl) 53 (.tmp 107) rfl sg (so + k * 16) rfl _ (fun _ h => h.1) Tryz.underlying53 rfl Hs16.out) (by assumption) ?_; try simp only [Act.put, List.setIfInBounds_toArray, List.set_cons_zero, List.set_cons_succ]
      refine wpAnyH_take (i := 4) (oi := ⟨some _, _, _, _, _, _⟩) (v := ?_) rfl (by kernel_rfl) (by kernel_rfl) (by kernel_rfl) (fun _ _ _ h => h) (Or.inl ⟨by kernel_rfl, ?_⟩) (by assumption) ?_; rotate_left; (intro w hSw; (try dsimp only at hSw); go_simp; try with_reducible rfl); try simp only [Act.put, List.setIfInBounds_toArray, List.set_cons_zero, List.set_cons_succ]
      refine wpAnyH_take (i := 5) (oi := ⟨some _, _, _, _, _, _⟩) (v := ?_) rfl (by kernel_rfl) (by kernel_rfl) (by kernel_rfl) (fun _ _ _ h => h) (Or.inl ⟨by kernel_rfl, ?_⟩) (by assumption) ?_; rotate_left; (intro w hSw; (try dsimp only at hSw); go_simp; try with_reducible rfl); try simp only [Act.put, List.setIfInBounds_toArray, List.set_cons_zero, List.set_cons_succ]
      refine wpAnyH_take (i := 6) (oi := ⟨some _, _, _, _, _, _⟩) (v := ?_) rfl (by kernel_rfl) (by kernel_rfl) (by kernel_rfl) (fun _ _ _ h => h) (Or.inl ⟨by kernel_rfl, ?_⟩) (by assumption) ?_; rotate_left; (intro w hSw; (try dsimp only at hSw); go_simp; try with_reducible rfl); try simp only [Act.put, List.setIfInBounds_toArray, List.set_cons_zero, List.set_cons_succ]
      refine wpAnyH_take (i := 7) (oi := ⟨some _, _, _, _, _, _⟩) (v := .agg (rowN 4 (blk (gnR ex F k)))) rfl (by kernel_rfl) (by kernel_rfl) (by kernel_rfl) (fun _ _ _ h => h) (yieldsIf_load_blk 4 (gnR ex F k) (by kernel_rfl) 50 (.tmp 111) rfl gg (go + k * 4) rfl _ (fun _ h => h.2) Tryz.underlying50 rfl Hs4.out) (by assumption) ?_; try simp only [Act.put, List.setIfInBounds_toArray, List.set_cons_zero, List.set_cons_succ]
      refine wpAnyH_take (i := 8) (oi := ⟨some _, _, _, _, _, _⟩) (v := ?_) rfl (by kernel_rfl) (by kernel_rfl) (by kernel_rfl) (fun _ _ _ h => h) (Or.inl ⟨by kernel_rfl, ?_⟩) (by assumption) ?_; rotate_left; (intro w hSw; (try dsimp only at hSw); go_simp; try with_reducible rfl); try simp only [Act.put, List.setIfInBounds_toArray, List.set_cons_zero, List.set_cons_succ]
      refine wpAnyH_ready (rs := [9, 13]) (by kernel_rfl) (by simp) ?_
      (refine AllReadyH.cons (o := ⟨_, _, _, _, _, _⟩) (by rfl) ?_ (AllReadyH.cons (o := ⟨_, _, _, _, _, _⟩) (by rfl) ?_ AllReadyH.nil)) <;> intro K hK
      · go_simp
        refine (HFk.out _).mono ?_
        rintro e V1 ⟨x, rfl, hfit, hx2, ht1, o1⟩
        have HX := Lib.hid hfit
        have HO1 := Lib.hid o1
        have HT1 := Lib.hid ht1
        have H1x : Hid ((rowN 29 (frC x.F x.s)).all (·.oneCell') = true) := Lib.hid (frC_one _ _ ht1.one)
        clear hfit hx2 ht1 o1
        go_wp2_with fail
        refine hK.out _ _ ?_ (fun hHeld => ?_)
        · (try dsimp only); exact HSS.out _ HO1.out
        clear hK K
        try simp only [Act.put, List.setIfInBounds_toArray, List.set_cons_zero, List.set_cons_succ]
        refine wpAnyH_take (i := 10) (oi := ⟨some _, _, _, _, _, _⟩) (v := ?_) rfl (by kernel_rfl) (by kernel_rfl) (by kernel_rfl) (fun _ _ _ h => h) (Or.inl ⟨by kernel_rfl, ?_⟩) (by assumption) ?_; rotate_left; (intro w hSw; (try dsimp only at hSw); go_simp; try with_reducible rfl); try simp only [Act.put, List.setIfInBounds_toArray, List.set_cons_zero, List.set_cons_succ]
        refine wpAnyH_take (i := 11) (oi := ⟨some _, _, _, _, _, _⟩) (v := ?_) rfl (by kernel_rfl) (by kernel_rfl) (by kernel_rfl) (fun _ _ _ h => h) (Or.inl ⟨by kernel_rfl, ?_⟩) (by assumption) ?_; rotate_left; (intro w hSw; (try dsimp only at hSw); go_simp; try with_reducible rfl); try simp only [Act.put, List.setIfInBounds_toArray, List.set_cons_zero, List.set_cons_succ]
        refine wpAnyH_take (i := 12) (oi := ⟨some _, _, _, _, _, _⟩) (v := ?_) rfl (by kernel_rfl) (by kernel_rfl) (by kernel_rfl) (fun _ _ _ h => h) (Or.inl ⟨by kernel_rfl, ?_⟩) (by assumption) ?_; rotate_left; (intro w hSw; (try dsimp only at hSw); go_simp; try with_reducible rfl); try simp only [Act.put, List.setIfInBounds_toArray, List.set_cons_zero, List.set_cons_succ]
        refine wpAnyH_ready (rs := [13]) (by kernel_rfl) (by simp) ?_
        refine AllReadyH.cons (o := ⟨_, _, _, _, _, _⟩) (by rfl) ?_ AllReadyH.nil
        intro K hK
        go_simp
        rw [← Hz.out]
        refine hK.out _ _ ?_ (fun hHeld => ?_)
        · (try dsimp only); exact HSS.out _ (HO1.out.alloc' _)
        clear hK K
        try simp only [Act.put, List.setIfInBounds_toArray, List.set_cons_zero, List.set_cons_succ]
        refine wpAnyH_ready (rs := [14]) (by kernel_rfl) (by simp) ?_
        refine AllReadyH.cons (o := ⟨_, _, _, _, _, _⟩) (by rfl) ?_ AllReadyH.nil
        intro K hK
        have hGot := gotF_call z 55 Hzr.out HO1.out HT1.out
        rw [if_pos (by kernel_rfl)]
        with_reducible refine wp_store_mid 55 _ _ rfl (V1.heap.size) (0) (rowN 29 (frC x.F x.s)) rfl rfl (by rw [rowN_size]; exact (newFr V1 z 55 Hzr.out).there 0 29 (by omega)) (by rw [rowN_size]; exact Hs29.out) (H1x.out) ?_
        try simp only [Act.put, List.setIfInBounds_toArray, List.set_cons_zero, List.set_cons_succ]
        refine hK.out _ _ ?_ (fun hHeld => ?_)
        · (try dsimp only); exact HSS.out _ hGot.old
        clear hK K
        try simp only [Act.put, List.setIfInBounds_toArray, List.set_cons_zero, List.set_cons_succ]
        refine wpAnyH_take (i := 15) (oi := ⟨some _, _, _, _, _, _⟩) (v := ?_) rfl (by kernel_rfl) (by kernel_rfl) (by kernel_rfl) (fun _ _ _ h => h) (Or.inl ⟨by kernel_rfl, ?_⟩) (by assumption) ?_; rotate_left; (intro w hSw; (try dsimp only at hSw); go_simp; try with_reducible rfl); try simp only [Act.put, List.setIfInBounds_toArray, List.set_cons_zero, List.set_cons_succ]
        refine wpAnyH_done (by kernel_rfl) ?_ _
        obtain ⟨V9, hV9⟩ : ∃ V, V = (V1.alloc (.cells z 55)).setCells V1.heap.size 0 (rowN 29 (frC x.F x.s)).toList := ⟨_, rfl⟩
        obtain ⟨nb, hnb⟩ : ∃ q, q = V1.heap.size := ⟨_, rfl⟩
        rw [← hV9, ← hnb] at hGot
        rw [← hV9, ← hnb]
        clear hV9 hnb HO1 HT1 H1x
        have hGx : sameP (L k).F (L k).n (L k).T x.F x.n x.T := fitR_same (HGd.out k hlt).1 HX.out
        have HGx := Lib.hid hGx
        have HO9 := Lib.hid ((Old.drew (Old.refl U)).trans hGot.old)
        have HO9w := Lib.hid (HO.out.trans HO9.out)
        have hbox9 : ∀ V, Old V9 V → ∀ j, j < 29 → V.cell? ⟨nb, 0 + j, none⟩ = some (frC x.F x.s j) := fun V hV j hj => by rw [Nat.zero_add]; exact (hGot.at_.old hV).cell j hj
        have hS9 := same_fr (V := V9.drew) (((HFr.out.old HO9w.out).old (Old.drew (Old.refl _))).2 k hlt) (hGot.tn.old (Old.drew (Old.refl _)))
        rw [decide_eq_true hGx] at hS9
        have HS9 := Lib.hid hS9
        have HQ : Hid (∀ V, Old V9.drew V → (∀ j, j < 29 → V.cell? ⟨fb, k * 29 + j, none⟩ = some (frC (L k).F (L k).s j)) ∧ (∀ j, j < 29 → V.cell? ⟨nb, 0 + j, none⟩ = some (frC x.F x.s j)) ∧ (∀ j, j < 4 → V.cell? ⟨hg, k * 4 + j, none⟩ = some (.int .i64 (gnR ex F k j))) ∧ ∀ j, j < 4 → V.cell? ⟨gg, go + k * 4 + j, none⟩ = some (.int .i64 (gnR ex F k j))) := Lib.hid fun V hV => by
          have hw := HO9w.out.trans ((Old.drew (Old.refl _)).trans hV)
          refine ⟨?_, hbox9 V ((Old.drew (Old.refl _)).trans hV), (HRows.out V hw).2.2, (HRows.out V hw).2.1⟩
          obtain ⟨g1, f1, e1, _, hc1⟩ := (HFr.out.old hw).row k hlt
          simp only [Option.some.injEq, Addr.mk.injEq] at e1
          obtain ⟨rfl, rfl, _⟩ := e1
          exact fun j hj => by have := hc1 j hj; rwa [Nat.zero_add] at this
        have hNq := fun w => neq_four_same (gnR ex F k) w
        clear hGx hGot hbox9 hS9 HSS HFk HX HO HO9 HRows
        go_wp2_with fail
        refine wp_region_held_drew (S := (fun w' => (∀ j, j < 29 → w'.cell? ⟨fb, k * 29 + j, none⟩ = some (frC (L k).F (L k).s j)) ∧ (∀ j, j < 29 → w'.cell? ⟨nb, 0 + j, none⟩ = some (frC x.F x.s j)) ∧ (∀ j, j < 4 → w'.cell? ⟨hg, k * 4 + j, none⟩ = some (.int .i64 (gnR ex F k j))) ∧ ∀ j, j < 4 → w'.cell? ⟨gg, go + k * 4 + j, none⟩ = some (.int .i64 (gnR ex F k j)))) (by kernel_rfl) ?_ (fun hHeld => ?_)
        · (try dsimp only); exact HQ.out _ (Old.refl _)
        refine wpAnyH_take (i := 0) (oi := ⟨some _, _, _, _, _, _⟩) (v := ?_) rfl (by kernel_rfl) (by kernel_rfl) (by kernel_rfl) (fun _ _ _ h => h) (Or.inl ⟨by kernel_rfl, ?_⟩) (by assumption) ?_; rotate_left; (intro w hSw; (try dsimp only at hSw); go_simp; try with_reducible rfl); try simp only [Act.put, List.setIfInBounds_toArray, List.set_cons_zero, List.set_cons_succ]
        refine wpAnyH_take (i := 1) (oi := ⟨some _, _, _, _, _, _⟩) (v := ?_) rfl (by kernel_rfl) (by kernel_rfl) (by kernel_rfl) (fun _ _ _ h => h) (Or.inl ⟨by kernel_rfl, ?_⟩) (by assumption) ?_; rotate_left; (intro w hSw; (try dsimp only at hSw); go_simp; try with_reducible rfl); try simp only [Act.put, List.setIfInBounds_toArray, List.set_cons_zero, List.set_cons_succ]
        refine wpAnyH_take (i := 2) (oi := ⟨some _, _, _, _, _, _⟩) (v := ?_) rfl (by kernel_rfl) (by kernel_rfl) (by kernel_rfl) (fun _ _ _ h => h) (Or.inl ⟨by kernel_rfl, ?_⟩) (by assumption) ?_; rotate_left; (intro w hSw; (try dsimp only at hSw); go_simp; try with_reducible rfl); try simp only [Act.put, List.setIfInBounds_toArray, List.set_cons_zero, List.set_cons_succ]
        refine wpAnyH_take (i := 3) (oi := ⟨some _, _, _, _, _, _⟩) (v := ?_) rfl (by kernel_rfl) (by kernel_rfl) (by kernel_rfl) (fun _ _ _ h => h) (Or.inl ⟨by kernel_rfl, ?_⟩) (by assumption) ?_; rotate_left; (intro w hSw; (try dsimp only at hSw); go_simp; try with_reducible rfl); try simp only [Act.put, List.setIfInBounds_toArray, List.set_cons_zero, List.set_cons_succ]
        refine wpAnyH_take (i := 4) (oi := ⟨some _, _, _, _, _, _⟩) (v := ?_) rfl (by kernel_rfl) (by kernel_rfl) (by kernel_rfl) (fun _ _ _ h => h) (Or.inl ⟨by kernel_rfl, ?_⟩) (by assumption) ?_; rotate_left; (intro w hSw; (try dsimp only at hSw); go_simp; try with_reducible rfl); try simp only [Act.put, List.setIfInBounds_toArray, List.set_cons_zero, List.set_cons_succ]
        refine wpAnyH_take (i := 5) (oi := ⟨some _, _, _, _, _, _⟩) (v := ?_) rfl (by kernel_rfl) (by kernel_rfl) (by kernel_rfl) (fun _ _ _ h => h) (Or.inl ⟨by kernel_rfl, ?_⟩) (by assumption) ?_; rotate_left; (intro w hSw; (try dsimp only at hSw); go_simp; try with_reducible rfl); try simp only [Act.put, List.setIfInBounds_toArray, List.set_cons_zero, List.set_cons_succ]
        refine wpAnyH_take (i := 6) (oi := ⟨some _, _, _, _, _, _⟩) (v := .agg (rowN 29 (frC (L k).F (L k).s))) rfl (by kernel_rfl) (by kernel_rfl) (by kernel_rfl) (fun _ _ _ h => h) (yieldsIf_load_fr (frC (L k).F (L k).s) (by kernel_rfl) 55 (.tmp 122) rfl fb (k * 29) rfl _ (fun _ h => h.1) Tryz.underlying55 rfl Hs29.out) (by assumption) ?_; try simp only [Act.put, List.setIfInBounds_toArray, List.set_cons_zero, List.set_cons_succ]
        refine wpAnyH_take (i := 7) (oi := ⟨some _, _, _, _, _, _⟩) (v := .agg (rowN 29 (frC x.F x.s))) rfl (by kernel_rfl) (by kernel_rfl) (by kernel_rfl) (fun _ _ _ h => h) (yieldsIf_load_fr (frC x.F x.s) (by kernel_rfl) 55 (.tmp 14) rfl nb 0 rfl _ (fun _ h => h.2.1) Tryz.underlying55 rfl Hs29.out) (by assumption) ?_; try simp only [Act.put, List.setIfInBounds_toArray, List.set_cons_zero, List.set_cons_succ]
        refine wpAnyH_ready (rs := [8]) (by kernel_rfl) (by simp) ?_
        refine AllReadyH.cons (o := ⟨_, _, _, _, _, _⟩) (by rfl) ?_ AllReadyH.nil
        intro K hK
        go_simp
        refine HS9.out.mono ?_
        rintro e V2 ⟨rfl, o2⟩
        have HO2 := Lib.hid o2
        clear o2 HS9
        go_wp2_with fail
        refine hK.out _ _ ?_ (fun hHeld => ?_)
        · (try dsimp only); exact HQ.out _ HO2.out
        clear hK K
        try simp only [Act.put, List.setIfInBounds_toArray, List.set_cons_zero, List.set_cons_succ]
        refine wpAnyH_take (i := 9) (oi := ⟨some _, _, _, _, _, _⟩) (v := ?_) rfl (by kernel_rfl) (by kernel_rfl) (by kernel_rfl) (fun _ _ _ h => h) (Or.inl ⟨by kernel_rfl, ?_⟩) (by assumption) ?_; rotate_left; (intro w hSw; (try dsimp only at hSw); go_simp; try with_reducible rfl); try simp only [Act.put, List.setIfInBounds_toArray, List.set_cons_zero, List.set_cons_succ]
        refine wpAnyH_take (i := 10) (oi := ⟨some _, _, _, _, _, _⟩) (v := ?_) rfl (by kernel_rfl) (by kernel_rfl) (by kernel_rfl) (fun _ _ _ h => h) (Or.inl ⟨by kernel_rfl, ?_⟩) (by assumption) ?_; rotate_left; (intro w hSw; (try dsimp only at hSw); go_simp; try with_reducible rfl); try simp only [Act.put, List.setIfInBounds_toArray, List.set_cons_zero, List.set_cons_succ]
        refine wpAnyH_take (i := 11) (oi := ⟨some _, _, _, _, _, _⟩) (v := ?_) rfl (by kernel_rfl) (by kernel_rfl) (by kernel_rfl) (fun _ _ _ h => h) (Or.inl ⟨by kernel_rfl, ?_⟩) (by assumption) ?_; rotate_left; (intro w hSw; (try dsimp only at hSw); go_simp; try with_reducible rfl); try simp only [Act.put, List.setIfInBounds_toArray, List.set_cons_zero, List.set_cons_succ]
        refine wpAnyH_take (i := 12) (oi := ⟨some _, _, _, _, _, _⟩) (v := ?_) rfl (by kernel_rfl) (by kernel_rfl) (by kernel_rfl) (fun _ _ _ h => h) (Or.inl ⟨by kernel_rfl, ?_⟩) (by assumption) ?_; rotate_left; (intro w hSw; (try dsimp only at hSw); go_simp; try with_reducible rfl); try simp only [Act.put, List.setIfInBounds_toArray, List.set_cons_zero, List.set_cons_succ]
        refine wpAnyH_take (i := 13) (oi := ⟨some _, _, _, _, _, _⟩) (v := ?_) rfl (by kernel_rfl) (by kernel_rfl) (by kernel_rfl) (fun _ _ _ h => h) (Or.inl ⟨by kernel_rfl, ?_⟩) (by assumption) ?_; rotate_left; (intro w hSw; (try dsimp only at hSw); go_simp; try with_reducible rfl); try simp only [Act.put, List.setIfInBounds_toArray, List.set_cons_zero, List.set_cons_succ]
        refine wpAnyH_take (i := 14) (oi := ⟨some _, _, _, _, _, _⟩) (v := ?_) rfl (by kernel_rfl) (by kernel_rfl) (by kernel_rfl) (fun _ _ _ h => h) (Or.inl ⟨by kernel_rfl, ?_⟩) (by assumption) ?_; rotate_left; (intro w hSw; (try dsimp only at hSw); go_simp; try with_reducible rfl); try simp only [Act.put, List.setIfInBounds_toArray, List.set_cons_zero, List.set_cons_succ]
        refine wpAnyH_take (i := 15) (oi := ⟨some _, _, _, _, _, _⟩) (v := .agg (rowN 4 (blk (gnR ex F k)))) rfl (by kernel_rfl) (by kernel_rfl) (by kernel_rfl) (fun _ _ _ h => h) (yieldsIf_load_blk 4 (gnR ex F k) (by kernel_rfl) 50 (.tmp 131) rfl hg (k * 4) rfl _ (fun _ h => h.2.2.1) Tryz.underlying50 rfl Hs4.out) (by assumption) ?_; try simp only [Act.put, List.setIfInBounds_toArray, List.set_cons_zero, List.set_cons_succ]
        refine wpAnyH_take (i := 16) (oi := ⟨some _, _, _, _, _, _⟩) (v := ?_) rfl (by kernel_rfl) (by kernel_rfl) (by kernel_rfl) (fun _ _ _ h => h) (Or.inl ⟨by kernel_rfl, ?_⟩) (by assumption) ?_; rotate_left; (intro w hSw; (try dsimp only at hSw); go_simp; try with_reducible rfl); try simp only [Act.put, List.setIfInBounds_toArray, List.set_cons_zero, List.set_cons_succ]
        refine wpAnyH_take (i := 17) (oi := ⟨some _, _, _, _, _, _⟩) (v := ?_) rfl (by kernel_rfl) (by kernel_rfl) (by kernel_rfl) (fun _ _ _ h => h) (Or.inl ⟨by kernel_rfl, ?_⟩) (by assumption) ?_; rotate_left; (intro w hSw; (try dsimp only at hSw); go_simp; try with_reducible rfl); try simp only [Act.put, List.setIfInBounds_toArray, List.set_cons_zero, List.set_cons_succ]
        refine wpAnyH_take (i := 18) (oi := ⟨some _, _, _, _, _, _⟩) (v := ?_) rfl (by kernel_rfl) (by kernel_rfl) (by kernel_rfl) (fun _ _ _ h => h) (Or.inl ⟨by kernel_rfl, ?_⟩) (by assumption) ?_; rotate_left; (intro w hSw; (try dsimp only at hSw); go_simp; try with_reducible rfl); try simp only [Act.put, List.setIfInBounds_toArray, List.set_cons_zero, List.set_cons_succ]
        refine wpAnyH_take (i := 19) (oi := ⟨some _, _, _, _, _, _⟩) (v := .agg (rowN 4 (blk (gnR ex F k)))) rfl (by kernel_rfl) (by kernel_rfl) (by kernel_rfl) (fun _ _ _ h => h) (yieldsIf_load_blk 4 (gnR ex F k) (by kernel_rfl) 50 (.tmp 135) rfl gg (go + k * 4) rfl _ (fun _ h => h.2.2.2) Tryz.underlying50 rfl Hs4.out) (by assumption) ?_; try simp only [Act.put, List.setIfInBounds_toArray, List.set_cons_zero, List.set_cons_succ]
        refine wpAnyH_take (i := 20) (oi := ⟨some _, _, _, _, _, _⟩) (v := ?_) rfl (by kernel_rfl) (by kernel_rfl) (by kernel_rfl) (fun _ _ _ h => h) (Or.inl ⟨by kernel_rfl, ?_⟩) (by assumption) ?_; rotate_left; (intro w hSw; (try dsimp only at hSw); go_simp; try with_reducible rfl); try simp only [Act.put, List.setIfInBounds_toArray, List.set_cons_zero, List.set_cons_succ]
        refine wpAnyH_take (i := 21) (oi := ⟨some _, _, _, _, _, _⟩) (v := ?_) rfl (by kernel_rfl) (by kernel_rfl) (by kernel_rfl) (fun _ _ _ h => h) (Or.inl ⟨by kernel_rfl, ?_⟩) (by assumption) ?_; rotate_left; (intro w hSw; (try dsimp only at hSw); go_simp; try with_reducible rfl); try simp only [Act.put, List.setIfInBounds_toArray, List.set_cons_zero, List.set_cons_succ]
        refine wpAnyH_done (by kernel_rfl) ?_ _
        have HOw := Lib.hid (HO9w.out.trans ((Old.drew (Old.refl _)).trans HO2.out))
        clear HQ HO2 HO9w hNq
        go_wp2_with fail
        go_roundw
        case rel => exact ⟨k + 1, by omega, by go_num, HOw⟩
        case measure => (simp [intOf]; try omega)
      · go_simp
        rw [← Hz.out]
        refine hK.out _ _ ?_ (fun hHeld => ?_)
        · (try dsimp only); exact HSS.out _ ((Old.refl _).alloc' _)
        clear hK K
        try simp only [Act.put, List.setIfInBounds_toArray, List.set_cons_zero, List.set_cons_succ]
        refine wpAnyH_ready (rs := [9]) (by kernel_rfl) (by simp) ?_
        refine AllReadyH.cons (o := ⟨_, _, _, _, _, _⟩) (by rfl) ?_ AllReadyH.nil
        intro K hK
        go_simp
        refine (HFk.out _).mono ?_
        rintro e V1 ⟨x, rfl, hfit, hx2, ht1, o1⟩
        have HX := Lib.hid hfit
        have HO1 := Lib.hid o1
        have HT1 := Lib.hid ht1
        have H1x : Hid ((rowN 29 (frC x.F x.s)).all (·.oneCell') = true) := Lib.hid (frC_one _ _ ht1.one)
        clear hfit hx2 ht1 o1
        go_wp2_with fail
        refine hK.out _ _ ?_ (fun hHeld => ?_)
        · (try dsimp only); exact HSS.out _ (((Old.refl _).alloc' _).trans HO1.out)
        clear hK K
        try simp only [Act.put, List.setIfInBounds_toArray, List.set_cons_zero, List.set_cons_succ]
        refine wpAnyH_take (i := 10) (oi := ⟨some _, _, _, _, _, _⟩) (v := ?_) rfl (by kernel_rfl) (by kernel_rfl) (by kernel_rfl) (fun _ _ _ h => h) (Or.inl ⟨by kernel_rfl, ?_⟩) (by assumption) ?_; rotate_left; (intro w hSw; (try dsimp only at hSw); go_simp; try with_reducible rfl); try simp only [Act.put, List.setIfInBounds_toArray, List.set_cons_zero, List.set_cons_succ]
        refine wpAnyH_take (i := 11) (oi := ⟨some _, _, _, _, _, _⟩) (v := ?_) rfl (by kernel_rfl) (by kernel_rfl) (by kernel_rfl) (fun _ _ _ h => h) (Or.inl ⟨by kernel_rfl, ?_⟩) (by assumption) ?_; rotate_left; (intro w hSw; (try dsimp only at hSw); go_simp; try with_reducible rfl); try simp only [Act.put, List.setIfInBounds_toArray, List.set_cons_zero, List.set_cons_succ]
        refine wpAnyH_take (i := 12) (oi := ⟨some _, _, _, _, _, _⟩) (v := ?_) rfl (by kernel_rfl) (by kernel_rfl) (by kernel_rfl) (fun _ _ _ h => h) (Or.inl ⟨by kernel_rfl, ?_⟩) (by assumption) ?_; rotate_left; (intro w hSw; (try dsimp only at hSw); go_simp; try with_reducible rfl); try simp only [Act.put, List.setIfInBounds_toArray, List.set_cons_zero, List.set_cons_succ]
        refine wpAnyH_ready (rs := [14]) (by kernel_rfl) (by simp) ?_
        refine AllReadyH.cons (o := ⟨_, _, _, _, _, _⟩) (by rfl) ?_ AllReadyH.nil
        intro K hK
        have hTh : V1.there U.heap.size 0 29 := ((newFr U.drew z 55 Hzr.out).old HO1.out).there 0 29 (by omega)
        have hGot : GotF U.drew U.heap.size x (V1.setCells U.heap.size 0 (rowN 29 (frC x.F x.s)).toList) := gotF_alloc (U := U.drew) z 55 Hzr.out HO1.out HT1.out
        rw [if_pos (by kernel_rfl)]
        with_reducible refine wp_store_mid 55 _ _ rfl (U.heap.size) (0) (rowN 29 (frC x.F x.s)) rfl rfl (by rw [rowN_size]; exact hTh) (by rw [rowN_size]; exact Hs29.out) (H1x.out) ?_
        try simp only [Act.put, List.setIfInBounds_toArray, List.set_cons_zero, List.set_cons_succ]
        refine hK.out _ _ ?_ (fun hHeld => ?_)
        · (try dsimp only); exact HSS.out _ hGot.old
        clear hK K
        try simp only [Act.put, List.setIfInBounds_toArray, List.set_cons_zero, List.set_cons_succ]
        refine wpAnyH_take (i := 15) (oi := ⟨some _, _, _, _, _, _⟩) (v := ?_) rfl (by kernel_rfl) (by kernel_rfl) (by kernel_rfl) (fun _ _ _ h => h) (Or.inl ⟨by kernel_rfl, ?_⟩) (by assumption) ?_; rotate_left; (intro w hSw; (try dsimp only at hSw); go_simp; try with_reducible rfl); try simp only [Act.put, List.setIfInBounds_toArray, List.set_cons_zero, List.set_cons_succ]
        refine wpAnyH_done (by kernel_rfl) ?_ _
        obtain ⟨V9, hV9⟩ : ∃ V, V = V1.setCells U.heap.size 0 (rowN 29 (frC x.F x.s)).toList := ⟨_, rfl⟩
        obtain ⟨nb, hnb⟩ : ∃ q, q = U.heap.size := ⟨_, rfl⟩
        rw [← hV9, ← hnb] at hGot
        rw [← hV9, ← hnb]
        clear hV9 hnb HO1 HT1 H1x hTh
        have hGx : sameP (L k).F (L k).n (L k).T x.F x.n x.T := fitR_same (HGd.out k hlt).1 HX.out
        have HGx := Lib.hid hGx
        have HO9 := Lib.hid ((Old.drew (Old.refl U)).trans hGot.old)
        have HO9w := Lib.hid (HO.out.trans HO9.out)
        have hbox9 : ∀ V, Old V9 V → ∀ j, j < 29 → V.cell? ⟨nb, 0 + j, none⟩ = some (frC x.F x.s j) := fun V hV j hj => by rw [Nat.zero_add]; exact (hGot.at_.old hV).cell j hj
        have hS9 := same_fr (V := V9.drew) (((HFr.out.old HO9w.out).old (Old.drew (Old.refl _))).2 k hlt) (hGot.tn.old (Old.drew (Old.refl _)))
        rw [decide_eq_true hGx] at hS9
        have HS9 := Lib.hid hS9
        have HQ : Hid (∀ V, Old V9.drew V → (∀ j, j < 29 → V.cell? ⟨fb, k * 29 + j, none⟩ = some (frC (L k).F (L k).s j)) ∧ (∀ j, j < 29 → V.cell? ⟨nb, 0 + j, none⟩ = some (frC x.F x.s j)) ∧ (∀ j, j < 4 → V.cell? ⟨hg, k * 4 + j, none⟩ = some (.int .i64 (gnR ex F k j))) ∧ ∀ j, j < 4 → V.cell? ⟨gg, go + k * 4 + j, none⟩ = some (.int .i64 (gnR ex F k j))) := Lib.hid fun V hV => by
          have hw := HO9w.out.trans ((Old.drew (Old.refl _)).trans hV)
          refine ⟨?_, hbox9 V ((Old.drew (Old.refl _)).trans hV), (HRows.out V hw).2.2, (HRows.out V hw).2.1⟩
          obtain ⟨g1, f1, e1, _, hc1⟩ := (HFr.out.old hw).row k hlt
          simp only [Option.some.injEq, Addr.mk.injEq] at e1
          obtain ⟨rfl, rfl, _⟩ := e1
          exact fun j hj => by have := hc1 j hj; rwa [Nat.zero_add] at this
        have hNq := fun w => neq_four_same (gnR ex F k) w
        clear hGx hGot hbox9 hS9 HSS HFk HX HO HO9 HRows
        go_wp2_with fail
        refine wp_region_held_drew (S := (fun w' => (∀ j, j < 29 → w'.cell? ⟨fb, k * 29 + j, none⟩ = some (frC (L k).F (L k).s j)) ∧ (∀ j, j < 29 → w'.cell? ⟨nb, 0 + j, none⟩ = some (frC x.F x.s j)) ∧ (∀ j, j < 4 → w'.cell? ⟨hg, k * 4 + j, none⟩ = some (.int .i64 (gnR ex F k j))) ∧ ∀ j, j < 4 → w'.cell? ⟨gg, go + k * 4 + j, none⟩ = some (.int .i64 (gnR ex F k j)))) (by kernel_rfl) ?_ (fun hHeld => ?_)
        · (try dsimp only); exact HQ.out _ (Old.refl _)
        refine wpAnyH_take (i := 0) (oi := ⟨some _, _, _, _, _, _⟩) (v := ?_) rfl (by kernel_rfl) (by kernel_rfl) (by kernel_rfl) (fun _ _ _ h => h) (Or.inl ⟨by kernel_rfl, ?_⟩) (by assumption) ?_; rotate_left; (intro w hSw; (try dsimp only at hSw); go_simp; try with_reducible rfl); try simp only [Act.put, List.setIfInBounds_toArray, List.set_cons_zero, List.set_cons_succ]
        refine wpAnyH_take (i := 1) (oi := ⟨some _, _, _, _, _, _⟩) (v := ?_) rfl (by kernel_rfl) (by kernel_rfl) (by kernel_rfl) (fun _ _ _ h => h) (Or.inl ⟨by kernel_rfl, ?_⟩) (by assumption) ?_; rotate_left; (intro w hSw; (try dsimp only at hSw); go_simp; try with_reducible rfl); try simp only [Act.put, List.setIfInBounds_toArray, List.set_cons_zero, List.set_cons_succ]
        refine wpAnyH_take (i := 2) (oi := ⟨some _, _, _, _, _, _⟩) (v := ?_) rfl (by kernel_rfl) (by kernel_rfl) (by kernel_rfl) (fun _ _ _ h => h) (Or.inl ⟨by kernel_rfl, ?_⟩) (by assumption) ?_; rotate_left; (intro w hSw; (try dsimp only at hSw); go_simp; try with_reducible rfl); try simp only [Act.put, List.setIfInBounds_toArray, List.set_cons_zero, List.set_cons_succ]
        refine wpAnyH_take (i := 3) (oi := ⟨some _, _, _, _, _, _⟩) (v := ?_) rfl (by kernel_rfl) (by kernel_rfl) (by kernel_rfl) (fun _ _ _ h => h) (Or.inl ⟨by kernel_rfl, ?_⟩) (by assumption) ?_; rotate_left; (intro w hSw; (try dsimp only at hSw); go_simp; try with_reducible rfl); try simp only [Act.put, List.setIfInBounds_toArray, List.set_cons_zero, List.set_cons_succ]
        refine wpAnyH_take (i := 4) (oi := ⟨some _, _, _, _, _, _⟩) (v := ?_) rfl (by kernel_rfl) (by kernel_rfl) (by kernel_rfl) (fun _ _ _ h => h) (Or.inl ⟨by kernel_rfl, ?_⟩) (by assumption) ?_; rotate_left; (intro w hSw; (try dsimp only at hSw); go_simp; try with_reducible rfl); try simp only [Act.put, List.setIfInBounds_toArray, List.set_cons_zero, List.set_cons_succ]
        refine wpAnyH_take (i := 5) (oi := ⟨some _, _, _, _, _, _⟩) (v := ?_) rfl (by kernel_rfl) (by kernel_rfl) (by kernel_rfl) (fun _ _ _ h => h) (Or.inl ⟨by kernel_rfl, ?_⟩) (by assumption) ?_; rotate_left; (intro w hSw; (try dsimp only at hSw); go_simp; try with_reducible rfl); try simp only [Act.put, List.setIfInBounds_toArray, List.set_cons_zero, List.set_cons_succ]
        refine wpAnyH_take (i := 6) (oi := ⟨some _, _, _, _, _, _⟩) (v := .agg (rowN 29 (frC (L k).F (L k).s))) rfl (by kernel_rfl) (by kernel_rfl) (by kernel_rfl) (fun _ _ _ h => h) (yieldsIf_load_fr (frC (L k).F (L k).s) (by kernel_rfl) 55 (.tmp 122) rfl fb (k * 29) rfl _ (fun _ h => h.1) Tryz.underlying55 rfl Hs29.out) (by assumption) ?_; try simp only [Act.put, List.setIfInBounds_toArray, List.set_cons_zero, List.set_cons_succ]
        refine wpAnyH_take (i := 7) (oi := ⟨some _, _, _, _, _, _⟩) (v := .agg (rowN 29 (frC x.F x.s))) rfl (by kernel_rfl) (by kernel_rfl) (by kernel_rfl) (fun _ _ _ h => h) (yieldsIf_load_fr (frC x.F x.s) (by kernel_rfl) 55 (.tmp 14) rfl nb 0 rfl _ (fun _ h => h.2.1) Tryz.underlying55 rfl Hs29.out) (by assumption) ?_; try simp only [Act.put, List.setIfInBounds_toArray, List.set_cons_zero, List.set_cons_succ]
        refine wpAnyH_ready (rs := [8]) (by kernel_rfl) (by simp) ?_
        refine AllReadyH.cons (o := ⟨_, _, _, _, _, _⟩) (by rfl) ?_ AllReadyH.nil
        intro K hK
        go_simp
        refine HS9.out.mono ?_
        rintro e V2 ⟨rfl, o2⟩
        have HO2 := Lib.hid o2
        clear o2 HS9
        go_wp2_with fail
        refine hK.out _ _ ?_ (fun hHeld => ?_)
        · (try dsimp only); exact HQ.out _ HO2.out
        clear hK K
        try simp only [Act.put, List.setIfInBounds_toArray, List.set_cons_zero, List.set_cons_succ]
        refine wpAnyH_take (i := 9) (oi := ⟨some _, _, _, _, _, _⟩) (v := ?_) rfl (by kernel_rfl) (by kernel_rfl) (by kernel_rfl) (fun _ _ _ h => h) (Or.inl ⟨by kernel_rfl, ?_⟩) (by assumption) ?_; rotate_left; (intro w hSw; (try dsimp only at hSw); go_simp; try with_reducible rfl); try simp only [Act.put, List.setIfInBounds_toArray, List.set_cons_zero, List.set_cons_succ]
        refine wpAnyH_take (i := 10) (oi := ⟨some _, _, _, _, _, _⟩) (v := ?_) rfl (by kernel_rfl) (by kernel_rfl) (by kernel_rfl) (fun _ _ _ h => h) (Or.inl ⟨by kernel_rfl, ?_⟩) (by assumption) ?_; rotate_left; (intro w hSw; (try dsimp only at hSw); go_simp; try with_reducible rfl); try simp only [Act.put, List.setIfInBounds_toArray, List.set_cons_zero, List.set_cons_succ]
        refine wpAnyH_take (i := 11) (oi := ⟨some _, _, _, _, _, _⟩) (v := ?_) rfl (by kernel_rfl) (by kernel_rfl) (by kernel_rfl) (fun _ _ _ h => h) (Or.inl ⟨by kernel_rfl, ?_⟩) (by assumption) ?_; rotate_left; (intro w hSw; (try dsimp only at hSw); go_simp; try with_reducible rfl); try simp only [Act.put, List.setIfInBounds_toArray, List.set_cons_zero, List.set_cons_succ]
        refine wpAnyH_take (i := 12) (oi := ⟨some _, _, _, _, _, _⟩) (v := ?_) rfl (by kernel_rfl) (by kernel_rfl) (by kernel_rfl) (fun _ _ _ h => h) (Or.inl ⟨by kernel_rfl, ?_⟩) (by assumption) ?_; rotate_left; (intro w hSw; (try dsimp only at hSw); go_simp; try with_reducible rfl); try simp only [Act.put, List.setIfInBounds_toArray, List.set_cons_zero, List.set_cons_succ]
        refine wpAnyH_take (i := 13) (oi := ⟨some _, _, _, _, _, _⟩) (v := ?_) rfl (by kernel_rfl) (by kernel_rfl) (by kernel_rfl) (fun _ _ _ h => h) (Or.inl ⟨by kernel_rfl, ?_⟩) (by assumption) ?_; rotate_left; (intro w hSw; (try dsimp only at hSw); go_simp; try with_reducible rfl); try simp only [Act.put, List.setIfInBounds_toArray, List.set_cons_zero, List.set_cons_succ]
        refine wpAnyH_take (i := 14) (oi := ⟨some _, _, _, _, _, _⟩) (v := ?_) rfl (by kernel_rfl) (by kernel_rfl) (by kernel_rfl) (fun _ _ _ h => h) (Or.inl ⟨by kernel_rfl, ?_⟩) (by assumption) ?_; rotate_left; (intro w hSw; (try dsimp only at hSw); go_simp; try with_reducible rfl); try simp only [Act.put, List.setIfInBounds_toArray, List.set_cons_zero, List.set_cons_succ]
        refine wpAnyH_take (i := 15) (oi := ⟨some _, _, _, _, _, _⟩) (v := .agg (rowN 4 (blk (gnR ex F k)))) rfl (by kernel_rfl) (by kernel_rfl) (by kernel_rfl) (fun _ _ _ h => h) (yieldsIf_load_blk 4 (gnR ex F k) (by kernel_rfl) 50 (.tmp 131) rfl hg (k * 4) rfl _ (fun _ h => h.2.2.1) Tryz.underlying50 rfl Hs4.out) (by assumption) ?_; try simp only [Act.put, List.setIfInBounds_toArray, List.set_cons_zero, List.set_cons_succ]
        refine wpAnyH_take (i := 16) (oi := ⟨some _, _, _, _, _, _⟩) (v := ?_) rfl (by kernel_rfl) (by kernel_rfl) (by kernel_rfl) (fun _ _ _ h => h) (Or.inl ⟨by kernel_rfl, ?_⟩) (by assumption) ?_; rotate_left; (intro w hSw; (try dsimp only at hSw); go_simp; try with_reducible rfl); try simp only [Act.put, List.setIfInBounds_toArray, List.set_cons_zero, List.set_cons_succ]
        refine wpAnyH_take (i := 17) (oi := ⟨some _, _, _, _, _, _⟩) (v := ?_) rfl (by kernel_rfl) (by kernel_rfl) (by kernel_rfl) (fun _ _ _ h => h) (Or.inl ⟨by kernel_rfl, ?_⟩) (by assumption) ?_; rotate_left; (intro w hSw; (try dsimp only at hSw); go_simp; try with_reducible rfl); try simp only [Act.put, List.setIfInBounds_toArray, List.set_cons_zero, List.set_cons_succ]
        refine wpAnyH_take (i := 18) (oi := ⟨some _, _, _, _, _, _⟩) (v := ?_) rfl (by kernel_rfl) (by kernel_rfl) (by kernel_rfl) (fun _ _ _ h => h) (Or.inl ⟨by kernel_rfl, ?_⟩) (by assumption) ?_; rotate_left; (intro w hSw; (try dsimp only at hSw); go_simp; try with_reducible rfl); try simp only [Act.put, List.setIfInBounds_toArray, List.set_cons_zero, List.set_cons_succ]
        refine wpAnyH_take (i := 19) (oi := ⟨some _, _, _, _, _, _⟩) (v := .agg (rowN 4 (blk (gnR ex F k)))) rfl (by kernel_rfl) (by kernel_rfl) (by kernel_rfl) (fun _ _ _ h => h) (yieldsIf_load_blk 4 (gnR ex F k) (by kernel_rfl) 50 (.tmp 135) rfl gg (go + k * 4) rfl _ (fun _ h => h.2.2.2) Tryz.underlying50 rfl Hs4.out) (by assumption) ?_; try simp only [Act.put, List.setIfInBounds_toArray, List.set_cons_zero, List.set_cons_succ]
        refine wpAnyH_take (i := 20) (oi := ⟨some _, _, _, _, _, _⟩) (v := ?_) rfl (by kernel_rfl) (by kernel_rfl) (by kernel_rfl) (fun _ _ _ h => h) (Or.inl ⟨by kernel_rfl, ?_⟩) (by assumption) ?_; rotate_left; (intro w hSw; (try dsimp only at hSw); go_simp; try with_reducible rfl); try simp only [Act.put, List.setIfInBounds_toArray, List.set_cons_zero, List.set_cons_succ]
        refine wpAnyH_take (i := 21) (oi := ⟨some _, _, _, _, _, _⟩) (v := ?_) rfl (by kernel_rfl) (by kernel_rfl) (by kernel_rfl) (fun _ _ _ h => h) (Or.inl ⟨by kernel_rfl, ?_⟩) (by assumption) ?_; rotate_left; (intro w hSw; (try dsimp only at hSw); go_simp; try with_reducible rfl); try simp only [Act.put, List.setIfInBounds_toArray, List.set_cons_zero, List.set_cons_succ]
        refine wpAnyH_done (by kernel_rfl) ?_ _
        have HOw := Lib.hid (HO9w.out.trans ((Old.drew (Old.refl _)).trans HO2.out))
        clear HQ HO2 HO9w hNq
        go_wp2_with fail
        go_roundw
        case rel => exact ⟨k + 1, by omega, by go_num, HOw⟩
        case measure => (simp [intOf]; try omega)
    · obtain rfl : k = N := by omega
      have HO9 := Lib.hid (HO8.out.trans HO.out)
      clear HP HG HH HFit HFr HGd HO HO8
      go_wp2_with fail
      refine (HA.out _).mono ?_
      rintro e w9 ⟨rfl, o9⟩
      have HO10 := Lib.hid (HO9.out.trans o9)
      clear o9
      go_wp2
      go_ret
      exact ⟨rfl, HO10.out⟩


theorem walkAll (size : Int) (p : Option Addr) (n cap : Nat) (xs : List Int) (w : World) (hs : SlI w .i64 (.slice p n cap) xs) (hn : n ≤ 9223372036854775807) (hx64 : ∀ x ∈ xs, -9223372036854775808 ≤ x ∧ x ≤ 9223372036854775807) :
    Calls Tryz.prog 3 #[.int .i64 size, .slice p n cap] w fun e w' => e = .returned (.bool true) ∧ Old w w' := by
  by_cases h : 24 ≤ size ∧ size ≤ 96
  · exact walk size p n cap xs w hs hn hx64 h.1 h.2
  · exact walk_no size p n cap xs w hs hn hx64 h
theorem own : ownKnob Tryz.prog.godebug = none := by kernel_rfl
theorem laidOut : laidOutB Tryz.prog = true := by kernel_rfl

set_option maxRecDepth 100000 in
theorem lifted (os : Os) (started : os.Started) (H : Type) (enc : TypeId × Value → H) :
    ReturnsInHanded {} Tryz.checked os 3 .any (Rows.codeFramesSpec.pre6 enc Tryz.prog Tryz.f3 Rows.codeFramesRow.domain false) (Rows.codeFramesSpec.post enc Tryz.prog Tryz.f3 false true false false) := by
  refine returnsInHanded_of_change (C := Tryz.checked) own started (by kernel_rfl) Tryz.func3
    (ChangeSpec.witness6 (enc := enc) (C := Tryz.checked) false ⟨#[], #[.int .i64 0, .slice none 0 0], []⟩ 8 (by kernel_rfl) (by kernel_rfl) (by kernel_rfl) (by kernel_rfl)) ?_
  intro W base args ds gs before hval0 hW hcnd _
  have hval : ∀ (j : Nat) t v, Tryz.f3.params[j]? = some t → args[j]? = some v → Value.okWide Tryz.prog W .any base t v := hval0
  have hW' := hW
  have hlt : ∀ p ∈ before, p.block < W.heap.size := fun p hp => hW'.lt p hp
  obtain ⟨p, q, hA0, hV, rfl, hfz, hnd⟩ := hW
  have hA : DataW.TrodAll enc Tryz.prog W 0 (fun _ => true) true Tryz.f3.params.toList args.toList ds p := hA0
  rw [Tryz.params3] at hA hval
  obtain ⟨v0, vs0, d0, ds0, p0, q0, hargs, rfl, rfl, h0, r0⟩ := trodAll_cons hA
  obtain ⟨v1, vs1, d1, ds1, p1, q1, rfl, rfl, rfl, h1, r1⟩ := trodAll_cons r0
  obtain ⟨rfl, rfl, rfl⟩ := trodAll_nil r1
  obtain rfl : args = #[v0, v1] := by cases args; simp_all
  obtain ⟨rfl, rfl⟩ := trodVars_none hV
  obtain ⟨a0, rfl, _, _, w0⟩ := open_int Tryz.underlying3 (hval 0 3 v0 rfl rfl) h0
  obtain ⟨s1, n1, c1, xs1, rfl, hs1, hn1, hc1, hw1⟩ := open_slI Tryz.underlying22 Tryz.underlying3 (by kernel_rfl) (hval 1 22 v1 rfl rfl) h1 (fun x hx => hlt x (by simp [hx]))
  refine (walkAll a0 s1 n1 c1 xs1 W hs1 (by unfold maxLen at hc1; omega) (fun x hx => i64_of (hw1 x hx))).mono fun e W' ⟨he, hg⟩ => ?_
  subst he
  exact ⟨_, rfl, law_done laidOut Tryz.underlying4 rfl (by kernel_rfl) rfl hW' rfl hg⟩

theorem over : Rows.codeFramesRow.holds Tryz.pinned (OpenSpec.ofChange Rows.codeFramesSpec) :=
  OpenClaim.holds_of_wide 3 Tryz.f3 rfl rfl rfl rfl rfl rfl rfl ⟨rfl, rfl, rfl, rfl, rfl⟩ rfl rfl rfl rfl rfl (by kernel_rfl) Tryz.func3 (by kernel_rfl)
    (of_decide_eq_true (by kernel_rfl)) (by unfold Func.isWrapper; first | (rw [if_pos (by decide +kernel)]; kernel_rfl) | (rw [if_neg (by decide +kernel)]; exact ⟨rfl, rfl⟩))
    (fun os started H enc _ => lifted os started H enc)

theorem proved : Rows.CodeFramesSaid :=
  over
end Go.Proofs.YtlcbmgbnhjgelaaGreat.codeFrames
