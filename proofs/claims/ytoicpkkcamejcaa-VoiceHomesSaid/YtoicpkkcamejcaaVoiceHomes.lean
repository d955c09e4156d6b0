/- VoiceHomes: any place of a sample that may be, from 0 to 2^62, is brought home as the document brings it home, and lies, with those around it, where it lay; the example holds. No condition. -/
import Derived.Test.YtoicpkkcamejcaaRows
import Derived.Test.YtoicpkkcamejcaaVoiceB
import Derived.Test.YtoicpkkcamejcaaUnrl
import Derived.Test.YtoicpkkcamejcaaMetaArg
import Derived.Deep.RegionHeld
namespace Go.Proofs.Ytoicpkkcamejcaa.voiceHomes
open Go.ChangeShapes Go.WideShapes Go.ChangeAt Go.RowKit
set_option linter.unusedVariables false
set_option linter.unusedSimpArgs false

theorem home_lies {n a b v h : Int} (ha : 0 ≤ a) (hb : a < b) (h0 : 0 ≤ v) (h1 : v ≤ 4611686018427387904) (hh : homeI true a b v = h) : 0 ≤ h ∧ h ≤ 4611686018427387904 ∧ ∀ k : Int, -1 ≤ k → k < 3 → unrollI n true a b (h / 4294967296 + k) = unrollI n true a b (v / 4294967296 + k) := by
  obtain ⟨r0, r1, p0, p1, hp⟩ := roundsI_bd ha hb h0 h1
  unfold homeI at hh
  rw [if_pos rfl] at hh
  by_cases hz : roundsI a b v = 0
  · rw [hz] at hh
    have : h = v := by omega
    subst this
    exact ⟨h0, h1, fun _ _ _ => rfl⟩
  · have hle := hp hz
    generalize hr : roundsI a b v = t at *
    have hmod : ∀ z : Int, (z - t * (b - a)) % (b - a) = z % (b - a) := fun z => by
      rw [show z - t * (b - a) = z + (-t) * (b - a) by rw [Int.neg_mul]; omega]; exact Int.add_mul_emod_self_right _ _ _
    generalize hq : t * (b - a) = p at *
    have e : h / 4294967296 = v / 4294967296 - p := by omega
    refine ⟨by omega, by omega, fun k k0 k1 => ?_⟩
    rw [e]
    unfold unrollI
    have f1 : b + 3 ≤ v / 4294967296 - p + k := by omega
    generalize v / 4294967296 = z at *
    rw [if_neg (show ¬ (z - p + k < 0) by omega), if_neg (show ¬ (z + k < 0) by omega), if_neg (show ¬ (z - p + k < if true = true then b else n) by rw [if_pos rfl]; omega), if_neg (show ¬ (z + k < if true = true then b else n) by rw [if_pos rfl]; omega)]
    rw [if_neg (show ¬ (true = false ∨ a < 0 ∨ b ≤ a) by simp; omega), if_neg (show ¬ (true = false ∨ a < 0 ∨ b ≤ a) by simp; omega)]
    rw [show z - p + k - a = (z + k - a) - p by omega, hmod]
set_option maxRecDepth 100000 in
set_option maxHeartbeats 8000000 in
theorem walk (s : ByteArray) (n r c : Int) (lp : Bool) (a b x y v : Int) (w : World) (hs : s.size ≤ 9223372036854775807) (hv1 : -9223372036854775808 ≤ v) (hv2 : v ≤ 9223372036854775807) :
    Calls Try.prog 4 #[metaV s n r c lp a b x y, .int .i64 v] w fun e w' => e = .returned (.bool true) ∧ Old w w' := by
  have HR := Lib.hid (fun w => RightMeta_any s n r c lp a b x y w hs)
  have HA := Lib.hid (fun w => awake21_any w)
  obtain ⟨q, hq⟩ : ∃ q, q = (wrongI s n r c lp a b == 0) := ⟨_, rfl⟩
  rw [← hq] at HR
  have hrt : q = true → 1 ≤ n ∧ n ≤ 1048576 ∧ loopP lp a b n := fun h => by
    rw [h] at hq
    have h0 : wrongI s n r c lp a b = 0 := by simpa using hq.symm
    unfold wrongI at h0
    split at h0
    · omega
    split at h0
    · omega
    split at h0
    · omega
    split at h0
    · rename_i h
      exact ⟨by omega, by omega, h⟩
    · omega
  have HRt := Lib.hid hrt
  clear hrt hq
  have Hsz : Hid ((Try.prog.info? 28).map (·.size) = some 9) := Lib.hid (by kernel_rfl)
  obtain ⟨W, hW⟩ : ∃ W, W = w.alloc (.cells #[.string s, .int .i64 n, .int .i64 r, .int .i64 c, .bool lp, .int .i64 a, .int .i64 b, .int .i64 x, .int .i64 y] 28) := ⟨_, rfl⟩
  obtain ⟨g, hg⟩ : ∃ g, g = w.heap.size := ⟨_, rfl⟩
  have hM := MetaB.new w s n r c lp a b x y
  have hO := Old.alloc w (.cells #[.string s, .int .i64 n, .int .i64 r, .int .i64 c, .bool lp, .int .i64 a, .int .i64 b, .int .i64 x, .int .i64 y] 28)
  rw [← hW, ← hg] at hM
  rw [← hW] at hO
  have HM := Lib.hid hM
  have HO := Lib.hid hO
  have HW := Lib.hid hW
  have HG := Lib.hid hg
  have Hs := Lib.hid hs
  clear hM hO hW hg hs
  unfold metaV at *
  go_enter Try.func4, Try.ntmps4
  go_wp2_with fail
  rw [← HW.out, ← HG.out]
  have hm : W.heap[g]? = some (.cells #[.string s, .int .i64 n, .int .i64 r, .int .i64 c, .bool lp, .int .i64 a, .int .i64 b, .int .i64 x, .int .i64 y] 28 (0, 0)) := HM.out
  go_wp2_with (with_reducible refine wpList_load_row rfl 28 _ rfl g rfl 28 #[.string s, .int .i64 n, .int .i64 r, .int .i64 c, .bool lp, .int .i64 a, .int .i64 b, .int .i64 x, .int .i64 y] (0, 0) _ hm Try.underlying28 rfl Hsz.out ?_)
  clear HW HG hm
  refine (HR.out _).mono ?_
  rintro e w1 ⟨rfl, ho⟩
  have HO1 := Lib.hid (HO.out.trans ho)
  have HM1 := Lib.hid (HM.out.old ho)
  clear ho HO HM HR
  cases q
  · go_wp2_with fail
    refine (HA.out _).mono ?_
    rintro e w2 ⟨rfl, ho⟩
    have HO2 := Lib.hid (HO1.out.trans ho)
    clear ho
    go_wp2_with fail
    go_ret
    exact ⟨rfl, HO2.out⟩
  obtain ⟨n0, n1, hl⟩ := HRt.out rfl
  clear HRt
  by_cases v0 : v < 0
  · go_wp2_with fail
    refine (HA.out _).mono ?_
    rintro e w2 ⟨rfl, ho⟩
    have HO2 := Lib.hid (HO1.out.trans ho)
    clear ho
    go_wp2_with fail
    go_ret
    exact ⟨rfl, HO2.out⟩
  have v0' : 0 ≤ v := by omega
  clear v0
  by_cases v1 : 4611686018427387904 < v
  · go_wp2_with fail
    refine (HA.out _).mono ?_
    rintro e w2 ⟨rfl, ho⟩
    have HO2 := Lib.hid (HO1.out.trans ho)
    clear ho
    go_wp2_with fail
    go_ret
    exact ⟨rfl, HO2.out⟩
  have v1' : v ≤ 4611686018427387904 := by omega
  clear v1 hv1 hv2
  cases lp
  · unfold loopP at hl
    simp only [Bool.false_eq_true, if_false] at hl
    obtain ⟨rfl, rfl⟩ := hl
    obtain ⟨m0, m1, m2, m3, m4, m5, m6, m7, m8⟩ := HM1.out.cells
    have HH := Lib.hid (fun w => Home_no s n r c 0 0 x y v w (by omega) (by omega) (by omega) (by omega))
    unfold metaV at HH
    go_wp2_with fail
    clear m0 m1 m2 m3 m4 m5 m6 m7 m8
    refine (HH.out _).mono ?_
    rintro e w2 ⟨rfl, ho⟩
    obtain ⟨c0, c1, c2, c3, c4, c5, c6, c7, c8⟩ := (HM1.out.old ho).cells
    have HO2 := Lib.hid (HO1.out.trans ho)
    have hvv : (v == v) = true := by simp
    clear ho HM1 c0 c1 c2 c3 c5 c6 c7 c8
    go_wp2_with fail
    refine (HA.out _).mono ?_
    rintro e w3 ⟨rfl, ho⟩
    have HO3 := Lib.hid (HO2.out.trans ho)
    clear ho
    go_wp2_with fail
    go_ret
    exact ⟨rfl, HO3.out⟩
  · unfold loopP at hl
    simp only [if_true] at hl
    obtain ⟨a0, ab, bn⟩ := hl
    obtain ⟨h, hh⟩ : ∃ h, homeI true a b v = h := ⟨_, rfl⟩
    obtain ⟨h0, h1, hU⟩ := home_lies (n := n) a0 ab v0' v1' hh
    have HH := Lib.hid (fun w => Home_yes s n r c a b x y v w a0 ab (by omega) v0' v1')
    rw [hh] at HH
    obtain ⟨m0, m1, m2, m3, m4, m5, m6, m7, m8⟩ := HM1.out.cells
    have hx : homeI true a b v = v - roundsI a b v * (b - a) * 4294967296 := by unfold homeI; rw [if_pos rfl]
    obtain ⟨r0, r1, p0, p1, -⟩ := roundsI_bd a0 ab v0' v1'
    have hro : roundsI a b v = if b - a ≤ v / 4294967296 - b - 4 then (v / 4294967296 - b - 4) / (b - a) else 0 := rfl
    rw [hh] at hx
    have HU := Lib.hid hU
    have HRO := Lib.hid hro
    have HX := Lib.hid hx
    have HP := Lib.hid (show 0 ≤ roundsI a b v * (b - a) ∧ roundsI a b v * (b - a) ≤ 1073741824 from ⟨p0, p1⟩)
    unfold metaV at HH
    clear hh hU hro hx p0 p1
    go_wp2_with fail
    clear m0 m1 m2 m3 m4 m5 m6 m7 m8
    refine (HH.out _).mono ?_
    rintro e w2 ⟨rfl, ho⟩
    have HO2 := Lib.hid (HO1.out.trans ho)
    have HM2 := Lib.hid (HM1.out.old ho)
    obtain ⟨c0, c1, c2, c3, c4, c5, c6, c7, c8⟩ := HM2.out.cells
    clear ho HM1 c0 c1 c2 c3 c7 c8 HO1 HH
    have HK1 : Hid (∀ V, Old w2 V → V.heap[g]? = some (.cells #[.string s, .int .i64 n, .int .i64 r, .int .i64 c, .bool true, .int .i64 a, .int .i64 b, .int .i64 x, .int .i64 y] 28 (0, 0))) := Lib.hid fun V hV => HM2.out.old hV
    clear HM2
    have hro := HRO.out
    have hx := HX.out
    obtain ⟨p0, p1⟩ := HP.out
    clear HRO HX HP
    obtain ⟨vq, hvq⟩ : ∃ vq, v / 4294967296 = vq := ⟨_, rfl⟩
    have g0 : 0 ≤ vq := by omega
    have g1 : vq ≤ 1073741824 := by omega
    have k1 : wrap64 (v.tdiv 4294967296) = vq := by rw [Int.tdiv_eq_ediv_of_nonneg v0', hvq]; exact IntWalk.wrap64_in _ (by omega)
    have k2 : IntKind.i64.wrap (v.tdiv 4294967296) = vq := by rw [Int.tdiv_eq_ediv_of_nonneg v0', hvq]; exact IntWalk.i64_in _ (by omega)
    rw [hvq] at hro HU
    have HVQ := Lib.hid hvq
    clear hvq
    by_cases hle : b - a ≤ vq - b - 4
    · rw [if_pos hle] at hro
      rw [hro] at hx p0 p1 r0 r1
      obtain ⟨t, ht⟩ : ∃ t, (vq - b - 4) / (b - a) = t := ⟨_, rfl⟩
      obtain ⟨p, hp⟩ : ∃ p, t * (b - a) = p := ⟨_, rfl⟩
      have e1 : wrap64 ((vq - b - 4).tdiv (b - a)) = t := by rw [Int.tdiv_eq_ediv_of_nonneg (by omega), ht]; exact IntWalk.wrap64_in _ (by omega)
      have e2 : IntKind.i64.wrap ((vq - b - 4).tdiv (b - a)) = t := by rw [Int.tdiv_eq_ediv_of_nonneg (by omega), ht]; exact IntWalk.i64_in _ (by omega)
      rw [ht] at r0 r1 p0 p1 hx
      rw [hp] at p0 p1 hx
      have e4 : wrap64 (t * (b - a)) = p := by rw [hp]; exact IntWalk.wrap64_in _ (by omega)
      have e5 : IntKind.i64.wrap (t * (b - a)) = p := by rw [hp]; exact IntWalk.i64_in _ (by omega)
      have e6 : (h != v - p * 4294967296) = false := by rw [← hx]; simp
      have e7 : wrap64 (v - p * 4294967296) = v - p * 4294967296 := IntWalk.wrap64_in _ (by omega)
      clear ht hp hro hx
      go_wp2_with fail
      clear e1 e2 e4 e5 e6 e7 r0 r1 p0 p1 hle
      obtain ⟨hq, hhq⟩ : ∃ hq, h / 4294967296 = hq := ⟨_, rfl⟩
      have f0 : 0 ≤ hq := by omega
      have f1 : hq ≤ 1073741824 := by omega
      have d1 : wrap64 (h.tdiv 4294967296) = hq := by rw [Int.tdiv_eq_ediv_of_nonneg h0, hhq]; exact IntWalk.wrap64_in _ (by omega)
      have d2 : IntKind.i64.wrap (h.tdiv 4294967296) = hq := by rw [Int.tdiv_eq_ediv_of_nonneg h0, hhq]; exact IntWalk.i64_in _ (by omega)
      have HUU := Lib.hid (fun k hk hk2 => HU.out k hk hk2)
      rw [hhq] at HUU
      clear HU
      have HUn := Lib.hid (fun (k : Int) (hk : k ≤ 3) w => Unroll_any s n r c true a b x y (hq + k) w (by omega))
      have HUv := Lib.hid (fun (k : Int) (hk : k ≤ 3) w => Unroll_any s n r c true a b x y (vq + k) w (by omega))
      unfold metaV at HUn HUv
      clear hhq
      go_loopw [9] (fun i wr => ∃ k : Int, -1 ≤ k ∧ k ≤ 3 ∧ i = .int .i64 k ∧ Hid (Old w2 wr)) (fun i _ => (3 - intOf i).toNat)
      case atStart => exact ⟨-1, by omega, by omega, rfl, Lib.hid (Old.refl _)⟩
      case round =>
        obtain ⟨k, k0, k3, rfl, HV⟩ := hrel
        by_cases hlt : k < 3
        · have HN := Lib.hid (HUU.out k k0 hlt)
          have HU1 := Lib.hid (HUn.out k k3)
          have HU2 := Lib.hid (HUv.out k k3)
          rw [HN.out] at HU1
          obtain ⟨u, hu⟩ : ∃ u, unrollI n true a b (vq + k) = u := ⟨_, rfl⟩
          rw [hu] at HU1 HU2
          have HKr : Hid (∀ V, Old wr.drew V → V.heap[g]? = some (.cells #[.string s, .int .i64 n, .int .i64 r, .int .i64 c, .bool true, .int .i64 a, .int .i64 b, .int .i64 x, .int .i64 y] 28 (0, 0))) := Lib.hid fun V hV => HK1.out V ((HV.out.drew).trans hV)
          have huu : (u != u) = false := by simp
          have y1 : wrap64 (hq + k) = hq + k := IntWalk.wrap64_in _ (by omega)
          have y2 : IntKind.i64.wrap (hq + k) = hq + k := IntWalk.i64_in _ (by omega)
          have y3 : wrap64 (vq + k) = vq + k := IntWalk.wrap64_in _ (by omega)
          have y4 : IntKind.i64.wrap (vq + k) = vq + k := IntWalk.i64_in _ (by omega)
          clear HUU HUn HUv hu HN
          go_wp2_with fail
          refine wp_region_held_drew (S := (fun V => V.heap[g]? = some (.cells #[.string s, .int .i64 n, .int .i64 r, .int .i64 c, .bool true, .int .i64 a, .int .i64 b, .int .i64 x, .int .i64 y] 28 (0, 0)))) (by kernel_rfl) ?_ (fun hHeld => ?_)
          · (try dsimp only); exact HKr.out _ (Old.refl _)
          refine wpAnyH_take (i := 0) (oi := ⟨some _, _, _, _, _, _⟩) (v := (.agg #[.string s, .int .i64 n, .int .i64 r, .int .i64 c, .bool true, .int .i64 a, .int .i64 b, .int .i64 x, .int .i64 y])) rfl (by kernel_rfl) (by kernel_rfl) (by kernel_rfl) (fun _ _ _ h => h) (yieldsIf_load_row (by kernel_rfl) 28 (.tmp 2) rfl g rfl 28 #[.string s, .int .i64 n, .int .i64 r, .int .i64 c, .bool true, .int .i64 a, .int .i64 b, .int .i64 x, .int .i64 y] (0, 0) _ (fun _ h => h) Try.underlying28 rfl Hsz.out) (by assumption) ?_; try simp only [Act.put, List.setIfInBounds_toArray, List.set_cons_zero, List.set_cons_succ]
          refine wpAnyH_take (i := 6) (oi := ⟨some _, _, _, _, _, _⟩) (v := (.agg #[.string s, .int .i64 n, .int .i64 r, .int .i64 c, .bool true, .int .i64 a, .int .i64 b, .int .i64 x, .int .i64 y])) rfl (by kernel_rfl) (by kernel_rfl) (by kernel_rfl) (fun _ _ _ h => h) (yieldsIf_load_row (by kernel_rfl) 28 (.tmp 2) rfl g rfl 28 #[.string s, .int .i64 n, .int .i64 r, .int .i64 c, .bool true, .int .i64 a, .int .i64 b, .int .i64 x, .int .i64 y] (0, 0) _ (fun _ h => h) Try.underlying28 rfl Hsz.out) (by assumption) ?_; try simp only [Act.put, List.setIfInBounds_toArray, List.set_cons_zero, List.set_cons_succ]
          refine wpAnyH_take (i := 1) (oi := ⟨some _, _, _, _, _, _⟩) (v := ?_) rfl (by kernel_rfl) (by kernel_rfl) (by kernel_rfl) (fun _ _ _ h => h) (Or.inl ⟨by kernel_rfl, ?_⟩) (by assumption) ?_; rotate_left; (intro w hSw; (try dsimp only at hSw); go_simp; try with_reducible rfl); try simp only [Act.put, List.setIfInBounds_toArray, List.set_cons_zero, List.set_cons_succ]
          refine wpAnyH_take (i := 2) (oi := ⟨some _, _, _, _, _, _⟩) (v := ?_) rfl (by kernel_rfl) (by kernel_rfl) (by kernel_rfl) (fun _ _ _ h => h) (Or.inl ⟨by kernel_rfl, ?_⟩) (by assumption) ?_; rotate_left; (intro w hSw; (try dsimp only at hSw); go_simp; try with_reducible rfl); try simp only [Act.put, List.setIfInBounds_toArray, List.set_cons_zero, List.set_cons_succ]
          refine wpAnyH_take (i := 3) (oi := ⟨some _, _, _, _, _, _⟩) (v := ?_) rfl (by kernel_rfl) (by kernel_rfl) (by kernel_rfl) (fun _ _ _ h => h) (Or.inl ⟨by kernel_rfl, ?_⟩) (by assumption) ?_; rotate_left; (intro w hSw; (try dsimp only at hSw); go_simp; try with_reducible rfl); try simp only [Act.put, List.setIfInBounds_toArray, List.set_cons_zero, List.set_cons_succ]
          refine wpAnyH_take (i := 4) (oi := ⟨some _, _, _, _, _, _⟩) (v := ?_) rfl (by kernel_rfl) (by kernel_rfl) (by kernel_rfl) (fun _ _ _ h => h) (Or.inl ⟨by kernel_rfl, ?_⟩) (by assumption) ?_; rotate_left; (intro w hSw; (try dsimp only at hSw); go_simp; try with_reducible rfl); try simp only [Act.put, List.setIfInBounds_toArray, List.set_cons_zero, List.set_cons_succ]
          refine wpAnyH_take (i := 7) (oi := ⟨some _, _, _, _, _, _⟩) (v := ?_) rfl (by kernel_rfl) (by kernel_rfl) (by kernel_rfl) (fun _ _ _ h => h) (Or.inl ⟨by kernel_rfl, ?_⟩) (by assumption) ?_; rotate_left; (intro w hSw; (try dsimp only at hSw); go_simp; try with_reducible rfl); try simp only [Act.put, List.setIfInBounds_toArray, List.set_cons_zero, List.set_cons_succ]
          refine wpAnyH_take (i := 8) (oi := ⟨some _, _, _, _, _, _⟩) (v := ?_) rfl (by kernel_rfl) (by kernel_rfl) (by kernel_rfl) (fun _ _ _ h => h) (Or.inl ⟨by kernel_rfl, ?_⟩) (by assumption) ?_; rotate_left; (intro w hSw; (try dsimp only at hSw); go_simp; try with_reducible rfl); try simp only [Act.put, List.setIfInBounds_toArray, List.set_cons_zero, List.set_cons_succ]
          refine wpAnyH_take (i := 9) (oi := ⟨some _, _, _, _, _, _⟩) (v := ?_) rfl (by kernel_rfl) (by kernel_rfl) (by kernel_rfl) (fun _ _ _ h => h) (Or.inl ⟨by kernel_rfl, ?_⟩) (by assumption) ?_; rotate_left; (intro w hSw; (try dsimp only at hSw); go_simp; try with_reducible rfl); try simp only [Act.put, List.setIfInBounds_toArray, List.set_cons_zero, List.set_cons_succ]
          refine wpAnyH_take (i := 10) (oi := ⟨some _, _, _, _, _, _⟩) (v := ?_) rfl (by kernel_rfl) (by kernel_rfl) (by kernel_rfl) (fun _ _ _ h => h) (Or.inl ⟨by kernel_rfl, ?_⟩) (by assumption) ?_; rotate_left; (intro w hSw; (try dsimp only at hSw); go_simp; try with_reducible rfl); try simp only [Act.put, List.setIfInBounds_toArray, List.set_cons_zero, List.set_cons_succ]
          refine wpAnyH_ready (rs := [5]) (by kernel_rfl) (by simp) ?_
          refine AllReadyH.cons (o := ⟨_, _, _, _, _, _⟩) (by rfl) ?_ AllReadyH.nil
          intro K hK
          go_simp
          refine (HU1.out _).mono ?_
          rintro e V ⟨rfl, hV⟩
          refine hK.out _ _ ?_ (fun hHeld => ?_)
          · (try dsimp only); exact HKr.out _ hV
          clear hK K
          try simp only [Act.put, List.setIfInBounds_toArray, List.set_cons_zero, List.set_cons_succ]
          refine wpAnyH_ready (rs := [11]) (by kernel_rfl) (by simp) ?_
          refine AllReadyH.cons (o := ⟨_, _, _, _, _, _⟩) (by rfl) ?_ AllReadyH.nil
          intro K hK
          go_simp
          refine (HU2.out _).mono ?_
          rintro e U ⟨rfl, hU⟩
          refine hK.out _ _ ?_ (fun hHeld => ?_)
          · (try dsimp only); exact HKr.out _ (hV.trans hU)
          clear hK K
          try simp only [Act.put, List.setIfInBounds_toArray, List.set_cons_zero, List.set_cons_succ]
          refine wpAnyH_take (i := 12) (oi := ⟨some _, _, _, _, _, _⟩) (v := ?_) rfl (by kernel_rfl) (by kernel_rfl) (by kernel_rfl) (fun _ _ _ h => h) (Or.inl ⟨by kernel_rfl, ?_⟩) (by assumption) ?_; rotate_left; (intro w hSw; (try dsimp only at hSw); go_simp; try with_reducible rfl); try simp only [Act.put, List.setIfInBounds_toArray, List.set_cons_zero, List.set_cons_succ]
          refine wpAnyH_done (by kernel_rfl) ?_ _
          have HV2 := Lib.hid ((HV.out.drew.trans hV).trans hU)
          clear hV hU HKr HU1 HU2 HV y1 y2 y3 y4
          go_wp2_with fail
          go_roundw
          case rel => exact ⟨k + 1, by omega, by omega, by go_num, HV2⟩
          case measure => simp [intOf]; omega
        · obtain rfl : k = 3 := by omega
          have HO3 := Lib.hid (HO2.out.trans HV.out)
          clear HUU HUn HUv hlt k0 k3 HV
          go_wp2_with fail
          refine (HA.out _).mono ?_
          rintro e w4 ⟨rfl, ho⟩
          have HO4 := Lib.hid (HO3.out.trans ho)
          clear ho
          go_wp2_with fail
          go_ret
          exact ⟨rfl, HO4.out⟩
    · rw [if_neg hle] at hro
      rw [hro] at hx
      have hx' : h = v := by omega
      have hle' : vq - b - 4 < b - a := by omega
      clear hx hro p0 p1 r0 r1 hle
      subst hx'
      have e6 : (h != h) = false := by simp
      go_wp2_with fail
      clear e6
      have HUU := Lib.hid (fun k hk hk2 => HU.out k hk hk2)
      rw [HVQ.out] at HUU
      clear HU HVQ
      have HUn := Lib.hid (fun (k : Int) (hk : k ≤ 3) w => Unroll_any s n r c true a b x y (vq + k) w (by omega))
      have HUv := Lib.hid (fun (k : Int) (hk : k ≤ 3) w => Unroll_any s n r c true a b x y (vq + k) w (by omega))
      unfold metaV at HUn HUv
      go_loopw [9] (fun i wr => ∃ k : Int, -1 ≤ k ∧ k ≤ 3 ∧ i = .int .i64 k ∧ Hid (Old w2 wr)) (fun i _ => (3 - intOf i).toNat)
      case atStart => exact ⟨-1, by omega, by omega, rfl, Lib.hid (Old.refl _)⟩
      case round =>
        obtain ⟨k, k0, k3, rfl, HV⟩ := hrel
        by_cases hlt : k < 3
        · have HN := Lib.hid (HUU.out k k0 hlt)
          have HU1 := Lib.hid (HUn.out k k3)
          have HU2 := Lib.hid (HUv.out k k3)
          rw [HN.out] at HU1
          obtain ⟨u, hu⟩ : ∃ u, unrollI n true a b (vq + k) = u := ⟨_, rfl⟩
          rw [hu] at HU1 HU2
          have HKr : Hid (∀ V, Old wr.drew V → V.heap[g]? = some (.cells #[.string s, .int .i64 n, .int .i64 r, .int .i64 c, .bool true, .int .i64 a, .int .i64 b, .int .i64 x, .int .i64 y] 28 (0, 0))) := Lib.hid fun V hV => HK1.out V ((HV.out.drew).trans hV)
          have huu : (u != u) = false := by simp
          have y1 : wrap64 (vq + k) = vq + k := IntWalk.wrap64_in _ (by omega)
          have y2 : IntKind.i64.wrap (vq + k) = vq + k := IntWalk.i64_in _ (by omega)
          clear HUU HUn HUv hu HN
          go_wp2_with fail
          refine wp_region_held_drew (S := (fun V => V.heap[g]? = some (.cells #[.string s, .int .i64 n, .int .i64 r, .int .i64 c, .bool true, .int .i64 a, .int .i64 b, .int .i64 x, .int .i64 y] 28 (0, 0)))) (by kernel_rfl) ?_ (fun hHeld => ?_)
          · (try dsimp only); exact HKr.out _ (Old.refl _)
          refine wpAnyH_take (i := 0) (oi := ⟨some _, _, _, _, _, _⟩) (v := (.agg #[.string s, .int .i64 n, .int .i64 r, .int .i64 c, .bool true, .int .i64 a, .int .i64 b, .int .i64 x, .int .i64 y])) rfl (by kernel_rfl) (by kernel_rfl) (by kernel_rfl) (fun _ _ _ h => h) (yieldsIf_load_row (by kernel_rfl) 28 (.tmp 2) rfl g rfl 28 #[.string s, .int .i64 n, .int .i64 r, .int .i64 c, .bool true, .int .i64 a, .int .i64 b, .int .i64 x, .int .i64 y] (0, 0) _ (fun _ h => h) Try.underlying28 rfl Hsz.out) (by assumption) ?_; try simp only [Act.put, List.setIfInBounds_toArray, List.set_cons_zero, List.set_cons_succ]
          refine wpAnyH_take (i := 6) (oi := ⟨some _, _, _, _, _, _⟩) (v := (.agg #[.string s, .int .i64 n, .int .i64 r, .int .i64 c, .bool true, .int .i64 a, .int .i64 b, .int .i64 x, .int .i64 y])) rfl (by kernel_rfl) (by kernel_rfl) (by kernel_rfl) (fun _ _ _ h => h) (yieldsIf_load_row (by kernel_rfl) 28 (.tmp 2) rfl g rfl 28 #[.string s, .int .i64 n, .int .i64 r, .int .i64 c, .bool true, .int .i64 a, .int .i64 b, .int .i64 x, .int .i64 y] (0, 0) _ (fun _ h => h) Try.underlying28 rfl Hsz.out) (by assumption) ?_; try simp only [Act.put, List.setIfInBounds_toArray, List.set_cons_zero, List.set_cons_succ]
          refine wpAnyH_take (i := 1) (oi := ⟨some _, _, _, _, _, _⟩) (v := ?_) rfl (by kernel_rfl) (by kernel_rfl) (by kernel_rfl) (fun _ _ _ h => h) (Or.inl ⟨by kernel_rfl, ?_⟩) (by assumption) ?_; rotate_left; (intro w hSw; (try dsimp only at hSw); go_simp; try with_reducible rfl); try simp only [Act.put, List.setIfInBounds_toArray, List.set_cons_zero, List.set_cons_succ]
          refine wpAnyH_take (i := 2) (oi := ⟨some _, _, _, _, _, _⟩) (v := ?_) rfl (by kernel_rfl) (by kernel_rfl) (by kernel_rfl) (fun _ _ _ h => h) (Or.inl ⟨by kernel_rfl, ?_⟩) (by assumption) ?_; rotate_left; (intro w hSw; (try dsimp only at hSw); go_simp; try with_reducible rfl); try simp only [Act.put, List.setIfInBounds_toArray, List.set_cons_zero, List.set_cons_succ]
          refine wpAnyH_take (i := 3) (oi := ⟨some _, _, _, _, _, _⟩) (v := ?_) rfl (by kernel_rfl) (by kernel_rfl) (by kernel_rfl) (fun _ _ _ h => h) (Or.inl ⟨by kernel_rfl, ?_⟩) (by assumption) ?_; rotate_left; (intro w hSw; (try dsimp only at hSw); go_simp; try with_reducible rfl); try simp only [Act.put, List.setIfInBounds_toArray, List.set_cons_zero, List.set_cons_succ]
          refine wpAnyH_take (i := 4) (oi := ⟨some _, _, _, _, _, _⟩) (v := ?_) rfl (by kernel_rfl) (by kernel_rfl) (by kernel_rfl) (fun _ _ _ h => h) (Or.inl ⟨by kernel_rfl, ?_⟩) (by assumption) ?_; rotate_left; (intro w hSw; (try dsimp only at hSw); go_simp; try with_reducible rfl); try simp only [Act.put, List.setIfInBounds_toArray, List.set_cons_zero, List.set_cons_succ]
          refine wpAnyH_take (i := 7) (oi := ⟨some _, _, _, _, _, _⟩) (v := ?_) rfl (by kernel_rfl) (by kernel_rfl) (by kernel_rfl) (fun _ _ _ h => h) (Or.inl ⟨by kernel_rfl, ?_⟩) (by assumption) ?_; rotate_left; (intro w hSw; (try dsimp only at hSw); go_simp; try with_reducible rfl); try simp only [Act.put, List.setIfInBounds_toArray, List.set_cons_zero, List.set_cons_succ]
          refine wpAnyH_take (i := 8) (oi := ⟨some _, _, _, _, _, _⟩) (v := ?_) rfl (by kernel_rfl) (by kernel_rfl) (by kernel_rfl) (fun _ _ _ h => h) (Or.inl ⟨by kernel_rfl, ?_⟩) (by assumption) ?_; rotate_left; (intro w hSw; (try dsimp only at hSw); go_simp; try with_reducible rfl); try simp only [Act.put, List.setIfInBounds_toArray, List.set_cons_zero, List.set_cons_succ]
          refine wpAnyH_take (i := 9) (oi := ⟨some _, _, _, _, _, _⟩) (v := ?_) rfl (by kernel_rfl) (by kernel_rfl) (by kernel_rfl) (fun _ _ _ h => h) (Or.inl ⟨by kernel_rfl, ?_⟩) (by assumption) ?_; rotate_left; (intro w hSw; (try dsimp only at hSw); go_simp; try with_reducible rfl); try simp only [Act.put, List.setIfInBounds_toArray, List.set_cons_zero, List.set_cons_succ]
          refine wpAnyH_take (i := 10) (oi := ⟨some _, _, _, _, _, _⟩) (v := ?_) rfl (by kernel_rfl) (by kernel_rfl) (by kernel_rfl) (fun _ _ _ h => h) (Or.inl ⟨by kernel_rfl, ?_⟩) (by assumption) ?_; rotate_left; (intro w hSw; (try dsimp only at hSw); go_simp; try with_reducible rfl); try simp only [Act.put, List.setIfInBounds_toArray, List.set_cons_zero, List.set_cons_succ]
          refine wpAnyH_ready (rs := [5]) (by kernel_rfl) (by simp) ?_
          refine AllReadyH.cons (o := ⟨_, _, _, _, _, _⟩) (by rfl) ?_ AllReadyH.nil
          intro K hK
          go_simp
          refine (HU1.out _).mono ?_
          rintro e V ⟨rfl, hV⟩
          refine hK.out _ _ ?_ (fun hHeld => ?_)
          · (try dsimp only); exact HKr.out _ hV
          clear hK K
          try simp only [Act.put, List.setIfInBounds_toArray, List.set_cons_zero, List.set_cons_succ]
          refine wpAnyH_ready (rs := [11]) (by kernel_rfl) (by simp) ?_
          refine AllReadyH.cons (o := ⟨_, _, _, _, _, _⟩) (by rfl) ?_ AllReadyH.nil
          intro K hK
          go_simp
          refine (HU2.out _).mono ?_
          rintro e U ⟨rfl, hU⟩
          refine hK.out _ _ ?_ (fun hHeld => ?_)
          · (try dsimp only); exact HKr.out _ (hV.trans hU)
          clear hK K
          try simp only [Act.put, List.setIfInBounds_toArray, List.set_cons_zero, List.set_cons_succ]
          refine wpAnyH_take (i := 12) (oi := ⟨some _, _, _, _, _, _⟩) (v := ?_) rfl (by kernel_rfl) (by kernel_rfl) (by kernel_rfl) (fun _ _ _ h => h) (Or.inl ⟨by kernel_rfl, ?_⟩) (by assumption) ?_; rotate_left; (intro w hSw; (try dsimp only at hSw); go_simp; try with_reducible rfl); try simp only [Act.put, List.setIfInBounds_toArray, List.set_cons_zero, List.set_cons_succ]
          refine wpAnyH_done (by kernel_rfl) ?_ _
          have HV2 := Lib.hid ((HV.out.drew.trans hV).trans hU)
          clear hV hU HKr HU1 HU2 HV y1 y2
          go_wp2_with fail
          go_roundw
          case rel => exact ⟨k + 1, by omega, by omega, by go_num, HV2⟩
          case measure => simp [intOf]; omega
        · obtain rfl : k = 3 := by omega
          have HO3 := Lib.hid (HO2.out.trans HV.out)
          clear HUU HUn HUv hlt k0 k3 HV
          go_wp2_with fail
          refine (HA.out _).mono ?_
          rintro e w4 ⟨rfl, ho⟩
          have HO4 := Lib.hid (HO3.out.trans ho)
          clear ho
          go_wp2_with fail
          go_ret
          exact ⟨rfl, HO4.out⟩


theorem own : ownKnob Try.prog.godebug = none := by kernel_rfl
theorem laidOut : laidOutB Try.prog = true := by kernel_rfl

set_option maxRecDepth 100000 in
theorem lifted (os : Os) (started : os.Started) (H : Type) (enc : TypeId × Value → H) :
    ReturnsInHanded {} Try.checked os 4 .any (Rows.voiceHomesSpec.pre6 enc Try.prog Try.f4 Rows.voiceHomesRow.domain false) (Rows.voiceHomesSpec.post enc Try.prog Try.f4 false true false false) := by
  refine returnsInHanded_of_change (C := Try.checked) own started (by kernel_rfl) Try.func4
    (ChangeSpec.witness6 (enc := enc) (C := Try.checked) false ⟨#[], #[.agg #[.string ⟨#[]⟩, .int .i64 0, .int .i64 0, .int .i64 0, .bool false, .int .i64 0, .int .i64 0, .int .i64 0, .int .i64 0], .int .i64 0], []⟩ 8 (by kernel_rfl) (by kernel_rfl) (by kernel_rfl) (by kernel_rfl)) ?_
  intro W base args ds gs before hval0 hW hcnd _
  have hval : ∀ (j : Nat) t v, Try.f4.params[j]? = some t → args[j]? = some v → Value.okWide Try.prog W .any base t v := hval0
  have hW' := hW
  have hlt : ∀ p ∈ before, p.block < W.heap.size := fun p hp => hW'.lt p hp
  obtain ⟨p, q, hA0, hV, rfl, hfz, hnd⟩ := hW
  have hA : DataW.TrodAll enc Try.prog W 0 (fun _ => true) true Try.f4.params.toList args.toList ds p := hA0
  rw [Try.params4] at hA hval
  obtain ⟨v0, vs0, d0, ds0, p0, q0, hargs, rfl, rfl, h0, r0⟩ := trodAll_cons hA
  obtain ⟨v1, vs1, d1, ds1, p1, q1, rfl, rfl, rfl, h1, r1⟩ := trodAll_cons r0
  obtain ⟨rfl, rfl, rfl⟩ := trodAll_nil r1
  obtain rfl : args = #[v0, v1] := by cases args; simp_all
  obtain ⟨rfl, rfl⟩ := trodVars_none hV
  obtain ⟨ms0, mn0, mr0, mc0, ml0, ma0, mb0, mx0, my0, rfl, mw0, mf0⟩ := open_meta (hval 0 28 v0 rfl rfl) h0
  obtain ⟨a1, rfl, _, _, w1⟩ := open_int Try.underlying2 (hval 1 2 v1 rfl rfl) h1
  refine (walk ms0 mn0 mr0 mc0 ml0 ma0 mb0 mx0 my0 a1 W mw0 (i64_of w1).1 (i64_of w1).2).mono fun e W' ⟨he, hg⟩ => ?_
  subst he
  exact ⟨_, rfl, law_done laidOut Try.underlying4 rfl (by kernel_rfl) rfl hW' rfl hg⟩

theorem over : Rows.voiceHomesRow.holds Try.pinned (OpenSpec.ofChange Rows.voiceHomesSpec) :=
  OpenClaim.holds_of_wide 4 Try.f4 rfl rfl rfl rfl rfl rfl rfl ⟨rfl, rfl, rfl, rfl, rfl⟩ rfl rfl rfl rfl rfl (by kernel_rfl) Try.func4 (by kernel_rfl)
    (of_decide_eq_true (by kernel_rfl)) (by unfold Func.isWrapper; first | (rw [if_pos (by decide +kernel)]; kernel_rfl) | (rw [if_neg (by decide +kernel)]; exact ⟨rfl, rfl⟩))
    (fun os started H enc _ => lifted os started H enc)

theorem proved : Rows.VoiceHomesSaid :=
  over
end Go.Proofs.Ytoicpkkcamejcaa.voiceHomes
