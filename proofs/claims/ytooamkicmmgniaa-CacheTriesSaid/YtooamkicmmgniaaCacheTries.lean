/- CacheTries: a page whose readings fail so often is had just if it is tried often enough; what is lost is in no slot; tries, misses and losses are told (17.1). No condition. -/
import Derived.Test.YtooamkicmmgniaaRows
import Derived.Test.YtooamkicmmgniaaTriesP
namespace Go.Proofs.Ytooamkicmmgniaa.cacheTries
open Go.ChangeShapes Go.WideShapes Go.ChangeAt Go.RowKit
set_option linter.unusedVariables false
set_option linter.unusedSimpArgs false

set_option maxRecDepth 100000 in
set_option maxHeartbeats 8000000 in
theorem awakeEnd (w : World) : Calls Try.prog 7 #[] w fun e w' => e = .returned (.bool true) ∧ Old w w' := awake_any w
set_option maxRecDepth 100000 in
set_option maxHeartbeats 8000000 in
theorem walkOut (p : Option Addr) (n cap : Nat) (rt k : Int) (w : World) (h : n < 1 ∨ 500 < n ∨ rt < 0 ∨ 8 < rt ∨ k < 0 ∨ 100 < k) (hn : n ≤ 9223372036854775807) :
    Calls Try.prog 5 #[.slice p n cap, .int .i64 rt, .int .i64 k] w fun e w' => e = .returned (.bool true) ∧ Old w w' := by
  have HA := Lib.hid (awake_any w)
  by_cases c1 : n < 1
  · clear h
    go_enter Try.func5, Try.ntmps5
    go_wp2_with fail
    refine HA.out.mono ?_
    rintro e w1 ⟨rfl, ho⟩
    go_wp2_with fail
    go_ret
    exact ⟨rfl, ho⟩
  by_cases c2 : 500 < n
  · clear h
    go_enter Try.func5, Try.ntmps5
    go_wp2_with fail
    refine HA.out.mono ?_
    rintro e w1 ⟨rfl, ho⟩
    go_wp2_with fail
    go_ret
    exact ⟨rfl, ho⟩
  by_cases c3 : rt < 0
  · clear h
    go_enter Try.func5, Try.ntmps5
    go_wp2_with fail
    refine HA.out.mono ?_
    rintro e w1 ⟨rfl, ho⟩
    go_wp2_with fail
    go_ret
    exact ⟨rfl, ho⟩
  by_cases c4 : 8 < rt
  · clear h
    go_enter Try.func5, Try.ntmps5
    go_wp2_with fail
    refine HA.out.mono ?_
    rintro e w1 ⟨rfl, ho⟩
    go_wp2_with fail
    go_ret
    exact ⟨rfl, ho⟩
  by_cases c5 : k < 0
  · clear h
    go_enter Try.func5, Try.ntmps5
    go_wp2_with fail
    refine HA.out.mono ?_
    rintro e w1 ⟨rfl, ho⟩
    go_wp2_with fail
    go_ret
    exact ⟨rfl, ho⟩
  have c6 : 100 < k := by omega
  clear h
  go_enter Try.func5, Try.ntmps5
  go_wp2_with fail
  refine HA.out.mono ?_
  rintro e w1 ⟨rfl, ho⟩
  go_wp2_with fail
  go_ret
  exact ⟨rfl, ho⟩
set_option maxRecDepth 100000 in
set_option maxHeartbeats 8000000 in
theorem walkIn (p : Option Addr) (n cap : Nat) (F : Nat → Int) (rt m : Nat) (w : World) (hs : SlU w p n F) (hb : Byt F n) (hcap : n ≤ cap) (h1 : 1 ≤ n) (h2 : n ≤ 500) (h3 : rt ≤ 8) (h4 : m ≤ 100) :
    Calls Try.prog 5 #[.slice p n cap, .int .i64 (rt : Int), .int .i64 (m : Int)] w fun e w' => e = .returned (.bool true) ∧ Old w w' := by
  have HMd := Lib.hid (made_ok p n cap F 3 rt w hs hb (by omega) hcap (by omega) (by omega) h3)
  have hpg : 0 < pgs n := by unfold pgs; omega
  have HPg := Lib.hid hpg
  clear hs hb hpg
  go_enter Try.func5, Try.ntmps5
  go_wp2_with fail
  refine HMd.out.mono ?_
  rintro e w1 ⟨z0, dm, rfl, hcd, hz, ho⟩
  clear HMd
  have HO := Lib.hid ho
  have HD := Lib.hid hcd
  have HF := Lib.hid (CD.Fail hcd (k := 0) HPg.out (n := (m : Int)) (by omega))
  clear hcd hz ho
  go_wp2_with fail
  refine HF.out.mono ?_
  rintro e w2 ⟨rfl, hcd, hk⟩
  clear HF
  have HK2 := Lib.hid (HD.out.keep hk)
  obtain ⟨d1, hd1⟩ : ∃ d1, d1 = (dk0 n F).set 0 (Flt.mk (m : Int) ((dk0 n F).F 0).a ((dk0 n F).F 0).x).norm := ⟨_, rfl⟩
  rw [← hd1] at hcd
  have hf1 : (d1.F 0).f = (m : Int) := by
    rw [hd1, set_F, norm_f]
  have hr1 : d1.r = 0 := by rw [hd1]; rfl
  have HD2 := Lib.hid hcd
  have HG := Lib.hid (CD.Get hcd (k := 0) HPg.out)
  by_cases hc : rt < m
  · obtain ⟨d2, ht, hr2, _⟩ := take_lost hf1 hc h3 hr1
    rw [ht] at HG
    clear hcd hk hd1 hf1 hr1 ht
    go_wp2_with fail
    refine HG.out.mono ?_
    rintro e w3 ⟨⟨q, cq, rfl, _⟩, hcd, hk⟩
    clear HG
    have HK3 := Lib.hid (HK2.out.trans (HD2.out.keep hk))
    have HD3 := Lib.hid hcd
    have HP := Lib.hid (CD.Pages hcd)
    clear hcd hk
    go_wp2_with fail
    refine HP.out.mono ?_
    rintro e w4 ⟨rfl, hp, ho4⟩
    clear HP
    have a0 : w4.cell? ⟨w3.heap.size, 0, none⟩ = some (.int .i64 (-1)) := hp.cell 0 (by show 0 < 3; omega)
    have HO4 := Lib.hid ho4
    have HD4 := Lib.hid (HD3.out.old ho4)
    have HT := Lib.hid (CD.Told HD4.out)
    unfold statV at HT
    have e1 : wrap64 ((rt : Int) + 1) = (rt : Int) + 1 := IntWalk.wrap64_in _ (by omega)
    have hE : ∀ w, (binOp .eql 37 (.agg #[.int .i64 0, .int .i64 1, .int .i64 ((rt : Int) + 1), .int .i64 1]) (.agg #[.int .i64 0, .int .i64 1, .int .i64 ((rt : Int) + 1), .int .i64 1])).run Try.prog w = .ok (.bool true) w := fun w => eq_stats _ _ _ _ _
    clear hp ho4
    go_wp2_with fail
    refine HT.out.mono ?_
    rintro e w5 ⟨rfl, ho5⟩
    clear HT
    have HD5 := Lib.hid (HD4.out.old ho5)
    have HR := Lib.hid (CD.Reads HD5.out)
    rw [hr2] at HR
    have HO5 := Lib.hid (HO4.out.trans ho5)
    clear ho5 hr2
    go_wp2_with fail
    refine HR.out.mono ?_
    rintro e w' ⟨rfl, rfl⟩
    clear HR
    go_wp2_with fail
    refine (awake_any _).mono ?_
    rintro e w6 ⟨rfl, ho6⟩
    have HF : Hid (Old w w6) := Lib.hid (((HO.out.after HK3.out fun _ h => h).trans HO5.out).trans ho6)
    clear ho6
    go_wp2_with fail
    go_ret
    exact ⟨rfl, HF.out⟩
  · obtain ⟨G, d2, ht⟩ := take_had hf1 (by omega) h3
    rw [ht] at HG
    clear hcd hk hd1 hf1 hr1 ht
    go_wp2_with fail
    refine HG.out.mono ?_
    rintro e w3 ⟨⟨q, cq, rfl, _, _, _⟩, hcd, hk⟩
    clear HG
    have HK3 := Lib.hid (HK2.out.trans (HD2.out.keep hk))
    have HD3 := Lib.hid hcd
    have HP := Lib.hid (CD.Pages hcd)
    clear hcd hk
    go_wp2_with fail
    refine HP.out.mono ?_
    rintro e w4 ⟨rfl, hp, ho4⟩
    clear HP
    have a0 : w4.cell? ⟨w3.heap.size, 0, none⟩ = some (.int .i64 0) := hp.cell 0 (by show 0 < 3; omega)
    have HO4 := Lib.hid ho4
    have HT := Lib.hid (CD.Told (HD3.out.old ho4))
    unfold statV at HT
    have e1 : wrap64 ((m : Int) + 1) = (m : Int) + 1 := IntWalk.wrap64_in _ (by omega)
    have hE : ∀ w, (binOp .eql 37 (.agg #[.int .i64 0, .int .i64 1, .int .i64 ((m : Int) + 1), .int .i64 0]) (.agg #[.int .i64 0, .int .i64 1, .int .i64 ((m : Int) + 1), .int .i64 0])).run Try.prog w = .ok (.bool true) w := fun w => eq_stats _ _ _ _ _
    clear hp ho4
    go_wp2_with fail
    refine HT.out.mono ?_
    rintro e w5 ⟨rfl, ho5⟩
    clear HT
    have HO5 := Lib.hid (HO4.out.trans ho5)
    clear ho5
    go_wp2_with fail
    refine (awake_any _).mono ?_
    rintro e w6 ⟨rfl, ho6⟩
    have HF : Hid (Old w w6) := Lib.hid (((HO.out.after HK3.out fun _ h => h).trans HO5.out).trans ho6)
    clear ho6
    go_wp2_with fail
    go_ret
    exact ⟨rfl, HF.out⟩
theorem walk (xs : List Int) (p : Option Addr) (n cap : Nat) (rt k : Int) (w : World) (hv : SlI w .u8 (.slice p n cap) xs) (hbt : ∀ x ∈ xs, 0 ≤ x ∧ x ≤ 255) (hcap : n ≤ cap) (hm : cap ≤ maxLen) :
    Calls Try.prog 5 #[.slice p n cap, .int .i64 rt, .int .i64 k] w fun e w' => e = .returned (.bool true) ∧ Old w w' := by
  obtain ⟨hU, hl⟩ := hv.slU
  by_cases h : n < 1 ∨ 500 < n ∨ rt < 0 ∨ 8 < rt ∨ k < 0 ∨ 100 < k
  · exact walkOut p n cap rt k w h (by unfold maxLen at hm; omega)
  · obtain ⟨r, rfl⟩ : ∃ r : Nat, rt = r := ⟨rt.toNat, by omega⟩
    obtain ⟨m, rfl⟩ : ∃ m : Nat, k = m := ⟨k.toNat, by omega⟩
    refine walkIn p n cap _ r m w hU (fun j hj => ?_) hcap (by omega) (by omega) (by omega) (by omega)
    have hj' : j < xs.length := by omega
    have := hbt xs[j] (List.getElem_mem hj')
    simpa [List.getD, hj'] using this


theorem own : ownKnob Try.prog.godebug = none := by kernel_rfl
theorem laidOut : laidOutB Try.prog = true := by kernel_rfl

set_option maxRecDepth 100000 in
theorem lifted (os : Os) (started : os.Started) (H : Type) (enc : TypeId × Value → H) :
    ReturnsInHanded {} Try.checked os 5 .any (Rows.cacheTriesSpec.pre6 enc Try.prog Try.f5 Rows.cacheTriesRow.domain false) (Rows.cacheTriesSpec.post enc Try.prog Try.f5 false true false false) := by
  refine returnsInHanded_of_change (C := Try.checked) own started (by kernel_rfl) Try.func5
    (ChangeSpec.witness6 (enc := enc) (C := Try.checked) false ⟨#[], #[.slice none 0 0, .int .i64 0, .int .i64 0], []⟩ 8 (by kernel_rfl) (by kernel_rfl) (by kernel_rfl) (by kernel_rfl)) ?_
  intro W base args ds gs before hval0 hW hcnd _
  have hval : ∀ (j : Nat) t v, Try.f5.params[j]? = some t → args[j]? = some v → Value.okWide Try.prog W .any base t v := hval0
  have hW' := hW
  have hlt : ∀ p ∈ before, p.block < W.heap.size := fun p hp => hW'.lt p hp
  obtain ⟨p, q, hA0, hV, rfl, hfz, hnd⟩ := hW
  have hA : DataW.TrodAll enc Try.prog W 0 (fun _ => true) true Try.f5.params.toList args.toList ds p := hA0
  rw [Try.params5] at hA hval
  obtain ⟨v0, vs0, d0, ds0, p0, q0, hargs, rfl, rfl, h0, r0⟩ := trodAll_cons hA
  obtain ⟨v1, vs1, d1, ds1, p1, q1, rfl, rfl, rfl, h1, r1⟩ := trodAll_cons r0
  obtain ⟨v2, vs2, d2, ds2, p2, q2, rfl, rfl, rfl, h2, r2⟩ := trodAll_cons r1
  obtain ⟨rfl, rfl, rfl⟩ := trodAll_nil r2
  obtain rfl : args = #[v0, v1, v2] := by cases args; simp_all
  obtain ⟨rfl, rfl⟩ := trodVars_none hV
  obtain ⟨s0, n0, c0, xs0, rfl, hs0, hn0, hc0, hw0⟩ := open_slI Try.underlying22 Try.underlying5 (by kernel_rfl) (hval 0 22 v0 rfl rfl) h0 (fun x hx => hlt x (by simp [hx]))
  obtain ⟨a1, rfl, _, _, w1⟩ := open_int Try.underlying3 (hval 1 3 v1 rfl rfl) h1
  obtain ⟨a2, rfl, _, _, w2⟩ := open_int Try.underlying3 (hval 2 3 v2 rfl rfl) h2
  refine (walk xs0 s0 n0 c0 a1 a2 W hs0 (bytes_of hw0) hn0 hc0).mono fun e W' ⟨he, hg⟩ => ?_
  subst he
  exact ⟨_, rfl, law_done laidOut Try.underlying4 rfl (by kernel_rfl) rfl hW' rfl hg⟩

theorem over : Rows.cacheTriesRow.holds Try.pinned (OpenSpec.ofChange Rows.cacheTriesSpec) :=
  OpenClaim.holds_of_wide 5 Try.f5 rfl rfl rfl rfl rfl rfl rfl ⟨rfl, rfl, rfl, rfl, rfl⟩ rfl rfl rfl rfl rfl (by kernel_rfl) Try.func5 (by kernel_rfl)
    (of_decide_eq_true (by kernel_rfl)) (by unfold Func.isWrapper; first | (rw [if_pos (by decide +kernel)]; kernel_rfl) | (rw [if_neg (by decide +kernel)]; exact ⟨rfl, rfl⟩))
    (fun os started H enc _ => lifted os started H enc)

theorem proved : Rows.CacheTriesSaid :=
  over
end Go.Proofs.Ytooamkicmmgniaa.cacheTries
