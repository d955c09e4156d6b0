/- CachePlays: whatever is taken, let go, fails, is spoilt and healed, a cache gives, and has, what the document says (17.1 to 17.3). No condition. -/
import Derived.Test.YtooamkicmmgniaaRows
import Derived.Test.YtooamkicmmgniaaPlnI
import Derived.Test.YtooamkicmmgniaaRowK
import Derived.Deep.DeepCutAuto
import Derived.Deep.CutBlock
import Derived.RegionTactic
import Derived.Deep.RegionHeld
namespace Go.Proofs.Ytooamkicmmgniaa.cachePlays
open Go.ChangeShapes Go.WideShapes Go.ChangeAt Go.RowKit
set_option linter.unusedVariables false
set_option linter.unusedSimpArgs false

set_option maxRecDepth 100000 in
set_option maxHeartbeats 8000000 in
/-- No walk yet. -/
theorem noWalk : True := trivial
set_option maxRecDepth 100000 in
set_option maxHeartbeats 8000000 in
theorem walkA (p : Option Addr) (n cap : Nat) (F : Nat → Int) (pq : Option Addr) (nq cq : Nat) (w : World) (sl rt : Int) (h : 500 < n ∨ (20 < sl ∧ sl ≤ 1024)) (hn : n ≤ 9223372036854775807) :
    Calls Try.prog 3 #[.slice p n cap, .int .i64 sl, .int .i64 rt, .slice pq nq cq] w fun e w' => e = .returned (.bool true) ∧ Old w w' := by
  have HA := Lib.hid (awake_any w)
  by_cases c1 : 500 < n
  · clear h
    go_enter Try.func3, Try.ntmps3
    go_wp2_with fail
    refine HA.out.mono ?_
    rintro e w1 ⟨rfl, ho⟩
    go_wp2_with fail
    go_ret
    exact ⟨rfl, ho⟩
  · have c2 : 20 < sl := by omega
    have c3 : sl ≤ 1024 := by omega
    clear h
    go_enter Try.func3, Try.ntmps3
    go_wp2_with fail
    refine HA.out.mono ?_
    rintro e w1 ⟨rfl, ho⟩
    go_wp2_with fail
    go_ret
    exact ⟨rfl, ho⟩
set_option maxRecDepth 100000 in
set_option maxHeartbeats 8000000 in
theorem walkBad (p : Option Addr) (n cap : Nat) (F : Nat → Int) (pq : Option Addr) (nq cq : Nat) (w : World) (sl rt : Int) (hs : SlU w p n F) (hb : Byt F n) (hcap : n ≤ cap) (h5 : n ≤ 500) (h20 : sl ≤ 20 ∨ 1024 < sl) (h : sl < 1 ∨ 1024 < sl ∨ rt < 0 ∨ 8 < rt) :
    Calls Try.prog 3 #[.slice p n cap, .int .i64 sl, .int .i64 rt, .slice pq nq cq] w fun e w' => e = .returned (.bool true) ∧ Old w w' := by
  have HMd := Lib.hid (made_bad p n cap F sl rt w hs hb (by omega) hcap h)
  clear hs hb
  have c0 : ¬ (500 : Int) < (n : Int) := by omega
  by_cases c1 : sl < 1
  · have c2 : ¬ 20 < sl := by omega
    clear h h20
    go_enter Try.func3, Try.ntmps3
    go_wp2_with fail
    refine HMd.out.mono ?_
    rintro e w1 ⟨rfl, ho⟩
    have HO := Lib.hid ho
    clear ho HMd
    go_wp2_with fail
    refine (awake_any _).mono ?_
    rintro e w2 ⟨rfl, ho⟩
    have HO2 := Lib.hid (HO.out.trans ho)
    clear ho
    go_wp2_with fail
    go_ret
    exact ⟨rfl, HO2.out⟩
  by_cases c3 : 1024 < sl
  · have c2 : 20 < sl := by omega
    have c4 : ¬ sl ≤ 1024 := by omega
    clear h h20
    go_enter Try.func3, Try.ntmps3
    go_wp2_with fail
    refine HMd.out.mono ?_
    rintro e w1 ⟨rfl, ho⟩
    have HO := Lib.hid ho
    clear ho HMd
    go_wp2_with fail
    refine (awake_any _).mono ?_
    rintro e w2 ⟨rfl, ho⟩
    have HO2 := Lib.hid (HO.out.trans ho)
    clear ho
    go_wp2_with fail
    go_ret
    exact ⟨rfl, HO2.out⟩
  have c2 : ¬ 20 < sl := by omega
  by_cases c5 : rt < 0
  · skip
    clear h h20
    go_enter Try.func3, Try.ntmps3
    go_wp2_with fail
    refine HMd.out.mono ?_
    rintro e w1 ⟨rfl, ho⟩
    have HO := Lib.hid ho
    clear ho HMd
    go_wp2_with fail
    refine (awake_any _).mono ?_
    rintro e w2 ⟨rfl, ho⟩
    have HO2 := Lib.hid (HO.out.trans ho)
    clear ho
    go_wp2_with fail
    go_ret
    exact ⟨rfl, HO2.out⟩
  have c6 : 8 < rt := by omega
  clear h h20
  go_enter Try.func3, Try.ntmps3
  go_wp2_with fail
  refine HMd.out.mono ?_
  rintro e w1 ⟨rfl, ho⟩
  have HO := Lib.hid ho
  clear ho HMd
  go_wp2_with fail
  refine (awake_any _).mono ?_
  rintro e w2 ⟨rfl, ho⟩
  have HO2 := Lib.hid (HO.out.trans ho)
  clear ho
  go_wp2_with fail
  go_ret
  exact ⟨rfl, HO2.out⟩
set_option maxRecDepth 100000 in
set_option maxHeartbeats 8000000 in
theorem walkOk (p : Option Addr) (n cap : Nat) (F : Nat → Int) (pq : Option Addr) (nq cq : Nat) (w : World) (K G Nn Z : Nat → Int) (sl rt : Nat) (hs : SlU w p n F) (hb : Byt F n) (hcap : n ≤ cap) (h5 : n ≤ 500) (h1 : 1 ≤ sl) (h20 : sl ≤ 20) (h8 : rt ≤ 8) (hop : SlOps w pq nq K G Nn Z) (hrg : ∀ i, i < nq → (-9223372036854775808 ≤ Nn i ∧ Nn i ≤ 9223372036854775807) ∧ (-9223372036854775808 ≤ G i ∧ G i ≤ 9223372036854775807) ∧ 0 ≤ Z i ∧ Z i ≤ 255) (hnq : nq ≤ 9223372036854775807) :
    Calls Try.prog 3 #[.slice p n cap, .int .i64 (sl : Int), .int .i64 (rt : Int), .slice pq nq cq] w fun e w' => e = .returned (.bool true) ∧ Old w w' := by
  have HMd := Lib.hid (made_ok p n cap F sl rt w hs hb (by omega) hcap h1 (by omega) h8)
  have HS := Lib.hid hs
  have HBy := Lib.hid hb
  have HOp := Lib.hid hop
  have HRg := Lib.hid hrg
  have hpg : pgs n ≤ 65536 := by unfold pgs; omega
  have HPg := Lib.hid hpg
  have HNs := Lib.hid (And.intro h1 (And.intro h20 h8))
  have c0 : ¬ (500 : Int) < (n : Int) := by omega
  clear hs hb hop hrg hpg
  go_enter Try.func3, Try.ntmps3
  go_wp2_with fail
  refine HMd.out.mono ?_
  rintro e w1 ⟨z0, dm, rfl, hcd, hz1, ho1⟩
  have HCD := Lib.hid (And.intro hcd (And.intro hz1 ho1))
  have HDN := Lib.hid (DNew_ok p n cap F w1 (HS.out.old ho1) (by omega) hcap HBy.out)
  clear hcd hz1 ho1 HMd
  go_wp2_with fail
  refine HDN.out.mono ?_
  rintro e w2 ⟨dx, rfl, hdx, hd2, ho2⟩
  have HD2 := Lib.hid (And.intro hdx (And.intro hd2 ho2))
  have HM1 := Lib.hid (fun V => make_intsC sl (by omega) V)
  have HM2 := Lib.hid (fun V => make_boolsC sl (by omega) V)
  have HM3 := Lib.hid (fun V => make_rowsC sl (by omega) V)
  have HBd : Hid (∀ g1 g2 g3, Try.prog.built 39 [(0, .pointer (some ⟨dx + 1, 0, none⟩)), (1, .slice (some ⟨g1, 0, none⟩) sl sl), (2, .slice (some ⟨g2, 0, none⟩) sl sl), (3, .slice (some ⟨g3, 0, none⟩) sl sl), (5, .int .i64 (rt : Int))] = some #[.pointer (some ⟨dx + 1, 0, none⟩), .slice (some ⟨g1, 0, none⟩) sl sl, .slice (some ⟨g2, 0, none⟩) sl sl, .slice (some ⟨g3, 0, none⟩) sl sl, .int .i64 0, .int .i64 (rt : Int), .int .i64 0, .int .i64 0, .int .i64 0, .int .i64 0]) := Lib.hid fun g1 g2 g3 => by kernel_rfl
  clear hdx hd2 ho2 HDN
  go_upto_region 9 with (fail)
  go_cut [13] (fun v wx => ∃ q gp gm gd, v = .pointer (some ⟨q, 0, none⟩) ∧ MadeR w2 sl rt (dx + 1) q gp gm gd wx)
  case first =>
    have hM1 := HM1.out
    have hM2 := HM2.out
    have hM3 := HM3.out
    refine wp_region_held_drew (S := (fun _ => True)) (by kernel_rfl) ?_ (fun hHeld => ?_)
    · exact trivial
    refine wpAnyH_take (i := 0) (oi := ⟨some _, _, _, _, _, _⟩) (v := ?_) rfl (by kernel_rfl) (by kernel_rfl) (by kernel_rfl) (fun _ _ _ h => h) (Or.inl ⟨by kernel_rfl, ?_⟩) (by assumption) ?_; rotate_left; (intro w hSw; (try dsimp only at hSw); go_simp; try with_reducible rfl); try simp only [Act.put, List.setIfInBounds_toArray, List.set_cons_zero, List.set_cons_succ]
    refine wpAnyH_take (i := 1) (oi := ⟨some _, _, _, _, _, _⟩) (v := ?_) rfl (by kernel_rfl) (by kernel_rfl) (by kernel_rfl) (fun _ _ _ h => h) (Or.inl ⟨by kernel_rfl, ?_⟩) (by assumption) ?_; rotate_left; (intro w hSw; (try dsimp only at hSw); go_simp; try with_reducible rfl); try simp only [Act.put, List.setIfInBounds_toArray, List.set_cons_zero, List.set_cons_succ]
    refine wpAnyH_take (i := 3) (oi := ⟨some _, _, _, _, _, _⟩) (v := ?_) rfl (by kernel_rfl) (by kernel_rfl) (by kernel_rfl) (fun _ _ _ h => h) (Or.inl ⟨by kernel_rfl, ?_⟩) (by assumption) ?_; rotate_left; (intro w hSw; (try dsimp only at hSw); go_simp; try with_reducible rfl); try simp only [Act.put, List.setIfInBounds_toArray, List.set_cons_zero, List.set_cons_succ]
    refine wpAnyH_take (i := 5) (oi := ⟨some _, _, _, _, _, _⟩) (v := ?_) rfl (by kernel_rfl) (by kernel_rfl) (by kernel_rfl) (fun _ _ _ h => h) (Or.inl ⟨by kernel_rfl, ?_⟩) (by assumption) ?_; rotate_left; (intro w hSw; (try dsimp only at hSw); go_simp; try with_reducible rfl); try simp only [Act.put, List.setIfInBounds_toArray, List.set_cons_zero, List.set_cons_succ]
    refine wpAnyH_take (i := 7) (oi := ⟨some _, _, _, _, _, _⟩) (v := ?_) rfl (by kernel_rfl) (by kernel_rfl) (by kernel_rfl) (fun _ _ _ h => h) (Or.inl ⟨by kernel_rfl, ?_⟩) (by assumption) ?_; rotate_left; (intro w hSw; (try dsimp only at hSw); go_simp; try with_reducible rfl); try simp only [Act.put, List.setIfInBounds_toArray, List.set_cons_zero, List.set_cons_succ]
    refine wpAnyH_ready (rs := [2, 4, 6]) (by kernel_rfl) (by simp) ?_
    (refine AllReadyH.cons (o := ⟨_, _, _, _, _, _⟩) (by rfl) ?_ (AllReadyH.cons (o := ⟨_, _, _, _, _, _⟩) (by rfl) ?_ (AllReadyH.cons (o := ⟨_, _, _, _, _, _⟩) (by rfl) ?_ AllReadyH.nil))) <;> intro K hK
    · go_simp
      refine hK.out _ _ ?_ (fun hHeld => ?_)
      · exact trivial
      clear hK K
      try simp only [Act.put, List.setIfInBounds_toArray, List.set_cons_zero, List.set_cons_succ]
      refine wpAnyH_ready (rs := [4, 6]) (by kernel_rfl) (by simp) ?_
      (refine AllReadyH.cons (o := ⟨_, _, _, _, _, _⟩) (by rfl) ?_ (AllReadyH.cons (o := ⟨_, _, _, _, _, _⟩) (by rfl) ?_ AllReadyH.nil)) <;> intro K hK
      · go_simp
        refine hK.out _ _ ?_ (fun hHeld => ?_)
        · exact trivial
        clear hK K
        try simp only [Act.put, List.setIfInBounds_toArray, List.set_cons_zero, List.set_cons_succ]
        refine wpAnyH_ready (rs := [6]) (by kernel_rfl) (by simp) ?_
        refine AllReadyH.cons (o := ⟨_, _, _, _, _, _⟩) (by rfl) ?_ AllReadyH.nil
        intro K hK
        go_simp
        refine hK.out _ _ ?_ (fun hHeld => ?_)
        · exact trivial
        clear hK K
        try simp only [Act.put, List.setIfInBounds_toArray, List.set_cons_zero, List.set_cons_succ]
        refine wpAnyH_take (i := 8) (oi := ⟨some _, _, _, _, _, _⟩) (v := .agg #[.pointer (some ⟨dx + 1, 0, none⟩), .slice (some ⟨w2.heap.size, 0, none⟩) sl sl, .slice (some ⟨w2.heap.size + 1, 0, none⟩) sl sl, .slice (some ⟨w2.heap.size + 1 + 1, 0, none⟩) sl sl, .int .i64 0, .int .i64 (rt : Int), .int .i64 0, .int .i64 0, .int .i64 0, .int .i64 0]) rfl (by kernel_rfl) (by kernel_rfl) (by kernel_rfl) (fun _ _ _ h => h) (yieldsIf_build (by kernel_rfl) 39 _ rfl [(0, .pointer (some ⟨dx + 1, 0, none⟩)), (1, .slice (some ⟨w2.heap.size, 0, none⟩) sl sl), (2, .slice (some ⟨w2.heap.size + 1, 0, none⟩) sl sl), (3, .slice (some ⟨w2.heap.size + 1 + 1, 0, none⟩) sl sl), (5, .int .i64 (rt : Int))] _ (by kernel_rfl) (HBd.out _ _ _)) (by assumption) ?_; try simp only [Act.put, List.setIfInBounds_toArray, List.set_cons_zero, List.set_cons_succ]
        refine wpAnyH_ready (rs := [9]) (by kernel_rfl) (by simp) ?_
        refine AllReadyH.cons (o := ⟨_, _, _, _, _, _⟩) (by rfl) ?_ AllReadyH.nil
        intro K hK
        go_simp
        refine hK.out _ _ ?_ (fun hHeld => ?_)
        · exact trivial
        clear hK K
        try simp only [Act.put, List.setIfInBounds_toArray, List.set_cons_zero, List.set_cons_succ]
        refine wpAnyH_take (i := 10) (oi := ⟨some _, _, _, _, _, _⟩) (v := ?_) rfl (by kernel_rfl) (by kernel_rfl) (by kernel_rfl) (fun _ _ _ h => h) (Or.inl ⟨by kernel_rfl, ?_⟩) (by assumption) ?_; rotate_left; (intro w hSw; (try dsimp only at hSw); go_simp; try with_reducible rfl); try simp only [Act.put, List.setIfInBounds_toArray, List.set_cons_zero, List.set_cons_succ]
        refine wpAnyH_done (by kernel_rfl) ?_ _
        go_wp2_with fail
        go_meet
        have hf := four_allocs w2 (.cells (rowN sl (blk fun _ => 0)) 3) (.cells (rowN sl (fun _ => .bool false)) 4) (.cells (rowN sl (fun _ => .slice none 0 0)) 22) (.cells #[.pointer (some ⟨dx + 1, 0, none⟩), .slice (some ⟨w2.heap.size, 0, none⟩) sl sl, .slice (some ⟨w2.heap.size + 1, 0, none⟩) sl sl, .slice (some ⟨w2.heap.size + 1 + 1, 0, none⟩) sl sl, .int .i64 0, .int .i64 (rt : Int), .int .i64 0, .int .i64 0, .int .i64 0, .int .i64 0] 39)
        exact ⟨_, _, _, _, rfl, madeR_of hf.2.2.2.1 hf.1 hf.2.1 hf.2.2.1 (by omega) (by omega) hf.2.2.2.2⟩
      · go_simp
        refine hK.out _ _ ?_ (fun hHeld => ?_)
        · exact trivial
        clear hK K
        try simp only [Act.put, List.setIfInBounds_toArray, List.set_cons_zero, List.set_cons_succ]
        refine wpAnyH_ready (rs := [4]) (by kernel_rfl) (by simp) ?_
        refine AllReadyH.cons (o := ⟨_, _, _, _, _, _⟩) (by rfl) ?_ AllReadyH.nil
        intro K hK
        go_simp
        refine hK.out _ _ ?_ (fun hHeld => ?_)
        · exact trivial
        clear hK K
        try simp only [Act.put, List.setIfInBounds_toArray, List.set_cons_zero, List.set_cons_succ]
        refine wpAnyH_take (i := 8) (oi := ⟨some _, _, _, _, _, _⟩) (v := .agg #[.pointer (some ⟨dx + 1, 0, none⟩), .slice (some ⟨w2.heap.size, 0, none⟩) sl sl, .slice (some ⟨w2.heap.size + 1 + 1, 0, none⟩) sl sl, .slice (some ⟨w2.heap.size + 1, 0, none⟩) sl sl, .int .i64 0, .int .i64 (rt : Int), .int .i64 0, .int .i64 0, .int .i64 0, .int .i64 0]) rfl (by kernel_rfl) (by kernel_rfl) (by kernel_rfl) (fun _ _ _ h => h) (yieldsIf_build (by kernel_rfl) 39 _ rfl [(0, .pointer (some ⟨dx + 1, 0, none⟩)), (1, .slice (some ⟨w2.heap.size, 0, none⟩) sl sl), (2, .slice (some ⟨w2.heap.size + 1 + 1, 0, none⟩) sl sl), (3, .slice (some ⟨w2.heap.size + 1, 0, none⟩) sl sl), (5, .int .i64 (rt : Int))] _ (by kernel_rfl) (HBd.out _ _ _)) (by assumption) ?_; try simp only [Act.put, List.setIfInBounds_toArray, List.set_cons_zero, List.set_cons_succ]
        refine wpAnyH_ready (rs := [9]) (by kernel_rfl) (by simp) ?_
        refine AllReadyH.cons (o := ⟨_, _, _, _, _, _⟩) (by rfl) ?_ AllReadyH.nil
        intro K hK
        go_simp
        refine hK.out _ _ ?_ (fun hHeld => ?_)
        · exact trivial
        clear hK K
        try simp only [Act.put, List.setIfInBounds_toArray, List.set_cons_zero, List.set_cons_succ]
        refine wpAnyH_take (i := 10) (oi := ⟨some _, _, _, _, _, _⟩) (v := ?_) rfl (by kernel_rfl) (by kernel_rfl) (by kernel_rfl) (fun _ _ _ h => h) (Or.inl ⟨by kernel_rfl, ?_⟩) (by assumption) ?_; rotate_left; (intro w hSw; (try dsimp only at hSw); go_simp; try with_reducible rfl); try simp only [Act.put, List.setIfInBounds_toArray, List.set_cons_zero, List.set_cons_succ]
        refine wpAnyH_done (by kernel_rfl) ?_ _
        go_wp2_with fail
        go_meet
        have hf := four_allocs w2 (.cells (rowN sl (blk fun _ => 0)) 3) (.cells (rowN sl (fun _ => .slice none 0 0)) 22) (.cells (rowN sl (fun _ => .bool false)) 4) (.cells #[.pointer (some ⟨dx + 1, 0, none⟩), .slice (some ⟨w2.heap.size, 0, none⟩) sl sl, .slice (some ⟨w2.heap.size + 1 + 1, 0, none⟩) sl sl, .slice (some ⟨w2.heap.size + 1, 0, none⟩) sl sl, .int .i64 0, .int .i64 (rt : Int), .int .i64 0, .int .i64 0, .int .i64 0, .int .i64 0] 39)
        exact ⟨_, _, _, _, rfl, madeR_of hf.2.2.2.1 hf.1 hf.2.2.1 hf.2.1 (by omega) (by omega) hf.2.2.2.2⟩
    · go_simp
      refine hK.out _ _ ?_ (fun hHeld => ?_)
      · exact trivial
      clear hK K
      try simp only [Act.put, List.setIfInBounds_toArray, List.set_cons_zero, List.set_cons_succ]
      refine wpAnyH_ready (rs := [2, 6]) (by kernel_rfl) (by simp) ?_
      (refine AllReadyH.cons (o := ⟨_, _, _, _, _, _⟩) (by rfl) ?_ (AllReadyH.cons (o := ⟨_, _, _, _, _, _⟩) (by rfl) ?_ AllReadyH.nil)) <;> intro K hK
      · go_simp
        refine hK.out _ _ ?_ (fun hHeld => ?_)
        · exact trivial
        clear hK K
        try simp only [Act.put, List.setIfInBounds_toArray, List.set_cons_zero, List.set_cons_succ]
        refine wpAnyH_ready (rs := [6]) (by kernel_rfl) (by simp) ?_
        refine AllReadyH.cons (o := ⟨_, _, _, _, _, _⟩) (by rfl) ?_ AllReadyH.nil
        intro K hK
        go_simp
        refine hK.out _ _ ?_ (fun hHeld => ?_)
        · exact trivial
        clear hK K
        try simp only [Act.put, List.setIfInBounds_toArray, List.set_cons_zero, List.set_cons_succ]
        refine wpAnyH_take (i := 8) (oi := ⟨some _, _, _, _, _, _⟩) (v := .agg #[.pointer (some ⟨dx + 1, 0, none⟩), .slice (some ⟨w2.heap.size + 1, 0, none⟩) sl sl, .slice (some ⟨w2.heap.size, 0, none⟩) sl sl, .slice (some ⟨w2.heap.size + 1 + 1, 0, none⟩) sl sl, .int .i64 0, .int .i64 (rt : Int), .int .i64 0, .int .i64 0, .int .i64 0, .int .i64 0]) rfl (by kernel_rfl) (by kernel_rfl) (by kernel_rfl) (fun _ _ _ h => h) (yieldsIf_build (by kernel_rfl) 39 _ rfl [(0, .pointer (some ⟨dx + 1, 0, none⟩)), (1, .slice (some ⟨w2.heap.size + 1, 0, none⟩) sl sl), (2, .slice (some ⟨w2.heap.size, 0, none⟩) sl sl), (3, .slice (some ⟨w2.heap.size + 1 + 1, 0, none⟩) sl sl), (5, .int .i64 (rt : Int))] _ (by kernel_rfl) (HBd.out _ _ _)) (by assumption) ?_; try simp only [Act.put, List.setIfInBounds_toArray, List.set_cons_zero, List.set_cons_succ]
        refine wpAnyH_ready (rs := [9]) (by kernel_rfl) (by simp) ?_
        refine AllReadyH.cons (o := ⟨_, _, _, _, _, _⟩) (by rfl) ?_ AllReadyH.nil
        intro K hK
        go_simp
        refine hK.out _ _ ?_ (fun hHeld => ?_)
        · exact trivial
        clear hK K
        try simp only [Act.put, List.setIfInBounds_toArray, List.set_cons_zero, List.set_cons_succ]
        refine wpAnyH_take (i := 10) (oi := ⟨some _, _, _, _, _, _⟩) (v := ?_) rfl (by kernel_rfl) (by kernel_rfl) (by kernel_rfl) (fun _ _ _ h => h) (Or.inl ⟨by kernel_rfl, ?_⟩) (by assumption) ?_; rotate_left; (intro w hSw; (try dsimp only at hSw); go_simp; try with_reducible rfl); try simp only [Act.put, List.setIfInBounds_toArray, List.set_cons_zero, List.set_cons_succ]
        refine wpAnyH_done (by kernel_rfl) ?_ _
        go_wp2_with fail
        go_meet
        have hf := four_allocs w2 (.cells (rowN sl (fun _ => .bool false)) 4) (.cells (rowN sl (blk fun _ => 0)) 3) (.cells (rowN sl (fun _ => .slice none 0 0)) 22) (.cells #[.pointer (some ⟨dx + 1, 0, none⟩), .slice (some ⟨w2.heap.size + 1, 0, none⟩) sl sl, .slice (some ⟨w2.heap.size, 0, none⟩) sl sl, .slice (some ⟨w2.heap.size + 1 + 1, 0, none⟩) sl sl, .int .i64 0, .int .i64 (rt : Int), .int .i64 0, .int .i64 0, .int .i64 0, .int .i64 0] 39)
        exact ⟨_, _, _, _, rfl, madeR_of hf.2.2.2.1 hf.2.1 hf.1 hf.2.2.1 (by omega) (by omega) hf.2.2.2.2⟩
      · go_simp
        refine hK.out _ _ ?_ (fun hHeld => ?_)
        · exact trivial
        clear hK K
        try simp only [Act.put, List.setIfInBounds_toArray, List.set_cons_zero, List.set_cons_succ]
        refine wpAnyH_ready (rs := [2]) (by kernel_rfl) (by simp) ?_
        refine AllReadyH.cons (o := ⟨_, _, _, _, _, _⟩) (by rfl) ?_ AllReadyH.nil
        intro K hK
        go_simp
        refine hK.out _ _ ?_ (fun hHeld => ?_)
        · exact trivial
        clear hK K
        try simp only [Act.put, List.setIfInBounds_toArray, List.set_cons_zero, List.set_cons_succ]
        refine wpAnyH_take (i := 8) (oi := ⟨some _, _, _, _, _, _⟩) (v := .agg #[.pointer (some ⟨dx + 1, 0, none⟩), .slice (some ⟨w2.heap.size + 1 + 1, 0, none⟩) sl sl, .slice (some ⟨w2.heap.size, 0, none⟩) sl sl, .slice (some ⟨w2.heap.size + 1, 0, none⟩) sl sl, .int .i64 0, .int .i64 (rt : Int), .int .i64 0, .int .i64 0, .int .i64 0, .int .i64 0]) rfl (by kernel_rfl) (by kernel_rfl) (by kernel_rfl) (fun _ _ _ h => h) (yieldsIf_build (by kernel_rfl) 39 _ rfl [(0, .pointer (some ⟨dx + 1, 0, none⟩)), (1, .slice (some ⟨w2.heap.size + 1 + 1, 0, none⟩) sl sl), (2, .slice (some ⟨w2.heap.size, 0, none⟩) sl sl), (3, .slice (some ⟨w2.heap.size + 1, 0, none⟩) sl sl), (5, .int .i64 (rt : Int))] _ (by kernel_rfl) (HBd.out _ _ _)) (by assumption) ?_; try simp only [Act.put, List.setIfInBounds_toArray, List.set_cons_zero, List.set_cons_succ]
        refine wpAnyH_ready (rs := [9]) (by kernel_rfl) (by simp) ?_
        refine AllReadyH.cons (o := ⟨_, _, _, _, _, _⟩) (by rfl) ?_ AllReadyH.nil
        intro K hK
        go_simp
        refine hK.out _ _ ?_ (fun hHeld => ?_)
        · exact trivial
        clear hK K
        try simp only [Act.put, List.setIfInBounds_toArray, List.set_cons_zero, List.set_cons_succ]
        refine wpAnyH_take (i := 10) (oi := ⟨some _, _, _, _, _, _⟩) (v := ?_) rfl (by kernel_rfl) (by kernel_rfl) (by kernel_rfl) (fun _ _ _ h => h) (Or.inl ⟨by kernel_rfl, ?_⟩) (by assumption) ?_; rotate_left; (intro w hSw; (try dsimp only at hSw); go_simp; try with_reducible rfl); try simp only [Act.put, List.setIfInBounds_toArray, List.set_cons_zero, List.set_cons_succ]
        refine wpAnyH_done (by kernel_rfl) ?_ _
        go_wp2_with fail
        go_meet
        have hf := four_allocs w2 (.cells (rowN sl (fun _ => .bool false)) 4) (.cells (rowN sl (fun _ => .slice none 0 0)) 22) (.cells (rowN sl (blk fun _ => 0)) 3) (.cells #[.pointer (some ⟨dx + 1, 0, none⟩), .slice (some ⟨w2.heap.size + 1 + 1, 0, none⟩) sl sl, .slice (some ⟨w2.heap.size, 0, none⟩) sl sl, .slice (some ⟨w2.heap.size + 1, 0, none⟩) sl sl, .int .i64 0, .int .i64 (rt : Int), .int .i64 0, .int .i64 0, .int .i64 0, .int .i64 0] 39)
        exact ⟨_, _, _, _, rfl, madeR_of hf.2.2.2.1 hf.2.2.1 hf.1 hf.2.1 (by omega) (by omega) hf.2.2.2.2⟩
    · go_simp
      refine hK.out _ _ ?_ (fun hHeld => ?_)
      · exact trivial
      clear hK K
      try simp only [Act.put, List.setIfInBounds_toArray, List.set_cons_zero, List.set_cons_succ]
      refine wpAnyH_ready (rs := [2, 4]) (by kernel_rfl) (by simp) ?_
      (refine AllReadyH.cons (o := ⟨_, _, _, _, _, _⟩) (by rfl) ?_ (AllReadyH.cons (o := ⟨_, _, _, _, _, _⟩) (by rfl) ?_ AllReadyH.nil)) <;> intro K hK
      · go_simp
        refine hK.out _ _ ?_ (fun hHeld => ?_)
        · exact trivial
        clear hK K
        try simp only [Act.put, List.setIfInBounds_toArray, List.set_cons_zero, List.set_cons_succ]
        refine wpAnyH_ready (rs := [4]) (by kernel_rfl) (by simp) ?_
        refine AllReadyH.cons (o := ⟨_, _, _, _, _, _⟩) (by rfl) ?_ AllReadyH.nil
        intro K hK
        go_simp
        refine hK.out _ _ ?_ (fun hHeld => ?_)
        · exact trivial
        clear hK K
        try simp only [Act.put, List.setIfInBounds_toArray, List.set_cons_zero, List.set_cons_succ]
        refine wpAnyH_take (i := 8) (oi := ⟨some _, _, _, _, _, _⟩) (v := .agg #[.pointer (some ⟨dx + 1, 0, none⟩), .slice (some ⟨w2.heap.size + 1, 0, none⟩) sl sl, .slice (some ⟨w2.heap.size + 1 + 1, 0, none⟩) sl sl, .slice (some ⟨w2.heap.size, 0, none⟩) sl sl, .int .i64 0, .int .i64 (rt : Int), .int .i64 0, .int .i64 0, .int .i64 0, .int .i64 0]) rfl (by kernel_rfl) (by kernel_rfl) (by kernel_rfl) (fun _ _ _ h => h) (yieldsIf_build (by kernel_rfl) 39 _ rfl [(0, .pointer (some ⟨dx + 1, 0, none⟩)), (1, .slice (some ⟨w2.heap.size + 1, 0, none⟩) sl sl), (2, .slice (some ⟨w2.heap.size + 1 + 1, 0, none⟩) sl sl), (3, .slice (some ⟨w2.heap.size, 0, none⟩) sl sl), (5, .int .i64 (rt : Int))] _ (by kernel_rfl) (HBd.out _ _ _)) (by assumption) ?_; try simp only [Act.put, List.setIfInBounds_toArray, List.set_cons_zero, List.set_cons_succ]
        refine wpAnyH_ready (rs := [9]) (by kernel_rfl) (by simp) ?_
        refine AllReadyH.cons (o := ⟨_, _, _, _, _, _⟩) (by rfl) ?_ AllReadyH.nil
        intro K hK
        go_simp
        refine hK.out _ _ ?_ (fun hHeld => ?_)
        · exact trivial
        clear hK K
        try simp only [Act.put, List.setIfInBounds_toArray, List.set_cons_zero, List.set_cons_succ]
        refine wpAnyH_take (i := 10) (oi := ⟨some _, _, _, _, _, _⟩) (v := ?_) rfl (by kernel_rfl) (by kernel_rfl) (by kernel_rfl) (fun _ _ _ h => h) (Or.inl ⟨by kernel_rfl, ?_⟩) (by assumption) ?_; rotate_left; (intro w hSw; (try dsimp only at hSw); go_simp; try with_reducible rfl); try simp only [Act.put, List.setIfInBounds_toArray, List.set_cons_zero, List.set_cons_succ]
        refine wpAnyH_done (by kernel_rfl) ?_ _
        go_wp2_with fail
        go_meet
        have hf := four_allocs w2 (.cells (rowN sl (fun _ => .slice none 0 0)) 22) (.cells (rowN sl (blk fun _ => 0)) 3) (.cells (rowN sl (fun _ => .bool false)) 4) (.cells #[.pointer (some ⟨dx + 1, 0, none⟩), .slice (some ⟨w2.heap.size + 1, 0, none⟩) sl sl, .slice (some ⟨w2.heap.size + 1 + 1, 0, none⟩) sl sl, .slice (some ⟨w2.heap.size, 0, none⟩) sl sl, .int .i64 0, .int .i64 (rt : Int), .int .i64 0, .int .i64 0, .int .i64 0, .int .i64 0] 39)
        exact ⟨_, _, _, _, rfl, madeR_of hf.2.2.2.1 hf.2.1 hf.2.2.1 hf.1 (by omega) (by omega) hf.2.2.2.2⟩
      · go_simp
        refine hK.out _ _ ?_ (fun hHeld => ?_)
        · exact trivial
        clear hK K
        try simp only [Act.put, List.setIfInBounds_toArray, List.set_cons_zero, List.set_cons_succ]
        refine wpAnyH_ready (rs := [2]) (by kernel_rfl) (by simp) ?_
        refine AllReadyH.cons (o := ⟨_, _, _, _, _, _⟩) (by rfl) ?_ AllReadyH.nil
        intro K hK
        go_simp
        refine hK.out _ _ ?_ (fun hHeld => ?_)
        · exact trivial
        clear hK K
        try simp only [Act.put, List.setIfInBounds_toArray, List.set_cons_zero, List.set_cons_succ]
        refine wpAnyH_take (i := 8) (oi := ⟨some _, _, _, _, _, _⟩) (v := .agg #[.pointer (some ⟨dx + 1, 0, none⟩), .slice (some ⟨w2.heap.size + 1 + 1, 0, none⟩) sl sl, .slice (some ⟨w2.heap.size + 1, 0, none⟩) sl sl, .slice (some ⟨w2.heap.size, 0, none⟩) sl sl, .int .i64 0, .int .i64 (rt : Int), .int .i64 0, .int .i64 0, .int .i64 0, .int .i64 0]) rfl (by kernel_rfl) (by kernel_rfl) (by kernel_rfl) (fun _ _ _ h => h) (yieldsIf_build (by kernel_rfl) 39 _ rfl [(0, .pointer (some ⟨dx + 1, 0, none⟩)), (1, .slice (some ⟨w2.heap.size + 1 + 1, 0, none⟩) sl sl), (2, .slice (some ⟨w2.heap.size + 1, 0, none⟩) sl sl), (3, .slice (some ⟨w2.heap.size, 0, none⟩) sl sl), (5, .int .i64 (rt : Int))] _ (by kernel_rfl) (HBd.out _ _ _)) (by assumption) ?_; try simp only [Act.put, List.setIfInBounds_toArray, List.set_cons_zero, List.set_cons_succ]
        refine wpAnyH_ready (rs := [9]) (by kernel_rfl) (by simp) ?_
        refine AllReadyH.cons (o := ⟨_, _, _, _, _, _⟩) (by rfl) ?_ AllReadyH.nil
        intro K hK
        go_simp
        refine hK.out _ _ ?_ (fun hHeld => ?_)
        · exact trivial
        clear hK K
        try simp only [Act.put, List.setIfInBounds_toArray, List.set_cons_zero, List.set_cons_succ]
        refine wpAnyH_take (i := 10) (oi := ⟨some _, _, _, _, _, _⟩) (v := ?_) rfl (by kernel_rfl) (by kernel_rfl) (by kernel_rfl) (fun _ _ _ h => h) (Or.inl ⟨by kernel_rfl, ?_⟩) (by assumption) ?_; rotate_left; (intro w hSw; (try dsimp only at hSw); go_simp; try with_reducible rfl); try simp only [Act.put, List.setIfInBounds_toArray, List.set_cons_zero, List.set_cons_succ]
        refine wpAnyH_done (by kernel_rfl) ?_ _
        go_wp2_with fail
        go_meet
        have hf := four_allocs w2 (.cells (rowN sl (fun _ => .slice none 0 0)) 22) (.cells (rowN sl (fun _ => .bool false)) 4) (.cells (rowN sl (blk fun _ => 0)) 3) (.cells #[.pointer (some ⟨dx + 1, 0, none⟩), .slice (some ⟨w2.heap.size + 1 + 1, 0, none⟩) sl sl, .slice (some ⟨w2.heap.size + 1, 0, none⟩) sl sl, .slice (some ⟨w2.heap.size, 0, none⟩) sl sl, .int .i64 0, .int .i64 (rt : Int), .int .i64 0, .int .i64 0, .int .i64 0, .int .i64 0] 39)
        exact ⟨_, _, _, _, rfl, madeR_of hf.2.2.2.1 hf.2.2.1 hf.2.1 hf.1 (by omega) (by omega) hf.2.2.2.2⟩
  case rest =>
    obtain ⟨q, gp, gm, gd, rfl, hmr⟩ := hcut
    obtain ⟨W, rfl⟩ : ∃ V, V = wc := ⟨_, rfl⟩
    have HMr := Lib.hid hmr
    have HN0 : Hid (NoneR w2 sl rt (dx + 1) q gp gm gd 0 W ∧ Kept (fun x => x ≠ gp) W W) := Lib.hid ⟨⟨hmr.pages.ext fun j _ => (by rw [if_neg (by omega)]), W, hmr, Kept.refl _ _⟩, Kept.refl _ _⟩
    clear hmr HM1 HM2 HM3 HBd
    go_wp2_with fail
    go_loopw [14] (fun iv wr => ∃ i : Nat, i ≤ sl ∧ iv = .int .i64 i ∧ Hid (NoneR w2 sl rt (dx + 1) q gp gm gd i wr ∧ Kept (fun x => x ≠ gp) W wr)) (fun i _ => sl - (intOf i).toNat)
    case atStart => exact ⟨0, by omega, rfl, HN0⟩
    case round =>
      obtain ⟨i, hi, rfl, HI⟩ := hrel
      clear HN0
      by_cases hlt : i < sl
      · obtain ⟨W9, h91, h92⟩ := HI.out.1.rest
        have hqe : ∀ x, x ≠ gp → wr.heap[x]? = W.heap[x]? := fun x hx => HI.out.2.block x hx
        have hne := HMr.out.ne
        have hb := (hqe q hne.1.1).trans HMr.out.blk
        have x1 : wr.cell? ⟨q, 1, none⟩ = some (.slice (some ⟨gp, 0, none⟩) sl sl) := by simp [World.cell?, hb]
        have yp := HI.out.1.pages.cell i hlt
        have fp := HI.out.1.pages.frz i hlt
        have HNx : Hid (NoneR w2 sl rt (dx + 1) q gp gm gd (i + 1) (wr.setCell ⟨gp, i, none⟩ (.int .i64 (-1))) ∧ Kept (fun x => x ≠ gp) W (wr.setCell ⟨gp, i, none⟩ (.int .i64 (-1)))) := Lib.hid ⟨HI.out.1.next hlt, HI.out.2.trans (Kept.setCell _ (a := ⟨gp, i, none⟩) (fun e => e rfl) _)⟩
        obtain ⟨pv, hpv⟩ : ∃ pv : Int, pv = (fun j => if j < i then (-1 : Int) else 0) i := ⟨_, rfl⟩
        have yp' : wr.cell? ⟨gp, i, none⟩ = some (.int .i64 pv) := by rw [hpv]; exact yp
        clear h91 h92 hqe hne hb HI yp hpv
        go_wp2_with fail
        go_roundw
        case rel => exact ⟨i + 1, by omega, by go_num, HNx⟩
        case measure => simp [intOf]; omega
      · obtain rfl : i = sl := by omega
        have HSy : Hid (SyS wr ⟨w.heap.size, z0, dm, w2.heap.size, W.heap.size, q, gp, gm, gd, dx⟩ (pgs n) (cc0 i rt) (dk0 n F)) := Lib.hid (sy_begin HNs.out.1 (by omega) HNs.out.2.2 HPg.out HCD.out.1 HCD.out.2.1 HCD.out.2.2 HD2.out.1 HD2.out.2.1 HD2.out.2.2 HMr.out HI.out.1 HI.out.2)
        have HOl : Hid (Old w wr) := Lib.hid (((HCD.out.2.2.trans HD2.out.2.2).trans HMr.out.old).after HI.out.2 fun x hx => (by
          have h6 := HMr.out.ge
          have h7 := HCD.out.2.2.size
          have h8 := HD2.out.2.2.size
          omega))
        obtain ⟨B, hB⟩ : ∃ B : Bks, B = ⟨w.heap.size, z0, dm, w2.heap.size, W.heap.size, q, gp, gm, gd, dx⟩ := ⟨_, rfl⟩
        have HBe : Hid (B.lo = w.heap.size ∧ B.z0 = z0 ∧ B.dm = dm ∧ B.q = q ∧ B.dx = dx ∧ B.gp = gp) := Lib.hid (by rw [hB]; exact ⟨rfl, rfl, rfl, rfl, rfl, rfl⟩)
        rw [← hB] at HSy
        have HLR : Hid ((∃ c d, SyS wr B (pgs n) c d ∧ c.n = i) ∧ Old w wr) := Lib.hid ⟨⟨_, _, HSy.out, rfl⟩, HOl.out⟩
        clear hB HSy HOl HI HMr HCD HD2
        go_wp2_with fail
        clear hi hlt
        go_loopw [15] (fun iv wr => ∃ k : Nat, k ≤ nq ∧ k ≤ 60 ∧ iv = .int .i64 k ∧ Hid ((∃ c d, SyS wr B (pgs n) c d ∧ c.n = i) ∧ Old w wr)) (fun i _ => 60 - (intOf i).toNat)
        case atStart => exact ⟨0, by omega, by omega, rfl, HLR⟩
        case round =>
          obtain ⟨k, hk2, hk60, rfl, HR1⟩ := hrel
          clear HLR
          go_upto_region 15 with (fail)
          go_cut [103] (fun v wx => v = .bool (decide (k < nq ∧ k < 60)) ∧ wr = wx)
          case first =>
            by_cases c1 : k < nq
            · by_cases c2 : k < 60
              · have a1 : (k : Int) < nq := by omega
                have a2 : (k : Int) < 60 := by omega
                go_wp2_with fail
                go_meet
                exact ⟨congrArg Value.bool (decide_eq_true ⟨c1, c2⟩).symm, rfl⟩
              · have a1 : (k : Int) < nq := by omega
                have a2 : ¬ (k : Int) < 60 := by omega
                go_wp2_with fail
                go_meet
                exact ⟨congrArg Value.bool (decide_eq_false (fun h => c2 h.2)).symm, rfl⟩
            · have a1 : ¬ (k : Int) < nq := by omega
              have d1 : decide ((k : Int) < nq) = false := decide_eq_false a1
              go_wp2_with fail
              go_meet
              exact ⟨congrArg Value.bool (decide_eq_false (fun h => c1 h.1)).symm, rfl⟩
          case rest =>
            obtain ⟨rfl, rfl⟩ := hcut
            by_cases hin : k < nq ∧ k < 60
            · rw [decide_eq_true hin]
              obtain ⟨c, d, hsy, hcn⟩ := HR1.out.1
              obtain ⟨hb0, hb1, hb2, hb3, hb4, hb5⟩ := HBe.out
              obtain ⟨bo, oo, hpo, hbo, hco⟩ := (HOp.out.old HR1.out.2) (by omega)
              obtain ⟨k0, k1, k2, k3⟩ := hco k hin.1
              have hRk := HRg.out k hin.1
              have hlo : B.lo ≤ wr.drew.heap.size := by rw [hb0]; exact HR1.out.2.size
              have hst := step_any (hsy.old (Old.refl wr).drew) (K k) (G k) (Nn k) (Z k) hlo hRk.1 hRk.2.1 hRk.2.2
              rw [hb1, hb2, hb3, hcn] at hst
              have HSt := Lib.hid hst
              have HLoW := Lib.hid HR1.out.2
              have hkn : (k : Int) < nq := by omega
              have hk0' : (0 : Int) ≤ k := by omega
              have HTo : Hid (∀ V c' d', SyS V B (pgs n) c' d' → Calls Try.prog 11 #[.pointer (some ⟨z0 + 2, 0, none⟩)] V fun e V' => e = .returned (statV c') ∧ Old V V') := Lib.hid fun V c' d' h => by
                obtain ⟨⟨p9, h9⟩, _⟩ := h
                rw [← hb1]
                exact cTold_at _ _ _ _ _ _ _ _ c' V h9.cc
              have HRc : Hid (∀ V c' d', SyS V B (pgs n) c' d' → Calls Try.prog 12 #[.pointer (some ⟨dm + 1, 0, none⟩)] V fun e V' => e = .returned (.int .i64 d'.r) ∧ V = V') := Lib.hid fun V c' d' h => by
                obtain ⟨⟨p9, h9⟩, _⟩ := h
                rw [← hb2]
                exact Reads_at _ _ _ _ d' V h9.dk
              have HRp : Hid (∀ V c' d', SyS V B (pgs n) c' d' → Calls Try.prog 12 #[.pointer (some ⟨dx + 1, 0, none⟩)] V fun e V' => e = .returned (.int .i64 d'.r) ∧ V = V') := Lib.hid fun V c' d' h => by
                obtain ⟨_, ⟨p9, h9, _⟩, _⟩ := h
                rw [← hb4]
                exact Reads_at _ _ _ _ d' V h9.dk
              have HPs : Hid (∀ V c' d', SyS V B (pgs n) c' d' → V.cell? ⟨q, 6, none⟩ = some (.int .i64 c'.h) ∧ V.cell? ⟨q, 7, none⟩ = some (.int .i64 c'.m) ∧ V.cell? ⟨q, 8, none⟩ = some (.int .i64 c'.t) ∧ V.cell? ⟨q, 9, none⟩ = some (.int .i64 c'.l)) := Lib.hid fun V c' d' h => by
                obtain ⟨_, ⟨p9, h9, _⟩, _⟩ := h
                obtain ⟨_, _, _, _, _, _, x6, x7, x8, x9⟩ := h9.cells
                rw [hb3] at x6 x7 x8 x9
                exact ⟨x6, x7, x8, x9⟩
              have HPg2 : Hid (∀ V c' d', SyS V B (pgs n) c' d' → c'.n = i → Calls Try.prog 13 #[.pointer (some ⟨z0 + 2, 0, none⟩)] V fun e V' => e = .returned (.slice (some ⟨V.heap.size, 0, none⟩) i i) ∧ CellsAt V' V.heap.size i (pgV c'.S) ∧ Old V V') := Lib.hid fun V c' d' h hn => by
                obtain ⟨⟨p9, h9⟩, _⟩ := h
                have := cPages_any _ _ _ _ _ _ _ _ c' V h9.cc
                rw [hb1, hn] at this
                exact this
              have HPp : Hid (∀ V c' d', SyS V B (pgs n) c' d' → c'.n = i → V.cell? ⟨q, 1, none⟩ = some (.slice (some ⟨gp, 0, none⟩) i i) ∧ CellsAt V gp i (pgV c'.S)) := Lib.hid fun V c' d' h hn => by
                obtain ⟨_, ⟨p9, h9, _⟩, _⟩ := h
                obtain ⟨_, x1, _⟩ := h9.cells
                have x2 := h9.pages
                rw [hb3, hb5, hn] at x1
                rw [hb5, hn] at x2
                exact ⟨x1, x2⟩
              have HLo2 : Hid (∀ V, Kept (fun x => x < B.lo) wr.drew V → Old w V) := Lib.hid fun V hV => HLoW.out.drew.after hV fun x hx => (by rw [hb0]; exact hx)
              subst hpo
              clear hsy hcn hb0 hb1 hb2 hb3 hb4 hb5 hco hbo hRk hlo hst HR1
              generalize K k = kd at *
              generalize G k = pg at *
              generalize Nn k = n' at *
              generalize Z k = zz at *
              go_upto_region 17 with (fail)
              go_cut [130] (fun v wx => v = .bool false ∧ (∃ c' d', SyS wx B (pgs n) c' d' ∧ c'.n = i) ∧ Old w wx)
              case first => as_aux_lemma =>
                refine wp_region_held_drew (S := (fun _ => True)) (by kernel_rfl) ?_ (fun hHeld => ?_)
                · exact trivial
                refine wpAnyH_take (i := 0) (oi := ⟨some _, _, _, _, _, _⟩) (v := ?_) rfl (by kernel_rfl) (by kernel_rfl) (by kernel_rfl) (fun _ _ _ h => h) (Or.inl ⟨by kernel_rfl, ?_⟩) (by assumption) ?_; rotate_left; (intro w hSw; (try dsimp only at hSw); go_simp; try with_reducible rfl); try simp only [Act.put, List.setIfInBounds_toArray, List.set_cons_zero, List.set_cons_succ]
                refine wpAnyH_take (i := 1) (oi := ⟨some _, _, _, _, _, _⟩) (v := ?_) rfl (by kernel_rfl) (by kernel_rfl) (by kernel_rfl) (fun _ _ _ h => h) (Or.inl ⟨by kernel_rfl, ?_⟩) (by assumption) ?_; rotate_left; (intro w hSw; (try dsimp only at hSw); go_simp; try with_reducible rfl); try simp only [Act.put, List.setIfInBounds_toArray, List.set_cons_zero, List.set_cons_succ]
                refine wpAnyH_take (i := 2) (oi := ⟨some _, _, _, _, _, _⟩) (v := ?_) rfl (by kernel_rfl) (by kernel_rfl) (by kernel_rfl) (fun _ _ _ h => h) (Or.inl ⟨by kernel_rfl, ?_⟩) (by assumption) ?_; rotate_left; (intro w hSw; (try dsimp only at hSw); go_simp; try with_reducible rfl); try simp only [Act.put, List.setIfInBounds_toArray, List.set_cons_zero, List.set_cons_succ]
                refine wpAnyH_take (i := 3) (oi := ⟨some _, _, _, _, _, _⟩) (v := ?_) rfl (by kernel_rfl) (by kernel_rfl) (by kernel_rfl) (fun _ _ _ h => h) (Or.inl ⟨by kernel_rfl, ?_⟩) (by assumption) ?_; rotate_left; (intro w hSw; (try dsimp only at hSw); go_simp; try with_reducible rfl); try simp only [Act.put, List.setIfInBounds_toArray, List.set_cons_zero, List.set_cons_succ]
                refine wpAnyH_take (i := 4) (oi := ⟨some _, _, _, _, _, _⟩) (v := ?_) rfl (by kernel_rfl) (by kernel_rfl) (by kernel_rfl) (fun _ _ _ h => h) (Or.inl ⟨by kernel_rfl, ?_⟩) (by assumption) ?_; rotate_left; (intro w hSw; (try dsimp only at hSw); go_simp; try with_reducible rfl); try simp only [Act.put, List.setIfInBounds_toArray, List.set_cons_zero, List.set_cons_succ]
                refine wpAnyH_take (i := 5) (oi := ⟨some _, _, _, _, _, _⟩) (v := ?_) rfl (by kernel_rfl) (by kernel_rfl) (by kernel_rfl) (fun _ _ _ h => h) (Or.inl ⟨by kernel_rfl, ?_⟩) (by assumption) ?_; rotate_left; (intro w hSw; (try dsimp only at hSw); go_simp; try with_reducible rfl); try simp only [Act.put, List.setIfInBounds_toArray, List.set_cons_zero, List.set_cons_succ]
                refine wpAnyH_ready (rs := [6]) (by kernel_rfl) (by simp) ?_
                refine AllReadyH.cons (o := ⟨_, _, _, _, _, _⟩) (by rfl) ?_ AllReadyH.nil
                intro K hK
                go_simp
                refine hK.out _ _ ?_ (fun hHeld => ?_)
                · exact trivial
                clear hK K
                try simp only [Act.put, List.setIfInBounds_toArray, List.set_cons_zero, List.set_cons_succ]
                refine wpAnyH_ready (rs := [7]) (by kernel_rfl) (by simp) ?_
                refine AllReadyH.cons (o := ⟨_, _, _, _, _, _⟩) (by rfl) ?_ AllReadyH.nil
                intro K hK
                go_simp
                refine HSt.out.mono ?_
                rintro e V ⟨rfl, ⟨c', d', hs, hn⟩, hk⟩
                have HSy := Lib.hid (And.intro hs hn)
                have HOV := Lib.hid (HLo2.out V hk)
                clear hs hn hk HSt k0 k1 k2 k3
                obtain ⟨x6, x7, x8, x9⟩ := HPs.out V c' d' HSy.out.1
                have hE := fun W => neq_stats c'.h c'.m c'.t c'.l W
                have hRne : (d'.r != d'.r) = false := by simp
                go_wp2_with fail
                refine hK.out _ _ ?_ (fun hHeld => ?_)
                · exact trivial
                clear hK K
                try simp only [Act.put, List.setIfInBounds_toArray, List.set_cons_zero, List.set_cons_succ]
                refine wpAnyH_take (i := 8) (oi := ⟨some _, _, _, _, _, _⟩) (v := ?_) rfl (by kernel_rfl) (by kernel_rfl) (by kernel_rfl) (fun _ _ _ h => h) (Or.inl ⟨by kernel_rfl, ?_⟩) (by assumption) ?_; rotate_left; (intro w hSw; (try dsimp only at hSw); go_simp; try with_reducible rfl); try simp only [Act.put, List.setIfInBounds_toArray, List.set_cons_zero, List.set_cons_succ]
                refine wpAnyH_take (i := 9) (oi := ⟨some _, _, _, _, _, _⟩) (v := ?_) rfl (by kernel_rfl) (by kernel_rfl) (by kernel_rfl) (fun _ _ _ h => h) (Or.inl ⟨by kernel_rfl, ?_⟩) (by assumption) ?_; rotate_left; (intro w hSw; (try dsimp only at hSw); go_simp; try with_reducible rfl); try simp only [Act.put, List.setIfInBounds_toArray, List.set_cons_zero, List.set_cons_succ]
                refine wpAnyH_take (i := 10) (oi := ⟨some _, _, _, _, _, _⟩) (v := ?_) rfl (by kernel_rfl) (by kernel_rfl) (by kernel_rfl) (fun _ _ _ h => h) (Or.inl ⟨by kernel_rfl, ?_⟩) (by assumption) ?_; rotate_left; (intro w hSw; (try dsimp only at hSw); go_simp; try with_reducible rfl); try simp only [Act.put, List.setIfInBounds_toArray, List.set_cons_zero, List.set_cons_succ]
                refine wpAnyH_take (i := 12) (oi := ⟨some _, _, _, _, _, _⟩) (v := ?_) rfl (by kernel_rfl) (by kernel_rfl) (by kernel_rfl) (fun _ _ _ h => h) (Or.inl ⟨by kernel_rfl, ?_⟩) (by assumption) ?_; rotate_left; (intro w hSw; (try dsimp only at hSw); go_simp; try with_reducible rfl); try simp only [Act.put, List.setIfInBounds_toArray, List.set_cons_zero, List.set_cons_succ]
                refine wpAnyH_take (i := 13) (oi := ⟨some _, _, _, _, _, _⟩) (v := ?_) rfl (by kernel_rfl) (by kernel_rfl) (by kernel_rfl) (fun _ _ _ h => h) (Or.inl ⟨by kernel_rfl, ?_⟩) (by assumption) ?_; rotate_left; (intro w hSw; (try dsimp only at hSw); go_simp; try with_reducible rfl); try simp only [Act.put, List.setIfInBounds_toArray, List.set_cons_zero, List.set_cons_succ]
                refine wpAnyH_take (i := 14) (oi := ⟨some _, _, _, _, _, _⟩) (v := ?_) rfl (by kernel_rfl) (by kernel_rfl) (by kernel_rfl) (fun _ _ _ h => h) (Or.inl ⟨by kernel_rfl, ?_⟩) (by assumption) ?_; rotate_left; (intro w hSw; (try dsimp only at hSw); go_simp; try with_reducible rfl); try simp only [Act.put, List.setIfInBounds_toArray, List.set_cons_zero, List.set_cons_succ]
                refine wpAnyH_ready (rs := [11, 15]) (by kernel_rfl) (by simp) ?_
                (refine AllReadyH.cons (o := ⟨_, _, _, _, _, _⟩) (by rfl) ?_ (AllReadyH.cons (o := ⟨_, _, _, _, _, _⟩) (by rfl) ?_ AllReadyH.nil)) <;> intro K hK
                · go_simp
                  refine (HTo.out V c' d' HSy.out.1).mono ?_
                  rintro e V1 ⟨rfl, ho1⟩
                  have HS1 := Lib.hid (And.intro (HSy.out.1.old ho1) (HOV.out.trans ho1))
                  clear ho1 x6 x7 x8 x9
                  obtain ⟨x6, x7, x8, x9⟩ := HPs.out V1 c' d' HS1.out.1
                  unfold statV
                  go_wp2_with fail
                  refine hK.out _ _ ?_ (fun hHeld => ?_)
                  · exact trivial
                  clear hK K
                  try simp only [Act.put, List.setIfInBounds_toArray, List.set_cons_zero, List.set_cons_succ]
                  refine wpAnyH_ready (rs := [15]) (by kernel_rfl) (by simp) ?_
                  refine AllReadyH.cons (o := ⟨_, _, _, _, _, _⟩) (by rfl) ?_ AllReadyH.nil
                  intro K hK
                  go_simp
                  refine hK.out _ _ ?_ (fun hHeld => ?_)
                  · exact trivial
                  clear hK K
                  try simp only [Act.put, List.setIfInBounds_toArray, List.set_cons_zero, List.set_cons_succ]
                  refine wpAnyH_take (i := 16) (oi := ⟨some _, _, _, _, _, _⟩) (v := ?_) rfl (by kernel_rfl) (by kernel_rfl) (by kernel_rfl) (fun _ _ _ h => h) (Or.inl ⟨by kernel_rfl, ?_⟩) (by assumption) ?_; rotate_left; (intro w hSw; (try dsimp only at hSw); go_simp; try with_reducible rfl); try simp only [Act.put, List.setIfInBounds_toArray, List.set_cons_zero, List.set_cons_succ]
                  refine wpAnyH_take (i := 17) (oi := ⟨some _, _, _, _, _, _⟩) (v := ?_) rfl (by kernel_rfl) (by kernel_rfl) (by kernel_rfl) (fun _ _ _ h => h) (Or.inl ⟨by kernel_rfl, ?_⟩) (by assumption) ?_; rotate_left; (intro w hSw; (try dsimp only at hSw); go_simp; try with_reducible rfl); try simp only [Act.put, List.setIfInBounds_toArray, List.set_cons_zero, List.set_cons_succ]
                  refine wpAnyH_take (i := 18) (oi := ⟨some _, _, _, _, _, _⟩) (v := ?_) rfl (by kernel_rfl) (by kernel_rfl) (by kernel_rfl) (fun _ _ _ h => h) (Or.inl ⟨by kernel_rfl, ?_⟩) (by assumption) ?_; rotate_left; (intro w hSw; (try dsimp only at hSw); go_simp; try with_reducible rfl); try simp only [Act.put, List.setIfInBounds_toArray, List.set_cons_zero, List.set_cons_succ]
                  refine wpAnyH_take (i := 19) (oi := ⟨some _, _, _, _, _, _⟩) (v := ?_) rfl (by kernel_rfl) (by kernel_rfl) (by kernel_rfl) (fun _ _ _ h => h) (Or.inl ⟨by kernel_rfl, ?_⟩) (by assumption) ?_; rotate_left; (intro w hSw; (try dsimp only at hSw); go_simp; try with_reducible rfl); try simp only [Act.put, List.setIfInBounds_toArray, List.set_cons_zero, List.set_cons_succ]
                  refine wpAnyH_take (i := 21) (oi := ⟨some _, _, _, _, _, _⟩) (v := ?_) rfl (by kernel_rfl) (by kernel_rfl) (by kernel_rfl) (fun _ _ _ h => h) (Or.inl ⟨by kernel_rfl, ?_⟩) (by assumption) ?_; rotate_left; (intro w hSw; (try dsimp only at hSw); go_simp; try with_reducible rfl); try simp only [Act.put, List.setIfInBounds_toArray, List.set_cons_zero, List.set_cons_succ]
                  refine wpAnyH_ready (rs := [20]) (by kernel_rfl) (by simp) ?_
                  refine AllReadyH.cons (o := ⟨_, _, _, _, _, _⟩) (by rfl) ?_ AllReadyH.nil
                  intro K hK
                  go_simp
                  refine (HRc.out V1 c' d' HS1.out.1).mono ?_
                  rintro e V2 ⟨rfl, rfl⟩
                  go_wp2_with fail
                  refine hK.out _ _ ?_ (fun hHeld => ?_)
                  · exact trivial
                  clear hK K
                  try simp only [Act.put, List.setIfInBounds_toArray, List.set_cons_zero, List.set_cons_succ]
                  refine wpAnyH_ready (rs := [22]) (by kernel_rfl) (by simp) ?_
                  refine AllReadyH.cons (o := ⟨_, _, _, _, _, _⟩) (by rfl) ?_ AllReadyH.nil
                  intro K hK
                  go_simp
                  refine (HRp.out V1 c' d' HS1.out.1).mono ?_
                  rintro e V2 ⟨rfl, rfl⟩
                  go_wp2_with fail
                  refine hK.out _ _ ?_ (fun hHeld => ?_)
                  · exact trivial
                  clear hK K
                  try simp only [Act.put, List.setIfInBounds_toArray, List.set_cons_zero, List.set_cons_succ]
                  refine wpAnyH_take (i := 23) (oi := ⟨some _, _, _, _, _, _⟩) (v := ?_) rfl (by kernel_rfl) (by kernel_rfl) (by kernel_rfl) (fun _ _ _ h => h) (Or.inl ⟨by kernel_rfl, ?_⟩) (by assumption) ?_; rotate_left; (intro w hSw; (try dsimp only at hSw); go_simp; try with_reducible rfl); try simp only [Act.put, List.setIfInBounds_toArray, List.set_cons_zero, List.set_cons_succ]
                  refine wpAnyH_take (i := 24) (oi := ⟨some _, _, _, _, _, _⟩) (v := ?_) rfl (by kernel_rfl) (by kernel_rfl) (by kernel_rfl) (fun _ _ _ h => h) (Or.inl ⟨by kernel_rfl, ?_⟩) (by assumption) ?_; rotate_left; (intro w hSw; (try dsimp only at hSw); go_simp; try with_reducible rfl); try simp only [Act.put, List.setIfInBounds_toArray, List.set_cons_zero, List.set_cons_succ]
                  refine wpAnyH_done (by kernel_rfl) ?_ _
                  go_wp2_with fail
                  go_meet
                  exact ⟨rfl, ⟨c', d', HS1.out.1, HSy.out.2⟩, HS1.out.2⟩
                · go_simp
                  refine hK.out _ _ ?_ (fun hHeld => ?_)
                  · exact trivial
                  clear hK K
                  try simp only [Act.put, List.setIfInBounds_toArray, List.set_cons_zero, List.set_cons_succ]
                  refine wpAnyH_ready (rs := [11]) (by kernel_rfl) (by simp) ?_
                  refine AllReadyH.cons (o := ⟨_, _, _, _, _, _⟩) (by rfl) ?_ AllReadyH.nil
                  intro K hK
                  go_simp
                  refine (HTo.out V c' d' HSy.out.1).mono ?_
                  rintro e V1 ⟨rfl, ho1⟩
                  have HS1 := Lib.hid (And.intro (HSy.out.1.old ho1) (HOV.out.trans ho1))
                  clear ho1 x6 x7 x8 x9
                  unfold statV
                  go_wp2_with fail
                  refine hK.out _ _ ?_ (fun hHeld => ?_)
                  · exact trivial
                  clear hK K
                  try simp only [Act.put, List.setIfInBounds_toArray, List.set_cons_zero, List.set_cons_succ]
                  refine wpAnyH_take (i := 16) (oi := ⟨some _, _, _, _, _, _⟩) (v := ?_) rfl (by kernel_rfl) (by kernel_rfl) (by kernel_rfl) (fun _ _ _ h => h) (Or.inl ⟨by kernel_rfl, ?_⟩) (by assumption) ?_; rotate_left; (intro w hSw; (try dsimp only at hSw); go_simp; try with_reducible rfl); try simp only [Act.put, List.setIfInBounds_toArray, List.set_cons_zero, List.set_cons_succ]
                  refine wpAnyH_take (i := 17) (oi := ⟨some _, _, _, _, _, _⟩) (v := ?_) rfl (by kernel_rfl) (by kernel_rfl) (by kernel_rfl) (fun _ _ _ h => h) (Or.inl ⟨by kernel_rfl, ?_⟩) (by assumption) ?_; rotate_left; (intro w hSw; (try dsimp only at hSw); go_simp; try with_reducible rfl); try simp only [Act.put, List.setIfInBounds_toArray, List.set_cons_zero, List.set_cons_succ]
                  refine wpAnyH_take (i := 18) (oi := ⟨some _, _, _, _, _, _⟩) (v := ?_) rfl (by kernel_rfl) (by kernel_rfl) (by kernel_rfl) (fun _ _ _ h => h) (Or.inl ⟨by kernel_rfl, ?_⟩) (by assumption) ?_; rotate_left; (intro w hSw; (try dsimp only at hSw); go_simp; try with_reducible rfl); try simp only [Act.put, List.setIfInBounds_toArray, List.set_cons_zero, List.set_cons_succ]
                  refine wpAnyH_take (i := 19) (oi := ⟨some _, _, _, _, _, _⟩) (v := ?_) rfl (by kernel_rfl) (by kernel_rfl) (by kernel_rfl) (fun _ _ _ h => h) (Or.inl ⟨by kernel_rfl, ?_⟩) (by assumption) ?_; rotate_left; (intro w hSw; (try dsimp only at hSw); go_simp; try with_reducible rfl); try simp only [Act.put, List.setIfInBounds_toArray, List.set_cons_zero, List.set_cons_succ]
                  refine wpAnyH_take (i := 21) (oi := ⟨some _, _, _, _, _, _⟩) (v := ?_) rfl (by kernel_rfl) (by kernel_rfl) (by kernel_rfl) (fun _ _ _ h => h) (Or.inl ⟨by kernel_rfl, ?_⟩) (by assumption) ?_; rotate_left; (intro w hSw; (try dsimp only at hSw); go_simp; try with_reducible rfl); try simp only [Act.put, List.setIfInBounds_toArray, List.set_cons_zero, List.set_cons_succ]
                  refine wpAnyH_ready (rs := [20]) (by kernel_rfl) (by simp) ?_
                  refine AllReadyH.cons (o := ⟨_, _, _, _, _, _⟩) (by rfl) ?_ AllReadyH.nil
                  intro K hK
                  go_simp
                  refine (HRc.out V1 c' d' HS1.out.1).mono ?_
                  rintro e V2 ⟨rfl, rfl⟩
                  go_wp2_with fail
                  refine hK.out _ _ ?_ (fun hHeld => ?_)
                  · exact trivial
                  clear hK K
                  try simp only [Act.put, List.setIfInBounds_toArray, List.set_cons_zero, List.set_cons_succ]
                  refine wpAnyH_ready (rs := [22]) (by kernel_rfl) (by simp) ?_
                  refine AllReadyH.cons (o := ⟨_, _, _, _, _, _⟩) (by rfl) ?_ AllReadyH.nil
                  intro K hK
                  go_simp
                  refine (HRp.out V1 c' d' HS1.out.1).mono ?_
                  rintro e V2 ⟨rfl, rfl⟩
                  go_wp2_with fail
                  refine hK.out _ _ ?_ (fun hHeld => ?_)
                  · exact trivial
                  clear hK K
                  try simp only [Act.put, List.setIfInBounds_toArray, List.set_cons_zero, List.set_cons_succ]
                  refine wpAnyH_take (i := 23) (oi := ⟨some _, _, _, _, _, _⟩) (v := ?_) rfl (by kernel_rfl) (by kernel_rfl) (by kernel_rfl) (fun _ _ _ h => h) (Or.inl ⟨by kernel_rfl, ?_⟩) (by assumption) ?_; rotate_left; (intro w hSw; (try dsimp only at hSw); go_simp; try with_reducible rfl); try simp only [Act.put, List.setIfInBounds_toArray, List.set_cons_zero, List.set_cons_succ]
                  refine wpAnyH_take (i := 24) (oi := ⟨some _, _, _, _, _, _⟩) (v := ?_) rfl (by kernel_rfl) (by kernel_rfl) (by kernel_rfl) (fun _ _ _ h => h) (Or.inl ⟨by kernel_rfl, ?_⟩) (by assumption) ?_; rotate_left; (intro w hSw; (try dsimp only at hSw); go_simp; try with_reducible rfl); try simp only [Act.put, List.setIfInBounds_toArray, List.set_cons_zero, List.set_cons_succ]
                  refine wpAnyH_done (by kernel_rfl) ?_ _
                  go_wp2_with fail
                  go_meet
                  exact ⟨rfl, ⟨c', d', HS1.out.1, HSy.out.2⟩, HS1.out.2⟩
              case rest => as_aux_lemma =>
                obtain ⟨rfl, ⟨c', d', hs, hn⟩, ho⟩ := hcut
                obtain ⟨W5, rfl⟩ : ∃ V, V = wc := ⟨_, rfl⟩
                have HP5 := Lib.hid (HPg2.out W5 c' d' hs hn)
                have HS5 := Lib.hid (And.intro hs (And.intro hn ho))
                clear hs hn ho HSt k0 k1 k2 k3
                have hi20 : i ≤ 20 := HNs.out.2.1
                go_wp2_with fail
                refine HP5.out.mono ?_
                rintro e w6 ⟨rfl, hc6, ho6⟩
                have HC6 := Lib.hid hc6
                have HO6 := Lib.hid ho6
                have HS6 := Lib.hid (And.intro (HS5.out.1.old ho6) (HS5.out.2.2.trans ho6))
                clear hc6 ho6 HP5
                obtain ⟨g6, hg6⟩ : ∃ g6, g6 = W5.heap.size := ⟨_, rfl⟩
                rw [← hg6] at HC6 ⊢
                clear hg6
                have HR6 : Hid (Old w6 w6) := Lib.hid (Old.refl w6)
                go_wp2_with fail
                go_loopw [17] (fun jv wx => ∃ j : Nat, j ≤ i ∧ jv = .int .i64 j ∧ Hid (Old w6 wx)) (fun jv _ => i - (intOf jv).toNat)
                case atStart => exact ⟨0, by omega, rfl, HR6⟩
                case round =>
                  obtain ⟨j, hj, rfl, HRx⟩ := hrel
                  clear HR6
                  by_cases hjl : j < i
                  · obtain ⟨y1, y2⟩ := HPp.out wr c' d' (HS6.out.1.old HRx.out) HS5.out.2.1
                    have ya := y2.cell j hjl
                    have yb := (HC6.out.old HRx.out).cell j hjl
                    obtain ⟨pv, hpv⟩ : ∃ pv, pv = pgV c'.S j := ⟨_, rfl⟩
                    rw [← hpv] at ya yb
                    have hne : (pv != pv) = false := by simp
                    have HRn := Lib.hid HRx.out.drew
                    clear hpv y2 HRx
                    go_wp2_with fail
                    refine wp_region_still_tail 11 (by kernel_rfl) (by kernel_rfl) ?_
                    simp only [List.take_succ_cons, List.take_zero, List.drop_succ_cons, List.drop_zero]
                    iterate 11 (with_reducible refine wpStill_step (fun K hK => ?_); go_simp; with_reducible refine hK _ ?_; clear hK K)
                    with_reducible refine wpStill_nil ?_
                    change wpList _ _ _ _ _ (World.drew _)
                    go_wp2_with fail
                    go_roundw
                    case rel => exact ⟨j + 1, by omega, by go_num, HRn⟩
                    case measure => simp [intOf]; omega
                  · obtain rfl : j = i := by omega
                    have HEnd : Hid ((∃ c d, SyS wr B (pgs n) c d ∧ c.n = j) ∧ Old w wr) := Lib.hid ⟨⟨c', d', HS6.out.1.old HRx.out, HS5.out.2.1⟩, HS6.out.2.trans HRx.out⟩
                    clear HRx
                    go_wp2_with fail
                    go_roundw
                    case rel => exact ⟨k + 1, by omega, by omega, by go_num, HEnd⟩
                    case measure => simp [intOf]; omega
            · rw [decide_eq_false hin]
              have HO := Lib.hid HR1.out.2
              clear hin hk2 hk60 HR1
              go_wp2_with fail
              refine (awake_any _).mono ?_
              rintro e w9 ⟨rfl, ho⟩
              have HF := Lib.hid (HO.out.trans ho)
              clear ho
              go_wp2_with fail
              go_ret
              exact ⟨rfl, HF.out⟩
theorem walk (xs : List Int) (p : Option Addr) (n cap : Nat) (sl rt : Int) (pq : Option Addr) (nq cq : Nat) (K G Nn Z : Nat → Int) (w : World) (hv : SlI w .u8 (.slice p n cap) xs) (hbt : ∀ x ∈ xs, 0 ≤ x ∧ x ≤ 255) (hcap : n ≤ cap) (hm : cap ≤ maxLen)
    (hop : SlOps w pq nq K G Nn Z) (hrg : ∀ i, i < nq → (-9223372036854775808 ≤ Nn i ∧ Nn i ≤ 9223372036854775807) ∧ (-9223372036854775808 ≤ G i ∧ G i ≤ 9223372036854775807) ∧ 0 ≤ Z i ∧ Z i ≤ 255) (hnq : nq ≤ 9223372036854775807) :
    Calls Try.prog 3 #[.slice p n cap, .int .i64 sl, .int .i64 rt, .slice pq nq cq] w fun e w' => e = .returned (.bool true) ∧ Old w w' := by
  obtain ⟨hU, hl⟩ := hv.slU
  have hby : Byt (fun j => xs.getD j 0) n := fun j hj => hbt _ (by
    show xs.getD j 0 ∈ xs
    rw [List.getD_eq_getElem?_getD, List.getElem?_eq_getElem (by omega)]; exact List.getElem_mem _)
  by_cases h1 : 500 < n ∨ (20 < sl ∧ sl ≤ 1024)
  · exact walkA p n cap (fun _ => 0) pq nq cq w sl rt h1 (by unfold maxLen at hm; omega)
  · by_cases h2 : sl < 1 ∨ 1024 < sl ∨ rt < 0 ∨ 8 < rt
    · exact walkBad p n cap _ pq nq cq w sl rt hU hby hcap (by omega) (by omega) h2
    · obtain ⟨s, rfl⟩ : ∃ s : Nat, sl = s := ⟨sl.toNat, by omega⟩
      obtain ⟨r, rfl⟩ : ∃ r : Nat, rt = r := ⟨rt.toNat, by omega⟩
      exact walkOk p n cap _ pq nq cq w K G Nn Z s r hU hby hcap (by omega) (by omega) (by omega) (by omega) hop hrg hnq



theorem own : ownKnob Try.prog.godebug = none := by kernel_rfl
theorem laidOut : laidOutB Try.prog = true := by kernel_rfl

set_option maxRecDepth 100000 in
theorem lifted (os : Os) (started : os.Started) (H : Type) (enc : TypeId × Value → H) :
    ReturnsInHanded {} Try.checked os 3 .any (Rows.cachePlaysSpec.pre6 enc Try.prog Try.f3 Rows.cachePlaysRow.domain false) (Rows.cachePlaysSpec.post enc Try.prog Try.f3 false true false false) := by
  refine returnsInHanded_of_change (C := Try.checked) own started (by kernel_rfl) Try.func3
    (ChangeSpec.witness6 (enc := enc) (C := Try.checked) false ⟨#[], #[.slice none 0 0, .int .i64 0, .int .i64 0, .slice none 0 0], []⟩ 8 (by kernel_rfl) (by kernel_rfl) (by kernel_rfl) (by kernel_rfl)) ?_
  intro W base args ds gs before hval0 hW hcnd _
  have hval : ∀ (j : Nat) t v, Try.f3.params[j]? = some t → args[j]? = some v → Value.okWide Try.prog W .any base t v := hval0
  have hW' := hW
  have hlt : ∀ p ∈ before, p.block < W.heap.size := fun p hp => hW'.lt p hp
  obtain ⟨p, q, hA0, hV, rfl, hfz, hnd⟩ := hW
  have hA : DataW.TrodAll enc Try.prog W 0 (fun _ => true) true Try.f3.params.toList args.toList ds p := hA0
  rw [Try.params3] at hA hval
  obtain ⟨v0, vs0, d0, ds0, p0, q0, hargs, rfl, rfl, h0, r0⟩ := trodAll_cons hA
  obtain ⟨v1, vs1, d1, ds1, p1, q1, rfl, rfl, rfl, h1, r1⟩ := trodAll_cons r0
  obtain ⟨v2, vs2, d2, ds2, p2, q2, rfl, rfl, rfl, h2, r2⟩ := trodAll_cons r1
  obtain ⟨v3, vs3, d3, ds3, p3, q3, rfl, rfl, rfl, h3, r3⟩ := trodAll_cons r2
  obtain ⟨rfl, rfl, rfl⟩ := trodAll_nil r3
  obtain rfl : args = #[v0, v1, v2, v3] := by cases args; simp_all
  obtain ⟨rfl, rfl⟩ := trodVars_none hV
  obtain ⟨s0, n0, c0, xs0, rfl, hs0, hn0, hc0, hw0⟩ := open_slI Try.underlying22 Try.underlying5 (by kernel_rfl) (hval 0 22 v0 rfl rfl) h0 (fun x hx => hlt x (by simp [hx]))
  obtain ⟨a1, rfl, _, _, w1⟩ := open_int Try.underlying3 (hval 1 3 v1 rfl rfl) h1
  obtain ⟨a2, rfl, _, _, w2⟩ := open_int Try.underlying3 (hval 2 3 v2 rfl rfl) h2
  obtain ⟨q3, n3, c3, K3, G3, N3, Z3, rfl, ho3, hr3, hl3⟩ := open_ops (hval 3 23 v3 rfl rfl) h3 (fun x hx => hlt x (by simp [hx]))
  refine (walk xs0 s0 n0 c0 a1 a2 q3 n3 c3 K3 G3 N3 Z3 W hs0 (bytes_of hw0) hn0 hc0 ho3 hr3 hl3).mono fun e W' ⟨he, hg⟩ => ?_
  subst he
  exact ⟨_, rfl, law_done laidOut Try.underlying4 rfl (by kernel_rfl) rfl hW' rfl hg⟩

theorem over : Rows.cachePlaysRow.holds Try.pinned (OpenSpec.ofChange Rows.cachePlaysSpec) :=
  OpenClaim.holds_of_wide 3 Try.f3 rfl rfl rfl rfl rfl rfl rfl ⟨rfl, rfl, rfl, rfl, rfl⟩ rfl rfl rfl rfl rfl (by kernel_rfl) Try.func3 (by kernel_rfl)
    (of_decide_eq_true (by kernel_rfl)) (by unfold Func.isWrapper; first | (rw [if_pos (by decide +kernel)]; kernel_rfl) | (rw [if_neg (by decide +kernel)]; exact ⟨rfl, rfl⟩))
    (fun os started H enc _ => lifted os started H enc)

theorem proved : Rows.CachePlaysSaid :=
  over
end Go.Proofs.Ytooamkicmmgniaa.cachePlays
