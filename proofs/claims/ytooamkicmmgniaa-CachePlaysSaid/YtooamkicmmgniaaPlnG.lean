/- The law's step, second part: span, evict, empty, faults. (by wip/s17/plng.py and exp.py) -/
import Derived.Test.YtooamkicmmgniaaPlnF
namespace Go.Proofs.Ytooamkicmmgniaa
set_option linter.unusedVariables false
set_option maxRecDepth 100000
open Go.RowKit Go.ChangeShapes Go.WideShapes

set_option maxHeartbeats 4000000 in
theorem step_span {w : World} {B : Bks} {N : Nat} {c : Cch} {d : Dsk} (h : SyS w B N c d) (kd pg n z : Int) (hlo : B.lo ≤ w.heap.size) (hn : -9223372036854775808 ≤ n ∧ n ≤ 9223372036854775807) (hp : -9223372036854775808 ≤ pg ∧ pg ≤ 9223372036854775807) (hz : 0 ≤ z ∧ z ≤ 255) (hk : kd = 2) :
    Calls Try.prog 10 #[.pointer (some ⟨B.dm + 1, 0, none⟩), .pointer (some ⟨B.z0 + 2, 0, none⟩), .pointer (some ⟨B.q, 0, none⟩), .agg #[.int .i64 kd, .int .i64 pg, .int .i64 n, .int .u8 z]] w fun e V => e = .returned (.bool true) ∧ StE w B N c.n V := by
  subst hk
  have HO := Lib.hid (Old.alloc w (.cells #[.int .i64 2, .int .i64 pg, .int .i64 n, .int .u8 z] 42))
  have HW := Lib.hid (h.old HO.out)
  have HBx : Hid ((w.alloc (.cells #[.int .i64 2, .int .i64 pg, .int .i64 n, .int .u8 z] 42)).heap[w.heap.size]? = some (.cells #[.int .i64 2, .int .i64 pg, .int .i64 n, .int .u8 z] 42 (0, 0))) := Lib.hid (heap_alloc_new w _)
  have HBz : Hid (B.z ≤ w.heap.size) := Lib.hid h.hz
  have HPl : Hid (PlP (w.alloc (.cells #[.int .i64 2, .int .i64 pg, .int .i64 n, .int .u8 z] 42)) B N c d) := Lib.hid HW.out.pl
  have HNum := Lib.hid h.num
  have HLo := Lib.hid hlo
  have HBd := Lib.hid (And.intro hn (And.intro hp hz))
  have HLt := Lib.hid (lt_of_block HBx.out)
  clear h hlo hn hp hz
  by_cases hout : pg < 0 ∨ n < 0 ∨ 64 * (N : Int) - pg < n
  · have HG := Lib.hid (HW.out.cSpanOut hout HBd.out.2.1.2)
    have HG2 := Lib.hid (HPl.out.spanOut hout)
    have HD := Lib.hid (show StE w B N c.n (w.alloc (.cells #[.int .i64 2, .int .i64 pg, .int .i64 n, .int .u8 z] 42)) from ⟨⟨c, d, HW.out, rfl⟩, HO.out.kept fun x hx => Nat.lt_of_lt_of_le hx HLo.out⟩)
    obtain ⟨b0, b1, b2, b3⟩ := opCell HBx.out
    have hcv := fun V => conv_none V none 0
    clear hout
    go_enter Try.func10, Try.ntmps10
    go_wp2_with fail
    refine HG.out.mono ?_
    rintro e V ⟨rfl, rfl⟩
    go_wp2_with fail
    refine HG2.out.mono ?_
    rintro e V ⟨rfl, rfl⟩
    clear HG HG2
    go_wp2_with fail
    go_ret
    exact ⟨rfl, HD.out⟩
  · obtain ⟨a, rfl⟩ : ∃ a : Nat, pg = a := ⟨pg.toNat, by omega⟩
    obtain ⟨m, rfl⟩ : ∃ m : Nat, n = m := ⟨n.toNat, by omega⟩
    have hkN : a + m ≤ 64 * N := by omega
    have HKN := Lib.hid hkN
    have HG := Lib.hid (HW.out.cSpan hkN)
    have HP2 : Hid (∀ V, Kept (butC (w.alloc (.cells #[.int .i64 2, .int .i64 (a : Int), .int .i64 (m : Int), .int .u8 z] 42)) B) (w.alloc (.cells #[.int .i64 2, .int .i64 (a : Int), .int .i64 (m : Int), .int .u8 z] 42)) V → PlP V B N c d) := Lib.hid fun V hV => HW.out.plain hV
    obtain ⟨T, hT⟩ : ∃ T, T = spanR c d a m := ⟨_, rfl⟩
    have HT := Lib.hid hT
    rw [← hT] at HG
    clear hout hkN hT
    go_enter Try.func10, Try.ntmps10
    go_wp2_with fail
    refine HG.out.mono ?_
    intro e V hh
    obtain ⟨r, c', d'⟩ := T
    have HCn : Hid (c'.n = c.n) := Lib.hid (by have h9 := spanF_n a m m c d 0 (fun _ => 0); rw [show spanF a m m c d 0 (fun _ => 0) = spanR c d a m from rfl, ← HT.out] at h9; exact h9)
    dsimp only at hh
    obtain ⟨hr, hc, hk⟩ := hh
    have HG2 := Lib.hid ((HP2.out V hk).span HKN.out)
    rw [← HT.out] at HG2
    have hbx := (HW.out.box hk HBz.out HLt.out).trans HBx.out
    obtain ⟨b0, b1, b2, b3⟩ := opCell hbx
    have HHc := Lib.hid hc
    have HHk := Lib.hid hk
    clear HG hc hk hbx
    cases r with
    | none =>
      have hr' : e = .returned (.tuple #[.slice none 0 0, .int .i64 8]) := hr
      subst hr'
      clear hr
      go_wp2_with fail
      refine HG2.out.mono ?_
      rintro e U ⟨he, hp, hk2⟩
      have he' : e = .returned (.tuple #[.slice none 0 0, .int .i64 8]) := he
      subst he'
      have hcv := conv_none U none 0
      have HD := Lib.hid (HW.out.done HO.out HLo.out HHk.out HHc.out hk2 hp HCn.out)
      clear hp hk2 HG2 he
      go_wp2_with fail
      go_ret
      exact ⟨rfl, HD.out⟩
    | some G =>
      obtain ⟨q1, c1, rfl, h1, h2, h3, h4⟩ := (show ∃ q c, e = .returned (.tuple #[.slice q m c, .int .i64 0]) ∧ m ≤ c ∧ c ≤ maxLen ∧ SlU V q m G ∧ ∀ x, 0 < m → q = some x → (w.alloc (.cells #[.int .i64 2, .int .i64 (a : Int), .int .i64 (m : Int), .int .u8 z] 42)).heap.size ≤ x.block from hr)
      have HS := Lib.hid (And.intro h1 (And.intro h2 (And.intro h3 h4)))
      clear hr h1 h2 h3 h4
      go_wp2_with fail
      refine HG2.out.mono ?_
      rintro e U ⟨he, hp, hk2⟩
      obtain ⟨q2, c2, rfl, h1, h2, h3, _⟩ := (show ∃ q c, e = .returned (.tuple #[.slice q m c, .int .i64 0]) ∧ m ≤ c ∧ c ≤ maxLen ∧ SlU U q m G ∧ ∀ x, 0 < m → q = some x → V.heap.size ≤ x.block from he)
      have hcv := conv_slU (HW.out.strL hk2 HS.out.2.2.1 HS.out.2.2.2) HS.out.1 HS.out.2.1
      have hcv2 := conv_slU h3 h1 h2
      generalize strOfNums (lst G m) = s1 at hcv hcv2
      have HD := Lib.hid (HW.out.done HO.out HLo.out HHk.out HHc.out hk2 hp HCn.out)
      clear hp hk2 HG2 he h1 h2 h3
      go_wp2_with fail
      go_ret
      exact ⟨rfl, HD.out⟩
set_option maxHeartbeats 4000000 in
theorem step_evict {w : World} {B : Bks} {N : Nat} {c : Cch} {d : Dsk} (h : SyS w B N c d) (kd pg n z : Int) (hlo : B.lo ≤ w.heap.size) (hn : -9223372036854775808 ≤ n ∧ n ≤ 9223372036854775807) (hp : -9223372036854775808 ≤ pg ∧ pg ≤ 9223372036854775807) (hz : 0 ≤ z ∧ z ≤ 255) (hk : kd = 3) :
    Calls Try.prog 10 #[.pointer (some ⟨B.dm + 1, 0, none⟩), .pointer (some ⟨B.z0 + 2, 0, none⟩), .pointer (some ⟨B.q, 0, none⟩), .agg #[.int .i64 kd, .int .i64 pg, .int .i64 n, .int .u8 z]] w fun e V => e = .returned (.bool true) ∧ StE w B N c.n V := by
  subst hk
  have HO := Lib.hid (Old.alloc w (.cells #[.int .i64 3, .int .i64 pg, .int .i64 n, .int .u8 z] 42))
  have HW := Lib.hid (h.old HO.out)
  have HBx : Hid ((w.alloc (.cells #[.int .i64 3, .int .i64 pg, .int .i64 n, .int .u8 z] 42)).heap[w.heap.size]? = some (.cells #[.int .i64 3, .int .i64 pg, .int .i64 n, .int .u8 z] 42 (0, 0))) := Lib.hid (heap_alloc_new w _)
  have HBz : Hid (B.z ≤ w.heap.size) := Lib.hid h.hz
  have HPl : Hid (PlP (w.alloc (.cells #[.int .i64 3, .int .i64 pg, .int .i64 n, .int .u8 z] 42)) B N c d) := Lib.hid HW.out.pl
  have HNum := Lib.hid h.num
  have HLo := Lib.hid hlo
  have HBd := Lib.hid (And.intro hn (And.intro hp hz))
  have HLt := Lib.hid (lt_of_block HBx.out)
  clear h hlo hn hp hz
  have HG := Lib.hid (fun V (ho : Old (w.alloc (.cells #[.int .i64 3, .int .i64 pg, .int .i64 n, .int .u8 z] 42)) V) => (HW.out.old ho).cEvict HBd.out.2.1)
  have HDn : Hid (∀ V U c' d', Kept (butC (w.alloc (.cells #[.int .i64 3, .int .i64 pg, .int .i64 n, .int .u8 z] 42)).drew B) (w.alloc (.cells #[.int .i64 3, .int .i64 pg, .int .i64 n, .int .u8 z] 42)).drew V → CaP V B N c' d' → Kept (butL V B) V U → PlP U B N c' d' → c'.n = c.n → StE w B N c.n U) := Lib.hid fun V U c' d' k1 hc k2 hp hcn => (HW.out.old (Old.refl _).drew).done (HO.out.trans (Old.refl _).drew) HLo.out k1 hc k2 hp hcn
  clear HLo
  obtain ⟨b0, b1, b2, b3⟩ := opCell HBx.out
  go_enter Try.func10, Try.ntmps10
  go_upto_region 14 with (fail)
  generalize hWw : (w.alloc (.cells #[.int .i64 3, .int .i64 pg, .int .i64 n, .int .u8 z] 42)) = W at *
  generalize hbe : w.heap.size = bx at *
  refine wp_region_held_drew (S := (fun V => V.cell? ⟨bx, 1, none⟩ = some (.int .i64 pg))) (by kernel_rfl) ?_ (fun hHeld => ?_)
  · (try dsimp only); exact b1
  refine wpAnyH_take (i := 0) (oi := ⟨some _, _, _, _, _, _⟩) (v := ?_) rfl (by kernel_rfl) (by kernel_rfl) (by kernel_rfl) (fun _ _ _ h => h) (Or.inl ⟨by kernel_rfl, ?_⟩) (by assumption) ?_; rotate_left; (intro w hSw; (try dsimp only at hSw); go_simp; try with_reducible rfl); try simp only [Act.put, List.setIfInBounds_toArray, List.set_cons_zero, List.set_cons_succ]
  refine wpAnyH_take (i := 1) (oi := ⟨some _, _, _, _, _, _⟩) (v := ?_) rfl (by kernel_rfl) (by kernel_rfl) (by kernel_rfl) (fun _ _ _ h => h) (Or.inl ⟨by kernel_rfl, ?_⟩) (by assumption) ?_; rotate_left; (intro w hSw; (try dsimp only at hSw); go_simp; try with_reducible rfl); try simp only [Act.put, List.setIfInBounds_toArray, List.set_cons_zero, List.set_cons_succ]
  refine wpAnyH_take (i := 2) (oi := ⟨some _, _, _, _, _, _⟩) (v := ?_) rfl (by kernel_rfl) (by kernel_rfl) (by kernel_rfl) (fun _ _ _ h => h) (Or.inl ⟨by kernel_rfl, ?_⟩) (by assumption) ?_; rotate_left; (intro w hSw; (try dsimp only at hSw); go_simp; try with_reducible rfl); try simp only [Act.put, List.setIfInBounds_toArray, List.set_cons_zero, List.set_cons_succ]
  refine wpAnyH_take (i := 4) (oi := ⟨some _, _, _, _, _, _⟩) (v := ?_) rfl (by kernel_rfl) (by kernel_rfl) (by kernel_rfl) (fun _ _ _ h => h) (Or.inl ⟨by kernel_rfl, ?_⟩) (by assumption) ?_; rotate_left; (intro w hSw; (try dsimp only at hSw); go_simp; try with_reducible rfl); try simp only [Act.put, List.setIfInBounds_toArray, List.set_cons_zero, List.set_cons_succ]
  refine wpAnyH_take (i := 5) (oi := ⟨some _, _, _, _, _, _⟩) (v := ?_) rfl (by kernel_rfl) (by kernel_rfl) (by kernel_rfl) (fun _ _ _ h => h) (Or.inl ⟨by kernel_rfl, ?_⟩) (by assumption) ?_; rotate_left; (intro w hSw; (try dsimp only at hSw); go_simp; try with_reducible rfl); try simp only [Act.put, List.setIfInBounds_toArray, List.set_cons_zero, List.set_cons_succ]
  refine wpAnyH_take (i := 6) (oi := ⟨some _, _, _, _, _, _⟩) (v := ?_) rfl (by kernel_rfl) (by kernel_rfl) (by kernel_rfl) (fun _ _ _ h => h) (Or.inl ⟨by kernel_rfl, ?_⟩) (by assumption) ?_; rotate_left; (intro w hSw; (try dsimp only at hSw); go_simp; try with_reducible rfl); try simp only [Act.put, List.setIfInBounds_toArray, List.set_cons_zero, List.set_cons_succ]
  refine wpAnyH_ready (rs := [3]) (by kernel_rfl) (by simp) ?_
  refine AllReadyH.cons (o := ⟨_, _, _, _, _, _⟩) (by rfl) ?_ AllReadyH.nil
  intro K hK
  go_simp
  refine (HG.out _ (Old.refl W).drew).mono ?_
  rintro e V ⟨rfl, hc, hk⟩
  have hWd := (HW.out.old (Old.refl W).drew)
  have HG2 := Lib.hid (fun V' (ho : Old V V') => (show PlP V' B N c d from (by
    obtain ⟨p, h1, h2⟩ := hWd.plain hk
    exact ⟨p, h1.old ho, h2⟩)).evict pg)
  have hbx := (hWd.box hk (b := bx) HBz.out HLt.out).trans HBx.out
  have HHc := Lib.hid hc
  have HHk := Lib.hid hk
  have HD : Hid (∀ U, Kept (butL V B) V U → PlP U B N (c.evict pg) d → StE w B N c.n U) := Lib.hid fun U k2 hp => HDn.out V U _ _ hk hc k2 hp (evict_n c pg)
  have v1 := (opCell hbx).2.1
  clear hc hk hWd
  go_wp2_with fail
  refine hK.out _ _ ?_ (fun hHeld => ?_)
  · (try dsimp only); exact v1
  clear hK K
  try simp only [Act.put, List.setIfInBounds_toArray, List.set_cons_zero, List.set_cons_succ]
  refine wpAnyH_ready (rs := [7]) (by kernel_rfl) (by simp) ?_
  refine AllReadyH.cons (o := ⟨_, _, _, _, _, _⟩) (by rfl) ?_ AllReadyH.nil
  intro K hK
  go_simp
  refine (HG2.out _ (Old.refl V)).mono ?_
  rintro e U ⟨rfl, hp, hk2⟩
  have HF := Lib.hid (HD.out U hk2 hp)
  have u1 : U.cell? ⟨bx, 1, none⟩ = some (.int .i64 pg) := (opCell ((HW.out.boxL hk2 (b := bx) HBz.out (lt_of_block hbx)).trans hbx)).2.1
  clear hp hk2 HD
  go_wp2_with fail
  refine hK.out _ _ ?_ (fun hHeld => ?_)
  · (try dsimp only); exact u1
  clear hK K
  try simp only [Act.put, List.setIfInBounds_toArray, List.set_cons_zero, List.set_cons_succ]
  refine wpAnyH_take (i := 8) (oi := ⟨some _, _, _, _, _, _⟩) (v := ?_) rfl (by kernel_rfl) (by kernel_rfl) (by kernel_rfl) (fun _ _ _ h => h) (Or.inl ⟨by kernel_rfl, ?_⟩) (by assumption) ?_; rotate_left; (intro w hSw; (try dsimp only at hSw); go_simp; try with_reducible rfl); try simp only [Act.put, List.setIfInBounds_toArray, List.set_cons_zero, List.set_cons_succ]
  refine wpAnyH_take (i := 9) (oi := ⟨some _, _, _, _, _, _⟩) (v := ?_) rfl (by kernel_rfl) (by kernel_rfl) (by kernel_rfl) (fun _ _ _ h => h) (Or.inl ⟨by kernel_rfl, ?_⟩) (by assumption) ?_; rotate_left; (intro w hSw; (try dsimp only at hSw); go_simp; try with_reducible rfl); try simp only [Act.put, List.setIfInBounds_toArray, List.set_cons_zero, List.set_cons_succ]
  refine wpAnyH_done (by kernel_rfl) ?_ _
  go_wp2_with fail
  go_ret
  exact ⟨rfl, HF.out⟩
end Go.Proofs.Ytooamkicmmgniaa


