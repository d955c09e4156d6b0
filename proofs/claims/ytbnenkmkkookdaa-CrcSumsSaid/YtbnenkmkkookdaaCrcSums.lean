/- CrcSums: for all bytes (the first 2000 of them) crc.Sum tells their sum (2.1), and the chapter's example holds. No condition. -/
import Derived.Test.YtbnenkmkkookdaaRows
import Derived.Test.YtbnenkmkkookdaaAwake
namespace Go.Proofs.Ytbnenkmkkookdaa.crcSums
open Go.ChangeShapes Go.WideShapes Go.ChangeAt Go.RowKit
set_option linter.unusedVariables false

theorem bytes_of {xs : List Int} (h : ∀ x ∈ xs, (Lit.int .u8 x).wf = true) : ∀ x ∈ xs, 0 ≤ x ∧ x ≤ 255 := by
  intro x hx
  have := h x hx
  simp [Lit.wf, IntKind.min, IntKind.max, IntKind.signed, IntKind.bits] at this
  omega

theorem walk (p : Option Addr) (n cap : Nat) (xs : List Int) (w : World) (hs : SlI w .u8 (.slice p n cap) xs) (hnc : n ≤ cap) (hcm : cap ≤ maxLen) (hb : ∀ x ∈ xs, 0 ≤ x ∧ x ≤ 255) :
    Calls Try.prog 3 #[.slice p n cap] w fun e w' => e = .returned (.bool true) ∧ Old w w' := by
  unfold maxLen at hcm
  have key : ∀ m : Nat, m ≤ n → Hid (Calls Try.prog 7 #[.slice p m cap] w fun e w' => e = .returned (.int .u32 (sumOf (xs.take m))) ∧ Old w w') ∧ Hid (∀ w', Old w w' → Calls Try.prog 8 #[.slice p m cap] w' fun e w'' => e = .returned (.int .u32 (sumOf (xs.take m))) ∧ w' = w'') := by
    intro m hm
    have h1 := hs.take (m := m) hm
    exact ⟨Sum_any _ _ _ h1 (take_byte hb m), fun w' ho => sum_law _ _ _ _ _ (h1.old ho) (take_byte hb m) (by omega)⟩
  by_cases hbig : 2000 < n
  · obtain ⟨k1, k2⟩ := key 2000 (by omega)
    clear key hs
    generalize sumOf (xs.take 2000) = S at *
    go_enter Try.func3, Try.ntmps3
    go_wp2_with fail
    refine k1.out.mono ?_
    rintro e w1 ⟨rfl, ho1⟩
    have H1 := Lib.hid ho1
    clear ho1
    go_wp2_with fail
    refine (k2.out _ H1.out).mono ?_
    rintro e w' ⟨rfl, rfl⟩
    go_wp2_with fail
    refine (awake_any _).mono ?_
    rintro e w2 ⟨rfl, ho2⟩
    have H2 := Lib.hid ho2
    clear ho2
    go_wp2
    go_ret
    exact ⟨rfl, H1.out.trans H2.out⟩
  · obtain ⟨k1, k2⟩ := key n (by omega)
    clear key hs
    generalize sumOf (xs.take n) = S at *
    go_enter Try.func3, Try.ntmps3
    go_wp2_with fail
    refine k1.out.mono ?_
    rintro e w1 ⟨rfl, ho1⟩
    have H1 := Lib.hid ho1
    clear ho1
    go_wp2_with fail
    refine (k2.out _ H1.out).mono ?_
    rintro e w' ⟨rfl, rfl⟩
    go_wp2_with fail
    refine (awake_any _).mono ?_
    rintro e w2 ⟨rfl, ho2⟩
    have H2 := Lib.hid ho2
    clear ho2
    go_wp2
    go_ret
    exact ⟨rfl, H1.out.trans H2.out⟩

theorem own : ownKnob Try.prog.godebug = none := by kernel_rfl
theorem laidOut : laidOutB Try.prog = true := by kernel_rfl

set_option maxRecDepth 100000 in
theorem lifted (os : Os) (started : os.Started) (H : Type) (enc : TypeId × Value → H) :
    ReturnsInHanded {} Try.checked os 3 .any (Rows.crcSumsSpec.pre6 enc Try.prog Try.f3 Rows.crcSumsRow.domain false) (Rows.crcSumsSpec.post enc Try.prog Try.f3 false true false false) := by
  refine returnsInHanded_of_change (C := Try.checked) own started (by kernel_rfl) Try.func3
    (ChangeSpec.witness6 (enc := enc) (C := Try.checked) false ⟨#[], #[.slice none 0 0], []⟩ 8 (by kernel_rfl) (by kernel_rfl) (by kernel_rfl) (by kernel_rfl)) ?_
  intro W base args ds gs before hval0 hW hcnd _
  have hval : ∀ (j : Nat) t v, Try.f3.params[j]? = some t → args[j]? = some v → Value.okWide Try.prog W .any base t v := hval0
  have hW' := hW
  have hlt : ∀ p ∈ before, p.block < W.heap.size := fun p hp => hW'.lt p hp
  obtain ⟨p, q, hA0, hV, rfl, hfz, hnd⟩ := hW
  have hA : DataW.TrodAll enc Try.prog W 0 (fun _ => true) true Try.f3.params.toList args.toList ds p := hA0
  rw [Try.params3] at hA hval
  obtain ⟨v0, vs0, d0, ds0, p0, q0, hargs, rfl, rfl, h0, r0⟩ := trodAll_cons hA
  obtain ⟨rfl, rfl, rfl⟩ := trodAll_nil r0
  obtain rfl : args = #[v0] := by cases args; simp_all
  obtain ⟨rfl, rfl⟩ := trodVars_none hV
  obtain ⟨s0, n0, c0, xs0, rfl, hs0, hn0, hc0, hw0⟩ := open_slI Try.underlying22 Try.underlying5 (by kernel_rfl) (hval 0 22 v0 rfl rfl) h0 (fun x hx => hlt x (by simp [hx]))
  refine (walk s0 n0 c0 xs0 W hs0 hn0 hc0 (bytes_of hw0)).mono fun e W' ⟨he, hg⟩ => ?_
  subst he
  exact ⟨_, rfl, law_done laidOut Try.underlying4 rfl (by kernel_rfl) rfl hW' rfl hg⟩

theorem over : Rows.crcSumsRow.holds Try.pinned (OpenSpec.ofChange Rows.crcSumsSpec) :=
  OpenClaim.holds_of_wide 3 Try.f3 rfl rfl rfl rfl rfl rfl rfl ⟨rfl, rfl, rfl, rfl, rfl⟩ rfl rfl rfl rfl rfl (by kernel_rfl) Try.func3 (by kernel_rfl)
    (of_decide_eq_true (by kernel_rfl)) (by unfold Func.isWrapper; first | (rw [if_pos (by decide +kernel)]; kernel_rfl) | (rw [if_neg (by decide +kernel)]; exact ⟨rfl, rfl⟩))
    (fun os started H enc _ => lifted os started H enc)

theorem proved : Rows.CrcSumsSaid :=
  over
end Go.Proofs.Ytbnenkmkkookdaa.crcSums
