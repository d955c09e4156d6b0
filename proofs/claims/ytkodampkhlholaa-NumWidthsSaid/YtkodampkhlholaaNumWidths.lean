/- NumWidths: for every number num.Width tells how many bits it needs as a two's complement, 0 of 0 (3.2), and the chapter's example holds. No condition. -/
import Derived.Test.YtkodampkhlholaaRows
import Derived.Test.YtkodampkhlholaaRound
import Derived.Test.YtkodampkhlholaaShelf
import Derived.Deep.DeepCutAuto
import Derived.Deep.CutBlock
namespace Go.Proofs.Ytkodampkhlholaa.numWidths
open Go.ChangeShapes Go.WideShapes Go.ChangeAt Go.RowKit
set_option linter.unusedVariables false

theorem bitLenAux_zero (f : Nat) : Lib.bitLenAux f 0 = 0 := by cases f <;> rfl
theorem bitLenAux_succ (f y : Nat) (h : y ≠ 0) : Lib.bitLenAux (f + 1) y = 1 + Lib.bitLenAux f (y / 2) := by
  show (if y = 0 then 0 else 1 + Lib.bitLenAux f (y / 2)) = _
  rw [if_neg h]
theorem bitLenAux_more (f : Nat) : ∀ y, y < 2 ^ f → Lib.bitLenAux (f + 1) y = Lib.bitLenAux f y := by
  induction f with
  | zero =>
    intro y hy
    obtain rfl : y = 0 := by omega
    rfl
  | succ f ih =>
    intro y hy
    by_cases h : y = 0
    · subst h; rw [bitLenAux_zero, bitLenAux_zero]
    · rw [bitLenAux_succ _ _ h, bitLenAux_succ _ _ h, ih (y / 2) (by rw [Nat.pow_succ] at hy; omega)]
theorem bitLen_half (x : Nat) (h : 0 < x) (h2 : x < 18446744073709551616) : Lib.bitLen x = Lib.bitLen (x / 2) + 1 := by
  show Lib.bitLenAux (63 + 1) x = Lib.bitLenAux (63 + 1) (x / 2) + 1
  rw [bitLenAux_succ 63 x (by omega), bitLenAux_more 63 (x / 2) (by omega)]
  omega
theorem bitLen_le (x : Nat) : Lib.bitLen x ≤ 64 := by
  have : ∀ f y, Lib.bitLenAux f y ≤ f := by
    intro f
    induction f with
    | zero => intro y; exact Nat.le_refl _
    | succ f ih => intro y; rw [Lib.bitLenAux]; split; omega; have := ih (y / 2); omega
  exact this 64 x
theorem not_i64 (v : Int) (h1 : -9223372036854775808 ≤ v) (h2 : v ≤ 9223372036854775807) : bits .xor .i64 (-1) v = -(v + 1) := by
  show IntKind.i64.wrap ((BitVec.ofInt 64 (-1) ^^^ BitVec.ofInt 64 v).toNat : Int) = _
  have e : BitVec.ofInt 64 (-1) ^^^ BitVec.ofInt 64 v = ~~~ BitVec.ofInt 64 v := by
    rw [show BitVec.ofInt 64 (-1) = BitVec.allOnes 64 from rfl, BitVec.allOnes_xor]
  have e' : (((2 : Nat) ^ 64 : Nat) : Int) = 18446744073709551616 := rfl
  have l := (BitVec.ofInt 64 v).isLt
  have e3 : (((BitVec.ofInt 64 v).toNat : Nat) : Int) = v % 18446744073709551616 := by
    rw [BitVec.toNat_ofInt, e', Int.toNat_of_nonneg (Int.emod_nonneg _ (by decide))]
  rw [e, BitVec.toNat_not, IntKind.wrap_i64]
  generalize (BitVec.ofInt 64 v).toNat = n at *
  omega

/-- A number, or its bits turned round if it is below 0. -/
def upI (v : Int) : Int := if v < 0 then -(v + 1) else v
def widthI (v : Int) : Int := if v = 0 then 0 else Lib.bitLen (upI v).toNat + 1

theorem Width_any (v : Int) (w : World) (h1 : -9223372036854775808 ≤ v) (h2 : v ≤ 9223372036854775807) :
    Calls Try.prog 20 #[.int .i64 v] w fun e w' => e = .returned (.int .i64 (widthI v)) ∧ w = w' := by
  by_cases c0 : v = 0
  · subst c0
    go_enter Try.func20, Try.ntmps20
    go_wp2
    go_ret
    exact ⟨rfl, rfl⟩
  · unfold widthI
    rw [if_neg c0]
    have c1 : (v == 0) = false := by simpa using c0
    have hl := bitLen_le (upI v).toNat
    have hL := Lib.hid (Try.bits_Len64 (upI v) w (by unfold upI; split <;> omega) (by unfold upI; split <;> omega))
    generalize Lib.bitLen (upI v).toNat = n at *
    unfold upI at hL
    by_cases c : v < 0
    · rw [if_pos c] at hL
      have e1 : IntKind.u64.wrap (bits BinOp.xor IntKind.i64 (-1) v) = -(v + 1) := by rw [not_i64 v h1 h2, IntKind.wrap_u64]; omega
      go_enter Try.func20, Try.ntmps20
      go_wp2_with fail
      refine hL.out.mono ?_
      rintro e w' ⟨rfl, rfl⟩
      go_wp2
      go_ret
      exact ⟨rfl, rfl⟩
    · rw [if_neg c] at hL
      have c2 : 0 ≤ v := by omega
      clear c c0
      go_enter Try.func20, Try.ntmps20
      go_wp2_with fail
      refine hL.out.mono ?_
      rintro e w' ⟨rfl, rfl⟩
      go_wp2
      go_ret
      exact ⟨rfl, rfl⟩
set_option maxHeartbeats 1000000 in
theorem walk (v : Int) (w : World) (h1 : -9223372036854775808 ≤ v) (h2 : v ≤ 9223372036854775807) :
    Calls Try.prog 6 #[.int .i64 v] w fun e w' => e = .returned (.bool true) ∧ Old w w' := by
  have hW := fun w => Width_any v w h1 h2
  have hl := bitLen_le (upI v).toNat
  unfold widthI at hW
  by_cases c : v < 0
  · have e : (upI v).toNat = (-(v + 1)).toNat := by unfold upI; rw [if_pos c]
    rw [e] at hl
    rw [if_neg (by omega), e] at hW
    obtain ⟨m, hm⟩ : ∃ m : Nat, -(v + 1) = m := ⟨(-(v + 1)).toNat, by omega⟩
    have hm2 : (-(v + 1)).toNat = m := by omega
    rw [hm2] at hW hl
    have hm3 : m ≤ 9223372036854775807 := by omega
    have hne : (v != 0) = true := by simp; omega
    obtain ⟨N, hN⟩ : ∃ N, Lib.bitLen m = N := ⟨_, rfl⟩
    rw [hN] at hW hl
    have HN := Lib.hid hN
    have HM := Lib.hid hm
    have HW := Lib.hid hW
    clear hN hm hm2 hW e
    go_enter Try.func6, Try.ntmps6
    go_wp2
    go_loop [3, 4] (fun n i => ∃ j : Nat, j ≤ 9223372036854775807 ∧ ∃ k : Nat, k + Lib.bitLen j = N ∧ i = .int .i64 j ∧ n = .int .i64 k) (fun _ i => (intOf i).toNat)
    case atStart => exact ⟨m, hm3, 0, by rw [HN.out]; omega, by rw [HM.out], rfl⟩
    case round =>
      obtain ⟨j, hj, k, hk, rfl, rfl⟩ := hrel
      by_cases hp : 0 < j
      · have hh := bitLen_half j hp (by omega)
        have hk2 : k ≤ 63 := by omega
        have hh2 := Lib.hid hh
        have hk3 := Lib.hid hk
        clear hh hk
        go_wp2
        go_round
        case rel => exact ⟨j / 2, by omega, k + 1, by have := hh2.out; have := hk3.out; omega, by go_num, by go_num⟩
        case measure => simp [intOf]; omega
      · obtain rfl : j = 0 := by omega
        obtain rfl : N = k := by have : Lib.bitLen 0 = 0 := rfl; omega
        clear hk hj
        go_wp2_with fail
        refine (HW.out _).mono ?_
        rintro e w' ⟨rfl, rfl⟩
        go_wp2_with fail
        refine (awake_any _).mono ?_
        rintro e w' ⟨rfl, n, rfl⟩
        go_wp2
        go_ret
        exact ⟨rfl, (Old.refl w).drewN _⟩
  · by_cases c0 : v = 0
    · subst c0
      have HW : Hid (∀ w, Calls Try.prog 20 #[.int .i64 0] w fun e w' => e = .returned (.int .i64 0) ∧ w = w') := fun w => hW w
      clear hW hl c
      obtain ⟨N, hN⟩ : ∃ N : Nat, N = 0 := ⟨_, rfl⟩
      have hl : N ≤ 64 := by omega
      have HN := Lib.hid hN
      clear hN
      go_enter Try.func6, Try.ntmps6
      go_wp2
      go_loop [3, 4] (fun n i => ∃ j : Nat, j ≤ 9223372036854775807 ∧ ∃ k : Nat, k + Lib.bitLen j = N ∧ i = .int .i64 j ∧ n = .int .i64 k) (fun _ i => (intOf i).toNat)
      case atStart => exact ⟨0, by omega, 0, by rw [HN.out]; rfl, rfl, rfl⟩
      case round =>
        obtain ⟨j, hj, k, hk, rfl, rfl⟩ := hrel
        by_cases hp : 0 < j
        · have hh := bitLen_half j hp (by omega)
          have hk2 : k ≤ 63 := by omega
          have hh2 := Lib.hid hh
          have hk3 := Lib.hid hk
          clear hh hk
          go_wp2
          go_round
          case rel => exact ⟨j / 2, by omega, k + 1, by have := hh2.out; have := hk3.out; omega, by go_num, by go_num⟩
          case measure => simp [intOf]; omega
        · obtain rfl : j = 0 := by omega
          obtain rfl : N = k := by have : Lib.bitLen 0 = 0 := rfl; omega
          clear hk hj
          obtain rfl := HN.out
          go_wp2_with fail
          refine (HW.out _).mono ?_
          rintro e w' ⟨rfl, rfl⟩
          go_wp2_with fail
          refine (awake_any _).mono ?_
          rintro e w' ⟨rfl, n, rfl⟩
          go_wp2
          go_ret
          exact ⟨rfl, (Old.refl w).drewN _⟩
  
    · have e : (upI v).toNat = v.toNat := by unfold upI; rw [if_neg c]
      rw [e] at hl
      rw [if_neg c0, e] at hW
      obtain ⟨m, hm⟩ : ∃ m : Nat, v = m := ⟨v.toNat, by omega⟩
      subst hm
      rw [Int.toNat_natCast] at hW hl
      have hm3 : m ≤ 9223372036854775807 := by omega
      have hne : (((m : Nat) : Int) != 0) = true := by simp; omega
      obtain ⟨N, hN⟩ : ∃ N, Lib.bitLen m = N := ⟨_, rfl⟩
      rw [hN] at hW hl
      have HN := Lib.hid hN
      have HW := Lib.hid hW
      clear hN hW e c c0
      go_enter Try.func6, Try.ntmps6
      go_wp2
      go_loop [3, 4] (fun n i => ∃ j : Nat, j ≤ 9223372036854775807 ∧ ∃ k : Nat, k + Lib.bitLen j = N ∧ i = .int .i64 j ∧ n = .int .i64 k) (fun _ i => (intOf i).toNat)
      case atStart => exact ⟨m, hm3, 0, by rw [HN.out]; omega, rfl, rfl⟩
      case round =>
        obtain ⟨j, hj, k, hk, rfl, rfl⟩ := hrel
        by_cases hp : 0 < j
        · have hh := bitLen_half j hp (by omega)
          have hk2 : k ≤ 63 := by omega
          have hh2 := Lib.hid hh
          have hk3 := Lib.hid hk
          clear hh hk
          go_wp2
          go_round
          case rel => exact ⟨j / 2, by omega, k + 1, by have := hh2.out; have := hk3.out; omega, by go_num, by go_num⟩
          case measure => simp [intOf]; omega
        · obtain rfl : j = 0 := by omega
          obtain rfl : N = k := by have : Lib.bitLen 0 = 0 := rfl; omega
          clear hk hj
          go_wp2_with fail
          refine (HW.out _).mono ?_
          rintro e w' ⟨rfl, rfl⟩
          go_wp2_with fail
          refine (awake_any _).mono ?_
          rintro e w' ⟨rfl, n, rfl⟩
          go_wp2
          go_ret
          exact ⟨rfl, (Old.refl w).drewN _⟩
  
theorem own : ownKnob Try.prog.godebug = none := by kernel_rfl
theorem laidOut : laidOutB Try.prog = true := by kernel_rfl

set_option maxRecDepth 100000 in
theorem lifted (os : Os) (started : os.Started) (H : Type) (enc : TypeId × Value → H) :
    ReturnsInHanded {} Try.checked os 6 .any (Rows.numWidthsSpec.pre6 enc Try.prog Try.f6 Rows.numWidthsRow.domain false) (Rows.numWidthsSpec.post enc Try.prog Try.f6 false true false false) := by
  refine returnsInHanded_of_change (C := Try.checked) own started (by kernel_rfl) Try.func6
    (ChangeSpec.witness6 (enc := enc) (C := Try.checked) false ⟨#[], #[.int .i64 0], []⟩ 8 (by kernel_rfl) (by kernel_rfl) (by kernel_rfl) (by kernel_rfl)) ?_
  intro W base args ds gs before hval0 hW hcnd _
  have hval : ∀ (j : Nat) t v, Try.f6.params[j]? = some t → args[j]? = some v → Value.okWide Try.prog W .any base t v := hval0
  have hW' := hW
  have hlt : ∀ p ∈ before, p.block < W.heap.size := fun p hp => hW'.lt p hp
  obtain ⟨p, q, hA0, hV, rfl, hfz, hnd⟩ := hW
  have hA : DataW.TrodAll enc Try.prog W 0 (fun _ => true) true Try.f6.params.toList args.toList ds p := hA0
  rw [Try.params6] at hA hval
  obtain ⟨v0, vs0, d0, ds0, p0, q0, hargs, rfl, rfl, h0, r0⟩ := trodAll_cons hA
  obtain ⟨rfl, rfl, rfl⟩ := trodAll_nil r0
  obtain rfl : args = #[v0] := by cases args; simp_all
  obtain ⟨rfl, rfl⟩ := trodVars_none hV
  obtain ⟨a0, rfl, _, _, w0⟩ := open_int Try.underlying2 (hval 0 2 v0 rfl rfl) h0
  refine (walk a0 W (i64_of w0).1 (i64_of w0).2).mono fun e W' ⟨he, hg⟩ => ?_
  subst he
  exact ⟨_, rfl, law_done laidOut Try.underlying4 rfl (by kernel_rfl) rfl hW' rfl hg⟩

theorem over : Rows.numWidthsRow.holds Try.pinned (OpenSpec.ofChange Rows.numWidthsSpec) :=
  OpenClaim.holds_of_wide 6 Try.f6 rfl rfl rfl rfl rfl rfl rfl ⟨rfl, rfl, rfl, rfl, rfl⟩ rfl rfl rfl rfl rfl (by kernel_rfl) Try.func6 (by kernel_rfl)
    (of_decide_eq_true (by kernel_rfl)) (by unfold Func.isWrapper; first | (rw [if_pos (by decide +kernel)]; kernel_rfl) | (rw [if_neg (by decide +kernel)]; exact ⟨rfl, rfl⟩))
    (fun os started H enc _ => lifted os started H enc)

theorem proved : Rows.NumWidthsSaid :=
  over
end Go.Proofs.Ytkodampkhlholaa.numWidths
