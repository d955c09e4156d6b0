/- CrcTable: for every byte crc.Table tells what it becomes, pushed through a register (2.1), and the chapter's example holds. No condition. -/
import Derived.Test.YtbnenkmkkookdaaRows
import Derived.Test.YtbnenkmkkookdaaAwake
import Derived.Deep.RegionHeld3
namespace Go.Proofs.Ytbnenkmkkookdaa.crcTable
open Go.ChangeShapes Go.WideShapes Go.ChangeAt Go.RowKit
set_option linter.unusedVariables false

set_option maxRecDepth 100000 in
theorem walk (c : Nat) (w : World) (hc : c < 256) :
    Calls Try.prog 4 #[.int .u8 c] w fun e w' => e = .returned (.bool true) ∧ Old w w' := by
  go_enter Try.func4, Try.ntmps4
  go_wp2_with fail
  refine (Table_any w).mono ?_
  rintro e w1 ⟨rfl, ho1⟩
  have hblk := heap_alloc_new w1 (.cells (row push) 27)
  have HO : Hid (Old w (w1.alloc (.cells (row push) 27))) := ho1.alloc' _
  have Hz := Lib.hid Try.zero.2
  have Hr := Lib.hid (heap_alloc_new w1 (.cells (row fun _ => 0) 27))
  have hz := Try.zero.1
  have hcell : (w1.alloc (.cells (row push) 27)).cell? ⟨w1.heap.size, c, none⟩ = some (.int .u32 (push c : Nat)) := (cell_of_row _ _ _ _ _ _ hblk).trans (row_at push c hc)
  have HC := Lib.hid hcell
  clear ho1 hblk hcell
  go_wp2_with (with_reducible refine wpList_store_row rfl 27 _ _ rfl w1.heap.size (row push) rfl rfl 27 _ Hr.out (by rw [row_size]; exact Hz.out) (by rw [row_size, row_size]) (row_one _) ?_; rw [World.setRow_alloc_new]; clear hz)
  clear Hr Hz
  have hcell := HC.out
  have hlp := Lib.hid (fun W : World => lpush_any c W (by omega))
  have haw := Lib.hid (fun W : World => awake_any W)
  have i0 : IntKind.u32.wrap (c : Int) = c := IntWalk.u32_in _ (by omega)
  have i1 : (c : Int) < 256 := by omega
  have i2 : 0 ≤ (c : Int) := by omega
  generalize w1.alloc (.cells (row push) 27) = w2 at *
  generalize w1.heap.size = g at *
  trace "1"
  go_still_tail 8, (by kernel_rfl)
  trace "2"
  repeat still_step
  repeat still_step
  trace "3"
  still_call ((hlp.out _).mono fun _ _ hh => ⟨hh.1, hh.2.symm⟩)
  trace "4"
  repeat still_step
  trace "5"
  change wpList _ _ _ _ _ w2.drew
  go_wp2_with fail
  refine (haw.out _).mono ?_
  rintro e w3 ⟨rfl, ho3⟩
  have H3 := Lib.hid ho3
  clear ho3
  go_wp2
  go_ret
  exact ⟨rfl, (Old.drew HO.out).trans H3.out⟩

theorem byte_of {x : Int} (h : (Lit.int .u8 x).wf = true) : 0 ≤ x ∧ x ≤ 255 := by
  simp [Lit.wf, IntKind.min, IntKind.max, IntKind.signed, IntKind.bits] at h
  omega
theorem own : ownKnob Try.prog.godebug = none := by kernel_rfl
theorem laidOut : laidOutB Try.prog = true := by kernel_rfl

set_option maxRecDepth 100000 in
theorem lifted (os : Os) (started : os.Started) (H : Type) (enc : TypeId × Value → H) :
    ReturnsInHanded {} Try.checked os 4 .any (Rows.crcTableSpec.pre6 enc Try.prog Try.f4 Rows.crcTableRow.domain false) (Rows.crcTableSpec.post enc Try.prog Try.f4 false true false false) := by
  refine returnsInHanded_of_change (C := Try.checked) own started (by kernel_rfl) Try.func4
    (ChangeSpec.witness6 (enc := enc) (C := Try.checked) false ⟨#[], #[.int .u8 0], []⟩ 8 (by kernel_rfl) (by kernel_rfl) (by kernel_rfl) (by kernel_rfl)) ?_
  intro W base args ds gs before hval0 hW hcnd _
  have hval : ∀ (j : Nat) t v, Try.f4.params[j]? = some t → args[j]? = some v → Value.okWide Try.prog W .any base t v := hval0
  have hW' := hW
  have hlt : ∀ p ∈ before, p.block < W.heap.size := fun p hp => hW'.lt p hp
  obtain ⟨p, q, hA0, hV, rfl, hfz, hnd⟩ := hW
  have hA : DataW.TrodAll enc Try.prog W 0 (fun _ => true) true Try.f4.params.toList args.toList ds p := hA0
  rw [Try.params4] at hA hval
  obtain ⟨v0, vs0, d0, ds0, p0, q0, hargs, rfl, rfl, h0, r0⟩ := trodAll_cons hA
  obtain ⟨rfl, rfl, rfl⟩ := trodAll_nil r0
  obtain rfl : args = #[v0] := by cases args; simp_all
  obtain ⟨rfl, rfl⟩ := trodVars_none hV
  obtain ⟨a0, rfl, _, _, w0⟩ := open_int Try.underlying5 (hval 0 5 v0 rfl rfl) h0
  have b0 := byte_of w0
  obtain ⟨c, rfl⟩ := Int.eq_ofNat_of_zero_le b0.1
  refine (walk c W (by omega)).mono fun e W' ⟨he, hg⟩ => ?_
  subst he
  exact ⟨_, rfl, law_done laidOut Try.underlying4 rfl (by kernel_rfl) rfl hW' rfl hg⟩

theorem over : Rows.crcTableRow.holds Try.pinned (OpenSpec.ofChange Rows.crcTableSpec) :=
  OpenClaim.holds_of_wide 4 Try.f4 rfl rfl rfl rfl rfl rfl rfl ⟨rfl, rfl, rfl, rfl, rfl⟩ rfl rfl rfl rfl rfl (by kernel_rfl) Try.func4 (by kernel_rfl)
    (of_decide_eq_true (by kernel_rfl)) (by unfold Func.isWrapper; first | (rw [if_pos (by decide +kernel)]; kernel_rfl) | (rw [if_neg (by decide +kernel)]; exact ⟨rfl, rfl⟩))
    (fun os started H enc _ => lifted os started H enc)

theorem proved : Rows.CrcTableSaid :=
  over
end Go.Proofs.Ytbnenkmkkookdaa.crcTable
