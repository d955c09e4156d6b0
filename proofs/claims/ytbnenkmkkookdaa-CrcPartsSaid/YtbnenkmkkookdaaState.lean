/- Sums that go on: contracts of crc.New, and of a State's Write, Sum, Len. -/
import Derived.Test.YtbnenkmkkookdaaAwake
namespace Go.Proofs.Ytbnenkmkkookdaa
set_option linter.unusedVariables false
open Go.RowKit

/-- All blocks of w but b. -/
def butOf (w : World) (b : Nat) : Nat → Prop := fun k => k < w.heap.size ∧ k ≠ b
/-- The state at block b is the sum of these bytes. -/
def StAt (w : World) (b : Nat) (xs : List Int) : Prop := w.heap[b]? = some (.cells #[.int .u32 (4294967295 - (reg 4294967295 xs : Int)), .int .i64 (xs.length : Int)] 40 (0, 0))
theorem StAt.kept {X : Nat → Prop} {w w' : World} {b : Nat} {xs : List Int} (h : StAt w b xs) (k : Kept X w w') (hb : X b) : StAt w' b xs := (k.block b hb).trans h
theorem StAt.old {w w' : World} {b : Nat} {xs : List Int} (h : StAt w b xs) (k : Old w w') : StAt w' b xs := h.kept k (lt_of_block h)
theorem cell2 {w : World} {b : Nat} {x y : Value} {t : TypeId} (h : w.heap[b]? = some (.cells #[x, y] t (0, 0))) :
    w.cell? ⟨b, 0, none⟩ = some x ∧ w.cell? ⟨b, 1, none⟩ = some y ∧ w.frozen? ⟨b, 0, none⟩ = false ∧ w.frozen? ⟨b, 1, none⟩ = false := by
  simp [World.cell?, World.frozen?, h]

theorem StAt.cells {w : World} {b : Nat} {xs : List Int} (h : StAt w b xs) :
    w.cell? ⟨b, 0, none⟩ = some (.int .u32 (4294967295 - (reg 4294967295 xs : Int))) ∧ w.cell? ⟨b, 1, none⟩ = some (.int .i64 (xs.length : Int)) ∧ w.frozen? ⟨b, 0, none⟩ = false ∧ w.frozen? ⟨b, 1, none⟩ = false := cell2 h

theorem New_any (w : World) : Calls Try.prog 12 #[] w fun e w' => e = .returned (.pointer (some ⟨w.heap.size, 0, none⟩)) ∧ StAt w' w.heap.size [] ∧ Old w w' := by
  have hs : Hid (StAt (w.alloc (.cells #[.int .u32 0, .int .i64 0] 40)) w.heap.size []) := heap_alloc_new _ _
  go_enter Try.func12, Try.ntmps12
  go_wp2
  go_ret
  exact ⟨rfl, hs.out, Old.alloc _ _⟩

theorem Sum_st (b : Nat) (xs : List Int) (w : World) (h : StAt w b xs) : Calls Try.prog 14 #[.pointer (some ⟨b, 0, none⟩)] w fun e w' => e = .returned (.int .u32 (sumOf xs)) ∧ w = w' := by
  obtain ⟨c0, c1, f0, f1⟩ := cell2 h
  clear h
  unfold sumOf
  go_enter Try.func14, Try.ntmps14
  go_wp2
  go_ret
  exact ⟨rfl, rfl⟩
theorem Len_st (b : Nat) (xs : List Int) (w : World) (h : StAt w b xs) : Calls Try.prog 15 #[.pointer (some ⟨b, 0, none⟩)] w fun e w' => e = .returned (.int .i64 (xs.length : Int)) ∧ w = w' := by
  obtain ⟨c0, c1, f0, f1⟩ := cell2 h
  clear h
  go_enter Try.func15, Try.ntmps15
  go_wp2
  go_ret
  exact ⟨rfl, rfl⟩
theorem Sum_nil (w : World) : Calls Try.prog 14 #[.pointer none] w fun e w' => e = .returned (.int .u32 0) ∧ w = w' := by
  go_enter Try.func14, Try.ntmps14
  go_wp2
  go_ret
  exact ⟨rfl, rfl⟩
theorem Len_nil (w : World) : Calls Try.prog 15 #[.pointer none] w fun e w' => e = .returned (.int .i64 0) ∧ w = w' := by
  go_enter Try.func15, Try.ntmps15
  go_wp2
  go_ret
  exact ⟨rfl, rfl⟩
theorem Write_nil (v : Value) (w : World) : Calls Try.prog 13 #[.pointer none, v] w fun e w' => e = .returned (.tuple #[]) ∧ w = w' := by
  go_enter Try.func13, Try.ntmps13
  go_wp2
  refine bodyPost_ret (results_none rfl _ _ _) rfl ?_
  exact ⟨rfl, rfl⟩

set_option maxRecDepth 100000 in
theorem Write_st (b : Nat) (xs ys : List Int) (v : Value) (w : World) (h : StAt w b xs) (hx : ∀ x ∈ xs, 0 ≤ x ∧ x ≤ 255) (hs : SlI w .u8 v ys) (hy : ∀ x ∈ ys, 0 ≤ x ∧ x ≤ 255) (hlen : xs.length + ys.length ≤ 9223372036854775807) :
    Calls Try.prog 13 #[.pointer (some ⟨b, 0, none⟩), v] w fun e w' => e = .returned (.tuple #[]) ∧ StAt w' b (xs ++ ys) ∧ Kept (butOf w b) w w' := by
  obtain ⟨p, n, cap, rfl, hl, hn⟩ := hs.shape
  have hr := reg_lt (r := 4294967295) (by omega) xs hx
  have HS := Lib.hid hs
  have HA := Lib.hid h
  have HL := Lib.hid hl
  rw [← hl] at hlen
  clear hs h hl
  go_enter Try.func13, Try.ntmps13
  go_wp2_with fail
  refine (Table_any w).mono ?_
  rintro e w1 ⟨rfl, ho1⟩
  have hT : Hid ((w1.alloc (.cells (row push) 27)).heap[w1.heap.size]? = some (.cells (row push) 27 (0, 0))) := heap_alloc_new _ _
  have HO : Hid (Old w (w1.alloc (.cells (row push) 27))) := ho1.alloc' _
  have HA2 : Hid (StAt (w1.alloc (.cells (row push) 27)) b xs) := HA.out.old HO.out
  have HS2 : Hid (SlI (w1.alloc (.cells (row push) 27)) .u8 (.slice p n cap) ys) := HS.out.old HO.out
  have Hz := Lib.hid Try.zero.2
  have Hr := Lib.hid (heap_alloc_new w1 (.cells (row fun _ => 0) 27))
  have hz := Try.zero.1
  have hb : Hid (b < w.heap.size) := lt_of_block HA.out
  have hap : Hid (reg (reg 4294967295 xs) ys = reg 4294967295 (xs ++ ys)) := (reg_append _ _ _).symm
  clear ho1 HS HA
  go_wp2_with (with_reducible refine wpList_store_row rfl 27 _ _ rfl w1.heap.size (row push) rfl rfl 27 _ Hr.out (by rw [row_size]; exact Hz.out) (by rw [row_size, row_size]) (row_one _) ?_; rw [World.setRow_alloc_new]; clear hz Hr Hz; generalize w1.alloc (.cells (row push) 27) = w2 at *; generalize w1.heap.size = g at *; obtain ⟨c0, c1, f0, f1⟩ := HA2.out.cells)
  refine (goOn_any g _ p n cap ys w2 hr hT.out HS2.out hy (by omega)).mono ?_
  rintro e w' ⟨rfl, rfl⟩
  rw [hap.out]
  generalize hR : reg 4294967295 (xs ++ ys) = R
  have hfin : Hid (StAt ((w2.setCell ⟨b, 0, none⟩ (.int .u32 (4294967295 - (R : Int)))).setCell ⟨b, 1, none⟩ (.int .i64 ((xs.length : Int) + (n : Int)))) b (xs ++ ys)) := by
    have h1 := heap_setCell_at (o := 0) (u := .int .u32 (4294967295 - (R : Int))) HA2.out
    have h2 := heap_setCell_at (o := 1) (u := .int .i64 ((xs.length : Int) + (n : Int))) h1
    unfold Hid StAt
    rw [hR, h2, HL.out, List.length_append]
    simp
  have hk : Hid (Kept (butOf w b) w ((w2.setCell ⟨b, 0, none⟩ (.int .u32 (4294967295 - (R : Int)))).setCell ⟨b, 1, none⟩ (.int .i64 ((xs.length : Int) + (n : Int))))) :=
    (((HO.out.kept (X := butOf w b) fun k hk => hk.1).trans (Kept.setCell _ (a := ⟨b, 0, none⟩) (fun h => h.2 rfl) _)).trans (Kept.setCell _ (a := ⟨b, 1, none⟩) (fun h => h.2 rfl) _))
  have HR := Lib.hid hR
  clear hR HA2 HS2 hT hap HO
  go_wp2
  go_end0
  exact ⟨rfl, hfin.out, hk.out⟩
end Go.Proofs.Ytbnenkmkkookdaa
