/- Package disk, second part: a disk's state; isMade, refuse, befall, fails, Pages, Reads, Failed. -/
import Derived.Test.YtooamkicmmgniaaDiskA
import Derived.Test.YtooamkicmmgniaaFltM
namespace Go.Proofs.Ytooamkicmmgniaa
set_option linter.unusedVariables false
set_option maxRecDepth 100000
open Go.RowKit Go.ChangeShapes Go.WideShapes

/-- A disk: how many pages, their bytes, what befalls them, how many readings there were, and how many failed. -/
structure Dsk where
  N : Nat
  G : Nat → Int
  F : Nat → Flt
  r : Int
  f : Int
structure DkAt (w : World) (b m : Nat) (p : Option Addr) (c : Nat) (d : Dsk) : Prop where
  blk : w.heap[b]? = some (.cells #[.slice p d.N c, .map (some m), .int .i64 d.r, .int .i64 d.f] 65 (0, 0))
  row : SlU w p (d.N * 64) d.G
  cap : d.N ≤ c ∧ c ≤ maxLen
  map : FltAt w m d.N d.F
  ne : b ≠ m
  apart : ∀ a, 0 < d.N → p = some a → a.block ≠ b ∧ a.block ≠ m
  num : d.N ≤ 65536
  ok : ∀ k, k < d.N → (d.F k).ok
  byt : Byt d.G (d.N * 64)
/-- All blocks but a disk's own two that are written. -/
def butD (w : World) (b m : Nat) : Nat → Prop := fun k => k < w.heap.size ∧ k ≠ b ∧ k ≠ m
namespace DkAt
variable {w w' : World} {b m c : Nat} {p : Option Addr} {d : Dsk}
theorem ltb (h : DkAt w b m p c d) : b < w.heap.size := lt_of_block h.blk
theorem kept {X : Nat → Prop} (h : DkAt w b m p c d) (k : Kept X w w') (hb : X b) (hm : X m) (hp : ∀ a, 0 < d.N → p = some a → X a.block) : DkAt w' b m p c d :=
  ⟨(k.block b hb).trans h.blk, h.row.kept k fun a hn ha => hp a (by omega) ha, h.cap, h.map.kept k hm, h.ne, h.apart, h.num, h.ok, h.byt⟩
theorem plt (h : DkAt w b m p c d) : ∀ a, 0 < d.N → p = some a → a.block < w.heap.size := fun a hn ha => by
  obtain ⟨g, o, e1, e2, _⟩ := h.row (by omega)
  rw [e1] at ha; cases ha; exact e2
theorem old (h : DkAt w b m p c d) (k : Old w w') : DkAt w' b m p c d := h.kept k h.ltb h.map.lt h.plt
theorem cells (h : DkAt w b m p c d) : w.cell? ⟨b, 0, none⟩ = some (.slice p d.N c) ∧ w.cell? ⟨b, 1, none⟩ = some (.map (some m)) ∧ w.cell? ⟨b, 2, none⟩ = some (.int .i64 d.r) ∧ w.cell? ⟨b, 3, none⟩ = some (.int .i64 d.f) ∧
    w.frozen? ⟨b, 2, none⟩ = false ∧ w.frozen? ⟨b, 3, none⟩ = false := by
  have := h.blk
  simp [World.cell?, World.frozen?, this]
end DkAt

/-- Nobody's disk: nil, or one that New did not give. -/
def NoDk (w : World) (v : Value) : Prop := v = .pointer none ∨ ∃ b, v = .pointer (some ⟨b, 0, none⟩) ∧ b < w.heap.size ∧ w.cell? ⟨b, 1, none⟩ = some (.map none)

theorem run_map_nil (b : Option Nat) (w : World) : (binOp .neq 63 (.map b) (.map none)).run Try.prog w = .ok (.bool b.isSome) w := by
  cases b <;> kernel_rfl
theorem isMade_no (v : Value) (w : World) (h : NoDk w v) : Calls Try.prog 27 #[v] w fun e w' => e = .returned (.bool false) ∧ w = w' := by
  rcases h with rfl | ⟨b, rfl, hb, hc⟩
  · go_enter Try.func27, Try.ntmps27
    go_wp2
    go_ret
    exact ⟨rfl, rfl⟩
  · have hr := run_map_nil none w
    go_enter Try.func27, Try.ntmps27
    go_wp2
    go_ret
    exact ⟨rfl, rfl⟩
theorem isMade_yes (b m : Nat) (w : World) (hc : w.cell? ⟨b, 1, none⟩ = some (.map (some m))) : Calls Try.prog 27 #[.pointer (some ⟨b, 0, none⟩)] w fun e w' => e = .returned (.bool true) ∧ w = w' := by
  have hr := run_map_nil (some m) w
  go_enter Try.func27, Try.ntmps27
  go_wp2
  go_ret
  exact ⟨rfl, rfl⟩
end Go.Proofs.Ytooamkicmmgniaa
