/- The script of a law, opened. -/
import Derived.Test.YtooamkicmmgniaaAwake
namespace Go.Proofs.Ytooamkicmmgniaa
set_option linter.unusedVariables false
set_option maxRecDepth 100000
open Go.ChangeShapes Go.WideShapes Go.ChangeAt Go.RowKit

/-- The script, to be read. -/
def SlOps (w : World) (p : Option Addr) (n : Nat) (K G N Z : Nat → Int) : Prop := 0 < n → ∃ b o, p = some ⟨b, o, none⟩ ∧ b < w.heap.size ∧ ∀ i, i < n → w.cell? ⟨b, o + i * 4, none⟩ = some (.int .i64 (K i)) ∧ w.cell? ⟨b, o + i * 4 + 1, none⟩ = some (.int .i64 (G i)) ∧ w.cell? ⟨b, o + i * 4 + 2, none⟩ = some (.int .i64 (N i)) ∧ w.cell? ⟨b, o + i * 4 + 3, none⟩ = some (.int .u8 (Z i))
theorem SlOps.old {w w' : World} {p : Option Addr} {n : Nat} {K G N Z : Nat → Int} (h : SlOps w p n K G N Z) (k : Old w w') : SlOps w' p n K G N Z := fun hn => by
  obtain ⟨b, o, h1, h2, h3⟩ := h hn
  refine ⟨b, o, h1, Nat.lt_of_lt_of_le h2 k.size, fun i hi => ?_⟩
  obtain ⟨a0, a1, a2, a3⟩ := h3 i hi
  exact ⟨(k.cell (a := ⟨b, o + i * 4, none⟩) h2).trans a0, (k.cell (a := ⟨b, o + i * 4 + 1, none⟩) h2).trans a1, (k.cell (a := ⟨b, o + i * 4 + 2, none⟩) h2).trans a2, (k.cell (a := ⟨b, o + i * 4 + 3, none⟩) h2).trans a3⟩
theorem open_ops {H : Type} {enc : TypeId × Value → H} {W : World} {base : Nat} {v : Value} {d : DataW H} {p : List MemPlace} (hv : Value.okWide Try.prog W .any base 23 v)
    (h : DataW.Trod enc Try.prog W 0 (fun _ => true) true 23 v d p) (hlt : ∀ x ∈ p, x.block < W.heap.size) :
    ∃ q n cap K G N Z, v = .slice q n cap ∧ SlOps W q n K G N Z ∧ (∀ i, i < n → (-9223372036854775808 ≤ N i ∧ N i ≤ 9223372036854775807) ∧ (-9223372036854775808 ≤ G i ∧ G i ≤ 9223372036854775807) ∧ 0 ≤ Z i ∧ Z i ≤ 255) ∧ n ≤ 9223372036854775807 := by
  obtain ⟨q, n, cap, rfl, hnc, hcm, hc⟩ := open_structs Try.underlying23 Try.underlying42 (by kernel_rfl) (by kernel_rfl) (by decide) hv h hlt
  unfold maxLen at hcm
  rcases Nat.eq_zero_or_pos n with hn | hn
  · subst hn
    exact ⟨q, 0, cap, fun _ => 0, fun _ => 0, fun _ => 0, fun _ => 0, rfl, fun h => absurd h (by omega), fun i hi => absurd hi (by omega), by omega⟩
  · obtain ⟨b, off, rfl, hb, hcell⟩ := hc hn
    have each : ∀ i, ∃ x : Int × Int × Int × Int, i < n → (W.cell? ⟨b, off + i * 4, none⟩ = some (.int .i64 x.1) ∧ W.cell? ⟨b, off + i * 4 + 1, none⟩ = some (.int .i64 x.2.1) ∧ W.cell? ⟨b, off + i * 4 + 2, none⟩ = some (.int .i64 x.2.2.1) ∧ W.cell? ⟨b, off + i * 4 + 3, none⟩ = some (.int .u8 x.2.2.2)) ∧ (-9223372036854775808 ≤ x.2.2.1 ∧ x.2.2.1 ≤ 9223372036854775807) ∧ (-9223372036854775808 ≤ x.2.1 ∧ x.2.1 ≤ 9223372036854775807) ∧ 0 ≤ x.2.2.2 ∧ x.2.2.2 ≤ 255 := by
      intro i
      by_cases hi : i < n
      · obtain ⟨u0, y0, k0, c0, _, t0⟩ := hcell i hi 0 _ rfl
        obtain ⟨u1, y1, k1, c1, _, t1⟩ := hcell i hi 1 _ rfl
        obtain ⟨u2, y2, k2, c2, _, t2⟩ := hcell i hi 2 _ rfl
        obtain ⟨u3, y3, k3, c3, _, t3⟩ := hcell i hi 3 _ rfl
        obtain ⟨x0, e0, _, w0⟩ := DataW.trod_int Try.underlying3 t0
        obtain ⟨x1, e1, _, w1⟩ := DataW.trod_int Try.underlying3 t1
        obtain ⟨x2, e2, _, w2⟩ := DataW.trod_int Try.underlying3 t2
        obtain ⟨x3, e3, _, w3⟩ := DataW.trod_int Try.underlying5 t3
        simp only [List.cons.injEq, and_true] at e0 e1 e2 e3
        subst e0 e1 e2 e3
        exact ⟨(x0, x1, x2, x3), fun _ => ⟨⟨c0, c1, c2, c3⟩, i64_of w2, i64_of w1, bytes_of (xs := [x3]) (fun y hy => by rw [List.mem_singleton.1 hy]; exact w3) x3 (by simp)⟩⟩
      · exact ⟨(0, 0, 0, 0), fun h => absurd h hi⟩
    obtain ⟨X, hX⟩ := Classical.axiomOfChoice each
    exact ⟨some ⟨b, off, none⟩, n, cap, fun i => (X i).1, fun i => (X i).2.1, fun i => (X i).2.2.1, fun i => (X i).2.2.2, rfl, fun _ => ⟨b, off, rfl, hb, fun i hi => (hX i hi).1⟩, fun i hi => (hX i hi).2, by omega⟩
end Go.Proofs.Ytooamkicmmgniaa
