/- Rows of integers that grow by rows: what append wants, what is read of them. No program. -/
import Derived.Test.YtlaoamlmpdbmmaaRowA
import Derived.Test.YtlaoamlmpdbmmaaRowsB
import Derived.Test.YtlaoamlmpdbmmaaCellsV
import Derived.Great.BuildSlice
namespace Go.Proofs.Ytlaoamlmpdbmmaa
set_option linter.unusedVariables false
set_option maxRecDepth 100000
open Go.RowKit Go.ChangeShapes Go.WideShapes

theorem rowL_app (s k : Nat) (Y Z y : Nat → Int) (h1 : ∀ q, q < k * s → Z q = Y q) (h2 : ∀ j, j < s → Z (k * s + j) = y j) : rowL (k * s) Y ++ rowL s y = rowL ((k + 1) * s) Z := by
  unfold rowL
  rw [show (k + 1) * s = k * s + s by rw [Nat.add_mul, Nat.one_mul], List.range_add, List.map_append, List.map_map]
  congr 1
  · exact List.map_congr_left fun q hq => by unfold blk; rw [h1 q (List.mem_range.1 hq)]
  · exact List.map_congr_left fun j hj => by
      show blk y j = blk Z (k * s + j)
      unfold blk
      rw [h2 j (List.mem_range.1 hj)]
theorem slF_less {s n m : Nat} {w : World} {p : Option Addr} {F : Nat → Int} (h : SlF s w p n F) (hm : m ≤ n) : SlF s w p m F := fun h0 => by
  obtain ⟨g, o, e1, e2, e3⟩ := h (by omega)
  exact ⟨g, o, e1, e2, fun j hj => e3 j (Nat.lt_of_lt_of_le hj (Nat.mul_le_mul_left s hm))⟩
theorem ownS_slF {X : Nat → Prop} {w : World} {e : TypeId} {s n : Nat} {v : Value} {F : Nat → Int} (h : ownS X w e s v n (rowL (n * s) F)) : ∃ q c, v = .slice q n c ∧ SlF s w q n F ∧ (n = 0 → q = none → c = 0) := by
  rcases h.shape with ⟨h1, h2⟩ | ⟨g, c, h1, _, hg, hn, hc, hcell⟩
  · exact ⟨none, 0, by rw [h1, h2], fun h => by omega, fun _ _ => rfl⟩
  · refine ⟨some ⟨g, 0, none⟩, c, h1, fun h0 => ⟨g, 0, rfl, hg, fun j hj => ?_⟩, fun _ h => by cases h⟩
    rw [Nat.zero_add]
    exact hcell j _ (rowL_at _ F j (by rw [Nat.mul_comm]; exact hj))
/-- What a new block holds, as append wants it. -/
theorem news_row (A : World) (m : Nat) (c : Nat → Value) (t : TypeId) : ∀ (j : Nat) (u : Value), ((rowN m c).toList)[j]? = some u → (A.alloc (.cells (rowN m c) t)).cell? ((⟨A.heap.size, 0, none⟩ : Addr).add j) = some u := fun j u hu => by
  obtain ⟨hj, rfl⟩ := rowN_list_at hu
  rw [add_plain, Nat.zero_add]
  exact (cellsV_of (heap_alloc_new A _)).cell j hj
theorem one_row {m : Nat} {c : Nat → Value} (h : (rowN m c).all (·.oneCell') = true) : ∀ u ∈ (rowN m c).toList, u.oneCell' = true := fun u hu => by
  rw [Array.all_eq_true_iff_forall_mem] at h
  exact h u (by simpa using hu)
/-- A row's own block holds elements of its type. -/
theorem own_not {X : Nat → Prop} {w : World} {e t : TypeId} {s n b : Nat} {v : Value} {xs : List Value} {cs : Array Value} {fr : Nat × Nat} (h : ownS X w e s v n xs) (hb : w.heap[b]? = some (.cells cs t fr)) (hne : e ≠ t) : ∀ k, v.ownBlock = some k → k ≠ b := by
  intro k hk e1
  subst e1
  rcases h.1.2 with ⟨rfl, _⟩ | ⟨g, cap, cur, rfl, _, hg, _⟩
  · cases hk
  · have e2 : g = k := by simpa [Value.ownBlock] using hk
    subst e2
    rw [hg] at hb
    simp only [Option.some.injEq, Obj.cells.injEq] at hb
    exact hne hb.2.1
theorem own_notX {X : Nat → Prop} {w : World} {e t : TypeId} {n b : Nat} {v : Value} {xs : List Value} {cs : Array Value} {fr : Nat × Nat} (h : ownX X w e v n xs) (hb : w.heap[b]? = some (.cells cs t fr)) (hne : e ≠ t) : ∀ k, v.ownBlock = some k → k ≠ b := by
  intro k hk e1
  subst e1
  rcases h.1.2 with ⟨rfl, _⟩ | ⟨g, cap, cur, rfl, _, hg, _⟩
  · cases hk
  · have e2 : g = k := by simpa [Value.ownBlock] using hk
    subst e2
    rw [hg] at hb
    simp only [Option.some.injEq, Obj.cells.injEq] at hb
    exact hne hb.2.1
/-- make([]T, 0, n): a row of the call's own that holds nothing yet. -/
theorem own_madeS (w : World) (t : TypeId) (s n : Nat) (hn : n ≤ 1099511627776) (cs : Array Value) (hc : cs.size = n * s) : ownS (fun q => q < w.heap.size) (w.alloc (.cells cs t)) t s (.slice (some ⟨w.heap.size, 0, none⟩) 0 n) 0 [] := by
  refine ⟨⟨by simp, .inr ⟨w.heap.size, n, cs, rfl, Nat.zero_le _, heap_alloc_new _ _, Nat.zero_le _, by unfold maxLen; omega, hc, by simp⟩⟩, fun k hk => ?_⟩
  have : k = w.heap.size := by simpa [Value.ownBlock, eq_comm] using hk
  omega
end Go.Proofs.Ytlaoamlmpdbmmaa
