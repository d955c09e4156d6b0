/- Texts joined: SamR. -/
import Derived.Great.BuildSlice
import Derived.Test.YtlcbmgbnhjgelaaGreatPkAP
import Derived.Test.YtlcbmgbnhjgelaaGreatPkAR
/- Three rows that grow beside each other: frames, their spectra, their gains. -/
namespace Go.Proofs.YtlcbmgbnhjgelaaGreat
set_option linter.unusedVariables false
set_option maxRecDepth 100000
open Go.RowKit Go.ChangeShapes Go.WideShapes

theorem ownS_ne {X Y : Nat → Prop} {w : World} {e e' : TypeId} {s s' : Nat} {v v' : Value} {n n' : Nat} {xs xs' : List Value} (h : ownS X w e s v n xs) (h' : ownS Y w e' s' v' n' xs') (hne : e ≠ e') : ∀ k, v.ownBlock = some k → v'.ownBlock ≠ some k := by
  intro k hk hk'
  rcases h.1.2 with ⟨rfl, _⟩ | ⟨g, cap, cur, rfl, _, hg, _⟩
  · cases hk
  · rcases h'.1.2 with ⟨rfl, _⟩ | ⟨g', cap', cur', rfl, _, hg', _⟩
    · cases hk'
    · have e1 : g = k := by simpa [Value.ownBlock] using hk
      have e2 : g' = k := by simpa [Value.ownBlock] using hk'
      subst e1
      subst e2
      rw [hg] at hg'
      simp only [Option.some.injEq, Obj.cells.injEq] at hg'
      exact hne hg'.2.1
/-- All blocks of A but the row's own. -/
def but (A : World) (v : Value) : Nat → Prop := fun q => q < A.heap.size ∧ v.ownBlock ≠ some q
theorem ls_own {w wr A w3 : World} {e : TypeId} {s : Nat} {v v' : Value} {n n' : Nat} {xs xs' : List Value} (h : ownS (fun q => q < w.heap.size) wr e s v n xs) (ow : Old w wr) (o : Old wr A) (hown : ownS (but A v) w3 e s v' n' xs') (hv : ∀ q, v'.ownBlock = some q → v.ownBlock = some q ∨ A.heap.size ≤ q) : ownS (fun q => q < w.heap.size) w3 e s v' n' xs' :=
  hown.mono fun q hq hlt => by
    rcases hv q hq with h1 | h1
    · exact h.2 q h1 hlt
    · have := ow.size; have := o.size; omega
theorem ls_old {w wr A w3 : World} {e : TypeId} {s : Nat} {v : Value} {n : Nat} {xs : List Value} (h : ownS (fun q => q < w.heap.size) wr e s v n xs) (ow : Old w wr) (o : Old wr A) (hk : Kept (but A v) A w3) : Old w w3 :=
  (ow.trans o).after hk fun q hq => ⟨Nat.lt_of_lt_of_le hq (ow.trans o).size, fun e => h.2 q e hq⟩
theorem ls_other {w wr A w3 : World} {e e' : TypeId} {s s' : Nat} {v u : Value} {n m : Nat} {xs ys : List Value} (h : ownS (fun q => q < w.heap.size) wr e s v n xs) (k : ownS (fun q => q < w.heap.size) wr e' s' u m ys) (hne : e ≠ e') (o : Old wr A) (hk : Kept (but A v) A w3) : ownS (fun q => q < w.heap.size) w3 e' s' u m ys :=
  (k.old o).kept hk fun q hq => ⟨Nat.lt_of_lt_of_le (k.lt q hq) o.size, fun e => ownS_ne h k hne q e hq⟩
structure LsR (w : World) (vf vs vg : Value) (a b c : Nat) (fl sl gl : List Value) (wr : World) : Prop where
  f : ownS (fun q => q < w.heap.size) wr 55 29 vf a fl
  s : ownS (fun q => q < w.heap.size) wr 53 16 vs b sl
  g : ownS (fun q => q < w.heap.size) wr 50 4 vg c gl
  old : Old w wr
namespace LsR
variable {w wr A w3 : World} {vf vs vg v' : Value} {a b c a' : Nat} {fl sl gl fl' : List Value}
theorem keep (h : LsR w vf vs vg a b c fl sl gl wr) (k : Old wr w3) : LsR w vf vs vg a b c fl sl gl w3 := ⟨h.f.old k, h.s.old k, h.g.old k, h.old.trans k⟩
theorem addF (h : LsR w vf vs vg a b c fl sl gl wr) (o : Old wr A) (hown : ownS (but A vf) w3 55 29 v' a' fl') (hk : Kept (but A vf) A w3) (hv : ∀ q, v'.ownBlock = some q → vf.ownBlock = some q ∨ A.heap.size ≤ q) : LsR w v' vs vg a' b c fl' sl gl w3 :=
  ⟨ls_own h.f h.old o hown hv, ls_other h.f h.s (by decide) o hk, ls_other h.f h.g (by decide) o hk, ls_old h.f h.old o hk⟩
theorem addS (h : LsR w vf vs vg a b c fl sl gl wr) (o : Old wr A) (hown : ownS (but A vs) w3 53 16 v' a' fl') (hk : Kept (but A vs) A w3) (hv : ∀ q, v'.ownBlock = some q → vs.ownBlock = some q ∨ A.heap.size ≤ q) : LsR w vf v' vg a a' c fl fl' gl w3 :=
  ⟨ls_other h.s h.f (by decide) o hk, ls_own h.s h.old o hown hv, ls_other h.s h.g (by decide) o hk, ls_old h.s h.old o hk⟩
theorem addG (h : LsR w vf vs vg a b c fl sl gl wr) (o : Old wr A) (hown : ownS (but A vg) w3 50 4 v' a' fl') (hk : Kept (but A vg) A w3) (hv : ∀ q, v'.ownBlock = some q → vg.ownBlock = some q ∨ A.heap.size ≤ q) : LsR w vf vs v' a b a' fl sl fl' w3 :=
  ⟨ls_other h.g h.f (by decide) o hk, ls_other h.g h.s (by decide) o hk, ls_own h.g h.old o hown hv, ls_old h.g h.old o hk⟩
end LsR
/-- A box that is newer than the row that grows. -/
theorem box_stays {w wr A w3 : World} {e : TypeId} {s n nb : Nat} {v : Value} {xs : List Value} (h : ownS (fun q => q < w.heap.size) wr e s v n xs) (hn : wr.heap.size ≤ nb) {o : Obj} (hb : A.heap[nb]? = some o) (hk : Kept (but A v) A w3) : w3.heap[nb]? = some o := by
  rw [hk.block nb ⟨(Array.getElem?_eq_some_iff.1 hb).1, fun e => by have := h.lt nb e; omega⟩]
  exact hb
/-- The three rows' contents. -/
def frL (k : Nat) (L : Nat → Fr) : List Value := (List.range (k * 29)).map (frsC L)
def smA (L : Nat → Fr) : Nat → Int := fun q => specF (L (q / 16)).F (L (q / 16)).n (L (q / 16)).T (q % 16)
def gfA (L : Nat → Fr) : Nat → Int := fun q => (L (q / 4)).F (q % 4)
theorem frL_step (k : Nat) (L : Nat → Fr) (x : Fr) : frL k L ++ (rowN 29 (frC x.F x.s)).toList = frL (k + 1) (updF L k x) := by
  unfold frL
  rw [rowN_list, show (k + 1) * 29 = k * 29 + 29 by omega, List.range_add, List.map_append, List.map_map]
  congr 1
  · exact List.map_congr_left fun q hq => by
      have := List.mem_range.1 hq
      unfold frsC
      rw [updF_other _ _ _ (by omega)]
  · exact List.map_congr_left fun j hj => by
      show frC x.F x.s j = frsC (updF L k x) (k * 29 + j)
      rw [frsC_at _ _ _ (List.mem_range.1 hj), updF_same]
theorem rowL_app (s k : Nat) (Y Z y : Nat → Int) (h1 : ∀ q, q < k * s → Z q = Y q) (h2 : ∀ j, j < s → Z (k * s + j) = y j) : rowL (k * s) Y ++ rowL s y = rowL ((k + 1) * s) Z := by
  unfold rowL
  rw [show (k + 1) * s = k * s + s by rw [Nat.add_mul, Nat.one_mul], List.range_add, List.map_append, List.map_map]
  congr 1
  · exact List.map_congr_left fun q hq => by unfold blk; rw [h1 q (List.mem_range.1 hq)]
  · exact List.map_congr_left fun j hj => by
      show blk y j = blk Z (k * s + j)
      unfold blk
      rw [h2 j (List.mem_range.1 hj)]
theorem smA_step (k : Nat) (L : Nat → Fr) (x : Fr) : rowL (k * 16) (smA L) ++ rowL 16 (specF x.F x.n x.T) = rowL ((k + 1) * 16) (smA (updF L k x)) :=
  rowL_app 16 k _ _ _ (fun q hq => by unfold smA; rw [updF_other _ _ _ (by omega)]) (fun j hj => by unfold smA; rw [show (k * 16 + j) / 16 = k by omega, show (k * 16 + j) % 16 = j by omega, updF_same])
theorem gfA_step (k : Nat) (L : Nat → Fr) (x : Fr) : rowL (k * 4) (gfA L) ++ rowL 4 x.F = rowL ((k + 1) * 4) (gfA (updF L k x)) :=
  rowL_app 4 k _ _ _ (fun q hq => by unfold gfA; rw [updF_other _ _ _ (by omega)]) (fun j hj => by unfold gfA; rw [show (k * 4 + j) / 4 = k by omega, show (k * 4 + j) % 4 = j by omega, updF_same])
theorem slF_less {s n m : Nat} {w : World} {p : Option Addr} {F : Nat → Int} (h : SlF s w p n F) (hm : m ≤ n) : SlF s w p m F := fun h0 => by
  obtain ⟨g, o, e1, e2, e3⟩ := h (by omega)
  exact ⟨g, o, e1, e2, fun j hj => e3 j (Nat.lt_of_lt_of_le hj (Nat.mul_le_mul_left s hm))⟩
theorem ownS_slF {X : Nat → Prop} {w : World} {e : TypeId} {s n : Nat} {v : Value} {F : Nat → Int} (h : ownS X w e s v n (rowL (n * s) F)) : ∃ q c, v = .slice q n c ∧ SlF s w q n F ∧ (n = 0 → q = none → c = 0) := by
  rcases h.1.2 with ⟨h1, h2⟩ | ⟨g, c, _, h1, _⟩
  · exact ⟨none, 0, by rw [h1, h2], fun h => by omega, fun _ _ => rfl⟩
  · refine ⟨some ⟨g, 0, none⟩, c, h1, fun h0 => ?_, fun _ h => by cases h⟩
    obtain ⟨g', c', e1, _, e3⟩ := h.cells h0
    rw [h1] at e1
    simp only [Value.slice.injEq, Option.some.injEq, Addr.mk.injEq] at e1
    obtain ⟨⟨rfl, _⟩, _⟩ := e1
    exact ⟨g, 0, rfl, e3.lt, fun j hj => by rw [Nat.zero_add]; exact e3.cell j hj⟩
theorem ownS_frs {X : Nat → Prop} {w : World} {e : TypeId} {n : Nat} {v : Value} {L : Nat → Fr} (h : ownS X w e 29 v n (frL n L)) (ht : ∀ i, i < n → ToV (fun _ => False) w (L i)) : ∃ q c, v = .slice q n c ∧ FrsS (fun _ => False) w q n L := by
  rcases h.shape with ⟨h1, h2⟩ | ⟨g, c, h1, _, hg, hn, hc, hcell⟩
  · subst h2; exact ⟨none, 0, h1, FrsS.none _ _ _ _⟩
  · refine ⟨some ⟨g, 0, none⟩, c, h1, fun _ => ⟨g, 0, rfl, hg, fun j hj => ?_⟩, ht⟩
    rw [Nat.zero_add]
    exact hcell j _ (by unfold frL; rw [List.getElem?_map, List.getElem?_range (by omega)]; rfl)
theorem fr_fold (F : Nat → Int) (s : Value) : Array.foldl (fun (cs : Array Value) (x : Value × Nat) => cs.setIfInBounds x.snd x.fst) #[.int .i64 0, .int .i64 0, .int .i64 0, .int .i64 0, .slice none 0 0, .int .i64 0, .int .i64 0, .int .i64 0, .int .i64 0, .int .i64 0, .int .i64 0, .int .i64 0, .int .i64 0, .int .i64 0, .int .i64 0, .int .i64 0, .int .i64 0, .int .i64 0, .int .i64 0, .int .i64 0, .int .i64 0, .int .i64 0, .int .i64 0, .int .i64 0, .int .i64 0, .int .i64 0, .int .i64 0, .int .i64 0, .int .i64 0] (rowN 29 (frC F s)).zipIdx 0 29 = rowN 29 (frC F s) := by kernel_rfl
theorem fr_build (F : Nat → Int) (s : Value) (w : World) : (Instr.buildSlice 35 1 #[(0, .agg (rowN 29 (frC F s)))]).run Tryz.prog w = .ok (.slice (some ⟨w.heap.size, 0, none⟩) 1 1) (w.alloc (.cells (rowN 29 (frC F s)) 55)) := by
  obtain ⟨i0, hi, hz0, hz1, hz2⟩ := info_parts Tryz.info_frame
  exact run_buildSlice w 35 55 1 _ (rowN 29 (frC F s)) i0 _ Tryz.underlying35 hi hz0 (by rw [hz1]; decide) (by rw [hz1]; decide) (by rw [hz1]; kernel_rfl)
theorem bl_fold (y : Nat → Int) : Array.foldl (fun (cs : Array Value) (x : Value × Nat) => cs.setIfInBounds x.snd x.fst) #[.int .i64 0, .int .i64 0, .int .i64 0, .int .i64 0, .int .i64 0, .int .i64 0, .int .i64 0, .int .i64 0, .int .i64 0, .int .i64 0, .int .i64 0, .int .i64 0, .int .i64 0, .int .i64 0, .int .i64 0, .int .i64 0] (rowN 16 (blk y)).zipIdx 0 16 = rowN 16 (blk y) := by kernel_rfl
theorem bl_build (y : Nat → Int) (w : World) : (Instr.buildSlice 38 1 #[(0, .agg (rowN 16 (blk y)))]).run Tryz.prog w = .ok (.slice (some ⟨w.heap.size, 0, none⟩) 1 1) (w.alloc (.cells (rowN 16 (blk y)) 53)) := by
  obtain ⟨i0, hi, hz0, hz1, hz2⟩ := info_parts Tryz.info_block
  exact run_buildSlice w 38 53 1 _ (rowN 16 (blk y)) i0 _ Tryz.underlying38 hi hz0 (by rw [hz1]; decide) (by rw [hz1]; decide) (by rw [hz1]; kernel_rfl)
theorem gn_fold (y : Nat → Int) : Array.foldl (fun (cs : Array Value) (x : Value × Nat) => cs.setIfInBounds x.snd x.fst) #[.int .i64 0, .int .i64 0, .int .i64 0, .int .i64 0] (rowN 4 (blk y)).zipIdx 0 4 = rowN 4 (blk y) := by kernel_rfl
theorem gn_build (y : Nat → Int) (w : World) : (Instr.buildSlice 32 1 #[(0, .agg (rowN 4 (blk y)))]).run Tryz.prog w = .ok (.slice (some ⟨w.heap.size, 0, none⟩) 1 1) (w.alloc (.cells (rowN 4 (blk y)) 50)) := by
  obtain ⟨i0, hi, hz0, hz1, hz2⟩ := info_parts Tryz.info_gains
  exact run_buildSlice w 32 50 1 _ (rowN 4 (blk y)) i0 _ Tryz.underlying32 hi hz0 (by rw [hz1]; decide) (by rw [hz1]; decide) (by rw [hz1]; kernel_rfl)
/-- What a new block holds, as append wants it. -/
theorem news_row (A : World) (m : Nat) (c : Nat → Value) (t : TypeId) : ∀ (j : Nat) (u : Value), ((rowN m c).toList)[j]? = some u → (A.alloc (.cells (rowN m c) t)).cell? ((⟨A.heap.size, 0, none⟩ : Addr).add j) = some u := fun j u hu => by
  obtain ⟨hj, rfl⟩ := rowN_list_at hu
  rw [add_plain, Nat.zero_add]
  exact (cellsV_of (heap_alloc_new A _)).cell j hj
theorem one_row {m : Nat} {c : Nat → Value} (h : (rowN m c).all (·.oneCell') = true) : ∀ u ∈ (rowN m c).toList, u.oneCell' = true := fun u hu => by
  rw [Array.all_eq_true_iff_forall_mem] at h
  exact h u (by simpa using hu)
end Go.Proofs.YtlcbmgbnhjgelaaGreat

