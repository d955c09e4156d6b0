/- Package lap: gainsOf, and the copy of a list of blocks. (wip/lib/XLapF.src, by wip/tools/exp.py) -/
import Derived.Test.YtpdjdejlhjcicaaLapB
import Derived.Test.YtpdjdejlhjcicaaGainU
namespace Go.Proofs.Ytpdjdejlhjcicaa
set_option linter.unusedVariables false
open Go.RowKit Go.ChangeShapes Go.WideShapes

/-- The gains of block i, of ng. -/
def gainsAt (G : Nat → Int) (ng i : Nat) : Nat → Int := if i < ng then (fun k => G (i * 4 + k)) else fun _ => 0
set_option maxRecDepth 100000 in
theorem gainsOf_any (p : Option Addr) (ng cap i : Nat) (G : Nat → Int) (w : World) (hs : SlF 4 w p ng G) (hi : i ≤ 17179869184) :
    Calls Try.prog 33 #[.slice p ng cap, .int .i64 i] w fun e w' => e = .returned (.agg (rowN 4 (blk (gainsAt G ng i)))) ∧ Old w w' := by
  have Hs4 : Hid ((Try.prog.info? 36).map (·.size) = some 4) := Lib.hid (by kernel_rfl)
  have i0 : (0 : Int) ≤ i := by omega
  by_cases h : i < ng
  · obtain ⟨g, o, rfl, hg, hc⟩ := hs (by omega)
    have e : gainsAt G ng i = fun k => G (i * 4 + k) := by unfold gainsAt; rw [if_pos h]
    rw [e]
    have HC : Hid (∀ j, j < 4 → (w.alloc (.cells #[.int .i64 0, .int .i64 0, .int .i64 0, .int .i64 0] 36)).cell? ⟨g, o + i * 4 + j, none⟩ = some (.int .i64 (G (i * 4 + j)))) := fun j hj => by
      rw [Nat.add_assoc, (Old.alloc w _).cell (a := ⟨g, o + (i * 4 + j), none⟩) hg]
      exact hc (i * 4 + j) (by omega)
    have h' : (i : Int) < ng := by omega
    have H1 := Lib.hid (blk_one (fun k => G (i * 4 + k)) 4)
    clear hs hc e hg
    go_enter Try.func33, Try.ntmps33
    go_wp2_with (first | (with_reducible refine wpList_load_blk rfl 4 (fun k => G (i * 4 + k)) 36 _ rfl g (o + i * 4) rfl _ HC.out Try.underlying36 rfl Hs4.out ?_) | (with_reducible refine wpList_store_row rfl 36 _ _ rfl w.heap.size (rowN 4 (blk fun k => G (i * 4 + k))) rfl rfl 36 _ (heap_alloc_new _ _) (by rw [rowN_size]; exact Hs4.out) (by rw [rowN_size]; kernel_rfl) H1.out ?_; rw [World.setRow_alloc_new]))
    exact bodyPost_ret (results_cell_row rfl _ _ w.heap.size 36 _ (0, 0) _ rfl (heap_alloc_new _ _) Try.underlying36 rfl (by rw [rowN_size]; exact Hs4.out)) rfl ⟨rfl, Old.alloc _ _⟩
  · have e : rowN 4 (blk (gainsAt G ng i)) = rowN 4 (blk fun _ => 0) := by unfold gainsAt; rw [if_neg h]
    have h' : (ng : Int) ≤ i := by omega
    rw [e, show rowN 4 (blk fun _ => 0) = #[.int .i64 0, .int .i64 0, .int .i64 0, .int .i64 0] from rfl]
    clear hs e
    go_enter Try.func33, Try.ntmps33
    go_wp2_with (with_reducible refine wpList_store_row rfl 36 _ _ rfl w.heap.size #[.int .i64 0, .int .i64 0, .int .i64 0, .int .i64 0] rfl rfl 36 _ (heap_alloc_new _ _) Hs4.out (by kernel_rfl) (by kernel_rfl) ?_; rw [World.setRow_alloc_new])
    exact bodyPost_ret (results_cell_row rfl _ _ w.heap.size 36 _ (0, 0) _ rfl (heap_alloc_new _ _) Try.underlying36 rfl Hs4.out) rfl ⟨rfl, Old.alloc _ _⟩
/-- A row of the call's own, of elements of s cells, that holds these numbers. -/
theorem ownS.cells {X : Nat → Prop} {w : World} {e : TypeId} {s n : Nat} {v : Value} {F : Nat → Int} (h : ownS X w e s v n (rowL (n * s) F)) (h0 : 0 < n) : ∃ g cap, v = .slice (some ⟨g, 0, none⟩) n cap ∧ ¬ X g ∧ CellsAt w g (s * n) F := by
  rcases h.1.2 with ⟨_, h1⟩ | ⟨g, cap, cur, rfl, hb, hg, hn, hc, hs, ht⟩
  · omega
  · refine ⟨g, cap, rfl, h.2 g rfl, lt_of_block hg, fun j hj => ?_, fun j hj => frozen_of_row _ _ _ _ _ hg⟩
    rw [cell_of_row _ _ _ _ _ _ hg]
    have h1 := rowL_at (n * s) F j (by rw [Nat.mul_comm]; exact hj)
    rw [← ht, List.getElem?_take] at h1
    rw [if_pos (by rw [Nat.mul_comm n s]; exact hj)] at h1
    simpa using h1
theorem own_emptyS (w : World) (t : TypeId) (s : Nat) : ownS (fun q => q < w.heap.size) (w.alloc (.cells #[] t)) t s (.slice (some ⟨w.heap.size, 0, none⟩) 0 0) 0 [] := by
  refine ⟨⟨by simp, .inr ⟨w.heap.size, 0, #[], rfl, Nat.zero_le _, heap_alloc_new _ _, Nat.le_refl _, Nat.zero_le _, by simp, by simp⟩⟩, fun k hk => ?_⟩
  have : k = w.heap.size := by simpa [Value.ownBlock, eq_comm] using hk
  omega
set_option maxRecDepth 100000 in
set_option maxHeartbeats 1000000 in
theorem CloneB_any (p : Option Addr) (n cap : Nat) (F : Nat → Int) (w : World) (hs : SlF 16 w p n F) (hn : n ≤ 17179869184) (hp : n = 0 → p = none → cap = 0) :
    Calls Try.prog 36 #[.slice p n cap] w fun e w' => ∃ q c, e = .returned (.slice q n c) ∧ OwnR 16 (fun q => q < w.heap.size) w' q n F ∧ Old w w' := by
  obtain ⟨i0, hi, hz0, hz1, hz2⟩ := info_parts Try.info_block
  cases p with
  | none =>
    have h0 : n = 0 := by
      rcases Nat.eq_zero_or_pos n with h | h
      · exact h
      · obtain ⟨b, off, hp, _⟩ := hs h
        cases hp
    subst h0
    have hE := eql_sl_nil 24 28 none 0 cap Try.underlying24
    clear hs hp
    go_enter Try.func36, Try.ntmps36
    go_wp2
    go_ret
    exact ⟨_, _, rfl, fun h => absurd h (by omega), Old.refl w⟩
  | some a =>
    have HN : Hid (∀ j u, (rowL (n * 16) F)[j]? = some u → (w.alloc (.cells #[] 28)).cell? (a.add j) = some u) := by
      intro j u hj
      obtain ⟨hj, rfl⟩ := rowL_get hj
      obtain ⟨b, off, hp, hb, hcell⟩ := hs (by omega)
      obtain rfl : a = ⟨b, off, none⟩ := by simpa using hp
      rw [add_plain, (Old.alloc w (.cells #[] 28)).cell (a := ⟨b, off + j, none⟩) hb]
      exact hcell j (by omega)
    have HO : Hid (Old w (w.alloc (.cells #[] 28))) := Old.alloc _ _
    have HM : Hid ((rowL (n * 16) F).length = n * 16) := rowL_len _ _
    have H1 := Lib.hid (rowL_one (n * 16) F)
    clear hs hp
    have hE := eql_sl_nil 24 28 (some a) n cap Try.underlying24
    go_enter Try.func36, Try.ntmps36
    go_wp2_with (at_builtin; refine append_S _ rfl _ _ 24 rfl (fun q => q < w.heap.size) 28 i0 _ 16 128 Try.underlying24 hi hz0 hz1 hz2 rfl (by omega) _ _ _ rfl (own_emptyS w 28 16) a n cap (rowL (n * 16) F) rfl HM.out HN.out H1.out (by unfold maxLen; omega) (by omega) (fun q hq => Nat.lt_of_lt_of_le hq HO.out.size) ?_; intro v' w2 hown2 hk2 _; have HR2 := Lib.hid (show ownS (fun q => q < w.heap.size) w2 28 16 v' n (rowL (n * 16) F) from (by have := hown2; rw [Nat.zero_add, List.nil_append] at this; exact this)); have HO2 := Lib.hid (HO.out.after hk2 (fun _ h => h)); clear hown2 hk2 HO HN HM H1)
    obtain ⟨q, c, hv⟩ : ∃ q c, v' = .slice q n c := by
      rcases HR2.out.1.2 with ⟨rfl, h0⟩ | ⟨g, c, _, rfl, _⟩
      · exact ⟨none, 0, by rw [h0]⟩
      · exact ⟨_, c, rfl⟩
    subst hv
    have HF : Hid (OwnR 16 (fun q => q < w.heap.size) w2 q n F) := fun h0 => by
      obtain ⟨g, c', hv, hX, hc⟩ := HR2.out.cells h0
      simp only [Value.slice.injEq] at hv
      exact ⟨g, hv.1, hX, hc⟩
    clear HR2
    go_ret
    exact ⟨_, _, rfl, HF.out, HO2.out⟩
end Go.Proofs.Ytpdjdejlhjcicaa

