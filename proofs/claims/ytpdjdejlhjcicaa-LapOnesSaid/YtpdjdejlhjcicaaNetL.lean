/- Contracts of package net (pairs and its iterator, Bound), as far as the seat has them. -/
import Derived.Test.YtpdjdejlhjcicaaNetS
import Derived.Test.YtpdjdejlhjcicaaRange
namespace Go.Proofs.Ytpdjdejlhjcicaa
set_option linter.unusedVariables false
open Go.RowKit
attribute [local go_sem] Oper.semAt_some

theorem pair_len (r k : Nat) (h : k < 16) : (pairs r k).length < 16 := by
  have := List.length_filterMap_le (pairR r) (List.range k)
  rw [List.length_range] at this
  unfold pairs
  omega
theorem and_apart (r : Nat) (hr : r < 4) (i : Nat) (hi : i < 16) : bits .and .i64 (i : Int) (apart r : Int) = if i / apart r % 2 = 0 then 0 else (apart r : Int) := by
  revert i
  rcases (by omega : r = 0 ∨ r = 1 ∨ r = 2 ∨ r = 3) with rfl | rfl | rfl | rfl <;> decide +kernel
theorem apart_bd (r : Nat) (hr : r < 4) : 1 ≤ apart r ∧ apart r ≤ 8 := by
  rcases (by omega : r = 0 ∨ r = 1 ∨ r = 2 ∨ r = 3) with rfl | rfl | rfl | rfl <;> decide

def PairsFn (ba br : Nat) : Value := .func (.func 44) #[] #[.pointer (some ⟨ba, 0, none⟩), .pointer (some ⟨br, 0, none⟩)]
theorem pairs_any (r : Nat) (hr : r < 4) (w : World) :
    Calls Try.prog 31 #[.int .i64 r] w fun e w' => e = .returned (PairsFn (w.heap.size + 1) w.heap.size) ∧ (w.alloc (.cells #[.int .i64 r] 3)).alloc (.cells #[.int .i64 (apart r)] 3) = w' := by
  rcases (by omega : r = 0 ∨ r = 1 ∨ r = 2 ∨ r = 3) with rfl | rfl | rfl | rfl <;>
  · go_enter Try.func31, Try.ntmps31
    go_wp2
    go_ret
    exact ⟨rfl, rfl⟩

set_option maxHeartbeats 2000000 in
theorem pairs_it (n : Nat) (hn : 1 ≤ n) (r : Nat) (hr : r < 4) (ba br : Nat) (w : World) (ha : w.cell? ⟨ba, 0, none⟩ = some (.int .i64 (apart r))) (hb : w.cell? ⟨br, 0, none⟩ = some (.int .i64 r)) :
    SeqStopsK Fence.wide n Try.prog 44 #[.pointer (some ⟨ba, 0, none⟩), .pointer (some ⟨br, 0, none⟩)] (fun x : NPair => #[x.val])
      (fun W W' => W'.heap[ba]? = W.heap[ba]? ∧ W'.heap[br]? = W.heap[br]?) (fun xs => xs = pairs r 16) (fun _ => True) 16 w := fun l J Jx W hW hJ hJx hY h0 => by
  have ca : W.cell? ⟨ba, 0, none⟩ = some (.int .i64 (apart r)) := ((Kept.below hW fun _ hk => hk).cell (World.block_lt_of_cell? w _ ha)).trans ha
  have cb : W.cell? ⟨br, 0, none⟩ = some (.int .i64 r) := ((Kept.below hW fun _ hk => hk).cell (World.block_lt_of_cell? w _ hb)).trans hb
  have H := Lib.hid (⟨h0, ca, cb⟩ : J [] W ∧ W.cell? ⟨ba, 0, none⟩ = some (.int .i64 (apart r)) ∧ W.cell? ⟨br, 0, none⟩ = some (.int .i64 r))
  have HY := Lib.hid hY
  clear ha hb hW ca cb hY h0 hJ hJx
  obtain ⟨p1, p2⟩ := apart_bd r hr
  refine callsIn_of_wp Try.func44 rfl trivial ?_ rfl
  simp only [Try.ntmps44, List.size_toArray, List.length_cons, List.length_nil, Nat.reduceAdd, Nat.reduceSub, Array.replicate_succ, Array.replicate_zero, List.push_toArray, List.append_toArray, List.nil_append, List.cons_append]
  gi_wp2
  gi_loopw [5] (fun i wr => ∃ k : Nat, i = .int .i64 k ∧ k ≤ 16 ∧ Hid (J (pairs r k) wr ∧ wr.cell? ⟨ba, 0, none⟩ = some (.int .i64 (apart r)) ∧ wr.cell? ⟨br, 0, none⟩ = some (.int .i64 r))) (fun i _ => 16 - (intOf i).toNat)
  case atStart => exact ⟨0, rfl, by omega, H⟩
  case round =>
    obtain ⟨k, rfl, hk, hj⟩ := hrel
    obtain ⟨hj, ca, cb⟩ := hj.out
    clear H
    by_cases hlt : k < 16
    · have i1 : (0 : Int) ≤ k := by omega
      have i2 : (k : Int) < 16 := by omega
      by_cases hl : k / apart r % 2 = 0
      · have hin := low_in r hr k hlt hl
        have hand : bits .and .i64 (k : Int) (apart r : Int) = 0 := by rw [and_apart r hr k hlt, if_pos hl]
        have hp := pairs_yes r k hl hin
        obtain ⟨fn, tmps, assign, body, hy, hR⟩ := HY.out (pairs r k) (pairOf r k hin) wr hj (pair_len r k hlt)
        have e3 : (((3 * k + 5 * r) % 8 : Nat) : Int) = (3 * (k : Int) + 5 * (r : Int)) % 8 := by omega
        have e : (pairOf r k hin).val = .agg #[.int .i64 k, .int .i64 ((k : Int) + (apart r : Int)), .int .i64 ((3 * (k : Int) + 5 * (r : Int)) % 8)] := by
          show Value.agg #[.int .i64 k, .int .i64 ((k + apart r : Nat) : Int), .int .i64 (((3 * k + 5 * r) % 8 : Nat) : Int)] = _
          rw [Int.natCast_add, e3]
        rw [e] at hy
        have HR := Lib.hid hR
        have HP := Lib.hid hp
        have r1 : (0 : Int) ≤ r := by omega
        have r2 : (r : Int) < 4 := by omega
        have q1 : (1 : Int) ≤ (apart r : Int) := by omega
        have q2 : (apart r : Int) ≤ 8 := by omega
        clear hR hp hj HY e e3
        gi_wp2
        refine HR.out.mono ?_
        rintro e W3 (⟨rfl, hJ3, hk3⟩ | ⟨rfl, hJx3⟩)
        · have hn3 : Hid (J (pairs r (k + 1)) W3 ∧ W3.cell? ⟨ba, 0, none⟩ = some (.int .i64 (apart r)) ∧ W3.cell? ⟨br, 0, none⟩ = some (.int .i64 r)) :=
            ⟨by rw [HP.out]; exact hJ3, (World.cell?_of_block (w := wr) (a := ⟨ba, 0, none⟩) hk3.1).trans ca, (World.cell?_of_block (w := wr) (a := ⟨br, 0, none⟩) hk3.2).trans cb⟩
          clear hJ3 hk3
          gi_wp2
          go_roundw
          case rel => exact ⟨k + 1, by go_num, by omega, hn3⟩
          case measure => simp [intOf]; omega
        · have hx3 := Lib.hid hJx3
          clear hJx3
          gi_wp2
          refine bodyPost_ret (results_none rfl _ _ _) rfl ?_
          exact ⟨⟨_, rfl⟩, .inr ⟨_, trivial, hx3.out⟩⟩
      · have hand : bits .and .i64 (k : Int) (apart r : Int) = apart r := by rw [and_apart r hr k hlt, if_neg hl]
        have hn3 : Hid (J (pairs r (k + 1)) wr ∧ wr.cell? ⟨ba, 0, none⟩ = some (.int .i64 (apart r)) ∧ wr.cell? ⟨br, 0, none⟩ = some (.int .i64 r)) :=
          ⟨by rw [pairs_no r k hl]; exact hj, ca, cb⟩
        have q1 : (1 : Int) ≤ (apart r : Int) := by omega
        have q2 : (apart r : Int) ≤ 8 := by omega
        clear hj HY
        gi_wp2
        go_roundw
        case rel => exact ⟨k + 1, by go_num, by omega, hn3⟩
        case measure => simp [intOf]; omega
    · obtain rfl : k = 16 := by omega
      have hfin := Lib.hid hj
      clear hj HY
      gi_wp2
      go_end0
      exact ⟨⟨_, rfl⟩, .inl ⟨_, rfl, hfin.out⟩⟩

/-- What a walk over a block's rounds knows of the world: the block's numbers, the turns, the block for the result, the marks. -/
structure NetSt (w : World) (tb tt : TypeId) (bb br bt : Nat) (z : Array Value) (g : Nat → Int) (Ds : List Nat) (W : World) : Prop where
  b : W.heap[bb]? = some (.cells (rowN 16 (blk g)) tb (0, 0))
  t : W.heap[bt]? = some (.cells (rowN 16 (turnF 8)) tt (0, 0))
  r : W.heap[br]? = some (.cells z tb (0, 0))
  old : Old w W
  nb : w.heap.size ≤ bb
  nt : bt ≠ bb
  nr : br ≠ bb
  nd : Ds.Nodup
  lo : ∀ D ∈ Ds, w.heap.size ≤ D
  ds : ∀ D ∈ Ds, W.heap[D]? = some (.deferred (some []))
namespace NetSt
variable {w W W' : World} {tb tt : TypeId} {bb br bt : Nat} {z : Array Value} {g g' : Nat → Int} {Ds : List Nat}
theorem keep (h : NetSt w tb tt bb br bt z g Ds W) (k : Old W W') : NetSt w tb tt bb br bt z g Ds W' :=
  ⟨(k.block bb (lt_of_block h.b)).trans h.b, (k.block bt (lt_of_block h.t)).trans h.t, (k.block br (lt_of_block h.r)).trans h.r, h.old.trans k, h.nb, h.nt, h.nr, h.nd, h.lo, fun D hD => (k.block D (lt_of_block (h.ds D hD))).trans (h.ds D hD)⟩
/-- Behind a range over a round's pairs. -/
theorem next (h : NetSt w tb tt bb br bt z g Ds W) (k : Kept (fun i => i < W.heap.size ∧ i ≠ bb) W W') (hb : W'.heap[bb]? = some (.cells (rowN 16 (blk g')) tb (0, 0))) (D : Nat) (hD : W.heap.size ≤ D) (hd : W'.heap[D]? = some (.deferred (some []))) :
    NetSt w tb tt bb br bt z g' (D :: Ds) W' := by
  have hn := h.nb
  refine ⟨hb, (k.block bt ⟨lt_of_block h.t, h.nt⟩).trans h.t, (k.block br ⟨lt_of_block h.r, h.nr⟩).trans h.r, h.old.after (X := fun i => i < W.heap.size ∧ i ≠ bb) k (fun i hi => ⟨Nat.lt_of_lt_of_le hi h.old.size, by omega⟩), hn, h.nt, h.nr, List.nodup_cons.2 ⟨fun hm => ?_, h.nd⟩, fun E hE => ?_, fun E hE => ?_⟩
  · have := lt_of_block (h.ds D hm); omega
  · have := h.old.size
    rcases List.mem_cons.1 hE with rfl | hE
    · omega
    · exact h.lo E hE
  · rcases List.mem_cons.1 hE with rfl | hE
    · exact hd
    · have hE' := h.ds E hE
      refine (k.block E ⟨lt_of_block hE', fun e => ?_⟩).trans hE'
      rw [e, h.b] at hE'
      cases hE'
/-- The block is handed over into the result's. -/
theorem done (h : NetSt w tb tt bb br bt z g Ds W) (hrw : w.heap.size ≤ br) (cs : Array Value) : (∀ D ∈ Ds, (W.setRow br cs).heap[D]? = some (.deferred (some []))) ∧
    ∀ w', Kept (fun k => k ∉ Ds) (W.setRow br cs) w' → w'.heap[br]? = some (.cells cs tb (0, 0)) ∧ Old w w' := by
  have hne : ∀ D ∈ Ds, D ≠ br := fun D hD e => by
    have := h.ds D hD
    rw [e, h.r] at this
    cases this
  have h1 : Old w (W.setRow br cs) := h.old.after (X := fun k => k < w.heap.size) ⟨rfl, rfl, by simp, fun k hk => setRow_other _ _ _ _ (by omega)⟩ fun _ h => h
  refine ⟨fun D hD => (setRow_other _ _ _ _ (hne D hD)).trans (h.ds D hD), fun w' hk => ⟨(hk.block br fun hm => hne br hm rfl).trans (setRow_heap _ _ _ _ _ _ h.r), h1.after hk fun k hk' hm => ?_⟩⟩
  have := h.lo k hm
  omega
end NetSt
/-- The turns' cells. -/
theorem turnF_P (k : Nat) (h : k < 8) : turnF 8 (k * 2) = .int .i64 (turnP k) := by
  unfold turnF turnC
  rw [if_pos (by omega), if_pos (by omega), show k * 2 / 2 = k by omega]
theorem turnF_U (k : Nat) (h : k < 8) : turnF 8 (k * 2 + 1) = .int .i64 (turnU k) := by
  unfold turnF turnC
  rw [if_pos (by omega), if_neg (by omega), show (k * 2 + 1) / 2 = k by omega]
end Go.Proofs.Ytpdjdejlhjcicaa
