/- Contract of net.Net.Forward (by wip/tools/netf.py). -/
import Derived.Test.YtpdjdejlhjcicaaNetL
namespace Go.Proofs.Ytpdjdejlhjcicaa
set_option linter.unusedVariables false
open Go.RowKit Go.Shelf
attribute [local go_sem] Oper.semAt_some

set_option maxRecDepth 100000 in
set_option maxHeartbeats 4000000 in
theorem Forward_any (f : Nat → Int) (w : World) :
    Calls Try.prog 17 #[.agg #[], .agg (rowN 16 (blk f))] w fun e w' => e = .returned (.agg (rowN 16 (blk (fwdN 4 f)))) ∧ Old w w' := by
  refine calls_marks (n := 6) Try.func17 rfl ?_
  simp only [Try.ntmps17, List.size_toArray, List.length_cons, List.length_nil, Nat.reduceAdd, Nat.reduceSub, Array.replicate_succ, Array.replicate_zero, List.push_toArray, List.append_toArray, List.nil_append, List.cons_append]
  go_wp2_with fail
  refine (Turns_any _).mono ?_
  rintro e w1 ⟨rfl, ho⟩
  have Hz : Hid ((Try.prog.info? 45).map (·.size) = some 16) := Lib.hid (by kernel_rfl)
  have H1 : Hid ((rowN 16 (turnF 8)).all (·.oneCell') = true) := Lib.hid (rowN_one _ _ fun _ _ => rfl)
  have Ho := Lib.hid ho
  clear ho
  go_wp2_with (with_reducible refine wpList_store_row rfl 45 _ _ rfl w1.heap.size (rowN 16 (turnF 8)) rfl rfl 45 _ (heap_alloc_new _ _) (by rw [rowN_size]; exact Hz.out) (by rw [rowN_size]; kernel_rfl) H1.out ?_; rw [World.setRow_alloc_new])
  obtain ⟨z, hz⟩ : ∃ z : Array Value, z = #[.int .i64 0, .int .i64 0, .int .i64 0, .int .i64 0, .int .i64 0, .int .i64 0, .int .i64 0, .int .i64 0, .int .i64 0, .int .i64 0, .int .i64 0, .int .i64 0, .int .i64 0, .int .i64 0, .int .i64 0, .int .i64 0] := ⟨_, rfl⟩
  have hzs : z.size = 16 := by rw [hz]; rfl
  rw [← hz] at Ho
  clear hz
  obtain ⟨bt, hbt⟩ : ∃ bt, bt = w1.heap.size := ⟨_, rfl⟩
  rw [← hbt]
  have hst : NetSt w 28 45 (w.heap.size + 1) (w.heap.size + 1 + 1) bt z (fwdN 0 f) [] (w1.alloc (.cells (rowN 16 (turnF 8)) 45)) := by
    have ho := Ho.out
    have hs := ho.size
    simp only [World.size_alloc] at hs
    have hb : w1.heap[w.heap.size + 1]? = some (.cells (rowN 16 (blk f)) 28 (0, 0)) := (ho.block _ (by simp)).trans ((Below.heap_alloc _ _ _ (by simp)).trans (by
      have := World.alloc_heap_new (w.alloc (.cells #[] 39)) (.cells (rowN 16 (blk f)) 28); rwa [World.size_alloc] at this))
    have hr : w1.heap[w.heap.size + 1 + 1]? = some (.cells z 28 (0, 0)) := (ho.block _ (by simp)).trans (by
      have := World.alloc_heap_new ((w.alloc (.cells #[] 39)).alloc (.cells (rowN 16 (blk f)) 28)) (.cells z 28); rwa [World.size_alloc, World.size_alloc] at this)
    have h0 : Old w w1 := (((Old.alloc w _).alloc' _).alloc' _).trans ho
    exact ⟨(Below.heap_alloc _ _ _ (by omega)).trans hb, by rw [hbt]; exact World.alloc_heap_new _ _, (Below.heap_alloc _ _ _ (by omega)).trans hr, h0.alloc' _, by omega, by omega, by omega, List.nodup_nil, fun D hD => (by cases hD), fun D hD => (by cases hD)⟩
  have Hst := Lib.hid hst
  clear hst Ho hbt H1
  go_wp2
  refine wp_loop (fun a W => ∃ (k : Nat) (Ds : List Nat) (u6 u10 u11 u12 u13 u37 : Value), k ≤ 4 ∧ a = { tmps := #[.agg #[], .agg (rowN 16 (blk f)), .pointer (some ⟨w.heap.size, 0, none⟩), .pointer (some ⟨w.heap.size + 1, 0, none⟩), .pointer (some ⟨w.heap.size + 1 + 1, 0, none⟩), .pointer (some ⟨bt, 0, none⟩), u6, undef, .agg (rowN 16 (turnF 8)), .int .i64 k, u10, u11, u12, u13, undef, undef, undef, undef, undef, undef, undef, undef, undef, undef, undef, undef, undef, undef, undef, undef, undef, undef, undef, undef, undef, undef, undef, u37, undef], defers := Ds.map mark } ∧ Hid (NetSt w 28 45 (w.heap.size + 1) (w.heap.size + 1 + 1) bt z (fwdN k f) Ds W))
    (fun a _ => 4 - (intOf (a.tmps.getD 9 undef)).toNat) ?_ ?_
  · exact ⟨0, [], undef, undef, undef, undef, undef, undef, by omega, rfl, Hst⟩
  rintro a W ⟨k, Ds, u6, u10, u11, u12, u13, u37, hk, rfl, hS⟩
  clear Hst
  dsimp only
  by_cases hlt : k < 4
  · have i1 : (0 : Int) ≤ k := by omega
    have i2 : (k : Int) < 4 := by omega
    have hP := pairs_any k hlt W
    have hIt := fun ba br W1 => pairs_it 5 (by omega) k hlt ba br W1
    unfold PairsFn at hP
    have HP := Lib.hid hP
    have HIt := Lib.hid hIt
    clear hP hIt
    go_wp2_with fail
    refine HP.out.mono ?_
    rintro e W1 ⟨rfl, hW1⟩
    have hb1 : NetSt w 28 45 (w.heap.size + 1) (w.heap.size + 1 + 1) bt z (fwdN k f) Ds W1 := by rw [← hW1]; exact hS.out.keep ((Old.alloc W _).alloc' _)
    have ca : W1.cell? ⟨W.heap.size + 1, 0, none⟩ = some (.int .i64 (apart k)) := by
      rw [← hW1]; have := cell_box (W.alloc (.cells #[.int .i64 k] 3)) (.int .i64 (apart k)) 3; rwa [World.size_alloc] at this
    have cb : W1.cell? ⟨W.heap.size, 0, none⟩ = some (.int .i64 k) := by
      rw [← hW1]; exact (World.cell?_alloc_lt _ _ _ (by simp)).trans (cell_box W _ _)
    have hsz : W1.heap.size = W.heap.size + 1 + 1 := by rw [← hW1]; simp
    have hbb : w.heap.size + 1 < W.heap.size := lt_of_block hS.out.b
    have hseq := HIt.out (W.heap.size + 1) W.heap.size W1 ca cb
    have HB := Lib.hid hb1
    clear hW1 HP HIt hS ca cb hb1
    go_wp2
    refine (wpIn_wide (n := 6)).1 (wpIn_rangeFunc_ownH rfl (by omega) rfl trivial (enters_of Try.func44 (by kernel_rfl) rfl) hseq
      (fun h k => ⟨k.1.trans h.1, k.2.trans h.2⟩) (fun U l _ o' hl _ _ _ => ⟨World.putObj_heap_other (by omega), World.putObj_heap_other (by omega)⟩) (Below.refl _ _) (fun _ => rfl)
      (fun pre U => Kept (fun i => i < W1.heap.size ∧ i ≠ w.heap.size + 1) W1 U ∧ U.heap[w.heap.size + 1]? = some (.cells (rowN 16 (blk (pre.foldl stepT (fwdN k f)))) 28 (0, 0)))
      (fun _ _ _ => False) ?hI (fun _ _ _ _ _ h _ _ => h) ⟨Kept.refl _ _, HB.out.b⟩
      (fun x a' U => ∃ Bx, W1.heap.size ≤ Bx ∧ U.heap[Bx]? = some (.cells #[.int .i64 x.lo, .int .i64 x.hi, .int .i64 x.tn] 69 (0, 0)) ∧ a' = { tmps := #[.agg #[], .agg (rowN 16 (blk f)), .pointer (some ⟨w.heap.size, 0, none⟩), .pointer (some ⟨w.heap.size + 1, 0, none⟩), .pointer (some ⟨w.heap.size + 1 + 1, 0, none⟩), .pointer (some ⟨bt, 0, none⟩), .int .i64 k, .pointer (some ⟨Bx, 0, none⟩), .agg (rowN 16 (turnF 8)), .int .i64 k, .bool true, .int .i64 k, .int .i64 k, .func (.func 44) #[] #[.pointer (some ⟨W.heap.size + 1, 0, none⟩), .pointer (some ⟨W.heap.size, 0, none⟩)], x.val, undef, undef, undef, undef, undef, undef, undef, undef, undef, undef, undef, undef, undef, undef, undef, undef, undef, undef, undef, undef, undef, undef, u37, undef], defers := [] })
      ?hAx ?assign ?body ?done ?stop)
    case hI =>
      rintro pre U U' row ⟨h1, h2⟩ hg hr
      exact ⟨h1.trans (Kept.grown hg (X := fun i => i < W1.heap.size ∧ i ≠ w.heap.size + 1) (fun i hi => Nat.lt_of_lt_of_le hi.1 h1.size) (fun i e hi => by have := (hr i e).1; omega)), (hg.block _ (lt_of_block h2) (fun e => by have := (hr _ e.symm).1; omega)).trans h2⟩
    case hAx =>
      rintro x a' _ U U' row ⟨Bx, b1, b2, b3⟩ hg hr
      refine ⟨Bx, b1, (hg.block _ (lt_of_block b2) (fun e => ?_)).trans b2, b3⟩
      obtain ⟨_, ob, h1, h2⟩ := hr _ e.symm
      rw [b2] at h1
      cases h1
      cases h2
    case assign =>
      rintro l pre x U K ⟨h1, h2⟩ hK
      have hU : W1.heap.size ≤ U.heap.size := h1.size
      have hfin : K { tmps := #[.agg #[], .agg (rowN 16 (blk f)), .pointer (some ⟨w.heap.size, 0, none⟩), .pointer (some ⟨w.heap.size + 1, 0, none⟩), .pointer (some ⟨w.heap.size + 1 + 1, 0, none⟩), .pointer (some ⟨bt, 0, none⟩), .int .i64 k, .pointer (some ⟨U.heap.size, 0, none⟩), .agg (rowN 16 (turnF 8)), .int .i64 k, .bool true, .int .i64 k, .int .i64 k, .func (.func 44) #[] #[.pointer (some ⟨W.heap.size + 1, 0, none⟩), .pointer (some ⟨W.heap.size, 0, none⟩)], x.val, undef, undef, undef, undef, undef, undef, undef, undef, undef, undef, undef, undef, undef, undef, undef, undef, undef, undef, undef, undef, undef, undef, u37, undef], defers := [] } (U.alloc (.cells #[.int .i64 x.lo, .int .i64 x.hi, .int .i64 x.tn] 69)) :=
        hK _ _ ((KeepsOthers.alloc _ _).from _) ⟨Below.heap_alloc _ _ _ (by omega), Below.heap_alloc _ _ _ (by omega)⟩ ⟨h1.trans (Kept.alloc U _ fun i hi => by omega), (Below.heap_alloc _ _ _ (by omega)).trans h2⟩ ⟨U.heap.size, hU, World.alloc_heap_new _ _, rfl⟩
      have HF := Lib.hid hfin
      clear hfin hK
      unfold NPair.val at HF ⊢
      gi_wp2
      exact HF.out
    case done =>
      rintro D xs U hD rfl ⟨h1, h2⟩ hd
      go_wp2
      refine ⟨⟨k + 1, D :: Ds, _, _, _, _, _, _, by omega, rfl, HB.out.next h1 h2 D hD hd⟩, ?_⟩
      simp [intOf]
      omega
    case stop =>
      rintro D c pre U _ _ h _
      exact h.elim
    case body =>
      rintro l pre ⟨lo, hi, tn, x1, x2, x3, x4⟩ a' U hlB _ ⟨h1, h2⟩ ⟨Bx, b1, b2, rfl⟩ hlen
      dsimp only at b2
      unfold NPair.val
      dsimp only
      have hg2 : ∀ g : Nat → Int, g = pre.foldl stepT (fwdN k f) → ((pre ++ [(⟨lo, hi, tn, x1, x2, x3, x4⟩ : NPair)]).foldl stepT (fwdN k f)) = stepT g ⟨lo, hi, tn, x1, x2, x3, x4⟩ := fun g e => by rw [List.foldl_append, ← e]; rfl
      obtain ⟨g, hgd⟩ : ∃ g, g = pre.foldl stepT (fwdN k f) := ⟨_, rfl⟩
      have hg3 := hg2 g hgd
      have hbl := blk_stepT g ⟨lo, hi, tn, x1, x2, x3, x4⟩
      dsimp only at hbl
      rw [← hgd] at h2
      clear hg2 hgd hseq
      have ht : U.heap[bt]? = some (.cells (rowN 16 (turnF 8)) 45 (0, 0)) := (h1.block bt ⟨lt_of_block HB.out.t, HB.out.nt⟩).trans HB.out.t
      have hnt := HB.out.nt
      have hsU : W1.heap.size ≤ U.heap.size := h1.size
      have c0 : U.cell? ⟨Bx, 0, none⟩ = some (.int .i64 lo) := (cell_of_row _ _ _ _ _ _ b2).trans rfl
      have c1 : U.cell? ⟨Bx, 1, none⟩ = some (.int .i64 hi) := (cell_of_row _ _ _ _ _ _ b2).trans rfl
      have c2 : U.cell? ⟨Bx, 2, none⟩ = some (.int .i64 tn) := (cell_of_row _ _ _ _ _ _ b2).trans rfl
      have ct : U.cell? ⟨bt, tn * 2, none⟩ = some (.int .i64 (turnP tn)) := (cell_of_row _ _ _ _ _ _ ht).trans ((rowN_at 16 (turnF 8) (tn * 2) (by omega)).trans (by rw [turnF_P tn x4]))
      have cu : U.cell? ⟨bt, tn * 2 + 1, none⟩ = some (.int .i64 (turnU tn)) := (cell_of_row _ _ _ _ _ _ ht).trans ((rowN_at 16 (turnF 8) (tn * 2 + 1) (by omega)).trans (by rw [turnF_U tn x4]))
      have hcT := fun w => Turn_all (g lo) (g hi) (turnP tn) (turnU tn) w
      generalize turnP tn = pv at *
      generalize turnU tn = uv at *
      generalize turnWA (g lo) (g hi) pv uv = va at *
      generalize turnWB (g lo) (g hi) pv uv = vb at *
      have cells : ∀ V : World, V.heap[w.heap.size + 1]? = some (.cells (rowN 16 (blk g)) 28 (0, 0)) → V.cell? ⟨w.heap.size + 1, lo, none⟩ = some (.int .i64 (g lo)) ∧ V.cell? ⟨w.heap.size + 1, hi, none⟩ = some (.int .i64 (g hi)) ∧ V.frozen? ⟨w.heap.size + 1, lo, none⟩ = false ∧ V.frozen? ⟨w.heap.size + 1, hi, none⟩ = false ∧
          (V.setCell ⟨w.heap.size + 1, lo, none⟩ (.int .i64 va)).cell? ⟨w.heap.size + 1, hi, none⟩ = some (.int .i64 (g hi)) ∧ (V.setCell ⟨w.heap.size + 1, lo, none⟩ (.int .i64 va)).frozen? ⟨w.heap.size + 1, hi, none⟩ = false := fun V hV => by
        have e1 : V.cell? ⟨w.heap.size + 1, hi, none⟩ = some (.int .i64 (g hi)) := (cell_of_row _ _ _ _ _ _ hV).trans (rowN_at 16 (blk g) hi x2)
        refine ⟨(cell_of_row _ _ _ _ _ _ hV).trans (rowN_at 16 (blk g) lo x1), e1, frozen_of_row _ _ _ _ _ hV, frozen_of_row _ _ _ _ _ hV, ?_, ?_⟩
        · rw [World.cell?_setCell_other _ _ _ _ (fun e => x3 (by injection e))]; exact e1
        · rw [World.frozen?_setCell]; exact frozen_of_row _ _ _ _ _ hV
      have keep1 : ∀ V : World, Old U.drew V → V.cell? ⟨Bx, 0, none⟩ = some (.int .i64 lo) ∧ V.cell? ⟨Bx, 1, none⟩ = some (.int .i64 hi) ∧ V.cell? ⟨Bx, 2, none⟩ = some (.int .i64 tn) ∧ V.cell? ⟨bt, tn * 2, none⟩ = some (.int .i64 pv) ∧ V.cell? ⟨bt, tn * 2 + 1, none⟩ = some (.int .i64 uv) := fun V hV => by
        have hb0 := lt_of_block b2
        have ht0 := lt_of_block ht
        exact ⟨(Kept.cell hV hb0).trans c0, (Kept.cell hV hb0).trans c1, (Kept.cell hV hb0).trans c2, (Kept.cell hV ht0).trans ct, (Kept.cell hV ht0).trans cu⟩
      have keep2 : ∀ (V : World) (j : Nat) (v : Value), (V.cell? ⟨Bx, 0, none⟩ = some (.int .i64 lo) ∧ V.cell? ⟨Bx, 1, none⟩ = some (.int .i64 hi) ∧ V.cell? ⟨Bx, 2, none⟩ = some (.int .i64 tn) ∧ V.cell? ⟨bt, tn * 2, none⟩ = some (.int .i64 pv) ∧ V.cell? ⟨bt, tn * 2 + 1, none⟩ = some (.int .i64 uv)) → (V.setCell ⟨w.heap.size + 1, j, none⟩ v).cell? ⟨Bx, 0, none⟩ = some (.int .i64 lo) ∧ (V.setCell ⟨w.heap.size + 1, j, none⟩ v).cell? ⟨Bx, 1, none⟩ = some (.int .i64 hi) ∧ (V.setCell ⟨w.heap.size + 1, j, none⟩ v).cell? ⟨Bx, 2, none⟩ = some (.int .i64 tn) ∧ (V.setCell ⟨w.heap.size + 1, j, none⟩ v).cell? ⟨bt, tn * 2, none⟩ = some (.int .i64 pv) ∧ (V.setCell ⟨w.heap.size + 1, j, none⟩ v).cell? ⟨bt, tn * 2 + 1, none⟩ = some (.int .i64 uv) := fun V j v hV => by
        have n1 : w.heap.size + 1 ≠ Bx := by omega
        have n2 : w.heap.size + 1 ≠ bt := fun e => hnt e.symm
        exact ⟨(World.cell?_setCell_far _ _ _ _ n1).trans hV.1, (World.cell?_setCell_far _ _ _ _ n1).trans hV.2.1, (World.cell?_setCell_far _ _ _ _ n1).trans hV.2.2.1, (World.cell?_setCell_far _ _ _ _ n2).trans hV.2.2.2.1, (World.cell?_setCell_far _ _ _ _ n2).trans hV.2.2.2.2⟩
      have fin : ∀ V : World, Old U.drew V → KeepsFrom W1.heap.size U ((V.setCell ⟨w.heap.size + 1, lo, none⟩ (.int .i64 va)).setCell ⟨w.heap.size + 1, hi, none⟩ (.int .i64 vb)) ∧
          (((V.setCell ⟨w.heap.size + 1, lo, none⟩ (.int .i64 va)).setCell ⟨w.heap.size + 1, hi, none⟩ (.int .i64 vb)).heap[W.heap.size + 1]? = U.heap[W.heap.size + 1]? ∧ ((V.setCell ⟨w.heap.size + 1, lo, none⟩ (.int .i64 va)).setCell ⟨w.heap.size + 1, hi, none⟩ (.int .i64 vb)).heap[W.heap.size]? = U.heap[W.heap.size]?) ∧
          (Kept (fun i => i < W1.heap.size ∧ i ≠ w.heap.size + 1) W1 ((V.setCell ⟨w.heap.size + 1, lo, none⟩ (.int .i64 va)).setCell ⟨w.heap.size + 1, hi, none⟩ (.int .i64 vb)) ∧
            ((V.setCell ⟨w.heap.size + 1, lo, none⟩ (.int .i64 va)).setCell ⟨w.heap.size + 1, hi, none⟩ (.int .i64 vb)).heap[w.heap.size + 1]? = some (.cells (rowN 16 (blk ((pre ++ [(⟨lo, hi, tn, x1, x2, x3, x4⟩ : NPair)]).foldl stepT (fwdN k f)))) 28 (0, 0))) := fun V hV => by
        have hVb : V.heap[w.heap.size + 1]? = some (.cells (rowN 16 (blk g)) 28 (0, 0)) := (hV.block _ (lt_of_block h2)).trans h2
        have far : ∀ j, j < W1.heap.size → j ≠ w.heap.size + 1 → ((V.setCell ⟨w.heap.size + 1, lo, none⟩ (.int .i64 va)).setCell ⟨w.heap.size + 1, hi, none⟩ (.int .i64 vb)).heap[j]? = U.heap[j]? := fun j hj hn =>
          ((Below.heap_setCell _ _ _ _ hn).trans (Below.heap_setCell _ _ _ _ hn)).trans (hV.block j (by show j < U.heap.size; omega))
        refine ⟨(((KeepsOthers.drew U).trans (Old.keepsOthers hV)).trans ((KeepsOthers.setCell _ _ _).trans (KeepsOthers.setCell _ _ _))).from _, ⟨far _ (by omega) (by omega), far _ (by omega) (by omega)⟩, ⟨?_, ?_, ?_, fun j hj => (far j hj.1 hj.2).trans (h1.block j hj)⟩, ?_⟩
        · exact hV.os.trans h1.os
        · exact hV.output.trans h1.output
        · have := hV.size
          simp [World.setCell] at this ⊢
          omega
        · rw [hg3, ← hbl, ← rowN_set _ _ _ _ x2, ← rowN_set _ _ _ _ x1]
          exact heap_setCell_same _ _ _ _ _ _ (heap_setCell_same _ _ _ _ _ _ hVb)
      obtain ⟨cl, ch, fl, fh, _, _⟩ := cells U h2
      have HT := Lib.hid hcT
      have HCell := Lib.hid (fun V (h : Old U.drew V) => cells V ((h.block _ (lt_of_block h2)).trans h2))
      have HK1 := Lib.hid keep1
      have HK2 := Lib.hid keep2
      have HF := Lib.hid fin
      have j1 : (0 : Int) ≤ lo := by omega
      have j2 : (lo : Int) < 16 := by omega
      have j3 : (0 : Int) ≤ hi := by omega
      have j4 : (hi : Int) < 16 := by omega
      have j5 : (0 : Int) ≤ tn := by omega
      have j6 : (tn : Int) < 8 := by omega
      clear hcT cells keep1 keep2 fin h1 h2 hbl hg3 ht b2 HB
      gi_wp2
      refine region_round (S := fun w' => w'.cell? ⟨Bx, 0, none⟩ = some (.int .i64 lo) ∧ w'.cell? ⟨Bx, 1, none⟩ = some (.int .i64 hi) ∧ w'.cell? ⟨Bx, 2, none⟩ = some (.int .i64 tn) ∧ w'.cell? ⟨bt, tn * 2, none⟩ = some (.int .i64 pv) ∧ w'.cell? ⟨bt, tn * 2 + 1, none⟩ = some (.int .i64 uv)) (by kernel_rfl) (by kernel_rfl) (by rintro ⟨a, w, h⟩; exact h) ?_ (fun hHeld => ?_)
      · exact HK1.out _ (Old.refl _)
      refine wpAnyH_take (i := 0) (oi := ⟨some _, _, _, _, _, _⟩) (v := ?_) rfl (by kernel_rfl) (by kernel_rfl) (by kernel_rfl) (fun _ _ _ h => h) (Or.inl ⟨by kernel_rfl, ?_⟩) (by assumption) ?_; rotate_left; (intro w hSw; (try dsimp only at hSw); go_simp; try with_reducible rfl); try simp only [Act.put, List.setIfInBounds_toArray, List.set_cons_zero, List.set_cons_succ]
      refine wpAnyH_take (i := 1) (oi := ⟨some _, _, _, _, _, _⟩) (v := ?_) rfl (by kernel_rfl) (by kernel_rfl) (by kernel_rfl) (fun _ _ _ h => h) (Or.inl ⟨by kernel_rfl, ?_⟩) (by assumption) ?_; rotate_left; (intro w hSw; (try dsimp only at hSw); go_simp; try with_reducible rfl); try simp only [Act.put, List.setIfInBounds_toArray, List.set_cons_zero, List.set_cons_succ]
      refine wpAnyH_take (i := 2) (oi := ⟨some _, _, _, _, _, _⟩) (v := ?_) rfl (by kernel_rfl) (by kernel_rfl) (by kernel_rfl) (fun _ _ _ h => h) (Or.inl ⟨by kernel_rfl, ?_⟩) (by assumption) ?_; rotate_left; (intro w hSw; (try dsimp only at hSw); go_simp; try with_reducible rfl); try simp only [Act.put, List.setIfInBounds_toArray, List.set_cons_zero, List.set_cons_succ]
      refine wpAnyH_take (i := 3) (oi := ⟨some _, _, _, _, _, _⟩) (v := ?_) rfl (by kernel_rfl) (by kernel_rfl) (by kernel_rfl) (fun _ _ _ h => h) (Or.inl ⟨by kernel_rfl, ?_⟩) (by assumption) ?_; rotate_left; (intro w hSw; (try dsimp only at hSw); go_simp; try with_reducible rfl); try simp only [Act.put, List.setIfInBounds_toArray, List.set_cons_zero, List.set_cons_succ]
      refine wpAnyH_take (i := 4) (oi := ⟨some _, _, _, _, _, _⟩) (v := ?_) rfl (by kernel_rfl) (by kernel_rfl) (by kernel_rfl) (fun _ _ _ h => h) (Or.inl ⟨by kernel_rfl, ?_⟩) (by assumption) ?_; rotate_left; (intro w hSw; (try dsimp only at hSw); go_simp; try with_reducible rfl); try simp only [Act.put, List.setIfInBounds_toArray, List.set_cons_zero, List.set_cons_succ]
      refine wpAnyH_take (i := 5) (oi := ⟨some _, _, _, _, _, _⟩) (v := ?_) rfl (by kernel_rfl) (by kernel_rfl) (by kernel_rfl) (fun _ _ _ h => h) (Or.inl ⟨by kernel_rfl, ?_⟩) (by assumption) ?_; rotate_left; (intro w hSw; (try dsimp only at hSw); go_simp; try with_reducible rfl); try simp only [Act.put, List.setIfInBounds_toArray, List.set_cons_zero, List.set_cons_succ]
      refine wpAnyH_take (i := 6) (oi := ⟨some _, _, _, _, _, _⟩) (v := ?_) rfl (by kernel_rfl) (by kernel_rfl) (by kernel_rfl) (fun _ _ _ h => h) (Or.inl ⟨by kernel_rfl, ?_⟩) (by assumption) ?_; rotate_left; (intro w hSw; (try dsimp only at hSw); go_simp; try with_reducible rfl); try simp only [Act.put, List.setIfInBounds_toArray, List.set_cons_zero, List.set_cons_succ]
      refine wpAnyH_take (i := 8) (oi := ⟨some _, _, _, _, _, _⟩) (v := ?_) rfl (by kernel_rfl) (by kernel_rfl) (by kernel_rfl) (fun _ _ _ h => h) (Or.inl ⟨by kernel_rfl, ?_⟩) (by assumption) ?_; rotate_left; (intro w hSw; (try dsimp only at hSw); go_simp; try with_reducible rfl); try simp only [Act.put, List.setIfInBounds_toArray, List.set_cons_zero, List.set_cons_succ]
      refine wpAnyH_take (i := 9) (oi := ⟨some _, _, _, _, _, _⟩) (v := ?_) rfl (by kernel_rfl) (by kernel_rfl) (by kernel_rfl) (fun _ _ _ h => h) (Or.inl ⟨by kernel_rfl, ?_⟩) (by assumption) ?_; rotate_left; (intro w hSw; (try dsimp only at hSw); go_simp; try with_reducible rfl); try simp only [Act.put, List.setIfInBounds_toArray, List.set_cons_zero, List.set_cons_succ]
      refine wpAnyH_take (i := 10) (oi := ⟨some _, _, _, _, _, _⟩) (v := ?_) rfl (by kernel_rfl) (by kernel_rfl) (by kernel_rfl) (fun _ _ _ h => h) (Or.inl ⟨by kernel_rfl, ?_⟩) (by assumption) ?_; rotate_left; (intro w hSw; (try dsimp only at hSw); go_simp; try with_reducible rfl); try simp only [Act.put, List.setIfInBounds_toArray, List.set_cons_zero, List.set_cons_succ]
      refine wpAnyH_take (i := 12) (oi := ⟨some _, _, _, _, _, _⟩) (v := ?_) rfl (by kernel_rfl) (by kernel_rfl) (by kernel_rfl) (fun _ _ _ h => h) (Or.inl ⟨by kernel_rfl, ?_⟩) (by assumption) ?_; rotate_left; (intro w hSw; (try dsimp only at hSw); go_simp; try with_reducible rfl); try simp only [Act.put, List.setIfInBounds_toArray, List.set_cons_zero, List.set_cons_succ]
      refine wpAnyH_take (i := 13) (oi := ⟨some _, _, _, _, _, _⟩) (v := ?_) rfl (by kernel_rfl) (by kernel_rfl) (by kernel_rfl) (fun _ _ _ h => h) (Or.inl ⟨by kernel_rfl, ?_⟩) (by assumption) ?_; rotate_left; (intro w hSw; (try dsimp only at hSw); go_simp; try with_reducible rfl); try simp only [Act.put, List.setIfInBounds_toArray, List.set_cons_zero, List.set_cons_succ]
      refine wpAnyH_take (i := 14) (oi := ⟨some _, _, _, _, _, _⟩) (v := ?_) rfl (by kernel_rfl) (by kernel_rfl) (by kernel_rfl) (fun _ _ _ h => h) (Or.inl ⟨by kernel_rfl, ?_⟩) (by assumption) ?_; rotate_left; (intro w hSw; (try dsimp only at hSw); go_simp; try with_reducible rfl); try simp only [Act.put, List.setIfInBounds_toArray, List.set_cons_zero, List.set_cons_succ]
      refine wpAnyH_take (i := 15) (oi := ⟨some _, _, _, _, _, _⟩) (v := ?_) rfl (by kernel_rfl) (by kernel_rfl) (by kernel_rfl) (fun _ _ _ h => h) (Or.inl ⟨by kernel_rfl, ?_⟩) (by assumption) ?_; rotate_left; (intro w hSw; (try dsimp only at hSw); go_simp; try with_reducible rfl); try simp only [Act.put, List.setIfInBounds_toArray, List.set_cons_zero, List.set_cons_succ]
      refine wpAnyH_ready (rs := [7, 11]) (by kernel_rfl) (by simp) ?_
      refine AllReadyH.cons (o := ⟨some _, _, _, _, _, _⟩) rfl (fun K hK => ?_) (AllReadyH.cons (o := ⟨some _, _, _, _, _, _⟩) rfl (fun K hK => ?_) AllReadyH.nil)
      · go_simp
        refine hK.out _ _ (HK1.out _ (Old.refl _)) (fun hHeld => ?_)
        clear hK K
        try simp only [Act.put, List.setIfInBounds_toArray, List.set_cons_zero, List.set_cons_succ]
        refine wpAnyH_ready (rs := [11]) (by kernel_rfl) (by simp) ?_
        refine AllReadyH.cons (o := ⟨some _, _, _, _, _, _⟩) rfl (fun K hK => ?_) AllReadyH.nil
        go_simp
        refine hK.out _ _ (HK1.out _ (Old.refl _)) (fun hHeld => ?_)
        clear hK K
        try simp only [Act.put, List.setIfInBounds_toArray, List.set_cons_zero, List.set_cons_succ]
        refine wpAnyH_ready (rs := [16]) (by kernel_rfl) (by simp) ?_
        refine AllReadyH.cons (o := ⟨some _, _, _, _, _, _⟩) rfl (fun K hK => ?_) AllReadyH.nil
        go_simp
        refine (HT.out _).mono ?_
        rintro e V ⟨rfl, hV⟩
        go_wp2_with fail
        have hSV := HK1.out _ hV
        obtain ⟨vl, vh, vfl, vfh, vh2, vfh2⟩ := HCell.out _ hV
        have HFV := Lib.hid (HF.out _ hV)
        clear hV
        refine hK.out _ _ hSV (fun hHeld => ?_)
        clear hK K
        try simp only [Act.put, List.setIfInBounds_toArray, List.set_cons_zero, List.set_cons_succ]
        refine wpAnyH_take (i := 17) (oi := ⟨some _, _, _, _, _, _⟩) (v := ?_) rfl (by kernel_rfl) (by kernel_rfl) (by kernel_rfl) (fun _ _ _ h => h) (Or.inl ⟨by kernel_rfl, ?_⟩) (by assumption) ?_; rotate_left; (intro w hSw; (try dsimp only at hSw); go_simp; try with_reducible rfl); try simp only [Act.put, List.setIfInBounds_toArray, List.set_cons_zero, List.set_cons_succ]
        refine wpAnyH_take (i := 18) (oi := ⟨some _, _, _, _, _, _⟩) (v := ?_) rfl (by kernel_rfl) (by kernel_rfl) (by kernel_rfl) (fun _ _ _ h => h) (Or.inl ⟨by kernel_rfl, ?_⟩) (by assumption) ?_; rotate_left; (intro w hSw; (try dsimp only at hSw); go_simp; try with_reducible rfl); try simp only [Act.put, List.setIfInBounds_toArray, List.set_cons_zero, List.set_cons_succ]
        refine wpAnyH_take (i := 19) (oi := ⟨some _, _, _, _, _, _⟩) (v := ?_) rfl (by kernel_rfl) (by kernel_rfl) (by kernel_rfl) (fun _ _ _ h => h) (Or.inl ⟨by kernel_rfl, ?_⟩) (by assumption) ?_; rotate_left; (intro w hSw; (try dsimp only at hSw); go_simp; try with_reducible rfl); try simp only [Act.put, List.setIfInBounds_toArray, List.set_cons_zero, List.set_cons_succ]
        refine wpAnyH_take (i := 20) (oi := ⟨some _, _, _, _, _, _⟩) (v := ?_) rfl (by kernel_rfl) (by kernel_rfl) (by kernel_rfl) (fun _ _ _ h => h) (Or.inl ⟨by kernel_rfl, ?_⟩) (by assumption) ?_; rotate_left; (intro w hSw; (try dsimp only at hSw); go_simp; try with_reducible rfl); try simp only [Act.put, List.setIfInBounds_toArray, List.set_cons_zero, List.set_cons_succ]
        refine wpAnyH_ready (rs := [21]) (by kernel_rfl) (by simp) ?_
        refine AllReadyH.cons (o := ⟨none, _, _, _, _, _⟩) rfl (fun K hK => ?_) AllReadyH.nil
        go_simp
        refine hK.out _ _ (HK2.out _ _ _ hSV) (fun hHeld => ?_)
        clear hK K
        try simp only [Act.put, List.setIfInBounds_toArray, List.set_cons_zero, List.set_cons_succ]
        refine wpAnyH_take (i := 22) (oi := ⟨some _, _, _, _, _, _⟩) (v := ?_) rfl (by kernel_rfl) (by kernel_rfl) (by kernel_rfl) (fun _ _ _ h => h) (Or.inl ⟨by kernel_rfl, ?_⟩) (by assumption) ?_; rotate_left; (intro w hSw; (try dsimp only at hSw); go_simp; try with_reducible rfl); try simp only [Act.put, List.setIfInBounds_toArray, List.set_cons_zero, List.set_cons_succ]
        refine wpAnyH_ready (rs := [23]) (by kernel_rfl) (by simp) ?_
        refine AllReadyH.cons (o := ⟨none, _, _, _, _, _⟩) rfl (fun K hK => ?_) AllReadyH.nil
        go_simp
        refine hK.out _ _ (HK2.out _ _ _ (HK2.out _ _ _ hSV)) (fun hHeld => ?_)
        clear hK K
        try simp only [Act.put, List.setIfInBounds_toArray, List.set_cons_zero, List.set_cons_succ]
        refine wpAnyH_done (by kernel_rfl) ?_ _
        exact HFV.out
      · go_simp
        refine hK.out _ _ (HK1.out _ (Old.refl _)) (fun hHeld => ?_)
        clear hK K
        try simp only [Act.put, List.setIfInBounds_toArray, List.set_cons_zero, List.set_cons_succ]
        refine wpAnyH_ready (rs := [7]) (by kernel_rfl) (by simp) ?_
        refine AllReadyH.cons (o := ⟨some _, _, _, _, _, _⟩) rfl (fun K hK => ?_) AllReadyH.nil
        go_simp
        refine hK.out _ _ (HK1.out _ (Old.refl _)) (fun hHeld => ?_)
        clear hK K
        try simp only [Act.put, List.setIfInBounds_toArray, List.set_cons_zero, List.set_cons_succ]
        refine wpAnyH_ready (rs := [16]) (by kernel_rfl) (by simp) ?_
        refine AllReadyH.cons (o := ⟨some _, _, _, _, _, _⟩) rfl (fun K hK => ?_) AllReadyH.nil
        go_simp
        refine (HT.out _).mono ?_
        rintro e V ⟨rfl, hV⟩
        go_wp2_with fail
        have hSV := HK1.out _ hV
        obtain ⟨vl, vh, vfl, vfh, vh2, vfh2⟩ := HCell.out _ hV
        have HFV := Lib.hid (HF.out _ hV)
        clear hV
        refine hK.out _ _ hSV (fun hHeld => ?_)
        clear hK K
        try simp only [Act.put, List.setIfInBounds_toArray, List.set_cons_zero, List.set_cons_succ]
        refine wpAnyH_take (i := 17) (oi := ⟨some _, _, _, _, _, _⟩) (v := ?_) rfl (by kernel_rfl) (by kernel_rfl) (by kernel_rfl) (fun _ _ _ h => h) (Or.inl ⟨by kernel_rfl, ?_⟩) (by assumption) ?_; rotate_left; (intro w hSw; (try dsimp only at hSw); go_simp; try with_reducible rfl); try simp only [Act.put, List.setIfInBounds_toArray, List.set_cons_zero, List.set_cons_succ]
        refine wpAnyH_take (i := 18) (oi := ⟨some _, _, _, _, _, _⟩) (v := ?_) rfl (by kernel_rfl) (by kernel_rfl) (by kernel_rfl) (fun _ _ _ h => h) (Or.inl ⟨by kernel_rfl, ?_⟩) (by assumption) ?_; rotate_left; (intro w hSw; (try dsimp only at hSw); go_simp; try with_reducible rfl); try simp only [Act.put, List.setIfInBounds_toArray, List.set_cons_zero, List.set_cons_succ]
        refine wpAnyH_take (i := 19) (oi := ⟨some _, _, _, _, _, _⟩) (v := ?_) rfl (by kernel_rfl) (by kernel_rfl) (by kernel_rfl) (fun _ _ _ h => h) (Or.inl ⟨by kernel_rfl, ?_⟩) (by assumption) ?_; rotate_left; (intro w hSw; (try dsimp only at hSw); go_simp; try with_reducible rfl); try simp only [Act.put, List.setIfInBounds_toArray, List.set_cons_zero, List.set_cons_succ]
        refine wpAnyH_take (i := 20) (oi := ⟨some _, _, _, _, _, _⟩) (v := ?_) rfl (by kernel_rfl) (by kernel_rfl) (by kernel_rfl) (fun _ _ _ h => h) (Or.inl ⟨by kernel_rfl, ?_⟩) (by assumption) ?_; rotate_left; (intro w hSw; (try dsimp only at hSw); go_simp; try with_reducible rfl); try simp only [Act.put, List.setIfInBounds_toArray, List.set_cons_zero, List.set_cons_succ]
        refine wpAnyH_ready (rs := [21]) (by kernel_rfl) (by simp) ?_
        refine AllReadyH.cons (o := ⟨none, _, _, _, _, _⟩) rfl (fun K hK => ?_) AllReadyH.nil
        go_simp
        refine hK.out _ _ (HK2.out _ _ _ hSV) (fun hHeld => ?_)
        clear hK K
        try simp only [Act.put, List.setIfInBounds_toArray, List.set_cons_zero, List.set_cons_succ]
        refine wpAnyH_take (i := 22) (oi := ⟨some _, _, _, _, _, _⟩) (v := ?_) rfl (by kernel_rfl) (by kernel_rfl) (by kernel_rfl) (fun _ _ _ h => h) (Or.inl ⟨by kernel_rfl, ?_⟩) (by assumption) ?_; rotate_left; (intro w hSw; (try dsimp only at hSw); go_simp; try with_reducible rfl); try simp only [Act.put, List.setIfInBounds_toArray, List.set_cons_zero, List.set_cons_succ]
        refine wpAnyH_ready (rs := [23]) (by kernel_rfl) (by simp) ?_
        refine AllReadyH.cons (o := ⟨none, _, _, _, _, _⟩) rfl (fun K hK => ?_) AllReadyH.nil
        go_simp
        refine hK.out _ _ (HK2.out _ _ _ (HK2.out _ _ _ hSV)) (fun hHeld => ?_)
        clear hK K
        try simp only [Act.put, List.setIfInBounds_toArray, List.set_cons_zero, List.set_cons_succ]
        refine wpAnyH_done (by kernel_rfl) ?_ _
        exact HFV.out
  · obtain rfl : k = 4 := by omega
    have hS' := hS.out
    have Hb := Lib.hid hS'.b
    have Hr := Lib.hid hS'.r
    have Hd := Lib.hid (hS'.done (by omega) (rowN 16 (blk (fwdN 4 f))))
    have Hn := Lib.hid hS'.nd
    have Hs : Hid ((Try.prog.info? 28).map (·.size) = some 16) := Lib.hid (by kernel_rfl)
    have H1 : Hid ((rowN 16 (blk (fwdN 4 f))).all (·.oneCell') = true) := Lib.hid (blk_one _ _)
    clear hS hS'
    go_wp2_with (first | (with_reducible refine wpList_load_row rfl 28 _ rfl (w.heap.size + 1) rfl 28 (rowN 16 (blk (fwdN 4 f))) (0, 0) _ Hb.out Try.underlying28 rfl (by rw [rowN_size]; exact Hs.out) ?_) | (with_reducible refine wpList_store_row rfl 28 _ _ rfl (w.heap.size + 1 + 1) (rowN 16 (blk (fwdN 4 f))) rfl rfl 28 _ Hr.out (by rw [rowN_size]; exact Hs.out) (by rw [rowN_size]; exact hzs) H1.out ?_))
    refine leaves_marks Ds _ Hn.out Hd.out.1 fun w' hk => ?_
    obtain ⟨e1, e2⟩ := Hd.out.2 w' hk
    exact ⟨_, results_cell_row rfl _ _ (w.heap.size + 1 + 1) 28 (rowN 16 (blk (fwdN 4 f))) (0, 0) _ rfl e1 Try.underlying28 rfl (by rw [rowN_size]; exact Hs.out), rfl, e2⟩
end Go.Proofs.Ytpdjdejlhjcicaa
