/- Texts joined: Gains. -/
import Derived.Great.BuildSlice
import Derived.Test.YtlcbmgbnhjgelaaGreatPkAP
/- The law's own gains of samples. (by wip/s13/gains13.py) -/
namespace Go.Proofs.YtlcbmgbnhjgelaaGreat
set_option linter.unusedVariables false
set_option maxRecDepth 100000
open Go.RowKit Go.ChangeShapes Go.WideShapes

theorem rowL_four (y Y : Nat → Int) (k : Nat) (h : ∀ j, j < 4 → Y (k * 4 + j) = y j) : rowL (k * 4) Y ++ rowL 4 y = rowL ((k + 1) * 4) Y := by
  unfold rowL
  rw [show (k + 1) * 4 = k * 4 + 4 by omega, List.range_add, List.map_append, List.map_map]
  congr 1
  exact List.map_congr_left fun j hj => by
    show blk y j = blk Y (k * 4 + j)
    unfold blk
    rw [h j (List.mem_range.1 hj)]
theorem lgains_fold (y : Nat → Int) : Array.foldl (fun (cs : Array Value) (x : Value × Nat) => cs.setIfInBounds x.snd x.fst) #[.int .i64 0, .int .i64 0, .int .i64 0, .int .i64 0] (rowN 4 (blk y)).zipIdx 0 4 = rowN 4 (blk y) := by kernel_rfl
theorem lgains_build (y : Nat → Int) (w : World) : (Instr.buildSlice 32 1 #[(0, .agg (rowN 4 (blk y)))]).run Tryz.prog w = .ok (.slice (some ⟨w.heap.size, 0, none⟩) 1 1) (w.alloc (.cells (rowN 4 (blk y)) 50)) := by
  obtain ⟨i0, hi, hz0, hz1, hz2⟩ := info_parts Tryz.info_gains
  exact run_buildSlice w 32 50 1 _ (rowN 4 (blk y)) i0 _ Tryz.underlying32 hi hz0 (by rw [hz1]; decide) (by rw [hz1]; decide) (by rw [hz1]; kernel_rfl)
/-- Gains that grow, and the blocks that they are of. -/
structure LgR (w : World) (bb N k : Nat) (F Y : Nat → Int) (v : Value) (wr : World) : Prop where
  own : ownS (fun q => q < w.heap.size ∨ q = bb) wr 50 4 v k (rowL (k * 4) Y)
  b : CellsAt wr bb (N * 16) F
  old : Old w wr
  nb : w.heap.size ≤ bb
set_option maxHeartbeats 4000000 in
theorem lgains_any (size : Int) (p : Option Addr) (n cap : Nat) (xs : List Int) (w : World) (hs : SlI w .i64 (.slice p n cap) xs) (hx : ∀ x ∈ xs, In64 x) (hn : n ≤ 150) :
    Calls Tryz.prog 14 #[.slice p n cap, .int .i64 size] w fun e w' => ∃ q c, e = .returned (.slice q (cnt n) c) ∧ SlF 4 w' q (cnt n) (gnC (decide (55 ≤ size)) fun j => xs.getD j 0) ∧ Old w w' := by
  obtain ⟨i0, hi, hz0, hz1, hz2⟩ := info_parts Tryz.info_gains
  have Hs16 := Lib.hid Tryz.block_size
  have Hs4 : Hid ((Tryz.prog.info? 50).map (·.size) = some 4) := Lib.hid (by kernel_rfl)
  have hB := Blocks_any p n cap xs w hs (by omega)
  obtain ⟨F, hF⟩ : ∃ F : Nat → Int, F = fun j => xs.getD j 0 := ⟨_, rfl⟩
  have hF64 : Fits64 F := fun j => by rw [hF]; exact getD_in hx j
  obtain ⟨N, hN⟩ : ∃ N, N = cnt n := ⟨_, rfl⟩
  have hN2 : N ≤ 10 := by rw [hN]; unfold cnt; omega
  obtain ⟨Y, hY⟩ : ∃ Y : Nat → Int, gnC (decide (55 ≤ size)) F = Y := ⟨_, rfl⟩
  rw [← hF, ← hN] at hB
  rw [← hF, ← hN, hY]
  have HB := Lib.hid hB
  have HY := Lib.hid hY
  have HOf := Lib.hid (fun (k : Nat) (V : World) => Of_any (rowAt F k) (fun j => hF64 _) V)
  clear hB hs hx hF hF64 hN hY
  by_cases h55 : 55 ≤ size
  · have hd : decide (55 ≤ size) = true := decide_eq_true h55
    go_enter Tryz.func14, Tryz.ntmps14
    go_wp2_with fail
    refine HB.out.mono ?_
    rintro e w2 ⟨rfl, hc2, o2⟩
    obtain ⟨bb, hbb⟩ : ∃ q, q = w.heap.size := ⟨_, rfl⟩
    rw [← hbb] at hc2 ⊢
    have H2 : Hid (LgR w bb N 0 F Y (.slice none 0 0) w2) := Lib.hid ⟨ownS.nil _ _ _ _, hc2, o2, by omega⟩
    clear hc2 o2 hbb HB
    go_wp2_with fail
    go_loopw [5, 7] (fun v i wr => ∃ k : Nat, k ≤ N ∧ i = .int .i64 k ∧ Hid (LgR w bb N k F Y v wr)) (fun _ i _ => N - (intOf i).toNat)
    case atStart => exact ⟨0, by omega, rfl, H2⟩
    case round =>
      obtain ⟨k, hk, rfl, HR⟩ := hrel
      clear H2
      by_cases hlt : k < N
      · have i1 : (0 : Int) ≤ k := by omega
        have i2 : (k : Int) < N := by omega
        have HLd : Hid (∀ j, j < 16 → wr.cell? ⟨bb, k * 16 + j, none⟩ = some (.int .i64 (rowAt F k j))) := fun j hj => HR.out.b.cell (k * 16 + j) (by omega)
        have HO := Lib.hid (HOf.out k)
        clear HOf
        go_wp2_with (with_reducible refine wpList_load_blk rfl 16 (rowAt F k) 53 _ rfl bb (k * 16) rfl _ HLd.out Tryz.underlying53 rfl Hs16.out ?_)
        refine (HO.out _).mono ?_
        rintro e w3 ⟨rfl, o3⟩
        clear HO HLd
        obtain ⟨R, hRd⟩ : ∃ R : Array Value, R = rowN 4 (blk (gainOf (rowAt F k))) := ⟨_, rfl⟩
        have hRs : R.size = 4 := by rw [hRd, rowN_size]
        have HR1 : Hid (R.all (·.oneCell') = true) := Lib.hid (by rw [hRd]; exact blk_one _ _)
        obtain ⟨y, hy⟩ : ∃ y : Nat → Int, y = fun _ => 0 := ⟨_, rfl⟩
        have hYy : ∀ j, j < 4 → Y (k * 4 + j) = y j := fun j hj => by rw [← HY.out, gnC_at _ _ _ _ hj, hd, hy]; rfl
        obtain ⟨Z, hZ⟩ : ∃ Z : Array Value, Z = rowN 4 (blk y) := ⟨_, rfl⟩
        have hZs : Z.size = 4 := by rw [hZ, rowN_size]
        have HZ1 : Hid (Z.all (·.oneCell') = true) := Lib.hid (by rw [hZ]; exact blk_one _ _)
        have hBS := fun w => lgains_build y w
        have hBF := lgains_fold y
        have HAdd := Lib.hid (rowL_four y Y k hYy)
        have o35 : Old wr ((w3.alloc (.cells Z 50)).alloc (.cells Z 50)) := (o3.alloc' _).alloc' _
        have HA : Hid (ownS (fun q => q < w.heap.size ∨ q = bb) ((w3.alloc (.cells Z 50)).alloc (.cells Z 50)) 50 4 u5 k (rowL (k * 4) Y)) := Lib.hid (HR.out.own.old o35)
        have HO : Hid (Old w ((w3.alloc (.cells Z 50)).alloc (.cells Z 50))) := Lib.hid (HR.out.old.trans o35)
        have HN : Hid (∀ v' w5, ownS (fun q => q < w.heap.size ∨ q = bb) w5 50 4 v' (k + 1) (rowL (k * 4) Y ++ rowL 4 y) → Kept (fun q => q < w.heap.size ∨ q = bb) ((w3.alloc (.cells Z 50)).alloc (.cells Z 50)) w5 → LgR w bb N (k + 1) F Y v' w5) := Lib.hid fun v' w5 h hk => ⟨by rw [← HAdd.out]; exact h, (HR.out.b.old o35).kept hk (.inr rfl), HO.out.after (hk.mono fun q h => .inl h) fun _ h => h, HR.out.nb⟩
        have HNw : Hid (∀ (j : Nat) (u : Value), (rowL 4 y)[j]? = some u → ((w3.alloc (.cells Z 50)).alloc (.cells Z 50)).cell? ((⟨w3.heap.size + 1, 0, none⟩ : Addr).add j) = some u) := Lib.hid fun j u hj => by
          obtain ⟨hj2, hu⟩ := rowL_get hj
          have h := cell_new (w3.alloc (.cells Z 50)) 4 50 (blk y) j hj2
          rw [World.size_alloc, ← hZ] at h
          rw [hu, add_plain, Nat.zero_add]
          exact h
        have HXX : Hid (∀ q, (q < w.heap.size ∨ q = bb) → q < ((w3.alloc (.cells Z 50)).alloc (.cells Z 50)).heap.size) := Lib.hid fun q hq => by
          rcases hq with h | rfl
          · exact Nat.lt_of_lt_of_le h HO.out.size
          · exact (HR.out.b.old o35).lt
        have HLn := Lib.hid (rowL_len 4 y)
        have H1y := Lib.hid (rowL_one 4 y)
        rw [← hZ] at hBS hBF
        rw [← hRd]
        have HZl : Hid ((#[.int .i64 0, .int .i64 0, .int .i64 0, .int .i64 0] : Array Value) = Z) := Lib.hid (by rw [hZ, hy]; rfl)
        clear hRd hZ hYy HR o3 o35
        go_wp2_with (first
    | (with_reducible refine wpList_load_blk rfl 16 (rowAt F k) 53 _ rfl bb (k * 16) rfl _ HLd.out Tryz.underlying53 rfl Hs16.out ?_)
    | (with_reducible refine wpList_store_row rfl 50 _ _ rfl w3.heap.size R rfl rfl 50 _ (heap_alloc_new _ _) (by rw [hRs]; exact Hs4.out) (by first | rw [hRs, hZs] | (rw [hRs]; kernel_rfl)) HR1.out ?_; rw [World.setRow_alloc_new])
    | (rw [HZl.out]; with_reducible refine wpList_store_row rfl 50 _ _ rfl w3.heap.size Z rfl rfl 50 _ (heap_alloc_new _ _) (by rw [hZs]; exact Hs4.out) (by rw [hZs, hRs]) HZ1.out ?_; rw [World.setRow_alloc_new])
    | (with_reducible refine wpList_load_row rfl 50 _ rfl w3.heap.size rfl 50 Z (0, 0) _ (heap_alloc_new _ _) Tryz.underlying50 rfl (by rw [hZs]; exact Hs4.out) ?_)
    | (at_builtin; refine append_S _ rfl _ _ 32 rfl (fun q => q < w.heap.size ∨ q = bb) 50 i0 _ 4 32 Tryz.underlying32 hi hz0 hz1 hz2 rfl (by omega) _ _ _ rfl HA.out ⟨w3.heap.size + 1, 0, none⟩ 1 1 (rowL 4 y) rfl (by rw [HLn.out]) HNw.out H1y.out (by unfold maxLen; omega) (by omega) HXX.out ?_; intro v' w5 hown5 hk5 _; have HR5 := Lib.hid (HN.out v' w5 hown5 hk5); clear hown5 hk5 HA HO HNw HLn H1y HN))
        go_roundw
        case rel => exact ⟨k + 1, by omega, by go_num, HR5⟩
        case measure => (simp [intOf]; try omega)
      · obtain rfl : k = N := by omega
        have HE : Hid (∃ q c, u5 = .slice q k c ∧ SlF 4 wr q k Y ∧ Old w wr) := by
          refine Lib.hid ?_
          rcases HR.out.own.1.2 with ⟨h1, h2⟩ | ⟨g, c, _, h1, _⟩
          · exact ⟨none, 0, by rw [h1, h2], fun h => by omega, HR.out.old⟩
          · refine ⟨some ⟨g, 0, none⟩, c, h1, fun h => ?_, HR.out.old⟩
            obtain ⟨g', c', e1, _, e3⟩ := HR.out.own.cells h
            rw [h1] at e1
            simp only [Value.slice.injEq, Option.some.injEq, Addr.mk.injEq] at e1
            obtain ⟨⟨rfl, _⟩, _⟩ := e1
            exact ⟨g, 0, rfl, e3.lt, fun j hj => by rw [Nat.zero_add]; exact e3.cell j hj⟩
        clear HR HOf
        go_wp2_with fail
        go_ret
        obtain ⟨q, c, e1, e2, e3⟩ := HE.out
        exact ⟨q, c, by rw [← e1]; rfl, e2, e3⟩
  · have hd : decide (55 ≤ size) = false := decide_eq_false h55
    have h54 : size < 55 := by omega
    go_enter Tryz.func14, Tryz.ntmps14
    go_wp2_with fail
    refine HB.out.mono ?_
    rintro e w2 ⟨rfl, hc2, o2⟩
    obtain ⟨bb, hbb⟩ : ∃ q, q = w.heap.size := ⟨_, rfl⟩
    rw [← hbb] at hc2 ⊢
    have H2 : Hid (LgR w bb N 0 F Y (.slice none 0 0) w2) := Lib.hid ⟨ownS.nil _ _ _ _, hc2, o2, by omega⟩
    clear hc2 o2 hbb HB
    go_wp2_with fail
    go_loopw [5, 7] (fun v i wr => ∃ k : Nat, k ≤ N ∧ i = .int .i64 k ∧ Hid (LgR w bb N k F Y v wr)) (fun _ i _ => N - (intOf i).toNat)
    case atStart => exact ⟨0, by omega, rfl, H2⟩
    case round =>
      obtain ⟨k, hk, rfl, HR⟩ := hrel
      clear H2
      by_cases hlt : k < N
      · have i1 : (0 : Int) ≤ k := by omega
        have i2 : (k : Int) < N := by omega
        have HLd : Hid (∀ j, j < 16 → wr.cell? ⟨bb, k * 16 + j, none⟩ = some (.int .i64 (rowAt F k j))) := fun j hj => HR.out.b.cell (k * 16 + j) (by omega)
        have HO := Lib.hid (HOf.out k)
        clear HOf
        go_wp2_with (with_reducible refine wpList_load_blk rfl 16 (rowAt F k) 53 _ rfl bb (k * 16) rfl _ HLd.out Tryz.underlying53 rfl Hs16.out ?_)
        refine (HO.out _).mono ?_
        rintro e w3 ⟨rfl, o3⟩
        clear HO HLd
        obtain ⟨R, hRd⟩ : ∃ R : Array Value, R = rowN 4 (blk (gainOf (rowAt F k))) := ⟨_, rfl⟩
        have hRs : R.size = 4 := by rw [hRd, rowN_size]
        have HR1 : Hid (R.all (·.oneCell') = true) := Lib.hid (by rw [hRd]; exact blk_one _ _)
        obtain ⟨y, hy⟩ : ∃ y : Nat → Int, y = gainOf (rowAt F k) := ⟨_, rfl⟩
        have hYy : ∀ j, j < 4 → Y (k * 4 + j) = y j := fun j hj => by rw [← HY.out, gnC_at _ _ _ _ hj, hd, hy]; rfl
        obtain ⟨Z, hZ⟩ : ∃ Z : Array Value, Z = rowN 4 (blk y) := ⟨_, rfl⟩
        have hZs : Z.size = 4 := by rw [hZ, rowN_size]
        have HZ1 : Hid (Z.all (·.oneCell') = true) := Lib.hid (by rw [hZ]; exact blk_one _ _)
        have hBS := fun w => lgains_build y w
        have hBF := lgains_fold y
        have HAdd := Lib.hid (rowL_four y Y k hYy)
        have o35 : Old wr ((w3.alloc (.cells Z 50)).alloc (.cells Z 50)) := (o3.alloc' _).alloc' _
        have HA : Hid (ownS (fun q => q < w.heap.size ∨ q = bb) ((w3.alloc (.cells Z 50)).alloc (.cells Z 50)) 50 4 u5 k (rowL (k * 4) Y)) := Lib.hid (HR.out.own.old o35)
        have HO : Hid (Old w ((w3.alloc (.cells Z 50)).alloc (.cells Z 50))) := Lib.hid (HR.out.old.trans o35)
        have HN : Hid (∀ v' w5, ownS (fun q => q < w.heap.size ∨ q = bb) w5 50 4 v' (k + 1) (rowL (k * 4) Y ++ rowL 4 y) → Kept (fun q => q < w.heap.size ∨ q = bb) ((w3.alloc (.cells Z 50)).alloc (.cells Z 50)) w5 → LgR w bb N (k + 1) F Y v' w5) := Lib.hid fun v' w5 h hk => ⟨by rw [← HAdd.out]; exact h, (HR.out.b.old o35).kept hk (.inr rfl), HO.out.after (hk.mono fun q h => .inl h) fun _ h => h, HR.out.nb⟩
        have HNw : Hid (∀ (j : Nat) (u : Value), (rowL 4 y)[j]? = some u → ((w3.alloc (.cells Z 50)).alloc (.cells Z 50)).cell? ((⟨w3.heap.size + 1, 0, none⟩ : Addr).add j) = some u) := Lib.hid fun j u hj => by
          obtain ⟨hj2, hu⟩ := rowL_get hj
          have h := cell_new (w3.alloc (.cells Z 50)) 4 50 (blk y) j hj2
          rw [World.size_alloc, ← hZ] at h
          rw [hu, add_plain, Nat.zero_add]
          exact h
        have HXX : Hid (∀ q, (q < w.heap.size ∨ q = bb) → q < ((w3.alloc (.cells Z 50)).alloc (.cells Z 50)).heap.size) := Lib.hid fun q hq => by
          rcases hq with h | rfl
          · exact Nat.lt_of_lt_of_le h HO.out.size
          · exact (HR.out.b.old o35).lt
        have HLn := Lib.hid (rowL_len 4 y)
        have H1y := Lib.hid (rowL_one 4 y)
        rw [← hZ] at hBS hBF
        rw [← hRd]
        obtain rfl : R = Z := by rw [hRd, hZ, hy]
        clear hRd hZ hYy HR o3 o35
        go_wp2_with (first
    | (with_reducible refine wpList_load_blk rfl 16 (rowAt F k) 53 _ rfl bb (k * 16) rfl _ HLd.out Tryz.underlying53 rfl Hs16.out ?_)
    | (with_reducible refine wpList_store_row rfl 50 _ _ rfl w3.heap.size R rfl rfl 50 _ (heap_alloc_new _ _) (by rw [hRs]; exact Hs4.out) (by first | rw [hRs, hZs] | (rw [hRs]; kernel_rfl)) HR1.out ?_; rw [World.setRow_alloc_new])
    | (with_reducible refine wpList_load_row rfl 50 _ rfl w3.heap.size rfl 50 R (0, 0) _ (heap_alloc_new _ _) Tryz.underlying50 rfl (by rw [hRs]; exact Hs4.out) ?_)
    | (at_builtin; refine append_S _ rfl _ _ 32 rfl (fun q => q < w.heap.size ∨ q = bb) 50 i0 _ 4 32 Tryz.underlying32 hi hz0 hz1 hz2 rfl (by omega) _ _ _ rfl HA.out ⟨w3.heap.size + 1, 0, none⟩ 1 1 (rowL 4 y) rfl (by rw [HLn.out]) HNw.out H1y.out (by unfold maxLen; omega) (by omega) HXX.out ?_; intro v' w5 hown5 hk5 _; have HR5 := Lib.hid (HN.out v' w5 hown5 hk5); clear hown5 hk5 HA HO HNw HLn H1y HN))
        go_roundw
        case rel => exact ⟨k + 1, by omega, by go_num, HR5⟩
        case measure => (simp [intOf]; try omega)
      · obtain rfl : k = N := by omega
        have HE : Hid (∃ q c, u5 = .slice q k c ∧ SlF 4 wr q k Y ∧ Old w wr) := by
          refine Lib.hid ?_
          rcases HR.out.own.1.2 with ⟨h1, h2⟩ | ⟨g, c, _, h1, _⟩
          · exact ⟨none, 0, by rw [h1, h2], fun h => by omega, HR.out.old⟩
          · refine ⟨some ⟨g, 0, none⟩, c, h1, fun h => ?_, HR.out.old⟩
            obtain ⟨g', c', e1, _, e3⟩ := HR.out.own.cells h
            rw [h1] at e1
            simp only [Value.slice.injEq, Option.some.injEq, Addr.mk.injEq] at e1
            obtain ⟨⟨rfl, _⟩, _⟩ := e1
            exact ⟨g, 0, rfl, e3.lt, fun j hj => by rw [Nat.zero_add]; exact e3.cell j hj⟩
        clear HR HOf
        go_wp2_with fail
        go_ret
        obtain ⟨q, c, e1, e2, e3⟩ := HE.out
        exact ⟨q, c, by rw [← e1]; rfl, e2, e3⟩
end Go.Proofs.YtlcbmgbnhjgelaaGreat

