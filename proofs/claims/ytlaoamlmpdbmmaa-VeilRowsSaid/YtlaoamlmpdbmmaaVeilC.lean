/- Veils: pieces compared and in rows; contract of veil.Row. -/
import Derived.Test.YtlaoamlmpdbmmaaVeilB
import Derived.Test.YtlaoamlmpdbmmaaRowC
import Derived.Test.YtlaoamlmpdbmmaaFrsL
namespace Go.Proofs.Ytlaoamlmpdbmmaa
set_option linter.unusedVariables false
set_option maxRecDepth 100000
set_option linter.unusedSimpArgs false
open Go.RowKit Go.ChangeShapes Go.WideShapes

theorem piece_part0 (V : Nat → Int) (w : World) : (Go.part 25 (rowN 20 (blk V)) 0).run Try.prog w = .ok (.agg (rowN 16 (blk V))) w := by kernel_rfl
theorem piece_part1 (V : Nat → Int) (w : World) : (Go.part 26 (rowN 20 (blk V)) 16).run Try.prog w = .ok (.agg (rowN 4 (blk fun j => V (16 + j)))) w := by kernel_rfl
theorem piece_fields : (Try.prog.fieldsOf 28).toList = [{ name := "Spectrum", type := 25, offset := 0, embedded := false, tag := "", pkgPath := "", byteOffset := 0 }, { name := "Gains", type := 26, offset := 16, embedded := false, tag := "", pkgPath := "", byteOffset := 128 }] := by kernel_rfl
theorem piece_eqIn (A B : Nat → Int) (w : World) : (Op.equalIn 10000 28 (.agg (rowN 20 (blk A))) (.agg (rowN 20 (blk B)))).run Try.prog w = .ok (eqB 20 A B) w := by
  rw [run_equalIn_agg w 9999 28 _ _ (by kernel_rfl) (by kernel_rfl), piece_fields]
  obtain ⟨i1, h1⟩ := info_of_underlying Try.underlying2
  obtain ⟨i2, h2⟩ := info_of_underlying Try.underlying3
  have c1 : Try.prog.cellsOf 2 = 1 := by kernel_rfl
  have c2 : Try.prog.cellsOf 3 = 1 := by kernel_rfl
  have e1 : ∀ w : World, (Op.equalIn 9999 25 (.agg (rowN 16 (blk A))) (.agg (rowN 16 (blk B)))).run Try.prog w = .ok (decide (∀ i ∈ List.range 16, A i = B i)) w := fun w => by
    rw [run_equalIn_array w 9998 _ _ Try.underlying25 h1, c1, eqItems_ints 9997 2 _ Try.underlying2 16 A B w (List.range 16) (fun i hi => List.mem_range.1 hi)]
  have e2 : ∀ w : World, (Op.equalIn 9999 26 (.agg (rowN 4 (blk fun j => A (16 + j)))) (.agg (rowN 4 (blk fun j => B (16 + j))))).run Try.prog w = .ok (decide (∀ i ∈ List.range 4, A (16 + i) = B (16 + i))) w := fun w => by
    rw [run_equalIn_array w 9998 _ _ Try.underlying26 h2, c2, eqItems_ints 9997 3 _ Try.underlying3 4 (fun j => A (16 + j)) (fun j => B (16 + j)) w (List.range 4) (fun i hi => List.mem_range.1 hi)]
  have key : eqB 20 A B = (decide (∀ i ∈ List.range 16, A i = B i) && decide (∀ i ∈ List.range 4, A (16 + i) = B (16 + i))) := by
    rw [Bool.eq_iff_iff, eqB_true, Bool.and_eq_true, decide_eq_true_eq, decide_eq_true_eq]
    constructor
    · exact fun h => ⟨fun i hi => h i (by have := List.mem_range.1 hi; omega), fun i hi => h _ (by have := List.mem_range.1 hi; omega)⟩
    · rintro ⟨h1, h2⟩ k hk
      by_cases k16 : k < 16
      · exact h1 k (List.mem_range.2 k16)
      · have := h2 (k - 16) (List.mem_range.2 (by omega))
        rwa [show 16 + (k - 16) = k by omega] at this
  rw [key]
  generalize decide (∀ i ∈ List.range 16, A i = B i) = x at *
  generalize decide (∀ i ∈ List.range 4, A (16 + i) = B (16 + i)) = y at *
  cases x <;> cases y <;> simp [Op.eqFields, piece_part0, piece_part1, e1, e2]
theorem neq_piece (A B : Nat → Int) (w : World) : (binOp .neq 28 (.agg (rowN 20 (blk A))) (.agg (rowN 20 (blk B)))).run Try.prog w = .ok (.bool !(eqB 20 A B)) w := by
  rw [run_neq_struct, piece_eqIn]
  rfl
theorem eql_piece (A B : Nat → Int) (w : World) : (binOp .eql 28 (.agg (rowN 20 (blk A))) (.agg (rowN 20 (blk B)))).run Try.prog w = .ok (.bool (eqB 20 A B)) w := by
  rw [run_eql_struct, piece_eqIn]
  rfl
theorem neq_same (A : Nat → Int) (w : World) : (binOp .neq 28 (.agg (rowN 20 (blk A))) (.agg (rowN 20 (blk A)))).run Try.prog w = .ok (.bool false) w := by
  rw [neq_piece, show eqB 20 A A = true from eqB_true.2 fun _ _ => rfl]
  rfl

/-! What stands for a row of frames, of which some are lost. -/
def rwP (X : Nat → Option Fr) : Nat → (Nat → Int) × Nat
  | 0 => (fun _ => 0, 0)
  | i + 1 => match X i with
    | none => ((rwP X i).1, (rwP X i).2 + 1)
    | some x => (pcF x.F x.n x.T, 0)
def rwA (X : Nat → Option Fr) (i : Nat) : Nat → Int := match X i with
  | none => fadeF (rwP X i).1 ((rwP X i).2 + 1)
  | some x => pcF x.F x.n x.T
def rwR (X : Nat → Option Fr) : Nat → Int := fun q => rwA X (q / 20) (q % 20)
theorem rwP_none {X : Nat → Option Fr} {i : Nat} (h : X i = none) : rwP X (i + 1) = ((rwP X i).1, (rwP X i).2 + 1) := by rw [rwP, h]
theorem rwP_some {X : Nat → Option Fr} {i : Nat} {x : Fr} (h : X i = some x) : rwP X (i + 1) = (pcF x.F x.n x.T, 0) := by rw [rwP, h]
theorem rwA_none {X : Nat → Option Fr} {i : Nat} (h : X i = none) : rwA X i = fadeF (rwP X i).1 ((rwP X i).2 + 1) := by rw [rwA, h]
theorem rwA_some {X : Nat → Option Fr} {i : Nat} {x : Fr} (h : X i = some x) : rwA X i = pcF x.F x.n x.T := by rw [rwA, h]
theorem rwP_le (X : Nat → Option Fr) (i : Nat) : (rwP X i).2 ≤ i := by
  induction i with
  | zero => exact Nat.le_refl _
  | succ i ih =>
    cases h : X i with
    | none => rw [rwP_none h]; exact Nat.succ_le_succ ih
    | some x => rw [rwP_some h]; exact Nat.zero_le _
theorem rwP_sml (X : Nat → Option Fr) (i : Nat) : Sml (rwP X i).1 := by
  induction i with
  | zero => exact sml_zero
  | succ i ih =>
    cases h : X i with
    | none => rw [rwP_none h]; exact ih
    | some x => rw [rwP_some h]; exact pcF_in _ _ _
theorem rwR_step (X : Nat → Option Fr) (k : Nat) : rowL (k * 20) (rwR X) ++ rowL 20 (rwA X k) = rowL ((k + 1) * 20) (rwR X) :=
  rowL_app 20 k _ _ _ (fun _ _ => rfl) (fun j hj => by unfold rwR; rw [show (k * 20 + j) / 20 = k by omega, show (k * 20 + j) % 20 = j by omega])
/-- What one pointer of a row of them says. -/
def PtrA (w : World) (u : Value) : Option Fr → Prop
  | none => u = .pointer none
  | some x => ∃ fb, u = .pointer (some ⟨fb, 0, none⟩) ∧ FrB 33 w fb x.F x.s ∧ ToV (fun _ => False) w x ∧ FrP x.F x.n x.T
def PtrS (w : World) (p : Option Addr) (n : Nat) (X : Nat → Option Fr) : Prop := 0 < n → ∃ g o, p = some ⟨g, o, none⟩ ∧ g < w.heap.size ∧ ∀ i, i < n → ∃ u, w.cell? ⟨g, o + i, none⟩ = some u ∧ PtrA w u (X i)
theorem PtrA.old {w w' : World} {u : Value} {x : Option Fr} (h : PtrA w u x) (k : Old w w') : PtrA w' u x := by
  cases x with
  | none => exact h
  | some x => obtain ⟨fb, h1, h2, h3, h4⟩ := h; exact ⟨fb, h1, h2.old k, h3.old k, h4⟩
theorem PtrS.old {w w' : World} {p : Option Addr} {n : Nat} {X : Nat → Option Fr} (h : PtrS w p n X) (k : Old w w') : PtrS w' p n X := fun hn => by
  obtain ⟨g, o, h1, h2, h3⟩ := h hn
  exact ⟨g, o, h1, Nat.lt_of_lt_of_le h2 k.size, fun i hi => by obtain ⟨u, h4, h5⟩ := h3 i hi; exact ⟨u, (k.cell (a := ⟨g, o + i, none⟩) h2).trans h4, h5.old k⟩⟩

theorem Try.info_piece : (Try.prog.info? 28).map (fun i => (i.zero, i.size, i.bytes)) = some (some (.agg (rowN 20 (blk fun _ => 0))), 20, 160) := by kernel_rfl
theorem piece_fold (y : Nat → Int) : Array.foldl (fun (cs : Array Value) (x : Value × Nat) => cs.setIfInBounds x.snd x.fst) #[.int .i64 0, .int .i64 0, .int .i64 0, .int .i64 0, .int .i64 0, .int .i64 0, .int .i64 0, .int .i64 0, .int .i64 0, .int .i64 0, .int .i64 0, .int .i64 0, .int .i64 0, .int .i64 0, .int .i64 0, .int .i64 0, .int .i64 0, .int .i64 0, .int .i64 0, .int .i64 0] (rowN 20 (blk y)).zipIdx 0 20 = rowN 20 (blk y) := by kernel_rfl
theorem piece_build (y : Nat → Int) (w : World) : (Instr.buildSlice 48 1 #[(0, .agg (rowN 20 (blk y)))]).run Try.prog w = .ok (.slice (some ⟨w.heap.size, 0, none⟩) 1 1) (w.alloc (.cells (rowN 20 (blk y)) 28)) := by
  obtain ⟨i0, hi, hz0, hz1, hz2⟩ := info_parts Try.info_piece
  exact run_buildSlice w 48 28 1 _ (rowN 20 (blk y)) i0 _ Try.underlying48 hi hz0 (by rw [hz1]; decide) (by rw [hz1]; decide) (by rw [hz1]; kernel_rfl)
theorem madeP_size (n : Nat) : (madeCells (rowN 20 (blk fun _ => 0)) (n * 20)).size = n * 20 := size_madeCells _ _
theorem make_pieces (n : Nat) (hn : n ≤ 1048576) (w : World) : (Instr.makeSlice 48 (.int .i64 0) (.int .i64 n)).run Try.prog w = .ok (.slice (some ⟨w.heap.size, 0, none⟩) 0 n) (w.alloc (.cells (madeCells (rowN 20 (blk fun _ => 0)) (n * 20)) 28)) := by
  obtain ⟨i, hi, hz0, hz1, hz2⟩ := info_parts Try.info_piece
  rw [run_make w _ _ i _ Try.underlying48 hi hz0 .i64 .i64 0 n (by omega) (by omega) (by rw [hz2]; omega) (by omega), hz1, Int.toNat_natCast]
  rfl
/-- Pieces that grow beside a veil. -/
structure RwR (w : World) (vb k : Nat) (X : Nat → Option Fr) (v : Value) (wr : World) : Prop where
  own : ownS (fun q => q < w.heap.size) wr 28 20 v k (rowL (k * 20) (rwR X))
  vl : VlB wr vb (rwP X k).1 (rwP X k).2
  old : Old w wr
  nv : w.heap.size ≤ vb
/-- One piece more: the veil has told it, and it was appended. -/
theorem RwR.add {w wr W1 w3 : World} {vb k l : Nat} {X : Nat → Option Fr} {v v' : Value} {P : Nat → Int} {o : Obj} (h : RwR w vb k X v wr) (hl : l = (rwP X (k + 1)).2) (hP : P = (rwP X (k + 1)).1) (hk : Kept (butOf wr vb) wr W1) (hb : VlB W1 vb P l)
    (hown : ownS (but (W1.alloc o) v) w3 28 20 v' (k + 1) (rowL (k * 20) (rwR X) ++ rowL 20 (rwA X k))) (hK : Kept (but (W1.alloc o) v) (W1.alloc o) w3) (hv : ∀ q, v'.ownBlock = some q → v.ownBlock = some q ∨ (W1.alloc o).heap.size ≤ q) : RwR w vb (k + 1) X v' w3 := by
  have hne := own_not h.own h.vl.heap (by decide)
  have o1 : Old w W1 := h.old.after hk fun q hq => ⟨Nat.lt_of_lt_of_le hq h.old.size, fun e => by have := h.nv; omega⟩
  have own1 : ownS (fun q => q < w.heap.size) W1 28 20 v k (rowL (k * 20) (rwR X)) := h.own.kept hk fun q hq => ⟨h.own.lt q hq, hne q hq⟩
  rw [rwR_step] at hown
  refine ⟨ls_own own1 o1 (Old.alloc W1 o) hown hv, ?_, ls_old own1 o1 (Old.alloc W1 o) hK, h.nv⟩
  have hb2 := hb.old (Old.alloc W1 o)
  rw [← hP, ← hl]
  exact hb2.kept hK ⟨hb2.lt, fun e => hne vb e rfl⟩

set_option maxHeartbeats 4000000 in
theorem Row_any (p : Option Addr) (n cap : Nat) (X : Nat → Option Fr) (w : World) (hX : PtrS w p n X) (hn : n ≤ 1000) :
    Calls Try.prog 16 #[.slice p n cap] w fun e w' => ∃ q c, e = .returned (.slice q n c) ∧ SlF 20 w' q n (rwR X) ∧ Old w w' := by
  have Hs29 : Hid ((Try.prog.info? 33).map (·.size) = some 29) := Lib.hid (by kernel_rfl)
  obtain ⟨i0, hi, hz0, hz1, hz2⟩ := info_parts Try.info_piece
  obtain ⟨z, hz⟩ : ∃ z : Array Value, z = #[.int .i64 0, .int .i64 0, .int .i64 0, .int .i64 0, .int .i64 0, .int .i64 0, .int .i64 0, .int .i64 0, .int .i64 0, .int .i64 0, .int .i64 0, .int .i64 0, .int .i64 0, .int .i64 0, .int .i64 0, .int .i64 0, .int .i64 0, .int .i64 0, .int .i64 0, .int .i64 0, .int .i64 0] := ⟨_, rfl⟩
  obtain ⟨W0, hW0⟩ : ∃ W0, W0 = w.alloc (.cells z 30) := ⟨_, rfl⟩
  obtain ⟨vb, hvb⟩ : ∃ vb, vb = w.heap.size := ⟨_, rfl⟩
  have hM := fun W => make_pieces n (by omega) W
  obtain ⟨W1, hW1⟩ : ∃ W1, W1 = W0.alloc (.cells (madeCells (rowN 20 (blk fun _ => 0)) (n * 20)) 28) := ⟨_, rfl⟩
  have hs0 : W0.heap.size = vb + 1 := by rw [hW0, hvb, World.size_alloc]
  have H0 : Hid (RwR w vb 0 X (.slice (some ⟨vb + 1, 0, none⟩) 0 n) W1) := Lib.hid (by
    have hv0 : VlB W0 vb (rwP X 0).1 ((rwP X 0).2 : Nat) := by
      rw [hW0, hvb]
      unfold VlB
      rw [show vlF (rwP X 0).1 ((rwP X 0).2 : Nat) = fun _ => 0 from vlF_zero, row21_zero, ← hz]
      exact heap_alloc_new _ _
    have ho : Old w W0 := by rw [hW0]; exact Old.alloc _ _
    have h1 := own_madeS W0 28 20 n (by omega) _ (madeP_size n)
    rw [← hW1, hs0] at h1
    refine ⟨h1.mono fun q hq hlt => h1.2 q hq (by have := ho.size; omega), ?_, ?_, by omega⟩
    · rw [hW1]; exact hv0.old (Old.alloc _ _)
    · rw [hW1]; exact ho.trans (Old.alloc _ _))
  have HX := Lib.hid hX
  have n0 : (0 : Int) ≤ n := by omega
  have n1 : (n : Int) ≤ 1000 := by omega
  have Hz := Lib.hid hz
  have HW1 := Lib.hid hW1
  have HW0 := Lib.hid hW0
  have Hvb := Lib.hid hvb
  have Hn := Lib.hid hn
  clear hz hW0 hvb hW1 hX hn hs0
  go_enter Try.func16, Try.ntmps16
  go_wp2_with fail
  rw [← Hz.out, ← HW0.out, ← HW1.out, ← Hvb.out]
  clear hM
  go_loopw [4, 12] (fun v i wr => ∃ k : Nat, k ≤ n ∧ i = .int .i64 k ∧ Hid (RwR w vb k X v wr)) (fun _ i _ => n - (intOf i).toNat)
  case atStart => exact ⟨0, by omega, rfl, H0⟩
  case round =>
    obtain ⟨k, hk, rfl, HR⟩ := hrel
    clear H0
    by_cases hlt : k < n
    · have i1 : (0 : Int) ≤ k := by omega
      have i2 : (k : Int) < n := by omega
      obtain ⟨g, o, rfl, hg, hc⟩ := (HX.out.old HR.out.old) (by omega)
      obtain ⟨u, hu, hx⟩ := hc k hlt
      have hle := rwP_le X k
      have hs := rwP_sml X k
      cases hXk : X k with
      | none =>
        rw [hXk] at hx
        cases hx
        have HC := Lib.hid (Lose_any vb _ _ wr HR.out.vl hs (by omega))
        rw [← rwA_none hXk] at HC
        have e1 := congrArg Prod.fst (rwP_none hXk)
        have e2 := congrArg Prod.snd (rwP_none hXk)
        dsimp only at e1 e2
        rw [← e1, ← e2] at HC
        clear hc hg hle hs hXk e1 e2 HX
        go_wp2_with fail
        refine (HC.out).mono ?_
        rintro e W2 ⟨rfl, hb2, hk2⟩
        have HL := Lib.hid (fun v' w5 (hown : ownS (but (W2.alloc (.cells (rowN 20 (blk (rwA X k))) 28)) u4) w5 28 20 v' (k + 1) (rowL (k * 20) (rwR X) ++ rowL 20 (rwA X k))) hK hv => HR.out.add (o := .cells (rowN 20 (blk (rwA X k))) 28) rfl rfl hk2 hb2 hown hK hv)
        have hne := own_not HR.out.own HR.out.vl.heap (by decide)
        have HA : Hid (ownS (but (W2.alloc (.cells (rowN 20 (blk (rwA X k))) 28)) u4) (W2.alloc (.cells (rowN 20 (blk (rwA X k))) 28)) 28 20 u4 k (rowL (k * 20) (rwR X))) := Lib.hid (((HR.out.own.kept hk2 fun q hq => ⟨HR.out.own.lt q hq, hne q hq⟩).old (Old.alloc W2 _)).mono fun q hq h => h.2 hq)
        have hNw := news_row W2 20 (blk (rwA X k)) 28
        have hBS := fun W => piece_build (rwA X k) W
        have hBF := piece_fold (rwA X k)
        obtain ⟨Z, hZ⟩ : ∃ Z, Z = rowN 20 (blk (rwA X k)) := ⟨_, rfl⟩
        have hZs : Z.size = 20 := by rw [hZ, rowN_size]
        rw [← hZ] at hNw hBS hBF HL HA
        have HNw : Hid (∀ (j : Nat) (u : Value), (rowL 20 (rwA X k))[j]? = some u → (W2.alloc (.cells Z 28)).cell? ((⟨W2.heap.size, 0, none⟩ : Addr).add j) = some u) := Lib.hid fun j u hj => hNw j u (by rw [hZ]; exact hj)
        have HBl : Hid (∀ q, but (W2.alloc (.cells Z 28)) u4 q → q < (W2.alloc (.cells Z 28)).heap.size) := Lib.hid fun q hq => hq.1
        have HLn := Lib.hid (rowL_len 20 (rwA X k))
        have H1y := Lib.hid (rowL_one 20 (rwA X k))
        rw [← hZ]
        clear hZ hNw HR hne hk2 hb2 HC
        go_wp2_with (at_builtin; refine append_S _ rfl _ _ 48 rfl (but (W2.alloc (.cells Z 28)) u4) 28 i0 _ 20 160 Try.underlying48 hi hz0 hz1 hz2 (by rfl) (by omega) _ _ _ rfl HA.out ⟨W2.heap.size, 0, none⟩ 1 1 (rowL 20 (rwA X k)) rfl (by rw [HLn.out]) HNw.out H1y.out (by unfold maxLen; omega) (by omega) HBl.out ?_; intro v' w5 hown5 hk5 hv5; have HR5 := Lib.hid (HL.out v' w5 hown5 hk5 hv5); clear hown5 hk5 hv5 HL HA HNw HBl HLn H1y)
        go_roundw
        case rel => exact ⟨k + 1, by omega, by go_num, HR5⟩
        case measure => (simp [intOf]; try omega)
      | some x =>
        rw [hXk] at hx
        obtain ⟨fb, rfl, hfb, ht, hP⟩ := hx
        obtain ⟨q, c, hsv, h1, h2, h3, _⟩ := ht
        have HC := Lib.hid (Good_any vb _ _ x.F q x.n c x.T wr HR.out.vl h3 h1 h2 hP)
        have e1 := congrArg Prod.fst (rwP_some hXk)
        have e2 := congrArg Prod.snd (rwP_some hXk)
        dsimp only at e1 e2
        rw [← rwA_some hXk] at HC
        have HE2 := Lib.hid e2
        have e3 : (rwP X (k + 1)).1 = rwA X k := by rw [e1, rwA_some hXk]
        have HLd := Lib.hid hfb.heap
        rw [hsv] at HLd
        have HE3 := Lib.hid e3
        clear hc hg hle hs hXk e1 e2 e3 HX hfb hsv h1 h2 h3 hP
        go_wp2_with (with_reducible refine wpList_load_row rfl 33 _ rfl fb rfl 33 (rowN 29 (frC x.F (.slice q x.n c))) (0, 0) _ HLd.out Try.underlying33 rfl (by rw [rowN_size]; exact Hs29.out) ?_)
        refine (HC.out).mono ?_
        rintro e W2 ⟨rfl, hb20, hk2⟩
        have hb2 : VlB W2 vb (rwA X k) ((0 : Nat) : Int) := hb20
        clear hb20
        have HL := Lib.hid (fun v' w5 (hown : ownS (but (W2.alloc (.cells (rowN 20 (blk (rwA X k))) 28)) u4) w5 28 20 v' (k + 1) (rowL (k * 20) (rwR X) ++ rowL 20 (rwA X k))) hK hv => HR.out.add (o := .cells (rowN 20 (blk (rwA X k))) 28) HE2.out.symm HE3.out.symm hk2 hb2 hown hK hv)
        have hne := own_not HR.out.own HR.out.vl.heap (by decide)
        have HA : Hid (ownS (but (W2.alloc (.cells (rowN 20 (blk (rwA X k))) 28)) u4) (W2.alloc (.cells (rowN 20 (blk (rwA X k))) 28)) 28 20 u4 k (rowL (k * 20) (rwR X))) := Lib.hid (((HR.out.own.kept hk2 fun q hq => ⟨HR.out.own.lt q hq, hne q hq⟩).old (Old.alloc W2 _)).mono fun q hq h => h.2 hq)
        have hNw := news_row W2 20 (blk (rwA X k)) 28
        have hBS := fun W => piece_build (rwA X k) W
        have hBF := piece_fold (rwA X k)
        obtain ⟨Z, hZ⟩ : ∃ Z, Z = rowN 20 (blk (rwA X k)) := ⟨_, rfl⟩
        have hZs : Z.size = 20 := by rw [hZ, rowN_size]
        rw [← hZ] at hNw hBS hBF HL HA
        have HNw : Hid (∀ (j : Nat) (u : Value), (rowL 20 (rwA X k))[j]? = some u → (W2.alloc (.cells Z 28)).cell? ((⟨W2.heap.size, 0, none⟩ : Addr).add j) = some u) := Lib.hid fun j u hj => hNw j u (by rw [hZ]; exact hj)
        have HBl : Hid (∀ q, but (W2.alloc (.cells Z 28)) u4 q → q < (W2.alloc (.cells Z 28)).heap.size) := Lib.hid fun q hq => hq.1
        have HLn := Lib.hid (rowL_len 20 (rwA X k))
        have H1y := Lib.hid (rowL_one 20 (rwA X k))
        rw [← hZ]
        clear hZ hNw HR hne hk2 hb2 HC
        go_wp2_with (at_builtin; refine append_S _ rfl _ _ 48 rfl (but (W2.alloc (.cells Z 28)) u4) 28 i0 _ 20 160 Try.underlying48 hi hz0 hz1 hz2 (by rfl) (by omega) _ _ _ rfl HA.out ⟨W2.heap.size, 0, none⟩ 1 1 (rowL 20 (rwA X k)) rfl (by rw [HLn.out]) HNw.out H1y.out (by unfold maxLen; omega) (by omega) HBl.out ?_; intro v' w5 hown5 hk5 hv5; have HR5 := Lib.hid (HL.out v' w5 hown5 hk5 hv5); clear hown5 hk5 hv5 HL HA HNw HBl HLn H1y)
        go_roundw
        case rel => exact ⟨k + 1, by omega, by go_num, HR5⟩
        case measure => (simp [intOf]; try omega)
    · obtain rfl : k = n := by omega
      obtain ⟨q, c, hv, h1, _⟩ := ownS_slF HR.out.own
      have H1 := Lib.hid h1
      have HO := Lib.hid HR.out.old
      subst hv
      clear HR h1 HX
      go_wp2_with fail
      go_ret
      exact ⟨q, c, rfl, H1.out, HO.out⟩
end Go.Proofs.Ytlaoamlmpdbmmaa

