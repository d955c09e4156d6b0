/- The law's own cuts: fewGains, some. (by wip/tools/lawb.py) -/
import Derived.Test.YtpdjdejlhjcicaaLapF
import Derived.Test.YtpdjdejlhjcicaaMeet
import Derived.Great.BuildSlice
namespace Go.Proofs.Ytpdjdejlhjcicaa
set_option linter.unusedVariables false
open Go.RowKit Go.ChangeShapes Go.WideShapes

def gI (v : Int) : Int := v % 4
def holdI (v : Int) : Int := if 4294967296 < v ∨ v < -4294967296 then v.tmod 4294967296 else v
theorem holdI_bd (v : Int) : -4294967296 ≤ holdI v ∧ holdI v ≤ 4294967296 := by
  unfold holdI
  split
  · have := Int.tmod_lt_of_pos v (show (0 : Int) < 4294967296 by omega)
    have := Int.lt_tmod_of_pos v (show (0 : Int) < 4294967296 by omega)
    omega
  · omega
theorem rowL_add (n s : Nat) (F y : Nat → Int) (h : ∀ j, j < s → y j = F (n * s + j)) : rowL (n * s) F ++ rowL s y = rowL ((n + 1) * s) F := by
  apply List.ext_getElem?
  intro i
  have e : (n + 1) * s = n * s + s := by rw [Nat.add_mul, Nat.one_mul]
  by_cases h1 : i < n * s
  · rw [List.getElem?_append_left (by rw [rowL_len]; exact h1), rowL_at _ _ _ h1, rowL_at _ _ _ (by omega)]
  · rw [List.getElem?_append_right (by rw [rowL_len]; omega), rowL_len]
    by_cases h2 : i < n * s + s
    · rw [rowL_at _ _ _ (by omega), rowL_at _ _ _ (by omega), h _ (by omega), show n * s + (i - n * s) = i by omega]
    · rw [List.getElem?_eq_none (by rw [rowL_len]; omega), List.getElem?_eq_none (by rw [rowL_len]; omega)]
def toBB (n : Nat) (f g : Nat → Int) : Nat → Int := fun k => if k < n then f k else g k
theorem toBB_upd (n : Nat) (f g : Nat → Int) (v : Int) (hv : v = f n) : updN (blk (toBB n f g)) n (.int .i64 v) = blk (toBB (n + 1) f g) := by
  rw [blk_upd]
  unfold toBB
  congr 1
  funext k
  by_cases h : k = n
  · subst h; rw [if_pos rfl, if_pos (by omega), hv]
  · rw [if_neg h]
    by_cases h2 : k < n
    · rw [if_pos h2, if_pos (by omega)]
    · rw [if_neg h2, if_neg (by omega)]

theorem fewGains_fold (y : Nat → Int) : Array.foldl (fun (cs : Array Value) (x : Value × Nat) => cs.setIfInBounds x.snd x.fst) #[.int .i64 0, .int .i64 0, .int .i64 0, .int .i64 0] (rowN 4 (blk y)).zipIdx 0 4 = rowN 4 (blk y) := by kernel_rfl

theorem Try.info_fewGains : (Try.prog.info? 36).map (fun i => (i.zero, i.size, i.bytes)) = some (some (.agg #[.int .i64 0, .int .i64 0, .int .i64 0, .int .i64 0]), 4, 32) := by kernel_rfl
theorem fewGains_build (y : Nat → Int) (w : World) : (Instr.buildSlice 33 1 #[(0, .agg (rowN 4 (blk y)))]).run Try.prog w = .ok (.slice (some ⟨w.heap.size, 0, none⟩) 1 1) (w.alloc (.cells (rowN 4 (blk y)) 36)) := by
  obtain ⟨i0, hi, hz0, hz1, hz2⟩ := info_parts Try.info_fewGains
  exact run_buildSlice w 33 36 1 _ (rowN 4 (blk y)) i0 _ Try.underlying33 hi hz0 (by rw [hz1]; decide) (by rw [hz1]; decide) (by rw [hz1]; kernel_rfl)
set_option maxRecDepth 100000 in
set_option maxHeartbeats 4000000 in
theorem fewGains_any (p : Option Addr) (n cap : Nat) (F : Nat → Int) (w : World) (hs : SlF 4 w p n F) (hF : Fits64 F) (hn : n ≤ 9223372036854775807) :
    Calls Try.prog 13 #[.slice p n cap] w fun e w' => ∃ q c, e = .returned (.slice q (min n 20) c) ∧ OwnR 4 (fun q => q < w.heap.size) w' q (min n 20) (fun j => gI (F j)) ∧ Old w w' ∧ (min n 20 = 0 → q = none → c = 0) := by
  obtain ⟨i0, hi, hz0, hz1, hz2⟩ := info_parts Try.info_fewGains
  have HS0 := Lib.hid hs
  have H64 := Lib.hid hF
  have Hs := Lib.hid (show (Try.prog.info? 36).map (·.size) = some 4 from by kernel_rfl)
  obtain ⟨Y, hY⟩ : ∃ Y : Nat → Int, Y = fun j => gI (F j) := ⟨_, rfl⟩
  rw [← hY]
  have HY := Lib.hid hY
  have HL0 : Hid (ownS (fun q => q < w.heap.size) w 36 4 (.slice none 0 0) 0 (rowL (0 * 4) Y) ∧ Old w w) := ⟨ownS.nil _ _ _ _, Old.refl w⟩
  clear hs hF hY
  go_enter Try.func13, Try.ntmps13
  go_wp2
  go_loopw [3, 4] (fun v i wr => ∃ k : Nat, k ≤ 20 ∧ k ≤ n ∧ i = .int .i64 k ∧ Hid (ownS (fun q => q < w.heap.size) wr 36 4 v k (rowL (k * 4) Y) ∧ Old w wr)) (fun _ i _ => 20 - (intOf i).toNat)
  case atStart => exact ⟨0, by omega, by omega, rfl, HL0⟩
  case round =>
    obtain ⟨k, hk, hkn, rfl, HR⟩ := hrel
    obtain ⟨wo, rfl⟩ : ∃ wo, wo = wr := ⟨_, rfl⟩
    clear HL0
    have fin : ∀ m, m = min n 20 → k = m → ∃ q c, u3 = .slice q m c ∧ OwnR 4 (fun q => q < w.heap.size) wo q m Y ∧ Old w wo ∧ (m = 0 → q = none → c = 0) := fun m hm e => by
      subst e
      rcases HR.out.1.1.2 with ⟨h1, h2⟩ | ⟨g, c, _, h1, _⟩
      · exact ⟨none, 0, by rw [h1, h2], fun h => by omega, HR.out.2, fun _ _ => rfl⟩
      · refine ⟨some ⟨g, 0, none⟩, c, h1, fun h => ?_, HR.out.2, fun _ h => by cases h⟩
        obtain ⟨g', c', e1, e2, e3⟩ := HR.out.1.cells h
        rw [h1] at e1
        simp only [Value.slice.injEq] at e1
        exact ⟨g', e1.1, e2, e3⟩
    by_cases h1 : k < n
    · by_cases h2 : k < 20
      · clear fin
        obtain ⟨g0, o0, rfl, hg0, hc⟩ := HS0.out (by omega)
        obtain ⟨x, hx⟩ : ∃ x : Nat → Int, x = fun j => F (k * 4 + j) := ⟨_, rfl⟩
        have HX : Hid (∀ j, -9223372036854775808 ≤ x j ∧ x j ≤ 9223372036854775807) := fun j => by rw [hx]; exact H64.out _
        have HC : Hid (∀ j, j < 4 → wo.cell? ⟨g0, o0 + k * 4 + j, none⟩ = some (.int .i64 (x j))) := fun j hj => by
          rw [Nat.add_assoc, hx]; exact (HR.out.2.cell (a := ⟨g0, o0 + (k * 4 + j), none⟩) hg0).trans (hc _ (by omega))
        have HAdd : Hid (rowL (k * 4) Y ++ rowL 4 (fun j => gI (x j)) = rowL ((k + 1) * 4) Y) := rowL_add _ _ _ _ fun j _ => by rw [hx, HY.out]
        have H1x := Lib.hid (blk_one x 4)
        have hT0 : Hid (Tab wo wo.heap.size 4 36 (blk (toBB 0 (fun j => gI (x j)) x)) (wo.alloc (.cells (rowN 4 (blk x)) 36))) := by
          have : toBB 0 (fun j => gI (x j)) x = x := by funext j; unfold toBB; rw [if_neg (by omega)]
          rw [this]; exact Tab.fresh _ _ _ _
        clear hc hg0 hx HS0 H64 HY
        go_wp2_with (first | (with_reducible refine wpList_load_blk rfl 4 x 36 _ rfl g0 (o0 + k * 4) rfl _ HC.out Try.underlying36 rfl Hs.out ?_) | (with_reducible refine wpList_store_row rfl 36 _ _ rfl wo.heap.size (rowN 4 (blk x)) rfl rfl 36 _ (heap_alloc_new _ _) (by rw [rowN_size]; exact Hs.out) (by rw [rowN_size]; kernel_rfl) H1x.out ?_; rw [World.setRow_alloc_new]))
        go_loopw [6] (fun i wr => ∃ kk : Nat, kk ≤ 4 ∧ i = .int .i64 kk ∧ Hid (Tab wo wo.heap.size 4 36 (blk (toBB kk (fun j => gI (x j)) x)) wr)) (fun i _ => 4 - (intOf i).toNat)
        case atStart => exact ⟨0, by omega, rfl, hT0⟩
        case round =>
          obtain ⟨kk, hkk, rfl, HT⟩ := hrel
          clear hT0 HC H1x
          by_cases h3 : kk < 4
          · have i1 : (0 : Int) ≤ kk := by omega
            have i2 : (kk : Int) < 4 := by omega
            obtain ⟨c1, c2⟩ := HT.out.cell kk h3
            have hv : blk (toBB kk (fun j => gI (x j)) x) kk = .int .i64 (x kk) := by unfold blk toBB; rw [if_neg (by omega)]
            rw [hv] at c1
            have NX : Hid (∀ u, u = gI (x kk) → Tab wo wo.heap.size 4 36 (blk (toBB (kk + 1) (fun j => gI (x j)) x)) (wr.setCell ⟨wo.heap.size, kk, none⟩ (.int .i64 u))) := fun u hu => by
              have h := HT.out.set kk (.int .i64 u) h3
              rw [toBB_upd kk (fun j => gI (x j)) x u hu] at h
              exact h
            have hm : bits BinOp.and IntKind.i64 (x kk) 3 = gI (x kk) := by
              have := mask_and (x kk) 2 (by omega)
              rw [show pw 2 - 1 = 3 from rfl, show pw 2 = 4 from rfl] at this
              exact this
            have hN := Lib.hid (NX.out _ hm)
            clear NX HT HR HAdd hv hm
            generalize x kk = v at *
            go_wp2_with fail
            go_roundw
            case rel => exact ⟨kk + 1, by omega, by go_num, hN⟩
            case measure => (simp [intOf]; try omega)
          · obtain rfl : kk = 4 := by omega
            obtain ⟨y, hy⟩ : ∃ y : Nat → Int, y = fun j => gI (x j) := ⟨_, rfl⟩
            have hrow : rowN 4 (blk (toBB 4 (fun j => gI (x j)) x)) = rowN 4 (blk y) := rowN_ext _ _ _ fun j hj => by unfold blk toBB; rw [if_pos hj, hy]
            have hb := HT.out.blk
            rw [hrow] at hb
            have Hb := Lib.hid hb
            rw [← hy] at HAdd
            have HO : Hid (Old w (wr.alloc (.cells (rowN 4 (blk y)) 36))) := (HR.out.2.trans HT.out.old).alloc' _
            have HA : Hid (ownS (fun q => q < w.heap.size) (wr.alloc (.cells (rowN 4 (blk y)) 36)) 36 4 u3 k (rowL (k * 4) Y)) := HR.out.1.old (HT.out.old.alloc' _)
            have HNw : Hid (∀ (j : Nat) (u : Value), (rowL 4 y)[j]? = some u → (wr.alloc (.cells (rowN 4 (blk y)) 36)).cell? ((⟨wr.heap.size, 0, none⟩ : Addr).add j) = some u) := fun j u hj => by
              obtain ⟨hj2, hu⟩ := rowL_get hj
              rw [hu, add_plain, Nat.zero_add]
              exact cell_new wr 4 _ (blk y) j hj2
            have hBS := fun w => fewGains_build y w
            have hBF := fewGains_fold y
            have hsz := rowN_size 4 (blk y)
            have HLn := Lib.hid (rowL_len 4 y)
            have H1y := Lib.hid (rowL_one 4 y)
            clear HT hb hrow hy HR
            generalize hR : rowN 4 (blk y) = R at *
            go_wp2_with (first | (with_reducible refine wpList_load_row rfl 36 _ rfl wo.heap.size rfl 36 R (0, 0) _ Hb.out Try.underlying36 rfl (by rw [hsz]; exact Hs.out) ?_) | (at_builtin; refine append_S _ rfl _ _ 33 rfl (fun q => q < w.heap.size) 36 i0 _ 4 32 Try.underlying33 hi hz0 hz1 hz2 rfl (by omega) _ _ _ rfl HA.out ⟨wr.heap.size, 0, none⟩ 1 1 (rowL 4 y) rfl (by rw [HLn.out]) HNw.out H1y.out (by unfold maxLen; omega) (by omega) (fun q hq => Nat.lt_of_lt_of_le hq HO.out.size) ?_; intro v' w2 hown2 hk2 _; have HR2 := Lib.hid (show ownS (fun q => q < w.heap.size) w2 36 4 v' (k + 1) (rowL ((k + 1) * 4) Y) ∧ Old w w2 from ⟨by rw [← HAdd.out]; exact hown2, HO.out.after hk2 (fun _ h => h)⟩); clear hown2 hk2 HA HO HNw HLn H1y HAdd))
            go_roundw
            case rel => exact ⟨k + 1, by omega, by omega, by go_num, HR2⟩
            case measure => (simp [intOf]; try omega)
      · obtain rfl : k = 20 := by omega
        have HE := Lib.hid (fin (min n 20) rfl (by omega))
        clear fin HR HS0 H64 HY Hs
        go_wp2
        go_ret
        obtain ⟨q, c, e1, e2, e3, e4⟩ := HE.out
        exact ⟨q, c, by rw [← e1]; rfl, e2, e3, e4⟩
    · have HE := Lib.hid (fin (min n 20) rfl (by omega))
      clear fin HR HS0 H64 HY Hs
      go_wp2
      go_ret
      obtain ⟨q, c, e1, e2, e3, e4⟩ := HE.out
      exact ⟨q, c, by rw [← e1]; rfl, e2, e3, e4⟩

theorem some_fold (y : Nat → Int) : Array.foldl (fun (cs : Array Value) (x : Value × Nat) => cs.setIfInBounds x.snd x.fst) #[.int .i64 0, .int .i64 0, .int .i64 0, .int .i64 0, .int .i64 0, .int .i64 0, .int .i64 0, .int .i64 0, .int .i64 0, .int .i64 0, .int .i64 0, .int .i64 0, .int .i64 0, .int .i64 0, .int .i64 0, .int .i64 0] (rowN 16 (blk y)).zipIdx 0 16 = rowN 16 (blk y) := by kernel_rfl

theorem Try.info_some : (Try.prog.info? 28).map (fun i => (i.zero, i.size, i.bytes)) = some (some (.agg #[.int .i64 0, .int .i64 0, .int .i64 0, .int .i64 0, .int .i64 0, .int .i64 0, .int .i64 0, .int .i64 0, .int .i64 0, .int .i64 0, .int .i64 0, .int .i64 0, .int .i64 0, .int .i64 0, .int .i64 0, .int .i64 0]), 16, 128) := by kernel_rfl
theorem some_build (y : Nat → Int) (w : World) : (Instr.buildSlice 24 1 #[(0, .agg (rowN 16 (blk y)))]).run Try.prog w = .ok (.slice (some ⟨w.heap.size, 0, none⟩) 1 1) (w.alloc (.cells (rowN 16 (blk y)) 28)) := by
  obtain ⟨i0, hi, hz0, hz1, hz2⟩ := info_parts Try.info_some
  exact run_buildSlice w 24 28 1 _ (rowN 16 (blk y)) i0 _ Try.underlying24 hi hz0 (by rw [hz1]; decide) (by rw [hz1]; decide) (by rw [hz1]; kernel_rfl)
set_option maxRecDepth 100000 in
set_option maxHeartbeats 4000000 in
theorem some_any (p : Option Addr) (n cap : Nat) (F : Nat → Int) (w : World) (hs : SlF 16 w p n F) (hF : Fits64 F) (hn : n ≤ 9223372036854775807) :
    Calls Try.prog 23 #[.slice p n cap] w fun e w' => ∃ q c, e = .returned (.slice q (min n 12) c) ∧ OwnR 16 (fun q => q < w.heap.size) w' q (min n 12) (fun j => holdI (F j)) ∧ Old w w' ∧ (min n 12 = 0 → q = none → c = 0) := by
  obtain ⟨i0, hi, hz0, hz1, hz2⟩ := info_parts Try.info_some
  have HS0 := Lib.hid hs
  have H64 := Lib.hid hF
  have Hs := Lib.hid (show (Try.prog.info? 28).map (·.size) = some 16 from by kernel_rfl)
  obtain ⟨Y, hY⟩ : ∃ Y : Nat → Int, Y = fun j => holdI (F j) := ⟨_, rfl⟩
  rw [← hY]
  have HY := Lib.hid hY
  have HL0 : Hid (ownS (fun q => q < w.heap.size) w 28 16 (.slice none 0 0) 0 (rowL (0 * 16) Y) ∧ Old w w) := ⟨ownS.nil _ _ _ _, Old.refl w⟩
  clear hs hF hY
  go_enter Try.func23, Try.ntmps23
  go_wp2
  go_loopw [3, 4] (fun v i wr => ∃ k : Nat, k ≤ 12 ∧ k ≤ n ∧ i = .int .i64 k ∧ Hid (ownS (fun q => q < w.heap.size) wr 28 16 v k (rowL (k * 16) Y) ∧ Old w wr)) (fun _ i _ => 12 - (intOf i).toNat)
  case atStart => exact ⟨0, by omega, by omega, rfl, HL0⟩
  case round =>
    obtain ⟨k, hk, hkn, rfl, HR⟩ := hrel
    obtain ⟨wo, rfl⟩ : ∃ wo, wo = wr := ⟨_, rfl⟩
    clear HL0
    have fin : ∀ m, m = min n 12 → k = m → ∃ q c, u3 = .slice q m c ∧ OwnR 16 (fun q => q < w.heap.size) wo q m Y ∧ Old w wo ∧ (m = 0 → q = none → c = 0) := fun m hm e => by
      subst e
      rcases HR.out.1.1.2 with ⟨h1, h2⟩ | ⟨g, c, _, h1, _⟩
      · exact ⟨none, 0, by rw [h1, h2], fun h => by omega, HR.out.2, fun _ _ => rfl⟩
      · refine ⟨some ⟨g, 0, none⟩, c, h1, fun h => ?_, HR.out.2, fun _ h => by cases h⟩
        obtain ⟨g', c', e1, e2, e3⟩ := HR.out.1.cells h
        rw [h1] at e1
        simp only [Value.slice.injEq] at e1
        exact ⟨g', e1.1, e2, e3⟩
    by_cases h1 : k < n
    · by_cases h2 : k < 12
      · clear fin
        obtain ⟨g0, o0, rfl, hg0, hc⟩ := HS0.out (by omega)
        obtain ⟨x, hx⟩ : ∃ x : Nat → Int, x = fun j => F (k * 16 + j) := ⟨_, rfl⟩
        have HX : Hid (∀ j, -9223372036854775808 ≤ x j ∧ x j ≤ 9223372036854775807) := fun j => by rw [hx]; exact H64.out _
        have HC : Hid (∀ j, j < 16 → wo.cell? ⟨g0, o0 + k * 16 + j, none⟩ = some (.int .i64 (x j))) := fun j hj => by
          rw [Nat.add_assoc, hx]; exact (HR.out.2.cell (a := ⟨g0, o0 + (k * 16 + j), none⟩) hg0).trans (hc _ (by omega))
        have HAdd : Hid (rowL (k * 16) Y ++ rowL 16 (fun j => holdI (x j)) = rowL ((k + 1) * 16) Y) := rowL_add _ _ _ _ fun j _ => by rw [hx, HY.out]
        have H1x := Lib.hid (blk_one x 16)
        have hT0 : Hid (Tab wo wo.heap.size 16 28 (blk (toBB 0 (fun j => holdI (x j)) x)) (wo.alloc (.cells (rowN 16 (blk x)) 28))) := by
          have : toBB 0 (fun j => holdI (x j)) x = x := by funext j; unfold toBB; rw [if_neg (by omega)]
          rw [this]; exact Tab.fresh _ _ _ _
        clear hc hg0 hx HS0 H64 HY
        go_wp2_with (first | (with_reducible refine wpList_load_blk rfl 16 x 28 _ rfl g0 (o0 + k * 16) rfl _ HC.out Try.underlying28 rfl Hs.out ?_) | (with_reducible refine wpList_store_row rfl 28 _ _ rfl wo.heap.size (rowN 16 (blk x)) rfl rfl 28 _ (heap_alloc_new _ _) (by rw [rowN_size]; exact Hs.out) (by rw [rowN_size]; kernel_rfl) H1x.out ?_; rw [World.setRow_alloc_new]))
        go_loopw [6] (fun i wr => ∃ kk : Nat, kk ≤ 16 ∧ i = .int .i64 kk ∧ Hid (Tab wo wo.heap.size 16 28 (blk (toBB kk (fun j => holdI (x j)) x)) wr)) (fun i _ => 16 - (intOf i).toNat)
        case atStart => exact ⟨0, by omega, rfl, hT0⟩
        case round =>
          obtain ⟨kk, hkk, rfl, HT⟩ := hrel
          clear hT0 HC H1x
          by_cases h3 : kk < 16
          · have i1 : (0 : Int) ≤ kk := by omega
            have i2 : (kk : Int) < 16 := by omega
            obtain ⟨c1, c2⟩ := HT.out.cell kk h3
            have hv : blk (toBB kk (fun j => holdI (x j)) x) kk = .int .i64 (x kk) := by unfold blk toBB; rw [if_neg (by omega)]
            rw [hv] at c1
            have NX : Hid (∀ u, u = holdI (x kk) → Tab wo wo.heap.size 16 28 (blk (toBB (kk + 1) (fun j => holdI (x j)) x)) (wr.setCell ⟨wo.heap.size, kk, none⟩ (.int .i64 u))) := fun u hu => by
              have h := HT.out.set kk (.int .i64 u) h3
              rw [toBB_upd kk (fun j => holdI (x j)) x u hu] at h
              exact h
            obtain ⟨b1, b2⟩ := HX.out kk
            have hcase : (4294967296 < x kk ∧ x kk % 4294967296 = holdI (x kk)) ∨ (x kk ≤ 4294967296 ∧ x kk < -4294967296 ∧ (x kk).tmod 4294967296 = holdI (x kk)) ∨ (x kk ≤ 4294967296 ∧ -4294967296 ≤ x kk ∧ x kk = holdI (x kk)) := by
              unfold holdI
              by_cases c : 4294967296 < x kk
              · left; rw [if_pos (.inl c), tmod_pos _ _ (by omega)]; exact ⟨c, rfl⟩
              · by_cases c2 : x kk < -4294967296
                · right; left; rw [if_pos (.inr c2)]; exact ⟨by omega, c2, rfl⟩
                · right; right; rw [if_neg (by omega)]; exact ⟨by omega, by omega, rfl⟩
            have a1 := Int.tmod_lt_of_pos (x kk) (show (0 : Int) < 4294967296 by omega)
            have a2 := Int.lt_tmod_of_pos (x kk) (show (0 : Int) < 4294967296 by omega)
            have q1 : wrap64 ((x kk).tmod 4294967296) = (x kk).tmod 4294967296 := IntWalk.wrap64_in _ (by omega)
            clear a1 a2 hv HAdd HX
            rcases hcase with ⟨c3, c4⟩ | ⟨c3, c5, c4⟩ | ⟨c3, c5, c4⟩
            · have hN := Lib.hid (NX.out _ c4)
              have q2 : wrap64 (x kk % 4294967296) = x kk % 4294967296 := IntWalk.wrap64_in _ (by omega)
              clear NX HT HR c4
              generalize x kk = v at *
              go_wp2_with fail
              go_roundw
              case rel => exact ⟨kk + 1, by omega, by go_num, hN⟩
              case measure => (simp [intOf]; try omega)
            · have hN := Lib.hid (NX.out _ c4)
              clear NX HT HR c4
              generalize x kk = v at *
              go_wp2_with fail
              go_roundw
              case rel => exact ⟨kk + 1, by omega, by go_num, hN⟩
              case measure => (simp [intOf]; try omega)
            · have hT2 : Hid (Tab wo wo.heap.size 16 28 (blk (toBB (kk + 1) (fun j => holdI (x j)) x)) wr) := by
                have h := HT.out
                have e : toBB (kk + 1) (fun j => holdI (x j)) x = toBB kk (fun j => holdI (x j)) x := by
                  funext j
                  unfold toBB
                  by_cases e : j = kk
                  · subst e; rw [if_pos (by omega), if_neg (by omega)]; exact c4.symm
                  · by_cases e2 : j < kk
                    · rw [if_pos (by omega), if_pos e2]
                    · rw [if_neg (by omega), if_neg e2]
                unfold Hid
                rw [e]; exact h
              clear NX HT HR c4
              generalize x kk = v at *
              go_wp2_with fail
              go_roundw
              case rel => exact ⟨kk + 1, by omega, by go_num, hT2⟩
              case measure => (simp [intOf]; try omega)
          · obtain rfl : kk = 16 := by omega
            obtain ⟨y, hy⟩ : ∃ y : Nat → Int, y = fun j => holdI (x j) := ⟨_, rfl⟩
            have hrow : rowN 16 (blk (toBB 16 (fun j => holdI (x j)) x)) = rowN 16 (blk y) := rowN_ext _ _ _ fun j hj => by unfold blk toBB; rw [if_pos hj, hy]
            have hb := HT.out.blk
            rw [hrow] at hb
            have Hb := Lib.hid hb
            rw [← hy] at HAdd
            have HO : Hid (Old w (wr.alloc (.cells (rowN 16 (blk y)) 28))) := (HR.out.2.trans HT.out.old).alloc' _
            have HA : Hid (ownS (fun q => q < w.heap.size) (wr.alloc (.cells (rowN 16 (blk y)) 28)) 28 16 u3 k (rowL (k * 16) Y)) := HR.out.1.old (HT.out.old.alloc' _)
            have HNw : Hid (∀ (j : Nat) (u : Value), (rowL 16 y)[j]? = some u → (wr.alloc (.cells (rowN 16 (blk y)) 28)).cell? ((⟨wr.heap.size, 0, none⟩ : Addr).add j) = some u) := fun j u hj => by
              obtain ⟨hj2, hu⟩ := rowL_get hj
              rw [hu, add_plain, Nat.zero_add]
              exact cell_new wr 16 _ (blk y) j hj2
            have hBS := fun w => some_build y w
            have hBF := some_fold y
            have hsz := rowN_size 16 (blk y)
            have HLn := Lib.hid (rowL_len 16 y)
            have H1y := Lib.hid (rowL_one 16 y)
            clear HT hb hrow hy HR
            generalize hR : rowN 16 (blk y) = R at *
            go_wp2_with (first | (with_reducible refine wpList_load_row rfl 28 _ rfl wo.heap.size rfl 28 R (0, 0) _ Hb.out Try.underlying28 rfl (by rw [hsz]; exact Hs.out) ?_) | (at_builtin; refine append_S _ rfl _ _ 24 rfl (fun q => q < w.heap.size) 28 i0 _ 16 128 Try.underlying24 hi hz0 hz1 hz2 rfl (by omega) _ _ _ rfl HA.out ⟨wr.heap.size, 0, none⟩ 1 1 (rowL 16 y) rfl (by rw [HLn.out]) HNw.out H1y.out (by unfold maxLen; omega) (by omega) (fun q hq => Nat.lt_of_lt_of_le hq HO.out.size) ?_; intro v' w2 hown2 hk2 _; have HR2 := Lib.hid (show ownS (fun q => q < w.heap.size) w2 28 16 v' (k + 1) (rowL ((k + 1) * 16) Y) ∧ Old w w2 from ⟨by rw [← HAdd.out]; exact hown2, HO.out.after hk2 (fun _ h => h)⟩); clear hown2 hk2 HA HO HNw HLn H1y HAdd))
            go_roundw
            case rel => exact ⟨k + 1, by omega, by omega, by go_num, HR2⟩
            case measure => (simp [intOf]; try omega)
      · obtain rfl : k = 12 := by omega
        have HE := Lib.hid (fin (min n 12) rfl (by omega))
        clear fin HR HS0 H64 HY Hs
        go_wp2
        go_ret
        obtain ⟨q, c, e1, e2, e3, e4⟩ := HE.out
        exact ⟨q, c, by rw [← e1]; rfl, e2, e3, e4⟩
    · have HE := Lib.hid (fin (min n 12) rfl (by omega))
      clear fin HR HS0 H64 HY Hs
      go_wp2
      go_ret
      obtain ⟨q, c, e1, e2, e3, e4⟩ := HE.out
      exact ⟨q, c, by rw [← e1]; rfl, e2, e3, e4⟩

end Go.Proofs.Ytpdjdejlhjcicaa
