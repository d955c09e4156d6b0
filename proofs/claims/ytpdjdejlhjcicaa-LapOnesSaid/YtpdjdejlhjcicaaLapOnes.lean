/- LapOnes: of any blocks (the first 12, their numbers held within 2^32) and any gains (the first 20, each of its two lowest bits) each sample that lap.Whole tells is lap.One of its block, and of the other one that lap.Need tells, if there is one (8.3, 8.5), One of nil and of places that there are not is 0, and the example of chapter 8 holds. No condition. -/
import Derived.Test.YtpdjdejlhjcicaaRows
import Derived.Test.YtpdjdejlhjcicaaAwake
import Derived.Test.YtpdjdejlhjcicaaLawB
import Derived.Test.YtpdjdejlhjcicaaLapQ
import Derived.Test.YtpdjdejlhjcicaaLapH
import Derived.Test.YtpdjdejlhjcicaaArrArg
namespace Go.Proofs.Ytpdjdejlhjcicaa.lapOnes
open Go.ChangeShapes Go.WideShapes Go.ChangeAt Go.RowKit
set_option linter.unusedVariables false
set_option linter.unusedSimpArgs false

theorem new_store {U V : World} {b : Nat} {F : Nat → Int} (h : CellsAt V b 16 F) (hn : U.heap.size ≤ b) (o : Old U V) (f : Nat → Int) : Old U (V.setCells b 0 (rowL 16 f)) ∧ CellsAt (V.setCells b 0 (rowL 16 f)) b 16 f := by
  refine ⟨o.after (Kept.setCells (X := fun q => q < U.heap.size) V (fun e => by omega) _ _) fun _ h => h, (h.setCells 0 16 (by omega) f).ext fun j hj => ?_⟩
  unfold patch
  rw [if_pos ⟨by omega, by omega⟩, Nat.sub_zero]
theorem zeroB : (#[.int .i64 0, .int .i64 0, .int .i64 0, .int .i64 0, .int .i64 0, .int .i64 0, .int .i64 0, .int .i64 0, .int .i64 0, .int .i64 0, .int .i64 0, .int .i64 0, .int .i64 0, .int .i64 0, .int .i64 0, .int .i64 0] : Array Value) = rowN 16 (blk fun _ => 0) := rfl
theorem need_alone (k n : Nat) (h : k < n * 16) (h1 : ¬ (8 ≤ k % 16 ∧ k / 16 + 1 < n)) (h2 : ¬ (k % 16 < 8 ∧ 1 ≤ k / 16)) : needA k n = (k : Int) / 16 ∧ needB k n = (k : Int) / 16 := by
  have hn : ¬ noNeed (k : Int) (n : Int) := by unfold noNeed; omega
  unfold needA needB
  rw [if_neg hn, if_neg hn]
  by_cases h8 : k % 16 < 8
  · rw [if_pos (by omega), if_pos (by omega)]; omega
  · rw [if_neg (by omega), if_neg (by omega)]; omega
theorem need_met (k n : Nat) (h : k < n * 16) (h1 : (8 ≤ k % 16 ∧ k / 16 + 1 < n) ∨ (k % 16 < 8 ∧ 1 ≤ k / 16)) : ∃ kk, kk < n ∧ needA k n ≠ needB k n ∧ needA k n + needB k n = (k : Int) / 16 + (kk : Nat) ∧ 0 ≤ needA k n ∧ needA k n ≤ n ∧ 0 ≤ needB k n ∧ needB k n ≤ n ∧ ((8 ≤ k % 16 ∧ kk = k / 16 + 1) ∨ (k % 16 < 8 ∧ kk + 1 = k / 16)) := by
  have hn : ¬ noNeed (k : Int) (n : Int) := by unfold noNeed; omega
  unfold needA needB
  rw [if_neg hn, if_neg hn]
  rcases h1 with ⟨h8, h9⟩ | ⟨h8, h9⟩
  · rw [if_neg (by omega), if_neg (by omega)]
    exact ⟨k / 16 + 1, h9, by omega, by omega, by omega, by omega, by omega, by omega, .inl ⟨h8, rfl⟩⟩
  · rw [if_pos (by omega), if_pos (by omega)]
    exact ⟨k / 16 - 1, by omega, by omega, by omega, by omega, by omega, by omega, by omega, .inr ⟨h8, by omega⟩⟩
theorem whole_at (n : Nat) (G : Nat → Int) (ng : Nat) (L : Nat → Int) (k : Nat) (h : k < n * 16) : wholeF n G ng L k = downI (wholeM n L k) (atI (gainsAt G ng (k / 16)) ((k % 16 : Nat) : Int)) := by
  unfold wholeF
  rw [mapTo_end _ _ _ _ h]
  show downI (rowAt (wholeM n L) (k / 16) (k % 16)) _ = _
  unfold rowAt
  rw [show k / 16 * 16 + k % 16 = k by omega]
theorem back_at (n : Nat) (L : Nat → Int) (b r : Nat) (hr : r < 16) (h : b * 16 + r < n * 16) : mapTo n back L (b * 16 + r) = bckN 4 (rowAt L b) r := by
  rw [mapTo_end _ _ _ _ h, mapB_at _ _ _ _ hr]
  rfl
theorem whole_alone (n : Nat) (L : Nat → Int) (k : Nat) (h : k < n * 16) (h1 : ¬ (8 ≤ k % 16 ∧ k / 16 + 1 < n)) (h2 : ¬ (k % 16 < 8 ∧ 1 ≤ k / 16)) : wholeM n L k = bckN 4 (rowAt L (k / 16)) (k % 16) := by
  obtain ⟨b, r, rfl, hr, e1, e2⟩ := split16 k
  rw [e1] at h1 h2 ⊢
  rw [e2] at h1 h2 ⊢
  unfold wholeM
  by_cases h8 : 8 ≤ r
  · rw [meetTo_hi _ _ _ _ _ _ hr h8, if_neg (by omega), back_at _ _ _ _ hr h]
  · rw [meetTo_lo _ _ _ _ _ _ (by omega), if_neg (by omega), back_at _ _ _ _ hr h]
theorem whole_met (n : Nat) (L : Nat → Int) (k kk : Nat) (h : k < n * 16) (hk : kk < n) (h1 : (8 ≤ k % 16 ∧ kk = k / 16 + 1) ∨ (k % 16 < 8 ∧ kk + 1 = k / 16)) : wholeM n L k = partI (bckN 4 (rowAt L (k / 16))) (bckN 4 (rowAt L kk)) (k % 16) := by
  obtain ⟨b, r, rfl, hr, e1, e2⟩ := split16 k
  rw [e1] at h1 ⊢
  rw [e2] at h1 ⊢
  unfold wholeM partI
  rcases h1 with ⟨h8, rfl⟩ | ⟨h8, hb⟩
  · rw [meetTo_hi _ _ _ _ _ _ hr h8, if_pos hk, if_pos h8, back_at _ _ _ _ hr h, show b * 16 + 16 + (15 - r) = (b + 1) * 16 + (15 - r) by omega, back_at _ _ _ _ (by omega) (by omega)]
  · rw [meetTo_lo _ _ _ _ _ _ h8, if_pos ⟨by omega, by omega⟩, if_neg (by omega), back_at _ _ _ _ hr h, show b * 16 - 16 + (15 - r) = kk * 16 + (15 - r) by omega, back_at _ _ _ _ (by omega) (by omega)]
set_option maxRecDepth 100000 in
set_option maxHeartbeats 4000000 in
theorem walk (p : Option Addr) (n0 cap : Nat) (F0 : Nat → Int) (pg : Option Addr) (ng0 cg : Nat) (G0 : Nat → Int) (a : Int) (w : World) (hs : SlF 16 w p n0 F0) (hF64 : Fits64 F0) (hn0 : n0 ≤ 9223372036854775807) (hg : SlF 4 w pg ng0 G0) (hg64 : Fits64 G0) (hgn : ng0 ≤ 9223372036854775807) (ha1 : -9223372036854775808 ≤ a) (ha2 : a ≤ 9223372036854775807) :
    Calls Try.prog 7 #[.slice p n0 cap, .slice pg ng0 cg, .int .i64 a] w fun e w' => e = .returned (.bool true) ∧ Old w w' := by
  have hSo := Lib.hid (some_any p n0 cap F0 w hs hF64 hn0)
  have HA := Lib.hid (fun w => awake_any w)
  have HG0 := Lib.hid hg
  have HG64 := Lib.hid hg64
  have HZ : Hid ((Try.prog.info? 49).map (·.size) = some 16) := Lib.hid (by kernel_rfl)
  have Hs16 := Lib.hid Try.block_size
  have Hs4 : Hid ((Try.prog.info? 36).map (·.size) = some 4) := Lib.hid (by kernel_rfl)
  have h8 := T8_size
  have H8 := Lib.hid T8_one
  have HNew := Lib.hid (fun w => LapNew_any w)
  have HOn := Lib.hid (fun V => One_none none 3 (fun _ => 0) V)
  rw [show (.agg (rowN 4 (blk fun _ => 0)) : Value) = .agg #[.int .i64 0, .int .i64 0, .int .i64 0, .int .i64 0] from rfl] at HOn
  clear hs hg hg64 hF64
  go_enter Try.func7, Try.ntmps7
  go_wp2_with fail
  refine hSo.out.mono ?_
  rintro e w1 ⟨q, c, rfl, hl1, ho1, hcz⟩
  obtain ⟨n, hn⟩ : ∃ m, m = min n0 12 := ⟨_, rfl⟩
  rw [← hn] at hl1 hcz ⊢
  have hn12 : n ≤ 12 := by omega
  obtain ⟨L, hL⟩ : ∃ f : Nat → Int, f = fun j => holdI (F0 j) := ⟨_, rfl⟩
  rw [← hL] at hl1
  have HL64 : Hid (Fits64 L) := fun j => by rw [hL]; have := holdI_bd (F0 j); dsimp only; omega
  have hFG := Lib.hid (fewGains_any pg ng0 cg G0 w1 (HG0.out.old ho1) HG64.out hgn)
  have HL1 := Lib.hid hl1.sl
  have HO1 := Lib.hid ho1
  have HCz := Lib.hid hcz
  clear hn hL hl1 ho1 hcz hSo HG0 HG64
  go_wp2_with fail
  refine hFG.out.mono ?_
  rintro e w2 ⟨q2, c2, rfl, hg2, ho2, _⟩
  obtain ⟨ng, hng⟩ : ∃ m, m = min ng0 20 := ⟨_, rfl⟩
  rw [← hng] at hg2 ⊢
  obtain ⟨G, hG⟩ : ∃ f : Nat → Int, f = fun j => gI (G0 j) := ⟨_, rfl⟩
  rw [← hG] at hg2
  have HL2 := Lib.hid (HL1.out.old ho2)
  have HO2 := Lib.hid (HO1.out.trans ho2)
  have HG2 := Lib.hid hg2.sl
  have hng20 : ng ≤ 20 := by omega
  clear hng hG hg2 ho2 HL1 HO1 hFG
  have HWh := Lib.hid (fun (V : World) (h : Old w2 V) => Whole_any q n c L q2 ng c2 G (16 * (n : Int)) V (HL2.out.old h) (by omega) HCz.out HL64.out (HG2.out.old h) (by omega) (by omega))
  have HIv := Lib.hid (fun (f : Nat → Int) V => Inverse_any f V)
  have HBd : Hid (∀ b j, -9223372036854775808 ≤ bckN 4 (rowAt L b) j ∧ bckN 4 (rowAt L b) j ≤ 9223372036854775807) := fun b j => bckN_in 4 (show Fits64 (rowAt L b) from fun k => HL64.out _) j
  have HO1a := Lib.hid (fun (bb i : Nat) (f g : Nat → Int) (V : World) (hb : bb < V.heap.size) (hc : ∀ k, k < 16 → V.cell? ⟨bb, k, none⟩ = some (.int .i64 (f k))) (hx : ∀ k, k < 16 → -9223372036854775808 ≤ f k ∧ f k ≤ 9223372036854775807) (hi : i < 16) => One_alone bb i f g V hb hc hx hi)
  have HO1m := Lib.hid (fun (bb bo i : Nat) (f h g : Nat → Int) (V : World) (hb : bb < V.heap.size) (ho : bo < V.heap.size) (hc : ∀ k, k < 16 → V.cell? ⟨bb, k, none⟩ = some (.int .i64 (f k))) (hd : ∀ k, k < 16 → V.cell? ⟨bo, k, none⟩ = some (.int .i64 (h k))) (hi : i < 16) => One_met bb bo i f h g V hb ho hc hd hi)
  have HO1b := Lib.hid (fun (b : Addr) (o : Option Addr) (g : Nat → Int) (V : World) => One_beyond b o g V)
  have hT16 : samN n (16 * (n : Int)) = n * 16 := by unfold samN; omega
  rw [hT16] at HWh
  clear hT16
  have hPart0 := fun (V : World) (bx : Nat) (R : Array Value) h => net_part V bx R h
  have HPart := Lib.hid hPart0
  clear hPart0
  generalize hT : T8 = R at h8 H8 HNew HWh HOn HO1a HO1m HO1b
  clear hT
  go_wp2_with fail
  refine (HNew.out _).mono ?_
  rintro e w3 ⟨rfl, ho3⟩
  have HO3 := Lib.hid (HO2.out.trans ho3)
  have HO23 := Lib.hid ho3
  clear ho3 HO2 HNew
  have q0 : wrap64 (16 * (n : Int)) = 16 * (n : Int) := IntWalk.wrap64_in _ (by omega)
  obtain ⟨T, hTT⟩ : ∃ T : Nat, T = n * 16 := ⟨_, rfl⟩
  have hTI : (T : Int) = 16 * (n : Int) := by omega
  rw [← hTT] at HWh
  have HTT := Lib.hid hTT
  clear hTT
  obtain ⟨w4, hw4⟩ : ∃ V, V = w3.alloc (.cells R 49) := ⟨_, rfl⟩
  obtain ⟨bx, hbx⟩ : ∃ b, b = w3.heap.size := ⟨_, rfl⟩
  have hb : w4.heap[bx]? = some (.cells R 49 (0, 0)) := by rw [hw4, hbx]; exact heap_alloc_new _ _
  have HO4 : Hid (Old w w4) := by rw [hw4]; exact HO3.out.alloc' _
  have HO24 : Hid (Old w2 w4) := by rw [hw4]; exact HO23.out.alloc' _
  have HKB : Hid (∀ V, Old w4 V → V.heap[bx]? = some (.cells R 49 (0, 0))) := fun V hV => (hV.block _ (lt_of_block hb)).trans hb
  have Hb4 := Lib.hid hb
  have HWt := Lib.hid (fun k => whole_at n G ng L k)
  clear hb HO3 HO23
  go_wp2_with (first | (with_reducible refine wpList_store_row rfl 49 _ _ rfl w3.heap.size R rfl rfl 49 _ (heap_alloc_new _ _) (by rw [h8]; exact HZ.out) (by rw [h8]; kernel_rfl) H8.out ?_; rw [World.setRow_alloc_new]) | (with_reducible refine wpList_load_row rfl 49 _ rfl w3.heap.size rfl 49 R (0, 0) _ (heap_alloc_new _ _) Try.underlying49 rfl (by rw [h8]; exact HZ.out) ?_))
  rw [← hw4, ← hbx]
  refine (HWh.out _ HO24.out).mono ?_
  rintro e w5 ⟨g5, rfl, hc5, _, ho5⟩
  have HC5 := Lib.hid hc5
  have HO45 := Lib.hid ho5
  have Hb5 := Lib.hid (HKB.out _ ho5)
  clear hc5 ho5 HWh hw4 hbx
  go_wp2_with (with_reducible refine wpList_load_row rfl 49 _ rfl bx rfl 49 R (0, 0) _ Hb5.out Try.underlying49 rfl (by rw [h8]; exact HZ.out) ?_)
  refine (HOn.out _).mono ?_
  rintro e w6 ⟨rfl, ho6⟩
  have HO46 := Lib.hid (HO45.out.trans ho6)
  have HC6 := Lib.hid (HC5.out.old ho6)
  have HO6 := Lib.hid (HO4.out.trans HO46.out)
  have HL6 := Lib.hid (HL2.out.old (HO24.out.trans HO46.out))
  have HG6 := Lib.hid (HG2.out.old (HO24.out.trans HO46.out))
  clear HL2 HG2 HO24
  clear ho6 HC5 HO45 HOn Hb5 Hb4
  by_cases ha : a < 0
  · go_wp2_with fail
    refine (HA.out _).mono ?_
    rintro e w7 ⟨rfl, rfl⟩
    go_wp2_with fail
    go_ret
    exact ⟨rfl, HO6.out⟩
  · obtain ⟨k, hk⟩ : ∃ k : Nat, a = k := ⟨a.toNat, by omega⟩
    subst hk
    have ha' : (0 : Int) ≤ k := by omega
    clear ha
    by_cases hkT : T ≤ k
    · have hkT' : 16 * (n : Int) ≤ k := by omega
      go_wp2_with fail
      refine (HA.out _).mono ?_
      rintro e w7 ⟨rfl, rfl⟩
      go_wp2_with fail
      go_ret
      exact ⟨rfl, HO6.out⟩
    · have hkT' : (k : Int) < 16 * (n : Int) := by omega
      have hkn : k < n * 16 := by omega
      have hkn2 : k / 16 < n := by omega
      have hkr : k % 16 < 16 := by omega
      have Hy := Lib.hid (HC6.out.cell k (by omega))
      obtain ⟨y, hy⟩ : ∃ y, y = wholeF n G ng L k := ⟨_, rfl⟩
      have hyt := HWt.out k hkn
      rw [← hy] at hyt Hy
      have hNd := Need_any (k : Int) (n : Int) w6 (by omega) (by omega) (by omega) (by omega)
      have e16 : ((k % 16 : Nat) : Int) = (k : Int) % 16 := by omega
      obtain ⟨gl, ol, rfl, hgl, hcl⟩ := HL6.out (by omega)
      have HRw : Hid (∀ V b, Old w6 V → b < n → ∀ j, j < 16 → V.cell? ⟨gl, ol + b * 16 + j, none⟩ = some (.int .i64 (rowAt L b j))) := fun V b hV hb j hj => by
        rw [Nat.add_assoc]
        exact (hV.cell (a := ⟨gl, ol + (b * 16 + j), none⟩) hgl).trans (hcl _ (by omega))
      have hlt6 : bx < w6.heap.size := lt_of_block (HKB.out _ HO46.out)
      have hPart := fun V h => HPart.out V bx R h
      have HBx : Hid (∀ V, Old w6 V → V.heap[bx]? = some (.cells R 49 (0, 0))) := fun V hV => HKB.out _ (HO46.out.trans hV)
      obtain ⟨x, hx⟩ : ∃ x, x = gainsAt G ng (k / 16) := ⟨_, rfl⟩
      have HX := Lib.hid hx
      rw [← hx] at hyt
      have hk16 : (k : Int) / 16 < n := by omega
      have hk18 : (0 : Int) ≤ (k : Int) / 16 := by omega
      have hk19 : ((k : Int) / 16).toNat = k / 16 := by omega
      have hk17 : (k : Int) % 16 < 16 := by omega
      clear hcl hx HKB HL6 HPart
      by_cases hm : (8 ≤ k % 16 ∧ k / 16 + 1 < n) ∨ (k % 16 < 8 ∧ 1 ≤ k / 16)
      · obtain ⟨kk, hkk, hAB, hsum, A0, A1, B0, B1, hside⟩ := need_met k n hkn hm
        rw [whole_met n L k kk hkn hkk hside] at hyt
        generalize needA k n = A at *
        generalize needB k n = B at *
        have q1 : wrap64 (A + B) = (k : Int) / 16 + (kk : Nat) := by rw [hsum]; exact IntWalk.wrap64_in _ (by omega)
        obtain ⟨Sm, hSm⟩ : ∃ Sm, Sm = A + B := ⟨_, rfl⟩
        have q2 : wrap64 (A + B) = Sm := by rw [hSm]; exact IntWalk.wrap64_in _ (by omega)
        have q3 : wrap64 (Sm - (k : Int) / 16) = (kk : Nat) := by rw [hSm, hsum, IntWalk.wrap64_in _ (by omega)]; omega
        have hkk' : (kk : Int) < n := by omega
        have HNd := Lib.hid hNd
        have HYt := Lib.hid hyt
        clear hNd hyt hm hy HWt q1 hsum A0 A1 B0 B1 hside hSm
        go_wp2_with fail
        refine HNd.out.mono ?_
        rintro e w7 ⟨rfl, rfl⟩
        go_upto_if 72 with (fail)
        go_cut [13] (fun v13 wx => v13 = .pointer (some ⟨w6.heap.size, 0, none⟩) ∧ wx.heap[w6.heap.size]? = some (.cells (rowN 4 (blk x)) 36 (0, 0)) ∧ Old w6 wx)
        case first =>
          by_cases hgk : k / 16 < ng
          · obtain ⟨gg, og, rfl, hgg, hcg⟩ := HG6.out (by omega)
            have hgk' : (k : Int) / 16 < ng := by omega
            have HCg : Hid (∀ j, j < 4 → (w6.alloc (.cells #[.int .i64 0, .int .i64 0, .int .i64 0, .int .i64 0] 36)).cell? ⟨gg, og + k / 16 * 4 + j, none⟩ = some (.int .i64 (x j))) := fun j hj => by
              rw [HX.out]
              unfold gainsAt
              rw [if_pos hgk, Nat.add_assoc]
              exact ((Old.alloc w6 _).cell (a := ⟨gg, og + (k / 16 * 4 + j), none⟩) hgg).trans (hcg _ (by omega))
            have H1g := Lib.hid (blk_one x 4)
            clear hcg hgg
            go_wp2_with (first | (with_reducible refine wpList_load_blk rfl 4 x 36 _ rfl gg (og + k / 16 * 4) rfl _ HCg.out Try.underlying36 rfl Hs4.out ?_) | (with_reducible refine wpList_store_row rfl 36 _ _ rfl w6.heap.size (rowN 4 (blk x)) rfl rfl 36 _ (heap_alloc_new _ _) (by rw [rowN_size]; exact Hs4.out) (by rw [rowN_size]; kernel_rfl) H1g.out ?_; rw [World.setRow_alloc_new]))
            go_meet
            exact ⟨rfl, heap_alloc_new _ _, Old.alloc _ _⟩
          · have hgk' : (ng : Int) ≤ (k : Int) / 16 := by omega
            go_wp2_with fail
            go_meet
            refine ⟨rfl, ?_, Old.alloc _ _⟩
            rw [HX.out, show rowN 4 (blk (gainsAt G ng (k / 16))) = #[.int .i64 0, .int .i64 0, .int .i64 0, .int .i64 0] from by unfold gainsAt; rw [if_neg hgk]; rfl]
            exact heap_alloc_new _ _
        case rest =>
          obtain ⟨rfl, hx13, ho68⟩ := hcut
          obtain ⟨w8, rfl⟩ : ∃ V, V = wc := ⟨_, rfl⟩
          have HX13 : Hid (∀ V, Old w8 V → V.heap[w6.heap.size]? = some (.cells (rowN 4 (blk x)) 36 (0, 0))) := fun V hV => (hV.block _ (lt_of_block hx13)).trans hx13
          have HO68 := Lib.hid ho68
          clear hx13 ho68 HG6 HX HNd
          go_upto_region 15 with (fail)
          go_cut [14] (fun vv wx => ∃ bs, vv = .pointer (some ⟨bs, 0, none⟩) ∧ CellsAt wx bs 16 (bckN 4 (rowAt L (k / 16))) ∧ Old w8 wx)
          case first =>
            have HSS : Hid (∀ V, Old w8.drew V → V.heap[bx]? = some (.cells R 49 (0, 0)) ∧ ∀ j, j < 16 → V.cell? ⟨gl, ol + k / 16 * 16 + j, none⟩ = some (.int .i64 (rowAt L (k / 16) j))) := fun V hV =>
              ⟨HBx.out _ ((HO68.out.trans (Old.drew (Old.refl _))).trans hV), HRw.out V (k / 16) ((HO68.out.trans (Old.drew (Old.refl _))).trans hV) (by omega)⟩
            refine wp_region_held_drew (S := (fun w' => w'.heap[bx]? = some (.cells R 49 (0, 0)) ∧ ∀ j, j < 16 → w'.cell? ⟨gl, ol + k / 16 * 16 + j, none⟩ = some (.int .i64 (rowAt L (k / 16) j)))) (by kernel_rfl) ?_ (fun hHeld => ?_)
            · (try dsimp only); exact HSS.out _ (Old.refl _)
            refine wpAnyH_take (i := 0) (oi := ⟨some _, _, _, _, _, _⟩) (v := ?_) rfl (by kernel_rfl) (by kernel_rfl) (by kernel_rfl) (fun _ _ _ h => h) (Or.inl ⟨by kernel_rfl, ?_⟩) (by assumption) ?_; rotate_left; (intro w hSw; (try dsimp only at hSw); go_simp; try with_reducible rfl); try simp only [Act.put, List.setIfInBounds_toArray, List.set_cons_zero, List.set_cons_succ]
            refine wpAnyH_take (i := 1) (oi := ⟨some _, _, _, _, _, _⟩) (v := ?_) rfl (by kernel_rfl) (by kernel_rfl) (by kernel_rfl) (fun _ _ _ h => h) (Or.inl ⟨by kernel_rfl, ?_⟩) (by assumption) ?_; rotate_left; (intro w hSw; (try dsimp only at hSw); go_simp; try with_reducible rfl); try simp only [Act.put, List.setIfInBounds_toArray, List.set_cons_zero, List.set_cons_succ]
            refine wpAnyH_take (i := 2) (oi := ⟨some _, _, _, _, _, _⟩) (v := ?_) rfl (by kernel_rfl) (by kernel_rfl) (by kernel_rfl) (fun _ _ _ h => h) (Or.inl ⟨by kernel_rfl, ?_⟩) (by assumption) ?_; rotate_left; (intro w hSw; (try dsimp only at hSw); go_simp; try with_reducible rfl); try simp only [Act.put, List.setIfInBounds_toArray, List.set_cons_zero, List.set_cons_succ]
            refine wpAnyH_take (i := 3) (oi := ⟨some _, _, _, _, _, _⟩) (v := ?_) rfl (by kernel_rfl) (by kernel_rfl) (by kernel_rfl) (fun _ _ _ h => h) (Or.inl ⟨by kernel_rfl, ?_⟩) (by assumption) ?_; rotate_left; (intro w hSw; (try dsimp only at hSw); go_simp; try with_reducible rfl); try simp only [Act.put, List.setIfInBounds_toArray, List.set_cons_zero, List.set_cons_succ]
            refine wpAnyH_take (i := 4) (oi := ⟨some _, _, _, _, _, _⟩) (v := ?_) rfl (by kernel_rfl) (by kernel_rfl) (by kernel_rfl) (fun _ _ _ h => h) (Or.inl ⟨by kernel_rfl, ?_⟩) (by assumption) ?_; rotate_left; (intro w hSw; (try dsimp only at hSw); go_simp; try with_reducible rfl); try simp only [Act.put, List.setIfInBounds_toArray, List.set_cons_zero, List.set_cons_succ]
            refine wpAnyH_take (i := 5) (oi := ⟨some _, _, _, _, _, _⟩) (v := .agg (rowN 16 (blk (rowAt L (k / 16))))) rfl (by kernel_rfl) (by kernel_rfl) (by kernel_rfl) (fun _ _ _ h => h) (yieldsIf_load_blk 16 (rowAt L (k / 16)) (by kernel_rfl) 28 (.tmp 81) rfl gl (ol + k / 16 * 16) rfl _ (fun _ h => h.2) Try.underlying28 rfl Hs16.out) (by assumption) ?_; try simp only [Act.put, List.setIfInBounds_toArray, List.set_cons_zero, List.set_cons_succ]
            refine wpAnyH_ready (rs := [6, 7]) (by kernel_rfl) (by simp) ?_
            refine AllReadyH.cons (o := ⟨_, _, _, _, _, _⟩) rfl (fun K hK => ?_) (AllReadyH.cons (o := ⟨_, _, _, _, _, _⟩) rfl (fun K hK => ?_) AllReadyH.nil)
            · go_simp
              refine (HIv.out _ _).mono ?_
              rintro e V1 ⟨rfl, o1⟩
              go_wp2_with fail
              refine hK.out _ _ ?_ (fun hHeld => ?_)
              · (try dsimp only); exact HSS.out _ o1
              clear hK K
              try simp only [Act.put, List.setIfInBounds_toArray, List.set_cons_zero, List.set_cons_succ]
              refine wpAnyH_ready (rs := [7]) (by kernel_rfl) (by simp) ?_
              refine AllReadyH.cons (o := ⟨_, _, _, _, _, _⟩) rfl (fun K hK => ?_) AllReadyH.nil
              go_simp
              refine hK.out _ _ ?_ (fun hHeld => ?_)
              · (try dsimp only); exact HSS.out _ (o1.alloc' _)
              clear hK K
              try simp only [Act.put, List.setIfInBounds_toArray, List.set_cons_zero, List.set_cons_succ]
              have hcn : CellsAt (V1.alloc (.cells #[.int .i64 0, .int .i64 0, .int .i64 0, .int .i64 0, .int .i64 0, .int .i64 0, .int .i64 0, .int .i64 0, .int .i64 0, .int .i64 0, .int .i64 0, .int .i64 0, .int .i64 0, .int .i64 0, .int .i64 0, .int .i64 0] 28)) V1.heap.size 16 (fun _ => 0) := by rw [zeroB]; exact cellsAt_new _ _ _ _
              obtain ⟨oN, cN⟩ := new_store (U := w8.drew) hcn o1.size (o1.alloc' _) (bckN 4 (rowAt L (k / 16)))
              refine wpAnyH_ready (rs := [8]) (by kernel_rfl) (by simp) ?_
              refine AllReadyH.cons (o := ⟨_, _, _, _, _, _⟩) rfl (fun K hK => ?_) AllReadyH.nil
              rw [if_pos (by kernel_rfl)]
              refine wp_store_blk 16 (bckN 4 (rowAt L (k / 16))) 28 _ _ rfl (V1.heap.size) (0) rfl rfl (hcn.there 0 16 (by omega)) Hs16.out ?_
              try simp only [Act.put, List.setIfInBounds_toArray, List.set_cons_zero, List.set_cons_succ]
              refine hK.out _ _ ?_ (fun hHeld => ?_)
              · (try dsimp only); exact HSS.out _ oN
              clear hK K
              try simp only [Act.put, List.setIfInBounds_toArray, List.set_cons_zero, List.set_cons_succ]
              refine wpAnyH_done (by kernel_rfl) ?_ _
              have HcN := Lib.hid cN
              have HoN := Lib.hid oN
              clear cN oN hcn o1 HSS
              go_wp2_with fail
              go_meet
              exact ⟨_, rfl, HcN.out, (Old.drew (Old.refl _)).trans HoN.out⟩
            · go_simp
              refine hK.out _ _ ?_ (fun hHeld => ?_)
              · (try dsimp only); exact HSS.out _ ((Old.refl _).alloc' _)
              clear hK K
              try simp only [Act.put, List.setIfInBounds_toArray, List.set_cons_zero, List.set_cons_succ]
              refine wpAnyH_ready (rs := [6]) (by kernel_rfl) (by simp) ?_
              refine AllReadyH.cons (o := ⟨_, _, _, _, _, _⟩) rfl (fun K hK => ?_) AllReadyH.nil
              go_simp
              refine (HIv.out _ _).mono ?_
              rintro e V2 ⟨rfl, o2⟩
              go_wp2_with fail
              refine hK.out _ _ ?_ (fun hHeld => ?_)
              · (try dsimp only); exact HSS.out _ (((Old.refl _).alloc' _).trans o2)
              clear hK K
              try simp only [Act.put, List.setIfInBounds_toArray, List.set_cons_zero, List.set_cons_succ]
              have hcn : CellsAt V2 w8.heap.size 16 (fun _ => 0) := by
                have := cellsAt_new w8.drew 16 (fun _ => 0) 28
                rw [← zeroB] at this
                exact this.old o2
              obtain ⟨oN, cN⟩ := new_store (U := w8.drew) hcn (Nat.le_refl _) (((Old.refl _).alloc' _).trans o2) (bckN 4 (rowAt L (k / 16)))
              refine wpAnyH_ready (rs := [8]) (by kernel_rfl) (by simp) ?_
              refine AllReadyH.cons (o := ⟨_, _, _, _, _, _⟩) rfl (fun K hK => ?_) AllReadyH.nil
              rw [if_pos (by kernel_rfl)]
              refine wp_store_blk 16 (bckN 4 (rowAt L (k / 16))) 28 _ _ rfl (w8.heap.size) (0) rfl rfl (hcn.there 0 16 (by omega)) Hs16.out ?_
              try simp only [Act.put, List.setIfInBounds_toArray, List.set_cons_zero, List.set_cons_succ]
              refine hK.out _ _ ?_ (fun hHeld => ?_)
              · (try dsimp only); exact HSS.out _ oN
              clear hK K
              try simp only [Act.put, List.setIfInBounds_toArray, List.set_cons_zero, List.set_cons_succ]
              refine wpAnyH_done (by kernel_rfl) ?_ _
              have HcN := Lib.hid cN
              have HoN := Lib.hid oN
              clear cN oN hcn o2 HSS
              go_wp2_with fail
              go_meet
              exact ⟨_, rfl, HcN.out, (Old.drew (Old.refl _)).trans HoN.out⟩
          case rest =>
            obtain ⟨bs, rfl, hbs, how9⟩ := hcut
            obtain ⟨w9, rfl⟩ : ∃ V, V = wc := ⟨_, rfl⟩
            have Hbs := Lib.hid hbs
            have HOw9 := Lib.hid (HO68.out.trans how9)
            have HPw9 := Lib.hid how9
            clear hbs how9
            go_upto_region 21 with (fail)
            go_cut [16] (fun vv wx => ∃ bs, vv = .pointer (some ⟨bs, 0, none⟩) ∧ CellsAt wx bs 16 (bckN 4 (rowAt L (kk))) ∧ Old w9 wx)
            case first =>
              have HSS : Hid (∀ V, Old w9.drew V → V.heap[bx]? = some (.cells R 49 (0, 0)) ∧ ∀ j, j < 16 → V.cell? ⟨gl, ol + kk * 16 + j, none⟩ = some (.int .i64 (rowAt L (kk) j))) := fun V hV =>
                ⟨HBx.out _ ((HOw9.out.trans (Old.drew (Old.refl _))).trans hV), HRw.out V (kk) ((HOw9.out.trans (Old.drew (Old.refl _))).trans hV) (by omega)⟩
              refine wp_region_held_drew (S := (fun w' => w'.heap[bx]? = some (.cells R 49 (0, 0)) ∧ ∀ j, j < 16 → w'.cell? ⟨gl, ol + kk * 16 + j, none⟩ = some (.int .i64 (rowAt L (kk) j)))) (by kernel_rfl) ?_ (fun hHeld => ?_)
              · (try dsimp only); exact HSS.out _ (Old.refl _)
              refine wpAnyH_take (i := 0) (oi := ⟨some _, _, _, _, _, _⟩) (v := ?_) rfl (by kernel_rfl) (by kernel_rfl) (by kernel_rfl) (fun _ _ _ h => h) (Or.inl ⟨by kernel_rfl, ?_⟩) (by assumption) ?_; rotate_left; (intro w hSw; (try dsimp only at hSw); go_simp; try with_reducible rfl); try simp only [Act.put, List.setIfInBounds_toArray, List.set_cons_zero, List.set_cons_succ]
              refine wpAnyH_take (i := 1) (oi := ⟨some _, _, _, _, _, _⟩) (v := ?_) rfl (by kernel_rfl) (by kernel_rfl) (by kernel_rfl) (fun _ _ _ h => h) (Or.inl ⟨by kernel_rfl, ?_⟩) (by assumption) ?_; rotate_left; (intro w hSw; (try dsimp only at hSw); go_simp; try with_reducible rfl); try simp only [Act.put, List.setIfInBounds_toArray, List.set_cons_zero, List.set_cons_succ]
              refine wpAnyH_take (i := 2) (oi := ⟨some _, _, _, _, _, _⟩) (v := ?_) rfl (by kernel_rfl) (by kernel_rfl) (by kernel_rfl) (fun _ _ _ h => h) (Or.inl ⟨by kernel_rfl, ?_⟩) (by assumption) ?_; rotate_left; (intro w hSw; (try dsimp only at hSw); go_simp; try with_reducible rfl); try simp only [Act.put, List.setIfInBounds_toArray, List.set_cons_zero, List.set_cons_succ]
              refine wpAnyH_take (i := 3) (oi := ⟨some _, _, _, _, _, _⟩) (v := ?_) rfl (by kernel_rfl) (by kernel_rfl) (by kernel_rfl) (fun _ _ _ h => h) (Or.inl ⟨by kernel_rfl, ?_⟩) (by assumption) ?_; rotate_left; (intro w hSw; (try dsimp only at hSw); go_simp; try with_reducible rfl); try simp only [Act.put, List.setIfInBounds_toArray, List.set_cons_zero, List.set_cons_succ]
              refine wpAnyH_take (i := 4) (oi := ⟨some _, _, _, _, _, _⟩) (v := ?_) rfl (by kernel_rfl) (by kernel_rfl) (by kernel_rfl) (fun _ _ _ h => h) (Or.inl ⟨by kernel_rfl, ?_⟩) (by assumption) ?_; rotate_left; (intro w hSw; (try dsimp only at hSw); go_simp; try with_reducible rfl); try simp only [Act.put, List.setIfInBounds_toArray, List.set_cons_zero, List.set_cons_succ]
              refine wpAnyH_take (i := 5) (oi := ⟨some _, _, _, _, _, _⟩) (v := .agg (rowN 16 (blk (rowAt L (kk))))) rfl (by kernel_rfl) (by kernel_rfl) (by kernel_rfl) (fun _ _ _ h => h) (yieldsIf_load_blk 16 (rowAt L (kk)) (by kernel_rfl) 28 (.tmp 118) rfl gl (ol + kk * 16) rfl _ (fun _ h => h.2) Try.underlying28 rfl Hs16.out) (by assumption) ?_; try simp only [Act.put, List.setIfInBounds_toArray, List.set_cons_zero, List.set_cons_succ]
              refine wpAnyH_ready (rs := [6, 7]) (by kernel_rfl) (by simp) ?_
              refine AllReadyH.cons (o := ⟨_, _, _, _, _, _⟩) rfl (fun K hK => ?_) (AllReadyH.cons (o := ⟨_, _, _, _, _, _⟩) rfl (fun K hK => ?_) AllReadyH.nil)
              · go_simp
                refine (HIv.out _ _).mono ?_
                rintro e V1 ⟨rfl, o1⟩
                go_wp2_with fail
                refine hK.out _ _ ?_ (fun hHeld => ?_)
                · (try dsimp only); exact HSS.out _ o1
                clear hK K
                try simp only [Act.put, List.setIfInBounds_toArray, List.set_cons_zero, List.set_cons_succ]
                refine wpAnyH_ready (rs := [7]) (by kernel_rfl) (by simp) ?_
                refine AllReadyH.cons (o := ⟨_, _, _, _, _, _⟩) rfl (fun K hK => ?_) AllReadyH.nil
                go_simp
                refine hK.out _ _ ?_ (fun hHeld => ?_)
                · (try dsimp only); exact HSS.out _ (o1.alloc' _)
                clear hK K
                try simp only [Act.put, List.setIfInBounds_toArray, List.set_cons_zero, List.set_cons_succ]
                have hcn : CellsAt (V1.alloc (.cells #[.int .i64 0, .int .i64 0, .int .i64 0, .int .i64 0, .int .i64 0, .int .i64 0, .int .i64 0, .int .i64 0, .int .i64 0, .int .i64 0, .int .i64 0, .int .i64 0, .int .i64 0, .int .i64 0, .int .i64 0, .int .i64 0] 28)) V1.heap.size 16 (fun _ => 0) := by rw [zeroB]; exact cellsAt_new _ _ _ _
                obtain ⟨oN, cN⟩ := new_store (U := w9.drew) hcn o1.size (o1.alloc' _) (bckN 4 (rowAt L (kk)))
                refine wpAnyH_ready (rs := [8]) (by kernel_rfl) (by simp) ?_
                refine AllReadyH.cons (o := ⟨_, _, _, _, _, _⟩) rfl (fun K hK => ?_) AllReadyH.nil
                rw [if_pos (by kernel_rfl)]
                refine wp_store_blk 16 (bckN 4 (rowAt L (kk))) 28 _ _ rfl (V1.heap.size) (0) rfl rfl (hcn.there 0 16 (by omega)) Hs16.out ?_
                try simp only [Act.put, List.setIfInBounds_toArray, List.set_cons_zero, List.set_cons_succ]
                refine hK.out _ _ ?_ (fun hHeld => ?_)
                · (try dsimp only); exact HSS.out _ oN
                clear hK K
                try simp only [Act.put, List.setIfInBounds_toArray, List.set_cons_zero, List.set_cons_succ]
                refine wpAnyH_done (by kernel_rfl) ?_ _
                have HcN := Lib.hid cN
                have HoN := Lib.hid oN
                clear cN oN hcn o1 HSS
                go_wp2_with fail
                go_meet
                exact ⟨_, rfl, HcN.out, (Old.drew (Old.refl _)).trans HoN.out⟩
              · go_simp
                refine hK.out _ _ ?_ (fun hHeld => ?_)
                · (try dsimp only); exact HSS.out _ ((Old.refl _).alloc' _)
                clear hK K
                try simp only [Act.put, List.setIfInBounds_toArray, List.set_cons_zero, List.set_cons_succ]
                refine wpAnyH_ready (rs := [6]) (by kernel_rfl) (by simp) ?_
                refine AllReadyH.cons (o := ⟨_, _, _, _, _, _⟩) rfl (fun K hK => ?_) AllReadyH.nil
                go_simp
                refine (HIv.out _ _).mono ?_
                rintro e V2 ⟨rfl, o2⟩
                go_wp2_with fail
                refine hK.out _ _ ?_ (fun hHeld => ?_)
                · (try dsimp only); exact HSS.out _ (((Old.refl _).alloc' _).trans o2)
                clear hK K
                try simp only [Act.put, List.setIfInBounds_toArray, List.set_cons_zero, List.set_cons_succ]
                have hcn : CellsAt V2 w9.heap.size 16 (fun _ => 0) := by
                  have := cellsAt_new w9.drew 16 (fun _ => 0) 28
                  rw [← zeroB] at this
                  exact this.old o2
                obtain ⟨oN, cN⟩ := new_store (U := w9.drew) hcn (Nat.le_refl _) (((Old.refl _).alloc' _).trans o2) (bckN 4 (rowAt L (kk)))
                refine wpAnyH_ready (rs := [8]) (by kernel_rfl) (by simp) ?_
                refine AllReadyH.cons (o := ⟨_, _, _, _, _, _⟩) rfl (fun K hK => ?_) AllReadyH.nil
                rw [if_pos (by kernel_rfl)]
                refine wp_store_blk 16 (bckN 4 (rowAt L (kk))) 28 _ _ rfl (w9.heap.size) (0) rfl rfl (hcn.there 0 16 (by omega)) Hs16.out ?_
                try simp only [Act.put, List.setIfInBounds_toArray, List.set_cons_zero, List.set_cons_succ]
                refine hK.out _ _ ?_ (fun hHeld => ?_)
                · (try dsimp only); exact HSS.out _ oN
                clear hK K
                try simp only [Act.put, List.setIfInBounds_toArray, List.set_cons_zero, List.set_cons_succ]
                refine wpAnyH_done (by kernel_rfl) ?_ _
                have HcN := Lib.hid cN
                have HoN := Lib.hid oN
                clear cN oN hcn o2 HSS
                go_wp2_with fail
                go_meet
                exact ⟨_, rfl, HcN.out, (Old.drew (Old.refl _)).trans HoN.out⟩
            case rest =>
              obtain ⟨bo, rfl, hbo, how10⟩ := hcut
              obtain ⟨w10, rfl⟩ : ∃ V, V = wc := ⟨_, rfl⟩
              have Hbo := Lib.hid hbo
              have HOw10 := Lib.hid (HOw9.out.trans how10)
              have HPw10 := Lib.hid how10
              clear hbo how10
              have e17 := HYt.out
              have HbsA := Lib.hid (Hbs.out.old HPw10.out)
              have H17 := Lib.hid (fun (V : World) (o : Old w10 V) => HO1m.out bs bo (k % 16) (bckN 4 (rowAt L (k / 16))) (bckN 4 (rowAt L kk)) x V (Nat.lt_of_lt_of_le HbsA.out.lt o.size) (Nat.lt_of_lt_of_le Hbo.out.lt o.size) (fun j hj => (HbsA.out.old o).cell j hj) (fun j hj => (Hbo.out.old o).cell j hj) hkr)
              rw [← e17, e16] at H17
              have H18 := Lib.hid (fun (V : World) => HO1b.out ⟨bs, 0, none⟩ (some ⟨bo, 0, none⟩) x V)
              have HS17 : Hid (∀ V, Old w10.drew V → V.heap[bx]? = some (.cells R 49 (0, 0)) ∧ V.heap[w6.heap.size]? = some (.cells (rowN 4 (blk x)) 36 (0, 0)) ∧ V.cell? ⟨g5, k, none⟩ = some (.int .i64 y)) := fun V hV =>
                ⟨HBx.out _ ((HOw10.out.trans (Old.drew (Old.refl _))).trans hV), HX13.out _ (((HPw9.out.trans HPw10.out).trans (Old.drew (Old.refl _))).trans hV), (((HOw10.out.trans (Old.drew (Old.refl _))).trans hV).cell (a := ⟨g5, k, none⟩) HC6.out.lt).trans Hy.out⟩
              have HE9 := Lib.hid (HO6.out.trans HOw10.out)
              clear e17 HYt
              go_wp2_with fail
              refine wp_region_held_drew (S := (fun w' => w'.heap[bx]? = some (.cells R 49 (0, 0)) ∧ w'.heap[w6.heap.size]? = some (.cells (rowN 4 (blk x)) 36 (0, 0)) ∧ w'.cell? ⟨g5, k, none⟩ = some (.int .i64 y))) (by kernel_rfl) ?_ (fun hHeld => ?_)
              · (try dsimp only); exact HS17.out _ (Old.refl _)
              refine wpAnyH_take (i := 0) (oi := ⟨some _, _, _, _, _, _⟩) (v := .agg R) rfl (by kernel_rfl) (by kernel_rfl) (by kernel_rfl) (fun _ _ _ h => h) (yieldsIf_load_row (by kernel_rfl) 49 (.tmp 7) rfl bx rfl 49 R (0, 0) _ (fun _ h => h.1) Try.underlying49 rfl (by rw [h8]; exact HZ.out)) (by assumption) ?_; try simp only [Act.put, List.setIfInBounds_toArray, List.set_cons_zero, List.set_cons_succ]
              refine wpAnyH_take (i := 1) (oi := ⟨some _, _, _, _, _, _⟩) (v := .agg (rowN 4 (blk x))) rfl (by kernel_rfl) (by kernel_rfl) (by kernel_rfl) (fun _ _ _ h => h) (yieldsIf_load_row (by kernel_rfl) 36 (.tmp 13) rfl w6.heap.size rfl 36 (rowN 4 (blk x)) (0, 0) _ (fun _ h => h.2.1) Try.underlying36 rfl (by rw [rowN_size]; exact Hs4.out)) (by assumption) ?_; try simp only [Act.put, List.setIfInBounds_toArray, List.set_cons_zero, List.set_cons_succ]
              refine wpAnyH_take (i := 2) (oi := ⟨some _, _, _, _, _, _⟩) (v := ?_) rfl (by kernel_rfl) (by kernel_rfl) (by kernel_rfl) (fun _ _ _ h => h) (Or.inl ⟨by kernel_rfl, ?_⟩) (by assumption) ?_; rotate_left; (intro w hSw; (try dsimp only at hSw); go_simp; try with_reducible rfl); try simp only [Act.put, List.setIfInBounds_toArray, List.set_cons_zero, List.set_cons_succ]
              refine wpAnyH_take (i := 3) (oi := ⟨some _, _, _, _, _, _⟩) (v := ?_) rfl (by kernel_rfl) (by kernel_rfl) (by kernel_rfl) (fun _ _ _ h => h) (Or.inl ⟨by kernel_rfl, ?_⟩) (by assumption) ?_; rotate_left; (intro w hSw; (try dsimp only at hSw); go_simp; try with_reducible rfl); try simp only [Act.put, List.setIfInBounds_toArray, List.set_cons_zero, List.set_cons_succ]
              refine wpAnyH_take (i := 5) (oi := ⟨some _, _, _, _, _, _⟩) (v := ?_) rfl (by kernel_rfl) (by kernel_rfl) (by kernel_rfl) (fun _ _ _ h => h) (Or.inl ⟨by kernel_rfl, ?_⟩) (by assumption) ?_; rotate_left; (intro w hSw; (try dsimp only at hSw); go_simp; try with_reducible rfl); try simp only [Act.put, List.setIfInBounds_toArray, List.set_cons_zero, List.set_cons_succ]
              refine wpAnyH_take (i := 6) (oi := ⟨some _, _, _, _, _, _⟩) (v := ?_) rfl (by kernel_rfl) (by kernel_rfl) (by kernel_rfl) (fun _ _ _ h => h) (Or.inl ⟨by kernel_rfl, ?_⟩) (by assumption) ?_; rotate_left; (intro w hSw; (try dsimp only at hSw); go_simp; try with_reducible rfl); try simp only [Act.put, List.setIfInBounds_toArray, List.set_cons_zero, List.set_cons_succ]
              refine wpAnyH_take (i := 7) (oi := ⟨some _, _, _, _, _, _⟩) (v := ?_) rfl (by kernel_rfl) (by kernel_rfl) (by kernel_rfl) (fun _ _ _ h => h) (Or.inl ⟨by kernel_rfl, ?_⟩) (by assumption) ?_; rotate_left; (intro w hSw; (try dsimp only at hSw); go_simp; try with_reducible rfl); try simp only [Act.put, List.setIfInBounds_toArray, List.set_cons_zero, List.set_cons_succ]
              refine wpAnyH_take (i := 8) (oi := ⟨some _, _, _, _, _, _⟩) (v := ?_) rfl (by kernel_rfl) (by kernel_rfl) (by kernel_rfl) (fun _ _ _ h => h) (Or.inl ⟨by kernel_rfl, ?_⟩) (by assumption) ?_; rotate_left; (intro w hSw; (try dsimp only at hSw); go_simp; try with_reducible rfl); try simp only [Act.put, List.setIfInBounds_toArray, List.set_cons_zero, List.set_cons_succ]
              refine wpAnyH_ready (rs := [4]) (by kernel_rfl) (by simp) ?_
              refine AllReadyH.cons (o := ⟨_, _, _, _, _, _⟩) rfl (fun K hK => ?_) AllReadyH.nil
              go_simp
              refine (H17.out _ (Old.drew (Old.refl _))).mono ?_
              rintro e V1 ⟨rfl, o1⟩
              go_wp2_with fail
              refine hK.out _ _ ?_ (fun hHeld => ?_)
              · (try dsimp only); exact HS17.out _ o1
              clear hK K
              try simp only [Act.put, List.setIfInBounds_toArray, List.set_cons_zero, List.set_cons_succ]
              refine wpAnyH_take (i := 9) (oi := ⟨some _, _, _, _, _, _⟩) (v := ?_) rfl (by kernel_rfl) (by kernel_rfl) (by kernel_rfl) (fun _ _ _ h => h) (Or.inl ⟨by kernel_rfl, ?_⟩) (by assumption) ?_; rotate_left; (intro w hSw; (try dsimp only at hSw); go_simp; try with_reducible rfl); try simp only [Act.put, List.setIfInBounds_toArray, List.set_cons_zero, List.set_cons_succ]
              refine wpAnyH_take (i := 10) (oi := ⟨some _, _, _, _, _, _⟩) (v := ?_) rfl (by kernel_rfl) (by kernel_rfl) (by kernel_rfl) (fun _ _ _ h => h) (Or.inl ⟨by kernel_rfl, ?_⟩) (by assumption) ?_; rotate_left; (intro w hSw; (try dsimp only at hSw); go_simp; try with_reducible rfl); try simp only [Act.put, List.setIfInBounds_toArray, List.set_cons_zero, List.set_cons_succ]
              refine wpAnyH_take (i := 11) (oi := ⟨some _, _, _, _, _, _⟩) (v := .agg R) rfl (by kernel_rfl) (by kernel_rfl) (by kernel_rfl) (fun _ _ _ h => h) (yieldsIf_load_row (by kernel_rfl) 49 (.tmp 7) rfl bx rfl 49 R (0, 0) _ (fun _ h => h.1) Try.underlying49 rfl (by rw [h8]; exact HZ.out)) (by assumption) ?_; try simp only [Act.put, List.setIfInBounds_toArray, List.set_cons_zero, List.set_cons_succ]
              refine wpAnyH_take (i := 12) (oi := ⟨some _, _, _, _, _, _⟩) (v := .agg (rowN 4 (blk x))) rfl (by kernel_rfl) (by kernel_rfl) (by kernel_rfl) (fun _ _ _ h => h) (yieldsIf_load_row (by kernel_rfl) 36 (.tmp 13) rfl w6.heap.size rfl 36 (rowN 4 (blk x)) (0, 0) _ (fun _ h => h.2.1) Try.underlying36 rfl (by rw [rowN_size]; exact Hs4.out)) (by assumption) ?_; try simp only [Act.put, List.setIfInBounds_toArray, List.set_cons_zero, List.set_cons_succ]
              refine wpAnyH_ready (rs := [13]) (by kernel_rfl) (by simp) ?_
              refine AllReadyH.cons (o := ⟨_, _, _, _, _, _⟩) rfl (fun K hK => ?_) AllReadyH.nil
              go_simp
              refine (H18.out _).mono ?_
              rintro e V2 ⟨rfl, o2⟩
              go_wp2_with fail
              refine hK.out _ _ ?_ (fun hHeld => ?_)
              · (try dsimp only); exact HS17.out _ (o1.trans o2)
              clear hK K
              try simp only [Act.put, List.setIfInBounds_toArray, List.set_cons_zero, List.set_cons_succ]
              refine wpAnyH_take (i := 14) (oi := ⟨some _, _, _, _, _, _⟩) (v := ?_) rfl (by kernel_rfl) (by kernel_rfl) (by kernel_rfl) (fun _ _ _ h => h) (Or.inl ⟨by kernel_rfl, ?_⟩) (by assumption) ?_; rotate_left; (intro w hSw; (try dsimp only at hSw); go_simp; try with_reducible rfl); try simp only [Act.put, List.setIfInBounds_toArray, List.set_cons_zero, List.set_cons_succ]
              refine wpAnyH_take (i := 15) (oi := ⟨some _, _, _, _, _, _⟩) (v := ?_) rfl (by kernel_rfl) (by kernel_rfl) (by kernel_rfl) (fun _ _ _ h => h) (Or.inl ⟨by kernel_rfl, ?_⟩) (by assumption) ?_; rotate_left; (intro w hSw; (try dsimp only at hSw); go_simp; try with_reducible rfl); try simp only [Act.put, List.setIfInBounds_toArray, List.set_cons_zero, List.set_cons_succ]
              refine wpAnyH_take (i := 16) (oi := ⟨some _, _, _, _, _, _⟩) (v := ?_) rfl (by kernel_rfl) (by kernel_rfl) (by kernel_rfl) (fun _ _ _ h => h) (Or.inl ⟨by kernel_rfl, ?_⟩) (by assumption) ?_; rotate_left; (intro w hSw; (try dsimp only at hSw); go_simp; try with_reducible rfl); try simp only [Act.put, List.setIfInBounds_toArray, List.set_cons_zero, List.set_cons_succ]
              refine wpAnyH_ready (rs := [17]) (by kernel_rfl) (by simp) ?_
              refine AllReadyH.cons (o := ⟨_, _, _, _, _, _⟩) rfl (fun K hK => ?_) AllReadyH.nil
              go_simp
              refine (HA.out _).mono ?_
              rintro e V3 ⟨rfl, rfl⟩
              go_wp2_with fail
              refine hK.out _ _ ?_ (fun hHeld => ?_)
              · (try dsimp only); exact HS17.out _ (o1.trans o2)
              clear hK K
              try simp only [Act.put, List.setIfInBounds_toArray, List.set_cons_zero, List.set_cons_succ]
              refine wpAnyH_take (i := 18) (oi := ⟨some _, _, _, _, _, _⟩) (v := ?_) rfl (by kernel_rfl) (by kernel_rfl) (by kernel_rfl) (fun _ _ _ h => h) (Or.inl ⟨by kernel_rfl, ?_⟩) (by assumption) ?_; rotate_left; (intro w hSw; (try dsimp only at hSw); go_simp; try with_reducible rfl); try simp only [Act.put, List.setIfInBounds_toArray, List.set_cons_zero, List.set_cons_succ]
              refine wpAnyH_take (i := 19) (oi := ⟨some _, _, _, _, _, _⟩) (v := ?_) rfl (by kernel_rfl) (by kernel_rfl) (by kernel_rfl) (fun _ _ _ h => h) (Or.inl ⟨by kernel_rfl, ?_⟩) (by assumption) ?_; rotate_left; (intro w hSw; (try dsimp only at hSw); go_simp; try with_reducible rfl); try simp only [Act.put, List.setIfInBounds_toArray, List.set_cons_zero, List.set_cons_succ]
              refine wpAnyH_done (by kernel_rfl) ?_ _
              have HE := Lib.hid (HE9.out.trans ((Old.drew (Old.refl _)).trans (o1.trans o2)))
              clear HS17 H17 H18 o1 o2 HE9
              go_wp2_with fail
              go_ret
              exact ⟨rfl, HE.out⟩
      · obtain ⟨m1, m2⟩ : ¬ (8 ≤ k % 16 ∧ k / 16 + 1 < n) ∧ ¬ (k % 16 < 8 ∧ 1 ≤ k / 16) := ⟨fun h => hm (.inl h), fun h => hm (.inr h)⟩
        obtain ⟨a1, a2⟩ := need_alone k n hkn m1 m2
        rw [a1, a2] at hNd
        rw [whole_alone n L k hkn m1 m2] at hyt
        have HNd := Lib.hid hNd
        have HYt := Lib.hid hyt
        clear hNd hyt a1 a2 m1 m2 hm hy HWt
        go_wp2_with fail
        refine HNd.out.mono ?_
        rintro e w7 ⟨rfl, rfl⟩
        go_upto_if 72 with (fail)
        go_cut [13] (fun v13 wx => v13 = .pointer (some ⟨w6.heap.size, 0, none⟩) ∧ wx.heap[w6.heap.size]? = some (.cells (rowN 4 (blk x)) 36 (0, 0)) ∧ Old w6 wx)
        case first =>
          by_cases hgk : k / 16 < ng
          · obtain ⟨gg, og, rfl, hgg, hcg⟩ := HG6.out (by omega)
            have hgk' : (k : Int) / 16 < ng := by omega
            have HCg : Hid (∀ j, j < 4 → (w6.alloc (.cells #[.int .i64 0, .int .i64 0, .int .i64 0, .int .i64 0] 36)).cell? ⟨gg, og + k / 16 * 4 + j, none⟩ = some (.int .i64 (x j))) := fun j hj => by
              rw [HX.out]
              unfold gainsAt
              rw [if_pos hgk, Nat.add_assoc]
              exact ((Old.alloc w6 _).cell (a := ⟨gg, og + (k / 16 * 4 + j), none⟩) hgg).trans (hcg _ (by omega))
            have H1g := Lib.hid (blk_one x 4)
            clear hcg hgg
            go_wp2_with (first | (with_reducible refine wpList_load_blk rfl 4 x 36 _ rfl gg (og + k / 16 * 4) rfl _ HCg.out Try.underlying36 rfl Hs4.out ?_) | (with_reducible refine wpList_store_row rfl 36 _ _ rfl w6.heap.size (rowN 4 (blk x)) rfl rfl 36 _ (heap_alloc_new _ _) (by rw [rowN_size]; exact Hs4.out) (by rw [rowN_size]; kernel_rfl) H1g.out ?_; rw [World.setRow_alloc_new]))
            go_meet
            exact ⟨rfl, heap_alloc_new _ _, Old.alloc _ _⟩
          · have hgk' : (ng : Int) ≤ (k : Int) / 16 := by omega
            go_wp2_with fail
            go_meet
            refine ⟨rfl, ?_, Old.alloc _ _⟩
            rw [HX.out, show rowN 4 (blk (gainsAt G ng (k / 16))) = #[.int .i64 0, .int .i64 0, .int .i64 0, .int .i64 0] from by unfold gainsAt; rw [if_neg hgk]; rfl]
            exact heap_alloc_new _ _
        case rest =>
          obtain ⟨rfl, hx13, ho68⟩ := hcut
          obtain ⟨w8, rfl⟩ : ∃ V, V = wc := ⟨_, rfl⟩
          have HX13 : Hid (∀ V, Old w8 V → V.heap[w6.heap.size]? = some (.cells (rowN 4 (blk x)) 36 (0, 0))) := fun V hV => (hV.block _ (lt_of_block hx13)).trans hx13
          have HO68 := Lib.hid ho68
          clear hx13 ho68 HG6 HX HNd
          go_upto_region 15 with (fail)
          go_cut [14] (fun vv wx => ∃ bs, vv = .pointer (some ⟨bs, 0, none⟩) ∧ CellsAt wx bs 16 (bckN 4 (rowAt L (k / 16))) ∧ Old w8 wx)
          case first =>
            have HSS : Hid (∀ V, Old w8.drew V → V.heap[bx]? = some (.cells R 49 (0, 0)) ∧ ∀ j, j < 16 → V.cell? ⟨gl, ol + k / 16 * 16 + j, none⟩ = some (.int .i64 (rowAt L (k / 16) j))) := fun V hV =>
              ⟨HBx.out _ ((HO68.out.trans (Old.drew (Old.refl _))).trans hV), HRw.out V (k / 16) ((HO68.out.trans (Old.drew (Old.refl _))).trans hV) (by omega)⟩
            refine wp_region_held_drew (S := (fun w' => w'.heap[bx]? = some (.cells R 49 (0, 0)) ∧ ∀ j, j < 16 → w'.cell? ⟨gl, ol + k / 16 * 16 + j, none⟩ = some (.int .i64 (rowAt L (k / 16) j)))) (by kernel_rfl) ?_ (fun hHeld => ?_)
            · (try dsimp only); exact HSS.out _ (Old.refl _)
            refine wpAnyH_take (i := 0) (oi := ⟨some _, _, _, _, _, _⟩) (v := ?_) rfl (by kernel_rfl) (by kernel_rfl) (by kernel_rfl) (fun _ _ _ h => h) (Or.inl ⟨by kernel_rfl, ?_⟩) (by assumption) ?_; rotate_left; (intro w hSw; (try dsimp only at hSw); go_simp; try with_reducible rfl); try simp only [Act.put, List.setIfInBounds_toArray, List.set_cons_zero, List.set_cons_succ]
            refine wpAnyH_take (i := 1) (oi := ⟨some _, _, _, _, _, _⟩) (v := ?_) rfl (by kernel_rfl) (by kernel_rfl) (by kernel_rfl) (fun _ _ _ h => h) (Or.inl ⟨by kernel_rfl, ?_⟩) (by assumption) ?_; rotate_left; (intro w hSw; (try dsimp only at hSw); go_simp; try with_reducible rfl); try simp only [Act.put, List.setIfInBounds_toArray, List.set_cons_zero, List.set_cons_succ]
            refine wpAnyH_take (i := 2) (oi := ⟨some _, _, _, _, _, _⟩) (v := ?_) rfl (by kernel_rfl) (by kernel_rfl) (by kernel_rfl) (fun _ _ _ h => h) (Or.inl ⟨by kernel_rfl, ?_⟩) (by assumption) ?_; rotate_left; (intro w hSw; (try dsimp only at hSw); go_simp; try with_reducible rfl); try simp only [Act.put, List.setIfInBounds_toArray, List.set_cons_zero, List.set_cons_succ]
            refine wpAnyH_take (i := 3) (oi := ⟨some _, _, _, _, _, _⟩) (v := ?_) rfl (by kernel_rfl) (by kernel_rfl) (by kernel_rfl) (fun _ _ _ h => h) (Or.inl ⟨by kernel_rfl, ?_⟩) (by assumption) ?_; rotate_left; (intro w hSw; (try dsimp only at hSw); go_simp; try with_reducible rfl); try simp only [Act.put, List.setIfInBounds_toArray, List.set_cons_zero, List.set_cons_succ]
            refine wpAnyH_take (i := 4) (oi := ⟨some _, _, _, _, _, _⟩) (v := ?_) rfl (by kernel_rfl) (by kernel_rfl) (by kernel_rfl) (fun _ _ _ h => h) (Or.inl ⟨by kernel_rfl, ?_⟩) (by assumption) ?_; rotate_left; (intro w hSw; (try dsimp only at hSw); go_simp; try with_reducible rfl); try simp only [Act.put, List.setIfInBounds_toArray, List.set_cons_zero, List.set_cons_succ]
            refine wpAnyH_take (i := 5) (oi := ⟨some _, _, _, _, _, _⟩) (v := .agg (rowN 16 (blk (rowAt L (k / 16))))) rfl (by kernel_rfl) (by kernel_rfl) (by kernel_rfl) (fun _ _ _ h => h) (yieldsIf_load_blk 16 (rowAt L (k / 16)) (by kernel_rfl) 28 (.tmp 81) rfl gl (ol + k / 16 * 16) rfl _ (fun _ h => h.2) Try.underlying28 rfl Hs16.out) (by assumption) ?_; try simp only [Act.put, List.setIfInBounds_toArray, List.set_cons_zero, List.set_cons_succ]
            refine wpAnyH_ready (rs := [6, 7]) (by kernel_rfl) (by simp) ?_
            refine AllReadyH.cons (o := ⟨_, _, _, _, _, _⟩) rfl (fun K hK => ?_) (AllReadyH.cons (o := ⟨_, _, _, _, _, _⟩) rfl (fun K hK => ?_) AllReadyH.nil)
            · go_simp
              refine (HIv.out _ _).mono ?_
              rintro e V1 ⟨rfl, o1⟩
              go_wp2_with fail
              refine hK.out _ _ ?_ (fun hHeld => ?_)
              · (try dsimp only); exact HSS.out _ o1
              clear hK K
              try simp only [Act.put, List.setIfInBounds_toArray, List.set_cons_zero, List.set_cons_succ]
              refine wpAnyH_ready (rs := [7]) (by kernel_rfl) (by simp) ?_
              refine AllReadyH.cons (o := ⟨_, _, _, _, _, _⟩) rfl (fun K hK => ?_) AllReadyH.nil
              go_simp
              refine hK.out _ _ ?_ (fun hHeld => ?_)
              · (try dsimp only); exact HSS.out _ (o1.alloc' _)
              clear hK K
              try simp only [Act.put, List.setIfInBounds_toArray, List.set_cons_zero, List.set_cons_succ]
              have hcn : CellsAt (V1.alloc (.cells #[.int .i64 0, .int .i64 0, .int .i64 0, .int .i64 0, .int .i64 0, .int .i64 0, .int .i64 0, .int .i64 0, .int .i64 0, .int .i64 0, .int .i64 0, .int .i64 0, .int .i64 0, .int .i64 0, .int .i64 0, .int .i64 0] 28)) V1.heap.size 16 (fun _ => 0) := by rw [zeroB]; exact cellsAt_new _ _ _ _
              obtain ⟨oN, cN⟩ := new_store (U := w8.drew) hcn o1.size (o1.alloc' _) (bckN 4 (rowAt L (k / 16)))
              refine wpAnyH_ready (rs := [8]) (by kernel_rfl) (by simp) ?_
              refine AllReadyH.cons (o := ⟨_, _, _, _, _, _⟩) rfl (fun K hK => ?_) AllReadyH.nil
              rw [if_pos (by kernel_rfl)]
              refine wp_store_blk 16 (bckN 4 (rowAt L (k / 16))) 28 _ _ rfl (V1.heap.size) (0) rfl rfl (hcn.there 0 16 (by omega)) Hs16.out ?_
              try simp only [Act.put, List.setIfInBounds_toArray, List.set_cons_zero, List.set_cons_succ]
              refine hK.out _ _ ?_ (fun hHeld => ?_)
              · (try dsimp only); exact HSS.out _ oN
              clear hK K
              try simp only [Act.put, List.setIfInBounds_toArray, List.set_cons_zero, List.set_cons_succ]
              refine wpAnyH_done (by kernel_rfl) ?_ _
              have HcN := Lib.hid cN
              have HoN := Lib.hid oN
              clear cN oN hcn o1 HSS
              go_wp2_with fail
              go_meet
              exact ⟨_, rfl, HcN.out, (Old.drew (Old.refl _)).trans HoN.out⟩
            · go_simp
              refine hK.out _ _ ?_ (fun hHeld => ?_)
              · (try dsimp only); exact HSS.out _ ((Old.refl _).alloc' _)
              clear hK K
              try simp only [Act.put, List.setIfInBounds_toArray, List.set_cons_zero, List.set_cons_succ]
              refine wpAnyH_ready (rs := [6]) (by kernel_rfl) (by simp) ?_
              refine AllReadyH.cons (o := ⟨_, _, _, _, _, _⟩) rfl (fun K hK => ?_) AllReadyH.nil
              go_simp
              refine (HIv.out _ _).mono ?_
              rintro e V2 ⟨rfl, o2⟩
              go_wp2_with fail
              refine hK.out _ _ ?_ (fun hHeld => ?_)
              · (try dsimp only); exact HSS.out _ (((Old.refl _).alloc' _).trans o2)
              clear hK K
              try simp only [Act.put, List.setIfInBounds_toArray, List.set_cons_zero, List.set_cons_succ]
              have hcn : CellsAt V2 w8.heap.size 16 (fun _ => 0) := by
                have := cellsAt_new w8.drew 16 (fun _ => 0) 28
                rw [← zeroB] at this
                exact this.old o2
              obtain ⟨oN, cN⟩ := new_store (U := w8.drew) hcn (Nat.le_refl _) (((Old.refl _).alloc' _).trans o2) (bckN 4 (rowAt L (k / 16)))
              refine wpAnyH_ready (rs := [8]) (by kernel_rfl) (by simp) ?_
              refine AllReadyH.cons (o := ⟨_, _, _, _, _, _⟩) rfl (fun K hK => ?_) AllReadyH.nil
              rw [if_pos (by kernel_rfl)]
              refine wp_store_blk 16 (bckN 4 (rowAt L (k / 16))) 28 _ _ rfl (w8.heap.size) (0) rfl rfl (hcn.there 0 16 (by omega)) Hs16.out ?_
              try simp only [Act.put, List.setIfInBounds_toArray, List.set_cons_zero, List.set_cons_succ]
              refine hK.out _ _ ?_ (fun hHeld => ?_)
              · (try dsimp only); exact HSS.out _ oN
              clear hK K
              try simp only [Act.put, List.setIfInBounds_toArray, List.set_cons_zero, List.set_cons_succ]
              refine wpAnyH_done (by kernel_rfl) ?_ _
              have HcN := Lib.hid cN
              have HoN := Lib.hid oN
              clear cN oN hcn o2 HSS
              go_wp2_with fail
              go_meet
              exact ⟨_, rfl, HcN.out, (Old.drew (Old.refl _)).trans HoN.out⟩
          case rest =>
            obtain ⟨bs, rfl, hbs, how9⟩ := hcut
            obtain ⟨w9, rfl⟩ : ∃ V, V = wc := ⟨_, rfl⟩
            have Hbs := Lib.hid hbs
            have HOw9 := Lib.hid (HO68.out.trans how9)
            have HPw9 := Lib.hid how9
            clear hbs how9
            have e17 := HYt.out
            have H17 := Lib.hid (fun (V : World) (o : Old w9 V) => HO1a.out bs (k % 16) (bckN 4 (rowAt L (k / 16))) x V (Nat.lt_of_lt_of_le Hbs.out.lt o.size) (fun j hj => (Hbs.out.old o).cell j hj) (fun j _ => HBd.out _ j) hkr)
            rw [← e17, e16] at H17
            have HS17 : Hid (∀ V, Old w9.drew V → V.heap[bx]? = some (.cells R 49 (0, 0)) ∧ V.heap[w6.heap.size]? = some (.cells (rowN 4 (blk x)) 36 (0, 0)) ∧ V.cell? ⟨g5, k, none⟩ = some (.int .i64 y)) := fun V hV =>
              ⟨HBx.out _ ((HOw9.out.trans (Old.drew (Old.refl _))).trans hV), HX13.out _ ((HPw9.out.trans (Old.drew (Old.refl _))).trans hV), (((HOw9.out.trans (Old.drew (Old.refl _))).trans hV).cell (a := ⟨g5, k, none⟩) HC6.out.lt).trans Hy.out⟩
            have HE9 := Lib.hid (HO6.out.trans HOw9.out)
            clear e17 HYt
            go_wp2_with fail
            refine wp_region_held_drew (S := (fun w' => w'.heap[bx]? = some (.cells R 49 (0, 0)) ∧ w'.heap[w6.heap.size]? = some (.cells (rowN 4 (blk x)) 36 (0, 0)) ∧ w'.cell? ⟨g5, k, none⟩ = some (.int .i64 y))) (by kernel_rfl) ?_ (fun hHeld => ?_)
            · (try dsimp only); exact HS17.out _ (Old.refl _)
            refine wpAnyH_take (i := 0) (oi := ⟨some _, _, _, _, _, _⟩) (v := .agg R) rfl (by kernel_rfl) (by kernel_rfl) (by kernel_rfl) (fun _ _ _ h => h) (yieldsIf_load_row (by kernel_rfl) 49 (.tmp 7) rfl bx rfl 49 R (0, 0) _ (fun _ h => h.1) Try.underlying49 rfl (by rw [h8]; exact HZ.out)) (by assumption) ?_; try simp only [Act.put, List.setIfInBounds_toArray, List.set_cons_zero, List.set_cons_succ]
            refine wpAnyH_take (i := 1) (oi := ⟨some _, _, _, _, _, _⟩) (v := ?_) rfl (by kernel_rfl) (by kernel_rfl) (by kernel_rfl) (fun _ _ _ h => h) (Or.inl ⟨by kernel_rfl, ?_⟩) (by assumption) ?_; rotate_left; (intro w hSw; (try dsimp only at hSw); go_simp; try with_reducible rfl); try simp only [Act.put, List.setIfInBounds_toArray, List.set_cons_zero, List.set_cons_succ]
            refine wpAnyH_take (i := 2) (oi := ⟨some _, _, _, _, _, _⟩) (v := .agg (rowN 4 (blk x))) rfl (by kernel_rfl) (by kernel_rfl) (by kernel_rfl) (fun _ _ _ h => h) (yieldsIf_load_row (by kernel_rfl) 36 (.tmp 13) rfl w6.heap.size rfl 36 (rowN 4 (blk x)) (0, 0) _ (fun _ h => h.2.1) Try.underlying36 rfl (by rw [rowN_size]; exact Hs4.out)) (by assumption) ?_; try simp only [Act.put, List.setIfInBounds_toArray, List.set_cons_zero, List.set_cons_succ]
            refine wpAnyH_take (i := 3) (oi := ⟨some _, _, _, _, _, _⟩) (v := ?_) rfl (by kernel_rfl) (by kernel_rfl) (by kernel_rfl) (fun _ _ _ h => h) (Or.inl ⟨by kernel_rfl, ?_⟩) (by assumption) ?_; rotate_left; (intro w hSw; (try dsimp only at hSw); go_simp; try with_reducible rfl); try simp only [Act.put, List.setIfInBounds_toArray, List.set_cons_zero, List.set_cons_succ]
            refine wpAnyH_take (i := 4) (oi := ⟨some _, _, _, _, _, _⟩) (v := ?_) rfl (by kernel_rfl) (by kernel_rfl) (by kernel_rfl) (fun _ _ _ h => h) (Or.inl ⟨by kernel_rfl, ?_⟩) (by assumption) ?_; rotate_left; (intro w hSw; (try dsimp only at hSw); go_simp; try with_reducible rfl); try simp only [Act.put, List.setIfInBounds_toArray, List.set_cons_zero, List.set_cons_succ]
            refine wpAnyH_take (i := 6) (oi := ⟨some _, _, _, _, _, _⟩) (v := ?_) rfl (by kernel_rfl) (by kernel_rfl) (by kernel_rfl) (fun _ _ _ h => h) (Or.inl ⟨by kernel_rfl, ?_⟩) (by assumption) ?_; rotate_left; (intro w hSw; (try dsimp only at hSw); go_simp; try with_reducible rfl); try simp only [Act.put, List.setIfInBounds_toArray, List.set_cons_zero, List.set_cons_succ]
            refine wpAnyH_take (i := 7) (oi := ⟨some _, _, _, _, _, _⟩) (v := ?_) rfl (by kernel_rfl) (by kernel_rfl) (by kernel_rfl) (fun _ _ _ h => h) (Or.inl ⟨by kernel_rfl, ?_⟩) (by assumption) ?_; rotate_left; (intro w hSw; (try dsimp only at hSw); go_simp; try with_reducible rfl); try simp only [Act.put, List.setIfInBounds_toArray, List.set_cons_zero, List.set_cons_succ]
            refine wpAnyH_take (i := 8) (oi := ⟨some _, _, _, _, _, _⟩) (v := ?_) rfl (by kernel_rfl) (by kernel_rfl) (by kernel_rfl) (fun _ _ _ h => h) (Or.inl ⟨by kernel_rfl, ?_⟩) (by assumption) ?_; rotate_left; (intro w hSw; (try dsimp only at hSw); go_simp; try with_reducible rfl); try simp only [Act.put, List.setIfInBounds_toArray, List.set_cons_zero, List.set_cons_succ]
            refine wpAnyH_take (i := 9) (oi := ⟨some _, _, _, _, _, _⟩) (v := ?_) rfl (by kernel_rfl) (by kernel_rfl) (by kernel_rfl) (fun _ _ _ h => h) (Or.inl ⟨by kernel_rfl, ?_⟩) (by assumption) ?_; rotate_left; (intro w hSw; (try dsimp only at hSw); go_simp; try with_reducible rfl); try simp only [Act.put, List.setIfInBounds_toArray, List.set_cons_zero, List.set_cons_succ]
            refine wpAnyH_ready (rs := [5]) (by kernel_rfl) (by simp) ?_
            refine AllReadyH.cons (o := ⟨_, _, _, _, _, _⟩) rfl (fun K hK => ?_) AllReadyH.nil
            go_simp
            refine (H17.out _ (Old.drew (Old.refl _))).mono ?_
            rintro e V1 ⟨rfl, o1⟩
            go_wp2_with fail
            refine hK.out _ _ ?_ (fun hHeld => ?_)
            · (try dsimp only); exact HS17.out _ o1
            clear hK K
            try simp only [Act.put, List.setIfInBounds_toArray, List.set_cons_zero, List.set_cons_succ]
            refine wpAnyH_take (i := 10) (oi := ⟨some _, _, _, _, _, _⟩) (v := ?_) rfl (by kernel_rfl) (by kernel_rfl) (by kernel_rfl) (fun _ _ _ h => h) (Or.inl ⟨by kernel_rfl, ?_⟩) (by assumption) ?_; rotate_left; (intro w hSw; (try dsimp only at hSw); go_simp; try with_reducible rfl); try simp only [Act.put, List.setIfInBounds_toArray, List.set_cons_zero, List.set_cons_succ]
            refine wpAnyH_take (i := 11) (oi := ⟨some _, _, _, _, _, _⟩) (v := ?_) rfl (by kernel_rfl) (by kernel_rfl) (by kernel_rfl) (fun _ _ _ h => h) (Or.inl ⟨by kernel_rfl, ?_⟩) (by assumption) ?_; rotate_left; (intro w hSw; (try dsimp only at hSw); go_simp; try with_reducible rfl); try simp only [Act.put, List.setIfInBounds_toArray, List.set_cons_zero, List.set_cons_succ]
            refine wpAnyH_ready (rs := [12]) (by kernel_rfl) (by simp) ?_
            refine AllReadyH.cons (o := ⟨_, _, _, _, _, _⟩) rfl (fun K hK => ?_) AllReadyH.nil
            go_simp
            refine (HA.out _).mono ?_
            rintro e V2 ⟨rfl, rfl⟩
            go_wp2_with fail
            refine hK.out _ _ ?_ (fun hHeld => ?_)
            · (try dsimp only); exact HS17.out _ o1
            clear hK K
            try simp only [Act.put, List.setIfInBounds_toArray, List.set_cons_zero, List.set_cons_succ]
            refine wpAnyH_take (i := 13) (oi := ⟨some _, _, _, _, _, _⟩) (v := ?_) rfl (by kernel_rfl) (by kernel_rfl) (by kernel_rfl) (fun _ _ _ h => h) (Or.inl ⟨by kernel_rfl, ?_⟩) (by assumption) ?_; rotate_left; (intro w hSw; (try dsimp only at hSw); go_simp; try with_reducible rfl); try simp only [Act.put, List.setIfInBounds_toArray, List.set_cons_zero, List.set_cons_succ]
            refine wpAnyH_take (i := 14) (oi := ⟨some _, _, _, _, _, _⟩) (v := ?_) rfl (by kernel_rfl) (by kernel_rfl) (by kernel_rfl) (fun _ _ _ h => h) (Or.inl ⟨by kernel_rfl, ?_⟩) (by assumption) ?_; rotate_left; (intro w hSw; (try dsimp only at hSw); go_simp; try with_reducible rfl); try simp only [Act.put, List.setIfInBounds_toArray, List.set_cons_zero, List.set_cons_succ]
            refine wpAnyH_done (by kernel_rfl) ?_ _
            have HE := Lib.hid (HE9.out.trans ((Old.drew (Old.refl _)).trans o1))
            clear HS17 H17 o1 HE9
            go_wp2_with fail
            go_ret
            exact ⟨rfl, HE.out⟩



theorem own : ownKnob Try.prog.godebug = none := by kernel_rfl
theorem laidOut : laidOutB Try.prog = true := by kernel_rfl

set_option maxRecDepth 100000 in
theorem lifted (os : Os) (started : os.Started) (H : Type) (enc : TypeId × Value → H) :
    ReturnsInHanded {} Try.checked os 7 .any (Rows.lapOnesSpec.pre6 enc Try.prog Try.f7 Rows.lapOnesRow.domain false) (Rows.lapOnesSpec.post enc Try.prog Try.f7 false true false false) := by
  refine returnsInHanded_of_change (C := Try.checked) own started (by kernel_rfl) Try.func7
    (ChangeSpec.witness6 (enc := enc) (C := Try.checked) false ⟨#[], #[.slice none 0 0, .slice none 0 0, .int .i64 0], []⟩ 8 (by kernel_rfl) (by kernel_rfl) (by kernel_rfl) (by kernel_rfl)) ?_
  intro W base args ds gs before hval0 hW hcnd _
  have hval : ∀ (j : Nat) t v, Try.f7.params[j]? = some t → args[j]? = some v → Value.okWide Try.prog W .any base t v := hval0
  have hW' := hW
  have hlt : ∀ p ∈ before, p.block < W.heap.size := fun p hp => hW'.lt p hp
  obtain ⟨p, q, hA0, hV, rfl, hfz, hnd⟩ := hW
  have hA : DataW.TrodAll enc Try.prog W 0 (fun _ => true) true Try.f7.params.toList args.toList ds p := hA0
  rw [Try.params7] at hA hval
  obtain ⟨v0, vs0, d0, ds0, p0, q0, hargs, rfl, rfl, h0, r0⟩ := trodAll_cons hA
  obtain ⟨v1, vs1, d1, ds1, p1, q1, rfl, rfl, rfl, h1, r1⟩ := trodAll_cons r0
  obtain ⟨v2, vs2, d2, ds2, p2, q2, rfl, rfl, rfl, h2, r2⟩ := trodAll_cons r1
  obtain ⟨rfl, rfl, rfl⟩ := trodAll_nil r2
  obtain rfl : args = #[v0, v1, v2] := by cases args; simp_all
  obtain ⟨rfl, rfl⟩ := trodVars_none hV
  obtain ⟨rr0, m0, k0, F0, rfl, hm0, hk0, hF0, h64F0, _⟩ := open_arrs (s := 16) Try.underlying24 Try.underlying28 Try.underlying2 (by kernel_rfl) (by kernel_rfl) (by omega) (hval 0 24 v0 rfl rfl) h0 (fun x hx => hlt x (by simp [hx]))
  obtain ⟨rr1, m1, k1, F1, rfl, hm1, hk1, hF1, h64F1, _⟩ := open_arrs (s := 4) Try.underlying33 Try.underlying36 Try.underlying3 (by kernel_rfl) (by kernel_rfl) (by omega) (hval 1 33 v1 rfl rfl) h1 (fun x hx => hlt x (by simp [hx]))
  obtain ⟨a2, rfl, _, _, w2⟩ := open_int Try.underlying3 (hval 2 3 v2 rfl rfl) h2
  refine (walk rr0 m0 k0 F0 rr1 m1 k1 F1 a2 W hF0 h64F0 (by unfold maxLen at hk0; omega) hF1 h64F1 (by unfold maxLen at hk1; omega) (i64_of w2).1 (i64_of w2).2).mono fun e W' ⟨he, hg⟩ => ?_
  subst he
  exact ⟨_, rfl, law_done laidOut Try.underlying4 rfl (by kernel_rfl) rfl hW' rfl hg⟩

theorem over : Rows.lapOnesRow.holds Try.pinned (OpenSpec.ofChange Rows.lapOnesSpec) :=
  OpenClaim.holds_of_wide 7 Try.f7 rfl rfl rfl rfl rfl rfl rfl ⟨rfl, rfl, rfl, rfl, rfl⟩ rfl rfl rfl rfl rfl (by kernel_rfl) Try.func7 (by kernel_rfl)
    (of_decide_eq_true (by kernel_rfl)) (by unfold Func.isWrapper; first | (rw [if_pos (by decide +kernel)]; kernel_rfl) | (rw [if_neg (by decide +kernel)]; exact ⟨rfl, rfl⟩))
    (fun os started H enc _ => lifted os started H enc)

theorem proved : Rows.LapOnesSaid :=
  over
end Go.Proofs.Ytpdjdejlhjcicaa.lapOnes
