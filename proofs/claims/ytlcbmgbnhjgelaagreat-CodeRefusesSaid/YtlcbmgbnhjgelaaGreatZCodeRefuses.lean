/- CodeRefuses: for every list of numbers (cut to 150) and all bytes (cut to 500) Frames refuses just the lists that are no samples, Read just the bytes that are no frames, with the first error of these, and a nil coder says what the chapter says. No condition. -/
import Derived.Test.YtlcbmgbnhjgelaaGreatRows
import Derived.Deep.DeepCutAuto
import Derived.Deep.CutBlock
import Derived.BigQuiet
import Derived.Test.YtlcbmgbnhjgelaaGreatPkAL
import Derived.Test.YtlcbmgbnhjgelaaGreatPkAP
namespace Go.Proofs.YtlcbmgbnhjgelaaGreat.codeRefuses
open Go.ChangeShapes Go.WideShapes Go.ChangeAt Go.RowKit
set_option linter.unusedVariables false
set_option linter.unusedSimpArgs false


/-- The samples that are looked at; .. the bytes. -/
def C0 (w : World) (v0 : Value) (wx : World) : Prop := w = wx ∧ ∃ p n cap xs, v0 = .slice p n cap ∧ SlI w .i64 (.slice p n cap) xs ∧ n ≤ 150
def C1 (w : World) (v1 : Value) (wx : World) : Prop := w = wx ∧ ∃ q m d bs, v1 = .slice q m d ∧ SlI w .u8 (.slice q m d) bs ∧ isBytes bs ∧ m ≤ 500 ∧ m ≤ d
def rowB (bs : List Int) (k : Nat) : List Int := (bs.drop (k * 24)).take 24

set_option maxRecDepth 100000 in
theorem rows {q : Option Addr} {m d : Nat} {bs : List Int} {w : World} {N : Nat} (ht : SlI w .u8 (.slice q m d) bs) (hmd : m ≤ d) (hbB : isBytes bs) (hN : N * 24 = m) (h0 : 0 < N) :
    ∃ bb off, q = some ⟨bb, off, none⟩ ∧ ∀ k, k < N → ∀ V, Old w V → Calls Tryz.prog 29 #[.slice (some ⟨bb, off + k * 24, none⟩) 24 (d - k * 24)] V fun e w' => ∃ x : Fr, e = .returned (.tuple #[.agg (rowN 29 (frC x.F x.s)), .int .i64 (frErr (rowB bs k))]) ∧ (frErr (rowB bs k) = 0 → True) ∧ ToV (fun k => k < V.heap.size) w' x ∧ Old V w' := by
  have hbl : bs.length = N * 24 := by rw [hN]; exact ht.cellAt.1
  have hne : bs ≠ [] := fun e => by
    rw [e] at hbl
    simp at hbl
    omega
  obtain ⟨pp, cc, ee, hc⟩ := ht
  simp only [Value.slice.injEq] at ee
  obtain ⟨rfl, _, rfl⟩ := ee
  obtain ⟨bb, off, rfl, hb, hlc, hm, hcell⟩ := hc hne
  refine ⟨bb, off, rfl, fun k hk V hV => ?_⟩
  have h3 : k * 24 + 24 ≤ N * 24 := by omega
  have hrl : (rowB bs k).length = 24 := by unfold rowB; rw [List.length_take, List.length_drop, hbl]; omega
  have hsl : SlI V .u8 (.slice (some ⟨bb, off + k * 24, none⟩) 24 (d - k * 24)) (rowB bs k) := by
    refine ⟨some ⟨bb, off + k * 24, none⟩, d - k * 24, by rw [hrl], fun _ => ⟨bb, off + k * 24, rfl, Nat.lt_of_lt_of_le hb hV.size, by rw [hrl]; omega, by omega, fun i hi => ?_⟩⟩
    rw [hrl] at hi
    have := (hV.cell (a := ⟨bb, off + (k * 24 + i), none⟩) hb).trans (hcell (k * 24 + i) (by rw [hbl]; omega))
    rw [← Nat.add_assoc] at this
    rw [this]
    congr 2
    simp only [rowB, List.getD_eq_getElem?_getD, List.getElem?_take, List.getElem?_drop]
    rw [if_pos hi]
  have hib : isBytes (rowB bs k) := fun x hx => hbB x (List.mem_of_mem_drop (List.mem_of_mem_take hx))
  refine (FRead_ex _ _ V hsl hib (by rw [hrl]; omega)).mono ?_
  rintro e w' ⟨G, m, q, cq, T, er, rfl, ho, hmc, hcm, hT, _, _, hgood, _, hback, hfresh, her⟩
  subst her
  exact ⟨⟨G, .slice q m cq, m, T⟩, rfl, fun _ => trivial, ⟨q, cq, rfl, hmc, hcm, hT, fun h0 a ha hlt => by have := hfresh h0 a ha; omega⟩, ho⟩

set_option maxRecDepth 100000 in
set_option maxHeartbeats 8000000 in
theorem walk (p : Option Addr) (n cap : Nat) (xs : List Int) (q : Option Addr) (m d : Nat) (bs : List Int) (w : World) (hs : SlI w .i64 (.slice p n cap) xs) (hnc : n ≤ cap) (hn : n ≤ 9223372036854775807) (ht : SlI w .u8 (.slice q m d) bs) (hmd : m ≤ d) (hm : m ≤ 9223372036854775807) (hb : isBytes bs) :
    Calls Tryz.prog 6 #[.slice p n cap, .slice q m d] w fun e w' => e = .returned (.bool true) ∧ Old w w' := by
  have Hs29 : Hid ((Tryz.prog.info? 55).map (·.size) = some 29) := Lib.hid (by kernel_rfl)
  have HS0 := Lib.hid hs
  have HT0 := Lib.hid ht
  have HB0 := Lib.hid hb
  have HNew := Lib.hid (fun w => CNew_yes 24 w (by omega) (by omega))
  have HA := Lib.hid (fun w => awake_any w)
  have HN1 := Lib.hid (fun v w => CFrames_nil v w)
  have HN2 := Lib.hid (fun v w => CBytes_nil v w)
  have HN3 := Lib.hid (fun v w => CRead_nil v w)
  have HN4 := Lib.hid (fun w => CSize_nil w)
  have HN5 := Lib.hid (fun v w => CSamples_nil v 3 w)
  clear hs ht hb
  go_enter Tryz.func6, Tryz.ntmps6
  go_upto_if 25 with (fail)
  go_cut [0] (fun v0 wx => C0 w v0 wx)
  case first =>
    by_cases hlen : n ≤ 150
    · have hl31 : ¬ (150 : Int) < (n : Int) := by omega
      go_wp2_with fail
      go_meet
      exact ⟨rfl, p, n, cap, xs, rfl, HS0.out, hlen⟩
    · obtain ⟨b, off, rfl, _⟩ := HS0.out.cellAt.2 (by omega)
      have hv' := Lib.hid (HS0.out.take (m := 150) (by omega))
      go_wp2_with fail
      go_meet
      exact ⟨rfl, _, 150, cap, _, rfl, hv'.out, Nat.le_refl _⟩
  case rest =>
    clear HS0 hnc hn
    obtain ⟨rfl, p, n, cap, xs, rfl, hs, hn⟩ := hcut
    have HS := Lib.hid hs
    clear hs
    go_upto_if 30 with (fail)
    go_cut [1] (fun v1 wx => C1 w v1 wx)
    case first =>
      by_cases hlen : m ≤ 500
      · have hl31 : ¬ (500 : Int) < (m : Int) := by omega
        go_wp2_with fail
        go_meet
        exact ⟨rfl, q, m, d, bs, rfl, HT0.out, HB0.out, hlen, hmd⟩
      · obtain ⟨b, off, rfl, _⟩ := HT0.out.cellAt.2 (by omega)
        have hv' := Lib.hid (HT0.out.take (m := 500) (by omega))
        have hbt' : isBytes (bs.take 500) := fun x hx => HB0.out x (List.mem_of_mem_take hx)
        have HB1 := Lib.hid hbt'
        clear hbt'
        have hmd' : 500 ≤ d := by omega
        go_wp2_with fail
        go_meet
        exact ⟨rfl, _, 500, d, _, rfl, hv'.out, HB1.out, Nat.le_refl _, hmd'⟩
    case rest =>
      clear HT0 HB0 hmd hm
      obtain ⟨rfl, q, m, d, bs, rfl, ht, hb, hm, hmd⟩ := hcut
      have HT := Lib.hid ht
      have HB := Lib.hid hb
      clear ht hb
      go_wp2_with fail
      refine (HNew.out _).mono ?_
      rintro e w2 ⟨cb, rfl, hcb, _, o2⟩
      have HC := Lib.hid hcb
      have HS2 := Lib.hid (HS.out.old o2)
      have HT2 := Lib.hid (HT.out.old o2)
      have HO2 := Lib.hid o2
      have HSF := Lib.hid HS2.out.slF
      have HL := Lib.hid HS2.out.cellAt.1
      clear hcb o2 HNew HS HT
      go_wp2_with fail
      go_loop [7, 8] (fun r i => ∃ (k : Nat) (rb : Bool), k ≤ n ∧ i = .int .i64 k ∧ r = .bool rb ∧ Hid (rb = true ↔ ∀ j, j < k → -32768 ≤ xs.getD j 0 ∧ xs.getD j 0 ≤ 32767)) (fun _ i => n - (intOf i).toNat)
      case atStart => exact ⟨0, true, by omega, rfl, rfl, Lib.hid ⟨fun _ j hj => by omega, fun _ => rfl⟩⟩
      case round =>
        obtain ⟨k, rb, hk, rfl, rfl, hj⟩ := hrel
        by_cases hlt : k < n
        · obtain ⟨b, off, rfl, hb, hc⟩ := HSF.out (by omega)
          have hcell := hc k (by omega)
          dsimp only at hcell
          have i1 : (0 : Int) ≤ k := by omega
          have i2 : (k : Int) < n := by omega
          obtain ⟨x, hx⟩ : ∃ x, xs.getD k 0 = x := ⟨_, rfl⟩
          rw [hx] at hcell
          have HJ : Hid (∀ r2 : Bool, (r2 = true ↔ (rb = true ∧ -32768 ≤ x ∧ x ≤ 32767)) → (r2 = true ↔ ∀ j, j < k + 1 → -32768 ≤ xs.getD j 0 ∧ xs.getD j 0 ≤ 32767)) := Lib.hid fun r2 h2 => by
            rw [h2, hj.out]
            refine ⟨fun ⟨h, hx1⟩ j hj' => ?_, fun h => ⟨fun j hj' => h j (by omega), by rw [← hx]; exact h k (by omega)⟩⟩
            rcases Nat.lt_succ_iff_lt_or_eq.1 hj' with h' | rfl
            · exact h j h'
            · rw [hx]; exact hx1
          clear hx hc hj
          cases rb with
          | false =>
            go_wp2_with fail
            go_round
            case rel => exact ⟨k + 1, false, by omega, by go_num, rfl, Lib.hid (HJ.out false (by simp))⟩
            case measure => simp [intOf]; omega
          | true =>
            by_cases h1 : -32768 ≤ x
            · by_cases h2 : x ≤ 32767
              · go_wp2_with fail
                go_round
                case rel => exact ⟨k + 1, true, by omega, by go_num, rfl, Lib.hid (HJ.out true (by simp; omega))⟩
                case measure => simp [intOf]; omega
              · go_wp2_with fail
                go_round
                case rel => exact ⟨k + 1, false, by omega, by go_num, rfl, Lib.hid (HJ.out false (by simp; omega))⟩
                case measure => simp [intOf]; omega
            · go_wp2_with fail
              go_round
              case rel => exact ⟨k + 1, false, by omega, by go_num, rfl, Lib.hid (HJ.out false (by simp; omega))⟩
              case measure => simp [intOf]; omega
        · obtain rfl : k = n := by omega
          cases rb with
          | true =>
            have hx : samP xs := samP_of (by rw [HL.out]; exact hj.out.1 rfl)
            have HF := Lib.hid (CFrames_any cb 24 p k cap xs w2 HC.out (by omega) (by omega) HS2.out hx (by omega))
            clear hx hj
            go_wp2_with fail
            refine HF.out.mono ?_
            rintro e w3 ⟨fb, L, rfl, hfr, hgd, o3⟩
            have HC3 := Lib.hid (HC.out.old o3)
            have HT3 := Lib.hid (HT2.out.old o3)
            have HO3 := Lib.hid (HO2.out.trans o3)
            clear hfr hgd o3 HF HC HS2 HT2 HO2 HSF HL
            by_cases hmod : m % 24 = 0
            · obtain ⟨N, hN⟩ : ∃ N, N * 24 = m := ⟨m / 24, by omega⟩
              have hN20 : N ≤ 20 := by omega
              have hrd := CRead_gen cb 24 q N d (fun k => frErr (rowB bs k)) (fun _ _ => True) w3 HC3.out (by omega) (by omega) (by omega) (by omega) (fun h0 => rows HT3.out hmd HB.out hN h0)
              rw [hN] at hrd
              have HRd := Lib.hid hrd
              have HRows := Lib.hid (fun (V : World) (h : Old w3 V) (h0 : 0 < N) => rows (HT3.out.old h) hmd HB.out hN h0)
              have e1 : wrap64 ((m : Int).tmod 24) = 0 := by rw [tmod_pos _ _ (by omega), IntWalk.wrap64_in _ (by omega)]; omega
              have e2 : IntKind.i64.wrap ((m : Int).tmod 24) = 0 := by rw [tmod_pos _ _ (by omega), IntWalk.i64_in _ (by omega)]; omega
              have e3 : wrap64 ((m : Int).tdiv 24) = N := by rw [tdiv_pos _ _ (by omega), IntWalk.wrap64_in _ (by omega)]; omega
              have e4 : IntKind.i64.wrap ((m : Int).tdiv 24) = N := by rw [tdiv_pos _ _ (by omega), IntWalk.i64_in _ (by omega)]; omega
              have e5 : ((m : Int) % 24 != 0) = false := by simp; omega
              have e6 : (m : Int) / 24 = N := by omega
              generalize hery : (fun k => frErr (rowB bs k)) = ery at hrd
              clear hrd hery
              go_wp2_with fail
              refine HRd.out.mono ?_
              rintro e w4 (⟨J, hJ, hJ0, hJl, rfl, o4⟩ | ⟨hall, fb2, L2, rfl, _, _, o4⟩)
              · have HO4 := Lib.hid (HO3.out.trans o4)
                have HRw := Lib.hid (fun (V : World) (h : Old w4 V) (h0 : 0 < N) => HRows.out V (o4.trans h) h0)
                obtain ⟨E, hE⟩ : ∃ E, frErr (rowB bs J) = E := ⟨_, rfl⟩
                try dsimp only at hJ0
                try dsimp only at hJl
                rw [hE] at hJ0
                have HJl := Lib.hid hJl
                have HE := Lib.hid hE
                try simp only [hE]
                clear o4 hJl hE HRd HRows HC3 HT3 HO3
                go_wp2_with fail
                refine (HN1.out _ _).mono ?_
                rintro e V1 ⟨rfl, rfl⟩
                go_wp2_with fail
                refine (HN2.out _ _).mono ?_
                rintro e V2 ⟨rfl, rfl⟩
                go_wp2_with fail
                refine (HN3.out _ _).mono ?_
                rintro e V3 ⟨rfl, rfl⟩
                go_wp2_with fail
                refine (HN4.out _).mono ?_
                rintro e V4 ⟨rfl, rfl⟩
                go_wp2_with fail
                refine (HN5.out _ _).mono ?_
                rintro e V5 ⟨rfl, rfl⟩
                go_wp2_with fail
                go_loopw [20] (fun i wr => ∃ k : Nat, k ≤ J ∧ i = .int .i64 k ∧ Hid (Old w4 wr)) (fun i _ => N - (intOf i).toNat)
                case atStart => exact ⟨0, by omega, rfl, Lib.hid (Old.refl _)⟩
                case round =>
                  obtain ⟨k, hk, rfl, hO⟩ := hrel
                  obtain ⟨U, hU⟩ : ∃ V, V = wr := ⟨_, rfl⟩
                  subst hU

                  have hlt : k < N := by omega
                  by_cases hkJ : k < J
                  · have HK := Lib.hid (HJl.out k hkJ)
                    obtain ⟨bb, off, rfl, hRd⟩ := HRw.out U hO.out (by omega)
                    have HFk := Lib.hid (hRd k hlt)
                    obtain ⟨lo, hlo⟩ : ∃ lo, k * 24 = lo := ⟨_, rfl⟩
                    have hlo2 : lo + 24 ≤ m := by omega
                    have hS := fun w => slice_lh Tryz.bytes_under Tryz.bytes_elem bb off m d lo (lo + 24) (by omega) (by omega) (by omega) w
                    rw [show lo + 24 - lo = 24 by omega] at hS
                    rw [hlo] at HFk
                    have i1 : (0 : Int) ≤ k := by omega
                    have i2 : (k : Int) < N := by omega
                    obtain ⟨hi, hhi⟩ : ∃ hi, lo + 24 = hi := ⟨_, rfl⟩
                    have hlh : lo < hi := by omega
                    have hhc : hi ≤ d := by omega
                    have l1 : hi ≤ m := by omega
                    have hi9 : hi ≤ 500 := Nat.le_trans l1 hm
                    have t1 : wrap64 (24 * (k : Int)) = lo := by rw [IntWalk.wrap64_in _ (by omega)]; omega
                    have t2 : IntKind.i64.wrap (24 * (k : Int)) = lo := by rw [IntWalk.i64_in _ (by omega)]; omega
                    have t3 : wrap64 ((lo : Int) + 24) = (lo + 24 : Nat) := by rw [IntWalk.wrap64_in _ (by omega)]; omega
                    have t4 : IntKind.i64.wrap ((lo : Int) + 24) = (lo + 24 : Nat) := by rw [IntWalk.i64_in _ (by omega)]; omega
                    rw [hhi] at hS t3 t4
                    clear hRd hhi hlo2
                    go_wp2_with fail
                    refine (HFk.out _ (Old.refl _)).mono ?_
                    rintro e V1 ⟨x, rfl, _, ht1, o1⟩
                    try simp only [HK.out]
                    have HO1 := Lib.hid (hO.out.trans o1)
                    have H1g : Hid ((rowN 29 (frC x.F x.s)).all (·.oneCell') = true) := Lib.hid (frC_one _ _ ht1.one)
                    clear ht1 o1 hO HFk
                    go_wp2_with (with_reducible refine wpList_store_row rfl 55 _ _ rfl V1.heap.size (rowN 29 (frC x.F x.s)) rfl rfl 55 _ (heap_alloc_new _ _) (by rw [rowN_size]; exact Hs29.out) (by rw [rowN_size]; kernel_rfl) H1g.out ?_; rw [World.setRow_alloc_new])

                    clear hS t1 t2 t3 t4
                    go_roundw
                    case rel => exact ⟨k + 1, by omega, by go_num, Lib.hid (HO1.out.alloc' _)⟩
                    case measure => simp [intOf]; omega
                  · obtain rfl : k = J := by omega
                    have HK := HE
                    obtain ⟨bb, off, rfl, hRd⟩ := HRw.out U hO.out (by omega)
                    have HFk := Lib.hid (hRd k hlt)
                    obtain ⟨lo, hlo⟩ : ∃ lo, k * 24 = lo := ⟨_, rfl⟩
                    have hlo2 : lo + 24 ≤ m := by omega
                    have hS := fun w => slice_lh Tryz.bytes_under Tryz.bytes_elem bb off m d lo (lo + 24) (by omega) (by omega) (by omega) w
                    rw [show lo + 24 - lo = 24 by omega] at hS
                    rw [hlo] at HFk
                    have i1 : (0 : Int) ≤ k := by omega
                    have i2 : (k : Int) < N := by omega
                    obtain ⟨hi, hhi⟩ : ∃ hi, lo + 24 = hi := ⟨_, rfl⟩
                    have hlh : lo < hi := by omega
                    have hhc : hi ≤ d := by omega
                    have l1 : hi ≤ m := by omega
                    have hi9 : hi ≤ 500 := Nat.le_trans l1 hm
                    have t1 : wrap64 (24 * (k : Int)) = lo := by rw [IntWalk.wrap64_in _ (by omega)]; omega
                    have t2 : IntKind.i64.wrap (24 * (k : Int)) = lo := by rw [IntWalk.i64_in _ (by omega)]; omega
                    have t3 : wrap64 ((lo : Int) + 24) = (lo + 24 : Nat) := by rw [IntWalk.wrap64_in _ (by omega)]; omega
                    have t4 : IntKind.i64.wrap ((lo : Int) + 24) = (lo + 24 : Nat) := by rw [IntWalk.i64_in _ (by omega)]; omega
                    rw [hhi] at hS t3 t4
                    clear hRd hhi hlo2
                    go_wp2_with fail
                    refine (HFk.out _ (Old.refl _)).mono ?_
                    rintro e V1 ⟨x, rfl, _, ht1, o1⟩
                    try simp only [HK.out]
                    have HO1 := Lib.hid (hO.out.trans o1)
                    have H1g : Hid ((rowN 29 (frC x.F x.s)).all (·.oneCell') = true) := Lib.hid (frC_one _ _ ht1.one)
                    clear ht1 o1 hO HFk
                    go_wp2_with (with_reducible refine wpList_store_row rfl 55 _ _ rfl V1.heap.size (rowN 29 (frC x.F x.s)) rfl rfl 55 _ (heap_alloc_new _ _) (by rw [rowN_size]; exact Hs29.out) (by rw [rowN_size]; kernel_rfl) H1g.out ?_; rw [World.setRow_alloc_new])
                    have HOx := Lib.hid (HO4.out.trans (HO1.out.alloc' (.cells (rowN 29 (frC x.F x.s)) 55)))
                    refine (HA.out _).mono ?_
                    rintro e w9 ⟨rfl, o9⟩
                    have HO9 := Lib.hid (HOx.out.trans o9)
                    clear o9
                    go_wp2
                    go_ret
                    exact ⟨rfl, HO9.out⟩
              · have HO4 := Lib.hid (HO3.out.trans o4)
                have HRw := Lib.hid (fun (V : World) (h : Old w4 V) (h0 : 0 < N) => HRows.out V (o4.trans h) h0)
                have HAll := Lib.hid hall
                clear o4 hall HRd HRows HC3 HT3 HO3
                go_wp2_with fail
                refine (HN1.out _ _).mono ?_
                rintro e V1 ⟨rfl, rfl⟩
                go_wp2_with fail
                refine (HN2.out _ _).mono ?_
                rintro e V2 ⟨rfl, rfl⟩
                go_wp2_with fail
                refine (HN3.out _ _).mono ?_
                rintro e V3 ⟨rfl, rfl⟩
                go_wp2_with fail
                refine (HN4.out _).mono ?_
                rintro e V4 ⟨rfl, rfl⟩
                go_wp2_with fail
                refine (HN5.out _ _).mono ?_
                rintro e V5 ⟨rfl, rfl⟩
                go_wp2_with fail
                go_loopw [20] (fun i wr => ∃ k : Nat, k ≤ N ∧ i = .int .i64 k ∧ Hid (Old w4 wr)) (fun i _ => N - (intOf i).toNat)
                case atStart => exact ⟨0, by omega, rfl, Lib.hid (Old.refl _)⟩
                case round =>
                  obtain ⟨k, hk, rfl, hO⟩ := hrel
                  obtain ⟨U, hU⟩ : ∃ V, V = wr := ⟨_, rfl⟩
                  subst hU

                  by_cases hlt : k < N
                  · have HK := Lib.hid (HAll.out k hlt)
                    obtain ⟨bb, off, rfl, hRd⟩ := HRw.out U hO.out (by omega)
                    have HFk := Lib.hid (hRd k hlt)
                    obtain ⟨lo, hlo⟩ : ∃ lo, k * 24 = lo := ⟨_, rfl⟩
                    have hlo2 : lo + 24 ≤ m := by omega
                    have hS := fun w => slice_lh Tryz.bytes_under Tryz.bytes_elem bb off m d lo (lo + 24) (by omega) (by omega) (by omega) w
                    rw [show lo + 24 - lo = 24 by omega] at hS
                    rw [hlo] at HFk
                    have i1 : (0 : Int) ≤ k := by omega
                    have i2 : (k : Int) < N := by omega
                    obtain ⟨hi, hhi⟩ : ∃ hi, lo + 24 = hi := ⟨_, rfl⟩
                    have hlh : lo < hi := by omega
                    have hhc : hi ≤ d := by omega
                    have l1 : hi ≤ m := by omega
                    have hi9 : hi ≤ 500 := Nat.le_trans l1 hm
                    have t1 : wrap64 (24 * (k : Int)) = lo := by rw [IntWalk.wrap64_in _ (by omega)]; omega
                    have t2 : IntKind.i64.wrap (24 * (k : Int)) = lo := by rw [IntWalk.i64_in _ (by omega)]; omega
                    have t3 : wrap64 ((lo : Int) + 24) = (lo + 24 : Nat) := by rw [IntWalk.wrap64_in _ (by omega)]; omega
                    have t4 : IntKind.i64.wrap ((lo : Int) + 24) = (lo + 24 : Nat) := by rw [IntWalk.i64_in _ (by omega)]; omega
                    rw [hhi] at hS t3 t4
                    clear hRd hhi hlo2
                    go_wp2_with fail
                    refine (HFk.out _ (Old.refl _)).mono ?_
                    rintro e V1 ⟨x, rfl, _, ht1, o1⟩
                    try simp only [HK.out]
                    have HO1 := Lib.hid (hO.out.trans o1)
                    have H1g : Hid ((rowN 29 (frC x.F x.s)).all (·.oneCell') = true) := Lib.hid (frC_one _ _ ht1.one)
                    clear ht1 o1 hO HFk
                    go_wp2_with (with_reducible refine wpList_store_row rfl 55 _ _ rfl V1.heap.size (rowN 29 (frC x.F x.s)) rfl rfl 55 _ (heap_alloc_new _ _) (by rw [rowN_size]; exact Hs29.out) (by rw [rowN_size]; kernel_rfl) H1g.out ?_; rw [World.setRow_alloc_new])

                    clear hS t1 t2 t3 t4
                    go_roundw
                    case rel => exact ⟨k + 1, by omega, by go_num, Lib.hid (HO1.out.alloc' _)⟩
                    case measure => simp [intOf]; omega
                  · obtain rfl : k = N := by omega
                    have HOx := Lib.hid (HO4.out.trans hO.out)
                    clear hO
                    go_wp2_with fail
                    refine (HA.out _).mono ?_
                    rintro e w9 ⟨rfl, o9⟩
                    have HO9 := Lib.hid (HOx.out.trans o9)
                    clear o9
                    go_wp2
                    go_ret
                    exact ⟨rfl, HO9.out⟩
            · have HRd := Lib.hid (CRead_cut cb 24 q m d w3 HC3.out (by omega) (by omega) (by omega) hmod)
              obtain ⟨r, hr⟩ : ∃ r, m % 24 = r := ⟨_, rfl⟩
              have hr0 : r ≠ 0 := by omega
              have e1 : wrap64 ((m : Int).tmod 24) = r := by rw [tmod_pos _ _ (by omega), IntWalk.wrap64_in _ (by omega)]; omega
              have e2 : IntKind.i64.wrap ((m : Int).tmod 24) = r := by rw [tmod_pos _ _ (by omega), IntWalk.i64_in _ (by omega)]; omega
              have e5 : ((m : Int) % 24 != 0) = true := by simp; omega
              have HOx := HO3
              clear hr hmod HC3 HT3 HO3
              go_wp2_with fail
              refine HRd.out.mono ?_
              rintro e w4 ⟨rfl, rfl⟩
              go_wp2_with fail
              refine (HN1.out _ _).mono ?_
              rintro e V1 ⟨rfl, rfl⟩
              go_wp2_with fail
              refine (HN2.out _ _).mono ?_
              rintro e V2 ⟨rfl, rfl⟩
              go_wp2_with fail
              refine (HN3.out _ _).mono ?_
              rintro e V3 ⟨rfl, rfl⟩
              go_wp2_with fail
              refine (HN4.out _).mono ?_
              rintro e V4 ⟨rfl, rfl⟩
              go_wp2_with fail
              refine (HN5.out _ _).mono ?_
              rintro e V5 ⟨rfl, rfl⟩
              go_wp2_with fail
              refine (HA.out _).mono ?_
              rintro e w9 ⟨rfl, o9⟩
              have HO9 := Lib.hid (HOx.out.trans o9)
              clear o9
              go_wp2
              go_ret
              exact ⟨rfl, HO9.out⟩
          | false =>
            have hx : ¬ samP xs := fun h => by
              have := hj.out.2 fun j _ => samP_at h j
              cases this
            have HF := Lib.hid (CFrames_no cb 24 p k cap xs w2 HC.out (by omega) HS2.out hx (by omega))
            clear hx hj
            go_wp2_with fail
            refine HF.out.mono ?_
            rintro e w3 ⟨rfl, rfl⟩
            have HC3 := HC
            have HT3 := HT2
            have HO3 := HO2
            clear HF HC HS2 HT2 HO2 HSF HL
            by_cases hmod : m % 24 = 0
            · obtain ⟨N, hN⟩ : ∃ N, N * 24 = m := ⟨m / 24, by omega⟩
              have hN20 : N ≤ 20 := by omega
              have hrd := CRead_gen cb 24 q N d (fun k => frErr (rowB bs k)) (fun _ _ => True) w2 HC3.out (by omega) (by omega) (by omega) (by omega) (fun h0 => rows HT3.out hmd HB.out hN h0)
              rw [hN] at hrd
              have HRd := Lib.hid hrd
              have HRows := Lib.hid (fun (V : World) (h : Old w2 V) (h0 : 0 < N) => rows (HT3.out.old h) hmd HB.out hN h0)
              have e1 : wrap64 ((m : Int).tmod 24) = 0 := by rw [tmod_pos _ _ (by omega), IntWalk.wrap64_in _ (by omega)]; omega
              have e2 : IntKind.i64.wrap ((m : Int).tmod 24) = 0 := by rw [tmod_pos _ _ (by omega), IntWalk.i64_in _ (by omega)]; omega
              have e3 : wrap64 ((m : Int).tdiv 24) = N := by rw [tdiv_pos _ _ (by omega), IntWalk.wrap64_in _ (by omega)]; omega
              have e4 : IntKind.i64.wrap ((m : Int).tdiv 24) = N := by rw [tdiv_pos _ _ (by omega), IntWalk.i64_in _ (by omega)]; omega
              have e5 : ((m : Int) % 24 != 0) = false := by simp; omega
              have e6 : (m : Int) / 24 = N := by omega
              generalize hery : (fun k => frErr (rowB bs k)) = ery at hrd
              clear hrd hery
              go_wp2_with fail
              refine HRd.out.mono ?_
              rintro e w4 (⟨J, hJ, hJ0, hJl, rfl, o4⟩ | ⟨hall, fb2, L2, rfl, _, _, o4⟩)
              · have HO4 := Lib.hid (HO3.out.trans o4)
                have HRw := Lib.hid (fun (V : World) (h : Old w4 V) (h0 : 0 < N) => HRows.out V (o4.trans h) h0)
                obtain ⟨E, hE⟩ : ∃ E, frErr (rowB bs J) = E := ⟨_, rfl⟩
                try dsimp only at hJ0
                try dsimp only at hJl
                rw [hE] at hJ0
                have HJl := Lib.hid hJl
                have HE := Lib.hid hE
                try simp only [hE]
                clear o4 hJl hE HRd HRows HC3 HT3 HO3
                go_wp2_with fail
                refine (HN1.out _ _).mono ?_
                rintro e V1 ⟨rfl, rfl⟩
                go_wp2_with fail
                refine (HN2.out _ _).mono ?_
                rintro e V2 ⟨rfl, rfl⟩
                go_wp2_with fail
                refine (HN3.out _ _).mono ?_
                rintro e V3 ⟨rfl, rfl⟩
                go_wp2_with fail
                refine (HN4.out _).mono ?_
                rintro e V4 ⟨rfl, rfl⟩
                go_wp2_with fail
                refine (HN5.out _ _).mono ?_
                rintro e V5 ⟨rfl, rfl⟩
                go_wp2_with fail
                go_loopw [20] (fun i wr => ∃ k : Nat, k ≤ J ∧ i = .int .i64 k ∧ Hid (Old w4 wr)) (fun i _ => N - (intOf i).toNat)
                case atStart => exact ⟨0, by omega, rfl, Lib.hid (Old.refl _)⟩
                case round =>
                  obtain ⟨k, hk, rfl, hO⟩ := hrel
                  obtain ⟨U, hU⟩ : ∃ V, V = wr := ⟨_, rfl⟩
                  subst hU

                  have hlt : k < N := by omega
                  by_cases hkJ : k < J
                  · have HK := Lib.hid (HJl.out k hkJ)
                    obtain ⟨bb, off, rfl, hRd⟩ := HRw.out U hO.out (by omega)
                    have HFk := Lib.hid (hRd k hlt)
                    obtain ⟨lo, hlo⟩ : ∃ lo, k * 24 = lo := ⟨_, rfl⟩
                    have hlo2 : lo + 24 ≤ m := by omega
                    have hS := fun w => slice_lh Tryz.bytes_under Tryz.bytes_elem bb off m d lo (lo + 24) (by omega) (by omega) (by omega) w
                    rw [show lo + 24 - lo = 24 by omega] at hS
                    rw [hlo] at HFk
                    have i1 : (0 : Int) ≤ k := by omega
                    have i2 : (k : Int) < N := by omega
                    obtain ⟨hi, hhi⟩ : ∃ hi, lo + 24 = hi := ⟨_, rfl⟩
                    have hlh : lo < hi := by omega
                    have hhc : hi ≤ d := by omega
                    have l1 : hi ≤ m := by omega
                    have hi9 : hi ≤ 500 := Nat.le_trans l1 hm
                    have t1 : wrap64 (24 * (k : Int)) = lo := by rw [IntWalk.wrap64_in _ (by omega)]; omega
                    have t2 : IntKind.i64.wrap (24 * (k : Int)) = lo := by rw [IntWalk.i64_in _ (by omega)]; omega
                    have t3 : wrap64 ((lo : Int) + 24) = (lo + 24 : Nat) := by rw [IntWalk.wrap64_in _ (by omega)]; omega
                    have t4 : IntKind.i64.wrap ((lo : Int) + 24) = (lo + 24 : Nat) := by rw [IntWalk.i64_in _ (by omega)]; omega
                    rw [hhi] at hS t3 t4
                    clear hRd hhi hlo2
                    go_wp2_with fail
                    refine (HFk.out _ (Old.refl _)).mono ?_
                    rintro e V1 ⟨x, rfl, _, ht1, o1⟩
                    try simp only [HK.out]
                    have HO1 := Lib.hid (hO.out.trans o1)
                    have H1g : Hid ((rowN 29 (frC x.F x.s)).all (·.oneCell') = true) := Lib.hid (frC_one _ _ ht1.one)
                    clear ht1 o1 hO HFk
                    go_wp2_with (with_reducible refine wpList_store_row rfl 55 _ _ rfl V1.heap.size (rowN 29 (frC x.F x.s)) rfl rfl 55 _ (heap_alloc_new _ _) (by rw [rowN_size]; exact Hs29.out) (by rw [rowN_size]; kernel_rfl) H1g.out ?_; rw [World.setRow_alloc_new])

                    clear hS t1 t2 t3 t4
                    go_roundw
                    case rel => exact ⟨k + 1, by omega, by go_num, Lib.hid (HO1.out.alloc' _)⟩
                    case measure => simp [intOf]; omega
                  · obtain rfl : k = J := by omega
                    have HK := HE
                    obtain ⟨bb, off, rfl, hRd⟩ := HRw.out U hO.out (by omega)
                    have HFk := Lib.hid (hRd k hlt)
                    obtain ⟨lo, hlo⟩ : ∃ lo, k * 24 = lo := ⟨_, rfl⟩
                    have hlo2 : lo + 24 ≤ m := by omega
                    have hS := fun w => slice_lh Tryz.bytes_under Tryz.bytes_elem bb off m d lo (lo + 24) (by omega) (by omega) (by omega) w
                    rw [show lo + 24 - lo = 24 by omega] at hS
                    rw [hlo] at HFk
                    have i1 : (0 : Int) ≤ k := by omega
                    have i2 : (k : Int) < N := by omega
                    obtain ⟨hi, hhi⟩ : ∃ hi, lo + 24 = hi := ⟨_, rfl⟩
                    have hlh : lo < hi := by omega
                    have hhc : hi ≤ d := by omega
                    have l1 : hi ≤ m := by omega
                    have hi9 : hi ≤ 500 := Nat.le_trans l1 hm
                    have t1 : wrap64 (24 * (k : Int)) = lo := by rw [IntWalk.wrap64_in _ (by omega)]; omega
                    have t2 : IntKind.i64.wrap (24 * (k : Int)) = lo := by rw [IntWalk.i64_in _ (by omega)]; omega
                    have t3 : wrap64 ((lo : Int) + 24) = (lo + 24 : Nat) := by rw [IntWalk.wrap64_in _ (by omega)]; omega
                    have t4 : IntKind.i64.wrap ((lo : Int) + 24) = (lo + 24 : Nat) := by rw [IntWalk.i64_in _ (by omega)]; omega
                    rw [hhi] at hS t3 t4
                    clear hRd hhi hlo2
                    go_wp2_with fail
                    refine (HFk.out _ (Old.refl _)).mono ?_
                    rintro e V1 ⟨x, rfl, _, ht1, o1⟩
                    try simp only [HK.out]
                    have HO1 := Lib.hid (hO.out.trans o1)
                    have H1g : Hid ((rowN 29 (frC x.F x.s)).all (·.oneCell') = true) := Lib.hid (frC_one _ _ ht1.one)
                    clear ht1 o1 hO HFk
                    go_wp2_with (with_reducible refine wpList_store_row rfl 55 _ _ rfl V1.heap.size (rowN 29 (frC x.F x.s)) rfl rfl 55 _ (heap_alloc_new _ _) (by rw [rowN_size]; exact Hs29.out) (by rw [rowN_size]; kernel_rfl) H1g.out ?_; rw [World.setRow_alloc_new])
                    have HOx := Lib.hid (HO4.out.trans (HO1.out.alloc' (.cells (rowN 29 (frC x.F x.s)) 55)))
                    refine (HA.out _).mono ?_
                    rintro e w9 ⟨rfl, o9⟩
                    have HO9 := Lib.hid (HOx.out.trans o9)
                    clear o9
                    go_wp2
                    go_ret
                    exact ⟨rfl, HO9.out⟩
              · have HO4 := Lib.hid (HO3.out.trans o4)
                have HRw := Lib.hid (fun (V : World) (h : Old w4 V) (h0 : 0 < N) => HRows.out V (o4.trans h) h0)
                have HAll := Lib.hid hall
                clear o4 hall HRd HRows HC3 HT3 HO3
                go_wp2_with fail
                refine (HN1.out _ _).mono ?_
                rintro e V1 ⟨rfl, rfl⟩
                go_wp2_with fail
                refine (HN2.out _ _).mono ?_
                rintro e V2 ⟨rfl, rfl⟩
                go_wp2_with fail
                refine (HN3.out _ _).mono ?_
                rintro e V3 ⟨rfl, rfl⟩
                go_wp2_with fail
                refine (HN4.out _).mono ?_
                rintro e V4 ⟨rfl, rfl⟩
                go_wp2_with fail
                refine (HN5.out _ _).mono ?_
                rintro e V5 ⟨rfl, rfl⟩
                go_wp2_with fail
                go_loopw [20] (fun i wr => ∃ k : Nat, k ≤ N ∧ i = .int .i64 k ∧ Hid (Old w4 wr)) (fun i _ => N - (intOf i).toNat)
                case atStart => exact ⟨0, by omega, rfl, Lib.hid (Old.refl _)⟩
                case round =>
                  obtain ⟨k, hk, rfl, hO⟩ := hrel
                  obtain ⟨U, hU⟩ : ∃ V, V = wr := ⟨_, rfl⟩
                  subst hU

                  by_cases hlt : k < N
                  · have HK := Lib.hid (HAll.out k hlt)
                    obtain ⟨bb, off, rfl, hRd⟩ := HRw.out U hO.out (by omega)
                    have HFk := Lib.hid (hRd k hlt)
                    obtain ⟨lo, hlo⟩ : ∃ lo, k * 24 = lo := ⟨_, rfl⟩
                    have hlo2 : lo + 24 ≤ m := by omega
                    have hS := fun w => slice_lh Tryz.bytes_under Tryz.bytes_elem bb off m d lo (lo + 24) (by omega) (by omega) (by omega) w
                    rw [show lo + 24 - lo = 24 by omega] at hS
                    rw [hlo] at HFk
                    have i1 : (0 : Int) ≤ k := by omega
                    have i2 : (k : Int) < N := by omega
                    obtain ⟨hi, hhi⟩ : ∃ hi, lo + 24 = hi := ⟨_, rfl⟩
                    have hlh : lo < hi := by omega
                    have hhc : hi ≤ d := by omega
                    have l1 : hi ≤ m := by omega
                    have hi9 : hi ≤ 500 := Nat.le_trans l1 hm
                    have t1 : wrap64 (24 * (k : Int)) = lo := by rw [IntWalk.wrap64_in _ (by omega)]; omega
                    have t2 : IntKind.i64.wrap (24 * (k : Int)) = lo := by rw [IntWalk.i64_in _ (by omega)]; omega
                    have t3 : wrap64 ((lo : Int) + 24) = (lo + 24 : Nat) := by rw [IntWalk.wrap64_in _ (by omega)]; omega
                    have t4 : IntKind.i64.wrap ((lo : Int) + 24) = (lo + 24 : Nat) := by rw [IntWalk.i64_in _ (by omega)]; omega
                    rw [hhi] at hS t3 t4
                    clear hRd hhi hlo2
                    go_wp2_with fail
                    refine (HFk.out _ (Old.refl _)).mono ?_
                    rintro e V1 ⟨x, rfl, _, ht1, o1⟩
                    try simp only [HK.out]
                    have HO1 := Lib.hid (hO.out.trans o1)
                    have H1g : Hid ((rowN 29 (frC x.F x.s)).all (·.oneCell') = true) := Lib.hid (frC_one _ _ ht1.one)
                    clear ht1 o1 hO HFk
                    go_wp2_with (with_reducible refine wpList_store_row rfl 55 _ _ rfl V1.heap.size (rowN 29 (frC x.F x.s)) rfl rfl 55 _ (heap_alloc_new _ _) (by rw [rowN_size]; exact Hs29.out) (by rw [rowN_size]; kernel_rfl) H1g.out ?_; rw [World.setRow_alloc_new])

                    clear hS t1 t2 t3 t4
                    go_roundw
                    case rel => exact ⟨k + 1, by omega, by go_num, Lib.hid (HO1.out.alloc' _)⟩
                    case measure => simp [intOf]; omega
                  · obtain rfl : k = N := by omega
                    have HOx := Lib.hid (HO4.out.trans hO.out)
                    clear hO
                    go_wp2_with fail
                    refine (HA.out _).mono ?_
                    rintro e w9 ⟨rfl, o9⟩
                    have HO9 := Lib.hid (HOx.out.trans o9)
                    clear o9
                    go_wp2
                    go_ret
                    exact ⟨rfl, HO9.out⟩
            · have HRd := Lib.hid (CRead_cut cb 24 q m d w2 HC3.out (by omega) (by omega) (by omega) hmod)
              obtain ⟨r, hr⟩ : ∃ r, m % 24 = r := ⟨_, rfl⟩
              have hr0 : r ≠ 0 := by omega
              have e1 : wrap64 ((m : Int).tmod 24) = r := by rw [tmod_pos _ _ (by omega), IntWalk.wrap64_in _ (by omega)]; omega
              have e2 : IntKind.i64.wrap ((m : Int).tmod 24) = r := by rw [tmod_pos _ _ (by omega), IntWalk.i64_in _ (by omega)]; omega
              have e5 : ((m : Int) % 24 != 0) = true := by simp; omega
              have HOx := HO3
              clear hr hmod HC3 HT3 HO3
              go_wp2_with fail
              refine HRd.out.mono ?_
              rintro e w4 ⟨rfl, rfl⟩
              go_wp2_with fail
              refine (HN1.out _ _).mono ?_
              rintro e V1 ⟨rfl, rfl⟩
              go_wp2_with fail
              refine (HN2.out _ _).mono ?_
              rintro e V2 ⟨rfl, rfl⟩
              go_wp2_with fail
              refine (HN3.out _ _).mono ?_
              rintro e V3 ⟨rfl, rfl⟩
              go_wp2_with fail
              refine (HN4.out _).mono ?_
              rintro e V4 ⟨rfl, rfl⟩
              go_wp2_with fail
              refine (HN5.out _ _).mono ?_
              rintro e V5 ⟨rfl, rfl⟩
              go_wp2_with fail
              refine (HA.out _).mono ?_
              rintro e w9 ⟨rfl, o9⟩
              have HO9 := Lib.hid (HOx.out.trans o9)
              clear o9
              go_wp2
              go_ret
              exact ⟨rfl, HO9.out⟩


theorem own : ownKnob Tryz.prog.godebug = none := by kernel_rfl
theorem laidOut : laidOutB Tryz.prog = true := by kernel_rfl

set_option maxRecDepth 100000 in
theorem lifted (os : Os) (started : os.Started) (H : Type) (enc : TypeId × Value → H) :
    ReturnsInHanded {} Tryz.checked os 6 .any (Rows.codeRefusesSpec.pre6 enc Tryz.prog Tryz.f6 Rows.codeRefusesRow.domain false) (Rows.codeRefusesSpec.post enc Tryz.prog Tryz.f6 false true false false) := by
  refine returnsInHanded_of_change (C := Tryz.checked) own started (by kernel_rfl) Tryz.func6
    (ChangeSpec.witness6 (enc := enc) (C := Tryz.checked) false ⟨#[], #[.slice none 0 0, .slice none 0 0], []⟩ 8 (by kernel_rfl) (by kernel_rfl) (by kernel_rfl) (by kernel_rfl)) ?_
  intro W base args ds gs before hval0 hW hcnd _
  have hval : ∀ (j : Nat) t v, Tryz.f6.params[j]? = some t → args[j]? = some v → Value.okWide Tryz.prog W .any base t v := hval0
  have hW' := hW
  have hlt : ∀ p ∈ before, p.block < W.heap.size := fun p hp => hW'.lt p hp
  obtain ⟨p, q, hA0, hV, rfl, hfz, hnd⟩ := hW
  have hA : DataW.TrodAll enc Tryz.prog W 0 (fun _ => true) true Tryz.f6.params.toList args.toList ds p := hA0
  rw [Tryz.params6] at hA hval
  obtain ⟨v0, vs0, d0, ds0, p0, q0, hargs, rfl, rfl, h0, r0⟩ := trodAll_cons hA
  obtain ⟨v1, vs1, d1, ds1, p1, q1, rfl, rfl, rfl, h1, r1⟩ := trodAll_cons r0
  obtain ⟨rfl, rfl, rfl⟩ := trodAll_nil r1
  obtain rfl : args = #[v0, v1] := by cases args; simp_all
  obtain ⟨rfl, rfl⟩ := trodVars_none hV
  obtain ⟨s0, n0, c0, xs0, rfl, hs0, hn0, hc0, hw0⟩ := open_slI Tryz.underlying22 Tryz.underlying3 (by kernel_rfl) (hval 0 22 v0 rfl rfl) h0 (fun x hx => hlt x (by simp [hx]))
  obtain ⟨s1, n1, c1, xs1, rfl, hs1, hn1, hc1, hw1⟩ := open_slI Tryz.underlying60 Tryz.underlying5 (by kernel_rfl) (hval 1 60 v1 rfl rfl) h1 (fun x hx => hlt x (by simp [hx]))
  refine (walk s0 n0 c0 xs0 s1 n1 c1 xs1 W hs0 hn0 (by unfold maxLen at hc0; omega) hs1 hn1 (by unfold maxLen at hc1; omega) (bytes_of hw1)).mono fun e W' ⟨he, hg⟩ => ?_
  subst he
  exact ⟨_, rfl, law_done laidOut Tryz.underlying4 rfl (by kernel_rfl) rfl hW' rfl hg⟩

theorem over : Rows.codeRefusesRow.holds Tryz.pinned (OpenSpec.ofChange Rows.codeRefusesSpec) :=
  OpenClaim.holds_of_wide 6 Tryz.f6 rfl rfl rfl rfl rfl rfl rfl ⟨rfl, rfl, rfl, rfl, rfl⟩ rfl rfl rfl rfl rfl (by kernel_rfl) Tryz.func6 (by kernel_rfl)
    (of_decide_eq_true (by kernel_rfl)) (by unfold Func.isWrapper; first | (rw [if_pos (by decide +kernel)]; kernel_rfl) | (rw [if_neg (by decide +kernel)]; exact ⟨rfl, rfl⟩))
    (fun os started H enc _ => lifted os started H enc)

theorem proved : Rows.CodeRefusesSaid :=
  over
end Go.Proofs.YtlcbmgbnhjgelaaGreat.codeRefuses
