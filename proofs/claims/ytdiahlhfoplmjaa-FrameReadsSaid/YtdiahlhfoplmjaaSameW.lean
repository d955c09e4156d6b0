/- Frames compared, as the law does: calliopelaw10.same. -/
import Derived.Test.YtdiahlhfoplmjaaSameL
namespace Go.Proofs.Ytdiahlhfoplmjaa
set_option linter.unusedVariables false
open Go.RowKit Go.ChangeShapes Go.WideShapes

set_option maxRecDepth 100000 in
set_option maxHeartbeats 1000000 in
theorem same_any (F G : Nat → Int) (p q : Option Addr) (n m cap cap' : Nat) (T U : Nat → Int) (w : World) (hT : SlF 2 w p n T) (hU : SlF 2 w q m U) (hn : n ≤ maxLen) (hm : m ≤ maxLen) :
    Calls Try.prog 16 #[.agg (rowN 29 (frC F (.slice p n cap))), .agg (rowN 29 (frC G (.slice q m cap')))] w fun e w' => e = .returned (.bool (decide (sameP F n T G m U))) ∧ Old w w' := by
  rw [same_split]
  have Hs4 : Hid ((Try.prog.info? 22).map (·.size) = some 4) := Lib.hid (by kernel_rfl)
  have Hs16 : Hid ((Try.prog.info? 25).map (·.size) = some 16) := Lib.hid (by kernel_rfl)
  have r4 : (rowN 29 (frC F (.slice p n cap)))[4]? = some (.slice p n cap) := rowN_at 29 (frC F (.slice p n cap)) 4 (by omega)
  have r4' : (rowN 29 (frC G (.slice q m cap')))[4]? = some (.slice q m cap') := rowN_at 29 (frC G (.slice q m cap')) 4 (by omega)
  unfold maxLen at hn hm
  by_cases hnm : n = m
  · subst hnm
    obtain ⟨W0, hW0⟩ : ∃ W0, W0 = ((w.alloc (.cells (rowN 29 (frC F (.slice p n cap))) 27)).alloc (.cells (rowN 29 (frC G (.slice q n cap'))) 27)) := ⟨_, rfl⟩
    have h0 := two_frames 27 w F G (.slice p n cap) (.slice q n cap')
    rw [← hW0] at h0
    have HA := Lib.hid h0.1
    have HB := Lib.hid h0.2.1
    have HO := Lib.hid h0.2.2
    have HT := Lib.hid (hT.old h0.2.2)
    have HU := Lib.hid (hU.old h0.2.2)
    have HW := Lib.hid hW0
    clear h0 hT hU hW0
    go_enter Try.func16, Try.ntmps16
    go_wp2_with fail
    rw [← HW.out]
    clear r4 r4' HW
    go_loopw [5] (fun i wr => ∃ k : Nat, k ≤ n ∧ i = .int .i64 k ∧ Hid ((∀ j, j < 2 * k → T j = U j) ∧ ∃ d, wr = W0.drewN d)) (fun i _ => n - (intOf i).toNat)
    case atStart => exact ⟨0, by omega, rfl, Lib.hid ⟨fun j hj => by omega, 0, rfl⟩⟩
    case round =>
      obtain ⟨k, hk, rfl, hs⟩ := hrel
      obtain ⟨d, rfl⟩ := hs.out.2
      have HJ := Lib.hid hs.out.1
      have ca := HA.out.cell4.1
      have cb := HB.out.cell4.1
      by_cases hlt : k < n
      · obtain ⟨g, o, rfl, hg, hc⟩ := two_cells HT.out (by omega)
        obtain ⟨g', o', rfl, hg', hc'⟩ := two_cells HU.out (by omega)
        obtain ⟨a0, a1⟩ := hc k hlt
        obtain ⟨b0, b1⟩ := hc' k hlt
        have hE := fun w => neq_tone w (T (2 * k)) (T (2 * k + 1)) (U (2 * k)) (U (2 * k + 1))
        have HN : Hid (T (2 * k) = U (2 * k) ∧ T (2 * k + 1) = U (2 * k + 1) → ∀ j, j < 2 * (k + 1) → T j = U j) := Lib.hid fun h j hj => by
          by_cases e0 : j = 2 * k
          · rw [e0]; exact h.1
          · by_cases e1 : j = 2 * k + 1
            · rw [e1]; exact h.2
            · exact HJ.out j (by omega)
        have HF : Hid (¬ (T (2 * k) = U (2 * k) ∧ T (2 * k + 1) = U (2 * k + 1)) → tonesB n n T U = false) := Lib.hid fun h => by
          unfold tonesB
          rw [decide_eq_false_iff_not]
          rintro ⟨_, h2⟩
          exact h ⟨h2 _ (by omega), h2 _ (by omega)⟩
        clear hs hc hc' HT HU HJ
        generalize T (2 * k) = x at *
        generalize T (2 * k + 1) = y at *
        generalize U (2 * k) = x' at *
        generalize U (2 * k + 1) = y' at *
        by_cases he : x = x' ∧ y = y'
        · rw [decide_eq_true he] at hE
          have HD := Lib.hid (HN.out he)
          clear HN HF he
          go_wp2_with fail
          go_quiet (fail)
          go_wp2_with fail
          go_roundw
          case rel => exact ⟨k + 1, by omega, by go_num, Lib.hid ⟨HD.out, _, rfl⟩⟩
          case measure => simp [intOf]; omega
        · rw [decide_eq_false he] at hE
          have HD := Lib.hid (HF.out he)
          clear HN HF he
          go_wp2_with fail
          go_quiet (fail)
          go_wp2_with fail
          go_ret
          exact ⟨by rw [HD.out]; simp, (HO.out.drewN _).drewN _⟩
      · obtain rfl : k = n := by omega
        have ht : tonesB k k T U = true := decide_eq_true ⟨rfl, HJ.out⟩
        have HD := Lib.hid ht
        have HA1 := Lib.hid (HA.out.old ((Old.refl _).drewN d))
        have HB1 := Lib.hid (HB.out.old ((Old.refl _).drewN d))
        have e1 := fun w => eq_four (P := Try.prog) F G w
        have e2 := fun w => eq_four (P := Try.prog) (fun j => F (5 + j)) (fun j => G (5 + j)) w
        have e3 := fun w => eq_four (P := Try.prog) (fun j => F (9 + j)) (fun j => G (9 + j)) w
        have e4 := fun w => eq_sixteen (P := Try.prog) (fun j => F (13 + j)) (fun j => G (13 + j)) w
        obtain ⟨x1, hx1⟩ : ∃ x, eqB 4 F G = x := ⟨_, rfl⟩
        obtain ⟨x2, hx2⟩ : ∃ x, eqB 4 (fun j => F (5 + j)) (fun j => G (5 + j)) = x := ⟨_, rfl⟩
        obtain ⟨x3, hx3⟩ : ∃ x, eqB 4 (fun j => F (9 + j)) (fun j => G (9 + j)) = x := ⟨_, rfl⟩
        obtain ⟨x4, hx4⟩ : ∃ x, eqB 16 (fun j => F (13 + j)) (fun j => G (13 + j)) = x := ⟨_, rfl⟩
        rw [hx1] at e1
        rw [hx2] at e2
        rw [hx3] at e3
        rw [hx4] at e4
        have H1 := Lib.hid hx1
        have H2 := Lib.hid hx2
        have H3 := Lib.hid hx3
        have H4 := Lib.hid hx4
        clear hs HT HU HJ ht HA HB hx1 hx2 hx3 hx4
        cases x1
        case false =>
          go_wp2_with (first | (with_reducible refine wpList_load_blk rfl 4 (F) 22 _ rfl (w.heap.size) 0 rfl _ (fun j hj => by have := HA1.out.part 0 4 (by omega) j hj; rwa [Nat.zero_add] at this ⊢) Try.underlying22 rfl Hs4.out ?_) | (with_reducible refine wpList_load_blk rfl 4 (G) 22 _ rfl (w.heap.size + 1) 0 rfl _ (fun j hj => by have := HB1.out.part 0 4 (by omega) j hj; rwa [Nat.zero_add] at this ⊢) Try.underlying22 rfl Hs4.out ?_) | (with_reducible refine wpList_load_blk_w (by kernel_rfl) 4 (fun j => F (5 + j)) 22 _ rfl (w.heap.size) 5 rfl _ (HA1.out.part 5 4 (by omega)) Try.underlying22 rfl Hs4.out ?_) | (with_reducible refine wpList_load_blk_w (by kernel_rfl) 4 (fun j => G (5 + j)) 22 _ rfl (w.heap.size + 1) 5 rfl _ (HB1.out.part 5 4 (by omega)) Try.underlying22 rfl Hs4.out ?_) | (with_reducible refine wpList_load_blk_w (by kernel_rfl) 4 (fun j => F (9 + j)) 22 _ rfl (w.heap.size) 9 rfl _ (HA1.out.part 9 4 (by omega)) Try.underlying22 rfl Hs4.out ?_) | (with_reducible refine wpList_load_blk_w (by kernel_rfl) 4 (fun j => G (9 + j)) 22 _ rfl (w.heap.size + 1) 9 rfl _ (HB1.out.part 9 4 (by omega)) Try.underlying22 rfl Hs4.out ?_) | (with_reducible refine wpList_load_blk_w (by kernel_rfl) 16 (fun j => F (13 + j)) 25 _ rfl (w.heap.size) 13 rfl _ (HA1.out.part 13 16 (by omega)) Try.underlying25 rfl Hs16.out ?_) | (with_reducible refine wpList_load_blk_w (by kernel_rfl) 16 (fun j => G (13 + j)) 25 _ rfl (w.heap.size + 1) 13 rfl _ (HB1.out.part 13 16 (by omega)) Try.underlying25 rfl Hs16.out ?_))
          go_ret
          exact ⟨by rw [H1.out]; rfl, HO.out.drewN _⟩
        case true =>
          cases x2
          case false =>
            go_wp2_with (first | (with_reducible refine wpList_load_blk rfl 4 (F) 22 _ rfl (w.heap.size) 0 rfl _ (fun j hj => by have := HA1.out.part 0 4 (by omega) j hj; rwa [Nat.zero_add] at this ⊢) Try.underlying22 rfl Hs4.out ?_) | (with_reducible refine wpList_load_blk rfl 4 (G) 22 _ rfl (w.heap.size + 1) 0 rfl _ (fun j hj => by have := HB1.out.part 0 4 (by omega) j hj; rwa [Nat.zero_add] at this ⊢) Try.underlying22 rfl Hs4.out ?_) | (with_reducible refine wpList_load_blk_w (by kernel_rfl) 4 (fun j => F (5 + j)) 22 _ rfl (w.heap.size) 5 rfl _ (HA1.out.part 5 4 (by omega)) Try.underlying22 rfl Hs4.out ?_) | (with_reducible refine wpList_load_blk_w (by kernel_rfl) 4 (fun j => G (5 + j)) 22 _ rfl (w.heap.size + 1) 5 rfl _ (HB1.out.part 5 4 (by omega)) Try.underlying22 rfl Hs4.out ?_) | (with_reducible refine wpList_load_blk_w (by kernel_rfl) 4 (fun j => F (9 + j)) 22 _ rfl (w.heap.size) 9 rfl _ (HA1.out.part 9 4 (by omega)) Try.underlying22 rfl Hs4.out ?_) | (with_reducible refine wpList_load_blk_w (by kernel_rfl) 4 (fun j => G (9 + j)) 22 _ rfl (w.heap.size + 1) 9 rfl _ (HB1.out.part 9 4 (by omega)) Try.underlying22 rfl Hs4.out ?_) | (with_reducible refine wpList_load_blk_w (by kernel_rfl) 16 (fun j => F (13 + j)) 25 _ rfl (w.heap.size) 13 rfl _ (HA1.out.part 13 16 (by omega)) Try.underlying25 rfl Hs16.out ?_) | (with_reducible refine wpList_load_blk_w (by kernel_rfl) 16 (fun j => G (13 + j)) 25 _ rfl (w.heap.size + 1) 13 rfl _ (HB1.out.part 13 16 (by omega)) Try.underlying25 rfl Hs16.out ?_))
            go_ret
            exact ⟨by rw [H1.out, H2.out, HD.out]; rfl, HO.out.drewN _⟩
          case true =>
            cases x3
            case false =>
              go_wp2_with (first | (with_reducible refine wpList_load_blk rfl 4 (F) 22 _ rfl (w.heap.size) 0 rfl _ (fun j hj => by have := HA1.out.part 0 4 (by omega) j hj; rwa [Nat.zero_add] at this ⊢) Try.underlying22 rfl Hs4.out ?_) | (with_reducible refine wpList_load_blk rfl 4 (G) 22 _ rfl (w.heap.size + 1) 0 rfl _ (fun j hj => by have := HB1.out.part 0 4 (by omega) j hj; rwa [Nat.zero_add] at this ⊢) Try.underlying22 rfl Hs4.out ?_) | (with_reducible refine wpList_load_blk_w (by kernel_rfl) 4 (fun j => F (5 + j)) 22 _ rfl (w.heap.size) 5 rfl _ (HA1.out.part 5 4 (by omega)) Try.underlying22 rfl Hs4.out ?_) | (with_reducible refine wpList_load_blk_w (by kernel_rfl) 4 (fun j => G (5 + j)) 22 _ rfl (w.heap.size + 1) 5 rfl _ (HB1.out.part 5 4 (by omega)) Try.underlying22 rfl Hs4.out ?_) | (with_reducible refine wpList_load_blk_w (by kernel_rfl) 4 (fun j => F (9 + j)) 22 _ rfl (w.heap.size) 9 rfl _ (HA1.out.part 9 4 (by omega)) Try.underlying22 rfl Hs4.out ?_) | (with_reducible refine wpList_load_blk_w (by kernel_rfl) 4 (fun j => G (9 + j)) 22 _ rfl (w.heap.size + 1) 9 rfl _ (HB1.out.part 9 4 (by omega)) Try.underlying22 rfl Hs4.out ?_) | (with_reducible refine wpList_load_blk_w (by kernel_rfl) 16 (fun j => F (13 + j)) 25 _ rfl (w.heap.size) 13 rfl _ (HA1.out.part 13 16 (by omega)) Try.underlying25 rfl Hs16.out ?_) | (with_reducible refine wpList_load_blk_w (by kernel_rfl) 16 (fun j => G (13 + j)) 25 _ rfl (w.heap.size + 1) 13 rfl _ (HB1.out.part 13 16 (by omega)) Try.underlying25 rfl Hs16.out ?_))
              go_ret
              exact ⟨by rw [H1.out, H2.out, H3.out, HD.out]; rfl, HO.out.drewN _⟩
            case true =>
              go_wp2_with (first | (with_reducible refine wpList_load_blk rfl 4 (F) 22 _ rfl (w.heap.size) 0 rfl _ (fun j hj => by have := HA1.out.part 0 4 (by omega) j hj; rwa [Nat.zero_add] at this ⊢) Try.underlying22 rfl Hs4.out ?_) | (with_reducible refine wpList_load_blk rfl 4 (G) 22 _ rfl (w.heap.size + 1) 0 rfl _ (fun j hj => by have := HB1.out.part 0 4 (by omega) j hj; rwa [Nat.zero_add] at this ⊢) Try.underlying22 rfl Hs4.out ?_) | (with_reducible refine wpList_load_blk_w (by kernel_rfl) 4 (fun j => F (5 + j)) 22 _ rfl (w.heap.size) 5 rfl _ (HA1.out.part 5 4 (by omega)) Try.underlying22 rfl Hs4.out ?_) | (with_reducible refine wpList_load_blk_w (by kernel_rfl) 4 (fun j => G (5 + j)) 22 _ rfl (w.heap.size + 1) 5 rfl _ (HB1.out.part 5 4 (by omega)) Try.underlying22 rfl Hs4.out ?_) | (with_reducible refine wpList_load_blk_w (by kernel_rfl) 4 (fun j => F (9 + j)) 22 _ rfl (w.heap.size) 9 rfl _ (HA1.out.part 9 4 (by omega)) Try.underlying22 rfl Hs4.out ?_) | (with_reducible refine wpList_load_blk_w (by kernel_rfl) 4 (fun j => G (9 + j)) 22 _ rfl (w.heap.size + 1) 9 rfl _ (HB1.out.part 9 4 (by omega)) Try.underlying22 rfl Hs4.out ?_) | (with_reducible refine wpList_load_blk_w (by kernel_rfl) 16 (fun j => F (13 + j)) 25 _ rfl (w.heap.size) 13 rfl _ (HA1.out.part 13 16 (by omega)) Try.underlying25 rfl Hs16.out ?_) | (with_reducible refine wpList_load_blk_w (by kernel_rfl) 16 (fun j => G (13 + j)) 25 _ rfl (w.heap.size + 1) 13 rfl _ (HB1.out.part 13 16 (by omega)) Try.underlying25 rfl Hs16.out ?_))
              go_ret
              exact ⟨by rw [H1.out, H2.out, H3.out, H4.out, HD.out]; rfl, HO.out.drewN _⟩
  · have hf : tonesB n m T U = false := by unfold tonesB; rw [decide_eq_false_iff_not]; exact fun h => hnm h.1
    have HF := Lib.hid hf
    have HO := Lib.hid (two_frames 27 w F G (.slice p n cap) (.slice q m cap')).2.2
    clear hT hU hf
    have hnm' : ¬ ((n : Int) = m) := by omega
    go_enter Try.func16, Try.ntmps16
    go_wp2_with fail
    go_ret
    exact ⟨by rw [HF.out]; simp, HO.out⟩
end Go.Proofs.Ytdiahlhfoplmjaa
