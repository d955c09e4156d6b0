/- The law's own Few: a sample of few channels of few samples. -/
import Derived.Test.YtmdninfmidmmhaaLawCk
import Derived.Test.YtmdninfmidmmhaaSampK
import Derived.Test.YtmdninfmidmmhaaRowsB
namespace Go.Proofs.Ytmdninfmidmmhaa
set_option linter.unusedVariables false
set_option maxRecDepth 100000
set_option linter.unusedSimpArgs false
open Go.RowKit Go.ChangeShapes Go.WideShapes

/-- What the law keeps of a channel. -/
def fewM (S : Smp) (k : Nat) : Nat := if 150 < S.M k then 150 else S.M k
def fewV (S : Smp) (k : Nat) : List Value := (List.range k).map fun i => .slice (S.Q i) (fewM S i) (S.C i)
theorem fewV_succ (S : Smp) (k : Nat) : fewV S (k + 1) = fewV S k ++ [.slice (S.Q k) (fewM S k) (S.C k)] := by unfold fewV; rw [List.range_succ, List.map_append]; rfl
theorem fewV_len (S : Smp) (k : Nat) : (fewV S k).length = k := by simp [fewV]
theorem Try.infoR : (Try.prog.info? 31).map (fun i => (i.zero, i.size, i.bytes)) = some (some (.slice none 0 0), 1, 24) := by kernel_rfl
/-- What the law is given of a sample. -/
def FewR (w : World) (S : Smp) (e : Ending) (w' : World) : Prop := ∃ S' : Smp, e = .returned (.agg S'.cells) ∧ SmOk w' S' ∧ SmFew S' ∧ Old w w' ∧ (∀ a, 0 < S'.n → S'.p = some a → w.heap.size ≤ a.block) ∧ S'.Q = S.Q ∧ S'.n ≤ S.n ∧ ∀ i, S'.M i ≤ S.M i
set_option maxHeartbeats 8000000 in
theorem Few_any (S : Smp) (w : World) (hs : SmOk w S) :
    Calls Try.prog 6 #[S.val] w (FewR w S) := by
  have Hs6 : Hid ((Try.prog.info? 24).map (·.size) = some 6) := Lib.hid (by kernel_rfl)
  obtain ⟨ir, hir, hr0, hr1, hr2⟩ := info_parts Try.infoR
  obtain ⟨z, hz⟩ : ∃ z : Array Value, z = #[.string ⟨#[]⟩, .int .i64 0, .bool false, .int .i64 0, .int .i64 0, .slice none 0 0] := ⟨_, rfl⟩
  have Hz6 : Hid (z.size = 6) := Lib.hid (by rw [hz]; rfl)
  obtain ⟨W1, hW1⟩ : ∃ W1, W1 = (w.alloc (.cells S.cells 24)).alloc (.cells z 24) := ⟨_, rfl⟩
  have hst : FewSt w W1 S z := by
    rw [hW1]
    refine ⟨(SmB.new w S).old (Old.alloc _ _), ?_, (Old.alloc w _).alloc' _⟩
    exact heap_alloc2_new w _ _
  have HS := Lib.hid hst
  obtain ⟨c0, _⟩ := hst.b.at
  have f0 : W1.frozen? ⟨w.heap.size, 0, none⟩ = false := frozen_of_row _ _ _ _ _ hst.b
  have HOK := Lib.hid hs
  rw [hz] at hW1
  unfold Smp.cells at hW1
  have HW := Lib.hid hW1
  unfold Smp.val Smp.cells
  clear hs hst hW1 hz
  go_enter Try.func6, Try.ntmps6
  go_upto_region 1 with fail
  rw [← HW.out]
  clear HW
  have h1 : (100 < S.s.size ∧ ∃ s', s' = S.s.extract 0 100 ∧ s'.size ≤ 100) ∨ (¬ 100 < S.s.size ∧ ∃ s', s' = S.s ∧ s'.size ≤ 100) := by
    by_cases h : 100 < S.s.size
    · exact .inl ⟨h, _, rfl, by rw [ByteArray.size_extract]; omega⟩
    · exact .inr ⟨h, _, rfl, by omega⟩
  rcases h1 with ⟨h1, s', hs', hsz⟩ | ⟨h1, s', hs', hsz⟩
  case inl =>
    have d : decide (100 < (S.s.size : Int)) = true := decide_eq_true (by omega)
    have HS2 := Lib.hid (HS.out.named s')
    have HSZ := Lib.hid hsz
    go_wp2_with fail
    clear d h1 c0 f0 HS hsz
    rw [← hs']
    clear hs'
    go_loopw [3, 4] (fun v i wr => ∃ k : Nat, k ≤ 4 ∧ k ≤ S.n ∧ i = .int .i64 k ∧ Hid (FewSt w wr (S.named s') z) ∧ Hid (ownX (fun q => q < w.heap.size + 2) wr 31 v k (fewV S k))) (fun _ i _ => 4 - (intOf i).toNat)
    case atStart => exact ⟨0, by omega, by omega, rfl, HS2, Lib.hid (ownX.nil _ _ _)⟩
    case round =>
      clear HS2
      obtain ⟨k, hk4, hkn, rfl, HF, HA⟩ := hrel
      obtain ⟨b0, b1, b2, b3, b4, b5⟩ := HF.out.b.at
      have hb5 : wr.cell? ⟨w.heap.size, 5, none⟩ = some (.slice S.p S.n S.c) := b5
      clear b5
      have hend : (k = 4 ∨ k = S.n) ∨ (k < 4 ∧ k < S.n) := by omega
      rcases hend with hend | ⟨h4, hn⟩
      · have dd : (decide ((k : Int) < (S.n : Int)) && decide ((k : Int) < 4)) = false := by rcases hend with h | h <;> simp <;> omega
        have hsh := HA.out.shape
        have hst := HF.out
        obtain ⟨p', c', hv, hle, hcm, hcells⟩ : ∃ p' c', u3 = .slice p' k c' ∧ k ≤ c' ∧ c' ≤ maxLen ∧ (0 < k → ∃ g o, p' = some ⟨g, o, none⟩ ∧ g < wr.heap.size ∧ w.heap.size + 2 ≤ g ∧ ∀ i, i < k → wr.cell? ⟨g, o + i, none⟩ = some (.slice (S.Q i) (fewM S i) (S.C i))) := by
          rcases hsh with ⟨hv, h0⟩ | ⟨g, cap, hv, hX, hg, h1, h2, h3⟩
          · subst h0
            exact ⟨none, 0, hv, Nat.le_refl _, Nat.zero_le _, fun h => by omega⟩
          · refine ⟨_, cap, hv, h1, h2, fun h0 => ⟨g, 0, rfl, hg, by simpa using hX, fun i hi => ?_⟩⟩
            rw [Nat.zero_add]
            refine h3 i _ ?_
            unfold fewV
            rw [List.getElem?_map, List.getElem?_range hi]
            rfl
        subst hv
        have f5 : wr.frozen? ⟨w.heap.size, 5, none⟩ = false := frozen_of_row _ _ _ _ _ hst.b
        have hst2 := hst.rowed p' k c' (fewM S)
        obtain ⟨d0, d1, d2, d3, d4, d5⟩ := hst2.b.at
        have d0 : (wr.setCell ⟨w.heap.size, 5, none⟩ (.slice p' k c')).cell? ⟨w.heap.size, 0, none⟩ = some (.string s') := d0
        have d1 : (wr.setCell ⟨w.heap.size, 5, none⟩ (.slice p' k c')).cell? ⟨w.heap.size, 1, none⟩ = some (.int .i64 S.r) := d1
        have d2 : (wr.setCell ⟨w.heap.size, 5, none⟩ (.slice p' k c')).cell? ⟨w.heap.size, 2, none⟩ = some (.bool S.lp) := d2
        have d3 : (wr.setCell ⟨w.heap.size, 5, none⟩ (.slice p' k c')).cell? ⟨w.heap.size, 3, none⟩ = some (.int .i64 S.a) := d3
        have d4 : (wr.setCell ⟨w.heap.size, 5, none⟩ (.slice p' k c')).cell? ⟨w.heap.size, 4, none⟩ = some (.int .i64 S.b) := d4
        have d5 : (wr.setCell ⟨w.heap.size, 5, none⟩ (.slice p' k c')).cell? ⟨w.heap.size, 5, none⟩ = some (.slice p' k c') := d5
        obtain ⟨W3, hW3⟩ : ∃ W3, W3 = wr.setCell ⟨w.heap.size, 5, none⟩ (.slice p' k c') := ⟨_, rfl⟩
        have hfew : SmFew ((S.named s').rowed p' k c' (fewM S)) := ⟨HSZ.out, hk4, fun i hi => by show fewM S i ≤ 150; unfold fewM; split <;> omega⟩
        have HFW := Lib.hid hfew
        have hst3 : FewSt w W3 ((S.named s').rowed p' k c' (fewM S)) z := by rw [hW3]; exact hst2
        have HST := Lib.hid hst3
        have HW3 := Lib.hid hW3
        rw [← hW3] at d0 d1 d2 d3 d4 d5
        obtain ⟨R, hR⟩ : ∃ R : Array Value, R = #[.string s', .int .i64 S.r, .bool S.lp, .int .i64 S.a, .int .i64 S.b, .slice p' k c'] := ⟨_, rfl⟩
        have HR := Lib.hid hR
        have hrr := row_ret hst3.r hst3.old (by omega) R
        have hok : SmOk (W3.setRow (w.heap.size + 1) R) ((S.named s').rowed p' k c' (fewM S)) := by
          refine ⟨by have := HSZ.out; exact Nat.le_trans this (by decide), hle, hcm, ⟨fun h0 => ?_, fun i hi => ?_⟩⟩
          · obtain ⟨g, o, e, h1, h2, h3⟩ := hcells h0
            have hk : Kept (fun q => w.heap.size + 2 ≤ q) wr (W3.setRow (w.heap.size + 1) R) := by
              rw [hW3]
              exact (Kept.setCell wr (a := ⟨w.heap.size, 5, none⟩) (by simp) _).trans ⟨rfl, rfl, by simp, fun k hk => setRow_other _ _ _ _ (by omega)⟩
            refine ⟨g, o, e, Nat.lt_of_lt_of_le h1 hk.size, fun i hi => (hk.cell (a := ⟨g, o + i, none⟩) h2).trans (h3 i hi)⟩
          · have hi' : i < S.n := by
              have : i < k := hi
              omega
            have hr := (HOK.out.old hrr.2).rows.row i hi'
            have hm : fewM S i ≤ S.M i := by unfold fewM; split <;> omega
            refine ⟨Nat.le_trans hm hr.1, hr.2.1, fun h0 => ?_⟩
            obtain ⟨g, o, e, h1, h2⟩ := hr.2.2 (Nat.lt_of_lt_of_le h0 hm)
            exact ⟨g, o, e, h1, fun j hj => h2 j (Nat.lt_of_lt_of_le hj hm)⟩
        have HOK2 := Lib.hid hok
        have HRR := Lib.hid hrr
        have HGP := Lib.hid (show 0 < k → ∃ g o, p' = some ⟨g, o, none⟩ ∧ w.heap.size ≤ g from fun h0 => by
          obtain ⟨g, o, e, _, h2, _⟩ := hcells h0
          exact ⟨g, o, e, by omega⟩)
        have HR6 : Hid (R.size = 6) := Lib.hid (by rw [hR]; rfl)
        have HR1 : Hid (R.all (·.oneCell') = true) := Lib.hid (by rw [hR]; kernel_rfl)
        clear hrr hok hfew hst hst2 hst3 hsh hcells hle hcm HF HA HOK b0 b1 b2 b3 b4 hW3 hR dd
        rcases hend with h | h
        · have e4 : decide ((k : Int) < 4) = false := decide_eq_false (by omega)
          clear h
          go_wp2_with (first | (rw [← HW3.out]) | (rw [← HR.out]; with_reducible refine wpList_store_row rfl 24 _ _ rfl (w.heap.size + 1) R rfl rfl 24 _ HST.out.r (by rw [HR6.out]; exact Hs6.out) (by rw [HR6.out, Hz6.out]) HR1.out ?_))
          all_goals
            refine bodyPost_ret (results_cell_row rfl _ _ (w.heap.size + 1) 24 R (0, 0) _ rfl HRR.out.1 Try.underlying24 rfl (by rw [HR6.out]; exact Hs6.out)) rfl ?_
            exact ⟨_, by rw [HR.out]; rfl, HOK2.out, HFW.out, HRR.out.2, fun a h0 ha => by obtain ⟨g, o, e, h⟩ := HGP.out h0; have ha : p' = some a := ha; rw [e] at ha; cases ha; exact h, rfl, hkn, fun i => by show fewM S i ≤ S.M i; unfold fewM; split <;> omega⟩
        · have e4 : decide ((k : Int) < (S.n : Int)) = false := decide_eq_false (by omega)
          have e5 : ¬ ((k : Int) < (S.n : Int)) := by omega
          clear h
          go_wp2_with (first | (rw [← HW3.out]) | (rw [← HR.out]; with_reducible refine wpList_store_row rfl 24 _ _ rfl (w.heap.size + 1) R rfl rfl 24 _ HST.out.r (by rw [HR6.out]; exact Hs6.out) (by rw [HR6.out, Hz6.out]) HR1.out ?_))
          all_goals
            refine bodyPost_ret (results_cell_row rfl _ _ (w.heap.size + 1) 24 R (0, 0) _ rfl HRR.out.1 Try.underlying24 rfl (by rw [HR6.out]; exact Hs6.out)) rfl ?_
            exact ⟨_, by rw [HR.out]; rfl, HOK2.out, HFW.out, HRR.out.2, fun a h0 ha => by obtain ⟨g, o, e, h⟩ := HGP.out h0; have ha : p' = some a := ha; rw [e] at ha; cases ha; exact h, rfl, hkn, fun i => by show fewM S i ≤ S.M i; unfold fewM; split <;> omega⟩
      · obtain ⟨g, o, hp, hg, hc⟩ := (HOK.out.old HF.out.old).rows.cell (by omega)
        have ck := hc k hn
        have hr := (HOK.out.old HF.out.old).rows.row k hn
        rw [hp] at hb5
        have q1 : (k : Int) < S.n := by omega
        have HLT := Lib.hid HF.out.lt
        have HN := Lib.hid (fewV_succ S k)
        have HLN := Lib.hid (fewV_len S k)
        by_cases hm : 150 < S.M k
        · obtain ⟨g2, o2, hQ, _, _⟩ := hr.2.2 (by omega)
          have hcl : 150 ≤ S.C k := by have := hr.1; omega
          rw [hQ] at ck
          have HX : Hid (fewV S (k + 1) = fewV S k ++ [.slice (some ⟨g2, o2, none⟩) 150 (S.C k)]) := Lib.hid (by rw [HN.out, hQ]; unfold fewM; rw [if_pos hm])
          have hcm : S.C k ≤ 9223372036854775807 := by have := hr.2.1; unfold maxLen at this; omega
          have HA1 := Lib.hid (HA.out.old (Old.alloc wr (.cells #[.slice (some ⟨g2, o2, none⟩) 150 (S.C k)] 31)))
          have HF1 := Lib.hid (HF.out.kept ((Old.alloc wr (.cells #[.slice (some ⟨g2, o2, none⟩) 150 (S.C k)] 31)).kept (fun q hq => by have := HLT.out; omega)))
          clear hc hr hp hQ HA HF HN hg
          go_wp2_with (at_builtin; refine append_X _ rfl _ _ 22 rfl (fun q => q < w.heap.size + 2) 31 ir (.slice none 0 0) 24 Try.underlying22 hir hr0 hr1 hr2 rfl _ _ _ rfl HA1.out ⟨wr.heap.size, 0, none⟩ 1 1 [.slice (some ⟨g2, o2, none⟩) 150 (S.C k)] rfl rfl (news_one wr _ _) (one_val rfl) (by unfold maxLen; omega) (by omega) (fun q hq => by have := HF1.out.lt; omega) ?_; intro v' w2 hown2 hk2 _; have HF2 := Lib.hid (HF1.out.kept hk2); have HA2 := Lib.hid hown2; clear hown2 hk2 HA1 HF1)
          go_roundw
          case rel => exact ⟨k + 1, by omega, by omega, by go_num, HF2, by rw [HX.out]; exact HA2⟩
          case measure => simp [intOf]; omega
        · have HX : Hid (fewV S (k + 1) = fewV S k ++ [.slice (S.Q k) (S.M k) (S.C k)]) := Lib.hid (by rw [HN.out]; unfold fewM; rw [if_neg hm])
          have HA1 := Lib.hid (HA.out.old (Old.alloc wr (.cells #[.slice (S.Q k) (S.M k) (S.C k)] 31)))
          have HF1 := Lib.hid (HF.out.kept ((Old.alloc wr (.cells #[.slice (S.Q k) (S.M k) (S.C k)] 31)).kept (fun q hq => by have := HLT.out; omega)))
          clear hc hr hp HA HF HN hg
          go_wp2_with (at_builtin; refine append_X _ rfl _ _ 22 rfl (fun q => q < w.heap.size + 2) 31 ir (.slice none 0 0) 24 Try.underlying22 hir hr0 hr1 hr2 rfl _ _ _ rfl HA1.out ⟨wr.heap.size, 0, none⟩ 1 1 [.slice (S.Q k) (S.M k) (S.C k)] rfl rfl (news_one wr _ _) (one_val rfl) (by unfold maxLen; omega) (by omega) (fun q hq => by have := HF1.out.lt; omega) ?_; intro v' w2 hown2 hk2 _; have HF2 := Lib.hid (HF1.out.kept hk2); have HA2 := Lib.hid hown2; clear hown2 hk2 HA1 HF1)
          go_roundw
          case rel => exact ⟨k + 1, by omega, by omega, by go_num, HF2, by rw [HX.out]; exact HA2⟩
          case measure => simp [intOf]; omega
  case inr =>
    have d : decide (100 < (S.s.size : Int)) = false := decide_eq_false (by omega)
    have HS2 := Lib.hid (show FewSt w W1 (S.named s') z by rw [hs']; exact HS.out)
    have HSZ := Lib.hid hsz
    go_wp2_with fail
    clear d h1 c0 f0 HS hs' hsz
    go_loopw [3, 4] (fun v i wr => ∃ k : Nat, k ≤ 4 ∧ k ≤ S.n ∧ i = .int .i64 k ∧ Hid (FewSt w wr (S.named s') z) ∧ Hid (ownX (fun q => q < w.heap.size + 2) wr 31 v k (fewV S k))) (fun _ i _ => 4 - (intOf i).toNat)
    case atStart => exact ⟨0, by omega, by omega, rfl, HS2, Lib.hid (ownX.nil _ _ _)⟩
    case round =>
      clear HS2
      obtain ⟨k, hk4, hkn, rfl, HF, HA⟩ := hrel
      obtain ⟨b0, b1, b2, b3, b4, b5⟩ := HF.out.b.at
      have hb5 : wr.cell? ⟨w.heap.size, 5, none⟩ = some (.slice S.p S.n S.c) := b5
      clear b5
      have hend : (k = 4 ∨ k = S.n) ∨ (k < 4 ∧ k < S.n) := by omega
      rcases hend with hend | ⟨h4, hn⟩
      · have dd : (decide ((k : Int) < (S.n : Int)) && decide ((k : Int) < 4)) = false := by rcases hend with h | h <;> simp <;> omega
        have hsh := HA.out.shape
        have hst := HF.out
        obtain ⟨p', c', hv, hle, hcm, hcells⟩ : ∃ p' c', u3 = .slice p' k c' ∧ k ≤ c' ∧ c' ≤ maxLen ∧ (0 < k → ∃ g o, p' = some ⟨g, o, none⟩ ∧ g < wr.heap.size ∧ w.heap.size + 2 ≤ g ∧ ∀ i, i < k → wr.cell? ⟨g, o + i, none⟩ = some (.slice (S.Q i) (fewM S i) (S.C i))) := by
          rcases hsh with ⟨hv, h0⟩ | ⟨g, cap, hv, hX, hg, h1, h2, h3⟩
          · subst h0
            exact ⟨none, 0, hv, Nat.le_refl _, Nat.zero_le _, fun h => by omega⟩
          · refine ⟨_, cap, hv, h1, h2, fun h0 => ⟨g, 0, rfl, hg, by simpa using hX, fun i hi => ?_⟩⟩
            rw [Nat.zero_add]
            refine h3 i _ ?_
            unfold fewV
            rw [List.getElem?_map, List.getElem?_range hi]
            rfl
        subst hv
        have f5 : wr.frozen? ⟨w.heap.size, 5, none⟩ = false := frozen_of_row _ _ _ _ _ hst.b
        have hst2 := hst.rowed p' k c' (fewM S)
        obtain ⟨d0, d1, d2, d3, d4, d5⟩ := hst2.b.at
        have d0 : (wr.setCell ⟨w.heap.size, 5, none⟩ (.slice p' k c')).cell? ⟨w.heap.size, 0, none⟩ = some (.string s') := d0
        have d1 : (wr.setCell ⟨w.heap.size, 5, none⟩ (.slice p' k c')).cell? ⟨w.heap.size, 1, none⟩ = some (.int .i64 S.r) := d1
        have d2 : (wr.setCell ⟨w.heap.size, 5, none⟩ (.slice p' k c')).cell? ⟨w.heap.size, 2, none⟩ = some (.bool S.lp) := d2
        have d3 : (wr.setCell ⟨w.heap.size, 5, none⟩ (.slice p' k c')).cell? ⟨w.heap.size, 3, none⟩ = some (.int .i64 S.a) := d3
        have d4 : (wr.setCell ⟨w.heap.size, 5, none⟩ (.slice p' k c')).cell? ⟨w.heap.size, 4, none⟩ = some (.int .i64 S.b) := d4
        have d5 : (wr.setCell ⟨w.heap.size, 5, none⟩ (.slice p' k c')).cell? ⟨w.heap.size, 5, none⟩ = some (.slice p' k c') := d5
        obtain ⟨W3, hW3⟩ : ∃ W3, W3 = wr.setCell ⟨w.heap.size, 5, none⟩ (.slice p' k c') := ⟨_, rfl⟩
        have hfew : SmFew ((S.named s').rowed p' k c' (fewM S)) := ⟨HSZ.out, hk4, fun i hi => by show fewM S i ≤ 150; unfold fewM; split <;> omega⟩
        have HFW := Lib.hid hfew
        have hst3 : FewSt w W3 ((S.named s').rowed p' k c' (fewM S)) z := by rw [hW3]; exact hst2
        have HST := Lib.hid hst3
        have HW3 := Lib.hid hW3
        rw [← hW3] at d0 d1 d2 d3 d4 d5
        obtain ⟨R, hR⟩ : ∃ R : Array Value, R = #[.string s', .int .i64 S.r, .bool S.lp, .int .i64 S.a, .int .i64 S.b, .slice p' k c'] := ⟨_, rfl⟩
        have HR := Lib.hid hR
        have hrr := row_ret hst3.r hst3.old (by omega) R
        have hok : SmOk (W3.setRow (w.heap.size + 1) R) ((S.named s').rowed p' k c' (fewM S)) := by
          refine ⟨by have := HSZ.out; exact Nat.le_trans this (by decide), hle, hcm, ⟨fun h0 => ?_, fun i hi => ?_⟩⟩
          · obtain ⟨g, o, e, h1, h2, h3⟩ := hcells h0
            have hk : Kept (fun q => w.heap.size + 2 ≤ q) wr (W3.setRow (w.heap.size + 1) R) := by
              rw [hW3]
              exact (Kept.setCell wr (a := ⟨w.heap.size, 5, none⟩) (by simp) _).trans ⟨rfl, rfl, by simp, fun k hk => setRow_other _ _ _ _ (by omega)⟩
            refine ⟨g, o, e, Nat.lt_of_lt_of_le h1 hk.size, fun i hi => (hk.cell (a := ⟨g, o + i, none⟩) h2).trans (h3 i hi)⟩
          · have hi' : i < S.n := by
              have : i < k := hi
              omega
            have hr := (HOK.out.old hrr.2).rows.row i hi'
            have hm : fewM S i ≤ S.M i := by unfold fewM; split <;> omega
            refine ⟨Nat.le_trans hm hr.1, hr.2.1, fun h0 => ?_⟩
            obtain ⟨g, o, e, h1, h2⟩ := hr.2.2 (Nat.lt_of_lt_of_le h0 hm)
            exact ⟨g, o, e, h1, fun j hj => h2 j (Nat.lt_of_lt_of_le hj hm)⟩
        have HOK2 := Lib.hid hok
        have HRR := Lib.hid hrr
        have HGP := Lib.hid (show 0 < k → ∃ g o, p' = some ⟨g, o, none⟩ ∧ w.heap.size ≤ g from fun h0 => by
          obtain ⟨g, o, e, _, h2, _⟩ := hcells h0
          exact ⟨g, o, e, by omega⟩)
        have HR6 : Hid (R.size = 6) := Lib.hid (by rw [hR]; rfl)
        have HR1 : Hid (R.all (·.oneCell') = true) := Lib.hid (by rw [hR]; kernel_rfl)
        clear hrr hok hfew hst hst2 hst3 hsh hcells hle hcm HF HA HOK b0 b1 b2 b3 b4 hW3 hR dd
        rcases hend with h | h
        · have e4 : decide ((k : Int) < 4) = false := decide_eq_false (by omega)
          clear h
          go_wp2_with (first | (rw [← HW3.out]) | (rw [← HR.out]; with_reducible refine wpList_store_row rfl 24 _ _ rfl (w.heap.size + 1) R rfl rfl 24 _ HST.out.r (by rw [HR6.out]; exact Hs6.out) (by rw [HR6.out, Hz6.out]) HR1.out ?_))
          all_goals
            refine bodyPost_ret (results_cell_row rfl _ _ (w.heap.size + 1) 24 R (0, 0) _ rfl HRR.out.1 Try.underlying24 rfl (by rw [HR6.out]; exact Hs6.out)) rfl ?_
            exact ⟨_, by rw [HR.out]; rfl, HOK2.out, HFW.out, HRR.out.2, fun a h0 ha => by obtain ⟨g, o, e, h⟩ := HGP.out h0; have ha : p' = some a := ha; rw [e] at ha; cases ha; exact h, rfl, hkn, fun i => by show fewM S i ≤ S.M i; unfold fewM; split <;> omega⟩
        · have e4 : decide ((k : Int) < (S.n : Int)) = false := decide_eq_false (by omega)
          have e5 : ¬ ((k : Int) < (S.n : Int)) := by omega
          clear h
          go_wp2_with (first | (rw [← HW3.out]) | (rw [← HR.out]; with_reducible refine wpList_store_row rfl 24 _ _ rfl (w.heap.size + 1) R rfl rfl 24 _ HST.out.r (by rw [HR6.out]; exact Hs6.out) (by rw [HR6.out, Hz6.out]) HR1.out ?_))
          all_goals
            refine bodyPost_ret (results_cell_row rfl _ _ (w.heap.size + 1) 24 R (0, 0) _ rfl HRR.out.1 Try.underlying24 rfl (by rw [HR6.out]; exact Hs6.out)) rfl ?_
            exact ⟨_, by rw [HR.out]; rfl, HOK2.out, HFW.out, HRR.out.2, fun a h0 ha => by obtain ⟨g, o, e, h⟩ := HGP.out h0; have ha : p' = some a := ha; rw [e] at ha; cases ha; exact h, rfl, hkn, fun i => by show fewM S i ≤ S.M i; unfold fewM; split <;> omega⟩
      · obtain ⟨g, o, hp, hg, hc⟩ := (HOK.out.old HF.out.old).rows.cell (by omega)
        have ck := hc k hn
        have hr := (HOK.out.old HF.out.old).rows.row k hn
        rw [hp] at hb5
        have q1 : (k : Int) < S.n := by omega
        have HLT := Lib.hid HF.out.lt
        have HN := Lib.hid (fewV_succ S k)
        have HLN := Lib.hid (fewV_len S k)
        by_cases hm : 150 < S.M k
        · obtain ⟨g2, o2, hQ, _, _⟩ := hr.2.2 (by omega)
          have hcl : 150 ≤ S.C k := by have := hr.1; omega
          rw [hQ] at ck
          have HX : Hid (fewV S (k + 1) = fewV S k ++ [.slice (some ⟨g2, o2, none⟩) 150 (S.C k)]) := Lib.hid (by rw [HN.out, hQ]; unfold fewM; rw [if_pos hm])
          have hcm : S.C k ≤ 9223372036854775807 := by have := hr.2.1; unfold maxLen at this; omega
          have HA1 := Lib.hid (HA.out.old (Old.alloc wr (.cells #[.slice (some ⟨g2, o2, none⟩) 150 (S.C k)] 31)))
          have HF1 := Lib.hid (HF.out.kept ((Old.alloc wr (.cells #[.slice (some ⟨g2, o2, none⟩) 150 (S.C k)] 31)).kept (fun q hq => by have := HLT.out; omega)))
          clear hc hr hp hQ HA HF HN hg
          go_wp2_with (at_builtin; refine append_X _ rfl _ _ 22 rfl (fun q => q < w.heap.size + 2) 31 ir (.slice none 0 0) 24 Try.underlying22 hir hr0 hr1 hr2 rfl _ _ _ rfl HA1.out ⟨wr.heap.size, 0, none⟩ 1 1 [.slice (some ⟨g2, o2, none⟩) 150 (S.C k)] rfl rfl (news_one wr _ _) (one_val rfl) (by unfold maxLen; omega) (by omega) (fun q hq => by have := HF1.out.lt; omega) ?_; intro v' w2 hown2 hk2 _; have HF2 := Lib.hid (HF1.out.kept hk2); have HA2 := Lib.hid hown2; clear hown2 hk2 HA1 HF1)
          go_roundw
          case rel => exact ⟨k + 1, by omega, by omega, by go_num, HF2, by rw [HX.out]; exact HA2⟩
          case measure => simp [intOf]; omega
        · have HX : Hid (fewV S (k + 1) = fewV S k ++ [.slice (S.Q k) (S.M k) (S.C k)]) := Lib.hid (by rw [HN.out]; unfold fewM; rw [if_neg hm])
          have HA1 := Lib.hid (HA.out.old (Old.alloc wr (.cells #[.slice (S.Q k) (S.M k) (S.C k)] 31)))
          have HF1 := Lib.hid (HF.out.kept ((Old.alloc wr (.cells #[.slice (S.Q k) (S.M k) (S.C k)] 31)).kept (fun q hq => by have := HLT.out; omega)))
          clear hc hr hp HA HF HN hg
          go_wp2_with (at_builtin; refine append_X _ rfl _ _ 22 rfl (fun q => q < w.heap.size + 2) 31 ir (.slice none 0 0) 24 Try.underlying22 hir hr0 hr1 hr2 rfl _ _ _ rfl HA1.out ⟨wr.heap.size, 0, none⟩ 1 1 [.slice (S.Q k) (S.M k) (S.C k)] rfl rfl (news_one wr _ _) (one_val rfl) (by unfold maxLen; omega) (by omega) (fun q hq => by have := HF1.out.lt; omega) ?_; intro v' w2 hown2 hk2 _; have HF2 := Lib.hid (HF1.out.kept hk2); have HA2 := Lib.hid hown2; clear hown2 hk2 HA1 HF1)
          go_roundw
          case rel => exact ⟨k + 1, by omega, by omega, by go_num, HF2, by rw [HX.out]; exact HA2⟩
          case measure => simp [intOf]; omega
end Go.Proofs.Ytmdninfmidmmhaa
