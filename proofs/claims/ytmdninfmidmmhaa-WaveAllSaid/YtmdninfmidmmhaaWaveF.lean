/- slices.Clone at rows of integers and of slices. (printed by wip/tools/wavef.py) -/
import Derived.Test.YtmdninfmidmmhaaWaveE
namespace Go.Proofs.Ytmdninfmidmmhaa
set_option linter.unusedVariables false
set_option maxRecDepth 100000
open Go.RowKit Go.ChangeShapes Go.WideShapes

theorem own_emptyV (w : World) (t : TypeId) : ownX (fun q => q < w.heap.size) (w.alloc (.cells #[] t)) t (.slice (some ⟨w.heap.size, 0, none⟩) 0 0) 0 [] := by
  refine ⟨⟨rfl, .inr ⟨w.heap.size, 0, #[], rfl, Nat.zero_le _, heap_alloc_new _ _, Nat.le_refl _, Nat.zero_le _, rfl, rfl⟩⟩, fun k hk => ?_⟩
  have : k = w.heap.size := by simpa [Value.ownBlock, eq_comm] using hk
  omega
theorem Try.infoCI : (Try.prog.info? 3).map (fun i => (i.zero, i.size, i.bytes)) = some (some (.int .i64 0), 1, 8) := by kernel_rfl
theorem CloneI_any (p : Option Addr) (n cap : Nat) (xs : List Value) (w : World) (hx : xs.length = n) (h1 : ∀ u ∈ xs, u.oneCell' = true) (hs : 0 < n → ∃ b o, p = some ⟨b, o, none⟩ ∧ b < w.heap.size ∧ ∀ j u, xs[j]? = some u → w.cell? ⟨b, o + j, none⟩ = some u) (hn : n ≤ 1099511627776) :
    Calls Try.prog 30 #[.slice p n cap] w fun e w' => ∃ v, e = .returned v ∧ ownX (fun q => q < w.heap.size) w' 3 v n xs ∧ Old w w' := by
  have HC := Lib.hid hs
  have H1 := Lib.hid h1
  have HX := Lib.hid hx
  clear hs h1 hx
  obtain ⟨i0, hi, hz0, hz1, hz2⟩ := info_parts Try.infoCI
  cases p with
  | none =>
    have h0 : n = 0 := by
      rcases Nat.eq_zero_or_pos n with h | h
      · exact h
      · obtain ⟨b, off, hp, _⟩ := HC.out h
        cases hp
    have hx : xs = [] := List.eq_nil_of_length_eq_zero (by rw [HX.out]; exact h0)
    have HX2 := Lib.hid hx
    have H0 := Lib.hid h0
    clear hx h0 HC HX H1
    have hE := eql_sl_nil 31 3 none n cap Try.underlying31
    go_enter Try.func30, Try.ntmps30
    go_wp2
    go_ret
    exact ⟨_, rfl, by rw [HX2.out, H0.out]; exact ownX.nil _ _ _, Old.refl w⟩
  | some a =>
    have HN : Hid (∀ j u, xs[j]? = some u → (w.alloc (.cells #[] 3)).cell? (a.add j) = some u) := by
      intro j u hj
      have hjl : j < xs.length := by
        by_cases h : j < xs.length
        · exact h
        · rw [List.getElem?_eq_none (by omega)] at hj; cases hj
      obtain ⟨b, off, hp, hb, hcell⟩ := HC.out (by have := HX.out; omega)
      obtain rfl : a = ⟨b, off, none⟩ := by simpa using hp
      rw [add_plain, (Old.alloc w (.cells #[] 3)).cell (a := ⟨b, off + j, none⟩) hb]
      exact hcell j u hj
    have HO : Hid (Old w (w.alloc (.cells #[] 3))) := Old.alloc _ _
    clear HC
    have hE := eql_sl_nil 31 3 (some a) n cap Try.underlying31
    go_enter Try.func30, Try.ntmps30
    go_wp2_with (at_builtin; refine append_X _ rfl _ _ 31 rfl (fun q => q < w.heap.size) 3 i0 (.int .i64 0) 8 Try.underlying31 hi hz0 hz1 hz2 rfl _ _ _ rfl (own_emptyV w 3) a n cap xs rfl HX.out HN.out H1.out (by unfold maxLen; omega) (by omega) (fun q hq => Nat.lt_of_lt_of_le hq HO.out.size) ?_; intro v' w2 hown2 hk2 _; have HR2 := Lib.hid (show ownX (fun q => q < w.heap.size) w2 3 v' n xs from (by have := hown2; rw [Nat.zero_add, List.nil_append] at this; exact this)); have HO2 := Lib.hid (HO.out.after hk2 (fun _ h => h)); clear hown2 hk2 HO HN HX H1)
    go_ret
    exact ⟨_, rfl, HR2.out, HO2.out⟩
theorem Try.infoCR : (Try.prog.info? 31).map (fun i => (i.zero, i.size, i.bytes)) = some (some (.slice none 0 0), 1, 24) := by kernel_rfl
theorem CloneR_any (p : Option Addr) (n cap : Nat) (xs : List Value) (w : World) (hx : xs.length = n) (h1 : ∀ u ∈ xs, u.oneCell' = true) (hs : 0 < n → ∃ b o, p = some ⟨b, o, none⟩ ∧ b < w.heap.size ∧ ∀ j u, xs[j]? = some u → w.cell? ⟨b, o + j, none⟩ = some u) (hn : n ≤ 1099511627776) :
    Calls Try.prog 29 #[.slice p n cap] w fun e w' => ∃ v, e = .returned v ∧ ownX (fun q => q < w.heap.size) w' 31 v n xs ∧ Old w w' := by
  have HC := Lib.hid hs
  have H1 := Lib.hid h1
  have HX := Lib.hid hx
  clear hs h1 hx
  obtain ⟨i0, hi, hz0, hz1, hz2⟩ := info_parts Try.infoCR
  cases p with
  | none =>
    have h0 : n = 0 := by
      rcases Nat.eq_zero_or_pos n with h | h
      · exact h
      · obtain ⟨b, off, hp, _⟩ := HC.out h
        cases hp
    have hx : xs = [] := List.eq_nil_of_length_eq_zero (by rw [HX.out]; exact h0)
    have HX2 := Lib.hid hx
    have H0 := Lib.hid h0
    clear hx h0 HC HX H1
    have hE := eql_sl_nil 22 31 none n cap Try.underlying22
    go_enter Try.func29, Try.ntmps29
    go_wp2
    go_ret
    exact ⟨_, rfl, by rw [HX2.out, H0.out]; exact ownX.nil _ _ _, Old.refl w⟩
  | some a =>
    have HN : Hid (∀ j u, xs[j]? = some u → (w.alloc (.cells #[] 31)).cell? (a.add j) = some u) := by
      intro j u hj
      have hjl : j < xs.length := by
        by_cases h : j < xs.length
        · exact h
        · rw [List.getElem?_eq_none (by omega)] at hj; cases hj
      obtain ⟨b, off, hp, hb, hcell⟩ := HC.out (by have := HX.out; omega)
      obtain rfl : a = ⟨b, off, none⟩ := by simpa using hp
      rw [add_plain, (Old.alloc w (.cells #[] 31)).cell (a := ⟨b, off + j, none⟩) hb]
      exact hcell j u hj
    have HO : Hid (Old w (w.alloc (.cells #[] 31))) := Old.alloc _ _
    clear HC
    have hE := eql_sl_nil 22 31 (some a) n cap Try.underlying22
    go_enter Try.func29, Try.ntmps29
    go_wp2_with (at_builtin; refine append_X _ rfl _ _ 22 rfl (fun q => q < w.heap.size) 31 i0 (.slice none 0 0) 24 Try.underlying22 hi hz0 hz1 hz2 rfl _ _ _ rfl (own_emptyV w 31) a n cap xs rfl HX.out HN.out H1.out (by unfold maxLen; omega) (by omega) (fun q hq => Nat.lt_of_lt_of_le hq HO.out.size) ?_; intro v' w2 hown2 hk2 _; have HR2 := Lib.hid (show ownX (fun q => q < w.heap.size) w2 31 v' n xs from (by have := hown2; rw [Nat.zero_add, List.nil_append] at this; exact this)); have HO2 := Lib.hid (HO.out.after hk2 (fun _ h => h)); clear hown2 hk2 HO HN HX H1)
    go_ret
    exact ⟨_, rfl, HR2.out, HO2.out⟩
end Go.Proofs.Ytmdninfmidmmhaa
