/- slices.Clone of bytes. -/
import Derived.Test.YtooamkicmmgniaaAppU
import Derived.Test.YtooamkicmmgniaaSmall
import Derived.Test.YtooamkicmmgniaaChecked
namespace Go.Proofs.Ytooamkicmmgniaa
set_option linter.unusedVariables false
set_option maxRecDepth 100000
open Go.RowKit Go.ChangeShapes Go.WideShapes

theorem Try.info_u8c : (Try.prog.info? 5).map (fun i => (i.zero, i.size, i.bytes)) = some (some (.int .u8 0), 1, 1) := by kernel_rfl
theorem CloneU_any (p : Option Addr) (n cap : Nat) (F : Nat → Int) (w : World) (hs : SlU w p n F) (hn : n ≤ 1099511627776) :
    Calls Try.prog 32 #[.slice p n cap] w fun e w' => ∃ q c, e = .returned (.slice q n c) ∧ n ≤ c ∧ c ≤ maxLen ∧ SlU w' q n F ∧ Old w w' ∧ ∀ a, 0 < n → q = some a → w.heap.size ≤ a.block := by
  have HC := Lib.hid hs
  clear hs
  obtain ⟨i0, hi, hz0, hz1, hz2⟩ := info_parts Try.info_u8c
  cases p with
  | none =>
    have h0 : n = 0 := by
      rcases Nat.eq_zero_or_pos n with h | h
      · exact h
      · obtain ⟨b, off, hp, _⟩ := HC.out h
        cases hp
    have H0 := Lib.hid h0
    clear h0 HC
    have hE := eql_sl_nil 22 5 none n cap Try.underlying22
    go_enter Try.func32, Try.ntmps32
    go_wp2
    go_ret
    exact ⟨none, 0, by rw [H0.out]; rfl, by rw [H0.out]; exact Nat.le_refl _, Nat.zero_le _, fun h => by have := H0.out; omega, Old.refl w, fun a hn ha => by cases ha⟩
  | some a =>
    have HO : Hid (Old w (w.alloc (.cells #[] 5))) := Old.alloc _ _
    have hE := eql_sl_nil 22 5 (some a) n cap Try.underlying22
    have ho : ownX (fun q => q < w.heap.size) (w.alloc (.cells #[] 5)) 5 (.slice (some ⟨w.heap.size, 0, none⟩) 0 0) 0 (u8L (fun _ => 0) 0) := own_emptyX w 5
    have HOw := Lib.hid ho
    have HS := Lib.hid (HC.out.old HO.out)
    clear HC ho
    go_enter Try.func32, Try.ntmps32
    go_wp2_with (at_builtin; refine append_U _ rfl _ _ 22 rfl (fun q => q < w.heap.size) 5 i0 Try.underlying22 hi hz0 hz1 hz2 _ 0 _ rfl HOw.out (some a) n cap F rfl HS.out (by omega) (fun q hq => Nat.lt_of_lt_of_le hq HO.out.size) ?_; intro v' w2 how hk2 _; have HR2 := Lib.hid how; have HO2 := Lib.hid (HO.out.after hk2 fun _ h => h); clear how hk2)
    go_ret
    obtain ⟨p', c', e1, e2, e3, e4, e5⟩ := HR2.out.bytes
    rw [Nat.zero_add] at e1 e2 e4 e5
    exact ⟨p', c', by rw [e1]; rfl, e2, e3, e4.ext fun j _ => by rw [if_neg (by omega), Nat.sub_zero], HO2.out, fun a hn ha => by
      obtain ⟨g, h1, h2, _⟩ := e5 hn
      rw [h1] at ha
      cases ha
      exact Nat.not_lt.1 h2⟩
end Go.Proofs.Ytooamkicmmgniaa
