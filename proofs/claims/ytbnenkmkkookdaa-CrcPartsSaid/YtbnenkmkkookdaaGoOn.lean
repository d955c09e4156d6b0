/- Sums that go on: contracts of crc.goOn and of calliopelaw02.sum. -/
import Derived.Test.YtbnenkmkkookdaaTable
namespace Go.Proofs.Ytbnenkmkkookdaa
set_option linter.unusedVariables false
open Go.RowKit

theorem take_succ_getD (xs : List Int) (k : Nat) (h : k < xs.length) : xs.take (k + 1) = xs.take k ++ [xs.getD k 0] := by
  rw [List.take_succ_eq_append_getElem h]
  simp [List.getD, h]
theorem getD_byte {xs : List Int} (hb : ∀ x ∈ xs, 0 ≤ x ∧ x ≤ 255) (k : Nat) : 0 ≤ xs.getD k 0 ∧ xs.getD k 0 ≤ 255 := by
  rw [List.getD_eq_getElem?_getD]
  by_cases h : k < xs.length
  · rw [List.getElem?_eq_getElem h]; exact hb _ (List.getElem_mem h)
  · rw [List.getElem?_eq_none (by omega)]; simp
theorem take_byte {xs : List Int} (hb : ∀ x ∈ xs, 0 ≤ x ∧ x ≤ 255) (k : Nat) : ∀ x ∈ xs.take k, 0 ≤ x ∧ x ≤ 255 := fun x hx => hb x (List.mem_of_mem_take hx)

theorem not_nat (a : Nat) (ha : a < 4294967296) : bits .xor .u32 IntKind.u32.max (a : Int) = 4294967295 - (a : Int) := by
  have ea : (BitVec.ofInt 32 (a : Int)).toNat = a := by rw [BitVec.ofInt_natCast, BitVec.toNat_ofNat]; exact Nat.mod_eq_of_lt ha
  have e : BitVec.ofInt 32 IntKind.u32.max = BitVec.allOnes 32 := by decide
  show IntKind.u32.wrap ((BitVec.ofInt 32 IntKind.u32.max ^^^ BitVec.ofInt 32 (a : Int)).toNat : Int) = _
  rw [e, BitVec.allOnes_xor, BitVec.toNat_not, ea, IntKind.wrap_u32]
  omega
theorem not_comp (a : Nat) (ha : a < 4294967296) : bits .xor .u32 IntKind.u32.max (4294967295 - (a : Int)) = a := by
  have h := not_nat (4294967295 - a) (by omega)
  rw [show ((4294967295 - a : Nat) : Int) = 4294967295 - (a : Int) by omega] at h
  rw [h]; omega

set_option maxRecDepth 100000 in
theorem goOn_any (g r : Nat) (p : Option Addr) (n cap : Nat) (xs : List Int) (w : World) (hr : r < 4294967296) (hT : w.heap[g]? = some (.cells (row push) 27 (0, 0))) (hs : SlI w .u8 (.slice p n cap) xs) (hb : ∀ x ∈ xs, 0 ≤ x ∧ x ≤ 255) (hn : n ≤ 9223372036854775807) :
    Calls Try.prog 18 #[.pointer (some ⟨g, 0, none⟩), .int .u32 (4294967295 - (r : Int)), .slice p n cap] w fun e w' => e = .returned (.int .u32 (4294967295 - (reg r xs : Int))) ∧ w = w' := by
  obtain ⟨hl, hcell⟩ := hs.cellAt
  have HT := Lib.hid hT
  have HC := Lib.hid hcell
  clear hT hcell hs
  have hnc := not_comp r hr
  go_enter Try.func18, Try.ntmps18
  go_wp2
  clear hnc
  go_loop [7, 14] (fun t i => ∃ k : Nat, k ≤ n ∧ i = .int .i64 k ∧ t = .int .u32 (reg r (xs.take k) : Nat)) (fun _ i => n - (intOf i).toNat)
  case atStart => exact ⟨0, by omega, rfl, rfl⟩
  case round =>
    obtain ⟨k, hk, rfl, rfl⟩ := hrel
    have hlt2 := reg_lt hr _ (take_byte hb k)
    have hx := getD_byte hb k
    have hts : Hid (k < n → reg r (xs.take (k + 1)) = push (reg r (xs.take k) ^^^ (xs.getD k 0).toNat)) := fun h => by
      rw [take_succ_getD xs k (by omega), reg_snoc]
    by_cases hlt : k < n
    · obtain ⟨b, off, rfl, _, hnc, hcm, hc⟩ := HC.out (by omega)
      have hc1 := hc k hlt
      have hnx := hts.out hlt
      clear hc hts HC
      obtain ⟨x, hxk⟩ : ∃ x, x = xs.getD k 0 := ⟨_, rfl⟩
      obtain ⟨R, hR⟩ : ∃ R, R = reg r (xs.take k) := ⟨_, rfl⟩
      rw [← hxk] at hc1 hx hnx
      rw [← hR] at hnx hlt2 ⊢
      clear hxk hR
      obtain ⟨v, rfl⟩ := Int.eq_ofNat_of_zero_le hx.1
      rw [Int.toNat_natCast, push_table R v (by omega)] at hnx
      have hm : (R % 256) ^^^ v < 256 := Nat.xor_lt_two_pow (n := 8) (by omega) (by omega)
      have e1 : bits .xor .u8 ((R : Int) % 256) (v : Int) = (((R % 256) ^^^ v : Nat) : Int) := by
        have := u8_xor (R % 256) v (by omega) (by omega)
        rwa [Int.natCast_emod] at this
      have e2 : bits .xor .u32 ((R : Int) / 256) (push ((R % 256) ^^^ v) : Nat) = (((R / 256) ^^^ push ((R % 256) ^^^ v) : Nat) : Int) := by
        have := u32_xor (R / 256) (push ((R % 256) ^^^ v)) (by omega) (push_lt (by omega))
        rwa [Int.natCast_ediv] at this
      obtain ⟨m, hmv⟩ : ∃ m, m = (R % 256) ^^^ v := ⟨_, rfl⟩
      rw [← hmv] at hm e1 e2 hnx
      rw [← hnx] at e2
      have e3 : w.cell? ⟨g, m, none⟩ = some (.int .u32 (push m : Nat)) := (cell_of_row _ _ _ _ _ _ HT.out).trans (row_at push m hm)
      have Hn := Lib.hid hnx
      clear hnx hmv
      have i1 : (m : Int) < 256 := by omega
      have i2 : 0 ≤ (m : Int) := by omega
      go_wp2
      go_round
      case rel => exact ⟨k + 1, by omega, by go_num, by rw [Hn.out]⟩
      case measure => simp [intOf]; omega
    · have hend : reg r (xs.take k) = reg r xs := by rw [List.take_of_length_le (by omega)]
      rw [hend] at hlt2 ⊢
      have hnn := not_nat _ hlt2
      clear hend HC hts
      obtain ⟨R, hR⟩ : ∃ R, R = reg r xs := ⟨_, rfl⟩
      have HR := Lib.hid hR
      rw [← hR] at hnn hlt2 ⊢
      clear hR
      go_wp2
      go_ret
      exact ⟨by rw [← HR.out]; rfl, rfl⟩

theorem sum_law (p : Option Addr) (n cap : Nat) (xs : List Int) (w : World) (hs : SlI w .u8 (.slice p n cap) xs) (hb : ∀ x ∈ xs, 0 ≤ x ∧ x ≤ 255) (hn : n ≤ 9223372036854775807) :
    Calls Try.prog 8 #[.slice p n cap] w fun e w' => e = .returned (.int .u32 (sumOf xs)) ∧ w = w' := by
  obtain ⟨hl, hcell⟩ := hs.cellAt
  have HC := Lib.hid hcell
  clear hcell hs
  unfold sumOf
  go_enter Try.func8, Try.ntmps8
  go_wp2
  go_loop [3, 4] (fun t i => ∃ k : Nat, k ≤ n ∧ i = .int .i64 k ∧ t = .int .u32 (reg 4294967295 (xs.take k) : Nat)) (fun _ i => n - (intOf i).toNat)
  case atStart => exact ⟨0, by omega, rfl, rfl⟩
  case round =>
    obtain ⟨k, hk, rfl, rfl⟩ := hrel
    have hlt2 := reg_lt (r := 4294967295) (by omega) _ (take_byte hb k)
    have hx := getD_byte hb k
    have hts : Hid (k < n → reg 4294967295 (xs.take (k + 1)) = push (reg 4294967295 (xs.take k) ^^^ (xs.getD k 0).toNat)) := fun h => by
      rw [take_succ_getD xs k (by omega), reg_snoc]
    by_cases hlt : k < n
    · obtain ⟨b, off, rfl, _, hnc, hcm, hc⟩ := HC.out (by omega)
      have hc1 := hc k hlt
      have hnx := hts.out hlt
      clear hc hts HC
      obtain ⟨x, hxk⟩ : ∃ x, x = xs.getD k 0 := ⟨_, rfl⟩
      obtain ⟨R, hR⟩ : ∃ R, R = reg 4294967295 (xs.take k) := ⟨_, rfl⟩
      rw [← hxk] at hc1 hx hnx
      rw [← hR] at hnx hlt2 ⊢
      clear hxk hR
      obtain ⟨v, rfl⟩ := Int.eq_ofNat_of_zero_le hx.1
      rw [Int.toNat_natCast] at hnx
      have e1 := u32_xor R v hlt2 (by omega)
      have hm := xor_lt hlt2 (show v < 4294967296 by omega)
      obtain ⟨m, hmv⟩ : ∃ m, m = R ^^^ v := ⟨_, rfl⟩
      rw [← hmv] at hm e1 hnx
      have hp := Lib.hid (lpush_any m w hm)
      have Hn := Lib.hid hnx
      clear hnx hmv
      go_wp2_with fail
      refine hp.out.mono ?_
      rintro e w' ⟨rfl, rfl⟩
      go_wp2
      go_round
      case rel => exact ⟨k + 1, by omega, by go_num, by rw [Hn.out]⟩
      case measure => simp [intOf]; omega
    · have hend : reg 4294967295 (xs.take k) = reg 4294967295 xs := by rw [List.take_of_length_le (by omega)]
      rw [hend] at hlt2 ⊢
      clear hend HC hts
      obtain ⟨R, hR⟩ : ∃ R, R = reg 4294967295 xs := ⟨_, rfl⟩
      have HR := Lib.hid hR
      rw [← hR] at hlt2 ⊢
      clear hR
      go_wp2
      go_ret
      exact ⟨by rw [← HR.out]; rfl, rfl⟩
end Go.Proofs.Ytbnenkmkkookdaa
