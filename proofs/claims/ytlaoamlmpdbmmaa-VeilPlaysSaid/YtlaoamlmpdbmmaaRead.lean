/- A reader of bits: contracts of (*bits.Reader).bit, Fail, Err, Left. -/
import Derived.Test.YtlaoamlmpdbmmaaBytes
import Derived.Deep.QuietTactic
import Derived.BigQuiet
import Derived.Laws.Shifts
namespace Go.Proofs.Ytlaoamlmpdbmmaa
set_option linter.unusedVariables false
set_option maxRecDepth 100000
open Go.RowKit Go.ChangeShapes Go.WideShapes

/-- Bit number i of these bytes. -/
def bitAt (bs : List Int) (i : Nat) : Bool := bs.getD (i / 8) 0 / 2 ^ (7 - i % 8) % 2 == 1
/-- All bits of these bytes. -/
def bitsOf (bs : List Int) : List Bool := (List.range (8 * bs.length)).map (bitAt bs)
theorem length_bitsOf (bs : List Int) : (bitsOf bs).length = 8 * bs.length := by simp [bitsOf]
theorem bitsOf_get (bs : List Int) (i : Nat) (h : i < 8 * bs.length) : (bitsOf bs)[i]? = some (bitAt bs i) := by simp [bitsOf, h]

def isBytes (bs : List Int) : Prop := ∀ x ∈ bs, 0 ≤ x ∧ x ≤ 255

/-- A reader's bytes lie in a block of their own, of bytes. -/
def DataB (w : World) (v : Value) (b : Nat) : Prop := ∀ q, v.ownBlock = some q → q ≠ b ∧ ∃ cs, w.heap[q]? = some (.cells cs 5 (0, 0))
theorem DataB.kept {w w' : World} {X : Nat → Prop} {v : Value} {b : Nat} (h : DataB w v b) (k : Kept X w w') (hX : ∀ q, v.ownBlock = some q → q < w.heap.size → X q) : DataB w' v b := fun q hq => by
  obtain ⟨h1, cs, h2⟩ := h q hq
  exact ⟨h1, cs, (k.block q (hX q hq (lt_of_block h2))).trans h2⟩

theorem SlI.kept {w w' : World} {X : Nat → Prop} {k : IntKind} {v : Value} {xs : List Int} (h : SlI w k v xs) (ho : Kept X w w') (hX : ∀ q, v.ownBlock = some q → q < w.heap.size → X q) : SlI w' k v xs := by
  obtain ⟨p, cap, rfl, h⟩ := h
  refine ⟨p, cap, rfl, fun hne => ?_⟩
  obtain ⟨b, off, rfl, hb, hl, hm, hc⟩ := h hne
  exact ⟨b, off, rfl, Nat.lt_of_lt_of_le hb ho.size, hl, hm, fun i hi => (ho.cell (a := ⟨b, off + i, none⟩) (hX b rfl hb)).trans (hc i hi)⟩



theorem u8_and_one (a : Int) (h0 : 0 ≤ a) (h1 : a ≤ 255) : bits .and .u8 a 1 = a % 2 := by
  obtain ⟨n, rfl⟩ := Int.eq_ofNat_of_zero_le h0
  have ea : (BitVec.ofInt 8 (n : Int)).toNat = n := by rw [BitVec.ofInt_natCast, BitVec.toNat_ofNat]; exact Nat.mod_eq_of_lt (by omega)
  have eb : (BitVec.ofInt 8 1).toNat = 1 := rfl
  show IntKind.u8.wrap ((BitVec.ofInt 8 (n : Int) &&& BitVec.ofInt 8 1).toNat : Int) = _
  rw [BitVec.toNat_and, ea, eb, Nat.and_one_is_mod, IntKind.wrap_u8]
  omega
theorem byte_bit (y : Int) (n : Nat) (h0 : 0 ≤ y) (h1 : y ≤ 255) : bits .and .u8 (y / 2 ^ n) 1 = bi (y / 2 ^ n % 2 == 1) := by
  have hp : (0 : Int) < 2 ^ n := Int.pow_pos (by omega)
  have a0 : 0 ≤ y / 2 ^ n := Int.ediv_nonneg h0 (by omega)
  have a1 : y / 2 ^ n ≤ y := Int.ediv_le_self _ h0
  rw [u8_and_one _ a0 (by omega), bi_mod]





/-- The number of these bits, the highest first. -/
def numB (l : List Bool) : Int := l.foldl (fun v x => 2 * v + bi x) 0
theorem numB_snoc (l : List Bool) (x : Bool) : numB (l ++ [x]) = 2 * numB l + bi x := by simp [numB]
theorem numB_range (l : List Bool) : 0 ≤ numB l ∧ numB l < pw l.length := by
  suffices h : ∀ n, ∀ l : List Bool, l.length = n → 0 ≤ numB l ∧ numB l < pw n from h _ l rfl
  intro n
  induction n with
  | zero => intro l hl; rw [List.eq_nil_of_length_eq_zero hl]; exact ⟨by decide, by decide⟩
  | succ n ih =>
    intro l hl
    obtain ⟨l', x, rfl⟩ : ∃ l' x, l = l' ++ [x] := ⟨l.dropLast, l.getLast (fun e => by rw [e] at hl; cases hl), (List.dropLast_concat_getLast _).symm⟩
    have := ih l' (by simpa using hl)
    have hb := bi_01 x
    rw [numB_snoc, pw_succ]
    omega

theorem u64_or_nat (a b : Nat) (ha : a < 18446744073709551616) (hb : b < 18446744073709551616) : bits .or .u64 (a : Int) (b : Int) = ((a ||| b : Nat) : Int) := by
  have hx : a ||| b < 2 ^ 64 := Nat.or_lt_two_pow (by omega) (by omega)
  have ea : (BitVec.ofInt 64 (a : Int)).toNat = a := by rw [BitVec.ofInt_natCast, BitVec.toNat_ofNat]; exact Nat.mod_eq_of_lt (by omega)
  have eb : (BitVec.ofInt 64 (b : Int)).toNat = b := by rw [BitVec.ofInt_natCast, BitVec.toNat_ofNat]; exact Nat.mod_eq_of_lt (by omega)
  show IntKind.u64.wrap ((BitVec.ofInt 64 (a : Int) ||| BitVec.ofInt 64 (b : Int)).toNat : Int) = _
  rw [BitVec.toNat_or, ea, eb, IntKind.wrap_u64]
  omega
theorem or_bit (v : Int) (x : Bool) (h0 : 0 ≤ v) (h1 : v < 4611686018427387904) : bits .or .u64 (v * 2) (bi x) = 2 * v + bi x := by
  obtain ⟨n, rfl⟩ := Int.eq_ofNat_of_zero_le h0
  have e2 : bi x = (((bi x).toNat : Nat) : Int) := by cases x <;> rfl
  have hlt : (bi x).toNat < 2 ^ 1 := by cases x <;> decide
  rw [e2, show ((n : Int) * 2) = ((2 ^ 1 * n : Nat) : Int) by omega, u64_or_nat _ _ (by omega) (by omega), ← Nat.two_pow_add_eq_or_of_lt hlt n]
  omega

/-- The next k bits, from bit number i on. -/
def nextB (bs : List Int) (i k : Nat) : List Bool := ((bitsOf bs).drop i).take k
theorem nextB_succ (bs : List Int) (i j : Nat) (h : i + j < 8 * bs.length) : nextB bs i (j + 1) = nextB bs i j ++ [bitAt bs (i + j)] := by
  unfold nextB
  have hl : j < ((bitsOf bs).drop i).length := by rw [List.length_drop, length_bitsOf]; omega
  rw [List.take_succ_eq_append_getElem hl]
  congr 1
  have := bitsOf_get bs (i + j) h
  simp only [List.getElem_drop, List.cons.injEq, and_true]
  rw [List.getElem?_eq_getElem (by rw [length_bitsOf]; exact h)] at this
  simpa using this
theorem nextB_len (bs : List Int) (i j : Nat) (h : i + j ≤ 8 * bs.length) : (nextB bs i j).length = j := by
  unfold nextB
  rw [List.length_take, List.length_drop, length_bitsOf]; omega

/-- What Get(k) answers, where the reader stands behind it, and its first error. -/
def getTo (bs : List Int) (i : Nat) (er k : Int) : Int × Nat × Int :=
  if k < 0 ∨ 57 < k then (0, i, if er = 0 then 1 else er)
  else if er ≠ 0 then (0, i, er)
  else if ((8 * bs.length - i : Nat) : Int) < k then (0, i, 2)
  else (numB (nextB bs i k.toNat), i + k.toNat, 0)




theorem src_slI {w : World} {p : Option Addr} {n cap : Nat} {bs : List Int} (o : Obj) (h : SlI w .u8 (.slice p n cap) bs) :
    0 < (bs.map (Value.int .u8)).length → some (⟨w.heap.size, 0, none⟩ : Addr) = some ⟨w.heap.size, 0, none⟩ ∧ ∃ ad, p = some ad ∧ ∀ j u, (bs.map (Value.int .u8))[j]? = some u → (w.alloc o).cell? (ad.add j) = some u := by
  intro h0
  rw [List.length_map] at h0
  obtain ⟨hl, hc⟩ := (h.old (Old.alloc w o)).cellAt
  obtain ⟨b, off, hp, _, _, _, hcell⟩ := hc (by omega)
  refine ⟨rfl, _, hp, fun j u hj => ?_⟩
  rw [List.getElem?_map] at hj
  obtain ⟨x, hx, rfl⟩ := Option.map_eq_some_iff.1 hj
  have hjl : j < bs.length := (List.getElem?_eq_some_iff.1 hx).1
  rw [add_plain, hcell j (by omega)]
  simp [List.getD, hx]
theorem splice_all (bs : List Int) (n : Nat) (h : bs.length = n) : splice (List.replicate n (Value.int .u8 0)) 0 (bs.map (Value.int .u8)) = bs.map (Value.int .u8) := by
  subst h; simp [splice]



/-- What Signed(k) answers. -/
def sgnTo (bs : List Int) (i : Nat) (er k : Int) : Int := if 0 < k ∧ (getTo bs i er k).1 / 2 ^ (k.toNat - 1) = 1 then (getTo bs i er k).1 - pw k.toNat else (getTo bs i er k).1
theorem getTo_range (bs : List Int) (i : Nat) (er k : Int) (hi : i ≤ 8 * bs.length) : 0 ≤ (getTo bs i er k).1 ∧ (getTo bs i er k).1 < 144115188075855872 ∧ ((getTo bs i er k).1 ≠ 0 → 0 ≤ k ∧ k ≤ 57) := by
  unfold getTo
  split
  · exact ⟨by simp, by simp, fun h => absurd rfl h⟩
  · split
    · exact ⟨by simp, by simp, fun h => absurd rfl h⟩
    · split
      · exact ⟨by simp, by simp, fun h => absurd rfl h⟩
      · have := numB_range (nextB bs i k.toNat)
        rw [nextB_len bs i _ (by omega)] at this
        have hm := pw_mono k.toNat 57 (by omega)
        rw [show pw 57 = 144115188075855872 from rfl] at hm
        exact ⟨this.1, by simp only []; omega, fun _ => by omega⟩

end Go.Proofs.Ytlaoamlmpdbmmaa
