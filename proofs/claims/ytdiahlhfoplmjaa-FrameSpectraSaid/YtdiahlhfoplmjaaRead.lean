/- A reader of bits: contracts of (*bits.Reader).bit, Fail, Err, Left. -/
import Derived.Test.YtdiahlhfoplmjaaBytes
import Derived.Deep.QuietTactic
import Derived.BigQuiet
import Derived.Laws.Shifts
namespace Go.Proofs.Ytdiahlhfoplmjaa
set_option linter.unusedVariables false
open Go.RowKit Go.ChangeShapes Go.WideShapes

/-- Bit number i of these bytes. -/
def bitAt (bs : List Int) (i : Nat) : Bool := bs.getD (i / 8) 0 / 2 ^ (7 - i % 8) % 2 == 1
/-- All bits of these bytes. -/
def bitsOf (bs : List Int) : List Bool := (List.range (8 * bs.length)).map (bitAt bs)
theorem length_bitsOf (bs : List Int) : (bitsOf bs).length = 8 * bs.length := by simp [bitsOf]
theorem bitsOf_get (bs : List Int) (i : Nat) (h : i < 8 * bs.length) : (bitsOf bs)[i]? = some (bitAt bs i) := by simp [bitsOf, h]

def isBytes (bs : List Int) : Prop := ∀ x ∈ bs, 0 ≤ x ∧ x ≤ 255

/-- A reader's bytes lie in a block of their own, of bytes. -/
def DataB (w : World) (v : Value) (b : Nat) : Prop := ∀ q, v.ownBlock = some q → q ≠ b ∧ ∃ cs, w.heap[q]? = some (.cells cs 5 (0, 0))
theorem DataB.kept {w w' : World} {X : Nat → Prop} {v : Value} {b : Nat} (h : DataB w v b) (k : Kept X w w') (hX : ∀ q, v.ownBlock = some q → q < w.heap.size → X q) : DataB w' v b := fun q hq => by
  obtain ⟨h1, cs, h2⟩ := h q hq
  exact ⟨h1, cs, (k.block q (hX q hq (lt_of_block h2))).trans h2⟩
/-- The reader at block b reads these bytes; it stands at this bit; its first error. -/
def RdAt (w : World) (b : Nat) (bs : List Int) (at_ : Nat) (er : Int) : Prop :=
  ∃ v, w.heap[b]? = some (.cells #[v, .int .i64 (at_ : Int), .int .i64 er] 76 (0, 0)) ∧ SlI w .u8 v bs ∧ DataB w v b ∧ isBytes bs ∧ bs.length ≤ 4294967296 ∧ at_ ≤ 8 * bs.length

theorem SlI.kept {w w' : World} {X : Nat → Prop} {k : IntKind} {v : Value} {xs : List Int} (h : SlI w k v xs) (ho : Kept X w w') (hX : ∀ q, v.ownBlock = some q → q < w.heap.size → X q) : SlI w' k v xs := by
  obtain ⟨p, cap, rfl, h⟩ := h
  refine ⟨p, cap, rfl, fun hne => ?_⟩
  obtain ⟨b, off, rfl, hb, hl, hm, hc⟩ := h hne
  exact ⟨b, off, rfl, Nat.lt_of_lt_of_le hb ho.size, hl, hm, fun i hi => (ho.cell (a := ⟨b, off + i, none⟩) (hX b rfl hb)).trans (hc i hi)⟩
theorem RdAt.kept {w w' : World} {X : Nat → Prop} {b : Nat} {bs : List Int} {at_ : Nat} {er : Int} (h : RdAt w b bs at_ er) (k : Kept X w w') (hX : ∀ q, q < w.heap.size → X q) : RdAt w' b bs at_ er := by
  obtain ⟨v, hb, hs, hne, hr⟩ := h
  exact ⟨v, (k.block b (hX b (lt_of_block hb))).trans hb, hs.kept k (fun q _ hq => hX q hq), hne.kept k (fun q _ hq => hX q hq), hr⟩
theorem RdAt.old {w w' : World} {b : Nat} {bs : List Int} {at_ : Nat} {er : Int} (h : RdAt w b bs at_ er) (k : Old w w') : RdAt w' b bs at_ er := h.kept k fun _ hq => hq

theorem RdAt.set1 {w : World} {b : Nat} {bs : List Int} {at_ n : Nat} {er : Int} (h : RdAt w b bs at_ er) (hn : n ≤ 8 * bs.length) : RdAt (w.setCell ⟨b, 1, none⟩ (.int .i64 (n : Int))) b bs n er ∧ Kept (butOf w b) w (w.setCell ⟨b, 1, none⟩ (.int .i64 (n : Int))) := by
  obtain ⟨v, hb, hs, hne, hi, hl, _⟩ := h
  have hk : Kept (butOf w b) w (w.setCell ⟨b, 1, none⟩ (.int .i64 (n : Int))) := Kept.setCell _ (a := ⟨b, 1, none⟩) (fun h => h.2 rfl) _
  exact ⟨⟨v, heap_setCell_at (o := 1) (u := .int .i64 (n : Int)) hb, hs.kept hk (fun q hq hlt => ⟨hlt, (hne q hq).1⟩), hne.kept hk (fun q hq hlt => ⟨hlt, (hne q hq).1⟩), hi, hl, hn⟩, hk⟩
theorem RdAt.set2 {w : World} {b : Nat} {bs : List Int} {at_ : Nat} {er e : Int} (h : RdAt w b bs at_ er) : RdAt (w.setCell ⟨b, 2, none⟩ (.int .i64 e)) b bs at_ e ∧ Kept (butOf w b) w (w.setCell ⟨b, 2, none⟩ (.int .i64 e)) := by
  obtain ⟨v, hb, hs, hne, hr⟩ := h
  have hk : Kept (butOf w b) w (w.setCell ⟨b, 2, none⟩ (.int .i64 e)) := Kept.setCell _ (a := ⟨b, 2, none⟩) (fun h => h.2 rfl) _
  exact ⟨⟨v, heap_setCell_at (o := 2) (u := .int .i64 e) hb, hs.kept hk (fun q hq hlt => ⟨hlt, (hne q hq).1⟩), hne.kept hk (fun q hq hlt => ⟨hlt, (hne q hq).1⟩), hr⟩, hk⟩

/-- A block of another kind is written: the reader is as it was. -/
theorem RdAt.but {w w' : World} {b q0 : Nat} {bs : List Int} {at_ : Nat} {er : Int} {cs : Array Value} {t : TypeId} {fr : Nat × Nat} (h : RdAt w b bs at_ er) (k : Kept (butOf w q0) w w') (h0 : w.heap[q0]? = some (.cells cs t fr)) (h1 : t ≠ 5) (h2 : t ≠ 76) : RdAt w' b bs at_ er := by
  obtain ⟨v, hb, hs, hne, hr⟩ := h
  have hbq : b ≠ q0 := fun e => by
    subst e; rw [h0] at hb
    simp only [Option.some.injEq, Obj.cells.injEq] at hb
    exact h2 hb.2.1
  have hdq : ∀ q, v.ownBlock = some q → q ≠ q0 := fun q hq e => by
    subst e
    obtain ⟨_, cs', hcs⟩ := hne q hq
    rw [h0] at hcs
    simp only [Option.some.injEq, Obj.cells.injEq] at hcs
    exact h1 hcs.2.1
  exact ⟨v, (k.block b ⟨lt_of_block hb, hbq⟩).trans hb, hs.kept k (fun q hq hlt => ⟨hlt, hdq q hq⟩), hne.kept k (fun q hq hlt => ⟨hlt, hdq q hq⟩), hr⟩
/-- The reader's block is of its own kind. -/
theorem RdAt.ne {w : World} {b q0 : Nat} {bs : List Int} {at_ : Nat} {er : Int} {cs : Array Value} {t : TypeId} {fr : Nat × Nat} (h : RdAt w b bs at_ er) (h0 : w.heap[q0]? = some (.cells cs t fr)) (h2 : t ≠ 76) : q0 ≠ b := fun e => by
  obtain ⟨v, hb, _⟩ := h
  subst e; rw [h0] at hb
  simp only [Option.some.injEq, Obj.cells.injEq] at hb
  exact h2 hb.2.1

theorem u8_and_one (a : Int) (h0 : 0 ≤ a) (h1 : a ≤ 255) : bits .and .u8 a 1 = a % 2 := by
  obtain ⟨n, rfl⟩ := Int.eq_ofNat_of_zero_le h0
  have ea : (BitVec.ofInt 8 (n : Int)).toNat = n := by rw [BitVec.ofInt_natCast, BitVec.toNat_ofNat]; exact Nat.mod_eq_of_lt (by omega)
  have eb : (BitVec.ofInt 8 1).toNat = 1 := rfl
  show IntKind.u8.wrap ((BitVec.ofInt 8 (n : Int) &&& BitVec.ofInt 8 1).toNat : Int) = _
  rw [BitVec.toNat_and, ea, eb, Nat.and_one_is_mod, IntKind.wrap_u8]
  omega
theorem byte_bit (y : Int) (n : Nat) (h0 : 0 ≤ y) (h1 : y ≤ 255) : bits .and .u8 (y / 2 ^ n) 1 = bi (y / 2 ^ n % 2 == 1) := by
  have hp : (0 : Int) < 2 ^ n := Int.pow_pos (by omega)
  have a0 : 0 ≤ y / 2 ^ n := Int.ediv_nonneg h0 (by omega)
  have a1 : y / 2 ^ n ≤ y := Int.ediv_le_self _ h0
  rw [u8_and_one _ a0 (by omega), bi_mod]

theorem bit_any (b : Nat) (bs : List Int) (at_ : Nat) (er : Int) (i : Nat) (w : World) (hi : i < 8 * bs.length) (h : RdAt w b bs at_ er) :
    Calls Try.prog 50 #[.pointer (some ⟨b, 0, none⟩), .int .i64 i] w fun e w' => e = .returned (.int .u8 (bi (bitAt bs i))) ∧ w = w' := by
  obtain ⟨v, hb, hs, hne, hbt, hl, _⟩ := h
  obtain ⟨c0, c1, c2, f0, f1, f2⟩ := cell3 hb
  obtain ⟨p, cap, rfl, hc⟩ := hs
  have hlen : i / 8 < bs.length := by omega
  obtain ⟨g, off, rfl, _, hlc, hcm, hcell⟩ := hc (by intro e; rw [e] at hlen; simp at hlen)
  have hc0 := hcell (i / 8) hlen
  have hr : 0 ≤ bs.getD (i / 8) 0 ∧ bs.getD (i / 8) 0 ≤ 255 := hbt _ (by simp only [List.getD, List.getElem?_eq_getElem hlen, Option.getD_some]; exact List.getElem_mem hlen)
  have hfin := Lib.hid (byte_bit (bs.getD (i / 8) 0) (7 - i % 8) hr.1 hr.2)
  unfold bitAt
  clear hcell hc hb hbt hne
  generalize bs.getD (i / 8) 0 = y at *
  obtain ⟨r0, r1⟩ := hr
  go_enter Try.func50, Try.ntmps50
  go_wp2
  go_ret
  exact ⟨by rw [← hfin.out]; rfl, rfl⟩

theorem Fail_any (b : Nat) (bs : List Int) (at_ : Nat) (er e : Int) (w : World) (h : RdAt w b bs at_ er) :
    Calls Try.prog 44 #[.pointer (some ⟨b, 0, none⟩), .int .i64 e] w fun en w' => en = .returned (.tuple #[]) ∧ RdAt w' b bs at_ (if er = 0 then e else er) ∧ Kept (butOf w b) w w' := by
  have h2 := h.set2 (e := e)
  have hh := h
  obtain ⟨v, hb, hs, hne, hbt, hl, _⟩ := h
  obtain ⟨c0, c1, c2, f0, f1, f2⟩ := cell3 hb
  by_cases her : er = 0
  · rw [if_pos her]
    subst her
    have H2 := Lib.hid h2
    clear hb hs hne hbt h2 hh
    go_enter Try.func44, Try.ntmps44
    go_wp2
    go_end0
    exact ⟨rfl, H2.out⟩
  · rw [if_neg her]
    have hne' : (er == 0) = false := by simpa using her
    have H2 := Lib.hid hh
    clear hb hs hne hbt h2 hh
    go_enter Try.func44, Try.ntmps44
    go_wp2
    go_end0
    exact ⟨rfl, H2.out, Kept.refl _ _⟩

theorem Err_any (b : Nat) (bs : List Int) (at_ : Nat) (er : Int) (w : World) (h : RdAt w b bs at_ er) :
    Calls Try.prog 46 #[.pointer (some ⟨b, 0, none⟩)] w fun en w' => en = .returned (.int .i64 er) ∧ w = w' := by
  obtain ⟨v, hb, _⟩ := h
  obtain ⟨c0, c1, c2, f0, f1, f2⟩ := cell3 hb
  clear hb
  go_enter Try.func46, Try.ntmps46
  go_wp2
  go_ret
  exact ⟨rfl, rfl⟩

theorem Left_any (b : Nat) (bs : List Int) (at_ : Nat) (er : Int) (w : World) (h : RdAt w b bs at_ er) :
    Calls Try.prog 45 #[.pointer (some ⟨b, 0, none⟩)] w fun en w' => en = .returned (.int .i64 (if er = 0 then ((8 * bs.length - at_ : Nat) : Int) else 0)) ∧ ∃ n, w' = w.drewN n := by
  obtain ⟨v, hb, hs, _, _, hl, hat⟩ := h
  obtain ⟨p, cap, rfl, _⟩ := hs
  obtain ⟨c0, c1, c2, f0, f1, f2⟩ := cell3 hb
  clear hb
  by_cases her : er = 0
  · rw [if_pos her]
    subst her
    have e1 : IntKind.i64.wrap (8 * (bs.length : Int)) = 8 * (bs.length : Int) := IntWalk.i64_in _ (by omega)
    have e2 : IntKind.i64.wrap (8 * (bs.length : Int) - at_) = 8 * (bs.length : Int) - at_ := IntWalk.i64_in _ (by omega)
    have e3 : Hid ((8 * (bs.length : Int) - at_) = ((8 * bs.length - at_ : Nat) : Int)) := by unfold Hid; omega
    go_enter Try.func45, Try.ntmps45
    go_wp2_with fail
    go_quiet (fail)
    go_wp2_with fail
    go_ret
    exact ⟨by rw [← e3.out]; rfl, _, rfl⟩
  · rw [if_neg her]
    have hne' : (er != 0) = true := by simpa using her
    go_enter Try.func45, Try.ntmps45
    go_wp2_with fail
    go_ret
    exact ⟨rfl, 0, rfl⟩

/-- The number of these bits, the highest first. -/
def numB (l : List Bool) : Int := l.foldl (fun v x => 2 * v + bi x) 0
theorem numB_snoc (l : List Bool) (x : Bool) : numB (l ++ [x]) = 2 * numB l + bi x := by simp [numB]
theorem numB_range (l : List Bool) : 0 ≤ numB l ∧ numB l < pw l.length := by
  suffices h : ∀ n, ∀ l : List Bool, l.length = n → 0 ≤ numB l ∧ numB l < pw n from h _ l rfl
  intro n
  induction n with
  | zero => intro l hl; rw [List.eq_nil_of_length_eq_zero hl]; exact ⟨by decide, by decide⟩
  | succ n ih =>
    intro l hl
    obtain ⟨l', x, rfl⟩ : ∃ l' x, l = l' ++ [x] := ⟨l.dropLast, l.getLast (fun e => by rw [e] at hl; cases hl), (List.dropLast_concat_getLast _).symm⟩
    have := ih l' (by simpa using hl)
    have hb := bi_01 x
    rw [numB_snoc, pw_succ]
    omega

theorem u64_or_nat (a b : Nat) (ha : a < 18446744073709551616) (hb : b < 18446744073709551616) : bits .or .u64 (a : Int) (b : Int) = ((a ||| b : Nat) : Int) := by
  have hx : a ||| b < 2 ^ 64 := Nat.or_lt_two_pow (by omega) (by omega)
  have ea : (BitVec.ofInt 64 (a : Int)).toNat = a := by rw [BitVec.ofInt_natCast, BitVec.toNat_ofNat]; exact Nat.mod_eq_of_lt (by omega)
  have eb : (BitVec.ofInt 64 (b : Int)).toNat = b := by rw [BitVec.ofInt_natCast, BitVec.toNat_ofNat]; exact Nat.mod_eq_of_lt (by omega)
  show IntKind.u64.wrap ((BitVec.ofInt 64 (a : Int) ||| BitVec.ofInt 64 (b : Int)).toNat : Int) = _
  rw [BitVec.toNat_or, ea, eb, IntKind.wrap_u64]
  omega
theorem or_bit (v : Int) (x : Bool) (h0 : 0 ≤ v) (h1 : v < 4611686018427387904) : bits .or .u64 (v * 2) (bi x) = 2 * v + bi x := by
  obtain ⟨n, rfl⟩ := Int.eq_ofNat_of_zero_le h0
  have e2 : bi x = (((bi x).toNat : Nat) : Int) := by cases x <;> rfl
  have hlt : (bi x).toNat < 2 ^ 1 := by cases x <;> decide
  rw [e2, show ((n : Int) * 2) = ((2 ^ 1 * n : Nat) : Int) by omega, u64_or_nat _ _ (by omega) (by omega), ← Nat.two_pow_add_eq_or_of_lt hlt n]
  omega

/-- The next k bits, from bit number i on. -/
def nextB (bs : List Int) (i k : Nat) : List Bool := ((bitsOf bs).drop i).take k
theorem nextB_succ (bs : List Int) (i j : Nat) (h : i + j < 8 * bs.length) : nextB bs i (j + 1) = nextB bs i j ++ [bitAt bs (i + j)] := by
  unfold nextB
  have hl : j < ((bitsOf bs).drop i).length := by rw [List.length_drop, length_bitsOf]; omega
  rw [List.take_succ_eq_append_getElem hl]
  congr 1
  have := bitsOf_get bs (i + j) h
  simp only [List.getElem_drop, List.cons.injEq, and_true]
  rw [List.getElem?_eq_getElem (by rw [length_bitsOf]; exact h)] at this
  simpa using this
theorem nextB_len (bs : List Int) (i j : Nat) (h : i + j ≤ 8 * bs.length) : (nextB bs i j).length = j := by
  unfold nextB
  rw [List.length_take, List.length_drop, length_bitsOf]; omega

/-- What Get(k) answers, where the reader stands behind it, and its first error. -/
def getTo (bs : List Int) (i : Nat) (er k : Int) : Int × Nat × Int :=
  if k < 0 ∨ 57 < k then (0, i, if er = 0 then 1 else er)
  else if er ≠ 0 then (0, i, er)
  else if ((8 * bs.length - i : Nat) : Int) < k then (0, i, 2)
  else (numB (nextB bs i k.toNat), i + k.toNat, 0)

def GetR (w : World) (b : Nat) (bs : List Int) (i : Nat) (j : Nat) (wr : World) : Prop := RdAt wr b bs (i + j) 0 ∧ Kept (butOf w b) w wr
theorem getR_next {w wr : World} {b : Nat} {bs : List Int} {i j : Nat} (h : GetR w b bs i j wr) (hj : i + j < 8 * bs.length) : GetR w b bs i (j + 1) (wr.setCell ⟨b, 1, none⟩ (.int .i64 (((i + j : Nat) : Int) + 1))) := by
  have := h.1.set1 (n := i + (j + 1)) (by omega)
  have e : ((i + (j + 1) : Nat) : Int) = ((i + j : Nat) : Int) + 1 := by omega
  rw [e] at this
  have hsz := h.2.size
  exact ⟨this.1, h.2.trans (this.2.mono fun q hq => ⟨Nat.lt_of_lt_of_le hq.1 hsz, hq.2⟩)⟩

set_option maxHeartbeats 1000000 in
theorem Get_yes (b : Nat) (bs : List Int) (i : Nat) (k : Nat) (w : World) (hk : k ≤ 57) (hl : i + k ≤ 8 * bs.length) (h : RdAt w b bs i 0) :
    Calls Try.prog 43 #[.pointer (some ⟨b, 0, none⟩), .int .i64 k] w fun en w' => en = .returned (.int .u64 (numB (nextB bs i k))) ∧ RdAt w' b bs (i + k) 0 ∧ Kept (butOf w b) w w' := by
  have hw : Hid (widB k = true) := by unfold Hid widB; simp; omega
  have cL := Lib.hid (Left_any b bs i 0 w h)
  rw [if_pos rfl] at cL
  have hst : ∀ n, GetR w b bs i 0 (w.drewN n) := fun n => ⟨h.kept ((Kept.refl (fun _ => True) w).drewN n) (fun _ _ => trivial), (Kept.refl _ w).drewN n⟩
  have HST := Lib.hid hst
  have hlr : ((8 * bs.length - i : Nat) : Int) ≥ k := by omega
  generalize hq : ((8 * bs.length - i : Nat) : Int) = q at *
  clear hq hst h
  go_enter Try.func43, Try.ntmps43
  go_wp2_with fail
  refine (isWidth_any k w).mono ?_
  rintro e w' ⟨rfl, rfl⟩
  rw [hw.out]
  go_wp2_with fail
  refine cL.out.mono ?_
  rintro e w1 ⟨rfl, nq, rfl⟩
  go_wp2_with fail
  go_loopw [5, 18] (fun vv vi wr => ∃ j : Nat, j ≤ k ∧ vi = .int .i64 j ∧ vv = .int .u64 (numB (nextB bs i j)) ∧ GetR w b bs i j wr) (fun _ vi _ => k - (intOf vi).toNat)
  case atStart => exact ⟨0, by omega, rfl, rfl, HST.out _⟩
  case round =>
    obtain ⟨j, hj, rfl, rfl, hg⟩ := hrel
    by_cases hlt : j < k
    · obtain ⟨v, hb, _⟩ := hg.1
      obtain ⟨c0, c1, c2, f0, f1, f2⟩ := cell3 hb
      have cb := Lib.hid (bit_any b bs _ 0 (i + j) wr (by omega) hg.1)
      have hn := Lib.hid (getR_next hg (by omega))
      have hr := numB_range (nextB bs i j)
      rw [nextB_len bs i j (by omega)] at hr
      have hpw := pw_mono j 56 (by omega)
      rw [show pw 56 = 72057594037927936 from rfl] at hpw
      have hs := Lib.hid (show numB (nextB bs i (j + 1)) = 2 * numB (nextB bs i j) + bi (bitAt bs (i + j)) from by rw [nextB_succ bs i j (by omega), numB_snoc])
      have ho := Lib.hid (or_bit (numB (nextB bs i j)) (bitAt bs (i + j)) hr.1 (by omega))
      have hb1 := bi_01 (bitAt bs (i + j))
      have hij : ((i + j : Nat) : Int) ≤ 34359738368 := by have := hg.1; obtain ⟨_, _, _, _, _, h4, _⟩ := this; omega
      have hij0 : 0 ≤ ((i + j : Nat) : Int) := by omega
      obtain ⟨r0, r1⟩ := hr
      obtain ⟨b0, b1⟩ := hb1
      have r2 : numB (nextB bs i j) ≤ 72057594037927936 := by omega
      generalize ((i + j : Nat) : Int) = ij at *
      generalize numB (nextB bs i j) = y at *
      generalize bi (bitAt bs (i + j)) = c at *
      clear hg hb hpw r1
      go_wp2_with fail
      refine cb.out.mono ?_
      rintro e w2 ⟨rfl, rfl⟩
      go_wp2
      go_roundw
      case rel => exact ⟨j + 1, by omega, by go_num, by rw [hs.out, ← ho.out], hn.out⟩
      case measure => simp [intOf]; omega
    · obtain rfl : j = k := by omega
      have hend := Lib.hid hg.1
      have hend2 := Lib.hid hg.2
      clear hg
      go_wp2_with fail
      go_ret
      exact ⟨rfl, hend.out, hend2.out⟩

/-- Get(k), whatever k is and wherever the reader stands. -/
theorem Get_any (b : Nat) (bs : List Int) (i : Nat) (er k : Int) (w : World) (h : RdAt w b bs i er) :
    Calls Try.prog 43 #[.pointer (some ⟨b, 0, none⟩), .int .i64 k] w fun en w' => en = .returned (.int .u64 (getTo bs i er k).1) ∧ RdAt w' b bs (getTo bs i er k).2.1 (getTo bs i er k).2.2 ∧ Kept (butOf w b) w w' := by
  have hb8 : i ≤ 8 * bs.length := by obtain ⟨_, _, _, _, _, _, h6⟩ := h; exact h6
  by_cases hk : k < 0 ∨ 57 < k
  · have hg : getTo bs i er k = (0, i, if er = 0 then 1 else er) := by unfold getTo; rw [if_pos hk]
    rw [hg]
    have hw : Hid (widB k = false) := by unfold Hid widB; simp; omega
    have cF := Lib.hid (Fail_any b bs i er 1 w h)
    clear h hg hk
    simp only []
    generalize (if er = 0 then (1 : Int) else er) = er' at *
    go_enter Try.func43, Try.ntmps43
    go_wp2_with fail
    refine (isWidth_any k w).mono ?_
    rintro e w' ⟨rfl, rfl⟩
    rw [hw.out]
    go_wp2_with fail
    refine cF.out.mono ?_
    rintro e w1 ⟨rfl, hf⟩
    have HF := Lib.hid hf
    clear hf
    go_wp2_with fail
    go_ret
    exact ⟨rfl, HF.out⟩
  · obtain ⟨n, rfl⟩ := Int.eq_ofNat_of_zero_le (show 0 ≤ k by omega)
    by_cases her : er = 0
    · subst her
      by_cases hs : ((8 * bs.length - i : Nat) : Int) < (n : Int)
      · have hg : getTo bs i 0 n = (0, i, 2) := by unfold getTo; rw [if_neg hk, if_neg (by simp), if_pos hs]
        rw [hg]
        have hw : Hid (widB n = true) := by unfold Hid widB; simp; omega
        have cL := Lib.hid (Left_any b bs i 0 w h)
        rw [if_pos rfl] at cL
        have cF := Lib.hid (fun m => Fail_any b bs i 0 2 (w.drewN m) (h.kept ((Kept.refl (fun _ => True) w).drewN m) (fun _ _ => trivial)))
        simp only [if_true] at cF
        generalize ((8 * bs.length - i : Nat) : Int) = q at *
        clear h hg hk hb8
        go_enter Try.func43, Try.ntmps43
        go_wp2_with fail
        refine (isWidth_any n w).mono ?_
        rintro e w' ⟨rfl, rfl⟩
        rw [hw.out]
        go_wp2_with fail
        refine cL.out.mono ?_
        rintro e w1 ⟨rfl, nq, rfl⟩
        go_wp2_with fail
        refine (cF.out nq).mono ?_
        rintro e w1 ⟨rfl, hf1, hf2⟩
        have HF := Lib.hid hf1
        have HF2 := Lib.hid (show Kept (butOf w b) w w1 from ((Kept.refl _ w).drewN nq).trans (hf2.mono fun q hq => hq))
        clear hf1 hf2
        go_wp2_with fail
        go_ret
        exact ⟨rfl, HF.out, HF2.out⟩
      · have hg : getTo bs i 0 n = (numB (nextB bs i n), i + n, 0) := by unfold getTo; rw [if_neg hk, if_neg (by simp), if_neg hs]; rfl
        rw [hg]
        exact Get_yes b bs i n w (by omega) (by omega) h
    · have hg : getTo bs i er n = (0, i, er) := by unfold getTo; rw [if_neg hk, if_pos her]
      rw [hg]
      have hw : Hid (widB n = true) := by unfold Hid widB; simp; omega
      have cL := Lib.hid (Left_any b bs i er w h)
      rw [if_neg her] at cL
      have cF := Lib.hid (fun m => Fail_any b bs i er 2 (w.drewN m) (h.kept ((Kept.refl (fun _ => True) w).drewN m) (fun _ _ => trivial)))
      have hq := Lib.hid (fun m => h.kept ((Kept.refl (fun _ => True) w).drewN m) (fun _ _ => trivial))
      simp only [if_neg her] at cF
      by_cases h0 : n = 0
      · subst h0
        clear h hg hk hb8 her cF hw
        have hw : Hid (widB 0 = true) := by unfold Hid; rfl
        go_enter Try.func43, Try.ntmps43
        go_wp2_with fail
        refine (isWidth_any _ w).mono ?_
        rintro e w' ⟨rfl, rfl⟩
        rw [hw.out]
        go_wp2_with fail
        refine cL.out.mono ?_
        rintro e w1 ⟨rfl, nq, rfl⟩
        go_wp2_with fail
        refine wp_loop_rounds 1 ?_
        rw [rounds_succ]
        go_wp2_with fail
        go_ret
        exact ⟨rfl, hq.out nq, (Kept.refl _ w).drewN nq⟩
      · have hpos : (0 : Int) < n := by omega
        clear h hg hk hb8 her h0
        go_enter Try.func43, Try.ntmps43
        go_wp2_with fail
        refine (isWidth_any n w).mono ?_
        rintro e w' ⟨rfl, rfl⟩
        rw [hw.out]
        go_wp2_with fail
        refine cL.out.mono ?_
        rintro e w1 ⟨rfl, nq, rfl⟩
        go_wp2_with fail
        refine (cF.out nq).mono ?_
        rintro e w1 ⟨rfl, hf1, hf2⟩
        have HF := Lib.hid hf1
        have HF2 := Lib.hid (show Kept (butOf w b) w w1 from ((Kept.refl _ w).drewN nq).trans (hf2.mono fun q hq => hq))
        clear hf1 hf2
        go_wp2_with fail
        go_ret
        exact ⟨rfl, HF.out, HF2.out⟩

theorem src_slI {w : World} {p : Option Addr} {n cap : Nat} {bs : List Int} (o : Obj) (h : SlI w .u8 (.slice p n cap) bs) :
    0 < (bs.map (Value.int .u8)).length → some (⟨w.heap.size, 0, none⟩ : Addr) = some ⟨w.heap.size, 0, none⟩ ∧ ∃ ad, p = some ad ∧ ∀ j u, (bs.map (Value.int .u8))[j]? = some u → (w.alloc o).cell? (ad.add j) = some u := by
  intro h0
  rw [List.length_map] at h0
  obtain ⟨hl, hc⟩ := (h.old (Old.alloc w o)).cellAt
  obtain ⟨b, off, hp, _, _, _, hcell⟩ := hc (by omega)
  refine ⟨rfl, _, hp, fun j u hj => ?_⟩
  rw [List.getElem?_map] at hj
  obtain ⟨x, hx, rfl⟩ := Option.map_eq_some_iff.1 hj
  have hjl : j < bs.length := (List.getElem?_eq_some_iff.1 hx).1
  rw [add_plain, hcell j (by omega)]
  simp [List.getD, hx]
theorem splice_all (bs : List Int) (n : Nat) (h : bs.length = n) : splice (List.replicate n (Value.int .u8 0)) 0 (bs.map (Value.int .u8)) = bs.map (Value.int .u8) := by
  subst h; simp [splice]

theorem rd_new {w w1 : World} {n : Nat} {bs : List Int} (hn : bs.length = n) (hbt : isBytes bs) (hl : bs.length ≤ 4294967296) (h : w1.heap[w.heap.size]? = some (.cells (bs.map (Value.int .u8)).toArray 5 (0, 0))) (hb : Below w.heap.size w w1) :
    RdAt (w1.alloc (.cells #[.slice (some ⟨w.heap.size, 0, none⟩) n n, .int .i64 0, .int .i64 0] 76)) w1.heap.size bs 0 0 ∧ Old w (w1.alloc (.cells #[.slice (some ⟨w.heap.size, 0, none⟩) n n, .int .i64 0, .int .i64 0] 76)) := by
  have hlt := lt_of_block h
  subst hn
  refine ⟨⟨_, heap_alloc_new _ _, ⟨_, _, rfl, fun hne => ⟨w.heap.size, 0, rfl, by simp; omega, Nat.le_refl _, by unfold maxLen; omega, fun i hi => ?_⟩⟩, fun q hq => by
    have hq' : w.heap.size = q := by simpa [Value.ownBlock] using hq
    subst hq'
    exact ⟨by omega, _, (Below.heap_alloc w1 _ _ hlt).trans h⟩, hbt, hl, Nat.zero_le _⟩, (Old.below hb).alloc' _⟩
  have := (Below.heap_alloc w1 (.cells #[.slice (some ⟨w.heap.size, 0, none⟩) bs.length bs.length, .int .i64 0, .int .i64 0] 76) _ hlt).trans h
  simp [World.cell?, this, hi, List.getD]

set_option maxHeartbeats 400000 in
theorem Read_any (v : Value) (bs : List Int) (w : World) (hv : SlI w .u8 v bs) (hbt : isBytes bs) (hl : bs.length ≤ 4294967296) :
    Calls Try.prog 30 #[v] w fun e w' => ∃ b, e = .returned (.pointer (some ⟨b, 0, none⟩)) ∧ RdAt w' b bs 0 0 ∧ Old w w' ∧ w.heap.size ≤ b := by
  obtain ⟨p, n, cap, rfl, hn, _⟩ : ∃ p n cap, v = .slice p n cap ∧ bs.length = n ∧ True := by obtain ⟨p, cap, rfl, _⟩ := hv; exact ⟨p, bs.length, cap, rfl, rfl, trivial⟩
  have hnb : n ≤ 4294967296 := by omega
  have hmk := fun W => run_make_row' (P := Try.prog) 29 5 (.int .u8 0) 1 Try.underlying29 Try.info5 rfl .i64 .i64 n (by omega) (by omega) W
  have hnew : Hid ((w.alloc (.cells (madeCells #[Value.int .u8 0] n) 5)).heap[w.heap.size]? = some (.cells (List.replicate n (Value.int .u8 0)).toArray 5 (0, 0))) := by
    unfold Hid
    rw [← toList_madeCells_one]
    exact heap_alloc_new _ _
  have hq2 : Hid ((bs.map (Value.int .u8)).length = Nat.min n n) := by unfold Hid; rw [List.length_map, hn]; exact (Nat.min_self n).symm
  have hq3 := Lib.hid (src_slI (.cells (madeCells #[Value.int .u8 0] n) 5) hv)
  have hq4 : Hid (0 + (bs.map (Value.int .u8)).length ≤ (List.replicate n (Value.int .u8 0)).length) := by unfold Hid; simp [hn]
  have hq6 : Hid (Below w.heap.size w (w.alloc (.cells (madeCells #[Value.int .u8 0] n) 5))) := (Below.refl _ _).alloc (Nat.le_refl _) _
  have hfin := Lib.hid (fun w1 h hb => rd_new (w := w) (w1 := w1) hn hbt hl h hb)
  have HS := Lib.hid (splice_all bs n hn)
  clear hv hn hbt hl
  go_enter Try.func30, Try.ntmps30
  go_wp2_with (with_reducible refine wpList_copy_splice rfl _ _ 29 29 rfl 5 Try.underlying29 Try.size5 _ _ _ _ _ _ rfl rfl w.heap.size 0 _ 5 hnew.out (bs.map (Value.int .u8)) hq2.out hq3.out hq4.out (bytes_oneCell _) w.heap.size w hq6.out (Nat.le_refl _) ?_; intro w1 h1 hb1; have H1 := Lib.hid h1; have HB := Lib.hid hb1; clear h1 hb1)
  go_ret
  have h1 := H1.out.out
  rw [HS.out] at h1
  have hf := hfin.out w1 h1 HB.out
  exact ⟨_, rfl, hf.1, hf.2, HB.out.size⟩

/-- What Signed(k) answers. -/
def sgnTo (bs : List Int) (i : Nat) (er k : Int) : Int := if 0 < k ∧ (getTo bs i er k).1 / 2 ^ (k.toNat - 1) = 1 then (getTo bs i er k).1 - pw k.toNat else (getTo bs i er k).1
theorem getTo_range (bs : List Int) (i : Nat) (er k : Int) (hi : i ≤ 8 * bs.length) : 0 ≤ (getTo bs i er k).1 ∧ (getTo bs i er k).1 < 144115188075855872 ∧ ((getTo bs i er k).1 ≠ 0 → 0 ≤ k ∧ k ≤ 57) := by
  unfold getTo
  split
  · exact ⟨by simp, by simp, fun h => absurd rfl h⟩
  · split
    · exact ⟨by simp, by simp, fun h => absurd rfl h⟩
    · split
      · exact ⟨by simp, by simp, fun h => absurd rfl h⟩
      · have := numB_range (nextB bs i k.toNat)
        rw [nextB_len bs i _ (by omega)] at this
        have hm := pw_mono k.toNat 57 (by omega)
        rw [show pw 57 = 144115188075855872 from rfl] at hm
        exact ⟨this.1, by simp only []; omega, fun _ => by omega⟩

set_option maxHeartbeats 400000 in
theorem RSigned_any (b : Nat) (bs : List Int) (i : Nat) (er k : Int) (w : World) (hk63 : -9223372036854775808 ≤ k ∧ k ≤ 9223372036854775807) (h : RdAt w b bs i er) :
    Calls Try.prog 33 #[.pointer (some ⟨b, 0, none⟩), .int .i64 k] w fun en w' => en = .returned (.int .i64 (sgnTo bs i er k)) ∧ RdAt w' b bs (getTo bs i er k).2.1 (getTo bs i er k).2.2 ∧ Kept (butOf w b) w w' := by
  have hi : i ≤ 8 * bs.length := by obtain ⟨_, _, _, _, _, _, h6⟩ := h; exact h6
  have hr := getTo_range bs i er k hi
  have cG := Lib.hid (Get_any b bs i er k w h)
  unfold sgnTo
  generalize getTo bs i er k = g at *
  obtain ⟨g, ga, ge⟩ := g
  simp only [] at *
  obtain ⟨r0, r1, r2⟩ := hr
  clear h hi
  by_cases h0 : 0 < k
  · by_cases h57 : k ≤ 57
    · by_cases ht : g / 2 ^ (k.toNat - 1) = 1
      · rw [if_pos ⟨h0, ht⟩]
        have hp := pw_pos k.toNat
        have hq := pw_le k.toNat (by omega)
        have he : wrap64 ((2 : Int) ^ k.toNat) = pw k.toNat := IntWalk.wrap64_in _ ⟨by show _ ≤ pw k.toNat; omega, by show pw k.toNat ≤ _; omega⟩
        have htb : (g / 2 ^ (k.toNat - 1) == 1) = true := by simpa using ht
        generalize pw k.toNat = q at *
        clear ht r2
        go_enter Try.func33, Try.ntmps33
        go_wp2_with fail
        refine cG.out.mono ?_
        rintro e w1 ⟨rfl, hg⟩
        have HG := Lib.hid hg
        clear hg
        go_wp2_with fail
        go_ret
        exact ⟨rfl, HG.out⟩
      · rw [if_neg (fun hh => ht hh.2)]
        have htb : (g / 2 ^ (k.toNat - 1) == 1) = false := by simpa using ht
        clear ht r2
        go_enter Try.func33, Try.ntmps33
        go_wp2_with fail
        refine cG.out.mono ?_
        rintro e w1 ⟨rfl, hg⟩
        have HG := Lib.hid hg
        clear hg
        go_wp2_with fail
        go_ret
        exact ⟨rfl, HG.out⟩
    · obtain rfl : g = 0 := by
        by_cases hg : g = 0
        · exact hg
        · have := r2 hg; omega
      rw [if_neg (by simp)]
      have hs : Op.shift .shr .i64 0 .i64 (k - 1) = pure (.int .i64 0) := by rw [shift_shr_any _ _ _ _ (by omega)]; simp
      clear r2
      go_enter Try.func33, Try.ntmps33
      go_wp2_with fail
      refine cG.out.mono ?_
      rintro e w1 ⟨rfl, hg⟩
      have HG := Lib.hid hg
      clear hg
      go_wp2_with fail
      go_ret
      exact ⟨rfl, HG.out⟩
  · rw [if_neg (fun hh => h0 hh.1)]
    clear r2
    go_enter Try.func33, Try.ntmps33
    go_wp2_with fail
    refine cG.out.mono ?_
    rintro e w1 ⟨rfl, hg⟩
    have HG := Lib.hid hg
    clear hg
    go_wp2_with fail
    go_ret
    exact ⟨rfl, HG.out⟩
end Go.Proofs.Ytdiahlhfoplmjaa
