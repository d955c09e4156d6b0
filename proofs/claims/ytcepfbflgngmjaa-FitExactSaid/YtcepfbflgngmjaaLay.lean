/- Numbers are laid: contracts of (*bits.Writer).lay, Put, Signed, Len. -/
import Derived.Test.YtcepfbflgngmjaaLayA
namespace Go.Proofs.Ytcepfbflgngmjaa
set_option linter.unusedVariables false
set_option maxRecDepth 100000
open Go.RowKit

/-- The k bits of a number, the highest first. -/
def bitsN (v : Int) (k : Nat) : List Bool := (List.range k).map fun i => v / 2 ^ (k - 1 - i) % 2 == 1
theorem length_bitsN (v : Int) (k : Nat) : (bitsN v k).length = k := by simp [bitsN]
theorem bitsN_take_succ (v : Int) (k i : Nat) (h : i < k) : (bitsN v k).take (i + 1) = (bitsN v k).take i ++ [v / 2 ^ (k - 1 - i) % 2 == 1] := by
  rw [List.take_succ_eq_append_getElem (by simpa [bitsN] using h)]
  simp [bitsN]

theorem and_one (a : Int) (h0 : 0 ≤ a) (h1 : a ≤ 18446744073709551615) : bits .and .u64 a 1 = a % 2 := by
  obtain ⟨n, rfl⟩ := Int.eq_ofNat_of_zero_le h0
  have ea : (BitVec.ofInt 64 (n : Int)).toNat = n := by rw [BitVec.ofInt_natCast, BitVec.toNat_ofNat]; exact Nat.mod_eq_of_lt (by omega)
  have eb : (BitVec.ofInt 64 1).toNat = 1 := rfl
  show IntKind.u64.wrap ((BitVec.ofInt 64 (n : Int) &&& BitVec.ofInt 64 1).toNat : Int) = _
  rw [BitVec.toNat_and, ea, eb, Nat.and_one_is_mod, IntKind.wrap_u64]
  omega
theorem and_byte (v : Int) (n : Nat) (h0 : 0 ≤ v) (h1 : v ≤ 18446744073709551615) : bits .and .u64 (v / 2 ^ n) 1 % 256 = v / 2 ^ n % 2 := by
  have hp : (0 : Int) < 2 ^ n := Int.pow_pos (by omega)
  have a0 : 0 ≤ v / 2 ^ n := Int.ediv_nonneg h0 (by omega)
  have a1 : v / 2 ^ n ≤ v := Int.ediv_le_self _ h0
  rw [and_one _ a0 (by omega)]
  omega
theorem bi_mod (a : Int) : bi (a % 2 == 1) = a % 2 := by
  have : a % 2 = 0 ∨ a % 2 = 1 := by omega
  rcases this with h | h <;> rw [h] <;> rfl

/-- After j bits. -/
def Laid (w : World) (X : Nat → Prop) (b : Nat) (L : List Bool) (v k : Int) (j : Nat) (wr : World) : Prop := WrAt wr X b (L ++ (bitsN v k.toNat).take j) 0 ∧ Kept X w wr

theorem laid_next (w : World) (X : Nat → Prop) (b : Nat) (L : List Bool) (v k : Int) (j : Nat) (wr : World) (hj : (j : Int) < k) (hk : k ≤ 57) (hL : L.length ≤ 4294967200) (h : Laid w X b L v k j wr) :
    Calls Try.prog 71 #[.pointer (some ⟨b, 0, none⟩), .int .u8 (v / 2 ^ (k.toNat - 1 - j) % 2)] wr fun e w' => e = .returned (.tuple #[]) ∧ Laid w X b L v k (j + 1) w' := by
  rw [← bi_mod]
  have hl : (bitsN v k.toNat).take j = (bitsN v k.toNat).take j := rfl
  refine (layBit_any X b (L ++ (bitsN v k.toNat).take j) 0 (v / 2 ^ (k.toNat - 1 - j) % 2 == 1) wr ?_ h.1).mono ?_
  · have := List.length_take_le j (bitsN v k.toNat)
    rw [List.length_append]; omega
  · rintro e w' ⟨rfl, h1, h2⟩
    refine ⟨rfl, ?_, h.2.trans h2⟩
    rw [List.append_assoc, ← bitsN_take_succ _ _ _ (by omega)] at h1
    exact h1

set_option maxHeartbeats 400000 in
theorem lay_yes (X : Nat → Prop) (b : Nat) (L : List Bool) (v k : Int) (w : World) (hL : L.length ≤ 4294967200) (h0 : 0 ≤ v) (h1 : v ≤ 18446744073709551615) (k0 : 0 ≤ k) (k1 : k ≤ 57) (h : WrAt w X b L 0) :
    Calls Try.prog 57 #[.pointer (some ⟨b, 0, none⟩), .int .u64 v, .int .i64 k, .bool true] w fun e w' => e = .returned (.tuple #[]) ∧ WrAt w' X b (L ++ bitsN v k.toNat) 0 ∧ Kept X w w' := by
  have hst : Laid w X b L v k 0 w := ⟨by simpa using h, Kept.refl _ _⟩
  obtain ⟨_, _, v0, hblk, _⟩ := h
  obtain ⟨c0, c1, c2, f0, f1, f2⟩ := cell3 hblk
  clear hblk c0 c1 f0 f1 f2
  go_enter Try.func57, Try.ntmps57
  go_wp2_with fail
  go_loopw [24] (fun i wr => ∃ j : Nat, (j : Int) ≤ k ∧ i = .int .i64 j ∧ Laid w X b L v k j wr) (fun i _ => k.toNat - (intOf i).toNat)
  case atStart => exact ⟨0, by omega, rfl, hst⟩
  case round =>
    obtain ⟨j, hj, rfl, hlaid⟩ := hrel
    by_cases hlt : (j : Int) < k
    · go_wp2_with fail
      rw [and_byte v _ h0 h1]
      refine (laid_next w X b L v k j wr hlt k1 hL hlaid).mono ?_
      rintro e w1 ⟨rfl, hl1⟩
      go_wp2
      go_roundw
      case rel => exact ⟨j + 1, by omega, by go_num, hl1⟩
      case measure => simp [intOf]; omega
    · have hend : WrAt wr X b (L ++ bitsN v k.toNat) 0 ∧ Kept X w wr := by
        have := hlaid
        unfold Laid at this
        rw [List.take_of_length_le (by rw [length_bitsN]; omega)] at this
        exact this
      have HE := Lib.hid hend
      clear hend
      go_wp2
      go_end0
      exact ⟨rfl, HE.out⟩

/-- What doesn't fit: the first error. -/
theorem lay_no (X : Nat → Prop) (b : Nat) (L : List Bool) (v k : Int) (w : World) (h : WrAt w X b L 0) :
    Calls Try.prog 57 #[.pointer (some ⟨b, 0, none⟩), .int .u64 v, .int .i64 k, .bool false] w fun e w' => e = .returned (.tuple #[]) ∧ WrAt w' X b L 5 ∧ Kept X w w' := by
  obtain ⟨hXb, hX, v0, hblk, hown⟩ := h
  obtain ⟨c0, c1, c2, f0, f1, f2⟩ := cell3 hblk
  have hend : WrAt (w.setCell ⟨b, 2, none⟩ (.int .i64 5)) X b L 5 ∧ Kept X w (w.setCell ⟨b, 2, none⟩ (.int .i64 5)) :=
    ⟨⟨hXb, fun k hk => by have := hX k hk; simp [World.setCell]; omega, v0, heap_setCell_at (o := 2) (u := .int .i64 5) hblk, hown.other (fun e => hown.2 b e (.inr rfl)) _⟩, Kept.setCell _ (a := ⟨b, 2, none⟩) hXb _⟩
  have HE := Lib.hid hend
  clear hblk hown hend
  go_enter Try.func57, Try.ntmps57
  go_wp2
  refine bodyPost_ret (results_none rfl _ _ _) rfl ?_
  exact ⟨rfl, HE.out⟩

/-- Behind an error nothing is laid. -/
theorem lay_err (X : Nat → Prop) (b : Nat) (L : List Bool) (v k er : Int) (ok : Bool) (w : World) (her : er ≠ 0) (h : WrAt w X b L er) :
    Calls Try.prog 57 #[.pointer (some ⟨b, 0, none⟩), .int .u64 v, .int .i64 k, .bool ok] w fun e w' => e = .returned (.tuple #[]) ∧ w = w' := by
  obtain ⟨hXb, hX, v0, hblk, hown⟩ := h
  obtain ⟨c0, c1, c2, f0, f1, f2⟩ := cell3 hblk
  have hne : (er != 0) = true := by simpa using her
  clear hblk hown
  go_enter Try.func57, Try.ntmps57
  go_wp2
  refine bodyPost_ret (results_none rfl _ _ _) rfl ?_
  exact ⟨rfl, rfl⟩

/-- The number is laid, or is the first error. -/
def putTo (L : List Bool) (er : Int) (ok : Bool) (v k : Int) : List Bool × Int := if er ≠ 0 then (L, er) else if ok then (L ++ bitsN v k.toNat, 0) else (L, 5)
def okPut (v k : Int) : Bool := decide (0 ≤ k ∧ k ≤ 57 ∧ v < pw k.toNat)
def okSgn (v k : Int) : Bool := widB k && fitB v k

theorem lay_any (X : Nat → Prop) (b : Nat) (L : List Bool) (er v k : Int) (ok : Bool) (w : World) (hL : L.length ≤ 4294967200) (h0 : 0 ≤ v) (h1 : v ≤ 18446744073709551615) (hk : ok = true → 0 ≤ k ∧ k ≤ 57) (h : WrAt w X b L er) :
    Calls Try.prog 57 #[.pointer (some ⟨b, 0, none⟩), .int .u64 v, .int .i64 k, .bool ok] w fun e w' => e = .returned (.tuple #[]) ∧ WrAt w' X b (putTo L er ok v k).1 (putTo L er ok v k).2 ∧ Kept X w w' := by
  unfold putTo
  by_cases her : er = 0
  · subst her
    cases ok with
    | true => simpa using lay_yes X b L v k w hL h0 h1 (hk rfl).1 (hk rfl).2 h
    | false => simpa using lay_no X b L v k w h
  · refine (lay_err X b L v k er ok w her h).mono ?_
    rintro e w' ⟨rfl, rfl⟩
    rw [if_pos her]
    exact ⟨rfl, h, Kept.refl _ _⟩

theorem pw_div (v : Int) (n : Nat) : v / 2 ^ n = v / pw n := rfl
theorem Put_any (X : Nat → Prop) (b : Nat) (L : List Bool) (er v k : Int) (w : World) (hL : L.length ≤ 4294967200) (h0 : 0 ≤ v) (h1 : v ≤ 18446744073709551615) (h : WrAt w X b L er) :
    Calls Try.prog 35 #[.pointer (some ⟨b, 0, none⟩), .int .u64 v, .int .i64 k] w fun e w' => e = .returned (.tuple #[]) ∧ WrAt w' X b (putTo L er (okPut v k) v k).1 (putTo L er (okPut v k) v k).2 ∧ Kept X w w' := by
  by_cases hk : 0 ≤ k ∧ k ≤ 57
  · have hw : Hid (widB k = true) := by unfold Hid widB; simpa using hk
    have hp := pw_pos k.toNat
    have hd : Hid (okPut v k = (v / 2 ^ k.toNat == 0)) := by
      unfold Hid okPut
      rw [pw_div, Bool.eq_iff_iff, beq_iff_eq, decide_eq_true_eq]
      generalize pw k.toNat = q at *
      constructor
      · rintro ⟨_, _, h⟩; exact Int.ediv_eq_zero_of_lt h0 h
      · intro h
        refine ⟨hk.1, hk.2, ?_⟩
        have := Int.lt_mul_ediv_self_add (x := v) (k := q) (by omega)
        rw [h] at this; omega
    have hmin : min k.toNat 64 = k.toNat := by omega
    have HL := Lib.hid (lay_any X b L er v k (okPut v k) w hL h0 h1 (fun _ => hk) h)
    obtain ⟨hk0, hk1⟩ := hk
    clear h
    rw [hd.out] at HL ⊢
    go_enter Try.func35, Try.ntmps35
    go_wp2_with fail
    refine (isWidth_any k w).mono ?_
    rintro e w' ⟨rfl, rfl⟩
    rw [hw.out]
    go_wp2_with fail
    refine HL.out.mono ?_
    rintro e w1 ⟨rfl, h1⟩
    have H1 := Lib.hid h1
    clear h1
    go_wp2
    go_end0
    exact ⟨rfl, H1.out⟩
  · have hw : Hid (widB k = false) := by unfold Hid widB; simpa using hk
    have hd : Hid (okPut v k = false) := by unfold Hid okPut; simp; omega
    have HL := Lib.hid (lay_any X b L er v k false w hL h0 h1 (fun h => by cases h) h)
    clear h
    rw [hd.out]
    go_enter Try.func35, Try.ntmps35
    go_wp2_with fail
    refine (isWidth_any k w).mono ?_
    rintro e w' ⟨rfl, rfl⟩
    rw [hw.out]
    go_wp2_with fail
    refine HL.out.mono ?_
    rintro e w1 ⟨rfl, h1⟩
    have H1 := Lib.hid h1
    clear h1
    go_wp2
    go_end0
    exact ⟨rfl, H1.out⟩

theorem WSigned_any (X : Nat → Prop) (b : Nat) (L : List Bool) (er v k : Int) (w : World) (hL : L.length ≤ 4294967200) (h : WrAt w X b L er) :
    Calls Try.prog 36 #[.pointer (some ⟨b, 0, none⟩), .int .i64 v, .int .i64 k] w fun e w' => e = .returned (.tuple #[]) ∧ WrAt w' X b (putTo L er (okSgn v k) (v % 18446744073709551616) k).1 (putTo L er (okSgn v k) (v % 18446744073709551616) k).2 ∧ Kept X w w' := by
  have HL := Lib.hid (lay_any X b L er (v % 18446744073709551616) k (okSgn v k) w hL (by omega) (by omega) (fun h => by simp only [okSgn, widB, Bool.and_eq_true, decide_eq_true_eq] at h; exact h.1) h)
  clear h
  cases hw : widB k with
  | true =>
    have hd : okSgn v k = fitB v k := by simp [okSgn, hw]
    rw [hd] at HL ⊢
    have hw' := Lib.hid hw
    clear hw hd
    go_enter Try.func36, Try.ntmps36
    go_wp2_with fail
    refine (isWidth_any k w).mono ?_
    rintro e w' ⟨rfl, rfl⟩
    rw [hw'.out]
    go_wp2_with fail
    refine (Fits_any v k w).mono ?_
    rintro e w' ⟨rfl, rfl⟩
    go_wp2_with fail
    refine HL.out.mono ?_
    rintro e w1 ⟨rfl, h1⟩
    have H1 := Lib.hid h1
    clear h1
    go_wp2
    go_end0
    exact ⟨rfl, H1.out⟩
  | false =>
    have hd : okSgn v k = false := by simp [okSgn, hw]
    rw [hd] at HL ⊢
    have hw' := Lib.hid hw
    clear hw hd
    go_enter Try.func36, Try.ntmps36
    go_wp2_with fail
    refine (isWidth_any k w).mono ?_
    rintro e w' ⟨rfl, rfl⟩
    rw [hw'.out]
    go_wp2_with fail
    refine HL.out.mono ?_
    rintro e w1 ⟨rfl, h1⟩
    have H1 := Lib.hid h1
    clear h1
    go_wp2
    go_end0
    exact ⟨rfl, H1.out⟩

theorem WrAt.keep {w w' : World} {X Y : Nat → Prop} {b : Nat} {L : List Bool} {er : Int} (h : WrAt w X b L er) (k : Kept Y w w') (hb : Y b) (hY : ∀ g, ¬ X g → g ≠ b → g < w.heap.size → Y g) : WrAt w' X b L er := by
  obtain ⟨hXb, hX, v, hblk, hown⟩ := h
  exact ⟨hXb, fun q hq => Nat.lt_of_lt_of_le (hX q hq) k.size, v, (k.block b hb).trans hblk, hown.kept k fun g hg => hY g (fun h => hown.2 g hg (.inl h)) (fun h => hown.2 g hg (.inr h)) (hown.lt g hg)⟩
theorem WrAt.old {w w' : World} {X : Nat → Prop} {b : Nat} {L : List Bool} {er : Int} (h : WrAt w X b L er) (k : Old w w') : WrAt w' X b L er :=
  h.keep k (lt_of_block h.2.2.choose_spec.1) fun _ _ _ hg => hg

/-- A new writer. -/
theorem WrAt.fresh {w : World} {X : Nat → Prop} {b : Nat} (h : w.heap[b]? = some (.cells #[.slice none 0 0, .int .i64 0, .int .i64 0] 66 (0, 0))) (hb : ¬ X b) (hX : ∀ k, X k → k < w.heap.size) : WrAt w X b [] 0 :=
  ⟨hb, hX, .slice none 0 0, h, by
    have := ownX.nil (fun k => X k ∨ k = b) w 5
    simpa [nb, bytesOf] using this⟩

end Go.Proofs.Ytcepfbflgngmjaa
