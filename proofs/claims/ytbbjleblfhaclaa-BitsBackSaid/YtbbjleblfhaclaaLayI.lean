/- An item is laid: contract of calliopelaw01.lay; the items that come in. -/
import Derived.Test.YtbbjleblfhaclaaWhole
import Derived.Deep.Slices
import Derived.Deep.Fields
import Derived.ChangeSame
namespace Go.Proofs.Ytbbjleblfhaclaa
set_option linter.unusedVariables false
open Go.RowKit Go.ChangeShapes Go.WideShapes Go.Deep

/-- What a writer comes to by one item. -/
def putI (L : List Bool) (er : Int) (s : Bool) (v k : Int) : List Bool × Int := if er ≠ 0 then (L, er) else if validI s v k then (L ++ bitsI v k, 0) else (L, 5)

theorem bit_shift (a c : Int) (m : Nat) : (a + pw m * (2 * c)) / pw m % 2 = a / pw m % 2 := by
  rw [Int.add_mul_ediv_left _ _ (by have := pw_pos m; omega)]
  omega
theorem pw_add (m n : Nat) : pw (m + n) = pw m * pw n := by unfold pw; rw [Int.pow_add]
theorem bits_wrap (v : Int) (k : Nat) (hk : k ≤ 57) : bitsN (v + 18446744073709551616) k = bitsN (v + pw k) k := by
  unfold bitsN
  apply List.map_congr_left
  intro i hi
  rw [List.mem_range] at hi
  have h64 : (18446744073709551616 : Int) = pw (k - 1 - i) * (2 * pw (63 - (k - 1 - i))) := by
    rw [show (18446744073709551616 : Int) = pw 64 from rfl, ← pw_succ, ← pw_add]; congr 1; omega
  have hkk : pw k = pw (k - 1 - i) * (2 * pw i) := by
    rw [← pw_succ, ← pw_add]; congr 1; omega
  rw [h64, hkk]
  show ((v + pw (k - 1 - i) * (2 * pw (63 - (k - 1 - i)))) / pw (k - 1 - i) % 2 == 1) = ((v + pw (k - 1 - i) * (2 * pw i)) / pw (k - 1 - i) % 2 == 1)
  rw [bit_shift, bit_shift]

theorem putI_signed (L : List Bool) (er v k : Int) (h0 : -9223372036854775808 ≤ v) (h1 : v ≤ 9223372036854775807) : putTo L er (okSgn v k) (v % 18446744073709551616) k = putI L er true v k := by
  unfold putTo putI
  by_cases her : er ≠ 0
  · rw [if_pos her, if_pos her]
  · rw [if_neg her, if_neg her]
    have hv : validI true v k = okSgn v k := by simp [validI, okSgn, widB]
    rw [hv]
    by_cases hok : okSgn v k = true
    · rw [if_pos hok, if_pos hok]
      simp only [okSgn, widB, Bool.and_eq_true, decide_eq_true_eq] at hok
      congr 2
      unfold bitsI
      by_cases hn : v < 0
      · rw [if_pos hn, ← bits_wrap v k.toNat (by omega)]
        congr 1; omega
      · rw [if_neg hn]; congr 1; omega
    · rw [if_neg hok, if_neg hok]

theorem putI_plain (L : List Bool) (er v k : Int) (h0 : -9223372036854775808 ≤ v) (h1 : v ≤ 9223372036854775807) : putTo L er (okPut (v % 18446744073709551616) k) (v % 18446744073709551616) k = putI L er false v k := by
  unfold putTo putI
  by_cases her : er ≠ 0
  · rw [if_pos her, if_pos her]
  · rw [if_neg her, if_neg her]
    have hv : validI false v k = okPut (v % 18446744073709551616) k := by
      rw [Bool.eq_iff_iff]
      simp only [validI, okPut, Bool.and_eq_true, decide_eq_true_eq, Bool.false_eq_true, if_false]
      constructor
      · rintro ⟨⟨a, b⟩, c, d⟩
        have e : v % 18446744073709551616 = v := by omega
        rw [e]; exact ⟨a, b, d⟩
      · rintro ⟨a, b, c⟩
        have hp := pw_le k.toNat (by omega)
        have e : v % 18446744073709551616 = v := by omega
        rw [e] at c
        exact ⟨⟨a, b⟩, by omega, c⟩
    rw [hv]
    by_cases hok : okPut (v % 18446744073709551616) k = true
    · rw [if_pos hok, if_pos hok]
      simp only [okPut, decide_eq_true_eq] at hok
      have hp := pw_le k.toNat (by omega)
      have e : v % 18446744073709551616 = v := by omega
      rw [e]
      unfold bitsI
      rw [if_neg (by omega)]
    · rw [if_neg hok, if_neg hok]

theorem lay_item (X : Nat → Prop) (b : Nat) (L : List Bool) (er : Int) (s : Bool) (v k : Int) (w : World) (hL : L.length ≤ 4294967200) (h0 : -9223372036854775808 ≤ v) (h1 : v ≤ 9223372036854775807) (h : WrAt w X b L er) :
    Calls Try.prog 12 #[.pointer (some ⟨b, 0, none⟩), .agg #[.bool s, .int .i64 v, .int .i64 k]] w fun e w' => e = .returned (.tuple #[]) ∧ WrAt w' X b (putI L er s v k).1 (putI L er s v k).2 ∧ Kept X w w' := by
  have hX := h.2.1
  have hal := h.old (Old.alloc w (.cells #[.bool s, .int .i64 v, .int .i64 k] 34))
  have HK := Lib.hid (Kept.alloc w (.cells #[.bool s, .int .i64 v, .int .i64 k] 34) hX)
  have hw : IntKind.u64.wrap v = v % 18446744073709551616 := by rw [IntKind.wrap_u64]
  cases s with
  | true =>
    have c := Lib.hid (WSigned_any X b L er v k _ hL hal)
    rw [putI_signed L er v k h0 h1] at c
    clear hal h hX hw
    go_enter Try.func12, Try.ntmps12
    go_wp2_with fail
    refine c.out.mono ?_
    rintro e w' ⟨rfl, h1, h2⟩
    have H1 := Lib.hid h1
    have H2 := Lib.hid (HK.out.trans h2)
    clear h1 h2
    go_wp2
    go_end0
    exact ⟨rfl, H1.out, H2.out⟩
  | false =>
    have c := Lib.hid (Put_any X b L er (v % 18446744073709551616) k _ hL (by omega) (by omega) hal)
    rw [putI_plain L er v k h0 h1] at c
    clear hal h hX
    go_enter Try.func12, Try.ntmps12
    go_wp2_with fail
    refine c.out.mono ?_
    rintro e w' ⟨rfl, h1, h2⟩
    have H1 := Lib.hid h1
    have H2 := Lib.hid (HK.out.trans h2)
    clear h1 h2
    go_wp2
    go_end0
    exact ⟨rfl, H1.out, H2.out⟩

/-- The writer at block b, what it owns by name. -/
def WrV (w : World) (b : Nat) (v : Value) (L : List Bool) (er : Int) : Prop :=
  w.heap[b]? = some (.cells #[v, .int .i64 (L.length : Int), .int .i64 er] 29 (0, 0)) ∧ ownX (fun k => k = b) w 5 v (nb L) ((bytesOf L).map (Value.int .u8))
theorem WrV.toAt {w : World} {X : Nat → Prop} {b : Nat} {v : Value} {L : List Bool} {er : Int} (h : WrV w b v L er) (hb : ¬ X b) (hX : ∀ k, X k → k < w.heap.size) (hv : ∀ k, v.ownBlock = some k → ¬ X k) : WrAt w X b L er :=
  ⟨hb, hX, v, h.1, h.2.mono fun k hk hh => hh.elim (hv k hk) (fun e => h.2.2 k hk e)⟩
theorem WrV.kept {w w' : World} {X : Nat → Prop} {b : Nat} {v : Value} {L : List Bool} {er : Int} (h : WrV w b v L er) (k : Kept X w w') (hb : X b) (hv : ∀ k, v.ownBlock = some k → X k) : WrV w' b v L er :=
  ⟨(k.block b hb).trans h.1, h.2.kept k hv⟩
theorem WrV.old {w w' : World} {b : Nat} {v : Value} {L : List Bool} {er : Int} (h : WrV w b v L er) (k : Old w w') : WrV w' b v L er := h.kept k (lt_of_block h.1) fun q hq => h.2.lt q hq
/-- All but the writer's own. -/
def restOf (w : World) (b : Nat) (v : Value) : Nat → Prop := fun q => q < w.heap.size ∧ q ≠ b ∧ v.ownBlock ≠ some q
theorem WrAt.toV {w w' : World} {b : Nat} {v : Value} {L : List Bool} {er : Int} (h : WrAt w' (restOf w b v) b L er) : ∃ v', WrV w' b v' L er ∧ ∀ q, v'.ownBlock = some q → q ≠ b ∧ (v.ownBlock = some q ∨ w.heap.size ≤ q) := by
  obtain ⟨_, _, v', hb, ho⟩ := h
  refine ⟨v', ⟨hb, ho.mono fun k hk e => ho.2 k hk (.inr e)⟩, fun q hq => ⟨fun e => ho.2 q hq (.inr e), ?_⟩⟩
  by_cases h1 : v.ownBlock = some q
  · exact .inl h1
  · refine .inr ?_
    rcases Nat.lt_or_ge q w.heap.size with h2 | h2
    · exact absurd (Or.inl ⟨h2, fun e => ho.2 q hq (.inr e), h1⟩) (ho.2 q hq)
    · exact h2
theorem WrV.rest {w : World} {b : Nat} {v : Value} {L : List Bool} {er : Int} (h : WrV w b v L er) : WrAt w (restOf w b v) b L er :=
  h.toAt (fun hh => hh.2.1 rfl) (fun k hk => hk.1) (fun k hk hh => hh.2.2 hk)

/-- An item: with its sign, its number, its bits. -/
abbrev It := Bool × Int × Int
/-- The slice v reads as these items. -/
def SlIt (w : World) (v : Value) (its : List It) : Prop :=
  ∃ p cap, v = .slice p its.length cap ∧ its.length ≤ 9223372036854775807 ∧ (∀ x ∈ its, -9223372036854775808 ≤ x.2.1 ∧ x.2.1 ≤ 9223372036854775807) ∧ (its ≠ [] → ∃ b off, p = some ⟨b, off, none⟩ ∧ b < w.heap.size ∧
    ∀ i x, its[i]? = some x → w.cell? ⟨b, off + i * 3, none⟩ = some (.bool x.1) ∧ w.cell? ⟨b, off + i * 3 + 1, none⟩ = some (.int .i64 x.2.1) ∧ w.cell? ⟨b, off + i * 3 + 2, none⟩ = some (.int .i64 x.2.2))

theorem i64_range {x : Int} (h : (Lit.int .i64 x).wf = true) : -9223372036854775808 ≤ x ∧ x ≤ 9223372036854775807 := by simpa [Lit.wf, IntKind.min, IntKind.max, IntKind.signed, IntKind.bits] using h

/-- An argument that is a slice of items. -/
theorem open_slIt {H : Type} {enc : TypeId × Value → H} {W : World} {base : Nat} {v : Value} {d : DataW H} {p : List MemPlace} (hv : Value.okWide Try.prog W .any base 24 v)
    (h : DataW.Trod enc Try.prog W 0 (fun _ => true) true 24 v d p) (hlt : ∀ x ∈ p, x.block < W.heap.size) : ∃ q n cap its, v = .slice q n cap ∧ SlIt W (.slice q n cap) its := by
  obtain ⟨q, n, cap, rfl, hnc, hcm, hc⟩ := open_structs Try.underlying24 Try.underlying34 (by kernel_rfl) (by kernel_rfl) (by decide) hv h hlt
  unfold maxLen at hcm
  rcases Nat.eq_zero_or_pos n with hn | hn
  · subst hn
    exact ⟨q, 0, cap, [], rfl, q, cap, rfl, by simp, (fun x hx => by cases hx), fun h => absurd rfl h⟩
  · obtain ⟨b, off, rfl, hb, hcell⟩ := hc hn
    have each : ∀ i, i < n → ∃ x : It, (W.cell? ⟨b, off + i * 3, none⟩ = some (.bool x.1) ∧ W.cell? ⟨b, off + i * 3 + 1, none⟩ = some (.int .i64 x.2.1) ∧ W.cell? ⟨b, off + i * 3 + 2, none⟩ = some (.int .i64 x.2.2)) ∧ -9223372036854775808 ≤ x.2.1 ∧ x.2.1 ≤ 9223372036854775807 := by
      intro i hi
      obtain ⟨u0, y0, k0, c0, _, t0⟩ := hcell i hi 0 _ rfl
      obtain ⟨u1, y1, k1, c1, _, t1⟩ := hcell i hi 1 _ rfl
      obtain ⟨u2, y2, k2, c2, _, t2⟩ := hcell i hi 2 _ rfl
      obtain ⟨x0, e0, _⟩ := DataW.trod_bool Try.underlying4 t0
      obtain ⟨x1, e1, _, w1⟩ := DataW.trod_int Try.underlying2 t1
      obtain ⟨x2, e2, _, _⟩ := DataW.trod_int Try.underlying3 t2
      simp only [List.cons.injEq, and_true] at e0 e1 e2
      subst e0 e1 e2
      exact ⟨(x0, x1, x2), ⟨c0, c1, c2⟩, i64_range w1⟩
    obtain ⟨its, hl, hits⟩ := list_of n each
    refine ⟨some ⟨b, off, none⟩, n, cap, its, rfl, _, cap, by rw [hl], by omega, ?_, fun _ => ⟨b, off, rfl, hb, fun i x hx => (hits i x hx).1⟩⟩
    intro x hx
    obtain ⟨i, hi, rfl⟩ := List.getElem_of_mem hx
    exact (hits i _ (List.getElem?_eq_getElem hi)).2
end Go.Proofs.Ytbbjleblfhaclaa
