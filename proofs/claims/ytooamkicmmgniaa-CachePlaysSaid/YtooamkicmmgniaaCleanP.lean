/- Without faults, plain: what a cache gives is the image. -/
import Derived.Test.YtooamkicmmgniaaOps
import Derived.Test.YtooamkicmmgniaaDiskAw
namespace Go.Proofs.Ytooamkicmmgniaa
set_option linter.unusedVariables false
set_option maxRecDepth 100000
open Go.RowKit Go.ChangeShapes Go.WideShapes

/-- What the slots have is the image. -/
def ClnC (I : Nat → Int) (S : Nat → Option Slt) : Prop := ∀ i s, S i = some s → ∀ j, j < 64 → s.G j = I (s.p * 64 + j)
/-- A disk without faults, of this image. -/
structure ClnD (I : Nat → Int) (N : Nat) (d : Dsk) : Prop where
  f : ∀ k, d.F k = Flt.z
  g : d.G = I
  n : d.N = N
theorem ClnD.more {I : Nat → Int} {N : Nat} {d : Dsk} (h : ClnD I N d) : ClnD I N d.more := ⟨h.f, h.g, h.n⟩
theorem setM_cln {I : Nat → Int} {S : Nat → Option Slt} (h : ClnC I S) (i : Nat) (b : Bool) : ClnC I (setM S i b) := by
  intro j s hs q hq
  obtain ⟨t, h1, h2, h3⟩ := setM_G S i b j s hs
  rw [h2, h3]
  exact h j t h1 q hq
theorem upd_cln {I : Nat → Int} {S : Nat → Option Slt} (h : ClnC I S) (i : Nat) (s : Option Slt) (hs : ∀ t, s = some t → ∀ j, j < 64 → t.G j = I (t.p * 64 + j)) : ClnC I (updS S i s) := by
  intro j t ht q hq
  unfold updS at ht
  split at ht
  · exact hs t ht q hq
  · exact h j t ht q hq
theorem same_cln {I : Nat → Int} {c c' : Cch} (h : ClnC I c.S) (k : Same c c') : ClnC I c'.S := by
  intro j s hs q hq
  obtain ⟨t, h1, h2, h3⟩ := k.G j s hs
  rw [h2, h3]
  exact h j t h1 q hq
theorem take_clean {I : Nat → Int} {N k : Nat} {c : Cch} {d : Dsk} (hc : ClnC I c.S) (hd : ClnD I N d) (hb : Byt d.G (d.N * 64)) (hk : k < N) : ∃ G c' d', takeR c d k = ⟨some G, c', d'⟩ ∧ (∀ j, j < 64 → G j = I (k * 64 + j)) ∧ ClnC I c'.S ∧ ClnD I N d' := by
  cases hf : fnd c.S k c.n with
  | some i =>
    obtain ⟨_, s, hs, hp⟩ := (show i < c.n ∧ ∃ s, c.S i = some s ∧ s.p = k from ⟨(fnd_some hf).1, hasS_iff.1 (fnd_some hf).2⟩)
    refine ⟨s.G, c.hit i, d, takeR_hit hf hs, fun j hj => ?_, setM_cln hc i true, hd⟩
    rw [hc i s hs j hj, hp]
  | none =>
    have hz := hd.f k
    have ht := tryN_ok (k := k) (d := d) (by rw [hz]; rfl) c.rt c.t
    have hg : ∀ j, j < 64 → readF d k j = I (k * 64 + j) := fun j hj => by
      rw [readF_z (by rw [hd.n]; exact hk) hb hz j hj, hd.g]
    refine ⟨readF d k, _, d.more, takeR_had hf ht, hg, ?_, hd.more⟩
    show ClnC I (updS _ _ _)
    refine upd_cln (same_cln (c := c.miss.tried (wrap64 (c.t + 1))) hc (chs_same _ _)) _ _ fun t e => ?_
    cases e
    exact hg
theorem span_cleanF {I : Nat → Int} {N at_ n : Nat} (hn : at_ + n ≤ 64 * N) (hI : Byt I (N * 64)) : ∀ (f : Nat) (c : Cch) (d : Dsk) (len : Nat) (B : Nat → Int), n - len ≤ f → ClnC I c.S → ClnD I N d → (∀ j, j < len → B j = I (at_ + j)) →
    ∃ B' c' d', spanF at_ n f c d len B = ⟨some B', c', d'⟩ ∧ (∀ j, j < n → B' j = I (at_ + j)) ∧ ClnC I c'.S ∧ ClnD I N d'
  | 0, c, d, len, B, hf, hc, hd, hB => ⟨B, c, d, rfl, fun j hj => hB j (by omega), hc, hd⟩
  | f + 1, c, d, len, B, hf, hc, hd, hB => by
    by_cases hl : len < n
    · have hk : (at_ + len) / 64 < N := by omega
      obtain ⟨G, c', d', h1, h2, h3, h4⟩ := take_clean hc hd (by rw [hd.g, hd.n]; exact hI) hk
      rw [spanF_had hl f c c' d d' B G h1]
      have hm : 1 ≤ min (64 - (at_ + len) % 64) (n - len) := by omega
      refine span_cleanF hn hI f c' d' _ _ ?_ h3 h4 fun j hj => ?_
      · show n - (len + min (64 - (at_ + len) % 64) (n - len)) ≤ f
        omega
      · have hj' : j < len + min (64 - (at_ + len) % 64) (n - len) := hj
        by_cases e : j < len
        · rw [if_pos e]; exact hB j e
        · rw [if_neg e, h2 _ (by omega)]
          congr 1
          omega
    · rw [spanF_end (by omega)]
      exact ⟨B, c, d, rfl, fun j hj => hB j (by omega), hc, hd⟩
theorem span_clean {I : Nat → Int} {N at_ n : Nat} {c : Cch} {d : Dsk} (hn : at_ + n ≤ 64 * N) (hI : Byt I (N * 64)) (hc : ClnC I c.S) (hd : ClnD I N d) : ∃ B' c' d', spanR c d at_ n = ⟨some B', c', d'⟩ ∧ (∀ j, j < n → B' j = I (at_ + j)) ∧ ClnC I c'.S ∧ ClnD I N d' :=
  span_cleanF hn hI n c d 0 _ (by omega) hc hd fun j hj => absurd hj (by omega)
theorem evict_cln {I : Nat → Int} {c : Cch} (h : ClnC I c.S) (i : Int) : ClnC I (c.evict i).S := by
  unfold Cch.evict
  cases fndI c i with
  | none => exact h
  | some j => exact upd_cln h j none fun t e => (nomatch e)
/-- A cache that was told what it was, behind w. -/
structure CleanR (w : World) (lo z0 dm N : Nat) (I : Nat → Int) (wx : World) : Prop where
  ex : ∃ c d, CD wx lo z0 dm N c d ∧ ClnC I c.S ∧ ClnD I N d
  old : Old w wx
theorem CleanR.next {w wx wy : World} {z0 dm N : Nat} {I : Nat → Int} (h : CleanR w w.heap.size z0 dm N I wx) {c : Cch} {d : Dsk} (hc : CD wy w.heap.size z0 dm N c d) (h1 : ClnC I c.S) (h2 : ClnD I N d) (k : Kept (butCD wx z0 dm) wx wy) : CleanR w w.heap.size z0 dm N I wy := by
  obtain ⟨c0, d0, q1, _, _⟩ := h.ex
  exact ⟨⟨c, d, hc, h1, h2⟩, h.old.after (q1.keep k) fun _ h => h⟩
theorem CleanR.evict {w wx : World} {z0 dm N : Nat} {I : Nat → Int} (h : CleanR w w.heap.size z0 dm N I wx) (i : Int) (hi : -9223372036854775808 ≤ i ∧ i ≤ 9223372036854775807) :
    Calls Try.prog 14 #[.pointer (some ⟨z0 + 2, 0, none⟩), .int .i64 i] wx fun e w' => ∃ b, e = .returned (.bool b) ∧ CleanR w w.heap.size z0 dm N I w' := by
  obtain ⟨c, d, q1, q2, q3⟩ := h.ex
  refine (q1.Evict hi).mono ?_
  rintro e w' ⟨rfl, r2, r3⟩
  exact ⟨_, rfl, h.next r2 (evict_cln q2 i) q3 r3⟩
theorem CleanR.empty {w wx : World} {z0 dm N : Nat} {I : Nat → Int} (h : CleanR w w.heap.size z0 dm N I wx) :
    Calls Try.prog 15 #[.pointer (some ⟨z0 + 2, 0, none⟩)] wx fun e w' => e = .returned (.tuple #[]) ∧ CleanR w w.heap.size z0 dm N I w' := by
  obtain ⟨c, d, q1, q2, q3⟩ := h.ex
  refine q1.Empty.mono ?_
  rintro e w' ⟨rfl, r2, r3⟩
  exact ⟨rfl, h.next r2 (fun i s hs => (by (have h0 : (none : Option Slt) = some s := hs); cases h0)) q3 r3⟩
/-- Any bytes are asked for. -/
theorem CleanR.span {w wx : World} {z0 dm N : Nat} {I : Nat → Int} (h : CleanR w w.heap.size z0 dm N I wx) (hI : Byt I (N * 64)) (a n : Int) (ha : -9223372036854775808 ≤ a ∧ a ≤ 9223372036854775807) :
    Calls Try.prog 16 #[.pointer (some ⟨z0 + 2, 0, none⟩), .int .i64 a, .int .i64 n] wx fun e w' => CleanR w w.heap.size z0 dm N I w' ∧
      (((a < 0 ∨ n < 0 ∨ 64 * (N : Int) - a < n) ∧ e = .returned (.tuple #[.slice none 0 0, .int .i64 5])) ∨
        ∃ a' n' q c B, a = ((a' : Nat) : Int) ∧ n = ((n' : Nat) : Int) ∧ a' + n' ≤ 64 * N ∧ e = .returned (.tuple #[.slice q n' c, .int .i64 0]) ∧ n' ≤ c ∧ c ≤ maxLen ∧ SlU w' q n' B ∧ ∀ j, j < n' → B j = I (a' + j)) := by
  obtain ⟨c, d, q1, q2, q3⟩ := h.ex
  by_cases ho : a < 0 ∨ n < 0 ∨ 64 * (N : Int) - a < n
  · refine (q1.SpanOut ho ha.2).mono ?_
    rintro e w' ⟨rfl, rfl⟩
    exact ⟨h, .inl ⟨ho, rfl⟩⟩
  · obtain ⟨a', rfl⟩ : ∃ a' : Nat, a = a' := ⟨a.toNat, by omega⟩
    obtain ⟨n', rfl⟩ : ∃ n' : Nat, n = n' := ⟨n.toNat, by omega⟩
    have hle : a' + n' ≤ 64 * N := by omega
    refine (q1.Span hle).mono ?_
    rintro e w' ⟨r1, r2, r3⟩
    obtain ⟨B', c', d', s1, s2, s3, s4⟩ := span_clean hle hI q2 q3
    rw [s1] at r1 r2
    obtain ⟨q, cp, rfl, h1, h2, h3, _⟩ := r1
    exact ⟨h.next r2 s3 s4 r3, .inr ⟨a', n', q, cp, B', rfl, rfl, hle, rfl, h1, h2, h3, s2⟩⟩
end Go.Proofs.Ytooamkicmmgniaa
