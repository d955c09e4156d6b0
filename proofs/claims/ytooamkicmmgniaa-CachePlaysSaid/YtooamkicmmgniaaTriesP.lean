/- Readings that fail so often, plain. No program's walk. -/
import Derived.Test.YtooamkicmmgniaaAwake
import Derived.ChangeKeysEq
namespace Go.Proofs.Ytooamkicmmgniaa
set_option linter.unusedVariables false
set_option maxRecDepth 100000
open Go.RowKit Go.ChangeShapes Go.WideShapes

theorem norm_f (x : Flt) : x.norm.f = x.f := by
  unfold Flt.norm
  split
  · rename_i h; rw [h.1]; rfl
  · rfl
theorem set_F (d : Dsk) (k : Nat) (x : Flt) : (d.set k x).F k = x := by simp [Dsk.set, updF]
theorem bad_f {d : Dsk} {k m : Nat} (h : (d.F k).f = ((m + 1 : Nat) : Int)) : ((d.bad k).F k).f = (m : Int) := by
  have h1 : d.more.failK k = d.more.set k (d.F k).less.norm := by
    unfold Dsk.failK
    rw [if_pos (show 0 < (d.more.F k).f from (show 0 < (d.F k).f by omega))]
    rfl
  unfold Dsk.bad
  rw [h1]
  show (updF d.more.F k (d.F k).less.norm k).f = _
  unfold updF
  rw [if_pos rfl, norm_f]
  show (d.F k).f - 1 = _
  omega
theorem bad_r (d : Dsk) (k : Nat) : (d.bad k).r = wrap64 (d.r + 1) := by
  unfold Dsk.bad Dsk.failK
  split <;> rfl
theorem tryN_lostN (k : Nat) : ∀ (j : Nat) (d : Dsk) (t : Int) (m : Nat), (d.F k).f = (m : Int) → j ≤ m → 0 ≤ t → t + j ≤ 1000 → 0 ≤ d.r → d.r + j ≤ 1000 → ∃ d', tryN k j d t = (none, d', t + j) ∧ d'.r = d.r + j ∧ d'.N = d.N
  | 0, d, t, m, _, _, _, _, _, _ => ⟨d, by show (none, d, t) = (none, d, t + ((0 : Nat) : Int)); simp, by simp, rfl⟩
  | j + 1, d, t, m, hf, hj, h0, h1, h2, h3 => by
    obtain ⟨m', rfl⟩ : ∃ m', m = m' + 1 := ⟨m - 1, by omega⟩
    have e1 : wrap64 (t + 1) = t + 1 := w64 _ (by omega)
    have e2 : (d.bad k).r = d.r + 1 := by rw [bad_r]; exact w64 _ (by omega)
    obtain ⟨d', r1, r2, r3⟩ := tryN_lostN k j (d.bad k) (t + 1) m' (bad_f hf) (by omega) (by omega) (by omega) (by omega) (by omega)
    refine ⟨d', ?_, by omega, r3.trans (bad_N d k)⟩
    rw [tryN_bad (by rw [hf]; omega), e1, r1]
    have : t + 1 + (j : Int) = t + ((j + 1 : Nat) : Int) := by omega
    rw [this]
theorem tryN_hadN (k : Nat) : ∀ (m j : Nat) (d : Dsk) (t : Int), (d.F k).f = (m : Int) → m < j → 0 ≤ t → t + m + 1 ≤ 1000 → ∃ G d', tryN k j d t = (some G, d', t + m + 1)
  | 0, j, d, t, hf, hj, h0, h1 => by
    obtain ⟨j', rfl⟩ : ∃ j', j = j' + 1 := ⟨j - 1, by omega⟩
    refine ⟨readF d k, d.more, ?_⟩
    rw [tryN_ok (by rw [hf]; rfl), w64 _ (by omega)]
    simp
  | m + 1, j, d, t, hf, hj, h0, h1 => by
    obtain ⟨j', rfl⟩ : ∃ j', j = j' + 1 := ⟨j - 1, by omega⟩
    obtain ⟨G, d', r1⟩ := tryN_hadN k m j' (d.bad k) (t + 1) (bad_f hf) (by omega) (by omega) (by omega)
    refine ⟨G, d', ?_⟩
    rw [tryN_bad (by rw [hf]; omega), w64 _ (by omega), r1]
    have : t + 1 + (m : Int) + 1 = t + ((m + 1 : Nat) : Int) + 1 := by omega
    rw [this]
theorem fnd_empty (k : Nat) : ∀ n, fnd (fun _ => none) k n = none
  | 0 => rfl
  | n + 1 => by unfold fnd; rw [fnd_empty k n]; rfl
/-- What a first page tells: lost, or had. -/
theorem take_lost {rt m : Nat} {d : Dsk} (hf : (d.F 0).f = (m : Int)) (hm : rt < m) (hrt : rt ≤ 8) (hr : d.r = 0) : ∃ d', takeR (cc0 3 rt) d 0 = ⟨none, ⟨3, rt, 0, 1, (rt : Int) + 1, 1, 0, fun _ => none⟩, d'⟩ ∧ d'.r = (rt : Int) + 1 ∧ d'.N = d.N := by
  obtain ⟨d', r1, r2, r3⟩ := tryN_lostN 0 (rt + 1) d 0 m hf (by omega) (by omega) (by omega) (by omega) (by omega)
  refine ⟨d', ?_, by rw [r2, hr]; omega, r3⟩
  rw [takeR_lost (fnd_empty 0 3) r1]
  have e : (0 : Int) + ((rt + 1 : Nat) : Int) = (rt : Int) + 1 := by omega
  rw [e]
  have e1 : wrap64 (0 + 1) = 1 := w64 1 (by omega)
  unfold Cch.lose Cch.tried Cch.miss cc0
  dsimp only
  rw [e1]
theorem take_had {rt m : Nat} {d : Dsk} (hf : (d.F 0).f = (m : Int)) (hm : m ≤ rt) (hrt : rt ≤ 8) : ∃ G d', takeR (cc0 3 rt) d 0 = ⟨some G, ⟨3, rt, 0, 1, (m : Int) + 1, 0, 1, updS (fun _ => none) 0 (some ⟨0, true, G⟩)⟩, d'⟩ := by
  obtain ⟨G, d', r1⟩ := tryN_hadN 0 m (rt + 1) d 0 hf (by omega) (by omega) (by omega)
  refine ⟨G, d', ?_⟩
  rw [takeR_had (fnd_empty 0 3) r1]
  have e : (0 : Int) + (m : Int) + 1 = (m : Int) + 1 := by omega
  rw [e]
  have e1 : wrap64 (0 + 1) = 1 := w64 1 (by omega)
  unfold Cch.tried Cch.miss cc0
  dsimp only
  rw [e1]
  rfl
/-- The disk behind a cache's is told something. -/
theorem CD.disk {W V : World} {lo z0 dm N : Nat} {c : Cch} {d d' : Dsk} (h : CD W lo z0 dm N c d) (hd : ∀ p, DkAt W (dm + 1) dm p N d → DkAt V (dm + 1) dm p N d') (k : Kept (fun j => j < W.heap.size ∧ j ≠ dm) W V) (hN : d'.N = d.N) : CD V lo z0 dm N c d' ∧ Kept (butCD W z0 dm) W V := by
  obtain ⟨p, h1, h2⟩ := h
  exact ⟨⟨p, h1.disk (k.mono fun q hq => ⟨hq.1, hq.2.2⟩) (hd p h1.dk) (hN.trans h1.nN), h2⟩, k.mono fun q hq => ⟨hq.1, hq.2.2.2.2.2⟩⟩
theorem CD.Fail {W : World} {lo z0 dm N : Nat} {c : Cch} {d : Dsk} (h : CD W lo z0 dm N c d) {k : Nat} (hk : k < N) {n : Int} (hn : -9223372036854775808 ≤ n ∧ n ≤ 9223372036854775807) : Calls Try.prog 17 #[.pointer (some ⟨dm + 1, 0, none⟩), .int .i64 (k : Int), .int .i64 n] W fun e V =>
    e = .returned (.int .i64 0) ∧ CD V lo z0 dm N c (d.set k (Flt.mk n (d.F k).a (d.F k).x).norm) ∧ Kept (butCD W z0 dm) W V := by
  obtain ⟨p, h1, h2⟩ := h
  refine (Fail_ok (dm + 1) dm p N d k n W h1.dk (by rw [h1.nN]; exact hk) hn).mono ?_
  rintro e V ⟨r1, r2, r3⟩
  exact ⟨r1, ⟨p, h1.disk (k := r3.mono fun q hq => ⟨hq.1, hq.2.2⟩) r2 h1.nN, h2⟩, r3.mono fun q hq => ⟨hq.1, hq.2.2.2.2.2⟩⟩
theorem CD.Reads {W : World} {lo z0 dm N : Nat} {c : Cch} {d : Dsk} (h : CD W lo z0 dm N c d) : Calls Try.prog 12 #[.pointer (some ⟨dm + 1, 0, none⟩)] W fun e V => e = .returned (.int .i64 d.r) ∧ W = V := by
  obtain ⟨p, h1, h2⟩ := h
  exact Reads_at (dm + 1) dm p N d W h1.dk
theorem stats_fields : (Try.prog.fieldsOf 37).toList = [{ name := "Hits", type := 3, offset := 0, embedded := false, tag := "", pkgPath := "", byteOffset := 0 }, { name := "Misses", type := 3, offset := 1, embedded := false, tag := "", pkgPath := "", byteOffset := 8 }, { name := "Tries", type := 3, offset := 2, embedded := false, tag := "", pkgPath := "", byteOffset := 16 }, { name := "Lost", type := 3, offset := 3, embedded := false, tag := "", pkgPath := "", byteOffset := 24 }] := by kernel_rfl
/-- What was done, compared. -/
theorem eq_stats (a b c d : Int) (w : World) : (binOp .eql 37 (.agg #[.int .i64 a, .int .i64 b, .int .i64 c, .int .i64 d]) (.agg #[.int .i64 a, .int .i64 b, .int .i64 c, .int .i64 d])).run Try.prog w = .ok (.bool true) w := by
  rw [run_eql_struct, run_equalIn_agg w 9999 37 _ _ (by kernel_rfl) (by kernel_rfl), stats_fields]
  have h := fun (w : World) (a b : Int) => run_equalIn_int (P := Try.prog) w 9998 3 .i64 .i64 a b Try.underlying3
  simp [Op.eqFields, part, isAgg, run_underlying Try.underlying3, h, sizeOf]
theorem neq_stats (a b c d : Int) (w : World) : (binOp .neq 37 (.agg #[.int .i64 a, .int .i64 b, .int .i64 c, .int .i64 d]) (.agg #[.int .i64 a, .int .i64 b, .int .i64 c, .int .i64 d])).run Try.prog w = .ok (.bool false) w := by
  rw [run_neq_struct, run_equalIn_agg w 9999 37 _ _ (by kernel_rfl) (by kernel_rfl), stats_fields]
  have h := fun (w : World) (a b : Int) => run_equalIn_int (P := Try.prog) w 9998 3 .i64 .i64 a b Try.underlying3
  simp [Op.eqFields, part, isAgg, run_underlying Try.underlying3, h, sizeOf]
end Go.Proofs.Ytooamkicmmgniaa
