/- Package cache, eighth part: Span. -/
import Derived.Test.YtooamkicmmgniaaCacheG
namespace Go.Proofs.Ytooamkicmmgniaa
set_option linter.unusedVariables false
set_option maxRecDepth 100000
open Go.RowKit Go.ChangeShapes Go.WideShapes

/-- Bytes page by page: so many rounds at most; where, how many in all, how many so far, and which. -/
def spanF (at_ n : Nat) : Nat → Cch → Dsk → Nat → (Nat → Int) → Tkn
  | 0, c, d, len, B => ⟨some B, c, d⟩
  | f + 1, c, d, len, B =>
    if len < n then
      match takeR c d ((at_ + len) / 64) with
      | ⟨none, c', d'⟩ => ⟨none, c', d'⟩
      | ⟨some G, c', d'⟩ => spanF at_ n f c' d' (len + Nat.min (64 - (at_ + len) % 64) (n - len)) (fun j => if j < len then B j else G ((at_ + len) % 64 + (j - len)))
    else ⟨some B, c, d⟩
def spanR (c : Cch) (d : Dsk) (at_ n : Nat) : Tkn := spanF at_ n n c d 0 (fun _ => 0)
theorem spanF_end {at_ n len : Nat} (h : n ≤ len) (f : Nat) (c : Cch) (d : Dsk) (B : Nat → Int) : spanF at_ n f c d len B = ⟨some B, c, d⟩ := by
  cases f with
  | zero => rfl
  | succ f => unfold spanF; rw [if_neg (by omega)]
theorem spanF_lost {at_ n len : Nat} (h : len < n) (f : Nat) (c c' : Cch) (d d' : Dsk) (B : Nat → Int) (ht : takeR c d ((at_ + len) / 64) = ⟨none, c', d'⟩) : spanF at_ n (f + 1) c d len B = ⟨none, c', d'⟩ := by
  unfold spanF
  rw [if_pos h, ht]
theorem spanF_had {at_ n len : Nat} (h : len < n) (f : Nat) (c c' : Cch) (d d' : Dsk) (B G : Nat → Int) (ht : takeR c d ((at_ + len) / 64) = ⟨some G, c', d'⟩) : spanF at_ n (f + 1) c d len B = spanF at_ n f c' d' (len + Nat.min (64 - (at_ + len) % 64) (n - len)) (fun j => if j < len then B j else G ((at_ + len) % 64 + (j - len))) := by
  rw [spanF, if_pos h, ht]
/-- What Span told. -/
def SpanRes (base : Nat) (w' : World) (n : Nat) (r : Option (Nat → Int)) (e : Ending) : Prop :=
  match r with
  | none => e = .returned (.tuple #[.slice none 0 0, .int .i64 8])
  | some G => ∃ q c, e = .returned (.tuple #[.slice q n c, .int .i64 0]) ∧ n ≤ c ∧ c ≤ maxLen ∧ SlU w' q n G ∧ ∀ a, 0 < n → q = some a → base ≤ a.block
theorem made_u8c (n : Nat) : madeCells (Value.int .u8 0 : Value).cells n = rowN n (bU fun _ => 0) :=
  made_rowU n (Value.int .u8 0 : Value).cells (by decide) fun j hj => by
    have h1 : (Value.int .u8 0 : Value).cells = #[.int .u8 0] := rfl
    rw [h1] at hj ⊢
    have : j = 0 := by simp at hj; omega
    subst this; rfl
theorem make_u8c (n : Nat) (hn : n ≤ 1099511627776) (w : World) : (Instr.makeSlice 22 (.int .i64 0) (.int .i64 n)).run Try.prog w = .ok (.slice (some ⟨w.heap.size, 0, none⟩) 0 n) (w.alloc (.cells (rowN n (bU fun _ => 0)) 5)) := by
  obtain ⟨i, hi, hz0, hz1, hz2⟩ := info_parts Try.info_u8c
  rw [run_make w _ _ i _ Try.underlying22 hi hz0 .i64 .i64 0 n (by omega) (by omega) (by rw [hz2]; omega) (by omega), hz1, Int.toNat_natCast, Nat.mul_one, made_u8c]
  rfl
theorem own_madeX (w : World) (n : Nat) (hn : n ≤ 1099511627776) : ownX (fun q => q < w.heap.size) (w.alloc (.cells (rowN n (bU fun _ => 0)) 5)) 5 (.slice (some ⟨w.heap.size, 0, none⟩) 0 n) 0 (u8L (fun _ => 0) 0) := by
  refine ⟨⟨by simp [u8L, lst], .inr ⟨w.heap.size, n, rowN n (bU fun _ => 0), rfl, Nat.zero_le _, heap_alloc_new _ _, Nat.zero_le _, by unfold maxLen; omega, by rw [rowN_size]; omega, by simp [u8L, lst]⟩⟩, fun k hk => ?_⟩
  have : k = w.heap.size := by simpa [Value.ownBlock, eq_comm] using hk
  omega
theorem cSpan_out (z0 z av b sb hm db dm : Nat) (p : Option Addr) (cd N : Nat) (at_ n : Int) (c : Cch) (d : Dsk) (w : World) (h : CkAt w z0 z av b sb hm db dm p cd N c d) (hi : at_ < 0 ∨ n < 0 ∨ 64 * (N : Int) - at_ < n) (h63 : at_ ≤ 9223372036854775807) : Calls Try.prog 16 #[.pointer (some ⟨b, 0, none⟩), .int .i64 at_, .int .i64 n] w fun e w' =>
    e = .returned (.tuple #[.slice none 0 0, .int .i64 5]) ∧ w = w' := by
  obtain ⟨_, _, _, _, c4, _, _, _, _⟩ := h.cc.cells
  have hN := h.cc.num.2.2.2.2
  have H := Lib.hid (cMade_yes b db w c4)
  have HP := Lib.hid (Pages_at db dm p cd d w h.dk)
  rw [h.nN] at HP
  by_cases h0 : at_ < 0
  · clear h hi
    go_enter Try.func16, Try.ntmps16
    go_wp2_with fail
    refine H.out.mono ?_
    rintro e w' ⟨rfl, rfl⟩
    clear H
    go_wp2_with fail
    go_ret2
    exact ⟨rfl, rfl⟩
  · by_cases h1 : n < 0
    · clear h hi
      go_enter Try.func16, Try.ntmps16
      go_wp2_with fail
      refine H.out.mono ?_
      rintro e w' ⟨rfl, rfl⟩
      clear H
      go_wp2_with fail
      go_ret2
      exact ⟨rfl, rfl⟩
    · have h2 : 64 * (N : Int) - at_ < n := by omega
      have t1 : wrap64 ((N : Int) * 64) = 64 * (N : Int) := by rw [IntWalk.wrap64_in _ (by omega)]; omega
      have t2 : wrap64 (64 * (N : Int) - at_) = 64 * (N : Int) - at_ := IntWalk.wrap64_in _ (by omega)
      clear h hi
      go_enter Try.func16, Try.ntmps16
      go_wp2_with fail
      refine H.out.mono ?_
      rintro e w' ⟨rfl, rfl⟩
      clear H
      go_wp2_with fail
      refine HP.out.mono ?_
      rintro e w' ⟨rfl, rfl⟩
      clear HP
      go_wp2_with fail
      go_ret2
      exact ⟨rfl, rfl⟩
theorem SlotsAt.keptA {w w' : World} {sb n z av : Nat} {S : Nat → Option Slt} {X : Nat → Prop} (h : SlotsAt w sb n z av S) (k : Kept X w w') (hb : X sb) (hz : ∀ g, z ≤ g → g ≠ av → g < w.heap.size → X g) {q : Nat} (hq : q = av ∨ w.heap.size ≤ q) : SlotsAt w' sb n z q S := by
  obtain ⟨gs, h1, h2⟩ := h
  refine ⟨gs, h1.kept k hb, fun i hi s hs => ?_⟩
  obtain ⟨h3, h4⟩ := h2 i hi s hs
  obtain ⟨g, o, e1, e2, _⟩ := h4 (by omega)
  cases e1
  exact ⟨⟨h3.1, by have := h3.2; omega⟩, h4.kept k fun a _ ha => by cases ha; exact hz _ h3.1 h3.2 e2⟩
theorem CkAt.keptA {w w' : World} {z0 z av b sb hm db dm cd N : Nat} {p : Option Addr} {c : Cch} {d : Dsk} {X : Nat → Prop} (h : CkAt w z0 z av b sb hm db dm p cd N c d) (k : Kept X w w') (hX : ∀ q, q < w.heap.size → q = b ∨ q = sb ∨ q = hm ∨ q = db ∨ q = dm ∨ q < z0 ∨ (z ≤ q ∧ q ≠ av) → X q) {q : Nat} (hq : q = av ∨ w.heap.size ≤ q) : CkAt w' z0 z q b sb hm db dm p cd N c d := by
  have h1 := h.kept k hX
  exact ⟨⟨h1.cc.blk, h1.cc.num, h.cc.slots.keptA k (hX _ h.cc.slots.lt (by simp)) (fun g g1 g1' g2 => hX g g2 (by simp [g1, g1'])) hq, h1.cc.map, h1.cc.pgs, h1.cc.uq, h1.cc.rng⟩, h1.dk, h1.nN, h1.lo, h1.hi⟩
theorem cutU_hi (b o n cap hi : Nat) (h0 : 0 < cap) (hh : hi ≤ cap) (w : World) : (Instr.sliceAt 22 (.slice (some ⟨b, o, none⟩) n cap) none (some (.int .i64 hi)) none).run Try.prog w = .ok (.slice (some ⟨b, o, none⟩) hi cap) w := by
  rw [run_sliceAt_slice _ _ _ _ _ _ Try.u8s_under, run_slice_h _ _ _ _ _ Try.u8s_under _ _ (by omega) (by omega), Try.u8s_elem]
  simp only [Result.andThen_ok, sliced, Int.toNat_natCast, Option.map, Nat.mul_one]
  rw [if_neg (by omega), add_plain]
  rfl
theorem quo64 {pl k : Nat} (h : pl ≤ 16777216) (hk : k = pl / 64) : wrap64 ((pl : Int).tdiv 64) = k ∧ (pl : Int) / 64 = k := by
  have e : (pl : Int) / 64 = k := by omega
  exact ⟨by rw [tdiv_pos _ _ (by omega), e, IntWalk.wrap64_in _ (by omega)], e⟩
theorem rem64 {pl o : Nat} (ho : o = pl % 64) : wrap64 ((pl : Int).tmod 64) = o ∧ (pl : Int) % 64 = o := by
  have e : (pl : Int) % 64 = o := by omega
  exact ⟨by rw [Int.tmod_eq_emod_of_nonneg (by omega), e, IntWalk.wrap64_in _ (by omega)], e⟩
theorem span_nums (at_ len n N : Nat) (h1 : at_ + n ≤ 64 * N) (h2 : N ≤ 65536) (h3 : len < n) : ∃ pl k o r nl m : Nat, (pl = at_ + len ∧ k = pl / 64 ∧ o = pl % 64 ∧ m = Nat.min r nl ∧ r = 64 - o ∧ nl = n - len) ∧ (k < N ∧ o < 64 ∧ 1 ≤ m ∧ len + m ≤ n ∧ m ≤ r ∧ r ≤ 64) ∧
    (pl ≤ 16777216 ∧ ((at_ : Int) + (len : Int)) / 64 = k) ∧ ((at_ : Int) + (len : Int)) % 64 = o ∧ min (r : Int) ((n : Int) - (len : Int)) = m := by
  refine ⟨at_ + len, (at_ + len) / 64, (at_ + len) % 64, 64 - (at_ + len) % 64, n - len, Nat.min (64 - (at_ + len) % 64) (n - len), ⟨rfl, rfl, rfl, rfl, rfl, rfl⟩, ?_, ⟨by omega, ?_⟩, ?_, ?_⟩
  · have h4 : (at_ + len) / 64 < N := by omega
    have h5 : (at_ + len) % 64 < 64 := Nat.mod_lt _ (by omega)
    generalize (at_ + len) % 64 = o at *
    refine ⟨h4, h5, ?_, ?_, Nat.min_le_left _ _, by omega⟩
    · exact Nat.le_min.2 ⟨by omega, by omega⟩
    · show len + min (64 - o) (n - len) ≤ n
      omega
  · have := (quo64 (pl := at_ + len) (by omega) rfl).2
    rw [← this]; rfl
  · have := (rem64 (pl := at_ + len) rfl).2
    rw [← this]; rfl
  · rw [show (n : Int) - (len : Int) = ((n - len : Nat) : Int) by omega]
    generalize 64 - (at_ + len) % 64 = r
    generalize n - len = nl
    show min (r : Int) (nl : Int) = ((min r nl : Nat) : Int)
    omega
def sLen : Value → Nat
  | .slice _ l _ => l
  | _ => 0
/-- On the way: so many bytes. -/
structure SpR (w : World) (z0 z b sb hm db dm : Nat) (p : Option Addr) (cd N at_ n : Nat) (R : Tkn) (len go cap : Nat) (wr : World) : Prop where
  ex : ∃ B cur dc f, ownX (fun q => q < w.heap.size) wr 5 (.slice (some ⟨go, 0, none⟩) len cap) len (u8L B len) ∧ n - len ≤ f ∧ spanF at_ n f cur dc len B = R ∧ CkAt wr z0 z go b sb hm db dm p cd N cur dc
  kp : Kept (butK w b sb hm db dm) w wr
set_option pp.deepTerms true in
set_option maxHeartbeats 1000000 in
theorem cSpan_any (z0 z av b sb hm db dm : Nat) (p : Option Addr) (cd N at_ n : Nat) (c : Cch) (d : Dsk) (w : World) (h : CkAt w z0 z av b sb hm db dm p cd N c d) (hn : at_ + n ≤ 64 * N) (hav : av < z) : Calls Try.prog 16 #[.pointer (some ⟨b, 0, none⟩), .int .i64 (at_ : Int), .int .i64 (n : Int)] w fun e w' =>
    SpanRes w.heap.size w' n (spanR c d at_ n).r e ∧ CkAt w' z0 z av b sb hm db dm p cd N (spanR c d at_ n).c (spanR c d at_ n).d ∧ Kept (butK w b sb hm db dm) w w' := by
  obtain ⟨_, _, _, _, c4, _, _, _, _⟩ := h.cc.cells
  have hN := h.cc.num.2.2.2.2
  have H := Lib.hid (cMade_yes b db w c4)
  have HP := Lib.hid (Pages_at db dm p cd d w h.dk)
  rw [h.nN] at HP
  have t1 : wrap64 ((N : Int) * 64) = 64 * (N : Int) := by rw [IntWalk.wrap64_in _ (by omega)]; omega
  have t2 : wrap64 (64 * (N : Int) - at_) = 64 * (N : Int) - at_ := IntWalk.wrap64_in _ (by omega)
  have hM := make_u8c n (by omega) w
  obtain ⟨R, hR⟩ : ∃ R, R = spanR c d at_ n := ⟨_, rfl⟩
  rw [← hR]
  have hrn := h.cc.rng
  have hlo := h.lo
  have hhi := h.hi
  have H0 : Hid (SpR w z0 z b sb hm db dm p cd N at_ n R 0 w.heap.size n (w.alloc (.cells (rowN n (bU fun _ => 0)) 5))) :=
    ⟨⟨fun _ => 0, c, d, n, own_madeX w n (by omega), by omega, hR.symm, (h.reav (q := w.heap.size) (.inl (Nat.le_refl _))).old (Old.alloc _ _)⟩, (Old.alloc _ _).kept fun q hq => hq.1⟩
  have HB := Lib.hid (And.intro hrn (And.intro hlo (And.intro hhi (And.intro hav (And.intro hn hN)))))
  have hd1 : ¬ (64 * (N : Int) - at_ < n) := by omega
  have hat1 : at_ ≤ 4194304 := by omega
  have hn1 : n ≤ 4194304 := by omega
  clear h hR hrn hlo hhi hav hn hN
  go_enter Try.func16, Try.ntmps16
  go_wp2_with fail
  refine H.out.mono ?_
  rintro e w' ⟨rfl, rfl⟩
  clear H
  go_wp2_with fail
  refine HP.out.mono ?_
  rintro e w' ⟨rfl, rfl⟩
  clear HP
  go_wp2_with fail
  clear t1 t2 hM hd1
  go_loopw [8] (fun s8 wr => ∃ len go cap : Nat, len ≤ n ∧ s8 = .slice (some ⟨go, 0, none⟩) len cap ∧ Hid (SpR w z0 z b sb hm db dm p cd N at_ n R len go cap wr)) (fun s8 _ => n - sLen s8)
  case atStart => exact ⟨0, w.heap.size, n, by omega, rfl, H0⟩
  case round =>
    obtain ⟨len, go, cap, hlen, rfl, HI⟩ := hrel
    clear H0
    by_cases hlt : len < n
    · obtain ⟨B, cur, dc, f, how, hf, hsp, hck⟩ := HI.out.ex
      obtain ⟨pl, k, o, r, nl, m, q1, q2, ⟨hpl2, p2'⟩, q4, q6⟩ := span_nums at_ len n N HB.out.2.2.2.2.1 HB.out.2.2.2.2.2 hlt
      have hgo : w.heap.size ≤ go := by
        have := how.2 go rfl
        omega
      have hgl : go < wr.heap.size := how.lt go rfl
      have hf1 : ∃ f', f = f' + 1 := ⟨f - 1, by clear p2' q4 q6 q1 q2; omega⟩
      obtain ⟨f', rfl⟩ := hf1
      have HT := Lib.hid (cTake_any z0 z go b sb hm db dm p cd N k cur dc wr hck q2.1 hgl)
      have HQ := Lib.hid (And.intro how (And.intro hsp (And.intro hgo (And.intro hgl hf))))
      have HN1 := Lib.hid q1
      have HN2 := Lib.hid q2
      have HN4 := Lib.hid q4
      have HN6 := Lib.hid q6
      obtain ⟨T, hT⟩ : ∃ T, T = takeR cur dc k := ⟨_, rfl⟩
      rw [← hT] at HT
      have HTe := Lib.hid hT
      clear how hsp hgo hgl hck hf hT q1 q2 q4 q6
      go_wp2_with fail
      refine HT.out.mono ?_
      intro e w2 hh
      clear HT
      obtain ⟨tr, c', d'⟩ := T
      dsimp only at hh
      obtain ⟨he, hat, hkk⟩ := hh
      cases tr with
      | none =>
        have he' : e = .returned (.tuple #[.slice none 0 0, .int .i64 8]) := he
        subst he'
        have HE : Hid (SpanRes w.heap.size w2 n R.r (.returned (.tuple #[.slice none 0 0, .int .i64 8])) ∧ CkAt w2 z0 z av b sb hm db dm p cd N R.c R.d ∧ Kept (butK w b sb hm db dm) w w2) := by
          obtain ⟨_, q2, _, _, _⟩ := HQ.out
          obtain ⟨e1, e2, _⟩ := HN1.out
          rw [← q2, spanF_lost hlt f' cur c' dc d' B (by rw [← e1, ← e2]; exact HTe.out.symm)]
          exact ⟨rfl, hat.reav (.inr HB.out.2.2.2.1), HI.out.kp.trans (hkk.mono fun q hq => ⟨Nat.lt_of_lt_of_le hq.1 HI.out.kp.size, hq.2⟩)⟩
        clear hat hkk he HI
        go_wp2_with fail
        go_ret2
        exact HE.out
      | some G =>
        obtain ⟨g, rfl, _, _, hsl⟩ := (show ∃ g, e = .returned (.tuple #[.slice (some ⟨g, 0, none⟩) 64 64, .int .i64 0]) ∧ z ≤ g ∧ g < w2.heap.size ∧ SlU w2 (some ⟨g, 0, none⟩) 64 G from he)
        clear he p2'
        have p3 := HN4.out
        have h64 := HN1.out.2.2.2.2.1
        have hS2 : ∀ W, (Instr.sliceAt 22 (.slice (some ⟨g, 0, none⟩) 64 64) (some (.int .i64 (((at_ : Int) + (len : Int)) % 64))) none none).run Try.prog W = .ok (.slice (some ⟨g, o, none⟩) r r) W := fun W => by
          rw [p3]
          have := slice_lo (P := Try.prog) (t := 22) Try.u8s_under Try.u8s_elem g 0 64 64 o HN2.out.2.1 (by omega) (o : Int) rfl W
          rw [Nat.zero_add, ← h64] at this
          exact this
        clear h64 p3
        have hmr : m ≤ r := HN2.out.2.2.2.2.1
        have hm1 : 1 ≤ m := HN2.out.2.2.1
        have hmn : len + m ≤ n := HN2.out.2.2.2.1
        have HR := Lib.hid (And.intro hmr (And.intro hm1 hmn))
        have HOwn : Hid (ownX (fun q => q < w2.heap.size ∧ q ≠ go) w2 5 (.slice (some ⟨go, 0, none⟩) len cap) len (u8L B len)) := Lib.hid (by
          have h9 := HQ.out.1.kept hkk (fun q hq => (by
            cases hq
            obtain ⟨⟨⟨_, r1⟩, ⟨_, r2⟩, ⟨_, r3⟩, _⟩, ⟨l1, l2, _⟩, hh, _⟩ := HB.out
            have h8 := HQ.out.2.2.1
            have h7 := HQ.out.2.2.2.1
            have r0 := HB.out.1.1.1
            show go < wr.heap.size ∧ go ≠ b ∧ go ≠ sb ∧ go ≠ hm ∧ go ≠ db ∧ go ≠ dm
            exact ⟨h7, by omega, by omega, by omega, by omega, by omega⟩))
          exact h9.mono fun q hq => (by cases hq; simp))
        have HSl : Hid (SlU w2 (some ⟨g, o, none⟩) m (fun j => G (o + j))) := Lib.hid fun _ => (by
          obtain ⟨g', o', e1, e2, e3⟩ := hsl (by omega)
          cases e1
          have ho64 := HN2.out
          have hr64 := HN1.out.2.2.2.2.1
          exact ⟨g, o, rfl, e2, fun j hj => by have := e3 (o + j) (by omega); rw [Nat.zero_add] at this; exact this⟩)
        obtain ⟨i0, hi0, hz0, hz1, hz2⟩ := info_parts Try.info_u8c
        have HEnd : Hid (∀ v' w3, ownX (fun q => q < w2.heap.size ∧ q ≠ go) w3 5 v' (len + m) (u8L (fun j => if j < len then B j else (fun j => G (o + j)) (j - len)) (len + m)) → Kept (fun q => q < w2.heap.size ∧ q ≠ go) w2 w3 → (∀ k, v'.ownBlock = some k → (Value.slice (some ⟨go, 0, none⟩) len cap).ownBlock = some k ∨ w2.heap.size ≤ k) →
            ∃ go' cap', v' = .slice (some ⟨go', 0, none⟩) (len + m) cap' ∧ Hid (SpR w z0 z b sb hm db dm p cd N at_ n R (len + m) go' cap' w3)) := by
          intro v' w3 h1 h2 h3
          obtain ⟨k1, k2, k3, k4, k5⟩ := HQ.out
          obtain ⟨e1, e2, e3, e4, e5, e6⟩ := HN1.out
          rcases h1.shape with ⟨_, h0⟩ | ⟨go', cap', rfl, hx, hg', _⟩
          · omega
          · have h4 : go' = go ∨ w2.heap.size ≤ go' := by
              rcases h3 go' rfl with h | h
              · left; have h' : some go = some go' := h; cases h'; rfl
              · exact .inr h
            have h5 : w.heap.size ≤ w2.heap.size := Nat.le_trans HI.out.kp.size hkk.size
            refine ⟨go', cap', rfl, ⟨⟨_, c', d', f', h1.mono fun q hq => (by have hq' : some go' = some q := hq; cases hq'; omega), by omega, ?_, ?_⟩, ?_⟩⟩
            · rw [← k2, spanF_had hlt f' cur c' dc d' B G (by rw [← e1, ← e2]; exact HTe.out.symm), ← e1, ← e3, ← e5, ← e6]
              show spanF at_ n f' c' d' (len + m) _ = spanF at_ n f' c' d' (len + Nat.min r nl) _
              rw [← e4]
            · refine hat.keptA h2 (fun q hq hq2 => ⟨hq, ?_⟩) h4
              obtain ⟨⟨⟨_, r1⟩, ⟨_, r2⟩, ⟨_, r3⟩, _⟩, ⟨l1, l2, _⟩, hh, _⟩ := HB.out
              have r0 := HB.out.1.1.1
              omega
            · exact (HI.out.kp.trans (hkk.mono fun q hq => ⟨Nat.lt_of_lt_of_le hq.1 HI.out.kp.size, hq.2⟩)).trans (h2.mono fun q hq => ⟨Nat.lt_of_lt_of_le hq.1 h5, by have := hq.1; omega⟩)
        have hcase : (m = r ∧ r ≤ n - len) ∨ (m = n - len ∧ n - len < r) := by
          have e4 := HN1.out.2.2.2.1
          have e6 := HN1.out.2.2.2.2.2
          rw [e4, e6]
          show (min r (n - len) = r ∧ _) ∨ (min r (n - len) = n - len ∧ _)
          omega
        have HI2 := HI
        clear hmr hsl hm1 hmn hat hkk HI HI2
        rcases hcase with ⟨rfl, hc⟩ | ⟨rfl, hc⟩
        · go_wp2_with (at_builtin; refine append_U _ rfl _ _ 22 rfl (fun q => q < w2.heap.size ∧ q ≠ go) 5 i0 Try.underlying22 hi0 hz0 hz1 hz2 _ len B rfl HOwn.out (some ⟨g, o, none⟩) m m (fun j => G (o + j)) rfl HSl.out (by have := HR.out; omega) (fun q hq => hq.1) ?_; intro v' w3 how3 hk3 hv3; have HE3 := Lib.hid (HEnd.out v' w3 how3 hk3 hv3); clear how3 hk3 hv3)
          obtain ⟨go', cap', rfl, HS3⟩ := HE3.out
          go_roundw
          case rel => exact ⟨len + m, go', cap', HR.out.2.2, rfl, HS3⟩
          case measure => (show n - (len + m) < n - len); have := HR.out; omega
        · go_wp2_with (at_builtin; refine append_U _ rfl _ _ 22 rfl (fun q => q < w2.heap.size ∧ q ≠ go) 5 i0 Try.underlying22 hi0 hz0 hz1 hz2 _ len B rfl HOwn.out (some ⟨g, o, none⟩) (n - len) r (fun j => G (o + j)) rfl HSl.out (by have := HR.out; omega) (fun q hq => hq.1) ?_; intro v' w3 how3 hk3 hv3; have HE3 := Lib.hid (HEnd.out v' w3 how3 hk3 hv3); clear how3 hk3 hv3)
          obtain ⟨go', cap', rfl, HS3⟩ := HE3.out
          go_roundw
          case rel => exact ⟨len + (n - len), go', cap', HR.out.2.2, rfl, HS3⟩
          case measure => (show n - (len + (n - len)) < n - len); have := HR.out; omega
    · obtain rfl : len = n := by omega
      have HE : Hid (SpanRes w.heap.size wr len R.r (.returned (.tuple #[.slice (some ⟨go, 0, none⟩) len cap, .int .i64 0])) ∧ CkAt wr z0 z av b sb hm db dm p cd N R.c R.d ∧ Kept (butK w b sb hm db dm) w wr) := by
        obtain ⟨B, cur, dc, f, how, _, hsp, hck⟩ := HI.out.ex
        rw [← hsp, spanF_end (Nat.le_refl _)]
        obtain ⟨p', c', e1, e2, e3, e4, e5⟩ := how.bytes
        simp only [Value.slice.injEq] at e1
        obtain ⟨rfl, _, rfl⟩ := e1
        exact ⟨⟨_, _, rfl, e2, e3, e4, fun a hn ha => by
          obtain ⟨g, h1, h2, _⟩ := e5 hn
          rw [h1] at ha
          cases ha
          exact Nat.not_lt.1 h2⟩, hck.reav (.inr HB.out.2.2.2.1), HI.out.kp⟩
      clear HI
      go_wp2_with fail
      go_ret2
      exact HE.out
end Go.Proofs.Ytooamkicmmgniaa
