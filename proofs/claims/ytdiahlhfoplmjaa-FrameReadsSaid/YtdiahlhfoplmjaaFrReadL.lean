/- A frame that is read: the walk of frame.Read. -/
import Derived.Test.YtdiahlhfoplmjaaFrReadA
import Derived.Test.YtdiahlhfoplmjaaFrBytesL
namespace Go.Proofs.Ytdiahlhfoplmjaa
set_option linter.unusedVariables false
open Go.RowKit Go.ChangeShapes Go.WideShapes

theorem results_row_tmp {P : Program} {fn : Func} {p u : Tmp} {ty : TypeId} (h : fn.results = #[.cell p ty, .tmp u]) (tmps : Array Value) (w : World) (g : Nat) (t : TypeId) (cs : Array Value) (fr : Nat × Nat) (d : TypeDesc)
    (hp : tmps.getD p undef = .pointer (some ⟨g, 0, none⟩)) (hg : w.heap[g]? = some (.cells cs t fr))
    (hu : P.underlying ty = some d) (hd : (match d with | .struct _ | .array _ _ => true | _ => false) = true) (hi : (P.info? ty).map (·.size) = some cs.size) :
    (results fn tmps).run P w = .ok (.tuple #[.agg cs, tmps.getD u undef]) w := by
  rw [results_cell_tmp h, hp]
  simp [asAddr, run_loadVar_row w g t ty cs fr d hg hu hd hi]

/-- What any bytes are read as. -/
def FReadR (w : World) (bs : List Int) (e : Ending) (w' : World) : Prop :=
  ∃ F n p cap T er, e = .returned (.tuple #[.agg (rowN 29 (frC F (.slice p n cap))), .int .i64 er]) ∧ Old w w' ∧ n ≤ cap ∧ cap ≤ maxLen ∧ SlF 2 w' p n T ∧ Fits64 T ∧ (er = 0 ∨ er = 2 ∨ er = 4) ∧
    (er = 0 → FrP F n T ∧ Tells bs (enc F n T)) ∧ (er ≠ 0 → n = 0 ∧ p = none ∧ ∀ k, F k = 0) ∧
    (∀ F0 n0 T0, FrP F0 n0 T0 → Tells bs (enc F0 n0 T0) → er = 0 ∧ sameP F n T F0 n0 T0)

/-- The tones that count. -/
def cutT (T : Nat → Int) (n : Nat) : Nat → Int := fun j => if j < 2 * n then T j else 0
theorem cutT_lo (T : Nat → Int) (n j : Nat) (h : j < 2 * n) : cutT T n j = T j := if_pos h
theorem enc_congr {F G : Nat → Int} {n : Nat} {T U : Nat → Int} (h : ∀ k, k < 29 → k ≠ 4 → F k = G k) (hT : ∀ j, j < 2 * n → T j = U j) : enc F n T = enc G n U :=
  encQ_congr (fun j hj => h j (by omega) (by omega)) hT (fun j hj => ⟨h _ (by omega) (by omega), h _ (by omega) (by omega)⟩) (fun j hj => h _ (by omega) (by omega)) (by omega)
theorem frP_cut {F : Nat → Int} {n : Nat} {T : Nat → Int} (h : FrP F n T) : FrP F n (cutT T n) ∧ Fits64 (cutT T n) := by
  have hT : ∀ k, k < n → 0 ≤ cutT T n (2 * k) ∧ cutT T n (2 * k) ≤ 15 ∧ fitB (cutT T n (2 * k + 1)) 24 = true ∧ (0 < k → cutT T n (2 * (k - 1)) < cutT T n (2 * k)) := fun k hk => by
    rw [cutT_lo T n _ (by omega), cutT_lo T n _ (by omega), cutT_lo T n _ (by omega)]; exact h.ht k hk
  refine ⟨⟨h.hg, h.hs, h.hw, h.hq, h.hn, hT⟩, fun j => ?_⟩
  by_cases hj : j < 2 * n
  · rcases Nat.mod_two_eq_zero_or_one j with h0 | h1
    · have := hT (j / 2) (by omega)
      rw [show 2 * (j / 2) = j by omega] at this
      omega
    · have := hT (j / 2) (by omega)
      rw [show 2 * (j / 2) + 1 = j by omega] at this
      have := (valid_fit _ 24 (by omega) (by omega) this.2.2.1).2
      omega
  · unfold cutT; rw [if_neg hj]; omega

theorem own_row {w : World} {X : Nat → Prop} {p : Option Addr} {n cap rb : Nat} {T : Nat → Int} {z : Array Value} (h : ownS X w 44 2 (.slice p n cap) n (rowL (2 * n) T)) (hres : w.heap[rb]? = some (.cells z 27 (0, 0))) (cs : Array Value) :
    n ≤ cap ∧ cap ≤ maxLen ∧ SlF 2 (w.setRow rb cs) p n T := by
  rcases h.1.2 with ⟨hv, h0⟩ | ⟨g, cap', cur, hv, _, hh, _⟩
  · injection hv with _ _ e
    subst e
    exact ⟨by omega, Nat.zero_le _, fun h => by omega⟩
  · rcases h.shape with ⟨hv2, h0⟩ | ⟨g2, cap2, hv2, _, hg, hk, hc, hcell⟩
    · rw [hv2] at hv; cases hv
    · injection hv2 with e1 _ e2
      subst e1 e2
      have hgg : g = g2 := (by simpa using hv.symm : g = g2 ∧ _).1
      subst hgg
      have hne : g ≠ rb := fun e => by
        subst e
        rw [hh] at hres
        simp only [Option.some.injEq, Obj.cells.injEq] at hres
        exact absurd hres.2.1 (by decide)
      refine ⟨hk, hc, fun _ => ⟨g, 0, rfl, by simpa using hg, fun j hj => ?_⟩⟩
      rw [Nat.zero_add]
      exact (World.cell?_of_block (a := ⟨g, j, none⟩) (setRow_other _ _ _ _ hne)).trans (hcell j _ (rowL_at _ _ _ hj))
/-- What is known at the end. -/
theorem FRead_end {w : World} {rb fb b : Nat} {z : Array Value} {bs : List Int} {F : Nat → Int} {s : Value} {n : Nat} {T : Nat → Int} {er : Int} {wr : World} (h : RS w rb fb b z bs (encQ F n T 16) F s n T ((HA F n T ∧ SA F 4) ∧ QA F 16) (fun F0 n0 T0 => (HC F n T F0 n0 T0 ∧ SC F 4 F0) ∧ QC F 16 F0) er wr) :
    Calls Try.prog 34 #[.pointer (some ⟨b, 0, none⟩)] wr fun e w1 => ∃ r, e = .returned (.int .i64 r) ∧ Kept (butOf wr b) wr w1 ∧ (r = 0 ∨ r = 2 ∨ r = 4) ∧ (r = 0 → FrP F n T ∧ Tells bs (enc F n T)) ∧
      (∀ F0 n0 T0, FrP F0 n0 T0 → Tells bs (enc F0 n0 T0) → r = 0 ∧ sameP F n T F0 n0 T0) := by
  obtain ⟨i, hr, hl, he⟩ := h.rd
  refine (End_any b bs i er wr hr).mono ?_
  rintro e w1 ⟨rfl, _, hk⟩
  refine ⟨endTo bs i er, rfl, hk, ?_, fun h0 => ?_, fun F0 n0 T0 hP hp => ?_⟩
  · unfold endTo
    split
    · split
      · exact .inl rfl
      · exact .inr (.inr rfl)
    · exact he
  · unfold endTo at h0
    by_cases h1 : er = 0
    · rw [if_pos h1] at h0
      obtain ⟨h2, h3⟩ := hl h1
      have h4 : restF bs i = true := by
        cases e : restF bs i with
        | true => rfl
        | false => rw [e] at h0; simp at h0
      obtain ⟨⟨⟨a1, a2⟩, a3⟩, a4⟩ := h.good h1
      exact ⟨⟨a1, fun k hk => (a3 k hk).1, fun k hk => (a3 k hk).2, a4, a2.1, a2.2⟩, h2, by rw [h3] at h4; exact h4⟩
    · rw [if_neg h1] at h0; exact absurd h0 h1
  · obtain ⟨h1, ⟨⟨⟨c1, rfl, c2⟩, c3⟩, c4⟩⟩ := h.back F0 n0 T0 hP hp.1
    have hs : sameP F n T F0 n T0 := ⟨rfl, c2, fun k hk k4 => by
      by_cases e1 : k < 4
      · exact c1 k e1
      by_cases e2 : k < 9
      · have := (c3 (k - 5) (by omega)).1
        rwa [show 5 + (k - 5) = k by omega] at this
      by_cases e3 : k < 13
      · have := (c3 (k - 9) (by omega)).2
        rwa [show 9 + (k - 9) = k by omega] at this
      · have := c4 (k - 13) (by omega)
        rwa [show 13 + (k - 13) = k by omega] at this⟩
    refine ⟨?_, hs⟩
    obtain ⟨h2, h3⟩ := hl h1
    have hE : enc F n T = enc F0 n T0 := enc_congr hs.2.2 hs.2.1
    have h4 := hp.2
    rw [← hE, show (enc F n T).length = i from h3.symm] at h4
    unfold endTo
    rw [if_pos h1, if_pos h4]

set_option maxRecDepth 100000 in
set_option maxHeartbeats 4000000 in
theorem FRead_any (v : Value) (bs : List Int) (w : World) (hv : SlI w .u8 v bs) (hbt : isBytes bs) (hl : bs.length ≤ 4294967296) :
    Calls Try.prog 14 #[v] w (FReadR w bs) := by
  have Hs29 : Hid ((Try.prog.info? 27).map (·.size) = some 29) := Lib.hid (by kernel_rfl)
  obtain ⟨z, hz⟩ : ∃ z : Array Value, z = #[Value.int IntKind.i64 0, Value.int IntKind.i64 0, Value.int IntKind.i64 0, Value.int IntKind.i64 0, Value.slice none 0 0, Value.int IntKind.i64 0, Value.int IntKind.i64 0, Value.int IntKind.i64 0, Value.int IntKind.i64 0, Value.int IntKind.i64 0, Value.int IntKind.i64 0, Value.int IntKind.i64 0, Value.int IntKind.i64 0, Value.int IntKind.i64 0, Value.int IntKind.i64 0, Value.int IntKind.i64 0, Value.int IntKind.i64 0, Value.int IntKind.i64 0, Value.int IntKind.i64 0, Value.int IntKind.i64 0, Value.int IntKind.i64 0, Value.int IntKind.i64 0, Value.int IntKind.i64 0, Value.int IntKind.i64 0, Value.int IntKind.i64 0, Value.int IntKind.i64 0, Value.int IntKind.i64 0, Value.int IntKind.i64 0, Value.int IntKind.i64 0] := ⟨_, rfl⟩
  have hzs : z.size = 29 := by rw [hz]; rfl
  have hzf : rowN 29 (frC (fun _ => 0) (.slice none 0 0)) = z := by rw [frC_zero, hz]
  obtain ⟨W2, hW2⟩ : ∃ W2, W2 = ((w.alloc (.cells z 27)).alloc (.cells z 27)) := ⟨_, rfl⟩
  have hO2 : Old w W2 := by rw [hW2]; exact (Old.alloc w _).alloc' _
  have hrb : W2.heap[w.heap.size]? = some (.cells z 27 (0, 0)) := by rw [hW2]; exact heap_alloc2_old w _ _
  have hfb : FrB 27 W2 (w.heap.size + 1) (fun _ => 0) (.slice none 0 0) := by unfold FrB; rw [hzf, hW2]; exact heap_alloc2_new w _ _
  have HRd := Lib.hid (Read_any v bs W2 (hv.old hO2) hbt hl)
  have hs2 : W2.heap.size = w.heap.size + 1 + 1 := by rw [hW2]; simp
  have HW2 : Hid (((w.alloc (.cells #[Value.int IntKind.i64 0, Value.int IntKind.i64 0, Value.int IntKind.i64 0, Value.int IntKind.i64 0, Value.slice none 0 0, Value.int IntKind.i64 0, Value.int IntKind.i64 0, Value.int IntKind.i64 0, Value.int IntKind.i64 0, Value.int IntKind.i64 0, Value.int IntKind.i64 0, Value.int IntKind.i64 0, Value.int IntKind.i64 0, Value.int IntKind.i64 0, Value.int IntKind.i64 0, Value.int IntKind.i64 0, Value.int IntKind.i64 0, Value.int IntKind.i64 0, Value.int IntKind.i64 0, Value.int IntKind.i64 0, Value.int IntKind.i64 0, Value.int IntKind.i64 0, Value.int IntKind.i64 0, Value.int IntKind.i64 0, Value.int IntKind.i64 0, Value.int IntKind.i64 0, Value.int IntKind.i64 0, Value.int IntKind.i64 0, Value.int IntKind.i64 0] 27)).alloc (.cells #[Value.int IntKind.i64 0, Value.int IntKind.i64 0, Value.int IntKind.i64 0, Value.int IntKind.i64 0, Value.slice none 0 0, Value.int IntKind.i64 0, Value.int IntKind.i64 0, Value.int IntKind.i64 0, Value.int IntKind.i64 0, Value.int IntKind.i64 0, Value.int IntKind.i64 0, Value.int IntKind.i64 0, Value.int IntKind.i64 0, Value.int IntKind.i64 0, Value.int IntKind.i64 0, Value.int IntKind.i64 0, Value.int IntKind.i64 0, Value.int IntKind.i64 0, Value.int IntKind.i64 0, Value.int IntKind.i64 0, Value.int IntKind.i64 0, Value.int IntKind.i64 0, Value.int IntKind.i64 0, Value.int IntKind.i64 0, Value.int IntKind.i64 0, Value.int IntKind.i64 0, Value.int IntKind.i64 0, Value.int IntKind.i64 0, Value.int IntKind.i64 0] 27)) = W2) := Lib.hid (by rw [hW2, hz])
  have Hz := Lib.hid hz
  have HO2 := Lib.hid hO2
  have Hrb := Lib.hid hrb
  have Hfb := Lib.hid hfb
  have Hs2 := Lib.hid hs2
  have Hzs := Lib.hid hzs
  have Hzf := Lib.hid hzf
  clear hz hzf hW2 hO2 hrb hfb hs2 hzs hv hbt hl
  go_enter Try.func14, Try.ntmps14
  go_wp2_with fail
  rw [HW2.out]
  refine HRd.out.mono ?_
  rintro e w3 ⟨b, rfl, hr, ho, hb⟩
  have hst : RS w w.heap.size (w.heap.size + 1) b z bs [] (fun _ => 0) (.slice none 0 0) 0 (fun _ => 0) True (fun _ _ _ => True) 0 w3 := {
    rd := ⟨0, hr, fun _ => ⟨List.nil_prefix, rfl⟩, .inl rfl⟩
    fr := Hfb.out.old ho
    res := (ho.block _ (lt_of_block Hrb.out)).trans Hrb.out
    own := ownS.nil _ _ _ _
    old := HO2.out.trans ho
    nrb := Nat.le_refl _
    nfb := Nat.le_succ _
    nb := by have := Hs2.out; omega
    ne := by omega
    wb := fun j hj => ⟨Int.le_refl _, by omega⟩
    good := fun _ => trivial
    back := fun _ _ _ _ _ => ⟨rfl, trivial⟩ }
  have HW := Lib.hid (with2 hst.rd 1 1 (by omega) (by omega))
  have HST := Lib.hid hst
  clear hr ho hb hst HRd HW2 Hrb Hfb HO2 Hs2
  generalize hfbn : w.heap.size + 1 = fb at *
  generalize hrbn : w.heap.size = rb at HST ⊢
  clear hfbn hrbn
  go_wp2_with fail
  refine HW.out.mono ?_
  rintro e w4 ⟨x, er, rfl, k4, r4, e4, b4, c4⟩
  have hst : RS w rb fb b z bs (encG (fun _ => 0) 0) (fun _ => 0) (.slice none 0 0) 0 (fun _ => 0) (GA (fun _ => 0) 0) (fun F0 _ _ => GC (fun _ => 0) 0 F0) er w4 := by
    by_cases hx : x = 1
    · subst hx
      refine HST.out.mv k4 (r4.congr (by rw [encG_zero]; rfl)) (fun h0 => ⟨rfl, fun _ j hj => by omega⟩) (fun F0 n0 T0 hP hp _ _ => ⟨?_, fun j hj => by omega⟩)
      have hp2 := (encG_pre F0 n0 T0 (k := 0) (by omega)).trans hp
      rw [encG_zero] at hp2
      exact (c4 1 rfl (by omega) (by omega) (by omega) hp2).1
    · have hne : er ≠ 0 := fun h0 => by have := (e4 h0).2; omega
      obtain ⟨i, q1, q2, q3⟩ := r4
      refine HST.out.mv k4 ⟨i, q1, fun h0 => absurd h0 hne, q3⟩ (fun h0 => absurd h0 hne) (fun F0 n0 T0 hP hp _ _ => ?_)
      have hp2 := (encG_pre F0 n0 T0 (k := 0) (by omega)).trans hp
      rw [encG_zero] at hp2
      exact absurd (c4 1 rfl (by omega) (by omega) (by omega) hp2).1 hne
  clear HST k4 r4 e4 b4 c4 HW
  have HST := Lib.hid hst
  clear hst
  go_wp2_with fail
  go_loopw [14] (fun i wr => ∃ k : Nat, k ≤ 4 ∧ i = .int .i64 k ∧ Hid (∃ F er, RS w rb fb b z bs (encG F k) F (.slice none 0 0) 0 (fun _ => 0) (GA F k) (fun F0 _ _ => GC F k F0) er wr)) (fun i _ => 4 - (intOf i).toNat)
  case atStart => exact ⟨0, by omega, rfl, ⟨_, _, HST.out⟩⟩
  case round =>
    obtain ⟨k, hk, rfl, hs⟩ := hrel
    obtain ⟨wo, rfl⟩ : ∃ V, V = wr := ⟨_, rfl⟩
    clear HST
    by_cases hlt : k < 4
    · have i1 : (0 : Int) ≤ k := by omega
      have i2 : (k : Int) < 4 := by omega
      obtain ⟨F, er, h⟩ := hs.out
      have HW := Lib.hid (with2 h.rd 0 3 (by omega) (by omega))
      have HH := Lib.hid h
      clear hs h
      go_wp2_with fail
      refine HW.out.mono ?_
      rintro e w5 ⟨x, er1, rfl, k5, r5, e5, b5, c5⟩
      have hn := HH.out.gain hlt k5 r5 e5 c5
      have hf5 : FrB 27 w5 fb F (.slice none 0 0) := HH.out.fr.kept k5 ⟨lt_of_block HH.out.fr, HH.out.fne⟩
      have HN := Lib.hid hn
      obtain ⟨d0, d1⟩ := hf5.cell k (by omega) (by omega)
      clear k5 r5 e5 b5 c5 hn hf5 HW HH
      go_wp2_with fail
      go_roundw
      case rel => exact ⟨k + 1, by omega, by go_num, ⟨_, _, HN.out⟩⟩
      case measure => simp [intOf]; omega
    · obtain rfl : k = 4 := by omega
      obtain ⟨F, er, h⟩ := hs.out
      have HW := Lib.hid (readTones_any h.rd)
      have HH := Lib.hid h
      clear hs h hlt hk
      go_wp2_with fail
      refine HW.out.mono ?_
      rintro e w5 ⟨n, p, cap, T, er1, rfl, n2, hrt⟩
      have hn := HH.out.tones n2 hrt
      have hf5 : FrB 27 w5 fb F (.slice none 0 0) := HH.out.fr.kept hrt.kept ⟨lt_of_block HH.out.fr, HH.out.fne⟩
      have HN : Hid (RS w rb fb b z bs (encS F n T 0) F (.slice p n cap) n T (HA F n T ∧ SA F 0) (fun F0 n0 T0 => HC F n T F0 n0 T0 ∧ SC F 0 F0) er1 (w5.setCell ⟨fb, 4, none⟩ (.slice p n cap))) := Lib.hid { hn with
        good := fun h0 => ⟨hn.good h0, fun j hj => by omega⟩
        back := fun F0 n0 T0 hP hp => ⟨(hn.back F0 n0 T0 hP hp).1, (hn.back F0 n0 T0 hP hp).2, fun j hj => by omega⟩ }
      obtain ⟨d0, d1⟩ := hf5.cell4
      clear hrt hn hf5 HW HH
      go_wp2_with fail
      try rw [show ((4 : Nat) : Int) = 4 from rfl]
      go_loopw [26] (fun i wr => ∃ k : Nat, k ≤ 4 ∧ i = .int .i64 k ∧ Hid (∃ F er, RS w rb fb b z bs (encS F n T k) F (.slice p n cap) n T (HA F n T ∧ SA F k) (fun F0 n0 T0 => HC F n T F0 n0 T0 ∧ SC F k F0) er wr)) (fun i _ => 4 - (intOf i).toNat)
      case atStart => exact ⟨0, by omega, rfl, ⟨_, _, HN.out⟩⟩
      case round =>
        obtain ⟨k, hk, rfl, hs⟩ := hrel
        obtain ⟨wo, rfl⟩ : ∃ V, V = wr := ⟨_, rfl⟩
        clear HN
        by_cases hlt : k < 4
        · have i1 : (0 : Int) ≤ k := by omega
          have i2 : (k : Int) < 4 := by omega
          obtain ⟨F, er, h⟩ := hs.out
          have HW := Lib.hid (with5 h.rd 0 23 (by omega) (by omega))
          have HH := Lib.hid h
          clear hs h d0 d1
          go_wp2_with fail
          refine HW.out.mono ?_
          rintro e w6 ⟨x, er1, rfl, k6, r6, e6, b6, c6⟩
          have hn := HH.out.scale hlt k6 r6 e6 c6
          have hf6 : FrB 27 w6 fb F (.slice p n cap) := HH.out.fr.kept k6 ⟨lt_of_block HH.out.fr, HH.out.fne⟩
          have HW2 := Lib.hid (with5 hn.rd 0 24 (by omega) (by omega))
          have HN := Lib.hid hn
          obtain ⟨d0, d1⟩ := hf6.cell (5 + k) (by omega) (by omega)
          clear k6 r6 e6 b6 c6 hn hf6 HW HH
          go_wp2_with fail
          refine HW2.out.mono ?_
          rintro e w7 ⟨y, er2, rfl, k7, r7, e7, b7, c7⟩
          have hn2 := HN.out.width (up_at F (5 + k) x) hlt k7 r7 e7 b7 c7
          have hf7 := HN.out.fr.kept k7 ⟨lt_of_block HN.out.fr, HN.out.fne⟩
          have HN2 := Lib.hid hn2
          obtain ⟨d2, d3⟩ := hf7.cell (9 + k) (by omega) (by omega)
          clear k7 r7 e7 b7 c7 hn2 hf7 HW2 HN d0 d1
          go_wp2_with fail
          go_roundw
          case rel => exact ⟨k + 1, by omega, by go_num, ⟨_, _, HN2.out⟩⟩
          case measure => simp [intOf]; omega
        · obtain rfl : k = 4 := by omega
          obtain ⟨F, er, h⟩ := hs.out
          have HN : Hid (RS w rb fb b z bs (encQ F n T 0) F (.slice p n cap) n T ((HA F n T ∧ SA F 4) ∧ QA F 0) (fun F0 n0 T0 => (HC F n T F0 n0 T0 ∧ SC F 4 F0) ∧ QC F 0 F0) er wo) := Lib.hid { h with
            rd := h.rd.congr (by rw [encQ_zero])
            good := fun h0 => ⟨h.good h0, fun j hj => by omega⟩
            back := fun F0 n0 T0 hP hp => ⟨(h.back F0 n0 T0 hP hp).1, (h.back F0 n0 T0 hP hp).2, fun j hj => by omega⟩ }
          clear hs h hlt hk d0 d1
          go_wp2_with fail
          try rw [show ((4 : Nat) : Int) = 4 from rfl]
          go_loopw [40] (fun i wr => ∃ k : Nat, k ≤ 16 ∧ i = .int .i64 k ∧ Hid (∃ F er, RS w rb fb b z bs (encQ F n T k) F (.slice p n cap) n T ((HA F n T ∧ SA F 4) ∧ QA F k) (fun F0 n0 T0 => (HC F n T F0 n0 T0 ∧ SC F 4 F0) ∧ QC F k F0) er wr)) (fun i _ => 16 - (intOf i).toNat)
          case atStart => exact ⟨0, by omega, rfl, ⟨_, _, HN.out⟩⟩
          case round =>
            obtain ⟨k, hk, rfl, hs⟩ := hrel
            obtain ⟨wp, rfl⟩ : ∃ V, V = wr := ⟨_, rfl⟩
            clear HN
            by_cases hlt : k < 16
            · have i1 : (0 : Int) ≤ k := by omega
              have i2 : (k : Int) < 16 := by omega
              obtain ⟨F, er, h⟩ := hs.out
              obtain ⟨m, hm⟩ : ∃ m, k / 4 = m := ⟨_, rfl⟩
              have m0 : (0 : Int) ≤ m := by omega
              have m1 : (m : Int) < 4 := by omega
              have HBd := Lib.hid (fun w => Band_nat k m w hlt hm)
              obtain ⟨kk, hkk⟩ : ∃ kk : Nat, F (9 + m) = kk := ⟨(F (9 + m)).toNat, by have := (h.wb m (by omega)).1; omega⟩
              have hkk57 : kk ≤ 57 := by have := (h.wb m (by omega)).2; omega
              have hc := (h.fr.cell (9 + m) (by omega) (by omega)).1
              rw [hkk] at hc
              have HSg := Lib.hid (sgn_step h.rd kk hkk57)
              have HN : Hid (∀ w1 v er1, Kept (butOf wp b) wp w1 → RdP w1 b bs er1 (encQ F n T k ++ bitsI v kk) → (er1 = 0 → er = 0) → fitB v kk = true → (∀ v0, er = 0 → validI true v0 kk = true → (encQ F n T k ++ bitsI v0 kk) <+: bitsOf bs → er1 = 0 ∧ v = v0) → (∃ F er, RS w rb fb b z bs (encQ F n T (k + 1)) F (.slice p n cap) n T ((HA F n T ∧ SA F 4) ∧ QA F (k + 1)) (fun F0 n0 T0 => (HC F n T F0 n0 T0 ∧ SC F 4 F0) ∧ QC F (k + 1) F0) er (w1.setCell ⟨fb, 13 + k, none⟩ (.int .i64 v))) ∧ w1.cell? ⟨fb, 13 + k, none⟩ = some (.int .i64 (F (13 + k))) ∧ w1.frozen? ⟨fb, 13 + k, none⟩ = false) := Lib.hid fun w1 v er1 q1 q2 q3 q4 q5 =>
                ⟨⟨_, _, h.step hlt hm hkk q1 q2 q3 q4 q5⟩, (h.fr.kept q1 ⟨lt_of_block h.fr, h.fne⟩).cell (13 + k) (by omega) (by omega)⟩
              clear hs h hm hkk
              go_wp2_with fail
              refine (HBd.out _).mono ?_
              rintro e w5 ⟨rfl, rfl⟩
              go_wp2_with fail
              refine HSg.out.mono ?_
              rintro e w6 ⟨x, er1, rfl, k6, r6, e6, f6, c6⟩
              obtain ⟨hn, d0, d1⟩ := HN.out w6 x er1 k6 r6 e6 f6 c6
              have HN2 := Lib.hid hn
              clear k6 r6 e6 f6 c6 hn HN HSg HBd hc
              go_wp2_with fail
              go_roundw
              case rel => exact ⟨k + 1, by omega, by go_num, ⟨HN2.out.choose, HN2.out.choose_spec.choose, HN2.out.choose_spec.choose_spec⟩⟩
              case measure => simp [intOf]; omega
            · obtain rfl : k = 16 := by omega
              obtain ⟨F, er, h⟩ := hs.out
              have HE := Lib.hid (FRead_end h)
              have HH := Lib.hid h
              clear hs h hlt hk
              go_wp2_with fail
              refine HE.out.mono ?_
              rintro e w7 ⟨r, rfl, k7, r7, g7, c7⟩
              have hres := (k7.block rb ⟨lt_of_block HH.out.res, HH.out.rne⟩).trans HH.out.res
              have hfr := (HH.out.fr.kept k7 ⟨lt_of_block HH.out.fr, HH.out.fne⟩).blk
              have hold : Old w w7 := Kept.trans HH.out.old (k7.mono fun q hq => ⟨Nat.lt_of_lt_of_le hq HH.out.old.size, fun e => by have := HH.out.nb; omega⟩)
              have hown := HH.out.own.kept k7 fun q hq => ⟨HH.out.own.lt q hq, (HH.out.own_ne q hq).1⟩
              have Hres := Lib.hid hres
              have Hfr := Lib.hid hfr
              have Hold := Lib.hid hold
              have Hown := Lib.hid hown
              have Hnrb := Lib.hid HH.out.nrb
              have G7 := Lib.hid g7
              have C7 := Lib.hid c7
              have R7 := Lib.hid r7
              clear k7 r7 g7 c7 hres hfr hold hown HE HH
              by_cases hr : r = 0
              · subst hr
                have H1 : Hid ((rowN 29 (frC F (.slice p n cap))).all (·.oneCell') = true) := Lib.hid (frC_one _ _ rfl)
                go_wp2_with (first | (with_reducible refine wpList_load_row rfl 27 _ rfl fb rfl 27 (rowN 29 (frC F (.slice p n cap))) (0, 0) _ Hfr.out Try.underlying27 rfl (by rw [rowN_size]; exact Hs29.out) ?_) | (with_reducible refine wpList_store_row rfl 27 _ _ rfl rb (rowN 29 (frC F (.slice p n cap))) rfl rfl 27 _ Hres.out (by rw [rowN_size]; exact Hs29.out) (by rw [rowN_size]; exact Hzs.out) H1.out ?_))
                have hrr := row_ret Hres.out Hold.out Hnrb.out (rowN 29 (frC F (.slice p n cap)))
                refine bodyPost_ret (results_row_tmp rfl _ _ rb 27 (rowN 29 (frC F (.slice p n cap))) (0, 0) _ rfl hrr.1 Try.underlying27 rfl (by rw [rowN_size]; exact Hs29.out)) rfl ?_
                obtain ⟨hb1, hb2, hb3⟩ := own_row Hown.out Hres.out (rowN 29 (frC F (.slice p n cap)))
                obtain ⟨g1, g2⟩ := (show FrP F n T ∧ Tells bs (enc F n T) from by first | exact G7.out rfl | exact G7.out trivial)
                obtain ⟨f1, f2⟩ := frP_cut g1
                refine ⟨F, n, p, cap, cutT T n, 0, rfl, hrr.2, hb1, hb2, hb3.ext (fun j hj => (cutT_lo T n j hj).symm), f2, .inl rfl, fun _ => ⟨f1, ?_⟩, fun h => absurd rfl h, fun F0 n0 T0 hP hp => ?_⟩
                · rw [enc_congr (F := F) (G := F) (fun _ _ _ => rfl) (fun j hj => cutT_lo T n j hj)]
                  exact g2
                · obtain ⟨a1, a2, a3, a4⟩ := C7.out F0 n0 T0 hP hp
                  exact ⟨rfl, a2, fun j hj => by rw [cutT_lo T n j hj]; exact a3 j hj, a4⟩
              · have hne : (r != 0) = true := by simpa using hr
                have H1 : Hid (z.all (·.oneCell') = true) := Lib.hid (by rw [← Hzf.out]; exact frC_one _ _ rfl)
                have Hi : Hid ((Try.prog.info? 27).map (·.size) = some z.size) := Lib.hid (by rw [Hzs.out]; exact Hs29.out)
                have HR := Lib.hid hr
                clear hr
                go_wp2_with (rw [← Hz.out]; with_reducible refine wpList_store_row rfl 27 _ _ rfl rb z rfl rfl 27 _ Hres.out Hi.out rfl H1.out ?_)
                have hrr := row_ret Hres.out Hold.out Hnrb.out z
                refine bodyPost_ret (results_row_tmp rfl _ _ rb 27 z (0, 0) _ rfl hrr.1 Try.underlying27 rfl Hi.out) rfl ?_
                refine ⟨fun _ => 0, 0, none, 0, fun _ => 0, r, by rw [Hzf.out]; rfl, hrr.2, Nat.le_refl _, Nat.zero_le _, fun h => absurd h (by omega), fun _ => by dsimp only; omega, R7.out, fun h => absurd h HR.out, fun _ => ⟨rfl, rfl, fun _ => rfl⟩, fun F0 n0 T0 hP hp => absurd (C7.out F0 n0 T0 hP hp).1 HR.out⟩
end Go.Proofs.Ytdiahlhfoplmjaa
