/- The law's plain cache, fourth part: span. -/
import Derived.Test.YtooamkicmmgniaaPlnC
namespace Go.Proofs.Ytooamkicmmgniaa
set_option linter.unusedVariables false
set_option maxRecDepth 100000
open Go.RowKit Go.ChangeShapes Go.WideShapes

theorem lawSpan_out (z0 z av q gp gm gd db dm : Nat) (p : Option Addr) (cd N : Nat) (at_ n : Int) (c : Cch) (d : Dsk) (w : World) (h : PnAt w z0 z av q gp gm gd db dm p cd N c d) (hi : at_ < 0 ∨ n < 0 ∨ 64 * (N : Int) - at_ < n) : Calls Try.prog 23 #[.pointer (some ⟨q, 0, none⟩), .int .i64 at_, .int .i64 n] w fun e w' =>
    e = .returned (.tuple #[.slice none 0 0, .int .i64 5]) ∧ w = w' := by
  obtain ⟨c0, _⟩ := h.cells
  have hN := h.num.2.2.2.2
  have HP := Lib.hid (Pages_at db dm p cd d w h.dk)
  rw [h.nN] at HP
  by_cases h0 : at_ < 0
  · clear h hi
    go_enter Try.func23, Try.ntmps23
    go_wp2_with fail
    refine HP.out.mono ?_
    rintro e w' ⟨rfl, rfl⟩
    clear HP
    go_wp2_with fail
    go_ret2
    exact ⟨rfl, rfl⟩
  by_cases h1 : n < 0
  · clear h hi
    go_enter Try.func23, Try.ntmps23
    go_wp2_with fail
    refine HP.out.mono ?_
    rintro e w' ⟨rfl, rfl⟩
    clear HP
    go_wp2_with fail
    go_ret2
    exact ⟨rfl, rfl⟩
  by_cases h2 : 64 * (N : Int) < at_
  · clear h hi
    go_enter Try.func23, Try.ntmps23
    go_wp2_with fail
    refine HP.out.mono ?_
    rintro e w' ⟨rfl, rfl⟩
    clear HP
    go_wp2_with fail
    go_ret2
    exact ⟨rfl, rfl⟩
  have h3 : 64 * (N : Int) - at_ < n := by omega
  clear h hi
  go_enter Try.func23, Try.ntmps23
  go_wp2_with fail
  refine HP.out.mono ?_
  rintro e w' ⟨rfl, rfl⟩
  clear HP
  go_wp2_with fail
  go_ret2
  exact ⟨rfl, rfl⟩
/-- A value's own block is avoided. -/
def avV (v : Value) (av : Nat) : Prop := ∀ b, v.ownBlock = some b → b = av
/-- On the way: so many bytes. -/
structure PsR (w : World) (z0 z q gp gm gd db dm : Nat) (p : Option Addr) (cd N at_ n : Nat) (R : Tkn) (len : Nat) (v : Value) (wr : World) : Prop where
  ex : ∃ B cur dc f av, ownX (fun x => x < w.heap.size) wr 5 v len (u8L B len) ∧ avV v av ∧ av < wr.heap.size ∧ n - len ≤ f ∧ spanF at_ n f cur dc len B = R ∧ PnAt wr z0 z av q gp gm gd db dm p cd N cur dc
  kp : Kept (butP w q gp gm gd db dm) w wr
/-- Within a page: so many of its bytes. -/
structure PsI (w : World) (z0 z q gp gm gd db dm : Nat) (p : Option Addr) (cd N len o g : Nat) (B G : Nat → Int) (cur : Cch) (dc : Dsk) (t : Nat) (v : Value) (wr : World) : Prop where
  ex : ∃ av, ownX (fun x => x < w.heap.size) wr 5 v (len + t) (u8L (fun j => if j < len then B j else G (o + (j - len))) (len + t)) ∧ avV v av ∧ av < wr.heap.size ∧ g ≠ av ∧ PnAt wr z0 z av q gp gm gd db dm p cd N cur dc
  sl : SlU wr (some ⟨g, 0, none⟩) 64 G
  kp : Kept (butP w q gp gm gd db dm) w wr
/-- One byte more. -/
theorem PsI.next {w wr W w3 : World} {z0 z q gp gm gd db dm : Nat} {p : Option Addr} {cd N len o g : Nat} {B G : Nat → Int} {cur : Cch} {dc : Dsk} {t : Nat} {v v' : Value} (h : PsI w z0 z q gp gm gd db dm p cd N len o g B G cur dc t v wr) (hz : z ≤ w.heap.size) (ho : Old wr W)
    (h1 : ownX (fun x => x < W.heap.size ∧ v.ownBlock ≠ some x) w3 5 v' (len + t + 1) (u8L (fun j => if j < len + t then (fun j => if j < len then B j else G (o + (j - len))) j else G (o + t)) (len + t + 1)))
    (h2 : Kept (fun x => x < W.heap.size ∧ v.ownBlock ≠ some x) W w3) (h3 : ∀ k, v'.ownBlock = some k → v.ownBlock = some k ∨ W.heap.size ≤ k) : PsI w z0 z q gp gm gd db dm p cd N len o g B G cur dc (t + 1) v' w3 := by
  obtain ⟨av, e1, e2, e3, e4, e5⟩ := h.ex
  have hw : w.heap.size ≤ wr.heap.size := h.kp.size
  have hoW := ho.size
  have hown : ∀ b, v.ownBlock = some b → ¬ b < w.heap.size := fun b hb => e1.2 b hb
  have hr := e5.rng
  have hl := e5.lo
  have hP := e5.old ho
  have hS := h.sl.old ho
  obtain ⟨g', o', q1, q2, _⟩ := hS (by omega)
  cases q1
  have hgv : v.ownBlock ≠ some g := fun e => e4 (e2 g e)
  -- the block that is avoided now
  have hav : ∃ av', avV v' av' ∧ av' < w3.heap.size ∧ g ≠ av' ∧ (av' = av ∨ W.heap.size ≤ av') := by
    cases hb : v'.ownBlock with
    | none => exact ⟨av, fun b hb' => (by rw [hb] at hb'; cases hb'), by have := h2.size; omega, e4, .inl rfl⟩
    | some b =>
      have hlt := h1.lt b hb
      rcases h3 b hb with h4 | h4
      · have := e2 b h4
        subst this
        exact ⟨b, fun b' hb' => (by rw [hb] at hb'; cases hb'; rfl), hlt, e4, .inl rfl⟩
      · exact ⟨b, fun b' hb' => (by rw [hb] at hb'; cases hb'; rfl), hlt, by omega, .inr h4⟩
  obtain ⟨av', a1, a2, a3, a4⟩ := hav
  refine ⟨⟨av', ?_, a1, a2, a3, hP.keptA h2 (fun x hx hx2 => ⟨hx, fun e => ?_⟩) a4⟩, hS.kept h2 fun a _ ha => ?_, (h.kp.trans (ho.kept fun x hx => Nat.lt_of_lt_of_le hx.1 hw)).trans (h2.mono fun x hx => ⟨Nat.lt_of_lt_of_le hx.1 (Nat.le_trans hw hoW), fun e => hown x e hx.1⟩)⟩
  · have h5 := h1.mono (Y := fun x => x < w.heap.size) fun b hb hlt => by
      rcases h3 b hb with h6 | h6
      · exact hown b h6 hlt
      · omega
    have e : u8L (fun j => if j < len + t then (fun j => if j < len then B j else G (o + (j - len))) j else G (o + t)) (len + t + 1) = u8L (fun j => if j < len then B j else G (o + (j - len))) (len + (t + 1)) := u8L_ext fun j hj => by
      by_cases c1 : j < len + t
      · rw [if_pos c1]
      · rw [if_neg c1, if_neg (by omega), show j - len = t by omega]
    rw [e] at h5
    exact h5
  · have := e2 x e
    have := hown x e
    omega
  · cases ha
    exact ⟨q2, hgv⟩
set_option maxHeartbeats 2000000 in
theorem lawSpan_any (z0 z av q gp gm gd db dm : Nat) (p : Option Addr) (cd N at_ n : Nat) (c : Cch) (d : Dsk) (w : World) (h : PnAt w z0 z av q gp gm gd db dm p cd N c d) (hn : at_ + n ≤ 64 * N) (hav : av < z) : Calls Try.prog 23 #[.pointer (some ⟨q, 0, none⟩), .int .i64 (at_ : Int), .int .i64 (n : Int)] w fun e w' =>
    SpanRes w.heap.size w' n (spanR c d at_ n).r e ∧ PnAt w' z0 z av q gp gm gd db dm p cd N (spanR c d at_ n).c (spanR c d at_ n).d ∧ Kept (butP w q gp gm gd db dm) w w' := by
  obtain ⟨c0, _⟩ := h.cells
  have hN := h.num.2.2.2.2
  have HP := Lib.hid (Pages_at db dm p cd d w h.dk)
  rw [h.nN] at HP
  have t1 : wrap64 (64 * (N : Int)) = 64 * (N : Int) := IntWalk.wrap64_in _ (by omega)
  have t2 : wrap64 (64 * (N : Int) - at_) = 64 * (N : Int) - at_ := IntWalk.wrap64_in _ (by omega)
  obtain ⟨R, hR⟩ : ∃ R, R = spanR c d at_ n := ⟨_, rfl⟩
  rw [← hR]
  have hhi := h.hi
  have H0 : Hid (PsR w z0 z q gp gm gd db dm p cd N at_ n R 0 (.slice none 0 0) w) :=
    Lib.hid ⟨⟨fun _ => 0, c, d, n, av, ownX.nil _ _ _, fun b hb => (by cases hb), by omega, by omega, hR.symm, h⟩, Kept.refl _ _⟩
  have HB := Lib.hid (And.intro hhi (And.intro hav (And.intro hn hN)))
  have hd0 : ¬ (64 * (N : Int) < at_) := by omega
  have hd1 : ¬ (64 * (N : Int) - at_ < n) := by omega
  have hat1 : at_ ≤ 4194304 := by omega
  have hn1 : n ≤ 4194304 := by omega
  clear h hR hhi hav hn hN
  go_enter Try.func23, Try.ntmps23
  go_wp2_with fail
  refine HP.out.mono ?_
  rintro e w' ⟨rfl, rfl⟩
  clear HP
  go_wp2_with fail
  clear t1 t2 hd0 hd1 c0
  go_loopw [9] (fun s9 wr => ∃ (len cap : Nat) (pv : Option Addr), len ≤ n ∧ s9 = .slice pv len cap ∧ Hid (PsR w z0 z q gp gm gd db dm p cd N at_ n R len (.slice pv len cap) wr)) (fun s9 _ => n - sLen s9)
  case atStart => exact ⟨0, 0, none, by omega, rfl, H0⟩
  case round =>
    obtain ⟨len, cap, pv, hlen, rfl, HI⟩ := hrel
    clear H0
    by_cases hlt : len < n
    · obtain ⟨B, cur, dc, f, av', how, hvv, hal, hf, hsp, hck⟩ := HI.out.ex
      obtain ⟨pl, k, o, r, nl, m, q1, q2, ⟨hpl2, p2'⟩, q4, q6⟩ := span_nums at_ len n N HB.out.2.2.1 HB.out.2.2.2 hlt
      have hf1 : ∃ f', f = f' + 1 := ⟨f - 1, by clear p2' q4 q6 q1 q2; omega⟩
      obtain ⟨f', rfl⟩ := hf1
      have HT := Lib.hid (lawTake_any z0 z av' q gp gm gd db dm p cd N k cur dc wr hck q2.1 hal)
      have HQ := Lib.hid (And.intro how (And.intro hvv (And.intro hsp hf)))
      have HN1 := Lib.hid q1
      have HN2 := Lib.hid q2
      have HN4 := Lib.hid q4
      obtain ⟨T, hT⟩ : ∃ T, T = takeR cur dc k := ⟨_, rfl⟩
      rw [← hT] at HT
      have HTe := Lib.hid hT
      have HAl := Lib.hid hal
      clear how hvv hsp hal hck hf hT q1 q2 q4 q6
      go_wp2_with fail
      refine HT.out.mono ?_
      intro e w2 hh
      clear HT
      obtain ⟨tr, c', d'⟩ := T
      dsimp only at hh
      obtain ⟨he, hat, hkk⟩ := hh
      cases tr with
      | none =>
        have he' : e = .returned (.tuple #[.slice none 0 0, .int .i64 8]) := he
        subst he'
        have HE : Hid (SpanRes w.heap.size w2 n R.r (.returned (.tuple #[.slice none 0 0, .int .i64 8])) ∧ PnAt w2 z0 z av q gp gm gd db dm p cd N R.c R.d ∧ Kept (butP w q gp gm gd db dm) w w2) := by
          obtain ⟨_, _, q3, _⟩ := HQ.out
          obtain ⟨e1, e2, _⟩ := HN1.out
          rw [← q3, spanF_lost hlt f' cur c' dc d' B (by rw [← e1, ← e2]; exact HTe.out.symm)]
          exact ⟨rfl, hat.reav (.inr HB.out.2.1), HI.out.kp.trans (hkk.mono fun x hx => ⟨Nat.lt_of_lt_of_le hx.1 HI.out.kp.size, hx.2⟩)⟩
        clear hat hkk he HI
        go_wp2_with fail
        go_ret2
        exact HE.out
      | some G =>
        obtain ⟨g, rfl, hgz, hgl, hsl⟩ := (show ∃ g, e = .returned (.tuple #[.slice (some ⟨g, 0, none⟩) 64 64, .int .i64 0]) ∧ (z ≤ g ∧ g ≠ av') ∧ g < w2.heap.size ∧ SlU w2 (some ⟨g, 0, none⟩) 64 G from he)
        have hwr := HI.out.kp.size
        have hp0 : ownX (fun x => x < w.heap.size) w2 5 (.slice pv len cap) len (u8L B len) := HQ.out.1.kept hkk fun b hb => (by
          have h6 := HQ.out.1.2 b hb
          have h7 := HQ.out.1.lt b hb
          have hrr := hat.rng
          have hll := hat.lo
          have hzz := HB.out.1
          exact ⟨h7, by omega, by omega, by omega, by omega, by omega, by omega⟩)
        have HS0 : Hid (PsI w z0 z q gp gm gd db dm p cd N len o g B G c' d' 0 (.slice pv len cap) w2) := by
          refine ⟨⟨av', ?_, HQ.out.2.1, Nat.lt_of_lt_of_le HAl.out hkk.size, hgz.2, hat⟩, hsl, HI.out.kp.trans (hkk.mono fun x hx => ⟨Nat.lt_of_lt_of_le hx.1 hwr, hx.2⟩)⟩
          rw [Nat.add_zero, u8L_ext (G := B) fun j hj => if_pos hj]
          exact hp0
        have HSt : Hid (∀ av2 w3 B3, n - (len + m) ≤ f' → ownX (fun x => x < w.heap.size) w3 5 B3 (len + m) (u8L (fun j => if j < len then B j else G (o + (j - len))) (len + m)) → avV B3 av2 → av2 < w3.heap.size → PnAt w3 z0 z av2 q gp gm gd db dm p cd N c' d' → Kept (butP w q gp gm gd db dm) w w3 → PsR w z0 z q gp gm gd db dm p cd N at_ n R (len + m) B3 w3) := Lib.hid fun av2 w3 B3 h0 h1 h2 h3 h4 h5 => by
          refine ⟨⟨_, c', d', f', av2, h1, h2, h3, h0, ?_, h4⟩, h5⟩
          obtain ⟨_, _, q3, _⟩ := HQ.out
          obtain ⟨e1, e2, e3, e4, e5, e6⟩ := HN1.out
          rw [← q3, spanF_had hlt f' cur c' dc d' B G (by rw [← e1, ← e2]; exact HTe.out.symm), ← e1, ← e3, ← e5, ← e6]
          show spanF at_ n f' c' d' (len + m) _ = spanF at_ n f' c' d' (len + Nat.min r nl) _
          rw [← e4]
        have hf3 : n - (len + m) ≤ f' := by
          have h7 := HQ.out.2.2.2
          have h8 := HN2.out.2.2.1
          omega
        have HF3 := Lib.hid hf3
        have hm64 : o + m ≤ 64 := by
          have h7 := HN2.out.2.2.2.2.1
          have h8 := HN1.out.2.2.2.2.1
          have h9 := HN2.out.2.1
          omega
        have hmn : len + m ≤ n := HN2.out.2.2.2.1
        have hm1 : 1 ≤ m := HN2.out.2.2.1
        have hme : o + m = 64 ∨ len + m = n := by
          have h8 := HN1.out.2.2.2.2.1
          have h9 := HN2.out.2.1
          obtain ⟨_, _, _, e4, _, e6⟩ := HN1.out
          have e4' : m = min r nl := e4
          omega
        have p3 := HN4.out
        have HM := Lib.hid (And.intro hm64 (And.intro hmn (And.intro hm1 hme)))
        obtain ⟨i0, hi0, hz0, hz1, hz2⟩ := info_parts Try.info_u8c
        clear hat hkk he hgz hgl hsl hwr hp0 hf3 p2' HI hm64 hmn hm1 hme HAl
        have hOX : ((at_ : Int) + (len : Int)) % 64 = o := p3
        have ho64 : o < 64 := HN2.out.2.1
        go_wp2_with fail
        have HSx : Hid (PsI w z0 z q gp gm gd db dm p cd N len o g B G c' d' 0 (.slice pv (len + 0) cap) w2) := HS0
        clear HS0
        go_loopw [9, 13] (fun s9 s13 wr => ∃ (t L I cap2 : Nat) (pv2 : Option Addr), L ≤ n ∧ I ≤ 64 ∧ s9 = .slice pv2 L cap2 ∧ s13 = .int .i64 (I : Int) ∧ Hid (t ≤ m ∧ L = len + t ∧ I = o + t) ∧ Hid (PsI w z0 z q gp gm gd db dm p cd N len o g B G c' d' t (.slice pv2 (len + t) cap2) wr)) (fun _ s13 _ => 64 - (intOf s13).toNat)
        case atStart => exact ⟨0, len, o, cap, pv, hlen, by omega, rfl, congrArg (Value.int .i64) hOX, Lib.hid ⟨Nat.zero_le _, rfl, rfl⟩, HSx⟩
        case round =>
          obtain ⟨t, L, I, cap2, pv2, hLn, hI64, rfl, rfl, HE, HP⟩ := hrel
          clear HSx hOX p3
          by_cases htm : t < m
          · have hIlt : I < 64 := by have := HE.out; have := HM.out; omega
            have hLlt : L < n := by have := HE.out; have := HM.out; omega
            obtain ⟨g', o', e1, e2, e3⟩ := HP.out.sl (by omega)
            obtain ⟨rfl, rfl⟩ : g = g' ∧ 0 = o' := by injection e1 with e1; injection e1 with h1 h2; exact ⟨h1, h2⟩
            have cg := e3 I hIlt
            rw [Nat.zero_add] at cg
            obtain ⟨x, hx⟩ : ∃ x, x = G I := ⟨_, rfl⟩
            rw [← hx] at cg
            obtain ⟨W, hW⟩ : ∃ W, W = wr.alloc (.cells #[.int .u8 x] 5) := ⟨_, rfl⟩
            have hoW : Old wr W := by rw [hW]; exact Old.alloc _ _
            obtain ⟨av2, u1, u2, u3, u4, u5⟩ := HP.out.ex
            have HOwn : Hid (ownX (fun b => b < W.heap.size ∧ (Value.slice pv2 L cap2).ownBlock ≠ some b) W 5 (.slice pv2 L cap2) L (u8L (fun j => if j < len then B j else G (o + (j - len))) L)) := Lib.hid (by
              have hL := HE.out.2.1
              rw [hL]
              exact (u1.old hoW).mono fun b hb h => h.2 hb)
            have HSl : Hid (SlU W (some ⟨wr.heap.size, 0, none⟩) 1 (fun _ => x)) := Lib.hid fun _ => ⟨wr.heap.size, 0, rfl, by rw [hW]; simp, fun j hj => by
              obtain rfl : j = 0 := by omega
              rw [hW]
              exact (cell_of_row _ _ _ _ _ _ (heap_alloc_new _ _)).trans rfl⟩
            have HNx : Hid (∀ v' w3, ownX (fun b => b < W.heap.size ∧ (Value.slice pv2 L cap2).ownBlock ≠ some b) w3 5 v' (L + 1) (u8L (fun j => if j < L then (fun j => if j < len then B j else G (o + (j - len))) j else (fun _ => x) (j - L)) (L + 1)) → Kept (fun b => b < W.heap.size ∧ (Value.slice pv2 L cap2).ownBlock ≠ some b) W w3 → (∀ k, v'.ownBlock = some k → (Value.slice pv2 L cap2).ownBlock = some k ∨ W.heap.size ≤ k) →
                ∃ pv3 cap3, v' = .slice pv3 (L + 1) cap3 ∧ Hid (PsI w z0 z q gp gm gd db dm p cd N len o g B G c' d' (t + 1) (.slice pv3 (len + (t + 1)) cap3) w3)) := Lib.hid fun v' w3 h1 h2 h3 => by
              obtain ⟨_, hL, hI⟩ := HE.out
              subst hL
              subst hI
              subst hx
              obtain ⟨p3, c3, rfl, _, _, _, _⟩ := h1.bytes
              exact ⟨p3, c3, rfl, Lib.hid (HP.out.next HB.out.1 hoW h1 h2 h3)⟩
            have HIe := Lib.hid hx
            clear e1 e2 e3 hx u1 u2 u3 u4 u5 hoW
            subst hW
            go_wp2_with (at_builtin; refine append_U _ rfl _ _ 22 rfl (fun b => b < (wr.alloc (.cells #[.int .u8 x] 5)).heap.size ∧ (Value.slice pv2 L cap2).ownBlock ≠ some b) 5 i0 Try.underlying22 hi0 hz0 hz1 hz2 _ L (fun j => if j < len then B j else G (o + (j - len))) rfl HOwn.out (some ⟨wr.heap.size, 0, none⟩) 1 1 (fun _ => x) rfl HSl.out (by omega) (fun b hb => hb.1) ?_; intro v' w3 how3 hk3 hv3; have HE3 := Lib.hid (HNx.out v' w3 how3 hk3 hv3); clear how3 hk3 hv3)
            obtain ⟨pv3, cap3, rfl, HS3⟩ := HE3.out
            go_roundw
            case rel => exact ⟨t + 1, L + 1, I + 1, cap3, pv3, by omega, by omega, rfl, by go_num, Lib.hid (by have := HE.out; omega), HS3⟩
            case measure => simp [intOf]; omega
          · have hle : t = m := by have := HE.out.1; omega
            have HFin : Hid (PsR w z0 z q gp gm gd db dm p cd N at_ n R L (.slice pv2 L cap2) wr) := Lib.hid (by
              obtain ⟨_, hL, hI⟩ := HE.out
              obtain ⟨av2, u1, u2, u3, u4, u5⟩ := HP.out.ex
              subst hle
              subst hL
              exact HSt.out av2 wr _ HF3.out u1 u2 u3 u5 HP.out.kp)
            have hmes : n - L < n - len := by
              have h1 := HE.out.2.1
              have h2 := HM.out.2.2.1
              omega
            have hor : I = 64 ∨ L = n := by
              have h1 := HE.out
              have h2 := HM.out.2.2.2
              omega
            clear hle HP HE htm
            by_cases hI2 : I < 64
            · have hLe : L = n := by omega
              have hLn2 : ¬ (L : Int) < n := by omega
              have HLe := Lib.hid hLe
              clear hLe hor
              go_wp2_with fail
              go_roundw
              case rel => exact ⟨L, cap2, pv2, hLn, rfl, HFin⟩
              case measure => exact hmes
            · have hI3 : ¬ (I : Int) < 64 := by omega
              clear hor
              go_wp2_with fail
              go_roundw
              case rel => exact ⟨L, cap2, pv2, hLn, rfl, HFin⟩
              case measure => exact hmes
    · obtain rfl : len = n := by omega
      have HE : Hid (SpanRes w.heap.size wr len R.r (.returned (.tuple #[.slice pv len cap, .int .i64 0])) ∧ PnAt wr z0 z av q gp gm gd db dm p cd N R.c R.d ∧ Kept (butP w q gp gm gd db dm) w wr) := by
        obtain ⟨B, cur, dc, f, av', how, _, _, _, hsp, hck⟩ := HI.out.ex
        rw [← hsp, spanF_end (Nat.le_refl _)]
        obtain ⟨p', c', e1, e2, e3, e4, e5⟩ := how.bytes
        simp only [Value.slice.injEq] at e1
        obtain ⟨rfl, _, rfl⟩ := e1
        exact ⟨⟨_, _, rfl, e2, e3, e4, fun a hn ha => by
          obtain ⟨g, h1, h2, _⟩ := e5 hn
          rw [h1] at ha
          cases ha
          exact Nat.not_lt.1 h2⟩, hck.reav (.inr HB.out.2.1), HI.out.kp⟩
      clear HI
      go_wp2_with fail
      go_ret2
      exact HE.out
end Go.Proofs.Ytooamkicmmgniaa
