/- Texts joined: BankBld. -/
import Derived.Deep.MidRow
import Derived.Deep.DeepCutAuto
import Derived.Deep.CutBlock
import Derived.Test.YtanmbhakjfhhdaaGreatDoorPkBA
import Derived.Test.YtanmbhakjfhhdaaGreatDoorPkBD
import Derived.Test.YtanmbhakjfhhdaaGreatDoorTk
/- BankBuilds' walk, first part: the law's own look at its directory. (by wip/tools/exp.py of XBankBld.src) -/
namespace Go.Proofs.YtanmbhakjfhhdaaGreatDoor
set_option linter.unusedVariables false
set_option linter.unusedSimpArgs false
set_option maxRecDepth 100000
open Go.RowKit Go.ChangeShapes Go.WideShapes
theorem yieldsIf_load_mt {P : Program} {ops : Array Oper} {S : World → Prop} {op : Oper} {a : Act} (R : Array Value) (hw : Region.wanted op (yielded ops a.tmps) = true) (ty : TypeId) (x : Operand) (ho : op.op = .load ty x)
  (b o : Nat) (hx : a.eval x = .pointer (some ⟨b, o, none⟩)) (d : TypeDesc) (hS : ∀ w, S w → w.rangeAt b o R.toList)
  (hu : P.underlying ty = some d) (hd : d.isRow = true) (hi : (P.info? ty).map (·.size) = some R.size) : YieldsIf P ops S op (.agg R) a :=
 yieldsIf_load_mid hw ty x ho b o hx R.toList d hS hu hd (by simpa using hi)
theorem dirP_one {D : Nat → Mt} {k : Nat} (h : dirP D k) (h1 : (D k).ok) (h2 : 0 < k → ltS (D (k - 1)).s (D k).s = true) : dirP D (k + 1) := fun i hi => by
 by_cases e : i = k
 ·subst e; exact ⟨h1, h2⟩
 ·exact h i (by omega)
theorem atTo_few (f : Nat → Nat) {sz n : Nat} (hz : sz ≤ 96) : ∀ i, atTo f sz n i ≤ 20 + 64 * n + 15 * i + offTo f i * 100
 | 0 => by show 20 + 64 * n ≤ _; omega
 | i + 1 => by
  have h := atTo_few f (n := n) hz i
  have h2 := firstAt_le f sz n i
  have h3 : f i * sz ≤ f i * 96 := Nat.mul_le_mul_left _ hz
  have h4 : offTo f (i + 1) = offTo f i + f i := rfl
  rw [atTo_succ]
  omega
theorem RwU.same {w : World} {p : Option Addr} {n z : Nat} {Q : Nat → Option Addr} {M C : Nat → Nat} {B : Nat → Nat → Int} (h : RwU w p n Q M C B) (k : ∀ i, i < n → (M i : Int) = z) : RwU w p n Q (fun _ => z) C B where
 cell := fun hn => by
  obtain ⟨g, o, h1, h2, h3⟩ := h.cell hn
  exact ⟨g, o, h1, h2, fun i hi => by rw [h3 i hi, show M i = z by have := k i hi; omega]⟩
 row := fun i hi => by
  have := h.row i hi
  rwa [show M i = z by have := k i hi; omega] at this
theorem bld_at {D : Nat → Mt} {n z N K : Nat} {B : Nat → Nat → Int} {H FY : Nat → Int} {i bl ch T Cc : Nat} (hd : dirP D n) (hN : N = totalAt (frD D) z n) (hK : K = offTo (frD D) n) (hld : Ld (frD D) z n B H K FY) (hi : i < n) (hT : T = cnt (D i).n.toNat) (hC : Cc = (D i).c.toNat) (hbl : bl < T) (hch : ch < Cc) :
  atTo (frD D) z n i + 4 * (bl * Cc + ch) + 4 ≤ N ∧ firstAt (frD D) z n i + (bl * Cc + ch) * z + z ≤ N ∧ offTo (frD D) i + (bl * Cc + ch) < K ∧ ∀ j, j < z → FY (firstAt (frD D) z n i + (bl * Cc + ch) * z + j) = B (offTo (frD D) i + (bl * Cc + ch)) j := by
 have hok := dirP_ok hd i hi
 have hf : frD D i = T * Cc := by rw [hT, hC]; rfl
 have hC2 : Cc = 1 ∨ Cc = 2 := by have := hok.c1; have := hok.c2; omega
 obtain ⟨q, hq⟩ : ∃ q, q = bl * Cc + ch := ⟨_, rfl⟩
 have hqf : q < frD D i := by
  rcases hC2 with e | e <;> rw [e] at hf hq hch <;> omega
 rw [← hq]
 have h1 := firstAt_le (frD D) z n i
 have h2 := atTo_succ (frD D) z n i
 have h3 := atTo_mono (frD D) z n (show i + 1 ≤ n by omega)
 have h4 := total_le (frD D) z n
 have h5 : (q + 1) * z ≤ frD D i * z := Nat.mul_le_mul_right _ hqf
 have h6 : (q + 1) * z = q * z + z := by rw [Nat.add_mul, Nat.one_mul]
 have h7 := offTo_mono (frD D) (show i + 1 ≤ n by omega)
 have h8 : offTo (frD D) (i + 1) = offTo (frD D) i + frD D i := rfl
 refine ⟨by omega, by omega, by omega, fun j hj => ?_⟩
 rw [Nat.mul_comm q z]
 exact hld.byte i q hi hqf (by omega) j hj
def SeenD (D : Nat → Mt) (k : Nat) (m : Int) (r : Bool) : Prop := (r = true ↔ dirP D k) ∧ (r = true → m = (offTo (frD D) k : Nat)) ∧ ∀ i, i < k → (D i).n ≤ 300 ∧ (D i).c ≤ 2
set_option maxHeartbeats 8000000 in
theorem builds_any (sz : Int) (p : Option Addr) (n cap : Nat) (D : Nat → Mt) (fp : Option Addr) (K fc : Nat) (Q : Nat → Option Addr) (M C : Nat → Nat) (B : Nat → Nat → Int) (w : World) (hs : MtsS w p n D) (hn9 : n ≤ 9223372036854775807) (hfr : RwU w fp K Q M C B) (hK9 : K ≤ 9223372036854775807) :
  Calls Tryz.prog 5 #[.int .i64 sz, .slice p n cap, .slice fp K fc] w fun e w' => e = .returned (.bool true) ∧ Old w w' := by
 have HS := Lib.hid hs
 have HFr := Lib.hid hfr
 have HO0 := Lib.hid (Old.refl w)
 have Hs9 : Hid ((Tryz.prog.info? 45).map (·.size) = some 9) := Lib.hid (by kernel_rfl)
 clear hs hfr
 go_enter Tryz.func5, Tryz.ntmps5
 by_cases h8 : (8 : Int) < n
 ·go_wp2_with fail
  refine (awake_any _).mono ?_
  rintro e w3 ⟨rfl, ho⟩
  have H3 := Lib.hid ho
  clear ho
  go_wp2_with fail
  go_ret
  exact ⟨rfl, H3.out⟩
 by_cases h100 : (100 : Int) < K
 ·go_wp2_with fail
  refine (awake_any _).mono ?_
  rintro e w3 ⟨rfl, ho⟩
  have H3 := Lib.hid ho
  clear ho
  go_wp2_with fail
  go_ret
  exact ⟨rfl, H3.out⟩
 go_wp2_with fail
 have hn8 : n ≤ 8 := by omega
 have hK100 : K ≤ 100 := by omega
 clear h8 h100 hn9 hK9
 have HSn0 : Hid (SeenD D 0 0 true) := Lib.hid ⟨⟨fun _ i hi => absurd hi (Nat.not_lt_zero _), fun _ => rfl⟩, fun _ => rfl, fun i hi => absurd hi (Nat.not_lt_zero _)⟩
 go_loopw [7, 8, 9] (fun av rv iv wr => ∃ (k : Nat) (m : Int) (r : Bool), k ≤ n ∧ iv = .int .i64 k ∧ av = .int .i64 m ∧ rv = .bool r ∧ Hid (SeenD D k m r) ∧ Hid (Old w wr)) (fun _ _ i _ => n - (intOf i).toNat)
 case atStart => exact ⟨0, 0, true, by omega, by go_num, rfl, rfl, HSn0, HO0⟩
 case round => as_aux_lemma =>
  clear HSn0 HO0
  obtain ⟨k, mm, r, hk, rfl, rfl, rfl, HSn, HO⟩ := hrel
  by_cases hkn : k < n
  ·obtain ⟨g, o, hpe, hg, hcs⟩ := (HS.out.old HO.out).cell (by omega)
   subst hpe
   obtain ⟨m, hm⟩ : ∃ m, m = D k := ⟨_, rfl⟩
   have hck := hcs k hkn
   rw [← hm] at hck
   obtain ⟨R, hR⟩ : ∃ R, R = m.cells := ⟨_, rfl⟩
   have HR9 : Hid (R.size = 9) := Lib.hid (by rw [hR]; exact Mt.size9 m)
   have HRg : Hid (∀ V, Old wr V → V.rangeAt g (o + k * 9) R.toList) := Lib.hid fun V hV j v hv => (by
    refine (hV.cell (a := ⟨g, o + k * 9 + j, none⟩) hg).trans (hck j v ?_)
    rw [← hR]
    simpa using hv)
   have HRM : Hid (∀ V, Calls Tryz.prog 27 #[.agg R] V fun e w' => e = .returned (.bool (wrongI m.s m.n m.r m.c m.lp m.a m.b == 0)) ∧ Old V w') :=
    Lib.hid fun V => by
     rw [hR]
     exact RightMeta_any m.s m.n m.r m.c m.lp m.a m.b m.x m.y V (by rw [hm]; exact HS.out.str k hkn)
   have hokq : (wrongI m.s m.n m.r m.c m.lp m.a m.b == 0) = true ↔ (D k).ok := by rw [← hm]; unfold Mt.ok; simp
   obtain ⟨q, hq⟩ : ∃ q, q = (wrongI m.s m.n m.r m.c m.lp m.a m.b == 0) := ⟨_, rfl⟩
   rw [← hq] at hokq HRM
   have HOK := Lib.hid hokq
   have HM := Lib.hid hm
   have HCS := Lib.hid hcs
   have HG := Lib.hid hg
   have HOr := Lib.hid (Old.refl wr)
   have i0 : (0 : Int) ≤ k := by omega
   have i1 : (k : Int) < n := by omega
   clear hck hm hq hcs hR hokq hg
   go_upto_region 8 with (fail)
   go_cut [8] (fun v wx => ∃ b : Bool, v = .bool b ∧ (b = true ↔ dirP D (k + 1)) ∧ Old wr wx)
   case first => as_aux_lemma =>
    cases r
    ·have hdv : ¬ dirP D (k + 1) := fun h => by have := HSn.out.1.2 (fun i hi => h i (by omega)); cases this
     have HDv := Lib.hid hdv
     clear hdv
     refine wp_region_held_drew (S := (fun V => Old wr V)) (by kernel_rfl) ?_ (fun hHeld => ?_)
     ·(try dsimp only); exact (Old.refl wr).drew
     refine wpT 0 (v := ?_) rfl (Or.inl ⟨by kernel_rfl, ?_⟩) (by assumption) ?_; rotate_left; (intro w hSw; (try dsimp only at hSw); go_simp; try with_reducible rfl); try simp only [Act.put, sA, sZ, sS]
     refine wpT 1 (v := ?_) rfl (Or.inl ⟨by kernel_rfl, ?_⟩) (by assumption) ?_; rotate_left; (intro w hSw; (try dsimp only at hSw); go_simp; try with_reducible rfl); try simp only [Act.put, sA, sZ, sS]
     refine wpT 2 (v := undef) rfl (Or.inr ⟨by kernel_rfl, rfl⟩) (by assumption) ?_; try simp only [Act.put, sA, sZ, sS]
     refine wpT 3 (v := undef) rfl (Or.inr ⟨by kernel_rfl, rfl⟩) (by assumption) ?_; try simp only [Act.put, sA, sZ, sS]
     refine wpT 4 (v := undef) rfl (Or.inr ⟨by kernel_rfl, rfl⟩) (by assumption) ?_; try simp only [Act.put, sA, sZ, sS]
     refine wpT 5 (v := undef) rfl (Or.inr ⟨by kernel_rfl, rfl⟩) (by assumption) ?_; try simp only [Act.put, sA, sZ, sS]
     refine wpT 6 (v := undef) rfl (Or.inr ⟨by kernel_rfl, rfl⟩) (by assumption) ?_; try simp only [Act.put, sA, sZ, sS]
     refine wpT 7 (v := ?_) rfl (Or.inl ⟨by kernel_rfl, ?_⟩) (by assumption) ?_; rotate_left; (intro w hSw; (try dsimp only at hSw); go_simp; try with_reducible rfl); try simp only [Act.put, sA, sZ, sS]
     refine wpT 8 (v := ?_) rfl (Or.inl ⟨by kernel_rfl, ?_⟩) (by assumption) ?_; rotate_left; (intro w hSw; (try dsimp only at hSw); go_simp; try with_reducible rfl); try simp only [Act.put, sA, sZ, sS]
     refine wpT 9 (v := undef) rfl (Or.inr ⟨by kernel_rfl, rfl⟩) (by assumption) ?_; try simp only [Act.put, sA, sZ, sS]
     refine wpT 10 (v := undef) rfl (Or.inr ⟨by kernel_rfl, rfl⟩) (by assumption) ?_; try simp only [Act.put, sA, sZ, sS]
     refine wpT 11 (v := undef) rfl (Or.inr ⟨by kernel_rfl, rfl⟩) (by assumption) ?_; try simp only [Act.put, sA, sZ, sS]
     refine wpT 12 (v := undef) rfl (Or.inr ⟨by kernel_rfl, rfl⟩) (by assumption) ?_; try simp only [Act.put, sA, sZ, sS]
     refine wpT 13 (v := undef) rfl (Or.inr ⟨by kernel_rfl, rfl⟩) (by assumption) ?_; try simp only [Act.put, sA, sZ, sS]
     refine wpT 14 (v := undef) rfl (Or.inr ⟨by kernel_rfl, rfl⟩) (by assumption) ?_; try simp only [Act.put, sA, sZ, sS]
     refine wpT 15 (v := undef) rfl (Or.inr ⟨by kernel_rfl, rfl⟩) (by assumption) ?_; try simp only [Act.put, sA, sZ, sS]
     refine wpT 16 (v := undef) rfl (Or.inr ⟨by kernel_rfl, rfl⟩) (by assumption) ?_; try simp only [Act.put, sA, sZ, sS]
     refine wpT 17 (v := undef) rfl (Or.inr ⟨by kernel_rfl, rfl⟩) (by assumption) ?_; try simp only [Act.put, sA, sZ, sS]
     refine wpT 18 (v := undef) rfl (Or.inr ⟨by kernel_rfl, rfl⟩) (by assumption) ?_; try simp only [Act.put, sA, sZ, sS]
     refine wpT 19 (v := undef) rfl (Or.inr ⟨by kernel_rfl, rfl⟩) (by assumption) ?_; try simp only [Act.put, sA, sZ, sS]
     refine wpT 20 (v := undef) rfl (Or.inr ⟨by kernel_rfl, rfl⟩) (by assumption) ?_; try simp only [Act.put, sA, sZ, sS]
     refine wpT 21 (v := undef) rfl (Or.inr ⟨by kernel_rfl, rfl⟩) (by assumption) ?_; try simp only [Act.put, sA, sZ, sS]
     refine wpT 22 (v := undef) rfl (Or.inr ⟨by kernel_rfl, rfl⟩) (by assumption) ?_; try simp only [Act.put, sA, sZ, sS]
     refine wpT 23 (v := undef) rfl (Or.inr ⟨by kernel_rfl, rfl⟩) (by assumption) ?_; try simp only [Act.put, sA, sZ, sS]
     refine wpT 24 (v := undef) rfl (Or.inr ⟨by kernel_rfl, rfl⟩) (by assumption) ?_; try simp only [Act.put, sA, sZ, sS]
     refine wpT 25 (v := ?_) rfl (Or.inl ⟨by kernel_rfl, ?_⟩) (by assumption) ?_; rotate_left; (intro w hSw; (try dsimp only at hSw); go_simp; try with_reducible rfl); try simp only [Act.put, sA, sZ, sS]
     refine wpT 26 (v := ?_) rfl (Or.inl ⟨by kernel_rfl, ?_⟩) (by assumption) ?_; rotate_left; (intro w hSw; (try dsimp only at hSw); go_simp; try with_reducible rfl); try simp only [Act.put, sA, sZ, sS]
     refine wpAnyH_done (by kernel_rfl) ?_ _
     go_wp2_with fail
     go_meet
     exact ⟨false, rfl, ⟨fun h => (by cases h), fun h => absurd h HDv.out⟩, (Old.refl wr).drew⟩
    ·have HDk := Lib.hid (HSn.out.1.1 rfl)
     cases q
     ·have hdv : ¬ dirP D (k + 1) := fun h => by have := HOK.out.2 (h k (by omega)).1; cases this
      have HDv := Lib.hid hdv
      clear hdv
      refine wp_region_held_drew (S := (fun V => Old wr V)) (by kernel_rfl) ?_ (fun hHeld => ?_)
      ·(try dsimp only); exact (Old.refl wr).drew
      refine wpT 0 (v := ?_) rfl (Or.inl ⟨by kernel_rfl, ?_⟩) (by assumption) ?_; rotate_left; (intro w hSw; (try dsimp only at hSw); go_simp; try with_reducible rfl); try simp only [Act.put, sA, sZ, sS]
      refine wpT 1 (v := ?_) rfl (Or.inl ⟨by kernel_rfl, ?_⟩) (by assumption) ?_; rotate_left; (intro w hSw; (try dsimp only at hSw); go_simp; try with_reducible rfl); try simp only [Act.put, sA, sZ, sS]
      refine wpT 2 (v := ?_) rfl (Or.inl ⟨by kernel_rfl, ?_⟩) (by assumption) ?_; rotate_left; (intro w hSw; (try dsimp only at hSw); go_simp; try with_reducible rfl); try simp only [Act.put, sA, sZ, sS]
      refine wpT 3 (v := ?_) rfl (Or.inl ⟨by kernel_rfl, ?_⟩) (by assumption) ?_; rotate_left; (intro w hSw; (try dsimp only at hSw); go_simp; try with_reducible rfl); try simp only [Act.put, sA, sZ, sS]
      refine wpT 4 (v := ?_) rfl (Or.inl ⟨by kernel_rfl, ?_⟩) (by assumption) ?_; rotate_left; (intro w hSw; (try dsimp only at hSw); go_simp; try with_reducible rfl); try simp only [Act.put, sA, sZ, sS]
      refine wpT 5 (v := (.agg R)) rfl (yieldsIf_load_mt R (by kernel_rfl) 45 (.tmp 41) rfl g (o + k * 9) rfl _ (fun V h => HRg.out V h) Tryz.underlying45 rfl (by rw [HR9.out]; exact Hs9.out)) (by assumption) ?_; try simp only [Act.put, sA, sZ, sS]
      refine wpAnyH_ready (rs := [6]) (by kernel_rfl) (by simp) ?_
      refine AllReadyH.cons (o := ⟨_, _, _, _, _, _⟩) (by rfl) ?_ AllReadyH.nil
      intro K hK
      go_simp
      refine (HRM.out _).mono ?_
      rintro e V ⟨rfl, o1⟩
      have HV := Lib.hid ((Old.drew (Old.refl wr)).trans o1)
      clear o1
      go_wp2_with fail
      refine hK.out _ _ ?_ (fun hHeld => ?_)
      ·(try dsimp only); exact HV.out
      clear hK K
      try simp only [Act.put, sA, sZ, sS]
      refine wpT 7 (v := ?_) rfl (Or.inl ⟨by kernel_rfl, ?_⟩) (by assumption) ?_; rotate_left; (intro w hSw; (try dsimp only at hSw); go_simp; try with_reducible rfl); try simp only [Act.put, sA, sZ, sS]
      refine wpT 8 (v := ?_) rfl (Or.inl ⟨by kernel_rfl, ?_⟩) (by assumption) ?_; rotate_left; (intro w hSw; (try dsimp only at hSw); go_simp; try with_reducible rfl); try simp only [Act.put, sA, sZ, sS]
      refine wpT 9 (v := undef) rfl (Or.inr ⟨by kernel_rfl, rfl⟩) (by assumption) ?_; try simp only [Act.put, sA, sZ, sS]
      refine wpT 10 (v := undef) rfl (Or.inr ⟨by kernel_rfl, rfl⟩) (by assumption) ?_; try simp only [Act.put, sA, sZ, sS]
      refine wpT 11 (v := undef) rfl (Or.inr ⟨by kernel_rfl, rfl⟩) (by assumption) ?_; try simp only [Act.put, sA, sZ, sS]
      refine wpT 12 (v := undef) rfl (Or.inr ⟨by kernel_rfl, rfl⟩) (by assumption) ?_; try simp only [Act.put, sA, sZ, sS]
      refine wpT 13 (v := undef) rfl (Or.inr ⟨by kernel_rfl, rfl⟩) (by assumption) ?_; try simp only [Act.put, sA, sZ, sS]
      refine wpT 14 (v := undef) rfl (Or.inr ⟨by kernel_rfl, rfl⟩) (by assumption) ?_; try simp only [Act.put, sA, sZ, sS]
      refine wpT 15 (v := undef) rfl (Or.inr ⟨by kernel_rfl, rfl⟩) (by assumption) ?_; try simp only [Act.put, sA, sZ, sS]
      refine wpT 16 (v := undef) rfl (Or.inr ⟨by kernel_rfl, rfl⟩) (by assumption) ?_; try simp only [Act.put, sA, sZ, sS]
      refine wpT 17 (v := undef) rfl (Or.inr ⟨by kernel_rfl, rfl⟩) (by assumption) ?_; try simp only [Act.put, sA, sZ, sS]
      refine wpT 18 (v := undef) rfl (Or.inr ⟨by kernel_rfl, rfl⟩) (by assumption) ?_; try simp only [Act.put, sA, sZ, sS]
      refine wpT 19 (v := undef) rfl (Or.inr ⟨by kernel_rfl, rfl⟩) (by assumption) ?_; try simp only [Act.put, sA, sZ, sS]
      refine wpT 20 (v := undef) rfl (Or.inr ⟨by kernel_rfl, rfl⟩) (by assumption) ?_; try simp only [Act.put, sA, sZ, sS]
      refine wpT 21 (v := undef) rfl (Or.inr ⟨by kernel_rfl, rfl⟩) (by assumption) ?_; try simp only [Act.put, sA, sZ, sS]
      refine wpT 22 (v := undef) rfl (Or.inr ⟨by kernel_rfl, rfl⟩) (by assumption) ?_; try simp only [Act.put, sA, sZ, sS]
      refine wpT 23 (v := undef) rfl (Or.inr ⟨by kernel_rfl, rfl⟩) (by assumption) ?_; try simp only [Act.put, sA, sZ, sS]
      refine wpT 24 (v := undef) rfl (Or.inr ⟨by kernel_rfl, rfl⟩) (by assumption) ?_; try simp only [Act.put, sA, sZ, sS]
      refine wpT 25 (v := ?_) rfl (Or.inl ⟨by kernel_rfl, ?_⟩) (by assumption) ?_; rotate_left; (intro w hSw; (try dsimp only at hSw); go_simp; try with_reducible rfl); try simp only [Act.put, sA, sZ, sS]
      refine wpT 26 (v := ?_) rfl (Or.inl ⟨by kernel_rfl, ?_⟩) (by assumption) ?_; rotate_left; (intro w hSw; (try dsimp only at hSw); go_simp; try with_reducible rfl); try simp only [Act.put, sA, sZ, sS]
      refine wpAnyH_done (by kernel_rfl) ?_ _
      go_wp2_with fail
      go_meet
      exact ⟨false, rfl, ⟨fun h => (by cases h), fun h => absurd h HDv.out⟩, HV.out⟩
     ·rcases Nat.eq_zero_or_pos k with hk0 | hk0
      ·have HD2 := Lib.hid (dirP_one HDk.out (HOK.out.1 rfl) (fun h => by omega))
       have d0 : ((k : Int) == 0) = true := by simp; omega
       clear hk0
       refine wp_region_held_drew (S := (fun V => Old wr V)) (by kernel_rfl) ?_ (fun hHeld => ?_)
       ·(try dsimp only); exact (Old.refl wr).drew
       refine wpT 0 (v := ?_) rfl (Or.inl ⟨by kernel_rfl, ?_⟩) (by assumption) ?_; rotate_left; (intro w hSw; (try dsimp only at hSw); go_simp; try with_reducible rfl); try simp only [Act.put, sA, sZ, sS]
       refine wpT 1 (v := ?_) rfl (Or.inl ⟨by kernel_rfl, ?_⟩) (by assumption) ?_; rotate_left; (intro w hSw; (try dsimp only at hSw); go_simp; try with_reducible rfl); try simp only [Act.put, sA, sZ, sS]
       refine wpT 2 (v := ?_) rfl (Or.inl ⟨by kernel_rfl, ?_⟩) (by assumption) ?_; rotate_left; (intro w hSw; (try dsimp only at hSw); go_simp; try with_reducible rfl); try simp only [Act.put, sA, sZ, sS]
       refine wpT 3 (v := ?_) rfl (Or.inl ⟨by kernel_rfl, ?_⟩) (by assumption) ?_; rotate_left; (intro w hSw; (try dsimp only at hSw); go_simp; try with_reducible rfl); try simp only [Act.put, sA, sZ, sS]
       refine wpT 4 (v := ?_) rfl (Or.inl ⟨by kernel_rfl, ?_⟩) (by assumption) ?_; rotate_left; (intro w hSw; (try dsimp only at hSw); go_simp; try with_reducible rfl); try simp only [Act.put, sA, sZ, sS]
       refine wpT 5 (v := (.agg R)) rfl (yieldsIf_load_mt R (by kernel_rfl) 45 (.tmp 41) rfl g (o + k * 9) rfl _ (fun V h => HRg.out V h) Tryz.underlying45 rfl (by rw [HR9.out]; exact Hs9.out)) (by assumption) ?_; try simp only [Act.put, sA, sZ, sS]
       refine wpAnyH_ready (rs := [6]) (by kernel_rfl) (by simp) ?_
       refine AllReadyH.cons (o := ⟨_, _, _, _, _, _⟩) (by rfl) ?_ AllReadyH.nil
       intro K hK
       go_simp
       refine (HRM.out _).mono ?_
       rintro e V ⟨rfl, o1⟩
       have HV := Lib.hid ((Old.drew (Old.refl wr)).trans o1)
       clear o1
       go_wp2_with fail
       refine hK.out _ _ ?_ (fun hHeld => ?_)
       ·(try dsimp only); exact HV.out
       clear hK K
       try simp only [Act.put, sA, sZ, sS]
       refine wpT 7 (v := ?_) rfl (Or.inl ⟨by kernel_rfl, ?_⟩) (by assumption) ?_; rotate_left; (intro w hSw; (try dsimp only at hSw); go_simp; try with_reducible rfl); try simp only [Act.put, sA, sZ, sS]
       refine wpT 8 (v := ?_) rfl (Or.inl ⟨by kernel_rfl, ?_⟩) (by assumption) ?_; rotate_left; (intro w hSw; (try dsimp only at hSw); go_simp; try with_reducible rfl); try simp only [Act.put, sA, sZ, sS]
       refine wpT 9 (v := ?_) rfl (Or.inl ⟨by kernel_rfl, ?_⟩) (by assumption) ?_; rotate_left; (intro w hSw; (try dsimp only at hSw); go_simp; try with_reducible rfl); try simp only [Act.put, sA, sZ, sS]
       refine wpT 10 (v := ?_) rfl (Or.inl ⟨by kernel_rfl, ?_⟩) (by assumption) ?_; rotate_left; (intro w hSw; (try dsimp only at hSw); go_simp; try with_reducible rfl); try simp only [Act.put, sA, sZ, sS]
       refine wpT 11 (v := ?_) rfl (Or.inl ⟨by kernel_rfl, ?_⟩) (by assumption) ?_; rotate_left; (intro w hSw; (try dsimp only at hSw); go_simp; try with_reducible rfl); try simp only [Act.put, sA, sZ, sS]
       refine wpT 12 (v := undef) rfl (Or.inr ⟨by kernel_rfl, rfl⟩) (by assumption) ?_; try simp only [Act.put, sA, sZ, sS]
       refine wpT 13 (v := undef) rfl (Or.inr ⟨by kernel_rfl, rfl⟩) (by assumption) ?_; try simp only [Act.put, sA, sZ, sS]
       refine wpT 14 (v := undef) rfl (Or.inr ⟨by kernel_rfl, rfl⟩) (by assumption) ?_; try simp only [Act.put, sA, sZ, sS]
       refine wpT 15 (v := undef) rfl (Or.inr ⟨by kernel_rfl, rfl⟩) (by assumption) ?_; try simp only [Act.put, sA, sZ, sS]
       refine wpT 16 (v := undef) rfl (Or.inr ⟨by kernel_rfl, rfl⟩) (by assumption) ?_; try simp only [Act.put, sA, sZ, sS]
       refine wpT 17 (v := undef) rfl (Or.inr ⟨by kernel_rfl, rfl⟩) (by assumption) ?_; try simp only [Act.put, sA, sZ, sS]
       refine wpT 18 (v := undef) rfl (Or.inr ⟨by kernel_rfl, rfl⟩) (by assumption) ?_; try simp only [Act.put, sA, sZ, sS]
       refine wpT 19 (v := undef) rfl (Or.inr ⟨by kernel_rfl, rfl⟩) (by assumption) ?_; try simp only [Act.put, sA, sZ, sS]
       refine wpT 20 (v := undef) rfl (Or.inr ⟨by kernel_rfl, rfl⟩) (by assumption) ?_; try simp only [Act.put, sA, sZ, sS]
       refine wpT 21 (v := undef) rfl (Or.inr ⟨by kernel_rfl, rfl⟩) (by assumption) ?_; try simp only [Act.put, sA, sZ, sS]
       refine wpT 22 (v := undef) rfl (Or.inr ⟨by kernel_rfl, rfl⟩) (by assumption) ?_; try simp only [Act.put, sA, sZ, sS]
       refine wpT 23 (v := undef) rfl (Or.inr ⟨by kernel_rfl, rfl⟩) (by assumption) ?_; try simp only [Act.put, sA, sZ, sS]
       refine wpT 24 (v := ?_) rfl (Or.inl ⟨by kernel_rfl, ?_⟩) (by assumption) ?_; rotate_left; (intro w hSw; (try dsimp only at hSw); go_simp; try with_reducible rfl); try simp only [Act.put, sA, sZ, sS]
       refine wpT 25 (v := ?_) rfl (Or.inl ⟨by kernel_rfl, ?_⟩) (by assumption) ?_; rotate_left; (intro w hSw; (try dsimp only at hSw); go_simp; try with_reducible rfl); try simp only [Act.put, sA, sZ, sS]
       refine wpT 26 (v := ?_) rfl (Or.inl ⟨by kernel_rfl, ?_⟩) (by assumption) ?_; rotate_left; (intro w hSw; (try dsimp only at hSw); go_simp; try with_reducible rfl); try simp only [Act.put, sA, sZ, sS]
       refine wpAnyH_done (by kernel_rfl) ?_ _
       go_wp2_with fail
       go_meet
       exact ⟨true, rfl, ⟨fun _ => HD2.out, fun _ => rfl⟩, HV.out⟩
      ·obtain ⟨j, hj⟩ : ∃ j, j + 1 = k := ⟨k - 1, by omega⟩
       have d0 : ((k : Int) == 0) = false := by simp; omega
       have q1 : wrap64 ((k : Int) - 1) = j := by rw [IntWalk.wrap64_in _ (by omega)]; omega
       have q2 : IntKind.i64.wrap ((k : Int) - 1) = j := by rw [IntWalk.i64_in _ (by omega)]; omega
       have j0 : (0 : Int) ≤ j := by omega
       have j1 : (j : Int) < n := by omega
       have hjk : k - 1 = j := by omega
       obtain ⟨s, hss⟩ : ∃ s, s = (D j).s := ⟨_, rfl⟩
       have HC1 : Hid (∀ V, Old wr V → V.cell? ⟨g, o + j * 9, none⟩ = some (.string s)) := Lib.hid fun V hV => (by
        rw [hss]
        exact (hV.cell (a := ⟨g, o + j * 9 + 0, none⟩) HG.out).trans (HCS.out j (by omega) 0 (.string (D j).s) rfl))
       have HC2 : Hid (∀ V, Old wr V → V.cell? ⟨g, o + k * 9, none⟩ = some (.string m.s)) := Lib.hid fun V hV => (by
        rw [HM.out]
        exact (hV.cell (a := ⟨g, o + k * 9 + 0, none⟩) HG.out).trans (HCS.out k hkn 0 (.string (D k).s) rfl))
       obtain ⟨t, ht⟩ : ∃ t, t = m.s := ⟨_, rfl⟩
       rw [← ht] at HC2
       obtain ⟨lt, hlt⟩ : ∃ lt, lt = ltS s t := ⟨_, rfl⟩
       have HDv : Hid (lt = true ↔ dirP D (k + 1)) := Lib.hid (by
        rw [hlt, hss, ht, HM.out]
        constructor
        ·intro h
         exact dirP_one HDk.out (HOK.out.1 rfl) (fun _ => by rw [hjk]; exact h)
        ·intro h
         have := (h k (by omega)).2 (by omega)
         rwa [hjk] at this)
       unfold ltS at hlt
       have hlt' := hlt.symm
       clear hk0 hj hss ht hlt hjk
       have HQ := Lib.hid (And.intro q1 q2)
       clear q1 q2
       refine wp_region_held_drew (S := (fun V => Old wr V)) (by kernel_rfl) ?_ (fun hHeld => ?_)
       ·(try dsimp only); exact (Old.refl wr).drew
       refine wpT 0 (v := ?_) rfl (Or.inl ⟨by kernel_rfl, ?_⟩) (by assumption) ?_; rotate_left; (intro w hSw; (try dsimp only at hSw); go_simp; try with_reducible rfl); try simp only [Act.put, sA, sZ, sS]
       refine wpT 1 (v := ?_) rfl (Or.inl ⟨by kernel_rfl, ?_⟩) (by assumption) ?_; rotate_left; (intro w hSw; (try dsimp only at hSw); go_simp; try with_reducible rfl); try simp only [Act.put, sA, sZ, sS]
       refine wpT 2 (v := ?_) rfl (Or.inl ⟨by kernel_rfl, ?_⟩) (by assumption) ?_; rotate_left; (intro w hSw; (try dsimp only at hSw); go_simp; try with_reducible rfl); try simp only [Act.put, sA, sZ, sS]
       refine wpT 3 (v := ?_) rfl (Or.inl ⟨by kernel_rfl, ?_⟩) (by assumption) ?_; rotate_left; (intro w hSw; (try dsimp only at hSw); go_simp; try with_reducible rfl); try simp only [Act.put, sA, sZ, sS]
       refine wpT 4 (v := ?_) rfl (Or.inl ⟨by kernel_rfl, ?_⟩) (by assumption) ?_; rotate_left; (intro w hSw; (try dsimp only at hSw); go_simp; try with_reducible rfl); try simp only [Act.put, sA, sZ, sS]
       refine wpT 5 (v := (.agg R)) rfl (yieldsIf_load_mt R (by kernel_rfl) 45 (.tmp 41) rfl g (o + k * 9) rfl _ (fun V h => HRg.out V h) Tryz.underlying45 rfl (by rw [HR9.out]; exact Hs9.out)) (by assumption) ?_; try simp only [Act.put, sA, sZ, sS]
       refine wpAnyH_ready (rs := [6]) (by kernel_rfl) (by simp) ?_
       refine AllReadyH.cons (o := ⟨_, _, _, _, _, _⟩) (by rfl) ?_ AllReadyH.nil
       intro K hK
       go_simp
       refine (HRM.out _).mono ?_
       rintro e V ⟨rfl, o1⟩
       have HV := Lib.hid ((Old.drew (Old.refl wr)).trans o1)
       clear o1
       go_wp2_with fail
       refine hK.out _ _ ?_ (fun hHeld => ?_)
       ·(try dsimp only); exact HV.out
       clear hK K
       try simp only [Act.put, sA, sZ, sS]
       refine wpT 7 (v := ?_) rfl (Or.inl ⟨by kernel_rfl, ?_⟩) (by assumption) ?_; rotate_left; (intro w hSw; (try dsimp only at hSw); go_simp; try with_reducible rfl); try simp only [Act.put, sA, sZ, sS]
       refine wpT 8 (v := ?_) rfl (Or.inl ⟨by kernel_rfl, ?_⟩) (by assumption) ?_; rotate_left; (intro w hSw; (try dsimp only at hSw); go_simp; try with_reducible rfl); try simp only [Act.put, sA, sZ, sS]
       refine wpT 9 (v := ?_) rfl (Or.inl ⟨by kernel_rfl, ?_⟩) (by assumption) ?_; rotate_left; (intro w hSw; (try dsimp only at hSw); go_simp; try with_reducible rfl); try simp only [Act.put, sA, sZ, sS]
       refine wpT 10 (v := ?_) rfl (Or.inl ⟨by kernel_rfl, ?_⟩) (by assumption) ?_; rotate_left; (intro w hSw; (try dsimp only at hSw); go_simp; try with_reducible rfl); try simp only [Act.put, sA, sZ, sS]
       refine wpT 11 (v := ?_) rfl (Or.inl ⟨by kernel_rfl, ?_⟩) (by assumption) ?_; rotate_left; (intro w hSw; (try dsimp only at hSw); go_simp; try with_reducible rfl); try simp only [Act.put, sA, sZ, sS]
       refine wpT 12 (v := ?_) rfl (Or.inl ⟨by kernel_rfl, ?_⟩) (by assumption) ?_; rotate_left; (intro w hSw; (try dsimp only at hSw); go_simp; try with_reducible rfl); try simp only [Act.put, sA, sZ, sS]
       refine wpT 13 (v := ?_) rfl (Or.inl ⟨by kernel_rfl, ?_⟩) (by assumption) ?_; rotate_left; (intro w hSw; (try dsimp only at hSw); go_simp; try with_reducible rfl); try simp only [Act.put, sA, sZ, sS]
       refine wpT 14 (v := ?_) rfl (Or.inl ⟨by kernel_rfl, ?_⟩) (by assumption) ?_; rotate_left; (intro w hSw; (try dsimp only at hSw); go_simp; try with_reducible rfl); try simp only [Act.put, sA, sZ, sS]
       try rw [HQ.out.2]
       refine wpT 15 (v := ?_) rfl (Or.inl ⟨by kernel_rfl, ?_⟩) (by assumption) ?_; rotate_left; (intro w hSw; (try dsimp only at hSw); go_simp; try with_reducible rfl); try simp only [Act.put, sA, sZ, sS]
       refine wpT 16 (v := ?_) rfl (Or.inl ⟨by kernel_rfl, ?_⟩) (by assumption) ?_; rotate_left; (intro w hSw; (try dsimp only at hSw); go_simp; try with_reducible rfl); try simp only [Act.put, sA, sZ, sS]
       refine wpT 17 (v := (.string s)) rfl (Or.inl ⟨by kernel_rfl, fun V' hSV => by (try dsimp only at hSV); have hcB := HC1.out V' hSV; go_simp⟩) (by assumption) ?_; try simp only [Act.put, sA, sZ, sS]
       refine wpT 18 (v := ?_) rfl (Or.inl ⟨by kernel_rfl, ?_⟩) (by assumption) ?_; rotate_left; (intro w hSw; (try dsimp only at hSw); go_simp; try with_reducible rfl); try simp only [Act.put, sA, sZ, sS]
       refine wpT 19 (v := ?_) rfl (Or.inl ⟨by kernel_rfl, ?_⟩) (by assumption) ?_; rotate_left; (intro w hSw; (try dsimp only at hSw); go_simp; try with_reducible rfl); try simp only [Act.put, sA, sZ, sS]
       refine wpT 20 (v := ?_) rfl (Or.inl ⟨by kernel_rfl, ?_⟩) (by assumption) ?_; rotate_left; (intro w hSw; (try dsimp only at hSw); go_simp; try with_reducible rfl); try simp only [Act.put, sA, sZ, sS]
       refine wpT 21 (v := ?_) rfl (Or.inl ⟨by kernel_rfl, ?_⟩) (by assumption) ?_; rotate_left; (intro w hSw; (try dsimp only at hSw); go_simp; try with_reducible rfl); try simp only [Act.put, sA, sZ, sS]
       refine wpT 22 (v := (.string t)) rfl (Or.inl ⟨by kernel_rfl, fun V' hSV => by (try dsimp only at hSV); have hcB := HC2.out V' hSV; go_simp⟩) (by assumption) ?_; try simp only [Act.put, sA, sZ, sS]
       refine wpT 23 (v := ?_) rfl (Or.inl ⟨by kernel_rfl, ?_⟩) (by assumption) ?_; rotate_left; (intro w hSw; (try dsimp only at hSw); go_simp; try with_reducible rfl); try simp only [Act.put, sA, sZ, sS]
       refine wpT 24 (v := ?_) rfl (Or.inl ⟨by kernel_rfl, ?_⟩) (by assumption) ?_; rotate_left; (intro w hSw; (try dsimp only at hSw); go_simp; try with_reducible rfl); try simp only [Act.put, sA, sZ, sS]
       refine wpT 25 (v := ?_) rfl (Or.inl ⟨by kernel_rfl, ?_⟩) (by assumption) ?_; rotate_left; (intro w hSw; (try dsimp only at hSw); go_simp; try with_reducible rfl); try simp only [Act.put, sA, sZ, sS]
       refine wpT 26 (v := ?_) rfl (Or.inl ⟨by kernel_rfl, ?_⟩) (by assumption) ?_; rotate_left; (intro w hSw; (try dsimp only at hSw); go_simp; try with_reducible rfl); try simp only [Act.put, sA, sZ, sS]
       refine wpAnyH_done (by kernel_rfl) ?_ _
       go_wp2_with fail
       go_meet
       exact ⟨lt, rfl, HDv.out, HV.out⟩
   case rest => as_aux_lemma =>
    obtain ⟨b, rfl, hbd, ho⟩ := hcut
    have HBd := Lib.hid hbd
    have HO2 := Lib.hid (HO.out.trans ho)
    have c0 : wc.cell? ⟨g, o + k * 9, none⟩ = some (.string m.s) := (by rw [HM.out]; exact (ho.cell (a := ⟨g, o + k * 9 + 0, none⟩) HG.out).trans (HCS.out k hkn 0 _ rfl))
    have c1 : wc.cell? ⟨g, o + k * 9 + 1, none⟩ = some (.int .i64 m.n) := (by rw [HM.out]; exact (ho.cell (a := ⟨g, o + k * 9 + 1, none⟩) HG.out).trans (HCS.out k hkn 1 _ rfl))
    have c2 : wc.cell? ⟨g, o + k * 9 + 2, none⟩ = some (.int .i64 m.r) := (by rw [HM.out]; exact (ho.cell (a := ⟨g, o + k * 9 + 2, none⟩) HG.out).trans (HCS.out k hkn 2 _ rfl))
    have c3 : wc.cell? ⟨g, o + k * 9 + 3, none⟩ = some (.int .i64 m.c) := (by rw [HM.out]; exact (ho.cell (a := ⟨g, o + k * 9 + 3, none⟩) HG.out).trans (HCS.out k hkn 3 _ rfl))
    have c4 : wc.cell? ⟨g, o + k * 9 + 4, none⟩ = some (.bool m.lp) := (by rw [HM.out]; exact (ho.cell (a := ⟨g, o + k * 9 + 4, none⟩) HG.out).trans (HCS.out k hkn 4 _ rfl))
    have c5 : wc.cell? ⟨g, o + k * 9 + 5, none⟩ = some (.int .i64 m.a) := (by rw [HM.out]; exact (ho.cell (a := ⟨g, o + k * 9 + 5, none⟩) HG.out).trans (HCS.out k hkn 5 _ rfl))
    have c6 : wc.cell? ⟨g, o + k * 9 + 6, none⟩ = some (.int .i64 m.b) := (by rw [HM.out]; exact (ho.cell (a := ⟨g, o + k * 9 + 6, none⟩) HG.out).trans (HCS.out k hkn 6 _ rfl))
    have c7 : wc.cell? ⟨g, o + k * 9 + 7, none⟩ = some (.int .i64 m.x) := (by rw [HM.out]; exact (ho.cell (a := ⟨g, o + k * 9 + 7, none⟩) HG.out).trans (HCS.out k hkn 7 _ rfl))
    have c8 : wc.cell? ⟨g, o + k * 9 + 8, none⟩ = some (.int .i64 m.y) := (by rw [HM.out]; exact (ho.cell (a := ⟨g, o + k * 9 + 8, none⟩) HG.out).trans (HCS.out k hkn 8 _ rfl))
    clear hbd ho HRg HRM HR9 HOr
    by_cases h3 : (300 : Int) < m.n
    ·go_wp2_with fail
     refine (awake_any _).mono ?_
     rintro e w3 ⟨rfl, ho⟩
     have H3 := Lib.hid (HO2.out.trans ho)
     clear ho
     go_wp2_with fail
     go_ret
     exact ⟨rfl, H3.out⟩
    by_cases h2 : (2 : Int) < m.c
    ·go_wp2_with fail
     refine (awake_any _).mono ?_
     rintro e w3 ⟨rfl, ho⟩
     have H3 := Lib.hid (HO2.out.trans ho)
     clear ho
     go_wp2_with fail
     go_ret
     exact ⟨rfl, H3.out⟩
    have HFw : Hid (∀ i, i < k + 1 → (D i).n ≤ 300 ∧ (D i).c ≤ 2) := Lib.hid fun i hi => (by
     by_cases e : i = k
     ·rw [e, ← HM.out]; omega
     ·exact HSn.out.2.2 i (by omega))
    cases b
    ·have HSn2 : Hid (SeenD D (k + 1) mm false) := Lib.hid ⟨HBd.out, fun h => (by cases h), HFw.out⟩
     go_wp2_with fail
     go_roundw
     case rel => exact ⟨k + 1, mm, false, by omega, by go_num, rfl, rfl, HSn2, HO2⟩
     case measure => simp [intOf]; omega
    ·have hd := HBd.out.1 rfl
     have hr : r = true := HSn.out.1.2 (fun i hi => hd i (by omega))
     have hmm := HSn.out.2.1 hr
     have hok := dirP_ok hd k (by omega)
     have hbd2 := offTo_bd (f := frD D) (n := k + 1) (fun i hi => (dirP_ok hd i hi).fr_le.2)
     have hb1 := hbd2 (k + 1) (Nat.le_refl _)
     rw [← HM.out] at hok
     have HFm := Lib.hid (fun V => Frames_any m hok V)
     obtain ⟨Y, hY⟩ : ∃ Y, Y = offTo (frD D) (k + 1) := ⟨_, rfl⟩
     have hYe : (mm : Int) + (m.fr : Nat) = (Y : Nat) := by
      rw [hmm, hY, HM.out]
      show _ = ((offTo (frD D) k + (D k).fr : Nat) : Int)
      omega
     have HSn2 : Hid (SeenD D (k + 1) Y true) := Lib.hid ⟨HBd.out, fun _ => by rw [hY], HFw.out⟩
     have q1 : wrap64 ((mm : Int) + (m.fr : Nat)) = Y := by rw [hYe, IntWalk.wrap64_in _ (by omega)]
     have q2 : IntKind.i64.wrap ((mm : Int) + (m.fr : Nat)) = Y := by rw [hYe, IntWalk.i64_in _ (by omega)]
     have HQ := Lib.hid (And.intro q1 q2)
     clear hd hr hmm hok hbd2 hb1 hY hYe q1 q2
     go_wp2_with fail
     refine (HFm.out _).mono ?_
     rintro e V ⟨rfl, ho⟩
     have HO3 := Lib.hid (HO2.out.trans ho)
     obtain ⟨q1, q2⟩ := HQ.out
     clear ho
     go_wp2_with fail
     go_roundw
     case rel => exact ⟨k + 1, Y, true, by omega, by go_num, rfl, rfl, HSn2, HO3⟩
     case measure => simp [intOf]; omega
  ·obtain rfl : n = k := by omega
   clear hkn hk
   have HSm0 : Hid ((mm == (K : Int)) = true ↔ (mm = K ∧ ∀ j, j < 0 → (M j : Int) = sz)) := Lib.hid (by simp)
   go_wp2_with fail
   go_loopw [10, 11] (fun sv iv wr => ∃ (i : Nat) (s : Bool), i ≤ K ∧ iv = .int .i64 i ∧ sv = .bool s ∧ Hid (s = true ↔ (mm = K ∧ ∀ j, j < i → (M j : Int) = sz)) ∧ Hid (Old w wr)) (fun _ i _ => K - (intOf i).toNat)
   case atStart => exact ⟨0, _, by omega, by go_num, rfl, HSm0, HO⟩
   case round => as_aux_lemma =>
    clear HSm0 HO
    obtain ⟨i, s, hi, rfl, rfl, HSm, HO⟩ := hrel
    by_cases hiK : i < K
    ·obtain ⟨fg, fo, rfl, hfg, hfc⟩ := (HFr.out.old HO.out).cell (by omega)
     have cf := hfc i hiK
     obtain ⟨QM, hQM⟩ : ∃ x, x = M i := ⟨_, rfl⟩
     rw [← hQM] at cf
     generalize Q i = QQ at cf
     generalize C i = QC at cf
     have i0 : (0 : Int) ≤ i := by omega
     have i1 : (i : Int) < K := by omega
     have HQM := Lib.hid hQM
     clear hfg hfc hQM
     cases s
     ·have HSm2 : Hid (false = true ↔ (mm = K ∧ ∀ j, j < i + 1 → (M j : Int) = sz)) := Lib.hid ⟨fun h => (by cases h), fun h => HSm.out.2 ⟨h.1, fun j hj => h.2 j (by omega)⟩⟩
      go_wp2_with fail
      go_roundw
      case rel => exact ⟨i + 1, false, by omega, by go_num, rfl, HSm2, HO⟩
      case measure => simp [intOf]; omega
     ·obtain ⟨t, ht⟩ : ∃ t, ((QM : Int) == sz) = t := ⟨_, rfl⟩
      have HSm2 : Hid (t = true ↔ (mm = K ∧ ∀ j, j < i + 1 → (M j : Int) = sz)) := Lib.hid (by
       have h1 := HSm.out.1 rfl
       rw [← ht, HQM.out]
       constructor
       ·intro h
        refine ⟨h1.1, fun j hj => ?_⟩
        by_cases e : j = i
        ·rw [e]; simpa using h
        ·exact h1.2 j (by omega)
       ·intro h
        simpa using h.2 i (by omega))
      go_wp2_with fail
      go_roundw
      case rel => exact ⟨i + 1, t, by omega, by go_num, rfl, HSm2, HO⟩
      case measure => simp [intOf]; omega
    ·obtain rfl : K = i := by omega
     clear hiK hi
     have HBu := Lib.hid (Build_any sz p n cap D fp K fc Q M C B wr (HS.out.old HO.out) (by omega) (HFr.out.old HO.out) (by omega))
     go_wp2_with fail
     refine HBu.out.mono ?_
     intro e V hB
     by_cases hz : ¬ (24 ≤ sz ∧ sz ≤ 96)
     ·have e0 : bldI sz D n K M = 12 := by unfold bldI; rw [if_pos hz]
      rw [e0] at hB
      obtain ⟨rfl, ho⟩ : e = .returned (.tuple #[.slice none 0 0, .int .i64 12]) ∧ Old wr V := by
       rcases hB with ⟨_, h1, h2⟩ | ⟨h, _⟩
       ·exact ⟨h1, h2⟩
       ·omega
      have HO2 := Lib.hid (HO.out.trans ho)
      clear hB ho HBu
      by_cases h24 : sz < 24
      ·clear hz
       go_wp2_with fail
       refine (awake_any _).mono ?_
       rintro e w3 ⟨rfl, ho⟩
       have H3 := Lib.hid (HO2.out.trans ho)
       clear ho
       go_wp2_with fail
       go_ret
       exact ⟨rfl, H3.out⟩
      ·have h96 : (96 : Int) < sz := by omega
       clear hz
       go_wp2_with fail
       refine (awake_any _).mono ?_
       rintro e w3 ⟨rfl, ho⟩
       have H3 := Lib.hid (HO2.out.trans ho)
       clear ho
       go_wp2_with fail
       go_ret
       exact ⟨rfl, H3.out⟩
     have hz2 := Classical.not_not.1 hz
     have h24 : ¬ sz < 24 := by omega
     have h96 : ¬ (96 : Int) < sz := by omega
     cases r
     ·have hnd : ¬ dirP D n := fun h => by have := HSn.out.1.2 h; cases this
      have e0 : bldI sz D n K M = 4 := by unfold bldI; rw [if_neg hz, if_pos hnd]
      rw [e0] at hB
      obtain ⟨rfl, ho⟩ : e = .returned (.tuple #[.slice none 0 0, .int .i64 4]) ∧ Old wr V := by
       rcases hB with ⟨_, h1, h2⟩ | ⟨h, _⟩
       ·exact ⟨h1, h2⟩
       ·omega
      have HO2 := Lib.hid (HO.out.trans ho)
      clear hB ho HBu
      clear hz hz2 hnd e0
      go_wp2_with fail
      refine (awake_any _).mono ?_
      rintro e w3 ⟨rfl, ho⟩
      have H3 := Lib.hid (HO2.out.trans ho)
      clear ho
      go_wp2_with fail
      go_ret
      exact ⟨rfl, H3.out⟩
     have HDp := Lib.hid (HSn.out.1.1 rfl)
     have HMm := Lib.hid (HSn.out.2.1 rfl)
     cases s
     ·have hnh : ¬ hvP sz D n K M := fun h => by
       have := HSm.out.2 ⟨by rw [HMm.out, h.1], h.2⟩
       cases this
      have e0 : bldI sz D n K M = 1 := by unfold bldI; rw [if_neg hz, if_neg (fun h => h HDp.out), if_pos hnh]
      rw [e0] at hB
      obtain ⟨rfl, ho⟩ : e = .returned (.tuple #[.slice none 0 0, .int .i64 1]) ∧ Old wr V := by
       rcases hB with ⟨_, h1, h2⟩ | ⟨h, _⟩
       ·exact ⟨h1, h2⟩
       ·omega
      have HO2 := Lib.hid (HO.out.trans ho)
      clear hB ho HBu
      clear hz hz2 hnh e0
      go_wp2_with fail
      refine (awake_any _).mono ?_
      rintro e w3 ⟨rfl, ho⟩
      have H3 := Lib.hid (HO2.out.trans ho)
      clear ho
      go_wp2_with fail
      go_ret
      exact ⟨rfl, H3.out⟩
     have hsm := HSm.out.1 rfl
     have hKe : K = offTo (frD D) n := by have h1 := HMm.out; have h2 := hsm.1; omega
     obtain ⟨z, rfl⟩ := Int.eq_ofNat_of_zero_le (show 0 ≤ sz by omega)
     have hz24 : 24 ≤ z := by omega
     have hz96 : z ≤ 96 := by omega
     have hfw := atTo_few (frD D) (n := n) hz96 n
     have htl := total_le (frD D) z n
     rw [← hKe] at hfw
     have e0 : bldI (z : Int) D n K M = 0 := by
      unfold bldI
      rw [if_neg hz, if_neg (fun h => h HDp.out), if_neg (fun h => h ⟨hKe, hsm.2⟩), if_neg (by rw [Int.toNat_natCast]; omega)]
     rw [e0, Int.toNat_natCast] at hB
     obtain ⟨N, hN⟩ : ∃ N, N = totalAt (frD D) z n := ⟨_, rfl⟩
     unfold BldR at hB
     rw [← hN] at hB htl
     have hNb : N ≤ 4194304 := by omega
     have hNlo : 20 ≤ N := by have := atTo_lo (frD D) z n n; omega
     obtain ⟨g, rfl, FY, hu, hld⟩ : ∃ g, e = .returned (.tuple #[.slice (some ⟨g, 0, none⟩) N N, .int .i64 0]) ∧ LayS wr g N (frD D) z n B (frontF N n z (plD D z n)) K V := by
      rcases hB with ⟨h, _⟩ | ⟨_, g, h1, h2⟩
      ·exact absurd rfl h
      ·exact ⟨g, h1, h2⟩
     have HNe := Lib.hid hN
     have HKe := Lib.hid hKe
     have HFr2 := Lib.hid (HFr.out.same hsm.2)
     have HLd := Lib.hid hld
     have HY : Hid (SlU V (some ⟨g, 0, none⟩) N FY) := Lib.hid ((hu.row.sl 0 N (by omega)).ext fun p hp => by rw [Nat.zero_add])
     have HBy : Hid (Byt FY N) := Lib.hid (laid_byt hld fun i hi => (HFr2.out.row i hi).2.2.2)
     have HOV := Lib.hid (HO.out.trans hu.old)
     clear hB hu hld hfw htl e0 hN hKe hsm hz hz2 HSm HBu HSn HMm
     go_wp2_with fail
     refine (Parse_any (some ⟨g, 0, none⟩) N N FY V HY.out HBy.out (Nat.le_refl _) (by unfold maxLen; omega) (by omega)).mono ?_
     intro e W hprs
     rw [HNe.out] at hprs
     obtain ⟨bb, q, c, im, ci, rfl, hbk, ho⟩ := parse_packed hz24 hz96 (by omega) HDp.out (by have := HLd.out; rw [HNe.out] at this; exact this) hprs
     rw [← HNe.out] at hbk
     have HBk := Lib.hid hbk
     have HW := Lib.hid ho
     have HYW := Lib.hid (HY.out.old ho)
     obtain ⟨s9, hs9⟩ : ∃ s, s = strOfNums (lst FY N) := ⟨_, rfl⟩
     have HCv : Hid (∀ V p2 c, SlU V p2 N FY → N ≤ c → c ≤ maxLen → (convert 24 9 (.slice p2 N c)).run Tryz.prog V = .ok (.string s9) V) := Lib.hid fun V p2 c hV hc hm => (by
      obtain ⟨g2, o2, rfl, _, h2⟩ := hV (by omega)
      rw [hs9]
      exact conv_at h2 (by omega) hc hm)
     clear hbk ho hs9 hprs
     go_upto_region 26 with (fail)
     go_cut [173] (fun v wx => v = .bool false ∧ Old W wx)
     case first => as_aux_lemma =>
      have HSW := Lib.hid (HS.out.old (HOV.out.trans HW.out))
      have HFW := Lib.hid (HFr2.out.old (HOV.out.trans HW.out))
      have HIm := Lib.hid (lawImage_any z n K p cap D fp fc Q C B W.drew hz24 hz96 (HSW.out.old (Old.refl W).drew) (by omega) (dirP_ok HDp.out) (HFW.out.old (Old.refl W).drew) (by rw [← HKe.out]; exact Nat.le_refl _))
      rw [← HNe.out] at HIm
      refine wp_region_held_drew (S := (fun V' => Old W V')) (by kernel_rfl) ?_ (fun hHeld => ?_)
      ·(try dsimp only); exact (Old.refl W).drew
      refine wpT 0 (v := ?_) rfl (Or.inl ⟨by kernel_rfl, ?_⟩) (by assumption) ?_; rotate_left; (intro w hSw; (try dsimp only at hSw); go_simp; try with_reducible rfl); try simp only [Act.put, sA, sZ, sS]
      refine wpT 1 (v := ?_) rfl (Or.inl ⟨by kernel_rfl, ?_⟩) (by assumption) ?_; rotate_left; (intro w hSw; (try dsimp only at hSw); go_simp; try with_reducible rfl); try simp only [Act.put, sA, sZ, sS]
      refine wpT 2 (v := ?_) rfl (Or.inl ⟨by kernel_rfl, ?_⟩) (by assumption) ?_; rotate_left; (intro w hSw; (try dsimp only at hSw); go_simp; try with_reducible rfl); try simp only [Act.put, sA, sZ, sS]
      refine wpT 3 (v := ?_) rfl (Or.inl ⟨by kernel_rfl, ?_⟩) (by assumption) ?_; rotate_left; (intro w hSw; (try dsimp only at hSw); go_simp; try with_reducible rfl); try simp only [Act.put, sA, sZ, sS]
      refine wpT 4 (v := ?_) rfl (Or.inl ⟨by kernel_rfl, ?_⟩) (by assumption) ?_; rotate_left; (intro w hSw; (try dsimp only at hSw); go_simp; try with_reducible rfl); try simp only [Act.put, sA, sZ, sS]
      refine wpT 5 (v := ?_) rfl (Or.inl ⟨by kernel_rfl, ?_⟩) (by assumption) ?_; rotate_left; (intro w hSw; (try dsimp only at hSw); go_simp; try with_reducible rfl); try simp only [Act.put, sA, sZ, sS]
      refine wpT 6 (v := ?_) rfl (Or.inl ⟨by kernel_rfl, ?_⟩) (by assumption) ?_; rotate_left; (intro w hSw; (try dsimp only at hSw); go_simp; try with_reducible rfl); try simp only [Act.put, sA, sZ, sS]
      refine wpT 7 (v := ?_) rfl (Or.inl ⟨by kernel_rfl, ?_⟩) (by assumption) ?_; rotate_left; (intro w hSw; (try dsimp only at hSw); go_simp; try with_reducible rfl); try simp only [Act.put, sA, sZ, sS]
      refine wpT 8 (v := (.string s9)) rfl (Or.inl ⟨by kernel_rfl, fun V' hSV => by (try dsimp only at hSV); have hcB := HCv.out V' _ N (HYW.out.old hSV) (Nat.le_refl _) (by unfold maxLen; omega); go_simp⟩) (by assumption) ?_; try simp only [Act.put, sA, sZ, sS]
      refine wpT 9 (v := ?_) rfl (Or.inl ⟨by kernel_rfl, ?_⟩) (by assumption) ?_; rotate_left; (intro w hSw; (try dsimp only at hSw); go_simp; try with_reducible rfl); try simp only [Act.put, sA, sZ, sS]
      refine wpT 10 (v := ?_) rfl (Or.inl ⟨by kernel_rfl, ?_⟩) (by assumption) ?_; rotate_left; (intro w hSw; (try dsimp only at hSw); go_simp; try with_reducible rfl); try simp only [Act.put, sA, sZ, sS]
      refine wpT 11 (v := ?_) rfl (Or.inl ⟨by kernel_rfl, ?_⟩) (by assumption) ?_; rotate_left; (intro w hSw; (try dsimp only at hSw); go_simp; try with_reducible rfl); try simp only [Act.put, sA, sZ, sS]
      refine wpAnyH_ready (rs := [12]) (by kernel_rfl) (by simp) ?_
      refine AllReadyH.cons (o := ⟨_, _, _, _, _, _⟩) (by rfl) ?_ AllReadyH.nil
      intro K hK
      go_simp
      refine HIm.out.mono ?_
      rintro e V9 ⟨g9, c9, rfl, hc9, hc9m, FZ, hu9, hld9⟩
      have HY9 : Hid (SlU V9 (some ⟨g9, 0, none⟩) N FY) := Lib.hid ((hu9.row.sl 0 N (by omega)).ext fun p hp => by rw [Nat.zero_add]; exact (hld9.one HLd.out (fun _ _ => rfl) p))
      have HO9 := Lib.hid ((Old.refl W).drew.trans hu9.old)
      have HC9 := Lib.hid (And.intro hc9 hc9m)
      clear hu9 hld9
      have hc13 := HCv.out V9 _ c9 HY9.out HC9.out.1 HC9.out.2
      go_wp2_with fail
      refine hK.out _ _ ?_ (fun hHeld => ?_)
      ·(try dsimp only); exact HO9.out
      clear hK K
      try simp only [Act.put, sA, sZ, sS]
      refine wpAnyH_ready (rs := [13]) (by kernel_rfl) (by simp) ?_
      refine AllReadyH.cons (o := ⟨_, _, _, _, _, _⟩) (by rfl) ?_ AllReadyH.nil
      intro K hK
      go_simp
      go_wp2_with fail
      refine hK.out _ _ ?_ (fun hHeld => ?_)
      ·(try dsimp only); exact HO9.out
      clear hK K
      try simp only [Act.put, sA, sZ, sS]
      refine wpT 14 (v := ?_) rfl (Or.inl ⟨by kernel_rfl, ?_⟩) (by assumption) ?_; rotate_left; (intro w hSw; (try dsimp only at hSw); go_simp; try with_reducible rfl); try simp only [Act.put, sA, sZ, sS]
      refine wpT 15 (v := ?_) rfl (Or.inl ⟨by kernel_rfl, ?_⟩) (by assumption) ?_; rotate_left; (intro w hSw; (try dsimp only at hSw); go_simp; try with_reducible rfl); try simp only [Act.put, sA, sZ, sS]
      refine wpAnyH_done (by kernel_rfl) ?_ _
      go_wp2_with fail
      go_meet
      exact ⟨rfl, HO9.out⟩
     case rest => as_aux_lemma =>
      obtain ⟨rfl, ho⟩ := hcut
      have HBc := Lib.hid (HBk.out.old ho)
      have HOw := Lib.hid ((HOV.out.trans HW.out).trans ho)
      have HSc := Lib.hid (HS.out.old HOw.out)
      have HFc := Lib.hid (HFr2.out.old HOw.out)
      have HOr := Lib.hid (Old.refl wc)
      have HBl := Lib.hid (fun (i bl ch T Cc : Nat) hi hT hC hbl hch => bld_at (i := i) (bl := bl) (ch := ch) (T := T) (Cc := Cc) HDp.out HNe.out HKe.out HLd.out hi hT hC hbl hch)
      clear ho HYW HY HOV HW HBk HFr2 HFr HS HO
      go_wp2_with fail
      go_loopw [16, 17] (fun kv iv wr => ∃ i : Nat, i ≤ n ∧ iv = .int .i64 i ∧ kv = .int .i64 (offTo (frD D) i : Nat) ∧ Hid (Old wc wr)) (fun _ i _ => n - (intOf i).toNat)
      case atStart => exact ⟨0, by omega, by go_num, rfl, HOr⟩
      case round => as_aux_lemma =>
       clear HOr
       obtain ⟨i, hi, rfl, rfl, HP⟩ := hrel
       by_cases hin : i < n
       ·obtain ⟨g0, o0, hpe, hg0, hcs⟩ := HSc.out.cell (by omega)
        subst hpe
        have hok := dirP_ok HDp.out i hin
        obtain ⟨T, hT⟩ : ∃ T, T = cnt (D i).n.toNat := ⟨_, rfl⟩
        obtain ⟨Cc, hC⟩ : ∃ T, T = (D i).c.toNat := ⟨_, rfl⟩
        obtain ⟨E, hE⟩ : ∃ T, T = offTo (frD D) i := ⟨_, rfl⟩
        have hE2 : offTo (frD D) (i + 1) = E + T * Cc := by rw [hE, hT, hC]; rfl
        have hcc : (D i).c = (Cc : Int) := by have := hok.c1; omega
        obtain ⟨mn, hmn⟩ : ∃ x, x = (D i).n := ⟨_, rfl⟩
        have hn1 := hok.n1
        have hn2 := hok.n2
        have HCl : Hid (∀ V, Old wc V → V.cell? ⟨g0, o0 + i * 9 + 1, none⟩ = some (.int .i64 mn) ∧ V.cell? ⟨g0, o0 + i * 9 + 3, none⟩ = some (.int .i64 Cc)) := Lib.hid fun V hV => (by
         constructor
         ·rw [hmn]; exact (hV.cell (a := ⟨g0, o0 + i * 9 + 1, none⟩) hg0).trans (hcs i hin 1 _ rfl)
         ·rw [← hcc]; exact (hV.cell (a := ⟨g0, o0 + i * 9 + 3, none⟩) hg0).trans (hcs i hin 3 _ rfl))
        rw [← hmn] at hn1 hn2 hT
        have q2 : (mn + 15) / 16 = (T : Int) := by rw [hT]; unfold cnt; omega
        have q1 : wrap64 ((mn + 15).tdiv 16) = (T : Int) := by
         rw [(tdiv_pos _ _ (by omega)).trans q2, IntWalk.wrap64_in _ (by omega)]
        have HQ := Lib.hid (And.intro q1 q2)
        have HT := Lib.hid (show T = cnt (D i).n.toNat by rw [hT, hmn])
        have HC := Lib.hid hC
        have HE := Lib.hid hE
        have HE2 := Lib.hid hE2
        have HOk := Lib.hid hok
        have hT6 : T ≤ 65536 := by omega
        have hC6 : Cc ≤ 2 := by have := hok.c2; omega
        have hE6 : E ≤ 100 := by
         have := offTo_mono (frD D) hi
         rw [← HKe.out] at this
         omega
        have i0 : (0 : Int) ≤ i := by omega
        have i1 : (i : Int) < n := by omega
        rw [← hE]
        clear hcs hg0 hT hC hE hmn hcc hok q1 q2 hE2
        go_wp2_with fail
        go_loopw [16, 18] (fun kv bv wr => ∃ bl : Nat, bl ≤ T ∧ bv = .int .i64 bl ∧ kv = .int .i64 (E + bl * Cc : Nat) ∧ Hid (Old wc wr)) (fun _ b _ => T - (intOf b).toNat)
        case atStart => exact ⟨0, by omega, by go_num, by rw [Nat.zero_mul, Nat.add_zero], HP⟩
        case round => as_aux_lemma =>
         clear HP
         obtain ⟨bl, hbl, rfl, rfl, HP⟩ := hrel
         obtain ⟨c1, c3⟩ := HCl.out _ HP.out
         obtain ⟨q1, q2⟩ := HQ.out
         by_cases hbT : bl < T
         ·have b1 : (bl : Int) < T := by omega
          obtain ⟨G, hG⟩ : ∃ T, T = E + bl * Cc := ⟨_, rfl⟩
          have HG := Lib.hid hG
          have hG2 : E + (bl + 1) * Cc = G + Cc := by rw [hG, Nat.add_mul, Nat.one_mul]; omega
          have HG2 := Lib.hid hG2
          rw [← hG]
          clear hG hG2
          go_wp2_with fail
          clear c1 c3 q1 q2
          go_loopw [16, 19] (fun kv cv wr => ∃ ch : Nat, ch ≤ Cc ∧ cv = .int .i64 ch ∧ kv = .int .i64 (G + ch : Nat) ∧ Hid (Old wc wr)) (fun _ b _ => Cc - (intOf b).toNat)
          case atStart => exact ⟨0, by omega, by go_num, by rw [Nat.add_zero], HP⟩
          case round => as_aux_lemma =>
           clear HP
           obtain ⟨ch, hch, rfl, rfl, HP⟩ := hrel
           obtain ⟨c1, c3⟩ := HCl.out _ HP.out
           by_cases hcC : ch < Cc
           ·have hA := HBl.out i bl ch T Cc hin HT.out HC.out hbT hcC
            rw [← HE.out] at hA
            obtain ⟨a1, a2, a3, a4⟩ := hA
            have HBy2 := Lib.hid (BBytes_at bb z n N q c im ci (plD D z n) FY wr (HBc.out.old HP.out) hz24 hz96 HBy.out (by omega) i hin (HOk.out.at_ _ _) Cc ch bl (atTo (frD D) z n i) (firstAt (frD D) z n i) (by have h1 := HC.out; have h2 := HOk.out.c1; show (D i).c = (Cc : Int); omega) hcC (by show bl < cnt (D i).n.toNat; rw [← HT.out]; exact hbT) rfl rfl a1 (by omega) a2)
            obtain ⟨X, hX⟩ : ∃ X, X = G + ch := ⟨_, rfl⟩
            have hXe : E + (bl * Cc + ch) = X := by have := HG.out; omega
            rw [hXe] at a3 a4
            obtain ⟨fg, fo, hpe, hfg, hfc⟩ := HFc.out.cell (by omega)
            obtain ⟨r1, r2, r3, _⟩ := HFc.out.row X a3
            have hfX := hfc X a3
            subst hpe
            obtain ⟨s8, hs8⟩ : ∃ s, s = strOfNums (lst (B X) z) := ⟨_, rfl⟩
            have HCv2 : Hid (∀ V p2 c, SlU V p2 z (B X) → z ≤ c → c ≤ maxLen → (convert 24 9 (.slice p2 z c)).run Tryz.prog V = .ok (.string s8) V) := Lib.hid fun V p2 c hV hc hm => (by
             obtain ⟨g2, o2, rfl, _, h2⟩ := hV (by omega)
             rw [hs8]
             exact conv_at h2 (by omega) hc hm)
            have HA4 := Lib.hid a4
            generalize Q X = QQ at hfX r3
            generalize C X = QC at hfX r1 r2
            have HR := Lib.hid (And.intro r1 (And.intro r2 r3))
            have HFX : Hid (∀ V, Old wc V → V.cell? ⟨fg, fo + X, none⟩ = some (.slice QQ z QC)) := Lib.hid fun V hV => (hV.cell (a := ⟨fg, fo + X, none⟩) hfg).trans hfX
            have hXG : G + (ch + 1) = X + 1 := by omega
            have HXG := Lib.hid hXG
            have x0 : (0 : Int) ≤ X := by omega
            have x1 : (X : Int) < K := by omega
            have x2 : X ≤ 100 := by omega
            have x3 : (ch : Int) < Cc := by omega
            rw [← hX]
            clear a1 a2 a3 a4 hX hXe hfX hfg hfc r1 r2 r3 hs8 hXG
            go_wp2_with fail
            refine HBy2.out.mono ?_
            rintro e V ⟨q8, c8, rfl, h81, h82, h83, ho⟩
            have HV := Lib.hid (HP.out.trans ho)
            have H81 := Lib.hid (And.intro h81 h82)
            have HY8 := Lib.hid (h83.ext (G := B X) (fun j hj => HA4.out j hj))
            clear ho h81 h82 h83 c1 c3
            go_upto_region 39 with (fail)
            go_cut [225] (fun v wx => v = .bool false ∧ Old V wx)
            case first => as_aux_lemma =>
             have x4 : decide (K ≤ X) = false := decide_eq_false (by omega)
             refine wp_region_held_drew (S := (fun V' => Old V V')) (by kernel_rfl) ?_ (fun hHeld => ?_)
             ·(try dsimp only); exact (Old.refl V).drew
             refine wpT 0 (v := ?_) rfl (Or.inl ⟨by kernel_rfl, ?_⟩) (by assumption) ?_; rotate_left; (intro w hSw; (try dsimp only at hSw); go_simp; try with_reducible rfl); try simp only [Act.put, sA, sZ, sS]
             refine wpT 1 (v := ?_) rfl (Or.inl ⟨by kernel_rfl, ?_⟩) (by assumption) ?_; rotate_left; (intro w hSw; (try dsimp only at hSw); go_simp; try with_reducible rfl); try simp only [Act.put, sA, sZ, sS]
             refine wpT 2 (v := ?_) rfl (Or.inl ⟨by kernel_rfl, ?_⟩) (by assumption) ?_; rotate_left; (intro w hSw; (try dsimp only at hSw); go_simp; try with_reducible rfl); try simp only [Act.put, sA, sZ, sS]
             refine wpT 3 (v := ?_) rfl (Or.inl ⟨by kernel_rfl, ?_⟩) (by assumption) ?_; rotate_left; (intro w hSw; (try dsimp only at hSw); go_simp; try with_reducible rfl); try simp only [Act.put, sA, sZ, sS]
             refine wpT 4 (v := ?_) rfl (Or.inl ⟨by kernel_rfl, ?_⟩) (by assumption) ?_; rotate_left; (intro w hSw; (try dsimp only at hSw); go_simp; try with_reducible rfl); try simp only [Act.put, sA, sZ, sS]
             refine wpT 5 (v := ?_) rfl (Or.inl ⟨by kernel_rfl, ?_⟩) (by assumption) ?_; rotate_left; (intro w hSw; (try dsimp only at hSw); go_simp; try with_reducible rfl); try simp only [Act.put, sA, sZ, sS]
             refine wpT 6 (v := ?_) rfl (Or.inl ⟨by kernel_rfl, ?_⟩) (by assumption) ?_; rotate_left; (intro w hSw; (try dsimp only at hSw); go_simp; try with_reducible rfl); try simp only [Act.put, sA, sZ, sS]
             refine wpT 7 (v := ?_) rfl (Or.inl ⟨by kernel_rfl, ?_⟩) (by assumption) ?_; rotate_left; (intro w hSw; (try dsimp only at hSw); go_simp; try with_reducible rfl); try simp only [Act.put, sA, sZ, sS]
             refine wpT 8 (v := ?_) rfl (Or.inl ⟨by kernel_rfl, ?_⟩) (by assumption) ?_; rotate_left; (intro w hSw; (try dsimp only at hSw); go_simp; try with_reducible rfl); try simp only [Act.put, sA, sZ, sS]
             refine wpT 9 (v := ?_) rfl (Or.inl ⟨by kernel_rfl, ?_⟩) (by assumption) ?_; rotate_left; (intro w hSw; (try dsimp only at hSw); go_simp; try with_reducible rfl); try simp only [Act.put, sA, sZ, sS]
             refine wpT 10 (v := (.string s8)) rfl (Or.inl ⟨by kernel_rfl, fun V' hSV => by (try dsimp only at hSV); have hcB := HCv2.out V' _ c8 (HY8.out.old hSV) H81.out.1 H81.out.2; go_simp⟩) (by assumption) ?_; try simp only [Act.put, sA, sZ, sS]
             refine wpT 11 (v := ?_) rfl (Or.inl ⟨by kernel_rfl, ?_⟩) (by assumption) ?_; rotate_left; (intro w hSw; (try dsimp only at hSw); go_simp; try with_reducible rfl); try simp only [Act.put, sA, sZ, sS]
             refine wpT 12 (v := ?_) rfl (Or.inl ⟨by kernel_rfl, ?_⟩) (by assumption) ?_; rotate_left; (intro w hSw; (try dsimp only at hSw); go_simp; try with_reducible rfl); try simp only [Act.put, sA, sZ, sS]
             refine wpT 13 (v := ?_) rfl (Or.inl ⟨by kernel_rfl, ?_⟩) (by assumption) ?_; rotate_left; (intro w hSw; (try dsimp only at hSw); go_simp; try with_reducible rfl); try simp only [Act.put, sA, sZ, sS]
             refine wpT 14 (v := (.slice QQ z QC)) rfl (Or.inl ⟨by kernel_rfl, fun V' hSV => by (try dsimp only at hSV); have hcB := HFX.out V' (HV.out.trans hSV); go_simp⟩) (by assumption) ?_; try simp only [Act.put, sA, sZ, sS]
             refine wpT 15 (v := (.string s8)) rfl (Or.inl ⟨by kernel_rfl, fun V' hSV => by (try dsimp only at hSV); have hcB := HCv2.out V' _ QC (HR.out.2.2.old (HV.out.trans hSV)) HR.out.1 HR.out.2.1; go_simp⟩) (by assumption) ?_; try simp only [Act.put, sA, sZ, sS]
             refine wpT 16 (v := ?_) rfl (Or.inl ⟨by kernel_rfl, ?_⟩) (by assumption) ?_; rotate_left; (intro w hSw; (try dsimp only at hSw); go_simp; try with_reducible rfl); try simp only [Act.put, sA, sZ, sS]
             refine wpT 17 (v := ?_) rfl (Or.inl ⟨by kernel_rfl, ?_⟩) (by assumption) ?_; rotate_left; (intro w hSw; (try dsimp only at hSw); go_simp; try with_reducible rfl); try simp only [Act.put, sA, sZ, sS]
             refine wpAnyH_done (by kernel_rfl) ?_ _
             go_wp2_with fail
             go_meet
             exact ⟨rfl, (Old.refl V).drew⟩
            case rest => as_aux_lemma =>
             obtain ⟨rfl, ho⟩ := hcut
             have HV2 := Lib.hid (HV.out.trans ho)
             clear ho
             go_wp2_with fail
             go_roundw
             case rel => exact ⟨ch + 1, by omega, by go_num, by rw [HXG.out]; go_num, HV2⟩
             case measure => simp [intOf]; omega
           ·obtain rfl : Cc = ch := by omega
            clear hcC hch
            go_wp2_with fail
            go_roundw
            case rel => exact ⟨bl + 1, by omega, by go_num, by rw [HG2.out], HP⟩
            case measure => simp [intOf]; omega
         ·obtain rfl : T = bl := by omega
          clear hbT hbl
          go_wp2_with fail
          go_roundw
          case rel => exact ⟨i + 1, by omega, by go_num, by rw [HE2.out], HP⟩
          case measure => simp [intOf]; omega
       ·obtain rfl : n = i := by omega
        have hKo : ((offTo (frD D) n : Nat) : Int) = K := by rw [← HKe.out]
        rw [hKo]
        clear hin hi hKo
        go_wp2_with fail
        refine (awake_any _).mono ?_
        rintro e w3 ⟨rfl, ho⟩
        have H3 := Lib.hid ((HOw.out.trans HP.out).trans ho)
        clear ho
        go_wp2_with fail
        go_ret
        exact ⟨rfl, H3.out⟩
end Go.Proofs.YtanmbhakjfhhdaaGreatDoor
