/- DiskPlays: whatever fails, is spoilt and healed, each reading is as the document's (16.1, 16.2). No condition. -/
import Derived.Test.YtnccbghpdfcaeaaRows
import Derived.Test.YtnccbghpdfcaeaaAwake
import Derived.Test.YtnccbghpdfcaeaaSync
import Derived.Test.YtnccbghpdfcaeaaConvL
import Derived.Deep.DeepCutAuto
import Derived.Deep.CutBlock
import Derived.BigQuiet
namespace Go.Proofs.Ytnccbghpdfcaeaa.diskPlays
open Go.ChangeShapes Go.WideShapes Go.ChangeAt Go.RowKit
set_option linter.unusedVariables false
set_option linter.unusedSimpArgs false

set_option maxRecDepth 100000 in
set_option maxHeartbeats 8000000 in

/-- The script, to be read. -/
def SlOps (w : World) (p : Option Addr) (n : Nat) (K G N Z : Nat → Int) : Prop := 0 < n → ∃ b o, p = some ⟨b, o, none⟩ ∧ b < w.heap.size ∧ ∀ i, i < n → w.cell? ⟨b, o + i * 4, none⟩ = some (.int .i64 (K i)) ∧ w.cell? ⟨b, o + i * 4 + 1, none⟩ = some (.int .i64 (G i)) ∧ w.cell? ⟨b, o + i * 4 + 2, none⟩ = some (.int .i64 (N i)) ∧ w.cell? ⟨b, o + i * 4 + 3, none⟩ = some (.int .u8 (Z i))
theorem SlOps.old {w w' : World} {p : Option Addr} {n : Nat} {K G N Z : Nat → Int} (h : SlOps w p n K G N Z) (k : Old w w') : SlOps w' p n K G N Z := fun hn => by
  obtain ⟨b, o, h1, h2, h3⟩ := h hn
  refine ⟨b, o, h1, Nat.lt_of_lt_of_le h2 k.size, fun i hi => ?_⟩
  obtain ⟨a0, a1, a2, a3⟩ := h3 i hi
  exact ⟨(k.cell (a := ⟨b, o + i * 4, none⟩) h2).trans a0, (k.cell (a := ⟨b, o + i * 4 + 1, none⟩) h2).trans a1, (k.cell (a := ⟨b, o + i * 4 + 2, none⟩) h2).trans a2, (k.cell (a := ⟨b, o + i * 4 + 3, none⟩) h2).trans a3⟩
theorem open_ops {H : Type} {enc : TypeId × Value → H} {W : World} {base : Nat} {v : Value} {d : DataW H} {p : List MemPlace} (hv : Value.okWide Try.prog W .any base 23 v)
    (h : DataW.Trod enc Try.prog W 0 (fun _ => true) true 23 v d p) (hlt : ∀ x ∈ p, x.block < W.heap.size) :
    ∃ q n cap K G N Z, v = .slice q n cap ∧ SlOps W q n K G N Z ∧ (∀ i, i < n → (-9223372036854775808 ≤ N i ∧ N i ≤ 9223372036854775807) ∧ 0 ≤ Z i ∧ Z i ≤ 255) ∧ n ≤ 9223372036854775807 := by
  obtain ⟨q, n, cap, rfl, hnc, hcm, hc⟩ := open_structs Try.underlying23 Try.underlying31 (by kernel_rfl) (by kernel_rfl) (by decide) hv h hlt
  unfold maxLen at hcm
  rcases Nat.eq_zero_or_pos n with hn | hn
  · subst hn
    exact ⟨q, 0, cap, fun _ => 0, fun _ => 0, fun _ => 0, fun _ => 0, rfl, fun h => absurd h (by omega), fun i hi => absurd hi (by omega), by omega⟩
  · obtain ⟨b, off, rfl, hb, hcell⟩ := hc hn
    have each : ∀ i, ∃ x : Int × Int × Int × Int, i < n → (W.cell? ⟨b, off + i * 4, none⟩ = some (.int .i64 x.1) ∧ W.cell? ⟨b, off + i * 4 + 1, none⟩ = some (.int .i64 x.2.1) ∧ W.cell? ⟨b, off + i * 4 + 2, none⟩ = some (.int .i64 x.2.2.1) ∧ W.cell? ⟨b, off + i * 4 + 3, none⟩ = some (.int .u8 x.2.2.2)) ∧ (-9223372036854775808 ≤ x.2.2.1 ∧ x.2.2.1 ≤ 9223372036854775807) ∧ 0 ≤ x.2.2.2 ∧ x.2.2.2 ≤ 255 := by
      intro i
      by_cases hi : i < n
      · obtain ⟨u0, y0, k0, c0, _, t0⟩ := hcell i hi 0 _ rfl
        obtain ⟨u1, y1, k1, c1, _, t1⟩ := hcell i hi 1 _ rfl
        obtain ⟨u2, y2, k2, c2, _, t2⟩ := hcell i hi 2 _ rfl
        obtain ⟨u3, y3, k3, c3, _, t3⟩ := hcell i hi 3 _ rfl
        obtain ⟨x0, e0, _, w0⟩ := DataW.trod_int Try.underlying3 t0
        obtain ⟨x1, e1, _, w1⟩ := DataW.trod_int Try.underlying3 t1
        obtain ⟨x2, e2, _, w2⟩ := DataW.trod_int Try.underlying3 t2
        obtain ⟨x3, e3, _, w3⟩ := DataW.trod_int Try.underlying5 t3
        simp only [List.cons.injEq, and_true] at e0 e1 e2 e3
        subst e0 e1 e2 e3
        exact ⟨(x0, x1, x2, x3), fun _ => ⟨⟨c0, c1, c2, c3⟩, i64_of w2, bytes_of (xs := [x3]) (fun y hy => by rw [List.mem_singleton.1 hy]; exact w3) x3 (by simp)⟩⟩
      · exact ⟨(0, 0, 0, 0), fun h => absurd h hi⟩
    obtain ⟨X, hX⟩ := Classical.axiomOfChoice each
    exact ⟨some ⟨b, off, none⟩, n, cap, fun i => (X i).1, fun i => (X i).2.1, fun i => (X i).2.2.1, fun i => (X i).2.2.2, rfl, fun _ => ⟨b, off, rfl, hb, fun i hi => (hX i hi).1⟩, fun i hi => (hX i hi).2, by omega⟩
/-- The two disks lie apart. -/
structure Ap (b m : Nat) (p : Option Addr) (B : PlB) (N : Nat) : Prop where
  lb : b < B.q ∧ b < B.gf ∧ b < B.ga ∧ b < B.gx
  lm : m < B.q ∧ m < B.gf ∧ m < B.ga ∧ m < B.gx
  lp : ∀ a, 0 < N → p = some a → a.block < B.q ∧ a.block < B.gf ∧ a.block < B.ga ∧ a.block < B.gx
  li : ∀ a, 0 < N → B.pi = some a → b < a.block ∧ m < a.block
theorem Ap.plain {b m : Nat} {p : Option Addr} {B : PlB} {N : Nat} (h : Ap b m p B N) {w w' : World} {x : Pln} (hN : x.N = N) (hp : PlAt w B x) (k : Kept (butD w b m) w w') : PlAt w' B x := by
  obtain ⟨l1, l2, l3, l4⟩ := hp.lts
  have hb := h.lb
  have hm := h.lm
  refine hp.kept k ⟨l1, ?_, ?_⟩ ⟨l2, ?_, ?_⟩ ⟨l3, ?_, ?_⟩ ⟨l4, ?_, ?_⟩ (fun a hn ha => ⟨hp.ilt a hn ha, ?_, ?_⟩)
  all_goals first | omega | skip
  · have := (h.li a (by omega) ha).1; omega
  · have := (h.li a (by omega) ha).2; omega
theorem Ap.disk {b m : Nat} {p : Option Addr} {B : PlB} {N : Nat} (h : Ap b m p B N) {w w' : World} {c : Nat} {d : Dsk} (hN : d.N = N) (hd : DkAt w b m p c d) (k : Kept (butP w B) w w') : DkAt w' b m p c d := by
  have hb := h.lb
  have hm := h.lm
  refine hd.kept k ⟨hd.ltb, ?_, ?_, ?_, ?_⟩ ⟨hd.map.lt, ?_, ?_, ?_, ?_⟩ (fun a hn ha => ⟨hd.plt a hn ha, ?_, ?_, ?_, ?_⟩)
  all_goals first | omega | skip
  all_goals (have := h.lp a (by omega) ha; omega)
structure PlR (w : World) (b m : Nat) (p : Option Addr) (c : Nat) (B : PlB) (N : Nat) (wr : World) : Prop where
  ex : ∃ d x, DkAt wr b m p c d ∧ PlAt wr B x ∧ Sync d x ∧ d.N = N
  old : Old w wr
theorem butD_m {w w' : World} {b m : Nat} (k : Kept (fun j => j < w.heap.size ∧ j ≠ m) w w') : Kept (butD w b m) w w' := k.mono fun j hj => ⟨hj.1, hj.2.2⟩
theorem old_D {w w1 w2 : World} {b m : Nat} (o : Old w w1) (k : Kept (butD w1 b m) w1 w2) (hb : w.heap.size ≤ b) (hm : w.heap.size ≤ m) : Old w w2 := o.after k fun j hj => ⟨Nat.lt_of_lt_of_le hj o.size, by omega, by omega⟩
theorem old_P {w w1 w2 : World} {B : PlB} (o : Old w w1) (k : Kept (butP w1 B) w1 w2) (h : w.heap.size ≤ B.q ∧ w.heap.size ≤ B.gf ∧ w.heap.size ≤ B.ga ∧ w.heap.size ≤ B.gx) : Old w w2 := o.after k fun j hj => ⟨Nat.lt_of_lt_of_le hj o.size, by omega, by omega, by omega, by omega⟩
theorem yieldsIf_neq_same {P : Program} {ops : Array Oper} {S : World → Prop} {op : Oper} {a : Act} (hw : Region.wanted op (yielded ops a.tmps) = true) (t u : TypeId) (x y : Operand) (ho : op.op = .binOp .neq t x y u) (s : ByteArray) (hx : a.eval x = .string s) (hy : a.eval y = .string s) : YieldsIf P ops S op (.bool false) a :=
  .inl ⟨hw, fun w hw' => by
    unfold execOp
    simp [ho, hx, hy, binOp, Op.stringOp, eqGuard]⟩
theorem uAt_slI {w : World} {g n c : Nat} {F : Nat → Int} (h : UAt w g n F) (h1 : n ≤ c) (h2 : c ≤ maxLen) : SlI w .u8 (.slice (some ⟨g, 0, none⟩) n c) (lst F n) :=
  ((h.sl 0 n (by omega)).ext (G := F) fun j _ => by rw [Nat.zero_add]).slI h1 h2
/-- The image, cut. -/
def B0 (w : World) (v : Value) (wx : World) : Prop := w = wx ∧ ∃ p m cap F, v = .slice p m cap ∧ SlU w p m F ∧ Byt F m ∧ m ≤ 500 ∧ m ≤ cap
set_option maxRecDepth 100000 in
set_option maxHeartbeats 8000000 in
theorem walk (xs : List Int) (p : Option Addr) (n cap : Nat) (p2 : Option Addr) (n2 cap2 : Nat) (K G Nn Z : Nat → Int) (w : World) (hv : SlI w .u8 (.slice p n cap) xs) (hbt : ∀ x ∈ xs, 0 ≤ x ∧ x ≤ 255) (hcap : n ≤ cap) (hm : cap ≤ maxLen)
    (hops : SlOps w p2 n2 K G Nn Z) (hrg : ∀ i, i < n2 → (-9223372036854775808 ≤ Nn i ∧ Nn i ≤ 9223372036854775807) ∧ 0 ≤ Z i ∧ Z i ≤ 255) (hn2 : n2 ≤ 9223372036854775807) :
    Calls Try.prog 3 #[.slice p n cap, .slice p2 n2 cap2] w fun e w' => e = .returned (.bool true) ∧ Old w w' := by
  obtain ⟨hU, hl⟩ := hv.slU
  have HU := Lib.hid hU
  have HBy : Hid (Byt (fun j => xs.getD j 0) n) := Lib.hid fun j hj => hbt _ (by
    show xs.getD j 0 ∈ xs
    rw [List.getD_eq_getElem?_getD, List.getElem?_eq_getElem (by omega)]; exact List.getElem_mem _)
  have HOp := Lib.hid hops
  have HRg := Lib.hid hrg
  have HOs : Hid ((Try.prog.info? 31).map (·.size) = some 4) := Lib.hid (by kernel_rfl)
  generalize (fun j => xs.getD j 0) = F0 at HU HBy
  clear hv hbt hU hl hops hrg
  go_enter Try.func3, Try.ntmps3
  unfold maxLen at hm
  go_upto_if 16 with (fail)
  go_cut [0] (fun v0 wx => B0 w v0 wx)
  case first =>
    by_cases hlen : n ≤ 500
    · have hl31 : ¬ (500 : Int) < (n : Int) := by omega
      go_wp2_with fail
      go_meet
      exact ⟨rfl, p, n, cap, F0, rfl, HU.out, HBy.out, hlen, hcap⟩
    · obtain ⟨b, off, rfl, hb, hc⟩ := HU.out (by omega)
      have hv' : Hid (SlU w (some ⟨b, off, none⟩) 500 F0) := Lib.hid fun _ => ⟨b, off, rfl, hb, fun j hj => hc j (by omega)⟩
      clear hb hc
      go_wp2_with fail
      go_meet
      exact ⟨rfl, _, 500, cap, F0, rfl, hv'.out, fun j hj => HBy.out j (by omega), Nat.le_refl _, by omega⟩
  case rest =>
    obtain ⟨rfl, p, m0, cap, F, rfl, hv, hbt, hm5, hmc⟩ := hcut
    have HV := Lib.hid hv
    have HB := Lib.hid hbt
    clear hv hbt HU HBy hcap hm
    go_wp2_with fail
    refine (DNew_ok p m0 cap F w HV.out (by omega) hmc HB.out).mono ?_
    rintro e w1 ⟨m, rfl, hlt, hd, ho⟩
    obtain ⟨pp, hpp⟩ : ∃ pp : Option Addr, pp = some ⟨w.heap.size, 0, none⟩ := ⟨_, rfl⟩
    rw [← hpp] at hd
    obtain ⟨c, hc⟩ : ∃ c, c = pgs m0 := ⟨_, rfl⟩
    rw [← hc] at hd
    obtain ⟨b, hb⟩ : ∃ b, b = m + 1 := ⟨_, rfl⟩
    rw [← hb] at hd ⊢
    have HD := Lib.hid hd
    have HO := Lib.hid ho
    have HP := Lib.hid (And.intro hpp (And.intro hb hlt))
    clear hd ho hpp hlt hb
    go_wp2_with fail
    refine (made_any p m0 cap F w1 (HV.out.old HO.out) hm5 hmc).mono ?_
    rintro e w2 ⟨B, rfl, hpl, hge, hgi, ho⟩
    obtain ⟨N, hN⟩ : ∃ N, N = pgs m0 := ⟨_, rfl⟩
    have hN8 : N ≤ 8 := by have : pgs m0 = (m0 + 63) / 64 := rfl; omega
    have HAp : Hid (Ap b m pp B N) := Lib.hid (by
      have h1 := HD.out.ltb
      have h2 := HD.out.map.lt
      have h3 := HD.out.plt
      refine ⟨by omega, by omega, fun a hn ha => ?_, fun a hn ha => ?_⟩
      · have := h3 a (by show 0 < pgs m0; omega) ha; omega
      · have := hgi a (by omega) ha; omega)
    have HGe : Hid ((w.heap.size ≤ b ∧ w.heap.size ≤ m) ∧ w.heap.size ≤ B.q ∧ w.heap.size ≤ B.gf ∧ w.heap.size ≤ B.ga ∧ w.heap.size ≤ B.gx) := Lib.hid (by
      have h1 := HP.out
      have h2 := HO.out.size
      omega)
    have HR : Hid (PlR w b m pp c B N w2) := Lib.hid ⟨⟨dk0 m0 F, pl0 m0 F, HD.out.old ho, hpl, sync0 m0 F, hN.symm⟩, HO.out.trans ho⟩
    clear hpl hge hgi ho HD HP HO HV HB hN hc hm5 hmc
    obtain ⟨w0, rfl⟩ : ∃ V, V = w2 := ⟨_, rfl⟩
    go_wp2_with fail
    go_loopw [8] (fun i wr => ∃ k : Nat, k ≤ n2 ∧ k ≤ 60 ∧ i = .int .i64 k ∧ Hid (PlR w b m pp c B N wr)) (fun i _ => 60 - (intOf i).toNat)
    case atStart => exact ⟨0, by omega, by omega, rfl, HR⟩
    case round =>
      obtain ⟨k, hk2, hk60, rfl, HR1⟩ := hrel
      clear HR
      go_upto_region 8 with (fail)
      go_cut [39] (fun v wx => v = .bool (decide (k < n2 ∧ k < 60)) ∧ wr = wx)
      case first =>
        by_cases c1 : k < n2
        · by_cases c2 : k < 60
          · have a1 : (k : Int) < n2 := by omega
            have a2 : (k : Int) < 60 := by omega
            go_wp2_with fail
            go_meet
            exact ⟨congrArg Value.bool (decide_eq_true ⟨c1, c2⟩).symm, rfl⟩
          · have a1 : (k : Int) < n2 := by omega
            have a2 : ¬ (k : Int) < 60 := by omega
            go_wp2_with fail
            go_meet
            exact ⟨congrArg Value.bool (decide_eq_false (fun h => c2 h.2)).symm, rfl⟩
        · have a1 : ¬ (k : Int) < n2 := by omega
          have d1 : decide ((k : Int) < n2) = false := decide_eq_false a1
          go_wp2_with fail
          go_meet
          exact ⟨congrArg Value.bool (decide_eq_false (fun h => c1 h.1)).symm, rfl⟩
      case rest =>
        obtain ⟨rfl, rfl⟩ := hcut
        by_cases hin : k < n2 ∧ k < 60
        · rw [decide_eq_true hin]
          obtain ⟨bo, oo, hpo, hbo, hco⟩ := (HOp.out.old HR1.out.old) (by omega)
          obtain ⟨k0, k1, k2, k3⟩ := hco k hin.1
          have hrk := HRg.out k hin.1
          have HRk := Lib.hid hrk
          have hkn : (k : Int) < n2 := by omega
          have hk0 : (0 : Int) ≤ k := by omega
          subst hpo
          generalize K k = kd at *
          generalize G k = pg at *
          generalize Nn k = n' at *
          generalize Z k = z at *
          obtain ⟨g, hg⟩ : ∃ g, g = wr.heap.size := ⟨_, rfl⟩
          have HNg : Hid ((b < g ∧ m < g) ∧ B.q < g ∧ B.gf < g ∧ B.ga < g ∧ B.gx < g) := Lib.hid (by
            obtain ⟨d, x, h1, h2, _⟩ := HR1.out.ex
            have := h1.ltb
            have := h1.map.lt
            have := h2.lts
            omega)
          have HBx := Lib.hid (heap_alloc_new wr (.cells #[.int .i64 kd, .int .i64 pg, .int .i64 n', .int .u8 z] 31))
          have HR2 : Hid (PlR w b m pp c B N (wr.alloc (.cells #[.int .i64 kd, .int .i64 pg, .int .i64 n', .int .u8 z] 31))) := Lib.hid (by
            obtain ⟨d, x, h1, h2, h3, h4⟩ := HR1.out.ex
            exact ⟨⟨d, x, h1.old (Old.alloc _ _), h2.old (Old.alloc _ _), h3, h4⟩, HR1.out.old.alloc' _⟩)
          clear hco hbo HR1 hrk
          go_upto_region 11 with (fail)
          generalize wr.alloc (.cells #[.int .i64 kd, .int .i64 pg, .int .i64 n', .int .u8 z] 31) = W2 at *
          rw [← hg] at HBx ⊢
          clear hg
          obtain ⟨e0, e1, e2, e3⟩ := cell4 HBx.out
          obtain ⟨d, x, h1, h2, h3, h4⟩ := HR2.out.ex
          have HD := Lib.hid h1
          have HP := Lib.hid h2
          have HOw := Lib.hid HR2.out.old
          by_cases hkd : 3 ≤ kd ∧ kd ≤ 5
          · obtain ⟨d', x', er, hs', hN', hc1, hc2⟩ := same_other b m pp c B h3 (by omega) kd pg n' z hkd HRk.out.1 HRk.out.2
            have HC1 := Lib.hid (hc1 W2.drew (HD.out.old (Old.drew (Old.refl W2))))
            have HC2 := Lib.hid hc2
            have HS := Lib.hid (And.intro hs' (hN'.trans h4))
            have HxN := Lib.hid (show x.N = N by rw [← h3.N]; exact h4)
            have HdN := Lib.hid (show d'.N = N from hN'.trans h4)
            have HBd := Lib.hid (show W2.drew.heap[g]? = _ from HBx.out)
            have hne : (er != er) = false := by simp
            have q0 : decide (3 ≤ kd) = true := decide_eq_true hkd.1
            have q1 : kd ≤ 5 := hkd.2
            have q1' : decide (kd ≤ 5) = true := decide_eq_true hkd.2
            have q2 : 3 ≤ kd := hkd.1
            clear h1 h2 h3 h4 hs' hN' hc1 hc2 hkd k0 k1 k2 k3 HR2
            go_upto_region 12 with (fail)
            refine wp_region_held_drew (S := (fun V => V.heap[g]? = some (.cells #[.int .i64 kd, .int .i64 pg, .int .i64 n', .int .u8 z] 31 (0, 0)))) (by kernel_rfl) ?_ (fun hHeld => ?_)
            · (try dsimp only); exact HBd.out
            refine wpAnyH_take (i := 0) (oi := ⟨some _, _, _, _, _, _⟩) (v := ?_) rfl (by kernel_rfl) (by kernel_rfl) (by kernel_rfl) (fun _ _ _ h => h) (Or.inl ⟨by kernel_rfl, ?_⟩) (by assumption) ?_; rotate_left; (intro w hSw; (try dsimp only at hSw); go_simp; try with_reducible rfl); try simp only [Act.put, List.setIfInBounds_toArray, List.set_cons_zero, List.set_cons_succ]
            refine wpAnyH_take (i := 1) (oi := ⟨some _, _, _, _, _, _⟩) (v := .agg #[.int .i64 kd, .int .i64 pg, .int .i64 n', .int .u8 z]) rfl (by kernel_rfl) (by kernel_rfl) (by kernel_rfl) (fun _ _ _ h => h) (yieldsIf_load_row (by kernel_rfl) 31 (.tmp 9) rfl g rfl 31 #[.int .i64 kd, .int .i64 pg, .int .i64 n', .int .u8 z] (0, 0) _ (fun _ h => h) Try.underlying31 rfl HOs.out) (by assumption) ?_; try simp only [Act.put, List.setIfInBounds_toArray, List.set_cons_zero, List.set_cons_succ]
            refine wpAnyH_take (i := 3) (oi := ⟨some _, _, _, _, _, _⟩) (v := ?_) rfl (by kernel_rfl) (by kernel_rfl) (by kernel_rfl) (fun _ _ _ h => h) (Or.inl ⟨by kernel_rfl, ?_⟩) (by assumption) ?_; rotate_left; (intro w hSw; (try dsimp only at hSw); go_simp; try with_reducible rfl); try simp only [Act.put, List.setIfInBounds_toArray, List.set_cons_zero, List.set_cons_succ]
            refine wpAnyH_take (i := 4) (oi := ⟨some _, _, _, _, _, _⟩) (v := .agg #[.int .i64 kd, .int .i64 pg, .int .i64 n', .int .u8 z]) rfl (by kernel_rfl) (by kernel_rfl) (by kernel_rfl) (fun _ _ _ h => h) (yieldsIf_load_row (by kernel_rfl) 31 (.tmp 9) rfl g rfl 31 #[.int .i64 kd, .int .i64 pg, .int .i64 n', .int .u8 z] (0, 0) _ (fun _ h => h) Try.underlying31 rfl HOs.out) (by assumption) ?_; try simp only [Act.put, List.setIfInBounds_toArray, List.set_cons_zero, List.set_cons_succ]
            refine wpAnyH_ready (rs := [2]) (by kernel_rfl) (by simp) ?_
            refine AllReadyH.cons (o := ⟨_, _, _, _, _, _⟩) (by rfl) ?_ AllReadyH.nil
            intro K hK
            go_simp
            refine HC1.out.mono ?_
            rintro e w3 ⟨rfl, hd3, hk3⟩
            have hk3 := butD_m (b := b) hk3
            have HK3 := Lib.hid hk3
            have HD3 := Lib.hid hd3
            have HP3 := Lib.hid (HAp.out.plain HxN.out (HP.out.old (Old.drew (Old.refl W2))) hk3)
            have HO3 := Lib.hid (old_D HOw.out.drew hk3 HGe.out.1.1 HGe.out.1.2)
            have HB3 : Hid (w3.heap[g]? = some (.cells #[.int .i64 kd, .int .i64 pg, .int .i64 n', .int .u8 z] 31 (0, 0))) := Lib.hid ((hk3.block g ⟨lt_of_block HBd.out, by have := HD.out.ltb; have := HNg.out.1.1; omega, by have := HNg.out.1.2; omega⟩).trans HBd.out)
            clear hd3 hk3 HC1
            refine hK.out _ _ ?_ (fun hHeld => ?_)
            · (try dsimp only); exact HB3.out
            clear hK K
            try simp only [Act.put, List.setIfInBounds_toArray, List.set_cons_zero, List.set_cons_succ]
            refine wpAnyH_ready (rs := [5]) (by kernel_rfl) (by simp) ?_
            refine AllReadyH.cons (o := ⟨_, _, _, _, _, _⟩) (by rfl) ?_ AllReadyH.nil
            intro K hK
            go_simp
            refine (HC2.out w3 HP3.out).mono ?_
            rintro e w4 ⟨rfl, hp4, hk4⟩
            have HN4 : Hid (PlR w b m pp c B N w4) := Lib.hid ⟨⟨d', x', HAp.out.disk HdN.out HD3.out hk4, hp4, HS.out.1, HS.out.2⟩, old_P HO3.out hk4 HGe.out.2⟩
            have HB4 : Hid (w4.heap[g]? = some (.cells #[.int .i64 kd, .int .i64 pg, .int .i64 n', .int .u8 z] 31 (0, 0))) := Lib.hid ((hk4.block g ⟨lt_of_block HB3.out, by have := HNg.out; omega, by have := HNg.out; omega, by have := HNg.out; omega, by have := HNg.out; omega⟩).trans HB3.out)
            clear hp4 hk4 HC2
            refine hK.out _ _ ?_ (fun hHeld => ?_)
            · (try dsimp only); exact HB4.out
            clear hK K
            try simp only [Act.put, List.setIfInBounds_toArray, List.set_cons_zero, List.set_cons_succ]
            refine wpAnyH_take (i := 6) (oi := ⟨some _, _, _, _, _, _⟩) (v := ?_) rfl (by kernel_rfl) (by kernel_rfl) (by kernel_rfl) (fun _ _ _ h => h) (Or.inl ⟨by kernel_rfl, ?_⟩) (by assumption) ?_; rotate_left; (intro w hSw; (try dsimp only at hSw); go_simp; try with_reducible rfl); try simp only [Act.put, List.setIfInBounds_toArray, List.set_cons_zero, List.set_cons_succ]
            refine wpAnyH_done (by kernel_rfl) ?_ _
            go_wp2_with fail
            go_roundw
            case rel => exact ⟨k + 1, by omega, by omega, by go_num, HN4⟩
            case measure => simp [intOf]; omega
          · go_cut [53] (fun v wx => v = .bool false ∧ W2 = wx)
            case first =>
              by_cases c1 : 3 ≤ kd
              · have q0 : decide (3 ≤ kd) = true := decide_eq_true c1
                have q1 : ¬ kd ≤ 5 := fun h => hkd ⟨c1, h⟩
                have q1' : decide (kd ≤ 5) = false := decide_eq_false q1
                go_wp2_with fail
                go_meet
                exact ⟨rfl, rfl⟩
              · have q0 : decide (3 ≤ kd) = false := decide_eq_false c1
                go_wp2_with fail
                go_meet
                exact ⟨rfl, rfl⟩
            case rest =>
              obtain ⟨rfl, rfl⟩ := hcut
              obtain ⟨d', x', hs', hN', hor⟩ := same_read b m pp c B h3 (by omega) HD.out.byt HD.out.ok pg
              have HS := Lib.hid (And.intro hs' (hN'.trans h4))
              have HxN := Lib.hid (show x.N = N by rw [← h3.N]; exact h4)
              have HdN := Lib.hid (show d'.N = N from hN'.trans h4)
              have HrE := Lib.hid (And.intro hs'.r hs'.f)
              rcases hor with ⟨er, hc1, hc2⟩ | ⟨R, hc1, hc2⟩
              · have HC1 := Lib.hid (hc1 W2 HD.out)
                have HC2 := Lib.hid hc2
                have hne : (er != er) = false := by simp
                clear h1 h2 h3 h4 hs' hN' hc1 hc2 hkd k0 k1 k2 k3 HR2
                go_wp2_with fail
                refine HC1.out.mono ?_
                rintro e w3 ⟨rfl, hd3, hk3⟩
                have HD3 := Lib.hid hd3
                have HP3 := Lib.hid (HAp.out.plain HxN.out HP.out hk3)
                have HO3 := Lib.hid (old_D HOw.out hk3 HGe.out.1.1 HGe.out.1.2)
                have HB3 : Hid (w3.heap[g]? = some (.cells #[.int .i64 kd, .int .i64 pg, .int .i64 n', .int .u8 z] 31 (0, 0))) := Lib.hid ((hk3.block g ⟨lt_of_block HBx.out, by have := HNg.out; omega, by have := HNg.out; omega⟩).trans HBx.out)
                clear hd3 hk3 HC1 e0 e1 e2 e3
                obtain ⟨e0, e1, e2, e3⟩ := cell4 HB3.out
                go_wp2_with fail
                refine (HC2.out w3 HP3.out).mono ?_
                rintro e W6 ⟨rfl, hp4, hk4⟩
                have HD4 := Lib.hid (HAp.out.disk HdN.out HD3.out hk4)
                have HP4 := Lib.hid hp4
                have HO4 := Lib.hid (old_P HO3.out hk4 HGe.out.2)
                obtain ⟨str, hstr⟩ : ∃ str, str = ByteArray.empty := ⟨_, rfl⟩
                have HS1 : Hid (∀ V : World, V.heap = W6.heap → (convert 22 9 (.slice none 0 0)).run Try.prog V = .ok (.string str) V) := Lib.hid fun V _ => by rw [hstr]; exact bytes_zero V 22 5 Try.underlying22 Try.underlying5 none 0 9 Try.underlying9
                have HS2 := HS1
                clear hp4 hk4 HC2 hstr e0 e1 e2 e3
                have HRd : Hid (∀ V : World, V.Alike W6 → Calls Try.prog 12 #[.pointer (some ⟨b, 0, none⟩)] V fun e w' => e = .returned (.int .i64 x'.r) ∧ V = w') := Lib.hid fun V hV => by
                  rw [← HrE.out.1]; exact Reads_at b m pp c d' V (HD4.out.old ((Old.refl W6).alike hV))
                have HFd : Hid (∀ V : World, V.Alike W6 → Calls Try.prog 13 #[.pointer (some ⟨b, 0, none⟩)] V fun e w' => e = .returned (.int .i64 x'.f) ∧ V = w') := Lib.hid fun V hV => by
                  rw [← HrE.out.2]; exact Failed_at b m pp c d' V (HD4.out.old ((Old.refl W6).alike hV))
                have HNx : Hid (∀ V : World, V.Alike W6 → PlR w b m pp c B N V) := Lib.hid fun V hV => ⟨⟨d', x', HD4.out.old ((Old.refl W6).alike hV), HP4.out.old ((Old.refl W6).alike hV), HS.out.1, HS.out.2⟩, HO4.out.alike hV⟩
                obtain ⟨_, _, _, _, c4, c5, _, _⟩ := (HP4.out.old (Old.drew (Old.refl W6))).cells
                have hr0 : (x'.r != x'.r) = false := by simp
                have hf0 : (x'.f != x'.f) = false := by simp
                clear HD4 HP4 HO4 HrE HS HD3 HP3 HO3 HB3
                go_wp2_with fail
                refine wp_region_held_drew (S := (fun V => V.cell? ⟨B.q, 4, none⟩ = some (.int .i64 x'.r) ∧ V.cell? ⟨B.q, 5, none⟩ = some (.int .i64 x'.f) ∧ V.Alike W6)) (by kernel_rfl) ?_ (fun hHeld => ?_)
                · (try dsimp only); exact ⟨c4, c5, rfl, rfl, rfl⟩
                refine wpAnyH_take (i := 0) (oi := ⟨some _, _, _, _, _, _⟩) (v := ?_) rfl (by kernel_rfl) (by kernel_rfl) (by kernel_rfl) (fun _ _ _ h => h) (Or.inl ⟨by kernel_rfl, ?_⟩) (by assumption) ?_; rotate_left; (intro w hSw; (try dsimp only at hSw); go_simp; try with_reducible rfl); try simp only [Act.put, List.setIfInBounds_toArray, List.set_cons_zero, List.set_cons_succ]
                refine wpAnyH_take (i := 1) (oi := ⟨some _, _, _, _, _, _⟩) (v := ?_) rfl (by kernel_rfl) (by kernel_rfl) (by kernel_rfl) (fun _ _ _ h => h) (Or.inl ⟨by kernel_rfl, ?_⟩) (by assumption) ?_; rotate_left; (intro w hSw; (try dsimp only at hSw); go_simp; try with_reducible rfl); try simp only [Act.put, List.setIfInBounds_toArray, List.set_cons_zero, List.set_cons_succ]
                refine wpAnyH_take (i := 2) (oi := ⟨some _, _, _, _, _, _⟩) (v := ?_) rfl (by kernel_rfl) (by kernel_rfl) (by kernel_rfl) (fun _ _ _ h => h) (Or.inl ⟨by kernel_rfl, ?_⟩) (by assumption) ?_; rotate_left; (intro w hSw; (try dsimp only at hSw); go_simp; try with_reducible rfl); try simp only [Act.put, List.setIfInBounds_toArray, List.set_cons_zero, List.set_cons_succ]
                refine wpAnyH_take (i := 3) (oi := ⟨some _, _, _, _, _, _⟩) (v := ?_) rfl (by kernel_rfl) (by kernel_rfl) (by kernel_rfl) (fun _ _ _ h => h) (Or.inl ⟨by kernel_rfl, ?_⟩) (by assumption) ?_; rotate_left; (intro w hSw; (try dsimp only at hSw); go_simp; try with_reducible rfl); try simp only [Act.put, List.setIfInBounds_toArray, List.set_cons_zero, List.set_cons_succ]
                refine wpAnyH_take (i := 4) (oi := ⟨some _, _, _, _, _, _⟩) (v := ?_) rfl (by kernel_rfl) (by kernel_rfl) (by kernel_rfl) (fun _ _ _ h => h) (Or.inl ⟨by kernel_rfl, ?_⟩) (by assumption) ?_; rotate_left; (intro w hSw; (try dsimp only at hSw); go_simp; try with_reducible rfl); try simp only [Act.put, List.setIfInBounds_toArray, List.set_cons_zero, List.set_cons_succ]
                refine wpAnyH_take (i := 5) (oi := ⟨some _, _, _, _, _, _⟩) (v := .string str) rfl (by kernel_rfl) (by kernel_rfl) (by kernel_rfl) (fun _ _ _ h => h) (yieldsIf_conv (by kernel_rfl) 22 9 (.tmp 79) rfl (.string str) (fun V hV => HS1.out V hV.2.2.1)) (by assumption) ?_; try simp only [Act.put, List.setIfInBounds_toArray, List.set_cons_zero, List.set_cons_succ]
                refine wpAnyH_take (i := 6) (oi := ⟨some _, _, _, _, _, _⟩) (v := ?_) rfl (by kernel_rfl) (by kernel_rfl) (by kernel_rfl) (fun _ _ _ h => h) (Or.inl ⟨by kernel_rfl, ?_⟩) (by assumption) ?_; rotate_left; (intro w hSw; (try dsimp only at hSw); go_simp; try with_reducible rfl); try simp only [Act.put, List.setIfInBounds_toArray, List.set_cons_zero, List.set_cons_succ]
                refine wpAnyH_take (i := 7) (oi := ⟨some _, _, _, _, _, _⟩) (v := .string str) rfl (by kernel_rfl) (by kernel_rfl) (by kernel_rfl) (fun _ _ _ h => h) (yieldsIf_conv (by kernel_rfl) 22 9 (.tmp 81) rfl (.string str) (fun V hV => HS2.out V hV.2.2.1)) (by assumption) ?_; try simp only [Act.put, List.setIfInBounds_toArray, List.set_cons_zero, List.set_cons_succ]
                refine wpAnyH_take (i := 8) (oi := ⟨some _, _, _, _, _, _⟩) (v := .bool false) rfl (by kernel_rfl) (by kernel_rfl) (by kernel_rfl) (fun _ _ _ h => h) (yieldsIf_neq_same (by kernel_rfl) 9 9 (.tmp 80) (.tmp 82) rfl str rfl rfl) (by assumption) ?_; try simp only [Act.put, List.setIfInBounds_toArray, List.set_cons_zero, List.set_cons_succ]
                refine wpAnyH_take (i := 9) (oi := ⟨some _, _, _, _, _, _⟩) (v := ?_) rfl (by kernel_rfl) (by kernel_rfl) (by kernel_rfl) (fun _ _ _ h => h) (Or.inl ⟨by kernel_rfl, ?_⟩) (by assumption) ?_; rotate_left; (intro w hSw; (try dsimp only at hSw); go_simp; try with_reducible rfl); try simp only [Act.put, List.setIfInBounds_toArray, List.set_cons_zero, List.set_cons_succ]
                refine wpAnyH_take (i := 10) (oi := ⟨some _, _, _, _, _, _⟩) (v := ?_) rfl (by kernel_rfl) (by kernel_rfl) (by kernel_rfl) (fun _ _ _ h => h) (Or.inl ⟨by kernel_rfl, ?_⟩) (by assumption) ?_; rotate_left; (intro w hSw; (try dsimp only at hSw); go_simp; try with_reducible rfl); try simp only [Act.put, List.setIfInBounds_toArray, List.set_cons_zero, List.set_cons_succ]
                refine wpAnyH_take (i := 11) (oi := ⟨some _, _, _, _, _, _⟩) (v := ?_) rfl (by kernel_rfl) (by kernel_rfl) (by kernel_rfl) (fun _ _ _ h => h) (Or.inl ⟨by kernel_rfl, ?_⟩) (by assumption) ?_; rotate_left; (intro w hSw; (try dsimp only at hSw); go_simp; try with_reducible rfl); try simp only [Act.put, List.setIfInBounds_toArray, List.set_cons_zero, List.set_cons_succ]
                refine wpAnyH_take (i := 13) (oi := ⟨some _, _, _, _, _, _⟩) (v := ?_) rfl (by kernel_rfl) (by kernel_rfl) (by kernel_rfl) (fun _ _ _ h => h) (Or.inl ⟨by kernel_rfl, ?_⟩) (by assumption) ?_; rotate_left; (intro w hSw; (try dsimp only at hSw); go_simp; try with_reducible rfl); try simp only [Act.put, List.setIfInBounds_toArray, List.set_cons_zero, List.set_cons_succ]
                refine wpAnyH_take (i := 14) (oi := ⟨some _, _, _, _, _, _⟩) (v := ?_) rfl (by kernel_rfl) (by kernel_rfl) (by kernel_rfl) (fun _ _ _ h => h) (Or.inl ⟨by kernel_rfl, ?_⟩) (by assumption) ?_; rotate_left; (intro w hSw; (try dsimp only at hSw); go_simp; try with_reducible rfl); try simp only [Act.put, List.setIfInBounds_toArray, List.set_cons_zero, List.set_cons_succ]
                refine wpAnyH_take (i := 15) (oi := ⟨some _, _, _, _, _, _⟩) (v := ?_) rfl (by kernel_rfl) (by kernel_rfl) (by kernel_rfl) (fun _ _ _ h => h) (Or.inl ⟨by kernel_rfl, ?_⟩) (by assumption) ?_; rotate_left; (intro w hSw; (try dsimp only at hSw); go_simp; try with_reducible rfl); try simp only [Act.put, List.setIfInBounds_toArray, List.set_cons_zero, List.set_cons_succ]
                refine wpAnyH_take (i := 16) (oi := ⟨some _, _, _, _, _, _⟩) (v := ?_) rfl (by kernel_rfl) (by kernel_rfl) (by kernel_rfl) (fun _ _ _ h => h) (Or.inl ⟨by kernel_rfl, ?_⟩) (by assumption) ?_; rotate_left; (intro w hSw; obtain ⟨s4, s5, _⟩ := hSw; go_simp; try with_reducible rfl); try simp only [Act.put, List.setIfInBounds_toArray, List.set_cons_zero, List.set_cons_succ]
                refine wpAnyH_ready (rs := [12]) (by kernel_rfl) (by simp) ?_
                refine AllReadyH.cons (o := ⟨_, _, _, _, _, _⟩) (by rfl) ?_ AllReadyH.nil
                intro K hK
                go_simp
                refine (HRd.out W6.drew ⟨rfl, rfl, rfl⟩).mono ?_
                rintro e V1 ⟨rfl, hv⟩
                subst hv
                refine hK.out _ _ ?_ (fun hHeld => ?_)
                · (try dsimp only); exact ⟨c4, c5, rfl, rfl, rfl⟩
                clear hK K
                try simp only [Act.put, List.setIfInBounds_toArray, List.set_cons_zero, List.set_cons_succ]
                refine wpAnyH_take (i := 17) (oi := ⟨some _, _, _, _, _, _⟩) (v := ?_) rfl (by kernel_rfl) (by kernel_rfl) (by kernel_rfl) (fun _ _ _ h => h) (Or.inl ⟨by kernel_rfl, ?_⟩) (by assumption) ?_; rotate_left; (intro w hSw; (try dsimp only at hSw); go_simp; try with_reducible rfl); try simp only [Act.put, List.setIfInBounds_toArray, List.set_cons_zero, List.set_cons_succ]
                refine wpAnyH_take (i := 18) (oi := ⟨some _, _, _, _, _, _⟩) (v := ?_) rfl (by kernel_rfl) (by kernel_rfl) (by kernel_rfl) (fun _ _ _ h => h) (Or.inl ⟨by kernel_rfl, ?_⟩) (by assumption) ?_; rotate_left; (intro w hSw; (try dsimp only at hSw); go_simp; try with_reducible rfl); try simp only [Act.put, List.setIfInBounds_toArray, List.set_cons_zero, List.set_cons_succ]
                refine wpAnyH_take (i := 19) (oi := ⟨some _, _, _, _, _, _⟩) (v := ?_) rfl (by kernel_rfl) (by kernel_rfl) (by kernel_rfl) (fun _ _ _ h => h) (Or.inl ⟨by kernel_rfl, ?_⟩) (by assumption) ?_; rotate_left; (intro w hSw; (try dsimp only at hSw); go_simp; try with_reducible rfl); try simp only [Act.put, List.setIfInBounds_toArray, List.set_cons_zero, List.set_cons_succ]
                refine wpAnyH_take (i := 20) (oi := ⟨some _, _, _, _, _, _⟩) (v := ?_) rfl (by kernel_rfl) (by kernel_rfl) (by kernel_rfl) (fun _ _ _ h => h) (Or.inl ⟨by kernel_rfl, ?_⟩) (by assumption) ?_; rotate_left; (intro w hSw; (try dsimp only at hSw); go_simp; try with_reducible rfl); try simp only [Act.put, List.setIfInBounds_toArray, List.set_cons_zero, List.set_cons_succ]
                refine wpAnyH_take (i := 22) (oi := ⟨some _, _, _, _, _, _⟩) (v := ?_) rfl (by kernel_rfl) (by kernel_rfl) (by kernel_rfl) (fun _ _ _ h => h) (Or.inl ⟨by kernel_rfl, ?_⟩) (by assumption) ?_; rotate_left; (intro w hSw; (try dsimp only at hSw); go_simp; try with_reducible rfl); try simp only [Act.put, List.setIfInBounds_toArray, List.set_cons_zero, List.set_cons_succ]
                refine wpAnyH_take (i := 23) (oi := ⟨some _, _, _, _, _, _⟩) (v := ?_) rfl (by kernel_rfl) (by kernel_rfl) (by kernel_rfl) (fun _ _ _ h => h) (Or.inl ⟨by kernel_rfl, ?_⟩) (by assumption) ?_; rotate_left; (intro w hSw; (try dsimp only at hSw); go_simp; try with_reducible rfl); try simp only [Act.put, List.setIfInBounds_toArray, List.set_cons_zero, List.set_cons_succ]
                refine wpAnyH_take (i := 24) (oi := ⟨some _, _, _, _, _, _⟩) (v := ?_) rfl (by kernel_rfl) (by kernel_rfl) (by kernel_rfl) (fun _ _ _ h => h) (Or.inl ⟨by kernel_rfl, ?_⟩) (by assumption) ?_; rotate_left; (intro w hSw; (try dsimp only at hSw); go_simp; try with_reducible rfl); try simp only [Act.put, List.setIfInBounds_toArray, List.set_cons_zero, List.set_cons_succ]
                refine wpAnyH_take (i := 25) (oi := ⟨some _, _, _, _, _, _⟩) (v := ?_) rfl (by kernel_rfl) (by kernel_rfl) (by kernel_rfl) (fun _ _ _ h => h) (Or.inl ⟨by kernel_rfl, ?_⟩) (by assumption) ?_; rotate_left; (intro w hSw; obtain ⟨s4, s5, _⟩ := hSw; go_simp; try with_reducible rfl); try simp only [Act.put, List.setIfInBounds_toArray, List.set_cons_zero, List.set_cons_succ]
                refine wpAnyH_ready (rs := [21]) (by kernel_rfl) (by simp) ?_
                refine AllReadyH.cons (o := ⟨_, _, _, _, _, _⟩) (by rfl) ?_ AllReadyH.nil
                intro K hK
                go_simp
                refine (HFd.out W6.drew ⟨rfl, rfl, rfl⟩).mono ?_
                rintro e V1 ⟨rfl, hv⟩
                subst hv
                refine hK.out _ _ ?_ (fun hHeld => ?_)
                · (try dsimp only); exact ⟨c4, c5, rfl, rfl, rfl⟩
                clear hK K
                try simp only [Act.put, List.setIfInBounds_toArray, List.set_cons_zero, List.set_cons_succ]
                refine wpAnyH_take (i := 26) (oi := ⟨some _, _, _, _, _, _⟩) (v := ?_) rfl (by kernel_rfl) (by kernel_rfl) (by kernel_rfl) (fun _ _ _ h => h) (Or.inl ⟨by kernel_rfl, ?_⟩) (by assumption) ?_; rotate_left; (intro w hSw; (try dsimp only at hSw); go_simp; try with_reducible rfl); try simp only [Act.put, List.setIfInBounds_toArray, List.set_cons_zero, List.set_cons_succ]
                refine wpAnyH_take (i := 27) (oi := ⟨some _, _, _, _, _, _⟩) (v := ?_) rfl (by kernel_rfl) (by kernel_rfl) (by kernel_rfl) (fun _ _ _ h => h) (Or.inl ⟨by kernel_rfl, ?_⟩) (by assumption) ?_; rotate_left; (intro w hSw; (try dsimp only at hSw); go_simp; try with_reducible rfl); try simp only [Act.put, List.setIfInBounds_toArray, List.set_cons_zero, List.set_cons_succ]
                refine wpAnyH_done (by kernel_rfl) ?_ _
                go_wp2_with fail
                go_roundw
                case rel => exact ⟨k + 1, by omega, by omega, by go_num, Lib.hid (HNx.out _ ⟨rfl, rfl, rfl⟩)⟩
                case measure => simp [intOf]; omega
              · have HC1 := Lib.hid (hc1 W2 HD.out)
                have HC2 := Lib.hid hc2
                clear h1 h2 h3 h4 hs' hN' hc1 hc2 hkd k0 k1 k2 k3 HR2
                go_wp2_with fail
                refine HC1.out.mono ?_
                rintro e w3 ⟨g1, rfl, hu1, hg1, hd3, hk3⟩
                have HD3 := Lib.hid hd3
                have HP3 := Lib.hid (HAp.out.plain HxN.out HP.out hk3)
                have HO3 := Lib.hid (old_D HOw.out hk3 HGe.out.1.1 HGe.out.1.2)
                have HB3 : Hid (w3.heap[g]? = some (.cells #[.int .i64 kd, .int .i64 pg, .int .i64 n', .int .u8 z] 31 (0, 0))) := Lib.hid ((hk3.block g ⟨lt_of_block HBx.out, by have := HNg.out; omega, by have := HNg.out; omega⟩).trans HBx.out)
                have hgg : g < W2.heap.size := lt_of_block HBx.out
                have HU1 := Lib.hid (And.intro hu1 (show g < g1 by omega))
                clear hd3 hk3 HC1 e0 e1 e2 e3 hu1 hg1 hgg
                obtain ⟨e0, e1, e2, e3⟩ := cell4 HB3.out
                go_wp2_with fail
                refine (HC2.out w3 HP3.out).mono ?_
                rintro e W6 ⟨g2, cc, rfl, hu2, hcc1, hcc2, hp4, hk4⟩
                have HD4 := Lib.hid (HAp.out.disk HdN.out HD3.out hk4)
                have HP4 := Lib.hid hp4
                have HO4 := Lib.hid (old_P HO3.out hk4 HGe.out.2)
                have hu1 : UAt W6 g1 64 R := UAt.kept HU1.out.1 hk4 ⟨UAt.lt HU1.out.1, by have := HU1.out.2; have := HNg.out; omega, by have := HU1.out.2; have := HNg.out; omega, by have := HU1.out.2; have := HNg.out; omega, by have := HU1.out.2; have := HNg.out; omega⟩
                obtain ⟨str, hstr⟩ : ∃ str, str = strOfNums (lst R 64) := ⟨_, rfl⟩
                have HS1 : Hid (∀ V : World, V.heap = W6.heap → (convert 22 9 (.slice (some ⟨g1, 0, none⟩) 64 64)).run Try.prog V = .ok (.string str) V) := Lib.hid fun V hV => by
                  rw [hstr]
                  exact conv_slI (uAt_slI (w := V) ⟨by have := hu1.lt; rw [hV]; exact this, fun j hj => (World.cell?_of_block (w := W6) (w' := V) (a := ⟨g1, j, none⟩) (by rw [hV])).trans (hu1.at_ j hj), fun j hj => (World.frozen?_of_block (w := W6) (w' := V) (a := ⟨g1, j, none⟩) (by rw [hV])).trans (hu1.fz j hj)⟩ (Nat.le_refl _) (by unfold maxLen; omega))
                have HS2 : Hid (∀ V : World, V.heap = W6.heap → (convert 22 9 (.slice (some ⟨g2, 0, none⟩) 64 cc)).run Try.prog V = .ok (.string str) V) := Lib.hid fun V hV => by
                  rw [hstr]
                  exact conv_slI (uAt_slI (w := V) ⟨by have := hu2.lt; rw [hV]; exact this, fun j hj => (World.cell?_of_block (w := W6) (w' := V) (a := ⟨g2, j, none⟩) (by rw [hV])).trans (hu2.at_ j hj), fun j hj => (World.frozen?_of_block (w := W6) (w' := V) (a := ⟨g2, j, none⟩) (by rw [hV])).trans (hu2.fz j hj)⟩ hcc1 hcc2)
                clear hp4 hk4 HC2 hstr e0 e1 e2 e3 hu1 hu2 hcc1 hcc2
                have HRd : Hid (∀ V : World, V.Alike W6 → Calls Try.prog 12 #[.pointer (some ⟨b, 0, none⟩)] V fun e w' => e = .returned (.int .i64 x'.r) ∧ V = w') := Lib.hid fun V hV => by
                  rw [← HrE.out.1]; exact Reads_at b m pp c d' V (HD4.out.old ((Old.refl W6).alike hV))
                have HFd : Hid (∀ V : World, V.Alike W6 → Calls Try.prog 13 #[.pointer (some ⟨b, 0, none⟩)] V fun e w' => e = .returned (.int .i64 x'.f) ∧ V = w') := Lib.hid fun V hV => by
                  rw [← HrE.out.2]; exact Failed_at b m pp c d' V (HD4.out.old ((Old.refl W6).alike hV))
                have HNx : Hid (∀ V : World, V.Alike W6 → PlR w b m pp c B N V) := Lib.hid fun V hV => ⟨⟨d', x', HD4.out.old ((Old.refl W6).alike hV), HP4.out.old ((Old.refl W6).alike hV), HS.out.1, HS.out.2⟩, HO4.out.alike hV⟩
                obtain ⟨_, _, _, _, c4, c5, _, _⟩ := (HP4.out.old (Old.drew (Old.refl W6))).cells
                have hr0 : (x'.r != x'.r) = false := by simp
                have hf0 : (x'.f != x'.f) = false := by simp
                clear HD4 HP4 HO4 HrE HS HD3 HP3 HO3 HB3
                go_wp2_with fail
                refine wp_region_held_drew (S := (fun V => V.cell? ⟨B.q, 4, none⟩ = some (.int .i64 x'.r) ∧ V.cell? ⟨B.q, 5, none⟩ = some (.int .i64 x'.f) ∧ V.Alike W6)) (by kernel_rfl) ?_ (fun hHeld => ?_)
                · (try dsimp only); exact ⟨c4, c5, rfl, rfl, rfl⟩
                refine wpAnyH_take (i := 0) (oi := ⟨some _, _, _, _, _, _⟩) (v := ?_) rfl (by kernel_rfl) (by kernel_rfl) (by kernel_rfl) (fun _ _ _ h => h) (Or.inl ⟨by kernel_rfl, ?_⟩) (by assumption) ?_; rotate_left; (intro w hSw; (try dsimp only at hSw); go_simp; try with_reducible rfl); try simp only [Act.put, List.setIfInBounds_toArray, List.set_cons_zero, List.set_cons_succ]
                refine wpAnyH_take (i := 1) (oi := ⟨some _, _, _, _, _, _⟩) (v := ?_) rfl (by kernel_rfl) (by kernel_rfl) (by kernel_rfl) (fun _ _ _ h => h) (Or.inl ⟨by kernel_rfl, ?_⟩) (by assumption) ?_; rotate_left; (intro w hSw; (try dsimp only at hSw); go_simp; try with_reducible rfl); try simp only [Act.put, List.setIfInBounds_toArray, List.set_cons_zero, List.set_cons_succ]
                refine wpAnyH_take (i := 2) (oi := ⟨some _, _, _, _, _, _⟩) (v := ?_) rfl (by kernel_rfl) (by kernel_rfl) (by kernel_rfl) (fun _ _ _ h => h) (Or.inl ⟨by kernel_rfl, ?_⟩) (by assumption) ?_; rotate_left; (intro w hSw; (try dsimp only at hSw); go_simp; try with_reducible rfl); try simp only [Act.put, List.setIfInBounds_toArray, List.set_cons_zero, List.set_cons_succ]
                refine wpAnyH_take (i := 3) (oi := ⟨some _, _, _, _, _, _⟩) (v := ?_) rfl (by kernel_rfl) (by kernel_rfl) (by kernel_rfl) (fun _ _ _ h => h) (Or.inl ⟨by kernel_rfl, ?_⟩) (by assumption) ?_; rotate_left; (intro w hSw; (try dsimp only at hSw); go_simp; try with_reducible rfl); try simp only [Act.put, List.setIfInBounds_toArray, List.set_cons_zero, List.set_cons_succ]
                refine wpAnyH_take (i := 4) (oi := ⟨some _, _, _, _, _, _⟩) (v := ?_) rfl (by kernel_rfl) (by kernel_rfl) (by kernel_rfl) (fun _ _ _ h => h) (Or.inl ⟨by kernel_rfl, ?_⟩) (by assumption) ?_; rotate_left; (intro w hSw; (try dsimp only at hSw); go_simp; try with_reducible rfl); try simp only [Act.put, List.setIfInBounds_toArray, List.set_cons_zero, List.set_cons_succ]
                refine wpAnyH_take (i := 5) (oi := ⟨some _, _, _, _, _, _⟩) (v := .string str) rfl (by kernel_rfl) (by kernel_rfl) (by kernel_rfl) (fun _ _ _ h => h) (yieldsIf_conv (by kernel_rfl) 22 9 (.tmp 79) rfl (.string str) (fun V hV => HS1.out V hV.2.2.1)) (by assumption) ?_; try simp only [Act.put, List.setIfInBounds_toArray, List.set_cons_zero, List.set_cons_succ]
                refine wpAnyH_take (i := 6) (oi := ⟨some _, _, _, _, _, _⟩) (v := ?_) rfl (by kernel_rfl) (by kernel_rfl) (by kernel_rfl) (fun _ _ _ h => h) (Or.inl ⟨by kernel_rfl, ?_⟩) (by assumption) ?_; rotate_left; (intro w hSw; (try dsimp only at hSw); go_simp; try with_reducible rfl); try simp only [Act.put, List.setIfInBounds_toArray, List.set_cons_zero, List.set_cons_succ]
                refine wpAnyH_take (i := 7) (oi := ⟨some _, _, _, _, _, _⟩) (v := .string str) rfl (by kernel_rfl) (by kernel_rfl) (by kernel_rfl) (fun _ _ _ h => h) (yieldsIf_conv (by kernel_rfl) 22 9 (.tmp 81) rfl (.string str) (fun V hV => HS2.out V hV.2.2.1)) (by assumption) ?_; try simp only [Act.put, List.setIfInBounds_toArray, List.set_cons_zero, List.set_cons_succ]
                refine wpAnyH_take (i := 8) (oi := ⟨some _, _, _, _, _, _⟩) (v := .bool false) rfl (by kernel_rfl) (by kernel_rfl) (by kernel_rfl) (fun _ _ _ h => h) (yieldsIf_neq_same (by kernel_rfl) 9 9 (.tmp 80) (.tmp 82) rfl str rfl rfl) (by assumption) ?_; try simp only [Act.put, List.setIfInBounds_toArray, List.set_cons_zero, List.set_cons_succ]
                refine wpAnyH_take (i := 9) (oi := ⟨some _, _, _, _, _, _⟩) (v := ?_) rfl (by kernel_rfl) (by kernel_rfl) (by kernel_rfl) (fun _ _ _ h => h) (Or.inl ⟨by kernel_rfl, ?_⟩) (by assumption) ?_; rotate_left; (intro w hSw; (try dsimp only at hSw); go_simp; try with_reducible rfl); try simp only [Act.put, List.setIfInBounds_toArray, List.set_cons_zero, List.set_cons_succ]
                refine wpAnyH_take (i := 10) (oi := ⟨some _, _, _, _, _, _⟩) (v := ?_) rfl (by kernel_rfl) (by kernel_rfl) (by kernel_rfl) (fun _ _ _ h => h) (Or.inl ⟨by kernel_rfl, ?_⟩) (by assumption) ?_; rotate_left; (intro w hSw; (try dsimp only at hSw); go_simp; try with_reducible rfl); try simp only [Act.put, List.setIfInBounds_toArray, List.set_cons_zero, List.set_cons_succ]
                refine wpAnyH_take (i := 11) (oi := ⟨some _, _, _, _, _, _⟩) (v := ?_) rfl (by kernel_rfl) (by kernel_rfl) (by kernel_rfl) (fun _ _ _ h => h) (Or.inl ⟨by kernel_rfl, ?_⟩) (by assumption) ?_; rotate_left; (intro w hSw; (try dsimp only at hSw); go_simp; try with_reducible rfl); try simp only [Act.put, List.setIfInBounds_toArray, List.set_cons_zero, List.set_cons_succ]
                refine wpAnyH_take (i := 13) (oi := ⟨some _, _, _, _, _, _⟩) (v := ?_) rfl (by kernel_rfl) (by kernel_rfl) (by kernel_rfl) (fun _ _ _ h => h) (Or.inl ⟨by kernel_rfl, ?_⟩) (by assumption) ?_; rotate_left; (intro w hSw; (try dsimp only at hSw); go_simp; try with_reducible rfl); try simp only [Act.put, List.setIfInBounds_toArray, List.set_cons_zero, List.set_cons_succ]
                refine wpAnyH_take (i := 14) (oi := ⟨some _, _, _, _, _, _⟩) (v := ?_) rfl (by kernel_rfl) (by kernel_rfl) (by kernel_rfl) (fun _ _ _ h => h) (Or.inl ⟨by kernel_rfl, ?_⟩) (by assumption) ?_; rotate_left; (intro w hSw; (try dsimp only at hSw); go_simp; try with_reducible rfl); try simp only [Act.put, List.setIfInBounds_toArray, List.set_cons_zero, List.set_cons_succ]
                refine wpAnyH_take (i := 15) (oi := ⟨some _, _, _, _, _, _⟩) (v := ?_) rfl (by kernel_rfl) (by kernel_rfl) (by kernel_rfl) (fun _ _ _ h => h) (Or.inl ⟨by kernel_rfl, ?_⟩) (by assumption) ?_; rotate_left; (intro w hSw; (try dsimp only at hSw); go_simp; try with_reducible rfl); try simp only [Act.put, List.setIfInBounds_toArray, List.set_cons_zero, List.set_cons_succ]
                refine wpAnyH_take (i := 16) (oi := ⟨some _, _, _, _, _, _⟩) (v := ?_) rfl (by kernel_rfl) (by kernel_rfl) (by kernel_rfl) (fun _ _ _ h => h) (Or.inl ⟨by kernel_rfl, ?_⟩) (by assumption) ?_; rotate_left; (intro w hSw; obtain ⟨s4, s5, _⟩ := hSw; go_simp; try with_reducible rfl); try simp only [Act.put, List.setIfInBounds_toArray, List.set_cons_zero, List.set_cons_succ]
                refine wpAnyH_ready (rs := [12]) (by kernel_rfl) (by simp) ?_
                refine AllReadyH.cons (o := ⟨_, _, _, _, _, _⟩) (by rfl) ?_ AllReadyH.nil
                intro K hK
                go_simp
                refine (HRd.out W6.drew ⟨rfl, rfl, rfl⟩).mono ?_
                rintro e V1 ⟨rfl, hv⟩
                subst hv
                refine hK.out _ _ ?_ (fun hHeld => ?_)
                · (try dsimp only); exact ⟨c4, c5, rfl, rfl, rfl⟩
                clear hK K
                try simp only [Act.put, List.setIfInBounds_toArray, List.set_cons_zero, List.set_cons_succ]
                refine wpAnyH_take (i := 17) (oi := ⟨some _, _, _, _, _, _⟩) (v := ?_) rfl (by kernel_rfl) (by kernel_rfl) (by kernel_rfl) (fun _ _ _ h => h) (Or.inl ⟨by kernel_rfl, ?_⟩) (by assumption) ?_; rotate_left; (intro w hSw; (try dsimp only at hSw); go_simp; try with_reducible rfl); try simp only [Act.put, List.setIfInBounds_toArray, List.set_cons_zero, List.set_cons_succ]
                refine wpAnyH_take (i := 18) (oi := ⟨some _, _, _, _, _, _⟩) (v := ?_) rfl (by kernel_rfl) (by kernel_rfl) (by kernel_rfl) (fun _ _ _ h => h) (Or.inl ⟨by kernel_rfl, ?_⟩) (by assumption) ?_; rotate_left; (intro w hSw; (try dsimp only at hSw); go_simp; try with_reducible rfl); try simp only [Act.put, List.setIfInBounds_toArray, List.set_cons_zero, List.set_cons_succ]
                refine wpAnyH_take (i := 19) (oi := ⟨some _, _, _, _, _, _⟩) (v := ?_) rfl (by kernel_rfl) (by kernel_rfl) (by kernel_rfl) (fun _ _ _ h => h) (Or.inl ⟨by kernel_rfl, ?_⟩) (by assumption) ?_; rotate_left; (intro w hSw; (try dsimp only at hSw); go_simp; try with_reducible rfl); try simp only [Act.put, List.setIfInBounds_toArray, List.set_cons_zero, List.set_cons_succ]
                refine wpAnyH_take (i := 20) (oi := ⟨some _, _, _, _, _, _⟩) (v := ?_) rfl (by kernel_rfl) (by kernel_rfl) (by kernel_rfl) (fun _ _ _ h => h) (Or.inl ⟨by kernel_rfl, ?_⟩) (by assumption) ?_; rotate_left; (intro w hSw; (try dsimp only at hSw); go_simp; try with_reducible rfl); try simp only [Act.put, List.setIfInBounds_toArray, List.set_cons_zero, List.set_cons_succ]
                refine wpAnyH_take (i := 22) (oi := ⟨some _, _, _, _, _, _⟩) (v := ?_) rfl (by kernel_rfl) (by kernel_rfl) (by kernel_rfl) (fun _ _ _ h => h) (Or.inl ⟨by kernel_rfl, ?_⟩) (by assumption) ?_; rotate_left; (intro w hSw; (try dsimp only at hSw); go_simp; try with_reducible rfl); try simp only [Act.put, List.setIfInBounds_toArray, List.set_cons_zero, List.set_cons_succ]
                refine wpAnyH_take (i := 23) (oi := ⟨some _, _, _, _, _, _⟩) (v := ?_) rfl (by kernel_rfl) (by kernel_rfl) (by kernel_rfl) (fun _ _ _ h => h) (Or.inl ⟨by kernel_rfl, ?_⟩) (by assumption) ?_; rotate_left; (intro w hSw; (try dsimp only at hSw); go_simp; try with_reducible rfl); try simp only [Act.put, List.setIfInBounds_toArray, List.set_cons_zero, List.set_cons_succ]
                refine wpAnyH_take (i := 24) (oi := ⟨some _, _, _, _, _, _⟩) (v := ?_) rfl (by kernel_rfl) (by kernel_rfl) (by kernel_rfl) (fun _ _ _ h => h) (Or.inl ⟨by kernel_rfl, ?_⟩) (by assumption) ?_; rotate_left; (intro w hSw; (try dsimp only at hSw); go_simp; try with_reducible rfl); try simp only [Act.put, List.setIfInBounds_toArray, List.set_cons_zero, List.set_cons_succ]
                refine wpAnyH_take (i := 25) (oi := ⟨some _, _, _, _, _, _⟩) (v := ?_) rfl (by kernel_rfl) (by kernel_rfl) (by kernel_rfl) (fun _ _ _ h => h) (Or.inl ⟨by kernel_rfl, ?_⟩) (by assumption) ?_; rotate_left; (intro w hSw; obtain ⟨s4, s5, _⟩ := hSw; go_simp; try with_reducible rfl); try simp only [Act.put, List.setIfInBounds_toArray, List.set_cons_zero, List.set_cons_succ]
                refine wpAnyH_ready (rs := [21]) (by kernel_rfl) (by simp) ?_
                refine AllReadyH.cons (o := ⟨_, _, _, _, _, _⟩) (by rfl) ?_ AllReadyH.nil
                intro K hK
                go_simp
                refine (HFd.out W6.drew ⟨rfl, rfl, rfl⟩).mono ?_
                rintro e V1 ⟨rfl, hv⟩
                subst hv
                refine hK.out _ _ ?_ (fun hHeld => ?_)
                · (try dsimp only); exact ⟨c4, c5, rfl, rfl, rfl⟩
                clear hK K
                try simp only [Act.put, List.setIfInBounds_toArray, List.set_cons_zero, List.set_cons_succ]
                refine wpAnyH_take (i := 26) (oi := ⟨some _, _, _, _, _, _⟩) (v := ?_) rfl (by kernel_rfl) (by kernel_rfl) (by kernel_rfl) (fun _ _ _ h => h) (Or.inl ⟨by kernel_rfl, ?_⟩) (by assumption) ?_; rotate_left; (intro w hSw; (try dsimp only at hSw); go_simp; try with_reducible rfl); try simp only [Act.put, List.setIfInBounds_toArray, List.set_cons_zero, List.set_cons_succ]
                refine wpAnyH_take (i := 27) (oi := ⟨some _, _, _, _, _, _⟩) (v := ?_) rfl (by kernel_rfl) (by kernel_rfl) (by kernel_rfl) (fun _ _ _ h => h) (Or.inl ⟨by kernel_rfl, ?_⟩) (by assumption) ?_; rotate_left; (intro w hSw; (try dsimp only at hSw); go_simp; try with_reducible rfl); try simp only [Act.put, List.setIfInBounds_toArray, List.set_cons_zero, List.set_cons_succ]
                refine wpAnyH_done (by kernel_rfl) ?_ _
                go_wp2_with fail
                go_roundw
                case rel => exact ⟨k + 1, by omega, by omega, by go_num, Lib.hid (HNx.out _ ⟨rfl, rfl, rfl⟩)⟩
                case measure => simp [intOf]; omega
        · rw [decide_eq_false hin]
          obtain ⟨d, x, h1, h2, h3, h4⟩ := HR1.out.ex
          have HPg := Lib.hid (Pages_at b m pp c d wr.drew (h1.old (Old.drew (Old.refl wr))))
          have hxN : (x.N : Int) = (d.N : Int) := by rw [h3.N]
          have c1 := (h2.old (Old.drew (Old.refl wr))).cells.2.1
          have HOx := Lib.hid HR1.out.old
          have HLt := Lib.hid (show B.q < wr.drew.heap.size from h2.lts.1)
          have hn8 : d.N ≤ 8 := by omega
          obtain ⟨M, hM⟩ : ∃ M, M = d.N := ⟨_, rfl⟩
          have hxM : x.N = M := by rw [hM, h3.N]
          rw [← hM] at HPg
          rw [hxM] at c1
          have hMe : ((M : Int) == (M : Int)) = true := by simp
          clear h1 h2 h3 h4 HR1 hxN hM hxM hn8
          go_upto_region 18 with (fail)
          refine wp_region_held_drew (S := (fun V => V.cell? ⟨B.q, 1, none⟩ = some (.slice (some ⟨B.gf, 0, none⟩) M M))) (by kernel_rfl) ?_ (fun hHeld => ?_)
          · (try dsimp only); exact c1
          refine wpAnyH_take (i := 0) (oi := ⟨some _, _, _, _, _, _⟩) (v := ?_) rfl (by kernel_rfl) (by kernel_rfl) (by kernel_rfl) (fun _ _ _ h => h) (Or.inl ⟨by kernel_rfl, ?_⟩) (by assumption) ?_; rotate_left; (intro w hSw; (try dsimp only at hSw); go_simp; try with_reducible rfl); try simp only [Act.put, List.setIfInBounds_toArray, List.set_cons_zero, List.set_cons_succ]
          refine wpAnyH_take (i := 2) (oi := ⟨some _, _, _, _, _, _⟩) (v := ?_) rfl (by kernel_rfl) (by kernel_rfl) (by kernel_rfl) (fun _ _ _ h => h) (Or.inl ⟨by kernel_rfl, ?_⟩) (by assumption) ?_; rotate_left; (intro w hSw; (try dsimp only at hSw); go_simp; try with_reducible rfl); try simp only [Act.put, List.setIfInBounds_toArray, List.set_cons_zero, List.set_cons_succ]
          refine wpAnyH_take (i := 3) (oi := ⟨some _, _, _, _, _, _⟩) (v := ?_) rfl (by kernel_rfl) (by kernel_rfl) (by kernel_rfl) (fun _ _ _ h => h) (Or.inl ⟨by kernel_rfl, ?_⟩) (by assumption) ?_; rotate_left; (intro w hSw; (try dsimp only at hSw); go_simp; try with_reducible rfl); try simp only [Act.put, List.setIfInBounds_toArray, List.set_cons_zero, List.set_cons_succ]
          refine wpAnyH_take (i := 4) (oi := ⟨some _, _, _, _, _, _⟩) (v := ?_) rfl (by kernel_rfl) (by kernel_rfl) (by kernel_rfl) (fun _ _ _ h => h) (Or.inl ⟨by kernel_rfl, ?_⟩) (by assumption) ?_; rotate_left; (intro w hSw; (try dsimp only at hSw); go_simp; try with_reducible rfl); try simp only [Act.put, List.setIfInBounds_toArray, List.set_cons_zero, List.set_cons_succ]
          refine wpAnyH_take (i := 5) (oi := ⟨some _, _, _, _, _, _⟩) (v := ?_) rfl (by kernel_rfl) (by kernel_rfl) (by kernel_rfl) (fun _ _ _ h => h) (Or.inl ⟨by kernel_rfl, ?_⟩) (by assumption) ?_; rotate_left; (intro w hSw; (try dsimp only at hSw); go_simp; try with_reducible rfl); try simp only [Act.put, List.setIfInBounds_toArray, List.set_cons_zero, List.set_cons_succ]
          refine wpAnyH_take (i := 6) (oi := ⟨some _, _, _, _, _, _⟩) (v := ?_) rfl (by kernel_rfl) (by kernel_rfl) (by kernel_rfl) (fun _ _ _ h => h) (Or.inl ⟨by kernel_rfl, ?_⟩) (by assumption) ?_; rotate_left; (intro w hSw; (try dsimp only at hSw); go_simp; try with_reducible rfl); try simp only [Act.put, List.setIfInBounds_toArray, List.set_cons_zero, List.set_cons_succ]
          refine wpAnyH_ready (rs := [1]) (by kernel_rfl) (by simp) ?_
          refine AllReadyH.cons (o := ⟨_, _, _, _, _, _⟩) (by rfl) ?_ AllReadyH.nil
          intro K hK
          go_simp
          refine HPg.out.mono ?_
          rintro e V1 ⟨rfl, hv⟩
          subst hv
          refine hK.out _ _ ?_ (fun hHeld => ?_)
          · (try dsimp only); exact c1
          clear hK K
          try simp only [Act.put, List.setIfInBounds_toArray, List.set_cons_zero, List.set_cons_succ]
          refine wpAnyH_take (i := 7) (oi := ⟨some _, _, _, _, _, _⟩) (v := ?_) rfl (by kernel_rfl) (by kernel_rfl) (by kernel_rfl) (fun _ _ _ h => h) (Or.inl ⟨by kernel_rfl, ?_⟩) (by assumption) ?_; rotate_left; (intro w hSw; (try dsimp only at hSw); go_simp; try with_reducible rfl); try simp only [Act.put, List.setIfInBounds_toArray, List.set_cons_zero, List.set_cons_succ]
          refine wpAnyH_take (i := 8) (oi := ⟨some _, _, _, _, _, _⟩) (v := ?_) rfl (by kernel_rfl) (by kernel_rfl) (by kernel_rfl) (fun _ _ _ h => h) (Or.inl ⟨by kernel_rfl, ?_⟩) (by assumption) ?_; rotate_left; (intro w hSw; (try dsimp only at hSw); go_simp; try with_reducible rfl); try simp only [Act.put, List.setIfInBounds_toArray, List.set_cons_zero, List.set_cons_succ]
          refine wpAnyH_ready (rs := [9]) (by kernel_rfl) (by simp) ?_
          refine AllReadyH.cons (o := ⟨_, _, _, _, _, _⟩) (by rfl) ?_ AllReadyH.nil
          intro K hK
          go_simp
          refine (awake_any _).mono ?_
          rintro e V2 ⟨rfl, ho⟩
          have c2 := (ho.cell (a := ⟨B.q, 1, none⟩) HLt.out).trans c1
          have HOv := Lib.hid (HOx.out.drew.trans ho)
          clear ho c1
          refine hK.out _ _ ?_ (fun hHeld => ?_)
          · (try dsimp only); exact c2
          clear hK K
          try simp only [Act.put, List.setIfInBounds_toArray, List.set_cons_zero, List.set_cons_succ]
          refine wpAnyH_take (i := 10) (oi := ⟨some _, _, _, _, _, _⟩) (v := ?_) rfl (by kernel_rfl) (by kernel_rfl) (by kernel_rfl) (fun _ _ _ h => h) (Or.inl ⟨by kernel_rfl, ?_⟩) (by assumption) ?_; rotate_left; (intro w hSw; (try dsimp only at hSw); go_simp; try with_reducible rfl); try simp only [Act.put, List.setIfInBounds_toArray, List.set_cons_zero, List.set_cons_succ]
          refine wpAnyH_take (i := 11) (oi := ⟨some _, _, _, _, _, _⟩) (v := ?_) rfl (by kernel_rfl) (by kernel_rfl) (by kernel_rfl) (fun _ _ _ h => h) (Or.inl ⟨by kernel_rfl, ?_⟩) (by assumption) ?_; rotate_left; (intro w hSw; (try dsimp only at hSw); go_simp; try with_reducible rfl); try simp only [Act.put, List.setIfInBounds_toArray, List.set_cons_zero, List.set_cons_succ]
          refine wpAnyH_done (by kernel_rfl) ?_ _
          go_wp2_with fail
          go_ret
          exact ⟨rfl, HOv.out⟩



theorem own : ownKnob Try.prog.godebug = none := by kernel_rfl
theorem laidOut : laidOutB Try.prog = true := by kernel_rfl

set_option maxRecDepth 100000 in
theorem lifted (os : Os) (started : os.Started) (H : Type) (enc : TypeId × Value → H) :
    ReturnsInHanded {} Try.checked os 3 .any (Rows.diskPlaysSpec.pre6 enc Try.prog Try.f3 Rows.diskPlaysRow.domain false) (Rows.diskPlaysSpec.post enc Try.prog Try.f3 false true false false) := by
  refine returnsInHanded_of_change (C := Try.checked) own started (by kernel_rfl) Try.func3
    (ChangeSpec.witness6 (enc := enc) (C := Try.checked) false ⟨#[], #[.slice none 0 0, .slice none 0 0], []⟩ 8 (by kernel_rfl) (by kernel_rfl) (by kernel_rfl) (by kernel_rfl)) ?_
  intro W base args ds gs before hval0 hW hcnd _
  have hval : ∀ (j : Nat) t v, Try.f3.params[j]? = some t → args[j]? = some v → Value.okWide Try.prog W .any base t v := hval0
  have hW' := hW
  have hlt : ∀ p ∈ before, p.block < W.heap.size := fun p hp => hW'.lt p hp
  obtain ⟨p, q, hA0, hV, rfl, hfz, hnd⟩ := hW
  have hA : DataW.TrodAll enc Try.prog W 0 (fun _ => true) true Try.f3.params.toList args.toList ds p := hA0
  rw [Try.params3] at hA hval
  obtain ⟨v0, vs0, d0, ds0, p0, q0, hargs, rfl, rfl, h0, r0⟩ := trodAll_cons hA
  obtain ⟨v1, vs1, d1, ds1, p1, q1, rfl, rfl, rfl, h1, r1⟩ := trodAll_cons r0
  obtain ⟨rfl, rfl, rfl⟩ := trodAll_nil r1
  obtain rfl : args = #[v0, v1] := by cases args; simp_all
  obtain ⟨rfl, rfl⟩ := trodVars_none hV
  obtain ⟨s0, n0, c0, xs0, rfl, hs0, hn0, hc0, hw0⟩ := open_slI Try.underlying22 Try.underlying5 (by kernel_rfl) (hval 0 22 v0 rfl rfl) h0 (fun x hx => hlt x (by simp [hx]))
  obtain ⟨q1, n1, c1, K1, G1, N1, Z1, rfl, ho1, hr1, hl1⟩ := open_ops (hval 1 23 v1 rfl rfl) h1 (fun x hx => hlt x (by simp [hx]))
  refine (walk xs0 s0 n0 c0 q1 n1 c1 K1 G1 N1 Z1 W hs0 (bytes_of hw0) hn0 hc0 ho1 hr1 hl1).mono fun e W' ⟨he, hg⟩ => ?_
  subst he
  exact ⟨_, rfl, law_done laidOut Try.underlying4 rfl (by kernel_rfl) rfl hW' rfl hg⟩

theorem over : Rows.diskPlaysRow.holds Try.pinned (OpenSpec.ofChange Rows.diskPlaysSpec) :=
  OpenClaim.holds_of_wide 3 Try.f3 rfl rfl rfl rfl rfl rfl rfl ⟨rfl, rfl, rfl, rfl, rfl⟩ rfl rfl rfl rfl rfl (by kernel_rfl) Try.func3 (by kernel_rfl)
    (of_decide_eq_true (by kernel_rfl)) (by unfold Func.isWrapper; first | (rw [if_pos (by decide +kernel)]; kernel_rfl) | (rw [if_neg (by decide +kernel)]; exact ⟨rfl, rfl⟩))
    (fun os started H enc _ => lifted os started H enc)

theorem proved : Rows.DiskPlaysSaid :=
  over
end Go.Proofs.Ytnccbghpdfcaeaa.diskPlays
