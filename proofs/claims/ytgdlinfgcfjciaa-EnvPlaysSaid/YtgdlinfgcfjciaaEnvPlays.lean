/- EnvPlays: of any shape, and let go whenever, the envelope tells sample by sample what the document tells; the example holds. No condition. -/
import Derived.Test.YtgdlinfgcfjciaaRows
import Derived.Test.YtgdlinfgcfjciaaEnvS
import Derived.Test.YtgdlinfgcfjciaaEnvO
import Derived.Deep.DeepCutAuto
import Derived.Deep.Cut
namespace Go.Proofs.Ytgdlinfgcfjciaa.envPlays
open Go.ChangeShapes Go.WideShapes Go.ChangeAt Go.RowKit
set_option linter.unusedVariables false
set_option linter.unusedSimpArgs false

structure PR (w : World) (g gp gs : Nat) (a d s r : Int) (x : Int × Int) (wr : World) : Prop where
  eb : EB wr g a d s r x.1 x.2
  pb : PB wr gp a d s r x.1 x.2
  old : Old w wr
theorem PR.ofOld {w wr V : World} {g gp gs : Nat} {a d s r : Int} {x : Int × Int} (h : PR w g gp gs a d s r x wr) (k : Old wr V) : PR w g gp gs a d s r x V := ⟨h.eb.old k, h.pb.old k, h.old.trans k⟩
theorem drew_old (w : World) : Old w w.drew := (Old.refl w).drew
set_option maxRecDepth 100000 in
set_option maxHeartbeats 16000000 in
theorem walk (a d s r : Int) (q : Option Addr) (n c : Nat) (Bs : Nat → Bool) (w : World) (hn : n ≤ c) (hc : c ≤ maxLen) (hs : SlB w q n Bs) :
    Calls Try.prog 3 #[shV a d s r, .slice q n c] w fun e w' => e = .returned (.bool true) ∧ Old w w' := by
  have Hs4 : Hid ((Try.prog.info? 23).map (·.size) = some 4) := Lib.hid (by kernel_rfl)
  have HA := Lib.hid (fun w => awake22_any w)
  have HR1 := Lib.hid (fun w => eRight_any a d s r w)
  have HR2 := Lib.hid (fun w => right22_any a d s r w)
  have HNw := Lib.hid (eNew_any a d s r)
  obtain ⟨W, hW⟩ : ∃ W, W = w.alloc (.cells #[.int .i64 a, .int .i64 d, .int .i64 s, .int .i64 r] 23) := ⟨_, rfl⟩
  obtain ⟨gs, hgs⟩ : ∃ g, g = w.heap.size := ⟨_, rfl⟩
  have hO : Old w W := by rw [hW]; exact Old.alloc _ _
  have hb : W.heap[gs]? = some (.cells #[.int .i64 a, .int .i64 d, .int .i64 s, .int .i64 r] 23 (0, 0)) := by rw [hW, hgs]; exact heap_alloc_new _ _
  have HO := Lib.hid hO
  have HB := Lib.hid hb
  have HW := Lib.hid hW
  have HG := Lib.hid hgs
  have Hs := Lib.hid hs
  have hn1 : (n : Int) ≤ 9223372036854775807 := by unfold maxLen at hc; omega
  clear hO hb hW hgs hs hc hn
  obtain ⟨B, hB⟩ : ∃ B, shB a d s r = B := ⟨_, rfl⟩
  rw [hB] at HR1 HR2 HNw
  have HBs : Hid (B = true → (0 ≤ s ∧ s ≤ 256)) := Lib.hid fun h => (shB_yes (hB.trans h)).2.2.1
  have HNx := Lib.hid (fun (h : B = true) g st lv w hE ho => eNext_any g a d s r st lv w hE (hB.trans h) ho)
  have HPx := Lib.hid (fun (h : B = true) g st lv w hE ho => PNext_any g a d s r st lv w hE (hB.trans h) ho)
  clear hB
  unfold shV at *
  have Hrow : Hid (∀ V, Old W V → V.heap[gs]? = some (.cells #[.int .i64 a, .int .i64 d, .int .i64 s, .int .i64 r] 23 (0, 0))) := Lib.hid fun V h => (h.block gs (lt_of_block HB.out)).trans HB.out
  have Hcl : Hid (∀ V, Old W V → V.cell? ⟨gs, 0, none⟩ = some (.int .i64 a) ∧ V.cell? ⟨gs, 1, none⟩ = some (.int .i64 d) ∧ V.cell? ⟨gs, 2, none⟩ = some (.int .i64 s) ∧ V.cell? ⟨gs, 3, none⟩ = some (.int .i64 r)) := Lib.hid fun V h => by
    have hb := Hrow.out V h
    simp [World.cell?, hb]
  clear HB
  go_enter Try.func3, Try.ntmps3
  go_wp2_with fail
  rw [← HW.out, ← HG.out]
  obtain ⟨c0, c1, c2, c3⟩ := Hcl.out W (Old.refl W)
  clear HW HG
  go_wp2_with fail
  clear c0 c1 c2 c3
  refine (HNw.out _).mono ?_
  rintro e w1 hN
  have ho1 : Old W w1 := by rcases hN with ⟨-, -, o⟩ | ⟨-, g, -, -, -, o⟩ <;> exact o
  have HOw := Lib.hid ho1
  obtain ⟨v, f, hv⟩ : ∃ v f, e = .returned (.tuple #[v, f]) := by rcases hN with ⟨-, h, -⟩ | ⟨-, g, h, -, -, -⟩ <;> exact ⟨_, _, h⟩
  subst hv
  have HN := Lib.hid hN
  clear hN ho1 HNw
  go_upto_region 2 with (fail)
  go_cut [18] (fun bv wx => bv = .bool false ∧ Hid (Old w1 wx))
  case first =>
    clear HN HNx HPx HBs HA Hcl
    have hBB : (B != B) = false := by simp
    refine wp_region_held_drew (S := (fun V => V.heap[gs]? = some (.cells #[.int .i64 a, .int .i64 d, .int .i64 s, .int .i64 r] 23 (0, 0)))) (by kernel_rfl) ?_ (fun hHeld => ?_)
    · (try dsimp only); exact Hrow.out _ (HOw.out.trans (drew_old w1))
    refine wpAnyH_take (i := 0) (oi := ⟨some _, _, _, _, _, _⟩) (v := (.agg #[.int .i64 a, .int .i64 d, .int .i64 s, .int .i64 r])) rfl (by kernel_rfl) (by kernel_rfl) (by kernel_rfl) (fun _ _ _ h => h) (yieldsIf_load_row (by kernel_rfl) 23 (.tmp 2) rfl gs rfl 23 #[.int .i64 a, .int .i64 d, .int .i64 s, .int .i64 r] (0, 0) _ (fun _ h => h) Try.underlying23 rfl Hs4.out) (by assumption) ?_; try simp only [Act.put, List.setIfInBounds_toArray, List.set_cons_zero, List.set_cons_succ]
    refine wpAnyH_take (i := 2) (oi := ⟨some _, _, _, _, _, _⟩) (v := (.agg #[.int .i64 a, .int .i64 d, .int .i64 s, .int .i64 r])) rfl (by kernel_rfl) (by kernel_rfl) (by kernel_rfl) (fun _ _ _ h => h) (yieldsIf_load_row (by kernel_rfl) 23 (.tmp 2) rfl gs rfl 23 #[.int .i64 a, .int .i64 d, .int .i64 s, .int .i64 r] (0, 0) _ (fun _ h => h) Try.underlying23 rfl Hs4.out) (by assumption) ?_; try simp only [Act.put, List.setIfInBounds_toArray, List.set_cons_zero, List.set_cons_succ]
    refine wpAnyH_ready (rs := [1]) (by kernel_rfl) (by simp) ?_
    refine AllReadyH.cons (o := ⟨_, _, _, _, _, _⟩) (by rfl) ?_ AllReadyH.nil
    intro K hK
    go_simp
    refine (HR1.out _).mono ?_
    rintro e V ⟨rfl, o1⟩
    refine hK.out _ _ ?_ (fun hHeld => ?_)
    · (try dsimp only); exact Hrow.out _ (HOw.out.trans ((drew_old w1).trans o1))
    clear hK K
    try simp only [Act.put, List.setIfInBounds_toArray, List.set_cons_zero, List.set_cons_succ]
    refine wpAnyH_ready (rs := [3]) (by kernel_rfl) (by simp) ?_
    refine AllReadyH.cons (o := ⟨_, _, _, _, _, _⟩) (by rfl) ?_ AllReadyH.nil
    intro K hK
    go_simp
    refine (HR2.out _).mono ?_
    rintro e U ⟨rfl, o2⟩
    refine hK.out _ _ ?_ (fun hHeld => ?_)
    · (try dsimp only); exact Hrow.out _ (HOw.out.trans (((drew_old w1).trans o1).trans o2))
    clear hK K
    try simp only [Act.put, List.setIfInBounds_toArray, List.set_cons_zero, List.set_cons_succ]
    refine wpAnyH_take (i := 4) (oi := ⟨some _, _, _, _, _, _⟩) (v := ?_) rfl (by kernel_rfl) (by kernel_rfl) (by kernel_rfl) (fun _ _ _ h => h) (Or.inl ⟨by kernel_rfl, ?_⟩) (by assumption) ?_; rotate_left; (intro w hSw; (try dsimp only at hSw); go_simp; try with_reducible rfl); try simp only [Act.put, List.setIfInBounds_toArray, List.set_cons_zero, List.set_cons_succ]
    refine wpAnyH_done (by kernel_rfl) ?_ _
    have HF := Lib.hid (((drew_old w1).trans o1).trans o2)
    clear o1 o2
    go_wp2_with fail
    go_meet
    exact ⟨by first | rfl | (rw [hBB]; done), HF⟩
  case rest => as_aux_lemma =>
    obtain ⟨rfl, HV⟩ := hcut
    obtain ⟨w2, rfl⟩ : ∃ V, V = wc := ⟨_, rfl⟩
    obtain ⟨c0, c1, c2, c3⟩ := Hcl.out w2 (HOw.out.trans HV.out)
    clear HR1
    go_wp2_with fail
    refine (HR2.out _).mono ?_
    rintro e w3 ⟨rfl, o3⟩
    have HO13 := Lib.hid (HV.out.trans o3)
    clear c0 c1 c2 c3 o3 HV HR2
    cases B
    · obtain ⟨e1, -⟩ : Ending.returned (.tuple #[v, f]) = .returned (.tuple #[.pointer none, .int .i64 1]) ∧ Old _ _ := by
        rcases HN.out with ⟨-, h, o⟩ | ⟨h, -⟩
        · exact ⟨h, o⟩
        · cases h
      simp only [Ending.returned.injEq, Value.tuple.injEq, Array.mk.injEq, List.cons.injEq, and_true] at e1
      obtain ⟨rfl, rfl⟩ := e1
      clear HN HNx HPx HBs
      go_wp2_with fail
      refine (HA.out _).mono ?_
      rintro e w4 ⟨rfl, ho⟩
      have HO4 := Lib.hid (((HO.out.trans HOw.out).trans HO13.out).trans ho)
      clear ho
      go_wp2_with fail
      go_ret
      exact ⟨rfl, HO4.out⟩
    · obtain ⟨s0, s1⟩ := HBs.out rfl
      have HNy := Lib.hid (HNx.out rfl)
      have HPy := Lib.hid (HPx.out rfl)
      obtain ⟨g, e1, hg, hE, hO⟩ : ∃ g, Ending.returned (.tuple #[v, f]) = .returned (.tuple #[.pointer (some ⟨g, 0, none⟩), .int .i64 0]) ∧ W.heap.size ≤ g ∧ EB w1 g a d s r 0 0 ∧ Old W w1 := by
        rcases HN.out with ⟨h, -⟩ | ⟨-, g, h1, h2, h3, h4⟩
        · cases h
        · exact ⟨g, h1, h2, h3, h4⟩
      simp only [Ending.returned.injEq, Value.tuple.injEq, Array.mk.injEq, List.cons.injEq, and_true] at e1
      obtain ⟨rfl, rfl⟩ := e1
      have HE3 := Lib.hid (hE.old HO13.out)
      have Hg : Hid (w.heap.size ≤ g) := Lib.hid (by have := HO.out.size; omega)
      have HO3 := Lib.hid ((HO.out.trans HOw.out).trans HO13.out)
      obtain ⟨c0, c1, c2, c3⟩ := Hcl.out w3 (HOw.out.trans HO13.out)
      clear hg hE hO HN HNx HPx HBs HO13 HOw HO Hrow Hcl
      obtain ⟨W4, hW4⟩ : ∃ V, V = w3.alloc (.cells #[.int .i64 a, .int .i64 d, .int .i64 s, .int .i64 r, .int .i64 0, .int .i64 0] 33) := ⟨_, rfl⟩
      obtain ⟨gp, hgp⟩ : ∃ x, x = w3.heap.size := ⟨_, rfl⟩
      have ho4 : Old w3 W4 := by rw [hW4]; exact Old.alloc _ _
      have hP4 : PB W4 gp a d s r 0 0 := by rw [hW4, hgp]; exact heap_alloc_new _ _
      have HS0 : Hid (PR w g gp gs a d s r (0, 0) W4) := Lib.hid ⟨HE3.out.old ho4, hP4, HO3.out.trans ho4⟩
      have Hgp : Hid (w.heap.size ≤ gp ∧ g ≠ gp) := Lib.hid (by have := HO3.out.size; have := HE3.out.lt; omega)
      have HW4 := Lib.hid hW4
      have HGP := Lib.hid hgp
      have HSl : Hid (SlB W4 q n Bs) := Lib.hid (Hs.out.old (HO3.out.trans ho4))
      have Hss := Lib.hid (And.intro s0 s1)
      clear hW4 hgp ho4 hP4 HE3 HO3 s0 s1
      go_wp2_with fail
      rw [← HW4.out, ← HGP.out]
      clear HW4 HGP c0 c1 c2 c3
      go_loopw [8] (fun iv wr => ∃ k : Nat, k ≤ n ∧ k ≤ 200 ∧ iv = .int .i64 k ∧ ∃ x : Int × Int, StOk s x.1 x.2 ∧ Hid (PR w g gp gs a d s r x wr)) (fun iv _ => (200 - intOf iv).toNat)
      case atStart => exact ⟨0, by omega, by omega, rfl, (0, 0), ⟨by omega, by omega, by omega, by omega, by omega⟩, HS0⟩
      case round =>
        clear HS0
        obtain ⟨k, hkn, hk2, rfl, ⟨st, lv⟩, hok, HS⟩ := hrel
        have kn0 : (k : Int) ≤ n := by omega
        have kn2 : (k : Int) ≤ 200 := by omega
        by_cases hlt : k < n ∧ k < 200
        · obtain ⟨k1, k2⟩ := hlt
          have k1' : (k : Int) < n := by omega
          have k2' : (k : Int) < 200 := by omega
          obtain ⟨gq, oq, rfl, hql, hcq⟩ := Hs.out (by omega)
          have hcb : wr.cell? ⟨gq, oq + k, none⟩ = some (.bool (Bs k)) := (HS.out.old.cell (a := ⟨gq, oq + k, none⟩) hql).trans (hcq k k1)
          clear hcq hql
          have HRl := Lib.hid (eRelease_any g a d s r st lv wr HS.out.eb)
          have HOk := Lib.hid hok
          clear hok hkn hk2 kn0 kn2
          go_upto_if 53 with (fail)
          go_cut [] (fun wx => Hid (∃ st2, StOk s st2 lv ∧ PR w g gp gs a d s r (st2, lv) wx))
          case first =>
            cases hbk : Bs k
            · rw [hbk] at *
              clear HRl HNy HPy HA Hs
              go_wp2_with fail
              go_meet
              exact Lib.hid ⟨st, HOk.out, HS.out⟩
            · rw [hbk] at *
              clear HNy HPy HA Hs
              go_wp2_with fail
              refine HRl.out.mono ?_
              rintro e w5 ⟨rfl, hE5, hK5⟩
              have hp5 := HS.out.pb.kept hK5 ⟨HS.out.pb.lt, fun e => Hgp.out.2 e.symm⟩
              have ho5 := HS.out.old.after hK5 fun q hq => ⟨Nat.lt_of_lt_of_le hq HS.out.old.size, by have := Hg.out; omega⟩
              obtain ⟨-, -, -, -, y4, y5, x4, x5⟩ := hp5.cells
              by_cases h4 : st = 4
              · have hr4 : relSt st = st := by rw [h4]; rfl
                rw [hr4] at hE5
                have HF : Hid (∃ st2, StOk s st2 lv ∧ PR w g gp gs a d s r (st2, lv) w5) := Lib.hid ⟨st, HOk.out, hE5, hp5, ho5⟩
                have hd : (st != 4) = false := by simpa using h4
                clear hE5 hK5 hp5 ho5 HS HRl hr4 h4
                go_wp2_with fail
                go_meet
                exact HF
              · have hr4 : relSt st = 3 := if_neg h4
                have hok3 : StOk s 3 lv := by have := rel_ok HOk.out; rw [hr4] at this; exact this
                rw [hr4] at hE5
                have k5 := Kept.setCell w5 (X := fun x => x ≠ gp) (a := ⟨gp, 4, none⟩) (fun e => e rfl) (.int .i64 3)
                have HF : Hid (∃ st2, StOk s st2 lv ∧ PR w g gp gs a d s r (st2, lv) (w5.setCell ⟨gp, 4, none⟩ (.int .i64 3))) := Lib.hid ⟨3, hok3, hE5.kept k5 Hgp.out.2, hp5.setSt 3, ho5.after k5 fun q hq e => by have := Hgp.out.1; omega⟩
                have hd : (st != 4) = true := by simpa using h4
                clear hE5 hK5 hp5 ho5 HS HRl hr4 h4 k5 hok3
                go_wp2_with fail
                go_meet
                exact HF
          case rest => as_aux_lemma =>
            clear HRl hcb HS HOk
            obtain ⟨st2, hok2, hp2⟩ := hcut.out
            clear hcut
            have HS := Lib.hid hp2
            have HN := Lib.hid (fun V (h : EB V g a d s r st2 lv) => HNy.out g st2 lv V h hok2)
            have HP := Lib.hid (fun V (h : PB V gp a d s r st2 lv) => HPy.out gp st2 lv V h hok2)
            have hok3 := nx_ok (a := a) (d := d) (r := r) hok2 Hss.out.1 Hss.out.2
            clear hp2 hok2
            generalize nxV a d s r st2 lv = v at *
            generalize nxSt a d s r st2 lv = t1 at *
            generalize nxLv a d s r st2 lv = t2 at *
            have HOk := Lib.hid hok3
            clear hok3
            have HB0 : Hid (∀ V U, PR w g gp gs a d s r (st2, lv) V → EB U g a d s r t1 t2 → Kept (butOf V g) V U → PB U gp a d s r st2 lv ∧ Old w U) := Lib.hid fun V U h hE hK => ⟨h.pb.kept hK ⟨h.pb.lt, fun e => Hgp.out.2 e.symm⟩, h.old.after hK fun q hq => ⟨Nat.lt_of_lt_of_le hq h.old.size, by have := Hg.out; omega⟩⟩
            have HB1 : Hid (∀ V U, PR w g gp gs a d s r (st2, lv) V → PB U gp a d s r t1 t2 → Kept (butOf V gp) V U → EB U g a d s r st2 lv ∧ Old w U) := Lib.hid fun V U h hE hK => ⟨h.eb.kept hK ⟨h.eb.lt, Hgp.out.2⟩, h.old.after hK fun q hq => ⟨Nat.lt_of_lt_of_le hq h.old.size, by have := Hgp.out; omega⟩⟩
            have HB2 : Hid (∀ V U, EB V g a d s r t1 t2 → Old w V → PB U gp a d s r t1 t2 → Kept (butOf V gp) V U → PR w g gp gs a d s r (t1, t2) U) := Lib.hid fun V U h ho hE hK => ⟨h.kept hK ⟨h.lt, Hgp.out.2⟩, hE, ho.after hK fun q hq => ⟨Nat.lt_of_lt_of_le hq ho.size, by have := Hgp.out; omega⟩⟩
            have HB3 : Hid (∀ V U, PB V gp a d s r t1 t2 → Old w V → EB U g a d s r t1 t2 → Kept (butOf V g) V U → PR w g gp gs a d s r (t1, t2) U) := Lib.hid fun V U h ho hE hK => ⟨hE, h.kept hK ⟨h.lt, fun e => Hgp.out.2 e.symm⟩, ho.after hK fun q hq => ⟨Nat.lt_of_lt_of_le hq ho.size, by have := Hg.out; omega⟩⟩
            go_upto_region 16 with (fail)
            obtain ⟨w6, rfl⟩ : ∃ V, V = wc := ⟨_, rfl⟩
            go_cut [86] (fun bv wx => bv = .bool false ∧ Hid (PR w g gp gs a d s r (t1, t2) wx))
            case first => as_aux_lemma =>
              have HD : Hid (PR w g gp gs a d s r (st2, lv) w6.drew) := Lib.hid (HS.out.ofOld (drew_old w6))
              have hv1 : (v != v) = false := by simp
              have hv2 : (t1 != t1) = false := by simp
              have hv3 : (t2 != t2) = false := by simp
              clear HNy HPy HA Hs HS HSl HOk
              have HSg := Lib.hid (fun V (h : PR w g gp gs a d s r (t1, t2) V) => eStage_any g a d s r t1 t2 V h.eb)
              have HLg := Lib.hid (fun V (h : PR w g gp gs a d s r (t1, t2) V) => eLevel_any g a d s r t1 t2 V h.eb)
              refine wp_region_held_drew (S := (fun _ => True)) (by kernel_rfl) ?_ (fun hHeld => ?_)
              · exact trivial
              refine wpAnyH_take (i := 0) (oi := ⟨some _, _, _, _, _, _⟩) (v := ?_) rfl (by kernel_rfl) (by kernel_rfl) (by kernel_rfl) (fun _ _ _ h => h) (Or.inl ⟨by kernel_rfl, ?_⟩) (by assumption) ?_; rotate_left; (intro w hSw; (try dsimp only at hSw); go_simp; try with_reducible rfl); try simp only [Act.put, List.setIfInBounds_toArray, List.set_cons_zero, List.set_cons_succ]
              refine wpAnyH_take (i := 2) (oi := ⟨some _, _, _, _, _, _⟩) (v := ?_) rfl (by kernel_rfl) (by kernel_rfl) (by kernel_rfl) (fun _ _ _ h => h) (Or.inl ⟨by kernel_rfl, ?_⟩) (by assumption) ?_; rotate_left; (intro w hSw; (try dsimp only at hSw); go_simp; try with_reducible rfl); try simp only [Act.put, List.setIfInBounds_toArray, List.set_cons_zero, List.set_cons_succ]
              refine wpAnyH_ready (rs := [1]) (by kernel_rfl) (by simp) ?_
              refine AllReadyH.cons (o := ⟨_, _, _, _, _, _⟩) (by rfl) ?_ AllReadyH.nil
              intro K hK
              go_simp
              refine (HN.out _ HD.out.eb).mono ?_
              rintro e V ⟨rfl, hE, hK⟩
              have hx := HB0.out _ V HD.out hE hK
              have HX := Lib.hid (And.intro hE (And.intro hx.1 hx.2))
              clear hE hK hx
              refine hK.out _ _ ?_ (fun hHeld => ?_)
              · exact trivial
              clear hK K
              try simp only [Act.put, List.setIfInBounds_toArray, List.set_cons_zero, List.set_cons_succ]
              refine wpAnyH_ready (rs := [3]) (by kernel_rfl) (by simp) ?_
              refine AllReadyH.cons (o := ⟨_, _, _, _, _, _⟩) (by rfl) ?_ AllReadyH.nil
              intro K hK
              go_simp
              refine (HP.out _ HX.out.2.1).mono ?_
              rintro e U ⟨rfl, hE, hK⟩
              have HU := Lib.hid (HB2.out V U HX.out.1 HX.out.2.2 hE hK)
              clear hE hK HX HN HP HD HB0 HB1 HB2 HB3
              refine hK.out _ _ ?_ (fun hHeld => ?_)
              · exact trivial
              clear hK K
              try simp only [Act.put, List.setIfInBounds_toArray, List.set_cons_zero, List.set_cons_succ]
              refine wpAnyH_take (i := 4) (oi := ⟨some _, _, _, _, _, _⟩) (v := ?_) rfl (by kernel_rfl) (by kernel_rfl) (by kernel_rfl) (fun _ _ _ h => h) (Or.inl ⟨by kernel_rfl, ?_⟩) (by assumption) ?_; rotate_left; (intro w hSw; (try dsimp only at hSw); go_simp; try with_reducible rfl); try simp only [Act.put, List.setIfInBounds_toArray, List.set_cons_zero, List.set_cons_succ]
              refine wpAnyH_take (i := 5) (oi := ⟨some _, _, _, _, _, _⟩) (v := ?_) rfl (by kernel_rfl) (by kernel_rfl) (by kernel_rfl) (fun _ _ _ h => h) (Or.inl ⟨by kernel_rfl, ?_⟩) (by assumption) ?_; rotate_left; (intro w hSw; (try dsimp only at hSw); go_simp; try with_reducible rfl); try simp only [Act.put, List.setIfInBounds_toArray, List.set_cons_zero, List.set_cons_succ]
              refine wpAnyH_take (i := 6) (oi := ⟨some _, _, _, _, _, _⟩) (v := ?_) rfl (by kernel_rfl) (by kernel_rfl) (by kernel_rfl) (fun _ _ _ h => h) (Or.inl ⟨by kernel_rfl, ?_⟩) (by assumption) ?_; rotate_left; (intro w hSw; (try dsimp only at hSw); go_simp; try with_reducible rfl); try simp only [Act.put, List.setIfInBounds_toArray, List.set_cons_zero, List.set_cons_succ]
              refine wpAnyH_take (i := 8) (oi := ⟨some _, _, _, _, _, _⟩) (v := ?_) rfl (by kernel_rfl) (by kernel_rfl) (by kernel_rfl) (fun _ _ _ h => h) (Or.inl ⟨by kernel_rfl, ?_⟩) (by assumption) ?_; rotate_left; (intro w hSw; (try dsimp only at hSw); go_simp; try with_reducible rfl); try simp only [Act.put, List.setIfInBounds_toArray, List.set_cons_zero, List.set_cons_succ]
              refine wpAnyH_take (i := 9) (oi := ⟨some _, _, _, _, _, _⟩) (v := ?_) rfl (by kernel_rfl) (by kernel_rfl) (by kernel_rfl) (fun _ _ _ h => h) (Or.inl ⟨by kernel_rfl, ?_⟩) (by assumption) ?_; rotate_left; (intro w hSw; (try dsimp only at hSw); go_simp; try with_reducible rfl); try simp only [Act.put, List.setIfInBounds_toArray, List.set_cons_zero, List.set_cons_succ]
              refine wpAnyH_take (i := 10) (oi := ⟨some _, _, _, _, _, _⟩) (v := ?_) rfl (by kernel_rfl) (by kernel_rfl) (by kernel_rfl) (fun _ _ _ h => h) (Or.inl ⟨by kernel_rfl, ?_⟩) (by assumption) ?_; rotate_left; (intro w hSw; (try dsimp only at hSw); go_simp; try with_reducible rfl); try simp only [Act.put, List.setIfInBounds_toArray, List.set_cons_zero, List.set_cons_succ]
              refine wpAnyH_ready (rs := [7, 11]) (by kernel_rfl) (by simp) ?_
              (refine AllReadyH.cons (o := ⟨_, _, _, _, _, _⟩) (by rfl) ?_ (AllReadyH.cons (o := ⟨_, _, _, _, _, _⟩) (by rfl) ?_ AllReadyH.nil)) <;> intro K hK
              · go_simp
                refine (HSg.out _ HU.out).mono ?_
                rintro e U2 ⟨rfl, rfl⟩
                refine hK.out _ _ ?_ (fun hHeld => ?_)
                · exact trivial
                clear hK K
                try simp only [Act.put, List.setIfInBounds_toArray, List.set_cons_zero, List.set_cons_succ]
                have hy := HU.out.pb.cells.2.2.2.2.1
                refine wpAnyH_ready (rs := [11]) (by kernel_rfl) (by simp) ?_
                refine AllReadyH.cons (o := ⟨_, _, _, _, _, _⟩) (by rfl) ?_ AllReadyH.nil
                intro K hK
                go_simp
                refine hK.out _ _ ?_ (fun hHeld => ?_)
                · exact trivial
                clear hK K
                try simp only [Act.put, List.setIfInBounds_toArray, List.set_cons_zero, List.set_cons_succ]
                clear hy
                refine wpAnyH_take (i := 12) (oi := ⟨some _, _, _, _, _, _⟩) (v := ?_) rfl (by kernel_rfl) (by kernel_rfl) (by kernel_rfl) (fun _ _ _ h => h) (Or.inl ⟨by kernel_rfl, ?_⟩) (by assumption) ?_; rotate_left; (intro w hSw; (try dsimp only at hSw); go_simp; try with_reducible rfl); try simp only [Act.put, List.setIfInBounds_toArray, List.set_cons_zero, List.set_cons_succ]
                refine wpAnyH_take (i := 13) (oi := ⟨some _, _, _, _, _, _⟩) (v := ?_) rfl (by kernel_rfl) (by kernel_rfl) (by kernel_rfl) (fun _ _ _ h => h) (Or.inl ⟨by kernel_rfl, ?_⟩) (by assumption) ?_; rotate_left; (intro w hSw; (try dsimp only at hSw); go_simp; try with_reducible rfl); try simp only [Act.put, List.setIfInBounds_toArray, List.set_cons_zero, List.set_cons_succ]
                refine wpAnyH_take (i := 14) (oi := ⟨some _, _, _, _, _, _⟩) (v := ?_) rfl (by kernel_rfl) (by kernel_rfl) (by kernel_rfl) (fun _ _ _ h => h) (Or.inl ⟨by kernel_rfl, ?_⟩) (by assumption) ?_; rotate_left; (intro w hSw; (try dsimp only at hSw); go_simp; try with_reducible rfl); try simp only [Act.put, List.setIfInBounds_toArray, List.set_cons_zero, List.set_cons_succ]
                refine wpAnyH_take (i := 15) (oi := ⟨some _, _, _, _, _, _⟩) (v := ?_) rfl (by kernel_rfl) (by kernel_rfl) (by kernel_rfl) (fun _ _ _ h => h) (Or.inl ⟨by kernel_rfl, ?_⟩) (by assumption) ?_; rotate_left; (intro w hSw; (try dsimp only at hSw); go_simp; try with_reducible rfl); try simp only [Act.put, List.setIfInBounds_toArray, List.set_cons_zero, List.set_cons_succ]
                refine wpAnyH_take (i := 17) (oi := ⟨some _, _, _, _, _, _⟩) (v := ?_) rfl (by kernel_rfl) (by kernel_rfl) (by kernel_rfl) (fun _ _ _ h => h) (Or.inl ⟨by kernel_rfl, ?_⟩) (by assumption) ?_; rotate_left; (intro w hSw; (try dsimp only at hSw); go_simp; try with_reducible rfl); try simp only [Act.put, List.setIfInBounds_toArray, List.set_cons_zero, List.set_cons_succ]
                refine wpAnyH_take (i := 18) (oi := ⟨some _, _, _, _, _, _⟩) (v := ?_) rfl (by kernel_rfl) (by kernel_rfl) (by kernel_rfl) (fun _ _ _ h => h) (Or.inl ⟨by kernel_rfl, ?_⟩) (by assumption) ?_; rotate_left; (intro w hSw; (try dsimp only at hSw); go_simp; try with_reducible rfl); try simp only [Act.put, List.setIfInBounds_toArray, List.set_cons_zero, List.set_cons_succ]
                refine wpAnyH_take (i := 19) (oi := ⟨some _, _, _, _, _, _⟩) (v := ?_) rfl (by kernel_rfl) (by kernel_rfl) (by kernel_rfl) (fun _ _ _ h => h) (Or.inl ⟨by kernel_rfl, ?_⟩) (by assumption) ?_; rotate_left; (intro w hSw; (try dsimp only at hSw); go_simp; try with_reducible rfl); try simp only [Act.put, List.setIfInBounds_toArray, List.set_cons_zero, List.set_cons_succ]
                refine wpAnyH_ready (rs := [16, 20]) (by kernel_rfl) (by simp) ?_
                (refine AllReadyH.cons (o := ⟨_, _, _, _, _, _⟩) (by rfl) ?_ (AllReadyH.cons (o := ⟨_, _, _, _, _, _⟩) (by rfl) ?_ AllReadyH.nil)) <;> intro K hK
                · go_simp
                  refine (HLg.out _ HU.out).mono ?_
                  rintro e U2 ⟨rfl, rfl⟩
                  refine hK.out _ _ ?_ (fun hHeld => ?_)
                  · exact trivial
                  clear hK K
                  try simp only [Act.put, List.setIfInBounds_toArray, List.set_cons_zero, List.set_cons_succ]
                  have hz := HU.out.pb.cells.2.2.2.2.2.1
                  refine wpAnyH_ready (rs := [20]) (by kernel_rfl) (by simp) ?_
                  refine AllReadyH.cons (o := ⟨_, _, _, _, _, _⟩) (by rfl) ?_ AllReadyH.nil
                  intro K hK
                  go_simp
                  refine hK.out _ _ ?_ (fun hHeld => ?_)
                  · exact trivial
                  clear hK K
                  try simp only [Act.put, List.setIfInBounds_toArray, List.set_cons_zero, List.set_cons_succ]
                  refine wpAnyH_take (i := 21) (oi := ⟨some _, _, _, _, _, _⟩) (v := ?_) rfl (by kernel_rfl) (by kernel_rfl) (by kernel_rfl) (fun _ _ _ h => h) (Or.inl ⟨by kernel_rfl, ?_⟩) (by assumption) ?_; rotate_left; (intro w hSw; (try dsimp only at hSw); go_simp; try with_reducible rfl); try simp only [Act.put, List.setIfInBounds_toArray, List.set_cons_zero, List.set_cons_succ]
                  refine wpAnyH_take (i := 22) (oi := ⟨some _, _, _, _, _, _⟩) (v := ?_) rfl (by kernel_rfl) (by kernel_rfl) (by kernel_rfl) (fun _ _ _ h => h) (Or.inl ⟨by kernel_rfl, ?_⟩) (by assumption) ?_; rotate_left; (intro w hSw; (try dsimp only at hSw); go_simp; try with_reducible rfl); try simp only [Act.put, List.setIfInBounds_toArray, List.set_cons_zero, List.set_cons_succ]
                  refine wpAnyH_done (by kernel_rfl) ?_ _
                  go_wp2_with fail
                  go_meet
                  exact ⟨rfl, HU⟩
                · have hz := HU.out.pb.cells.2.2.2.2.2.1
                  go_simp
                  refine hK.out _ _ ?_ (fun hHeld => ?_)
                  · exact trivial
                  clear hK K
                  try simp only [Act.put, List.setIfInBounds_toArray, List.set_cons_zero, List.set_cons_succ]
                  refine wpAnyH_ready (rs := [16]) (by kernel_rfl) (by simp) ?_
                  refine AllReadyH.cons (o := ⟨_, _, _, _, _, _⟩) (by rfl) ?_ AllReadyH.nil
                  intro K hK
                  go_simp
                  refine (HLg.out _ HU.out).mono ?_
                  rintro e U2 ⟨rfl, rfl⟩
                  refine hK.out _ _ ?_ (fun hHeld => ?_)
                  · exact trivial
                  clear hK K
                  try simp only [Act.put, List.setIfInBounds_toArray, List.set_cons_zero, List.set_cons_succ]
                  refine wpAnyH_take (i := 21) (oi := ⟨some _, _, _, _, _, _⟩) (v := ?_) rfl (by kernel_rfl) (by kernel_rfl) (by kernel_rfl) (fun _ _ _ h => h) (Or.inl ⟨by kernel_rfl, ?_⟩) (by assumption) ?_; rotate_left; (intro w hSw; (try dsimp only at hSw); go_simp; try with_reducible rfl); try simp only [Act.put, List.setIfInBounds_toArray, List.set_cons_zero, List.set_cons_succ]
                  refine wpAnyH_take (i := 22) (oi := ⟨some _, _, _, _, _, _⟩) (v := ?_) rfl (by kernel_rfl) (by kernel_rfl) (by kernel_rfl) (fun _ _ _ h => h) (Or.inl ⟨by kernel_rfl, ?_⟩) (by assumption) ?_; rotate_left; (intro w hSw; (try dsimp only at hSw); go_simp; try with_reducible rfl); try simp only [Act.put, List.setIfInBounds_toArray, List.set_cons_zero, List.set_cons_succ]
                  refine wpAnyH_done (by kernel_rfl) ?_ _
                  go_wp2_with fail
                  go_meet
                  exact ⟨rfl, HU⟩
              · have hy := HU.out.pb.cells.2.2.2.2.1
                go_simp
                refine hK.out _ _ ?_ (fun hHeld => ?_)
                · exact trivial
                clear hK K
                try simp only [Act.put, List.setIfInBounds_toArray, List.set_cons_zero, List.set_cons_succ]
                clear hy
                refine wpAnyH_ready (rs := [7]) (by kernel_rfl) (by simp) ?_
                refine AllReadyH.cons (o := ⟨_, _, _, _, _, _⟩) (by rfl) ?_ AllReadyH.nil
                intro K hK
                go_simp
                refine (HSg.out _ HU.out).mono ?_
                rintro e U2 ⟨rfl, rfl⟩
                refine hK.out _ _ ?_ (fun hHeld => ?_)
                · exact trivial
                clear hK K
                try simp only [Act.put, List.setIfInBounds_toArray, List.set_cons_zero, List.set_cons_succ]
                refine wpAnyH_take (i := 12) (oi := ⟨some _, _, _, _, _, _⟩) (v := ?_) rfl (by kernel_rfl) (by kernel_rfl) (by kernel_rfl) (fun _ _ _ h => h) (Or.inl ⟨by kernel_rfl, ?_⟩) (by assumption) ?_; rotate_left; (intro w hSw; (try dsimp only at hSw); go_simp; try with_reducible rfl); try simp only [Act.put, List.setIfInBounds_toArray, List.set_cons_zero, List.set_cons_succ]
                refine wpAnyH_take (i := 13) (oi := ⟨some _, _, _, _, _, _⟩) (v := ?_) rfl (by kernel_rfl) (by kernel_rfl) (by kernel_rfl) (fun _ _ _ h => h) (Or.inl ⟨by kernel_rfl, ?_⟩) (by assumption) ?_; rotate_left; (intro w hSw; (try dsimp only at hSw); go_simp; try with_reducible rfl); try simp only [Act.put, List.setIfInBounds_toArray, List.set_cons_zero, List.set_cons_succ]
                refine wpAnyH_take (i := 14) (oi := ⟨some _, _, _, _, _, _⟩) (v := ?_) rfl (by kernel_rfl) (by kernel_rfl) (by kernel_rfl) (fun _ _ _ h => h) (Or.inl ⟨by kernel_rfl, ?_⟩) (by assumption) ?_; rotate_left; (intro w hSw; (try dsimp only at hSw); go_simp; try with_reducible rfl); try simp only [Act.put, List.setIfInBounds_toArray, List.set_cons_zero, List.set_cons_succ]
                refine wpAnyH_take (i := 15) (oi := ⟨some _, _, _, _, _, _⟩) (v := ?_) rfl (by kernel_rfl) (by kernel_rfl) (by kernel_rfl) (fun _ _ _ h => h) (Or.inl ⟨by kernel_rfl, ?_⟩) (by assumption) ?_; rotate_left; (intro w hSw; (try dsimp only at hSw); go_simp; try with_reducible rfl); try simp only [Act.put, List.setIfInBounds_toArray, List.set_cons_zero, List.set_cons_succ]
                refine wpAnyH_take (i := 17) (oi := ⟨some _, _, _, _, _, _⟩) (v := ?_) rfl (by kernel_rfl) (by kernel_rfl) (by kernel_rfl) (fun _ _ _ h => h) (Or.inl ⟨by kernel_rfl, ?_⟩) (by assumption) ?_; rotate_left; (intro w hSw; (try dsimp only at hSw); go_simp; try with_reducible rfl); try simp only [Act.put, List.setIfInBounds_toArray, List.set_cons_zero, List.set_cons_succ]
                refine wpAnyH_take (i := 18) (oi := ⟨some _, _, _, _, _, _⟩) (v := ?_) rfl (by kernel_rfl) (by kernel_rfl) (by kernel_rfl) (fun _ _ _ h => h) (Or.inl ⟨by kernel_rfl, ?_⟩) (by assumption) ?_; rotate_left; (intro w hSw; (try dsimp only at hSw); go_simp; try with_reducible rfl); try simp only [Act.put, List.setIfInBounds_toArray, List.set_cons_zero, List.set_cons_succ]
                refine wpAnyH_take (i := 19) (oi := ⟨some _, _, _, _, _, _⟩) (v := ?_) rfl (by kernel_rfl) (by kernel_rfl) (by kernel_rfl) (fun _ _ _ h => h) (Or.inl ⟨by kernel_rfl, ?_⟩) (by assumption) ?_; rotate_left; (intro w hSw; (try dsimp only at hSw); go_simp; try with_reducible rfl); try simp only [Act.put, List.setIfInBounds_toArray, List.set_cons_zero, List.set_cons_succ]
                refine wpAnyH_ready (rs := [16, 20]) (by kernel_rfl) (by simp) ?_
                (refine AllReadyH.cons (o := ⟨_, _, _, _, _, _⟩) (by rfl) ?_ (AllReadyH.cons (o := ⟨_, _, _, _, _, _⟩) (by rfl) ?_ AllReadyH.nil)) <;> intro K hK
                · go_simp
                  refine (HLg.out _ HU.out).mono ?_
                  rintro e U2 ⟨rfl, rfl⟩
                  refine hK.out _ _ ?_ (fun hHeld => ?_)
                  · exact trivial
                  clear hK K
                  try simp only [Act.put, List.setIfInBounds_toArray, List.set_cons_zero, List.set_cons_succ]
                  have hz := HU.out.pb.cells.2.2.2.2.2.1
                  refine wpAnyH_ready (rs := [20]) (by kernel_rfl) (by simp) ?_
                  refine AllReadyH.cons (o := ⟨_, _, _, _, _, _⟩) (by rfl) ?_ AllReadyH.nil
                  intro K hK
                  go_simp
                  refine hK.out _ _ ?_ (fun hHeld => ?_)
                  · exact trivial
                  clear hK K
                  try simp only [Act.put, List.setIfInBounds_toArray, List.set_cons_zero, List.set_cons_succ]
                  refine wpAnyH_take (i := 21) (oi := ⟨some _, _, _, _, _, _⟩) (v := ?_) rfl (by kernel_rfl) (by kernel_rfl) (by kernel_rfl) (fun _ _ _ h => h) (Or.inl ⟨by kernel_rfl, ?_⟩) (by assumption) ?_; rotate_left; (intro w hSw; (try dsimp only at hSw); go_simp; try with_reducible rfl); try simp only [Act.put, List.setIfInBounds_toArray, List.set_cons_zero, List.set_cons_succ]
                  refine wpAnyH_take (i := 22) (oi := ⟨some _, _, _, _, _, _⟩) (v := ?_) rfl (by kernel_rfl) (by kernel_rfl) (by kernel_rfl) (fun _ _ _ h => h) (Or.inl ⟨by kernel_rfl, ?_⟩) (by assumption) ?_; rotate_left; (intro w hSw; (try dsimp only at hSw); go_simp; try with_reducible rfl); try simp only [Act.put, List.setIfInBounds_toArray, List.set_cons_zero, List.set_cons_succ]
                  refine wpAnyH_done (by kernel_rfl) ?_ _
                  go_wp2_with fail
                  go_meet
                  exact ⟨rfl, HU⟩
                · have hz := HU.out.pb.cells.2.2.2.2.2.1
                  go_simp
                  refine hK.out _ _ ?_ (fun hHeld => ?_)
                  · exact trivial
                  clear hK K
                  try simp only [Act.put, List.setIfInBounds_toArray, List.set_cons_zero, List.set_cons_succ]
                  refine wpAnyH_ready (rs := [16]) (by kernel_rfl) (by simp) ?_
                  refine AllReadyH.cons (o := ⟨_, _, _, _, _, _⟩) (by rfl) ?_ AllReadyH.nil
                  intro K hK
                  go_simp
                  refine (HLg.out _ HU.out).mono ?_
                  rintro e U2 ⟨rfl, rfl⟩
                  refine hK.out _ _ ?_ (fun hHeld => ?_)
                  · exact trivial
                  clear hK K
                  try simp only [Act.put, List.setIfInBounds_toArray, List.set_cons_zero, List.set_cons_succ]
                  refine wpAnyH_take (i := 21) (oi := ⟨some _, _, _, _, _, _⟩) (v := ?_) rfl (by kernel_rfl) (by kernel_rfl) (by kernel_rfl) (fun _ _ _ h => h) (Or.inl ⟨by kernel_rfl, ?_⟩) (by assumption) ?_; rotate_left; (intro w hSw; (try dsimp only at hSw); go_simp; try with_reducible rfl); try simp only [Act.put, List.setIfInBounds_toArray, List.set_cons_zero, List.set_cons_succ]
                  refine wpAnyH_take (i := 22) (oi := ⟨some _, _, _, _, _, _⟩) (v := ?_) rfl (by kernel_rfl) (by kernel_rfl) (by kernel_rfl) (fun _ _ _ h => h) (Or.inl ⟨by kernel_rfl, ?_⟩) (by assumption) ?_; rotate_left; (intro w hSw; (try dsimp only at hSw); go_simp; try with_reducible rfl); try simp only [Act.put, List.setIfInBounds_toArray, List.set_cons_zero, List.set_cons_succ]
                  refine wpAnyH_done (by kernel_rfl) ?_ _
                  go_wp2_with fail
                  go_meet
                  exact ⟨rfl, HU⟩
            case rest => as_aux_lemma =>
              obtain ⟨rfl, HU⟩ := hcut
              clear HB0 HB1 HB2 HB3 HN HP HS HNy HPy
              go_wp2_with fail
              go_roundw
              case rel => exact ⟨k + 1, by omega, by omega, by go_num, (t1, t2), HOk.out, HU⟩
              case measure => simp [intOf]; omega
        · have HF := Lib.hid HS.out.old
          clear HNy HPy HS Hs HSl hok
          by_cases hk1 : (k : Int) < n
          · have hk3 : ¬ (k : Int) < 200 := by omega
            clear hlt
            go_wp2_with fail
            refine (HA.out _).mono ?_
            rintro e w5 ⟨rfl, ho⟩
            have HO5 := Lib.hid (HF.out.trans ho)
            clear ho
            go_wp2_with fail
            go_ret
            exact ⟨rfl, HO5.out⟩
          · clear hlt
            go_wp2_with fail
            refine (HA.out _).mono ?_
            rintro e w5 ⟨rfl, ho⟩
            have HO5 := Lib.hid (HF.out.trans ho)
            clear ho
            go_wp2_with fail
            go_ret
            exact ⟨rfl, HO5.out⟩


theorem own : ownKnob Try.prog.godebug = none := by kernel_rfl
theorem laidOut : laidOutB Try.prog = true := by kernel_rfl

set_option maxRecDepth 100000 in
theorem lifted (os : Os) (started : os.Started) (H : Type) (enc : TypeId × Value → H) :
    ReturnsInHanded {} Try.checked os 3 .any (Rows.envPlaysSpec.pre6 enc Try.prog Try.f3 Rows.envPlaysRow.domain false) (Rows.envPlaysSpec.post enc Try.prog Try.f3 false true false false) := by
  refine returnsInHanded_of_change (C := Try.checked) own started (by kernel_rfl) Try.func3
    (ChangeSpec.witness6 (enc := enc) (C := Try.checked) false ⟨#[], #[(.agg #[.int .i64 0, .int .i64 0, .int .i64 0, .int .i64 0]), .slice none 0 0], []⟩ 8 (by kernel_rfl) (by kernel_rfl) (by kernel_rfl) (by kernel_rfl)) ?_
  intro W base args ds gs before hval0 hW hcnd _
  have hval : ∀ (j : Nat) t v, Try.f3.params[j]? = some t → args[j]? = some v → Value.okWide Try.prog W .any base t v := hval0
  have hW' := hW
  have hlt : ∀ p ∈ before, p.block < W.heap.size := fun p hp => hW'.lt p hp
  obtain ⟨p, q, hA0, hV, rfl, hfz, hnd⟩ := hW
  have hA : DataW.TrodAll enc Try.prog W 0 (fun _ => true) true Try.f3.params.toList args.toList ds p := hA0
  rw [Try.params3] at hA hval
  obtain ⟨v0, vs0, d0, ds0, p0, q0, hargs, rfl, rfl, h0, r0⟩ := trodAll_cons hA
  obtain ⟨v1, vs1, d1, ds1, p1, q1, rfl, rfl, rfl, h1, r1⟩ := trodAll_cons r0
  obtain ⟨rfl, rfl, rfl⟩ := trodAll_nil r1
  obtain rfl : args = #[v0, v1] := by cases args; simp_all
  obtain ⟨rfl, rfl⟩ := trodVars_none hV
  obtain ⟨a0, b0, c0, e0, rfl⟩ := open_shape (hval 0 23 v0 rfl rfl) h0
  obtain ⟨q1, n1, c1, B1, rfl, bn1, bc1, bs1⟩ := open_bools (hval 1 24 v1 rfl rfl) h1 (fun x hx => hlt x (by simp [hx]))
  refine (walk a0 b0 c0 e0 q1 n1 c1 B1 W bn1 bc1 bs1).mono fun e W' ⟨he, hg⟩ => ?_
  subst he
  exact ⟨_, rfl, law_done laidOut Try.underlying4 rfl (by kernel_rfl) rfl hW' rfl hg⟩

theorem over : Rows.envPlaysRow.holds Try.pinned (OpenSpec.ofChange Rows.envPlaysSpec) :=
  OpenClaim.holds_of_wide 3 Try.f3 rfl rfl rfl rfl rfl rfl rfl ⟨rfl, rfl, rfl, rfl, rfl⟩ rfl rfl rfl rfl rfl (by kernel_rfl) Try.func3 (by kernel_rfl)
    (of_decide_eq_true (by kernel_rfl)) (by unfold Func.isWrapper; first | (rw [if_pos (by decide +kernel)]; kernel_rfl) | (rw [if_neg (by decide +kernel)]; exact ⟨rfl, rfl⟩))
    (fun os started H enc _ => lifted os started H enc)

theorem proved : Rows.EnvPlaysSaid :=
  over
end Go.Proofs.Ytgdlinfgcfjciaa.envPlays
