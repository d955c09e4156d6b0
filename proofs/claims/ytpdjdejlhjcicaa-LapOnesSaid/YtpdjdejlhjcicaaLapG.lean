/- Package lap: Spectra and Whole. (by wip/tools/lapg.py and exp.py) -/
import Derived.Test.YtpdjdejlhjcicaaLapE
import Derived.Test.YtpdjdejlhjcicaaLapF
import Derived.Test.YtpdjdejlhjcicaaNetF
import Derived.Test.YtpdjdejlhjcicaaNetG
namespace Go.Proofs.Ytpdjdejlhjcicaa
set_option linter.unusedVariables false
set_option linter.unusedSimpArgs false
open Go.RowKit Go.ChangeShapes Go.WideShapes

def louder (G : Nat → Int) (ng : Nat) : Nat → (Nat → Int) → Nat → Int := fun b f => upB f (gainsAt G ng b)
def quieter (G : Nat → Int) (ng : Nat) : Nat → (Nat → Int) → Nat → Int := fun b f => downB f (gainsAt G ng b)
def forth : Nat → (Nat → Int) → Nat → Int := fun _ f => fwdN 4 f
def back : Nat → (Nat → Int) → Nat → Int := fun _ f => bckN 4 f
def metF (N : Nat) (G : Nat → Int) (ng : Nat) (F : Nat → Int) : Nat → Int := meetTo turnWA turnWB N (mapTo N (louder G ng) F)
def spectraF (N : Nat) (G : Nat → Int) (ng : Nat) (F : Nat → Int) : Nat → Int := mapTo N forth (metF N G ng F)
def wholeM (n : Nat) (F : Nat → Int) : Nat → Int := meetTo backWA backWB n (mapTo n back F)
def wholeF (n : Nat) (G : Nat → Int) (ng : Nat) (F : Nat → Int) : Nat → Int := mapTo n (quieter G ng) (wholeM n F)
theorem stepB_in {f : Nat → Int} (h : Fits64 f) (x : NPair) : Fits64 (stepB f x) := by
  intro k
  unfold stepB
  split
  · exact wrap64_bd _
  · split
    · exact wrap64_bd _
    · exact h k
theorem foldB_in : ∀ (l : List NPair) {f : Nat → Int}, Fits64 f → Fits64 (l.foldl stepB f)
  | [], _, h => h
  | x :: l, _, h => foldB_in l (stepB_in h x)
theorem bckN_in (n : Nat) {f : Nat → Int} (h : Fits64 f) : Fits64 (bckN n f) := by
  induction n with
  | zero => exact h
  | succ n ih => exact foldB_in _ ih
theorem mapTo_in {φ : Nat → (Nat → Int) → Nat → Int} {F : Nat → Int} {n : Nat} (h : ∀ b f, Fits64 f → Fits64 (φ b f)) (hF : Fits64 F) : Fits64 (mapTo n φ F) := fun q => by
  unfold mapTo
  split
  · exact mapB_in h hF q
  · exact hF q
theorem wholeM_in {n : Nat} {F : Nat → Int} (h : Fits64 F) : Fits64 (wholeM n F) :=
  meetTo_in (fun _ _ _ _ => wrap64_bd _) (fun _ _ _ _ => wrap64_bd _) (mapTo_in (fun _ _ hf => bckN_in 4 hf) h)
/-- A list of blocks of the call's own, a lap's box, gains. -/
structure SpR (w : World) (bx : Nat) (pt : Option Addr) (N : Nat) (pg : Option Addr) (ng : Nat) (G M : Nat → Int) (W : World) : Prop where
  at_ : OwnR 16 (fun q => q < w.heap.size ∨ q = bx) W pt N M
  box : W.heap[bx]? = some (.cells T8 49 (0, 0))
  gs : SlF 4 W pg ng G
  old : Old w W
namespace SpR
variable {w W V : World} {bx : Nat} {pt : Option Addr} {N : Nat} {pg : Option Addr} {ng : Nat} {G M : Nat → Int}
theorem keep (h : SpR w bx pt N pg ng G M W) (o : Old W V) : SpR w bx pt N pg ng G M V :=
  ⟨h.at_.old o, (o.block _ (lt_of_block h.box)).trans h.box, h.gs.old o, h.old.trans o⟩
theorem ext {M' : Nat → Int} (h : SpR w bx pt N pg ng G M W) (e : ∀ j, j < N * 16 → M j = M' j) : SpR w bx pt N pg ng G M' W :=
  ⟨h.at_.ext fun j hj => e j (by omega), h.box, h.gs, h.old⟩
theorem store {g : Nat} (h : SpR w bx (some ⟨g, 0, none⟩) N pg ng G M W) (h0 : SlF 4 w pg ng G) (k : Nat) (hk : k < N) (f : Nat → Int) : SpR w bx (some ⟨g, 0, none⟩) N pg ng G (patch M (k * 16) 16 f) (W.setCells g (k * 16) (rowL 16 f)) := by
  obtain ⟨g', h1, h2, h3⟩ := h.at_ (by omega)
  have e : g' = g := by simpa using h1.symm
  subst e
  have ho : Old w (W.setCells g' (k * 16) (rowL 16 f)) := h.old.after (Kept.setCells (X := fun q => q < w.heap.size) W (fun e => h2 (.inl e)) _ _) fun _ h => h
  exact ⟨fun _ => ⟨g', rfl, h2, h3.setCells (k * 16) 16 (by omega) f⟩, (setCells_heap_other _ _ _ _ _ (fun e => h2 (.inr e.symm))).trans h.box, h0.old ho, ho⟩
theorem row {g : Nat} (h : SpR w bx (some ⟨g, 0, none⟩) N pg ng G M W) (k : Nat) (hk : k < N) : (∀ j, j < 16 → W.cell? ⟨g, k * 16 + j, none⟩ = some (.int .i64 (M (k * 16 + j)))) ∧ W.there g (k * 16) 16 := by
  obtain ⟨g', h1, _, h3⟩ := h.at_ (by omega)
  have e : g' = g := by simpa using h1.symm
  subst e
  exact ⟨fun j hj => h3.cell _ (by omega), h3.there _ _ (by omega)⟩
theorem drew (h : SpR w bx pt N pg ng G M W) : SpR w bx pt N pg ng G M W.drew := h.keep (Old.drew (Old.refl _))
/-- What is done to the blocks alone. -/
theorem turned {M' : Nat → Int} (h : SpR w bx pt N pg ng G M W) (h0 : SlF 4 w pg ng G) (k : Kept (fun q => q < W.heap.size ∧ ¬ (0 < N ∧ pt = some ⟨q, 0, none⟩)) W V) (h2 : OwnR 16 (fun q => q < W.heap.size ∧ ¬ (0 < N ∧ pt = some ⟨q, 0, none⟩)) V pt N M') : SpR w bx pt N pg ng G M' V := by
  have ho : Old w V := h.old.after k fun q hq => ⟨Nat.lt_of_lt_of_le hq h.old.size, fun e => by
    obtain ⟨g, e1, e2, _⟩ := h.at_ e.1
    rw [e.2] at e1
    have e3 : q = g := congrArg Addr.block (Option.some.inj e1)
    exact e2 (.inl (e3 ▸ hq))⟩
  refine ⟨fun hn => ?_, (k.block bx ⟨lt_of_block h.box, fun e => ?_⟩).trans h.box, h0.old ho, ho⟩
  · obtain ⟨g, e1, e2, _⟩ := h.at_ hn
    obtain ⟨g', e3, _, e4⟩ := h2 hn
    have e5 : g = g' := by rw [e1] at e3; simpa using e3
    subst e5
    exact ⟨g, e1, e2, e4⟩
  · obtain ⟨g, e1, e2, _⟩ := h.at_ e.1
    rw [e.2] at e1
    have e3 : bx = g := congrArg Addr.block (Option.some.inj e1)
    exact e2 (.inr e3.symm)
end SpR
theorem SpR.meetTurn {w W : World} {bx : Nat} {pt : Option Addr} {N : Nat} {pg : Option Addr} {ng : Nat} {G M : Nat → Int} (h : SpR w bx pt N pg ng G M W) (h0 : SlF 4 w pg ng G) (cap : Nat) (hN : N ≤ 17179869184) :
    Calls Try.prog 34 #[.slice pt N cap, .func (.func 35) #[.agg T8] #[]] W fun e w' => e = .returned (.tuple #[]) ∧ SpR w bx pt N pg ng G (meetTo turnWA turnWB N M) w' :=
  (meetTurn_any (fun q => q < W.heap.size ∧ ¬ (0 < N ∧ pt = some ⟨q, 0, none⟩)) pt N cap M W (fun hn => by obtain ⟨g, h1, _, h3⟩ := h.at_ hn; exact ⟨g, h1, fun e => e.2 ⟨hn, h1⟩, h3⟩) (fun q hq => hq.1) hN).mono
    fun _ _ ⟨h1, h2, h3⟩ => ⟨h1, h.turned h0 h3 h2⟩
theorem SpR.meetBack {w W : World} {bx : Nat} {pt : Option Addr} {N : Nat} {pg : Option Addr} {ng : Nat} {G M : Nat → Int} (h : SpR w bx pt N pg ng G M W) (h0 : SlF 4 w pg ng G) (cap : Nat) (hN : N ≤ 17179869184) :
    Calls Try.prog 34 #[.slice pt N cap, .func (.func 37) #[.agg T8] #[]] W fun e w' => e = .returned (.tuple #[]) ∧ SpR w bx pt N pg ng G (meetTo backWA backWB N M) w' :=
  (meetBack_any (fun q => q < W.heap.size ∧ ¬ (0 < N ∧ pt = some ⟨q, 0, none⟩)) pt N cap M W (fun hn => by obtain ⟨g, h1, _, h3⟩ := h.at_ hn; exact ⟨g, h1, fun e => e.2 ⟨hn, h1⟩, h3⟩) (fun q hq => hq.1) hN).mono
    fun _ _ ⟨h1, h2, h3⟩ => ⟨h1, h.turned h0 h3 h2⟩
set_option maxRecDepth 100000 in
set_option maxHeartbeats 4000000 in
theorem Spectra_any (p : Option Addr) (n cap : Nat) (xs : List Int) (pg : Option Addr) (ng cg : Nat) (G : Nat → Int) (w : World) (hs : SlI w .i64 (.slice p n cap) xs) (hn : n ≤ 17179869184) (hg : SlF 4 w pg ng G) :
    Calls Try.prog 20 #[.agg T8, .slice p n cap, .slice pg ng cg] w fun e w' => ∃ q c, e = .returned (.slice q (cnt n) c) ∧ OwnR 16 (fun q => q < w.heap.size) w' q (cnt n) (spectraF (cnt n) G ng (fun j => xs.getD j 0)) ∧ Old w w' ∧ q ≠ none := by
  obtain ⟨F, hF⟩ : ∃ F : Nat → Int, F = fun j => xs.getD j 0 := ⟨_, rfl⟩
  have hB := Blocks_any p n cap xs (w.alloc (.cells T8 49)) (hs.old (Old.alloc _ _)) (by omega)
  rw [← hF] at hB ⊢
  obtain ⟨N, hN⟩ : ∃ N, N = cnt n := ⟨_, rfl⟩
  have hN2 : N ≤ 17179869184 := by rw [hN]; unfold cnt; omega
  rw [← hN] at hB ⊢
  have HB := Lib.hid hB
  have HGo := Lib.hid (fun (i : Nat) (h : i < N) (V : World) (hV : SlF 4 V pg ng G) => gainsOf_any pg ng cg i G V hV (by omega))
  have Hs16 := Lib.hid Try.block_size
  have HZ : Hid ((Try.prog.info? 47).map (·.size) = some 16) := Lib.hid (by kernel_rfl)
  have hs8 := T8_size
  have HG := Lib.hid hg
  have HMt := Lib.hid (fun (M : Nat → Int) (pt : Option Addr) (V : World) (h : SpR w w.heap.size pt N pg ng G M V) (c : Nat) => h.meetTurn hg c hN2)
  have H0 : Hid (∀ W, CellsAt W (w.heap.size + 1) (N * 16) F → Old (w.alloc (.cells T8 49)) W → SpR w w.heap.size (some ⟨w.heap.size + 1, 0, none⟩) N pg ng G F W) := fun W hc ho =>
    ⟨fun _ => ⟨_, rfl, fun e => by omega, hc.less (by omega)⟩, (ho.block _ (by simp)).trans (heap_alloc_new _ _), (hg.old (Old.alloc _ _)).old ho, (Old.alloc w _).trans ho⟩
  rw [World.size_alloc] at HB
  clear hs hg hB hF hN
  have HBx : Hid (∀ (pt : Option Addr) (M : Nat → Int) (W : World), SpR w w.heap.size pt N pg ng G M W → W.heap[w.heap.size]? = some (.cells T8 49 (0, 0))) := fun _ _ _ h => h.box
  generalize hT : T8 = R at *
  go_enter Try.func20, Try.ntmps20
  go_wp2_with fail
  refine HB.out.mono ?_
  rintro e w1 ⟨rfl, hc1, ho1⟩
  obtain ⟨pt, hpt⟩ : ∃ pt : Option Addr, pt = some ⟨w.heap.size + 1, 0, none⟩ := ⟨_, rfl⟩
  rw [← hpt] at H0 ⊢
  have HPt : Hid (pt ≠ none) := Lib.hid (by rw [hpt]; exact fun h => by cases h)
  have H1 := Lib.hid (H0.out w1 hc1 ho1)
  clear hc1 ho1 H0 HB hpt
  go_wp2_with fail
  have HCall := Lib.hid (fun (k : Nat) (h : k < N) (V : World) => Up_any (rowAt F k) (gainsAt G ng k) V)
  go_loopw [14] (fun i wr => ∃ k : Nat, k ≤ N ∧ i = .int .i64 k ∧ Hid (SpR w w.heap.size pt N pg ng G (mapTo k (louder G ng) F) wr)) (fun i _ => N - (intOf i).toNat)
  case atStart => exact ⟨0, by omega, rfl, by rw [mapTo_zero]; exact H1⟩
  case round =>
    obtain ⟨k, hk, rfl, HS⟩ := hrel
    by_cases hlt : k < N
    · clear H1
      obtain ⟨gb, rfl, _, _⟩ := HS.out.at_ (by omega)
      have i1 : (0 : Int) ≤ k := by omega
      have i2 : (k : Int) < N := by omega
      have cells : Hid (∀ V, Old wr.drew V → (∀ j, j < 16 → V.cell? ⟨gb, k * 16 + j, none⟩ = some (.int .i64 (rowAt F k j))) ∧ V.there gb (k * 16) 16) := fun V hV => by
        have h := (HS.out.drew.keep hV).row k hlt
        exact ⟨fun j hj => by rw [← mapTo_row (louder G ng) F k j]; exact h.1 j hj, h.2⟩
      have NX : Hid (∀ V, Old wr.drew V → SpR w w.heap.size (some ⟨gb, 0, none⟩) N pg ng G (mapTo (k + 1) (louder G ng) F) (V.setCells gb (k * 16) (rowL 16 (louder G ng k (rowAt F k))))) := fun V hV => by
        have h := (HS.out.drew.keep hV).store HG.out k hlt (louder G ng k (rowAt F k))
        rwa [mapTo_step] at h
      have HGs : Hid (∀ V, Old wr.drew V → SlF 4 V pg ng G) := fun V hV => (HS.out.drew.keep hV).gs
      have hGo := HGo.out k hlt
      have hC := HCall.out k hlt
      have HGo' := Lib.hid hGo
      have HC' := Lib.hid hC
      clear hGo hC HS
      go_wp2_with fail
      refine wp_region_held_drew (S := (fun _ => True)) (by kernel_rfl) ?_ (fun hHeld => ?_)
      · exact trivial
      refine wpAnyH_take (i := 0) (oi := ⟨some _, _, _, _, _, _⟩) (v := ?_) rfl (by kernel_rfl) (by kernel_rfl) (by kernel_rfl) (fun _ _ _ h => h) (Or.inl ⟨by kernel_rfl, ?_⟩) (by assumption) ?_; rotate_left; (intro w hSw; (try dsimp only at hSw); go_simp; try with_reducible rfl); try simp only [Act.put, List.setIfInBounds_toArray, List.set_cons_zero, List.set_cons_succ]
      refine wpAnyH_take (i := 1) (oi := ⟨some _, _, _, _, _, _⟩) (v := ?_) rfl (by kernel_rfl) (by kernel_rfl) (by kernel_rfl) (fun _ _ _ h => h) (Or.inl ⟨by kernel_rfl, ?_⟩) (by assumption) ?_; rotate_left; (intro w hSw; (try dsimp only at hSw); go_simp; try with_reducible rfl); try simp only [Act.put, List.setIfInBounds_toArray, List.set_cons_zero, List.set_cons_succ]
      refine wpAnyH_take (i := 2) (oi := ⟨some _, _, _, _, _, _⟩) (v := ?_) rfl (by kernel_rfl) (by kernel_rfl) (by kernel_rfl) (fun _ _ _ h => h) (Or.inl ⟨by kernel_rfl, ?_⟩) (by assumption) ?_; rotate_left; (intro w hSw; (try dsimp only at hSw); go_simp; try with_reducible rfl); try simp only [Act.put, List.setIfInBounds_toArray, List.set_cons_zero, List.set_cons_succ]
      refine wpAnyH_take (i := 3) (oi := ⟨some _, _, _, _, _, _⟩) (v := ?_) rfl (by kernel_rfl) (by kernel_rfl) (by kernel_rfl) (fun _ _ _ h => h) (Or.inl ⟨by kernel_rfl, ?_⟩) (by assumption) ?_; rotate_left; (intro w hSw; (try dsimp only at hSw); go_simp; try with_reducible rfl); try simp only [Act.put, List.setIfInBounds_toArray, List.set_cons_zero, List.set_cons_succ]
      refine wpAnyH_take (i := 4) (oi := ⟨some _, _, _, _, _, _⟩) (v := ?_) rfl (by kernel_rfl) (by kernel_rfl) (by kernel_rfl) (fun _ _ _ h => h) (Or.inl ⟨by kernel_rfl, ?_⟩) (by assumption) ?_; rotate_left; (intro w hSw; (try dsimp only at hSw); go_simp; try with_reducible rfl); try simp only [Act.put, List.setIfInBounds_toArray, List.set_cons_zero, List.set_cons_succ]
      refine wpAnyH_take (i := 6) (oi := ⟨some _, _, _, _, _, _⟩) (v := ?_) rfl (by kernel_rfl) (by kernel_rfl) (by kernel_rfl) (fun _ _ _ h => h) (Or.inl ⟨by kernel_rfl, ?_⟩) (by assumption) ?_; rotate_left; (intro w hSw; (try dsimp only at hSw); go_simp; try with_reducible rfl); try simp only [Act.put, List.setIfInBounds_toArray, List.set_cons_zero, List.set_cons_succ]
      refine wpAnyH_take (i := 7) (oi := ⟨some _, _, _, _, _, _⟩) (v := ?_) rfl (by kernel_rfl) (by kernel_rfl) (by kernel_rfl) (fun _ _ _ h => h) (Or.inl ⟨by kernel_rfl, ?_⟩) (by assumption) ?_; rotate_left; (intro w hSw; (try dsimp only at hSw); go_simp; try with_reducible rfl); try simp only [Act.put, List.setIfInBounds_toArray, List.set_cons_zero, List.set_cons_succ]
      refine wpAnyH_ready (rs := [5, 8]) (by kernel_rfl) (by simp) ?_
      refine AllReadyH.cons (o := ⟨_, _, _, _, _, _⟩) rfl (fun K hK => ?_) (AllReadyH.cons (o := ⟨_, _, _, _, _, _⟩) rfl (fun K hK => ?_) AllReadyH.nil)
      · rw [if_pos (by kernel_rfl)]
        refine wp_load_blk 16 (rowAt F k) 28 _ rfl (gb) (k * 16) rfl _ ((cells.out _ (Old.refl _)).1) Try.underlying28 rfl Hs16.out ?_
        try simp only [Act.put, List.setIfInBounds_toArray, List.set_cons_zero, List.set_cons_succ]
        refine hK.out _ _ ?_ (fun hHeld => ?_)
        · exact trivial
        clear hK K
        try simp only [Act.put, List.setIfInBounds_toArray, List.set_cons_zero, List.set_cons_succ]
        refine wpAnyH_ready (rs := [8]) (by kernel_rfl) (by simp) ?_
        refine AllReadyH.cons (o := ⟨_, _, _, _, _, _⟩) rfl (fun K hK => ?_) AllReadyH.nil
        go_simp
        refine (HGo'.out _ (HGs.out _ (Old.refl _))).mono ?_
        rintro e V1 ⟨rfl, o1⟩
        go_wp2_with fail
        refine hK.out _ _ ?_ (fun hHeld => ?_)
        · exact trivial
        clear hK K
        try simp only [Act.put, List.setIfInBounds_toArray, List.set_cons_zero, List.set_cons_succ]
        refine wpAnyH_ready (rs := [9]) (by kernel_rfl) (by simp) ?_
        refine AllReadyH.cons (o := ⟨_, _, _, _, _, _⟩) rfl (fun K hK => ?_) AllReadyH.nil
        go_simp
        refine (HC'.out _).mono ?_
        rintro e V2 ⟨rfl, o2⟩
        go_wp2_with fail
        refine hK.out _ _ ?_ (fun hHeld => ?_)
        · exact trivial
        clear hK K
        try simp only [Act.put, List.setIfInBounds_toArray, List.set_cons_zero, List.set_cons_succ]
        refine wpAnyH_take (i := 10) (oi := ⟨some _, _, _, _, _, _⟩) (v := ?_) rfl (by kernel_rfl) (by kernel_rfl) (by kernel_rfl) (fun _ _ _ h => h) (Or.inl ⟨by kernel_rfl, ?_⟩) (by assumption) ?_; rotate_left; (intro w hSw; (try dsimp only at hSw); go_simp; try with_reducible rfl); try simp only [Act.put, List.setIfInBounds_toArray, List.set_cons_zero, List.set_cons_succ]
        refine wpAnyH_ready (rs := [11]) (by kernel_rfl) (by simp) ?_
        refine AllReadyH.cons (o := ⟨_, _, _, _, _, _⟩) rfl (fun K hK => ?_) AllReadyH.nil
        rw [if_pos (by kernel_rfl)]
        refine wp_store_blk 16 (louder G ng k (rowAt F k)) 28 _ _ rfl (gb) (k * 16) rfl rfl ((cells.out _ (o1.trans o2)).2) Hs16.out ?_
        try simp only [Act.put, List.setIfInBounds_toArray, List.set_cons_zero, List.set_cons_succ]
        refine hK.out _ _ ?_ (fun hHeld => ?_)
        · exact trivial
        clear hK K
        try simp only [Act.put, List.setIfInBounds_toArray, List.set_cons_zero, List.set_cons_succ]
        refine wpAnyH_done (by kernel_rfl) ?_ _
        have HN := Lib.hid (NX.out _ (o1.trans o2))
        clear cells NX HGs o1 o2 HGo' HC'
        go_wp2_with fail
        go_roundw
        case rel => exact ⟨k + 1, by omega, by go_num, HN⟩
        case measure => (simp [intOf]; try omega)
      · go_simp
        refine (HGo'.out _ (HGs.out _ (Old.refl _))).mono ?_
        rintro e V1 ⟨rfl, o1⟩
        go_wp2_with fail
        refine hK.out _ _ ?_ (fun hHeld => ?_)
        · exact trivial
        clear hK K
        try simp only [Act.put, List.setIfInBounds_toArray, List.set_cons_zero, List.set_cons_succ]
        refine wpAnyH_ready (rs := [5]) (by kernel_rfl) (by simp) ?_
        refine AllReadyH.cons (o := ⟨_, _, _, _, _, _⟩) rfl (fun K hK => ?_) AllReadyH.nil
        rw [if_pos (by kernel_rfl)]
        refine wp_load_blk 16 (rowAt F k) 28 _ rfl (gb) (k * 16) rfl _ ((cells.out _ o1).1) Try.underlying28 rfl Hs16.out ?_
        try simp only [Act.put, List.setIfInBounds_toArray, List.set_cons_zero, List.set_cons_succ]
        refine hK.out _ _ ?_ (fun hHeld => ?_)
        · exact trivial
        clear hK K
        try simp only [Act.put, List.setIfInBounds_toArray, List.set_cons_zero, List.set_cons_succ]
        refine wpAnyH_ready (rs := [9]) (by kernel_rfl) (by simp) ?_
        refine AllReadyH.cons (o := ⟨_, _, _, _, _, _⟩) rfl (fun K hK => ?_) AllReadyH.nil
        go_simp
        refine (HC'.out _).mono ?_
        rintro e V2 ⟨rfl, o2⟩
        go_wp2_with fail
        refine hK.out _ _ ?_ (fun hHeld => ?_)
        · exact trivial
        clear hK K
        try simp only [Act.put, List.setIfInBounds_toArray, List.set_cons_zero, List.set_cons_succ]
        refine wpAnyH_take (i := 10) (oi := ⟨some _, _, _, _, _, _⟩) (v := ?_) rfl (by kernel_rfl) (by kernel_rfl) (by kernel_rfl) (fun _ _ _ h => h) (Or.inl ⟨by kernel_rfl, ?_⟩) (by assumption) ?_; rotate_left; (intro w hSw; (try dsimp only at hSw); go_simp; try with_reducible rfl); try simp only [Act.put, List.setIfInBounds_toArray, List.set_cons_zero, List.set_cons_succ]
        refine wpAnyH_ready (rs := [11]) (by kernel_rfl) (by simp) ?_
        refine AllReadyH.cons (o := ⟨_, _, _, _, _, _⟩) rfl (fun K hK => ?_) AllReadyH.nil
        rw [if_pos (by kernel_rfl)]
        refine wp_store_blk 16 (louder G ng k (rowAt F k)) 28 _ _ rfl (gb) (k * 16) rfl rfl ((cells.out _ (o1.trans o2)).2) Hs16.out ?_
        try simp only [Act.put, List.setIfInBounds_toArray, List.set_cons_zero, List.set_cons_succ]
        refine hK.out _ _ ?_ (fun hHeld => ?_)
        · exact trivial
        clear hK K
        try simp only [Act.put, List.setIfInBounds_toArray, List.set_cons_zero, List.set_cons_succ]
        refine wpAnyH_done (by kernel_rfl) ?_ _
        have HN := Lib.hid (NX.out _ (o1.trans o2))
        clear cells NX HGs o1 o2 HGo' HC'
        go_wp2_with fail
        go_roundw
        case rel => exact ⟨k + 1, by omega, by go_num, HN⟩
        case measure => (simp [intOf]; try omega)
    · obtain rfl : k = N := by omega
      have H2 := HS
      clear HS HCall
      have hb := HBx.out _ _ _ H2.out
      have HM := Lib.hid (HMt.out _ _ _ H2.out k)
      have HC2 := Lib.hid (fun (k' : Nat) (h : k' < k) (V : World) => Forward_any (rowAt (meetTo turnWA turnWB k (mapTo k (louder G ng) F)) k') V)
      clear HGo HMt H1
      go_wp2_with (with_reducible refine wpList_load_row rfl 47 _ rfl w.heap.size rfl 49 R (0, 0) _ hb Try.underlying47 rfl (by rw [hs8]; exact HZ.out) ?_)
      refine HM.out.mono ?_
      rintro e w2 ⟨rfl, h3⟩
      have H3 := Lib.hid h3
      clear h3 HM H2 hb
      obtain ⟨M2, hM2⟩ : ∃ M, M = meetTo turnWA turnWB k (mapTo k (louder G ng) F) := ⟨_, rfl⟩
      rw [← hM2] at H3 HC2
      have HSpec : Hid (spectraF k G ng F = mapTo k forth M2) := by unfold Hid spectraF metF; rw [hM2]
      have HCall := HC2
      clear hM2 HC2
      obtain ⟨N, hNk⟩ : ∃ N, N = k := ⟨_, rfl⟩
      subst hNk
      go_wp2_with fail
      go_loopw [36] (fun i wr => ∃ k : Nat, k ≤ N ∧ i = .int .i64 k ∧ Hid (SpR w w.heap.size pt N pg ng G (mapTo k (forth) M2) wr)) (fun i _ => N - (intOf i).toNat)
      case atStart => exact ⟨0, by omega, rfl, by rw [mapTo_zero]; exact H3⟩
      case round =>
        obtain ⟨k, hk, rfl, HS⟩ := hrel
        by_cases hlt : k < N
        · clear H3
          obtain ⟨gb, rfl, _, _⟩ := HS.out.at_ (by omega)
          have i1 : (0 : Int) ≤ k := by omega
          have i2 : (k : Int) < N := by omega
          have cells : Hid (∀ V, Old wr.drew V → (∀ j, j < 16 → V.cell? ⟨gb, k * 16 + j, none⟩ = some (.int .i64 (rowAt M2 k j))) ∧ V.there gb (k * 16) 16) := fun V hV => by
            have h := (HS.out.drew.keep hV).row k hlt
            exact ⟨fun j hj => by rw [← mapTo_row (forth) M2 k j]; exact h.1 j hj, h.2⟩
          have NX : Hid (∀ V, Old wr.drew V → SpR w w.heap.size (some ⟨gb, 0, none⟩) N pg ng G (mapTo (k + 1) (forth) M2) (V.setCells gb (k * 16) (rowL 16 (forth k (rowAt M2 k))))) := fun V hV => by
            have h := (HS.out.drew.keep hV).store HG.out k hlt (forth k (rowAt M2 k))
            rwa [mapTo_step] at h
          have HGs : Hid (∀ V, Old wr.drew V → SlF 4 V pg ng G) := fun V hV => (HS.out.drew.keep hV).gs
          have HC' := Lib.hid (HCall.out k hlt)
          have HBo : Hid (∀ V, Old wr.drew V → V.heap[w.heap.size]? = some (.cells R 49 (0, 0))) := fun V hV => HBx.out _ _ _ (HS.out.drew.keep hV)
          have HBs : Hid (∀ V, Old wr.drew V → (V.setCells gb (k * 16) (rowL 16 (forth k (rowAt M2 k)))).heap[w.heap.size]? = some (.cells R 49 (0, 0))) := fun V hV => HBx.out _ _ _ (NX.out V hV)
          have hPart := fun V h => net_part V w.heap.size R h
          clear HS HGs
          go_wp2_with fail
          refine wp_region_held_drew (S := (fun w' => w'.heap[w.heap.size]? = some (.cells R 49 (0, 0)))) (by kernel_rfl) ?_ (fun hHeld => ?_)
          · (try dsimp only); exact HBo.out _ (Old.refl _)
          refine wpAnyH_take (i := 0) (oi := ⟨some _, _, _, _, _, _⟩) (v := ?_) rfl (by kernel_rfl) (by kernel_rfl) (by kernel_rfl) (fun _ _ _ h => h) (Or.inl ⟨by kernel_rfl, ?_⟩) (by assumption) ?_; rotate_left; (intro w hSw; (try dsimp only at hSw); go_simp; try with_reducible rfl); try simp only [Act.put, List.setIfInBounds_toArray, List.set_cons_zero, List.set_cons_succ]
          refine wpAnyH_take (i := 1) (oi := ⟨some _, _, _, _, _, _⟩) (v := ?_) rfl (by kernel_rfl) (by kernel_rfl) (by kernel_rfl) (fun _ _ _ h => h) (Or.inl ⟨by kernel_rfl, ?_⟩) (by assumption) ?_; rotate_left; (intro w hSw; (try dsimp only at hSw); go_simp; try with_reducible rfl); try simp only [Act.put, List.setIfInBounds_toArray, List.set_cons_zero, List.set_cons_succ]
          refine wpAnyH_take (i := 2) (oi := ⟨some _, _, _, _, _, _⟩) (v := ?_) rfl (by kernel_rfl) (by kernel_rfl) (by kernel_rfl) (fun _ _ _ h => h) (Or.inl ⟨by kernel_rfl, ?_⟩) (by assumption) ?_; rotate_left; (intro w hSw; (try dsimp only at hSw); go_simp; try with_reducible rfl); try simp only [Act.put, List.setIfInBounds_toArray, List.set_cons_zero, List.set_cons_succ]
          refine wpAnyH_take (i := 3) (oi := ⟨some _, _, _, _, _, _⟩) (v := ?_) rfl (by kernel_rfl) (by kernel_rfl) (by kernel_rfl) (fun _ _ _ h => h) (Or.inl ⟨by kernel_rfl, ?_⟩) (by assumption) ?_; rotate_left; (intro w hSw; (try dsimp only at hSw); go_simp; try with_reducible rfl); try simp only [Act.put, List.setIfInBounds_toArray, List.set_cons_zero, List.set_cons_succ]
          refine wpAnyH_take (i := 4) (oi := ⟨some _, _, _, _, _, _⟩) (v := ?_) rfl (by kernel_rfl) (by kernel_rfl) (by kernel_rfl) (fun _ _ _ h => h) (Or.inl ⟨by kernel_rfl, ?_⟩) (by assumption) ?_; rotate_left; (intro w hSw; (try dsimp only at hSw); go_simp; try with_reducible rfl); try simp only [Act.put, List.setIfInBounds_toArray, List.set_cons_zero, List.set_cons_succ]
          refine wpAnyH_take (i := 5) (oi := ⟨some _, _, _, _, _, _⟩) (v := ?_) rfl (by kernel_rfl) (by kernel_rfl) (by kernel_rfl) (fun _ _ _ h => h) (Or.inl ⟨by kernel_rfl, ?_⟩) (by assumption) ?_; rotate_left; (intro w hSw; (try dsimp only at hSw); go_simp; try with_reducible rfl); try simp only [Act.put, List.setIfInBounds_toArray, List.set_cons_zero, List.set_cons_succ]
          refine wpAnyH_take (i := 6) (oi := ⟨some _, _, _, _, _, _⟩) (v := ?_) rfl (by kernel_rfl) (by kernel_rfl) (by kernel_rfl) (fun _ _ _ h => h) (Or.inl ⟨by kernel_rfl, ?_⟩) (by assumption) ?_; rotate_left; (intro w hSw; (try dsimp only at hSw); go_simp; try with_reducible rfl); try simp only [Act.put, List.setIfInBounds_toArray, List.set_cons_zero, List.set_cons_succ]
          refine wpAnyH_ready (rs := [7]) (by kernel_rfl) (by simp) ?_
          refine AllReadyH.cons (o := ⟨_, _, _, _, _, _⟩) rfl (fun K hK => ?_) AllReadyH.nil
          rw [if_pos (by kernel_rfl)]
          refine wp_load_blk 16 (rowAt M2 k) 28 _ rfl (gb) (k * 16) rfl _ ((cells.out _ (Old.refl _)).1) Try.underlying28 rfl Hs16.out ?_
          try simp only [Act.put, List.setIfInBounds_toArray, List.set_cons_zero, List.set_cons_succ]
          refine hK.out _ _ ?_ (fun hHeld => ?_)
          · (try dsimp only); exact hHeld
          clear hK K
          try simp only [Act.put, List.setIfInBounds_toArray, List.set_cons_zero, List.set_cons_succ]
          refine wpAnyH_ready (rs := [8]) (by kernel_rfl) (by simp) ?_
          refine AllReadyH.cons (o := ⟨_, _, _, _, _, _⟩) rfl (fun K hK => ?_) AllReadyH.nil
          go_simp
          refine (HC'.out _).mono ?_
          rintro e V2 ⟨rfl, o2⟩
          go_wp2_with fail
          refine hK.out _ _ ?_ (fun hHeld => ?_)
          · (try dsimp only); exact HBo.out _ o2
          clear hK K
          try simp only [Act.put, List.setIfInBounds_toArray, List.set_cons_zero, List.set_cons_succ]
          refine wpAnyH_take (i := 9) (oi := ⟨some _, _, _, _, _, _⟩) (v := ?_) rfl (by kernel_rfl) (by kernel_rfl) (by kernel_rfl) (fun _ _ _ h => h) (Or.inl ⟨by kernel_rfl, ?_⟩) (by assumption) ?_; rotate_left; (intro w hSw; (try dsimp only at hSw); go_simp; try with_reducible rfl); try simp only [Act.put, List.setIfInBounds_toArray, List.set_cons_zero, List.set_cons_succ]
          refine wpAnyH_ready (rs := [10]) (by kernel_rfl) (by simp) ?_
          refine AllReadyH.cons (o := ⟨_, _, _, _, _, _⟩) rfl (fun K hK => ?_) AllReadyH.nil
          rw [if_pos (by kernel_rfl)]
          refine wp_store_blk 16 (forth k (rowAt M2 k)) 28 _ _ rfl (gb) (k * 16) rfl rfl ((cells.out _ o2).2) Hs16.out ?_
          try simp only [Act.put, List.setIfInBounds_toArray, List.set_cons_zero, List.set_cons_succ]
          refine hK.out _ _ ?_ (fun hHeld => ?_)
          · (try dsimp only); exact HBs.out _ o2
          clear hK K
          try simp only [Act.put, List.setIfInBounds_toArray, List.set_cons_zero, List.set_cons_succ]
          refine wpAnyH_done (by kernel_rfl) ?_ _
          have HN := Lib.hid (NX.out _ o2)
          clear cells NX o2 HC' HBo HBs hPart
          go_wp2_with fail
          go_roundw
          case rel => exact ⟨k + 1, by omega, by go_num, HN⟩
          case measure => (simp [intOf]; try omega)
        · obtain rfl : k = N := by omega
          have HE : Hid (OwnR 16 (fun q => q < w.heap.size) wr pt k (spectraF k G ng F) ∧ Old w wr) := by
            rw [HSpec.out]
            exact ⟨HS.out.at_.mono fun q hq => .inl hq, HS.out.old⟩
          clear HS HCall HSpec H3
          go_wp2_with fail
          go_ret
          exact ⟨_, _, rfl, HE.out.1, HE.out.2, HPt.out⟩

set_option maxRecDepth 100000 in
set_option maxHeartbeats 4000000 in
theorem Whole_any (p : Option Addr) (N cap : Nat) (F : Nat → Int) (pg : Option Addr) (ng cg : Nat) (G : Nat → Int) (m : Int) (w : World) (hs : SlF 16 w p N F) (hN2 : N ≤ 17179869184) (hp : N = 0 → p = none → cap = 0) (hF : Fits64 F) (hg : SlF 4 w pg ng G) (h1 : -9223372036854775808 ≤ m) (h2 : m ≤ 9223372036854775807) :
    Calls Try.prog 22 #[.agg T8, .slice p N cap, .slice pg ng cg, .int .i64 m] w fun e w' => ∃ g, e = .returned (.slice (some ⟨g, 0, none⟩) (samN N m) (samN N m)) ∧ CellsAt w' g (samN N m) (wholeF N G ng F) ∧ w.heap.size ≤ g ∧ Old w w' := by
  have HB := Lib.hid (CloneB_any p N cap F (w.alloc (.cells T8 49)) (hs.old (Old.alloc _ _)) hN2 hp)
  have HGo := Lib.hid (fun (i : Nat) (h : i < N) (V : World) (hV : SlF 4 V pg ng G) => gainsOf_any pg ng cg i G V hV (by omega))
  have Hs16 := Lib.hid Try.block_size
  have HZ : Hid ((Try.prog.info? 47).map (·.size) = some 16) := Lib.hid (by kernel_rfl)
  have hs8 := T8_size
  have HG := Lib.hid hg
  have HMt := Lib.hid (fun (M : Nat → Int) (pt : Option Addr) (V : World) (h : SpR w w.heap.size pt N pg ng G M V) (c : Nat) => h.meetBack hg c hN2)
  have HIn := Lib.hid (wholeM_in (n := N) hF)
  have H0 : Hid (∀ W pt, OwnR 16 (fun q => q < (w.alloc (.cells T8 49)).heap.size) W pt N F → Old (w.alloc (.cells T8 49)) W → SpR w w.heap.size pt N pg ng G F W) := fun W pt hc ho =>
    ⟨hc.mono fun q hq => by simp; omega, (ho.block _ (by simp)).trans (heap_alloc_new _ _), (hg.old (Old.alloc _ _)).old ho, (Old.alloc w _).trans ho⟩
  have HSm := Lib.hid (fun (pt : Option Addr) (c : Nat) (M : Nat → Int) (V : World) (h : SlF 16 V pt N M) => Samples_any pt N c m M V h hN2 h1 h2)
  clear hs hg hF hp
  have HBx : Hid (∀ (pt : Option Addr) (M : Nat → Int) (W : World), SpR w w.heap.size pt N pg ng G M W → W.heap[w.heap.size]? = some (.cells T8 49 (0, 0))) := fun _ _ _ h => h.box
  generalize hT : T8 = R at *
  go_enter Try.func22, Try.ntmps22
  go_wp2_with fail
  refine HB.out.mono ?_
  rintro e w1 ⟨pt, cc, rfl, hc1, ho1⟩
  have H1 := Lib.hid (H0.out w1 pt hc1 ho1)
  clear hc1 ho1 H0 HB
  go_wp2_with fail
  have HCall := Lib.hid (fun (k : Nat) (h : k < N) (V : World) => Inverse_any (rowAt F k) V)
  go_loopw [16] (fun i wr => ∃ k : Nat, k ≤ N ∧ i = .int .i64 k ∧ Hid (SpR w w.heap.size pt N pg ng G (mapTo k (back) F) wr)) (fun i _ => N - (intOf i).toNat)
  case atStart => exact ⟨0, by omega, rfl, by rw [mapTo_zero]; exact H1⟩
  case round =>
    obtain ⟨k, hk, rfl, HS⟩ := hrel
    by_cases hlt : k < N
    · clear H1
      obtain ⟨gb, rfl, _, _⟩ := HS.out.at_ (by omega)
      have i1 : (0 : Int) ≤ k := by omega
      have i2 : (k : Int) < N := by omega
      have cells : Hid (∀ V, Old wr.drew V → (∀ j, j < 16 → V.cell? ⟨gb, k * 16 + j, none⟩ = some (.int .i64 (rowAt F k j))) ∧ V.there gb (k * 16) 16) := fun V hV => by
        have h := (HS.out.drew.keep hV).row k hlt
        exact ⟨fun j hj => by rw [← mapTo_row (back) F k j]; exact h.1 j hj, h.2⟩
      have NX : Hid (∀ V, Old wr.drew V → SpR w w.heap.size (some ⟨gb, 0, none⟩) N pg ng G (mapTo (k + 1) (back) F) (V.setCells gb (k * 16) (rowL 16 (back k (rowAt F k))))) := fun V hV => by
        have h := (HS.out.drew.keep hV).store HG.out k hlt (back k (rowAt F k))
        rwa [mapTo_step] at h
      have HGs : Hid (∀ V, Old wr.drew V → SlF 4 V pg ng G) := fun V hV => (HS.out.drew.keep hV).gs
      have HC' := Lib.hid (HCall.out k hlt)
      have HBo : Hid (∀ V, Old wr.drew V → V.heap[w.heap.size]? = some (.cells R 49 (0, 0))) := fun V hV => HBx.out _ _ _ (HS.out.drew.keep hV)
      have HBs : Hid (∀ V, Old wr.drew V → (V.setCells gb (k * 16) (rowL 16 (back k (rowAt F k)))).heap[w.heap.size]? = some (.cells R 49 (0, 0))) := fun V hV => HBx.out _ _ _ (NX.out V hV)
      have hPart := fun V h => net_part V w.heap.size R h
      clear HS HGs
      go_wp2_with fail
      refine wp_region_held_drew (S := (fun w' => w'.heap[w.heap.size]? = some (.cells R 49 (0, 0)))) (by kernel_rfl) ?_ (fun hHeld => ?_)
      · (try dsimp only); exact HBo.out _ (Old.refl _)
      refine wpAnyH_take (i := 0) (oi := ⟨some _, _, _, _, _, _⟩) (v := ?_) rfl (by kernel_rfl) (by kernel_rfl) (by kernel_rfl) (fun _ _ _ h => h) (Or.inl ⟨by kernel_rfl, ?_⟩) (by assumption) ?_; rotate_left; (intro w hSw; (try dsimp only at hSw); go_simp; try with_reducible rfl); try simp only [Act.put, List.setIfInBounds_toArray, List.set_cons_zero, List.set_cons_succ]
      refine wpAnyH_take (i := 1) (oi := ⟨some _, _, _, _, _, _⟩) (v := ?_) rfl (by kernel_rfl) (by kernel_rfl) (by kernel_rfl) (fun _ _ _ h => h) (Or.inl ⟨by kernel_rfl, ?_⟩) (by assumption) ?_; rotate_left; (intro w hSw; (try dsimp only at hSw); go_simp; try with_reducible rfl); try simp only [Act.put, List.setIfInBounds_toArray, List.set_cons_zero, List.set_cons_succ]
      refine wpAnyH_take (i := 2) (oi := ⟨some _, _, _, _, _, _⟩) (v := ?_) rfl (by kernel_rfl) (by kernel_rfl) (by kernel_rfl) (fun _ _ _ h => h) (Or.inl ⟨by kernel_rfl, ?_⟩) (by assumption) ?_; rotate_left; (intro w hSw; (try dsimp only at hSw); go_simp; try with_reducible rfl); try simp only [Act.put, List.setIfInBounds_toArray, List.set_cons_zero, List.set_cons_succ]
      refine wpAnyH_take (i := 3) (oi := ⟨some _, _, _, _, _, _⟩) (v := ?_) rfl (by kernel_rfl) (by kernel_rfl) (by kernel_rfl) (fun _ _ _ h => h) (Or.inl ⟨by kernel_rfl, ?_⟩) (by assumption) ?_; rotate_left; (intro w hSw; (try dsimp only at hSw); go_simp; try with_reducible rfl); try simp only [Act.put, List.setIfInBounds_toArray, List.set_cons_zero, List.set_cons_succ]
      refine wpAnyH_take (i := 4) (oi := ⟨some _, _, _, _, _, _⟩) (v := ?_) rfl (by kernel_rfl) (by kernel_rfl) (by kernel_rfl) (fun _ _ _ h => h) (Or.inl ⟨by kernel_rfl, ?_⟩) (by assumption) ?_; rotate_left; (intro w hSw; (try dsimp only at hSw); go_simp; try with_reducible rfl); try simp only [Act.put, List.setIfInBounds_toArray, List.set_cons_zero, List.set_cons_succ]
      refine wpAnyH_take (i := 5) (oi := ⟨some _, _, _, _, _, _⟩) (v := ?_) rfl (by kernel_rfl) (by kernel_rfl) (by kernel_rfl) (fun _ _ _ h => h) (Or.inl ⟨by kernel_rfl, ?_⟩) (by assumption) ?_; rotate_left; (intro w hSw; (try dsimp only at hSw); go_simp; try with_reducible rfl); try simp only [Act.put, List.setIfInBounds_toArray, List.set_cons_zero, List.set_cons_succ]
      refine wpAnyH_take (i := 6) (oi := ⟨some _, _, _, _, _, _⟩) (v := ?_) rfl (by kernel_rfl) (by kernel_rfl) (by kernel_rfl) (fun _ _ _ h => h) (Or.inl ⟨by kernel_rfl, ?_⟩) (by assumption) ?_; rotate_left; (intro w hSw; (try dsimp only at hSw); go_simp; try with_reducible rfl); try simp only [Act.put, List.setIfInBounds_toArray, List.set_cons_zero, List.set_cons_succ]
      refine wpAnyH_ready (rs := [7]) (by kernel_rfl) (by simp) ?_
      refine AllReadyH.cons (o := ⟨_, _, _, _, _, _⟩) rfl (fun K hK => ?_) AllReadyH.nil
      rw [if_pos (by kernel_rfl)]
      refine wp_load_blk 16 (rowAt F k) 28 _ rfl (gb) (k * 16) rfl _ ((cells.out _ (Old.refl _)).1) Try.underlying28 rfl Hs16.out ?_
      try simp only [Act.put, List.setIfInBounds_toArray, List.set_cons_zero, List.set_cons_succ]
      refine hK.out _ _ ?_ (fun hHeld => ?_)
      · (try dsimp only); exact hHeld
      clear hK K
      try simp only [Act.put, List.setIfInBounds_toArray, List.set_cons_zero, List.set_cons_succ]
      refine wpAnyH_ready (rs := [8]) (by kernel_rfl) (by simp) ?_
      refine AllReadyH.cons (o := ⟨_, _, _, _, _, _⟩) rfl (fun K hK => ?_) AllReadyH.nil
      go_simp
      refine (HC'.out _).mono ?_
      rintro e V2 ⟨rfl, o2⟩
      go_wp2_with fail
      refine hK.out _ _ ?_ (fun hHeld => ?_)
      · (try dsimp only); exact HBo.out _ o2
      clear hK K
      try simp only [Act.put, List.setIfInBounds_toArray, List.set_cons_zero, List.set_cons_succ]
      refine wpAnyH_take (i := 9) (oi := ⟨some _, _, _, _, _, _⟩) (v := ?_) rfl (by kernel_rfl) (by kernel_rfl) (by kernel_rfl) (fun _ _ _ h => h) (Or.inl ⟨by kernel_rfl, ?_⟩) (by assumption) ?_; rotate_left; (intro w hSw; (try dsimp only at hSw); go_simp; try with_reducible rfl); try simp only [Act.put, List.setIfInBounds_toArray, List.set_cons_zero, List.set_cons_succ]
      refine wpAnyH_ready (rs := [10]) (by kernel_rfl) (by simp) ?_
      refine AllReadyH.cons (o := ⟨_, _, _, _, _, _⟩) rfl (fun K hK => ?_) AllReadyH.nil
      rw [if_pos (by kernel_rfl)]
      refine wp_store_blk 16 (back k (rowAt F k)) 28 _ _ rfl (gb) (k * 16) rfl rfl ((cells.out _ o2).2) Hs16.out ?_
      try simp only [Act.put, List.setIfInBounds_toArray, List.set_cons_zero, List.set_cons_succ]
      refine hK.out _ _ ?_ (fun hHeld => ?_)
      · (try dsimp only); exact HBs.out _ o2
      clear hK K
      try simp only [Act.put, List.setIfInBounds_toArray, List.set_cons_zero, List.set_cons_succ]
      refine wpAnyH_done (by kernel_rfl) ?_ _
      have HN := Lib.hid (NX.out _ o2)
      clear cells NX o2 HC' HBo HBs hPart
      go_wp2_with fail
      go_roundw
      case rel => exact ⟨k + 1, by omega, by go_num, HN⟩
      case measure => (simp [intOf]; try omega)
    · obtain rfl : k = N := by omega
      have H2 := HS
      clear HS HCall
      have hb := HBx.out _ _ _ H2.out
      have HM := Lib.hid (HMt.out _ _ _ H2.out cc)
      have HC2 := Lib.hid (fun (k' : Nat) (h : k' < k) (V : World) => Down_any (rowAt (wholeM k F) k') (gainsAt G ng k') (fun j _ => HIn.out _) V)
      clear HMt H1
      go_wp2_with (with_reducible refine wpList_load_row rfl 47 _ rfl w.heap.size rfl 49 R (0, 0) _ hb Try.underlying47 rfl (by rw [hs8]; exact HZ.out) ?_)
      refine HM.out.mono ?_
      rintro e w2 ⟨rfl, h3⟩
      have H3 := Lib.hid h3
      rw [show meetTo backWA backWB k (mapTo k back F) = wholeM k F from rfl] at H3
      clear h3 HM H2 hb
      obtain ⟨M2, hM2⟩ : ∃ M, M = wholeM k F := ⟨_, rfl⟩
      rw [← hM2] at H3 HC2
      have HSpec : Hid (wholeF k G ng F = mapTo k (quieter G ng) M2) := by unfold Hid wholeF; rw [hM2]
      have HCall := HC2
      clear hM2 HC2 HIn
      obtain ⟨N, hNk⟩ : ∃ N, N = k := ⟨_, rfl⟩
      subst hNk
      go_wp2_with fail
      go_loopw [37] (fun i wr => ∃ k : Nat, k ≤ N ∧ i = .int .i64 k ∧ Hid (SpR w w.heap.size pt N pg ng G (mapTo k (quieter G ng) M2) wr)) (fun i _ => N - (intOf i).toNat)
      case atStart => exact ⟨0, by omega, rfl, by rw [mapTo_zero]; exact H3⟩
      case round =>
        obtain ⟨k, hk, rfl, HS⟩ := hrel
        by_cases hlt : k < N
        · clear H3
          obtain ⟨gb, rfl, _, _⟩ := HS.out.at_ (by omega)
          have i1 : (0 : Int) ≤ k := by omega
          have i2 : (k : Int) < N := by omega
          have cells : Hid (∀ V, Old wr.drew V → (∀ j, j < 16 → V.cell? ⟨gb, k * 16 + j, none⟩ = some (.int .i64 (rowAt M2 k j))) ∧ V.there gb (k * 16) 16) := fun V hV => by
            have h := (HS.out.drew.keep hV).row k hlt
            exact ⟨fun j hj => by rw [← mapTo_row (quieter G ng) M2 k j]; exact h.1 j hj, h.2⟩
          have NX : Hid (∀ V, Old wr.drew V → SpR w w.heap.size (some ⟨gb, 0, none⟩) N pg ng G (mapTo (k + 1) (quieter G ng) M2) (V.setCells gb (k * 16) (rowL 16 (quieter G ng k (rowAt M2 k))))) := fun V hV => by
            have h := (HS.out.drew.keep hV).store HG.out k hlt (quieter G ng k (rowAt M2 k))
            rwa [mapTo_step] at h
          have HGs : Hid (∀ V, Old wr.drew V → SlF 4 V pg ng G) := fun V hV => (HS.out.drew.keep hV).gs
          have hGo := HGo.out k hlt
          have hC := HCall.out k hlt
          have HGo' := Lib.hid hGo
          have HC' := Lib.hid hC
          clear hGo hC HS
          go_wp2_with fail
          refine wp_region_held_drew (S := (fun _ => True)) (by kernel_rfl) ?_ (fun hHeld => ?_)
          · exact trivial
          refine wpAnyH_take (i := 0) (oi := ⟨some _, _, _, _, _, _⟩) (v := ?_) rfl (by kernel_rfl) (by kernel_rfl) (by kernel_rfl) (fun _ _ _ h => h) (Or.inl ⟨by kernel_rfl, ?_⟩) (by assumption) ?_; rotate_left; (intro w hSw; (try dsimp only at hSw); go_simp; try with_reducible rfl); try simp only [Act.put, List.setIfInBounds_toArray, List.set_cons_zero, List.set_cons_succ]
          refine wpAnyH_take (i := 1) (oi := ⟨some _, _, _, _, _, _⟩) (v := ?_) rfl (by kernel_rfl) (by kernel_rfl) (by kernel_rfl) (fun _ _ _ h => h) (Or.inl ⟨by kernel_rfl, ?_⟩) (by assumption) ?_; rotate_left; (intro w hSw; (try dsimp only at hSw); go_simp; try with_reducible rfl); try simp only [Act.put, List.setIfInBounds_toArray, List.set_cons_zero, List.set_cons_succ]
          refine wpAnyH_take (i := 2) (oi := ⟨some _, _, _, _, _, _⟩) (v := ?_) rfl (by kernel_rfl) (by kernel_rfl) (by kernel_rfl) (fun _ _ _ h => h) (Or.inl ⟨by kernel_rfl, ?_⟩) (by assumption) ?_; rotate_left; (intro w hSw; (try dsimp only at hSw); go_simp; try with_reducible rfl); try simp only [Act.put, List.setIfInBounds_toArray, List.set_cons_zero, List.set_cons_succ]
          refine wpAnyH_take (i := 3) (oi := ⟨some _, _, _, _, _, _⟩) (v := ?_) rfl (by kernel_rfl) (by kernel_rfl) (by kernel_rfl) (fun _ _ _ h => h) (Or.inl ⟨by kernel_rfl, ?_⟩) (by assumption) ?_; rotate_left; (intro w hSw; (try dsimp only at hSw); go_simp; try with_reducible rfl); try simp only [Act.put, List.setIfInBounds_toArray, List.set_cons_zero, List.set_cons_succ]
          refine wpAnyH_take (i := 4) (oi := ⟨some _, _, _, _, _, _⟩) (v := ?_) rfl (by kernel_rfl) (by kernel_rfl) (by kernel_rfl) (fun _ _ _ h => h) (Or.inl ⟨by kernel_rfl, ?_⟩) (by assumption) ?_; rotate_left; (intro w hSw; (try dsimp only at hSw); go_simp; try with_reducible rfl); try simp only [Act.put, List.setIfInBounds_toArray, List.set_cons_zero, List.set_cons_succ]
          refine wpAnyH_take (i := 6) (oi := ⟨some _, _, _, _, _, _⟩) (v := ?_) rfl (by kernel_rfl) (by kernel_rfl) (by kernel_rfl) (fun _ _ _ h => h) (Or.inl ⟨by kernel_rfl, ?_⟩) (by assumption) ?_; rotate_left; (intro w hSw; (try dsimp only at hSw); go_simp; try with_reducible rfl); try simp only [Act.put, List.setIfInBounds_toArray, List.set_cons_zero, List.set_cons_succ]
          refine wpAnyH_take (i := 7) (oi := ⟨some _, _, _, _, _, _⟩) (v := ?_) rfl (by kernel_rfl) (by kernel_rfl) (by kernel_rfl) (fun _ _ _ h => h) (Or.inl ⟨by kernel_rfl, ?_⟩) (by assumption) ?_; rotate_left; (intro w hSw; (try dsimp only at hSw); go_simp; try with_reducible rfl); try simp only [Act.put, List.setIfInBounds_toArray, List.set_cons_zero, List.set_cons_succ]
          refine wpAnyH_ready (rs := [5, 8]) (by kernel_rfl) (by simp) ?_
          refine AllReadyH.cons (o := ⟨_, _, _, _, _, _⟩) rfl (fun K hK => ?_) (AllReadyH.cons (o := ⟨_, _, _, _, _, _⟩) rfl (fun K hK => ?_) AllReadyH.nil)
          · rw [if_pos (by kernel_rfl)]
            refine wp_load_blk 16 (rowAt M2 k) 28 _ rfl (gb) (k * 16) rfl _ ((cells.out _ (Old.refl _)).1) Try.underlying28 rfl Hs16.out ?_
            try simp only [Act.put, List.setIfInBounds_toArray, List.set_cons_zero, List.set_cons_succ]
            refine hK.out _ _ ?_ (fun hHeld => ?_)
            · exact trivial
            clear hK K
            try simp only [Act.put, List.setIfInBounds_toArray, List.set_cons_zero, List.set_cons_succ]
            refine wpAnyH_ready (rs := [8]) (by kernel_rfl) (by simp) ?_
            refine AllReadyH.cons (o := ⟨_, _, _, _, _, _⟩) rfl (fun K hK => ?_) AllReadyH.nil
            go_simp
            refine (HGo'.out _ (HGs.out _ (Old.refl _))).mono ?_
            rintro e V1 ⟨rfl, o1⟩
            go_wp2_with fail
            refine hK.out _ _ ?_ (fun hHeld => ?_)
            · exact trivial
            clear hK K
            try simp only [Act.put, List.setIfInBounds_toArray, List.set_cons_zero, List.set_cons_succ]
            refine wpAnyH_ready (rs := [9]) (by kernel_rfl) (by simp) ?_
            refine AllReadyH.cons (o := ⟨_, _, _, _, _, _⟩) rfl (fun K hK => ?_) AllReadyH.nil
            go_simp
            refine (HC'.out _).mono ?_
            rintro e V2 ⟨rfl, o2⟩
            go_wp2_with fail
            refine hK.out _ _ ?_ (fun hHeld => ?_)
            · exact trivial
            clear hK K
            try simp only [Act.put, List.setIfInBounds_toArray, List.set_cons_zero, List.set_cons_succ]
            refine wpAnyH_take (i := 10) (oi := ⟨some _, _, _, _, _, _⟩) (v := ?_) rfl (by kernel_rfl) (by kernel_rfl) (by kernel_rfl) (fun _ _ _ h => h) (Or.inl ⟨by kernel_rfl, ?_⟩) (by assumption) ?_; rotate_left; (intro w hSw; (try dsimp only at hSw); go_simp; try with_reducible rfl); try simp only [Act.put, List.setIfInBounds_toArray, List.set_cons_zero, List.set_cons_succ]
            refine wpAnyH_ready (rs := [11]) (by kernel_rfl) (by simp) ?_
            refine AllReadyH.cons (o := ⟨_, _, _, _, _, _⟩) rfl (fun K hK => ?_) AllReadyH.nil
            rw [if_pos (by kernel_rfl)]
            refine wp_store_blk 16 (quieter G ng k (rowAt M2 k)) 28 _ _ rfl (gb) (k * 16) rfl rfl ((cells.out _ (o1.trans o2)).2) Hs16.out ?_
            try simp only [Act.put, List.setIfInBounds_toArray, List.set_cons_zero, List.set_cons_succ]
            refine hK.out _ _ ?_ (fun hHeld => ?_)
            · exact trivial
            clear hK K
            try simp only [Act.put, List.setIfInBounds_toArray, List.set_cons_zero, List.set_cons_succ]
            refine wpAnyH_done (by kernel_rfl) ?_ _
            have HN := Lib.hid (NX.out _ (o1.trans o2))
            clear cells NX HGs o1 o2 HGo' HC'
            go_wp2_with fail
            go_roundw
            case rel => exact ⟨k + 1, by omega, by go_num, HN⟩
            case measure => (simp [intOf]; try omega)
          · go_simp
            refine (HGo'.out _ (HGs.out _ (Old.refl _))).mono ?_
            rintro e V1 ⟨rfl, o1⟩
            go_wp2_with fail
            refine hK.out _ _ ?_ (fun hHeld => ?_)
            · exact trivial
            clear hK K
            try simp only [Act.put, List.setIfInBounds_toArray, List.set_cons_zero, List.set_cons_succ]
            refine wpAnyH_ready (rs := [5]) (by kernel_rfl) (by simp) ?_
            refine AllReadyH.cons (o := ⟨_, _, _, _, _, _⟩) rfl (fun K hK => ?_) AllReadyH.nil
            rw [if_pos (by kernel_rfl)]
            refine wp_load_blk 16 (rowAt M2 k) 28 _ rfl (gb) (k * 16) rfl _ ((cells.out _ o1).1) Try.underlying28 rfl Hs16.out ?_
            try simp only [Act.put, List.setIfInBounds_toArray, List.set_cons_zero, List.set_cons_succ]
            refine hK.out _ _ ?_ (fun hHeld => ?_)
            · exact trivial
            clear hK K
            try simp only [Act.put, List.setIfInBounds_toArray, List.set_cons_zero, List.set_cons_succ]
            refine wpAnyH_ready (rs := [9]) (by kernel_rfl) (by simp) ?_
            refine AllReadyH.cons (o := ⟨_, _, _, _, _, _⟩) rfl (fun K hK => ?_) AllReadyH.nil
            go_simp
            refine (HC'.out _).mono ?_
            rintro e V2 ⟨rfl, o2⟩
            go_wp2_with fail
            refine hK.out _ _ ?_ (fun hHeld => ?_)
            · exact trivial
            clear hK K
            try simp only [Act.put, List.setIfInBounds_toArray, List.set_cons_zero, List.set_cons_succ]
            refine wpAnyH_take (i := 10) (oi := ⟨some _, _, _, _, _, _⟩) (v := ?_) rfl (by kernel_rfl) (by kernel_rfl) (by kernel_rfl) (fun _ _ _ h => h) (Or.inl ⟨by kernel_rfl, ?_⟩) (by assumption) ?_; rotate_left; (intro w hSw; (try dsimp only at hSw); go_simp; try with_reducible rfl); try simp only [Act.put, List.setIfInBounds_toArray, List.set_cons_zero, List.set_cons_succ]
            refine wpAnyH_ready (rs := [11]) (by kernel_rfl) (by simp) ?_
            refine AllReadyH.cons (o := ⟨_, _, _, _, _, _⟩) rfl (fun K hK => ?_) AllReadyH.nil
            rw [if_pos (by kernel_rfl)]
            refine wp_store_blk 16 (quieter G ng k (rowAt M2 k)) 28 _ _ rfl (gb) (k * 16) rfl rfl ((cells.out _ (o1.trans o2)).2) Hs16.out ?_
            try simp only [Act.put, List.setIfInBounds_toArray, List.set_cons_zero, List.set_cons_succ]
            refine hK.out _ _ ?_ (fun hHeld => ?_)
            · exact trivial
            clear hK K
            try simp only [Act.put, List.setIfInBounds_toArray, List.set_cons_zero, List.set_cons_succ]
            refine wpAnyH_done (by kernel_rfl) ?_ _
            have HN := Lib.hid (NX.out _ (o1.trans o2))
            clear cells NX HGs o1 o2 HGo' HC'
            go_wp2_with fail
            go_roundw
            case rel => exact ⟨k + 1, by omega, by go_num, HN⟩
            case measure => (simp [intOf]; try omega)
        · obtain rfl : k = N := by omega
          have HS2 := Lib.hid (HSm.out pt cc _ wr HS.out.at_.sl)
          have HO := Lib.hid HS.out.old
          rw [← HSpec.out] at HS2
          clear HS HCall HSpec H3 HSm
          go_wp2_with fail
          refine HS2.out.mono ?_
          rintro e w4 ⟨rfl, hc4, ho4⟩
          have HC4 := Lib.hid hc4
          have HO4 := Lib.hid (HO.out.trans ho4)
          have HSz := Lib.hid HO.out.size
          clear hc4 ho4 HO HS2
          go_wp2_with fail
          go_ret
          exact ⟨_, rfl, HC4.out, HSz.out, HO4.out⟩

end Go.Proofs.Ytpdjdejlhjcicaa

