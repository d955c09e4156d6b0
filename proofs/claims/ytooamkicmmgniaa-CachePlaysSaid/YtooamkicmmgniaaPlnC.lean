/- The law's plain cache, third part: get, evict. -/
import Derived.Test.YtooamkicmmgniaaPlnB
namespace Go.Proofs.Ytooamkicmmgniaa
set_option linter.unusedVariables false
set_option maxRecDepth 100000
open Go.RowKit Go.ChangeShapes Go.WideShapes

theorem lawGet_out (z0 z av q gp gm gd db dm : Nat) (p : Option Addr) (cd N : Nat) (i : Int) (c : Cch) (d : Dsk) (w : World) (h : PnAt w z0 z av q gp gm gd db dm p cd N c d) (hi : i < 0 ∨ (N : Int) ≤ i) : Calls Try.prog 22 #[.pointer (some ⟨q, 0, none⟩), .int .i64 i] w fun e w' =>
    e = .returned (.tuple #[.slice none 0 0, .int .i64 5]) ∧ w = w' := by
  obtain ⟨c0, _⟩ := h.cells
  have HP := Lib.hid (Pages_at db dm p cd d w h.dk)
  rw [h.nN] at HP
  by_cases h0 : i < 0
  · clear h hi
    go_enter Try.func22, Try.ntmps22
    go_wp2_with fail
    go_ret2
    exact ⟨rfl, rfl⟩
  · have h1 : (N : Int) ≤ i := by omega
    clear h hi
    go_enter Try.func22, Try.ntmps22
    go_wp2_with fail
    refine HP.out.mono ?_
    rintro e w' ⟨rfl, rfl⟩
    clear HP
    go_wp2_with fail
    go_ret2
    exact ⟨rfl, rfl⟩
theorem lawGet_any (z0 z av q gp gm gd db dm : Nat) (p : Option Addr) (cd N k : Nat) (c : Cch) (d : Dsk) (w : World) (h : PnAt w z0 z av q gp gm gd db dm p cd N c d) (hk : k < N) (hav : av < w.heap.size) : Calls Try.prog 22 #[.pointer (some ⟨q, 0, none⟩), .int .i64 (k : Int)] w fun e w' =>
    TakeResA w' z av (takeR c d k).r e ∧ PnAt w' z0 z av q gp gm gd db dm p cd N (takeR c d k).c (takeR c d k).d ∧ Kept (butP w q gp gm gd db dm) w w' := by
  obtain ⟨c0, _⟩ := h.cells
  have HP := Lib.hid (Pages_at db dm p cd d w h.dk)
  rw [h.nN] at HP
  have HT := Lib.hid (lawTake_any z0 z av q gp gm gd db dm p cd N k c d w h hk hav)
  obtain ⟨T, hT⟩ : ∃ T, T = takeR c d k := ⟨_, rfl⟩
  rw [← hT] at HT ⊢
  have hkN : ¬ (N : Int) ≤ k := by omega
  clear h hT hav
  go_enter Try.func22, Try.ntmps22
  go_wp2_with fail
  refine HP.out.mono ?_
  rintro e w' ⟨rfl, rfl⟩
  clear HP
  go_wp2_with fail
  refine HT.out.mono ?_
  intro e w2 hh
  obtain ⟨r, c', d'⟩ := T
  dsimp only at hh ⊢
  obtain ⟨he, hat, hkk⟩ := hh
  cases r with
  | none =>
    have he' : e = .returned (.tuple #[.slice none 0 0, .int .i64 8]) := he
    subst he'
    have HE := Lib.hid (And.intro hat hkk)
    clear hat hkk HT he
    go_wp2_with fail
    go_ret2
    exact ⟨rfl, HE.out⟩
  | some G =>
    obtain ⟨g, rfl, h1, h2, h3⟩ := (show ∃ g, e = .returned (.tuple #[.slice (some ⟨g, 0, none⟩) 64 64, .int .i64 0]) ∧ (z ≤ g ∧ g ≠ av) ∧ g < w2.heap.size ∧ SlU w2 (some ⟨g, 0, none⟩) 64 G from he)
    have HE := Lib.hid (And.intro (And.intro h1 (And.intro h2 h3)) (And.intro hat hkk))
    clear hat hkk HT he h1 h2 h3
    go_wp2_with fail
    go_ret2
    exact ⟨⟨g, rfl, HE.out.1⟩, HE.out.2⟩
/-- A slot is emptied. -/
theorem PnAt.wipe {w : World} {z0 z av q gp gk gd db dm cd N : Nat} {p : Option Addr} {c : Cch} {d : Dsk} (h : PnAt w z0 z av q gp gk gd db dm p cd N c d) {i : Nat} (hi : i < c.n) : PnAt ((w.setCell ⟨gp, i, none⟩ (.int .i64 (-1))).setCell ⟨gk, i, none⟩ (.bool false)) z0 z av q gp gk gd db dm p cd N { c with S := updS c.S i none } d := by
  have hr := h.rng
  have hl := h.lo
  obtain ⟨W1, hW1⟩ : ∃ W1, W1 = w.setCell ⟨gp, i, none⟩ (.int .i64 (-1)) := ⟨_, rfl⟩
  have k1 : Kept (fun j => j ≠ gp) w W1 := by rw [hW1]; exact Kept.setCell w (a := ⟨gp, i, none⟩) (fun e => e rfl) _
  have P1 : CellsAt W1 gp c.n (fun j => if j = i then (-1) else pgV c.S j) := by rw [hW1]; exact h.pages.set i hi (-1)
  have M1 := h.marks.kept k1 (by omega)
  rw [← hW1]
  obtain ⟨W2, hW2⟩ : ∃ W2, W2 = W1.setCell ⟨gk, i, none⟩ (.bool false) := ⟨_, rfl⟩
  have k2 : Kept (fun j => j ≠ gk) W1 W2 := by rw [hW2]; exact Kept.setCell W1 (a := ⟨gk, i, none⟩) (fun e => e rfl) _
  have kk : Kept (fun j => j ≠ gp ∧ j ≠ gk) w W2 := (k1.mono fun j hj => hj.1).trans (k2.mono fun j hj => hj.2)
  have M2 : CellsV W2 gk c.n (fun j => .bool (mkS (updS c.S i none) j)) := by
    refine ⟨by have := M1.lt; rw [hW2]; simpa [World.setCell] using this, fun j hj => ?_, fun j hj => by rw [hW2, World.frozen?_setCell]; exact M1.frz j hj⟩
    rw [hW2]
    by_cases e : j = i
    · subst e
      rw [World.cell?_setCell_same _ _ _ (M1.cell j hj)]
      unfold mkS updS
      rw [if_pos rfl]
    · rw [World.cell?_setCell_other _ _ _ _ (fun e' => e (by injection e' with _ e2; exact e2.symm)), M1.cell j hj]
      unfold mkS updS
      rw [if_neg e]
  rw [← hW2]
  refine ⟨(kk.block q (by omega)).trans h.blk, h.num, (P1.kept k2 (by omega)).ext fun j hj => ?_, M2, (h.data.kept kk (by omega) fun g hg _ _ => by omega).sub fun j t ht => ?_, del_uniq h.uq i, fun j hj t ht => ?_, hr, h.dk.kept kk (by omega) (by omega) (fun a hn ha => by have := hl.2.2 a (by rw [← h.nN]; exact hn) ha; omega), h.nN, hl, Nat.le_trans h.hi kk.size⟩
  · show _ = pgV (updS c.S i none) j
    unfold pgV updS
    by_cases e : j = i
    · rw [if_pos e, if_pos e]
    · rw [if_neg e, if_neg e]
  · have ht' : updS c.S i none j = some t := ht
    unfold updS at ht'
    split at ht'
    · cases ht'
    · exact ⟨t, ht', rfl⟩
  · have ht' : updS c.S i none j = some t := ht
    unfold updS at ht'
    split at ht'
    · cases ht'
    · exact h.pgs j hj t ht'
theorem lawEvict_any (z0 z av q gp gm gd db dm : Nat) (p : Option Addr) (cd N : Nat) (i : Int) (c : Cch) (d : Dsk) (w : World) (h : PnAt w z0 z av q gp gm gd db dm p cd N c d) : Calls Try.prog 24 #[.pointer (some ⟨q, 0, none⟩), .int .i64 i] w fun e w' =>
    e = .returned (.bool (fndI c i).isSome) ∧ PnAt w' z0 z av q gp gm gd db dm p cd N (c.evict i) d ∧ Kept (fun x => x < w.heap.size ∧ x ≠ gp ∧ x ≠ gm) w w' := by
  have HFd := Lib.hid (lawFind_any z0 z av q gp gm gd db dm p cd N i c d w h)
  obtain ⟨_, c1, c2, _⟩ := h.cells
  have HH := Lib.hid h
  have hr := h.rng
  clear h
  by_cases h0 : i < 0
  · have hnone : fndI c i = none := by unfold fndI; rw [if_neg (by omega)]
    have hev : c.evict i = c := by unfold Cch.evict; rw [hnone]
    rw [hnone, hev]
    clear hnone hev
    go_enter Try.func24, Try.ntmps24
    go_wp2_with fail
    refine HFd.out.mono ?_
    rintro e w' ⟨r, rfl, _, rfl⟩
    clear HFd
    by_cases hr0 : r < 0
    · go_wp2_with fail
      go_ret
      exact ⟨rfl, HH.out, Kept.refl _ _⟩
    · go_wp2_with fail
      go_ret
      exact ⟨rfl, HH.out, Kept.refl _ _⟩
  · obtain ⟨k, rfl⟩ : ∃ k : Nat, i = k := ⟨i.toNat, by omega⟩
    have hfI : fndI c (k : Int) = fnd c.S k c.n := by unfold fndI; rw [if_pos (by omega), Int.toNat_natCast]
    have hk0 : ¬ (k : Int) < 0 := by omega
    have HfI := Lib.hid hfI
    clear hfI h0
    go_enter Try.func24, Try.ntmps24
    go_wp2_with fail
    refine HFd.out.mono ?_
    rintro e w' ⟨r, rfl, hr0, rfl⟩
    clear HFd
    rcases hr0.nat HH.out.uq with ⟨j, rfl, hf⟩ | ⟨rfl, hf⟩
    · have hj := (fnd_some hf).1
      have hev : c.evict (k : Int) = { c with S := updS c.S j none } := by unfold Cch.evict; rw [HfI.out, hf]
      obtain ⟨n, hn⟩ : ∃ n, n = c.n := ⟨_, rfl⟩
      rw [← hn] at c1 c2
      have hj2 : j < n := by rw [hn]; exact hj
      have hn2 : n ≤ 1024 := by rw [hn]; exact HH.out.num.2.1
      have yp := HH.out.pages.cell j hj
      have fp := HH.out.pages.frz j hj
      have k1 : Kept (fun x => x ≠ gp) w (w.setCell ⟨gp, j, none⟩ (.int .i64 (-1))) := Kept.setCell w (a := ⟨gp, j, none⟩) (fun e => e rfl) _
      have c2' : (w.setCell ⟨gp, j, none⟩ (.int .i64 (-1))).cell? ⟨q, 2, none⟩ = some (.slice (some ⟨gm, 0, none⟩) n n) := (k1.cell (a := ⟨q, 2, none⟩) (show q ≠ gp by omega)).trans c2
      have ym : (w.setCell ⟨gp, j, none⟩ (.int .i64 (-1))).cell? ⟨gm, j, none⟩ = some (.bool (mkS c.S j)) := (k1.cell (a := ⟨gm, j, none⟩) (show gm ≠ gp by omega)).trans (HH.out.marks.cell j hj)
      have fm : (w.setCell ⟨gp, j, none⟩ (.int .i64 (-1))).frozen? ⟨gm, j, none⟩ = false := (k1.frozen (a := ⟨gm, j, none⟩) (show gm ≠ gp by omega)).trans (HH.out.marks.frz j hj)
      have HE : Hid (Value.bool (fndI c (k : Int)).isSome = .bool true ∧ PnAt ((w.setCell ⟨gp, j, none⟩ (.int .i64 (-1))).setCell ⟨gm, j, none⟩ (.bool false)) z0 z av q gp gm gd db dm p cd N (c.evict (k : Int)) d ∧ Kept (fun x => x < w.heap.size ∧ x ≠ gp ∧ x ≠ gm) w ((w.setCell ⟨gp, j, none⟩ (.int .i64 (-1))).setCell ⟨gm, j, none⟩ (.bool false))) := by
        rw [hev, HfI.out, hf]
        exact ⟨rfl, HH.out.wipe hj, (k1.mono fun x hx => hx.2.1).trans ((Kept.setCell (X := fun x => x ≠ gm) _ (a := ⟨gm, j, none⟩) (fun e => e rfl) _).mono fun x hx => hx.2.2)⟩
      clear hf hev hn hj hr0 k1 hr HH HfI
      go_wp2_with fail
      go_ret
      exact ⟨by rw [HE.out.1]; rfl, HE.out.2⟩
    · have HE : Hid (Value.bool (fndI c (k : Int)).isSome = .bool false ∧ c.evict (k : Int) = c) := by
        unfold Cch.evict
        rw [HfI.out, hf]
        exact ⟨rfl, rfl⟩
      clear hf hr0 hr HfI
      go_wp2_with fail
      go_ret
      exact ⟨by rw [HE.out.1]; rfl, by rw [HE.out.2]; exact HH.out, Kept.refl _ _⟩
end Go.Proofs.Ytooamkicmmgniaa
