/- The library's insertion sort by tone.Find's closure, and what calls it. -/
import Derived.Test.YtcepfbflgngmjaaToneB
namespace Go.Proofs.Ytcepfbflgngmjaa
set_option linter.unusedVariables false
set_option maxRecDepth 100000
open Go.RowKit Go.ChangeShapes Go.WideShapes

/-- A place comes ahead of another: its number is greater, without signs, or alike, and it comes first. -/
def keyI (f : Nat → Int) (x : Int) : Int := absI (f x.toNat)
def aheadP (f : Nat → Int) (x y : Int) : Prop := keyI f y < keyI f x ∨ (keyI f y = keyI f x ∧ x < y)
theorem aheadP_trans (f : Nat → Int) (x y z : Int) (h1 : aheadP f x y) (h2 : aheadP f y z) : aheadP f x z := by unfold aheadP at *; omega
/-- Places that are sorted: in range, each once. -/
def placesP (F : Nat → Int) (n : Nat) : Prop := (∀ k, k < n → 0 ≤ F k ∧ F k < 16) ∧ ∀ a b, a < b → b < n → F a < F b
/-- The row that is sorted, and the spectrum beside it. -/
structure InsW (t : TypeId) (w0 : World) (g n b : Nat) (f : Nat → Int) (G : Nat → Int) (W : World) : Prop where
  row : CellsAt W g n G
  box : W.heap[b]? = some (.cells (rowN 16 (blk f)) t (0, 0))
  kept : Kept (butOf w0 g) w0 W
namespace InsW
variable {t : TypeId} {w0 W : World} {g n b : Nat} {f G : Nat → Int}
theorem drewN (h : InsW t w0 g n b f G W) (d : Nat) : InsW t w0 g n b f G (W.drewN d) := ⟨h.row.drewN d, h.box, h.kept.drewN d⟩
theorem drew (h : InsW t w0 g n b f G W) : InsW t w0 g n b f G W.drew := ⟨h.row.drew, h.box, h.kept.drew⟩
theorem set (h : InsW t w0 g n b f G W) (hne : g ≠ b) (j : Nat) (hj : j < n) (v : Int) : InsW t w0 g n b f (fun k => if k = j then v else G k) (W.setCell ⟨g, j, none⟩ (.int .i64 v)) :=
  ⟨h.row.set j hj v, (heap_setCell_other _ _ _ _ hne.symm).trans h.box, h.kept.trans (Kept.setCell (X := butOf w0 g) _ (a := ⟨g, j, none⟩) (fun e => e.2 rfl) _)⟩
theorem swap (h : InsW t w0 g n b f G W) (hne : g ≠ b) (j : Nat) (hj : j < n) (h0 : 0 < j) : InsW t w0 g n b f (swapF G j) ((W.setCell ⟨g, j, none⟩ (.int .i64 (G (j - 1)))).setCell ⟨g, j - 1, none⟩ (.int .i64 (G j))) :=
  (h.set hne j hj _).set hne (j - 1) (by omega) _
end InsW
set_option maxHeartbeats 4000000 in
set_option maxRecDepth 100000 in
theorem insertion_any (f : Nat → Int) (hf : Fits64 f) (b g n cap : Nat) (F : Nat → Int) (w : World) (hF : placesP F n) (hb : w.heap[b]? = some (.cells (rowN 16 (blk f)) 23 (0, 0))) (hg : CellsAt w g n F) (hne : g ≠ b) (hn : n ≤ 4611686018427387904) :
    Calls Try.prog 73 #[.slice (some ⟨g, 0, none⟩) n cap, .int .i64 0, .int .i64 n, .func (.func 49) #[] #[.pointer (some ⟨b, 0, none⟩)]] w fun e w' => e = .returned (.tuple #[]) ∧ ∃ G, SrtO (aheadP f) F n G ∧ CellsAt w' g n G ∧ Kept (butOf w g) w w' := by
  have H0 : Hid (InsW 23 w g n b f F w) := ⟨hg, hb, Kept.refl _ _⟩
  have HF := Lib.hid hF
  have H64 := Lib.hid hf
  have HNE := Lib.hid hne
  clear hb hg hF hf hne
  go_enter Try.func73, Try.ntmps73
  go_wp2_with fail
  go_loopw [8] (fun i wr => ∃ (k : Nat) (G : Nat → Int), 1 ≤ k ∧ (k ≤ n ∨ k = 1) ∧ i = .int .i64 k ∧ Hid (InsO (aheadP f) F k G) ∧ Hid (InsW 23 w g n b f G wr)) (fun i _ => n - (intOf i).toNat)
  case atStart => exact ⟨1, F, by omega, .inr rfl, rfl, InsO.start _ _, H0⟩
  case round =>
    obtain ⟨i, G, hi1, hi2, rfl, HO, HW⟩ := hrel
    clear H0
    by_cases hlt : i < n
    · clear hi2
      obtain ⟨wo, rfl⟩ : ∃ V, V = wr := ⟨_, rfl⟩
      have HI := Lib.hid HO.out.enter
      clear HO
      go_wp2_with fail
      go_loopw [9] (fun jv wr => ∃ (j : Nat) (G : Nat → Int), jv = .int .i64 j ∧ j ≤ i ∧ Hid (InsI (aheadP f) F i j G) ∧ Hid (InsW 23 w g n b f G wr)) (fun jv _ => (intOf jv).toNat)
      case atStart => exact ⟨i, G, rfl, Nat.le_refl _, HI, HW⟩
      case round =>
        clear HI HW
        obtain ⟨j, G, rfl, hj, HI, HW⟩ := hrel
        by_cases h0 : 0 < j
        · obtain ⟨m, hm⟩ : ∃ m : Nat, m = j - 1 := ⟨_, rfl⟩
          have hmj : m < j := by omega
          have hjn : j < n := by omega
          have hmn : m < n := by omega
          have e1 : IntKind.i64.wrap ((j : Int) - 1) = (m : Int) := by rw [show ((j : Int) - 1) = (m : Int) by omega]; exact IntWalk.i64_in _ (by omega)
          have e2 : wrap64 ((j : Int) - 1) = (m : Int) := by rw [show ((j : Int) - 1) = (m : Int) by omega]; exact IntWalk.wrap64_in _ (by omega)
          have c1 := HW.out.row.cell j hjn
          have c2 := HW.out.row.cell m hmn
          have f1 := HW.out.row.frz j hjn
          have f2 := HW.out.row.frz m hmn
          have b1 : 0 ≤ G j ∧ G j < 16 := by rw [HI.out.own]; exact HF.out.1 i hlt
          obtain ⟨m', hm', hGm⟩ := HI.out.frm m (by omega) (by omega)
          have b2 : 0 ≤ G m ∧ G m < 16 := by rw [hGm]; exact HF.out.1 m' (by omega)
          have b3 : G m < G j := by rw [hGm, HI.out.own]; exact HF.out.2 m' i hm' hlt
          have hL := fun w' hb' => louder_any f H64.out b (G j).toNat (G m).toNat w' hb' (by omega) (by omega)
          rw [Int.toNat_of_nonneg b1.1, Int.toNat_of_nonneg b2.1] at hL
          have hLo := fun d => hL (wr.drewN d) HW.out.box
          have j0 : (0 : Int) < j := by omega
          have e0 : m = j - 1 := hm
          by_cases c : keyI f (G m) < keyI f (G j)
          · have hc : cmpI (absI (f (G m).toNat)) (absI (f (G j).toNat)) = -1 := by unfold cmpI; exact if_pos c
            rw [hc] at hLo
            have HLo := Lib.hid hLo
            clear hLo
            have HI2 := Lib.hid (HI.out.swap h0 (by rw [← e0]; exact .inl c))
            have hW2 := fun d => (HW.out.drewN d).swap HNE.out j hjn h0
            rw [← e0] at HI2 hW2
            have HW2 := Lib.hid hW2
            have HM := Lib.hid e0
            clear hL HI HW hW2 b1 b2 b3 hGm hm' hc c hm e0
            generalize G j = x at *
            generalize G m = y at *
            go_wp2_with fail
            go_quiet ((go_at_call 49; with_reducible exact Calls.quiet_of (HLo.out _)))
            go_wp2_with fail
            go_region
            go_wp2_with fail
            go_roundw
            case rel => exact ⟨m, _, by go_num, by omega, HI2, HW2.out _⟩
            case measure => simp [intOf]; omega
          · obtain ⟨z, hz, hz0⟩ : ∃ z, cmpI (absI (f (G m).toNat)) (absI (f (G j).toNat)) = z ∧ 0 ≤ z := ⟨_, rfl, by unfold keyI at c; unfold cmpI; rw [if_neg c]; split <;> omega⟩
            rw [hz] at hLo
            have HLo := Lib.hid hLo
            have hD : InsO (aheadP f) F (i + 1) G := HI.out.done (aheadP_trans f) (fun _ => by rw [← e0]; unfold aheadP; unfold keyI at *; omega)
            have HD := Lib.hid hD
            have hW2 := fun d => (HW.out.drewN d)
            have HW2 := Lib.hid hW2
            clear hLo hL HI HW hW2 hD b1 b2 b3 hGm hm' hz c hm e0
            generalize G j = x at *
            generalize G m = y at *
            go_wp2_with fail
            go_quiet ((go_at_call 49; with_reducible exact Calls.quiet_of (HLo.out _)))
            go_wp2_with fail
            go_roundw
            case rel => exact ⟨i + 1, _, by omega, by omega, by go_num, HD, HW2.out _⟩
            case measure => simp [intOf]; omega
        · obtain rfl : j = 0 := by omega
          have hD : InsO (aheadP f) F (i + 1) G := HI.out.done (aheadP_trans f) (fun h => absurd h h0)
          have HD := Lib.hid hD
          have hW2 := fun d => (HW.out.drewN d)
          have HW2 := Lib.hid hW2
          clear HI HW hW2 hD h0
          go_wp2_with fail
          go_quiet (fail)
          go_wp2_with fail
          go_roundw
          case rel => exact ⟨i + 1, _, by omega, by omega, by go_num, HD, HW2.out _⟩
          case measure => simp [intOf]; omega
    · have hS : SrtO (aheadP f) F n G := HO.out.srt (by omega)
      have HS := Lib.hid hS
      have hR := HW.out.row
      have hK := HW.out.kept
      have HR := Lib.hid hR
      have HK := Lib.hid hK
      clear hS HO HW hR hK
      go_wp2_with fail
      go_end0
      exact ⟨rfl, G, HS.out, HR.out, HK.out⟩
set_option maxRecDepth 100000 in
theorem stable_any (f : Nat → Int) (hf : Fits64 f) (b g n cap : Nat) (F : Nat → Int) (w : World) (hF : placesP F n) (hb : w.heap[b]? = some (.cells (rowN 16 (blk f)) 23 (0, 0))) (hg : CellsAt w g n F) (hne : g ≠ b) (hn : n < 20) :
    Calls Try.prog 64 #[.slice (some ⟨g, 0, none⟩) n cap, .int .i64 n, .func (.func 49) #[] #[.pointer (some ⟨b, 0, none⟩)]] w fun e w' => e = .returned (.tuple #[]) ∧ ∃ G, SrtO (aheadP f) F n G ∧ CellsAt w' g n G ∧ Kept (butOf w g) w w' := by
  have HI := Lib.hid (insertion_any f hf b g n cap F w hF hb hg hne (by omega))
  clear hf hF hb hg hne
  go_enter Try.func64, Try.ntmps64
  go_wp2_with fail
  go_loop [7, 8] (fun a c => a = .int .i64 0 ∧ c = .int .i64 20) (fun _ _ => 0)
  case atStart => exact ⟨rfl, rfl⟩
  case round =>
    obtain ⟨rfl, rfl⟩ := hrel
    go_wp2_with fail
    refine HI.out.mono ?_
    rintro e w1 ⟨rfl, hh⟩
    have HH := Lib.hid hh
    clear hh HI
    go_wp2_with fail
    go_loop [6] (fun c => c = .int .i64 20) (fun _ => 0)
    case atStart => rfl
    case round =>
      subst hrel
      go_wp2_with fail
      go_end0
      exact ⟨rfl, HH.out⟩
theorem SortStable_any (f : Nat → Int) (hf : Fits64 f) (b g n cap : Nat) (F : Nat → Int) (w : World) (hF : placesP F n) (hb : w.heap[b]? = some (.cells (rowN 16 (blk f)) 23 (0, 0))) (hg : CellsAt w g n F) (hne : g ≠ b) (hn : n < 20) :
    Calls Try.prog 48 #[.slice (some ⟨g, 0, none⟩) n cap, .func (.func 49) #[] #[.pointer (some ⟨b, 0, none⟩)]] w fun e w' => e = .returned (.tuple #[]) ∧ ∃ G, SrtO (aheadP f) F n G ∧ CellsAt w' g n G ∧ Kept (butOf w g) w w' := by
  have HI := Lib.hid (stable_any f hf b g n cap F w hF hb hg hne hn)
  clear hf hF hb hg hne
  go_enter Try.func48, Try.ntmps48
  go_wp2_with fail
  refine HI.out.mono ?_
  rintro e w1 ⟨rfl, hh⟩
  have HH := Lib.hid hh
  clear hh HI
  go_wp2_with fail
  go_end0
  exact ⟨rfl, HH.out⟩
end Go.Proofs.Ytcepfbflgngmjaa
