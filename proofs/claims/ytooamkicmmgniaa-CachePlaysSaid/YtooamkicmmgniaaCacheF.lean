/- Package cache, sixth part: Evict, Empty, Get. -/
import Derived.Test.YtooamkicmmgniaaCacheE
import Derived.Test.YtooamkicmmgniaaCloneU
namespace Go.Proofs.Ytooamkicmmgniaa
set_option linter.unusedVariables false
set_option maxRecDepth 100000
open Go.RowKit Go.ChangeShapes Go.WideShapes

/-- Which slot has a page that is told by any number. -/
def fndI (c : Cch) (i : Int) : Option Nat := if 0 ≤ i then fnd c.S i.toNat c.n else none
/-- A page goes. -/
def Cch.evict (c : Cch) (i : Int) : Cch := match fndI c i with | some j => { c with S := updS c.S j none } | none => c
set_option maxHeartbeats 1000000 in
theorem cEvict_any (z0 z av b sb hm db N : Nat) (c : Cch) (i : Int) (w : World) (h : CcAt w z0 z av b sb hm db N c) (hi63 : -9223372036854775808 ≤ i ∧ i ≤ 9223372036854775807) : Calls Try.prog 14 #[.pointer (some ⟨b, 0, none⟩), .int .i64 i] w fun e w' =>
    e = .returned (.bool (fndI c i).isSome) ∧ CcAt w' z0 z av b sb hm db N (c.evict i) ∧ Kept (fun q => q < w.heap.size ∧ q ≠ sb ∧ q ≠ hm) w w' := by
  obtain ⟨_, _, _, _, c4, _, c6, c7, _⟩ := h.cells
  have H := Lib.hid (cMade_yes b db w c4)
  have hN : N ≤ 65536 := h.num.2.2.2.2
  cases hf : fndI c i with
  | none =>
    have hev : c.evict i = c := by unfold Cch.evict; rw [hf]
    rw [hev]
    have hl := h.map.look_none (z := i) (by omega) hi63 fun j _ e => by
      unfold fndI at hf
      rw [if_pos (by omega)] at hf
      rw [e, Int.toNat_natCast] at hf
      exact hf
    have HA := Lib.hid h
    clear h hf hev c6
    go_enter Try.func14, Try.ntmps14
    go_wp2_with fail
    refine H.out.mono ?_
    rintro e w' ⟨rfl, rfl⟩
    clear H
    go_wp2_with fail
    go_ret
    exact ⟨rfl, HA.out, Kept.refl _ _⟩
  | some j =>
    have h0 : 0 ≤ i := by
      unfold fndI at hf
      split at hf
      · assumption
      · cases hf
    obtain ⟨k, rfl⟩ : ∃ k : Nat, i = k := ⟨i.toNat, by omega⟩
    have hf2 : fnd c.S k c.n = some j := by
      unfold fndI at hf
      rw [if_pos h0, Int.toNat_natCast] at hf
      exact hf
    have hev : c.evict (k : Int) = { c with S := updS c.S j none } := by unfold Cch.evict; rw [hf]
    rw [hev]
    obtain ⟨hj, s, hs, hp⟩ := (fnd_eq h.uq).1 hf2
    have hkN : k < N := by rw [← hp]; exact h.pgs j hj s hs
    have hl := h.map.look_some hkN (by omega) hf2
    obtain ⟨n, hn⟩ : ∃ n, n = c.n := ⟨_, rfl⟩
    rw [← hn] at c6
    have hj2 : j < n := by rw [hn]; exact hj
    have hn2 : n ≤ 1024 := by rw [hn]; exact h.num.2.1
    have hr := h.rng
    have HTh : Hid (w.there sb (j * 3) (#[.int .i64 0, .slice none 0 0, .bool false] : Array Value).size) := Lib.hid (there_slot h.slots hj)
    have HAll : Hid ((#[.int .i64 0, .slice none 0 0, .bool false] : Array Value).all (·.oneCell') = true) := Lib.hid (cellS_all none 0)
    have HS3 : Hid ((Try.prog.info? 68).map (·.size) = some (#[.int .i64 0, .slice none 0 0, .bool false] : Array Value).size) := Lib.hid (by kernel_rfl)
    have hk1 : Kept (fun q => q ≠ sb) w (w.setCells sb (j * 3) [.int .i64 0, .slice none 0 0, .bool false]) := Kept.setCells _ (fun e => e rfl) _ _
    have c7' : (w.setCells sb (j * 3) [.int .i64 0, .slice none 0 0, .bool false]).cell? ⟨b, 7, none⟩ = some (.map (some hm)) := (hk1.cell (a := ⟨b, 7, none⟩) (show b ≠ sb by omega)).trans c7
    have HMap : Hid (HldAt (w.setCells sb (j * 3) [.int .i64 0, .slice none 0 0, .bool false]) hm N (fun k => fnd c.S k c.n)) := Lib.hid (h.map.kept hk1 (show hm ≠ sb by omega))
    have HNb : Hid (k < N ∧ N ≤ 1099511627776) := Lib.hid ⟨hkN, by omega⟩
    have HFin : Hid (∀ w', HldAt w' hm N (updO (fun k => fnd c.S k c.n) k none) → Kept (fun j' => j' < (w.setCells sb (j * 3) [.int .i64 0, .slice none 0 0, .bool false]).heap.size ∧ j' ≠ hm) (w.setCells sb (j * 3) [.int .i64 0, .slice none 0 0, .bool false]) w' →
        CcAt w' z0 z av b sb hm db N { c with S := updS c.S j none } ∧ Kept (fun q => q < w.heap.size ∧ q ≠ sb ∧ q ≠ hm) w w') := Lib.hid fun w' q1 q2 => by
      have hS := h.slots.setS hj (by omega) none 0 fun t ht => nomatch ht
      have hss : (w.setCells sb (j * 3) [.int .i64 0, .slice none 0 0, .bool false]).heap.size = w.heap.size := setCells_size _ _ _ _
      refine ⟨⟨(q2.block b ⟨by rw [hss]; exact h.ltb, by omega⟩).trans ((hk1.block b (show b ≠ sb by omega)).trans h.blk), h.num, hS.kept q2 ⟨hS.lt, by omega⟩ fun g g1 _ g2 => ⟨g2, by omega⟩, q1.ext fun q _ => ?_, fun x hx t ht => ?_, del_uniq h.uq j, hr⟩, (hk1.mono fun q hq => hq.2.1).trans (q2.mono fun q hq => ⟨by rw [hss]; exact hq.1, hq.2.2⟩)⟩
      · unfold updO
        show _ = fnd (updS c.S j none) q c.n
        rw [del_fnd h.uq hj hs, hp]
      · have ht' : updS c.S j none x = some t := ht
        unfold updS at ht'
        split at ht'
        · cases ht'
        · exact h.pgs x hx t ht'
    clear h hf hf2 hs hp hr hk1 hn hj hev hkN
    go_enter Try.func14, Try.ntmps14
    go_wp2_with fail
    refine H.out.mono ?_
    rintro e w' ⟨rfl, rfl⟩
    clear H
    go_wp2_with (first
      | (with_reducible refine wpList_store_mid rfl 68 _ _ rfl sb (j * 3) #[.int .i64 0, .slice none 0 0, .bool false] rfl rfl HTh.out HS3.out HAll.out ?_)
      | (at_delete; refine wpList_del_hld _ rfl _ _ rfl hm N k (fun k => fnd c.S k c.n) rfl HMap.out HNb.out.1 HNb.out.2 rfl ?_; intro w9 h1 h2; have HF := Lib.hid (HFin.out w9 h1 h2); clear h1 h2))
    go_ret
    exact ⟨rfl, HF.out⟩
/-- All pages go. -/
def Cch.empty (c : Cch) : Cch := { c with S := fun _ => none }
/-- What Get tells of any number. -/
def getR (c : Cch) (d : Dsk) (i : Int) : Tkn := takeR c d i.toNat
/-- What Get told. -/
def GetRes (base : Nat) (w' : World) (r : Option (Nat → Int)) (e : Ending) : Prop :=
  match r with
  | none => ∃ q c, e = .returned (.tuple #[.slice q 0 c, .int .i64 8]) ∧ c ≤ maxLen
  | some G => ∃ q c, e = .returned (.tuple #[.slice q 64 c, .int .i64 0]) ∧ 64 ≤ c ∧ c ≤ maxLen ∧ SlU w' q 64 G ∧ ∀ a, q = some a → base ≤ a.block
theorem cGet_out (z0 z av b sb hm db dm : Nat) (p : Option Addr) (cd N : Nat) (i : Int) (c : Cch) (d : Dsk) (w : World) (h : CkAt w z0 z av b sb hm db dm p cd N c d) (hi : i < 0 ∨ (N : Int) ≤ i) : Calls Try.prog 18 #[.pointer (some ⟨b, 0, none⟩), .int .i64 i] w fun e w' =>
    e = .returned (.tuple #[.slice none 0 0, .int .i64 5]) ∧ w = w' := by
  obtain ⟨_, _, _, _, c4, _, _, _, _⟩ := h.cc.cells
  have H := Lib.hid (cMade_yes b db w c4)
  have HP := Lib.hid (Pages_at db dm p cd d w h.dk)
  rw [h.nN] at HP
  by_cases h0 : i < 0
  · clear h hi
    go_enter Try.func18, Try.ntmps18
    go_wp2_with fail
    refine H.out.mono ?_
    rintro e w' ⟨rfl, rfl⟩
    clear H
    go_wp2_with fail
    go_ret2
    exact ⟨rfl, rfl⟩
  · have h1 : (N : Int) ≤ i := by omega
    clear h hi
    go_enter Try.func18, Try.ntmps18
    go_wp2_with fail
    refine H.out.mono ?_
    rintro e w' ⟨rfl, rfl⟩
    clear H
    go_wp2_with fail
    refine HP.out.mono ?_
    rintro e w' ⟨rfl, rfl⟩
    clear HP
    go_wp2_with fail
    go_ret2
    exact ⟨rfl, rfl⟩
theorem cGet_any (z0 z av b sb hm db dm : Nat) (p : Option Addr) (cd N k : Nat) (c : Cch) (d : Dsk) (w : World) (h : CkAt w z0 z av b sb hm db dm p cd N c d) (hk : k < N) (hav : av < w.heap.size) : Calls Try.prog 18 #[.pointer (some ⟨b, 0, none⟩), .int .i64 (k : Int)] w fun e w' =>
    GetRes w.heap.size w' (takeR c d k).r e ∧ CkAt w' z0 z av b sb hm db dm p cd N (takeR c d k).c (takeR c d k).d ∧ Kept (butK w b sb hm db dm) w w' := by
  obtain ⟨_, _, _, _, c4, _, _, _, _⟩ := h.cc.cells
  have H := Lib.hid (cMade_yes b db w c4)
  have HP := Lib.hid (Pages_at db dm p cd d w h.dk)
  rw [h.nN] at HP
  have HT := Lib.hid (cTake_any z0 z av b sb hm db dm p cd N k c d w h hk hav)
  obtain ⟨T, hT⟩ : ∃ T, T = takeR c d k := ⟨_, rfl⟩
  rw [← hT] at HT ⊢
  have hkN : ¬ (N : Int) ≤ k := by omega
  clear h hT
  go_enter Try.func18, Try.ntmps18
  go_wp2_with fail
  refine H.out.mono ?_
  rintro e w' ⟨rfl, rfl⟩
  clear H
  go_wp2_with fail
  refine HP.out.mono ?_
  rintro e w' ⟨rfl, rfl⟩
  clear HP
  go_wp2_with fail
  refine HT.out.mono ?_
  intro e w2 hh
  obtain ⟨r, c', d'⟩ := T
  dsimp only at hh ⊢
  obtain ⟨he, hat, hkk⟩ := hh
  cases r with
  | none =>
    have he' : e = .returned (.tuple #[.slice none 0 0, .int .i64 8]) := he
    subst he'
    have HC := Lib.hid (CloneU_any none 0 0 (fun _ => 0) w2 (fun h => absurd h (by omega)) (by omega))
    have HE := Lib.hid (fun W (ho : Old w2 W) => (show CkAt W z0 z av b sb hm db dm p cd N c' d' ∧ Kept (butK w b sb hm db dm) w W from ⟨hat.old ho, hkk.trans (ho.kept fun q hq => Nat.lt_of_lt_of_le hq.1 hkk.size)⟩))
    clear hat hkk HT he
    go_wp2_with fail
    refine HC.out.mono ?_
    rintro e w3 ⟨q, cq, rfl, h1, h2, h3, h4, _⟩
    have HF := Lib.hid (And.intro h2 (HE.out w3 h4))
    clear HE HC h1 h2 h3 h4
    go_wp2_with fail
    go_ret2
    exact ⟨⟨q, cq, rfl, HF.out.1⟩, HF.out.2⟩
  | some G =>
    have he' : ∃ g, e = .returned (.tuple #[.slice (some ⟨g, 0, none⟩) 64 64, .int .i64 0]) ∧ z ≤ g ∧ g < w2.heap.size ∧ SlU w2 (some ⟨g, 0, none⟩) 64 G := he
    obtain ⟨g, rfl, _, _, hsl⟩ := he'
    have HC := Lib.hid (CloneU_any (some ⟨g, 0, none⟩) 64 64 G w2 hsl (by omega))
    have HE := Lib.hid (fun W (ho : Old w2 W) => (show CkAt W z0 z av b sb hm db dm p cd N c' d' ∧ Kept (butK w b sb hm db dm) w W from ⟨hat.old ho, hkk.trans (ho.kept fun q hq => Nat.lt_of_lt_of_le hq.1 hkk.size)⟩))
    have HSz := Lib.hid hkk.size
    clear hat hkk HT he hsl
    go_wp2_with fail
    refine HC.out.mono ?_
    rintro e w3 ⟨q, cq, rfl, h1, h2, h3, h4, h5⟩
    have HF := Lib.hid (And.intro (And.intro h1 (And.intro h2 (And.intro h3 (fun a ha => Nat.le_trans HSz.out (h5 a (by omega) ha))))) (HE.out w3 h4))
    clear HE HC h1 h2 h3 h4 h5
    go_wp2_with fail
    go_ret2
    exact ⟨⟨q, cq, rfl, HF.out.1⟩, HF.out.2⟩

/-! Empty. -/
def zSlots (n : Nat) : List Value := (rowN (3 * n) (slV (fun _ => none) fun _ => 0)).toList
theorem run_clear_slots (w : World) (sb n : Nat) (ty : TypeId) (h0 : 0 < n) (ht : w.there sb 0 (3 * n)) : (Builtin.clear_ #[54] ty #[.slice (some ⟨sb, 0, none⟩) n n]).run Try.prog w = .ok (.tuple #[]) (w.setCells sb 0 (zSlots n)) := by
  have hz : ∀ w, (zeroValue 68).run Try.prog w = .ok (.agg zSl) w := fun w => by kernel_rfl
  have hzc : (Builtin.zeroCells zSl n).toList = zSlots n := by
    unfold zSlots
    rw [← made_slots, Nat.mul_comm 3 n]
    rfl
  have hlen : (zSlots n).length = 3 * n := rowN_list_len _ _
  have hone : ∀ v ∈ zSlots n, v.oneCell' = true := by
    intro v hv
    obtain ⟨j, hj⟩ := List.mem_iff_getElem?.1 hv
    obtain ⟨h1, h2⟩ := rowN_list_at hj
    rw [h2, slV_none]
    have h3 : j % 3 = 0 ∨ j % 3 = 1 ∨ j % 3 = 2 := by omega
    rcases h3 with h3 | h3 | h3 <;> rw [h3] <;> rfl
  have hst := run_storeCells_cells (P := Try.prog) sb 0 (zSlots n) 0 w (fun j hj => by rw [hlen] at hj; rw [Nat.add_zero]; exact (ht j hj).1) (fun j hj => by rw [hlen] at hj; rw [Nat.add_zero]; exact (ht j hj).2) hone
  rw [Nat.add_zero] at hst
  obtain ⟨m, rfl⟩ : ∃ m, n = m + 1 := ⟨n - 1, by omega⟩
  simp [Builtin.clear_, run_underlying Try.underlying54, hz, hst, show (Value.agg zSl).cells = zSl from rfl, hzc]
theorem cEmpty_any (z0 z av b sb hm db N : Nat) (c : Cch) (w : World) (h : CcAt w z0 z av b sb hm db N c) : Calls Try.prog 15 #[.pointer (some ⟨b, 0, none⟩)] w fun e w' =>
    e = .returned (.tuple #[]) ∧ CcAt w' z0 z av b sb hm db N c.empty ∧ Kept (fun q => q < w.heap.size ∧ q ≠ sb ∧ q ≠ hm) w w' := by
  obtain ⟨_, _, _, _, c4, _, c6, c7, _⟩ := h.cells
  have H := Lib.hid (cMade_yes b db w c4)
  have hr := h.rng
  obtain ⟨n, hn⟩ : ∃ n, n = c.n := ⟨_, rfl⟩
  rw [← hn] at c6
  obtain ⟨gs, hsl, _⟩ := h.slots
  rw [← hn] at hsl
  have hcl := fun ty => run_clear_slots w sb n ty (by rw [hn]; exact h.num.1) (hsl.there 0 (3 * n) (by omega))
  have hk1 : Kept (fun q => q ≠ sb) w (w.setCells sb 0 (zSlots n)) := Kept.setCells _ (fun e => e rfl) _ _
  have c7' : (w.setCells sb 0 (zSlots n)).cell? ⟨b, 7, none⟩ = some (.map (some hm)) := (hk1.cell (a := ⟨b, 7, none⟩) (show b ≠ sb by omega)).trans c7
  have HMap : Hid (HldAt (w.setCells sb 0 (zSlots n)) hm N (fun k => fnd c.S k c.n)) := Lib.hid (h.map.kept hk1 (show hm ≠ sb by omega))
  have HFin : Hid (∀ w', HldAt w' hm N (fun _ => none) → Kept (fun j' => j' < (w.setCells sb 0 (zSlots n)).heap.size ∧ j' ≠ hm) (w.setCells sb 0 (zSlots n)) w' →
      CcAt w' z0 z av b sb hm db N c.empty ∧ Kept (fun q => q < w.heap.size ∧ q ≠ sb ∧ q ≠ hm) w w') := Lib.hid fun w' q1 q2 => by
    have hss : (w.setCells sb 0 (zSlots n)).heap.size = w.heap.size := setCells_size _ _ _ _
    have hS : SlotsAt (w.setCells sb 0 (zSlots n)) sb n z av (fun _ => none) := ⟨fun _ => 0, CellsV.ext (hsl.setCells 0 (3 * n) (by omega) (slV (fun _ => none) fun _ => 0)) fun j hj => (by unfold patchV; rw [if_pos (by omega), Nat.sub_zero]), fun i _ s hs => nomatch hs⟩
    refine ⟨⟨(q2.block b ⟨by rw [hss]; exact h.ltb, by omega⟩).trans ((hk1.block b (show b ≠ sb by omega)).trans h.blk), h.num, ?_, q1.ext fun q _ => ?_, fun x hx t ht => (by (have h0 : (none : Option Slt) = some t := ht); cases h0), fun i j s t _ _ hs => (by (have h0 : (none : Option Slt) = some s := hs); cases h0), hr⟩, (hk1.mono fun q hq => hq.2.1).trans (q2.mono fun q hq => ⟨by rw [hss]; exact hq.1, hq.2.2⟩)⟩
    · have := hS.kept q2 ⟨hS.lt, by omega⟩ fun g g1 _ g2 => ⟨g2, by omega⟩
      rw [hn] at this
      exact this
    · show none = fnd (fun _ => none) q c.n
      cases hf : fnd (fun _ => none) q c.n with
      | none => rfl
      | some i => have := (fnd_some hf).2; unfold hasS at this; cases this
  clear h hr hk1 hn hsl
  go_enter Try.func15, Try.ntmps15
  go_wp2_with fail
  refine H.out.mono ?_
  rintro e w' ⟨rfl, rfl⟩
  clear H
  go_wp2_with (refine wpList_wipe_hld _ rfl _ rfl hm N (fun k => fnd c.S k c.n) rfl HMap.out ?_; intro w9 h1 h2; have HF := Lib.hid (HFin.out w9 h1 h2); clear h1 h2)
  go_end0
  exact ⟨rfl, HF.out⟩
end Go.Proofs.Ytooamkicmmgniaa
