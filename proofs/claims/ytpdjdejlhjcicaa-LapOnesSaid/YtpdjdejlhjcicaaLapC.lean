/- Package lap, third part: the laps' turns as a value: lift.New, net.New, lap.New; lift.Flip; Pairs.count. -/
import Derived.Test.YtpdjdejlhjcicaaTableL
import Derived.Test.YtpdjdejlhjcicaaSlicesL
import Derived.Test.YtpdjdejlhjcicaaRowsB
namespace Go.Proofs.Ytpdjdejlhjcicaa
set_option linter.unusedVariables false
open Go.RowKit

theorem Flip_any (p : Option Addr) (n cap : Nat) (xs : List Int) (w : World) (hs : SlI w .i64 (.slice p n cap) xs) (hn : n ≤ 1099511627776) :
    Calls Try.prog 45 #[.slice p n cap] w fun e w' => ∃ v, e = .returned v ∧ OwnL .i64 2 (fun q => q < w.heap.size) w' v xs.reverse ∧ Old w w' := by
  have hC := Lib.hid (Clone_any p n cap xs w hs hn)
  clear hs
  go_enter Try.func45, Try.ntmps45
  go_wp2_with fail
  refine hC.out.mono ?_
  rintro e w1 ⟨v, rfl, hv, ho⟩
  have hR := Lib.hid (Reverse_any _ v xs w1 hv (fun q hq => Nat.lt_of_lt_of_le hq ho.size))
  have HO := Lib.hid ho
  clear hv ho
  go_wp2_with fail
  refine hR.out.mono ?_
  rintro e w2 ⟨rfl, h2, hk⟩
  have H2 := Lib.hid h2
  have HO2 := Lib.hid (HO.out.after hk (fun _ h => h))
  clear h2 hk
  go_wp2
  go_ret
  exact ⟨_, rfl, H2.out, HO2.out⟩
theorem NNew_any (w : World) : Calls Try.prog 16 #[] w fun e w' => e = .returned (.agg #[]) ∧ Old w w' := by
  go_enter Try.func16, Try.ntmps16
  go_wp2
  refine bodyPost_ret (results_cell_row rfl _ _ w.heap.size 39 _ (0, 0) _ rfl (heap_alloc_new _ _) Try.underlying39 rfl (by kernel_rfl)) rfl ⟨rfl, Old.alloc _ _⟩
/-- The table's turns, as the cells of pairs and of a lap. -/
def T8 : Array Value := rowN 16 (turnF 8)
theorem T8_size : T8.size = 16 := rowN_size _ _
theorem T8_one : T8.all (·.oneCell') = true := rowN_one _ _ fun _ _ => rfl
theorem T8_at (k : Nat) (h : k < 8) : T8[k * 2]? = some (.int .i64 (turnP k)) ∧ T8[k * 2 + 1]? = some (.int .i64 (turnU k)) := by
  unfold T8
  rw [rowN_at _ _ _ (by omega), rowN_at _ _ _ (by omega)]
  unfold turnF turnC
  rw [if_pos (by omega), if_pos (by omega), if_pos (by omega), if_neg (by omega), show k * 2 / 2 = k by omega, show (k * 2 + 1) / 2 = k by omega]
  exact ⟨rfl, rfl⟩
set_option maxRecDepth 100000 in
theorem LNew_any (w : World) : Calls Try.prog 32 #[.agg T8] w fun e w' => e = .returned (.agg T8) ∧ Old w w' := by
  have hF : Array.foldl (fun (cs : Array Value) (x : Value × Nat) => cs.setIfInBounds x.snd x.fst) #[.int .i64 0, .int .i64 0, .int .i64 0, .int .i64 0, .int .i64 0, .int .i64 0, .int .i64 0, .int .i64 0, .int .i64 0, .int .i64 0, .int .i64 0, .int .i64 0, .int .i64 0, .int .i64 0, .int .i64 0, .int .i64 0] T8.zipIdx 0 16 = T8 := by kernel_rfl
  have h1 := Lib.hid T8_one
  have hs := T8_size
  have HB := heap_alloc_new w (.cells T8 45)
  have HZ : Hid ((Try.prog.info? 45).map (·.size) = some 16) := Lib.hid (by kernel_rfl)
  have HZ2 : Hid ((Try.prog.info? 47).map (·.size) = some 16) := Lib.hid (by kernel_rfl)
  have HB := Lib.hid HB
  generalize T8 = R at *
  go_enter Try.func32, Try.ntmps32
  go_wp2_with (first
    | (with_reducible refine wpList_load_row rfl 45 _ rfl w.heap.size rfl 45 R (0, 0) _ (heap_alloc2_old w _ _) Try.underlying45 rfl (by rw [hs]; exact HZ.out) ?_)
    | (with_reducible refine wpList_store_row rfl 47 _ _ rfl (w.heap.size + 1) R rfl rfl 47 _ (heap_alloc2_new w _ _) (by rw [hs]; exact HZ2.out) (by rw [hs]; kernel_rfl) h1.out ?_))
  refine bodyPost_ret (results_cell_row rfl _ _ (w.heap.size + 1) 47 R (0, 0) _ rfl (setRow_heap _ _ _ _ _ _ (heap_alloc2_new w _ _)) Try.underlying47 rfl (by rw [hs]; exact HZ2.out)) rfl ⟨rfl, ?_⟩
  exact ((Old.alloc w _).alloc' _).after (X := fun k => k < w.heap.size) ⟨rfl, rfl, by simp, fun k hk => setRow_other _ _ _ _ (by omega)⟩ fun _ h => h
set_option maxRecDepth 100000 in
theorem LapNew_any (w : World) : Calls Try.prog 19 #[] w fun e w' => e = .returned (.agg T8) ∧ Old w w' := by
  have hF : Array.foldl (fun (cs : Array Value) (x : Value × Nat) => cs.setIfInBounds x.snd x.fst) #[.int .i64 0, .int .i64 0, .int .i64 0, .int .i64 0, .int .i64 0, .int .i64 0, .int .i64 0, .int .i64 0, .int .i64 0, .int .i64 0, .int .i64 0, .int .i64 0, .int .i64 0, .int .i64 0, .int .i64 0, .int .i64 0] T8.zipIdx 0 16 = T8 := by kernel_rfl
  have h1 := Lib.hid T8_one
  have hs := T8_size
  have hT := Lib.hid (fun w => Turns_any w)
  have hL := Lib.hid (fun w => LNew_any w)
  have hN := Lib.hid (fun w => NNew_any w)
  rw [show rowN 16 (turnF 8) = T8 from rfl] at hT
  have HZ : Hid ((Try.prog.info? 49).map (·.size) = some 16) := Lib.hid (by kernel_rfl)
  generalize T8 = R at *
  go_enter Try.func19, Try.ntmps19
  go_wp2_with fail
  refine (hT.out _).mono ?_
  rintro e w1 ⟨rfl, ho1⟩
  go_wp2_with fail
  refine (hL.out _).mono ?_
  rintro e w2 ⟨rfl, ho2⟩
  go_wp2_with fail
  refine (hN.out _).mono ?_
  rintro e w3 ⟨rfl, ho3⟩
  have HO := Lib.hid ((ho1.trans ho2).trans ho3)
  clear ho1 ho2 ho3
  obtain ⟨z, hz⟩ : ∃ z : Array Value, z = #[.int .i64 0, .int .i64 0, .int .i64 0, .int .i64 0, .int .i64 0, .int .i64 0, .int .i64 0, .int .i64 0, .int .i64 0, .int .i64 0, .int .i64 0, .int .i64 0, .int .i64 0, .int .i64 0, .int .i64 0, .int .i64 0] := ⟨_, rfl⟩
  have hzs : z.size = 16 := by rw [hz]; rfl
  rw [← hz] at HO
  have hb : Hid (w3.heap[w.heap.size]? = some (.cells z 49 (0, 0))) := (HO.out.block _ (by simp)).trans (heap_alloc_new _ _)
  have HZZ := Lib.hid hz
  clear hz
  go_wp2_with (with_reducible refine wpList_store_row rfl 49 _ _ rfl w.heap.size R rfl rfl 49 _ hb.out (by rw [hs]; exact HZ.out) (by rw [hs]; exact hzs) h1.out ?_)
  refine bodyPost_ret (results_cell_row rfl _ _ w.heap.size 49 R (0, 0) _ rfl (setRow_heap _ _ _ _ _ _ hb.out) Try.underlying49 rfl (by rw [hs]; exact HZ.out)) rfl ⟨rfl, ?_⟩
  exact ((Old.alloc w _).trans HO.out).after (X := fun k => k < w.heap.size) ⟨rfl, rfl, by simp, fun k hk => setRow_other _ _ _ _ (by omega)⟩ fun _ h => h
theorem count_any (p q : Option Addr) (c d : Nat) (w : World) :
    Calls Try.prog 46 #[.agg T8, .slice p 8 c, .slice q 8 d] w fun e w' => e = .returned (.int .i64 8) ∧ Old w w' := by
  generalize T8 = R at *
  go_enter Try.func46, Try.ntmps46
  go_wp2
  go_ret
  exact ⟨rfl, Old.alloc _ _⟩
/-- Where a lap's Net lies: it has no cells. -/
theorem net_part (w : World) (bx : Nat) (c : Array Value) (h : w.heap[bx]? = some (.cells c 49 (0, 0))) : (partAt ⟨bx, 0, none⟩ 16 128).run Try.prog w = .ok ⟨bx, 16, some 128⟩ w := by
  have h1 : Try.prog.cellsOf 49 = 16 := by kernel_rfl
  have h2 : Try.prog.bytesOf 49 = 136 := by kernel_rfl
  have h3 : byteOfCell Try.prog Try.prog.depth 49 0 = some 0 := by kernel_rfl
  have hs : w.shape? bx = some (49, c.size) := by unfold World.shape?; rw [h]
  simp [partAt, byteOf, noView, viewAt, hs, h1, h2, h3]
end Go.Proofs.Ytpdjdejlhjcicaa
