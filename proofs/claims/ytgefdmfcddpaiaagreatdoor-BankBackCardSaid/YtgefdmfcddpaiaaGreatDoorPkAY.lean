/- Texts joined: QuantN. -/
import Derived.Deep.RegionHeld
import Derived.Test.YtgefdmfcddpaiaaGreatDoorPkAC
import Derived.Test.YtgefdmfcddpaiaaGreatDoorPkAX
import Derived.Test.YtgefdmfcddpaiaaGreatDoorTk
namespace Go.Proofs.YtgefdmfcddpaiaaGreatDoor
set_option linter.unusedVariables false
set_option maxRecDepth 100000
open Go.RowKit
def wideTo(f:Nat->Int):Nat->Nat->Int
 | 0=>fun _=>0
 | n+1=>fun j=>if j=n/4 then max (wideTo f n (n/4)) (widthI (f n)) else wideTo f n j
theorem wideTo_succ(f:Nat->Int)(n:Nat):(fun j=>if j=n/4 then max (wideTo f n (n/4)) (widthI (f n)) else wideTo f n j)=wideTo f (n+1):=rfl
theorem wideTo_bd(f:Nat->Int)(n j:Nat):0<=wideTo f n j/\wideTo f n j<=65:=by
 induction n generalizing j with
 | zero=>exact⟨by show (0:Int)<=0;omega,by show (0:Int)<=65;omega⟩
 | succ n ih=>
  rw [←wideTo_succ]
  have h1:=ih (n/4)
  have h2:=ih j
  have h3:=widthI_bd (f n)
  dsimp only
  split <;> omega
def wideF(f:Nat->Int):Nat->Int:=wideTo f 16
structure WdSt(w:World)(tb tg:TypeId)(z:Array Value)(f:Nat->Int)(g:Nat->Int)(W:World):Prop where
 b:W.heap[w.heap.size]?=some (.cells (rowN 16 (blk f)) tb (0,0))
 r:W.heap[w.heap.size+1]?=some (.cells z tg (0,0))
 g:W.heap[w.heap.size+1+1]?=some (.cells (rowN 4 (blk g)) tg (0,0))
 old:Old w W
namespace WdSt
variable {w W W':World} {tb tg:TypeId} {z:Array Value} {f g g':Nat->Int}
theorem set(h:WdSt w tb tg z f g W)(j:Nat)(hj:j<4)(v:Int):WdSt w tb tg z f (fun k=>if k=j then v else g k) (W.setCell ⟨w.heap.size+1+1,j,none⟩ (.int .i64 v)):=by
 refine⟨(heap_setCell_other _ _ _ _ (by simp;omega)).trans h.b,(heap_setCell_other _ _ _ _ (by simp)).trans h.r,?_,h.old.after (Kept.setCell (X:=fun k=>k<w.heap.size) _ (a:=⟨w.heap.size+1+1,j,none⟩) (by show ¬w.heap.size+1+1<w.heap.size;omega) _) fun _ hk=>hk⟩
 rw [←blk_upd,←rowN_set _ _ _ _ hj]
 exact heap_setCell_same _ _ _ _ _ _ h.g
theorem drew(h:WdSt w tb tg z f g W):WdSt w tb tg z f g W.drew:=⟨h.b,h.r,h.g,h.old.drew⟩
theorem cell(h:WdSt w tb tg z f g W)(j:Nat)(hj:j<4):W.cell? ⟨w.heap.size+1+1,j,none⟩=some (.int .i64 (g j))/\W.frozen? ⟨w.heap.size+1+1,j,none⟩=false:=
 ⟨(cell_of_row _ _ _ _ _ _ h.g).trans (blk_at 4 g j hj),frozen_of_row _ _ _ _ _ h.g⟩
theorem row(h:WdSt w tb tg z f g W)(cs:Array Value):(W.setRow (w.heap.size+1) cs).heap[w.heap.size+1]?=some (.cells cs tg (0,0))/\Old w (W.setRow (w.heap.size+1) cs):=
 ⟨setRow_heap _ _ _ _ _ _ h.r,h.old.after (X:=fun k=>k<w.heap.size) ⟨rfl,rfl,by simp,fun k hk=>setRow_other _ _ _ _ (by omega)⟩ fun _ h=>h⟩
theorem start(w:World)(tb tg:TypeId)(f:Nat->Int):WdSt w tb tg #[.int .i64 0,.int .i64 0,.int .i64 0,.int .i64 0] f (wideTo f 0) (((w.alloc (.cells (rowN 16 (blk f)) tb)).alloc (.cells #[.int .i64 0,.int .i64 0,.int .i64 0,.int .i64 0] tg)).alloc (.cells #[.int .i64 0,.int .i64 0,.int .i64 0,.int .i64 0] tg)):=by
 refine⟨?_,?_,?_,((Old.alloc w _).alloc' _).alloc' _⟩
 ·exact(Below.heap_alloc _ _ _ (by simp;omega)).trans (heap_alloc2_old w _ _)
 ·exact(Below.heap_alloc _ _ _ (by simp)).trans (heap_alloc2_new w _ _)
 ·have:=heap_alloc_new ((w.alloc (.cells (rowN 16 (blk f)) tb)).alloc (.cells #[.int .i64 0,.int .i64 0,.int .i64 0,.int .i64 0] tg)) (.cells #[.int .i64 0,.int .i64 0,.int .i64 0,.int .i64 0] tg)
  rw [World.size_alloc,World.size_alloc] at this
  exact this
end WdSt
theorem Widths_any(f:Nat->Int)(w:World)(hf:Fits64 f):
  Calls Tryz.prog 255 #[.agg (rowN 16 (blk f))] w fun e w'=>e = .returned (.agg (rowN 4 (blk (wideF f))))/\Old w w':=by
 have Hw4:Hid ((Tryz.prog.info? 44).map (·.size)=some 4):=zH (by kernel_rfl)
 have Hb16:Hid ((Tryz.prog.info? 43).map (·.size)=some 16):=zH (by kernel_rfl)
 have HF:=zH hf
 have H0:=zH (WdSt.start w 43 44 f)
 clear hf
 go_enter Tryz.func255,Tryz.ntmps255
 go_wp2_with (with_reducible refine wpList_load_row rfl 43 _ rfl w.heap.size rfl 43 (rowN 16 (blk f)) (0,0) _ H0.out.b Tryz.underlying43 rfl (by rw [rowN_size];exact Hb16.out) ?_)
 obtain⟨z,hz⟩:∃z:Array Value,z=#[.int .i64 0,.int .i64 0,.int .i64 0,.int .i64 0]:=⟨_,rfl⟩
 have hzs:z.size=4:=by rw [hz];rfl
 rw [←hz] at H0 ⊢
 clear hz
 go_loopw [8] (fun i wr=>∃k:Nat,k<=16/\i = .int .i64 k/\Hid (WdSt w 43 44 z f (wideTo f k) wr)) (fun i _=>16-(intOf i).toNat)
 case atStart=>exact⟨0,by omega,rfl,H0⟩
 case round=>
  obtain⟨k,hk,rfl,hs⟩:=hrel
  clear H0
  by_cases hlt:k<16
  ·have k1:(0:Int)<=k:=by omega
   have k2:(k:Int)<16:=by omega
   have hat:∀w:World,(Instr.index 43 (.agg (rowN 16 (blk f))) (.int .i64 k)).run Tryz.prog w = .ok (.int .i64 (f k)) w:=fun w=>run_index_ints Tryz.underlying43 Tryz.underlying2 (fun _=>by kernel_rfl) f k hlt w
   have hsu:=wideTo_succ f k
   obtain⟨m,hm⟩:∃m,k/4=m:=⟨_,rfl⟩
   have HB:=zH (fun w=>Band_nat k m w hlt hm)
   rw [hm] at hsu
   have m0:(0:Int)<=m:=by omega
   have m1:(m:Int)<4:=by omega
   have m2:m<4:=by omega
   clear hm
   obtain⟨c1,c2⟩:=hs.out.cell m m2
   have HD:=zH (hs.out.drew.cell m m2)
   obtain⟨v0,v1⟩:=HF.out k
   have HC:=zH (fun w=>Width_any (f k) w v0 v1)
   have h1:=hs.out.drew.set m m2 (max (wideTo f k m) (widthI (f k)))
   rw [hsu] at h1
   have H1:=zH h1
   obtain⟨x0,x1⟩:=wideTo_bd f k m
   obtain⟨y0,y1⟩:=widthI_bd (f k)
   clear hsu HF h1 hs v0 v1
   generalize widthI (f k)=y at *
   generalize wideTo f k m=x at *
   generalize f k=v at *
   go_wp2_with fail
   refine(HB.out _).mono ?_
   rintro e w2 ⟨rfl,rfl⟩
   go_wp2_with fail
   go_still_tail 8,(by kernel_rfl)
   repeat still_step
   still_call ((HC.out _).mono fun _ _ hh=>⟨hh.1,hh.2.symm⟩)
   repeat still_step
   refine wpStill_nil ?_
   change wpList _ _ _ _ _ wr.drew
   obtain⟨d1,d2⟩:=HD.out
   go_wp2_with fail
   all_goals
    go_roundw
    case rel=>exact⟨k+1,by omega,by go_num,H1⟩
    case measure=>simp [intOf];omega
  ·obtain rfl:k=16:=by omega
   have Hg:Hid (wr.heap[w.heap.size+1+1]?=some (.cells (rowN 4 (blk (wideF f))) 44 (0,0))):=zH hs.out.g
   have Hr:=zH hs.out.r
   have Hd:=zH (hs.out.row (rowN 4 (blk (wideF f))))
   have H1:Hid ((rowN 4 (blk (wideF f))).all (·.oneCell')=true):=zH (blk_one _ _)
   clear hs HF
   have hsz:=rowN_size 4 (blk (wideF f))
   go_wp2_with (first | (with_reducible refine wpList_load_row rfl 44 _ rfl (w.heap.size+1+1) rfl 44 (rowN 4 (blk (wideF f))) (0,0) _ Hg.out Tryz.underlying44 rfl (by rw [hsz];exact Hw4.out) ?_) | (with_reducible refine wpList_store_row rfl 44 _ _ rfl (w.heap.size+1) (rowN 4 (blk (wideF f))) rfl rfl 44 _ Hr.out (by rw [hsz];exact Hw4.out) (by rw [hsz];exact hzs) H1.out ?_))
   exact bodyPost_ret (results_cell_row rfl _ _ (w.heap.size+1) 44 (rowN 4 (blk (wideF f))) (0,0) _ rfl Hd.out.1 Tryz.underlying44 rfl (by rw [hsz];exact Hw4.out)) rfl ⟨rfl,Hd.out.2⟩
end Go.Proofs.YtgefdmfcddpaiaaGreatDoor
