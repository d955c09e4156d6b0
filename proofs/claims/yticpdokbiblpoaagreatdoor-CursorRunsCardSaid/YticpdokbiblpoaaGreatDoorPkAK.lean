/- Texts joined: QuantN. -/
import Derived.Deep.RegionHeld
import Derived.Test.YticpdokbiblpoaaGreatDoorPkAC
import Derived.Test.YticpdokbiblpoaaGreatDoorPkAJ
import Derived.Test.YticpdokbiblpoaaGreatDoorTk
set_option linter.unusedVariables false
namespace Go.Proofs.YticpdokbiblpoaaGreatDoor
open Go.Proofs.Tryz
open Go.Proofs.Tryz renaming prog → zP
open Go.Value renaming int → vI
open Go.IntKind renaming i64 → iJ
open Go.Ending renaming returned → rJ
set_option maxRecDepth 100000
open Go.RowKit
def iH(f:nI):Nat->Nat->Int
 | 0=>fun _=>0
 | n+1=>fun j=>if j=n/4 then max (iH f n (n/4)) (eS (f n)) else iH f n j
theorem lX(f:nI)(n:Nat):(fun j=>if j=n/4 then max (iH f n (n/4)) (eS (f n)) else iH f n j)=iH f (n+1):=rfl
theorem FT(f:nI)(n j:Nat):0<=iH f n j/\iH f n j<=65:=by
 induction n generalizing j with
 | zero=>exact⟨by show (0:Int)<=0;omega,by show (0:Int)<=65;omega⟩
 | succ n ih=>
  rw[<-lX];have h1:=ih (n/4);have h2:=ih j;have h3:=qS (f n);dsimp only;split <;> omega
def fR(f:nI):nI:=iH f 16
structure WdSt(w:World)(tb tg:TypeId)(z:Array Value)(f:nI)(g:nI)(W:World):Prop where
 b:W.heap[w.heap.size]?=some (.cells (aA 16 (blk f)) tb (0,0))
 r:W.heap[w.heap.size+1]?=some (.cells z tg (0,0))
 g:W.heap[w.heap.size+1+1]?=some (.cells (aA 4 (blk g)) tg (0,0))
 old:Old w W
namespace WdSt
variable {w W W':World} {tb tg:TypeId} {z:Array Value} {f g g':nI}
theorem set(h:WdSt w tb tg z f g W)(j:Nat)(hj:j<4)(v:Int):WdSt w tb tg z f (fun k=>if k=j then v else g k) (W.setCell ⟨w.heap.size+1+1,j,none⟩ (vI iJ v)):=by
 refine⟨(heap_setCell_other _ _ _ _ (by simp;omega)).trans h.b,(heap_setCell_other _ _ _ _ zS).trans h.r,?_,h.old.after (Kept.setCell (X:=fun k=>k<w.heap.size) _ (a:=⟨w.heap.size+1+1,j,none⟩) (by show ¬w.heap.size+1+1<w.heap.size;omega) _) fun _ hk=>hk⟩;rw[<-iA,<-dS _ _ _ _ hj];exact heap_setCell_same _ _ _ _ _ _ h.g
theorem drew(h:WdSt w tb tg z f g W):WdSt w tb tg z f g W.drew:=⟨h.b,h.r,h.g,h.old.drew⟩
theorem cell(h:WdSt w tb tg z f g W)(j:Nat)(hj:j<4):W.cell? ⟨w.heap.size+1+1,j,none⟩=some (vI iJ (g j))/\W.frozen? ⟨w.heap.size+1+1,j,none⟩=false:=
 ⟨(cell_of_row _ _ _ _ _ _ h.g).trans (dR 4 g j hj),frozen_of_row _ _ _ _ _ h.g⟩
theorem row(h:WdSt w tb tg z f g W)(cs:Array Value):(W.setRow (w.heap.size+1) cs).heap[w.heap.size+1]?=some (.cells cs tg (0,0))/\Old w (W.setRow (w.heap.size+1) cs):=
 ⟨setRow_heap _ _ _ _ _ _ h.r,h.old.after (X:=fun k=>k<w.heap.size) ⟨rfl,rfl,zS,fun k hk=>setRow_other _ _ _ _ zO⟩ fun _ h=>h⟩
theorem start(w:World)(tb tg:TypeId)(f:nI):WdSt w tb tg #[vI iJ 0,vI iJ 0,vI iJ 0,vI iJ 0] f (iH f 0) (((w.alloc (.cells (aA 16 (blk f)) tb)).alloc (.cells #[vI iJ 0,vI iJ 0,vI iJ 0,vI iJ 0] tg)).alloc (.cells #[vI iJ 0,vI iJ 0,vI iJ 0,vI iJ 0] tg)):=by
 refine⟨?_,?_,?_,((Old.alloc w _).alloc' _).alloc' _⟩
 ·exact(Below.heap_alloc _ _ _ (by simp;omega)).trans (heap_alloc2_old w _ _)
 ·exact(Below.heap_alloc _ _ _ zS).trans (heap_alloc2_new w _ _)
 ·have:=heap_alloc_new ((w.alloc (.cells (aA 16 (blk f)) tb)).alloc (.cells #[vI iJ 0,vI iJ 0,vI iJ 0,vI iJ 0] tg)) (.cells #[vI iJ 0,vI iJ 0,vI iJ 0,vI iJ 0] tg);rw[World.size_alloc,World.size_alloc]at this;exact this
end WdSt
theorem RG(f:nI)(w:World)(hf:aD f):
  Calls zP 242 #[.agg (aA 16 (blk f))] w fun e w'=>e=rJ (.agg (aA 4 (blk (fR f))))/\Old w w':=by
 have Hw4:Hid ((zP.info? 44).map (·.size)=some 4):=zH zK;have Hb16:Hid ((zP.info? 43).map (·.size)=some 16):=zH zK;have HF:=zH hf;have H0:=zH (WdSt.start w 43 44 f);clear hf;go_enter func242,ntmps242
 go_wp2_with (with_reducible refine wpList_load_row rfl 43 _ rfl w.heap.size rfl 43 (aA 16 (blk f)) (0,0) _ H0.o.b underlying43 rfl (by rw[aB];exact Hb16.o) ?_)
 obtain⟨z,hz⟩:∃z:Array Value,z=#[vI iJ 0,vI iJ 0,vI iJ 0,vI iJ 0]:=⟨_,rfl⟩
 have hzs:z.size=4:=by rw[hz];rfl
 rw[<-hz]at H0 |-;clear hz
 go_loopw [8] (fun i wr=>∃k:Nat,k<=16/\i=vI iJ k/\Hid (WdSt w 43 44 z f (iH f k) wr)) (fun i _=>16-(intOf i).toNat)
 case atStart=>exact⟨0,zO,rfl,H0⟩
 case round=>
  obtain⟨k,hk,rfl,hs⟩:=hrel;clear H0;by_cases hlt:k<16
  ·have k1:(0:Int)<=k:=zO;have k2:(k:Int)<16:=zO;have hat:∀w:World,(Instr.index 43 (.agg (aA 16 (blk f))) (vI iJ k)).run zP w=.ok (vI iJ (f k)) w:=fun w=>aZ underlying43 underlying2 (fun _=>zK) f k hlt w;have hsu:=lX f k;obtain⟨m,hm⟩:=zF (k/4);have HB:=zH (fun w=>kZ k m w hlt hm);rw[hm]at hsu;have m0:(0:Int)<=m:=zO;have m1:(m:Int)<4:=zO;have m2:m<4:=zO;clear hm;obtain⟨c1,c2⟩:=hs.o.cell m m2;have HD:=zH (hs.o.drew.cell m m2);obtain⟨v0,v1⟩:=HF.o k;have HC:=zH (fun w=>uS (f k) w v0 v1);have h1:=hs.o.drew.set m m2 (max (iH f k m) (eS (f k)));rw[hsu]at h1;have H1:=zH h1;obtain⟨x0,x1⟩:=FT f k m;obtain⟨y0,y1⟩:=qS (f k);clear hsu HF h1 hs v0 v1;generalize eS (f k)=y at *;generalize iH f k m=x at *;generalize f k=v at *
   go_wp2_with fail
   refine(HB.o _).mono ?_;rintro e w2 ⟨rfl,rfl⟩
   go_wp2_with fail
   go_still_tail 8,zK
   repeat still_step
   still_call ((HC.o _).mono fun _ _ hh=>⟨hh.1,hh.2.symm⟩)
   repeat still_step
   refine wpStill_nil ?_;change wpList _ _ _ _ _ wr.drew;obtain⟨d1,d2⟩:=HD.o
   go_wp2_with fail
   all_goals
    go_roundw
    case rel=>exact⟨k+1,zO,by go_num,H1⟩
    case measure=>exact zM
  ·obtain rfl:k=16:=zO;have Hg:Hid (wr.heap[w.heap.size+1+1]?=some (.cells (aA 4 (blk (fR f))) 44 (0,0))):=zH hs.o.g;have Hr:=zH hs.o.r;have Hd:=zH (hs.o.row (aA 4 (blk (fR f))));have H1:Hid ((aA 4 (blk (fR f))).all (·.oneCell')=true):=zH (bN _ _);clear hs HF;have hsz:=aB 4 (blk (fR f))
   go_wp2_with (first | (with_reducible refine wpList_load_row rfl 44 _ rfl (w.heap.size+1+1) rfl 44 (aA 4 (blk (fR f))) (0,0) _ Hg.o underlying44 rfl (by rw[hsz];exact Hw4.o) ?_) | (with_reducible refine wpList_store_row rfl 44 _ _ rfl (w.heap.size+1) (aA 4 (blk (fR f))) rfl rfl 44 _ Hr.o (by rw[hsz];exact Hw4.o) (by rw[hsz];exact hzs) H1.o ?_))
   exact bodyPost_ret (results_cell_row rfl _ _ (w.heap.size+1) 44 (aA 4 (blk (fR f))) (0,0) _ rfl Hd.o.1 underlying44 rfl (by rw[hsz];exact Hw4.o)) rfl ⟨rfl,Hd.o.2⟩
end Go.Proofs.YticpdokbiblpoaaGreatDoor
