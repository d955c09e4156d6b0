/- Texts joined: CrcTab, CrcSum. -/
import Derived.Laws.Rows
import Derived.Deep.WholeRow
import Derived.StillTailTactics
import Derived.RegionTactic
import Derived.BigRegion
import Derived.Test.YticpdokbiblpoaaGreatDoorPkAQ
import Derived.Test.YticpdokbiblpoaaGreatDoorTk
set_option linter.unusedVariables false
set_option maxHeartbeats 1000000
namespace Go.Proofs.YticpdokbiblpoaaGreatDoor.Crc
open Go.Proofs.Tryz
open Go.Proofs.Tryz renaming prog → zP
open Go.Value renaming int → vI
open Go.IntKind renaming i64 → iJ
open Go.Ending renaming returned → rJ
set_option maxRecDepth 100000
open Go.RowKit
def row(f:Nat->Nat):Array Value:=((List.range 256).map fun k=>Value.int .u32 (f k:Nat)).toArray
def upd(f:Nat->Nat)(j v:Nat):Nat->Nat:=fun k=>if k=j then v else f k
theorem fP(f:Nat->Nat):(row f).size=256:=by simp[row]
theorem BO(f:Nat->Nat)(k:Nat)(h:k<256):(row f)[k]?=some (.int .u32 (f k:Nat)):=by simp[row,h]
theorem XE(f:Nat->Nat):(row f).all (·.oneCell')=true:=by simp[row,Value.oneCell']
theorem aGz(f:Nat->Nat)(j v:Nat)(hj:j<256):(row f).setIfInBounds j (.int .u32 (v:Nat))=row (upd f j v):=by
 apply Array.ext_getElem?;intro i;rw[Array.getElem?_setIfInBounds];by_cases hi:i<256
 ·rw[BO _ i hi,fP];by_cases h:j=i
  ·subst h;rw[if_pos rfl,if_pos hj,BO _ _ hi];simp[upd]
  ·rw[if_neg h,BO _ i hi];simp[upd,show ¬i=j from fun e=>h e.symm]
 ·have h1:(row (upd f j v))[i]?=none:=by rw[Array.getElem?_eq_none (by rw[fP];omega)]
  have h2:(row f)[i]?=none:=by rw[Array.getElem?_eq_none (by rw[fP];omega)]
  rw[h1,h2,fP,if_neg zO]
theorem aEU(f g:Nat->Nat)(h:∀k,k<256->f k=g k):row f=row g:=by
 unfold row;congr 1;apply List.map_congr_left;intro k hk;rw[h k (List.mem_range.1 hk)]
def fA:Nat->Nat->Nat
 | 0=>fun _=>0
 | n+1=>upd (fA n) (2 ^ n) (bQ (2 ^ n))
def fB:Nat->Nat->Nat
 | 0=>fA 8
 | n+1=>upd (fB n) n (bQ n)
theorem BR:∀n k,fB n k=if k<n then bQ k else fA 8 k
 | 0,k=>by simp[fB]
 | n+1,k=>by
  show upd (fB n) n (bQ n) k=_;unfold upd;by_cases h:k=n
  ·subst h;simp
  ·rw[if_neg h,BR n k];by_cases h2:k<n
   ·rw[if_pos h2,if_pos zO]
   ·rw[if_neg h2,if_neg zO]
def low(b:Nat):Nat:=b &&& (256-b)
theorem aFa:(List.range 256).all (fun b=>decide (bits .and .i64 (b:Int) (-(b:Int))=(low b:Nat)))=true:=by decide +kernel
theorem aBQ:(List.range 256).all (fun b=>decide (low b<256) && decide (b ^^^ low b<256) && decide (low b ^^^ (b ^^^ low b)=b) && (decide (low b<b) && decide (b ^^^ low b<b) || decide (b=0/\low b=0) || decide (low b=b) && decide (b ^^^ low b=0) && decide (0<b) && decide (fA 8 b=bQ b)))=true:=by decide +kernel
theorem aFT(b:Nat)(hb:b<256):bits .and .i64 (b:Int) (-(b:Int))=(low b:Nat)/\low b<256/\b ^^^ low b<256/\fB b (low b) ^^^ fB b (b ^^^ low b)=bQ b:=by
 have h1:=List.all_eq_true.1 aFa b (List.mem_range.2 hb);have h2:=List.all_eq_true.1 aBQ b (List.mem_range.2 hb);simp only[Bool.and_eq_true,Bool.or_eq_true,decide_eq_true_eq]at h1 h2;obtain⟨⟨⟨h3,h4⟩,h5⟩,h6⟩:=h2;refine⟨h1,h3,h4,?_⟩;rcases h6 with (⟨h7,h8⟩ | ⟨rfl,h8⟩) | ⟨⟨⟨h7,h8⟩,h9⟩,h10⟩
 ·rw[BR,BR,if_pos h7,if_pos h8];unfold bQ;rw[<-uJ,h5]
 ·rw[h8];decide +kernel
 ·rw[h8,h7,BR,BR,if_neg zO,if_pos h9,h10];have:bQ 0=0:=by decide +kernel
  rw[this,Nat.xor_zero]
theorem aGl(a b:Nat)(ha:a<256)(hb:b<256):bits .xor .i64 (a:Int) (b:Int)=((a ^^^ b:Nat):Int):=by
 have hx:a ^^^ b<2 ^ 8:=Nat.xor_lt_two_pow (n:=8) ha hb;have ea:(BitVec.ofInt 64 (a:Int)).toNat=a:=by rw[BitVec.ofInt_natCast,BitVec.toNat_ofNat];exact Nat.mod_eq_of_lt zO
 have eb:(BitVec.ofInt 64 (b:Int)).toNat=b:=by rw[BitVec.ofInt_natCast,BitVec.toNat_ofNat];exact Nat.mod_eq_of_lt zO
 show IntKind.i64.wrap ((BitVec.ofInt 64 (a:Int) ^^^ BitVec.ofInt 64 (b:Int)).toNat:Int)=_;rw[BitVec.toNat_xor,ea,eb];exact IntWalk.i64_in _ zO
theorem Tryz.array:zP.underlying 249=some (.array 256 140):=underlying249
theorem Tryz.zero:(∀w,(zeroValue 249).run zP w=.ok (.agg (row fun _=>0)) w)/\(zP.info? 249).map (·.size)=some 256:=zero_of_info zK
structure Tb(w:World)(f:Nat->Nat)(wr:World):Prop where
 blk:wr.heap[w.heap.size+1]?=some (.cells (row f) 249 (0,0))
 res:wr.heap[w.heap.size]?=some (.cells (row fun _=>0) 249 (0,0))
 old:Old w wr
theorem Tb.start(w:World):Tb w (fA 0) ((w.alloc (.cells (row fun _=>0) 249)).alloc (.cells (row fun _=>0) 249)):=
 ⟨heap_alloc2_new w _ _,heap_alloc2_old w _ _,(Old.alloc _ _).alloc' _⟩
theorem Tb.set{w wr:World}{f:Nat->Nat}(h:Tb w f wr)(j v:Nat)(hj:j<256):Tb w (upd f j v) (wr.setCell ⟨w.heap.size+1,j,none⟩ (.int .u32 (v:Nat))):=by
 refine⟨?_,?_,h.old.after (Kept.setCell (X:=fun k=>k<w.heap.size) _ (a:=⟨w.heap.size+1,j,none⟩) zS _) fun _ hk=>hk⟩
 ·rw[<-aGz f j v hj];exact heap_setCell_same _ _ _ _ _ _ h.blk
 ·rw[heap_setCell_other _ _ _ _ zS];exact h.res
theorem Tb.drew{w wr:World}{f:Nat->Nat}(h:Tb w f wr):Tb w f wr.drew:=⟨h.blk,h.res,h.old.drew⟩
theorem Tb.cell{w wr:World}{f:Nat->Nat}(h:Tb w f wr)(j:Nat)(hj:j<256):wr.cell? ⟨w.heap.size+1,j,none⟩=some (.int .u32 (f j:Nat))/\wr.frozen? ⟨w.heap.size+1,j,none⟩=false:=
 ⟨(cell_of_row _ _ _ _ _ _ h.blk).trans (BO f j hj),frozen_of_row _ _ _ _ _ h.blk⟩
theorem YT(w:World):
  Calls zP 147 #[] w fun e w'=>e=rJ (.agg (row bQ))/\Old w w':=by
 have hz:=Tryz.zero.1;have hst:=zH (Tb.start w);go_enter func147,ntmps147;go_wp2;clear hz
 go_loopw [5] (fun i wr=>∃k:Nat,k<=8/\i=vI iJ k/\Hid (Tb w (fA k) wr)) (fun i _=>8-(intOf i).toNat)
 case atStart=>exact⟨0,zO,rfl,hst⟩
 case round=>
  obtain⟨k,hk,rfl,ht⟩:=hrel;by_cases hlt:k<8
  ·rcases(show k=0\/k=1\/k=2\/k=3\/k=4\/k=5\/k=6\/k=7 by omega) with rfl | rfl | rfl | rfl | rfl | rfl | rfl | rfl
   ·have hp:∀W:World,Calls zP 195 #[.int .u32 1] W fun e w'=>e=rJ (.int .u32 (bQ 1:Nat))/\W=w':=fun W=>kG 1 W zO;have hp':=zH hp;have hnx:Hid (Tb w (fA 1) (wr.drew.setCell ⟨w.heap.size+1,1,none⟩ (.int .u32 (bQ 1:Nat)))):=ht.o.drew.set 1 (bQ 1) zO;obtain⟨hc,hf⟩:=ht.o.drew.cell 1 zO;have y1:IntKind.u32.wrap 1=1:=IntWalk.u32_in _ zO;have y2:IntKind.i64.wrap 1=1:=IntWalk.i64_in _ zO;clear hp
    go_wp2_with fail
    go_still_tail 6,zK
    still_call ((hp'.o _).mono fun _ _ hh=>⟨hh.1,hh.2.symm⟩)
    repeat still_step
    refine wpStill_nil ?_;change wpList _ _ _ _ _ wr.drew;go_wp2;go_roundw
    case rel=>exact⟨1,zO,rfl,hnx⟩
    case measure=>simp[intOf]
   ·have hp:∀W:World,Calls zP 195 #[.int .u32 2] W fun e w'=>e=rJ (.int .u32 (bQ 2:Nat))/\W=w':=fun W=>kG 2 W zO;have hp':=zH hp;have hnx:Hid (Tb w (fA 2) (wr.drew.setCell ⟨w.heap.size+1,2,none⟩ (.int .u32 (bQ 2:Nat)))):=ht.o.drew.set 2 (bQ 2) zO;obtain⟨hc,hf⟩:=ht.o.drew.cell 2 zO;have y1:IntKind.u32.wrap 2=2:=IntWalk.u32_in _ zO;have y2:IntKind.i64.wrap 2=2:=IntWalk.i64_in _ zO;clear hp
    go_wp2_with fail
    go_still_tail 6,zK
    still_call ((hp'.o _).mono fun _ _ hh=>⟨hh.1,hh.2.symm⟩)
    repeat still_step
    refine wpStill_nil ?_;change wpList _ _ _ _ _ wr.drew;go_wp2;go_roundw
    case rel=>exact⟨2,zO,rfl,hnx⟩
    case measure=>simp[intOf]
   ·have hp:∀W:World,Calls zP 195 #[.int .u32 4] W fun e w'=>e=rJ (.int .u32 (bQ 4:Nat))/\W=w':=fun W=>kG 4 W zO;have hp':=zH hp;have hnx:Hid (Tb w (fA 3) (wr.drew.setCell ⟨w.heap.size+1,4,none⟩ (.int .u32 (bQ 4:Nat)))):=ht.o.drew.set 4 (bQ 4) zO;obtain⟨hc,hf⟩:=ht.o.drew.cell 4 zO;have y1:IntKind.u32.wrap 4=4:=IntWalk.u32_in _ zO;have y2:IntKind.i64.wrap 4=4:=IntWalk.i64_in _ zO;clear hp
    go_wp2_with fail
    go_still_tail 6,zK
    still_call ((hp'.o _).mono fun _ _ hh=>⟨hh.1,hh.2.symm⟩)
    repeat still_step
    refine wpStill_nil ?_;change wpList _ _ _ _ _ wr.drew;go_wp2;go_roundw
    case rel=>exact⟨3,zO,rfl,hnx⟩
    case measure=>simp[intOf]
   ·have hp:∀W:World,Calls zP 195 #[.int .u32 8] W fun e w'=>e=rJ (.int .u32 (bQ 8:Nat))/\W=w':=fun W=>kG 8 W zO;have hp':=zH hp;have hnx:Hid (Tb w (fA 4) (wr.drew.setCell ⟨w.heap.size+1,8,none⟩ (.int .u32 (bQ 8:Nat)))):=ht.o.drew.set 8 (bQ 8) zO;obtain⟨hc,hf⟩:=ht.o.drew.cell 8 zO;have y1:IntKind.u32.wrap 8=8:=IntWalk.u32_in _ zO;have y2:IntKind.i64.wrap 8=8:=IntWalk.i64_in _ zO;clear hp
    go_wp2_with fail
    go_still_tail 6,zK
    still_call ((hp'.o _).mono fun _ _ hh=>⟨hh.1,hh.2.symm⟩)
    repeat still_step
    refine wpStill_nil ?_;change wpList _ _ _ _ _ wr.drew;go_wp2;go_roundw
    case rel=>exact⟨4,zO,rfl,hnx⟩
    case measure=>simp[intOf]
   ·have hp:∀W:World,Calls zP 195 #[.int .u32 16] W fun e w'=>e=rJ (.int .u32 (bQ 16:Nat))/\W=w':=fun W=>kG 16 W zO;have hp':=zH hp;have hnx:Hid (Tb w (fA 5) (wr.drew.setCell ⟨w.heap.size+1,16,none⟩ (.int .u32 (bQ 16:Nat)))):=ht.o.drew.set 16 (bQ 16) zO;obtain⟨hc,hf⟩:=ht.o.drew.cell 16 zO;have y1:IntKind.u32.wrap 16=16:=IntWalk.u32_in _ zO;have y2:IntKind.i64.wrap 16=16:=IntWalk.i64_in _ zO;clear hp
    go_wp2_with fail
    go_still_tail 6,zK
    still_call ((hp'.o _).mono fun _ _ hh=>⟨hh.1,hh.2.symm⟩)
    repeat still_step
    refine wpStill_nil ?_;change wpList _ _ _ _ _ wr.drew;go_wp2;go_roundw
    case rel=>exact⟨5,zO,rfl,hnx⟩
    case measure=>simp[intOf]
   ·have hp:∀W:World,Calls zP 195 #[.int .u32 32] W fun e w'=>e=rJ (.int .u32 (bQ 32:Nat))/\W=w':=fun W=>kG 32 W zO;have hp':=zH hp;have hnx:Hid (Tb w (fA 6) (wr.drew.setCell ⟨w.heap.size+1,32,none⟩ (.int .u32 (bQ 32:Nat)))):=ht.o.drew.set 32 (bQ 32) zO;obtain⟨hc,hf⟩:=ht.o.drew.cell 32 zO;have y1:IntKind.u32.wrap 32=32:=IntWalk.u32_in _ zO;have y2:IntKind.i64.wrap 32=32:=IntWalk.i64_in _ zO;clear hp
    go_wp2_with fail
    go_still_tail 6,zK
    still_call ((hp'.o _).mono fun _ _ hh=>⟨hh.1,hh.2.symm⟩)
    repeat still_step
    refine wpStill_nil ?_;change wpList _ _ _ _ _ wr.drew;go_wp2;go_roundw
    case rel=>exact⟨6,zO,rfl,hnx⟩
    case measure=>simp[intOf]
   ·have hp:∀W:World,Calls zP 195 #[.int .u32 64] W fun e w'=>e=rJ (.int .u32 (bQ 64:Nat))/\W=w':=fun W=>kG 64 W zO;have hp':=zH hp;have hnx:Hid (Tb w (fA 7) (wr.drew.setCell ⟨w.heap.size+1,64,none⟩ (.int .u32 (bQ 64:Nat)))):=ht.o.drew.set 64 (bQ 64) zO;obtain⟨hc,hf⟩:=ht.o.drew.cell 64 zO;have y1:IntKind.u32.wrap 64=64:=IntWalk.u32_in _ zO;have y2:IntKind.i64.wrap 64=64:=IntWalk.i64_in _ zO;clear hp
    go_wp2_with fail
    go_still_tail 6,zK
    still_call ((hp'.o _).mono fun _ _ hh=>⟨hh.1,hh.2.symm⟩)
    repeat still_step
    refine wpStill_nil ?_;change wpList _ _ _ _ _ wr.drew;go_wp2;go_roundw
    case rel=>exact⟨7,zO,rfl,hnx⟩
    case measure=>simp[intOf]
   ·have hp:∀W:World,Calls zP 195 #[.int .u32 128] W fun e w'=>e=rJ (.int .u32 (bQ 128:Nat))/\W=w':=fun W=>kG 128 W zO;have hp':=zH hp;have hnx:Hid (Tb w (fA 8) (wr.drew.setCell ⟨w.heap.size+1,128,none⟩ (.int .u32 (bQ 128:Nat)))):=ht.o.drew.set 128 (bQ 128) zO;obtain⟨hc,hf⟩:=ht.o.drew.cell 128 zO;have y1:IntKind.u32.wrap 128=128:=IntWalk.u32_in _ zO;have y2:IntKind.i64.wrap 128=128:=IntWalk.i64_in _ zO;clear hp
    go_wp2_with fail
    go_still_tail 6,zK
    still_call ((hp'.o _).mono fun _ _ hh=>⟨hh.1,hh.2.symm⟩)
    repeat still_step
    refine wpStill_nil ?_;change wpList _ _ _ _ _ wr.drew;go_wp2;go_roundw
    case rel=>exact⟨8,zO,rfl,hnx⟩
    case measure=>simp[intOf]
  ·have hst2:Hid (Tb w (fB 0) wr):=by
    have h8:k=8:=zO;rw[h8]at ht;exact ht
   obtain⟨wo,rfl⟩:∃wo:World,wo=wr:=⟨_,rfl⟩
   clear ht hst;go_wp2
   go_loopw [15] (fun i wr=>∃b:Nat,b<=256/\i=vI iJ b/\Hid (Tb w (fB b) wr)) (fun i _=>256-(intOf i).toNat)
   case atStart=>exact⟨0,zO,rfl,hst2⟩
   case round=>
    obtain⟨b,hb,rfl,ht⟩:=hrel;clear hst2;by_cases hlt:b<256
    ·obtain⟨z1,z2,z3,z4⟩:=aFT b hlt;have hnx:=zH (ht.o.drew.set b (bQ b) hlt);have z5:=aGl b (low b) hlt z2;obtain⟨c1,_⟩:=ht.o.drew.cell (low b) z2;obtain⟨c2,_⟩:=ht.o.drew.cell (b ^^^ low b) z3;obtain⟨c3,f3⟩:=ht.o.drew.cell b hlt;have z6:bits .xor .u32 (fB b (low b):Int) (fB b (b ^^^ low b):Int)=(bQ b:Nat):=by
      rw[<-z4];have fb:∀k,k<256->fB b k<4294967296:=by
       intro k hk;rw[BR];split
       ·exact JA zO
       ·exact Nat.lt_of_lt_of_le (List.all_eq_true.1 (show (List.range 256).all (fun k=>decide (fA 8 k<4294967296))=true by decide +kernel) k (List.mem_range.2 hk) |> of_decide_eq_true) (Nat.le_refl _)
      exact IK _ _ (fb _ z2) (fb _ z3)
     generalize low b=l at *;generalize b ^^^ l=m at *;generalize fB b l=p at *;generalize fB b m=q at *;clear z4
     go_wp2_with fail
     have i1:(l:Int)<256:=zO;have i2:0<=(l:Int):=zO;have i3:(m:Int)<256:=zO;have i4:0<=(m:Int):=zO;have i5:(b:Int)<256:=zO;have i6:0<=(b:Int):=zO
     go_still_tail 11,zK
     repeat still_step
     change wpList _ _ _ _ _ wr.drew;go_wp2;go_roundw
     case rel=>exact⟨b+1,zO,by go_num,hnx⟩
     case measure=>exact zM
    ·obtain rfl:b=256:=zO;have hrow:row (fB 256)=row bQ:=aEU _ _ fun k hk=>by rw[BR,if_pos hk]
     have hblk:=ht.o.blk;have hres:=ht.o.res;rw[hrow]at hblk;have hfin:Hid (Old w (wr.setRow w.heap.size (row bQ))/\(wr.setRow w.heap.size (row bQ)).heap[w.heap.size]?=some (.cells (row bQ) 249 (0,0))):=by
      refine⟨ht.o.old.after (X:=fun k=>k<w.heap.size) ⟨rfl,rfl,zS,fun k hk=>setRow_other _ _ _ _ zO⟩ fun _ h=>h,setRow_heap _ _ _ _ _ _ hres⟩
     have hsz:=Tryz.zero.2;have Hb:=zH hblk;have Hr:=zH hres;have Hz:=zH hsz;clear hblk hres hrow hsz
     go_wp2_with (first | (with_reducible refine wpList_load_row rfl 249 _ rfl (w.heap.size+1) rfl 249 (row bQ) (0,0) _ Hb.o Tryz.array rfl (by rw[fP];exact Hz.o) ?_) | (with_reducible refine wpList_store_row rfl 249 _ _ rfl w.heap.size (row bQ) rfl rfl 249 _ Hr.o (by rw[fP];exact Hz.o) (by rw[fP,fP]) (XE _) ?_))
     refine bodyPost_ret (results_cell_row rfl _ _ w.heap.size 249 (row bQ) (0,0) _ rfl hfin.o.2 Tryz.array rfl (by rw[fP];exact Hz.o)) rfl ⟨rfl,hfin.o.1⟩
end Go.Proofs.YticpdokbiblpoaaGreatDoor.Crc
namespace Go.Proofs.YticpdokbiblpoaaGreatDoor.Crc
open Go.Proofs.Tryz
open Go.Proofs.Tryz renaming prog → zP
open Go.Value renaming int → vI
open Go.IntKind renaming i64 → iJ
open Go.Ending renaming returned → rJ
set_option maxRecDepth 100000
open Go.RowKit
theorem aAx{xs:List Int}(hb:∀x∈xs,0<=x/\x<=255)(k:Nat):0<=xs.getD k 0/\xs.getD k 0<=255:=by
 rw[List.getD_eq_getElem?_getD];by_cases h:k<xs.length
 ·rw[List.getElem?_eq_getElem h];exact hb _ (List.getElem_mem h)
 ·rw[List.getElem?_eq_none zO];simp
theorem aAK{xs:List Int}(hb:∀x∈xs,0<=x/\x<=255)(k:Nat):∀x∈xs.take k,0<=x/\x<=255:=fun x hx=>hb x (List.mem_of_mem_take hx)
theorem WR(a:Nat)(ha:a<4294967296):bits .xor .u32 IntKind.u32.max (a:Int)=4294967295-(a:Int):=by
 have ea:(BitVec.ofInt 32 (a:Int)).toNat=a:=by rw[BitVec.ofInt_natCast,BitVec.toNat_ofNat];exact Nat.mod_eq_of_lt ha
 have e:BitVec.ofInt 32 IntKind.u32.max=BitVec.allOnes 32:=zD;show IntKind.u32.wrap ((BitVec.ofInt 32 IntKind.u32.max ^^^ BitVec.ofInt 32 (a:Int)).toNat:Int)=_;rw[e,BitVec.allOnes_xor,BitVec.toNat_not,ea,IntKind.wrap_u32];omega
theorem aCt(a:Nat)(ha:a<4294967296):bits .xor .u32 IntKind.u32.max (4294967295-(a:Int))=a:=by
 have h:=WR (4294967295-a) zO;rw[show ((4294967295-a:Nat):Int)=4294967295-(a:Int) by omega]at h;rw[h];omega
theorem aBq(g r:Nat)(p:Option Addr)(n cap:Nat)(xs:List Int)(w:World)(hr:r<4294967296)(hT:w.heap[g]?=some (.cells (row bQ) 249 (0,0)))(hs:kK w .u8 (.slice p n cap) xs)(hb:∀x∈xs,0<=x/\x<=255)(hn:n<=9223372036854775807):
  Calls zP 148 #[.pointer (some ⟨g,0,none⟩),.int .u32 (4294967295-(r:Int)),.slice p n cap] w fun e w'=>e=rJ (.int .u32 (4294967295-(ES r xs:Int)))/\w=w':=by
 obtain⟨hl,hcell⟩:=hs.cellAt;have HT:=zH hT;have HC:=zH hcell;clear hT hcell hs;have hnc:=aCt r hr;go_enter func148,ntmps148;go_wp2;clear hnc
 go_loop [7,14] (fun t i=>∃k:Nat,k<=n/\i=vI iJ k/\t=.int .u32 (ES r (xs.take k):Nat)) (fun _ i=>n-(intOf i).toNat)
 case atStart=>exact⟨0,zO,rfl,rfl⟩
 case round=>
  obtain⟨k,hk,rfl,rfl⟩:=hrel;have hlt2:=reg_lt hr _ (aAK hb k);have hx:=aAx hb k;have hts:Hid (k<n->ES r (xs.take (k+1))=bQ (ES r (xs.take k) ^^^ (xs.getD k 0).toNat)):=fun h=>by
   rw[lH xs k zO,aBx]
  by_cases hlt:k<n
  ·obtain⟨b,off,rfl,_,hnc,hcm,hc⟩:=HC.o zO;have hc1:=hc k hlt;have hnx:=hts.o hlt;clear hc hts HC;obtain⟨x,hxk⟩:=zG (xs.getD k 0);obtain⟨R,hR⟩:=zG (ES r (xs.take k));rw[<-hxk]at hc1 hx hnx;rw[<-hR]at hnx hlt2 |-;clear hxk hR;obtain⟨v,rfl⟩:=Int.eq_ofNat_of_zero_le hx.1;rw[Int.toNat_natCast,VF R v zO]at hnx;have hm:(R%256) ^^^ v<256:=Nat.xor_lt_two_pow (n:=8) zO zO;have e1:bits .xor .u8 ((R:Int)%256) (v:Int)=(((R%256) ^^^ v:Nat):Int):=by
    have:=aHc (R%256) v zO zO
    rwa [Int.natCast_emod]at this
   have e2:bits .xor .u32 ((R:Int)/256) (bQ ((R%256) ^^^ v):Nat)=(((R/256) ^^^ bQ ((R%256) ^^^ v):Nat):Int):=by
    have:=IK (R/256) (bQ ((R%256) ^^^ v)) zO (JA zO)
    rwa [Int.natCast_ediv]at this
   obtain⟨m,hmv⟩:=zG ((R%256) ^^^ v);rw[<-hmv]at hm e1 e2 hnx;rw[<-hnx]at e2;have e3:w.cell? ⟨g,m,none⟩=some (.int .u32 (bQ m:Nat)):=(cell_of_row _ _ _ _ _ _ HT.o).trans (BO bQ m hm);have Hn:=zH hnx;clear hnx hmv;have i1:(m:Int)<256:=zO;have i2:0<=(m:Int):=zO;go_wp2;go_round
   case rel=>exact⟨k+1,zO,by go_num,by rw[Hn.o]⟩
   case measure=>exact zM
  ·have hend:ES r (xs.take k)=ES r xs:=by rw[List.take_of_length_le zO]
   rw[hend]at hlt2 |-;have hnn:=WR _ hlt2;clear hend HC hts;obtain⟨R,hR⟩:=zG (ES r xs);have HR:=zH hR;rw[<-hR]at hnn hlt2 |-;clear hR;go_wp2;go_ret;exact⟨by rw[<-HR.o];rfl,rfl⟩
def CH(xss:List (List Int)):Prop:=∀xs∈xss,∀x∈xs,0<=x/\x<=255
theorem CH.getD{xss:List (List Int)}(h:CH xss)(i:Nat):∀x∈xss.getD i [],0<=x/\x<=255:=by
 rw[List.getD_eq_getElem?_getD];by_cases hi:i<xss.length
 ·rw[List.getElem?_eq_getElem hi];exact h _ (List.getElem_mem hi)
 ·rw[List.getElem?_eq_none zO];simp
theorem yW(xss:List (List Int))(k:Nat)(h:k<xss.length):(xss.take (k+1)).flatten=(xss.take k).flatten ++ xss.getD k []:=by
 rw[List.take_succ_eq_append_getElem h,List.flatten_append,List.flatten_singleton];simp[List.getD,h]
theorem CH.flat{xss:List (List Int)}(h:CH xss)(k:Nat):∀x∈(xss.take k).flatten,0<=x/\x<=255:=by
 intro x hx;obtain⟨l,hl,hx⟩:=List.mem_flatten.1 hx;exact h l (List.mem_of_mem_take hl) x hx
theorem aAG(v:Value)(xss:List (List Int))(w:World)(hs:SlR w v xss)(hb:CH xss):
  Calls zP 105 #[v] w fun e w'=>e=rJ (.int .u32 (sumOf xss.flatten))/\Old w w':=by
 obtain⟨p,n,cap,rfl,hl,hn,_⟩:=hs.shape;have HS:=zH hs;clear hs;unfold sumOf;go_enter func105,ntmps105
 go_wp2_with fail
 refine(YT w).mono ?_;rintro e w1 ⟨rfl,ho1⟩;have hT:Hid ((w1.alloc (.cells (row bQ) 249)).heap[w1.heap.size]?=some (.cells (row bQ) 249 (0,0))):=heap_alloc_new _ _;have HO:Hid (Old w (w1.alloc (.cells (row bQ) 249))):=ho1.alloc' _;have hs2:=HS.o.old HO.o;obtain⟨p2,n2,cap2,he2,_,_,hc2⟩:=hs2.shape;simp only[Value.slice.injEq]at he2;obtain⟨rfl,rfl,rfl⟩:=he2;have HC:=zH hc2;have Hz:=zH Tryz.zero.2;have Hr:=zH (heap_alloc_new w1 (.cells (row fun _=>0) 249));have hz:=Tryz.zero.1;clear ho1 hs2 HS hc2
 go_wp2_with (with_reducible refine wpList_store_row rfl 249 _ _ rfl w1.heap.size (row bQ) rfl rfl 249 _ Hr.o (by rw[fP];exact Hz.o) (by rw[fP,fP]) (XE _) ?_;rw[World.setRow_alloc_new];clear hz)
 clear Hr Hz;generalize w1.alloc (.cells (row bQ) 249)=w2 at *
 go_loop [4,10] (fun t i=>∃k:Nat,k<=n/\i=vI iJ k/\t=.int .u32 (4294967295-(ES 4294967295 (xss.take k).flatten:Int))) (fun _ i=>n-(intOf i).toNat)
 case atStart=>exact⟨0,zO,rfl,rfl⟩
 case round=>
  obtain⟨k,hk,rfl,rfl⟩:=hrel;have hlt2:=reg_lt (r:=4294967295) zO _ (hb.flat k);have hts:Hid (k<n->ES 4294967295 (xss.take (k+1)).flatten=ES (ES 4294967295 (xss.take k).flatten) (xss.getD k [])):=fun h=>by
   rw[yW xss k zO,QG]
  by_cases hlt:k<n
  ·obtain⟨b,off,rfl,_,hc⟩:=HC.o zO;obtain⟨q,m,c,hc1,hsi,hm⟩:=hc k hlt;have hgo:=zH (aBq w1.heap.size _ q m c _ w2 hlt2 hT.o hsi (hb.getD k) zO);have hnx:=hts.o hlt;rw[<-hnx]at hgo;clear hc hts HC hsi hnx hlt2
   go_wp2_with fail
   refine hgo.o.mono ?_;rintro e w' ⟨rfl,rfl⟩;go_wp2;go_round
   case rel=>exact⟨k+1,zO,by go_num,rfl⟩
   case measure=>exact zM
  ·have hend:Hid (xss.take k=xss):=by unfold Hid;rw[List.take_of_length_le zO]
   clear HC hts;go_wp2;go_ret;exact⟨by rw[hend.o];rfl,HO.o⟩
theorem Sum_any(v:Value)(xs:List Int)(w:World)(hs:kK w .u8 v xs)(hb:∀x∈xs,0<=x/\x<=255):
  Calls zP 57 #[v] w fun e w'=>e=rJ (.int .u32 (sumOf xs))/\Old w w':=by
 have ho:Old w (w.alloc (.cells #[v] 34)):=Old.alloc _ _;have hr:SlR (w.alloc (.cells #[v] 34)) (.slice (some ⟨w.heap.size,0,none⟩) 1 1) [xs]:=by
  refine⟨[v],⟨some ⟨w.heap.size,0,none⟩,1,rfl,fun _=>⟨w.heap.size,0,rfl,zS,Nat.le_refl _,by unfold maxLen;simp,fun i u hi=>?_⟩⟩,rfl,fun i u hi=>?_⟩
  ·match i,hi with
   | 0,hi=>
    simp only[List.getElem?_cons_zero,Option.some.injEq]at hi;subst hi;rw[World.cell?_alloc_at _ _ _ _ rfl];rfl
   | i+1,hi=>simp at hi
  ·match i,hi with
   | 0,hi=>
    simp only[List.getElem?_cons_zero,Option.some.injEq]at hi;subst hi;exact hs.old ho
   | i+1,hi=>simp at hi
 have hp:=zH (aAG _ _ _ hr (fun l hl=>by simp at hl;subst hl;exact hb));have HO:=zH ho;clear hr ho;obtain⟨p,n,cap,rfl,hl,hn⟩:=hs.shape;clear hs hl;go_enter func57,ntmps57
 go_wp2_with fail
 refine hp.o.mono ?_;rintro e w1 ⟨rfl,ho1⟩;have H1:=zH ho1;clear ho1;go_wp2;go_ret;exact⟨zS,HO.o.trans H1.o⟩
end Go.Proofs.YticpdokbiblpoaaGreatDoor.Crc
