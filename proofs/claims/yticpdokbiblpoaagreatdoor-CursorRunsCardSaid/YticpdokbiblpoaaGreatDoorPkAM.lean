/- Texts joined: Range, NetL, NetF, NetG, LapG, LapQ. -/
import Derived.RangeFuncNested
import Derived.RangeFuncBound
import Derived.RangeFuncCalls
import Derived.RangeFuncLeaves
import Derived.RangeFuncBox
import Derived.TacticsInMore
import Derived.OwnWalkIn
import Derived.LoopIn
import Derived.Deep.RegionHeld3
import Derived.Shelf.Abstract
import Derived.Test.YticpdokbiblpoaaGreatDoorPkAB
import Derived.Test.YticpdokbiblpoaaGreatDoorPkAC
import Derived.Test.YticpdokbiblpoaaGreatDoorPkAH
import Derived.Test.YticpdokbiblpoaaGreatDoorTk
set_option linter.unusedVariables false
set_option linter.unusedSimpArgs false
set_option maxHeartbeats 4000000
namespace Go.Proofs.YticpdokbiblpoaaGreatDoor
open Go.Proofs.Tryz
open Go.Proofs.Tryz renaming prog → zP
open Go.Value renaming int → vI
open Go.IntKind renaming i64 → iJ
open Go.Ending renaming returned → rJ
set_option maxRecDepth 100000
open Go.RowKit
theorem MZ{l n:Nat}{P:Program}{f:FuncId}{args:Array Value}{w:World}{R:Ending->World->Prop}(h:Calls P f args w R):CallsIn (Fence.wide.inRound l) n P f args w R:=
 CallsIn.inRound l (callsIn_wide.2 h)
theorem TU{l n:Nat}{P:Program}{row:String}{args:Array Value}{w:World}{R:Value->World->Prop}(h:Rows P row args w R):RowsIn (Fence.wide.inRound l) n P row args w R:=
 fun c cs _=>let ⟨v,w',r,s⟩:=h c cs;⟨v,w',r,(stepsIn_wide (P:=P)).2 s⟩
theorem QZ{l n:Nat}{P:Program}{o:Oper}{a:Act}{w:World}{K K':Act->World->Prop}{Q:Exit->Act->World->Prop}(hd:∀c,o.op≠.defer c)(hno:¬LetsOut Q)
  (hK:∀a w,K a w->K' a w) (h:o.wp P a w K Q):o.wpIn (Fence.wide.inRound l) n P a w K' Q:=by
 refine⟨fun _ _=>trivial,?_⟩;rw[Oper.semAt_eq _ _ _ hd];unfold Oper.wp at h;generalize (execOp a.eval o).run P w=r at *;cases r with
 | ok x w'=>
  cases x <;> simp only[Oper.upon,Oper.uponIn]at h |- <;>
   first
    | exact hK _ _ h
    | exact h.elim
    | exact⟨fun hx=>by simp[Fence.wide]at hx,MZ (Calls.mono h (fun e w'' he=>by cases e <;> first | exact hK _ _ he | exact he))⟩
    | exact⟨fun hx=>by simp[Fence.wide]at hx,TU (Rows.mono h (fun _ _ he=>hK _ _ he))⟩
 | halt x w'=>cases x <;> simp only[Oper.upon,Oper.uponIn]at h |- <;> first | exact h | exact h.elim
theorem qI{l n:Nat}{P:Program}{ops:Array Oper}{Q:Exit->Act->World->Prop}(hd:(ops.all fun o=>match o.op with | .defer _=>false | _=>true)=true)(hno:¬LetsOut Q):
  ∀(is:List Nat) (a:Act) (w:World),wpOps P ops Q is a w->wpOpsIn (Fence.wide.inRound l) n P ops Q is a w
 | [],a,w,h=>h
 | i :: rest,a,w,h=>by
  unfold wpOps at h;unfold wpOpsIn;cases ho:ops[i]? with
  | none=>simp only[ho]at h |-;exact qI hd hno rest a w h
  | some o=>
   simp only[ho]at h |-;have hdo:∀c,o.op≠.defer c:=by
    intro c hc;obtain⟨hi,he⟩:=Array.getElem?_eq_some_iff.1 ho;have:=Array.all_eq_true.1 hd i hi;rw[he,hc]at this;cases this
   split
   ·rename_i hw
    rw[if_pos hw]at h;rcases h with h | ⟨_,h⟩
    ·exact QZ hdo hno (fun a w=>qI hd hno rest a w) h
    ·exact absurd h hno
   ·rename_i hw
    rw[if_neg hw]at h;exact⟨fun _ _=>trivial,qI hd hno rest _ _ h⟩
theorem sV{l n:Nat}{P:Program}{id:Nat}{ops:Array Oper}{Q:Exit->Act->World->Prop}{a:Act}{w:World}{S:World->Prop}(hm:P.follows .mixedOrders=true)
  (hd:(ops.all fun o=>match o.op with | .defer _=>false | _=>true)=true) (hno:¬LetsOut Q) (hS:S w.drew)
  (h:S w.drew->wpAnyH P .any ops Q S ops.size (Array.replicate ops.size false) a w.drew):(Code.region id ops true).wpIn (Fence.wide.inRound l) n P Q a w:=
 wpIn_region_draw fun t=>by
  simp only[Region.schedule,hm,Bool.true_or,if_true];exact qI hd hno _ _ _ (wpAny_sound ops.size t _ a _ (wpAny_of_held _ _ _ _ (h hS)))
theorem _root_.Go.Proofs.YticpdokbiblpoaaGreatDoor.Old.keepsOthers{w w':World}(h:Old w w'):KeepsOthers w w':=⟨h.size,fun k o hk _=>(h.block k (Array.getElem?_eq_some_iff.1 hk).1).trans hk⟩
theorem tR(W:World)(v:Value)(t:TypeId):(W.alloc (.cells #[v] t)).cell? ⟨W.heap.size,0,none⟩=some v:=
 (cell_of_row _ _ _ _ _ _ (World.alloc_heap_new W (.cells #[v] t))).trans rfl
def mark(D:Nat):Deferred:={ target:=.collected D,args:=#[] }
theorem nM{F:Fence}{n:Nat}{P:Program}{fn:Func}{tmps:Array Value}{R:Ending->World->Prop} : ∀(Ds:List Nat) (w:World),Ds.Nodup->(∀D∈Ds,w.heap[D]?=some (.deferred (some []))) ->
  (∀w',Kept (fun k=>k ∉ Ds) w w'->LeavesIn F n P fn tmps R [] .returning w')->LeavesInM F n P fn tmps R (Ds.map mark) .returning w
 | [],w,_,_,h=>h w (Kept.refl _ _)
 | D :: Ds,w,hn,hD,h=>by
  have hD0:=hD D zS;refine⟨zS,.inl ⟨D,_,rfl,run_takeDeferred hD0,?_⟩⟩;have hK:Kept (fun k=>k≠D) w (w.putObj D (.deferred none)):=
   ⟨(grownBy_putObj' w D _).os,(grownBy_putObj' w D _).output,(grownBy_putObj' w D _).size,fun k hk=>World.putObj_heap_other hk⟩
  obtain⟨hn1,hn2⟩:=List.nodup_cons.1 hn;refine nM Ds _ hn2 (fun E hE=>?_) fun w' hw'=>?_
  ·exact(hK.block E (fun e=>hn1 (e ▸ hE))).trans (hD E (by simp[hE]))
  ·exact h w' ((hK.mono fun k hk e=>hk (by simp[e])).trans (hw'.mono fun k hk e=>hk (by simp[e])))
theorem wM{n:Nat}{P:Program}{f:FuncId}{fn:Func}{c:Code}{args:Array Value}{w:World}{R:Ending->World->Prop}(hf:P.funcs[f]?=some fn)(hb:fn.body=some c)
  (h:c.wp P (bodyPostM Fence.wide n P fn R) { tmps:=args ++ Array.replicate (fn.ntmps-args.size) undef,defers:=[] } w):Calls P f args w R:=
 (callsIn_wide (n:=n)).1 (callsIn_of_wp_marks hf hb trivial (wpIn_wide.2 h) rfl)
attribute [local go_sem] Oper.semAt_some
theorem aDd(r k:Nat)(h:k<16):(kN r k).length<16:=by
 have:=List.length_filterMap_le (XJ r) (List.range k);rw[List.length_range]at this;unfold kN;omega
theorem FO(r:Nat)(hr:r<4)(i:Nat)(hi:i<16):bits .and .i64 (i:Int) (apart r:Int)=if i/apart r%2=0 then 0 else(apart r:Int):=by
 revert i;rcases(by omega:r=0\/r=1\/r=2\/r=3) with rfl | rfl | rfl | rfl <;> decide +kernel
theorem aCY(r:Nat)(hr:r<4):1<=apart r/\apart r<=8:=by
 rcases(by omega:r=0\/r=1\/r=2\/r=3) with rfl | rfl | rfl | rfl <;> decide
def JW(ba br:Nat):Value:=.func (.func 163) #[] #[.pointer (some ⟨ba,0,none⟩),.pointer (some ⟨br,0,none⟩)]
theorem IF(r:Nat)(hr:r<4)(w:World):
  Calls zP 125 #[vI iJ r] w fun e w'=>e=rJ (JW (w.heap.size+1) w.heap.size)/\(w.alloc (.cells #[vI iJ r] 3)).alloc (.cells #[vI iJ (apart r)] 3)=w':=by
 rcases(by omega:r=0\/r=1\/r=2\/r=3) with rfl | rfl | rfl | rfl <;>
 ·go_enter func125,ntmps125;go_wp2;go_ret;exact⟨rfl,rfl⟩
theorem NS(n:Nat)(hn:1<=n)(r:Nat)(hr:r<4)(ba br:Nat)(w:World)(ha:w.cell? ⟨ba,0,none⟩=some (vI iJ (apart r)))(hb:w.cell? ⟨br,0,none⟩=some (vI iJ r)):
  SeqStopsK Fence.wide n zP 163 #[.pointer (some ⟨ba,0,none⟩),.pointer (some ⟨br,0,none⟩)] (fun x:dH=>#[x.val])
   (fun W W'=>W'.heap[ba]?=W.heap[ba]?/\W'.heap[br]?=W.heap[br]?) (fun xs=>xs=kN r 16) (fun _=>True) 16 w:=fun l J Jx W hW hJ hJx hY h0=>by
 have ca:W.cell? ⟨ba,0,none⟩=some (vI iJ (apart r)):=((Kept.below hW fun _ hk=>hk).cell (World.block_lt_of_cell? w _ ha)).trans ha;have cb:W.cell? ⟨br,0,none⟩=some (vI iJ r):=((Kept.below hW fun _ hk=>hk).cell (World.block_lt_of_cell? w _ hb)).trans hb;have H:=zH (⟨h0,ca,cb⟩:J [] W/\W.cell? ⟨ba,0,none⟩=some (vI iJ (apart r))/\W.cell? ⟨br,0,none⟩=some (vI iJ r));have HY:=zH hY;clear ha hb hW ca cb hY h0 hJ hJx;obtain⟨p1,p2⟩:=aCY r hr;refine callsIn_of_wp func163 rfl trivial ?_ rfl;simp only[ntmps163,List.size_toArray,List.length_cons,List.length_nil,Nat.reduceAdd,Nat.reduceSub,Array.replicate_succ,Array.replicate_zero,List.push_toArray,List.append_toArray,List.nil_append,List.cons_append]
 gi_wp2
 gi_loopw [5] (fun i wr=>∃k:Nat,i=vI iJ k/\k<=16/\Hid (J (kN r k) wr/\wr.cell? ⟨ba,0,none⟩=some (vI iJ (apart r))/\wr.cell? ⟨br,0,none⟩=some (vI iJ r))) (fun i _=>16-(intOf i).toNat)
 case atStart=>exact⟨0,rfl,zO,H⟩
 case round=>
  obtain⟨k,rfl,hk,hj⟩:=hrel;obtain⟨hj,ca,cb⟩:=hj.o;clear H;by_cases hlt:k<16
  ·have i1:(0:Int)<=k:=zO;have i2:(k:Int)<16:=zO;by_cases hl:k/apart r%2=0
   ·have hin:=aHI r hr k hlt hl;have hand:bits .and .i64 (k:Int) (apart r:Int)=0:=by rw[FO r hr k hlt,if_pos hl]
    have hp:=XU r k hl hin;obtain⟨fn,tmps,assign,body,hy,hR⟩:=HY.o (kN r k) (JP r k hin) wr hj (aDd r k hlt);have e3:(((3*k+5*r)%8:Nat):Int)=(3*(k:Int)+5*(r:Int))%8:=zO;have e:(JP r k hin).val=.agg #[vI iJ k,vI iJ ((k:Int)+(apart r:Int)),vI iJ ((3*(k:Int)+5*(r:Int))%8)]:=by
     show Value.agg #[vI iJ k,vI iJ ((k+apart r:Nat):Int),vI iJ (((3*k+5*r)%8:Nat):Int)]=_;rw[Int.natCast_add,e3]
    rw[e]at hy;have HR:=zH hR;have HP:=zH hp;have r1:(0:Int)<=r:=zO;have r2:(r:Int)<4:=zO;have q1:(1:Int)<=(apart r:Int):=zO;have q2:(apart r:Int)<=8:=zO;clear hR hp hj HY e e3
    gi_wp2
    refine HR.o.mono ?_;rintro e W3 (⟨rfl,hJ3,hk3⟩ | ⟨rfl,hJx3⟩)
    ·have hn3:Hid (J (kN r (k+1)) W3/\W3.cell? ⟨ba,0,none⟩=some (vI iJ (apart r))/\W3.cell? ⟨br,0,none⟩=some (vI iJ r)):=
      ⟨by rw[HP.o];exact hJ3,(World.cell?_of_block (w:=wr) (a:=⟨ba,0,none⟩) hk3.1).trans ca,(World.cell?_of_block (w:=wr) (a:=⟨br,0,none⟩) hk3.2).trans cb⟩
     clear hJ3 hk3
     gi_wp2
     go_roundw
     case rel=>exact⟨k+1,by go_num,zO,hn3⟩
     case measure=>exact zM
    ·have hx3:=zH hJx3;clear hJx3
     gi_wp2
     refine bodyPost_ret (results_none rfl _ _ _) rfl ?_;exact⟨⟨_,rfl⟩,.inr ⟨_,trivial,hx3.o⟩⟩
   ·have hand:bits .and .i64 (k:Int) (apart r:Int)=apart r:=by rw[FO r hr k hlt,if_neg hl]
    have hn3:Hid (J (kN r (k+1)) wr/\wr.cell? ⟨ba,0,none⟩=some (vI iJ (apart r))/\wr.cell? ⟨br,0,none⟩=some (vI iJ r)):=
     ⟨by rw[aCW r k hl];exact hj,ca,cb⟩
    have q1:(1:Int)<=(apart r:Int):=zO;have q2:(apart r:Int)<=8:=zO;clear hj HY
    gi_wp2
    go_roundw
    case rel=>exact⟨k+1,by go_num,zO,hn3⟩
    case measure=>exact zM
  ·obtain rfl:k=16:=zO;have hfin:=zH hj;clear hj HY
   gi_wp2
   go_end0
   exact⟨⟨_,rfl⟩,.inl ⟨_,rfl,hfin.o⟩⟩
structure NetSt(w:World)(tb tt:TypeId)(bb br bt:Nat)(z:Array Value)(g:nI)(Ds:List Nat)(W:World):Prop where
 b:W.heap[bb]?=some (.cells (aA 16 (blk g)) tb (0,0))
 t:W.heap[bt]?=some (.cells (aA 16 (bM 8)) tt (0,0))
 r:W.heap[br]?=some (.cells z tb (0,0))
 old:Old w W
 nb:w.heap.size<=bb
 nt:bt≠bb
 nr:br≠bb
 nd:Ds.Nodup
 lo:∀D∈Ds,w.heap.size<=D
 ds:∀D∈Ds,W.heap[D]?=some (.deferred (some []))
namespace NetSt
variable {w W W':World} {tb tt:TypeId} {bb br bt:Nat} {z:Array Value} {g g':nI} {Ds:List Nat}
theorem keep(h:NetSt w tb tt bb br bt z g Ds W)(k:Old W W'):NetSt w tb tt bb br bt z g Ds W':=
 ⟨(k.block bb (lt_of_block h.b)).trans h.b,(k.block bt (lt_of_block h.t)).trans h.t,(k.block br (lt_of_block h.r)).trans h.r,h.old.trans k,h.nb,h.nt,h.nr,h.nd,h.lo,fun D hD=>(k.block D (lt_of_block (h.ds D hD))).trans (h.ds D hD)⟩
theorem next(h:NetSt w tb tt bb br bt z g Ds W)(k:Kept (fun i=>i<W.heap.size/\i≠bb) W W')(hb:W'.heap[bb]?=some (.cells (aA 16 (blk g')) tb (0,0)))(D:Nat)(hD:W.heap.size<=D)(hd:W'.heap[D]?=some (.deferred (some []))):
  NetSt w tb tt bb br bt z g' (D :: Ds) W':=by
 have hn:=h.nb;refine⟨hb,(k.block bt ⟨lt_of_block h.t,h.nt⟩).trans h.t,(k.block br ⟨lt_of_block h.r,h.nr⟩).trans h.r,h.old.after (X:=fun i=>i<W.heap.size/\i≠bb) k (fun i hi=>⟨Nat.lt_of_lt_of_le hi h.old.size,zO⟩),hn,h.nt,h.nr,List.nodup_cons.2 ⟨fun hm=>?_,h.nd⟩,fun E hE=>?_,fun E hE=>?_⟩
 ·have:=lt_of_block (h.ds D hm);omega
 ·have:=h.old.size;rcases List.mem_cons.1 hE with rfl | hE
  ·omega
  ·exact h.lo E hE
 ·rcases List.mem_cons.1 hE with rfl | hE
  ·exact hd
  ·have hE':=h.ds E hE;refine(k.block E ⟨lt_of_block hE',fun e=>?_⟩).trans hE';rw[e,h.b]at hE';cases hE'
theorem done(h:NetSt w tb tt bb br bt z g Ds W)(hrw:w.heap.size<=br)(cs:Array Value):(∀D∈Ds,(W.setRow br cs).heap[D]?=some (.deferred (some []))) /\
  ∀w',Kept (fun k=>k ∉ Ds) (W.setRow br cs) w'->w'.heap[br]?=some (.cells cs tb (0,0))/\Old w w':=by
 have hne:∀D∈Ds,D≠br:=fun D hD e=>by
  have:=h.ds D hD;rw[e,h.r]at this;cases this
 have h1:Old w (W.setRow br cs):=h.old.after (X:=fun k=>k<w.heap.size) ⟨rfl,rfl,zS,fun k hk=>setRow_other _ _ _ _ zO⟩ fun _ h=>h;refine⟨fun D hD=>(setRow_other _ _ _ _ (hne D hD)).trans (h.ds D hD),fun w' hk=>⟨(hk.block br fun hm=>hne br hm rfl).trans (setRow_heap _ _ _ _ _ _ h.r),h1.after hk fun k hk' hm=>?_⟩⟩;have:=h.lo k hm;omega
end NetSt
theorem VX(k:Nat)(h:k<8):bM 8 (k*2)=vI iJ (aS k):=by
 unfold bM yO;rw[if_pos zO,if_pos zO,show k*2/2=k by omega]
theorem WK(k:Nat)(h:k<8):bM 8 (k*2+1)=vI iJ (aT k):=by
 unfold bM yO;rw[if_pos zO,if_neg zO,show (k*2+1)/2=k by omega]
open Go.Shelf
attribute [local go_sem] Oper.semAt_some
theorem PC(f:nI)(w:World):
  Calls zP 185 #[.agg #[],.agg (aA 16 (blk f))] w fun e w'=>e=rJ (.agg (aA 16 (blk (mF 4 f))))/\Old w w':=by
 refine wM (n:=6) func185 rfl ?_;simp only[ntmps185,List.size_toArray,List.length_cons,List.length_nil,Nat.reduceAdd,Nat.reduceSub,Array.replicate_succ,Array.replicate_zero,List.push_toArray,List.append_toArray,List.nil_append,List.cons_append]
 go_wp2_with fail
 refine(vV _).mono ?_;rintro e w1 ⟨rfl,ho⟩;have Hz:Hid ((zP.info? 51).map (·.size)=some 16):=zH zK;have H1:Hid ((aA 16 (bM 8)).all (·.oneCell')=true):=zH (nA _ _ fun _ _=>rfl);have Ho:=zH ho;clear ho
 go_wp2_with (with_reducible refine wpList_store_row rfl 51 _ _ rfl w1.heap.size (aA 16 (bM 8)) rfl rfl 51 _ (heap_alloc_new _ _) (by rw[aB];exact Hz.o) (by rw[aB];kernel_rfl) H1.o ?_;rw[World.setRow_alloc_new])
 obtain⟨z,hz⟩:∃z:Array Value,z=#[vI iJ 0,vI iJ 0,vI iJ 0,vI iJ 0,vI iJ 0,vI iJ 0,vI iJ 0,vI iJ 0,vI iJ 0,vI iJ 0,vI iJ 0,vI iJ 0,vI iJ 0,vI iJ 0,vI iJ 0,vI iJ 0]:=⟨_,rfl⟩
 have hzs:z.size=16:=by rw[hz];rfl
 rw[<-hz]at Ho;clear hz;obtain⟨bt,hbt⟩:=zG (w1.heap.size);rw[<-hbt];have hst:NetSt w 43 51 (w.heap.size+1) (w.heap.size+1+1) bt z (mF 0 f) [] (w1.alloc (.cells (aA 16 (bM 8)) 51)):=by
  have ho:=Ho.o;have hs:=ho.size;simp only[World.size_alloc]at hs;have hb:w1.heap[w.heap.size+1]?=some (.cells (aA 16 (blk f)) 43 (0,0)):=(ho.block _ zS).trans ((Below.heap_alloc _ _ _ zS).trans (by
   have:=World.alloc_heap_new (w.alloc (.cells #[] 55)) (.cells (aA 16 (blk f)) 43);rwa [World.size_alloc]at this))
  have hr:w1.heap[w.heap.size+1+1]?=some (.cells z 43 (0,0)):=(ho.block _ zS).trans (by
   have:=World.alloc_heap_new ((w.alloc (.cells #[] 55)).alloc (.cells (aA 16 (blk f)) 43)) (.cells z 43);rwa [World.size_alloc,World.size_alloc]at this)
  have h0:Old w w1:=(((Old.alloc w _).alloc' _).alloc' _).trans ho;exact⟨(Below.heap_alloc _ _ _ zO).trans hb,by rw[hbt];exact World.alloc_heap_new _ _,(Below.heap_alloc _ _ _ zO).trans hr,h0.alloc' _,zO,zO,zO,List.nodup_nil,fun D hD=>(by cases hD),fun D hD=>(by cases hD)⟩
 have Hst:=zH hst;clear hst Ho hbt H1;go_wp2
 refine wp_loop (fun a W=>∃(k:Nat) (Ds:List Nat) (u6 u10 u11 u12 u13 u37:Value),k<=4/\a = { tmps:=#[.agg #[],.agg (aA 16 (blk f)),.pointer (some ⟨w.heap.size,0,none⟩),.pointer (some ⟨w.heap.size+1,0,none⟩),.pointer (some ⟨w.heap.size+1+1,0,none⟩),.pointer (some ⟨bt,0,none⟩),u6,undef,.agg (aA 16 (bM 8)),vI iJ k,u10,u11,u12,u13,undef,undef,undef,undef,undef,undef,undef,undef,undef,undef,undef,undef,undef,undef,undef,undef,undef,undef,undef,undef,undef,undef,undef,u37,undef],defers:=Ds.map mark }/\Hid (NetSt w 43 51 (w.heap.size+1) (w.heap.size+1+1) bt z (mF k f) Ds W))
  (fun a _=>4-(intOf (a.tmps.getD 9 undef)).toNat) ?_ ?_
 ·exact⟨0,[],undef,undef,undef,undef,undef,undef,zO,rfl,Hst⟩
 rintro a W ⟨k,Ds,u6,u10,u11,u12,u13,u37,hk,rfl,hS⟩;clear Hst;dsimp only;by_cases hlt:k<4
 ·have i1:(0:Int)<=k:=zO;have i2:(k:Int)<4:=zO;have hP:=IF k hlt W;have hIt:=fun ba br W1=>NS 5 zO k hlt ba br W1;unfold JW at hP;have HP:=zH hP;have HIt:=zH hIt;clear hP hIt
  go_wp2_with fail
  refine HP.o.mono ?_;rintro e W1 ⟨rfl,hW1⟩;have hb1:NetSt w 43 51 (w.heap.size+1) (w.heap.size+1+1) bt z (mF k f) Ds W1:=by rw[<-hW1];exact hS.o.keep ((Old.alloc W _).alloc' _)
  have ca:W1.cell? ⟨W.heap.size+1,0,none⟩=some (vI iJ (apart k)):=by
   rw[<-hW1];have:=tR (W.alloc (.cells #[vI iJ k] 3)) (vI iJ (apart k)) 3;rwa [World.size_alloc]at this
  have cb:W1.cell? ⟨W.heap.size,0,none⟩=some (vI iJ k):=by
   rw[<-hW1];exact(World.cell?_alloc_lt _ _ _ zS).trans (tR W _ _)
  have hsz:W1.heap.size=W.heap.size+1+1:=by rw[<-hW1];simp
  have hbb:w.heap.size+1<W.heap.size:=lt_of_block hS.o.b;have hseq:=HIt.o (W.heap.size+1) W.heap.size W1 ca cb;have HB:=zH hb1;clear hW1 HP HIt hS ca cb hb1;go_wp2
  refine(wpIn_wide (n:=6)).1 (wpIn_rangeFunc_ownH rfl zO rfl trivial (enters_of func163 zK rfl) hseq
   (fun h k=>⟨k.1.trans h.1,k.2.trans h.2⟩) (fun U l _ o' hl _ _ _=>⟨World.putObj_heap_other zO,World.putObj_heap_other zO⟩) (Below.refl _ _) (fun _=>rfl)
   (fun pre U=>Kept (fun i=>i<W1.heap.size/\i≠w.heap.size+1) W1 U/\U.heap[w.heap.size+1]?=some (.cells (aA 16 (blk (pre.foldl bP (mF k f)))) 43 (0,0)))
   (fun _ _ _=>False) ?hI (fun _ _ _ _ _ h _ _=>h) ⟨Kept.refl _ _,HB.o.b⟩
   (fun x a' U=>∃Bx,W1.heap.size<=Bx/\U.heap[Bx]?=some (.cells #[vI iJ x.lo,vI iJ x.hi,vI iJ x.tn] 230 (0,0))/\a' = { tmps:=#[.agg #[],.agg (aA 16 (blk f)),.pointer (some ⟨w.heap.size,0,none⟩),.pointer (some ⟨w.heap.size+1,0,none⟩),.pointer (some ⟨w.heap.size+1+1,0,none⟩),.pointer (some ⟨bt,0,none⟩),vI iJ k,.pointer (some ⟨Bx,0,none⟩),.agg (aA 16 (bM 8)),vI iJ k,.bool true,vI iJ k,vI iJ k,.func (.func 163) #[] #[.pointer (some ⟨W.heap.size+1,0,none⟩),.pointer (some ⟨W.heap.size,0,none⟩)],x.val,undef,undef,undef,undef,undef,undef,undef,undef,undef,undef,undef,undef,undef,undef,undef,undef,undef,undef,undef,undef,undef,undef,u37,undef],defers:=[] })
   ?hAx ?assign ?body ?done ?stop)
  case hI=>
   rintro pre U U' row ⟨h1,h2⟩ hg hr;exact⟨h1.trans (Kept.grown hg (X:=fun i=>i<W1.heap.size/\i≠w.heap.size+1) (fun i hi=>Nat.lt_of_lt_of_le hi.1 h1.size) (fun i e hi=>by have:=(hr i e).1;omega)),(hg.block _ (lt_of_block h2) (fun e=>by have:=(hr _ e.symm).1;omega)).trans h2⟩
  case hAx=>
   rintro x a' _ U U' row ⟨Bx,b1,b2,b3⟩ hg hr;refine⟨Bx,b1,(hg.block _ (lt_of_block b2) (fun e=>?_)).trans b2,b3⟩;obtain⟨_,ob,h1,h2⟩:=hr _ e.symm;rw[b2]at h1;cases h1;cases h2
  case assign=>
   rintro l pre x U K ⟨h1,h2⟩ hK;have hU:W1.heap.size<=U.heap.size:=h1.size;have hfin:K { tmps:=#[.agg #[],.agg (aA 16 (blk f)),.pointer (some ⟨w.heap.size,0,none⟩),.pointer (some ⟨w.heap.size+1,0,none⟩),.pointer (some ⟨w.heap.size+1+1,0,none⟩),.pointer (some ⟨bt,0,none⟩),vI iJ k,.pointer (some ⟨U.heap.size,0,none⟩),.agg (aA 16 (bM 8)),vI iJ k,.bool true,vI iJ k,vI iJ k,.func (.func 163) #[] #[.pointer (some ⟨W.heap.size+1,0,none⟩),.pointer (some ⟨W.heap.size,0,none⟩)],x.val,undef,undef,undef,undef,undef,undef,undef,undef,undef,undef,undef,undef,undef,undef,undef,undef,undef,undef,undef,undef,undef,undef,u37,undef],defers:=[] } (U.alloc (.cells #[vI iJ x.lo,vI iJ x.hi,vI iJ x.tn] 230)):=
    hK _ _ ((KeepsOthers.alloc _ _).from _) ⟨Below.heap_alloc _ _ _ zO,Below.heap_alloc _ _ _ zO⟩ ⟨h1.trans (Kept.alloc U _ fun i hi=>zO),(Below.heap_alloc _ _ _ zO).trans h2⟩ ⟨U.heap.size,hU,World.alloc_heap_new _ _,rfl⟩
   have HF:=zH hfin;clear hfin hK;unfold dH.val at HF |-
   gi_wp2
   exact HF.o
  case done=>
   rintro D xs U hD rfl ⟨h1,h2⟩ hd;go_wp2;refine⟨⟨k+1,D :: Ds,_,_,_,_,_,_,zO,rfl,HB.o.next h1 h2 D hD hd⟩,?_⟩;simp[intOf];omega
  case stop=>
   rintro D c pre U _ _ h _;exact h.elim
  case body=>
   rintro l pre ⟨lo,hi,tn,x1,x2,x3,x4⟩ a' U hlB _ ⟨h1,h2⟩ ⟨Bx,b1,b2,rfl⟩ hlen;dsimp only at b2;unfold dH.val;dsimp only;have hg2:∀g:nI,g=pre.foldl bP (mF k f)->((pre ++ [(⟨lo,hi,tn,x1,x2,x3,x4⟩:dH)]).foldl bP (mF k f))=bP g ⟨lo,hi,tn,x1,x2,x3,x4⟩:=fun g e=>by rw[List.foldl_append,<-e];rfl
   obtain⟨g,hgd⟩:=zG (pre.foldl bP (mF k f));have hg3:=hg2 g hgd;have hbl:=YH g ⟨lo,hi,tn,x1,x2,x3,x4⟩;dsimp only at hbl;rw[<-hgd]at h2;clear hg2 hgd hseq;have ht:U.heap[bt]?=some (.cells (aA 16 (bM 8)) 51 (0,0)):=(h1.block bt ⟨lt_of_block HB.o.t,HB.o.nt⟩).trans HB.o.t;have hnt:=HB.o.nt;have hsU:W1.heap.size<=U.heap.size:=h1.size;have c0:U.cell? ⟨Bx,0,none⟩=some (vI iJ lo):=(cell_of_row _ _ _ _ _ _ b2).trans rfl;have c1:U.cell? ⟨Bx,1,none⟩=some (vI iJ hi):=(cell_of_row _ _ _ _ _ _ b2).trans rfl;have c2:U.cell? ⟨Bx,2,none⟩=some (vI iJ tn):=(cell_of_row _ _ _ _ _ _ b2).trans rfl;have ct:U.cell? ⟨bt,tn*2,none⟩=some (vI iJ (aS tn)):=(cell_of_row _ _ _ _ _ _ ht).trans ((bI 16 (bM 8) (tn*2) zO).trans (by rw[VX tn x4]));have cu:U.cell? ⟨bt,tn*2+1,none⟩=some (vI iJ (aT tn)):=(cell_of_row _ _ _ _ _ _ ht).trans ((bI 16 (bM 8) (tn*2+1) zO).trans (by rw[WK tn x4]));have hcT:=fun w=>NE (g lo) (g hi) (aS tn) (aT tn) w;generalize aS tn=pv at *;generalize aT tn=uv at *;generalize bB (g lo) (g hi) pv uv=va at *;generalize bA (g lo) (g hi) pv uv=vb at *;have cells:∀V:World,V.heap[w.heap.size+1]?=some (.cells (aA 16 (blk g)) 43 (0,0))->V.cell? ⟨w.heap.size+1,lo,none⟩=some (vI iJ (g lo))/\V.cell? ⟨w.heap.size+1,hi,none⟩=some (vI iJ (g hi))/\V.frozen? ⟨w.heap.size+1,lo,none⟩=false/\V.frozen? ⟨w.heap.size+1,hi,none⟩=false /\
     (V.setCell ⟨w.heap.size+1,lo,none⟩ (vI iJ va)).cell? ⟨w.heap.size+1,hi,none⟩=some (vI iJ (g hi))/\(V.setCell ⟨w.heap.size+1,lo,none⟩ (vI iJ va)).frozen? ⟨w.heap.size+1,hi,none⟩=false:=fun V hV=>by
    have e1:V.cell? ⟨w.heap.size+1,hi,none⟩=some (vI iJ (g hi)):=(cell_of_row _ _ _ _ _ _ hV).trans (bI 16 (blk g) hi x2);refine⟨(cell_of_row _ _ _ _ _ _ hV).trans (bI 16 (blk g) lo x1),e1,frozen_of_row _ _ _ _ _ hV,frozen_of_row _ _ _ _ _ hV,?_,?_⟩
    ·rw[World.cell?_setCell_other _ _ _ _ (fun e=>x3 (by injection e))];exact e1
    ·rw[World.frozen?_setCell];exact frozen_of_row _ _ _ _ _ hV
   have keep1:∀V:World,Old U.drew V->V.cell? ⟨Bx,0,none⟩=some (vI iJ lo)/\V.cell? ⟨Bx,1,none⟩=some (vI iJ hi)/\V.cell? ⟨Bx,2,none⟩=some (vI iJ tn)/\V.cell? ⟨bt,tn*2,none⟩=some (vI iJ pv)/\V.cell? ⟨bt,tn*2+1,none⟩=some (vI iJ uv):=fun V hV=>by
    have hb0:=lt_of_block b2;have ht0:=lt_of_block ht;exact⟨(Kept.cell hV hb0).trans c0,(Kept.cell hV hb0).trans c1,(Kept.cell hV hb0).trans c2,(Kept.cell hV ht0).trans ct,(Kept.cell hV ht0).trans cu⟩
   have keep2:∀(V:World) (j:Nat) (v:Value),(V.cell? ⟨Bx,0,none⟩=some (vI iJ lo)/\V.cell? ⟨Bx,1,none⟩=some (vI iJ hi)/\V.cell? ⟨Bx,2,none⟩=some (vI iJ tn)/\V.cell? ⟨bt,tn*2,none⟩=some (vI iJ pv)/\V.cell? ⟨bt,tn*2+1,none⟩=some (vI iJ uv))->(V.setCell ⟨w.heap.size+1,j,none⟩ v).cell? ⟨Bx,0,none⟩=some (vI iJ lo)/\(V.setCell ⟨w.heap.size+1,j,none⟩ v).cell? ⟨Bx,1,none⟩=some (vI iJ hi)/\(V.setCell ⟨w.heap.size+1,j,none⟩ v).cell? ⟨Bx,2,none⟩=some (vI iJ tn)/\(V.setCell ⟨w.heap.size+1,j,none⟩ v).cell? ⟨bt,tn*2,none⟩=some (vI iJ pv)/\(V.setCell ⟨w.heap.size+1,j,none⟩ v).cell? ⟨bt,tn*2+1,none⟩=some (vI iJ uv):=fun V j v hV=>by
    have n1:w.heap.size+1≠Bx:=zO;have n2:w.heap.size+1≠bt:=fun e=>hnt e.symm;exact⟨(World.cell?_setCell_far _ _ _ _ n1).trans hV.1,(World.cell?_setCell_far _ _ _ _ n1).trans hV.2.1,(World.cell?_setCell_far _ _ _ _ n1).trans hV.2.2.1,(World.cell?_setCell_far _ _ _ _ n2).trans hV.2.2.2.1,(World.cell?_setCell_far _ _ _ _ n2).trans hV.2.2.2.2⟩
   have fin:∀V:World,Old U.drew V->KeepsFrom W1.heap.size U ((V.setCell ⟨w.heap.size+1,lo,none⟩ (vI iJ va)).setCell ⟨w.heap.size+1,hi,none⟩ (vI iJ vb)) /\
     (((V.setCell ⟨w.heap.size+1,lo,none⟩ (vI iJ va)).setCell ⟨w.heap.size+1,hi,none⟩ (vI iJ vb)).heap[W.heap.size+1]?=U.heap[W.heap.size+1]?/\((V.setCell ⟨w.heap.size+1,lo,none⟩ (vI iJ va)).setCell ⟨w.heap.size+1,hi,none⟩ (vI iJ vb)).heap[W.heap.size]?=U.heap[W.heap.size]?) /\
     (Kept (fun i=>i<W1.heap.size/\i≠w.heap.size+1) W1 ((V.setCell ⟨w.heap.size+1,lo,none⟩ (vI iJ va)).setCell ⟨w.heap.size+1,hi,none⟩ (vI iJ vb)) /\
      ((V.setCell ⟨w.heap.size+1,lo,none⟩ (vI iJ va)).setCell ⟨w.heap.size+1,hi,none⟩ (vI iJ vb)).heap[w.heap.size+1]?=some (.cells (aA 16 (blk ((pre ++ [(⟨lo,hi,tn,x1,x2,x3,x4⟩:dH)]).foldl bP (mF k f)))) 43 (0,0))):=fun V hV=>by
    have hVb:V.heap[w.heap.size+1]?=some (.cells (aA 16 (blk g)) 43 (0,0)):=(hV.block _ (lt_of_block h2)).trans h2;have far:∀j,j<W1.heap.size->j≠w.heap.size+1->((V.setCell ⟨w.heap.size+1,lo,none⟩ (vI iJ va)).setCell ⟨w.heap.size+1,hi,none⟩ (vI iJ vb)).heap[j]?=U.heap[j]?:=fun j hj hn=>
     ((Below.heap_setCell _ _ _ _ hn).trans (Below.heap_setCell _ _ _ _ hn)).trans (hV.block j (by show j<U.heap.size;omega))
    refine⟨(((KeepsOthers.drew U).trans (Old.keepsOthers hV)).trans ((KeepsOthers.setCell _ _ _).trans (KeepsOthers.setCell _ _ _))).from _,⟨far _ zO zO,far _ zO zO⟩,⟨?_,?_,?_,fun j hj=>(far j hj.1 hj.2).trans (h1.block j hj)⟩,?_⟩
    ·exact hV.os.trans h1.os
    ·exact hV.output.trans h1.output
    ·have:=hV.size;simp[World.setCell]at this |-;omega
    ·rw[hg3,<-hbl,<-dS _ _ _ _ x2,<-dS _ _ _ _ x1];exact heap_setCell_same _ _ _ _ _ _ (heap_setCell_same _ _ _ _ _ _ hVb)
   obtain⟨cl,ch,fl,fh,_,_⟩:=cells U h2;have HT:=zH hcT;have HCell:=zH (fun V (h:Old U.drew V)=>cells V ((h.block _ (lt_of_block h2)).trans h2));have HK1:=zH keep1;have HK2:=zH keep2;have HF:=zH fin;have j1:(0:Int)<=lo:=zO;have j2:(lo:Int)<16:=zO;have j3:(0:Int)<=hi:=zO;have j4:(hi:Int)<16:=zO;have j5:(0:Int)<=tn:=zO;have j6:(tn:Int)<8:=zO;clear hcT cells keep1 keep2 fin h1 h2 hbl hg3 ht b2 HB
   gi_wp2
   refine sV (S:=fun w'=>w'.cell? ⟨Bx,0,none⟩=some (vI iJ lo)/\w'.cell? ⟨Bx,1,none⟩=some (vI iJ hi)/\w'.cell? ⟨Bx,2,none⟩=some (vI iJ tn)/\w'.cell? ⟨bt,tn*2,none⟩=some (vI iJ pv)/\w'.cell? ⟨bt,tn*2+1,none⟩=some (vI iJ uv)) zK zK (by rintro ⟨a,w,h⟩;exact h) ?_ (fun hHeld=>?_)
   ·exact HK1.o _ (Old.refl _)
   refine (uU 0) ((uU 1) ((uU 2) ((uU 3) ((uU 4) ((uU 5) ((uU 6) ((uU 8) ((uU 9) ((uU 10) ((uU 12) ((uU 13) ((uU 14) ((uU 15) ?_)))))))))))));refine wpAnyH_ready (rs:=[7,11]) zK zS ?_;refine AllReadyH.cons (o:=⟨some _,_,_,_,_,_⟩) rfl (fun K hK=>?_) (AllReadyH.cons (o:=⟨some _,_,_,_,_,_⟩) rfl (fun K hK=>?_) AllReadyH.nil)
   ·go_simp;refine hK.out _ _ (HK1.o _ (Old.refl _)) (fun hHeld=>?_);clear hK K
    try simp only[Act.put,sA,sZ,sS]
    refine wpAnyH_ready (rs:=[11]) zK zS ?_;refine AllReadyH.cons (o:=⟨some _,_,_,_,_,_⟩) rfl (fun K hK=>?_) AllReadyH.nil;go_simp;refine hK.out _ _ (HK1.o _ (Old.refl _)) (fun hHeld=>?_);clear hK K
    try simp only[Act.put,sA,sZ,sS]
    refine wpAnyH_ready (rs:=[16]) zK zS ?_;refine AllReadyH.cons (o:=⟨some _,_,_,_,_,_⟩) rfl (fun K hK=>?_) AllReadyH.nil;go_simp;refine(HT.o _).mono ?_;rintro e V ⟨rfl,hV⟩
    go_wp2_with fail
    have hSV:=HK1.o _ hV;obtain⟨vl,vh,vfl,vfh,vh2,vfh2⟩:=HCell.o _ hV;have HFV:=zH (HF.o _ hV);clear hV;refine hK.out _ _ hSV (fun hHeld=>?_);clear hK K;refine (uU 17) ((uU 18) ((uU 19) ((uU 20) ?_)));refine wpAnyH_ready (rs:=[21]) zK zS ?_;refine AllReadyH.cons (o:=⟨none,_,_,_,_,_⟩) rfl (fun K hK=>?_) AllReadyH.nil;go_simp;refine hK.out _ _ (HK2.o _ _ _ hSV) (fun hHeld=>?_);clear hK K;refine (uU 22) ?_;refine wpAnyH_ready (rs:=[23]) zK zS ?_;refine AllReadyH.cons (o:=⟨none,_,_,_,_,_⟩) rfl (fun K hK=>?_) AllReadyH.nil;go_simp;refine hK.out _ _ (HK2.o _ _ _ (HK2.o _ _ _ hSV)) (fun hHeld=>?_);clear hK K
    try simp only[Act.put,sA,sZ,sS]
    refine wpAnyH_done zK ?_ _;exact HFV.o
   ·go_simp;refine hK.out _ _ (HK1.o _ (Old.refl _)) (fun hHeld=>?_);clear hK K
    try simp only[Act.put,sA,sZ,sS]
    refine wpAnyH_ready (rs:=[7]) zK zS ?_;refine AllReadyH.cons (o:=⟨some _,_,_,_,_,_⟩) rfl (fun K hK=>?_) AllReadyH.nil;go_simp;refine hK.out _ _ (HK1.o _ (Old.refl _)) (fun hHeld=>?_);clear hK K
    try simp only[Act.put,sA,sZ,sS]
    refine wpAnyH_ready (rs:=[16]) zK zS ?_;refine AllReadyH.cons (o:=⟨some _,_,_,_,_,_⟩) rfl (fun K hK=>?_) AllReadyH.nil;go_simp;refine(HT.o _).mono ?_;rintro e V ⟨rfl,hV⟩
    go_wp2_with fail
    have hSV:=HK1.o _ hV;obtain⟨vl,vh,vfl,vfh,vh2,vfh2⟩:=HCell.o _ hV;have HFV:=zH (HF.o _ hV);clear hV;refine hK.out _ _ hSV (fun hHeld=>?_);clear hK K;refine (uU 17) ((uU 18) ((uU 19) ((uU 20) ?_)));refine wpAnyH_ready (rs:=[21]) zK zS ?_;refine AllReadyH.cons (o:=⟨none,_,_,_,_,_⟩) rfl (fun K hK=>?_) AllReadyH.nil;go_simp;refine hK.out _ _ (HK2.o _ _ _ hSV) (fun hHeld=>?_);clear hK K;refine (uU 22) ?_;refine wpAnyH_ready (rs:=[23]) zK zS ?_;refine AllReadyH.cons (o:=⟨none,_,_,_,_,_⟩) rfl (fun K hK=>?_) AllReadyH.nil;go_simp;refine hK.out _ _ (HK2.o _ _ _ (HK2.o _ _ _ hSV)) (fun hHeld=>?_);clear hK K
    try simp only[Act.put,sA,sZ,sS]
    refine wpAnyH_done zK ?_ _;exact HFV.o
 ·obtain rfl:k=4:=zO;have hS':=hS.o;have Hb:=zH hS'.b;have Hr:=zH hS'.r;have Hd:=zH (hS'.done zO (aA 16 (blk (mF 4 f))));have Hn:=zH hS'.nd;have Hs:Hid ((zP.info? 43).map (·.size)=some 16):=zH zK;have H1:Hid ((aA 16 (blk (mF 4 f))).all (·.oneCell')=true):=zH (bN _ _);clear hS hS'
  go_wp2_with (first | (with_reducible refine wpList_load_row rfl 43 _ rfl (w.heap.size+1) rfl 43 (aA 16 (blk (mF 4 f))) (0,0) _ Hb.o underlying43 rfl (by rw[aB];exact Hs.o) ?_) | (with_reducible refine wpList_store_row rfl 43 _ _ rfl (w.heap.size+1+1) (aA 16 (blk (mF 4 f))) rfl rfl 43 _ Hr.o (by rw[aB];exact Hs.o) (by rw[aB];exact hzs) H1.o ?_))
  refine nM Ds _ Hn.o Hd.o.1 fun w' hk=>?_;obtain⟨e1,e2⟩:=Hd.o.2 w' hk;exact⟨_,results_cell_row rfl _ _ (w.heap.size+1+1) 43 (aA 16 (blk (mF 4 f))) (0,0) _ rfl e1 underlying43 rfl (by rw[aB];exact Hs.o),rfl,e2⟩
attribute [local go_sem] Oper.semAt_some
theorem OO(f:nI)(w:World):
  Calls zP 87 #[.agg #[],.agg (aA 16 (blk f))] w fun e w'=>e=rJ (.agg (aA 16 (blk (iC 4 f))))/\Old w w':=by
 refine wM (n:=6) func87 rfl ?_;simp only[ntmps87,List.size_toArray,List.length_cons,List.length_nil,Nat.reduceAdd,Nat.reduceSub,Array.replicate_succ,Array.replicate_zero,List.push_toArray,List.append_toArray,List.nil_append,List.cons_append]
 go_wp2_with fail
 refine(vV _).mono ?_;rintro e w1 ⟨rfl,ho⟩;have Hz:Hid ((zP.info? 51).map (·.size)=some 16):=zH zK;have H1:Hid ((aA 16 (bM 8)).all (·.oneCell')=true):=zH (nA _ _ fun _ _=>rfl);have Ho:=zH ho;clear ho
 go_wp2_with (with_reducible refine wpList_store_row rfl 51 _ _ rfl w1.heap.size (aA 16 (bM 8)) rfl rfl 51 _ (heap_alloc_new _ _) (by rw[aB];exact Hz.o) (by rw[aB];kernel_rfl) H1.o ?_;rw[World.setRow_alloc_new])
 obtain⟨z,hz⟩:∃z:Array Value,z=#[vI iJ 0,vI iJ 0,vI iJ 0,vI iJ 0,vI iJ 0,vI iJ 0,vI iJ 0,vI iJ 0,vI iJ 0,vI iJ 0,vI iJ 0,vI iJ 0,vI iJ 0,vI iJ 0,vI iJ 0,vI iJ 0]:=⟨_,rfl⟩
 have hzs:z.size=16:=by rw[hz];rfl
 rw[<-hz]at Ho;clear hz;obtain⟨bt,hbt⟩:=zG (w1.heap.size);rw[<-hbt];have hst:NetSt w 43 51 (w.heap.size+1) (w.heap.size+1+1) bt z (iC 0 f) [] (w1.alloc (.cells (aA 16 (bM 8)) 51)):=by
  have ho:=Ho.o;have hs:=ho.size;simp only[World.size_alloc]at hs;have hb:w1.heap[w.heap.size+1]?=some (.cells (aA 16 (blk f)) 43 (0,0)):=(ho.block _ zS).trans ((Below.heap_alloc _ _ _ zS).trans (by
   have:=World.alloc_heap_new (w.alloc (.cells #[] 55)) (.cells (aA 16 (blk f)) 43);rwa [World.size_alloc]at this))
  have hr:w1.heap[w.heap.size+1+1]?=some (.cells z 43 (0,0)):=(ho.block _ zS).trans (by
   have:=World.alloc_heap_new ((w.alloc (.cells #[] 55)).alloc (.cells (aA 16 (blk f)) 43)) (.cells z 43);rwa [World.size_alloc,World.size_alloc]at this)
  have h0:Old w w1:=(((Old.alloc w _).alloc' _).alloc' _).trans ho;exact⟨(Below.heap_alloc _ _ _ zO).trans hb,by rw[hbt];exact World.alloc_heap_new _ _,(Below.heap_alloc _ _ _ zO).trans hr,h0.alloc' _,zO,zO,zO,List.nodup_nil,fun D hD=>(by cases hD),fun D hD=>(by cases hD)⟩
 have Hst:=zH hst;clear hst Ho hbt H1;go_wp2
 refine wp_loop (fun a W=>∃(k:Nat) (Ds:List Nat) (u6 u10 u11 u12 u13 u14 u38:Value),k<=4/\a = { tmps:=#[.agg #[],.agg (aA 16 (blk f)),.pointer (some ⟨w.heap.size,0,none⟩),.pointer (some ⟨w.heap.size+1,0,none⟩),.pointer (some ⟨w.heap.size+1+1,0,none⟩),.pointer (some ⟨bt,0,none⟩),u6,undef,.agg (aA 16 (bM 8)),vI iJ k,u10,u11,u12,u13,u14,undef,undef,undef,undef,undef,undef,undef,undef,undef,undef,undef,undef,undef,undef,undef,undef,undef,undef,undef,undef,undef,undef,undef,u38,undef],defers:=Ds.map mark }/\Hid (NetSt w 43 51 (w.heap.size+1) (w.heap.size+1+1) bt z (iC k f) Ds W))
  (fun a _=>4-(intOf (a.tmps.getD 9 undef)).toNat) ?_ ?_
 ·exact⟨0,[],undef,undef,undef,undef,undef,undef,undef,zO,rfl,Hst⟩
 rintro a W ⟨k,Ds,u6,u10,u11,u12,u13,u14,u38,hk,rfl,hS⟩;clear Hst;dsimp only;by_cases hlt:k<4
 ·have i1:(0:Int)<=k:=zO;have i2:(k:Int)<4:=zO;have hcast:((3-k:Nat):Int)=3-(k:Int):=zO;have hP:=IF (3-k) zO W;have hIt:=fun ba br W1=>NS 5 zO (3-k) zO ba br W1;rw[hcast]at hP hIt;unfold JW at hP;have HP:=zH hP;have HIt:=zH hIt;clear hP hIt
  go_wp2_with fail
  refine HP.o.mono ?_;rintro e W1 ⟨rfl,hW1⟩;have hb1:NetSt w 43 51 (w.heap.size+1) (w.heap.size+1+1) bt z (iC k f) Ds W1:=by rw[<-hW1];exact hS.o.keep ((Old.alloc W _).alloc' _)
  have ca:W1.cell? ⟨W.heap.size+1,0,none⟩=some (vI iJ (apart (3-k))):=by
   rw[<-hW1];have:=tR (W.alloc (.cells #[vI iJ (3-(k:Int))] 3)) (vI iJ (apart (3-k))) 3;rwa [World.size_alloc]at this
  have cb:W1.cell? ⟨W.heap.size,0,none⟩=some (vI iJ (3-(k:Int))):=by
   rw[<-hW1];exact(World.cell?_alloc_lt _ _ _ zS).trans (tR W _ _)
  have hsz:W1.heap.size=W.heap.size+1+1:=by rw[<-hW1];simp
  have hbb:w.heap.size+1<W.heap.size:=lt_of_block hS.o.b;have hseq:=HIt.o (W.heap.size+1) W.heap.size W1 ca cb;have HB:=zH hb1;clear hW1 HP HIt hS ca cb hb1;go_wp2
  refine(wpIn_wide (n:=6)).1 (wpIn_rangeFunc_ownH rfl zO rfl trivial (enters_of func163 zK rfl) hseq
   (fun h k=>⟨k.1.trans h.1,k.2.trans h.2⟩) (fun U l _ o' hl _ _ _=>⟨World.putObj_heap_other zO,World.putObj_heap_other zO⟩) (Below.refl _ _) (fun _=>rfl)
   (fun pre U=>Kept (fun i=>i<W1.heap.size/\i≠w.heap.size+1) W1 U/\U.heap[w.heap.size+1]?=some (.cells (aA 16 (blk (pre.foldl dG (iC k f)))) 43 (0,0)))
   (fun _ _ _=>False) ?hI (fun _ _ _ _ _ h _ _=>h) ⟨Kept.refl _ _,HB.o.b⟩
   (fun x a' U=>∃Bx,W1.heap.size<=Bx/\U.heap[Bx]?=some (.cells #[vI iJ x.lo,vI iJ x.hi,vI iJ x.tn] 230 (0,0))/\a' = { tmps:=#[.agg #[],.agg (aA 16 (blk f)),.pointer (some ⟨w.heap.size,0,none⟩),.pointer (some ⟨w.heap.size+1,0,none⟩),.pointer (some ⟨w.heap.size+1+1,0,none⟩),.pointer (some ⟨bt,0,none⟩),vI iJ k,.pointer (some ⟨Bx,0,none⟩),.agg (aA 16 (bM 8)),vI iJ k,.bool true,vI iJ k,vI iJ k,vI iJ (3-(k:Int)),.func (.func 163) #[] #[.pointer (some ⟨W.heap.size+1,0,none⟩),.pointer (some ⟨W.heap.size,0,none⟩)],x.val,undef,undef,undef,undef,undef,undef,undef,undef,undef,undef,undef,undef,undef,undef,undef,undef,undef,undef,undef,undef,undef,undef,u38,undef],defers:=[] })
   ?hAx ?assign ?body ?done ?stop)
  case hI=>
   rintro pre U U' row ⟨h1,h2⟩ hg hr;exact⟨h1.trans (Kept.grown hg (X:=fun i=>i<W1.heap.size/\i≠w.heap.size+1) (fun i hi=>Nat.lt_of_lt_of_le hi.1 h1.size) (fun i e hi=>by have:=(hr i e).1;omega)),(hg.block _ (lt_of_block h2) (fun e=>by have:=(hr _ e.symm).1;omega)).trans h2⟩
  case hAx=>
   rintro x a' _ U U' row ⟨Bx,b1,b2,b3⟩ hg hr;refine⟨Bx,b1,(hg.block _ (lt_of_block b2) (fun e=>?_)).trans b2,b3⟩;obtain⟨_,ob,h1,h2⟩:=hr _ e.symm;rw[b2]at h1;cases h1;cases h2
  case assign=>
   rintro l pre x U K ⟨h1,h2⟩ hK;have hU:W1.heap.size<=U.heap.size:=h1.size;have hfin:K { tmps:=#[.agg #[],.agg (aA 16 (blk f)),.pointer (some ⟨w.heap.size,0,none⟩),.pointer (some ⟨w.heap.size+1,0,none⟩),.pointer (some ⟨w.heap.size+1+1,0,none⟩),.pointer (some ⟨bt,0,none⟩),vI iJ k,.pointer (some ⟨U.heap.size,0,none⟩),.agg (aA 16 (bM 8)),vI iJ k,.bool true,vI iJ k,vI iJ k,vI iJ (3-(k:Int)),.func (.func 163) #[] #[.pointer (some ⟨W.heap.size+1,0,none⟩),.pointer (some ⟨W.heap.size,0,none⟩)],x.val,undef,undef,undef,undef,undef,undef,undef,undef,undef,undef,undef,undef,undef,undef,undef,undef,undef,undef,undef,undef,undef,undef,u38,undef],defers:=[] } (U.alloc (.cells #[vI iJ x.lo,vI iJ x.hi,vI iJ x.tn] 230)):=
    hK _ _ ((KeepsOthers.alloc _ _).from _) ⟨Below.heap_alloc _ _ _ zO,Below.heap_alloc _ _ _ zO⟩ ⟨h1.trans (Kept.alloc U _ fun i hi=>zO),(Below.heap_alloc _ _ _ zO).trans h2⟩ ⟨U.heap.size,hU,World.alloc_heap_new _ _,rfl⟩
   have HF:=zH hfin;clear hfin hK;unfold dH.val at HF |-
   gi_wp2
   exact HF.o
  case done=>
   rintro D xs U hD rfl ⟨h1,h2⟩ hd;go_wp2;refine⟨⟨k+1,D :: Ds,_,_,_,_,_,_,_,zO,rfl,HB.o.next h1 h2 D hD hd⟩,?_⟩;simp[intOf];omega
  case stop=>
   rintro D c pre U _ _ h _;exact h.elim
  case body=>
   rintro l pre ⟨lo,hi,tn,x1,x2,x3,x4⟩ a' U hlB _ ⟨h1,h2⟩ ⟨Bx,b1,b2,rfl⟩ hlen;dsimp only at b2;unfold dH.val;dsimp only;have hg2:∀g:nI,g=pre.foldl dG (iC k f)->((pre ++ [(⟨lo,hi,tn,x1,x2,x3,x4⟩:dH)]).foldl dG (iC k f))=dG g ⟨lo,hi,tn,x1,x2,x3,x4⟩:=fun g e=>by rw[List.foldl_append,<-e];rfl
   obtain⟨g,hgd⟩:=zG (pre.foldl dG (iC k f));have hg3:=hg2 g hgd;have hbl:=ZX g ⟨lo,hi,tn,x1,x2,x3,x4⟩;dsimp only at hbl;rw[<-hgd]at h2;clear hg2 hgd hseq;have ht:U.heap[bt]?=some (.cells (aA 16 (bM 8)) 51 (0,0)):=(h1.block bt ⟨lt_of_block HB.o.t,HB.o.nt⟩).trans HB.o.t;have hnt:=HB.o.nt;have hsU:W1.heap.size<=U.heap.size:=h1.size;have c0:U.cell? ⟨Bx,0,none⟩=some (vI iJ lo):=(cell_of_row _ _ _ _ _ _ b2).trans rfl;have c1:U.cell? ⟨Bx,1,none⟩=some (vI iJ hi):=(cell_of_row _ _ _ _ _ _ b2).trans rfl;have c2:U.cell? ⟨Bx,2,none⟩=some (vI iJ tn):=(cell_of_row _ _ _ _ _ _ b2).trans rfl;have ct:U.cell? ⟨bt,tn*2,none⟩=some (vI iJ (aS tn)):=(cell_of_row _ _ _ _ _ _ ht).trans ((bI 16 (bM 8) (tn*2) zO).trans (by rw[VX tn x4]));have cu:U.cell? ⟨bt,tn*2+1,none⟩=some (vI iJ (aT tn)):=(cell_of_row _ _ _ _ _ _ ht).trans ((bI 16 (bM 8) (tn*2+1) zO).trans (by rw[WK tn x4]));have hcT:=fun w=>OT (g lo) (g hi) (aS tn) (aT tn) w;generalize aS tn=pv at *;generalize aT tn=uv at *;generalize cV (g lo) (g hi) pv uv=va at *;generalize bW (g lo) (g hi) pv uv=vb at *;have cells:∀V:World,V.heap[w.heap.size+1]?=some (.cells (aA 16 (blk g)) 43 (0,0))->V.cell? ⟨w.heap.size+1,lo,none⟩=some (vI iJ (g lo))/\V.cell? ⟨w.heap.size+1,hi,none⟩=some (vI iJ (g hi))/\V.frozen? ⟨w.heap.size+1,lo,none⟩=false/\V.frozen? ⟨w.heap.size+1,hi,none⟩=false /\
     (V.setCell ⟨w.heap.size+1,lo,none⟩ (vI iJ va)).cell? ⟨w.heap.size+1,hi,none⟩=some (vI iJ (g hi))/\(V.setCell ⟨w.heap.size+1,lo,none⟩ (vI iJ va)).frozen? ⟨w.heap.size+1,hi,none⟩=false:=fun V hV=>by
    have e1:V.cell? ⟨w.heap.size+1,hi,none⟩=some (vI iJ (g hi)):=(cell_of_row _ _ _ _ _ _ hV).trans (bI 16 (blk g) hi x2);refine⟨(cell_of_row _ _ _ _ _ _ hV).trans (bI 16 (blk g) lo x1),e1,frozen_of_row _ _ _ _ _ hV,frozen_of_row _ _ _ _ _ hV,?_,?_⟩
    ·rw[World.cell?_setCell_other _ _ _ _ (fun e=>x3 (by injection e))];exact e1
    ·rw[World.frozen?_setCell];exact frozen_of_row _ _ _ _ _ hV
   have keep1:∀V:World,Old U.drew V->V.cell? ⟨Bx,0,none⟩=some (vI iJ lo)/\V.cell? ⟨Bx,1,none⟩=some (vI iJ hi)/\V.cell? ⟨Bx,2,none⟩=some (vI iJ tn)/\V.cell? ⟨bt,tn*2,none⟩=some (vI iJ pv)/\V.cell? ⟨bt,tn*2+1,none⟩=some (vI iJ uv):=fun V hV=>by
    have hb0:=lt_of_block b2;have ht0:=lt_of_block ht;exact⟨(Kept.cell hV hb0).trans c0,(Kept.cell hV hb0).trans c1,(Kept.cell hV hb0).trans c2,(Kept.cell hV ht0).trans ct,(Kept.cell hV ht0).trans cu⟩
   have keep2:∀(V:World) (j:Nat) (v:Value),(V.cell? ⟨Bx,0,none⟩=some (vI iJ lo)/\V.cell? ⟨Bx,1,none⟩=some (vI iJ hi)/\V.cell? ⟨Bx,2,none⟩=some (vI iJ tn)/\V.cell? ⟨bt,tn*2,none⟩=some (vI iJ pv)/\V.cell? ⟨bt,tn*2+1,none⟩=some (vI iJ uv))->(V.setCell ⟨w.heap.size+1,j,none⟩ v).cell? ⟨Bx,0,none⟩=some (vI iJ lo)/\(V.setCell ⟨w.heap.size+1,j,none⟩ v).cell? ⟨Bx,1,none⟩=some (vI iJ hi)/\(V.setCell ⟨w.heap.size+1,j,none⟩ v).cell? ⟨Bx,2,none⟩=some (vI iJ tn)/\(V.setCell ⟨w.heap.size+1,j,none⟩ v).cell? ⟨bt,tn*2,none⟩=some (vI iJ pv)/\(V.setCell ⟨w.heap.size+1,j,none⟩ v).cell? ⟨bt,tn*2+1,none⟩=some (vI iJ uv):=fun V j v hV=>by
    have n1:w.heap.size+1≠Bx:=zO;have n2:w.heap.size+1≠bt:=fun e=>hnt e.symm;exact⟨(World.cell?_setCell_far _ _ _ _ n1).trans hV.1,(World.cell?_setCell_far _ _ _ _ n1).trans hV.2.1,(World.cell?_setCell_far _ _ _ _ n1).trans hV.2.2.1,(World.cell?_setCell_far _ _ _ _ n2).trans hV.2.2.2.1,(World.cell?_setCell_far _ _ _ _ n2).trans hV.2.2.2.2⟩
   have fin:∀V:World,Old U.drew V->KeepsFrom W1.heap.size U ((V.setCell ⟨w.heap.size+1,lo,none⟩ (vI iJ va)).setCell ⟨w.heap.size+1,hi,none⟩ (vI iJ vb)) /\
     (((V.setCell ⟨w.heap.size+1,lo,none⟩ (vI iJ va)).setCell ⟨w.heap.size+1,hi,none⟩ (vI iJ vb)).heap[W.heap.size+1]?=U.heap[W.heap.size+1]?/\((V.setCell ⟨w.heap.size+1,lo,none⟩ (vI iJ va)).setCell ⟨w.heap.size+1,hi,none⟩ (vI iJ vb)).heap[W.heap.size]?=U.heap[W.heap.size]?) /\
     (Kept (fun i=>i<W1.heap.size/\i≠w.heap.size+1) W1 ((V.setCell ⟨w.heap.size+1,lo,none⟩ (vI iJ va)).setCell ⟨w.heap.size+1,hi,none⟩ (vI iJ vb)) /\
      ((V.setCell ⟨w.heap.size+1,lo,none⟩ (vI iJ va)).setCell ⟨w.heap.size+1,hi,none⟩ (vI iJ vb)).heap[w.heap.size+1]?=some (.cells (aA 16 (blk ((pre ++ [(⟨lo,hi,tn,x1,x2,x3,x4⟩:dH)]).foldl dG (iC k f)))) 43 (0,0))):=fun V hV=>by
    have hVb:V.heap[w.heap.size+1]?=some (.cells (aA 16 (blk g)) 43 (0,0)):=(hV.block _ (lt_of_block h2)).trans h2;have far:∀j,j<W1.heap.size->j≠w.heap.size+1->((V.setCell ⟨w.heap.size+1,lo,none⟩ (vI iJ va)).setCell ⟨w.heap.size+1,hi,none⟩ (vI iJ vb)).heap[j]?=U.heap[j]?:=fun j hj hn=>
     ((Below.heap_setCell _ _ _ _ hn).trans (Below.heap_setCell _ _ _ _ hn)).trans (hV.block j (by show j<U.heap.size;omega))
    refine⟨(((KeepsOthers.drew U).trans (Old.keepsOthers hV)).trans ((KeepsOthers.setCell _ _ _).trans (KeepsOthers.setCell _ _ _))).from _,⟨far _ zO zO,far _ zO zO⟩,⟨?_,?_,?_,fun j hj=>(far j hj.1 hj.2).trans (h1.block j hj)⟩,?_⟩
    ·exact hV.os.trans h1.os
    ·exact hV.output.trans h1.output
    ·have:=hV.size;simp[World.setCell]at this |-;omega
    ·rw[hg3,<-hbl,<-dS _ _ _ _ x2,<-dS _ _ _ _ x1];exact heap_setCell_same _ _ _ _ _ _ (heap_setCell_same _ _ _ _ _ _ hVb)
   obtain⟨cl,ch,fl,fh,_,_⟩:=cells U h2;have HT:=zH hcT;have HCell:=zH (fun V (h:Old U.drew V)=>cells V ((h.block _ (lt_of_block h2)).trans h2));have HK1:=zH keep1;have HK2:=zH keep2;have HF:=zH fin;have j1:(0:Int)<=lo:=zO;have j2:(lo:Int)<16:=zO;have j3:(0:Int)<=hi:=zO;have j4:(hi:Int)<16:=zO;have j5:(0:Int)<=tn:=zO;have j6:(tn:Int)<8:=zO;clear hcT cells keep1 keep2 fin h1 h2 hbl hg3 ht b2 HB
   gi_wp2
   refine sV (S:=fun w'=>w'.cell? ⟨Bx,0,none⟩=some (vI iJ lo)/\w'.cell? ⟨Bx,1,none⟩=some (vI iJ hi)/\w'.cell? ⟨Bx,2,none⟩=some (vI iJ tn)/\w'.cell? ⟨bt,tn*2,none⟩=some (vI iJ pv)/\w'.cell? ⟨bt,tn*2+1,none⟩=some (vI iJ uv)) zK zK (by rintro ⟨a,w,h⟩;exact h) ?_ (fun hHeld=>?_)
   ·exact HK1.o _ (Old.refl _)
   refine (uU 0) ((uU 1) ((uU 2) ((uU 3) ((uU 4) ((uU 5) ((uU 6) ((uU 8) ((uU 9) ((uU 10) ((uU 12) ((uU 13) ((uU 14) ((uU 15) ?_)))))))))))));refine wpAnyH_ready (rs:=[7,11]) zK zS ?_;refine AllReadyH.cons (o:=⟨some _,_,_,_,_,_⟩) rfl (fun K hK=>?_) (AllReadyH.cons (o:=⟨some _,_,_,_,_,_⟩) rfl (fun K hK=>?_) AllReadyH.nil)
   ·go_simp;refine hK.out _ _ (HK1.o _ (Old.refl _)) (fun hHeld=>?_);clear hK K
    try simp only[Act.put,sA,sZ,sS]
    refine wpAnyH_ready (rs:=[11]) zK zS ?_;refine AllReadyH.cons (o:=⟨some _,_,_,_,_,_⟩) rfl (fun K hK=>?_) AllReadyH.nil;go_simp;refine hK.out _ _ (HK1.o _ (Old.refl _)) (fun hHeld=>?_);clear hK K
    try simp only[Act.put,sA,sZ,sS]
    refine wpAnyH_ready (rs:=[16]) zK zS ?_;refine AllReadyH.cons (o:=⟨some _,_,_,_,_,_⟩) rfl (fun K hK=>?_) AllReadyH.nil;go_simp;refine(HT.o _).mono ?_;rintro e V ⟨rfl,hV⟩
    go_wp2_with fail
    have hSV:=HK1.o _ hV;obtain⟨vl,vh,vfl,vfh,vh2,vfh2⟩:=HCell.o _ hV;have HFV:=zH (HF.o _ hV);clear hV;refine hK.out _ _ hSV (fun hHeld=>?_);clear hK K;refine (uU 17) ((uU 18) ((uU 19) ((uU 20) ?_)));refine wpAnyH_ready (rs:=[21]) zK zS ?_;refine AllReadyH.cons (o:=⟨none,_,_,_,_,_⟩) rfl (fun K hK=>?_) AllReadyH.nil;go_simp;refine hK.out _ _ (HK2.o _ _ _ hSV) (fun hHeld=>?_);clear hK K;refine (uU 22) ?_;refine wpAnyH_ready (rs:=[23]) zK zS ?_;refine AllReadyH.cons (o:=⟨none,_,_,_,_,_⟩) rfl (fun K hK=>?_) AllReadyH.nil;go_simp;refine hK.out _ _ (HK2.o _ _ _ (HK2.o _ _ _ hSV)) (fun hHeld=>?_);clear hK K
    try simp only[Act.put,sA,sZ,sS]
    refine wpAnyH_done zK ?_ _;exact HFV.o
   ·go_simp;refine hK.out _ _ (HK1.o _ (Old.refl _)) (fun hHeld=>?_);clear hK K
    try simp only[Act.put,sA,sZ,sS]
    refine wpAnyH_ready (rs:=[7]) zK zS ?_;refine AllReadyH.cons (o:=⟨some _,_,_,_,_,_⟩) rfl (fun K hK=>?_) AllReadyH.nil;go_simp;refine hK.out _ _ (HK1.o _ (Old.refl _)) (fun hHeld=>?_);clear hK K
    try simp only[Act.put,sA,sZ,sS]
    refine wpAnyH_ready (rs:=[16]) zK zS ?_;refine AllReadyH.cons (o:=⟨some _,_,_,_,_,_⟩) rfl (fun K hK=>?_) AllReadyH.nil;go_simp;refine(HT.o _).mono ?_;rintro e V ⟨rfl,hV⟩
    go_wp2_with fail
    have hSV:=HK1.o _ hV;obtain⟨vl,vh,vfl,vfh,vh2,vfh2⟩:=HCell.o _ hV;have HFV:=zH (HF.o _ hV);clear hV;refine hK.out _ _ hSV (fun hHeld=>?_);clear hK K;refine (uU 17) ((uU 18) ((uU 19) ((uU 20) ?_)));refine wpAnyH_ready (rs:=[21]) zK zS ?_;refine AllReadyH.cons (o:=⟨none,_,_,_,_,_⟩) rfl (fun K hK=>?_) AllReadyH.nil;go_simp;refine hK.out _ _ (HK2.o _ _ _ hSV) (fun hHeld=>?_);clear hK K;refine (uU 22) ?_;refine wpAnyH_ready (rs:=[23]) zK zS ?_;refine AllReadyH.cons (o:=⟨none,_,_,_,_,_⟩) rfl (fun K hK=>?_) AllReadyH.nil;go_simp;refine hK.out _ _ (HK2.o _ _ _ (HK2.o _ _ _ hSV)) (fun hHeld=>?_);clear hK K
    try simp only[Act.put,sA,sZ,sS]
    refine wpAnyH_done zK ?_ _;exact HFV.o
 ·obtain rfl:k=4:=zO;have hS':=hS.o;have Hb:=zH hS'.b;have Hr:=zH hS'.r;have Hd:=zH (hS'.done zO (aA 16 (blk (iC 4 f))));have Hn:=zH hS'.nd;have Hs:Hid ((zP.info? 43).map (·.size)=some 16):=zH zK;have H1:Hid ((aA 16 (blk (iC 4 f))).all (·.oneCell')=true):=zH (bN _ _);clear hS hS'
  go_wp2_with (first | (with_reducible refine wpList_load_row rfl 43 _ rfl (w.heap.size+1) rfl 43 (aA 16 (blk (iC 4 f))) (0,0) _ Hb.o underlying43 rfl (by rw[aB];exact Hs.o) ?_) | (with_reducible refine wpList_store_row rfl 43 _ _ rfl (w.heap.size+1+1) (aA 16 (blk (iC 4 f))) rfl rfl 43 _ Hr.o (by rw[aB];exact Hs.o) (by rw[aB];exact hzs) H1.o ?_))
  refine nM Ds _ Hn.o Hd.o.1 fun w' hk=>?_;obtain⟨e1,e2⟩:=Hd.o.2 w' hk;exact⟨_,results_cell_row rfl _ _ (w.heap.size+1+1) 43 (aA 16 (blk (iC 4 f))) (0,0) _ rfl e1 underlying43 rfl (by rw[aB];exact Hs.o),rfl,e2⟩
open Go.ChangeShapes Go.WideShapes
def iY(G:nI)(ng:Nat):Nat->(nI)->Nat->Int:=fun b f=>NK f (dJ G ng b)
def aEW(G:nI)(ng:Nat):Nat->(nI)->Nat->Int:=fun b f=>aIi f (dJ G ng b)
def mR:Nat->(nI)->Nat->Int:=fun _ f=>mF 4 f
def back:Nat->(nI)->Nat->Int:=fun _ f=>iC 4 f
def UN(N:Nat)(G:nI)(ng:Nat)(F:nI):nI:=bR bB bA N (dL N (iY G ng) F)
def fN(N:Nat)(G:nI)(ng:Nat)(F:nI):nI:=dL N mR (UN N G ng F)
def gP(n:Nat)(F:nI):nI:=bR cV bW n (dL n back F)
def gJ(n:Nat)(G:nI)(ng:Nat)(F:nI):nI:=dL n (aEW G ng) (gP n F)
theorem aDn{f:nI}(h:aD f)(x:dH):aD (dG f x):=by
 intro k;unfold dG;split
 ·exact fT _
 ·split
  ·exact fT _
  ·exact h k
theorem MQ:∀(l:List dH) {f:nI},aD f->aD (l.foldl dG f)
 | [],_,h=>h
 | x :: l,_,h=>MQ l (aDn h x)
theorem aEY(n:Nat){f:nI}(h:aD f):aD (iC n f):=by
 induction n with
 | zero=>exact h
 | succ n ih=>exact MQ _ ih
theorem yG{φ:Nat->(nI)->Nat->Int}{F:nI}{n:Nat}(h:∀b f,aD f->aD (φ b f))(hF:aD F):aD (dL n φ F):=fun q=>by
 unfold dL;split
 ·exact aEG h hF q
 ·exact hF q
structure SpR(w:World)(bx:Nat)(pt:Option Addr)(N:Nat)(pg:Option Addr)(ng:Nat)(G M:nI)(W:World):Prop where
 at_:OwnR 16 (fun q=>q<w.heap.size\/q=bx) W pt N M
 box:W.heap[bx]?=some (.cells T8 57 (0,0))
 gs:SlF 4 W pg ng G
 old:Old w W
namespace SpR
variable {w W V:World} {bx:Nat} {pt:Option Addr} {N:Nat} {pg:Option Addr} {ng:Nat} {G M:nI}
theorem keep(h:SpR w bx pt N pg ng G M W)(o:Old W V):SpR w bx pt N pg ng G M V:=
 ⟨h.at_.old o,(o.block _ (lt_of_block h.box)).trans h.box,h.gs.old o,h.old.trans o⟩
theorem store{g:Nat}(h:SpR w bx (some ⟨g,0,none⟩) N pg ng G M W)(h0:SlF 4 w pg ng G)(k:Nat)(hk:k<N)(f:nI):SpR w bx (some ⟨g,0,none⟩) N pg ng G (aV M (k*16) 16 f) (W.setCells g (k*16) (eH 16 f)):=by
 obtain⟨g',h1,h2,h3⟩:=h.at_ zO;have e:g'=g:=by simpa using h1.symm
 subst e;have ho:Old w (W.setCells g' (k*16) (eH 16 f)):=h.old.after (Kept.setCells (X:=fun q=>q<w.heap.size) W (fun e=>h2 (.inl e)) _ _) fun _ h=>h;exact⟨fun _=>⟨g',rfl,h2,h3.setCells (k*16) 16 zO f⟩,(cI _ _ _ _ _ (fun e=>h2 (.inr e.symm))).trans h.box,h0.old ho,ho⟩
theorem row{g:Nat}(h:SpR w bx (some ⟨g,0,none⟩) N pg ng G M W)(k:Nat)(hk:k<N):(∀j,j<16->W.cell? ⟨g,k*16+j,none⟩=some (vI iJ (M (k*16+j))))/\W.there g (k*16) 16:=by
 obtain⟨g',h1,_,h3⟩:=h.at_ zO;have e:g'=g:=by simpa using h1.symm
 subst e;exact⟨fun j hj=>h3.cell _ zO,h3.there _ _ zO⟩
theorem drew(h:SpR w bx pt N pg ng G M W):SpR w bx pt N pg ng G M W.drew:=h.keep (Old.drew (Old.refl _))
theorem turned{M':nI}(h:SpR w bx pt N pg ng G M W)(h0:SlF 4 w pg ng G)(k:Kept (fun q=>q<W.heap.size/\¬(0<N/\pt=some ⟨q,0,none⟩)) W V)(h2:OwnR 16 (fun q=>q<W.heap.size/\¬(0<N/\pt=some ⟨q,0,none⟩)) V pt N M'):SpR w bx pt N pg ng G M' V:=by
 have ho:Old w V:=h.old.after k fun q hq=>⟨Nat.lt_of_lt_of_le hq h.old.size,fun e=>by
  obtain⟨g,e1,e2,_⟩:=h.at_ e.1;rw[e.2]at e1;have e3:q=g:=congrArg Addr.block (Option.some.inj e1);exact e2 (.inl (e3 ▸ hq))⟩
 refine⟨fun hn=>?_,(k.block bx ⟨lt_of_block h.box,fun e=>?_⟩).trans h.box,h0.old ho,ho⟩
 ·obtain⟨g,e1,e2,_⟩:=h.at_ hn;obtain⟨g',e3,_,e4⟩:=h2 hn;have e5:g=g':=by rw[e1]at e3;simpa using e3
  subst e5;exact⟨g,e1,e2,e4⟩
 ·obtain⟨g,e1,e2,_⟩:=h.at_ e.1;rw[e.2]at e1;have e3:bx=g:=congrArg Addr.block (Option.some.inj e1);exact e2 (.inr e3.symm)
end SpR
theorem SpR.meetTurn{w W:World}{bx:Nat}{pt:Option Addr}{N:Nat}{pg:Option Addr}{ng:Nat}{G M:nI}(h:SpR w bx pt N pg ng G M W)(h0:SlF 4 w pg ng G)(cap:Nat)(hN:N<=17179869184):
  Calls zP 113 #[.slice pt N cap,.func (.func 184) #[.agg T8] #[]] W fun e w'=>e=rJ (.tuple #[])/\SpR w bx pt N pg ng G (bR bB bA N M) w':=
 (KD (fun q=>q<W.heap.size/\¬(0<N/\pt=some ⟨q,0,none⟩)) pt N cap M W (fun hn=>by obtain⟨g,h1,_,h3⟩:=h.at_ hn;exact⟨g,h1,fun e=>e.2 ⟨hn,h1⟩,h3⟩) (fun q hq=>hq.1) hN).mono
  fun _ _ ⟨h1,h2,h3⟩=>⟨h1,h.turned h0 h3 h2⟩
theorem OB(p:Option Addr)(n cap:Nat)(xs:List Int)(pg:Option Addr)(ng cg:Nat)(G:nI)(w:World)(hs:kK w .i64 (.slice p n cap) xs)(hn:n<=17179869184)(hg:SlF 4 w pg ng G):
  Calls zP 139 #[.agg T8,.slice p n cap,.slice pg ng cg] w fun e w'=>∃q c,e=rJ (.slice q (cW n) c)/\OwnR 16 (fun q=>q<w.heap.size) w' q (cW n) (fN (cW n) G ng (fun j=>xs.getD j 0))/\Old w w'/\q≠none:=by
 obtain⟨F,hF⟩:∃F:nI,F=fun j=>xs.getD j 0:=⟨_,rfl⟩
 have hB:=DM p n cap xs (w.alloc (.cells T8 57)) (hs.old (Old.alloc _ _)) zO;rw[<-hF]at hB |-;obtain⟨N,hN⟩:=zG (cW n);have hN2:N<=17179869184:=by rw[hN];unfold cW;omega
 rw[<-hN]at hB |-;have HB:=zH hB;have HGo:=zH (fun(i:Nat) (h:i<N) (V:World) (hV:SlF 4 V pg ng G)=>NH pg ng cg i G V hV zO);have Hs16:=zH Tryz.block_size;have HZ:Hid ((zP.info? 53).map (·.size)=some 16):=zH zK;have hs8:=kT;have HG:=zH hg;have HMt:=zH (fun(M:nI) (pt:Option Addr) (V:World) (h:SpR w w.heap.size pt N pg ng G M V) (c:Nat)=>h.meetTurn hg c hN2);have H0:Hid (∀W,CellsAt W (w.heap.size+1) (N*16) F->Old (w.alloc (.cells T8 57)) W->SpR w w.heap.size (some ⟨w.heap.size+1,0,none⟩) N pg ng G F W):=fun W hc ho=>
  ⟨fun _=>⟨_,rfl,fun e=>zO,hc.less zO⟩,(ho.block _ zS).trans (heap_alloc_new _ _),(hg.old (Old.alloc _ _)).old ho,(Old.alloc w _).trans ho⟩
 rw[World.size_alloc]at HB;clear hs hg hB hF hN;have HBx:Hid (∀(pt:Option Addr) (M:nI) (W:World),SpR w w.heap.size pt N pg ng G M W->W.heap[w.heap.size]?=some (.cells T8 57 (0,0))):=fun _ _ _ h=>h.box;generalize hT:T8=R at *;go_enter func139,ntmps139
 go_wp2_with fail
 refine HB.o.mono ?_;rintro e w1 ⟨rfl,hc1,ho1⟩;obtain⟨pt,hpt⟩:∃pt:Option Addr,pt=some ⟨w.heap.size+1,0,none⟩:=⟨_,rfl⟩
 rw[<-hpt]at H0 |-;have HPt:Hid (pt≠none):=zH (by rw[hpt];exact fun h=>by cases h);have H1:=zH (H0.o w1 hc1 ho1);clear hc1 ho1 H0 HB hpt
 go_wp2_with fail
 have HCall:=zH (fun(k:Nat) (h:k<N) (V:World)=>aHk (aN F k) (dJ G ng k) V)
 go_loopw [14] (fun i wr=>∃k:Nat,k<=N/\i=vI iJ k/\Hid (SpR w w.heap.size pt N pg ng G (dL k (iY G ng) F) wr)) (fun i _=>N-(intOf i).toNat)
 case atStart=>exact⟨0,zO,rfl,by rw[BE];exact H1⟩
 case round=>
  obtain⟨k,hk,rfl,HS⟩:=hrel;by_cases hlt:k<N
  ·clear H1;obtain⟨gb,rfl,_,_⟩:=HS.o.at_ zO;have i1:(0:Int)<=k:=zO;have i2:(k:Int)<N:=zO;have cells:Hid (∀V,Old wr.drew V->(∀j,j<16->V.cell? ⟨gb,k*16+j,none⟩=some (vI iJ (aN F k j)))/\V.there gb (k*16) 16):=fun V hV=>by
    have h:=(HS.o.drew.keep hV).row k hlt;exact⟨fun j hj=>by rw[<-IJ (iY G ng) F k j];exact h.1 j hj,h.2⟩
   have NX:Hid (∀V,Old wr.drew V->SpR w w.heap.size (some ⟨gb,0,none⟩) N pg ng G (dL (k+1) (iY G ng) F) (V.setCells gb (k*16) (eH 16 (iY G ng k (aN F k))))):=fun V hV=>by
    have h:=(HS.o.drew.keep hV).store HG.o k hlt (iY G ng k (aN F k))
    rwa [AJ]at h
   have HGs:Hid (∀V,Old wr.drew V->SlF 4 V pg ng G):=fun V hV=>(HS.o.drew.keep hV).gs;have hGo:=HGo.o k hlt;have hC:=HCall.o k hlt;have HGo':=zH hGo;have HC':=zH hC;clear hGo hC HS
   go_wp2_with fail
   refine wp_region_held_drew (S:=(fun _=>True)) zK ?_ (fun hHeld=>?_)
   ·exact trivial
   refine (uU 0) ((uU 1) ((uU 2) ((uU 3) ((uU 4) ((uU 6) ((uU 7) ?_))))));refine wpAnyH_ready (rs:=[5,8]) zK zS ?_;refine AllReadyH.cons (o:=⟨_,_,_,_,_,_⟩) rfl (fun K hK=>?_) (AllReadyH.cons (o:=⟨_,_,_,_,_,_⟩) rfl (fun K hK=>?_) AllReadyH.nil)
   ·rw[if_pos zK];refine jZ 16 (aN F k) 43 _ rfl (gb) (k*16) rfl _ ((cells.o _ (Old.refl _)).1) underlying43 rfl Hs16.o ?_
    try simp only[Act.put,sA,sZ,sS]
    refine hK.out _ _ ?_ (fun hHeld=>?_)
    ·exact trivial
    clear hK K
    try simp only[Act.put,sA,sZ,sS]
    refine wpR 8 rfl (fun K hK=>?_);go_simp;refine(HGo'.o _ (HGs.o _ (Old.refl _))).mono ?_;rintro e V1 ⟨rfl,o1⟩
    go_wp2_with fail
    refine hK.out _ _ ?_ (fun hHeld=>?_)
    ·exact trivial
    clear hK K
    try simp only[Act.put,sA,sZ,sS]
    refine wpR 9 rfl (fun K hK=>?_);go_simp;refine(HC'.o _).mono ?_;rintro e V2 ⟨rfl,o2⟩
    go_wp2_with fail
    refine hK.out _ _ ?_ (fun hHeld=>?_)
    ·exact trivial
    clear hK K;refine (uU 10) ?_;refine wpR 11 rfl (fun K hK=>?_);rw[if_pos zK];refine kS 16 (iY G ng k (aN F k)) 43 _ _ rfl (gb) (k*16) rfl rfl ((cells.o _ (o1.trans o2)).2) Hs16.o ?_
    try simp only[Act.put,sA,sZ,sS]
    refine hK.out _ _ ?_ (fun hHeld=>?_)
    ·exact trivial
    clear hK K
    try simp only[Act.put,sA,sZ,sS]
    refine wpAnyH_done zK ?_ _;have HN:=zH (NX.o _ (o1.trans o2));clear cells NX HGs o1 o2 HGo' HC'
    go_wp2_with fail
    go_roundw
    case rel=>exact⟨k+1,zO,by go_num,HN⟩
    case measure=>(simp[intOf];try omega)
   ·go_simp;refine(HGo'.o _ (HGs.o _ (Old.refl _))).mono ?_;rintro e V1 ⟨rfl,o1⟩
    go_wp2_with fail
    refine hK.out _ _ ?_ (fun hHeld=>?_)
    ·exact trivial
    clear hK K
    try simp only[Act.put,sA,sZ,sS]
    refine wpR 5 rfl (fun K hK=>?_);rw[if_pos zK];refine jZ 16 (aN F k) 43 _ rfl (gb) (k*16) rfl _ ((cells.o _ o1).1) underlying43 rfl Hs16.o ?_
    try simp only[Act.put,sA,sZ,sS]
    refine hK.out _ _ ?_ (fun hHeld=>?_)
    ·exact trivial
    clear hK K
    try simp only[Act.put,sA,sZ,sS]
    refine wpR 9 rfl (fun K hK=>?_);go_simp;refine(HC'.o _).mono ?_;rintro e V2 ⟨rfl,o2⟩
    go_wp2_with fail
    refine hK.out _ _ ?_ (fun hHeld=>?_)
    ·exact trivial
    clear hK K;refine (uU 10) ?_;refine wpR 11 rfl (fun K hK=>?_);rw[if_pos zK];refine kS 16 (iY G ng k (aN F k)) 43 _ _ rfl (gb) (k*16) rfl rfl ((cells.o _ (o1.trans o2)).2) Hs16.o ?_
    try simp only[Act.put,sA,sZ,sS]
    refine hK.out _ _ ?_ (fun hHeld=>?_)
    ·exact trivial
    clear hK K
    try simp only[Act.put,sA,sZ,sS]
    refine wpAnyH_done zK ?_ _;have HN:=zH (NX.o _ (o1.trans o2));clear cells NX HGs o1 o2 HGo' HC'
    go_wp2_with fail
    go_roundw
    case rel=>exact⟨k+1,zO,by go_num,HN⟩
    case measure=>(simp[intOf];try omega)
  ·obtain rfl:k=N:=zO;have H2:=HS;clear HS HCall;have hb:=HBx.o _ _ _ H2.o;have HM:=zH (HMt.o _ _ _ H2.o k);have HC2:=zH (fun(k':Nat) (h:k'<k) (V:World)=>PC (aN (bR bB bA k (dL k (iY G ng) F)) k') V);clear HGo HMt H1
   go_wp2_with (with_reducible refine wpList_load_row rfl 53 _ rfl w.heap.size rfl 57 R (0,0) _ hb underlying53 rfl (by rw[hs8];exact HZ.o) ?_)
   refine HM.o.mono ?_;rintro e w2 ⟨rfl,h3⟩;have H3:=zH h3;clear h3 HM H2 hb;obtain⟨M2,hM2⟩:∃M,M=bR bB bA k (dL k (iY G ng) F):=⟨_,rfl⟩
   rw[<-hM2]at H3 HC2;have HSpec:Hid (fN k G ng F=dL k mR M2):=by unfold Hid fN UN;rw[hM2]
   have HCall:=HC2;clear hM2 HC2;obtain⟨N,hNk⟩:=zG (k);subst hNk
   go_wp2_with fail
   go_loopw [36] (fun i wr=>∃k:Nat,k<=N/\i=vI iJ k/\Hid (SpR w w.heap.size pt N pg ng G (dL k (mR) M2) wr)) (fun i _=>N-(intOf i).toNat)
   case atStart=>exact⟨0,zO,rfl,by rw[BE];exact H3⟩
   case round=>
    obtain⟨k,hk,rfl,HS⟩:=hrel;by_cases hlt:k<N
    ·clear H3;obtain⟨gb,rfl,_,_⟩:=HS.o.at_ zO;have i1:(0:Int)<=k:=zO;have i2:(k:Int)<N:=zO;have cells:Hid (∀V,Old wr.drew V->(∀j,j<16->V.cell? ⟨gb,k*16+j,none⟩=some (vI iJ (aN M2 k j)))/\V.there gb (k*16) 16):=fun V hV=>by
      have h:=(HS.o.drew.keep hV).row k hlt;exact⟨fun j hj=>by rw[<-IJ (mR) M2 k j];exact h.1 j hj,h.2⟩
     have NX:Hid (∀V,Old wr.drew V->SpR w w.heap.size (some ⟨gb,0,none⟩) N pg ng G (dL (k+1) (mR) M2) (V.setCells gb (k*16) (eH 16 (mR k (aN M2 k))))):=fun V hV=>by
      have h:=(HS.o.drew.keep hV).store HG.o k hlt (mR k (aN M2 k))
      rwa [AJ]at h
     have HGs:Hid (∀V,Old wr.drew V->SlF 4 V pg ng G):=fun V hV=>(HS.o.drew.keep hV).gs;have HC':=zH (HCall.o k hlt);have HBo:Hid (∀V,Old wr.drew V->V.heap[w.heap.size]?=some (.cells R 57 (0,0))):=fun V hV=>HBx.o _ _ _ (HS.o.drew.keep hV);have HBs:Hid (∀V,Old wr.drew V->(V.setCells gb (k*16) (eH 16 (mR k (aN M2 k)))).heap[w.heap.size]?=some (.cells R 57 (0,0))):=fun V hV=>HBx.o _ _ _ (NX.o V hV);have hPart:=fun V h=>aEf V w.heap.size R h;clear HS HGs
     go_wp2_with fail
     refine wp_region_held_drew (S:=(fun w'=>w'.heap[w.heap.size]?=some (.cells R 57 (0,0)))) zK ?_ (fun hHeld=>?_)
     ·(try dsimp only);exact HBo.o _ (Old.refl _)
     refine (uU 0) ((uU 1) ((uU 2) ((uU 3) ((uU 4) ((uU 5) ((uU 6) ?_))))));refine wpR 7 rfl (fun K hK=>?_);rw[if_pos zK];refine jZ 16 (aN M2 k) 43 _ rfl (gb) (k*16) rfl _ ((cells.o _ (Old.refl _)).1) underlying43 rfl Hs16.o ?_
     try simp only[Act.put,sA,sZ,sS]
     refine hK.out _ _ ?_ (fun hHeld=>?_)
     ·(try dsimp only);exact hHeld
     clear hK K
     try simp only[Act.put,sA,sZ,sS]
     refine wpR 8 rfl (fun K hK=>?_);go_simp;refine(HC'.o _).mono ?_;rintro e V2 ⟨rfl,o2⟩
     go_wp2_with fail
     refine hK.out _ _ ?_ (fun hHeld=>?_)
     ·(try dsimp only);exact HBo.o _ o2
     clear hK K;refine (uU 9) ?_;refine wpR 10 rfl (fun K hK=>?_);rw[if_pos zK];refine kS 16 (mR k (aN M2 k)) 43 _ _ rfl (gb) (k*16) rfl rfl ((cells.o _ o2).2) Hs16.o ?_
     try simp only[Act.put,sA,sZ,sS]
     refine hK.out _ _ ?_ (fun hHeld=>?_)
     ·(try dsimp only);exact HBs.o _ o2
     clear hK K
     try simp only[Act.put,sA,sZ,sS]
     refine wpAnyH_done zK ?_ _;have HN:=zH (NX.o _ o2);clear cells NX o2 HC' HBo HBs hPart
     go_wp2_with fail
     go_roundw
     case rel=>exact⟨k+1,zO,by go_num,HN⟩
     case measure=>(simp[intOf];try omega)
    ·obtain rfl:k=N:=zO;have HE:Hid (OwnR 16 (fun q=>q<w.heap.size) wr pt k (fN k G ng F)/\Old w wr):=by
      rw[HSpec.o];exact⟨HS.o.at_.mono fun q hq=>.inl hq,HS.o.old⟩
     clear HS HCall HSpec H3
     go_wp2_with fail
     go_ret;exact⟨_,_,rfl,HE.o.1,HE.o.2,HPt.o⟩
def sG(f g:nI):Prop:=∀k,k<16->f k=g k
theorem VC{f g:nI}(h:sG f g)(x:dH):sG (dG f x) (dG g x):=fun k hk=>by
 unfold dG;rw[h _ x.h1,h _ x.h2,h k hk]
theorem BK:∀(l:List dH) {f g:nI},sG f g->sG (l.foldl dG f) (l.foldl dG g)
 | [],_,_,h=>h
 | x :: l,_,_,h=>BK l (VC h x)
theorem mZ(n:Nat){f g:nI}(h:sG f g):sG (iC n f) (iC n g):=by
 induction n with
 | zero=>exact h
 | succ n ih=>exact BK _ ih
theorem aHr(x s:Int):-9223372036854775808<=PR x s/\PR x s<=9223372036854775807:=fT _
theorem IH(G:nI)(ng b:Nat)(f:nI):aD (iY G ng b f):=fun k=>aHr _ _
theorem WT(N:Nat)(G:nI)(ng:Nat){F:nI}(h:aD F):aD (UN N G ng F):=
 aAf (fun _ _ _ _=>fT _) (fun _ _ _ _=>fT _) (yG (fun b f _=>IH G ng b f) h)
theorem oX(N:Nat)(G:nI)(ng:Nat){F:nI}(h:aD F):aD (fN N G ng F):=
 yG (fun _ _ hf=>xR 4 hf) (WT N G ng h)
theorem aFV(x s:Int)(h1:-1048576<=x)(h2:x<=1048576)(s0:0<=s)(s3:s<=3):fZ (PR x s) s=x:=by
 rcases(by omega:s=0\/s=1\/s=2\/s=3) with rfl | rfl | rfl | rfl
 ·unfold fZ PR iW;rw[show (0:Int).toNat=0 from rfl,show pw 0=1 from rfl,show (2:Int) ^ 0=1 from rfl,IntWalk.wrap64_in _ zO];split <;> omega
 ·unfold fZ PR iW;rw[show (1:Int).toNat=1 from rfl,show pw 1=2 from rfl,show (2:Int) ^ 1=2 from rfl,IntWalk.wrap64_in _ zO];split <;> omega
 ·unfold fZ PR iW;rw[show (2:Int).toNat=2 from rfl,show pw 2=4 from rfl,show (2:Int) ^ 2=4 from rfl,IntWalk.wrap64_in _ zO];split <;> omega
 ·unfold fZ PR iW;rw[show (3:Int).toNat=3 from rfl,show pw 3=8 from rfl,show (2:Int) ^ 3=8 from rfl,IntWalk.wrap64_in _ zO];split <;> omega
theorem RU{M:nI}(h:aD M)(N q:Nat)(hq:q<N*16):dL N back (dL N mR M) q=M q:=by
 rw[fE _ _ _ _ hq];obtain⟨b,r,rfl,hr,_,_⟩:=gY q;rw[gZ _ _ _ _ hr];unfold back;have e:sG (aN (dL N mR M) b) (mF 4 (aN M b)):=fun k hk=>by
  show dL N mR M (b*16+k)=_;rw[fE _ _ _ _ zO,gZ _ _ _ _ hk];rfl
 rw[mZ 4 e r hr,aGc (show aD (aN M b) from fun k=>h _)];rfl
theorem DI{F:nI}(h:aD F)(N:Nat)(G:nI)(ng q:Nat)(hq:q<N*16):gP N (fN N G ng F) q=dL N (iY G ng) F q:=by
 unfold gP fN;rw[AK (fun q hq=>RU (WT N G ng h) N q hq) q hq];unfold UN;rw[YX (yG (fun b f _=>IH G ng b f) h)]
theorem aCX{F:nI}(h:∀q,-1048576<=F q/\F q<=1048576)(N:Nat)(G:nI)(ng q:Nat)(hq:q<N*16):gJ N G ng (fN N G ng F) q=F q:=by
 have h64:aD F:=fun k=>by have:=h k;omega
 unfold gJ;rw[fE _ _ _ _ hq];obtain⟨b,r,rfl,hr,_,_⟩:=gY q;rw[gZ _ _ _ _ hr];have e:gP N (fN N G ng F) (b*16+r)=PR (F (b*16+r)) (mG (dJ G ng b) r):=by
  rw[DI h64 N G ng _ hq,fE _ _ _ _ hq,gZ _ _ _ _ hr];rfl
 show fZ (aN (gP N (fN N G ng F)) b r) (mG (dJ G ng b) r)=_;unfold aN;rw[e];exact aFV _ _ (h _).1 (h _).2 (sN _ _).1 (sN _ _).2
end Go.Proofs.YticpdokbiblpoaaGreatDoor
