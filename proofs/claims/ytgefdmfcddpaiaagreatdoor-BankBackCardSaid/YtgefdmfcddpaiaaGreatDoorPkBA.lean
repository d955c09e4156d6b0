/- Texts joined: Range, NetL, NetF, NetG, LapG, LapQ. -/
import Derived.RangeFuncNested
import Derived.RangeFuncBound
import Derived.RangeFuncCalls
import Derived.RangeFuncLeaves
import Derived.RangeFuncBox
import Derived.TacticsInMore
import Derived.OwnWalkIn
import Derived.LoopIn
import Derived.Deep.RegionHeld3
import Derived.Shelf.Abstract
import Derived.Test.YtgefdmfcddpaiaaGreatDoorPkAB
import Derived.Test.YtgefdmfcddpaiaaGreatDoorPkAC
import Derived.Test.YtgefdmfcddpaiaaGreatDoorPkAH
import Derived.Test.YtgefdmfcddpaiaaGreatDoorTk
namespace Go.Proofs.YtgefdmfcddpaiaaGreatDoor
set_option linter.unusedVariables false
set_option maxRecDepth 100000
open Go.RowKit
theorem calls_round{l n:Nat}{P:Program}{f:FuncId}{args:Array Value}{w:World}{R:Ending->World->Prop}(h:Calls P f args w R):CallsIn (Fence.wide.inRound l) n P f args w R:=
 CallsIn.inRound l (callsIn_wide.2 h)
theorem rows_round{l n:Nat}{P:Program}{row:String}{args:Array Value}{w:World}{R:Value->World->Prop}(h:Rows P row args w R):RowsIn (Fence.wide.inRound l) n P row args w R:=
 fun c cs _=>let ⟨v,w',r,s⟩:=h c cs;⟨v,w',r,(stepsIn_wide (P:=P)).2 s⟩
theorem oper_round{l n:Nat}{P:Program}{o:Oper}{a:Act}{w:World}{K K':Act->World->Prop}{Q:Exit->Act->World->Prop}(hd:∀c,o.op≠.defer c)(hno:¬LetsOut Q)
  (hK:∀a w,K a w->K' a w) (h:o.wp P a w K Q):o.wpIn (Fence.wide.inRound l) n P a w K' Q:=by
 refine⟨fun _ _=>trivial,?_⟩
 rw [Oper.semAt_eq _ _ _ hd]
 unfold Oper.wp at h
 generalize (execOp a.eval o).run P w=r at *
 cases r with
 | ok x w'=>
  cases x <;> simp only [Oper.upon,Oper.uponIn] at h ⊢ <;>
   first
    | exact hK _ _ h
    | exact h.elim
    | exact⟨fun hx=>by simp [Fence.wide] at hx,calls_round (Calls.mono h (fun e w'' he=>by cases e <;> first | exact hK _ _ he | exact he))⟩
    | exact⟨fun hx=>by simp [Fence.wide] at hx,rows_round (Rows.mono h (fun _ _ he=>hK _ _ he))⟩
 | halt x w'=>cases x <;> simp only [Oper.upon,Oper.uponIn] at h ⊢ <;> first | exact h | exact h.elim
theorem ops_round{l n:Nat}{P:Program}{ops:Array Oper}{Q:Exit->Act->World->Prop}(hd:(ops.all fun o=>match o.op with | .defer _=>false | _=>true)=true)(hno:¬LetsOut Q):
  ∀(is:List Nat) (a:Act) (w:World),wpOps P ops Q is a w->wpOpsIn (Fence.wide.inRound l) n P ops Q is a w
 | [],a,w,h=>h
 | i :: rest,a,w,h=>by
  unfold wpOps at h
  unfold wpOpsIn
  cases ho:ops[i]? with
  | none=>simp only [ho] at h ⊢;exact ops_round hd hno rest a w h
  | some o=>
   simp only [ho] at h ⊢
   have hdo:∀c,o.op≠.defer c:=by
    intro c hc
    obtain⟨hi,he⟩:=Array.getElem?_eq_some_iff.1 ho
    have:=Array.all_eq_true.1 hd i hi
    rw [he,hc] at this
    cases this
   split
   ·rename_i hw
    rw [if_pos hw] at h
    rcases h with h | ⟨_,h⟩
    ·exact oper_round hdo hno (fun a w=>ops_round hd hno rest a w) h
    ·exact absurd h hno
   ·rename_i hw
    rw [if_neg hw] at h
    exact⟨fun _ _=>trivial,ops_round hd hno rest _ _ h⟩
theorem region_round{l n:Nat}{P:Program}{id:Nat}{ops:Array Oper}{Q:Exit->Act->World->Prop}{a:Act}{w:World}{S:World->Prop}(hm:P.follows .mixedOrders=true)
  (hd:(ops.all fun o=>match o.op with | .defer _=>false | _=>true)=true) (hno:¬LetsOut Q) (hS:S w.drew)
  (h:S w.drew->wpAnyH P .any ops Q S ops.size (Array.replicate ops.size false) a w.drew):(Code.region id ops true).wpIn (Fence.wide.inRound l) n P Q a w:=
 wpIn_region_draw fun t=>by
  simp only [Region.schedule,hm,Bool.true_or,if_true]
  exact ops_round hd hno _ _ _ (wpAny_sound ops.size t _ a _ (wpAny_of_held _ _ _ _ (h hS)))
theorem _root_.Go.Proofs.YtgefdmfcddpaiaaGreatDoor.Old.keepsOthers{w w':World}(h:Old w w'):KeepsOthers w w':=⟨h.size,fun k o hk _=>(h.block k (Array.getElem?_eq_some_iff.1 hk).1).trans hk⟩
theorem cell_box(W:World)(v:Value)(t:TypeId):(W.alloc (.cells #[v] t)).cell? ⟨W.heap.size,0,none⟩=some v:=
 (cell_of_row _ _ _ _ _ _ (World.alloc_heap_new W (.cells #[v] t))).trans rfl
def mark(D:Nat):Deferred:={ target:=.collected D,args:=#[] }
theorem leaves_marks{F:Fence}{n:Nat}{P:Program}{fn:Func}{tmps:Array Value}{R:Ending->World->Prop} : ∀(Ds:List Nat) (w:World),Ds.Nodup->(∀D∈Ds,w.heap[D]?=some (.deferred (some []))) ->
  (∀w',Kept (fun k=>k ∉ Ds) w w'->LeavesIn F n P fn tmps R [] .returning w')->LeavesInM F n P fn tmps R (Ds.map mark) .returning w
 | [],w,_,_,h=>h w (Kept.refl _ _)
 | D :: Ds,w,hn,hD,h=>by
  have hD0:=hD D (by simp)
  refine⟨by simp,.inl ⟨D,_,rfl,run_takeDeferred hD0,?_⟩⟩
  have hK:Kept (fun k=>k≠D) w (w.putObj D (.deferred none)):=
   ⟨(grownBy_putObj' w D _).os,(grownBy_putObj' w D _).output,(grownBy_putObj' w D _).size,fun k hk=>World.putObj_heap_other hk⟩
  obtain⟨hn1,hn2⟩:=List.nodup_cons.1 hn
  refine leaves_marks Ds _ hn2 (fun E hE=>?_) fun w' hw'=>?_
  ·exact(hK.block E (fun e=>hn1 (e ▸ hE))).trans (hD E (by simp [hE]))
  ·exact h w' ((hK.mono fun k hk e=>hk (by simp [e])).trans (hw'.mono fun k hk e=>hk (by simp [e])))
theorem calls_marks{n:Nat}{P:Program}{f:FuncId}{fn:Func}{c:Code}{args:Array Value}{w:World}{R:Ending->World->Prop}(hf:P.funcs[f]?=some fn)(hb:fn.body=some c)
  (h:c.wp P (bodyPostM Fence.wide n P fn R) { tmps:=args ++ Array.replicate (fn.ntmps-args.size) undef,defers:=[] } w):Calls P f args w R:=
 (callsIn_wide (n:=n)).1 (callsIn_of_wp_marks hf hb trivial (wpIn_wide.2 h) rfl)
attribute [local go_sem] Oper.semAt_some
theorem pair_len(r k:Nat)(h:k<16):(pairs r k).length<16:=by
 have:=List.length_filterMap_le (pairR r) (List.range k)
 rw [List.length_range] at this
 unfold pairs
 omega
theorem and_apart(r:Nat)(hr:r<4)(i:Nat)(hi:i<16):bits .and .i64 (i:Int) (apart r:Int)=if i/apart r%2=0 then 0 else(apart r:Int):=by
 revert i
 rcases(by omega:r=0\/r=1\/r=2\/r=3) with rfl | rfl | rfl | rfl <;> decide +kernel
theorem apart_bd(r:Nat)(hr:r<4):1<=apart r/\apart r<=8:=by
 rcases(by omega:r=0\/r=1\/r=2\/r=3) with rfl | rfl | rfl | rfl <;> decide
def PairsFn(ba br:Nat):Value:=.func (.func 178) #[] #[.pointer (some ⟨ba,0,none⟩),.pointer (some ⟨br,0,none⟩)]
theorem pairs_any(r:Nat)(hr:r<4)(w:World):
  Calls Tryz.prog 142 #[.int .i64 r] w fun e w'=>e = .returned (PairsFn (w.heap.size+1) w.heap.size)/\(w.alloc (.cells #[.int .i64 r] 3)).alloc (.cells #[.int .i64 (apart r)] 3)=w':=by
 rcases(by omega:r=0\/r=1\/r=2\/r=3) with rfl | rfl | rfl | rfl <;>
 ·go_enter Tryz.func142,Tryz.ntmps142
  go_wp2
  go_ret
  exact⟨rfl,rfl⟩
set_option maxHeartbeats 2000000 in
theorem pairs_it(n:Nat)(hn:1<=n)(r:Nat)(hr:r<4)(ba br:Nat)(w:World)(ha:w.cell? ⟨ba,0,none⟩=some (.int .i64 (apart r)))(hb:w.cell? ⟨br,0,none⟩=some (.int .i64 r)):
  SeqStopsK Fence.wide n Tryz.prog 178 #[.pointer (some ⟨ba,0,none⟩),.pointer (some ⟨br,0,none⟩)] (fun x:NPair=>#[x.val])
   (fun W W'=>W'.heap[ba]?=W.heap[ba]?/\W'.heap[br]?=W.heap[br]?) (fun xs=>xs=pairs r 16) (fun _=>True) 16 w:=fun l J Jx W hW hJ hJx hY h0=>by
 have ca:W.cell? ⟨ba,0,none⟩=some (.int .i64 (apart r)):=((Kept.below hW fun _ hk=>hk).cell (World.block_lt_of_cell? w _ ha)).trans ha
 have cb:W.cell? ⟨br,0,none⟩=some (.int .i64 r):=((Kept.below hW fun _ hk=>hk).cell (World.block_lt_of_cell? w _ hb)).trans hb
 have H:=zH (⟨h0,ca,cb⟩:J [] W/\W.cell? ⟨ba,0,none⟩=some (.int .i64 (apart r))/\W.cell? ⟨br,0,none⟩=some (.int .i64 r))
 have HY:=zH hY
 clear ha hb hW ca cb hY h0 hJ hJx
 obtain⟨p1,p2⟩:=apart_bd r hr
 refine callsIn_of_wp Tryz.func178 rfl trivial ?_ rfl
 simp only [Tryz.ntmps178,List.size_toArray,List.length_cons,List.length_nil,Nat.reduceAdd,Nat.reduceSub,Array.replicate_succ,Array.replicate_zero,List.push_toArray,List.append_toArray,List.nil_append,List.cons_append]
 gi_wp2
 gi_loopw [5] (fun i wr=>∃k:Nat,i = .int .i64 k/\k<=16/\Hid (J (pairs r k) wr/\wr.cell? ⟨ba,0,none⟩=some (.int .i64 (apart r))/\wr.cell? ⟨br,0,none⟩=some (.int .i64 r))) (fun i _=>16-(intOf i).toNat)
 case atStart=>exact⟨0,rfl,by omega,H⟩
 case round=>
  obtain⟨k,rfl,hk,hj⟩:=hrel
  obtain⟨hj,ca,cb⟩:=hj.out
  clear H
  by_cases hlt:k<16
  ·have i1:(0:Int)<=k:=by omega
   have i2:(k:Int)<16:=by omega
   by_cases hl:k/apart r%2=0
   ·have hin:=low_in r hr k hlt hl
    have hand:bits .and .i64 (k:Int) (apart r:Int)=0:=by rw [and_apart r hr k hlt,if_pos hl]
    have hp:=pairs_yes r k hl hin
    obtain⟨fn,tmps,assign,body,hy,hR⟩:=HY.out (pairs r k) (pairOf r k hin) wr hj (pair_len r k hlt)
    have e3:(((3*k+5*r)%8:Nat):Int)=(3*(k:Int)+5*(r:Int))%8:=by omega
    have e:(pairOf r k hin).val = .agg #[.int .i64 k,.int .i64 ((k:Int)+(apart r:Int)),.int .i64 ((3*(k:Int)+5*(r:Int))%8)]:=by
     show Value.agg #[.int .i64 k,.int .i64 ((k+apart r:Nat):Int),.int .i64 (((3*k+5*r)%8:Nat):Int)]=_
     rw [Int.natCast_add,e3]
    rw [e] at hy
    have HR:=zH hR
    have HP:=zH hp
    have r1:(0:Int)<=r:=by omega
    have r2:(r:Int)<4:=by omega
    have q1:(1:Int)<=(apart r:Int):=by omega
    have q2:(apart r:Int)<=8:=by omega
    clear hR hp hj HY e e3
    gi_wp2
    refine HR.out.mono ?_
    rintro e W3 (⟨rfl,hJ3,hk3⟩ | ⟨rfl,hJx3⟩)
    ·have hn3:Hid (J (pairs r (k+1)) W3/\W3.cell? ⟨ba,0,none⟩=some (.int .i64 (apart r))/\W3.cell? ⟨br,0,none⟩=some (.int .i64 r)):=
      ⟨by rw [HP.out];exact hJ3,(World.cell?_of_block (w:=wr) (a:=⟨ba,0,none⟩) hk3.1).trans ca,(World.cell?_of_block (w:=wr) (a:=⟨br,0,none⟩) hk3.2).trans cb⟩
     clear hJ3 hk3
     gi_wp2
     go_roundw
     case rel=>exact⟨k+1,by go_num,by omega,hn3⟩
     case measure=>simp [intOf];omega
    ·have hx3:=zH hJx3
     clear hJx3
     gi_wp2
     refine bodyPost_ret (results_none rfl _ _ _) rfl ?_
     exact⟨⟨_,rfl⟩,.inr ⟨_,trivial,hx3.out⟩⟩
   ·have hand:bits .and .i64 (k:Int) (apart r:Int)=apart r:=by rw [and_apart r hr k hlt,if_neg hl]
    have hn3:Hid (J (pairs r (k+1)) wr/\wr.cell? ⟨ba,0,none⟩=some (.int .i64 (apart r))/\wr.cell? ⟨br,0,none⟩=some (.int .i64 r)):=
     ⟨by rw [pairs_no r k hl];exact hj,ca,cb⟩
    have q1:(1:Int)<=(apart r:Int):=by omega
    have q2:(apart r:Int)<=8:=by omega
    clear hj HY
    gi_wp2
    go_roundw
    case rel=>exact⟨k+1,by go_num,by omega,hn3⟩
    case measure=>simp [intOf];omega
  ·obtain rfl:k=16:=by omega
   have hfin:=zH hj
   clear hj HY
   gi_wp2
   go_end0
   exact⟨⟨_,rfl⟩,.inl ⟨_,rfl,hfin.out⟩⟩
structure NetSt(w:World)(tb tt:TypeId)(bb br bt:Nat)(z:Array Value)(g:Nat->Int)(Ds:List Nat)(W:World):Prop where
 b:W.heap[bb]?=some (.cells (rowN 16 (blk g)) tb (0,0))
 t:W.heap[bt]?=some (.cells (rowN 16 (turnF 8)) tt (0,0))
 r:W.heap[br]?=some (.cells z tb (0,0))
 old:Old w W
 nb:w.heap.size<=bb
 nt:bt≠bb
 nr:br≠bb
 nd:Ds.Nodup
 lo:∀D∈Ds,w.heap.size<=D
 ds:∀D∈Ds,W.heap[D]?=some (.deferred (some []))
namespace NetSt
variable {w W W':World} {tb tt:TypeId} {bb br bt:Nat} {z:Array Value} {g g':Nat->Int} {Ds:List Nat}
theorem keep(h:NetSt w tb tt bb br bt z g Ds W)(k:Old W W'):NetSt w tb tt bb br bt z g Ds W':=
 ⟨(k.block bb (lt_of_block h.b)).trans h.b,(k.block bt (lt_of_block h.t)).trans h.t,(k.block br (lt_of_block h.r)).trans h.r,h.old.trans k,h.nb,h.nt,h.nr,h.nd,h.lo,fun D hD=>(k.block D (lt_of_block (h.ds D hD))).trans (h.ds D hD)⟩
theorem next(h:NetSt w tb tt bb br bt z g Ds W)(k:Kept (fun i=>i<W.heap.size/\i≠bb) W W')(hb:W'.heap[bb]?=some (.cells (rowN 16 (blk g')) tb (0,0)))(D:Nat)(hD:W.heap.size<=D)(hd:W'.heap[D]?=some (.deferred (some []))):
  NetSt w tb tt bb br bt z g' (D :: Ds) W':=by
 have hn:=h.nb
 refine⟨hb,(k.block bt ⟨lt_of_block h.t,h.nt⟩).trans h.t,(k.block br ⟨lt_of_block h.r,h.nr⟩).trans h.r,h.old.after (X:=fun i=>i<W.heap.size/\i≠bb) k (fun i hi=>⟨Nat.lt_of_lt_of_le hi h.old.size,by omega⟩),hn,h.nt,h.nr,List.nodup_cons.2 ⟨fun hm=>?_,h.nd⟩,fun E hE=>?_,fun E hE=>?_⟩
 ·have:=lt_of_block (h.ds D hm);omega
 ·have:=h.old.size
  rcases List.mem_cons.1 hE with rfl | hE
  ·omega
  ·exact h.lo E hE
 ·rcases List.mem_cons.1 hE with rfl | hE
  ·exact hd
  ·have hE':=h.ds E hE
   refine(k.block E ⟨lt_of_block hE',fun e=>?_⟩).trans hE'
   rw [e,h.b] at hE'
   cases hE'
theorem done(h:NetSt w tb tt bb br bt z g Ds W)(hrw:w.heap.size<=br)(cs:Array Value):(∀D∈Ds,(W.setRow br cs).heap[D]?=some (.deferred (some []))) /\
  ∀w',Kept (fun k=>k ∉ Ds) (W.setRow br cs) w'->w'.heap[br]?=some (.cells cs tb (0,0))/\Old w w':=by
 have hne:∀D∈Ds,D≠br:=fun D hD e=>by
  have:=h.ds D hD
  rw [e,h.r] at this
  cases this
 have h1:Old w (W.setRow br cs):=h.old.after (X:=fun k=>k<w.heap.size) ⟨rfl,rfl,by simp,fun k hk=>setRow_other _ _ _ _ (by omega)⟩ fun _ h=>h
 refine⟨fun D hD=>(setRow_other _ _ _ _ (hne D hD)).trans (h.ds D hD),fun w' hk=>⟨(hk.block br fun hm=>hne br hm rfl).trans (setRow_heap _ _ _ _ _ _ h.r),h1.after hk fun k hk' hm=>?_⟩⟩
 have:=h.lo k hm
 omega
end NetSt
theorem turnF_P(k:Nat)(h:k<8):turnF 8 (k*2) = .int .i64 (turnP k):=by
 unfold turnF turnC
 rw [if_pos (by omega),if_pos (by omega),show k*2/2=k by omega]
theorem turnF_U(k:Nat)(h:k<8):turnF 8 (k*2+1) = .int .i64 (turnU k):=by
 unfold turnF turnC
 rw [if_pos (by omega),if_neg (by omega),show (k*2+1)/2=k by omega]
open Go.Shelf
attribute [local go_sem] Oper.semAt_some
set_option maxHeartbeats 4000000 in
theorem Forward_any(f:Nat->Int)(w:World):
  Calls Tryz.prog 198 #[.agg #[],.agg (rowN 16 (blk f))] w fun e w'=>e = .returned (.agg (rowN 16 (blk (fwdN 4 f))))/\Old w w':=by
 refine calls_marks (n:=6) Tryz.func198 rfl ?_
 simp only [Tryz.ntmps198,List.size_toArray,List.length_cons,List.length_nil,Nat.reduceAdd,Nat.reduceSub,Array.replicate_succ,Array.replicate_zero,List.push_toArray,List.append_toArray,List.nil_append,List.cons_append]
 go_wp2_with fail
 refine(Turns_any _).mono ?_
 rintro e w1 ⟨rfl,ho⟩
 have Hz:Hid ((Tryz.prog.info? 51).map (·.size)=some 16):=zH (by kernel_rfl)
 have H1:Hid ((rowN 16 (turnF 8)).all (·.oneCell')=true):=zH (rowN_one _ _ fun _ _=>rfl)
 have Ho:=zH ho
 clear ho
 go_wp2_with (with_reducible refine wpList_store_row rfl 51 _ _ rfl w1.heap.size (rowN 16 (turnF 8)) rfl rfl 51 _ (heap_alloc_new _ _) (by rw [rowN_size];exact Hz.out) (by rw [rowN_size];kernel_rfl) H1.out ?_;rw [World.setRow_alloc_new])
 obtain⟨z,hz⟩:∃z:Array Value,z=#[.int .i64 0,.int .i64 0,.int .i64 0,.int .i64 0,.int .i64 0,.int .i64 0,.int .i64 0,.int .i64 0,.int .i64 0,.int .i64 0,.int .i64 0,.int .i64 0,.int .i64 0,.int .i64 0,.int .i64 0,.int .i64 0]:=⟨_,rfl⟩
 have hzs:z.size=16:=by rw [hz];rfl
 rw [←hz] at Ho
 clear hz
 obtain⟨bt,hbt⟩:∃bt,bt=w1.heap.size:=⟨_,rfl⟩
 rw [←hbt]
 have hst:NetSt w 43 51 (w.heap.size+1) (w.heap.size+1+1) bt z (fwdN 0 f) [] (w1.alloc (.cells (rowN 16 (turnF 8)) 51)):=by
  have ho:=Ho.out
  have hs:=ho.size
  simp only [World.size_alloc] at hs
  have hb:w1.heap[w.heap.size+1]?=some (.cells (rowN 16 (blk f)) 43 (0,0)):=(ho.block _ (by simp)).trans ((Below.heap_alloc _ _ _ (by simp)).trans (by
   have:=World.alloc_heap_new (w.alloc (.cells #[] 55)) (.cells (rowN 16 (blk f)) 43);rwa [World.size_alloc] at this))
  have hr:w1.heap[w.heap.size+1+1]?=some (.cells z 43 (0,0)):=(ho.block _ (by simp)).trans (by
   have:=World.alloc_heap_new ((w.alloc (.cells #[] 55)).alloc (.cells (rowN 16 (blk f)) 43)) (.cells z 43);rwa [World.size_alloc,World.size_alloc] at this)
  have h0:Old w w1:=(((Old.alloc w _).alloc' _).alloc' _).trans ho
  exact⟨(Below.heap_alloc _ _ _ (by omega)).trans hb,by rw [hbt];exact World.alloc_heap_new _ _,(Below.heap_alloc _ _ _ (by omega)).trans hr,h0.alloc' _,by omega,by omega,by omega,List.nodup_nil,fun D hD=>(by cases hD),fun D hD=>(by cases hD)⟩
 have Hst:=zH hst
 clear hst Ho hbt H1
 go_wp2
 refine wp_loop (fun a W=>∃(k:Nat) (Ds:List Nat) (u6 u10 u11 u12 u13 u37:Value),k<=4/\a = { tmps:=#[.agg #[],.agg (rowN 16 (blk f)),.pointer (some ⟨w.heap.size,0,none⟩),.pointer (some ⟨w.heap.size+1,0,none⟩),.pointer (some ⟨w.heap.size+1+1,0,none⟩),.pointer (some ⟨bt,0,none⟩),u6,undef,.agg (rowN 16 (turnF 8)),.int .i64 k,u10,u11,u12,u13,undef,undef,undef,undef,undef,undef,undef,undef,undef,undef,undef,undef,undef,undef,undef,undef,undef,undef,undef,undef,undef,undef,undef,u37,undef],defers:=Ds.map mark }/\Hid (NetSt w 43 51 (w.heap.size+1) (w.heap.size+1+1) bt z (fwdN k f) Ds W))
  (fun a _=>4-(intOf (a.tmps.getD 9 undef)).toNat) ?_ ?_
 ·exact⟨0,[],undef,undef,undef,undef,undef,undef,by omega,rfl,Hst⟩
 rintro a W ⟨k,Ds,u6,u10,u11,u12,u13,u37,hk,rfl,hS⟩
 clear Hst
 dsimp only
 by_cases hlt:k<4
 ·have i1:(0:Int)<=k:=by omega
  have i2:(k:Int)<4:=by omega
  have hP:=pairs_any k hlt W
  have hIt:=fun ba br W1=>pairs_it 5 (by omega) k hlt ba br W1
  unfold PairsFn at hP
  have HP:=zH hP
  have HIt:=zH hIt
  clear hP hIt
  go_wp2_with fail
  refine HP.out.mono ?_
  rintro e W1 ⟨rfl,hW1⟩
  have hb1:NetSt w 43 51 (w.heap.size+1) (w.heap.size+1+1) bt z (fwdN k f) Ds W1:=by rw [←hW1];exact hS.out.keep ((Old.alloc W _).alloc' _)
  have ca:W1.cell? ⟨W.heap.size+1,0,none⟩=some (.int .i64 (apart k)):=by
   rw [←hW1];have:=cell_box (W.alloc (.cells #[.int .i64 k] 3)) (.int .i64 (apart k)) 3;rwa [World.size_alloc] at this
  have cb:W1.cell? ⟨W.heap.size,0,none⟩=some (.int .i64 k):=by
   rw [←hW1];exact(World.cell?_alloc_lt _ _ _ (by simp)).trans (cell_box W _ _)
  have hsz:W1.heap.size=W.heap.size+1+1:=by rw [←hW1];simp
  have hbb:w.heap.size+1<W.heap.size:=lt_of_block hS.out.b
  have hseq:=HIt.out (W.heap.size+1) W.heap.size W1 ca cb
  have HB:=zH hb1
  clear hW1 HP HIt hS ca cb hb1
  go_wp2
  refine(wpIn_wide (n:=6)).1 (wpIn_rangeFunc_ownH rfl (by omega) rfl trivial (enters_of Tryz.func178 (by kernel_rfl) rfl) hseq
   (fun h k=>⟨k.1.trans h.1,k.2.trans h.2⟩) (fun U l _ o' hl _ _ _=>⟨World.putObj_heap_other (by omega),World.putObj_heap_other (by omega)⟩) (Below.refl _ _) (fun _=>rfl)
   (fun pre U=>Kept (fun i=>i<W1.heap.size/\i≠w.heap.size+1) W1 U/\U.heap[w.heap.size+1]?=some (.cells (rowN 16 (blk (pre.foldl stepT (fwdN k f)))) 43 (0,0)))
   (fun _ _ _=>False) ?hI (fun _ _ _ _ _ h _ _=>h) ⟨Kept.refl _ _,HB.out.b⟩
   (fun x a' U=>∃Bx,W1.heap.size<=Bx/\U.heap[Bx]?=some (.cells #[.int .i64 x.lo,.int .i64 x.hi,.int .i64 x.tn] 245 (0,0))/\a' = { tmps:=#[.agg #[],.agg (rowN 16 (blk f)),.pointer (some ⟨w.heap.size,0,none⟩),.pointer (some ⟨w.heap.size+1,0,none⟩),.pointer (some ⟨w.heap.size+1+1,0,none⟩),.pointer (some ⟨bt,0,none⟩),.int .i64 k,.pointer (some ⟨Bx,0,none⟩),.agg (rowN 16 (turnF 8)),.int .i64 k,.bool true,.int .i64 k,.int .i64 k,.func (.func 178) #[] #[.pointer (some ⟨W.heap.size+1,0,none⟩),.pointer (some ⟨W.heap.size,0,none⟩)],x.val,undef,undef,undef,undef,undef,undef,undef,undef,undef,undef,undef,undef,undef,undef,undef,undef,undef,undef,undef,undef,undef,undef,u37,undef],defers:=[] })
   ?hAx ?assign ?body ?done ?stop)
  case hI=>
   rintro pre U U' row ⟨h1,h2⟩ hg hr
   exact⟨h1.trans (Kept.grown hg (X:=fun i=>i<W1.heap.size/\i≠w.heap.size+1) (fun i hi=>Nat.lt_of_lt_of_le hi.1 h1.size) (fun i e hi=>by have:=(hr i e).1;omega)),(hg.block _ (lt_of_block h2) (fun e=>by have:=(hr _ e.symm).1;omega)).trans h2⟩
  case hAx=>
   rintro x a' _ U U' row ⟨Bx,b1,b2,b3⟩ hg hr
   refine⟨Bx,b1,(hg.block _ (lt_of_block b2) (fun e=>?_)).trans b2,b3⟩
   obtain⟨_,ob,h1,h2⟩:=hr _ e.symm
   rw [b2] at h1
   cases h1
   cases h2
  case assign=>
   rintro l pre x U K ⟨h1,h2⟩ hK
   have hU:W1.heap.size<=U.heap.size:=h1.size
   have hfin:K { tmps:=#[.agg #[],.agg (rowN 16 (blk f)),.pointer (some ⟨w.heap.size,0,none⟩),.pointer (some ⟨w.heap.size+1,0,none⟩),.pointer (some ⟨w.heap.size+1+1,0,none⟩),.pointer (some ⟨bt,0,none⟩),.int .i64 k,.pointer (some ⟨U.heap.size,0,none⟩),.agg (rowN 16 (turnF 8)),.int .i64 k,.bool true,.int .i64 k,.int .i64 k,.func (.func 178) #[] #[.pointer (some ⟨W.heap.size+1,0,none⟩),.pointer (some ⟨W.heap.size,0,none⟩)],x.val,undef,undef,undef,undef,undef,undef,undef,undef,undef,undef,undef,undef,undef,undef,undef,undef,undef,undef,undef,undef,undef,undef,u37,undef],defers:=[] } (U.alloc (.cells #[.int .i64 x.lo,.int .i64 x.hi,.int .i64 x.tn] 245)):=
    hK _ _ ((KeepsOthers.alloc _ _).from _) ⟨Below.heap_alloc _ _ _ (by omega),Below.heap_alloc _ _ _ (by omega)⟩ ⟨h1.trans (Kept.alloc U _ fun i hi=>by omega),(Below.heap_alloc _ _ _ (by omega)).trans h2⟩ ⟨U.heap.size,hU,World.alloc_heap_new _ _,rfl⟩
   have HF:=zH hfin
   clear hfin hK
   unfold NPair.val at HF ⊢
   gi_wp2
   exact HF.out
  case done=>
   rintro D xs U hD rfl ⟨h1,h2⟩ hd
   go_wp2
   refine⟨⟨k+1,D :: Ds,_,_,_,_,_,_,by omega,rfl,HB.out.next h1 h2 D hD hd⟩,?_⟩
   simp [intOf]
   omega
  case stop=>
   rintro D c pre U _ _ h _
   exact h.elim
  case body=>
   rintro l pre ⟨lo,hi,tn,x1,x2,x3,x4⟩ a' U hlB _ ⟨h1,h2⟩ ⟨Bx,b1,b2,rfl⟩ hlen
   dsimp only at b2
   unfold NPair.val
   dsimp only
   have hg2:∀g:Nat->Int,g=pre.foldl stepT (fwdN k f)->((pre ++ [(⟨lo,hi,tn,x1,x2,x3,x4⟩:NPair)]).foldl stepT (fwdN k f))=stepT g ⟨lo,hi,tn,x1,x2,x3,x4⟩:=fun g e=>by rw [List.foldl_append,←e];rfl
   obtain⟨g,hgd⟩:∃g,g=pre.foldl stepT (fwdN k f):=⟨_,rfl⟩
   have hg3:=hg2 g hgd
   have hbl:=blk_stepT g ⟨lo,hi,tn,x1,x2,x3,x4⟩
   dsimp only at hbl
   rw [←hgd] at h2
   clear hg2 hgd hseq
   have ht:U.heap[bt]?=some (.cells (rowN 16 (turnF 8)) 51 (0,0)):=(h1.block bt ⟨lt_of_block HB.out.t,HB.out.nt⟩).trans HB.out.t
   have hnt:=HB.out.nt
   have hsU:W1.heap.size<=U.heap.size:=h1.size
   have c0:U.cell? ⟨Bx,0,none⟩=some (.int .i64 lo):=(cell_of_row _ _ _ _ _ _ b2).trans rfl
   have c1:U.cell? ⟨Bx,1,none⟩=some (.int .i64 hi):=(cell_of_row _ _ _ _ _ _ b2).trans rfl
   have c2:U.cell? ⟨Bx,2,none⟩=some (.int .i64 tn):=(cell_of_row _ _ _ _ _ _ b2).trans rfl
   have ct:U.cell? ⟨bt,tn*2,none⟩=some (.int .i64 (turnP tn)):=(cell_of_row _ _ _ _ _ _ ht).trans ((rowN_at 16 (turnF 8) (tn*2) (by omega)).trans (by rw [turnF_P tn x4]))
   have cu:U.cell? ⟨bt,tn*2+1,none⟩=some (.int .i64 (turnU tn)):=(cell_of_row _ _ _ _ _ _ ht).trans ((rowN_at 16 (turnF 8) (tn*2+1) (by omega)).trans (by rw [turnF_U tn x4]))
   have hcT:=fun w=>Turn_all (g lo) (g hi) (turnP tn) (turnU tn) w
   generalize turnP tn=pv at *
   generalize turnU tn=uv at *
   generalize turnWA (g lo) (g hi) pv uv=va at *
   generalize turnWB (g lo) (g hi) pv uv=vb at *
   have cells:∀V:World,V.heap[w.heap.size+1]?=some (.cells (rowN 16 (blk g)) 43 (0,0))->V.cell? ⟨w.heap.size+1,lo,none⟩=some (.int .i64 (g lo))/\V.cell? ⟨w.heap.size+1,hi,none⟩=some (.int .i64 (g hi))/\V.frozen? ⟨w.heap.size+1,lo,none⟩=false/\V.frozen? ⟨w.heap.size+1,hi,none⟩=false /\
     (V.setCell ⟨w.heap.size+1,lo,none⟩ (.int .i64 va)).cell? ⟨w.heap.size+1,hi,none⟩=some (.int .i64 (g hi))/\(V.setCell ⟨w.heap.size+1,lo,none⟩ (.int .i64 va)).frozen? ⟨w.heap.size+1,hi,none⟩=false:=fun V hV=>by
    have e1:V.cell? ⟨w.heap.size+1,hi,none⟩=some (.int .i64 (g hi)):=(cell_of_row _ _ _ _ _ _ hV).trans (rowN_at 16 (blk g) hi x2)
    refine⟨(cell_of_row _ _ _ _ _ _ hV).trans (rowN_at 16 (blk g) lo x1),e1,frozen_of_row _ _ _ _ _ hV,frozen_of_row _ _ _ _ _ hV,?_,?_⟩
    ·rw [World.cell?_setCell_other _ _ _ _ (fun e=>x3 (by injection e))];exact e1
    ·rw [World.frozen?_setCell];exact frozen_of_row _ _ _ _ _ hV
   have keep1:∀V:World,Old U.drew V->V.cell? ⟨Bx,0,none⟩=some (.int .i64 lo)/\V.cell? ⟨Bx,1,none⟩=some (.int .i64 hi)/\V.cell? ⟨Bx,2,none⟩=some (.int .i64 tn)/\V.cell? ⟨bt,tn*2,none⟩=some (.int .i64 pv)/\V.cell? ⟨bt,tn*2+1,none⟩=some (.int .i64 uv):=fun V hV=>by
    have hb0:=lt_of_block b2
    have ht0:=lt_of_block ht
    exact⟨(Kept.cell hV hb0).trans c0,(Kept.cell hV hb0).trans c1,(Kept.cell hV hb0).trans c2,(Kept.cell hV ht0).trans ct,(Kept.cell hV ht0).trans cu⟩
   have keep2:∀(V:World) (j:Nat) (v:Value),(V.cell? ⟨Bx,0,none⟩=some (.int .i64 lo)/\V.cell? ⟨Bx,1,none⟩=some (.int .i64 hi)/\V.cell? ⟨Bx,2,none⟩=some (.int .i64 tn)/\V.cell? ⟨bt,tn*2,none⟩=some (.int .i64 pv)/\V.cell? ⟨bt,tn*2+1,none⟩=some (.int .i64 uv))->(V.setCell ⟨w.heap.size+1,j,none⟩ v).cell? ⟨Bx,0,none⟩=some (.int .i64 lo)/\(V.setCell ⟨w.heap.size+1,j,none⟩ v).cell? ⟨Bx,1,none⟩=some (.int .i64 hi)/\(V.setCell ⟨w.heap.size+1,j,none⟩ v).cell? ⟨Bx,2,none⟩=some (.int .i64 tn)/\(V.setCell ⟨w.heap.size+1,j,none⟩ v).cell? ⟨bt,tn*2,none⟩=some (.int .i64 pv)/\(V.setCell ⟨w.heap.size+1,j,none⟩ v).cell? ⟨bt,tn*2+1,none⟩=some (.int .i64 uv):=fun V j v hV=>by
    have n1:w.heap.size+1≠Bx:=by omega
    have n2:w.heap.size+1≠bt:=fun e=>hnt e.symm
    exact⟨(World.cell?_setCell_far _ _ _ _ n1).trans hV.1,(World.cell?_setCell_far _ _ _ _ n1).trans hV.2.1,(World.cell?_setCell_far _ _ _ _ n1).trans hV.2.2.1,(World.cell?_setCell_far _ _ _ _ n2).trans hV.2.2.2.1,(World.cell?_setCell_far _ _ _ _ n2).trans hV.2.2.2.2⟩
   have fin:∀V:World,Old U.drew V->KeepsFrom W1.heap.size U ((V.setCell ⟨w.heap.size+1,lo,none⟩ (.int .i64 va)).setCell ⟨w.heap.size+1,hi,none⟩ (.int .i64 vb)) /\
     (((V.setCell ⟨w.heap.size+1,lo,none⟩ (.int .i64 va)).setCell ⟨w.heap.size+1,hi,none⟩ (.int .i64 vb)).heap[W.heap.size+1]?=U.heap[W.heap.size+1]?/\((V.setCell ⟨w.heap.size+1,lo,none⟩ (.int .i64 va)).setCell ⟨w.heap.size+1,hi,none⟩ (.int .i64 vb)).heap[W.heap.size]?=U.heap[W.heap.size]?) /\
     (Kept (fun i=>i<W1.heap.size/\i≠w.heap.size+1) W1 ((V.setCell ⟨w.heap.size+1,lo,none⟩ (.int .i64 va)).setCell ⟨w.heap.size+1,hi,none⟩ (.int .i64 vb)) /\
      ((V.setCell ⟨w.heap.size+1,lo,none⟩ (.int .i64 va)).setCell ⟨w.heap.size+1,hi,none⟩ (.int .i64 vb)).heap[w.heap.size+1]?=some (.cells (rowN 16 (blk ((pre ++ [(⟨lo,hi,tn,x1,x2,x3,x4⟩:NPair)]).foldl stepT (fwdN k f)))) 43 (0,0))):=fun V hV=>by
    have hVb:V.heap[w.heap.size+1]?=some (.cells (rowN 16 (blk g)) 43 (0,0)):=(hV.block _ (lt_of_block h2)).trans h2
    have far:∀j,j<W1.heap.size->j≠w.heap.size+1->((V.setCell ⟨w.heap.size+1,lo,none⟩ (.int .i64 va)).setCell ⟨w.heap.size+1,hi,none⟩ (.int .i64 vb)).heap[j]?=U.heap[j]?:=fun j hj hn=>
     ((Below.heap_setCell _ _ _ _ hn).trans (Below.heap_setCell _ _ _ _ hn)).trans (hV.block j (by show j<U.heap.size;omega))
    refine⟨(((KeepsOthers.drew U).trans (Old.keepsOthers hV)).trans ((KeepsOthers.setCell _ _ _).trans (KeepsOthers.setCell _ _ _))).from _,⟨far _ (by omega) (by omega),far _ (by omega) (by omega)⟩,⟨?_,?_,?_,fun j hj=>(far j hj.1 hj.2).trans (h1.block j hj)⟩,?_⟩
    ·exact hV.os.trans h1.os
    ·exact hV.output.trans h1.output
    ·have:=hV.size
     simp [World.setCell] at this ⊢
     omega
    ·rw [hg3,←hbl,←rowN_set _ _ _ _ x2,←rowN_set _ _ _ _ x1]
     exact heap_setCell_same _ _ _ _ _ _ (heap_setCell_same _ _ _ _ _ _ hVb)
   obtain⟨cl,ch,fl,fh,_,_⟩:=cells U h2
   have HT:=zH hcT
   have HCell:=zH (fun V (h:Old U.drew V)=>cells V ((h.block _ (lt_of_block h2)).trans h2))
   have HK1:=zH keep1
   have HK2:=zH keep2
   have HF:=zH fin
   have j1:(0:Int)<=lo:=by omega
   have j2:(lo:Int)<16:=by omega
   have j3:(0:Int)<=hi:=by omega
   have j4:(hi:Int)<16:=by omega
   have j5:(0:Int)<=tn:=by omega
   have j6:(tn:Int)<8:=by omega
   clear hcT cells keep1 keep2 fin h1 h2 hbl hg3 ht b2 HB
   gi_wp2
   refine region_round (S:=fun w'=>w'.cell? ⟨Bx,0,none⟩=some (.int .i64 lo)/\w'.cell? ⟨Bx,1,none⟩=some (.int .i64 hi)/\w'.cell? ⟨Bx,2,none⟩=some (.int .i64 tn)/\w'.cell? ⟨bt,tn*2,none⟩=some (.int .i64 pv)/\w'.cell? ⟨bt,tn*2+1,none⟩=some (.int .i64 uv)) (by kernel_rfl) (by kernel_rfl) (by rintro ⟨a,w,h⟩;exact h) ?_ (fun hHeld=>?_)
   ·exact HK1.out _ (Old.refl _)
   refine wpU 0 rfl ?_;try simp only [Act.put,sA,sZ,sS]
   refine wpU 1 rfl ?_;try simp only [Act.put,sA,sZ,sS]
   refine wpU 2 rfl ?_;try simp only [Act.put,sA,sZ,sS]
   refine wpU 3 rfl ?_;try simp only [Act.put,sA,sZ,sS]
   refine wpU 4 rfl ?_;try simp only [Act.put,sA,sZ,sS]
   refine wpU 5 rfl ?_;try simp only [Act.put,sA,sZ,sS]
   refine wpU 6 rfl ?_;try simp only [Act.put,sA,sZ,sS]
   refine wpU 8 rfl ?_;try simp only [Act.put,sA,sZ,sS]
   refine wpU 9 rfl ?_;try simp only [Act.put,sA,sZ,sS]
   refine wpU 10 rfl ?_;try simp only [Act.put,sA,sZ,sS]
   refine wpU 12 rfl ?_;try simp only [Act.put,sA,sZ,sS]
   refine wpU 13 rfl ?_;try simp only [Act.put,sA,sZ,sS]
   refine wpU 14 rfl ?_;try simp only [Act.put,sA,sZ,sS]
   refine wpU 15 rfl ?_;try simp only [Act.put,sA,sZ,sS]
   refine wpAnyH_ready (rs:=[7,11]) (by kernel_rfl) (by simp) ?_
   refine AllReadyH.cons (o:=⟨some _,_,_,_,_,_⟩) rfl (fun K hK=>?_) (AllReadyH.cons (o:=⟨some _,_,_,_,_,_⟩) rfl (fun K hK=>?_) AllReadyH.nil)
   ·go_simp
    refine hK.out _ _ (HK1.out _ (Old.refl _)) (fun hHeld=>?_)
    clear hK K
    try simp only [Act.put,sA,sZ,sS]
    refine wpAnyH_ready (rs:=[11]) (by kernel_rfl) (by simp) ?_
    refine AllReadyH.cons (o:=⟨some _,_,_,_,_,_⟩) rfl (fun K hK=>?_) AllReadyH.nil
    go_simp
    refine hK.out _ _ (HK1.out _ (Old.refl _)) (fun hHeld=>?_)
    clear hK K
    try simp only [Act.put,sA,sZ,sS]
    refine wpAnyH_ready (rs:=[16]) (by kernel_rfl) (by simp) ?_
    refine AllReadyH.cons (o:=⟨some _,_,_,_,_,_⟩) rfl (fun K hK=>?_) AllReadyH.nil
    go_simp
    refine(HT.out _).mono ?_
    rintro e V ⟨rfl,hV⟩
    go_wp2_with fail
    have hSV:=HK1.out _ hV
    obtain⟨vl,vh,vfl,vfh,vh2,vfh2⟩:=HCell.out _ hV
    have HFV:=zH (HF.out _ hV)
    clear hV
    refine hK.out _ _ hSV (fun hHeld=>?_)
    clear hK K
    try simp only [Act.put,sA,sZ,sS]
    refine wpU 17 rfl ?_;try simp only [Act.put,sA,sZ,sS]
    refine wpU 18 rfl ?_;try simp only [Act.put,sA,sZ,sS]
    refine wpU 19 rfl ?_;try simp only [Act.put,sA,sZ,sS]
    refine wpU 20 rfl ?_;try simp only [Act.put,sA,sZ,sS]
    refine wpAnyH_ready (rs:=[21]) (by kernel_rfl) (by simp) ?_
    refine AllReadyH.cons (o:=⟨none,_,_,_,_,_⟩) rfl (fun K hK=>?_) AllReadyH.nil
    go_simp
    refine hK.out _ _ (HK2.out _ _ _ hSV) (fun hHeld=>?_)
    clear hK K
    try simp only [Act.put,sA,sZ,sS]
    refine wpU 22 rfl ?_;try simp only [Act.put,sA,sZ,sS]
    refine wpAnyH_ready (rs:=[23]) (by kernel_rfl) (by simp) ?_
    refine AllReadyH.cons (o:=⟨none,_,_,_,_,_⟩) rfl (fun K hK=>?_) AllReadyH.nil
    go_simp
    refine hK.out _ _ (HK2.out _ _ _ (HK2.out _ _ _ hSV)) (fun hHeld=>?_)
    clear hK K
    try simp only [Act.put,sA,sZ,sS]
    refine wpAnyH_done (by kernel_rfl) ?_ _
    exact HFV.out
   ·go_simp
    refine hK.out _ _ (HK1.out _ (Old.refl _)) (fun hHeld=>?_)
    clear hK K
    try simp only [Act.put,sA,sZ,sS]
    refine wpAnyH_ready (rs:=[7]) (by kernel_rfl) (by simp) ?_
    refine AllReadyH.cons (o:=⟨some _,_,_,_,_,_⟩) rfl (fun K hK=>?_) AllReadyH.nil
    go_simp
    refine hK.out _ _ (HK1.out _ (Old.refl _)) (fun hHeld=>?_)
    clear hK K
    try simp only [Act.put,sA,sZ,sS]
    refine wpAnyH_ready (rs:=[16]) (by kernel_rfl) (by simp) ?_
    refine AllReadyH.cons (o:=⟨some _,_,_,_,_,_⟩) rfl (fun K hK=>?_) AllReadyH.nil
    go_simp
    refine(HT.out _).mono ?_
    rintro e V ⟨rfl,hV⟩
    go_wp2_with fail
    have hSV:=HK1.out _ hV
    obtain⟨vl,vh,vfl,vfh,vh2,vfh2⟩:=HCell.out _ hV
    have HFV:=zH (HF.out _ hV)
    clear hV
    refine hK.out _ _ hSV (fun hHeld=>?_)
    clear hK K
    try simp only [Act.put,sA,sZ,sS]
    refine wpU 17 rfl ?_;try simp only [Act.put,sA,sZ,sS]
    refine wpU 18 rfl ?_;try simp only [Act.put,sA,sZ,sS]
    refine wpU 19 rfl ?_;try simp only [Act.put,sA,sZ,sS]
    refine wpU 20 rfl ?_;try simp only [Act.put,sA,sZ,sS]
    refine wpAnyH_ready (rs:=[21]) (by kernel_rfl) (by simp) ?_
    refine AllReadyH.cons (o:=⟨none,_,_,_,_,_⟩) rfl (fun K hK=>?_) AllReadyH.nil
    go_simp
    refine hK.out _ _ (HK2.out _ _ _ hSV) (fun hHeld=>?_)
    clear hK K
    try simp only [Act.put,sA,sZ,sS]
    refine wpU 22 rfl ?_;try simp only [Act.put,sA,sZ,sS]
    refine wpAnyH_ready (rs:=[23]) (by kernel_rfl) (by simp) ?_
    refine AllReadyH.cons (o:=⟨none,_,_,_,_,_⟩) rfl (fun K hK=>?_) AllReadyH.nil
    go_simp
    refine hK.out _ _ (HK2.out _ _ _ (HK2.out _ _ _ hSV)) (fun hHeld=>?_)
    clear hK K
    try simp only [Act.put,sA,sZ,sS]
    refine wpAnyH_done (by kernel_rfl) ?_ _
    exact HFV.out
 ·obtain rfl:k=4:=by omega
  have hS':=hS.out
  have Hb:=zH hS'.b
  have Hr:=zH hS'.r
  have Hd:=zH (hS'.done (by omega) (rowN 16 (blk (fwdN 4 f))))
  have Hn:=zH hS'.nd
  have Hs:Hid ((Tryz.prog.info? 43).map (·.size)=some 16):=zH (by kernel_rfl)
  have H1:Hid ((rowN 16 (blk (fwdN 4 f))).all (·.oneCell')=true):=zH (blk_one _ _)
  clear hS hS'
  go_wp2_with (first | (with_reducible refine wpList_load_row rfl 43 _ rfl (w.heap.size+1) rfl 43 (rowN 16 (blk (fwdN 4 f))) (0,0) _ Hb.out Tryz.underlying43 rfl (by rw [rowN_size];exact Hs.out) ?_) | (with_reducible refine wpList_store_row rfl 43 _ _ rfl (w.heap.size+1+1) (rowN 16 (blk (fwdN 4 f))) rfl rfl 43 _ Hr.out (by rw [rowN_size];exact Hs.out) (by rw [rowN_size];exact hzs) H1.out ?_))
  refine leaves_marks Ds _ Hn.out Hd.out.1 fun w' hk=>?_
  obtain⟨e1,e2⟩:=Hd.out.2 w' hk
  exact⟨_,results_cell_row rfl _ _ (w.heap.size+1+1) 43 (rowN 16 (blk (fwdN 4 f))) (0,0) _ rfl e1 Tryz.underlying43 rfl (by rw [rowN_size];exact Hs.out),rfl,e2⟩
attribute [local go_sem] Oper.semAt_some
set_option maxHeartbeats 4000000 in
theorem Inverse_any(f:Nat->Int)(w:World):
  Calls Tryz.prog 104 #[.agg #[],.agg (rowN 16 (blk f))] w fun e w'=>e = .returned (.agg (rowN 16 (blk (bckN 4 f))))/\Old w w':=by
 refine calls_marks (n:=6) Tryz.func104 rfl ?_
 simp only [Tryz.ntmps104,List.size_toArray,List.length_cons,List.length_nil,Nat.reduceAdd,Nat.reduceSub,Array.replicate_succ,Array.replicate_zero,List.push_toArray,List.append_toArray,List.nil_append,List.cons_append]
 go_wp2_with fail
 refine(Turns_any _).mono ?_
 rintro e w1 ⟨rfl,ho⟩
 have Hz:Hid ((Tryz.prog.info? 51).map (·.size)=some 16):=zH (by kernel_rfl)
 have H1:Hid ((rowN 16 (turnF 8)).all (·.oneCell')=true):=zH (rowN_one _ _ fun _ _=>rfl)
 have Ho:=zH ho
 clear ho
 go_wp2_with (with_reducible refine wpList_store_row rfl 51 _ _ rfl w1.heap.size (rowN 16 (turnF 8)) rfl rfl 51 _ (heap_alloc_new _ _) (by rw [rowN_size];exact Hz.out) (by rw [rowN_size];kernel_rfl) H1.out ?_;rw [World.setRow_alloc_new])
 obtain⟨z,hz⟩:∃z:Array Value,z=#[.int .i64 0,.int .i64 0,.int .i64 0,.int .i64 0,.int .i64 0,.int .i64 0,.int .i64 0,.int .i64 0,.int .i64 0,.int .i64 0,.int .i64 0,.int .i64 0,.int .i64 0,.int .i64 0,.int .i64 0,.int .i64 0]:=⟨_,rfl⟩
 have hzs:z.size=16:=by rw [hz];rfl
 rw [←hz] at Ho
 clear hz
 obtain⟨bt,hbt⟩:∃bt,bt=w1.heap.size:=⟨_,rfl⟩
 rw [←hbt]
 have hst:NetSt w 43 51 (w.heap.size+1) (w.heap.size+1+1) bt z (bckN 0 f) [] (w1.alloc (.cells (rowN 16 (turnF 8)) 51)):=by
  have ho:=Ho.out
  have hs:=ho.size
  simp only [World.size_alloc] at hs
  have hb:w1.heap[w.heap.size+1]?=some (.cells (rowN 16 (blk f)) 43 (0,0)):=(ho.block _ (by simp)).trans ((Below.heap_alloc _ _ _ (by simp)).trans (by
   have:=World.alloc_heap_new (w.alloc (.cells #[] 55)) (.cells (rowN 16 (blk f)) 43);rwa [World.size_alloc] at this))
  have hr:w1.heap[w.heap.size+1+1]?=some (.cells z 43 (0,0)):=(ho.block _ (by simp)).trans (by
   have:=World.alloc_heap_new ((w.alloc (.cells #[] 55)).alloc (.cells (rowN 16 (blk f)) 43)) (.cells z 43);rwa [World.size_alloc,World.size_alloc] at this)
  have h0:Old w w1:=(((Old.alloc w _).alloc' _).alloc' _).trans ho
  exact⟨(Below.heap_alloc _ _ _ (by omega)).trans hb,by rw [hbt];exact World.alloc_heap_new _ _,(Below.heap_alloc _ _ _ (by omega)).trans hr,h0.alloc' _,by omega,by omega,by omega,List.nodup_nil,fun D hD=>(by cases hD),fun D hD=>(by cases hD)⟩
 have Hst:=zH hst
 clear hst Ho hbt H1
 go_wp2
 refine wp_loop (fun a W=>∃(k:Nat) (Ds:List Nat) (u6 u10 u11 u12 u13 u14 u38:Value),k<=4/\a = { tmps:=#[.agg #[],.agg (rowN 16 (blk f)),.pointer (some ⟨w.heap.size,0,none⟩),.pointer (some ⟨w.heap.size+1,0,none⟩),.pointer (some ⟨w.heap.size+1+1,0,none⟩),.pointer (some ⟨bt,0,none⟩),u6,undef,.agg (rowN 16 (turnF 8)),.int .i64 k,u10,u11,u12,u13,u14,undef,undef,undef,undef,undef,undef,undef,undef,undef,undef,undef,undef,undef,undef,undef,undef,undef,undef,undef,undef,undef,undef,undef,u38,undef],defers:=Ds.map mark }/\Hid (NetSt w 43 51 (w.heap.size+1) (w.heap.size+1+1) bt z (bckN k f) Ds W))
  (fun a _=>4-(intOf (a.tmps.getD 9 undef)).toNat) ?_ ?_
 ·exact⟨0,[],undef,undef,undef,undef,undef,undef,undef,by omega,rfl,Hst⟩
 rintro a W ⟨k,Ds,u6,u10,u11,u12,u13,u14,u38,hk,rfl,hS⟩
 clear Hst
 dsimp only
 by_cases hlt:k<4
 ·have i1:(0:Int)<=k:=by omega
  have i2:(k:Int)<4:=by omega
  have hcast:((3-k:Nat):Int)=3-(k:Int):=by omega
  have hP:=pairs_any (3-k) (by omega) W
  have hIt:=fun ba br W1=>pairs_it 5 (by omega) (3-k) (by omega) ba br W1
  rw [hcast] at hP hIt
  unfold PairsFn at hP
  have HP:=zH hP
  have HIt:=zH hIt
  clear hP hIt
  go_wp2_with fail
  refine HP.out.mono ?_
  rintro e W1 ⟨rfl,hW1⟩
  have hb1:NetSt w 43 51 (w.heap.size+1) (w.heap.size+1+1) bt z (bckN k f) Ds W1:=by rw [←hW1];exact hS.out.keep ((Old.alloc W _).alloc' _)
  have ca:W1.cell? ⟨W.heap.size+1,0,none⟩=some (.int .i64 (apart (3-k))):=by
   rw [←hW1];have:=cell_box (W.alloc (.cells #[.int .i64 (3-(k:Int))] 3)) (.int .i64 (apart (3-k))) 3;rwa [World.size_alloc] at this
  have cb:W1.cell? ⟨W.heap.size,0,none⟩=some (.int .i64 (3-(k:Int))):=by
   rw [←hW1];exact(World.cell?_alloc_lt _ _ _ (by simp)).trans (cell_box W _ _)
  have hsz:W1.heap.size=W.heap.size+1+1:=by rw [←hW1];simp
  have hbb:w.heap.size+1<W.heap.size:=lt_of_block hS.out.b
  have hseq:=HIt.out (W.heap.size+1) W.heap.size W1 ca cb
  have HB:=zH hb1
  clear hW1 HP HIt hS ca cb hb1
  go_wp2
  refine(wpIn_wide (n:=6)).1 (wpIn_rangeFunc_ownH rfl (by omega) rfl trivial (enters_of Tryz.func178 (by kernel_rfl) rfl) hseq
   (fun h k=>⟨k.1.trans h.1,k.2.trans h.2⟩) (fun U l _ o' hl _ _ _=>⟨World.putObj_heap_other (by omega),World.putObj_heap_other (by omega)⟩) (Below.refl _ _) (fun _=>rfl)
   (fun pre U=>Kept (fun i=>i<W1.heap.size/\i≠w.heap.size+1) W1 U/\U.heap[w.heap.size+1]?=some (.cells (rowN 16 (blk (pre.foldl stepB (bckN k f)))) 43 (0,0)))
   (fun _ _ _=>False) ?hI (fun _ _ _ _ _ h _ _=>h) ⟨Kept.refl _ _,HB.out.b⟩
   (fun x a' U=>∃Bx,W1.heap.size<=Bx/\U.heap[Bx]?=some (.cells #[.int .i64 x.lo,.int .i64 x.hi,.int .i64 x.tn] 245 (0,0))/\a' = { tmps:=#[.agg #[],.agg (rowN 16 (blk f)),.pointer (some ⟨w.heap.size,0,none⟩),.pointer (some ⟨w.heap.size+1,0,none⟩),.pointer (some ⟨w.heap.size+1+1,0,none⟩),.pointer (some ⟨bt,0,none⟩),.int .i64 k,.pointer (some ⟨Bx,0,none⟩),.agg (rowN 16 (turnF 8)),.int .i64 k,.bool true,.int .i64 k,.int .i64 k,.int .i64 (3-(k:Int)),.func (.func 178) #[] #[.pointer (some ⟨W.heap.size+1,0,none⟩),.pointer (some ⟨W.heap.size,0,none⟩)],x.val,undef,undef,undef,undef,undef,undef,undef,undef,undef,undef,undef,undef,undef,undef,undef,undef,undef,undef,undef,undef,undef,undef,u38,undef],defers:=[] })
   ?hAx ?assign ?body ?done ?stop)
  case hI=>
   rintro pre U U' row ⟨h1,h2⟩ hg hr
   exact⟨h1.trans (Kept.grown hg (X:=fun i=>i<W1.heap.size/\i≠w.heap.size+1) (fun i hi=>Nat.lt_of_lt_of_le hi.1 h1.size) (fun i e hi=>by have:=(hr i e).1;omega)),(hg.block _ (lt_of_block h2) (fun e=>by have:=(hr _ e.symm).1;omega)).trans h2⟩
  case hAx=>
   rintro x a' _ U U' row ⟨Bx,b1,b2,b3⟩ hg hr
   refine⟨Bx,b1,(hg.block _ (lt_of_block b2) (fun e=>?_)).trans b2,b3⟩
   obtain⟨_,ob,h1,h2⟩:=hr _ e.symm
   rw [b2] at h1
   cases h1
   cases h2
  case assign=>
   rintro l pre x U K ⟨h1,h2⟩ hK
   have hU:W1.heap.size<=U.heap.size:=h1.size
   have hfin:K { tmps:=#[.agg #[],.agg (rowN 16 (blk f)),.pointer (some ⟨w.heap.size,0,none⟩),.pointer (some ⟨w.heap.size+1,0,none⟩),.pointer (some ⟨w.heap.size+1+1,0,none⟩),.pointer (some ⟨bt,0,none⟩),.int .i64 k,.pointer (some ⟨U.heap.size,0,none⟩),.agg (rowN 16 (turnF 8)),.int .i64 k,.bool true,.int .i64 k,.int .i64 k,.int .i64 (3-(k:Int)),.func (.func 178) #[] #[.pointer (some ⟨W.heap.size+1,0,none⟩),.pointer (some ⟨W.heap.size,0,none⟩)],x.val,undef,undef,undef,undef,undef,undef,undef,undef,undef,undef,undef,undef,undef,undef,undef,undef,undef,undef,undef,undef,undef,undef,u38,undef],defers:=[] } (U.alloc (.cells #[.int .i64 x.lo,.int .i64 x.hi,.int .i64 x.tn] 245)):=
    hK _ _ ((KeepsOthers.alloc _ _).from _) ⟨Below.heap_alloc _ _ _ (by omega),Below.heap_alloc _ _ _ (by omega)⟩ ⟨h1.trans (Kept.alloc U _ fun i hi=>by omega),(Below.heap_alloc _ _ _ (by omega)).trans h2⟩ ⟨U.heap.size,hU,World.alloc_heap_new _ _,rfl⟩
   have HF:=zH hfin
   clear hfin hK
   unfold NPair.val at HF ⊢
   gi_wp2
   exact HF.out
  case done=>
   rintro D xs U hD rfl ⟨h1,h2⟩ hd
   go_wp2
   refine⟨⟨k+1,D :: Ds,_,_,_,_,_,_,_,by omega,rfl,HB.out.next h1 h2 D hD hd⟩,?_⟩
   simp [intOf]
   omega
  case stop=>
   rintro D c pre U _ _ h _
   exact h.elim
  case body=>
   rintro l pre ⟨lo,hi,tn,x1,x2,x3,x4⟩ a' U hlB _ ⟨h1,h2⟩ ⟨Bx,b1,b2,rfl⟩ hlen
   dsimp only at b2
   unfold NPair.val
   dsimp only
   have hg2:∀g:Nat->Int,g=pre.foldl stepB (bckN k f)->((pre ++ [(⟨lo,hi,tn,x1,x2,x3,x4⟩:NPair)]).foldl stepB (bckN k f))=stepB g ⟨lo,hi,tn,x1,x2,x3,x4⟩:=fun g e=>by rw [List.foldl_append,←e];rfl
   obtain⟨g,hgd⟩:∃g,g=pre.foldl stepB (bckN k f):=⟨_,rfl⟩
   have hg3:=hg2 g hgd
   have hbl:=blk_stepB g ⟨lo,hi,tn,x1,x2,x3,x4⟩
   dsimp only at hbl
   rw [←hgd] at h2
   clear hg2 hgd hseq
   have ht:U.heap[bt]?=some (.cells (rowN 16 (turnF 8)) 51 (0,0)):=(h1.block bt ⟨lt_of_block HB.out.t,HB.out.nt⟩).trans HB.out.t
   have hnt:=HB.out.nt
   have hsU:W1.heap.size<=U.heap.size:=h1.size
   have c0:U.cell? ⟨Bx,0,none⟩=some (.int .i64 lo):=(cell_of_row _ _ _ _ _ _ b2).trans rfl
   have c1:U.cell? ⟨Bx,1,none⟩=some (.int .i64 hi):=(cell_of_row _ _ _ _ _ _ b2).trans rfl
   have c2:U.cell? ⟨Bx,2,none⟩=some (.int .i64 tn):=(cell_of_row _ _ _ _ _ _ b2).trans rfl
   have ct:U.cell? ⟨bt,tn*2,none⟩=some (.int .i64 (turnP tn)):=(cell_of_row _ _ _ _ _ _ ht).trans ((rowN_at 16 (turnF 8) (tn*2) (by omega)).trans (by rw [turnF_P tn x4]))
   have cu:U.cell? ⟨bt,tn*2+1,none⟩=some (.int .i64 (turnU tn)):=(cell_of_row _ _ _ _ _ _ ht).trans ((rowN_at 16 (turnF 8) (tn*2+1) (by omega)).trans (by rw [turnF_U tn x4]))
   have hcT:=fun w=>Back_all (g lo) (g hi) (turnP tn) (turnU tn) w
   generalize turnP tn=pv at *
   generalize turnU tn=uv at *
   generalize backWA (g lo) (g hi) pv uv=va at *
   generalize backWB (g lo) (g hi) pv uv=vb at *
   have cells:∀V:World,V.heap[w.heap.size+1]?=some (.cells (rowN 16 (blk g)) 43 (0,0))->V.cell? ⟨w.heap.size+1,lo,none⟩=some (.int .i64 (g lo))/\V.cell? ⟨w.heap.size+1,hi,none⟩=some (.int .i64 (g hi))/\V.frozen? ⟨w.heap.size+1,lo,none⟩=false/\V.frozen? ⟨w.heap.size+1,hi,none⟩=false /\
     (V.setCell ⟨w.heap.size+1,lo,none⟩ (.int .i64 va)).cell? ⟨w.heap.size+1,hi,none⟩=some (.int .i64 (g hi))/\(V.setCell ⟨w.heap.size+1,lo,none⟩ (.int .i64 va)).frozen? ⟨w.heap.size+1,hi,none⟩=false:=fun V hV=>by
    have e1:V.cell? ⟨w.heap.size+1,hi,none⟩=some (.int .i64 (g hi)):=(cell_of_row _ _ _ _ _ _ hV).trans (rowN_at 16 (blk g) hi x2)
    refine⟨(cell_of_row _ _ _ _ _ _ hV).trans (rowN_at 16 (blk g) lo x1),e1,frozen_of_row _ _ _ _ _ hV,frozen_of_row _ _ _ _ _ hV,?_,?_⟩
    ·rw [World.cell?_setCell_other _ _ _ _ (fun e=>x3 (by injection e))];exact e1
    ·rw [World.frozen?_setCell];exact frozen_of_row _ _ _ _ _ hV
   have keep1:∀V:World,Old U.drew V->V.cell? ⟨Bx,0,none⟩=some (.int .i64 lo)/\V.cell? ⟨Bx,1,none⟩=some (.int .i64 hi)/\V.cell? ⟨Bx,2,none⟩=some (.int .i64 tn)/\V.cell? ⟨bt,tn*2,none⟩=some (.int .i64 pv)/\V.cell? ⟨bt,tn*2+1,none⟩=some (.int .i64 uv):=fun V hV=>by
    have hb0:=lt_of_block b2
    have ht0:=lt_of_block ht
    exact⟨(Kept.cell hV hb0).trans c0,(Kept.cell hV hb0).trans c1,(Kept.cell hV hb0).trans c2,(Kept.cell hV ht0).trans ct,(Kept.cell hV ht0).trans cu⟩
   have keep2:∀(V:World) (j:Nat) (v:Value),(V.cell? ⟨Bx,0,none⟩=some (.int .i64 lo)/\V.cell? ⟨Bx,1,none⟩=some (.int .i64 hi)/\V.cell? ⟨Bx,2,none⟩=some (.int .i64 tn)/\V.cell? ⟨bt,tn*2,none⟩=some (.int .i64 pv)/\V.cell? ⟨bt,tn*2+1,none⟩=some (.int .i64 uv))->(V.setCell ⟨w.heap.size+1,j,none⟩ v).cell? ⟨Bx,0,none⟩=some (.int .i64 lo)/\(V.setCell ⟨w.heap.size+1,j,none⟩ v).cell? ⟨Bx,1,none⟩=some (.int .i64 hi)/\(V.setCell ⟨w.heap.size+1,j,none⟩ v).cell? ⟨Bx,2,none⟩=some (.int .i64 tn)/\(V.setCell ⟨w.heap.size+1,j,none⟩ v).cell? ⟨bt,tn*2,none⟩=some (.int .i64 pv)/\(V.setCell ⟨w.heap.size+1,j,none⟩ v).cell? ⟨bt,tn*2+1,none⟩=some (.int .i64 uv):=fun V j v hV=>by
    have n1:w.heap.size+1≠Bx:=by omega
    have n2:w.heap.size+1≠bt:=fun e=>hnt e.symm
    exact⟨(World.cell?_setCell_far _ _ _ _ n1).trans hV.1,(World.cell?_setCell_far _ _ _ _ n1).trans hV.2.1,(World.cell?_setCell_far _ _ _ _ n1).trans hV.2.2.1,(World.cell?_setCell_far _ _ _ _ n2).trans hV.2.2.2.1,(World.cell?_setCell_far _ _ _ _ n2).trans hV.2.2.2.2⟩
   have fin:∀V:World,Old U.drew V->KeepsFrom W1.heap.size U ((V.setCell ⟨w.heap.size+1,lo,none⟩ (.int .i64 va)).setCell ⟨w.heap.size+1,hi,none⟩ (.int .i64 vb)) /\
     (((V.setCell ⟨w.heap.size+1,lo,none⟩ (.int .i64 va)).setCell ⟨w.heap.size+1,hi,none⟩ (.int .i64 vb)).heap[W.heap.size+1]?=U.heap[W.heap.size+1]?/\((V.setCell ⟨w.heap.size+1,lo,none⟩ (.int .i64 va)).setCell ⟨w.heap.size+1,hi,none⟩ (.int .i64 vb)).heap[W.heap.size]?=U.heap[W.heap.size]?) /\
     (Kept (fun i=>i<W1.heap.size/\i≠w.heap.size+1) W1 ((V.setCell ⟨w.heap.size+1,lo,none⟩ (.int .i64 va)).setCell ⟨w.heap.size+1,hi,none⟩ (.int .i64 vb)) /\
      ((V.setCell ⟨w.heap.size+1,lo,none⟩ (.int .i64 va)).setCell ⟨w.heap.size+1,hi,none⟩ (.int .i64 vb)).heap[w.heap.size+1]?=some (.cells (rowN 16 (blk ((pre ++ [(⟨lo,hi,tn,x1,x2,x3,x4⟩:NPair)]).foldl stepB (bckN k f)))) 43 (0,0))):=fun V hV=>by
    have hVb:V.heap[w.heap.size+1]?=some (.cells (rowN 16 (blk g)) 43 (0,0)):=(hV.block _ (lt_of_block h2)).trans h2
    have far:∀j,j<W1.heap.size->j≠w.heap.size+1->((V.setCell ⟨w.heap.size+1,lo,none⟩ (.int .i64 va)).setCell ⟨w.heap.size+1,hi,none⟩ (.int .i64 vb)).heap[j]?=U.heap[j]?:=fun j hj hn=>
     ((Below.heap_setCell _ _ _ _ hn).trans (Below.heap_setCell _ _ _ _ hn)).trans (hV.block j (by show j<U.heap.size;omega))
    refine⟨(((KeepsOthers.drew U).trans (Old.keepsOthers hV)).trans ((KeepsOthers.setCell _ _ _).trans (KeepsOthers.setCell _ _ _))).from _,⟨far _ (by omega) (by omega),far _ (by omega) (by omega)⟩,⟨?_,?_,?_,fun j hj=>(far j hj.1 hj.2).trans (h1.block j hj)⟩,?_⟩
    ·exact hV.os.trans h1.os
    ·exact hV.output.trans h1.output
    ·have:=hV.size
     simp [World.setCell] at this ⊢
     omega
    ·rw [hg3,←hbl,←rowN_set _ _ _ _ x2,←rowN_set _ _ _ _ x1]
     exact heap_setCell_same _ _ _ _ _ _ (heap_setCell_same _ _ _ _ _ _ hVb)
   obtain⟨cl,ch,fl,fh,_,_⟩:=cells U h2
   have HT:=zH hcT
   have HCell:=zH (fun V (h:Old U.drew V)=>cells V ((h.block _ (lt_of_block h2)).trans h2))
   have HK1:=zH keep1
   have HK2:=zH keep2
   have HF:=zH fin
   have j1:(0:Int)<=lo:=by omega
   have j2:(lo:Int)<16:=by omega
   have j3:(0:Int)<=hi:=by omega
   have j4:(hi:Int)<16:=by omega
   have j5:(0:Int)<=tn:=by omega
   have j6:(tn:Int)<8:=by omega
   clear hcT cells keep1 keep2 fin h1 h2 hbl hg3 ht b2 HB
   gi_wp2
   refine region_round (S:=fun w'=>w'.cell? ⟨Bx,0,none⟩=some (.int .i64 lo)/\w'.cell? ⟨Bx,1,none⟩=some (.int .i64 hi)/\w'.cell? ⟨Bx,2,none⟩=some (.int .i64 tn)/\w'.cell? ⟨bt,tn*2,none⟩=some (.int .i64 pv)/\w'.cell? ⟨bt,tn*2+1,none⟩=some (.int .i64 uv)) (by kernel_rfl) (by kernel_rfl) (by rintro ⟨a,w,h⟩;exact h) ?_ (fun hHeld=>?_)
   ·exact HK1.out _ (Old.refl _)
   refine wpU 0 rfl ?_;try simp only [Act.put,sA,sZ,sS]
   refine wpU 1 rfl ?_;try simp only [Act.put,sA,sZ,sS]
   refine wpU 2 rfl ?_;try simp only [Act.put,sA,sZ,sS]
   refine wpU 3 rfl ?_;try simp only [Act.put,sA,sZ,sS]
   refine wpU 4 rfl ?_;try simp only [Act.put,sA,sZ,sS]
   refine wpU 5 rfl ?_;try simp only [Act.put,sA,sZ,sS]
   refine wpU 6 rfl ?_;try simp only [Act.put,sA,sZ,sS]
   refine wpU 8 rfl ?_;try simp only [Act.put,sA,sZ,sS]
   refine wpU 9 rfl ?_;try simp only [Act.put,sA,sZ,sS]
   refine wpU 10 rfl ?_;try simp only [Act.put,sA,sZ,sS]
   refine wpU 12 rfl ?_;try simp only [Act.put,sA,sZ,sS]
   refine wpU 13 rfl ?_;try simp only [Act.put,sA,sZ,sS]
   refine wpU 14 rfl ?_;try simp only [Act.put,sA,sZ,sS]
   refine wpU 15 rfl ?_;try simp only [Act.put,sA,sZ,sS]
   refine wpAnyH_ready (rs:=[7,11]) (by kernel_rfl) (by simp) ?_
   refine AllReadyH.cons (o:=⟨some _,_,_,_,_,_⟩) rfl (fun K hK=>?_) (AllReadyH.cons (o:=⟨some _,_,_,_,_,_⟩) rfl (fun K hK=>?_) AllReadyH.nil)
   ·go_simp
    refine hK.out _ _ (HK1.out _ (Old.refl _)) (fun hHeld=>?_)
    clear hK K
    try simp only [Act.put,sA,sZ,sS]
    refine wpAnyH_ready (rs:=[11]) (by kernel_rfl) (by simp) ?_
    refine AllReadyH.cons (o:=⟨some _,_,_,_,_,_⟩) rfl (fun K hK=>?_) AllReadyH.nil
    go_simp
    refine hK.out _ _ (HK1.out _ (Old.refl _)) (fun hHeld=>?_)
    clear hK K
    try simp only [Act.put,sA,sZ,sS]
    refine wpAnyH_ready (rs:=[16]) (by kernel_rfl) (by simp) ?_
    refine AllReadyH.cons (o:=⟨some _,_,_,_,_,_⟩) rfl (fun K hK=>?_) AllReadyH.nil
    go_simp
    refine(HT.out _).mono ?_
    rintro e V ⟨rfl,hV⟩
    go_wp2_with fail
    have hSV:=HK1.out _ hV
    obtain⟨vl,vh,vfl,vfh,vh2,vfh2⟩:=HCell.out _ hV
    have HFV:=zH (HF.out _ hV)
    clear hV
    refine hK.out _ _ hSV (fun hHeld=>?_)
    clear hK K
    try simp only [Act.put,sA,sZ,sS]
    refine wpU 17 rfl ?_;try simp only [Act.put,sA,sZ,sS]
    refine wpU 18 rfl ?_;try simp only [Act.put,sA,sZ,sS]
    refine wpU 19 rfl ?_;try simp only [Act.put,sA,sZ,sS]
    refine wpU 20 rfl ?_;try simp only [Act.put,sA,sZ,sS]
    refine wpAnyH_ready (rs:=[21]) (by kernel_rfl) (by simp) ?_
    refine AllReadyH.cons (o:=⟨none,_,_,_,_,_⟩) rfl (fun K hK=>?_) AllReadyH.nil
    go_simp
    refine hK.out _ _ (HK2.out _ _ _ hSV) (fun hHeld=>?_)
    clear hK K
    try simp only [Act.put,sA,sZ,sS]
    refine wpU 22 rfl ?_;try simp only [Act.put,sA,sZ,sS]
    refine wpAnyH_ready (rs:=[23]) (by kernel_rfl) (by simp) ?_
    refine AllReadyH.cons (o:=⟨none,_,_,_,_,_⟩) rfl (fun K hK=>?_) AllReadyH.nil
    go_simp
    refine hK.out _ _ (HK2.out _ _ _ (HK2.out _ _ _ hSV)) (fun hHeld=>?_)
    clear hK K
    try simp only [Act.put,sA,sZ,sS]
    refine wpAnyH_done (by kernel_rfl) ?_ _
    exact HFV.out
   ·go_simp
    refine hK.out _ _ (HK1.out _ (Old.refl _)) (fun hHeld=>?_)
    clear hK K
    try simp only [Act.put,sA,sZ,sS]
    refine wpAnyH_ready (rs:=[7]) (by kernel_rfl) (by simp) ?_
    refine AllReadyH.cons (o:=⟨some _,_,_,_,_,_⟩) rfl (fun K hK=>?_) AllReadyH.nil
    go_simp
    refine hK.out _ _ (HK1.out _ (Old.refl _)) (fun hHeld=>?_)
    clear hK K
    try simp only [Act.put,sA,sZ,sS]
    refine wpAnyH_ready (rs:=[16]) (by kernel_rfl) (by simp) ?_
    refine AllReadyH.cons (o:=⟨some _,_,_,_,_,_⟩) rfl (fun K hK=>?_) AllReadyH.nil
    go_simp
    refine(HT.out _).mono ?_
    rintro e V ⟨rfl,hV⟩
    go_wp2_with fail
    have hSV:=HK1.out _ hV
    obtain⟨vl,vh,vfl,vfh,vh2,vfh2⟩:=HCell.out _ hV
    have HFV:=zH (HF.out _ hV)
    clear hV
    refine hK.out _ _ hSV (fun hHeld=>?_)
    clear hK K
    try simp only [Act.put,sA,sZ,sS]
    refine wpU 17 rfl ?_;try simp only [Act.put,sA,sZ,sS]
    refine wpU 18 rfl ?_;try simp only [Act.put,sA,sZ,sS]
    refine wpU 19 rfl ?_;try simp only [Act.put,sA,sZ,sS]
    refine wpU 20 rfl ?_;try simp only [Act.put,sA,sZ,sS]
    refine wpAnyH_ready (rs:=[21]) (by kernel_rfl) (by simp) ?_
    refine AllReadyH.cons (o:=⟨none,_,_,_,_,_⟩) rfl (fun K hK=>?_) AllReadyH.nil
    go_simp
    refine hK.out _ _ (HK2.out _ _ _ hSV) (fun hHeld=>?_)
    clear hK K
    try simp only [Act.put,sA,sZ,sS]
    refine wpU 22 rfl ?_;try simp only [Act.put,sA,sZ,sS]
    refine wpAnyH_ready (rs:=[23]) (by kernel_rfl) (by simp) ?_
    refine AllReadyH.cons (o:=⟨none,_,_,_,_,_⟩) rfl (fun K hK=>?_) AllReadyH.nil
    go_simp
    refine hK.out _ _ (HK2.out _ _ _ (HK2.out _ _ _ hSV)) (fun hHeld=>?_)
    clear hK K
    try simp only [Act.put,sA,sZ,sS]
    refine wpAnyH_done (by kernel_rfl) ?_ _
    exact HFV.out
 ·obtain rfl:k=4:=by omega
  have hS':=hS.out
  have Hb:=zH hS'.b
  have Hr:=zH hS'.r
  have Hd:=zH (hS'.done (by omega) (rowN 16 (blk (bckN 4 f))))
  have Hn:=zH hS'.nd
  have Hs:Hid ((Tryz.prog.info? 43).map (·.size)=some 16):=zH (by kernel_rfl)
  have H1:Hid ((rowN 16 (blk (bckN 4 f))).all (·.oneCell')=true):=zH (blk_one _ _)
  clear hS hS'
  go_wp2_with (first | (with_reducible refine wpList_load_row rfl 43 _ rfl (w.heap.size+1) rfl 43 (rowN 16 (blk (bckN 4 f))) (0,0) _ Hb.out Tryz.underlying43 rfl (by rw [rowN_size];exact Hs.out) ?_) | (with_reducible refine wpList_store_row rfl 43 _ _ rfl (w.heap.size+1+1) (rowN 16 (blk (bckN 4 f))) rfl rfl 43 _ Hr.out (by rw [rowN_size];exact Hs.out) (by rw [rowN_size];exact hzs) H1.out ?_))
  refine leaves_marks Ds _ Hn.out Hd.out.1 fun w' hk=>?_
  obtain⟨e1,e2⟩:=Hd.out.2 w' hk
  exact⟨_,results_cell_row rfl _ _ (w.heap.size+1+1) 43 (rowN 16 (blk (bckN 4 f))) (0,0) _ rfl e1 Tryz.underlying43 rfl (by rw [rowN_size];exact Hs.out),rfl,e2⟩
open Go.ChangeShapes Go.WideShapes
set_option linter.unusedSimpArgs false
def louder(G:Nat->Int)(ng:Nat):Nat->(Nat->Int)->Nat->Int:=fun b f=>upB f (gainsAt G ng b)
def quieter(G:Nat->Int)(ng:Nat):Nat->(Nat->Int)->Nat->Int:=fun b f=>downB f (gainsAt G ng b)
def forth:Nat->(Nat->Int)->Nat->Int:=fun _ f=>fwdN 4 f
def back:Nat->(Nat->Int)->Nat->Int:=fun _ f=>bckN 4 f
def metF(N:Nat)(G:Nat->Int)(ng:Nat)(F:Nat->Int):Nat->Int:=meetTo turnWA turnWB N (mapTo N (louder G ng) F)
def spectraF(N:Nat)(G:Nat->Int)(ng:Nat)(F:Nat->Int):Nat->Int:=mapTo N forth (metF N G ng F)
def wholeM(n:Nat)(F:Nat->Int):Nat->Int:=meetTo backWA backWB n (mapTo n back F)
def wholeF(n:Nat)(G:Nat->Int)(ng:Nat)(F:Nat->Int):Nat->Int:=mapTo n (quieter G ng) (wholeM n F)
theorem stepB_in{f:Nat->Int}(h:Fits64 f)(x:NPair):Fits64 (stepB f x):=by
 intro k
 unfold stepB
 split
 ·exact wrap64_bd _
 ·split
  ·exact wrap64_bd _
  ·exact h k
theorem foldB_in:∀(l:List NPair) {f:Nat->Int},Fits64 f->Fits64 (l.foldl stepB f)
 | [],_,h=>h
 | x :: l,_,h=>foldB_in l (stepB_in h x)
theorem bckN_in(n:Nat){f:Nat->Int}(h:Fits64 f):Fits64 (bckN n f):=by
 induction n with
 | zero=>exact h
 | succ n ih=>exact foldB_in _ ih
theorem mapTo_in{φ:Nat->(Nat->Int)->Nat->Int}{F:Nat->Int}{n:Nat}(h:∀b f,Fits64 f->Fits64 (φ b f))(hF:Fits64 F):Fits64 (mapTo n φ F):=fun q=>by
 unfold mapTo
 split
 ·exact mapB_in h hF q
 ·exact hF q
theorem wholeM_in{n:Nat}{F:Nat->Int}(h:Fits64 F):Fits64 (wholeM n F):=
 meetTo_in (fun _ _ _ _=>wrap64_bd _) (fun _ _ _ _=>wrap64_bd _) (mapTo_in (fun _ _ hf=>bckN_in 4 hf) h)
structure SpR(w:World)(bx:Nat)(pt:Option Addr)(N:Nat)(pg:Option Addr)(ng:Nat)(G M:Nat->Int)(W:World):Prop where
 at_:OwnR 16 (fun q=>q<w.heap.size\/q=bx) W pt N M
 box:W.heap[bx]?=some (.cells T8 57 (0,0))
 gs:SlF 4 W pg ng G
 old:Old w W
namespace SpR
variable {w W V:World} {bx:Nat} {pt:Option Addr} {N:Nat} {pg:Option Addr} {ng:Nat} {G M:Nat->Int}
theorem keep(h:SpR w bx pt N pg ng G M W)(o:Old W V):SpR w bx pt N pg ng G M V:=
 ⟨h.at_.old o,(o.block _ (lt_of_block h.box)).trans h.box,h.gs.old o,h.old.trans o⟩
theorem store{g:Nat}(h:SpR w bx (some ⟨g,0,none⟩) N pg ng G M W)(h0:SlF 4 w pg ng G)(k:Nat)(hk:k<N)(f:Nat->Int):SpR w bx (some ⟨g,0,none⟩) N pg ng G (patch M (k*16) 16 f) (W.setCells g (k*16) (rowL 16 f)):=by
 obtain⟨g',h1,h2,h3⟩:=h.at_ (by omega)
 have e:g'=g:=by simpa using h1.symm
 subst e
 have ho:Old w (W.setCells g' (k*16) (rowL 16 f)):=h.old.after (Kept.setCells (X:=fun q=>q<w.heap.size) W (fun e=>h2 (.inl e)) _ _) fun _ h=>h
 exact⟨fun _=>⟨g',rfl,h2,h3.setCells (k*16) 16 (by omega) f⟩,(setCells_heap_other _ _ _ _ _ (fun e=>h2 (.inr e.symm))).trans h.box,h0.old ho,ho⟩
theorem row{g:Nat}(h:SpR w bx (some ⟨g,0,none⟩) N pg ng G M W)(k:Nat)(hk:k<N):(∀j,j<16->W.cell? ⟨g,k*16+j,none⟩=some (.int .i64 (M (k*16+j))))/\W.there g (k*16) 16:=by
 obtain⟨g',h1,_,h3⟩:=h.at_ (by omega)
 have e:g'=g:=by simpa using h1.symm
 subst e
 exact⟨fun j hj=>h3.cell _ (by omega),h3.there _ _ (by omega)⟩
theorem drew(h:SpR w bx pt N pg ng G M W):SpR w bx pt N pg ng G M W.drew:=h.keep (Old.drew (Old.refl _))
theorem turned{M':Nat->Int}(h:SpR w bx pt N pg ng G M W)(h0:SlF 4 w pg ng G)(k:Kept (fun q=>q<W.heap.size/\¬(0<N/\pt=some ⟨q,0,none⟩)) W V)(h2:OwnR 16 (fun q=>q<W.heap.size/\¬(0<N/\pt=some ⟨q,0,none⟩)) V pt N M'):SpR w bx pt N pg ng G M' V:=by
 have ho:Old w V:=h.old.after k fun q hq=>⟨Nat.lt_of_lt_of_le hq h.old.size,fun e=>by
  obtain⟨g,e1,e2,_⟩:=h.at_ e.1
  rw [e.2] at e1
  have e3:q=g:=congrArg Addr.block (Option.some.inj e1)
  exact e2 (.inl (e3 ▸ hq))⟩
 refine⟨fun hn=>?_,(k.block bx ⟨lt_of_block h.box,fun e=>?_⟩).trans h.box,h0.old ho,ho⟩
 ·obtain⟨g,e1,e2,_⟩:=h.at_ hn
  obtain⟨g',e3,_,e4⟩:=h2 hn
  have e5:g=g':=by rw [e1] at e3;simpa using e3
  subst e5
  exact⟨g,e1,e2,e4⟩
 ·obtain⟨g,e1,e2,_⟩:=h.at_ e.1
  rw [e.2] at e1
  have e3:bx=g:=congrArg Addr.block (Option.some.inj e1)
  exact e2 (.inr e3.symm)
end SpR
theorem SpR.meetTurn{w W:World}{bx:Nat}{pt:Option Addr}{N:Nat}{pg:Option Addr}{ng:Nat}{G M:Nat->Int}(h:SpR w bx pt N pg ng G M W)(h0:SlF 4 w pg ng G)(cap:Nat)(hN:N<=17179869184):
  Calls Tryz.prog 130 #[.slice pt N cap,.func (.func 197) #[.agg T8] #[]] W fun e w'=>e = .returned (.tuple #[])/\SpR w bx pt N pg ng G (meetTo turnWA turnWB N M) w':=
 (meetTurn_any (fun q=>q<W.heap.size/\¬(0<N/\pt=some ⟨q,0,none⟩)) pt N cap M W (fun hn=>by obtain⟨g,h1,_,h3⟩:=h.at_ hn;exact⟨g,h1,fun e=>e.2 ⟨hn,h1⟩,h3⟩) (fun q hq=>hq.1) hN).mono
  fun _ _ ⟨h1,h2,h3⟩=>⟨h1,h.turned h0 h3 h2⟩
theorem SpR.meetBack{w W:World}{bx:Nat}{pt:Option Addr}{N:Nat}{pg:Option Addr}{ng:Nat}{G M:Nat->Int}(h:SpR w bx pt N pg ng G M W)(h0:SlF 4 w pg ng G)(cap:Nat)(hN:N<=17179869184):
  Calls Tryz.prog 130 #[.slice pt N cap,.func (.func 131) #[.agg T8] #[]] W fun e w'=>e = .returned (.tuple #[])/\SpR w bx pt N pg ng G (meetTo backWA backWB N M) w':=
 (meetBack_any (fun q=>q<W.heap.size/\¬(0<N/\pt=some ⟨q,0,none⟩)) pt N cap M W (fun hn=>by obtain⟨g,h1,_,h3⟩:=h.at_ hn;exact⟨g,h1,fun e=>e.2 ⟨hn,h1⟩,h3⟩) (fun q hq=>hq.1) hN).mono
  fun _ _ ⟨h1,h2,h3⟩=>⟨h1,h.turned h0 h3 h2⟩
set_option maxHeartbeats 4000000 in
theorem Spectra_any(p:Option Addr)(n cap:Nat)(xs:List Int)(pg:Option Addr)(ng cg:Nat)(G:Nat->Int)(w:World)(hs:SlI w .i64 (.slice p n cap) xs)(hn:n<=17179869184)(hg:SlF 4 w pg ng G):
  Calls Tryz.prog 152 #[.agg T8,.slice p n cap,.slice pg ng cg] w fun e w'=>∃q c,e = .returned (.slice q (cnt n) c)/\OwnR 16 (fun q=>q<w.heap.size) w' q (cnt n) (spectraF (cnt n) G ng (fun j=>xs.getD j 0))/\Old w w'/\q≠none:=by
 obtain⟨F,hF⟩:∃F:Nat->Int,F=fun j=>xs.getD j 0:=⟨_,rfl⟩
 have hB:=Blocks_any p n cap xs (w.alloc (.cells T8 57)) (hs.old (Old.alloc _ _)) (by omega)
 rw [←hF] at hB ⊢
 obtain⟨N,hN⟩:∃N,N=cnt n:=⟨_,rfl⟩
 have hN2:N<=17179869184:=by rw [hN];unfold cnt;omega
 rw [←hN] at hB ⊢
 have HB:=zH hB
 have HGo:=zH (fun(i:Nat) (h:i<N) (V:World) (hV:SlF 4 V pg ng G)=>gainsOf_any pg ng cg i G V hV (by omega))
 have Hs16:=zH Tryz.block_size
 have HZ:Hid ((Tryz.prog.info? 53).map (·.size)=some 16):=zH (by kernel_rfl)
 have hs8:=T8_size
 have HG:=zH hg
 have HMt:=zH (fun(M:Nat->Int) (pt:Option Addr) (V:World) (h:SpR w w.heap.size pt N pg ng G M V) (c:Nat)=>h.meetTurn hg c hN2)
 have H0:Hid (∀W,CellsAt W (w.heap.size+1) (N*16) F->Old (w.alloc (.cells T8 57)) W->SpR w w.heap.size (some ⟨w.heap.size+1,0,none⟩) N pg ng G F W):=fun W hc ho=>
  ⟨fun _=>⟨_,rfl,fun e=>by omega,hc.less (by omega)⟩,(ho.block _ (by simp)).trans (heap_alloc_new _ _),(hg.old (Old.alloc _ _)).old ho,(Old.alloc w _).trans ho⟩
 rw [World.size_alloc] at HB
 clear hs hg hB hF hN
 have HBx:Hid (∀(pt:Option Addr) (M:Nat->Int) (W:World),SpR w w.heap.size pt N pg ng G M W->W.heap[w.heap.size]?=some (.cells T8 57 (0,0))):=fun _ _ _ h=>h.box
 generalize hT:T8=R at *
 go_enter Tryz.func152,Tryz.ntmps152
 go_wp2_with fail
 refine HB.out.mono ?_
 rintro e w1 ⟨rfl,hc1,ho1⟩
 obtain⟨pt,hpt⟩:∃pt:Option Addr,pt=some ⟨w.heap.size+1,0,none⟩:=⟨_,rfl⟩
 rw [←hpt] at H0 ⊢
 have HPt:Hid (pt≠none):=zH (by rw [hpt];exact fun h=>by cases h)
 have H1:=zH (H0.out w1 hc1 ho1)
 clear hc1 ho1 H0 HB hpt
 go_wp2_with fail
 have HCall:=zH (fun(k:Nat) (h:k<N) (V:World)=>Up_any (rowAt F k) (gainsAt G ng k) V)
 go_loopw [14] (fun i wr=>∃k:Nat,k<=N/\i = .int .i64 k/\Hid (SpR w w.heap.size pt N pg ng G (mapTo k (louder G ng) F) wr)) (fun i _=>N-(intOf i).toNat)
 case atStart=>exact⟨0,by omega,rfl,by rw [mapTo_zero];exact H1⟩
 case round=>
  obtain⟨k,hk,rfl,HS⟩:=hrel
  by_cases hlt:k<N
  ·clear H1
   obtain⟨gb,rfl,_,_⟩:=HS.out.at_ (by omega)
   have i1:(0:Int)<=k:=by omega
   have i2:(k:Int)<N:=by omega
   have cells:Hid (∀V,Old wr.drew V->(∀j,j<16->V.cell? ⟨gb,k*16+j,none⟩=some (.int .i64 (rowAt F k j)))/\V.there gb (k*16) 16):=fun V hV=>by
    have h:=(HS.out.drew.keep hV).row k hlt
    exact⟨fun j hj=>by rw [←mapTo_row (louder G ng) F k j];exact h.1 j hj,h.2⟩
   have NX:Hid (∀V,Old wr.drew V->SpR w w.heap.size (some ⟨gb,0,none⟩) N pg ng G (mapTo (k+1) (louder G ng) F) (V.setCells gb (k*16) (rowL 16 (louder G ng k (rowAt F k))))):=fun V hV=>by
    have h:=(HS.out.drew.keep hV).store HG.out k hlt (louder G ng k (rowAt F k))
    rwa [mapTo_step] at h
   have HGs:Hid (∀V,Old wr.drew V->SlF 4 V pg ng G):=fun V hV=>(HS.out.drew.keep hV).gs
   have hGo:=HGo.out k hlt
   have hC:=HCall.out k hlt
   have HGo':=zH hGo
   have HC':=zH hC
   clear hGo hC HS
   go_wp2_with fail
   refine wp_region_held_drew (S:=(fun _=>True)) (by kernel_rfl) ?_ (fun hHeld=>?_)
   ·exact trivial
   refine wpU 0 rfl ?_;try simp only [Act.put,sA,sZ,sS]
   refine wpU 1 rfl ?_;try simp only [Act.put,sA,sZ,sS]
   refine wpU 2 rfl ?_;try simp only [Act.put,sA,sZ,sS]
   refine wpU 3 rfl ?_;try simp only [Act.put,sA,sZ,sS]
   refine wpU 4 rfl ?_;try simp only [Act.put,sA,sZ,sS]
   refine wpU 6 rfl ?_;try simp only [Act.put,sA,sZ,sS]
   refine wpU 7 rfl ?_;try simp only [Act.put,sA,sZ,sS]
   refine wpAnyH_ready (rs:=[5,8]) (by kernel_rfl) (by simp) ?_
   refine AllReadyH.cons (o:=⟨_,_,_,_,_,_⟩) rfl (fun K hK=>?_) (AllReadyH.cons (o:=⟨_,_,_,_,_,_⟩) rfl (fun K hK=>?_) AllReadyH.nil)
   ·rw [if_pos (by kernel_rfl)]
    refine wp_load_blk 16 (rowAt F k) 43 _ rfl (gb) (k*16) rfl _ ((cells.out _ (Old.refl _)).1) Tryz.underlying43 rfl Hs16.out ?_
    try simp only [Act.put,sA,sZ,sS]
    refine hK.out _ _ ?_ (fun hHeld=>?_)
    ·exact trivial
    clear hK K
    try simp only [Act.put,sA,sZ,sS]
    refine wpR 8 rfl (fun K hK=>?_)
    go_simp
    refine(HGo'.out _ (HGs.out _ (Old.refl _))).mono ?_
    rintro e V1 ⟨rfl,o1⟩
    go_wp2_with fail
    refine hK.out _ _ ?_ (fun hHeld=>?_)
    ·exact trivial
    clear hK K
    try simp only [Act.put,sA,sZ,sS]
    refine wpR 9 rfl (fun K hK=>?_)
    go_simp
    refine(HC'.out _).mono ?_
    rintro e V2 ⟨rfl,o2⟩
    go_wp2_with fail
    refine hK.out _ _ ?_ (fun hHeld=>?_)
    ·exact trivial
    clear hK K
    try simp only [Act.put,sA,sZ,sS]
    refine wpU 10 rfl ?_;try simp only [Act.put,sA,sZ,sS]
    refine wpR 11 rfl (fun K hK=>?_)
    rw [if_pos (by kernel_rfl)]
    refine wp_store_blk 16 (louder G ng k (rowAt F k)) 43 _ _ rfl (gb) (k*16) rfl rfl ((cells.out _ (o1.trans o2)).2) Hs16.out ?_
    try simp only [Act.put,sA,sZ,sS]
    refine hK.out _ _ ?_ (fun hHeld=>?_)
    ·exact trivial
    clear hK K
    try simp only [Act.put,sA,sZ,sS]
    refine wpAnyH_done (by kernel_rfl) ?_ _
    have HN:=zH (NX.out _ (o1.trans o2))
    clear cells NX HGs o1 o2 HGo' HC'
    go_wp2_with fail
    go_roundw
    case rel=>exact⟨k+1,by omega,by go_num,HN⟩
    case measure=>(simp [intOf];try omega)
   ·go_simp
    refine(HGo'.out _ (HGs.out _ (Old.refl _))).mono ?_
    rintro e V1 ⟨rfl,o1⟩
    go_wp2_with fail
    refine hK.out _ _ ?_ (fun hHeld=>?_)
    ·exact trivial
    clear hK K
    try simp only [Act.put,sA,sZ,sS]
    refine wpR 5 rfl (fun K hK=>?_)
    rw [if_pos (by kernel_rfl)]
    refine wp_load_blk 16 (rowAt F k) 43 _ rfl (gb) (k*16) rfl _ ((cells.out _ o1).1) Tryz.underlying43 rfl Hs16.out ?_
    try simp only [Act.put,sA,sZ,sS]
    refine hK.out _ _ ?_ (fun hHeld=>?_)
    ·exact trivial
    clear hK K
    try simp only [Act.put,sA,sZ,sS]
    refine wpR 9 rfl (fun K hK=>?_)
    go_simp
    refine(HC'.out _).mono ?_
    rintro e V2 ⟨rfl,o2⟩
    go_wp2_with fail
    refine hK.out _ _ ?_ (fun hHeld=>?_)
    ·exact trivial
    clear hK K
    try simp only [Act.put,sA,sZ,sS]
    refine wpU 10 rfl ?_;try simp only [Act.put,sA,sZ,sS]
    refine wpR 11 rfl (fun K hK=>?_)
    rw [if_pos (by kernel_rfl)]
    refine wp_store_blk 16 (louder G ng k (rowAt F k)) 43 _ _ rfl (gb) (k*16) rfl rfl ((cells.out _ (o1.trans o2)).2) Hs16.out ?_
    try simp only [Act.put,sA,sZ,sS]
    refine hK.out _ _ ?_ (fun hHeld=>?_)
    ·exact trivial
    clear hK K
    try simp only [Act.put,sA,sZ,sS]
    refine wpAnyH_done (by kernel_rfl) ?_ _
    have HN:=zH (NX.out _ (o1.trans o2))
    clear cells NX HGs o1 o2 HGo' HC'
    go_wp2_with fail
    go_roundw
    case rel=>exact⟨k+1,by omega,by go_num,HN⟩
    case measure=>(simp [intOf];try omega)
  ·obtain rfl:k=N:=by omega
   have H2:=HS
   clear HS HCall
   have hb:=HBx.out _ _ _ H2.out
   have HM:=zH (HMt.out _ _ _ H2.out k)
   have HC2:=zH (fun(k':Nat) (h:k'<k) (V:World)=>Forward_any (rowAt (meetTo turnWA turnWB k (mapTo k (louder G ng) F)) k') V)
   clear HGo HMt H1
   go_wp2_with (with_reducible refine wpList_load_row rfl 53 _ rfl w.heap.size rfl 57 R (0,0) _ hb Tryz.underlying53 rfl (by rw [hs8];exact HZ.out) ?_)
   refine HM.out.mono ?_
   rintro e w2 ⟨rfl,h3⟩
   have H3:=zH h3
   clear h3 HM H2 hb
   obtain⟨M2,hM2⟩:∃M,M=meetTo turnWA turnWB k (mapTo k (louder G ng) F):=⟨_,rfl⟩
   rw [←hM2] at H3 HC2
   have HSpec:Hid (spectraF k G ng F=mapTo k forth M2):=by unfold Hid spectraF metF;rw [hM2]
   have HCall:=HC2
   clear hM2 HC2
   obtain⟨N,hNk⟩:∃N,N=k:=⟨_,rfl⟩
   subst hNk
   go_wp2_with fail
   go_loopw [36] (fun i wr=>∃k:Nat,k<=N/\i = .int .i64 k/\Hid (SpR w w.heap.size pt N pg ng G (mapTo k (forth) M2) wr)) (fun i _=>N-(intOf i).toNat)
   case atStart=>exact⟨0,by omega,rfl,by rw [mapTo_zero];exact H3⟩
   case round=>
    obtain⟨k,hk,rfl,HS⟩:=hrel
    by_cases hlt:k<N
    ·clear H3
     obtain⟨gb,rfl,_,_⟩:=HS.out.at_ (by omega)
     have i1:(0:Int)<=k:=by omega
     have i2:(k:Int)<N:=by omega
     have cells:Hid (∀V,Old wr.drew V->(∀j,j<16->V.cell? ⟨gb,k*16+j,none⟩=some (.int .i64 (rowAt M2 k j)))/\V.there gb (k*16) 16):=fun V hV=>by
      have h:=(HS.out.drew.keep hV).row k hlt
      exact⟨fun j hj=>by rw [←mapTo_row (forth) M2 k j];exact h.1 j hj,h.2⟩
     have NX:Hid (∀V,Old wr.drew V->SpR w w.heap.size (some ⟨gb,0,none⟩) N pg ng G (mapTo (k+1) (forth) M2) (V.setCells gb (k*16) (rowL 16 (forth k (rowAt M2 k))))):=fun V hV=>by
      have h:=(HS.out.drew.keep hV).store HG.out k hlt (forth k (rowAt M2 k))
      rwa [mapTo_step] at h
     have HGs:Hid (∀V,Old wr.drew V->SlF 4 V pg ng G):=fun V hV=>(HS.out.drew.keep hV).gs
     have HC':=zH (HCall.out k hlt)
     have HBo:Hid (∀V,Old wr.drew V->V.heap[w.heap.size]?=some (.cells R 57 (0,0))):=fun V hV=>HBx.out _ _ _ (HS.out.drew.keep hV)
     have HBs:Hid (∀V,Old wr.drew V->(V.setCells gb (k*16) (rowL 16 (forth k (rowAt M2 k)))).heap[w.heap.size]?=some (.cells R 57 (0,0))):=fun V hV=>HBx.out _ _ _ (NX.out V hV)
     have hPart:=fun V h=>net_part V w.heap.size R h
     clear HS HGs
     go_wp2_with fail
     refine wp_region_held_drew (S:=(fun w'=>w'.heap[w.heap.size]?=some (.cells R 57 (0,0)))) (by kernel_rfl) ?_ (fun hHeld=>?_)
     ·(try dsimp only);exact HBo.out _ (Old.refl _)
     refine wpU 0 rfl ?_;try simp only [Act.put,sA,sZ,sS]
     refine wpU 1 rfl ?_;try simp only [Act.put,sA,sZ,sS]
     refine wpU 2 rfl ?_;try simp only [Act.put,sA,sZ,sS]
     refine wpU 3 rfl ?_;try simp only [Act.put,sA,sZ,sS]
     refine wpU 4 rfl ?_;try simp only [Act.put,sA,sZ,sS]
     refine wpU 5 rfl ?_;try simp only [Act.put,sA,sZ,sS]
     refine wpU 6 rfl ?_;try simp only [Act.put,sA,sZ,sS]
     refine wpR 7 rfl (fun K hK=>?_)
     rw [if_pos (by kernel_rfl)]
     refine wp_load_blk 16 (rowAt M2 k) 43 _ rfl (gb) (k*16) rfl _ ((cells.out _ (Old.refl _)).1) Tryz.underlying43 rfl Hs16.out ?_
     try simp only [Act.put,sA,sZ,sS]
     refine hK.out _ _ ?_ (fun hHeld=>?_)
     ·(try dsimp only);exact hHeld
     clear hK K
     try simp only [Act.put,sA,sZ,sS]
     refine wpR 8 rfl (fun K hK=>?_)
     go_simp
     refine(HC'.out _).mono ?_
     rintro e V2 ⟨rfl,o2⟩
     go_wp2_with fail
     refine hK.out _ _ ?_ (fun hHeld=>?_)
     ·(try dsimp only);exact HBo.out _ o2
     clear hK K
     try simp only [Act.put,sA,sZ,sS]
     refine wpU 9 rfl ?_;try simp only [Act.put,sA,sZ,sS]
     refine wpR 10 rfl (fun K hK=>?_)
     rw [if_pos (by kernel_rfl)]
     refine wp_store_blk 16 (forth k (rowAt M2 k)) 43 _ _ rfl (gb) (k*16) rfl rfl ((cells.out _ o2).2) Hs16.out ?_
     try simp only [Act.put,sA,sZ,sS]
     refine hK.out _ _ ?_ (fun hHeld=>?_)
     ·(try dsimp only);exact HBs.out _ o2
     clear hK K
     try simp only [Act.put,sA,sZ,sS]
     refine wpAnyH_done (by kernel_rfl) ?_ _
     have HN:=zH (NX.out _ o2)
     clear cells NX o2 HC' HBo HBs hPart
     go_wp2_with fail
     go_roundw
     case rel=>exact⟨k+1,by omega,by go_num,HN⟩
     case measure=>(simp [intOf];try omega)
    ·obtain rfl:k=N:=by omega
     have HE:Hid (OwnR 16 (fun q=>q<w.heap.size) wr pt k (spectraF k G ng F)/\Old w wr):=by
      rw [HSpec.out]
      exact⟨HS.out.at_.mono fun q hq=>.inl hq,HS.out.old⟩
     clear HS HCall HSpec H3
     go_wp2_with fail
     go_ret
     exact⟨_,_,rfl,HE.out.1,HE.out.2,HPt.out⟩
set_option maxHeartbeats 4000000 in
theorem Whole_any(p:Option Addr)(N cap:Nat)(F:Nat->Int)(pg:Option Addr)(ng cg:Nat)(G:Nat->Int)(m:Int)(w:World)(hs:SlF 16 w p N F)(hN2:N<=17179869184)(hp:N=0->p=none->cap=0)(hF:Fits64 F)(hg:SlF 4 w pg ng G)(h1:-9223372036854775808<=m)(h2:m<=9223372036854775807):
  Calls Tryz.prog 90 #[.agg T8,.slice p N cap,.slice pg ng cg,.int .i64 m] w fun e w'=>∃g,e = .returned (.slice (some ⟨g,0,none⟩) (samN N m) (samN N m))/\CellsAt w' g (samN N m) (wholeF N G ng F)/\w.heap.size<=g/\Old w w':=by
 have HB:=zH (CloneBk_any p N cap F (w.alloc (.cells T8 57)) (hs.old (Old.alloc _ _)) hN2 hp)
 have HGo:=zH (fun(i:Nat) (h:i<N) (V:World) (hV:SlF 4 V pg ng G)=>gainsOf_any pg ng cg i G V hV (by omega))
 have Hs16:=zH Tryz.block_size
 have HZ:Hid ((Tryz.prog.info? 53).map (·.size)=some 16):=zH (by kernel_rfl)
 have hs8:=T8_size
 have HG:=zH hg
 have HMt:=zH (fun(M:Nat->Int) (pt:Option Addr) (V:World) (h:SpR w w.heap.size pt N pg ng G M V) (c:Nat)=>h.meetBack hg c hN2)
 have HIn:=zH (wholeM_in (n:=N) hF)
 have H0:Hid (∀W pt,OwnR 16 (fun q=>q<(w.alloc (.cells T8 57)).heap.size) W pt N F->Old (w.alloc (.cells T8 57)) W->SpR w w.heap.size pt N pg ng G F W):=fun W pt hc ho=>
  ⟨hc.mono fun q hq=>by simp;omega,(ho.block _ (by simp)).trans (heap_alloc_new _ _),(hg.old (Old.alloc _ _)).old ho,(Old.alloc w _).trans ho⟩
 have HSm:=zH (fun(pt:Option Addr) (c:Nat) (M:Nat->Int) (V:World) (h:SlF 16 V pt N M)=>Samples_any pt N c m M V h hN2 h1 h2)
 clear hs hg hF hp
 have HBx:Hid (∀(pt:Option Addr) (M:Nat->Int) (W:World),SpR w w.heap.size pt N pg ng G M W->W.heap[w.heap.size]?=some (.cells T8 57 (0,0))):=fun _ _ _ h=>h.box
 generalize hT:T8=R at *
 go_enter Tryz.func90,Tryz.ntmps90
 go_wp2_with fail
 refine HB.out.mono ?_
 rintro e w1 ⟨pt,cc,rfl,hc1,ho1⟩
 have H1:=zH (H0.out w1 pt hc1 ho1)
 clear hc1 ho1 H0 HB
 go_wp2_with fail
 have HCall:=zH (fun(k:Nat) (h:k<N) (V:World)=>Inverse_any (rowAt F k) V)
 go_loopw [16] (fun i wr=>∃k:Nat,k<=N/\i = .int .i64 k/\Hid (SpR w w.heap.size pt N pg ng G (mapTo k (back) F) wr)) (fun i _=>N-(intOf i).toNat)
 case atStart=>exact⟨0,by omega,rfl,by rw [mapTo_zero];exact H1⟩
 case round=>
  obtain⟨k,hk,rfl,HS⟩:=hrel
  by_cases hlt:k<N
  ·clear H1
   obtain⟨gb,rfl,_,_⟩:=HS.out.at_ (by omega)
   have i1:(0:Int)<=k:=by omega
   have i2:(k:Int)<N:=by omega
   have cells:Hid (∀V,Old wr.drew V->(∀j,j<16->V.cell? ⟨gb,k*16+j,none⟩=some (.int .i64 (rowAt F k j)))/\V.there gb (k*16) 16):=fun V hV=>by
    have h:=(HS.out.drew.keep hV).row k hlt
    exact⟨fun j hj=>by rw [←mapTo_row (back) F k j];exact h.1 j hj,h.2⟩
   have NX:Hid (∀V,Old wr.drew V->SpR w w.heap.size (some ⟨gb,0,none⟩) N pg ng G (mapTo (k+1) (back) F) (V.setCells gb (k*16) (rowL 16 (back k (rowAt F k))))):=fun V hV=>by
    have h:=(HS.out.drew.keep hV).store HG.out k hlt (back k (rowAt F k))
    rwa [mapTo_step] at h
   have HGs:Hid (∀V,Old wr.drew V->SlF 4 V pg ng G):=fun V hV=>(HS.out.drew.keep hV).gs
   have HC':=zH (HCall.out k hlt)
   have HBo:Hid (∀V,Old wr.drew V->V.heap[w.heap.size]?=some (.cells R 57 (0,0))):=fun V hV=>HBx.out _ _ _ (HS.out.drew.keep hV)
   have HBs:Hid (∀V,Old wr.drew V->(V.setCells gb (k*16) (rowL 16 (back k (rowAt F k)))).heap[w.heap.size]?=some (.cells R 57 (0,0))):=fun V hV=>HBx.out _ _ _ (NX.out V hV)
   have hPart:=fun V h=>net_part V w.heap.size R h
   clear HS HGs
   go_wp2_with fail
   refine wp_region_held_drew (S:=(fun w'=>w'.heap[w.heap.size]?=some (.cells R 57 (0,0)))) (by kernel_rfl) ?_ (fun hHeld=>?_)
   ·(try dsimp only);exact HBo.out _ (Old.refl _)
   refine wpU 0 rfl ?_;try simp only [Act.put,sA,sZ,sS]
   refine wpU 1 rfl ?_;try simp only [Act.put,sA,sZ,sS]
   refine wpU 2 rfl ?_;try simp only [Act.put,sA,sZ,sS]
   refine wpU 3 rfl ?_;try simp only [Act.put,sA,sZ,sS]
   refine wpU 4 rfl ?_;try simp only [Act.put,sA,sZ,sS]
   refine wpU 5 rfl ?_;try simp only [Act.put,sA,sZ,sS]
   refine wpU 6 rfl ?_;try simp only [Act.put,sA,sZ,sS]
   refine wpR 7 rfl (fun K hK=>?_)
   rw [if_pos (by kernel_rfl)]
   refine wp_load_blk 16 (rowAt F k) 43 _ rfl (gb) (k*16) rfl _ ((cells.out _ (Old.refl _)).1) Tryz.underlying43 rfl Hs16.out ?_
   try simp only [Act.put,sA,sZ,sS]
   refine hK.out _ _ ?_ (fun hHeld=>?_)
   ·(try dsimp only);exact hHeld
   clear hK K
   try simp only [Act.put,sA,sZ,sS]
   refine wpR 8 rfl (fun K hK=>?_)
   go_simp
   refine(HC'.out _).mono ?_
   rintro e V2 ⟨rfl,o2⟩
   go_wp2_with fail
   refine hK.out _ _ ?_ (fun hHeld=>?_)
   ·(try dsimp only);exact HBo.out _ o2
   clear hK K
   try simp only [Act.put,sA,sZ,sS]
   refine wpU 9 rfl ?_;try simp only [Act.put,sA,sZ,sS]
   refine wpR 10 rfl (fun K hK=>?_)
   rw [if_pos (by kernel_rfl)]
   refine wp_store_blk 16 (back k (rowAt F k)) 43 _ _ rfl (gb) (k*16) rfl rfl ((cells.out _ o2).2) Hs16.out ?_
   try simp only [Act.put,sA,sZ,sS]
   refine hK.out _ _ ?_ (fun hHeld=>?_)
   ·(try dsimp only);exact HBs.out _ o2
   clear hK K
   try simp only [Act.put,sA,sZ,sS]
   refine wpAnyH_done (by kernel_rfl) ?_ _
   have HN:=zH (NX.out _ o2)
   clear cells NX o2 HC' HBo HBs hPart
   go_wp2_with fail
   go_roundw
   case rel=>exact⟨k+1,by omega,by go_num,HN⟩
   case measure=>(simp [intOf];try omega)
  ·obtain rfl:k=N:=by omega
   have H2:=HS
   clear HS HCall
   have hb:=HBx.out _ _ _ H2.out
   have HM:=zH (HMt.out _ _ _ H2.out cc)
   have HC2:=zH (fun(k':Nat) (h:k'<k) (V:World)=>Down_any (rowAt (wholeM k F) k') (gainsAt G ng k') (fun j _=>HIn.out _) V)
   clear HMt H1
   go_wp2_with (with_reducible refine wpList_load_row rfl 53 _ rfl w.heap.size rfl 57 R (0,0) _ hb Tryz.underlying53 rfl (by rw [hs8];exact HZ.out) ?_)
   refine HM.out.mono ?_
   rintro e w2 ⟨rfl,h3⟩
   have H3:=zH h3
   rw [show meetTo backWA backWB k (mapTo k back F)=wholeM k F from rfl] at H3
   clear h3 HM H2 hb
   obtain⟨M2,hM2⟩:∃M,M=wholeM k F:=⟨_,rfl⟩
   rw [←hM2] at H3 HC2
   have HSpec:Hid (wholeF k G ng F=mapTo k (quieter G ng) M2):=by unfold Hid wholeF;rw [hM2]
   have HCall:=HC2
   clear hM2 HC2 HIn
   obtain⟨N,hNk⟩:∃N,N=k:=⟨_,rfl⟩
   subst hNk
   go_wp2_with fail
   go_loopw [37] (fun i wr=>∃k:Nat,k<=N/\i = .int .i64 k/\Hid (SpR w w.heap.size pt N pg ng G (mapTo k (quieter G ng) M2) wr)) (fun i _=>N-(intOf i).toNat)
   case atStart=>exact⟨0,by omega,rfl,by rw [mapTo_zero];exact H3⟩
   case round=>
    obtain⟨k,hk,rfl,HS⟩:=hrel
    by_cases hlt:k<N
    ·clear H3
     obtain⟨gb,rfl,_,_⟩:=HS.out.at_ (by omega)
     have i1:(0:Int)<=k:=by omega
     have i2:(k:Int)<N:=by omega
     have cells:Hid (∀V,Old wr.drew V->(∀j,j<16->V.cell? ⟨gb,k*16+j,none⟩=some (.int .i64 (rowAt M2 k j)))/\V.there gb (k*16) 16):=fun V hV=>by
      have h:=(HS.out.drew.keep hV).row k hlt
      exact⟨fun j hj=>by rw [←mapTo_row (quieter G ng) M2 k j];exact h.1 j hj,h.2⟩
     have NX:Hid (∀V,Old wr.drew V->SpR w w.heap.size (some ⟨gb,0,none⟩) N pg ng G (mapTo (k+1) (quieter G ng) M2) (V.setCells gb (k*16) (rowL 16 (quieter G ng k (rowAt M2 k))))):=fun V hV=>by
      have h:=(HS.out.drew.keep hV).store HG.out k hlt (quieter G ng k (rowAt M2 k))
      rwa [mapTo_step] at h
     have HGs:Hid (∀V,Old wr.drew V->SlF 4 V pg ng G):=fun V hV=>(HS.out.drew.keep hV).gs
     have hGo:=HGo.out k hlt
     have hC:=HCall.out k hlt
     have HGo':=zH hGo
     have HC':=zH hC
     clear hGo hC HS
     go_wp2_with fail
     refine wp_region_held_drew (S:=(fun _=>True)) (by kernel_rfl) ?_ (fun hHeld=>?_)
     ·exact trivial
     refine wpU 0 rfl ?_;try simp only [Act.put,sA,sZ,sS]
     refine wpU 1 rfl ?_;try simp only [Act.put,sA,sZ,sS]
     refine wpU 2 rfl ?_;try simp only [Act.put,sA,sZ,sS]
     refine wpU 3 rfl ?_;try simp only [Act.put,sA,sZ,sS]
     refine wpU 4 rfl ?_;try simp only [Act.put,sA,sZ,sS]
     refine wpU 6 rfl ?_;try simp only [Act.put,sA,sZ,sS]
     refine wpU 7 rfl ?_;try simp only [Act.put,sA,sZ,sS]
     refine wpAnyH_ready (rs:=[5,8]) (by kernel_rfl) (by simp) ?_
     refine AllReadyH.cons (o:=⟨_,_,_,_,_,_⟩) rfl (fun K hK=>?_) (AllReadyH.cons (o:=⟨_,_,_,_,_,_⟩) rfl (fun K hK=>?_) AllReadyH.nil)
     ·rw [if_pos (by kernel_rfl)]
      refine wp_load_blk 16 (rowAt M2 k) 43 _ rfl (gb) (k*16) rfl _ ((cells.out _ (Old.refl _)).1) Tryz.underlying43 rfl Hs16.out ?_
      try simp only [Act.put,sA,sZ,sS]
      refine hK.out _ _ ?_ (fun hHeld=>?_)
      ·exact trivial
      clear hK K
      try simp only [Act.put,sA,sZ,sS]
      refine wpR 8 rfl (fun K hK=>?_)
      go_simp
      refine(HGo'.out _ (HGs.out _ (Old.refl _))).mono ?_
      rintro e V1 ⟨rfl,o1⟩
      go_wp2_with fail
      refine hK.out _ _ ?_ (fun hHeld=>?_)
      ·exact trivial
      clear hK K
      try simp only [Act.put,sA,sZ,sS]
      refine wpR 9 rfl (fun K hK=>?_)
      go_simp
      refine(HC'.out _).mono ?_
      rintro e V2 ⟨rfl,o2⟩
      go_wp2_with fail
      refine hK.out _ _ ?_ (fun hHeld=>?_)
      ·exact trivial
      clear hK K
      try simp only [Act.put,sA,sZ,sS]
      refine wpU 10 rfl ?_;try simp only [Act.put,sA,sZ,sS]
      refine wpR 11 rfl (fun K hK=>?_)
      rw [if_pos (by kernel_rfl)]
      refine wp_store_blk 16 (quieter G ng k (rowAt M2 k)) 43 _ _ rfl (gb) (k*16) rfl rfl ((cells.out _ (o1.trans o2)).2) Hs16.out ?_
      try simp only [Act.put,sA,sZ,sS]
      refine hK.out _ _ ?_ (fun hHeld=>?_)
      ·exact trivial
      clear hK K
      try simp only [Act.put,sA,sZ,sS]
      refine wpAnyH_done (by kernel_rfl) ?_ _
      have HN:=zH (NX.out _ (o1.trans o2))
      clear cells NX HGs o1 o2 HGo' HC'
      go_wp2_with fail
      go_roundw
      case rel=>exact⟨k+1,by omega,by go_num,HN⟩
      case measure=>(simp [intOf];try omega)
     ·go_simp
      refine(HGo'.out _ (HGs.out _ (Old.refl _))).mono ?_
      rintro e V1 ⟨rfl,o1⟩
      go_wp2_with fail
      refine hK.out _ _ ?_ (fun hHeld=>?_)
      ·exact trivial
      clear hK K
      try simp only [Act.put,sA,sZ,sS]
      refine wpR 5 rfl (fun K hK=>?_)
      rw [if_pos (by kernel_rfl)]
      refine wp_load_blk 16 (rowAt M2 k) 43 _ rfl (gb) (k*16) rfl _ ((cells.out _ o1).1) Tryz.underlying43 rfl Hs16.out ?_
      try simp only [Act.put,sA,sZ,sS]
      refine hK.out _ _ ?_ (fun hHeld=>?_)
      ·exact trivial
      clear hK K
      try simp only [Act.put,sA,sZ,sS]
      refine wpR 9 rfl (fun K hK=>?_)
      go_simp
      refine(HC'.out _).mono ?_
      rintro e V2 ⟨rfl,o2⟩
      go_wp2_with fail
      refine hK.out _ _ ?_ (fun hHeld=>?_)
      ·exact trivial
      clear hK K
      try simp only [Act.put,sA,sZ,sS]
      refine wpU 10 rfl ?_;try simp only [Act.put,sA,sZ,sS]
      refine wpR 11 rfl (fun K hK=>?_)
      rw [if_pos (by kernel_rfl)]
      refine wp_store_blk 16 (quieter G ng k (rowAt M2 k)) 43 _ _ rfl (gb) (k*16) rfl rfl ((cells.out _ (o1.trans o2)).2) Hs16.out ?_
      try simp only [Act.put,sA,sZ,sS]
      refine hK.out _ _ ?_ (fun hHeld=>?_)
      ·exact trivial
      clear hK K
      try simp only [Act.put,sA,sZ,sS]
      refine wpAnyH_done (by kernel_rfl) ?_ _
      have HN:=zH (NX.out _ (o1.trans o2))
      clear cells NX HGs o1 o2 HGo' HC'
      go_wp2_with fail
      go_roundw
      case rel=>exact⟨k+1,by omega,by go_num,HN⟩
      case measure=>(simp [intOf];try omega)
    ·obtain rfl:k=N:=by omega
     have HS2:=zH (HSm.out pt cc _ wr HS.out.at_.sl)
     have HO:=zH HS.out.old
     rw [←HSpec.out] at HS2
     clear HS HCall HSpec H3 HSm
     go_wp2_with fail
     refine HS2.out.mono ?_
     rintro e w4 ⟨rfl,hc4,ho4⟩
     have HC4:=zH hc4
     have HO4:=zH (HO.out.trans ho4)
     have HSz:=zH HO.out.size
     clear hc4 ho4 HO HS2
     go_wp2_with fail
     go_ret
     exact⟨_,rfl,HC4.out,HSz.out,HO4.out⟩
def Same16(f g:Nat->Int):Prop:=∀k,k<16->f k=g k
theorem stepB_same{f g:Nat->Int}(h:Same16 f g)(x:NPair):Same16 (stepB f x) (stepB g x):=fun k hk=>by
 unfold stepB
 rw [h _ x.h1,h _ x.h2,h k hk]
theorem foldB_same:∀(l:List NPair) {f g:Nat->Int},Same16 f g->Same16 (l.foldl stepB f) (l.foldl stepB g)
 | [],_,_,h=>h
 | x :: l,_,_,h=>foldB_same l (stepB_same h x)
theorem bckN_same(n:Nat){f g:Nat->Int}(h:Same16 f g):Same16 (bckN n f) (bckN n g):=by
 induction n with
 | zero=>exact h
 | succ n ih=>exact foldB_same _ ih
theorem upI_in(x s:Int):-9223372036854775808<=upI x s/\upI x s<=9223372036854775807:=wrap64_bd _
theorem louder_in(G:Nat->Int)(ng b:Nat)(f:Nat->Int):Fits64 (louder G ng b f):=fun k=>upI_in _ _
theorem metF_in(N:Nat)(G:Nat->Int)(ng:Nat){F:Nat->Int}(h:Fits64 F):Fits64 (metF N G ng F):=
 meetTo_in (fun _ _ _ _=>wrap64_bd _) (fun _ _ _ _=>wrap64_bd _) (mapTo_in (fun b f _=>louder_in G ng b f) h)
theorem spectraF_in(N:Nat)(G:Nat->Int)(ng:Nat){F:Nat->Int}(h:Fits64 F):Fits64 (spectraF N G ng F):=
 mapTo_in (fun _ _ hf=>fwdN_in 4 hf) (metF_in N G ng h)
theorem down_up(x s:Int)(h1:-1048576<=x)(h2:x<=1048576)(s0:0<=s)(s3:s<=3):downI (upI x s) s=x:=by
 rcases(by omega:s=0\/s=1\/s=2\/s=3) with rfl | rfl | rfl | rfl
 ·unfold downI upI roundI
  rw [show (0:Int).toNat=0 from rfl,show pw 0=1 from rfl,show (2:Int) ^ 0=1 from rfl,IntWalk.wrap64_in _ (by omega)]
  split <;> omega
 ·unfold downI upI roundI
  rw [show (1:Int).toNat=1 from rfl,show pw 1=2 from rfl,show (2:Int) ^ 1=2 from rfl,IntWalk.wrap64_in _ (by omega)]
  split <;> omega
 ·unfold downI upI roundI
  rw [show (2:Int).toNat=2 from rfl,show pw 2=4 from rfl,show (2:Int) ^ 2=4 from rfl,IntWalk.wrap64_in _ (by omega)]
  split <;> omega
 ·unfold downI upI roundI
  rw [show (3:Int).toNat=3 from rfl,show pw 3=8 from rfl,show (2:Int) ^ 3=8 from rfl,IntWalk.wrap64_in _ (by omega)]
  split <;> omega
theorem back_forth{M:Nat->Int}(h:Fits64 M)(N q:Nat)(hq:q<N*16):mapTo N back (mapTo N forth M) q=M q:=by
 rw [mapTo_end _ _ _ _ hq]
 obtain⟨b,r,rfl,hr,_,_⟩:=split16 q
 rw [mapB_at _ _ _ _ hr]
 unfold back
 have e:Same16 (rowAt (mapTo N forth M) b) (fwdN 4 (rowAt M b)):=fun k hk=>by
  show mapTo N forth M (b*16+k)=_
  rw [mapTo_end _ _ _ _ (by omega),mapB_at _ _ _ _ hk]
  rfl
 rw [bckN_same 4 e r hr,bck_fwd (show Fits64 (rowAt M b) from fun k=>h _)]
 rfl
theorem wholeM_spectra{F:Nat->Int}(h:Fits64 F)(N:Nat)(G:Nat->Int)(ng q:Nat)(hq:q<N*16):wholeM N (spectraF N G ng F) q=mapTo N (louder G ng) F q:=by
 unfold wholeM spectraF
 rw [meetTo_ext (fun q hq=>back_forth (metF_in N G ng h) N q hq) q hq]
 unfold metF
 rw [meet_back (mapTo_in (fun b f _=>louder_in G ng b f) h)]
theorem lap_back{F:Nat->Int}(h:∀q,-1048576<=F q/\F q<=1048576)(N:Nat)(G:Nat->Int)(ng q:Nat)(hq:q<N*16):wholeF N G ng (spectraF N G ng F) q=F q:=by
 have h64:Fits64 F:=fun k=>by have:=h k;omega
 unfold wholeF
 rw [mapTo_end _ _ _ _ hq]
 obtain⟨b,r,rfl,hr,_,_⟩:=split16 q
 rw [mapB_at _ _ _ _ hr]
 have e:wholeM N (spectraF N G ng F) (b*16+r)=upI (F (b*16+r)) (atI (gainsAt G ng b) r):=by
  rw [wholeM_spectra h64 N G ng _ hq,mapTo_end _ _ _ _ hq,mapB_at _ _ _ _ hr]
  rfl
 show downI (rowAt (wholeM N (spectraF N G ng F)) b r) (atI (gainsAt G ng b) r)=_
 unfold rowAt
 rw [e]
 exact down_up _ _ (h _).1 (h _).2 (atI_bd _ _).1 (atI_bd _ _).2
end Go.Proofs.YtgefdmfcddpaiaaGreatDoor
