/- Texts joined: Byt, DiskA. -/
import Derived.Lib.LazyBuf
import Derived.Test.YticpdokbiblpoaaGreatDoorChecked
import Derived.StillTailTactics
import Derived.RegionTactic
import Derived.BigRegion
import Derived.Test.YticpdokbiblpoaaGreatDoorPkAB
import Derived.Test.YticpdokbiblpoaaGreatDoorPkAD
import Derived.Test.YticpdokbiblpoaaGreatDoorTk
set_option linter.unusedVariables false
set_option maxHeartbeats 1000000
namespace Go.Proofs.YticpdokbiblpoaaGreatDoor
open Go.Proofs.Tryz
open Go.Proofs.Tryz renaming prog → zP
open Go.Value renaming int → vI
open Go.IntKind renaming i64 → iJ
open Go.Ending renaming returned → rJ
set_option maxRecDepth 100000
open Go.RowKit Go.ChangeShapes Go.WideShapes
def bU(F:nI):Nat->Value:=fun j=>.int .u8 (F j)
def SlU(w:World)(p:Option Addr)(n:Nat)(F:nI):Prop:=0<n->∃g o,p=some ⟨g,o,none⟩/\g<w.heap.size/\∀j,j<n->w.cell? ⟨g,o+j,none⟩=some (.int .u8 (F j))
def lS(F:nI)(n:Nat):Prop:=∀j,j<n->0<=F j/\F j<=255
namespace SlU
variable {w w':World} {p:Option Addr} {n:Nat} {F:nI}
theorem old(h:SlU w p n F)(k:Old w w'):SlU w' p n F:=fun hn=>by
 obtain⟨g,o,h1,h2,h3⟩:=h hn;exact⟨g,o,h1,Nat.lt_of_lt_of_le h2 k.size,fun j hj=>(k.cell (a:=⟨g,o+j,none⟩) h2).trans (h3 j hj)⟩
theorem kept{X:Nat->Prop}(h:SlU w p n F)(k:Kept X w w')(hX:∀a,0<n->p=some a->X a.block):SlU w' p n F:=fun hn=>by
 obtain⟨g,o,h1,h2,h3⟩:=h hn;exact⟨g,o,h1,Nat.lt_of_lt_of_le h2 k.size,fun j hj=>(k.cell (a:=⟨g,o+j,none⟩) (hX ⟨g,o,none⟩ hn h1)).trans (h3 j hj)⟩
theorem ext{G:nI}(h:SlU w p n F)(e:∀j,j<n->F j=G j):SlU w p n G:=fun hn=>by
 obtain⟨g,o,h1,h2,h3⟩:=h hn;exact⟨g,o,h1,h2,fun j hj=>by rw[<-e j hj];exact h3 j hj⟩
theorem slI(h:SlU w p n F){cap:Nat}(h1:n<=cap)(h2:cap<=maxLen):kK w .u8 (.slice p n cap) (gQ F n):=by
 refine⟨p,cap,by rw[dB],fun hne=>?_⟩;have hn:0<n:=by
  rcases Nat.eq_zero_or_pos n with h | h
  ·subst h;exact absurd rfl hne
  ·exact h
 obtain⟨g,o,e1,e2,e3⟩:=h hn;refine⟨g,o,e1,e2,by rw[dB];exact h1,h2,fun i hi=>?_⟩;rw[dB]at hi;rw[e3 i hi,iT F n i hi]
end SlU
def UAt(w:World)(g m:Nat)(F:nI):Prop:=CellsV w g m (bU F)
namespace UAt
variable {w w':World} {g m:Nat} {F:nI} {Y:Nat->Prop}
theorem lt(h:UAt w g m F):g<w.heap.size:=CellsV.lt h
theorem at_(h:UAt w g m F)(j:Nat)(hj:j<m):w.cell? ⟨g,j,none⟩=some (.int .u8 (F j)):=CellsV.cell h j hj
theorem fz(h:UAt w g m F)(j:Nat)(hj:j<m):w.frozen? ⟨g,j,none⟩=false:=CellsV.frz h j hj
theorem kept(h:UAt w g m F)(k:Kept Y w w')(hY:Y g):UAt w' g m F:=CellsV.kept h k hY
theorem old(h:UAt w g m F)(k:Old w w'):UAt w' g m F:=CellsV.old h k
theorem drew(h:UAt w g m F):UAt w.drew g m F:=CellsV.drew h
theorem ext{G:nI}(h:UAt w g m F)(e:∀j,j<m->F j=G j):UAt w g m G:=CellsV.ext h fun j hj=>by unfold bU;rw[e j hj]
theorem set(h:UAt w g m F)(j:Nat)(hj:j<m)(v:Int):UAt (w.setCell ⟨g,j,none⟩ (.int .u8 v)) g m (fun k=>if k=j then v else F k):=by
 refine⟨by have:=h.lt;simpa[World.setCell]using this,fun k hk=>?_,fun k hk=>by rw[World.frozen?_setCell];exact h.fz k hk⟩;unfold bU;by_cases e:k=j
 ·subst e;rw[World.cell?_setCell_same _ _ _ (h.at_ k hk)];simp only[if_true]
 ·rw[World.cell?_setCell_other _ _ _ _ (fun e'=>e (by injection e' with _ e2;exact e2.symm))];simp only[if_neg e];exact h.at_ k hk
theorem sl(h:UAt w g m F)(o n:Nat)(hn:o+n<=m):SlU w (some ⟨g,o,none⟩) n (fun j=>F (o+j)):=fun _=>⟨g,o,rfl,h.lt,fun j hj=>h.at_ (o+j) zO⟩
theorem there(h:UAt w g m F)(o n:Nat)(hn:o+n<=m):w.there g o n:=fun j hj=>⟨by rw[h.at_ (o+j) zO];rfl,h.fz (o+j) zO⟩
theorem setCells(h:UAt w g m F)(o n:Nat)(hn:o+n<=m)(f:nI):UAt (w.setCells g o ((gQ f n).map (Value.int .u8))) g m (aV F o n f):=by
 have e:(gQ f n).map (Value.int .u8)=(aA n (bU f)).toList:=by rw[qY];simp[gQ,bU,Function.comp_def]
 rw[e];refine CellsV.ext (CellsV.setCells h o n hn (bU f)) fun j hj=>?_;show (if o<=j/\j<o+n then Value.int .u8 (f (j-o)) else Value.int .u8 (F j))=Value.int .u8 (if o<=j/\j<o+n then f (j-o) else F j);split <;> rfl
end UAt
theorem qF(w:World)(m:Nat)(F:nI)(t:TypeId):UAt (w.alloc (.cells (aA m (bU F)) t)) w.heap.size m F:=kW (heap_alloc_new _ _)
theorem aHl{w:World}{g m:Nat}{F:nI}{t:TypeId}(h:w.heap[g]?=some (.cells (aA m (bU F)) t (0,0))):UAt w g m F:=kW h
theorem aDy(xs:List Int):∀v∈xs.map (Value.int .u8),v.oneCell'=true:=by
 intro v hv;obtain⟨i,_,rfl⟩:=List.mem_map.1 hv;rfl
theorem AV{P:Program}{w:World}{o:Oper}{a:Act}{K:Act->World->Prop}{Q:Exit->Act->World->Prop}(d s:Operand)(dT sT:TypeId)
  (ho:o.op=.call { callee:=.builtin .copy,args:=#[d,s],argTypes:=#[dT,sT] }) (elem:TypeId) (hu:P.underlying dT=some (.slice elem)) (hsz:(P.info? elem).map (·.size)=some 1)
  (n:Nat) (f:nI) (g off dLen dCap b so oW sCap:Nat) (hd:a.eval d=.slice (some ⟨g,off,none⟩) dLen dCap) (hs:a.eval s=.slice (some ⟨b,so,none⟩) oW sCap) (hn:n=Nat.min oW dLen)
  (hsrc:∀j,j<n->w.cell? ⟨b,so+j,none⟩=some (.int .u8 (f j))) (ht:w.there g off n)
  (h:K (a.put o.dst (vI iJ (n:Int))) (w.setCells g off ((gQ f n).map (Value.int .u8)))):o.wp P a w K Q:=by
 have hlen:((gQ f n).map (Value.int .u8)).length=n:=by rw[List.length_map,dB]
 have hrun:=run_copy_cells (P:=P) w dT sT o.type elem g off dLen dCap ⟨b,so,none⟩ oW sCap ((gQ f n).map (Value.int .u8)) hu hsz (by rw[hlen];exact hn)
  (fun j v hv=>by
   have hj:j<n:=by
    rcases Nat.lt_or_ge j n with h | h
    ·exact h
    ·rw[List.getElem?_eq_none zO]at hv;cases hv
   have:((gQ f n).map (Value.int .u8))[j]?=some (.int .u8 (f j)):=by simp[gQ,hj]
   rw[this]at hv;cases hv;rw[add_plain];exact hsrc j hj) (fun j hj=>(ht j (by rw[hlen]at hj;exact hj)).1) (fun j hj=>(ht j (by rw[hlen]at hj;exact hj)).2) (aDy _)
 rw[hlen]at hrun;unfold Oper.wp;simp[execOp,ho,resolve,invoke,builtin,hd,hs,hrun,Result.andThen];exact h
theorem yK{P:Program}{w:World}{ops:Array Oper}{rest:List Oper}{o:Oper}{a:Act}{Q:Exit->Act->World->Prop}(hgd:o.guard=none)(d s:Operand)(dT sT:TypeId)
  (ho:o.op=.call { callee:=.builtin .copy,args:=#[d,s],argTypes:=#[dT,sT] }) (elem:TypeId) (hu:P.underlying dT=some (.slice elem)) (hsz:(P.info? elem).map (·.size)=some 1)
  (n:Nat) (f:nI) (g off dLen dCap b so oW sCap:Nat) (hd:a.eval d=.slice (some ⟨g,off,none⟩) dLen dCap) (hs:a.eval s=.slice (some ⟨b,so,none⟩) oW sCap) (hn:n=Nat.min oW dLen)
  (hsrc:∀j,j<n->w.cell? ⟨b,so+j,none⟩=some (.int .u8 (f j))) (ht:w.there g off n)
  (h:wpList P ops Q rest (a.put o.dst (vI iJ (n:Int))) (w.setCells g off ((gQ f n).map (Value.int .u8)))):wpList P ops Q (o :: rest) a w:=
 wpList_plain hgd fun _ hK=>AV d s dT sT ho elem hu hsz n f g off dLen dCap b so oW sCap hd hs hn hsrc ht (hK _ _ h)
theorem FY(t:ByteArray):(t.data.toList.map fun x=>Value.int .u8 (x.toNat:Int))=(gQ (lT t) t.size).map (Value.int .u8):=by
 apply List.ext_getElem
 ·rw[List.length_map,List.length_map,dB,<-Lib.size_eq]
 ·intro i h1 h2;have hi:i<t.size:=by
   have h3:i<t.data.toList.length:=by simpa using h1
   rw[<-Lib.size_eq]at h3;exact h3
  have e:=jL t i hi;simp only[gQ,List.getElem_map,List.getElem_range];rw[<-e];rfl
theorem LM{P:Program}{w:World}{o:Oper}{a:Act}{K:Act->World->Prop}{Q:Exit->Act->World->Prop}(d s:Operand)(dT sT:TypeId)
  (ho:o.op=.call { callee:=.builtin .copy,args:=#[d,s],argTypes:=#[dT,sT] }) (elem:TypeId) (hu:P.underlying dT=some (.slice elem)) (hz:∀w,(Go.sizeOf elem).run P w=.ok 1 w)
  (t:ByteArray) (g off dLen dCap:Nat) (hd:a.eval d=.slice (some ⟨g,off,none⟩) dLen dCap) (hs:a.eval s=.string t) (hle:t.size<=dLen) (ht:w.there g off t.size)
  (h:K (a.put o.dst (vI iJ (t.size:Int))) (w.setCells g off ((gQ (lT t) t.size).map (Value.int .u8)))):o.wp P a w K Q:=by
 have hrun:=run_copy_string (P:=P) w dT sT o.type elem g off dLen dCap t hu hz hle (fun j hj=>(ht j hj).1) (fun j hj=>(ht j hj).2);rw[FY]at hrun;unfold Oper.wp;simp[execOp,ho,resolve,invoke,builtin,hd,hs,hrun,Result.andThen];exact h
theorem XB(n:Nat)(F:nI)(j:Nat)(v:Value)(h:(aA n (bU F)).toList[j]?=some v):j<n/\v=.int .u8 (F j):=iS h
theorem VM{P:Program}{op:Oper}{a:Act}{w:World}{K:Act->World->Prop}{Q:Exit->Act->World->Prop}(n:Nat)(f:nI)(ty:TypeId)(x:Operand)(ho:op.op=.load ty x)
  (b o:Nat) (hx:a.eval x=.pointer (some ⟨b,o,none⟩)) (d:TypeDesc) (hc:∀j,j<n->w.cell? ⟨b,o+j,none⟩=some (.int .u8 (f j)))
  (hu:P.underlying ty=some d) (hd:d.isRow=true) (hi:(P.info? ty).map (·.size)=some n) (h:K (a.put op.dst (.agg (aA n (bU f)))) w):op.wp P a w K Q:=
 wp_load_mid ty x ho b o hx (aA n (bU f)).toList d (fun j v hv=>by obtain⟨hj,rfl⟩:=XB n f j v hv;exact hc j hj) hu hd (by rw[dK];exact hi) h
theorem gD{P:Program}{ops:Array Oper}{rest:List Oper}{op:Oper}{a:Act}{w:World}{Q:Exit->Act->World->Prop}(hgd:op.guard=none)(n:Nat)(f:nI)(ty:TypeId)(x:Operand)(ho:op.op=.load ty x)
  (b o:Nat) (hx:a.eval x=.pointer (some ⟨b,o,none⟩)) (d:TypeDesc) (hc:∀j,j<n->w.cell? ⟨b,o+j,none⟩=some (.int .u8 (f j)))
  (hu:P.underlying ty=some d) (hd:d.isRow=true) (hi:(P.info? ty).map (·.size)=some n) (h:wpList P ops Q rest (a.put op.dst (.agg (aA n (bU f)))) w):wpList P ops Q (op :: rest) a w:=
 wpList_plain hgd fun _ hK=>VM n f ty x ho b o hx d hc hu hd hi (hK _ _ h)
theorem uW{P:Program}{ops:Array Oper}{S:World->Prop}{op:Oper}{a:Act}(n:Nat)(f:nI)(hw:Region.wanted op (yielded ops a.tmps)=true)(ty:TypeId)(x:Operand)(ho:op.op=.load ty x)
  (b o:Nat) (hx:a.eval x=.pointer (some ⟨b,o,none⟩)) (d:TypeDesc) (hS:∀w,S w->∀j,j<n->w.cell? ⟨b,o+j,none⟩=some (.int .u8 (f j)))
  (hu:P.underlying ty=some d) (hd:d.isRow=true) (hi:(P.info? ty).map (·.size)=some n):YieldsIf P ops S op (.agg (aA n (bU f))) a:=
 yieldsIf_load_mid hw ty x ho b o hx (aA n (bU f)).toList d (fun w hw' j v hv=>by obtain⟨hj,rfl⟩:=XB n f j v hv;exact hS w hw' j hj) hu hd (by rw[dK];exact hi)
theorem FQ(n:Nat)(z:Array Value)(hz:z.size≠0)(h:∀j,j<z.size->z[j]?=some (.int .u8 0)):madeCells z n=aA n (bU fun _=>0):=by
 apply Array.ext_getElem?;intro i;by_cases hi:i<n
 ·rw[bI n _ i hi];have hm:i%z.size<z.size:=Nat.mod_lt _ zO;have:=h _ hm;rw[Array.getElem?_eq_getElem hm]at this;simp[madeCells,hi,hm];simpa[bU]using this
 ·rw[Array.getElem?_eq_none (by rw[size_madeCells];omega),Array.getElem?_eq_none (by rw[aB];omega)]
def z64:Array Value:=Array.replicate 64 (.int .u8 0)
theorem NF:z64.size=64:=by simp[z64]
theorem aHv(j:Nat)(h:j<z64.size):z64[j]?=some (.int .u8 0):=by
 rw[NF]at h;simp[z64,h]
theorem Tryz.page_size:(zP.info? 202).map (·.size)=some 64:=zK
theorem Tryz.page_len:zP.arrayLen 202=64:=zK
theorem Tryz.page_elem:∀w,(sizeOf (zP.elem 202)).run zP w=.ok 1 w:=fun w=>zK
theorem Tryz.page_under:zP.underlying 202=some (.array (zP.arrayLen 202) (zP.elem 202)):=zK
theorem Tryz.u8s_elem:∀w,(sizeOf (zP.elem 34)).run zP w=.ok 1 w:=fun w=>zK
theorem Tryz.u8s_under:zP.underlying 34=some (.slice (zP.elem 34)):=zK
theorem Tryz.u8_cells:(zP.info? 5).map (·.size)=some 1:=zK
theorem Tryz.info_page:(zP.info? 202).map (fun i=>(i.zero,i.size,i.bytes))=some (some (.agg z64),64,64):=zK
theorem UG(n:Nat)(hn:n<=1099511627776)(w:World):(Instr.makeSlice 146 (vI iJ n) (vI iJ n)).run zP w=.ok (.slice (some ⟨w.heap.size,0,none⟩) n n) (w.alloc (.cells (aA (n*64) (bU fun _=>0)) 202)):=by
 obtain⟨i,hi,hz0,hz1,hz2⟩:=info_parts Tryz.info_page;rw[run_make w _ _ i _ underlying146 hi hz0 .i64 .i64 n n zO zO (by rw[hz2];omega) zO,hz1,Int.toNat_natCast];rw[show (Value.agg z64).cells=z64 from rfl,FQ (n*64) z64 (by rw[NF];decide) aHv]
def pgs(n:Nat):Nat:=(n+63)/64
def oT(n:Nat)(F:nI):nI:=fun j=>if j<n then F j else 0
def toP(n k:Nat)(F:nI):nI:=fun j=>if j<k*64 then oT n F j else 0
structure aHi(w:World)(n N:Nat)(F:nI)(k:Nat)(wr:World):Prop where
 at_:UAt wr w.heap.size (N*64) (toP n k F)
 old:Old w wr
theorem aFO(p:Option Addr)(n cap:Nat)(F:nI)(w:World)(hs:SlU w p n F)(hn:n<=1099511627776)(h1:n<=cap):
  Calls zP 61 #[.slice p n cap] w fun e w'=>e=rJ (.slice (some ⟨w.heap.size,0,none⟩) (pgs n) (pgs n))/\UAt w' w.heap.size (pgs n*64) (oT n F)/\Old w w':=by
 have HC:=zH hs;obtain⟨N,hN⟩:=zG (pgs n);rw[<-hN];have HN:Hid (N=(n+63)/64):=hN;have hN2:N<=1099511627776:=by have:=HN.o;omega
 have hM:=UG N hN2 w;have H0:Hid (aHi w n N F 0 (w.alloc (.cells (aA (N*64) (bU fun _=>0)) 202))):=⟨(qF w _ _ _).ext fun j _=>by unfold toP;rw[if_neg zO],Old.alloc _ _⟩
 have t0:wrap64 (((n:Int)+64-1).tdiv 64)=N:=by
  rw[gV _ _ zO,IntWalk.wrap64_in _ zO];have:=HN.o;omega
 have t0':((n:Int)+64-1)/64=N:=by have:=HN.o;omega
 have t0'':((n:Int)+63)/64=N:=by have:=HN.o;omega
 clear hs hN;go_enter func61,ntmps61
 go_wp2_with fail
 clear t0 t0' t0''
 go_loopw [13] (fun i wr=>∃k:Nat,k<=N/\i=vI iJ k/\Hid (aHi w n N F k wr)) (fun i _=>N-(intOf i).toNat)
 case atStart=>exact⟨0,zO,rfl,H0⟩
 case round=>
  obtain⟨k,hk,rfl,HR⟩:=hrel;clear H0 hM;by_cases hlt:k<N
  ·have hkn:k*64<n:=by have:=HN.o;omega
   obtain⟨b,off,rfl,hb,hc⟩:=HC.o zO;have hcs:=fun j hj=>(HR.o.old.cell (a:=⟨b,off+j,none⟩) hb).trans (hc j hj);obtain⟨q,hq⟩:=zG (k*64);obtain⟨m,hm⟩:=zG (Nat.min (n-q) 64);have hm2:m<=64/\m<=n-q/\(m=64\/m=n-q):=by rw[hm];simp only[Nat.min_def];split <;> omega
   have HSrc:Hid (∀j,j<m->wr.drew.cell? ⟨b,off+q+j,none⟩=some (.int .u8 (F (k*64+j)))):=fun j hj=>by
    rw[Nat.add_assoc,hq];exact hcs (k*64+j) zO
   have HT:Hid (wr.drew.there w.heap.size (k*64) m):=HR.o.at_.drew.there (k*64) m zO;have HNx:Hid (aHi w n N F (k+1) (wr.drew.setCells w.heap.size (k*64) ((gQ (fun j=>F (k*64+j)) m).map (Value.int .u8)))):=by
    refine⟨(HR.o.at_.drew.setCells (k*64) m zO _).ext fun j hj=>?_,HR.o.old.drew.after (Kept.setCells (X:=fun q=>q<w.heap.size) _ (fun e=>zO) _ _) fun _ h=>h⟩;unfold aV toP oT;dsimp only;by_cases c:k*64<=j/\j<k*64+m
    ·rw[if_pos c,if_pos zO,if_pos zO,show k*64+(j-k*64)=j by omega]
    ·rw[if_neg c];by_cases c2:j<k*64
     ·rw[if_pos c2,if_pos (show j<n by omega),if_pos (show j<(k+1)*64 by omega)]
     ·rw[if_neg c2];by_cases c3:j<(k+1)*64
      ·rw[if_pos c3,if_neg zO]
      ·rw[if_neg c3]
   have hS2:=fun w=>tA (P:=zP) (t:=34) Tryz.u8s_under Tryz.u8s_elem b off n cap q zO zO (q:Int) rfl w;have t1:IntKind.i64.wrap ((k:Int)*64)=q:=by rw[IntWalk.i64_in _ zO];omega
   have t2:wrap64 ((k:Int)*64)=q:=by rw[IntWalk.wrap64_in _ zO];omega
   have hqn:q<n:=zO;have hS3:=fun w=>eM (P:=zP) (t:=202) 64 Tryz.page_under Tryz.page_len Tryz.page_elem zO wr.heap.size 0 w;have HM:=zH hm;clear hm hcs hc HC HN HR hq hkn hm2
   go_wp2_with fail
   refine wp_region_still_tail 8 zK zK ?_;simp only[List.take_succ_cons,List.take_zero,List.drop_succ_cons,List.drop_zero]
   iterate 8 (with_reducible refine wpStill_step (fun K hK=>?_);go_simp;with_reducible refine hK _ ?_;clear hK K)
   with_reducible refine wpStill_nil ?_
   change wpList _ _ _ _ _ wr.drew;refine yK rfl _ _ 34 34 rfl 5 underlying34 Tryz.u8_cells m (fun j=>F (k*64+j)) w.heap.size (k*64) 64 64 b (off+q) (n-q) (cap-q) rfl rfl HM.o HSrc.o HT.o ?_
   go_wp2_with fail
   go_roundw
   case rel=>exact⟨k+1,zO,by go_num,HNx⟩
   case measure=>exact zM
  ·obtain rfl:k=N:=zO;have HE:Hid (UAt wr w.heap.size (k*64) (oT n F)/\Old w wr):=⟨UAt.ext HR.o.at_ (fun j hj=>by unfold toP;rw[if_pos hj]),HR.o.old⟩
   clear HR HC HN
   go_wp2_with fail
   go_ret;exact⟨rfl,HE.o⟩
end Go.Proofs.YticpdokbiblpoaaGreatDoor
