/- Texts joined: AppU, CloneU. -/
import Derived.Test.YticpdokbiblpoaaGreatDoorChecked
import Derived.Test.YticpdokbiblpoaaGreatDoorPkAB
import Derived.Test.YticpdokbiblpoaaGreatDoorPkAP
import Derived.Test.YticpdokbiblpoaaGreatDoorPkAX
import Derived.Test.YticpdokbiblpoaaGreatDoorTk
set_option linter.unusedVariables false
namespace Go.Proofs.YticpdokbiblpoaaGreatDoor
open Go.Proofs.Tryz
open Go.Proofs.Tryz renaming prog → zP
open Go.Value renaming int → vI
open Go.IntKind renaming i64 → iJ
open Go.Ending renaming returned → rJ
set_option maxRecDepth 100000
open Go.RowKit Go.ChangeShapes Go.WideShapes
def DS(F:nI)(n:Nat):List Value:=(gQ F n).map (Value.int .u8)
theorem nZ(F:nI)(n:Nat):(DS F n).length=n:=by unfold DS;rw[List.length_map,dB]
theorem uL(F:nI)(n j:Nat)(h:j<n):(DS F n)[j]?=some (.int .u8 (F j)):=by simp[DS,gQ,h]
theorem aEA{F:nI}{n j:Nat}{u:Value}(h:(DS F n)[j]?=some u):j<n/\u=.int .u8 (F j):=by
 rcases Nat.lt_or_ge j n with h1 | h1
 ·rw[uL F n j h1]at h;exact⟨h1,by simpa using h.symm⟩
 ·rw[List.getElem?_eq_none (by rw[nZ];exact h1)]at h;cases h
theorem aGs{F G:nI}{n:Nat}(h:∀j,j<n->F j=G j):DS F n=DS G n:=by unfold DS;rw[tW h]
theorem PX(F G:nI)(n m:Nat):DS F n ++ DS G m=DS (fun j=>if j<n then F j else G (j-n)) (n+m):=by
 apply List.ext_getElem?;intro j;rcases Nat.lt_or_ge j n with h | h
 ·rw[List.getElem?_append_left (by rw[nZ];exact h),uL F n j h,uL _ _ j zO,if_pos h]
 ·rw[List.getElem?_append_right (by rw[nZ];exact h),nZ];rcases Nat.lt_or_ge j (n+m) with h2 | h2
  ·rw[uL G m (j-n) zO,uL _ _ j h2,if_neg zO]
  ·rw[List.getElem?_eq_none (by rw[nZ];omega),List.getElem?_eq_none (by rw[nZ];omega)]
theorem TF(w:World)(t:TypeId):ownX (fun q=>q<w.heap.size) (w.alloc (.cells #[] t)) t (.slice (some ⟨w.heap.size,0,none⟩) 0 0) 0 []:=by
 refine⟨⟨zS,.inr ⟨w.heap.size,0,#[],rfl,Nat.zero_le _,heap_alloc_new _ _,Nat.le_refl _,Nat.zero_le _,zS,zS⟩⟩,fun k hk=>?_⟩;have:k=w.heap.size:=by simpa[Value.ownBlock,eq_comm]using hk
 omega
theorem ownX.bytes{X:Nat->Prop}{w:World}{e:TypeId}{v:Value}{n:Nat}{F:nI}(h:ownX X w e v n (DS F n)):∃p c,v=.slice p n c/\n<=c/\c<=maxLen/\SlU w p n F/\(0<n->∃g,p=some ⟨g,0,none⟩/\¬X g/\UAt w g n F):=by
 rcases h.shape with ⟨rfl,rfl⟩ | ⟨g,c,rfl,hx,hg,h1,h2,h3⟩
 ·exact⟨none,0,rfl,Nat.le_refl _,Nat.zero_le _,fun h=>absurd h zO,fun h=>absurd h zO⟩
 ·have hu:UAt w g n F:=⟨hg,fun j hj=>h3 j _ (uL F n j hj),fun j _=>h.frozenAt j⟩
  exact⟨some ⟨g,0,none⟩,c,rfl,h1,h2,fun _=>⟨g,0,rfl,hg,fun j hj=>by rw[Nat.zero_add];exact hu.at_ j hj⟩,fun _=>⟨g,rfl,hx,hu⟩⟩
theorem uP{P:Program}(w:World)(t ty e:TypeId)(i:TypeInfo)(ht:P.underlying t=some (.slice e))(hi:P.info? e=some i)(v:Value)(n:Nat)(xs:List Value)(hown:w.ownsRow 0 e 1 v n xs)(p:Option Addr)(c:Nat):
  (Builtin.append_ #[t,t] ty #[v,.slice p 0 c]).run P w=.ok v w:=by
 rcases hown.2 with ⟨rfl,rfl⟩ | ⟨g,cap,cur,rfl,_,_,hnc,_⟩
 ·cases p <;> simp[Builtin.append_,run_underlying ht,sizeOf,typeInfo,hi,Builtin.lenOf,Builtin.firstCells,loadCells,loadCellsFrom]
 ·cases p <;> simp[Builtin.append_,run_underlying ht,sizeOf,typeInfo,hi,Builtin.lenOf,Builtin.firstCells,loadCells,loadCellsFrom,hnc,storeCells]
theorem AY{P:Program}(w:World){ops:Array Oper}{rest:List Oper}{o:Oper}{a:Act}{Q:Exit->Act->World->Prop}(hgd:o.guard=none)(s x:Operand)(t:TypeId)
  (ho:o.op=.call { callee:=.builtin .append,args:=#[s,x],argTypes:=#[t,t] })
  (X:Nat->Prop) (e:TypeId) (i:TypeInfo) (ht:P.underlying t=some (.slice e)) (hi:P.info? e=some i) (hz:i.zero=some (.int .u8 0))
  (hsize:i.size=1) (hby:i.bytes=1)
  (v:Value) (n:Nat) (F:nI) (hs:a.eval s=v) (hown:ownX X w e v n (DS F n))
  (p:Option Addr) (m c:Nat) (G:nI) (hx:a.eval x=.slice p m c) (hg:SlU w p m G)
  (h63:n+m<=1099511627776) (hX:∀k,X k->k<w.heap.size)
  (h:∀v' w',ownX X w' e v' (n+m) (DS (fun j=>if j<n then F j else G (j-n)) (n+m))->Kept X w w'->(∀k,v'.ownBlock=some k->v.ownBlock=some k\/w.heap.size<=k)->wpList P ops Q rest (a.put o.dst v') w'):wpList P ops Q (o :: rest) a w:=by
 rcases Nat.eq_zero_or_pos m with h0 | h0
 ·subst h0;have hr:=uP (P:=P) w t o.type e i ht hi v n _ hown.1 p c;exact Lib.wpList_append_run w hgd s x t t ho v _ hs hx v w hr (h v w (by
   rw[Nat.add_zero,aGs (G:=F) (fun j hj=>if_pos hj)];exact hown) (Kept.refl _ _) (fun k hk=>.inl hk))
 ·obtain⟨g,o',rfl,hlt,hc⟩:=hg h0;refine fL w hgd s x t ho X e i (.int .u8 0) 1 ht hi hz hsize hby rfl v n _ hs hown ⟨g,o',none⟩ m c (DS G m) hx (nZ G m) (fun j u hu=>?_) (fun u hu=>?_) (by unfold maxLen;omega) zO hX ?_
  ·obtain⟨hj,rfl⟩:=aEA hu;rw[add_plain];exact hc j hj
  ·obtain⟨y,_,rfl⟩:=List.mem_map.1 hu;rfl
  ·intro v' w' h1 h2 h3;rw[PX]at h1;exact h v' w' h1 h2 h3
theorem Tryz.info_u8c:(zP.info? 5).map (fun i=>(i.zero,i.size,i.bytes))=some (some (.int .u8 0),1,1):=zK
theorem UE(p:Option Addr)(n cap:Nat)(F:nI)(w:World)(hs:SlU w p n F)(hn:n<=1099511627776):
  Calls zP 60 #[.slice p n cap] w fun e w'=>∃q c,e=rJ (.slice q n c)/\n<=c/\c<=maxLen/\SlU w' q n F/\Old w w'/\∀a,0<n->q=some a->w.heap.size<=a.block:=by
 have HC:=zH hs;clear hs;obtain⟨i0,hi,hz0,hz1,hz2⟩:=info_parts Tryz.info_u8c;cases p with
 | none=>
  have h0:n=0:=by
   rcases Nat.eq_zero_or_pos n with h | h
   ·exact h
   ·obtain⟨b,off,hp,_⟩:=HC.o h;cases hp
  have H0:=zH h0;clear h0 HC;have hE:=eL 34 5 none n cap underlying34;go_enter func60,ntmps60;go_wp2;go_ret;exact⟨none,0,by rw[H0.o];rfl,by rw[H0.o];exact Nat.le_refl _,Nat.zero_le _,fun h=>by have:=H0.o;omega,Old.refl w,fun a hn ha=>by cases ha⟩
 | some a=>
  have HO:Hid (Old w (w.alloc (.cells #[] 5))):=Old.alloc _ _;have hE:=eL 34 5 (some a) n cap underlying34;have ho:ownX (fun q=>q<w.heap.size) (w.alloc (.cells #[] 5)) 5 (.slice (some ⟨w.heap.size,0,none⟩) 0 0) 0 (DS (fun _=>0) 0):=TF w 5;have HOw:=zH ho;have HS:=zH (HC.o.old HO.o);clear HC ho;go_enter func60,ntmps60
  go_wp2_with (at_builtin;refine AY _ rfl _ _ 34 rfl (fun q=>q<w.heap.size) 5 i0 underlying34 hi hz0 hz1 hz2 _ 0 _ rfl HOw.o (some a) n cap F rfl HS.o zO (fun q hq=>Nat.lt_of_lt_of_le hq HO.o.size) ?_;intro v' w2 how hk2 _;have HR2:=zH how;have HO2:=zH (HO.o.after hk2 fun _ h=>h);clear how hk2)
  go_ret;obtain⟨p',c',e1,e2,e3,e4,e5⟩:=HR2.o.bytes;rw[Nat.zero_add]at e1 e2 e4 e5;exact⟨p',c',by rw[e1];rfl,e2,e3,e4.ext fun j _=>by rw[if_neg zO,Nat.sub_zero],HO2.o,fun a hn ha=>by
   obtain⟨g,h1,h2,_⟩:=e5 hn;rw[h1]at ha;cases ha;exact Nat.not_lt.1 h2⟩
end Go.Proofs.YticpdokbiblpoaaGreatDoor
