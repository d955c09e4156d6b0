/- Texts joined: AppU, CloneU. -/
import Derived.Test.YtgefdmfcddpaiaaGreatDoorChecked
import Derived.Test.YtgefdmfcddpaiaaGreatDoorPkAB
import Derived.Test.YtgefdmfcddpaiaaGreatDoorPkAJ
import Derived.Test.YtgefdmfcddpaiaaGreatDoorPkAR
import Derived.Test.YtgefdmfcddpaiaaGreatDoorTk
namespace Go.Proofs.YtgefdmfcddpaiaaGreatDoor
set_option linter.unusedVariables false
set_option maxRecDepth 100000
open Go.RowKit Go.ChangeShapes Go.WideShapes
def u8L(F:Nat->Int)(n:Nat):List Value:=(lst F n).map (Value.int .u8)
theorem u8L_len(F:Nat->Int)(n:Nat):(u8L F n).length=n:=by unfold u8L;rw [List.length_map,lst_len]
theorem u8L_at(F:Nat->Int)(n j:Nat)(h:j<n):(u8L F n)[j]?=some (.int .u8 (F j)):=by simp [u8L,lst,h]
theorem u8L_get{F:Nat->Int}{n j:Nat}{u:Value}(h:(u8L F n)[j]?=some u):j<n/\u = .int .u8 (F j):=by
 rcases Nat.lt_or_ge j n with h1 | h1
 ·rw [u8L_at F n j h1] at h;exact⟨h1,by simpa using h.symm⟩
 ·rw [List.getElem?_eq_none (by rw [u8L_len];exact h1)] at h;cases h
theorem u8L_ext{F G:Nat->Int}{n:Nat}(h:∀j,j<n->F j=G j):u8L F n=u8L G n:=by unfold u8L;rw [lst_ext h]
theorem u8L_append(F G:Nat->Int)(n m:Nat):u8L F n ++ u8L G m=u8L (fun j=>if j<n then F j else G (j-n)) (n+m):=by
 apply List.ext_getElem?
 intro j
 rcases Nat.lt_or_ge j n with h | h
 ·rw [List.getElem?_append_left (by rw [u8L_len];exact h),u8L_at F n j h,u8L_at _ _ j (by omega),if_pos h]
 ·rw [List.getElem?_append_right (by rw [u8L_len];exact h),u8L_len]
  rcases Nat.lt_or_ge j (n+m) with h2 | h2
  ·rw [u8L_at G m (j-n) (by omega),u8L_at _ _ j h2,if_neg (by omega)]
  ·rw [List.getElem?_eq_none (by rw [u8L_len];omega),List.getElem?_eq_none (by rw [u8L_len];omega)]
theorem own_emptyX(w:World)(t:TypeId):ownX (fun q=>q<w.heap.size) (w.alloc (.cells #[] t)) t (.slice (some ⟨w.heap.size,0,none⟩) 0 0) 0 []:=by
 refine⟨⟨by simp,.inr ⟨w.heap.size,0,#[],rfl,Nat.zero_le _,heap_alloc_new _ _,Nat.le_refl _,Nat.zero_le _,by simp,by simp⟩⟩,fun k hk=>?_⟩
 have:k=w.heap.size:=by simpa [Value.ownBlock,eq_comm] using hk
 omega
theorem ownX.bytes{X:Nat->Prop}{w:World}{e:TypeId}{v:Value}{n:Nat}{F:Nat->Int}(h:ownX X w e v n (u8L F n)):∃p c,v = .slice p n c/\n<=c/\c<=maxLen/\SlU w p n F/\(0<n->∃g,p=some ⟨g,0,none⟩/\¬X g/\UAt w g n F):=by
 rcases h.shape with ⟨rfl,rfl⟩ | ⟨g,c,rfl,hx,hg,h1,h2,h3⟩
 ·exact⟨none,0,rfl,Nat.le_refl _,Nat.zero_le _,fun h=>absurd h (by omega),fun h=>absurd h (by omega)⟩
 ·have hu:UAt w g n F:=⟨hg,fun j hj=>h3 j _ (u8L_at F n j hj),fun j _=>h.frozenAt j⟩
  exact⟨some ⟨g,0,none⟩,c,rfl,h1,h2,fun _=>⟨g,0,rfl,hg,fun j hj=>by rw [Nat.zero_add];exact hu.at_ j hj⟩,fun _=>⟨g,rfl,hx,hu⟩⟩
theorem run_append_empty{P:Program}(w:World)(t ty e:TypeId)(i:TypeInfo)(ht:P.underlying t=some (.slice e))(hi:P.info? e=some i)(v:Value)(n:Nat)(xs:List Value)(hown:w.ownsRow 0 e 1 v n xs)(p:Option Addr)(c:Nat):
  (Builtin.append_ #[t,t] ty #[v,.slice p 0 c]).run P w = .ok v w:=by
 rcases hown.2 with ⟨rfl,rfl⟩ | ⟨g,cap,cur,rfl,_,_,hnc,_⟩
 ·cases p <;> simp [Builtin.append_,run_underlying ht,sizeOf,typeInfo,hi,Builtin.lenOf,Builtin.firstCells,loadCells,loadCellsFrom]
 ·cases p <;> simp [Builtin.append_,run_underlying ht,sizeOf,typeInfo,hi,Builtin.lenOf,Builtin.firstCells,loadCells,loadCellsFrom,hnc,storeCells]
theorem append_U{P:Program}(w:World){ops:Array Oper}{rest:List Oper}{o:Oper}{a:Act}{Q:Exit->Act->World->Prop}(hgd:o.guard=none)(s x:Operand)(t:TypeId)
  (ho:o.op = .call { callee:=.builtin .append,args:=#[s,x],argTypes:=#[t,t] })
  (X:Nat->Prop) (e:TypeId) (i:TypeInfo) (ht:P.underlying t=some (.slice e)) (hi:P.info? e=some i) (hz:i.zero=some (.int .u8 0))
  (hsize:i.size=1) (hby:i.bytes=1)
  (v:Value) (n:Nat) (F:Nat->Int) (hs:a.eval s=v) (hown:ownX X w e v n (u8L F n))
  (p:Option Addr) (m c:Nat) (G:Nat->Int) (hx:a.eval x = .slice p m c) (hg:SlU w p m G)
  (h63:n+m<=1099511627776) (hX:∀k,X k->k<w.heap.size)
  (h:∀v' w',ownX X w' e v' (n+m) (u8L (fun j=>if j<n then F j else G (j-n)) (n+m))->Kept X w w'->(∀k,v'.ownBlock=some k->v.ownBlock=some k\/w.heap.size<=k)->wpList P ops Q rest (a.put o.dst v') w'):wpList P ops Q (o :: rest) a w:=by
 rcases Nat.eq_zero_or_pos m with h0 | h0
 ·subst h0
  have hr:=run_append_empty (P:=P) w t o.type e i ht hi v n _ hown.1 p c
  exact Lib.wpList_append_run w hgd s x t t ho v _ hs hx v w hr (h v w (by
   rw [Nat.add_zero,u8L_ext (G:=F) (fun j hj=>if_pos hj)];exact hown) (Kept.refl _ _) (fun k hk=>.inl hk))
 ·obtain⟨g,o',rfl,hlt,hc⟩:=hg h0
  refine append_X w hgd s x t ho X e i (.int .u8 0) 1 ht hi hz hsize hby rfl v n _ hs hown ⟨g,o',none⟩ m c (u8L G m) hx (u8L_len G m) (fun j u hu=>?_) (fun u hu=>?_) (by unfold maxLen;omega) (by omega) hX ?_
  ·obtain⟨hj,rfl⟩:=u8L_get hu
   rw [add_plain]
   exact hc j hj
  ·obtain⟨y,_,rfl⟩:=List.mem_map.1 hu
   rfl
  ·intro v' w' h1 h2 h3
   rw [u8L_append] at h1
   exact h v' w' h1 h2 h3
theorem Tryz.info_u8c:(Tryz.prog.info? 5).map (fun i=>(i.zero,i.size,i.bytes))=some (some (.int .u8 0),1,1):=by kernel_rfl
theorem CloneU_any(p:Option Addr)(n cap:Nat)(F:Nat->Int)(w:World)(hs:SlU w p n F)(hn:n<=1099511627776):
  Calls Tryz.prog 71 #[.slice p n cap] w fun e w'=>∃q c,e = .returned (.slice q n c)/\n<=c/\c<=maxLen/\SlU w' q n F/\Old w w'/\∀a,0<n->q=some a->w.heap.size<=a.block:=by
 have HC:=zH hs
 clear hs
 obtain⟨i0,hi,hz0,hz1,hz2⟩:=info_parts Tryz.info_u8c
 cases p with
 | none=>
  have h0:n=0:=by
   rcases Nat.eq_zero_or_pos n with h | h
   ·exact h
   ·obtain⟨b,off,hp,_⟩:=HC.out h
    cases hp
  have H0:=zH h0
  clear h0 HC
  have hE:=eql_sl_nil 34 5 none n cap Tryz.underlying34
  go_enter Tryz.func71,Tryz.ntmps71
  go_wp2
  go_ret
  exact⟨none,0,by rw [H0.out];rfl,by rw [H0.out];exact Nat.le_refl _,Nat.zero_le _,fun h=>by have:=H0.out;omega,Old.refl w,fun a hn ha=>by cases ha⟩
 | some a=>
  have HO:Hid (Old w (w.alloc (.cells #[] 5))):=Old.alloc _ _
  have hE:=eql_sl_nil 34 5 (some a) n cap Tryz.underlying34
  have ho:ownX (fun q=>q<w.heap.size) (w.alloc (.cells #[] 5)) 5 (.slice (some ⟨w.heap.size,0,none⟩) 0 0) 0 (u8L (fun _=>0) 0):=own_emptyX w 5
  have HOw:=zH ho
  have HS:=zH (HC.out.old HO.out)
  clear HC ho
  go_enter Tryz.func71,Tryz.ntmps71
  go_wp2_with (at_builtin;refine append_U _ rfl _ _ 34 rfl (fun q=>q<w.heap.size) 5 i0 Tryz.underlying34 hi hz0 hz1 hz2 _ 0 _ rfl HOw.out (some a) n cap F rfl HS.out (by omega) (fun q hq=>Nat.lt_of_lt_of_le hq HO.out.size) ?_;intro v' w2 how hk2 _;have HR2:=zH how;have HO2:=zH (HO.out.after hk2 fun _ h=>h);clear how hk2)
  go_ret
  obtain⟨p',c',e1,e2,e3,e4,e5⟩:=HR2.out.bytes
  rw [Nat.zero_add] at e1 e2 e4 e5
  exact⟨p',c',by rw [e1];rfl,e2,e3,e4.ext fun j _=>by rw [if_neg (by omega),Nat.sub_zero],HO2.out,fun a hn ha=>by
   obtain⟨g,h1,h2,_⟩:=e5 hn
   rw [h1] at ha
   cases ha
   exact Nat.not_lt.1 h2⟩
end Go.Proofs.YtgefdmfcddpaiaaGreatDoor
