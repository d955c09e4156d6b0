/- Texts joined: IntSort, ToneE, ToneF. -/
import Derived.Test.YticpdokbiblpoaaGreatDoorShelf
import Derived.Test.YticpdokbiblpoaaGreatDoorPkAD
import Derived.Test.YticpdokbiblpoaaGreatDoorTk
set_option linter.unusedVariables false
set_option maxHeartbeats 4000000
namespace Go.Proofs.YticpdokbiblpoaaGreatDoor
open Go.Proofs.Tryz
open Go.Proofs.Tryz renaming prog → zP
open Go.Value renaming int → vI
open Go.IntKind renaming i64 → iJ
open Go.Ending renaming returned → rJ
set_option maxRecDepth 100000
open Go.RowKit Go.ChangeShapes Go.WideShapes Go.Sort
def gW(F:nI)(n:Nat):List Int:=(List.range n).map F
theorem qW(F:nI)(n:Nat):(gW F n).length=n:=by simp[gW]
theorem aAA{F:nI}{n:Nat}{x:Int} : x∈gW F n↔∃k,k<n/\F k=x:=by simp[gW]
theorem YC{w:World}{g m:Nat}{d:Array Int}{os:Array Obj} : Kept (bH w g) w (grow (putRow (Value.int .i64) (Sort.ahead w m) g 0 d) os):=by
 refine⟨rfl,rfl,zS,fun k hk=>?_⟩;rw[heap_grow_old _ _ (by rw[size_putRow];exact hk.1)];have hne:k≠g:=hk.2;show ((Sort.ahead w m).heap.modify g _)[k]?=_;rw[Array.getElem?_modify,if_neg (Ne.symm hne)];rfl
theorem RY{w:World}{g n m:Nat}{F:nI}{d:Array Int}{os:Array Obj}(h:CellsAt w g n F)(hd:d.size=n):CellsAt (grow (putRow (Value.int .i64) (Sort.ahead w m) g 0 d) os) g n (fun j=>d.toList.getD j 0):=by
 have hH:Holds (Value.int .i64) (Sort.ahead w m) g 0 (gW F n).toArray:=fun j hj=>by
  have hj':j<n:=by simpa[gW]using hj
  refine⟨?_,by rw[Nat.zero_add];exact h.frz j hj'⟩;rw[Nat.zero_add,cell?_ahead,h.cell j hj',getElem!_pos _ j hj];congr 2;simp[gW]
 have hs:d.size=(gW F n).toArray.size:=by simp[gW,hd]
 refine⟨by have:=h.lt;simp;omega,fun j hj=>?_,fun j hj=>?_⟩
 ·rw[cell?_grow _ _ _ (by simpa using h.lt)];have:=(holds_putRow (Value.int .i64) (Sort.ahead w m) g 0 _ d hH hs j zO).1;rw[Nat.zero_add]at this;rw[this,getElem!_pos d j zO];congr 2;simp[List.getD,show j<d.size by omega]
 ·rw[frozen?_grow _ _ _ (by simpa using h.lt),frozen?_putRow];exact h.frz j hj
theorem JY(g n cap:Nat)(F:nI)(w:World)(h:CellsAt w g n F)(hn:n<4611686018427387904):
  Calls zP 246 #[.slice (some ⟨g,0,none⟩) n cap] w fun e w'=>e=rJ (.tuple #[])/\Kept (bH w g) w w'/\∃zs:List Int,zs.Perm (gW F n)/\zs.Pairwise (·<=·)/\CellsAt w' g n (fun j=>zs.getD j 0):=by
 have hH:Holds (Value.int .i64) w g 0 (gW F n).toArray:=fun j hj=>by
  have hj':j<n:=by simpa[gW]using hj
  refine⟨?_,by rw[Nat.zero_add];exact h.frz j hj'⟩;rw[Nat.zero_add,h.cell j hj',getElem!_pos _ j hj];congr 2;simp[gW]
 have hc:=Tryz.slices_Sort_int g 0 cap (gW F n) w hH h.lt (by rw[qW];exact hn);rw[qW]at hc;refine hc.mono ?_;rintro e w' ⟨rfl,m,os,rfl⟩;have hp:=List.mergeSort_perm (gW F n) (fun x y=>decide (x<=y));have hsz:((gW F n).mergeSort fun x y=>decide (x<=y)).toArray.size=n:=by
  show ((gW F n).mergeSort fun x y=>decide (x<=y)).length=n;rw[hp.length_eq,qW]
 refine⟨rfl,YC,_,hp,?_,RY h hsz⟩;have:=List.pairwise_mergeSort (le:=fun x y=>decide (x<=y)) (fun a b c h1 h2=>by simp at *;omega) (fun a b=>by simp;omega) (gW F n);exact this.imp (by intro a b h;simpa using h)
instance (f:nI) (x y:Int):Decidable (dA f x y):=by unfold dA;infer_instance
def VR(f:nI)(i n:Nat):Nat:=((List.range n).filter fun k=>decide (yY f k/\dA f (k:Int) (i:Int))).length
def uK(f:nI)(i:Nat):Prop:=yY f i/\VR f i 16<=1
instance (f:nI) (i:Nat):Decidable (uK f i):=by unfold uK;infer_instance
def bL(f:nI):List Nat:=(List.range 16).filter fun i=>decide (uK f i)
def dY(f:nI):nI:=fun j=>if j%2=0 then(((bL f).getD (j/2) 0:Nat):Int) else f ((bL f).getD (j/2) 0)
theorem qL{f:nI}{i:Nat} : i∈bL f↔uK f i:=by
 simp only[bL,List.mem_filter,List.mem_range,decide_eq_true_eq];exact⟨fun h=>h.2,fun h=>⟨h.1.1,h⟩⟩
theorem nT(f:nI):(bL f).Pairwise (· < ·):=List.Pairwise.filter _ List.pairwise_lt_range
theorem gR(f:nI)(x:Int):¬dA f x x:=by unfold dA;omega
theorem ED{l:List Nat}{a:Nat}(hn:l.Nodup)(h:∀x∈l,x=a):l.length<=1:=by
 match l,hn,h with
 | [],_,_=>simp
 | [_],_,_=>simp
 | x :: y :: r,hn,h=>
  have h1:=h x zS;have h2:=h y zS;rw[List.nodup_cons]at hn;exact absurd (by simp[h1,h2]:x∈y :: r) hn.1
theorem EI{l:List Nat}{a b:Nat}(ha:a∈l)(hb:b∈l)(hne:a≠b):2<=l.length:=by
 match l,ha,hb with
 | [x],ha,hb=>simp at ha hb;omega
 | x :: y :: r,_,_=>simp
theorem pN{f:nI}{i n k:Nat} : k∈(List.range n).filter (fun k=>decide (yY f k/\dA f (k:Int) (i:Int)))↔k<n/\yY f k/\dA f (k:Int) (i:Int):=zS
theorem tZ{f:nI}{G:nI}{n:Nat}(hn:n=(aY f 16).length)(hS:qC (dA f) (fun j=>(eO (aY f 16)).getD j 0) n G)(i:Nat):uK f i↔∃k,k<min n 2/\G k=(i:Int):=by
 have hto:∀k,k<n->∃j:Nat,G k=(j:Int)/\yY f j:=by
  intro k hk;obtain⟨m,hm,e⟩:=hS.frm k hk
  try dsimp only at e
  rw[gF _ _ zO]at e;refine⟨_,e,?_⟩;have:(aY f 16).getD m 0∈aY f 16:=by
   rw[List.getD_eq_getElem?_getD,List.getElem?_eq_getElem zO];exact List.getElem_mem _
  exact(lV.1 this).2
 have hfrom:∀j:Nat,yY f j->∃k,k<n/\G k=(j:Int):=by
  intro j hj;have hm:j∈aY f 16:=lV.2 ⟨hj.1,hj⟩;obtain⟨m,hm,e⟩:=List.getElem_of_mem hm;obtain⟨k,hk,e'⟩:=hS.all m zO;refine⟨k,hk,?_⟩;rw[e']
  try dsimp only
  rw[gF _ _ hm];congr 1;rw[List.getD_eq_getElem?_getD,List.getElem?_eq_getElem hm,<-e];rfl
 have hlt:∀a b,a<n->b<n->dA f (G a) (G b)->a<b:=by
  intro a b ha hb h;rcases Nat.lt_trichotomy a b with c | c | c
  ·exact c
  ·subst c;exact absurd h (gR _ _)
  ·exact absurd (nK f _ _ _ h (hS.ord b a c ha)) (gR _ _)
 have hinj:∀a b,a<n->b<n->G a=G b->a=b:=by
  intro a b ha hb h;rcases Nat.lt_trichotomy a b with c | c | c
  ·have:=hS.ord a b c hb;rw[h]at this;exact absurd this (gR _ _)
  ·exact c
  ·have:=hS.ord b a c ha;rw[h]at this;exact absurd this (gR _ _)
 constructor
 ·rintro ⟨ht,ha⟩;obtain⟨k,hk,e⟩:=hfrom i ht;refine⟨k,?_,e⟩;by_cases h2:k<2
  ·omega
  ·obtain⟨j0,e0,t0⟩:=hto 0 zO;obtain⟨j1,e1,t1⟩:=hto 1 zO;have hne:j0≠j1:=by
    intro h;have:=hinj 0 1 zO zO (by rw[e0,e1,h]);omega
   have a0:dA f (j0:Int) (i:Int):=by rw[<-e0,<-e];exact hS.ord 0 k zO hk
   have a1:dA f (j1:Int) (i:Int):=by rw[<-e1,<-e];exact hS.ord 1 k zO hk
   have:=EI (pN.2 ⟨t0.1,t0,a0⟩) (pN.2 ⟨t1.1,t1,a1⟩) hne;unfold VR at ha;omega
 ·rintro ⟨k,hk,e⟩;obtain⟨j,e',t⟩:=hto k zO;have hij:i=j:=by rw[e]at e';omega
  subst hij;refine⟨t,?_⟩;obtain⟨j0,e0,t0⟩:=hto 0 zO;refine ED (a:=j0) (List.nodup_iff_pairwise_ne.2 ((List.Pairwise.filter _ List.pairwise_lt_range).imp fun h=>zO)) fun x hx=>?_;obtain⟨hx1,hx2,hx3⟩:=pN.1 hx;obtain⟨m,hm,em⟩:=hfrom x hx2;rw[<-em,<-e]at hx3;have:=hlt m k hm zO hx3;have:m=0:=zO;subst this;rw[em]at e0;omega
theorem wO{f:nI}{G:nI}{n:Nat}(hn:n=(aY f 16).length)(hS:qC (dA f) (fun j=>(eO (aY f 16)).getD j 0) n G){zs:List Int}(hp:zs.Perm (gW G (min n 2)))(ho:zs.Pairwise (·<=·)):zs=eO (bL f):=by
 have hmem:∀x,x∈zs↔∃i:Nat,x=(i:Int)/\uK f i:=by
  intro x;rw[hp.mem_iff,aAA];constructor
  ·rintro ⟨k,hk,rfl⟩;obtain⟨m,hm,e⟩:=hS.frm k zO
   try dsimp only at e
   rw[gF _ _ zO]at e;exact⟨_,e,(tZ hn hS _).2 ⟨k,hk,e⟩⟩
  ·rintro ⟨i,rfl,hi⟩;obtain⟨k,hk,e⟩:=(tZ hn hS i).1 hi;exact⟨k,hk,e⟩
 have hnd:zs.Nodup:=by
  rw[hp.nodup_iff];unfold gW;rw[List.nodup_iff_pairwise_ne,List.pairwise_map];refine List.Pairwise.imp_of_mem ?_ (List.pairwise_lt_range (n:=min n 2));intro a b ha hb hab h;have:=hS.ord a b hab (by have:=List.mem_range.1 hb;omega);rw[h]at this;exact gR _ _ this
 have hlt:zs.Pairwise (· < ·):=by
  rw[List.nodup_iff_pairwise_ne]at hnd;exact(ho.and hnd).imp fun h=>zO
 have h0:∀x∈zs,0<=x:=fun x hx=>by
  obtain⟨i,rfl,_⟩:=(hmem x).1 hx;omega
 have hN:zs.map Int.toNat=bL f:=by
  refine FS _ _ ?_ (nT f) fun i=>?_
  ·rw[List.pairwise_map];refine hlt.imp_of_mem ?_;intro a b ha hb hab;have:=h0 a ha;have:=h0 b hb;omega
  ·rw[qL,List.mem_map];constructor
   ·rintro ⟨x,hx,rfl⟩;obtain⟨j,rfl,hj⟩:=(hmem x).1 hx;simpa using hj
   ·intro hi;exact⟨i,(hmem _).2 ⟨i,rfl,hi⟩,zS⟩
 rw[<-hN];unfold eO;rw[List.map_map];have:∀x∈zs,((fun i:Nat=>(i:Int)) ∘ Int.toNat) x=x:=fun x hx=>by
  have:=h0 x hx;simp only[Function.comp];omega
 exact(List.map_congr_left this).trans (List.map_id _) |>.symm
theorem aBu{f:nI}{G:nI}{n:Nat}(hn:n=(aY f 16).length)(hS:qC (dA f) (fun j=>(eO (aY f 16)).getD j 0) n G){zs:List Int}(hp:zs.Perm (gW G (min n 2)))(ho:zs.Pairwise (·<=·)):(bL f).length=min n 2:=by
 rw[<-sK,<-wO hn hS hp ho,hp.length_eq,qW]
theorem ZJ{f:nI}(h:aY f 16 = []):bL f = []:=by
 apply List.eq_nil_iff_forall_not_mem.2;intro i hi;have h1:=(qL.1 hi).1;have:i∈aY f 16:=lV.2 ⟨h1.1,h1⟩;rw[h]at this;cases this
theorem aDz(f:nI):xZ (fun j=>(eO (aY f 16)).getD j 0) (aY f 16).length:=by
 constructor
 ·intro k hk
  try dsimp only
  rw[gF _ _ hk,List.getD_eq_getElem?_getD,List.getElem?_eq_getElem hk];have:=(lV.1 (List.getElem_mem hk)).1;simp only[Option.getD_some];omega
 ·intro a b hab hb
  try dsimp only
  rw[gF _ _ hb,gF _ _ zO,List.getD_eq_getElem?_getD,List.getElem?_eq_getElem zO,List.getD_eq_getElem?_getD,List.getElem?_eq_getElem hb];have:=List.pairwise_iff_getElem.1 (CA f 16) a b zO hb hab;simp only[Option.getD_some];omega
theorem nD(f:nI)(k:Nat):dY f (2*k)=(((bL f).getD k 0:Nat):Int):=by
 unfold dY;rw[if_pos zO,show 2*k/2=k by omega]
theorem vC(f:nI)(k:Nat):dY f (2*k+1)=f ((bL f).getD k 0):=by
 unfold dY;rw[if_neg zO,show (2*k+1)/2=k by omega]
theorem PM(b:Nat)(w:World):
  Calls zP 168 #[.slice none 0 0,vI iJ 0,.func (.func 244) #[] #[.pointer (some ⟨b,0,none⟩)]] w fun e w'=>e=rJ (.tuple #[])/\w=w':=by
 have HI:Hid (∀w,Calls zP 210 #[.slice none 0 0,vI iJ 0,vI iJ 0,.func (.func 244) #[] #[.pointer (some ⟨b,0,none⟩)]] w fun e w'=>e=rJ (.tuple #[])/\w=w'):=fun w=>by
  go_enter func210,ntmps210
  go_wp2_with fail
  go_loop [8] (fun i=>i=vI iJ 1) (fun _=>0)
  case atStart=>rfl
  case round=>
   subst hrel
   go_wp2_with fail
   go_end0
   exact⟨rfl,rfl⟩
 go_enter func168,ntmps168
 go_wp2_with fail
 go_loop [7,8] (fun a c=>a=vI iJ 0/\c=vI iJ 20) (fun _ _=>0)
 case atStart=>exact⟨rfl,rfl⟩
 case round=>
  obtain⟨rfl,rfl⟩:=hrel
  go_wp2_with fail
  refine(HI.o _).mono ?_;rintro e w1 ⟨rfl,rfl⟩
  go_wp2_with fail
  go_loop [6] (fun c=>c=vI iJ 20) (fun _=>0)
  case atStart=>rfl
  case round=>
   subst hrel
   go_wp2_with fail
   go_end0
   exact⟨rfl,rfl⟩
theorem xK(b:Nat)(w:World):
  Calls zP 130 #[.slice none 0 0,.func (.func 244) #[] #[.pointer (some ⟨b,0,none⟩)]] w fun e w'=>e=rJ (.tuple #[])/\w=w':=by
 have HI:=zH (fun w=>PM b w);go_enter func130,ntmps130
 go_wp2_with fail
 refine(HI.o _).mono ?_;rintro e w1 ⟨rfl,rfl⟩
 go_wp2_with fail
 go_end0
 exact⟨rfl,rfl⟩
structure aBC(tb tt:TypeId)(w:World)(f:nI)(g k:Nat)(v:Value)(W:World):Prop where
 own:ownS (fun q=>q<w.heap.size+1\/q=g) W tt 2 v k (eH (2*k) (dY f))
 box:W.heap[w.heap.size]?=some (.cells (aA 16 (blk f)) tb (0,0))
 row:CellsAt W g (bL f).length (fun j=>(eO (bL f)).getD j 0)
 old:Old w W
 far:w.heap.size<g
theorem aBC.next{tb tt:TypeId}{w W W':World}{f:nI}{g k:Nat}{v v':Value}{o:Obj}(h:aBC tb tt w f g k v W)
  (ho:ownS (fun q=>q<w.heap.size+1\/q=g) W' tt 2 v' (k+1) (eH (2*k) (dY f) ++ [vI iJ (((bL f).getD k 0:Nat):Int),vI iJ (f ((bL f).getD k 0))])) (ka:Kept (fun q=>q<w.heap.size+1\/q=g) (W.alloc o) W'):aBC tb tt w f g (k+1) v' W':=by
 have hb:=lt_of_block h.box;have hg:=h.row.lt;have ka':Kept (fun q=>q<w.heap.size+1\/q=g) W W':=(Kept.alloc W o fun q hq=>by rcases hq with hq | hq <;> omega).trans ka;refine⟨by rw[DB,nD,vC];exact ho,(ka'.block _ (.inl zO)).trans h.box,h.row.kept ka' (.inr rfl),h.old.after ka' fun q hq=>.inl zO,h.far⟩
theorem aCe(f:nI)(hf:aD f)(w:World):
  Calls zP 223 #[.agg (aA 16 (blk f))] w fun e w'=>∃v,e=rJ v/\(bL f).length<=2/\ownS (fun q=>q<w.heap.size) w' 209 2 v (bL f).length (eH (2*(bL f).length) (dY f))/\Old w w':=by
 obtain⟨i0,hi,hz0,hz1,hz2⟩:=info_parts Tryz.info_tone;have Hb16:Hid ((zP.info? 43).map (·.size)=some 16):=zH zK;have Hbox:Hid ((w.alloc (.cells (aA 16 (blk f)) 43)).heap[w.heap.size]?=some (.cells (aA 16 (blk f)) 43 (0,0))):=zH (heap_alloc_new _ _);have HP:=zH (fun w=>SE f hf w);have HF:=zH hf;clear hf;go_enter func223,ntmps223
 go_wp2_with (with_reducible refine wpList_load_row rfl 43 _ rfl w.heap.size rfl 43 (aA 16 (blk f)) (0,0) _ Hbox.o underlying43 rfl (by rw[aB];exact Hb16.o) ?_)
 refine(HP.o _).mono ?_;rintro e w1 ⟨v,rfl,hown,ho⟩;rcases XZ hown with ⟨rfl,hx⟩ | ⟨g,cap,rfl,hg,hnc,hcm,hcells⟩
 ·have hno:bL f = []:=ZJ (by simpa[eO]using hx);have HNO:=zH hno;have HO:=zH ((Old.alloc w _).trans ho);have HS:=zH (fun w'=>xK w.heap.size w');have HI:=zH (fun w'=>Tryz.slices_Sort_int_none none 0 w');clear hx hown ho hno HP
  go_wp2_with fail
  refine(HS.o _).mono ?_;rintro e w2 ⟨rfl,rfl⟩
  go_wp2_with fail
  rw[show (min (0:Int) 2).toNat=0 from rfl];refine(HI.o _).mono ?_;rintro e w3 ⟨rfl,rfl⟩
  go_wp2_with fail
  go_loop [4,21] (fun v i=>v=.slice none 0 0/\i=vI iJ 0) (fun _ _=>0)
  case atStart=>exact⟨rfl,rfl⟩
  case round=>
   obtain⟨rfl,rfl⟩:=hrel
   go_wp2_with fail
   go_ret;rw[HNO.o];exact⟨_,rfl,zS,ownS.nil _ _ _ _,HO.o⟩
 ·obtain⟨n,hn⟩:=zG ((aY f 16).length);have hlen:=wI f 16;rw[sK,<-hn]at hnc hcells |-;have hgw:w.heap.size<g:=by
   have:(w.alloc (.cells (aA 16 (blk f)) 43)).heap.size=w.heap.size+1:=zS;omega
  have hb1:w1.heap[w.heap.size]?=some (.cells (aA 16 (blk f)) 43 (0,0)):=(ho.block _ zS).trans Hbox.o;have hP:=aDz f;rw[<-hn]at hP;have HS:=zH (yS f HF.o w.heap.size g n cap _ w1 hP hb1 hcells zO zO);have HN:=zH hn;have HO:=zH ((Old.alloc w (.cells (aA 16 (blk f)) 43)).trans ho);have HG:=zH hgw;have hn16:n<=16:=zO;have HB1:=zH hb1;have HLT:=zH (lt_of_block hb1);clear hn hlen hown ho hg hgw hcells hb1 hP HP Hbox Hb16;unfold maxLen at hcm
  go_wp2_with fail
  refine HS.o.mono ?_;rintro e w2 ⟨rfl,G,hS,hc2,k2⟩;obtain⟨m,hm⟩:=zG (min n 2);have hmI:(min (n:Int) 2).toNat=m:=zO;have hI:=JY g m cap G w2 (hc2.less zO) zO;have HI:=zH hI;have HM:=zH hm;have HSS:=zH hS;have hb2:w2.heap[w.heap.size]?=some (.cells (aA 16 (blk f)) 43 (0,0)):=(k2.block _ ⟨HLT.o,Nat.ne_of_lt HG.o⟩).trans HB1.o;have HB2:=zH hb2;have HO2:=zH (HO.o.after k2 (fun q hq=>⟨Nat.lt_of_lt_of_le hq HO.o.size,by have:=HG.o;omega⟩));have hm2:m<=n:=zO;have HMI:=zH hmI;clear hI hm hS hc2 k2 hb2 HS HO HB1 hmI
  go_wp2_with fail
  rw[HMI.o];refine HI.o.mono ?_;rintro e w3 ⟨rfl,k3,zs,hp,hz,hc3⟩;have e1:=wO HN.o HSS.o (by rw[<-HM.o];exact hp) hz;have e2:=aBu HN.o HSS.o (by rw[<-HM.o];exact hp) hz;rw[<-HM.o]at e2;rw[e1]at hc3;have hlt2:w.heap.size<w2.heap.size:=lt_of_block HB2.o;have H0:Hid (aBC 43 209 w f g 0 (.slice none 0 0) w3):=by
   refine⟨ownS.nil _ _ _ _,(k3.block _ ⟨hlt2,Nat.ne_of_lt HG.o⟩).trans HB2.o,by rw[e2];exact hc3,HO2.o.after k3 (fun q hq=>⟨Nat.lt_of_lt_of_le hq HO2.o.size,by have:=HG.o;omega⟩),HG.o⟩
  have HE:=zH e2;have hmm:m<=2:=by have:=HM.o;omega
  clear k3 hp hz hc3 e1 e2 hlt2 HI HMI HSS HN HM HB2 HO2 HG HF HLT
  go_wp2_with fail
  go_loopw [4,21] (fun v i wr=>∃k:Nat,k<=m/\i=vI iJ k/\Hid (aBC 43 209 w f g k v wr)) (fun _ i _=>m-(intOf i).toNat)
  case atStart=>exact⟨0,zO,rfl,H0⟩
  case round=>
   obtain⟨k,hk,rfl,hs⟩:=hrel;clear H0;by_cases hlt:k<m
   ·have hkl:k<(bL f).length:=by rw[HE.o];exact hlt
    have c1:=hs.o.row.cell k hkl;rw[gF _ _ hkl]at c1;have hp16:(bL f).getD k 0<16:=by
     rw[List.getD_eq_getElem?_getD,List.getElem?_eq_getElem hkl];exact(qL.1 (List.getElem_mem hkl)).1.1
    have c2:wr.cell? ⟨w.heap.size,(bL f).getD k 0,none⟩=some (vI iJ (f ((bL f).getD k 0))):=(cell_of_row _ _ _ _ _ _ hs.o.box).trans (dR 16 f _ hp16);have HN:=zH (fun v' w2 o ho ka=>hs.o.next (v':=v') (W':=w2) (o:=o) ho ka);have hown:=hs.o.own;have hsz:∀(o:Obj) (q:Nat),(q<w.heap.size+1\/q=g)->q<(wr.alloc o).heap.size:=fun o q hq=>by
     have h1:=lt_of_block hs.o.box;have h2:=hs.o.row.lt;simp;rcases hq with hq | hq <;> omega
    have HSZ:=zH hsz;clear hs hkl HE hsz;generalize (bL f).getD k 0=p at *;generalize f p=x at *;have p0:(0:Int)<=p:=zO;have p1:(p:Int)<16:=zO
    go_wp2_with ((at_builtin;refine pA _ rfl _ _ 96 rfl (fun q=>q<w.heap.size+1\/q=g) 209 i0 (.agg #[vI iJ 0,vI iJ 0]) 2 16 underlying96 hi hz0 hz1 hz2 rfl zD _ _ _ rfl (hown.old (Old.alloc _ _)) ⟨_,0,none⟩ 1 1 [vI iJ p,vI iJ x] rfl rfl (PG _ _ _ _) (wP _ _) (by unfold maxLen;omega) zO (HSZ.o _) ?_;intro v' w5 hown5 hk5 hv5;have hn5:=zH (HN.o v' w5 _ hown5 hk5);clear hown hown5 hk5 hv5 HN))
    go_roundw
    case rel=>exact⟨k+1,zO,by go_num,hn5⟩
    case measure=>exact zM
   ·obtain rfl:k=m:=zO;have hr:(bL f).length<=2/\ownS (fun q=>q<w.heap.size) wr 209 2 u4 (bL f).length (eH (2*(bL f).length) (dY f))/\Old w wr:=by
     rw[HE.o];exact⟨hmm,hs.o.own.mono fun q hq h=>hs.o.own.2 q hq (.inl zO),hs.o.old⟩
    have HR:=zH hr;clear hs hr HE
    go_wp2_with fail
    go_ret;exact⟨_,rfl,HR.o⟩
end Go.Proofs.YticpdokbiblpoaaGreatDoor
