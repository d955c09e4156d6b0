/- Texts joined: IntSort, ToneE, ToneF. -/
import Derived.Test.YtgefdmfcddpaiaaGreatDoorShelf
import Derived.Test.YtgefdmfcddpaiaaGreatDoorPkAD
import Derived.Test.YtgefdmfcddpaiaaGreatDoorTk
namespace Go.Proofs.YtgefdmfcddpaiaaGreatDoor
set_option linter.unusedVariables false
set_option maxRecDepth 100000
open Go.RowKit Go.ChangeShapes Go.WideShapes Go.Sort
def listF(F:Nat->Int)(n:Nat):List Int:=(List.range n).map F
theorem listF_len(F:Nat->Int)(n:Nat):(listF F n).length=n:=by simp [listF]
theorem mem_listF{F:Nat->Int}{n:Nat}{x:Int} : x∈listF F n↔∃k,k<n/\F k=x:=by simp [listF]
theorem kept_grow{w:World}{g m:Nat}{d:Array Int}{os:Array Obj} : Kept (butOf w g) w (grow (putRow (Value.int .i64) (Sort.ahead w m) g 0 d) os):=by
 refine⟨rfl,rfl,by simp,fun k hk=>?_⟩
 rw [heap_grow_old _ _ (by rw [size_putRow];exact hk.1)]
 have hne:k≠g:=hk.2
 show ((Sort.ahead w m).heap.modify g _)[k]?=_
 rw [Array.getElem?_modify,if_neg (Ne.symm hne)]
 rfl
theorem cells_grow{w:World}{g n m:Nat}{F:Nat->Int}{d:Array Int}{os:Array Obj}(h:CellsAt w g n F)(hd:d.size=n):CellsAt (grow (putRow (Value.int .i64) (Sort.ahead w m) g 0 d) os) g n (fun j=>d.toList.getD j 0):=by
 have hH:Holds (Value.int .i64) (Sort.ahead w m) g 0 (listF F n).toArray:=fun j hj=>by
  have hj':j<n:=by simpa [listF] using hj
  refine⟨?_,by rw [Nat.zero_add];exact h.frz j hj'⟩
  rw [Nat.zero_add,cell?_ahead,h.cell j hj',getElem!_pos _ j hj]
  congr 2
  simp [listF]
 have hs:d.size=(listF F n).toArray.size:=by simp [listF,hd]
 refine⟨by have:=h.lt;simp;omega,fun j hj=>?_,fun j hj=>?_⟩
 ·rw [cell?_grow _ _ _ (by simpa using h.lt)]
  have:=(holds_putRow (Value.int .i64) (Sort.ahead w m) g 0 _ d hH hs j (by omega)).1
  rw [Nat.zero_add] at this
  rw [this,getElem!_pos d j (by omega)]
  congr 2
  simp [List.getD,show j<d.size by omega]
 ·rw [frozen?_grow _ _ _ (by simpa using h.lt),frozen?_putRow]
  exact h.frz j hj
theorem SortInts_any(g n cap:Nat)(F:Nat->Int)(w:World)(h:CellsAt w g n F)(hn:n<4611686018427387904):
  Calls Tryz.prog 259 #[.slice (some ⟨g,0,none⟩) n cap] w fun e w'=>e = .returned (.tuple #[])/\Kept (butOf w g) w w'/\∃zs:List Int,zs.Perm (listF F n)/\zs.Pairwise (·<=·)/\CellsAt w' g n (fun j=>zs.getD j 0):=by
 have hH:Holds (Value.int .i64) w g 0 (listF F n).toArray:=fun j hj=>by
  have hj':j<n:=by simpa [listF] using hj
  refine⟨?_,by rw [Nat.zero_add];exact h.frz j hj'⟩
  rw [Nat.zero_add,h.cell j hj',getElem!_pos _ j hj]
  congr 2
  simp [listF]
 have hc:=Tryz.slices_Sort_int g 0 cap (listF F n) w hH h.lt (by rw [listF_len];exact hn)
 rw [listF_len] at hc
 refine hc.mono ?_
 rintro e w' ⟨rfl,m,os,rfl⟩
 have hp:=List.mergeSort_perm (listF F n) (fun x y=>decide (x<=y))
 have hsz:((listF F n).mergeSort fun x y=>decide (x<=y)).toArray.size=n:=by
  show ((listF F n).mergeSort fun x y=>decide (x<=y)).length=n
  rw [hp.length_eq,listF_len]
 refine⟨rfl,kept_grow,_,hp,?_,cells_grow h hsz⟩
 have:=List.pairwise_mergeSort (le:=fun x y=>decide (x<=y)) (fun a b c h1 h2=>by simp at *;omega) (fun a b=>by simp;omega) (listF F n)
 exact this.imp (by intro a b h;simpa using h)
instance (f:Nat->Int) (x y:Int):Decidable (aheadP f x y):=by unfold aheadP;infer_instance
def aheadTo(f:Nat->Int)(i n:Nat):Nat:=((List.range n).filter fun k=>decide (isT f k/\aheadP f (k:Int) (i:Int))).length
def foundP(f:Nat->Int)(i:Nat):Prop:=isT f i/\aheadTo f i 16<=1
instance (f:Nat->Int) (i:Nat):Decidable (foundP f i):=by unfold foundP;infer_instance
def findL(f:Nat->Int):List Nat:=(List.range 16).filter fun i=>decide (foundP f i)
def toneF(f:Nat->Int):Nat->Int:=fun j=>if j%2=0 then(((findL f).getD (j/2) 0:Nat):Int) else f ((findL f).getD (j/2) 0)
theorem mem_findL{f:Nat->Int}{i:Nat} : i∈findL f↔foundP f i:=by
 simp only [findL,List.mem_filter,List.mem_range,decide_eq_true_eq]
 exact⟨fun h=>h.2,fun h=>⟨h.1.1,h⟩⟩
theorem findL_rising(f:Nat->Int):(findL f).Pairwise (· < ·):=List.Pairwise.filter _ List.pairwise_lt_range
theorem aheadP_irrefl(f:Nat->Int)(x:Int):¬aheadP f x x:=by unfold aheadP;omega
theorem length_le_one{l:List Nat}{a:Nat}(hn:l.Nodup)(h:∀x∈l,x=a):l.length<=1:=by
 match l,hn,h with
 | [],_,_=>simp
 | [_],_,_=>simp
 | x :: y :: r,hn,h=>
  have h1:=h x (by simp)
  have h2:=h y (by simp)
  rw [List.nodup_cons] at hn
  exact absurd (by simp [h1,h2]:x∈y :: r) hn.1
theorem two_le_length{l:List Nat}{a b:Nat}(ha:a∈l)(hb:b∈l)(hne:a≠b):2<=l.length:=by
 match l,ha,hb with
 | [x],ha,hb=>simp at ha hb;omega
 | x :: y :: r,_,_=>simp
theorem aheadTo_mem{f:Nat->Int}{i n k:Nat} : k∈(List.range n).filter (fun k=>decide (isT f k/\aheadP f (k:Int) (i:Int)))↔k<n/\isT f k/\aheadP f (k:Int) (i:Int):=by simp
theorem sorted_found{f:Nat->Int}{G:Nat->Int}{n:Nat}(hn:n=(placesL f 16).length)(hS:SrtO (aheadP f) (fun j=>(intsOf (placesL f 16)).getD j 0) n G)(i:Nat):foundP f i↔∃k,k<min n 2/\G k=(i:Int):=by
 have hto:∀k,k<n->∃j:Nat,G k=(j:Int)/\isT f j:=by
  intro k hk
  obtain⟨m,hm,e⟩:=hS.frm k hk
  try dsimp only at e
  rw [intsOf_getD _ _ (by omega)] at e
  refine⟨_,e,?_⟩
  have:(placesL f 16).getD m 0∈placesL f 16:=by
   rw [List.getD_eq_getElem?_getD,List.getElem?_eq_getElem (by omega)]
   exact List.getElem_mem _
  exact(mem_placesL.1 this).2
 have hfrom:∀j:Nat,isT f j->∃k,k<n/\G k=(j:Int):=by
  intro j hj
  have hm:j∈placesL f 16:=mem_placesL.2 ⟨hj.1,hj⟩
  obtain⟨m,hm,e⟩:=List.getElem_of_mem hm
  obtain⟨k,hk,e'⟩:=hS.all m (by omega)
  refine⟨k,hk,?_⟩
  rw [e']
  try dsimp only
  rw [intsOf_getD _ _ hm]
  congr 1
  rw [List.getD_eq_getElem?_getD,List.getElem?_eq_getElem hm,←e]
  rfl
 have hlt:∀a b,a<n->b<n->aheadP f (G a) (G b)->a<b:=by
  intro a b ha hb h
  rcases Nat.lt_trichotomy a b with c | c | c
  ·exact c
  ·subst c;exact absurd h (aheadP_irrefl _ _)
  ·exact absurd (aheadP_trans f _ _ _ h (hS.ord b a c ha)) (aheadP_irrefl _ _)
 have hinj:∀a b,a<n->b<n->G a=G b->a=b:=by
  intro a b ha hb h
  rcases Nat.lt_trichotomy a b with c | c | c
  ·have:=hS.ord a b c hb;rw [h] at this;exact absurd this (aheadP_irrefl _ _)
  ·exact c
  ·have:=hS.ord b a c ha;rw [h] at this;exact absurd this (aheadP_irrefl _ _)
 constructor
 ·rintro ⟨ht,ha⟩
  obtain⟨k,hk,e⟩:=hfrom i ht
  refine⟨k,?_,e⟩
  by_cases h2:k<2
  ·omega
  ·obtain⟨j0,e0,t0⟩:=hto 0 (by omega)
   obtain⟨j1,e1,t1⟩:=hto 1 (by omega)
   have hne:j0≠j1:=by
    intro h
    have:=hinj 0 1 (by omega) (by omega) (by rw [e0,e1,h])
    omega
   have a0:aheadP f (j0:Int) (i:Int):=by rw [←e0,←e];exact hS.ord 0 k (by omega) hk
   have a1:aheadP f (j1:Int) (i:Int):=by rw [←e1,←e];exact hS.ord 1 k (by omega) hk
   have:=two_le_length (aheadTo_mem.2 ⟨t0.1,t0,a0⟩) (aheadTo_mem.2 ⟨t1.1,t1,a1⟩) hne
   unfold aheadTo at ha
   omega
 ·rintro ⟨k,hk,e⟩
  obtain⟨j,e',t⟩:=hto k (by omega)
  have hij:i=j:=by rw [e] at e';omega
  subst hij
  refine⟨t,?_⟩
  obtain⟨j0,e0,t0⟩:=hto 0 (by omega)
  refine length_le_one (a:=j0) (List.nodup_iff_pairwise_ne.2 ((List.Pairwise.filter _ List.pairwise_lt_range).imp fun h=>by omega)) fun x hx=>?_
  obtain⟨hx1,hx2,hx3⟩:=aheadTo_mem.1 hx
  obtain⟨m,hm,em⟩:=hfrom x hx2
  rw [←em,←e] at hx3
  have:=hlt m k hm (by omega) hx3
  have:m=0:=by omega
  subst this
  rw [em] at e0
  omega
theorem sorted_find{f:Nat->Int}{G:Nat->Int}{n:Nat}(hn:n=(placesL f 16).length)(hS:SrtO (aheadP f) (fun j=>(intsOf (placesL f 16)).getD j 0) n G){zs:List Int}(hp:zs.Perm (listF G (min n 2)))(ho:zs.Pairwise (·<=·)):zs=intsOf (findL f):=by
 have hmem:∀x,x∈zs↔∃i:Nat,x=(i:Int)/\foundP f i:=by
  intro x
  rw [hp.mem_iff,mem_listF]
  constructor
  ·rintro ⟨k,hk,rfl⟩
   obtain⟨m,hm,e⟩:=hS.frm k (by omega)
   try dsimp only at e
   rw [intsOf_getD _ _ (by omega)] at e
   exact⟨_,e,(sorted_found hn hS _).2 ⟨k,hk,e⟩⟩
  ·rintro ⟨i,rfl,hi⟩
   obtain⟨k,hk,e⟩:=(sorted_found hn hS i).1 hi
   exact⟨k,hk,e⟩
 have hnd:zs.Nodup:=by
  rw [hp.nodup_iff]
  unfold listF
  rw [List.nodup_iff_pairwise_ne,List.pairwise_map]
  refine List.Pairwise.imp_of_mem ?_ (List.pairwise_lt_range (n:=min n 2))
  intro a b ha hb hab h
  have:=hS.ord a b hab (by have:=List.mem_range.1 hb;omega)
  rw [h] at this
  exact aheadP_irrefl _ _ this
 have hlt:zs.Pairwise (· < ·):=by
  rw [List.nodup_iff_pairwise_ne] at hnd
  exact(ho.and hnd).imp fun h=>by omega
 have h0:∀x∈zs,0<=x:=fun x hx=>by
  obtain⟨i,rfl,_⟩:=(hmem x).1 hx
  omega
 have hN:zs.map Int.toNat=findL f:=by
  refine rising_eq _ _ ?_ (findL_rising f) fun i=>?_
  ·rw [List.pairwise_map]
   refine hlt.imp_of_mem ?_
   intro a b ha hb hab
   have:=h0 a ha
   have:=h0 b hb
   omega
  ·rw [mem_findL,List.mem_map]
   constructor
   ·rintro ⟨x,hx,rfl⟩
    obtain⟨j,rfl,hj⟩:=(hmem x).1 hx
    simpa using hj
   ·intro hi
    exact⟨i,(hmem _).2 ⟨i,rfl,hi⟩,by simp⟩
 rw [←hN]
 unfold intsOf
 rw [List.map_map]
 have:∀x∈zs,((fun i:Nat=>(i:Int)) ∘ Int.toNat) x=x:=fun x hx=>by
  have:=h0 x hx
  simp only [Function.comp]
  omega
 exact(List.map_congr_left this).trans (List.map_id _) |>.symm
theorem find_len{f:Nat->Int}{G:Nat->Int}{n:Nat}(hn:n=(placesL f 16).length)(hS:SrtO (aheadP f) (fun j=>(intsOf (placesL f 16)).getD j 0) n G){zs:List Int}(hp:zs.Perm (listF G (min n 2)))(ho:zs.Pairwise (·<=·)):(findL f).length=min n 2:=by
 rw [←intsOf_len,←sorted_find hn hS hp ho,hp.length_eq,listF_len]
theorem find_none{f:Nat->Int}(h:placesL f 16 = []):findL f = []:=by
 apply List.eq_nil_iff_forall_not_mem.2
 intro i hi
 have h1:=(mem_findL.1 hi).1
 have:i∈placesL f 16:=mem_placesL.2 ⟨h1.1,h1⟩
 rw [h] at this
 cases this
theorem places_P(f:Nat->Int):placesP (fun j=>(intsOf (placesL f 16)).getD j 0) (placesL f 16).length:=by
 constructor
 ·intro k hk
  try dsimp only
  rw [intsOf_getD _ _ hk,List.getD_eq_getElem?_getD,List.getElem?_eq_getElem hk]
  have:=(mem_placesL.1 (List.getElem_mem hk)).1
  simp only [Option.getD_some]
  omega
 ·intro a b hab hb
  try dsimp only
  rw [intsOf_getD _ _ hb,intsOf_getD _ _ (by omega),List.getD_eq_getElem?_getD,List.getElem?_eq_getElem (by omega),List.getD_eq_getElem?_getD,List.getElem?_eq_getElem hb]
  have:=List.pairwise_iff_getElem.1 (placesL_rising f 16) a b (by omega) hb hab
  simp only [Option.getD_some]
  omega
theorem toneF_even(f:Nat->Int)(k:Nat):toneF f (2*k)=(((findL f).getD k 0:Nat):Int):=by
 unfold toneF
 rw [if_pos (by omega),show 2*k/2=k by omega]
theorem toneF_odd(f:Nat->Int)(k:Nat):toneF f (2*k+1)=f ((findL f).getD k 0):=by
 unfold toneF
 rw [if_neg (by omega),show (2*k+1)/2=k by omega]
theorem stable_none(b:Nat)(w:World):
  Calls Tryz.prog 163 #[.slice none 0 0,.int .i64 0,.func (.func 257) #[] #[.pointer (some ⟨b,0,none⟩)]] w fun e w'=>e = .returned (.tuple #[])/\w=w':=by
 have HI:Hid (∀w,Calls Tryz.prog 213 #[.slice none 0 0,.int .i64 0,.int .i64 0,.func (.func 257) #[] #[.pointer (some ⟨b,0,none⟩)]] w fun e w'=>e = .returned (.tuple #[])/\w=w'):=fun w=>by
  go_enter Tryz.func213,Tryz.ntmps213
  go_wp2_with fail
  go_loop [8] (fun i=>i = .int .i64 1) (fun _=>0)
  case atStart=>rfl
  case round=>
   subst hrel
   go_wp2_with fail
   go_end0
   exact⟨rfl,rfl⟩
 go_enter Tryz.func163,Tryz.ntmps163
 go_wp2_with fail
 go_loop [7,8] (fun a c=>a = .int .i64 0/\c = .int .i64 20) (fun _ _=>0)
 case atStart=>exact⟨rfl,rfl⟩
 case round=>
  obtain⟨rfl,rfl⟩:=hrel
  go_wp2_with fail
  refine(HI.out _).mono ?_
  rintro e w1 ⟨rfl,rfl⟩
  go_wp2_with fail
  go_loop [6] (fun c=>c = .int .i64 20) (fun _=>0)
  case atStart=>rfl
  case round=>
   subst hrel
   go_wp2_with fail
   go_end0
   exact⟨rfl,rfl⟩
theorem SortStable_none(b:Nat)(w:World):
  Calls Tryz.prog 120 #[.slice none 0 0,.func (.func 257) #[] #[.pointer (some ⟨b,0,none⟩)]] w fun e w'=>e = .returned (.tuple #[])/\w=w':=by
 have HI:=zH (fun w=>stable_none b w)
 go_enter Tryz.func120,Tryz.ntmps120
 go_wp2_with fail
 refine(HI.out _).mono ?_
 rintro e w1 ⟨rfl,rfl⟩
 go_wp2_with fail
 go_end0
 exact⟨rfl,rfl⟩
structure FdSt(tb tt:TypeId)(w:World)(f:Nat->Int)(g k:Nat)(v:Value)(W:World):Prop where
 own:ownS (fun q=>q<w.heap.size+1\/q=g) W tt 2 v k (rowL (2*k) (toneF f))
 box:W.heap[w.heap.size]?=some (.cells (rowN 16 (blk f)) tb (0,0))
 row:CellsAt W g (findL f).length (fun j=>(intsOf (findL f)).getD j 0)
 old:Old w W
 far:w.heap.size<g
theorem FdSt.next{tb tt:TypeId}{w W W':World}{f:Nat->Int}{g k:Nat}{v v':Value}{o:Obj}(h:FdSt tb tt w f g k v W)
  (ho:ownS (fun q=>q<w.heap.size+1\/q=g) W' tt 2 v' (k+1) (rowL (2*k) (toneF f) ++ [.int .i64 (((findL f).getD k 0:Nat):Int),.int .i64 (f ((findL f).getD k 0))])) (ka:Kept (fun q=>q<w.heap.size+1\/q=g) (W.alloc o) W'):FdSt tb tt w f g (k+1) v' W':=by
 have hb:=lt_of_block h.box
 have hg:=h.row.lt
 have ka':Kept (fun q=>q<w.heap.size+1\/q=g) W W':=(Kept.alloc W o fun q hq=>by rcases hq with hq | hq <;> omega).trans ka
 refine⟨by rw [rowL_succ2,toneF_even,toneF_odd];exact ho,(ka'.block _ (.inl (by omega))).trans h.box,h.row.kept ka' (.inr rfl),h.old.after ka' fun q hq=>.inl (by omega),h.far⟩
set_option maxHeartbeats 4000000 in
theorem Find_any(f:Nat->Int)(hf:Fits64 f)(w:World):
  Calls Tryz.prog 236 #[.agg (rowN 16 (blk f))] w fun e w'=>∃v,e = .returned v/\(findL f).length<=2/\ownS (fun q=>q<w.heap.size) w' 224 2 v (findL f).length (rowL (2*(findL f).length) (toneF f))/\Old w w':=by
 obtain⟨i0,hi,hz0,hz1,hz2⟩:=info_parts Tryz.info_tone
 have Hb16:Hid ((Tryz.prog.info? 43).map (·.size)=some 16):=zH (by kernel_rfl)
 have Hbox:Hid ((w.alloc (.cells (rowN 16 (blk f)) 43)).heap[w.heap.size]?=some (.cells (rowN 16 (blk f)) 43 (0,0))):=zH (heap_alloc_new _ _)
 have HP:=zH (fun w=>places_any f hf w)
 have HF:=zH hf
 clear hf
 go_enter Tryz.func236,Tryz.ntmps236
 go_wp2_with (with_reducible refine wpList_load_row rfl 43 _ rfl w.heap.size rfl 43 (rowN 16 (blk f)) (0,0) _ Hbox.out Tryz.underlying43 rfl (by rw [rowN_size];exact Hb16.out) ?_)
 refine(HP.out _).mono ?_
 rintro e w1 ⟨v,rfl,hown,ho⟩
 rcases own_cells hown with ⟨rfl,hx⟩ | ⟨g,cap,rfl,hg,hnc,hcm,hcells⟩
 ·have hno:findL f = []:=find_none (by simpa [intsOf] using hx)
  have HNO:=zH hno
  have HO:=zH ((Old.alloc w _).trans ho)
  have HS:=zH (fun w'=>SortStable_none w.heap.size w')
  have HI:=zH (fun w'=>Tryz.slices_Sort_int_none none 0 w')
  clear hx hown ho hno HP
  go_wp2_with fail
  refine(HS.out _).mono ?_
  rintro e w2 ⟨rfl,rfl⟩
  go_wp2_with fail
  rw [show (min (0:Int) 2).toNat=0 from rfl]
  refine(HI.out _).mono ?_
  rintro e w3 ⟨rfl,rfl⟩
  go_wp2_with fail
  go_loop [4,21] (fun v i=>v = .slice none 0 0/\i = .int .i64 0) (fun _ _=>0)
  case atStart=>exact⟨rfl,rfl⟩
  case round=>
   obtain⟨rfl,rfl⟩:=hrel
   go_wp2_with fail
   go_ret
   rw [HNO.out]
   exact⟨_,rfl,by simp,ownS.nil _ _ _ _,HO.out⟩
 ·obtain⟨n,hn⟩:∃n,n=(placesL f 16).length:=⟨_,rfl⟩
  have hlen:=placesL_len f 16
  rw [intsOf_len,←hn] at hnc hcells ⊢
  have hgw:w.heap.size<g:=by
   have:(w.alloc (.cells (rowN 16 (blk f)) 43)).heap.size=w.heap.size+1:=by simp
   omega
  have hb1:w1.heap[w.heap.size]?=some (.cells (rowN 16 (blk f)) 43 (0,0)):=(ho.block _ (by simp)).trans Hbox.out
  have hP:=places_P f
  rw [←hn] at hP
  have HS:=zH (SortStable_any f HF.out w.heap.size g n cap _ w1 hP hb1 hcells (by omega) (by omega))
  have HN:=zH hn
  have HO:=zH ((Old.alloc w (.cells (rowN 16 (blk f)) 43)).trans ho)
  have HG:=zH hgw
  have hn16:n<=16:=by omega
  have HB1:=zH hb1
  have HLT:=zH (lt_of_block hb1)
  clear hn hlen hown ho hg hgw hcells hb1 hP HP Hbox Hb16
  unfold maxLen at hcm
  go_wp2_with fail
  refine HS.out.mono ?_
  rintro e w2 ⟨rfl,G,hS,hc2,k2⟩
  obtain⟨m,hm⟩:∃m,m=min n 2:=⟨_,rfl⟩
  have hmI:(min (n:Int) 2).toNat=m:=by omega
  have hI:=SortInts_any g m cap G w2 (hc2.less (by omega)) (by omega)
  have HI:=zH hI
  have HM:=zH hm
  have HSS:=zH hS
  have hb2:w2.heap[w.heap.size]?=some (.cells (rowN 16 (blk f)) 43 (0,0)):=(k2.block _ ⟨HLT.out,Nat.ne_of_lt HG.out⟩).trans HB1.out
  have HB2:=zH hb2
  have HO2:=zH (HO.out.after k2 (fun q hq=>⟨Nat.lt_of_lt_of_le hq HO.out.size,by have:=HG.out;omega⟩))
  have hm2:m<=n:=by omega
  have HMI:=zH hmI
  clear hI hm hS hc2 k2 hb2 HS HO HB1 hmI
  go_wp2_with fail
  rw [HMI.out]
  refine HI.out.mono ?_
  rintro e w3 ⟨rfl,k3,zs,hp,hz,hc3⟩
  have e1:=sorted_find HN.out HSS.out (by rw [←HM.out];exact hp) hz
  have e2:=find_len HN.out HSS.out (by rw [←HM.out];exact hp) hz
  rw [←HM.out] at e2
  rw [e1] at hc3
  have hlt2:w.heap.size<w2.heap.size:=lt_of_block HB2.out
  have H0:Hid (FdSt 43 224 w f g 0 (.slice none 0 0) w3):=by
   refine⟨ownS.nil _ _ _ _,(k3.block _ ⟨hlt2,Nat.ne_of_lt HG.out⟩).trans HB2.out,by rw [e2];exact hc3,HO2.out.after k3 (fun q hq=>⟨Nat.lt_of_lt_of_le hq HO2.out.size,by have:=HG.out;omega⟩),HG.out⟩
  have HE:=zH e2
  have hmm:m<=2:=by have:=HM.out;omega
  clear k3 hp hz hc3 e1 e2 hlt2 HI HMI HSS HN HM HB2 HO2 HG HF HLT
  go_wp2_with fail
  go_loopw [4,21] (fun v i wr=>∃k:Nat,k<=m/\i = .int .i64 k/\Hid (FdSt 43 224 w f g k v wr)) (fun _ i _=>m-(intOf i).toNat)
  case atStart=>exact⟨0,by omega,rfl,H0⟩
  case round=>
   obtain⟨k,hk,rfl,hs⟩:=hrel
   clear H0
   by_cases hlt:k<m
   ·have hkl:k<(findL f).length:=by rw [HE.out];exact hlt
    have c1:=hs.out.row.cell k hkl
    rw [intsOf_getD _ _ hkl] at c1
    have hp16:(findL f).getD k 0<16:=by
     rw [List.getD_eq_getElem?_getD,List.getElem?_eq_getElem hkl]
     exact(mem_findL.1 (List.getElem_mem hkl)).1.1
    have c2:wr.cell? ⟨w.heap.size,(findL f).getD k 0,none⟩=some (.int .i64 (f ((findL f).getD k 0))):=(cell_of_row _ _ _ _ _ _ hs.out.box).trans (blk_at 16 f _ hp16)
    have HN:=zH (fun v' w2 o ho ka=>hs.out.next (v':=v') (W':=w2) (o:=o) ho ka)
    have hown:=hs.out.own
    have hsz:∀(o:Obj) (q:Nat),(q<w.heap.size+1\/q=g)->q<(wr.alloc o).heap.size:=fun o q hq=>by
     have h1:=lt_of_block hs.out.box
     have h2:=hs.out.row.lt
     simp
     rcases hq with hq | hq <;> omega
    have HSZ:=zH hsz
    clear hs hkl HE hsz
    generalize (findL f).getD k 0=p at *
    generalize f p=x at *
    have p0:(0:Int)<=p:=by omega
    have p1:(p:Int)<16:=by omega
    go_wp2_with ((at_builtin;refine append_S _ rfl _ _ 111 rfl (fun q=>q<w.heap.size+1\/q=g) 224 i0 (.agg #[.int .i64 0,.int .i64 0]) 2 16 Tryz.underlying111 hi hz0 hz1 hz2 rfl (by decide) _ _ _ rfl (hown.old (Old.alloc _ _)) ⟨_,0,none⟩ 1 1 [.int .i64 p,.int .i64 x] rfl rfl (news_two _ _ _ _) (two_oneCell _ _) (by unfold maxLen;omega) (by omega) (HSZ.out _) ?_;intro v' w5 hown5 hk5 hv5;have hn5:=zH (HN.out v' w5 _ hown5 hk5);clear hown hown5 hk5 hv5 HN))
    go_roundw
    case rel=>exact⟨k+1,by omega,by go_num,hn5⟩
    case measure=>simp [intOf];omega
   ·obtain rfl:k=m:=by omega
    have hr:(findL f).length<=2/\ownS (fun q=>q<w.heap.size) wr 224 2 u4 (findL f).length (rowL (2*(findL f).length) (toneF f))/\Old w wr:=by
     rw [HE.out]
     exact⟨hmm,hs.out.own.mono fun q hq h=>hs.out.own.2 q hq (.inl (by omega)),hs.out.old⟩
    have HR:=zH hr
    clear hs hr HE
    go_wp2_with fail
    go_ret
    exact⟨_,rfl,HR.out⟩
end Go.Proofs.YtgefdmfcddpaiaaGreatDoor
