/- Texts joined: DiskC, DiskD, DiskE, CacheP, CacheA, CacheB, CacheC, CacheD, CacheE, DiskAw. -/
import Derived.Deep.RegionHeld
import Derived.RegionTactic
import Derived.Deep.LoopGhost
import Derived.Deep.MidRow
import Derived.Test.YticpdokbiblpoaaGreatDoorPkBF
import Derived.Test.YticpdokbiblpoaaGreatDoorTk
set_option linter.unusedVariables false
set_option maxHeartbeats 1000000
namespace Go.Proofs.YticpdokbiblpoaaGreatDoor
open Go.Proofs.Tryz
open Go.Proofs.Tryz renaming prog → zP
open Go.Value renaming int → vI
open Go.IntKind renaming i64 → iJ
open Go.Ending renaming returned → rJ
set_option maxRecDepth 100000
open Go.RowKit Go.ChangeShapes Go.WideShapes
theorem aHW(v:Value)(i:Int)(w:World)(h:aIm w v):Calls zP 81 #[v,vI iJ i] w fun e w'=>e=rJ (vI iJ 16)/\w=w':=by
 have H:=zH (ZN v w h);clear h;go_enter func81,ntmps81
 go_wp2_with fail
 refine H.o.mono ?_;rintro e w' ⟨rfl,rfl⟩;go_wp2;go_ret;exact⟨rfl,rfl⟩
theorem IB(b m:Nat)(p:Option Addr)(c:Nat)(d:eF)(k:Nat)(w:World)(h:DkAt w b m p c d)(hk:k<d.N):Calls zP 81 #[.pointer (some ⟨b,0,none⟩),vI iJ k] w fun e w'=>e=rJ (vI iJ 0)/\w=w':=by
 obtain⟨c0,c1,c2,c3,f2,f3⟩:=h.cells;have hn:=h.num;have H:=zH (CU b m w c1);obtain⟨N,hN⟩:=zG (d.N);rw[<-hN]at c0 hk hn;have h1:¬(N:Int)<=k:=zO;have h0:¬(k:Int)<0:=zO;clear hN h;go_enter func81,ntmps81
 go_wp2_with fail
 refine H.o.mono ?_;rintro e w' ⟨rfl,rfl⟩;go_wp2;go_ret;exact⟨rfl,rfl⟩
theorem ML(b m:Nat)(p:Option Addr)(c:Nat)(d:eF)(w:World)(h:DkAt w b m p c d):Calls zP 44 #[.pointer (some ⟨b,0,none⟩)] w fun e w'=>e=rJ (vI iJ (d.N:Int))/\w=w':=by
 obtain⟨c0,c1,c2,c3,f2,f3⟩:=h.cells;have hn:=h.num;have H:=zH (CU b m w c1);obtain⟨N,hN⟩:=zG (d.N);rw[<-hN]at c0 hn |-;clear hN h;go_enter func44,ntmps44
 go_wp2_with fail
 refine H.o.mono ?_;rintro e w' ⟨rfl,rfl⟩;go_wp2;go_ret;exact⟨rfl,rfl⟩
def iP.norm(x:iP):iP:=if x.f=0/\x.x=0 then iP.z else x
def eF.set(d:eF)(k:Nat)(x:iP):eF:={ d with F:=pE d.F k x }
theorem DkAt.setF{w w':World}{b m c:Nat}{p:Option Addr}{d:eF}(h:DkAt w b m p c d)(k:Kept (fun j=>j<w.heap.size/\j≠m) w w'){j:Nat}{x:iP}(hx:x.ok)(hm:FltAt w' m d.N (pE d.F j x)):DkAt w' b m p c (d.set j x):=
 ⟨(k.block b ⟨h.ltb,h.ne⟩).trans h.blk,h.row.kept k (fun a hn ha=>⟨h.plt a zO ha,(h.apart a zO ha).2⟩),h.cap,hm,h.ne,h.apart,h.num,fun i hi=>by
  show (pE d.F j x i).ok;unfold pE;split
  ·exact hx
  ·exact h.ok i hi,h.byt⟩
theorem TY(b m:Nat)(p:Option Addr)(c:Nat)(d:eF)(k:Nat)(f a x:Int)(w:World)(h:DkAt w b m p c d)(hk:k<d.N)(hx:(iP.mk f a x).ok):
  Calls zP 82 #[.pointer (some ⟨b,0,none⟩),vI iJ k,.agg #[vI iJ f,vI iJ a,.int .u8 x]] w fun e w'=>e=rJ (.tuple #[])/\DkAt w' b m p c (d.set k (iP.mk f a x).norm)/\Kept (fun j=>j<w.heap.size/\j≠m) w w':=by
 have HO:=zH (Old.alloc w (.cells #[vI iJ f,vI iJ a,.int .u8 x] 177));have hb:=heap_alloc_new w (.cells #[vI iJ f,vI iJ a,.int .u8 x] 177);have hA:=h.old HO.o;obtain⟨_,c1,_,_,_,_⟩:=hA.cells;have hn:=h.num;have HK:=zH (And.intro hk (show d.N<=1099511627776 by omega));have HA:=zH hA;have HX:=zH hx;have HEh:=zH (fun w' x' (h1:FltAt w' m d.N (pE d.F k x')) (h2:x'.ok) (h3:Kept (fun j=>j<(w.alloc (.cells #[vI iJ f,vI iJ a,.int .u8 x] 177)).heap.size/\j≠m) (w.alloc (.cells #[vI iJ f,vI iJ a,.int .u8 x] 177)) w')=>
  (show DkAt w' b m p c (d.set k x')/\Kept (fun j=>j<w.heap.size/\j≠m) w w' from⟨HA.o.setF h3 h2 h1,(HO.o.kept (X:=fun j=>j<w.heap.size/\j≠m) fun _ hj=>hj.1).trans (h3.mono fun j hj=>⟨Nat.lt_of_lt_of_le hj.1 HO.o.size,hj.2⟩)⟩))
 by_cases h0:f=0
 ·subst h0;by_cases h1:x=0
  ·subst h1;have hz:(iP.mk 0 a 0).norm=iP.z:=by unfold iP.norm;rw[if_pos ⟨rfl,rfl⟩]
   rw[hz];clear hb hA hk hx h hn HX HO;go_enter func82,ntmps82
   go_wp2_with (at_delete;refine yN _ rfl _ _ rfl m d.N k d.F rfl HA.o.map HK.o.1 HK.o.2 rfl ?_;intro w1 h1 h2;have HF:=zH (HEh.o w1 _ h1 iP.z_ok h2);clear h1 h2)
   refine bodyPost_ret (results_none rfl _ _ _) rfl ?_;exact⟨rfl,HF.o⟩
  ·have hz:(iP.mk 0 a x).norm=⟨0,a,x⟩:=by unfold iP.norm;rw[if_neg (fun e=>h1 e.2)]
   rw[hz];have d1:(x == 0)=false:=by simp[h1]
   clear hb hA hk hx h hn HO h1;go_enter func82,ntmps82
   go_wp2_with fail
   have HB3:=zH (heap_alloc_new w (.cells #[vI iJ 0,vI iJ a,.int .u8 x] 177));generalize w.alloc (.cells #[vI iJ 0,vI iJ a,.int .u8 x] 177)=W at *;generalize w.heap.size=g at HB3 |-;obtain⟨e0,e1,e2,_,_,_⟩:=kO HB3.o;refine wp_region_still_tail 6 zK zK ?_;simp only[List.take_succ_cons,List.take_zero,List.drop_succ_cons,List.drop_zero]
   iterate 6 (with_reducible refine wpStill_step (fun K hK=>?_);go_simp;with_reducible refine hK _ ?_;clear hK K)
   with_reducible refine wpStill_nil ?_
   change wpList _ _ _ _ _ (World.drew _);refine pZ _ rfl _ _ _ rfl m d.N k d.F ⟨0,a,x⟩ rfl (show FltAt _ m d.N d.F from HA.o.map.kept (Kept.drew (Kept.refl (fun _=>True) _)) trivial) HK.o.1 HK.o.2 rfl rfl ?_;intro w1 h1 h2;have HF:=zH (HEh.o w1 _ h1 HX.o ⟨h2.os,h2.output,h2.size,h2.block⟩);clear h1 h2
   go_wp2_with fail
   go_end0
   exact⟨rfl,HF.o⟩
 ·have hz:(iP.mk f a x).norm=⟨f,a,x⟩:=by unfold iP.norm;rw[if_neg (fun e=>h0 e.1)]
  rw[hz];have d1:(f == 0)=false:=by simp[h0]
  clear hb hA hk hx h hn HO h0;go_enter func82,ntmps82
  go_wp2_with fail
  have HB3:=zH (heap_alloc_new w (.cells #[vI iJ f,vI iJ a,.int .u8 x] 177));generalize w.alloc (.cells #[vI iJ f,vI iJ a,.int .u8 x] 177)=W at *;generalize w.heap.size=g at HB3 |-;obtain⟨e0,e1,e2,_,_,_⟩:=kO HB3.o;refine wp_region_still_tail 6 zK zK ?_;simp only[List.take_succ_cons,List.take_zero,List.drop_succ_cons,List.drop_zero]
  iterate 6 (with_reducible refine wpStill_step (fun K hK=>?_);go_simp;with_reducible refine hK _ ?_;clear hK K)
  with_reducible refine wpStill_nil ?_
  change wpList _ _ _ _ _ (World.drew _);refine pZ _ rfl _ _ _ rfl m d.N k d.F ⟨f,a,x⟩ rfl (show FltAt _ m d.N d.F from HA.o.map.kept (Kept.drew (Kept.refl (fun _=>True) _)) trivial) HK.o.1 HK.o.2 rfl rfl ?_;intro w1 h1 h2;have HF:=zH (HEh.o w1 _ h1 HX.o ⟨h2.os,h2.output,h2.size,h2.block⟩);clear h1 h2
  go_wp2_with fail
  go_end0
  exact⟨rfl,HF.o⟩
def iP.less(x:iP):iP:=⟨x.f-1,x.a,x.x⟩
def eF.failK(d:eF)(k:Nat):eF:=if 0<(d.F k).f then d.set k (d.F k).less.norm else d
theorem Kept.fore{w W w':World}{m:Nat}(o:Old w W)(h:Kept (fun j=>j<W.heap.size/\j≠m) W w'):Kept (fun j=>j<w.heap.size/\j≠m) w w':=
 (o.kept (X:=fun j=>j<w.heap.size/\j≠m) fun _ hj=>hj.1).trans (h.mono fun j hj=>⟨Nat.lt_of_lt_of_le hj.1 o.size,hj.2⟩)
theorem Old.but{w w':World}(o:Old w w')(m:Nat):Kept (fun j=>j<w.heap.size/\j≠m) w w':=o.kept fun _ hj=>hj.1
theorem FH(b m:Nat)(p:Option Addr)(c:Nat)(d:eF)(k:Nat)(w:World)(h:DkAt w b m p c d)(hk:k<d.N):
  Calls zP 278 #[.pointer (some ⟨b,0,none⟩),vI iJ k] w fun e w'=>e=rJ (.bool (decide ((d.F k).f≠0)))/\DkAt w' b m p c (d.failK k)/\Kept (fun j=>j<w.heap.size/\j≠m) w w':=by
 obtain⟨c0,c1,c2,c3,f2,f3⟩:=h.cells;have hn:=h.num;have hl:=h.map.look hk zO;have hok:=h.ok k hk;obtain⟨y,hy⟩:=zG (d.F k);have hF:d.failK k=if 0<y.f then d.set k y.less.norm else d:=by rw[hy];rfl
 rw[hF,<-hy];rw[<-hy]at hl hok;clear hy hF;obtain⟨f,a,x⟩:=y;unfold iP.v at hl;dsimp only at hl |-;have HO:=zH (Old.alloc w (.cells #[vI iJ f,vI iJ a,.int .u8 x] 177));have HD:=zH (h.old HO.o);have HB:=zH (heap_alloc_new w (.cells #[vI iJ f,vI iJ a,.int .u8 x] 177));by_cases h0:f=0
 ·subst h0;rw[if_neg zO];clear h c0 c2 c3 f2 f3 hok;go_enter func278,ntmps278;go_wp2;go_ret;exact⟨rfl,HD.o,HO.o.but m⟩
 ·have d0:(f == 0)=false:=by simp[h0]
  have d1:decide (f≠0)=true:=by simp[h0]
  rw[d1];by_cases h1:0<f
  ·rw[if_pos h1];have hok':(iP.mk (f-1) a x).ok:=⟨⟨by have:=hok.1.1;dsimp only at this |-;omega,by have:=hok.1.2;dsimp only at this |-;omega⟩,hok.2⟩
   have HW1:=zH (show IntKind.i64.wrap (f-1)=f-1 from IntWalk.i64_in _ (by have:=hok.1;dsimp only at this;omega));have e1:wrap64 (f-1)=f-1:=IntWalk.wrap64_in _ (by have:=hok.1;dsimp only at this;omega);have HC:=zH (fun W (ho:Old w W)=>TY b m p c d k (f-1) a x W (h.old ho) hk hok');have HZ:=zH (fun W (ho:Old w W) w' (hh:Kept (fun j=>j<W.heap.size/\j≠m) W w')=>Kept.fore ho hh);have hb:b<w.heap.size:=h.ltb;clear h c0 c2 c3 f2 f3 hok hok' hk h0 d1;go_enter func278,ntmps278
   go_wp2_with fail
   refine(HC.o _ (Old.alloc _ _)).mono ?_;rintro e w1 ⟨rfl,hd,hk1⟩;have H1:=zH (And.intro hd (HZ.o _ (Old.alloc _ _) w1 hk1));clear hd hk1
   go_wp2_with fail
   go_ret;exact⟨rfl,H1.o⟩
  ·rw[if_neg h1];clear h c0 c2 c3 f2 f3 hok;go_enter func278,ntmps278;go_wp2;go_ret;exact⟨rfl,HD.o,HO.o.but m⟩
def dk0(n:Nat)(F:nI):eF:=⟨pgs n,oT n F,fun _=>iP.z,0,0⟩
theorem aFf(p:Option Addr)(n cap:Nat)(F:nI)(w:World)(hs:SlU w p n F)(hn:n<=4194304)(h1:n<=cap)(hb:lS F n):
  Calls zP 26 #[.slice p n cap] w fun e w'=>∃b,e=rJ (.tuple #[.pointer (some ⟨b+1,0,none⟩),vI iJ 0])/\w.heap.size<b/\DkAt w' (b+1) b (some ⟨w.heap.size,0,none⟩) (pgs n) (dk0 n F)/\Old w w':=by
 have HC:=zH (aFO p n cap F w hs zO h1);have hp:pgs n<=65536:=by unfold pgs;omega
 have HP:=zH hp;have HB:=zH hb;obtain⟨N,hN⟩:=zG (pgs n);have HN:=zH hN;rw[<-hN]at HC |-;clear hs hb hp hN;go_enter func26,ntmps26
 go_wp2_with fail
 refine HC.o.mono ?_;rintro e V ⟨rfl,ha,ho⟩;have HA:=zH ha;have HO:=zH ho;clear ha ho HC;have hmm:=@run_makeMap zP;have hg:=HA.o.lt;have HE:Hid (DkAt ((V.alloc (.map #[] 0)).alloc (.cells #[.slice (some ⟨w.heap.size,0,none⟩) N N,.map (some V.heap.size),vI iJ 0,vI iJ 0] 150)) (V.heap.size+1) V.heap.size (some ⟨w.heap.size,0,none⟩) N (dk0 n F) /\
   Old w ((V.alloc (.map #[] 0)).alloc (.cells #[.slice (some ⟨w.heap.size,0,none⟩) N N,.map (some V.heap.size),vI iJ 0,vI iJ 0] 150))):=by
  have eN:(dk0 n F).N=N:=HN.o.symm;have o1:=Old.alloc V (.map #[] 0);have o2:=o1.alloc' (.cells #[.slice (some ⟨w.heap.size,0,none⟩) N N,.map (some V.heap.size),vI iJ 0,vI iJ 0] 150);have hs1:(V.alloc (.map #[] 0)).heap.size=V.heap.size+1:=zS;refine⟨⟨?_,?_,⟨by rw[eN];exact Nat.le_refl _,by have:=HP.o;have:=HN.o;unfold maxLen;omega⟩,?_,zO,fun a _ ha=>by cases ha;exact⟨by show w.heap.size≠_;omega,by show w.heap.size≠_;omega⟩,by rw[eN];have:=HP.o;have:=HN.o;omega,fun k _=>iP.z_ok,fun j hj=>?_⟩,HO.o.trans o2⟩
  ·rw[eN,<-hs1];exact heap_alloc_new _ _
  ·rw[eN];have:=((HA.o.old o2).sl 0 (N*64) zO).ext (G:=oT n F) fun j _=>by rw[Nat.zero_add]
   exact this
  ·rw[eN];exact(aEg V N).old (Old.alloc _ _)
  ·show 0<=oT n F j/\oT n F j<=255;unfold oT;split
   ·exact HB.o j zA
   ·omega
 go_wp2_with fail
 go_ret2
 exact⟨V.heap.size,rfl,hg,HE.o⟩
def eF.more(d:eF):eF:={ d with r:=wrap64 (d.r+1) }
def eF.moref(d:eF):eF:={ d with f:=wrap64 (d.f+1) }
theorem DkAt.more{w:World}{b m c:Nat}{p:Option Addr}{d:eF}(h:DkAt w b m p c d):DkAt (w.setCell ⟨b,2,none⟩ (vI iJ (wrap64 (d.r+1)))) b m p c d.more:=by
 have k:Kept (fun j=>j≠b) w (w.setCell ⟨b,2,none⟩ (vI iJ (wrap64 (d.r+1)))):=Kept.setCell w (a:=⟨b,2,none⟩) (fun e=>e rfl) _;exact⟨(aW h.blk).trans rfl,h.row.kept k (fun a hn ha=>(h.apart a zO ha).1),h.cap,h.map.kept k (fun e=>h.ne e.symm),h.ne,h.apart,h.num,h.ok,h.byt⟩
theorem DkAt.moref{w:World}{b m c:Nat}{p:Option Addr}{d:eF}(h:DkAt w b m p c d):DkAt (w.setCell ⟨b,3,none⟩ (vI iJ (wrap64 (d.f+1)))) b m p c d.moref:=by
 have k:Kept (fun j=>j≠b) w (w.setCell ⟨b,3,none⟩ (vI iJ (wrap64 (d.f+1)))):=Kept.setCell w (a:=⟨b,3,none⟩) (fun e=>e rfl) _;exact⟨(aW h.blk).trans rfl,h.row.kept k (fun a hn ha=>(h.apart a zO ha).1),h.cap,h.map.kept k (fun e=>h.ne e.symm),h.ne,h.apart,h.num,h.ok,h.byt⟩
theorem KF{w w1 w2:World}{b m:Nat}(h1:Kept (fun j=>j≠b) w w1)(h2:Kept (fun j=>j<w1.heap.size/\j≠m) w1 w2):Kept (EK w b m) w w2:=
 (h1.mono fun j hj=>hj.2.1).trans (h2.mono fun j hj=>⟨Nat.lt_of_lt_of_le hj.1 h1.size,hj.2.2⟩)
def eF.bad(d:eF)(k:Nat):eF:=((d.more).failK k).moref
theorem aDT(b m:Nat)(p:Option Addr)(c:Nat)(d:eF)(k:Nat)(w:World)(h:DkAt w b m p c d)(hk:k<d.N)(hf:(d.F k).f≠0):
  Calls zP 266 #[.pointer (some ⟨b,0,none⟩),vI iJ k] w fun e w'=>e=rJ (.tuple #[.slice none 0 0,vI iJ 8])/\DkAt w' b m p c (d.bad k)/\Kept (EK w b m) w w':=by
 have H:=zH (IB b m p c d k w h hk);obtain⟨c0,c1,c2,c3,f2,f3⟩:=h.cells;have HC:=zH (FH b m p c d.more k _ h.more hk);obtain⟨r,hr⟩:=zG (wrap64 (d.r+1));have e1:wrap64 (d.r+1)=r:=hr.symm;have hdec:decide ((d.more.F k).f≠0)=true:=by simp only[eF.more];simp[hf]
 rw[hdec,<-hr]at HC;have HK:=zH (Kept.setCell (X:=fun j=>j≠b) w (a:=⟨b,2,none⟩) (fun e=>e rfl) (vI iJ r));have HB:Hid (d.bad k=((d.more).failK k).moref):=zH rfl;rw[HB.o];obtain⟨y,hy⟩:=zG ((d.more).failK k);rw[<-hy]at HC |-;clear h HB hdec hr hf hk hy;go_enter func266,ntmps266
 go_wp2_with fail
 refine H.o.mono ?_;rintro e w' ⟨rfl,rfl⟩;clear H
 go_wp2_with fail
 refine HC.o.mono ?_;rintro e w2 ⟨rfl,hd,hk⟩;obtain⟨_,_,_,c3',_,f3'⟩:=hd.cells;obtain⟨q,hq⟩:=zG (wrap64 (y.f+1));have e2:wrap64 (y.f+1)=q:=hq.symm;have HE:Hid (DkAt (w2.setCell ⟨b,3,none⟩ (vI iJ q)) b m p c y.moref/\Kept (EK w b m) w (w2.setCell ⟨b,3,none⟩ (vI iJ q))):=zH ⟨by rw[hq];exact hd.moref,(KF HK.o hk).trans (Kept.setCell (X:=EK w b m) w2 (a:=⟨b,3,none⟩) (fun e=>e.2.1 rfl) _)⟩;clear hd hk hq HC
 go_wp2_with fail
 go_ret2
 exact⟨rfl,HE.o⟩
def TP(u v:Int):Int:=bits .xor .u8 u v
def mN(d:eF)(k:Nat):nI:=fun j=>d.G (k*64+j)
def oJ(d:eF)(k:Nat):nI:=fun j=>if j=(d.F k).a.toNat then TP (mN d k j) (d.F k).x else mN d k j
theorem aFC(b m:Nat)(p:Option Addr)(c:Nat)(d:eF)(k:Nat)(w:World)(h:DkAt w b m p c d)(hk:k<d.N)(hf:(d.F k).f=0):
  Calls zP 266 #[.pointer (some ⟨b,0,none⟩),vI iJ k] w fun e w'=>∃g,e=rJ (.tuple #[.slice (some ⟨g,0,none⟩) 64 64,vI iJ 0])/\w.heap.size<=g/\UAt w' g 64 (oJ d k)/\DkAt w' b m p c d.more/\Kept (EK w b m) w w':=by
 have H:=zH (IB b m p c d k w h hk);obtain⟨c0,c1,c2,c3,f2,f3⟩:=h.cells;have HC:=zH (FH b m p c d.more k _ h.more hk);obtain⟨r,hr⟩:=zG (wrap64 (d.r+1));have e1:wrap64 (d.r+1)=r:=hr.symm;have hdec:decide ((d.more.F k).f≠0)=false:=by simp only[eF.more];simp[hf]
 have hfk:d.more.failK k=d.more:=by unfold eF.failK;rw[if_neg (by show ¬0<(d.F k).f;omega)]
 rw[hdec,hfk,<-hr]at HC;have HK:=zH (Kept.setCell (X:=fun j=>j≠b) w (a:=⟨b,2,none⟩) (fun e=>e rfl) (vI iJ r));have hn:=h.num;have HN:=zH h.num;have HKn:=zH hk;have hok:=h.ok k hk;have hN:d.more.N=d.N:=rfl;have HR:Hid (oJ d k=fun j=>if j=(d.F k).a.toNat then TP (mN d k j) (d.F k).x else mN d k j):=zH rfl;obtain⟨y,hy⟩:=zG (d.F k);have HY:Hid (d.more.F k=y):=zH hy.symm;rw[HR.o];rw[<-hy]at hok |-;clear hy HR hfk hdec hf h;obtain⟨f,a,x⟩:=y;obtain⟨⟨hf1,hf2⟩,⟨ha0,ha1⟩,hx0,hx1⟩:=hok;dsimp only at hf1 hf2 ha0 ha1 hx0 hx1 |-;obtain⟨an,rfl⟩:∃n:Nat,a=n:=⟨a.toNat,zO⟩
 rw[Int.toNat_natCast];obtain⟨N,hNe⟩:=zG (d.N);obtain⟨R,hR⟩:=zG (aA 64 (bU (mN d k)));have HRs:=zH (show R.size=64 by rw[hR];exact aB _ _);have HRe:=zH hR;have HR1:Hid (R.all (·.oneCell')=true):=zH (by rw[hR];simp[aA,bU,Value.oneCell']);clear hr hR;rw[<-hNe]at c0;go_enter func266,ntmps266
 go_wp2_with fail
 refine H.o.mono ?_;rintro e w' ⟨rfl,rfl⟩;clear H
 go_wp2_with fail
 refine HC.o.mono ?_;rintro e w2 ⟨rfl,hd,hk2⟩;obtain⟨bp,o,hpe,hlt,hcell⟩:=hd.row (by rw[hN];omega);subst hpe;have HL:=zH (show ∀j,j<64->w2.cell? ⟨bp,o+k*64+j,none⟩=some (.int .u8 (mN d k j)) from fun j hj=>by
  rw[show o+k*64+j=o+(k*64+j) by omega];exact hcell (k*64+j) (by rw[hN];omega))
 have hd3:=hd.old (Old.alloc w2 (.cells R 202));have hl3:=hd3.map.look hk zO;rw[HY.o]at hl3;unfold iP.v at hl3;dsimp only at hl3;obtain⟨c0',_,_,_,_,_⟩:=hd.cells;obtain⟨_,c1',_,_,_,_⟩:=hd3.cells;rw[hN,<-hNe]at c0';have HD:=zH (And.intro (hd3.old (Old.alloc _ (.cells #[vI iJ f,vI iJ an,.int .u8 x] 177))) (And.intro (KF HK.o hk2) (((Old.alloc w2 (.cells R 202))).alloc' (.cells #[vI iJ f,vI iJ an,.int .u8 x] 177))));have Hp:=zH (heap_alloc_new w2 (.cells R 202));have hge:w.heap.size<=w2.heap.size:=(KF HK.o hk2).size;have HGe:=zH hge;have HDk:=zH hd;have HS0:Hid ((zP.info? 202).map (·.size)=some 64):=zH Tryz.page_size;have hkN:(k:Int)<N:=zO;clear hcell hd hd3 hk2 hn hge hlt HC hNe HK hN hk c1 c2 c3 f2 f3 c0 e1
 go_wp2_with (first
  | (with_reducible refine gD rfl 64 (mN d k) 202 _ rfl bp (o+k*64) rfl _ HL.o underlying202 rfl HS0.o ?_;rw[<-HRe.o])
  | (with_reducible refine wpList_store_row rfl 202 _ _ rfl w2.heap.size R rfl rfl 202 _ (heap_alloc_new _ _) (by rw[HRs.o];exact HS0.o) (by rw[HRs.o];kernel_rfl) HR1.o ?_;rw[World.setRow_alloc_new]))
 have hp1:((w2.alloc (.cells R 202)).alloc (.cells #[vI iJ f,vI iJ an,.int .u8 x] 177)).heap[w2.heap.size]?=some (.cells R 202 (0,0)):=
  ((Old.alloc (w2.alloc (.cells R 202)) _).block _ (lt_of_block Hp.o)).trans Hp.o
 have hf1:=heap_alloc_new (w2.alloc (.cells R 202)) (.cells #[vI iJ f,vI iJ an,.int .u8 x] 177);rw[show (w2.alloc (.cells R 202)).heap.size=w2.heap.size+1 by simp]at hf1;have HD1:=HD.o;generalize (w2.alloc (.cells R 202)).alloc (.cells #[vI iJ f,vI iJ an,.int .u8 x] 177)=W at *;obtain⟨e0,e1,e2,_,_,_⟩:=kO hf1;rw[HRe.o]at hp1;have hU:=aHl hp1;have ca:W.cell? ⟨w2.heap.size,an,none⟩=some (.int .u8 (mN d k an)):=hU.at_ an zO;have fa:W.frozen? ⟨w2.heap.size,an,none⟩=false:=hU.fz an zO;obtain⟨u,hu⟩:=zG (mN d k an);obtain⟨q,hq⟩:=zG (TP u x);have hq':bits .xor .u8 u x=q:=hq.symm;have HEnd:Hid (UAt (W.drew.setCell ⟨w2.heap.size,an,none⟩ (.int .u8 q)) w2.heap.size 64 (fun j=>if j=an then TP (mN d k j) x else mN d k j)/\DkAt (W.drew.setCell ⟨w2.heap.size,an,none⟩ (.int .u8 q)) b m (some ⟨bp,o,none⟩) c d.more/\Kept (EK w b m) w (W.drew.setCell ⟨w2.heap.size,an,none⟩ (.int .u8 q))):=by
  have o1:Old w2 (W.drew.setCell ⟨w2.heap.size,an,none⟩ (.int .u8 q)):=HD1.2.2.drew.after (Kept.setCell (X:=fun j=>j<w2.heap.size) _ (a:=⟨w2.heap.size,an,none⟩) (fun e=>by have:w2.heap.size<w2.heap.size:=e;omega) _) fun _ h=>h;refine⟨UAt.ext (UAt.set hU.drew an zO q) fun j hj=>?_,?_,HD1.2.1.trans (o1.kept fun j hj=>Nat.lt_of_lt_of_le hj.1 HGe.o)⟩
  ·by_cases e:j=an
   ·rw[if_pos e,if_pos e,hq,hu,e]
   ·rw[if_neg e,if_neg e]
  ·exact HDk.o.old o1
 rw[<-hu]at ca;have an0:(0:Int)<=an:=zO;have an1:(an:Int)<64:=zO;obtain⟨g,hg⟩:=zG (w2.heap.size);rw[<-hg]at e0 e1 e2 ca fa HEnd HGe |-;have HQ:=zH hq';have hxo:∀V,(binOp .xor 5 (.int .u8 u) (.int .u8 x)).run zP V=.ok (.int .u8 q) V:=fun V=>by rw[<-hq'];kernel_rfl
 clear hU hp1 hf1 HD1 HD hq hq' hu hg HL Hp;refine wp_region_still_tail 8 zK zK ?_;simp only[List.take_succ_cons,List.take_zero,List.drop_succ_cons,List.drop_zero]
 iterate 8 (with_reducible refine wpStill_step (fun K hK=>?_);go_simp;with_reducible refine hK _ ?_;clear hK K)
 with_reducible refine wpStill_nil ?_
 change wpList _ _ _ _ _ W.drew;rw[<-HQ.o]at HEnd
 go_wp2_with fail
 go_ret2
 exact⟨g,rfl,HGe.o,HEnd.o⟩
structure gE where
 p:Nat
 m:Bool
 G:nI
structure dE where
 n:Nat
 rt:Nat
 h:Int
 m:Int
 t:Int
 l:Int
 hand:Nat
 S:Nat->Option gE
def cJ(S:Nat->Option gE)(i:Nat)(s:Option gE):Nat->Option gE:=fun j=>if j=i then s else S j
def IL(S:Nat->Option gE)(i:Nat):Bool:=match S i with | some s=>s.m | none=>false
def gE.mark(s:gE)(b:Bool):gE:={ s with m:=b }
def XY(S:Nat->Option gE)(k i:Nat):Bool:=match S i with | some s=>decide (s.p=k) | none=>false
def kI(S:Nat->Option gE)(k:Nat):Nat->Option Nat
 | 0=>none
 | n+1=>match kI S k n with
  | some i=>some i
  | none=>if XY S k n then some n else none
theorem nC{S:Nat->Option gE}{k i:Nat} : XY S k i=true↔∃s,S i=some s/\s.p=k:=by
 unfold XY;cases S i with
 | none=>simp
 | some s=>simp
theorem jU{S:Nat->Option gE}{k:Nat} : ∀{n i:Nat},kI S k n=some i->i<n/\XY S k i=true
 | 0,i,h=>by simp[kI]at h
 | n+1,i,h=>by
  unfold kI at h;cases hf:kI S k n with
  | some j=>
   rw[hf]at h;cases h;have:=jU hf;exact⟨zO,this.2⟩
  | none=>
   rw[hf]at h;dsimp only at h;split at h
   ·cases h;exact⟨zO,zA⟩
   ·cases h
theorem CC{S:Nat->Option gE}{k:Nat} : ∀{n:Nat},kI S k n=none->∀i,i<n->XY S k i=false
 | 0,h,i,hi=>zO
 | n+1,h,i,hi=>by
  unfold kI at h;cases hf:kI S k n with
  | some j=>rw[hf]at h;cases h
  | none=>
   rw[hf]at h;dsimp only at h;split at h
   ·cases h
   ·rename_i hn
    by_cases e:i=n
    ·subst e;simpa using hn
    ·exact CC hf i zO
def qD(n:Nat)(S:Nat->Option gE):Prop:=∀i j s t,i<n->j<n->S i=some s->S j=some t->s.p=t.p->i=j
theorem aHD{S:Nat->Option gE}{n i:Nat}{s:gE}(hu:qD n S)(hi:i<n)(hs:S i=some s):kI S s.p n=some i:=by
 cases hf:kI S s.p n with
 | none=>
  have:=CC hf i hi;rw[nC.2 ⟨s,hs,rfl⟩]at this;cases this
 | some j=>
  obtain⟨h1,h2⟩:=jU hf;obtain⟨t,ht,he⟩:=nC.1 h2;rw[hu j i t s h1 hi ht hs he]
theorem nQ{S:Nat->Option gE}{n k i:Nat}(hu:qD n S):kI S k n=some i↔i<n/\∃s,S i=some s/\s.p=k:=by
 constructor
 ·intro h;have:=jU h;exact⟨this.1,nC.1 this.2⟩
 ·rintro ⟨h1,s,h2,rfl⟩;exact aHD hu h1 h2
theorem xQ{S T:Nat->Option gE}{n k:Nat}(hu:qD n S)(hv:qD n T)(h:∀i,i<n->((∃s,S i=some s/\s.p=k)↔∃s,T i=some s/\s.p=k)):kI S k n=kI T k n:=by
 cases hf:kI S k n with
 | some i=>
  obtain⟨h1,h2⟩:=(nQ hu).1 hf;exact((nQ hv).2 ⟨h1,(h i h1).1 h2⟩).symm
 | none=>
  cases hg:kI T k n with
  | none=>rfl
  | some i=>
   obtain⟨h1,h2⟩:=(nQ hv).1 hg;rw[(nQ hu).2 ⟨h1,(h i h1).2 h2⟩]at hf;exact hf.symm
def kU(S:Nat->Option gE)(i:Nat)(b:Bool):Nat->Option gE:=cJ S i ((S i).map fun s=>s.mark b)
theorem tY(S:Nat->Option gE)(i j k:Nat)(b:Bool):(∃s,kU S i b j=some s/\s.p=k)↔∃s,S j=some s/\s.p=k:=by
 unfold kU cJ;by_cases e:j=i
 ·subst e;rw[if_pos rfl];cases S j with
  | none=>simp
  | some s=>simp[gE.mark]
 ·rw[if_neg e]
theorem FI{n:Nat}{S:Nat->Option gE}(h:qD n S)(i:Nat)(b:Bool):qD n (kU S i b):=by
 intro x y s t hx hy hs ht e;obtain⟨s',h1,h2⟩:=(tY S i x s.p b).1 ⟨s,hs,rfl⟩;obtain⟨t',h3,h4⟩:=(tY S i y t.p b).1 ⟨t,ht,rfl⟩;exact h x y s' t' hx hy h1 h3 (by rw[h2,h4,e])
theorem aBG{n:Nat}{S:Nat->Option gE}(h:qD n S)(i:Nat)(b:Bool)(k:Nat):kI (kU S i b) k n=kI S k n:=
 xQ (FI h i b) h fun j _=>tY S i j k b
theorem AW{n:Nat}{S:Nat->Option gE}(h:qD n S)(i:Nat):qD n (cJ S i none):=by
 intro x y s t hx hy hs ht e;unfold cJ at hs ht;split at hs
 ·cases hs
 ·split at ht
  ·cases ht
  ·exact h x y s t hx hy hs ht e
theorem aGr{n i:Nat}{S:Nat->Option gE}{s:gE}(h:qD n S)(hi:i<n)(hs:S i=some s)(k:Nat):kI (cJ S i none) k n=if k=s.p then none else kI S k n:=by
 by_cases e:k=s.p
 ·rw[if_pos e];cases hf:kI (cJ S i none) k n with
  | none=>rfl
  | some j=>
   obtain⟨h1,t,h2,h3⟩:=(nQ (AW h i)).1 hf;unfold cJ at h2;split at h2
   ·cases h2
   ·rename_i hn
    exact absurd (h j i t s h1 hi h2 hs (by rw[h3,e])) hn
 ·rw[if_neg e];refine xQ (AW h i) h fun j hj=>?_;unfold cJ;by_cases e2:j=i
  ·subst e2;rw[if_pos rfl,hs];simp;exact fun h=>e h.symm
  ·rw[if_neg e2]
theorem NJ{n i:Nat}{S:Nat->Option gE}{s:gE}(h:qD n S)(hn:kI S s.p n=none):qD n (cJ S i (some s)):=by
 have hno:∀j t,j<n->S j=some t->t.p≠s.p:=fun j t hj ht e=>by
  have:=CC hn j hj;rw[nC.2 ⟨t,ht,e⟩]at this;cases this
 intro x y u t hx hy hs ht e;unfold cJ at hs ht;split at hs
 ·split at ht
  ·omega
  ·cases hs;exact absurd e.symm (hno y t hy ht)
 ·split at ht
  ·cases ht;exact absurd e (hno x u hx hs)
  ·exact h x y u t hx hy hs ht e
theorem aGk{n i:Nat}{S:Nat->Option gE}{s:gE}(h:qD n S)(hi:i<n)(hn:kI S s.p n=none)(hi0:S i=none)(k:Nat):kI (cJ S i (some s)) k n=if k=s.p then some i else kI S k n:=by
 have hu:=NJ (i:=i) h hn;by_cases e:k=s.p
 ·rw[if_pos e];exact(nQ hu).2 ⟨hi,s,by unfold cJ;rw[if_pos rfl],e.symm⟩
 ·rw[if_neg e];refine xQ hu h fun j hj=>?_;unfold cJ;by_cases e2:j=i
  ·subst e2;rw[if_pos rfl,hi0];simp;exact fun h=>e h.symm
  ·rw[if_neg e2]
def CK(f:Nat->Bool):Nat->Nat
 | 0=>0
 | i+1=>CK f i+if f i then 1 else 0
theorem LZ{f g:Nat->Bool} : ∀{n:Nat},(∀i,i<n->f i=g i)->CK f n=CK g n
 | 0,_=>rfl
 | n+1,h=>by
  unfold CK;rw[LZ fun i hi=>h i zO,h n zO]
theorem VY(f:Nat->Bool):∀n,CK f n<=n
 | 0=>Nat.le_refl _
 | n+1=>by
  unfold CK;have:=VY f n;split <;> omega
theorem IA{f g:Nat->Bool}{i:Nat} : ∀{n:Nat},i<n->f i=true->g i=false->(∀j,j≠i->g j=f j)->CK g n+1=CK f n
 | 0,h,_,_,_=>zO
 | n+1,h,e,e',ho=>by
  unfold CK;by_cases c:i=n
  ·subst c;rw[if_pos e,if_neg (by rw[e'];simp),LZ (f:=g) (g:=f) fun j hj=>ho j zO]
  ·have:=IA (n:=n) (show i<n by omega) e e' ho;rw[ho n (fun h=>c h.symm)];omega
theorem aCU(S:Nat->Option gE)(i:Nat)(b:Bool)(j:Nat)(hj:j≠i):IL (kU S i b) j=IL S j:=by
 unfold IL kU cJ;rw[if_neg hj]
theorem yR(S:Nat->Option gE)(i:Nat):IL (kU S i false) i=false:=by
 unfold IL kU cJ;rw[if_pos rfl];cases S i <;> rfl
def dE.next(c:dE):dE:={ c with hand:=(c.hand+1)%c.n }
def dE.by_(c:dE):dE:={ c.next with S:=kU c.S c.hand false }
def chs:Nat->dE->dE × Nat
 | 0,c=>(c.next,c.hand)
 | f+1,c=>if IL c.S c.hand then chs f c.by_ else(c.next,c.hand)
theorem aHu{c:dE}(h:IL c.S c.hand=false):∀f,chs f c=(c.next,c.hand)
 | 0=>rfl
 | f+1=>by unfold chs;rw[if_neg (by rw[h];simp)]
theorem aFP{c:dE}(h:IL c.S c.hand=true)(f:Nat):chs (f+1) c=chs f c.by_:=by
 show (if IL c.S c.hand then chs f c.by_ else(c.next,c.hand))=_;rw[if_pos h]
structure sQ(c c':dE):Prop where
 n:c'.n=c.n
 rt:c'.rt=c.rt
 h:c'.h=c.h
 m:c'.m=c.m
 t:c'.t=c.t
 l:c'.l=c.l
 S:∀j k,(∃s,c'.S j=some s/\s.p=k)↔∃s,c.S j=some s/\s.p=k
 G:∀j s,c'.S j=some s->∃t,c.S j=some t/\s.G=t.G/\s.p=t.p
theorem sQ.trans{a b c:dE}(h:sQ a b)(k:sQ b c):sQ a c:=
 ⟨k.n.trans h.n,k.rt.trans h.rt,k.h.trans h.h,k.m.trans h.m,k.t.trans h.t,k.l.trans h.l,fun j q=>(k.S j q).trans (h.S j q),fun j s hs=>by
  obtain⟨t,h1,h2,h3⟩:=k.G j s hs;obtain⟨u,h4,h5,h6⟩:=h.G j t h1;exact⟨u,h4,h2.trans h5,h3.trans h6⟩⟩
theorem sQ.next(c:dE):sQ c c.next:=⟨rfl,rfl,rfl,rfl,rfl,rfl,fun _ _=>Iff.rfl,fun _ s hs=>⟨s,hs,rfl,rfl⟩⟩
theorem AL(S:Nat->Option gE)(i:Nat)(b:Bool)(j:Nat)(s:gE)(h:kU S i b j=some s):∃t,S j=some t/\s.G=t.G/\s.p=t.p:=by
 unfold kU cJ at h;split at h
 ·rename_i e
  subst e;cases hs:S j with
  | none=>rw[hs]at h;cases h
  | some t=>rw[hs]at h;cases h;exact⟨t,rfl,rfl,rfl⟩
 ·exact⟨s,h,rfl,rfl⟩
theorem sQ.by_(c:dE):sQ c c.by_:=⟨rfl,rfl,rfl,rfl,rfl,rfl,fun j k=>tY c.S c.hand j k false,fun j s hs=>AL c.S c.hand false j s hs⟩
theorem pK:∀f (c:dE),sQ c (chs f c).1
 | 0,c=>sQ.next c
 | f+1,c=>by
  unfold chs;split
  ·exact(sQ.by_ c).trans (pK f c.by_)
  ·exact sQ.next c
theorem aCd:∀f (c:dE),0<c.n->c.hand<c.n->(chs f c).2<c.n/\(chs f c).1.hand<c.n
 | 0,c,h,h1=>⟨h1,Nat.mod_lt _ h⟩
 | f+1,c,h,h1=>by
  unfold chs;split
  ·exact aCd f c.by_ h (Nat.mod_lt _ h)
  ·exact⟨h1,Nat.mod_lt _ h⟩
def dE.choose(c:dE):dE × Nat:=chs c.n c
def dE.put(c:dE)(k:Nat)(G:nI):dE:={ c.choose.1 with S:=cJ c.choose.1.S c.choose.2 (some ⟨k,true,G⟩) }
def mH(k:Nat):Nat->eF->Int->Option (nI) × eF × Int
 | 0,d,t=>(none,d,t)
 | j+1,d,t=>if (d.F k).f≠0 then mH k j (d.bad k) (wrap64 (t+1)) else(some (oJ d k),d.more,wrap64 (t+1))
structure Tkn where
 r:Option (nI)
 c:dE
 d:eF
def dE.hit(c:dE)(i:Nat):dE:={ c with h:=wrap64 (c.h+1),S:=kU c.S i true }
def dE.miss(c:dE):dE:={ c with m:=wrap64 (c.m+1) }
def dE.tried(c:dE)(t:Int):dE:={ c with t:=t }
def dE.lose(c:dE):dE:={ c with l:=wrap64 (c.l+1) }
def iI(c:dE)(d:eF)(k:Nat):Tkn:=
 match kI c.S k c.n with
 | some i=>⟨(c.S i).map gE.G,c.hit i,d⟩
 | none=>match mH k (c.rt+1) d c.t with
  | (none,d',t')=>⟨none,(c.miss.tried t').lose,d'⟩
  | (some G,d',t')=>⟨some G,(c.miss.tried t').put k G,d'⟩
def bZ(s:Option gE)(g:Nat):Nat->Value
 | 0=>match s with | some s=>vI iJ (s.p:Int) | none=>vI iJ 0
 | 1=>match s with | some _=>.slice (some ⟨g,0,none⟩) 64 64 | none=>.slice none 0 0
 | _=>match s with | some s=>.bool s.m | none=>.bool false
def slV(S:Nat->Option gE)(gs:Nat->Nat):Nat->Value:=fun j=>bZ (S (j/3)) (gs (j/3)) (j%3)
def SlotsAt(w:World)(sb n z av:Nat)(S:Nat->Option gE):Prop:=
 ∃gs:Nat->Nat,CellsV w sb (3*n) (slV S gs)/\∀i,i<n->∀s,S i=some s->(z<=gs i/\gs i≠av)/\SlU w (some ⟨gs i,0,none⟩) 64 s.G
namespace SlotsAt
variable {w w':World} {sb n z av:Nat} {S:Nat->Option gE}
theorem lt(h:SlotsAt w sb n z av S):sb<w.heap.size:=by obtain⟨gs,h1,_⟩:=h;exact h1.lt
theorem kept{X:Nat->Prop}(h:SlotsAt w sb n z av S)(k:Kept X w w')(hb:X sb)(hz:∀g,z<=g->g≠av->g<w.heap.size->X g):SlotsAt w' sb n z av S:=by
 obtain⟨gs,h1,h2⟩:=h;refine⟨gs,h1.kept k hb,fun i hi s hs=>?_⟩;obtain⟨h3,h4⟩:=h2 i hi s hs;refine⟨h3,h4.kept k fun a _ ha=>?_⟩;cases ha;obtain⟨g,o,e1,e2,_⟩:=h4 zO;cases e1;exact hz _ h3.1 h3.2 e2
theorem old(h:SlotsAt w sb n z av S)(k:Old w w'):SlotsAt w' sb n z av S:=h.kept k h.lt fun _ _ _ h=>h
theorem cells(h:SlotsAt w sb n z av S){i:Nat}(hi:i<n):∃g,w.cell? ⟨sb,i*3,none⟩=some (bZ (S i) g 0)/\w.cell? ⟨sb,i*3+1,none⟩=some (bZ (S i) g 1)/\w.cell? ⟨sb,i*3+2,none⟩=some (bZ (S i) g 2) /\
  w.frozen? ⟨sb,i*3,none⟩=false/\w.frozen? ⟨sb,i*3+1,none⟩=false/\w.frozen? ⟨sb,i*3+2,none⟩=false/\∀s,S i=some s->z<=g/\g<w.heap.size/\SlU w (some ⟨g,0,none⟩) 64 s.G:=by
 obtain⟨gs,h1,h2⟩:=h;refine⟨gs i,?_,?_,?_,h1.frz _ zO,h1.frz _ zO,h1.frz _ zO,fun s hs=>?_⟩
 ·rw[h1.cell (i*3) zO];unfold slV;rw[show i*3/3=i by omega,show i*3%3=0 by omega]
 ·rw[h1.cell (i*3+1) zO];unfold slV;rw[show (i*3+1)/3=i by omega,show (i*3+1)%3=1 by omega]
 ·rw[h1.cell (i*3+2) zO];unfold slV;rw[show (i*3+2)/3=i by omega,show (i*3+2)%3=2 by omega]
 ·obtain⟨h3,h4⟩:=h2 i hi s hs;obtain⟨g,o,e1,e2,_⟩:=h4 zO;cases e1;exact⟨h3.1,e2,h4⟩
theorem mark(h:SlotsAt w sb n z av S){i:Nat}(hi:i<n){s:gE}(hs:S i=some s)(hz:sb<z)(b:Bool):SlotsAt (w.setCell ⟨sb,i*3+2,none⟩ (.bool b)) sb n z av (kU S i b):=by
 obtain⟨gs,h1,h2⟩:=h;have hk:Kept (fun q=>q≠sb) w (w.setCell ⟨sb,i*3+2,none⟩ (.bool b)):=Kept.setCell w (a:=⟨sb,i*3+2,none⟩) (fun e=>e rfl) _;refine⟨gs,⟨by have:=h1.lt;simpa[World.setCell]using this,fun j hj=>?_,fun j hj=>by rw[World.frozen?_setCell];exact h1.frz j hj⟩,fun j hj t ht=>?_⟩
 ·by_cases e:j=i*3+2
  ·subst e;rw[World.cell?_setCell_same _ _ _ (h1.cell _ hj)];unfold slV;rw[show (i*3+2)/3=i by omega,show (i*3+2)%3=2 by omega];unfold kU cJ;rw[if_pos rfl,hs];rfl
  ·rw[World.cell?_setCell_other _ _ _ _ (fun e'=>e (by injection e' with _ e2;exact e2.symm)),h1.cell j hj];unfold slV kU cJ;by_cases e2:j/3=i
   ·rw[if_pos e2,e2,hs];have h3:j%3=0\/j%3=1:=zO;rcases h3 with h3 | h3 <;> rw[h3] <;> rfl
   ·rw[if_neg e2]
 ·obtain⟨u,hu,e1,e2⟩:=AL S i b j t ht;obtain⟨h3,h4⟩:=h2 j hj u hu;refine⟨h3,?_⟩;rw[e1];exact h4.kept hk fun a _ ha=>by cases ha;show gs j≠sb;omega
theorem setS(h:SlotsAt w sb n z av S){i:Nat}(hi:i<n)(hz:sb<z)(s:Option gE)(g:Nat)(hg:∀t,s=some t->(z<=g/\g≠av)/\SlU w (some ⟨g,0,none⟩) 64 t.G):
  SlotsAt (w.setCells sb (i*3) [bZ s g 0,bZ s g 1,bZ s g 2]) sb n z av (cJ S i s):=by
 obtain⟨gs,h1,h2⟩:=h;have e0:[bZ s g 0,bZ s g 1,bZ s g 2]=(aA 3 (bZ s g)).toList:=rfl;rw[e0];have hk:Kept (fun q=>q≠sb) w (w.setCells sb (i*3) (aA 3 (bZ s g)).toList):=Kept.setCells _ (fun e=>e rfl) _ _;refine⟨fun j=>if j=i then g else gs j,CellsV.ext (h1.setCells (i*3) 3 zO (bZ s g)) fun j hj=>?_,fun j hj t ht=>?_⟩
 ·unfold jC slV cJ;by_cases e:j/3=i
  ·rw[if_pos (show i*3<=j/\j<i*3+3 by omega)];simp only[if_pos e];rw[show j-i*3=j%3 by omega]
  ·rw[if_neg (show ¬(i*3<=j/\j<i*3+3) by omega)];simp only[if_neg e]
 ·unfold cJ at ht;by_cases e:j=i
  ·rw[if_pos e]at ht;simp only[if_pos e];obtain⟨h3,h4⟩:=hg t ht;exact⟨h3,h4.kept hk fun a _ ha=>by cases ha;show g≠sb;omega⟩
  ·rw[if_neg e]at ht;simp only[if_neg e];obtain⟨h3,h4⟩:=h2 j hj t ht;exact⟨h3,h4.kept hk fun a _ ha=>by cases ha;show gs j≠sb;omega⟩
theorem reav(h:SlotsAt w sb n z av S){q:Nat}(hq:w.heap.size<=q\/q<z):SlotsAt w sb n z q S:=by
 obtain⟨gs,h1,h2⟩:=h;refine⟨gs,h1,fun i hi s hs=>?_⟩;obtain⟨h3,h4⟩:=h2 i hi s hs;obtain⟨g,o,e1,e2,_⟩:=h4 zO;cases e1;exact⟨⟨h3.1,zO⟩,h4⟩
end SlotsAt
structure CcAt(w:World)(z0 z av b sb hm db N:Nat)(c:dE):Prop where
 blk:w.heap[b]?=some (.cells #[vI iJ c.h,vI iJ c.m,vI iJ c.t,vI iJ c.l,.pointer (some ⟨db,0,none⟩),vI iJ (c.rt:Int),.slice (some ⟨sb,0,none⟩) c.n c.n,.map (some hm),vI iJ (c.hand:Int)] 156 (0,0))
 num:0<c.n/\c.n<=1024/\c.rt<=8/\c.hand<c.n/\N<=65536
 slots:SlotsAt w sb c.n z av c.S
 map:HldAt w hm N (fun k=>kI c.S k c.n)
 pgs:∀i,i<c.n->∀s,c.S i=some s->s.p<N
 uq:qD c.n c.S
 rng:(z0<=b/\b<z)/\(z0<=sb/\sb<z)/\(z0<=hm/\hm<z)/\b≠sb/\b≠hm/\sb≠hm
namespace CcAt
variable {w w':World} {z0 z av b sb hm db N:Nat} {c:dE}
theorem ltb(h:CcAt w z0 z av b sb hm db N c):b<w.heap.size:=lt_of_block h.blk
theorem kept{X:Nat->Prop}(h:CcAt w z0 z av b sb hm db N c)(k:Kept X w w')(hb:X b)(hs:X sb)(hh:X hm)(hz:∀g,z<=g->g≠av->g<w.heap.size->X g):CcAt w' z0 z av b sb hm db N c:=
 ⟨(k.block b hb).trans h.blk,h.num,h.slots.kept k hs hz,h.map.kept k hh,h.pgs,h.uq,h.rng⟩
theorem old(h:CcAt w z0 z av b sb hm db N c)(k:Old w w'):CcAt w' z0 z av b sb hm db N c:=h.kept k h.ltb h.slots.lt h.map.lt fun _ _ _ h=>h
theorem cells(h:CcAt w z0 z av b sb hm db N c):w.cell? ⟨b,0,none⟩=some (vI iJ c.h)/\w.cell? ⟨b,1,none⟩=some (vI iJ c.m)/\w.cell? ⟨b,2,none⟩=some (vI iJ c.t)/\w.cell? ⟨b,3,none⟩=some (vI iJ c.l) /\
  w.cell? ⟨b,4,none⟩=some (.pointer (some ⟨db,0,none⟩))/\w.cell? ⟨b,5,none⟩=some (vI iJ (c.rt:Int))/\w.cell? ⟨b,6,none⟩=some (.slice (some ⟨sb,0,none⟩) c.n c.n)/\w.cell? ⟨b,7,none⟩=some (.map (some hm))/\w.cell? ⟨b,8,none⟩=some (vI iJ (c.hand:Int)):=by
 have:=h.blk;simp[World.cell?,this]
theorem frz(h:CcAt w z0 z av b sb hm db N c)(o:Nat):w.frozen? ⟨b,o,none⟩=false:=by
 have:=h.blk;simp[World.frozen?,this]
theorem reav(h:CcAt w z0 z av b sb hm db N c){q:Nat}(hq:w.heap.size<=q\/q<z):CcAt w z0 z q b sb hm db N c:=⟨h.blk,h.num,h.slots.reav hq,h.map,h.pgs,h.uq,h.rng⟩
end CcAt
theorem vZ(b db:Nat)(w:World)(hc:w.cell? ⟨b,4,none⟩=some (.pointer (some ⟨db,0,none⟩))):Calls zP 79 #[.pointer (some ⟨b,0,none⟩)] w fun e w'=>e=rJ (.bool true)/\w=w':=by
 go_enter func79,ntmps79;go_wp2;go_ret;exact⟨rfl,rfl⟩
theorem aCG(db:Nat)(n rt:Int)(w:World)(h:n<1\/1024<n\/rt<0\/8<rt):Calls zP 27 #[.pointer (some ⟨db,0,none⟩),vI iJ n,vI iJ rt] w fun e w'=>e=rJ (.tuple #[.pointer none,vI iJ 1])/\w=w':=by
 by_cases h0:n<1
 ·clear h;go_enter func27,ntmps27;go_wp2
  go_ret2
  exact⟨rfl,rfl⟩
 ·by_cases h1:1024<n
  ·clear h;go_enter func27,ntmps27;go_wp2
   go_ret2
   exact⟨rfl,rfl⟩
  ·by_cases h2:rt<0
   ·clear h;go_enter func27,ntmps27;go_wp2
    go_ret2
    exact⟨rfl,rfl⟩
   ·have h3:8<rt:=zO;clear h;go_enter func27,ntmps27;go_wp2
    go_ret2
    exact⟨rfl,rfl⟩
def cc0(n rt:Nat):dE:=⟨n,rt,0,0,0,0,0,fun _=>none⟩
theorem aDx(gs:Nat->Nat)(j:Nat):slV (fun _=>none) gs j=bZ none 0 (j%3):=by
 unfold slV;have h3:j%3=0\/j%3=1\/j%3=2:=zO;rcases h3 with h3 | h3 | h3 <;> rw[h3] <;> rfl
def zSl:Array Value:=#[vI iJ 0,.slice none 0 0,.bool false]
theorem RP(n:Nat):madeCells zSl (3*n)=aA (3*n) (slV (fun _=>none) fun _=>0):=by
 apply Array.ext_getElem?;intro i;have hz:zSl.size=3:=rfl;by_cases hi:i<3*n
 ·rw[bI (3*n) _ i hi,aDx];have h3:i%3=0\/i%3=1\/i%3=2:=zO;rcases h3 with h3 | h3 | h3 <;> simp[madeCells,hi,hz,h3] <;> rfl
 ·rw[Array.getElem?_eq_none (by rw[size_madeCells];omega),Array.getElem?_eq_none (by rw[aB];omega)]
theorem Tryz.info_slot:(zP.info? 346).map (fun i=>(i.zero,i.size,i.bytes))=some (some (.agg zSl),3,40):=zK
theorem TQ(n:Nat)(hn:n<=1024)(w:World):(Instr.makeSlice 151 (vI iJ n) (vI iJ n)).run zP w=.ok (.slice (some ⟨w.heap.size,0,none⟩) n n) (w.alloc (.cells (aA (3*n) (slV (fun _=>none) fun _=>0)) 346)):=by
 obtain⟨i,hi,hz0,hz1,hz2⟩:=info_parts Tryz.info_slot;rw[run_make w _ _ i _ underlying151 hi hz0 .i64 .i64 n n zO zO (by rw[hz2];omega) zO,Int.toNat_natCast];rw[hz1,show (Value.agg zSl).cells=zSl from rfl,Nat.mul_comm n 3,<-RP]
theorem aFQ(db n rt N:Nat)(w:World)(h1:1<=n)(h2:n<=1024)(h3:rt<=8)(hN:N<=65536):Calls zP 27 #[.pointer (some ⟨db,0,none⟩),vI iJ (n:Int),vI iJ (rt:Int)] w fun e w'=>
  e=rJ (.tuple #[.pointer (some ⟨w.heap.size+2,0,none⟩),vI iJ 0])/\w'.heap.size=w.heap.size+3/\CcAt w' w.heap.size (w.heap.size+3) (w.heap.size+2) (w.heap.size+2) w.heap.size (w.heap.size+1) db N (cc0 n rt)/\Old w w':=by
 have hM:=TQ n h2 w;have hmm:=@run_makeMap zP;obtain⟨W1,hW1⟩:=zG (w.alloc (.cells (aA (3*n) (slV (fun _=>none) fun _=>0)) 346));rw[<-hW1]at hM;have hS1:W1.heap.size=w.heap.size+1:=by rw[hW1];simp
 have HE:Hid (((W1.alloc (.map #[] 0)).alloc (.cells #[vI iJ 0,vI iJ 0,vI iJ 0,vI iJ 0,.pointer (some ⟨db,0,none⟩),vI iJ (rt:Int),.slice (some ⟨w.heap.size,0,none⟩) n n,.map (some (w.heap.size+1)),vI iJ 0] 156)).heap.size=w.heap.size+3 /\
   CcAt ((W1.alloc (.map #[] 0)).alloc (.cells #[vI iJ 0,vI iJ 0,vI iJ 0,vI iJ 0,.pointer (some ⟨db,0,none⟩),vI iJ (rt:Int),.slice (some ⟨w.heap.size,0,none⟩) n n,.map (some (w.heap.size+1)),vI iJ 0] 156)) w.heap.size (w.heap.size+3) (w.heap.size+2) (w.heap.size+2) w.heap.size (w.heap.size+1) db N (cc0 n rt) /\
   Old w ((W1.alloc (.map #[] 0)).alloc (.cells #[vI iJ 0,vI iJ 0,vI iJ 0,vI iJ 0,.pointer (some ⟨db,0,none⟩),vI iJ (rt:Int),.slice (some ⟨w.heap.size,0,none⟩) n n,.map (some (w.heap.size+1)),vI iJ 0] 156))):=by
  have hs2:(W1.alloc (.map #[] 0)).heap.size=w.heap.size+2:=by simp[hS1]
  have o0:Old w W1:=by rw[hW1];exact Old.alloc _ _
  have o1:=Old.alloc W1 (.map #[] 0);have o2:=Old.alloc (W1.alloc (.map #[] 0)) (.cells #[vI iJ 0,vI iJ 0,vI iJ 0,vI iJ 0,.pointer (some ⟨db,0,none⟩),vI iJ (rt:Int),.slice (some ⟨w.heap.size,0,none⟩) n n,.map (some (w.heap.size+1)),vI iJ 0] 156);have hb:=heap_alloc_new (W1.alloc (.map #[] 0)) (.cells #[vI iJ 0,vI iJ 0,vI iJ 0,vI iJ 0,.pointer (some ⟨db,0,none⟩),vI iJ (rt:Int),.slice (some ⟨w.heap.size,0,none⟩) n n,.map (some (w.heap.size+1)),vI iJ 0] 156);rw[hs2]at hb;have hsl:CellsV W1 w.heap.size (3*n) (slV (fun _=>none) fun _=>0):=by rw[hW1];exact kW (heap_alloc_new _ _)
  refine⟨by simp[hS1],⟨?_,⟨h1,h2,h3,h1,hN⟩,⟨fun _=>0,(hsl.old o1).old o2,fun i _ s hs=>by cases hs⟩,?_,fun i _ s hs=>(by(have h0:(none:Option gE)=some s:=hs);cases h0),fun i j s t _ _ hs=>(by(have h0:(none:Option gE)=some s:=hs);cases h0),zO⟩,(o0.trans o1).trans o2⟩
  ·exact hb
  ·have hm:=((aCu W1 N).old o2).ext (G:=fun k=>kI (cc0 n rt).S k (cc0 n rt).n) fun k _=>by
    show none=kI (fun _=>none) k n;cases hf:kI (fun _=>none) k n with
    | none=>rfl
    | some i=>have:=(jU hf).2;unfold XY at this;cases this
   rw[hS1]at hm;exact hm
 clear hW1;go_enter func27,ntmps27
 go_wp2_with fail
 go_ret2
 exact⟨rfl,HE.o⟩
theorem CcAt.next{w:World}{z0 z av b sb hm db N:Nat}{c:dE}(h:CcAt w z0 z av b sb hm db N c):CcAt (w.setCell ⟨b,8,none⟩ (vI iJ (((c.hand+1)%c.n:Nat):Int))) z0 z av b sb hm db N c.next:=by
 have k:Kept (fun j=>j≠b) w (w.setCell ⟨b,8,none⟩ (vI iJ (((c.hand+1)%c.n:Nat):Int))):=Kept.setCell w (a:=⟨b,8,none⟩) (fun e=>e rfl) _;have hr:=h.rng;exact⟨(aW h.blk).trans rfl,⟨h.num.1,h.num.2.1,h.num.2.2.1,Nat.mod_lt _ h.num.1,h.num.2.2.2.2⟩,h.slots.kept k zO fun g hg _ _=>zO,h.map.kept k zO,h.pgs,h.uq,hr⟩
theorem CcAt.markd{w:World}{z0 z av b sb hm db N:Nat}{c:dE}(h:CcAt w z0 z av b sb hm db N c){i:Nat}(hi:i<c.n){s:gE}(hs:c.S i=some s)(m:Bool):CcAt (w.setCell ⟨sb,i*3+2,none⟩ (.bool m)) z0 z av b sb hm db N { c with S:=kU c.S i m }:=by
 have hr:=h.rng;have k:Kept (fun j=>j≠sb) w (w.setCell ⟨sb,i*3+2,none⟩ (.bool m)):=Kept.setCell w (a:=⟨sb,i*3+2,none⟩) (fun e=>e rfl) _;refine⟨(k.block b zO).trans h.blk,h.num,h.slots.mark hi hs zO m,(h.map.kept k zO).ext fun k _=>(aBG h.uq i m k).symm,fun j hj t ht=>?_,FI h.uq i m,hr⟩;obtain⟨u,hu,_,e2⟩:=AL c.S i m j t ht;rw[e2];exact h.pgs j hj u hu
theorem aEb{S:Nat->Option gE}{i:Nat}(h:IL S i=true):∃s,S i=some s/\s.m=true:=by
 unfold IL at h;cases hs:S i with
 | none=>rw[hs]at h;cases h
 | some s=>rw[hs]at h;exact⟨s,rfl,h⟩
theorem QM(S:Nat->Option gE)(i g:Nat):bZ (S i) g 2=.bool (IL S i):=by
 unfold IL;cases S i <;> rfl
structure ChR(w0:World)(z0 z av b sb hm db N:Nat)(c:dE)(g:Nat)(wr:World):Prop where
 ex:∃cur:dE,CK (IL cur.S) cur.n<=g/\chs g cur=c.choose/\CcAt wr z0 z av b sb hm db N cur
 kp:Kept (fun q=>q≠b/\q≠sb) w0 wr
theorem UP(z0 z av b sb hm db N:Nat)(c:dE)(w:World)(h:CcAt w z0 z av b sb hm db N c):Calls zP 267 #[.pointer (some ⟨b,0,none⟩)] w fun e w'=>
  e=rJ (vI iJ (c.choose.2:Int))/\CcAt w' z0 z av b sb hm db N c.choose.1/\Kept (fun q=>q≠b/\q≠sb) w w':=by
 have H0:Hid (ChR w z0 z av b sb hm db N c c.n w):=⟨⟨c,VY _ _,rfl,h⟩,Kept.refl _ _⟩
 obtain⟨cc,hcc⟩:=zG (c.choose);obtain⟨n0,hn0⟩:=zG (c.n);have HC:=zH hcc;rw[<-hcc];rw[<-hn0]at H0;clear h hcc hn0;go_enter func267,ntmps267
 go_wp2_with fail
 go_loopg [] n0 (fun g wr=>Hid (ChR w z0 z av b sb hm db N c g wr))
 case atStart=>exact H0
 case round=>
  obtain⟨cur,hcnt,hch,hat⟩:=hrel.o.ex;have HK:=zH hrel.o.kp;obtain⟨_,_,_,_,c4,_,c6,_,c8⟩:=hat.cells;have f8:=hat.frz 8;obtain⟨hn1,hn2,_,hh,_⟩:=hat.num;have hr:=hat.rng;obtain⟨n,hn⟩:=zG (cur.n);obtain⟨hd,hhd⟩:=zG (cur.hand);obtain⟨nx,hnx⟩:=zG ((hd+1)%n);rw[<-hn]at c6 hn1 hn2 hh;rw[<-hhd]at c8 hh;have hnxn:nx<n:=by rw[hnx];exact Nat.mod_lt _ hn1
  have t1:wrap64 (((hd:Int)+1).tmod (n:Int))=nx:=by
   rw[Int.tmod_eq_emod_of_nonneg zO,hnx];have:(((hd+1)%n:Nat):Int)=((hd:Int)+1)%(n:Int):=by rw[Int.natCast_emod];rfl
   have h5:(hd+1)%n<n:=Nat.mod_lt _ hn1;rw[<-this,IntWalk.wrap64_in _ zO]
  have t2:((hd:Int)+1)%(n:Int)=nx:=by rw[hnx,Int.natCast_emod];rfl
  have hat2:CcAt ((wr.setCell ⟨b,8,none⟩ (vI iJ (nx:Int))).drew) z0 z av b sb hm db N cur.next:=by rw[hnx,hn,hhd];exact hat.next.old (Old.refl _).drew
  have hK2:Kept (fun q=>q≠b/\q≠sb) w ((wr.setCell ⟨b,8,none⟩ (vI iJ (nx:Int))).drew):=(HK.o.trans (Kept.setCell _ (a:=⟨b,8,none⟩) (fun e=>e.1 rfl) _)).drew;obtain⟨_,_,_,_,_,_,d6,_,_⟩:=hat2.cells;obtain⟨g,_,_,g2,_,_,k2,_⟩:=hat2.slots.cells (i:=hd) (by rw[hhd];exact hat.num.2.2.2.1);rw[QM]at g2;obtain⟨mk,hmk⟩:=zG (IL cur.S hd);rw[show cur.next.S=cur.S from rfl,<-hmk]at g2;rw[show cur.next.n=cur.n from rfl,<-hn]at d6;have HD:=zH (And.intro hcnt (And.intro hch (And.intro hn (And.intro hhd (And.intro hmk (And.intro hat2 hK2))))));clear hrel H0 hat hat2 hK2 hcnt hch hn hhd hnx hr hmk;have hz0:¬n=0:=zO;have tw0:IntKind.i64.wrap ((hd:Int)+1)=(hd:Int)+1:=IntWalk.i64_in _ zO;have tw1:((hd:Int)+1).tmod (n:Int)=nx:=by rw[Int.tmod_eq_emod_of_nonneg zO];exact t2
  have tw2:IntKind.i64.wrap (nx:Int)=nx:=IntWalk.i64_in _ zO
  go_wp2_with fail
  refine wp_region_still_tail 14 zK zK ?_;simp only[List.take_succ_cons,List.take_zero,List.drop_succ_cons,List.drop_zero]
  iterate 14 (with_reducible refine wpStill_step (fun K hK=>?_);go_simp;with_reducible refine hK _ ?_;clear hK K)
  with_reducible refine wpStill_nil ?_
  change wpList _ _ _ _ _ (World.drew _);cases mk with
  | false=>
   have HF:Hid (cc=(cur.next,hd)):=by
    obtain⟨_,e2,_,e4,e5,_,_⟩:=HD.o;rw[HC.o,<-e2,aHu (by rw[<-e4];exact e5.symm),e4];exact zH rfl
   go_wp2_with fail
   rw[HF.o];go_ret;exact⟨rfl,HD.o.2.2.2.2.2⟩
  | true=>
   have HF:Hid (∃k,k<gk/\ChR w z0 z av b sb hm db N c k (((wr.setCell ⟨b,8,none⟩ (vI iJ (nx:Int))).drew).setCell ⟨sb,hd*3+2,none⟩ (.bool false))):=by
    obtain⟨e1,e2,e3,e4,e5,e6,e7⟩:=HD.o;have hm:IL cur.S cur.hand=true:=by rw[<-e4];exact e5.symm
    have hlt:cur.hand<cur.n:=by rw[<-e4,<-e3];exact hh
    obtain⟨s,hs,_⟩:=aEb hm;have hc1:=IA (f:=IL cur.S) (g:=IL (kU cur.S cur.hand false)) hlt hm (yR _ _) fun j hj=>aCU _ _ _ j hj;obtain⟨g',rfl⟩:∃g',gk=g'+1:=⟨gk-1,zO⟩
    refine⟨g',zO,⟨⟨cur.by_,?_,?_,?_⟩,e7.trans (Kept.setCell _ (a:=⟨sb,hd*3+2,none⟩) (fun e=>e.2 rfl) _)⟩⟩
    ·show CK (IL (kU cur.S cur.hand false)) cur.n<=g';omega
    ·rw[<-e2,aFP hm]
    ·rw[e4];exact e6.markd hlt hs false
   go_wp2_with fail
   obtain⟨k,hk,hF⟩:=HF.o
   go_roundg k
   case measure=>exact hk
   case rel=>exact hF
theorem CcAt.stat{w:World}{z0 z av b sb hm db N:Nat}{c:dE}(h:CcAt w z0 z av b sb hm db N c)(o:Nat)(v:Value)(h' m' t' l':Int)
  (e:(#[vI iJ c.h,vI iJ c.m,vI iJ c.t,vI iJ c.l,.pointer (some ⟨db,0,none⟩),vI iJ (c.rt:Int),.slice (some ⟨sb,0,none⟩) c.n c.n,.map (some hm),vI iJ (c.hand:Int)]:Array Value).setIfInBounds o v =
   #[vI iJ h',vI iJ m',vI iJ t',vI iJ l',.pointer (some ⟨db,0,none⟩),vI iJ (c.rt:Int),.slice (some ⟨sb,0,none⟩) c.n c.n,.map (some hm),vI iJ (c.hand:Int)]):
  CcAt (w.setCell ⟨b,o,none⟩ v) z0 z av b sb hm db N { c with h:=h',m:=m',t:=t',l:=l' }:=by
 have k:Kept (fun j=>j≠b) w (w.setCell ⟨b,o,none⟩ v):=Kept.setCell w (a:=⟨b,o,none⟩) (fun e=>e rfl) _;have hr:=h.rng;exact⟨by rw[aW h.blk,e],h.num,h.slots.kept k zO fun g hg _ _=>zO,h.map.kept k zO,h.pgs,h.uq,hr⟩
structure CkAt(w:World)(z0 z av b sb hm db dm:Nat)(p:Option Addr)(cd N:Nat)(c:dE)(d:eF):Prop where
 cc:CcAt w z0 z av b sb hm db N c
 dk:DkAt w db dm p cd d
 nN:d.N=N
 lo:db<z0/\dm<z0/\∀a,0<N->p=some a->a.block<z0
 hi:z<=w.heap.size
def ND(w:World)(b sb hm db dm:Nat):Nat->Prop:=fun q=>q<w.heap.size/\q≠b/\q≠sb/\q≠hm/\q≠db/\q≠dm
namespace CkAt
variable {w w':World} {z0 z av b sb hm db dm cd N:Nat} {p:Option Addr} {c:dE} {d:eF}
theorem kept{X:Nat->Prop}(h:CkAt w z0 z av b sb hm db dm p cd N c d)(k:Kept X w w')(hX:∀q,q<w.heap.size->q=b\/q=sb\/q=hm\/q=db\/q=dm\/q<z0\/(z<=q/\q≠av)->X q):CkAt w' z0 z av b sb hm db dm p cd N c d:=by
 refine⟨h.cc.kept k (hX _ h.cc.ltb zS) (hX _ h.cc.slots.lt zS) (hX _ h.cc.map.lt zS) fun g h1 h1' h2=>hX g h2 (by simp[h1,h1']),h.dk.kept k (hX _ h.dk.ltb zS) (hX _ h.dk.map.lt zS) fun a hn ha=>hX _ (h.dk.plt a hn ha) ?_,h.nN,h.lo,Nat.le_trans h.hi k.size⟩;have:=h.lo.2.2 a (by rw[<-h.nN];exact hn) ha;simp[this]
theorem old(h:CkAt w z0 z av b sb hm db dm p cd N c d)(k:Old w w'):CkAt w' z0 z av b sb hm db dm p cd N c d:=h.kept k fun _ hq _=>hq
theorem stat(h:CkAt w z0 z av b sb hm db dm p cd N c d)(o:Nat)(v:Value)(h' m' t' l':Int)
  (e:(#[vI iJ c.h,vI iJ c.m,vI iJ c.t,vI iJ c.l,.pointer (some ⟨db,0,none⟩),vI iJ (c.rt:Int),.slice (some ⟨sb,0,none⟩) c.n c.n,.map (some hm),vI iJ (c.hand:Int)]:Array Value).setIfInBounds o v =
   #[vI iJ h',vI iJ m',vI iJ t',vI iJ l',.pointer (some ⟨db,0,none⟩),vI iJ (c.rt:Int),.slice (some ⟨sb,0,none⟩) c.n c.n,.map (some hm),vI iJ (c.hand:Int)]):
  CkAt (w.setCell ⟨b,o,none⟩ v) z0 z av b sb hm db dm p cd N { c with h:=h',m:=m',t:=t',l:=l' } d:=by
 have k:Kept (fun j=>j≠b) w (w.setCell ⟨b,o,none⟩ v):=Kept.setCell w (a:=⟨b,o,none⟩) (fun e=>e rfl) _;have hr:=h.cc.rng;have hl:=h.lo;exact⟨h.cc.stat o v h' m' t' l' e,h.dk.kept k zO zO (fun a hn ha=>by have:=hl.2.2 a (by rw[<-h.nN];exact hn) ha;omega),h.nN,hl,Nat.le_trans h.hi k.size⟩
theorem disk(h:CkAt w z0 z av b sb hm db dm p cd N c d){d':eF}(k:Kept (EK w db dm) w w')(hd:DkAt w' db dm p cd d')(hN:d'.N=N):CkAt w' z0 z av b sb hm db dm p cd N c d':=by
 have hr:=h.cc.rng;have hl:=h.lo;exact⟨h.cc.kept k ⟨h.cc.ltb,zO,zO⟩ ⟨h.cc.slots.lt,zO,zO⟩ ⟨h.cc.map.lt,zO,zO⟩ fun g h1 _ h2=>⟨h2,zO,zO⟩,hd,hN,hl,Nat.le_trans h.hi k.size⟩
theorem reav(h:CkAt w z0 z av b sb hm db dm p cd N c d){q:Nat}(hq:w.heap.size<=q\/q<z):CkAt w z0 z q b sb hm db dm p cd N c d:=⟨h.cc.reav hq,h.dk,h.nN,h.lo,h.hi⟩
end CkAt
theorem aIx(d:eF)(k:Nat):(d.bad k).N=d.N:=by
 unfold eF.bad eF.failK;split <;> rfl
theorem LE{k:Nat}{d:eF}(h:(d.F k).f≠0)(j:Nat)(t:Int):mH k (j+1) d t=mH k j (d.bad k) (wrap64 (t+1)):=by
 show (if (d.F k).f≠0 then _ else _)=_;rw[if_pos h]
theorem JQ{k:Nat}{d:eF}(h:(d.F k).f=0)(j:Nat)(t:Int):mH k (j+1) d t=(some (oJ d k),d.more,wrap64 (t+1)):=by
 show (if (d.F k).f≠0 then _ else _)=_;rw[if_neg (by rw[h];simp)]
def JK(w w':World)(r:Option (nI))(e:Ending):Prop:=
 match r with
 | none=>e=rJ (.tuple #[.slice none 0 0,vI iJ 8])
 | some G=>∃g,e=rJ (.tuple #[.slice (some ⟨g,0,none⟩) 64 64,vI iJ 0])/\w.heap.size<=g/\UAt w' g 64 G
def XL(w:World)(b db dm:Nat):Nat->Prop:=fun q=>q<w.heap.size/\q≠b/\q≠db/\q≠dm
theorem GV{w wr w1 w2:World}{b db dm:Nat}(h:Kept (XL w b db dm) w wr)(h1:Kept (fun q=>q≠b) wr w1)(h2:Kept (EK w1 db dm) w1 w2):Kept (XL w b db dm) w w2:=
 (h.trans (h1.mono fun q hq=>hq.2.1)).trans (h2.mono fun q hq=>⟨Nat.lt_of_lt_of_le hq.1 (Nat.le_trans h.size h1.size),hq.2.2.1,hq.2.2.2⟩)
def aIy:Nat->Value
 | 0=>vI iJ 0
 | _+1=>vI iJ 8
structure RdR(w:World)(z0 z av b sb hm db dm:Nat)(p:Option Addr)(cd N k:Nat)(c:dE)(d:eF)(i:Nat)(wr:World):Prop where
 ex:∃d' t',mH k (c.rt+1) d c.t=mH k (c.rt+1-i) d' t'/\CkAt wr z0 z av b sb hm db dm p cd N (c.tried t') d'
 kp:Kept (XL w b db dm) w wr
theorem ZU(z0 z av b sb hm db dm:Nat)(p:Option Addr)(cd N k:Nat)(c:dE)(d:eF)(w:World)(h:CkAt w z0 z av b sb hm db dm p cd N c d)(hk:k<N):Calls zP 253 #[.pointer (some ⟨b,0,none⟩),vI iJ (k:Int)] w fun e w'=>
  JK w w' (mH k (c.rt+1) d c.t).1 e/\CkAt w' z0 z av b sb hm db dm p cd N (c.tried (mH k (c.rt+1) d c.t).2.2) (mH k (c.rt+1) d c.t).2.1/\Kept (XL w b db dm) w w':=by
 obtain⟨R,hR⟩:=zG (mH k (c.rt+1) d c.t);have H0:Hid (RdR w z0 z av b sb hm db dm p cd N k c d 0 w):=⟨⟨d,c.t,rfl,h⟩,Kept.refl _ _⟩
 have HR:=zH hR;have HK:=zH hk;obtain⟨_,_,_,_,_,c5,_,_,_⟩:=h.cc.cells;have hrt:=h.cc.num.2.2.1;obtain⟨rt,hrt2⟩:=zG (c.rt);have HT:=zH hrt2;rw[<-hrt2]at c5 hrt;have t0:wrap64 (1+(rt:Int))=((rt+1:Nat):Int):=by rw[IntWalk.wrap64_in _ zO];omega
 obtain⟨m,hm2⟩:=zG (rt+1);have HM:=zH hm2;rw[<-hm2]at t0;have hm9:m<=9:=zO;have hm1:1<=m:=zO;rw[<-hR];clear h hR hk hrt2 hm2 hrt;go_enter func253,ntmps253
 go_wp2_with fail
 rw[t0];clear t0 c5
 go_loopw [4,5,11] (fun s4 s5 s11 wr=>∃i:Nat,i<=m/\s4=.slice none 0 0/\s5=aIy i/\s11=vI iJ i/\Hid (RdR w z0 z av b sb hm db dm p cd N k c d i wr)) (fun _ _ s11 _=>m-(intOf s11).toNat)
 case atStart=>exact⟨0,zO,rfl,rfl,rfl,H0⟩
 case round=>
  obtain⟨i,hi,rfl,rfl,rfl,HI⟩:=hrel;clear H0;by_cases hlt:i<m
  ·obtain⟨d',t',htr,hat⟩:=HI.o.ex;obtain⟨_,_,c2,_,_,_,_,_,_⟩:=hat.cc.cells;have f2:=hat.cc.frz 2;obtain⟨t1,ht1⟩:=zG (wrap64 (t'+1));have e1:wrap64 (t'+1)=t1:=ht1.symm;have hat1:=hat.stat 2 (vI iJ t1) c.h c.m t1 c.l rfl;obtain⟨_,_,_,_,c4',_,_,_,_⟩:=hat1.cc.cells;have hkd:k<d'.N:=by rw[hat.nN];exact HK.o
   have hK1:Kept (fun q=>q≠b) wr (wr.setCell ⟨b,2,none⟩ (vI iJ t1)):=Kept.setCell _ (a:=⟨b,2,none⟩) (fun e=>e rfl) _;have c2':wr.cell? ⟨b,2,none⟩=some (vI iJ t'):=c2;have hstep:mH k (c.rt+1-i) d' t'=mH k (c.rt+1-(i+1)+1) d' t':=by
    have:=HM.o;have:=HT.o;rw[show c.rt+1-i=c.rt+1-(i+1)+1 by omega]
   by_cases hf:(d'.F k).f=0
   ·have HC:=zH (aFC db dm p cd d' k _ hat1.dk hkd hf)
    have HE:Hid (∀g w2,(wr.setCell ⟨b,2,none⟩ (vI iJ t1)).heap.size<=g->UAt w2 g 64 (oJ d' k)->DkAt w2 db dm p cd d'.more->Kept (EK (wr.setCell ⟨b,2,none⟩ (vI iJ t1)) db dm) (wr.setCell ⟨b,2,none⟩ (vI iJ t1)) w2 ->
      JK w w2 R.1 (rJ (.tuple #[.slice (some ⟨g,0,none⟩) 64 64,vI iJ 0]))/\CkAt w2 z0 z av b sb hm db dm p cd N (c.tried R.2.2) R.2.1/\Kept (XL w b db dm) w w2):=by
     intro g w2 hg hu hd hkk;have hRe:R=(some (oJ d' k),d'.more,t1):=by rw[HR.o,htr,hstep,JQ hf,e1]
     rw[hRe];exact⟨⟨g,rfl,Nat.le_trans (Nat.le_trans HI.o.kp.size hK1.size) hg,hu⟩,hat1.disk hkk hd hat.nN,GV HI.o.kp hK1 hkk⟩
    clear hat hat1 htr hstep hkd ht1 hf c2 hK1 HI
    go_wp2_with fail
    refine HC.o.mono ?_;rintro e w2 ⟨g,rfl,hg,hu,hd,hkk⟩;have HZ:=zH (HE.o g w2 hg hu hd hkk);clear HE hg hu hd hkk
    go_wp2_with fail
    go_ret2
    exact HZ.o
   ·have HC:=zH (aDT db dm p cd d' k _ hat1.dk hkd hf)
    have HE:Hid (∀w2,DkAt w2 db dm p cd (d'.bad k)->Kept (EK (wr.setCell ⟨b,2,none⟩ (vI iJ t1)) db dm) (wr.setCell ⟨b,2,none⟩ (vI iJ t1)) w2 ->
      RdR w z0 z av b sb hm db dm p cd N k c d (i+1) w2):=by
     intro w2 hd hkk;exact⟨⟨d'.bad k,t1,by rw[htr,hstep,LE hf,e1],hat1.disk hkk hd (by rw[aIx];exact hat.nN)⟩,GV HI.o.kp hK1 hkk⟩
    clear hat hat1 htr hstep hkd ht1 hf c2 hK1 HI
    go_wp2_with fail
    refine HC.o.mono ?_;rintro e w2 ⟨rfl,hd,hkk⟩;have HZ:=zH (HE.o w2 hd hkk);clear HE hd hkk
    go_wp2_with fail
    go_roundw
    case rel=>exact⟨i+1,zO,rfl,rfl,by go_num,HZ⟩
    case measure=>exact zM
  ·obtain rfl:i=m:=zO;obtain⟨i',rfl⟩:∃i',i=i'+1:=⟨i-1,zO⟩
   have h5:aIy (i'+1)=vI iJ 8:=rfl;rw[h5];have HE:Hid (JK w wr R.1 (rJ (.tuple #[.slice none 0 0,vI iJ 8]))/\CkAt wr z0 z av b sb hm db dm p cd N (c.tried R.2.2) R.2.1/\Kept (XL w b db dm) w wr):=by
    obtain⟨d',t',htr,hat⟩:=HI.o.ex;have hRe:R=(none,d',t'):=by
     rw[HR.o,htr,show c.rt+1-(i'+1)=0 by have:=HM.o;have:=HT.o;omega];rfl
    rw[hRe];exact⟨rfl,hat,HI.o.kp⟩
   clear HI HM
   go_wp2_with fail
   go_ret2
   exact HE.o
theorem FJ(s:Option gE)(g:Nat):(#[bZ s g 0,bZ s g 1,bZ s g 2]:Array Value).all (·.oneCell')=true:=by
 cases s <;> simp[bZ,Value.oneCell']
theorem BD{w:World}{sb n z av:Nat}{S:Nat->Option gE}(h:SlotsAt w sb n z av S){i:Nat}(hi:i<n):w.there sb (i*3) 3:=by
 obtain⟨gs,h1,_⟩:=h;exact h1.there (i*3) 3 zO
theorem aAy{S:Nat->Option gE}{i:Nat}(h:S i=none):cJ S i none=S:=by
 funext j;unfold cJ;split
 ·rename_i e;rw[e,h]
 ·rfl
theorem NB(S:Nat->Option gE)(i:Nat)(x y:Option gE):cJ (cJ S i x) i y=cJ S i y:=by
 funext j;unfold cJ;split <;> rfl
theorem WO(S:Nat->Option gE)(i:Nat)(x:Option gE):cJ S i x i=x:=by unfold cJ;rw[if_pos rfl]
structure rX(w:World)(z0 z av b sb hm db N:Nat)(c:dE)(i:Nat):Prop where
 blk:w.heap[b]?=some (.cells #[vI iJ c.h,vI iJ c.m,vI iJ c.t,vI iJ c.l,.pointer (some ⟨db,0,none⟩),vI iJ (c.rt:Int),.slice (some ⟨sb,0,none⟩) c.n c.n,.map (some hm),vI iJ (c.hand:Int)] 156 (0,0))
 num:0<c.n/\c.n<=1024/\c.rt<=8/\c.hand<c.n/\N<=65536
 slots:SlotsAt w sb c.n z av c.S
 map:HldAt w hm N (fun k=>kI (cJ c.S i none) k c.n)
 pgs:∀i,i<c.n->∀s,c.S i=some s->s.p<N
 uq:qD c.n c.S
 rng:(z0<=b/\b<z)/\(z0<=sb/\sb<z)/\(z0<=hm/\hm<z)/\b≠sb/\b≠hm/\sb≠hm
theorem CcAt.mid{w:World}{z0 z av b sb hm db N:Nat}{c:dE}(h:CcAt w z0 z av b sb hm db N c){i:Nat}(hi:c.S i=none):rX w z0 z av b sb hm db N c i:=
 ⟨h.blk,h.num,h.slots,by rw[aAy hi];exact h.map,h.pgs,h.uq,h.rng⟩
theorem CcAt.midD{w w':World}{z0 z av b sb hm db N:Nat}{c:dE}(h:CcAt w z0 z av b sb hm db N c){i:Nat}{s:gE}(hi:i<c.n)(hs:c.S i=some s)(k:Kept (fun j=>j<w.heap.size/\j≠hm) w w')(hm':HldAt w' hm N (xG (fun k=>kI c.S k c.n) s.p none)):rX w' z0 z av b sb hm db N c i:=by
 have hr:=h.rng;refine⟨(k.block b ⟨h.ltb,zO⟩).trans h.blk,h.num,h.slots.kept k ⟨h.slots.lt,zO⟩ fun g h1 _ h2=>⟨h2,zO⟩,hm'.ext fun q _=>?_,h.pgs,h.uq,h.rng⟩;unfold xG;rw[aGr h.uq hi hs]
theorem rX.old{w w':World}{z0 z av b sb hm db N:Nat}{c:dE}{i:Nat}(h:rX w z0 z av b sb hm db N c i)(k:Old w w'):rX w' z0 z av b sb hm db N c i:=
 ⟨(k.block b (lt_of_block h.blk)).trans h.blk,h.num,h.slots.old k,h.map.old k,h.pgs,h.uq,h.rng⟩
theorem rX.cells{w:World}{z0 z av b sb hm db N:Nat}{c:dE}{i:Nat}(h:rX w z0 z av b sb hm db N c i):w.cell? ⟨b,6,none⟩=some (.slice (some ⟨sb,0,none⟩) c.n c.n)/\w.cell? ⟨b,7,none⟩=some (.map (some hm)):=by
 have:=h.blk;simp[World.cell?,this]
theorem rX.lay{w:World}{z0 z av b sb hm db N:Nat}{c:dE}{i:Nat}(h:rX w z0 z av b sb hm db N c i)(hi:i<c.n)(s:Option gE)(g:Nat)(hs:∀t,s=some t->t.p<N/\kI c.S t.p c.n=none/\(z<=g/\g≠av)/\SlU w (some ⟨g,0,none⟩) 64 t.G):
  w.cell? ⟨b,7,none⟩=some (.map (some hm))/\(w.setCells sb (i*3) [bZ s g 0,bZ s g 1,bZ s g 2]).cell? ⟨b,7,none⟩=some (.map (some hm))/\HldAt (w.setCells sb (i*3) [bZ s g 0,bZ s g 1,bZ s g 2]) hm N (fun k=>kI (cJ c.S i none) k c.n) /\
  (s=none->CcAt (w.setCells sb (i*3) [bZ s g 0,bZ s g 1,bZ s g 2]) z0 z av b sb hm db N { c with S:=cJ c.S i none }) /\
  ∀t,s=some t->∀w',HldAt w' hm N (xG (fun k=>kI (cJ c.S i none) k c.n) t.p (some i))->Kept (fun j=>j<(w.setCells sb (i*3) [bZ s g 0,bZ s g 1,bZ s g 2]).heap.size/\j≠hm) (w.setCells sb (i*3) [bZ s g 0,bZ s g 1,bZ s g 2]) w'->CcAt w' z0 z av b sb hm db N { c with S:=cJ c.S i (some t) }:=by
 have hr:=h.rng;have hk:Kept (fun q=>q≠sb) w (w.setCells sb (i*3) [bZ s g 0,bZ s g 1,bZ s g 2]):=Kept.setCells _ (fun e=>e rfl) _ _;have hS:=h.slots.setS hi zO s g fun t ht=>(hs t ht).2.2;have hmap:=h.map.kept hk (show hm≠sb by omega);have hblk:=(hk.block b (show b≠sb by omega)).trans h.blk;have hdu:=AW h.uq i;refine⟨h.cells.2,(hk.cell (a:=⟨b,7,none⟩) (show b≠sb by omega)).trans h.cells.2,hmap,fun e=>?_,fun t ht w' hm' hk'=>?_⟩
 ·subst e;refine⟨hblk,h.num,hS,hmap,fun j hj t ht=>?_,hdu,hr⟩;have ht':cJ c.S i none j=some t:=ht;unfold cJ at ht';split at ht'
  ·cases ht'
  ·exact h.pgs j hj t ht'
 ·subst ht;obtain⟨h1,h2,h3,h4⟩:=hs t rfl;have hnone:kI (cJ c.S i none) t.p c.n=none:=by
   cases hf:kI (cJ c.S i none) t.p c.n with
   | none=>rfl
   | some j=>
    obtain⟨q1,u,q2,q3⟩:=(nQ hdu).1 hf;unfold cJ at q2;split at q2
    ·cases q2
    ·have:=(nQ h.uq).2 ⟨q1,u,q2,q3⟩;rw[h2]at this;cases this
  have hS':=hS.kept hk' ⟨hS.lt,zO⟩ fun q h1 _ h2=>⟨h2,zO⟩
  refine⟨(hk'.block b ⟨Nat.lt_of_lt_of_le (lt_of_block h.blk) hk.size,zO⟩).trans hblk,h.num,hS',hm'.ext fun q _=>?_,fun j hj u hu=>?_,?_,hr⟩
  ·have e1:=aGk (S:=cJ c.S i none) (s:=t) hdu hi hnone (WO _ _ _) q;rw[NB]at e1;show _=kI (cJ c.S i (some t)) q c.n;rw[e1];unfold xG;rfl
  ·have hu':cJ c.S i (some t) j=some u:=hu;unfold cJ at hu';split at hu'
   ·cases hu';exact h1
   ·exact h.pgs j hj u hu'
  ·show qD c.n (cJ c.S i (some t));rw[<-NB c.S i none (some t)];exact NJ hdu hnone
theorem UB{w:World}{z0 z av b sb hm db N:Nat}{c:dE}(h:CcAt w z0 z av b sb hm db N c)(k:Nat)(hc:qD c.choose.1.n c.choose.1.S):kI c.choose.1.S k c.choose.1.n=kI c.S k c.n:=by
 have hs:=pK c.n c;have en:c.choose.1.n=c.n:=hs.n;rw[en]at hc |-;exact xQ hc h.uq fun i _=>hs.S i k
theorem aEo(z0 z av b sb hm db N k g:Nat)(G:nI)(c:dE)(w:World)(h:CcAt w z0 z av b sb hm db N c)(hk:k<N)(hf:kI c.S k c.n=none)(hg:z<=g)(hga:g≠av)(hG:SlU w (some ⟨g,0,none⟩) 64 G):
  Calls zP 254 #[.pointer (some ⟨b,0,none⟩),vI iJ (k:Int),.slice (some ⟨g,0,none⟩) 64 64] w fun e w'=>e=rJ (.tuple #[])/\CcAt w' z0 z av b sb hm db N (c.put k G)/\Kept (fun q=>q<w.heap.size/\q≠b/\q≠sb/\q≠hm) w w':=by
 have HC:=zH (UP z0 z av b sb hm db N c w h);have hlt:=(aCd c.n c h.num.1 h.num.2.2.2.1).1;have hen:c.choose.1.n=c.n:=(pK c.n c).n;have HFN:=zH (fun hc=>(UB h k hc).trans hf);have HP:Hid (c.put k G = { c.choose.1 with S:=cJ c.choose.1.S c.choose.2 (some ⟨k,true,G⟩) }):=zH rfl;rw[HP.o];have hrn:=h.rng;have HGa:=zH hga;have HG:=zH (And.intro hg (And.intro hG (And.intro hk (And.intro hrn h.num))));obtain⟨c1,hc1⟩:=zG (c.choose.1);obtain⟨i,hi⟩:=zG (c.choose.2);rw[<-hc1,<-hi]at HC |-;rw[<-hc1]at HFN hen;have hi2:i<c1.n:=by rw[hi,hen];exact hlt
 clear h hf hg hga hG hk HP hc1 hi hlt hen hrn;go_enter func254,ntmps254
 go_wp2_with fail
 refine HC.o.mono ?_;rintro e w1 ⟨rfl,hat,hk1⟩;clear HC;have hn1:=hat.num.2.1;obtain⟨_,_,_,_,_,_,c6,c7,_⟩:=hat.cells;obtain⟨gi,g0,g1,g2,_,_,_,_⟩:=hat.slots.cells hi2;obtain⟨n,hn⟩:=zG (c1.n);have hr:=hat.rng;have hun:=hat.uq;have hnone:=HFN.o hun;have HI:=zH hi2;rw[<-hn]at c6 hn1;have hi3:i<n:=by rw[hn];exact hi2
 have HN:=zH hn;have HGd:Hid (∀W,Old w1 W->SlU W (some ⟨g,0,none⟩) 64 G):=zH fun W ho=>by
  obtain⟨p1,p2,p3,p4,p5⟩:=HG.o;refine(p2.kept hk1 fun a _ ha=>?_).old ho;cases ha;exact⟨by show g≠b;omega,by show g≠sb;omega⟩
 have HK1:=zH hk1;cases hs:c1.S i with
 | none=>
  rw[hs]at g0 g1 g2;have g0':w1.cell? ⟨sb,i*3,none⟩=some (vI iJ 0):=g0;have g1':w1.cell? ⟨sb,i*3+1,none⟩=some (.slice none 0 0):=g1;have g2':w1.cell? ⟨sb,i*3+2,none⟩=some (.bool false):=g2;have HM:=zH (fun W (ho:Old w1 W)=>(hat.mid hs).old ho);obtain⟨W2,hW2⟩:=zG (w1.alloc (.cells #[vI iJ 0,.slice none 0 0,.bool false] 346));have ho2:Old w1 W2:=by rw[hW2];exact Old.alloc _ _
  have hm2:=HM.o W2 ho2;have HO2:=zH ho2;have HW2:=zH hW2;have hb2:W2.heap[w1.heap.size]?=some (.cells #[vI iJ 0,.slice none 0 0,.bool false] 346 (0,0)):=by rw[hW2];exact heap_alloc_new _ _
  obtain⟨e0,e1,e2,_,_,_⟩:=kO hb2;obtain⟨d6,d7⟩:=hm2.cells;rw[<-HN.o]at d6;have hL:=hm2.lay HI.o (some ⟨k,true,G⟩) g fun t ht=>by
   cases ht;exact⟨HG.o.2.2.1,hnone,⟨HG.o.1,HGa.o⟩,HGd.o W2 ho2⟩
  obtain⟨_,d7',hmap,_,hfin⟩:=hL;have d7'':(W2.setCells sb (i*3) [vI iJ (k:Int),.slice (some ⟨g,0,none⟩) 64 64,.bool true]).cell? ⟨b,7,none⟩=some (.map (some hm)):=d7';have HMap:Hid (HldAt (W2.setCells sb (i*3) [vI iJ (k:Int),.slice (some ⟨g,0,none⟩) 64 64,.bool true]) hm N (fun k=>kI (cJ c1.S i none) k c1.n)):=zH hmap;have HNb:Hid (k<N/\N<=1099511627776):=zH ⟨HG.o.2.2.1,by have:=HG.o.2.2.2.2.2.2.2.2;omega⟩
  have HFin:Hid (∀w',HldAt w' hm N (xG (fun k=>kI (cJ c1.S i none) k c1.n) k (some i))->Kept (fun j=>j<(W2.setCells sb (i*3) [vI iJ (k:Int),.slice (some ⟨g,0,none⟩) 64 64,.bool true]).heap.size/\j≠hm) (W2.setCells sb (i*3) [vI iJ (k:Int),.slice (some ⟨g,0,none⟩) 64 64,.bool true]) w' ->
    CcAt w' z0 z av b sb hm db N { c1 with S:=cJ c1.S i (some ⟨k,true,G⟩) }/\Kept (fun q=>q<w.heap.size/\q≠b/\q≠sb/\q≠hm) w w'):=zH fun w' q1 q2=>⟨hfin _ rfl w' q1 q2,
     (HK1.o.mono fun q hq=>⟨hq.2.1,hq.2.2.1⟩).trans ((ho2.kept fun q hq=>Nat.lt_of_lt_of_le hq.1 HK1.o.size).trans (((Kept.setCells (X:=fun q=>q≠sb) _ (fun e=>e rfl) _ _).mono fun q hq=>hq.2.2.1).trans (q2.mono fun q hq=>⟨by rw[eT];exact Nat.lt_of_lt_of_le hq.1 (Nat.le_trans HK1.o.size ho2.size),hq.2.2.2⟩)))⟩
  have HTh:Hid (W2.there sb (i*3) (#[vI iJ (k:Int),.slice (some ⟨g,0,none⟩) 64 64,.bool true]:Array Value).size):=zH (BD hm2.slots HI.o);have HAll:Hid ((#[vI iJ (k:Int),.slice (some ⟨g,0,none⟩) 64 64,.bool true]:Array Value).all (·.oneCell')=true):=zH (FJ (some ⟨k,true,G⟩) g);have hE:=eL 34 5 none 0 0 underlying34;have HS3:Hid ((zP.info? 346).map (·.size)=some (#[vI iJ (k:Int),.slice (some ⟨g,0,none⟩) 64 64,.bool true]:Array Value).size):=zH zK;clear hat hs hr hun hi2 hn hk1 HFN hm2 hb2 ho2 hmap hfin hnone g0 g1 g2 d7';subst hW2
  go_wp2_with (first
   | (with_reducible refine wpList_store_mid rfl 346 _ _ rfl sb (i*3) #[vI iJ (k:Int),.slice (some ⟨g,0,none⟩) 64 64,.bool true] rfl rfl HTh.o HS3.o HAll.o ?_)
   | (with_reducible refine pJ _ rfl _ _ _ rfl hm N k i _ rfl HMap.o HNb.o.1 HNb.o.2 rfl rfl ?_;intro w9 h1 h2;have HF:=zH (HFin.o w9 h1 h2);clear h1 h2))
  go_end0
  exact⟨rfl,HF.o⟩
 | some s=>
  rw[hs]at g0 g1 g2;have g0':w1.cell? ⟨sb,i*3,none⟩=some (vI iJ (s.p:Int)):=g0;have g1':w1.cell? ⟨sb,i*3+1,none⟩=some (.slice (some ⟨gi,0,none⟩) 64 64):=g1;have g2':w1.cell? ⟨sb,i*3+2,none⟩=some (.bool s.m):=g2;obtain⟨sp,hsp⟩:=zG (s.p);obtain⟨sm,hsm⟩:=zG (s.m);rw[<-hsp]at g0';rw[<-hsm]at g2';have ho2:=Old.alloc w1 (.cells #[vI iJ (sp:Int),.slice (some ⟨gi,0,none⟩) 64 64,.bool sm] 346);have hb2:=heap_alloc_new w1 (.cells #[vI iJ (sp:Int),.slice (some ⟨gi,0,none⟩) 64 64,.bool sm] 346);have hat2:=hat.old ho2;obtain⟨_,_,_,_,_,_,d6,d7,_⟩:=hat2.cells;rw[<-HN.o]at d6;have HNb:Hid (k<N/\N<=1099511627776/\sp<N):=zH ⟨HG.o.2.2.1,by have:=HG.o.2.2.2.2.2.2.2.2;omega,by rw[hsp];exact hat.pgs i HI.o s hs⟩;have HAt:=zH (And.intro hat2 (And.intro hs (And.intro ho2 hnone)));have HSp:=zH hsp;have hE:=eL 34 5 (some ⟨gi,0,none⟩) 64 64 underlying34;have HS3:Hid ((zP.info? 346).map (·.size)=some (#[vI iJ (k:Int),.slice (some ⟨g,0,none⟩) 64 64,.bool true]:Array Value).size):=zH zK;have HAll:Hid ((#[vI iJ (k:Int),.slice (some ⟨g,0,none⟩) 64 64,.bool true]:Array Value).all (·.oneCell')=true):=zH (FJ (some ⟨k,true,G⟩) g);clear hat hat2 hs hr hun hi2 hn hk1 HFN ho2 hnone g0 g1 g2 hsp hsm
  go_wp2_with fail
  generalize w1.alloc (.cells #[vI iJ (sp:Int),.slice (some ⟨gi,0,none⟩) 64 64,.bool sm] 346)=W2 at *;generalize hg1:w1.heap.size=g1 at hb2 |-;obtain⟨e0,e1,e2,_,_,_⟩:=kO hb2;clear hg1;refine wp_region_still_tail 6 zK zK ?_;simp only[List.take_succ_cons,List.take_zero,List.drop_succ_cons,List.drop_zero]
  iterate 6 (with_reducible refine wpStill_step (fun K hK=>?_);go_simp;with_reducible refine hK _ ?_;clear hK K)
  with_reducible refine wpStill_nil ?_
  change wpList _ _ _ _ _ (World.drew _);refine DD _ rfl _ _ rfl hm N sp (fun k=>kI c1.S k c1.n) rfl (show HldAt _ hm N (fun k=>kI c1.S k c1.n) from(HAt.o.1.old (Old.refl _).drew).map) HNb.o.2.2 HNb.o.2.1 rfl ?_;intro w3 h1 h2;obtain⟨hat2,hs,ho2,hnone⟩:=HAt.o;have hm3:rX w3 z0 z av b sb hm db N c1 i:=(hat2.old (Old.refl _).drew).midD HI.o hs h2 (by rw[<-HSp.o];exact h1);obtain⟨x6,x7⟩:=hm3.cells;rw[<-HN.o]at x6;have hrr:=hm3.rng;have hk3:Kept (fun q=>q<w1.heap.size/\q≠hm) w1 w3:=(ho2.kept fun q hq=>hq.1).trans ((((Kept.refl (fun q=>q<W2.heap.size/\q≠hm) W2).drew).trans (h2.mono fun q hq=>hq)).mono fun q hq=>⟨Nat.lt_of_lt_of_le hq.1 ho2.size,hq.2⟩);obtain⟨_,x7',hmap,_,hfin⟩:=hm3.lay HI.o (some ⟨k,true,G⟩) g fun t ht=>(by
   cases ht;refine⟨HG.o.2.2.1,hnone,⟨HG.o.1,HGa.o⟩,?_⟩;have:=HGd.o w1 (Old.refl w1);refine this.kept hk3 fun a _ ha=>?_;cases ha;obtain⟨_,_,e1,e2,_⟩:=this zO;cases e1;have:=HG.o.1;exact⟨e2,by show g≠hm;omega⟩)
  have x7'':(w3.setCells sb (i*3) [vI iJ (k:Int),.slice (some ⟨g,0,none⟩) 64 64,.bool true]).cell? ⟨b,7,none⟩=some (.map (some hm)):=x7';have HMap:Hid (HldAt (w3.setCells sb (i*3) [vI iJ (k:Int),.slice (some ⟨g,0,none⟩) 64 64,.bool true]) hm N (fun k=>kI (cJ c1.S i none) k c1.n)):=zH hmap
  have HFin:Hid (∀w',HldAt w' hm N (xG (fun k=>kI (cJ c1.S i none) k c1.n) k (some i))->Kept (fun j=>j<(w3.setCells sb (i*3) [vI iJ (k:Int),.slice (some ⟨g,0,none⟩) 64 64,.bool true]).heap.size/\j≠hm) (w3.setCells sb (i*3) [vI iJ (k:Int),.slice (some ⟨g,0,none⟩) 64 64,.bool true]) w' ->
    CcAt w' z0 z av b sb hm db N { c1 with S:=cJ c1.S i (some ⟨k,true,G⟩) }/\Kept (fun q=>q<w.heap.size/\q≠b/\q≠sb/\q≠hm) w w'):=zH fun w' q1 q2=>⟨hfin _ rfl w' q1 q2,
     (HK1.o.mono fun q hq=>⟨hq.2.1,hq.2.2.1⟩).trans ((hk3.mono fun q hq=>⟨Nat.lt_of_lt_of_le hq.1 HK1.o.size,hq.2.2.2⟩).trans (((Kept.setCells (X:=fun q=>q≠sb) _ (fun e=>e rfl) _ _).mono fun q hq=>hq.2.2.1).trans (q2.mono fun q hq=>⟨by rw[eT];exact Nat.lt_of_lt_of_le hq.1 (Nat.le_trans HK1.o.size hk3.size),hq.2.2.2⟩)))⟩
  have HTh:Hid (w3.there sb (i*3) (#[vI iJ (k:Int),.slice (some ⟨g,0,none⟩) 64 64,.bool true]:Array Value).size):=zH (BD hm3.slots HI.o);clear h1 h2 hat2 hs ho2 hnone hm3 hrr hk3 x7' hmap hfin d6 d7 e0 e1 e2 hb2 HAt c6 c7 g0' g1' g2'
  go_wp2_with (first
   | (with_reducible refine wpList_store_mid rfl 346 _ _ rfl sb (i*3) #[vI iJ (k:Int),.slice (some ⟨g,0,none⟩) 64 64,.bool true] rfl rfl HTh.o HS3.o HAll.o ?_)
   | (with_reducible refine pJ _ rfl _ _ _ rfl hm N k i _ rfl HMap.o HNb.o.1 HNb.o.2.1 rfl rfl ?_;intro w9 h1 h2;have HF:=zH (HFin.o w9 h1 h2);clear h1 h2))
  go_end0
  exact⟨rfl,HF.o⟩
def JH(w':World)(z:Nat)(r:Option (nI))(e:Ending):Prop:=
 match r with
 | none=>e=rJ (.tuple #[.slice none 0 0,vI iJ 8])
 | some G=>∃g,e=rJ (.tuple #[.slice (some ⟨g,0,none⟩) 64 64,vI iJ 0])/\z<=g/\g<w'.heap.size/\SlU w' (some ⟨g,0,none⟩) 64 G
theorem vY{c:dE}{d:eF}{k i:Nat}{s:gE}(h:kI c.S k c.n=some i)(hs:c.S i=some s):iI c d k=⟨some s.G,c.hit i,d⟩:=by
 unfold iI;rw[h];dsimp only;rw[hs];rfl
theorem AP{c:dE}{d d':eF}{k:Nat}{t':Int}(h:kI c.S k c.n=none)(ht:mH k (c.rt+1) d c.t=(none,d',t')):iI c d k=⟨none,(c.miss.tried t').lose,d'⟩:=by
 unfold iI;rw[h];dsimp only;rw[ht]
theorem vA{c:dE}{d d':eF}{k:Nat}{t':Int}{G:nI}(h:kI c.S k c.n=none)(ht:mH k (c.rt+1) d c.t=(some G,d',t')):iI c d k=⟨some G,(c.miss.tried t').put k G,d'⟩:=by
 unfold iI;rw[h];dsimp only;rw[ht]
theorem CkAt.cacheT{w w':World}{z0 z av b sb hm db dm cd N:Nat}{p:Option Addr}{c c':dE}{d:eF}(h:CkAt w z0 z av b sb hm db dm p cd N c d){X:Nat->Prop}(k:Kept X w w')(hX:∀q,q<z0->q<w.heap.size->X q)(hc:CcAt w' z0 z av b sb hm db N c'):CkAt w' z0 z av b sb hm db dm p cd N c' d:=by
 refine⟨hc,h.dk.kept k (hX _ h.lo.1 h.dk.ltb) (hX _ h.lo.2.1 h.dk.map.lt) fun a hn ha=>hX _ (h.lo.2.2 a (by rw[<-h.nN];exact hn) ha) (h.dk.plt a hn ha),h.nN,h.lo,Nat.le_trans h.hi k.size⟩
theorem ZP(z0 z av b sb hm db dm:Nat)(p:Option Addr)(cd N k:Nat)(c:dE)(d:eF)(w:World)(h:CkAt w z0 z av b sb hm db dm p cd N c d)(hk:k<N)(hav:av<w.heap.size):Calls zP 237 #[.pointer (some ⟨b,0,none⟩),vI iJ (k:Int)] w fun e w'=>
  JH w' z (iI c d k).r e/\CkAt w' z0 z av b sb hm db dm p cd N (iI c d k).c (iI c d k).d/\Kept (ND w b sb hm db dm) w w':=by
 have hN:N<=65536:=h.cc.num.2.2.2.2;obtain⟨c0,c1,c2,c3,c4,c5,c6,c7,c8⟩:=h.cc.cells;have f0:=h.cc.frz 0;have f1:=h.cc.frz 1;have hr:=h.cc.rng;have hlo:=h.lo;cases hf:kI c.S k c.n with
 | some i=>
  obtain⟨hi,s,hs,hp⟩:=(nQ h.cc.uq).1 hf;rw[vY hf hs];have hl:=h.cc.map.look_some hk zO hf;obtain⟨q,hq⟩:=zG (wrap64 (c.h+1));have e1:wrap64 (c.h+1)=q:=hq.symm;have h2:=h.stat 0 (vI iJ q) q c.m c.t c.l rfl;obtain⟨_,_,_,_,_,_,d6,_,_⟩:=h2.cc.cells;obtain⟨n,hn⟩:=zG (c.n);have d6':(w.setCell ⟨b,0,none⟩ (vI iJ q)).cell? ⟨b,6,none⟩=some (.slice (some ⟨sb,0,none⟩) n n):=by rw[hn];exact d6
  have hi2:i<n:=by rw[hn];exact hi
  have hn2:n<=1024:=by rw[hn];exact h.cc.num.2.1
  obtain⟨g,g0,g1,g2,_,_,k2,hg⟩:=h2.cc.slots.cells hi;have hs':(show dE from { c with h:=q,m:=c.m,t:=c.t,l:=c.l }).S i=some s:=hs;have h3:=h2.cc.markd hi hs true;obtain⟨_,_,_,_,_,_,x6,_,_⟩:=h3.cells;obtain⟨g',y0,y1,y2,_,_,_,hg'⟩:=h3.slots.cells hi;have hsm:kU c.S i true i=some (s.mark true):=by unfold kU;rw[WO,hs];rfl
  obtain⟨p1,p2,p3⟩:=hg' (s.mark true) hsm;have g2':(w.setCell ⟨b,0,none⟩ (vI iJ q)).cell? ⟨sb,i*3+2,none⟩=some (.bool s.m):=by
   rw[g2];show some (bZ (c.S i) g 2)=_;rw[hs];rfl
  have y1':((w.setCell ⟨b,0,none⟩ (vI iJ q)).setCell ⟨sb,i*3+2,none⟩ (.bool true)).cell? ⟨sb,i*3+1,none⟩=some (.slice (some ⟨g',0,none⟩) 64 64):=by
   rw[y1];show some (bZ (kU c.S i true i) g' 1)=_;rw[hsm];rfl
  have x6':((w.setCell ⟨b,0,none⟩ (vI iJ q)).setCell ⟨sb,i*3+2,none⟩ (.bool true)).cell? ⟨b,6,none⟩=some (.slice (some ⟨sb,0,none⟩) n n):=by rw[hn];exact x6
  have hkk:Kept (fun q=>q≠b/\q≠sb) w ((w.setCell ⟨b,0,none⟩ (vI iJ q)).setCell ⟨sb,i*3+2,none⟩ (.bool true)):=
   ((Kept.setCell (X:=fun q=>q≠b) w (a:=⟨b,0,none⟩) (fun e=>e rfl) _).mono fun q hq=>hq.1).trans ((Kept.setCell (X:=fun q=>q≠sb) _ (a:=⟨sb,i*3+2,none⟩) (fun e=>e rfl) _).mono fun q hq=>hq.2)
  have HE:Hid (z<=g'/\g'<((w.setCell ⟨b,0,none⟩ (vI iJ q)).setCell ⟨sb,i*3+2,none⟩ (.bool true)).heap.size/\SlU ((w.setCell ⟨b,0,none⟩ (vI iJ q)).setCell ⟨sb,i*3+2,none⟩ (.bool true)) (some ⟨g',0,none⟩) 64 s.G):=⟨p1,p2,p3⟩
  have HF:Hid (CkAt ((w.setCell ⟨b,0,none⟩ (vI iJ q)).setCell ⟨sb,i*3+2,none⟩ (.bool true)) z0 z av b sb hm db dm p cd N (c.hit i) d/\Kept (ND w b sb hm db dm) w ((w.setCell ⟨b,0,none⟩ (vI iJ q)).setCell ⟨sb,i*3+2,none⟩ (.bool true))):=by
   refine⟨h.cacheT hkk (fun q hq _=>⟨zO,zO⟩) ?_,hkk.mono fun q hq=>⟨hq.2.1,hq.2.2.1⟩⟩;have e9:c.hit i = { (show dE from { c with h:=q,m:=c.m,t:=c.t,l:=c.l }) with S:=kU c.S i true }:=by unfold dE.hit;rw[hq]
   rw[e9];exact h3
  clear h h2 h3 hf hs hs' hp hr hlo hkk p1 p2 p3 hg hg' hsm g0 g1 g2 y0 y1 y2 x6 d6 hn hi hq c1 c2 c3 c4 c5 c8;go_enter func237,ntmps237
  go_wp2_with fail
  go_ret2
  exact⟨⟨g',rfl,HE.o⟩,HF.o⟩
 | none=>
  have hl:=h.cc.map.look_none (z:=(k:Int)) zO zO fun j _ e=>by
   have:k=j:=zO;rw[<-this];exact hf
  obtain⟨q,hq⟩:=zG (wrap64 (c.m+1));have e1:wrap64 (c.m+1)=q:=hq.symm;have h2:CkAt (w.setCell ⟨b,1,none⟩ (vI iJ q)) z0 z av b sb hm db dm p cd N c.miss d:=by
   have:=h.stat 1 (vI iJ q) c.h q c.t c.l rfl;have e9:c.miss = { c with h:=c.h,m:=q,t:=c.t,l:=c.l }:=by unfold dE.miss;rw[hq]
   rw[e9];exact this
  have HC:=zH (ZU z0 z av b sb hm db dm p cd N k c.miss d _ h2 hk);have HK1:Hid (Kept (fun x=>x≠b) w (w.setCell ⟨b,1,none⟩ (vI iJ q))):=zH (Kept.setCell (X:=fun q=>q≠b) w (a:=⟨b,1,none⟩) (fun e=>e rfl) _);have hme:c.miss.rt=c.rt/\c.miss.t=c.t:=⟨rfl,rfl⟩
  rw[hme.1,hme.2]at HC;have HHi:=zH h2.hi;have HF:=zH hf;have HKn:=zH hk;have HAv:=zH hav;clear hav;obtain⟨T,hT⟩:=zG (iI c d k);rw[<-hT];have HT:=zH hT;obtain⟨R,hR⟩:=zG (mH k (c.rt+1) d c.t);rw[<-hR]at HC;have HR:=zH hR.symm;obtain⟨r,d',t'⟩:=R;dsimp only at HC;clear h h2 hf hk hr hlo hT hR hq c0 c2 c3 c4 c5 c6 c8 hme;go_enter func237,ntmps237
  go_wp2_with fail
  refine HC.o.mono ?_;intro e w2 hh;cases r with
  | none=>
   obtain⟨he,hat,hkk⟩:=hh;have he':e=rJ (.tuple #[.slice none 0 0,vI iJ 8]):=he;subst he';obtain⟨_,_,_,x3,_,_,_,_,_⟩:=hat.cc.cells;have x3':w2.cell? ⟨b,3,none⟩=some (vI iJ c.l):=x3;have fz3:=hat.cc.frz 3;obtain⟨u,hu⟩:=zG (wrap64 (c.l+1));have e2:wrap64 (c.l+1)=u:=hu.symm;have HE:Hid (JH (w2.setCell ⟨b,3,none⟩ (vI iJ u)) z T.r (rJ (.tuple #[.slice none 0 0,vI iJ 8]))/\CkAt (w2.setCell ⟨b,3,none⟩ (vI iJ u)) z0 z av b sb hm db dm p cd N T.c T.d/\Kept (ND w b sb hm db dm) w (w2.setCell ⟨b,3,none⟩ (vI iJ u))):=by
    rw[HT.o,AP HF.o HR.o];have:=hat.stat 3 (vI iJ u) c.h (wrap64 (c.m+1)) t' u rfl;have e9:(c.miss.tried t').lose = { c.miss.tried t' with h:=c.h,m:=wrap64 (c.m+1),t:=t',l:=u }:=by unfold dE.lose;rw[hu];rfl
    rw[e9];exact⟨rfl,this,(HK1.o.mono fun q hq=>hq.2.1).trans ((hkk.mono fun q hq=>⟨Nat.lt_of_lt_of_le hq.1 HK1.o.size,hq.2.1,hq.2.2.2.2.1,hq.2.2.2.2.2⟩).trans ((Kept.setCell (X:=fun q=>q≠b) _ (a:=⟨b,3,none⟩) (fun e=>e rfl) _).mono fun q hq=>hq.2.1))⟩
   clear hat hkk hu x3 HC he
   go_wp2_with fail
   go_ret2
   exact HE.o
  | some G=>
   obtain⟨he,hat,hkk⟩:=hh;have he':∃g,e=rJ (.tuple #[.slice (some ⟨g,0,none⟩) 64 64,vI iJ 0])/\(w.setCell ⟨b,1,none⟩ (vI iJ q)).heap.size<=g/\UAt w2 g 64 G:=he;obtain⟨g,rfl,hg,hu⟩:=he';have hgz:z<=g:=Nat.le_trans HHi.o hg;have hsl:SlU w2 (some ⟨g,0,none⟩) 64 G:=(hu.sl 0 64 zO).ext fun j _=>by rw[Nat.zero_add]
   have hglt:=hu.lt;have HP:=zH (aEo z0 z av b sb hm db N k g G (c.miss.tried t') w2 hat.cc HKn.o HF.o hgz (by have h9:=HAv.o;have h8:=Nat.le_trans HK1.o.size hg;omega) hsl)
   have HE:Hid (∀w3,CcAt w3 z0 z av b sb hm db N ((c.miss.tried t').put k G)->Kept (fun q=>q<w2.heap.size/\q≠b/\q≠sb/\q≠hm) w2 w3 ->
     JH w3 z T.r (rJ (.tuple #[.slice (some ⟨g,0,none⟩) 64 64,vI iJ 0]))/\CkAt w3 z0 z av b sb hm db dm p cd N T.c T.d/\Kept (ND w b sb hm db dm) w w3):=by
    intro w3 hc3 hk3;rw[HT.o,vA HF.o HR.o];have hr:=hat.cc.rng;refine⟨⟨g,rfl,hgz,Nat.lt_of_lt_of_le hglt hk3.size,hsl.kept hk3 fun a _ ha=>?_⟩,hat.cacheT hk3 (fun q hq hq2=>⟨hq2,zO,zO,zO⟩) hc3,(HK1.o.mono fun q hq=>hq.2.1).trans ((hkk.mono fun q hq=>⟨Nat.lt_of_lt_of_le hq.1 HK1.o.size,hq.2.1,hq.2.2.2.2.1,hq.2.2.2.2.2⟩).trans (hk3.mono fun q hq=>⟨Nat.lt_of_lt_of_le hq.1 (Nat.le_trans HK1.o.size hkk.size),hq.2.1,hq.2.2.1,hq.2.2.2.1⟩))⟩;cases ha;exact⟨hglt,by show g≠b;omega,by show g≠sb;omega,by show g≠hm;omega⟩
   clear hat hkk hu hg hgz hsl hglt HC he
   go_wp2_with fail
   refine HP.o.mono ?_;rintro e w3 ⟨rfl,hc3,hk3⟩;have HF3:=zH (HE.o w3 hc3 hk3);clear HE hc3 hk3 HP
   go_wp2_with fail
   go_ret2
   exact HF3.o
theorem ZI{v:Int}(h:0<=v/\v<=255):TP v 0=v:=by
 obtain⟨n,rfl⟩:∃n:Nat,v=n:=⟨v.toNat,zO⟩
 have ea:(BitVec.ofInt 8 (n:Int)).toNat=n:=by rw[BitVec.ofInt_natCast,BitVec.toNat_ofNat];exact Nat.mod_eq_of_lt zO
 have e0:BitVec.ofInt 8 (0:Int)=0#8:=zD;show IntKind.u8.wrap ((BitVec.ofInt 8 (n:Int) ^^^ BitVec.ofInt 8 0).toNat:Int)=_;rw[e0,BitVec.xor_zero,ea,IntKind.wrap_u8];omega
theorem aEO{d:eF}{k:Nat}(hk:k<d.N)(hb:lS d.G (d.N*64))(hz:d.F k=iP.z)(j:Nat)(hj:j<64):oJ d k j=d.G (k*64+j):=by
 unfold oJ mN;rw[hz];split
 ·exact ZI (hb _ zO)
 ·rfl
end Go.Proofs.YticpdokbiblpoaaGreatDoor
