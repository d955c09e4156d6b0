/- Texts joined: FetchA, CurA, FetchB, FetchC, Made18, Awk18, FetH, CurB, CurE, One20, Awk20, CurF, CurG, CurH, TwinF. -/
import Derived.Deep.RegionHeld
import Derived.Test.YticpdokbiblpoaaGreatDoorPkAB
import Derived.Test.YticpdokbiblpoaaGreatDoorPkAI
import Derived.Test.YticpdokbiblpoaaGreatDoorPkAM
import Derived.Test.YticpdokbiblpoaaGreatDoorPkAO
import Derived.Test.YticpdokbiblpoaaGreatDoorPkBB
import Derived.Test.YticpdokbiblpoaaGreatDoorPkBE
import Derived.Test.YticpdokbiblpoaaGreatDoorPkBH
import Derived.Test.YticpdokbiblpoaaGreatDoorPkBJ
import Derived.Test.YticpdokbiblpoaaGreatDoorTk
set_option linter.unusedVariables false
set_option linter.unusedSimpArgs false
set_option maxHeartbeats 8000000
namespace Go.Proofs.YticpdokbiblpoaaGreatDoor
open Go.Proofs.Tryz
open Go.Proofs.Tryz renaming prog → zP
open Go.Value renaming int → vI
open Go.IntKind renaming i64 → iJ
open Go.Ending renaming returned → rJ
set_option maxRecDepth 100000
open Go.RowKit Go.ChangeShapes Go.WideShapes
def FtAt(w:World)(fb cb bb:Nat)(a m:Int):Prop:=w.heap[fb]?=some (.cells #[.pointer (some ⟨cb,0,none⟩),.pointer (some ⟨bb,0,none⟩),vI iJ a,vI iJ m] 119 (0,0))
namespace FtAt
variable {w w':World} {fb cb bb:Nat} {a m:Int}
theorem lt(h:FtAt w fb cb bb a m):fb<w.heap.size:=lt_of_block h
theorem kept{X:Nat->Prop}(h:FtAt w fb cb bb a m)(k:Kept X w w')(hX:X fb):FtAt w' fb cb bb a m:=(k.block _ hX).trans h
theorem old(h:FtAt w fb cb bb a m)(k:Old w w'):FtAt w' fb cb bb a m:=h.kept k h.lt
theorem cells(h:FtAt w fb cb bb a m):w.cell? ⟨fb,0,none⟩=some (.pointer (some ⟨cb,0,none⟩))/\w.cell? ⟨fb,1,none⟩=some (.pointer (some ⟨bb,0,none⟩))/\w.cell? ⟨fb,2,none⟩=some (vI iJ a)/\w.cell? ⟨fb,3,none⟩=some (vI iJ m)/\∀o,w.frozen? ⟨fb,o,none⟩=false:=by
 have h:w.heap[fb]?=some (.cells #[.pointer (some ⟨cb,0,none⟩),.pointer (some ⟨bb,0,none⟩),vI iJ a,vI iJ m] 119 (0,0)):=h;refine⟨by simp[World.cell?,h],by simp[World.cell?,h],by simp[World.cell?,h],by simp[World.cell?,h],fun o=>by simp[World.frozen?,h]⟩
theorem asked(h:FtAt w fb cb bb a m)(x:Int):FtAt (w.setCell ⟨fb,2,none⟩ (vI iJ x)) fb cb bb x m:=(aW h).trans rfl
theorem missed(h:FtAt w fb cb bb a m)(x:Int):FtAt (w.setCell ⟨fb,3,none⟩ (vI iJ x)) fb cb bb a x:=(aW h).trans rfl
end FtAt
theorem GK(b bb:Nat)(w:World)(hc:w.cell? ⟨b,1,none⟩=some (.pointer (some ⟨bb,0,none⟩))):Calls zP 64 #[.pointer (some ⟨b,0,none⟩)] w fun e w'=>e=rJ (.bool true)/\w=w':=by
 go_enter func64,ntmps64;go_wp2;go_ret;exact⟨rfl,rfl⟩
theorem aDl(fb cb bb:Nat)(a m:Int)(w:World)(h:FtAt w fb cb bb a m):Calls zP 30 #[.pointer (some ⟨fb,0,none⟩)] w fun e w'=>e=rJ (.pointer (some ⟨bb,0,none⟩))/\w=w':=by
 obtain⟨c0,c1,c2,c3,_⟩:=h.cells;have H:=zH (GK fb bb w c1);clear h;go_enter func30,ntmps30
 go_wp2_with fail
 refine H.o.mono ?_;rintro e w' ⟨rfl,rfl⟩;go_wp2;go_ret;exact⟨rfl,rfl⟩
theorem aCE(b db:Nat)(w:World)(hc:w.cell? ⟨b,4,none⟩=some (.pointer (some ⟨db,0,none⟩))):Calls zP 63 #[.pointer (some ⟨b,0,none⟩)] w fun e w'=>e=rJ (.pointer (some ⟨db,0,none⟩))/\w=w':=by
 have H:=zH (vZ b db w hc);go_enter func63,ntmps63
 go_wp2_with fail
 refine H.o.mono ?_;rintro e w' ⟨rfl,rfl⟩;go_wp2;go_ret;exact⟨rfl,rfl⟩
theorem aEM(bb cb db:Nat)(sz:Nat)(w:World)(hb:w.cell? ⟨bb,0,none⟩=some (vI iJ sz))(hz:0<sz)(hc:w.cell? ⟨cb,4,none⟩=some (.pointer (some ⟨db,0,none⟩))):Calls zP 28 #[.pointer (some ⟨bb,0,none⟩),.pointer (some ⟨cb,0,none⟩)] w fun e w'=>
  e=rJ (.tuple #[.pointer (some ⟨w.heap.size,0,none⟩),vI iJ 0])/\FtAt w' w.heap.size cb bb 0 0/\w'.heap.size=w.heap.size+1/\Old w w':=by
 have H:=zH (CW bb sz w hb);have HD:=zH (aCE cb db w hc);have e0:((sz:Int) == 0)=false:=by simp;omega
 have hE:FtAt (w.alloc (.cells #[.pointer (some ⟨cb,0,none⟩),.pointer (some ⟨bb,0,none⟩),vI iJ 0,vI iJ 0] 119)) w.heap.size cb bb 0 0:=heap_alloc_new _ _;have HE:=zH (And.intro hE (And.intro (show (w.alloc (.cells #[.pointer (some ⟨cb,0,none⟩),.pointer (some ⟨bb,0,none⟩),vI iJ 0,vI iJ 0] 119)).heap.size=w.heap.size+1 by simp) (Old.alloc w (.cells #[.pointer (some ⟨cb,0,none⟩),.pointer (some ⟨bb,0,none⟩),vI iJ 0,vI iJ 0] 119))));clear hE hb hc;go_enter func28,ntmps28
 go_wp2_with fail
 refine H.o.mono ?_;rintro e w' ⟨rfl,rfl⟩
 go_wp2_with fail
 refine HD.o.mono ?_;rintro e w' ⟨rfl,rfl⟩
 go_wp2_with fail
 go_ret2
 exact⟨rfl,HE.o⟩
theorem lQ(b:Nat)(fr:Int)(w:World)(h:w.cell? ⟨b,46,none⟩=some (vI iJ fr)):Calls zP 21 #[.pointer (some ⟨b,0,none⟩)] w fun e w'=>e=rJ (vI iJ fr)/\w=w':=by
 go_enter func21,ntmps21;go_wp2;go_ret;exact⟨rfl,rfl⟩
def cuE(n:Nat)(D:Nat->Mt)(i ch:Int):Int:=if i<0\/(n:Int)<=i then 7 else if ch<0\/(D i.toNat).c<=ch then 5 else 0
theorem YZ(fb:Nat)(i ch len:Int):zP.built 61 [(1,.pointer (some ⟨fb,0,none⟩)),(2,vI iJ i),(3,vI iJ ch),(4,vI iJ len),(5,.agg (aA 16 (blk tI)))]=some (aA 47 (GH (fun _=>0) (lW fb i ch len) (fun _=>none) (.slice none 0 0) 0)):=zK
def aHM(w:World)(fb n:Nat)(D:Nat->Mt)(i ch:Int)(E:Int)(e:Ending)(w':World):Prop:=
 (E≠0/\e=rJ (.tuple #[.pointer none,vI iJ E])/\Old w w') \/
 (E=0/\∃b,e=rJ (.tuple #[.pointer (some ⟨b,0,none⟩),vI iJ 0])/\w.heap.size<=b/\CuS w' b (fun _=>0) (lW fb i ch (D i.toNat).n) (fun _=>none) (.slice none 0 0) 0/\Old w w')
theorem vM(fb cb bb:Nat)(a m:Int)(sz n N:Nat)(q:Option Addr)(c:Nat)(im:Option Addr)(ci:Nat)(D:Nat->Mt)(F:nI)(w:World)(hf:FtAt w fb cb bb a m)(h:xE w bb sz n N q c im ci D F)(h0:0<sz)(hn:n<=64)(i ch:Int):
  Calls zP 9 #[.pointer (some ⟨fb,0,none⟩),vI iJ i,vI iJ ch] w (aHM w fb n D i ch (cuE n D i ch)):=by
 have HB:=zH (aDl fb cb bb a m w hf);by_cases hi:i<0\/(n:Int)<=i
 ·have hE:cuE n D i ch=7:=if_pos hi;rw[hE];have HM:=zH (CI bb sz n N q c im ci D F w h h0 i hi);unfold rU at HM;clear h hi hf hE;go_enter func9,ntmps9
  go_wp2_with fail
  refine HB.o.mono ?_;rintro e w1 ⟨rfl,rfl⟩
  go_wp2_with fail
  refine HM.o.mono ?_;rintro e w1 ⟨rfl,o⟩;have HO:=zH (o.alloc' (.cells rU 90));unfold rU at HO;clear o
  go_wp2_with fail
  go_ret2
  exact .inl ⟨zO,rfl,HO.o⟩
 ·obtain⟨k,rfl⟩:∃k:Nat,i=k:=⟨i.toNat,zO⟩
  have hk:k<n:=zO;have HM:=zH (BZ bb sz n N q c im ci D F w h h0 hn k hk);have hE:cuE n D k ch=if ch<0\/(D k).c<=ch then 5 else 0:=by unfold cuE;rw[if_neg hi,Int.toNat_natCast]
  rw[hE];obtain⟨mt,hm⟩:∃m,m=D k:=⟨_,rfl⟩
  have hm':D (k:Int).toNat=mt:=by rw[Int.toNat_natCast];exact hm.symm
  rw[<-hm]at HM |-;have HD':=zH hm';clear hm';have HMz:Hid (mt.cells=#[.string mt.s,vI iJ mt.n,vI iJ mt.r,vI iJ mt.c,.bool mt.lp,vI iJ mt.a,vI iJ mt.b,vI iJ mt.x,vI iJ mt.y]):=zH rfl;rw[HMz.o]at HM;by_cases hc:ch<0\/mt.c<=ch
  ·rw[if_pos hc];by_cases hc0:ch<0
   ·have e0:decide (ch<0)=true:=decide_eq_true hc0;clear h hi hf hE hm hc;go_enter func9,ntmps9
    go_wp2_with fail
    refine HB.o.mono ?_;rintro e w1 ⟨rfl,rfl⟩
    go_wp2_with fail
    refine HM.o.mono ?_;rintro e w1 ⟨rfl,o⟩;have HO:=zH (o.alloc' (.cells mt.cells 90));rw[HMz.o]at HO;clear o
    go_wp2_with fail
    go_ret2
    exact .inl ⟨zO,rfl,HO.o⟩
   ·have e0:decide (ch<0)=false:=decide_eq_false hc0;have e1:decide (mt.c<=ch)=true:=decide_eq_true zO;have e2:mt.c<=ch:=zO;have e3:0<=ch:=zO;clear h hi hf hE hm hc hc0;go_enter func9,ntmps9
    go_wp2_with fail
    refine HB.o.mono ?_;rintro e w1 ⟨rfl,rfl⟩
    go_wp2_with fail
    refine HM.o.mono ?_;rintro e w1 ⟨rfl,o⟩;have HO:=zH (o.alloc' (.cells mt.cells 90));rw[HMz.o]at HO;clear o
    go_wp2_with fail
    go_ret2
    exact .inl ⟨zO,rfl,HO.o⟩
  ·rw[if_neg hc];have e0:decide (ch<0)=false:=decide_eq_false zO;have e1:decide (mt.c<=ch)=false:=decide_eq_false zO;have e2:ch<mt.c:=zO;have e3:0<=ch:=zO;have HLN:=zH (fun V=>AH V);rw[AE]at HLN;have HBd:=zH (YZ fb k ch mt.n);clear h hi hf hE hm hc;go_enter func9,ntmps9
   go_wp2_with fail
   refine HB.o.mono ?_;rintro e w1 ⟨rfl,rfl⟩
   go_wp2_with fail
   refine HM.o.mono ?_;rintro e w1 ⟨rfl,o⟩;obtain⟨W1,hW1⟩:∃V,V=w1.alloc (.cells #[.string mt.s,vI iJ mt.n,vI iJ mt.r,vI iJ mt.c,.bool mt.lp,vI iJ mt.a,vI iJ mt.b,vI iJ mt.x,vI iJ mt.y] 90):=⟨_,rfl⟩
   have HO:=zH (show Old w W1 by rw[hW1];exact o.alloc' _);have hcl:W1.heap[w1.heap.size]?=some (.cells #[.string mt.s,vI iJ mt.n,vI iJ mt.r,vI iJ mt.c,.bool mt.lp,vI iJ mt.a,vI iJ mt.b,vI iJ mt.x,vI iJ mt.y] 90 (0,0)):=by rw[hW1];exact heap_alloc_new _ _
   have HCl:Hid (∀V,Old W1 V->V.cell? ⟨w1.heap.size,1,none⟩=some (vI iJ mt.n)):=zH fun V hV=>(hV.cell (a:=⟨w1.heap.size,1,none⟩) (lt_of_block hcl)).trans (by simp[World.cell?,hcl]);have HW1:=zH hW1;clear o hcl hW1
   go_upto_region 9 with (fail)
   rw[<-HW1.o];have HD:Hid (Old W1 W1.drew):=zH (Old.refl W1).drew;refine wp_region_held_drew (S:=(fun V=>V.cell? ⟨w1.heap.size,1,none⟩=some (vI iJ mt.n))) zK ?_ (fun hHeld=>?_)
   ·(try dsimp only);exact HCl.o _ HD.o
   refine (uU 0) ((uU 1) ((uU 2) ((uU 3) ((uU 4) ?_))));refine wpR 5 rfl (fun K hK=>?_);go_simp;refine(HLN.o _).mono ?_;rintro e V2 ⟨rfl,o2⟩;have HO2:=zH (HD.o.trans o2);clear o2
   go_wp2_with fail
   refine hK.out _ _ ?_ (fun hHeld=>?_)
   ·(try dsimp only);exact HCl.o _ HO2.o
   clear hK K;refine (uT 6 (v:=.agg (aA 47 (GH (fun _=>0) (lW fb k ch mt.n) (fun _=>none) (.slice none 0 0) 0))) rfl (fC zK 61 _ rfl [(1,.pointer (some ⟨fb,0,none⟩)),(2,vI iJ k),(3,vI iJ ch),(4,vI iJ mt.n),(5,.agg (aA 16 (blk tI)))] _ zK HBd.o)) ?_;refine wpR 7 rfl (fun K hK=>?_);go_simp;refine hK.out _ _ ?_ (fun hHeld=>?_)
   ·(try dsimp only);exact HCl.o _ (HO2.o.trans (Old.alloc _ _))
   clear hK K;refine (uU 8) ((uU 9) ?_);refine wpAnyH_done zK ?_ _
   go_wp2_with fail
   go_ret2
   have hb:=heap_alloc_new V2 (.cells (aA 47 (GH (fun _=>0) (lW fb k ch mt.n) (fun _=>none) (.slice none 0 0) 0)) 61);refine .inr ⟨rfl,V2.heap.size,rfl,Nat.le_trans HO.o.size HO2.o.size,⟨kW (by rw[HD'.o];exact hb),⟨_,hb,aB _ _⟩,fun j hj x hx=>by cases hx⟩,(HO.o.trans HO2.o).alloc' _⟩
def notU(w:World)(q:Nat):Prop:=∀v,w.cell? ⟨q,0,none⟩≠some (.int .u8 v)
theorem SlotsAt.keptU{w w':World}{sb n z av:Nat}{S:Nat->Option gE}{X:Nat->Prop}(h:SlotsAt w sb n z av S)(k:Kept X w w')(hb:X sb)(hU:∀q,q<w.heap.size->¬X q->notU w q):SlotsAt w' sb n z av S:=by
 obtain⟨gs,h1,h2⟩:=h;refine⟨gs,h1.kept k hb,fun i hi s hs=>?_⟩;obtain⟨h3,h4⟩:=h2 i hi s hs;refine⟨h3,h4.kept k fun a _ ha=>?_⟩;cases ha;obtain⟨g,o,e1,e2,e3⟩:=h4 zO;cases e1;exact Classical.byContradiction fun hx=>hU _ e2 hx _ (e3 0 zO)
theorem CkAt.keptU{w w':World}{z0 z av b sb hm db dm cd N:Nat}{p:Option Addr}{c:dE}{d:eF}{X:Nat->Prop}(h:CkAt w z0 z av b sb hm db dm p cd N c d)(k:Kept X w w')(h1:X b)(h2:X sb)(h3:X hm)(h4:X db)(h5:X dm)(h6:∀a,p=some a->X a.block)(hU:∀q,q<w.heap.size->¬X q->notU w q):CkAt w' z0 z av b sb hm db dm p cd N c d:=
 ⟨⟨(k.block _ h1).trans h.cc.blk,h.cc.num,h.cc.slots.keptU k h2 hU,h.cc.map.kept k h3,h.cc.pgs,h.cc.uq,h.cc.rng⟩,h.dk.kept k h4 h5 (fun a _ ha=>h6 a ha),h.nN,h.lo,Nat.le_trans h.hi k.size⟩
theorem iB.kept{w w':World}{p:Option Addr}{n:Nat}{D:Nat->Mt}{X:Nat->Prop}(h:iB w p n D)(k:Kept X w w')(hX:∀a,0<n->p=some a->X a.block):iB w' p n D where
 cell:=fun hn=>by
  obtain⟨g,o,h1,h2,h3⟩:=h.cell hn;exact⟨g,o,h1,Nat.lt_of_lt_of_le h2 k.size,fun i hi f v hv=>(k.cell (a:=⟨g,o+i*9+f,none⟩) (hX ⟨g,o,none⟩ hn h1)).trans (h3 i hi f v hv)⟩
 str:=h.str
theorem xE.kept{w w':World}{bb sz n N:Nat}{q:Option Addr}{c:Nat}{im:Option Addr}{ci:Nat}{D:Nat->Mt}{F:nI}{X:Nat->Prop}(h:xE w bb sz n N q c im ci D F)(k:Kept X w w')(hX:∀x,bkX bb q n im N x->X x):xE w' bb sz n N q c im ci D F:=
 ⟨(k.block _ (hX _ (.inl rfl))).trans h.blk,h.dir.kept k (fun a hn ha=>hX _ (.inr (.inl ⟨hn,a,ha,rfl⟩))),h.d1,h.d2,h.img.kept k (fun a hn ha=>hX _ (.inr (.inr ⟨hn,a,ha,rfl⟩))),h.i1,h.i2⟩
theorem xE.lts{w:World}{bb sz n N:Nat}{q:Option Addr}{c:Nat}{im:Option Addr}{ci:Nat}{D:Nat->Mt}{F:nI}(h:xE w bb sz n N q c im ci D F)(x:Nat)(hx:bkX bb q n im N x):x<w.heap.size:=by
 rcases hx with rfl | ⟨hn,a,ha,rfl⟩ | ⟨hn,a,ha,rfl⟩
 ·exact lt_of_block h.blk
 ·obtain⟨g,o,e,h2,_⟩:=h.dir.cell hn;rw[e]at ha;cases ha;exact h2
 ·obtain⟨g,o,e,h2,_⟩:=h.img hn;rw[e]at ha;cases ha;exact h2
structure iR where
 fb:Nat
 z0:Nat
 dm:Nat
 pb:Nat
 N:Nat
 bb:Nat
 sz:Nat
 n:Nat
 NI:Nat
 q:Option Addr
 cq:Nat
 im:Option Addr
 ci:Nat
 L:Nat
 D:Nat->Mt
 F:nI
def iR.wr(P:iR)(x:Nat):Prop:=x=P.fb\/x=P.z0+2\/x=P.z0\/x=P.z0+1\/x=P.dm+1\/x=P.dm
def iR.bk(P:iR):Nat->Prop:=bkX P.bb P.q P.n P.im P.NI
def iR.but(P:iR)(w:World)(x:Nat):Prop:=x<w.heap.size/\¬P.wr x
structure FyS(P:iR)(W:World)(c:dE)(d:eF)(a m:Int):Prop where
 ft:FtAt W P.fb (P.z0+2) P.bb a m
 ck:CkAt W P.z0 (P.z0+3) (P.z0+2) (P.z0+2) P.z0 (P.z0+1) (P.dm+1) P.dm (some ⟨P.pb,0,none⟩) P.N P.N c d
 byt:uA c.S
 bk:xE W P.bb P.sz P.n P.NI P.q P.cq P.im P.ci P.D P.F
 bn:BkN P.sz P.n P.NI P.D P.F
 bl:∀x,P.bk x->x<P.L
 lo:P.L<=P.dm/\P.L<=P.z0/\P.L<=P.pb/\P.pb<P.z0/\P.dm+1<P.z0/\P.z0+3<=P.fb/\P.pb<P.dm
 pg:P.NI<=64*P.N
 lt:P.pb<W.heap.size
namespace FyS
variable {P:iR} {W V:World} {c:dE} {d:eF} {a m:Int}
theorem lts(h:FyS P W c d a m)(x:Nat)(hx:P.wr x\/x=P.pb\/P.bk x):x<W.heap.size:=by
 rcases hx with (rfl | rfl | rfl | rfl | rfl | rfl) | rfl | hx
 ·exact h.ft.lt
 ·exact h.ck.cc.ltb
 ·exact h.ck.cc.slots.lt
 ·exact h.ck.cc.map.lt
 ·exact h.ck.dk.ltb
 ·exact h.ck.dk.map.lt
 ·exact h.lt
 ·exact h.bk.lts x hx
theorem kept{X:Nat->Prop}(h:FyS P W c d a m)(k:Kept X W V)(h1:∀x,P.wr x\/x=P.pb\/P.bk x->X x)(hU:∀x,x<W.heap.size->¬X x->notU W x):FyS P V c d a m:=
 ⟨h.ft.kept k (h1 _ (.inl (.inl rfl))),h.ck.keptU k (h1 _ (.inl (by unfold iR.wr;simp))) (h1 _ (.inl (by unfold iR.wr;simp))) (h1 _ (.inl (by unfold iR.wr;simp))) (h1 _ (.inl (by unfold iR.wr;simp))) (h1 _ (.inl (by unfold iR.wr;simp))) (fun a ha=>by cases ha;exact h1 _ (.inr (.inl rfl))) hU,
  h.byt,h.bk.kept k (fun x hx=>h1 x (.inr (.inr hx))),h.bn,h.bl,h.lo,h.pg,Nat.lt_of_lt_of_le h.lt k.size⟩
theorem old(h:FyS P W c d a m)(k:Old W V):FyS P V c d a m:=h.kept k (fun x hx=>h.lts x hx) fun x hx hn=>absurd hx hn
theorem row{W1:World}{c1:dE}{d1:eF}{a1 m1:Int}(h1:FyS P W1 c1 d1 a1 m1)(h:FyS P W c d a m){b:Nat}{x:Int}(hb:W1.heap.size<=b)(hx:W.cell? ⟨b,0,none⟩=some (vI iJ x))(k:Kept (fun q=>q≠b) W V):FyS P V c d a m:=
 h.kept k (fun x hx e=>by have:=h1.lts x hx;omega) fun q _ hq v hv=>by
  have hq:q=b:=Classical.not_not.1 hq;rw[hq,hx]at hv;cases hv
theorem asked(h:FyS P W c d a m)(x:Int):FyS P (W.setCell ⟨P.fb,2,none⟩ (vI iJ x)) c d x m:=by
 have k:Kept (fun j=>j≠P.fb) W (W.setCell ⟨P.fb,2,none⟩ (vI iJ x)):=Kept.setCell W (a:=⟨P.fb,2,none⟩) (fun e=>e rfl) _;have hl:=h.lo;refine⟨h.ft.asked x,h.ck.keptU k zO zO zO zO zO (fun a ha=>by cases ha;show P.pb≠P.fb;omega) ?_,h.byt,h.bk.kept k (fun x hx=>by have:=h.bl x hx;omega),h.bn,h.bl,h.lo,h.pg,Nat.lt_of_lt_of_le h.lt k.size⟩;intro q _ hq v hv;have hq:q=P.fb:=Classical.not_not.1 hq;rw[hq,h.ft.cells.1]at hv;cases hv
theorem missed(h:FyS P W c d a m)(x:Int):FyS P (W.setCell ⟨P.fb,3,none⟩ (vI iJ x)) c d a x:=by
 have k:Kept (fun j=>j≠P.fb) W (W.setCell ⟨P.fb,3,none⟩ (vI iJ x)):=Kept.setCell W (a:=⟨P.fb,3,none⟩) (fun e=>e rfl) _;have hl:=h.lo;refine⟨h.ft.missed x,h.ck.keptU k zO zO zO zO zO (fun a ha=>by cases ha;show P.pb≠P.fb;omega) ?_,h.byt,h.bk.kept k (fun x hx=>by have:=h.bl x hx;omega),h.bn,h.bl,h.lo,h.pg,Nat.lt_of_lt_of_le h.lt k.size⟩;intro q _ hq v hv;have hq:q=P.fb:=Classical.not_not.1 hq;rw[hq,h.ft.cells.1]at hv;cases hv
theorem Span(h:FyS P W c d a m){at_ n:Nat}(hn:at_+n<=64*P.N):Calls zP 209 #[.pointer (some ⟨P.z0+2,0,none⟩),vI iJ (at_:Int),vI iJ (n:Int)] W fun e V=>
  sU W.heap.size V n (fM c d at_ n).r e/\(∀G,(fM c d at_ n).r=some G->lS G n)/\FyS P V (fM c d at_ n).c (fM c d at_ n).d a m/\Kept (P.but W) W V:=by
 refine(YE _ _ _ _ _ _ _ _ _ _ _ at_ n c d W h.ck hn zO).mono ?_;rintro e V ⟨r1,r2,r3⟩;have hl:=h.lo;obtain⟨b1,b2,b3,b4⟩:=aDk (at_:=at_) (n:=n) (c:=c) (d:=d) (by rw[h.ck.nN];exact hn) h.byt h.ck.dk.byt;refine⟨r1,b1,⟨h.ft.kept r3 ⟨h.ft.lt,zO,zO,zO,zO,zO⟩,r2,b2,h.bk.kept r3 (fun x hx=>?_),h.bn,h.bl,h.lo,h.pg,Nat.lt_of_lt_of_le h.lt r3.size⟩,r3.mono fun x hx=>?_⟩
 ·have h1:=h.bl x hx;exact⟨h.bk.lts x hx,zO,zO,zO,zO,zO⟩
 ·obtain⟨h1,h2⟩:=hx;unfold iR.wr at h2;exact⟨h1,zO,zO,zO,zO,zO⟩
end FyS
def aCK(W V:World)(bs:Option (List Int))(er:Int)(e:Ending):Prop:=
 ∃X k p cap T,e=rJ (.tuple #[.agg (aA 29 (aR X (.slice p k cap))),vI iJ er])/\k<=cap/\cap<=maxLen/\SlF 2 V p k T/\aD T /\
  (er=0->∃b,bs=some b/\mC X k T/\kC b (enc X k T)/\∀F0 n0 T0,mC F0 n0 T0->kC b (enc F0 n0 T0)->mO X k T F0 n0 T0)/\(er≠0->k=0/\p=none/\∀j,X j=0)/\(0<k->∀a,p=some a->W.heap.size<=a.block)
theorem aCK.none{W V:World}{bs:Option (List Int)}{er:Int}(h:er≠0):aCK W V bs er (rJ (.tuple #[.agg (aA 29 (aR (fun _=>0) (.slice none 0 0))),vI iJ er])):=
 ⟨fun _=>0,0,Option.none,0,fun _=>0,rfl,Nat.le_refl _,Nat.zero_le _,fun h=>absurd h zO,fun _=>by dsimp only;omega,fun e=>absurd e h,fun _=>⟨rfl,rfl,fun _=>rfl⟩,fun h=>absurd h zO⟩
noncomputable def aBe(P:iR)(i ch bl:Int):Option (nI)->Int
 | none=>8
 | some G=>kL (DK P.D P.F i.toNat (oO P.D i ch bl)) (gQ G P.sz)
def aFA(P:iR)(r:Option (nI)):Option (List Int):=r.map fun G=>gQ G P.sz
theorem FyS.place{P:iR}{W:World}{c:dE}{d:eF}{a m:Int}(h:FyS P W c d a m){i ch bl:Int}(hw:DR P.n P.D i ch bl=0):iZ P.sz P.D i.toNat (oO P.D i ch bl)+P.sz<=64*P.N:=by
 obtain⟨k,c,b,rfl,rfl,rfl,h1,h2,h3⟩:=aBF hw;have:=(h.bn.pl k _ h1 (AB h2 h3)).2;have:=h.pg;unfold iZ;rw[Int.toNat_natCast];omega
theorem FyS.box{P:iR}{W W0 V:World}{c:dE}{d:eF}{a m:Int}(h:FyS P W c d a m){b0:Nat}{x:Obj}(hb:b0=W.heap.size)(hR:W0.heap[b0]?=some x)(hK:Kept (P.but W0) W0 V):V.heap[b0]?=some x:=by
 refine(hK.block b0 ⟨?_,fun hx=>?_⟩).trans hR
 ·exact Classical.byContradiction fun hn=>by rw[Array.getElem?_eq_none zO]at hR;cases hR
 ·have:=h.lts b0 (.inl hx);omega
theorem FyS.stored{P:iR}{W W0 V:World}{c0 c:dE}{d0 d:eF}{a0 a m0 m:Int}(h:FyS P W c0 d0 a0 m0)(hO:Old W W0)(hv:FyS P V c d a m)(hK:Kept (P.but W0) W0 V){b0:Nat}(hb:b0=W.heap.size){X:nI}{s:Value}{t:TypeId}(hR:V.heap[b0]?=some (.cells (aA 29 (aR X s)) t (0,0)))(cs:Array Value):
  FyS P (V.setRow b0 cs) c d a m/\Kept (P.but W) W (V.setRow b0 cs)/\(V.setRow b0 cs).heap[b0]?=some (.cells cs t (0,0)):=by
 refine⟨h.row hv (b:=b0) (x:=X 0) zO ((cell_of_row _ _ _ _ _ _ hR).trans (bI 29 _ 0 zO)) (Kept.setRow _ _ _),?_,setRow_heap _ _ _ _ _ _ hR⟩;exact((hO.kept (X:=P.but W) fun x hx=>hx.1).trans (hK.mono fun x hx=>⟨Nat.lt_of_lt_of_le hx.1 hO.size,hx.2⟩)).trans ((Kept.setRow V b0 cs).mono fun x hx e=>by have:=hx.1;omega)
theorem aEp(P:iR)(W:World)(c:dE)(d:eF)(a m:Int)(h:FyS P W c d a m)(i ch bl:Int)(hw:DR P.n P.D i ch bl=0):
  Calls zP 161 #[.pointer (some ⟨P.fb,0,none⟩),vI iJ (iZ P.sz P.D i.toNat (oO P.D i ch bl)),vI iJ i,vI iJ ch,vI iJ bl] W fun e V=>
   aCK W V (aFA P (fM c d (iZ P.sz P.D i.toNat (oO P.D i ch bl)) P.sz).r) (aBe P i ch bl (fM c d (iZ P.sz P.D i.toNat (oO P.D i ch bl)) P.sz).r) e/\FyS P V (fM c d (iZ P.sz P.D i.toNat (oO P.D i ch bl)) P.sz).c (fM c d (iZ P.sz P.D i.toNat (oO P.D i ch bl)) P.sz).d a m/\Kept (P.but W) W V:=by
 have Hs29:Hid ((zP.info? 98).map (·.size)=some 29):=zH zK;obtain⟨z,hz⟩:∃z:Array Value,z=aA 29 (aR (fun _=>0) (.slice none 0 0)):=⟨_,rfl⟩
 have hzs:z.size=29:=by rw[hz,aB]
 have hz1:z.all (·.oneCell')=true:=by rw[hz];exact cN _ _ rfl
 have HZf:=zH hz;rw[eZ]at hz;obtain⟨b0,hb0⟩:∃b,b=W.heap.size:=⟨_,rfl⟩
 obtain⟨W0,hW0⟩:=zG (W.alloc (.cells z 98));have hR:W0.heap[b0]?=some (.cells z 98 (0,0)):=by rw[hW0,hb0];exact heap_alloc_new _ _
 have hO:Old W W0:=by rw[hW0];exact Old.alloc _ _
 have hpl:=h.place hw;obtain⟨A,hA⟩:=zG (iZ P.sz P.D i.toNat (oO P.D i ch bl));rw[<-hA]at hpl |-;obtain⟨R,hRR⟩:=zG (fM c d A P.sz);have h0:=h.old hO;rw[<-hRR];have HSp2:Hid (∀V,Old W0 V->V.heap.size=W0.heap.size->Calls zP 209 #[.pointer (some ⟨P.z0+2,0,none⟩),vI iJ (A:Int),vI iJ (P.sz:Int)] V fun e V'=>
   sU V.heap.size V' P.sz R.r e/\(∀G,R.r=some G->lS G P.sz)/\FyS P V' R.c R.d a m/\Kept (P.but V) V V'):=zH fun V hV _=>by
  have:=(h0.old hV).Span (at_:=A) (n:=P.sz) hpl;rw[<-hRR]at this;exact this
 obtain⟨r,hr⟩:=zG (R.r);rw[<-hr]at HSp2 |-;obtain⟨ev,hev⟩:=zG (aBe P i ch bl);rw[<-hev];have HEv:=zH hev;have HOp:=zH (fun(V:World) (c:dE) (d:eF) (hV:FyS P V c d a m) p m2 cap G hs hb h1 h2 hm=>ZY P.bb P.sz P.n P.NI P.q P.cq P.im P.ci P.D P.F V hV.bk hV.bn i ch bl p m2 cap G hs hb h1 h2 hm);have HSz:=zH (fun(V:World) (hV:Old W0 V)=>CW P.bb P.sz V (h0.old hV).bk.size_.1);have HFt:=zH (fun(V:World) (c:dE) (d:eF) (hV:FyS P V c d a m)=>And.intro hV.ft.cells.1 hV.ft.cells.2.1);have HF0:=zH h0;have Hz:=zH hz;have Hz1:=zH hz1;have Hzs:=zH hzs;have Hi:Hid ((zP.info? 98).map (·.size)=some z.size):=by unfold Hid;rw[hzs];exact Hs29.o
 have HW0:=zH hW0;have HR:=zH hR;have HO:=zH hO;have HB0:=zH hb0;have HW:=zH hw;have HF:=zH h;have hz96:=h.bn.z2;obtain⟨fb,hfb⟩:∃x,x=P.fb:=⟨_,rfl⟩
 obtain⟨cb,hcb⟩:∃x,x=P.z0+2:=⟨_,rfl⟩
 obtain⟨bb,hbb⟩:∃x,x=P.bb:=⟨_,rfl⟩
 obtain⟨sz,hsz⟩:∃x,x=P.sz:=⟨_,rfl⟩
 rw[<-hfb,<-hcb,<-hbb]at HFt;rw[<-hcb,<-hsz]at HSp2;rw[<-hbb,<-hsz]at HSz;rw[<-hbb]at HOp;rw[<-hfb];have hsz96:sz<=96:=zO;have HSZ:=zH hsz;clear hz hzs hW0 hR hO hb0 hz1 hr hev hA hRR hpl h0 hw h hfb hcb hbb hz96 hsz;go_enter func161,ntmps161
 go_wp2_with fail
 rw[<-Hz.o,<-HW0.o,<-HB0.o];clear HW0;refine wp_region_held_drew (S:=(fun V=>V.cell? ⟨fb,0,none⟩=some (.pointer (some ⟨cb,0,none⟩))/\V.cell? ⟨fb,1,none⟩=some (.pointer (some ⟨bb,0,none⟩)))) zK ?_ (fun hHeld=>?_)
 ·(try dsimp only);exact HFt.o _ _ _ (HF0.o.old (Old.refl W0).drew)
 refine (uU 0) ((uU 1) ((uU 2) ((uU 3) ((uU 4) ((uU 5) ((uU 6) ((uU 7) ((uU 8) ?_))))))));refine wpR 9 rfl (fun K hK=>?_);go_simp;refine(HSz.o _ (Old.refl W0).drew).mono ?_;rintro e V ⟨rfl,hv⟩;subst hv
 go_wp2_with fail
 refine hK.out _ _ ?_ (fun hHeld=>?_)
 ·(try dsimp only);exact HFt.o _ _ _ (HF0.o.old (Old.refl W0).drew)
 clear hK K
 try simp only[Act.put,sA,sZ,sS]
 refine wpR 10 rfl (fun K hK=>?_);go_simp;refine(HSp2.o _ (Old.refl W0).drew rfl).mono ?_;rintro e V ⟨h1,h2,h3,h4⟩;have HV:=zH h3;have HK:=zH h4;have hbx:=HF.o.box HB0.o (W0:=W0.drew) HR.o h4;have HBx:=zH hbx;have hbx2:=hbx;rw[HZf.o]at hbx2;have HSt:=zH (fun cs=>HF.o.stored HO.o.drew h3 h4 HB0.o hbx2 cs);have HCl:=zH (HFt.o _ _ _ h3);have HBy:=zH h2;have HVs:=zH (show W.heap.size<=V.heap.size from Nat.le_trans HO.o.size h4.size);clear hbx hbx2 h3 h4 h2 HSp2 HSz HFt HF0 HR;cases r with
 | none=>
  have h1:e=rJ (.tuple #[.slice none 0 0,vI iJ 8]):=h1;subst h1;have HE:Hid (ev none=8):=zH (by rw[HEv.o];rfl);clear HOp
  go_wp2_with fail
  refine hK.out _ _ ?_ (fun hHeld=>?_)
  ·(try dsimp only);exact HCl.o
  clear hK K;refine (uU 11) ((uU 12) ((uU 13) ((uU 14) ((uU 15) ?_))));refine wpAnyH_done zK ?_ _
  go_wp2_with (rw[<-Hz.o];with_reducible refine wpList_store_row rfl 98 _ _ rfl b0 z rfl rfl 98 _ HBx.o Hi.o rfl Hz1.o ?_)
  obtain⟨s1,s2,s3⟩:=HSt.o z;refine bodyPost_ret (aU rfl _ _ b0 98 z (0,0) _ rfl s3 underlying98 rfl Hi.o) rfl ⟨?_,s1,s2⟩;rw[HE.o];have:=aCK.none (W:=W) (V:=V.setRow b0 z) (bs:=aFA P none) (er:=8) zD;rw[<-HZf.o]at this;exact this
 | some G=>
  obtain⟨q,cp,h1,s1,s2,s3,s4⟩:=h1;subst h1;have hop:=HOp.o V R.c R.d HV.o q sz cp G s3 (HBy.o G rfl) s1 s2 zO;have he:aEV P.n P.D P.F i ch bl (gQ G sz)=ev (some G):=by
   unfold aEV;rw[if_neg (fun e=>e HW.o),HSZ.o,HEv.o];rfl
  rw[he]at hop;have HOp2:=zH hop;obtain⟨c0,c1⟩:=HCl.o;clear hop he s1 s2 s3 s4 HOp HBy
  go_wp2_with fail
  refine hK.out _ _ ?_ (fun hHeld=>?_)
  ·(try dsimp only);exact HCl.o
  clear hK K;refine (uU 11) ((uU 12) ((uU 13) ((uU 14) ((uU 15) ?_))));refine wpAnyH_done zK ?_ _
  go_wp2_with fail
  refine HOp2.o.mono ?_;rintro e V2 ⟨X,k,pg,cg,U,rfl,oo,g1,g2,g3,g4,g5,g6,g7⟩;have H1g:Hid ((aA 29 (aR X (.slice pg k cg))).all (·.oneCell')=true):=zH (cN _ _ rfl);have hK2:Kept (P.but W0.drew) W0.drew V2:=HK.o.trans (oo.kept (X:=P.but W0.drew) fun x hx=>Nat.lt_of_lt_of_le hx.1 HK.o.size);have hb2:=(oo.block _ (lt_of_block HBx.o)).trans HBx.o;have HB2:=zH hb2;rw[HZf.o]at hb2;have HSt2:=zH (fun cs=>HF.o.stored HO.o.drew (HV.o.old oo) hK2 HB0.o hb2 cs);have hbV:=lt_of_block HBx.o;have HG:=zH (And.intro g1 (And.intro g2 (And.intro g3 (And.intro g4 (And.intro g5 (And.intro g6 (fun h a ha=>And.intro (Nat.lt_of_lt_of_le hbV (g7 h a ha)) (Nat.le_trans HVs.o (g7 h a ha)))))))));clear oo g1 g2 g3 g4 g5 g6 g7 hK2 hb2 hbV HOp2 HSt HF HBx HCl HK HV HO c0 c1
  go_wp2_with (with_reducible refine wpList_store_row rfl 98 _ _ rfl b0 (aA 29 (aR X (.slice pg k cg))) rfl rfl 98 _ HB2.o (by rw[aB];exact Hs29.o) (by rw[aB];exact Hzs.o) H1g.o ?_)
  obtain⟨s1,s2,s3⟩:=HSt2.o (aA 29 (aR X (.slice pg k cg)));refine bodyPost_ret (aU rfl _ _ b0 98 (aA 29 (aR X (.slice pg k cg))) (0,0) _ rfl s3 underlying98 rfl (by rw[aB];exact Hs29.o)) rfl ⟨?_,s1,s2⟩;obtain⟨g1,g2,g3,g4,g5,g6,g7⟩:=HG.o;exact⟨X,k,pg,cg,U,rfl,g1,g2,g3.kept (Kept.setRow _ _ _) (fun a hn ha=>by have:=(g7 hn a ha).1;omega),g4,fun e=>⟨gQ G sz,by rw[HSZ.o];rfl,(g5 e).1,(g5 e).2.1,(g5 e).2.2⟩,g6,fun hn a ha=>(g7 hn a ha).2⟩
theorem iR.next{P:iR}{W V V2:World}(h:Kept (P.but W) W V)(k:Kept (P.but V) V V2):Kept (P.but W) W V2:=h.trans (k.mono fun x hx=>⟨Nat.lt_of_lt_of_le hx.1 h.size,hx.2⟩)
theorem iR.old{P:iR}{W V V2:World}(h:Kept (P.but W) W V)(k:Old V V2):Kept (P.but W) W V2:=h.trans (k.kept fun x hx=>Nat.lt_of_lt_of_le hx.1 h.size)
theorem iR.set{P:iR}{W V:World}(h:Kept (P.but W) W V)(o:Nat)(v:Value):Kept (P.but W) W (V.setCell ⟨P.fb,o,none⟩ v):=h.trans (Kept.setCell V (a:=⟨P.fb,o,none⟩) (fun e=>e.2 (.inl rfl)) _)
theorem FyS.stored2{P:iR}{W V:World}{c0 c:dE}{d0 d:eF}{a0 a m0 m:Int}(h:FyS P W c0 d0 a0 m0)(hv:FyS P V c d a m)(hK:Kept (P.but W) W V){b0:Nat}(hb:b0=W.heap.size){X:nI}{s:Value}{t:TypeId}(hR:V.heap[b0]?=some (.cells (aA 29 (aR X s)) t (0,0)))(cs:Array Value):
  FyS P (V.setRow b0 cs) c d a m/\Kept (P.but W) W (V.setRow b0 cs)/\(V.setRow b0 cs).heap[b0]?=some (.cells cs t (0,0)):=by
 refine⟨h.row hv (b:=b0) (x:=X 0) zO ((cell_of_row _ _ _ _ _ _ hR).trans (bI 29 _ 0 zO)) (Kept.setRow _ _ _),?_,setRow_heap _ _ _ _ _ _ hR⟩;exact hK.trans ((Kept.setRow V b0 cs).mono fun x hx e=>by have:=hx.1;omega)
theorem VG(P:iR)(W:World)(c:dE)(d:eF)(a m:Int)(h:FyS P W c d a m)(i ch bl:Int)(hw:DR P.n P.D i ch bl=0):
  Calls zP 118 #[.pointer (some ⟨P.fb,0,none⟩),vI iJ i,vI iJ ch,vI iJ bl] W fun e V=>
   aCK W V (aFA P (fM c d (iZ P.sz P.D i.toNat (oO P.D i ch bl)) P.sz).r) (aBe P i ch bl (fM c d (iZ P.sz P.D i.toNat (oO P.D i ch bl)) P.sz).r) e /\
   FyS P V (fM c d (iZ P.sz P.D i.toNat (oO P.D i ch bl)) P.sz).c (fM c d (iZ P.sz P.D i.toNat (oO P.D i ch bl)) P.sz).d (wrap64 (a+1)) (if aBe P i ch bl (fM c d (iZ P.sz P.D i.toNat (oO P.D i ch bl)) P.sz).r=0 then m else wrap64 (m+1))/\Kept (P.but W) W V:=by
 have Hs29:Hid ((zP.info? 98).map (·.size)=some 29):=zH zK;obtain⟨z,hz⟩:∃z:Array Value,z=aA 29 (aR (fun _=>0) (.slice none 0 0)):=⟨_,rfl⟩
 have hzs:z.size=29:=by rw[hz,aB]
 have hz1:z.all (·.oneCell')=true:=by rw[hz];exact cN _ _ rfl
 have HZf:=zH hz;rw[eZ]at hz;obtain⟨b0,hb0⟩:∃b,b=W.heap.size:=⟨_,rfl⟩
 obtain⟨W0,hW0⟩:=zG (W.alloc (.cells z 98));have hR:W0.heap[b0]?=some (.cells z 98 (0,0)):=by rw[hW0,hb0];exact heap_alloc_new _ _
 have hO:Old W W0:=by rw[hW0];exact Old.alloc _ _
 have h0:=h.old hO;obtain⟨_,c1,_,_,_⟩:=h0.ft.cells;have HM:=zH (GK P.fb P.bb W0 c1);have HWh:=zH (AZ P.bb P.sz P.n P.NI P.q P.cq P.im P.ci P.D P.F W0 h0.bk h0.bn i ch bl);obtain⟨q,hq⟩:=zG (wrap64 (a+1));have e1:wrap64 (a+1)=q:=hq.symm;have hAs:=fun V (hV:FyS P V c d q m)=>aEp P V c d q m hV i ch bl hw;rw[<-hq];rw[hw]at HWh;obtain⟨A,hA⟩:=zG (iZ P.sz P.D i.toNat (oO P.D i ch bl));rw[<-hA]at hAs HWh |-;obtain⟨R,hRR⟩:=zG (fM c d A P.sz);rw[<-hRR]at hAs |-;obtain⟨E,hE⟩:=zG (aBe P i ch bl R.r);rw[<-hE]at hAs |-;obtain⟨bs,hbs⟩:=zG (aFA P R.r);rw[<-hbs]at hAs |-;have HAs:=zH hAs;have HFt:=zH (fun V (hV:Old W0 V)=>(h0.old hV).ft.cells);have HF:=zH h;have HF0:=zH h0;have Hz:=zH hz;have Hzs:=zH hzs;have Hz1:=zH hz1;have Hi:Hid ((zP.info? 98).map (·.size)=some z.size):=by unfold Hid;rw[hzs];exact Hs29.o
 have HW0:=zH hW0;have HR:=zH hR;have HO:=zH hO;have HB0:=zH hb0;obtain⟨fb,hfb⟩:∃x,x=P.fb:=⟨_,rfl⟩
 obtain⟨bb,hbb⟩:∃x,x=P.bb:=⟨_,rfl⟩
 rw[<-hfb]at HM c1 HAs HFt |-;rw[<-hbb]at HWh c1 HFt;have HFb:=zH hfb;clear hz hzs hW0 hR hO hb0 hz1 h hw h0 hfb hbb hq hAs hA hRR hE hbs;go_enter func118,ntmps118
 go_wp2_with fail
 rw[<-Hz.o,<-HW0.o,<-HB0.o];clear HW0;refine HM.o.mono ?_;rintro e w1 ⟨rfl,rfl⟩;clear HM
 go_wp2_with fail
 refine HWh.o.mono ?_;rintro e W2 ⟨a1,S,rfl,h3,_,o1⟩;obtain⟨rfl,_⟩:=h3 (by trivial);obtain⟨_,_,k2,_,kf⟩:=HFt.o _ o1;have f2:=kf 2;have hF2:=HF0.o.old o1;have hF3:=hF2.asked q;have hK3:=iR.set (iR.old (P:=P) (Kept.refl _ _) (HO.o.trans o1)) 2 (vI iJ q);have hR3:(W2.setCell ⟨P.fb,2,none⟩ (vI iJ q)).heap[b0]?=some (.cells z 98 (0,0)):=by
  refine((Kept.setCell (X:=fun j=>j≠P.fb) W2 (a:=⟨P.fb,2,none⟩) (fun e=>e rfl) (vI iJ q)).block b0 ?_).trans ((o1.block _ (lt_of_block HR.o)).trans HR.o);have:=HF.o.lts P.fb (.inl (.inl rfl));have:=HB0.o;omega
 rw[<-HFb.o]at hF3 hK3 hR3;have HF3:=zH hF3;have HK3:=zH hK3;have HR3:=zH hR3;clear h3 o1 c1 kf hF2 hF3 hK3 hR3 HWh HFt HF0
 go_wp2_with fail
 clear k2 f2;refine(HAs.o _ HF3.o).mono ?_;rintro e V ⟨⟨X,k,pg,cg,U,rfl,g1,g2,g3,g4,g5,g6,g7⟩,hF,hK⟩;have hWV:=HK3.o.size;obtain⟨b1,hb1⟩:∃b,b=V.heap.size:=⟨_,rfl⟩
 obtain⟨V3,hV3⟩:∃x,x=V.alloc (.cells (aA 29 (aR X (.slice pg k cg))) 98):=⟨_,rfl⟩
 have o3:Old V V3:=by rw[hV3];exact Old.alloc _ _
 have hBx:V3.heap[b1]?=some (.cells (aA 29 (aR X (.slice pg k cg))) 98 (0,0)):=by rw[hV3,hb1];exact heap_alloc_new _ _
 have hbox:=(o3.block b0 (lt_of_block (HF.o.box HB0.o HR3.o hK))).trans (HF.o.box HB0.o HR3.o hK);have hKW:=iR.old (iR.next HK3.o hK) o3;have HBx:=zH hBx;have HBo:=zH hbox;have HKW:=zH hKW;have HFV:=zH (hF.old o3);have H1g:Hid ((aA 29 (aR X (.slice pg k cg))).all (·.oneCell')=true):=zH (cN _ _ rfl);have HG:=zH (And.intro g1 (And.intro g2 (And.intro (g3.old o3) (And.intro g4 (And.intro g5 (And.intro g6 (fun h a ha=>Nat.le_trans hWV (g7 h a ha))))))));have Hb01:=zH (show b0<b1 by rw[hb1];exact lt_of_block (HF.o.box HB0.o HR3.o hK));have HV3:=zH hV3;have HB1:=zH hb1;have HN0:=zH (fun(hn:0<k) (a:Addr) (ha:pg=some a)=>show a.block≠b0 from fun e=>by
  have:=g7 hn a ha;have:=lt_of_block HR3.o;omega)
 clear g1 g2 g3 g4 g5 g6 g7 hF hK hWV hb1 hV3 o3 hBx hbox hKW HAs HF3 HK3 HR3 HR HO;by_cases h0:E=0
 ·subst h0;have HSt:=zH (HF.o.stored2 HFV.o HKW.o HB0.o (by rw[<-HZf.o];exact HBo.o) (aA 29 (aR X (.slice pg k cg))))
  go_wp2_with (first | (with_reducible refine wpList_store_row rfl 98 _ _ rfl V.heap.size (aA 29 (aR X (.slice pg k cg))) rfl rfl 98 _ (heap_alloc_new _ _) (by rw[aB];exact Hs29.o) (by rw[aB];kernel_rfl) H1g.o ?_;rw[World.setRow_alloc_new,<-HV3.o,<-HB1.o]) | (with_reducible refine wpList_load_row rfl 98 _ rfl b1 rfl 98 (aA 29 (aR X (.slice pg k cg))) (0,0) _ HBx.o underlying98 rfl (by rw[aB];exact Hs29.o) ?_) | (with_reducible refine wpList_store_row rfl 98 _ _ rfl b0 (aA 29 (aR X (.slice pg k cg))) rfl rfl 98 _ HBo.o (by rw[aB];exact Hs29.o) (by rw[aB];exact Hzs.o) H1g.o ?_))
  obtain⟨s1,s2,s3⟩:=HSt.o;refine bodyPost_ret (aU rfl _ _ b0 98 (aA 29 (aR X (.slice pg k cg))) (0,0) _ rfl s3 underlying98 rfl (by rw[aB];exact Hs29.o)) rfl ⟨?_,s1,s2⟩;obtain⟨g1,g2,g3,g4,g5,g6,g7⟩:=HG.o;exact⟨X,k,pg,cg,U,rfl,g1,g2,g3.kept (Kept.setRow _ _ _) (fun a hn ha=>HN0.o hn a ha),g4,fun _=>g5 (by trivial),fun e=>absurd rfl e,g7⟩
 ·have hd:(E != 0)=true:=by simpa using h0
  obtain⟨q2,hq2⟩:∃q,q=wrap64 (m+1):=⟨_,rfl⟩
  have e2:wrap64 (m+1)=q2:=hq2.symm;have hF4:=HFV.o.missed q2;have hK4:=iR.set HKW.o 3 (vI iJ q2);have hkk:Kept (fun j=>j≠P.fb) V3 (V3.setCell ⟨P.fb,3,none⟩ (vI iJ q2)):=Kept.setCell V3 (a:=⟨P.fb,3,none⟩) (fun e=>e rfl) _;have hfl:=HF.o.lts P.fb (.inl (.inl rfl));have hb04:=(hkk.block b0 (by have:=HB0.o;omega)).trans HBo.o;have hb14:=(hkk.block b1 (by have:=HB0.o;have:=Hb01.o;omega)).trans HBx.o;obtain⟨_,_,_,k3,kf⟩:=HFV.o.ft.cells;have f3:=kf 3;have hg3:=HG.o.2.2.1.kept hkk (fun a hn ha=>by
   have:=HG.o.2.2.2.2.2.2 hn a ha;omega)
  have HSt:=zH (HF.o.stored2 hF4 hK4 HB0.o (by rw[<-HZf.o];exact hb04) (aA 29 (aR X (.slice pg k cg))));rw[<-HFb.o]at hb04 hb14 k3 f3 HSt hg3;have HB04:=zH hb04;have HB14:=zH hb14;have HG3:=zH hg3;have H0:=zH h0;rw[hq2]at HSt;rw[<-hq2]at HSt;clear hF4 hK4 hkk hfl hb04 hb14 kf hg3 h0 hq2 HFV HKW HBo
  go_wp2_with (first | (with_reducible refine wpList_store_row rfl 98 _ _ rfl V.heap.size (aA 29 (aR X (.slice pg k cg))) rfl rfl 98 _ (heap_alloc_new _ _) (by rw[aB];exact Hs29.o) (by rw[aB];kernel_rfl) H1g.o ?_;rw[World.setRow_alloc_new,<-HV3.o,<-HB1.o]) | (with_reducible refine wpList_load_row rfl 98 _ rfl b1 rfl 98 (aA 29 (aR X (.slice pg k cg))) (0,0) _ HB14.o underlying98 rfl (by rw[aB];exact Hs29.o) ?_) | (with_reducible refine wpList_store_row rfl 98 _ _ rfl b0 (aA 29 (aR X (.slice pg k cg))) rfl rfl 98 _ HB04.o (by rw[aB];exact Hs29.o) (by rw[aB];exact Hzs.o) H1g.o ?_))
  obtain⟨s1,s2,s3⟩:=HSt.o;refine bodyPost_ret (aU rfl _ _ b0 98 (aA 29 (aR X (.slice pg k cg))) (0,0) _ rfl s3 underlying98 rfl (by rw[aB];exact Hs29.o)) rfl ⟨?_,?_,s2⟩
  ·obtain⟨g1,g2,g3,g4,g5,g6,g7⟩:=HG.o;exact⟨X,k,pg,cg,U,rfl,g1,g2,HG3.o.kept (Kept.setRow _ _ _) (fun a hn ha=>HN0.o hn a ha),g4,fun e=>absurd e H0.o,g6,g7⟩
  ·exact s1
structure MdR(w:World)(P:iR)(ab g:Nat)(Z:Nat->aM)(c:dE)(d:eF)(w':World):Prop where
 all:w'.heap[ab]?=some (.cells #[.pointer (some ⟨P.bb,0,none⟩),.pointer (some ⟨P.dm+1,0,none⟩),.pointer (some ⟨P.fb,0,none⟩),.slice (some ⟨g,0,none⟩) P.NI P.NI] 36 (0,0))
 fy:FyS P w' c d 0 0
 pk:Pkd P.sz P.n Z P.F
 hD:P.D=eE (aI Z) P.sz P.n
 hI:P.NI=aJ (aQ (aI Z)) P.sz P.n
 hN:P.N=pgs P.NI
 old:Old w w'
 new:∀x,P.wr x->w.heap.size<=x/\x<ab
 bnew:∀x,P.bk x->w.heap.size<=x
def aGL(w:World)(sz:Int)(n:Nat)(L:Nat->aM)(sl rt:Int)(e:Ending)(w':World):Prop:=
 ∃Z0,(∀i,i<min n 8->CB (Z0 i)/\rV (L i) (Z0 i)) /\
  ((e=rJ (.pointer none)/\Old w w'/\¬(aHH sz (min n 8) Z0/\1<=sl/\sl<=1024/\0<=rt/\rt<=8)) \/
   (24<=sz/\sz<=96/\1<=sl/\sl<=1024/\0<=rt/\rt<=8/\∃P ab g Z,e=rJ (.pointer (some ⟨ab,0,none⟩))/\P.sz=sz.toNat/\P.n=min n 8/\pM Z0 (min n 8) Z/\MdR w P ab g Z (cc0 sl.toNat rt.toNat) (dk0 P.NI P.F) w'))
theorem aDH(n:Nat):n<=64*pgs n:=by unfold pgs;omega
theorem DF(sz:Int)(q:Option Addr)(n c:Nat)(L:Nat->aM)(sl rt:Int)(w:World)(hs:nE w q n L):
  Calls zP 7 #[vI iJ sz,.slice q n c,vI iJ sl,vI iJ rt] w (aGL w sz n L sl rt):=by
 have HFw:=zH (aAj q n c L w hs);obtain⟨k,hk⟩:=zG (min n 8);have hk8:k<=8:=zO;unfold aEk at HFw;unfold aGL;rw[<-hk]at HFw |-;clear hs hk;go_enter func7,ntmps7
 go_wp2_with fail
 refine HFw.o.mono ?_;rintro e V1 ⟨p1,c1,Z0,rfl,hsm,hfo,o1⟩;have HPk:=zH (aDa sz p1 k c1 Z0 V1 hsm zO);have HFo:=zH hfo;have HO1:=zH o1;clear hsm hfo o1 HFw
 go_wp2_with fail
 refine HPk.o.mono ?_;intro e V2 hp;rcases aFS hp with ⟨er,h0,rfl,o2,hno⟩ | ⟨h24,h96,hall,Z,g,F,rfl,hpk,hord,hfs⟩
 ·have HE:=zH (HO1.o.trans o2);have HNo:=zH hno;have hd:(er != 0)=true:=by simpa using h0
  clear hp o2 hno h0 HPk
  go_wp2_with fail
  go_ret;exact⟨Z0,HFo.o,.inl ⟨rfl,HE.o,fun h=>HNo.o h.1⟩⟩
 have htot:=hpk.tot;have hbn:=hpk.bkN;obtain⟨N,hN⟩:=zG (aJ (aQ (aI Z)) sz.toNat k);rw[<-hN]at hfs htot hbn |-;have hby:=hbn.byt;have hsl:∀V,Old V2 V->SlU V (some ⟨g,0,none⟩) N F:=fun V hV=>((show SlU V2 (some ⟨g,0,none⟩) N F from fun _=>⟨g,0,rfl,hfs.row.lt,fun j hj=>by rw[Nat.zero_add];exact hfs.row.at_ j hj⟩).old hV)
 have HPa:=zH (TD (some ⟨g,0,none⟩) N N F V2 (hsl _ (Old.refl _)) hby (Nat.le_refl _) (by unfold maxLen;omega) zO);have HDn:=zH (fun V (hV:Old V2 V)=>aFf (some ⟨g,0,none⟩) N N F V (hsl V hV) htot (Nat.le_refl _) hby);have HPp:Hid (∀e V,aBk V2 F N e V->∃bb q c im ci,e=rJ (.tuple #[.pointer (some ⟨bb,0,none⟩),vI iJ 0])/\xE V bb sz.toNat k N q c im ci (eE (aI Z) sz.toNat k) F/\Old V2 V/\∀x,bkX bb q k im N x->V2.heap.size<=x):=zH fun e V h=>by
  have hld:=hpk.ld;rw[hN]at h |-;exact EF zO zO zO hpk.dir hld h
 have HPK:=zH hpk;have HBn:=zH hbn;have HOr:=zH hord;have HN:=zH hN;have HO2:=zH (HO1.o.trans hfs.old);have HZ:=zH (And.intro h24 h96);have hz0:0<sz.toNat:=zO;have hpg:pgs N<=65536:=by unfold pgs;omega
 clear hp hpk hord hfs hN hall hbn hby hsl HPk HO1 h24 h96;obtain⟨z,hz⟩:=zG (sz.toNat);rw[<-hz]at HPp HPK HBn HN hz0;have HSz:=zH hz;clear hz
 go_wp2_with fail
 refine HPa.o.mono ?_;intro e V3 h3;obtain⟨bb,q3,c3,im,ci,rfl,hbk,o3,hbn3⟩:=HPp.o e V3 h3;have HBn3:=zH (fun x hx=>Nat.le_trans HO2.o.size (hbn3 x hx));have HBk:=zH hbk;have HO3:=zH (HO2.o.trans o3);have HD3:=zH (HDn.o V3 o3);clear h3 hbk o3 hbn3 HPa HPp HDn HO2
 go_wp2_with fail
 refine HD3.o.mono ?_;rintro e V4 ⟨dm,rfl,hlt,hdk,o4⟩;have HL:=zH hlt;have HDk:=zH hdk;have HO4:=zH o4;clear hlt hdk o4 HD3;by_cases hbad:sl<1\/1024<sl\/rt<0\/8<rt
 ·have HCn:=zH (aCG (dm+1) sl rt V4 hbad);have HB:=zH hbad;have HE:=zH (HO3.o.trans HO4.o);clear hbad
  go_wp2_with fail
  refine HCn.o.mono ?_;rintro e V5 ⟨rfl,rfl⟩
  go_wp2_with fail
  go_ret;exact⟨Z0,HFo.o,.inl ⟨rfl,HE.o,fun h=>by have:=HB.o;omega⟩⟩
 obtain⟨sn,rfl⟩:∃sn:Nat,sl=sn:=⟨sl.toNat,zO⟩
 obtain⟨rn,rfl⟩:∃rn:Nat,rt=rn:=⟨rt.toNat,zO⟩
 have HB:=zH (show (1<=sn/\sn<=1024/\rn<=8) by omega);have HCn:=zH (aFQ (dm+1) sn rn (pgs N) V4 zO zO zO hpg);clear hbad
 go_wp2_with fail
 refine HCn.o.mono ?_;rintro e V5 ⟨rfl,hs5,hcc,o5⟩;have HO5:=zH o5;have HS5:=zH hs5;have HCc:=zH hcc;obtain⟨cb,hcb⟩:=zG (V4.heap.size+2);have hc4:=hcc.cells.2.2.2.2.1;have HFn:=zH (aEM bb (V4.heap.size+2) (dm+1) z V5 ((HBk.o.old (HO4.o.trans o5)).size_.1) hz0 hc4);rw[<-hcb]at HFn;have HCb:=zH hcb;rw[<-hcb];clear hs5 hcc o5 hc4 hcb HCn
 go_wp2_with fail
 refine HFn.o.mono ?_;rintro e V6 ⟨rfl,hft,hs6,o6⟩;obtain⟨fb,hfb⟩:=zG (V5.heap.size);rw[<-hfb]at hft hs6 |-;obtain⟨V7,hV7⟩:=zG (V6.alloc (.cells #[.pointer (some ⟨bb,0,none⟩),.pointer (some ⟨dm+1,0,none⟩),.pointer (some ⟨fb,0,none⟩),.slice (some ⟨g,0,none⟩) N N] 36));have o7:Old V6 V7:=by rw[hV7];exact Old.alloc _ _
 have hall:V7.heap[V6.heap.size]?=some (.cells #[.pointer (some ⟨bb,0,none⟩),.pointer (some ⟨dm+1,0,none⟩),.pointer (some ⟨fb,0,none⟩),.slice (some ⟨g,0,none⟩) N N] 36 (0,0)):=by rw[hV7];exact heap_alloc_new _ _
 have HMd:Hid (MdR w ⟨fb,V4.heap.size,dm,V3.heap.size,pgs N,bb,z,k,N,q3,c3,im,ci,V3.heap.size,eE (aI Z) z k,F⟩ V6.heap.size g Z (cc0 sn rn) (dk0 N F) V7):=zH (by
  have s5:=HS5.o;have KM:=HDk.o.ltb;have PU:=HDk.o.map.lt;have hl:=HL.o;have hw:=(HO3.o).size;have o57:=o6.trans o7;have ocb:=HCb.o;rw[ocb]at hft;refine⟨hall,⟨hft.old o7,⟨HCc.o.old o57,(HDk.o.old HO5.o).old o57,rfl,⟨by show dm+1<V4.heap.size;omega,by show dm<V4.heap.size;omega,fun a _ ha=>by cases ha;show V3.heap.size<V4.heap.size;omega⟩,by have:=o57.size;show V4.heap.size+3<=_;omega⟩,fun i s hs=>(by(have h0:(none:Option gE)=some s:=hs);cases h0),((HBk.o.old HO4.o).old HO5.o).old o57,HBn.o,fun x hx=>HBk.o.lts x hx,?_,aDH N,?_⟩,HPK.o,rfl,HN.o,rfl,(((HO3.o.trans HO4.o).trans HO5.o).trans o57),?_,HBn3.o⟩
  ·dsimp only;omega
  ·have:=o57.size;dsimp only;omega
  ·intro x hx;unfold iR.wr at hx;dsimp only at hx;have:=HO3.o.size;omega)
 have HV7:=zH hV7;have HZ2:=zH (show z=sz.toNat from HSz.o);clear hft hs6 o6 hfb hV7 o7 hall HFn HCc HDk HBk HPK HBn HL HO3 HO4 HO5 HS5
 go_wp2_with fail
 go_ret;rw[<-HV7.o];exact⟨Z0,HFo.o,.inr ⟨HZ.o.1,HZ.o.2,by have:=HB.o;omega,by have:=HB.o;omega,by have:=HB.o;omega,by have:=HB.o;omega,_,_,g,Z,rfl,HZ2.o,rfl,HOr.o,by rw[Int.toNat_natCast,Int.toNat_natCast];exact HMd.o⟩⟩
theorem XT{P:iR}{W:World}{c:dE}{d:eF}{a m:Int}{Z:Nat->aM}(h:FyS P W c d a m)(hc:rO (oT P.NI P.F) c.S)(hd:xI (oT P.NI P.F) P.N d)(pk:Pkd P.sz P.n Z P.F)(hD:P.D=eE (aI Z) P.sz P.n){i ch bl:Int}(hw:DR P.n P.D i ch bl=0):
  ∃G c' d',fM c d (iZ P.sz P.D i.toNat (oO P.D i ch bl)) P.sz=⟨some G,c',d'⟩/\(∀j,j<P.sz->G j=P.F (iZ P.sz P.D i.toNat (oO P.D i ch bl)+j))/\rO (oT P.NI P.F) c'.S/\xI (oT P.NI P.F) P.N d'/\aBe P i ch bl (some G)=0:=by
 obtain⟨G,c',d',h1,h2,h3,h4⟩:=SM (at_:=iZ P.sz P.D i.toNat (oO P.D i ch bl)) (n:=P.sz) (I:=oT P.NI P.F) (N:=P.N) (h.place hw) (fun j _=>by
  unfold oT;split
  ·exact h.bn.byt j zO
  ·omega) hc hd
 obtain⟨k,cc,b,rfl,rfl,rfl,k1,k2,k3⟩:=aBF hw;have hpl:=(h.bn.pl k _ k1 (AB k2 k3)).2;have hg:∀j,j<P.sz->G j=P.F (iZ P.sz P.D (k:Int).toNat (oO P.D k cc b)+j):=fun j hj=>by
  rw[h2 j hj];unfold oT;rw[if_pos (by unfold iZ;rw[Int.toNat_natCast];omega)]
 refine⟨G,c',d',h1,hg,h3,h4,?_⟩;show kL _ (gQ G P.sz)=0;rw[tW hg,Int.toNat_natCast];have:=pk.good W (k:=k) (c:=cc) (b:=b) k1 (by rw[<-hD];exact k2) (by rw[<-hD];exact k3);rw[<-hD]at this;exact this
structure RunC(w:World)(P:iR)(ab g:Nat)(a m:Int)(W:World):Prop where
 ex:∃c d,FyS P W c d a m/\rO (oT P.NI P.F) c.S/\xI (oT P.NI P.F) P.N d
 all:W.heap[ab]?=some (.cells #[.pointer (some ⟨P.bb,0,none⟩),.pointer (some ⟨P.dm+1,0,none⟩),.pointer (some ⟨P.fb,0,none⟩),.slice (some ⟨g,0,none⟩) P.NI P.NI] 36 (0,0))
 old:Old w W
 new:∀x,P.wr x->w.heap.size<=x/\x<ab
namespace RunC
variable {w W V:World} {P:iR} {ab g:Nat} {a m:Int}
theorem on(h:RunC w P ab g a m W)(o:Old W V):RunC w P ab g a m V:=by
 obtain⟨c,d,h1,h2⟩:=h.ex;exact⟨⟨c,d,h1.old o,h2⟩,(o.block _ (lt_of_block h.all)).trans h.all,h.old.trans o,h.new⟩
theorem cells(h:RunC w P ab g a m W):W.cell? ⟨ab,0,none⟩=some (.pointer (some ⟨P.bb,0,none⟩))/\W.cell? ⟨ab,2,none⟩=some (.pointer (some ⟨P.fb,0,none⟩)):=by
 have:=h.all;exact⟨by simp[World.cell?,this],by simp[World.cell?,this]⟩
theorem ft(h:RunC w P ab g a m W):FtAt W P.fb (P.z0+2) P.bb a m:=by obtain⟨c,d,h1,_⟩:=h.ex;exact h1.ft
theorem start{n:Nat}{sl rt:Nat}{Z:Nat->aM}(h:MdR w P ab g Z (cc0 sl rt) (dk0 P.NI P.F) W):RunC w P ab g 0 0 W:=
 ⟨⟨_,_,h.fy,fun i s hs=>(by(have h0:(none:Option gE)=some s:=hs);cases h0),⟨fun _=>rfl,rfl,h.hN.symm⟩⟩,h.all,h.old,h.new⟩
end RunC
structure ExP(S:aM):Prop where
 s:S.s=⟨#[97]⟩
 r:S.r=1
 lp:S.lp=false
 a:S.a=0
 b:S.b=0
 n:S.n=1
 m:S.M 0=1
 x:S.X 0 0=5
namespace ExP
variable {S:aM}
end ExP
def QI(P:iR)(i ch bl:Int):List Int:=gQ (fun j=>P.F (iZ P.sz P.D i.toNat (oO P.D i ch bl)+j)) P.sz
def FrO(bs:List Int)(E:Int)(X:nI)(k:Nat)(p:Option Addr)(T:nI):Prop:=
 (E=0->mC X k T/\kC bs (enc X k T)/\∀F0 n0 T0,mC F0 n0 T0->kC bs (enc F0 n0 T0)->mO X k T F0 n0 T0)/\(E≠0->k=0/\p=none/\∀j,X j=0)
namespace RunC
variable {w W V:World} {P:iR} {ab g:Nat} {a m:Int}
end RunC
structure GotB(W V:World)(nb:Nat)(X:nI)(k:Nat)(p:Option Addr)(cap:Nat)(T:nI):Prop where
 cells:CellsV V nb 29 (aR X (.slice p k cap))
 ge:W.heap.size<=nb
 k1:k<=cap
 k2:cap<=maxLen
 tn:SlF 2 V p k T
 ft:aD T
structure PV(B0:Nat)(wr:Nat->Prop)(Q:World->Prop):Prop where
 old:∀{W V},Q W->Old W V->Q V
 own:∀{W V q x},Q W->B0<=q->W.cell? ⟨q,0,none⟩=some (vI iJ x)->Kept (bH W q) W V->Q V
 low:∀{x},wr x->x<B0
def PV.but(wr:Nat->Prop)(W:World)(x:Nat):Prop:=x<W.heap.size/\¬wr x
def FrT(Q:World->Prop)(wr:Nat->Prop)(Z:(nI)->Nat->(nI)->Prop)(er:Int)(W:World)(e:Ending)(V:World):Prop:=
 (∃X k p cap T,e=rJ (.tuple #[.agg (aA 29 (aR X (.slice p k cap))),vI iJ er])/\k<=cap/\cap<=maxLen/\SlF 2 V p k T/\aD T/\Z X k T/\(0<k->∀a,p=some a->W.heap.size<=a.block))/\Q V/\Kept (PV.but wr W) W V
structure aIf(Q:World->Prop)(wr:Nat->Prop)(W V:World)(nb:Nat)(X:nI)(k:Nat)(p:Option Addr)(cap:Nat)(T:nI):Prop where
 q:Q V
 kp:Kept (PV.but wr W) W V
 ge:W.heap.size<=nb
 cells:CellsV V nb 29 (aR X (.slice p k cap))
 k1:k<=cap
 k2:cap<=maxLen
 tn:SlF 2 V p k T
 ft:aD T
theorem MP{B0:Nat}{wr:Nat->Prop}{Q:World->Prop}(FM:PV B0 wr Q){W V:World}(hB:B0<=W.heap.size)(hq:Q V)(hK:Kept (PV.but wr W) W V){nb:Nat}(hb:W.heap.size<=nb)(hc:CellsV V nb 29 (aR (fun _=>0) (.slice none 0 0)))
  {X:nI} {k:Nat} {p:Option Addr} {cap:Nat} {T:nI} (g1:k<=cap) (g2:cap<=maxLen) (g3:SlF 2 V p k T) (g4:aD T) (g7:0<k->∀a,p=some a->a.block≠nb):
  aIf Q wr W (V.setCells nb 0 (aA 29 (aR X (.slice p k cap))).toList) nb X k p cap T:=by
 have k2:Kept (fun q=>q≠nb) V (V.setCells nb 0 (aA 29 (aR X (.slice p k cap))).toList):=Kept.setCells V (b:=nb) (fun e=>e rfl) 0 _;exact⟨FM.own hq zO (hc.cell 0 zO) (k2.mono fun x hx=>hx.2),hK.trans (k2.mono fun x hx e=>by have:=hx.1;omega),hb,CL hc _,g1,g2,g3.kept k2 (fun a hn ha=>g7 hn a ha),g4⟩
structure Reg8(b pb:Nat)(pc:nI)(V:World):Prop where
 sh:vW V b 61 47
 pc:V.heap[pb]?=some (.cells (aA 20 (blk pc)) 46 (0,0))
namespace Reg8
variable {b pb:Nat} {pc:nI} {V U:World}
theorem old(h:Reg8 b pb pc V)(k:Old V U):Reg8 b pb pc U:=by
 obtain⟨c,hc,hz⟩:=h.sh;exact⟨⟨c,(k.block _ (lt_of_block hc)).trans hc,hz⟩,(k.block _ (lt_of_block h.pc)).trans h.pc⟩
theorem spec(h:Reg8 b pb pc V)(S:nI)(e:∀j,j<16->pc j=S j)(j:Nat)(hj:j<16):V.cell? ⟨pb,0+j,none⟩=some (vI iJ (S j)):=by
 rw[Nat.zero_add,(cell_of_row _ _ _ _ _ _ h.pc).trans (dR 20 pc j zO),e j hj]
theorem gains(h:Reg8 b pb pc V)(G:nI)(e:∀j,j<4->pc (16+j)=G j)(j:Nat)(hj:j<4):V.cell? ⟨pb,16+j,none⟩=some (vI iJ (G j)):=by
 rw[(cell_of_row _ _ _ _ _ _ h.pc).trans (dR 20 pc (16+j) zO),e j hj]
end Reg8
theorem LX(n:Nat)(F G:nI):zP.built 113 [(0,vI iJ n),(1,.agg (aA 16 (blk F))),(2,.agg (aA 4 (blk G)))]=some (aA 21 (blk (kbF ⟨0,n,F,G⟩))):=zK
theorem JF(b B0:Nat)(wr:Nat->Prop)(Q Q':World->Prop)(FM:PV B0 wr Q)(FM':PV B0 wr Q')(hb:B0<=b)(P0:nI)(l0:Int)(fb:Nat)(i ch len:Int)(Kq:Nat->Option Kb)(ms:Value)(fr:Int)(n:Nat)
  (Z:(nI)->Nat->(nI)->Prop) (hZ:∀X k T,Z X k T->mC X k T) (W:World) (hC:CuS W b (BF P0 l0) (lW fb i ch len) Kq ms fr) (hQ:Q W) (hKB:∀j,j<4->∀x,Kq j=some x->B0<=x.b)
  (HFr:∀V,Q V->Calls zP 118 #[.pointer (some ⟨fb,0,none⟩),vI iJ i,vI iJ ch,vI iJ n] V (FrT Q' wr Z 0 V)):
  Calls zP 74 #[.pointer (some ⟨b,0,none⟩),vI iJ n] W fun e V=>∃kb X k T,e=rJ (.pointer (some ⟨kb.b,0,none⟩))/\kb.n=n/\kb.F=wvF X k T/\kb.G=X/\Z X k T/\KbAt V kb/\W.heap.size<=kb.b/\CuS V b (BF (KY X k T) 0) (lW fb i ch len) Kq ms (wrap64 (fr+1))/\Q' V/\Kept (fun x=>x<W.heap.size/\x≠b/\¬wr x) W V:=by
 have Hs29:Hid ((zP.info? 98).map (·.size)=some 29):=zH zK;have Hs20:Hid ((zP.info? 46).map (·.size)=some 20):=zH zK;have Hs16:=zH Tryz.block_size;have Hs4:Hid ((zP.info? 44).map (·.size)=some 4):=zH zK;obtain⟨z,hz⟩:∃z:Array Value,z=aA 29 (aR (fun _=>0) (.slice none 0 0)):=⟨_,rfl⟩
 have HZf:=zH hz;rw[eZ]at hz;have Hz:=zH hz;have hbW:=hC.lt;have hnw:¬wr b:=fun h=>by have:=FM.low h;omega
 have c0:=hC.cF;have c1:=hC.c.frz 46 zO;obtain⟨W0,hW0⟩:∃V,V=W.setCell ⟨b,46,none⟩ (vI iJ (wrap64 (fr+1))):=⟨_,rfl⟩
 have hC0:=hC.setF (wrap64 (fr+1));have hk0:Kept (fun q=>q≠b) W W0:=by rw[hW0];exact Kept.setCell W (X:=fun q=>q≠b) (a:=⟨b,46,none⟩) (fun e=>e rfl) _
 rw[<-hW0]at hC0;have hsz0:W0.heap.size=W.heap.size:=by rw[hW0];simp[World.setCell]
 have hQ0:Q W0:=FM.own hQ hb (hC.c.cell 0 zO) (hk0.mono fun x hx=>hx.2);have HS:Hid (∀V,Kept (PV.but wr W0) W0 V->V.cell? ⟨b,21,none⟩=some (.pointer (some ⟨fb,0,none⟩))/\V.cell? ⟨b,22,none⟩=some (vI iJ i)/\V.cell? ⟨b,23,none⟩=some (vI iJ ch)):=zH fun V hV=>by
  have hB:PV.but wr W0 b:=⟨hC0.lt,hnw⟩
  exact⟨(hV.cell (a:=⟨b,21,none⟩) hB).trans (hC0.cA 0 zO),(hV.cell (a:=⟨b,22,none⟩) hB).trans (hC0.cA 1 zO),(hV.cell (a:=⟨b,23,none⟩) hB).trans (hC0.cA 2 zO)⟩
 have HCu:Hid (∀V,Kept (PV.but wr W0) W0 V->CuS V b (BF P0 l0) (lW fb i ch len) Kq ms (wrap64 (fr+1))):=zH fun V hV=>hC0.kept hV ⟨hC0.lt,hnw⟩ fun j hj x hx=>⟨(hC0.k j hj x hx).1.lt,fun h=>by have:=FM.low h;have:=hKB j hj x hx;omega⟩
 have HQ0:=zH hQ0;have HFM:=zH FM;have HFM':=zH FM';have HFr':=zH HFr;have HZ:=zH hZ;have HB0:Hid (B0<=b/\b<W.heap.size/\W0.heap.size=W.heap.size/\¬wr b):=zH ⟨hb,hbW,hsz0,hnw⟩;have HK0:=zH hk0;have HKB:=zH hKB;have HW0:=zH hW0;obtain⟨fr1,hfr1⟩:∃x,x=wrap64 (fr+1):=⟨_,rfl⟩
 rw[<-hfr1]at HW0 HCu |-;have e1:=hfr1.symm;clear hC0 hk0 hQ0 hC hQ hKB HFr FM FM' hZ hz hW0 hsz0 hbW hnw hb hfr1;go_enter func74,ntmps74
 go_upto_region 2 with (fail)
 rw[<-HW0.o];clear c0 c1 e1
 go_cut [5,6] (fun bv ev wx=>∃nb X k p cap T,bv=.pointer (some ⟨nb,0,none⟩)/\ev=vI iJ 0/\Hid (aIf Q' wr W0 wx nb X k p cap T/\Z X k T))
 case first=>as_aux_lemma=>
  have hd:Old W0 W0.drew:=(Old.refl W0).drew;have HD:=zH hd;have hB0:B0<=W0.heap.size:=by have:=HB0.o;omega
  clear hd HCu HKB;refine wp_region_held_drew (S:=(fun V=>V.cell? ⟨b,21,none⟩=some (.pointer (some ⟨fb,0,none⟩))/\V.cell? ⟨b,22,none⟩=some (vI iJ i)/\V.cell? ⟨b,23,none⟩=some (vI iJ ch))) zK ?_ (fun hHeld=>?_)
  ·(try dsimp only);exact HS.o _ (HD.o.kept fun x hx=>hx.1)
  refine (uU 0) ((uU 1) ((uU 2) ((uU 3) ((uU 4) ((uU 5) ((uU 6) ((uU 7) ((uU 8) ((uU 9) ((uU 10) ((uU 11) ((uU 12) ?_))))))))))));refine wpAnyH_ready (rs:=[13,17]) zK zS ?_
  (refine AllReadyH.cons (o:=⟨_,_,_,_,_,_⟩) (by rfl) ?_ (AllReadyH.cons (o:=⟨_,_,_,_,_,_⟩) (by rfl) ?_ AllReadyH.nil)) <;> intro K hK
  ·go_simp;refine(HFr'.o _ (HFM.o.old HQ0.o HD.o)).mono ?_;rintro e V ⟨⟨X,k,p,cap,T,rfl,g1,g2,g3,g4,g5,g7⟩,hr,hk⟩;have hk8:Kept (PV.but wr W0) W0 V:=(HD.o.kept (X:=PV.but wr W0) fun x hx=>hx.1).trans (hk.mono fun x hx=>hx);have H1x:Hid ((aA 29 (aR X (.slice p k cap))).all (·.oneCell')=true):=zH (cN _ _ rfl);have hsz:=hk8.size;have ha:=Old.alloc V (.cells z 98);have HG:=zH (MP HFM'.o hB0 (HFM'.o.old hr ha) (hk8.trans (ha.kept fun x hx=>Nat.lt_of_lt_of_le hx.1 hsz)) (nb:=V.heap.size) hsz (AR V z 98 HZf.o) (X:=X) g1 g2 (g3.old ha) g4 (fun hn a ha=>by
    obtain⟨g',o',e,hl,_⟩:=g3 hn;rw[e]at ha;cases ha;show g'≠_;omega))
   have HKv:=zH hk8;have H5:=zH g5;have HKa:=zH (hk8.trans (ha.kept (X:=PV.but wr W0) fun x hx=>Nat.lt_of_lt_of_le hx.1 hsz));clear g1 g2 g3 g4 g5 g7 hr hk hk8 hsz ha
   go_wp2_with fail
   refine hK.out _ _ ?_ (fun hHeld=>?_)
   ·(try dsimp only);exact HS.o _ HKv.o
   clear hK K;refine (uU 14) ((uU 15) ((uU 16) ?_));refine wpR 17 rfl (fun K hK=>?_);go_simp;rw[<-Hz.o];refine hK.out _ _ ?_ (fun hHeld=>?_)
   ·(try dsimp only);exact HS.o _ HKa.o
   clear hK K
   try simp only[Act.put,sA,sZ,sS]
   refine wpR 18 rfl (fun K hK=>?_);rw[if_pos zK]
   with_reducible refine wp_store_mid 98 _ _ rfl (V.heap.size) (0) (aA 29 (aR X (.slice p k cap))) rfl rfl (by rw[aB];exact(AR V z 98 HZf.o).there 0 29 zO) (by rw[aB];exact Hs29.o) (H1x.o) ?_
   try simp only[Act.put,sA,sZ,sS]
   refine hK.out _ _ ?_ (fun hHeld=>?_)
   ·(try dsimp only);exact HS.o _ HG.o.kp
   clear hK K;refine (uU 19) ?_;refine wpAnyH_done zK ?_ _
   go_wp2_with fail
   go_meet
   exact⟨_,X,k,p,cap,T,rfl,rfl,zH ⟨HG.o,H5.o⟩⟩
  ·go_simp;rw[<-Hz.o];have ha0:Old W0 (W0.alloc (.cells z 98)).drew:=(Old.alloc W0 _).drew;have HA0:=zH ha0;have HAl:=zH (ha0.kept (X:=PV.but wr W0) fun x hx=>hx.1);clear ha0;refine hK.out _ _ ?_ (fun hHeld=>?_)
   ·(try dsimp only);exact HS.o _ HAl.o
   clear hK K
   try simp only[Act.put,sA,sZ,sS]
   refine wpR 13 rfl (fun K hK=>?_);go_simp;refine(HFr'.o _ (HFM.o.old HQ0.o HA0.o)).mono ?_;rintro e V ⟨⟨X,k,p,cap,T,rfl,g1,g2,g3,g4,g5,g7⟩,hr,hk⟩;have hk8:Kept (PV.but wr W0) W0 V:=HAl.o.trans (hk.mono fun x hx=>⟨Nat.lt_of_lt_of_le hx.1 HA0.o.size,hx.2⟩);have H1x:Hid ((aA 29 (aR X (.slice p k cap))).all (·.oneCell')=true):=zH (cN _ _ rfl);have h2:(W0.alloc (.cells z 98)).drew.heap.size=W0.heap.size+1:=World.size_alloc W0 _;have hcv:CellsV V W0.heap.size 29 (aR (fun _=>0) (.slice none 0 0)):=((AR W0 z 98 HZf.o).drew).kept hk ⟨zO,fun h=>by have:=HFM.o.low h;omega⟩;have HG:=zH (MP HFM'.o hB0 hr hk8 (nb:=W0.heap.size) (Nat.le_refl _) hcv (X:=X) g1 g2 g3 g4 (fun hn a ha=>by
    have h1:=g7 hn a ha;omega))
   have HCv:=zH hcv;have HKv:=zH hk8;have H5:=zH g5;clear g1 g2 g3 g4 g5 g7 hr hk hk8 hcv h2
   go_wp2_with fail
   refine hK.out _ _ ?_ (fun hHeld=>?_)
   ·(try dsimp only);exact HS.o _ HKv.o
   clear hK K;refine (uU 14) ((uU 15) ((uU 16) ?_));refine wpR 18 rfl (fun K hK=>?_);rw[if_pos zK]
   with_reducible refine wp_store_mid 98 _ _ rfl (W0.heap.size) (0) (aA 29 (aR X (.slice p k cap))) rfl rfl (by rw[aB];exact HCv.o.there 0 29 zO) (by rw[aB];exact Hs29.o) (H1x.o) ?_
   try simp only[Act.put,sA,sZ,sS]
   refine hK.out _ _ ?_ (fun hHeld=>?_)
   ·(try dsimp only);exact HS.o _ HG.o.kp
   clear hK K;refine (uU 19) ?_;refine wpAnyH_done zK ?_ _
   go_wp2_with fail
   go_meet
   exact⟨_,X,k,p,cap,T,rfl,rfl,zH ⟨HG.o,H5.o⟩⟩
 case rest=>as_aux_lemma=>
  obtain⟨nb,X,k,p,cap,T,rfl,rfl,HG⟩:=hcut;obtain⟨w9,rfl⟩:∃V,V=wc:=⟨_,rfl⟩
  clear HFr' HFM HQ0 HS;have hfp:=HZ.o X k T HG.o.2;obtain⟨zp,hzp⟩:∃z:Array Value,z=#[vI iJ 0,vI iJ 0,vI iJ 0,vI iJ 0,vI iJ 0,vI iJ 0,vI iJ 0,vI iJ 0,vI iJ 0,vI iJ 0,vI iJ 0,vI iJ 0,vI iJ 0,vI iJ 0,vI iJ 0,vI iJ 0,vI iJ 0,vI iJ 0,vI iJ 0,vI iJ 0]:=⟨_,rfl⟩
  have zs:Hid (zp.size=20):=zH (by rw[hzp];rfl);obtain⟨Wp,hWp⟩:∃V,V=w9.alloc (.cells zp 46):=⟨_,rfl⟩
  have hop:Old w9 Wp:=by rw[hWp];exact Old.alloc _ _
  obtain⟨pb,hpb⟩:∃x,x=w9.heap.size:=⟨_,rfl⟩
  have hpz:Wp.heap[pb]?=some (.cells zp 46 (0,0)):=by rw[hWp,hpb];exact heap_alloc_new _ _
  have hcu:=(HCu.o w9 HG.o.1.kp).old hop;have hcl:=HG.o.1.cells.old hop;have hbp:b<w9.heap.size:=(HCu.o w9 HG.o.1.kp).lt;have HGd:=zH (fun V (hV:Old Wp V)=>aFv b 0 47 _ P0 l0 X p k cap T V (hcu.old hV).veil ((HG.o.1.tn.old hop).old hV) HG.o.1.k1 HG.o.1.k2 hfp);have HCl:Hid (∀V,Old Wp V->∀j,j<29->V.cell? ⟨nb,0+j,none⟩=some (aR X (.slice p k cap) j)):=zH fun V hV j hj=>by rw[Nat.zero_add];exact(hcl.old hV).cell j hj
  have HCu1:Hid (∀V V',Old Wp V->VlI V' b 0 47 (vlC (GH (BF P0 l0) (lW fb i ch len) Kq ms fr1) 0 (KY X k T) 0) (KY X k T) 0->Kept (bH V b) V V'->(∀T m,vW V b T m->vW V' b T m)->CuS V' b (BF (KY X k T) 0) (lW fb i ch len) Kq ms fr1):=zH fun V V' hV h1 h2 h3=>
   ⟨h1.c.ext fun j hj=>aDq _ _ _ _ _ _ _ j,h3 _ _ (hcu.old hV).sh,fun j hj x hx=>⟨((hcu.old hV).k j hj x hx).1.kept h2 ⟨((hcu.old hV).k j hj x hx).1.lt,(hcu.k j hj x hx).2⟩,(hcu.k j hj x hx).2⟩⟩
  have HQ1:Hid (∀V V',Old Wp V->Kept (bH V b) V V'->Q' V'):=zH fun V V' hV h2=>HFM'.o.own (HFM'.o.old (HFM'.o.old HG.o.1.q hop) hV) HB0.o.1 ((hcu.old hV).c.cell 0 zO) h2;have HKp:Hid (∀V V',Old Wp V->Kept (bH V b) V V'->Kept (fun x=>x<W.heap.size/\x≠b/\¬wr x) W V'):=zH fun V V' hV h2=>by
   have hz:=HG.o.1.kp.size;have hz2:=hop.size;have hz3:=hV.size;have h0:=HB0.o.2.2.1;exact(((HK0.o.mono fun x hx=>hx.2.1).trans (HG.o.1.kp.mono fun x hx=>⟨by have:=hx.1;omega,hx.2.2⟩)).trans ((hop.trans hV).kept fun x hx=>by have:=hx.1;omega)).trans (h2.mono fun x hx=>⟨by have:=hx.1;omega,hx.2.1⟩)
  have HNl:Hid (nb<Wp.heap.size/\nb<pb):=zH (by have h1:=HG.o.1.cells.lt;have h2:=hop.size;exact⟨zO,zO⟩);have HSh:Hid (vW Wp b 61 47):=zH hcu.sh;have HPz:=zH hpz;have HGe:=zH (And.intro HG.o.1.ge HG.o.1.kp.size);have HZz:=zH HG.o.2;have HZp:=zH hzp;have HWp:=zH hWp;have HPb:Hid (pb=w9.heap.size/\b<pb):=zH ⟨hpb,zO⟩;obtain⟨pc,hpc⟩:∃x,x=KY X k T:=⟨_,rfl⟩
  have hp1:∀j,j<16->pc j=dX X k T j:=fun j hj=>by rw[hpc];unfold KY;rw[if_pos hj]
  have hp2:∀j,j<4->pc (16+j)=X j:=fun j hj=>by rw[hpc];unfold KY;rw[if_neg zO,show 16+j-16=j by omega]
  rw[<-hpc]at HGd HCu1;have HPc:=zH hpc;have HP1:=zH hp1;have HP2:=zH hp2;clear hcu hcl hop hpz HG HCu HZ hfp hp1 hp2 hpc hWp hpb hbp hzp
  go_upto_region 5 with (fail)
  rw[<-HZp.o,<-HWp.o,<-HPb.o.1];have H1x:Hid ((aA 29 (aR X (.slice p k cap))).all (·.oneCell')=true):=zH (cN _ _ rfl);have H1p:Hid ((aA 20 (blk pc)).all (·.oneCell')=true):=zH (bN _ _);have HDo:Hid (Old Wp Wp.drew):=zH (Old.refl Wp).drew;have HNb:Hid (nb<Wp.heap.size/\nb≠b):=zH ⟨HNl.o.1,by have:=HGe.o;have:=HB0.o;omega⟩;have HNp:Hid (nb≠pb):=zH (by have:=HNl.o;omega);refine wp_region_held_drew (S:=(fun V=>∀j,j<29->V.cell? ⟨nb,0+j,none⟩=some (aR X (.slice p k cap) j))) zK ?_ (fun hHeld=>?_)
  ·(try dsimp only);exact HCl.o _ HDo.o
  refine (uU 0) ((uU 1) ((uU 2) ?_));refine (uT 3 (v:=.agg (aA 29 (aR X (.slice p k cap)))) rfl (vU (aR X (.slice p k cap)) zK 98 (.tmp 5) rfl nb 0 rfl _ (fun V hV=>hV) underlying98 rfl Hs29.o)) ?_;refine wpR 4 rfl (fun K hK=>?_);go_simp;refine(HGd.o _ HDo.o).mono ?_;rintro e V1 ⟨rfl,hv,hk,hsh⟩;have hc1:=HCu1.o _ V1 HDo.o hv hk hsh;have hq1:=HQ1.o _ V1 HDo.o hk;have hk1:=HKp.o _ V1 HDo.o hk;have hnl:Wp.drew.heap.size=Wp.heap.size:=rfl;have hcl1:∀j,j<29->V1.cell? ⟨nb,0+j,none⟩=some (aR X (.slice p k cap) j):=fun j hj=>(hk.cell (a:=⟨nb,0+j,none⟩) ⟨HNb.o.1,HNb.o.2⟩).trans (HCl.o _ HDo.o j hj);have HCl1:=zH hcl1;have hpl:pb<Wp.heap.size:=lt_of_block HPz.o;have hp1:V1.heap[pb]?=some (.cells zp 46 (0,0)):=(hk.block pb ⟨hpl,by have:=HPb.o.2;omega⟩).trans HPz.o;have HPz1:=zH hp1;obtain⟨U,hU⟩:=zG (V1.setRow pb (aA 20 (blk pc)));have hku:Kept (fun q=>q≠pb) V1 U:=by rw[hU];exact rA _ _ _
  have hz0:zp[0]?=some (vI iJ 0):=by rw[HZp.o];rfl
  have HQu:Hid (Q' U):=zH (HFM'.o.own hq1 (by have:=HPb.o;have:=HB0.o;omega) ((cell_of_row _ _ _ _ _ _ hp1).trans hz0) (hku.mono fun x hx=>hx.2));have HCuU:Hid (CuS U b (BF pc 0) (lW fb i ch len) Kq ms fr1):=zH (by
   refine hc1.kept hku (by have:=HPb.o;omega) fun j hj x hx=>?_;have h1:=(hc1.k j hj x hx).1;intro e;have h2:V1.heap[pb]?=some (.cells (aA 21 (blk (kbF x))) 113 (0,0)):=by rw[<-e];exact h1
   rw[hp1]at h2;have h3:=congrArg (fun o=>o.map fun(c:Obj)=>match c with | .cells a _ _=>a.size | _=>0) h2;simp[zs.o,aB]at h3)
  have HKu:Hid (Kept (fun x=>x<W.heap.size/\x≠b/\¬wr x) W U):=zH (hk1.trans (hku.mono fun x hx=>by
   have h1:=HPb.o;have h2:=HGe.o;have h3:=HB0.o;have:=hx.1;show x≠pb;omega))
  have HR8:Hid (Reg8 b pb pc U):=zH ⟨HCuU.o.sh,by rw[hU];exact setRow_heap _ _ _ _ _ _ hp1⟩;have HU:=zH hU;clear hc1 hq1 hk1 hv hk hsh hcl1 hp1 hku hz0 hU hpl hnl
  go_wp2_with fail
  refine hK.out _ _ ?_ (fun hHeld=>?_)
  ·(try dsimp only);exact HCl1.o
  clear hK K
  try simp only[Act.put,sA,sZ,sS]
  refine wpR 5 rfl (fun K hK=>?_);rw[if_pos zK]
  with_reducible refine wp_store_row 46 _ _ rfl pb (aA 20 (blk pc)) rfl rfl 46 _ HPz1.o (by rw[aB];exact Hs20.o) (by rw[aB];exact zs.o) H1p.o ?_
  rw[<-HU.o];have hclU:∀j,j<29->U.cell? ⟨nb,0+j,none⟩=some (aR X (.slice p k cap) j):=fun j hj=>by
   rw[HU.o];exact((rA V1 pb (aA 20 (blk pc))).cell (a:=⟨nb,0+j,none⟩) HNp.o).trans (HCl1.o j hj)
  refine hK.out _ _ ?_ (fun hHeld=>?_)
  ·(try dsimp only);exact hclU
  clear hK K
  try simp only[Act.put,sA,sZ,sS]
  refine wpAnyH_done zK ?_ _;clear hclU HCl1 HCl HGd HCu1 HQ1 HKp HSh HPz HPz1 HU
  go_wp2_with fail
  have hPart:=fun V (h:Reg8 b pb pc V)=>aFI V b h.sh;have HBd:=zH (LX n (iC 4 (dX X k T)) X);have HUd:Hid (Old U U.drew):=zH (Old.refl U).drew;refine wp_region_held_drew (S:=(fun V=>Reg8 b pb pc V)) zK ?_ (fun hHeld=>?_)
  ·(try dsimp only);exact HR8.o.old HUd.o
  refine (uU 0) ((uU 1) ((uU 2) ((uU 3) ((uU 4) ((uU 5) ((uU 6) ?_))))));refine (uT 7 (v:=.agg (aA 16 (blk (dX X k T)))) rfl (aX 16 (dX X k T) zK 43 (.tmp 59) rfl pb 0 rfl _ (fun V h=>Reg8.spec h _ HP1.o) underlying43 rfl Hs16.o)) ?_;refine (uU 9) ?_;refine (uT 10 (v:=.agg (aA 4 (blk X))) rfl (aX 4 X zK 44 (.tmp 62) rfl pb 16 rfl _ (fun V h=>Reg8.gains h _ HP2.o) underlying44 rfl Hs4.o)) ?_;refine wpR 8 rfl (fun K hK=>?_);go_simp;refine(OO (dX X k T) _).mono ?_;rintro e V2 ⟨rfl,o2⟩;have HO2:=zH (HUd.o.trans o2);clear o2
  go_wp2_with fail
  refine hK.out _ _ ?_ (fun hHeld=>?_)
  ·(try dsimp only);exact HR8.o.old HO2.o
  clear hK K;refine (uT 11 (v:=.agg (aA 21 (blk (kbF ⟨0,n,iC 4 (dX X k T),X⟩)))) rfl (fC zK 113 _ rfl [(0,vI iJ n),(1,.agg (aA 16 (blk (iC 4 (dX X k T))))),(2,.agg (aA 4 (blk X)))] _ zK HBd.o)) ?_;refine wpR 12 rfl (fun K hK=>?_);go_simp;refine hK.out _ _ ?_ (fun hHeld=>?_)
  ·(try dsimp only);exact HR8.o.old (HO2.o.trans (Old.alloc _ _))
  clear hK K;refine (uU 13) ?_;refine wpAnyH_done zK ?_ _
  go_wp2_with fail
  go_ret;have ha:=Old.alloc V2 (.cells (aA 21 (blk (kbF ⟨0,n,iC 4 (dX X k T),X⟩))) 113);have hoE:=HO2.o.trans ha;refine⟨⟨V2.heap.size,n,iC 4 (dX X k T),X⟩,X,k,T,rfl,rfl,rfl,rfl,HZz.o,heap_alloc_new _ _,?_,?_,HFM'.o.old HQu.o hoE,HKu.o.trans (hoE.kept fun x hx=>Nat.lt_of_lt_of_le hx.1 HKu.o.size)⟩
  ·exact Nat.le_trans HKu.o.size HO2.o.size
  ·rw[<-HPc.o];exact HCuU.o.old hoE
theorem aHo(F:nI)(n:Nat)(T:nI):VE (wvF F n T):=fun j hj=>by
 have h:aD (fun k=>if k<16 then dX F n T k else 0):=fun k=>by
  dsimp only;split
  ·next hk=>have:=aBo F n T k hk;omega
  ·omega
 have e:=mZ 4 (f:=dX F n T) (g:=fun k=>if k<16 then dX F n T k else 0) (fun k hk=>by dsimp only;rw[if_pos hk]) j hj;unfold wvF;rw[e];exact aEY 4 h j
theorem RunC.frame3{w W:World}{P:iR}{ab g:Nat}{a:Int}(h:RunC w P ab g a 0 W){Z:Nat->aM}(pk:Pkd P.sz P.n Z P.F)(hD:P.D=eE (aI Z) P.sz P.n){i ch bl:Int}(hw:DR P.n P.D i ch bl=0):
  Calls zP 118 #[.pointer (some ⟨P.fb,0,none⟩),vI iJ i,vI iJ ch,vI iJ bl] W fun e V=>
   (∃X k p cap T,e=rJ (.tuple #[.agg (aA 29 (aR X (.slice p k cap))),vI iJ 0])/\k<=cap/\cap<=maxLen/\SlF 2 V p k T/\aD T/\FrO (QI P i ch bl) 0 X k p T/\(0<k->∀a,p=some a->W.heap.size<=a.block)) /\
   RunC w P ab g (wrap64 (a+1)) 0 V/\Kept (P.but W) W V:=by
 obtain⟨c,d,h1,h2,h3⟩:=h.ex;obtain⟨G,c',d',e1,e2,e3,e4,e5⟩:=XT h1 h2 h3 pk hD hw;refine(VG P W c d a 0 h1 i ch bl hw).mono ?_;rw[e1];rintro e V ⟨⟨X,k,p,cap,T,rfl,g1,g2,g3,g4,g5,g6,g7⟩,r2,r3⟩;rw[show (⟨some G,c',d'⟩:Tkn).r=some G from rfl]at *;rw[e5,if_pos rfl]at r2;rw[e5]at g5 |-;obtain⟨b,hb,k1,k2,k3⟩:=g5 rfl;have hb:gQ G P.sz=b:=Option.some.inj hb;rw[<-hb,tW e2]at k2 k3;exact⟨⟨X,k,p,cap,T,rfl,g1,g2,g3,g4,⟨fun _=>⟨k1,k2,k3⟩,fun e=>absurd rfl e⟩,g7⟩,⟨⟨c',d',r2,e3,e4⟩,(r3.block ab ⟨lt_of_block h.all,fun hx=>by have:=(h.new _ hx).2;omega⟩).trans h.all,h.old.after r3 fun x hx=>⟨Nat.lt_of_lt_of_le hx h.old.size,fun hx2=>by have:=(h.new _ hx2).1;omega⟩,h.new⟩,r3⟩
theorem mW{w W1:World}{P:iR}{ab g:Nat}{a1:Int}{B0:Nat}(h1:RunC w P ab g a1 0 W1)(hB:W1.heap.size<=B0):PV B0 P.wr (fun W=>∃a,RunC w P ab g a 0 W) where
 old:=fun⟨a,h⟩ o=>⟨a,h.on o⟩
 own:=fun {W V q x} ⟨a,h⟩ hq hx k=>by
  obtain⟨c1,d1,f1,_⟩:=h1.ex;obtain⟨c,d,f,r⟩:=h.ex;have hab:=lt_of_block h1.all;have hab2:=lt_of_block h.all;refine⟨a,⟨⟨c,d,f.kept k (fun y hy=>⟨f.lts y hy,fun e=>by have:=f1.lts y hy;omega⟩) (fun y hy hn v hv=>?_),r⟩,(k.block ab ⟨hab2,zO⟩).trans h.all,h.old.after k fun y hy=>⟨Nat.lt_of_lt_of_le hy h.old.size,?_⟩,h.new⟩⟩
  ·have e:y=q:=Classical.byContradiction fun e=>hn ⟨hy,e⟩;rw[e,hx]at hv;cases hv
  ·have:=h1.old.size;omega
 low:=fun {x} hx=>by
  obtain⟨c1,d1,f1,_⟩:=h1.ex;have:=f1.lts x (.inl hx);omega
structure GdK(N:Nat)(L:Nat->Fr)(B0:Nat)(x:Kb):Prop where
 b:B0<=x.b
 fit:VE x.F
 n:x.n<N
 F:∀j,j<16->x.F j=wvF (L x.n).F (L x.n).n (L x.n).T j
 G:∀j,j<4->x.G j=(L x.n).F j
structure ChS(P:iR)(Z:Nat->aM)(k c len N:Nat)(L:Nat->Fr):Prop where
 pk:Pkd P.sz P.n Z P.F
 hD:P.D=eE (aI Z) P.sz P.n
 hk:k<P.n
 hc:(c:Int)<(P.D k).c
 hlen:len=(P.D k).n.toNat
 hN:N=cW len
 le:len<=1048576
 cl:(qG (Z k) c).length=len
 sam:qE (qG (Z k) c)
 hL:FmX P.sz (qG (Z k) c) N L
 fr:∀b,b<N->mC (L b).F (L b).n (L b).T/\aD (L b).T/\kC (QI P k c b) (enc (L b).F (L b).n (L b).T)
theorem aEn{P:iR}{Z:Nat->aM}(pk:Pkd P.sz P.n Z P.F)(hD:P.D=eE (aI Z) P.sz P.n){k c:Nat}(hk:k<P.n)(hc:(c:Int)<(P.D k).c)(w:World):∃L,ChS P Z k c (P.D k).n.toNat (cW (P.D k).n.toNat) L:=by
 have hc':=hc;rw[hD]at hc';obtain⟨h1,h2,h3,h4⟩:=pk.chan hk hc';obtain⟨L,hL,hT⟩:=OX h2 pk.z1 pk.z2 w;have hl:(qG (Z k) c).length=(P.D k).n.toNat:=by rw[h3,hD];exact h4.symm
 rw[hl]at hL hT;refine⟨L,pk,hD,hk,hc,rfl,rfl,?_,hl,h2,hL,fun b hb=>⟨(hT b hb).1,(hT b hb).2.1,?_⟩⟩
 ·rw[<-hl,h3];exact(pk.v k hk).m2
 ·have hb':=hb;rw[hD]at hb';have hby:=pk.bytes hk hc' hb';have e:QI P k c b=frmL P.sz (qG (Z k) c) b:=by unfold QI;rw[hD,Int.toNat_natCast];exact hby
  rw[e];exact(hT b hb).2.2
theorem ChS.wh{P:iR}{Z:Nat->aM}{k c len N:Nat}{L:Nat->Fr}(h:ChS P Z k c len N L){b:Nat}(hb:b<N):DR P.n P.D k c b=0:=aCa h.hk h.hc (by rw[<-h.hlen,<-h.hN];exact hb)
structure xD(w:World)(P:iR)(ab g b B0:Nat)(A:Nat->Value)(N:Nat)(L:Nat->Fr)(W0:World)(fr:Int)(K:Nat->Option Kb)(W:World):Prop where
 cu:∃V,CuS W b (BF V 0) A K (.slice none 0 0) fr
 run:∃a,RunC w P ab g a 0 W
 gd:∀j,j<4->∀x,K j=some x->GdK N L B0 x
 kp:Kept (fun x=>x<W0.heap.size/\x≠b/\¬P.wr x) W0 W
theorem CuS.agree{W U:World}{b:Nat}{V V':nI}{A:Nat->Value}{K K':Nat->Option Kb}{ms ms':Value}{fr fr':Int}(h:CuS W b V A K ms fr)(h':CuS W b V' A K ms' fr')(u:CuS U b V A K' ms fr):CuS U b V' A K' ms' fr':=by
 refine⟨u.c.ext fun j hj=>?_,u.sh,u.k⟩;have e:=(h.c.cell j hj).symm.trans (h'.c.cell j hj);have e:=Option.some.inj e;unfold GH at e |-;by_cases h1:j<21
 ·rw[if_pos h1,if_pos h1]at e |-;exact e
 by_cases h2:j<41
 ·rw[if_neg h1,if_pos h2,if_neg h1,if_pos h2]
 by_cases h3:j<45
 ·rw[if_neg h1,if_neg h2,if_pos h3,if_neg h1,if_neg h2,if_pos h3]
 ·rw[if_neg h1,if_neg h2,if_neg h3,if_neg h1,if_neg h2,if_neg h3]at e |-;exact e
theorem GZ{w W1 W0:World}{P:iR}{ab g b B0 N:Nat}{A:Nat->Value}{L:Nat->Fr}{a1:Int}(h1:RunC w P ab g a1 0 W1)(hB:W1.heap.size<=B0)(hb:B0<=b):CuM b A (GdK N L B0) (xD w P ab g b B0 A N L W0) where
 at_:=fun h=>by obtain⟨V,h⟩:=h.cu;exact⟨_,_,_,h⟩
 set:=fun {s K W V ms fr K' U} h hc k hu hg=>by
  obtain⟨V0,h0⟩:=h.cu;refine⟨⟨V0,hc.agree h0 hu⟩,(mW h1 hB).own h.run hb (hc.c.cell 0 zO) (k.mono fun x hx=>hx.2),fun j hj x hx=>?_,h.kp.trans (k.mono fun x hx=>hx.2.1)⟩;rcases hg j hj x hx with ⟨i,hi,e⟩ | e
  ·exact h.gd i hi x e
  ·exact e
 old:=fun {s K W U} h o=>by
  obtain⟨V0,h0⟩:=h.cu;exact⟨⟨V0,h0.old o⟩,(mW h1 hB).old h.run o,h.gd,h.kp.trans (o.kept fun x hx=>Nat.lt_of_lt_of_le hx.1 h.kp.size)⟩
 gd:=fun h=>h.gd
theorem EQ{w W1 W0:World}{P:iR}{ab g b B0 len N:Nat}{Z:Nat->aM}{k c:Nat}{L:Nat->Fr}{a1:Int}(h1:RunC w P ab g a1 0 W1)(hB:W1.heap.size<=B0)(hb:B0<=b)(hS:ChS P Z k c len N L)(fr:Int)(K:Nat->Option Kb)(V:World)(n:Nat)(hn:n<N)(h:xD w P ab g b B0 (lW P.fb k c len) N L W0 fr K V):
  Calls zP 74 #[.pointer (some ⟨b,0,none⟩),vI iJ n] V fun e V'=>∃kb s',e=rJ (.pointer (some ⟨kb.b,0,none⟩))/\kb.n=n/\KbAt V' kb/\kb.b≠b/\GdK N L B0 kb/\s'=wrap64 (fr+1)/\xD w P ab g b B0 (lW P.fb k c len) N L W0 s' K V':=by
 obtain⟨P0,hc⟩:=h.cu;have FM:=mW h1 hB;refine(JF b B0 P.wr _ _ FM FM hb P0 0 P.fb k c len K _ fr n (fun X m T=>mC X m T/\mO X m T (L n).F (L n).n (L n).T) (fun X m T h=>h.1) V hc h.run (fun j hj x hx=>(h.gd j hj x hx).b) ?_).mono ?_
 ·rintro U ⟨a,hu⟩;refine(hu.frame3 hS.pk hS.hD (hS.wh hn)).mono ?_;rintro e U' ⟨⟨X,m,p,cap,T,rfl,g1,g2,g3,g4,g5,g7⟩,r,kk⟩;obtain⟨f1,f2,f3⟩:=g5.1 rfl;have hf:=hS.fr n hn;exact⟨⟨X,m,p,cap,T,rfl,g1,g2,g3,g4,⟨f1,f3 _ _ _ hf.1 hf.2.2⟩,g7⟩,⟨_,r⟩,kk.mono fun x hx=>hx⟩
 ·rintro e V' ⟨kb,X,m,T,rfl,e1,e2,e3,⟨z1,z2⟩,hk,hge,hcu,hq,hkp⟩;have hbl:=hc.lt;refine⟨kb,_,rfl,e1,hk,zO,⟨zO,by rw[e2];exact aHo _ _ _,zO,fun j hj=>by rw[e1,e2];exact aBP z2 j hj,fun j hj=>by rw[e1,e3];exact z2.2.2 j zO zO⟩,rfl,⟨_,hcu⟩,hq,h.gd,h.kp.trans (hkp.mono fun x hx=>⟨Nat.lt_of_lt_of_le hx.1 h.kp.size,hx.2⟩)⟩
theorem OI{w W1 W0:World}{P:iR}{ab g b B0 len N:Nat}{Z:Nat->aM}{k c:Nat}{L:Nat->Fr}{a1:Int}(h1:RunC w P ab g a1 0 W1)(hB:W1.heap.size<=B0)(hb:B0<=b)(hS:ChS P Z k c len N L)(fr:Int)(K:Nat->Option Kb)(V:World)(h:xD w P ab g b B0 (lW P.fb k c len) N L W0 fr K V)(q:Nat)(hq:q<len):
  Calls zP 12 #[.pointer (some ⟨b,0,none⟩),vI iJ q] V fun e V'=>∃s' K',e=rJ (vI iJ (oG (gJ N (rK N L) N (rL N L) q)))/\(∃v,AtR N (GdK N L B0) K fr (fun s _ s'=>s'=wrap64 (s+1)) q v s' K')/\xD w P ab g b B0 (lW P.fb k c len) N L W0 s' K' V':=by
 have hN:=hS.hN;refine(aEQ b P.fb k c len (xD w P ab g b B0 (lW P.fb k c len) N L W0) (GdK N L B0) (GZ h1 hB hb) (fun s _ s'=>s'=wrap64 (s+1)) q hq hS.le fr K V h (fun s K V n hn h=>EQ h1 hB hb hS s K V n (by rw[hN];exact hn) h) (fun x hx=>hx.fit)).mono ?_;rintro e V' ⟨v,s',K',rfl,ha,hr⟩;rw[<-hN]at ha;refine⟨s',K',?_,⟨v,ha⟩,hr⟩;obtain⟨x,m,s1,K1,gx,gm,u1,u2,hv⟩:=ha.ex;have hq':q<N*16:=by rw[hN];unfold cW;omega
 rw[hv,aAP N L q hq'];congr 3;have hnx:=u1.num;have hnm:=u2.num;have hnd:¬gO (q:Int) (N:Nat):=by unfold gO;omega
 have hA:kD q (N:Nat)=if (q:Int)%16<8 then max ((q:Int)/16-1) 0 else(q:Int)/16:=by unfold kD;rw[if_neg hnd]
 have hBn:kE q (N:Nat)=if (q:Int)%16<8 then(q:Int)/16 else min ((q:Int)/16+1) ((N:Int)-1):=by unfold kE;rw[if_neg hnd]
 have key:∀n,(n=x.n\/n=m.n)->(∀j,j<16->(if n=x.n then x.F else m.F) j=wvF (L n).F (L n).n (L n).T j)/\∀j,j<4->(if n=x.n then x.G else m.G) j=(L n).F j:=fun n hn=>by
  by_cases e:n=x.n
  ·subst e;rw[if_pos rfl,if_pos rfl];exact⟨gx.F,gx.G⟩
  ·rw[if_neg e,if_neg e];obtain rfl:n=m.n:=hn.resolve_left e;exact⟨gm.F,gm.G⟩
 have hr:q%16<16:=zO;unfold TA;dsimp only;by_cases c1:8<=q%16/\q/16+1<N
 ·have k1:=key (q/16) (.inl (by rw[hnx,hA];rw[if_neg zO];omega));have k2:=key (q/16+1) (.inr (by rw[hnm,hBn];rw[if_neg zO];omega));rw[if_pos c1,if_pos c1,oB k1.1 k2.1 _ hr,tO k1.2]
 ·rw[if_neg c1,if_neg c1];by_cases c2:q%16<8/\1<=q/16
  ·have k1:=key (q/16) (.inr (by rw[hnm,hBn];rw[if_pos zO];omega));have k2:=key (q/16-1) (.inl (by rw[hnx,hA];rw[if_pos zO];omega));rw[if_pos c2,if_pos c2,oB k1.1 k2.1 _ hr,tO k1.2]
  ·have k1:=key (q/16) (.inl (by rw[hnx,hA];split <;> omega));rw[if_neg c2,if_neg c2,k1.1 _ hr,tO k1.2]
def exT(p q:Option Addr)(C:Nat):aM:=⟨⟨#[97]⟩,1,false,0,0,p,1,1,fun _=>q,fun _=>20,fun _=>C,fun _ j=>100*j⟩
def PZ(k:Nat):List Int:=(List.range k).map fun j:Nat=>100*(j:Int)
theorem tN(k:Nat):(PZ k).length=k:=by simp[PZ]
theorem ZC(k:Nat):PZ (k+1)=PZ k ++ [100*(k:Int)]:=by simp[PZ,List.range_succ]
structure aIh(w:World)(k:Nat)(v:Value)(wr:World):Prop where
 row:OwnL .i64 3 (fun q=>q<w.heap.size) wr v (PZ k)
 old:Old w wr
theorem aEN(w:World)(g C:Nat)(hC:20<=C)(hM:C<=maxLen)(hg:g<w.heap.size)(hc:∀j:Nat,j<20->w.cell? ⟨g,j,none⟩=some (vI iJ (100*j)))(T2 T3:TypeId):nE ((w.alloc (.cells #[.slice (some ⟨g,0,none⟩) 20 C] T2)).alloc (.cells (exT (some ⟨w.heap.size,0,none⟩) (some ⟨g,0,none⟩) C).cells T3)) (some ⟨w.heap.size+1,0,none⟩) 1 (fun _=>exT (some ⟨w.heap.size,0,none⟩) (some ⟨g,0,none⟩) C):=by
 obtain⟨W2,hW2⟩:∃W,W=w.alloc (.cells #[.slice (some ⟨g,0,none⟩) 20 C] T2):=⟨_,rfl⟩
 have s2:W2.heap.size=w.heap.size+1:=by rw[hW2];simp
 have h2:W2.heap[w.heap.size]?=some (.cells #[.slice (some ⟨g,0,none⟩) 20 C] T2 (0,0)):=by rw[hW2];exact heap_alloc_new _ _
 have o2:Old w W2:=by rw[hW2];exact Old.alloc _ _
 rw[<-hW2];obtain⟨W3,hW3⟩:∃W,W=W2.alloc (.cells (exT (some ⟨w.heap.size,0,none⟩) (some ⟨g,0,none⟩) C).cells T3):=⟨_,rfl⟩
 have o3:Old W2 W3:=by rw[hW3];exact Old.alloc _ _
 have h3:W3.heap[w.heap.size+1]?=some (.cells (exT (some ⟨w.heap.size,0,none⟩) (some ⟨g,0,none⟩) C).cells T3 (0,0)):=by rw[hW3,<-s2];exact heap_alloc_new _ _
 rw[<-hW3];have h2':=(o3.block _ (lt_of_block h2)).trans h2;refine⟨fun _=>⟨_,0,rfl,lt_of_block h3,fun i hi f v hf=>?_⟩,fun i hi=>⟨by show (1:Nat)<=_;omega,Nat.le_refl _,by show (1:Nat)<=maxLen;unfold maxLen;omega,⟨fun _=>⟨_,0,rfl,lt_of_block h2',fun i hi=>?_⟩,fun i hi=>⟨hC,hM,fun _=>⟨_,0,rfl,Nat.lt_of_lt_of_le hg (o2.trans o3).size,fun j hj=>?_⟩⟩⟩⟩⟩
 ·obtain rfl:i=0:=zO;rw[show 0+0*6+f=f by omega];exact(cell_of_row _ _ _ _ _ _ h3).trans hf
 ·have hi:i<1:=hi;obtain rfl:i=0:=zO;exact(cell_of_row _ _ _ _ _ _ h2').trans rfl
 ·rw[Nat.zero_add];exact((o2.trans o3).cell (a:=⟨g,j,none⟩) hg).trans (hc j hj)
def aGS(w:World)(e:Ending)(w':World):Prop:=∃b p q C,e=rJ (.slice (some ⟨b,0,none⟩) 1 1)/\nE w' (some ⟨b,0,none⟩) 1 (fun _=>exT p q C)/\Old w w'
theorem Tryz.info20:(zP.info? 3).map (fun i=>(i.zero,i.size,i.bytes))=some (some (vI iJ 0),1,8):=zK
theorem XV(w:World):Calls zP 29 #[] w (aGS w):=by
 obtain⟨i0,hi,hz0,hz1,hz2⟩:=info_parts Tryz.info20;go_enter func29,ntmps29
 go_wp2_with fail
 go_loopw [1,2] (fun v iv wr=>∃k:Nat,k<=20/\iv=vI iJ k/\Hid (aIh w k v wr)) (fun _ iv _=>20-(intOf iv).toNat)
 case atStart=>exact⟨0,zO,by go_num,zH ⟨OwnL.nil _ _ _ _,Old.refl w⟩⟩
 case round=>
  obtain⟨k,hk,rfl,HR⟩:=hrel;obtain⟨v,hv⟩:∃x,x=u1:=⟨_,rfl⟩
  by_cases hlt:k<20
  ·have k0:(0:Int)<=k:=zO;have k1:(k:Int)<20:=zO;have hrow:=HR.o.row;unfold OwnL at hrow;rw[tN]at hrow;have HOw:=zH (hrow.old (Old.alloc wr (.cells #[vI iJ (100*(k:Int))] 3)));have HO:=zH (HR.o.old.alloc' (.cells #[vI iJ (100*(k:Int))] 3));clear hrow hv HR
   go_wp2_with (at_builtin;refine fL _ rfl _ _ 23 rfl (fun q=>q<w.heap.size) 3 i0 (vI iJ 0) 8 underlying23 hi hz0 hz1 hz2 rfl _ _ _ rfl HOw.o ⟨wr.heap.size,0,none⟩ 1 1 [vI iJ (100*(k:Int))] rfl rfl (jW wr _ _) (rH rfl) (by unfold maxLen;omega) zO (fun q hq=>Nat.lt_of_lt_of_le hq HO.o.size) ?_;intro v' w2 hown2 hk2 _;have HR2:=zH (show aIh w (k+1) v' w2 from⟨by rw[ZC];exact OwnL.snoc (by rw[tN];exact hown2),HO.o.after hk2 (fun _ h=>h)⟩);clear hown2 hk2 HOw HO)
   go_roundw
   case rel=>exact⟨k+1,zO,by go_num,HR2⟩
   case measure=>exact zM
  ·obtain rfl:k=20:=zO;have hrow:=HR.o.row;obtain⟨g,cap,hu,_,hcap,hmax,hcs⟩:=OwnL.cells hrow (by rw[tN];omega);rw[tN]at hu hcap hcs;subst hu;have hE:=aEN wr g cap hcap hmax hcs.lt (fun j hj=>by
    rw[hcs.cell j hj];simp[PZ,List.getD,hj]) 23 133
   have HE:=zH hE;have HO:=zH HR.o.old;clear hE hcs hrow HR hlt hk hv;unfold exT aM.cells at HE
   go_wp2_with fail
   go_ret;refine⟨_,_,_,cap,rfl,HE.o,(HO.o.alloc' _).alloc' _⟩
def MF(x:Kb)(K:Nat->Option Kb):Prop:=K 0=some x/\∀j,j≠0->K j=none
theorem aEK{σ:Type}{n:Nat}{s s':σ}{St:σ->Kb->σ->Prop}{m:Kb}{K':Nat->Option Kb}(h:BH (fun _=>none) n s St m s' K'):St s m s'/\MF m K':=by
 obtain⟨k,hk,ho,rfl⟩:=h.how;rcases ho with ⟨_,e,_⟩ | ⟨_,hs⟩
 ·cases e
 ·refine⟨hs,rfl,fun j hj=>?_⟩;unfold YJ;rw[if_neg hj];split <;> rfl
theorem WH{σ:Type}{n:Nat}{s s':σ}{St:σ->Kb->σ->Prop}{m x:Kb}{K K':Nat->Option Kb}(h:BH K n s St m s' K')(hx:MF x K)(hn:x.n=n):s'=s/\MF x K':=by
 obtain⟨k,hk,ho,rfl⟩:=h.how;have k0:k=0:=by
  by_cases e:k=0
  ·exact e
  ·have:=hk.past 0 zO;unfold sI at this;rw[hx.1]at this;exact absurd hn (of_decide_eq_true this)
 subst k0;rcases ho with ⟨_,e,rfl⟩ | ⟨e,_⟩
 ·rw[hx.1]at e;cases e;refine⟨rfl,rfl,fun j hj=>?_⟩;unfold YJ;rw[if_neg hj,if_neg zO];exact hx.2 j hj
 ·unfold oR at e;rw[hx.1]at e;exact absurd hn (of_decide_eq_false e)
theorem aGn{σ:Type}{n:Nat}{s s':σ}{St:σ->Kb->σ->Prop}{m x:Kb}{K K':Nat->Option Kb}(h:BH K n s St m s' K')(hx:MF x K)(hn:x.n≠n):St s m s':=by
 obtain⟨k,hk,ho,rfl⟩:=h.how;rcases ho with ⟨_,e,_⟩ | ⟨_,hs⟩
 ·by_cases k0:k=0
  ·subst k0;rw[hx.1]at e;cases e;exact absurd h.num hn
  ·rw[hx.2 k k0]at e;cases e
 ·exact hs
structure ExQ(S:aM):Prop where
 s:S.s=⟨#[97]⟩
 r:S.r=1
 lp:S.lp=false
 a:S.a=0
 b:S.b=0
 n:S.n=1
 m:S.M 0=20
 x:∀j,S.X 0 j=100*j
namespace ExQ
variable {S:aM}
theorem check(h:ExQ S):S.check=0:=by
 have hl:S.len=20:=by unfold aM.len;rw[if_neg (by rw[h.n];omega),h.m];rfl
 have hn:tS ⟨#[97]⟩=true:=uY ⟨⟨zD,zD⟩,fun i hi=>by
  have hi:i<1:=hi;obtain rfl:i=0:=zO;decide⟩
 have h1:cX S.s S.len S.r S.n S.lp S.a S.b=0:=by
  rw[h.s,hl,h.r,h.n,h.lp,h.a,h.b];show cX ⟨#[97]⟩ 20 1 1 false 0 0=0;unfold cX;rw[hn,if_neg zD,if_neg zD,if_neg zD,if_pos (by unfold lG;decide)]
 have h2:¬S.odd:=fun⟨k,hk,h'⟩=>by
  rw[h.n]at hk;obtain rfl:k=0:=zO;exact h' rfl
 have h3:¬S.far:=fun⟨k,hk,i,hi,h'⟩=>by
  rw[h.n]at hk;obtain rfl:k=0:=zO;rw[h.m]at hi;rw[h.x]at h';omega
 unfold aM.check;rw[h1,if_neg zD,if_neg h2,if_neg h3]
theorem pk{L:Nat->aM}(h:ExQ (L 0)):aHH 60 1 L:=by
 have ha:nX L 1=0:=by
  refine XD zO ?_ fun⟨i,k,h1,h2,_⟩=>zO;rw[nW rfl];exact h.check
 refine⟨zO,zO,ha,fun Z hz=>?_⟩;obtain⟨m,hm,e⟩:=hz.frm 0 zO;obtain rfl:m=0:=zO;have hf:aQ (aI Z) 0=2:=by
  unfold aQ aI;rw[e,aBS (aM.check_v h.check),h.m,h.n];decide
 have h1:bO (aQ (aI Z)) 60 1 0=84:=rfl;have h2:aL (aQ (aI Z)) 60 1 0=96:=by unfold aL;rw[hf,h1];rfl
 show aJ (aQ (aI Z)) 60 1<=4194304;unfold aJ;rw[mX,h2,hf];decide
end ExQ
theorem WU{p q:Option Addr}{C:Nat}{S:aM}(h:rV (exT p q C) S):ExQ S where
 s:=by rw[h.s];exact if_neg (show ¬100<(⟨#[97]⟩:ByteArray).size by decide)
 r:=h.r
 lp:=h.lp
 a:=h.a
 b:=h.b
 n:=h.n
 m:=by rw[h.M];rfl
 x:=by rw[h.X];exact fun j=>rfl
theorem gB(w:World):Calls zP 8 #[] w fun e w'=>e=rJ (.bool true)/\Old w w':=by
 have HOn:=zH (XV w);go_enter func8,ntmps8
 go_wp2_with fail
 refine HOn.o.mono ?_;rintro e W3 ⟨b3,p3,q3,C3,rfl,hsm,ho⟩;have HMd:=zH (DF 60 _ 1 1 _ 2 0 W3 hsm);have HO:=zH ho;clear hsm ho HOn
 go_wp2_with fail
 refine HMd.o.mono ?_;rintro e V ⟨Z0,hfo,⟨rfl,_,hno⟩ | ⟨_,_,_,_,_,_,P,ab,g,Z,rfl,hz,hn,hord,hmd⟩⟩
 ·exact absurd ⟨(WU (hfo 0 zD).2).pk,zO,zO,zO,zO⟩ hno
 have hx0:ExQ (Z0 0):=WU (hfo 0 zD).2;have hZ:Z 0=Z0 0:=by
  obtain⟨m,hm,e⟩:=hord.frm 0 zD;obtain rfl:m=0:=by have:m<min 1 8:=hm;omega
  exact e
 have hr:=RunC.start (n:=0) hmd;have hpk:=hmd.pk;have hD:=hmd.hD;have hn1:P.n=1:=hn;have hsz:P.sz=60:=hz;have hc1:(P.D 0).c=1:=by
  rw[hD];show ((Z 0).n:Int)=1;rw[hZ,hx0.n];rfl
 have hln:(P.D 0).n=20:=by
  rw[hD];show (Z 0).len=20;unfold aM.len;rw[hZ,if_neg (by rw[hx0.n];omega),hx0.m];rfl
 obtain⟨L,hS⟩:=aEn hpk hD (k:=0) (c:=0) zO (by rw[hc1];decide) V;have hcl:(P.D 0).n.toNat=20:=by rw[hln];rfl
 rw[hcl,show cW 20=2 from rfl]at hS;have HVal:Hid (∀q:Nat,q<20->oG (gJ 2 (rK 2 L) 2 (rL 2 L) q)=100*q):=zH fun q hq=>by
  have h2:cW (qG (Z 0) 0).length=2:=by rw[hS.cl];rfl
  have:=QB hS.sam (show 55<=P.sz by omega) (L:=L) (by rw[h2];exact hS.hL) q (by rw[hS.cl];exact hq);rw[h2]at this;rw[this];unfold qG;rw[iT _ _ _ (by rw[hZ,hx0.m];exact hq),hZ,hx0.x]
 have hcuE:cuE P.n P.D 0 0=0:=by
  unfold cuE;rw[if_neg zO,if_neg];show ¬((0:Int)<0\/(P.D 0).c<=0);rw[hc1];omega
 obtain⟨c1,d1,hfy,_⟩:=hr.ex;have HNw:=zH (vM P.fb (P.z0+2) P.bb 0 0 P.sz P.n P.NI P.q P.cq P.im P.ci P.D P.F V hfy.ft hfy.bk zO hpk.n64 0 0);rw[hcuE]at HNw;have HRn:=zH hr;have c2:=hr.cells.2;have HLn:=zH hln;have HS:=zH hS;obtain⟨fb,hfb⟩:∃x,x=P.fb:=⟨_,rfl⟩
 rw[<-hfb]at HNw c2;have HFb:=zH hfb;clear hr hmd hpk hD hn hn1 hz hsz hord hfb HMd hfo hx0 hZ hc1 hln hS hcl hcuE hfy
 go_wp2_with fail
 refine HNw.o.mono ?_;rintro e V1 (⟨h0,_,_⟩ | ⟨_,b,rfl,hb,hcu,o1⟩)
 ·exact absurd rfl h0
 have HB:=zH hb;have hln':(P.D (0:Int).toNat).n=((20:Nat):Int):=HLn.o;rw[hln',HFb.o]at hcu;have hcl:xD W3 P ab g b V.heap.size (lW P.fb ((0:Nat):Int) ((0:Nat):Int) ((20:Nat):Int)) 2 L V1 0 (fun _=>none) V1:=⟨⟨fun _=>0,by rw[AF];exact hcu⟩,⟨_,HRn.o.on o1⟩,(fun j hj x hx=>by cases hx),Kept.refl _ _⟩
 have HA:=zH (fun(fr:Int) (K:Nat->Option Kb) (U:World) (h:xD W3 P ab g b V.heap.size (lW P.fb ((0:Nat):Int) ((0:Nat):Int) ((20:Nat):Int)) 2 L V1 fr K U) (q:Nat) (hq:q<20)=>OI HRn.o (Nat.le_refl _) HB.o HS.o fr K U h q hq);have HA0:=zH (HA.o 0 _ V1 hcl 0 zO);rw[HVal.o 0 zO]at HA0;have HO1:=zH ((HRn.o.old).trans o1);clear hcl hcu o1 hb hln' HNw HLn c2
 go_wp2_with fail
 refine HA0.o.mono ?_;rintro e V2 ⟨s2,K2,rfl,⟨v2,ha2⟩,hr2⟩;have HA15:=zH (HA.o s2 K2 V2 hr2 15 zO);rw[HVal.o 15 zO]at HA15;have HT:Hid (s2=wrap64 (0+1)/\∃x,x.n=0/\MF x K2):=zH (by
  obtain⟨x,m,s1,K1,_,_,u1,u2,_⟩:=ha2.ex;obtain⟨e1,o1⟩:=aEK u1;have hx:x.n=0:=u1.num;obtain⟨e2,o2⟩:=WH u2 o1 (by rw[hx];rfl);exact⟨by rw[e2];exact e1,x,hx,o2⟩)
 clear ha2 hr2 HA0 HA
 go_wp2_with fail
 refine HA15.o.mono ?_;rintro e V3 ⟨s3,K3,rfl,⟨v3,ha3⟩,hr3⟩;have hs3:s3=2:=by
  obtain⟨h1,x,hx,hox⟩:=HT.o;obtain⟨x2,m2,s1,K1,_,_,u1,u2,_⟩:=ha3.ex;obtain⟨e1,o1⟩:=WH u1 hox (by rw[hx];rfl);have e2:=aGn u2 o1 (by rw[hx];decide);rw[e2,e1,h1,IntWalk.wrap64_in (0+1) zO,IntWalk.wrap64_in (0+1+1) zO];rfl
 subst hs3;obtain⟨Vv,hcu3⟩:=hr3.cu;have HFr:=zH (lQ b 2 V3 hcu3.cF);have HLe:=zH (iD b ((20:Nat):Int) V3 (hcu3.cA 3 zO));have HE:=zH ((HO.o.trans HO1.o).after hr3.kp fun x hx=>⟨Nat.lt_of_lt_of_le hx (HO.o.trans HO1.o).size,by
  have h1:=HB.o;have h2:=HRn.o.old.size;have h3:=HO.o.size;omega,fun h=>by
   have h1:=(HRn.o.new _ h).1;have h3:=HO.o.size;omega⟩)
 clear ha3 hr3 hcu3 HA15 HT
 go_wp2_with fail
 refine HFr.o.mono ?_;rintro e w1 ⟨rfl,rfl⟩
 go_wp2_with fail
 refine HLe.o.mono ?_;rintro e w1 ⟨rfl,rfl⟩
 go_wp2_with fail
 go_ret;exact⟨rfl,HE.o⟩
def KN(K:Nat->Option Kb):Nat->Option Nat:=fun j=>(K j).map (·.n)
def BW(Kn:Nat->Option Nat)(n j:Nat):Bool:=match Kn j with
 | none=>false
 | some m=>decide (m≠n)
def WQ(Kn:Nat->Option Nat)(n:Nat):Nat:=if BW Kn n 0=false then 0 else if BW Kn n 1=false then 1 else if BW Kn n 2=false then 2 else 3
def aFi(st:Int × (Nat->Option Nat))(n:Nat):Int × (Nat->Option Nat):=
 (if st.2 (WQ st.2 n)=some n then st.1 else wrap64 (st.1+1),fun j=>if j=0 then some n else if j<=WQ st.2 n then st.2 (j-1) else st.2 j)
theorem OJ(K:Nat->Option Kb)(n j:Nat):BW (KN K) n j=sI K n j:=by
 unfold BW sI KN;cases K j <;> rfl
theorem YD{K:Nat->Option Kb}{n k:Nat}(h:aGW K n k):k=WQ (KN K) n:=by
 have hp:∀j,j<k->BW (KN K) n j=true:=fun j hj=>by rw[OJ];exact h.past j hj
 have he:k<3->BW (KN K) n k=false:=fun hk=>by rw[OJ];exact h.end_ hk
 have hl:=h.le;unfold WQ;rcases(by omega:k=0\/k=1\/k=2\/k=3) with rfl | rfl | rfl | rfl
 ·rw[if_pos (he zO)]
 ·rw[if_neg (by rw[hp 0 zO];decide),if_pos (he zO)]
 ·rw[if_neg (by rw[hp 0 zO];decide),if_neg (by rw[hp 1 zO];decide),if_pos (he zO)]
 ·rw[if_neg (by rw[hp 0 zO];decide),if_neg (by rw[hp 1 zO];decide),if_neg (by rw[hp 2 zO];decide)]
theorem WM{K K':Nat->Option Kb}{n:Nat}{s s':Int}{x:Kb}(h:BH K n s (fun s _ s'=>s'=wrap64 (s+1)) x s' K'):(s',KN K')=aFi (s,KN K) n:=by
 obtain⟨k,hk,ho,rfl⟩:=h.how;have hf:=YD hk;have hn:=h.num;unfold aFi;dsimp only;rw[<-hf];have e2:KN (YJ K k x)=fun j=>if j=0 then some n else if j<=k then KN K (j-1) else KN K j:=by
  funext j;unfold KN YJ;by_cases h0:j=0
  ·rw[if_pos h0,if_pos h0,<-hn];rfl
  ·rw[if_neg h0,if_neg h0];by_cases h1:j<=k
   ·rw[if_pos h1,if_pos h1]
   ·rw[if_neg h1,if_neg h1]
 rw[e2];rcases ho with ⟨hh,hK,rfl⟩ | ⟨hh,hs⟩
 ·have e1:KN K k=some n:=by unfold KN;rw[hK,<-hn];rfl
  rw[if_pos e1]
 ·have e1:¬KN K k=some n:=fun e=>by
   unfold KN at e;unfold oR at hh;cases hK:K k with
   | none=>rw[hK]at e;cases e
   | some y=>rw[hK]at e hh;exact of_decide_eq_false hh (Option.some.inj e)
  rw[if_neg e1,hs]
def atN(N len:Nat)(st:Int × (Nat->Option Nat))(x:Int):Int × (Nat->Option Nat):=
 if 0<=x/\x<len then aFi (aFi st (kD x N).toNat) (kE x N).toNat else st
def oN(N len:Nat)(a:Int)(st:Int × (Nat->Option Nat)):Nat->Int × (Nat->Option Nat)
 | 0=>st
 | i+1=>atN N len (oN N len a st i) (a+i)
theorem uI{N len:Nat}{a:Int}{st:Int × (Nat->Option Nat)} : ∀{i:Nat},(∀j:Nat,j<i->a+j<0)->oN N len a st i=st
 | 0,_=>rfl
 | i+1,h=>by
  show atN N len (oN N len a st i) (a+i)=st;rw[uI fun j hj=>h j zO];unfold atN;rw[if_neg (by have:=h i zO;omega)]
theorem AG{N len:Nat}{a:Int}{st:Int × (Nat->Option Nat)}{i:Nat}(h:(len:Int)<=a+i):∀k,oN N len a st (i+k)=oN N len a st i
 | 0=>rfl
 | k+1=>by
  show atN N len (oN N len a st (i+k)) (a+(i+k:Nat))=_;rw[AG h k];unfold atN;rw[if_neg zO]
def WG(len:Nat)(WF:nI)(x:Int):Int:=if 0<=x/\x<len then WF x.toNat else 0
theorem OA{w W1 W0:World}{P:iR}{ab g b B0 len N:Nat}{Z:Nat->aM}{k c:Nat}{L:Nat->Fr}{a1:Int}(h1:RunC w P ab g a1 0 W1)(hB:W1.heap.size<=B0)(hb:B0<=b)(hS:ChS P Z k c len N L)(fr:Int)(K:Nat->Option Kb)(V:World)(h:xD w P ab g b B0 (lW P.fb k c len) N L W0 fr K V)(x:Int):
  Calls zP 12 #[.pointer (some ⟨b,0,none⟩),vI iJ x] V fun e V'=>∃s' K',e=rJ (vI iJ (WG len (fun q=>oG (gJ N (rK N L) N (rL N L) q)) x))/\(s',KN K')=atN N len (fr,KN K) x/\xD w P ab g b B0 (lW P.fb k c len) N L W0 s' K' V':=by
 by_cases hx:0<=x/\x<len
 ·obtain⟨q,rfl⟩:∃q:Nat,x=q:=⟨x.toNat,zO⟩
  refine(OI h1 hB hb hS fr K V h q zO).mono ?_;rintro e V' ⟨s',K',rfl,⟨v,ha⟩,hr⟩;refine⟨s',K',?_,?_,hr⟩
  ·unfold WG;rw[if_pos hx,Int.toNat_natCast]
  ·obtain⟨x1,m1,s1,K1,_,_,u1,u2,_⟩:=ha.ex;unfold atN;rw[if_pos hx,<-WM u1,<-WM u2]
 ·obtain⟨Pv,hcu⟩:=h.cu;refine(aHm b (len:Int) x V (hcu.cA 3 zO) zO).mono ?_;rintro e V' ⟨rfl,rfl⟩;refine⟨fr,K,?_,?_,h⟩
  ·unfold WG;rw[if_neg hx]
  ·unfold atN;rw[if_neg hx]
theorem xD.put{w W1 W0 V U:World}{P:iR}{ab g b B0 N gr m:Nat}{A:Nat->Value}{L:Nat->Fr}{a1:Int}{fr:Int}{K:Nat->Option Kb}(h1:RunC w P ab g a1 0 W1)(hB:W1.heap.size<=B0)(h:xD w P ab g b B0 A N L W0 fr K V)(hg:W0.heap.size<=gr)(hB2:B0<=gr)(hne:gr≠b)(hs:vW V gr 3 m){x:Int}(hx:V.cell? ⟨gr,0,none⟩=some (vI iJ x))(k:Kept (fun q=>q≠gr) V U):xD w P ab g b B0 A N L W0 fr K U:=by
 obtain⟨Pv,hcu⟩:=h.cu;refine⟨⟨Pv,hcu.kept k (fun e=>hne e.symm) fun j hj y hy e=>?_⟩,(mW h1 hB).own h.run hB2 hx (k.mono fun y hy=>hy.2),h.gd,h.kp.trans (k.mono fun y hy e=>by have:=hy.1;omega)⟩;obtain⟨cs,hc,_⟩:=hs;have hk:=(hcu.k j hj y hy).1;have hk:V.heap[y.b]?=_:=hk;rw[e,hc]at hk;cases hk
theorem aFX(b:Nat)(len a n:Int)(w:World)(h:w.cell? ⟨b,24,none⟩=some (vI iJ len))(hl:0<len)(hn:n<0):Calls zP 22 #[.pointer (some ⟨b,0,none⟩),vI iJ a,vI iJ n] w fun e w'=>e=rJ (.slice none 0 0)/\w=w':=by
 have HL:=zH (iD b len w h);clear h;go_enter func22,ntmps22
 go_wp2_with fail
 refine HL.o.mono ?_;rintro e w1 ⟨rfl,rfl⟩
 go_wp2_with fail
 go_ret;exact⟨rfl,rfl⟩
structure aHA(w:World)(P:iR)(ab g b B0:Nat)(A:Nat->Value)(N len:Nat)(L:Nat->Fr)(W0:World)(st0:Int × (Nat->Option Nat))(a:Int)(n gr i0 i:Nat)(V:World):Prop where
 ex:∃fr K,(fr,KN K)=oN N len a st0 i/\xD w P ab g b B0 A N L W0 fr K V
 row:CellsAt V gr n (fun j=>if i0<=j/\j<i then WG len (fun q=>oG (gJ N (rK N L) N (rL N L) q)) (a+j) else 0)
 sh:vW V gr 3 n
def RD(w:World)(P:iR)(ab g b B0:Nat)(A:Nat->Value)(N len:Nat)(L:Nat->Fr)(W0:World)(st0:Int × (Nat->Option Nat))(a:Int)(n:Nat)(e:Ending)(V:World):Prop:=
 ∃gr fr K,e=rJ (.slice (some ⟨gr,0,none⟩) n n)/\CellsAt V gr n (fun j=>WG len (fun q=>oG (gJ N (rK N L) N (rL N L) q)) (a+j))/\W0.heap.size<=gr/\(fr,KN K)=oN N len a st0 n/\xD w P ab g b B0 A N L W0 fr K V
theorem aAM{w W1 W0:World}{P:iR}{ab g b B0 len N:Nat}{Z:Nat->aM}{k c:Nat}{L:Nat->Fr}{a1:Int}(h1:RunC w P ab g a1 0 W1)(hB:W1.heap.size<=B0)(hb:B0<=b)(hS:ChS P Z k c len N L)(fr:Int)(K:Nat->Option Kb)(h:xD w P ab g b B0 (lW P.fb k c len) N L W0 fr K W0)(hl:0<len)(a:Int)(n:Nat)(ha1:-9223372036854775808<=a)(ha2:a<=1099511627776)(hn:n<=100):
  Calls zP 22 #[.pointer (some ⟨b,0,none⟩),vI iJ a,vI iJ n] W0 (RD w P ab g b B0 (lW P.fb k c len) N len L W0 (fr,KN K) a n):=by
 obtain⟨Pv,hcu⟩:=h.cu;have HL:=zH (iD b (len:Int) W0 (hcu.cA 3 zO));have hbl:=hcu.lt;have len1:(0:Int)<len:=zO;have hlm:=hS.le;have len2:(len:Int)<=1048576:=zO;have n0:(0:Int)<=n:=zO;have n1:(n:Int)<=100:=zO;have hMk:=fun V=>BP n zO V;obtain⟨nf,hnf⟩:∃x:Int,x=wrap64 (-a):=⟨_,rfl⟩
 obtain⟨i0,hi0⟩:∃i:Nat,(i:Int)=max 0 nf:=⟨(max 0 nf).toNat,zO⟩
 have hlow:∀j:Nat,j<i0->j<n->a+j<0:=fun j hj hjn=>by
  by_cases hm:a = -9223372036854775808
  ·omega
  ·rw[IntWalk.wrap64_in _ zO]at hnf;omega
 have e0:((len:Int) == 0)=false:=by simp;omega
 have e1:=hnf.symm;have e2:=hi0.symm;obtain⟨gr,hgr⟩:∃x,x=W0.heap.size:=⟨_,rfl⟩
 obtain⟨W2,hW2⟩:∃V,V=W0.alloc (.cells (aA n (blk fun _=>0)) 3):=⟨_,rfl⟩
 have ho2:Old W0 W2:=by rw[hW2];exact Old.alloc _ _
 have hc0:CellsAt W2 gr n (fun _=>0):=by rw[hW2,hgr];exact fG W0 n (fun _=>0) 3
 have hsh:vW W2 gr 3 n:=by rw[hW2,hgr];exact⟨_,heap_alloc_new _ _,aB _ _⟩
 obtain⟨V0,h0⟩:=h.cu;have hcl2:xD w P ab g b B0 (lW P.fb k c len) N L W0 fr K W2:=(GZ h1 hB hb).old h ho2;have HS0:Hid (i0<=n->aHA w P ab g b B0 (lW P.fb k c len) N len L W0 (fr,KN K) a n gr i0 i0 W2):=zH fun hi=>⟨⟨fr,K,(uI fun j hj=>hlow j hj zO).symm,hcl2⟩,hc0.ext fun j _=>by rw[if_neg zO],hsh⟩
 have HS0':Hid (n<i0->RD w P ab g b B0 (lW P.fb k c len) N len L W0 (fr,KN K) a n (rJ (.slice (some ⟨gr,0,none⟩) n n)) W2):=zH fun hi=>⟨gr,fr,K,rfl,hc0.ext fun j hj=>by unfold WG;rw[if_neg (by have:=hlow j zO hj;omega)],zO,(uI fun j hj=>hlow j zO hj).symm,hcl2⟩
 have HA:=zH (fun(Wb:World) (fr:Int) (K:Nat->Option Kb) (V:World) (h:xD w P ab g b B0 (lW P.fb k c len) N L Wb fr K V) (x:Int)=>OA h1 hB hb hS fr K V h x);have HNW:Hid (¬P.wr gr):=zH fun hx=>by have:=(mW h1 hB).low hx;omega
 have HPut:=zH (fun(fr:Int) (K:Nat->Option Kb) (V U:World) (x:Int) (h:xD w P ab g b B0 (lW P.fb k c len) N L W0 fr K V) (hs:vW V gr 3 n) (hx:V.cell? ⟨gr,0,none⟩=some (vI iJ x)) (kk:Kept (fun q=>q≠gr) V U)=>h.put h1 hB zO zO zO hs hx kk);have HW2:=zH hW2;have HGr:=zH hgr;have HGr0:Hid (W0.heap.size<=gr):=zH zO;have HGl:Hid (gr<W2.heap.size/\gr≠b):=zH ⟨hc0.lt,zO⟩;have HLow:=zH hlow;clear h h0 hcu hcl2 hsh hc0 ho2 hW2 hgr hnf hi0 hlow hbl hS hlm;go_enter func22,ntmps22
 go_wp2_with fail
 refine HL.o.mono ?_;rintro e w1 ⟨rfl,rfl⟩;clear HL
 go_wp2_with fail
 rw[<-HGr.o,<-HW2.o];by_cases hi:n<i0
 ·have hi1:(n:Int)<i0:=zO;have HE:=zH (HS0'.o hi);clear HS0 HS0' HA HPut HGr HW2 HGl HLow hi e1 e2
  go_loopw [8] (fun iv wr=>iv=vI iJ i0/\W2=wr) (fun _ _=>0)
  case atStart=>exact⟨rfl,rfl⟩
  case round=>
   obtain⟨rfl,rfl⟩:=hrel
   go_wp2_with fail
   go_ret;exact HE.o
 have hi:i0<=n:=zO;have HS:=zH (HS0.o hi);clear HS0 HS0' HGr HW2 e1 e2
 go_loopw [8] (fun iv wr=>∃i:Nat,i0<=i/\i<=n/\iv=vI iJ i/\Hid (aHA w P ab g b B0 (lW P.fb k c len) N len L W0 (fr,KN K) a n gr i0 i wr)) (fun iv _=>n-(intOf iv).toNat)
 case atStart=>exact⟨i0,Nat.le_refl _,hi,rfl,HS⟩
 case round=>
  clear HS;obtain⟨i,hi1,hi2,rfl,HS⟩:=hrel;obtain⟨fr1,K1,hst,hcl⟩:=HS.o.ex;obtain⟨Pv,hcu⟩:=hcl.cu;have c24:wr.cell? ⟨b,24,none⟩=some (vI iJ len):=hcu.cA 3 zO;have i1:(0:Int)<=i:=zO;have i2:(i:Int)<=100:=zO
  go_upto_region 5 with (fail)
  go_cut [37] (fun v wx=>v=.bool (decide (i<n/\a+i<len))/\wr=wx)
  case first=>
   clear HS HA HPut hst hcl hcu HLow HGl;by_cases b1:i<n
   ·have b1':(i:Int)<n:=zO;by_cases b2:a+(i:Int)<len
    ·have He:=zH (show decide (i<n/\a+(i:Int)<len)=true from decide_eq_true ⟨b1,b2⟩)
     go_wp2_with fail
     go_meet
     exact⟨by first | (rw[He.o];done) | (rw[He.o];exact congrArg Value.bool (decide_eq_true zO)) | (rw[He.o];exact congrArg Value.bool (decide_eq_false zO)),rfl⟩
    ·have He:=zH (show decide (i<n/\a+(i:Int)<len)=false from decide_eq_false fun h=>b2 h.2)
     go_wp2_with fail
     go_meet
     exact⟨by first | (rw[He.o];done) | (rw[He.o];exact congrArg Value.bool (decide_eq_true zO)) | (rw[He.o];exact congrArg Value.bool (decide_eq_false zO)),rfl⟩
   ·have b1':¬(i:Int)<n:=zO;have He:=zH (show decide (i<n/\a+(i:Int)<len)=false from decide_eq_false fun h=>b1 h.1)
    go_wp2_with fail
    go_meet
    exact⟨by first | (rw[He.o];done) | (rw[He.o];exact congrArg Value.bool (decide_eq_true zO)) | (rw[He.o];exact congrArg Value.bool (decide_eq_false zO)),rfl⟩
  case rest=>as_aux_lemma=>
   obtain⟨rfl,rfl⟩:=hcut;clear c24;by_cases hc:i<n/\a+(i:Int)<len
   ·rw[decide_eq_true hc];have hin:=hc.1;have hin':(i:Int)<n:=zO;have HAi:=zH (HA.o wr fr1 K1 wr ⟨hcl.cu,hcl.run,hcl.gd,Kept.refl _ _⟩ (a+i));have HRow:=zH HS.o.row;have HSh:=zH HS.o.sh;have HSt:=zH hst;have HKp:=zH hcl.kp;have HW0:Hid (gr<wr.heap.size):=zH HS.o.row.lt;obtain⟨v,hv⟩:=zG (WG len (fun q=>oG (gJ N (rK N L) N (rL N L) q)) (a+i));rw[<-hv]at HAi;have HV:=zH hv;have a1':-9223372036854775808<=a+(i:Int):=zO;clear hc hcl hcu hst HA hv HS
    go_wp2_with fail
    refine HAi.o.mono ?_;rintro e V5 ⟨s',K',rfl,hs,hr5⟩;have hkr:Kept (fun x=>x<wr.heap.size/\x≠b/\¬P.wr x) wr V5:=hr5.kp;have row5:=HRow.o.kept hkr ⟨HW0.o,HGl.o.2,HNW.o⟩;have sh5:=HSh.o.kept hkr ⟨HW0.o,HGl.o.2,HNW.o⟩;have hc5:=row5.cell i zO;have hf5:=row5.frz i zO;have hz5:=row5.cell 0 zO;have HKp5:Hid (Kept (fun x=>x<W0.heap.size/\x≠b/\¬P.wr x) W0 V5):=zH (HKp.o.trans (hkr.mono fun x hx=>⟨Nat.lt_of_lt_of_le hx.1 HKp.o.size,hx.2⟩));have HR5:Hid (aHA w P ab g b B0 (lW P.fb k c len) N len L W0 (fr,KN K) a n gr i0 (i+1) (V5.setCell ⟨gr,i,none⟩ (vI iJ v))):=zH (by
     have hcl5:xD w P ab g b B0 (lW P.fb k c len) N L W0 s' K' V5:=⟨hr5.cu,hr5.run,hr5.gd,HKp5.o⟩
     refine⟨⟨s',K',?_,HPut.o s' K' V5 _ _ hcl5 sh5 hz5 (Kept.setCell _ (fun e=>e rfl) _)⟩,(row5.set i zO v).ext fun j hj=>?_,sh5.cell i _⟩
     ·show _=atN N len (oN N len a (fr,KN K) i) (a+i);rw[<-HSt.o];exact hs
     ·by_cases hj1:j=i
      ·subst hj1;rw[if_pos rfl,if_pos zO,HV.o]
      ·rw[if_neg hj1];by_cases hj2:i0<=j/\j<i
       ·rw[if_pos hj2,if_pos zO]
       ·rw[if_neg hj2,if_neg zO])
    clear hkr row5 sh5 hz5 hr5 hs HRow HSh HSt HKp HPut HKp5 HV HAi
    go_wp2_with fail
    go_roundw
    case rel=>exact⟨i+1,zO,zO,by go_num,HR5⟩
    case measure=>exact zM
   ·rw[decide_eq_false hc];have HF:Hid (RD w P ab g b B0 (lW P.fb k c len) N len L W0 (fr,KN K) a n (rJ (.slice (some ⟨gr,0,none⟩) n n)) wr):=zH (by
     refine⟨gr,fr1,K1,rfl,HS.o.row.ext fun j hj=>?_,?_,?_,hcl⟩
     ·by_cases hj2:i0<=j/\j<i
      ·rw[if_pos hj2]
      ·rw[if_neg hj2];unfold WG;by_cases hj3:j<i0
       ·rw[if_neg (by have:=HLow.o j hj3 hj;omega)]
       ·rw[if_neg zO]
     ·have:=HGr0.o;omega
     ·rw[hst];by_cases hin:i<n
      ·have e:=AG (N:=N) (len:=len) (a:=a) (st:=(fr,KN K)) (i:=i) zO (n-i);rw[show i+(n-i)=n by omega]at e;exact e.symm
      ·rw[show i=n by omega])
    clear hc hcl hcu hst HA HS HPut
    go_wp2_with fail
    go_ret;exact HF.o
def NR(Kn:Nat->Option Nat):Nat->List Int
 | 0=>[]
 | k+1=>match Kn k with
  | none=>NR Kn k
  | some m=>NR Kn k ++ [(m:Int)]
theorem xX(Kn:Nat->Option Nat):∀k,(NR Kn k).length<=k
 | 0=>Nat.le_refl _
 | k+1=>by
  have:=xX Kn k;unfold NR;split
  ·omega
  ·rw[List.length_append,List.length_singleton];omega
structure VQ(w:World)(Kn:Nat->Option Nat)(k:Nat)(v:Value)(wr:World):Prop where
 row:OwnL .i64 3 (fun q=>q<w.heap.size) wr v (NR Kn k)
 old:Old w wr
theorem mY(b:Nat)(V:nI)(A:Nat->Value)(K:Nat->Option Kb)(ms:Value)(fr:Int)(w:World)(h:CuS w b V A K ms fr):Calls zP 19 #[.pointer (some ⟨b,0,none⟩)] w fun e w'=>∃v,e=rJ v/\VQ w (KN K) 4 v w':=by
 obtain⟨i0,hi,hz0,hz1,hz2⟩:=info_parts Tryz.info20;have c41:w.cell? ⟨b,41,none⟩=some (xN (K 0)):=h.cK 0 zO;have c42:w.cell? ⟨b,42,none⟩=some (xN (K 1)):=h.cK 1 zO;have c43:w.cell? ⟨b,43,none⟩=some (xN (K 2)):=h.cK 2 zO;have c44:w.cell? ⟨b,44,none⟩=some (xN (K 3)):=h.cK 3 zO;have HKb:=zH h.k;clear h;go_enter func19,ntmps19
 go_wp2_with fail
 clear c41 c42 c43 c44
 go_loopw [3,12] (fun v iv wr=>∃k:Nat,k<=4/\iv=vI iJ k/\Hid (VQ w (KN K) k v wr)) (fun _ iv _=>4-(intOf iv).toNat)
 case atStart=>exact⟨0,zO,by go_num,zH ⟨OwnL.nil _ _ _ _,Old.refl w⟩⟩
 case round=>
  obtain⟨k,hk,rfl,HR⟩:=hrel;by_cases hlt:k<4
  ·have k0:(0:Int)<=k:=zO;have k1:(k:Int)<4:=zO;have hat:∀w:World,(Instr.index 59 (.agg (aA 4 fun j=>xN (K j))) (vI iJ k)).run zP w=.ok (xN (K k)) w:=fun w=>by
    simp[Instr.index,run_underlying underlying59,asIntOf,part,(show ∀w,(sizeOf 58).run zP w=.ok 1 w from fun _=>zK),hlt,isAgg,run_underlying underlying58,bI 4 (fun j=>xN (K j)) k hlt,go_sem]
   obtain⟨y,hy⟩:=zG (K k);have hrow:=HR.o.row;unfold OwnL at hrow;have HOld:=zH HR.o.old;have HKk:=zH (fun x (e:K k=some x)=>((HKb.o k hlt x e).1.old HR.o.old).num);have hat2:∀w:World,(Instr.index 59 (.agg #[xN (K 0),xN (K 1),xN (K 2),xN (K 3)]) (vI iJ k)).run zP w=.ok (xN (K k)) w:=hat
   rw[<-hy]at hat2 HKk;have HY:=zH hy;clear hat hy HR HKb;cases y with
   | none=>
    rw[show xN none=.pointer none from rfl]at hat2;have HR2:Hid (VQ w (KN K) (k+1) u3 wr):=zH ⟨by
     have e:NR (KN K) (k+1)=NR (KN K) k:=by
      have:KN K k=none:=by unfold KN;rw[<-HY.o];rfl
      show (match KN K k with | none=>NR (KN K) k | some m=>NR (KN K) k ++ [(m:Int)])=_;rw[this]
     rw[e];exact hrow,HOld.o⟩
    clear hrow HKk HY HOld
    go_wp2_with fail
    go_roundw
    case rel=>exact⟨k+1,zO,by go_num,HR2⟩
    case measure=>exact zM
   | some x=>
    rw[show xN (some x)=.pointer (some ⟨x.b,0,none⟩) from rfl]at hat2;have hx0:=HKk.o x rfl;have e:NR (KN K) (k+1)=NR (KN K) k ++ [(x.n:Int)]:=by
     have:KN K k=some x.n:=by unfold KN;rw[<-HY.o];rfl
     show (match KN K k with | none=>NR (KN K) k | some m=>NR (KN K) k ++ [(m:Int)])=_;rw[this]
    have hln:=xX (KN K) k;have HE:=zH e;have HLn:=zH hln;have HOw:=zH (hrow.old (Old.alloc wr (.cells #[vI iJ (x.n:Int)] 3)));have HO:=zH (HOld.o.alloc' (.cells #[vI iJ (x.n:Int)] 3));clear hrow HKk HY HOld e hln
    go_wp2_with (at_builtin;refine fL _ rfl _ _ 23 rfl (fun q=>q<w.heap.size) 3 i0 (vI iJ 0) 8 underlying23 hi hz0 hz1 hz2 rfl _ _ _ rfl HOw.o ⟨wr.heap.size,0,none⟩ 1 1 [vI iJ (x.n:Int)] rfl rfl (jW wr _ _) (rH rfl) (by have:=HLn.o;unfold maxLen;omega) (by have:=HLn.o;omega) (fun q hq=>Nat.lt_of_lt_of_le hq HO.o.size) ?_;intro v' w2 hown2 hk2 _;have HR2:=zH (show VQ w (KN K) (k+1) v' w2 from⟨by rw[HE.o];exact OwnL.snoc hown2,HO.o.after hk2 (fun _ h=>h)⟩);clear hown2 hk2 HOw HO)
    go_roundw
    case rel=>exact⟨k+1,zO,by go_num,HR2⟩
    case measure=>exact zM
  ·obtain rfl:k=4:=zO;have HE:=zH HR.o;clear HR hlt hk
   go_wp2_with fail
   go_ret;exact⟨_,rfl,HE.o⟩
theorem yI(u v:Value)(n:Nat)(cu cv:Nat)(p q:Option Addr)(xs:List Int)(w:World)(hu:u=.slice p n cu)(hv:v=.slice q n cv)(h1:kK w .i64 u xs)(h2:kK w .i64 v xs)(hn:n<=1099511627776):Calls zP 18 #[u,v] w fun e w'=>e=rJ (.bool true)/\∃d,w'=w.drewN d:=by
 subst hu;subst hv;obtain⟨hl1,hc1⟩:=h1.cellAt;obtain⟨hl2,hc2⟩:=h2.cellAt;have H1:Hid (∀k,k<n->∃g o,p=some ⟨g,o,none⟩/\w.cell? ⟨g,o+k,none⟩=some (vI iJ (xs.getD k 0))):=zH fun k hk=>by
  obtain⟨gp,op,e,_,_,_,hcp⟩:=hc1 zO;exact⟨gp,op,e,hcp k zO⟩
 have H2:Hid (∀k,k<n->∃g o,q=some ⟨g,o,none⟩/\w.cell? ⟨g,o+k,none⟩=some (vI iJ (xs.getD k 0))):=zH fun k hk=>by
  obtain⟨gp,op,e,_,_,_,hcp⟩:=hc2 zO;exact⟨gp,op,e,hcp k zO⟩
 have e0:((n:Int) != (n:Int))=false:=zS;clear h1 h2 hl1 hl2 hc1 hc2;go_enter func18,ntmps18
 go_wp2_with fail
 clear e0
 go_loopw [5] (fun iv wr=>∃k:Nat,k<=n/\iv=vI iJ k/\Hid (∃d,wr=w.drewN d)) (fun iv _=>n-(intOf iv).toNat)
 case atStart=>exact⟨0,zO,by go_num,zH ⟨0,rfl⟩⟩
 case round=>
  obtain⟨k,hk,rfl,HD⟩:=hrel;by_cases hlt:k<n
  ·have k0:(0:Int)<=k:=zO;have k1:(k:Int)<n:=zO;obtain⟨g,o,rfl,hc⟩:=H1.o k hlt;obtain⟨g2,o2,rfl,hc2⟩:=H2.o k hlt;have hc:wr.cell? ⟨g,o+k,none⟩=some (vI iJ (xs.getD k 0)):=by obtain⟨d,rfl⟩:=HD.o;exact hc
   have hc2:wr.cell? ⟨g2,o2+k,none⟩=some (vI iJ (xs.getD k 0)):=by obtain⟨d,rfl⟩:=HD.o;exact hc2
   generalize xs.getD k 0=x at *;have e1:(x != x)=false:=zS;clear H1 H2
   go_wp2_with fail
   go_quiet (fail)
   go_wp2_with fail
   go_roundw
   case rel=>exact⟨k+1,zO,by go_num,zH (by obtain⟨d,hd⟩:=HD.o;exact⟨_,by rw[hd];exact World.drewN_drewN _ _ _⟩)⟩
   case measure=>exact zM
  ·obtain rfl:k=n:=zO;clear hlt hk H1 H2
   go_wp2_with fail
   go_ret;exact⟨rfl,HD.o⟩
theorem NZ{w:World}{b clock:Nat}{es}(h:w.heap[b]?=some (.map es clock))(o:Nat):w.cell? ⟨b,o,none⟩=none:=by simp[World.cell?,h]
theorem FyS.notU{P:iR}{W:World}{c:dE}{d:eF}{a m:Int}(h:FyS P W c d a m)(x:Nat)(hx:P.wr x):notU W x:=fun v hv=>by
 rcases hx with rfl | rfl | rfl | rfl | rfl | rfl
 ·rw[h.ft.cells.1]at hv;cases hv
 ·have:=h.ck.cc.blk;rw[cell_of_row _ _ _ _ _ _ this]at hv;simp at hv
 ·obtain⟨gs,h1,_⟩:=h.ck.cc.slots;have h0:=h.ck.cc.num.1;rw[h1.cell 0 zO]at hv;have hv:some (bZ (c.S 0) (gs 0) 0)=some (.int .u8 v):=hv;cases hS:c.S 0 <;> rw[hS]at hv <;> cases hv
 ·obtain⟨D,⟨es,clock,h1,_⟩,_⟩:=h.ck.cc.map;rw[NZ h1]at hv;cases hv
 ·have:=h.ck.dk.blk;rw[cell_of_row _ _ _ _ _ _ this]at hv;simp at hv
 ·obtain⟨D,⟨es,clock,h1,_⟩,_⟩:=h.ck.dk.map;rw[NZ h1]at hv;cases hv
structure TwF(P Q:iR):Prop where
 sz:P.sz=24
 sz2:Q.sz=24
 n:Q.n=P.n
 F:Q.F=P.F
 D:∀i,i<P.n->Q.D i=P.D i
theorem UM{w W1 W2:World}{P Q:iR}{a1 g1 a2 g2 k:Nat}{Z0 Y0 Z Y L:Nat->aM}{c c2:dE}{d d2:eF}(h1:MdR w P a1 g1 Z c d W1)(h2:MdR W1 Q a2 g2 Y c2 d2 W2)(s1:P.sz=24)(s2:Q.sz=24)(n1:P.n=k)(n2:Q.n=k)
  (f1:∀i,i<k->rV (L i) (Z0 i)) (f2:∀i,i<k->rV (L i) (Y0 i)) (o1:pM Z0 k Z) (o2:pM Y0 k Y):TwF P Q/\∀i,i<k->(Z i).like (Y i):=by
 have hl:=pM.twin (fun i hi=>aBZ (f1 i hi) (f2 i hi)) o1 o2;have p1:=h1.pk;have p2:=h2.pk;rw[s1,n1]at p1;rw[s2,n2]at p2;have hF:=Pkd.twin hl p1 p2;refine⟨⟨s1,s2,by rw[n1,n2],hF.symm,fun i hi=>?_⟩,hl⟩;rw[h1.hD,h2.hD,s1,s2,n1,n2];exact(aDG hl i zO).symm
theorem RunC.base{w W0 W:World}{Q:iR}{a2 g2:Nat}{a m:Int}(h:RunC W0 Q a2 g2 a m W)(o:Old w W0):RunC w Q a2 g2 a m W:=⟨h.ex,h.all,o.trans h.old,fun x hx=>⟨Nat.le_trans o.size (h.new x hx).1,(h.new x hx).2⟩⟩
theorem RunC.beside{w W V:World}{P Q:iR}{a1 g1 a2 g2 b:Nat}{a aP:Int}(h:RunC w Q a2 g2 a 0 W)(hP:RunC w P a1 g1 aP 0 W)(k:Kept (fun x=>x<W.heap.size/\x≠b/\¬P.wr x) W V)(hd:∀x,P.wr x->¬(Q.wr x\/x=Q.pb\/Q.bk x)/\x≠a2)
  (hb:∀v,W.cell? ⟨b,0,none⟩≠some (.int .u8 v)) (hb2:¬(Q.wr b\/b=Q.pb\/Q.bk b)/\b≠a2) (hb3:w.heap.size<=b):RunC w Q a2 g2 a 0 V:=by
 obtain⟨c,d,f,r⟩:=h.ex;obtain⟨c1,d1,f1,_⟩:=hP.ex;refine⟨⟨c,d,f.kept k (fun x hx=>⟨f.lts x hx,fun e=>hb2.1 (e ▸ hx),fun hp=>(hd x hp).1 hx⟩) (fun x hx hn=>?_),r⟩,(k.block a2 ⟨lt_of_block h.all,fun e=>hb2.2 e.symm,fun hp=>(hd _ hp).2 rfl⟩).trans h.all,h.old.after k fun x hx=>⟨Nat.lt_of_lt_of_le hx h.old.size,fun e=>zO,fun hp=>by have:=(hP.new x hp).1;omega⟩,h.new⟩;by_cases e:x=b
 ·subst e;exact hb
 ·exact f1.notU x (Classical.not_not.1 fun hp=>hn ⟨hx,e,hp⟩)
theorem aBU{P Q:iR}{Z Y:Nat->aM}{k c len N:Nat}{L:Nat->Fr}(h:ChS P Z k c len N L)(tw:TwF P Q)(hl:(Z k).like (Y k))(pk:Pkd Q.sz Q.n Y Q.F)(hD:Q.D=eE (aI Y) Q.sz Q.n):ChS Q Y k c len N L:=by
 have e:=tw.D k h.hk;have ec:qG (Y k) c=qG (Z k) c:=by
  obtain⟨_,_,_,_,_,_,h7,h8⟩:=hl;unfold qG;rw[h7,h8]
 have ef:∀b:Nat,QI Q k c b=QI P k c b:=fun b=>by
  unfold QI iZ oO;simp only[Int.toNat_natCast,e,tw.F,tw.sz,tw.sz2]
 exact⟨pk,hD,by rw[tw.n];exact h.hk,by rw[e];exact h.hc,by rw[e];exact h.hlen,h.hN,h.le,by rw[ec];exact h.cl,by rw[ec];exact h.sam,by rw[ec,tw.sz2,<-tw.sz];exact h.hL,fun b hb=>by rw[ef];exact h.fr b hb⟩
theorem OwnL.shape{k:IntKind}{t:TypeId}{X:Nat->Prop}{w:World}{v:Value}{xs:List Int}(h:OwnL k t X w v xs):∃p c,v=.slice p xs.length c:=by
 unfold OwnL at h;rcases h.1.2 with ⟨hv,h0⟩ | ⟨g,cap,cur,hv,_⟩
 ·exact⟨none,0,by rw[hv,h0]⟩
 ·exact⟨_,_,hv⟩
end Go.Proofs.YticpdokbiblpoaaGreatDoor
