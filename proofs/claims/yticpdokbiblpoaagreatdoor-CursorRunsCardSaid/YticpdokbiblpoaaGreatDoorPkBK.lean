/- Texts joined: CurRn. -/
import Derived.Deep.RegionHeld
import Derived.BigQuiet
import Derived.Test.YticpdokbiblpoaaGreatDoorPkBI
import Derived.Test.YticpdokbiblpoaaGreatDoorTk
set_option linter.unusedVariables false
set_option linter.unusedSimpArgs false
set_option maxHeartbeats 16000000
namespace Go.Proofs.YticpdokbiblpoaaGreatDoor
open Go.Proofs.Tryz
open Go.Proofs.Tryz renaming prog → zP
open Go.Value renaming int → vI
open Go.IntKind renaming i64 → iJ
open Go.Ending renaming returned → rJ
set_option maxRecDepth 100000
open Go.RowKit Go.ChangeShapes Go.WideShapes
theorem aAB(q:Option Addr)(n c:Nat)(L:Nat->aM)(a m:Int)(w:World)(hs:nE w q n L)(ha1:-9223372036854775808<=a)(hm1:-9223372036854775808<=m)(ha2:a<=9223372036854775807)(hm2:m<=9223372036854775807):
  Calls zP 5 #[.slice q n c,vI iJ a,vI iJ m] w fun e w'=>e=rJ (.bool true)/\Old w w':=by
 have HMd:=zH (fun V (o:Old w V)=>DF 24 q n c L 2 0 V (hs.old o));clear hs;go_enter func5,ntmps5
 go_wp2_with fail
 refine(HMd.o w (Old.refl w)).mono ?_;rintro e W0 ⟨Z0,hz0,h1⟩;have ho1:Old w W0:=by
  rcases h1 with ⟨_,o,_⟩ | ⟨_,_,_,_,_,_,P,ab,g,Z,_,_,_,_,hmd⟩
  ·exact o
  ·exact hmd.old
 obtain⟨v1,hv1⟩:∃v,e=rJ v:=by
  rcases h1 with ⟨rfl,_,_⟩ | ⟨_,_,_,_,_,_,P,ab,g,Z,rfl,_,_,_,_⟩ <;> exact⟨_,rfl⟩
 subst hv1;have HM2:=zH (HMd.o W0 ho1);have HO1:=zH ho1;have H1:=zH h1;have HZ0:=zH hz0;clear ho1 h1 hz0 HMd
 go_wp2_with fail
 refine HM2.o.mono ?_;rintro e W1 ⟨Y0,hy0,h2⟩;have ho2:Old W0 W1:=by
  rcases h2 with ⟨_,o,_⟩ | ⟨_,_,_,_,_,_,P,ab,g,Z,_,_,_,_,hmd⟩
  ·exact o
  ·exact hmd.old
 have HO2:=zH (HO1.o.trans ho2);rcases H1.o with ⟨e1,_,_⟩ | ⟨_,_,_,_,_,_,P,ab,g,Z,e1,s1,n1,r1,md1⟩
 ·injection e1 with e1
  subst e1;obtain⟨v2,hv2⟩:∃v,e=rJ v:=by
   rcases h2 with ⟨rfl,_,_⟩ | ⟨_,_,_,_,_,_,P,ab,g,Z,rfl,_,_,_,_⟩ <;> exact⟨_,rfl⟩
  subst hv2;clear h2 ho2 hy0 H1 HZ0 HM2 HO1
  go_wp2_with fail
  refine(gB W1).mono ?_;rintro e V ⟨rfl,o⟩;have HE:=zH (HO2.o.trans o);clear o
  go_wp2_with fail
  go_ret;exact⟨rfl,HE.o⟩
 injection e1 with e1
 subst e1;rcases h2 with ⟨rfl,_,_⟩ | ⟨_,_,_,_,_,_,Q,ab2,g2,Y,rfl,s2,n2,r2,md2⟩
 ·clear ho2 hy0 H1 HZ0 HM2 HO1 md1
  go_wp2_with fail
  refine(gB W1).mono ?_;rintro e V ⟨rfl,o⟩;have HE:=zH (HO2.o.trans o);clear o
  go_wp2_with fail
  go_ret;exact⟨rfl,HE.o⟩
 have htw:=UM md1 md2 s1 s2 n1 n2 (fun i hi=>(HZ0.o i hi).2) (fun i hi=>(hy0 i hi).2) r1 r2;have HTw:=zH htw.1;have HLk:Hid (∀i,i<P.n->(Z i).like (Y i)):=zH fun i hi=>htw.2 i (by rw[<-n1];exact hi);have HM1:=zH md1;have HM2':=zH md2;clear htw hy0 H1 HZ0 HM2 s1 s2 n1 n2 r1 r2 md1 md2;by_cases hab:1099511627776<a
 ·clear ho2 HO1
  go_wp2_with fail
  refine(gB W1).mono ?_;rintro e V ⟨rfl,o⟩;have HE:=zH (HO2.o.trans o);clear o
  go_wp2_with fail
  go_ret;exact⟨rfl,HE.o⟩
 have ha3:a<=1099511627776:=zO;clear hab;by_cases hm3:100<m
 ·clear ho2 HO1
  go_wp2_with fail
  refine(gB W1).mono ?_;rintro e V ⟨rfl,o⟩;have HE:=zH (HO2.o.trans o);clear o
  go_wp2_with fail
  go_ret;exact⟨rfl,HE.o⟩
 have hm4:m<=100:=zO;clear hm3;have hrP:=(RunC.start (n:=0) HM1.o).on ho2;have hrQ:=(RunC.start (n:=0) HM2'.o).base HO1.o;have hpkP:=HM1.o.pk;have hpkQ:=HM2'.o.pk;obtain⟨cP,dP,fyP,_⟩:=hrP.ex;obtain⟨cQ,dQ,fyQ,_⟩:=hrQ.ex;have zP:0<P.sz:=by have:=hpkP.z1;omega
 have zQ:0<Q.sz:=by have:=hpkQ.z1;omega
 have HNP:=zH (vM P.fb (P.z0+2) P.bb 0 0 P.sz P.n P.NI P.q P.cq P.im P.ci P.D P.F W1 fyP.ft fyP.bk zP hpkP.n64 0 0);have HNQ:=zH (fun V (o:Old W1 V)=>vM Q.fb (Q.z0+2) Q.bb 0 0 Q.sz Q.n Q.NI Q.q Q.cq Q.im Q.ci Q.D Q.F V ((fyQ.old o).ft) ((fyQ.old o).bk) zQ hpkQ.n64 0 0);have hEE:cuE Q.n Q.D 0 0=cuE P.n P.D 0 0:=by
  unfold cuE;rw[HTw.o.n];by_cases h:(0:Int)<0\/(P.n:Int)<=0
  ·rw[if_pos h,if_pos h]
  ·rw[if_neg h,if_neg h,HTw.o.D _ zO]
 rw[hEE]at HNQ;have c2:=hrP.cells.2;have cq2:=hrQ.cells.2;have HCQ:Hid (∀V,Old W1 V->V.cell? ⟨ab2,2,none⟩=some (.pointer (some ⟨Q.fb,0,none⟩))):=zH fun V o=>(o.cell (a:=⟨ab2,2,none⟩) (lt_of_block hrQ.all)).trans cq2;have HRP:=zH hrP;have HRQ:=zH hrQ;obtain⟨fb,hfb⟩:∃x,x=P.fb:=⟨_,rfl⟩
 obtain⟨fq,hfq⟩:∃x,x=Q.fb:=⟨_,rfl⟩
 rw[<-hfb]at HNP c2;rw[<-hfq]at HNQ HCQ;by_cases hE:cuE P.n P.D 0 0≠0
 ·have HEn:=zH hE;obtain⟨E1,hE1⟩:∃E,E=cuE P.n P.D 0 0:=⟨_,rfl⟩
  rw[<-hE1]at HNP HNQ HEn;have e1:(E1 != 0)=true:=by simpa using HEn.o
  have e2:(E1 == E1)=true:=zS;clear hrP hrQ hpkP hpkQ fyP fyQ zP zQ hEE hfb hfq hE hE1 cq2 ho2 HO1
  go_wp2_with fail
  refine HNP.o.mono ?_;rintro e V1 (⟨_,rfl,o1⟩ | ⟨h0,_⟩)
  case inr=>exact absurd h0 HEn.o
  have c0:=HCQ.o V1 o1;have HOa:=zH o1;clear HNP c2 o1
  go_wp2_with fail
  refine(HNQ.o V1 HOa.o).mono ?_;rintro e V2 (⟨_,rfl,o2⟩ | ⟨h0,_⟩)
  case inr=>exact absurd h0 HEn.o
  have HOb:=zH ((HO2.o.trans HOa.o).trans o2);clear HNQ c0 o2 HCQ
  go_wp2_with fail
  refine(gB V2).mono ?_;rintro e V ⟨rfl,o⟩;have HE:=zH (HOb.o.trans o);clear o
  go_wp2_with fail
  go_ret;exact⟨rfl,HE.o⟩
 have hE0:cuE P.n P.D 0 0=0:=Classical.not_not.1 hE;obtain⟨hk,hcc⟩:0<P.n/\((0:Nat):Int)<(P.D 0).c:=by
  unfold cuE at hE0;by_cases hi:(0:Int)<0\/(P.n:Int)<=0
  ·rw[if_pos hi]at hE0;cases hE0
  ·rw[if_neg hi]at hE0;by_cases hc:(0:Int)<0\/(P.D (0:Int).toNat).c<=0
   ·rw[if_pos hc]at hE0;cases hE0
   ·have:¬(P.D 0).c<=0:=fun h=>hc (.inr h);exact⟨zO,zO⟩
 obtain⟨Lf,hS⟩:=aEn hpkP HM1.o.hD hk hcc W1;obtain⟨len,hlen⟩:∃x,x=(P.D 0).n.toNat:=⟨_,rfl⟩
 obtain⟨Nb,hNb⟩:∃x,x=cW len:=⟨_,rfl⟩
 rw[<-hlen,<-hNb]at hS;have hn1:=(hpkP.bkN.ok 0 hk).n1;rw[<-HM1.o.hD]at hn1;have hlm:(P.D 0).n=(len:Int):=zO;have hl0:0<len:=zO;have hSQ:=aBU hS HTw.o (HLk.o 0 hk) hpkQ HM2'.o.hD;have hDq:Q.D 0=P.D 0:=HTw.o.D 0 hk;have HS:=zH hS;have HSQ:=zH hSQ;rw[hE0]at HNP HNQ;have HFb:=zH hfb;have HFq:=zH hfq;have HLm:=zH hlm;have HLq:Hid ((Q.D 0).n=(len:Int)):=zH (by rw[hDq];exact hlm);have HLe:=zH hS.le;have HL0:=zH hl0;have hPnew:∀x,P.wr x->x<W0.heap.size:=fun x hx=>by
  obtain⟨_,_,f0,_⟩:=(RunC.start (n:=0) HM1.o).ex;exact f0.lts x (.inl hx)
 have hQnew:∀x,(Q.wr x\/x=Q.pb\/Q.bk x)->W0.heap.size<=x:=fun x hx=>by
  rcases hx with hx | rfl | hx
  ·exact(HM2'.o.new x hx).1
  ·have hb:=HM2'.o.bnew Q.bb (.inl rfl);have h3:=HM2'.o.fy.bl Q.bb (.inl rfl);have h4:=HM2'.o.fy.lo;omega
  ·exact HM2'.o.bnew x hx
 have hab2:W0.heap.size<=ab2:=by have:=(HM2'.o.new Q.fb (.inl rfl));omega
 have HD:Hid (∀x,P.wr x->¬(Q.wr x\/x=Q.pb\/Q.bk x)/\x≠ab2):=zH fun x hx=>⟨fun h=>by have:=hQnew x h;have:=hPnew x hx;omega,by have:=hPnew x hx;omega⟩
 have HQl:Hid (∀x,(Q.wr x\/x=Q.pb\/Q.bk x)->x<W1.heap.size):=zH fun x hx=>fyQ.lts x hx;have HPl:Hid (∀x,P.wr x->x<W1.heap.size):=zH fun x hx=>fyP.lts x (.inl hx);have HAl:Hid (ab2<W1.heap.size):=zH (lt_of_block hrQ.all);clear hrP hrQ hpkP hpkQ fyP fyQ zP zQ hEE hfb hfq hE hE0 cq2 ho2 HO1 hk hcc hS hSQ hlen hNb hn1 hlm hl0 hDq hPnew hQnew hab2 HM1 HM2' HTw HLk
 go_wp2_with fail
 refine HNP.o.mono ?_;rintro e V1 (⟨h0,_⟩ | ⟨_,b1,rfl,hb1,hcu1,o1⟩)
 ·exact absurd rfl h0
 have c0:=HCQ.o V1 o1;rw[show (P.D (0:Int).toNat).n=(len:Int) from HLm.o,HFb.o]at hcu1;have HOa:=zH o1;have HCu1:=zH hcu1;have HB1:=zH hb1;clear HNP c2 hcu1 o1 hb1 HCQ HLm
 go_wp2_with fail
 refine(HNQ.o V1 HOa.o).mono ?_;rintro e V2 (⟨h0,_⟩ | ⟨_,b2,rfl,hb2,hcu2,o2⟩)
 ·exact absurd rfl h0
 rw[show (Q.D (0:Int).toNat).n=(len:Int) from HLq.o,HFq.o]at hcu2;have HOb:=zH (HOa.o.trans o2);have hc1:=HCu1.o.old o2;have hlt1:=HCu1.o.lt;have hgt2:=HOa.o.size;have HG:Hid (b1<V1.heap.size/\V1.heap.size<=b2/\W1.heap.size<=b1/\W1.heap.size<=b2/\b1≠b2):=zH ⟨hlt1,hb2,HB1.o,zO,zO⟩;have hrP2:=HRP.o.on HOb.o;have hrQ2:=HRQ.o.on HOb.o;have HC1:Hid (xD w P ab g b1 W1.heap.size (lW P.fb ((0:Nat):Int) ((0:Nat):Int) ((len:Nat):Int)) Nb Lf V2 0 (fun _=>none) V2):=zH ⟨⟨fun _=>0,by rw[AF];exact hc1⟩,⟨_,hrP2⟩,(fun j hj x hx=>by cases hx),Kept.refl _ _⟩;have HC2:Hid (CuS V2 b2 (fun _=>0) (lW Q.fb ((0:Nat):Int) ((0:Nat):Int) ((len:Nat):Int)) (fun _=>none) (.slice none 0 0) 0):=zH hcu2;have HQ2:=zH hrQ2;have HP2:=zH hrP2;have HOl2:=zH (HO2.o.trans HOb.o);have HC1c:=zH hc1;clear HNQ c0 hcu2 o2 hb2 hc1 hlt1 hgt2 hrP2 hrQ2 HLq HCu1 HOa HB1 HFb HFq HO2;by_cases hm0:m<0
 ·have HRn:=zH (aFX b1 (len:Int) a m V2 (HC1c.o.cA 3 zO) (by have:=HL0.o;omega) hm0)
  go_wp2_with fail
  refine HRn.o.mono ?_;rintro e u ⟨rfl,hu⟩;subst hu;clear HRn
  go_wp2_with fail
  go_loop [14] (fun iv=>iv=vI iJ 0) (fun _=>0)
  case atStart=>rfl
  case round=>
   subst hrel;obtain⟨f1,hf1⟩:∃x:Int,x=0:=⟨_,rfl⟩
   obtain⟨f2,hf2⟩:∃x:Int,x=0:=⟨_,rfl⟩
   obtain⟨K1,hK1⟩:∃K:Nat->Option Kb,K=fun _=>none:=⟨_,rfl⟩
   obtain⟨K2,hK2⟩:∃K:Nat->Option Kb,K=fun _=>none:=⟨_,rfl⟩
   rw[<-hf1,<-hK1]at HC1c;rw[<-hf2,<-hK2]at HC2;have HC1:=HC1c;have HKK:Hid (KN K1=KN K2):=zH (by rw[hK1,hK2]);have HFF:Hid (f1=f2):=zH (by rw[hf1,hf2]);have HOl:=HOl2;clear hf1 hf2 hK1 hK2 HC1c HOl2 HQ2 HP2 HS HSQ HRP HRQ;have HF1:=zH (lQ b1 f1 V2 HC1.o.cF);have HF2:=zH (lQ b2 f2 V2 HC2.o.cF);have hff:(f1 == f2)=true:=by rw[HFF.o];simp
   go_wp2_with fail
   refine HF1.o.mono ?_;rintro e u ⟨rfl,hu⟩;subst hu
   go_wp2_with fail
   refine HF2.o.mono ?_;rintro e u ⟨rfl,hu⟩;subst hu;clear HF1 HF2
   go_wp2_with fail
   refine(mY b1 _ _ _ _ _ V2 HC1.o).mono ?_;rintro e X1 ⟨r1,rfl,hr1⟩;have HR1:=zH hr1;clear hr1 hff
   go_wp2_with fail
   refine(mY b2 _ _ _ _ _ X1 (HC2.o.old HR1.o.old)).mono ?_;rintro e X2 ⟨r2,rfl,hr2⟩;have HR2:=zH hr2;clear hr2
   go_wp2_with fail
   obtain⟨p1,k1,e1⟩:=HR1.o.row.shape;obtain⟨p2,k2,e2⟩:=HR2.o.row.shape;have hk:=HKK.o;have hs2:=HR2.o.row.sl;rw[<-hk]at hs2 e2;have hl4:=xX (KN K1) 4;refine(yI r1 r2 _ _ _ p1 p2 _ X2 e1 e2 (HR1.o.row.old HR2.o.old).sl hs2 zO).mono ?_;rintro e X3 ⟨rfl,d3,rfl⟩;have HO3:Hid (Old w (X2.drewN d3)):=zH (((HOl.o.trans HR1.o.old).trans HR2.o.old).drewN _);have HC3:=zH ((HC1.o.old HR1.o.old).old (HR2.o.old.drewN d3));clear HC1 HC2 HR1 HR2 e1 e2 hs2 hk HKK HFF HOl
   go_wp2_with fail
   refine(mY b1 _ _ _ _ _ _ HC3.o).mono ?_;rintro e X4 ⟨r4,rfl,hr4⟩;obtain⟨p4,k4,rfl⟩:=hr4.row.shape;have HO4:=zH (HO3.o.trans hr4.old);have hl5:(((NR (KN K1) 4).length:Nat):Int)<=4:=zO;generalize (NR (KN K1) 4).length=hn at *;clear hr4 HC3 HO3 hl4
   go_wp2_with fail
   refine(gB X4).mono ?_;rintro e V ⟨rfl,o⟩;have HE:=zH (HO4.o.trans o);clear o
   go_wp2_with fail
   go_ret;exact⟨rfl,HE.o⟩
 obtain⟨mn,rfl⟩:∃k:Nat,m=k:=⟨m.toNat,zO⟩
 have HRn:=zH (aAM HRP.o (Nat.le_refl _) HG.o.2.2.1 HS.o 0 (fun _=>none) HC1.o HL0.o a mn ha1 ha3 zO);have e3:((mn:Int) != (mn:Int))=false:=zS;have hm5:(0:Int)<=mn:=zO;clear HC1 hm0 hm1 hm2
 go_wp2_with fail
 refine HRn.o.mono ?_;rintro e V3 ⟨gr,f1,K1,rfl,hrow,hgr,hst1,hcl1⟩;have hkp:=hcl1.kp;have cu2:CuS V3 b2 (fun _=>0) (lW Q.fb ((0:Nat):Int) ((0:Nat):Int) ((len:Nat):Int)) (fun _=>none) (.slice none 0 0) 0:=HC2.o.kept hkp ⟨HC2.o.lt,fun e=>HG.o.2.2.2.2 e.symm,fun hp=>by have:=HPl.o _ hp;have:=HG.o.2.2.2.1;omega⟩ fun j hj x hx=>by cases hx
 have rq3:=HQ2.o.beside HP2.o hkp HD.o (fun v hv=>by
  have:=HC1c.o.c.cell 0 zO;rw[this]at hv;cases hv) ⟨fun h=>by have:=HQl.o _ h;have:=HG.o.2.2.1;omega,by have:=HAl.o;have:=HG.o.2.2.1;omega⟩ (by have:=HRP.o.old.size;have:=HG.o.2.2.1;omega)
 have hold3:Old w V3:=by obtain⟨_,h⟩:=hcl1.run;exact h.old
 have hs23:=hkp.size;have hw12:=HOb.o.size;obtain⟨Pv,hcu1⟩:=hcl1.cu;have HCl2:Hid (xD w Q ab2 g2 b2 W1.heap.size (lW Q.fb ((0:Nat):Int) ((0:Nat):Int) ((len:Nat):Int)) Nb Lf V3 0 (fun _=>none) V3):=zH ⟨⟨fun _=>0,by rw[AF];exact cu2⟩,⟨_,rq3⟩,(fun j hj x hx=>by cases hx),Kept.refl _ _⟩;have HRow:=zH hrow;have HGr:Hid (gr<V3.heap.size/\gr≠b2/\¬Q.wr gr):=zH ⟨hrow.lt,by have:=HC2.o.lt;omega,fun h=>by have:=HQl.o _ (.inl h);omega⟩;have HSt1:=zH hst1;have HCu1:Hid (∀V,Kept (fun x=>x<V3.heap.size/\x≠b2/\¬Q.wr x) V3 V->CuS V b1 _ _ _ _ _):=zH fun V k=>hcu1.kept k ⟨hcu1.lt,HG.o.2.2.2.2,fun h=>by have:=HQl.o _ (.inl h);have:=HG.o.2.2.1;omega⟩ fun j hj x hx=>⟨(hcu1.k j hj x hx).1.lt,fun e=>(by
  obtain⟨cs,h1,h2⟩:=cu2.sh;have h3:V3.heap[x.b]?=_:=(hcu1.k j hj x hx).1;rw[e,h1]at h3;cases h3),fun h=>by have:=HQl.o _ (.inl h);have:=(hcl1.gd j hj x hx).b;omega⟩
 have HO3:=zH hold3;have HA:=zH (fun(fr:Int) (K:Nat->Option Kb) (U:World) (h:xD w Q ab2 g2 b2 W1.heap.size (lW Q.fb ((0:Nat):Int) ((0:Nat):Int) ((len:Nat):Int)) Nb Lf V3 fr K U) (x:Int)=>OA HRQ.o (Nat.le_refl _) HG.o.2.2.2.1 HSQ.o fr K U h x);clear hrow hgr hst1 hcl1 hkp cu2 rq3 hold3 hs23 hw12 hcu1 HRn HC2 HQ2 HP2 HC1c HOl2 HS
 go_wp2_with fail
 clear e3
 go_loopw [14] (fun iv wr=>∃i:Nat,i<=mn/\iv=vI iJ i/\Hid (∃fr K,(fr,KN K)=oN Nb len a (0,KN fun _=>none) i/\xD w Q ab2 g2 b2 W1.heap.size (lW Q.fb ((0:Nat):Int) ((0:Nat):Int) ((len:Nat):Int)) Nb Lf V3 fr K wr)) (fun iv _=>mn-(intOf iv).toNat)
 case atStart=>exact⟨0,zO,by go_num,zH ⟨0,_,rfl,HCl2.o⟩⟩
 case round=>
  clear HCl2;obtain⟨i,hi,rfl,HR⟩:=hrel;obtain⟨fr,K,hst,hcl⟩:=HR.o;by_cases hlt:i<mn
  ·have i0:(0:Int)<=i:=zO;have i1:(i:Int)<mn:=zO;obtain⟨x,hx⟩:=zG (WG len (fun q=>oG (gJ Nb (rK Nb Lf) Nb (rL Nb Lf) q)) (a+i));have HX:Hid (∀V,Kept (fun x=>x<V3.heap.size/\x≠b2/\¬Q.wr x) V3 V->V.cell? ⟨gr,i,none⟩=some (vI iJ x)):=zH fun V k=>by
    rw[hx];exact(HRow.o.kept k HGr.o).cell i zO
   have HAi:=zH (HA.o fr K wr.drew ⟨by obtain⟨v,h⟩:=hcl.cu;exact⟨v,h.old ((Old.refl wr).drew)⟩,by obtain⟨a,h⟩:=hcl.run;exact⟨a,h.on ((Old.refl wr).drew)⟩,hcl.gd,hcl.kp.drew⟩ (a+i));rw[<-hx]at HAi;have HSt:=zH hst;have HKp:=zH hcl.kp.drew;have y1:wrap64 (a+(i:Int))=a+i:=IntWalk.wrap64_in _ zO;have y2:IntKind.i64.wrap (a+(i:Int))=a+i:=IntWalk.i64_in _ zO;have exx:(x != x)=false:=zS;clear hst hcl HR hx HA HRow HCu1
   go_wp2_with fail
   refine wp_region_held_drew (S:=(fun V=>V.cell? ⟨gr,i,none⟩=some (vI iJ x))) zK ?_ (fun hHeld=>?_)
   ·(try dsimp only);exact HX.o _ HKp.o
   refine (uU 0) ((uU 1) ((uU 2) ((uU 3) ((uU 4) ((uU 5) ((uU 6) ((uU 7) ?_)))))));refine wpR 8 rfl (fun K hK=>?_);go_simp;refine HAi.o.mono ?_;rintro e V5 ⟨s',K',rfl,hs5,hr5⟩;have HR5:=zH hr5;have HS5:=zH hs5;clear hr5 hs5;refine hK.out _ _ ?_ (fun hHeld=>?_)
   ·(try dsimp only);exact HX.o _ HR5.o.kp
   clear hK K;refine (uU 9) ?_;refine wpAnyH_done zK ?_ _;have HR6:Hid (∃fr K,(fr,KN K)=oN Nb len a (0,KN fun _=>none) (i+1)/\xD w Q ab2 g2 b2 W1.heap.size (lW Q.fb ((0:Nat):Int) ((0:Nat):Int) ((len:Nat):Int)) Nb Lf V3 fr K V5):=zH ⟨s',K',by
    show _=atN Nb len (oN Nb len a (0,KN fun _=>none) i) (a+i);rw[<-HSt.o];exact HS5.o,HR5.o⟩
   clear HR5 HS5 HSt HKp HX HAi y1 y2
   go_wp2_with fail
   go_roundw
   case rel=>exact⟨i+1,zO,by go_num,HR6⟩
   case measure=>exact zM
  ·obtain rfl:i=mn:=zO;have hpair:(f1,KN K1)=(fr,KN K):=by rw[HSt1.o,hst]
   obtain⟨f2,hf2⟩:∃x,x=fr:=⟨_,rfl⟩
   obtain⟨K2,hK2⟩:∃x,x=K:=⟨_,rfl⟩
   have HKK:Hid (KN K1=KN K2):=zH (by rw[hK2];exact(Prod.mk.inj hpair).2);have HFF:Hid (f1=f2):=zH (by rw[hf2];exact(Prod.mk.inj hpair).1);have HC1:=zH (HCu1.o wr hcl.kp);obtain⟨Pq,hcq⟩:=hcl.cu;rw[<-hf2,<-hK2]at hcq;have HC2:=zH hcq;have HOl:Hid (Old w wr):=zH (by obtain⟨_,h⟩:=hcl.run;exact h.old);clear hpair hf2 hK2 hcq hst hcl HR HA HRow HCu1 HSt1 hlt hi HGr HD HQl HPl HRQ HRP HSQ HO3 HG;have HF1:=zH (lQ b1 f1 wr HC1.o.cF);have HF2:=zH (lQ b2 f2 wr HC2.o.cF);have hff:(f1 == f2)=true:=by rw[HFF.o];simp
   go_wp2_with fail
   refine HF1.o.mono ?_;rintro e u ⟨rfl,hu⟩;subst hu
   go_wp2_with fail
   refine HF2.o.mono ?_;rintro e u ⟨rfl,hu⟩;subst hu;clear HF1 HF2
   go_wp2_with fail
   refine(mY b1 _ _ _ _ _ wr HC1.o).mono ?_;rintro e X1 ⟨r1,rfl,hr1⟩;have HR1:=zH hr1;clear hr1 hff
   go_wp2_with fail
   refine(mY b2 _ _ _ _ _ X1 (HC2.o.old HR1.o.old)).mono ?_;rintro e X2 ⟨r2,rfl,hr2⟩;have HR2:=zH hr2;clear hr2
   go_wp2_with fail
   obtain⟨p1,k1,e1⟩:=HR1.o.row.shape;obtain⟨p2,k2,e2⟩:=HR2.o.row.shape;have hk:=HKK.o;have hs2:=HR2.o.row.sl;rw[<-hk]at hs2 e2;have hl4:=xX (KN K1) 4;refine(yI r1 r2 _ _ _ p1 p2 _ X2 e1 e2 (HR1.o.row.old HR2.o.old).sl hs2 zO).mono ?_;rintro e X3 ⟨rfl,d3,rfl⟩;have HO3:Hid (Old w (X2.drewN d3)):=zH (((HOl.o.trans HR1.o.old).trans HR2.o.old).drewN _);have HC3:=zH ((HC1.o.old HR1.o.old).old (HR2.o.old.drewN d3));clear HC1 HC2 HR1 HR2 e1 e2 hs2 hk HKK HFF HOl
   go_wp2_with fail
   refine(mY b1 _ _ _ _ _ _ HC3.o).mono ?_;rintro e X4 ⟨r4,rfl,hr4⟩;obtain⟨p4,k4,rfl⟩:=hr4.row.shape;have HO4:=zH (HO3.o.trans hr4.old);have hl5:(((NR (KN K1) 4).length:Nat):Int)<=4:=zO;generalize (NR (KN K1) 4).length=hn at *;clear hr4 HC3 HO3 hl4
   go_wp2_with fail
   refine(gB X4).mono ?_;rintro e V ⟨rfl,o⟩;have HE:=zH (HO4.o.trans o);clear o
   go_wp2_with fail
   go_ret;exact⟨rfl,HE.o⟩
end Go.Proofs.YticpdokbiblpoaaGreatDoor
