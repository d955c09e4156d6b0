/- Texts joined: BankS, BankY, BankT. -/
import Derived.OwnWalk
import Derived.Test.YticpdokbiblpoaaGreatDoorPkAW
import Derived.Test.YticpdokbiblpoaaGreatDoorPkAY
import Derived.Test.YticpdokbiblpoaaGreatDoorTk
set_option linter.unusedVariables false
set_option linter.unusedSimpArgs false
set_option maxHeartbeats 16000000
namespace Go.Proofs.YticpdokbiblpoaaGreatDoor
open Go.Proofs.Tryz
open Go.Proofs.Tryz renaming prog → zP
open Go.Value renaming int → vI
open Go.IntKind renaming i64 → iJ
open Go.Ending renaming returned → rJ
set_option maxRecDepth 100000
open Go.RowKit Go.ChangeShapes Go.WideShapes
theorem aFH(b o n cap lo hi:Nat)(h1:lo<=hi)(h2:hi<=cap)(h3:lo<cap)(w:World):(Instr.sliceAt 34 (.slice (some ⟨b,o,none⟩) n cap) (some (vI iJ lo)) (some (vI iJ hi)) none).run zP w=.ok (.slice (some ⟨b,o+lo,none⟩) (hi-lo) (cap-lo)) w:=by
 rw[run_sliceAt_slice _ _ _ _ _ _ lF,run_slice_lh _ _ _ _ _ lF _ _ _ _ zO zO zO,xY];simp only[Result.andThen_ok,sliced,Int.toNat_natCast,Option.map,Nat.mul_one];rw[if_neg zO,add_plain]
theorem WB{D E:Nat->Mt}{sz n:Nat}(e:∀i,i<n->D i=E i):(∀i,i<n->eE D sz n i=eE E sz n i)/\aJ (aQ D) sz n=aJ (aQ E) sz n:=by
 have hf:∀i,i<n->aQ D i=aQ E i:=fun i hi=>by unfold aQ;rw[e i hi]
 have ha:∀i,i<=n->bO (aQ D) sz n i=bO (aQ E) sz n i:=fun i hi=>aCJ fun k hk=>hf k zO;refine⟨fun i hi=>?_,by unfold aJ;rw[ha n (Nat.le_refl _)]⟩;unfold eE aL;rw[e i hi,ha i zO,hf i hi]
def xJ(F:nI):Nat:=(PU F).toNat
def WA(F:nI):Nat:=(KM F).toNat
def hdS(F:nI):Int:=aO (fun j=>F (16+64*xJ F+j)) 4
def xL(F:nI)(N:Nat):Int:=
 if ZQ F N≠0 then ZQ F N else if N<20+64*xJ F then 2 else if hdS F≠jE F (16+64*xJ F) then 9 else 0
def FL(D:Nat->Mt)(F:nI)(N:Nat):Prop:=aBM D (xJ F) (fun p=>F (16+p))/\(∀i,i<xJ F->eE D (WA F) (xJ F) i=D i)/\aJ (aQ D) (WA F) (xJ F)=N
structure xE(w:World)(bb sz n N:Nat)(q:Option Addr)(c:Nat)(im:Option Addr)(ci:Nat)(D:Nat->Mt)(F:nI):Prop where
 blk:w.heap[bb]?=some (.cells #[vI iJ sz,.slice q n c,.slice im N ci] 107 (0,0))
 dir:iB w q n D
 d1:n<=c
 d2:c<=maxLen
 img:SlU w im N F
 i1:N<=ci
 i2:ci<=maxLen
theorem xE.old{w w':World}{bb sz n N:Nat}{q:Option Addr}{c:Nat}{im:Option Addr}{ci:Nat}{D:Nat->Mt}{F:nI}(h:xE w bb sz n N q c im ci D F)(k:Old w w'):xE w' bb sz n N q c im ci D F:=
 ⟨(k.block _ (lt_of_block h.blk)).trans h.blk,h.dir.old k,h.d1,h.d2,h.img.old k,h.i1,h.i2⟩
structure BkD(F:nI)(N:Nat)(D:Nat->Mt):Prop where
 dir:nH D (xJ F)
 ent:∀i,i<xJ F->RdI (fun j=>F (16+(64*i+j))) (D i)
 place:∀i,i<xJ F->eE D (WA F) (xJ F) i=D i
 total:aJ (aQ D) (WA F) (xJ F)=N
theorem BkD.one{F:nI}{N:Nat}{D E:Nat->Mt}(h:BkD F N D)(k:FL E F N):∀i,i<xJ F->D i=E i:=fun i hi=>by
 obtain⟨t,h1,h2,_⟩:=h.ent i hi;have h3:=k.1.1 i hi;rw[h1];exact xS h3.1 h3.2 h2
def bkX(bb:Nat)(q:Option Addr)(n:Nat)(im:Option Addr)(NI:Nat)(x:Nat):Prop:=x=bb\/(0<n/\∃a,q=some a/\a.block=x)\/(0<NI/\∃a,im=some a/\a.block=x)
def aBk(w:World)(F:nI)(N:Nat)(e:Ending)(w':World):Prop:=
 (xL F N≠0/\e=rJ (.tuple #[.pointer none,vI iJ (xL F N)])/\Old w w') \/
 (xL F N=0/\((∃er,(er=4\/er=12)/\e=rJ (.tuple #[.pointer none,vI iJ er])/\(∀D,¬FL D F N)/\Old w w') \/
  ∃bb q c im ci D,e=rJ (.tuple #[.pointer (some ⟨bb,0,none⟩),vI iJ 0])/\xE w' bb (WA F) (xJ F) N q c im ci D F/\BkD F N D/\Old w w'/\∀x,bkX bb q (xJ F) im N x->w.heap.size<=x))
theorem TD(p:Option Addr)(N cap:Nat)(F:nI)(w:World)(hs:SlU w p N F)(hb:lS F N)(hc:N<=cap)(hm:cap<=maxLen)(hN:N<=1099511627776):
  Calls zP 25 #[.slice p N cap] w (aBk w F N):=by
 have HWr:=zH (EH p N cap F w hs hb hc hm);by_cases h0:ZQ F N≠0
 ·have e0:xL F N=ZQ F N:=by unfold xL;rw[if_pos h0]
  have HE:=zH (And.intro e0 h0);obtain⟨x,hx⟩:=zG (ZQ F N);rw[<-hx]at HWr h0;have HX:=zH hx;have d0:(x != 0)=true:=by simpa using h0
  have HO:=zH (Old.refl w);clear e0 hx h0 hs hb hc hm;go_enter func25,ntmps25
  go_wp2_with fail
  refine HWr.o.mono ?_;rintro e w1 ⟨rfl,rfl⟩
  go_wp2_with fail
  go_ret2
  refine .inl ⟨by rw[HE.o.1];exact HE.o.2,?_,HO.o⟩;rw[HE.o.1,<-HX.o];rfl
 have h0:=Classical.not_not.1 h0;rw[h0]at HWr;have hhd:=h0;unfold ZQ at hhd;have hN20:20<=N:=by
  rcases Nat.lt_or_ge N 20 with h | h
  ·rw[if_pos h]at hhd;omega
  ·exact h
 rw[if_neg zO]at hhd;by_cases hA:¬wT F\/hd5 F≠0
 ·rw[if_pos hA]at hhd;omega
 rw[if_neg hA]at hhd;by_cases hB:¬(24<=KM F/\KM F<=96)\/64<PU F\/hd4 F≠N
 ·rw[if_pos hB]at hhd;omega
 clear hhd;obtain⟨g,o,rfl,hg,hcs⟩:=hs zO;have sub:∀a n,a+n<=N->SlU w (some ⟨g,o+a,none⟩) n (fun j=>F (a+j)):=fun a n ha _=>⟨g,o+a,rfl,hg,fun j hj=>by rw[Nat.add_assoc];exact hcs (a+j) zO⟩
 have HG1:=zH (fun V (hV:Old w V)=>kR (some ⟨g,o+10,none⟩) 1 (cap-10) (fun j=>F (10+j)) V zO ((sub 10 1 zO).old hV) (fun j hj=>hb _ zO));have HG2:=zH (fun V (hV:Old w V)=>kR (some ⟨g,o+8,none⟩) 2 (cap-8) (fun j=>F (8+j)) V zO ((sub 8 2 zO).old hV) (fun j hj=>hb _ zO));have hb2:=pH (F:=fun j=>F (8+j)) (w:=2) (fun j hj=>hb _ zO);have e1:KM F=(WA F:Nat):=by unfold WA;omega
 have e2:PU F=(xJ F:Nat):=by
  have h1:0<=PU F:=hb2.1;unfold xJ;omega
 have f1:aO (fun j=>F (10+j)) 1=(WA F:Nat):=e1;have f2:aO (fun j=>F (8+j)) 2=(xJ F:Nat):=e2;rw[f1]at HG1;rw[f2]at HG2;have hz1:24<=WA F/\WA F<=96:=zO;have hn64:xJ F<=64:=zO;have HPre:Hid (xL F N=if N<20+64*xJ F then 2 else if hdS F≠jE F (16+64*xJ F) then 9 else 0):=zH (by unfold xL;rw[if_neg zO]);obtain⟨n,hn⟩:=zG (xJ F);obtain⟨z,hz⟩:=zG (WA F);rw[<-hn]at HG2 HPre hn64;rw[<-hz]at HG1 hz1;have HDr:=zH (fun w=>xT n w zO);have hl1:=fun w'=>lD g o N cap 10 11 zO zO w';have hl2:=fun w'=>lD g o N cap 8 10 zO zO w';have iN:(20:Int)<=N:=zO;have ic:(20:Int)<=cap:=zO;have i11:(11:Int)<=cap:=zO;have i10:(10:Int)<=cap:=zO;have n10:¬cap=10:=zO;have n8:¬cap=8:=zO;have HO:=zH (Old.refl w);by_cases hsh:N<20+64*n
 ·have HE:=zH (show xL F N=2 by rw[HPre.o,if_pos hsh]);have i2:(N:Int)<((20+64*n:Nat):Int):=zO;obtain⟨T,hT⟩:=zG (20+64*n);rw[<-hT]at HDr i2;clear e1 e2 f1 f2 hb2 hA hB h0 sub hcs hg hb hc hm hn hz hz1 hn64 hsh hT;go_enter func25,ntmps25
  go_wp2_with fail
  refine HWr.o.mono ?_;rintro e w1 ⟨rfl,rfl⟩
  go_wp2_with fail
  refine wp_region_held_drew (S:=(fun _=>True)) zK ?_ (fun hHeld=>?_)
  ·exact trivial
  refine (uU 0) ((uU 1) ((uU 3) ((uU 4) ?_)));refine wpR 2 rfl (fun K hK=>?_);go_simp;refine(HG1.o _ (Old.drew (Old.refl w))).mono ?_;rintro e V ⟨rfl,rfl⟩
  go_wp2_with fail
  refine hK.out _ _ ?_ (fun hHeld=>?_)
  ·exact trivial
  clear hK K
  try simp only[Act.put,sA,sZ,sS]
  refine wpR 5 rfl (fun K hK=>?_);go_simp;refine(HG2.o _ (Old.drew (Old.refl w))).mono ?_;rintro e V ⟨rfl,rfl⟩
  go_wp2_with fail
  refine hK.out _ _ ?_ (fun hHeld=>?_)
  ·exact trivial
  clear hK K;refine (uU 6) ((uU 7) ?_);refine wpAnyH_done zK ?_ _
  go_wp2_with fail
  refine(HDr.o _).mono ?_;rintro e V ⟨rfl,rfl⟩
  go_wp2_with fail
  go_ret2
  exact .inl ⟨by rw[HE.o];omega,by rw[HE.o];rfl,HO.o.drew⟩
 obtain⟨T,hT⟩:=zG (20+64*n);obtain⟨E,hE⟩:=zG (16+64*n);have hTE:T=E+4:=zO;have HSum:Hid (xL F N=if aO (fun j=>F (E+j)) 4≠jE F E then 9 else 0):=zH (by
  rw[HPre.o,if_neg hsh,hE,hn];rfl)
 have HGS:=zH (fun V (hV:Old w V)=>kR (some ⟨g,o+E,none⟩) 4 (cap-E) (fun j=>F (E+j)) V zO ((sub E 4 zO).old hV) (fun j hj=>hb _ zO));have HSm:=zH (fun V (hV:Old w V)=>uC (some ⟨g,o,none⟩) E cap F V (by
  have:=(sub 0 E zO).old hV;rw[Nat.add_zero]at this;exact this.ext fun j _=>by rw[Nat.zero_add]) (fun j hj=>hb j zO) zO hm)
 have hxb:=pH (F:=fun j=>F (E+j)) (w:=4) (fun j hj=>hb _ zO);have hyb:=tT (F:=F) (n:=E) (fun j hj=>hb j zO);obtain⟨x,hx⟩:=zG (aO (fun j=>F (E+j)) 4);obtain⟨y,hy⟩:=zG (jE F E);rw[<-hx]at HGS hxb HSum;rw[<-hy]at HSm HSum;have hxb2:x<4294967296:=hxb.2;have hx0:0<=x:=hxb.1;have w1:IntKind.u32.wrap x=x:=by rw[IntKind.wrap_u32];omega
 have w2:x%4294967296=x:=zO;obtain⟨q,hq⟩:=zG ((x != y));have hq2:(x != y)=q:=hq.symm;have HQ:Hid (xL F N=if q then 9 else 0):=zH (by
  rw[HSum.o,hq];by_cases e:x=y
  ·rw[if_neg (fun h=>h e)];simp[e]
  ·rw[if_pos e];simp[e])
 have hRd:=fun V (hV:Old w V)=>LF (some ⟨g,o+16,none⟩) n (cap-16) (fun p=>F (16+p)) V ((sub 16 (64*n) zO).old hV) (fun j hj=>hb _ zO) zO zO;rw[show 64*n=E-16 by omega]at hRd;have HRd:=zH hRd;have HPl:=zH (fun V q c D (h:iB V q n D) (hd:nH D n)=>sL z q n c D V zO h zO (gL hd));have HEq:=zH (fun V p q c c' D (hp:iB V p n (eE D z n)) (hq:iB V q n D)=>RJ p q n c c' (eE D z n) D V hp hq zO (fun i _=>rfl));have HCl:=zH (fun V (hV:Old w V)=>UE (some ⟨g,o,none⟩) N cap F V (by
  have:=(sub 0 N zO).old hV;rw[Nat.add_zero]at this;exact this.ext fun j _=>by rw[Nat.zero_add]) hN)
 have HNZ:=zH (And.intro hn hz);have HZ1:=zH hz1;have q1:wrap64 ((T:Int)-4)=E:=by rw[IntWalk.wrap64_in _ zO];omega
 have q0:(T:Int)-4=E:=zO;have q3:wrap64 (E:Int)=E:=IntWalk.wrap64_in _ zO;have k1:(E:Int)<=T:=zO;have k2:(T:Int)<=cap:=zO;have k3:(E:Int)<=cap:=zO;have k4:(16:Int)<=E:=zO;have k5:¬((N:Int)<T):=zO;have k6:¬cap=E:=zO;have k7:¬cap=0:=zO;have k8:¬cap=16:=zO;have c1:∀w',(Instr.sliceAt 34 (.slice (some ⟨g,o,none⟩) N cap) (some (vI iJ E)) (some (vI iJ T)) none).run zP w'=.ok (.slice (some ⟨g,o+E,none⟩) 4 (cap-E)) w':=fun w'=>by
  have:=lD g o N cap E T zO zO w'
  rwa [show T-E=4 by omega]at this
 have c2:=fun w'=>DO g o N cap E zO zO w';have c3:∀w',(Instr.sliceAt 34 (.slice (some ⟨g,o,none⟩) N cap) (some (vI iJ 16)) (some (vI iJ E)) none).run zP w'=.ok (.slice (some ⟨g,o+16,none⟩) (E-16) (cap-16)) w':=fun w'=>aFH g o N cap 16 E zO zO zO w';have HC3:=zH c3;have HDr2:Hid (∀V,Calls zP 56 #[vI iJ n] V fun e w'=>e=rJ (vI iJ T)/\V=w'):=zH fun V=>by
  have:=HDr.o V;rw[<-hT]at this;exact this
 have hEN:Hid (E=16+64*n):=zH hE;clear hT hE hTE hx hy hxb hyb hq hRd hn hz e1 e2 f1 f2 hb2 hA hB h0 sub hcs hg hb hc hm hz1 hn64 hsh HDr c3;go_enter func25,ntmps25
 go_wp2_with fail
 refine HWr.o.mono ?_;rintro e w1 ⟨rfl,rfl⟩
 go_wp2_with fail
 refine wp_region_held_drew (S:=(fun _=>True)) zK ?_ (fun hHeld=>?_)
 ·exact trivial
 refine (uU 0) ((uU 1) ((uU 3) ((uU 4) ?_)));refine wpR 2 rfl (fun K hK=>?_);go_simp;refine(HG1.o _ (Old.drew (Old.refl w))).mono ?_;rintro e V ⟨rfl,rfl⟩
 go_wp2_with fail
 refine hK.out _ _ ?_ (fun hHeld=>?_)
 ·exact trivial
 clear hK K
 try simp only[Act.put,sA,sZ,sS]
 refine wpR 5 rfl (fun K hK=>?_);go_simp;refine(HG2.o _ (Old.drew (Old.refl w))).mono ?_;rintro e V ⟨rfl,rfl⟩
 go_wp2_with fail
 refine hK.out _ _ ?_ (fun hHeld=>?_)
 ·exact trivial
 clear hK K;refine (uU 6) ((uU 7) ?_);refine wpAnyH_done zK ?_ _;clear HG1 HG2 hl1 hl2;obtain⟨wa,hwa⟩:∃V,V=w.drew:=⟨_,rfl⟩
 have HOa:=zH (show Old w wa by rw[hwa];exact Old.drew (Old.refl w));rw[<-hwa];clear hwa
 go_wp2_with fail
 refine(HDr2.o _).mono ?_;rintro e V ⟨rfl,rfl⟩
 go_wp2_with fail
 refine(HDr2.o _).mono ?_;rintro e V ⟨rfl,rfl⟩
 go_wp2_with fail
 refine wp_region_held_drew (S:=(fun _=>True)) zK ?_ (fun hHeld=>?_)
 ·exact trivial
 refine (uU 0) ((uU 1) ((uU 2) ((uU 7) ((uU 8) ((uU 9) ?_)))));refine wpR 3 rfl (fun K hK=>?_);go_simp;refine(HDr2.o _).mono ?_;rintro e V ⟨rfl,rfl⟩
 go_wp2_with fail
 refine hK.out _ _ ?_ (fun hHeld=>?_)
 ·exact trivial
 clear hK K;refine (uU 4) ?_;refine wpR 5 rfl (fun K hK=>?_);go_simp;refine(HGS.o _ HOa.o.drew).mono ?_;rintro e V ⟨rfl,rfl⟩
 go_wp2_with fail
 refine hK.out _ _ ?_ (fun hHeld=>?_)
 ·exact trivial
 clear hK K;refine (uU 6) ?_;refine wpR 10 rfl (fun K hK=>?_);go_simp;refine(HSm.o _ HOa.o.drew).mono ?_;rintro e V1 ⟨rfl,o1⟩;have HO1:=zH (HOa.o.drew.trans o1);clear o1
 go_wp2_with fail
 refine hK.out _ _ ?_ (fun hHeld=>?_)
 ·exact trivial
 clear hK K;refine (uU 11) ?_;refine wpAnyH_done zK ?_ _;clear HGS HSm w1 w2 hq2 c1 c2 HDr2 HOa HSum;cases q
 case true=>
  go_wp2_with fail
  go_ret2
  exact .inl ⟨by rw[HQ.o];simp,by rw[HQ.o];rfl,HO1.o⟩
 have c3:=HC3.o
 go_wp2_with fail
 refine(HRd.o _ HO1.o).mono ?_;rintro e V2 (⟨qd,cd,D,rfl,KM,PU,hms,hdp,hri,ho,hnw⟩ | ⟨qd,md,cd,rfl,hno,ho⟩)
 case inr=>
  have HO2:=zH (HO1.o.trans ho);have HNo:=zH hno;clear ho hno HRd
  go_wp2_with fail
  go_ret2
  refine .inr ⟨by rw[HQ.o];rfl,.inl ⟨4,.inl rfl,rfl,fun D hD=>HNo.o D ?_,HO2.o⟩⟩;rw[HNZ.o.1];exact hD.1
 have HO2:=zH (HO1.o.trans ho);have HMs:=zH hms;have HDp:=zH hdp;have HRi:=zH hri;have HDc:=zH (And.intro KM PU);have HNw:=zH (fun a h0 ha=>Nat.le_trans HO1.o.size (hnw a h0 ha));have HOne:Hid (∀D0,aBM D0 n (fun p=>F (16+p))->∀i,i<n->D i=D0 i):=zH fun D0 h i hi=>by
  obtain⟨t,h1,h2,_⟩:=hri i hi;have h3:=h.1 i hi;rw[h1];exact xS h3.1 h3.2 h2
 have HSt:=zH hms.str;clear ho hms hdp hri KM PU hnw HRd HO1
 go_wp2_with fail
 refine(HPl.o V2 qd cd D HMs.o HDp.o).mono ?_;rintro e V3 ⟨qp,cp,rfl,hc1,hc2,hmp,ho⟩;have HO3:=zH (HO2.o.trans ho);have HM3:=zH (HMs.o.old ho);have HP3:Hid (iB V3 qp n (eE D z n)):=zH ⟨fun h0=>by
  obtain⟨g,hq,hm1,_⟩:=hmp h0;rw[hq];exact(hm1.sl fun i hi=>HSt.o i hi).cell h0,fun i hi=>HSt.o i hi⟩
 clear hc1 hc2 hmp ho HMs HO2 HPl;obtain⟨tt,htt⟩:∃t,t=aJ (aQ D) z n:=⟨_,rfl⟩
 rw[<-htt];have HTt:=zH htt;clear htt
 go_wp2_with fail
 refine(HEq.o V3 qp qd cp cd D HP3.o HM3.o).mono ?_;rintro e V4 ⟨r,rfl,hr,ho⟩;have HO4:=zH (HO3.o.trans ho);have HM4:=zH (HM3.o.old ho);have HR:=zH hr;clear ho hr HO3 HM3 HP3 HEq;cases r
 case false=>
  go_wp2_with fail
  go_ret2
  refine .inr ⟨by rw[HQ.o];rfl,.inl ⟨12,.inr rfl,rfl,fun D0 hD=>?_,HO4.o⟩⟩;unfold FL at hD;rw[<-HNZ.o.1,<-HNZ.o.2]at hD;have e:=HOne.o D0 hD.1;have:=HR.o.2 fun i hi=>by
   rw[(WB (sz:=z) e).1 i hi,hD.2.1 i hi,e i hi]
  cases this
 by_cases hTN:tt=N
 case neg=>
  have d:((tt:Int) != (N:Int))=true:=by
   have:(tt:Int)≠N:=zO;simpa using this
  have HTN:=zH hTN;clear hTN
  go_wp2_with fail
  go_ret2
  refine .inr ⟨by rw[HQ.o];rfl,.inl ⟨12,.inr rfl,rfl,fun D0 hD=>?_,HO4.o⟩⟩;unfold FL at hD;rw[<-HNZ.o.1,<-HNZ.o.2]at hD;have e:=HOne.o D0 hD.1;exact HTN.o (by rw[HTt.o,(WB (sz:=z) e).2,hD.2.2])
 have d:((tt:Int) != (N:Int))=false:=by simp[hTN]
 have HTN:=zH hTN;clear hTN
 go_wp2_with fail
 refine(HCl.o V4 HO4.o).mono ?_;rintro e V5 ⟨im,ci,rfl,hi1,hi2,him,ho,hinw⟩;have HIn:=zH (fun a h0 ha=>Nat.le_trans HO4.o.size (hinw a h0 ha));have HO5:=zH (HO4.o.trans ho);have HM5:=zH (HM4.o.old ho);have HIm:=zH him;have HIi:=zH (And.intro hi1 hi2);clear ho him hi1 hi2 hinw HO4 HM4 HCl
 go_wp2_with fail
 go_ret2
 have oa:=Old.alloc V5 (.cells #[vI iJ z,.slice qd n cd,.slice im N ci] 107);refine .inr ⟨by rw[HQ.o];rfl,.inr ⟨V5.heap.size,qd,cd,im,ci,D,rfl,?_,?_,HO5.o.trans oa,?_⟩⟩
 ·rw[<-HNZ.o.1,<-HNZ.o.2];exact⟨heap_alloc_new _ _,HM5.o.old oa,HDc.o.1,HDc.o.2,HIm.o.old oa,HIi.o.1,HIi.o.2⟩
 ·refine⟨by rw[<-HNZ.o.1];exact HDp.o,fun i hi=>HRi.o i (by rw[HNZ.o.1];exact hi),fun i hi=>?_,?_⟩
  ·rw[<-HNZ.o.1,<-HNZ.o.2];exact HR.o.1 zS i (by rw[HNZ.o.1];exact hi)
  ·rw[<-HNZ.o.1,<-HNZ.o.2,<-HTt.o,HTN.o]
 ·rw[<-HNZ.o.1];rintro x (rfl | ⟨h0,a,ha,rfl⟩ | ⟨h0,a,ha,rfl⟩)
  ·exact HO5.o.size
  ·exact HNw.o a h0 ha
  ·exact HIn.o a h0 ha
def rU:Array Value:=#[.string ⟨#[]⟩,vI iJ 0,vI iJ 0,vI iJ 0,.bool false,vI iJ 0,vI iJ 0,vI iJ 0,vI iJ 0]
theorem CW(b:Nat)(s:Int)(w:World)(h:w.cell? ⟨b,0,none⟩=some (vI iJ s)):Calls zP 62 #[.pointer (some ⟨b,0,none⟩)] w fun e w'=>e=rJ (vI iJ s)/\w=w':=by
 go_enter func62,ntmps62
 go_wp2_with fail
 go_ret;exact⟨rfl,rfl⟩
theorem FB(b:Nat)(s:Int)(w:World)(h:w.cell? ⟨b,0,none⟩=some (vI iJ s))(h0:s≠0):Calls zP 65 #[.pointer (some ⟨b,0,none⟩)] w fun e w'=>e=rJ (.bool true)/\w=w':=by
 have HS:=zH (CW b s w h);have h1:(s != 0)=true:=by simpa using h0
 clear h h0;go_enter func65,ntmps65
 go_wp2_with fail
 refine HS.o.mono ?_;rintro e w' ⟨rfl,rfl⟩
 go_wp2_with fail
 go_ret;exact⟨rfl,rfl⟩
theorem aFB(D:Nat->Mt)(sz n i:Nat):eE (eE D sz n) sz n i=eE D sz n i:=rfl
theorem aHb(D:Nat->Mt)(sz n:Nat):aQ (eE D sz n)=aQ D:=rfl
theorem LA{len:Int}{n sz:Nat}{D:Nat->Mt}(j:Nat)(hj:j<16):cC len n sz D j=mM len n sz j:=by
 unfold cC mA;rw[eD zO,if_pos hj]
theorem VD{len:Int}{n sz:Nat}{D:Nat->Mt}(i j:Nat)(hi:i<n)(hj:j<64):cC len n sz D (16+64*i+j)=eY (D i) j:=by
 unfold cC;rw[eD zO,aDr _ _ _ _ _ _ hj]
theorem RV{len:Int}{n sz:Nat}{D:Nat->Mt}(j:Nat)(hj:j<4):cC len n sz D (16+64*n+j)=be 4 (jE (mA len n sz D) (16+64*n)) j:=by
 unfold cC;exact DH hj
theorem QH{len:Int}{n sz:Nat}{D:Nat->Mt}(p:Nat)(hp:p<16+64*n):cC len n sz D p=mA len n sz D p:=by
 unfold cC;exact eD zO
theorem XW(len:Int)(n sz:Nat)(D:Nat->Mt)(p:Nat):0<=cC len n sz D p/\cC len n sz D p<=255:=by
 unfold cC aV;split
 ·exact uE _ _ _
 ·exact WC _ _ _ _ _
theorem MX{D:Nat->Mt}{sz n:Nat}(hz:sz<=96)(hn:n<=64)(hD:∀i,i<n->(D i).OkR):aJ (aQ D) sz n<=900000000/\20+64*n<=aJ (aQ D) sz n:=by
 have h1:=tQ (f:=aQ D) (sz:=sz) (n:=n) (fun i hi=>(hD i hi).fr_le.2) hz n (Nat.le_refl _);have h2:=yE (aQ D) sz n;have h3:=JD (aQ D) sz n n;omega
theorem aGf{D:Nat->Mt}{n:Nat}(sz m:Nat)(h:nH D n):nH (eE D sz m) n:=fun i hi=>⟨(h i hi).1,(h i hi).2⟩
theorem QN{F:nI}{D:Nat->Mt}{n sz:Nat}(h24:24<=sz)(h96:sz<=96)(hn:n<=64)(hd:nH D n)(hF:∀p,p<20+64*n->F p=cC (aJ (aQ D) sz n:Nat) n sz (eE D sz n) p):
  xL F (aJ (aQ D) sz n)=0/\xJ F=n/\WA F=sz/\FL (eE D sz n) F (aJ (aQ D) sz n):=by
 obtain⟨hN1,hN2⟩:=MX (sz:=sz) h96 hn (gL hd);obtain⟨N,hN⟩:=zG (aJ (aQ D) sz n);rw[<-hN]at hN1 hN2 hF |-;have hh:∀j,j<16->F j=mM N n sz j:=fun j hj=>by rw[hF j zO,LA j hj]
 have m4:wT F:=fun j hj=>by rw[hh j zO];unfold mM;rw[if_pos hj]
 have m5:hd5 F=0:=by
  have e:hd5 F=aO (fun _=>0) 5:=jK fun j hj=>by
   rw[hh (11+j) zO];unfold mM;rw[if_neg zO,if_neg zO,if_neg zO,if_neg zO]
  rw[e];rfl
 have m1:KM F=sz:=by
  have e:KM F=aO (be 1 sz) 1:=jK fun j hj=>by
   rw[hh (10+j) zO];unfold mM;rw[if_neg zO,if_neg zO,if_neg zO,if_pos zO,show 10+j-10=j by omega]
  rw[e,aAz _ zO zO]
 have m2:PU F=n:=by
  have e:PU F=aO (be 2 n) 2:=jK fun j hj=>by
   rw[hh (8+j) zO];unfold mM;rw[if_neg zO,if_neg zO,if_pos zO,show 8+j-8=j by omega]
  rw[e,aAT _ zO zO]
 have m3:hd4 F=N:=by
  have e:hd4 F=aO (be 4 N) 4:=jK fun j hj=>by
   rw[hh (4+j) zO];unfold mM;rw[if_neg zO,if_pos zO,show 4+j-4=j by omega]
  rw[e,qQ _ zO zO]
 have hdn:xJ F=n:=by unfold xJ;rw[m2];simp
 have hdz:WA F=sz:=by unfold WA;rw[m1];simp
 have hI:ZQ F N=0:=by
  unfold ZQ;rw[if_neg zO,if_neg (fun h=>h.elim (fun h=>h m4) (fun h=>h m5)),if_neg];rintro (h | h | h)
  ·rw[m1]at h;omega
  ·rw[m2]at h;omega
  ·exact h m3
 have hsb:=tT (F:=mA N n sz (eE D sz n)) (n:=16+64*n) (fun j _=>WC _ _ _ _ _);have hS:hdS F=jE F (16+64*n):=by
  have e1:jE F (16+64*n)=jE (mA N n sz (eE D sz n)) (16+64*n):=AD fun j hj=>by rw[hF j zO,QH j hj]
  have e2:hdS F=aO (be 4 (jE (mA N n sz (eE D sz n)) (16+64*n))) 4:=by
   unfold hdS;rw[hdn];exact jK fun j hj=>by rw[hF _ zO,RV j hj]
  rw[e1,e2,qQ _ hsb.1 hsb.2]
 refine⟨?_,hdn,hdz,?_⟩
 ·unfold xL;rw[if_neg zO,hdn,if_neg zO,if_neg (fun h=>h hS)]
 ·unfold FL;rw[hdn,hdz];refine⟨⟨fun i hi=>⟨?_,fun j hj=>?_⟩,aGf sz n hd⟩,fun i hi=>aFB D sz n i,by rw[aHb,hN]⟩
  ·have hb:=tQ (f:=aQ D) (sz:=sz) (n:=n) (fun i hi=>(gL hd i hi).fr_le.2) h96 i zO;have hf:=fJ (aQ D) sz n i;have hfr:aQ D i<=131072:=(gL hd i hi).fr_le.2;refine⟨(gL hd i hi).at_ _ _,?_,?_,?_,?_⟩
   ·show (0:Int)<=(bO (aQ D) sz n i:Nat);omega
   ·show ((bO (aQ D) sz n i:Nat):Int)<_;omega
   ·show (0:Int)<=(aL (aQ D) sz n i:Nat);omega
   ·show ((aL (aQ D) sz n i:Nat):Int)<_;omega
  ·show eY (eE D sz n i) j=F (16+(64*i+j));rw[<-Nat.add_assoc,hF _ zO,VD i j hi hj]
theorem Ld.byt{f:Nat->Nat}{sz n:Nat}{B:Nat->Nat->Int}{H:nI}{k:Nat}{F:nI}(h:Ld f sz n B H k F)(hH:∀p,p<20+64*n->0<=H p/\H p<=255)(hB:∀i,i<k->lS (B i) sz)(N:Nat):lS F N:=fun p _=>by
 by_cases hp:p<20+64*n
 ·rw[h.front p hp];exact hH p hp
 ·by_cases hs:∃i q,i<n/\q<f i/\aF f i+q<k/\∃j,j<4/\p=bO f sz n i+4*q+j
  ·obtain⟨i,q,h1,h2,h3,j,h4,rfl⟩:=hs;rw[h.sum i q h1 h2 h3 j h4];exact uE _ _ _
  ·by_cases hb:∃i q,i<n/\q<f i/\aF f i+q<k/\∃j,j<sz/\p=aL f sz n i+sz*q+j
   ·obtain⟨i,q,h1,h2,h3,j,h4,rfl⟩:=hb;rw[h.byte i q h1 h2 h3 j h4];exact hB _ h3 j h4
   ·have hg:∀i q,i<n->q<f i->aF f i+q<k->(∀j,j<4->p≠bO f sz n i+4*q+j)/\∀j,j<sz->p≠aL f sz n i+sz*q+j:=fun i q h1 h2 h3=>⟨fun j h4 e=>hs ⟨i,q,h1,h2,h3,j,h4,e⟩,fun j h4 e=>hb ⟨i,q,h1,h2,h3,j,h4,e⟩⟩
    rw[h.gap p zO hg];omega
end Go.Proofs.YticpdokbiblpoaaGreatDoor
