/- Texts joined: BankW, BankX, BankZ, BankAA, BankAB, BankAC, BankAD, BankAE, BankAF, BankAG, BankAH, ChanQ, CurD, ExS. -/
import Derived.Deep.RegionHeld
import Derived.Test.YticpdokbiblpoaaGreatDoorPkAB
import Derived.Test.YticpdokbiblpoaaGreatDoorPkAO
import Derived.Test.YticpdokbiblpoaaGreatDoorPkAU
import Derived.Test.YticpdokbiblpoaaGreatDoorPkAZ
import Derived.Test.YticpdokbiblpoaaGreatDoorPkBB
import Derived.Test.YticpdokbiblpoaaGreatDoorPkBC
import Derived.Test.YticpdokbiblpoaaGreatDoorPkBD
import Derived.Test.YticpdokbiblpoaaGreatDoorTk
set_option linter.unusedVariables false
set_option linter.unusedSimpArgs false
set_option maxHeartbeats 16000000
namespace Go.Proofs.YticpdokbiblpoaaGreatDoor
open Go.Proofs.Tryz
open Go.Proofs.Tryz renaming prog → zP
open Go.Value renaming int → vI
open Go.IntKind renaming i64 → iJ
open Go.Ending renaming returned → rJ
set_option maxRecDepth 100000
open Go.RowKit Go.ChangeShapes Go.WideShapes
open Classical in
noncomputable def frmL(sz:Nat)(xs:List Int)(k:Nat):List Int:=
 if h:∃x:Fr,oV (aN (JT (decide (55<=(sz:Int))) (cW xs.length) fun j=>xs.getD j 0) k) (PW (decide (55<=(sz:Int))) (fun j=>xs.getD j 0) k) sz x then cU (enc h.choose.F h.choose.n h.choose.T) sz else cU [] sz
def FmX(sz:Nat)(xs:List Int)(N:Nat)(L:Nat->Fr):Prop:=FmG sz (decide (55<=(sz:Int))) (fun j=>xs.getD j 0) (JT (decide (55<=(sz:Int))) (cW xs.length) fun j=>xs.getD j 0) N L
theorem NY{F G T U:nI}{n m:Nat}(h:mO F n T G m U):enc F n T=enc G m U:=by
 obtain⟨rfl,h2,h3⟩:=h;exact vT h3 h2
theorem aGd{sz:Nat}{xs:List Int}{N:Nat}{L:Nat->Fr}(h:FmX sz xs N L)(i:Nat)(hi:i<N):frmL sz xs i=cU (enc (L i).F (L i).n (L i).T) sz:=by
 unfold frmL;have hx:∃x:Fr,oV (aN (JT (decide (55<=(sz:Int))) (cW xs.length) fun j=>xs.getD j 0) i) (PW (decide (55<=(sz:Int))) (fun j=>xs.getD j 0) i) sz x:=⟨L i,(h i hi).1⟩
 rw[dif_pos hx,NY (IC hx.choose_spec (h i hi).1)]
theorem NO(sz:Nat)(xs:List Int)(k:Nat):(frmL sz xs k).length=sz:=by
 unfold frmL;split <;> exact eQ _ _
theorem aDS(sz:Nat)(xs:List Int)(k:Nat):qJ (frmL sz xs k):=by
 unfold frmL;split <;> exact DQ _ _
structure EC(S:aM):Prop where
 n1:1<=S.n
 n2:S.n<=2
 m:∀k,k<S.n->S.M k=S.M 0
 m1:1<=S.M 0
 m2:S.M 0<=1048576
 x:∀k,k<S.n->∀j,j<S.M k->-32768<=S.X k j/\S.X k j<=32767
 ok:(sC S).OkR
theorem aM.check_v{S:aM}(h:S.check=0):EC S:=by
 unfold aM.check at h;by_cases h1:cX S.s S.len S.r S.n S.lp S.a S.b≠0
 ·rw[if_pos h1]at h;omega
 rw[if_neg h1]at h;by_cases h2:S.odd
 ·rw[if_pos h2]at h;omega
 rw[if_neg h2]at h;by_cases h3:S.far
 ·rw[if_pos h3]at h;omega
 have hok:(sC S).OkR:=(Mt.ok_iff _).1 (by unfold Mt.ok;exact Classical.not_not.1 h1);have a1:=hok.c1;have a2:=hok.c2;have a3:=hok.n1;have a4:=hok.n2;have c1:(sC S).c=S.n:=rfl;have c2:(sC S).n=S.len:=rfl;rw[c1]at a1 a2;rw[c2]at a3 a4;have hlen:S.len=S.M 0:=by unfold aM.len;rw[if_neg zO]
 rw[hlen]at a3 a4;have hm:∀k,k<S.n->S.M k=S.M 0:=fun k hk=>by
  by_cases e:S.M k=S.M 0
  ·exact e
  ·exact absurd ⟨k,hk,e⟩ h2
 refine⟨zO,zO,hm,zO,zO,fun k hk j hj=>?_,hok⟩;by_cases e:S.X k j < -32768\/32767<S.X k j
 ·exact absurd ⟨k,hk,j,hj,e⟩ h3
 ·omega
def qG(S:aM)(c:Nat):List Int:=gQ (S.X c) (S.M c)
theorem uB(S:aM)(c:Nat):(qG S c).length=S.M c:=dB _ _
noncomputable def frB(sz:Nat)(S:aM)(k:Nat):nI:=fun j=>(frmL sz (qG S (k%S.n)) (k/S.n)).getD j 0
theorem aGm(sz:Nat)(S:aM)(k:Nat):lS (frB sz S k) sz:=fun j hj=>by
 have h:=aDS sz (qG S (k%S.n)) (k/S.n);unfold frB;have hl:=NO sz (qG S (k%S.n)) (k/S.n);rw[show (frmL sz (qG S (k%S.n)) (k/S.n)).getD j 0=(frmL sz (qG S (k%S.n)) (k/S.n))[j]'zO by simp[List.getD,show j<(frmL sz (qG S (k%S.n)) (k/S.n)).length by omega]];exact h _ (List.getElem_mem _)
theorem aBS{S:aM}(h:EC S):(sC S).fr=cW (S.M 0)*S.n:=by
 have hlen:S.len=S.M 0:=by unfold aM.len;rw[if_neg (by have:=h.n1;omega)]
 unfold Mt.fr;show cW (S.len).toNat*((S.n:Int)).toNat=_;rw[hlen];simp
theorem aHe{w:World}{S:aM}(h:jB w S)(c:Nat)(hc:c<S.n):kK w .i64 (.slice (S.Q c) (S.M c) (S.C c)) (qG S c):=by
 obtain⟨a,b,r⟩:=h.rows.row c hc;refine⟨S.Q c,S.C c,by rw[uB],fun hne=>?_⟩;have h0:0<S.M c:=by
  rcases Nat.eq_zero_or_pos (S.M c) with e | e
  ·unfold qG at hne;rw[e]at hne;exact absurd rfl hne
  ·exact e
 obtain⟨g,o,h1,h2,h3⟩:=r h0;refine⟨g,o,h1,h2,by rw[uB];exact a,b,fun i hi=>?_⟩;rw[uB]at hi;unfold qG;rw[h3 i hi,iT _ _ _ hi]
theorem KK{S:aM}(h:EC S)(c:Nat)(hc:c<S.n):qE (qG S c):=qN (fun j hj=>h.x c hc j hj)
theorem CY(m:Mt)(C ch bl:Nat)(w:World)(hC:m.c=C)(h2:C<=2)(hb:bl<=65536)(hc:ch<=2):
  Calls zP 36 #[.agg m.cells,vI iJ ch,vI iJ bl] w fun e w'=>e=rJ (vI iJ ((bl*C+ch:Nat):Int))/\Old w w':=by
 have hp:bl*C<=65536*2:=Nat.mul_le_mul hb h2;obtain⟨u,hu⟩:=zG (bl*C);have e1:(bl:Int)*m.c=u:=by rw[hC,hu,Int.natCast_mul]
 have e2:wrap64 ((bl:Int)*m.c)=u:=by rw[e1];exact IntWalk.wrap64_in _ zO
 have HO:=zH (Old.alloc w (.cells m.cells 90));rw[<-hu]at hp |-;clear hu hC e1;unfold Mt.cells at *;go_enter func36,ntmps36
 go_wp2_with fail
 go_ret;exact⟨bT zO,HO.o⟩
theorem Tryz.info_rows:(zP.info? 34).map (fun i=>(i.zero,i.size,i.bytes))=some (some (.slice none 0 0),1,24):=zK
theorem aFt(n:Nat):madeCells (Value.slice none 0 0:Value).cells n=aA n (fun _=>.slice none 0 0):=by
 apply Array.ext_getElem?;intro i;by_cases hi:i<n
 ·rw[bI n _ i hi];have h1:(Value.slice none 0 0:Value).cells.size=1:=rfl;simp[madeCells,hi,Value.cells,Nat.mod_one]
 ·rw[Array.getElem?_eq_none (by rw[size_madeCells];omega),Array.getElem?_eq_none (by rw[aB];omega)]
theorem aAa(n:Nat)(hn:n<=1099511627776)(w:World):(Instr.makeSlice 130 (vI iJ n) (vI iJ n)).run zP w=.ok (.slice (some ⟨w.heap.size,0,none⟩) n n) (w.alloc (.cells (aA n (fun _=>.slice none 0 0)) 34)):=by
 obtain⟨i,hi,hz0,hz1,hz2⟩:=info_parts Tryz.info_rows;rw[run_make w _ _ i _ underlying130 hi hz0 .i64 .i64 n n zO zO (by rw[hz2];omega) zO,hz1,Int.toNat_natCast,Nat.mul_one,aFt n]
structure DT(w:World)(g fr sz:Nat)(B:Nat->Nat->Int)(P:Nat->Prop)(W:World):Prop where
 lt:g<W.heap.size
 ge:w.heap.size<=g
 there:W.there g 0 fr
 cell:∀k,k<fr->P k->∃gb ob C,W.cell? ⟨g,k,none⟩=some (.slice (some ⟨gb,ob,none⟩) sz C)/\sz<=C/\C<=maxLen/\gb≠g/\w.heap.size<=gb/\gb<W.heap.size/\∀j,j<sz->W.cell? ⟨gb,ob+j,none⟩=some (.int .u8 (B k j))
 old:Old w W
theorem DT.on{w W W':World}{g fr sz:Nat}{B:Nat->Nat->Int}{P:Nat->Prop}(h:DT w g fr sz B P W)(o:Old W W'):DT w g fr sz B P W' where
 lt:=Nat.lt_of_lt_of_le h.lt o.size
 ge:=h.ge
 there:=fun j hj=>by
  have:=h.there j hj;exact⟨by rw[o.cell (a:=⟨g,0+j,none⟩) h.lt];exact this.1,by rw[Kept.frozen o (a:=⟨g,0+j,none⟩) h.lt];exact this.2⟩
 cell:=fun k hk hP=>by
  obtain⟨gb,ob,C,h1,h2,h3,h4,h4',h5,h6⟩:=h.cell k hk hP;exact⟨gb,ob,C,(o.cell (a:=⟨g,k,none⟩) h.lt).trans h1,h2,h3,h4,h4',Nat.lt_of_lt_of_le h5 o.size,fun j hj=>(o.cell (a:=⟨gb,ob+j,none⟩) h5).trans (h6 j hj)⟩
 old:=h.old.trans o
theorem DT.put{w W:World}{g fr sz:Nat}{B:Nat->Nat->Int}{P:Nat->Prop}(h:DT w g fr sz B P W)(k:Nat)(hk:k<fr)(gb ob C:Nat)(h1:sz<=C)(h2:C<=maxLen)(h3:gb≠g)(h3':w.heap.size<=gb)(h4:gb<W.heap.size)(h5:∀j,j<sz->W.cell? ⟨gb,ob+j,none⟩=some (.int .u8 (B k j))):
  DT w g fr sz B (fun q=>P q\/q=k) (W.setCell ⟨g,k,none⟩ (.slice (some ⟨gb,ob,none⟩) sz C)):=by
 have hK:=Kept.setCell (X:=fun q=>q≠g) W (a:=⟨g,k,none⟩) (fun e=>e rfl) (.slice (some ⟨gb,ob,none⟩) sz C);have hck:=(h.there k hk).1;rw[Nat.zero_add]at hck;obtain⟨u,hu⟩:=Option.isSome_iff_exists.1 hck;have hnew:=World.cell?_setCell_same W (a:=⟨g,k,none⟩) (.slice (some ⟨gb,ob,none⟩) sz C) hu;have hoth:∀q,q≠k->(W.setCell ⟨g,k,none⟩ (.slice (some ⟨gb,ob,none⟩) sz C)).cell? ⟨g,q,none⟩=W.cell? ⟨g,q,none⟩:=fun q hq=>World.cell?_setCell_other _ _ _ _ (fun e=>by injection e with _ e2;exact hq e2.symm);refine⟨by have:=h.lt;simpa[World.setCell]using this,h.ge,fun j hj=>?_,fun q hq hP=>?_,h.old.after hK fun q hq=>by have:=h.ge;omega⟩
 ·have hj:=h.there j hj;rw[Nat.zero_add]at hj |-;refine⟨?_,by rw[World.frozen?_setCell];exact hj.2⟩;by_cases e:j=k
  ·rw[e,hnew];rfl
  ·rw[hoth j e];exact hj.1
 ·by_cases e:q=k
  ·subst e;exact⟨gb,ob,C,hnew,h1,h2,h3,h3',by have:=h4;simpa[World.setCell]using this,fun j hj=>(hK.cell (a:=⟨gb,ob+j,none⟩) h3).trans (h5 j hj)⟩
  ·obtain⟨gb',ob',C',a1,a2,a3,a4,a4',a5,a6⟩:=h.cell q hq (hP.elim id fun e'=>absurd e' e);exact⟨gb',ob',C',by rw[hoth q e];exact a1,a2,a3,a4,a4',by simpa[World.setCell]using a5,fun j hj=>(hK.cell (a:=⟨gb',ob'+j,none⟩) a4).trans (a6 j hj)⟩
theorem DT.imp{w W:World}{g fr sz:Nat}{B:Nat->Nat->Int}{P P':Nat->Prop}(h:DT w g fr sz B P W)(e:∀k,k<fr->P' k->P k):DT w g fr sz B P' W:=⟨h.lt,h.ge,h.there,fun k hk hP=>h.cell k hk (e k hk hP),h.old⟩
theorem aEP(bl sz n c:Nat)(hb:bl<=65536)(hz:sz<=96):∃lo hi:Nat,lo=bl*sz/\hi=lo+sz /\
  (wrap64 ((bl:Int)*sz)=lo/\IntKind.i64.wrap ((bl:Int)*sz)=lo)/\∃kp:Int,(bl:Int)+1=kp/\IntKind.i64.wrap ((bl:Int)+1)=kp/\wrap64 ((bl:Int)+1)=kp/\IntKind.i64.wrap (kp*(sz:Int))=hi/\wrap64 (kp*(sz:Int))=hi:=by
 have h1:bl*sz<=65536*96:=Nat.mul_le_mul hb hz;have h2:((bl:Int)+1)*(sz:Int)=((bl*sz+sz:Nat):Int):=by rw[Int.add_mul,Int.one_mul,<-Int.natCast_mul];omega
 refine⟨_,_,rfl,rfl,⟨?_,?_⟩,_,rfl,?_,?_,?_,?_⟩
 ·rw[<-Int.natCast_mul];exact IntWalk.wrap64_in _ zO
 ·rw[<-Int.natCast_mul];exact IntWalk.i64_in _ zO
 ·exact IntWalk.i64_in _ zO
 ·exact IntWalk.wrap64_in _ zO
 ·rw[h2];exact IntWalk.i64_in _ zO
 ·rw[h2];exact IntWalk.wrap64_in _ zO
theorem xA(bl n c:Nat)(hc:c<n):(bl*n+c)%n=c/\(bl*n+c)/n=bl:=by
 rw[Nat.mul_comm];exact⟨by rw[Nat.mul_add_mod,Nat.mod_eq_of_lt hc],by rw[Nat.mul_add_div zO,Nat.div_eq_of_lt hc,Nat.add_zero]⟩
theorem DT.new{w V:World}(ho:Old w V)(fr sz:Nat)(B:Nat->Nat->Int)(hfr:fr<=1099511627776):DT w V.heap.size fr sz B (fun _=>False) (V.alloc (.cells (aA fr (fun _=>.slice none 0 0)) 34)) where
 lt:=zS
 ge:=ho.size
 there:=fun j hj=>by
  rw[Nat.zero_add];exact⟨by rw[(cell_of_row _ _ _ _ _ _ (heap_alloc_new _ _)).trans (bI fr _ j hj)];rfl,frozen_of_row _ _ _ _ _ (heap_alloc_new _ _)⟩
 cell:=fun k hk h=>h.elim
 old:=ho.alloc' _
theorem aIu(sz:Nat)(L:Nat->Fr)(N bl j:Nat)(hbl:bl<N)(hj:j<sz):(dC sz L N).getD (bl*sz+j) 0=(cU (enc (L bl).F (L bl).n (L bl).T) sz).getD j 0:=by
 rw[<-AO sz L bl N hbl];simp[List.getD_eq_getElem?_getD,List.getElem?_take,List.getElem?_drop,hj]
theorem IM(b sz:Nat)(S:aM)(w:World)(hb:CoB w b sz)(h24:24<=sz)(h96:sz<=96)(hs:jB w S)(hv:EC S):
  Calls zP 51 #[.pointer (some ⟨b,0,none⟩),.agg S.cells] w fun e w'=>∃g,e=rJ (.tuple #[.slice (some ⟨g,0,none⟩) (sC S).fr (sC S).fr,vI iJ 0])/\DT w g (sC S).fr sz (frB sz S) (fun _=>True) w':=by
 obtain⟨bx,hbx⟩:∃b,b=w.heap.size:=⟨_,rfl⟩
 obtain⟨W0,hW0⟩:∃W,W=w.alloc (.cells S.cells 133):=⟨_,rfl⟩
 have ho0:Old w W0:=by rw[hW0];exact Old.alloc _ _
 have hsb:xM W0 bx S:=by rw[hW0,hbx];exact xM.new w S
 have hn1:=hv.n1;have hn2:=hv.n2;have hm1:=hv.m1;have hm2:=hv.m2;have hfr:=aBS hv;have hfrb:=hv.ok.fr_le;obtain⟨gd,od,hSp,hgd,hcd⟩:=hs.rows.cell zO;have HSp:=zH hSp;have HGd:=zH (And.intro hgd hcd);clear hSp hgd hcd;have HSB:=zH hsb;have HO0:=zH ho0;have HV:=zH hv;have HS:=zH hs;have HCo:=zH hb;have HMe:=zH (yL S W0 (hs.old ho0));rw[II]at HMe;obtain⟨X,hX⟩:=zG ((sC S).cells);have HFs:=zH (fun V=>nV (sC S) hv.ok V);rw[<-hX]at HMe HFs;have HX:=zH hX;have HX9:Hid (X.size=9):=zH (by rw[hX];rfl);have HX1:Hid (X.all (·.oneCell')=true):=zH (by rw[hX];exact Mt.one _);have Hs9:Hid ((zP.info? 90).map (·.size)=some 9):=zH zK;obtain⟨fr,hfrr⟩:∃f,f=(sC S).fr:=⟨_,rfl⟩
 rw[<-hfrr]at hfr hfrb HFs |-;obtain⟨N,hN⟩:=zG (cW (S.M 0));rw[<-hN]at hfr;have hN1:1<=N/\N<=65536:=by rw[hN];unfold cW;omega
 have HNf:=zH (And.intro hN (And.intro hfr (And.intro h24 h96)));obtain⟨c0,c1,c2,c3,c4,c5⟩:=hsb.at
 have hW0':W0=w.alloc (.cells #[.string S.s,vI iJ S.r,.bool S.lp,vI iJ S.a,vI iJ S.b,.slice S.p S.n S.c] 133):=hW0;have HW0:=zH hW0';have HBX:=zH hbx;have HC5:=zH c5;unfold aM.val at HMe;unfold aM.cells at HMe |-;clear hbx hW0 hW0' ho0 hsb hs hv hb hX hfrr hN h24 h96 hm1 hm2 hfr;go_enter func51,ntmps51
 go_upto_region 1 with (fail)
 rw[<-HW0.o,<-HBX.o]
 go_wp2_with fail
 refine HMe.o.mono ?_;rintro e V1 ⟨rfl,ho⟩;have HO1:=zH (HO0.o.trans ho);have HSB1:=zH (HSB.o.old ho);clear ho HMe HSB c0 c1 c2 c3 c4 c5 HO0;have HSz:=zH (vB b sz V1 (HCo.o.old HO1.o))
 go_wp2_with fail
 refine HSz.o.mono ?_;rintro e V1' ⟨rfl,rfl⟩;clear HSz;obtain⟨bm,hbm⟩:∃b,b=V1.heap.size:=⟨_,rfl⟩
 obtain⟨W2,hW2⟩:∃W,W=V1.alloc (.cells X 90):=⟨_,rfl⟩
 have HMB:=zH (show W2.heap[bm]?=some (.cells X 90 (0,0)) by rw[hW2,hbm];exact heap_alloc_new _ _);have HO2:=zH (show Old w W2 by rw[hW2];exact HO1.o.alloc' _);have HSB2:=zH (show xM W2 bx S by rw[hW2];exact HSB1.o.old (Old.alloc _ _));have HW2:=zH hW2;have HBM:=zH hbm;have HBne:Hid (bx<bm):=zH (by have:=lt_of_block HSB1.o;omega);clear hbm hW2 HSB1
 go_wp2_with (first
  | (with_reducible refine wpList_store_row rfl 90 _ _ rfl V1.heap.size X rfl rfl 90 _ (heap_alloc_new _ _) (by rw[HX9.o];exact Hs9.o) (by rw[HX9.o];kernel_rfl) HX1.o ?_;rw[World.setRow_alloc_new,<-HW2.o,<-HBM.o])
  | (with_reducible refine wpList_load_row rfl 90 _ rfl bm rfl 90 X (0,0) _ HMB.o underlying90 rfl (by rw[HX9.o];exact Hs9.o) ?_))
 refine(HFs.o _).mono ?_;rintro e V3 ⟨rfl,ho⟩;have HO3:=zH (HO2.o.trans ho);have HSB3:=zH (HSB2.o.old ho);have HMB3:=zH ((ho.block _ (lt_of_block HMB.o)).trans HMB.o);clear ho HFs HO2 HSB2 HMB HW2 HBM HO1;have hn1:=HV.o.n1;have hmk:=aAa fr zO V3;obtain⟨g,hg⟩:=zG (V3.heap.size);obtain⟨W4,hW4⟩:∃W,W=V3.alloc (.cells (aA fr (fun _=>.slice none 0 0)) 34):=⟨_,rfl⟩
 rw[<-hW4,<-hg]at hmk;have HF4:Hid (DT w g fr sz (frB sz S) (fun k=>k%S.n<0) W4):=zH (by rw[hW4,hg];exact(DT.new HO3.o fr sz _ zO).imp fun k _ h=>zO);have HS4:=zH (show xM W4 bx S by rw[hW4];exact HSB3.o.old (Old.alloc _ _));have HM4:Hid (W4.heap[bm]?=some (.cells X 90 (0,0))):=zH (by rw[hW4];exact((Old.alloc V3 _).block bm (lt_of_block HMB3.o)).trans HMB3.o);have HGn:Hid (bx≠g/\bm≠g):=zH (by have h1:=lt_of_block HSB3.o;have h2:=lt_of_block HMB3.o;omega);have c5:W4.cell? ⟨bx,5,none⟩=some (.slice (some ⟨gd,od,none⟩) S.n S.c):=by rw[<-HSp.o];exact HS4.o.at.2.2.2.2.2
 clear hW4 hg HO3 HSB3 HMB3 HBne
 go_wp2_with fail
 clear c5 hmk
 go_loopw [25] (fun iv wr=>∃c:Nat,c<=S.n/\iv=vI iJ c/\Hid (DT w g fr sz (frB sz S) (fun k=>k%S.n<c) wr)/\Hid (xM wr bx S)/\Hid (wr.heap[bm]?=some (.cells X 90 (0,0)))) (fun i _=>S.n-(intOf i).toNat)
 case atStart=>exact⟨0,Nat.zero_le _,by go_num,HF4,HS4,HM4⟩
 case round=>
  clear HF4 HS4 HM4;obtain⟨c,hc,rfl,HF,HSb,HMb⟩:=hrel;by_cases hcn:c<S.n
  ·obtain⟨xs,hxs⟩:=zG (qG S c);have hsl:=(aHe HS.o c hcn).old HF.o.old;have hMc:=HV.o.m c hcn;have hm2:=HV.o.m2;have hcnt:cW (S.M c)=N:=by rw[hMc];exact HNf.o.1.symm
   have hCF:=LH b sz (S.Q c) (S.M c) (S.C c) (qG S c) wr (HCo.o.old HF.o.old) (by have:=HNf.o.2.2.1;omega) (by have:=HNf.o.2.2.2;omega) hsl (KK HV.o c hcn) zO;rw[hcnt]at hCF;have HCF:=zH hCF;have ct:wr.cell? ⟨gd,od+c,none⟩=some (.slice (S.Q c) (S.M c) (S.C c)):=(HF.o.old.cell (a:=⟨gd,od+c,none⟩) HGd.o.1).trans (HGd.o.2 c hcn);have hlen:(qG S c).length=S.M c:=uB S c;have HFx:Hid (∀L,FmG sz (decide (55<=(sz:Int))) (fun j=>(qG S c).getD j 0) (JT (decide (55<=(sz:Int))) N fun j=>(qG S c).getD j 0) N L->FmX sz (qG S c) N L):=zH fun L h=>by
    unfold FmX;rw[hlen,hcnt];exact h
   have HSa:Hid (∀q,-32768<=(qG S c).getD q 0/\(qG S c).getD q 0<=32768):=zH fun q=>by have:=rI (KK HV.o c hcn) q;omega
   obtain⟨Q,hQ⟩:=zG (S.Q c);obtain⟨M,hM⟩:=zG (S.M c);obtain⟨C,hC⟩:=zG (S.C c);rw[<-hQ,<-hM,<-hC]at ct HCF;have i0:(0:Int)<=c:=zO;have i1:(c:Int)<S.n:=zO;clear hsl hMc hcnt hCF hlen hQ hM hC hxs
   go_wp2_with fail
   refine HCF.o.mono ?_;rintro e V ⟨fb,L,rfl,hfs,hfm,ho⟩;have HFV:=zH (HF.o.on ho);have HSV:=zH (HSb.o.old ho);have HMV:=zH ((ho.block _ (lt_of_block HMb.o)).trans HMb.o);have hmay:=fun i hi=>aGo HSa.o (by have:=HNf.o.2.2.1;omega) hfm i hi;have hCB:=QS b sz (some ⟨fb,0,none⟩) N N L _ V (HCo.o.old HFV.o.old) HNf.o.2.2.1 HNf.o.2.2.2 hfs (fun i hi=>(hmay i hi).1) (fun i hi=>(hmay i hi).2.1) (fun i hi=>(hmay i hi).2.2) zO;have HCB:=zH hCB;have HX2:=zH (HFx.o L hfm);clear ct ho hfs hfm hmay hCB HF HSb HMb HCF HFx HSa
   go_wp2_with fail
   refine HCB.o.mono ?_;rintro e V2 ⟨v,rfl,hown,ho⟩;have HFV2:=zH (HFV.o.on ho);have HSV2:=zH (HSV.o.old ho);have HMV2:=zH ((ho.block _ (lt_of_block HMV.o)).trans HMV.o);have hN1':=hN1.1;have hT0:24<=N*sz:=by have h1:=HNf.o.2.2.1;have h2:1*sz<=N*sz:=Nat.mul_le_mul_right sz hN1.1;omega
   have hTb:N*sz<=65536*96:=Nat.mul_le_mul hN1.2 HNf.o.2.2.2;obtain⟨g2,cap2,rfl,hgw,hg2,hg3,hl2,hc2,hcells⟩:∃g2 cap2,v=.slice (some ⟨g2,0,none⟩) (N*sz) cap2/\w.heap.size<=g2/\g2≠g/\g2<V2.heap.size/\N*sz<=cap2/\cap2<=maxLen/\∀i,i<N*sz->V2.cell? ⟨g2,i,none⟩=some (.int .u8 ((dC sz L N).getD i 0)):=by
    have hl:=lM sz L N;rcases hown.shape with ⟨_,h0⟩ | ⟨g2,cap2,hv,hX2,hg2,h1,h2,h3⟩
    ·omega
    ·rw[hl]at hv h1;have hX2:¬g2<V.heap.size:=hX2;have:=HFV.o.lt;have:=HFV.o.old.size;refine⟨g2,cap2,hv,zO,zO,hg2,h1,h2,fun i hi=>h3 i _ ?_⟩;rw[List.getElem?_map,List.getElem?_eq_getElem zO];simp[List.getD,show i<(dC sz L N).length by omega]
   obtain⟨T,hT⟩:=zG (N*sz);rw[<-hT]at hT0 hTb hl2 hcells |-;have HT:=zH hT;have HCl:=zH (And.intro hg2 (And.intro hl2 (And.intro hT0 (And.intro hTb (And.intro hc2 hgw)))));have HV2:=zH (show DT w g fr sz (frB sz S) (fun k=>k%S.n<c\/(k%S.n=c/\k/S.n<0)) V2 from HFV2.o.imp fun k _ h=>h.elim id fun h=>absurd h.2 (Nat.not_lt_zero _));have HU2:Hid (g2<V2.heap.size/\∀i,i<T->V2.cell? ⟨g2,i,none⟩=some (.int .u8 ((dC sz L N).getD i 0))):=zH ⟨hg3,hcells⟩;clear hown ho hT hcells hgw hg2 hg3 hl2 hc2 hT0 hTb HFV HSV HMV HFV2 HCB;obtain⟨wo,rfl⟩:∃V,V=V2:=⟨_,rfl⟩
   go_wp2_with fail
   go_loopw [50] (fun iv wr=>∃bl:Nat,bl<=N/\iv=vI iJ bl/\Hid (DT w g fr sz (frB sz S) (fun k=>k%S.n<c\/(k%S.n=c/\k/S.n<bl)) wr)/\Hid (xM wr bx S)/\Hid (wr.heap[bm]?=some (.cells X 90 (0,0)))/\Hid (g2<wr.heap.size/\∀i,i<T->wr.cell? ⟨g2,i,none⟩=some (.int .u8 ((dC sz L N).getD i 0)))) (fun i _=>N-(intOf i).toNat)
   case atStart=>exact⟨0,Nat.zero_le _,by go_num,HV2,HSV2,HMV2,HU2⟩
   case round=>
    clear HV2 HSV2 HMV2 HU2;obtain⟨bl,hbl,rfl,HF,HSb,HMb,HU⟩:=hrel;by_cases hbn:bl<N
    ·obtain⟨lo,hi,hlo,hhi,hE1,kp,hkp,f1,f2,f3,f4⟩:=aEP bl sz S.n c zO HNf.o.2.2.2;have HE:=zH (And.intro hE1 (And.intro f1 (And.intro f2 (And.intro f3 f4))));clear f1 f2 f3 f4 hE1 hkp;obtain⟨r,hr⟩:=zG (bl*S.n+c);have hrf:r<fr:=by
      have h1:(bl+1)*S.n<=N*S.n:=Nat.mul_le_mul_right _ hbn;have h2:=HNf.o.2.1;rw[Nat.add_mul,Nat.one_mul]at h1;omega
     have hhT:hi<=T:=by
      have h1:(bl+1)*sz<=N*sz:=Nat.mul_le_mul_right _ hbn;have h2:=HT.o;rw[Nat.add_mul,Nat.one_mul]at h1;omega
     have hNu:∀V,Calls zP 36 #[.agg X,vI iJ c,vI iJ bl] V fun e w'=>e=rJ (vI iJ (r:Nat))/\Old V w':=fun V=>by
      rw[HX.o,hr];exact CY (sC S) S.n c bl V rfl zO zO zO
     have HNu:=zH hNu;obtain⟨C3,hC3⟩:∃c,c=cap2-lo:=⟨_,rfl⟩
     have hcl:=HCl.o;have hsz:=HNf.o.2.2.1;have hcut:∀w',(Instr.sliceAt 34 (.slice (some ⟨g2,0,none⟩) T cap2) (some (vI iJ lo)) (some (vI iJ hi)) none).run zP w'=.ok (.slice (some ⟨g2,lo,none⟩) sz C3) w':=fun w'=>by
      have:=lD g2 0 T cap2 lo hi zO zO w';rw[Nat.zero_add,<-hC3,show hi-lo=sz by omega]at this;exact this
     have HPut:Hid (∀V,Old wr V->V.heap.size<=maxLen\/True->DT w g fr sz (frB sz S) (fun k=>k%S.n<c\/(k%S.n=c/\k/S.n<bl+1)) (V.setCell ⟨g,r,none⟩ (.slice (some ⟨g2,lo,none⟩) sz C3))):=zH fun V hV _=>by
      have hh:=HF.o.on hV;obtain⟨x1,x2⟩:=xA bl S.n c hcn;rw[<-hr]at x1 x2;refine(hh.put r hrf g2 lo C3 zO zO hcl.1 hcl.2.2.2.2.2 (Nat.lt_of_lt_of_le HU.o.1 hV.size) (fun j hj=>?_)).imp (fun q hq hP=>?_)
      ·rw[(hV.cell (a:=⟨g2,lo+j,none⟩) HU.o.1).trans (HU.o.2 (lo+j) zO),hlo,aIu sz L N bl j hbn hj];unfold frB;rw[x1,x2,aGd HX2.o bl hbn]
      ·by_cases e:q=r
       ·exact Or.inr e
       ·refine Or.inl (hP.elim Or.inl fun h=>Or.inr ⟨h.1,?_⟩);by_cases e2:q/S.n=bl
        ·have:=Nat.div_add_mod q S.n;rw[e2,h.1,Nat.mul_comm]at this;omega
        ·omega
     have HRf:=zH hrf;have i0:(0:Int)<=r:=zO;have i1:(r:Int)<fr:=zO;have HMd:Hid (wr.drew.heap[bm]?=some (.cells X 90 (0,0))):=zH HMb.o;clear hNu hlo hhi hr hrf hhT hC3 hcl hsz
     go_wp2_with fail
     obtain⟨⟨e1,e2⟩,f1,f2,f3,f4⟩:=HE.o;refine wp_region_held_drew (S:=(fun V=>V.heap[bm]?=some (.cells X 90 (0,0)))) zK ?_ (fun hHeld=>?_)
     ·(try dsimp only);exact HMd.o
     refine (uU 0) ?_;refine (uT 1 (v:=.agg X) rfl (aG zK 90 (.tmp 6) rfl bm rfl 90 X (0,0) _ (fun _ h=>h) underlying90 rfl (by rw[HX9.o];exact Hs9.o))) ?_;refine (uU 2) ((uU 3) ((uU 5) ((uU 6) ((uU 7) ((uU 8) ((uU 9) ((uU 10) ((uU 11) ((uU 12) ((uU 13) ?_))))))))));refine wpR 4 rfl (fun K hK=>?_);go_simp;refine(HNu.o _).mono ?_;rintro e V ⟨rfl,o1⟩;have HV1:=zH ((Old.drew (Old.refl wr)).trans o1);clear o1
     go_wp2_with fail
     have HMV:Hid (V.heap[bm]?=some (.cells X 90 (0,0))):=zH ((HV1.o.block _ (lt_of_block HMb.o)).trans HMb.o);refine hK.out _ _ ?_ (fun hHeld=>?_)
     ·(try dsimp only);exact HMV.o
     clear hK K;refine (uU 14) ?_;have hth:=(HF.o.on HV1.o).there r HRf.o;rw[Nat.zero_add]at hth;obtain⟨u,ck⟩:=Option.isSome_iff_exists.1 hth.1;have fk:V.frozen? ⟨g,r,none⟩=false:=hth.2;obtain⟨W5,hW5⟩:∃W,W=V.setCell ⟨g,r,none⟩ (.slice (some ⟨g2,lo,none⟩) sz C3):=⟨_,rfl⟩
     have hK:=Kept.setCell (X:=fun q=>q≠g) V (a:=⟨g,r,none⟩) (fun e=>e rfl) (.slice (some ⟨g2,lo,none⟩) sz C3);rw[<-hW5]at hK;have HP:=zH (HPut.o V HV1.o (Or.inr trivial));rw[<-hW5]at HP;have HM5:Hid (W5.heap[bm]?=some (.cells X 90 (0,0))):=zH ((hK.block bm HGn.o.2).trans HMV.o);have HS5:=zH (show xM W5 bx S from(hK.block bx HGn.o.1).trans (HSb.o.old HV1.o));have HU5:Hid (g2<W5.heap.size/\∀i,i<T->W5.cell? ⟨g2,i,none⟩=some (.int .u8 ((dC sz L N).getD i 0))):=zH ⟨by
      have h1:=HU.o.1;have h2:=HV1.o.size;rw[hW5,World.size_setCell];omega,fun i hi=>(hK.cell (a:=⟨g2,i,none⟩) HCl.o.1).trans ((HV1.o.cell (a:=⟨g2,i,none⟩) HU.o.1).trans (HU.o.2 i hi))⟩
     have HW5:=zH hW5;clear hth hK hW5 HPut HNu HSb HMb HF HU HV1 HMd;refine wpR 15 rfl (fun K hK=>?_);go_simp;rw[<-HW5.o];refine hK.out _ _ ?_ (fun hHeld=>?_)
     ·(try dsimp only);exact HM5.o
     clear hK K
     try simp only[Act.put,sA,sZ,sS]
     refine wpAnyH_done zK ?_ _;clear e1 e2 f1 f2 f3 f4 ck fk hcut
     go_wp2_with fail
     go_roundw
     case rel=>exact⟨bl+1,zO,by go_num,HP,HS5,HM5,HU5⟩
     case measure=>exact zM
    ·have HE:=zH (show DT w g fr sz (frB sz S) (fun k=>k%S.n<c+1) wr from HF.o.imp fun k hk h=>by
      have h3:=HNf.o.2.1;have h2:k/S.n<N:=Nat.div_lt_of_lt_mul (by rw[Nat.mul_comm];omega);omega)
     have hend:¬((bl:Int)<(N:Int)):=zO;clear HF HU
     go_wp2_with fail
     go_roundw
     case rel=>exact⟨c+1,zO,by go_num,HE,HSb,HMb⟩
     case measure=>exact zM
  ·have HE:=zH (show DT w g fr sz (frB sz S) (fun _=>True) wr from HF.o.imp fun k hk h=>by
    have:=Nat.mod_lt k (show 0<S.n by omega);omega)
   have hend:¬((c:Int)<(S.n:Int)):=zO;clear HF HSb HMb
   go_wp2_with fail
   go_ret2
   exact⟨g,rfl,HE.o⟩
theorem gX.lift{v w:World}{g N:Nat}{F:nI}{W:World}(h:gX w g N F W)(o:Old v w):gX v g N F W:=⟨h.row,Nat.le_trans o.size h.ge,o.trans h.old⟩
theorem oF.lift{v w:World}{g N:Nat}{f:Nat->Nat}{sz n:Nat}{B:Nat->Nat->Int}{H:nI}{k:Nat}{W:World}(h:oF w g N f sz n B H k W)(o:Old v w):oF v g N f sz n B H k W:=by
 obtain⟨F,h1,h2⟩:=h;exact⟨F,h1.lift o,h2⟩
theorem aAw.lift{v w:World}{sz n K:Nat}{D:Nat->Mt}{B:Nat->Nat->Int}{er:Int}{e:Ending}{w':World}(h:aAw w sz n K D B er e w')(o:Old v w):aAw v sz n K D B er e w':=by
 rcases h with ⟨h1,h2,h3⟩ | ⟨h1,g,h2,h3⟩
 ·exact .inl ⟨h1,h2,o.trans h3⟩
 ·exact .inr ⟨h1,g,h2,h3.lift o⟩
def aI(Z:Nat->aM):Nat->Mt:=fun i=>sC (Z i)
noncomputable def JG(sz:Nat)(Z:Nat->aM):Nat->Nat->Nat->Int
 | 0=>fun _ _=>0
 | k+1=>fun j=>if j<aF (aQ (aI Z)) k then JG sz Z k j else frB sz (Z k) (j-aF (aQ (aI Z)) k)
theorem KT(sz:Nat)(Z:Nat->aM)(k j:Nat):lS (JG sz Z k j) sz:=by
 induction k generalizing j with
 | zero=>intro i _;exact⟨by show (0:Int)<=0;omega,by show (0:Int)<256;omega⟩
 | succ k ih=>
  show lS (if j<aF (aQ (aI Z)) k then JG sz Z k j else frB sz (Z k) (j-aF (aQ (aI Z)) k)) sz;split
  ·exact ih j
  ·exact aGm _ _ _
def PkV(W:World)(v:Value)(sz N:Nat)(vs:List Value)(B:Nat->Nat->Int):Prop:=
 ∀j,j<N->∃gb ob C,vs[j]?=some (.slice (some ⟨gb,ob,none⟩) sz C)/\sz<=C/\C<=maxLen/\v.ownBlock≠some gb/\gb<W.heap.size/\∀i,i<sz->W.cell? ⟨gb,ob+i,none⟩=some (.int .u8 (B j i))
theorem PkV.on{W W':World}{v:Value}{sz N:Nat}{vs:List Value}{B:Nat->Nat->Int}(h:PkV W v sz N vs B)(o:Old W W'):PkV W' v sz N vs B:=fun j hj=>by
 obtain⟨gb,ob,C,h1,h2,h3,h4,h5,h6⟩:=h j hj;exact⟨gb,ob,C,h1,h2,h3,h4,Nat.lt_of_lt_of_le h5 o.size,fun i hi=>(o.cell (a:=⟨gb,ob+i,none⟩) h5).trans (h6 i hi)⟩
theorem PkV.snoc{W W':World}{v v':Value}{sz N fr:Nat}{vs news:List Value}{B B2:Nat->Nat->Int}(h:PkV W v sz N vs B)(hn:PkV W v sz fr news B2)(hl:vs.length=N)(hk:Kept (fun q=>q<W.heap.size/\v.ownBlock≠some q) W W')(hv:∀k,v'.ownBlock=some k->v.ownBlock=some k\/W.heap.size<=k):
  PkV W' v' sz (N+fr) (vs ++ news) (fun j=>if j<N then B j else B2 (j-N)):=fun j hj=>by
 by_cases e:j<N
 ·obtain⟨gb,ob,C,h1,h2,h3,h4,h5,h6⟩:=h j e;refine⟨gb,ob,C,by rw[List.getElem?_append_left zO];exact h1,h2,h3,fun e'=>(hv gb e').elim h4 zO,Nat.lt_of_lt_of_le h5 hk.size,fun i hi=>?_⟩;dsimp only;rw[if_pos e];exact(hk.cell (a:=⟨gb,ob+i,none⟩) ⟨h5,h4⟩).trans (h6 i hi)
 ·obtain⟨gb,ob,C,h1,h2,h3,h4,h5,h6⟩:=hn (j-N) zO;refine⟨gb,ob,C,by rw[List.getElem?_append_right zO,hl];exact h1,h2,h3,fun e'=>(hv gb e').elim h4 zO,Nat.lt_of_lt_of_le h5 hk.size,fun i hi=>?_⟩;dsimp only;rw[if_neg e];exact(hk.cell (a:=⟨gb,ob+i,none⟩) ⟨h5,h4⟩).trans (h6 i hi)
theorem DT.news{w W:World}{g fr sz:Nat}{B:Nat->Nat->Int}(h:DT w g fr sz B (fun _=>True) W)(v:Value)(hv:∀k,v.ownBlock=some k->k<w.heap.size):
  ∃news:List Value,news.length=fr/\(∀j u,news[j]?=some u->W.cell? ((⟨g,0,none⟩:Addr).add j)=some u)/\(∀u∈news,u.oneCell'=true)/\PkV W v sz fr news B:=by
 obtain⟨l,hl,hP⟩:=aFq (P:=fun i x=>∃gb ob C,x=Value.slice (some ⟨gb,ob,none⟩) sz C/\W.cell? ⟨g,i,none⟩=some x/\sz<=C/\C<=maxLen/\w.heap.size<=gb/\gb<W.heap.size/\∀j,j<sz->W.cell? ⟨gb,ob+j,none⟩=some (.int .u8 (B i j))) fr fun i hi=>by
  obtain⟨gb,ob,C,h1,h2,h3,h4,h4',h5,h6⟩:=h.cell i hi trivial;exact⟨_,gb,ob,C,rfl,h1,h2,h3,h4',h5,h6⟩
 refine⟨l,hl,fun j u hu=>?_,fun u hu=>?_,fun j hj=>?_⟩
 ·obtain⟨gb,ob,C,_,h1,_⟩:=hP j u hu;rw[add_plain,Nat.zero_add];exact h1
 ·obtain⟨j,hj,rfl⟩:=List.getElem_of_mem hu;obtain⟨gb,ob,C,h1,_⟩:=hP j _ (List.getElem?_eq_getElem hj);rw[h1];rfl
 ·obtain⟨gb,ob,C,h1,h2,h3,h4,h5,h6,h7⟩:=hP j _ (List.getElem?_eq_getElem zO);refine⟨gb,ob,C,by rw[List.getElem?_eq_getElem (show j<l.length by omega),h1],h3,h4,fun e=>?_,h6,h7⟩;have:=hv gb e;omega
theorem aGZ{X:Nat->Prop}{W:World}{v:Value}{sz N:Nat}{vs:List Value}{B:Nat->Nat->Int}(h:PkV W v sz N vs B)(ho:ownX X W 34 v N vs)(hB:∀j,j<N->lS (B j) sz):
  ∃p c Q C,v=.slice p N c/\RwU W p N Q (fun _=>sz) C B:=by
 have hx:∀k,∃q:Option Addr × Nat,k<N->vs[k]?=some (.slice q.1 sz q.2)/\sz<=q.2/\q.2<=maxLen/\SlU W q.1 sz (B k):=fun k=>by
  by_cases hk:k<N
  ·obtain⟨gb,ob,C,h1,h2,h3,h4,h5,h6⟩:=h k hk;exact⟨(some ⟨gb,ob,none⟩,C),fun _=>⟨h1,h2,h3,fun _=>⟨gb,ob,rfl,h5,h6⟩⟩⟩
  ·exact⟨(none,0),fun h=>absurd h hk⟩
 obtain⟨f,hf⟩:=Classical.skolem.1 hx;rcases ho.shape with ⟨hv,h0⟩ | ⟨g,cap,hv,_,hg,_,_,hc⟩
 ·subst h0;exact⟨none,0,fun k=>(f k).1,fun k=>(f k).2,hv,fun h=>zO,fun i hi=>zO⟩
 ·exact⟨some ⟨g,0,none⟩,cap,fun k=>(f k).1,fun k=>(f k).2,hv,fun _=>⟨g,0,rfl,hg,fun i hi=>by rw[Nat.zero_add];exact hc i _ (hf i hi).1⟩,fun i hi=>⟨(hf i hi).2.1,(hf i hi).2.2.1,(hf i hi).2.2.2,hB i hi⟩⟩
theorem CO{L:Nat->aM} : ∀{n:Nat},gT L n=0->∀i,i<n->(L i).check=0
 | 0,_,i,hi=>zO
 | n+1,h,i,hi=>by
  have h0:gT L n=0:=Classical.byContradiction fun e=>by rw[wH e (Nat.le_succ n)]at h;exact e h
  rw[nW h0]at h;by_cases e:i=n
  ·rw[e];exact h
  ·exact CO h0 i zO
theorem FR{L:Nat->aM}{n:Nat}(h:nX L n=0):n<=64/\(∀i,i<n->EC (L i))/\∀i j,i<n->j<n->i≠j->(L i).s≠(L j).s:=by
 unfold nX at h;by_cases h1:64<n
 ·rw[if_pos h1]at h;omega
 rw[if_neg h1]at h;by_cases h2:gT L n≠0
 ·rw[if_pos h2]at h;exact absurd h h2
 rw[if_neg h2]at h;by_cases h3:vQ L n
 ·rw[if_pos h3]at h;omega
 refine⟨zO,fun i hi=>aM.check_v (CO (Classical.not_not.1 h2) i hi),fun i j hi hj hne e=>h3 ?_⟩;rcases Nat.lt_or_gt_of_ne hne with a | a
 ·exact⟨j,i,a,hj,e.symm⟩
 ·exact⟨i,j,a,hi,e⟩
theorem pM.valid{L Z:Nat->aM}{n:Nat}(h:pM L n Z)(hv:∀i,i<n->EC (L i)):∀i,i<n->EC (Z i):=fun i hi=>by
 obtain⟨m,hm,e⟩:=h.frm i hi;rw[e];exact hv m hm
theorem pM.dir{L Z:Nat->aM}{n:Nat}(h:pM L n Z)(hv:∀i,i<n->EC (L i)):nH (aI Z) n:=fun i hi=>⟨(Mt.ok_iff _).2 (h.valid hv i hi).ok,fun h0=>h.rise (i-1) i zO hi⟩
theorem aDu{f:Nat->Nat}{n:Nat}(h:∀i,i<n->f i<=131072)(k:Nat)(hk:k<=n)(hn:n<=64):aF f k<=8388608:=by
 have h1:=yX h k hk;generalize aF f k=x at h1;have h2:k*131072<=64*131072:=Nat.mul_le_mul_right _ zO;omega
def PkR(w:World)(sz:Int)(n:Nat)(L:Nat->aM)(e:Ending)(w':World):Prop:=
 (¬(24<=sz/\sz<=96)/\e=rJ (.tuple #[.slice none 0 0,vI iJ 12])/\Old w w') \/
 ((24<=sz/\sz<=96)/\nX L n≠0/\e=rJ (.tuple #[.slice none 0 0,vI iJ (nX L n)])/\Old w w') \/
 ((24<=sz/\sz<=96)/\nX L n=0/\∃Z,pM L n Z/\aAw w sz.toNat n (aF (aQ (aI Z)) n) (aI Z) (JG sz.toNat Z n) (if 4194304<aJ (aQ (aI Z)) sz.toNat n then 3 else 0) e w')
theorem Tryz.info_rw:(zP.info? 34).map (fun i=>(i.zero,i.size,i.bytes))=some (some (.slice none 0 0),1,24):=zK
theorem aDa(sz:Int)(p:Option Addr)(n cap:Nat)(L:Nat->aM)(w:World)(hs:nE w p n L)(hn:n<=1048576):
  Calls zP 23 #[vI iJ sz,.slice p n cap] w (PkR w sz n L):=by
 by_cases hz:¬(24<=sz/\sz<=96)
 ·have HN:=zH (aFU sz w hz);have HZ:=zH hz;clear hz hs;go_enter func23,ntmps23
  go_wp2_with fail
  refine HN.o.mono ?_;rintro e w1 ⟨rfl,rfl⟩
  go_wp2_with fail
  go_ret2
  exact .inl ⟨HZ.o,rfl,Old.refl _⟩
 obtain⟨z,rfl⟩:∃z:Nat,sz=z:=⟨sz.toNat,zO⟩
 have hz1:24<=z:=zO;have hz2:z<=96:=zO;have HZ:=zH hz;have HNw:=zH (aDQ (z:Int) w zO zO);have HCk:=zH (fun V (hV:Old w V)=>IY p n cap L V (hs.old hV) hn);have HS:=zH hs;by_cases ha:nX L n≠0
 ·have HA:=zH ha;obtain⟨x,hx⟩:=zG (nX L n);rw[<-hx]at HCk ha;have hx2:(x != 0)=true:=by simpa using ha
  have HX:=zH hx;clear hz hs hx ha;go_enter func23,ntmps23
  go_wp2_with fail
  refine HNw.o.mono ?_;rintro e w1 ⟨b,rfl,hb,hbg,ho⟩;have HO:=zH ho;clear ho hb hbg
  go_wp2_with fail
  refine(HCk.o _ HO.o).mono ?_;rintro e w2 ⟨rfl,ho⟩;have HO2:=zH (HO.o.trans ho);clear ho
  go_wp2_with fail
  go_ret2
  exact .inr (.inl ⟨Classical.not_not.1 HZ.o,HA.o,by rw[<-HX.o];rfl,HO2.o⟩)
 obtain⟨hn64,hval,hne⟩:=FR (Classical.not_not.1 ha);have HA:=zH (Classical.not_not.1 ha);have HV:=zH hval;have HDi:=zH (fun V (hV:Old w V)=>ER p n cap L V (hs.old hV) hn64 hne);rw[HA.o]at HCk;obtain⟨ir,hir,hr0,hr1,hr2⟩:=info_parts Tryz.info_rw;clear hz hs ha hval hne hn;go_enter func23,ntmps23
 go_wp2_with fail
 refine HNw.o.mono ?_;rintro e w1 ⟨b,rfl,hb,hbg,ho⟩;have HO1:=zH ho;have HCo:=zH hb;clear ho hb hbg
 go_wp2_with fail
 refine(HCk.o _ HO1.o).mono ?_;rintro e w2 ⟨rfl,ho⟩;have HO2:=zH (HO1.o.trans ho);have HCo2:=zH (HCo.o.old ho);clear ho HCo HO1 HNw HCk
 go_wp2_with fail
 refine(HDi.o _ HO2.o).mono ?_;rintro e w3 ⟨q,c,Z,qm,cm,rfl,hord,hsm,hmt,ho⟩;have HO3:=zH (HO2.o.trans ho);have HCo3:=zH (HCo2.o.old ho);have HOr:=zH hord;have HSm:=zH hsm;have HMt:=zH (show iB w3 qm n (aI Z) from hmt);have HDP:=zH (hord.dir HV.o);have HPl:=zH (sL z qm n cm (aI Z) w3 hz2 hmt hn64 (gL (hord.dir HV.o)));have htb:=MX (n:=n) hz2 hn64 (gL (hord.dir HV.o));obtain⟨T,hT⟩:=zG (aJ (aQ (aI Z)) z n);rw[<-hT]at HPl htb;have HT:=zH hT;have htb1:=htb.1;clear ho hord hsm hmt HO2 HCo2 HDi hT htb
 go_wp2_with fail
 refine HPl.o.mono ?_;rintro e w4 ⟨q2,c2,rfl,_,_,_,ho⟩;have HO4:=zH (HO3.o.trans ho);have HCo4:=zH (HCo3.o.old ho);have HSm4:=zH (HSm.o.old ho);have HMt4:=zH (HMt.o.old ho);clear ho HO3 HCo3 HSm HMt HPl;by_cases hT3:4194304<T
 ·have h4:(4194304:Int)<T:=zO;have H4:=zH hT3;clear hT3
  go_wp2_with fail
  go_ret2
  refine .inr (.inr ⟨Classical.not_not.1 HZ.o,HA.o,Z,HOr.o,.inl ⟨?_,?_,HO4.o⟩⟩)
  ·rw[Int.toNat_natCast,<-HT.o,if_pos H4.o];omega
  ·rw[Int.toNat_natCast,<-HT.o,if_pos H4.o];rfl
 have h4:¬(4194304:Int)<T:=zO;have H4:=zH hT3;clear hT3;have hle:∀i,i<n->(aI Z i).fr<=131072:=fun i hi=>(gL HDP.o i hi).fr_le.2;have HLe:=zH hle;have HO0:Hid (ownX (fun q=>q<w4.heap.size) w4 34 (.slice none 0 0) (aF (aQ (aI Z)) 0) []):=zH (ownX.nil _ _ _);have HP0:Hid (PkV w4 (.slice none 0 0) z (aF (aQ (aI Z)) 0) [] (JG z Z 0)):=zH fun j hj=>absurd hj (Nat.not_lt_zero _);have HR0:=zH (Old.refl w4);clear hle
 go_wp2_with fail
 go_loopw [13,46] (fun fv iv wr=>∃(k:Nat) (vs:List Value),k<=n/\iv=vI iJ k/\Hid (ownX (fun q=>q<w4.heap.size) wr 34 fv (aF (aQ (aI Z)) k) vs)/\Hid (PkV wr fv z (aF (aQ (aI Z)) k) vs (JG z Z k))/\Hid (Old w4 wr)) (fun _ i _=>n-(intOf i).toNat)
 case atStart=>exact⟨0,_,Nat.zero_le _,by go_num,HO0,HP0,HR0⟩
 case round=>
  clear HO0 HP0 HR0;obtain⟨k,vs,hk,rfl,HOw,HPk,HO⟩:=hrel;obtain⟨v,rfl⟩:=zG (u13);by_cases hkn:k<n
  ·obtain⟨gs,o,rfl,hgs,hcs⟩:=(HSm4.o.old HO.o).cell zO;obtain⟨S,hS⟩:=zG (Z k);have hck:=hcs k hkn;rw[<-hS]at hck;have c0:wr.cell? ⟨gs,o+k*6,none⟩=some (.string S.s):=hck 0 _ rfl;have c1:wr.cell? ⟨gs,o+k*6+1,none⟩=some (vI iJ S.r):=hck 1 _ rfl;have c2:wr.cell? ⟨gs,o+k*6+2,none⟩=some (.bool S.lp):=hck 2 _ rfl;have c3:wr.cell? ⟨gs,o+k*6+3,none⟩=some (vI iJ S.a):=hck 3 _ rfl;have c4:wr.cell? ⟨gs,o+k*6+4,none⟩=some (vI iJ S.b):=hck 4 _ rfl;have c5:wr.cell? ⟨gs,o+k*6+5,none⟩=some (.slice S.p S.n S.c):=hck 5 _ rfl;have hok:jB w4 S:=by rw[hS];exact HSm4.o.ok k hkn
   have hvl:EC S:=by rw[hS];exact HOr.o.valid HV.o k hkn
   have ho3:Old w4 (wr.alloc (.cells S.cells 133)):=HO.o.alloc' _;have HFo:=zH (IM b z S (wr.alloc (.cells S.cells 133)) (HCo4.o.old ho3) hz1 hz2 (hok.old ho3) hvl);have HOa:=zH (HOw.o.old (Old.alloc wr (.cells S.cells 133)));have HPa:=zH (HPk.o.on (Old.alloc wr (.cells S.cells 133)));have HOo:=zH ho3;have hfr:(sC S).fr<=131072:=by rw[hS];exact HLe.o k hkn
   have hof:aF (aQ (aI Z)) k<=8388608:=aDu HLe.o k hk hn64;have HSk:=zH hS;have HB:=zH (And.intro hfr hof);unfold aM.cells at HFo HOa HPa HOo;have i0:(0:Int)<=k:=zO;have i1:(k:Int)<n:=zO;clear hck hcs hgs hS hok hvl ho3 hfr hof HOw HPk HO
   go_wp2_with fail
   refine HFo.o.mono ?_;rintro e V ⟨g,rfl,hfw⟩;have hlt:=HOa.o.lt;obtain⟨news,hl,hnw,h1c,hpn⟩:=hfw.news v hlt;have hO2:=HOa.o.old hfw.old;have HP2:=zH (HPa.o.on hfw.old);have HOv:=zH (HOo.o.trans hfw.old);have HOM:=zH (show ownX (fun q=>q<V.heap.size/\v.ownBlock≠some q) V 34 v (aF (aQ (aI Z)) k) vs from hO2.mono fun q hq h=>h.2 hq);have HX0:=zH hO2.2;have HNl:=zH hl;have HNw:=zH hnw;have HN1:=zH h1c;have HNp:=zH hpn;obtain⟨fr,hfr⟩:∃f,f=(sC S).fr:=⟨_,rfl⟩
   obtain⟨N,hN⟩:=zG (aF (aQ (aI Z)) k);rw[<-hfr]at HNl HNp HB |-;rw[<-hN]at HOM HP2 HB;have HN':Hid (aF (aQ (aI Z)) (k+1)=N+fr):=zH (by rw[hN,hfr,HSk.o];rfl);have HBt:Hid (JG z Z (k+1)=fun j=>if j<N then JG z Z k j else frB z S (j-N)):=zH (by rw[hN,HSk.o];rfl);have hb1:=HB.o.1;have hb2:=HB.o.2;have hvl:vs.length=N:=HOM.o.1.1.trans (Nat.mul_one N);have HVl:=zH hvl;clear hlt hl hnw h1c hpn hO2 hfw HOa HPa HOo HFo hfr hN hvl c0 c1 c2 c3 c4 c5
   go_wp2_with (at_builtin;refine fL _ rfl _ _ 130 rfl (fun q=>q<V.heap.size/\v.ownBlock≠some q) 34 ir (.slice none 0 0) 24 underlying130 hir hr0 hr1 hr2 rfl _ _ _ rfl HOM.o ⟨g,0,none⟩ fr fr news rfl HNl.o HNw.o HN1.o (by unfold maxLen;omega) zO (fun q hq=>hq.1) ?_;intro v' V2 hown2 hk2 hv2;have HR:=zH (And.intro hown2 (And.intro hk2 hv2));clear hown2 hk2 hv2)
   have ho5:Old w4 V2:=HOv.o.after HR.o.2.1 fun q hq=>⟨Nat.lt_of_lt_of_le hq HOv.o.size,fun e=>HX0.o q e hq⟩
   have HO5:=zH ho5;have HOw5:Hid (ownX (fun q=>q<w4.heap.size) V2 34 v' (aF (aQ (aI Z)) (k+1)) (vs ++ news)):=zH (by
    rw[HN'.o];refine HR.o.1.mono fun q hq hlt=>?_;rcases HR.o.2.2 q hq with h | h
    ·exact HX0.o q h hlt
    ·have:=HOv.o.size;omega)
   have HPk5:Hid (PkV V2 v' z (aF (aQ (aI Z)) (k+1)) (vs ++ news) (JG z Z (k+1))):=zH (by
    rw[HN'.o,HBt.o];exact HP2.o.snoc HNp.o HVl.o HR.o.2.1 HR.o.2.2)
   clear ho5 HR HOM HP2 HNp
   go_wp2_with fail
   go_roundw
   case rel=>exact⟨k+1,_,zO,by go_num,HOw5,HPk5,HO5⟩
   case measure=>exact zM
  ·obtain rfl:k=n:=zO;obtain⟨fp,fc,Q,C,rfl,hrw⟩:=aGZ HPk.o HOw.o (fun j _=>KT z Z k j);have hK:aF (aQ (aI Z)) k<=8388608:=aDu HLe.o k hk hn64;have HBu:=zH (aAH (z:Int) qm k cm (aI Z) fp (aF (aQ (aI Z)) k) fc Q (fun _=>z) C (JG z Z k) wr (HMt4.o.old HO.o) hn64 hrw (Nat.le_trans hK zD));have HOe:=zH (HO4.o.trans HO.o);have hbl:vH z (aI Z) k (aF (aQ (aI Z)) k) (fun _=>z)=0:=by
    unfold vH;rw[if_neg HZ.o,if_neg (Classical.not_not.2 HDP.o),if_neg (Classical.not_not.2 ⟨rfl,fun j _=>rfl⟩),Int.toNat_natCast,<-HT.o,if_neg H4.o]
   rw[hbl]at HBu;have HEnd:=zH (fun e V (h:aAw wr (z:Int).toNat k (aF (aQ (aI Z)) k) (aI Z) (JG z Z k) 0 e V)=>(show PkR w z k L e V from .inr (.inr ⟨Classical.not_not.1 HZ.o,HA.o,Z,HOr.o,by
    have h:=h.lift HOe.o;rw[Int.toNat_natCast]at h |-;rw[<-HT.o,if_neg H4.o];exact h⟩)))
   obtain⟨K,hKK⟩:=zG (aF (aQ (aI Z)) k);rw[<-hKK]at HBu HEnd |-;clear hrw hK hbl HPk HOw hKK
   go_wp2_with fail
   refine HBu.o.mono ?_;rintro e V (⟨h1,rfl,h3⟩ | ⟨h1,g,rfl,h3⟩)
   ·exact absurd rfl h1
   have HF:=zH (HEnd.o _ _ (.inr ⟨h1,g,rfl,h3⟩));clear h1 h3 HEnd;generalize aJ (aQ (aI Z)) (z:Int).toNat k=TT at *
   go_wp2_with fail
   go_ret2
   exact HF.o
theorem xE.size_{w:World}{bb sz n N:Nat}{q:Option Addr}{c:Nat}{im:Option Addr}{ci:Nat}{D:Nat->Mt}{F:nI}(h:xE w bb sz n N q c im ci D F):
  w.cell? ⟨bb,0,none⟩=some (vI iJ sz)/\w.cell? ⟨bb,1,none⟩=some (.slice q n c)/\w.cell? ⟨bb,2,none⟩=some (.slice im N ci):=by
 have:=h.blk;simp[World.cell?,this]
theorem EF{w w':World}{e:Ending}{sz n K:Nat}{D:Nat->Mt}{B:Nat->Nat->Int}{F:nI}(h24:24<=sz)(h96:sz<=96)(hn:n<=64)(hd:nH D n)
  (hld:Ld (aQ D) sz n B (cC (aJ (aQ D) sz n:Nat) n sz (eE D sz n)) K F) (hP:aBk w F (aJ (aQ D) sz n) e w'):
  ∃bb q c im ci,e=rJ (.tuple #[.pointer (some ⟨bb,0,none⟩),vI iJ 0])/\xE w' bb sz n (aJ (aQ D) sz n) q c im ci (eE D sz n) F/\Old w w'/\∀x,bkX bb q n im (aJ (aQ D) sz n) x->w.heap.size<=x:=by
 obtain⟨f1,f2,f3,f4⟩:=QN h24 h96 hn hd hld.front;rcases hP with ⟨h1,_⟩ | ⟨_,⟨er,_,_,h1,_⟩ | ⟨bb,q,c,im,ci,E,rfl,hb,hbd,ho,hnw⟩⟩
 ·exact absurd f1 h1
 ·exact absurd f4 (h1 _)
 ·refine⟨bb,q,c,im,ci,rfl,?_,ho,by rw[f2]at hnw;exact hnw⟩;have e:=hbd.one f4;rw[f2]at e;rw[f2,f3]at hb;exact⟨hb.blk,hb.dir.ext e,hb.d1,hb.d2,hb.img,hb.i1,hb.i2⟩
theorem aDv{N:Nat}{sz n K:Nat}{D:Nat->Mt}{B:Nat->Nat->Int}{F:nI}{len:Int}(hld:Ld (aQ D) sz n B (cC len n sz (eE D sz n)) K F)(hB:∀i,i<K->lS (B i) sz):lS F N:=
 hld.byt (fun p _=>XW _ _ _ _ _) hB N
theorem BZ(bb sz n N:Nat)(q:Option Addr)(c:Nat)(im:Option Addr)(ci:Nat)(D:Nat->Mt)(F:nI)(w:World)(h:xE w bb sz n N q c im ci D F)(h0:0<sz)(hn:n<=64)(k:Nat)(hk:k<n):
  Calls zP 31 #[.pointer (some ⟨bb,0,none⟩),vI iJ k] w fun e w'=>e=rJ (.tuple #[.agg (D k).cells,vI iJ 0])/\Old w w':=by
 have Hs9:Hid ((zP.info? 90).map (·.size)=some 9):=zH zK;obtain⟨W,hW⟩:=zG (w.alloc (.cells rU 90));obtain⟨b0,hb0⟩:∃b,b=w.heap.size:=⟨_,rfl⟩
 have HO:=zH (show Old w W by rw[hW];exact Old.alloc _ _);have hB:=h.old HO.o;have HMd:=zH (FB bb sz W hB.size_.1 zO);obtain⟨gd,o,rfl,hgd,hcs⟩:=hB.dir.cell zO;obtain⟨m,hm⟩:=zG (D k);have hck:=hcs k hk;rw[<-hm]at hck |-;have c0:W.cell? ⟨gd,o+k*9,none⟩=some (.string m.s):=hck 0 _ rfl;have c1:W.cell? ⟨gd,o+k*9+1,none⟩=some (vI iJ m.n):=hck 1 _ rfl;have c2:W.cell? ⟨gd,o+k*9+2,none⟩=some (vI iJ m.r):=hck 2 _ rfl;have c3:W.cell? ⟨gd,o+k*9+3,none⟩=some (vI iJ m.c):=hck 3 _ rfl;have c4:W.cell? ⟨gd,o+k*9+4,none⟩=some (.bool m.lp):=hck 4 _ rfl;have c5:W.cell? ⟨gd,o+k*9+5,none⟩=some (vI iJ m.a):=hck 5 _ rfl;have c6:W.cell? ⟨gd,o+k*9+6,none⟩=some (vI iJ m.b):=hck 6 _ rfl;have c7:W.cell? ⟨gd,o+k*9+7,none⟩=some (vI iJ m.x):=hck 7 _ rfl;have c8:W.cell? ⟨gd,o+k*9+8,none⟩=some (vI iJ m.y):=hck 8 _ rfl;have d1:=hB.size_.2.1;have i0:(0:Int)<=k:=zO;have i1:(k:Int)<n:=zO;have e0:decide ((k:Int)<0)=false:=decide_eq_false zO;have e1:decide ((n:Int)<=k)=false:=decide_eq_false zO;have HW:=zH hW;have HB0:=zH hb0;have HBz:Hid (W.heap[b0]?=some (.cells rU 90 (0,0))):=zH (by rw[hW,hb0];exact heap_alloc_new _ _);have HBg:Hid (w.heap.size<=b0):=zH zO;have H1x:=zH (Mt.one m);unfold rU at HW HBz;unfold Mt.cells at H1x |-;clear h hB hck hcs hgd hm hW hb0;go_enter func31,ntmps31
 go_wp2_with fail
 rw[<-HW.o,<-HB0.o];refine HMd.o.mono ?_;rintro e V ⟨rfl,hWV⟩;subst hWV
 go_wp2_with (with_reducible refine wpList_store_row rfl 90 _ _ rfl b0 _ rfl rfl 90 _ HBz.o zK zK H1x.o ?_)
 have hrr:=bS (w:=w) HBz.o HO.o HBg.o m.cells;unfold Mt.cells at hrr;refine bodyPost_ret (bV rfl _ _ b0 90 _ (0,0) _ rfl hrr.1 underlying90 rfl Hs9.o) rfl ?_;exact⟨rfl,hrr.2⟩
theorem CI(bb sz n N:Nat)(q:Option Addr)(c:Nat)(im:Option Addr)(ci:Nat)(D:Nat->Mt)(F:nI)(w:World)(h:xE w bb sz n N q c im ci D F)(h0:0<sz)(i:Int)(hi:i<0\/(n:Int)<=i):
  Calls zP 31 #[.pointer (some ⟨bb,0,none⟩),vI iJ i] w fun e w'=>e=rJ (.tuple #[.agg rU,vI iJ 7])/\Old w w':=by
 have Hs9:Hid ((zP.info? 90).map (·.size)=some 9):=zH zK;have hO:=Old.alloc w (.cells rU 90);have hB:=h.old hO;have HMd:=zH (FB bb sz _ hB.size_.1 zO);have d1:=hB.size_.2.1;have HO:=zH hO;unfold rU at *;by_cases hi0:i<0
 ·have e0:decide (i<0)=true:=decide_eq_true hi0;clear h hB hO hi;go_enter func31,ntmps31
  go_wp2_with fail
  refine HMd.o.mono ?_;rintro e V ⟨rfl,hv⟩;subst hv
  go_wp2_with fail
  refine bodyPost_ret (bV rfl _ _ w.heap.size 90 _ (0,0) _ rfl (heap_alloc_new _ _) underlying90 rfl Hs9.o) rfl ?_;exact⟨rfl,HO.o⟩
 ·have e0:decide (i<0)=false:=decide_eq_false hi0;have e1:decide ((n:Int)<=i)=true:=decide_eq_true zO;have e2:(n:Int)<=i:=zO;clear h hB hO hi;go_enter func31,ntmps31
  go_wp2_with fail
  refine HMd.o.mono ?_;rintro e V ⟨rfl,hv⟩;subst hv
  go_wp2_with fail
  refine bodyPost_ret (bV rfl _ _ w.heap.size 90 _ (0,0) _ rfl (heap_alloc_new _ _) underlying90 rfl Hs9.o) rfl ?_;exact⟨rfl,HO.o⟩
theorem JU(bb sz n N:Nat)(q:Option Addr)(c:Nat)(im:Option Addr)(ci:Nat)(D:Nat->Mt)(F:nI)(w:World)(h:xE w bb sz n N q c im ci D F)(h0:0<sz)(i ch:Int)(hi:i<0\/(n:Int)<=i):
  Calls zP 33 #[.pointer (some ⟨bb,0,none⟩),vI iJ i,vI iJ ch] w fun e w'=>e=rJ (.tuple #[.agg rU,vI iJ 7])/\Old w w':=by
 have Hs9:Hid ((zP.info? 90).map (·.size)=some 9):=zH zK;obtain⟨W0,hW0⟩:∃W,W=w.alloc (.cells rU 90):=⟨_,rfl⟩
 obtain⟨b0,hb0⟩:∃b,b=w.heap.size:=⟨_,rfl⟩
 have HO:=zH (show Old w W0 by rw[hW0];exact Old.alloc _ _);have HB:=zH (show W0.heap[b0]?=some (.cells rU 90 (0,0)) by rw[hW0,hb0];exact heap_alloc_new _ _);have HBg:Hid (w.heap.size<=b0):=zH zO;have HS:=zH (CI bb sz n N q c im ci D F W0 (h.old HO.o) h0 i hi);have H1x:Hid ((rU).all (·.oneCell')=true):=zH zK;clear h hi;unfold rU at *;have HW0:=zH hW0;have HB0:=zH hb0;clear hW0 hb0;go_enter func33,ntmps33
 go_wp2_with fail
 rw[<-HW0.o,<-HB0.o];refine HS.o.mono ?_;rintro e V ⟨rfl,ho⟩;have HO2:=zH (HO.o.trans ho);have HB2:=zH ((ho.block _ (lt_of_block HB.o)).trans HB.o);clear ho HO HB HW0 HB0 HS;have HB3:=zH (fun o=>((Old.alloc V o).block _ (lt_of_block HB2.o)).trans HB2.o)
 go_wp2_with (with_reducible refine wpList_store_row rfl 90 _ _ rfl b0 _ rfl rfl 90 _ (HB3.o _) zK zK H1x.o ?_)
 have hrr:=bS (w:=w) (HB3.o (.cells rU 90)) (HO2.o.alloc' _) HBg.o rU;unfold rU at hrr;refine bodyPost_ret (bV rfl _ _ b0 90 _ (0,0) _ rfl hrr.1 underlying90 rfl Hs9.o) rfl ?_;exact⟨rfl,hrr.2⟩
theorem CF(bb sz n N:Nat)(q:Option Addr)(c:Nat)(im:Option Addr)(ci:Nat)(D:Nat->Mt)(F:nI)(w:World)(h:xE w bb sz n N q c im ci D F)(h0:0<sz)(hn:n<=64)(k:Nat)(hk:k<n)(ch:Int)(hch:0<=ch/\ch<(D k).c):
  Calls zP 33 #[.pointer (some ⟨bb,0,none⟩),vI iJ k,vI iJ ch] w fun e w'=>e=rJ (.tuple #[.agg (D k).cells,vI iJ 0])/\Old w w':=by
 have Hs9:Hid ((zP.info? 90).map (·.size)=some 9):=zH zK;obtain⟨W0,hW0⟩:∃W,W=w.alloc (.cells rU 90):=⟨_,rfl⟩
 obtain⟨b0,hb0⟩:∃b,b=w.heap.size:=⟨_,rfl⟩
 have HO:=zH (show Old w W0 by rw[hW0];exact Old.alloc _ _);have HB:=zH (show W0.heap[b0]?=some (.cells rU 90 (0,0)) by rw[hW0,hb0];exact heap_alloc_new _ _);have HBg:Hid (w.heap.size<=b0):=zH zO;have HS:=zH (BZ bb sz n N q c im ci D F W0 (h.old HO.o) h0 hn k hk);obtain⟨m,hm⟩:=zG (D k);rw[<-hm]at HS hch |-;have H1x:=zH (Mt.one m);have H1z:Hid ((rU).all (·.oneCell')=true):=zH zK;have e0:decide (ch<0)=false:=decide_eq_false zO;have e1:decide (m.c<=ch)=false:=decide_eq_false zO;clear h hm hk;unfold rU at *;unfold Mt.cells at *;have HW0:=zH hW0;have HB0:=zH hb0;clear hW0 hb0;go_enter func33,ntmps33
 go_wp2_with fail
 rw[<-HW0.o,<-HB0.o];refine HS.o.mono ?_;rintro e V ⟨rfl,ho⟩;have HO2:=zH (HO.o.trans ho);have HB2:=zH ((ho.block _ (lt_of_block HB.o)).trans HB.o);clear ho HO HB HW0 HB0 HS;have HB3:=zH (fun o=>((Old.alloc V o).block _ (lt_of_block HB2.o)).trans HB2.o)
 go_wp2_with (with_reducible refine wpList_store_row rfl 90 _ _ rfl b0 _ rfl rfl 90 _ (HB3.o _) zK zK H1x.o ?_)
 have hrr:=bS (w:=w) (HB3.o (.cells m.cells 90)) (HO2.o.alloc' _) HBg.o m.cells;unfold Mt.cells at hrr;refine bodyPost_ret (bV rfl _ _ b0 90 _ (0,0) _ rfl hrr.1 underlying90 rfl Hs9.o) rfl ?_;exact⟨rfl,hrr.2⟩
theorem DV(bb sz n N:Nat)(q:Option Addr)(c:Nat)(im:Option Addr)(ci:Nat)(D:Nat->Mt)(F:nI)(w:World)(h:xE w bb sz n N q c im ci D F)(h0:0<sz)(hn:n<=64)(k:Nat)(hk:k<n)(ch:Int)(hch:ch<0\/(D k).c<=ch):
  Calls zP 33 #[.pointer (some ⟨bb,0,none⟩),vI iJ k,vI iJ ch] w fun e w'=>e=rJ (.tuple #[.agg rU,vI iJ 5])/\Old w w':=by
 have Hs9:Hid ((zP.info? 90).map (·.size)=some 9):=zH zK;obtain⟨W0,hW0⟩:∃W,W=w.alloc (.cells rU 90):=⟨_,rfl⟩
 obtain⟨b0,hb0⟩:∃b,b=w.heap.size:=⟨_,rfl⟩
 have HO:=zH (show Old w W0 by rw[hW0];exact Old.alloc _ _);have HB:=zH (show W0.heap[b0]?=some (.cells rU 90 (0,0)) by rw[hW0,hb0];exact heap_alloc_new _ _);have HBg:Hid (w.heap.size<=b0):=zH zO;have HS:=zH (BZ bb sz n N q c im ci D F W0 (h.old HO.o) h0 hn k hk);obtain⟨m,hm⟩:=zG (D k);rw[<-hm]at HS hch ;have H1x:=zH (Mt.one m);have H1z:Hid ((rU).all (·.oneCell')=true):=zH zK;have HCh:=zH hch;clear h hm hk;unfold rU at *;unfold Mt.cells at *;have HW0:=zH hW0;have HB0:=zH hb0;clear hW0 hb0;go_enter func33,ntmps33
 go_wp2_with fail
 rw[<-HW0.o,<-HB0.o];refine HS.o.mono ?_;rintro e V ⟨rfl,ho⟩;have HO2:=zH (HO.o.trans ho);have HB2:=zH ((ho.block _ (lt_of_block HB.o)).trans HB.o);clear ho HO HB HW0 HB0 HS;have HB3:=zH (fun o=>((Old.alloc V o).block _ (lt_of_block HB2.o)).trans HB2.o);have hc:=HCh.o;by_cases hc0:ch<0
 ·have e0:decide (ch<0)=true:=decide_eq_true hc0;clear hc hch
  go_wp2_with (with_reducible refine wpList_store_row rfl 90 _ _ rfl b0 _ rfl rfl 90 _ (HB3.o _) zK zK H1z.o ?_)
  have hrr:=bS (w:=w) (HB3.o (.cells m.cells 90)) (HO2.o.alloc' _) HBg.o rU;unfold Mt.cells rU at hrr;refine bodyPost_ret (bV rfl _ _ b0 90 _ (0,0) _ rfl hrr.1 underlying90 rfl Hs9.o) rfl ?_;exact⟨rfl,hrr.2⟩
 ·have e0:decide (ch<0)=false:=decide_eq_false hc0;have e1:decide (m.c<=ch)=true:=decide_eq_true zO;have e2:m.c<=ch:=zO;clear hc hch
  go_wp2_with (with_reducible refine wpList_store_row rfl 90 _ _ rfl b0 _ rfl rfl 90 _ (HB3.o _) zK zK H1z.o ?_)
  have hrr:=bS (w:=w) (HB3.o (.cells m.cells 90)) (HO2.o.alloc' _) HBg.o rU;unfold Mt.cells rU at hrr;refine bodyPost_ret (bV rfl _ _ b0 90 _ (0,0) _ rfl hrr.1 underlying90 rfl Hs9.o) rfl ?_;exact⟨rfl,hrr.2⟩
theorem aDJ(S:Int)(h0:0<=S)(h1:S<4294967296):IntKind.u32.wrap S=S:=by
 show S%4294967296=S;omega
theorem UV(bb sz n N:Nat)(q:Option Addr)(c:Nat)(im:Option Addr)(ci:Nat)(D:Nat->Mt)(F:nI)(w:World)(h:xE w bb sz n N q c im ci D F)(h96:sz<=96)(hby:lS F N)(m:Mt)(A Y k:Nat)(hx:m.x=A)(hy:m.y=Y)(hk:k<=131072)(hA:A+4*k+4<=N)(hN:N<=1099511627776)(hY:Y<=1099511627776):
  Calls zP 69 #[.pointer (some ⟨bb,0,none⟩),.agg m.cells,vI iJ k] w fun e w'=>e=rJ (.tuple #[vI iJ (Y+k*sz:Nat),.int .u32 (aO (fun j=>F (A+4*k+j)) 4)])/\Old w w':=by
 obtain⟨b1,hb1⟩:∃b,b=w.heap.size:=⟨_,rfl⟩
 obtain⟨W,hW⟩:=zG (w.alloc (.cells m.cells 90));have ho:Old w W:=by rw[hW];exact Old.alloc _ _
 have hm:GN W b1 m:=by rw[hW,hb1];exact GN.new w m
 have hB:=h.old ho;obtain⟨g,o,rfl,hg,hcs⟩:=hB.img zO;obtain⟨u,P,v,R,hu,hP,hv,hR,hw1,hw2⟩:=WJ A Y k sz zO hY hk h96;have HW1:=zH hw1;have HW2:=zH hw2;clear hw1 hw2;have eP:A+4*k=P:=zO;have eR:Y+k*sz=R:=zO;rw[eP,eR];have hPN:P+4<=N:=zO;have hsl:SlU W (some ⟨g,o+P,none⟩) 4 (fun j=>F (P+j)):=fun _=>⟨g,o+P,rfl,hg,fun j hj=>by rw[Nat.add_assoc];exact hcs (P+j) zO⟩
 have hbd:lS (fun j=>F (P+j)) 4:=fun j hj=>hby _ zO;have hi1:=hB.i1;obtain⟨LP,hLP⟩:∃L,L=N-P:=⟨_,rfl⟩
 obtain⟨CP,hCP⟩:∃L,L=ci-P:=⟨_,rfl⟩
 have hc1:∀w',(Instr.sliceAt 34 (.slice (some ⟨g,o,none⟩) N ci) (some (vI iJ P)) none none).run zP w'=.ok (.slice (some ⟨g,o+P,none⟩) LP CP) w':=fun w'=>by
  rw[hLP,hCP];exact vS g o N ci P zO zO w'
 have hc2:∀w',(Instr.sliceAt 34 (.slice (some ⟨g,o+P,none⟩) LP CP) none (some (vI iJ (4:Nat))) none).run zP w'=.ok (.slice (some ⟨g,o+P,none⟩) 4 CP) w':=fun w'=>DO g (o+P) LP CP 4 zO zO w';obtain⟨S,hS⟩:=zG (aO (fun j=>F (P+j)) 4);have hSb:0<=S/\S<4294967296:=by
  have h4:=pH hbd;rw[<-hS]at h4;have e4:(256:Int) ^ 4=4294967296:=zD;rw[e4]at h4;exact h4
 have HG:=zH (fun V (hV:Old W V)=>kR (some ⟨g,o+P,none⟩) 4 CP (fun j=>F (P+j)) V zO (hsl.old hV) hbd);rw[<-hS]at HG |-;have HE3:Hid (IntKind.u32.wrap S=S):=zH (aDJ S hSb.1 hSb.2);have d7:W.cell? ⟨b1,7,none⟩=some (vI iJ (A:Int)):=by rw[<-hx];exact hm.at_ 7
 have d8:W.cell? ⟨b1,8,none⟩=some (vI iJ (Y:Int)):=by rw[<-hy];exact hm.at_ 8
 have k0:=hB.size_.1;have k2:=hB.size_.2.2;have HK:=zH (And.intro d7 (And.intro d8 (And.intro k0 k2)));have HW:=zH hW;have HB1:=zH hb1;have HO:=zH ho;unfold Mt.cells at HW |-;have i4:(4:Int)<=CP:=zO;clear hb1 hW ho hm hB h hu hP hv hR eP eR hPN hsl hbd hi1 hLP hCP hS hcs hx hy hA hby;go_enter func69,ntmps69
 go_wp2_with fail
 rw[<-HW.o,<-HB1.o];obtain⟨e1,e2,f1,f2⟩:=HW1.o;refine wp_region_held_drew (S:=(fun V=>V.cell? ⟨b1,7,none⟩=some (vI iJ (A:Int))/\V.cell? ⟨bb,2,none⟩=some (.slice (some ⟨g,o,none⟩) N ci))) zK ?_ (fun hHeld=>?_)
 ·(try dsimp only);exact⟨HK.o.1,HK.o.2.2.2⟩
 refine (uU 0) ((uU 1) ((uU 2) ((uU 3) ((uU 4) ((uU 5) ((uU 6) ((uU 7) ((uU 8) ((uU 9) ((uU 10) ?_))))))))));refine wpR 11 rfl (fun K hK=>?_);go_simp;refine(HG.o _ ((Old.refl W).drew)).mono ?_;rintro e V ⟨rfl,hv⟩;subst hv
 go_wp2_with fail
 refine hK.out _ _ ?_ (fun hHeld=>?_)
 ·(try dsimp only);exact⟨HK.o.1,HK.o.2.2.2⟩
 clear hK K;refine (uU 12) ?_;refine wpAnyH_done zK ?_ _;clear e1 e2 f1 f2
 go_wp2_with fail
 obtain⟨e1,e2,f1,f2⟩:=HW2.o;have e3:=HE3.o;refine wp_region_held_drew (S:=(fun V=>V.cell? ⟨b1,8,none⟩=some (vI iJ (Y:Int))/\V.cell? ⟨bb,0,none⟩=some (vI iJ (sz:Int)))) zK ?_ (fun hHeld=>?_)
 ·(try dsimp only);exact⟨HK.o.2.1,HK.o.2.2.1⟩
 refine (uU 0) ((uU 1) ((uU 2) ((uU 3) ((uU 4) ((uU 5) ((uU 6) ((uU 7) ((uU 8) ((uU 9) ((uU 10) ((uU 11) ((uU 12) ?_))))))))))));refine wpAnyH_done zK ?_ _;clear e1 e2 f1 f2 e3
 go_wp2_with fail
 go_ret2
 exact⟨rfl,(HO.o.drew).drew⟩
theorem aAC(bb sz n N:Nat)(q:Option Addr)(c:Nat)(im:Option Addr)(ci:Nat)(D:Nat->Mt)(F:nI)(w:World)(h:xE w bb sz n N q c im ci D F)(h24:24<=sz)(h96:sz<=96)(hby:lS F N)(hn:n<=64)(k:Nat)(hk:k<n)(hok:(D k).OkR)(C ch bl A Y:Nat)(hC:(D k).c=C)(hch:ch<C)(hbl:bl<cW (D k).n.toNat)(hx:(D k).x=A)(hy:(D k).y=Y)(hA:A+4*(bl*C+ch)+4<=N)(hN:N<=1099511627776)(hY:Y<=1099511627776):
  Calls zP 122 #[.pointer (some ⟨bb,0,none⟩),vI iJ k,vI iJ ch,vI iJ bl] w fun e w'=>e=rJ (.tuple #[vI iJ (Y+(bl*C+ch)*sz:Nat),.int .u32 (aO (fun j=>F (A+4*(bl*C+ch)+j)) 4),vI iJ 0])/\Old w w':=by
 have Hs9:Hid ((zP.info? 90).map (·.size)=some 9):=zH zK;have HMo:=zH (CF bb sz n N q c im ci D F w h zO hn k hk ch ⟨zO,zO⟩);obtain⟨m,hm⟩:=zG (D k);rw[<-hm]at HMo hok hC hbl hx hy;have n1:=hok.n1;have n2:=hok.n2;have k2:=hok.c2;have HCn:=zH (fun w=>iO m.n w zO zO);have hcn:lR m.n=((cW m.n.toNat:Nat):Int):=by
  have:=nY m.n.toNat
  rw[Int.toNat_of_nonneg zO]at this;exact this
 rw[hcn]at HCn;have hcb:cW m.n.toNat<=65536:=by unfold cW;omega
 obtain⟨T,hT⟩:=zG (cW m.n.toNat);rw[<-hT]at HCn hcb hbl;have hC2:C<=2:=zO;obtain⟨r,hr⟩:=zG (bl*C+ch);have hrb:r<=131072:=by
  have h1:(bl+1)*C<=65536*2:=Nat.mul_le_mul zO hC2;rw[Nat.add_mul,Nat.one_mul]at h1;omega
 have HNu:Hid (∀V,Calls zP 36 #[.agg m.cells,vI iJ ch,vI iJ bl] V fun e w'=>e=rJ (vI iJ (r:Nat))/\Old V w'):=zH fun V=>by
  rw[hr];exact CY m C ch bl V hC hC2 zO zO
 rw[<-hr]at hA |-;have HPl:=zH (fun V (hV:Old w V)=>UV bb sz n N q c im ci D F V (h.old hV) h96 hby m A Y r hx hy hrb hA hN hY);obtain⟨at_,hat⟩:∃a,a=Y+r*sz:=⟨_,rfl⟩
 obtain⟨S,hS⟩:=zG (aO (fun j=>F (A+4*r+j)) 4);rw[<-hat,<-hS]at HPl |-;obtain⟨X,hX⟩:=zG (m.cells);have HX:=zH hX;have HX9:Hid (X.size=9):=zH (by rw[hX];rfl);have HX1:Hid (X.all (·.oneCell')=true):=zH (by rw[hX];exact Mt.one _);have HXn:Hid (X[1]?=some (vI iJ m.n)):=zH (by rw[hX];rfl);rw[<-hX]at HMo HNu HPl;have e0:decide ((bl:Int)<0)=false:=decide_eq_false zO;have e1:decide ((T:Int)<=bl)=false:=decide_eq_false zO;clear hX hS hat hr hT hcn hm hx hy hA hok hC hby h n1 n2 k2;go_enter func122,ntmps122
 go_wp2_with fail
 refine HMo.o.mono ?_;rintro e V ⟨rfl,ho⟩;obtain⟨b1,hb1⟩:∃b,b=V.heap.size:=⟨_,rfl⟩
 obtain⟨W,hW⟩:=zG (V.alloc (.cells X 90));have HO:=zH (show Old w W by rw[hW];exact ho.alloc' _);have HBx:=zH (show W.heap[b1]?=some (.cells X 90 (0,0)) by rw[hW,hb1];exact heap_alloc_new _ _);have c1:W.cell? ⟨b1,1,none⟩=some (vI iJ m.n):=(cell_of_row _ _ _ _ _ _ HBx.o).trans HXn.o;have HW:=zH hW;have HB1:=zH hb1;clear hb1 hW ho HMo
 go_wp2_with (with_reducible refine wpList_store_row rfl 90 _ _ rfl V.heap.size X rfl rfl 90 _ (heap_alloc_new _ _) (by rw[HX9.o];exact Hs9.o) (by rw[HX9.o];kernel_rfl) HX1.o ?_;rw[World.setRow_alloc_new,<-HW.o,<-HB1.o])
 refine(HCn.o _).mono ?_;rintro e V2 ⟨rfl,hv⟩;subst hv
 go_wp2_with fail
 have HBd:Hid (W.drew.heap[b1]?=some (.cells X 90 (0,0))):=zH HBx.o;refine wp_region_held_drew (S:=(fun V=>V.heap[b1]?=some (.cells X 90 (0,0)))) zK ?_ (fun hHeld=>?_)
 ·(try dsimp only);exact HBd.o
 refine (uU 0) ?_;refine (uT 1 (v:=.agg X) rfl (aG zK 90 (.tmp 11) rfl b1 rfl 90 X (0,0) _ (fun _ h=>h) underlying90 rfl (by rw[HX9.o];exact Hs9.o))) ?_;refine (uT 2 (v:=.agg X) rfl (aG zK 90 (.tmp 11) rfl b1 rfl 90 X (0,0) _ (fun _ h=>h) underlying90 rfl (by rw[HX9.o];exact Hs9.o))) ?_;refine (uU 3) ((uU 4) ?_);refine wpR 5 rfl (fun K hK=>?_);go_simp;refine(HNu.o _).mono ?_;rintro e V3 ⟨rfl,o1⟩;have HV:=zH ((Old.drew (Old.refl W)).trans o1);clear o1
 go_wp2_with fail
 have HBv:=zH ((HV.o.block _ (lt_of_block HBx.o)).trans HBx.o);refine hK.out _ _ ?_ (fun hHeld=>?_)
 ·(try dsimp only);exact HBv.o
 clear hK K
 try simp only[Act.put,sA,sZ,sS]
 refine wpR 6 rfl (fun K hK=>?_);go_simp;refine(HPl.o _ (HO.o.trans HV.o)).mono ?_;rintro e V4 ⟨rfl,o1⟩;have HV4:=zH (HV.o.trans o1);clear o1
 go_wp2_with fail
 have HBw:=zH ((HV4.o.block _ (lt_of_block HBx.o)).trans HBx.o);refine hK.out _ _ ?_ (fun hHeld=>?_)
 ·(try dsimp only);exact HBw.o
 clear hK K;refine (uU 7) ((uU 8) ((uU 9) ((uU 10) ((uU 11) ?_))));refine wpAnyH_done zK ?_ _
 go_wp2_with fail
 go_ret3
 exact⟨rfl,HO.o.trans HV4.o⟩
theorem BT(v:Value)(i c n er:Int)(w:World)(h0:er≠0)(h:Calls zP 33 #[v,vI iJ i,vI iJ c] w fun e w'=>e=rJ (.tuple #[.agg rU,vI iJ er])/\Old w w'):
  Calls zP 122 #[v,vI iJ i,vI iJ c,vI iJ n] w fun e w'=>e=rJ (.tuple #[vI iJ 0,.int .u32 0,vI iJ er])/\Old w w':=by
 have HS:=zH h;have h1:(er != 0)=true:=by simpa using h0
 clear h h0;unfold rU at *;go_enter func122,ntmps122
 go_wp2_with fail
 refine HS.o.mono ?_;rintro e V ⟨rfl,ho⟩;have HO:=zH ho;clear ho HS
 go_wp2_with fail
 go_ret3
 exact⟨rfl,HO.o.alloc' _⟩
theorem JO(bb sz n N:Nat)(q:Option Addr)(c:Nat)(im:Option Addr)(ci:Nat)(D:Nat->Mt)(F:nI)(w:World)(h:xE w bb sz n N q c im ci D F)(h24:24<=sz)(hn:n<=64)(k:Nat)(hk:k<n)(hok:(D k).OkR)(ch bl:Int)(hch:0<=ch/\ch<(D k).c)(hbl:bl<0\/(cW (D k).n.toNat:Int)<=bl):
  Calls zP 122 #[.pointer (some ⟨bb,0,none⟩),vI iJ k,vI iJ ch,vI iJ bl] w fun e w'=>e=rJ (.tuple #[vI iJ 0,.int .u32 0,vI iJ 5])/\Old w w':=by
 have Hs9:Hid ((zP.info? 90).map (·.size)=some 9):=zH zK;have HMo:=zH (CF bb sz n N q c im ci D F w h zO hn k hk ch hch);obtain⟨m,hm⟩:=zG (D k);rw[<-hm]at HMo hok hbl;have n1:=hok.n1;have n2:=hok.n2;have HCn:=zH (fun w=>iO m.n w zO zO);have hcn:lR m.n=((cW m.n.toNat:Nat):Int):=by
  have:=nY m.n.toNat
  rw[Int.toNat_of_nonneg zO]at this;exact this
 rw[hcn]at HCn;obtain⟨T,hT⟩:=zG (cW m.n.toNat);rw[<-hT]at HCn hbl;obtain⟨X,hX⟩:=zG (m.cells);have HX9:Hid (X.size=9):=zH (by rw[hX];rfl);have HX1:Hid (X.all (·.oneCell')=true):=zH (by rw[hX];exact Mt.one _);have HXn:Hid (X[1]?=some (vI iJ m.n)):=zH (by rw[hX];rfl);rw[<-hX]at HMo;have HBl:=zH hbl;clear hX hT hcn hm hok h n1 n2 hch hbl;go_enter func122,ntmps122
 go_wp2_with fail
 refine HMo.o.mono ?_;rintro e V ⟨rfl,ho⟩;obtain⟨b1,hb1⟩:∃b,b=V.heap.size:=⟨_,rfl⟩
 obtain⟨W,hW⟩:=zG (V.alloc (.cells X 90));have HO:=zH (show Old w W by rw[hW];exact ho.alloc' _);have HBx:=zH (show W.heap[b1]?=some (.cells X 90 (0,0)) by rw[hW,hb1];exact heap_alloc_new _ _);have c1:W.cell? ⟨b1,1,none⟩=some (vI iJ m.n):=(cell_of_row _ _ _ _ _ _ HBx.o).trans HXn.o;have HW:=zH hW;have HB1:=zH hb1;clear hb1 hW ho HMo;by_cases hb0:bl<0
 ·have e0:decide (bl<0)=true:=decide_eq_true hb0
  go_wp2_with (with_reducible refine wpList_store_row rfl 90 _ _ rfl V.heap.size X rfl rfl 90 _ (heap_alloc_new _ _) (by rw[HX9.o];exact Hs9.o) (by rw[HX9.o];kernel_rfl) HX1.o ?_;rw[World.setRow_alloc_new,<-HW.o,<-HB1.o])
  go_ret3
  exact⟨rfl,HO.o⟩
 ·have e0:decide (bl<0)=false:=decide_eq_false hb0;have e2:(T:Int)<=bl:=by have:=HBl.o;omega
  have e1:decide ((T:Int)<=bl)=true:=decide_eq_true e2
  go_wp2_with (with_reducible refine wpList_store_row rfl 90 _ _ rfl V.heap.size X rfl rfl 90 _ (heap_alloc_new _ _) (by rw[HX9.o];exact Hs9.o) (by rw[HX9.o];kernel_rfl) HX1.o ?_;rw[World.setRow_alloc_new,<-HW.o,<-HB1.o])
  refine(HCn.o _).mono ?_;rintro e V2 ⟨rfl,hv⟩;subst hv
  go_wp2_with fail
  go_ret3
  exact⟨rfl,HO.o⟩
def TZ(bs:List Int):Prop:=∃F n T,mC F n T/\kC bs (enc F n T)
open Classical in
noncomputable def kL(S:Int)(bs:List Int):Int:=if Crc.sumOf bs≠S then 9 else if TZ bs then 0 else 4
theorem YA{S:Int}{bs:List Int}(h:Crc.sumOf bs≠S):kL S bs=9:=if_pos h
theorem ME{S:Int}{bs:List Int}(h:Crc.sumOf bs=S)(k:TZ bs):kL S bs=0:=by
 unfold kL;rw[if_neg (fun e=>e h),if_pos k]
theorem UX{S:Int}{bs:List Int}(h:Crc.sumOf bs=S)(k:¬TZ bs):kL S bs=4:=by
 unfold kL;rw[if_neg (fun e=>e h),if_neg k]
def TJ(w:World)(bs:List Int)(er:Int)(e:Ending)(w':World):Prop:=
 ∃F n p cap T,e=rJ (.tuple #[.agg (aA 29 (aR F (.slice p n cap))),vI iJ er])/\Old w w'/\n<=cap/\cap<=maxLen/\SlF 2 w' p n T/\aD T /\
  (er=0->mC F n T/\kC bs (enc F n T)/\∀F0 n0 T0,mC F0 n0 T0->kC bs (enc F0 n0 T0)->mO F n T F0 n0 T0)/\(er≠0->n=0/\p=none/\∀k,F k=0)/\(0<n->∀a,p=some a->w.heap.size<=a.block)
theorem TJ.none{w w':World}{bs:List Int}{er:Int}(h:er≠0)(o:Old w w'):TJ w bs er (rJ (.tuple #[.agg (aA 29 (aR (fun _=>0) (.slice none 0 0))),vI iJ er])) w':=
 ⟨fun _=>0,0,Option.none,0,fun _=>0,rfl,o,Nat.le_refl _,Nat.zero_le _,fun h=>absurd h zO,fun _=>by dsimp only;omega,fun e=>absurd e h,fun _=>⟨rfl,rfl,fun _=>rfl⟩,fun h=>absurd h zO⟩
theorem SlF.kept{s n:Nat}{w w':World}{p:Option Addr}{F:nI}{X:Nat->Prop}(h:SlF s w p n F)(k:Kept X w w')(hX:∀a,0<n->p=some a->X a.block):SlF s w' p n F:=fun hn=>by
 obtain⟨g,o,h1,h2,h3⟩:=h hn;exact⟨g,o,h1,Nat.lt_of_lt_of_le h2 k.size,fun j hj=>(k.cell (a:=⟨g,o+j,none⟩) (hX ⟨g,o,none⟩ hn h1)).trans (h3 j hj)⟩
theorem Kept.setRow(w:World)(b:Nat)(cs:Array Value):Kept (fun q=>q≠b) w (w.setRow b cs):=⟨rfl,rfl,zS,fun k hk=>setRow_other _ _ _ _ hk⟩
theorem aCk(p:Option Addr)(n cap:Nat)(F:nI)(S:Int)(w:World)(hs:SlU w p n F)(hb:lS F n)(h1:n<=cap)(h2:cap<=maxLen)(hn:n<=4294967296):
  Calls zP 70 #[.slice p n cap,.int .u32 S] w (TJ w (gQ F n) (kL S (gQ F n))):=by
 have Hs29:Hid ((zP.info? 98).map (·.size)=some 29):=zH zK;obtain⟨z,hz⟩:∃z:Array Value,z=aA 29 (aR (fun _=>0) (.slice none 0 0)):=⟨_,rfl⟩
 have hzs:z.size=29:=by rw[hz,aB]
 have hz1:z.all (·.oneCell')=true:=by rw[hz];exact cN _ _ rfl
 have HZf:=zH hz;rw[eZ]at hz;obtain⟨b0,hb0⟩:∃b,b=w.heap.size:=⟨_,rfl⟩
 obtain⟨W0,hW0⟩:=zG (w.alloc (.cells z 98));have hR:W0.heap[b0]?=some (.cells z 98 (0,0)):=by rw[hW0,hb0];exact heap_alloc_new _ _
 have hO:Old w W0:=by rw[hW0];exact Old.alloc _ _
 have HCs:=zH (uC p n cap F W0 (hs.old hO) hb h1 h2);have HRd:=zH (fun V (hV:Old W0 V)=>QQ (.slice p n cap) (gQ F n) V ((hs.old (hO.trans hV)).slI h1 h2) (qN hb) (by rw[dB];exact hn));have Hz:=zH hz;have Hz1:=zH hz1;have Hzs:=zH hzs;have Hi:Hid ((zP.info? 98).map (·.size)=some z.size):=by unfold Hid;rw[hzs];exact Hs29.o
 have HW0:=zH hW0;have HR:=zH hR;have HO:=zH hO;have HB0:=zH hb0;obtain⟨bs,hbs⟩:=zG (gQ F n);have hsum:jE F n=Crc.sumOf bs:=by rw[hbs];rfl
 rw[<-hbs]at HRd |-;rw[hsum]at HCs;obtain⟨X,hX⟩:=zG (Crc.sumOf bs);rw[<-hX]at HCs;clear hz hzs hW0 hR hO hb0 hbs hsum hs hb h1 h2 hn hz1;by_cases hS:X≠S
 ·have HQ:Hid (kL S bs=9):=zH (YA (by rw[<-hX];exact hS));have hd:(X != S)=true:=by simpa using hS
  obtain⟨E,hE⟩:=zG (kL S bs);rw[<-hE]at HQ |-;clear hS hX hE HRd;go_enter func70,ntmps70
  go_wp2_with fail
  rw[<-Hz.o,<-HW0.o,<-HB0.o];clear HW0;refine HCs.o.mono ?_;rintro e w1 ⟨rfl,o1⟩;have HR1:=zH ((o1.block _ (lt_of_block HR.o)).trans HR.o);have hrr:=bS HR1.o (HO.o.trans o1) (by rw[HB0.o];omega) z;have HRR:=zH hrr;clear o1 hrr HCs
  go_wp2_with (rw[<-Hz.o];with_reducible refine wpList_store_row rfl 98 _ _ rfl b0 z rfl rfl 98 _ HR1.o Hi.o rfl Hz1.o ?_)
  refine bodyPost_ret (aU rfl _ _ b0 98 z (0,0) _ rfl HRR.o.1 underlying98 rfl Hi.o) rfl ?_;have:=TJ.none (bs:=bs) (er:=9) zD HRR.o.2;rw[<-HZf.o]at this;rw[HQ.o];exact this
 ·have hS:=Classical.not_not.1 hS;have HQ1:Hid (TZ bs->kL S bs=0):=zH (ME (by rw[<-hX];exact hS));have HQ2:Hid (¬TZ bs->kL S bs=4):=zH (UX (by rw[<-hX];exact hS));have hd:(X != S)=false:=by simpa using hS
  obtain⟨E,hE⟩:=zG (kL S bs);rw[<-hE]at HQ1 HQ2 |-;clear hS hX hE;go_enter func70,ntmps70
  go_wp2_with fail
  rw[<-Hz.o,<-HW0.o,<-HB0.o];clear HW0;refine HCs.o.mono ?_;rintro e w1 ⟨rfl,o1⟩;have HO1:=zH o1;clear o1 HCs
  go_wp2_with fail
  refine(HRd.o _ HO1.o).mono ?_;rintro e w2 ⟨G,m,pg,cg,U,er,rfl,oo,hm,hcg,hU,hfU,her,hgood,hbad,hback,hnew⟩;have ho2:=(HO.o.trans HO1.o).trans oo;obtain⟨b2,hb2⟩:∃b,b=w2.heap.size:=⟨_,rfl⟩
  obtain⟨W3,hW3⟩:∃W,W=w2.alloc (.cells (aA 29 (aR G (.slice pg m cg))) 98):=⟨_,rfl⟩
  have ho3:Old w2 W3:=by rw[hW3];exact Old.alloc _ _
  have HBx:=zH (show W3.heap[b2]?=some (.cells (aA 29 (aR G (.slice pg m cg))) 98 (0,0)) by rw[hW3,hb2];exact heap_alloc_new _ _);have HR3:=zH (show W3.heap[b0]?=some (.cells z 98 (0,0)) from(((HO1.o.trans oo).trans ho3).block _ (lt_of_block HR.o)).trans HR.o);have H1g:Hid ((aA 29 (aR G (.slice pg m cg))).all (·.oneCell')=true):=zH (cN _ _ rfl);have hw1:w.heap.size<w1.heap.size:=Nat.lt_of_lt_of_le (by rw[<-HB0.o];exact lt_of_block HR.o) HO1.o.size;have HN:=zH (fun h a ha=>Nat.lt_of_lt_of_le hw1 (hnew h a ha));have HG:=zH (And.intro hm (And.intro hcg (And.intro (hU.old ho3) (And.intro hfU (And.intro hgood hback)))));have HO3:=zH (ho2.trans ho3);have HW3:=zH hW3;have HB2:=zH hb2;have HEr:=zH her;clear oo hm hcg hU hfU her hgood hbad hback hnew ho2 ho3 hb2 hW3 hw1 HRd HO1 HO HR;by_cases h0:er=0
  ·subst h0;have hrd:TZ bs:=⟨G,m,U,(HG.o.2.2.2.2.1 rfl).1,(HG.o.2.2.2.2.1 rfl).2⟩
   have HE:=zH (HQ1.o hrd);have hrr:=bS HR3.o HO3.o (by rw[HB0.o];omega) (aA 29 (aR G (.slice pg m cg)));have HRR:=zH hrr;clear hrd hrr HQ1 HQ2
   go_wp2_with (first | (with_reducible refine wpList_store_row rfl 98 _ _ rfl w2.heap.size (aA 29 (aR G (.slice pg m cg))) rfl rfl 98 _ (heap_alloc_new _ _) (by rw[aB];exact Hs29.o) (by rw[aB];kernel_rfl) H1g.o ?_;rw[World.setRow_alloc_new,<-HW3.o,<-HB2.o]) | (with_reducible refine wpList_load_row rfl 98 _ rfl b2 rfl 98 (aA 29 (aR G (.slice pg m cg))) (0,0) _ HBx.o underlying98 rfl (by rw[aB];exact Hs29.o) ?_) | (with_reducible refine wpList_store_row rfl 98 _ _ rfl b0 (aA 29 (aR G (.slice pg m cg))) rfl rfl 98 _ HR3.o (by rw[aB];exact Hs29.o) (by rw[aB];exact Hzs.o) H1g.o ?_))
   refine bodyPost_ret (aU rfl _ _ b0 98 (aA 29 (aR G (.slice pg m cg))) (0,0) _ rfl HRR.o.1 underlying98 rfl (by rw[aB];exact Hs29.o)) rfl ?_;obtain⟨g1,g2,g3,g4,g5,g6⟩:=HG.o;exact⟨G,m,pg,cg,U,by rw[HE.o];rfl,HRR.o.2,g1,g2,g3.kept (Kept.setRow _ _ _) (fun a hn ha=>by have:=HN.o hn a ha;have:=HB0.o;omega),g4,fun _=>⟨(g5 (by trivial)).1,(g5 (by trivial)).2,fun F0 n0 T0 a b=>(g6 F0 n0 T0 a b).2⟩,fun h=>absurd HE.o h,fun hn a ha=>Nat.le_of_lt (HN.o hn a ha)⟩
  ·have hrd:¬TZ bs:=fun⟨F0,n0,T0,a,b⟩=>h0 (HG.o.2.2.2.2.2 F0 n0 T0 a b).1;have HE:=zH (HQ2.o hrd);have hrr:=bS HR3.o HO3.o (by rw[HB0.o];omega) z;have HRR:=zH hrr;have PU:(er != 0)=true:=by simpa using h0
   clear hrd hrr HQ1 HQ2 h0
   go_wp2_with (first | (with_reducible refine wpList_store_row rfl 98 _ _ rfl w2.heap.size (aA 29 (aR G (.slice pg m cg))) rfl rfl 98 _ (heap_alloc_new _ _) (by rw[aB];exact Hs29.o) (by rw[aB];kernel_rfl) H1g.o ?_;rw[World.setRow_alloc_new,<-HW3.o,<-HB2.o]) | (rw[<-Hz.o];with_reducible refine wpList_store_row rfl 98 _ _ rfl b0 z rfl rfl 98 _ HR3.o Hi.o rfl Hz1.o ?_))
   refine bodyPost_ret (aU rfl _ _ b0 98 z (0,0) _ rfl HRR.o.1 underlying98 rfl Hi.o) rfl ?_;have:=TJ.none (bs:=bs) (er:=4) zD HRR.o.2;rw[<-HZf.o]at this;rw[HE.o];exact this
structure BkN(sz n N:Nat)(D:Nat->Mt)(F:nI):Prop where
 z1:24<=sz
 z2:sz<=96
 n64:n<=64
 N4:N<=4194304
 byt:lS F N
 ok:∀k,k<n->(D k).OkR
 x:∀k,k<n->0<=(D k).x
 y:∀k,k<n->0<=(D k).y
 pl:∀k q,k<n->q<(D k).fr->(D k).x.toNat+4*q+4<=N/\(D k).y.toNat+q*sz+sz<=N
def iZ(sz:Nat)(D:Nat->Mt)(k q:Nat):Nat:=(D k).y.toNat+q*sz
def DK(D:Nat->Mt)(F:nI)(k q:Nat):Int:=aO (fun j=>F ((D k).x.toNat+4*q+j)) 4
def DR(n:Nat)(D:Nat->Mt)(i ch bl:Int):Int:=
 if i<0\/(n:Int)<=i then 7 else if (ch<0\/(D i.toNat).c<=ch)\/bl<0\/(cW (D i.toNat).n.toNat:Int)<=bl then 5 else 0
def oO(D:Nat->Mt)(i ch bl:Int):Nat:=bl.toNat*(D i.toNat).c.toNat+ch.toNat
theorem aBF{n:Nat}{D:Nat->Mt}{i ch bl:Int}(h:DR n D i ch bl=0):∃k c b:Nat,i=k/\ch=c/\bl=b/\k<n/\(c:Int)<(D k).c/\b<cW (D k).n.toNat:=by
 unfold DR at h;by_cases h1:i<0\/(n:Int)<=i
 ·rw[if_pos h1]at h;cases h
 rw[if_neg h1]at h;by_cases h2:(ch<0\/(D i.toNat).c<=ch)\/bl<0\/(cW (D i.toNat).n.toNat:Int)<=bl
 ·rw[if_pos h2]at h;cases h
 refine⟨i.toNat,ch.toNat,bl.toNat,zO,zO,zO,zO,zO,zO⟩
theorem aCa{n:Nat}{D:Nat->Mt}{k c b:Nat}(h1:k<n)(h2:(c:Int)<(D k).c)(h3:b<cW (D k).n.toNat):DR n D k c b=0:=by
 unfold DR;rw[if_neg zO,Int.toNat_natCast,if_neg zO]
theorem CQ(D:Nat->Mt)(k c b:Nat):oO D k c b=b*(D k).c.toNat+c:=by
 unfold oO;rw[Int.toNat_natCast,Int.toNat_natCast,Int.toNat_natCast]
theorem AB{D:Nat->Mt}{k c b:Nat}(h2:(c:Int)<(D k).c)(h3:b<cW (D k).n.toNat):oO D k c b<(D k).fr:=by
 rw[CQ];unfold Mt.fr;have h:(b+1)*(D k).c.toNat<=cW (D k).n.toNat*(D k).c.toNat:=Nat.mul_le_mul_right _ h3;rw[Nat.succ_mul]at h;omega
theorem AZ(bb sz n N:Nat)(q:Option Addr)(c:Nat)(im:Option Addr)(ci:Nat)(D:Nat->Mt)(F:nI)(w:World)(h:xE w bb sz n N q c im ci D F)(hN:BkN sz n N D F)(i ch bl:Int):
  Calls zP 122 #[.pointer (some ⟨bb,0,none⟩),vI iJ i,vI iJ ch,vI iJ bl] w fun e w'=>∃a S,e=rJ (.tuple #[vI iJ a,.int .u32 S,vI iJ (DR n D i ch bl)])/\(DR n D i ch bl=0->a=iZ sz D i.toNat (oO D i ch bl)/\S=DK D F i.toNat (oO D i ch bl))/\(DR n D i ch bl≠0->a=0/\S=0)/\Old w w':=by
 have h24:=hN.z1;by_cases h1:i<0\/(n:Int)<=i
 ·have e:DR n D i ch bl=7:=by unfold DR;rw[if_pos h1]
  refine(BT _ i ch bl 7 w zD (JU bb sz n N q c im ci D F w h zO i ch h1)).mono ?_;rintro _ w' ⟨rfl,o⟩;exact⟨0,0,by rw[e],fun k'=>absurd k' (by rw[e];decide),fun _=>⟨rfl,rfl⟩,o⟩
 obtain⟨k,rfl⟩:∃k:Nat,i=k:=⟨i.toNat,zO⟩
 have hk:k<n:=zO;have hok:=hN.ok k hk;by_cases h2:ch<0\/(D k).c<=ch
 ·have e:DR n D k ch bl=5:=by unfold DR;rw[if_neg h1,Int.toNat_natCast,if_pos (.inl h2)]
  refine(BT _ k ch bl 5 w zD (DV bb sz n N q c im ci D F w h zO hN.n64 k hk ch h2)).mono ?_;rintro _ w' ⟨rfl,o⟩;exact⟨0,0,by rw[e],fun k'=>absurd k' (by rw[e];decide),fun _=>⟨rfl,rfl⟩,o⟩
 by_cases h3:bl<0\/(cW (D k).n.toNat:Int)<=bl
 ·have e:DR n D k ch bl=5:=by unfold DR;rw[if_neg h1,Int.toNat_natCast,if_pos (.inr h3)]
  refine(JO bb sz n N q c im ci D F w h h24 hN.n64 k hk hok ch bl zO h3).mono ?_;rintro _ w' ⟨rfl,o⟩;exact⟨0,0,by rw[e],fun k'=>absurd k' (by rw[e];decide),fun _=>⟨rfl,rfl⟩,o⟩
 obtain⟨cc,rfl⟩:∃k:Nat,ch=k:=⟨ch.toNat,zO⟩
 obtain⟨b,rfl⟩:∃k:Nat,bl=k:=⟨bl.toNat,zO⟩
 have hc2:(cc:Int)<(D k).c:=zO;have hb2:b<cW (D k).n.toNat:=zO;have hq:=AB hc2 hb2;have hpl:=hN.pl k _ hk hq;rw[CQ]at hpl;have hx:=hN.x k hk;have hy:=hN.y k hk;have e:=aCa hk hc2 hb2;have hc1:=hok.c1;refine(aAC bb sz n N q c im ci D F w h h24 hN.z2 hN.byt hN.n64 k hk hok (D k).c.toNat cc b (D k).x.toNat (D k).y.toNat zO zO hb2 zO zO hpl.1 (by have:=hN.N4;omega) (by have:=hN.N4;omega)).mono ?_;rintro _ w' ⟨rfl,o⟩;exact⟨_,_,by rw[e],fun _=>⟨by rw[Int.toNat_natCast,CQ];rfl,by rw[Int.toNat_natCast,CQ];rfl⟩,fun k=>absurd e k,o⟩
noncomputable def aEV(n:Nat)(D:Nat->Mt)(F:nI)(i ch bl:Int)(bs:List Int):Int:=if DR n D i ch bl≠0 then DR n D i ch bl else kL (DK D F i.toNat (oO D i ch bl)) bs
theorem ZY(bb sz n N:Nat)(q:Option Addr)(c:Nat)(im:Option Addr)(ci:Nat)(D:Nat->Mt)(F:nI)(w:World)(h:xE w bb sz n N q c im ci D F)(hN:BkN sz n N D F)(i ch bl:Int)(p:Option Addr)(m cap:Nat)(G:nI)(hs:SlU w p m G)(hb:lS G m)(h1:m<=cap)(h2:cap<=maxLen)(hm:m<=4294967296):
  Calls zP 84 #[.pointer (some ⟨bb,0,none⟩),vI iJ i,vI iJ ch,vI iJ bl,.slice p m cap] w (TJ w (gQ G m) (aEV n D F i ch bl (gQ G m))):=by
 have Hs29:Hid ((zP.info? 98).map (·.size)=some 29):=zH zK;obtain⟨z,hz⟩:∃z:Array Value,z=aA 29 (aR (fun _=>0) (.slice none 0 0)):=⟨_,rfl⟩
 have hzs:z.size=29:=by rw[hz,aB]
 have hz1:z.all (·.oneCell')=true:=by rw[hz];exact cN _ _ rfl
 have HZf:=zH hz;rw[eZ]at hz;obtain⟨b0,hb0⟩:∃b,b=w.heap.size:=⟨_,rfl⟩
 obtain⟨W0,hW0⟩:=zG (w.alloc (.cells z 98));have hR:W0.heap[b0]?=some (.cells z 98 (0,0)):=by rw[hW0,hb0];exact heap_alloc_new _ _
 have hO:Old w W0:=by rw[hW0];exact Old.alloc _ _
 have HWh:=zH (AZ bb sz n N q c im ci D F W0 (h.old hO) hN i ch bl);obtain⟨bs,hbs⟩:=zG (gQ G m);have HOp:=zH (fun S V (hV:Old W0 V)=>aCk p m cap G S V (hs.old (hO.trans hV)) hb h1 h2 hm);have Hz:=zH hz;have Hz1:=zH hz1;have Hzs:=zH hzs;have Hi:Hid ((zP.info? 98).map (·.size)=some z.size):=by unfold Hid;rw[hzs];exact Hs29.o
 have HW0:=zH hW0;have HR:=zH hR;have HO:=zH hO;have HB0:=zH hb0;rw[<-hbs]at HOp |-;obtain⟨E,hE⟩:=zG (aEV n D F i ch bl bs);obtain⟨x,hx⟩:=zG (DR n D i ch bl);obtain⟨SS,hSS⟩:∃x,x=DK D F i.toNat (oO D i ch bl):=⟨_,rfl⟩
 obtain⟨AA,hAA⟩:∃x,x=iZ sz D i.toNat (oO D i ch bl):=⟨_,rfl⟩
 have hE2:E=if x≠0 then x else kL SS bs:=by rw[hE,hx,hSS];rfl
 rw[<-hx,<-hSS,<-hAA]at HWh;rw[<-hE];clear hz hzs hW0 hR hO hb0 hbs hs hb h1 h2 hm hz1 hE hx hSS hAA h hN;by_cases h0:x≠0
 ·rw[if_pos h0]at hE2;have HE:=zH hE2;have HX:=zH h0;have hd:(x != 0)=true:=by simpa using h0
  clear hE2 h0 HOp;go_enter func84,ntmps84
  go_wp2_with fail
  rw[<-Hz.o,<-HW0.o,<-HB0.o];clear HW0;refine HWh.o.mono ?_;rintro e w1 ⟨a,S,rfl,_,_,o1⟩;have HR1:=zH ((o1.block _ (lt_of_block HR.o)).trans HR.o);have hrr:=bS HR1.o (HO.o.trans o1) (by rw[HB0.o];omega) z;have HRR:=zH hrr;clear o1 hrr HWh
  go_wp2_with (rw[<-Hz.o];with_reducible refine wpList_store_row rfl 98 _ _ rfl b0 z rfl rfl 98 _ HR1.o Hi.o rfl Hz1.o ?_)
  refine bodyPost_ret (aU rfl _ _ b0 98 z (0,0) _ rfl HRR.o.1 underlying98 rfl Hi.o) rfl ?_;have:=TJ.none (bs:=bs) HX.o HRR.o.2;rw[<-HZf.o]at this;rw[HE.o];exact this
 ·have h0:=Classical.not_not.1 h0;rw[if_neg (fun e=>e h0)]at hE2;have HE:=zH hE2;subst h0;clear hE2;go_enter func84,ntmps84
  go_wp2_with fail
  rw[<-Hz.o,<-HW0.o,<-HB0.o];clear HW0;refine HWh.o.mono ?_;rintro e w1 ⟨a,S,rfl,h3,_,o1⟩;obtain⟨rfl,rfl⟩:=h3 (by trivial);have HO1:=zH o1;clear o1 h3 HWh
  go_wp2_with fail
  refine(HOp.o _ _ HO1.o).mono ?_;rw[<-HE.o];rintro e w2 ⟨X,m2,pg,cg,U,rfl,oo,g1,g2,g3,g4,g5,g6,g7⟩;have hw1:w.heap.size<w1.heap.size:=Nat.lt_of_lt_of_le (by rw[<-HB0.o];exact lt_of_block HR.o) HO1.o.size;have H1g:Hid ((aA 29 (aR X (.slice pg m2 cg))).all (·.oneCell')=true):=zH (cN _ _ rfl);have HR2:=zH (show w2.heap[b0]?=some (.cells z 98 (0,0)) from((HO1.o.trans oo).block _ (lt_of_block HR.o)).trans HR.o);have HO2:=zH ((HO.o.trans HO1.o).trans oo);have hrr:=bS HR2.o HO2.o (by rw[HB0.o];omega) (aA 29 (aR X (.slice pg m2 cg)));have HRR:=zH hrr;have HG:=zH (And.intro g1 (And.intro g2 (And.intro g3 (And.intro g4 (And.intro g5 (And.intro g6 (fun h a ha=>Nat.lt_of_lt_of_le hw1 (g7 h a ha))))))));clear oo g1 g2 g3 g4 g5 g6 g7 hrr hw1 HOp HO1 HO HR
  go_wp2_with (with_reducible refine wpList_store_row rfl 98 _ _ rfl b0 (aA 29 (aR X (.slice pg m2 cg))) rfl rfl 98 _ HR2.o (by rw[aB];exact Hs29.o) (by rw[aB];exact Hzs.o) H1g.o ?_)
  refine bodyPost_ret (aU rfl _ _ b0 98 (aA 29 (aR X (.slice pg m2 cg))) (0,0) _ rfl HRR.o.1 underlying98 rfl (by rw[aB];exact Hs29.o)) rfl ?_;obtain⟨g1,g2,g3,g4,g5,g6,g7⟩:=HG.o;exact⟨X,m2,pg,cg,U,rfl,HRR.o.2,g1,g2,g3.kept (Kept.setRow _ _ _) (fun a hn ha=>by have:=g7 hn a ha;have:=HB0.o;omega),g4,g5,g6,fun hn a ha=>Nat.le_of_lt (g7 hn a ha)⟩
theorem aFx(f g:nI)(size:Int)(w:World)(hf:aD f)(h24:24<=size)(h96:size<=96)(hs:dD f)(hg:bX g):∃x,oV f g size x/\x.n<=2:=by
 by_cases h:55<=size
 ·exact⟨⟨fF bG bG f,.slice none 0 0,0,fun _=>0⟩,.inl ⟨h,rfl,rfl,rfl⟩,by show (0:Nat)<=2;omega⟩
 ·obtain⟨e,w',fr,⟨n,p,cap,_,h1,h2,_⟩,_⟩:=rT f g size w hf ⟨h24,zO⟩ ⟨hs,hg⟩ [];exact⟨⟨fF g (cS (fU f true) n) (fU f true),.slice none 0 0,DL f true,dY f⟩,.inr ⟨zO,n,h1,rfl,rfl,rfl⟩,h2⟩
theorem LN{sz:Nat}{xs:List Int}(hx:qE xs)(h24:24<=sz)(h96:sz<=96)(w:World){k:Nat}(hk:k<cW xs.length):
  ∃x:Fr,oV (aN (JT (decide (55<=(sz:Int))) (cW xs.length) fun j=>xs.getD j 0) k) (PW (decide (55<=(sz:Int))) (fun j=>xs.getD j 0) k) sz x/\x.n<=2/\mC x.F x.n x.T/\aD x.T/\frmL sz xs k=cU (enc x.F x.n x.T) sz/\kC (frmL sz xs k) (enc x.F x.n x.T):=by
 have hF:∀q,-32768<=(fun j=>xs.getD j 0) q/\(fun j=>xs.getD j 0) q<=32768:=fun q=>by have:=rI hx q;dsimp only;omega
 have hs:=jQ hF (decide (55<=(sz:Int))) (cW xs.length) k hk;have hf:aD (aN (JT (decide (55<=(sz:Int))) (cW xs.length) fun j=>xs.getD j 0) k):=fun j=>oX _ _ _ (fun q=>by have h1:=hF q;dsimp only at h1 |-;omega) _;obtain⟨x,h1,h2⟩:=aFx _ _ (sz:Int) w hf zO zO hs (rG (decide (55<=(sz:Int))) (fun j=>xs.getD j 0) k);have hP:=MC h1 hs (rG _ _ k) h2;have hr:=GP h1 hs h2 zO;have he:=VP hP;have hfr:frmL sz xs k=cU (enc x.F x.n x.T) sz:=by
  unfold frmL;have hex:∃x:Fr,oV (aN (JT (decide (55<=(sz:Int))) (cW xs.length) fun j=>xs.getD j 0) k) (PW (decide (55<=(sz:Int))) (fun j=>xs.getD j 0) k) sz x:=⟨x,h1⟩
  rw[dif_pos hex,NY (IC hex.choose_spec h1)]
 exact⟨x,h1,h2,hP,FZ h1 hf,hfr,by rw[hfr];exact JB _ _ zO⟩
structure Pkd(sz n:Nat)(Z:Nat->aM)(F:nI):Prop where
 z1:24<=sz
 z2:sz<=96
 n64:n<=64
 v:∀i,i<n->EC (Z i)
 tot:aJ (aQ (aI Z)) sz n<=4194304
 dir:nH (aI Z) n
 ld:Ld (aQ (aI Z)) sz n (JG sz Z n) (cC (aJ (aQ (aI Z)) sz n:Nat) n sz (eE (aI Z) sz n)) (aF (aQ (aI Z)) n) F
theorem aDe(sz:Nat)(Z:Nat->aM):∀{n k q:Nat},k<n->q<aQ (aI Z) k->JG sz Z n (aF (aQ (aI Z)) k+q)=frB sz (Z k) q
 | 0,k,q,h,_=>zO
 | n+1,k,q,h,hq=>by
  have e:aF (aQ (aI Z)) (k+1)=aF (aQ (aI Z)) k+aQ (aI Z) k:=rfl;show (if aF (aQ (aI Z)) k+q<aF (aQ (aI Z)) n then JG sz Z n (aF (aQ (aI Z)) k+q) else frB sz (Z n) (aF (aQ (aI Z)) k+q-aF (aQ (aI Z)) n))=_;by_cases hk:k<n
  ·have:=iF (aQ (aI Z)) (show k+1<=n from hk);rw[if_pos zO];exact aDe sz Z hk hq
  ·obtain rfl:k=n:=zO;rw[if_neg zO,Nat.add_sub_cancel_left]
namespace Pkd
variable {sz n:Nat} {Z:Nat->aM} {F:nI}
theorem bkN(h:Pkd sz n Z F):BkN sz n (aJ (aQ (aI Z)) sz n) (eE (aI Z) sz n) F where
 z1:=h.z1
 z2:=h.z2
 n64:=h.n64
 N4:=h.tot
 byt:=aDv h.ld fun i _=>KT _ _ _ _
 ok:=fun k hk=>((Mt.ok_iff _).1 (h.dir k hk).1).at_ _ _
 x:=fun k hk=>Int.natCast_nonneg _
 y:=fun k hk=>Int.natCast_nonneg _
 pl:=fun k q hk hq=>by
  have h1:=rF (aQ (aI Z)) sz n (i:=k) (q:=q) hq;have h2:=qK (aQ (aI Z)) sz n (show k+1<=n from hk);have h3:=(yE (aQ (aI Z)) sz n).1;have h4:=fJ (aQ (aI Z)) sz n k;have h5:=FP (aQ (aI Z)) sz n k;have e1:(eE (aI Z) sz n k).x.toNat=bO (aQ (aI Z)) sz n k:=Int.toNat_natCast _;have e2:(eE (aI Z) sz n k).y.toNat=aL (aQ (aI Z)) sz n k:=Int.toNat_natCast _;rw[e1,e2,Nat.mul_comm q sz];omega
theorem numC(h:Pkd sz n Z F)(k:Nat):(eE (aI Z) sz n k).c.toNat=(Z k).n:=Int.toNat_natCast _
theorem bytes(h:Pkd sz n Z F){k c b:Nat}(hk:k<n)(hc:(c:Int)<(eE (aI Z) sz n k).c)(hb:b<cW (eE (aI Z) sz n k).n.toNat):
  gQ (fun j=>F (iZ sz (eE (aI Z) sz n) k (oO (eE (aI Z) sz n) k c b)+j)) sz=frmL sz (qG (Z k) c) b:=by
 have hq:=AB hc hb;have hq':oO (eE (aI Z) sz n) k c b<aQ (aI Z) k:=hq;have h1:=h.ld.byte k _ hk hq' (by
  have:=iF (aQ (aI Z)) (show k+1<=n from hk);have e:aF (aQ (aI Z)) (k+1)=aF (aQ (aI Z)) k+aQ (aI Z) k:=rfl;omega)
 have e2:(eE (aI Z) sz n k).y.toNat=aL (aQ (aI Z)) sz n k:=Int.toNat_natCast _;have hcn:c<(Z k).n:=by
  have:(eE (aI Z) sz n k).c=((Z k).n:Int):=rfl;omega
 have hm:=xA b (Z k).n c hcn;refine List.ext_getElem (by rw[dB,NO]) fun j h2 h3=>?_;rw[dB]at h2;have e3:=h1 j h2;rw[aDe sz Z hk hq']at e3;have e4:(gQ (fun j=>F (iZ sz (eE (aI Z) sz n) k (oO (eE (aI Z) sz n) k c b)+j)) sz)[j]'(by rw[dB];exact h2)=F (iZ sz (eE (aI Z) sz n) k (oO (eE (aI Z) sz n) k c b)+j):=by simp[gQ]
 rw[e4];unfold iZ;rw[e2,Nat.mul_comm _ sz,e3];unfold frB;rw[CQ,h.numC k,hm.1,hm.2,List.getD_eq_getElem?_getD,List.getElem?_eq_getElem h3];rfl
theorem sum(h:Pkd sz n Z F){k c b:Nat}(hk:k<n)(hc:(c:Int)<(eE (aI Z) sz n k).c)(hb:b<cW (eE (aI Z) sz n k).n.toNat):
  DK (eE (aI Z) sz n) F k (oO (eE (aI Z) sz n) k c b)=Crc.sumOf (frmL sz (qG (Z k) c) b):=by
 have hq:=AB hc hb;have hq':oO (eE (aI Z) sz n) k c b<aQ (aI Z) k:=hq;have hoff:aF (aQ (aI Z)) k+oO (eE (aI Z) sz n) k c b<aF (aQ (aI Z)) n:=by
  have:=iF (aQ (aI Z)) (show k+1<=n from hk);have e:aF (aQ (aI Z)) (k+1)=aF (aQ (aI Z)) k+aQ (aI Z) k:=rfl;omega
 have h1:=h.ld.sum k _ hk hq' hoff;have h2:=h.ld.byte k _ hk hq' hoff;have e1:(eE (aI Z) sz n k).x.toNat=bO (aQ (aI Z)) sz n k:=Int.toNat_natCast _;have hbd:=tT (F:=JG sz Z n (aF (aQ (aI Z)) k+oO (eE (aI Z) sz n) k c b)) (n:=sz) (KT _ _ _ _);unfold DK;rw[e1,jK h1,qQ _ hbd.1 hbd.2];unfold jE;rw[<-h.bytes hk hc hb];congr 1;have e2:(eE (aI Z) sz n k).y.toNat=aL (aQ (aI Z)) sz n k:=Int.toNat_natCast _;refine tW fun j hj=>?_;unfold iZ;rw[e2,Nat.mul_comm _ sz,h2 j hj]
theorem chan(h:Pkd sz n Z F){k c:Nat}(hk:k<n)(hc:(c:Int)<(eE (aI Z) sz n k).c):c<(Z k).n/\qE (qG (Z k) c)/\(qG (Z k) c).length=(Z k).M 0/\(eE (aI Z) sz n k).n.toNat=(Z k).M 0:=by
 have hcn:c<(Z k).n:=by
  have:(eE (aI Z) sz n k).c=((Z k).n:Int):=rfl;omega
 have hv:=h.v k hk;refine⟨hcn,KK hv c hcn,by rw[uB,hv.m c hcn],?_⟩;show (Z k).len.toNat=_;unfold aM.len;rw[if_neg (by have:=hv.n1;omega)];exact Int.toNat_natCast _
theorem good(h:Pkd sz n Z F)(w:World){k c b:Nat}(hk:k<n)(hc:(c:Int)<(eE (aI Z) sz n k).c)(hb:b<cW (eE (aI Z) sz n k).n.toNat):
  kL (DK (eE (aI Z) sz n) F k (oO (eE (aI Z) sz n) k c b)) (gQ (fun j => F (iZ sz (eE (aI Z) sz n) k (oO (eE (aI Z) sz n) k c b) + j)) sz) = 0 := by
 obtain⟨h1,h2,h3,h4⟩:=h.chan hk hc;rw[h.sum hk hc hb,h.bytes hk hc hb];obtain⟨x,_,_,hP,_,_,ht⟩:=LN h2 h.z1 h.z2 w (k:=b) (by rw[h3,<-h4];exact hb);exact ME rfl ⟨x.F,x.n,x.T,hP,ht⟩
end Pkd
def aHH(sz:Int)(n:Nat)(L:Nat->aM):Prop:=24<=sz/\sz<=96/\nX L n=0/\∀Z,pM L n Z->aJ (aQ (aI Z)) sz.toNat n<=4194304
theorem aFS{w V:World}{sz:Int}{n:Nat}{L:Nat->aM}{e:Ending}(h:PkR w sz n L e V):
  (∃er,er≠0/\e=rJ (.tuple #[.slice none 0 0,vI iJ er])/\Old w V/\¬aHH sz n L) \/
  (24<=sz/\sz<=96/\nX L n=0/\∃Z g F,e=rJ (.tuple #[.slice (some ⟨g,0,none⟩) (aJ (aQ (aI Z)) sz.toNat n) (aJ (aQ (aI Z)) sz.toNat n),vI iJ 0])/\Pkd sz.toNat n Z F/\pM L n Z/\gX w g (aJ (aQ (aI Z)) sz.toNat n) F V):=by
 rcases h with ⟨h0,h1,h2⟩ | ⟨_,h1,h2,h3⟩ | ⟨h0,h1,Z,h2,h3⟩
 ·exact .inl ⟨12,zD,h1,h2,fun k=>h0 ⟨k.1,k.2.1⟩⟩
 ·exact .inl ⟨_,h1,h2,h3,fun k=>h1 k.2.2.1⟩
 ·rcases h3 with ⟨k1,k2,k3⟩ | ⟨k1,g,k2,F,k3,k4⟩
  ·exact .inl ⟨_,k1,k2,k3,fun k=>k1 (if_neg (by have:=k.2.2.2 Z h2;omega))⟩
  ·obtain⟨a1,a2,a3⟩:=FR h1;have hv:=h2.valid a2;refine .inr ⟨h0.1,h0.2,h1,Z,g,F,k2,⟨zO,zO,a1,hv,?_,h2.dir a2,k4⟩,h2,k3⟩;by_cases c:4194304<aJ (aQ (aI Z)) sz.toNat n
   ·rw[if_pos c]at k1;cases k1
   ·omega
theorem wG{V W T U:nI}{k:Nat}(hV:V k=W k):∀{n:Nat},(∀j,j<2*n->T j=U j)->dZ V T n k=dZ W U n k
 | 0,_=>hV
 | n+1,h=>by
  have ih:=wG (V:=V) (W:=W) (T:=T) (U:=U) (k:=k) hV (n:=n) fun j hj=>h j zO;show (if (k:Int)=T (2*n) then dZ V T n k+T (2*n+1) else dZ V T n k)=if (k:Int)=U (2*n) then dZ W U n k+U (2*n+1) else dZ W U n k
  rw[h (2*n) zO,h (2*n+1) zO,ih]
theorem VJ{F G T U:nI}{n m:Nat}(h:mO F n T G m U)(k:Nat)(hk:k<16):dX F n T k=dX G m U k:=by
 obtain⟨rfl,h2,h3⟩:=h;have hs:∀k,k<4->PS F k=PS G k:=fun k hk=>h3 (5+k) zO zO;have hq:XH F k=XH G k:=by unfold XH;rw[if_pos hk,if_pos hk];exact h3 (13+k) zO zO
 have hv:fH F k=fH G k:=by
  unfold fH bE;have hp:dW (PS F)↔dW (PS G):=⟨fun a j hj=>by rw[<-hs j hj];exact a j hj,fun a j hj=>by rw[hs j hj];exact a j hj⟩
  by_cases hc:dW (PS F)
  ·rw[if_pos hc,if_pos (hp.1 hc)];unfold gH;rw[hq,hs (k/4) zO]
  ·rw[if_neg hc,if_neg fun a=>hc (hp.2 a)]
 unfold dX eW;rw[if_pos hk,if_pos hk,wG hv h2]
def wvF(F:nI)(n:Nat)(T:nI):nI:=iC 4 (dX F n T)
theorem aBP{F G T U:nI}{n m:Nat}(h:mO F n T G m U)(k:Nat)(hk:k<16):wvF F n T k=wvF G m U k:=mZ 4 (fun j hj=>VJ h j hj) k hk
def TA(N:Nat)(B G:Nat->Nat->Int)(q:Nat):Int:=
 if 8<=q%16/\q/16+1<N then fZ (iL (B (q/16)) (B (q/16+1)) (q%16)) (mG (G (q/16)) ((q%16:Nat):Int))
 else if q%16<8/\1<=q/16 then fZ (iL (B (q/16)) (B (q/16-1)) (q%16)) (mG (G (q/16)) ((q%16:Nat):Int))
 else fZ (B (q/16) (q%16)) (mG (G (q/16)) ((q%16:Nat):Int))
theorem aDB(N:Nat)(L:Nat->Fr)(b:Nat)(hb:b<N)(k:Nat)(hk:k<16):aN (rL N L) b k=dX (L b).F (L b).n (L b).T k:=by
 show rL N L (b*16+k)=_;unfold rL;rw[show (b*16+k)/16=b by omega,show (b*16+k)%16=k by omega,if_pos hb]
theorem aAI(N:Nat)(L:Nat->Fr)(b:Nat)(hb:b<N)(k:Nat)(hk:k<4):dJ (rK N L) N b k=(L b).F k:=by
 unfold dJ;rw[if_pos hb];show rK N L (b*4+k)=_;unfold rK;rw[show (b*4+k)/4=b by omega,show (b*4+k)%4=k by omega,if_pos hb]
theorem oB{f g h k:nI}(e1:∀j,j<16->f j=g j)(e2:∀j,j<16->h j=k j)(i:Nat)(hi:i<16):iL f h i=iL g k i:=by
 unfold iL;split
 ·rw[e1 i hi,e2 (15-i) zO]
 ·rw[e1 i hi,e2 (15-i) zO]
theorem aAP(N:Nat)(L:Nat->Fr)(q:Nat)(hq:q<N*16):gJ N (rK N L) N (rL N L) q=TA N (fun b=>wvF (L b).F (L b).n (L b).T) (fun b=>(L b).F) q:=by
 have hb:q/16<N:=zO;have hr:q%16<16:=zO;have hg:mG (dJ (rK N L) N (q/16)) ((q%16:Nat):Int)=mG (L (q/16)).F ((q%16:Nat):Int):=tO (fun k hk=>aAI N L _ hb k hk) _;have hw:∀b,b<N->∀j,j<16->iC 4 (aN (rL N L) b) j=wvF (L b).F (L b).n (L b).T j:=fun b hb j hj=>mZ 4 (fun k hk=>aDB N L b hb k hk) j hj;rw[aBB _ _ _ _ _ hq,hg];unfold TA;by_cases h1:8<=q%16/\q/16+1<N
 ·rw[if_pos h1,FD N _ q (q/16+1) hq h1.2 (.inl ⟨h1.1,rfl⟩),oB (hw _ hb) (hw _ h1.2) _ hr]
 ·rw[if_neg h1];by_cases h2:q%16<8/\1<=q/16
  ·rw[if_pos h2,FD N _ q (q/16-1) hq zO (.inr ⟨h2.1,zO⟩),oB (hw _ hb) (hw _ zO) _ hr]
  ·rw[if_neg h2,PP N _ q hq h1 h2,hw _ hb _ hr]
theorem OX{sz:Nat}{xs:List Int}(hx:qE xs)(h24:24<=sz)(h96:sz<=96)(w:World):∃L:Nat->Fr,FmX sz xs (cW xs.length) L/\∀k,k<cW xs.length->mC (L k).F (L k).n (L k).T/\aD (L k).T/\kC (frmL sz xs k) (enc (L k).F (L k).n (L k).T):=by
 have h:∀k,∃x:Fr,k<cW xs.length->oV (aN (JT (decide (55<=(sz:Int))) (cW xs.length) fun j=>xs.getD j 0) k) (PW (decide (55<=(sz:Int))) (fun j=>xs.getD j 0) k) sz x/\x.n<=2/\mC x.F x.n x.T/\aD x.T/\kC (frmL sz xs k) (enc x.F x.n x.T):=fun k=>by
  by_cases hk:k<cW xs.length
  ·obtain⟨x,h1,h2,h3,h4,_,h6⟩:=LN hx h24 h96 w hk;exact⟨x,fun _=>⟨h1,h2,h3,h4,h6⟩⟩
  ·exact⟨nJ,fun h=>absurd h hk⟩
 refine⟨fun k=>(h k).choose,fun k hk=>?_,fun k hk=>?_⟩
 ·obtain⟨h1,h2,_⟩:=(h k).choose_spec hk;exact⟨h1,h2⟩
 ·obtain⟨_,_,h3,h4,h5⟩:=(h k).choose_spec hk;exact⟨h3,h4,h5⟩
theorem QB{sz:Nat}{xs:List Int}(hx:qE xs)(h55:55<=sz){L:Nat->Fr}(h:FmX sz xs (cW xs.length) L)(q:Nat)(hq:q<xs.length):oG (gJ (cW xs.length) (rK (cW xs.length) L) (cW xs.length) (rL (cW xs.length) L) q)=xs.getD q 0:=by
 have h1:decide (55<=(sz:Int))=true:=decide_eq_true zO;unfold FmX at h;rw[h1]at h;have hF:∀q,-32768<=(fun j=>xs.getD j 0) q/\(fun j=>xs.getD j 0) q<=32768:=fun q=>by have:=rI hx q;dsimp only;omega
 rw[RZ hF zO h q (by unfold cW;omega)];have:=rI hx q;exact aGp _ zO zO
theorem NP(w:World):Calls zP 11 #[.pointer none] w fun e w'=>e=rJ (vI iJ 0)/\w=w':=by
 go_enter func11,ntmps11;go_wp2;go_ret;exact⟨rfl,rfl⟩
theorem iD(b:Nat)(len:Int)(w:World)(h:w.cell? ⟨b,24,none⟩=some (vI iJ len)):Calls zP 11 #[.pointer (some ⟨b,0,none⟩)] w fun e w'=>e=rJ (vI iJ len)/\w=w':=by
 go_enter func11,ntmps11;go_wp2;go_ret;exact⟨rfl,rfl⟩
theorem aIH(q:Int)(w:World):Calls zP 12 #[.pointer none,vI iJ q] w fun e w'=>e=rJ (vI iJ 0)/\w=w':=by
 have HL:=zH (NP w);by_cases h:q<0
 ·clear HL;go_enter func12,ntmps12
  go_wp2_with fail
  go_ret;exact⟨rfl,rfl⟩
 ·have h2:0<=q:=zO;go_enter func12,ntmps12
  go_wp2_with fail
  refine HL.o.mono ?_;rintro e w1 ⟨rfl,rfl⟩
  go_wp2_with fail
  go_ret;exact⟨rfl,rfl⟩
theorem aHm(b:Nat)(len q:Int)(w:World)(h:w.cell? ⟨b,24,none⟩=some (vI iJ len))(hq:q<0\/len<=q):Calls zP 12 #[.pointer (some ⟨b,0,none⟩),vI iJ q] w fun e w'=>e=rJ (vI iJ 0)/\w=w':=by
 have HL:=zH (iD b len w h);clear h;by_cases h:q<0
 ·clear HL hq;go_enter func12,ntmps12
  go_wp2_with fail
  go_ret;exact⟨rfl,rfl⟩
 ·have h2:0<=q:=zO;have h3:len<=q:=zO;clear hq h;go_enter func12,ntmps12
  go_wp2_with fail
  refine HL.o.mono ?_;rintro e w1 ⟨rfl,rfl⟩
  go_wp2_with fail
  go_ret;exact⟨rfl,rfl⟩
theorem BH.first{σ:Type}{K K':Nat->Option Kb}{n:Nat}{s s':σ}{St:σ->Kb->σ->Prop}{x:Kb}(h:BH K n s St x s' K'):K' 0=some x:=by
 obtain⟨k,_,_,rfl⟩:=h.how;rfl
theorem BH.keep{σ:Type}{K K':Nat->Option Kb}{n:Nat}{s s':σ}{St:σ->Kb->σ->Prop}{x m:Kb}(h:BH K n s St m s' K')(hx:K 0=some x):∃j,j<4/\K' j=some x:=by
 obtain⟨k,hk,ho,rfl⟩:=h.how;by_cases h0:k=0
 ·subst h0;rcases ho with ⟨_,hm,_⟩ | ⟨hm,_⟩
  ·rw[hx]at hm;cases hm;exact⟨0,zO,rfl⟩
  ·have h1:=hk.end_ zO;unfold sI at h1;unfold oR at hm;rw[hx]at h1 hm;have a1:=of_decide_eq_false h1;have a2:=of_decide_eq_false hm;exact absurd a2 a1
 ·refine⟨1,zO,?_⟩;unfold YJ;rw[if_neg zO,if_pos zO];exact hx
def VE(f:nI):Prop:=∀j,j<16->-9223372036854775808<=f j/\f j<=9223372036854775807
structure AtR{σ:Type}(N:Nat)(G:Kb->Prop)(K:Nat->Option Kb)(s:σ)(St:σ->Kb->σ->Prop)(q:Nat)(v:Int)(s':σ)(K':Nat->Option Kb):Prop where
 ex:∃x m s1 K1,G x/\G m/\BH K (kD q N).toNat s St x s1 K1/\BH K1 (kE q N).toNat s1 St m s' K'/\v=oG (TA N (fun n=>if n=x.n then x.F else m.F) (fun n=>if n=x.n then x.G else m.G) q)
theorem aDR(b:Nat)(fb:Nat)(i ch:Int)(len:Nat){σ:Type}(R:σ->(Nat->Option Kb)->World->Prop)(G:Kb->Prop)(M:CuM b (lW fb i ch len) G R)(St:σ->Kb->σ->Prop)(q:Nat)(hq:q<len)(hlen:len<=1048576)(s:σ)(K:Nat->Option Kb)(W:World)(h:R s K W)
  (HF:∀s K V n,n<cW len->R s K V->Calls zP 74 #[.pointer (some ⟨b,0,none⟩),vI iJ n] V fun e V'=>∃kb s',e=rJ (.pointer (some ⟨kb.b,0,none⟩))/\kb.n=n/\KbAt V' kb/\kb.b≠b/\G kb/\St s kb s'/\R s' K V')
  (hG:∀x,G x->VE x.F) (hcase:¬(8<=q%16/\q/16+1<cW len)/\¬(q%16<8/\1<=q/16)):
  Calls zP 12 #[.pointer (some ⟨b,0,none⟩),vI iJ q] W fun e V=>∃v s' K',e=rJ (vI iJ v)/\AtR (cW len) G K s St q v s' K'/\R s' K' V:=by
 obtain⟨V0,ms0,fr0,hcu0⟩:=M.at_ h;have HL:=zH (iD b len W (hcu0.cA 3 zO));have c24:W.cell? ⟨b,24,none⟩=some (vI iJ len):=hcu0.cA 3 zO;have HCo:=zH (iO (len:Int) W zO zO);rw[lN]at HCo;have hcn:cW len=(len+15)/16:=rfl;obtain⟨N,hN⟩:=zG (cW len);rw[<-hN]at HCo hcn HF |-
 try rw[<-hN]at hcase
 have HNe:=zH (DC (q:Int) (N:Nat) W zO zO zO zO);have hnd:¬gO (q:Int) (N:Nat):=by unfold gO;omega
 have hA:kD q (N:Nat)=((q/16:Nat):Int):=by unfold kD;rw[if_neg hnd];split <;> omega
 have hB:kE q (N:Nat)=((q/16:Nat):Int):=by unfold kE;rw[if_neg hnd];split <;> omega
 have hfb:q/16<N:=zO;have hlb:q/16<N:=zO;rw[hA,hB]at HNe;have HU1:=zH (rC b _ G R M St (q/16) s K W h (HF s K · _ hfb));have HU2:=zH (fun(s1:σ) (K1:Nat->Option Kb) (V:World) (h1:R s1 K1 V)=>rC b _ G R M St (q/16) s1 K1 V h1 (HF s1 K1 · _ hlb));obtain⟨f,hf⟩:=zG (q/16);rw[<-hf]at HU1 HNe HU2 hA hB;have e1:((f:Int) != (q:Int)/16)=false:=by
  have:(f:Int)=(q:Int)/16:=zO;simp[this]
 have e2:((f:Int) != (f:Int))=false:=zS;have HFl:=zH hf;have HE:=zH (And.intro hA hB);have HM:=zH M;have HK64:=zH hG;have HCase:=zH hcase;have hlen2:(len:Int)<=1048576:=zO;have hq2:(q:Int)<len:=zO;have HsL:Hid ((zP.info? 57).map (·.size)=some 16):=zH zK;have Hs4:Hid ((zP.info? 44).map (·.size)=some 4):=zH zK;clear hcu0 M h HF hG hcase hnd hA hB hfb hlb hf  hN hcn;go_enter func12,ntmps12
 go_wp2_with fail
 refine HL.o.mono ?_;rintro e w1 ⟨rfl,rfl⟩;clear HL
 go_wp2_with fail
 refine HCo.o.mono ?_;rintro e w1 ⟨rfl,rfl⟩;clear HCo
 go_wp2_with fail
 refine HNe.o.mono ?_;rintro e w1 ⟨rfl,rfl⟩;clear HNe c24
 go_wp2_with fail
 refine HU1.o.mono ?_;rintro e V1 ⟨x,s1,K1,rfl,hx1,hxb,hxg,hx2,hr1⟩;have HXg:=zH hxg;have HU2:=zH (HU2.o s1 K1 V1 hr1);have HX0:=zH hx2;clear HU1 hx1 hxb hx2 hr1 hxg
 go_wp2_with fail
 refine HU2.o.mono ?_;rintro e V2 ⟨m,s2,K2,rfl,hm1,hmb,hmg,hm2,hr2⟩;have HMg:=zH hmg;obtain⟨j,hj,hxj⟩:=hm2.keep HX0.o.first
 obtain⟨V5,ms5,fr5,hcu⟩:=HM.o.at_ hr2;have HX:=zH (And.intro HX0.o (And.intro trivial (hcu.k j hj x hxj).1));have HMm:=zH (And.intro hm2 (And.intro trivial hm1));have HR2:=zH hr2;have HLp:Hid (∀V,Old V2 V->∀k,k<16->V.cell? ⟨b,25+k,none⟩=some (vI iJ (tI k))):=zH fun V o k hk=>(o.cell (a:=⟨b,25+k,none⟩) hcu.lt).trans (by
  have:=hcu.cA (4+k) zO;rw[show 21+(4+k)=25+k by omega]at this;rw[this];unfold lW;rw[if_neg zO,if_neg zO,if_neg zO,if_neg zO,show 4+k-4=k by omega])
 have HGn:Hid (∀V,Old V2 V->∀k,k<4->V.cell? ⟨x.b,17+k,none⟩=some (vI iJ (x.G k))):=zH fun V o k hk=>(o.cell (a:=⟨x.b,17+k,none⟩) HX.o.2.2.lt).trans (HX.o.2.2.gains k hk);have cx:V2.cell? ⟨x.b,0,none⟩=some (vI iJ f):=by have:=HX.o.2.2.num;rw[HX0.o.num]at this;exact this
 have HX64:Hid (VE x.F):=zH (HK64.o x HXg.o);have HOn:=zH (fun V (o:Old V2 V)=>UZ x.b 1 (q%16) x.F x.G V (Nat.lt_of_lt_of_le HX.o.2.2.lt o.size) (fun k hk=>(o.cell (a:=⟨x.b,1+k,none⟩) HX.o.2.2.lt).trans (HX.o.2.2.wave k hk)) (fun k hk=>HX64.o k hk) zO);rw[<-AE.symm,show ((q%16:Nat):Int)=(q:Int)%16 by omega]at HOn;obtain⟨y,hy⟩:=zG (fZ (x.F (q%16)) (mG x.G ((q:Int)%16)));rw[<-hy]at HOn;have HY:=zH hy;have HSt:=zH (fun V=>IV y V);clear hcu hm1 hmb hmg hm2 hr2 hxj hj HU2 hy
 go_wp2_with fail
 have HD:Hid (Old V2 V2.drew):=zH (Old.refl V2).drew;refine wp_region_held_drew (S:=(fun V=>Old V2 V)) zK ?_ (fun hHeld=>?_)
 ·(try dsimp only);exact HD.o
 refine (uU 0) ((uU 1) ((uU 2) ?_));refine (uT 3 (v:=.agg (aA 16 (blk tI))) rfl (aX 16 tI zK 57 (.tmp 51) rfl b 25 rfl _ (fun V h=>HLp.o V h) underlying57 rfl HsL.o)) ?_;refine (uU 4) ((uU 5) ((uU 6) ((uU 7) ((uU 8) ((uU 9) ((uU 10) ?_))))));refine (uT 11 (v:=.agg (aA 4 (blk x.G))) rfl (aX 4 x.G zK 44 (.tmp 59) rfl x.b 17 rfl _ (fun V h=>HGn.o V h) underlying44 rfl Hs4.o)) ?_;refine (uU 12) ((uU 13) ?_);refine wpR 14 rfl (fun K hK=>?_);go_simp;refine(HOn.o _ HD.o).mono ?_;rintro e V3 ⟨rfl,o3⟩;have HO3:=zH (HD.o.trans o3);clear o3
 go_wp2_with fail
 refine hK.out _ _ ?_ (fun hHeld=>?_)
 ·(try dsimp only);exact HO3.o
 clear hK K
 try simp only[Act.put,sA,sZ,sS]
 refine wpR 15 rfl (fun K hK=>?_);go_simp;refine(HSt.o _).mono ?_;rintro e V4 ⟨rfl,rfl⟩
 go_wp2_with fail
 refine hK.out _ _ ?_ (fun hHeld=>?_)
 ·(try dsimp only);exact HO3.o
 clear hK K;refine (uU 16) ?_;refine wpAnyH_done zK ?_ _
 go_wp2_with fail
 go_ret;refine⟨oG y,s2,K2,rfl,⟨x,m,s1,K1,HXg.o,HMg.o,?_,?_,?_⟩,HM.o.old HR2.o HO3.o⟩
 ·rw[HE.o.1];exact HX0.o
 ·rw[HE.o.2];exact HMm.o.1
 ·have n1:=HX0.o.num;have n2:=HMm.o.1.num;have hc:=HCase.o;have hfl:=HFl.o;rw[HY.o];unfold TA;rw[show ((q%16:Nat):Int)=(q:Int)%16 by omega];congr 1;rw[if_neg hc.1,if_neg hc.2];dsimp only;rw[if_pos (show q/16=x.n by omega),if_pos (show q/16=x.n by omega)]
theorem aDX(b:Nat)(fb:Nat)(i ch:Int)(len:Nat){σ:Type}(R:σ->(Nat->Option Kb)->World->Prop)(G:Kb->Prop)(M:CuM b (lW fb i ch len) G R)(St:σ->Kb->σ->Prop)(q:Nat)(hq:q<len)(hlen:len<=1048576)(s:σ)(K:Nat->Option Kb)(W:World)(h:R s K W)
  (HF:∀s K V n,n<cW len->R s K V->Calls zP 74 #[.pointer (some ⟨b,0,none⟩),vI iJ n] V fun e V'=>∃kb s',e=rJ (.pointer (some ⟨kb.b,0,none⟩))/\kb.n=n/\KbAt V' kb/\kb.b≠b/\G kb/\St s kb s'/\R s' K V')
  (hG:∀x,G x->VE x.F) (hcase:8<=q%16/\q/16+1<cW len):
  Calls zP 12 #[.pointer (some ⟨b,0,none⟩),vI iJ q] W fun e V=>∃v s' K',e=rJ (vI iJ v)/\AtR (cW len) G K s St q v s' K'/\R s' K' V:=by
 obtain⟨V0,ms0,fr0,hcu0⟩:=M.at_ h;have HL:=zH (iD b len W (hcu0.cA 3 zO));have c24:W.cell? ⟨b,24,none⟩=some (vI iJ len):=hcu0.cA 3 zO;have HCo:=zH (iO (len:Int) W zO zO);rw[lN]at HCo;have hcn:cW len=(len+15)/16:=rfl;obtain⟨N,hN⟩:=zG (cW len);rw[<-hN]at HCo hcn HF |-
 try rw[<-hN]at hcase
 have HNe:=zH (DC (q:Int) (N:Nat) W zO zO zO zO);have hnd:¬gO (q:Int) (N:Nat):=by unfold gO;omega
 have hA:kD q (N:Nat)=((q/16:Nat):Int):=by unfold kD;rw[if_neg hnd];split <;> omega
 have hB:kE q (N:Nat)=((q/16+1:Nat):Int):=by unfold kE;rw[if_neg hnd];split <;> omega
 have hfb:q/16<N:=zO;have hlb:q/16+1<N:=zO;rw[hA,hB]at HNe;have HU1:=zH (rC b _ G R M St (q/16) s K W h (HF s K · _ hfb));have HU2:=zH (fun(s1:σ) (K1:Nat->Option Kb) (V:World) (h1:R s1 K1 V)=>rC b _ G R M St (q/16+1) s1 K1 V h1 (HF s1 K1 · _ hlb));obtain⟨f,hf⟩:=zG (q/16);obtain⟨l,hl⟩:=zG (q/16+1);rw[<-hl]at HU2 HNe hB;rw[<-hf]at HU1 HNe hA;have e1:((f:Int) != (q:Int)/16)=false:=by
  have:(f:Int)=(q:Int)/16:=zO;simpa using this
 have e2:((f:Int) != (l:Int))=true:=by
  have:¬(f:Int)=(l:Int):=zO;simpa using this
 have HFl:=zH (And.intro hf hl);have HE:=zH (And.intro hA hB);have HM:=zH M;have HK64:=zH hG;have HCase:=zH hcase;have hlen2:(len:Int)<=1048576:=zO;have hq2:(q:Int)<len:=zO;have HsL:Hid ((zP.info? 57).map (·.size)=some 16):=zH zK;have Hs4:Hid ((zP.info? 44).map (·.size)=some 4):=zH zK;clear hcu0 M h HF hG hcase hnd hA hB hfb hlb hf hl hN hcn;go_enter func12,ntmps12
 go_wp2_with fail
 refine HL.o.mono ?_;rintro e w1 ⟨rfl,rfl⟩;clear HL
 go_wp2_with fail
 refine HCo.o.mono ?_;rintro e w1 ⟨rfl,rfl⟩;clear HCo
 go_wp2_with fail
 refine HNe.o.mono ?_;rintro e w1 ⟨rfl,rfl⟩;clear HNe c24
 go_wp2_with fail
 refine HU1.o.mono ?_;rintro e V1 ⟨x,s1,K1,rfl,hx1,hxb,hxg,hx2,hr1⟩;have HXg:=zH hxg;have HU2:=zH (HU2.o s1 K1 V1 hr1);have HX0:=zH hx2;clear HU1 hx1 hxb hx2 hr1 hxg
 go_wp2_with fail
 refine HU2.o.mono ?_;rintro e V2 ⟨m,s2,K2,rfl,hm1,hmb,hmg,hm2,hr2⟩;have HMg:=zH hmg;obtain⟨j,hj,hxj⟩:=hm2.keep HX0.o.first
 obtain⟨V5,ms5,fr5,hcu⟩:=HM.o.at_ hr2;have HX:=zH (And.intro HX0.o (And.intro trivial (hcu.k j hj x hxj).1));have HMm:=zH (And.intro hm2 (And.intro trivial hm1));have HR2:=zH hr2;have HLp:Hid (∀V,Old V2 V->∀k,k<16->V.cell? ⟨b,25+k,none⟩=some (vI iJ (tI k))):=zH fun V o k hk=>(o.cell (a:=⟨b,25+k,none⟩) hcu.lt).trans (by
  have:=hcu.cA (4+k) zO;rw[show 21+(4+k)=25+k by omega]at this;rw[this];unfold lW;rw[if_neg zO,if_neg zO,if_neg zO,if_neg zO,show 4+k-4=k by omega])
 have HGn:Hid (∀V,Old V2 V->∀k,k<4->V.cell? ⟨x.b,17+k,none⟩=some (vI iJ (x.G k))):=zH fun V o k hk=>(o.cell (a:=⟨x.b,17+k,none⟩) HX.o.2.2.lt).trans (HX.o.2.2.gains k hk);have cx:V2.cell? ⟨x.b,0,none⟩=some (vI iJ f):=by have:=HX.o.2.2.num;rw[HX0.o.num]at this;exact this
 have HOn:=zH (fun V (o:Old V2 V)=>NA x.b 1 m.b 1 (q%16) x.F m.F x.G V (Nat.lt_of_lt_of_le HX.o.2.2.lt o.size) (Nat.lt_of_lt_of_le HMm.o.2.2.lt o.size) (fun k hk=>(o.cell (a:=⟨x.b,1+k,none⟩) HX.o.2.2.lt).trans (HX.o.2.2.wave k hk)) (fun k hk=>(o.cell (a:=⟨m.b,1+k,none⟩) HMm.o.2.2.lt).trans (HMm.o.2.2.wave k hk)) zO);rw[<-AE.symm,show ((q%16:Nat):Int)=(q:Int)%16 by omega]at HOn;obtain⟨y,hy⟩:=zG (fZ (iL x.F m.F (q%16)) (mG x.G ((q:Int)%16)));rw[<-hy]at HOn;have HY:=zH hy;have HSt:=zH (fun V=>IV y V);clear hcu hm1 hmb hmg hm2 hr2 hxj hj HU2 hy
 go_wp2_with fail
 have HD:Hid (Old V2 V2.drew):=zH (Old.refl V2).drew;refine wp_region_held_drew (S:=(fun V=>Old V2 V)) zK ?_ (fun hHeld=>?_)
 ·(try dsimp only);exact HD.o
 refine (uU 0) ((uU 1) ((uU 2) ?_));refine (uT 3 (v:=.agg (aA 16 (blk tI))) rfl (aX 16 tI zK 57 (.tmp 51) rfl b 25 rfl _ (fun V h=>HLp.o V h) underlying57 rfl HsL.o)) ?_;refine (uU 4) ((uU 5) ((uU 6) ((uU 7) ((uU 8) ((uU 9) ((uU 10) ?_))))));refine (uT 11 (v:=.agg (aA 4 (blk x.G))) rfl (aX 4 x.G zK 44 (.tmp 59) rfl x.b 17 rfl _ (fun V h=>HGn.o V h) underlying44 rfl Hs4.o)) ?_;refine (uU 12) ((uU 13) ?_);refine wpR 14 rfl (fun K hK=>?_);go_simp;refine(HOn.o _ HD.o).mono ?_;rintro e V3 ⟨rfl,o3⟩;have HO3:=zH (HD.o.trans o3);clear o3
 go_wp2_with fail
 refine hK.out _ _ ?_ (fun hHeld=>?_)
 ·(try dsimp only);exact HO3.o
 clear hK K
 try simp only[Act.put,sA,sZ,sS]
 refine wpR 15 rfl (fun K hK=>?_);go_simp;refine(HSt.o _).mono ?_;rintro e V4 ⟨rfl,rfl⟩
 go_wp2_with fail
 refine hK.out _ _ ?_ (fun hHeld=>?_)
 ·(try dsimp only);exact HO3.o
 clear hK K;refine (uU 16) ?_;refine wpAnyH_done zK ?_ _
 go_wp2_with fail
 go_ret;refine⟨oG y,s2,K2,rfl,⟨x,m,s1,K1,HXg.o,HMg.o,?_,?_,?_⟩,HM.o.old HR2.o HO3.o⟩
 ·rw[HE.o.1];exact HX0.o
 ·rw[HE.o.2];exact HMm.o.1
 ·have n1:=HX0.o.num;have n2:=HMm.o.1.num;have hc:=HCase.o;have hfl:=HFl.o;rw[HY.o];unfold TA;rw[show ((q%16:Nat):Int)=(q:Int)%16 by omega];congr 1;rw[if_pos hc];dsimp only;rw[if_pos (show q/16=x.n by omega),if_pos (show q/16=x.n by omega),if_neg (show ¬(q/16+1=x.n) by omega)]
theorem aAR(b:Nat)(fb:Nat)(i ch:Int)(len:Nat){σ:Type}(R:σ->(Nat->Option Kb)->World->Prop)(G:Kb->Prop)(M:CuM b (lW fb i ch len) G R)(St:σ->Kb->σ->Prop)(q:Nat)(hq:q<len)(hlen:len<=1048576)(s:σ)(K:Nat->Option Kb)(W:World)(h:R s K W)
  (HF:∀s K V n,n<cW len->R s K V->Calls zP 74 #[.pointer (some ⟨b,0,none⟩),vI iJ n] V fun e V'=>∃kb s',e=rJ (.pointer (some ⟨kb.b,0,none⟩))/\kb.n=n/\KbAt V' kb/\kb.b≠b/\G kb/\St s kb s'/\R s' K V')
  (hG:∀x,G x->VE x.F) (hcase:q%16<8/\1<=q/16):
  Calls zP 12 #[.pointer (some ⟨b,0,none⟩),vI iJ q] W fun e V=>∃v s' K',e=rJ (vI iJ v)/\AtR (cW len) G K s St q v s' K'/\R s' K' V:=by
 obtain⟨V0,ms0,fr0,hcu0⟩:=M.at_ h;have HL:=zH (iD b len W (hcu0.cA 3 zO));have c24:W.cell? ⟨b,24,none⟩=some (vI iJ len):=hcu0.cA 3 zO;have HCo:=zH (iO (len:Int) W zO zO);rw[lN]at HCo;have hcn:cW len=(len+15)/16:=rfl;obtain⟨N,hN⟩:=zG (cW len);rw[<-hN]at HCo hcn HF |-
 try rw[<-hN]at hcase
 have HNe:=zH (DC (q:Int) (N:Nat) W zO zO zO zO);have hnd:¬gO (q:Int) (N:Nat):=by unfold gO;omega
 have hA:kD q (N:Nat)=((q/16-1:Nat):Int):=by unfold kD;rw[if_neg hnd];split <;> omega
 have hB:kE q (N:Nat)=((q/16:Nat):Int):=by unfold kE;rw[if_neg hnd];split <;> omega
 have hfb:q/16-1<N:=zO;have hlb:q/16<N:=zO;rw[hA,hB]at HNe;have HU1:=zH (rC b _ G R M St (q/16-1) s K W h (HF s K · _ hfb));have HU2:=zH (fun(s1:σ) (K1:Nat->Option Kb) (V:World) (h1:R s1 K1 V)=>rC b _ G R M St (q/16) s1 K1 V h1 (HF s1 K1 · _ hlb));obtain⟨f,hf⟩:=zG (q/16-1);obtain⟨l,hl⟩:=zG (q/16);rw[<-hf]at HU1 HNe hA;rw[<-hl]at HU2 HNe hB;have e1:((f:Int) != (q:Int)/16)=true:=by
  have:¬(f:Int)=(q:Int)/16:=zO;simpa using this
 have e2:((f:Int) != (l:Int))=true:=by
  have:¬(f:Int)=(l:Int):=zO;simpa using this
 have HFl:=zH (And.intro hf hl);have HE:=zH (And.intro hA hB);have HM:=zH M;have HK64:=zH hG;have HCase:=zH hcase;have hlen2:(len:Int)<=1048576:=zO;have hq2:(q:Int)<len:=zO;have HsL:Hid ((zP.info? 57).map (·.size)=some 16):=zH zK;have Hs4:Hid ((zP.info? 44).map (·.size)=some 4):=zH zK;clear hcu0 M h HF hG hcase hnd hA hB hfb hlb hf hl hN hcn;go_enter func12,ntmps12
 go_wp2_with fail
 refine HL.o.mono ?_;rintro e w1 ⟨rfl,rfl⟩;clear HL
 go_wp2_with fail
 refine HCo.o.mono ?_;rintro e w1 ⟨rfl,rfl⟩;clear HCo
 go_wp2_with fail
 refine HNe.o.mono ?_;rintro e w1 ⟨rfl,rfl⟩;clear HNe c24
 go_wp2_with fail
 refine HU1.o.mono ?_;rintro e V1 ⟨x,s1,K1,rfl,hx1,hxb,hxg,hx2,hr1⟩;have HXg:=zH hxg;have HU2:=zH (HU2.o s1 K1 V1 hr1);have HX0:=zH hx2;clear HU1 hx1 hxb hx2 hr1 hxg
 go_wp2_with fail
 refine HU2.o.mono ?_;rintro e V2 ⟨m,s2,K2,rfl,hm1,hmb,hmg,hm2,hr2⟩;have HMg:=zH hmg;obtain⟨j,hj,hxj⟩:=hm2.keep HX0.o.first
 obtain⟨V5,ms5,fr5,hcu⟩:=HM.o.at_ hr2;have HX:=zH (And.intro HX0.o (And.intro trivial (hcu.k j hj x hxj).1));have HMm:=zH (And.intro hm2 (And.intro trivial hm1));have HR2:=zH hr2;have HLp:Hid (∀V,Old V2 V->∀k,k<16->V.cell? ⟨b,25+k,none⟩=some (vI iJ (tI k))):=zH fun V o k hk=>(o.cell (a:=⟨b,25+k,none⟩) hcu.lt).trans (by
  have:=hcu.cA (4+k) zO;rw[show 21+(4+k)=25+k by omega]at this;rw[this];unfold lW;rw[if_neg zO,if_neg zO,if_neg zO,if_neg zO,show 4+k-4=k by omega])
 have HGn:Hid (∀V,Old V2 V->∀k,k<4->V.cell? ⟨m.b,17+k,none⟩=some (vI iJ (m.G k))):=zH fun V o k hk=>(o.cell (a:=⟨m.b,17+k,none⟩) HMm.o.2.2.lt).trans (HMm.o.2.2.gains k hk);have cx:V2.cell? ⟨x.b,0,none⟩=some (vI iJ f):=by have:=HX.o.2.2.num;rw[HX0.o.num]at this;exact this
 have HOn:=zH (fun V (o:Old V2 V)=>NA m.b 1 x.b 1 (q%16) m.F x.F m.G V (Nat.lt_of_lt_of_le HMm.o.2.2.lt o.size) (Nat.lt_of_lt_of_le HX.o.2.2.lt o.size) (fun k hk=>(o.cell (a:=⟨m.b,1+k,none⟩) HMm.o.2.2.lt).trans (HMm.o.2.2.wave k hk)) (fun k hk=>(o.cell (a:=⟨x.b,1+k,none⟩) HX.o.2.2.lt).trans (HX.o.2.2.wave k hk)) zO);rw[<-AE.symm,show ((q%16:Nat):Int)=(q:Int)%16 by omega]at HOn;obtain⟨y,hy⟩:=zG (fZ (iL m.F x.F (q%16)) (mG m.G ((q:Int)%16)));rw[<-hy]at HOn;have HY:=zH hy;have HSt:=zH (fun V=>IV y V);clear hcu hm1 hmb hmg hm2 hr2 hxj hj HU2 hy
 go_wp2_with fail
 have HD:Hid (Old V2 V2.drew):=zH (Old.refl V2).drew;refine wp_region_held_drew (S:=(fun V=>Old V2 V)) zK ?_ (fun hHeld=>?_)
 ·(try dsimp only);exact HD.o
 refine (uU 0) ((uU 1) ((uU 2) ?_));refine (uT 3 (v:=.agg (aA 16 (blk tI))) rfl (aX 16 tI zK 57 (.tmp 51) rfl b 25 rfl _ (fun V h=>HLp.o V h) underlying57 rfl HsL.o)) ?_;refine (uU 4) ((uU 5) ((uU 6) ((uU 7) ((uU 8) ((uU 9) ((uU 10) ?_))))));refine (uT 11 (v:=.agg (aA 4 (blk m.G))) rfl (aX 4 m.G zK 44 (.tmp 59) rfl m.b 17 rfl _ (fun V h=>HGn.o V h) underlying44 rfl Hs4.o)) ?_;refine (uU 12) ((uU 13) ?_);refine wpR 14 rfl (fun K hK=>?_);go_simp;refine(HOn.o _ HD.o).mono ?_;rintro e V3 ⟨rfl,o3⟩;have HO3:=zH (HD.o.trans o3);clear o3
 go_wp2_with fail
 refine hK.out _ _ ?_ (fun hHeld=>?_)
 ·(try dsimp only);exact HO3.o
 clear hK K
 try simp only[Act.put,sA,sZ,sS]
 refine wpR 15 rfl (fun K hK=>?_);go_simp;refine(HSt.o _).mono ?_;rintro e V4 ⟨rfl,rfl⟩
 go_wp2_with fail
 refine hK.out _ _ ?_ (fun hHeld=>?_)
 ·(try dsimp only);exact HO3.o
 clear hK K;refine (uU 16) ?_;refine wpAnyH_done zK ?_ _
 go_wp2_with fail
 go_ret;refine⟨oG y,s2,K2,rfl,⟨x,m,s1,K1,HXg.o,HMg.o,?_,?_,?_⟩,HM.o.old HR2.o HO3.o⟩
 ·rw[HE.o.1];exact HX0.o
 ·rw[HE.o.2];exact HMm.o.1
 ·have n1:=HX0.o.num;have n2:=HMm.o.1.num;have hc:=HCase.o;have hfl:=HFl.o;rw[HY.o];unfold TA;rw[show ((q%16:Nat):Int)=(q:Int)%16 by omega];congr 1;rw[if_neg (show ¬(8<=q%16/\q/16+1<N) by omega),if_pos hc];dsimp only;rw[if_neg (show ¬(q/16=x.n) by omega),if_neg (show ¬(q/16=x.n) by omega),if_pos (show q/16-1=x.n by omega)]
theorem aEQ(b:Nat)(fb:Nat)(i ch:Int)(len:Nat){σ:Type}(R:σ->(Nat->Option Kb)->World->Prop)(G:Kb->Prop)(M:CuM b (lW fb i ch len) G R)(St:σ->Kb->σ->Prop)(q:Nat)(hq:q<len)(hlen:len<=1048576)(s:σ)(K:Nat->Option Kb)(W:World)(h:R s K W)
  (HF:∀s K V n,n<cW len->R s K V->Calls zP 74 #[.pointer (some ⟨b,0,none⟩),vI iJ n] V fun e V'=>∃kb s',e=rJ (.pointer (some ⟨kb.b,0,none⟩))/\kb.n=n/\KbAt V' kb/\kb.b≠b/\G kb/\St s kb s'/\R s' K V')
  (hG:∀x,G x->VE x.F):
  Calls zP 12 #[.pointer (some ⟨b,0,none⟩),vI iJ q] W fun e V=>∃v s' K',e=rJ (vI iJ v)/\AtR (cW len) G K s St q v s' K'/\R s' K' V:=by
 by_cases h1:8<=q%16/\q/16+1<cW len
 ·exact aDX b fb i ch len R G M St q hq hlen s K W h HF hG h1
 ·by_cases h2:q%16<8/\1<=q/16
  ·exact aAR b fb i ch len R G M St q hq hlen s K W h HF hG h2
  ·exact aDR b fb i ch len R G M St q hq hlen s K W h HF hG ⟨h1,h2⟩
end Go.Proofs.YticpdokbiblpoaaGreatDoor
