/- Texts joined: FrReadL. -/
import Derived.Test.YticpdokbiblpoaaGreatDoorPkAI
import Derived.Test.YticpdokbiblpoaaGreatDoorTk
set_option linter.unusedVariables false
set_option maxHeartbeats 4000000
namespace Go.Proofs.YticpdokbiblpoaaGreatDoor
open Go.Proofs.Tryz
open Go.Proofs.Tryz renaming prog → zP
open Go.Value renaming int → vI
open Go.IntKind renaming i64 → iJ
open Go.Ending renaming returned → rJ
set_option maxRecDepth 100000
open Go.RowKit Go.ChangeShapes Go.WideShapes
def aFE(w:World)(bs:List Int)(e:Ending)(w':World):Prop:=
 ∃F n p cap T er,e=rJ (.tuple #[.agg (aA 29 (aR F (.slice p n cap))),vI iJ er])/\Old w w'/\n<=cap/\cap<=maxLen/\SlF 2 w' p n T/\aD T/\(er=0\/er=2\/er=4) /\
  (er=0->mC F n T/\kC bs (enc F n T))/\(er≠0->n=0/\p=none/\∀k,F k=0) /\
  (∀F0 n0 T0,mC F0 n0 T0->kC bs (enc F0 n0 T0)->er=0/\mO F n T F0 n0 T0)/\(0<n->∀a,p=some a->w.heap.size<=a.block)
def EV(T:nI)(n:Nat):nI:=fun j=>if j<2*n then T j else 0
theorem rD(T:nI)(n j:Nat)(h:j<2*n):EV T n j=T j:=if_pos h
theorem vT{F G:nI}{n:Nat}{T U:nI}(h:∀k,k<29->k≠4->F k=G k)(hT:∀j,j<2*n->T j=U j):enc F n T=enc G n U:=
 sO (fun j hj=>h j zO zO) hT (fun j hj=>⟨h _ zO zO,h _ zO zO⟩) (fun j hj=>h _ zO zO) zO
theorem aFh{F:nI}{n:Nat}{T:nI}(h:mC F n T):mC F n (EV T n)/\aD (EV T n):=by
 have hT:∀k,k<n->0<=EV T n (2*k)/\EV T n (2*k)<=15/\eK (EV T n (2*k+1)) 24=true/\(0<k->EV T n (2*(k-1))<EV T n (2*k)):=fun k hk=>by
  rw[rD T n _ zO,rD T n _ zO,rD T n _ zO];exact h.ht k hk
 refine⟨⟨h.hg,h.hs,h.hw,h.hq,h.hn,hT⟩,fun j=>?_⟩;by_cases hj:j<2*n
 ·rcases Nat.mod_two_eq_zero_or_one j with h0 | h1
  ·have:=hT (j/2) zO;rw[show 2*(j/2)=j by omega]at this;omega
  ·have:=hT (j/2) zO;rw[show 2*(j/2)+1=j by omega]at this;have:=(mT _ 24 zO zO this.2.2.1).2;omega
 ·unfold EV;rw[if_neg hj];omega
theorem aFk{w:World}{X:Nat->Prop}{p:Option Addr}{n cap rb:Nat}{T:nI}{z:Array Value}(h:ownS X w 209 2 (.slice p n cap) n (eH (2*n) T))(hres:w.heap[rb]?=some (.cells z 98 (0,0)))(cs:Array Value):
  n<=cap/\cap<=maxLen/\SlF 2 (w.setRow rb cs) p n T:=by
 rcases h.1.2 with ⟨hv,h0⟩ | ⟨g,cap',cur,hv,_,hh,_⟩
 ·injection hv with _ _ e
  subst e;exact⟨zO,Nat.zero_le _,fun h=>zO⟩
 ·rcases h.shape with ⟨hv2,h0⟩ | ⟨g2,cap2,hv2,_,hg,hk,hc,hcell⟩
  ·rw[hv2]at hv;cases hv
  ·injection hv2 with e1 _ e2
   subst e1 e2;have hgg:g=g2:=(by simpa using hv.symm:g=g2/\_).1;subst hgg;have hne:g≠rb:=fun e=>by
    subst e;rw[hh]at hres;simp only[Option.some.injEq,Obj.cells.injEq]at hres;exact absurd hres.2.1 zD
   refine⟨hk,hc,fun _=>⟨g,0,rfl,by simpa using hg,fun j hj=>?_⟩⟩;rw[Nat.zero_add];exact(World.cell?_of_block (a:=⟨g,j,none⟩) (setRow_other _ _ _ _ hne)).trans (hcell j _ (uD _ _ _ hj))
theorem aAi{w:World}{rb fb b:Nat}{z:Array Value}{bs:List Int}{F:nI}{s:Value}{n:Nat}{T:nI}{er:Int}{wr:World}(h:RS w rb fb b z bs (lU F n T 16) F s n T ((HA F n T/\SA F 4)/\QA F 16) (fun F0 n0 T0=>(HC F n T F0 n0 T0/\SC F 4 F0)/\QC F 16 F0) er wr):
  Calls zP 155 #[.pointer (some ⟨b,0,none⟩)] wr fun e w1=>∃r,e=rJ (vI iJ r)/\Kept (bH wr b) wr w1/\(r=0\/r=2\/r=4)/\(r=0->mC F n T/\kC bs (enc F n T)) /\
   (∀F0 n0 T0,mC F0 n0 T0->kC bs (enc F0 n0 T0)->r=0/\mO F n T F0 n0 T0):=by
 obtain⟨i,hr,hl,he⟩:=h.rd;refine(aGj b bs i er wr hr).mono ?_;rintro e w1 ⟨rfl,_,hk⟩;refine⟨lJ bs i er,rfl,hk,?_,fun h0=>?_,fun F0 n0 T0 hP hp=>?_⟩
 ·unfold lJ;split
  ·split
   ·exact .inl rfl
   ·exact .inr (.inr rfl)
  ·exact he
 ·unfold lJ at h0;by_cases h1:er=0
  ·rw[if_pos h1]at h0;obtain⟨h2,h3⟩:=hl h1;have h4:oZ bs i=true:=by
    cases e:oZ bs i with
    | true=>rfl
    | false=>rw[e]at h0;simp at h0
   obtain⟨⟨⟨a1,a2⟩,a3⟩,a4⟩:=h.good h1;exact⟨⟨a1,fun k hk=>(a3 k hk).1,fun k hk=>(a3 k hk).2,a4,a2.1,a2.2⟩,h2,by rw[h3]at h4;exact h4⟩
  ·rw[if_neg h1]at h0;exact absurd h0 h1
 ·obtain⟨h1,⟨⟨⟨c1,rfl,c2⟩,c3⟩,c4⟩⟩:=h.back F0 n0 T0 hP hp.1;have hs:mO F n T F0 n T0:=⟨rfl,c2,fun k hk k4=>by
   by_cases e1:k<4
   ·exact c1 k e1
   by_cases e2:k<9
   ·have:=(c3 (k-5) zO).1
    rwa [show 5+(k-5)=k by omega]at this
   by_cases e3:k<13
   ·have:=(c3 (k-9) zO).2
    rwa [show 9+(k-9)=k by omega]at this
   ·have:=c4 (k-13) zO
    rwa [show 13+(k-13)=k by omega]at this⟩
  refine⟨?_,hs⟩;obtain⟨h2,h3⟩:=hl h1;have hE:enc F n T=enc F0 n T0:=vT hs.2.2 hs.2.1;have h4:=hp.2;rw[<-hE,show (enc F n T).length=i from h3.symm]at h4;unfold lJ;rw[if_pos h1,if_pos h4]
theorem QQ(v:Value)(bs:List Int)(w:World)(hv:kK w .u8 v bs)(hbt:qJ bs)(hl:bs.length<=4294967296):
  Calls zP 109 #[v] w (aFE w bs):=by
 have Hs29:Hid ((zP.info? 98).map (·.size)=some 29):=zH zK;obtain⟨z,hz⟩:∃z:Array Value,z=#[vI iJ 0,vI iJ 0,vI iJ 0,vI iJ 0,Value.slice none 0 0,vI iJ 0,vI iJ 0,vI iJ 0,vI iJ 0,vI iJ 0,vI iJ 0,vI iJ 0,vI iJ 0,vI iJ 0,vI iJ 0,vI iJ 0,vI iJ 0,vI iJ 0,vI iJ 0,vI iJ 0,vI iJ 0,vI iJ 0,vI iJ 0,vI iJ 0,vI iJ 0,vI iJ 0,vI iJ 0,vI iJ 0,vI iJ 0]:=⟨_,rfl⟩
 have hzs:z.size=29:=by rw[hz];rfl
 have hzf:aA 29 (aR (fun _=>0) (.slice none 0 0))=z:=by rw[eZ,hz]
 obtain⟨W2,hW2⟩:=zG (((w.alloc (.cells z 98)).alloc (.cells z 98)));have hO2:Old w W2:=by rw[hW2];exact(Old.alloc w _).alloc' _
 have hrb:W2.heap[w.heap.size]?=some (.cells z 98 (0,0)):=by rw[hW2];exact heap_alloc2_old w _ _
 have hfb:FrB 98 W2 (w.heap.size+1) (fun _=>0) (.slice none 0 0):=by unfold FrB;rw[hzf,hW2];exact heap_alloc2_new w _ _
 have HRd:=zH (aCh v bs W2 (hv.old hO2) hbt hl);have hs2:W2.heap.size=w.heap.size+1+1:=by rw[hW2];simp
 have HW2:Hid (((w.alloc (.cells #[vI iJ 0,vI iJ 0,vI iJ 0,vI iJ 0,Value.slice none 0 0,vI iJ 0,vI iJ 0,vI iJ 0,vI iJ 0,vI iJ 0,vI iJ 0,vI iJ 0,vI iJ 0,vI iJ 0,vI iJ 0,vI iJ 0,vI iJ 0,vI iJ 0,vI iJ 0,vI iJ 0,vI iJ 0,vI iJ 0,vI iJ 0,vI iJ 0,vI iJ 0,vI iJ 0,vI iJ 0,vI iJ 0,vI iJ 0] 98)).alloc (.cells #[vI iJ 0,vI iJ 0,vI iJ 0,vI iJ 0,Value.slice none 0 0,vI iJ 0,vI iJ 0,vI iJ 0,vI iJ 0,vI iJ 0,vI iJ 0,vI iJ 0,vI iJ 0,vI iJ 0,vI iJ 0,vI iJ 0,vI iJ 0,vI iJ 0,vI iJ 0,vI iJ 0,vI iJ 0,vI iJ 0,vI iJ 0,vI iJ 0,vI iJ 0,vI iJ 0,vI iJ 0,vI iJ 0,vI iJ 0] 98))=W2):=zH (by rw[hW2,hz]);have Hz:=zH hz;have HO2:=zH hO2;have Hrb:=zH hrb;have Hfb:=zH hfb;have Hs2:=zH hs2;have Hzs:=zH hzs;have Hzf:=zH hzf;clear hz hzf hW2 hO2 hrb hfb hs2 hzs hv hbt hl;go_enter func109,ntmps109
 go_wp2_with fail
 rw[HW2.o];refine HRd.o.mono ?_;rintro e w3 ⟨b,rfl,hr,ho,hb⟩
 have hst:RS w w.heap.size (w.heap.size+1) b z bs [] (fun _=>0) (.slice none 0 0) 0 (fun _=>0) True (fun _ _ _=>True) 0 w3:={
  rd:=⟨0,hr,fun _=>⟨List.nil_prefix,rfl⟩,.inl rfl⟩
  fr:=Hfb.o.old ho
  res:=(ho.block _ (lt_of_block Hrb.o)).trans Hrb.o
  own:=ownS.nil _ _ _ _
  old:=HO2.o.trans ho
  nrb:=Nat.le_refl _
  nfb:=Nat.le_succ _
  nb:=by have:=Hs2.o;omega
  ne:=zO
  wb:=fun j hj=>⟨Int.le_refl _,zO⟩
  good:=fun _=>trivial
  back:=fun _ _ _ _ _=>⟨rfl,trivial⟩ }
 have HW:=zH (aBJ hst.rd 1 1 zO zO);have HST:=zH hst;clear hr ho hb hst HRd HW2 Hrb Hfb HO2 Hs2;generalize hfbn:w.heap.size+1=fb at *;generalize hrbn:w.heap.size=rb at HST |-;clear hfbn hrbn
 go_wp2_with fail
 refine HW.o.mono ?_;rintro e w4 ⟨x,er,rfl,k4,r4,e4,b4,c4⟩;have hst:RS w rb fb b z bs (kJ (fun _=>0) 0) (fun _=>0) (.slice none 0 0) 0 (fun _=>0) (GA (fun _=>0) 0) (fun F0 _ _=>GC (fun _=>0) 0 F0) er w4:=by
  by_cases hx:x=1
  ·subst hx;refine HST.o.mv k4 (r4.congr (by rw[jJ];rfl)) (fun h0=>⟨rfl,fun _ j hj=>zO⟩) (fun F0 n0 T0 hP hp _ _=>⟨?_,fun j hj=>zO⟩);have hp2:=(CZ F0 n0 T0 (k:=0) zO).trans hp;rw[jJ]at hp2;exact(c4 1 rfl zO zO zO hp2).1
  ·have hne:er≠0:=fun h0=>by have:=(e4 h0).2;omega
   obtain⟨i,q1,q2,q3⟩:=r4;refine HST.o.mv k4 ⟨i,q1,fun h0=>absurd h0 hne,q3⟩ (fun h0=>absurd h0 hne) (fun F0 n0 T0 hP hp _ _=>?_);have hp2:=(CZ F0 n0 T0 (k:=0) zO).trans hp;rw[jJ]at hp2;exact absurd (c4 1 rfl zO zO zO hp2).1 hne
 clear HST k4 r4 e4 b4 c4 HW;have HST:=zH hst;clear hst
 go_wp2_with fail
 go_loopw [14] (fun i wr=>∃k:Nat,k<=4/\i=vI iJ k/\Hid (∃F er,RS w rb fb b z bs (kJ F k) F (.slice none 0 0) 0 (fun _=>0) (GA F k) (fun F0 _ _=>GC F k F0) er wr)) (fun i _=>4-(intOf i).toNat)
 case atStart=>exact⟨0,zO,rfl,⟨_,_,HST.o⟩⟩
 case round=>
  obtain⟨k,hk,rfl,hs⟩:=hrel;obtain⟨wo,rfl⟩:∃V,V=wr:=⟨_,rfl⟩
  clear HST;by_cases hlt:k<4
  ·have i1:(0:Int)<=k:=zO;have i2:(k:Int)<4:=zO;obtain⟨F,er,h⟩:=hs.o;have HW:=zH (aBJ h.rd 0 3 zO zO);have HH:=zH h;clear hs h
   go_wp2_with fail
   refine HW.o.mono ?_;rintro e w5 ⟨x,er1,rfl,k5,r5,e5,b5,c5⟩;have hn:=HH.o.gain hlt k5 r5 e5 c5;have hf5:FrB 98 w5 fb F (.slice none 0 0):=HH.o.fr.kept k5 ⟨lt_of_block HH.o.fr,HH.o.fne⟩;have HN:=zH hn;obtain⟨d0,d1⟩:=hf5.cell k zO zO;clear k5 r5 e5 b5 c5 hn hf5 HW HH
   go_wp2_with fail
   go_roundw
   case rel=>exact⟨k+1,zO,by go_num,⟨_,_,HN.o⟩⟩
   case measure=>exact zM
  ·obtain rfl:k=4:=zO;obtain⟨F,er,h⟩:=hs.o;have HW:=zH (EN h.rd);have HH:=zH h;clear hs h hlt hk
   go_wp2_with fail
   refine HW.o.mono ?_;rintro e w5 ⟨n,p,cap,T,er1,rfl,n2,hrt⟩;have hn:=HH.o.tones n2 hrt;have hf5:FrB 98 w5 fb F (.slice none 0 0):=HH.o.fr.kept hrt.kept ⟨lt_of_block HH.o.fr,HH.o.fne⟩
   have HN:Hid (RS w rb fb b z bs (jA F n T 0) F (.slice p n cap) n T (HA F n T/\SA F 0) (fun F0 n0 T0=>HC F n T F0 n0 T0/\SC F 0 F0) er1 (w5.setCell ⟨fb,4,none⟩ (.slice p n cap))):=zH { hn with
    good:=fun h0=>⟨hn.good h0,fun j hj=>zO⟩
    back:=fun F0 n0 T0 hP hp=>⟨(hn.back F0 n0 T0 hP hp).1,(hn.back F0 n0 T0 hP hp).2,fun j hj=>zO⟩ }
   obtain⟨d0,d1⟩:=hf5.cell4;clear hrt hn hf5 HW HH
   go_wp2_with fail
   try rw[show ((4:Nat):Int)=4 from rfl]
   go_loopw [26] (fun i wr=>∃k:Nat,k<=4/\i=vI iJ k/\Hid (∃F er,RS w rb fb b z bs (jA F n T k) F (.slice p n cap) n T (HA F n T/\SA F k) (fun F0 n0 T0=>HC F n T F0 n0 T0/\SC F k F0) er wr)) (fun i _=>4-(intOf i).toNat)
   case atStart=>exact⟨0,zO,rfl,⟨_,_,HN.o⟩⟩
   case round=>
    obtain⟨k,hk,rfl,hs⟩:=hrel;obtain⟨wo,rfl⟩:∃V,V=wr:=⟨_,rfl⟩
    clear HN;by_cases hlt:k<4
    ·have i1:(0:Int)<=k:=zO;have i2:(k:Int)<4:=zO;obtain⟨F,er,h⟩:=hs.o;have HW:=zH (aGD h.rd 0 23 zO zO);have HH:=zH h;clear hs h d0 d1
     go_wp2_with fail
     refine HW.o.mono ?_;rintro e w6 ⟨x,er1,rfl,k6,r6,e6,b6,c6⟩;have hn:=HH.o.scale hlt k6 r6 e6 c6;have hf6:FrB 98 w6 fb F (.slice p n cap):=HH.o.fr.kept k6 ⟨lt_of_block HH.o.fr,HH.o.fne⟩;have HW2:=zH (aGD hn.rd 0 24 zO zO);have HN:=zH hn;obtain⟨d0,d1⟩:=hf6.cell (5+k) zO zO;clear k6 r6 e6 b6 c6 hn hf6 HW HH
     go_wp2_with fail
     refine HW2.o.mono ?_;rintro e w7 ⟨y,er2,rfl,k7,r7,e7,b7,c7⟩;have hn2:=HN.o.width (rY F (5+k) x) hlt k7 r7 e7 b7 c7;have hf7:=HN.o.fr.kept k7 ⟨lt_of_block HN.o.fr,HN.o.fne⟩;have HN2:=zH hn2;obtain⟨d2,d3⟩:=hf7.cell (9+k) zO zO;clear k7 r7 e7 b7 c7 hn2 hf7 HW2 HN d0 d1
     go_wp2_with fail
     go_roundw
     case rel=>exact⟨k+1,zO,by go_num,⟨_,_,HN2.o⟩⟩
     case measure=>exact zM
    ·obtain rfl:k=4:=zO;obtain⟨F,er,h⟩:=hs.o
     have HN:Hid (RS w rb fb b z bs (lU F n T 0) F (.slice p n cap) n T ((HA F n T/\SA F 4)/\QA F 0) (fun F0 n0 T0=>(HC F n T F0 n0 T0/\SC F 4 F0)/\QC F 0 F0) er wo):=zH { h with
      rd:=h.rd.congr (by rw[jI])
      good:=fun h0=>⟨h.good h0,fun j hj=>zO⟩
      back:=fun F0 n0 T0 hP hp=>⟨(h.back F0 n0 T0 hP hp).1,(h.back F0 n0 T0 hP hp).2,fun j hj=>zO⟩ }
     clear hs h hlt hk d0 d1
     go_wp2_with fail
     try rw[show ((4:Nat):Int)=4 from rfl]
     go_loopw [40] (fun i wr=>∃k:Nat,k<=16/\i=vI iJ k/\Hid (∃F er,RS w rb fb b z bs (lU F n T k) F (.slice p n cap) n T ((HA F n T/\SA F 4)/\QA F k) (fun F0 n0 T0=>(HC F n T F0 n0 T0/\SC F 4 F0)/\QC F k F0) er wr)) (fun i _=>16-(intOf i).toNat)
     case atStart=>exact⟨0,zO,rfl,⟨_,_,HN.o⟩⟩
     case round=>
      obtain⟨k,hk,rfl,hs⟩:=hrel;obtain⟨wp,rfl⟩:∃V,V=wr:=⟨_,rfl⟩
      clear HN;by_cases hlt:k<16
      ·have i1:(0:Int)<=k:=zO;have i2:(k:Int)<16:=zO;obtain⟨F,er,h⟩:=hs.o;obtain⟨m,hm⟩:=zF (k/4);have m0:(0:Int)<=m:=zO;have m1:(m:Int)<4:=zO;have HBd:=zH (fun w=>kZ k m w hlt hm);obtain⟨kk,hkk⟩:∃kk:Nat,F (9+m)=kk:=⟨(F (9+m)).toNat,by have:=(h.wb m zO).1;omega⟩
       have hkk57:kk<=57:=by have:=(h.wb m zO).2;omega
       have hc:=(h.fr.cell (9+m) zO zO).1;rw[hkk]at hc;have HSg:=zH (OY h.rd kk hkk57);have HN:Hid (∀w1 v er1,Kept (bH wp b) wp w1->rW w1 b bs er1 (lU F n T k ++ aK v kk)->(er1=0->er=0)->eK v kk=true->(∀v0,er=0->eC true v0 kk=true->(lU F n T k ++ aK v0 kk) <+: bY bs->er1=0/\v=v0)->(∃F er,RS w rb fb b z bs (lU F n T (k+1)) F (.slice p n cap) n T ((HA F n T/\SA F 4)/\QA F (k+1)) (fun F0 n0 T0=>(HC F n T F0 n0 T0/\SC F 4 F0)/\QC F (k+1) F0) er (w1.setCell ⟨fb,13+k,none⟩ (vI iJ v)))/\w1.cell? ⟨fb,13+k,none⟩=some (vI iJ (F (13+k)))/\w1.frozen? ⟨fb,13+k,none⟩=false):=zH fun w1 v er1 q1 q2 q3 q4 q5=>
        ⟨⟨_,_,h.step hlt hm hkk q1 q2 q3 q4 q5⟩,(h.fr.kept q1 ⟨lt_of_block h.fr,h.fne⟩).cell (13+k) zO zO⟩
       clear hs h hm hkk
       go_wp2_with fail
       refine(HBd.o _).mono ?_;rintro e w5 ⟨rfl,rfl⟩
       go_wp2_with fail
       refine HSg.o.mono ?_;rintro e w6 ⟨x,er1,rfl,k6,r6,e6,f6,c6⟩;obtain⟨hn,d0,d1⟩:=HN.o w6 x er1 k6 r6 e6 f6 c6;have HN2:=zH hn;clear k6 r6 e6 f6 c6 hn HN HSg HBd hc
       go_wp2_with fail
       go_roundw
       case rel=>exact⟨k+1,zO,by go_num,⟨HN2.o.choose,HN2.o.choose_spec.choose,HN2.o.choose_spec.choose_spec⟩⟩
       case measure=>exact zM
      ·obtain rfl:k=16:=zO;obtain⟨F,er,h⟩:=hs.o;have HE:=zH (aAi h);have HH:=zH h;clear hs h hlt hk
       go_wp2_with fail
       refine HE.o.mono ?_;rintro e w7 ⟨r,rfl,k7,r7,g7,c7⟩;have hres:=(k7.block rb ⟨lt_of_block HH.o.res,HH.o.rne⟩).trans HH.o.res;have hfr:=(HH.o.fr.kept k7 ⟨lt_of_block HH.o.fr,HH.o.fne⟩).blk;have hold:Old w w7:=Kept.trans HH.o.old (k7.mono fun q hq=>⟨Nat.lt_of_lt_of_le hq HH.o.old.size,fun e=>by have:=HH.o.nb;omega⟩);have hown:=HH.o.own.kept k7 fun q hq=>⟨HH.o.own.lt q hq,(HH.o.own_ne q hq).1⟩
       have Hres:=zH hres;have Hfr:=zH hfr;have Hold:=zH hold;have Hown:=zH hown;have Hnrb:=zH HH.o.nrb;have G7:=zH g7;have C7:=zH c7;have R7:=zH r7;clear k7 r7 g7 c7 hres hfr hold hown HE HH;by_cases hr:r=0
       ·subst hr;have H1:Hid ((aA 29 (aR F (.slice p n cap))).all (·.oneCell')=true):=zH (cN _ _ rfl)
        go_wp2_with (first | (with_reducible refine wpList_load_row rfl 98 _ rfl fb rfl 98 (aA 29 (aR F (.slice p n cap))) (0,0) _ Hfr.o underlying98 rfl (by rw[aB];exact Hs29.o) ?_) | (with_reducible refine wpList_store_row rfl 98 _ _ rfl rb (aA 29 (aR F (.slice p n cap))) rfl rfl 98 _ Hres.o (by rw[aB];exact Hs29.o) (by rw[aB];exact Hzs.o) H1.o ?_))
        have hrr:=bS Hres.o Hold.o Hnrb.o (aA 29 (aR F (.slice p n cap)));refine bodyPost_ret (bV rfl _ _ rb 98 (aA 29 (aR F (.slice p n cap))) (0,0) _ rfl hrr.1 underlying98 rfl (by rw[aB];exact Hs29.o)) rfl ?_;obtain⟨hb1,hb2,hb3⟩:=aFk Hown.o Hres.o (aA 29 (aR F (.slice p n cap)));obtain⟨g1,g2⟩:=(show mC F n T/\kC bs (enc F n T) from by first | exact G7.o rfl | exact G7.o trivial)
        obtain⟨f1,f2⟩:=aFh g1;refine⟨F,n,p,cap,EV T n,0,rfl,hrr.2,hb1,hb2,hb3.ext (fun j hj=>(rD T n j hj).symm),f2,.inl rfl,fun _=>⟨f1,?_⟩,fun h=>absurd rfl h,fun F0 n0 T0 hP hp=>?_,fun _ a ha=>by subst ha;exact Nat.le_of_not_lt (Hown.o.2 _ rfl)⟩
        ·rw[vT (F:=F) (G:=F) (fun _ _ _=>rfl) (fun j hj=>rD T n j hj)];exact g2
        ·obtain⟨a1,a2,a3,a4⟩:=C7.o F0 n0 T0 hP hp;exact⟨rfl,a2,fun j hj=>by rw[rD T n j hj];exact a3 j hj,a4⟩
       ·have hne:(r != 0)=true:=by simpa using hr
        have H1:Hid (z.all (·.oneCell')=true):=zH (by rw[<-Hzf.o];exact cN _ _ rfl);have Hi:Hid ((zP.info? 98).map (·.size)=some z.size):=zH (by rw[Hzs.o];exact Hs29.o);have HR:=zH hr;clear hr
        go_wp2_with (rw[<-Hz.o];with_reducible refine wpList_store_row rfl 98 _ _ rfl rb z rfl rfl 98 _ Hres.o Hi.o rfl H1.o ?_)
        have hrr:=bS Hres.o Hold.o Hnrb.o z;refine bodyPost_ret (bV rfl _ _ rb 98 z (0,0) _ rfl hrr.1 underlying98 rfl Hi.o) rfl ?_;refine⟨fun _=>0,0,none,0,fun _=>0,r,by rw[Hzf.o];rfl,hrr.2,Nat.le_refl _,Nat.zero_le _,fun h=>absurd h zO,fun _=>by dsimp only;omega,R7.o,fun h=>absurd h HR.o,fun _=>⟨rfl,rfl,fun _=>rfl⟩,fun F0 n0 T0 hP hp=>absurd (C7.o F0 n0 T0 hP hp).1 HR.o,fun h=>absurd h zO⟩
end Go.Proofs.YticpdokbiblpoaaGreatDoor
