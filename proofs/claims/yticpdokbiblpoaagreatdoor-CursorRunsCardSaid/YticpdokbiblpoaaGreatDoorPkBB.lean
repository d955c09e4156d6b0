/- Texts joined: SortC, SortD, SortE, SortF, SortG, WaveE, WaveI, WaveF, WaveG, WaveH, AllS, Few15, SmpsArg. -/
import Derived.Deep.RegionHeld
import Derived.Test.YticpdokbiblpoaaGreatDoorPkAC
import Derived.Test.YticpdokbiblpoaaGreatDoorPkAD
import Derived.Test.YticpdokbiblpoaaGreatDoorPkAH
import Derived.Test.YticpdokbiblpoaaGreatDoorPkBA
import Derived.Test.YticpdokbiblpoaaGreatDoorTk
set_option linter.unusedVariables false
set_option linter.unusedSimpArgs false
set_option maxHeartbeats 8000000
namespace Go.Proofs.YticpdokbiblpoaaGreatDoor
open Go.Proofs.Tryz
open Go.Proofs.Tryz renaming prog → zP
open Go.Value renaming int → vI
open Go.IntKind renaming i64 → iJ
open Go.Ending renaming returned → rJ
set_option maxRecDepth 100000
open Go.RowKit Go.ChangeShapes Go.WideShapes
theorem tB{x:Int}{p:Nat}(h:x=(p:Int))(hp:p<=9223372036854775807):IntKind.i64.wrap x=(p:Int)/\wrap64 x=(p:Int):=by
 subst h;exact⟨IntWalk.i64_in _ zO,IntWalk.wrap64_in _ zO⟩
theorem DY(g b N cap:Nat)(w0:World)(x y n:Nat)(hxy:x+n<=y)(hyN:y+n<=N)(hN:N<=4611686018427387904)(F:nI)(w:World)(hw:SrtW w0 g N F w):
  Calls zP 255 #[.slice (some ⟨g,0,none⟩) N cap,vI iJ x,vI iJ y,vI iJ n,oS b] w fun e w'=>e=rJ (.tuple #[])/\SrtW w0 g N (dU F x y n) w':=by
 unfold oS;have H0:=zH (hw.ext (PY F x y).symm);clear hw;go_enter func255,ntmps255
 go_wp2_with fail
 go_loopw [10] (fun iv wr=>∃i:Nat,i<=n/\iv=vI iJ i/\Hid (SrtW w0 g N (dU F x y i) wr)) (fun i _=>n-(intOf i).toNat)
 case atStart=>exact⟨0,zO,by go_num,H0⟩
 case round=>
  obtain⟨i,hi,rfl,HW⟩:=hrel;clear H0;by_cases hlt:i<n
  ·obtain⟨p,hp⟩:∃p:Nat,p=x+i:=⟨_,rfl⟩
   obtain⟨q,hq⟩:∃q:Nat,q=y+i:=⟨_,rfl⟩
   have hpN:p<N:=zO;have hqN:q<N:=zO;have hpq:p≠q:=zO;have c1:=HW.o.row.cell p hpN;have c2:=HW.o.row.cell q hqN;have f1:=HW.o.row.frz p hpN;have f2:=HW.o.row.frz q hqN;have h1:=HW.o.drew.set p hpN (dU F x y i q);have hr:=And.intro (h1.row.cell q hqN) (h1.row.frz q hqN);simp only[if_neg (Ne.symm hpq)]at hr;have HW3:=zH ((h1.set q hqN (dU F x y i p)).ext (G':=dU F x y (i+1)) (by rw[<-VA F x y i zO,hp,hq]));have HB1:=zH (show p<=9223372036854775807 by omega);have HB2:=zH (show q<=9223372036854775807 by omega);obtain⟨e1,e2⟩:=tB (x:=(x:Int)+(i:Int)) (p:=p) (by rw[hp];rfl) HB1.o;obtain⟨e3,e4⟩:=tB (x:=(y:Int)+(i:Int)) (p:=q) (by rw[hq];rfl) HB2.o;clear h1 HW hp hq;generalize dU F x y i p=u at *;generalize dU F x y i q=v at *;have HR:=zH hr;clear hr
   go_wp2_with fail
   refine wp_region_held_drew (S:=(fun _=>True)) zK ?_ (fun hHeld=>?_)
   ·exact trivial
   refine (uU 0) ((uU 1) ((uU 2) ((uU 3) ((uU 4) ((uU 5) ((uU 6) ((uU 7) ((uU 8) ((uU 9) ((uU 10) ((uU 11) ((uU 12) ((uU 14) ((uU 15) ((uU 16) ((uU 17) ((uU 18) ?_)))))))))))))))));clear e1 e2 e3 e4;refine wpAnyH_ready (rs:=[13,19]) zK zS ?_
   (refine AllReadyH.cons (o:=⟨_,_,_,_,_,_⟩) (by rfl) ?_ (AllReadyH.cons (o:=⟨_,_,_,_,_,_⟩) (by rfl) ?_ AllReadyH.nil)) <;> intro K hK
   ·go_simp;refine hK.out _ _ ?_ (fun hHeld=>?_)
    ·exact trivial
    clear hK K
    try simp only[Act.put,sA,sZ,sS]
    refine wpR 19 rfl (fun K hK=>?_);go_simp;refine hK.out _ _ ?_ (fun hHeld=>?_)
    ·exact trivial
    clear hK K;refine (uU 20) ?_;refine wpR 21 rfl (fun K hK=>?_);go_simp;refine hK.out _ _ ?_ (fun hHeld=>?_)
    ·exact trivial
    clear hK K;refine (uU 22) ?_;obtain⟨s1,s2⟩:=HR.o;refine wpR 23 rfl (fun K hK=>?_);go_simp;refine hK.out _ _ ?_ (fun hHeld=>?_)
    ·exact trivial
    clear hK K
    try simp only[Act.put,sA,sZ,sS]
    refine wpAnyH_done zK ?_ _
    go_wp2_with fail
    go_roundw
    case rel=>exact⟨i+1,zO,by go_num,HW3.o⟩
    case measure=>exact zM
   ·go_simp;refine hK.out _ _ ?_ (fun hHeld=>?_)
    ·exact trivial
    clear hK K
    try simp only[Act.put,sA,sZ,sS]
    refine wpR 13 rfl (fun K hK=>?_);go_simp;refine hK.out _ _ ?_ (fun hHeld=>?_)
    ·exact trivial
    clear hK K;refine (uU 20) ?_;refine wpR 21 rfl (fun K hK=>?_);go_simp;refine hK.out _ _ ?_ (fun hHeld=>?_)
    ·exact trivial
    clear hK K;refine (uU 22) ?_;obtain⟨s1,s2⟩:=HR.o;refine wpR 23 rfl (fun K hK=>?_);go_simp;refine hK.out _ _ ?_ (fun hHeld=>?_)
    ·exact trivial
    clear hK K
    try simp only[Act.put,sA,sZ,sS]
    refine wpAnyH_done zK ?_ _
    go_wp2_with fail
    go_roundw
    case rel=>exact⟨i+1,zO,by go_num,HW3.o⟩
    case measure=>exact zM
  ·obtain rfl:i=n:=zO
   go_wp2_with fail
   go_end0
   exact⟨rfl,HW.o⟩
theorem RW(g b N cap:Nat)(w0:World)(x m y:Nat)(hxm:x<m)(hmy:m<y)(hyN:y<=N)(hN:N<=2305843009213693952)(F:nI)(w:World)(hw:SrtW w0 g N F w):
  Calls zP 238 #[.slice (some ⟨g,0,none⟩) N cap,vI iJ x,vI iJ m,vI iJ y,oS b] w fun e w'=>e=rJ (.tuple #[])/\SrtW w0 g N (dF F x m y) w':=by
 have hsw:=fun l u n (h1:l+n<=u) (h2:u+n<=N) G W hW=>DY g b N cap w0 l u n h1 h2 zO G W hW;have HSW:=zH hsw;clear hsw;unfold oS at *;have H0:=zH hw;have HR0:Hid (dF F (m-(m-x)) m (m+(y-m))=dF F x m y):=zH (by rw[show m-(m-x)=x by omega,show m+(y-m)=y by omega]);obtain⟨i0,hi0⟩:=zG (m-x);obtain⟨j0,hj0⟩:=zG (y-m);have q1:(m:Int)-(x:Int)=(i0:Int):=zO;have q2:(y:Int)-(m:Int)=(j0:Int):=zO;have r1:=(tB q1 zO).2;have r2:=(tB q2 zO).2;rw[<-hi0,<-hj0]at HR0;have hb1:0<i0:=zO;have hb2:0<j0:=zO;have hb3:i0<=m:=zO;have hb4:m+j0<=N:=zO;clear hw hi0 hj0;go_enter func238,ntmps238
 go_wp2_with fail
 clear q1 q2 r1 r2
 go_loopw [10,11] (fun iv jv wr=>∃(i j:Nat) (G:nI),iv=vI iJ i/\jv=vI iJ j/\0<i/\0<j/\i<=m/\m+j<=N/\Hid (dF G (m-i) m (m+j)=dF F x m y)/\Hid (SrtW w0 g N G wr)) (fun iv jv _=>(intOf iv).toNat+(intOf jv).toNat)
 case atStart=>exact⟨i0,j0,F,rfl,rfl,hb1,hb2,hb3,hb4,HR0,H0⟩
 case round=>
  clear H0 HR0 hb1 hb2 hb3 hb4;obtain⟨i,j,G,rfl,rfl,h1,h2,h3,h4,HR,HW⟩:=hrel;rcases Nat.lt_trichotomy i j with c | c | c
  ·have d1:((i:Int) != (j:Int))=true:=by simp only[bne_iff_ne,ne_eq];omega
   have d2:decide ((j:Int)<(i:Int))=false:=decide_eq_false zO;have hs:=HSW.o (m-i) (m+j-i) i zO zO G wr HW.o;rw[show ((m-i:Nat):Int)=(m:Int)-i by omega,show ((m+j-i:Nat):Int)=(m:Int)+j-i by omega]at hs;have hr:=aHG G m i j h3 c;rw[HR.o]at hr;have HS:=zH hs;have HR2:=zH hr;clear hs hr HR HW
   go_wp2_with fail
   refine HS.o.mono ?_;rintro e w2 ⟨rfl,hw2⟩;have HW2:=zH hw2;clear hw2 HS
   go_wp2_with fail
   go_roundw
   case rel=>exact⟨i,j-i,_,rfl,by go_num,h1,zO,h3,zO,HR2,HW2⟩
   case measure=>exact zM
  ·subst c;have d1:((i:Int) != (i:Int))=false:=zS;have hs:=HSW.o (m-i) m i zO h4 G wr HW.o;rw[show ((m-i:Nat):Int)=(m:Int)-i by omega,aHg G m i h3,HR.o]at hs;have HS:=zH hs;clear hs HR HW
   go_wp2_with fail
   refine HS.o.mono ?_;rintro e w2 ⟨rfl,hw2⟩;have HW2:=zH hw2;clear hw2 HS
   go_wp2_with fail
   go_end0
   exact⟨rfl,HW2.o⟩
  ·have d1:((i:Int) != (j:Int))=true:=by simp only[bne_iff_ne,ne_eq];omega
   have d2:decide ((j:Int)<(i:Int))=true:=decide_eq_true zO;have hs:=HSW.o (m-i) m j zO h4 G wr HW.o;rw[show ((m-i:Nat):Int)=(m:Int)-i by omega]at hs;have hr:=aHs G m i j h3 c;rw[HR.o]at hr;have HS:=zH hs;have HR2:=zH hr;clear hs hr HR HW
   go_wp2_with fail
   refine HS.o.mono ?_;rintro e w2 ⟨rfl,hw2⟩;have HW2:=zH hw2;clear hw2 HS
   go_wp2_with fail
   go_roundw
   case rel=>exact⟨i-j,j,_,by go_num,rfl,zO,h2,zO,h4,HR2,HW2⟩
   case measure=>exact zM
theorem xH.late{w0:World}{g b N:Nat}{c:Nat->Nat->Int}{R:Int->Int->Prop}(h:xH w0 g b N c R){u v:Int}(hu:0<=u/\u<N)(hv:0<=v/\v<N)(huv:v<u):
  (c u.toNat v.toNat<0->R u v)/\(¬c u.toNat v.toNat<0->R v u):=by
 have h1:=h.yes v.toNat u.toNat zO;have h2:=h.no v.toNat u.toNat zO;rw[Int.toNat_of_nonneg hu.1,Int.toNat_of_nonneg hv.1]at h1 h2;exact⟨h1,h2⟩
theorem xH.callI{w0:World}{g b N:Nat}{c:Nat->Nat->Int}{R:Int->Int->Prop}(h:xH w0 g b N c R){u v:Int}(hu:0<=u/\u<N)(hv:0<=v/\v<N)(W:World)(hW:Kept (bH w0 g) w0 W):
  Calls zP 131 #[vI iJ u,vI iJ v,.pointer (some ⟨b,0,none⟩)] W fun e w'=>e=rJ (vI iJ (c u.toNat v.toNat))/\∃n,w'=W.drewN n:=by
 have:=h.call W hW u.toNat v.toNat zO zO
 rwa [Int.toNat_of_nonneg hu.1,Int.toNat_of_nonneg hv.1]at this
structure NN(R:Int->Int->Prop)(N:Nat)(F:nI)(x m y:Nat):Prop where
 l:cB R F x m
 r:cB R F m y
 lt:∀i j,x<=i->i<m->m<=j->j<y->F i<F j
 bd:∀k,x<=k->k<y->0<=F k/\F k<N
def UL(w0:World)(g N:Nat)(R:Int->Int->Prop)(F:nI)(x y:Nat)(e:Ending)(w':World):Prop:=e=rJ (.tuple #[])/\∃G,SrtW w0 g N G w'/\cM F G x y/\cB R G x y
theorem JS(g b N cap:Nat)(c:Nat->Nat->Int)(R:Int->Int->Prop)(w0:World)(hE:xH w0 g b N c R)(x m y:Nat)(hxm:m=x+1)(hmy:m<y)(hyN:y<=N)(hN:N<=2305843009213693952)(F:nI)(hF:NN R N F x m y)(w:World)(hw:SrtW w0 g N F w):
  Calls zP 211 #[.slice (some ⟨g,0,none⟩) N cap,vI iJ x,vI iJ m,vI iJ y,oS b] w (UL w0 g N R F x y):=by
 unfold oS UL;have H0:=zH hw;have HF:=zH hF;have HE:=zH hE;have HXM:=zH hxm;have d1:(((m:Int)-(x:Int)) == 1)=true:=by rw[beq_iff_eq];omega
 have hxm':x<m:=zO;clear hw hF hE hxm;go_enter func211,ntmps211
 go_wp2_with fail
 clear d1
 go_loopw [10,11] (fun iv jv wr=>∃i j:Nat,iv=vI iJ i/\jv=vI iJ j/\m<=i/\i<=j/\j<=y/\Hid ((m<i->R (F (i-1)) (F x))/\(j<y->R (F x) (F j)))/\Hid (SrtW w0 g N F wr)) (fun iv jv _=>(intOf jv).toNat-(intOf iv).toNat)
 case atStart=>exact⟨m,y,rfl,rfl,Nat.le_refl _,zO,Nat.le_refl _,zH ⟨fun h=>zO,fun h=>zO⟩,H0⟩
 case round=>
  clear H0;obtain⟨i,j,rfl,rfl,h1,h2,h3,HR,HW⟩:=hrel;by_cases hij:i<j
  ·obtain⟨h,hh⟩:∃h:Nat,h=(i+j)/2:=⟨_,rfl⟩
   have hb1:i<=h:=zO;have hb2:h<j:=zO
   go_upto_region 5 with (fail)
   rw[show ((i:Int)+(j:Int))/2=(h:Int) by omega];clear hh;have hbh:=HF.o.bd h zO zO;have hbx:=HF.o.bd x zO zO;have hlt:=HF.o.lt x h (Nat.le_refl _) hxm' zO zO;obtain⟨hy,hn⟩:=HE.o.late hbh hbx hlt;have hL:=fun d=>HE.o.callI hbh hbx (wr.drewN d) (HW.o.kept.drewN d);have HW2:=zH (fun d=>HW.o.drewN d);have k1:=HW.o.row.cell h zO;have k2:=HW.o.row.cell x zO;have hN1:h<N:=zO;have hN2:x<N:=zO;obtain⟨cc,hcc⟩:=zG (c (F h).toNat (F x).toNat);rw[<-hcc]at hL hy hn;have HLo:=zH hL;have HR1:=zH HR.o.1;have HR2:=zH HR.o.2;have HY:=zH hy;have HNo:=zH hn;clear hL hbh hbx hlt hcc HR HW hy hn;generalize hu:F h=u at *;generalize hv:F x=v at *;have HU:=zH hu;have HV:=zH hv;clear hu hv;by_cases hc:cc<0
   ·have hr:=HY.o hc;have HRR:=zH hr;clear hr HY HNo HR1
    go_quiet ((go_at_call 131;with_reducible exact Calls.quiet_of (HLo.o _)))
    go_wp2_with fail
    go_roundw
    case rel=>exact⟨h+1,j,by go_num,rfl,zO,zO,h3,zH (by rw[HV.o];exact⟨fun _=>by rw[Nat.add_sub_cancel,HU.o];exact HRR.o,HR2.o⟩),HW2.o _⟩
    case measure=>exact zM
   ·have hr:=HNo.o hc;have hc0:0<=cc:=zO;have HRR:=zH hr;clear hr HY HNo HR2
    go_quiet ((go_at_call 131;with_reducible exact Calls.quiet_of (HLo.o _)))
    go_wp2_with fail
    go_roundw
    case rel=>exact⟨i,h,rfl,rfl,h1,hb1,zO,zH (by rw[HV.o];exact⟨HR1.o,fun _=>by rw[HU.o];exact HRR.o⟩),HW2.o _⟩
    case measure=>exact zM
  ·obtain rfl:i=j:=zO;have hk0:x<=i-1:=zO;have HW0:Hid (SrtW w0 g N (dF F x (x+1) (x+1)) wr):=zH (HW.o.ext (CJ F x (x+1) zO).symm);clear HW
   go_wp2_with fail
   obtain⟨wo,rfl⟩:∃V,V=wr:=⟨_,rfl⟩
   go_loopw [13] (fun kv wr=>∃k:Nat,kv=vI iJ k/\x<=k/\k+1<=i/\Hid (SrtW w0 g N (dF F x (x+1) (k+1)) wr)) (fun kv _=>i-(intOf kv).toNat)
   case atStart=>exact⟨x,rfl,Nat.le_refl _,zO,HW0⟩
   case round=>
    clear HW0;obtain⟨k,rfl,h4,h5,HW⟩:=hrel;by_cases hki:k+1<i
    ·obtain⟨m',hm'⟩:∃m':Nat,m'=k+1:=⟨_,rfl⟩
     have hkN:k<N:=zO;have hmN:m'<N:=zO;have hdk:decide ((k:Int)<(i:Int)-1)=true:=decide_eq_true zO;have c1:=HW.o.row.cell k hkN;have c2:=HW.o.row.cell m' hmN;have f1:=HW.o.row.frz k hkN;have f2:=HW.o.row.frz m' hmN;have HB1:=zH (show m'<=9223372036854775807 by omega);have hW3:=((HW.o.swap' k zO).ext (aGR F x k h4)).drew;rw[<-hm']at hW3 c2;have HW3:=zH hW3;have HM:=zH hm';clear hW3 HW;rw[<-hm']at c1;obtain⟨e1,e2⟩:=tB (x:=(k:Int)+1) (p:=m') (by rw[hm'];rfl) HB1.o;have hkm:k≠m':=zO;clear hm';generalize dF F x (x+1) m' k=u at *;generalize dF F x (x+1) m' m'=v at *
     go_wp2_with fail
     go_region
     clear e1 e2
     go_wp2_with fail
     go_roundw
     case rel=>exact⟨m',by have:=HM.o;go_num,by have:=HM.o;omega,by have:=HM.o;omega,HW3⟩
     case measure=>have:=HM.o;simp[intOf];omega
    ·have hdk:decide ((k:Int)<(i:Int)-1)=false:=decide_eq_false zO;have hki':k+1=i:=zO;rw[hki']at HW
     have hs:=BB HE.o.tr (G:=F) (a:=x) (s:=x) (m:=x+1) (e:=i) (b:=y) (Nat.le_refl _) zO zO h3 (IE _ (Nat.le_refl _)) (by have:=HF.o.r;rwa [HXM.o]at this)
      (fun h=>zO) (fun _ h=>HR.o.1 (by have:=HXM.o;omega)) (fun h=>zO) (fun _ h=>by rw[Nat.add_sub_cancel];exact HR.o.2 h)
     have HS:=zH hs;have HP:=zH ((tP F (a:=x) (m:=x+1) (b:=i) zO zO).wide (Nat.le_refl _) h3);clear hs hki'
     go_wp2_with fail
     refine bodyPost_ret (results_none rfl _ _ _) rfl ?_;exact⟨rfl,_,HW.o,HP.o,HS.o⟩
theorem EP(g b N cap:Nat)(c:Nat->Nat->Int)(R:Int->Int->Prop)(w0:World)(hE:xH w0 g b N c R)(x m y:Nat)(hxm:x+1<m)(hmy:y=m+1)(hyN:y<=N)(hN:N<=2305843009213693952)(F:nI)(hF:NN R N F x m y)(w:World)(hw:SrtW w0 g N F w):
  Calls zP 211 #[.slice (some ⟨g,0,none⟩) N cap,vI iJ x,vI iJ m,vI iJ y,oS b] w (UL w0 g N R F x y):=by
 unfold oS UL;have H0:=zH hw;have HF:=zH hF;have HE:=zH hE;have HMY:=zH hmy;have d1:(((m:Int)-(x:Int)) == 1)=false:=by rw[beq_eq_false_iff_ne];omega
 have d2:(((y:Int)-(m:Int)) == 1)=true:=by rw[beq_iff_eq];omega
 have hmN:m<N:=zO;clear hw hF hE hmy;go_enter func211,ntmps211
 go_wp2_with fail
 clear d1 d2
 go_loopw [14,15] (fun iv jv wr=>∃i j:Nat,iv=vI iJ i/\jv=vI iJ j/\x<=i/\i<=j/\j<=m/\Hid ((x<i->R (F (i-1)) (F m))/\(j<m->R (F m) (F j)))/\Hid (SrtW w0 g N F wr)) (fun iv jv _=>(intOf jv).toNat-(intOf iv).toNat)
 case atStart=>exact⟨x,m,rfl,rfl,Nat.le_refl _,zO,Nat.le_refl _,zH ⟨fun h=>zO,fun h=>zO⟩,H0⟩
 case round=>
  clear H0;obtain⟨i,j,rfl,rfl,h1,h2,h3,HR,HW⟩:=hrel;by_cases hij:i<j
  ·obtain⟨h,hh⟩:∃h:Nat,h=(i+j)/2:=⟨_,rfl⟩
   have hb1:i<=h:=zO;have hb2:h<j:=zO
   go_upto_region 17 with (fail)
   rw[show ((i:Int)+(j:Int))/2=(h:Int) by omega];clear hh;have hbh:=HF.o.bd h zO (by have:=HMY.o;omega);have hbx:=HF.o.bd m zO (by have:=HMY.o;omega);have hlt:=HF.o.lt h m zO zO (Nat.le_refl _) (by have:=HMY.o;omega);obtain⟨hy,hn⟩:=HE.o.late hbx hbh hlt;have hL:=fun d=>HE.o.callI hbx hbh (wr.drewN d) (HW.o.kept.drewN d);have HW2:=zH (fun d=>HW.o.drewN d);have k1:=HW.o.row.cell h zO;have k2:=HW.o.row.cell m zO;have hN1:h<N:=zO;obtain⟨cc,hcc⟩:=zG (c (F m).toNat (F h).toNat);rw[<-hcc]at hL hy hn;have HLo:=zH hL;have HR1:=zH HR.o.1;have HR2:=zH HR.o.2;have HY:=zH hy;have HNo:=zH hn;clear hL hbh hbx hlt hcc HR HW hy hn;generalize hu:F h=u at *;generalize hv:F m=v at *;have HU:=zH hu;have HV:=zH hv;clear hu hv;by_cases hc:cc<0
   ·have hr:=HY.o hc;have HRR:=zH hr;have dc:decide (cc<0)=true:=decide_eq_true hc;clear hr HY HNo HR2
    go_quiet ((go_at_call 131;with_reducible exact Calls.quiet_of (HLo.o _)))
    go_wp2_with fail
    go_roundw
    case rel=>exact⟨i,h,rfl,rfl,h1,hb1,zO,zH (by rw[HV.o];exact⟨HR1.o,fun _=>by rw[HU.o];exact HRR.o⟩),HW2.o _⟩
    case measure=>exact zM
   ·have hr:=HNo.o hc;have hc0:0<=cc:=zO;have HRR:=zH hr;have dc:decide (cc<0)=false:=decide_eq_false hc;clear hr HY HNo HR1
    go_quiet ((go_at_call 131;with_reducible exact Calls.quiet_of (HLo.o _)))
    go_wp2_with fail
    go_roundw
    case rel=>exact⟨h+1,j,by go_num,rfl,zO,zO,h3,zH (by rw[HV.o];exact⟨fun _=>by rw[Nat.add_sub_cancel,HU.o];exact HRR.o,HR2.o⟩),HW2.o _⟩
    case measure=>exact zM
  ·obtain rfl:i=j:=zO;have HW0:Hid (SrtW w0 g N (dF F m m (m+1)) wr):=zH (HW.o.ext (IG F m (m+1) zO).symm);clear HW
   go_wp2_with fail
   obtain⟨wo,rfl⟩:∃V,V=wr:=⟨_,rfl⟩
   go_loopw [17] (fun kv wr=>∃k:Nat,kv=vI iJ k/\i<=k/\k<=m/\Hid (SrtW w0 g N (dF F k m (m+1)) wr)) (fun kv _=>(intOf kv).toNat)
   case atStart=>exact⟨m,rfl,h3,Nat.le_refl _,HW0⟩
   case round=>
    clear HW0;obtain⟨k,rfl,h4,h5,HW⟩:=hrel;by_cases hki:i<k
    ·obtain⟨m',hm'⟩:∃m':Nat,m'=k-1:=⟨_,rfl⟩
     have hkN:k<N:=zO;have hmN':m'<N:=zO;have hm1:m'<k:=zO;have hdk:decide ((i:Int)<(k:Int))=true:=decide_eq_true zO;have c1:=HW.o.row.cell k hkN;have c2:=HW.o.row.cell m' hmN';have f1:=HW.o.row.frz k hkN;have f2:=HW.o.row.frz m' hmN';have HB1:=zH (show m'<=9223372036854775807 by omega);have hW3:=((HW.o.swap k hkN zO).ext (aBn F m k h5 zO)).drew;rw[<-hm']at hW3;have HW3:=zH hW3;have HM:=zH hm';have hq:(k:Int)-1=(m':Int):=zO;clear hW3 HW;obtain⟨e1,e2⟩:=tB (x:=(k:Int)-1) (p:=m') hq HB1.o;have hkm:k≠m':=zO;clear hm' hq;generalize dF F k m (m+1) k=u at *;generalize dF F k m (m+1) m'=v at *
     go_wp2_with fail
     go_region
     clear e1 e2
     go_wp2_with fail
     go_roundw
     case rel=>exact⟨m',by have:=HM.o;go_num,by have:=HM.o;omega,by have:=HM.o;omega,HW3⟩
     case measure=>have:=HM.o;simp[intOf];omega
    ·have hdk:decide ((i:Int)<(k:Int))=false:=decide_eq_false zO;have hki':k=i:=zO;rw[hki']at HW
     have hs:=BB HE.o.tr (G:=F) (a:=x) (s:=i) (m:=m) (e:=m+1) (b:=y) h1 h3 zO (by have:=HMY.o;omega) HF.o.l HF.o.r
      (fun _ h=>by have:=HMY.o;omega) (fun h _=>by rw[Nat.add_sub_cancel];exact HR.o.2 h) (fun h _=>HR.o.1 h) (fun _ h=>by have:=HMY.o;omega)
     have HS:=zH hs;have HP:=zH ((tP F (a:=i) (m:=m) (b:=m+1) h3 zO).wide h1 (show m+1<=y by have:=HMY.o;omega));clear hs hki'
     go_wp2_with fail
     refine bodyPost_ret (results_none rfl _ _ _) rfl ?_;exact⟨rfl,_,HW.o,HP.o,HS.o⟩
section
variable {R:Int->Int->Prop} {N:Nat} {F:nI} {x m y s e mid:Nat}
theorem aEl(h:NN R N F x m y)(h1:x<=s)(h2:s<=m)(h3:m<=e)(h4:e<=y):∀k,x<=k->k<y->0<=dF F s m e k/\dF F s m e k<N:=fun k k1 k2=>by
 obtain⟨q,q1,q2,q3⟩:=((tP F h2 h3).wide h1 h4).frm k k1 k2;rw[q3];exact h.bd q q1 q2
theorem YS(h:NN R N F x m y)(h1:x<=s)(h2:s<=m)(h3:m<=e)(h4:e<=y)(hm:mid=s+(e-m)):NN R N (dF F s m e) x s mid where
 l:=CG h2 h.l
 r:=by rw[hm];exact yJ h2 h3 h4 h.r
 lt:=fun i j i1 i2 j1 j2=>by rw[eI F i2,cR F j1 zO];exact h.lt i _ i1 zO zO zO
 bd:=fun k k1 k2=>aEl h h1 h2 h3 h4 k k1 zO
theorem RC{G:nI}(h:NN R N F x m y)(h1:x<=s)(h2:s<=m)(h3:m<=e)(h4:e<=y)(hm:mid=s+(e-m))(p:cM (dF F s m e) G x mid):NN R N G mid e y where
 l:=by rw[hm]at *;exact vJ (NT h1 h2 h3 h.l) fun k k1 _=>p.o k (.inr k1)
 r:=vJ (OQ h2 h3 h.r) fun k k1 _=>p.o k (.inr zO)
 lt:=fun i j i1 i2 j1 j2=>by rw[p.o i (.inr i1),p.o j (.inr zO),cD F zO i2,dV F h2 h3 j1];exact h.lt _ j zO zO zO j2
 bd:=fun k k1 k2=>by rw[p.o k (.inr k1)];exact aEl h h1 h2 h3 h4 k zO k2
end
theorem KP(g b N cap:Nat)(c:Nat->Nat->Int)(R:Int->Int->Prop)(w0:World)(hE:xH w0 g b N c R)(hN:N<=2305843009213693952):∀(D x m y:Nat),y-x<=D->x<m->m<y->y<=N->∀F,NN R N F x m y->∀w,SrtW w0 g N F w ->
  Calls zP 211 #[.slice (some ⟨g,0,none⟩) N cap,vI iJ x,vI iJ m,vI iJ y,oS b] w (UL w0 g N R F x y):=by
 intro D
 induction D with
 | zero=>intro x m y h1 h2 h3;omega
 | succ D ih=>
 intro x m y hD hxm hmy hyN F hF w hw;by_cases ca:m=x+1
 ·exact JS g b N cap c R w0 hE x m y ca hmy hyN hN F hF w hw
 by_cases cb:y=m+1
 ·exact EP g b N cap c R w0 hE x m y zO cb hyN hN F hF w hw
 have HIH:=zH ih;have HROT:=zH (fun u v z h1 h2 h3 G W hW=>RW g b N cap w0 u v z h1 h2 h3 hN G W hW);unfold oS UL at *;have H0:=zH hw;have HF:=zH hF;have HE:=zH hE;have d1:(((m:Int)-(x:Int)) == 1)=false:=by rw[beq_eq_false_iff_ne];omega
 have d2:(((y:Int)-(m:Int)) == 1)=false:=by rw[beq_eq_false_iff_ne];omega
 obtain⟨mid,hmid⟩:∃mid:Nat,mid=(x+y)/2:=⟨_,rfl⟩
 obtain⟨lo,hlo⟩:∃lo:Nat,lo=if mid<m then mid+m-y else x:=⟨_,rfl⟩
 obtain⟨hi,hhi⟩:∃hi:Nat,hi=if mid<m then mid else m:=⟨_,rfl⟩
 have hcor:x<=lo/\lo<=hi/\hi<=m/\hi<=mid/\mid+m-lo<=y/\(lo=x\/mid+m-lo=y)/\(hi=m\/hi=mid):=by
  rw[hlo,hhi];split <;> omega
 have hm1:x<mid:=zO;have hm2:mid<y:=zO;have hge:mid<m->y<=mid+m:=zO;have hdiv:((x:Int)+(y:Int))/2=(mid:Int):=zO;have HD:=zH hD;clear hw hF hE ih hmid hD;go_enter func211,ntmps211
 go_upto_region 25 with (fail)
 clear d1 d2 hdiv
 go_upto_if 140 with (fail)
 go_cut [20,21] (fun u v wx=>u=vI iJ lo/\v=vI iJ hi/\w=wx)
 case first=>
  as_aux_lemma=>
   by_cases cm:mid<m
   ·rw[if_pos cm]at hlo hhi;have hge:=hge cm;have q:((mid:Int)+(m:Int))-(y:Int)=(lo:Int):=zO;have dc:decide ((mid:Int)<(m:Int))=true:=decide_eq_true zO;have HQ:=zH q;have HH:=zH hhi;clear q hlo hhi hcor hge
    go_wp2_with fail
    go_meet
    exact⟨by rw[HQ.o],by rw[HH.o],rfl⟩
   ·rw[if_neg cm]at hlo hhi;have dc:decide ((mid:Int)<(m:Int))=false:=decide_eq_false zO;have HL:=zH hlo;have HH:=zH hhi;clear hlo hhi hcor hge
    go_wp2_with fail
    go_meet
    exact⟨by rw[HL.o],by rw[HH.o],rfl⟩
 case rest=>
  obtain⟨rfl,rfl,rfl⟩:=hcut;clear hlo hhi;obtain⟨k1,k2,k3,k4,k5,k6,k7⟩:=hcor
  go_wp2_with fail
  go_loopw [20,21] (fun iv jv wr=>∃i j:Nat,iv=vI iJ i/\jv=vI iJ j/\lo<=i/\i<=j/\j<=hi/\Hid ((lo<i->R (F (i-1)) (F (mid+m-i)))/\(j<hi->R (F (mid+m-1-j)) (F j)))/\Hid (SrtW w0 g N F wr)) (fun iv jv _=>(intOf jv).toNat-(intOf iv).toNat)
  case atStart=>exact⟨lo,hi,rfl,rfl,Nat.le_refl _,k2,Nat.le_refl _,zH ⟨fun h=>zO,fun h=>zO⟩,H0⟩
  case round=>
   clear H0;obtain⟨i,j,rfl,rfl,h1,h2,h3,HR,HW⟩:=hrel;by_cases hij:i<j
   ·obtain⟨h,hh⟩:∃h:Nat,h=(i+j)/2:=⟨_,rfl⟩
    have hb1:i<=h:=zO;have hb2:h<j:=zO;have hdiv:((i:Int)+(j:Int))/2=(h:Int):=zO;clear hh
    go_upto_region 35 with (fail)
    clear hdiv;obtain⟨q,hq⟩:∃q:Nat,q=mid+m-1-h:=⟨_,rfl⟩
    have hqm:m<=q:=zO;have hqy:q<y:=zO;have hqi:((mid:Int)+(m:Int)-1)-(h:Int)=(q:Int):=zO;have hbq:=HF.o.bd q zO hqy;have hbh:=HF.o.bd h zO zO;have hlt:=HF.o.lt h q zO zO hqm hqy;obtain⟨hy,hn⟩:=HE.o.late hbq hbh hlt;have hL:=fun d=>HE.o.callI hbq hbh (wr.drewN d) (HW.o.kept.drewN d);have HW2:=zH (fun d=>HW.o.drewN d);have kk1:=HW.o.row.cell h zO;have kk2:=HW.o.row.cell q zO;have hN1:h<N:=zO;have hN2:q<N:=zO;have HB1:=zH (show q<=9223372036854775807 by omega);have HQ1:=zH (show mid+m-(h+1)=q by omega);have HQ2:=zH (show mid+m-1-h=q by omega);have HRL:=zH (show lo<=h+1/\h+1<=j/\lo<=i/\i<=h/\h<=hi by omega);have HMS:=zH (show j-(h+1)<j-i/\h-i<j-i by omega);obtain⟨cc,hcc⟩:=zG (c (F q).toNat (F h).toNat);rw[<-hcc]at hL hy hn;have HLo:=zH hL;have HR1:=zH HR.o.1;have HR2:=zH HR.o.2;have HY:=zH hy;have HNo:=zH hn;clear hL hbh hbq hlt hcc HR HW hy hn hq;obtain⟨e1,e2⟩:=tB (x:=((mid:Int)+(m:Int)-1)-(h:Int)) (p:=q) hqi HB1.o;clear hqi;by_cases hc:cc<0
    ·as_aux_lemma=>
      have hr:=HY.o hc;have HRR:=zH hr;have dc:decide (cc<0)=true:=decide_eq_true hc;clear hr HY HNo HR2
      go_quiet ((go_at_call 131;with_reducible exact Calls.quiet_of (HLo.o _)))
      clear e1 e2
      go_wp2_with fail
      go_roundw
      case rel=>exact⟨i,h,rfl,rfl,h1,hb1,HRL.o.2.2.2.2,zH ⟨HR1.o,fun _=>by rw[HQ2.o];exact HRR.o⟩,HW2.o _⟩
      case measure=>have:=HMS.o;simp[intOf];omega
    ·as_aux_lemma=>
      have hr:=HNo.o hc;have hc0:0<=cc:=zO;have HRR:=zH hr;have dc:decide (cc<0)=false:=decide_eq_false hc;clear hr HY HNo HR1
      go_quiet ((go_at_call 131;with_reducible exact Calls.quiet_of (HLo.o _)))
      clear e1 e2
      go_wp2_with fail
      go_roundw
      case rel=>exact⟨h+1,j,by go_num,rfl,HRL.o.1,HRL.o.2.1,h3,zH ⟨fun _=>by rw[Nat.add_sub_cancel,HQ1.o];exact HRR.o,HR2.o⟩,HW2.o _⟩
      case measure=>have:=HMS.o;simp[intOf];omega
   ·obtain rfl:i=j:=zO;clear hij h2;obtain⟨e,he⟩:∃e:Nat,e=mid+m-i:=⟨_,rfl⟩
    have b1:x<=i:=zO;have b2:i<=m:=zO;have b3:m<=e:=zO;have b4:e<=y:=zO;have b5:mid=i+(e-m):=zO;have b6:i<=mid:=zO;have b7:mid<=e:=zO;have x1:x<i->e<y->R (F (i-1)) (F e):=fun h1' h2'=>by rw[he];exact HR.o.1 zO
    have x2:i<m->m<e->R (F (e-1)) (F i):=fun h1' h2'=>by rw[show e-1=mid+m-1-i by omega];exact HR.o.2 zO
    have HX:=zH (FK HE.o.tr b1 b2 b3 b4 HF.o.l HF.o.r x1 x2);have HP:=zH ((tP F b2 b3).wide b1 b4);have HM1:=zH (YS HF.o b1 b2 b3 b4 b5);have HM2:=zH (fun G p=>RC (G:=G) HF.o b1 b2 b3 b4 b5 p);have HO1:=zH (show x=i\/i=mid->cB R (dF F i m e) x mid from fun h=>by
     have o1:=CG (R:=R) (G:=F) (e:=e) b2 HF.o.l;have o2:=yJ (R:=R) (G:=F) b2 b3 b4 HF.o.r;rw[<-b5]at o2;rcases h with h | h
     ·rw[h];exact o2
     ·rw[<-h];exact o1)
    have hei:((mid:Int)+(m:Int))-(i:Int)=(e:Int):=zO;have HB5:=zH b5;have HEE:=zH (show e<=9223372036854775807 by omega);have HBB:=zH (show (x<=i/\i<=m/\m<=e/\e<=y)/\mid=i+(e-m)/\i<=mid/\mid<=e/\x<m/\m<y/\y<=N/\x<mid/\mid<y from⟨⟨b1,b2,b3,b4⟩,b5,b6,b7,hxm,hmy,hyN,hm1,hm2⟩);clear x1 x2 he k1 k2 k3 k4 k5 k6 k7 h1 h3 HR b1 b2 b3 b4 b5 b6 b7 hge ca cb hxm hmy hyN hN hm1 hm2;have qe:e<=9223372036854775807:=HEE.o
    go_upto_region 39 with (fail)
    clear hei qe
    go_cut [185] (fun v wx=>v=.bool (decide (i<m/\m<e))/\wr=wx)
    case first=>
     as_aux_lemma=>
      clear HX HP HM1 HM2 HO1 HIH HROT HF HE HBB HD HB5 HEE HW;by_cases a1:i<m
      ·have q1:decide ((i:Int)<(m:Int))=true:=decide_eq_true zO;by_cases a2:m<e
       ·have He:=zH (show decide (i<m/\m<e)=true from decide_eq_true ⟨a1,a2⟩);have q2:decide ((m:Int)<(e:Int))=true:=decide_eq_true zO
        go_wp2_with fail
        go_meet
        exact⟨by rw[He.o];try rfl,rfl⟩
       ·have He:=zH (show decide (i<m/\m<e)=false from decide_eq_false fun h=>a2 h.2);have q2:decide ((m:Int)<(e:Int))=false:=decide_eq_false zO
        go_wp2_with fail
        go_meet
        exact⟨by rw[He.o];try rfl,rfl⟩
      ·have He:=zH (show decide (i<m/\m<e)=false from decide_eq_false fun h=>a1 h.1);have q1:decide ((i:Int)<(m:Int))=false:=decide_eq_false zO
       go_wp2_with fail
       go_meet
       exact⟨by rw[He.o];try rfl,rfl⟩
    case rest=>
     obtain⟨rfl,rfl⟩:=hcut
     go_upto_if 185 with (fail)
     go_cut [] (fun wx=>SrtW w0 g N (dF F i m e) wx)
     case first=>
      as_aux_lemma=>
       clear HX HP HM1 HM2 HO1 HIH HF HE HD HB5 HEE;by_cases a:i<m/\m<e
       ·rw[decide_eq_true a];have HRT:=zH (HROT.o i m e a.1 a.2 (by have:=HBB.o;omega) F wr HW.o);clear HROT HBB HW a
        go_wp2_with fail
        refine HRT.o.mono ?_;rintro ee w2 ⟨rfl,hw2⟩;have HW2:=zH hw2;clear hw2 HRT
        go_wp2_with fail
        go_meet
        exact HW2.o
       ·rw[decide_eq_false a];have HW2:=zH (show SrtW w0 g N (dF F i m e) wr by
         have hb:=HBB.o;by_cases a1:i<m
         ·have a2:e=m:=zO;rw[a2];exact HW.o.ext (CJ F i m hb.1.2.1).symm
         ·have a2:i=m:=zO;rw[a2];exact HW.o.ext (IG F m e hb.1.2.2.1).symm)
        clear HROT HBB HW a
        go_wp2_with fail
        go_meet
        exact HW2.o
     case rest=>
      have HW2:=zH hcut;clear hcut HW HROT HF;obtain⟨w2,rfl⟩:∃V,V=wc:=⟨_,rfl⟩
      go_upto_region 41 with (fail)
      go_cut [199] (fun v wx=>v=.bool (decide (x<i/\i<mid))/\w2=wx)
      case first=>
       as_aux_lemma=>
        clear HX HP HM1 HM2 HO1 HIH HE HBB HD HB5 HEE HW2;by_cases a1:x<i
        ·have q1:decide ((x:Int)<(i:Int))=true:=decide_eq_true zO;by_cases a2:i<mid
         ·have He:=zH (show decide (x<i/\i<mid)=true from decide_eq_true ⟨a1,a2⟩);have q2:decide ((i:Int)<(mid:Int))=true:=decide_eq_true zO
          go_wp2_with fail
          go_meet
          exact⟨by rw[He.o];try rfl,rfl⟩
         ·have He:=zH (show decide (x<i/\i<mid)=false from decide_eq_false fun h=>a2 h.2);have q2:decide ((i:Int)<(mid:Int))=false:=decide_eq_false zO
          go_wp2_with fail
          go_meet
          exact⟨by rw[He.o];try rfl,rfl⟩
        ·have He:=zH (show decide (x<i/\i<mid)=false from decide_eq_false fun h=>a1 h.1);have q1:decide ((x:Int)<(i:Int))=false:=decide_eq_false zO
         go_wp2_with fail
         go_meet
         exact⟨by rw[He.o];try rfl,rfl⟩
      case rest=>
       obtain⟨rfl,rfl⟩:=hcut
       go_upto_if 199 with (fail)
       go_cut [] (fun wx=>∃G,SrtW w0 g N G wx/\cM (dF F i m e) G x mid/\cB R G x mid)
       case first=>
        as_aux_lemma=>
         clear HX HP HM2 HE HB5 HEE;by_cases a:x<i/\i<mid
         ·rw[decide_eq_true a];have HRC:=zH (HIH.o x i mid (by have:=HD.o;have:=HBB.o;omega) a.1 a.2 (by have:=HBB.o;omega) _ HM1.o w2 HW2.o);clear HM1 HO1 HIH HBB HD HW2 a
          go_wp2_with fail
          refine HRC.o.mono ?_;rintro ee w3 ⟨rfl,hh⟩;have HH:=zH hh;clear hh HRC
          go_wp2_with fail
          go_meet
          exact HH.o
         ·rw[decide_eq_false a];have HO:=zH (HO1.o (by have:=HBB.o;omega));clear HM1 HO1 HIH HBB HD a
          go_wp2_with fail
          go_meet
          exact⟨_,HW2.o,cM.refl _ _ _,HO.o⟩
       case rest=>
        obtain⟨G,hG1,hG2,hG3⟩:=hcut;have HG1:=zH hG1;have HG2:=zH hG2;have HG3:=zH hG3;have HM3:=zH (HM2.o G hG2);clear hG1 hG2 hG3 HW2 HM1 HM2 HO1 HE;obtain⟨w3,rfl⟩:∃V,V=wc:=⟨_,rfl⟩
        go_upto_region 43 with (fail)
        go_cut [213] (fun v wx=>v=.bool (decide (mid<e/\e<y))/\w3=wx)
        case first=>
         as_aux_lemma=>
          clear HX HP HM3 HIH HBB HD HB5 HEE HG1 HG2 HG3;by_cases a1:mid<e
          ·have q1:decide ((mid:Int)<(e:Int))=true:=decide_eq_true zO;by_cases a2:e<y
           ·have He:=zH (show decide (mid<e/\e<y)=true from decide_eq_true ⟨a1,a2⟩);have q2:decide ((e:Int)<(y:Int))=true:=decide_eq_true zO
            go_wp2_with fail
            go_meet
            exact⟨by rw[He.o];try rfl,rfl⟩
           ·have He:=zH (show decide (mid<e/\e<y)=false from decide_eq_false fun h=>a2 h.2);have q2:decide ((e:Int)<(y:Int))=false:=decide_eq_false zO
            go_wp2_with fail
            go_meet
            exact⟨by rw[He.o];try rfl,rfl⟩
          ·have He:=zH (show decide (mid<e/\e<y)=false from decide_eq_false fun h=>a1 h.1);have q1:decide ((mid:Int)<(e:Int))=false:=decide_eq_false zO
           go_wp2_with fail
           go_meet
           exact⟨by rw[He.o];try rfl,rfl⟩
        case rest=>
         obtain⟨rfl,rfl⟩:=hcut;by_cases a:mid<e/\e<y
         ·rw[decide_eq_true a];have HRC:=zH (HIH.o mid e y (by have:=HD.o;have:=HBB.o;omega) a.1 a.2 HBB.o.2.2.2.2.2.2.1 _ HM3.o w3 HG1.o);have HMD:=zH (fun G2=>BI (G2:=G2) (show x<=mid by have:=HBB.o;omega) (show mid<=y by have:=HBB.o;omega) HP.o (by rw[HB5.o];exact HX.o) HG2.o HG3.o);clear HIH HX HP HM3 HBB HD HB5 HEE HG1 HG2 HG3 a
          go_wp2_with fail
          refine HRC.o.mono ?_;rintro ee w4 ⟨rfl,G2,hh1,hh2,hh3⟩;have HH:=zH hh1;have HDN:=zH (HMD.o G2 hh2 hh3);clear hh1 hh2 hh3 HRC HMD
          go_wp2_with fail
          go_end0
          exact⟨rfl,G2,HH.o,HDN.o.1,HDN.o.2⟩
         ·rw[decide_eq_false a];have ho:cB R G mid y:=by
           have hb:=HBB.o;by_cases a1:mid<e
           ·have a2:e=y:=zO;have:=HM3.o.l
            rwa [a2]at this
           ·have a2:mid=e:=zO;have:=HM3.o.r
            rwa [<-a2]at this
          have HDN:=zH (BI (show x<=mid by have:=HBB.o;omega) (show mid<=y by have:=HBB.o;omega) HP.o (by rw[HB5.o];exact HX.o) HG2.o HG3.o (cM.refl G mid y) ho);clear HIH HX HP HM3 HBB HD HB5 HEE HG2 HG3 a ho
          go_wp2_with fail
          go_end0
          exact⟨rfl,G,HG1.o,HDN.o.1,HDN.o.2⟩
theorem LW(g b N cap:Nat)(c:Nat->Nat->Int)(R:Int->Int->Prop)(w0:World)(hE:xH w0 g b N c R)(hN:N<=1152921504606846976)(F:nI)(hF:FF F N 0 N)(w:World)(hw:SrtW w0 g N F w):
  Calls zP 168 #[.slice (some ⟨g,0,none⟩) N cap,vI iJ N,oS b] w fun e w'=>e=rJ (.tuple #[])/\∃G,qC R F N G/\SrtW w0 g N G w':=by
 have HINS:=zH (fun x y (h1:x<=y) (h2:y<=N) F hF w hw=>ZS g b N cap c R w0 hE x y h1 h2 zO F hF w hw);have HMRG:=zH (fun x m y (h1:x<m) (h2:m<y) (h3:y<=N) F hF w hw=>KP g b N cap c R w0 hE zO (y-x) x m y (Nat.le_refl _) h1 h2 h3 F hF w hw);have HRI:=zH (fun i j (h1:i<j) (h2:j<N)=>hF.2 i j (Nat.zero_le _) h1 h2);have HBD:=zH (fun k (h1:k<N)=>hF.1 k (Nat.zero_le _) h1);unfold oS UL at *;have H0:=zH hw;clear hw hE hF;go_enter func168,ntmps168
 go_wp2_with fail
 go_loopw [7,8] (fun av bv wr=>∃(a:Nat) (G:nI),av=vI iJ a/\bv=vI iJ ((a:Int)+20)/\a<=N/\Hid (Ini R F N a G)/\Hid (SrtW w0 g N G wr)) (fun av _ _=>N-(intOf av).toNat)
 case atStart=>exact⟨0,F,by go_num,by go_num,Nat.zero_le _,zH (Ini.start R F N),H0⟩
 case round=>
  clear H0;obtain⟨a,G,rfl,rfl,ha,HI,HW⟩:=hrel;by_cases hlt:a+20<=N
  ·have hr:FF G N a (a+20):=⟨fun k h1 h2=>by rw[HI.o.rest k h1];exact HBD.o k zO,fun i j h1 h2 h3=>by rw[HI.o.rest i h1,HI.o.rest j zO];exact HRI.o i j h2 zO⟩
   have hc:=HINS.o a (a+20) zO hlt G hr wr HW.o;rw[show ((a+20:Nat):Int)=(a:Int)+20 by omega]at hc;have HC:=zH hc;have dd:decide ((a:Int)+20<=(N:Int))=true:=decide_eq_true zO;clear hr hc HW
   go_wp2_with fail
   refine HC.o.mono ?_;rintro e w1 ⟨rfl,G2,h1,h2,h3⟩;have HI2:=zH (HI.o.step h2 h3);have HW2:=zH h1;clear h1 h2 h3 HC HI
   go_wp2_with fail
   go_roundw
   case rel=>exact⟨a+20,G2,by go_num,by go_num,hlt,HI2,HW2⟩
   case measure=>exact zM
  ·have hr:FF G N a N:=⟨fun k h1 h2=>by rw[HI.o.rest k h1];exact HBD.o k zO,fun i j h1 h2 h3=>by rw[HI.o.rest i h1,HI.o.rest j zO];exact HRI.o i j h2 zO⟩
   have HC:=zH (HINS.o a N ha (Nat.le_refl _) G hr wr HW.o);have dd:decide ((a:Int)+20<=(N:Int))=false:=decide_eq_false zO;have hlt':N<a+20:=zO;clear hr HW HINS
   go_wp2_with fail
   refine HC.o.mono ?_;rintro e w1 ⟨rfl,G2,h1,h2,h3⟩;have HB:=zH (HI.o.last ha hlt' h2 h3);have HW2:=zH h1;clear h1 h2 h3 HC HI ha hlt hlt' dd;obtain⟨wo,rfl⟩:∃V,V=w1:=⟨_,rfl⟩
   go_wp2_with fail
   go_loopw [6] (fun sv wr=>∃(bs:Nat) (G:nI),sv=vI iJ bs/\0<bs/\bs<=2*N+20/\Hid (Blk R F N bs G)/\Hid (SrtW w0 g N G wr)) (fun sv _=>N-(intOf sv).toNat)
   case atStart=>exact⟨20,G2,by go_num,zO,zO,HB,HW2⟩
   case round=>
    clear HB HW2;obtain⟨bs,G,rfl,hb0,hb1,HB,HW⟩:=hrel;by_cases hbn:bs<N
    ·have HM0:=zH (HB.o.mix (2*bs));have dd:decide ((bs:Int)<(N:Int))=true:=decide_eq_true zO;clear HB hb1;obtain⟨wo,rfl⟩:∃V,V=wr:=⟨_,rfl⟩
     go_wp2_with fail
     clear dd
     go_loopw [7,8] (fun av bv wr=>∃(a t:Nat) (G:nI),av=vI iJ a/\bv=vI iJ ((a:Int)+2*(bs:Int))/\Hid (a=2*bs*t)/\a<=N/\Hid (Mix R F N (2*bs) bs a G)/\Hid (SrtW w0 g N G wr)) (fun av _ _=>N-(intOf av).toNat)
     case atStart=>exact⟨0,0,G,by go_num,by go_num,zH (by rw[Nat.mul_zero]),Nat.zero_le _,HM0,HW⟩
     case round=>
      clear HM0 HW;obtain⟨a,t,G,rfl,rfl,HT,ha,HM,HW⟩:=hrel;by_cases hlt:a+2*bs<=N
      ·have hrow:=HM.o.rows hb0 HT.o (y:=a+2*bs) zO (Nat.le_refl _) hlt HRI.o HBD.o;have hc:=HMRG.o a (a+bs) (a+2*bs) zO zO hlt G ⟨hrow.1,hrow.2.1,hrow.2.2.1,hrow.2.2.2⟩ wr HW.o;rw[show ((a+bs:Nat):Int)=(a:Int)+(bs:Int) by omega,show ((a+2*bs:Nat):Int)=(a:Int)+2*(bs:Int) by omega]at hc;have HC:=zH hc;have dd:decide ((a:Int)+2*(bs:Int)<=(N:Int))=true:=decide_eq_true zO;clear hrow hc HW
       go_wp2_with fail
       refine HC.o.mono ?_;rintro e w2 ⟨rfl,G2,h1,h2,h3⟩;have HM2:=zH (HM.o.step hb0 HT.o hlt h2 h3);have HT2:=zH (show a+2*bs=2*bs*(t+1) by rw[Nat.mul_add,Nat.mul_one,<-HT.o]);have HW2:=zH h1;clear h1 h2 h3 HC HM HT
       go_wp2_with fail
       go_roundw
       case rel=>exact⟨a+2*bs,t+1,G2,by go_num,by go_num,HT2,hlt,HM2,HW2⟩
       case measure=>exact zM
      ·have dd:decide ((a:Int)+2*(bs:Int)<=(N:Int))=false:=decide_eq_false zO;have hlt':N<a+2*bs:=zO;by_cases hm:a+bs<N
       ·have hrow:=HM.o.rows hb0 HT.o (y:=N) zO zO (Nat.le_refl _) HRI.o HBD.o;have hc:=HMRG.o a (a+bs) N zO hm (Nat.le_refl _) G ⟨hrow.1,hrow.2.1,hrow.2.2.1,hrow.2.2.2⟩ wr HW.o;rw[show ((a+bs:Nat):Int)=(a:Int)+(bs:Int) by omega]at hc;have HC:=zH hc;have d2:decide ((a:Int)+(bs:Int)<(N:Int))=true:=decide_eq_true zO;clear hrow hc HW
        go_wp2_with fail
        refine HC.o.mono ?_;rintro e w2 ⟨rfl,G2,h1,h2,h3⟩;have HB2:=zH (HM.o.last hb0 HT.o ha hlt' h2 h3);have HW2:=zH h1;clear h1 h2 h3 HC HM HT
        go_wp2_with fail
        go_roundw
        case rel=>exact⟨2*bs,G2,by go_num,zO,zO,HB2,HW2⟩
        case measure=>exact zM
       ·have d2:decide ((a:Int)+(bs:Int)<(N:Int))=false:=decide_eq_false zO;have HB2:=zH (HM.o.last hb0 HT.o ha hlt' (cM.refl G a N) (HM.o.alone hb0 HT.o zO));clear HM HT
        go_wp2_with fail
        go_roundw
        case rel=>exact⟨2*bs,G,by go_num,zO,zO,HB2,HW⟩
        case measure=>exact zM
    ·have dd:decide ((bs:Int)<(N:Int))=false:=decide_eq_false zO;have HS:=zH (HB.o.done zO);clear HB
     go_wp2_with fail
     go_end0
     exact⟨rfl,G,HS.o,HW.o⟩
theorem oM(g b N cap:Nat)(c:Nat->Nat->Int)(R:Int->Int->Prop)(w0:World)(hE:xH w0 g b N c R)(hN:N<=1152921504606846976)(F:nI)(hF:FF F N 0 N)(w:World)(hw:SrtW w0 g N F w):
  Calls zP 130 #[.slice (some ⟨g,0,none⟩) N cap,oS b] w fun e w'=>e=rJ (.tuple #[])/\∃G,qC R F N G/\SrtW w0 g N G w':=by
 have HI:=zH (LW g b N cap c R w0 hE hN F hF w hw);unfold oS at *;clear hF hw hE;go_enter func130,ntmps130
 go_wp2_with fail
 refine HI.o.mono ?_;rintro e w1 ⟨rfl,hh⟩;have HH:=zH hh;clear hh HI
 go_wp2_with fail
 go_end0
 exact⟨rfl,HH.o⟩
structure nE(w:World)(p:Option Addr)(n:Nat)(L:Nat->aM):Prop where
 cell:0<n->∃g o,p=some ⟨g,o,none⟩/\g<w.heap.size/\∀i,i<n->∀f v,(L i).cells[f]?=some v->w.cell? ⟨g,o+i*6+f,none⟩=some v
 ok:∀i,i<n->jB w (L i)
theorem nE.old{w w':World}{p:Option Addr}{n:Nat}{L:Nat->aM}(h:nE w p n L)(k:Old w w'):nE w' p n L where
 cell:=fun hn=>by
  obtain⟨g,o,h1,h2,h3⟩:=h.cell hn;exact⟨g,o,h1,Nat.lt_of_lt_of_le h2 k.size,fun i hi f v hf=>(k.cell (a:=⟨g,o+i*6+f,none⟩) h2).trans (h3 i hi f v hf)⟩
 ok:=fun i hi=>(h.ok i hi).old k
def vE(L:Nat->aM)(i:Nat):ByteArray:=(L i).s
theorem GG(L:Nat->aM)(x y:Nat)(hxy:x<y)(h:Lib.compareBytes (vE L y).data.toList (vE L x).data.toList<0):lL (vE L) y x:=.inl (by
  have:=(BG _ _).1 h
  rwa [Int.toNat_natCast,Int.toNat_natCast])
theorem MW(L:Nat->aM)(x y:Nat)(hxy:x<y)(h:¬Lib.compareBytes (vE L y).data.toList (vE L x).data.toList<0):lL (vE L) x y:=.inr ⟨by
  rw[Int.toNat_natCast,Int.toNat_natCast];exact Bool.eq_false_iff.2 fun e=>h ((BG _ _).2 e),zO⟩
theorem TW{w0:World}{g b n cp gp o:Nat}{L:Nat->aM}(hb:w0.cell? ⟨b,0,none⟩=some (.slice (some ⟨gp,o,none⟩) n cp))(hk:∀i,i<n->w0.cell? ⟨gp,o+i*6,none⟩=some (.string (vE L i)))(h1:b<w0.heap.size)(h2:b≠g)(h3:gp<w0.heap.size)(h4:gp≠g):
  xH w0 g b n (fun x y=>Lib.compareBytes (vE L x).data.toList (vE L y).data.toList) (lL (vE L)) where
 call:=fun W hW x y hx hy=>PI (vE L) none b n cp gp o x y W ((hW.cell (a:=⟨b,0,none⟩) ⟨h1,h2⟩).trans hb) (fun i hi=>(hW.cell (a:=⟨gp,o+i*6,none⟩) ⟨h3,h4⟩).trans (hk i hi)) hx hy
 yes:=GG L
 no:=MW L
 tr:=PK _
theorem Tryz.info_int:(zP.info? 3).map (fun i=>(i.zero,i.size,i.bytes))=some (some (vI iJ 0),1,8):=zK
theorem aHF(n:Nat):madeCells (Value.int .i64 0:Value).cells n=aA n (blk fun _=>0):=
 qX n _ zD (fun j hj=>by
  have h1:j<1:=hj;have h2:j=0:=zO;rw[h2];rfl)
theorem BP(n:Nat)(hn:n<=1099511627776)(w:World):(Instr.makeSlice 23 (vI iJ n) (vI iJ n)).run zP w=.ok (.slice (some ⟨w.heap.size,0,none⟩) n n) (w.alloc (.cells (aA n (blk fun _=>0)) 3)):=by
 obtain⟨i,hi,hz0,hz1,hz2⟩:=info_parts Tryz.info_int;rw[run_make w _ _ i _ underlying23 hi hz0 .i64 .i64 n n zO zO (by rw[hz2];omega) zO,hz1,Int.toNat_natCast,Nat.mul_one,aHF n]
def rQ(k:Nat):nI:=fun j=>if j<k then(j:Int) else 0
theorem YP(k:Nat):(fun j=>if j=k then(k:Int) else rQ k j)=rQ (k+1):=by
 funext j;unfold rQ;by_cases e:j=k
 ·subst e;rw[if_pos rfl,if_pos zO]
 ·rw[if_neg e];by_cases h:j<k
  ·rw[if_pos h,if_pos zO]
  ·rw[if_neg h,if_neg zO]
theorem TO(p:Option Addr)(n cp:Nat)(L:Nat->aM)(w:World)(hs:nE w p n L)(hn:n<=1048576):
  Calls zP 89 #[.slice p n cp] w fun e w'=>∃g G,e=rJ (.slice (some ⟨g,0,none⟩) n n)/\qC (lL (vE L)) (fun j=>(j:Int)) n G/\CellsAt w' g n G/\w.heap.size<=g/\Old w w':=by
 obtain⟨W1,hW1⟩:=zG (w.alloc (.cells #[.slice p n cp] 22));obtain⟨b,hb⟩:=zG (w.heap.size);have ho1:Old w W1:=by rw[hW1];exact Old.alloc _ _
 have hsz1:W1.heap.size=b+1:=by rw[hW1,hb];exact World.size_alloc ..
 have cb:W1.cell? ⟨b,0,none⟩=some (.slice p n cp):=by
  rw[hW1,hb];exact(cell_of_row _ _ _ _ _ _ (heap_alloc_new _ _)).trans rfl
 have hmk:=BP n zO W1;rw[hsz1]at hmk;obtain⟨W2,hW2⟩:=zG (W1.alloc (.cells (aA n (blk fun _=>0)) 3));rw[<-hW2]at hmk;have ho2:Old W1 W2:=by rw[hW2];exact Old.alloc _ _
 have hc2:CellsAt W2 (b+1) n (rQ 0):=by
  rw[hW2,<-hsz1];exact(fG W1 n _ _).ext fun j _=>by unfold rQ;rw[if_neg zO]
 have H0:=zH (show SrtW W2 (b+1) n (rQ 0) W2 from⟨hc2,Kept.refl _ _⟩);have HOW:=zH (ho1.trans ho2);have hE:0<n->xH W2 (b+1) b n (fun x y=>Lib.compareBytes (vE L x).data.toList (vE L y).data.toList) (lL (vE L)):=fun h0=>by
  obtain⟨gp,o,hp,hg,hc⟩:=hs.cell h0;have hb2:b<W2.heap.size:=by have:=ho2.size;omega
  refine TW (cp:=cp) (gp:=gp) (o:=o) ?_ (fun i hi=>?_) hb2 zO (Nat.lt_of_lt_of_le hg (HOW.o.size)) zO
  ·rw[<-hp];exact(ho2.cell (a:=⟨b,0,none⟩) (by show b<_;omega)).trans cb
  ·have:=hc i hi 0 (.string (L i).s) rfl;exact(HOW.o.cell (a:=⟨gp,o+i*6+0,none⟩) hg).trans this
 have HE:=zH hE;have HW:=zH hW1;have HB:=zH hb;have hcb2:=(ho2.cell (a:=⟨b,0,none⟩) (by show b<_;omega)).trans cb;clear hE ho1 ho2 hc2 hsz1 hW1 hW2 hs hb;go_enter func89,ntmps89
 go_upto_region 1 with (fail)
 rw[<-HW.o,<-HB.o]
 go_wp2_with fail
 clear hmk cb
 go_loopw [10] (fun iv wr=>∃k:Nat,k<=n/\iv=vI iJ k/\Hid (SrtW W2 (b+1) n (rQ k) wr)) (fun i _=>n-(intOf i).toNat)
 case atStart=>exact⟨0,Nat.zero_le _,by go_num,H0⟩
 case round=>
  clear H0;obtain⟨k,hk,rfl,HS⟩:=hrel;by_cases hkn:k<n
  ·have c1:=HS.o.row.cell k hkn;have f1:=HS.o.row.frz k hkn;have HS2:=zH ((HS.o.set k hkn k).ext (YP k));clear HS;generalize rQ k k=u at *
   go_wp2_with fail
   go_roundw
   case rel=>exact⟨k+1,zO,by go_num,HS2⟩
   case measure=>exact zM
  ·obtain rfl:k=n:=zO;have hF:FF (rQ k) k 0 k:=⟨fun j _ h=>by unfold rQ;rw[if_pos h];omega,fun i j _ h1 h2=>by unfold rQ;rw[if_pos zO,if_pos h2];omega⟩
   have hsort:Calls zP 130 #[.slice (some ⟨b+1,0,none⟩) k k,oS b] wr fun e w'=>e=rJ (.tuple #[])/\∃G,qC (lL (vE L)) (rQ k) k G/\SrtW W2 (b+1) k G w':=by
    by_cases h0:0<k
    ·exact oM (b+1) b k k _ _ W2 (HE.o h0) zO (rQ k) hF wr HS.o
    ·obtain rfl:k=0:=zO;exact oM (b+1) b 0 0 (fun x y=>Lib.compareBytes (vE L x).data.toList (vE L y).data.toList) (lL (vE L)) W2 ⟨fun _ _ x y h=>zO,GG L,MW L,PK _⟩ zO (rQ 0) hF wr HS.o
   have HST:=zH hsort;clear hF hsort HS HE;unfold oS at *
   go_wp2_with fail
   refine HST.o.mono ?_;rintro e w1 ⟨rfl,G,h1,h2⟩;have hsr:qC (lL (vE L)) (fun j=>(j:Int)) k G:=⟨h1.ord,fun q hq=>by
    obtain⟨m,a1,a2⟩:=h1.frm q hq;exact⟨m,a1,by rw[a2];unfold rQ;rw[if_pos a1]⟩,fun q hq=>by
    obtain⟨m,a1,a2⟩:=h1.all q hq;exact⟨m,a1,by rw[a2];unfold rQ;rw[if_pos hq]⟩⟩
   have HSR:=zH hsr;have HC:=zH h2.row;have HO:=zH (show Old w w1 from HOW.o.after h2.kept fun q hq=>⟨by have:=HOW.o.size;omega,by have:=HB.o;omega⟩);clear hsr h1 h2 HST
   go_wp2_with fail
   go_ret;exact⟨b+1,G,rfl,HSR.o,HC.o,by have:=HB.o;omega,HO.o⟩
noncomputable def gT(L:Nat->aM):nI
 | 0=>0
 | k+1=>if gT L k≠0 then gT L k else(L k).check
theorem nW{L:Nat->aM}{k:Nat}(h:gT L k=0):gT L (k+1)=(L k).check:=by show (if gT L k≠0 then gT L k else(L k).check)=_;rw[if_neg zO]
theorem wH{L:Nat->aM}{k n:Nat}(h:gT L k≠0)(hn:k<=n):gT L n=gT L k:=by
 induction hn with
 | refl=>rfl
 | @step m hm ih=>show (if gT L m≠0 then gT L m else(L m).check)=_;rw[if_pos (by rw[ih];exact h),ih]
def vQ(L:Nat->aM)(n:Nat):Prop:=∃i k,k<i/\i<n/\vE L i=vE L k
open Classical in
noncomputable def nX(L:Nat->aM)(n:Nat):Int:=if 64<n then 6 else if gT L n≠0 then gT L n else if vQ L n then 11 else 0
theorem aAn{L:Nat->aM}{n:Nat}(h:64<n):nX L n=6:=by unfold nX;rw[if_pos h]
theorem aCR{L:Nat->aM}{n:Nat}(h:¬64<n)(h2:gT L n≠0):nX L n=gT L n:=by unfold nX;rw[if_neg h,if_pos h2]
theorem VH{L:Nat->aM}{n:Nat}(h:¬64<n)(h2:gT L n=0)(h3:vQ L n):nX L n=11:=by unfold nX;rw[if_neg h,if_neg zO,if_pos h3]
theorem XD{L:Nat->aM}{n:Nat}(h:¬64<n)(h2:gT L n=0)(h3:¬vQ L n):nX L n=0:=by unfold nX;rw[if_neg h,if_neg zO,if_neg h3]
def DU(L:Nat->aM)(G:nI)(i:Nat):ByteArray:=vE L (G i).toNat
theorem IW{R:Int->Int->Prop}{n:Nat}{G:nI}(h:qC R (fun j=>(j:Int)) n G)(i:Nat)(hi:i<n):∃m:Nat,m<n/\G i=(m:Int):=h.frm i hi
theorem aDc{L:Nat->aM}{n:Nat}{G:nI}(h:qC (lL (vE L)) (fun j=>(j:Int)) n G)(i:Nat)(h0:0<i)(hi:i<n)(he:DU L G (i-1)=DU L G i):vQ L n:=by
 obtain⟨x,hx,ex⟩:=IW h (i-1) zO;obtain⟨y,hy,ey⟩:=IW h i hi;have hr:=h.ord (i-1) i zO hi;unfold DU at he;rw[ex,ey]at hr he;rw[Int.toNat_natCast,Int.toNat_natCast]at he;unfold lL at hr;rw[Int.toNat_natCast,Int.toNat_natCast,he,jT]at hr;rcases hr with hr | ⟨_,hr⟩
 ·cases hr
 ·exact⟨y,x,zO,hy,he.symm⟩
theorem aBr{L:Nat->aM}{n:Nat}{G:nI}(h:qC (lL (vE L)) (fun j=>(j:Int)) n G)(hne:∀i,0<i->i<n->DU L G (i-1)≠DU L G i):¬vQ L n:=by
 have step:∀i,0<i->i<n->sP (DU L G (i-1)) (DU L G i)=true:=fun i h0 hi=>by
  have hr:=h.ord (i-1) i zO hi;rcases hr with hr | ⟨hr,_⟩
  ·exact hr
  ·cases hc:sP (DU L G (i-1)) (DU L G i)
   ·exact absurd (qP hc hr) (hne i h0 hi)
   ·rfl
 have up:∀d i,i+d+1<n->sP (DU L G i) (DU L G (i+d+1))=true:=by
  intro d
  induction d with
  | zero=>intro i hi;exact step (i+1) zO zO
  | succ d ih=>intro i hi;exact pO (ih i zO) (step (i+(d+1)+1) zO hi)
 rintro ⟨i,k,hki,hin,he⟩;obtain⟨a,ha,ea⟩:=h.all i hin;obtain⟨b,hb,eb⟩:=h.all k zO;have hab:DU L G a=DU L G b:=by unfold DU;rw[ea,eb,Int.toNat_natCast,Int.toNat_natCast];exact he
 have hne2:a≠b:=fun e=>by rw[e,eb]at ea;omega
 rcases Nat.lt_or_gt_of_ne hne2 with c | c
 ·have:=up (b-a-1) a zO;rw[show a+(b-a-1)+1=b by omega,hab,jT]at this;cases this
 ·have:=up (a-b-1) b zO;rw[show b+(a-b-1)+1=a by omega,hab,jT]at this;cases this
theorem aEE{a b:ByteArray}(h:a≠b):(a.toList == b.toList)=false:=by rw[eqS];exact decide_eq_false h
theorem aHz(a:ByteArray):(a.toList == a.toList)=true:=by rw[eqS];exact decide_eq_true rfl
theorem IY(p:Option Addr)(n cp:Nat)(L:Nat->aM)(w:World)(hs:nE w p n L)(hn:n<=1048576):
  Calls zP 48 #[.slice p n cp] w fun e w'=>e=rJ (vI iJ (nX L n))/\Old w w':=by
 have HS:=zH hs;have HO:=zH (Old.refl w);by_cases h64:64<n
 ·have HA:=zH (aAn (L:=L) h64);have dd:decide (64<(n:Int))=true:=decide_eq_true zO;clear hs;go_enter func48,ntmps48
  go_wp2_with fail
  go_ret;exact⟨bT HA.o.symm,HO.o⟩
 have dd:decide (64<(n:Int))=false:=decide_eq_false zO;clear hs;go_enter func48,ntmps48
 go_wp2_with fail
 clear dd
 go_loopw [13] (fun iv wr=>∃k:Nat,k<=n/\iv=vI iJ k/\Hid (gT L k=0)/\Hid (Old w wr)) (fun i _=>n-(intOf i).toNat)
 case atStart=>exact⟨0,Nat.zero_le _,by go_num,zH rfl,HO⟩
 case round=>
  clear HO;obtain⟨k,hk,rfl,HE,HO⟩:=hrel;by_cases hkn:k<n
  ·have hS:=HS.o.old HO.o;obtain⟨g,o,rfl,hg,hcs⟩:=hS.cell zO;have c0:wr.cell? ⟨g,o+k*6,none⟩=some (.string (L k).s):=hcs k hkn 0 _ rfl;have c1:wr.cell? ⟨g,o+k*6+1,none⟩=some (vI iJ (L k).r):=hcs k hkn 1 _ rfl;have c2:wr.cell? ⟨g,o+k*6+2,none⟩=some (.bool (L k).lp):=hcs k hkn 2 _ rfl;have c3:wr.cell? ⟨g,o+k*6+3,none⟩=some (vI iJ (L k).a):=hcs k hkn 3 _ rfl;have c4:wr.cell? ⟨g,o+k*6+4,none⟩=some (vI iJ (L k).b):=hcs k hkn 4 _ rfl;have c5:wr.cell? ⟨g,o+k*6+5,none⟩=some (.slice (L k).p (L k).n (L k).c):=hcs k hkn 5 _ rfl;have HCK:=zH (XX (L k) (wr.alloc (.cells (L k).cells 133)) ((hS.ok k hkn).old (Old.alloc _ _)));have HOa:=zH (HO.o.alloc' (.cells (L k).cells 133));have q0:(0:Int)<=k:=zO;have q1:(k:Int)<n:=zO;clear hS hcs hg HO;unfold aM.val aM.cells at HCK;unfold aM.cells at HOa
   go_wp2_with fail
   refine HCK.o.mono ?_;rintro e w2 ⟨rfl,ho2⟩;have HO2:=zH (HOa.o.trans ho2);clear ho2 HCK HOa c0 c1 c2 c3 c4 c5;by_cases hc:(L k).check=0
   ·have HE2:=zH ((nW HE.o).trans hc);have d:((L k).check != 0)=false:=by simpa using hc
    clear hc HE
    go_wp2_with fail
    go_roundw
    case rel=>exact⟨k+1,zO,by go_num,HE2,HO2⟩
    case measure=>exact zM
   ·have he:=nW HE.o;have hst:=wH (L:=L) (k:=k+1) (n:=n) (by rw[he];exact hc) zO;have HA:=zH ((aCR h64 (by rw[hst,he];exact hc)).trans (hst.trans he));have d:((L k).check != 0)=true:=by simpa using hc
    clear hc he hst HE
    go_wp2_with fail
    go_ret;exact⟨bT HA.o.symm,HO2.o⟩
  ·obtain rfl:k=n:=zO;have hend:¬((k:Int)<(k:Int)):=zO;have HB:=zH (TO p k cp L wr (HS.o.old HO.o) hn)
   go_wp2_with fail
   refine HB.o.mono ?_;rintro e w2 ⟨go,G,rfl,hsr,hc,hge,ho2⟩;have HSR:=zH hsr;have HC:=zH hc;have HO2:=zH (HO.o.trans ho2);clear hsr hc hge ho2 HB HO hend;obtain⟨wo,rfl⟩:∃V,V=w2:=⟨_,rfl⟩
   go_wp2_with fail
   go_loopw [7] (fun iv wr=>∃i:Nat,0<i/\(i<=k\/i=1)/\iv=vI iJ i/\Hid (∀j,0<j->j<i->DU L G (j-1)≠DU L G j)/\Hid (∃d,wr=wo.drewN d)) (fun i _=>k+1-(intOf i).toNat)
   case atStart=>exact⟨1,zO,.inr rfl,by go_num,zH fun j h1 h2=>zO,zH ⟨0,rfl⟩⟩
   case round=>
    obtain⟨i,h0,hi,rfl,HNE,HD⟩:=hrel;by_cases hik:i<k
    ·clear hi;obtain⟨d,rfl⟩:=HD.o;clear HD;obtain⟨m,hm⟩:∃m:Nat,m=i-1:=⟨_,rfl⟩
     have hmk:m<k:=zO;obtain⟨x,hx,ex⟩:=IW HSR.o m hmk;obtain⟨y,hy,ey⟩:=IW HSR.o i hik;have cx:=HC.o.cell m hmk;have cy:=HC.o.cell i hik;rw[ex]at cx;rw[ey]at cy;obtain⟨g,o,rfl,hg,hcs⟩:=(HS.o.old HO2.o).cell zO;have nx:wo.cell? ⟨g,o+x*6,none⟩=some (.string (L x).s):=hcs x hx 0 _ rfl;have ny:wo.cell? ⟨g,o+y*6,none⟩=some (.string (L y).s):=hcs y hy 0 _ rfl;have q1:(i:Int)<k:=zO;have q2:(m:Int)<k:=zO;have q3:(x:Int)<k:=zO;have q4:(y:Int)<k:=zO;have hox:DU L G (i-1)=(L x).s:=by unfold DU vE;rw[<-hm,ex,Int.toNat_natCast]
     have hoy:DU L G i=(L y).s:=by unfold DU vE;rw[ey,Int.toNat_natCast]
     have HB1:=zH (show m<=9223372036854775807 by omega);have hmi:(i:Int)-1=(m:Int):=zO;by_cases he:(L x).s=(L y).s
     ·have HA:=zH (VH h64 HE.o (aDc HSR.o i h0 hik (by rw[hox,hoy];exact he)));rw[he]at nx;have de:=aHz (L y).s;clear hcs hg hox hoy he ex ey hm HNE;obtain⟨e1,e2⟩:=tB (x:=(i:Int)-1) (p:=m) hmi HB1.o;clear hmi;generalize (L y).s=s at *
      go_wp2_with fail
      go_quiet (fail)
      clear e1 e2
      go_wp2_with fail
      go_ret;exact⟨bT HA.o.symm,(HO2.o.drewN _).drewN _⟩
     ·have HNE2:=zH (show ∀j,0<j->j<i+1->DU L G (j-1)≠DU L G j from fun j h1 h2=>by
       by_cases e:j=i
       ·subst e;rw[hox,hoy];exact he
       ·exact HNE.o j h1 zO)
      have de:=aEE he;clear hcs hg hox hoy he ex ey hm HNE;obtain⟨e1,e2⟩:=tB (x:=(i:Int)-1) (p:=m) hmi HB1.o;clear hmi;generalize (L x).s=s at *;generalize (L y).s=t at *
      go_wp2_with fail
      go_quiet (fail)
      clear e1 e2
      go_wp2_with fail
      go_roundw
      case rel=>exact⟨i+1,zO,.inl zO,by go_num,HNE2,zH ⟨_,rfl⟩⟩
      case measure=>exact zM
    ·have hend:¬((i:Int)<(k:Int)):=zO;have HA:=zH (XD h64 HE.o (aBr HSR.o fun j h1 h2=>HNE.o j h1 zO));obtain⟨d,rfl⟩:=HD.o;clear HNE HD
     go_wp2_with fail
     go_ret;exact⟨bT HA.o.symm,HO2.o.drewN _⟩
structure ApR(w W:World)(S:aM)(z:Array Value)(gc:Nat)(p:Option Addr)(c:Nat)(Q:Nat->Option Addr)(C:Nat->Nat):Prop where
 st:gS w W (S.celled p c Q C) z
 le:S.n<=c
 cap:c<=maxLen
 hp:0<S.n->p=some ⟨gc,0,none⟩/\gc<W.heap.size
 cell:∀i,i<S.n->W.cell? ⟨gc,i,none⟩=some (.slice (Q i) (S.M i) (C i))
 frz:∀i,i<S.n->W.frozen? ⟨gc,i,none⟩=false
 lo:w.heap.size+2<=gc
 row:∀i,i<S.n->S.M i<=C i/\C i<=maxLen/\WL W (Q i) (S.M i) (S.X i)
 ne:∀i,i<S.n->0<S.M i->∀a,Q i=some a->a.block≠gc/\(a.block<w.heap.size\/w.heap.size+2<=a.block)
def aM.inX(S:aM)(X:Nat->Prop):Prop:=(∀a,0<S.n->S.p=some a->X a.block)/\∀i,i<S.n->0<S.M i->∀a,S.Q i=some a->X a.block
theorem jB.kept{w w':World}{S:aM}{X:Nat->Prop}(h:jB w S)(k:Kept X w w')(hX:S.inX X):jB w' S where
 size:=h.size
 le:=h.le
 cap:=h.cap
 rows:={
  cell:=fun hn=>by
   obtain⟨g,o,h1,h2,h3⟩:=h.rows.cell hn;exact⟨g,o,h1,Nat.lt_of_lt_of_le h2 k.size,fun i hi=>(k.cell (a:=⟨g,o+i,none⟩) (hX.1 ⟨g,o,none⟩ hn h1)).trans (h3 i hi)⟩
  row:=fun i hi=>by
   obtain⟨a,b,c⟩:=h.rows.row i hi;refine⟨a,b,fun hm=>?_⟩;obtain⟨g,o,h1,h2,h3⟩:=c hm;exact⟨g,o,h1,Nat.lt_of_lt_of_le h2 k.size,fun j hj=>(k.cell (a:=⟨g,o+j,none⟩) (hX.2 i hi hm ⟨g,o,none⟩ h1)).trans (h3 j hj)⟩ }
theorem aM.inX.mono{S:aM}{X Y:Nat->Prop}(h:S.inX X)(k:∀q,X q->Y q):S.inX Y:=⟨fun a h0 ha=>k _ (h.1 a h0 ha),fun i hi h0 a ha=>k _ (h.2 i hi h0 a ha)⟩
def aM.like(T S:aM):Prop:=T.s=S.s/\T.r=S.r/\T.lp=S.lp/\T.a=S.a/\T.b=S.b/\T.n=S.n/\T.M=S.M/\T.X=S.X
theorem aM.like.len{T S:aM}(h:T.like S):T.len=S.len:=by
 obtain⟨_,_,_,_,_,h6,h7,_⟩:=h;unfold aM.len;rw[h6,h7]
structure SrW(B:Nat)(W:World)(gs n k:Nat)(Z:Nat->aM):Prop where
 lt:gs<W.heap.size
 ge:B<=gs
 there:W.there gs 0 (n*6)
 cell:∀i,i<k->∀f v,(Z i).cells[f]?=some v->W.cell? ⟨gs,i*6+f,none⟩=some v
 ok:∀i,i<k->jB W (Z i)
 inx:∀i,i<k->(Z i).inX (fun q=>gs<q)
theorem VV(S:aM):S.cells.toList.length=6:=rfl
theorem Tryz.info_smp:(zP.info? 133).map (fun i=>(i.zero,i.size,i.bytes))=some (some (.agg #[.string ⟨#[]⟩,vI iJ 0,.bool false,vI iJ 0,vI iJ 0,.slice none 0 0]),6,72):=zK
def mS(Z:Nat->aM):Nat->List Value
 | 0=>[]
 | k+1=>mS Z k ++ (Z k).cells.toList
theorem qU(Z:Nat->aM):∀k,(mS Z k).length=k*6
 | 0=>rfl
 | k+1=>by show (mS Z k ++ (Z k).cells.toList).length=_;rw[List.length_append,qU Z k,VV];omega
theorem GI(Z:Nat->aM):∀k i,i<k->∀f v,(Z i).cells[f]?=some v->(mS Z k)[i*6+f]?=some v
 | 0,i,h,_,_,_=>zO
 | k+1,i,h,f,v,hv=>by
  have hf6:f<6:=by
   rcases Nat.lt_or_ge f 6 with h | h
   ·exact h
   ·rw[Array.getElem?_eq_none (by show 6<=f;exact h)]at hv;cases hv
  show (mS Z k ++ (Z k).cells.toList)[i*6+f]?=some v;by_cases e:i=k
  ·subst e;rw[List.getElem?_append_right (by rw[qU];omega),qU,show i*6+f-i*6=f by omega];simpa using hv
  ·rw[List.getElem?_append_left (by rw[qU];omega)];exact GI Z k i zO f v hv
theorem wD{Z Y:Nat->aM} : ∀k,(∀i,i<k->Z i=Y i)->mS Z k=mS Y k
 | 0,_=>rfl
 | k+1,h=>by show mS Z k ++ _=mS Y k ++ _;rw[wD k fun i hi=>h i zO,h k zO]
structure oY(w wr:World)(v:Value)(k:Nat)(Z:Nat->aM):Prop where
 own:ownS (fun q=>q<w.heap.size) wr 133 6 v k (mS Z k)
 ok:∀i,i<k->jB wr (Z i)/\CB (Z i)/\(Z i).inX (fun q=>v.ownBlock≠some q)
 old:Old w wr
theorem oY.later{w wr w':World}{v:Value}{k:Nat}{Z:Nat->aM}(h:oY w wr v k Z)(o:Old wr w'):oY w w' v k Z:=
 ⟨h.own.old o,fun i hi=>⟨(h.ok i hi).1.old o,(h.ok i hi).2⟩,h.old.trans o⟩
theorem jB.inLt{w:World}{S:aM}(h:jB w S):S.inX (fun q=>q<w.heap.size):=
 ⟨fun a h0 ha=>by
  obtain⟨g,o,h1,h2,_⟩:=h.rows.cell h0;rw[h1]at ha;cases ha;exact h2,fun i hi h0 a ha=>by
  obtain⟨g,o,h1,h2,_⟩:=(h.rows.row i hi).2.2 h0;rw[h1]at ha;cases ha;exact h2⟩
theorem aM.inX.and{S:aM}{X Y:Nat->Prop}(h:S.inX X)(k:S.inX Y):S.inX (fun q=>X q/\Y q):=⟨fun a h0 ha=>⟨h.1 a h0 ha,k.1 a h0 ha⟩,fun i hi h0 a ha=>⟨h.2 i hi h0 a ha,k.2 i hi h0 a ha⟩⟩
theorem oY.add{w w1 w2:World}{v v':Value}{k:Nat}{Z:Nat->aM}{S:aM}(h:oY w w1 v k Z)(hS:jB w1 S)(hf:CB S)(hin:S.inX (fun q=>v.ownBlock≠some q))
  (h1:ownS (fun q=>q<w1.heap.size/\v.ownBlock≠some q) w2 133 6 v' (k+1) (mS Z k ++ S.cells.toList)) (h2:Kept (fun q=>q<w1.heap.size/\v.ownBlock≠some q) w1 w2) (h3:∀q,v'.ownBlock=some q->v.ownBlock=some q\/w1.heap.size<=q):
  oY w w2 v' (k+1) (fun i=>if i=k then S else Z i):=by
 have hin':∀T:aM,jB w1 T->T.inX (fun q=>v.ownBlock≠some q)->jB w2 T/\T.inX (fun q=>v'.ownBlock≠some q):=fun T hT hi=>by
  have hb:=hT.inLt.and hi;exact⟨hT.kept h2 hb,hb.mono fun q hq e=>by
   rcases h3 q e with e' | e'
   ·exact hq.2 e'
   ·omega⟩
 refine⟨?_,fun i hi=>?_,?_⟩
 ·show ownS _ w2 _ 6 v' (k+1) (mS _ k ++ (if k=k then S else Z k).cells.toList);rw[if_pos rfl,wD (Y:=Z) k fun i hi=>by rw[if_neg zO]];exact h1.mono fun q hq hl=>by
   rcases h3 q hq with e | e
   ·exact h.own.2 q e hl
   ·have:=h.old.size;omega
 ·by_cases e:i=k
  ·rw[if_pos e];exact⟨(hin' S hS hin).1,hf,(hin' S hS hin).2⟩
  ·rw[if_neg e];have:=h.ok i zO;exact⟨(hin' _ this.1 this.2.2).1,this.2.1,(hin' _ this.1 this.2.2).2⟩
 ·exact h.old.after h2 fun q hq=>⟨by have:=h.old.size;omega,fun e=>h.own.2 q e hq⟩
theorem oY.sms{w wr:World}{v:Value}{k:Nat}{Z:Nat->aM}(h:oY w wr v k Z):∃p c,v=.slice p k c/\nE wr p k Z:=by
 rcases h.own.shape with ⟨hv,h0⟩ | ⟨g,cap,hv,_,hg,_,_,hc⟩
 ·exact⟨none,0,by rw[h0];exact hv,⟨fun hk=>zO,fun i hi=>(h.ok i hi).1⟩⟩
 ·exact⟨_,cap,hv,⟨fun _=>⟨g,0,rfl,hg,fun i hi f u hu=>by rw[Nat.zero_add];exact hc _ u (GI Z k i hi f u hu)⟩,fun i hi=>(h.ok i hi).1⟩⟩
theorem aEa(w:World)(cs:Array Value)(t:TypeId):∀(j:Nat) (x:Value),cs.toList[j]?=some x->(w.alloc (.cells cs t)).cell? ((⟨w.heap.size,0,none⟩:Addr).add j)=some x:=fun j x h=>by
 rw[add_plain,Nat.zero_add,cell_of_row _ _ _ _ _ _ (heap_alloc_new _ _)];simpa using h
def aEk(w:World)(n:Nat)(L:Nat->aM)(e:Ending)(w':World):Prop:=∃p c Z,e=rJ (.slice p (min n 8) c)/\nE w' p (min n 8) Z/\(∀i,i<min n 8->CB (Z i)/\rV (L i) (Z i))/\Old w w'
theorem aAj(q:Option Addr)(n c:Nat)(L:Nat->aM)(w:World)(hs:nE w q n L):
  Calls zP 24 #[.slice q n c] w (aEk w n L):=by
 obtain⟨ir,hir,hr0,hr1,hr2⟩:=info_parts Tryz.info_smp;have HS:=zH hs;have H0:=zH (show oY w w (.slice none 0 0) 0 L from⟨ownS.nil _ _ _ _,fun i hi=>zO,Old.refl w⟩);clear hs;go_enter func24,ntmps24
 go_wp2_with fail
 go_loopw [3,4] (fun v i wr=>∃(k:Nat) (Z:Nat->aM),k<=8/\k<=n/\i=vI iJ k/\Hid (oY w wr v k Z)/\Hid (∀i,i<k->rV (L i) (Z i))) (fun _ i _=>8-(intOf i).toNat)
 case atStart=>exact⟨0,L,zO,zO,by go_num,H0,zH (fun i hi=>zO)⟩
 case round=>
  clear H0;obtain⟨k,Z,hk8,hkn,rfl,HA,HFO⟩:=hrel
  go_upto_region 3 with (fail)
  go_cut [12] (fun v wx=>v=.bool (decide (k<n/\k<8))/\wr=wx)
  case first=>
   clear HS HA;by_cases a1:k<n
   ·by_cases a2:k<8
    ·have He:=zH (show decide (k<n/\k<8)=true from decide_eq_true ⟨a1,a2⟩)
     go_wp2_with fail
     go_meet
     exact⟨by first | (rw[He.o];done) | (rw[He.o];exact congrArg Value.bool (decide_eq_true zO)) | (rw[He.o];exact congrArg Value.bool (decide_eq_false zO)),rfl⟩
    ·have He:=zH (show decide (k<n/\k<8)=false from decide_eq_false fun h=>a2 h.2)
     go_wp2_with fail
     go_meet
     exact⟨by first | (rw[He.o];done) | (rw[He.o];exact congrArg Value.bool (decide_eq_true zO)) | (rw[He.o];exact congrArg Value.bool (decide_eq_false zO)),rfl⟩
   ·have He:=zH (show decide (k<n/\k<8)=false from decide_eq_false fun h=>a1 h.1)
    go_wp2_with fail
    go_meet
    exact⟨by first | (rw[He.o];done) | (rw[He.o];exact congrArg Value.bool (decide_eq_true zO)) | (rw[He.o];exact congrArg Value.bool (decide_eq_false zO)),rfl⟩
  case rest=>
   obtain⟨rfl,rfl⟩:=hcut;by_cases ha:k<n/\k<8
   ·rw[decide_eq_true ha];have h8:=ha.2;have hn:=ha.1;clear ha;have hS:=HS.o.old HA.o.old;obtain⟨g,o,rfl,hg,hcs⟩:=hS.cell zO;have c0:wr.cell? ⟨g,o+k*6,none⟩=some (.string (L k).s):=hcs k hn 0 _ rfl;have c1:wr.cell? ⟨g,o+k*6+1,none⟩=some (vI iJ (L k).r):=hcs k hn 1 _ rfl;have c2:wr.cell? ⟨g,o+k*6+2,none⟩=some (.bool (L k).lp):=hcs k hn 2 _ rfl;have c3:wr.cell? ⟨g,o+k*6+3,none⟩=some (vI iJ (L k).a):=hcs k hn 3 _ rfl;have c4:wr.cell? ⟨g,o+k*6+4,none⟩=some (vI iJ (L k).b):=hcs k hn 4 _ rfl;have c5:wr.cell? ⟨g,o+k*6+5,none⟩=some (.slice (L k).p (L k).n (L k).c):=hcs k hn 5 _ rfl;have HF:=zH (aGg (L k) wr (hS.ok k hn));have HIL:=zH (HS.o.ok k hn).inLt;have q0:(0:Int)<=k:=zO;have q1:(k:Int)<n:=zO;have dd:decide ((k:Int)<8)=true:=decide_eq_true zO;unfold aM.val aM.cells at HF;clear hcs hS hg
    go_wp2_with fail
    refine HF.o.mono ?_;rintro e w1 ⟨S',rfl,hok,hfew,ho,hp,hQ,hn',hM,hfo⟩;have HFO2:Hid (∀i,i<k+1->rV (L i) (if i=k then S' else Z i)):=zH fun i hi=>by
     by_cases e:i=k
     ·rw[if_pos e,e];exact hfo
     ·rw[if_neg e];exact HFO.o i zO
    have hin:S'.inX (fun z=>u3.ownBlock≠some z):=by
     refine⟨fun a h0 ha e=>?_,fun i hi h0 a ha e=>?_⟩
     ·have h1:=hp a h0 ha;have h2:=HA.o.own.lt _ e;omega
     ·rw[hQ]at ha;have h1:=HIL.o.2 i zO (by have:=hM i;omega) a ha;exact HA.o.own.2 _ e h1
    have HA1:=zH ((HA.o.later ho).later (Old.alloc w1 (.cells S'.cells 133)));have HOK:=zH (hok.old (Old.alloc w1 (.cells S'.cells 133)));have HFW:=zH hfew;have HIN:=zH hin;have HON:=zH (HA1.o.own.mono (Y:=fun z=>z<(w1.alloc (.cells S'.cells 133)).heap.size/\u3.ownBlock≠some z) fun z hz hh=>hh.2 hz);have HNW:=zH (aEa w1 S'.cells 133);have H1C:Hid (∀u∈S'.cells.toList,u.oneCell'=true):=zH (by
     intro u hu;have hu':u∈[Value.string S'.s,vI iJ S'.r,.bool S'.lp,vI iJ S'.a,vI iJ S'.b,.slice S'.p S'.n S'.c]:=hu;simp only[List.mem_cons,List.not_mem_nil,or_false]at hu';rcases hu' with rfl | rfl | rfl | rfl | rfl | rfl <;> rfl)
    have HLN:=zH (VV S');clear hok hfew ho hp hQ hn' hM hfo hin HF HA HFO HIL c0 c1 c2 c3 c4 c5;unfold aM.cells at HA1 HOK HON HNW H1C HLN |-
    go_wp2_with (at_builtin;refine pA _ rfl _ _ 22 rfl (fun z=>z<(w1.alloc (.cells #[.string S'.s,vI iJ S'.r,.bool S'.lp,vI iJ S'.a,vI iJ S'.b,.slice S'.p S'.n S'.c] 133)).heap.size/\u3.ownBlock≠some z) 133 ir (.agg #[.string ⟨#[]⟩,vI iJ 0,.bool false,vI iJ 0,vI iJ 0,.slice none 0 0]) 6 72 underlying22 hir hr0 hr1 hr2 rfl zD u3 k (mS Z k) rfl HON.o ⟨w1.heap.size,0,none⟩ 1 1 [.string S'.s,vI iJ S'.r,.bool S'.lp,vI iJ S'.a,vI iJ S'.b,.slice S'.p S'.n S'.c] rfl HLN.o HNW.o H1C.o (by unfold maxLen;omega) zO (fun z hz=>hz.1) ?_;intro v' w2 hown2 hk2 hnb;have HA2:=zH (oY.add (S:=S') (w1:=w1.alloc (.cells #[.string S'.s,vI iJ S'.r,.bool S'.lp,vI iJ S'.a,vI iJ S'.b,.slice S'.p S'.n S'.c] 133)) HA1.o HOK.o HFW.o HIN.o hown2 hk2 hnb);clear hown2 hk2 hnb HA1 HOK HFW HIN HON HNW)
    go_roundw
    case rel=>exact⟨k+1,_,zO,zO,by go_num,HA2,HFO2⟩
    case measure=>exact zM
   ·rw[decide_eq_false ha];obtain⟨p',c',hv,hsm⟩:=HA.o.sms;subst hv;have hkm:k=min n 8:=zO;have HE:Hid (aEk w n L (rJ (.slice p' k c')) wr):=⟨p',c',Z,by rw[<-hkm],by rw[<-hkm];exact hsm,fun i hi=>⟨(HA.o.ok i zO).2.1,HFO.o i zO⟩,HA.o.old⟩
    clear ha hkm HFO HA HS hsm hir hr0 hr1 hr2 hkn
    go_wp2_with fail
    go_ret;exact HE.o
def aGC:aM:=⟨⟨#[]⟩,0,false,0,0,none,0,0,fun _=>none,fun _=>0,fun _=>0,fun _ _=>0⟩
open Go.Deep in
theorem KG{H:Type}{enc:TypeId × Value->H}{W:World}{base:Nat}{v:Value}{d:DataW H}{p:List MemPlace}
  (hv:Value.okWide zP W .any base 22 v) (h:DataW.Trod enc zP W 0 (fun _=>true) true 22 v d p) (hlt:∀x∈p,x.block<W.heap.size):
  ∃q n cap L,v=.slice q n cap/\n<=cap/\cap<=maxLen/\nE W q n L:=by
 obtain⟨a0,len,cap,rfl⟩:=okWide_slice underlying22 hv;obtain⟨fuel,hf⟩:=h;rcases open_slice underlying22 hf with ⟨hcs,_⟩ | ⟨a,len',cap',m,k,D,Pl,hcs,_,hl,hm,hmm,hx,hi⟩
 ·simp[Value.cells]at hcs;obtain⟨rfl,rfl,rfl⟩:=hcs;exact⟨none,0,0,fun _=>aGC,rfl,Nat.le_refl _,Nat.zero_le _,⟨fun h=>zO,fun i hi=>zO⟩⟩
 ·simp[Value.cells]at hcs;obtain⟨rfl,rfl,rfl⟩:=hcs;simp only[if_true]at hmm;subst hmm;have sm:∀i,i<m->∃S:aM,(∀f v,S.cells[f]?=some v->W.cell? (a.add (i*6+f))=some v)/\jB W S:=by
   intro i him;obtain⟨cs,hc,hd⟩:=hi i him;rw[JZ]at hc;obtain⟨_,hcl,hat⟩:=World.cells?_some hc;obtain⟨S,e,hS⟩:=yT hcl hd;refine⟨S,fun f v hfv=>?_,hS⟩;have hf6:f<6:=by
    rcases Nat.lt_or_ge f 6 with h | h
    ·exact h
    ·rw[Array.getElem?_eq_none (by show 6<=f;exact h)]at hfv;cases hfv
   rw[<-Go.Deep.add_add,hat f zO,e];simpa using hfv
  refine⟨some a,len,m,fun i=>if h:i<m then(sm i h).choose else aGC,rfl,hl,hm,⟨fun hn=>?_,fun i hin=>?_⟩⟩
  ·obtain⟨S0,h0,_⟩:=sm 0 zO;have hx0:W.cell? (a.add 0)=some (.string S0.s):=h0 0 _ rfl;obtain⟨b,off,rfl,hb⟩:=uG hx0;refine⟨b,off,rfl,hb,fun i hin f v hfv=>?_⟩;rw[dif_pos zO]at hfv;have:=(sm i zO).choose_spec.1 f v hfv;rw[add_plain,<-Nat.add_assoc]at this;exact this
  ·rw[dif_pos zO];exact(sm i zO).choose_spec.2
end Go.Proofs.YticpdokbiblpoaaGreatDoor
