/- Texts joined: SortA, SortB. -/
import Derived.BigQuiet
import Derived.BigRegion
import Derived.Test.YticpdokbiblpoaaGreatDoorPkAC
import Derived.Test.YticpdokbiblpoaaGreatDoorPkAD
import Derived.Test.YticpdokbiblpoaaGreatDoorPkAT
import Derived.Test.YticpdokbiblpoaaGreatDoorTk
set_option linter.unusedVariables false
set_option maxHeartbeats 4000000
namespace Go.Proofs.YticpdokbiblpoaaGreatDoor
open Go.Proofs.Tryz
open Go.Proofs.Tryz renaming prog → zP
open Go.Value renaming int → vI
open Go.IntKind renaming i64 → iJ
open Go.Ending renaming returned → rJ
set_option maxRecDepth 100000
open Go.RowKit Go.ChangeShapes Go.WideShapes
theorem qB(a b:ByteArray)(w:World):
  Calls zP 93 #[.string a,.string b] w fun e w'=>e=rJ (vI iJ (Lib.compareBytes a.data.toList b.data.toList))/\w'=w:=by
 have HC:Hid (∀w,Calls zP 134 #[.string a,.string b] w fun e w'=>e=rJ (vI iJ (Lib.compareBytes a.data.toList b.data.toList))/\w'=w):=zH (fun w=>by
  go_enter func134,ntmps134;go_wp2;rw[run_callFunc_extern func179 zK zK zK (e:=Extern.BytealgCompare.compare) zK,Lib.run_compareString];simp only[Result.andThen];rw[Oper.upon_value];go_wp2;go_ret;exact⟨rfl,rfl⟩)
 go_enter func93,ntmps93
 go_wp2_with fail
 refine(HC.o _).mono ?_;rintro e w1 ⟨rfl,rfl⟩
 go_wp2_with fail
 go_ret;exact⟨rfl,rfl⟩
theorem PI(K:Nat->ByteArray)(p:Option Addr)(b n c g o x y:Nat)(w:World)(hb:w.cell? ⟨b,0,none⟩=some (.slice (some ⟨g,o,none⟩) n c))(hk:∀i,i<n->w.cell? ⟨g,o+i*6,none⟩=some (.string (K i)))(hx:x<n)(hy:y<n):
  Calls zP 131 #[vI iJ x,vI iJ y,.pointer (some ⟨b,0,none⟩)] w fun e w'=>e=rJ (vI iJ (Lib.compareBytes (K x).data.toList (K y).data.toList))/\∃n,w'=w.drewN n:=by
 have cx:=hk x hx;have cy:=hk y hy;have HC:=zH (fun w=>qB (K x) (K y) w);have x0:(0:Int)<=x:=zO;have x1:(x:Int)<n:=zO;have y0:(0:Int)<=y:=zO;have y1:(y:Int)<n:=zO;clear hk hx hy;generalize Lib.compareBytes (K x).data.toList (K y).data.toList=r at *;generalize K x=s at *;generalize K y=t at *;go_enter func131,ntmps131
 go_wp2_with fail
 go_quiet ((go_at_call 93;with_reducible exact Calls.quiet_of_same (HC.o _)))
 go_wp2_with fail
 go_ret;exact⟨rfl,_,rfl⟩
theorem MO(G:nI)(a j:Nat)(h:a<j):(fun k=>gM G j (a+k))=gM (fun k=>G (a+k)) (j-a):=by
 funext k;unfold gM;by_cases c1:a+k=j-1
 ·rw[if_pos c1,if_pos zO];congr 1;omega
 rw[if_neg c1];by_cases c2:a+k=j
 ·rw[if_pos c2,if_neg zO,if_pos zO];congr 1;omega
 rw[if_neg c2,if_neg zO,if_neg zO]
theorem aBA(G:nI)(a j k:Nat)(h:a<j)(hk:k<a):gM G j k=G k:=by unfold gM;rw[if_neg zO,if_neg zO]
theorem aCw{R:Int->Int->Prop}{F G:nI}{a b i:Nat}(hab:a<=b)(h:tC R (fun k=>F (a+k)) (i-a) (fun k=>G (a+k)))(hl:∀k,k<a->G k=F k)(hi:a<i)(hib:i=b\/(b<=i/\i=a+1)):cM F G a b/\cB R G a b:=by
 have rest:∀k,i<=k->G k=F k:=fun k hk=>by have:=h.rest (k-a) zO;rwa [show a+(k-a)=k by omega]at this
 rcases hib with rfl | ⟨hb,hi1⟩
 ·refine⟨⟨fun k hk=>?_,fun k h1 h2=>?_,fun k h1 h2=>?_⟩,fun x y h1 h2 h3=>?_⟩
  ·rcases hk with h | h
   ·exact hl k h
   ·exact rest k h
  ·obtain⟨m,e1,e2⟩:=h.frm (k-a) zO
   try simp only at e2
   rw[show a+(k-a)=k by omega]at e2;exact⟨a+m,zO,zO,e2⟩
  ·obtain⟨m,e1,e2⟩:=h.all (k-a) zO
   try simp only at e2
   rw[show a+(k-a)=k by omega]at e2;exact⟨a+m,zO,zO,e2⟩
  ·have:=h.ord (x-a) (y-a) zO zO
   try simp only at this
   rwa [show a+(x-a)=x by omega,show a+(y-a)=y by omega]at this
 ·have e:G=F:=by
   funext k;by_cases h1:k<a
   ·exact hl k h1
   by_cases h2:k=a
   ·subst h2;obtain⟨m,e1,e2⟩:=h.frm 0 zO
    try simp only at e2
    rw[show m=0 by omega]at e2;exact e2
   ·exact rest k zO
  subst e;exact⟨cM.refl _ _ _,IE _ zO⟩
structure xH(w0:World)(g b N:Nat)(c:Nat->Nat->Int)(R:Int->Int->Prop):Prop where
 call:∀W,Kept (bH w0 g) w0 W->∀x y:Nat,x<N->y<N->Calls zP 131 #[vI iJ x,vI iJ y,.pointer (some ⟨b,0,none⟩)] W fun e w'=>e=rJ (vI iJ (c x y))/\∃n,w'=W.drewN n
 yes:∀x y:Nat,x<y->c y x<0->R y x
 no:∀x y:Nat,x<y->¬c y x<0->R x y
 tr:∀x y z,R x y->R y z->R x z
structure SrtW(w0:World)(g N:Nat)(G:nI)(W:World):Prop where
 row:CellsAt W g N G
 kept:Kept (bH w0 g) w0 W
namespace SrtW
variable {w0 W:World} {g N:Nat} {G:nI}
theorem drewN(h:SrtW w0 g N G W)(d:Nat):SrtW w0 g N G (W.drewN d):=⟨h.row.drewN d,h.kept.drewN d⟩
theorem drew(h:SrtW w0 g N G W):SrtW w0 g N G W.drew:=⟨h.row.drew,h.kept.drew⟩
theorem set(h:SrtW w0 g N G W)(j:Nat)(hj:j<N)(v:Int):SrtW w0 g N (fun k=>if k=j then v else G k) (W.setCell ⟨g,j,none⟩ (vI iJ v)):=
 ⟨h.row.set j hj v,h.kept.trans (Kept.setCell (X:=bH w0 g) _ (a:=⟨g,j,none⟩) (fun e=>e.2 rfl) _)⟩
theorem swap(h:SrtW w0 g N G W)(j:Nat)(hj:j<N)(h0:0<j):SrtW w0 g N (gM G j) ((W.setCell ⟨g,j,none⟩ (vI iJ (G (j-1)))).setCell ⟨g,j-1,none⟩ (vI iJ (G j))):=
 (h.set j hj _).set (j-1) zO _
theorem swap'(h:SrtW w0 g N G W)(j:Nat)(hj:j+1<N):SrtW w0 g N (gM G (j+1)) ((W.setCell ⟨g,j,none⟩ (vI iJ (G (j+1)))).setCell ⟨g,j+1,none⟩ (vI iJ (G j))):=by
 have:=(h.set j zO (G (j+1))).set (j+1) hj (G j);have e:=TI G (j+1) zO;rw[Nat.add_sub_cancel]at e;rw[e]at this;exact this
theorem ext{G':nI}(h:SrtW w0 g N G W)(e:G=G'):SrtW w0 g N G' W:=e ▸ h
end SrtW
def oS(b:Nat):Value:=.func (.func 131) #[] #[.pointer (some ⟨b,0,none⟩)]
def FF(F:nI)(N a b:Nat):Prop:=(∀k,a<=k->k<b->0<=F k/\F k<N)/\∀i j,a<=i->i<j->j<b->F i<F j
theorem ZS(g b N cap:Nat)(c:Nat->Nat->Int)(R:Int->Int->Prop)(w0:World)(hE:xH w0 g b N c R)(x y:Nat)(hxy:x<=y)(hyN:y<=N)(hN:N<=4611686018427387904)(F:nI)(hF:FF F N x y)(w:World)(hw:SrtW w0 g N F w):
  Calls zP 210 #[.slice (some ⟨g,0,none⟩) N cap,vI iJ x,vI iJ y,oS b] w fun e w'=>e=rJ (.tuple #[])/\∃G,SrtW w0 g N G w'/\cM F G x y/\cB R G x y:=by
 unfold oS;have H0:=zH hw;have HF:=zH hF;have HE:=zH hE;have e1:IntKind.i64.wrap ((x:Int)+1)=(x:Int)+1:=IntWalk.i64_in _ zO;clear hw hF hE;go_enter func210,ntmps210
 go_wp2_with fail
 clear e1
 go_loopw [8] (fun iv wr=>∃(i:Nat) (G:nI),x<i/\(i<=y\/i=x+1)/\iv=vI iJ i/\Hid (tC R (fun k=>F (x+k)) (i-x) (fun k=>G (x+k)))/\Hid (∀k,k<x->G k=F k)/\Hid (SrtW w0 g N G wr)) (fun i _=>y-(intOf i).toNat)
 case atStart=>exact⟨x+1,F,zO,.inr rfl,by go_num,by rw[show x+1-x=1 by omega];exact tC.start _ _,zH fun _ _=>rfl,H0⟩
 case round=>
  obtain⟨i,G,hi1,hi2,rfl,HO,HL,HW⟩:=hrel;clear H0;by_cases hlt:i<y
  ·clear hi2;obtain⟨wo,rfl⟩:∃V,V=wr:=⟨_,rfl⟩
   have HI:=zH HO.o.enter;clear HO
   go_wp2_with fail
   go_loopw [9] (fun jv wr=>∃(j:Nat) (G:nI),jv=vI iJ j/\x<=j/\j<=i/\Hid (NU R (fun k=>F (x+k)) (i-x) (j-x) (fun k=>G (x+k)))/\Hid (∀k,k<x->G k=F k)/\Hid (SrtW w0 g N G wr)) (fun jv _=>(intOf jv).toNat-x)
   case atStart=>exact⟨i,G,rfl,zO,Nat.le_refl _,HI,HL,HW⟩
   case round=>
    clear HI HL HW;obtain⟨j,G,rfl,hxj,hj,HI,HL,HW⟩:=hrel;by_cases h0:x<j
    ·obtain⟨m,hm⟩:∃m:Nat,m=j-1:=⟨_,rfl⟩
     have hmj:m<j:=zO;have hjn:j<N:=zO;have hmn:m<N:=zO;have e1:IntKind.i64.wrap ((j:Int)-1)=(m:Int):=by rw[show ((j:Int)-1)=(m:Int) by omega];exact IntWalk.i64_in _ zO
     have e2:wrap64 ((j:Int)-1)=(m:Int):=by rw[show ((j:Int)-1)=(m:Int) by omega];exact IntWalk.wrap64_in _ zO
     have c1:=HW.o.row.cell j hjn;have c2:=HW.o.row.cell m hmn;have f1:=HW.o.row.frz j hjn;have f2:=HW.o.row.frz m hmn;have own:G j=F i:=by
      have:=HI.o.own
      try simp only at this
      rwa [show x+(j-x)=j by omega,show x+(i-x)=i by omega]at this
     obtain⟨m',hm',hGm⟩:=HI.o.frm (m-x) zO zO
     try simp only at hGm
     rw[show x+(m-x)=m by omega]at hGm;have b1:0<=G j/\G j<N:=by rw[own];exact HF.o.1 i zO hlt
     have b2:0<=G m/\G m<N:=by rw[hGm];exact HF.o.1 (x+m') zO zO
     have b3:G m<G j:=by rw[hGm,own];exact HF.o.2 (x+m') i zO zO hlt
     have hL:=fun d=>HE.o.call (wr.drewN d) (HW.o.kept.drewN d) (G j).toNat (G m).toNat zO zO;rw[Int.toNat_of_nonneg b1.1,Int.toNat_of_nonneg b2.1]at hL;have j0:(x:Int)<j:=zO;have e0:m=j-1:=hm;by_cases hc:c (G j).toNat (G m).toNat<0
     ·have hR:R (G j) (G m):=by
       have:=HE.o.yes (G m).toNat (G j).toNat zO hc
       rwa [Int.toNat_of_nonneg b1.1,Int.toNat_of_nonneg b2.1]at this
      have hI2:=HI.o.swap zO (by
       try simp only
       rw[show x+(j-x)=j by omega,show x+(j-x-1)=m by omega];exact hR)
      rw[<-MO G x j h0,show j-x-1=m-x by omega]at hI2;have HI2:=zH hI2;have HL2:=zH (show ∀k,k<x->gM G j k=F k from fun k hk=>by rw[aBA G x j k h0 hk];exact HL.o k hk);have hW2:=fun d=>(HW.o.drewN d).swap j hjn zO;rw[<-e0]at hW2;obtain⟨cc,hcc⟩:=zG (c (G j).toNat (G m).toNat);rw[<-hcc]at hL hc;have HLo:=zH hL;have HW2:=zH hW2;have HM:=zH e0;clear hL HI HL HW hW2 b1 b2 b3 hGm hm' own hR hI2 hcc hm e0;generalize G j=u at *;generalize G m=v at *
      go_wp2_with fail
      go_quiet ((go_at_call 131;with_reducible exact Calls.quiet_of (HLo.o _)))
      go_wp2_with fail
      go_region
      go_wp2_with fail
      go_roundw
      case rel=>exact⟨m,_,by go_num,by have:=HM.o;omega,zO,HI2,HL2,HW2.o _⟩
      case measure=>exact zM
     ·have hR:R (G m) (G j):=by
       have:=HE.o.no (G m).toNat (G j).toNat zO hc
       rwa [Int.toNat_of_nonneg b1.1,Int.toNat_of_nonneg b2.1]at this
      have hD:=HI.o.done HE.o.tr (fun _=>by
       try simp only
       rw[show x+(j-x)=j by omega,show x+(j-x-1)=m by omega];exact hR)
      rw[show i-x+1=i+1-x by omega]at hD;have HD:=zH hD;have hW2:=fun d=>(HW.o.drewN d)
      have HW2:=zH hW2;obtain⟨cc,hcc⟩:=zG (c (G j).toNat (G m).toNat);rw[<-hcc]at hL hc;have HLo:=zH hL;have hc0:0<=cc:=zO;clear hL HI HW hW2 hD b1 b2 b3 hGm hm' own hR hcc hm e0;generalize G j=u at *;generalize G m=v at *
      go_wp2_with fail
      go_quiet ((go_at_call 131;with_reducible exact Calls.quiet_of (HLo.o _)))
      go_wp2_with fail
      go_roundw
      case rel=>exact⟨i+1,_,zO,zO,by go_num,HD,HL,HW2.o _⟩
      case measure=>exact zM
    ·have hD:=HI.o.done HE.o.tr (fun h=>absurd h zO);rw[show i-x+1=i+1-x by omega]at hD;have HD:=zH hD;have hW2:=fun d=>(HW.o.drewN d)
     have HW2:=zH hW2;have jx:decide ((x:Int)<(j:Int))=false:=decide_eq_false zO;clear HI HW hW2 hD
     go_wp2_with fail
     go_quiet (fail)
     go_wp2_with fail
     go_roundw
     case rel=>exact⟨i+1,_,zO,zO,by go_num,HD,HL,HW2.o _⟩
     case measure=>exact zM
  ·have hS:=aCw hxy HO.o HL.o hi1 zO;have HS:=zH hS;clear hS HO HL
   go_wp2_with fail
   go_end0
   exact⟨rfl,G,HW.o,HS.o.1,HS.o.2⟩
end Go.Proofs.YticpdokbiblpoaaGreatDoor
