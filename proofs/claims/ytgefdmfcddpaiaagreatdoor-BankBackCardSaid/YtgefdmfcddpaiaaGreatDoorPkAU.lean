/- Texts joined: SortA, SortB. -/
import Derived.BigQuiet
import Derived.BigRegion
import Derived.Test.YtgefdmfcddpaiaaGreatDoorPkAC
import Derived.Test.YtgefdmfcddpaiaaGreatDoorPkAD
import Derived.Test.YtgefdmfcddpaiaaGreatDoorPkAN
import Derived.Test.YtgefdmfcddpaiaaGreatDoorTk
namespace Go.Proofs.YtgefdmfcddpaiaaGreatDoor
set_option linter.unusedVariables false
set_option maxRecDepth 100000
open Go.RowKit Go.ChangeShapes Go.WideShapes
theorem StrCompare_any(a b:ByteArray)(w:World):
  Calls Tryz.prog 78 #[.string a,.string b] w fun e w'=>e = .returned (.int .i64 (Lib.compareBytes a.data.toList b.data.toList))/\w'=w:=by
 have HC:Hid (∀w,Calls Tryz.prog 124 #[.string a,.string b] w fun e w'=>e = .returned (.int .i64 (Lib.compareBytes a.data.toList b.data.toList))/\w'=w):=zH (fun w=>by
  go_enter Tryz.func124,Tryz.ntmps124
  go_wp2
  rw [run_callFunc_extern Tryz.func164 (by kernel_rfl) (by kernel_rfl) (by kernel_rfl) (e:=Extern.BytealgCompare.compare) (by kernel_rfl),Lib.run_compareString]
  simp only [Result.andThen]
  rw [Oper.upon_value]
  go_wp2
  go_ret
  exact⟨rfl,rfl⟩)
 go_enter Tryz.func78,Tryz.ntmps78
 go_wp2_with fail
 refine(HC.out _).mono ?_
 rintro e w1 ⟨rfl,rfl⟩
 go_wp2_with fail
 go_ret
 exact⟨rfl,rfl⟩
set_option maxHeartbeats 4000000 in
theorem byName1_any(K:Nat->ByteArray)(p:Option Addr)(b n c g o x y:Nat)(w:World)(hb:w.cell? ⟨b,0,none⟩=some (.slice (some ⟨g,o,none⟩) n c))(hk:∀i,i<n->w.cell? ⟨g,o+i*6,none⟩=some (.string (K i)))(hx:x<n)(hy:y<n):
  Calls Tryz.prog 121 #[.int .i64 x,.int .i64 y,.pointer (some ⟨b,0,none⟩)] w fun e w'=>e = .returned (.int .i64 (Lib.compareBytes (K x).data.toList (K y).data.toList))/\∃n,w'=w.drewN n:=by
 have cx:=hk x hx
 have cy:=hk y hy
 have HC:=zH (fun w=>StrCompare_any (K x) (K y) w)
 have x0:(0:Int)<=x:=by omega
 have x1:(x:Int)<n:=by omega
 have y0:(0:Int)<=y:=by omega
 have y1:(y:Int)<n:=by omega
 clear hk hx hy
 generalize Lib.compareBytes (K x).data.toList (K y).data.toList=r at *
 generalize K x=s at *
 generalize K y=t at *
 go_enter Tryz.func121,Tryz.ntmps121
 go_wp2_with fail
 go_quiet ((go_at_call 78;with_reducible exact Calls.quiet_of_same (HC.out _)))
 go_wp2_with fail
 go_ret
 exact⟨rfl,_,rfl⟩
theorem swapF_shift(G:Nat->Int)(a j:Nat)(h:a<j):(fun k=>swapF G j (a+k))=swapF (fun k=>G (a+k)) (j-a):=by
 funext k
 unfold swapF
 by_cases c1:a+k=j-1
 ·rw [if_pos c1,if_pos (by omega)];congr 1;omega
 rw [if_neg c1]
 by_cases c2:a+k=j
 ·rw [if_pos c2,if_neg (by omega),if_pos (by omega)];congr 1;omega
 rw [if_neg c2,if_neg (by omega),if_neg (by omega)]
theorem swapF_lo(G:Nat->Int)(a j k:Nat)(h:a<j)(hk:k<a):swapF G j k=G k:=by unfold swapF;rw [if_neg (by omega),if_neg (by omega)]
theorem ins_done{R:Int->Int->Prop}{F G:Nat->Int}{a b i:Nat}(hab:a<=b)(h:InsO R (fun k=>F (a+k)) (i-a) (fun k=>G (a+k)))(hl:∀k,k<a->G k=F k)(hi:a<i)(hib:i=b\/(b<=i/\i=a+1)):PermAB F G a b/\OrdAB R G a b:=by
 have rest:∀k,i<=k->G k=F k:=fun k hk=>by have:=h.rest (k-a) (by omega);rwa [show a+(k-a)=k by omega] at this
 rcases hib with rfl | ⟨hb,hi1⟩
 ·refine⟨⟨fun k hk=>?_,fun k h1 h2=>?_,fun k h1 h2=>?_⟩,fun x y h1 h2 h3=>?_⟩
  ·rcases hk with h | h
   ·exact hl k h
   ·exact rest k h
  ·obtain⟨m,e1,e2⟩:=h.frm (k-a) (by omega)
   try simp only at e2
   rw [show a+(k-a)=k by omega] at e2
   exact⟨a+m,by omega,by omega,e2⟩
  ·obtain⟨m,e1,e2⟩:=h.all (k-a) (by omega)
   try simp only at e2
   rw [show a+(k-a)=k by omega] at e2
   exact⟨a+m,by omega,by omega,e2⟩
  ·have:=h.ord (x-a) (y-a) (by omega) (by omega)
   try simp only at this
   rwa [show a+(x-a)=x by omega,show a+(y-a)=y by omega] at this
 ·have e:G=F:=by
   funext k
   by_cases h1:k<a
   ·exact hl k h1
   by_cases h2:k=a
   ·subst h2
    obtain⟨m,e1,e2⟩:=h.frm 0 (by omega)
    try simp only at e2
    rw [show m=0 by omega] at e2
    exact e2
   ·exact rest k (by omega)
  subst e
  exact⟨PermAB.refl _ _ _,ord_small _ (by omega)⟩
structure CmpE(w0:World)(g b N:Nat)(c:Nat->Nat->Int)(R:Int->Int->Prop):Prop where
 call:∀W,Kept (butOf w0 g) w0 W->∀x y:Nat,x<N->y<N->Calls Tryz.prog 121 #[.int .i64 x,.int .i64 y,.pointer (some ⟨b,0,none⟩)] W fun e w'=>e = .returned (.int .i64 (c x y))/\∃n,w'=W.drewN n
 yes:∀x y:Nat,x<y->c y x<0->R y x
 no:∀x y:Nat,x<y->¬c y x<0->R x y
 tr:∀x y z,R x y->R y z->R x z
structure SrtW(w0:World)(g N:Nat)(G:Nat->Int)(W:World):Prop where
 row:CellsAt W g N G
 kept:Kept (butOf w0 g) w0 W
namespace SrtW
variable {w0 W:World} {g N:Nat} {G:Nat->Int}
theorem drewN(h:SrtW w0 g N G W)(d:Nat):SrtW w0 g N G (W.drewN d):=⟨h.row.drewN d,h.kept.drewN d⟩
theorem drew(h:SrtW w0 g N G W):SrtW w0 g N G W.drew:=⟨h.row.drew,h.kept.drew⟩
theorem set(h:SrtW w0 g N G W)(j:Nat)(hj:j<N)(v:Int):SrtW w0 g N (fun k=>if k=j then v else G k) (W.setCell ⟨g,j,none⟩ (.int .i64 v)):=
 ⟨h.row.set j hj v,h.kept.trans (Kept.setCell (X:=butOf w0 g) _ (a:=⟨g,j,none⟩) (fun e=>e.2 rfl) _)⟩
theorem swap(h:SrtW w0 g N G W)(j:Nat)(hj:j<N)(h0:0<j):SrtW w0 g N (swapF G j) ((W.setCell ⟨g,j,none⟩ (.int .i64 (G (j-1)))).setCell ⟨g,j-1,none⟩ (.int .i64 (G j))):=
 (h.set j hj _).set (j-1) (by omega) _
theorem swap'(h:SrtW w0 g N G W)(j:Nat)(hj:j+1<N):SrtW w0 g N (swapF G (j+1)) ((W.setCell ⟨g,j,none⟩ (.int .i64 (G (j+1)))).setCell ⟨g,j+1,none⟩ (.int .i64 (G j))):=by
 have:=(h.set j (by omega) (G (j+1))).set (j+1) hj (G j)
 have e:=swapF_set' G (j+1) (by omega)
 rw [Nat.add_sub_cancel] at e
 rw [e] at this
 exact this
theorem ext{G':Nat->Int}(h:SrtW w0 g N G W)(e:G=G'):SrtW w0 g N G' W:=e ▸ h
end SrtW
def cmpV(b:Nat):Value:=.func (.func 121) #[] #[.pointer (some ⟨b,0,none⟩)]
def RisAB(F:Nat->Int)(N a b:Nat):Prop:=(∀k,a<=k->k<b->0<=F k/\F k<N)/\∀i j,a<=i->i<j->j<b->F i<F j
set_option maxHeartbeats 4000000 in
theorem insAB_any(g b N cap:Nat)(c:Nat->Nat->Int)(R:Int->Int->Prop)(w0:World)(hE:CmpE w0 g b N c R)(x y:Nat)(hxy:x<=y)(hyN:y<=N)(hN:N<=4611686018427387904)(F:Nat->Int)(hF:RisAB F N x y)(w:World)(hw:SrtW w0 g N F w):
  Calls Tryz.prog 213 #[.slice (some ⟨g,0,none⟩) N cap,.int .i64 x,.int .i64 y,cmpV b] w fun e w'=>e = .returned (.tuple #[])/\∃G,SrtW w0 g N G w'/\PermAB F G x y/\OrdAB R G x y:=by
 unfold cmpV
 have H0:=zH hw
 have HF:=zH hF
 have HE:=zH hE
 have e1:IntKind.i64.wrap ((x:Int)+1)=(x:Int)+1:=IntWalk.i64_in _ (by omega)
 clear hw hF hE
 go_enter Tryz.func213,Tryz.ntmps213
 go_wp2_with fail
 clear e1
 go_loopw [8] (fun iv wr=>∃(i:Nat) (G:Nat->Int),x<i/\(i<=y\/i=x+1)/\iv = .int .i64 i/\Hid (InsO R (fun k=>F (x+k)) (i-x) (fun k=>G (x+k)))/\Hid (∀k,k<x->G k=F k)/\Hid (SrtW w0 g N G wr)) (fun i _=>y-(intOf i).toNat)
 case atStart=>exact⟨x+1,F,by omega,.inr rfl,by go_num,by rw [show x+1-x=1 by omega];exact InsO.start _ _,zH fun _ _=>rfl,H0⟩
 case round=>
  obtain⟨i,G,hi1,hi2,rfl,HO,HL,HW⟩:=hrel
  clear H0
  by_cases hlt:i<y
  ·clear hi2
   obtain⟨wo,rfl⟩:∃V,V=wr:=⟨_,rfl⟩
   have HI:=zH HO.out.enter
   clear HO
   go_wp2_with fail
   go_loopw [9] (fun jv wr=>∃(j:Nat) (G:Nat->Int),jv = .int .i64 j/\x<=j/\j<=i/\Hid (InsI R (fun k=>F (x+k)) (i-x) (j-x) (fun k=>G (x+k)))/\Hid (∀k,k<x->G k=F k)/\Hid (SrtW w0 g N G wr)) (fun jv _=>(intOf jv).toNat-x)
   case atStart=>exact⟨i,G,rfl,by omega,Nat.le_refl _,HI,HL,HW⟩
   case round=>
    clear HI HL HW
    obtain⟨j,G,rfl,hxj,hj,HI,HL,HW⟩:=hrel
    by_cases h0:x<j
    ·obtain⟨m,hm⟩:∃m:Nat,m=j-1:=⟨_,rfl⟩
     have hmj:m<j:=by omega
     have hjn:j<N:=by omega
     have hmn:m<N:=by omega
     have e1:IntKind.i64.wrap ((j:Int)-1)=(m:Int):=by rw [show ((j:Int)-1)=(m:Int) by omega];exact IntWalk.i64_in _ (by omega)
     have e2:wrap64 ((j:Int)-1)=(m:Int):=by rw [show ((j:Int)-1)=(m:Int) by omega];exact IntWalk.wrap64_in _ (by omega)
     have c1:=HW.out.row.cell j hjn
     have c2:=HW.out.row.cell m hmn
     have f1:=HW.out.row.frz j hjn
     have f2:=HW.out.row.frz m hmn
     have own:G j=F i:=by
      have:=HI.out.own
      try simp only at this
      rwa [show x+(j-x)=j by omega,show x+(i-x)=i by omega] at this
     obtain⟨m',hm',hGm⟩:=HI.out.frm (m-x) (by omega) (by omega)
     try simp only at hGm
     rw [show x+(m-x)=m by omega] at hGm
     have b1:0<=G j/\G j<N:=by rw [own];exact HF.out.1 i (by omega) hlt
     have b2:0<=G m/\G m<N:=by rw [hGm];exact HF.out.1 (x+m') (by omega) (by omega)
     have b3:G m<G j:=by rw [hGm,own];exact HF.out.2 (x+m') i (by omega) (by omega) hlt
     have hL:=fun d=>HE.out.call (wr.drewN d) (HW.out.kept.drewN d) (G j).toNat (G m).toNat (by omega) (by omega)
     rw [Int.toNat_of_nonneg b1.1,Int.toNat_of_nonneg b2.1] at hL
     have j0:(x:Int)<j:=by omega
     have e0:m=j-1:=hm
     by_cases hc:c (G j).toNat (G m).toNat<0
     ·have hR:R (G j) (G m):=by
       have:=HE.out.yes (G m).toNat (G j).toNat (by omega) hc
       rwa [Int.toNat_of_nonneg b1.1,Int.toNat_of_nonneg b2.1] at this
      have hI2:=HI.out.swap (by omega) (by
       try simp only
       rw [show x+(j-x)=j by omega,show x+(j-x-1)=m by omega]
       exact hR)
      rw [←swapF_shift G x j h0,show j-x-1=m-x by omega] at hI2
      have HI2:=zH hI2
      have HL2:=zH (show ∀k,k<x->swapF G j k=F k from fun k hk=>by rw [swapF_lo G x j k h0 hk];exact HL.out k hk)
      have hW2:=fun d=>(HW.out.drewN d).swap j hjn (by omega)
      rw [←e0] at hW2
      obtain⟨cc,hcc⟩:∃cc,cc=c (G j).toNat (G m).toNat:=⟨_,rfl⟩
      rw [←hcc] at hL hc
      have HLo:=zH hL
      have HW2:=zH hW2
      have HM:=zH e0
      clear hL HI HL HW hW2 b1 b2 b3 hGm hm' own hR hI2 hcc hm e0
      generalize G j=u at *
      generalize G m=v at *
      go_wp2_with fail
      go_quiet ((go_at_call 121;with_reducible exact Calls.quiet_of (HLo.out _)))
      go_wp2_with fail
      go_region
      go_wp2_with fail
      go_roundw
      case rel=>exact⟨m,_,by go_num,by have:=HM.out;omega,by omega,HI2,HL2,HW2.out _⟩
      case measure=>simp [intOf];omega
     ·have hR:R (G m) (G j):=by
       have:=HE.out.no (G m).toNat (G j).toNat (by omega) hc
       rwa [Int.toNat_of_nonneg b1.1,Int.toNat_of_nonneg b2.1] at this
      have hD:=HI.out.done HE.out.tr (fun _=>by
       try simp only
       rw [show x+(j-x)=j by omega,show x+(j-x-1)=m by omega]
       exact hR)
      rw [show i-x+1=i+1-x by omega] at hD
      have HD:=zH hD
      have hW2:=fun d=>(HW.out.drewN d)
      have HW2:=zH hW2
      obtain⟨cc,hcc⟩:∃cc,cc=c (G j).toNat (G m).toNat:=⟨_,rfl⟩
      rw [←hcc] at hL hc
      have HLo:=zH hL
      have hc0:0<=cc:=by omega
      clear hL HI HW hW2 hD b1 b2 b3 hGm hm' own hR hcc hm e0
      generalize G j=u at *
      generalize G m=v at *
      go_wp2_with fail
      go_quiet ((go_at_call 121;with_reducible exact Calls.quiet_of (HLo.out _)))
      go_wp2_with fail
      go_roundw
      case rel=>exact⟨i+1,_,by omega,by omega,by go_num,HD,HL,HW2.out _⟩
      case measure=>simp [intOf];omega
    ·have hD:=HI.out.done HE.out.tr (fun h=>absurd h (by omega))
     rw [show i-x+1=i+1-x by omega] at hD
     have HD:=zH hD
     have hW2:=fun d=>(HW.out.drewN d)
     have HW2:=zH hW2
     have jx:decide ((x:Int)<(j:Int))=false:=decide_eq_false (by omega)
     clear HI HW hW2 hD
     go_wp2_with fail
     go_quiet (fail)
     go_wp2_with fail
     go_roundw
     case rel=>exact⟨i+1,_,by omega,by omega,by go_num,HD,HL,HW2.out _⟩
     case measure=>simp [intOf];omega
  ·have hS:=ins_done hxy HO.out HL.out hi1 (by omega)
   have HS:=zH hS
   clear hS HO HL
   go_wp2_with fail
   go_end0
   exact⟨rfl,G,HW.out,HS.out.1,HS.out.2⟩
end Go.Proofs.YtgefdmfcddpaiaaGreatDoor
