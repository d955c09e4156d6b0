/- Texts joined: SortC, SortD, SortE, SortF, SortG, WaveE, WaveI, WaveF, WaveG, WaveH, AllS, Few15, SmpsArg. -/
import Derived.Deep.RegionHeld
import Derived.Test.YtgefdmfcddpaiaaGreatDoorPkAC
import Derived.Test.YtgefdmfcddpaiaaGreatDoorPkAD
import Derived.Test.YtgefdmfcddpaiaaGreatDoorPkAH
import Derived.Test.YtgefdmfcddpaiaaGreatDoorPkAU
import Derived.Test.YtgefdmfcddpaiaaGreatDoorTk
namespace Go.Proofs.YtgefdmfcddpaiaaGreatDoor
set_option linter.unusedVariables false
set_option maxRecDepth 100000
open Go.RowKit Go.ChangeShapes Go.WideShapes
theorem wrapN{x:Int}{p:Nat}(h:x=(p:Int))(hp:p<=9223372036854775807):IntKind.i64.wrap x=(p:Int)/\wrap64 x=(p:Int):=by
 subst h
 exact⟨IntWalk.i64_in _ (by omega),IntWalk.wrap64_in _ (by omega)⟩
set_option maxHeartbeats 4000000 in
theorem swapRange_any(g b N cap:Nat)(w0:World)(x y n:Nat)(hxy:x+n<=y)(hyN:y+n<=N)(hN:N<=4611686018427387904)(F:Nat->Int)(w:World)(hw:SrtW w0 g N F w):
  Calls Tryz.prog 266 #[.slice (some ⟨g,0,none⟩) N cap,.int .i64 x,.int .i64 y,.int .i64 n,cmpV b] w fun e w'=>e = .returned (.tuple #[])/\SrtW w0 g N (swapR F x y n) w':=by
 unfold cmpV
 have H0:=zH (hw.ext (swapR_zero F x y).symm)
 clear hw
 go_enter Tryz.func266,Tryz.ntmps266
 go_wp2_with fail
 go_loopw [10] (fun iv wr=>∃i:Nat,i<=n/\iv = .int .i64 i/\Hid (SrtW w0 g N (swapR F x y i) wr)) (fun i _=>n-(intOf i).toNat)
 case atStart=>exact⟨0,by omega,by go_num,H0⟩
 case round=>
  obtain⟨i,hi,rfl,HW⟩:=hrel
  clear H0
  by_cases hlt:i<n
  ·obtain⟨p,hp⟩:∃p:Nat,p=x+i:=⟨_,rfl⟩
   obtain⟨q,hq⟩:∃q:Nat,q=y+i:=⟨_,rfl⟩
   have hpN:p<N:=by omega
   have hqN:q<N:=by omega
   have hpq:p≠q:=by omega
   have c1:=HW.out.row.cell p hpN
   have c2:=HW.out.row.cell q hqN
   have f1:=HW.out.row.frz p hpN
   have f2:=HW.out.row.frz q hqN
   have h1:=HW.out.drew.set p hpN (swapR F x y i q)
   have hr:=And.intro (h1.row.cell q hqN) (h1.row.frz q hqN)
   simp only [if_neg (Ne.symm hpq)] at hr
   have HW3:=zH ((h1.set q hqN (swapR F x y i p)).ext (G':=swapR F x y (i+1)) (by rw [←swapR_succ F x y i (by omega),hp,hq]))
   have HB1:=zH (show p<=9223372036854775807 by omega)
   have HB2:=zH (show q<=9223372036854775807 by omega)
   obtain⟨e1,e2⟩:=wrapN (x:=(x:Int)+(i:Int)) (p:=p) (by rw [hp];rfl) HB1.out
   obtain⟨e3,e4⟩:=wrapN (x:=(y:Int)+(i:Int)) (p:=q) (by rw [hq];rfl) HB2.out
   clear h1 HW hp hq
   generalize swapR F x y i p=u at *
   generalize swapR F x y i q=v at *
   have HR:=zH hr
   clear hr
   go_wp2_with fail
   refine wp_region_held_drew (S:=(fun _=>True)) (by kernel_rfl) ?_ (fun hHeld=>?_)
   ·exact trivial
   refine wpU 0 rfl ?_;try simp only [Act.put,sA,sZ,sS]
   refine wpU 1 rfl ?_;try simp only [Act.put,sA,sZ,sS]
   refine wpU 2 rfl ?_;try simp only [Act.put,sA,sZ,sS]
   refine wpU 3 rfl ?_;try simp only [Act.put,sA,sZ,sS]
   refine wpU 4 rfl ?_;try simp only [Act.put,sA,sZ,sS]
   refine wpU 5 rfl ?_;try simp only [Act.put,sA,sZ,sS]
   refine wpU 6 rfl ?_;try simp only [Act.put,sA,sZ,sS]
   refine wpU 7 rfl ?_;try simp only [Act.put,sA,sZ,sS]
   refine wpU 8 rfl ?_;try simp only [Act.put,sA,sZ,sS]
   refine wpU 9 rfl ?_;try simp only [Act.put,sA,sZ,sS]
   refine wpU 10 rfl ?_;try simp only [Act.put,sA,sZ,sS]
   refine wpU 11 rfl ?_;try simp only [Act.put,sA,sZ,sS]
   refine wpU 12 rfl ?_;try simp only [Act.put,sA,sZ,sS]
   refine wpU 14 rfl ?_;try simp only [Act.put,sA,sZ,sS]
   refine wpU 15 rfl ?_;try simp only [Act.put,sA,sZ,sS]
   refine wpU 16 rfl ?_;try simp only [Act.put,sA,sZ,sS]
   refine wpU 17 rfl ?_;try simp only [Act.put,sA,sZ,sS]
   refine wpU 18 rfl ?_;try simp only [Act.put,sA,sZ,sS]
   clear e1 e2 e3 e4
   refine wpAnyH_ready (rs:=[13,19]) (by kernel_rfl) (by simp) ?_
   (refine AllReadyH.cons (o:=⟨_,_,_,_,_,_⟩) (by rfl) ?_ (AllReadyH.cons (o:=⟨_,_,_,_,_,_⟩) (by rfl) ?_ AllReadyH.nil)) <;> intro K hK
   ·go_simp
    refine hK.out _ _ ?_ (fun hHeld=>?_)
    ·exact trivial
    clear hK K
    try simp only [Act.put,sA,sZ,sS]
    refine wpR 19 rfl (fun K hK=>?_)
    go_simp
    refine hK.out _ _ ?_ (fun hHeld=>?_)
    ·exact trivial
    clear hK K
    try simp only [Act.put,sA,sZ,sS]
    refine wpU 20 rfl ?_;try simp only [Act.put,sA,sZ,sS]
    refine wpR 21 rfl (fun K hK=>?_)
    go_simp
    refine hK.out _ _ ?_ (fun hHeld=>?_)
    ·exact trivial
    clear hK K
    try simp only [Act.put,sA,sZ,sS]
    refine wpU 22 rfl ?_;try simp only [Act.put,sA,sZ,sS]
    obtain⟨s1,s2⟩:=HR.out
    refine wpR 23 rfl (fun K hK=>?_)
    go_simp
    refine hK.out _ _ ?_ (fun hHeld=>?_)
    ·exact trivial
    clear hK K
    try simp only [Act.put,sA,sZ,sS]
    refine wpAnyH_done (by kernel_rfl) ?_ _
    go_wp2_with fail
    go_roundw
    case rel=>exact⟨i+1,by omega,by go_num,HW3.out⟩
    case measure=>simp [intOf];omega
   ·go_simp
    refine hK.out _ _ ?_ (fun hHeld=>?_)
    ·exact trivial
    clear hK K
    try simp only [Act.put,sA,sZ,sS]
    refine wpR 13 rfl (fun K hK=>?_)
    go_simp
    refine hK.out _ _ ?_ (fun hHeld=>?_)
    ·exact trivial
    clear hK K
    try simp only [Act.put,sA,sZ,sS]
    refine wpU 20 rfl ?_;try simp only [Act.put,sA,sZ,sS]
    refine wpR 21 rfl (fun K hK=>?_)
    go_simp
    refine hK.out _ _ ?_ (fun hHeld=>?_)
    ·exact trivial
    clear hK K
    try simp only [Act.put,sA,sZ,sS]
    refine wpU 22 rfl ?_;try simp only [Act.put,sA,sZ,sS]
    obtain⟨s1,s2⟩:=HR.out
    refine wpR 23 rfl (fun K hK=>?_)
    go_simp
    refine hK.out _ _ ?_ (fun hHeld=>?_)
    ·exact trivial
    clear hK K
    try simp only [Act.put,sA,sZ,sS]
    refine wpAnyH_done (by kernel_rfl) ?_ _
    go_wp2_with fail
    go_roundw
    case rel=>exact⟨i+1,by omega,by go_num,HW3.out⟩
    case measure=>simp [intOf];omega
  ·obtain rfl:i=n:=by omega
   go_wp2_with fail
   go_end0
   exact⟨rfl,HW.out⟩
set_option maxHeartbeats 4000000 in
theorem rotate_any(g b N cap:Nat)(w0:World)(x m y:Nat)(hxm:x<m)(hmy:m<y)(hyN:y<=N)(hN:N<=2305843009213693952)(F:Nat->Int)(w:World)(hw:SrtW w0 g N F w):
  Calls Tryz.prog 249 #[.slice (some ⟨g,0,none⟩) N cap,.int .i64 x,.int .i64 m,.int .i64 y,cmpV b] w fun e w'=>e = .returned (.tuple #[])/\SrtW w0 g N (rotF F x m y) w':=by
 have hsw:=fun l u n (h1:l+n<=u) (h2:u+n<=N) G W hW=>swapRange_any g b N cap w0 l u n h1 h2 (by omega) G W hW
 have HSW:=zH hsw
 clear hsw
 unfold cmpV at *
 have H0:=zH hw
 have HR0:Hid (rotF F (m-(m-x)) m (m+(y-m))=rotF F x m y):=zH (by rw [show m-(m-x)=x by omega,show m+(y-m)=y by omega])
 obtain⟨i0,hi0⟩:∃i0,i0=m-x:=⟨_,rfl⟩
 obtain⟨j0,hj0⟩:∃j0,j0=y-m:=⟨_,rfl⟩
 have q1:(m:Int)-(x:Int)=(i0:Int):=by omega
 have q2:(y:Int)-(m:Int)=(j0:Int):=by omega
 have r1:=(wrapN q1 (by omega)).2
 have r2:=(wrapN q2 (by omega)).2
 rw [←hi0,←hj0] at HR0
 have hb1:0<i0:=by omega
 have hb2:0<j0:=by omega
 have hb3:i0<=m:=by omega
 have hb4:m+j0<=N:=by omega
 clear hw hi0 hj0
 go_enter Tryz.func249,Tryz.ntmps249
 go_wp2_with fail
 clear q1 q2 r1 r2
 go_loopw [10,11] (fun iv jv wr=>∃(i j:Nat) (G:Nat->Int),iv = .int .i64 i/\jv = .int .i64 j/\0<i/\0<j/\i<=m/\m+j<=N/\Hid (rotF G (m-i) m (m+j)=rotF F x m y)/\Hid (SrtW w0 g N G wr)) (fun iv jv _=>(intOf iv).toNat+(intOf jv).toNat)
 case atStart=>exact⟨i0,j0,F,rfl,rfl,hb1,hb2,hb3,hb4,HR0,H0⟩
 case round=>
  clear H0 HR0 hb1 hb2 hb3 hb4
  obtain⟨i,j,G,rfl,rfl,h1,h2,h3,h4,HR,HW⟩:=hrel
  rcases Nat.lt_trichotomy i j with c | c | c
  ·have d1:((i:Int) != (j:Int))=true:=by simp only [bne_iff_ne,ne_eq];omega
   have d2:decide ((j:Int)<(i:Int))=false:=decide_eq_false (by omega)
   have hs:=HSW.out (m-i) (m+j-i) i (by omega) (by omega) G wr HW.out
   rw [show ((m-i:Nat):Int)=(m:Int)-i by omega,show ((m+j-i:Nat):Int)=(m:Int)+j-i by omega] at hs
   have hr:=rot_lt G m i j h3 c
   rw [HR.out] at hr
   have HS:=zH hs
   have HR2:=zH hr
   clear hs hr HR HW
   go_wp2_with fail
   refine HS.out.mono ?_
   rintro e w2 ⟨rfl,hw2⟩
   have HW2:=zH hw2
   clear hw2 HS
   go_wp2_with fail
   go_roundw
   case rel=>exact⟨i,j-i,_,rfl,by go_num,h1,by omega,h3,by omega,HR2,HW2⟩
   case measure=>simp [intOf];omega
  ·subst c
   have d1:((i:Int) != (i:Int))=false:=by simp
   have hs:=HSW.out (m-i) m i (by omega) h4 G wr HW.out
   rw [show ((m-i:Nat):Int)=(m:Int)-i by omega,rot_eq G m i h3,HR.out] at hs
   have HS:=zH hs
   clear hs HR HW
   go_wp2_with fail
   refine HS.out.mono ?_
   rintro e w2 ⟨rfl,hw2⟩
   have HW2:=zH hw2
   clear hw2 HS
   go_wp2_with fail
   go_end0
   exact⟨rfl,HW2.out⟩
  ·have d1:((i:Int) != (j:Int))=true:=by simp only [bne_iff_ne,ne_eq];omega
   have d2:decide ((j:Int)<(i:Int))=true:=decide_eq_true (by omega)
   have hs:=HSW.out (m-i) m j (by omega) h4 G wr HW.out
   rw [show ((m-i:Nat):Int)=(m:Int)-i by omega] at hs
   have hr:=rot_gt G m i j h3 c
   rw [HR.out] at hr
   have HS:=zH hs
   have HR2:=zH hr
   clear hs hr HR HW
   go_wp2_with fail
   refine HS.out.mono ?_
   rintro e w2 ⟨rfl,hw2⟩
   have HW2:=zH hw2
   clear hw2 HS
   go_wp2_with fail
   go_roundw
   case rel=>exact⟨i-j,j,_,by go_num,rfl,by omega,h2,by omega,h4,HR2,HW2⟩
   case measure=>simp [intOf];omega
theorem CmpE.late{w0:World}{g b N:Nat}{c:Nat->Nat->Int}{R:Int->Int->Prop}(h:CmpE w0 g b N c R){u v:Int}(hu:0<=u/\u<N)(hv:0<=v/\v<N)(huv:v<u):
  (c u.toNat v.toNat<0->R u v)/\(¬c u.toNat v.toNat<0->R v u):=by
 have h1:=h.yes v.toNat u.toNat (by omega)
 have h2:=h.no v.toNat u.toNat (by omega)
 rw [Int.toNat_of_nonneg hu.1,Int.toNat_of_nonneg hv.1] at h1 h2
 exact⟨h1,h2⟩
theorem CmpE.callI{w0:World}{g b N:Nat}{c:Nat->Nat->Int}{R:Int->Int->Prop}(h:CmpE w0 g b N c R){u v:Int}(hu:0<=u/\u<N)(hv:0<=v/\v<N)(W:World)(hW:Kept (butOf w0 g) w0 W):
  Calls Tryz.prog 121 #[.int .i64 u,.int .i64 v,.pointer (some ⟨b,0,none⟩)] W fun e w'=>e = .returned (.int .i64 (c u.toNat v.toNat))/\∃n,w'=W.drewN n:=by
 have:=h.call W hW u.toNat v.toNat (by omega) (by omega)
 rwa [Int.toNat_of_nonneg hu.1,Int.toNat_of_nonneg hv.1] at this
structure MrgI(R:Int->Int->Prop)(N:Nat)(F:Nat->Int)(x m y:Nat):Prop where
 l:OrdAB R F x m
 r:OrdAB R F m y
 lt:∀i j,x<=i->i<m->m<=j->j<y->F i<F j
 bd:∀k,x<=k->k<y->0<=F k/\F k<N
def MrgO(w0:World)(g N:Nat)(R:Int->Int->Prop)(F:Nat->Int)(x y:Nat)(e:Ending)(w':World):Prop:=e = .returned (.tuple #[])/\∃G,SrtW w0 g N G w'/\PermAB F G x y/\OrdAB R G x y
set_option maxHeartbeats 8000000 in
theorem mergeOne_any(g b N cap:Nat)(c:Nat->Nat->Int)(R:Int->Int->Prop)(w0:World)(hE:CmpE w0 g b N c R)(x m y:Nat)(hxm:m=x+1)(hmy:m<y)(hyN:y<=N)(hN:N<=2305843009213693952)(F:Nat->Int)(hF:MrgI R N F x m y)(w:World)(hw:SrtW w0 g N F w):
  Calls Tryz.prog 214 #[.slice (some ⟨g,0,none⟩) N cap,.int .i64 x,.int .i64 m,.int .i64 y,cmpV b] w (MrgO w0 g N R F x y):=by
 unfold cmpV MrgO
 have H0:=zH hw
 have HF:=zH hF
 have HE:=zH hE
 have HXM:=zH hxm
 have d1:(((m:Int)-(x:Int)) == 1)=true:=by rw [beq_iff_eq];omega
 have hxm':x<m:=by omega
 clear hw hF hE hxm
 go_enter Tryz.func214,Tryz.ntmps214
 go_wp2_with fail
 clear d1
 go_loopw [10,11] (fun iv jv wr=>∃i j:Nat,iv = .int .i64 i/\jv = .int .i64 j/\m<=i/\i<=j/\j<=y/\Hid ((m<i->R (F (i-1)) (F x))/\(j<y->R (F x) (F j)))/\Hid (SrtW w0 g N F wr)) (fun iv jv _=>(intOf jv).toNat-(intOf iv).toNat)
 case atStart=>exact⟨m,y,rfl,rfl,Nat.le_refl _,by omega,Nat.le_refl _,zH ⟨fun h=>by omega,fun h=>by omega⟩,H0⟩
 case round=>
  clear H0
  obtain⟨i,j,rfl,rfl,h1,h2,h3,HR,HW⟩:=hrel
  by_cases hij:i<j
  ·obtain⟨h,hh⟩:∃h:Nat,h=(i+j)/2:=⟨_,rfl⟩
   have hb1:i<=h:=by omega
   have hb2:h<j:=by omega
   go_upto_region 5 with (fail)
   rw [show ((i:Int)+(j:Int))/2=(h:Int) by omega]
   clear hh
   have hbh:=HF.out.bd h (by omega) (by omega)
   have hbx:=HF.out.bd x (by omega) (by omega)
   have hlt:=HF.out.lt x h (Nat.le_refl _) hxm' (by omega) (by omega)
   obtain⟨hy,hn⟩:=HE.out.late hbh hbx hlt
   have hL:=fun d=>HE.out.callI hbh hbx (wr.drewN d) (HW.out.kept.drewN d)
   have HW2:=zH (fun d=>HW.out.drewN d)
   have k1:=HW.out.row.cell h (by omega)
   have k2:=HW.out.row.cell x (by omega)
   have hN1:h<N:=by omega
   have hN2:x<N:=by omega
   obtain⟨cc,hcc⟩:∃cc,cc=c (F h).toNat (F x).toNat:=⟨_,rfl⟩
   rw [←hcc] at hL hy hn
   have HLo:=zH hL
   have HR1:=zH HR.out.1
   have HR2:=zH HR.out.2
   have HY:=zH hy
   have HNo:=zH hn
   clear hL hbh hbx hlt hcc HR HW hy hn
   generalize hu:F h=u at *
   generalize hv:F x=v at *
   have HU:=zH hu
   have HV:=zH hv
   clear hu hv
   by_cases hc:cc<0
   ·have hr:=HY.out hc
    have HRR:=zH hr
    clear hr HY HNo HR1
    go_quiet ((go_at_call 121;with_reducible exact Calls.quiet_of (HLo.out _)))
    go_wp2_with fail
    go_roundw
    case rel=>exact⟨h+1,j,by go_num,rfl,by omega,by omega,h3,zH (by rw [HV.out];exact⟨fun _=>by rw [Nat.add_sub_cancel,HU.out];exact HRR.out,HR2.out⟩),HW2.out _⟩
    case measure=>simp [intOf];omega
   ·have hr:=HNo.out hc
    have hc0:0<=cc:=by omega
    have HRR:=zH hr
    clear hr HY HNo HR2
    go_quiet ((go_at_call 121;with_reducible exact Calls.quiet_of (HLo.out _)))
    go_wp2_with fail
    go_roundw
    case rel=>exact⟨i,h,rfl,rfl,h1,hb1,by omega,zH (by rw [HV.out];exact⟨HR1.out,fun _=>by rw [HU.out];exact HRR.out⟩),HW2.out _⟩
    case measure=>simp [intOf];omega
  ·obtain rfl:i=j:=by omega
   have hk0:x<=i-1:=by omega
   have HW0:Hid (SrtW w0 g N (rotF F x (x+1) (x+1)) wr):=zH (HW.out.ext (rotF_right F x (x+1) (by omega)).symm)
   clear HW
   go_wp2_with fail
   obtain⟨wo,rfl⟩:∃V,V=wr:=⟨_,rfl⟩
   go_loopw [13] (fun kv wr=>∃k:Nat,kv = .int .i64 k/\x<=k/\k+1<=i/\Hid (SrtW w0 g N (rotF F x (x+1) (k+1)) wr)) (fun kv _=>i-(intOf kv).toNat)
   case atStart=>exact⟨x,rfl,Nat.le_refl _,by omega,HW0⟩
   case round=>
    clear HW0
    obtain⟨k,rfl,h4,h5,HW⟩:=hrel
    by_cases hki:k+1<i
    ·obtain⟨m',hm'⟩:∃m':Nat,m'=k+1:=⟨_,rfl⟩
     have hkN:k<N:=by omega
     have hmN:m'<N:=by omega
     have hdk:decide ((k:Int)<(i:Int)-1)=true:=decide_eq_true (by omega)
     have c1:=HW.out.row.cell k hkN
     have c2:=HW.out.row.cell m' hmN
     have f1:=HW.out.row.frz k hkN
     have f2:=HW.out.row.frz m' hmN
     have HB1:=zH (show m'<=9223372036854775807 by omega)
     have hW3:=((HW.out.swap' k (by omega)).ext (rot_up F x k h4)).drew
     rw [←hm'] at hW3 c2
     have HW3:=zH hW3
     have HM:=zH hm'
     clear hW3 HW
     rw [←hm'] at c1
     obtain⟨e1,e2⟩:=wrapN (x:=(k:Int)+1) (p:=m') (by rw [hm'];rfl) HB1.out
     have hkm:k≠m':=by omega
     clear hm'
     generalize rotF F x (x+1) m' k=u at *
     generalize rotF F x (x+1) m' m'=v at *
     go_wp2_with fail
     go_region
     clear e1 e2
     go_wp2_with fail
     go_roundw
     case rel=>exact⟨m',by have:=HM.out;go_num,by have:=HM.out;omega,by have:=HM.out;omega,HW3⟩
     case measure=>have:=HM.out;simp [intOf];omega
    ·have hdk:decide ((k:Int)<(i:Int)-1)=false:=decide_eq_false (by omega)
     have hki':k+1=i:=by omega
     rw [hki'] at HW
     have hs:=rot_sorted HE.out.tr (G:=F) (a:=x) (s:=x) (m:=x+1) (e:=i) (b:=y) (Nat.le_refl _) (by omega) (by omega) h3 (ord_small _ (Nat.le_refl _)) (by have:=HF.out.r;rwa [HXM.out] at this)
      (fun h=>by omega) (fun _ h=>HR.out.1 (by have:=HXM.out;omega)) (fun h=>by omega) (fun _ h=>by rw [Nat.add_sub_cancel];exact HR.out.2 h)
     have HS:=zH hs
     have HP:=zH ((rot_perm F (a:=x) (m:=x+1) (b:=i) (by omega) (by omega)).wide (Nat.le_refl _) h3)
     clear hs hki'
     go_wp2_with fail
     refine bodyPost_ret (results_none rfl _ _ _) rfl ?_
     exact⟨rfl,_,HW.out,HP.out,HS.out⟩
set_option maxHeartbeats 8000000 in
theorem mergeLast_any(g b N cap:Nat)(c:Nat->Nat->Int)(R:Int->Int->Prop)(w0:World)(hE:CmpE w0 g b N c R)(x m y:Nat)(hxm:x+1<m)(hmy:y=m+1)(hyN:y<=N)(hN:N<=2305843009213693952)(F:Nat->Int)(hF:MrgI R N F x m y)(w:World)(hw:SrtW w0 g N F w):
  Calls Tryz.prog 214 #[.slice (some ⟨g,0,none⟩) N cap,.int .i64 x,.int .i64 m,.int .i64 y,cmpV b] w (MrgO w0 g N R F x y):=by
 unfold cmpV MrgO
 have H0:=zH hw
 have HF:=zH hF
 have HE:=zH hE
 have HMY:=zH hmy
 have d1:(((m:Int)-(x:Int)) == 1)=false:=by rw [beq_eq_false_iff_ne];omega
 have d2:(((y:Int)-(m:Int)) == 1)=true:=by rw [beq_iff_eq];omega
 have hmN:m<N:=by omega
 clear hw hF hE hmy
 go_enter Tryz.func214,Tryz.ntmps214
 go_wp2_with fail
 clear d1 d2
 go_loopw [14,15] (fun iv jv wr=>∃i j:Nat,iv = .int .i64 i/\jv = .int .i64 j/\x<=i/\i<=j/\j<=m/\Hid ((x<i->R (F (i-1)) (F m))/\(j<m->R (F m) (F j)))/\Hid (SrtW w0 g N F wr)) (fun iv jv _=>(intOf jv).toNat-(intOf iv).toNat)
 case atStart=>exact⟨x,m,rfl,rfl,Nat.le_refl _,by omega,Nat.le_refl _,zH ⟨fun h=>by omega,fun h=>by omega⟩,H0⟩
 case round=>
  clear H0
  obtain⟨i,j,rfl,rfl,h1,h2,h3,HR,HW⟩:=hrel
  by_cases hij:i<j
  ·obtain⟨h,hh⟩:∃h:Nat,h=(i+j)/2:=⟨_,rfl⟩
   have hb1:i<=h:=by omega
   have hb2:h<j:=by omega
   go_upto_region 17 with (fail)
   rw [show ((i:Int)+(j:Int))/2=(h:Int) by omega]
   clear hh
   have hbh:=HF.out.bd h (by omega) (by have:=HMY.out;omega)
   have hbx:=HF.out.bd m (by omega) (by have:=HMY.out;omega)
   have hlt:=HF.out.lt h m (by omega) (by omega) (Nat.le_refl _) (by have:=HMY.out;omega)
   obtain⟨hy,hn⟩:=HE.out.late hbx hbh hlt
   have hL:=fun d=>HE.out.callI hbx hbh (wr.drewN d) (HW.out.kept.drewN d)
   have HW2:=zH (fun d=>HW.out.drewN d)
   have k1:=HW.out.row.cell h (by omega)
   have k2:=HW.out.row.cell m (by omega)
   have hN1:h<N:=by omega
   obtain⟨cc,hcc⟩:∃cc,cc=c (F m).toNat (F h).toNat:=⟨_,rfl⟩
   rw [←hcc] at hL hy hn
   have HLo:=zH hL
   have HR1:=zH HR.out.1
   have HR2:=zH HR.out.2
   have HY:=zH hy
   have HNo:=zH hn
   clear hL hbh hbx hlt hcc HR HW hy hn
   generalize hu:F h=u at *
   generalize hv:F m=v at *
   have HU:=zH hu
   have HV:=zH hv
   clear hu hv
   by_cases hc:cc<0
   ·have hr:=HY.out hc
    have HRR:=zH hr
    have dc:decide (cc<0)=true:=decide_eq_true hc
    clear hr HY HNo HR2
    go_quiet ((go_at_call 121;with_reducible exact Calls.quiet_of (HLo.out _)))
    go_wp2_with fail
    go_roundw
    case rel=>exact⟨i,h,rfl,rfl,h1,hb1,by omega,zH (by rw [HV.out];exact⟨HR1.out,fun _=>by rw [HU.out];exact HRR.out⟩),HW2.out _⟩
    case measure=>simp [intOf];omega
   ·have hr:=HNo.out hc
    have hc0:0<=cc:=by omega
    have HRR:=zH hr
    have dc:decide (cc<0)=false:=decide_eq_false hc
    clear hr HY HNo HR1
    go_quiet ((go_at_call 121;with_reducible exact Calls.quiet_of (HLo.out _)))
    go_wp2_with fail
    go_roundw
    case rel=>exact⟨h+1,j,by go_num,rfl,by omega,by omega,h3,zH (by rw [HV.out];exact⟨fun _=>by rw [Nat.add_sub_cancel,HU.out];exact HRR.out,HR2.out⟩),HW2.out _⟩
    case measure=>simp [intOf];omega
  ·obtain rfl:i=j:=by omega
   have HW0:Hid (SrtW w0 g N (rotF F m m (m+1)) wr):=zH (HW.out.ext (rotF_left F m (m+1) (by omega)).symm)
   clear HW
   go_wp2_with fail
   obtain⟨wo,rfl⟩:∃V,V=wr:=⟨_,rfl⟩
   go_loopw [17] (fun kv wr=>∃k:Nat,kv = .int .i64 k/\i<=k/\k<=m/\Hid (SrtW w0 g N (rotF F k m (m+1)) wr)) (fun kv _=>(intOf kv).toNat)
   case atStart=>exact⟨m,rfl,h3,Nat.le_refl _,HW0⟩
   case round=>
    clear HW0
    obtain⟨k,rfl,h4,h5,HW⟩:=hrel
    by_cases hki:i<k
    ·obtain⟨m',hm'⟩:∃m':Nat,m'=k-1:=⟨_,rfl⟩
     have hkN:k<N:=by omega
     have hmN':m'<N:=by omega
     have hm1:m'<k:=by omega
     have hdk:decide ((i:Int)<(k:Int))=true:=decide_eq_true (by omega)
     have c1:=HW.out.row.cell k hkN
     have c2:=HW.out.row.cell m' hmN'
     have f1:=HW.out.row.frz k hkN
     have f2:=HW.out.row.frz m' hmN'
     have HB1:=zH (show m'<=9223372036854775807 by omega)
     have hW3:=((HW.out.swap k hkN (by omega)).ext (rot_down F m k h5 (by omega))).drew
     rw [←hm'] at hW3
     have HW3:=zH hW3
     have HM:=zH hm'
     have hq:(k:Int)-1=(m':Int):=by omega
     clear hW3 HW
     obtain⟨e1,e2⟩:=wrapN (x:=(k:Int)-1) (p:=m') hq HB1.out
     have hkm:k≠m':=by omega
     clear hm' hq
     generalize rotF F k m (m+1) k=u at *
     generalize rotF F k m (m+1) m'=v at *
     go_wp2_with fail
     go_region
     clear e1 e2
     go_wp2_with fail
     go_roundw
     case rel=>exact⟨m',by have:=HM.out;go_num,by have:=HM.out;omega,by have:=HM.out;omega,HW3⟩
     case measure=>have:=HM.out;simp [intOf];omega
    ·have hdk:decide ((i:Int)<(k:Int))=false:=decide_eq_false (by omega)
     have hki':k=i:=by omega
     rw [hki'] at HW
     have hs:=rot_sorted HE.out.tr (G:=F) (a:=x) (s:=i) (m:=m) (e:=m+1) (b:=y) h1 h3 (by omega) (by have:=HMY.out;omega) HF.out.l HF.out.r
      (fun _ h=>by have:=HMY.out;omega) (fun h _=>by rw [Nat.add_sub_cancel];exact HR.out.2 h) (fun h _=>HR.out.1 h) (fun _ h=>by have:=HMY.out;omega)
     have HS:=zH hs
     have HP:=zH ((rot_perm F (a:=i) (m:=m) (b:=m+1) h3 (by omega)).wide h1 (show m+1<=y by have:=HMY.out;omega))
     clear hs hki'
     go_wp2_with fail
     refine bodyPost_ret (results_none rfl _ _ _) rfl ?_
     exact⟨rfl,_,HW.out,HP.out,HS.out⟩
section
variable {R:Int->Int->Prop} {N:Nat} {F:Nat->Int} {x m y s e mid:Nat}
theorem mrg_bd(h:MrgI R N F x m y)(h1:x<=s)(h2:s<=m)(h3:m<=e)(h4:e<=y):∀k,x<=k->k<y->0<=rotF F s m e k/\rotF F s m e k<N:=fun k k1 k2=>by
 obtain⟨q,q1,q2,q3⟩:=((rot_perm F h2 h3).wide h1 h4).frm k k1 k2
 rw [q3];exact h.bd q q1 q2
theorem mrg_first(h:MrgI R N F x m y)(h1:x<=s)(h2:s<=m)(h3:m<=e)(h4:e<=y)(hm:mid=s+(e-m)):MrgI R N (rotF F s m e) x s mid where
 l:=rot_ord1 h2 h.l
 r:=by rw [hm];exact rot_ord2 h2 h3 h4 h.r
 lt:=fun i j i1 i2 j1 j2=>by rw [rotF_lo F i2,rotF_one F j1 (by omega)];exact h.lt i _ i1 (by omega) (by omega) (by omega)
 bd:=fun k k1 k2=>mrg_bd h h1 h2 h3 h4 k k1 (by omega)
theorem mrg_second{G:Nat->Int}(h:MrgI R N F x m y)(h1:x<=s)(h2:s<=m)(h3:m<=e)(h4:e<=y)(hm:mid=s+(e-m))(p:PermAB (rotF F s m e) G x mid):MrgI R N G mid e y where
 l:=by rw [hm] at *;exact ord_congr (rot_ord3 h1 h2 h3 h.l) fun k k1 _=>p.out k (.inr k1)
 r:=ord_congr (rot_ord4 h2 h3 h.r) fun k k1 _=>p.out k (.inr (by omega))
 lt:=fun i j i1 i2 j1 j2=>by rw [p.out i (.inr i1),p.out j (.inr (by omega)),rotF_two F (by omega) i2,rotF_hi F h2 h3 j1];exact h.lt _ j (by omega) (by omega) (by omega) j2
 bd:=fun k k1 k2=>by rw [p.out k (.inr k1)];exact mrg_bd h h1 h2 h3 h4 k (by omega) k2
end
set_option maxHeartbeats 8000000 in
theorem symMerge_any(g b N cap:Nat)(c:Nat->Nat->Int)(R:Int->Int->Prop)(w0:World)(hE:CmpE w0 g b N c R)(hN:N<=2305843009213693952):∀(D x m y:Nat),y-x<=D->x<m->m<y->y<=N->∀F,MrgI R N F x m y->∀w,SrtW w0 g N F w ->
  Calls Tryz.prog 214 #[.slice (some ⟨g,0,none⟩) N cap,.int .i64 x,.int .i64 m,.int .i64 y,cmpV b] w (MrgO w0 g N R F x y):=by
 intro D
 induction D with
 | zero=>intro x m y h1 h2 h3;omega
 | succ D ih=>
 intro x m y hD hxm hmy hyN F hF w hw
 by_cases ca:m=x+1
 ·exact mergeOne_any g b N cap c R w0 hE x m y ca hmy hyN hN F hF w hw
 by_cases cb:y=m+1
 ·exact mergeLast_any g b N cap c R w0 hE x m y (by omega) cb hyN hN F hF w hw
 have HIH:=zH ih
 have HROT:=zH (fun u v z h1 h2 h3 G W hW=>rotate_any g b N cap w0 u v z h1 h2 h3 hN G W hW)
 unfold cmpV MrgO at *
 have H0:=zH hw
 have HF:=zH hF
 have HE:=zH hE
 have d1:(((m:Int)-(x:Int)) == 1)=false:=by rw [beq_eq_false_iff_ne];omega
 have d2:(((y:Int)-(m:Int)) == 1)=false:=by rw [beq_eq_false_iff_ne];omega
 obtain⟨mid,hmid⟩:∃mid:Nat,mid=(x+y)/2:=⟨_,rfl⟩
 obtain⟨lo,hlo⟩:∃lo:Nat,lo=if mid<m then mid+m-y else x:=⟨_,rfl⟩
 obtain⟨hi,hhi⟩:∃hi:Nat,hi=if mid<m then mid else m:=⟨_,rfl⟩
 have hcor:x<=lo/\lo<=hi/\hi<=m/\hi<=mid/\mid+m-lo<=y/\(lo=x\/mid+m-lo=y)/\(hi=m\/hi=mid):=by
  rw [hlo,hhi];split <;> omega
 have hm1:x<mid:=by omega
 have hm2:mid<y:=by omega
 have hge:mid<m->y<=mid+m:=by omega
 have hdiv:((x:Int)+(y:Int))/2=(mid:Int):=by omega
 have HD:=zH hD
 clear hw hF hE ih hmid hD
 go_enter Tryz.func214,Tryz.ntmps214
 go_upto_region 25 with (fail)
 clear d1 d2 hdiv
 go_upto_if 140 with (fail)
 go_cut [20,21] (fun u v wx=>u = .int .i64 lo/\v = .int .i64 hi/\w=wx)
 case first=>
  as_aux_lemma=>
   by_cases cm:mid<m
   ·rw [if_pos cm] at hlo hhi
    have hge:=hge cm
    have q:((mid:Int)+(m:Int))-(y:Int)=(lo:Int):=by omega
    have dc:decide ((mid:Int)<(m:Int))=true:=decide_eq_true (by omega)
    have HQ:=zH q
    have HH:=zH hhi
    clear q hlo hhi hcor hge
    go_wp2_with fail
    go_meet
    exact⟨by rw [HQ.out],by rw [HH.out],rfl⟩
   ·rw [if_neg cm] at hlo hhi
    have dc:decide ((mid:Int)<(m:Int))=false:=decide_eq_false (by omega)
    have HL:=zH hlo
    have HH:=zH hhi
    clear hlo hhi hcor hge
    go_wp2_with fail
    go_meet
    exact⟨by rw [HL.out],by rw [HH.out],rfl⟩
 case rest=>
  obtain⟨rfl,rfl,rfl⟩:=hcut
  clear hlo hhi
  obtain⟨k1,k2,k3,k4,k5,k6,k7⟩:=hcor
  go_wp2_with fail
  go_loopw [20,21] (fun iv jv wr=>∃i j:Nat,iv = .int .i64 i/\jv = .int .i64 j/\lo<=i/\i<=j/\j<=hi/\Hid ((lo<i->R (F (i-1)) (F (mid+m-i)))/\(j<hi->R (F (mid+m-1-j)) (F j)))/\Hid (SrtW w0 g N F wr)) (fun iv jv _=>(intOf jv).toNat-(intOf iv).toNat)
  case atStart=>exact⟨lo,hi,rfl,rfl,Nat.le_refl _,k2,Nat.le_refl _,zH ⟨fun h=>by omega,fun h=>by omega⟩,H0⟩
  case round=>
   clear H0
   obtain⟨i,j,rfl,rfl,h1,h2,h3,HR,HW⟩:=hrel
   by_cases hij:i<j
   ·obtain⟨h,hh⟩:∃h:Nat,h=(i+j)/2:=⟨_,rfl⟩
    have hb1:i<=h:=by omega
    have hb2:h<j:=by omega
    have hdiv:((i:Int)+(j:Int))/2=(h:Int):=by omega
    clear hh
    go_upto_region 35 with (fail)
    clear hdiv
    obtain⟨q,hq⟩:∃q:Nat,q=mid+m-1-h:=⟨_,rfl⟩
    have hqm:m<=q:=by omega
    have hqy:q<y:=by omega
    have hqi:((mid:Int)+(m:Int)-1)-(h:Int)=(q:Int):=by omega
    have hbq:=HF.out.bd q (by omega) hqy
    have hbh:=HF.out.bd h (by omega) (by omega)
    have hlt:=HF.out.lt h q (by omega) (by omega) hqm hqy
    obtain⟨hy,hn⟩:=HE.out.late hbq hbh hlt
    have hL:=fun d=>HE.out.callI hbq hbh (wr.drewN d) (HW.out.kept.drewN d)
    have HW2:=zH (fun d=>HW.out.drewN d)
    have kk1:=HW.out.row.cell h (by omega)
    have kk2:=HW.out.row.cell q (by omega)
    have hN1:h<N:=by omega
    have hN2:q<N:=by omega
    have HB1:=zH (show q<=9223372036854775807 by omega)
    have HQ1:=zH (show mid+m-(h+1)=q by omega)
    have HQ2:=zH (show mid+m-1-h=q by omega)
    have HRL:=zH (show lo<=h+1/\h+1<=j/\lo<=i/\i<=h/\h<=hi by omega)
    have HMS:=zH (show j-(h+1)<j-i/\h-i<j-i by omega)
    obtain⟨cc,hcc⟩:∃cc,cc=c (F q).toNat (F h).toNat:=⟨_,rfl⟩
    rw [←hcc] at hL hy hn
    have HLo:=zH hL
    have HR1:=zH HR.out.1
    have HR2:=zH HR.out.2
    have HY:=zH hy
    have HNo:=zH hn
    clear hL hbh hbq hlt hcc HR HW hy hn hq
    obtain⟨e1,e2⟩:=wrapN (x:=((mid:Int)+(m:Int)-1)-(h:Int)) (p:=q) hqi HB1.out
    clear hqi
    by_cases hc:cc<0
    ·as_aux_lemma=>
      have hr:=HY.out hc
      have HRR:=zH hr
      have dc:decide (cc<0)=true:=decide_eq_true hc
      clear hr HY HNo HR2
      go_quiet ((go_at_call 121;with_reducible exact Calls.quiet_of (HLo.out _)))
      clear e1 e2
      go_wp2_with fail
      go_roundw
      case rel=>exact⟨i,h,rfl,rfl,h1,hb1,HRL.out.2.2.2.2,zH ⟨HR1.out,fun _=>by rw [HQ2.out];exact HRR.out⟩,HW2.out _⟩
      case measure=>have:=HMS.out;simp [intOf];omega
    ·as_aux_lemma=>
      have hr:=HNo.out hc
      have hc0:0<=cc:=by omega
      have HRR:=zH hr
      have dc:decide (cc<0)=false:=decide_eq_false hc
      clear hr HY HNo HR1
      go_quiet ((go_at_call 121;with_reducible exact Calls.quiet_of (HLo.out _)))
      clear e1 e2
      go_wp2_with fail
      go_roundw
      case rel=>exact⟨h+1,j,by go_num,rfl,HRL.out.1,HRL.out.2.1,h3,zH ⟨fun _=>by rw [Nat.add_sub_cancel,HQ1.out];exact HRR.out,HR2.out⟩,HW2.out _⟩
      case measure=>have:=HMS.out;simp [intOf];omega
   ·obtain rfl:i=j:=by omega
    clear hij h2
    obtain⟨e,he⟩:∃e:Nat,e=mid+m-i:=⟨_,rfl⟩
    have b1:x<=i:=by omega
    have b2:i<=m:=by omega
    have b3:m<=e:=by omega
    have b4:e<=y:=by omega
    have b5:mid=i+(e-m):=by omega
    have b6:i<=mid:=by omega
    have b7:mid<=e:=by omega
    have x1:x<i->e<y->R (F (i-1)) (F e):=fun h1' h2'=>by rw [he];exact HR.out.1 (by omega)
    have x2:i<m->m<e->R (F (e-1)) (F i):=fun h1' h2'=>by rw [show e-1=mid+m-1-i by omega];exact HR.out.2 (by omega)
    have HX:=zH (rot_cross HE.out.tr b1 b2 b3 b4 HF.out.l HF.out.r x1 x2)
    have HP:=zH ((rot_perm F b2 b3).wide b1 b4)
    have HM1:=zH (mrg_first HF.out b1 b2 b3 b4 b5)
    have HM2:=zH (fun G p=>mrg_second (G:=G) HF.out b1 b2 b3 b4 b5 p)
    have HO1:=zH (show x=i\/i=mid->OrdAB R (rotF F i m e) x mid from fun h=>by
     have o1:=rot_ord1 (R:=R) (G:=F) (e:=e) b2 HF.out.l
     have o2:=rot_ord2 (R:=R) (G:=F) b2 b3 b4 HF.out.r
     rw [←b5] at o2
     rcases h with h | h
     ·rw [h];exact o2
     ·rw [←h];exact o1)
    have hei:((mid:Int)+(m:Int))-(i:Int)=(e:Int):=by omega
    have HB5:=zH b5
    have HEE:=zH (show e<=9223372036854775807 by omega)
    have HBB:=zH (show (x<=i/\i<=m/\m<=e/\e<=y)/\mid=i+(e-m)/\i<=mid/\mid<=e/\x<m/\m<y/\y<=N/\x<mid/\mid<y from⟨⟨b1,b2,b3,b4⟩,b5,b6,b7,hxm,hmy,hyN,hm1,hm2⟩)
    clear x1 x2 he k1 k2 k3 k4 k5 k6 k7 h1 h3 HR b1 b2 b3 b4 b5 b6 b7 hge ca cb hxm hmy hyN hN hm1 hm2
    have qe:e<=9223372036854775807:=HEE.out
    go_upto_region 39 with (fail)
    clear hei qe
    go_cut [185] (fun v wx=>v = .bool (decide (i<m/\m<e))/\wr=wx)
    case first=>
     as_aux_lemma=>
      clear HX HP HM1 HM2 HO1 HIH HROT HF HE HBB HD HB5 HEE HW
      by_cases a1:i<m
      ·have q1:decide ((i:Int)<(m:Int))=true:=decide_eq_true (by omega)
       by_cases a2:m<e
       ·have He:=zH (show decide (i<m/\m<e)=true from decide_eq_true ⟨a1,a2⟩)
        have q2:decide ((m:Int)<(e:Int))=true:=decide_eq_true (by omega)
        go_wp2_with fail
        go_meet
        exact⟨by rw [He.out];try rfl,rfl⟩
       ·have He:=zH (show decide (i<m/\m<e)=false from decide_eq_false fun h=>a2 h.2)
        have q2:decide ((m:Int)<(e:Int))=false:=decide_eq_false (by omega)
        go_wp2_with fail
        go_meet
        exact⟨by rw [He.out];try rfl,rfl⟩
      ·have He:=zH (show decide (i<m/\m<e)=false from decide_eq_false fun h=>a1 h.1)
       have q1:decide ((i:Int)<(m:Int))=false:=decide_eq_false (by omega)
       go_wp2_with fail
       go_meet
       exact⟨by rw [He.out];try rfl,rfl⟩
    case rest=>
     obtain⟨rfl,rfl⟩:=hcut
     go_upto_if 185 with (fail)
     go_cut [] (fun wx=>SrtW w0 g N (rotF F i m e) wx)
     case first=>
      as_aux_lemma=>
       clear HX HP HM1 HM2 HO1 HIH HF HE HD HB5 HEE
       by_cases a:i<m/\m<e
       ·rw [decide_eq_true a]
        have HRT:=zH (HROT.out i m e a.1 a.2 (by have:=HBB.out;omega) F wr HW.out)
        clear HROT HBB HW a
        go_wp2_with fail
        refine HRT.out.mono ?_
        rintro ee w2 ⟨rfl,hw2⟩
        have HW2:=zH hw2
        clear hw2 HRT
        go_wp2_with fail
        go_meet
        exact HW2.out
       ·rw [decide_eq_false a]
        have HW2:=zH (show SrtW w0 g N (rotF F i m e) wr by
         have hb:=HBB.out
         by_cases a1:i<m
         ·have a2:e=m:=by omega
          rw [a2]
          exact HW.out.ext (rotF_right F i m hb.1.2.1).symm
         ·have a2:i=m:=by omega
          rw [a2]
          exact HW.out.ext (rotF_left F m e hb.1.2.2.1).symm)
        clear HROT HBB HW a
        go_wp2_with fail
        go_meet
        exact HW2.out
     case rest=>
      have HW2:=zH hcut
      clear hcut HW HROT HF
      obtain⟨w2,rfl⟩:∃V,V=wc:=⟨_,rfl⟩
      go_upto_region 41 with (fail)
      go_cut [199] (fun v wx=>v = .bool (decide (x<i/\i<mid))/\w2=wx)
      case first=>
       as_aux_lemma=>
        clear HX HP HM1 HM2 HO1 HIH HE HBB HD HB5 HEE HW2
        by_cases a1:x<i
        ·have q1:decide ((x:Int)<(i:Int))=true:=decide_eq_true (by omega)
         by_cases a2:i<mid
         ·have He:=zH (show decide (x<i/\i<mid)=true from decide_eq_true ⟨a1,a2⟩)
          have q2:decide ((i:Int)<(mid:Int))=true:=decide_eq_true (by omega)
          go_wp2_with fail
          go_meet
          exact⟨by rw [He.out];try rfl,rfl⟩
         ·have He:=zH (show decide (x<i/\i<mid)=false from decide_eq_false fun h=>a2 h.2)
          have q2:decide ((i:Int)<(mid:Int))=false:=decide_eq_false (by omega)
          go_wp2_with fail
          go_meet
          exact⟨by rw [He.out];try rfl,rfl⟩
        ·have He:=zH (show decide (x<i/\i<mid)=false from decide_eq_false fun h=>a1 h.1)
         have q1:decide ((x:Int)<(i:Int))=false:=decide_eq_false (by omega)
         go_wp2_with fail
         go_meet
         exact⟨by rw [He.out];try rfl,rfl⟩
      case rest=>
       obtain⟨rfl,rfl⟩:=hcut
       go_upto_if 199 with (fail)
       go_cut [] (fun wx=>∃G,SrtW w0 g N G wx/\PermAB (rotF F i m e) G x mid/\OrdAB R G x mid)
       case first=>
        as_aux_lemma=>
         clear HX HP HM2 HE HB5 HEE
         by_cases a:x<i/\i<mid
         ·rw [decide_eq_true a]
          have HRC:=zH (HIH.out x i mid (by have:=HD.out;have:=HBB.out;omega) a.1 a.2 (by have:=HBB.out;omega) _ HM1.out w2 HW2.out)
          clear HM1 HO1 HIH HBB HD HW2 a
          go_wp2_with fail
          refine HRC.out.mono ?_
          rintro ee w3 ⟨rfl,hh⟩
          have HH:=zH hh
          clear hh HRC
          go_wp2_with fail
          go_meet
          exact HH.out
         ·rw [decide_eq_false a]
          have HO:=zH (HO1.out (by have:=HBB.out;omega))
          clear HM1 HO1 HIH HBB HD a
          go_wp2_with fail
          go_meet
          exact⟨_,HW2.out,PermAB.refl _ _ _,HO.out⟩
       case rest=>
        obtain⟨G,hG1,hG2,hG3⟩:=hcut
        have HG1:=zH hG1
        have HG2:=zH hG2
        have HG3:=zH hG3
        have HM3:=zH (HM2.out G hG2)
        clear hG1 hG2 hG3 HW2 HM1 HM2 HO1 HE
        obtain⟨w3,rfl⟩:∃V,V=wc:=⟨_,rfl⟩
        go_upto_region 43 with (fail)
        go_cut [213] (fun v wx=>v = .bool (decide (mid<e/\e<y))/\w3=wx)
        case first=>
         as_aux_lemma=>
          clear HX HP HM3 HIH HBB HD HB5 HEE HG1 HG2 HG3
          by_cases a1:mid<e
          ·have q1:decide ((mid:Int)<(e:Int))=true:=decide_eq_true (by omega)
           by_cases a2:e<y
           ·have He:=zH (show decide (mid<e/\e<y)=true from decide_eq_true ⟨a1,a2⟩)
            have q2:decide ((e:Int)<(y:Int))=true:=decide_eq_true (by omega)
            go_wp2_with fail
            go_meet
            exact⟨by rw [He.out];try rfl,rfl⟩
           ·have He:=zH (show decide (mid<e/\e<y)=false from decide_eq_false fun h=>a2 h.2)
            have q2:decide ((e:Int)<(y:Int))=false:=decide_eq_false (by omega)
            go_wp2_with fail
            go_meet
            exact⟨by rw [He.out];try rfl,rfl⟩
          ·have He:=zH (show decide (mid<e/\e<y)=false from decide_eq_false fun h=>a1 h.1)
           have q1:decide ((mid:Int)<(e:Int))=false:=decide_eq_false (by omega)
           go_wp2_with fail
           go_meet
           exact⟨by rw [He.out];try rfl,rfl⟩
        case rest=>
         obtain⟨rfl,rfl⟩:=hcut
         by_cases a:mid<e/\e<y
         ·rw [decide_eq_true a]
          have HRC:=zH (HIH.out mid e y (by have:=HD.out;have:=HBB.out;omega) a.1 a.2 HBB.out.2.2.2.2.2.2.1 _ HM3.out w3 HG1.out)
          have HMD:=zH (fun G2=>merge_done (G2:=G2) (show x<=mid by have:=HBB.out;omega) (show mid<=y by have:=HBB.out;omega) HP.out (by rw [HB5.out];exact HX.out) HG2.out HG3.out)
          clear HIH HX HP HM3 HBB HD HB5 HEE HG1 HG2 HG3 a
          go_wp2_with fail
          refine HRC.out.mono ?_
          rintro ee w4 ⟨rfl,G2,hh1,hh2,hh3⟩
          have HH:=zH hh1
          have HDN:=zH (HMD.out G2 hh2 hh3)
          clear hh1 hh2 hh3 HRC HMD
          go_wp2_with fail
          go_end0
          exact⟨rfl,G2,HH.out,HDN.out.1,HDN.out.2⟩
         ·rw [decide_eq_false a]
          have ho:OrdAB R G mid y:=by
           have hb:=HBB.out
           by_cases a1:mid<e
           ·have a2:e=y:=by omega
            have:=HM3.out.l
            rwa [a2] at this
           ·have a2:mid=e:=by omega
            have:=HM3.out.r
            rwa [←a2] at this
          have HDN:=zH (merge_done (show x<=mid by have:=HBB.out;omega) (show mid<=y by have:=HBB.out;omega) HP.out (by rw [HB5.out];exact HX.out) HG2.out HG3.out (PermAB.refl G mid y) ho)
          clear HIH HX HP HM3 HBB HD HB5 HEE HG2 HG3 a ho
          go_wp2_with fail
          go_end0
          exact⟨rfl,G,HG1.out,HDN.out.1,HDN.out.2⟩
set_option maxHeartbeats 8000000 in
theorem stableN_any(g b N cap:Nat)(c:Nat->Nat->Int)(R:Int->Int->Prop)(w0:World)(hE:CmpE w0 g b N c R)(hN:N<=1152921504606846976)(F:Nat->Int)(hF:RisAB F N 0 N)(w:World)(hw:SrtW w0 g N F w):
  Calls Tryz.prog 163 #[.slice (some ⟨g,0,none⟩) N cap,.int .i64 N,cmpV b] w fun e w'=>e = .returned (.tuple #[])/\∃G,SrtO R F N G/\SrtW w0 g N G w':=by
 have HINS:=zH (fun x y (h1:x<=y) (h2:y<=N) F hF w hw=>insAB_any g b N cap c R w0 hE x y h1 h2 (by omega) F hF w hw)
 have HMRG:=zH (fun x m y (h1:x<m) (h2:m<y) (h3:y<=N) F hF w hw=>symMerge_any g b N cap c R w0 hE (by omega) (y-x) x m y (Nat.le_refl _) h1 h2 h3 F hF w hw)
 have HRI:=zH (fun i j (h1:i<j) (h2:j<N)=>hF.2 i j (Nat.zero_le _) h1 h2)
 have HBD:=zH (fun k (h1:k<N)=>hF.1 k (Nat.zero_le _) h1)
 unfold cmpV MrgO at *
 have H0:=zH hw
 clear hw hE hF
 go_enter Tryz.func163,Tryz.ntmps163
 go_wp2_with fail
 go_loopw [7,8] (fun av bv wr=>∃(a:Nat) (G:Nat->Int),av = .int .i64 a/\bv = .int .i64 ((a:Int)+20)/\a<=N/\Hid (Ini R F N a G)/\Hid (SrtW w0 g N G wr)) (fun av _ _=>N-(intOf av).toNat)
 case atStart=>exact⟨0,F,by go_num,by go_num,Nat.zero_le _,zH (Ini.start R F N),H0⟩
 case round=>
  clear H0
  obtain⟨a,G,rfl,rfl,ha,HI,HW⟩:=hrel
  by_cases hlt:a+20<=N
  ·have hr:RisAB G N a (a+20):=⟨fun k h1 h2=>by rw [HI.out.rest k h1];exact HBD.out k (by omega),fun i j h1 h2 h3=>by rw [HI.out.rest i h1,HI.out.rest j (by omega)];exact HRI.out i j h2 (by omega)⟩
   have hc:=HINS.out a (a+20) (by omega) hlt G hr wr HW.out
   rw [show ((a+20:Nat):Int)=(a:Int)+20 by omega] at hc
   have HC:=zH hc
   have dd:decide ((a:Int)+20<=(N:Int))=true:=decide_eq_true (by omega)
   clear hr hc HW
   go_wp2_with fail
   refine HC.out.mono ?_
   rintro e w1 ⟨rfl,G2,h1,h2,h3⟩
   have HI2:=zH (HI.out.step h2 h3)
   have HW2:=zH h1
   clear h1 h2 h3 HC HI
   go_wp2_with fail
   go_roundw
   case rel=>exact⟨a+20,G2,by go_num,by go_num,hlt,HI2,HW2⟩
   case measure=>simp [intOf];omega
  ·have hr:RisAB G N a N:=⟨fun k h1 h2=>by rw [HI.out.rest k h1];exact HBD.out k (by omega),fun i j h1 h2 h3=>by rw [HI.out.rest i h1,HI.out.rest j (by omega)];exact HRI.out i j h2 (by omega)⟩
   have HC:=zH (HINS.out a N ha (Nat.le_refl _) G hr wr HW.out)
   have dd:decide ((a:Int)+20<=(N:Int))=false:=decide_eq_false (by omega)
   have hlt':N<a+20:=by omega
   clear hr HW HINS
   go_wp2_with fail
   refine HC.out.mono ?_
   rintro e w1 ⟨rfl,G2,h1,h2,h3⟩
   have HB:=zH (HI.out.last ha hlt' h2 h3)
   have HW2:=zH h1
   clear h1 h2 h3 HC HI ha hlt hlt' dd
   obtain⟨wo,rfl⟩:∃V,V=w1:=⟨_,rfl⟩
   go_wp2_with fail
   go_loopw [6] (fun sv wr=>∃(bs:Nat) (G:Nat->Int),sv = .int .i64 bs/\0<bs/\bs<=2*N+20/\Hid (Blk R F N bs G)/\Hid (SrtW w0 g N G wr)) (fun sv _=>N-(intOf sv).toNat)
   case atStart=>exact⟨20,G2,by go_num,by omega,by omega,HB,HW2⟩
   case round=>
    clear HB HW2
    obtain⟨bs,G,rfl,hb0,hb1,HB,HW⟩:=hrel
    by_cases hbn:bs<N
    ·have HM0:=zH (HB.out.mix (2*bs))
     have dd:decide ((bs:Int)<(N:Int))=true:=decide_eq_true (by omega)
     clear HB hb1
     obtain⟨wo,rfl⟩:∃V,V=wr:=⟨_,rfl⟩
     go_wp2_with fail
     clear dd
     go_loopw [7,8] (fun av bv wr=>∃(a t:Nat) (G:Nat->Int),av = .int .i64 a/\bv = .int .i64 ((a:Int)+2*(bs:Int))/\Hid (a=2*bs*t)/\a<=N/\Hid (Mix R F N (2*bs) bs a G)/\Hid (SrtW w0 g N G wr)) (fun av _ _=>N-(intOf av).toNat)
     case atStart=>exact⟨0,0,G,by go_num,by go_num,zH (by rw [Nat.mul_zero]),Nat.zero_le _,HM0,HW⟩
     case round=>
      clear HM0 HW
      obtain⟨a,t,G,rfl,rfl,HT,ha,HM,HW⟩:=hrel
      by_cases hlt:a+2*bs<=N
      ·have hrow:=HM.out.rows hb0 HT.out (y:=a+2*bs) (by omega) (Nat.le_refl _) hlt HRI.out HBD.out
       have hc:=HMRG.out a (a+bs) (a+2*bs) (by omega) (by omega) hlt G ⟨hrow.1,hrow.2.1,hrow.2.2.1,hrow.2.2.2⟩ wr HW.out
       rw [show ((a+bs:Nat):Int)=(a:Int)+(bs:Int) by omega,show ((a+2*bs:Nat):Int)=(a:Int)+2*(bs:Int) by omega] at hc
       have HC:=zH hc
       have dd:decide ((a:Int)+2*(bs:Int)<=(N:Int))=true:=decide_eq_true (by omega)
       clear hrow hc HW
       go_wp2_with fail
       refine HC.out.mono ?_
       rintro e w2 ⟨rfl,G2,h1,h2,h3⟩
       have HM2:=zH (HM.out.step hb0 HT.out hlt h2 h3)
       have HT2:=zH (show a+2*bs=2*bs*(t+1) by rw [Nat.mul_add,Nat.mul_one,←HT.out])
       have HW2:=zH h1
       clear h1 h2 h3 HC HM HT
       go_wp2_with fail
       go_roundw
       case rel=>exact⟨a+2*bs,t+1,G2,by go_num,by go_num,HT2,hlt,HM2,HW2⟩
       case measure=>simp [intOf];omega
      ·have dd:decide ((a:Int)+2*(bs:Int)<=(N:Int))=false:=decide_eq_false (by omega)
       have hlt':N<a+2*bs:=by omega
       by_cases hm:a+bs<N
       ·have hrow:=HM.out.rows hb0 HT.out (y:=N) (by omega) (by omega) (Nat.le_refl _) HRI.out HBD.out
        have hc:=HMRG.out a (a+bs) N (by omega) hm (Nat.le_refl _) G ⟨hrow.1,hrow.2.1,hrow.2.2.1,hrow.2.2.2⟩ wr HW.out
        rw [show ((a+bs:Nat):Int)=(a:Int)+(bs:Int) by omega] at hc
        have HC:=zH hc
        have d2:decide ((a:Int)+(bs:Int)<(N:Int))=true:=decide_eq_true (by omega)
        clear hrow hc HW
        go_wp2_with fail
        refine HC.out.mono ?_
        rintro e w2 ⟨rfl,G2,h1,h2,h3⟩
        have HB2:=zH (HM.out.last hb0 HT.out ha hlt' h2 h3)
        have HW2:=zH h1
        clear h1 h2 h3 HC HM HT
        go_wp2_with fail
        go_roundw
        case rel=>exact⟨2*bs,G2,by go_num,by omega,by omega,HB2,HW2⟩
        case measure=>simp [intOf];omega
       ·have d2:decide ((a:Int)+(bs:Int)<(N:Int))=false:=decide_eq_false (by omega)
        have HB2:=zH (HM.out.last hb0 HT.out ha hlt' (PermAB.refl G a N) (HM.out.alone hb0 HT.out (by omega)))
        clear HM HT
        go_wp2_with fail
        go_roundw
        case rel=>exact⟨2*bs,G,by go_num,by omega,by omega,HB2,HW⟩
        case measure=>simp [intOf];omega
    ·have dd:decide ((bs:Int)<(N:Int))=false:=decide_eq_false (by omega)
     have HS:=zH (HB.out.done (by omega))
     clear HB
     go_wp2_with fail
     go_end0
     exact⟨rfl,G,HS.out,HW.out⟩
theorem SortStableN_any(g b N cap:Nat)(c:Nat->Nat->Int)(R:Int->Int->Prop)(w0:World)(hE:CmpE w0 g b N c R)(hN:N<=1152921504606846976)(F:Nat->Int)(hF:RisAB F N 0 N)(w:World)(hw:SrtW w0 g N F w):
  Calls Tryz.prog 120 #[.slice (some ⟨g,0,none⟩) N cap,cmpV b] w fun e w'=>e = .returned (.tuple #[])/\∃G,SrtO R F N G/\SrtW w0 g N G w':=by
 have HI:=zH (stableN_any g b N cap c R w0 hE hN F hF w hw)
 unfold cmpV at *
 clear hF hw hE
 go_enter Tryz.func120,Tryz.ntmps120
 go_wp2_with fail
 refine HI.out.mono ?_
 rintro e w1 ⟨rfl,hh⟩
 have HH:=zH hh
 clear hh HI
 go_wp2_with fail
 go_end0
 exact⟨rfl,HH.out⟩
structure SmsS(w:World)(p:Option Addr)(n:Nat)(L:Nat->Smp):Prop where
 cell:0<n->∃g o,p=some ⟨g,o,none⟩/\g<w.heap.size/\∀i,i<n->∀f v,(L i).cells[f]?=some v->w.cell? ⟨g,o+i*6+f,none⟩=some v
 ok:∀i,i<n->SmOk w (L i)
theorem SmsS.old{w w':World}{p:Option Addr}{n:Nat}{L:Nat->Smp}(h:SmsS w p n L)(k:Old w w'):SmsS w' p n L where
 cell:=fun hn=>by
  obtain⟨g,o,h1,h2,h3⟩:=h.cell hn
  exact⟨g,o,h1,Nat.lt_of_lt_of_le h2 k.size,fun i hi f v hf=>(k.cell (a:=⟨g,o+i*6+f,none⟩) h2).trans (h3 i hi f v hf)⟩
 ok:=fun i hi=>(h.ok i hi).old k
def nmS(L:Nat->Smp)(i:Nat):ByteArray:=(L i).s
theorem names_yes(L:Nat->Smp)(x y:Nat)(hxy:x<y)(h:Lib.compareBytes (nmS L y).data.toList (nmS L x).data.toList<0):nameR (nmS L) y x:=.inl (by
  have:=(cmpS_neg _ _).1 h
  rwa [Int.toNat_natCast,Int.toNat_natCast])
theorem names_no(L:Nat->Smp)(x y:Nat)(hxy:x<y)(h:¬Lib.compareBytes (nmS L y).data.toList (nmS L x).data.toList<0):nameR (nmS L) x y:=.inr ⟨by
  rw [Int.toNat_natCast,Int.toNat_natCast]
  exact Bool.eq_false_iff.2 fun e=>h ((cmpS_neg _ _).2 e),by omega⟩
theorem cmpE_names{w0:World}{g b n cp gp o:Nat}{L:Nat->Smp}(hb:w0.cell? ⟨b,0,none⟩=some (.slice (some ⟨gp,o,none⟩) n cp))(hk:∀i,i<n->w0.cell? ⟨gp,o+i*6,none⟩=some (.string (nmS L i)))(h1:b<w0.heap.size)(h2:b≠g)(h3:gp<w0.heap.size)(h4:gp≠g):
  CmpE w0 g b n (fun x y=>Lib.compareBytes (nmS L x).data.toList (nmS L y).data.toList) (nameR (nmS L)) where
 call:=fun W hW x y hx hy=>byName1_any (nmS L) none b n cp gp o x y W ((hW.cell (a:=⟨b,0,none⟩) ⟨h1,h2⟩).trans hb) (fun i hi=>(hW.cell (a:=⟨gp,o+i*6,none⟩) ⟨h3,h4⟩).trans (hk i hi)) hx hy
 yes:=names_yes L
 no:=names_no L
 tr:=nameR_tr _
theorem Tryz.info_int:(Tryz.prog.info? 3).map (fun i=>(i.zero,i.size,i.bytes))=some (some (.int .i64 0),1,8):=by kernel_rfl
theorem zero1i(n:Nat):madeCells (Value.int .i64 0:Value).cells n=rowN n (blk fun _=>0):=
 made_rowN n _ (by decide) (fun j hj=>by
  have h1:j<1:=hj
  have h2:j=0:=by omega
  rw [h2];rfl)
theorem make_intsI(n:Nat)(hn:n<=1099511627776)(w:World):(Instr.makeSlice 23 (.int .i64 n) (.int .i64 n)).run Tryz.prog w = .ok (.slice (some ⟨w.heap.size,0,none⟩) n n) (w.alloc (.cells (rowN n (blk fun _=>0)) 3)):=by
 obtain⟨i,hi,hz0,hz1,hz2⟩:=info_parts Tryz.info_int
 rw [run_make w _ _ i _ Tryz.underlying23 hi hz0 .i64 .i64 n n (by omega) (by omega) (by rw [hz2];omega) (by omega),hz1,Int.toNat_natCast,Nat.mul_one,zero1i n]
def idTo(k:Nat):Nat->Int:=fun j=>if j<k then(j:Int) else 0
theorem idTo_step(k:Nat):(fun j=>if j=k then(k:Int) else idTo k j)=idTo (k+1):=by
 funext j
 unfold idTo
 by_cases e:j=k
 ·subst e;rw [if_pos rfl,if_pos (by omega)]
 ·rw [if_neg e]
  by_cases h:j<k
  ·rw [if_pos h,if_pos (by omega)]
  ·rw [if_neg h,if_neg (by omega)]
set_option maxHeartbeats 4000000 in
theorem byName_any(p:Option Addr)(n cp:Nat)(L:Nat->Smp)(w:World)(hs:SmsS w p n L)(hn:n<=1048576):
  Calls Tryz.prog 72 #[.slice p n cp] w fun e w'=>∃g G,e = .returned (.slice (some ⟨g,0,none⟩) n n)/\SrtO (nameR (nmS L)) (fun j=>(j:Int)) n G/\CellsAt w' g n G/\w.heap.size<=g/\Old w w':=by
 obtain⟨W1,hW1⟩:∃W1,W1=w.alloc (.cells #[.slice p n cp] 22):=⟨_,rfl⟩
 obtain⟨b,hb⟩:∃b,b=w.heap.size:=⟨_,rfl⟩
 have ho1:Old w W1:=by rw [hW1];exact Old.alloc _ _
 have hsz1:W1.heap.size=b+1:=by rw [hW1,hb];exact World.size_alloc ..
 have cb:W1.cell? ⟨b,0,none⟩=some (.slice p n cp):=by
  rw [hW1,hb]
  exact(cell_of_row _ _ _ _ _ _ (heap_alloc_new _ _)).trans rfl
 have hmk:=make_intsI n (by omega) W1
 rw [hsz1] at hmk
 obtain⟨W2,hW2⟩:∃W2,W2=W1.alloc (.cells (rowN n (blk fun _=>0)) 3):=⟨_,rfl⟩
 rw [←hW2] at hmk
 have ho2:Old W1 W2:=by rw [hW2];exact Old.alloc _ _
 have hc2:CellsAt W2 (b+1) n (idTo 0):=by
  rw [hW2,←hsz1]
  exact(cellsAt_new W1 n _ _).ext fun j _=>by unfold idTo;rw [if_neg (by omega)]
 have H0:=zH (show SrtW W2 (b+1) n (idTo 0) W2 from⟨hc2,Kept.refl _ _⟩)
 have HOW:=zH (ho1.trans ho2)
 have hE:0<n->CmpE W2 (b+1) b n (fun x y=>Lib.compareBytes (nmS L x).data.toList (nmS L y).data.toList) (nameR (nmS L)):=fun h0=>by
  obtain⟨gp,o,hp,hg,hc⟩:=hs.cell h0
  have hb2:b<W2.heap.size:=by have:=ho2.size;omega
  refine cmpE_names (cp:=cp) (gp:=gp) (o:=o) ?_ (fun i hi=>?_) hb2 (by omega) (Nat.lt_of_lt_of_le hg (HOW.out.size)) (by omega)
  ·rw [←hp]
   exact(ho2.cell (a:=⟨b,0,none⟩) (by show b<_;omega)).trans cb
  ·have:=hc i hi 0 (.string (L i).s) rfl
   exact(HOW.out.cell (a:=⟨gp,o+i*6+0,none⟩) hg).trans this
 have HE:=zH hE
 have HW:=zH hW1
 have HB:=zH hb
 have hcb2:=(ho2.cell (a:=⟨b,0,none⟩) (by show b<_;omega)).trans cb
 clear hE ho1 ho2 hc2 hsz1 hW1 hW2 hs hb
 go_enter Tryz.func72,Tryz.ntmps72
 go_upto_region 1 with (fail)
 rw [←HW.out,←HB.out]
 go_wp2_with fail
 clear hmk cb
 go_loopw [10] (fun iv wr=>∃k:Nat,k<=n/\iv = .int .i64 k/\Hid (SrtW W2 (b+1) n (idTo k) wr)) (fun i _=>n-(intOf i).toNat)
 case atStart=>exact⟨0,Nat.zero_le _,by go_num,H0⟩
 case round=>
  clear H0
  obtain⟨k,hk,rfl,HS⟩:=hrel
  by_cases hkn:k<n
  ·have c1:=HS.out.row.cell k hkn
   have f1:=HS.out.row.frz k hkn
   have HS2:=zH ((HS.out.set k hkn k).ext (idTo_step k))
   clear HS
   generalize idTo k k=u at *
   go_wp2_with fail
   go_roundw
   case rel=>exact⟨k+1,by omega,by go_num,HS2⟩
   case measure=>simp [intOf];omega
  ·obtain rfl:k=n:=by omega
   have hF:RisAB (idTo k) k 0 k:=⟨fun j _ h=>by unfold idTo;rw [if_pos h];omega,fun i j _ h1 h2=>by unfold idTo;rw [if_pos (by omega),if_pos h2];omega⟩
   have hsort:Calls Tryz.prog 120 #[.slice (some ⟨b+1,0,none⟩) k k,cmpV b] wr fun e w'=>e = .returned (.tuple #[])/\∃G,SrtO (nameR (nmS L)) (idTo k) k G/\SrtW W2 (b+1) k G w':=by
    by_cases h0:0<k
    ·exact SortStableN_any (b+1) b k k _ _ W2 (HE.out h0) (by omega) (idTo k) hF wr HS.out
    ·obtain rfl:k=0:=by omega
     exact SortStableN_any (b+1) b 0 0 (fun x y=>Lib.compareBytes (nmS L x).data.toList (nmS L y).data.toList) (nameR (nmS L)) W2 ⟨fun _ _ x y h=>by omega,names_yes L,names_no L,nameR_tr _⟩ (by omega) (idTo 0) hF wr HS.out
   have HST:=zH hsort
   clear hF hsort HS HE
   unfold cmpV at *
   go_wp2_with fail
   refine HST.out.mono ?_
   rintro e w1 ⟨rfl,G,h1,h2⟩
   have hsr:SrtO (nameR (nmS L)) (fun j=>(j:Int)) k G:=⟨h1.ord,fun q hq=>by
    obtain⟨m,a1,a2⟩:=h1.frm q hq
    exact⟨m,a1,by rw [a2];unfold idTo;rw [if_pos a1]⟩,fun q hq=>by
    obtain⟨m,a1,a2⟩:=h1.all q hq
    exact⟨m,a1,by rw [a2];unfold idTo;rw [if_pos hq]⟩⟩
   have HSR:=zH hsr
   have HC:=zH h2.row
   have HO:=zH (show Old w w1 from HOW.out.after h2.kept fun q hq=>⟨by have:=HOW.out.size;omega,by have:=HB.out;omega⟩)
   clear hsr h1 h2 HST
   go_wp2_with fail
   go_ret
   exact⟨b+1,G,rfl,HSR.out,HC.out,by have:=HB.out;omega,HO.out⟩
noncomputable def errTo(L:Nat->Smp):Nat->Int
 | 0=>0
 | k+1=>if errTo L k≠0 then errTo L k else(L k).check
theorem errTo_next{L:Nat->Smp}{k:Nat}(h:errTo L k=0):errTo L (k+1)=(L k).check:=by show (if errTo L k≠0 then errTo L k else(L k).check)=_;rw [if_neg (by omega)]
theorem errTo_stays{L:Nat->Smp}{k n:Nat}(h:errTo L k≠0)(hn:k<=n):errTo L n=errTo L k:=by
 induction hn with
 | refl=>rfl
 | @step m hm ih=>show (if errTo L m≠0 then errTo L m else(L m).check)=_;rw [if_pos (by rw [ih];exact h),ih]
def twiceP(L:Nat->Smp)(n:Nat):Prop:=∃i k,k<i/\i<n/\nmS L i=nmS L k
open Classical in
noncomputable def allI(L:Nat->Smp)(n:Nat):Int:=if 64<n then 6 else if errTo L n≠0 then errTo L n else if twiceP L n then 11 else 0
theorem allI_full{L:Nat->Smp}{n:Nat}(h:64<n):allI L n=6:=by unfold allI;rw [if_pos h]
theorem allI_err{L:Nat->Smp}{n:Nat}(h:¬64<n)(h2:errTo L n≠0):allI L n=errTo L n:=by unfold allI;rw [if_neg h,if_pos h2]
theorem allI_twice{L:Nat->Smp}{n:Nat}(h:¬64<n)(h2:errTo L n=0)(h3:twiceP L n):allI L n=11:=by unfold allI;rw [if_neg h,if_neg (by omega),if_pos h3]
theorem allI_ok{L:Nat->Smp}{n:Nat}(h:¬64<n)(h2:errTo L n=0)(h3:¬twiceP L n):allI L n=0:=by unfold allI;rw [if_neg h,if_neg (by omega),if_neg h3]
def onm(L:Nat->Smp)(G:Nat->Int)(i:Nat):ByteArray:=nmS L (G i).toNat
theorem srt_bd{R:Int->Int->Prop}{n:Nat}{G:Nat->Int}(h:SrtO R (fun j=>(j:Int)) n G)(i:Nat)(hi:i<n):∃m:Nat,m<n/\G i=(m:Int):=h.frm i hi
theorem twice_of{L:Nat->Smp}{n:Nat}{G:Nat->Int}(h:SrtO (nameR (nmS L)) (fun j=>(j:Int)) n G)(i:Nat)(h0:0<i)(hi:i<n)(he:onm L G (i-1)=onm L G i):twiceP L n:=by
 obtain⟨x,hx,ex⟩:=srt_bd h (i-1) (by omega)
 obtain⟨y,hy,ey⟩:=srt_bd h i hi
 have hr:=h.ord (i-1) i (by omega) hi
 unfold onm at he
 rw [ex,ey] at hr he
 rw [Int.toNat_natCast,Int.toNat_natCast] at he
 unfold nameR at hr
 rw [Int.toNat_natCast,Int.toNat_natCast,he,ltS_irr] at hr
 rcases hr with hr | ⟨_,hr⟩
 ·cases hr
 ·exact⟨y,x,by omega,hy,he.symm⟩
theorem no_twice{L:Nat->Smp}{n:Nat}{G:Nat->Int}(h:SrtO (nameR (nmS L)) (fun j=>(j:Int)) n G)(hne:∀i,0<i->i<n->onm L G (i-1)≠onm L G i):¬twiceP L n:=by
 have step:∀i,0<i->i<n->ltS (onm L G (i-1)) (onm L G i)=true:=fun i h0 hi=>by
  have hr:=h.ord (i-1) i (by omega) hi
  rcases hr with hr | ⟨hr,_⟩
  ·exact hr
  ·cases hc:ltS (onm L G (i-1)) (onm L G i)
   ·exact absurd (ltS_tri hc hr) (hne i h0 hi)
   ·rfl
 have up:∀d i,i+d+1<n->ltS (onm L G i) (onm L G (i+d+1))=true:=by
  intro d
  induction d with
  | zero=>intro i hi;exact step (i+1) (by omega) (by omega)
  | succ d ih=>intro i hi;exact ltS_tr (ih i (by omega)) (step (i+(d+1)+1) (by omega) hi)
 rintro ⟨i,k,hki,hin,he⟩
 obtain⟨a,ha,ea⟩:=h.all i hin
 obtain⟨b,hb,eb⟩:=h.all k (by omega)
 have hab:onm L G a=onm L G b:=by unfold onm;rw [ea,eb,Int.toNat_natCast,Int.toNat_natCast];exact he
 have hne2:a≠b:=fun e=>by rw [e,eb] at ea;omega
 rcases Nat.lt_or_gt_of_ne hne2 with c | c
 ·have:=up (b-a-1) a (by omega)
  rw [show a+(b-a-1)+1=b by omega,hab,ltS_irr] at this
  cases this
 ·have:=up (a-b-1) b (by omega)
  rw [show b+(a-b-1)+1=a by omega,hab,ltS_irr] at this
  cases this
theorem eqS_neq{a b:ByteArray}(h:a≠b):(a.toList == b.toList)=false:=by rw [eqS];exact decide_eq_false h
theorem eqS_eq(a:ByteArray):(a.toList == a.toList)=true:=by rw [eqS];exact decide_eq_true rfl
set_option maxHeartbeats 8000000 in
theorem CheckAll_any(p:Option Addr)(n cp:Nat)(L:Nat->Smp)(w:World)(hs:SmsS w p n L)(hn:n<=1048576):
  Calls Tryz.prog 60 #[.slice p n cp] w fun e w'=>e = .returned (.int .i64 (allI L n))/\Old w w':=by
 have HS:=zH hs
 have HO:=zH (Old.refl w)
 by_cases h64:64<n
 ·have HA:=zH (allI_full (L:=L) h64)
  have dd:decide (64<(n:Int))=true:=decide_eq_true (by omega)
  clear hs
  go_enter Tryz.func60,Tryz.ntmps60
  go_wp2_with fail
  go_ret
  exact⟨ret_int HA.out.symm,HO.out⟩
 have dd:decide (64<(n:Int))=false:=decide_eq_false (by omega)
 clear hs
 go_enter Tryz.func60,Tryz.ntmps60
 go_wp2_with fail
 clear dd
 go_loopw [13] (fun iv wr=>∃k:Nat,k<=n/\iv = .int .i64 k/\Hid (errTo L k=0)/\Hid (Old w wr)) (fun i _=>n-(intOf i).toNat)
 case atStart=>exact⟨0,Nat.zero_le _,by go_num,zH rfl,HO⟩
 case round=>
  clear HO
  obtain⟨k,hk,rfl,HE,HO⟩:=hrel
  by_cases hkn:k<n
  ·have hS:=HS.out.old HO.out
   obtain⟨g,o,rfl,hg,hcs⟩:=hS.cell (by omega)
   have c0:wr.cell? ⟨g,o+k*6,none⟩=some (.string (L k).s):=hcs k hkn 0 _ rfl
   have c1:wr.cell? ⟨g,o+k*6+1,none⟩=some (.int .i64 (L k).r):=hcs k hkn 1 _ rfl
   have c2:wr.cell? ⟨g,o+k*6+2,none⟩=some (.bool (L k).lp):=hcs k hkn 2 _ rfl
   have c3:wr.cell? ⟨g,o+k*6+3,none⟩=some (.int .i64 (L k).a):=hcs k hkn 3 _ rfl
   have c4:wr.cell? ⟨g,o+k*6+4,none⟩=some (.int .i64 (L k).b):=hcs k hkn 4 _ rfl
   have c5:wr.cell? ⟨g,o+k*6+5,none⟩=some (.slice (L k).p (L k).n (L k).c):=hcs k hkn 5 _ rfl
   have HCK:=zH (Check_any (L k) (wr.alloc (.cells (L k).cells 90)) ((hS.ok k hkn).old (Old.alloc _ _)))
   have HOa:=zH (HO.out.alloc' (.cells (L k).cells 90))
   have q0:(0:Int)<=k:=by omega
   have q1:(k:Int)<n:=by omega
   clear hS hcs hg HO
   unfold Smp.val Smp.cells at HCK
   unfold Smp.cells at HOa
   go_wp2_with fail
   refine HCK.out.mono ?_
   rintro e w2 ⟨rfl,ho2⟩
   have HO2:=zH (HOa.out.trans ho2)
   clear ho2 HCK HOa c0 c1 c2 c3 c4 c5
   by_cases hc:(L k).check=0
   ·have HE2:=zH ((errTo_next HE.out).trans hc)
    have d:((L k).check != 0)=false:=by simpa using hc
    clear hc HE
    go_wp2_with fail
    go_roundw
    case rel=>exact⟨k+1,by omega,by go_num,HE2,HO2⟩
    case measure=>simp [intOf];omega
   ·have he:=errTo_next HE.out
    have hst:=errTo_stays (L:=L) (k:=k+1) (n:=n) (by rw [he];exact hc) (by omega)
    have HA:=zH ((allI_err h64 (by rw [hst,he];exact hc)).trans (hst.trans he))
    have d:((L k).check != 0)=true:=by simpa using hc
    clear hc he hst HE
    go_wp2_with fail
    go_ret
    exact⟨ret_int HA.out.symm,HO2.out⟩
  ·obtain rfl:k=n:=by omega
   have hend:¬((k:Int)<(k:Int)):=by omega
   have HB:=zH (byName_any p k cp L wr (HS.out.old HO.out) hn)
   go_wp2_with fail
   refine HB.out.mono ?_
   rintro e w2 ⟨go,G,rfl,hsr,hc,hge,ho2⟩
   have HSR:=zH hsr
   have HC:=zH hc
   have HO2:=zH (HO.out.trans ho2)
   clear hsr hc hge ho2 HB HO hend
   obtain⟨wo,rfl⟩:∃V,V=w2:=⟨_,rfl⟩
   go_wp2_with fail
   go_loopw [7] (fun iv wr=>∃i:Nat,0<i/\(i<=k\/i=1)/\iv = .int .i64 i/\Hid (∀j,0<j->j<i->onm L G (j-1)≠onm L G j)/\Hid (∃d,wr=wo.drewN d)) (fun i _=>k+1-(intOf i).toNat)
   case atStart=>exact⟨1,by omega,.inr rfl,by go_num,zH fun j h1 h2=>by omega,zH ⟨0,rfl⟩⟩
   case round=>
    obtain⟨i,h0,hi,rfl,HNE,HD⟩:=hrel
    by_cases hik:i<k
    ·clear hi
     obtain⟨d,rfl⟩:=HD.out
     clear HD
     obtain⟨m,hm⟩:∃m:Nat,m=i-1:=⟨_,rfl⟩
     have hmk:m<k:=by omega
     obtain⟨x,hx,ex⟩:=srt_bd HSR.out m hmk
     obtain⟨y,hy,ey⟩:=srt_bd HSR.out i hik
     have cx:=HC.out.cell m hmk
     have cy:=HC.out.cell i hik
     rw [ex] at cx
     rw [ey] at cy
     obtain⟨g,o,rfl,hg,hcs⟩:=(HS.out.old HO2.out).cell (by omega)
     have nx:wo.cell? ⟨g,o+x*6,none⟩=some (.string (L x).s):=hcs x hx 0 _ rfl
     have ny:wo.cell? ⟨g,o+y*6,none⟩=some (.string (L y).s):=hcs y hy 0 _ rfl
     have q1:(i:Int)<k:=by omega
     have q2:(m:Int)<k:=by omega
     have q3:(x:Int)<k:=by omega
     have q4:(y:Int)<k:=by omega
     have hox:onm L G (i-1)=(L x).s:=by unfold onm nmS;rw [←hm,ex,Int.toNat_natCast]
     have hoy:onm L G i=(L y).s:=by unfold onm nmS;rw [ey,Int.toNat_natCast]
     have HB1:=zH (show m<=9223372036854775807 by omega)
     have hmi:(i:Int)-1=(m:Int):=by omega
     by_cases he:(L x).s=(L y).s
     ·have HA:=zH (allI_twice h64 HE.out (twice_of HSR.out i h0 hik (by rw [hox,hoy];exact he)))
      rw [he] at nx
      have de:=eqS_eq (L y).s
      clear hcs hg hox hoy he ex ey hm HNE
      obtain⟨e1,e2⟩:=wrapN (x:=(i:Int)-1) (p:=m) hmi HB1.out
      clear hmi
      generalize (L y).s=s at *
      go_wp2_with fail
      go_quiet (fail)
      clear e1 e2
      go_wp2_with fail
      go_ret
      exact⟨ret_int HA.out.symm,(HO2.out.drewN _).drewN _⟩
     ·have HNE2:=zH (show ∀j,0<j->j<i+1->onm L G (j-1)≠onm L G j from fun j h1 h2=>by
       by_cases e:j=i
       ·subst e;rw [hox,hoy];exact he
       ·exact HNE.out j h1 (by omega))
      have de:=eqS_neq he
      clear hcs hg hox hoy he ex ey hm HNE
      obtain⟨e1,e2⟩:=wrapN (x:=(i:Int)-1) (p:=m) hmi HB1.out
      clear hmi
      generalize (L x).s=s at *
      generalize (L y).s=t at *
      go_wp2_with fail
      go_quiet (fail)
      clear e1 e2
      go_wp2_with fail
      go_roundw
      case rel=>exact⟨i+1,by omega,.inl (by omega),by go_num,HNE2,zH ⟨_,rfl⟩⟩
      case measure=>simp [intOf];omega
    ·have hend:¬((i:Int)<(k:Int)):=by omega
     have HA:=zH (allI_ok h64 HE.out (no_twice HSR.out fun j h1 h2=>HNE.out j h1 (by omega)))
     obtain⟨d,rfl⟩:=HD.out
     clear HNE HD
     go_wp2_with fail
     go_ret
     exact⟨ret_int HA.out.symm,HO2.out.drewN _⟩
theorem own_emptyV(w:World)(t:TypeId):ownX (fun q=>q<w.heap.size) (w.alloc (.cells #[] t)) t (.slice (some ⟨w.heap.size,0,none⟩) 0 0) 0 []:=by
 refine⟨⟨rfl,.inr ⟨w.heap.size,0,#[],rfl,Nat.zero_le _,heap_alloc_new _ _,Nat.le_refl _,Nat.zero_le _,rfl,rfl⟩⟩,fun k hk=>?_⟩
 have:k=w.heap.size:=by simpa [Value.ownBlock,eq_comm] using hk
 omega
theorem Tryz.infoCI:(Tryz.prog.info? 3).map (fun i=>(i.zero,i.size,i.bytes))=some (some (.int .i64 0),1,8):=by kernel_rfl
theorem CloneI_any(p:Option Addr)(n cap:Nat)(xs:List Value)(w:World)(hx:xs.length=n)(h1:∀u∈xs,u.oneCell'=true)(hs:0<n->∃b o,p=some ⟨b,o,none⟩/\b<w.heap.size/\∀j u,xs[j]?=some u->w.cell? ⟨b,o+j,none⟩=some u)(hn:n<=1099511627776):
  Calls Tryz.prog 123 #[.slice p n cap] w fun e w'=>∃v,e = .returned v/\ownX (fun q=>q<w.heap.size) w' 3 v n xs/\Old w w':=by
 have HC:=zH hs
 have H1:=zH h1
 have HX:=zH hx
 clear hs h1 hx
 obtain⟨i0,hi,hz0,hz1,hz2⟩:=info_parts Tryz.infoCI
 cases p with
 | none=>
  have h0:n=0:=by
   rcases Nat.eq_zero_or_pos n with h | h
   ·exact h
   ·obtain⟨b,off,hp,_⟩:=HC.out h
    cases hp
  have hx:xs = []:=List.eq_nil_of_length_eq_zero (by rw [HX.out];exact h0)
  have HX2:=zH hx
  have H0:=zH h0
  clear hx h0 HC HX H1
  have hE:=eql_sl_nil 23 3 none n cap Tryz.underlying23
  go_enter Tryz.func123,Tryz.ntmps123
  go_wp2
  go_ret
  exact⟨_,rfl,by rw [HX2.out,H0.out];exact ownX.nil _ _ _,Old.refl w⟩
 | some a=>
  have HN:Hid (∀j u,xs[j]?=some u->(w.alloc (.cells #[] 3)).cell? (a.add j)=some u):=by
   intro j u hj
   have hjl:j<xs.length:=by
    by_cases h:j<xs.length
    ·exact h
    ·rw [List.getElem?_eq_none (by omega)] at hj;cases hj
   obtain⟨b,off,hp,hb,hcell⟩:=HC.out (by have:=HX.out;omega)
   obtain rfl:a=⟨b,off,none⟩:=by simpa using hp
   rw [add_plain,(Old.alloc w (.cells #[] 3)).cell (a:=⟨b,off+j,none⟩) hb]
   exact hcell j u hj
  have HO:Hid (Old w (w.alloc (.cells #[] 3))):=Old.alloc _ _
  clear HC
  have hE:=eql_sl_nil 23 3 (some a) n cap Tryz.underlying23
  go_enter Tryz.func123,Tryz.ntmps123
  go_wp2_with (at_builtin;refine append_X _ rfl _ _ 23 rfl (fun q=>q<w.heap.size) 3 i0 (.int .i64 0) 8 Tryz.underlying23 hi hz0 hz1 hz2 rfl _ _ _ rfl (own_emptyV w 3) a n cap xs rfl HX.out HN.out H1.out (by unfold maxLen;omega) (by omega) (fun q hq=>Nat.lt_of_lt_of_le hq HO.out.size) ?_;intro v' w2 hown2 hk2 _;have HR2:=zH (show ownX (fun q=>q<w.heap.size) w2 3 v' n xs from(by have:=hown2;rw [Nat.zero_add,List.nil_append] at this;exact this));have HO2:=zH (HO.out.after hk2 (fun _ h=>h));clear hown2 hk2 HO HN HX H1)
  go_ret
  exact⟨_,rfl,HR2.out,HO2.out⟩
theorem Tryz.infoCR:(Tryz.prog.info? 23).map (fun i=>(i.zero,i.size,i.bytes))=some (some (.slice none 0 0),1,24):=by kernel_rfl
theorem CloneR_any(p:Option Addr)(n cap:Nat)(xs:List Value)(w:World)(hx:xs.length=n)(h1:∀u∈xs,u.oneCell'=true)(hs:0<n->∃b o,p=some ⟨b,o,none⟩/\b<w.heap.size/\∀j u,xs[j]?=some u->w.cell? ⟨b,o+j,none⟩=some u)(hn:n<=1099511627776):
  Calls Tryz.prog 122 #[.slice p n cap] w fun e w'=>∃v,e = .returned v/\ownX (fun q=>q<w.heap.size) w' 23 v n xs/\Old w w':=by
 have HC:=zH hs
 have H1:=zH h1
 have HX:=zH hx
 clear hs h1 hx
 obtain⟨i0,hi,hz0,hz1,hz2⟩:=info_parts Tryz.infoCR
 cases p with
 | none=>
  have h0:n=0:=by
   rcases Nat.eq_zero_or_pos n with h | h
   ·exact h
   ·obtain⟨b,off,hp,_⟩:=HC.out h
    cases hp
  have hx:xs = []:=List.eq_nil_of_length_eq_zero (by rw [HX.out];exact h0)
  have HX2:=zH hx
  have H0:=zH h0
  clear hx h0 HC HX H1
  have hE:=eql_sl_nil 88 23 none n cap Tryz.underlying88
  go_enter Tryz.func122,Tryz.ntmps122
  go_wp2
  go_ret
  exact⟨_,rfl,by rw [HX2.out,H0.out];exact ownX.nil _ _ _,Old.refl w⟩
 | some a=>
  have HN:Hid (∀j u,xs[j]?=some u->(w.alloc (.cells #[] 23)).cell? (a.add j)=some u):=by
   intro j u hj
   have hjl:j<xs.length:=by
    by_cases h:j<xs.length
    ·exact h
    ·rw [List.getElem?_eq_none (by omega)] at hj;cases hj
   obtain⟨b,off,hp,hb,hcell⟩:=HC.out (by have:=HX.out;omega)
   obtain rfl:a=⟨b,off,none⟩:=by simpa using hp
   rw [add_plain,(Old.alloc w (.cells #[] 23)).cell (a:=⟨b,off+j,none⟩) hb]
   exact hcell j u hj
  have HO:Hid (Old w (w.alloc (.cells #[] 23))):=Old.alloc _ _
  clear HC
  have hE:=eql_sl_nil 88 23 (some a) n cap Tryz.underlying88
  go_enter Tryz.func122,Tryz.ntmps122
  go_wp2_with (at_builtin;refine append_X _ rfl _ _ 88 rfl (fun q=>q<w.heap.size) 23 i0 (.slice none 0 0) 24 Tryz.underlying88 hi hz0 hz1 hz2 rfl _ _ _ rfl (own_emptyV w 23) a n cap xs rfl HX.out HN.out H1.out (by unfold maxLen;omega) (by omega) (fun q hq=>Nat.lt_of_lt_of_le hq HO.out.size) ?_;intro v' w2 hown2 hk2 _;have HR2:=zH (show ownX (fun q=>q<w.heap.size) w2 23 v' n xs from(by have:=hown2;rw [Nat.zero_add,List.nil_append] at this;exact this));have HO2:=zH (HO.out.after hk2 (fun _ h=>h));clear hown2 hk2 HO HN HX H1)
  go_ret
  exact⟨_,rfl,HR2.out,HO2.out⟩
structure ApR(w W:World)(S:Smp)(z:Array Value)(gc:Nat)(p:Option Addr)(c:Nat)(Q:Nat->Option Addr)(C:Nat->Nat):Prop where
 st:FewSt w W (S.celled p c Q C) z
 le:S.n<=c
 cap:c<=maxLen
 hp:0<S.n->p=some ⟨gc,0,none⟩/\gc<W.heap.size
 cell:∀i,i<S.n->W.cell? ⟨gc,i,none⟩=some (.slice (Q i) (S.M i) (C i))
 frz:∀i,i<S.n->W.frozen? ⟨gc,i,none⟩=false
 lo:w.heap.size+2<=gc
 row:∀i,i<S.n->S.M i<=C i/\C i<=maxLen/\RdRow W (Q i) (S.M i) (S.X i)
 ne:∀i,i<S.n->0<S.M i->∀a,Q i=some a->a.block≠gc/\(a.block<w.heap.size\/w.heap.size+2<=a.block)
theorem ApR.old{w W W':World}{S:Smp}{z:Array Value}{gc:Nat}{p:Option Addr}{c:Nat}{Q:Nat->Option Addr}{C:Nat->Nat}(h:ApR w W S z gc p c Q C)(k:Old W W'):ApR w W' S z gc p c Q C where
 st:=h.st.kept (k.kept fun q hq=>by have:=h.st.lt;omega)
 le:=h.le
 cap:=h.cap
 hp:=fun h0=>⟨(h.hp h0).1,Nat.lt_of_lt_of_le (h.hp h0).2 k.size⟩
 cell:=fun i hi=>(k.cell (a:=⟨gc,i,none⟩) (h.hp (by omega)).2).trans (h.cell i hi)
 frz:=fun i hi=>(Kept.frozen k (a:=⟨gc,i,none⟩) (h.hp (by omega)).2).trans (h.frz i hi)
 lo:=h.lo
 row:=fun i hi=>⟨(h.row i hi).1,(h.row i hi).2.1,(h.row i hi).2.2.old k⟩
 ne:=h.ne
theorem ApR.put{w W:World}{S:Smp}{z:Array Value}{gc:Nat}{p:Option Addr}{c:Nat}{Q:Nat->Option Addr}{C:Nat->Nat}(h:ApR w W S z gc p c Q C)(k:Nat)(hk:k<S.n)(q:Option Addr)(cq:Nat)(h1:S.M k<=cq)(h2:cq<=maxLen)(h3:RdRow W q (S.M k) (S.X k))(h4:∀a,q=some a->a.block≠gc/\w.heap.size+2<=a.block):
  ApR w (W.setCell ⟨gc,k,none⟩ (.slice q (S.M k) cq)) S z gc p c (fun i=>if i=k then q else Q i) (fun i=>if i=k then cq else C i) where
 st:=by
  have:=h.st.kept (Kept.setCell (X:=fun q=>q<w.heap.size+2) W (a:=⟨gc,k,none⟩) (by have:=h.lo;simp only;omega) (.slice q (S.M k) cq))
  exact⟨this.b,this.r,this.old⟩
 le:=h.le
 cap:=h.cap
 hp:=fun h0=>⟨(h.hp h0).1,by rw [World.size_setCell];exact(h.hp h0).2⟩
 cell:=fun i hi=>by
  by_cases e:i=k
  ·subst e;rw [World.cell?_setCell_same _ _ _ (h.cell i hi),if_pos rfl,if_pos rfl]
  ·rw [World.cell?_setCell_other _ _ _ _ (fun e'=>e (by injection e' with _ e2;exact e2.symm)),if_neg e,if_neg e];exact h.cell i hi
 frz:=fun i hi=>by rw [World.frozen?_setCell];exact h.frz i hi
 lo:=h.lo
 row:=fun i hi=>by
  have hr:∀(q':Option Addr) (n':Nat) (X':Nat->Int),RdRow W q' n' X'->(0<n'->∀a,q'=some a->a.block≠gc)->RdRow (W.setCell ⟨gc,k,none⟩ (.slice q (S.M k) cq)) q' n' X':=fun q' n' X' hh hne h0=>by
   obtain⟨g,o,e1,e2,e3⟩:=hh h0
   refine⟨g,o,e1,by rw [World.size_setCell];exact e2,fun j hj=>?_⟩
   rw [World.cell?_setCell_other _ _ _ _ (fun e'=>hne h0 _ e1 (by injection e' with e2 _;exact e2.symm))]
   exact e3 j hj
  by_cases e:i=k
  ·subst e;rw [if_pos rfl,if_pos rfl];exact⟨h1,h2,hr _ _ _ h3 fun _ a ha=>(h4 a ha).1⟩
  ·rw [if_neg e,if_neg e];exact⟨(h.row i hi).1,(h.row i hi).2.1,hr _ _ _ (h.row i hi).2.2 fun h0 a ha=>(h.ne i hi h0 a ha).1⟩
 ne:=fun i hi h0 a ha=>by
  by_cases e:i=k
  ·subst e;rw [if_pos rfl] at ha;exact⟨(h4 a ha).1,.inr (h4 a ha).2⟩
  ·rw [if_neg e] at ha;exact h.ne i hi h0 a ha
def Smp.inX(S:Smp)(X:Nat->Prop):Prop:=(∀a,0<S.n->S.p=some a->X a.block)/\∀i,i<S.n->0<S.M i->∀a,S.Q i=some a->X a.block
theorem SmOk.kept{w w':World}{S:Smp}{X:Nat->Prop}(h:SmOk w S)(k:Kept X w w')(hX:S.inX X):SmOk w' S where
 size:=h.size
 le:=h.le
 cap:=h.cap
 rows:={
  cell:=fun hn=>by
   obtain⟨g,o,h1,h2,h3⟩:=h.rows.cell hn
   exact⟨g,o,h1,Nat.lt_of_lt_of_le h2 k.size,fun i hi=>(k.cell (a:=⟨g,o+i,none⟩) (hX.1 ⟨g,o,none⟩ hn h1)).trans (h3 i hi)⟩
  row:=fun i hi=>by
   obtain⟨a,b,c⟩:=h.rows.row i hi
   refine⟨a,b,fun hm=>?_⟩
   obtain⟨g,o,h1,h2,h3⟩:=c hm
   exact⟨g,o,h1,Nat.lt_of_lt_of_le h2 k.size,fun j hj=>(k.cell (a:=⟨g,o+j,none⟩) (hX.2 i hi hm ⟨g,o,none⟩ h1)).trans (h3 j hj)⟩ }
theorem Smp.inX.mono{S:Smp}{X Y:Nat->Prop}(h:S.inX X)(k:∀q,X q->Y q):S.inX Y:=⟨fun a h0 ha=>k _ (h.1 a h0 ha),fun i hi h0 a ha=>k _ (h.2 i hi h0 a ha)⟩
def Smp.like(T S:Smp):Prop:=T.s=S.s/\T.r=S.r/\T.lp=S.lp/\T.a=S.a/\T.b=S.b/\T.n=S.n/\T.M=S.M/\T.X=S.X
theorem Smp.like.len{T S:Smp}(h:T.like S):T.len=S.len:=by
 obtain⟨_,_,_,_,_,h6,h7,_⟩:=h
 unfold Smp.len
 rw [h6,h7]
def AprtR(w:World)(S:Smp)(e:Ending)(w':World):Prop:=∃S':Smp,e = .returned (.agg S'.cells)/\SmOk w' S'/\S'.like S/\Old w w'/\S'.inX (fun q=>w.heap.size<=q)
def rowV(S:Smp)(k:Nat):List Value:=(List.range (S.M k)).map fun j=>.int .i64 (S.X k j)
def hdrV(S:Smp):List Value:=(List.range S.n).map fun i=>.slice (S.Q i) (S.M i) (S.C i)
theorem map_range_get{f:Nat->Value}{n j:Nat}{u:Value}(h:((List.range n).map f)[j]?=some u):j<n/\u=f j:=by
 by_cases hj:j<n
 ·rw [List.getElem?_map,List.getElem?_range hj] at h;exact⟨hj,by simpa using h.symm⟩
 ·rw [List.getElem?_eq_none (by simp;omega)] at h;cases h
set_option maxHeartbeats 8000000 in
theorem apart_any(S:Smp)(w:World)(hs:SmOk w S)(hn:S.n<=1048576)(hm:∀i,i<S.n->S.M i<=1048576):
  Calls Tryz.prog 73 #[S.val] w (AprtR w S):=by
 have Hs6:Hid ((Tryz.prog.info? 90).map (·.size)=some 6):=zH (by kernel_rfl)
 obtain⟨z,hz⟩:∃z:Array Value,z=#[.string ⟨#[]⟩,.int .i64 0,.bool false,.int .i64 0,.int .i64 0,.slice none 0 0]:=⟨_,rfl⟩
 have Hz6:Hid (z.size=6):=zH (by rw [hz];rfl)
 obtain⟨W1,hW1⟩:∃W1,W1=(w.alloc (.cells S.cells 90)).alloc (.cells z 90):=⟨_,rfl⟩
 have hst:FewSt w W1 S z:=by
  rw [hW1]
  refine⟨(SmB.new w S).old (Old.alloc _ _),?_,(Old.alloc w _).alloc' _⟩
  exact heap_alloc2_new w _ _
 have c5:=hst.b.at.2.2.2.2.2
 have hok1:=hs.old hst.old
 have HC:=zH (CloneR_any S.p S.n S.c (hdrV S) W1 (by simp [hdrV]) (fun u hu=>by
  obtain⟨i,_,rfl⟩:=List.mem_map.1 hu
  rfl) (fun h0=>by
  obtain⟨g,o,h1,h2,h3⟩:=hok1.rows.cell h0
  exact⟨g,o,h1,h2,fun j u hj=>by
   obtain⟨hj',rfl⟩:=map_range_get hj
   exact h3 j hj'⟩) (by omega))
 have HS:=zH hst
 have HOK:=zH hs
 have HNM:=zH (And.intro hn hm)
 rw [hz] at hW1
 unfold Smp.cells at hW1
 have HW:=zH hW1
 unfold Smp.val Smp.cells
 clear hs hst hok1 hW1 hz hn hm
 go_enter Tryz.func73,Tryz.ntmps73
 go_upto_region 1 with (fail)
 rw [←HW.out]
 clear HW
 go_wp2_with fail
 refine HC.out.mono ?_
 rintro e w1 ⟨v,rfl,hown,ho1⟩
 have hst1:FewSt w w1 S z:=HS.out.kept (ho1.kept fun q hq=>by have:=HS.out.lt;omega)
 have hlt:=HS.out.lt
 obtain⟨gc,p',c',hv,hap⟩:∃gc p' c',v = .slice p' S.n c'/\ApR w (w1.setCell ⟨w.heap.size,5,none⟩ (.slice p' S.n c')) S z gc p' c' S.Q S.C:=by
  have hrows:∀W,Old w W->∀i,i<S.n->S.M i<=S.C i/\S.C i<=maxLen/\RdRow W (S.Q i) (S.M i) (S.X i):=fun W k i hi=>⟨((HOK.out.old k).rows.row i hi).1,((HOK.out.old k).rows.row i hi).2.1,((HOK.out.old k).rows.row i hi).2.2⟩
  have hlow:∀i,i<S.n->0<S.M i->∀a,S.Q i=some a->a.block<w.heap.size:=fun i hi h0 a ha=>by
   obtain⟨g,o,e1,e2,_⟩:=(HOK.out.rows.row i hi).2.2 h0
   rw [e1] at ha;cases ha;exact e2
  rcases hown.shape with ⟨hv,h0⟩ | ⟨g,cap,hv,hX,hg,h1,h2,h3⟩
  ·refine⟨w.heap.size+2,none,0,by rw [h0];exact hv,?_⟩
   have hs2:=hst1.celled none 0 S.Q S.C
   exact⟨hs2,by omega,Nat.zero_le _,fun h=>by omega,fun i hi=>by omega,fun i hi=>by omega,Nat.le_refl _,hrows _ hs2.old,fun i hi=>by omega⟩
  ·have hge:w.heap.size+2<=g:=by omega
   refine⟨g,some ⟨g,0,none⟩,cap,hv,?_⟩
   have hs2:=hst1.celled (some ⟨g,0,none⟩) cap S.Q S.C
   refine⟨hs2,h1,h2,fun _=>⟨rfl,by rw [World.size_setCell];exact hg⟩,fun i hi=>?_,fun i hi=>?_,hge,hrows _ hs2.old,fun i hi h0 a ha=>?_⟩
   ·rw [World.cell?_setCell_other _ _ _ _ (fun e'=>by injection e' with e2 _;omega)]
    refine h3 i _ ?_
    unfold hdrV
    rw [List.getElem?_map,List.getElem?_range hi]
    rfl
   ·rw [World.frozen?_setCell]
    subst hv
    exact hown.frozenAt i
   ·have:=hlow i hi h0 a ha
    exact⟨by omega,.inl this⟩
 have f5:w1.frozen? ⟨w.heap.size,5,none⟩=false:=frozen_of_row _ _ _ _ _ hst1.b
 have k5:=hst1.b.at.2.2.2.2.2
 subst hv
 obtain⟨W2,hW2⟩:∃W2,W2=w1.setCell ⟨w.heap.size,5,none⟩ (.slice p' S.n c'):=⟨_,rfl⟩
 rw [←hW2] at hap
 have HA:=zH hap
 have HW2:=zH hW2
 have m5:W2.cell? ⟨w.heap.size,5,none⟩=some (.slice p' S.n c'):=hap.st.b.at.2.2.2.2.2
 clear HC hown ho1 hst1 hlt hap hW2 c5 HS
 go_wp2_with (rw [←HW2.out])
 clear m5 k5 f5
 go_loopw [12] (fun iv wr=>∃(k:Nat) (Q:Nat->Option Addr) (C:Nat->Nat),k<=S.n/\iv = .int .i64 k/\Hid (ApR w wr S z gc p' c' Q C)/\Hid (∀i,i<k->0<S.M i->∀a,Q i=some a->w.heap.size+2<=a.block)) (fun i _=>S.n-(intOf i).toNat)
 case atStart=>exact⟨0,S.Q,S.C,Nat.zero_le _,by go_num,HA,zH fun i hi=>by omega⟩
 case round=>
  clear HA HW2
  obtain⟨k,Q,C,hk,rfl,HA,HNW⟩:=hrel
  by_cases hkn:k<S.n
  ·have hp1:=(HA.out.hp (by omega)).1
   subst hp1
   have ck:=HA.out.cell k hkn
   have hrow:=HA.out.row k hkn
   have hMk:=HNM.out.2 k hkn
   have HCI:=zH (CloneI_any (Q k) (S.M k) (C k) (rowV S k) wr.drew (by simp [rowV]) (fun u hu=>by
    obtain⟨j,_,rfl⟩:=List.mem_map.1 hu
    rfl) (fun h0=>by
    obtain⟨g,o,h1,h2,h3⟩:=hrow.2.2 h0
    exact⟨g,o,h1,h2,fun j u hj=>by
     obtain⟨hj',rfl⟩:=map_range_get hj
     exact h3 j hj'⟩) (by omega))
   have m5:wr.cell? ⟨w.heap.size,5,none⟩=some (.slice (some ⟨gc,0,none⟩) S.n c'):=HA.out.st.b.at.2.2.2.2.2
   have HM5:=zH m5
   have hlt:=HA.out.st.lt
   have q0:(0:Int)<=k:=by omega
   have q1:(k:Int)<S.n:=by omega
   have hkb:k<1048576:=by have:=HNM.out.1;omega
   have HR:=zH (And.intro hlt hMk)
   clear hrow hMk hlt m5
   obtain⟨qk,hqk⟩:∃qk,qk=Q k:=⟨_,rfl⟩
   obtain⟨ckk,hckk⟩:∃ckk,ckk=C k:=⟨_,rfl⟩
   rw [←hqk,←hckk] at ck HCI
   clear hqk hckk
   go_wp2_with fail
   refine wp_region_held_drew (S:=(fun W=>W.cell? ⟨w.heap.size,5,none⟩=some (.slice (some ⟨gc,0,none⟩) S.n c'))) (by kernel_rfl) ?_ (fun hHeld=>?_)
   ·(try dsimp only);exact HM5.out
   refine wpU 0 rfl ?_;try simp only [Act.put,sA,sZ,sS]
   refine wpU 1 rfl ?_;try simp only [Act.put,sA,sZ,sS]
   refine wpU 2 rfl ?_;try simp only [Act.put,sA,sZ,sS]
   refine wpU 3 rfl ?_;try simp only [Act.put,sA,sZ,sS]
   refine wpR 4 rfl (fun K hK=>?_)
   go_simp
   refine HCI.out.mono ?_
   rintro e V1 ⟨v,rfl,hown,ho1⟩
   have hoo:Old wr V1:=((Old.refl wr).drew).trans ho1
   have hap:=HA.out.old hoo
   obtain⟨q2,c2,hv,g1,g2,g3,g4⟩:∃q2 c2,v = .slice q2 (S.M k) c2/\S.M k<=c2/\c2<=maxLen/\RdRow V1 q2 (S.M k) (S.X k)/\∀a,q2=some a->a.block≠gc/\w.heap.size+2<=a.block:=by
    rcases hown.shape with ⟨hv,h0⟩ | ⟨g,cap,hv,hX,hg,h1,h2,h3⟩
    ·exact⟨none,0,by rw [h0];exact hv,by omega,Nat.zero_le _,fun h=>by omega,fun a ha=>by cases ha⟩
    ·refine⟨_,cap,hv,h1,h2,fun h0=>⟨g,0,rfl,hg,fun j hj=>?_⟩,fun a ha=>?_⟩
     ·rw [Nat.zero_add]
      refine h3 j _ ?_
      unfold rowV
      rw [List.getElem?_map,List.getElem?_range hj]
      rfl
     ·cases ha
      have hX:¬g<wr.heap.size:=hX
      have:=(HA.out.hp (by omega)).2
      have:=HR.out.1
      exact⟨by show g≠gc;omega,by show w.heap.size+2<=g;omega⟩
   subst hv
   have HP:=zH (hap.put k hkn q2 c2 g1 g2 g3 g4)
   have HNW2:=zH (show ∀i,i<k+1->0<S.M i->∀a,(if i=k then q2 else Q i)=some a->w.heap.size+2<=a.block from fun i hi h0 a ha=>by
    by_cases e:i=k
    ·rw [if_pos e] at ha;exact(g4 a ha).2
    ·rw [if_neg e] at ha;exact HNW.out i (by omega) h0 a ha)
   have ck2:=hap.cell k hkn
   have fk2:=hap.frz k hkn
   have n5:V1.cell? ⟨w.heap.size,5,none⟩=some (.slice (some ⟨gc,0,none⟩) S.n c'):=hap.st.b.at.2.2.2.2.2
   have HN5:=zH n5
   have o5:(V1.setCell ⟨gc,k,none⟩ (.slice q2 (S.M k) c2)).cell? ⟨w.heap.size,5,none⟩=some (.slice (some ⟨gc,0,none⟩) S.n c'):=HP.out.st.b.at.2.2.2.2.2
   have HO5:=zH o5
   clear hown ho1 hoo hap g1 g2 g3 g4 HCI HA HM5 n5 o5 ck
   go_wp2_with fail
   refine hK.out _ _ ?_ (fun hHeld=>?_)
   ·(try dsimp only);exact HN5.out
   clear hK K
   try simp only [Act.put,sA,sZ,sS]
   refine wpU 5 rfl ?_;try simp only [Act.put,sA,sZ,sS]
   refine wpR 6 rfl (fun K hK=>?_)
   go_simp
   refine hK.out _ _ ?_ (fun hHeld=>?_)
   ·(try dsimp only);exact HO5.out
   clear hK K
   try simp only [Act.put,sA,sZ,sS]
   refine wpAnyH_done (by kernel_rfl) ?_ _
   go_wp2_with fail
   go_roundw
   case rel=>exact⟨k+1,_,_,by omega,by go_num,HP,HNW2⟩
   case measure=>simp [intOf];omega
  ·have hend:¬((k:Int)<(S.n:Int)):=by omega
   have hst:=HA.out.st
   have d0:wr.cell? ⟨w.heap.size,0,none⟩=some (.string S.s):=hst.b.at.1
   have d1:wr.cell? ⟨w.heap.size,1,none⟩=some (.int .i64 S.r):=hst.b.at.2.1
   have d2:wr.cell? ⟨w.heap.size,2,none⟩=some (.bool S.lp):=hst.b.at.2.2.1
   have d3:wr.cell? ⟨w.heap.size,3,none⟩=some (.int .i64 S.a):=hst.b.at.2.2.2.1
   have d4:wr.cell? ⟨w.heap.size,4,none⟩=some (.int .i64 S.b):=hst.b.at.2.2.2.2.1
   have d5:wr.cell? ⟨w.heap.size,5,none⟩=some (.slice p' S.n c'):=hst.b.at.2.2.2.2.2
   obtain⟨R,hR⟩:∃R:Array Value,R=#[.string S.s,.int .i64 S.r,.bool S.lp,.int .i64 S.a,.int .i64 S.b,.slice p' S.n c']:=⟨_,rfl⟩
   have HR:=zH hR
   have HR6:Hid (R.size=6):=zH (by rw [hR];rfl)
   have HR1:Hid (R.all (·.oneCell')=true):=zH (by rw [hR];kernel_rfl)
   have hrr:=row_ret hst.r hst.old (by omega) R
   have hok:SmOk (wr.setRow (w.heap.size+1) R) (S.celled p' c' Q C):=by
    have hk:Kept (fun q=>q≠w.heap.size+1) wr (wr.setRow (w.heap.size+1) R):=⟨rfl,rfl,by simp,fun k hk=>setRow_other _ _ _ _ hk⟩
    have hlo:=HA.out.lo
    refine⟨HOK.out.size,HA.out.le,HA.out.cap,⟨fun h0=>⟨gc,0,(HA.out.hp h0).1,Nat.lt_of_lt_of_le (HA.out.hp h0).2 hk.size,fun i hi=>?_⟩,fun i hi=>⟨(HA.out.row i hi).1,(HA.out.row i hi).2.1,fun h0=>?_⟩⟩⟩
    ·rw [Nat.zero_add]
     exact(hk.cell (a:=⟨gc,i,none⟩) (by simp only;omega)).trans (HA.out.cell i hi)
    ·obtain⟨g,o,e1,e2,e3⟩:=(HA.out.row i hi).2.2 h0
     have hne:=(HA.out.ne i hi h0 _ e1).2
     exact⟨g,o,e1,Nat.lt_of_lt_of_le e2 hk.size,fun j hj=>(hk.cell (a:=⟨g,o+j,none⟩) (by simp only at *;omega)).trans (e3 j hj)⟩
   have hinx:(S.celled p' c' Q C).inX (fun q=>w.heap.size<=q):=by
    have hlo:=HA.out.lo
    refine⟨fun a h0 ha=>?_,fun i hi h0 a ha=>?_⟩
    ·have h1:=(HA.out.hp h0).1
     have ha:p'=some a:=ha
     rw [h1] at ha;cases ha;simp only;omega
    ·have:=HNW.out i (by have:i<S.n:=hi;omega) h0 a ha
     omega
   have HINX:=zH hinx
   have HOK2:=zH hok
   have HRR:=zH hrr
   have HST:=zH hst
   clear hok hrr hst hR HA HOK hinx
   go_wp2_with (rw [←HR.out];with_reducible refine wpList_store_row rfl 90 _ _ rfl (w.heap.size+1) R rfl rfl 90 _ HST.out.r (by rw [HR6.out];exact Hs6.out) (by rw [HR6.out,Hz6.out]) HR1.out ?_)
   refine bodyPost_ret (results_cell_row rfl _ _ (w.heap.size+1) 90 R (0,0) _ rfl HRR.out.1 Tryz.underlying90 rfl (by rw [HR6.out];exact Hs6.out)) rfl ?_
   exact⟨_,by rw [HR.out];rfl,HOK2.out,⟨rfl,rfl,rfl,rfl,rfl,rfl,rfl,rfl⟩,HRR.out.2,HINX.out⟩
structure SrW(B:Nat)(W:World)(gs n k:Nat)(Z:Nat->Smp):Prop where
 lt:gs<W.heap.size
 ge:B<=gs
 there:W.there gs 0 (n*6)
 cell:∀i,i<k->∀f v,(Z i).cells[f]?=some v->W.cell? ⟨gs,i*6+f,none⟩=some v
 ok:∀i,i<k->SmOk W (Z i)
 inx:∀i,i<k->(Z i).inX (fun q=>gs<q)
theorem SrW.old{B:Nat}{W W':World}{gs n k:Nat}{Z:Nat->Smp}(h:SrW B W gs n k Z)(o:Old W W'):SrW B W' gs n k Z where
 lt:=Nat.lt_of_lt_of_le h.lt o.size
 ge:=h.ge
 there:=fun j hj=>by
  have:=h.there j hj
  exact⟨by rw [o.cell (a:=⟨gs,0+j,none⟩) h.lt];exact this.1,by rw [Kept.frozen o (a:=⟨gs,0+j,none⟩) h.lt];exact this.2⟩
 cell:=fun i hi f v hf=>(o.cell (a:=⟨gs,i*6+f,none⟩) h.lt).trans (h.cell i hi f v hf)
 ok:=fun i hi=>(h.ok i hi).old o
 inx:=h.inx
theorem smp_len(S:Smp):S.cells.toList.length=6:=rfl
theorem SrW.put{B:Nat}{W:World}{gs n k:Nat}{Z:Nat->Smp}(h:SrW B W gs n k Z)(hk:k<n)(S:Smp)(hok:SmOk W S)(hin:S.inX (fun q=>gs<q)):
  SrW B (W.setCells gs (k*6) S.cells.toList) gs n (k+1) (fun i=>if i=k then S else Z i) where
 lt:=by rw [setCells_size];exact h.lt
 ge:=h.ge
 there:=World.there_setCells h.there _ _ _
 cell:=fun i hi f v hf=>by
  by_cases e:i=k
  ·subst e
   rw [if_pos rfl] at hf
   have hf6:f<6:=by
    rcases Nat.lt_or_ge f 6 with h | h
    ·exact h
    ·rw [Array.getElem?_eq_none (by show 6<=f;exact h)] at hf;cases hf
   have h1:=World.cell?_setCells_in gs S.cells.toList (i*6) W (fun j hj=>by
    have:=(h.there (i*6+j) (by rw [smp_len] at hj;omega)).1
    rwa [Nat.zero_add] at this) f (by rw [smp_len];exact hf6)
   rw [h1,←hf]
   simp
  ·rw [if_neg e] at hf
   rw [World.cell?_setCells_out gs S.cells.toList (k*6) W ⟨gs,i*6+f,none⟩ (fun _ _=>?_)]
   ·exact h.cell i (by omega) f v hf
   ·have hf6:f<6:=by
     rcases Nat.lt_or_ge f 6 with h | h
     ·exact h
     ·rw [Array.getElem?_eq_none (by show 6<=f;exact h)] at hf;cases hf
    rw [smp_len];show i*6+f<k*6\/k*6+6<=i*6+f;omega
 ok:=fun i hi=>by
  have hK:Kept (fun q=>gs<q) W (W.setCells gs (k*6) S.cells.toList):=Kept.setCells W (by omega) _ _
  by_cases e:i=k
  ·rw [if_pos e];exact hok.kept hK hin
  ·rw [if_neg e];exact(h.ok i (by omega)).kept hK (h.inx i (by omega))
 inx:=fun i hi=>by
  by_cases e:i=k
  ·rw [if_pos e];exact hin
  ·rw [if_neg e];exact h.inx i (by omega)
theorem Tryz.info_smp:(Tryz.prog.info? 90).map (fun i=>(i.zero,i.size,i.bytes))=some (some (.agg #[.string ⟨#[]⟩,.int .i64 0,.bool false,.int .i64 0,.int .i64 0,.slice none 0 0]),6,72):=by kernel_rfl
def zeroSm:Array Value:=#[.string ⟨#[]⟩,.int .i64 0,.bool false,.int .i64 0,.int .i64 0,.slice none 0 0]
theorem make_smps(n:Nat)(hn:n<=1099511627776)(w:World):(Instr.makeSlice 22 (.int .i64 n) (.int .i64 n)).run Tryz.prog w = .ok (.slice (some ⟨w.heap.size,0,none⟩) n n) (w.alloc (.cells (madeCells zeroSm (n*6)) 90)):=by
 obtain⟨i,hi,hz0,hz1,hz2⟩:=info_parts Tryz.info_smp
 rw [run_make w _ _ i _ Tryz.underlying22 hi hz0 .i64 .i64 n n (by omega) (by omega) (by rw [hz2];omega) (by omega),hz1,Int.toNat_natCast]
 rfl
theorem made_there(w:World)(m:Nat)(z:Array Value)(t:TypeId):(w.alloc (.cells (madeCells z m) t)).there w.heap.size 0 m:=fun j hj=>by
 have hb:(w.alloc (.cells (madeCells z m) t)).heap[w.heap.size]?=some (.cells (madeCells z m) t (0,0)):=heap_alloc_new _ _
 refine⟨?_,frozen_of_row _ _ _ _ _ hb⟩
 rw [cell_of_row _ _ _ _ _ _ hb,Nat.zero_add,Array.getElem?_eq_getElem (by rw [size_madeCells];exact hj)]
 rfl
set_option maxHeartbeats 8000000 in
theorem Sort_any2(p:Option Addr)(n cp:Nat)(L:Nat->Smp)(w:World)(hs:SmsS w p n L)(hn:n<=1048576)(hN:∀i,i<n->(L i).n<=1048576)(hM:∀i,i<n->∀k,k<(L i).n->(L i).M k<=1048576):
  Calls Tryz.prog 28 #[.slice p n cp] w fun e w'=>∃gs G Z,e = .returned (.slice (some ⟨gs,0,none⟩) n n)/\SrtO (nameR (nmS L)) (fun j=>(j:Int)) n G/\(∀i,i<n->(Z i).like (L (G i).toNat))/\SmsS w' (some ⟨gs,0,none⟩) n Z/\Old w w':=by
 have hmk:=make_smps n (by omega) w
 obtain⟨W1,hW1⟩:∃W1,W1=w.alloc (.cells (madeCells zeroSm (n*6)) 90):=⟨_,rfl⟩
 rw [←hW1] at hmk
 have ho1:Old w W1:=by rw [hW1];exact Old.alloc _ _
 have hsw:SrW w.heap.size W1 w.heap.size n 0 L:=by
  refine⟨by rw [hW1];simp,Nat.le_refl _,by rw [hW1];exact made_there _ _ _ _,fun i hi=>by omega,fun i hi=>by omega,fun i hi=>by omega⟩
 have HB:=zH (byName_any p n cp L W1 (hs.old ho1) hn)
 have H0:=zH hsw
 have HO:=zH ho1
 have HS:=zH hs
 have HNM:=zH (And.intro hN hM)
 obtain⟨gs,hgs⟩:∃gs,gs=w.heap.size:=⟨_,rfl⟩
 rw [←hgs] at hmk H0
 have HG:=zH hgs
 clear hsw ho1 hs hN hM hW1 hgs
 go_enter Tryz.func28,Tryz.ntmps28
 go_wp2_with fail
 refine HB.out.mono ?_
 rintro e w1 ⟨go,G,rfl,hsr,hc,hge,ho2⟩
 have HS1:=zH (H0.out.old ho2)
 have HO1:=zH (HO.out.trans ho2)
 have HSR:=zH hsr
 have HC:=zH hc
 have HGO0:Hid (go≠gs):=zH (by have:=H0.out.lt;omega)
 clear hmk HB H0 HO hsr hc hge ho2
 obtain⟨wo,rfl⟩:∃V,V=w1:=⟨_,rfl⟩
 go_wp2_with fail
 have HGO:Hid (go≠gs):=HGO0
 have HK0:=zH (show Kept (butOf wo gs) wo wo from Kept.refl _ _)
 have HGL:=zH HS1.out.lt
 go_loopw [12] (fun iv wr=>∃(k:Nat) (Z:Nat->Smp),k<=n/\iv = .int .i64 k/\Hid (SrW gs wr gs n k Z)/\Hid (∀i,i<k->(Z i).like (L (G i).toNat))/\Hid (Kept (butOf wo gs) wo wr)) (fun i _=>n-(intOf i).toNat)
 case atStart=>exact⟨0,L,Nat.zero_le _,by go_num,HS1,zH fun i hi=>by omega,HK0⟩
 case round=>
  clear HS1 HK0
  obtain⟨k,Z,hk,rfl,HR,HZ,HK⟩:=hrel
  have HOW:=zH (show Old w wr from HO1.out.after HK.out fun q hq=>⟨by have:=HO1.out.size;omega,by have:=HG.out;omega⟩)
  by_cases hkn:k<n
  ·obtain⟨m,hm,hGm⟩:=HSR.out.frm k hkn
   have ck:=(HK.out.cell (a:=⟨go,k,none⟩) ⟨HC.out.lt,HGO.out⟩).trans (HC.out.cell k hkn)
   rw [hGm] at ck
   have hS:=HS.out.old HOW.out
   obtain⟨g,o,rfl,hg,hcs⟩:=hS.cell (by omega)
   have c0:wr.cell? ⟨g,o+m*6,none⟩=some (.string (L m).s):=hcs m hm 0 _ rfl
   have c1:wr.cell? ⟨g,o+m*6+1,none⟩=some (.int .i64 (L m).r):=hcs m hm 1 _ rfl
   have c2:wr.cell? ⟨g,o+m*6+2,none⟩=some (.bool (L m).lp):=hcs m hm 2 _ rfl
   have c3:wr.cell? ⟨g,o+m*6+3,none⟩=some (.int .i64 (L m).a):=hcs m hm 3 _ rfl
   have c4:wr.cell? ⟨g,o+m*6+4,none⟩=some (.int .i64 (L m).b):=hcs m hm 4 _ rfl
   have c5:wr.cell? ⟨g,o+m*6+5,none⟩=some (.slice (L m).p (L m).n (L m).c):=hcs m hm 5 _ rfl
   have HA:=zH (apart_any (L m) wr (hS.ok m hm) (HNM.out.1 m hm) (HNM.out.2 m hm))
   have q0:(0:Int)<=m:=by omega
   have q1:(m:Int)<n:=by omega
   have HGM:Hid ((G k).toNat=m):=zH (by rw [hGm];simp)
   have Hs6:Hid ((Tryz.prog.info? 90).map (·.size)=some 6):=zH (by kernel_rfl)
   clear hcs hS hg hGm
   unfold Smp.val Smp.cells at HA
   go_wp2_with fail
   refine HA.out.mono ?_
   rintro e w2 ⟨S',rfl,hok,hs1,ho2,hin⟩
   have hin':S'.inX (fun q=>gs<q):=hin.mono fun q hq=>by
    have h1:=HR.out.lt
    exact Nat.lt_of_lt_of_le h1 hq
   have hR2:=HR.out.old ho2
   have HTH:=zH (show w2.there gs (k*6) 6 from fun j hj=>by
    have:=hR2.there (k*6+j) (by omega)
    rwa [Nat.zero_add] at this)
   have HP:=zH (hR2.put hkn S' hok hin')
   have HZ2:=zH (show ∀i,i<k+1->((fun i=>if i=k then S' else Z i) i).like (L (G i).toNat) from fun i hi=>by
    by_cases e:i=k
    ·subst e;simp only [if_true];rw [HGM.out];exact hs1
    ·simp only [if_neg e];exact HZ.out i (by omega))
   have HK2:=zH (show Kept (butOf wo gs) wo (w2.setCells gs (k*6) S'.cells.toList) from
    (HK.out.trans (ho2.kept fun q hq=>Nat.lt_of_lt_of_le hq.1 HK.out.size)).trans (Kept.setCells (X:=butOf wo gs) w2 (fun e=>e.2 rfl) _ _))
   have H1:Hid (S'.cells.all (·.oneCell')=true):=zH (by kernel_rfl)
   have H6:Hid (S'.cells.size=6):=zH rfl
   clear HR HA HZ HK hok hs1 ho2 hin hin' hR2 c0 c1 c2 c3 c4 c5 ck HOW
   generalize S'.cells=R at *
   go_wp2_with (with_reducible refine wpList_store_mid rfl 90 _ _ rfl gs (k*6) R rfl rfl (by rw [H6.out];exact HTH.out) (by rw [H6.out];exact Hs6.out) H1.out ?_)
   go_roundw
   case rel=>exact⟨k+1,_,by omega,by go_num,HP,HZ2,HK2⟩
   case measure=>simp [intOf];omega
  ·obtain rfl:k=n:=by omega
   have hend:¬((k:Int)<(k:Int)):=by omega
   have HF:=zH (show SmsS wr (some ⟨gs,0,none⟩) k Z from⟨fun _=>⟨gs,0,rfl,HR.out.lt,fun i hi f v hf=>by rw [Nat.zero_add];exact HR.out.cell i hi f v hf⟩,HR.out.ok⟩)
   clear HR HK
   go_wp2_with fail
   go_ret
   first | exact⟨gs,G,Z,rfl,HSR.out,HZ.out,HF.out,HOW.out⟩ | exact⟨gs,rfl,G,HSR.out,Z,HZ.out,HF.out,HOW.out⟩
def smpsV(Z:Nat->Smp):Nat->List Value
 | 0=>[]
 | k+1=>smpsV Z k ++ (Z k).cells.toList
theorem smpsV_len(Z:Nat->Smp):∀k,(smpsV Z k).length=k*6
 | 0=>rfl
 | k+1=>by show (smpsV Z k ++ (Z k).cells.toList).length=_;rw [List.length_append,smpsV_len Z k,smp_len];omega
theorem smpsV_get(Z:Nat->Smp):∀k i,i<k->∀f v,(Z i).cells[f]?=some v->(smpsV Z k)[i*6+f]?=some v
 | 0,i,h,_,_,_=>by omega
 | k+1,i,h,f,v,hv=>by
  have hf6:f<6:=by
   rcases Nat.lt_or_ge f 6 with h | h
   ·exact h
   ·rw [Array.getElem?_eq_none (by show 6<=f;exact h)] at hv;cases hv
  show (smpsV Z k ++ (Z k).cells.toList)[i*6+f]?=some v
  by_cases e:i=k
  ·subst e
   rw [List.getElem?_append_right (by rw [smpsV_len];omega),smpsV_len,show i*6+f-i*6=f by omega]
   simpa using hv
  ·rw [List.getElem?_append_left (by rw [smpsV_len];omega)]
   exact smpsV_get Z k i (by omega) f v hv
theorem smpsV_congr{Z Y:Nat->Smp} : ∀k,(∀i,i<k->Z i=Y i)->smpsV Z k=smpsV Y k
 | 0,_=>rfl
 | k+1,h=>by show smpsV Z k ++ _=smpsV Y k ++ _;rw [smpsV_congr k fun i hi=>h i (by omega),h k (by omega)]
structure AllSt(w wr:World)(v:Value)(k:Nat)(Z:Nat->Smp):Prop where
 own:ownS (fun q=>q<w.heap.size) wr 90 6 v k (smpsV Z k)
 ok:∀i,i<k->SmOk wr (Z i)/\SmFew (Z i)/\(Z i).inX (fun q=>v.ownBlock≠some q)
 old:Old w wr
theorem AllSt.later{w wr w':World}{v:Value}{k:Nat}{Z:Nat->Smp}(h:AllSt w wr v k Z)(o:Old wr w'):AllSt w w' v k Z:=
 ⟨h.own.old o,fun i hi=>⟨(h.ok i hi).1.old o,(h.ok i hi).2⟩,h.old.trans o⟩
theorem SmOk.inLt{w:World}{S:Smp}(h:SmOk w S):S.inX (fun q=>q<w.heap.size):=
 ⟨fun a h0 ha=>by
  obtain⟨g,o,h1,h2,_⟩:=h.rows.cell h0
  rw [h1] at ha;cases ha;exact h2,fun i hi h0 a ha=>by
  obtain⟨g,o,h1,h2,_⟩:=(h.rows.row i hi).2.2 h0
  rw [h1] at ha;cases ha;exact h2⟩
theorem Smp.inX.and{S:Smp}{X Y:Nat->Prop}(h:S.inX X)(k:S.inX Y):S.inX (fun q=>X q/\Y q):=⟨fun a h0 ha=>⟨h.1 a h0 ha,k.1 a h0 ha⟩,fun i hi h0 a ha=>⟨h.2 i hi h0 a ha,k.2 i hi h0 a ha⟩⟩
theorem AllSt.add{w w1 w2:World}{v v':Value}{k:Nat}{Z:Nat->Smp}{S:Smp}(h:AllSt w w1 v k Z)(hS:SmOk w1 S)(hf:SmFew S)(hin:S.inX (fun q=>v.ownBlock≠some q))
  (h1:ownS (fun q=>q<w1.heap.size/\v.ownBlock≠some q) w2 90 6 v' (k+1) (smpsV Z k ++ S.cells.toList)) (h2:Kept (fun q=>q<w1.heap.size/\v.ownBlock≠some q) w1 w2) (h3:∀q,v'.ownBlock=some q->v.ownBlock=some q\/w1.heap.size<=q):
  AllSt w w2 v' (k+1) (fun i=>if i=k then S else Z i):=by
 have hin':∀T:Smp,SmOk w1 T->T.inX (fun q=>v.ownBlock≠some q)->SmOk w2 T/\T.inX (fun q=>v'.ownBlock≠some q):=fun T hT hi=>by
  have hb:=hT.inLt.and hi
  exact⟨hT.kept h2 hb,hb.mono fun q hq e=>by
   rcases h3 q e with e' | e'
   ·exact hq.2 e'
   ·omega⟩
 refine⟨?_,fun i hi=>?_,?_⟩
 ·show ownS _ w2 _ 6 v' (k+1) (smpsV _ k ++ (if k=k then S else Z k).cells.toList)
  rw [if_pos rfl,smpsV_congr (Y:=Z) k fun i hi=>by rw [if_neg (by omega)]]
  exact h1.mono fun q hq hl=>by
   rcases h3 q hq with e | e
   ·exact h.own.2 q e hl
   ·have:=h.old.size;omega
 ·by_cases e:i=k
  ·rw [if_pos e];exact⟨(hin' S hS hin).1,hf,(hin' S hS hin).2⟩
  ·rw [if_neg e]
   have:=h.ok i (by omega)
   exact⟨(hin' _ this.1 this.2.2).1,this.2.1,(hin' _ this.1 this.2.2).2⟩
 ·exact h.old.after h2 fun q hq=>⟨by have:=h.old.size;omega,fun e=>h.own.2 q e hq⟩
theorem AllSt.sms{w wr:World}{v:Value}{k:Nat}{Z:Nat->Smp}(h:AllSt w wr v k Z):∃p c,v = .slice p k c/\SmsS wr p k Z:=by
 rcases h.own.shape with ⟨hv,h0⟩ | ⟨g,cap,hv,_,hg,_,_,hc⟩
 ·exact⟨none,0,by rw [h0];exact hv,⟨fun hk=>by omega,fun i hi=>(h.ok i hi).1⟩⟩
 ·exact⟨_,cap,hv,⟨fun _=>⟨g,0,rfl,hg,fun i hi f u hu=>by rw [Nat.zero_add];exact hc _ u (smpsV_get Z k i hi f u hu)⟩,fun i hi=>(h.ok i hi).1⟩⟩
theorem news_six(w:World)(cs:Array Value)(t:TypeId):∀(j:Nat) (x:Value),cs.toList[j]?=some x->(w.alloc (.cells cs t)).cell? ((⟨w.heap.size,0,none⟩:Addr).add j)=some x:=fun j x h=>by
 rw [add_plain,Nat.zero_add,cell_of_row _ _ _ _ _ _ (heap_alloc_new _ _)]
 simpa using h
set_option linter.unusedSimpArgs false
def FewsR(w:World)(n:Nat)(L:Nat->Smp)(e:Ending)(w':World):Prop:=∃p c Z,e = .returned (.slice p (min n 8) c)/\SmsS w' p (min n 8) Z/\(∀i,i<min n 8->SmFew (Z i)/\FewOf (L i) (Z i))/\Old w w'
set_option maxHeartbeats 8000000 in
theorem Few15_any(q:Option Addr)(n c:Nat)(L:Nat->Smp)(w:World)(hs:SmsS w q n L):
  Calls Tryz.prog 24 #[.slice q n c] w (FewsR w n L):=by
 obtain⟨ir,hir,hr0,hr1,hr2⟩:=info_parts Tryz.info_smp
 have HS:=zH hs
 have H0:=zH (show AllSt w w (.slice none 0 0) 0 L from⟨ownS.nil _ _ _ _,fun i hi=>by omega,Old.refl w⟩)
 clear hs
 go_enter Tryz.func24,Tryz.ntmps24
 go_wp2_with fail
 go_loopw [3,4] (fun v i wr=>∃(k:Nat) (Z:Nat->Smp),k<=8/\k<=n/\i = .int .i64 k/\Hid (AllSt w wr v k Z)/\Hid (∀i,i<k->FewOf (L i) (Z i))) (fun _ i _=>8-(intOf i).toNat)
 case atStart=>exact⟨0,L,by omega,by omega,by go_num,H0,zH (fun i hi=>by omega)⟩
 case round=>
  clear H0
  obtain⟨k,Z,hk8,hkn,rfl,HA,HFO⟩:=hrel
  go_upto_region 3 with (fail)
  go_cut [12] (fun v wx=>v = .bool (decide (k<n/\k<8))/\wr=wx)
  case first=>
   clear HS HA
   by_cases a1:k<n
   ·by_cases a2:k<8
    ·have He:=zH (show decide (k<n/\k<8)=true from decide_eq_true ⟨a1,a2⟩)
     go_wp2_with fail
     go_meet
     exact⟨by first | (rw [He.out];done) | (rw [He.out];exact congrArg Value.bool (decide_eq_true (by omega))) | (rw [He.out];exact congrArg Value.bool (decide_eq_false (by omega))),rfl⟩
    ·have He:=zH (show decide (k<n/\k<8)=false from decide_eq_false fun h=>a2 h.2)
     go_wp2_with fail
     go_meet
     exact⟨by first | (rw [He.out];done) | (rw [He.out];exact congrArg Value.bool (decide_eq_true (by omega))) | (rw [He.out];exact congrArg Value.bool (decide_eq_false (by omega))),rfl⟩
   ·have He:=zH (show decide (k<n/\k<8)=false from decide_eq_false fun h=>a1 h.1)
    go_wp2_with fail
    go_meet
    exact⟨by first | (rw [He.out];done) | (rw [He.out];exact congrArg Value.bool (decide_eq_true (by omega))) | (rw [He.out];exact congrArg Value.bool (decide_eq_false (by omega))),rfl⟩
  case rest=>
   obtain⟨rfl,rfl⟩:=hcut
   by_cases ha:k<n/\k<8
   ·rw [decide_eq_true ha]
    have h8:=ha.2
    have hn:=ha.1
    clear ha
    have hS:=HS.out.old HA.out.old
    obtain⟨g,o,rfl,hg,hcs⟩:=hS.cell (by omega)
    have c0:wr.cell? ⟨g,o+k*6,none⟩=some (.string (L k).s):=hcs k hn 0 _ rfl
    have c1:wr.cell? ⟨g,o+k*6+1,none⟩=some (.int .i64 (L k).r):=hcs k hn 1 _ rfl
    have c2:wr.cell? ⟨g,o+k*6+2,none⟩=some (.bool (L k).lp):=hcs k hn 2 _ rfl
    have c3:wr.cell? ⟨g,o+k*6+3,none⟩=some (.int .i64 (L k).a):=hcs k hn 3 _ rfl
    have c4:wr.cell? ⟨g,o+k*6+4,none⟩=some (.int .i64 (L k).b):=hcs k hn 4 _ rfl
    have c5:wr.cell? ⟨g,o+k*6+5,none⟩=some (.slice (L k).p (L k).n (L k).c):=hcs k hn 5 _ rfl
    have HF:=zH (Few_any (L k) wr (hS.ok k hn))
    have HIL:=zH (HS.out.ok k hn).inLt
    have q0:(0:Int)<=k:=by omega
    have q1:(k:Int)<n:=by omega
    have dd:decide ((k:Int)<8)=true:=decide_eq_true (by omega)
    unfold Smp.val Smp.cells at HF
    clear hcs hS hg
    go_wp2_with fail
    refine HF.out.mono ?_
    rintro e w1 ⟨S',rfl,hok,hfew,ho,hp,hQ,hn',hM,hfo⟩
    have HFO2:Hid (∀i,i<k+1->FewOf (L i) (if i=k then S' else Z i)):=zH fun i hi=>by
     by_cases e:i=k
     ·rw [if_pos e,e];exact hfo
     ·rw [if_neg e];exact HFO.out i (by omega)
    have hin:S'.inX (fun z=>u3.ownBlock≠some z):=by
     refine⟨fun a h0 ha e=>?_,fun i hi h0 a ha e=>?_⟩
     ·have h1:=hp a h0 ha
      have h2:=HA.out.own.lt _ e
      omega
     ·rw [hQ] at ha
      have h1:=HIL.out.2 i (by omega) (by have:=hM i;omega) a ha
      exact HA.out.own.2 _ e h1
    have HA1:=zH ((HA.out.later ho).later (Old.alloc w1 (.cells S'.cells 90)))
    have HOK:=zH (hok.old (Old.alloc w1 (.cells S'.cells 90)))
    have HFW:=zH hfew
    have HIN:=zH hin
    have HON:=zH (HA1.out.own.mono (Y:=fun z=>z<(w1.alloc (.cells S'.cells 90)).heap.size/\u3.ownBlock≠some z) fun z hz hh=>hh.2 hz)
    have HNW:=zH (news_six w1 S'.cells 90)
    have H1C:Hid (∀u∈S'.cells.toList,u.oneCell'=true):=zH (by
     intro u hu
     have hu':u∈[Value.string S'.s,.int .i64 S'.r,.bool S'.lp,.int .i64 S'.a,.int .i64 S'.b,.slice S'.p S'.n S'.c]:=hu
     simp only [List.mem_cons,List.not_mem_nil,or_false] at hu'
     rcases hu' with rfl | rfl | rfl | rfl | rfl | rfl <;> rfl)
    have HLN:=zH (smp_len S')
    clear hok hfew ho hp hQ hn' hM hfo hin HF HA HFO HIL c0 c1 c2 c3 c4 c5
    unfold Smp.cells at HA1 HOK HON HNW H1C HLN ⊢
    go_wp2_with (at_builtin;refine append_S _ rfl _ _ 22 rfl (fun z=>z<(w1.alloc (.cells #[.string S'.s,.int .i64 S'.r,.bool S'.lp,.int .i64 S'.a,.int .i64 S'.b,.slice S'.p S'.n S'.c] 90)).heap.size/\u3.ownBlock≠some z) 90 ir (.agg #[.string ⟨#[]⟩,.int .i64 0,.bool false,.int .i64 0,.int .i64 0,.slice none 0 0]) 6 72 Tryz.underlying22 hir hr0 hr1 hr2 rfl (by decide) u3 k (smpsV Z k) rfl HON.out ⟨w1.heap.size,0,none⟩ 1 1 [.string S'.s,.int .i64 S'.r,.bool S'.lp,.int .i64 S'.a,.int .i64 S'.b,.slice S'.p S'.n S'.c] rfl HLN.out HNW.out H1C.out (by unfold maxLen;omega) (by omega) (fun z hz=>hz.1) ?_;intro v' w2 hown2 hk2 hnb;have HA2:=zH (AllSt.add (S:=S') (w1:=w1.alloc (.cells #[.string S'.s,.int .i64 S'.r,.bool S'.lp,.int .i64 S'.a,.int .i64 S'.b,.slice S'.p S'.n S'.c] 90)) HA1.out HOK.out HFW.out HIN.out hown2 hk2 hnb);clear hown2 hk2 hnb HA1 HOK HFW HIN HON HNW)
    go_roundw
    case rel=>exact⟨k+1,_,by omega,by omega,by go_num,HA2,HFO2⟩
    case measure=>simp [intOf];omega
   ·rw [decide_eq_false ha]
    obtain⟨p',c',hv,hsm⟩:=HA.out.sms
    subst hv
    have hkm:k=min n 8:=by omega
    have HE:Hid (FewsR w n L (.returned (.slice p' k c')) wr):=⟨p',c',Z,by rw [←hkm],by rw [←hkm];exact hsm,fun i hi=>⟨(HA.out.ok i (by omega)).2.1,HFO.out i (by omega)⟩,HA.out.old⟩
    clear ha hkm HFO HA HS hsm hir hr0 hr1 hr2 hkn
    go_wp2_with fail
    go_ret
    exact HE.out
def noSmp:Smp:=⟨⟨#[]⟩,0,false,0,0,none,0,0,fun _=>none,fun _=>0,fun _=>0,fun _ _=>0⟩
open Go.Deep in
theorem open_samples{H:Type}{enc:TypeId × Value->H}{W:World}{base:Nat}{v:Value}{d:DataW H}{p:List MemPlace}
  (hv:Value.okWide Tryz.prog W .any base 22 v) (h:DataW.Trod enc Tryz.prog W 0 (fun _=>true) true 22 v d p) (hlt:∀x∈p,x.block<W.heap.size):
  ∃q n cap L,v = .slice q n cap/\n<=cap/\cap<=maxLen/\SmsS W q n L:=by
 obtain⟨a0,len,cap,rfl⟩:=okWide_slice Tryz.underlying22 hv
 obtain⟨fuel,hf⟩:=h
 rcases open_slice Tryz.underlying22 hf with ⟨hcs,_⟩ | ⟨a,len',cap',m,k,D,Pl,hcs,_,hl,hm,hmm,hx,hi⟩
 ·simp [Value.cells] at hcs
  obtain⟨rfl,rfl,rfl⟩:=hcs
  exact⟨none,0,0,fun _=>noSmp,rfl,Nat.le_refl _,Nat.zero_le _,⟨fun h=>by omega,fun i hi=>by omega⟩⟩
 ·simp [Value.cells] at hcs
  obtain⟨rfl,rfl,rfl⟩:=hcs
  simp only [if_true] at hmm
  subst hmm
  have sm:∀i,i<m->∃S:Smp,(∀f v,S.cells[f]?=some v->W.cell? (a.add (i*6+f))=some v)/\SmOk W S:=by
   intro i him
   obtain⟨cs,hc,hd⟩:=hi i him
   rw [cells_sample] at hc
   obtain⟨_,hcl,hat⟩:=World.cells?_some hc
   obtain⟨S,e,hS⟩:=sample_of_trod hcl hd
   refine⟨S,fun f v hfv=>?_,hS⟩
   have hf6:f<6:=by
    rcases Nat.lt_or_ge f 6 with h | h
    ·exact h
    ·rw [Array.getElem?_eq_none (by show 6<=f;exact h)] at hfv;cases hfv
   rw [←Go.Deep.add_add,hat f (by omega),e]
   simpa using hfv
  refine⟨some a,len,m,fun i=>if h:i<m then(sm i h).choose else noSmp,rfl,hl,hm,⟨fun hn=>?_,fun i hin=>?_⟩⟩
  ·obtain⟨S0,h0,_⟩:=sm 0 (by omega)
   have hx0:W.cell? (a.add 0)=some (.string S0.s):=h0 0 _ rfl
   obtain⟨b,off,rfl,hb⟩:=spot_none hx0
   refine⟨b,off,rfl,hb,fun i hin f v hfv=>?_⟩
   rw [dif_pos (by omega)] at hfv
   have:=(sm i (by omega)).choose_spec.1 f v hfv
   rw [add_plain,←Nat.add_assoc] at this
   exact this
  ·rw [dif_pos (by omega)]
   exact(sm i (by omega)).choose_spec.2
end Go.Proofs.YtgefdmfcddpaiaaGreatDoor
