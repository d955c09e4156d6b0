/- Texts joined: CacheF, CacheG, CacheH, ClnP. -/
import Derived.Test.YtjakgghbdojlbaaGreatDoorPkAS
import Derived.Test.YtjakgghbdojlbaaGreatDoorPkBF
import Derived.Test.YtjakgghbdojlbaaGreatDoorTk
namespace Go.Proofs.YtjakgghbdojlbaaGreatDoor
set_option linter.unusedVariables false
set_option maxRecDepth 100000
open Go.RowKit Go.ChangeShapes Go.WideShapes
def Cch.empty(c:Cch):Cch:={ c with S:=fun _=>none }
def pgV(S:Nat->Option Slt)(i:Nat):Int:=match S i with | some s=>(s.p:Int) | none=>-1
structure PgR(w:World)(S:Nat->Option Slt)(g n i:Nat)(wr:World):Prop where
 at_:∃F,CellsAt wr g n F/\∀j,j<i->F j=pgV S j
 old:Old w wr
def spanF(at_ n:Nat):Nat->Cch->Dsk->Nat->(Nat->Int)->Tkn
 | 0,c,d,len,B=>⟨some B,c,d⟩
 | f+1,c,d,len,B=>
  if len<n then
   match takeR c d ((at_+len)/64) with
   | ⟨none,c',d'⟩=>⟨none,c',d'⟩
   | ⟨some G,c',d'⟩=>spanF at_ n f c' d' (len+Nat.min (64-(at_+len)%64) (n-len)) (fun j=>if j<len then B j else G ((at_+len)%64+(j-len)))
  else⟨some B,c,d⟩
def spanR(c:Cch)(d:Dsk)(at_ n:Nat):Tkn:=spanF at_ n n c d 0 (fun _=>0)
theorem spanF_end{at_ n len:Nat}(h:n<=len)(f:Nat)(c:Cch)(d:Dsk)(B:Nat->Int):spanF at_ n f c d len B=⟨some B,c,d⟩:=by
 cases f with
 | zero=>rfl
 | succ f=>unfold spanF;rw [if_neg (by omega)]
theorem spanF_lost{at_ n len:Nat}(h:len<n)(f:Nat)(c c':Cch)(d d':Dsk)(B:Nat->Int)(ht:takeR c d ((at_+len)/64)=⟨none,c',d'⟩):spanF at_ n (f+1) c d len B=⟨none,c',d'⟩:=by
 unfold spanF
 rw [if_pos h,ht]
theorem spanF_had{at_ n len:Nat}(h:len<n)(f:Nat)(c c':Cch)(d d':Dsk)(B G:Nat->Int)(ht:takeR c d ((at_+len)/64)=⟨some G,c',d'⟩):spanF at_ n (f+1) c d len B=spanF at_ n f c' d' (len+Nat.min (64-(at_+len)%64) (n-len)) (fun j=>if j<len then B j else G ((at_+len)%64+(j-len))):=by
 rw [spanF,if_pos h,ht]
def SpanRes(base:Nat)(w':World)(n:Nat)(r:Option (Nat->Int))(e:Ending):Prop:=
 match r with
 | none=>e = .returned (.tuple #[.slice none 0 0,.int .i64 8])
 | some G=>∃q c,e = .returned (.tuple #[.slice q n c,.int .i64 0])/\n<=c/\c<=maxLen/\SlU w' q n G/\∀a,0<n->q=some a->base<=a.block
theorem made_u8c(n:Nat):madeCells (Value.int .u8 0:Value).cells n=rowN n (bU fun _=>0):=
 made_rowU n (Value.int .u8 0:Value).cells (by decide) fun j hj=>by
  have h1:(Value.int .u8 0:Value).cells=#[.int .u8 0]:=rfl
  rw [h1] at hj ⊢
  have:j=0:=by simp at hj;omega
  subst this;rfl
theorem make_u8c(n:Nat)(hn:n<=1099511627776)(w:World):(Instr.makeSlice 24 (.int .i64 0) (.int .i64 n)).run Tryz.prog w = .ok (.slice (some ⟨w.heap.size,0,none⟩) 0 n) (w.alloc (.cells (rowN n (bU fun _=>0)) 5)):=by
 obtain⟨i,hi,hz0,hz1,hz2⟩:=info_parts Tryz.info_u8c
 rw [run_make w _ _ i _ Tryz.underlying24 hi hz0 .i64 .i64 0 n (by omega) (by omega) (by rw [hz2];omega) (by omega),hz1,Int.toNat_natCast,Nat.mul_one,made_u8c]
 rfl
theorem own_madeX(w:World)(n:Nat)(hn:n<=1099511627776):ownX (fun q=>q<w.heap.size) (w.alloc (.cells (rowN n (bU fun _=>0)) 5)) 5 (.slice (some ⟨w.heap.size,0,none⟩) 0 n) 0 (u8L (fun _=>0) 0):=by
 refine⟨⟨by simp [u8L,lst],.inr ⟨w.heap.size,n,rowN n (bU fun _=>0),rfl,Nat.zero_le _,heap_alloc_new _ _,Nat.zero_le _,by unfold maxLen;omega,by rw [rowN_size];omega,by simp [u8L,lst]⟩⟩,fun k hk=>?_⟩
 have:k=w.heap.size:=by simpa [Value.ownBlock,eq_comm] using hk
 omega
theorem cSpan_out(z0 z av b sb hm db dm:Nat)(p:Option Addr)(cd N:Nat)(at_ n:Int)(c:Cch)(d:Dsk)(w:World)(h:CkAt w z0 z av b sb hm db dm p cd N c d)(hi:at_<0\/n<0\/64*(N:Int)-at_<n)(h63:at_<=9223372036854775807):Calls Tryz.prog 28 #[.pointer (some ⟨b,0,none⟩),.int .i64 at_,.int .i64 n] w fun e w'=>
  e = .returned (.tuple #[.slice none 0 0,.int .i64 5])/\w=w':=by
 obtain⟨_,_,_,_,c4,_,_,_,_⟩:=h.cc.cells
 have hN:=h.cc.num.2.2.2.2
 have H:=zH (cMade_yes b db w c4)
 have HP:=zH (Pages_at db dm p cd d w h.dk)
 rw [h.nN] at HP
 by_cases h0:at_<0
 ·clear h hi
  go_enter Tryz.func28,Tryz.ntmps28
  go_wp2_with fail
  refine H.out.mono ?_
  rintro e w' ⟨rfl,rfl⟩
  clear H
  go_wp2_with fail
  go_ret2
  exact⟨rfl,rfl⟩
 ·by_cases h1:n<0
  ·clear h hi
   go_enter Tryz.func28,Tryz.ntmps28
   go_wp2_with fail
   refine H.out.mono ?_
   rintro e w' ⟨rfl,rfl⟩
   clear H
   go_wp2_with fail
   go_ret2
   exact⟨rfl,rfl⟩
  ·have h2:64*(N:Int)-at_<n:=by omega
   have t1:wrap64 ((N:Int)*64)=64*(N:Int):=by rw [IntWalk.wrap64_in _ (by omega)];omega
   have t2:wrap64 (64*(N:Int)-at_)=64*(N:Int)-at_:=IntWalk.wrap64_in _ (by omega)
   clear h hi
   go_enter Tryz.func28,Tryz.ntmps28
   go_wp2_with fail
   refine H.out.mono ?_
   rintro e w' ⟨rfl,rfl⟩
   clear H
   go_wp2_with fail
   refine HP.out.mono ?_
   rintro e w' ⟨rfl,rfl⟩
   clear HP
   go_wp2_with fail
   go_ret2
   exact⟨rfl,rfl⟩
theorem SlotsAt.keptA{w w':World}{sb n z av:Nat}{S:Nat->Option Slt}{X:Nat->Prop}(h:SlotsAt w sb n z av S)(k:Kept X w w')(hb:X sb)(hz:∀g,z<=g->g≠av->g<w.heap.size->X g){q:Nat}(hq:q=av\/w.heap.size<=q):SlotsAt w' sb n z q S:=by
 obtain⟨gs,h1,h2⟩:=h
 refine⟨gs,h1.kept k hb,fun i hi s hs=>?_⟩
 obtain⟨h3,h4⟩:=h2 i hi s hs
 obtain⟨g,o,e1,e2,_⟩:=h4 (by omega)
 cases e1
 exact⟨⟨h3.1,by have:=h3.2;omega⟩,h4.kept k fun a _ ha=>by cases ha;exact hz _ h3.1 h3.2 e2⟩
theorem CkAt.keptA{w w':World}{z0 z av b sb hm db dm cd N:Nat}{p:Option Addr}{c:Cch}{d:Dsk}{X:Nat->Prop}(h:CkAt w z0 z av b sb hm db dm p cd N c d)(k:Kept X w w')(hX:∀q,q<w.heap.size->q=b\/q=sb\/q=hm\/q=db\/q=dm\/q<z0\/(z<=q/\q≠av)->X q){q:Nat}(hq:q=av\/w.heap.size<=q):CkAt w' z0 z q b sb hm db dm p cd N c d:=by
 have h1:=h.kept k hX
 exact⟨⟨h1.cc.blk,h1.cc.num,h.cc.slots.keptA k (hX _ h.cc.slots.lt (by simp)) (fun g g1 g1' g2=>hX g g2 (by simp [g1,g1'])) hq,h1.cc.map,h1.cc.pgs,h1.cc.uq,h1.cc.rng⟩,h1.dk,h1.nN,h1.lo,h1.hi⟩
theorem quo64{pl k:Nat}(h:pl<=16777216)(hk:k=pl/64):wrap64 ((pl:Int).tdiv 64)=k/\(pl:Int)/64=k:=by
 have e:(pl:Int)/64=k:=by omega
 exact⟨by rw [tdiv_pos _ _ (by omega),e,IntWalk.wrap64_in _ (by omega)],e⟩
theorem rem64{pl o:Nat}(ho:o=pl%64):wrap64 ((pl:Int).tmod 64)=o/\(pl:Int)%64=o:=by
 have e:(pl:Int)%64=o:=by omega
 exact⟨by rw [Int.tmod_eq_emod_of_nonneg (by omega),e,IntWalk.wrap64_in _ (by omega)],e⟩
theorem span_nums(at_ len n N:Nat)(h1:at_+n<=64*N)(h2:N<=65536)(h3:len<n):∃pl k o r nl m:Nat,(pl=at_+len/\k=pl/64/\o=pl%64/\m=Nat.min r nl/\r=64-o/\nl=n-len)/\(k<N/\o<64/\1<=m/\len+m<=n/\m<=r/\r<=64) /\
  (pl<=16777216/\((at_:Int)+(len:Int))/64=k)/\((at_:Int)+(len:Int))%64=o/\min (r:Int) ((n:Int)-(len:Int))=m:=by
 refine⟨at_+len,(at_+len)/64,(at_+len)%64,64-(at_+len)%64,n-len,Nat.min (64-(at_+len)%64) (n-len),⟨rfl,rfl,rfl,rfl,rfl,rfl⟩,?_,⟨by omega,?_⟩,?_,?_⟩
 ·have h4:(at_+len)/64<N:=by omega
  have h5:(at_+len)%64<64:=Nat.mod_lt _ (by omega)
  generalize (at_+len)%64=o at *
  refine⟨h4,h5,?_,?_,Nat.min_le_left _ _,by omega⟩
  ·exact Nat.le_min.2 ⟨by omega,by omega⟩
  ·show len+min (64-o) (n-len)<=n
   omega
 ·have:=(quo64 (pl:=at_+len) (by omega) rfl).2
  rw [←this];rfl
 ·have:=(rem64 (pl:=at_+len) rfl).2
  rw [←this];rfl
 ·rw [show (n:Int)-(len:Int)=((n-len:Nat):Int) by omega]
  generalize 64-(at_+len)%64=r
  generalize n-len=nl
  show min (r:Int) (nl:Int)=((min r nl:Nat):Int)
  omega
def sLen:Value->Nat
 | .slice _ l _=>l
 | _=>0
structure SpnR(w:World)(z0 z b sb hm db dm:Nat)(p:Option Addr)(cd N at_ n:Nat)(R:Tkn)(len go cap:Nat)(wr:World):Prop where
 ex:∃B cur dc f,ownX (fun q=>q<w.heap.size) wr 5 (.slice (some ⟨go,0,none⟩) len cap) len (u8L B len)/\n-len<=f/\spanF at_ n f cur dc len B=R/\CkAt wr z0 z go b sb hm db dm p cd N cur dc
 kp:Kept (butK w b sb hm db dm) w wr
set_option pp.deepTerms true in
set_option maxHeartbeats 1000000 in
theorem cSpan_any(z0 z av b sb hm db dm:Nat)(p:Option Addr)(cd N at_ n:Nat)(c:Cch)(d:Dsk)(w:World)(h:CkAt w z0 z av b sb hm db dm p cd N c d)(hn:at_+n<=64*N)(hav:av<z):Calls Tryz.prog 28 #[.pointer (some ⟨b,0,none⟩),.int .i64 (at_:Int),.int .i64 (n:Int)] w fun e w'=>
  SpanRes w.heap.size w' n (spanR c d at_ n).r e/\CkAt w' z0 z av b sb hm db dm p cd N (spanR c d at_ n).c (spanR c d at_ n).d/\Kept (butK w b sb hm db dm) w w':=by
 obtain⟨_,_,_,_,c4,_,_,_,_⟩:=h.cc.cells
 have hN:=h.cc.num.2.2.2.2
 have H:=zH (cMade_yes b db w c4)
 have HP:=zH (Pages_at db dm p cd d w h.dk)
 rw [h.nN] at HP
 have t1:wrap64 ((N:Int)*64)=64*(N:Int):=by rw [IntWalk.wrap64_in _ (by omega)];omega
 have t2:wrap64 (64*(N:Int)-at_)=64*(N:Int)-at_:=IntWalk.wrap64_in _ (by omega)
 have hM:=make_u8c n (by omega) w
 obtain⟨R,hR⟩:∃R,R=spanR c d at_ n:=⟨_,rfl⟩
 rw [←hR]
 have hrn:=h.cc.rng
 have hlo:=h.lo
 have hhi:=h.hi
 have H0:Hid (SpnR w z0 z b sb hm db dm p cd N at_ n R 0 w.heap.size n (w.alloc (.cells (rowN n (bU fun _=>0)) 5))):=
  ⟨⟨fun _=>0,c,d,n,own_madeX w n (by omega),by omega,hR.symm,(h.reav (q:=w.heap.size) (.inl (Nat.le_refl _))).old (Old.alloc _ _)⟩,(Old.alloc _ _).kept fun q hq=>hq.1⟩
 have HB:=zH (And.intro hrn (And.intro hlo (And.intro hhi (And.intro hav (And.intro hn hN)))))
 have hd1:¬(64*(N:Int)-at_<n):=by omega
 have hat1:at_<=4194304:=by omega
 have hn1:n<=4194304:=by omega
 clear h hR hrn hlo hhi hav hn hN
 go_enter Tryz.func28,Tryz.ntmps28
 go_wp2_with fail
 refine H.out.mono ?_
 rintro e w' ⟨rfl,rfl⟩
 clear H
 go_wp2_with fail
 refine HP.out.mono ?_
 rintro e w' ⟨rfl,rfl⟩
 clear HP
 go_wp2_with fail
 clear t1 t2 hM hd1
 go_loopw [8] (fun s8 wr=>∃len go cap:Nat,len<=n/\s8 = .slice (some ⟨go,0,none⟩) len cap/\Hid (SpnR w z0 z b sb hm db dm p cd N at_ n R len go cap wr)) (fun s8 _=>n-sLen s8)
 case atStart=>exact⟨0,w.heap.size,n,by omega,rfl,H0⟩
 case round=>
  obtain⟨len,go,cap,hlen,rfl,HI⟩:=hrel
  clear H0
  by_cases hlt:len<n
  ·obtain⟨B,cur,dc,f,how,hf,hsp,hck⟩:=HI.out.ex
   obtain⟨pl,k,o,r,nl,m,q1,q2,⟨hpl2,p2'⟩,q4,q6⟩:=span_nums at_ len n N HB.out.2.2.2.2.1 HB.out.2.2.2.2.2 hlt
   have hgo:w.heap.size<=go:=by
    have:=how.2 go rfl
    omega
   have hgl:go<wr.heap.size:=how.lt go rfl
   have hf1:∃f',f=f'+1:=⟨f-1,by clear p2' q4 q6 q1 q2;omega⟩
   obtain⟨f',rfl⟩:=hf1
   have HT:=zH (cTake_any z0 z go b sb hm db dm p cd N k cur dc wr hck q2.1 hgl)
   have HQ:=zH (And.intro how (And.intro hsp (And.intro hgo (And.intro hgl hf))))
   have HN1:=zH q1
   have HN2:=zH q2
   have HN4:=zH q4
   have HN6:=zH q6
   obtain⟨T,hT⟩:∃T,T=takeR cur dc k:=⟨_,rfl⟩
   rw [←hT] at HT
   have HTe:=zH hT
   clear how hsp hgo hgl hck hf hT q1 q2 q4 q6
   go_wp2_with fail
   refine HT.out.mono ?_
   intro e w2 hh
   clear HT
   obtain⟨tr,c',d'⟩:=T
   dsimp only at hh
   obtain⟨he,hat,hkk⟩:=hh
   cases tr with
   | none=>
    have he':e = .returned (.tuple #[.slice none 0 0,.int .i64 8]):=he
    subst he'
    have HE:Hid (SpanRes w.heap.size w2 n R.r (.returned (.tuple #[.slice none 0 0,.int .i64 8]))/\CkAt w2 z0 z av b sb hm db dm p cd N R.c R.d/\Kept (butK w b sb hm db dm) w w2):=by
     obtain⟨_,q2,_,_,_⟩:=HQ.out
     obtain⟨e1,e2,_⟩:=HN1.out
     rw [←q2,spanF_lost hlt f' cur c' dc d' B (by rw [←e1,←e2];exact HTe.out.symm)]
     exact⟨rfl,hat.reav (.inr HB.out.2.2.2.1),HI.out.kp.trans (hkk.mono fun q hq=>⟨Nat.lt_of_lt_of_le hq.1 HI.out.kp.size,hq.2⟩)⟩
    clear hat hkk he HI
    go_wp2_with fail
    go_ret2
    exact HE.out
   | some G=>
    obtain⟨g,rfl,_,_,hsl⟩:=(show ∃g,e = .returned (.tuple #[.slice (some ⟨g,0,none⟩) 64 64,.int .i64 0])/\z<=g/\g<w2.heap.size/\SlU w2 (some ⟨g,0,none⟩) 64 G from he)
    clear he p2'
    have p3:=HN4.out
    have h64:=HN1.out.2.2.2.2.1
    have hS2:∀W,(Instr.sliceAt 24 (.slice (some ⟨g,0,none⟩) 64 64) (some (.int .i64 (((at_:Int)+(len:Int))%64))) none none).run Tryz.prog W = .ok (.slice (some ⟨g,o,none⟩) r r) W:=fun W=>by
     rw [p3]
     have:=slice_lo (P:=Tryz.prog) (t:=24) Tryz.u8s_under Tryz.u8s_elem g 0 64 64 o HN2.out.2.1 (by omega) (o:Int) rfl W
     rw [Nat.zero_add,←h64] at this
     exact this
    clear h64 p3
    have hmr:m<=r:=HN2.out.2.2.2.2.1
    have hm1:1<=m:=HN2.out.2.2.1
    have hmn:len+m<=n:=HN2.out.2.2.2.1
    have HR:=zH (And.intro hmr (And.intro hm1 hmn))
    have HOwn:Hid (ownX (fun q=>q<w2.heap.size/\q≠go) w2 5 (.slice (some ⟨go,0,none⟩) len cap) len (u8L B len)):=zH (by
     have h9:=HQ.out.1.kept hkk (fun q hq=>(by
      cases hq
      obtain⟨⟨⟨_,r1⟩,⟨_,r2⟩,⟨_,r3⟩,_⟩,⟨l1,l2,_⟩,hh,_⟩:=HB.out
      have h8:=HQ.out.2.2.1
      have h7:=HQ.out.2.2.2.1
      have r0:=HB.out.1.1.1
      show go<wr.heap.size/\go≠b/\go≠sb/\go≠hm/\go≠db/\go≠dm
      exact⟨h7,by omega,by omega,by omega,by omega,by omega⟩))
     exact h9.mono fun q hq=>(by cases hq;simp))
    have HSl:Hid (SlU w2 (some ⟨g,o,none⟩) m (fun j=>G (o+j))):=zH fun _=>(by
     obtain⟨g',o',e1,e2,e3⟩:=hsl (by omega)
     cases e1
     have ho64:=HN2.out
     have hr64:=HN1.out.2.2.2.2.1
     exact⟨g,o,rfl,e2,fun j hj=>by have:=e3 (o+j) (by omega);rw [Nat.zero_add] at this;exact this⟩)
    obtain⟨i0,hi0,hz0,hz1,hz2⟩:=info_parts Tryz.info_u8c
    have HEnd:Hid (∀v' w3,ownX (fun q=>q<w2.heap.size/\q≠go) w3 5 v' (len+m) (u8L (fun j=>if j<len then B j else(fun j=>G (o+j)) (j-len)) (len+m))->Kept (fun q=>q<w2.heap.size/\q≠go) w2 w3->(∀k,v'.ownBlock=some k->(Value.slice (some ⟨go,0,none⟩) len cap).ownBlock=some k\/w2.heap.size<=k) ->
      ∃go' cap',v' = .slice (some ⟨go',0,none⟩) (len+m) cap'/\Hid (SpnR w z0 z b sb hm db dm p cd N at_ n R (len+m) go' cap' w3)):=by
     intro v' w3 h1 h2 h3
     obtain⟨k1,k2,k3,k4,k5⟩:=HQ.out
     obtain⟨e1,e2,e3,e4,e5,e6⟩:=HN1.out
     rcases h1.shape with ⟨_,h0⟩ | ⟨go',cap',rfl,hx,hg',_⟩
     ·omega
     ·have h4:go'=go\/w2.heap.size<=go':=by
       rcases h3 go' rfl with h | h
       ·left;have h':some go=some go':=h;cases h';rfl
       ·exact .inr h
      have h5:w.heap.size<=w2.heap.size:=Nat.le_trans HI.out.kp.size hkk.size
      refine⟨go',cap',rfl,⟨⟨_,c',d',f',h1.mono fun q hq=>(by have hq':some go'=some q:=hq;cases hq';omega),by omega,?_,?_⟩,?_⟩⟩
      ·rw [←k2,spanF_had hlt f' cur c' dc d' B G (by rw [←e1,←e2];exact HTe.out.symm),←e1,←e3,←e5,←e6]
       show spanF at_ n f' c' d' (len+m) _=spanF at_ n f' c' d' (len+Nat.min r nl) _
       rw [←e4]
      ·refine hat.keptA h2 (fun q hq hq2=>⟨hq,?_⟩) h4
       obtain⟨⟨⟨_,r1⟩,⟨_,r2⟩,⟨_,r3⟩,_⟩,⟨l1,l2,_⟩,hh,_⟩:=HB.out
       have r0:=HB.out.1.1.1
       omega
      ·exact(HI.out.kp.trans (hkk.mono fun q hq=>⟨Nat.lt_of_lt_of_le hq.1 HI.out.kp.size,hq.2⟩)).trans (h2.mono fun q hq=>⟨Nat.lt_of_lt_of_le hq.1 h5,by have:=hq.1;omega⟩)
    have hcase:(m=r/\r<=n-len)\/(m=n-len/\n-len<r):=by
     have e4:=HN1.out.2.2.2.1
     have e6:=HN1.out.2.2.2.2.2
     rw [e4,e6]
     show (min r (n-len)=r/\_)\/(min r (n-len)=n-len/\_)
     omega
    have HI2:=HI
    clear hmr hsl hm1 hmn hat hkk HI HI2
    rcases hcase with ⟨rfl,hc⟩ | ⟨rfl,hc⟩
    ·go_wp2_with (at_builtin;refine append_U _ rfl _ _ 24 rfl (fun q=>q<w2.heap.size/\q≠go) 5 i0 Tryz.underlying24 hi0 hz0 hz1 hz2 _ len B rfl HOwn.out (some ⟨g,o,none⟩) m m (fun j=>G (o+j)) rfl HSl.out (by have:=HR.out;omega) (fun q hq=>hq.1) ?_;intro v' w3 how3 hk3 hv3;have HE3:=zH (HEnd.out v' w3 how3 hk3 hv3);clear how3 hk3 hv3)
     obtain⟨go',cap',rfl,HS3⟩:=HE3.out
     go_roundw
     case rel=>exact⟨len+m,go',cap',HR.out.2.2,rfl,HS3⟩
     case measure=>(show n-(len+m)<n-len);have:=HR.out;omega
    ·go_wp2_with (at_builtin;refine append_U _ rfl _ _ 24 rfl (fun q=>q<w2.heap.size/\q≠go) 5 i0 Tryz.underlying24 hi0 hz0 hz1 hz2 _ len B rfl HOwn.out (some ⟨g,o,none⟩) (n-len) r (fun j=>G (o+j)) rfl HSl.out (by have:=HR.out;omega) (fun q hq=>hq.1) ?_;intro v' w3 how3 hk3 hv3;have HE3:=zH (HEnd.out v' w3 how3 hk3 hv3);clear how3 hk3 hv3)
     obtain⟨go',cap',rfl,HS3⟩:=HE3.out
     go_roundw
     case rel=>exact⟨len+(n-len),go',cap',HR.out.2.2,rfl,HS3⟩
     case measure=>(show n-(len+(n-len))<n-len);have:=HR.out;omega
  ·obtain rfl:len=n:=by omega
   have HE:Hid (SpanRes w.heap.size wr len R.r (.returned (.tuple #[.slice (some ⟨go,0,none⟩) len cap,.int .i64 0]))/\CkAt wr z0 z av b sb hm db dm p cd N R.c R.d/\Kept (butK w b sb hm db dm) w wr):=by
    obtain⟨B,cur,dc,f,how,_,hsp,hck⟩:=HI.out.ex
    rw [←hsp,spanF_end (Nat.le_refl _)]
    obtain⟨p',c',e1,e2,e3,e4,e5⟩:=how.bytes
    simp only [Value.slice.injEq] at e1
    obtain⟨rfl,_,rfl⟩:=e1
    exact⟨⟨_,_,rfl,e2,e3,e4,fun a hn ha=>by
     obtain⟨g,h1,h2,_⟩:=e5 hn
     rw [h1] at ha
     cases ha
     exact Nat.not_lt.1 h2⟩,hck.reav (.inr HB.out.2.2.2.1),HI.out.kp⟩
   clear HI
   go_wp2_with fail
   go_ret2
   exact HE.out
def ClnC(I:Nat->Int)(S:Nat->Option Slt):Prop:=∀i s,S i=some s->∀j,j<64->s.G j=I (s.p*64+j)
structure ClnD(I:Nat->Int)(N:Nat)(d:Dsk):Prop where
 f:∀k,d.F k=Flt.z
 g:d.G=I
 n:d.N=N
theorem ClnD.more{I:Nat->Int}{N:Nat}{d:Dsk}(h:ClnD I N d):ClnD I N d.more:=⟨h.f,h.g,h.n⟩
theorem setM_cln{I:Nat->Int}{S:Nat->Option Slt}(h:ClnC I S)(i:Nat)(b:Bool):ClnC I (setM S i b):=by
 intro j s hs q hq
 obtain⟨t,h1,h2,h3⟩:=setM_G S i b j s hs
 rw [h2,h3]
 exact h j t h1 q hq
theorem upd_cln{I:Nat->Int}{S:Nat->Option Slt}(h:ClnC I S)(i:Nat)(s:Option Slt)(hs:∀t,s=some t->∀j,j<64->t.G j=I (t.p*64+j)):ClnC I (updS S i s):=by
 intro j t ht q hq
 unfold updS at ht
 split at ht
 ·exact hs t ht q hq
 ·exact h j t ht q hq
theorem same_cln{I:Nat->Int}{c c':Cch}(h:ClnC I c.S)(k:Same c c'):ClnC I c'.S:=by
 intro j s hs q hq
 obtain⟨t,h1,h2,h3⟩:=k.G j s hs
 rw [h2,h3]
 exact h j t h1 q hq
theorem take_clean{I:Nat->Int}{N k:Nat}{c:Cch}{d:Dsk}(hc:ClnC I c.S)(hd:ClnD I N d)(hb:Byt d.G (d.N*64))(hk:k<N):∃G c' d',takeR c d k=⟨some G,c',d'⟩/\(∀j,j<64->G j=I (k*64+j))/\ClnC I c'.S/\ClnD I N d':=by
 cases hf:fnd c.S k c.n with
 | some i=>
  obtain⟨_,s,hs,hp⟩:=(show i<c.n/\∃s,c.S i=some s/\s.p=k from⟨(fnd_some hf).1,hasS_iff.1 (fnd_some hf).2⟩)
  refine⟨s.G,c.hit i,d,takeR_hit hf hs,fun j hj=>?_,setM_cln hc i true,hd⟩
  rw [hc i s hs j hj,hp]
 | none=>
  have hz:=hd.f k
  have ht:=tryN_ok (k:=k) (d:=d) (by rw [hz];rfl) c.rt c.t
  have hg:∀j,j<64->readF d k j=I (k*64+j):=fun j hj=>by
   rw [readF_z (by rw [hd.n];exact hk) hb hz j hj,hd.g]
  refine⟨readF d k,_,d.more,takeR_had hf ht,hg,?_,hd.more⟩
  show ClnC I (updS _ _ _)
  refine upd_cln (same_cln (c:=c.miss.tried (wrap64 (c.t+1))) hc (chs_same _ _)) _ _ fun t e=>?_
  cases e
  exact hg
theorem span_cleanF{I:Nat->Int}{N at_ n:Nat}(hn:at_+n<=64*N)(hI:Byt I (N*64)):∀(f:Nat) (c:Cch) (d:Dsk) (len:Nat) (B:Nat->Int),n-len<=f->ClnC I c.S->ClnD I N d->(∀j,j<len->B j=I (at_+j)) ->
  ∃B' c' d',spanF at_ n f c d len B=⟨some B',c',d'⟩/\(∀j,j<n->B' j=I (at_+j))/\ClnC I c'.S/\ClnD I N d'
 | 0,c,d,len,B,hf,hc,hd,hB=>⟨B,c,d,rfl,fun j hj=>hB j (by omega),hc,hd⟩
 | f+1,c,d,len,B,hf,hc,hd,hB=>by
  by_cases hl:len<n
  ·have hk:(at_+len)/64<N:=by omega
   obtain⟨G,c',d',h1,h2,h3,h4⟩:=take_clean hc hd (by rw [hd.g,hd.n];exact hI) hk
   rw [spanF_had hl f c c' d d' B G h1]
   have hm:1<=min (64-(at_+len)%64) (n-len):=by omega
   refine span_cleanF hn hI f c' d' _ _ ?_ h3 h4 fun j hj=>?_
   ·show n-(len+min (64-(at_+len)%64) (n-len))<=f
    omega
   ·have hj':j<len+min (64-(at_+len)%64) (n-len):=hj
    by_cases e:j<len
    ·rw [if_pos e];exact hB j e
    ·rw [if_neg e,h2 _ (by omega)]
     congr 1
     omega
  ·rw [spanF_end (by omega)]
   exact⟨B,c,d,rfl,fun j hj=>hB j (by omega),hc,hd⟩
theorem span_clean{I:Nat->Int}{N at_ n:Nat}{c:Cch}{d:Dsk}(hn:at_+n<=64*N)(hI:Byt I (N*64))(hc:ClnC I c.S)(hd:ClnD I N d):∃B' c' d',spanR c d at_ n=⟨some B',c',d'⟩/\(∀j,j<n->B' j=I (at_+j))/\ClnC I c'.S/\ClnD I N d':=
 span_cleanF hn hI n c d 0 _ (by omega) hc hd fun j hj=>absurd hj (by omega)
def BytC(S:Nat->Option Slt):Prop:=∀i s,S i=some s->Byt s.G 64
theorem xorB_bd(u v:Int):0<=xorB u v/\xorB u v<=255:=by
 show 0<=IntKind.u8.wrap _/\IntKind.u8.wrap _<=255
 rw [IntKind.wrap_u8]
 omega
theorem readF_byt{d:Dsk}{k:Nat}(hk:k<d.N)(hb:Byt d.G (d.N*64)):Byt (readF d k) 64:=fun j hj=>by
 unfold readF pageF
 split
 ·exact xorB_bd _ _
 ·exact hb _ (by omega)
theorem bad_G(d:Dsk)(k:Nat):(d.bad k).G=d.G/\(d.bad k).N=d.N:=by
 unfold Dsk.bad Dsk.failK
 split <;> exact⟨rfl,rfl⟩
theorem tryN_byt(k:Nat):∀(j:Nat) (d:Dsk) (t:Int),k<d.N->Byt d.G (d.N*64)->(∀G,(tryN k j d t).1=some G->Byt G 64)/\(tryN k j d t).2.1.G=d.G/\(tryN k j d t).2.1.N=d.N
 | 0,d,t,_,_=>⟨fun G h=>(nomatch h),rfl,rfl⟩
 | j+1,d,t,hk,hb=>by
  by_cases h:(d.F k).f≠0
  ·rw [tryN_bad h]
   obtain⟨e1,e2⟩:=bad_G d k
   have:=tryN_byt k j (d.bad k) (wrap64 (t+1)) (by rw [e2];exact hk) (by rw [e1,e2];exact hb)
   rw [e1,e2] at this
   exact this
  ·rw [tryN_ok (Classical.not_not.1 h)]
   exact⟨fun G e=>by cases e;exact readF_byt hk hb,rfl,rfl⟩
theorem setM_byt{S:Nat->Option Slt}(h:BytC S)(i:Nat)(b:Bool):BytC (setM S i b):=by
 intro j s hs
 obtain⟨t,h1,h2,h3⟩:=setM_G S i b j s hs
 rw [h2]
 exact h j t h1
theorem upd_byt{S:Nat->Option Slt}(h:BytC S)(i:Nat)(s:Option Slt)(hs:∀t,s=some t->Byt t.G 64):BytC (updS S i s):=by
 intro j t ht
 unfold updS at ht
 split at ht
 ·exact hs t ht
 ·exact h j t ht
theorem same_byt{c c':Cch}(h:BytC c.S)(k:Same c c'):BytC c'.S:=by
 intro j s hs
 obtain⟨t,h1,h2,h3⟩:=k.G j s hs
 rw [h2]
 exact h j t h1
theorem take_byt{k:Nat}{c:Cch}{d:Dsk}(hc:BytC c.S)(hb:Byt d.G (d.N*64))(hk:k<d.N):(∀G,(takeR c d k).r=some G->Byt G 64)/\BytC (takeR c d k).c.S/\(takeR c d k).d.G=d.G/\(takeR c d k).d.N=d.N:=by
 cases hf:fnd c.S k c.n with
 | some i=>
  obtain⟨_,s,hs,hp⟩:=(show i<c.n/\∃s,c.S i=some s/\s.p=k from⟨(fnd_some hf).1,hasS_iff.1 (fnd_some hf).2⟩)
  rw [takeR_hit hf hs]
  exact⟨fun G e=>by cases e;exact hc i s hs,setM_byt hc i true,rfl,rfl⟩
 | none=>
  obtain⟨h1,h2,h3⟩:=tryN_byt k (c.rt+1) d c.t hk hb
  generalize ht:tryN k (c.rt+1) d c.t=x at h1 h2 h3
  obtain⟨r,d',t'⟩:=x
  cases r with
  | none=>
   rw [takeR_lost hf ht]
   exact⟨fun G e=>(nomatch e),hc,h2,h3⟩
  | some G=>
   rw [takeR_had hf ht]
   refine⟨fun G' e=>by cases e;exact h1 G rfl,?_,h2,h3⟩
   show BytC (updS _ _ _)
   refine upd_byt (same_byt (c:=c.miss.tried t') hc (chs_same _ _)) _ _ fun t e=>?_
   cases e
   exact h1 G rfl
theorem span_bytF{at_ n:Nat} : ∀(f:Nat) (c:Cch) (d:Dsk) (len:Nat) (B:Nat->Int),at_+n<=64*d.N->n-len<=f->BytC c.S->Byt d.G (d.N*64)->Byt B len ->
  (∀G,(spanF at_ n f c d len B).r=some G->Byt G n)/\BytC (spanF at_ n f c d len B).c.S/\(spanF at_ n f c d len B).d.G=d.G/\(spanF at_ n f c d len B).d.N=d.N
 | 0,c,d,len,B,hn,hf,hc,hb,hB=>⟨fun G e=>by cases e;exact fun j hj=>hB j (by omega),hc,rfl,rfl⟩
 | f+1,c,d,len,B,hn,hf,hc,hb,hB=>by
  by_cases hl:len<n
  ·have hk:(at_+len)/64<d.N:=by omega
   obtain⟨h1,h2,h3,h4⟩:=take_byt hc hb hk
   generalize ht:takeR c d ((at_+len)/64)=x at h1 h2 h3 h4
   obtain⟨r,c',d'⟩:=x
   dsimp only at h1 h2 h3 h4
   cases r with
   | none=>
    rw [spanF_lost hl f c c' d d' B ht]
    exact⟨fun G e=>(nomatch e),h2,h3,h4⟩
   | some G=>
    rw [spanF_had hl f c c' d d' B G ht]
    have hm:1<=min (64-(at_+len)%64) (n-len):=by omega
    have:=span_bytF f c' d' (len+Nat.min (64-(at_+len)%64) (n-len)) (fun j=>if j<len then B j else G ((at_+len)%64+(j-len))) (by rw [h4];exact hn)
     (by show n-(len+min (64-(at_+len)%64) (n-len))<=f;omega) h2 (by rw [h3,h4];exact hb) (fun j hj=>by
      have hj':j<len+min (64-(at_+len)%64) (n-len):=hj
      dsimp only
      by_cases e:j<len
      ·rw [if_pos e];exact hB j e
      ·rw [if_neg e];exact h1 G rfl _ (by omega))
    rw [h3,h4] at this
    exact this
  ·rw [spanF_end (by omega)]
   exact⟨fun G e=>by cases e;exact fun j hj=>hB j (by omega),hc,rfl,rfl⟩
theorem span_byt{at_ n:Nat}{c:Cch}{d:Dsk}(hn:at_+n<=64*d.N)(hc:BytC c.S)(hb:Byt d.G (d.N*64)):(∀G,(spanR c d at_ n).r=some G->Byt G n)/\BytC (spanR c d at_ n).c.S/\(spanR c d at_ n).d.G=d.G/\(spanR c d at_ n).d.N=d.N:=
 span_bytF n c d 0 _ hn (by omega) hc hb fun j hj=>by omega
end Go.Proofs.YtjakgghbdojlbaaGreatDoor
