/- Texts joined: CacheF, CacheG, CacheH, ClnP. -/
import Derived.Test.YticpdokbiblpoaaGreatDoorPkAY
import Derived.Test.YticpdokbiblpoaaGreatDoorPkBG
import Derived.Test.YticpdokbiblpoaaGreatDoorTk
set_option linter.unusedVariables false
set_option maxHeartbeats 1000000
namespace Go.Proofs.YticpdokbiblpoaaGreatDoor
open Go.Proofs.Tryz
open Go.Proofs.Tryz renaming prog → zP
open Go.Value renaming int → vI
open Go.IntKind renaming i64 → iJ
open Go.Ending renaming returned → rJ
set_option maxRecDepth 100000
open Go.RowKit Go.ChangeShapes Go.WideShapes
def dE.empty(c:dE):dE:={ c with S:=fun _=>none }
def pgV(S:Nat->Option gE)(i:Nat):Int:=match S i with | some s=>(s.p:Int) | none=>-1
structure PgR(w:World)(S:Nat->Option gE)(g n i:Nat)(wr:World):Prop where
 at_:∃F,CellsAt wr g n F/\∀j,j<i->F j=pgV S j
 old:Old w wr
def jV(at_ n:Nat):Nat->dE->eF->Nat->(nI)->Tkn
 | 0,c,d,len,B=>⟨some B,c,d⟩
 | f+1,c,d,len,B=>
  if len<n then
   match iI c d ((at_+len)/64) with
   | ⟨none,c',d'⟩=>⟨none,c',d'⟩
   | ⟨some G,c',d'⟩=>jV at_ n f c' d' (len+Nat.min (64-(at_+len)%64) (n-len)) (fun j=>if j<len then B j else G ((at_+len)%64+(j-len)))
  else⟨some B,c,d⟩
def fM(c:dE)(d:eF)(at_ n:Nat):Tkn:=jV at_ n n c d 0 (fun _=>0)
theorem vF{at_ n len:Nat}(h:n<=len)(f:Nat)(c:dE)(d:eF)(B:nI):jV at_ n f c d len B=⟨some B,c,d⟩:=by
 cases f with
 | zero=>rfl
 | succ f=>unfold jV;rw[if_neg zO]
theorem AX{at_ n len:Nat}(h:len<n)(f:Nat)(c c':dE)(d d':eF)(B:nI)(ht:iI c d ((at_+len)/64)=⟨none,c',d'⟩):jV at_ n (f+1) c d len B=⟨none,c',d'⟩:=by
 unfold jV;rw[if_pos h,ht]
theorem vP{at_ n len:Nat}(h:len<n)(f:Nat)(c c':dE)(d d':eF)(B G:nI)(ht:iI c d ((at_+len)/64)=⟨some G,c',d'⟩):jV at_ n (f+1) c d len B=jV at_ n f c' d' (len+Nat.min (64-(at_+len)%64) (n-len)) (fun j=>if j<len then B j else G ((at_+len)%64+(j-len))):=by
 rw[jV,if_pos h,ht]
def sU(base:Nat)(w':World)(n:Nat)(r:Option (nI))(e:Ending):Prop:=
 match r with
 | none=>e=rJ (.tuple #[.slice none 0 0,vI iJ 8])
 | some G=>∃q c,e=rJ (.tuple #[.slice q n c,vI iJ 0])/\n<=c/\c<=maxLen/\SlU w' q n G/\∀a,0<n->q=some a->base<=a.block
theorem aDw(n:Nat):madeCells (Value.int .u8 0:Value).cells n=aA n (bU fun _=>0):=
 FQ n (Value.int .u8 0:Value).cells zD fun j hj=>by
  have h1:(Value.int .u8 0:Value).cells=#[.int .u8 0]:=rfl;rw[h1]at hj |-;have:j=0:=by simp at hj;omega
  subst this;rfl
theorem aCr(n:Nat)(hn:n<=1099511627776)(w:World):(Instr.makeSlice 34 (vI iJ 0) (vI iJ n)).run zP w=.ok (.slice (some ⟨w.heap.size,0,none⟩) 0 n) (w.alloc (.cells (aA n (bU fun _=>0)) 5)):=by
 obtain⟨i,hi,hz0,hz1,hz2⟩:=info_parts Tryz.info_u8c;rw[run_make w _ _ i _ underlying34 hi hz0 .i64 .i64 0 n zO zO (by rw[hz2];omega) zO,hz1,Int.toNat_natCast,Nat.mul_one,aDw];rfl
theorem XR(w:World)(n:Nat)(hn:n<=1099511627776):ownX (fun q=>q<w.heap.size) (w.alloc (.cells (aA n (bU fun _=>0)) 5)) 5 (.slice (some ⟨w.heap.size,0,none⟩) 0 n) 0 (DS (fun _=>0) 0):=by
 refine⟨⟨by simp[DS,gQ],.inr ⟨w.heap.size,n,aA n (bU fun _=>0),rfl,Nat.zero_le _,heap_alloc_new _ _,Nat.zero_le _,by unfold maxLen;omega,by rw[aB];omega,by simp[DS,gQ]⟩⟩,fun k hk=>?_⟩;have:k=w.heap.size:=by simpa[Value.ownBlock,eq_comm]using hk
 omega
theorem aHR(z0 z av b sb hm db dm:Nat)(p:Option Addr)(cd N:Nat)(at_ n:Int)(c:dE)(d:eF)(w:World)(h:CkAt w z0 z av b sb hm db dm p cd N c d)(hi:at_<0\/n<0\/64*(N:Int)-at_<n)(h63:at_<=9223372036854775807):Calls zP 209 #[.pointer (some ⟨b,0,none⟩),vI iJ at_,vI iJ n] w fun e w'=>
  e=rJ (.tuple #[.slice none 0 0,vI iJ 5])/\w=w':=by
 obtain⟨_,_,_,_,c4,_,_,_,_⟩:=h.cc.cells;have hN:=h.cc.num.2.2.2.2;have H:=zH (vZ b db w c4);have HP:=zH (ML db dm p cd d w h.dk);rw[h.nN]at HP;by_cases h0:at_<0
 ·clear h hi;go_enter func209,ntmps209
  go_wp2_with fail
  refine H.o.mono ?_;rintro e w' ⟨rfl,rfl⟩;clear H
  go_wp2_with fail
  go_ret2
  exact⟨rfl,rfl⟩
 ·by_cases h1:n<0
  ·clear h hi;go_enter func209,ntmps209
   go_wp2_with fail
   refine H.o.mono ?_;rintro e w' ⟨rfl,rfl⟩;clear H
   go_wp2_with fail
   go_ret2
   exact⟨rfl,rfl⟩
  ·have h2:64*(N:Int)-at_<n:=zO;have t1:wrap64 ((N:Int)*64)=64*(N:Int):=by rw[IntWalk.wrap64_in _ zO];omega
   have t2:wrap64 (64*(N:Int)-at_)=64*(N:Int)-at_:=IntWalk.wrap64_in _ zO;clear h hi;go_enter func209,ntmps209
   go_wp2_with fail
   refine H.o.mono ?_;rintro e w' ⟨rfl,rfl⟩;clear H
   go_wp2_with fail
   refine HP.o.mono ?_;rintro e w' ⟨rfl,rfl⟩;clear HP
   go_wp2_with fail
   go_ret2
   exact⟨rfl,rfl⟩
theorem SlotsAt.keptA{w w':World}{sb n z av:Nat}{S:Nat->Option gE}{X:Nat->Prop}(h:SlotsAt w sb n z av S)(k:Kept X w w')(hb:X sb)(hz:∀g,z<=g->g≠av->g<w.heap.size->X g){q:Nat}(hq:q=av\/w.heap.size<=q):SlotsAt w' sb n z q S:=by
 obtain⟨gs,h1,h2⟩:=h;refine⟨gs,h1.kept k hb,fun i hi s hs=>?_⟩;obtain⟨h3,h4⟩:=h2 i hi s hs;obtain⟨g,o,e1,e2,_⟩:=h4 zO;cases e1;exact⟨⟨h3.1,by have:=h3.2;omega⟩,h4.kept k fun a _ ha=>by cases ha;exact hz _ h3.1 h3.2 e2⟩
theorem CkAt.keptA{w w':World}{z0 z av b sb hm db dm cd N:Nat}{p:Option Addr}{c:dE}{d:eF}{X:Nat->Prop}(h:CkAt w z0 z av b sb hm db dm p cd N c d)(k:Kept X w w')(hX:∀q,q<w.heap.size->q=b\/q=sb\/q=hm\/q=db\/q=dm\/q<z0\/(z<=q/\q≠av)->X q){q:Nat}(hq:q=av\/w.heap.size<=q):CkAt w' z0 z q b sb hm db dm p cd N c d:=by
 have h1:=h.kept k hX;exact⟨⟨h1.cc.blk,h1.cc.num,h.cc.slots.keptA k (hX _ h.cc.slots.lt zS) (fun g g1 g1' g2=>hX g g2 (by simp[g1,g1'])) hq,h1.cc.map,h1.cc.pgs,h1.cc.uq,h1.cc.rng⟩,h1.dk,h1.nN,h1.lo,h1.hi⟩
theorem aHY{pl k:Nat}(h:pl<=16777216)(hk:k=pl/64):wrap64 ((pl:Int).tdiv 64)=k/\(pl:Int)/64=k:=by
 have e:(pl:Int)/64=k:=zO;exact⟨by rw[gV _ _ zO,e,IntWalk.wrap64_in _ zO],e⟩
theorem aId{pl o:Nat}(ho:o=pl%64):wrap64 ((pl:Int).tmod 64)=o/\(pl:Int)%64=o:=by
 have e:(pl:Int)%64=o:=zO;exact⟨by rw[Int.tmod_eq_emod_of_nonneg zO,e,IntWalk.wrap64_in _ zO],e⟩
theorem aAO(at_ len n N:Nat)(h1:at_+n<=64*N)(h2:N<=65536)(h3:len<n):∃pl k o r nl m:Nat,(pl=at_+len/\k=pl/64/\o=pl%64/\m=Nat.min r nl/\r=64-o/\nl=n-len)/\(k<N/\o<64/\1<=m/\len+m<=n/\m<=r/\r<=64) /\
  (pl<=16777216/\((at_:Int)+(len:Int))/64=k)/\((at_:Int)+(len:Int))%64=o/\min (r:Int) ((n:Int)-(len:Int))=m:=by
 refine⟨at_+len,(at_+len)/64,(at_+len)%64,64-(at_+len)%64,n-len,Nat.min (64-(at_+len)%64) (n-len),⟨rfl,rfl,rfl,rfl,rfl,rfl⟩,?_,⟨zO,?_⟩,?_,?_⟩
 ·have h4:(at_+len)/64<N:=zO;have h5:(at_+len)%64<64:=Nat.mod_lt _ zO;generalize (at_+len)%64=o at *;refine⟨h4,h5,?_,?_,Nat.min_le_left _ _,zO⟩
  ·exact Nat.le_min.2 ⟨zO,zO⟩
  ·show len+min (64-o) (n-len)<=n;omega
 ·have:=(aHY (pl:=at_+len) zO rfl).2;rw[<-this];rfl
 ·have:=(aId (pl:=at_+len) rfl).2;rw[<-this];rfl
 ·rw[show (n:Int)-(len:Int)=((n-len:Nat):Int) by omega];generalize 64-(at_+len)%64=r;generalize n-len=nl;show min (r:Int) (nl:Int)=((min r nl:Nat):Int)
  omega
def oW:Value->Nat
 | .slice _ l _=>l
 | _=>0
structure aGX(w:World)(z0 z b sb hm db dm:Nat)(p:Option Addr)(cd N at_ n:Nat)(R:Tkn)(len go cap:Nat)(wr:World):Prop where
 ex:∃B cur dc f,ownX (fun q=>q<w.heap.size) wr 5 (.slice (some ⟨go,0,none⟩) len cap) len (DS B len)/\n-len<=f/\jV at_ n f cur dc len B=R/\CkAt wr z0 z go b sb hm db dm p cd N cur dc
 kp:Kept (ND w b sb hm db dm) w wr
set_option pp.deepTerms true in
theorem YE(z0 z av b sb hm db dm:Nat)(p:Option Addr)(cd N at_ n:Nat)(c:dE)(d:eF)(w:World)(h:CkAt w z0 z av b sb hm db dm p cd N c d)(hn:at_+n<=64*N)(hav:av<z):Calls zP 209 #[.pointer (some ⟨b,0,none⟩),vI iJ (at_:Int),vI iJ (n:Int)] w fun e w'=>
  sU w.heap.size w' n (fM c d at_ n).r e/\CkAt w' z0 z av b sb hm db dm p cd N (fM c d at_ n).c (fM c d at_ n).d/\Kept (ND w b sb hm db dm) w w':=by
 obtain⟨_,_,_,_,c4,_,_,_,_⟩:=h.cc.cells;have hN:=h.cc.num.2.2.2.2;have H:=zH (vZ b db w c4);have HP:=zH (ML db dm p cd d w h.dk);rw[h.nN]at HP;have t1:wrap64 ((N:Int)*64)=64*(N:Int):=by rw[IntWalk.wrap64_in _ zO];omega
 have t2:wrap64 (64*(N:Int)-at_)=64*(N:Int)-at_:=IntWalk.wrap64_in _ zO;have hM:=aCr n zO w;obtain⟨R,hR⟩:=zG (fM c d at_ n);rw[<-hR];have hrn:=h.cc.rng;have hlo:=h.lo;have hhi:=h.hi;have H0:Hid (aGX w z0 z b sb hm db dm p cd N at_ n R 0 w.heap.size n (w.alloc (.cells (aA n (bU fun _=>0)) 5))):=
  ⟨⟨fun _=>0,c,d,n,XR w n zO,zO,hR.symm,(h.reav (q:=w.heap.size) (.inl (Nat.le_refl _))).old (Old.alloc _ _)⟩,(Old.alloc _ _).kept fun q hq=>hq.1⟩
 have HB:=zH (And.intro hrn (And.intro hlo (And.intro hhi (And.intro hav (And.intro hn hN)))));have KM:¬(64*(N:Int)-at_<n):=zO;have hat1:at_<=4194304:=zO;have hn1:n<=4194304:=zO;clear h hR hrn hlo hhi hav hn hN;go_enter func209,ntmps209
 go_wp2_with fail
 refine H.o.mono ?_;rintro e w' ⟨rfl,rfl⟩;clear H
 go_wp2_with fail
 refine HP.o.mono ?_;rintro e w' ⟨rfl,rfl⟩;clear HP
 go_wp2_with fail
 clear t1 t2 hM KM
 go_loopw [8] (fun s8 wr=>∃len go cap:Nat,len<=n/\s8=.slice (some ⟨go,0,none⟩) len cap/\Hid (aGX w z0 z b sb hm db dm p cd N at_ n R len go cap wr)) (fun s8 _=>n-oW s8)
 case atStart=>exact⟨0,w.heap.size,n,zO,rfl,H0⟩
 case round=>
  obtain⟨len,go,cap,hlen,rfl,HI⟩:=hrel;clear H0;by_cases hlt:len<n
  ·obtain⟨B,cur,dc,f,how,hf,hsp,hck⟩:=HI.o.ex;obtain⟨pl,k,o,r,nl,m,q1,q2,⟨hpl2,p2'⟩,q4,q6⟩:=aAO at_ len n N HB.o.2.2.2.2.1 HB.o.2.2.2.2.2 hlt;have hgo:w.heap.size<=go:=by
    have:=how.2 go rfl;omega
   have hgl:go<wr.heap.size:=how.lt go rfl;have hf1:∃f',f=f'+1:=⟨f-1,by clear p2' q4 q6 q1 q2;omega⟩
   obtain⟨f',rfl⟩:=hf1;have HT:=zH (ZP z0 z go b sb hm db dm p cd N k cur dc wr hck q2.1 hgl);have HQ:=zH (And.intro how (And.intro hsp (And.intro hgo (And.intro hgl hf))));have HN1:=zH q1;have HN2:=zH q2;have HN4:=zH q4;have HN6:=zH q6;obtain⟨T,hT⟩:=zG (iI cur dc k);rw[<-hT]at HT;have HTe:=zH hT;clear how hsp hgo hgl hck hf hT q1 q2 q4 q6
   go_wp2_with fail
   refine HT.o.mono ?_;intro e w2 hh;clear HT;obtain⟨tr,c',d'⟩:=T;dsimp only at hh;obtain⟨he,hat,hkk⟩:=hh;cases tr with
   | none=>
    have he':e=rJ (.tuple #[.slice none 0 0,vI iJ 8]):=he;subst he';have HE:Hid (sU w.heap.size w2 n R.r (rJ (.tuple #[.slice none 0 0,vI iJ 8]))/\CkAt w2 z0 z av b sb hm db dm p cd N R.c R.d/\Kept (ND w b sb hm db dm) w w2):=by
     obtain⟨_,q2,_,_,_⟩:=HQ.o;obtain⟨e1,e2,_⟩:=HN1.o;rw[<-q2,AX hlt f' cur c' dc d' B (by rw[<-e1,<-e2];exact HTe.o.symm)];exact⟨rfl,hat.reav (.inr HB.o.2.2.2.1),HI.o.kp.trans (hkk.mono fun q hq=>⟨Nat.lt_of_lt_of_le hq.1 HI.o.kp.size,hq.2⟩)⟩
    clear hat hkk he HI
    go_wp2_with fail
    go_ret2
    exact HE.o
   | some G=>
    obtain⟨g,rfl,_,_,hsl⟩:=(show ∃g,e=rJ (.tuple #[.slice (some ⟨g,0,none⟩) 64 64,vI iJ 0])/\z<=g/\g<w2.heap.size/\SlU w2 (some ⟨g,0,none⟩) 64 G from he)
    clear he p2';have p3:=HN4.o;have h64:=HN1.o.2.2.2.2.1;have hS2:∀W,(Instr.sliceAt 34 (.slice (some ⟨g,0,none⟩) 64 64) (some (vI iJ (((at_:Int)+(len:Int))%64))) none none).run zP W=.ok (.slice (some ⟨g,o,none⟩) r r) W:=fun W=>by
     rw[p3];have:=tA (P:=zP) (t:=34) Tryz.u8s_under Tryz.u8s_elem g 0 64 64 o HN2.o.2.1 zO (o:Int) rfl W;rw[Nat.zero_add,<-h64]at this;exact this
    clear h64 p3;have hmr:m<=r:=HN2.o.2.2.2.2.1;have hm1:1<=m:=HN2.o.2.2.1;have hmn:len+m<=n:=HN2.o.2.2.2.1;have HR:=zH (And.intro hmr (And.intro hm1 hmn));have HOwn:Hid (ownX (fun q=>q<w2.heap.size/\q≠go) w2 5 (.slice (some ⟨go,0,none⟩) len cap) len (DS B len)):=zH (by
     have h9:=HQ.o.1.kept hkk (fun q hq=>(by
      cases hq;obtain⟨⟨⟨_,r1⟩,⟨_,r2⟩,⟨_,r3⟩,_⟩,⟨l1,l2,_⟩,hh,_⟩:=HB.o;have h8:=HQ.o.2.2.1;have h7:=HQ.o.2.2.2.1;have r0:=HB.o.1.1.1;show go<wr.heap.size/\go≠b/\go≠sb/\go≠hm/\go≠db/\go≠dm;exact⟨h7,zO,zO,zO,zO,zO⟩))
     exact h9.mono fun q hq=>(by cases hq;simp))
    have HSl:Hid (SlU w2 (some ⟨g,o,none⟩) m (fun j=>G (o+j))):=zH fun _=>(by
     obtain⟨g',o',e1,e2,e3⟩:=hsl zO;cases e1;have ho64:=HN2.o;have hr64:=HN1.o.2.2.2.2.1;exact⟨g,o,rfl,e2,fun j hj=>by have:=e3 (o+j) zO;rw[Nat.zero_add]at this;exact this⟩)
    obtain⟨i0,hi0,hz0,hz1,hz2⟩:=info_parts Tryz.info_u8c
    have HEnd:Hid (∀v' w3,ownX (fun q=>q<w2.heap.size/\q≠go) w3 5 v' (len+m) (DS (fun j=>if j<len then B j else(fun j=>G (o+j)) (j-len)) (len+m))->Kept (fun q=>q<w2.heap.size/\q≠go) w2 w3->(∀k,v'.ownBlock=some k->(Value.slice (some ⟨go,0,none⟩) len cap).ownBlock=some k\/w2.heap.size<=k) ->
      ∃go' cap',v'=.slice (some ⟨go',0,none⟩) (len+m) cap'/\Hid (aGX w z0 z b sb hm db dm p cd N at_ n R (len+m) go' cap' w3)):=by
     intro v' w3 h1 h2 h3;obtain⟨k1,k2,k3,k4,k5⟩:=HQ.o;obtain⟨e1,e2,e3,e4,e5,e6⟩:=HN1.o;rcases h1.shape with ⟨_,h0⟩ | ⟨go',cap',rfl,hx,hg',_⟩
     ·omega
     ·have h4:go'=go\/w2.heap.size<=go':=by
       rcases h3 go' rfl with h | h
       ·left;have h':some go=some go':=h;cases h';rfl
       ·exact .inr h
      have h5:w.heap.size<=w2.heap.size:=Nat.le_trans HI.o.kp.size hkk.size;refine⟨go',cap',rfl,⟨⟨_,c',d',f',h1.mono fun q hq=>(by have hq':some go'=some q:=hq;cases hq';omega),zO,?_,?_⟩,?_⟩⟩
      ·rw[<-k2,vP hlt f' cur c' dc d' B G (by rw[<-e1,<-e2];exact HTe.o.symm),<-e1,<-e3,<-e5,<-e6];show jV at_ n f' c' d' (len+m) _=jV at_ n f' c' d' (len+Nat.min r nl) _;rw[<-e4]
      ·refine hat.keptA h2 (fun q hq hq2=>⟨hq,?_⟩) h4;obtain⟨⟨⟨_,r1⟩,⟨_,r2⟩,⟨_,r3⟩,_⟩,⟨l1,l2,_⟩,hh,_⟩:=HB.o;have r0:=HB.o.1.1.1;omega
      ·exact(HI.o.kp.trans (hkk.mono fun q hq=>⟨Nat.lt_of_lt_of_le hq.1 HI.o.kp.size,hq.2⟩)).trans (h2.mono fun q hq=>⟨Nat.lt_of_lt_of_le hq.1 h5,by have:=hq.1;omega⟩)
    have hcase:(m=r/\r<=n-len)\/(m=n-len/\n-len<r):=by
     have e4:=HN1.o.2.2.2.1;have e6:=HN1.o.2.2.2.2.2;rw[e4,e6];show (min r (n-len)=r/\_)\/(min r (n-len)=n-len/\_);omega
    have HI2:=HI;clear hmr hsl hm1 hmn hat hkk HI HI2;rcases hcase with ⟨rfl,hc⟩ | ⟨rfl,hc⟩
    ·go_wp2_with (at_builtin;refine AY _ rfl _ _ 34 rfl (fun q=>q<w2.heap.size/\q≠go) 5 i0 underlying34 hi0 hz0 hz1 hz2 _ len B rfl HOwn.o (some ⟨g,o,none⟩) m m (fun j=>G (o+j)) rfl HSl.o (by have:=HR.o;omega) (fun q hq=>hq.1) ?_;intro v' w3 how3 hk3 hv3;have HE3:=zH (HEnd.o v' w3 how3 hk3 hv3);clear how3 hk3 hv3)
     obtain⟨go',cap',rfl,HS3⟩:=HE3.o;go_roundw
     case rel=>exact⟨len+m,go',cap',HR.o.2.2,rfl,HS3⟩
     case measure=>(show n-(len+m)<n-len);have:=HR.o;omega
    ·go_wp2_with (at_builtin;refine AY _ rfl _ _ 34 rfl (fun q=>q<w2.heap.size/\q≠go) 5 i0 underlying34 hi0 hz0 hz1 hz2 _ len B rfl HOwn.o (some ⟨g,o,none⟩) (n-len) r (fun j=>G (o+j)) rfl HSl.o (by have:=HR.o;omega) (fun q hq=>hq.1) ?_;intro v' w3 how3 hk3 hv3;have HE3:=zH (HEnd.o v' w3 how3 hk3 hv3);clear how3 hk3 hv3)
     obtain⟨go',cap',rfl,HS3⟩:=HE3.o;go_roundw
     case rel=>exact⟨len+(n-len),go',cap',HR.o.2.2,rfl,HS3⟩
     case measure=>(show n-(len+(n-len))<n-len);have:=HR.o;omega
  ·obtain rfl:len=n:=zO;have HE:Hid (sU w.heap.size wr len R.r (rJ (.tuple #[.slice (some ⟨go,0,none⟩) len cap,vI iJ 0]))/\CkAt wr z0 z av b sb hm db dm p cd N R.c R.d/\Kept (ND w b sb hm db dm) w wr):=by
    obtain⟨B,cur,dc,f,how,_,hsp,hck⟩:=HI.o.ex;rw[<-hsp,vF (Nat.le_refl _)];obtain⟨p',c',e1,e2,e3,e4,e5⟩:=how.bytes;simp only[Value.slice.injEq]at e1;obtain⟨rfl,_,rfl⟩:=e1;exact⟨⟨_,_,rfl,e2,e3,e4,fun a hn ha=>by
     obtain⟨g,h1,h2,_⟩:=e5 hn;rw[h1]at ha;cases ha;exact Nat.not_lt.1 h2⟩,hck.reav (.inr HB.o.2.2.2.1),HI.o.kp⟩
   clear HI
   go_wp2_with fail
   go_ret2
   exact HE.o
def rO(I:nI)(S:Nat->Option gE):Prop:=∀i s,S i=some s->∀j,j<64->s.G j=I (s.p*64+j)
structure xI(I:nI)(N:Nat)(d:eF):Prop where
 f:∀k,d.F k=iP.z
 g:d.G=I
 n:d.N=N
theorem xI.more{I:nI}{N:Nat}{d:eF}(h:xI I N d):xI I N d.more:=⟨h.f,h.g,h.n⟩
theorem aDb{I:nI}{S:Nat->Option gE}(h:rO I S)(i:Nat)(b:Bool):rO I (kU S i b):=by
 intro j s hs q hq;obtain⟨t,h1,h2,h3⟩:=AL S i b j s hs;rw[h2,h3];exact h j t h1 q hq
theorem aEH{I:nI}{S:Nat->Option gE}(h:rO I S)(i:Nat)(s:Option gE)(hs:∀t,s=some t->∀j,j<64->t.G j=I (t.p*64+j)):rO I (cJ S i s):=by
 intro j t ht q hq;unfold cJ at ht;split at ht
 ·exact hs t ht q hq
 ·exact h j t ht q hq
theorem aDO{I:nI}{c c':dE}(h:rO I c.S)(k:sQ c c'):rO I c'.S:=by
 intro j s hs q hq;obtain⟨t,h1,h2,h3⟩:=k.G j s hs;rw[h2,h3];exact h j t h1 q hq
theorem QP{I:nI}{N k:Nat}{c:dE}{d:eF}(hc:rO I c.S)(hd:xI I N d)(hb:lS d.G (d.N*64))(hk:k<N):∃G c' d',iI c d k=⟨some G,c',d'⟩/\(∀j,j<64->G j=I (k*64+j))/\rO I c'.S/\xI I N d':=by
 cases hf:kI c.S k c.n with
 | some i=>
  obtain⟨_,s,hs,hp⟩:=(show i<c.n/\∃s,c.S i=some s/\s.p=k from⟨(jU hf).1,nC.1 (jU hf).2⟩)
  refine⟨s.G,c.hit i,d,vY hf hs,fun j hj=>?_,aDb hc i true,hd⟩;rw[hc i s hs j hj,hp]
 | none=>
  have hz:=hd.f k;have ht:=JQ (k:=k) (d:=d) (by rw[hz];rfl) c.rt c.t;have hg:∀j,j<64->oJ d k j=I (k*64+j):=fun j hj=>by
   rw[aEO (by rw[hd.n];exact hk) hb hz j hj,hd.g]
  refine⟨oJ d k,_,d.more,vA hf ht,hg,?_,hd.more⟩;show rO I (cJ _ _ _);refine aEH (aDO (c:=c.miss.tried (wrap64 (c.t+1))) hc (pK _ _)) _ _ fun t e=>?_;cases e;exact hg
theorem wK{I:nI}{N at_ n:Nat}(hn:at_+n<=64*N)(hI:lS I (N*64)):∀(f:Nat) (c:dE) (d:eF) (len:Nat) (B:nI),n-len<=f->rO I c.S->xI I N d->(∀j,j<len->B j=I (at_+j)) ->
  ∃B' c' d',jV at_ n f c d len B=⟨some B',c',d'⟩/\(∀j,j<n->B' j=I (at_+j))/\rO I c'.S/\xI I N d'
 | 0,c,d,len,B,hf,hc,hd,hB=>⟨B,c,d,rfl,fun j hj=>hB j zO,hc,hd⟩
 | f+1,c,d,len,B,hf,hc,hd,hB=>by
  by_cases hl:len<n
  ·have hk:(at_+len)/64<N:=zO;obtain⟨G,c',d',h1,h2,h3,h4⟩:=QP hc hd (by rw[hd.g,hd.n];exact hI) hk;rw[vP hl f c c' d d' B G h1];have hm:1<=min (64-(at_+len)%64) (n-len):=zO;refine wK hn hI f c' d' _ _ ?_ h3 h4 fun j hj=>?_
   ·show n-(len+min (64-(at_+len)%64) (n-len))<=f;omega
   ·have hj':j<len+min (64-(at_+len)%64) (n-len):=hj;by_cases e:j<len
    ·rw[if_pos e];exact hB j e
    ·rw[if_neg e,h2 _ zO];congr 1;omega
  ·rw[vF zO];exact⟨B,c,d,rfl,fun j hj=>hB j zO,hc,hd⟩
theorem SM{I:nI}{N at_ n:Nat}{c:dE}{d:eF}(hn:at_+n<=64*N)(hI:lS I (N*64))(hc:rO I c.S)(hd:xI I N d):∃B' c' d',fM c d at_ n=⟨some B',c',d'⟩/\(∀j,j<n->B' j=I (at_+j))/\rO I c'.S/\xI I N d':=
 wK hn hI n c d 0 _ zO hc hd fun j hj=>absurd hj zO
def uA(S:Nat->Option gE):Prop:=∀i s,S i=some s->lS s.G 64
theorem aFY(u v:Int):0<=TP u v/\TP u v<=255:=by
 show 0<=IntKind.u8.wrap _/\IntKind.u8.wrap _<=255;rw[IntKind.wrap_u8];omega
theorem aAW{d:eF}{k:Nat}(hk:k<d.N)(hb:lS d.G (d.N*64)):lS (oJ d k) 64:=fun j hj=>by
 unfold oJ mN;split
 ·exact aFY _ _
 ·exact hb _ zO
theorem aIn(d:eF)(k:Nat):(d.bad k).G=d.G/\(d.bad k).N=d.N:=by
 unfold eF.bad eF.failK;split <;> exact⟨rfl,rfl⟩
theorem NL(k:Nat):∀(j:Nat) (d:eF) (t:Int),k<d.N->lS d.G (d.N*64)->(∀G,(mH k j d t).1=some G->lS G 64)/\(mH k j d t).2.1.G=d.G/\(mH k j d t).2.1.N=d.N
 | 0,d,t,_,_=>⟨fun G h=>(nomatch h),rfl,rfl⟩
 | j+1,d,t,hk,hb=>by
  by_cases h:(d.F k).f≠0
  ·rw[LE h];obtain⟨e1,e2⟩:=aIn d k;have:=NL k j (d.bad k) (wrap64 (t+1)) (by rw[e2];exact hk) (by rw[e1,e2];exact hb);rw[e1,e2]at this;exact this
  ·rw[JQ (Classical.not_not.1 h)];exact⟨fun G e=>by cases e;exact aAW hk hb,rfl,rfl⟩
theorem aCV{S:Nat->Option gE}(h:uA S)(i:Nat)(b:Bool):uA (kU S i b):=by
 intro j s hs;obtain⟨t,h1,h2,h3⟩:=AL S i b j s hs;rw[h2];exact h j t h1
theorem aGw{S:Nat->Option gE}(h:uA S)(i:Nat)(s:Option gE)(hs:∀t,s=some t->lS t.G 64):uA (cJ S i s):=by
 intro j t ht;unfold cJ at ht;split at ht
 ·exact hs t ht
 ·exact h j t ht
theorem aDA{c c':dE}(h:uA c.S)(k:sQ c c'):uA c'.S:=by
 intro j s hs;obtain⟨t,h1,h2,h3⟩:=k.G j s hs;rw[h2];exact h j t h1
theorem aBO{k:Nat}{c:dE}{d:eF}(hc:uA c.S)(hb:lS d.G (d.N*64))(hk:k<d.N):(∀G,(iI c d k).r=some G->lS G 64)/\uA (iI c d k).c.S/\(iI c d k).d.G=d.G/\(iI c d k).d.N=d.N:=by
 cases hf:kI c.S k c.n with
 | some i=>
  obtain⟨_,s,hs,hp⟩:=(show i<c.n/\∃s,c.S i=some s/\s.p=k from⟨(jU hf).1,nC.1 (jU hf).2⟩)
  rw[vY hf hs];exact⟨fun G e=>by cases e;exact hc i s hs,aCV hc i true,rfl,rfl⟩
 | none=>
  obtain⟨h1,h2,h3⟩:=NL k (c.rt+1) d c.t hk hb;generalize ht:mH k (c.rt+1) d c.t=x at h1 h2 h3;obtain⟨r,d',t'⟩:=x;cases r with
  | none=>
   rw[AP hf ht];exact⟨fun G e=>(nomatch e),hc,h2,h3⟩
  | some G=>
   rw[vA hf ht];refine⟨fun G' e=>by cases e;exact h1 G rfl,?_,h2,h3⟩;show uA (cJ _ _ _);refine aGw (aDA (c:=c.miss.tried t') hc (pK _ _)) _ _ fun t e=>?_;cases e;exact h1 G rfl
theorem GY{at_ n:Nat} : ∀(f:Nat) (c:dE) (d:eF) (len:Nat) (B:nI),at_+n<=64*d.N->n-len<=f->uA c.S->lS d.G (d.N*64)->lS B len ->
  (∀G,(jV at_ n f c d len B).r=some G->lS G n)/\uA (jV at_ n f c d len B).c.S/\(jV at_ n f c d len B).d.G=d.G/\(jV at_ n f c d len B).d.N=d.N
 | 0,c,d,len,B,hn,hf,hc,hb,hB=>⟨fun G e=>by cases e;exact fun j hj=>hB j zO,hc,rfl,rfl⟩
 | f+1,c,d,len,B,hn,hf,hc,hb,hB=>by
  by_cases hl:len<n
  ·have hk:(at_+len)/64<d.N:=zO;obtain⟨h1,h2,h3,h4⟩:=aBO hc hb hk;generalize ht:iI c d ((at_+len)/64)=x at h1 h2 h3 h4;obtain⟨r,c',d'⟩:=x;dsimp only at h1 h2 h3 h4;cases r with
   | none=>
    rw[AX hl f c c' d d' B ht];exact⟨fun G e=>(nomatch e),h2,h3,h4⟩
   | some G=>
    rw[vP hl f c c' d d' B G ht];have hm:1<=min (64-(at_+len)%64) (n-len):=zO
    have:=GY f c' d' (len+Nat.min (64-(at_+len)%64) (n-len)) (fun j=>if j<len then B j else G ((at_+len)%64+(j-len))) (by rw[h4];exact hn)
     (by show n-(len+min (64-(at_+len)%64) (n-len))<=f;omega) h2 (by rw[h3,h4];exact hb) (fun j hj=>by
      have hj':j<len+min (64-(at_+len)%64) (n-len):=hj;dsimp only;by_cases e:j<len
      ·rw[if_pos e];exact hB j e
      ·rw[if_neg e];exact h1 G rfl _ zO)
    rw[h3,h4]at this;exact this
  ·rw[vF zO];exact⟨fun G e=>by cases e;exact fun j hj=>hB j zO,hc,rfl,rfl⟩
theorem aDk{at_ n:Nat}{c:dE}{d:eF}(hn:at_+n<=64*d.N)(hc:uA c.S)(hb:lS d.G (d.N*64)):(∀G,(fM c d at_ n).r=some G->lS G n)/\uA (fM c d at_ n).c.S/\(fM c d at_ n).d.G=d.G/\(fM c d at_ n).d.N=d.N:=
 GY n c d 0 _ hn zO hc hb fun j hj=>zO
end Go.Proofs.YticpdokbiblpoaaGreatDoor
