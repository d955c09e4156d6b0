/- Texts joined: BytU, BankA. -/
import Derived.Lib.LazyBuf
import Derived.Test.YticpdokbiblpoaaGreatDoorPkAB
import Derived.Test.YticpdokbiblpoaaGreatDoorPkAD
import Derived.Test.YticpdokbiblpoaaGreatDoorPkAI
import Derived.Test.YticpdokbiblpoaaGreatDoorPkAP
import Derived.Test.YticpdokbiblpoaaGreatDoorPkAR
import Derived.Test.YticpdokbiblpoaaGreatDoorTk
set_option linter.unusedVariables false
set_option maxHeartbeats 2000000
namespace Go.Proofs.YticpdokbiblpoaaGreatDoor
open Go.Proofs.Tryz
open Go.Proofs.Tryz renaming prog → zP
open Go.Value renaming int → vI
open Go.IntKind renaming i64 → iJ
open Go.Ending renaming returned → rJ
set_option maxRecDepth 100000
open Go.RowKit Go.ChangeShapes Go.WideShapes
theorem uC(p:Option Addr)(n cap:Nat)(F:nI)(w:World)(hs:SlU w p n F)(hb:lS F n)(h1:n<=cap)(h2:cap<=maxLen):
  Calls zP 57 #[.slice p n cap] w fun e w'=>e=rJ (.int .u32 (jE F n))/\Old w w':=
 Crc.Sum_any _ _ w (hs.slI h1 h2) (qN hb)
theorem aGQ(a c:Nat)(hc:c<256)(ha:a<36028797018963967):bits .or .i64 ((a*256:Nat):Int) (c:Int)=((a*256+c:Nat):Int):=by
 have e:a*256 ||| c=a*256+c:=by
  rw[Nat.mul_comm a 256,show (256:Nat)=2 ^ 8 from rfl,<-Nat.two_pow_add_eq_or_of_lt zO a]
 have ea:(BitVec.ofInt 64 ((a*256:Nat):Int)).toNat=a*256:=by rw[BitVec.ofInt_natCast,BitVec.toNat_ofNat];exact Nat.mod_eq_of_lt zO
 have eb:(BitVec.ofInt 64 (c:Int)).toNat=c:=by rw[BitVec.ofInt_natCast,BitVec.toNat_ofNat];exact Nat.mod_eq_of_lt zO
 show IntKind.i64.wrap ((BitVec.ofInt 64 ((a*256:Nat):Int) ||| BitVec.ofInt 64 (c:Int)).toNat:Int)=_;rw[BitVec.toNat_or,ea,eb,e];exact IntWalk.i64_in _ zO
def fO(F:nI)(o L:Nat)(f:nI)(k:Nat):nI:=fun p=>if o+(L-k)<=p/\p<o+L then f (p-o) else F p
theorem QT(F:nI)(o L:Nat)(f:nI):fO F o L f 0=F:=by
 funext p;unfold fO;rw[if_neg zO]
theorem uX(F:nI)(o L:Nat)(f:nI):fO F o L f L=aV F o L f:=by
 funext p;unfold fO aV;rw[Nat.sub_self];rfl
theorem iE(F:nI)(o L:Nat)(f:nI)(k:Nat)(hk:k<L):(fun p=>if p=o+(L-1-k) then f (L-1-k) else fO F o L f k p)=fO F o L f (k+1):=by
 funext p;unfold fO;by_cases e:p=o+(L-1-k)
 ·rw[if_pos e,if_pos zO,e,show o+(L-1-k)-o=L-1-k by omega]
 ·rw[if_neg e];by_cases h:o+(L-k)<=p/\p<o+L
  ·rw[if_pos h,if_pos zO]
  ·rw[if_neg h,if_neg zO]
theorem qZ(g o m cap L:Nat)(F:nI)(v:Int)(w:World)(hL:L=1\/L=2\/L=4)(ho:o+L<=m)(h:UAt w g m F)(hv:0<=v)(hv2:v<=9223372036854775807):
  Calls zP 146 #[.slice (some ⟨g,o,none⟩) L cap,vI iJ v] w fun e w'=>e=rJ (.tuple #[])/\UAt w' g m (aV F o L (be L v))/\Kept (fun q=>q≠g) w w':=by
 have H0:=zH (show UAt w g m (fO F o L (be L v) 0) by rw[QT];exact h);have HK0:=zH (Kept.refl (fun q=>q≠g) w);have HV:=zH (And.intro hv hv2);clear h hv hv2;rcases hL with rfl | rfl | rfl
 all_goals
  go_enter func146,ntmps146
  go_wp2_with fail
 ·go_loopw [7] (fun iv wr=>∃k:Nat,k<=1/\iv=vI iJ k/\Hid (UAt wr g m (fO F o 1 (be 1 v) k))/\Hid (Kept (fun q=>q≠g) w wr)) (fun i _=>1-(intOf i).toNat)
  case atStart=>exact⟨0,zO,by go_num,H0,HK0⟩
  case round=>
   clear H0 HK0;obtain⟨k,hk,rfl,HU,HK⟩:=hrel;have HB:=zH (uE 1 v)
   match k,hk with
   | 0,_=>
    have c0:=HU.o.at_ (o+0) zO;have f0:=HU.o.fz (o+0) zO;rw[Nat.add_zero]at c0 f0;have hbe:be 1 v 0=v%256:=by
     show v/1%256=_;omega
    have HS:=zH (show UAt (wr.setCell ⟨g,o,none⟩ (.int .u8 (v%256))) g m (fO F o 1 (be 1 v) 1) from(HU.o.set (o+0) zO (v%256)).ext fun p _=>by
     rw[<-iE F o 1 (be 1 v) 0 zO,<-hbe])
    have HK2:=zH (HK.o.trans (Kept.setCell (X:=fun q=>q≠g) wr (a:=⟨g,o,none⟩) (fun e=>e rfl) (.int .u8 (v%256))));have hv0:=HV.o.1;have hv1:=HV.o.2;clear HU HK hbe HB;generalize fO F o 1 (be 1 v) 0 o=u at *
    go_wp2_with fail
    go_roundw
    case rel=>exact⟨1,zO,by go_num,HS,HK2⟩
    case measure=>simp[intOf]
   | 1,_=>
    rw[uX]at HU
    go_wp2_with fail
    go_end0
    exact⟨rfl,HU.o,HK.o⟩
 ·go_loopw [7] (fun iv wr=>∃k:Nat,k<=2/\iv=vI iJ k/\Hid (UAt wr g m (fO F o 2 (be 2 v) k))/\Hid (Kept (fun q=>q≠g) w wr)) (fun i _=>2-(intOf i).toNat)
  case atStart=>exact⟨0,zO,by go_num,H0,HK0⟩
  case round=>
   clear H0 HK0;obtain⟨k,hk,rfl,HU,HK⟩:=hrel;have HB:=zH (uE 2 v)
   match k,hk with
   | 0,_=>
    have c0:=HU.o.at_ (o+1) zO;have f0:=HU.o.fz (o+1) zO;have hbe:be 2 v 1=v%256:=by
     show v/1%256=_;omega
    have HS:=zH (show UAt (wr.setCell ⟨g,o+1,none⟩ (.int .u8 (v%256))) g m (fO F o 2 (be 2 v) 1) from(HU.o.set (o+1) zO (v%256)).ext fun p _=>by
     rw[<-iE F o 2 (be 2 v) 0 zO,<-hbe])
    have HK2:=zH (HK.o.trans (Kept.setCell (X:=fun q=>q≠g) wr (a:=⟨g,o+1,none⟩) (fun e=>e rfl) (.int .u8 (v%256))));have hv0:=HV.o.1;have hv1:=HV.o.2;clear HU HK hbe HB;generalize fO F o 2 (be 2 v) 0 (o+1)=u at *
    go_wp2_with fail
    go_roundw
    case rel=>exact⟨1,zO,by go_num,HS,HK2⟩
    case measure=>simp[intOf]
   | 1,_=>
    have c0:=HU.o.at_ (o+0) zO;have f0:=HU.o.fz (o+0) zO;rw[Nat.add_zero]at c0 f0;have hbe:be 2 v 0=v/256%256:=by
     show v/256%256=_;omega
    have HS:=zH (show UAt (wr.setCell ⟨g,o,none⟩ (.int .u8 (v/256%256))) g m (fO F o 2 (be 2 v) 2) from(HU.o.set (o+0) zO (v/256%256)).ext fun p _=>by
     rw[<-iE F o 2 (be 2 v) 1 zO,<-hbe])
    have HK2:=zH (HK.o.trans (Kept.setCell (X:=fun q=>q≠g) wr (a:=⟨g,o,none⟩) (fun e=>e rfl) (.int .u8 (v/256%256))));have hv0:=HV.o.1;have hv1:=HV.o.2;clear HU HK hbe HB;generalize fO F o 2 (be 2 v) 1 o=u at *
    go_wp2_with fail
    go_roundw
    case rel=>exact⟨2,zO,by go_num,HS,HK2⟩
    case measure=>simp[intOf]
   | 2,_=>
    rw[uX]at HU
    go_wp2_with fail
    go_end0
    exact⟨rfl,HU.o,HK.o⟩
 ·go_loopw [7] (fun iv wr=>∃k:Nat,k<=4/\iv=vI iJ k/\Hid (UAt wr g m (fO F o 4 (be 4 v) k))/\Hid (Kept (fun q=>q≠g) w wr)) (fun i _=>4-(intOf i).toNat)
  case atStart=>exact⟨0,zO,by go_num,H0,HK0⟩
  case round=>
   clear H0 HK0;obtain⟨k,hk,rfl,HU,HK⟩:=hrel;have HB:=zH (uE 4 v)
   match k,hk with
   | 0,_=>
    have c0:=HU.o.at_ (o+3) zO;have f0:=HU.o.fz (o+3) zO;have hbe:be 4 v 3=v%256:=by
     show v/1%256=_;omega
    have HS:=zH (show UAt (wr.setCell ⟨g,o+3,none⟩ (.int .u8 (v%256))) g m (fO F o 4 (be 4 v) 1) from(HU.o.set (o+3) zO (v%256)).ext fun p _=>by
     rw[<-iE F o 4 (be 4 v) 0 zO,<-hbe])
    have HK2:=zH (HK.o.trans (Kept.setCell (X:=fun q=>q≠g) wr (a:=⟨g,o+3,none⟩) (fun e=>e rfl) (.int .u8 (v%256))));have hv0:=HV.o.1;have hv1:=HV.o.2;clear HU HK hbe HB;generalize fO F o 4 (be 4 v) 0 (o+3)=u at *
    go_wp2_with fail
    go_roundw
    case rel=>exact⟨1,zO,by go_num,HS,HK2⟩
    case measure=>simp[intOf]
   | 1,_=>
    have c0:=HU.o.at_ (o+2) zO;have f0:=HU.o.fz (o+2) zO;have hbe:be 4 v 2=v/256%256:=by
     show v/256%256=_;omega
    have HS:=zH (show UAt (wr.setCell ⟨g,o+2,none⟩ (.int .u8 (v/256%256))) g m (fO F o 4 (be 4 v) 2) from(HU.o.set (o+2) zO (v/256%256)).ext fun p _=>by
     rw[<-iE F o 4 (be 4 v) 1 zO,<-hbe])
    have HK2:=zH (HK.o.trans (Kept.setCell (X:=fun q=>q≠g) wr (a:=⟨g,o+2,none⟩) (fun e=>e rfl) (.int .u8 (v/256%256))));have hv0:=HV.o.1;have hv1:=HV.o.2;clear HU HK hbe HB;generalize fO F o 4 (be 4 v) 1 (o+2)=u at *
    go_wp2_with fail
    go_roundw
    case rel=>exact⟨2,zO,by go_num,HS,HK2⟩
    case measure=>simp[intOf]
   | 2,_=>
    have c0:=HU.o.at_ (o+1) zO;have f0:=HU.o.fz (o+1) zO;have hbe:be 4 v 1=v/65536%256:=by
     show v/65536%256=_;omega
    have HS:=zH (show UAt (wr.setCell ⟨g,o+1,none⟩ (.int .u8 (v/65536%256))) g m (fO F o 4 (be 4 v) 3) from(HU.o.set (o+1) zO (v/65536%256)).ext fun p _=>by
     rw[<-iE F o 4 (be 4 v) 2 zO,<-hbe])
    have HK2:=zH (HK.o.trans (Kept.setCell (X:=fun q=>q≠g) wr (a:=⟨g,o+1,none⟩) (fun e=>e rfl) (.int .u8 (v/65536%256))));have hv0:=HV.o.1;have hv1:=HV.o.2;clear HU HK hbe HB;generalize fO F o 4 (be 4 v) 2 (o+1)=u at *
    go_wp2_with fail
    go_roundw
    case rel=>exact⟨3,zO,by go_num,HS,HK2⟩
    case measure=>simp[intOf]
   | 3,_=>
    have c0:=HU.o.at_ (o+0) zO;have f0:=HU.o.fz (o+0) zO;rw[Nat.add_zero]at c0 f0;have hbe:be 4 v 0=v/16777216%256:=by
     show v/16777216%256=_;omega
    have HS:=zH (show UAt (wr.setCell ⟨g,o,none⟩ (.int .u8 (v/16777216%256))) g m (fO F o 4 (be 4 v) 4) from(HU.o.set (o+0) zO (v/16777216%256)).ext fun p _=>by
     rw[<-iE F o 4 (be 4 v) 3 zO,<-hbe])
    have HK2:=zH (HK.o.trans (Kept.setCell (X:=fun q=>q≠g) wr (a:=⟨g,o,none⟩) (fun e=>e rfl) (.int .u8 (v/16777216%256))));have hv0:=HV.o.1;have hv1:=HV.o.2;clear HU HK hbe HB;generalize fO F o 4 (be 4 v) 3 o=u at *
    go_wp2_with fail
    go_roundw
    case rel=>exact⟨4,zO,by go_num,HS,HK2⟩
    case measure=>simp[intOf]
   | 4,_=>
    rw[uX]at HU
    go_wp2_with fail
    go_end0
    exact⟨rfl,HU.o,HK.o⟩
theorem kR(p:Option Addr)(n cap:Nat)(F:nI)(w:World)(hn:n<=5)(hs:SlU w p n F)(hb:lS F n):
  Calls zP 55 #[.slice p n cap] w fun e w'=>e=rJ (vI iJ (aO F n))/\w=w':=by
 have HS:=zH hs;have HB:=zH hb;clear hs hb;go_enter func55,ntmps55
 go_wp2_with fail
 go_loop [3,8] (fun t i=>∃k:Nat,k<=n/\i=vI iJ k/\t=vI iJ (aO F k)) (fun _ i=>n-(intOf i).toNat)
 case atStart=>exact⟨0,zO,rfl,rfl⟩
 case round=>
  obtain⟨k,hk,rfl,rfl⟩:=hrel;by_cases hkn:k<n
  ·obtain⟨g,o,rfl,_,hc⟩:=HS.o zO;have ck:=hc k hkn;have hbk:=HB.o k hkn;have hnb:=pH (F:=F) (w:=k) (fun j hj=>HB.o j zO);have hp:(256:Int) ^ k<=4294967296:=by
    match k,hkn,hn with
    | 0,_,_=>decide
    | 1,_,_=>decide
    | 2,_,_=>decide
    | 3,_,_=>decide
    | 4,_,_=>decide
    | k+5,_,_=>omega
   have hb2:aO F k<4294967296:=Int.lt_of_lt_of_le hnb.2 hp;obtain⟨V,hV⟩:=Int.eq_ofNat_of_zero_le hnb.1;obtain⟨C,hC⟩:=Int.eq_ofNat_of_zero_le hbk.1;have hnx:aO F (k+1)=((V*256+C:Nat):Int):=by
    show aO F k*256+F k=_;rw[hV,hC];omega
   have HN:=zH hnx;rw[hV]at hb2 |-;rw[hC]at hbk ck;have e1:=aGQ V C zO zO;have e2:((V*256:Nat):Int)=(V:Int)*256:=zO;rw[e2]at e1;clear hc hnb hp hV hC hnx e2 HS HB;generalize ((V*256+C:Nat):Int)=r at *
   go_wp2_with fail
   go_round
   case rel=>exact⟨k+1,zO,by go_num,by rw[HN.o]⟩
   case measure=>exact zM
  ·obtain rfl:k=n:=zO;clear HS HB;obtain⟨r,hr⟩:=zG (aO F k);have HR:=zH hr;rw[<-hr];clear hr
   go_wp2_with fail
   go_ret;exact⟨by rw[<-HR.o];rfl,rfl⟩
theorem xT(n:Nat)(w:World)(hn:n<=1099511627776):Calls zP 56 #[vI iJ n] w fun e w'=>e=rJ (vI iJ ((20+64*n:Nat):Int))/\w=w':=by
 have e:((20+64*n:Nat):Int)=20+64*(n:Int):=zO;rw[e];go_enter func56,ntmps56
 go_wp2_with fail
 go_ret;exact⟨bT zO,rfl⟩
theorem yF(z:Int)(w:World):Calls zP 101 #[vI iJ z] w fun e w'=>e=rJ (.bool (decide (24<=z/\z<=96)))/\w=w':=by
 by_cases h1:24<=z <;> by_cases h2:z<=96
 all_goals
  have d1:decide (24<=z/\z<=96)=(decide (24<=z) && decide (z<=96)):=zS;rw[d1];go_enter func101,ntmps101
  go_wp2_with fail
  go_ret;refine⟨?_,rfl⟩;simp[h1,h2]
theorem RF(n:Nat)(w:World)(hn:n<=1099511627776):Calls zP 96 #[vI iJ n,vI iJ 16] w fun e w'=>e=rJ (vI iJ (pD n))/\w=w':=by
 have e1:((n:Int)+15).tdiv 16=(((n+15)/16:Nat):Int):=(gV _ _ zO).trans zO;have e2:(pD n:Int)=(((n+15)/16:Nat):Int)*16:=by unfold pD;omega
 have e3:wrap64 (((n:Int)+15).tdiv 16)=(((n+15)/16:Nat):Int):=by rw[e1];exact IntWalk.wrap64_in _ zO
 have e4:((n:Int)+15)/16=(((n+15)/16:Nat):Int):=zO;rw[e2];have hb:(n+15)/16<=137438953472:=zO;generalize (n+15)/16=q at *;clear e1 e2;go_enter func96,ntmps96
 go_wp2_with fail
 go_ret;exact⟨bT (by first | rfl | rw[e4] | omega),rfl⟩
theorem SY(n:Nat)(w:World)(hn:n<=1099511627776):Calls zP 96 #[vI iJ n,vI iJ 64] w fun e w'=>e=rJ (vI iJ (JC n))/\w=w':=by
 have e1:((n:Int)+63).tdiv 64=(((n+63)/64:Nat):Int):=(gV _ _ zO).trans zO;have e2:(JC n:Int)=(((n+63)/64:Nat):Int)*64:=by unfold JC;omega
 have e3:wrap64 (((n:Int)+63).tdiv 64)=(((n+63)/64:Nat):Int):=by rw[e1];exact IntWalk.wrap64_in _ zO
 have e4:((n:Int)+63)/64=(((n+63)/64:Nat):Int):=zO;rw[e2];have hb:(n+63)/64<=137438953472:=zO;generalize (n+63)/64=q at *;clear e1 e2;go_enter func96,ntmps96
 go_wp2_with fail
 go_ret;exact⟨bT (by first | rfl | rw[e4] | omega),rfl⟩
end Go.Proofs.YticpdokbiblpoaaGreatDoor
