/- Texts joined: BytU, BankA. -/
import Derived.Lib.LazyBuf
import Derived.Test.YtgefdmfcddpaiaaGreatDoorPkAB
import Derived.Test.YtgefdmfcddpaiaaGreatDoorPkAD
import Derived.Test.YtgefdmfcddpaiaaGreatDoorPkAI
import Derived.Test.YtgefdmfcddpaiaaGreatDoorPkAJ
import Derived.Test.YtgefdmfcddpaiaaGreatDoorPkAL
import Derived.Test.YtgefdmfcddpaiaaGreatDoorTk
namespace Go.Proofs.YtgefdmfcddpaiaaGreatDoor
set_option linter.unusedVariables false
set_option maxRecDepth 100000
open Go.RowKit Go.ChangeShapes Go.WideShapes
theorem CSum_any(p:Option Addr)(n cap:Nat)(F:Nat->Int)(w:World)(hs:SlU w p n F)(hb:Byt F n)(h1:n<=cap)(h2:cap<=maxLen):
  Calls Tryz.prog 68 #[.slice p n cap] w fun e w'=>e = .returned (.int .u32 (sumF F n))/\Old w w':=
 Crc.Sum_any _ _ w (hs.slI h1 h2) (lst_mem hb)
theorem or_low(a c:Nat)(hc:c<256)(ha:a<36028797018963967):bits .or .i64 ((a*256:Nat):Int) (c:Int)=((a*256+c:Nat):Int):=by
 have e:a*256 ||| c=a*256+c:=by
  rw [Nat.mul_comm a 256,show (256:Nat)=2 ^ 8 from rfl,←Nat.two_pow_add_eq_or_of_lt (by omega) a]
 have ea:(BitVec.ofInt 64 ((a*256:Nat):Int)).toNat=a*256:=by rw [BitVec.ofInt_natCast,BitVec.toNat_ofNat];exact Nat.mod_eq_of_lt (by omega)
 have eb:(BitVec.ofInt 64 (c:Int)).toNat=c:=by rw [BitVec.ofInt_natCast,BitVec.toNat_ofNat];exact Nat.mod_eq_of_lt (by omega)
 show IntKind.i64.wrap ((BitVec.ofInt 64 ((a*256:Nat):Int) ||| BitVec.ofInt 64 (c:Int)).toNat:Int)=_
 rw [BitVec.toNat_or,ea,eb,e]
 exact IntWalk.i64_in _ (by omega)
def tailF(F:Nat->Int)(o L:Nat)(f:Nat->Int)(k:Nat):Nat->Int:=fun p=>if o+(L-k)<=p/\p<o+L then f (p-o) else F p
theorem tailF_zero(F:Nat->Int)(o L:Nat)(f:Nat->Int):tailF F o L f 0=F:=by
 funext p
 unfold tailF
 rw [if_neg (by omega)]
theorem tailF_all(F:Nat->Int)(o L:Nat)(f:Nat->Int):tailF F o L f L=patch F o L f:=by
 funext p
 unfold tailF patch
 rw [Nat.sub_self]
 rfl
theorem tailF_step(F:Nat->Int)(o L:Nat)(f:Nat->Int)(k:Nat)(hk:k<L):(fun p=>if p=o+(L-1-k) then f (L-1-k) else tailF F o L f k p)=tailF F o L f (k+1):=by
 funext p
 unfold tailF
 by_cases e:p=o+(L-1-k)
 ·rw [if_pos e,if_pos (by omega),e,show o+(L-1-k)-o=L-1-k by omega]
 ·rw [if_neg e]
  by_cases h:o+(L-k)<=p/\p<o+L
  ·rw [if_pos h,if_pos (by omega)]
  ·rw [if_neg h,if_neg (by omega)]
set_option maxHeartbeats 2000000 in
theorem put_any(g o m cap L:Nat)(F:Nat->Int)(v:Int)(w:World)(hL:L=1\/L=2\/L=4)(ho:o+L<=m)(h:UAt w g m F)(hv:0<=v)(hv2:v<=9223372036854775807):
  Calls Tryz.prog 159 #[.slice (some ⟨g,o,none⟩) L cap,.int .i64 v] w fun e w'=>e = .returned (.tuple #[])/\UAt w' g m (patch F o L (be L v))/\Kept (fun q=>q≠g) w w':=by
 have H0:=zH (show UAt w g m (tailF F o L (be L v) 0) by rw [tailF_zero];exact h)
 have HK0:=zH (Kept.refl (fun q=>q≠g) w)
 have HV:=zH (And.intro hv hv2)
 clear h hv hv2
 rcases hL with rfl | rfl | rfl
 all_goals
  go_enter Tryz.func159,Tryz.ntmps159
  go_wp2_with fail
 ·go_loopw [7] (fun iv wr=>∃k:Nat,k<=1/\iv = .int .i64 k/\Hid (UAt wr g m (tailF F o 1 (be 1 v) k))/\Hid (Kept (fun q=>q≠g) w wr)) (fun i _=>1-(intOf i).toNat)
  case atStart=>exact⟨0,by omega,by go_num,H0,HK0⟩
  case round=>
   clear H0 HK0
   obtain⟨k,hk,rfl,HU,HK⟩:=hrel
   have HB:=zH (be_bd 1 v)
   match k,hk with
   | 0,_=>
    have c0:=HU.out.at_ (o+0) (by omega)
    have f0:=HU.out.fz (o+0) (by omega)
    rw [Nat.add_zero] at c0 f0
    have hbe:be 1 v 0=v%256:=by
     show v/1%256=_
     omega
    have HS:=zH (show UAt (wr.setCell ⟨g,o,none⟩ (.int .u8 (v%256))) g m (tailF F o 1 (be 1 v) 1) from(HU.out.set (o+0) (by omega) (v%256)).ext fun p _=>by
     rw [←tailF_step F o 1 (be 1 v) 0 (by omega),←hbe])
    have HK2:=zH (HK.out.trans (Kept.setCell (X:=fun q=>q≠g) wr (a:=⟨g,o,none⟩) (fun e=>e rfl) (.int .u8 (v%256))))
    have hv0:=HV.out.1
    have hv1:=HV.out.2
    clear HU HK hbe HB
    generalize tailF F o 1 (be 1 v) 0 o=u at *
    go_wp2_with fail
    go_roundw
    case rel=>exact⟨1,by omega,by go_num,HS,HK2⟩
    case measure=>simp [intOf]
   | 1,_=>
    rw [tailF_all] at HU
    go_wp2_with fail
    go_end0
    exact⟨rfl,HU.out,HK.out⟩
 ·go_loopw [7] (fun iv wr=>∃k:Nat,k<=2/\iv = .int .i64 k/\Hid (UAt wr g m (tailF F o 2 (be 2 v) k))/\Hid (Kept (fun q=>q≠g) w wr)) (fun i _=>2-(intOf i).toNat)
  case atStart=>exact⟨0,by omega,by go_num,H0,HK0⟩
  case round=>
   clear H0 HK0
   obtain⟨k,hk,rfl,HU,HK⟩:=hrel
   have HB:=zH (be_bd 2 v)
   match k,hk with
   | 0,_=>
    have c0:=HU.out.at_ (o+1) (by omega)
    have f0:=HU.out.fz (o+1) (by omega)
    have hbe:be 2 v 1=v%256:=by
     show v/1%256=_
     omega
    have HS:=zH (show UAt (wr.setCell ⟨g,o+1,none⟩ (.int .u8 (v%256))) g m (tailF F o 2 (be 2 v) 1) from(HU.out.set (o+1) (by omega) (v%256)).ext fun p _=>by
     rw [←tailF_step F o 2 (be 2 v) 0 (by omega),←hbe])
    have HK2:=zH (HK.out.trans (Kept.setCell (X:=fun q=>q≠g) wr (a:=⟨g,o+1,none⟩) (fun e=>e rfl) (.int .u8 (v%256))))
    have hv0:=HV.out.1
    have hv1:=HV.out.2
    clear HU HK hbe HB
    generalize tailF F o 2 (be 2 v) 0 (o+1)=u at *
    go_wp2_with fail
    go_roundw
    case rel=>exact⟨1,by omega,by go_num,HS,HK2⟩
    case measure=>simp [intOf]
   | 1,_=>
    have c0:=HU.out.at_ (o+0) (by omega)
    have f0:=HU.out.fz (o+0) (by omega)
    rw [Nat.add_zero] at c0 f0
    have hbe:be 2 v 0=v/256%256:=by
     show v/256%256=_
     omega
    have HS:=zH (show UAt (wr.setCell ⟨g,o,none⟩ (.int .u8 (v/256%256))) g m (tailF F o 2 (be 2 v) 2) from(HU.out.set (o+0) (by omega) (v/256%256)).ext fun p _=>by
     rw [←tailF_step F o 2 (be 2 v) 1 (by omega),←hbe])
    have HK2:=zH (HK.out.trans (Kept.setCell (X:=fun q=>q≠g) wr (a:=⟨g,o,none⟩) (fun e=>e rfl) (.int .u8 (v/256%256))))
    have hv0:=HV.out.1
    have hv1:=HV.out.2
    clear HU HK hbe HB
    generalize tailF F o 2 (be 2 v) 1 o=u at *
    go_wp2_with fail
    go_roundw
    case rel=>exact⟨2,by omega,by go_num,HS,HK2⟩
    case measure=>simp [intOf]
   | 2,_=>
    rw [tailF_all] at HU
    go_wp2_with fail
    go_end0
    exact⟨rfl,HU.out,HK.out⟩
 ·go_loopw [7] (fun iv wr=>∃k:Nat,k<=4/\iv = .int .i64 k/\Hid (UAt wr g m (tailF F o 4 (be 4 v) k))/\Hid (Kept (fun q=>q≠g) w wr)) (fun i _=>4-(intOf i).toNat)
  case atStart=>exact⟨0,by omega,by go_num,H0,HK0⟩
  case round=>
   clear H0 HK0
   obtain⟨k,hk,rfl,HU,HK⟩:=hrel
   have HB:=zH (be_bd 4 v)
   match k,hk with
   | 0,_=>
    have c0:=HU.out.at_ (o+3) (by omega)
    have f0:=HU.out.fz (o+3) (by omega)
    have hbe:be 4 v 3=v%256:=by
     show v/1%256=_
     omega
    have HS:=zH (show UAt (wr.setCell ⟨g,o+3,none⟩ (.int .u8 (v%256))) g m (tailF F o 4 (be 4 v) 1) from(HU.out.set (o+3) (by omega) (v%256)).ext fun p _=>by
     rw [←tailF_step F o 4 (be 4 v) 0 (by omega),←hbe])
    have HK2:=zH (HK.out.trans (Kept.setCell (X:=fun q=>q≠g) wr (a:=⟨g,o+3,none⟩) (fun e=>e rfl) (.int .u8 (v%256))))
    have hv0:=HV.out.1
    have hv1:=HV.out.2
    clear HU HK hbe HB
    generalize tailF F o 4 (be 4 v) 0 (o+3)=u at *
    go_wp2_with fail
    go_roundw
    case rel=>exact⟨1,by omega,by go_num,HS,HK2⟩
    case measure=>simp [intOf]
   | 1,_=>
    have c0:=HU.out.at_ (o+2) (by omega)
    have f0:=HU.out.fz (o+2) (by omega)
    have hbe:be 4 v 2=v/256%256:=by
     show v/256%256=_
     omega
    have HS:=zH (show UAt (wr.setCell ⟨g,o+2,none⟩ (.int .u8 (v/256%256))) g m (tailF F o 4 (be 4 v) 2) from(HU.out.set (o+2) (by omega) (v/256%256)).ext fun p _=>by
     rw [←tailF_step F o 4 (be 4 v) 1 (by omega),←hbe])
    have HK2:=zH (HK.out.trans (Kept.setCell (X:=fun q=>q≠g) wr (a:=⟨g,o+2,none⟩) (fun e=>e rfl) (.int .u8 (v/256%256))))
    have hv0:=HV.out.1
    have hv1:=HV.out.2
    clear HU HK hbe HB
    generalize tailF F o 4 (be 4 v) 1 (o+2)=u at *
    go_wp2_with fail
    go_roundw
    case rel=>exact⟨2,by omega,by go_num,HS,HK2⟩
    case measure=>simp [intOf]
   | 2,_=>
    have c0:=HU.out.at_ (o+1) (by omega)
    have f0:=HU.out.fz (o+1) (by omega)
    have hbe:be 4 v 1=v/65536%256:=by
     show v/65536%256=_
     omega
    have HS:=zH (show UAt (wr.setCell ⟨g,o+1,none⟩ (.int .u8 (v/65536%256))) g m (tailF F o 4 (be 4 v) 3) from(HU.out.set (o+1) (by omega) (v/65536%256)).ext fun p _=>by
     rw [←tailF_step F o 4 (be 4 v) 2 (by omega),←hbe])
    have HK2:=zH (HK.out.trans (Kept.setCell (X:=fun q=>q≠g) wr (a:=⟨g,o+1,none⟩) (fun e=>e rfl) (.int .u8 (v/65536%256))))
    have hv0:=HV.out.1
    have hv1:=HV.out.2
    clear HU HK hbe HB
    generalize tailF F o 4 (be 4 v) 2 (o+1)=u at *
    go_wp2_with fail
    go_roundw
    case rel=>exact⟨3,by omega,by go_num,HS,HK2⟩
    case measure=>simp [intOf]
   | 3,_=>
    have c0:=HU.out.at_ (o+0) (by omega)
    have f0:=HU.out.fz (o+0) (by omega)
    rw [Nat.add_zero] at c0 f0
    have hbe:be 4 v 0=v/16777216%256:=by
     show v/16777216%256=_
     omega
    have HS:=zH (show UAt (wr.setCell ⟨g,o,none⟩ (.int .u8 (v/16777216%256))) g m (tailF F o 4 (be 4 v) 4) from(HU.out.set (o+0) (by omega) (v/16777216%256)).ext fun p _=>by
     rw [←tailF_step F o 4 (be 4 v) 3 (by omega),←hbe])
    have HK2:=zH (HK.out.trans (Kept.setCell (X:=fun q=>q≠g) wr (a:=⟨g,o,none⟩) (fun e=>e rfl) (.int .u8 (v/16777216%256))))
    have hv0:=HV.out.1
    have hv1:=HV.out.2
    clear HU HK hbe HB
    generalize tailF F o 4 (be 4 v) 3 o=u at *
    go_wp2_with fail
    go_roundw
    case rel=>exact⟨4,by omega,by go_num,HS,HK2⟩
    case measure=>simp [intOf]
   | 4,_=>
    rw [tailF_all] at HU
    go_wp2_with fail
    go_end0
    exact⟨rfl,HU.out,HK.out⟩
set_option maxHeartbeats 1000000 in
theorem get_any(p:Option Addr)(n cap:Nat)(F:Nat->Int)(w:World)(hn:n<=5)(hs:SlU w p n F)(hb:Byt F n):
  Calls Tryz.prog 66 #[.slice p n cap] w fun e w'=>e = .returned (.int .i64 (numTo F n))/\w=w':=by
 have HS:=zH hs
 have HB:=zH hb
 clear hs hb
 go_enter Tryz.func66,Tryz.ntmps66
 go_wp2_with fail
 go_loop [3,8] (fun t i=>∃k:Nat,k<=n/\i = .int .i64 k/\t = .int .i64 (numTo F k)) (fun _ i=>n-(intOf i).toNat)
 case atStart=>exact⟨0,by omega,rfl,rfl⟩
 case round=>
  obtain⟨k,hk,rfl,rfl⟩:=hrel
  by_cases hkn:k<n
  ·obtain⟨g,o,rfl,_,hc⟩:=HS.out (by omega)
   have ck:=hc k hkn
   have hbk:=HB.out k hkn
   have hnb:=numTo_bd (F:=F) (w:=k) (fun j hj=>HB.out j (by omega))
   have hp:(256:Int) ^ k<=4294967296:=by
    match k,hkn,hn with
    | 0,_,_=>decide
    | 1,_,_=>decide
    | 2,_,_=>decide
    | 3,_,_=>decide
    | 4,_,_=>decide
    | k+5,_,_=>omega
   have hb2:numTo F k<4294967296:=Int.lt_of_lt_of_le hnb.2 hp
   obtain⟨V,hV⟩:=Int.eq_ofNat_of_zero_le hnb.1
   obtain⟨C,hC⟩:=Int.eq_ofNat_of_zero_le hbk.1
   have hnx:numTo F (k+1)=((V*256+C:Nat):Int):=by
    show numTo F k*256+F k=_
    rw [hV,hC]
    omega
   have HN:=zH hnx
   rw [hV] at hb2 ⊢
   rw [hC] at hbk ck
   have e1:=or_low V C (by omega) (by omega)
   have e2:((V*256:Nat):Int)=(V:Int)*256:=by omega
   rw [e2] at e1
   clear hc hnb hp hV hC hnx e2 HS HB
   generalize ((V*256+C:Nat):Int)=r at *
   go_wp2_with fail
   go_round
   case rel=>exact⟨k+1,by omega,by go_num,by rw [HN.out]⟩
   case measure=>simp [intOf];omega
  ·obtain rfl:k=n:=by omega
   clear HS HB
   obtain⟨r,hr⟩:∃r,r=numTo F k:=⟨_,rfl⟩
   have HR:=zH hr
   rw [←hr]
   clear hr
   go_wp2_with fail
   go_ret
   exact⟨by rw [←HR.out];rfl,rfl⟩
theorem Dir_any(n:Nat)(w:World)(hn:n<=1099511627776):Calls Tryz.prog 67 #[.int .i64 n] w fun e w'=>e = .returned (.int .i64 ((20+64*n:Nat):Int))/\w=w':=by
 have e:((20+64*n:Nat):Int)=20+64*(n:Int):=by omega
 rw [e]
 go_enter Tryz.func67,Tryz.ntmps67
 go_wp2_with fail
 go_ret
 exact⟨ret_int (by omega),rfl⟩
theorem isSize_any(z:Int)(w:World):Calls Tryz.prog 113 #[.int .i64 z] w fun e w'=>e = .returned (.bool (decide (24<=z/\z<=96)))/\w=w':=by
 by_cases h1:24<=z <;> by_cases h2:z<=96
 all_goals
  have d1:decide (24<=z/\z<=96)=(decide (24<=z) && decide (z<=96)):=by simp
  rw [d1]
  go_enter Tryz.func113,Tryz.ntmps113
  go_wp2_with fail
  go_ret
  refine⟨?_,rfl⟩
  simp [h1,h2]
theorem upTo16_any(n:Nat)(w:World)(hn:n<=1099511627776):Calls Tryz.prog 109 #[.int .i64 n,.int .i64 16] w fun e w'=>e = .returned (.int .i64 (up16 n))/\w=w':=by
 have e1:((n:Int)+15).tdiv 16=(((n+15)/16:Nat):Int):=(tdiv_pos _ _ (by omega)).trans (by omega)
 have e2:(up16 n:Int)=(((n+15)/16:Nat):Int)*16:=by unfold up16;omega
 have e3:wrap64 (((n:Int)+15).tdiv 16)=(((n+15)/16:Nat):Int):=by rw [e1];exact IntWalk.wrap64_in _ (by omega)
 have e4:((n:Int)+15)/16=(((n+15)/16:Nat):Int):=by omega
 rw [e2]
 have hb:(n+15)/16<=137438953472:=by omega
 generalize (n+15)/16=q at *
 clear e1 e2
 go_enter Tryz.func109,Tryz.ntmps109
 go_wp2_with fail
 go_ret
 exact⟨ret_int (by first | rfl | rw [e4] | omega),rfl⟩
theorem upTo64_any(n:Nat)(w:World)(hn:n<=1099511627776):Calls Tryz.prog 109 #[.int .i64 n,.int .i64 64] w fun e w'=>e = .returned (.int .i64 (up64 n))/\w=w':=by
 have e1:((n:Int)+63).tdiv 64=(((n+63)/64:Nat):Int):=(tdiv_pos _ _ (by omega)).trans (by omega)
 have e2:(up64 n:Int)=(((n+63)/64:Nat):Int)*64:=by unfold up64;omega
 have e3:wrap64 (((n:Int)+63).tdiv 64)=(((n+63)/64:Nat):Int):=by rw [e1];exact IntWalk.wrap64_in _ (by omega)
 have e4:((n:Int)+63)/64=(((n+63)/64:Nat):Int):=by omega
 rw [e2]
 have hb:(n+63)/64<=137438953472:=by omega
 generalize (n+63)/64=q at *
 clear e1 e2
 go_enter Tryz.func109,Tryz.ntmps109
 go_wp2_with fail
 go_ret
 exact⟨ret_int (by first | rfl | rw [e4] | omega),rfl⟩
end Go.Proofs.YtgefdmfcddpaiaaGreatDoor
