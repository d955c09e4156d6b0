/- Texts joined: CrcPush. -/
import Derived.Test.YticpdokbiblpoaaGreatDoorChecked
import Derived.Test.YticpdokbiblpoaaGreatDoorPkAA
import Derived.Test.YticpdokbiblpoaaGreatDoorPkAE
import Derived.Test.YticpdokbiblpoaaGreatDoorTk
set_option linter.unusedVariables false
namespace Go.Proofs.YticpdokbiblpoaaGreatDoor.Crc
open Go.Proofs.Tryz
open Go.Proofs.Tryz renaming prog → zP
open Go.Value renaming int → vI
open Go.IntKind renaming i64 → iJ
open Go.Ending renaming returned → rJ
set_option maxRecDepth 100000
open Go.RowKit
theorem aEc(x:Nat)(hx:x<4294967296):bits .xor .u32 ((x:Int)/2) (3988292384*((x:Int)%2))=(step x:Nat):=by
 have h:=IK (x/2) (OP*(x%2)) zO (VW x);unfold step;rw[<-h];unfold OP;congr 1
theorem kG(x:Nat)(w:World)(hx:x<4294967296):
  Calls zP 195 #[.int .u32 x] w fun e w'=>e=rJ (.int .u32 (bQ x:Nat))/\w=w':=by
 go_enter func195,ntmps195;go_wp2
 go_loop [0,4] (fun r i=>∃k:Nat,k<=8/\i=vI iJ k/\r=.int .u32 (oK k x:Nat)) (fun _ i=>8-(intOf i).toNat)
 case atStart=>exact⟨0,zO,rfl,rfl⟩
 case round=>
  obtain⟨k,hk,rfl,rfl⟩:=hrel;have hs:=CD hx k;have hand:=PE (oK k x) hs;by_cases hlt:k<8
  ·have hst:=zH (aEc (oK k x) hs);go_wp2;go_round
   case rel=>exact⟨k+1,zO,by go_num,by rw[hst.o];rfl⟩
   case measure=>exact zM
  ·go_wp2;go_ret;obtain rfl:k=8:=zO;exact⟨rfl,rfl⟩
end Go.Proofs.YticpdokbiblpoaaGreatDoor.Crc
