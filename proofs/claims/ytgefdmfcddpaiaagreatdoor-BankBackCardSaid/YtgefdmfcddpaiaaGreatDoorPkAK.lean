/- Texts joined: CrcPush. -/
import Derived.Test.YtgefdmfcddpaiaaGreatDoorChecked
import Derived.Test.YtgefdmfcddpaiaaGreatDoorPkAA
import Derived.Test.YtgefdmfcddpaiaaGreatDoorPkAE
import Derived.Test.YtgefdmfcddpaiaaGreatDoorTk
namespace Go.Proofs.YtgefdmfcddpaiaaGreatDoor.Crc
set_option linter.unusedVariables false
set_option maxRecDepth 100000
open Go.RowKit
theorem step_int(x:Nat)(hx:x<4294967296):bits .xor .u32 ((x:Int)/2) (3988292384*((x:Int)%2))=(step x:Nat):=by
 have h:=u32_xor (x/2) (poly*(x%2)) (by omega) (polyMul x)
 unfold step
 rw [←h]
 unfold poly
 congr 1
theorem push_any(x:Nat)(w:World)(hx:x<4294967296):
  Calls Tryz.prog 208 #[.int .u32 x] w fun e w'=>e = .returned (.int .u32 (push x:Nat))/\w=w':=by
 go_enter Tryz.func208,Tryz.ntmps208
 go_wp2
 go_loop [0,4] (fun r i=>∃k:Nat,k<=8/\i = .int .i64 k/\r = .int .u32 (steps k x:Nat)) (fun _ i=>8-(intOf i).toNat)
 case atStart=>exact⟨0,by omega,rfl,rfl⟩
 case round=>
  obtain⟨k,hk,rfl,rfl⟩:=hrel
  have hs:=steps_lt hx k
  have hand:=u32_and_one (steps k x) hs
  by_cases hlt:k<8
  ·have hst:=zH (step_int (steps k x) hs)
   go_wp2
   go_round
   case rel=>exact⟨k+1,by omega,by go_num,by rw [hst.out];rfl⟩
   case measure=>simp [intOf];omega
  ·go_wp2
   go_ret
   obtain rfl:k=8:=by omega
   exact⟨rfl,rfl⟩
end Go.Proofs.YtgefdmfcddpaiaaGreatDoor.Crc
