/- Texts joined: WidthL. -/
import Derived.Test.YticpdokbiblpoaaGreatDoorShelf
import Derived.Test.YticpdokbiblpoaaGreatDoorPkAB
import Derived.Test.YticpdokbiblpoaaGreatDoorTk
set_option linter.unusedVariables false
namespace Go.Proofs.YticpdokbiblpoaaGreatDoor
open Go.Proofs.Tryz
open Go.Proofs.Tryz renaming prog → zP
open Go.Value renaming int → vI
open Go.IntKind renaming i64 → iJ
open Go.Ending renaming returned → rJ
set_option maxRecDepth 100000
open Go.ChangeShapes Go.WideShapes Go.ChangeAt Go.RowKit
theorem pT(f:Nat):Lib.bitLenAux f 0=0:=by cases f <;> rfl
theorem lB(f y:Nat)(h:y≠0):Lib.bitLenAux (f+1) y=1+Lib.bitLenAux f (y/2):=by
 show (if y=0 then 0 else 1+Lib.bitLenAux f (y/2))=_;rw[if_neg h]
theorem yM(f:Nat):∀y,y<2 ^ f->Lib.bitLenAux (f+1) y=Lib.bitLenAux f y:=by
 induction f with
 | zero=>
  intro y hy;obtain rfl:y=0:=zO;rfl
 | succ f ih=>
  intro y hy;by_cases h:y=0
  ·subst h;rw[pT,pT]
  ·rw[lB _ _ h,lB _ _ h,ih (y/2) (by rw[Nat.pow_succ]at hy;omega)]
theorem wX(x:Nat)(h:0<x)(h2:x<18446744073709551616):Lib.bitLen x=Lib.bitLen (x/2)+1:=by
 show Lib.bitLenAux (63+1) x=Lib.bitLenAux (63+1) (x/2)+1;rw[lB 63 x zO,yM 63 (x/2) zO];omega
theorem EZ(x:Nat):Lib.bitLen x<=64:=by
 have:∀f y,Lib.bitLenAux f y<=f:=by
  intro f
  induction f with
  | zero=>intro y;exact Nat.le_refl _
  | succ f ih=>intro y;rw[Lib.bitLenAux];split;omega;have:=ih (y/2);omega
 exact this 64 x
theorem aFj(v:Int)(h1:-9223372036854775808<=v)(h2:v<=9223372036854775807):bits .xor .i64 (-1) v = -(v+1):=by
 show IntKind.i64.wrap ((BitVec.ofInt 64 (-1) ^^^ BitVec.ofInt 64 v).toNat:Int)=_;have e:BitVec.ofInt 64 (-1) ^^^ BitVec.ofInt 64 v = ~~~ BitVec.ofInt 64 v:=by
  rw[show BitVec.ofInt 64 (-1)=BitVec.allOnes 64 from rfl,BitVec.allOnes_xor]
 have e':(((2:Nat) ^ 64:Nat):Int)=18446744073709551616:=rfl;have l:=(BitVec.ofInt 64 v).isLt;have e3:(((BitVec.ofInt 64 v).toNat:Nat):Int)=v%18446744073709551616:=by
  rw[BitVec.toNat_ofInt,e',Int.toNat_of_nonneg (Int.emod_nonneg _ zD)]
 rw[e,BitVec.toNat_not,IntKind.wrap_i64];generalize (BitVec.ofInt 64 v).toNat=n at *;omega
def upW(v:Int):Int:=if v<0 then -(v+1) else v
def eS(v:Int):Int:=if v=0 then 0 else Lib.bitLen (upW v).toNat+1
theorem uS(v:Int)(w:World)(h1:-9223372036854775808<=v)(h2:v<=9223372036854775807):
  Calls zP 221 #[vI iJ v] w fun e w'=>e=rJ (vI iJ (eS v))/\w=w':=by
 by_cases c0:v=0
 ·subst c0;go_enter func221,ntmps221;go_wp2;go_ret;exact⟨rfl,rfl⟩
 ·unfold eS;rw[if_neg c0];have c1:(v == 0)=false:=by simpa using c0
  have hl:=EZ (upW v).toNat
  have hL:=zH (Tryz.bits_Len64 (upW v) w (by unfold upW;split <;> omega) (by unfold upW;split <;> omega));generalize Lib.bitLen (upW v).toNat=n at *;unfold upW at hL;by_cases c:v<0
  ·rw[if_pos c]at hL;have e1:IntKind.u64.wrap (bits BinOp.xor iJ (-1) v) = -(v+1):=by rw[aFj v h1 h2,IntKind.wrap_u64];omega
   go_enter func221,ntmps221
   go_wp2_with fail
   refine hL.o.mono ?_;rintro e w' ⟨rfl,rfl⟩;go_wp2;go_ret;exact⟨rfl,rfl⟩
  ·rw[if_neg c]at hL;have c2:0<=v:=zO;clear c c0;go_enter func221,ntmps221
   go_wp2_with fail
   refine hL.o.mono ?_;rintro e w' ⟨rfl,rfl⟩;go_wp2;go_ret;exact⟨rfl,rfl⟩
theorem qS(v:Int):0<=eS v/\eS v<=65:=by
 unfold eS;have:=EZ (upW v).toNat
 split <;> omega
end Go.Proofs.YticpdokbiblpoaaGreatDoor
