/- Texts joined: ConvL. -/
import Derived.Lib.Bytes
import Derived.Laws.BytesArg
import Derived.Test.YticpdokbiblpoaaGreatDoorPkAA
import Derived.Test.YticpdokbiblpoaaGreatDoorPkAC
import Derived.Test.YticpdokbiblpoaaGreatDoorTk
set_option linter.unusedVariables false
namespace Go.Proofs.YticpdokbiblpoaaGreatDoor
open Go.Proofs.Tryz
open Go.Proofs.Tryz renaming prog → zP
open Go.Value renaming int → vI
open Go.IntKind renaming i64 → iJ
open Go.Ending renaming returned → rJ
set_option maxRecDepth 100000
open Go.RowKit Go.ChangeShapes Go.WideShapes
theorem TG{P:Program}(w:World)(src e:TypeId)(hs:P.underlying src=some (.slice e))(he:P.underlying e=some (.int .u8))(p:Option Addr)(c:Nat):
  ∀dst,P.underlying dst=some .string->(convert src dst (.slice p 0 c)).run P w=.ok (.string ByteArray.empty) w:=by
 intro dst hd;rw[run_convert_bytes_string w src dst e _ 0 c hs he hd];cases p <;> simp[Conv.bytesToString,loadCells]
 all_goals rfl
theorem PL{w:World}{v:Value}{xs:List Int}(h:kK w .u8 v xs):(convert 34 9 v).run zP w=.ok (.string (strOfNums xs)) w:=by
 obtain⟨p,cap,rfl,h⟩:=h;by_cases hne:xs = []
 ·subst hne;exact TG w 34 5 underlying34 underlying5 p cap 9 underlying9
 ·obtain⟨b,off,rfl,_,_,_,hc⟩:=h hne;exact run_convert_bytes_arg w 34 5 underlying34 underlying5 b off xs.length cap xs rfl hc 9 underlying9
theorem DZ{P:Program}{ops:Array Oper}{S:World->Prop}{op:Oper}{a:Act}(hw:Region.wanted op (yielded ops a.tmps)=true)(src dst:TypeId)(x:Operand)(ho:op.op=.convert src dst x)(v:Value)
  (hS:∀w,S w->(convert src dst (a.eval x)).run P w=.ok v w):YieldsIf P ops S op v a:=
 .inl ⟨hw,fun w hw'=>by
  unfold execOp;simp only[ho,Sem.run_bind,hS w hw',Result.andThen_ok,Sem.run_pure]⟩
end Go.Proofs.YticpdokbiblpoaaGreatDoor
