/- Texts joined: CmpP. -/
import Derived.Lib.Bytealg
import Derived.Laws.Strings
import Derived.Test.YticpdokbiblpoaaGreatDoorPkAB
import Derived.Test.YticpdokbiblpoaaGreatDoorTk
set_option linter.unusedVariables false
namespace Go.Proofs.YticpdokbiblpoaaGreatDoor
set_option maxRecDepth 100000
theorem aCl{a b:UInt8}(h1:¬a<b)(h2:¬b<a):a=b:=by
 rw[UInt8.lt_iff_toNat_lt]at h1 h2;exact UInt8.toNat_inj.1 zO
theorem aCN(a:UInt8):¬a<a:=by rw[UInt8.lt_iff_toNat_lt];omega
theorem aIa{a b c:UInt8}(h1:a<b)(h2:b<c):a<c:=by rw[UInt8.lt_iff_toNat_lt]at *;omega
theorem xV(a b:UInt8)(x y:List UInt8):Op.bytesLess (a :: x) (b :: y)=true↔a<b\/(a=b/\Op.bytesLess x y=true):=by
 simp[Op.bytesLess]
theorem aBp:∀x:List UInt8,¬Op.bytesLess x x=true
 | []=>by simp[Op.bytesLess]
 | a :: x=>fun h=>by
  rcases(xV _ _ _ _).1 h with h | ⟨_,h⟩
  ·exact aCN a h
  ·exact aBp x h
theorem aGM:∀x y z:List UInt8,Op.bytesLess x y=true->Op.bytesLess y z=true->Op.bytesLess x z=true
 | _,[],_,h,_=>by cases ‹List UInt8› <;> simp[Op.bytesLess]at h
 | _,_ :: _,[],_,h=>by simp[Op.bytesLess]at h
 | [],_ :: _,_ :: _,_,_=>by simp[Op.bytesLess]
 | a :: x,b :: y,c :: z,h1,h2=>by
  rw[xV]at *;rcases h1 with h1 | ⟨rfl,h1⟩
  ·rcases h2 with h2 | ⟨rfl,h2⟩
   ·exact .inl (aIa h1 h2)
   ·exact .inl h1
  ·rcases h2 with h2 | ⟨rfl,h2⟩
   ·exact .inl h2
   ·exact .inr ⟨rfl,aGM x y z h1 h2⟩
theorem aBD:∀x y:List UInt8,¬Op.bytesLess x y=true->¬Op.bytesLess y x=true->x=y
 | [],[],_,_=>rfl
 | [],_ :: _,h,_=>by simp[Op.bytesLess]at h
 | _ :: _,[],_,h=>by simp[Op.bytesLess]at h
 | a :: x,b :: y,h1,h2=>by
  rw[xV]at h1 h2;have e:a=b:=aCl (fun h=>h1 (.inl h)) (fun h=>h2 (.inl h));subst e;rw[aBD x y (fun h=>h1 (.inr ⟨rfl,h⟩)) (fun h=>h2 (.inr ⟨rfl,h⟩))]
theorem aEm:∀x y:List UInt8,Lib.compareBytes x y<0↔Op.bytesLess x y=true
 | [],[]=>by simp[Lib.compareBytes,Op.bytesLess]
 | [],_ :: _=>by simp[Lib.compareBytes,Op.bytesLess]
 | _ :: _,[]=>by simp[Lib.compareBytes,Op.bytesLess]
 | a :: x,b :: y=>by
  rw[xV];unfold Lib.compareBytes;by_cases h1:a<b
  ·rw[if_pos h1];simp[h1]
  rw[if_neg h1];by_cases h2:b<a
  ·rw[if_pos h2];have hne:a≠b:=fun e=>by subst e;exact aCN a h2
   simp[h1,hne]
  rw[if_neg h2,aEm x y];have e:=aCl h1 h2;simp[e]
def sP(a b:ByteArray):Bool:=Op.bytesLess a.toList b.toList
theorem jT(a:ByteArray):sP a a=false:=Bool.eq_false_iff.2 (aBp _)
theorem pO{a b c:ByteArray}(h1:sP a b=true)(h2:sP b c=true):sP a c=true:=aGM _ _ _ h1 h2
theorem qP{a b:ByteArray}(h1:sP a b=false)(h2:sP b a=false):a=b:=by
 have h:=aBD a.toList b.toList (by unfold sP at h1;rw[h1];simp) (by unfold sP at h2;rw[h2];simp);rw[ByteArray.toList_eq,ByteArray.toList_eq]at h;exact WideShapes.bytes_inj h
theorem aEi{a b:ByteArray}(h:sP a b=true):sP b a=false:=by
 cases h2:sP b a
 ·rfl
 ·have:=pO h h2;rw[jT]at this;cases this
theorem BG(a b:ByteArray):Lib.compareBytes a.data.toList b.data.toList<0↔sP a b=true:=by
 unfold sP;rw[ByteArray.toList_eq,ByteArray.toList_eq];exact aEm _ _
theorem eqS(a b:ByteArray):(a.toList == b.toList)=decide (a=b):=by
 rw[Bool.eq_iff_iff];simp only[beq_iff_eq,decide_eq_true_eq];exact⟨fun h=>by rw[ByteArray.toList_eq,ByteArray.toList_eq]at h;exact WideShapes.bytes_inj h,fun h=>by rw[h]⟩
def lL(K:Nat->ByteArray)(x y:Int):Prop:=sP (K x.toNat) (K y.toNat)=true\/(sP (K y.toNat) (K x.toNat)=false/\x<y)
theorem PK(K:Nat->ByteArray):∀x y z,lL K x y->lL K y z->lL K x z:=by
 intro x y z h1 h2;unfold lL at *;rcases h1 with h1 | ⟨h1,e1⟩
 ·rcases h2 with h2 | ⟨h2,e2⟩
  ·exact .inl (pO h1 h2)
  ·cases h:sP (K y.toNat) (K z.toNat)
   ·have e:=qP h h2;rw[<-e];exact .inl h1
   ·exact .inl (pO h1 h)
 ·cases h:sP (K x.toNat) (K y.toNat)
  ·have e:=qP h h1;rw[e];rcases h2 with h2 | ⟨h2,e2⟩
   ·exact .inl h2
   ·exact .inr ⟨h2,zO⟩
  ·rcases h2 with h2 | ⟨h2,e2⟩
   ·exact .inl (pO h h2)
   ·cases h3:sP (K y.toNat) (K z.toNat)
    ·have e:=qP h3 h2;rw[<-e];exact .inl h
    ·exact .inl (pO h h3)
end Go.Proofs.YticpdokbiblpoaaGreatDoor
