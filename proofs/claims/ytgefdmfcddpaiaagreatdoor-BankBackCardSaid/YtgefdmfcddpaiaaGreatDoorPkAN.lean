/- Texts joined: CmpP. -/
import Derived.Lib.Bytealg
import Derived.Laws.Strings
import Derived.Test.YtgefdmfcddpaiaaGreatDoorPkAB
namespace Go.Proofs.YtgefdmfcddpaiaaGreatDoor
set_option linter.unusedVariables false
set_option maxRecDepth 100000
theorem u8_tri{a b:UInt8}(h1:¬a<b)(h2:¬b<a):a=b:=by
 rw [UInt8.lt_iff_toNat_lt] at h1 h2
 exact UInt8.toNat_inj.1 (by omega)
theorem u8_irr(a:UInt8):¬a<a:=by rw [UInt8.lt_iff_toNat_lt];omega
theorem u8_tr{a b c:UInt8}(h1:a<b)(h2:b<c):a<c:=by rw [UInt8.lt_iff_toNat_lt] at *;omega
theorem bl_cons(a b:UInt8)(x y:List UInt8):Op.bytesLess (a :: x) (b :: y)=true↔a<b\/(a=b/\Op.bytesLess x y=true):=by
 simp [Op.bytesLess]
theorem bl_irr:∀x:List UInt8,¬Op.bytesLess x x=true
 | []=>by simp [Op.bytesLess]
 | a :: x=>fun h=>by
  rcases(bl_cons _ _ _ _).1 h with h | ⟨_,h⟩
  ·exact u8_irr a h
  ·exact bl_irr x h
theorem bl_tr:∀x y z:List UInt8,Op.bytesLess x y=true->Op.bytesLess y z=true->Op.bytesLess x z=true
 | _,[],_,h,_=>by cases ‹List UInt8› <;> simp [Op.bytesLess] at h
 | _,_ :: _,[],_,h=>by simp [Op.bytesLess] at h
 | [],_ :: _,_ :: _,_,_=>by simp [Op.bytesLess]
 | a :: x,b :: y,c :: z,h1,h2=>by
  rw [bl_cons] at *
  rcases h1 with h1 | ⟨rfl,h1⟩
  ·rcases h2 with h2 | ⟨rfl,h2⟩
   ·exact .inl (u8_tr h1 h2)
   ·exact .inl h1
  ·rcases h2 with h2 | ⟨rfl,h2⟩
   ·exact .inl h2
   ·exact .inr ⟨rfl,bl_tr x y z h1 h2⟩
theorem bl_tri:∀x y:List UInt8,¬Op.bytesLess x y=true->¬Op.bytesLess y x=true->x=y
 | [],[],_,_=>rfl
 | [],_ :: _,h,_=>by simp [Op.bytesLess] at h
 | _ :: _,[],_,h=>by simp [Op.bytesLess] at h
 | a :: x,b :: y,h1,h2=>by
  rw [bl_cons] at h1 h2
  have e:a=b:=u8_tri (fun h=>h1 (.inl h)) (fun h=>h2 (.inl h))
  subst e
  rw [bl_tri x y (fun h=>h1 (.inr ⟨rfl,h⟩)) (fun h=>h2 (.inr ⟨rfl,h⟩))]
theorem cb_neg:∀x y:List UInt8,Lib.compareBytes x y<0↔Op.bytesLess x y=true
 | [],[]=>by simp [Lib.compareBytes,Op.bytesLess]
 | [],_ :: _=>by simp [Lib.compareBytes,Op.bytesLess]
 | _ :: _,[]=>by simp [Lib.compareBytes,Op.bytesLess]
 | a :: x,b :: y=>by
  rw [bl_cons]
  unfold Lib.compareBytes
  by_cases h1:a<b
  ·rw [if_pos h1];simp [h1]
  rw [if_neg h1]
  by_cases h2:b<a
  ·rw [if_pos h2]
   have hne:a≠b:=fun e=>by subst e;exact u8_irr a h2
   simp [h1,hne]
  rw [if_neg h2,cb_neg x y]
  have e:=u8_tri h1 h2
  simp [e]
def ltS(a b:ByteArray):Bool:=Op.bytesLess a.toList b.toList
theorem ltS_irr(a:ByteArray):ltS a a=false:=Bool.eq_false_iff.2 (bl_irr _)
theorem ltS_tr{a b c:ByteArray}(h1:ltS a b=true)(h2:ltS b c=true):ltS a c=true:=bl_tr _ _ _ h1 h2
theorem ltS_tri{a b:ByteArray}(h1:ltS a b=false)(h2:ltS b a=false):a=b:=by
 have h:=bl_tri a.toList b.toList (by unfold ltS at h1;rw [h1];simp) (by unfold ltS at h2;rw [h2];simp)
 rw [ByteArray.toList_eq,ByteArray.toList_eq] at h
 exact WideShapes.bytes_inj h
theorem ltS_asym{a b:ByteArray}(h:ltS a b=true):ltS b a=false:=by
 cases h2:ltS b a
 ·rfl
 ·have:=ltS_tr h h2;rw [ltS_irr] at this;cases this
theorem cmpS_neg(a b:ByteArray):Lib.compareBytes a.data.toList b.data.toList<0↔ltS a b=true:=by
 unfold ltS;rw [ByteArray.toList_eq,ByteArray.toList_eq];exact cb_neg _ _
theorem eqS(a b:ByteArray):(a.toList == b.toList)=decide (a=b):=by
 rw [Bool.eq_iff_iff]
 simp only [beq_iff_eq,decide_eq_true_eq]
 exact⟨fun h=>by rw [ByteArray.toList_eq,ByteArray.toList_eq] at h;exact WideShapes.bytes_inj h,fun h=>by rw [h]⟩
def nameR(K:Nat->ByteArray)(x y:Int):Prop:=ltS (K x.toNat) (K y.toNat)=true\/(ltS (K y.toNat) (K x.toNat)=false/\x<y)
theorem nameR_tr(K:Nat->ByteArray):∀x y z,nameR K x y->nameR K y z->nameR K x z:=by
 intro x y z h1 h2
 unfold nameR at *
 rcases h1 with h1 | ⟨h1,e1⟩
 ·rcases h2 with h2 | ⟨h2,e2⟩
  ·exact .inl (ltS_tr h1 h2)
  ·cases h:ltS (K y.toNat) (K z.toNat)
   ·have e:=ltS_tri h h2
    rw [←e];exact .inl h1
   ·exact .inl (ltS_tr h1 h)
 ·cases h:ltS (K x.toNat) (K y.toNat)
  ·have e:=ltS_tri h h1
   rw [e]
   rcases h2 with h2 | ⟨h2,e2⟩
   ·exact .inl h2
   ·exact .inr ⟨h2,by omega⟩
  ·rcases h2 with h2 | ⟨h2,e2⟩
   ·exact .inl (ltS_tr h h2)
   ·cases h3:ltS (K y.toNat) (K z.toNat)
    ·have e:=ltS_tri h3 h2
     rw [←e];exact .inl h
    ·exact .inl (ltS_tr h h3)
end Go.Proofs.YtgefdmfcddpaiaaGreatDoor
