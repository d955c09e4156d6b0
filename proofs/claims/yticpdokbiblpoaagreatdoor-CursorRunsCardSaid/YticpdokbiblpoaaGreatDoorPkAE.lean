/- Texts joined: Pack, Crc. -/
import Derived.WalkKit
import Derived.Laws.BitsAllLaws
import Derived.Laws.BitsLemmas
import Derived.Test.YticpdokbiblpoaaGreatDoorTk
set_option linter.unusedVariables false
namespace Go.Proofs.YticpdokbiblpoaaGreatDoor
set_option maxRecDepth 100000
open Go.RowKit
def bi(b:Bool):Int:=if b then 1 else 0
theorem rM:bi false=0:=rfl
theorem iK(b:Bool):0<=bi b/\bi b<=1:=by cases b <;> simp[bi]
def dI(L:List Bool)(i:Nat):Int:=
 128*bi (L.getD (8*i) false)+64*bi (L.getD (8*i+1) false)+32*bi (L.getD (8*i+2) false)+16*bi (L.getD (8*i+3) false)
  + 8*bi (L.getD (8*i+4) false)+4*bi (L.getD (8*i+5) false)+2*bi (L.getD (8*i+6) false)+bi (L.getD (8*i+7) false)
def nb(L:List Bool):Nat:=(L.length+7)/8
def bytesOf(L:List Bool):List Int:=(List.range (nb L)).map (dI L)
theorem tE(L:List Bool)(i:Nat):0<=dI L i/\dI L i<=255:=by
 unfold dI;have h0:=iK (L.getD (8*i) false);have h1:=iK (L.getD (8*i+1) false);have h2:=iK (L.getD (8*i+2) false);have h3:=iK (L.getD (8*i+3) false);have h4:=iK (L.getD (8*i+4) false);have h5:=iK (L.getD (8*i+5) false);have h6:=iK (L.getD (8*i+6) false);have h7:=iK (L.getD (8*i+7) false);omega
theorem aH(L:List Bool)(i:Nat)(h:L.length<=i):L.getD i false=false:=by
 rw[List.getD_eq_getElem?_getD,List.getElem?_eq_none h];rfl
theorem aC(L:List Bool)(x:Bool)(i:Nat)(h:i≠L.length):(L ++ [x]).getD i false=L.getD i false:=by
 rcases Nat.lt_or_ge i L.length with h1 | h1
 ·simp[List.getD_eq_getElem?_getD,List.getElem?_append_left h1]
 ·rw[aH L i h1,aH _ i (by simp;omega)]
theorem JI(L:List Bool)(x:Bool):(L ++ [x]).getD L.length false=x:=by
 simp[List.getD_eq_getElem?_getD]
theorem pL(L:List Bool)(x:Bool)(i:Nat)(h:i≠L.length/8):dI (L ++ [x]) i=dI L i:=by
 unfold dI;rw[aC L x _ zO,aC L x _ zO,aC L x _ zO,aC L x _ zO,aC L x _ zO,aC L x _ zO,aC L x _ zO,aC L x _ zO]
theorem aBH(n:Nat):n%8=0\/n%8=1\/n%8=2\/n%8=3\/n%8=4\/n%8=5\/n%8=6\/n%8=7:=zO
theorem wQ(L:List Bool)(x:Bool):dI (L ++ [x]) (L.length/8)=dI L (L.length/8)+bi x*2 ^ (7-L.length%8):=by
 have E:=JI L x;have Z:=aH L L.length (Nat.le_refl _);generalize hq:L.length/8=q;unfold dI;rcases aBH L.length with h | h | h | h | h | h | h | h <;> rw[h]
 ·rw[show 8*q=L.length by omega,E,Z];rw[aC L x _ zO,aC L x _ zO,aC L x _ zO,aC L x _ zO,aC L x _ zO,aC L x _ zO,aC L x _ zO];simp only[rM];omega
 ·rw[show 8*q+1=L.length by omega,E,Z];rw[aC L x _ zO,aC L x _ zO,aC L x _ zO,aC L x _ zO,aC L x _ zO,aC L x _ zO,aC L x _ zO];simp only[rM];omega
 ·rw[show 8*q+2=L.length by omega,E,Z];rw[aC L x _ zO,aC L x _ zO,aC L x _ zO,aC L x _ zO,aC L x _ zO,aC L x _ zO,aC L x _ zO];simp only[rM];omega
 ·rw[show 8*q+3=L.length by omega,E,Z];rw[aC L x _ zO,aC L x _ zO,aC L x _ zO,aC L x _ zO,aC L x _ zO,aC L x _ zO,aC L x _ zO];simp only[rM];omega
 ·rw[show 8*q+4=L.length by omega,E,Z];rw[aC L x _ zO,aC L x _ zO,aC L x _ zO,aC L x _ zO,aC L x _ zO,aC L x _ zO,aC L x _ zO];simp only[rM];omega
 ·rw[show 8*q+5=L.length by omega,E,Z];rw[aC L x _ zO,aC L x _ zO,aC L x _ zO,aC L x _ zO,aC L x _ zO,aC L x _ zO,aC L x _ zO];simp only[rM];omega
 ·rw[show 8*q+6=L.length by omega,E,Z];rw[aC L x _ zO,aC L x _ zO,aC L x _ zO,aC L x _ zO,aC L x _ zO,aC L x _ zO,aC L x _ zO];simp only[rM];omega
 ·rw[show 8*q+7=L.length by omega,E,Z];rw[aC L x _ zO,aC L x _ zO,aC L x _ zO,aC L x _ zO,aC L x _ zO,aC L x _ zO,aC L x _ zO];simp only[rM];omega
theorem TM(L:List Bool):dI L (L.length/8)%2 ^ (8-L.length%8)=0:=by
 generalize hq:L.length/8=q;unfold dI;rcases aBH L.length with h | h | h | h | h | h | h | h <;> rw[h]
 ·simp only[aH L _ (show L.length<=8*q by omega),aH L _ (show L.length<=8*q+1 by omega),aH L _ (show L.length<=8*q+2 by omega),aH L _ (show L.length<=8*q+3 by omega),aH L _ (show L.length<=8*q+4 by omega),aH L _ (show L.length<=8*q+5 by omega),aH L _ (show L.length<=8*q+6 by omega),aH L _ (show L.length<=8*q+7 by omega),rM];omega
 ·simp only[aH L _ (show L.length<=8*q+1 by omega),aH L _ (show L.length<=8*q+2 by omega),aH L _ (show L.length<=8*q+3 by omega),aH L _ (show L.length<=8*q+4 by omega),aH L _ (show L.length<=8*q+5 by omega),aH L _ (show L.length<=8*q+6 by omega),aH L _ (show L.length<=8*q+7 by omega),rM];omega
 ·simp only[aH L _ (show L.length<=8*q+2 by omega),aH L _ (show L.length<=8*q+3 by omega),aH L _ (show L.length<=8*q+4 by omega),aH L _ (show L.length<=8*q+5 by omega),aH L _ (show L.length<=8*q+6 by omega),aH L _ (show L.length<=8*q+7 by omega),rM];omega
 ·simp only[aH L _ (show L.length<=8*q+3 by omega),aH L _ (show L.length<=8*q+4 by omega),aH L _ (show L.length<=8*q+5 by omega),aH L _ (show L.length<=8*q+6 by omega),aH L _ (show L.length<=8*q+7 by omega),rM];omega
 ·simp only[aH L _ (show L.length<=8*q+4 by omega),aH L _ (show L.length<=8*q+5 by omega),aH L _ (show L.length<=8*q+6 by omega),aH L _ (show L.length<=8*q+7 by omega),rM];omega
 ·simp only[aH L _ (show L.length<=8*q+5 by omega),aH L _ (show L.length<=8*q+6 by omega),aH L _ (show L.length<=8*q+7 by omega),rM];omega
 ·simp only[aH L _ (show L.length<=8*q+6 by omega),aH L _ (show L.length<=8*q+7 by omega),rM];omega
 ·simp only[aH L _ (show L.length<=8*q+7 by omega),rM];omega
theorem xB(L:List Bool)(i:Nat)(h:L.length<=8*i):dI L i=0:=by
 unfold dI;rw[aH L _ zO,aH L _ zO,aH L _ zO,aH L _ zO,aH L _ zO,aH L _ zO,aH L _ zO,aH L _ zO];rfl
theorem YR(a b:Nat)(ha:a<256)(hb:b<256):bits .or .u8 (a:Int) (b:Int)=((a ||| b:Nat):Int):=by
 have hx:a ||| b<2 ^ 8:=Nat.or_lt_two_pow zO zO;have ea:(BitVec.ofInt 8 (a:Int)).toNat=a:=by rw[BitVec.ofInt_natCast,BitVec.toNat_ofNat];exact Nat.mod_eq_of_lt zO
 have eb:(BitVec.ofInt 8 (b:Int)).toNat=b:=by rw[BitVec.ofInt_natCast,BitVec.toNat_ofNat];exact Nat.mod_eq_of_lt zO
 show IntKind.u8.wrap ((BitVec.ofInt 8 (a:Int) ||| BitVec.ofInt 8 (b:Int)).toNat:Int)=_;rw[BitVec.toNat_or,ea,eb,IntKind.wrap_u8];omega
theorem aCb(old:Int)(x:Bool)(s:Nat)(hs:s<=7)(h0:0<=old)(h1:old<=255)(h:old%2 ^ (s+1)=0):
  bits .or .u8 old (bi x*2 ^ s%256)=old+bi x*2 ^ s:=by
 obtain⟨n,rfl⟩:=Int.eq_ofNat_of_zero_le h0;have hp:((2 ^ (s+1):Nat):Int)=2 ^ (s+1):=zS;rw[<-hp,<-Int.natCast_emod]at h;have hd:n%2 ^ (s+1)=0:=zO;have hs7:2 ^ s<=2 ^ 7:=Nat.pow_le_pow_right zO hs;have hlt:(2:Nat) ^ s<2 ^ (s+1):=Nat.pow_lt_pow_right zO zO;have e1:bi x*2 ^ s%256=(((bi x).toNat*2 ^ s:Nat):Int):=by
  cases x
  ·simp[bi]
  ·simp only[bi,if_true];have:((2 ^ s:Nat):Int)=2 ^ s:=zS;rw[Int.one_mul,<-this];simp only[Int.toNat_one,Nat.one_mul];omega
 have e2:bi x*2 ^ s=(((bi x).toNat*2 ^ s:Nat):Int):=by cases x <;> simp[bi]
 rw[e1,e2];have hlt2:(bi x).toNat*2 ^ s<2 ^ (s+1):=by cases x <;> simp[bi] <;> omega
 rw[YR n _ zO (by cases x <;> simp[bi] <;> omega)];have key:=Nat.two_pow_add_eq_or_of_lt hlt2 (n/2 ^ (s+1));have hn:2 ^ (s+1)*(n/2 ^ (s+1))=n:=Nat.mul_div_cancel' (Nat.dvd_of_mod_eq_zero hd);rw[hn]at key;rw[<-key];rfl
theorem cY(L:List Bool):(bytesOf L).length=nb L:=by simp[bytesOf]
theorem mU(L:List Bool)(i:Nat)(h:i<nb L):(bytesOf L)[i]?=some (dI L i):=by simp[bytesOf,h]
end Go.Proofs.YticpdokbiblpoaaGreatDoor
namespace Go.Proofs.YticpdokbiblpoaaGreatDoor.Crc
set_option maxRecDepth 100000
open Go.RowKit
def OP:Nat:=3988292384
def step(x:Nat):Nat:=(x/2) ^^^ (OP*(x%2))
def oK:Nat->Nat->Nat
 | 0,x=>x
 | n+1,x=>step (oK n x)
def bQ(x:Nat):Nat:=oK 8 x
theorem UF{a b:Nat}(ha:a<4294967296)(hb:b<4294967296):a ^^^ b<4294967296:=Nat.xor_lt_two_pow (n:=32) ha hb
theorem VW(x:Nat):OP*(x%2)<4294967296:=by unfold OP;omega
theorem aGa{x:Nat}(h:x<4294967296):step x<4294967296:=UF zO (VW x)
theorem CD{x:Nat}(h:x<4294967296):∀n,oK n x<4294967296
 | 0=>h
 | n+1=>aGa (CD h n)
theorem JA{x:Nat}(h:x<4294967296):bQ x<4294967296:=CD h 8
theorem aBW(x y:Nat):step (x ^^^ y)=step x ^^^ step y:=by
 unfold step;have e1:(x ^^^ y)/2=x/2 ^^^ y/2:=Nat.xor_div_two;have e2:OP*((x ^^^ y)%2)=(OP*(x%2)) ^^^ (OP*(y%2)):=by
  have h:(x ^^^ y)%2=(x+y)%2:=by
   have e:=Nat.xor_mod_two_pow (a:=x) (b:=y) (n:=1);simp only[Nat.pow_one]at e;have hx:x%2=0\/x%2=1:=zO;have hy:y%2=0\/y%2=1:=zO;rcases hx with hx | hx <;> rcases hy with hy | hy <;> rw[hx,hy]at e <;> simp only[Nat.xor_self,Nat.xor_zero,Nat.zero_xor]at e <;> omega
  have hx:x%2=0\/x%2=1:=zO;have hy:y%2=0\/y%2=1:=zO;rcases hx with hx | hx <;> rcases hy with hy | hy
  ·rw[show (x ^^^ y)%2=0 by omega,hx,hy];rfl
  ·rw[show (x ^^^ y)%2=1 by omega,hx,hy];rfl
  ·rw[show (x ^^^ y)%2=1 by omega,hx,hy];rfl
  ·rw[show (x ^^^ y)%2=0 by omega,hx,hy];rfl
 rw[e1,e2]
 ac_rfl
theorem uJ(x y:Nat):∀n,oK n (x ^^^ y)=oK n x ^^^ oK n y
 | 0=>rfl
 | n+1=>by show step _=step _ ^^^ step _;rw[uJ x y n,aBW]
theorem aDZ(z:Nat):step (2*z)=z:=by
 unfold step;rw[show 2*z/2=z by omega,show 2*z%2=0 by omega];simp
theorem GS(z:Nat):∀n,∀k,oK n (2 ^ (n+k)*z)=2 ^ k*z
 | 0,k=>by simp[oK]
 | n+1,k=>by
  show step (oK n _)=_;rw[show n+1+k=n+(k+1) by omega,GS z n (k+1),Nat.pow_succ,show 2 ^ k*2*z=2*(2 ^ k*z) by rw[Nat.mul_comm (2 ^ k) 2,Nat.mul_assoc],aDZ]
theorem ZB(z:Nat):bQ (256*z)=z:=by
 have:=GS z 8 0;simpa[bQ]using this
theorem UH(x:Nat):x=(256*(x/256)) ^^^ (x%256):=by
 apply Nat.eq_of_testBit_eq;intro i;rw[Nat.testBit_xor,show (256:Nat)=2 ^ 8 from rfl,Nat.testBit_two_pow_mul,Nat.testBit_mod_two_pow];by_cases h:i<8
 ·simp[h,show ¬8<=i by omega]
 ·have e:(x/256).testBit (i-8)=x.testBit i:=by
   rw[show (256:Nat)=2 ^ 8 from rfl,Nat.testBit_div_two_pow,show i-8+8=i by omega]
  simp[h,show 8<=i by omega,e]
theorem US(x:Nat):bQ x=(x/256) ^^^ bQ (x%256):=by
 conv=>lhs;rw[UH x]
 unfold bQ;rw[uJ];congr 1;exact ZB _
theorem VF(r v:Nat)(hv:v<256):bQ (r ^^^ v)=(r/256) ^^^ bQ ((r%256) ^^^ v):=by
 rw[US (r ^^^ v)];have e1:(r ^^^ v)/256=r/256:=by
  have:=Nat.xor_div_two_pow (a:=r) (b:=v) (n:=8);rw[show (256:Nat)=2 ^ 8 from rfl,this,Nat.div_eq_of_lt (a:=v) hv,Nat.xor_zero]
 have e2:(r ^^^ v)%256=(r%256) ^^^ v:=by
  have:=Nat.xor_mod_two_pow (a:=r) (b:=v) (n:=8);rw[show (256:Nat)=2 ^ 8 from rfl,this,Nat.mod_eq_of_lt (a:=v) hv]
 rw[e1,e2]
def ES(r:Nat)(xs:List Int):Nat:=xs.foldl (fun r v=>bQ (r ^^^ v.toNat)) r
theorem aBx(r:Nat)(xs:List Int)(x:Int):ES r (xs ++ [x])=bQ (ES r xs ^^^ x.toNat):=by simp[ES]
theorem QG(r:Nat)(xs ys:List Int):ES r (xs ++ ys)=ES (ES r xs) ys:=by simp[ES]
theorem reg_lt{r:Nat}(h:r<4294967296):∀xs:List Int,(∀x∈xs,0<=x/\x<=255)->ES r xs<4294967296:=by
 intro xs
 induction xs generalizing r with
 | nil=>intro _;exact h
 | cons x xs ih=>
  intro hx;have:=hx x zS;exact ih (JA (UF h zO)) fun y hy=>hx y (by simp[hy])
def sumOf(xs:List Int):Int:=4294967295-(ES 4294967295 xs:Int)
theorem IK(a b:Nat)(ha:a<4294967296)(hb:b<4294967296):bits .xor .u32 (a:Int) (b:Int)=((a ^^^ b:Nat):Int):=by
 have hx:=UF ha hb;have ea:(BitVec.ofInt 32 (a:Int)).toNat=a:=by rw[BitVec.ofInt_natCast,BitVec.toNat_ofNat];exact Nat.mod_eq_of_lt ha
 have eb:(BitVec.ofInt 32 (b:Int)).toNat=b:=by rw[BitVec.ofInt_natCast,BitVec.toNat_ofNat];exact Nat.mod_eq_of_lt hb
 show IntKind.u32.wrap ((BitVec.ofInt 32 (a:Int) ^^^ BitVec.ofInt 32 (b:Int)).toNat:Int)=_;rw[BitVec.toNat_xor,ea,eb,IntKind.wrap_u32];omega
theorem aHc(a b:Nat)(ha:a<256)(hb:b<256):bits .xor .u8 (a:Int) (b:Int)=((a ^^^ b:Nat):Int):=by
 have hx:a ^^^ b<256:=Nat.xor_lt_two_pow (n:=8) ha hb;have ea:(BitVec.ofInt 8 (a:Int)).toNat=a:=by rw[BitVec.ofInt_natCast,BitVec.toNat_ofNat];exact Nat.mod_eq_of_lt ha
 have eb:(BitVec.ofInt 8 (b:Int)).toNat=b:=by rw[BitVec.ofInt_natCast,BitVec.toNat_ofNat];exact Nat.mod_eq_of_lt hb
 show IntKind.u8.wrap ((BitVec.ofInt 8 (a:Int) ^^^ BitVec.ofInt 8 (b:Int)).toNat:Int)=_;rw[BitVec.toNat_xor,ea,eb,IntKind.wrap_u8];omega
theorem PE(a:Nat)(ha:a<4294967296):bits .and .u32 (a:Int) 1=((a%2:Nat):Int):=by
 have ea:(BitVec.ofInt 32 (a:Int)).toNat=a:=by rw[BitVec.ofInt_natCast,BitVec.toNat_ofNat];exact Nat.mod_eq_of_lt ha
 have eb:(BitVec.ofInt 32 1).toNat=1:=rfl;show IntKind.u32.wrap ((BitVec.ofInt 32 (a:Int) &&& BitVec.ofInt 32 1).toNat:Int)=_;rw[BitVec.toNat_and,ea,eb,Nat.and_one_is_mod,IntKind.wrap_u32];omega
end Go.Proofs.YticpdokbiblpoaaGreatDoor.Crc
