/- Texts joined: Pack, Crc. -/
import Derived.WalkKit
import Derived.Laws.BitsAllLaws
import Derived.Laws.BitsLemmas
import Derived.Test.YticpdokbiblpoaaGreatDoorTk
set_option linter.unusedVariables false
namespace Go.Proofs.YticpdokbiblpoaaGreatDoor
set_option maxRecDepth 100000
open Go.RowKit
def bi(b:Bool):Int:=if b then 1 else 0
theorem qQ:bi false=0:=rfl
theorem iB(b:Bool):0<=bi b/\bi b<=1:=by cases b <;> simp[bi]
def dH(L:List Bool)(i:Nat):Int:=
 128*bi (L.getD (8*i) false)+64*bi (L.getD (8*i+1) false)+32*bi (L.getD (8*i+2) false)+16*bi (L.getD (8*i+3) false)
  + 8*bi (L.getD (8*i+4) false)+4*bi (L.getD (8*i+5) false)+2*bi (L.getD (8*i+6) false)+bi (L.getD (8*i+7) false)
def nb(L:List Bool):Nat:=(L.length+7)/8
def bytesOf(L:List Bool):List Int:=(List.range (nb L)).map (dH L)
theorem sI(L:List Bool)(i:Nat):0<=dH L i/\dH L i<=255:=by
 unfold dH;have h0:=iB (L.getD (8*i) false);have h1:=iB (L.getD (8*i+1) false);have h2:=iB (L.getD (8*i+2) false);have h3:=iB (L.getD (8*i+3) false);have h4:=iB (L.getD (8*i+4) false);have h5:=iB (L.getD (8*i+5) false);have h6:=iB (L.getD (8*i+6) false);have h7:=iB (L.getD (8*i+7) false);omega
theorem aH(L:List Bool)(i:Nat)(h:L.length<=i):L.getD i false=false:=by
 rw[List.getD_eq_getElem?_getD,List.getElem?_eq_none h];rfl
theorem aC(L:List Bool)(x:Bool)(i:Nat)(h:i≠L.length):(L ++ [x]).getD i false=L.getD i false:=by
 rcases Nat.lt_or_ge i L.length with h1 | h1
 ·simp[List.getD_eq_getElem?_getD,List.getElem?_append_left h1]
 ·rw[aH L i h1,aH _ i (by simp;omega)]
theorem JS(L:List Bool)(x:Bool):(L ++ [x]).getD L.length false=x:=by
 simp[List.getD_eq_getElem?_getD]
theorem oS(L:List Bool)(x:Bool)(i:Nat)(h:i≠L.length/8):dH (L ++ [x]) i=dH L i:=by
 unfold dH;rw[aC L x _ zO,aC L x _ zO,aC L x _ zO,aC L x _ zO,aC L x _ zO,aC L x _ zO,aC L x _ zO,aC L x _ zO]
theorem aDl(n:Nat):n%8=0\/n%8=1\/n%8=2\/n%8=3\/n%8=4\/n%8=5\/n%8=6\/n%8=7:=zO
theorem wG(L:List Bool)(x:Bool):dH (L ++ [x]) (L.length/8)=dH L (L.length/8)+bi x*2 ^ (7-L.length%8):=by
 have E:=JS L x;have Z:=aH L L.length (Nat.le_refl _);generalize hq:L.length/8=q;unfold dH;rcases aDl L.length with h | h | h | h | h | h | h | h <;> rw[h]
 ·rw[show 8*q=L.length by omega,E,Z];rw[aC L x _ zO,aC L x _ zO,aC L x _ zO,aC L x _ zO,aC L x _ zO,aC L x _ zO,aC L x _ zO];simp only[qQ];omega
 ·rw[show 8*q+1=L.length by omega,E,Z];rw[aC L x _ zO,aC L x _ zO,aC L x _ zO,aC L x _ zO,aC L x _ zO,aC L x _ zO,aC L x _ zO];simp only[qQ];omega
 ·rw[show 8*q+2=L.length by omega,E,Z];rw[aC L x _ zO,aC L x _ zO,aC L x _ zO,aC L x _ zO,aC L x _ zO,aC L x _ zO,aC L x _ zO];simp only[qQ];omega
 ·rw[show 8*q+3=L.length by omega,E,Z];rw[aC L x _ zO,aC L x _ zO,aC L x _ zO,aC L x _ zO,aC L x _ zO,aC L x _ zO,aC L x _ zO];simp only[qQ];omega
 ·rw[show 8*q+4=L.length by omega,E,Z];rw[aC L x _ zO,aC L x _ zO,aC L x _ zO,aC L x _ zO,aC L x _ zO,aC L x _ zO,aC L x _ zO];simp only[qQ];omega
 ·rw[show 8*q+5=L.length by omega,E,Z];rw[aC L x _ zO,aC L x _ zO,aC L x _ zO,aC L x _ zO,aC L x _ zO,aC L x _ zO,aC L x _ zO];simp only[qQ];omega
 ·rw[show 8*q+6=L.length by omega,E,Z];rw[aC L x _ zO,aC L x _ zO,aC L x _ zO,aC L x _ zO,aC L x _ zO,aC L x _ zO,aC L x _ zO];simp only[qQ];omega
 ·rw[show 8*q+7=L.length by omega,E,Z];rw[aC L x _ zO,aC L x _ zO,aC L x _ zO,aC L x _ zO,aC L x _ zO,aC L x _ zO,aC L x _ zO];simp only[qQ];omega
theorem TR(L:List Bool):dH L (L.length/8)%2 ^ (8-L.length%8)=0:=by
 generalize hq:L.length/8=q;unfold dH;rcases aDl L.length with h | h | h | h | h | h | h | h <;> rw[h]
 ·simp only[aH L _ (show L.length<=8*q by omega),aH L _ (show L.length<=8*q+1 by omega),aH L _ (show L.length<=8*q+2 by omega),aH L _ (show L.length<=8*q+3 by omega),aH L _ (show L.length<=8*q+4 by omega),aH L _ (show L.length<=8*q+5 by omega),aH L _ (show L.length<=8*q+6 by omega),aH L _ (show L.length<=8*q+7 by omega),qQ];omega
 ·simp only[aH L _ (show L.length<=8*q+1 by omega),aH L _ (show L.length<=8*q+2 by omega),aH L _ (show L.length<=8*q+3 by omega),aH L _ (show L.length<=8*q+4 by omega),aH L _ (show L.length<=8*q+5 by omega),aH L _ (show L.length<=8*q+6 by omega),aH L _ (show L.length<=8*q+7 by omega),qQ];omega
 ·simp only[aH L _ (show L.length<=8*q+2 by omega),aH L _ (show L.length<=8*q+3 by omega),aH L _ (show L.length<=8*q+4 by omega),aH L _ (show L.length<=8*q+5 by omega),aH L _ (show L.length<=8*q+6 by omega),aH L _ (show L.length<=8*q+7 by omega),qQ];omega
 ·simp only[aH L _ (show L.length<=8*q+3 by omega),aH L _ (show L.length<=8*q+4 by omega),aH L _ (show L.length<=8*q+5 by omega),aH L _ (show L.length<=8*q+6 by omega),aH L _ (show L.length<=8*q+7 by omega),qQ];omega
 ·simp only[aH L _ (show L.length<=8*q+4 by omega),aH L _ (show L.length<=8*q+5 by omega),aH L _ (show L.length<=8*q+6 by omega),aH L _ (show L.length<=8*q+7 by omega),qQ];omega
 ·simp only[aH L _ (show L.length<=8*q+5 by omega),aH L _ (show L.length<=8*q+6 by omega),aH L _ (show L.length<=8*q+7 by omega),qQ];omega
 ·simp only[aH L _ (show L.length<=8*q+6 by omega),aH L _ (show L.length<=8*q+7 by omega),qQ];omega
 ·simp only[aH L _ (show L.length<=8*q+7 by omega),qQ];omega
theorem vC(L:List Bool)(i:Nat)(h:L.length<=8*i):dH L i=0:=by
 unfold dH;rw[aH L _ zO,aH L _ zO,aH L _ zO,aH L _ zO,aH L _ zO,aH L _ zO,aH L _ zO,aH L _ zO];rfl
theorem aAc(a b:Nat)(ha:a<256)(hb:b<256):bits .or .u8 (a:Int) (b:Int)=((a ||| b:Nat):Int):=by
 have hx:a ||| b<2 ^ 8:=Nat.or_lt_two_pow zO zO;have ea:(BitVec.ofInt 8 (a:Int)).toNat=a:=by rw[BitVec.ofInt_natCast,BitVec.toNat_ofNat];exact Nat.mod_eq_of_lt zO
 have eb:(BitVec.ofInt 8 (b:Int)).toNat=b:=by rw[BitVec.ofInt_natCast,BitVec.toNat_ofNat];exact Nat.mod_eq_of_lt zO
 show IntKind.u8.wrap ((BitVec.ofInt 8 (a:Int) ||| BitVec.ofInt 8 (b:Int)).toNat:Int)=_;rw[BitVec.toNat_or,ea,eb,IntKind.wrap_u8];omega
theorem aBb(old:Int)(x:Bool)(s:Nat)(hs:s<=7)(h0:0<=old)(h1:old<=255)(h:old%2 ^ (s+1)=0):
  bits .or .u8 old (bi x*2 ^ s%256)=old+bi x*2 ^ s:=by
 obtain⟨n,rfl⟩:=Int.eq_ofNat_of_zero_le h0;have hp:((2 ^ (s+1):Nat):Int)=2 ^ (s+1):=zS;rw[<-hp,<-Int.natCast_emod]at h;have hd:n%2 ^ (s+1)=0:=zO;have hs7:2 ^ s<=2 ^ 7:=Nat.pow_le_pow_right zO hs;have hlt:(2:Nat) ^ s<2 ^ (s+1):=Nat.pow_lt_pow_right zO zO;have e1:bi x*2 ^ s%256=(((bi x).toNat*2 ^ s:Nat):Int):=by
  cases x
  ·simp[bi]
  ·simp only[bi,if_true];have:((2 ^ s:Nat):Int)=2 ^ s:=zS;rw[Int.one_mul,<-this];simp only[Int.toNat_one,Nat.one_mul];omega
 have e2:bi x*2 ^ s=(((bi x).toNat*2 ^ s:Nat):Int):=by cases x <;> simp[bi]
 rw[e1,e2];have hlt2:(bi x).toNat*2 ^ s<2 ^ (s+1):=by cases x <;> simp[bi] <;> omega
 rw[aAc n _ zO (by cases x <;> simp[bi] <;> omega)];have key:=Nat.two_pow_add_eq_or_of_lt hlt2 (n/2 ^ (s+1));have hn:2 ^ (s+1)*(n/2 ^ (s+1))=n:=Nat.mul_div_cancel' (Nat.dvd_of_mod_eq_zero hd);rw[hn]at key;rw[<-key];rfl
theorem cT(L:List Bool):(bytesOf L).length=nb L:=by simp[bytesOf]
theorem mA(L:List Bool)(i:Nat)(h:i<nb L):(bytesOf L)[i]?=some (dH L i):=by simp[bytesOf,h]
end Go.Proofs.YticpdokbiblpoaaGreatDoor
namespace Go.Proofs.YticpdokbiblpoaaGreatDoor.Crc
set_option maxRecDepth 100000
open Go.RowKit
def NC:Nat:=3988292384
def step(x:Nat):Nat:=(x/2) ^^^ (NC*(x%2))
def nT:Nat->Nat->Nat
 | 0,x=>x
 | n+1,x=>step (nT n x)
def bO(x:Nat):Nat:=nT 8 x
theorem SD{a b:Nat}(ha:a<4294967296)(hb:b<4294967296):a ^^^ b<4294967296:=Nat.xor_lt_two_pow (n:=32) ha hb
theorem UI(x:Nat):NC*(x%2)<4294967296:=by unfold NC;omega
theorem aEa{x:Nat}(h:x<4294967296):step x<4294967296:=SD zO (UI x)
theorem AF{x:Nat}(h:x<4294967296):∀n,nT n x<4294967296
 | 0=>h
 | n+1=>aEa (AF h n)
theorem GS{x:Nat}(h:x<4294967296):bO x<4294967296:=AF h 8
theorem aCt(x y:Nat):step (x ^^^ y)=step x ^^^ step y:=by
 unfold step;have e1:(x ^^^ y)/2=x/2 ^^^ y/2:=Nat.xor_div_two;have e2:NC*((x ^^^ y)%2)=(NC*(x%2)) ^^^ (NC*(y%2)):=by
  have h:(x ^^^ y)%2=(x+y)%2:=by
   have e:=Nat.xor_mod_two_pow (a:=x) (b:=y) (n:=1);simp only[Nat.pow_one]at e;have hx:x%2=0\/x%2=1:=zO;have hy:y%2=0\/y%2=1:=zO;rcases hx with hx | hx <;> rcases hy with hy | hy <;> rw[hx,hy]at e <;> simp only[Nat.xor_self,Nat.xor_zero,Nat.zero_xor]at e <;> omega
  have hx:x%2=0\/x%2=1:=zO;have hy:y%2=0\/y%2=1:=zO;rcases hx with hx | hx <;> rcases hy with hy | hy
  ·rw[show (x ^^^ y)%2=0 by omega,hx,hy];rfl
  ·rw[show (x ^^^ y)%2=1 by omega,hx,hy];rfl
  ·rw[show (x ^^^ y)%2=1 by omega,hx,hy];rfl
  ·rw[show (x ^^^ y)%2=0 by omega,hx,hy];rfl
 rw[e1,e2]
 ac_rfl
theorem uQ(x y:Nat):∀n,nT n (x ^^^ y)=nT n x ^^^ nT n y
 | 0=>rfl
 | n+1=>by show step _=step _ ^^^ step _;rw[uQ x y n,aCt]
theorem aCo(z:Nat):step (2*z)=z:=by
 unfold step;rw[show 2*z/2=z by omega,show 2*z%2=0 by omega];simp
theorem EN(z:Nat):∀n,∀k,nT n (2 ^ (n+k)*z)=2 ^ k*z
 | 0,k=>by simp[nT]
 | n+1,k=>by
  show step (nT n _)=_;rw[show n+1+k=n+(k+1) by omega,EN z n (k+1),Nat.pow_succ,show 2 ^ k*2*z=2*(2 ^ k*z) by rw[Nat.mul_comm (2 ^ k) 2,Nat.mul_assoc],aCo]
theorem XQ(z:Nat):bO (256*z)=z:=by
 have:=EN z 8 0;simpa[bO]using this
theorem OS(x:Nat):x=(256*(x/256)) ^^^ (x%256):=by
 apply Nat.eq_of_testBit_eq;intro i;rw[Nat.testBit_xor,show (256:Nat)=2 ^ 8 from rfl,Nat.testBit_two_pow_mul,Nat.testBit_mod_two_pow];by_cases h:i<8
 ·simp[h,show ¬8<=i by omega]
 ·have e:(x/256).testBit (i-8)=x.testBit i:=by
   rw[show (256:Nat)=2 ^ 8 from rfl,Nat.testBit_div_two_pow,show i-8+8=i by omega]
  simp[h,show 8<=i by omega,e]
theorem SG(x:Nat):bO x=(x/256) ^^^ bO (x%256):=by
 conv=>lhs;rw[OS x]
 unfold bO;rw[uQ];congr 1;exact XQ _
theorem TJ(r v:Nat)(hv:v<256):bO (r ^^^ v)=(r/256) ^^^ bO ((r%256) ^^^ v):=by
 rw[SG (r ^^^ v)];have e1:(r ^^^ v)/256=r/256:=by
  have:=Nat.xor_div_two_pow (a:=r) (b:=v) (n:=8);rw[show (256:Nat)=2 ^ 8 from rfl,this,Nat.div_eq_of_lt (a:=v) hv,Nat.xor_zero]
 have e2:(r ^^^ v)%256=(r%256) ^^^ v:=by
  have:=Nat.xor_mod_two_pow (a:=r) (b:=v) (n:=8);rw[show (256:Nat)=2 ^ 8 from rfl,this,Nat.mod_eq_of_lt (a:=v) hv]
 rw[e1,e2]
def DF(r:Nat)(xs:List Int):Nat:=xs.foldl (fun r v=>bO (r ^^^ v.toNat)) r
theorem aAV(r:Nat)(xs:List Int)(x:Int):DF r (xs ++ [x])=bO (DF r xs ^^^ x.toNat):=by simp[DF]
theorem RU(r:Nat)(xs ys:List Int):DF r (xs ++ ys)=DF (DF r xs) ys:=by simp[DF]
theorem reg_lt{r:Nat}(h:r<4294967296):∀xs:List Int,(∀x∈xs,0<=x/\x<=255)->DF r xs<4294967296:=by
 intro xs
 induction xs generalizing r with
 | nil=>intro _;exact h
 | cons x xs ih=>
  intro hx;have:=hx x zS;exact ih (GS (SD h zO)) fun y hy=>hx y (by simp[hy])
def sumOf(xs:List Int):Int:=4294967295-(DF 4294967295 xs:Int)
theorem JM(a b:Nat)(ha:a<4294967296)(hb:b<4294967296):bits .xor .u32 (a:Int) (b:Int)=((a ^^^ b:Nat):Int):=by
 have hx:=SD ha hb;have ea:(BitVec.ofInt 32 (a:Int)).toNat=a:=by rw[BitVec.ofInt_natCast,BitVec.toNat_ofNat];exact Nat.mod_eq_of_lt ha
 have eb:(BitVec.ofInt 32 (b:Int)).toNat=b:=by rw[BitVec.ofInt_natCast,BitVec.toNat_ofNat];exact Nat.mod_eq_of_lt hb
 show IntKind.u32.wrap ((BitVec.ofInt 32 (a:Int) ^^^ BitVec.ofInt 32 (b:Int)).toNat:Int)=_;rw[BitVec.toNat_xor,ea,eb,IntKind.wrap_u32];omega
theorem aGm(a b:Nat)(ha:a<256)(hb:b<256):bits .xor .u8 (a:Int) (b:Int)=((a ^^^ b:Nat):Int):=by
 have hx:a ^^^ b<256:=Nat.xor_lt_two_pow (n:=8) ha hb;have ea:(BitVec.ofInt 8 (a:Int)).toNat=a:=by rw[BitVec.ofInt_natCast,BitVec.toNat_ofNat];exact Nat.mod_eq_of_lt ha
 have eb:(BitVec.ofInt 8 (b:Int)).toNat=b:=by rw[BitVec.ofInt_natCast,BitVec.toNat_ofNat];exact Nat.mod_eq_of_lt hb
 show IntKind.u8.wrap ((BitVec.ofInt 8 (a:Int) ^^^ BitVec.ofInt 8 (b:Int)).toNat:Int)=_;rw[BitVec.toNat_xor,ea,eb,IntKind.wrap_u8];omega
theorem NT(a:Nat)(ha:a<4294967296):bits .and .u32 (a:Int) 1=((a%2:Nat):Int):=by
 have ea:(BitVec.ofInt 32 (a:Int)).toNat=a:=by rw[BitVec.ofInt_natCast,BitVec.toNat_ofNat];exact Nat.mod_eq_of_lt ha
 have eb:(BitVec.ofInt 32 1).toNat=1:=rfl;show IntKind.u32.wrap ((BitVec.ofInt 32 (a:Int) &&& BitVec.ofInt 32 1).toNat:Int)=_;rw[BitVec.toNat_and,ea,eb,Nat.and_one_is_mod,IntKind.wrap_u32];omega
end Go.Proofs.YticpdokbiblpoaaGreatDoor.Crc
