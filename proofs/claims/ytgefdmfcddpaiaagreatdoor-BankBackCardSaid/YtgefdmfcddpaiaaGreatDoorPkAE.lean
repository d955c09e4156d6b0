/- Texts joined: Crc, Pack. -/
import Derived.WalkKit
import Derived.Laws.BitsAllLaws
import Derived.Laws.BitsLemmas
namespace Go.Proofs.YtgefdmfcddpaiaaGreatDoor.Crc
set_option linter.unusedVariables false
set_option maxRecDepth 100000
open Go.RowKit
def poly:Nat:=3988292384
def step(x:Nat):Nat:=(x/2) ^^^ (poly*(x%2))
def steps:Nat->Nat->Nat
 | 0,x=>x
 | n+1,x=>step (steps n x)
def push(x:Nat):Nat:=steps 8 x
theorem xor_lt{a b:Nat}(ha:a<4294967296)(hb:b<4294967296):a ^^^ b<4294967296:=Nat.xor_lt_two_pow (n:=32) ha hb
theorem polyMul(x:Nat):poly*(x%2)<4294967296:=by unfold poly;omega
theorem step_lt{x:Nat}(h:x<4294967296):step x<4294967296:=xor_lt (by omega) (polyMul x)
theorem steps_lt{x:Nat}(h:x<4294967296):∀n,steps n x<4294967296
 | 0=>h
 | n+1=>step_lt (steps_lt h n)
theorem push_lt{x:Nat}(h:x<4294967296):push x<4294967296:=steps_lt h 8
theorem step_xor(x y:Nat):step (x ^^^ y)=step x ^^^ step y:=by
 unfold step
 have e1:(x ^^^ y)/2=x/2 ^^^ y/2:=Nat.xor_div_two
 have e2:poly*((x ^^^ y)%2)=(poly*(x%2)) ^^^ (poly*(y%2)):=by
  have h:(x ^^^ y)%2=(x+y)%2:=by
   have e:=Nat.xor_mod_two_pow (a:=x) (b:=y) (n:=1)
   simp only [Nat.pow_one] at e
   have hx:x%2=0\/x%2=1:=by omega
   have hy:y%2=0\/y%2=1:=by omega
   rcases hx with hx | hx <;> rcases hy with hy | hy <;> rw [hx,hy] at e <;> simp only [Nat.xor_self,Nat.xor_zero,Nat.zero_xor] at e <;> omega
  have hx:x%2=0\/x%2=1:=by omega
  have hy:y%2=0\/y%2=1:=by omega
  rcases hx with hx | hx <;> rcases hy with hy | hy
  ·rw [show (x ^^^ y)%2=0 by omega,hx,hy];rfl
  ·rw [show (x ^^^ y)%2=1 by omega,hx,hy];rfl
  ·rw [show (x ^^^ y)%2=1 by omega,hx,hy];rfl
  ·rw [show (x ^^^ y)%2=0 by omega,hx,hy];rfl
 rw [e1,e2]
 ac_rfl
theorem steps_xor(x y:Nat):∀n,steps n (x ^^^ y)=steps n x ^^^ steps n y
 | 0=>rfl
 | n+1=>by show step _=step _ ^^^ step _;rw [steps_xor x y n,step_xor]
theorem step_two(z:Nat):step (2*z)=z:=by
 unfold step
 rw [show 2*z/2=z by omega,show 2*z%2=0 by omega]
 simp
theorem steps_two(z:Nat):∀n,∀k,steps n (2 ^ (n+k)*z)=2 ^ k*z
 | 0,k=>by simp [steps]
 | n+1,k=>by
  show step (steps n _)=_
  rw [show n+1+k=n+(k+1) by omega,steps_two z n (k+1),Nat.pow_succ,show 2 ^ k*2*z=2*(2 ^ k*z) by rw [Nat.mul_comm (2 ^ k) 2,Nat.mul_assoc],step_two]
theorem push_high(z:Nat):push (256*z)=z:=by
 have:=steps_two z 8 0
 simpa [push] using this
theorem split_byte(x:Nat):x=(256*(x/256)) ^^^ (x%256):=by
 apply Nat.eq_of_testBit_eq
 intro i
 rw [Nat.testBit_xor,show (256:Nat)=2 ^ 8 from rfl,Nat.testBit_two_pow_mul,Nat.testBit_mod_two_pow]
 by_cases h:i<8
 ·simp [h,show ¬8<=i by omega]
 ·have e:(x/256).testBit (i-8)=x.testBit i:=by
   rw [show (256:Nat)=2 ^ 8 from rfl,Nat.testBit_div_two_pow,show i-8+8=i by omega]
  simp [h,show 8<=i by omega,e]
theorem push_split(x:Nat):push x=(x/256) ^^^ push (x%256):=by
 conv=>lhs;rw [split_byte x]
 unfold push
 rw [steps_xor]
 congr 1
 exact push_high _
theorem push_table(r v:Nat)(hv:v<256):push (r ^^^ v)=(r/256) ^^^ push ((r%256) ^^^ v):=by
 rw [push_split (r ^^^ v)]
 have e1:(r ^^^ v)/256=r/256:=by
  have:=Nat.xor_div_two_pow (a:=r) (b:=v) (n:=8)
  rw [show (256:Nat)=2 ^ 8 from rfl,this,Nat.div_eq_of_lt (a:=v) hv,Nat.xor_zero]
 have e2:(r ^^^ v)%256=(r%256) ^^^ v:=by
  have:=Nat.xor_mod_two_pow (a:=r) (b:=v) (n:=8)
  rw [show (256:Nat)=2 ^ 8 from rfl,this,Nat.mod_eq_of_lt (a:=v) hv]
 rw [e1,e2]
def reg(r:Nat)(xs:List Int):Nat:=xs.foldl (fun r v=>push (r ^^^ v.toNat)) r
theorem reg_snoc(r:Nat)(xs:List Int)(x:Int):reg r (xs ++ [x])=push (reg r xs ^^^ x.toNat):=by simp [reg]
theorem reg_append(r:Nat)(xs ys:List Int):reg r (xs ++ ys)=reg (reg r xs) ys:=by simp [reg]
theorem reg_lt{r:Nat}(h:r<4294967296):∀xs:List Int,(∀x∈xs,0<=x/\x<=255)->reg r xs<4294967296:=by
 intro xs
 induction xs generalizing r with
 | nil=>intro _;exact h
 | cons x xs ih=>
  intro hx
  have:=hx x (by simp)
  exact ih (push_lt (xor_lt h (by omega))) fun y hy=>hx y (by simp [hy])
def sumOf(xs:List Int):Int:=4294967295-(reg 4294967295 xs:Int)
theorem u32_xor(a b:Nat)(ha:a<4294967296)(hb:b<4294967296):bits .xor .u32 (a:Int) (b:Int)=((a ^^^ b:Nat):Int):=by
 have hx:=xor_lt ha hb
 have ea:(BitVec.ofInt 32 (a:Int)).toNat=a:=by rw [BitVec.ofInt_natCast,BitVec.toNat_ofNat];exact Nat.mod_eq_of_lt ha
 have eb:(BitVec.ofInt 32 (b:Int)).toNat=b:=by rw [BitVec.ofInt_natCast,BitVec.toNat_ofNat];exact Nat.mod_eq_of_lt hb
 show IntKind.u32.wrap ((BitVec.ofInt 32 (a:Int) ^^^ BitVec.ofInt 32 (b:Int)).toNat:Int)=_
 rw [BitVec.toNat_xor,ea,eb,IntKind.wrap_u32]
 omega
theorem u8_xor(a b:Nat)(ha:a<256)(hb:b<256):bits .xor .u8 (a:Int) (b:Int)=((a ^^^ b:Nat):Int):=by
 have hx:a ^^^ b<256:=Nat.xor_lt_two_pow (n:=8) ha hb
 have ea:(BitVec.ofInt 8 (a:Int)).toNat=a:=by rw [BitVec.ofInt_natCast,BitVec.toNat_ofNat];exact Nat.mod_eq_of_lt ha
 have eb:(BitVec.ofInt 8 (b:Int)).toNat=b:=by rw [BitVec.ofInt_natCast,BitVec.toNat_ofNat];exact Nat.mod_eq_of_lt hb
 show IntKind.u8.wrap ((BitVec.ofInt 8 (a:Int) ^^^ BitVec.ofInt 8 (b:Int)).toNat:Int)=_
 rw [BitVec.toNat_xor,ea,eb,IntKind.wrap_u8]
 omega
theorem u32_and_one(a:Nat)(ha:a<4294967296):bits .and .u32 (a:Int) 1=((a%2:Nat):Int):=by
 have ea:(BitVec.ofInt 32 (a:Int)).toNat=a:=by rw [BitVec.ofInt_natCast,BitVec.toNat_ofNat];exact Nat.mod_eq_of_lt ha
 have eb:(BitVec.ofInt 32 1).toNat=1:=rfl
 show IntKind.u32.wrap ((BitVec.ofInt 32 (a:Int) &&& BitVec.ofInt 32 1).toNat:Int)=_
 rw [BitVec.toNat_and,ea,eb,Nat.and_one_is_mod,IntKind.wrap_u32]
 omega
end Go.Proofs.YtgefdmfcddpaiaaGreatDoor.Crc
namespace Go.Proofs.YtgefdmfcddpaiaaGreatDoor
set_option linter.unusedVariables false
set_option maxRecDepth 100000
open Go.RowKit
def bi(b:Bool):Int:=if b then 1 else 0
theorem bi_f:bi false=0:=rfl
theorem bi_01(b:Bool):0<=bi b/\bi b<=1:=by cases b <;> simp [bi]
def byteAt(L:List Bool)(i:Nat):Int:=
 128*bi (L.getD (8*i) false)+64*bi (L.getD (8*i+1) false)+32*bi (L.getD (8*i+2) false)+16*bi (L.getD (8*i+3) false)
  + 8*bi (L.getD (8*i+4) false)+4*bi (L.getD (8*i+5) false)+2*bi (L.getD (8*i+6) false)+bi (L.getD (8*i+7) false)
def nb(L:List Bool):Nat:=(L.length+7)/8
def bytesOf(L:List Bool):List Int:=(List.range (nb L)).map (byteAt L)
theorem byteAt_range(L:List Bool)(i:Nat):0<=byteAt L i/\byteAt L i<=255:=by
 unfold byteAt
 have h0:=bi_01 (L.getD (8*i) false);have h1:=bi_01 (L.getD (8*i+1) false);have h2:=bi_01 (L.getD (8*i+2) false);have h3:=bi_01 (L.getD (8*i+3) false)
 have h4:=bi_01 (L.getD (8*i+4) false);have h5:=bi_01 (L.getD (8*i+5) false);have h6:=bi_01 (L.getD (8*i+6) false);have h7:=bi_01 (L.getD (8*i+7) false)
 omega
theorem getD_end(L:List Bool)(i:Nat)(h:L.length<=i):L.getD i false=false:=by
 rw [List.getD_eq_getElem?_getD,List.getElem?_eq_none h];rfl
theorem getD_snoc(L:List Bool)(x:Bool)(i:Nat)(h:i≠L.length):(L ++ [x]).getD i false=L.getD i false:=by
 rcases Nat.lt_or_ge i L.length with h1 | h1
 ·simp [List.getD_eq_getElem?_getD,List.getElem?_append_left h1]
 ·rw [getD_end L i h1,getD_end _ i (by simp;omega)]
theorem getD_snoc_at(L:List Bool)(x:Bool):(L ++ [x]).getD L.length false=x:=by
 simp [List.getD_eq_getElem?_getD]
theorem byteAt_snoc_ne(L:List Bool)(x:Bool)(i:Nat)(h:i≠L.length/8):byteAt (L ++ [x]) i=byteAt L i:=by
 unfold byteAt
 rw [getD_snoc L x _ (by omega),getD_snoc L x _ (by omega),getD_snoc L x _ (by omega),getD_snoc L x _ (by omega),getD_snoc L x _ (by omega),getD_snoc L x _ (by omega),getD_snoc L x _ (by omega),getD_snoc L x _ (by omega)]
theorem eight(n:Nat):n%8=0\/n%8=1\/n%8=2\/n%8=3\/n%8=4\/n%8=5\/n%8=6\/n%8=7:=by omega
theorem byteAt_snoc(L:List Bool)(x:Bool):byteAt (L ++ [x]) (L.length/8)=byteAt L (L.length/8)+bi x*2 ^ (7-L.length%8):=by
 have E:=getD_snoc_at L x
 have Z:=getD_end L L.length (Nat.le_refl _)
 generalize hq:L.length/8=q
 unfold byteAt
 rcases eight L.length with h | h | h | h | h | h | h | h <;> rw [h]
 ·rw [show 8*q=L.length by omega,E,Z];rw [getD_snoc L x _ (by omega),getD_snoc L x _ (by omega),getD_snoc L x _ (by omega),getD_snoc L x _ (by omega),getD_snoc L x _ (by omega),getD_snoc L x _ (by omega),getD_snoc L x _ (by omega)];simp only [bi_f];omega
 ·rw [show 8*q+1=L.length by omega,E,Z];rw [getD_snoc L x _ (by omega),getD_snoc L x _ (by omega),getD_snoc L x _ (by omega),getD_snoc L x _ (by omega),getD_snoc L x _ (by omega),getD_snoc L x _ (by omega),getD_snoc L x _ (by omega)];simp only [bi_f];omega
 ·rw [show 8*q+2=L.length by omega,E,Z];rw [getD_snoc L x _ (by omega),getD_snoc L x _ (by omega),getD_snoc L x _ (by omega),getD_snoc L x _ (by omega),getD_snoc L x _ (by omega),getD_snoc L x _ (by omega),getD_snoc L x _ (by omega)];simp only [bi_f];omega
 ·rw [show 8*q+3=L.length by omega,E,Z];rw [getD_snoc L x _ (by omega),getD_snoc L x _ (by omega),getD_snoc L x _ (by omega),getD_snoc L x _ (by omega),getD_snoc L x _ (by omega),getD_snoc L x _ (by omega),getD_snoc L x _ (by omega)];simp only [bi_f];omega
 ·rw [show 8*q+4=L.length by omega,E,Z];rw [getD_snoc L x _ (by omega),getD_snoc L x _ (by omega),getD_snoc L x _ (by omega),getD_snoc L x _ (by omega),getD_snoc L x _ (by omega),getD_snoc L x _ (by omega),getD_snoc L x _ (by omega)];simp only [bi_f];omega
 ·rw [show 8*q+5=L.length by omega,E,Z];rw [getD_snoc L x _ (by omega),getD_snoc L x _ (by omega),getD_snoc L x _ (by omega),getD_snoc L x _ (by omega),getD_snoc L x _ (by omega),getD_snoc L x _ (by omega),getD_snoc L x _ (by omega)];simp only [bi_f];omega
 ·rw [show 8*q+6=L.length by omega,E,Z];rw [getD_snoc L x _ (by omega),getD_snoc L x _ (by omega),getD_snoc L x _ (by omega),getD_snoc L x _ (by omega),getD_snoc L x _ (by omega),getD_snoc L x _ (by omega),getD_snoc L x _ (by omega)];simp only [bi_f];omega
 ·rw [show 8*q+7=L.length by omega,E,Z];rw [getD_snoc L x _ (by omega),getD_snoc L x _ (by omega),getD_snoc L x _ (by omega),getD_snoc L x _ (by omega),getD_snoc L x _ (by omega),getD_snoc L x _ (by omega),getD_snoc L x _ (by omega)];simp only [bi_f];omega
theorem byteAt_low(L:List Bool):byteAt L (L.length/8)%2 ^ (8-L.length%8)=0:=by
 generalize hq:L.length/8=q
 unfold byteAt
 rcases eight L.length with h | h | h | h | h | h | h | h <;> rw [h]
 ·simp only [getD_end L _ (show L.length<=8*q by omega),getD_end L _ (show L.length<=8*q+1 by omega),getD_end L _ (show L.length<=8*q+2 by omega),getD_end L _ (show L.length<=8*q+3 by omega),getD_end L _ (show L.length<=8*q+4 by omega),getD_end L _ (show L.length<=8*q+5 by omega),getD_end L _ (show L.length<=8*q+6 by omega),getD_end L _ (show L.length<=8*q+7 by omega),bi_f];omega
 ·simp only [getD_end L _ (show L.length<=8*q+1 by omega),getD_end L _ (show L.length<=8*q+2 by omega),getD_end L _ (show L.length<=8*q+3 by omega),getD_end L _ (show L.length<=8*q+4 by omega),getD_end L _ (show L.length<=8*q+5 by omega),getD_end L _ (show L.length<=8*q+6 by omega),getD_end L _ (show L.length<=8*q+7 by omega),bi_f];omega
 ·simp only [getD_end L _ (show L.length<=8*q+2 by omega),getD_end L _ (show L.length<=8*q+3 by omega),getD_end L _ (show L.length<=8*q+4 by omega),getD_end L _ (show L.length<=8*q+5 by omega),getD_end L _ (show L.length<=8*q+6 by omega),getD_end L _ (show L.length<=8*q+7 by omega),bi_f];omega
 ·simp only [getD_end L _ (show L.length<=8*q+3 by omega),getD_end L _ (show L.length<=8*q+4 by omega),getD_end L _ (show L.length<=8*q+5 by omega),getD_end L _ (show L.length<=8*q+6 by omega),getD_end L _ (show L.length<=8*q+7 by omega),bi_f];omega
 ·simp only [getD_end L _ (show L.length<=8*q+4 by omega),getD_end L _ (show L.length<=8*q+5 by omega),getD_end L _ (show L.length<=8*q+6 by omega),getD_end L _ (show L.length<=8*q+7 by omega),bi_f];omega
 ·simp only [getD_end L _ (show L.length<=8*q+5 by omega),getD_end L _ (show L.length<=8*q+6 by omega),getD_end L _ (show L.length<=8*q+7 by omega),bi_f];omega
 ·simp only [getD_end L _ (show L.length<=8*q+6 by omega),getD_end L _ (show L.length<=8*q+7 by omega),bi_f];omega
 ·simp only [getD_end L _ (show L.length<=8*q+7 by omega),bi_f];omega
theorem byteAt_past(L:List Bool)(i:Nat)(h:L.length<=8*i):byteAt L i=0:=by
 unfold byteAt
 rw [getD_end L _ (by omega),getD_end L _ (by omega),getD_end L _ (by omega),getD_end L _ (by omega),getD_end L _ (by omega),getD_end L _ (by omega),getD_end L _ (by omega),getD_end L _ (by omega)]
 rfl
theorem u8_or_nat(a b:Nat)(ha:a<256)(hb:b<256):bits .or .u8 (a:Int) (b:Int)=((a ||| b:Nat):Int):=by
 have hx:a ||| b<2 ^ 8:=Nat.or_lt_two_pow (by omega) (by omega)
 have ea:(BitVec.ofInt 8 (a:Int)).toNat=a:=by rw [BitVec.ofInt_natCast,BitVec.toNat_ofNat];exact Nat.mod_eq_of_lt (by omega)
 have eb:(BitVec.ofInt 8 (b:Int)).toNat=b:=by rw [BitVec.ofInt_natCast,BitVec.toNat_ofNat];exact Nat.mod_eq_of_lt (by omega)
 show IntKind.u8.wrap ((BitVec.ofInt 8 (a:Int) ||| BitVec.ofInt 8 (b:Int)).toNat:Int)=_
 rw [BitVec.toNat_or,ea,eb,IntKind.wrap_u8]
 omega
theorem or_add(old:Int)(x:Bool)(s:Nat)(hs:s<=7)(h0:0<=old)(h1:old<=255)(h:old%2 ^ (s+1)=0):
  bits .or .u8 old (bi x*2 ^ s%256)=old+bi x*2 ^ s:=by
 obtain⟨n,rfl⟩:=Int.eq_ofNat_of_zero_le h0
 have hp:((2 ^ (s+1):Nat):Int)=2 ^ (s+1):=by simp
 rw [←hp,←Int.natCast_emod] at h
 have hd:n%2 ^ (s+1)=0:=by omega
 have hs7:2 ^ s<=2 ^ 7:=Nat.pow_le_pow_right (by omega) hs
 have hlt:(2:Nat) ^ s<2 ^ (s+1):=Nat.pow_lt_pow_right (by omega) (by omega)
 have e1:bi x*2 ^ s%256=(((bi x).toNat*2 ^ s:Nat):Int):=by
  cases x
  ·simp [bi]
  ·simp only [bi,if_true]
   have:((2 ^ s:Nat):Int)=2 ^ s:=by simp
   rw [Int.one_mul,←this]
   simp only [Int.toNat_one,Nat.one_mul]
   omega
 have e2:bi x*2 ^ s=(((bi x).toNat*2 ^ s:Nat):Int):=by cases x <;> simp [bi]
 rw [e1,e2]
 have hlt2:(bi x).toNat*2 ^ s<2 ^ (s+1):=by cases x <;> simp [bi] <;> omega
 rw [u8_or_nat n _ (by omega) (by cases x <;> simp [bi] <;> omega)]
 have key:=Nat.two_pow_add_eq_or_of_lt hlt2 (n/2 ^ (s+1))
 have hn:2 ^ (s+1)*(n/2 ^ (s+1))=n:=Nat.mul_div_cancel' (Nat.dvd_of_mod_eq_zero hd)
 rw [hn] at key
 rw [←key]
 rfl
theorem length_bytesOf(L:List Bool):(bytesOf L).length=nb L:=by simp [bytesOf]
theorem getElem?_bytesOf(L:List Bool)(i:Nat)(h:i<nb L):(bytesOf L)[i]?=some (byteAt L i):=by simp [bytesOf,h]
end Go.Proofs.YtgefdmfcddpaiaaGreatDoor
