/- Texts joined: Small, Arr, FitsL, NumL, StepL, TableL, ListL, SlicesL, LiftL, LapA, WaveP, SampP. -/
import Derived.Test.YticpdokbiblpoaaGreatDoorChecked
import Derived.WalkLawsBesides
import Derived.Deep.QuietTactic
import Derived.BigQuiet
import Derived.RegionTactic
import Derived.BigRegion
import Derived.StillTailTactics
import Derived.Deep.WholeRow
import Derived.Deep.DeepCutAuto
import Derived.Deep.CutBlock
import Derived.Laws.MakeOwn
import Derived.Laws.IdiomStrings
import Derived.Deep.Matrix
import Derived.Deep.Fields
import Derived.ChangeArms
import Derived.Test.YticpdokbiblpoaaGreatDoorPkAA
import Derived.Test.YticpdokbiblpoaaGreatDoorTk
set_option linter.unusedVariables false
set_option maxHeartbeats 1000000
namespace Go.Proofs.YticpdokbiblpoaaGreatDoor
open Go.Proofs.Tryz
open Go.Proofs.Tryz renaming prog → zP
open Go.Value renaming int → vI
open Go.IntKind renaming i64 → iJ
open Go.Ending renaming returned → rJ
set_option maxRecDepth 100000
open Go.RowKit
theorem bT{k:IntKind}{a b:Int}(h:a=b):Ending.returned (.int k a)=rJ (.int k b):=by rw[h]
theorem KJ{x:Int}(h:(Lit.int .i64 x).wf=true):-9223372036854775808<=x/\x<=9223372036854775807:=by
 simp[Lit.wf,IntKind.min,IntKind.max,IntKind.signed,IntKind.bits]at h;omega
def pw(n:Nat):Int:=2 ^ n
theorem aFo:pw 0=1:=rfl
theorem kQ(n:Nat):pw (n+1)=2*pw n:=by unfold pw;rw[Int.pow_succ];omega
theorem fI(n:Nat):1<=pw n:=by
 induction n with
 | zero=>simp[pw]
 | succ n ih=>rw[kQ];omega
theorem lY(m n:Nat)(h:m<=n):pw m<=pw n:=by
 induction h with
 | refl=>exact Int.le_refl _
 | step _ ih=>rw[kQ];have:=fI m;omega
theorem aIe:pw 62=4611686018427387904:=rfl
theorem sR(n:Nat)(h:n<=62):pw n<=4611686018427387904:=by have:=lY n 62 h;rw[aIe]at this;exact this
theorem aEL(n:Nat)(h:n<=62):wrap64 ((2:Int) ^ n)=pw n:=by
 have:=sR n h;have:=fI n;exact IntWalk.wrap64_in (pw n) zO
theorem gV(a b:Int)(ha:0<=a):a.tdiv b=a/b:=Int.tdiv_eq_ediv_of_nonneg ha
theorem aCB(a b:Int)(ha:0<=a):a.tmod b=a%b:=Int.tmod_eq_emod_of_nonneg ha
theorem LG{P:Program}(w:World)(d:Nat)(t e:TypeId)(a:Option Addr)(l c:Nat)(h:P.underlying t=some (.slice e)):(Op.equalIn (d+1) t (.slice a l c) (.slice none 0 0)).run P w=.ok a.isNone w:=by
 cases a <;> simp[Op.equalIn,run_underlying h]
theorem eL{P:Program}(t e:TypeId)(a:Option Addr)(l c:Nat)(h:P.underlying t=some (.slice e))(w:World):(binOp .eql t (.slice a l c) (.slice none 0 0)).run P w=.ok (.bool a.isNone) w:=by
 have h2:(Op.equal t (.slice a l c) (.slice none 0 0)).run P w=.ok a.isNone w:=LG w 9999 t e a l c h;simp[binOp,h2]
def aA(n:Nat)(f:Nat->Value):Array Value:=((List.range n).map f).toArray
def nR(f:Nat->Value)(j:Nat)(v:Value):Nat->Value:=fun k=>if k=j then v else f k
theorem aB(n:Nat)(f:Nat->Value):(aA n f).size=n:=by simp[aA]
theorem bI(n:Nat)(f:Nat->Value)(k:Nat)(h:k<n):(aA n f)[k]?=some (f k):=by simp[aA,h]
theorem nA(n:Nat)(f:Nat->Value)(h:∀k,k<n->(f k).oneCell'=true):(aA n f).all (·.oneCell')=true:=by
 simp only[aA,List.all_toArray,List.all_map,List.all_eq_true,List.mem_range,Function.comp];exact h
theorem dS(n:Nat)(f:Nat->Value)(j:Nat)(v:Value)(hj:j<n):(aA n f).setIfInBounds j v=aA n (nR f j v):=by
 apply Array.ext_getElem?;intro i;rw[Array.getElem?_setIfInBounds];by_cases hi:i<n
 ·rw[bI _ _ i hi,aB];by_cases h:j=i
  ·subst h;rw[if_pos rfl,if_pos hj,bI _ _ _ hi];simp[nR]
  ·rw[if_neg h,bI _ _ i hi];simp[nR,show ¬i=j from fun e=>h e.symm]
 ·have h1:(aA n (nR f j v))[i]?=none:=by rw[Array.getElem?_eq_none (by rw[aB];omega)]
  have h2:(aA n f)[i]?=none:=by rw[Array.getElem?_eq_none (by rw[aB];omega)]
  rw[h1,h2,aB,if_neg zO]
theorem kA(n:Nat)(f g:Nat->Value)(h:∀k,k<n->f k=g k):aA n f=aA n g:=by
 unfold aA;congr 1;apply List.map_congr_left;intro k hk;rw[h k (List.mem_range.1 hk)]
theorem MY(w:World)(n:Nat)(t:TypeId)(f:Nat->Value)(k:Nat)(h:k<n):(w.alloc (.cells (aA n f) t)).cell? ⟨w.heap.size,k,none⟩=some (f k):=
 (cell_of_row _ _ _ _ _ _ (heap_alloc_new _ _)).trans (bI n f k h)
structure Tab(w:World)(b n:Nat)(t:TypeId)(f:Nat->Value)(wr:World):Prop where
 blk:wr.heap[b]?=some (.cells (aA n f) t (0,0))
 new:w.heap.size<=b
 old:Old w wr
namespace Tab
variable {w wr w':World} {b n:Nat} {t:TypeId} {f:Nat->Value}
theorem set(h:Tab w b n t f wr)(j:Nat)(v:Value)(hj:j<n):Tab w b n t (nR f j v) (wr.setCell ⟨b,j,none⟩ v):=by
 have hn:=h.new;refine⟨?_,h.new,h.old.after (Kept.setCell (X:=fun k=>k<w.heap.size) _ (a:=⟨b,j,none⟩) (by show ¬b<w.heap.size;omega) _) fun _ hk=>hk⟩;rw[<-dS n f j v hj];exact heap_setCell_same _ _ _ _ _ _ h.blk
theorem keep(h:Tab w b n t f wr)(k:Old wr w'):Tab w b n t f w':=⟨(k.block b (lt_of_block h.blk)).trans h.blk,h.new,h.old.trans k⟩
theorem cell(h:Tab w b n t f wr)(j:Nat)(hj:j<n):wr.cell? ⟨b,j,none⟩=some (f j)/\wr.frozen? ⟨b,j,none⟩=false:=
 ⟨(cell_of_row _ _ _ _ _ _ h.blk).trans (bI n f j hj),frozen_of_row _ _ _ _ _ h.blk⟩
theorem other(h:Tab w b n t f wr){a:Addr}(ha:b≠a.block)(hw:¬a.block<w.heap.size)(v:Value):Tab w b n t f (wr.setCell a v):=
 ⟨(heap_setCell_other _ _ _ _ ha).trans h.blk,h.new,h.old.after (Kept.setCell (X:=fun k=>k<w.heap.size) _ hw _) fun _ hk=>hk⟩
theorem two(w:World)(n:Nat)(t:TypeId)(f:Nat->Value):Tab w (w.heap.size+1) n t f ((w.alloc (.cells (aA n f) t)).alloc (.cells (aA n f) t))/\Tab w w.heap.size n t f ((w.alloc (.cells (aA n f) t)).alloc (.cells (aA n f) t)):=
 ⟨⟨heap_alloc2_new w _ _,zO,(Old.alloc _ _).alloc' _⟩,⟨heap_alloc2_old w _ _,Nat.le_refl _,(Old.alloc _ _).alloc' _⟩⟩
theorem row(h:Tab w b n t f wr)(g:Nat->Value):Tab w b n t g (wr.setRow b (aA n g)):=by
 have hn:=h.new;exact⟨setRow_heap _ _ _ _ _ _ h.blk,h.new,h.old.after (X:=fun k=>k<w.heap.size) ⟨rfl,rfl,zS,fun k hk=>setRow_other _ _ _ _ zO⟩ fun _ h=>h⟩
end Tab
def eK(v k:Int):Bool:=if k<=0 then v == 0 else if k > 63 then true else decide (-(pw (k-1).toNat)<=v/\v<pw (k-1).toNat)
theorem lI(v k:Int)(h:k<=0):eK v k=(v == 0):=by unfold eK;rw[if_pos h]
theorem aDh(v k:Int)(h:63<k):eK v k=true:=by unfold eK;rw[if_neg zO,if_pos h]
theorem fD(v k:Int)(h0:0<k)(h1:k<=63):eK v k=decide (-(pw (k-1).toNat)<=v/\v<pw (k-1).toNat):=by unfold eK;rw[if_neg zO,if_neg zO]
theorem BA(v k:Int)(w:World):
  Calls zP 232 #[vI iJ v,vI iJ k] w fun e w'=>e=rJ (.bool (eK v k))/\w=w':=by
 by_cases h0:k<=0
 ·rw[lI v k h0];go_enter func232,ntmps232;go_wp2;go_ret;exact⟨rfl,rfl⟩
 ·by_cases h1:63<k
  ·rw[aDh v k h1];go_enter func232,ntmps232;go_wp2;go_ret;exact⟨rfl,rfl⟩
  ·rw[fD v k zO zO];have hp:=fI (k-1).toNat
   have hq:=sR (k-1).toNat zO;have he:wrap64 ((2:Int) ^ (k.toNat-1))=pw (k-1).toNat:=by
    have e1:(2:Int) ^ (k.toNat-1)=pw (k-1).toNat:=by rw[show (k-1).toNat=k.toNat-1 by omega];rfl
    rw[e1];exact IntWalk.wrap64_in _ ⟨zO,zO⟩
   generalize pw (k-1).toNat=q at *;by_cases a:-q<=v <;> by_cases b:v<q <;> try (exfalso;omega)
   all_goals
    have hd:Hid (decide (-q<=v/\v<q)=(decide (-q<=v) && decide (v<q))):=by unfold Hid;simp
    rw[hd.o];clear hd;go_enter func232,ntmps232;go_wp2;go_ret;refine⟨?_,rfl⟩;simp[a,b]
def mB(k:Int):Bool:=decide (0<=k/\k<=57)
theorem eJ(k:Int)(w:World):
  Calls zP 231 #[vI iJ k] w fun e w'=>e=rJ (.bool (mB k))/\w=w':=by
 have hd:Hid (mB k=(decide (0<=k) && decide (k<=57))):=by unfold Hid mB;simp
 rw[hd.o];clear hd;by_cases a:0<=k <;> by_cases b:k<=57 <;> try (exfalso;omega)
 all_goals
  go_enter func231,ntmps231;go_wp2;go_ret;refine⟨?_,rfl⟩;simp[a,b]
def jD(v lo hi:Int):Int:=if hi<lo\/v<lo then lo else if hi<v then hi else v
theorem ZZ(v lo hi:Int)(h:¬(hi<lo\/v<lo))(h2:¬hi<v):jD v lo hi=v:=by unfold jD;rw[if_neg h,if_neg h2]
theorem EX(v lo hi:Int):jD v lo hi=max lo (min v hi):=by unfold jD;split <;> (try split) <;> omega
theorem GM(v lo hi:Int)(w:World):
  Calls zP 75 #[vI iJ v,vI iJ lo,vI iJ hi] w fun e w'=>e=rJ (vI iJ (jD v lo hi))/\w=w':=by
 rw[EX];go_enter func75,ntmps75;go_wp2
 all_goals (go_ret;exact⟨bT zO,rfl⟩)
def oG(v:Int):Int:=jD v (-32768) 32767
theorem aFW(v:Int):-32768<=oG v/\oG v<=32767:=by unfold oG jD;split <;> (try split) <;> omega
theorem IV(v:Int)(w:World):
  Calls zP 41 #[vI iJ v] w fun e w'=>e=rJ (vI iJ (oG v))/\w=w':=by
 have hc:=zH (GM v (-32768) 32767 w);have hb:=aFW v;unfold oG at hb |-;generalize jD v (-32768) 32767=x at *;obtain⟨h1,h2⟩:=hb;go_enter func41,ntmps41
 go_wp2_with fail
 refine hc.o.mono ?_;rintro e w' ⟨rfl,rfl⟩;go_wp2;go_ret;exact⟨rfl,rfl⟩
def eB(v:Int):Int:=if v = -9223372036854775808 then 9223372036854775807 else if v<0 then -v else v
theorem KO(v:Int)(h:-9223372036854775808<=v)(h':v<=9223372036854775807):0<=eB v/\eB v<=9223372036854775807:=by unfold eB;split <;> (try split) <;> omega
theorem xU(v:Int)(w:World)(h1:-9223372036854775808<=v)(h2:v<=9223372036854775807):
  Calls zP 240 #[vI iJ v] w fun e w'=>e=rJ (vI iJ (eB v))/\w=w':=by
 by_cases a:v = -9223372036854775808
 ·subst a;go_enter func240,ntmps240;go_wp2;go_ret;exact⟨rfl,rfl⟩
 ·have h3:-9223372036854775807<=v:=zO;have a':(v == -9223372036854775808)=false:=by simpa using a
  have hx:Hid (eB v=max v (-v)):=by unfold Hid eB;rw[if_neg a];split <;> omega
  rw[hx.o];clear a;go_enter func240,ntmps240;go_wp2
  all_goals (go_ret;exact⟨bT zO,rfl⟩)
theorem aCP(v:Int)(n:Nat)(hn:n<=62):bits .and .i64 v (pw n-1)=v%pw n:=by
 have hp:=fI n;have hq:=sR n hn;have e2:(BitVec.ofInt 64 (pw n-1)).toNat=2 ^ n-1:=by
  rw[BitVec.toNat_ofInt];have e:pw n=((2 ^ n:Nat):Int):=by unfold pw;simp
  have e':(((2:Nat) ^ 64:Nat):Int)=18446744073709551616:=rfl;rw[e',Int.emod_eq_of_lt zO zO,e];omega
 have e1:(((BitVec.ofInt 64 v).toNat:Nat):Int)=v%18446744073709551616:=by
  rw[BitVec.toNat_ofInt];have e':(((2:Nat) ^ 64:Nat):Int)=18446744073709551616:=rfl;rw[e',Int.toNat_of_nonneg (Int.emod_nonneg _ zD)]
 show IntKind.i64.wrap ((BitVec.ofInt 64 v &&& BitVec.ofInt 64 (pw n-1)).toNat:Int)=_;rw[BitVec.toNat_and,e2,Nat.and_two_pow_sub_one_eq_mod];have e3:((((BitVec.ofInt 64 v).toNat%2 ^ n:Nat)):Int)=v%pw n:=by
  rw[Int.natCast_emod,e1];have e:((2 ^ n:Nat):Int)=pw n:=by unfold pw;simp
  rw[e];refine Int.emod_emod_of_dvd v ⟨2 ^ (64-n),?_⟩;unfold pw;rw[<-Int.pow_add,show n+(64-n)=64 by omega];rfl
 rw[e3];have h1:=Int.emod_nonneg v (show pw n≠0 by omega);have h2:=Int.emod_lt_of_pos v (show 0<pw n by omega);exact IntWalk.i64_in _ zO
theorem GQ(v k:Int)(w:World)(h0:0<=k)(h1:k<=62):
  Calls zP 120 #[vI iJ v,vI iJ k] w fun e w'=>e=rJ (.tuple #[vI iJ (v/pw k.toNat),vI iJ (2*(v%pw k.toNat))])/\∃n,w'=w.drewN n:=by
 go_enter func120,ntmps120;go_wp2
 go_quiet (fail)
 go_wp2
 go_ret2
 refine⟨?_,_,rfl⟩;have hq:=sR k.toNat zO;have hp:=fI k.toNat
 have e0:wrap64 (wrap64 (2 ^ k.toNat)-1)=pw k.toNat-1:=by
  show wrap64 (wrap64 (pw k.toNat)-1)=_;rw[IntWalk.wrap64_in (pw k.toNat) zO,IntWalk.wrap64_in _ zO]
 have h1:=Int.emod_nonneg v (show pw k.toNat≠0 by omega);have h2:=Int.emod_lt_of_pos v (show 0<pw k.toNat by omega);have e1:wrap64 (2*bits BinOp.and iJ v (wrap64 (wrap64 (2 ^ k.toNat)-1)))=2*(v%pw k.toNat):=by
  rw[e0,aCP v k.toNat zO,IntWalk.wrap64_in _ zO]
 show Ending.returned (Value.tuple #[vI iJ (v/pw k.toNat),vI iJ (wrap64 (2*bits BinOp.and iJ v (wrap64 (wrap64 (2 ^ k.toNat)-1))))])=_;rw[e1]
theorem wY(k:Int)(w:World)(h0:0<=k)(h1:k<=62):
  Calls zP 119 #[vI iJ k] w fun e w'=>e=rJ (.bool true)/\w=w':=by
 go_enter func119,ntmps119;go_wp2;go_ret;exact⟨rfl,rfl⟩
def iW(v p:Int):Int:=if p<=2*(v%p) then v/p+1 else v/p
def kB(v p:Int):Int:=if p<2*(v%p)\/(2*(v%p)=p/\0<v) then v/p+1 else v/p
theorem KS(v p:Int)(hp:1<=p)(h1:-9223372036854775808<=v)(h2:v<=9223372036854775807):
  0<=v%p/\v%p<p/\-9223372036854775808<=v/p/\v/p<=9223372036854775807/\(2<=p->v/p<=4611686018427387903):=by
 refine⟨Int.emod_nonneg _ zO,Int.emod_lt_of_pos _ zO,?_,?_,fun h=>?_⟩
 ·exact Int.le_ediv_of_mul_le zO zO
 ·have:=Int.ediv_lt_of_lt_mul (a:=v) (b:=9223372036854775808) (c:=p) zO zO;omega
 ·have:=Int.ediv_lt_of_lt_mul (a:=v) (b:=4611686018427387904) (c:=p) zO zO;omega
theorem uV(v k:Int)(w:World)(h0:0<=k)(h1:k<=62)(h2:-9223372036854775808<=v)(h3:v<=9223372036854775807):
  Calls zP 76 #[vI iJ v,vI iJ k] w fun e w'=>e=rJ (vI iJ (iW v (pw k.toNat)))/\∃n,w'=w.drewN n:=by
 have hq:=sR k.toNat zO;have hp:=fI k.toNat
 have he:wrap64 ((2:Int) ^ k.toNat)=pw k.toNat:=IntWalk.wrap64_in (pw k.toNat) zO;have hc:=zH (GQ v k w h0 h1);have hy:=zH (wY k w h0 h1);unfold iW;generalize pw k.toNat=p at *;obtain⟨b1,b2,b3,b4,b5⟩:=KS v p hp h2 h3;generalize v%p=m at *;generalize v/p=q at *;by_cases c:p<=2*m
 ·rw[if_pos c];have b6:=b5 zO;clear b5;go_enter func76,ntmps76
  go_wp2_with fail
  refine hy.o.mono ?_;rintro e w' ⟨rfl,rfl⟩
  go_wp2_with fail
  refine hc.o.mono ?_;rintro e w1 ⟨rfl,n1,rfl⟩;go_wp2;go_ret;exact⟨rfl,_,rfl⟩
 ·rw[if_neg c];clear b5;have c':2*m<p:=zO;clear c;go_enter func76,ntmps76
  go_wp2_with fail
  refine hy.o.mono ?_;rintro e w' ⟨rfl,rfl⟩
  go_wp2_with fail
  refine hc.o.mono ?_;rintro e w1 ⟨rfl,n1,rfl⟩;go_wp2;go_ret;exact⟨rfl,_,rfl⟩
theorem aCS(v k:Int)(w:World)(h0:0<=k)(h1:k<=62)(h2:-9223372036854775808<=v)(h3:v<=9223372036854775807):
  Calls zP 256 #[vI iJ v,vI iJ k] w fun e w'=>e=rJ (vI iJ (kB v (pw k.toNat)))/\∃n,w'=w.drewN n:=by
 have hq:=sR k.toNat zO;have hp:=fI k.toNat
 have he:wrap64 ((2:Int) ^ k.toNat)=pw k.toNat:=IntWalk.wrap64_in (pw k.toNat) zO;have hc:=zH (GQ v k w h0 h1);have hy:=zH (wY k w h0 h1);unfold kB;generalize pw k.toNat=p at *;obtain⟨b1,b2,b3,b4,b5⟩:=KS v p hp h2 h3;generalize v%p=m at *;generalize v/p=q at *;by_cases c:p<2*m
 ·rw[if_pos (Or.inl c)];have b6:=b5 zO;clear b5;go_enter func256,ntmps256
  go_wp2_with fail
  refine hy.o.mono ?_;rintro e w' ⟨rfl,rfl⟩
  go_wp2_with fail
  refine hc.o.mono ?_;rintro e w1 ⟨rfl,n1,rfl⟩;go_wp2;go_ret;exact⟨rfl,_,rfl⟩
 ·have c':2*m<=p:=zO;by_cases d:2*m=p
  ·have d':(2*m == p)=true:=by simpa using d
   by_cases hv:0<v
   ·rw[if_pos (Or.inr ⟨d,hv⟩)];have b6:=b5 zO;clear b5 c d;go_enter func256,ntmps256
    go_wp2_with fail
    refine hy.o.mono ?_;rintro e w' ⟨rfl,rfl⟩
    go_wp2_with fail
    refine hc.o.mono ?_;rintro e w1 ⟨rfl,n1,rfl⟩;go_wp2;go_ret;exact⟨rfl,_,rfl⟩
   ·rw[if_neg zO];have hv':v<=0:=zO;clear b5 c d hv;go_enter func256,ntmps256
    go_wp2_with fail
    refine hy.o.mono ?_;rintro e w' ⟨rfl,rfl⟩
    go_wp2_with fail
    refine hc.o.mono ?_;rintro e w1 ⟨rfl,n1,rfl⟩;go_wp2;go_ret;exact⟨rfl,_,rfl⟩
  ·have d':(2*m == p)=false:=by simpa using d
   rw[if_neg zO];clear b5 c d;go_enter func256,ntmps256
   go_wp2_with fail
   refine hy.o.mono ?_;rintro e w' ⟨rfl,rfl⟩
   go_wp2_with fail
   refine hc.o.mono ?_;rintro e w1 ⟨rfl,n1,rfl⟩;go_wp2;go_ret;exact⟨rfl,_,rfl⟩
def jF(x:Int):Prop:=-9223372036854775808<=x/\x<=9223372036854775807
def EE(a b:Int):Int:=if 9223372036854775807<a+b then 9223372036854775807 else if a+b < -9223372036854775808 then -9223372036854775808 else a+b
theorem aFz(a b:Int):jF (EE a b):=by unfold EE jF;split <;> (try split) <;> omega
def AM(xs:List Int):Int:=xs.foldl EE 0
def bF(xs:List Int):Int:=xs.foldl (fun p v=>max p (eB v)) 0
theorem aFG(xs:List Int):jF (AM xs):=by
 unfold AM;have:∀(xs:List Int) (a:Int),jF a->jF (xs.foldl EE a):=by
  intro xs
  induction xs with
  | nil=>intro a h;exact h
  | cons x xs ih=>intro a _;exact ih _ (aFz a x)
 exact this xs 0 ⟨zO,zO⟩
theorem mP(xs:List Int)(h:∀x∈xs,jF x):0<=bF xs/\bF xs<=9223372036854775807:=by
 unfold bF;have:∀(xs:List Int) (a:Int),(∀x∈xs,jF x)->(0<=a/\a<=9223372036854775807)->0<=xs.foldl (fun p v=>max p (eB v)) a/\xs.foldl (fun p v=>max p (eB v)) a<=9223372036854775807:=by
  intro xs
  induction xs with
  | nil=>intro a _ h;exact h
  | cons x xs ih=>
   intro a hx h;have b:=KO x (hx x zS).1 (hx x zS).2;exact ih _ (fun y hy=>hx y (by simp[hy])) (show 0<=max a (eB x)/\max a (eB x)<=9223372036854775807 by omega)
 exact this xs 0 h ⟨zO,zO⟩
theorem aBa(xs:List Int)(k:Nat)(h:k<xs.length):AM (xs.take (k+1))=EE (AM (xs.take k)) (xs.getD k 0):=by
 rw[lH xs k h];unfold AM;rw[List.foldl_append];rfl
theorem SO(xs:List Int)(k:Nat)(h:k<xs.length):bF (xs.take (k+1))=max (bF (xs.take k)) (eB (xs.getD k 0)):=by
 rw[lH xs k h];unfold bF;rw[List.foldl_append];rfl
theorem KU{xs:List Int}(h:∀x∈xs,jF x)(k:Nat):jF (xs.getD k 0):=by
 by_cases hk:k<xs.length
 ·have:xs.getD k 0=xs[k]:=by simp[List.getD,hk]
  rw[this];exact h _ (List.getElem_mem hk)
 ·have:xs.getD k 0=0:=by simp[List.getD,Nat.not_lt.1 hk]
  rw[this];exact⟨zO,zO⟩
theorem SV(a b:Int)(w:World)(ha:jF a)(hb:jF b):
  Calls zP 158 #[vI iJ a,vI iJ b] w fun e w'=>e=rJ (vI iJ (EE a b))/\w=w':=by
 obtain⟨a1,a2⟩:=ha;obtain⟨b1,b2⟩:=hb;unfold EE;by_cases h1:9223372036854775807<a+b
 ·rw[if_pos h1];have c1:0<b:=zO;have ws:wrap64 (a+b)=a+b-18446744073709551616:=by unfold wrap64;omega
  have c2:a+b-18446744073709551616<a:=zO;go_enter func158,ntmps158;go_wp2;go_ret;exact⟨rfl,rfl⟩
 ·rw[if_neg h1];by_cases h2:a+b < -9223372036854775808
  ·rw[if_pos h2];have c1:b<0:=zO;have ws:wrap64 (a+b)=a+b+18446744073709551616:=by unfold wrap64;omega
   have c2:a<a+b+18446744073709551616:=zO;clear h1;go_enter func158,ntmps158;go_wp2;go_ret;exact⟨rfl,rfl⟩
  ·rw[if_neg h2];have ws:=IntWalk.wrap64_in (a+b) ⟨zO,zO⟩;clear h1 h2;rcases(show 0<b\/b<0\/b=0 by omega) with h | h | h
   ·have c3:a<=a+b:=zO;go_enter func158,ntmps158;go_wp2;go_ret;exact⟨rfl,rfl⟩
   ·have c3:a+b<=a:=zO;go_enter func158,ntmps158;go_wp2;go_ret;exact⟨rfl,rfl⟩
   ·subst h;rw[Int.add_zero]at ws |-;go_enter func158,ntmps158;go_wp2;go_ret;exact⟨rfl,rfl⟩
theorem aFZ(p:Option Addr)(n cap:Nat)(xs:List Int)(w:World)(hs:kK w .i64 (.slice p n cap) xs)(hb:∀x∈xs,jF x)(hn:n<=9223372036854775807):
  Calls zP 111 #[.slice p n cap] w fun e w'=>e=rJ (vI iJ (AM xs))/\w=w':=by
 obtain⟨hl,hc⟩:=hs.cellAt;have HC:=zH hc;have HL:=zH hl;have HB:=zH hb;clear hs hc hl hb;go_enter func111,ntmps111;go_wp2
 go_loop [3,8] (fun s i=>∃k:Nat,k<=n/\i=vI iJ k/\s=vI iJ (AM (xs.take k))) (fun _ i=>n-(intOf i).toNat)
 case atStart=>exact⟨0,zO,rfl,rfl⟩
 case round=>
  obtain⟨k,hk,rfl,rfl⟩:=hrel;by_cases hlt:k<n
  ·obtain⟨b,off,rfl,_,_,_,hc⟩:=HC.o zO;have hcell:=hc k hlt;have hgo:=zH (SV (AM (xs.take k)) (xs.getD k 0) w (aFG _) (KU HB.o k));rw[<-aBa xs k (by rw[HL.o];exact hlt)]at hgo;clear hc HC HL HB;generalize xs.getD k 0=x at *;generalize AM (xs.take k)=s at *
   go_wp2_with fail
   refine hgo.o.mono ?_;rintro e w' ⟨rfl,rfl⟩;go_wp2;go_round
   case rel=>exact⟨k+1,zO,by go_num,rfl⟩
   case measure=>exact zM
  ·have hend:Hid (xs.take k=xs):=by unfold Hid;rw[List.take_of_length_le (by rw[HL.o];omega)]
   clear HC HL HB;go_wp2;go_ret;exact⟨by rw[hend.o];rfl,rfl⟩
theorem tD(p:Option Addr)(n cap:Nat)(xs:List Int)(w:World)(hs:kK w .i64 (.slice p n cap) xs)(hb:∀x∈xs,jF x)(hn:n<=9223372036854775807):
  Calls zP 217 #[.slice p n cap] w fun e w'=>e=rJ (vI iJ (bF xs))/\w=w':=by
 obtain⟨hl,hc⟩:=hs.cellAt;have HC:=zH hc;have HL:=zH hl;have HB:=zH hb;clear hs hc hl hb;go_enter func217,ntmps217;go_wp2
 go_loop [3,8] (fun s i=>∃k:Nat,k<=n/\i=vI iJ k/\s=vI iJ (bF (xs.take k))) (fun _ i=>n-(intOf i).toNat)
 case atStart=>exact⟨0,zO,rfl,rfl⟩
 case round=>
  obtain⟨k,hk,rfl,rfl⟩:=hrel;by_cases hlt:k<n
  ·obtain⟨b,off,rfl,_,_,_,hc⟩:=HC.o zO;have hcell:=hc k hlt;have hx:=KU HB.o k;have hgo:=zH (xU (xs.getD k 0) w hx.1 hx.2);have hsn:=zH (SO xs k (by rw[HL.o];exact hlt));have hbd:=KO _ hx.1 hx.2;clear hc HC HL HB hx;generalize xs.getD k 0=x at *;generalize bF (xs.take k)=s at *;generalize eB x=y at *
   go_wp2_with fail
   refine hgo.o.mono ?_;rintro e w' ⟨rfl,rfl⟩;go_wp2
   all_goals
    go_round
    case rel=>exact⟨k+1,zO,by go_num,by rw[hsn.o];congr 1;omega⟩
    case measure=>exact zM
  ·have hend:Hid (xs.take k=xs):=by unfold Hid;rw[List.take_of_length_le (by rw[HL.o];omega)]
   clear HC HL HB;go_wp2;go_ret;exact⟨by rw[hend.o];rfl,rfl⟩
theorem aBI(s:Nat)(w:World)(h:s<=23):
  Calls zP 206 #[vI iJ s] w fun e w'=>e=rJ (vI iJ (pw s))/\w=w':=by
 have h0:0<=(s:Int):=zO;have h1:(s:Int)<=23:=zO;have he:=aEL s zO;go_enter func206,ntmps206;go_wp2;go_ret;exact⟨bT (by simpa using he),rfl⟩
def aS(k:Nat):Int:=512*(2*k+1)
def aCj(k:Nat):Int:=1024+(2*k+1)*(2*k+1)
def aT(k:Nat):Int:=((2*k+1)*1048576+aCj k/2)/aCj k
def aBN(k:Nat):Value:=.agg #[vI iJ (aS k),vI iJ (aT k)]
def yO(k:Nat):Int:=if k%2=0 then aS (k/2) else aT (k/2)
def bM(n:Nat):Nat->Value:=fun k=>vI iJ (if k<n*2 then yO k else 0)
theorem aAc(n:Nat)(hn:n<8):aA 16 (nR (nR (bM n) (n*2) (vI iJ (aS n))) (n*2+1) (vI iJ (aT n)))=aA 16 (bM (n+1)):=by
 apply kA;intro k hk;unfold nR bM;by_cases h:k=n*2+1
 ·subst h;rw[if_pos rfl,if_pos zO];unfold yO;rw[if_neg zO,show (n*2+1)/2=n by omega]
 ·rw[if_neg h];by_cases h1:k=n*2
  ·subst h1;rw[if_pos rfl,if_pos zO];unfold yO;rw[if_pos zO,show n*2/2=n by omega]
  ·rw[if_neg h1];by_cases h2:k<n*2
   ·rw[if_pos h2,if_pos zO]
   ·rw[if_neg h2,if_neg zO]
theorem LB(k:Nat)(h:k<8):0<=aS k/\aS k<=8192/\0<=aT k/\aT k<=16384:=by
 revert k;decide
theorem aBV(k:Nat)(w:World)(h:k<=7):
  Calls zP 108 #[vI iJ k] w fun e w'=>e=rJ (aBN k)/\Old w w':=by
 have i1:0<=(k:Int):=zO;have i2:(k:Int)<8:=zO;unfold aBN aS aT aCj;have m1:1<=2*(k:Int)+1:=zO;have m2:2*(k:Int)+1<=15:=zO;have hq0:0<=(2*(k:Int)+1)*(2*(k:Int)+1):=Int.mul_nonneg zO zO;have hq1:(2*(k:Int)+1)*(2*(k:Int)+1)<=225:=by have:=Int.mul_le_mul m2 m2 zO zO;omega
 generalize hq:(2*(k:Int)+1)*(2*(k:Int)+1)=q at *;have PU:(1024+q).tdiv 2=(1024+q)/2:=gV _ _ zO;have hd3:((2*(k:Int)+1)*1048576+(1024+q)/2).tdiv (1024+q)=((2*(k:Int)+1)*1048576+(1024+q)/2)/(1024+q):=gV _ _ zO;have u1:0<=((2*(k:Int)+1)*1048576+(1024+q)/2)/(1024+q):=Int.ediv_nonneg zO zO;have u2:((2*(k:Int)+1)*1048576+(1024+q)/2)/(1024+q)<=20000000:=by
  have:=Int.ediv_le_self (1024+q) (show 0<=(2*(k:Int)+1)*1048576+(1024+q)/2 by omega);omega
 go_enter func108,ntmps108;go_wp2;refine bodyPost_ret (results_cell_row rfl _ _ w.heap.size 50 _ (0,0) _ rfl (heap_alloc_new _ _) underlying50 rfl zK) rfl ⟨rfl,Old.alloc _ _⟩
theorem NW(w:World):Hid (Tab w (w.heap.size+1) 16 51 (bM 0) ((w.alloc (.cells (aA 16 (bM 0)) 51)).alloc (.cells (aA 16 (bM 0)) 51))/\Tab w w.heap.size 16 51 (bM 0) ((w.alloc (.cells (aA 16 (bM 0)) 51)).alloc (.cells (aA 16 (bM 0)) 51))):=zH (Tab.two _ _ _ _)
theorem vV(w:World):
  Calls zP 67 #[] w fun e w'=>e=rJ (.agg (aA 16 (bM 8)))/\Old w w':=by
 have hst:=NW w;go_enter func67,ntmps67;go_wp2
 go_loopw [3] (fun i wr=>∃k:Nat,k<=8/\i=vI iJ k/\Hid (Tab w (w.heap.size+1) 16 51 (bM k) wr/\Tab w w.heap.size 16 51 (bM 0) wr)) (fun i _=>8-(intOf i).toNat)
 case atStart=>exact⟨0,zO,rfl,hst⟩
 case round=>
  obtain⟨k,hk,rfl,ht⟩:=hrel;by_cases hlt:k<8
  ·have i1:0<=(k:Int):=zO;have i2:(k:Int)<8:=zO;have hT:=zH (aBV k wr zO);clear hst
   go_wp2_with fail
   refine hT.o.mono ?_;rintro e w1 ⟨rfl,ho⟩;have ht1:=ht.o.1.keep ho;have ht2:=ht.o.2.keep ho;have hb:=ht1.new;obtain⟨hc,hf⟩:=ht1.cell (k*2) zO;obtain⟨hc1,hf1⟩:=(ht1.set (k*2) (vI iJ (aS k)) zO).cell (k*2+1) zO;have hnx:Hid (Tab w (w.heap.size+1) 16 51 (bM (k+1)) ((w1.setCell ⟨w.heap.size+1,k*2,none⟩ (vI iJ (aS k))).setCell ⟨w.heap.size+1,k*2+1,none⟩ (vI iJ (aT k)))/\Tab w w.heap.size 16 51 (bM 0) ((w1.setCell ⟨w.heap.size+1,k*2,none⟩ (vI iJ (aS k))).setCell ⟨w.heap.size+1,k*2+1,none⟩ (vI iJ (aT k)))):=by
    refine⟨?_,(ht2.other (a:=⟨w.heap.size+1,k*2,none⟩) zS zS _).other (a:=⟨w.heap.size+1,k*2+1,none⟩) zS zS _⟩;have h:=(ht1.set (k*2) (vI iJ (aS k)) zO).set (k*2+1) (vI iJ (aT k)) zO;exact⟨by rw[<-aAc k hlt];exact h.blk,h.new,h.old⟩
   clear ht ht1 ht2 ho;unfold aBN;go_wp2;go_roundw
   case rel=>exact⟨k+1,zO,by go_num,hnx⟩
   case measure=>exact zM
  ·obtain rfl:k=8:=zO;have hfin:Hid (Tab w w.heap.size 16 51 (bM 8) (wr.setRow w.heap.size (aA 16 (bM 8)))):=ht.o.2.row _;have Hb:=zH ht.o.1.blk;have Hr:=zH ht.o.2.blk;have Hz:Hid ((zP.info? 51).map (·.size)=some 16):=zH zK;have H1:Hid ((aA 16 (bM 8)).all (·.oneCell')=true):=zH (nA _ _ fun _ _=>rfl);clear hst ht
   go_wp2_with (first | (with_reducible refine wpList_load_row rfl 51 _ rfl (w.heap.size+1) rfl 51 (aA 16 (bM 8)) (0,0) _ Hb.o underlying51 rfl (by rw[aB];exact Hz.o) ?_) | (with_reducible refine wpList_store_row rfl 51 _ _ rfl w.heap.size (aA 16 (bM 8)) rfl rfl 51 _ Hr.o (by rw[aB];exact Hz.o) (by rw[aB,aB]) H1.o ?_))
   refine bodyPost_ret (results_cell_row rfl _ _ w.heap.size 51 (aA 16 (bM 8)) (0,0) _ rfl hfin.o.blk underlying51 rfl (by rw[aB];exact Hz.o)) rfl ⟨rfl,hfin.o.old⟩
open Go.ChangeShapes Go.WideShapes
def OwnL(k:IntKind)(t:TypeId)(X:Nat->Prop)(w:World)(v:Value)(xs:List Int):Prop:=ownX X w t v xs.length (xs.map (Value.int k))
namespace OwnL
variable {k:IntKind} {t:TypeId} {X Y:Nat->Prop} {w w':World} {v:Value} {xs:List Int}
theorem nil(k:IntKind)(t:TypeId)(X:Nat->Prop)(w:World):OwnL k t X w (.slice none 0 0) []:=ownX.nil X w t
theorem old(h:OwnL k t X w v xs)(ho:Old w w'):OwnL k t X w' v xs:=ownX.old h ho
theorem mono(h:OwnL k t X w v xs)(hY:∀k,v.ownBlock=some k->¬Y k):OwnL k t Y w v xs:=ownX.mono h hY
theorem sl(h:OwnL k t X w v xs):kK w k v xs:=aFs h
theorem snoc{x:Int}(h:ownX X w t v (xs.length+1) (xs.map (Value.int k) ++ [.int k x])):OwnL k t X w v (xs ++ [x]):=by
 unfold OwnL;rw[List.length_append,List.map_append];exact h
end OwnL
theorem Tryz.info_i64':(zP.info? 2).map (fun i=>(i.zero,i.size,i.bytes))=some (some (vI iJ 0),1,8):=zK
theorem ZF(w:World)(t:TypeId):ownX (fun q=>q<w.heap.size) (w.alloc (.cells #[] t)) t (.slice (some ⟨w.heap.size,0,none⟩) 0 0) 0 []:=by
 refine⟨⟨rfl,.inr ⟨w.heap.size,0,#[],rfl,Nat.zero_le _,heap_alloc_new _ _,Nat.le_refl _,Nat.zero_le _,rfl,rfl⟩⟩,fun k hk=>?_⟩;have:k=w.heap.size:=by simpa[Value.ownBlock,eq_comm]using hk
 omega
theorem XM(p:Option Addr)(n cap:Nat)(xs:List Int)(w:World)(hs:kK w .i64 (.slice p n cap) xs)(hn:n<=1099511627776):
  Calls zP 207 #[.slice p n cap] w fun e w'=>∃v,e=rJ v/\OwnL .i64 2 (fun q=>q<w.heap.size) w' v xs/\Old w w':=by
 obtain⟨hl,hc⟩:=hs.cellAt;have HC:=zH hc;have HL:=zH hl;clear hs hc hl;obtain⟨i0,hi,hz0,hz1,hz2⟩:=info_parts Tryz.info_i64';cases p with
 | none=>
  have h0:n=0:=by
   rcases Nat.eq_zero_or_pos n with h | h
   ·exact h
   ·obtain⟨b,off,hp,_⟩:=HC.o h;cases hp
  have hx:xs = []:=List.eq_nil_of_length_eq_zero (by rw[HL.o];exact h0);have HX:=zH hx;clear hx h0 HC HL;have hE:=eL 169 2 none n cap underlying169;go_enter func207,ntmps207;go_wp2;go_ret;exact⟨_,rfl,by rw[HX.o];exact OwnL.nil _ _ _ _,Old.refl w⟩
 | some a=>
  have HN:Hid (∀j u,(xs.map (Value.int .i64))[j]?=some u->(w.alloc (.cells #[] 2)).cell? (a.add j)=some u):=by
   intro j u hj;rw[List.getElem?_map]at hj;cases hx:xs[j]? with
   | none=>rw[hx]at hj;cases hj
   | some x=>
    rw[hx]at hj;have hjl:j<xs.length:=by
     by_cases h:j<xs.length
     ·exact h
     ·rw[List.getElem?_eq_none zO]at hx;cases hx
    obtain⟨b,off,hp,hb,_,_,hcell⟩:=HC.o (by have:=HL.o;omega);obtain rfl:a=⟨b,off,none⟩:=by simpa using hp
    rw[add_plain,(Old.alloc w (.cells #[] 2)).cell (a:=⟨b,off+j,none⟩) hb,hcell j (by have:=HL.o;omega)];have hx':xs.getD j 0=x:=by rw[List.getD_eq_getElem?_getD,hx];rfl
    rw[hx'];simpa using hj
  have HO:Hid (Old w (w.alloc (.cells #[] 2))):=Old.alloc _ _;have HM:Hid ((xs.map (Value.int .i64)).length=n):=by unfold Hid;rw[List.length_map,HL.o]
  have H1:Hid (∀u∈xs.map (Value.int .i64),u.oneCell'=true):=by
   intro u hu;obtain⟨x,_,rfl⟩:=List.mem_map.1 hu;rfl
  clear HC;have hE:=eL 169 2 (some a) n cap underlying169;go_enter func207,ntmps207
  go_wp2_with (at_builtin;refine fL _ rfl _ _ 169 rfl (fun q=>q<w.heap.size) 2 i0 (vI iJ 0) 8 underlying169 hi hz0 hz1 hz2 rfl _ _ _ rfl (ZF w 2) a n cap (xs.map (Value.int .i64)) rfl HM.o HN.o H1.o (by unfold maxLen;omega) zO (fun q hq=>Nat.lt_of_lt_of_le hq HO.o.size) ?_;intro v' w2 hown2 hk2 _;have HR2:=zH (show OwnL .i64 2 (fun q=>q<w.heap.size) w2 v' xs from(by unfold OwnL;rw[HL.o];have:=hown2;rw[Nat.zero_add,List.nil_append]at this;exact this));have HO2:=zH (HO.o.after hk2 (fun _ h=>h));clear hown2 hk2 HO HN HM H1 HL)
  go_ret;exact⟨_,rfl,HR2.o,HO2.o⟩
def JM(xs:List Int)(k:Nat):List Int:=(List.range xs.length).map fun i=>if i<k\/xs.length<=i+k then xs.getD (xs.length-1-i) 0 else xs.getD i 0
theorem jY(xs:List Int)(k:Nat):(JM xs k).length=xs.length:=by simp[JM]
theorem mQ(xs:List Int)(k i:Nat)(h:i<xs.length):(JM xs k)[i]?=some (if i<k\/xs.length<=i+k then xs.getD (xs.length-1-i) 0 else xs.getD i 0):=by
 simp[JM,h]
theorem aBc(xs:List Int):JM xs 0=xs:=by
 apply List.ext_getElem?;intro i;by_cases h:i<xs.length
 ·rw[mQ _ _ _ h,if_neg zO];simp[List.getD,h]
 ·rw[List.getElem?_eq_none (by rw[jY];omega),List.getElem?_eq_none zO]
theorem aBX(xs:List Int)(k:Nat)(hk:xs.length<=2*k+1):JM xs k=xs.reverse:=by
 apply List.ext_getElem?;intro i;by_cases h:i<xs.length
 ·rw[mQ _ _ _ h,List.getElem?_reverse h];by_cases c:i<k\/xs.length<=i+k
  ·rw[if_pos c];have:xs.length-1-i<xs.length:=zO;simp[List.getD,this]
  ·rw[if_neg c];have:i=xs.length-1-i:=zO;rw[<-this];simp[List.getD,h]
 ·rw[List.getElem?_eq_none (by rw[jY];omega),List.getElem?_eq_none (by simp;omega)]
theorem XS(xs:List Int)(k:Nat)(h:2*k+1<xs.length):((JM xs k).set k (xs.getD (xs.length-1-k) 0)).set (xs.length-1-k) (xs.getD k 0)=JM xs (k+1):=by
 apply List.ext_getElem?;intro i;by_cases hi:i<xs.length
 ·rw[mQ _ _ _ hi,List.getElem?_set,List.getElem?_set,List.length_set,jY,mQ _ _ _ hi];by_cases c1:xs.length-1-k=i
  ·rw[if_pos c1,if_pos zO,if_pos zO,show xs.length-1-i=k by omega]
  ·rw[if_neg c1];by_cases c2:k=i
   ·subst c2;rw[if_pos rfl,if_pos zO,if_pos zO]
   ·rw[if_neg c2];by_cases c3:i<k\/xs.length<=i+k
    ·rw[if_pos c3,if_pos zO]
    ·rw[if_neg c3,if_neg zO]
 ·rw[List.getElem?_eq_none (by simp[jY];omega),List.getElem?_eq_none (by rw[jY];omega)]
def KC(X:Nat->Prop)(w:World)(v:Value)(xs:List Int)(k:Nat)(wr:World):Prop:=ownX X wr 2 v xs.length ((JM xs k).map (Value.int .i64))/\Kept X w wr
theorem KC.drew{X:Nat->Prop}{w wr:World}{v:Value}{xs:List Int}{k:Nat}(h:Hid (KC X w v xs k wr)):Hid (KC X w v xs k wr.drew):=⟨⟨⟨h.o.1.1.1,h.o.1.1.2⟩,h.o.1.2⟩,h.o.2.drew⟩
theorem LV(X:Nat->Prop)(v:Value)(xs:List Int)(w:World)(hs:OwnL .i64 2 X w v xs)(hX:∀k,X k->k<w.heap.size):
  Calls zP 208 #[v] w fun e w'=>e=rJ (.tuple #[])/\OwnL .i64 2 X w' v xs.reverse/\Kept X w w':=by
 have HS:Hid (KC X w v xs 0 w):=⟨by rw[aBc];exact hs,Kept.refl _ _⟩
 rcases hs.shape with ⟨rfl,h0⟩ | ⟨g,cap,rfl,hg,hgl,hnc,hcm,hcell⟩
 ·have hx:xs = []:=List.eq_nil_of_length_eq_zero h0;have HX:=zH hx;clear h0 hx HS hs;go_enter func208,ntmps208;go_wp2
  go_loop [2,3] (fun i j=>i=vI iJ 0/\j=vI iJ (-1)) (fun _ _=>0)
  case atStart=>exact⟨rfl,rfl⟩
  case round=>
   obtain⟨rfl,rfl⟩:=hrel;go_wp2
   go_end0
   exact⟨rfl,by rw[HX.o];exact OwnL.nil _ _ _ _,Kept.refl _ _⟩
 ·unfold maxLen at hcm;obtain⟨n,hn⟩:=zG (xs.length);rw[<-hn]at hnc |-;have HN:=zH hn;clear hs hcell hn;go_enter func208,ntmps208;go_wp2
  go_loopw [2,3] (fun i j wr=>∃k:Nat,2*k<=n+1/\i=vI iJ k/\j=vI iJ ((n:Int)-1-k)/\Hid (KC X w (.slice (some ⟨g,0,none⟩) n cap) xs k wr)) (fun i _ _=>n-(intOf i).toNat)
  case atStart=>exact⟨0,zO,rfl,by go_num,by rw[HN.o];exact HS⟩
  case round=>
   obtain⟨k,hk,rfl,rfl,HR⟩:=hrel;by_cases h:2*k+1<n
   ·obtain⟨m,hm⟩:∃m:Nat,(m:Int)=(n:Int)-1-k:=⟨n-1-k,zO⟩
    rw[<-hm];have hx1:(xs.length-1-k)=m:=by have:=HN.o;omega
    obtain⟨x,hx⟩:=zG (xs.getD k 0);obtain⟨y,hy⟩:=zG (xs.getD m 0);have c1:wr.cell? ⟨g,k,none⟩=some (vI iJ x):=by
     have hr:=HR.o.1;rw[<-HN.o]at hr;rw[hr.cellAt k zO,List.getElem?_map,mQ _ _ _ (by have:=HN.o;omega),if_neg (by have:=HN.o;omega),<-hx];rfl
    have c2:wr.cell? ⟨g,m,none⟩=some (vI iJ y):=by
     have hr:=HR.o.1;rw[<-HN.o]at hr;rw[hr.cellAt m zO,List.getElem?_map,mQ _ _ _ (by have:=HN.o;omega),if_neg (by have:=HN.o;omega),<-hy];rfl
    have f1:wr.frozen? ⟨g,k,none⟩=false:=by have hr:=HR.o.1;rw[<-HN.o]at hr;exact hr.frozenAt k
    have f2:wr.frozen? ⟨g,m,none⟩=false:=by have hr:=HR.o.1;rw[<-HN.o]at hr;exact hr.frozenAt m
    have hr2:KC X w (.slice (some ⟨g,0,none⟩) n cap) xs (k+1) ((wr.setCell ⟨g,k,none⟩ (vI iJ y)).setCell ⟨g,m,none⟩ (vI iJ x)):=by
     have hr:=HR.o;unfold KC at hr |-;rw[<-HN.o]at hr |-;refine⟨?_,(hr.2.trans (Kept.setCell wr (a:=⟨g,k,none⟩) hg _)).trans (Kept.setCell _ (a:=⟨g,m,none⟩) hg _)⟩;have h2:=(hr.1.stored k (vI iJ y)).stored m (vI iJ x);have h3:=XS xs k (by have:=HN.o;omega);rw[hx1,<-hx,<-hy]at h3;rw[<-List.map_set,<-List.map_set,h3]at h2;exact h2
    have HR2:=zH hr2;have hkm:k<m:=zO;have hmn:m<n:=zO;have hkn:k<n:=zO;have HM:=zH hm;have HJ:Hid ((m:Int)-1=(n:Int)-1-(k+1:Nat)):=by unfold Hid;omega
    clear hr2 HR HS hx hy hx1 hm;go_wp2
    go_region
    go_wp2;go_roundw
    case rel=>exact⟨k+1,zO,by go_num,by rw[<-HJ.o],KC.drew HR2⟩
    case measure=>exact zM
   ·have HE:Hid (OwnL .i64 2 X wr (.slice (some ⟨g,0,none⟩) n cap) xs.reverse/\Kept X w wr):=by
     have:=HR.o;unfold KC at this;rw[aBX xs k (by have:=HN.o;omega)]at this;unfold OwnL;rw[List.length_reverse];exact this
    have h':(n:Int)-1-k<=k:=zO;clear HR HS h;go_wp2
    go_end0
    exact⟨rfl,HE.o⟩
def pC(v c:Int):Int:=iW (v*c) 16384
theorem TK(v c M N:Int)(h1:-M<=v)(h2:v<=M)(h3:0<=c)(h4:c<=N):-(M*N)<=v*c/\v*c<=M*N:=by
 have a:=Int.mul_le_mul_of_nonneg_right h2 h3;have b:=Int.mul_le_mul_of_nonneg_right h1 h3;have d:=Int.mul_le_mul_of_nonneg_left h4 (show 0<=M by omega);rw[Int.neg_mul]at b;omega
theorem tG(v c M:Int)(h1:-M<=v)(h2:v<=M)(h3:0<=c)(h4:c<=16384):-M<=pC v c/\pC v c<=M+1:=by
 have:=TK v c M 16384 h1 h2 h3 h4;unfold pC iW;generalize v*c=x at *;split <;> omega
def iG(a b p:Int):Int:=a+pC b p
def kH(a b p u:Int):Int:=b-pC (iG a b p) u
def wW(a b p u:Int):Int:=iG a b p+pC (kH a b p u) p
theorem aFL(a b p u M:Int)(h1:-M<=a)(h2:a<=M)(h3:-M<=b)(h4:b<=M)(p0:0<=p)(p1:p<=16384)(u0:0<=u)(u1:u<=16384):
  (-(2*M+1)<=iG a b p/\iG a b p<=2*M+1)/\(-(3*M+2)<=kH a b p u/\kH a b p u<=3*M+2)/\(-(5*M+4)<=wW a b p u/\wW a b p u<=5*M+4):=by
 have x1:=tG b p M h3 h4 p0 p1;have y1:-(2*M+1)<=iG a b p/\iG a b p<=2*M+1:=by unfold iG;omega
 have x2:=tG (iG a b p) u (2*M+1) y1.1 y1.2 u0 u1;have y2:-(3*M+2)<=kH a b p u/\kH a b p u<=3*M+2:=by unfold kH;omega
 have x3:=tG (kH a b p u) p (3*M+2) y2.1 y2.2 p0 p1;refine⟨y1,y2,?_⟩;unfold wW;omega
theorem fT(x:Int):-9223372036854775808<=wrap64 x/\wrap64 x<=9223372036854775807:=by unfold wrap64;omega
theorem IZ(b m:Int)(h1:-9223372036854775808<=b)(h2:b<=9223372036854775807):wrap64 (wrap64 (b-m)+m)=b:=by unfold wrap64;omega
theorem tF(b m:Int)(h1:-9223372036854775808<=b)(h2:b<=9223372036854775807):wrap64 (wrap64 (b+m)-m)=b:=by unfold wrap64;omega
def gC(v c:Int):Int:=iW (wrap64 (v*c)) 16384
def lE(a b p:Int):Int:=wrap64 (a+gC b p)
def bA(a b p u:Int):Int:=wrap64 (b-gC (lE a b p) u)
def bB(a b p u:Int):Int:=wrap64 (lE a b p+gC (bA a b p u) p)
def pS(a b p:Int):Int:=wrap64 (a-gC b p)
def bW(a b p u:Int):Int:=wrap64 (b+gC (pS a b p) u)
def cV(a b p u:Int):Int:=wrap64 (pS a b p-gC (bW a b p u) p)
theorem pY(a b p u:Int)(a1:-9223372036854775808<=a)(a2:a<=9223372036854775807)(b1:-9223372036854775808<=b)(b2:b<=9223372036854775807):
  cV (bB a b p u) (bA a b p u) p u=a/\bW (bB a b p u) (bA a b p u) p u=b:=by
 have w1:=fT (a+gC b p);have e1:pS (bB a b p u) (bA a b p u) p=lE a b p:=tF (lE a b p) _ w1.1 w1.2;have e2:bW (bB a b p u) (bA a b p u) p u=b:=by unfold bW;rw[e1];exact IZ b _ b1 b2
 refine⟨?_,e2⟩;unfold cV;rw[e1,e2];exact tF a _ a1 a2
theorem DN(v c M:Int)(h1:-M<=v)(h2:v<=M)(h3:0<=c)(h4:c<=16384)(hM:M<=562949953421311):gC v c=pC v c:=by
 have:=TK v c M 16384 h1 h2 h3 h4;unfold gC pC;rw[IntWalk.wrap64_in _ zO]
theorem OG(a b p u M:Int)(h1:-M<=a)(h2:a<=M)(h3:-M<=b)(h4:b<=M)(p0:0<=p)(p1:p<=16384)(u0:0<=u)(u1:u<=16384)(hM:M<=4398046511104):
  bB a b p u=wW a b p u/\bA a b p u=kH a b p u:=by
 obtain⟨y1,y2,y3⟩:=aFL a b p u M h1 h2 h3 h4 p0 p1 u0 u1;have e1:lE a b p=iG a b p:=by
  unfold lE;rw[DN b p M h3 h4 p0 p1 zO];exact IntWalk.wrap64_in (iG a b p) zO
 have e2:bA a b p u=kH a b p u:=by
  unfold bA;rw[e1,DN (iG a b p) u (2*M+1) y1.1 y1.2 u0 u1 zO];exact IntWalk.wrap64_in (kH a b p u) zO
 refine⟨?_,e2⟩;unfold bB;rw[e1,e2,DN (kH a b p u) p (3*M+2) y2.1 y2.2 p0 p1 zO];exact IntWalk.wrap64_in (wW a b p u) zO
theorem FW(a b p u M:Int)(h1:-M<=a)(h2:a<=M)(h3:-M<=b)(h4:b<=M)(p0:0<=p)(p1:p<=8192)(u0:0<=u)(u1:u<=16384):
  (-(3*M+4)<=wW a b p u/\wW a b p u<=3*M+4)/\(-(3*M+4)<=kH a b p u/\kH a b p u<=3*M+4):=by
 have half:∀v N:Int,-N<=v->v<=N->-(N+1)<=2*pC v p/\2*pC v p<=N+1:=by
  intro v N k1 k2;have:=TK v p N 8192 k1 k2 p0 p1;unfold pC iW;generalize v*p=x at *;split <;> omega
 have x1:=half b M h3 h4;have y1:-(3*M+1)<=2*iG a b p/\2*iG a b p<=3*M+1:=by unfold iG;omega
 have x2:=tG (iG a b p) u ((3*M+1)/2) zO zO u0 u1;have y2:-(5*M+3)<=2*kH a b p u/\2*kH a b p u<=5*M+3:=by unfold kH;omega
 have x3:=half (kH a b p u) ((5*M+3)/2) zO zO;refine⟨?_,zO⟩;unfold wW;omega
theorem kY(v c:Int)(w:World):
  Calls zP 164 #[vI iJ v,vI iJ c] w fun e w'=>e=rJ (vI iJ (gC v c))/\∃n,w'=w.drewN n:=by
 unfold gC;have hb:=fT (v*c);have hc:=zH (uV (wrap64 (v*c)) 14 w zD zD hb.1 hb.2);clear hb;generalize hx:v*c=x at *;rw[show pw (14:Int).toNat=16384 from rfl]at hc;generalize hw2:wrap64 x=y at *;subst hx;generalize iW y 16384=z at *;go_enter func164,ntmps164
 go_wp2_with fail
 refine hc.o.mono ?_;rintro e w1 ⟨rfl,n1,rfl⟩;go_wp2;go_ret;exact⟨rfl,_,rfl⟩
theorem NE(a b p u:Int)(w:World):
  Calls zP 220 #[vI iJ a,vI iJ b,.agg #[vI iJ p,vI iJ u]] w fun e w'=>e=rJ (.tuple #[vI iJ (bB a b p u),vI iJ (bA a b p u)])/\Old w w':=by
 have c1:=zH (fun w=>kY b p w);have c2:=zH (fun w=>kY (lE a b p) u w);have c3:=zH (fun w=>kY (bA a b p u) p w);have q1:wrap64 (a+gC b p)=lE a b p:=rfl;have q2:wrap64 (b-gC (lE a b p) u)=bA a b p u:=rfl;have q3:wrap64 (lE a b p+gC (bA a b p u) p)=bB a b p u:=rfl;generalize bB a b p u=a3 at *;generalize bA a b p u=b2 at *;generalize lE a b p=a1 at *;generalize gC b p=m1 at *;generalize gC a1 u=m2 at *;generalize gC b2 p=m3 at *;go_enter func220,ntmps220
 go_wp2_with fail
 refine(c1.o _).mono ?_;rintro e v1 ⟨rfl,n1,rfl⟩
 go_wp2_with fail
 refine(c2.o _).mono ?_;rintro e v2 ⟨rfl,n2,rfl⟩
 go_wp2_with fail
 refine(c3.o _).mono ?_;rintro e v3 ⟨rfl,n3,rfl⟩;go_wp2
 go_ret2
 exact⟨by rw[<-q3];rfl,(Old.alloc _ _).drewN _⟩
theorem OT(a b p u:Int)(w:World):
  Calls zP 126 #[vI iJ a,vI iJ b,.agg #[vI iJ p,vI iJ u]] w fun e w'=>e=rJ (.tuple #[vI iJ (cV a b p u),vI iJ (bW a b p u)])/\Old w w':=by
 have c1:=zH (fun w=>kY b p w);have c2:=zH (fun w=>kY (pS a b p) u w);have c3:=zH (fun w=>kY (bW a b p u) p w);have q1:wrap64 (a-gC b p)=pS a b p:=rfl;have q2:wrap64 (b+gC (pS a b p) u)=bW a b p u:=rfl;have q3:wrap64 (pS a b p-gC (bW a b p u) p)=cV a b p u:=rfl;generalize cV a b p u=a3 at *;generalize bW a b p u=b2 at *;generalize pS a b p=a1 at *;generalize gC b p=m1 at *;generalize gC a1 u=m2 at *;generalize gC b2 p=m3 at *;go_enter func126,ntmps126
 go_wp2_with fail
 refine(c1.o _).mono ?_;rintro e v1 ⟨rfl,n1,rfl⟩
 go_wp2_with fail
 refine(c2.o _).mono ?_;rintro e v2 ⟨rfl,n2,rfl⟩
 go_wp2_with fail
 refine(c3.o _).mono ?_;rintro e v3 ⟨rfl,n3,rfl⟩;go_wp2
 go_ret2
 exact⟨by rw[<-q3];rfl,(Old.alloc _ _).drewN _⟩
theorem XI{k l:IntKind}{a b c d:Int}(h:a=c)(h2:b=d):Ending.returned (.tuple #[.int k a,.int l b])=rJ (.tuple #[.int k c,.int l d]):=by rw[h,h2]
def lR(n:Int):Int:=if n<1 then 0 else(n-1)/16+1
theorem nY(n:Nat):lR n=((n+15)/16:Nat):=by unfold lR;split <;> omega
theorem iO(n:Int)(w:World)(h1:-9223372036854775808<=n)(h2:n<=9223372036854775807):
  Calls zP 34 #[vI iJ n] w fun e w'=>e=rJ (vI iJ (lR n))/\w=w':=by
 by_cases h:n<1
 ·have e:lR n=0:=by unfold lR;rw[if_pos h]
  rw[e];clear e;go_enter func34,ntmps34;go_wp2;go_ret;exact⟨rfl,rfl⟩
 ·have e:lR n=(n-1)/16+1:=by unfold lR;rw[if_neg h]
  rw[e];have h':1<=n:=zO;have q1:wrap64 (n-1)=n-1:=IntWalk.wrap64_in _ zO;have q2:wrap64 ((n-1).tdiv 16)=(n-1)/16:=by rw[gV _ _ zO];exact IntWalk.wrap64_in _ zO
  have q3:wrap64 ((n-1)/16+1)=(n-1)/16+1:=IntWalk.wrap64_in _ zO;clear e h;go_enter func34,ntmps34;go_wp2;go_ret;exact⟨rfl,rfl⟩
def gO(a n:Int):Prop:=a<0\/n<=a/16
instance (a n:Int):Decidable (gO a n):=by unfold gO;infer_instance
def kD(a n:Int):Int:=if gO a n then 0 else if a%16<8 then max (a/16-1) 0 else a/16
def kE(a n:Int):Int:=if gO a n then -1 else if a%16<8 then a/16 else min (a/16+1) (n-1)
theorem DC(a n:Int)(w:World)(h1:-9223372036854775808<=a)(h2:a<=9223372036854775807)(h3:-9223372036854775808<=n)(h4:n<=9223372036854775807):
  Calls zP 39 #[vI iJ a,vI iJ n] w fun e w'=>e=rJ (.tuple #[vI iJ (kD a n),vI iJ (kE a n)])/\w=w':=by
 by_cases hn:gO a n
 ·have e1:kD a n=0:=by unfold kD;rw[if_pos hn]
  have e2:kE a n = -1:=by unfold kE;rw[if_pos hn]
  rw[e1,e2];clear e1 e2;unfold gO at hn;by_cases ha:a<0
  ·clear hn;go_enter func39,ntmps39;go_wp2
   go_ret2
   exact⟨rfl,rfl⟩
  ·have ha':0<=a:=zO;have hn':n<=a/16:=zO;have q1:wrap64 (a.tdiv 16)=a/16:=by rw[gV _ _ ha'];exact IntWalk.wrap64_in _ zO
   clear hn ha;go_enter func39,ntmps39;go_wp2
   go_ret2
   exact⟨rfl,rfl⟩
 ·have ha:0<=a:=by unfold gO at hn;omega
  have hn':a/16<n:=by unfold gO at hn;omega
  have q1:wrap64 (a.tdiv 16)=a/16:=by rw[gV _ _ ha];exact IntWalk.wrap64_in _ zO
  have q2:wrap64 (a.tmod 16)=a%16:=by rw[aCB _ _ ha];exact IntWalk.wrap64_in _ zO
  have q3:wrap64 (a/16-1)=a/16-1:=IntWalk.wrap64_in _ zO;have q4:wrap64 (a/16+1)=a/16+1:=IntWalk.wrap64_in _ zO;have q5:wrap64 (n-1)=n-1:=IntWalk.wrap64_in _ zO;by_cases hm:a%16<8
  ·have e1:kD a n=max (a/16-1) 0:=by unfold kD;rw[if_neg hn,if_pos hm]
   have e2:kE a n=a/16:=by unfold kE;rw[if_neg hn,if_pos hm]
   rw[e1,e2];clear e1 e2 hn q4 q5;generalize hx:a/16=x at *;go_enter func39,ntmps39;go_wp2
   all_goals (go_ret2;exact⟨XI zO zO,rfl⟩)
  ·have e1:kD a n=a/16:=by unfold kD;rw[if_neg hn,if_neg hm]
   have e2:kE a n=min (a/16+1) (n-1):=by unfold kE;rw[if_neg hn,if_neg hm]
   rw[e1,e2];clear e1 e2 hn q3;generalize hx:a/16=x at *;go_enter func39,ntmps39;go_wp2
   all_goals (go_ret2;exact⟨XI zO zO,rfl⟩)
def lT(s:ByteArray)(i:Nat):Int:=((s.data.getD i 0).toNat:Int)
theorem aHf(s:ByteArray)(i:Nat):0<=lT s i/\lT s i<=255:=by
 unfold lT;have:=(s.data.getD i 0).toNat_lt;omega
theorem jL(s:ByteArray)(i:Nat)(h:i<s.size):((s[i]'h).toNat:Int)=lT s i:=by
 unfold lT;have e:s.data.getD i 0=s[i]'h:=by
  have h':i<s.data.size:=h;show s.data.getD i 0=s.data[i]'h';simp[Array.getD,h]
 rw[e]
theorem MR(s:ByteArray)(cap i:Nat)(h:i<s.size):(bytesRow s cap)[i]?=some (.int .u8 (lT s i)):=by
 have h':i<s.data.size:=h;unfold bytesRow lT;rw[Array.getElem?_append_left (by simpa using h')];simp[Array.getD,h]
def wR(s:ByteArray):Prop:=(0<s.size/\s.size<=32)/\∀i,i<s.size->33<=lT s i/\lT s i<=126
instance (s:ByteArray):Decidable (wR s):=by unfold wR;infer_instance
def tS(s:ByteArray):Bool:=decide (wR s)
theorem uY{s:ByteArray}(h:wR s):tS s=true:=decide_eq_true h
theorem tJ{s:ByteArray}(h:¬wR s):tS s=false:=decide_eq_false h
def lG(lp:Bool)(a b n:Int):Prop:=if lp then 0<=a/\a<b/\b<=n else a=0/\b=0
instance (lp:Bool) (a b n:Int):Decidable (lG lp a b n):=by unfold lG;infer_instance
def cX(s:ByteArray)(n r c:Int)(lp:Bool)(a b:Int):Int:=
 if tS s=false then 10 else if r<1\/192000<r then 14 else if (c<1\/2<c)\/n<1\/1048576<n then 12 else if lG lp a b n then 0 else 13
theorem TB{P:Program}(w:World)(src dst e:TypeId)(s:ByteArray)(hs:P.underlying src=some .string)(hd:P.underlying dst=some (.slice e))(he:P.underlying e=some (.int .u8)):
  ∃cap w1,(convert src dst (.string s)).run P w=.ok (.slice (some ⟨w.heap.size,0,none⟩) s.size cap) w1/\Old w w1/\w.heap.size<w1.heap.size/\∀i,i<s.size->w1.cell? ⟨w.heap.size,i,none⟩=some (.int .u8 (lT s i)):=by
 have h:=run_bytes_of_string (P:=P) w src dst e s hs hd he;have hb:=fun i hi=>MR s (grownCap w s.size 0 e) i hi;generalize grownCap w s.size 0 e=cap at h hb;generalize bytesRow s cap=R at h hb;generalize (R.size,R.size+1)=fr at h;refine⟨cap,_,h,(Old.refl w).drew.alloc' _,Nat.lt_of_lt_of_le (Nat.lt_succ_self _) (Nat.le_of_eq (World.size_alloc ..).symm),fun i hi=>?_⟩;have hn:(w.drew.alloc (.cells R e fr)).heap[w.drew.heap.size]?=some (.cells R e fr):=heap_alloc_new _ _;exact(cell_of_row _ _ _ _ _ _ hn).trans (hb i hi)
structure Rws(w:World)(p:Option Addr)(n:Nat)(Q:Nat->Option Addr)(M C:Nat->Nat)(X:Nat->Nat->Int):Prop where
 cell:0<n->∃g o,p=some ⟨g,o,none⟩/\g<w.heap.size/\∀i,i<n->w.cell? ⟨g,o+i,none⟩=some (.slice (Q i) (M i) (C i))
 row:∀i,i<n->M i<=C i/\C i<=maxLen/\(0<M i->∃g o,Q i=some ⟨g,o,none⟩/\g<w.heap.size/\∀j,j<M i->w.cell? ⟨g,o+j,none⟩=some (vI iJ (X i j)))
theorem Rws.old{w w':World}{p:Option Addr}{n:Nat}{Q:Nat->Option Addr}{M C:Nat->Nat}{X:Nat->Nat->Int}(h:Rws w p n Q M C X)(k:Old w w'):Rws w' p n Q M C X where
 cell:=fun hn=>by
  obtain⟨g,o,h1,h2,h3⟩:=h.cell hn;exact⟨g,o,h1,Nat.lt_of_lt_of_le h2 k.size,fun i hi=>(k.cell (a:=⟨g,o+i,none⟩) h2).trans (h3 i hi)⟩
 row:=fun i hi=>by
  obtain⟨a,b,c⟩:=h.row i hi;refine⟨a,b,fun hm=>?_⟩;obtain⟨g,o,h1,h2,h3⟩:=c hm;exact⟨g,o,h1,Nat.lt_of_lt_of_le h2 k.size,fun j hj=>(k.cell (a:=⟨g,o+j,none⟩) h2).trans (h3 j hj)⟩
structure aM where
 s:ByteArray
 r:Int
 lp:Bool
 a:Int
 b:Int
 p:Option Addr
 n:Nat
 c:Nat
 Q:Nat->Option Addr
 M:Nat->Nat
 C:Nat->Nat
 X:Nat->Nat->Int
def aM.cells(S:aM):Array Value:=#[.string S.s,vI iJ S.r,.bool S.lp,vI iJ S.a,vI iJ S.b,.slice S.p S.n S.c]
def aM.val(S:aM):Value:=.agg S.cells
structure jB(w:World)(S:aM):Prop where
 size:S.s.size<=9223372036854775807
 le:S.n<=S.c
 cap:S.c<=maxLen
 rows:Rws w S.p S.n S.Q S.M S.C S.X
theorem jB.old{w w':World}{S:aM}(h:jB w S)(k:Old w w'):jB w' S:=⟨h.size,h.le,h.cap,h.rows.old k⟩
def aM.len(S:aM):Int:=if S.n=0 then 0 else S.M 0
def KR(n:Nat)(F:nI):Prop:=∃i,i<n/\(F i < -32768\/32767<F i)
def aM.odd(S:aM):Prop:=∃k,k<S.n/\S.M k≠S.M 0
def aM.far(S:aM):Prop:=∃k,k<S.n/\KR (S.M k) (S.X k)
open Classical in
noncomputable def aM.check(S:aM):Int:=
 if cX S.s S.len S.r S.n S.lp S.a S.b≠0 then cX S.s S.len S.r S.n S.lp S.a S.b else if S.odd then 12 else if S.far then 5 else 0
structure CB(S:aM):Prop where
 name:S.s.size<=100
 n:S.n<=4
 m:∀k,k<S.n->S.M k<=150
end Go.Proofs.YticpdokbiblpoaaGreatDoor
