/- Texts joined: Small, WaveP, Arr, LapA, ListL, FitsL, NumL, StepL, SampP, TableL, SlicesL, LiftL. -/
import Derived.Test.YtgefdmfcddpaiaaGreatDoorChecked
import Derived.WalkLawsBesides
import Derived.Deep.QuietTactic
import Derived.BigQuiet
import Derived.RegionTactic
import Derived.BigRegion
import Derived.StillTailTactics
import Derived.Deep.WholeRow
import Derived.Deep.DeepCutAuto
import Derived.Deep.CutBlock
import Derived.Laws.IdiomStrings
import Derived.Deep.Matrix
import Derived.Deep.Fields
import Derived.ChangeArms
import Derived.Laws.MakeOwn
import Derived.Test.YtgefdmfcddpaiaaGreatDoorPkAA
import Derived.Test.YtgefdmfcddpaiaaGreatDoorTk
namespace Go.Proofs.YtgefdmfcddpaiaaGreatDoor
set_option linter.unusedVariables false
set_option maxRecDepth 100000
open Go.RowKit
theorem ret_int{k:IntKind}{a b:Int}(h:a=b):Ending.returned (.int k a) = .returned (.int k b):=by rw [h]
def pw(n:Nat):Int:=2 ^ n
theorem pw_zero:pw 0=1:=rfl
theorem pw_succ(n:Nat):pw (n+1)=2*pw n:=by unfold pw;rw [Int.pow_succ];omega
theorem pw_pos(n:Nat):1<=pw n:=by
 induction n with
 | zero=>simp [pw]
 | succ n ih=>rw [pw_succ];omega
theorem pw_mono(m n:Nat)(h:m<=n):pw m<=pw n:=by
 induction h with
 | refl=>exact Int.le_refl _
 | step _ ih=>rw [pw_succ];have:=pw_pos m;omega
theorem pw_62:pw 62=4611686018427387904:=rfl
theorem pw_le(n:Nat)(h:n<=62):pw n<=4611686018427387904:=by have:=pw_mono n 62 h;rw [pw_62] at this;exact this
theorem pw_wrap(n:Nat)(h:n<=62):wrap64 ((2:Int) ^ n)=pw n:=by
 have:=pw_le n h
 have:=pw_pos n
 exact IntWalk.wrap64_in (pw n) (by omega)
theorem tdiv_pos(a b:Int)(ha:0<=a):a.tdiv b=a/b:=Int.tdiv_eq_ediv_of_nonneg ha
theorem eqIn_sl_nil{P:Program}(w:World)(d:Nat)(t e:TypeId)(a:Option Addr)(l c:Nat)(h:P.underlying t=some (.slice e)):(Op.equalIn (d+1) t (.slice a l c) (.slice none 0 0)).run P w = .ok a.isNone w:=by
 cases a <;> simp [Op.equalIn,run_underlying h]
theorem eql_sl_nil{P:Program}(t e:TypeId)(a:Option Addr)(l c:Nat)(h:P.underlying t=some (.slice e))(w:World):(binOp .eql t (.slice a l c) (.slice none 0 0)).run P w = .ok (.bool a.isNone) w:=by
 have h2:(Op.equal t (.slice a l c) (.slice none 0 0)).run P w = .ok a.isNone w:=eqIn_sl_nil w 9999 t e a l c h
 simp [binOp,h2]
def bsI(s:ByteArray)(i:Nat):Int:=((s.data.getD i 0).toNat:Int)
theorem bsI_bd(s:ByteArray)(i:Nat):0<=bsI s i/\bsI s i<=255:=by
 unfold bsI
 have:=(s.data.getD i 0).toNat_lt
 omega
theorem bsI_index(s:ByteArray)(i:Nat)(h:i<s.size):((s[i]'h).toNat:Int)=bsI s i:=by
 unfold bsI
 have e:s.data.getD i 0=s[i]'h:=by
  have h':i<s.data.size:=h
  show s.data.getD i 0=s.data[i]'h'
  simp [Array.getD,h]
 rw [e]
theorem bytesRow_at(s:ByteArray)(cap i:Nat)(h:i<s.size):(bytesRow s cap)[i]?=some (.int .u8 (bsI s i)):=by
 have h':i<s.data.size:=h
 unfold bytesRow bsI
 rw [Array.getElem?_append_left (by simpa using h')]
 simp [Array.getD,h]
def nameP(s:ByteArray):Prop:=(0<s.size/\s.size<=32)/\∀i,i<s.size->33<=bsI s i/\bsI s i<=126
instance (s:ByteArray):Decidable (nameP s):=by unfold nameP;infer_instance
def nameB(s:ByteArray):Bool:=decide (nameP s)
theorem nameB_yes{s:ByteArray}(h:nameP s):nameB s=true:=decide_eq_true h
theorem nameB_no{s:ByteArray}(h:¬nameP s):nameB s=false:=decide_eq_false h
def loopP(lp:Bool)(a b n:Int):Prop:=if lp then 0<=a/\a<b/\b<=n else a=0/\b=0
instance (lp:Bool) (a b n:Int):Decidable (loopP lp a b n):=by unfold loopP;infer_instance
def wrongI(s:ByteArray)(n r c:Int)(lp:Bool)(a b:Int):Int:=
 if nameB s=false then 10 else if r<1\/192000<r then 14 else if (c<1\/2<c)\/n<1\/1048576<n then 12 else if loopP lp a b n then 0 else 13
theorem conv_bytes{P:Program}(w:World)(src dst e:TypeId)(s:ByteArray)(hs:P.underlying src=some .string)(hd:P.underlying dst=some (.slice e))(he:P.underlying e=some (.int .u8)):
  ∃cap w1,(convert src dst (.string s)).run P w = .ok (.slice (some ⟨w.heap.size,0,none⟩) s.size cap) w1/\Old w w1/\w.heap.size<w1.heap.size/\∀i,i<s.size->w1.cell? ⟨w.heap.size,i,none⟩=some (.int .u8 (bsI s i)):=by
 have h:=run_bytes_of_string (P:=P) w src dst e s hs hd he
 have hb:=fun i hi=>bytesRow_at s (grownCap w s.size 0 e) i hi
 generalize grownCap w s.size 0 e=cap at h hb
 generalize bytesRow s cap=R at h hb
 generalize (R.size,R.size+1)=fr at h
 refine⟨cap,_,h,(Old.refl w).drew.alloc' _,Nat.lt_of_lt_of_le (Nat.lt_succ_self _) (Nat.le_of_eq (World.size_alloc ..).symm),fun i hi=>?_⟩
 have hn:(w.drew.alloc (.cells R e fr)).heap[w.drew.heap.size]?=some (.cells R e fr):=heap_alloc_new _ _
 exact(cell_of_row _ _ _ _ _ _ hn).trans (hb i hi)
def rowN(n:Nat)(f:Nat->Value):Array Value:=((List.range n).map f).toArray
def updN(f:Nat->Value)(j:Nat)(v:Value):Nat->Value:=fun k=>if k=j then v else f k
theorem rowN_size(n:Nat)(f:Nat->Value):(rowN n f).size=n:=by simp [rowN]
theorem rowN_at(n:Nat)(f:Nat->Value)(k:Nat)(h:k<n):(rowN n f)[k]?=some (f k):=by simp [rowN,h]
theorem rowN_one(n:Nat)(f:Nat->Value)(h:∀k,k<n->(f k).oneCell'=true):(rowN n f).all (·.oneCell')=true:=by
 simp only [rowN,List.all_toArray,List.all_map,List.all_eq_true,List.mem_range,Function.comp]
 exact h
theorem rowN_set(n:Nat)(f:Nat->Value)(j:Nat)(v:Value)(hj:j<n):(rowN n f).setIfInBounds j v=rowN n (updN f j v):=by
 apply Array.ext_getElem?
 intro i
 rw [Array.getElem?_setIfInBounds]
 by_cases hi:i<n
 ·rw [rowN_at _ _ i hi,rowN_size]
  by_cases h:j=i
  ·subst h;rw [if_pos rfl,if_pos hj,rowN_at _ _ _ hi];simp [updN]
  ·rw [if_neg h,rowN_at _ _ i hi];simp [updN,show ¬i=j from fun e=>h e.symm]
 ·have h1:(rowN n (updN f j v))[i]?=none:=by rw [Array.getElem?_eq_none (by rw [rowN_size];omega)]
  have h2:(rowN n f)[i]?=none:=by rw [Array.getElem?_eq_none (by rw [rowN_size];omega)]
  rw [h1,h2,rowN_size,if_neg (by omega)]
theorem rowN_ext(n:Nat)(f g:Nat->Value)(h:∀k,k<n->f k=g k):rowN n f=rowN n g:=by
 unfold rowN
 congr 1
 apply List.map_congr_left
 intro k hk
 rw [h k (List.mem_range.1 hk)]
theorem cell_new(w:World)(n:Nat)(t:TypeId)(f:Nat->Value)(k:Nat)(h:k<n):(w.alloc (.cells (rowN n f) t)).cell? ⟨w.heap.size,k,none⟩=some (f k):=
 (cell_of_row _ _ _ _ _ _ (heap_alloc_new _ _)).trans (rowN_at n f k h)
structure Tab(w:World)(b n:Nat)(t:TypeId)(f:Nat->Value)(wr:World):Prop where
 blk:wr.heap[b]?=some (.cells (rowN n f) t (0,0))
 new:w.heap.size<=b
 old:Old w wr
namespace Tab
variable {w wr w':World} {b n:Nat} {t:TypeId} {f:Nat->Value}
theorem set(h:Tab w b n t f wr)(j:Nat)(v:Value)(hj:j<n):Tab w b n t (updN f j v) (wr.setCell ⟨b,j,none⟩ v):=by
 have hn:=h.new
 refine⟨?_,h.new,h.old.after (Kept.setCell (X:=fun k=>k<w.heap.size) _ (a:=⟨b,j,none⟩) (by show ¬b<w.heap.size;omega) _) fun _ hk=>hk⟩
 rw [←rowN_set n f j v hj];exact heap_setCell_same _ _ _ _ _ _ h.blk
theorem keep(h:Tab w b n t f wr)(k:Old wr w'):Tab w b n t f w':=⟨(k.block b (lt_of_block h.blk)).trans h.blk,h.new,h.old.trans k⟩
theorem cell(h:Tab w b n t f wr)(j:Nat)(hj:j<n):wr.cell? ⟨b,j,none⟩=some (f j)/\wr.frozen? ⟨b,j,none⟩=false:=
 ⟨(cell_of_row _ _ _ _ _ _ h.blk).trans (rowN_at n f j hj),frozen_of_row _ _ _ _ _ h.blk⟩
theorem other(h:Tab w b n t f wr){a:Addr}(ha:b≠a.block)(hw:¬a.block<w.heap.size)(v:Value):Tab w b n t f (wr.setCell a v):=
 ⟨(heap_setCell_other _ _ _ _ ha).trans h.blk,h.new,h.old.after (Kept.setCell (X:=fun k=>k<w.heap.size) _ hw _) fun _ hk=>hk⟩
theorem two(w:World)(n:Nat)(t:TypeId)(f:Nat->Value):Tab w (w.heap.size+1) n t f ((w.alloc (.cells (rowN n f) t)).alloc (.cells (rowN n f) t))/\Tab w w.heap.size n t f ((w.alloc (.cells (rowN n f) t)).alloc (.cells (rowN n f) t)):=
 ⟨⟨heap_alloc2_new w _ _,by omega,(Old.alloc _ _).alloc' _⟩,⟨heap_alloc2_old w _ _,Nat.le_refl _,(Old.alloc _ _).alloc' _⟩⟩
theorem row(h:Tab w b n t f wr)(g:Nat->Value):Tab w b n t g (wr.setRow b (rowN n g)):=by
 have hn:=h.new
 exact⟨setRow_heap _ _ _ _ _ _ h.blk,h.new,h.old.after (X:=fun k=>k<w.heap.size) ⟨rfl,rfl,by simp,fun k hk=>setRow_other _ _ _ _ (by omega)⟩ fun _ h=>h⟩
end Tab
def countI(n:Int):Int:=if n<1 then 0 else(n-1)/16+1
theorem countI_nat(n:Nat):countI n=((n+15)/16:Nat):=by unfold countI;split <;> omega
theorem Count_any(n:Int)(w:World)(h1:-9223372036854775808<=n)(h2:n<=9223372036854775807):
  Calls Tryz.prog 45 #[.int .i64 n] w fun e w'=>e = .returned (.int .i64 (countI n))/\w=w':=by
 by_cases h:n<1
 ·have e:countI n=0:=by unfold countI;rw [if_pos h]
  rw [e]
  clear e
  go_enter Tryz.func45,Tryz.ntmps45
  go_wp2
  go_ret
  exact⟨rfl,rfl⟩
 ·have e:countI n=(n-1)/16+1:=by unfold countI;rw [if_neg h]
  rw [e]
  have h':1<=n:=by omega
  have q1:wrap64 (n-1)=n-1:=IntWalk.wrap64_in _ (by omega)
  have q2:wrap64 ((n-1).tdiv 16)=(n-1)/16:=by rw [tdiv_pos _ _ (by omega)];exact IntWalk.wrap64_in _ (by omega)
  have q3:wrap64 ((n-1)/16+1)=(n-1)/16+1:=IntWalk.wrap64_in _ (by omega)
  clear e h
  go_enter Tryz.func45,Tryz.ntmps45
  go_wp2
  go_ret
  exact⟨rfl,rfl⟩
def noNeed(a n:Int):Prop:=a<0\/n<=a/16
instance (a n:Int):Decidable (noNeed a n):=by unfold noNeed;infer_instance
open Go.ChangeShapes Go.WideShapes
def OwnL(k:IntKind)(t:TypeId)(X:Nat->Prop)(w:World)(v:Value)(xs:List Int):Prop:=ownX X w t v xs.length (xs.map (Value.int k))
namespace OwnL
variable {k:IntKind} {t:TypeId} {X Y:Nat->Prop} {w w':World} {v:Value} {xs:List Int}
theorem nil(k:IntKind)(t:TypeId)(X:Nat->Prop)(w:World):OwnL k t X w (.slice none 0 0) []:=ownX.nil X w t
theorem old(h:OwnL k t X w v xs)(ho:Old w w'):OwnL k t X w' v xs:=ownX.old h ho
theorem mono(h:OwnL k t X w v xs)(hY:∀k,v.ownBlock=some k->¬Y k):OwnL k t Y w v xs:=ownX.mono h hY
theorem snoc{x:Int}(h:ownX X w t v (xs.length+1) (xs.map (Value.int k) ++ [.int k x])):OwnL k t X w v (xs ++ [x]):=by
 unfold OwnL
 rw [List.length_append,List.map_append]
 exact h
end OwnL
def fitB(v k:Int):Bool:=if k<=0 then v == 0 else if k > 63 then true else decide (-(pw (k-1).toNat)<=v/\v<pw (k-1).toNat)
theorem fitB_neg(v k:Int)(h:k<=0):fitB v k=(v == 0):=by unfold fitB;rw [if_pos h]
theorem fitB_big(v k:Int)(h:63<k):fitB v k=true:=by unfold fitB;rw [if_neg (by omega),if_pos h]
theorem fitB_mid(v k:Int)(h0:0<k)(h1:k<=63):fitB v k=decide (-(pw (k-1).toNat)<=v/\v<pw (k-1).toNat):=by unfold fitB;rw [if_neg (by omega),if_neg (by omega)]
theorem Fits_any(v k:Int)(w:World):
  Calls Tryz.prog 245 #[.int .i64 v,.int .i64 k] w fun e w'=>e = .returned (.bool (fitB v k))/\w=w':=by
 by_cases h0:k<=0
 ·rw [fitB_neg v k h0]
  go_enter Tryz.func245,Tryz.ntmps245
  go_wp2
  go_ret
  exact⟨rfl,rfl⟩
 ·by_cases h1:63<k
  ·rw [fitB_big v k h1]
   go_enter Tryz.func245,Tryz.ntmps245
   go_wp2
   go_ret
   exact⟨rfl,rfl⟩
  ·rw [fitB_mid v k (by omega) (by omega)]
   have hp:=pw_pos (k-1).toNat
   have hq:=pw_le (k-1).toNat (by omega)
   have he:wrap64 ((2:Int) ^ (k.toNat-1))=pw (k-1).toNat:=by
    have e1:(2:Int) ^ (k.toNat-1)=pw (k-1).toNat:=by rw [show (k-1).toNat=k.toNat-1 by omega];rfl
    rw [e1];exact IntWalk.wrap64_in _ ⟨by omega,by omega⟩
   generalize pw (k-1).toNat=q at *
   by_cases a:-q<=v <;> by_cases b:v<q <;> try (exfalso;omega)
   all_goals
    have hd:Hid (decide (-q<=v/\v<q)=(decide (-q<=v) && decide (v<q))):=by unfold Hid;simp
    rw [hd.out]
    clear hd
    go_enter Tryz.func245,Tryz.ntmps245
    go_wp2
    go_ret
    refine⟨?_,rfl⟩
    simp [a,b]
def widB(k:Int):Bool:=decide (0<=k/\k<=57)
theorem isWidth_any(k:Int)(w:World):
  Calls Tryz.prog 244 #[.int .i64 k] w fun e w'=>e = .returned (.bool (widB k))/\w=w':=by
 have hd:Hid (widB k=(decide (0<=k) && decide (k<=57))):=by unfold Hid widB;simp
 rw [hd.out]
 clear hd
 by_cases a:0<=k <;> by_cases b:k<=57 <;> try (exfalso;omega)
 all_goals
  go_enter Tryz.func244,Tryz.ntmps244
  go_wp2
  go_ret
  refine⟨?_,rfl⟩
  simp [a,b]
def clampI(v lo hi:Int):Int:=if hi<lo\/v<lo then lo else if hi<v then hi else v
theorem clampI_in(v lo hi:Int)(h:¬(hi<lo\/v<lo))(h2:¬hi<v):clampI v lo hi=v:=by unfold clampI;rw [if_neg h,if_neg h2]
theorem clampI_eq(v lo hi:Int):clampI v lo hi=max lo (min v hi):=by unfold clampI;split <;> (try split) <;> omega
theorem Clamp_any(v lo hi:Int)(w:World):
  Calls Tryz.prog 92 #[.int .i64 v,.int .i64 lo,.int .i64 hi] w fun e w'=>e = .returned (.int .i64 (clampI v lo hi))/\w=w':=by
 rw [clampI_eq]
 go_enter Tryz.func92,Tryz.ntmps92
 go_wp2
 all_goals (go_ret;exact⟨ret_int (by omega),rfl⟩)
def satI(v:Int):Int:=clampI v (-32768) 32767
theorem satI_bd(v:Int):-32768<=satI v/\satI v<=32767:=by unfold satI clampI;split <;> (try split) <;> omega
theorem Sat_any(v:Int)(w:World):
  Calls Tryz.prog 52 #[.int .i64 v] w fun e w'=>e = .returned (.int .i64 (satI v))/\w=w':=by
 have hc:=zH (Clamp_any v (-32768) 32767 w)
 have hb:=satI_bd v
 unfold satI at hb ⊢
 generalize clampI v (-32768) 32767=x at *
 obtain⟨h1,h2⟩:=hb
 go_enter Tryz.func52,Tryz.ntmps52
 go_wp2_with fail
 refine hc.out.mono ?_
 rintro e w' ⟨rfl,rfl⟩
 go_wp2
 go_ret
 exact⟨rfl,rfl⟩
def absI(v:Int):Int:=if v = -9223372036854775808 then 9223372036854775807 else if v<0 then -v else v
theorem absI_bd(v:Int)(h:-9223372036854775808<=v)(h':v<=9223372036854775807):0<=absI v/\absI v<=9223372036854775807:=by unfold absI;split <;> (try split) <;> omega
theorem Abs_any(v:Int)(w:World)(h1:-9223372036854775808<=v)(h2:v<=9223372036854775807):
  Calls Tryz.prog 253 #[.int .i64 v] w fun e w'=>e = .returned (.int .i64 (absI v))/\w=w':=by
 by_cases a:v = -9223372036854775808
 ·subst a
  go_enter Tryz.func253,Tryz.ntmps253
  go_wp2
  go_ret
  exact⟨rfl,rfl⟩
 ·have h3:-9223372036854775807<=v:=by omega
  have a':(v == -9223372036854775808)=false:=by simpa using a
  have hx:Hid (absI v=max v (-v)):=by unfold Hid absI;rw [if_neg a];split <;> omega
  rw [hx.out]
  clear a
  go_enter Tryz.func253,Tryz.ntmps253
  go_wp2
  all_goals (go_ret;exact⟨ret_int (by omega),rfl⟩)
theorem mask_and(v:Int)(n:Nat)(hn:n<=62):bits .and .i64 v (pw n-1)=v%pw n:=by
 have hp:=pw_pos n
 have hq:=pw_le n hn
 have e2:(BitVec.ofInt 64 (pw n-1)).toNat=2 ^ n-1:=by
  rw [BitVec.toNat_ofInt]
  have e:pw n=((2 ^ n:Nat):Int):=by unfold pw;simp
  have e':(((2:Nat) ^ 64:Nat):Int)=18446744073709551616:=rfl
  rw [e',Int.emod_eq_of_lt (by omega) (by omega),e]
  omega
 have e1:(((BitVec.ofInt 64 v).toNat:Nat):Int)=v%18446744073709551616:=by
  rw [BitVec.toNat_ofInt]
  have e':(((2:Nat) ^ 64:Nat):Int)=18446744073709551616:=rfl
  rw [e',Int.toNat_of_nonneg (Int.emod_nonneg _ (by decide))]
 show IntKind.i64.wrap ((BitVec.ofInt 64 v &&& BitVec.ofInt 64 (pw n-1)).toNat:Int)=_
 rw [BitVec.toNat_and,e2,Nat.and_two_pow_sub_one_eq_mod]
 have e3:((((BitVec.ofInt 64 v).toNat%2 ^ n:Nat)):Int)=v%pw n:=by
  rw [Int.natCast_emod,e1]
  have e:((2 ^ n:Nat):Int)=pw n:=by unfold pw;simp
  rw [e]
  refine Int.emod_emod_of_dvd v ⟨2 ^ (64-n),?_⟩
  unfold pw
  rw [←Int.pow_add,show n+(64-n)=64 by omega]
  rfl
 rw [e3]
 have h1:=Int.emod_nonneg v (show pw n≠0 by omega)
 have h2:=Int.emod_lt_of_pos v (show 0<pw n by omega)
 exact IntWalk.i64_in _ (by omega)
theorem halve_any(v k:Int)(w:World)(h0:0<=k)(h1:k<=62):
  Calls Tryz.prog 137 #[.int .i64 v,.int .i64 k] w fun e w'=>e = .returned (.tuple #[.int .i64 (v/pw k.toNat),.int .i64 (2*(v%pw k.toNat))])/\∃n,w'=w.drewN n:=by
 go_enter Tryz.func137,Tryz.ntmps137
 go_wp2
 go_quiet (fail)
 go_wp2
 go_ret2
 refine⟨?_,_,rfl⟩
 have hq:=pw_le k.toNat (by omega)
 have hp:=pw_pos k.toNat
 have e0:wrap64 (wrap64 (2 ^ k.toNat)-1)=pw k.toNat-1:=by
  show wrap64 (wrap64 (pw k.toNat)-1)=_
  rw [IntWalk.wrap64_in (pw k.toNat) (by omega),IntWalk.wrap64_in _ (by omega)]
 have h1:=Int.emod_nonneg v (show pw k.toNat≠0 by omega)
 have h2:=Int.emod_lt_of_pos v (show 0<pw k.toNat by omega)
 have e1:wrap64 (2*bits BinOp.and IntKind.i64 v (wrap64 (wrap64 (2 ^ k.toNat)-1)))=2*(v%pw k.toNat):=by
  rw [e0,mask_and v k.toNat (by omega),IntWalk.wrap64_in _ (by omega)]
 show Ending.returned (Value.tuple #[.int .i64 (v/pw k.toNat),.int .i64 (wrap64 (2*bits BinOp.and IntKind.i64 v (wrap64 (wrap64 (2 ^ k.toNat)-1))))])=_
 rw [e1]
theorem isPower_yes(k:Int)(w:World)(h0:0<=k)(h1:k<=62):
  Calls Tryz.prog 136 #[.int .i64 k] w fun e w'=>e = .returned (.bool true)/\w=w':=by
 go_enter Tryz.func136,Tryz.ntmps136
 go_wp2
 go_ret
 exact⟨rfl,rfl⟩
def roundI(v p:Int):Int:=if p<=2*(v%p) then v/p+1 else v/p
def nearI(v p:Int):Int:=if p<2*(v%p)\/(2*(v%p)=p/\0<v) then v/p+1 else v/p
theorem quot_bd(v p:Int)(hp:1<=p)(h1:-9223372036854775808<=v)(h2:v<=9223372036854775807):
  0<=v%p/\v%p<p/\-9223372036854775808<=v/p/\v/p<=9223372036854775807/\(2<=p->v/p<=4611686018427387903):=by
 refine⟨Int.emod_nonneg _ (by omega),Int.emod_lt_of_pos _ (by omega),?_,?_,fun h=>?_⟩
 ·exact Int.le_ediv_of_mul_le (by omega) (by omega)
 ·have:=Int.ediv_lt_of_lt_mul (a:=v) (b:=9223372036854775808) (c:=p) (by omega) (by omega);omega
 ·have:=Int.ediv_lt_of_lt_mul (a:=v) (b:=4611686018427387904) (c:=p) (by omega) (by omega);omega
theorem Round_any(v k:Int)(w:World)(h0:0<=k)(h1:k<=62)(h2:-9223372036854775808<=v)(h3:v<=9223372036854775807):
  Calls Tryz.prog 93 #[.int .i64 v,.int .i64 k] w fun e w'=>e = .returned (.int .i64 (roundI v (pw k.toNat)))/\∃n,w'=w.drewN n:=by
 have hq:=pw_le k.toNat (by omega)
 have hp:=pw_pos k.toNat
 have he:wrap64 ((2:Int) ^ k.toNat)=pw k.toNat:=IntWalk.wrap64_in (pw k.toNat) (by omega)
 have hc:=zH (halve_any v k w h0 h1)
 have hy:=zH (isPower_yes k w h0 h1)
 unfold roundI
 generalize pw k.toNat=p at *
 obtain⟨b1,b2,b3,b4,b5⟩:=quot_bd v p hp h2 h3
 generalize v%p=m at *
 generalize v/p=q at *
 by_cases c:p<=2*m
 ·rw [if_pos c]
  have b6:=b5 (by omega)
  clear b5
  go_enter Tryz.func93,Tryz.ntmps93
  go_wp2_with fail
  refine hy.out.mono ?_
  rintro e w' ⟨rfl,rfl⟩
  go_wp2_with fail
  refine hc.out.mono ?_
  rintro e w1 ⟨rfl,n1,rfl⟩
  go_wp2
  go_ret
  exact⟨rfl,_,rfl⟩
 ·rw [if_neg c]
  clear b5
  have c':2*m<p:=by omega
  clear c
  go_enter Tryz.func93,Tryz.ntmps93
  go_wp2_with fail
  refine hy.out.mono ?_
  rintro e w' ⟨rfl,rfl⟩
  go_wp2_with fail
  refine hc.out.mono ?_
  rintro e w1 ⟨rfl,n1,rfl⟩
  go_wp2
  go_ret
  exact⟨rfl,_,rfl⟩
theorem Near_any(v k:Int)(w:World)(h0:0<=k)(h1:k<=62)(h2:-9223372036854775808<=v)(h3:v<=9223372036854775807):
  Calls Tryz.prog 269 #[.int .i64 v,.int .i64 k] w fun e w'=>e = .returned (.int .i64 (nearI v (pw k.toNat)))/\∃n,w'=w.drewN n:=by
 have hq:=pw_le k.toNat (by omega)
 have hp:=pw_pos k.toNat
 have he:wrap64 ((2:Int) ^ k.toNat)=pw k.toNat:=IntWalk.wrap64_in (pw k.toNat) (by omega)
 have hc:=zH (halve_any v k w h0 h1)
 have hy:=zH (isPower_yes k w h0 h1)
 unfold nearI
 generalize pw k.toNat=p at *
 obtain⟨b1,b2,b3,b4,b5⟩:=quot_bd v p hp h2 h3
 generalize v%p=m at *
 generalize v/p=q at *
 by_cases c:p<2*m
 ·rw [if_pos (Or.inl c)]
  have b6:=b5 (by omega)
  clear b5
  go_enter Tryz.func269,Tryz.ntmps269
  go_wp2_with fail
  refine hy.out.mono ?_
  rintro e w' ⟨rfl,rfl⟩
  go_wp2_with fail
  refine hc.out.mono ?_
  rintro e w1 ⟨rfl,n1,rfl⟩
  go_wp2
  go_ret
  exact⟨rfl,_,rfl⟩
 ·have c':2*m<=p:=by omega
  by_cases d:2*m=p
  ·have d':(2*m == p)=true:=by simpa using d
   by_cases hv:0<v
   ·rw [if_pos (Or.inr ⟨d,hv⟩)]
    have b6:=b5 (by omega)
    clear b5 c d
    go_enter Tryz.func269,Tryz.ntmps269
    go_wp2_with fail
    refine hy.out.mono ?_
    rintro e w' ⟨rfl,rfl⟩
    go_wp2_with fail
    refine hc.out.mono ?_
    rintro e w1 ⟨rfl,n1,rfl⟩
    go_wp2
    go_ret
    exact⟨rfl,_,rfl⟩
   ·rw [if_neg (by omega)]
    have hv':v<=0:=by omega
    clear b5 c d hv
    go_enter Tryz.func269,Tryz.ntmps269
    go_wp2_with fail
    refine hy.out.mono ?_
    rintro e w' ⟨rfl,rfl⟩
    go_wp2_with fail
    refine hc.out.mono ?_
    rintro e w1 ⟨rfl,n1,rfl⟩
    go_wp2
    go_ret
    exact⟨rfl,_,rfl⟩
  ·have d':(2*m == p)=false:=by simpa using d
   rw [if_neg (by omega)]
   clear b5 c d
   go_enter Tryz.func269,Tryz.ntmps269
   go_wp2_with fail
   refine hy.out.mono ?_
   rintro e w' ⟨rfl,rfl⟩
   go_wp2_with fail
   refine hc.out.mono ?_
   rintro e w1 ⟨rfl,n1,rfl⟩
   go_wp2
   go_ret
   exact⟨rfl,_,rfl⟩
def In64(x:Int):Prop:=-9223372036854775808<=x/\x<=9223372036854775807
def add2(a b:Int):Int:=if 9223372036854775807<a+b then 9223372036854775807 else if a+b < -9223372036854775808 then -9223372036854775808 else a+b
theorem add2_in(a b:Int):In64 (add2 a b):=by unfold add2 In64;split <;> (try split) <;> omega
def addL(xs:List Int):Int:=xs.foldl add2 0
def peakL(xs:List Int):Int:=xs.foldl (fun p v=>max p (absI v)) 0
theorem addL_in(xs:List Int):In64 (addL xs):=by
 unfold addL
 have:∀(xs:List Int) (a:Int),In64 a->In64 (xs.foldl add2 a):=by
  intro xs
  induction xs with
  | nil=>intro a h;exact h
  | cons x xs ih=>intro a _;exact ih _ (add2_in a x)
 exact this xs 0 ⟨by omega,by omega⟩
theorem peakL_in(xs:List Int)(h:∀x∈xs,In64 x):0<=peakL xs/\peakL xs<=9223372036854775807:=by
 unfold peakL
 have:∀(xs:List Int) (a:Int),(∀x∈xs,In64 x)->(0<=a/\a<=9223372036854775807)->0<=xs.foldl (fun p v=>max p (absI v)) a/\xs.foldl (fun p v=>max p (absI v)) a<=9223372036854775807:=by
  intro xs
  induction xs with
  | nil=>intro a _ h;exact h
  | cons x xs ih=>
   intro a hx h
   have b:=absI_bd x (hx x (by simp)).1 (hx x (by simp)).2
   exact ih _ (fun y hy=>hx y (by simp [hy])) (show 0<=max a (absI x)/\max a (absI x)<=9223372036854775807 by omega)
 exact this xs 0 h ⟨by omega,by omega⟩
theorem addL_snoc(xs:List Int)(k:Nat)(h:k<xs.length):addL (xs.take (k+1))=add2 (addL (xs.take k)) (xs.getD k 0):=by
 rw [take_succ_getD xs k h];unfold addL;rw [List.foldl_append];rfl
theorem peakL_snoc(xs:List Int)(k:Nat)(h:k<xs.length):peakL (xs.take (k+1))=max (peakL (xs.take k)) (absI (xs.getD k 0)):=by
 rw [take_succ_getD xs k h];unfold peakL;rw [List.foldl_append];rfl
theorem getD_in{xs:List Int}(h:∀x∈xs,In64 x)(k:Nat):In64 (xs.getD k 0):=by
 by_cases hk:k<xs.length
 ·have:xs.getD k 0=xs[k]:=by simp [List.getD,hk]
  rw [this];exact h _ (List.getElem_mem hk)
 ·have:xs.getD k 0=0:=by simp [List.getD,Nat.not_lt.1 hk]
  rw [this];exact⟨by omega,by omega⟩
set_option maxHeartbeats 1000000 in
theorem addTwo_any(a b:Int)(w:World)(ha:In64 a)(hb:In64 b):
  Calls Tryz.prog 173 #[.int .i64 a,.int .i64 b] w fun e w'=>e = .returned (.int .i64 (add2 a b))/\w=w':=by
 obtain⟨a1,a2⟩:=ha
 obtain⟨b1,b2⟩:=hb
 unfold add2
 by_cases h1:9223372036854775807<a+b
 ·rw [if_pos h1]
  have c1:0<b:=by omega
  have ws:wrap64 (a+b)=a+b-18446744073709551616:=by unfold wrap64;omega
  have c2:a+b-18446744073709551616<a:=by omega
  go_enter Tryz.func173,Tryz.ntmps173
  go_wp2
  go_ret
  exact⟨rfl,rfl⟩
 ·rw [if_neg h1]
  by_cases h2:a+b < -9223372036854775808
  ·rw [if_pos h2]
   have c1:b<0:=by omega
   have ws:wrap64 (a+b)=a+b+18446744073709551616:=by unfold wrap64;omega
   have c2:a<a+b+18446744073709551616:=by omega
   clear h1
   go_enter Tryz.func173,Tryz.ntmps173
   go_wp2
   go_ret
   exact⟨rfl,rfl⟩
  ·rw [if_neg h2]
   have ws:=IntWalk.wrap64_in (a+b) ⟨by omega,by omega⟩
   clear h1 h2
   rcases(show 0<b\/b<0\/b=0 by omega) with h | h | h
   ·have c3:a<=a+b:=by omega
    go_enter Tryz.func173,Tryz.ntmps173
    go_wp2
    go_ret
    exact⟨rfl,rfl⟩
   ·have c3:a+b<=a:=by omega
    go_enter Tryz.func173,Tryz.ntmps173
    go_wp2
    go_ret
    exact⟨rfl,rfl⟩
   ·subst h
    rw [Int.add_zero] at ws ⊢
    go_enter Tryz.func173,Tryz.ntmps173
    go_wp2
    go_ret
    exact⟨rfl,rfl⟩
theorem Add_any(p:Option Addr)(n cap:Nat)(xs:List Int)(w:World)(hs:SlI w .i64 (.slice p n cap) xs)(hb:∀x∈xs,In64 x)(hn:n<=9223372036854775807):
  Calls Tryz.prog 128 #[.slice p n cap] w fun e w'=>e = .returned (.int .i64 (addL xs))/\w=w':=by
 obtain⟨hl,hc⟩:=hs.cellAt
 have HC:=zH hc
 have HL:=zH hl
 have HB:=zH hb
 clear hs hc hl hb
 go_enter Tryz.func128,Tryz.ntmps128
 go_wp2
 go_loop [3,8] (fun s i=>∃k:Nat,k<=n/\i = .int .i64 k/\s = .int .i64 (addL (xs.take k))) (fun _ i=>n-(intOf i).toNat)
 case atStart=>exact⟨0,by omega,rfl,rfl⟩
 case round=>
  obtain⟨k,hk,rfl,rfl⟩:=hrel
  by_cases hlt:k<n
  ·obtain⟨b,off,rfl,_,_,_,hc⟩:=HC.out (by omega)
   have hcell:=hc k hlt
   have hgo:=zH (addTwo_any (addL (xs.take k)) (xs.getD k 0) w (addL_in _) (getD_in HB.out k))
   rw [←addL_snoc xs k (by rw [HL.out];exact hlt)] at hgo
   clear hc HC HL HB
   generalize xs.getD k 0=x at *
   generalize addL (xs.take k)=s at *
   go_wp2_with fail
   refine hgo.out.mono ?_
   rintro e w' ⟨rfl,rfl⟩
   go_wp2
   go_round
   case rel=>exact⟨k+1,by omega,by go_num,rfl⟩
   case measure=>simp [intOf];omega
  ·have hend:Hid (xs.take k=xs):=by unfold Hid;rw [List.take_of_length_le (by rw [HL.out];omega)]
   clear HC HL HB
   go_wp2
   go_ret
   exact⟨by rw [hend.out];rfl,rfl⟩
theorem Peak_any(p:Option Addr)(n cap:Nat)(xs:List Int)(w:World)(hs:SlI w .i64 (.slice p n cap) xs)(hb:∀x∈xs,In64 x)(hn:n<=9223372036854775807):
  Calls Tryz.prog 230 #[.slice p n cap] w fun e w'=>e = .returned (.int .i64 (peakL xs))/\w=w':=by
 obtain⟨hl,hc⟩:=hs.cellAt
 have HC:=zH hc
 have HL:=zH hl
 have HB:=zH hb
 clear hs hc hl hb
 go_enter Tryz.func230,Tryz.ntmps230
 go_wp2
 go_loop [3,8] (fun s i=>∃k:Nat,k<=n/\i = .int .i64 k/\s = .int .i64 (peakL (xs.take k))) (fun _ i=>n-(intOf i).toNat)
 case atStart=>exact⟨0,by omega,rfl,rfl⟩
 case round=>
  obtain⟨k,hk,rfl,rfl⟩:=hrel
  by_cases hlt:k<n
  ·obtain⟨b,off,rfl,_,_,_,hc⟩:=HC.out (by omega)
   have hcell:=hc k hlt
   have hx:=getD_in HB.out k
   have hgo:=zH (Abs_any (xs.getD k 0) w hx.1 hx.2)
   have hsn:=zH (peakL_snoc xs k (by rw [HL.out];exact hlt))
   have hbd:=absI_bd _ hx.1 hx.2
   clear hc HC HL HB hx
   generalize xs.getD k 0=x at *
   generalize peakL (xs.take k)=s at *
   generalize absI x=y at *
   go_wp2_with fail
   refine hgo.out.mono ?_
   rintro e w' ⟨rfl,rfl⟩
   go_wp2
   all_goals
    go_round
    case rel=>exact⟨k+1,by omega,by go_num,by rw [hsn.out];congr 1;omega⟩
    case measure=>simp [intOf];omega
  ·have hend:Hid (xs.take k=xs):=by unfold Hid;rw [List.take_of_length_le (by rw [HL.out];omega)]
   clear HC HL HB
   go_wp2
   go_ret
   exact⟨by rw [hend.out];rfl,rfl⟩
theorem Step_yes(s:Nat)(w:World)(h:s<=23):
  Calls Tryz.prog 221 #[.int .i64 s] w fun e w'=>e = .returned (.int .i64 (pw s))/\w=w':=by
 have h0:0<=(s:Int):=by omega
 have h1:(s:Int)<=23:=by omega
 have he:=pw_wrap s (by omega)
 go_enter Tryz.func221,Tryz.ntmps221
 go_wp2
 go_ret
 exact⟨ret_int (by simpa using he),rfl⟩
structure Rws(w:World)(p:Option Addr)(n:Nat)(Q:Nat->Option Addr)(M C:Nat->Nat)(X:Nat->Nat->Int):Prop where
 cell:0<n->∃g o,p=some ⟨g,o,none⟩/\g<w.heap.size/\∀i,i<n->w.cell? ⟨g,o+i,none⟩=some (.slice (Q i) (M i) (C i))
 row:∀i,i<n->M i<=C i/\C i<=maxLen/\(0<M i->∃g o,Q i=some ⟨g,o,none⟩/\g<w.heap.size/\∀j,j<M i->w.cell? ⟨g,o+j,none⟩=some (.int .i64 (X i j)))
theorem Rws.old{w w':World}{p:Option Addr}{n:Nat}{Q:Nat->Option Addr}{M C:Nat->Nat}{X:Nat->Nat->Int}(h:Rws w p n Q M C X)(k:Old w w'):Rws w' p n Q M C X where
 cell:=fun hn=>by
  obtain⟨g,o,h1,h2,h3⟩:=h.cell hn
  exact⟨g,o,h1,Nat.lt_of_lt_of_le h2 k.size,fun i hi=>(k.cell (a:=⟨g,o+i,none⟩) h2).trans (h3 i hi)⟩
 row:=fun i hi=>by
  obtain⟨a,b,c⟩:=h.row i hi
  refine⟨a,b,fun hm=>?_⟩
  obtain⟨g,o,h1,h2,h3⟩:=c hm
  exact⟨g,o,h1,Nat.lt_of_lt_of_le h2 k.size,fun j hj=>(k.cell (a:=⟨g,o+j,none⟩) h2).trans (h3 j hj)⟩
structure Smp where
 s:ByteArray
 r:Int
 lp:Bool
 a:Int
 b:Int
 p:Option Addr
 n:Nat
 c:Nat
 Q:Nat->Option Addr
 M:Nat->Nat
 C:Nat->Nat
 X:Nat->Nat->Int
def Smp.cells(S:Smp):Array Value:=#[.string S.s,.int .i64 S.r,.bool S.lp,.int .i64 S.a,.int .i64 S.b,.slice S.p S.n S.c]
def Smp.val(S:Smp):Value:=.agg S.cells
structure SmOk(w:World)(S:Smp):Prop where
 size:S.s.size<=9223372036854775807
 le:S.n<=S.c
 cap:S.c<=maxLen
 rows:Rws w S.p S.n S.Q S.M S.C S.X
theorem SmOk.old{w w':World}{S:Smp}(h:SmOk w S)(k:Old w w'):SmOk w' S:=⟨h.size,h.le,h.cap,h.rows.old k⟩
def Smp.len(S:Smp):Int:=if S.n=0 then 0 else S.M 0
def farP(n:Nat)(F:Nat->Int):Prop:=∃i,i<n/\(F i < -32768\/32767<F i)
def Smp.odd(S:Smp):Prop:=∃k,k<S.n/\S.M k≠S.M 0
def Smp.far(S:Smp):Prop:=∃k,k<S.n/\farP (S.M k) (S.X k)
open Classical in
noncomputable def Smp.check(S:Smp):Int:=
 if wrongI S.s S.len S.r S.n S.lp S.a S.b≠0 then wrongI S.s S.len S.r S.n S.lp S.a S.b else if S.odd then 12 else if S.far then 5 else 0
structure SmFew(S:Smp):Prop where
 name:S.s.size<=100
 n:S.n<=4
 m:∀k,k<S.n->S.M k<=150
def turnP(k:Nat):Int:=512*(2*k+1)
def turnD(k:Nat):Int:=1024+(2*k+1)*(2*k+1)
def turnU(k:Nat):Int:=((2*k+1)*1048576+turnD k/2)/turnD k
def turnV(k:Nat):Value:=.agg #[.int .i64 (turnP k),.int .i64 (turnU k)]
def turnC(k:Nat):Int:=if k%2=0 then turnP (k/2) else turnU (k/2)
def turnF(n:Nat):Nat->Value:=fun k=>.int .i64 (if k<n*2 then turnC k else 0)
theorem turnF_upd(n:Nat)(hn:n<8):rowN 16 (updN (updN (turnF n) (n*2) (.int .i64 (turnP n))) (n*2+1) (.int .i64 (turnU n)))=rowN 16 (turnF (n+1)):=by
 apply rowN_ext
 intro k hk
 unfold updN turnF
 by_cases h:k=n*2+1
 ·subst h
  rw [if_pos rfl,if_pos (by omega)]
  unfold turnC
  rw [if_neg (by omega),show (n*2+1)/2=n by omega]
 ·rw [if_neg h]
  by_cases h1:k=n*2
  ·subst h1
   rw [if_pos rfl,if_pos (by omega)]
   unfold turnC
   rw [if_pos (by omega),show n*2/2=n by omega]
  ·rw [if_neg h1]
   by_cases h2:k<n*2
   ·rw [if_pos h2,if_pos (by omega)]
   ·rw [if_neg h2,if_neg (by omega)]
theorem turn_bds(k:Nat)(h:k<8):0<=turnP k/\turnP k<=8192/\0<=turnU k/\turnU k<=16384:=by
 revert k
 decide
theorem Turn_yes(k:Nat)(w:World)(h:k<=7):
  Calls Tryz.prog 125 #[.int .i64 k] w fun e w'=>e = .returned (turnV k)/\Old w w':=by
 have i1:0<=(k:Int):=by omega
 have i2:(k:Int)<8:=by omega
 unfold turnV turnP turnU turnD
 have m1:1<=2*(k:Int)+1:=by omega
 have m2:2*(k:Int)+1<=15:=by omega
 have hq0:0<=(2*(k:Int)+1)*(2*(k:Int)+1):=Int.mul_nonneg (by omega) (by omega)
 have hq1:(2*(k:Int)+1)*(2*(k:Int)+1)<=225:=by have:=Int.mul_le_mul m2 m2 (by omega) (by omega);omega
 generalize hq:(2*(k:Int)+1)*(2*(k:Int)+1)=q at *
 have hd2:(1024+q).tdiv 2=(1024+q)/2:=tdiv_pos _ _ (by omega)
 have hd3:((2*(k:Int)+1)*1048576+(1024+q)/2).tdiv (1024+q)=((2*(k:Int)+1)*1048576+(1024+q)/2)/(1024+q):=tdiv_pos _ _ (by omega)
 have u1:0<=((2*(k:Int)+1)*1048576+(1024+q)/2)/(1024+q):=Int.ediv_nonneg (by omega) (by omega)
 have u2:((2*(k:Int)+1)*1048576+(1024+q)/2)/(1024+q)<=20000000:=by
  have:=Int.ediv_le_self (1024+q) (show 0<=(2*(k:Int)+1)*1048576+(1024+q)/2 by omega)
  omega
 go_enter Tryz.func125,Tryz.ntmps125
 go_wp2
 refine bodyPost_ret (results_cell_row rfl _ _ w.heap.size 50 _ (0,0) _ rfl (heap_alloc_new _ _) Tryz.underlying50 rfl (by kernel_rfl)) rfl ⟨rfl,Old.alloc _ _⟩
theorem turns_start(w:World):Hid (Tab w (w.heap.size+1) 16 51 (turnF 0) ((w.alloc (.cells (rowN 16 (turnF 0)) 51)).alloc (.cells (rowN 16 (turnF 0)) 51))/\Tab w w.heap.size 16 51 (turnF 0) ((w.alloc (.cells (rowN 16 (turnF 0)) 51)).alloc (.cells (rowN 16 (turnF 0)) 51))):=zH (Tab.two _ _ _ _)
theorem Turns_any(w:World):
  Calls Tryz.prog 84 #[] w fun e w'=>e = .returned (.agg (rowN 16 (turnF 8)))/\Old w w':=by
 have hst:=turns_start w
 go_enter Tryz.func84,Tryz.ntmps84
 go_wp2
 go_loopw [3] (fun i wr=>∃k:Nat,k<=8/\i = .int .i64 k/\Hid (Tab w (w.heap.size+1) 16 51 (turnF k) wr/\Tab w w.heap.size 16 51 (turnF 0) wr)) (fun i _=>8-(intOf i).toNat)
 case atStart=>exact⟨0,by omega,rfl,hst⟩
 case round=>
  obtain⟨k,hk,rfl,ht⟩:=hrel
  by_cases hlt:k<8
  ·have i1:0<=(k:Int):=by omega
   have i2:(k:Int)<8:=by omega
   have hT:=zH (Turn_yes k wr (by omega))
   clear hst
   go_wp2_with fail
   refine hT.out.mono ?_
   rintro e w1 ⟨rfl,ho⟩
   have ht1:=ht.out.1.keep ho
   have ht2:=ht.out.2.keep ho
   have hb:=ht1.new
   obtain⟨hc,hf⟩:=ht1.cell (k*2) (by omega)
   obtain⟨hc1,hf1⟩:=(ht1.set (k*2) (.int .i64 (turnP k)) (by omega)).cell (k*2+1) (by omega)
   have hnx:Hid (Tab w (w.heap.size+1) 16 51 (turnF (k+1)) ((w1.setCell ⟨w.heap.size+1,k*2,none⟩ (.int .i64 (turnP k))).setCell ⟨w.heap.size+1,k*2+1,none⟩ (.int .i64 (turnU k)))/\Tab w w.heap.size 16 51 (turnF 0) ((w1.setCell ⟨w.heap.size+1,k*2,none⟩ (.int .i64 (turnP k))).setCell ⟨w.heap.size+1,k*2+1,none⟩ (.int .i64 (turnU k)))):=by
    refine⟨?_,(ht2.other (a:=⟨w.heap.size+1,k*2,none⟩) (by simp) (by simp) _).other (a:=⟨w.heap.size+1,k*2+1,none⟩) (by simp) (by simp) _⟩
    have h:=(ht1.set (k*2) (.int .i64 (turnP k)) (by omega)).set (k*2+1) (.int .i64 (turnU k)) (by omega)
    exact⟨by rw [←turnF_upd k hlt];exact h.blk,h.new,h.old⟩
   clear ht ht1 ht2 ho
   unfold turnV
   go_wp2
   go_roundw
   case rel=>exact⟨k+1,by omega,by go_num,hnx⟩
   case measure=>simp [intOf];omega
  ·obtain rfl:k=8:=by omega
   have hfin:Hid (Tab w w.heap.size 16 51 (turnF 8) (wr.setRow w.heap.size (rowN 16 (turnF 8)))):=ht.out.2.row _
   have Hb:=zH ht.out.1.blk
   have Hr:=zH ht.out.2.blk
   have Hz:Hid ((Tryz.prog.info? 51).map (·.size)=some 16):=zH (by kernel_rfl)
   have H1:Hid ((rowN 16 (turnF 8)).all (·.oneCell')=true):=zH (rowN_one _ _ fun _ _=>rfl)
   clear hst ht
   go_wp2_with (first | (with_reducible refine wpList_load_row rfl 51 _ rfl (w.heap.size+1) rfl 51 (rowN 16 (turnF 8)) (0,0) _ Hb.out Tryz.underlying51 rfl (by rw [rowN_size];exact Hz.out) ?_) | (with_reducible refine wpList_store_row rfl 51 _ _ rfl w.heap.size (rowN 16 (turnF 8)) rfl rfl 51 _ Hr.out (by rw [rowN_size];exact Hz.out) (by rw [rowN_size,rowN_size]) H1.out ?_))
   refine bodyPost_ret (results_cell_row rfl _ _ w.heap.size 51 (rowN 16 (turnF 8)) (0,0) _ rfl hfin.out.blk Tryz.underlying51 rfl (by rw [rowN_size];exact Hz.out)) rfl ⟨rfl,hfin.out.old⟩
theorem Tryz.info_i64':(Tryz.prog.info? 2).map (fun i=>(i.zero,i.size,i.bytes))=some (some (.int .i64 0),1,8):=by kernel_rfl
theorem own_empty(w:World)(t:TypeId):ownX (fun q=>q<w.heap.size) (w.alloc (.cells #[] t)) t (.slice (some ⟨w.heap.size,0,none⟩) 0 0) 0 []:=by
 refine⟨⟨rfl,.inr ⟨w.heap.size,0,#[],rfl,Nat.zero_le _,heap_alloc_new _ _,Nat.le_refl _,Nat.zero_le _,rfl,rfl⟩⟩,fun k hk=>?_⟩
 have:k=w.heap.size:=by simpa [Value.ownBlock,eq_comm] using hk
 omega
theorem Clone_any(p:Option Addr)(n cap:Nat)(xs:List Int)(w:World)(hs:SlI w .i64 (.slice p n cap) xs)(hn:n<=1099511627776):
  Calls Tryz.prog 222 #[.slice p n cap] w fun e w'=>∃v,e = .returned v/\OwnL .i64 2 (fun q=>q<w.heap.size) w' v xs/\Old w w':=by
 obtain⟨hl,hc⟩:=hs.cellAt
 have HC:=zH hc
 have HL:=zH hl
 clear hs hc hl
 obtain⟨i0,hi,hz0,hz1,hz2⟩:=info_parts Tryz.info_i64'
 cases p with
 | none=>
  have h0:n=0:=by
   rcases Nat.eq_zero_or_pos n with h | h
   ·exact h
   ·obtain⟨b,off,hp,_⟩:=HC.out h
    cases hp
  have hx:xs = []:=List.eq_nil_of_length_eq_zero (by rw [HL.out];exact h0)
  have HX:=zH hx
  clear hx h0 HC HL
  have hE:=eql_sl_nil 186 2 none n cap Tryz.underlying186
  go_enter Tryz.func222,Tryz.ntmps222
  go_wp2
  go_ret
  exact⟨_,rfl,by rw [HX.out];exact OwnL.nil _ _ _ _,Old.refl w⟩
 | some a=>
  have HN:Hid (∀j u,(xs.map (Value.int .i64))[j]?=some u->(w.alloc (.cells #[] 2)).cell? (a.add j)=some u):=by
   intro j u hj
   rw [List.getElem?_map] at hj
   cases hx:xs[j]? with
   | none=>rw [hx] at hj;cases hj
   | some x=>
    rw [hx] at hj
    have hjl:j<xs.length:=by
     by_cases h:j<xs.length
     ·exact h
     ·rw [List.getElem?_eq_none (by omega)] at hx;cases hx
    obtain⟨b,off,hp,hb,_,_,hcell⟩:=HC.out (by have:=HL.out;omega)
    obtain rfl:a=⟨b,off,none⟩:=by simpa using hp
    rw [add_plain,(Old.alloc w (.cells #[] 2)).cell (a:=⟨b,off+j,none⟩) hb,hcell j (by have:=HL.out;omega)]
    have hx':xs.getD j 0=x:=by rw [List.getD_eq_getElem?_getD,hx];rfl
    rw [hx']
    simpa using hj
  have HO:Hid (Old w (w.alloc (.cells #[] 2))):=Old.alloc _ _
  have HM:Hid ((xs.map (Value.int .i64)).length=n):=by unfold Hid;rw [List.length_map,HL.out]
  have H1:Hid (∀u∈xs.map (Value.int .i64),u.oneCell'=true):=by
   intro u hu
   obtain⟨x,_,rfl⟩:=List.mem_map.1 hu
   rfl
  clear HC
  have hE:=eql_sl_nil 186 2 (some a) n cap Tryz.underlying186
  go_enter Tryz.func222,Tryz.ntmps222
  go_wp2_with (at_builtin;refine append_X _ rfl _ _ 186 rfl (fun q=>q<w.heap.size) 2 i0 (.int .i64 0) 8 Tryz.underlying186 hi hz0 hz1 hz2 rfl _ _ _ rfl (own_empty w 2) a n cap (xs.map (Value.int .i64)) rfl HM.out HN.out H1.out (by unfold maxLen;omega) (by omega) (fun q hq=>Nat.lt_of_lt_of_le hq HO.out.size) ?_;intro v' w2 hown2 hk2 _;have HR2:=zH (show OwnL .i64 2 (fun q=>q<w.heap.size) w2 v' xs from(by unfold OwnL;rw [HL.out];have:=hown2;rw [Nat.zero_add,List.nil_append] at this;exact this));have HO2:=zH (HO.out.after hk2 (fun _ h=>h));clear hown2 hk2 HO HN HM H1 HL)
  go_ret
  exact⟨_,rfl,HR2.out,HO2.out⟩
def revK(xs:List Int)(k:Nat):List Int:=(List.range xs.length).map fun i=>if i<k\/xs.length<=i+k then xs.getD (xs.length-1-i) 0 else xs.getD i 0
theorem revK_length(xs:List Int)(k:Nat):(revK xs k).length=xs.length:=by simp [revK]
theorem revK_get(xs:List Int)(k i:Nat)(h:i<xs.length):(revK xs k)[i]?=some (if i<k\/xs.length<=i+k then xs.getD (xs.length-1-i) 0 else xs.getD i 0):=by
 simp [revK,h]
theorem revK_zero(xs:List Int):revK xs 0=xs:=by
 apply List.ext_getElem?
 intro i
 by_cases h:i<xs.length
 ·rw [revK_get _ _ _ h,if_neg (by omega)];simp [List.getD,h]
 ·rw [List.getElem?_eq_none (by rw [revK_length];omega),List.getElem?_eq_none (by omega)]
theorem revK_end(xs:List Int)(k:Nat)(hk:xs.length<=2*k+1):revK xs k=xs.reverse:=by
 apply List.ext_getElem?
 intro i
 by_cases h:i<xs.length
 ·rw [revK_get _ _ _ h,List.getElem?_reverse h]
  by_cases c:i<k\/xs.length<=i+k
  ·rw [if_pos c]
   have:xs.length-1-i<xs.length:=by omega
   simp [List.getD,this]
  ·rw [if_neg c]
   have:i=xs.length-1-i:=by omega
   rw [←this]
   simp [List.getD,h]
 ·rw [List.getElem?_eq_none (by rw [revK_length];omega),List.getElem?_eq_none (by simp;omega)]
theorem revK_succ(xs:List Int)(k:Nat)(h:2*k+1<xs.length):((revK xs k).set k (xs.getD (xs.length-1-k) 0)).set (xs.length-1-k) (xs.getD k 0)=revK xs (k+1):=by
 apply List.ext_getElem?
 intro i
 by_cases hi:i<xs.length
 ·rw [revK_get _ _ _ hi,List.getElem?_set,List.getElem?_set,List.length_set,revK_length,revK_get _ _ _ hi]
  by_cases c1:xs.length-1-k=i
  ·rw [if_pos c1,if_pos (by omega),if_pos (by omega),show xs.length-1-i=k by omega]
  ·rw [if_neg c1]
   by_cases c2:k=i
   ·subst c2
    rw [if_pos rfl,if_pos (by omega),if_pos (by omega)]
   ·rw [if_neg c2]
    by_cases c3:i<k\/xs.length<=i+k
    ·rw [if_pos c3,if_pos (by omega)]
    ·rw [if_neg c3,if_neg (by omega)]
 ·rw [List.getElem?_eq_none (by simp [revK_length];omega),List.getElem?_eq_none (by rw [revK_length];omega)]
def RevR(X:Nat->Prop)(w:World)(v:Value)(xs:List Int)(k:Nat)(wr:World):Prop:=ownX X wr 2 v xs.length ((revK xs k).map (Value.int .i64))/\Kept X w wr
theorem RevR.drew{X:Nat->Prop}{w wr:World}{v:Value}{xs:List Int}{k:Nat}(h:Hid (RevR X w v xs k wr)):Hid (RevR X w v xs k wr.drew):=⟨⟨⟨h.out.1.1.1,h.out.1.1.2⟩,h.out.1.2⟩,h.out.2.drew⟩
set_option maxHeartbeats 1000000 in
theorem Reverse_any(X:Nat->Prop)(v:Value)(xs:List Int)(w:World)(hs:OwnL .i64 2 X w v xs)(hX:∀k,X k->k<w.heap.size):
  Calls Tryz.prog 223 #[v] w fun e w'=>e = .returned (.tuple #[])/\OwnL .i64 2 X w' v xs.reverse/\Kept X w w':=by
 have HS:Hid (RevR X w v xs 0 w):=⟨by rw [revK_zero];exact hs,Kept.refl _ _⟩
 rcases hs.shape with ⟨rfl,h0⟩ | ⟨g,cap,rfl,hg,hgl,hnc,hcm,hcell⟩
 ·have hx:xs = []:=List.eq_nil_of_length_eq_zero h0
  have HX:=zH hx
  clear h0 hx HS hs
  go_enter Tryz.func223,Tryz.ntmps223
  go_wp2
  go_loop [2,3] (fun i j=>i = .int .i64 0/\j = .int .i64 (-1)) (fun _ _=>0)
  case atStart=>exact⟨rfl,rfl⟩
  case round=>
   obtain⟨rfl,rfl⟩:=hrel
   go_wp2
   go_end0
   exact⟨rfl,by rw [HX.out];exact OwnL.nil _ _ _ _,Kept.refl _ _⟩
 ·unfold maxLen at hcm
  obtain⟨n,hn⟩:∃n,n=xs.length:=⟨_,rfl⟩
  rw [←hn] at hnc ⊢
  have HN:=zH hn
  clear hs hcell hn
  go_enter Tryz.func223,Tryz.ntmps223
  go_wp2
  go_loopw [2,3] (fun i j wr=>∃k:Nat,2*k<=n+1/\i = .int .i64 k/\j = .int .i64 ((n:Int)-1-k)/\Hid (RevR X w (.slice (some ⟨g,0,none⟩) n cap) xs k wr)) (fun i _ _=>n-(intOf i).toNat)
  case atStart=>exact⟨0,by omega,rfl,by go_num,by rw [HN.out];exact HS⟩
  case round=>
   obtain⟨k,hk,rfl,rfl,HR⟩:=hrel
   by_cases h:2*k+1<n
   ·obtain⟨m,hm⟩:∃m:Nat,(m:Int)=(n:Int)-1-k:=⟨n-1-k,by omega⟩
    rw [←hm]
    have hx1:(xs.length-1-k)=m:=by have:=HN.out;omega
    obtain⟨x,hx⟩:∃x,x=xs.getD k 0:=⟨_,rfl⟩
    obtain⟨y,hy⟩:∃y,y=xs.getD m 0:=⟨_,rfl⟩
    have c1:wr.cell? ⟨g,k,none⟩=some (.int .i64 x):=by
     have hr:=HR.out.1
     rw [←HN.out] at hr
     rw [hr.cellAt k (by omega),List.getElem?_map,revK_get _ _ _ (by have:=HN.out;omega),if_neg (by have:=HN.out;omega),←hx];rfl
    have c2:wr.cell? ⟨g,m,none⟩=some (.int .i64 y):=by
     have hr:=HR.out.1
     rw [←HN.out] at hr
     rw [hr.cellAt m (by omega),List.getElem?_map,revK_get _ _ _ (by have:=HN.out;omega),if_neg (by have:=HN.out;omega),←hy];rfl
    have f1:wr.frozen? ⟨g,k,none⟩=false:=by have hr:=HR.out.1;rw [←HN.out] at hr;exact hr.frozenAt k
    have f2:wr.frozen? ⟨g,m,none⟩=false:=by have hr:=HR.out.1;rw [←HN.out] at hr;exact hr.frozenAt m
    have hr2:RevR X w (.slice (some ⟨g,0,none⟩) n cap) xs (k+1) ((wr.setCell ⟨g,k,none⟩ (.int .i64 y)).setCell ⟨g,m,none⟩ (.int .i64 x)):=by
     have hr:=HR.out
     unfold RevR at hr ⊢
     rw [←HN.out] at hr ⊢
     refine⟨?_,(hr.2.trans (Kept.setCell wr (a:=⟨g,k,none⟩) hg _)).trans (Kept.setCell _ (a:=⟨g,m,none⟩) hg _)⟩
     have h2:=(hr.1.stored k (.int .i64 y)).stored m (.int .i64 x)
     have h3:=revK_succ xs k (by have:=HN.out;omega)
     rw [hx1,←hx,←hy] at h3
     rw [←List.map_set,←List.map_set,h3] at h2
     exact h2
    have HR2:=zH hr2
    have hkm:k<m:=by omega
    have hmn:m<n:=by omega
    have hkn:k<n:=by omega
    have HM:=zH hm
    have HJ:Hid ((m:Int)-1=(n:Int)-1-(k+1:Nat)):=by unfold Hid;omega
    clear hr2 HR HS hx hy hx1 hm
    go_wp2
    go_region
    go_wp2
    go_roundw
    case rel=>exact⟨k+1,by omega,by go_num,by rw [←HJ.out],RevR.drew HR2⟩
    case measure=>simp [intOf];omega
   ·have HE:Hid (OwnL .i64 2 X wr (.slice (some ⟨g,0,none⟩) n cap) xs.reverse/\Kept X w wr):=by
     have:=HR.out
     unfold RevR at this
     rw [revK_end xs k (by have:=HN.out;omega)] at this
     unfold OwnL
     rw [List.length_reverse]
     exact this
    have h':(n:Int)-1-k<=k:=by omega
    clear HR HS h
    go_wp2
    go_end0
    exact⟨rfl,HE.out⟩
def makeI(v c:Int):Int:=roundI (v*c) 16384
theorem mul_bd(v c M N:Int)(h1:-M<=v)(h2:v<=M)(h3:0<=c)(h4:c<=N):-(M*N)<=v*c/\v*c<=M*N:=by
 have a:=Int.mul_le_mul_of_nonneg_right h2 h3
 have b:=Int.mul_le_mul_of_nonneg_right h1 h3
 have d:=Int.mul_le_mul_of_nonneg_left h4 (show 0<=M by omega)
 rw [Int.neg_mul] at b
 omega
theorem makeI_bd(v c M:Int)(h1:-M<=v)(h2:v<=M)(h3:0<=c)(h4:c<=16384):-M<=makeI v c/\makeI v c<=M+1:=by
 have:=mul_bd v c M 16384 h1 h2 h3 h4
 unfold makeI roundI
 generalize v*c=x at *
 split <;> omega
def turnA1(a b p:Int):Int:=a+makeI b p
def turnB(a b p u:Int):Int:=b-makeI (turnA1 a b p) u
def turnA(a b p u:Int):Int:=turnA1 a b p+makeI (turnB a b p u) p
theorem turn_bd(a b p u M:Int)(h1:-M<=a)(h2:a<=M)(h3:-M<=b)(h4:b<=M)(p0:0<=p)(p1:p<=16384)(u0:0<=u)(u1:u<=16384):
  (-(2*M+1)<=turnA1 a b p/\turnA1 a b p<=2*M+1)/\(-(3*M+2)<=turnB a b p u/\turnB a b p u<=3*M+2)/\(-(5*M+4)<=turnA a b p u/\turnA a b p u<=5*M+4):=by
 have x1:=makeI_bd b p M h3 h4 p0 p1
 have y1:-(2*M+1)<=turnA1 a b p/\turnA1 a b p<=2*M+1:=by unfold turnA1;omega
 have x2:=makeI_bd (turnA1 a b p) u (2*M+1) y1.1 y1.2 u0 u1
 have y2:-(3*M+2)<=turnB a b p u/\turnB a b p u<=3*M+2:=by unfold turnB;omega
 have x3:=makeI_bd (turnB a b p u) p (3*M+2) y2.1 y2.2 p0 p1
 refine⟨y1,y2,?_⟩
 unfold turnA
 omega
theorem wrap64_bd(x:Int):-9223372036854775808<=wrap64 x/\wrap64 x<=9223372036854775807:=by unfold wrap64;omega
theorem wrap_sub_add(b m:Int)(h1:-9223372036854775808<=b)(h2:b<=9223372036854775807):wrap64 (wrap64 (b-m)+m)=b:=by unfold wrap64;omega
theorem wrap_add_sub(b m:Int)(h1:-9223372036854775808<=b)(h2:b<=9223372036854775807):wrap64 (wrap64 (b+m)-m)=b:=by unfold wrap64;omega
def makeW(v c:Int):Int:=roundI (wrap64 (v*c)) 16384
def turnW1(a b p:Int):Int:=wrap64 (a+makeW b p)
def turnWB(a b p u:Int):Int:=wrap64 (b-makeW (turnW1 a b p) u)
def turnWA(a b p u:Int):Int:=wrap64 (turnW1 a b p+makeW (turnWB a b p u) p)
def backW1(a b p:Int):Int:=wrap64 (a-makeW b p)
def backWB(a b p u:Int):Int:=wrap64 (b+makeW (backW1 a b p) u)
def backWA(a b p u:Int):Int:=wrap64 (backW1 a b p-makeW (backWB a b p u) p)
theorem backW_turnW(a b p u:Int)(a1:-9223372036854775808<=a)(a2:a<=9223372036854775807)(b1:-9223372036854775808<=b)(b2:b<=9223372036854775807):
  backWA (turnWA a b p u) (turnWB a b p u) p u=a/\backWB (turnWA a b p u) (turnWB a b p u) p u=b:=by
 have w1:=wrap64_bd (a+makeW b p)
 have e1:backW1 (turnWA a b p u) (turnWB a b p u) p=turnW1 a b p:=wrap_add_sub (turnW1 a b p) _ w1.1 w1.2
 have e2:backWB (turnWA a b p u) (turnWB a b p u) p u=b:=by unfold backWB;rw [e1];exact wrap_sub_add b _ b1 b2
 refine⟨?_,e2⟩
 unfold backWA
 rw [e1,e2]
 exact wrap_add_sub a _ a1 a2
theorem makeW_eq(v c M:Int)(h1:-M<=v)(h2:v<=M)(h3:0<=c)(h4:c<=16384)(hM:M<=562949953421311):makeW v c=makeI v c:=by
 have:=mul_bd v c M 16384 h1 h2 h3 h4
 unfold makeW makeI
 rw [IntWalk.wrap64_in _ (by omega)]
theorem turnW_eq(a b p u M:Int)(h1:-M<=a)(h2:a<=M)(h3:-M<=b)(h4:b<=M)(p0:0<=p)(p1:p<=16384)(u0:0<=u)(u1:u<=16384)(hM:M<=4398046511104):
  turnWA a b p u=turnA a b p u/\turnWB a b p u=turnB a b p u:=by
 obtain⟨y1,y2,y3⟩:=turn_bd a b p u M h1 h2 h3 h4 p0 p1 u0 u1
 have e1:turnW1 a b p=turnA1 a b p:=by
  unfold turnW1
  rw [makeW_eq b p M h3 h4 p0 p1 (by omega)]
  exact IntWalk.wrap64_in (turnA1 a b p) (by omega)
 have e2:turnWB a b p u=turnB a b p u:=by
  unfold turnWB
  rw [e1,makeW_eq (turnA1 a b p) u (2*M+1) y1.1 y1.2 u0 u1 (by omega)]
  exact IntWalk.wrap64_in (turnB a b p u) (by omega)
 refine⟨?_,e2⟩
 unfold turnWA
 rw [e1,e2,makeW_eq (turnB a b p u) p (3*M+2) y2.1 y2.2 p0 p1 (by omega)]
 exact IntWalk.wrap64_in (turnA a b p u) (by omega)
theorem turn_near(a b p u M:Int)(h1:-M<=a)(h2:a<=M)(h3:-M<=b)(h4:b<=M)(p0:0<=p)(p1:p<=8192)(u0:0<=u)(u1:u<=16384):
  (-(3*M+4)<=turnA a b p u/\turnA a b p u<=3*M+4)/\(-(3*M+4)<=turnB a b p u/\turnB a b p u<=3*M+4):=by
 have half:∀v N:Int,-N<=v->v<=N->-(N+1)<=2*makeI v p/\2*makeI v p<=N+1:=by
  intro v N k1 k2
  have:=mul_bd v p N 8192 k1 k2 p0 p1
  unfold makeI roundI
  generalize v*p=x at *
  split <;> omega
 have x1:=half b M h3 h4
 have y1:-(3*M+1)<=2*turnA1 a b p/\2*turnA1 a b p<=3*M+1:=by unfold turnA1;omega
 have x2:=makeI_bd (turnA1 a b p) u ((3*M+1)/2) (by omega) (by omega) u0 u1
 have y2:-(5*M+3)<=2*turnB a b p u/\2*turnB a b p u<=5*M+3:=by unfold turnB;omega
 have x3:=half (turnB a b p u) ((5*M+3)/2) (by omega) (by omega)
 refine⟨?_,by omega⟩
 unfold turnA
 omega
theorem makes_all(v c:Int)(w:World):
  Calls Tryz.prog 179 #[.int .i64 v,.int .i64 c] w fun e w'=>e = .returned (.int .i64 (makeW v c))/\∃n,w'=w.drewN n:=by
 unfold makeW
 have hb:=wrap64_bd (v*c)
 have hc:=zH (Round_any (wrap64 (v*c)) 14 w (by decide) (by decide) hb.1 hb.2)
 clear hb
 generalize hx:v*c=x at *
 rw [show pw (14:Int).toNat=16384 from rfl] at hc
 generalize hw2:wrap64 x=y at *
 subst hx
 generalize roundI y 16384=z at *
 go_enter Tryz.func179,Tryz.ntmps179
 go_wp2_with fail
 refine hc.out.mono ?_
 rintro e w1 ⟨rfl,n1,rfl⟩
 go_wp2
 go_ret
 exact⟨rfl,_,rfl⟩
set_option maxHeartbeats 1000000 in
theorem Turn_all(a b p u:Int)(w:World):
  Calls Tryz.prog 233 #[.int .i64 a,.int .i64 b,.agg #[.int .i64 p,.int .i64 u]] w fun e w'=>e = .returned (.tuple #[.int .i64 (turnWA a b p u),.int .i64 (turnWB a b p u)])/\Old w w':=by
 have c1:=zH (fun w=>makes_all b p w)
 have c2:=zH (fun w=>makes_all (turnW1 a b p) u w)
 have c3:=zH (fun w=>makes_all (turnWB a b p u) p w)
 have q1:wrap64 (a+makeW b p)=turnW1 a b p:=rfl
 have q2:wrap64 (b-makeW (turnW1 a b p) u)=turnWB a b p u:=rfl
 have q3:wrap64 (turnW1 a b p+makeW (turnWB a b p u) p)=turnWA a b p u:=rfl
 generalize turnWA a b p u=a3 at *
 generalize turnWB a b p u=b2 at *
 generalize turnW1 a b p=a1 at *
 generalize makeW b p=m1 at *
 generalize makeW a1 u=m2 at *
 generalize makeW b2 p=m3 at *
 go_enter Tryz.func233,Tryz.ntmps233
 go_wp2_with fail
 refine(c1.out _).mono ?_
 rintro e v1 ⟨rfl,n1,rfl⟩
 go_wp2_with fail
 refine(c2.out _).mono ?_
 rintro e v2 ⟨rfl,n2,rfl⟩
 go_wp2_with fail
 refine(c3.out _).mono ?_
 rintro e v3 ⟨rfl,n3,rfl⟩
 go_wp2
 go_ret2
 exact⟨by rw [←q3];rfl,(Old.alloc _ _).drewN _⟩
set_option maxHeartbeats 1000000 in
theorem Back_all(a b p u:Int)(w:World):
  Calls Tryz.prog 143 #[.int .i64 a,.int .i64 b,.agg #[.int .i64 p,.int .i64 u]] w fun e w'=>e = .returned (.tuple #[.int .i64 (backWA a b p u),.int .i64 (backWB a b p u)])/\Old w w':=by
 have c1:=zH (fun w=>makes_all b p w)
 have c2:=zH (fun w=>makes_all (backW1 a b p) u w)
 have c3:=zH (fun w=>makes_all (backWB a b p u) p w)
 have q1:wrap64 (a-makeW b p)=backW1 a b p:=rfl
 have q2:wrap64 (b+makeW (backW1 a b p) u)=backWB a b p u:=rfl
 have q3:wrap64 (backW1 a b p-makeW (backWB a b p u) p)=backWA a b p u:=rfl
 generalize backWA a b p u=a3 at *
 generalize backWB a b p u=b2 at *
 generalize backW1 a b p=a1 at *
 generalize makeW b p=m1 at *
 generalize makeW a1 u=m2 at *
 generalize makeW b2 p=m3 at *
 go_enter Tryz.func143,Tryz.ntmps143
 go_wp2_with fail
 refine(c1.out _).mono ?_
 rintro e v1 ⟨rfl,n1,rfl⟩
 go_wp2_with fail
 refine(c2.out _).mono ?_
 rintro e v2 ⟨rfl,n2,rfl⟩
 go_wp2_with fail
 refine(c3.out _).mono ?_
 rintro e v3 ⟨rfl,n3,rfl⟩
 go_wp2
 go_ret2
 exact⟨by rw [←q3];rfl,(Old.alloc _ _).drewN _⟩
end Go.Proofs.YtgefdmfcddpaiaaGreatDoor
