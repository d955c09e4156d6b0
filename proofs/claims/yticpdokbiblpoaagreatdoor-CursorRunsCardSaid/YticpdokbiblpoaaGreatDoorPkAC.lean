/- Texts joined: ArrI, GainL, QuantL, QuantM, NetS, NearL, WaveA, WaveB, MetaArg. -/
import Derived.ChangeKeysEq
import Derived.OrdersHeld
import Derived.Deep.Fields
import Derived.ChangeArms
import Derived.Test.YticpdokbiblpoaaGreatDoorPkAB
import Derived.Test.YticpdokbiblpoaaGreatDoorTk
set_option linter.unusedVariables false
set_option maxHeartbeats 2000000
namespace Go.Proofs.YticpdokbiblpoaaGreatDoor
open Go.Proofs.Tryz
open Go.Proofs.Tryz renaming prog → zP
open Go.Value renaming int → vI
open Go.IntKind renaming i64 → iJ
open Go.Ending renaming returned → rJ
set_option maxRecDepth 100000
open Go.RowKit Go.ChangeShapes Go.WideShapes
def blk(f:nI):Nat->Value:=fun k=>vI iJ (f k)
theorem iA(f:nI)(j:Nat)(v:Int):nR (blk f) j (vI iJ v)=blk (fun k=>if k=j then v else f k):=by
 funext k;show (if k=j then Value.int .i64 v else vI iJ (f k))=vI iJ (if k=j then v else f k);split <;> rfl
theorem bN(f:nI)(n:Nat):(aA n (blk f)).all (·.oneCell')=true:=nA _ _ fun _ _=>rfl
theorem dR(n:Nat)(f:nI)(k:Nat)(h:k<n):(aA n (blk f))[k]?=some (vI iJ (f k)):=bI n (blk f) k h
def eqB(n:Nat)(f g:nI):Bool:=decide (∀k,k<n->f k=g k)
theorem PQ{n:Nat}{f g:nI} : eqB n f g=true↔∀k,k<n->f k=g k:=by simp[eqB]
theorem aAY{n:Nat}{f g:nI} : eqB n f g=false↔¬∀k,k<n->f k=g k:=by rw[<-PQ];cases eqB n f g <;> simp
theorem aZ{P:Program}{t e:TypeId}{n:Nat}{q:IntKind}(ht:P.underlying t=some (.array n e))(he:P.underlying e=some (.int q))(hz:∀w,(sizeOf e).run P w=.ok 1 w)(f:nI)(k:Nat)(hk:k<n)(w:World):
  (Instr.index t (.agg (aA n (blk f))) (vI iJ k)).run P w=.ok (vI iJ (f k)) w:=by
 simp[Instr.index,run_underlying ht,asIntOf,part,hz,hk,isAgg,run_underlying he,dR n f k hk,go_sem]
theorem aG{P:Program}{ops:Array Oper}{S:World->Prop}{op:Oper}{a:Act}(hw:Region.wanted op (yielded ops a.tmps)=true)(ty:TypeId)(x:Operand)(ho:op.op=.load ty x)
  (b:Nat) (hx:a.eval x=.pointer (some ⟨b,0,none⟩)) (t:TypeId) (cs:Array Value) (fr:Nat × Nat) (d:TypeDesc) (hS:∀w,S w->w.heap[b]?=some (.cells cs t fr))
  (hu:P.underlying ty=some d) (hd:(match d with | .struct _ | .array _ _=>true | _=>false)=true) (hi:(P.info? ty).map (·.size)=some cs.size):YieldsIf P ops S op (.agg cs) a:=
 .inl ⟨hw,fun w hw'=>by
  unfold execOp;simp only[ho,hx,Instr.loadAt,Instr.sureAddr,Sem.run_bind,Sem.run_pure,Result.andThen_ok,run_loadVar_row w b t ty cs fr d (hS w hw') hu hd hi]⟩
theorem fV{P:Program}{ops:Array Oper}{rest:List Oper}{o:Oper}{a:Act}{w:World}{Q:Exit->Act->World->Prop}(hw:Region.wanted o (yielded ops a.tmps)=true)(ty:TypeId)(x:Operand)(ho:o.op=.load ty x)
  (g:Nat) (hx:a.eval x=.pointer (some ⟨g,0,none⟩)) (t:TypeId) (cs:Array Value) (fr:Nat × Nat) (d:TypeDesc) (hg:w.heap[g]?=some (.cells cs t fr))
  (hu:P.underlying ty=some d) (hd:(match d with | .struct _ | .array _ _=>true | _=>false)=true) (hi:(P.info? ty).map (·.size)=some cs.size)
  (h:wpList P ops Q rest (a.put o.dst (.agg cs)) w):wpList P ops Q (o :: rest) a w:=
 wpList_step fun K hK=>by
  rw[if_pos hw];exact wp_load_row ty x ho g hx t cs fr d hg hu hd hi (hK _ _ h)
theorem gI:aA 16 (blk fun _=>0)=#[vI iJ 0,vI iJ 0,vI iJ 0,vI iJ 0,vI iJ 0,vI iJ 0,vI iJ 0,vI iJ 0,vI iJ 0,vI iJ 0,vI iJ 0,vI iJ 0,vI iJ 0,vI iJ 0,vI iJ 0,vI iJ 0]:=rfl
def aD(f:nI):Prop:=∀k,-9223372036854775808<=f k/\f k<=9223372036854775807
def jG(p t:Int):Int:=if p=0\/t/2<p then 0 else if t/4<p then 1 else if t/8<p then 2 else 3
theorem tH(p t:Int):0<=jG p t/\jG p t<=3:=by unfold jG;split <;> (try split) <;> (try split) <;> omega
def part(f:nI)(a n:Nat):List Int:=(List.range n).map fun i=>f (a+i)
def fK(f:nI):nI:=fun k=>jG (bF (part f (4*k) 4)) (bF (part f 0 16))
theorem fQ(f:nI)(a n:Nat):(part f a n).length=n:=by simp[part]
theorem uF(f:nI)(a n i:Nat)(h:i<n):(part f a n).getD i 0=f (a+i):=by simp[part,List.getD,h]
theorem jS{f:nI}(h:aD f)(a n:Nat):∀x∈part f a n,jF x:=by
 intro x hx;simp only[part,List.mem_map]at hx;obtain⟨i,_,rfl⟩:=hx;exact h (a+i)
theorem tM{W:World}{b:Nat}{t:TypeId}{f:nI}(h:W.heap[b]?=some (.cells (aA 16 (blk f)) t (0,0)))(a n cap:Nat)(hn:a+n<=16)(hc:n<=cap)(hm:cap<=16):kK W .i64 (.slice (some ⟨b,a,none⟩) n cap) (part f a n):=by
 refine⟨_,cap,by rw[fQ],fun _=>⟨b,a,rfl,lt_of_block h,by rw[fQ];exact hc,by unfold maxLen;omega,fun i hi=>?_⟩⟩;rw[fQ]at hi;rw[uF _ _ _ _ hi];exact(cell_of_row _ _ _ _ _ _ h).trans (dR 16 f (a+i) zO)
theorem aCy(p t:Int)(w:World)(h0:0<=p)(h1:p<=9223372036854775807)(h2:0<=t)(h3:t<=9223372036854775807):
  Calls zP 218 #[vI iJ p,vI iJ t] w fun e w'=>e=rJ (vI iJ (jG p t))/\w=w':=by
 obtain⟨m0,m3⟩:=tH p t;have H2:Hid (1<=jG p t↔¬(p=0\/t/2<p)):=by unfold Hid jG;split <;> (try split) <;> (try split) <;> omega
 have H4:Hid (2<=jG p t↔¬(p=0\/t/4<p)):=by unfold Hid jG;split <;> (try split) <;> (try split) <;> omega
 have H8:Hid (3<=jG p t↔¬(p=0\/t/8<p)):=by unfold Hid jG;split <;> (try split) <;> (try split) <;> omega
 generalize jG p t=m at *;by_cases hp:p=0
 ·have hm:m=0:=by have:=H2.o;omega
  subst hm hp;go_enter func218,ntmps218;go_wp2;go_ret;exact⟨rfl,rfl⟩
 ·have hp1:1<=p:=zO;clear hp h0;go_enter func218,ntmps218;go_wp2
  go_loop [5] (fun g=>∃k:Nat,k<=3/\g=vI iJ k/\(k:Int)<=m) (fun g=>3-(intOf g).toNat)
  case atStart=>exact⟨0,zO,rfl,zO⟩
  case round=>
   obtain⟨k,hk,rfl,hkm⟩:=hrel;rcases(by omega:k=0\/k=1\/k=2\/k=3) with rfl | rfl | rfl | rfl
   ·have H2':=H2.o;by_cases h:p<=t/2
    ·go_wp2;go_round
     case rel=>exact⟨1,zO,by go_num,zO⟩
     case measure=>simp[intOf]
    ·go_wp2;go_ret;exact⟨bT zO,rfl⟩
   ·have H4':=H4.o;by_cases h:p<=t/4
    ·go_wp2;go_round
     case rel=>exact⟨2,zO,by go_num,zO⟩
     case measure=>simp[intOf]
    ·go_wp2;go_ret;exact⟨bT zO,rfl⟩
   ·have H8':=H8.o;by_cases h:p<=t/8
    ·go_wp2;go_round
     case rel=>exact⟨3,zO,by go_num,zO⟩
     case measure=>simp[intOf]
    ·go_wp2;go_ret;exact⟨bT zO,rfl⟩
   ·go_wp2;go_ret;exact⟨bT zO,rfl⟩
theorem PD(b k:Nat)(cs:Array Value)(t:TypeId)(w:World)(hk:k<4)(hb:w.heap[b]?=some (.cells cs t (0,0)))(hs:cs.size=16):
  Calls zP 219 #[.pointer (some ⟨b,0,none⟩),vI iJ k] w fun e w'=>e=rJ (.slice (some ⟨b,4*k,none⟩) 4 (16-4*k))/\w=w':=by
 have k0:(0:Int)<=k:=zO;have k1:(k:Int)<=3:=zO;have hS:∀w:World,(Instr.sliceAt 43 (.pointer (some ⟨b,0,none⟩)) (some (vI iJ ((k:Int)*4))) (some (vI iJ (((k:Int)+1)*4))) none).run zP w=.ok (.slice (some ⟨b,4*k,none⟩) 4 (16-4*k)) w:=fun w=>by
  have hl:zP.arrayLen 43=16:=zK;have hz:(sizeOf (zP.elem 43)).run zP w=.ok 1 w:=zK;rw[run_sliceAt_array_lh w 43 _ zK .i64 .i64 _ _ zO zO (by rw[hl];omega),hz,hl];simp only[Result.andThen_ok];congr 1;unfold slicedAt;rw[if_neg zO];simp only[Addr.add];have e1:(((k:Int)*4)).toNat=4*k:=zO;have e2:(((k:Int)+1)*4).toNat=4*k+4:=zO;rw[e1,e2,show 4*k+4-4*k=4 by omega,show 4*k*1=4*k by omega,Nat.zero_add];by_cases hk0:4*k=0
  ·rw[if_pos hk0,hk0]
  ·rw[if_neg hk0]
 go_enter func219,ntmps219
 go_wp2_with fail
 go_ret;exact⟨rfl,rfl⟩
def bX(g:nI):Prop:=∀k,k<4->0<=g k/\g k<=3
instance (g:nI):Decidable (bX g):=by unfold bX;infer_instance
theorem FU(g:nI)(w:World):
  Calls zP 121 #[.agg (aA 4 (blk g))] w fun e w'=>e=rJ (.bool (decide (bX g)))/\Old w w':=by
 have Hs:Hid ((zP.info? 44).map (·.size)=some 4):=zH zK;have hb:Hid ((w.alloc (.cells (aA 4 (blk g)) 44)).heap[w.heap.size]?=some (.cells (aA 4 (blk g)) 44 (0,0))):=zH (heap_alloc_new _ _);go_enter func121,ntmps121
 go_wp2_with (with_reducible refine wpList_load_row rfl 44 _ rfl w.heap.size rfl 44 (aA 4 (blk g)) (0,0) _ hb.o underlying44 rfl (by rw[aB];exact Hs.o) ?_)
 go_loop [6] (fun i=>∃k:Nat,k<=4/\i=vI iJ k/\Hid (∀j,j<k->0<=g j/\g j<=3)) (fun i=>4-(intOf i).toNat)
 case atStart=>exact⟨0,zO,rfl,fun j hj=>zO⟩
 case round=>
  obtain⟨k,hk,rfl,hj⟩:=hrel;by_cases hlt:k<4
  ·have i1:(0:Int)<=k:=zO;have i2:(k:Int)<4:=zO;have hat:∀w:World,(Instr.index 44 (.agg (aA 4 (blk g))) (vI iJ k)).run zP w=.ok (vI iJ (g k)) w:=fun w=>aZ underlying44 underlying3 (fun _=>zK) g k hlt w;by_cases h1:g k<0
   ·have hf:decide (bX g)=false:=by
     rw[decide_eq_false_iff_not];intro h;have:=(h k hlt).1;omega
    have HF:=zH hf;clear hf;generalize g k=x at *;go_wp2;go_ret;exact⟨by rw[HF.o];rfl,Old.alloc _ _⟩
   ·by_cases h2:3<g k
    ·have hf:decide (bX g)=false:=by
      rw[decide_eq_false_iff_not];intro h;have:=(h k hlt).2;omega
     have HF:=zH hf;clear hf;have h1':0<=g k:=zO;generalize g k=x at *;go_wp2;go_ret;exact⟨by rw[HF.o];rfl,Old.alloc _ _⟩
    ·have hn:Hid (∀j,j<k+1->0<=g j/\g j<=3):=fun j hj'=>by
      rcases Nat.lt_succ_iff_lt_or_eq.1 hj' with h | rfl
      ·exact hj.o j h
      ·omega
     have h1':0<=g k:=zO;have h2':g k<=3:=zO;clear h1 h2;generalize g k=x at *;go_wp2;go_round
     case rel=>exact⟨k+1,zO,by go_num,hn⟩
     case measure=>exact zM
  ·obtain rfl:k=4:=zO;have hf:decide (bX g)=true:=decide_eq_true hj.o;have HF:=zH hf;clear hf hj;go_wp2;go_ret;exact⟨by rw[HF.o];rfl,Old.alloc _ _⟩
def mG(g:nI)(i:Int):Int:=if 0<=i/\i<16/\bX g then g (i/4).toNat else 0
theorem QL(g:nI)(i:Int)(w:World)(h1:-9223372036854775808<=i)(h2:i<=9223372036854775807):
  Calls zP 78 #[.agg (aA 4 (blk g)),vI iJ i] w fun e w'=>e=rJ (vI iJ (mG g i))/\Old w w':=by
 have Hs:Hid ((zP.info? 44).map (·.size)=some 4):=zH zK;have hb:Hid ((w.alloc (.cells (aA 4 (blk g)) 44)).heap[w.heap.size]?=some (.cells (aA 4 (blk g)) 44 (0,0))):=zH (heap_alloc_new _ _);have HR:=zH (fun w=>FU g w);by_cases a:i<0
 ·have e:mG g i=0:=by unfold mG;rw[if_neg zO]
  rw[e];go_enter func78,ntmps78;go_wp2;go_ret;exact⟨rfl,Old.alloc _ _⟩
 ·have a':0<=i:=zO;clear a;by_cases b:16<=i
  ·have e:mG g i=0:=by unfold mG;rw[if_neg zO]
   rw[e];go_enter func78,ntmps78;go_wp2;go_ret;exact⟨rfl,Old.alloc _ _⟩
  ·have b':i<16:=zO;clear b;have q1:wrap64 (i.tdiv 4)=i/4:=by rw[Int.tdiv_eq_ediv_of_nonneg a'];exact IntWalk.wrap64_in _ zO
   have q2:0<=i/4:=zO;have q3:i/4<4:=zO;by_cases r:bX g
   ·have e:mG g i=g (i/4).toNat:=by unfold mG;rw[if_pos ⟨a',b',r⟩]
    have hr:=HR.o;rw[decide_eq_true r]at hr;rw[e];clear e r HR;have HR:=zH hr;clear hr;clear q1;have hm:(i/4).toNat<4:=zO;have HD:Hid (decide (i<0)=false/\decide (16<=i)=false):=⟨by simp;omega,by simp;omega⟩
    go_enter func78,ntmps78
    go_wp2_with (with_reducible refine fV (by rw[HD.o.1,HD.o.2];kernel_rfl) 44 _ rfl w.heap.size rfl 44 (aA 4 (blk g)) (0,0) _ hb.o underlying44 rfl (by rw[aB];exact Hs.o) ?_)
    refine(HR.o _).mono ?_;rintro e w1 ⟨rfl,ho⟩;have hc:w1.cell? ⟨w.heap.size,(i/4).toNat,none⟩=some (vI iJ (g (i/4).toNat)):=(Kept.cell ho zS).trans (MY w 4 _ (blk g) _ hm);have HO:=zH ((Old.alloc w _).trans ho);clear ho;go_wp2;go_ret;exact⟨rfl,HO.o⟩
   ·have e:mG g i=0:=by unfold mG;rw[if_neg (fun h=>r h.2.2)]
    have hr:=HR.o;rw[decide_eq_false r]at hr;rw[e];clear e r HR q1;have HR:=zH hr;clear hr;have HD:Hid (decide (i<0)=false/\decide (16<=i)=false):=⟨by simp;omega,by simp;omega⟩
    go_enter func78,ntmps78
    go_wp2_with (with_reducible refine fV (by rw[HD.o.1,HD.o.2];kernel_rfl) 44 _ rfl w.heap.size rfl 44 (aA 4 (blk g)) (0,0) _ hb.o underlying44 rfl (by rw[aB];exact Hs.o) ?_)
    refine(HR.o _).mono ?_;rintro e w1 ⟨rfl,ho⟩;have HO:=zH ((Old.alloc w _).trans ho);clear ho;go_wp2;go_ret;exact⟨rfl,HO.o⟩
structure OfSt(w:World)(tb tg:TypeId)(z:Array Value)(f:nI)(g:nI)(W:World):Prop where
 b:W.heap[w.heap.size]?=some (.cells (aA 16 (blk f)) tb (0,0))
 r:W.heap[w.heap.size+1]?=some (.cells z tg (0,0))
 g:W.heap[w.heap.size+1+1]?=some (.cells (aA 4 (blk g)) tg (0,0))
 old:Old w W
namespace OfSt
variable {w W W':World} {tb tg:TypeId} {z:Array Value} {f g g':nI}
theorem set(h:OfSt w tb tg z f g W)(j:Nat)(hj:j<4)(v:Int):OfSt w tb tg z f (fun k=>if k=j then v else g k) (W.setCell ⟨w.heap.size+1+1,j,none⟩ (vI iJ v)):=by
 refine⟨(heap_setCell_other _ _ _ _ (by simp;omega)).trans h.b,(heap_setCell_other _ _ _ _ zS).trans h.r,?_,h.old.after (Kept.setCell (X:=fun k=>k<w.heap.size) _ (a:=⟨w.heap.size+1+1,j,none⟩) (by show ¬w.heap.size+1+1<w.heap.size;omega) _) fun _ hk=>hk⟩;rw[<-iA,<-dS _ _ _ _ hj];exact heap_setCell_same _ _ _ _ _ _ h.g
theorem cell(h:OfSt w tb tg z f g W)(j:Nat)(hj:j<4):W.cell? ⟨w.heap.size+1+1,j,none⟩=some (vI iJ (g j))/\W.frozen? ⟨w.heap.size+1+1,j,none⟩=false:=
 ⟨(cell_of_row _ _ _ _ _ _ h.g).trans (dR 4 g j hj),frozen_of_row _ _ _ _ _ h.g⟩
theorem row(h:OfSt w tb tg z f g W)(cs:Array Value):(W.setRow (w.heap.size+1) cs).heap[w.heap.size+1]?=some (.cells cs tg (0,0))/\Old w (W.setRow (w.heap.size+1) cs):=
 ⟨setRow_heap _ _ _ _ _ _ h.r,h.old.after (X:=fun k=>k<w.heap.size) ⟨rfl,rfl,zS,fun k hk=>setRow_other _ _ _ _ zO⟩ fun _ h=>h⟩
end OfSt
def kP(f:nI)(n:Nat):nI:=fun k=>if k<n then fK f k else 0
theorem IR(f:nI)(n:Nat):(fun k=>if k=n then fK f n else kP f n k)=kP f (n+1):=by
 funext k;unfold kP;by_cases h:k=n
 ·subst h;rw[if_pos rfl,if_pos zO]
 ·rw[if_neg h];by_cases h2:k<n
  ·rw[if_pos h2,if_pos zO]
  ·rw[if_neg h2,if_neg zO]
theorem aHN(f:nI)(hf:aD f)(w:World):
  Calls zP 182 #[.agg (aA 16 (blk f))] w fun e w'=>e=rJ (.agg (aA 4 (blk (fK f))))/\Old w w':=by
 have hS:∀(b:Nat) (w:World),(Instr.sliceAt 43 (.pointer (some ⟨b,0,none⟩)) none none none).run zP w=.ok (.slice (some ⟨b,0,none⟩) 16 16) w:=fun b w=>by
  have hl:zP.arrayLen 43=16:=zK;have hz:(sizeOf (zP.elem 43)).run zP w=.ok 1 w:=zK;rw[run_sliceAt_array_all w 43 _ zK,hz,hl];rfl
 have HF:=zH hf;clear hf;have H16:Hid (jF (bF (part f 0 16))/\0<=bF (part f 0 16)):=by
  have h:=mP _ (jS HF.o 0 16);exact⟨⟨zO,h.2⟩,h.1⟩
 have H4:Hid (∀k,jF (bF (part f (4*k) 4))/\0<=bF (part f (4*k) 4)):=fun k=>by
  have h:=mP _ (jS HF.o (4*k) 4);exact⟨⟨zO,h.2⟩,h.1⟩
 have HP:Hid (∀(W:World) (b a n cap:Nat),W.heap[b]?=some (.cells (aA 16 (blk f)) 43 (0,0))->a+n<=16->n<=cap->cap<=16 ->
   Calls zP 217 #[.slice (some ⟨b,a,none⟩) n cap] W fun e w'=>e=rJ (vI iJ (bF (part f a n)))/\W=w'):=fun W b a n cap hb h1 h2 h3=>
  tD _ _ _ _ W (tM hb a n cap h1 h2 h3) (jS HF.o a n) zO
 go_enter func182,ntmps182
 go_wp2_with fail
 refine(HP.o _ _ 0 16 16 (heap_alloc2_old w _ _) zO zO zO).mono ?_;rintro e w1 ⟨rfl,rfl⟩
 go_wp2_with fail
 obtain⟨z,hz⟩:∃z:Array Value,z=#[vI iJ 0,vI iJ 0,vI iJ 0,vI iJ 0]:=⟨_,rfl⟩
 have hzs:z.size=4:=by rw[hz];rfl
 have hz0:z=aA 4 (blk (kP f 0)):=by rw[hz];rfl
 rw[<-hz];clear hz;have hst:OfSt w 43 44 z f (kP f 0) (((w.alloc (.cells (aA 16 (blk f)) 43)).alloc (.cells z 44)).alloc (.cells z 44)):=by
  refine⟨?_,?_,?_,((Old.alloc w _).alloc' _).alloc' _⟩
  ·exact(Below.heap_alloc _ _ _ (by simp;omega)).trans (heap_alloc2_old w _ _)
  ·exact(Below.heap_alloc _ _ _ zS).trans (heap_alloc2_new w _ _)
  ·have:=heap_alloc_new ((w.alloc (.cells (aA 16 (blk f)) 43)).alloc (.cells z 44)) (.cells z 44);rw[World.size_alloc,World.size_alloc]at this;rw[<-hz0];exact this
 have H0:=zH hst;clear hst hz0
 go_loopw [8] (fun i wr=>∃k:Nat,k<=4/\i=vI iJ k/\Hid (OfSt w 43 44 z f (kP f k) wr)) (fun i _=>4-(intOf i).toNat)
 case atStart=>exact⟨0,zO,rfl,H0⟩
 case round=>
  obtain⟨k,hk,rfl,hs⟩:=hrel;clear H0;by_cases hlt:k<4
  ·have k1:(0:Int)<=k:=zO;have k2:(k:Int)<4:=zO;obtain⟨b4,n4⟩:=H4.o k;obtain⟨b16,n16⟩:=H16.o;have HQ:=zH (PD w.heap.size k _ _ wr hlt hs.o.b (aB _ _));have HPk:=zH (HP.o wr w.heap.size (4*k) 4 (16-4*k) hs.o.b zO zO zO);have HM:=zH (aCy _ _ wr n4 b4.2 n16 b16.2);obtain⟨c1,c2⟩:=hs.o.cell k hlt;have hn:Hid (OfSt w 43 44 z f (kP f (k+1)) (wr.setCell ⟨w.heap.size+1+1,k,none⟩ (vI iJ (jG (bF (part f (4*k) 4)) (bF (part f 0 16)))))):=by
    have h:=hs.o.set k hlt (fK f k);rw[IR]at h;exact h
   clear hs b4 n4 b16 n16 HP H4 H16;generalize bF (part f (4*k) 4)=p at *;generalize bF (part f 0 16)=t at *
   go_wp2_with fail
   refine HQ.o.mono ?_;rintro e w1 ⟨rfl,rfl⟩
   go_wp2_with fail
   refine HPk.o.mono ?_;rintro e w1 ⟨rfl,rfl⟩
   go_wp2_with fail
   refine HM.o.mono ?_;rintro e w1 ⟨rfl,rfl⟩
   go_wp2_with fail
   go_roundw
   case rel=>exact⟨k+1,zO,by go_num,hn⟩
   case measure=>exact zM
  ·obtain rfl:k=4:=zO;have hg:aA 4 (blk (kP f 4))=aA 4 (blk (fK f)):=kA _ _ _ fun k hk=>by unfold blk kP;rw[if_pos hk]
   have Hg:=zH hs.o.g;rw[hg]at Hg;have Hr:=zH hs.o.r;have Hd:=zH (hs.o.row (aA 4 (blk (fK f))));have Hs:Hid ((zP.info? 44).map (·.size)=some 4):=zH zK;have H1:Hid ((aA 4 (blk (fK f))).all (·.oneCell')=true):=zH (bN _ _);clear hs hg;have hsz:=aB 4 (blk (fK f))
   go_wp2_with (first | (with_reducible refine wpList_load_row rfl 44 _ rfl (w.heap.size+1+1) rfl 44 (aA 4 (blk (fK f))) (0,0) _ Hg.o underlying44 rfl (by rw[hsz];exact Hs.o) ?_) | (with_reducible refine wpList_store_row rfl 44 _ _ rfl (w.heap.size+1) (aA 4 (blk (fK f))) rfl rfl 44 _ Hr.o (by rw[hsz];exact Hs.o) (by rw[hsz];exact hzs) H1.o ?_))
   exact bodyPost_ret (results_cell_row rfl _ _ (w.heap.size+1) 44 (aA 4 (blk (fK f))) (0,0) _ rfl Hd.o.1 underlying44 rfl (by rw[hsz];exact Hs.o)) rfl ⟨rfl,Hd.o.2⟩
def dW(g:nI):Prop:=∀k,k<4->0<=g k/\g k<=23
instance (g:nI):Decidable (dW g):=by unfold dW;infer_instance
theorem sD(g:nI)(w:World):
  Calls zP 205 #[.agg (aA 4 (blk g))] w fun e w'=>e=rJ (.bool (decide (dW g)))/\Old w w':=by
 have Hs:Hid ((zP.info? 261).map (·.size)=some 4):=zH zK;have hb:Hid ((w.alloc (.cells (aA 4 (blk g)) 261)).heap[w.heap.size]?=some (.cells (aA 4 (blk g)) 261 (0,0))):=zH (heap_alloc_new _ _);go_enter func205,ntmps205
 go_wp2_with (with_reducible refine wpList_load_row rfl 261 _ rfl w.heap.size rfl 261 (aA 4 (blk g)) (0,0) _ hb.o underlying261 rfl (by rw[aB];exact Hs.o) ?_)
 go_loop [6] (fun i=>∃k:Nat,k<=4/\i=vI iJ k/\Hid (∀j,j<k->0<=g j/\g j<=23)) (fun i=>4-(intOf i).toNat)
 case atStart=>exact⟨0,zO,rfl,fun j hj=>zO⟩
 case round=>
  obtain⟨k,hk,rfl,hj⟩:=hrel;by_cases hlt:k<4
  ·have i1:(0:Int)<=k:=zO;have i2:(k:Int)<4:=zO;have hat:∀w:World,(Instr.index 261 (.agg (aA 4 (blk g))) (vI iJ k)).run zP w=.ok (vI iJ (g k)) w:=fun w=>aZ underlying261 underlying3 (fun _=>zK) g k hlt w;by_cases h1:g k<0
   ·have hf:decide (dW g)=false:=by
     rw[decide_eq_false_iff_not];intro h;have:=(h k hlt).1;omega
    have HF:=zH hf;clear hf;generalize g k=x at *;go_wp2;go_ret;exact⟨by rw[HF.o];rfl,Old.alloc _ _⟩
   ·by_cases h2:23<g k
    ·have hf:decide (dW g)=false:=by
      rw[decide_eq_false_iff_not];intro h;have:=(h k hlt).2;omega
     have HF:=zH hf;clear hf;have h1':0<=g k:=zO;generalize g k=x at *;go_wp2;go_ret;exact⟨by rw[HF.o];rfl,Old.alloc _ _⟩
    ·have hn:Hid (∀j,j<k+1->0<=g j/\g j<=23):=fun j hj'=>by
      rcases Nat.lt_succ_iff_lt_or_eq.1 hj' with h | rfl
      ·exact hj.o j h
      ·omega
     have h1':0<=g k:=zO;have h2':g k<=23:=zO;clear h1 h2;generalize g k=x at *;go_wp2;go_round
     case rel=>exact⟨k+1,zO,by go_num,hn⟩
     case measure=>exact zM
  ·obtain rfl:k=4:=zO;have hf:decide (dW g)=true:=decide_eq_true hj.o;have HF:=zH hf;clear hf hj;go_wp2;go_ret;exact⟨by rw[HF.o];rfl,Old.alloc _ _⟩
def wZ(i:Int):Int:=if 0<=i/\i<16 then i/4 else 0
theorem aDj(i:Int)(w:World)(h1:-9223372036854775808<=i)(h2:i<=9223372036854775807):
  Calls zP 154 #[vI iJ i] w fun e w'=>e=rJ (vI iJ (wZ i))/\w=w':=by
 by_cases a:i<0
 ·have e:wZ i=0:=by unfold wZ;rw[if_neg zO]
  rw[e];go_enter func154,ntmps154;go_wp2;go_ret;exact⟨rfl,rfl⟩
 ·have a':0<=i:=zO;clear a;by_cases b:16<=i
  ·have e:wZ i=0:=by unfold wZ;rw[if_neg zO]
   rw[e];go_enter func154,ntmps154;go_wp2;go_ret;exact⟨rfl,rfl⟩
  ·have b':i<16:=zO;have e:wZ i=i/4:=by unfold wZ;rw[if_pos ⟨a',b'⟩]
   have q1:wrap64 (i.tdiv 4)=i/4:=by rw[Int.tdiv_eq_ediv_of_nonneg a'];exact IntWalk.wrap64_in _ zO
   rw[e];clear b e;go_enter func154,ntmps154;go_wp2;go_ret;exact⟨rfl,rfl⟩
theorem kZ(k m:Nat)(w:World)(hk:k<16)(hm:k/4=m):
  Calls zP 154 #[vI iJ k] w fun e w'=>e=rJ (vI iJ m)/\w=w':=by
 refine(aDj k w zO zO).mono ?_;rintro e w' ⟨rfl,h⟩;exact⟨bT (by unfold wZ;rw[if_pos zO];omega),h⟩
def jO(q s:Int):Int:=wrap64 (q*pw s.toNat)
def bK(v s:Int):Int:=kB v (pw s.toNat)
def gH(φ:Int->Int->Int)(f s:nI):nI:=fun k=>φ (f k) (s (k/4))
def bE(φ:Int->Int->Int)(f s:nI):nI:=if dW s then gH φ f s else fun _=>0
theorem XK(q s:Int)(w:World)(h0:0<=s)(h1:s<=23):
  Calls zP 157 #[vI iJ q,vI iJ s] w fun e w'=>e=rJ (vI iJ (jO q s))/\Old w w':=by
 obtain⟨n,rfl⟩:∃n:Nat,s=n:=⟨s.toNat,zO⟩
 have HS:=zH (aBI n w zO);unfold jO;rw[Int.toNat_natCast];generalize pw n=p at *;go_enter func157,ntmps157
 go_wp2_with fail
 refine HS.o.mono ?_;rintro e w' ⟨rfl,rfl⟩;go_wp2;go_ret;exact⟨rfl,Old.refl _⟩
theorem YB(v s:Int)(w:World)(h0:0<=s)(h1:s<=23)(h2:-9223372036854775808<=v)(h3:v<=9223372036854775807):
  Calls zP 256 #[vI iJ v,vI iJ s] w fun e w'=>e=rJ (vI iJ (bK v s))/\Old w w':=by
 refine(aCS v s w h0 zO h2 h3).mono ?_;rintro e w' ⟨rfl,n,rfl⟩;exact⟨rfl,(Old.refl w).drewN _⟩
structure ToldSt(w:World)(tb ts:TypeId)(z:Array Value)(g s:nI)(W:World):Prop where
 b:W.heap[w.heap.size]?=some (.cells (aA 16 (blk g)) tb (0,0))
 s:W.heap[w.heap.size+1]?=some (.cells (aA 4 (blk s)) ts (0,0))
 r:W.heap[w.heap.size+1+1]?=some (.cells z tb (0,0))
 old:Old w W
namespace ToldSt
variable {w W W':World} {tb ts:TypeId} {z:Array Value} {g s:nI}
theorem keep(h:ToldSt w tb ts z g s W)(k:Old W W'):ToldSt w tb ts z g s W':=
 ⟨(k.block _ (lt_of_block h.b)).trans h.b,(k.block _ (lt_of_block h.s)).trans h.s,(k.block _ (lt_of_block h.r)).trans h.r,h.old.trans k⟩
theorem set(h:ToldSt w tb ts z g s W)(j:Nat)(hj:j<16)(v:Int):ToldSt w tb ts z (fun k=>if k=j then v else g k) s (W.setCell ⟨w.heap.size,j,none⟩ (vI iJ v)):=by
 refine⟨?_,(heap_setCell_other _ _ _ _ zS).trans h.s,(heap_setCell_other _ _ _ _ (by simp;omega)).trans h.r,h.old.after (Kept.setCell (X:=fun k=>k<w.heap.size) _ (a:=⟨w.heap.size,j,none⟩) (by show ¬w.heap.size<w.heap.size;omega) _) fun _ hk=>hk⟩;rw[<-iA,<-dS _ _ _ _ hj];exact heap_setCell_same _ _ _ _ _ _ h.b
theorem cell(h:ToldSt w tb ts z g s W)(j:Nat)(hj:j<16):W.cell? ⟨w.heap.size,j,none⟩=some (vI iJ (g j))/\W.frozen? ⟨w.heap.size,j,none⟩=false:=
 ⟨(cell_of_row _ _ _ _ _ _ h.b).trans (dR 16 g j hj),frozen_of_row _ _ _ _ _ h.b⟩
theorem scale(h:ToldSt w tb ts z g s W)(j:Nat)(hj:j<4):W.cell? ⟨w.heap.size+1,j,none⟩=some (vI iJ (s j)):=
 (cell_of_row _ _ _ _ _ _ h.s).trans (dR 4 s j hj)
theorem row(h:ToldSt w tb ts z g s W)(cs:Array Value):(W.setRow (w.heap.size+1+1) cs).heap[w.heap.size+1+1]?=some (.cells cs tb (0,0))/\Old w (W.setRow (w.heap.size+1+1) cs):=
 ⟨setRow_heap _ _ _ _ _ _ h.r,h.old.after (X:=fun k=>k<w.heap.size) ⟨rfl,rfl,zS,fun k hk=>setRow_other _ _ _ _ zO⟩ fun _ h=>h⟩
end ToldSt
def nU(φ:Int->Int->Int)(f s:nI)(n:Nat):nI:=fun k=>if k<n then gH φ f s k else f k
theorem wC(φ:Int->Int->Int)(f s:nI)(n:Nat):(fun k=>if k=n then φ (f n) (s (n/4)) else nU φ f s n k)=nU φ f s (n+1):=by
 funext k;unfold nU gH;by_cases h:k=n
 ·subst h;rw[if_pos rfl,if_pos zO]
 ·rw[if_neg h];by_cases h2:k<n
  ·rw[if_pos h2,if_pos zO]
  ·rw[if_neg h2,if_neg zO]
theorem nP(w:World)(tb ts:TypeId)(z:Array Value)(f s:nI):ToldSt w tb ts z f s (((w.alloc (.cells (aA 16 (blk f)) tb)).alloc (.cells (aA 4 (blk s)) ts)).alloc (.cells z tb)):=by
 refine⟨?_,?_,?_,((Old.alloc w _).alloc' _).alloc' _⟩
 ·exact(Below.heap_alloc _ _ _ (by simp;omega)).trans (heap_alloc2_old w _ _)
 ·exact(Below.heap_alloc _ _ _ zS).trans (heap_alloc2_new w _ _)
 ·have:=heap_alloc_new ((w.alloc (.cells (aA 16 (blk f)) tb)).alloc (.cells (aA 4 (blk s)) ts)) (.cells z tb);rw[World.size_alloc,World.size_alloc]at this;exact this
theorem aAt(f s:nI)(w:World)(hf:aD f):
  Calls zP 156 #[.agg (aA 16 (blk f)),.agg (aA 4 (blk s)),.func (.func 256) #[] #[]] w fun e w'=>e=rJ (.agg (aA 16 (blk (bE bK f s))))/\Old w w':=by
 have Hs4:Hid ((zP.info? 261).map (·.size)=some 4):=zH zK;have Hb16:Hid ((zP.info? 43).map (·.size)=some 16):=zH zK;have HW:Hid (∀(v t:Int) (w:World),0<=t->t<=23->-9223372036854775808<=v->v<=9223372036854775807->Calls zP 256 #[vI iJ v,vI iJ t] w fun e w'=>e=rJ (vI iJ (bK v t))/\Old w w'):=zH fun v t w h0 h1 h2 h3=>YB v t w h0 h1 h2 h3;have HF:=zH hf;have hst:=nP w 43 261 #[vI iJ 0,vI iJ 0,vI iJ 0,vI iJ 0,vI iJ 0,vI iJ 0,vI iJ 0,vI iJ 0,vI iJ 0,vI iJ 0,vI iJ 0,vI iJ 0,vI iJ 0,vI iJ 0,vI iJ 0,vI iJ 0] f s;have H0:=zH hst;have HR:=zH (fun w=>sD s w);clear hst hf;have z1:Hid ((#[vI iJ 0,vI iJ 0,vI iJ 0,vI iJ 0,vI iJ 0,vI iJ 0,vI iJ 0,vI iJ 0,vI iJ 0,vI iJ 0,vI iJ 0,vI iJ 0,vI iJ 0,vI iJ 0,vI iJ 0,vI iJ 0]:Array Value).size=16):=zH rfl;by_cases r:dW s
 ·have e:bE bK f s=gH bK f s:=by unfold bE;rw[if_pos r]
  rw[e];clear e;rw[decide_eq_true r]at HR;have HP:=zH r;clear r;go_enter func156,ntmps156
  go_wp2_with (with_reducible refine wpList_load_row rfl 261 _ rfl (w.heap.size+1) rfl 261 (aA 4 (blk s)) (0,0) _ H0.o.s underlying261 rfl (by rw[aB];exact Hs4.o) ?_)
  refine(HR.o _).mono ?_;rintro e w1 ⟨rfl,ho⟩;have H1:=zH (H0.o.keep ho);clear ho H0 HR;obtain⟨z,hz⟩:∃z:Array Value,z=#[vI iJ 0,vI iJ 0,vI iJ 0,vI iJ 0,vI iJ 0,vI iJ 0,vI iJ 0,vI iJ 0,vI iJ 0,vI iJ 0,vI iJ 0,vI iJ 0,vI iJ 0,vI iJ 0,vI iJ 0,vI iJ 0]:=⟨_,rfl⟩
  rw[<-hz]at H1 z1;clear hz
  go_wp2_with (with_reducible refine wpList_load_row rfl 43 _ rfl w.heap.size rfl 43 (aA 16 (blk f)) (0,0) _ H1.o.b underlying43 rfl (by rw[aB];exact Hb16.o) ?_)
  go_loopw [14] (fun i wr=>∃k:Nat,k<=16/\i=vI iJ k/\Hid (ToldSt w 43 261 z (nU bK f s k) s wr)) (fun i _=>16-(intOf i).toNat)
  case atStart=>exact⟨0,zO,rfl,H1⟩
  case round=>
   obtain⟨k,hk,rfl,hs⟩:=hrel;clear H1;by_cases hlt:k<16
   ·have k1:(0:Int)<=k:=zO;have k2:(k:Int)<16:=zO;have hat:∀w:World,(Instr.index 43 (.agg (aA 16 (blk f))) (vI iJ k)).run zP w=.ok (vI iJ (f k)) w:=fun w=>aZ underlying43 underlying2 (fun _=>zK) f k hlt w;have hsu:=wC bK f s k;obtain⟨m,hm⟩:=zF (k/4);have HB:=zH (fun w=>kZ k m w hlt hm);rw[hm]at hsu;have m0:(0:Int)<=m:=zO;have m1:(m:Int)<4:=zO;clear hm;have hsc:=hs.o.scale m zO;obtain⟨t0,t1⟩:=HP.o m zO;obtain⟨v0,v1⟩:=HF.o k;have HC:=zH (fun w=>HW.o (f k) (s m) w t0 t1 v0 v1);have HS:=zH hsu;clear hsu HW HF HP;generalize f k=x at *;generalize s m=t at *
    go_wp2_with fail
    refine(HB.o _).mono ?_;rintro e w2 ⟨rfl,rfl⟩
    go_wp2_with fail
    refine(HC.o _).mono ?_;rintro e w3 ⟨rfl,ho⟩;have h3:=hs.o.keep ho;obtain⟨c1,c2⟩:=h3.cell k hlt;have h4:=h3.set k hlt (bK x t);rw[HS.o]at h4;have H4:=zH h4;clear h3 h4 ho hs hsc HB HC HS;generalize bK x t=y at *
    go_wp2_with fail
    go_roundw
    case rel=>exact⟨k+1,zO,by go_num,H4⟩
    case measure=>exact zM
   ·obtain rfl:k=16:=zO;have hg:aA 16 (blk (nU bK f s 16))=aA 16 (blk (gH bK f s)):=kA _ _ _ fun k hk=>by unfold blk nU;rw[if_pos hk]
    have Hg:=zH hs.o.b;rw[hg]at Hg;have Hr:=zH hs.o.r;have Hd:=zH (hs.o.row (aA 16 (blk (gH bK f s))));have H1:Hid ((aA 16 (blk (gH bK f s))).all (·.oneCell')=true):=zH (bN _ _);clear hs hg HW HF HP;have hsz:=aB 16 (blk (gH bK f s))
    go_wp2_with (first | (with_reducible refine wpList_load_row rfl 43 _ rfl w.heap.size rfl 43 (aA 16 (blk (gH bK f s))) (0,0) _ Hg.o underlying43 rfl (by rw[aB];exact Hb16.o) ?_) | (with_reducible refine wpList_store_row rfl 43 _ _ rfl (w.heap.size+1+1) (aA 16 (blk (gH bK f s))) rfl rfl 43 _ Hr.o (by rw[hsz];exact Hb16.o) (by rw[hsz];exact z1.o) H1.o ?_))
    exact bodyPost_ret (results_cell_row rfl _ _ (w.heap.size+1+1) 43 (aA 16 (blk (gH bK f s))) (0,0) _ rfl Hd.o.1 underlying43 rfl (by rw[hsz];exact Hb16.o)) rfl ⟨rfl,Hd.o.2⟩
 ·have e:bE bK f s=fun _=>0:=by unfold bE;rw[if_neg r]
  rw[e,gI];clear e;rw[decide_eq_false r]at HR;clear r HW HF;go_enter func156,ntmps156
  go_wp2_with (with_reducible refine wpList_load_row rfl 261 _ rfl (w.heap.size+1) rfl 261 (aA 4 (blk s)) (0,0) _ H0.o.s underlying261 rfl (by rw[aB];exact Hs4.o) ?_)
  refine(HR.o _).mono ?_;rintro e w1 ⟨rfl,ho⟩;have H1:=H0.o.keep ho;have Hr:=zH H1.r;have Hd:=zH (H1.row (aA 16 (blk fun _=>0)));rw[gI]at Hd;have H2:Hid ((#[vI iJ 0,vI iJ 0,vI iJ 0,vI iJ 0,vI iJ 0,vI iJ 0,vI iJ 0,vI iJ 0,vI iJ 0,vI iJ 0,vI iJ 0,vI iJ 0,vI iJ 0,vI iJ 0,vI iJ 0,vI iJ 0]:Array Value).all (·.oneCell')=true):=zH (by rw[<-gI];exact bN _ _);clear ho H0 HR H1;obtain⟨z,hz⟩:∃z:Array Value,z=#[vI iJ 0,vI iJ 0,vI iJ 0,vI iJ 0,vI iJ 0,vI iJ 0,vI iJ 0,vI iJ 0,vI iJ 0,vI iJ 0,vI iJ 0,vI iJ 0,vI iJ 0,vI iJ 0,vI iJ 0,vI iJ 0]:=⟨_,rfl⟩
  rw[<-hz]at Hd Hr z1 H2;have Hz:=zH hz;clear hz
  go_wp2_with (rw[<-Hz.o];with_reducible refine wpList_store_row rfl 43 _ _ rfl (w.heap.size+1+1) z rfl rfl 43 _ Hr.o (by rw[z1.o];exact Hb16.o) rfl H2.o ?_)
  refine bodyPost_ret (results_cell_row rfl _ _ (w.heap.size+1+1) 43 z (0,0) _ rfl Hd.o.1 underlying43 rfl (by rw[z1.o];exact Hb16.o)) rfl ⟨?_,Hd.o.2⟩;rw[Hz.o]
theorem SN(f s:nI)(w:World)(hf:aD f):
  Calls zP 156 #[.agg (aA 16 (blk f)),.agg (aA 4 (blk s)),.func (.func 157) #[] #[]] w fun e w'=>e=rJ (.agg (aA 16 (blk (bE jO f s))))/\Old w w':=by
 have Hs4:Hid ((zP.info? 261).map (·.size)=some 4):=zH zK;have Hb16:Hid ((zP.info? 43).map (·.size)=some 16):=zH zK;have HW:Hid (∀(v t:Int) (w:World),0<=t->t<=23->-9223372036854775808<=v->v<=9223372036854775807->Calls zP 157 #[vI iJ v,vI iJ t] w fun e w'=>e=rJ (vI iJ (jO v t))/\Old w w'):=zH fun v t w h0 h1 h2 h3=>XK v t w h0 h1;have HF:=zH hf;have hst:=nP w 43 261 #[vI iJ 0,vI iJ 0,vI iJ 0,vI iJ 0,vI iJ 0,vI iJ 0,vI iJ 0,vI iJ 0,vI iJ 0,vI iJ 0,vI iJ 0,vI iJ 0,vI iJ 0,vI iJ 0,vI iJ 0,vI iJ 0] f s;have H0:=zH hst;have HR:=zH (fun w=>sD s w);clear hst hf;have z1:Hid ((#[vI iJ 0,vI iJ 0,vI iJ 0,vI iJ 0,vI iJ 0,vI iJ 0,vI iJ 0,vI iJ 0,vI iJ 0,vI iJ 0,vI iJ 0,vI iJ 0,vI iJ 0,vI iJ 0,vI iJ 0,vI iJ 0]:Array Value).size=16):=zH rfl;by_cases r:dW s
 ·have e:bE jO f s=gH jO f s:=by unfold bE;rw[if_pos r]
  rw[e];clear e;rw[decide_eq_true r]at HR;have HP:=zH r;clear r;go_enter func156,ntmps156
  go_wp2_with (with_reducible refine wpList_load_row rfl 261 _ rfl (w.heap.size+1) rfl 261 (aA 4 (blk s)) (0,0) _ H0.o.s underlying261 rfl (by rw[aB];exact Hs4.o) ?_)
  refine(HR.o _).mono ?_;rintro e w1 ⟨rfl,ho⟩;have H1:=zH (H0.o.keep ho);clear ho H0 HR;obtain⟨z,hz⟩:∃z:Array Value,z=#[vI iJ 0,vI iJ 0,vI iJ 0,vI iJ 0,vI iJ 0,vI iJ 0,vI iJ 0,vI iJ 0,vI iJ 0,vI iJ 0,vI iJ 0,vI iJ 0,vI iJ 0,vI iJ 0,vI iJ 0,vI iJ 0]:=⟨_,rfl⟩
  rw[<-hz]at H1 z1;clear hz
  go_wp2_with (with_reducible refine wpList_load_row rfl 43 _ rfl w.heap.size rfl 43 (aA 16 (blk f)) (0,0) _ H1.o.b underlying43 rfl (by rw[aB];exact Hb16.o) ?_)
  go_loopw [14] (fun i wr=>∃k:Nat,k<=16/\i=vI iJ k/\Hid (ToldSt w 43 261 z (nU jO f s k) s wr)) (fun i _=>16-(intOf i).toNat)
  case atStart=>exact⟨0,zO,rfl,H1⟩
  case round=>
   obtain⟨k,hk,rfl,hs⟩:=hrel;clear H1;by_cases hlt:k<16
   ·have k1:(0:Int)<=k:=zO;have k2:(k:Int)<16:=zO;have hat:∀w:World,(Instr.index 43 (.agg (aA 16 (blk f))) (vI iJ k)).run zP w=.ok (vI iJ (f k)) w:=fun w=>aZ underlying43 underlying2 (fun _=>zK) f k hlt w;have hsu:=wC jO f s k;obtain⟨m,hm⟩:=zF (k/4);have HB:=zH (fun w=>kZ k m w hlt hm);rw[hm]at hsu;have m0:(0:Int)<=m:=zO;have m1:(m:Int)<4:=zO;clear hm;have hsc:=hs.o.scale m zO;obtain⟨t0,t1⟩:=HP.o m zO;obtain⟨v0,v1⟩:=HF.o k;have HC:=zH (fun w=>HW.o (f k) (s m) w t0 t1 v0 v1);have HS:=zH hsu;clear hsu HW HF HP;generalize f k=x at *;generalize s m=t at *
    go_wp2_with fail
    refine(HB.o _).mono ?_;rintro e w2 ⟨rfl,rfl⟩
    go_wp2_with fail
    refine(HC.o _).mono ?_;rintro e w3 ⟨rfl,ho⟩;have h3:=hs.o.keep ho;obtain⟨c1,c2⟩:=h3.cell k hlt;have h4:=h3.set k hlt (jO x t);rw[HS.o]at h4;have H4:=zH h4;clear h3 h4 ho hs hsc HB HC HS;generalize jO x t=y at *
    go_wp2_with fail
    go_roundw
    case rel=>exact⟨k+1,zO,by go_num,H4⟩
    case measure=>exact zM
   ·obtain rfl:k=16:=zO;have hg:aA 16 (blk (nU jO f s 16))=aA 16 (blk (gH jO f s)):=kA _ _ _ fun k hk=>by unfold blk nU;rw[if_pos hk]
    have Hg:=zH hs.o.b;rw[hg]at Hg;have Hr:=zH hs.o.r;have Hd:=zH (hs.o.row (aA 16 (blk (gH jO f s))));have H1:Hid ((aA 16 (blk (gH jO f s))).all (·.oneCell')=true):=zH (bN _ _);clear hs hg HW HF HP;have hsz:=aB 16 (blk (gH jO f s))
    go_wp2_with (first | (with_reducible refine wpList_load_row rfl 43 _ rfl w.heap.size rfl 43 (aA 16 (blk (gH jO f s))) (0,0) _ Hg.o underlying43 rfl (by rw[aB];exact Hb16.o) ?_) | (with_reducible refine wpList_store_row rfl 43 _ _ rfl (w.heap.size+1+1) (aA 16 (blk (gH jO f s))) rfl rfl 43 _ Hr.o (by rw[hsz];exact Hb16.o) (by rw[hsz];exact z1.o) H1.o ?_))
    exact bodyPost_ret (results_cell_row rfl _ _ (w.heap.size+1+1) 43 (aA 16 (blk (gH jO f s))) (0,0) _ rfl Hd.o.1 underlying43 rfl (by rw[hsz];exact Hb16.o)) rfl ⟨rfl,Hd.o.2⟩
 ·have e:bE jO f s=fun _=>0:=by unfold bE;rw[if_neg r]
  rw[e,gI];clear e;rw[decide_eq_false r]at HR;clear r HW HF;go_enter func156,ntmps156
  go_wp2_with (with_reducible refine wpList_load_row rfl 261 _ rfl (w.heap.size+1) rfl 261 (aA 4 (blk s)) (0,0) _ H0.o.s underlying261 rfl (by rw[aB];exact Hs4.o) ?_)
  refine(HR.o _).mono ?_;rintro e w1 ⟨rfl,ho⟩;have H1:=H0.o.keep ho;have Hr:=zH H1.r;have Hd:=zH (H1.row (aA 16 (blk fun _=>0)));rw[gI]at Hd;have H2:Hid ((#[vI iJ 0,vI iJ 0,vI iJ 0,vI iJ 0,vI iJ 0,vI iJ 0,vI iJ 0,vI iJ 0,vI iJ 0,vI iJ 0,vI iJ 0,vI iJ 0,vI iJ 0,vI iJ 0,vI iJ 0,vI iJ 0]:Array Value).all (·.oneCell')=true):=zH (by rw[<-gI];exact bN _ _);clear ho H0 HR H1;obtain⟨z,hz⟩:∃z:Array Value,z=#[vI iJ 0,vI iJ 0,vI iJ 0,vI iJ 0,vI iJ 0,vI iJ 0,vI iJ 0,vI iJ 0,vI iJ 0,vI iJ 0,vI iJ 0,vI iJ 0,vI iJ 0,vI iJ 0,vI iJ 0,vI iJ 0]:=⟨_,rfl⟩
  rw[<-hz]at Hd Hr z1 H2;have Hz:=zH hz;clear hz
  go_wp2_with (rw[<-Hz.o];with_reducible refine wpList_store_row rfl 43 _ _ rfl (w.heap.size+1+1) z rfl rfl 43 _ Hr.o (by rw[z1.o];exact Hb16.o) rfl H2.o ?_)
  refine bodyPost_ret (results_cell_row rfl _ _ (w.heap.size+1+1) 43 z (0,0) _ rfl Hd.o.1 underlying43 rfl (by rw[z1.o];exact Hb16.o)) rfl ⟨?_,Hd.o.2⟩;rw[Hz.o]
theorem aAZ(f s:nI)(w:World)(hf:aD f):
  Calls zP 241 #[.agg (aA 16 (blk f)),.agg (aA 4 (blk s))] w fun e w'=>e=rJ (.agg (aA 16 (blk (bE bK f s))))/\Old w w':=by
 have Hs4:Hid ((zP.info? 261).map (·.size)=some 4):=zH zK;have Hb16:Hid ((zP.info? 43).map (·.size)=some 16):=zH zK;have HT:=zH (fun w=>aAt f s w hf);have hst:=nP w 43 261 #[vI iJ 0,vI iJ 0,vI iJ 0,vI iJ 0,vI iJ 0,vI iJ 0,vI iJ 0,vI iJ 0,vI iJ 0,vI iJ 0,vI iJ 0,vI iJ 0,vI iJ 0,vI iJ 0,vI iJ 0,vI iJ 0] f s;have H0:=zH hst;clear hst hf;have z1:Hid ((#[vI iJ 0,vI iJ 0,vI iJ 0,vI iJ 0,vI iJ 0,vI iJ 0,vI iJ 0,vI iJ 0,vI iJ 0,vI iJ 0,vI iJ 0,vI iJ 0,vI iJ 0,vI iJ 0,vI iJ 0,vI iJ 0]:Array Value).size=16):=zH rfl;go_enter func241,ntmps241
 go_wp2_with (first | (with_reducible refine wpList_load_row rfl 43 _ rfl w.heap.size rfl 43 (aA 16 (blk f)) (0,0) _ H0.o.b underlying43 rfl (by rw[aB];exact Hb16.o) ?_) | (with_reducible refine wpList_load_row rfl 261 _ rfl (w.heap.size+1) rfl 261 (aA 4 (blk s)) (0,0) _ H0.o.s underlying261 rfl (by rw[aB];exact Hs4.o) ?_))
 refine(HT.o _).mono ?_;rintro e w1 ⟨rfl,ho⟩;have H1:=H0.o.keep ho;obtain⟨z,hz⟩:∃z:Array Value,z=#[vI iJ 0,vI iJ 0,vI iJ 0,vI iJ 0,vI iJ 0,vI iJ 0,vI iJ 0,vI iJ 0,vI iJ 0,vI iJ 0,vI iJ 0,vI iJ 0,vI iJ 0,vI iJ 0,vI iJ 0,vI iJ 0]:=⟨_,rfl⟩
 rw[<-hz]at H1 z1;have Hr:=zH H1.r;have Hd:=zH (H1.row (aA 16 (blk (bE bK f s))));have H2:Hid ((aA 16 (blk (bE bK f s))).all (·.oneCell')=true):=zH (bN _ _);have hsz:=aB 16 (blk (bE bK f s));clear ho H0 HT H1 hz
 go_wp2_with (with_reducible refine wpList_store_row rfl 43 _ _ rfl (w.heap.size+1+1) (aA 16 (blk (bE bK f s))) rfl rfl 43 _ Hr.o (by rw[hsz];exact Hb16.o) (by rw[hsz];exact z1.o) H2.o ?_)
 exact bodyPost_ret (results_cell_row rfl _ _ (w.heap.size+1+1) 43 (aA 16 (blk (bE bK f s))) (0,0) _ rfl Hd.o.1 underlying43 rfl (by rw[hsz];exact Hb16.o)) rfl ⟨rfl,Hd.o.2⟩
theorem VL(f s:nI)(w:World)(hf:aD f):
  Calls zP 110 #[.agg (aA 16 (blk f)),.agg (aA 4 (blk s))] w fun e w'=>e=rJ (.agg (aA 16 (blk (bE jO f s))))/\Old w w':=by
 have Hs4:Hid ((zP.info? 261).map (·.size)=some 4):=zH zK;have Hb16:Hid ((zP.info? 43).map (·.size)=some 16):=zH zK;have HT:=zH (fun w=>SN f s w hf);have hst:=nP w 43 261 #[vI iJ 0,vI iJ 0,vI iJ 0,vI iJ 0,vI iJ 0,vI iJ 0,vI iJ 0,vI iJ 0,vI iJ 0,vI iJ 0,vI iJ 0,vI iJ 0,vI iJ 0,vI iJ 0,vI iJ 0,vI iJ 0] f s;have H0:=zH hst;clear hst hf;have z1:Hid ((#[vI iJ 0,vI iJ 0,vI iJ 0,vI iJ 0,vI iJ 0,vI iJ 0,vI iJ 0,vI iJ 0,vI iJ 0,vI iJ 0,vI iJ 0,vI iJ 0,vI iJ 0,vI iJ 0,vI iJ 0,vI iJ 0]:Array Value).size=16):=zH rfl;go_enter func110,ntmps110
 go_wp2_with (first | (with_reducible refine wpList_load_row rfl 43 _ rfl w.heap.size rfl 43 (aA 16 (blk f)) (0,0) _ H0.o.b underlying43 rfl (by rw[aB];exact Hb16.o) ?_) | (with_reducible refine wpList_load_row rfl 261 _ rfl (w.heap.size+1) rfl 261 (aA 4 (blk s)) (0,0) _ H0.o.s underlying261 rfl (by rw[aB];exact Hs4.o) ?_))
 refine(HT.o _).mono ?_;rintro e w1 ⟨rfl,ho⟩;have H1:=H0.o.keep ho;obtain⟨z,hz⟩:∃z:Array Value,z=#[vI iJ 0,vI iJ 0,vI iJ 0,vI iJ 0,vI iJ 0,vI iJ 0,vI iJ 0,vI iJ 0,vI iJ 0,vI iJ 0,vI iJ 0,vI iJ 0,vI iJ 0,vI iJ 0,vI iJ 0,vI iJ 0]:=⟨_,rfl⟩
 rw[<-hz]at H1 z1;have Hr:=zH H1.r;have Hd:=zH (H1.row (aA 16 (blk (bE jO f s))));have H2:Hid ((aA 16 (blk (bE jO f s))).all (·.oneCell')=true):=zH (bN _ _);have hsz:=aB 16 (blk (bE jO f s));clear ho H0 HT H1 hz
 go_wp2_with (with_reducible refine wpList_store_row rfl 43 _ _ rfl (w.heap.size+1+1) (aA 16 (blk (bE jO f s))) rfl rfl 43 _ Hr.o (by rw[hsz];exact Hb16.o) (by rw[hsz];exact z1.o) H2.o ?_)
 exact bodyPost_ret (results_cell_row rfl _ _ (w.heap.size+1+1) 43 (aA 16 (blk (bE jO f s))) (0,0) _ rfl Hd.o.1 underlying43 rfl (by rw[hsz];exact Hb16.o)) rfl ⟨rfl,Hd.o.2⟩
def dM(g:nI):nI
 | 0=>0
 | n+1=>dM g n+g n
theorem aBv(g:nI)(n:Nat)(h:∀k,k<n->-1099511627776<=g k/\g k<=1099511627776):-(1099511627776*(n:Int))<=dM g n/\dM g n<=1099511627776*(n:Int):=by
 induction n with
 | zero=>exact⟨by simp[dM],by simp[dM]⟩
 | succ n ih=>
  have h1:=ih fun k hk=>h k zO;have h2:=h n zO;unfold dM;omega
theorem aCO(g:nI)(w:World)(hg:∀k,k<4->-1099511627776<=g k/\g k<=1099511627776):
  Calls zP 248 #[.agg (aA 4 (blk g))] w fun e w'=>e=rJ (vI iJ (4*dM g 4))/\Old w w':=by
 have Hw4:Hid ((zP.info? 44).map (·.size)=some 4):=zH zK;have hb:Hid ((w.alloc (.cells (aA 4 (blk g)) 44)).heap[w.heap.size]?=some (.cells (aA 4 (blk g)) 44 (0,0))):=zH (heap_alloc_new _ _);have HG:=zH hg;have HB:=zH (fun n (hn:n<=4)=>aBv g n fun k hk=>hg k zO);clear hg;go_enter func248,ntmps248
 go_wp2_with (with_reducible refine wpList_load_row rfl 44 _ rfl w.heap.size rfl 44 (aA 4 (blk g)) (0,0) _ hb.o underlying44 rfl (by rw[aB];exact Hw4.o) ?_)
 go_loop [3,7] (fun s i=>∃k:Nat,k<=4/\i=vI iJ k/\s=vI iJ (dM g k)) (fun _ i=>4-(intOf i).toNat)
 case atStart=>exact⟨0,zO,rfl,rfl⟩
 case round=>
  obtain⟨k,hk,rfl,rfl⟩:=hrel;obtain⟨s0,s1⟩:=HB.o k hk;by_cases hlt:k<4
  ·have i1:(0:Int)<=k:=zO;have i2:(k:Int)<4:=zO;have hat:∀w:World,(Instr.index 44 (.agg (aA 4 (blk g))) (vI iJ k)).run zP w=.ok (vI iJ (g k)) w:=fun w=>aZ underlying44 underlying3 (fun _=>zK) g k hlt w;have hsu:dM g (k+1)=dM g k+g k:=rfl;have HS:=zH hsu;obtain⟨g0,g1⟩:=HG.o k hlt;clear hsu HB HG;generalize dM g k=s at *;generalize g k=x at *;have q1:wrap64 (s+x)=s+x:=IntWalk.wrap64_in _ zO;go_wp2;go_round
   case rel=>exact⟨k+1,zO,by go_num,by rw[HS.o]⟩
   case measure=>exact zM
  ·obtain rfl:k=4:=zO;obtain⟨s,hs⟩:=zF (dM g 4);have Hs:=zH hs;rw[hs]at s0 s1 |-;clear HB HG hs;have q1:wrap64 (4*s)=4*s:=IntWalk.wrap64_in _ zO;go_wp2;go_ret;exact⟨by rw[Hs.o];rfl,Old.alloc _ _⟩
structure dH where
 lo:Nat
 hi:Nat
 tn:Nat
 h1:lo<16
 h2:hi<16
 h3:lo≠hi
 h4:tn<8
def dH.val(x:dH):Value:=.agg #[vI iJ x.lo,vI iJ x.hi,vI iJ x.tn]
def apart(r:Nat):Nat:=2 ^ r
theorem aIs(r i:Nat):(3*i+5*r)%8<8:=Nat.mod_lt _ zD
def JP(r i:Nat)(h:i+apart r<16):dH:=
 ⟨i,i+apart r,(3*i+5*r)%8,zO,h,by have:0<apart r:=Nat.two_pow_pos r;omega,aIs r i⟩
def XJ(r i:Nat):Option dH:=if h:i/apart r%2=0/\i+apart r<16 then some (JP r i h.2) else none
def kN(r n:Nat):List dH:=(List.range n).filterMap (XJ r)
theorem XU(r n:Nat)(h:n/apart r%2=0)(h2:n+apart r<16):kN r (n+1)=kN r n ++ [JP r n h2]:=by
 unfold kN;rw[List.range_succ,List.filterMap_append,List.filterMap_cons,List.filterMap_nil];unfold XJ;rw[dif_pos ⟨h,h2⟩]
theorem aCW(r n:Nat)(h:¬n/apart r%2=0):kN r (n+1)=kN r n:=by
 unfold kN;rw[List.range_succ,List.filterMap_append,List.filterMap_cons,List.filterMap_nil];unfold XJ;rw[dif_neg (fun e=>h e.1),List.append_nil]
theorem aHI(r:Nat)(hr:r<4)(i:Nat)(hi:i<16)(h:i/apart r%2=0):i+apart r<16:=by
 revert i;rcases(by omega:r=0\/r=1\/r=2\/r=3) with rfl | rfl | rfl | rfl <;> decide
def CS(x y:dH):Prop:=x.lo≠y.lo/\x.lo≠y.hi/\x.hi≠y.lo/\x.hi≠y.hi
instance (x y:dH):Decidable (CS x y):=by unfold CS;infer_instance
theorem wV(r:Nat)(hr:r<4):(kN r 16).Pairwise CS:=by
 rcases(by omega:r=0\/r=1\/r=2\/r=3) with rfl | rfl | rfl | rfl <;> decide +kernel
def bP(f:nI)(x:dH):nI:=fun k=>
 if k=x.hi then bA (f x.lo) (f x.hi) (aS x.tn) (aT x.tn) else if k=x.lo then bB (f x.lo) (f x.hi) (aS x.tn) (aT x.tn) else f k
def dG(f:nI)(x:dH):nI:=fun k=>
 if k=x.hi then bW (f x.lo) (f x.hi) (aS x.tn) (aT x.tn) else if k=x.lo then cV (f x.lo) (f x.hi) (aS x.tn) (aT x.tn) else f k
theorem YH(f:nI)(x:dH):nR (nR (blk f) x.lo (vI iJ (bB (f x.lo) (f x.hi) (aS x.tn) (aT x.tn)))) x.hi (vI iJ (bA (f x.lo) (f x.hi) (aS x.tn) (aT x.tn)))=blk (bP f x):=by
 rw[iA,iA];rfl
theorem ZX(f:nI)(x:dH):nR (nR (blk f) x.lo (vI iJ (cV (f x.lo) (f x.hi) (aS x.tn) (aT x.tn)))) x.hi (vI iJ (bW (f x.lo) (f x.hi) (aS x.tn) (aT x.tn)))=blk (dG f x):=by
 rw[iA,iA];rfl
def mE(r:Nat)(f:nI):nI:=(kN r 16).foldl bP f
def ZT(r:Nat)(f:nI):nI:=(kN r 16).foldl dG f
def mF:Nat->(nI)->Nat->Int
 | 0,f=>f
 | n+1,f=>mE n (mF n f)
def iC:Nat->(nI)->Nat->Int
 | 0,f=>f
 | n+1,f=>ZT (3-n) (iC n f)
theorem aCv{f:nI}(h:aD f)(x:dH):aD (bP f x):=by
 intro k;unfold bP;split
 ·exact fT _
 ·split
  ·exact fT _
  ·exact h k
theorem MI:∀(l:List dH) {f:nI},aD f->aD (l.foldl bP f)
 | [],_,h=>h
 | x :: l,_,h=>MI l (aCv h x)
theorem xR(n:Nat){f:nI}(h:aD f):aD (mF n f):=by
 induction n with
 | zero=>exact h
 | succ n ih=>exact MI _ ih
theorem aBL{f:nI}(h:aD f)(x:dH):dG (bP f x) x=f:=by
 have e:=pY (f x.lo) (f x.hi) (aS x.tn) (aT x.tn) (h x.lo).1 (h x.lo).2 (h x.hi).1 (h x.hi).2;have l1:bP f x x.lo=bB (f x.lo) (f x.hi) (aS x.tn) (aT x.tn):=by unfold bP;rw[if_neg x.h3,if_pos rfl]
 have l2:bP f x x.hi=bA (f x.lo) (f x.hi) (aS x.tn) (aT x.tn):=by unfold bP;rw[if_pos rfl]
 funext k;unfold dG;rw[l1,l2,e.1,e.2];split
 ·rename_i hk;rw[hk]
 ·rename_i hk
  split
  ·rename_i hk2;rw[hk2]
  ·rename_i hk2
   unfold bP;rw[if_neg hk,if_neg hk2]
theorem RR(g:nI){x y:dH}(h:CS x y):dG (bP g y) x=bP (dG g x) y:=by
 obtain⟨h1,h2,h3,h4⟩:=h;have a1:bP g y x.lo=g x.lo:=by unfold bP;rw[if_neg h2,if_neg h1]
 have a2:bP g y x.hi=g x.hi:=by unfold bP;rw[if_neg h4,if_neg h3]
 have b1:dG g x y.lo=g y.lo:=by unfold dG;rw[if_neg (Ne.symm h3),if_neg (Ne.symm h1)]
 have b2:dG g x y.hi=g y.hi:=by unfold dG;rw[if_neg (Ne.symm h4),if_neg (Ne.symm h2)]
 funext k
 show (if k=x.hi then bW (bP g y x.lo) (bP g y x.hi) (aS x.tn) (aT x.tn) else if k=x.lo then cV (bP g y x.lo) (bP g y x.hi) (aS x.tn) (aT x.tn) else bP g y k) =
  (if k=y.hi then bA (dG g x y.lo) (dG g x y.hi) (aS y.tn) (aT y.tn) else if k=y.lo then bB (dG g x y.lo) (dG g x y.hi) (aS y.tn) (aT y.tn) else dG g x k)
 rw[a1,a2,b1,b2];unfold bP dG;by_cases c1:k=x.hi
 ·rw[if_pos c1,if_neg (fun e=>h4 (c1.symm.trans e)),if_neg (fun e=>h3 (c1.symm.trans e)),if_pos c1]
 ·rw[if_neg c1];by_cases c2:k=x.lo
  ·rw[if_pos c2,if_neg (fun e=>h2 (c2.symm.trans e)),if_neg (fun e=>h1 (c2.symm.trans e)),if_neg c1,if_pos c2]
  ·rw[if_neg c2,if_neg c1,if_neg c2]
theorem wA:∀(l:List dH) (g:nI) (x:dH),(∀y∈l,CS x y)->dG (l.foldl bP g) x=l.foldl bP (dG g x)
 | [],_,_,_=>rfl
 | y :: l,g,x,h=>by
  rw[List.foldl_cons,wA l _ x (fun z hz=>h z (by simp[hz])),RR g (h y zS),List.foldl_cons]
theorem MH:∀(l:List dH) (f:nI),l.Pairwise CS->aD f->l.foldl dG (l.foldl bP f)=f
 | [],_,_,_=>rfl
 | x :: l,f,h,hf=>by
  obtain⟨h1,h2⟩:=List.pairwise_cons.1 h;rw[List.foldl_cons,List.foldl_cons,wA l _ x h1,aBL hf,MH l f h2 hf]
theorem tV(r:Nat)(hr:r<4){f:nI}(h:aD f):ZT r (mE r f)=f:=MH _ f (wV r hr) h
theorem aGc{f:nI}(h:aD f):iC 4 (mF 4 f)=f:=by
 show ZT 0 (ZT 1 (ZT 2 (ZT 3 (mE 3 (mE 2 (mE 1 (mE 0 f)))))))=f;have i1:aD (mE 0 f):=xR 1 h;have i2:aD (mE 1 (mE 0 f)):=xR 2 h;have i3:aD (mE 2 (mE 1 (mE 0 f))):=xR 3 h;rw[tV 3 zD i3,tV 2 zD i2,tV 1 zD i1,tV 0 zD h]
def vR(M:Int)(f:nI):Prop:=∀k,-M<=f k/\f k<=M
theorem TL{f:nI}{M:Int}(hM:M<=4398046511104)(x:dH)(h1:-M<=f x.lo/\f x.lo<=M)(h2:-M<=f x.hi/\f x.hi<=M):
  (-(3*M+4)<=bP f x x.lo/\bP f x x.lo<=3*M+4)/\(-(3*M+4)<=bP f x x.hi/\bP f x x.hi<=3*M+4):=by
 obtain⟨p0,p1,u0,u1⟩:=LB x.tn x.h4;have e:=OG (f x.lo) (f x.hi) (aS x.tn) (aT x.tn) M h1.1 h1.2 h2.1 h2.2 p0 zO u0 u1 hM;have n:=FW (f x.lo) (f x.hi) (aS x.tn) (aT x.tn) M h1.1 h1.2 h2.1 h2.2 p0 p1 u0 u1;unfold bP;rw[if_neg x.h3,if_pos rfl,if_pos rfl,e.1,e.2];exact n
theorem CV{M:Int}(hM:M<=4398046511104):∀(l:List dH) (f:nI),l.Pairwise CS->vR (3*M+4) f->(∀x∈l,(-M<=f x.lo/\f x.lo<=M)/\(-M<=f x.hi/\f x.hi<=M))->vR (3*M+4) (l.foldl bP f)
 | [],_,_,h,_=>h
 | x :: l,f,ha,h,hl=>by
  obtain⟨h1,h2⟩:=List.pairwise_cons.1 ha;obtain⟨k1,k2⟩:=hl x zS;have n:=TL hM x k1 k2;refine CV hM l _ h2 (fun k=>?_) (fun y hy=>?_)
  ·by_cases c1:k=x.hi
   ·rw[c1];exact n.2
   ·by_cases c2:k=x.lo
    ·rw[c2];exact n.1
    ·unfold bP;rw[if_neg c1,if_neg c2];exact h k
  ·obtain⟨a1,a2,a3,a4⟩:=h1 y hy;have b1:bP f x y.lo=f y.lo:=by unfold bP;rw[if_neg (Ne.symm a3),if_neg (Ne.symm a1)]
   have b2:bP f x y.hi=f y.hi:=by unfold bP;rw[if_neg (Ne.symm a4),if_neg (Ne.symm a2)]
   rw[b1,b2];exact hl y (by simp[hy])
theorem qR(r:Nat)(hr:r<4){M:Int}(h0:0<=M)(hM:M<=4398046511104){f:nI}(h:vR M f):vR (3*M+4) (mE r f):=
 CV hM _ f (wV r hr) (fun k=>by have:=h k;omega) (fun x _=>⟨h x.lo,h x.hi⟩)
theorem aDU{M:Int}(h0:0<=M)(hM:M<=4294967296){f:nI}(h:vR M f):vR (81*M+160) (mF 4 f):=by
 have a:=qR 0 zD h0 zO h;have b:=qR 1 zD zO zO a;have c:=qR 2 zD zO zO b;have d:=qR 3 zD zO zO c;intro k;have:=d k;show -(81*M+160)<=mE 3 (mE 2 (mE 1 (mE 0 f))) k/\mE 3 (mE 2 (mE 1 (mE 0 f))) k<=81*M+160;omega
def WV(f:nI):Prop:=∀k,k<16->-1099511627776<=f k/\f k<=1099511627776
instance (f:nI):Decidable (WV f):=by unfold WV;infer_instance
theorem SK(s:ByteArray)(w:World)(hs:s.size<=9223372036854775807):
  Calls zP 165 #[.string s] w fun e w'=>e=rJ (.bool (tS s))/\Old w w':=by
 by_cases h0:s.size=0
 ·rw[tJ (s:=s) (fun h=>by have:=h.1.1;omega)];have HO:=zH (Old.refl w);go_enter func165,ntmps165;go_wp2;go_ret;exact⟨rfl,HO.o⟩
 by_cases h1:32<s.size
 ·rw[tJ (s:=s) (fun h=>by have:=h.1.2;omega)];have HO:=zH (Old.refl w);go_enter func165,ntmps165;go_wp2;go_ret;exact⟨rfl,HO.o⟩
 obtain⟨cap,w1,hconv,ho,hlt,hc⟩:=TB (P:=zP) w 9 34 5 s underlying9 underlying34 underlying5;generalize w.heap.size=g at *;obtain⟨N,hN⟩:=zG (s.size);obtain⟨r,hr⟩:=zG (tS s);have HG:=zH (show ∀k:Nat,k<N->¬(33<=lT s k/\lT s k<=126)->r=false from fun k hk h=>by rw[hr];exact tJ fun h'=>h (h'.2 k zO));have HY:=zH (show (∀j,j<N->33<=lT s j/\lT s j<=126)->r=true from fun h=>by rw[hr];exact uY ⟨⟨zO,zO⟩,fun i hi=>h i zO⟩);rw[<-hr];rw[<-hN]at hconv hc h0 h1;have hl:(s.size:Int)=N:=by rw[hN]
 generalize lT s=F at *;have HO:=zH ho;have HC:=zH hc;have q0:((N:Int) == 0)=false:=by simpa using h0
 have q1:decide (32<(N:Int))=false:=decide_eq_false zO;have q2:N<=32:=zO;clear hr ho hc hs hN h0 h1;go_enter func165,ntmps165
 go_wp2_with fail
 clear hconv q0 q1
 go_loop [16] (fun i=>∃k:Nat,k<=N/\i=vI iJ k/\Hid (∀j,j<k->33<=F j/\F j<=126)) (fun i=>N-(intOf i).toNat)
 case atStart=>exact⟨0,zO,rfl,zH fun j hj=>zO⟩
 case round=>
  obtain⟨k,hk,rfl,HJ⟩:=hrel;by_cases hkn:k<N
  ·have hck:=HC.o k hkn;by_cases c1:F k<33
   ·have hrf:=HG.o k hkn zO;have d1:decide (F k<33)=true:=decide_eq_true c1;clear HC HG HY HJ c1;generalize F k=x at *
    go_wp2_with fail
    go_ret;exact⟨rfl,HO.o⟩
   by_cases c2:126<F k
   ·have hrf:=HG.o k hkn zO;have d1:decide (F k<33)=false:=decide_eq_false c1;have d2:decide (126<F k)=true:=decide_eq_true c2;clear HC HG HY HJ c1 c2;generalize F k=x at *
    go_wp2_with fail
    go_ret;exact⟨rfl,HO.o⟩
   have HJ2:=zH (show ∀j,j<k+1->33<=F j/\F j<=126 from fun j hj=>by
    by_cases e:j=k
    ·subst e;omega
    ·exact HJ.o j zO)
   have d1:decide (F k<33)=false:=decide_eq_false c1;have d2:decide (126<F k)=false:=decide_eq_false c2;obtain⟨x,hx⟩:=zG (F k);rw[<-hx]at hck d1 d2;clear HC HG HY HJ c1 c2 hx
   go_wp2_with fail
   go_round
   case rel=>exact⟨k+1,zO,by go_num,HJ2⟩
   case measure=>exact zM
  ·have hrt:=HY.o fun j hj=>HJ.o j zO;clear HC HG HY HJ
   go_wp2_with fail
   go_ret;exact⟨rfl,HO.o⟩
def GB(s:ByteArray)(n r c:Int)(lp:Bool)(a b x y:Int):Value:=.agg #[.string s,vI iJ n,vI iJ r,vI iJ c,.bool lp,vI iJ a,vI iJ b,vI iJ x,vI iJ y]
def sY(w:World)(g:Nat)(s:ByteArray)(n r c:Int)(lp:Bool)(a b x y:Int):Prop:=w.heap[g]?=some (.cells #[.string s,vI iJ n,vI iJ r,vI iJ c,.bool lp,vI iJ a,vI iJ b,vI iJ x,vI iJ y] 90 (0,0))
theorem sY.new(w:World)(s:ByteArray)(n r c:Int)(lp:Bool)(a b x y:Int):sY (w.alloc (.cells #[.string s,vI iJ n,vI iJ r,vI iJ c,.bool lp,vI iJ a,vI iJ b,vI iJ x,vI iJ y] 90)) w.heap.size s n r c lp a b x y:=heap_alloc_new _ _
theorem sY.old{w w':World}{g:Nat}{s:ByteArray}{n r c:Int}{lp:Bool}{a b x y:Int}(h:sY w g s n r c lp a b x y)(k:Old w w'):sY w' g s n r c lp a b x y:=(k.block g (lt_of_block h)).trans h
theorem sY.cells{w:World}{g:Nat}{s:ByteArray}{n r c:Int}{lp:Bool}{a b x y:Int}(h:sY w g s n r c lp a b x y):
  w.cell? ⟨g,0,none⟩=some (.string s)/\w.cell? ⟨g,1,none⟩=some (vI iJ n)/\w.cell? ⟨g,2,none⟩=some (vI iJ r)/\w.cell? ⟨g,3,none⟩=some (vI iJ c)/\w.cell? ⟨g,4,none⟩=some (.bool lp)/\w.cell? ⟨g,5,none⟩=some (vI iJ a)/\w.cell? ⟨g,6,none⟩=some (vI iJ b)/\w.cell? ⟨g,7,none⟩=some (vI iJ x)/\w.cell? ⟨g,8,none⟩=some (vI iJ y):=by
 unfold sY at h;simp[World.cell?,h]
theorem BJ{a b:Bool}(h:a=b):Ending.returned (.bool a)=rJ (.bool b):=by rw[h]
theorem MD(s:ByteArray)(n r c:Int)(lp:Bool)(a b x y:Int)(w:World):
  Calls zP 166 #[GB s n r c lp a b x y] w fun e w'=>e=rJ (.bool (decide (lG lp a b n)))/\Old w w':=by
 unfold GB;have HO:=zH (Old.refl w);cases lp
 ·have HE:=zH (show (decide (a=0) && decide (b=0))=decide (lG false a b n) by unfold lG;simp);go_enter func166,ntmps166
  go_wp2_with fail
  all_goals
   go_ret;refine⟨BJ (Eq.trans ?_ HE.o),HO.o.alloc' _⟩;rw[Bool.eq_iff_iff]
   first | (simp;done) | (simp;omega)
 ·have HE:=zH (show (decide (0<=a) && decide (a<b) && decide (b<=n))=decide (lG true a b n) by unfold lG;simp[Bool.and_assoc]);go_enter func166,ntmps166
  go_wp2_with fail
  all_goals
   go_ret;refine⟨BJ (Eq.trans ?_ HE.o),HO.o.alloc' _⟩;rw[Bool.eq_iff_iff]
   first | (simp;done) | (simp;omega)
theorem GL(s:ByteArray)(n r c:Int)(lp:Bool)(a b x y:Int)(w:World)(hs:s.size<=9223372036854775807):
  Calls zP 127 #[GB s n r c lp a b x y] w fun e w'=>e=rJ (vI iJ (cX s n r c lp a b))/\Old w w':=by
 have HN:=zH (fun w=>SK s w hs);have HL:=zH (fun w=>MD s n r c lp a b x y w);obtain⟨v,hv⟩:=zG (cX s n r c lp a b);rw[<-hv];obtain⟨q,hq⟩:=zG (tS s);rw[<-hq]at HN;obtain⟨l,hl⟩:=zG (decide (lG lp a b n));rw[<-hl]at HL;have h1:cX s n r c lp a b=if q=false then 10 else if r<1\/192000<r then 14 else if (c<1\/2<c)\/n<1\/1048576<n then 12 else if l=true then 0 else 13:=by unfold cX;rw[hq,hl];simp
 rw[h1]at hv;have HV:=zH hv;clear h1 hv hq hl hs;unfold GB at *;obtain⟨W,hW⟩:=zG (w.alloc (.cells #[.string s,vI iJ n,vI iJ r,vI iJ c,.bool lp,vI iJ a,vI iJ b,vI iJ x,vI iJ y] 90));obtain⟨g,hg⟩:=zG (w.heap.size);have hM:=sY.new w s n r c lp a b x y;have hO:=Old.alloc w (.cells #[.string s,vI iJ n,vI iJ r,vI iJ c,.bool lp,vI iJ a,vI iJ b,vI iJ x,vI iJ y] 90);rw[<-hW,<-hg]at hM;rw[<-hW]at hO;have HM:=zH hM;have HO:=zH hO;have HW:=zH hW;have HG:=zH hg;clear hM hO hW hg;go_enter func127,ntmps127
 go_wp2_with fail
 rw[<-HW.o,<-HG.o];refine(HN.o _).mono ?_;rintro e w1 ⟨rfl,ho1⟩;have HM1:=zH (HM.o.old ho1);have HO1:=zH (HO.o.trans ho1);obtain⟨c0,c1,c2,c3,c4,c5,c6,c7,c8⟩:=HM1.o.cells;clear HM HO HW HG HN ho1;cases q
 ·go_wp2_with fail
  go_ret;exact⟨bT (by rw[HV.o];rfl),HO1.o⟩
 go_wp2_with fail
 all_goals try (go_ret;refine⟨bT ?_,HO1.o⟩;rw[HV.o,if_neg zS];first | (rw[if_pos zO];done) | (rw[if_neg zO,if_pos zO];done))
 ·refine(HL.o _).mono ?_;rintro e w2 ⟨rfl,ho2⟩;have HO2:=zH (HO1.o.trans ho2);clear ho2;cases l
  ·go_wp2_with fail
   go_ret;refine⟨bT ?_,HO2.o⟩;rw[HV.o,if_neg zS,if_neg zO,if_neg zO];simp
  ·go_wp2_with fail
   go_ret;refine⟨bT ?_,HO2.o⟩;rw[HV.o,if_neg zS,if_neg zO,if_neg zO];simp
theorem EL(s:ByteArray)(n r c:Int)(lp:Bool)(a b x y:Int)(w:World)(hs:s.size<=9223372036854775807):
  Calls zP 142 #[GB s n r c lp a b x y] w fun e w'=>e=rJ (.bool (cX s n r c lp a b == 0))/\Old w w':=by
 have HN:=zH (fun w=>GL s n r c lp a b x y w hs);generalize cX s n r c lp a b=v at *;have HO:=zH (Old.alloc w (.cells #[.string s,vI iJ n,vI iJ r,vI iJ c,.bool lp,vI iJ a,vI iJ b,vI iJ x,vI iJ y] 90));clear hs;unfold GB at *;go_enter func142,ntmps142
 go_wp2_with fail
 refine(HN.o _).mono ?_;rintro e w1 ⟨rfl,ho1⟩;have HO1:=zH (HO.o.trans ho1);clear ho1
 go_wp2_with fail
 go_ret;exact⟨rfl,HO1.o⟩
def xM(w:World)(g:Nat)(S:aM):Prop:=w.heap[g]?=some (.cells S.cells 133 (0,0))
theorem xM.new(w:World)(S:aM):xM (w.alloc (.cells S.cells 133)) w.heap.size S:=heap_alloc_new _ _
theorem xM.old{w w':World}{g:Nat}{S:aM}(h:xM w g S)(k:Old w w'):xM w' g S:=(k.block g (lt_of_block h)).trans h
theorem xM.at{w:World}{g:Nat}{S:aM}(h:xM w g S):
  w.cell? ⟨g,0,none⟩=some (.string S.s)/\w.cell? ⟨g,1,none⟩=some (vI iJ S.r)/\w.cell? ⟨g,2,none⟩=some (.bool S.lp)/\w.cell? ⟨g,3,none⟩=some (vI iJ S.a)/\w.cell? ⟨g,4,none⟩=some (vI iJ S.b)/\w.cell? ⟨g,5,none⟩=some (.slice S.p S.n S.c):=by
 unfold xM aM.cells at h;simp[World.cell?,h]
theorem SG(S:aM)(w:World)(hs:jB w S):
  Calls zP 135 #[S.val] w fun e w'=>e=rJ (vI iJ S.len)/\Old w w':=by
 have HO:=zH (Old.alloc w (.cells S.cells 133));obtain⟨_,_,_,_,_,c5⟩:=(xM.new w S).at
 unfold aM.val;by_cases h0:S.n=0
 ·have e1:S.len=0:=by unfold aM.len;rw[if_pos h0]
  have q0:((S.n:Int) == 0)=true:=by simpa using h0
  rw[e1];clear h0 e1 hs;go_enter func135,ntmps135
  go_wp2_with fail
  go_ret;exact⟨rfl,HO.o⟩
 ·have e1:S.len=(S.M 0:Int):=by unfold aM.len;rw[if_neg h0]
  have q0:((S.n:Int) == 0)=false:=by simpa using h0
  obtain⟨g,o,hp,hg,hc⟩:=hs.rows.cell zO;have c0:=((Old.alloc w (.cells S.cells 133)).cell (a:=⟨g,o+0,none⟩) hg).trans (hc 0 zO);rw[Nat.add_zero]at c0;rw[e1];have b0:(0:Int)<S.n:=zO;rw[hp]at c5;clear h0 e1 hs hc hp;go_enter func135,ntmps135
  go_wp2_with fail
  go_ret;exact⟨rfl,HO.o⟩
open Go.Deep
theorem fS{H:Type}{enc:TypeId × Value->H}{P:Program}{W:World}{fuel:Nat}{cs:List Value}{o:Nat}{t:TypeId}{x:DataW H × List MemPlace}(ho:o<cs.length)(h:DataW.trod enc P W 0 (fun _=>true) true fuel t ((cs.drop o).take 1)=some x):
  DataW.trod enc P W 0 (fun _=>true) true fuel t [cs[o]]=some x:=by
 have e:(cs.drop o).take 1 = [cs[o]]:=by rw[List.drop_eq_getElem_cons ho];rfl
 rw[e]at h;exact h
end Go.Proofs.YticpdokbiblpoaaGreatDoor
