/- Texts joined: ArrI, GainL, QuantL, QuantM, WaveA, WaveB, NetS, NearL, MetaArg. -/
import Derived.ChangeKeysEq
import Derived.OrdersHeld
import Derived.Deep.Fields
import Derived.ChangeArms
import Derived.Test.YtgefdmfcddpaiaaGreatDoorPkAB
import Derived.Test.YtgefdmfcddpaiaaGreatDoorTk
namespace Go.Proofs.YtgefdmfcddpaiaaGreatDoor
set_option linter.unusedVariables false
set_option maxRecDepth 100000
open Go.RowKit Go.ChangeShapes Go.WideShapes
def blk(f:Nat->Int):Nat->Value:=fun k=>.int .i64 (f k)
theorem blk_upd(f:Nat->Int)(j:Nat)(v:Int):updN (blk f) j (.int .i64 v)=blk (fun k=>if k=j then v else f k):=by
 funext k
 show (if k=j then Value.int .i64 v else .int .i64 (f k)) = .int .i64 (if k=j then v else f k)
 split <;> rfl
theorem blk_one(f:Nat->Int)(n:Nat):(rowN n (blk f)).all (·.oneCell')=true:=rowN_one _ _ fun _ _=>rfl
theorem blk_at(n:Nat)(f:Nat->Int)(k:Nat)(h:k<n):(rowN n (blk f))[k]?=some (.int .i64 (f k)):=rowN_at n (blk f) k h
def eqB(n:Nat)(f g:Nat->Int):Bool:=decide (∀k,k<n->f k=g k)
theorem eqB_true{n:Nat}{f g:Nat->Int} : eqB n f g=true↔∀k,k<n->f k=g k:=by simp [eqB]
theorem eqB_false{n:Nat}{f g:Nat->Int} : eqB n f g=false↔¬∀k,k<n->f k=g k:=by rw [←eqB_true];cases eqB n f g <;> simp
theorem run_index_ints{P:Program}{t e:TypeId}{n:Nat}{q:IntKind}(ht:P.underlying t=some (.array n e))(he:P.underlying e=some (.int q))(hz:∀w,(sizeOf e).run P w = .ok 1 w)(f:Nat->Int)(k:Nat)(hk:k<n)(w:World):
  (Instr.index t (.agg (rowN n (blk f))) (.int .i64 k)).run P w = .ok (.int .i64 (f k)) w:=by
 simp [Instr.index,run_underlying ht,asIntOf,part,hz,hk,isAgg,run_underlying he,blk_at n f k hk,go_sem]
theorem yieldsIf_load_row{P:Program}{ops:Array Oper}{S:World->Prop}{op:Oper}{a:Act}(hw:Region.wanted op (yielded ops a.tmps)=true)(ty:TypeId)(x:Operand)(ho:op.op = .load ty x)
  (b:Nat) (hx:a.eval x = .pointer (some ⟨b,0,none⟩)) (t:TypeId) (cs:Array Value) (fr:Nat × Nat) (d:TypeDesc) (hS:∀w,S w->w.heap[b]?=some (.cells cs t fr))
  (hu:P.underlying ty=some d) (hd:(match d with | .struct _ | .array _ _=>true | _=>false)=true) (hi:(P.info? ty).map (·.size)=some cs.size):YieldsIf P ops S op (.agg cs) a:=
 .inl ⟨hw,fun w hw'=>by
  unfold execOp
  simp only [ho,hx,Instr.loadAt,Instr.sureAddr,Sem.run_bind,Sem.run_pure,Result.andThen_ok,run_loadVar_row w b t ty cs fr d (hS w hw') hu hd hi]⟩
theorem wpList_load_row_w{P:Program}{ops:Array Oper}{rest:List Oper}{o:Oper}{a:Act}{w:World}{Q:Exit->Act->World->Prop}(hw:Region.wanted o (yielded ops a.tmps)=true)(ty:TypeId)(x:Operand)(ho:o.op = .load ty x)
  (g:Nat) (hx:a.eval x = .pointer (some ⟨g,0,none⟩)) (t:TypeId) (cs:Array Value) (fr:Nat × Nat) (d:TypeDesc) (hg:w.heap[g]?=some (.cells cs t fr))
  (hu:P.underlying ty=some d) (hd:(match d with | .struct _ | .array _ _=>true | _=>false)=true) (hi:(P.info? ty).map (·.size)=some cs.size)
  (h:wpList P ops Q rest (a.put o.dst (.agg cs)) w):wpList P ops Q (o :: rest) a w:=
 wpList_step fun K hK=>by
  rw [if_pos hw]
  exact wp_load_row ty x ho g hx t cs fr d hg hu hd hi (hK _ _ h)
theorem row16_zero:rowN 16 (blk fun _=>0)=#[.int .i64 0,.int .i64 0,.int .i64 0,.int .i64 0,.int .i64 0,.int .i64 0,.int .i64 0,.int .i64 0,.int .i64 0,.int .i64 0,.int .i64 0,.int .i64 0,.int .i64 0,.int .i64 0,.int .i64 0,.int .i64 0]:=rfl
def Fits64(f:Nat->Int):Prop:=∀k,-9223372036854775808<=f k/\f k<=9223372036854775807
def mostI(p t:Int):Int:=if p=0\/t/2<p then 0 else if t/4<p then 1 else if t/8<p then 2 else 3
theorem mostI_bd(p t:Int):0<=mostI p t/\mostI p t<=3:=by unfold mostI;split <;> (try split) <;> (try split) <;> omega
def part(f:Nat->Int)(a n:Nat):List Int:=(List.range n).map fun i=>f (a+i)
def gainOf(f:Nat->Int):Nat->Int:=fun k=>mostI (peakL (part f (4*k) 4)) (peakL (part f 0 16))
theorem part_len(f:Nat->Int)(a n:Nat):(part f a n).length=n:=by simp [part]
theorem part_getD(f:Nat->Int)(a n i:Nat)(h:i<n):(part f a n).getD i 0=f (a+i):=by simp [part,List.getD,h]
theorem part_in{f:Nat->Int}(h:Fits64 f)(a n:Nat):∀x∈part f a n,In64 x:=by
 intro x hx
 simp only [part,List.mem_map] at hx
 obtain⟨i,_,rfl⟩:=hx
 exact h (a+i)
theorem part_SlI{W:World}{b:Nat}{t:TypeId}{f:Nat->Int}(h:W.heap[b]?=some (.cells (rowN 16 (blk f)) t (0,0)))(a n cap:Nat)(hn:a+n<=16)(hc:n<=cap)(hm:cap<=16):SlI W .i64 (.slice (some ⟨b,a,none⟩) n cap) (part f a n):=by
 refine⟨_,cap,by rw [part_len],fun _=>⟨b,a,rfl,lt_of_block h,by rw [part_len];exact hc,by unfold maxLen;omega,fun i hi=>?_⟩⟩
 rw [part_len] at hi
 rw [part_getD _ _ _ _ hi]
 exact(cell_of_row _ _ _ _ _ _ h).trans (blk_at 16 f (a+i) (by omega))
theorem most_any(p t:Int)(w:World)(h0:0<=p)(h1:p<=9223372036854775807)(h2:0<=t)(h3:t<=9223372036854775807):
  Calls Tryz.prog 231 #[.int .i64 p,.int .i64 t] w fun e w'=>e = .returned (.int .i64 (mostI p t))/\w=w':=by
 obtain⟨m0,m3⟩:=mostI_bd p t
 have H2:Hid (1<=mostI p t↔¬(p=0\/t/2<p)):=by unfold Hid mostI;split <;> (try split) <;> (try split) <;> omega
 have H4:Hid (2<=mostI p t↔¬(p=0\/t/4<p)):=by unfold Hid mostI;split <;> (try split) <;> (try split) <;> omega
 have H8:Hid (3<=mostI p t↔¬(p=0\/t/8<p)):=by unfold Hid mostI;split <;> (try split) <;> (try split) <;> omega
 generalize mostI p t=m at *
 by_cases hp:p=0
 ·have hm:m=0:=by have:=H2.out;omega
  subst hm hp
  go_enter Tryz.func231,Tryz.ntmps231
  go_wp2
  go_ret
  exact⟨rfl,rfl⟩
 ·have hp1:1<=p:=by omega
  clear hp h0
  go_enter Tryz.func231,Tryz.ntmps231
  go_wp2
  go_loop [5] (fun g=>∃k:Nat,k<=3/\g = .int .i64 k/\(k:Int)<=m) (fun g=>3-(intOf g).toNat)
  case atStart=>exact⟨0,by omega,rfl,by omega⟩
  case round=>
   obtain⟨k,hk,rfl,hkm⟩:=hrel
   rcases(by omega:k=0\/k=1\/k=2\/k=3) with rfl | rfl | rfl | rfl
   ·have H2':=H2.out
    by_cases h:p<=t/2
    ·go_wp2
     go_round
     case rel=>exact⟨1,by omega,by go_num,by omega⟩
     case measure=>simp [intOf]
    ·go_wp2
     go_ret
     exact⟨ret_int (by omega),rfl⟩
   ·have H4':=H4.out
    by_cases h:p<=t/4
    ·go_wp2
     go_round
     case rel=>exact⟨2,by omega,by go_num,by omega⟩
     case measure=>simp [intOf]
    ·go_wp2
     go_ret
     exact⟨ret_int (by omega),rfl⟩
   ·have H8':=H8.out
    by_cases h:p<=t/8
    ·go_wp2
     go_round
     case rel=>exact⟨3,by omega,by go_num,by omega⟩
     case measure=>simp [intOf]
    ·go_wp2
     go_ret
     exact⟨ret_int (by omega),rfl⟩
   ·go_wp2
    go_ret
    exact⟨ret_int (by omega),rfl⟩
theorem quarter_any(b k:Nat)(cs:Array Value)(t:TypeId)(w:World)(hk:k<4)(hb:w.heap[b]?=some (.cells cs t (0,0)))(hs:cs.size=16):
  Calls Tryz.prog 232 #[.pointer (some ⟨b,0,none⟩),.int .i64 k] w fun e w'=>e = .returned (.slice (some ⟨b,4*k,none⟩) 4 (16-4*k))/\w=w':=by
 have k0:(0:Int)<=k:=by omega
 have k1:(k:Int)<=3:=by omega
 have hS:∀w:World,(Instr.sliceAt 43 (.pointer (some ⟨b,0,none⟩)) (some (.int .i64 ((k:Int)*4))) (some (.int .i64 (((k:Int)+1)*4))) none).run Tryz.prog w = .ok (.slice (some ⟨b,4*k,none⟩) 4 (16-4*k)) w:=fun w=>by
  have hl:Tryz.prog.arrayLen 43=16:=by kernel_rfl
  have hz:(sizeOf (Tryz.prog.elem 43)).run Tryz.prog w = .ok 1 w:=by kernel_rfl
  rw [run_sliceAt_array_lh w 43 _ (by kernel_rfl) .i64 .i64 _ _ (by omega) (by omega) (by rw [hl];omega),hz,hl]
  simp only [Result.andThen_ok]
  congr 1
  unfold slicedAt
  rw [if_neg (by omega)]
  simp only [Addr.add]
  have e1:(((k:Int)*4)).toNat=4*k:=by omega
  have e2:(((k:Int)+1)*4).toNat=4*k+4:=by omega
  rw [e1,e2,show 4*k+4-4*k=4 by omega,show 4*k*1=4*k by omega,Nat.zero_add]
  by_cases hk0:4*k=0
  ·rw [if_pos hk0,hk0]
  ·rw [if_neg hk0]
 go_enter Tryz.func232,Tryz.ntmps232
 go_wp2_with fail
 go_ret
 exact⟨rfl,rfl⟩
def rightP(g:Nat->Int):Prop:=∀k,k<4->0<=g k/\g k<=3
instance (g:Nat->Int):Decidable (rightP g):=by unfold rightP;infer_instance
theorem Right_any(g:Nat->Int)(w:World):
  Calls Tryz.prog 138 #[.agg (rowN 4 (blk g))] w fun e w'=>e = .returned (.bool (decide (rightP g)))/\Old w w':=by
 have Hs:Hid ((Tryz.prog.info? 44).map (·.size)=some 4):=zH (by kernel_rfl)
 have hb:Hid ((w.alloc (.cells (rowN 4 (blk g)) 44)).heap[w.heap.size]?=some (.cells (rowN 4 (blk g)) 44 (0,0))):=zH (heap_alloc_new _ _)
 go_enter Tryz.func138,Tryz.ntmps138
 go_wp2_with (with_reducible refine wpList_load_row rfl 44 _ rfl w.heap.size rfl 44 (rowN 4 (blk g)) (0,0) _ hb.out Tryz.underlying44 rfl (by rw [rowN_size];exact Hs.out) ?_)
 go_loop [6] (fun i=>∃k:Nat,k<=4/\i = .int .i64 k/\Hid (∀j,j<k->0<=g j/\g j<=3)) (fun i=>4-(intOf i).toNat)
 case atStart=>exact⟨0,by omega,rfl,fun j hj=>by omega⟩
 case round=>
  obtain⟨k,hk,rfl,hj⟩:=hrel
  by_cases hlt:k<4
  ·have i1:(0:Int)<=k:=by omega
   have i2:(k:Int)<4:=by omega
   have hat:∀w:World,(Instr.index 44 (.agg (rowN 4 (blk g))) (.int .i64 k)).run Tryz.prog w = .ok (.int .i64 (g k)) w:=fun w=>run_index_ints Tryz.underlying44 Tryz.underlying3 (fun _=>by kernel_rfl) g k hlt w
   by_cases h1:g k<0
   ·have hf:decide (rightP g)=false:=by
     rw [decide_eq_false_iff_not]
     intro h
     have:=(h k hlt).1
     omega
    have HF:=zH hf
    clear hf
    generalize g k=x at *
    go_wp2
    go_ret
    exact⟨by rw [HF.out];rfl,Old.alloc _ _⟩
   ·by_cases h2:3<g k
    ·have hf:decide (rightP g)=false:=by
      rw [decide_eq_false_iff_not]
      intro h
      have:=(h k hlt).2
      omega
     have HF:=zH hf
     clear hf
     have h1':0<=g k:=by omega
     generalize g k=x at *
     go_wp2
     go_ret
     exact⟨by rw [HF.out];rfl,Old.alloc _ _⟩
    ·have hn:Hid (∀j,j<k+1->0<=g j/\g j<=3):=fun j hj'=>by
      rcases Nat.lt_succ_iff_lt_or_eq.1 hj' with h | rfl
      ·exact hj.out j h
      ·omega
     have h1':0<=g k:=by omega
     have h2':g k<=3:=by omega
     clear h1 h2
     generalize g k=x at *
     go_wp2
     go_round
     case rel=>exact⟨k+1,by omega,by go_num,hn⟩
     case measure=>simp [intOf];omega
  ·obtain rfl:k=4:=by omega
   have hf:decide (rightP g)=true:=decide_eq_true hj.out
   have HF:=zH hf
   clear hf hj
   go_wp2
   go_ret
   exact⟨by rw [HF.out];rfl,Old.alloc _ _⟩
def atI(g:Nat->Int)(i:Int):Int:=if 0<=i/\i<16/\rightP g then g (i/4).toNat else 0
theorem At_any(g:Nat->Int)(i:Int)(w:World)(h1:-9223372036854775808<=i)(h2:i<=9223372036854775807):
  Calls Tryz.prog 95 #[.agg (rowN 4 (blk g)),.int .i64 i] w fun e w'=>e = .returned (.int .i64 (atI g i))/\Old w w':=by
 have Hs:Hid ((Tryz.prog.info? 44).map (·.size)=some 4):=zH (by kernel_rfl)
 have hb:Hid ((w.alloc (.cells (rowN 4 (blk g)) 44)).heap[w.heap.size]?=some (.cells (rowN 4 (blk g)) 44 (0,0))):=zH (heap_alloc_new _ _)
 have HR:=zH (fun w=>Right_any g w)
 by_cases a:i<0
 ·have e:atI g i=0:=by unfold atI;rw [if_neg (by omega)]
  rw [e]
  go_enter Tryz.func95,Tryz.ntmps95
  go_wp2
  go_ret
  exact⟨rfl,Old.alloc _ _⟩
 ·have a':0<=i:=by omega
  clear a
  by_cases b:16<=i
  ·have e:atI g i=0:=by unfold atI;rw [if_neg (by omega)]
   rw [e]
   go_enter Tryz.func95,Tryz.ntmps95
   go_wp2
   go_ret
   exact⟨rfl,Old.alloc _ _⟩
  ·have b':i<16:=by omega
   clear b
   have q1:wrap64 (i.tdiv 4)=i/4:=by rw [Int.tdiv_eq_ediv_of_nonneg a'];exact IntWalk.wrap64_in _ (by omega)
   have q2:0<=i/4:=by omega
   have q3:i/4<4:=by omega
   by_cases r:rightP g
   ·have e:atI g i=g (i/4).toNat:=by unfold atI;rw [if_pos ⟨a',b',r⟩]
    have hr:=HR.out
    rw [decide_eq_true r] at hr
    rw [e]
    clear e r HR
    have HR:=zH hr
    clear hr
    clear q1
    have hm:(i/4).toNat<4:=by omega
    have HD:Hid (decide (i<0)=false/\decide (16<=i)=false):=⟨by simp;omega,by simp;omega⟩
    go_enter Tryz.func95,Tryz.ntmps95
    go_wp2_with (with_reducible refine wpList_load_row_w (by rw [HD.out.1,HD.out.2];kernel_rfl) 44 _ rfl w.heap.size rfl 44 (rowN 4 (blk g)) (0,0) _ hb.out Tryz.underlying44 rfl (by rw [rowN_size];exact Hs.out) ?_)
    refine(HR.out _).mono ?_
    rintro e w1 ⟨rfl,ho⟩
    have hc:w1.cell? ⟨w.heap.size,(i/4).toNat,none⟩=some (.int .i64 (g (i/4).toNat)):=(Kept.cell ho (by simp)).trans (cell_new w 4 _ (blk g) _ hm)
    have HO:=zH ((Old.alloc w _).trans ho)
    clear ho
    go_wp2
    go_ret
    exact⟨rfl,HO.out⟩
   ·have e:atI g i=0:=by unfold atI;rw [if_neg (fun h=>r h.2.2)]
    have hr:=HR.out
    rw [decide_eq_false r] at hr
    rw [e]
    clear e r HR q1
    have HR:=zH hr
    clear hr
    have HD:Hid (decide (i<0)=false/\decide (16<=i)=false):=⟨by simp;omega,by simp;omega⟩
    go_enter Tryz.func95,Tryz.ntmps95
    go_wp2_with (with_reducible refine wpList_load_row_w (by rw [HD.out.1,HD.out.2];kernel_rfl) 44 _ rfl w.heap.size rfl 44 (rowN 4 (blk g)) (0,0) _ hb.out Tryz.underlying44 rfl (by rw [rowN_size];exact Hs.out) ?_)
    refine(HR.out _).mono ?_
    rintro e w1 ⟨rfl,ho⟩
    have HO:=zH ((Old.alloc w _).trans ho)
    clear ho
    go_wp2
    go_ret
    exact⟨rfl,HO.out⟩
structure OfSt(w:World)(tb tg:TypeId)(z:Array Value)(f:Nat->Int)(g:Nat->Int)(W:World):Prop where
 b:W.heap[w.heap.size]?=some (.cells (rowN 16 (blk f)) tb (0,0))
 r:W.heap[w.heap.size+1]?=some (.cells z tg (0,0))
 g:W.heap[w.heap.size+1+1]?=some (.cells (rowN 4 (blk g)) tg (0,0))
 old:Old w W
namespace OfSt
variable {w W W':World} {tb tg:TypeId} {z:Array Value} {f g g':Nat->Int}
theorem set(h:OfSt w tb tg z f g W)(j:Nat)(hj:j<4)(v:Int):OfSt w tb tg z f (fun k=>if k=j then v else g k) (W.setCell ⟨w.heap.size+1+1,j,none⟩ (.int .i64 v)):=by
 refine⟨(heap_setCell_other _ _ _ _ (by simp;omega)).trans h.b,(heap_setCell_other _ _ _ _ (by simp)).trans h.r,?_,h.old.after (Kept.setCell (X:=fun k=>k<w.heap.size) _ (a:=⟨w.heap.size+1+1,j,none⟩) (by show ¬w.heap.size+1+1<w.heap.size;omega) _) fun _ hk=>hk⟩
 rw [←blk_upd,←rowN_set _ _ _ _ hj]
 exact heap_setCell_same _ _ _ _ _ _ h.g
theorem cell(h:OfSt w tb tg z f g W)(j:Nat)(hj:j<4):W.cell? ⟨w.heap.size+1+1,j,none⟩=some (.int .i64 (g j))/\W.frozen? ⟨w.heap.size+1+1,j,none⟩=false:=
 ⟨(cell_of_row _ _ _ _ _ _ h.g).trans (blk_at 4 g j hj),frozen_of_row _ _ _ _ _ h.g⟩
theorem row(h:OfSt w tb tg z f g W)(cs:Array Value):(W.setRow (w.heap.size+1) cs).heap[w.heap.size+1]?=some (.cells cs tg (0,0))/\Old w (W.setRow (w.heap.size+1) cs):=
 ⟨setRow_heap _ _ _ _ _ _ h.r,h.old.after (X:=fun k=>k<w.heap.size) ⟨rfl,rfl,by simp,fun k hk=>setRow_other _ _ _ _ (by omega)⟩ fun _ h=>h⟩
end OfSt
def gainsTo(f:Nat->Int)(n:Nat):Nat->Int:=fun k=>if k<n then gainOf f k else 0
theorem gainsTo_succ(f:Nat->Int)(n:Nat):(fun k=>if k=n then gainOf f n else gainsTo f n k)=gainsTo f (n+1):=by
 funext k
 unfold gainsTo
 by_cases h:k=n
 ·subst h;rw [if_pos rfl,if_pos (by omega)]
 ·rw [if_neg h]
  by_cases h2:k<n
  ·rw [if_pos h2,if_pos (by omega)]
  ·rw [if_neg h2,if_neg (by omega)]
theorem Of_any(f:Nat->Int)(hf:Fits64 f)(w:World):
  Calls Tryz.prog 195 #[.agg (rowN 16 (blk f))] w fun e w'=>e = .returned (.agg (rowN 4 (blk (gainOf f))))/\Old w w':=by
 have hS:∀(b:Nat) (w:World),(Instr.sliceAt 43 (.pointer (some ⟨b,0,none⟩)) none none none).run Tryz.prog w = .ok (.slice (some ⟨b,0,none⟩) 16 16) w:=fun b w=>by
  have hl:Tryz.prog.arrayLen 43=16:=by kernel_rfl
  have hz:(sizeOf (Tryz.prog.elem 43)).run Tryz.prog w = .ok 1 w:=by kernel_rfl
  rw [run_sliceAt_array_all w 43 _ (by kernel_rfl),hz,hl]
  rfl
 have HF:=zH hf
 clear hf
 have H16:Hid (In64 (peakL (part f 0 16))/\0<=peakL (part f 0 16)):=by
  have h:=peakL_in _ (part_in HF.out 0 16)
  exact⟨⟨by omega,h.2⟩,h.1⟩
 have H4:Hid (∀k,In64 (peakL (part f (4*k) 4))/\0<=peakL (part f (4*k) 4)):=fun k=>by
  have h:=peakL_in _ (part_in HF.out (4*k) 4)
  exact⟨⟨by omega,h.2⟩,h.1⟩
 have HP:Hid (∀(W:World) (b a n cap:Nat),W.heap[b]?=some (.cells (rowN 16 (blk f)) 43 (0,0))->a+n<=16->n<=cap->cap<=16 ->
   Calls Tryz.prog 230 #[.slice (some ⟨b,a,none⟩) n cap] W fun e w'=>e = .returned (.int .i64 (peakL (part f a n)))/\W=w'):=fun W b a n cap hb h1 h2 h3=>
  Peak_any _ _ _ _ W (part_SlI hb a n cap h1 h2 h3) (part_in HF.out a n) (by omega)
 go_enter Tryz.func195,Tryz.ntmps195
 go_wp2_with fail
 refine(HP.out _ _ 0 16 16 (heap_alloc2_old w _ _) (by omega) (by omega) (by omega)).mono ?_
 rintro e w1 ⟨rfl,rfl⟩
 go_wp2_with fail
 obtain⟨z,hz⟩:∃z:Array Value,z=#[.int .i64 0,.int .i64 0,.int .i64 0,.int .i64 0]:=⟨_,rfl⟩
 have hzs:z.size=4:=by rw [hz];rfl
 have hz0:z=rowN 4 (blk (gainsTo f 0)):=by rw [hz];rfl
 rw [←hz]
 clear hz
 have hst:OfSt w 43 44 z f (gainsTo f 0) (((w.alloc (.cells (rowN 16 (blk f)) 43)).alloc (.cells z 44)).alloc (.cells z 44)):=by
  refine⟨?_,?_,?_,((Old.alloc w _).alloc' _).alloc' _⟩
  ·exact(Below.heap_alloc _ _ _ (by simp;omega)).trans (heap_alloc2_old w _ _)
  ·exact(Below.heap_alloc _ _ _ (by simp)).trans (heap_alloc2_new w _ _)
  ·have:=heap_alloc_new ((w.alloc (.cells (rowN 16 (blk f)) 43)).alloc (.cells z 44)) (.cells z 44)
   rw [World.size_alloc,World.size_alloc] at this
   rw [←hz0];exact this
 have H0:=zH hst
 clear hst hz0
 go_loopw [8] (fun i wr=>∃k:Nat,k<=4/\i = .int .i64 k/\Hid (OfSt w 43 44 z f (gainsTo f k) wr)) (fun i _=>4-(intOf i).toNat)
 case atStart=>exact⟨0,by omega,rfl,H0⟩
 case round=>
  obtain⟨k,hk,rfl,hs⟩:=hrel
  clear H0
  by_cases hlt:k<4
  ·have k1:(0:Int)<=k:=by omega
   have k2:(k:Int)<4:=by omega
   obtain⟨b4,n4⟩:=H4.out k
   obtain⟨b16,n16⟩:=H16.out
   have HQ:=zH (quarter_any w.heap.size k _ _ wr hlt hs.out.b (rowN_size _ _))
   have HPk:=zH (HP.out wr w.heap.size (4*k) 4 (16-4*k) hs.out.b (by omega) (by omega) (by omega))
   have HM:=zH (most_any _ _ wr n4 b4.2 n16 b16.2)
   obtain⟨c1,c2⟩:=hs.out.cell k hlt
   have hn:Hid (OfSt w 43 44 z f (gainsTo f (k+1)) (wr.setCell ⟨w.heap.size+1+1,k,none⟩ (.int .i64 (mostI (peakL (part f (4*k) 4)) (peakL (part f 0 16)))))):=by
    have h:=hs.out.set k hlt (gainOf f k)
    rw [gainsTo_succ] at h
    exact h
   clear hs b4 n4 b16 n16 HP H4 H16
   generalize peakL (part f (4*k) 4)=p at *
   generalize peakL (part f 0 16)=t at *
   go_wp2_with fail
   refine HQ.out.mono ?_
   rintro e w1 ⟨rfl,rfl⟩
   go_wp2_with fail
   refine HPk.out.mono ?_
   rintro e w1 ⟨rfl,rfl⟩
   go_wp2_with fail
   refine HM.out.mono ?_
   rintro e w1 ⟨rfl,rfl⟩
   go_wp2_with fail
   go_roundw
   case rel=>exact⟨k+1,by omega,by go_num,hn⟩
   case measure=>simp [intOf];omega
  ·obtain rfl:k=4:=by omega
   have hg:rowN 4 (blk (gainsTo f 4))=rowN 4 (blk (gainOf f)):=rowN_ext _ _ _ fun k hk=>by unfold blk gainsTo;rw [if_pos hk]
   have Hg:=zH hs.out.g
   rw [hg] at Hg
   have Hr:=zH hs.out.r
   have Hd:=zH (hs.out.row (rowN 4 (blk (gainOf f))))
   have Hs:Hid ((Tryz.prog.info? 44).map (·.size)=some 4):=zH (by kernel_rfl)
   have H1:Hid ((rowN 4 (blk (gainOf f))).all (·.oneCell')=true):=zH (blk_one _ _)
   clear hs hg
   have hsz:=rowN_size 4 (blk (gainOf f))
   go_wp2_with (first | (with_reducible refine wpList_load_row rfl 44 _ rfl (w.heap.size+1+1) rfl 44 (rowN 4 (blk (gainOf f))) (0,0) _ Hg.out Tryz.underlying44 rfl (by rw [hsz];exact Hs.out) ?_) | (with_reducible refine wpList_store_row rfl 44 _ _ rfl (w.heap.size+1) (rowN 4 (blk (gainOf f))) rfl rfl 44 _ Hr.out (by rw [hsz];exact Hs.out) (by rw [hsz];exact hzs) H1.out ?_))
   exact bodyPost_ret (results_cell_row rfl _ _ (w.heap.size+1) 44 (rowN 4 (blk (gainOf f))) (0,0) _ rfl Hd.out.1 Tryz.underlying44 rfl (by rw [hsz];exact Hs.out)) rfl ⟨rfl,Hd.out.2⟩
def scalesP(g:Nat->Int):Prop:=∀k,k<4->0<=g k/\g k<=23
instance (g:Nat->Int):Decidable (scalesP g):=by unfold scalesP;infer_instance
theorem SRight_any(g:Nat->Int)(w:World):
  Calls Tryz.prog 220 #[.agg (rowN 4 (blk g))] w fun e w'=>e = .returned (.bool (decide (scalesP g)))/\Old w w':=by
 have Hs:Hid ((Tryz.prog.info? 275).map (·.size)=some 4):=zH (by kernel_rfl)
 have hb:Hid ((w.alloc (.cells (rowN 4 (blk g)) 275)).heap[w.heap.size]?=some (.cells (rowN 4 (blk g)) 275 (0,0))):=zH (heap_alloc_new _ _)
 go_enter Tryz.func220,Tryz.ntmps220
 go_wp2_with (with_reducible refine wpList_load_row rfl 275 _ rfl w.heap.size rfl 275 (rowN 4 (blk g)) (0,0) _ hb.out Tryz.underlying275 rfl (by rw [rowN_size];exact Hs.out) ?_)
 go_loop [6] (fun i=>∃k:Nat,k<=4/\i = .int .i64 k/\Hid (∀j,j<k->0<=g j/\g j<=23)) (fun i=>4-(intOf i).toNat)
 case atStart=>exact⟨0,by omega,rfl,fun j hj=>by omega⟩
 case round=>
  obtain⟨k,hk,rfl,hj⟩:=hrel
  by_cases hlt:k<4
  ·have i1:(0:Int)<=k:=by omega
   have i2:(k:Int)<4:=by omega
   have hat:∀w:World,(Instr.index 275 (.agg (rowN 4 (blk g))) (.int .i64 k)).run Tryz.prog w = .ok (.int .i64 (g k)) w:=fun w=>run_index_ints Tryz.underlying275 Tryz.underlying3 (fun _=>by kernel_rfl) g k hlt w
   by_cases h1:g k<0
   ·have hf:decide (scalesP g)=false:=by
     rw [decide_eq_false_iff_not]
     intro h
     have:=(h k hlt).1
     omega
    have HF:=zH hf
    clear hf
    generalize g k=x at *
    go_wp2
    go_ret
    exact⟨by rw [HF.out];rfl,Old.alloc _ _⟩
   ·by_cases h2:23<g k
    ·have hf:decide (scalesP g)=false:=by
      rw [decide_eq_false_iff_not]
      intro h
      have:=(h k hlt).2
      omega
     have HF:=zH hf
     clear hf
     have h1':0<=g k:=by omega
     generalize g k=x at *
     go_wp2
     go_ret
     exact⟨by rw [HF.out];rfl,Old.alloc _ _⟩
    ·have hn:Hid (∀j,j<k+1->0<=g j/\g j<=23):=fun j hj'=>by
      rcases Nat.lt_succ_iff_lt_or_eq.1 hj' with h | rfl
      ·exact hj.out j h
      ·omega
     have h1':0<=g k:=by omega
     have h2':g k<=23:=by omega
     clear h1 h2
     generalize g k=x at *
     go_wp2
     go_round
     case rel=>exact⟨k+1,by omega,by go_num,hn⟩
     case measure=>simp [intOf];omega
  ·obtain rfl:k=4:=by omega
   have hf:decide (scalesP g)=true:=decide_eq_true hj.out
   have HF:=zH hf
   clear hf hj
   go_wp2
   go_ret
   exact⟨by rw [HF.out];rfl,Old.alloc _ _⟩
def bandI(i:Int):Int:=if 0<=i/\i<16 then i/4 else 0
theorem Band_any(i:Int)(w:World)(h1:-9223372036854775808<=i)(h2:i<=9223372036854775807):
  Calls Tryz.prog 169 #[.int .i64 i] w fun e w'=>e = .returned (.int .i64 (bandI i))/\w=w':=by
 by_cases a:i<0
 ·have e:bandI i=0:=by unfold bandI;rw [if_neg (by omega)]
  rw [e]
  go_enter Tryz.func169,Tryz.ntmps169
  go_wp2
  go_ret
  exact⟨rfl,rfl⟩
 ·have a':0<=i:=by omega
  clear a
  by_cases b:16<=i
  ·have e:bandI i=0:=by unfold bandI;rw [if_neg (by omega)]
   rw [e]
   go_enter Tryz.func169,Tryz.ntmps169
   go_wp2
   go_ret
   exact⟨rfl,rfl⟩
  ·have b':i<16:=by omega
   have e:bandI i=i/4:=by unfold bandI;rw [if_pos ⟨a',b'⟩]
   have q1:wrap64 (i.tdiv 4)=i/4:=by rw [Int.tdiv_eq_ediv_of_nonneg a'];exact IntWalk.wrap64_in _ (by omega)
   rw [e]
   clear b e
   go_enter Tryz.func169,Tryz.ntmps169
   go_wp2
   go_ret
   exact⟨rfl,rfl⟩
theorem Band_nat(k m:Nat)(w:World)(hk:k<16)(hm:k/4=m):
  Calls Tryz.prog 169 #[.int .i64 k] w fun e w'=>e = .returned (.int .i64 m)/\w=w':=by
 refine(Band_any k w (by omega) (by omega)).mono ?_
 rintro e w' ⟨rfl,h⟩
 exact⟨ret_int (by unfold bandI;rw [if_pos (by omega)];omega),h⟩
def valI(q s:Int):Int:=wrap64 (q*pw s.toNat)
def stepI(v s:Int):Int:=nearI v (pw s.toNat)
def toldF(φ:Int->Int->Int)(f s:Nat->Int):Nat->Int:=fun k=>φ (f k) (s (k/4))
def toldR(φ:Int->Int->Int)(f s:Nat->Int):Nat->Int:=if scalesP s then toldF φ f s else fun _=>0
theorem value_any(q s:Int)(w:World)(h0:0<=s)(h1:s<=23):
  Calls Tryz.prog 172 #[.int .i64 q,.int .i64 s] w fun e w'=>e = .returned (.int .i64 (valI q s))/\Old w w':=by
 obtain⟨n,rfl⟩:∃n:Nat,s=n:=⟨s.toNat,by omega⟩
 have HS:=zH (Step_yes n w (by omega))
 unfold valI
 rw [Int.toNat_natCast]
 generalize pw n=p at *
 go_enter Tryz.func172,Tryz.ntmps172
 go_wp2_with fail
 refine HS.out.mono ?_
 rintro e w' ⟨rfl,rfl⟩
 go_wp2
 go_ret
 exact⟨rfl,Old.refl _⟩
theorem Near_step(v s:Int)(w:World)(h0:0<=s)(h1:s<=23)(h2:-9223372036854775808<=v)(h3:v<=9223372036854775807):
  Calls Tryz.prog 269 #[.int .i64 v,.int .i64 s] w fun e w'=>e = .returned (.int .i64 (stepI v s))/\Old w w':=by
 refine(Near_any v s w h0 (by omega) h2 h3).mono ?_
 rintro e w' ⟨rfl,n,rfl⟩
 exact⟨rfl,(Old.refl w).drewN _⟩
structure ToldSt(w:World)(tb ts:TypeId)(z:Array Value)(g s:Nat->Int)(W:World):Prop where
 b:W.heap[w.heap.size]?=some (.cells (rowN 16 (blk g)) tb (0,0))
 s:W.heap[w.heap.size+1]?=some (.cells (rowN 4 (blk s)) ts (0,0))
 r:W.heap[w.heap.size+1+1]?=some (.cells z tb (0,0))
 old:Old w W
namespace ToldSt
variable {w W W':World} {tb ts:TypeId} {z:Array Value} {g s:Nat->Int}
theorem keep(h:ToldSt w tb ts z g s W)(k:Old W W'):ToldSt w tb ts z g s W':=
 ⟨(k.block _ (lt_of_block h.b)).trans h.b,(k.block _ (lt_of_block h.s)).trans h.s,(k.block _ (lt_of_block h.r)).trans h.r,h.old.trans k⟩
theorem set(h:ToldSt w tb ts z g s W)(j:Nat)(hj:j<16)(v:Int):ToldSt w tb ts z (fun k=>if k=j then v else g k) s (W.setCell ⟨w.heap.size,j,none⟩ (.int .i64 v)):=by
 refine⟨?_,(heap_setCell_other _ _ _ _ (by simp)).trans h.s,(heap_setCell_other _ _ _ _ (by simp;omega)).trans h.r,h.old.after (Kept.setCell (X:=fun k=>k<w.heap.size) _ (a:=⟨w.heap.size,j,none⟩) (by show ¬w.heap.size<w.heap.size;omega) _) fun _ hk=>hk⟩
 rw [←blk_upd,←rowN_set _ _ _ _ hj]
 exact heap_setCell_same _ _ _ _ _ _ h.b
theorem cell(h:ToldSt w tb ts z g s W)(j:Nat)(hj:j<16):W.cell? ⟨w.heap.size,j,none⟩=some (.int .i64 (g j))/\W.frozen? ⟨w.heap.size,j,none⟩=false:=
 ⟨(cell_of_row _ _ _ _ _ _ h.b).trans (blk_at 16 g j hj),frozen_of_row _ _ _ _ _ h.b⟩
theorem scale(h:ToldSt w tb ts z g s W)(j:Nat)(hj:j<4):W.cell? ⟨w.heap.size+1,j,none⟩=some (.int .i64 (s j)):=
 (cell_of_row _ _ _ _ _ _ h.s).trans (blk_at 4 s j hj)
theorem row(h:ToldSt w tb ts z g s W)(cs:Array Value):(W.setRow (w.heap.size+1+1) cs).heap[w.heap.size+1+1]?=some (.cells cs tb (0,0))/\Old w (W.setRow (w.heap.size+1+1) cs):=
 ⟨setRow_heap _ _ _ _ _ _ h.r,h.old.after (X:=fun k=>k<w.heap.size) ⟨rfl,rfl,by simp,fun k hk=>setRow_other _ _ _ _ (by omega)⟩ fun _ h=>h⟩
end ToldSt
def toldTo(φ:Int->Int->Int)(f s:Nat->Int)(n:Nat):Nat->Int:=fun k=>if k<n then toldF φ f s k else f k
theorem toldTo_succ(φ:Int->Int->Int)(f s:Nat->Int)(n:Nat):(fun k=>if k=n then φ (f n) (s (n/4)) else toldTo φ f s n k)=toldTo φ f s (n+1):=by
 funext k
 unfold toldTo toldF
 by_cases h:k=n
 ·subst h;rw [if_pos rfl,if_pos (by omega)]
 ·rw [if_neg h]
  by_cases h2:k<n
  ·rw [if_pos h2,if_pos (by omega)]
  ·rw [if_neg h2,if_neg (by omega)]
theorem told_start(w:World)(tb ts:TypeId)(z:Array Value)(f s:Nat->Int):ToldSt w tb ts z f s (((w.alloc (.cells (rowN 16 (blk f)) tb)).alloc (.cells (rowN 4 (blk s)) ts)).alloc (.cells z tb)):=by
 refine⟨?_,?_,?_,((Old.alloc w _).alloc' _).alloc' _⟩
 ·exact(Below.heap_alloc _ _ _ (by simp;omega)).trans (heap_alloc2_old w _ _)
 ·exact(Below.heap_alloc _ _ _ (by simp)).trans (heap_alloc2_new w _ _)
 ·have:=heap_alloc_new ((w.alloc (.cells (rowN 16 (blk f)) tb)).alloc (.cells (rowN 4 (blk s)) ts)) (.cells z tb)
  rw [World.size_alloc,World.size_alloc] at this
  exact this
theorem told_near(f s:Nat->Int)(w:World)(hf:Fits64 f):
  Calls Tryz.prog 171 #[.agg (rowN 16 (blk f)),.agg (rowN 4 (blk s)),.func (.func 269) #[] #[]] w fun e w'=>e = .returned (.agg (rowN 16 (blk (toldR stepI f s))))/\Old w w':=by
 have Hs4:Hid ((Tryz.prog.info? 275).map (·.size)=some 4):=zH (by kernel_rfl)
 have Hb16:Hid ((Tryz.prog.info? 43).map (·.size)=some 16):=zH (by kernel_rfl)
 have HW:Hid (∀(v t:Int) (w:World),0<=t->t<=23->-9223372036854775808<=v->v<=9223372036854775807->Calls Tryz.prog 269 #[.int .i64 v,.int .i64 t] w fun e w'=>e = .returned (.int .i64 (stepI v t))/\Old w w'):=zH fun v t w h0 h1 h2 h3=>Near_step v t w h0 h1 h2 h3
 have HF:=zH hf
 have hst:=told_start w 43 275 #[.int .i64 0,.int .i64 0,.int .i64 0,.int .i64 0,.int .i64 0,.int .i64 0,.int .i64 0,.int .i64 0,.int .i64 0,.int .i64 0,.int .i64 0,.int .i64 0,.int .i64 0,.int .i64 0,.int .i64 0,.int .i64 0] f s
 have H0:=zH hst
 have HR:=zH (fun w=>SRight_any s w)
 clear hst hf
 have z1:Hid ((#[.int .i64 0,.int .i64 0,.int .i64 0,.int .i64 0,.int .i64 0,.int .i64 0,.int .i64 0,.int .i64 0,.int .i64 0,.int .i64 0,.int .i64 0,.int .i64 0,.int .i64 0,.int .i64 0,.int .i64 0,.int .i64 0]:Array Value).size=16):=zH rfl
 by_cases r:scalesP s
 ·have e:toldR stepI f s=toldF stepI f s:=by unfold toldR;rw [if_pos r]
  rw [e]
  clear e
  rw [decide_eq_true r] at HR
  have HP:=zH r
  clear r
  go_enter Tryz.func171,Tryz.ntmps171
  go_wp2_with (with_reducible refine wpList_load_row rfl 275 _ rfl (w.heap.size+1) rfl 275 (rowN 4 (blk s)) (0,0) _ H0.out.s Tryz.underlying275 rfl (by rw [rowN_size];exact Hs4.out) ?_)
  refine(HR.out _).mono ?_
  rintro e w1 ⟨rfl,ho⟩
  have H1:=zH (H0.out.keep ho)
  clear ho H0 HR
  obtain⟨z,hz⟩:∃z:Array Value,z=#[.int .i64 0,.int .i64 0,.int .i64 0,.int .i64 0,.int .i64 0,.int .i64 0,.int .i64 0,.int .i64 0,.int .i64 0,.int .i64 0,.int .i64 0,.int .i64 0,.int .i64 0,.int .i64 0,.int .i64 0,.int .i64 0]:=⟨_,rfl⟩
  rw [←hz] at H1 z1
  clear hz
  go_wp2_with (with_reducible refine wpList_load_row rfl 43 _ rfl w.heap.size rfl 43 (rowN 16 (blk f)) (0,0) _ H1.out.b Tryz.underlying43 rfl (by rw [rowN_size];exact Hb16.out) ?_)
  go_loopw [14] (fun i wr=>∃k:Nat,k<=16/\i = .int .i64 k/\Hid (ToldSt w 43 275 z (toldTo stepI f s k) s wr)) (fun i _=>16-(intOf i).toNat)
  case atStart=>exact⟨0,by omega,rfl,H1⟩
  case round=>
   obtain⟨k,hk,rfl,hs⟩:=hrel
   clear H1
   by_cases hlt:k<16
   ·have k1:(0:Int)<=k:=by omega
    have k2:(k:Int)<16:=by omega
    have hat:∀w:World,(Instr.index 43 (.agg (rowN 16 (blk f))) (.int .i64 k)).run Tryz.prog w = .ok (.int .i64 (f k)) w:=fun w=>run_index_ints Tryz.underlying43 Tryz.underlying2 (fun _=>by kernel_rfl) f k hlt w
    have hsu:=toldTo_succ stepI f s k
    obtain⟨m,hm⟩:∃m,k/4=m:=⟨_,rfl⟩
    have HB:=zH (fun w=>Band_nat k m w hlt hm)
    rw [hm] at hsu
    have m0:(0:Int)<=m:=by omega
    have m1:(m:Int)<4:=by omega
    clear hm
    have hsc:=hs.out.scale m (by omega)
    obtain⟨t0,t1⟩:=HP.out m (by omega)
    obtain⟨v0,v1⟩:=HF.out k
    have HC:=zH (fun w=>HW.out (f k) (s m) w t0 t1 v0 v1)
    have HS:=zH hsu
    clear hsu HW HF HP
    generalize f k=x at *
    generalize s m=t at *
    go_wp2_with fail
    refine(HB.out _).mono ?_
    rintro e w2 ⟨rfl,rfl⟩
    go_wp2_with fail
    refine(HC.out _).mono ?_
    rintro e w3 ⟨rfl,ho⟩
    have h3:=hs.out.keep ho
    obtain⟨c1,c2⟩:=h3.cell k hlt
    have h4:=h3.set k hlt (stepI x t)
    rw [HS.out] at h4
    have H4:=zH h4
    clear h3 h4 ho hs hsc HB HC HS
    generalize stepI x t=y at *
    go_wp2_with fail
    go_roundw
    case rel=>exact⟨k+1,by omega,by go_num,H4⟩
    case measure=>simp [intOf];omega
   ·obtain rfl:k=16:=by omega
    have hg:rowN 16 (blk (toldTo stepI f s 16))=rowN 16 (blk (toldF stepI f s)):=rowN_ext _ _ _ fun k hk=>by unfold blk toldTo;rw [if_pos hk]
    have Hg:=zH hs.out.b
    rw [hg] at Hg
    have Hr:=zH hs.out.r
    have Hd:=zH (hs.out.row (rowN 16 (blk (toldF stepI f s))))
    have H1:Hid ((rowN 16 (blk (toldF stepI f s))).all (·.oneCell')=true):=zH (blk_one _ _)
    clear hs hg HW HF HP
    have hsz:=rowN_size 16 (blk (toldF stepI f s))
    go_wp2_with (first | (with_reducible refine wpList_load_row rfl 43 _ rfl w.heap.size rfl 43 (rowN 16 (blk (toldF stepI f s))) (0,0) _ Hg.out Tryz.underlying43 rfl (by rw [rowN_size];exact Hb16.out) ?_) | (with_reducible refine wpList_store_row rfl 43 _ _ rfl (w.heap.size+1+1) (rowN 16 (blk (toldF stepI f s))) rfl rfl 43 _ Hr.out (by rw [hsz];exact Hb16.out) (by rw [hsz];exact z1.out) H1.out ?_))
    exact bodyPost_ret (results_cell_row rfl _ _ (w.heap.size+1+1) 43 (rowN 16 (blk (toldF stepI f s))) (0,0) _ rfl Hd.out.1 Tryz.underlying43 rfl (by rw [hsz];exact Hb16.out)) rfl ⟨rfl,Hd.out.2⟩
 ·have e:toldR stepI f s=fun _=>0:=by unfold toldR;rw [if_neg r]
  rw [e,row16_zero]
  clear e
  rw [decide_eq_false r] at HR
  clear r HW HF
  go_enter Tryz.func171,Tryz.ntmps171
  go_wp2_with (with_reducible refine wpList_load_row rfl 275 _ rfl (w.heap.size+1) rfl 275 (rowN 4 (blk s)) (0,0) _ H0.out.s Tryz.underlying275 rfl (by rw [rowN_size];exact Hs4.out) ?_)
  refine(HR.out _).mono ?_
  rintro e w1 ⟨rfl,ho⟩
  have H1:=H0.out.keep ho
  have Hr:=zH H1.r
  have Hd:=zH (H1.row (rowN 16 (blk fun _=>0)))
  rw [row16_zero] at Hd
  have H2:Hid ((#[.int .i64 0,.int .i64 0,.int .i64 0,.int .i64 0,.int .i64 0,.int .i64 0,.int .i64 0,.int .i64 0,.int .i64 0,.int .i64 0,.int .i64 0,.int .i64 0,.int .i64 0,.int .i64 0,.int .i64 0,.int .i64 0]:Array Value).all (·.oneCell')=true):=zH (by rw [←row16_zero];exact blk_one _ _)
  clear ho H0 HR H1
  obtain⟨z,hz⟩:∃z:Array Value,z=#[.int .i64 0,.int .i64 0,.int .i64 0,.int .i64 0,.int .i64 0,.int .i64 0,.int .i64 0,.int .i64 0,.int .i64 0,.int .i64 0,.int .i64 0,.int .i64 0,.int .i64 0,.int .i64 0,.int .i64 0,.int .i64 0]:=⟨_,rfl⟩
  rw [←hz] at Hd Hr z1 H2
  have Hz:=zH hz
  clear hz
  go_wp2_with (rw [←Hz.out];with_reducible refine wpList_store_row rfl 43 _ _ rfl (w.heap.size+1+1) z rfl rfl 43 _ Hr.out (by rw [z1.out];exact Hb16.out) rfl H2.out ?_)
  refine bodyPost_ret (results_cell_row rfl _ _ (w.heap.size+1+1) 43 z (0,0) _ rfl Hd.out.1 Tryz.underlying43 rfl (by rw [z1.out];exact Hb16.out)) rfl ⟨?_,Hd.out.2⟩
  rw [Hz.out]
theorem told_value(f s:Nat->Int)(w:World)(hf:Fits64 f):
  Calls Tryz.prog 171 #[.agg (rowN 16 (blk f)),.agg (rowN 4 (blk s)),.func (.func 172) #[] #[]] w fun e w'=>e = .returned (.agg (rowN 16 (blk (toldR valI f s))))/\Old w w':=by
 have Hs4:Hid ((Tryz.prog.info? 275).map (·.size)=some 4):=zH (by kernel_rfl)
 have Hb16:Hid ((Tryz.prog.info? 43).map (·.size)=some 16):=zH (by kernel_rfl)
 have HW:Hid (∀(v t:Int) (w:World),0<=t->t<=23->-9223372036854775808<=v->v<=9223372036854775807->Calls Tryz.prog 172 #[.int .i64 v,.int .i64 t] w fun e w'=>e = .returned (.int .i64 (valI v t))/\Old w w'):=zH fun v t w h0 h1 h2 h3=>value_any v t w h0 h1
 have HF:=zH hf
 have hst:=told_start w 43 275 #[.int .i64 0,.int .i64 0,.int .i64 0,.int .i64 0,.int .i64 0,.int .i64 0,.int .i64 0,.int .i64 0,.int .i64 0,.int .i64 0,.int .i64 0,.int .i64 0,.int .i64 0,.int .i64 0,.int .i64 0,.int .i64 0] f s
 have H0:=zH hst
 have HR:=zH (fun w=>SRight_any s w)
 clear hst hf
 have z1:Hid ((#[.int .i64 0,.int .i64 0,.int .i64 0,.int .i64 0,.int .i64 0,.int .i64 0,.int .i64 0,.int .i64 0,.int .i64 0,.int .i64 0,.int .i64 0,.int .i64 0,.int .i64 0,.int .i64 0,.int .i64 0,.int .i64 0]:Array Value).size=16):=zH rfl
 by_cases r:scalesP s
 ·have e:toldR valI f s=toldF valI f s:=by unfold toldR;rw [if_pos r]
  rw [e]
  clear e
  rw [decide_eq_true r] at HR
  have HP:=zH r
  clear r
  go_enter Tryz.func171,Tryz.ntmps171
  go_wp2_with (with_reducible refine wpList_load_row rfl 275 _ rfl (w.heap.size+1) rfl 275 (rowN 4 (blk s)) (0,0) _ H0.out.s Tryz.underlying275 rfl (by rw [rowN_size];exact Hs4.out) ?_)
  refine(HR.out _).mono ?_
  rintro e w1 ⟨rfl,ho⟩
  have H1:=zH (H0.out.keep ho)
  clear ho H0 HR
  obtain⟨z,hz⟩:∃z:Array Value,z=#[.int .i64 0,.int .i64 0,.int .i64 0,.int .i64 0,.int .i64 0,.int .i64 0,.int .i64 0,.int .i64 0,.int .i64 0,.int .i64 0,.int .i64 0,.int .i64 0,.int .i64 0,.int .i64 0,.int .i64 0,.int .i64 0]:=⟨_,rfl⟩
  rw [←hz] at H1 z1
  clear hz
  go_wp2_with (with_reducible refine wpList_load_row rfl 43 _ rfl w.heap.size rfl 43 (rowN 16 (blk f)) (0,0) _ H1.out.b Tryz.underlying43 rfl (by rw [rowN_size];exact Hb16.out) ?_)
  go_loopw [14] (fun i wr=>∃k:Nat,k<=16/\i = .int .i64 k/\Hid (ToldSt w 43 275 z (toldTo valI f s k) s wr)) (fun i _=>16-(intOf i).toNat)
  case atStart=>exact⟨0,by omega,rfl,H1⟩
  case round=>
   obtain⟨k,hk,rfl,hs⟩:=hrel
   clear H1
   by_cases hlt:k<16
   ·have k1:(0:Int)<=k:=by omega
    have k2:(k:Int)<16:=by omega
    have hat:∀w:World,(Instr.index 43 (.agg (rowN 16 (blk f))) (.int .i64 k)).run Tryz.prog w = .ok (.int .i64 (f k)) w:=fun w=>run_index_ints Tryz.underlying43 Tryz.underlying2 (fun _=>by kernel_rfl) f k hlt w
    have hsu:=toldTo_succ valI f s k
    obtain⟨m,hm⟩:∃m,k/4=m:=⟨_,rfl⟩
    have HB:=zH (fun w=>Band_nat k m w hlt hm)
    rw [hm] at hsu
    have m0:(0:Int)<=m:=by omega
    have m1:(m:Int)<4:=by omega
    clear hm
    have hsc:=hs.out.scale m (by omega)
    obtain⟨t0,t1⟩:=HP.out m (by omega)
    obtain⟨v0,v1⟩:=HF.out k
    have HC:=zH (fun w=>HW.out (f k) (s m) w t0 t1 v0 v1)
    have HS:=zH hsu
    clear hsu HW HF HP
    generalize f k=x at *
    generalize s m=t at *
    go_wp2_with fail
    refine(HB.out _).mono ?_
    rintro e w2 ⟨rfl,rfl⟩
    go_wp2_with fail
    refine(HC.out _).mono ?_
    rintro e w3 ⟨rfl,ho⟩
    have h3:=hs.out.keep ho
    obtain⟨c1,c2⟩:=h3.cell k hlt
    have h4:=h3.set k hlt (valI x t)
    rw [HS.out] at h4
    have H4:=zH h4
    clear h3 h4 ho hs hsc HB HC HS
    generalize valI x t=y at *
    go_wp2_with fail
    go_roundw
    case rel=>exact⟨k+1,by omega,by go_num,H4⟩
    case measure=>simp [intOf];omega
   ·obtain rfl:k=16:=by omega
    have hg:rowN 16 (blk (toldTo valI f s 16))=rowN 16 (blk (toldF valI f s)):=rowN_ext _ _ _ fun k hk=>by unfold blk toldTo;rw [if_pos hk]
    have Hg:=zH hs.out.b
    rw [hg] at Hg
    have Hr:=zH hs.out.r
    have Hd:=zH (hs.out.row (rowN 16 (blk (toldF valI f s))))
    have H1:Hid ((rowN 16 (blk (toldF valI f s))).all (·.oneCell')=true):=zH (blk_one _ _)
    clear hs hg HW HF HP
    have hsz:=rowN_size 16 (blk (toldF valI f s))
    go_wp2_with (first | (with_reducible refine wpList_load_row rfl 43 _ rfl w.heap.size rfl 43 (rowN 16 (blk (toldF valI f s))) (0,0) _ Hg.out Tryz.underlying43 rfl (by rw [rowN_size];exact Hb16.out) ?_) | (with_reducible refine wpList_store_row rfl 43 _ _ rfl (w.heap.size+1+1) (rowN 16 (blk (toldF valI f s))) rfl rfl 43 _ Hr.out (by rw [hsz];exact Hb16.out) (by rw [hsz];exact z1.out) H1.out ?_))
    exact bodyPost_ret (results_cell_row rfl _ _ (w.heap.size+1+1) 43 (rowN 16 (blk (toldF valI f s))) (0,0) _ rfl Hd.out.1 Tryz.underlying43 rfl (by rw [hsz];exact Hb16.out)) rfl ⟨rfl,Hd.out.2⟩
 ·have e:toldR valI f s=fun _=>0:=by unfold toldR;rw [if_neg r]
  rw [e,row16_zero]
  clear e
  rw [decide_eq_false r] at HR
  clear r HW HF
  go_enter Tryz.func171,Tryz.ntmps171
  go_wp2_with (with_reducible refine wpList_load_row rfl 275 _ rfl (w.heap.size+1) rfl 275 (rowN 4 (blk s)) (0,0) _ H0.out.s Tryz.underlying275 rfl (by rw [rowN_size];exact Hs4.out) ?_)
  refine(HR.out _).mono ?_
  rintro e w1 ⟨rfl,ho⟩
  have H1:=H0.out.keep ho
  have Hr:=zH H1.r
  have Hd:=zH (H1.row (rowN 16 (blk fun _=>0)))
  rw [row16_zero] at Hd
  have H2:Hid ((#[.int .i64 0,.int .i64 0,.int .i64 0,.int .i64 0,.int .i64 0,.int .i64 0,.int .i64 0,.int .i64 0,.int .i64 0,.int .i64 0,.int .i64 0,.int .i64 0,.int .i64 0,.int .i64 0,.int .i64 0,.int .i64 0]:Array Value).all (·.oneCell')=true):=zH (by rw [←row16_zero];exact blk_one _ _)
  clear ho H0 HR H1
  obtain⟨z,hz⟩:∃z:Array Value,z=#[.int .i64 0,.int .i64 0,.int .i64 0,.int .i64 0,.int .i64 0,.int .i64 0,.int .i64 0,.int .i64 0,.int .i64 0,.int .i64 0,.int .i64 0,.int .i64 0,.int .i64 0,.int .i64 0,.int .i64 0,.int .i64 0]:=⟨_,rfl⟩
  rw [←hz] at Hd Hr z1 H2
  have Hz:=zH hz
  clear hz
  go_wp2_with (rw [←Hz.out];with_reducible refine wpList_store_row rfl 43 _ _ rfl (w.heap.size+1+1) z rfl rfl 43 _ Hr.out (by rw [z1.out];exact Hb16.out) rfl H2.out ?_)
  refine bodyPost_ret (results_cell_row rfl _ _ (w.heap.size+1+1) 43 z (0,0) _ rfl Hd.out.1 Tryz.underlying43 rfl (by rw [z1.out];exact Hb16.out)) rfl ⟨?_,Hd.out.2⟩
  rw [Hz.out]
theorem Steps_any(f s:Nat->Int)(w:World)(hf:Fits64 f):
  Calls Tryz.prog 254 #[.agg (rowN 16 (blk f)),.agg (rowN 4 (blk s))] w fun e w'=>e = .returned (.agg (rowN 16 (blk (toldR stepI f s))))/\Old w w':=by
 have Hs4:Hid ((Tryz.prog.info? 275).map (·.size)=some 4):=zH (by kernel_rfl)
 have Hb16:Hid ((Tryz.prog.info? 43).map (·.size)=some 16):=zH (by kernel_rfl)
 have HT:=zH (fun w=>told_near f s w hf)
 have hst:=told_start w 43 275 #[.int .i64 0,.int .i64 0,.int .i64 0,.int .i64 0,.int .i64 0,.int .i64 0,.int .i64 0,.int .i64 0,.int .i64 0,.int .i64 0,.int .i64 0,.int .i64 0,.int .i64 0,.int .i64 0,.int .i64 0,.int .i64 0] f s
 have H0:=zH hst
 clear hst hf
 have z1:Hid ((#[.int .i64 0,.int .i64 0,.int .i64 0,.int .i64 0,.int .i64 0,.int .i64 0,.int .i64 0,.int .i64 0,.int .i64 0,.int .i64 0,.int .i64 0,.int .i64 0,.int .i64 0,.int .i64 0,.int .i64 0,.int .i64 0]:Array Value).size=16):=zH rfl
 go_enter Tryz.func254,Tryz.ntmps254
 go_wp2_with (first | (with_reducible refine wpList_load_row rfl 43 _ rfl w.heap.size rfl 43 (rowN 16 (blk f)) (0,0) _ H0.out.b Tryz.underlying43 rfl (by rw [rowN_size];exact Hb16.out) ?_) | (with_reducible refine wpList_load_row rfl 275 _ rfl (w.heap.size+1) rfl 275 (rowN 4 (blk s)) (0,0) _ H0.out.s Tryz.underlying275 rfl (by rw [rowN_size];exact Hs4.out) ?_))
 refine(HT.out _).mono ?_
 rintro e w1 ⟨rfl,ho⟩
 have H1:=H0.out.keep ho
 obtain⟨z,hz⟩:∃z:Array Value,z=#[.int .i64 0,.int .i64 0,.int .i64 0,.int .i64 0,.int .i64 0,.int .i64 0,.int .i64 0,.int .i64 0,.int .i64 0,.int .i64 0,.int .i64 0,.int .i64 0,.int .i64 0,.int .i64 0,.int .i64 0,.int .i64 0]:=⟨_,rfl⟩
 rw [←hz] at H1 z1
 have Hr:=zH H1.r
 have Hd:=zH (H1.row (rowN 16 (blk (toldR stepI f s))))
 have H2:Hid ((rowN 16 (blk (toldR stepI f s))).all (·.oneCell')=true):=zH (blk_one _ _)
 have hsz:=rowN_size 16 (blk (toldR stepI f s))
 clear ho H0 HT H1 hz
 go_wp2_with (with_reducible refine wpList_store_row rfl 43 _ _ rfl (w.heap.size+1+1) (rowN 16 (blk (toldR stepI f s))) rfl rfl 43 _ Hr.out (by rw [hsz];exact Hb16.out) (by rw [hsz];exact z1.out) H2.out ?_)
 exact bodyPost_ret (results_cell_row rfl _ _ (w.heap.size+1+1) 43 (rowN 16 (blk (toldR stepI f s))) (0,0) _ rfl Hd.out.1 Tryz.underlying43 rfl (by rw [hsz];exact Hb16.out)) rfl ⟨rfl,Hd.out.2⟩
theorem Values_any(f s:Nat->Int)(w:World)(hf:Fits64 f):
  Calls Tryz.prog 127 #[.agg (rowN 16 (blk f)),.agg (rowN 4 (blk s))] w fun e w'=>e = .returned (.agg (rowN 16 (blk (toldR valI f s))))/\Old w w':=by
 have Hs4:Hid ((Tryz.prog.info? 275).map (·.size)=some 4):=zH (by kernel_rfl)
 have Hb16:Hid ((Tryz.prog.info? 43).map (·.size)=some 16):=zH (by kernel_rfl)
 have HT:=zH (fun w=>told_value f s w hf)
 have hst:=told_start w 43 275 #[.int .i64 0,.int .i64 0,.int .i64 0,.int .i64 0,.int .i64 0,.int .i64 0,.int .i64 0,.int .i64 0,.int .i64 0,.int .i64 0,.int .i64 0,.int .i64 0,.int .i64 0,.int .i64 0,.int .i64 0,.int .i64 0] f s
 have H0:=zH hst
 clear hst hf
 have z1:Hid ((#[.int .i64 0,.int .i64 0,.int .i64 0,.int .i64 0,.int .i64 0,.int .i64 0,.int .i64 0,.int .i64 0,.int .i64 0,.int .i64 0,.int .i64 0,.int .i64 0,.int .i64 0,.int .i64 0,.int .i64 0,.int .i64 0]:Array Value).size=16):=zH rfl
 go_enter Tryz.func127,Tryz.ntmps127
 go_wp2_with (first | (with_reducible refine wpList_load_row rfl 43 _ rfl w.heap.size rfl 43 (rowN 16 (blk f)) (0,0) _ H0.out.b Tryz.underlying43 rfl (by rw [rowN_size];exact Hb16.out) ?_) | (with_reducible refine wpList_load_row rfl 275 _ rfl (w.heap.size+1) rfl 275 (rowN 4 (blk s)) (0,0) _ H0.out.s Tryz.underlying275 rfl (by rw [rowN_size];exact Hs4.out) ?_))
 refine(HT.out _).mono ?_
 rintro e w1 ⟨rfl,ho⟩
 have H1:=H0.out.keep ho
 obtain⟨z,hz⟩:∃z:Array Value,z=#[.int .i64 0,.int .i64 0,.int .i64 0,.int .i64 0,.int .i64 0,.int .i64 0,.int .i64 0,.int .i64 0,.int .i64 0,.int .i64 0,.int .i64 0,.int .i64 0,.int .i64 0,.int .i64 0,.int .i64 0,.int .i64 0]:=⟨_,rfl⟩
 rw [←hz] at H1 z1
 have Hr:=zH H1.r
 have Hd:=zH (H1.row (rowN 16 (blk (toldR valI f s))))
 have H2:Hid ((rowN 16 (blk (toldR valI f s))).all (·.oneCell')=true):=zH (blk_one _ _)
 have hsz:=rowN_size 16 (blk (toldR valI f s))
 clear ho H0 HT H1 hz
 go_wp2_with (with_reducible refine wpList_store_row rfl 43 _ _ rfl (w.heap.size+1+1) (rowN 16 (blk (toldR valI f s))) rfl rfl 43 _ Hr.out (by rw [hsz];exact Hb16.out) (by rw [hsz];exact z1.out) H2.out ?_)
 exact bodyPost_ret (results_cell_row rfl _ _ (w.heap.size+1+1) 43 (rowN 16 (blk (toldR valI f s))) (0,0) _ rfl Hd.out.1 Tryz.underlying43 rfl (by rw [hsz];exact Hb16.out)) rfl ⟨rfl,Hd.out.2⟩
def sumTo(g:Nat->Int):Nat->Int
 | 0=>0
 | n+1=>sumTo g n+g n
theorem sumTo_bd(g:Nat->Int)(n:Nat)(h:∀k,k<n->-1099511627776<=g k/\g k<=1099511627776):-(1099511627776*(n:Int))<=sumTo g n/\sumTo g n<=1099511627776*(n:Int):=by
 induction n with
 | zero=>exact⟨by simp [sumTo],by simp [sumTo]⟩
 | succ n ih=>
  have h1:=ih fun k hk=>h k (by omega)
  have h2:=h n (by omega)
  unfold sumTo
  omega
theorem Cost_any(g:Nat->Int)(w:World)(hg:∀k,k<4->-1099511627776<=g k/\g k<=1099511627776):
  Calls Tryz.prog 261 #[.agg (rowN 4 (blk g))] w fun e w'=>e = .returned (.int .i64 (4*sumTo g 4))/\Old w w':=by
 have Hw4:Hid ((Tryz.prog.info? 44).map (·.size)=some 4):=zH (by kernel_rfl)
 have hb:Hid ((w.alloc (.cells (rowN 4 (blk g)) 44)).heap[w.heap.size]?=some (.cells (rowN 4 (blk g)) 44 (0,0))):=zH (heap_alloc_new _ _)
 have HG:=zH hg
 have HB:=zH (fun n (hn:n<=4)=>sumTo_bd g n fun k hk=>hg k (by omega))
 clear hg
 go_enter Tryz.func261,Tryz.ntmps261
 go_wp2_with (with_reducible refine wpList_load_row rfl 44 _ rfl w.heap.size rfl 44 (rowN 4 (blk g)) (0,0) _ hb.out Tryz.underlying44 rfl (by rw [rowN_size];exact Hw4.out) ?_)
 go_loop [3,7] (fun s i=>∃k:Nat,k<=4/\i = .int .i64 k/\s = .int .i64 (sumTo g k)) (fun _ i=>4-(intOf i).toNat)
 case atStart=>exact⟨0,by omega,rfl,rfl⟩
 case round=>
  obtain⟨k,hk,rfl,rfl⟩:=hrel
  obtain⟨s0,s1⟩:=HB.out k hk
  by_cases hlt:k<4
  ·have i1:(0:Int)<=k:=by omega
   have i2:(k:Int)<4:=by omega
   have hat:∀w:World,(Instr.index 44 (.agg (rowN 4 (blk g))) (.int .i64 k)).run Tryz.prog w = .ok (.int .i64 (g k)) w:=fun w=>run_index_ints Tryz.underlying44 Tryz.underlying3 (fun _=>by kernel_rfl) g k hlt w
   have hsu:sumTo g (k+1)=sumTo g k+g k:=rfl
   have HS:=zH hsu
   obtain⟨g0,g1⟩:=HG.out k hlt
   clear hsu HB HG
   generalize sumTo g k=s at *
   generalize g k=x at *
   have q1:wrap64 (s+x)=s+x:=IntWalk.wrap64_in _ (by omega)
   go_wp2
   go_round
   case rel=>exact⟨k+1,by omega,by go_num,by rw [HS.out]⟩
   case measure=>simp [intOf];omega
  ·obtain rfl:k=4:=by omega
   obtain⟨s,hs⟩:∃s,sumTo g 4=s:=⟨_,rfl⟩
   have Hs:=zH hs
   rw [hs] at s0 s1 ⊢
   clear HB HG hs
   have q1:wrap64 (4*s)=4*s:=IntWalk.wrap64_in _ (by omega)
   go_wp2
   go_ret
   exact⟨by rw [Hs.out];rfl,Old.alloc _ _⟩
set_option maxHeartbeats 1000000 in
theorem IsName_any(s:ByteArray)(w:World)(hs:s.size<=9223372036854775807):
  Calls Tryz.prog 180 #[.string s] w fun e w'=>e = .returned (.bool (nameB s))/\Old w w':=by
 by_cases h0:s.size=0
 ·rw [nameB_no (s:=s) (fun h=>by have:=h.1.1;omega)]
  have HO:=zH (Old.refl w)
  go_enter Tryz.func180,Tryz.ntmps180
  go_wp2
  go_ret
  exact⟨rfl,HO.out⟩
 by_cases h1:32<s.size
 ·rw [nameB_no (s:=s) (fun h=>by have:=h.1.2;omega)]
  have HO:=zH (Old.refl w)
  go_enter Tryz.func180,Tryz.ntmps180
  go_wp2
  go_ret
  exact⟨rfl,HO.out⟩
 obtain⟨cap,w1,hconv,ho,hlt,hc⟩:=conv_bytes (P:=Tryz.prog) w 9 34 5 s Tryz.underlying9 Tryz.underlying34 Tryz.underlying5
 generalize w.heap.size=g at *
 obtain⟨N,hN⟩:∃N,N=s.size:=⟨_,rfl⟩
 obtain⟨r,hr⟩:∃r,r=nameB s:=⟨_,rfl⟩
 have HG:=zH (show ∀k:Nat,k<N->¬(33<=bsI s k/\bsI s k<=126)->r=false from fun k hk h=>by rw [hr];exact nameB_no fun h'=>h (h'.2 k (by omega)))
 have HY:=zH (show (∀j,j<N->33<=bsI s j/\bsI s j<=126)->r=true from fun h=>by rw [hr];exact nameB_yes ⟨⟨by omega,by omega⟩,fun i hi=>h i (by omega)⟩)
 rw [←hr]
 rw [←hN] at hconv hc h0 h1
 have hl:(s.size:Int)=N:=by rw [hN]
 generalize bsI s=F at *
 have HO:=zH ho
 have HC:=zH hc
 have q0:((N:Int) == 0)=false:=by simpa using h0
 have q1:decide (32<(N:Int))=false:=decide_eq_false (by omega)
 have q2:N<=32:=by omega
 clear hr ho hc hs hN h0 h1
 go_enter Tryz.func180,Tryz.ntmps180
 go_wp2_with fail
 clear hconv q0 q1
 go_loop [16] (fun i=>∃k:Nat,k<=N/\i = .int .i64 k/\Hid (∀j,j<k->33<=F j/\F j<=126)) (fun i=>N-(intOf i).toNat)
 case atStart=>exact⟨0,by omega,rfl,zH fun j hj=>by omega⟩
 case round=>
  obtain⟨k,hk,rfl,HJ⟩:=hrel
  by_cases hkn:k<N
  ·have hck:=HC.out k hkn
   by_cases c1:F k<33
   ·have hrf:=HG.out k hkn (by omega)
    have d1:decide (F k<33)=true:=decide_eq_true c1
    clear HC HG HY HJ c1
    generalize F k=x at *
    go_wp2_with fail
    go_ret
    exact⟨rfl,HO.out⟩
   by_cases c2:126<F k
   ·have hrf:=HG.out k hkn (by omega)
    have d1:decide (F k<33)=false:=decide_eq_false c1
    have d2:decide (126<F k)=true:=decide_eq_true c2
    clear HC HG HY HJ c1 c2
    generalize F k=x at *
    go_wp2_with fail
    go_ret
    exact⟨rfl,HO.out⟩
   have HJ2:=zH (show ∀j,j<k+1->33<=F j/\F j<=126 from fun j hj=>by
    by_cases e:j=k
    ·subst e;omega
    ·exact HJ.out j (by omega))
   have d1:decide (F k<33)=false:=decide_eq_false c1
   have d2:decide (126<F k)=false:=decide_eq_false c2
   obtain⟨x,hx⟩:∃x,x=F k:=⟨_,rfl⟩
   rw [←hx] at hck d1 d2
   clear HC HG HY HJ c1 c2 hx
   go_wp2_with fail
   go_round
   case rel=>exact⟨k+1,by omega,by go_num,HJ2⟩
   case measure=>simp [intOf];omega
  ·have hrt:=HY.out fun j hj=>HJ.out j (by omega)
   clear HC HG HY HJ
   go_wp2_with fail
   go_ret
   exact⟨rfl,HO.out⟩
def metaV(s:ByteArray)(n r c:Int)(lp:Bool)(a b x y:Int):Value:=.agg #[.string s,.int .i64 n,.int .i64 r,.int .i64 c,.bool lp,.int .i64 a,.int .i64 b,.int .i64 x,.int .i64 y]
def MetaB(w:World)(g:Nat)(s:ByteArray)(n r c:Int)(lp:Bool)(a b x y:Int):Prop:=w.heap[g]?=some (.cells #[.string s,.int .i64 n,.int .i64 r,.int .i64 c,.bool lp,.int .i64 a,.int .i64 b,.int .i64 x,.int .i64 y] 85 (0,0))
theorem MetaB.new(w:World)(s:ByteArray)(n r c:Int)(lp:Bool)(a b x y:Int):MetaB (w.alloc (.cells #[.string s,.int .i64 n,.int .i64 r,.int .i64 c,.bool lp,.int .i64 a,.int .i64 b,.int .i64 x,.int .i64 y] 85)) w.heap.size s n r c lp a b x y:=heap_alloc_new _ _
theorem MetaB.old{w w':World}{g:Nat}{s:ByteArray}{n r c:Int}{lp:Bool}{a b x y:Int}(h:MetaB w g s n r c lp a b x y)(k:Old w w'):MetaB w' g s n r c lp a b x y:=(k.block g (lt_of_block h)).trans h
theorem MetaB.cells{w:World}{g:Nat}{s:ByteArray}{n r c:Int}{lp:Bool}{a b x y:Int}(h:MetaB w g s n r c lp a b x y):
  w.cell? ⟨g,0,none⟩=some (.string s)/\w.cell? ⟨g,1,none⟩=some (.int .i64 n)/\w.cell? ⟨g,2,none⟩=some (.int .i64 r)/\w.cell? ⟨g,3,none⟩=some (.int .i64 c)/\w.cell? ⟨g,4,none⟩=some (.bool lp)/\w.cell? ⟨g,5,none⟩=some (.int .i64 a)/\w.cell? ⟨g,6,none⟩=some (.int .i64 b)/\w.cell? ⟨g,7,none⟩=some (.int .i64 x)/\w.cell? ⟨g,8,none⟩=some (.int .i64 y):=by
 unfold MetaB at h
 simp [World.cell?,h]
theorem ret_bool{a b:Bool}(h:a=b):Ending.returned (.bool a) = .returned (.bool b):=by rw [h]
set_option maxHeartbeats 1000000 in
theorem mayLoop_any(s:ByteArray)(n r c:Int)(lp:Bool)(a b x y:Int)(w:World):
  Calls Tryz.prog 181 #[metaV s n r c lp a b x y] w fun e w'=>e = .returned (.bool (decide (loopP lp a b n)))/\Old w w':=by
 unfold metaV
 have HO:=zH (Old.refl w)
 cases lp
 ·have HE:=zH (show (decide (a=0) && decide (b=0))=decide (loopP false a b n) by unfold loopP;simp)
  go_enter Tryz.func181,Tryz.ntmps181
  go_wp2_with fail
  all_goals
   go_ret
   refine⟨ret_bool (Eq.trans ?_ HE.out),HO.out.alloc' _⟩
   rw [Bool.eq_iff_iff]
   first | (simp;done) | (simp;omega)
 ·have HE:=zH (show (decide (0<=a) && decide (a<b) && decide (b<=n))=decide (loopP true a b n) by unfold loopP;simp [Bool.and_assoc])
  go_enter Tryz.func181,Tryz.ntmps181
  go_wp2_with fail
  all_goals
   go_ret
   refine⟨ret_bool (Eq.trans ?_ HE.out),HO.out.alloc' _⟩
   rw [Bool.eq_iff_iff]
   first | (simp;done) | (simp;omega)
set_option maxHeartbeats 2000000 in
theorem wrong_any(s:ByteArray)(n r c:Int)(lp:Bool)(a b x y:Int)(w:World)(hs:s.size<=9223372036854775807):
  Calls Tryz.prog 144 #[metaV s n r c lp a b x y] w fun e w'=>e = .returned (.int .i64 (wrongI s n r c lp a b))/\Old w w':=by
 have HN:=zH (fun w=>IsName_any s w hs)
 have HL:=zH (fun w=>mayLoop_any s n r c lp a b x y w)
 obtain⟨v,hv⟩:∃v,v=wrongI s n r c lp a b:=⟨_,rfl⟩
 rw [←hv]
 obtain⟨q,hq⟩:∃q,q=nameB s:=⟨_,rfl⟩
 rw [←hq] at HN
 obtain⟨l,hl⟩:∃l,l=decide (loopP lp a b n):=⟨_,rfl⟩
 rw [←hl] at HL
 have h1:wrongI s n r c lp a b=if q=false then 10 else if r<1\/192000<r then 14 else if (c<1\/2<c)\/n<1\/1048576<n then 12 else if l=true then 0 else 13:=by unfold wrongI;rw [hq,hl];simp
 rw [h1] at hv
 have HV:=zH hv
 clear h1 hv hq hl hs
 unfold metaV at *
 obtain⟨W,hW⟩:∃W,W=w.alloc (.cells #[.string s,.int .i64 n,.int .i64 r,.int .i64 c,.bool lp,.int .i64 a,.int .i64 b,.int .i64 x,.int .i64 y] 85):=⟨_,rfl⟩
 obtain⟨g,hg⟩:∃g,g=w.heap.size:=⟨_,rfl⟩
 have hM:=MetaB.new w s n r c lp a b x y
 have hO:=Old.alloc w (.cells #[.string s,.int .i64 n,.int .i64 r,.int .i64 c,.bool lp,.int .i64 a,.int .i64 b,.int .i64 x,.int .i64 y] 85)
 rw [←hW,←hg] at hM
 rw [←hW] at hO
 have HM:=zH hM
 have HO:=zH hO
 have HW:=zH hW
 have HG:=zH hg
 clear hM hO hW hg
 go_enter Tryz.func144,Tryz.ntmps144
 go_wp2_with fail
 rw [←HW.out,←HG.out]
 refine(HN.out _).mono ?_
 rintro e w1 ⟨rfl,ho1⟩
 have HM1:=zH (HM.out.old ho1)
 have HO1:=zH (HO.out.trans ho1)
 obtain⟨c0,c1,c2,c3,c4,c5,c6,c7,c8⟩:=HM1.out.cells
 clear HM HO HW HG HN ho1
 cases q
 ·go_wp2_with fail
  go_ret
  exact⟨ret_int (by rw [HV.out];rfl),HO1.out⟩
 go_wp2_with fail
 all_goals try (go_ret;refine⟨ret_int ?_,HO1.out⟩;rw [HV.out,if_neg (by simp)];first | (rw [if_pos (by omega)];done) | (rw [if_neg (by omega),if_pos (by omega)];done))
 ·refine(HL.out _).mono ?_
  rintro e w2 ⟨rfl,ho2⟩
  have HO2:=zH (HO1.out.trans ho2)
  clear ho2
  cases l
  ·go_wp2_with fail
   go_ret
   refine⟨ret_int ?_,HO2.out⟩
   rw [HV.out,if_neg (by simp),if_neg (by omega),if_neg (by omega)]
   simp
  ·go_wp2_with fail
   go_ret
   refine⟨ret_int ?_,HO2.out⟩
   rw [HV.out,if_neg (by simp),if_neg (by omega),if_neg (by omega)]
   simp
set_option maxHeartbeats 2000000 in
theorem RightMeta_any(s:ByteArray)(n r c:Int)(lp:Bool)(a b x y:Int)(w:World)(hs:s.size<=9223372036854775807):
  Calls Tryz.prog 155 #[metaV s n r c lp a b x y] w fun e w'=>e = .returned (.bool (wrongI s n r c lp a b == 0))/\Old w w':=by
 have HN:=zH (fun w=>wrong_any s n r c lp a b x y w hs)
 generalize wrongI s n r c lp a b=v at *
 have HO:=zH (Old.alloc w (.cells #[.string s,.int .i64 n,.int .i64 r,.int .i64 c,.bool lp,.int .i64 a,.int .i64 b,.int .i64 x,.int .i64 y] 85))
 clear hs
 unfold metaV at *
 go_enter Tryz.func155,Tryz.ntmps155
 go_wp2_with fail
 refine(HN.out _).mono ?_
 rintro e w1 ⟨rfl,ho1⟩
 have HO1:=zH (HO.out.trans ho1)
 clear ho1
 go_wp2_with fail
 go_ret
 exact⟨rfl,HO1.out⟩
def SmB(w:World)(g:Nat)(S:Smp):Prop:=w.heap[g]?=some (.cells S.cells 90 (0,0))
theorem SmB.new(w:World)(S:Smp):SmB (w.alloc (.cells S.cells 90)) w.heap.size S:=heap_alloc_new _ _
theorem SmB.old{w w':World}{g:Nat}{S:Smp}(h:SmB w g S)(k:Old w w'):SmB w' g S:=(k.block g (lt_of_block h)).trans h
theorem SmB.at{w:World}{g:Nat}{S:Smp}(h:SmB w g S):
  w.cell? ⟨g,0,none⟩=some (.string S.s)/\w.cell? ⟨g,1,none⟩=some (.int .i64 S.r)/\w.cell? ⟨g,2,none⟩=some (.bool S.lp)/\w.cell? ⟨g,3,none⟩=some (.int .i64 S.a)/\w.cell? ⟨g,4,none⟩=some (.int .i64 S.b)/\w.cell? ⟨g,5,none⟩=some (.slice S.p S.n S.c):=by
 unfold SmB Smp.cells at h
 simp [World.cell?,h]
set_option maxHeartbeats 1000000 in
theorem Length_any(S:Smp)(w:World)(hs:SmOk w S):
  Calls Tryz.prog 79 #[S.val] w fun e w'=>e = .returned (.int .i64 S.len)/\Old w w':=by
 have HO:=zH (Old.alloc w (.cells S.cells 90))
 obtain⟨_,_,_,_,_,c5⟩:=(SmB.new w S).at
 unfold Smp.val
 by_cases h0:S.n=0
 ·have e1:S.len=0:=by unfold Smp.len;rw [if_pos h0]
  have q0:((S.n:Int) == 0)=true:=by simpa using h0
  rw [e1]
  clear h0 e1 hs
  go_enter Tryz.func79,Tryz.ntmps79
  go_wp2_with fail
  go_ret
  exact⟨rfl,HO.out⟩
 ·have e1:S.len=(S.M 0:Int):=by unfold Smp.len;rw [if_neg h0]
  have q0:((S.n:Int) == 0)=false:=by simpa using h0
  obtain⟨g,o,hp,hg,hc⟩:=hs.rows.cell (by omega)
  have c0:=((Old.alloc w (.cells S.cells 90)).cell (a:=⟨g,o+0,none⟩) hg).trans (hc 0 (by omega))
  rw [Nat.add_zero] at c0
  rw [e1]
  have b0:(0:Int)<S.n:=by omega
  rw [hp] at c5
  clear h0 e1 hs hc hp
  go_enter Tryz.func79,Tryz.ntmps79
  go_wp2_with fail
  go_ret
  exact⟨rfl,HO.out⟩
structure NPair where
 lo:Nat
 hi:Nat
 tn:Nat
 h1:lo<16
 h2:hi<16
 h3:lo≠hi
 h4:tn<8
def NPair.val(x:NPair):Value:=.agg #[.int .i64 x.lo,.int .i64 x.hi,.int .i64 x.tn]
def apart(r:Nat):Nat:=2 ^ r
theorem tn_lt(r i:Nat):(3*i+5*r)%8<8:=Nat.mod_lt _ (by decide)
def pairOf(r i:Nat)(h:i+apart r<16):NPair:=
 ⟨i,i+apart r,(3*i+5*r)%8,by omega,h,by have:0<apart r:=Nat.two_pow_pos r;omega,tn_lt r i⟩
def pairR(r i:Nat):Option NPair:=if h:i/apart r%2=0/\i+apart r<16 then some (pairOf r i h.2) else none
def pairs(r n:Nat):List NPair:=(List.range n).filterMap (pairR r)
theorem pairs_yes(r n:Nat)(h:n/apart r%2=0)(h2:n+apart r<16):pairs r (n+1)=pairs r n ++ [pairOf r n h2]:=by
 unfold pairs
 rw [List.range_succ,List.filterMap_append,List.filterMap_cons,List.filterMap_nil]
 unfold pairR
 rw [dif_pos ⟨h,h2⟩]
theorem pairs_no(r n:Nat)(h:¬n/apart r%2=0):pairs r (n+1)=pairs r n:=by
 unfold pairs
 rw [List.range_succ,List.filterMap_append,List.filterMap_cons,List.filterMap_nil]
 unfold pairR
 rw [dif_neg (fun e=>h e.1),List.append_nil]
theorem low_in(r:Nat)(hr:r<4)(i:Nat)(hi:i<16)(h:i/apart r%2=0):i+apart r<16:=by
 revert i
 rcases(by omega:r=0\/r=1\/r=2\/r=3) with rfl | rfl | rfl | rfl <;> decide
def Apart(x y:NPair):Prop:=x.lo≠y.lo/\x.lo≠y.hi/\x.hi≠y.lo/\x.hi≠y.hi
instance (x y:NPair):Decidable (Apart x y):=by unfold Apart;infer_instance
theorem pairs_apart(r:Nat)(hr:r<4):(pairs r 16).Pairwise Apart:=by
 rcases(by omega:r=0\/r=1\/r=2\/r=3) with rfl | rfl | rfl | rfl <;> decide +kernel
def stepT(f:Nat->Int)(x:NPair):Nat->Int:=fun k=>
 if k=x.hi then turnWB (f x.lo) (f x.hi) (turnP x.tn) (turnU x.tn) else if k=x.lo then turnWA (f x.lo) (f x.hi) (turnP x.tn) (turnU x.tn) else f k
def stepB(f:Nat->Int)(x:NPair):Nat->Int:=fun k=>
 if k=x.hi then backWB (f x.lo) (f x.hi) (turnP x.tn) (turnU x.tn) else if k=x.lo then backWA (f x.lo) (f x.hi) (turnP x.tn) (turnU x.tn) else f k
theorem blk_stepT(f:Nat->Int)(x:NPair):updN (updN (blk f) x.lo (.int .i64 (turnWA (f x.lo) (f x.hi) (turnP x.tn) (turnU x.tn)))) x.hi (.int .i64 (turnWB (f x.lo) (f x.hi) (turnP x.tn) (turnU x.tn)))=blk (stepT f x):=by
 rw [blk_upd,blk_upd];rfl
theorem blk_stepB(f:Nat->Int)(x:NPair):updN (updN (blk f) x.lo (.int .i64 (backWA (f x.lo) (f x.hi) (turnP x.tn) (turnU x.tn)))) x.hi (.int .i64 (backWB (f x.lo) (f x.hi) (turnP x.tn) (turnU x.tn)))=blk (stepB f x):=by
 rw [blk_upd,blk_upd];rfl
def fwdR(r:Nat)(f:Nat->Int):Nat->Int:=(pairs r 16).foldl stepT f
def bckR(r:Nat)(f:Nat->Int):Nat->Int:=(pairs r 16).foldl stepB f
def fwdN:Nat->(Nat->Int)->Nat->Int
 | 0,f=>f
 | n+1,f=>fwdR n (fwdN n f)
def bckN:Nat->(Nat->Int)->Nat->Int
 | 0,f=>f
 | n+1,f=>bckR (3-n) (bckN n f)
theorem stepT_in{f:Nat->Int}(h:Fits64 f)(x:NPair):Fits64 (stepT f x):=by
 intro k
 unfold stepT
 split
 ·exact wrap64_bd _
 ·split
  ·exact wrap64_bd _
  ·exact h k
theorem foldT_in:∀(l:List NPair) {f:Nat->Int},Fits64 f->Fits64 (l.foldl stepT f)
 | [],_,h=>h
 | x :: l,_,h=>foldT_in l (stepT_in h x)
theorem fwdN_in(n:Nat){f:Nat->Int}(h:Fits64 f):Fits64 (fwdN n f):=by
 induction n with
 | zero=>exact h
 | succ n ih=>exact foldT_in _ ih
theorem back_one{f:Nat->Int}(h:Fits64 f)(x:NPair):stepB (stepT f x) x=f:=by
 have e:=backW_turnW (f x.lo) (f x.hi) (turnP x.tn) (turnU x.tn) (h x.lo).1 (h x.lo).2 (h x.hi).1 (h x.hi).2
 have l1:stepT f x x.lo=turnWA (f x.lo) (f x.hi) (turnP x.tn) (turnU x.tn):=by unfold stepT;rw [if_neg x.h3,if_pos rfl]
 have l2:stepT f x x.hi=turnWB (f x.lo) (f x.hi) (turnP x.tn) (turnU x.tn):=by unfold stepT;rw [if_pos rfl]
 funext k
 unfold stepB
 rw [l1,l2,e.1,e.2]
 split
 ·rename_i hk;rw [hk]
 ·rename_i hk
  split
  ·rename_i hk2;rw [hk2]
  ·rename_i hk2
   unfold stepT
   rw [if_neg hk,if_neg hk2]
theorem back_other(g:Nat->Int){x y:NPair}(h:Apart x y):stepB (stepT g y) x=stepT (stepB g x) y:=by
 obtain⟨h1,h2,h3,h4⟩:=h
 have a1:stepT g y x.lo=g x.lo:=by unfold stepT;rw [if_neg h2,if_neg h1]
 have a2:stepT g y x.hi=g x.hi:=by unfold stepT;rw [if_neg h4,if_neg h3]
 have b1:stepB g x y.lo=g y.lo:=by unfold stepB;rw [if_neg (Ne.symm h3),if_neg (Ne.symm h1)]
 have b2:stepB g x y.hi=g y.hi:=by unfold stepB;rw [if_neg (Ne.symm h4),if_neg (Ne.symm h2)]
 funext k
 show (if k=x.hi then backWB (stepT g y x.lo) (stepT g y x.hi) (turnP x.tn) (turnU x.tn) else if k=x.lo then backWA (stepT g y x.lo) (stepT g y x.hi) (turnP x.tn) (turnU x.tn) else stepT g y k) =
  (if k=y.hi then turnWB (stepB g x y.lo) (stepB g x y.hi) (turnP y.tn) (turnU y.tn) else if k=y.lo then turnWA (stepB g x y.lo) (stepB g x y.hi) (turnP y.tn) (turnU y.tn) else stepB g x k)
 rw [a1,a2,b1,b2]
 unfold stepT stepB
 by_cases c1:k=x.hi
 ·rw [if_pos c1,if_neg (fun e=>h4 (c1.symm.trans e)),if_neg (fun e=>h3 (c1.symm.trans e)),if_pos c1]
 ·rw [if_neg c1]
  by_cases c2:k=x.lo
  ·rw [if_pos c2,if_neg (fun e=>h2 (c2.symm.trans e)),if_neg (fun e=>h1 (c2.symm.trans e)),if_neg c1,if_pos c2]
  ·rw [if_neg c2,if_neg c1,if_neg c2]
theorem back_others:∀(l:List NPair) (g:Nat->Int) (x:NPair),(∀y∈l,Apart x y)->stepB (l.foldl stepT g) x=l.foldl stepT (stepB g x)
 | [],_,_,_=>rfl
 | y :: l,g,x,h=>by
  rw [List.foldl_cons,back_others l _ x (fun z hz=>h z (by simp [hz])),back_other g (h y (by simp)),List.foldl_cons]
theorem back_all:∀(l:List NPair) (f:Nat->Int),l.Pairwise Apart->Fits64 f->l.foldl stepB (l.foldl stepT f)=f
 | [],_,_,_=>rfl
 | x :: l,f,h,hf=>by
  obtain⟨h1,h2⟩:=List.pairwise_cons.1 h
  rw [List.foldl_cons,List.foldl_cons,back_others l _ x h1,back_one hf,back_all l f h2 hf]
theorem bck_fwdR(r:Nat)(hr:r<4){f:Nat->Int}(h:Fits64 f):bckR r (fwdR r f)=f:=back_all _ f (pairs_apart r hr) h
theorem bck_fwd{f:Nat->Int}(h:Fits64 f):bckN 4 (fwdN 4 f)=f:=by
 show bckR 0 (bckR 1 (bckR 2 (bckR 3 (fwdR 3 (fwdR 2 (fwdR 1 (fwdR 0 f)))))))=f
 have i1:Fits64 (fwdR 0 f):=fwdN_in 1 h
 have i2:Fits64 (fwdR 1 (fwdR 0 f)):=fwdN_in 2 h
 have i3:Fits64 (fwdR 2 (fwdR 1 (fwdR 0 f))):=fwdN_in 3 h
 rw [bck_fwdR 3 (by decide) i3,bck_fwdR 2 (by decide) i2,bck_fwdR 1 (by decide) i1,bck_fwdR 0 (by decide) h]
def Within(M:Int)(f:Nat->Int):Prop:=∀k,-M<=f k/\f k<=M
theorem stepT_near{f:Nat->Int}{M:Int}(hM:M<=4398046511104)(x:NPair)(h1:-M<=f x.lo/\f x.lo<=M)(h2:-M<=f x.hi/\f x.hi<=M):
  (-(3*M+4)<=stepT f x x.lo/\stepT f x x.lo<=3*M+4)/\(-(3*M+4)<=stepT f x x.hi/\stepT f x x.hi<=3*M+4):=by
 obtain⟨p0,p1,u0,u1⟩:=turn_bds x.tn x.h4
 have e:=turnW_eq (f x.lo) (f x.hi) (turnP x.tn) (turnU x.tn) M h1.1 h1.2 h2.1 h2.2 p0 (by omega) u0 u1 hM
 have n:=turn_near (f x.lo) (f x.hi) (turnP x.tn) (turnU x.tn) M h1.1 h1.2 h2.1 h2.2 p0 p1 u0 u1
 unfold stepT
 rw [if_neg x.h3,if_pos rfl,if_pos rfl,e.1,e.2]
 exact n
theorem foldT_near{M:Int}(hM:M<=4398046511104):∀(l:List NPair) (f:Nat->Int),l.Pairwise Apart->Within (3*M+4) f->(∀x∈l,(-M<=f x.lo/\f x.lo<=M)/\(-M<=f x.hi/\f x.hi<=M))->Within (3*M+4) (l.foldl stepT f)
 | [],_,_,h,_=>h
 | x :: l,f,ha,h,hl=>by
  obtain⟨h1,h2⟩:=List.pairwise_cons.1 ha
  obtain⟨k1,k2⟩:=hl x (by simp)
  have n:=stepT_near hM x k1 k2
  refine foldT_near hM l _ h2 (fun k=>?_) (fun y hy=>?_)
  ·by_cases c1:k=x.hi
   ·rw [c1];exact n.2
   ·by_cases c2:k=x.lo
    ·rw [c2];exact n.1
    ·unfold stepT;rw [if_neg c1,if_neg c2];exact h k
  ·obtain⟨a1,a2,a3,a4⟩:=h1 y hy
   have b1:stepT f x y.lo=f y.lo:=by unfold stepT;rw [if_neg (Ne.symm a3),if_neg (Ne.symm a1)]
   have b2:stepT f x y.hi=f y.hi:=by unfold stepT;rw [if_neg (Ne.symm a4),if_neg (Ne.symm a2)]
   rw [b1,b2]
   exact hl y (by simp [hy])
theorem fwdR_near(r:Nat)(hr:r<4){M:Int}(h0:0<=M)(hM:M<=4398046511104){f:Nat->Int}(h:Within M f):Within (3*M+4) (fwdR r f):=
 foldT_near hM _ f (pairs_apart r hr) (fun k=>by have:=h k;omega) (fun x _=>⟨h x.lo,h x.hi⟩)
theorem fwd_near{M:Int}(h0:0<=M)(hM:M<=4294967296){f:Nat->Int}(h:Within M f):Within (81*M+160) (fwdN 4 f):=by
 have a:=fwdR_near 0 (by decide) h0 (by omega) h
 have b:=fwdR_near 1 (by decide) (by omega) (by omega) a
 have c:=fwdR_near 2 (by decide) (by omega) (by omega) b
 have d:=fwdR_near 3 (by decide) (by omega) (by omega) c
 intro k
 have:=d k
 show -(81*M+160)<=fwdR 3 (fwdR 2 (fwdR 1 (fwdR 0 f))) k/\fwdR 3 (fwdR 2 (fwdR 1 (fwdR 0 f))) k<=81*M+160
 omega
def nearP(f:Nat->Int):Prop:=∀k,k<16->-1099511627776<=f k/\f k<=1099511627776
instance (f:Nat->Int):Decidable (nearP f):=by unfold nearP;infer_instance
open Go.Deep
theorem field_of_trod{H:Type}{enc:TypeId × Value->H}{P:Program}{W:World}{fuel:Nat}{cs:List Value}{o:Nat}{t:TypeId}{x:DataW H × List MemPlace}(ho:o<cs.length)(h:DataW.trod enc P W 0 (fun _=>true) true fuel t ((cs.drop o).take 1)=some x):
  DataW.trod enc P W 0 (fun _=>true) true fuel t [cs[o]]=some x:=by
 have e:(cs.drop o).take 1 = [cs[o]]:=by rw [List.drop_eq_getElem_cons ho];rfl
 rw [e] at h
 exact h
end Go.Proofs.YtgefdmfcddpaiaaGreatDoor
