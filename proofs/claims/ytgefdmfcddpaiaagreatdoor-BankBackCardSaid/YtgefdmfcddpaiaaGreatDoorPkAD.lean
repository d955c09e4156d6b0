/- Texts joined: RowsB, CellsV, LapB, BankP, TwoL, SortP, MergeP, StabP, LapC, ToneA, Meet, ToneG, ToneB, ToneC, ToneD, SampArg. -/
import Derived.Deep.MidRow
import Derived.Laws.MakeOwn
import Derived.Test.YtgefdmfcddpaiaaGreatDoorChecked
import Derived.ChangeKeysEq
import Derived.BigRegion
import Derived.BigQuiet
import Derived.Deep.Matrix
import Derived.Test.YtgefdmfcddpaiaaGreatDoorPkAB
import Derived.Test.YtgefdmfcddpaiaaGreatDoorPkAC
import Derived.Test.YtgefdmfcddpaiaaGreatDoorPkAE
import Derived.Test.YtgefdmfcddpaiaaGreatDoorTk
namespace Go.Proofs.YtgefdmfcddpaiaaGreatDoor
set_option linter.unusedVariables false
set_option maxRecDepth 100000
open Go.RowKit Go.ChangeShapes Go.WideShapes
def rowL(n:Nat)(f:Nat->Int):List Value:=(List.range n).map (blk f)
theorem rowL_len(n:Nat)(f:Nat->Int):(rowL n f).length=n:=by simp [rowL]
theorem rowL_at(n:Nat)(f:Nat->Int)(j:Nat)(h:j<n):(rowL n f)[j]?=some (.int .i64 (f j)):=by simp [rowL,h,blk]
theorem rowL_get{n:Nat}{f:Nat->Int}{j:Nat}{v:Value}(h:(rowL n f)[j]?=some v):j<n/\v = .int .i64 (f j):=by
 by_cases hj:j<n
 ·rw [rowL_at n f j hj] at h;exact⟨hj,by simpa using h.symm⟩
 ·rw [List.getElem?_eq_none (by rw [rowL_len];omega)] at h;cases h
theorem rowL_one(n:Nat)(f:Nat->Int):∀v∈rowL n f,v.oneCell'=true:=by
 intro v hv
 obtain⟨i,_,rfl⟩:=List.mem_map.1 hv
 rfl
theorem rowL_ext(n:Nat)(f g:Nat->Int)(h:∀k,k<n->f k=g k):rowL n f=rowL n g:=List.map_congr_left fun k hk=>by unfold blk;rw [h k (List.mem_range.1 hk)]
structure CellsAt(w:World)(g m:Nat)(F:Nat->Int):Prop where
 lt:g<w.heap.size
 cell:∀j,j<m->w.cell? ⟨g,j,none⟩=some (.int .i64 (F j))
 frz:∀j,j<m->w.frozen? ⟨g,j,none⟩=false
def patch(F:Nat->Int)(o n:Nat)(f:Nat->Int):Nat->Int:=fun j=>if o<=j/\j<o+n then f (j-o) else F j
theorem setCells_heap_other(b:Nat):∀(vs:List Value) (o:Nat) (w:World) (k:Nat),k≠b->(w.setCells b o vs).heap[k]?=w.heap[k]?
 | [],_,_,_,_=>rfl
 | v :: r,o,w,k,h=>by
  rw [World.setCells,setCells_heap_other b r (o+1) _ k h]
  exact Below.heap_setCell _ _ _ _ h
theorem setCells_size(b:Nat):∀(vs:List Value) (o:Nat) (w:World),(w.setCells b o vs).heap.size=w.heap.size
 | [],_,_=>rfl
 | v :: r,o,w=>by rw [World.setCells,setCells_size b r (o+1) _];simp [World.setCell]
theorem setCells_os(b:Nat):∀(vs:List Value) (o:Nat) (w:World),(w.setCells b o vs).os=w.os/\(w.setCells b o vs).output=w.output
 | [],_,_=>⟨rfl,rfl⟩
 | v :: r,o,w=>by rw [World.setCells];exact setCells_os b r (o+1) _
theorem Kept.setCells{X:Nat->Prop}(w:World){b:Nat}(hb:¬X b)(o:Nat)(vs:List Value):Kept X w (w.setCells b o vs):=
 ⟨(setCells_os b vs o w).1,(setCells_os b vs o w).2,by rw [setCells_size];exact Nat.le_refl _,fun k hk=>setCells_heap_other _ _ _ _ _ (fun e=>hb (e ▸ hk))⟩
namespace CellsAt
variable {w w':World} {g m:Nat} {F:Nat->Int} {Y:Nat->Prop}
theorem kept(h:CellsAt w g m F)(k:Kept Y w w')(hY:Y g):CellsAt w' g m F:=
 ⟨Nat.lt_of_lt_of_le h.lt k.size,fun j hj=>(k.cell (a:=⟨g,j,none⟩) hY).trans (h.cell j hj),fun j hj=>(k.frozen (a:=⟨g,j,none⟩) hY).trans (h.frz j hj)⟩
theorem old(h:CellsAt w g m F)(k:Old w w'):CellsAt w' g m F:=h.kept k h.lt
theorem drewN(h:CellsAt w g m F)(n:Nat):CellsAt (w.drewN n) g m F:=⟨h.lt,h.cell,h.frz⟩
theorem drew(h:CellsAt w g m F):CellsAt w.drew g m F:=⟨h.lt,h.cell,h.frz⟩
theorem ext{G:Nat->Int}(h:CellsAt w g m F)(e:∀j,j<m->F j=G j):CellsAt w g m G:=⟨h.lt,fun j hj=>by rw [←e j hj];exact h.cell j hj,h.frz⟩
theorem less(h:CellsAt w g m F){n:Nat}(hn:n<=m):CellsAt w g n F:=⟨h.lt,fun j hj=>h.cell j (by omega),fun j hj=>h.frz j (by omega)⟩
theorem set(h:CellsAt w g m F)(j:Nat)(hj:j<m)(v:Int):CellsAt (w.setCell ⟨g,j,none⟩ (.int .i64 v)) g m (fun k=>if k=j then v else F k):=by
 refine⟨by have:=h.lt;simpa [World.setCell] using this,fun k hk=>?_,fun k hk=>by rw [World.frozen?_setCell];exact h.frz k hk⟩
 by_cases e:k=j
 ·subst e;rw [World.cell?_setCell_same _ _ _ (h.cell k hk),if_pos rfl]
 ·rw [World.cell?_setCell_other _ _ _ _ (fun e'=>e (by injection e' with _ e2;exact e2.symm)),if_neg e];exact h.cell k hk
theorem setOther(h:CellsAt w g m F){a:Addr}(ha:a.block≠g)(v:Value):CellsAt (w.setCell a v) g m F:=
 h.kept (Y:=fun k=>k≠a.block) (Kept.setCell w (fun e=>e rfl) v) (fun e=>ha e.symm)
theorem there(h:CellsAt w g m F)(o n:Nat)(hn:o+n<=m):w.there g o n:=fun j hj=>⟨by rw [h.cell (o+j) (by omega)];rfl,h.frz (o+j) (by omega)⟩
theorem setCells(h:CellsAt w g m F)(o n:Nat)(hn:o+n<=m)(f:Nat->Int):CellsAt (w.setCells g o (rowL n f)) g m (patch F o n f):=by
 refine⟨by rw [setCells_size];exact h.lt,fun k hk=>?_,fun k hk=>by rw [World.frozen?_setCells];exact h.frz k hk⟩
 unfold patch
 by_cases e:o<=k/\k<o+n
 ·rw [if_pos e]
  have h1:=World.cell?_setCells_in g (rowL n f) o w (fun i hi=>by rw [rowL_len] at hi;rw [h.cell (o+i) (by omega)];rfl) (k-o) (by rw [rowL_len];omega)
  rw [show o+(k-o)=k by omega] at h1
  rw [h1,←List.getElem?_eq_getElem,rowL_at n f (k-o) (by omega)]
 ·rw [if_neg e,World.cell?_setCells_out g (rowL n f) o w ⟨g,k,none⟩ (fun _ _=>by rw [rowL_len];show k<o\/o+n<=k;omega)]
  exact h.cell k hk
theorem setCellsOther(h:CellsAt w g m F){b:Nat}(hb:b≠g)(o:Nat)(vs:List Value):CellsAt (w.setCells b o vs) g m F:=
 h.kept (Y:=fun k=>k≠b) (Kept.setCells w (fun e=>e rfl) o vs) (fun e=>hb e.symm)
end CellsAt
theorem cellsAt_new(w:World)(m:Nat)(F:Nat->Int)(t:TypeId):CellsAt (w.alloc (.cells (rowN m (blk F)) t)) w.heap.size m F:=
 ⟨by simp,fun j hj=>cell_new w m t (blk F) j hj,fun j hj=>frozen_of_row _ _ _ _ _ (heap_alloc_new _ _)⟩
theorem wp_load_blk{P:Program}{op:Oper}{a:Act}{w:World}{K:Act->World->Prop}{Q:Exit->Act->World->Prop}(n:Nat)(f:Nat->Int)(ty:TypeId)(x:Operand)(ho:op.op = .load ty x)
  (b o:Nat) (hx:a.eval x = .pointer (some ⟨b,o,none⟩)) (d:TypeDesc) (hc:∀j,j<n->w.cell? ⟨b,o+j,none⟩=some (.int .i64 (f j)))
  (hu:P.underlying ty=some d) (hd:d.isRow=true) (hi:(P.info? ty).map (·.size)=some n) (h:K (a.put op.dst (.agg (rowN n (blk f)))) w):op.wp P a w K Q:=
 wp_load_mid ty x ho b o hx (rowL n f) d (fun j v hv=>by obtain⟨hj,rfl⟩:=rowL_get hv;exact hc j hj) hu hd (by rw [rowL_len];exact hi) h
theorem wpList_load_blk{P:Program}{ops:Array Oper}{rest:List Oper}{op:Oper}{a:Act}{w:World}{Q:Exit->Act->World->Prop}(hgd:op.guard=none)(n:Nat)(f:Nat->Int)(ty:TypeId)(x:Operand)(ho:op.op = .load ty x)
  (b o:Nat) (hx:a.eval x = .pointer (some ⟨b,o,none⟩)) (d:TypeDesc) (hc:∀j,j<n->w.cell? ⟨b,o+j,none⟩=some (.int .i64 (f j)))
  (hu:P.underlying ty=some d) (hd:d.isRow=true) (hi:(P.info? ty).map (·.size)=some n) (h:wpList P ops Q rest (a.put op.dst (.agg (rowN n (blk f)))) w):wpList P ops Q (op :: rest) a w:=
 wpList_plain hgd fun _ hK=>wp_load_blk n f ty x ho b o hx d hc hu hd hi (hK _ _ h)
theorem yieldsIf_load_blk{P:Program}{ops:Array Oper}{S:World->Prop}{op:Oper}{a:Act}(n:Nat)(f:Nat->Int)(hw:Region.wanted op (yielded ops a.tmps)=true)(ty:TypeId)(x:Operand)(ho:op.op = .load ty x)
  (b o:Nat) (hx:a.eval x = .pointer (some ⟨b,o,none⟩)) (d:TypeDesc) (hS:∀w,S w->∀j,j<n->w.cell? ⟨b,o+j,none⟩=some (.int .i64 (f j)))
  (hu:P.underlying ty=some d) (hd:d.isRow=true) (hi:(P.info? ty).map (·.size)=some n):YieldsIf P ops S op (.agg (rowN n (blk f))) a:=
 yieldsIf_load_mid hw ty x ho b o hx (rowL n f) d (fun w hw' j v hv=>by obtain⟨hj,rfl⟩:=rowL_get hv;exact hS w hw' j hj) hu hd (by rw [rowL_len];exact hi)
theorem wp_store_blk{P:Program}{op:Oper}{a:Act}{w:World}{K:Act->World->Prop}{Q:Exit->Act->World->Prop}(n:Nat)(f:Nat->Int)(ty:TypeId)(x y:Operand)(ho:op.op = .store ty x y)
  (b o:Nat) (hx:a.eval x = .pointer (some ⟨b,o,none⟩)) (hy:a.eval y = .agg (rowN n (blk f))) (ht:w.there b o n) (hi:(P.info? ty).map (·.size)=some n)
  (h:K (a.put op.dst undef) (w.setCells b o (rowL n f))):op.wp P a w K Q:=
 wp_store_mid ty x y ho b o (rowN n (blk f)) hx hy (by rw [rowN_size];exact ht) (by rw [rowN_size];exact hi) (blk_one _ _) h
theorem wpList_store_blk{P:Program}{ops:Array Oper}{rest:List Oper}{op:Oper}{a:Act}{w:World}{Q:Exit->Act->World->Prop}(hgd:op.guard=none)(n:Nat)(f:Nat->Int)(ty:TypeId)(x y:Operand)(ho:op.op = .store ty x y)
  (b o:Nat) (hx:a.eval x = .pointer (some ⟨b,o,none⟩)) (hy:a.eval y = .agg (rowN n (blk f))) (ht:w.there b o n) (hi:(P.info? ty).map (·.size)=some n)
  (h:wpList P ops Q rest (a.put op.dst undef) (w.setCells b o (rowL n f))):wpList P ops Q (op :: rest) a w:=
 wpList_plain hgd fun _ hK=>wp_store_blk n f ty x y ho b o hx hy ht hi (hK _ _ h)
theorem wpList_copy_blk{P:Program}{w:World}{ops:Array Oper}{rest:List Oper}{o:Oper}{a:Act}{Q:Exit->Act->World->Prop}(hgd:o.guard=none)(d s:Operand)(dT sT:TypeId)
  (ho:o.op = .call { callee:=.builtin .copy,args:=#[d,s],argTypes:=#[dT,sT] }) (elem:TypeId) (hu:P.underlying dT=some (.slice elem)) (hsz:(P.info? elem).map (·.size)=some 1)
  (n:Nat) (f:Nat->Int) (g off dLen dCap b so sLen sCap:Nat) (hd:a.eval d = .slice (some ⟨g,off,none⟩) dLen dCap) (hs:a.eval s = .slice (some ⟨b,so,none⟩) sLen sCap) (hn:n=Nat.min sLen dLen)
  (hsrc:∀j,j<n->w.cell? ⟨b,so+j,none⟩=some (.int .i64 (f j))) (ht:w.there g off n)
  (h:wpList P ops Q rest (a.put o.dst (goInt n)) (w.setCells g off (rowL n f))):wpList P ops Q (o :: rest) a w:=by
 refine wpList_plain hgd fun K hK=>?_
 have hrun:=run_copy_cells (P:=P) w dT sT o.type elem g off dLen dCap ⟨b,so,none⟩ sLen sCap (rowL n f) hu hsz (by rw [rowL_len];exact hn)
  (fun j v hv=>by obtain⟨hj,rfl⟩:=rowL_get hv;rw [add_plain];exact hsrc j hj) (fun j hj=>(ht j (by rw [rowL_len] at hj;exact hj)).1) (fun j hj=>(ht j (by rw [rowL_len] at hj;exact hj)).2) (rowL_one n f)
 rw [rowL_len] at hrun
 unfold Oper.wp
 simp [execOp,ho,resolve,invoke,builtin,hd,hs,hrun,Result.andThen]
 exact hK _ _ h
def OwnR(s:Nat)(X:Nat->Prop)(w:World)(p:Option Addr)(n:Nat)(F:Nat->Int):Prop:=0<n->∃g,p=some ⟨g,0,none⟩/\¬X g/\CellsAt w g (s*n) F
def SlF(s:Nat)(w:World)(p:Option Addr)(n:Nat)(F:Nat->Int):Prop:=0<n->∃g o,p=some ⟨g,o,none⟩/\g<w.heap.size/\∀j,j<s*n->w.cell? ⟨g,o+j,none⟩=some (.int .i64 (F j))
namespace OwnR
variable {s n:Nat} {X Y:Nat->Prop} {w w':World} {p:Option Addr} {F:Nat->Int}
theorem old(h:OwnR s X w p n F)(k:Old w w'):OwnR s X w' p n F:=fun hn=>by obtain⟨g,h1,h2,h3⟩:=h hn;exact⟨g,h1,h2,h3.old k⟩
theorem mono(h:OwnR s X w p n F)(hY:∀k,Y k->X k):OwnR s Y w p n F:=fun hn=>by obtain⟨g,h1,h2,h3⟩:=h hn;exact⟨g,h1,fun e=>h2 (hY g e),h3⟩
theorem sl(h:OwnR s X w p n F):SlF s w p n F:=fun hn=>by
 obtain⟨g,h1,h2,h3⟩:=h hn
 exact⟨g,0,h1,h3.lt,fun j hj=>by rw [Nat.zero_add];exact h3.cell j hj⟩
end OwnR
namespace SlF
variable {s n:Nat} {w w':World} {p:Option Addr} {F:Nat->Int}
theorem old(h:SlF s w p n F)(k:Old w w'):SlF s w' p n F:=fun hn=>by
 obtain⟨g,o,h1,h2,h3⟩:=h hn
 exact⟨g,o,h1,Nat.lt_of_lt_of_le h2 k.size,fun j hj=>(k.cell (a:=⟨g,o+j,none⟩) h2).trans (h3 j hj)⟩
theorem ext{G:Nat->Int}(h:SlF s w p n F)(e:∀j,j<s*n->F j=G j):SlF s w p n G:=fun hn=>by
 obtain⟨g,o,h1,h2,h3⟩:=h hn
 exact⟨g,o,h1,h2,fun j hj=>by rw [←e j hj];exact h3 j hj⟩
end SlF
theorem made_rowN(n:Nat)(z:Array Value)(hz:z.size≠0)(h:∀j,j<z.size->z[j]?=some (.int .i64 0)):madeCells z n=rowN n (blk fun _=>0):=by
 apply Array.ext_getElem?
 intro i
 by_cases hi:i<n
 ·rw [blk_at n _ i hi]
  have hm:i%z.size<z.size:=Nat.mod_lt _ (by omega)
  have:=h _ hm
  rw [Array.getElem?_eq_getElem hm] at this
  simp [madeCells,hi,hm] 
  simpa using this
 ·rw [Array.getElem?_eq_none (by rw [size_madeCells];omega),Array.getElem?_eq_none (by rw [rowN_size];omega)]
theorem SlI.slF{w:World}{p:Option Addr}{n cap:Nat}{xs:List Int}(h:SlI w .i64 (.slice p n cap) xs):SlF 1 w p n (fun j=>xs.getD j 0):=fun hn=>by
 obtain⟨p',cap',he,hc⟩:=h
 simp only [Value.slice.injEq] at he
 obtain⟨rfl,rfl,rfl⟩:=he
 obtain⟨b,off,h1,h2,_,_,h3⟩:=hc (fun e=>by subst e;simp at hn)
 exact⟨b,off,h1,h2,fun j hj=>h3 j (by omega)⟩
theorem slice_lo{P:Program}{t:TypeId}(ht:P.underlying t=some (.slice (P.elem t)))(hz:∀w,(sizeOf (P.elem t)).run P w = .ok 1 w)(b o n cap k:Nat)(hk:k<n)(hn:n<=cap)(l:Int)(hl:l=k)(w:World):
  (Instr.sliceAt t (.slice (some ⟨b,o,none⟩) n cap) (some (.int .i64 l)) none none).run P w = .ok (.slice (some ⟨b,o+k,none⟩) (n-k) (cap-k)) w:=by
 subst hl
 rw [run_sliceAt_slice _ _ _ _ _ _ ht,run_slice_l _ _ _ _ _ ht _ _ (by omega) (by omega),hz]
 simp only [Result.andThen_ok,sliced,Int.toNat_natCast,Option.map,Nat.mul_one]
 rw [if_neg (by omega),add_plain]
theorem slice_arr_all{P:Program}{t:TypeId}(n:Nat)(ht:P.underlying t=some (.array (P.arrayLen t) (P.elem t)))(hl:P.arrayLen t=n)(hz:∀w,(sizeOf (P.elem t)).run P w = .ok 1 w)(hn:0<n)(b o:Nat)(w:World):
  (Instr.sliceAt t (.pointer (some ⟨b,o,none⟩)) none none none).run P w = .ok (.slice (some ⟨b,o,none⟩) n n) w:=by
 rw [run_sliceAt_array_all w t _ ht,hz,hl]
 simp only [Result.andThen_ok,slicedAt]
 rw [if_neg (by omega),add_plain]
 rfl
theorem slice_arr_lo{P:Program}{t:TypeId}(n k:Nat)(ht:P.underlying t=some (.array (P.arrayLen t) (P.elem t)))(hl:P.arrayLen t=n)(hz:∀w,(sizeOf (P.elem t)).run P w = .ok 1 w)(hn:k<n)(b o:Nat)(w:World):
  (Instr.sliceAt t (.pointer (some ⟨b,o,none⟩)) (some (.int .i64 k)) none none).run P w = .ok (.slice (some ⟨b,o+k,none⟩) (n-k) (n-k)) w:=by
 rw [run_sliceAt_array_l w t _ ht _ _ (by omega) (by rw [hl];omega),hz,hl]
 simp only [Result.andThen_ok,slicedAt,Int.toNat_natCast]
 rw [if_neg (by omega),add_plain,Nat.mul_one]
theorem slice_arr_hi{P:Program}{t:TypeId}(n k:Nat)(ht:P.underlying t=some (.array (P.arrayLen t) (P.elem t)))(hl:P.arrayLen t=n)(hz:∀w,(sizeOf (P.elem t)).run P w = .ok 1 w)(hn:k<=n)(h0:0<n)(b o:Nat)(w:World):
  (Instr.sliceAt t (.pointer (some ⟨b,o,none⟩)) none (some (.int .i64 k)) none).run P w = .ok (.slice (some ⟨b,o,none⟩) k n) w:=by
 rw [run_sliceAt_array_h w t _ ht _ _ (by omega) (by rw [hl];omega),hz,hl]
 simp only [Result.andThen_ok,slicedAt,Int.toNat_natCast]
 rw [if_neg (by omega),add_plain]
 rfl
structure CellsV(w:World)(g m:Nat)(C:Nat->Value):Prop where
 lt:g<w.heap.size
 cell:∀j,j<m->w.cell? ⟨g,j,none⟩=some (C j)
 frz:∀j,j<m->w.frozen? ⟨g,j,none⟩=false
def patchV(C:Nat->Value)(o n:Nat)(c:Nat->Value):Nat->Value:=fun j=>if o<=j/\j<o+n then c (j-o) else C j
theorem rowN_list(n:Nat)(c:Nat->Value):(rowN n c).toList=(List.range n).map c:=rfl
theorem rowN_list_at{n:Nat}{c:Nat->Value}{j:Nat}{v:Value}(h:(rowN n c).toList[j]?=some v):j<n/\v=c j:=by
 rw [rowN_list] at h
 by_cases hj:j<n
 ·simp [hj] at h;exact⟨hj,h.symm⟩
 ·rw [List.getElem?_eq_none (by simp;omega)] at h;cases h
theorem rowN_list_len(n:Nat)(c:Nat->Value):(rowN n c).toList.length=n:=by simp [rowN_list]
namespace CellsV
variable {w w':World} {g m:Nat} {C:Nat->Value} {Y:Nat->Prop}
theorem kept(h:CellsV w g m C)(k:Kept Y w w')(hY:Y g):CellsV w' g m C:=
 ⟨Nat.lt_of_lt_of_le h.lt k.size,fun j hj=>(k.cell (a:=⟨g,j,none⟩) hY).trans (h.cell j hj),fun j hj=>(k.frozen (a:=⟨g,j,none⟩) hY).trans (h.frz j hj)⟩
theorem old(h:CellsV w g m C)(k:Old w w'):CellsV w' g m C:=h.kept k h.lt
theorem ext{D:Nat->Value}(h:CellsV w g m C)(e:∀j,j<m->C j=D j):CellsV w g m D:=⟨h.lt,fun j hj=>by rw [←e j hj];exact h.cell j hj,h.frz⟩
theorem there(h:CellsV w g m C)(o n:Nat)(hn:o+n<=m):w.there g o n:=fun j hj=>⟨by rw [h.cell (o+j) (by omega)];rfl,h.frz (o+j) (by omega)⟩
theorem setCells(h:CellsV w g m C)(o n:Nat)(hn:o+n<=m)(c:Nat->Value):CellsV (w.setCells g o (rowN n c).toList) g m (patchV C o n c):=by
 refine⟨by rw [setCells_size];exact h.lt,fun k hk=>?_,fun k hk=>by rw [World.frozen?_setCells];exact h.frz k hk⟩
 unfold patchV
 by_cases e:o<=k/\k<o+n
 ·rw [if_pos e]
  have h1:=World.cell?_setCells_in g (rowN n c).toList o w (fun i hi=>by rw [rowN_list_len] at hi;rw [h.cell (o+i) (by omega)];rfl) (k-o) (by rw [rowN_list_len];omega)
  rw [show o+(k-o)=k by omega] at h1
  rw [h1]
  simp [rowN_list]
 ·rw [if_neg e,World.cell?_setCells_out g (rowN n c).toList o w ⟨g,k,none⟩ (fun _ _=>by rw [rowN_list_len];show k<o\/o+n<=k;omega)]
  exact h.cell k hk
end CellsV
theorem cellsV_of{w:World}{g m:Nat}{C:Nat->Value}{t:TypeId}(h:w.heap[g]?=some (.cells (rowN m C) t (0,0))):CellsV w g m C:=
 ⟨lt_of_block h,fun j hj=>(cell_of_row _ _ _ _ _ _ h).trans (rowN_at m C j hj),fun j hj=>frozen_of_row _ _ _ _ _ h⟩
def lst(F:Nat->Int)(n:Nat):List Int:=(List.range n).map F
theorem lst_len(F:Nat->Int)(n:Nat):(lst F n).length=n:=by simp [lst]
theorem lst_getD(F:Nat->Int)(n j:Nat)(h:j<n):(lst F n).getD j 0=F j:=by simp [lst,List.getD,h]
theorem lst_ext{F G:Nat->Int}{n:Nat}(h:∀j,j<n->F j=G j):lst F n=lst G n:=List.map_congr_left fun k hk=>h k (List.mem_range.1 hk)
theorem lst_mem{F:Nat->Int}{n:Nat}{p:Int->Prop}(h:∀j,j<n->p (F j)):∀x∈lst F n,p x:=by
 intro x hx
 obtain⟨j,hj,rfl⟩:=List.mem_map.1 hx
 exact h j (List.mem_range.1 hj)
theorem Tryz.block_size:(Tryz.prog.info? 43).map (·.size)=some 16:=by kernel_rfl
theorem Tryz.block_len:Tryz.prog.arrayLen 43=16:=by kernel_rfl
theorem Tryz.block_elem:∀w,(sizeOf (Tryz.prog.elem 43)).run Tryz.prog w = .ok 1 w:=fun w=>by kernel_rfl
theorem Tryz.block_under:Tryz.prog.underlying 43=some (.array (Tryz.prog.arrayLen 43) (Tryz.prog.elem 43)):=by kernel_rfl
theorem Tryz.ints_elem:∀w,(sizeOf (Tryz.prog.elem 186)).run Tryz.prog w = .ok 1 w:=fun w=>by kernel_rfl
theorem Tryz.ints_under:Tryz.prog.underlying 186=some (.slice (Tryz.prog.elem 186)):=by kernel_rfl
theorem Tryz.int64_cells:(Tryz.prog.info? 2).map (·.size)=some 1:=by kernel_rfl
theorem Tryz.info_block:(Tryz.prog.info? 43).map (fun i=>(i.zero,i.size,i.bytes))=some (some (.agg #[.int .i64 0,.int .i64 0,.int .i64 0,.int .i64 0,.int .i64 0,.int .i64 0,.int .i64 0,.int .i64 0,.int .i64 0,.int .i64 0,.int .i64 0,.int .i64 0,.int .i64 0,.int .i64 0,.int .i64 0,.int .i64 0]),16,128):=by kernel_rfl
theorem zero16(n:Nat):madeCells (Value.agg #[.int .i64 0,.int .i64 0,.int .i64 0,.int .i64 0,.int .i64 0,.int .i64 0,.int .i64 0,.int .i64 0,.int .i64 0,.int .i64 0,.int .i64 0,.int .i64 0,.int .i64 0,.int .i64 0,.int .i64 0,.int .i64 0]:Value).cells n=rowN n (blk fun _=>0):=
 made_rowN n _ (by decide) (by
  intro j hj
  have:j<16:=hj
  rcases(by omega:j=0\/j=1\/j=2\/j=3\/j=4\/j=5\/j=6\/j=7\/j=8\/j=9\/j=10\/j=11\/j=12\/j=13\/j=14\/j=15) with rfl | rfl | rfl | rfl | rfl | rfl | rfl | rfl | rfl | rfl | rfl | rfl | rfl | rfl | rfl | rfl <;> rfl)
theorem make_blocks(n:Nat)(hn:n<=1099511627776)(w:World):(Instr.makeSlice 183 (.int .i64 n) (.int .i64 n)).run Tryz.prog w = .ok (.slice (some ⟨w.heap.size,0,none⟩) n n) (w.alloc (.cells (rowN (n*16) (blk fun _=>0)) 43)):=by
 obtain⟨i,hi,hz0,hz1,hz2⟩:=info_parts Tryz.info_block
 rw [run_make w _ _ i _ Tryz.underlying183 hi hz0 .i64 .i64 n n (by omega) (by omega) (by rw [hz2];omega) (by omega),hz1,Int.toNat_natCast,zero16 (n*16)]
theorem zero1(n:Nat):madeCells (Value.int .i64 0:Value).cells n=rowN n (blk fun _=>0):=
 made_rowN n _ (by decide) (fun j hj=>by
  have h1:j<1:=hj
  have h2:j=0:=by omega
  rw [h2];rfl)
theorem Tryz.info_int64:(Tryz.prog.info? 2).map (fun i=>(i.zero,i.size,i.bytes))=some (some (.int .i64 0),1,8):=by kernel_rfl
theorem make_ints(n:Nat)(hn:n<=1099511627776)(w:World):(Instr.makeSlice 186 (.int .i64 n) (.int .i64 n)).run Tryz.prog w = .ok (.slice (some ⟨w.heap.size,0,none⟩) n n) (w.alloc (.cells (rowN n (blk fun _=>0)) 2)):=by
 obtain⟨i,hi,hz0,hz1,hz2⟩:=info_parts Tryz.info_int64
 rw [run_make w _ _ i _ Tryz.underlying186 hi hz0 .i64 .i64 n n (by omega) (by omega) (by rw [hz2];omega) (by omega),hz1,Int.toNat_natCast,Nat.mul_one,zero1 n]
def toK(k:Nat)(F:Nat->Int):Nat->Int:=fun j=>if j<k*16 then F j else 0
def cnt(n:Nat):Nat:=(n+15)/16
theorem countI_cnt(n:Nat):countI n=(cnt n:Nat):=countI_nat n
structure BlkR(w:World)(N:Nat)(F:Nat->Int)(k:Nat)(wr:World):Prop where
 at_:CellsAt wr w.heap.size (N*16) (toK k F)
 old:Old w wr
set_option maxHeartbeats 1000000 in
theorem Blocks_any(p:Option Addr)(n cap:Nat)(xs:List Int)(w:World)(hs:SlI w .i64 (.slice p n cap) xs)(hn:n<=1099511627776):
  Calls Tryz.prog 194 #[.slice p n cap] w fun e w'=>e = .returned (.slice (some ⟨w.heap.size,0,none⟩) (cnt n) (cnt n))/\CellsAt w' w.heap.size (cnt n*16) (fun j=>xs.getD j 0)/\Old w w':=by
 obtain⟨hl,hc⟩:=hs.cellAt
 have HC:=zH hc
 have HL:=zH hl
 have hcount:=Count_any n w (by omega) (by omega)
 rw [countI_cnt] at hcount
 obtain⟨N,hN⟩:∃N,N=cnt n:=⟨_,rfl⟩
 rw [←hN] at hcount ⊢
 have HN:Hid (N=(n+15)/16):=hN
 have hN2:N<=1099511627776:=by have:=HN.out;omega
 have HCt:=zH hcount
 have hM:=make_blocks N hN2 w
 have H0:Hid (BlkR w N (fun j=>xs.getD j 0) 0 (w.alloc (.cells (rowN (N*16) (blk fun _=>0)) 43))):=⟨(cellsAt_new w _ _ _).ext fun j _=>by unfold toK;rw [if_neg (by omega)],Old.alloc _ _⟩
 clear hs hl hc hcount hN
 go_enter Tryz.func194,Tryz.ntmps194
 go_wp2_with fail
 refine HCt.out.mono ?_
 rintro e w1 ⟨rfl,rfl⟩
 go_wp2_with fail
 go_loopw [11] (fun i wr=>∃k:Nat,k<=N/\i = .int .i64 k/\Hid (BlkR w N (fun j=>xs.getD j 0) k wr)) (fun i _=>N-(intOf i).toNat)
 case atStart=>exact⟨0,by omega,rfl,H0⟩
 case round=>
  obtain⟨k,hk,rfl,HR⟩:=hrel
  clear H0 HCt hM
  by_cases hlt:k<N
  ·have hkn:k*16<n:=by have:=HN.out;omega
   obtain⟨b,off,rfl,hb,hcap,hcm,hc⟩:=HC.out (by omega)
   have hcs:=fun j hj=>(HR.out.old.cell (a:=⟨b,off+j,none⟩) hb).trans (hc j hj)
   obtain⟨q,hq⟩:∃q,q=k*16:=⟨_,rfl⟩
   obtain⟨m,hm⟩:∃m,m=Nat.min (n-q) 16:=⟨_,rfl⟩
   have hm2:m<=16/\m<=n-q/\(m=16\/m=n-q):=by rw [hm];simp only [Nat.min_def];split <;> omega
   have hS1:=fun w=>slice_arr_all (P:=Tryz.prog) (t:=43) 16 Tryz.block_under Tryz.block_len Tryz.block_elem (by omega) wr.heap.size 0 w
   have HSrc:Hid (∀j,j<m->wr.drew.cell? ⟨b,off+q+j,none⟩=some (.int .i64 (xs.getD (k*16+j) 0))):=fun j hj=>by
    rw [Nat.add_assoc,hq];exact hcs (k*16+j) (by omega)
   have HT:Hid (wr.drew.there w.heap.size (k*16) m):=HR.out.at_.drew.there (k*16) m (by omega)
   have HNx:Hid (BlkR w N (fun j=>xs.getD j 0) (k+1) (wr.drew.setCells w.heap.size (k*16) (rowL m fun j=>xs.getD (k*16+j) 0))):=by
    refine⟨(HR.out.at_.drew.setCells (k*16) m (by omega) _).ext fun j hj=>?_,HR.out.old.drew.after (Kept.setCells (X:=fun q=>q<w.heap.size) _ (fun e=>by omega) _ _) fun _ h=>h⟩
    unfold patch toK
    dsimp only
    by_cases c:k*16<=j/\j<k*16+m
    ·rw [if_pos c,if_pos (by omega),show k*16+(j-k*16)=j by omega]
    ·rw [if_neg c]
     by_cases c2:j<k*16
     ·rw [if_pos c2,if_pos (by omega)]
     ·rw [if_neg c2]
      by_cases c3:j<(k+1)*16
      ·rw [if_pos c3,List.getD_eq_getElem?_getD,List.getElem?_eq_none (by rw [HL.out];omega)];rfl
      ·rw [if_neg c3]
   have hS2:=fun w=>slice_lo (P:=Tryz.prog) (t:=186) Tryz.ints_under Tryz.ints_elem b off n cap q (by omega) (by omega) (q:Int) rfl w
   have t1:IntKind.i64.wrap ((k:Int)*16)=q:=by rw [IntWalk.i64_in _ (by omega)];omega
   have t2:wrap64 ((k:Int)*16)=q:=by rw [IntWalk.wrap64_in _ (by omega)];omega
   have hqn:q<n:=by omega
   have hS3:=fun w=>slice_arr_all (P:=Tryz.prog) (t:=43) 16 Tryz.block_under Tryz.block_len Tryz.block_elem (by omega) w.heap.size (k*16) w
   have HM:=zH hm
   clear hm hcs hc HC HL HN HR hq hkn hm2
   go_wp2_with fail
   refine wp_region_still_tail 8 (by kernel_rfl) (by kernel_rfl) ?_
   simp only [List.take_succ_cons,List.take_zero,List.drop_succ_cons,List.drop_zero]
   iterate 8 (with_reducible refine wpStill_step (fun K hK=>?_);go_simp;with_reducible refine hK _ ?_;clear hK K)
   with_reducible refine wpStill_nil ?_
   change wpList _ _ _ _ _ wr.drew
   refine wpList_copy_blk rfl _ _ 186 186 rfl 2 Tryz.underlying186 Tryz.int64_cells m (fun j=>xs.getD (k*16+j) 0) w.heap.size (k*16) 16 16 b (off+q) (n-q) (cap-q) rfl rfl HM.out HSrc.out HT.out ?_
   go_wp2_with fail
   go_roundw
   case rel=>exact⟨k+1,by omega,by go_num,HNx⟩
   case measure=>simp [intOf];omega
  ·obtain rfl:k=N:=by omega
   have HE:Hid (CellsAt wr w.heap.size (k*16) (fun j=>xs.getD j 0)/\Old w wr):=⟨HR.out.at_.ext fun j hj=>by unfold toK;rw [if_pos hj],HR.out.old⟩
   clear HR HC HL HN
   go_wp2_with fail
   go_ret
   exact⟨rfl,HE.out⟩
def samN(n:Nat)(m:Int):Nat:=(max 0 (min m ((n:Int)*16))).toNat
theorem samN_le(n:Nat)(m:Int):samN n m<=n*16:=by unfold samN;omega
structure SamR(w:World)(L:Nat)(F:Nat->Int)(k:Nat)(wr:World):Prop where
 at_:CellsAt wr w.heap.size L (toK k F)
 old:Old w wr
set_option maxHeartbeats 2000000 in
theorem Samples_any(p:Option Addr)(n cap:Nat)(m:Int)(F:Nat->Int)(w:World)(hs:SlF 16 w p n F)(hn:n<=17179869184)(h1:-9223372036854775808<=m)(h2:m<=9223372036854775807):
  Calls Tryz.prog 134 #[.slice p n cap,.int .i64 m] w fun e w'=>e = .returned (.slice (some ⟨w.heap.size,0,none⟩) (samN n m) (samN n m))/\CellsAt w' w.heap.size (samN n m) F/\Old w w':=by
 have hL:=samN_le n m
 have hcase:(m<=0/\samN n m=0)\/(0<m/\n=0/\samN n m=0)\/(0<m/\0<n/\m<=(n:Int)*16/\m=(samN n m:Nat))\/(0<m/\0<n/\(n:Int)*16<m/\(n:Int)*16=(samN n m:Nat)):=by unfold samN;omega
 generalize samN n m=L at *
 have HL:=zH hL
 have HS:=zH hs
 have hL2:L<=1099511627776:=by omega
 have hw:wrap64 ((n:Int)*16)=(n:Int)*16:=IntWalk.wrap64_in _ (by omega)
 have hw':IntKind.i64.wrap ((n:Int)*16)=(n:Int)*16:=IntWalk.i64_in _ (by omega)
 have hM:=make_ints L hL2 w
 have hcount:=fun w=>Count_any L w (by omega) (by omega)
 rw [countI_cnt] at hcount
 obtain⟨N,hN⟩:∃N,N=cnt L:=⟨_,rfl⟩
 rw [←hN] at hcount
 have HN:Hid (N=(L+15)/16):=hN
 have hN2:N<=1099511627776:=by have:=HN.out;omega
 have HCt:=zH hcount
 have H0:Hid (SamR w L F 0 (w.alloc (.cells (rowN L (blk fun _=>0)) 2))):=⟨(cellsAt_new w _ _ _).ext fun j _=>by unfold toK;rw [if_neg (by omega)],Old.alloc _ _⟩
 clear hs hL hcount hN
 rcases hcase with ⟨c1,c2⟩ | ⟨c1,c0,c2⟩ | ⟨c1,c0,c3,c2⟩ | ⟨c1,c0,c3,c2⟩
 ·have c4:0<=(n:Int)*16:=by omega
  have c5:m<=(n:Int)*16:=by omega
  obtain rfl:L=0:=by omega
  obtain rfl:N=0:=by have:=HN.out;omega
  rw [show ((0:Nat):Int)=0 from rfl] at hM HCt
  clear HN
  go_enter Tryz.func134,Tryz.ntmps134
  go_wp2_with fail
  refine(HCt.out _).mono ?_
  rintro e w1 ⟨rfl,rfl⟩
  go_wp2_with fail
  go_loopw [17] (fun i wr=>i = .int .i64 0/\Hid (SamR w 0 F 0 wr)) (fun i _=>0)
  case atStart=>exact⟨rfl,H0⟩
  case round=>
   obtain⟨rfl,HR⟩:=hrel
   have HE:Hid (CellsAt wr w.heap.size 0 F/\Old w wr):=⟨HR.out.at_.ext fun j hj=>by omega,HR.out.old⟩
   clear HR H0 HCt hM
   go_wp2_with fail
   go_ret
   exact⟨rfl,HE.out⟩
 ·subst c0
  clear hw hw'
  obtain rfl:L=0:=by omega
  obtain rfl:N=0:=by have:=HN.out;omega
  rw [show ((0:Nat):Int)=0 from rfl] at hM HCt
  clear HN
  go_enter Tryz.func134,Tryz.ntmps134
  go_wp2_with fail
  refine(HCt.out _).mono ?_
  rintro e w1 ⟨rfl,rfl⟩
  go_wp2_with fail
  go_loopw [17] (fun i wr=>i = .int .i64 0/\Hid (SamR w 0 F 0 wr)) (fun i _=>0)
  case atStart=>exact⟨rfl,H0⟩
  case round=>
   obtain⟨rfl,HR⟩:=hrel
   have HE:Hid (CellsAt wr w.heap.size 0 F/\Old w wr):=⟨HR.out.at_.ext fun j hj=>by omega,HR.out.old⟩
   clear HR H0 HCt hM
   go_wp2_with fail
   go_ret
   exact⟨rfl,HE.out⟩
 ·subst c2
  go_enter Tryz.func134,Tryz.ntmps134
  go_wp2_with fail
  refine(HCt.out _).mono ?_
  rintro e w1 ⟨rfl,rfl⟩
  go_wp2_with fail
  go_loopw [17] (fun i wr=>∃k:Nat,k<=N/\i = .int .i64 k/\Hid (SamR w L F k wr)) (fun i _=>N-(intOf i).toNat)
  case atStart=>exact⟨0,by omega,rfl,H0⟩
  case round=>
   obtain⟨k,hk,rfl,HR⟩:=hrel
   clear H0 HCt hM
   by_cases hlt:k<N
   ·have hkn:k*16<L:=by have:=HN.out;omega
    have hkn':k<n:=by have:=HL.out;omega
    obtain⟨b,off,rfl,hb,hc⟩:=HS.out (by omega)
    have hcs:=fun j hj=>(HR.out.old.cell (a:=⟨b,off+j,none⟩) hb).trans (hc j hj)
    obtain⟨q,hq⟩:∃q,q=k*16:=⟨_,rfl⟩
    obtain⟨mm,hm⟩:∃mm,mm=Nat.min 16 (L-q):=⟨_,rfl⟩
    have hm2:mm<=16/\mm<=L-q/\(mm=16\/mm=L-q):=by rw [hm];simp only [Nat.min_def];split <;> omega
    have HSrc:Hid (∀j,j<mm->wr.drew.cell? ⟨b,off+k*16+j,none⟩=some (.int .i64 (F (k*16+j)))):=fun j hj=>by
     rw [Nat.add_assoc];exact hcs (k*16+j) (by omega)
    have HT:Hid (wr.drew.there w.heap.size q mm):=HR.out.at_.drew.there q mm (by omega)
    have HNx:Hid (SamR w L F (k+1) (wr.drew.setCells w.heap.size q (rowL mm fun j=>F (k*16+j)))):=by
     refine⟨(HR.out.at_.drew.setCells q mm (by omega) _).ext fun j hj=>?_,HR.out.old.drew.after (Kept.setCells (X:=fun q=>q<w.heap.size) _ (fun e=>by omega) _ _) fun _ h=>h⟩
     unfold patch toK
     dsimp only
     subst hq
     by_cases c:k*16<=j/\j<k*16+mm
     ·rw [if_pos c,if_pos (by omega),show k*16+(j-k*16)=j by omega]
     ·rw [if_neg c]
      by_cases c2:j<k*16
      ·rw [if_pos c2,if_pos (by omega)]
      ·rw [if_neg c2,if_neg (by omega)]
    have hS2:=fun w0=>slice_lo (P:=Tryz.prog) (t:=186) Tryz.ints_under Tryz.ints_elem w.heap.size 0 L L q (by omega) (by omega) (q:Int) rfl w0
    rw [Nat.zero_add] at hS2
    have t1:IntKind.i64.wrap ((k:Int)*16)=q:=by rw [IntWalk.i64_in _ (by omega)];omega
    have t2:wrap64 ((k:Int)*16)=q:=by rw [IntWalk.wrap64_in _ (by omega)];omega
    have hqn:q<L:=by omega
    have hS3:=fun w=>slice_arr_all (P:=Tryz.prog) (t:=43) 16 Tryz.block_under Tryz.block_len Tryz.block_elem (by omega) b (off+k*16) w
    have HM:=zH hm
    clear hm hcs hc HL HN HR hq hkn hm2 HS
    go_wp2_with fail
    refine wp_region_still_tail 8 (by kernel_rfl) (by kernel_rfl) ?_
    simp only [List.take_succ_cons,List.take_zero,List.drop_succ_cons,List.drop_zero]
    iterate 8 (with_reducible refine wpStill_step (fun K hK=>?_);go_simp;with_reducible refine hK _ ?_;clear hK K)
    with_reducible refine wpStill_nil ?_
    change wpList _ _ _ _ _ wr.drew
    refine wpList_copy_blk rfl _ _ 186 186 rfl 2 Tryz.underlying186 Tryz.int64_cells mm (fun j=>F (k*16+j)) w.heap.size q (L-q) (L-q) b (off+k*16) 16 16 rfl rfl HM.out HSrc.out HT.out ?_
    go_wp2_with fail
    go_roundw
    case rel=>exact⟨k+1,by omega,by go_num,HNx⟩
    case measure=>simp [intOf];omega
   ·have hkN:k=N:=by omega
    have HE:Hid (CellsAt wr w.heap.size L F/\Old w wr):=⟨HR.out.at_.ext fun j hj=>by unfold toK;rw [if_pos (by have:=HN.out;omega)],HR.out.old⟩
    subst hkN
    clear HR HS HL HN
    go_wp2_with fail
    go_ret
    exact⟨rfl,HE.out⟩
 ·rw [←c2] at hM
  clear c2
  go_enter Tryz.func134,Tryz.ntmps134
  go_wp2_with fail
  refine(HCt.out _).mono ?_
  rintro e w1 ⟨rfl,rfl⟩
  go_wp2_with fail
  go_loopw [17] (fun i wr=>∃k:Nat,k<=N/\i = .int .i64 k/\Hid (SamR w L F k wr)) (fun i _=>N-(intOf i).toNat)
  case atStart=>exact⟨0,by omega,rfl,H0⟩
  case round=>
   obtain⟨k,hk,rfl,HR⟩:=hrel
   clear H0 HCt hM
   by_cases hlt:k<N
   ·have hkn:k*16<L:=by have:=HN.out;omega
    have hkn':k<n:=by have:=HL.out;omega
    obtain⟨b,off,rfl,hb,hc⟩:=HS.out (by omega)
    have hcs:=fun j hj=>(HR.out.old.cell (a:=⟨b,off+j,none⟩) hb).trans (hc j hj)
    obtain⟨q,hq⟩:∃q,q=k*16:=⟨_,rfl⟩
    obtain⟨mm,hm⟩:∃mm,mm=Nat.min 16 (L-q):=⟨_,rfl⟩
    have hm2:mm<=16/\mm<=L-q/\(mm=16\/mm=L-q):=by rw [hm];simp only [Nat.min_def];split <;> omega
    have HSrc:Hid (∀j,j<mm->wr.drew.cell? ⟨b,off+k*16+j,none⟩=some (.int .i64 (F (k*16+j)))):=fun j hj=>by
     rw [Nat.add_assoc];exact hcs (k*16+j) (by omega)
    have HT:Hid (wr.drew.there w.heap.size q mm):=HR.out.at_.drew.there q mm (by omega)
    have HNx:Hid (SamR w L F (k+1) (wr.drew.setCells w.heap.size q (rowL mm fun j=>F (k*16+j)))):=by
     refine⟨(HR.out.at_.drew.setCells q mm (by omega) _).ext fun j hj=>?_,HR.out.old.drew.after (Kept.setCells (X:=fun q=>q<w.heap.size) _ (fun e=>by omega) _ _) fun _ h=>h⟩
     unfold patch toK
     dsimp only
     subst hq
     by_cases c:k*16<=j/\j<k*16+mm
     ·rw [if_pos c,if_pos (by omega),show k*16+(j-k*16)=j by omega]
     ·rw [if_neg c]
      by_cases c2:j<k*16
      ·rw [if_pos c2,if_pos (by omega)]
      ·rw [if_neg c2,if_neg (by omega)]
    have hS2:=fun w0=>slice_lo (P:=Tryz.prog) (t:=186) Tryz.ints_under Tryz.ints_elem w.heap.size 0 L L q (by omega) (by omega) (q:Int) rfl w0
    rw [Nat.zero_add] at hS2
    have t1:IntKind.i64.wrap ((k:Int)*16)=q:=by rw [IntWalk.i64_in _ (by omega)];omega
    have t2:wrap64 ((k:Int)*16)=q:=by rw [IntWalk.wrap64_in _ (by omega)];omega
    have hqn:q<L:=by omega
    have hS3:=fun w=>slice_arr_all (P:=Tryz.prog) (t:=43) 16 Tryz.block_under Tryz.block_len Tryz.block_elem (by omega) b (off+k*16) w
    have HM:=zH hm
    clear hm hcs hc HL HN HR hq hkn hm2 HS
    go_wp2_with fail
    refine wp_region_still_tail 8 (by kernel_rfl) (by kernel_rfl) ?_
    simp only [List.take_succ_cons,List.take_zero,List.drop_succ_cons,List.drop_zero]
    iterate 8 (with_reducible refine wpStill_step (fun K hK=>?_);go_simp;with_reducible refine hK _ ?_;clear hK K)
    with_reducible refine wpStill_nil ?_
    change wpList _ _ _ _ _ wr.drew
    refine wpList_copy_blk rfl _ _ 186 186 rfl 2 Tryz.underlying186 Tryz.int64_cells mm (fun j=>F (k*16+j)) w.heap.size q (L-q) (L-q) b (off+k*16) 16 16 rfl rfl HM.out HSrc.out HT.out ?_
    go_wp2_with fail
    go_roundw
    case rel=>exact⟨k+1,by omega,by go_num,HNx⟩
    case measure=>simp [intOf];omega
   ·have hkN:k=N:=by omega
    have HE:Hid (CellsAt wr w.heap.size L F/\Old w wr):=⟨HR.out.at_.ext fun j hj=>by unfold toK;rw [if_pos (by have:=HN.out;omega)],HR.out.old⟩
    subst hkN
    clear HR HS HL HN
    go_wp2_with fail
    go_ret
    exact⟨rfl,HE.out⟩
structure Mt where
 s:ByteArray
 n:Int
 r:Int
 c:Int
 lp:Bool
 a:Int
 b:Int
 x:Int
 y:Int
def Mt.cells(m:Mt):Array Value:=#[.string m.s,.int .i64 m.n,.int .i64 m.r,.int .i64 m.c,.bool m.lp,.int .i64 m.a,.int .i64 m.b,.int .i64 m.x,.int .i64 m.y]
def Mt.ok(m:Mt):Prop:=wrongI m.s m.n m.r m.c m.lp m.a m.b=0
structure Mt.OkR(m:Mt):Prop where
 name:nameP m.s
 r1:1<=m.r
 r2:m.r<=192000
 c1:1<=m.c
 c2:m.c<=2
 n1:1<=m.n
 n2:m.n<=1048576
 loop:loopP m.lp m.a m.b m.n
theorem Mt.ok_iff(m:Mt):m.ok↔m.OkR:=by
 unfold Mt.ok wrongI
 by_cases h1:nameP m.s
 ·rw [nameB_yes h1,if_neg (by simp)]
  by_cases h2:m.r<1\/192000<m.r
  ·rw [if_pos h2]
   exact⟨fun h=>by omega,fun h=>by have:=h.r1;have:=h.r2;omega⟩
  ·rw [if_neg h2]
   by_cases h3:(m.c<1\/2<m.c)\/m.n<1\/1048576<m.n
   ·rw [if_pos h3]
    exact⟨fun h=>by omega,fun h=>by have:=h.c1;have:=h.c2;have:=h.n1;have:=h.n2;omega⟩
   ·rw [if_neg h3]
    by_cases h4:loopP m.lp m.a m.b m.n
    ·rw [if_pos h4]
     exact⟨fun _=>⟨h1,by omega,by omega,by omega,by omega,by omega,by omega,h4⟩,fun _=>rfl⟩
    ·rw [if_neg h4]
     exact⟨fun h=>by omega,fun h=>absurd h.loop h4⟩
 ·rw [nameB_no h1,if_pos rfl]
  exact⟨fun h=>by omega,fun h=>absurd h.name h1⟩
theorem Mt.OkR.nums{m:Mt}(h:m.OkR):0<=m.a/\m.a<=1048576/\0<=m.b/\m.b<=1048576:=by
 have hl:=h.loop
 have:=h.n2
 unfold loopP at hl
 split at hl <;> omega
def Mt.fr(m:Mt):Nat:=cnt m.n.toNat*m.c.toNat
theorem Mt.OkR.fr_le{m:Mt}(h:m.OkR):1<=m.fr/\m.fr<=131072:=by
 have h1:1<=cnt m.n.toNat/\cnt m.n.toNat<=65536:=by have:=h.n1;have:=h.n2;unfold cnt;omega
 have h2:m.c.toNat=1\/m.c.toNat=2:=by have:=h.c1;have:=h.c2;omega
 unfold Mt.fr
 rcases h2 with e | e <;> rw [e] <;> omega
def Mt.at_(m:Mt)(x y:Int):Mt:={ m with x:=x,y:=y }
theorem Mt.at_fr(m:Mt)(x y:Int):(m.at_ x y).fr=m.fr:=rfl
theorem Mt.OkR.at_{m:Mt}(h:m.OkR)(x y:Int):(m.at_ x y).OkR:=⟨h.1,h.2,h.3,h.4,h.5,h.6,h.7,h.8⟩
def be(w:Nat)(v:Int)(j:Nat):Int:=v/256 ^ (w-1-j)%256
theorem be_bd(w:Nat)(v:Int)(j:Nat):0<=be w v j/\be w v j<=255:=by unfold be;omega
def numTo(F:Nat->Int):Nat->Int
 | 0=>0
 | k+1=>numTo F k*256+F k
theorem numTo_bd{F:Nat->Int}{w:Nat}(h:∀j,j<w->0<=F j/\F j<=255):0<=numTo F w/\numTo F w<256 ^ w:=by
 induction w with
 | zero=>exact⟨Int.le_refl _,by simp [numTo]⟩
 | succ w ih=>
  have:=ih fun j hj=>h j (by omega)
  have:=h w (by omega)
  show 0<=numTo F w*256+F w/\numTo F w*256+F w<256 ^ (w+1)
  rw [Int.pow_succ]
  omega
theorem numTo_ext{F G:Nat->Int}{w:Nat}(h:∀j,j<w->F j=G j):numTo F w=numTo G w:=by
 induction w with
 | zero=>rfl
 | succ w ih=>show numTo F w*256+F w=numTo G w*256+G w;rw [ih fun j hj=>h j (by omega),h w (by omega)]
theorem numTo_be4(v:Int)(h:0<=v)(h2:v<4294967296):numTo (be 4 v) 4=v:=by
 show (((0*256+v/16777216%256)*256+v/65536%256)*256+v/256%256)*256+v/1%256=v
 omega
theorem numTo_be2(v:Int)(h:0<=v)(h2:v<65536):numTo (be 2 v) 2=v:=by
 show (0*256+v/256%256)*256+v/1%256=v
 omega
theorem numTo_be1(v:Int)(h:0<=v)(h2:v<256):numTo (be 1 v) 1=v:=by
 show 0*256+v/1%256=v
 omega
def mrk(j:Nat):Int:=if j=0 then 67 else if j=1 then 65 else if j=2 then 76 else 49
def headF(len n sz:Int)(j:Nat):Int:=if j<4 then mrk j else if j<8 then be 4 len (j-4) else if j<10 then be 2 n (j-8) else if j<11 then be 1 sz (j-10) else 0
theorem headF_bd(len n sz:Int)(j:Nat):0<=headF len n sz j/\headF len n sz j<=255:=by
 unfold headF mrk
 have:=be_bd 4 len (j-4)
 have:=be_bd 2 n (j-8)
 have:=be_bd 1 sz (j-10)
 (repeat' split) <;> omega
def Mt.num(m:Mt)(k:Nat):Int:=if k=0 then m.n else if k=1 then m.r else if k=2 then m.a else if k=3 then m.b else if k=4 then m.x else m.y
def entF(m:Mt)(j:Nat):Int:=if j<32 then bsI m.s j else if j<56 then be 4 (m.num ((j-32)/4)) ((j-32)%4) else if j=56 then m.c%256 else if j=57 then(if m.lp then 1 else 0) else 0
theorem entF_bd(m:Mt)(j:Nat):0<=entF m j/\entF m j<=255:=by
 unfold entF
 have:=bsI_bd m.s j
 have:=be_bd 4 (m.num ((j-32)/4)) ((j-32)%4)
 (repeat' split) <;> omega
def up16(n:Nat):Nat:=(n+15)/16*16
def up64(n:Nat):Nat:=(n+63)/64*64
theorem up16_le(n:Nat):n<=up16 n/\up16 n<=n+15:=by unfold up16;omega
theorem up64_le(n:Nat):n<=up64 n/\up64 n<=n+63:=by unfold up64;omega
def atTo(f:Nat->Nat)(sz n:Nat):Nat->Nat
 | 0=>20+64*n
 | i+1=>up16 (atTo f sz n i+4*f i)+f i*sz
def firstAt(f:Nat->Nat)(sz n i:Nat):Nat:=up16 (atTo f sz n i+4*f i)
theorem atTo_succ(f:Nat->Nat)(sz n i:Nat):atTo f sz n (i+1)=firstAt f sz n i+f i*sz:=rfl
theorem firstAt_le(f:Nat->Nat)(sz n i:Nat):atTo f sz n i+4*f i<=firstAt f sz n i/\firstAt f sz n i<=atTo f sz n i+4*f i+15:=up16_le _
def totalAt(f:Nat->Nat)(sz n:Nat):Nat:=up64 (atTo f sz n n)
theorem atTo_step(f:Nat->Nat)(sz n i:Nat):atTo f sz n i<=atTo f sz n (i+1):=by
 rw [atTo_succ]
 have:=firstAt_le f sz n i
 omega
theorem atTo_mono(f:Nat->Nat)(sz n:Nat){i k:Nat}(h:i<=k):atTo f sz n i<=atTo f sz n k:=by
 induction h with
 | refl=>exact Nat.le_refl _
 | step _ ih=>exact Nat.le_trans ih (atTo_step f sz n _)
theorem atTo_lo(f:Nat->Nat)(sz n i:Nat):20+64*n<=atTo f sz n i:=atTo_mono f sz n (Nat.zero_le i)
theorem total_le(f:Nat->Nat)(sz n:Nat):atTo f sz n n<=totalAt f sz n/\totalAt f sz n<=atTo f sz n n+63:=up64_le _
theorem atTo_bd{f:Nat->Nat}{sz n:Nat}(h:∀i,i<n->f i<=131072)(hs:sz<=96):∀i,i<=n->atTo f sz n i<=20+64*n+i*13107215:=by
 intro i
 induction i with
 | zero=>intro _;show 20+64*n<=_;omega
 | succ i ih=>
  intro hi
  have h1:=ih (by omega)
  have h2:=firstAt_le f sz n i
  have h3:=h i (by omega)
  have h4:f i*sz<=131072*96:=Nat.mul_le_mul h3 hs
  rw [atTo_succ]
  omega
theorem atTo_ext{f g:Nat->Nat}{sz n i:Nat}(h:∀k,k<i->f k=g k):atTo f sz n i=atTo g sz n i:=by
 induction i with
 | zero=>rfl
 | succ i ih=>show up16 (atTo f sz n i+4*f i)+f i*sz=up16 (atTo g sz n i+4*g i)+g i*sz;rw [ih fun k hk=>h k (by omega),h i (by omega)]
def offTo(f:Nat->Nat):Nat->Nat
 | 0=>0
 | i+1=>offTo f i+f i
theorem offTo_mono(f:Nat->Nat){i k:Nat}(h:i<=k):offTo f i<=offTo f k:=by
 induction h with
 | refl=>exact Nat.le_refl _
 | step _ ih=>exact Nat.le_trans ih (Nat.le_add_right _ _)
theorem offTo_bd{f:Nat->Nat}{n:Nat}(h:∀i,i<n->f i<=131072):∀i,i<=n->offTo f i<=i*131072:=by
 intro i
 induction i with
 | zero=>intro _;exact Nat.le_refl _
 | succ i ih=>
  intro hi
  have h1:=ih (by omega)
  have h2:=h i (by omega)
  show offTo f i+f i<=_
  omega
theorem off_lt(f:Nat->Nat){i q i' q':Nat}(hq:q<f i)(hq':q'<f i')(h:offTo f i'+q'<offTo f i+q):i'<i\/(i'=i/\q'<q):=by
 rcases Nat.lt_trichotomy i' i with h1 | h1 | h1
 ·exact .inl h1
 ·subst h1;exact .inr ⟨rfl,by omega⟩
 ·have h2:=offTo_mono f (show i+1<=i' by omega)
  have:offTo f (i+1)=offTo f i+f i:=rfl
  omega
def sumF(F:Nat->Int)(n:Nat):Int:=Crc.sumOf (lst F n)
theorem sumF_ext{F G:Nat->Int}{n:Nat}(h:∀j,j<n->F j=G j):sumF F n=sumF G n:=by unfold sumF;rw [lst_ext h]
theorem sumF_bd{F:Nat->Int}{n:Nat}(h:∀j,j<n->0<=F j/\F j<=255):0<=sumF F n/\sumF F n<4294967296:=by
 have:=Crc.reg_lt (r:=4294967295) (by omega) (lst F n) (lst_mem h)
 unfold sumF Crc.sumOf
 omega
structure Ld(f:Nat->Nat)(sz n:Nat)(B:Nat->Nat->Int)(H:Nat->Int)(k:Nat)(F:Nat->Int):Prop where
 front:∀p,p<20+64*n->F p=H p
 sum:∀i q,i<n->q<f i->offTo f i+q<k->∀j,j<4->F (atTo f sz n i+4*q+j)=be 4 (sumF (B (offTo f i+q)) sz) j
 byte:∀i q,i<n->q<f i->offTo f i+q<k->∀j,j<sz->F (firstAt f sz n i+sz*q+j)=B (offTo f i+q) j
 gap:∀p,20+64*n<=p->(∀i q,i<n->q<f i->offTo f i+q<k->(∀j,j<4->p≠atTo f sz n i+4*q+j)/\∀j,j<sz->p≠firstAt f sz n i+sz*q+j)->F p=0
theorem Ld.zero(f:Nat->Nat)(sz n:Nat)(B:Nat->Nat->Int)(H:Nat->Int)(F:Nat->Int)(h:∀p,p<20+64*n->F p=H p)(h0:∀p,20+64*n<=p->F p=0):Ld f sz n B H 0 F:=
 ⟨h,fun i q _ _ h=>by omega,fun i q _ _ h=>by omega,fun p hp _=>h0 p hp⟩
theorem patch_in{F:Nat->Int}{o n:Nat}{f:Nat->Int}{j:Nat}(h:j<n):patch F o n f (o+j)=f j:=by unfold patch;rw [if_pos ⟨by omega,by omega⟩];congr 1;omega
theorem patch_out{F:Nat->Int}{o n:Nat}{f:Nat->Int}{p:Nat}(h:p<o\/o+n<=p):patch F o n f p=F p:=by unfold patch;rw [if_neg (by omega)]
theorem mul_step(sz q m:Nat)(h:q<m):sz*q+sz<=sz*m:=by
 have:=Nat.mul_le_mul_left sz (show q+1<=m from h)
 rwa [Nat.mul_succ] at this
theorem place_end(f:Nat->Nat)(sz n:Nat){i q:Nat}(hq:q<f i):atTo f sz n i+4*q+4<=firstAt f sz n i/\firstAt f sz n i+sz*q+sz<=atTo f sz n (i+1):=by
 have h1:=firstAt_le f sz n i
 have h2:=mul_step sz q (f i) hq
 rw [atTo_succ,Nat.mul_comm (f i) sz]
 omega
theorem Ld.next{f:Nat->Nat}{sz n:Nat}{B:Nat->Nat->Int}{H:Nat->Int}{F:Nat->Int}{i q:Nat}(h:Ld f sz n B H (offTo f i+q) F)(hi:i<n)(hq:q<f i):
  Ld f sz n B H (offTo f i+q+1) (patch (patch F (atTo f sz n i+4*q) 4 (be 4 (sumF (B (offTo f i+q)) sz))) (firstAt f sz n i+sz*q) sz (B (offTo f i+q))):=by
 have hlo:=atTo_lo f sz n i
 have hfi:=firstAt_le f sz n i
 have hpe:=place_end f sz n hq
 have old:∀i' q',i'<n->q'<f i'->offTo f i'+q'<offTo f i+q->(∀j,j<4->(atTo f sz n i'+4*q'+j<atTo f sz n i+4*q))/\(∀j,j<sz->(firstAt f sz n i'+sz*q'+j<atTo f sz n i+4*q\/(atTo f sz n i+4*q+4<=firstAt f sz n i'+sz*q'+j/\firstAt f sz n i'+sz*q'+j<firstAt f sz n i+sz*q))):=by
  intro i' q' hi' hq' hk
  have hpe':=place_end f sz n hq'
  rcases off_lt f hq hq' hk with hl | ⟨rfl,hl⟩
  ·have hm:=atTo_mono f sz n (show i'+1<=i from hl)
   have:=firstAt_le f sz n i'
   exact⟨fun j hj=>by omega,fun j hj=>.inl (by omega)⟩
  ·have:=mul_step sz q' q hl
   exact⟨fun j hj=>by omega,fun j hj=>.inr ⟨by omega,by omega⟩⟩
 have same:∀i' q',i'<n->q'<f i'->offTo f i'+q'<offTo f i+q+1->¬offTo f i'+q'<offTo f i+q->i'=i/\q'=q:=by
  intro i' q' hi' hq' h1 h2
  have e:offTo f i'+q'=offTo f i+q:=by omega
  rcases Nat.lt_trichotomy i' i with h3 | h3 | h3
  ·have:=offTo_mono f (show i'+1<=i from h3)
   have:offTo f (i'+1)=offTo f i'+f i':=rfl
   omega
  ·subst h3;exact⟨rfl,by omega⟩
  ·have:=offTo_mono f (show i+1<=i' from h3)
   have:offTo f (i+1)=offTo f i+f i:=rfl
   omega
 refine⟨fun p hp=>?_,fun i' q' hi' hq' hk j hj=>?_,fun i' q' hi' hq' hk j hj=>?_,fun p hp hg=>?_⟩
 ·rw [patch_out (by omega),patch_out (by omega)]
  exact h.front p hp
 ·by_cases hl:offTo f i'+q'<offTo f i+q
  ·have:=(old i' q' hi' hq' hl).1 j hj
   rw [patch_out (by omega),patch_out (by omega)]
   exact h.sum i' q' hi' hq' hl j hj
  ·obtain⟨rfl,rfl⟩:=same i' q' hi' hq' hk hl
   rw [patch_out (by omega),patch_in hj]
 ·by_cases hl:offTo f i'+q'<offTo f i+q
  ·have:=(old i' q' hi' hq' hl).2 j hj
   rw [patch_out (by omega),patch_out (by omega)]
   exact h.byte i' q' hi' hq' hl j hj
  ·obtain⟨rfl,rfl⟩:=same i' q' hi' hq' hk hl
   rw [patch_in hj]
 ·have hg0:=hg i q hi hq (by omega)
  have o1:p<firstAt f sz n i+sz*q\/firstAt f sz n i+sz*q+sz<=p:=by
   rcases Nat.lt_or_ge p (firstAt f sz n i+sz*q) with h1 | h1
   ·exact .inl h1
   ·rcases Nat.lt_or_ge p (firstAt f sz n i+sz*q+sz) with h2 | h2
    ·exact absurd (show p=firstAt f sz n i+sz*q+(p-(firstAt f sz n i+sz*q)) by omega) (hg0.2 _ (by omega))
    ·exact .inr h2
  have o2:p<atTo f sz n i+4*q\/atTo f sz n i+4*q+4<=p:=by
   rcases Nat.lt_or_ge p (atTo f sz n i+4*q) with h1 | h1
   ·exact .inl h1
   ·rcases Nat.lt_or_ge p (atTo f sz n i+4*q+4) with h2 | h2
    ·exact absurd (show p=atTo f sz n i+4*q+(p-(atTo f sz n i+4*q)) by omega) (hg0.1 _ (by omega))
    ·exact .inr h2
  rw [patch_out o1,patch_out o2]
  exact h.gap p hp fun i' q' hi' hq' hk=>hg i' q' hi' hq' (by omega)
def dirF(len n sz:Int)(D:Nat->Mt):Nat->Int:=fun p=>if p<16 then headF len n sz p else entF (D ((p-16)/64)) ((p-16)%64)
theorem dirF_bd(len n sz:Int)(D:Nat->Mt)(p:Nat):0<=dirF len n sz D p/\dirF len n sz D p<=255:=by
 unfold dirF
 split
 ·exact headF_bd ..
 ·exact entF_bd ..
theorem dirF_ent(len n sz:Int)(D:Nat->Mt)(i j:Nat)(hj:j<64):dirF len n sz D (16+64*i+j)=entF (D i) j:=by
 unfold dirF
 rw [if_neg (by omega),show (16+64*i+j-16)/64=i by omega,show (16+64*i+j-16)%64=j by omega]
def frontF(len:Int)(n sz:Nat)(D:Nat->Mt):Nat->Int:=patch (dirF len n sz D) (16+64*n) 4 (be 4 (sumF (dirF len n sz D) (16+64*n)))
theorem news_two(w:World)(x y:Value)(t:TypeId):∀(j:Nat) (u:Value),[x,y][j]?=some u->(w.alloc (.cells #[x,y] t)).cell? ((⟨w.heap.size,0,none⟩:Addr).add j)=some u:=by
 intro j u h
 match j,h with
 | 0,h=>
  simp only [List.getElem?_cons_zero,Option.some.injEq] at h
  subst h
  show (w.alloc (.cells #[x,y] t)).cell? ⟨w.heap.size,0,none⟩=_
  rw [World.cell?_alloc_at _ _ _ _ rfl];rfl
 | 1,h=>
  simp only [List.getElem?_cons_succ,List.getElem?_cons_zero,Option.some.injEq] at h
  subst h
  show (w.alloc (.cells #[x,y] t)).cell? ⟨w.heap.size,1,none⟩=_
  rw [World.cell?_alloc_at _ _ _ _ rfl];rfl
 | j+2,h=>simp at h
theorem two_oneCell(a b:Int):∀u∈[Value.int .i64 a,Value.int .i64 b],u.oneCell'=true:=by
 intro u hu
 simp only [List.mem_cons,List.mem_nil_iff,or_false] at hu
 rcases hu with rfl | rfl <;> rfl
theorem rowL_succ2(T:Nat->Int)(k:Nat):rowL (2*(k+1)) T=rowL (2*k) T ++ [.int .i64 (T (2*k)),.int .i64 (T (2*k+1))]:=by
 unfold rowL
 rw [show 2*(k+1)=2*k+1+1 by omega,List.range_succ,List.range_succ]
 simp [blk]
theorem two_cells{w:World}{p:Option Addr}{n:Nat}{T:Nat->Int}(h:SlF 2 w p n T)(hn:0<n):∃g o,p=some ⟨g,o,none⟩/\g<w.heap.size/\∀k,k<n->w.cell? ⟨g,o+k*2,none⟩=some (.int .i64 (T (2*k)))/\w.cell? ⟨g,o+k*2+1,none⟩=some (.int .i64 (T (2*k+1))):=by
 obtain⟨g,o,hp,hg,hc⟩:=h hn
 refine⟨g,o,hp,hg,fun k hk=>⟨?_,?_⟩⟩
 ·have:=hc (2*k) (by omega)
  rwa [show o+2*k=o+k*2 by omega] at this
 ·have:=hc (2*k+1) (by omega)
  rwa [show o+(2*k+1)=o+k*2+1 by omega] at this
theorem own2_slice{X:Nat->Prop}{w:World}{e:TypeId}{n:Nat}{v:Value}{T:Nat->Int}(h:ownS X w e 2 v n (rowL (2*n) T)):∃p cap,v = .slice p n cap/\n<=cap/\cap<=maxLen/\SlF 2 w p n T:=by
 rcases h.shape with ⟨hv,h0⟩ | ⟨g,cap,hv,_,hg,hk,hc,hcell⟩
 ·exact⟨none,0,by rw [hv,h0],by omega,Nat.zero_le _,fun h=>by omega⟩
 ·refine⟨some ⟨g,0,none⟩,cap,hv,hk,hc,fun _=>⟨g,0,rfl,hg,fun j hj=>?_⟩⟩
  rw [Nat.zero_add]
  exact hcell j _ (rowL_at _ _ _ hj)
theorem Tryz.info_tone:(Tryz.prog.info? 224).map (fun i=>(i.zero,i.size,i.bytes))=some (some (.agg #[.int .i64 0,.int .i64 0]),2,16):=by kernel_rfl
structure InsO(R:Int->Int->Prop)(F:Nat->Int)(i:Nat)(G:Nat->Int):Prop where
 rest:∀k,i<=k->G k=F k
 ord:∀a b,a<b->b<i->R (G a) (G b)
 frm:∀k,k<i->∃m,m<i/\G k=F m
 all:∀m,m<i->∃k,k<i/\G k=F m
structure InsI(R:Int->Int->Prop)(F:Nat->Int)(i j:Nat)(G:Nat->Int):Prop where
 le:j<=i
 rest:∀k,i<k->G k=F k
 own:G j=F i
 ord:∀a b,a<b->b<=i->a≠j->b≠j->R (G a) (G b)
 lo:∀b,j<b->b<=i->R (G j) (G b)
 frm:∀k,k<=i->k≠j->∃m,m<i/\G k=F m
 all:∀m,m<i->∃k,k<=i/\k≠j/\G k=F m
def swapF(G:Nat->Int)(j:Nat):Nat->Int:=fun k=>if k=j-1 then G j else if k=j then G (j-1) else G k
theorem swapF_set'(G:Nat->Int)(j:Nat)(hj:0<j):(fun k=>if k=j then G (j-1) else(fun k=>if k=j-1 then G j else G k) k)=swapF G j:=by
 funext k
 unfold swapF
 by_cases h:k=j
 ·subst h;rw [if_pos rfl,if_neg (by omega),if_pos rfl]
 ·rw [if_neg h];dsimp only;split <;> rfl
theorem InsO.start(R:Int->Int->Prop)(F:Nat->Int):InsO R F 1 F:=
 ⟨fun _ _=>rfl,fun a b h1 h2=>by omega,fun k hk=>⟨k,hk,rfl⟩,fun m hm=>⟨m,hm,rfl⟩⟩
theorem InsO.enter{R:Int->Int->Prop}{F G:Nat->Int}{i:Nat}(h:InsO R F i G):InsI R F i i G:=
 ⟨Nat.le_refl _,fun k hk=>h.rest k (by omega),h.rest i (Nat.le_refl _),fun a b h1 h2 h3 h4=>h.ord a b h1 (by omega),fun b h1 h2=>by omega,fun k h1 h2=>h.frm k (by omega),fun m hm=>by
  obtain⟨k,h1,h2⟩:=h.all m hm
  exact⟨k,by omega,by omega,h2⟩⟩
theorem InsI.swap{R:Int->Int->Prop}{F G:Nat->Int}{i j:Nat}(h:InsI R F i j G)(hj:0<j)(hR:R (G j) (G (j-1))):InsI R F i (j-1) (swapF G j):=by
 have hle:=h.le
 have e1:swapF G j (j-1)=G j:=by unfold swapF;rw [if_pos rfl]
 have e2:swapF G j j=G (j-1):=by unfold swapF;rw [if_neg (by omega),if_pos rfl]
 have e3:∀k,k≠j->k≠j-1->swapF G j k=G k:=fun k h1 h2=>by unfold swapF;rw [if_neg h2,if_neg h1]
 refine⟨by omega,fun k hk=>by rw [e3 k (by omega) (by omega)];exact h.rest k hk,by rw [e1];exact h.own,?_,?_,?_,?_⟩
 ·intro a b h1 h2 h3 h4
  by_cases c:a=j
  ·subst c
   rw [e2,e3 b (by omega) h4]
   exact h.ord _ _ (by omega) h2 (by omega) (by omega)
  ·by_cases d:b=j
   ·subst d
    rw [e2,e3 a c h3]
    exact h.ord _ _ (by omega) (by omega) c (by omega)
   ·rw [e3 a c h3,e3 b d h4]
    exact h.ord _ _ h1 h2 c d
 ·intro b h1 h2
  rw [e1]
  by_cases d:b=j
  ·subst d;rw [e2];exact hR
  ·rw [e3 b d (by omega)];exact h.lo b (by omega) h2
 ·intro k h1 h2
  by_cases d:k=j
  ·subst d;rw [e2];exact h.frm _ (by omega) (by omega)
  ·rw [e3 k d h2];exact h.frm k h1 d
 ·intro m hm
  obtain⟨k,h1,h2,h3⟩:=h.all m hm
  by_cases d:k=j-1
  ·subst d;exact⟨j,by omega,by omega,by rw [e2];exact h3⟩
  ·exact⟨k,h1,d,by rw [e3 k h2 d];exact h3⟩
theorem InsI.done{R:Int->Int->Prop}(tr:∀x y z,R x y->R y z->R x z){F G:Nat->Int}{i j:Nat}(h:InsI R F i j G)(hR:0<j->R (G (j-1)) (G j)):InsO R F (i+1) G:=by
 have hle:=h.le
 refine⟨fun k hk=>h.rest k (by omega),?_,?_,?_⟩
 ·intro a b h1 h2
  by_cases c:a=j
  ·subst c;exact h.lo b h1 (by omega)
  ·by_cases d:b=j
   ·subst d
    by_cases e:a=b-1
    ·subst e;exact hR (by omega)
    ·exact tr _ _ _ (h.ord a (b-1) (by omega) (by omega) c (by omega)) (hR (by omega))
   ·exact h.ord a b h1 (by omega) c d
 ·intro k hk
  by_cases d:k=j
  ·subst d;exact⟨i,by omega,h.own⟩
  ·obtain⟨m,h1,h2⟩:=h.frm k (by omega) d
   exact⟨m,by omega,h2⟩
 ·intro m hm
  by_cases d:m=i
  ·subst d;exact⟨j,by omega,h.own⟩
  ·obtain⟨k,h1,_,h2⟩:=h.all m (by omega)
   exact⟨k,by omega,h2⟩
structure SrtO(R:Int->Int->Prop)(F:Nat->Int)(n:Nat)(G:Nat->Int):Prop where
 ord:∀a b,a<b->b<n->R (G a) (G b)
 frm:∀k,k<n->∃m,m<n/\G k=F m
 all:∀m,m<n->∃k,k<n/\G k=F m
theorem InsO.srt{R:Int->Int->Prop}{F G:Nat->Int}{i n:Nat}(h:InsO R F i G)(hi:i=n\/n=0):SrtO R F n G:=by
 rcases hi with rfl | rfl
 ·exact⟨h.ord,h.frm,h.all⟩
 ·exact⟨fun _ _ _ h=>by omega,fun _ h=>by omega,fun _ h=>by omega⟩
theorem rising_eq:∀(xs ys:List Nat),xs.Pairwise (· < ·)->ys.Pairwise (· < ·)->(∀x,x∈xs↔x∈ys)->xs=ys
 | [],[],_,_,_=>rfl
 | [],y :: ys,_,_,h=>by have:=(h y).2 (by simp);simp at this
 | x :: xs,[],_,_,h=>by have:=(h x).1 (by simp);simp at this
 | x :: xs,y :: ys,hx,hy,h=>by
  rw [List.pairwise_cons] at hx hy
  have h1:x=y:=by
   rcases List.mem_cons.1 ((h x).1 (by simp)) with e | e
   ·exact e
   ·rcases List.mem_cons.1 ((h y).2 (by simp)) with e' | e'
    ·exact e'.symm
    ·have:=hy.1 x e;have:=hx.1 y e';omega
  subst h1
  rw [rising_eq xs ys hx.2 hy.2 fun z=>?_]
  constructor
  ·intro hz
   have h2:=hx.1 z hz
   rcases List.mem_cons.1 ((h z).1 (by simp [hz])) with e | e
   ·omega
   ·exact e
  ·intro hz
   have h2:=hy.1 z hz
   rcases List.mem_cons.1 ((h z).2 (by simp [hz])) with e | e
   ·omega
   ·exact e
theorem own_cells{X:Nat->Prop}{w:World}{t:TypeId}{v:Value}{xs:List Int}(h:ownX X w t v xs.length (xs.map (Value.int .i64))):(v = .slice none 0 0/\xs = [])\/∃g cap,v = .slice (some ⟨g,0,none⟩) xs.length cap/\¬X g/\xs.length<=cap/\cap<=maxLen/\CellsAt w g xs.length (fun j=>xs.getD j 0):=by
 rcases h.shape with ⟨hv,h0⟩ | ⟨g,cap,hv,hx,hg,h1,h2,h3⟩
 ·exact .inl ⟨hv,List.eq_nil_of_length_eq_zero h0⟩
 ·subst hv
  refine .inr ⟨g,cap,rfl,hx,h1,h2,hg,fun j hj=>h3 j _ ?_,fun j hj=>h.frozenAt j⟩
  rw [List.getElem?_map,List.getElem?_eq_getElem hj]
  simp [List.getD,hj]
def swapR(G:Nat->Int)(a b n:Nat):Nat->Int:=fun k=>if a<=k/\k<a+n then G (k-a+b) else if b<=k/\k<b+n then G (k-b+a) else G k
theorem swapR_zero(G:Nat->Int)(a b:Nat):swapR G a b 0=G:=by
 funext k;unfold swapR;rw [if_neg (by omega),if_neg (by omega)]
theorem swapR_succ(G:Nat->Int)(a b n:Nat)(h:a+n<b):(fun k=>if k=b+n then swapR G a b n (a+n) else if k=a+n then swapR G a b n (b+n) else swapR G a b n k)=swapR G a b (n+1):=by
 funext k
 unfold swapR
 by_cases c1:k=b+n
 ·rw [if_pos c1,if_neg (by omega),if_neg (by omega),if_neg (by omega),if_pos (by omega)];congr 1;omega
 rw [if_neg c1]
 by_cases c2:k=a+n
 ·rw [if_pos c2,if_neg (by omega),if_neg (by omega),if_pos (by omega)];congr 1;omega
 rw [if_neg c2]
 by_cases c3:a<=k/\k<a+n
 ·rw [if_pos c3,if_pos (by omega)]
 by_cases c4:b<=k/\k<b+n
 ·rw [if_neg c3,if_pos c4,if_neg (by omega),if_pos (by omega)]
 rw [if_neg c3,if_neg c4,if_neg (by omega),if_neg (by omega)]
def rotF(G:Nat->Int)(a m b:Nat):Nat->Int:=fun k=>if a<=k/\k<a+(b-m) then G (k+(m-a)) else if a+(b-m)<=k/\k<b then G (k-(b-m)) else G k
theorem rotF_lo(G:Nat->Int){a m b k:Nat}(h:k<a):rotF G a m b k=G k:=by unfold rotF;rw [if_neg (by omega),if_neg (by omega)]
theorem rotF_hi(G:Nat->Int){a m b k:Nat}(h1:a<=m)(h2:m<=b)(h:b<=k):rotF G a m b k=G k:=by unfold rotF;rw [if_neg (by omega),if_neg (by omega)]
theorem rotF_one(G:Nat->Int){a m b k:Nat}(h1:a<=k)(h2:k<a+(b-m)):rotF G a m b k=G (k+(m-a)):=by unfold rotF;rw [if_pos ⟨h1,h2⟩]
theorem rotF_two(G:Nat->Int){a m b k:Nat}(h1:a+(b-m)<=k)(h2:k<b):rotF G a m b k=G (k-(b-m)):=by unfold rotF;rw [if_neg (by omega),if_pos ⟨h1,h2⟩]
theorem rotF_left(G:Nat->Int)(m b:Nat)(h:m<=b):rotF G m m b=G:=by
 funext k;unfold rotF
 split
 ·congr 1;omega
 ·split
  ·omega
  ·rfl
theorem rotF_right(G:Nat->Int)(a m:Nat)(h:a<=m):rotF G a m m=G:=by
 funext k;unfold rotF
 split
 ·omega
 ·split
  ·congr 1;omega
  ·rfl
theorem rot_gt(G:Nat->Int)(m i j:Nat)(hi:i<=m)(hj:j<i):rotF (swapR G (m-i) m j) (m-(i-j)) m (m+j)=rotF G (m-i) m (m+j):=by
 funext k
 by_cases c1:k<m-i
 ·rw [rotF_lo _ (by omega),rotF_lo _ c1];unfold swapR;rw [if_neg (by omega),if_neg (by omega)]
 by_cases c2:k<m-i+j
 ·rw [rotF_lo _ (by omega),rotF_one _ (by omega) (by omega)];unfold swapR;rw [if_pos (by omega)];congr 1;omega
 by_cases c3:k<m-i+j+j
 ·rw [rotF_one _ (by omega) (by omega),rotF_two _ (by omega) (by omega)];unfold swapR;rw [if_neg (by omega),if_pos (by omega)];congr 1;omega
 by_cases c4:k<m+j
 ·rw [rotF_two _ (by omega) (by omega),rotF_two _ (by omega) (by omega)];unfold swapR;rw [if_neg (by omega),if_neg (by omega)]
 rw [rotF_hi _ (by omega) (by omega) (by omega),rotF_hi _ (by omega) (by omega) (by omega)];unfold swapR;rw [if_neg (by omega),if_neg (by omega)]
theorem rot_lt(G:Nat->Int)(m i j:Nat)(hi:i<=m)(hj:i<j):rotF (swapR G (m-i) (m+j-i) i) (m-i) m (m+(j-i))=rotF G (m-i) m (m+j):=by
 funext k
 by_cases c1:k<m-i
 ·rw [rotF_lo _ (by omega),rotF_lo _ c1];unfold swapR;rw [if_neg (by omega),if_neg (by omega)]
 by_cases c2:k<m-i+(j-i)
 ·rw [rotF_one _ (by omega) (by omega),rotF_one _ (by omega) (by omega)];unfold swapR
  rw [if_neg (by omega)]
  by_cases c:m+j-i<=k+(m-(m-i))
  ·omega
  ·rw [if_neg (by omega)]
 by_cases c3:k<m-i+j
 ·by_cases c4:k<m+(j-i)
  ·rw [rotF_two _ (by omega) (by omega),rotF_one _ (by omega) (by omega)];unfold swapR;rw [if_pos (by omega)];congr 1;omega
  ·omega
 by_cases c4:k<m+(j-i)
 ·omega
 by_cases c5:k<m+j
 ·rw [rotF_hi _ (by omega) (by omega) (by omega),rotF_two _ (by omega) (by omega)];unfold swapR;rw [if_neg (by omega),if_pos (by omega)];congr 1;omega
 rw [rotF_hi _ (by omega) (by omega) (by omega),rotF_hi _ (by omega) (by omega) (by omega)];unfold swapR;rw [if_neg (by omega),if_neg (by omega)]
theorem rot_eq(G:Nat->Int)(m i:Nat)(hi:i<=m):swapR G (m-i) m i=rotF G (m-i) m (m+i):=by
 funext k
 by_cases c1:k<m-i
 ·rw [rotF_lo _ c1];unfold swapR;rw [if_neg (by omega),if_neg (by omega)]
 by_cases c2:k<m
 ·rw [rotF_one _ (by omega) (by omega)];unfold swapR;rw [if_pos (by omega)];congr 1;omega
 by_cases c3:k<m+i
 ·rw [rotF_two _ (by omega) (by omega)];unfold swapR;rw [if_neg (by omega),if_pos (by omega)];congr 1;omega
 rw [rotF_hi _ (by omega) (by omega) (by omega)];unfold swapR;rw [if_neg (by omega),if_neg (by omega)]
theorem rot_up(G:Nat->Int)(a k:Nat)(h:a<=k):swapF (rotF G a (a+1) (k+1)) (k+1)=rotF G a (a+1) (k+1+1):=by
 funext q
 unfold swapF
 by_cases c1:q=k+1-1
 ·rw [if_pos c1,rotF_hi _ (by omega) (by omega) (by omega),rotF_one _ (by omega) (by omega)];congr 1;omega
 rw [if_neg c1]
 by_cases c2:q=k+1
 ·rw [if_pos c2,rotF_two _ (by omega) (by omega),rotF_two _ (by omega) (by omega)];congr 1;omega
 rw [if_neg c2]
 by_cases c3:q<a
 ·rw [rotF_lo _ c3,rotF_lo _ c3]
 by_cases c4:q<k
 ·rw [rotF_one _ (by omega) (by omega),rotF_one _ (by omega) (by omega)]
 rw [rotF_hi _ (by omega) (by omega) (by omega),rotF_hi _ (by omega) (by omega) (by omega)]
theorem rot_down(G:Nat->Int)(m k:Nat)(h:k<=m)(h0:0<k):swapF (rotF G k m (m+1)) k=rotF G (k-1) m (m+1):=by
 funext q
 unfold swapF
 by_cases c1:q=k-1
 ·rw [if_pos c1,rotF_one _ (by omega) (by omega),rotF_one _ (by omega) (by omega)];congr 1;omega
 rw [if_neg c1]
 by_cases c2:q=k
 ·rw [if_pos c2,rotF_lo _ (by omega),rotF_two _ (by omega) (by omega)];congr 1;omega
 rw [if_neg c2]
 by_cases c3:q<k
 ·rw [rotF_lo _ (by omega),rotF_lo _ (by omega)]
 by_cases c4:q<m+1
 ·rw [rotF_two _ (by omega) (by omega),rotF_two _ (by omega) (by omega)]
 rw [rotF_hi _ (by omega) (by omega) (by omega),rotF_hi _ (by omega) (by omega) (by omega)]
def OrdAB(R:Int->Int->Prop)(G:Nat->Int)(a b:Nat):Prop:=∀i j,a<=i->i<j->j<b->R (G i) (G j)
structure PermAB(F G:Nat->Int)(a b:Nat):Prop where
 out:∀k,(k<a\/b<=k)->G k=F k
 frm:∀k,a<=k->k<b->∃m,a<=m/\m<b/\G k=F m
 all:∀m,a<=m->m<b->∃k,a<=k/\k<b/\G k=F m
theorem PermAB.refl(F:Nat->Int)(a b:Nat):PermAB F F a b:=⟨fun _ _=>rfl,fun k h1 h2=>⟨k,h1,h2,rfl⟩,fun k h1 h2=>⟨k,h1,h2,rfl⟩⟩
theorem PermAB.trans{F G H:Nat->Int}{a b:Nat}(h:PermAB F G a b)(k:PermAB G H a b):PermAB F H a b:=
 ⟨fun q hq=>(k.out q hq).trans (h.out q hq),fun q h1 h2=>by
  obtain⟨m,a1,a2,a3⟩:=k.frm q h1 h2
  obtain⟨m',b1,b2,b3⟩:=h.frm m a1 a2
  exact⟨m',b1,b2,a3.trans b3⟩,fun q h1 h2=>by
  obtain⟨m,a1,a2,a3⟩:=h.all q h1 h2
  obtain⟨m',b1,b2,b3⟩:=k.all m a1 a2
  exact⟨m',b1,b2,b3.trans a3⟩⟩
theorem PermAB.wide{F G:Nat->Int}{a b c d:Nat}(h:PermAB F G a b)(h1:c<=a)(h2:b<=d):PermAB F G c d:=
 ⟨fun q hq=>h.out q (by omega),fun q q1 q2=>by
  by_cases e:a<=q/\q<b
  ·obtain⟨m,a1,a2,a3⟩:=h.frm q e.1 e.2
   exact⟨m,by omega,by omega,a3⟩
  ·exact⟨q,q1,q2,h.out q (by omega)⟩,fun q q1 q2=>by
  by_cases e:a<=q/\q<b
  ·obtain⟨m,a1,a2,a3⟩:=h.all q e.1 e.2
   exact⟨m,by omega,by omega,a3⟩
  ·exact⟨q,q1,q2,h.out q (by omega)⟩⟩
theorem rot_perm(G:Nat->Int){a m b:Nat}(h1:a<=m)(h2:m<=b):PermAB G (rotF G a m b) a b:=by
 refine⟨fun q hq=>?_,fun q q1 q2=>?_,fun q q1 q2=>?_⟩
 ·rcases hq with h | h
  ·exact rotF_lo G h
  ·exact rotF_hi G h1 h2 h
 ·by_cases c:q<a+(b-m)
  ·exact⟨q+(m-a),by omega,by omega,rotF_one G q1 c⟩
  ·exact⟨q-(b-m),by omega,by omega,rotF_two G (by omega) q2⟩
 ·by_cases c:q<m
  ·exact⟨q+(b-m),by omega,by omega,by rw [rotF_two G (by omega) (by omega)];congr 1;omega⟩
  ·exact⟨q-(m-a),by omega,by omega,by rw [rotF_one G (by omega) (by omega)];congr 1;omega⟩
section
variable {R:Int->Int->Prop} (tr:∀x y z,R x y->R y z->R x z)
include tr
theorem ord_le{G:Nat->Int}{a b i j:Nat}{z:Int}(h:OrdAB R G a b)(hi:a<=i)(hij:i<=j)(hj:j<b)(hz:R (G j) z):R (G i) z:=by
 by_cases e:i=j
 ·subst e;exact hz
 ·exact tr _ _ _ (h i j hi (by omega) hj) hz
theorem ord_ge{G:Nat->Int}{a b i j:Nat}{z:Int}(h:OrdAB R G a b)(hi:a<=i)(hij:i<=j)(hj:j<b)(hz:R z (G i)):R z (G j):=by
 by_cases e:i=j
 ·subst e;exact hz
 ·exact tr _ _ _ hz (h i j hi (by omega) hj)
theorem rot_cross{G:Nat->Int}{a s m e b:Nat}(h1:a<=s)(h2:s<=m)(h3:m<=e)(h4:e<=b)(hl:OrdAB R G a m)(hr:OrdAB R G m b)
  (x1:a<s->e<b->R (G (s-1)) (G e)) (x2:s<m->m<e->R (G (e-1)) (G s)):
  ∀i j,a<=i->i<s+(e-m)->s+(e-m)<=j->j<b->R (rotF G s m e i) (rotF G s m e j):=by
 intro i j hi hi2 hj hj2
 by_cases c1:i<s
 ·rw [rotF_lo G c1]
  by_cases c2:j<e
  ·rw [rotF_two G hj c2]
   exact hl i _ hi (by omega) (by omega)
  ·rw [rotF_hi G h2 h3 (by omega)]
   exact ord_le tr hl hi (show i<=s-1 by omega) (by omega) (ord_ge tr hr h3 (show e<=j by omega) hj2 (x1 (by omega) (by omega)))
 ·rw [rotF_one G (by omega) hi2]
  by_cases c2:j<e
  ·rw [rotF_two G hj c2]
   exact ord_le tr hr (by omega) (show i+(m-s)<=e-1 by omega) (by omega) (ord_ge tr hl h1 (show s<=j-(e-m) by omega) (by omega) (x2 (by omega) (by omega)))
  ·rw [rotF_hi G h2 h3 (by omega)]
   exact hr _ j (by omega) (by omega) hj2
omit tr in
theorem rot_ord1{G:Nat->Int}{a s m e:Nat}(h2:s<=m)(hl:OrdAB R G a m):OrdAB R (rotF G s m e) a s:=fun i j hi hij hj=>by rw [rotF_lo G (by omega),rotF_lo G hj];exact hl i j hi hij (by omega)
omit tr in
theorem rot_ord2{G:Nat->Int}{s m e b:Nat}(h2:s<=m)(h3:m<=e)(h4:e<=b)(hr:OrdAB R G m b):OrdAB R (rotF G s m e) s (s+(e-m)):=fun i j hi hij hj=>by
 rw [rotF_one G hi (by omega),rotF_one G (by omega) hj];exact hr _ _ (by omega) (by omega) (by omega)
omit tr in
theorem rot_ord3{G:Nat->Int}{a s m e:Nat}(h1:a<=s)(h2:s<=m)(h3:m<=e)(hl:OrdAB R G a m):OrdAB R (rotF G s m e) (s+(e-m)) e:=fun i j hi hij hj=>by
 rw [rotF_two G hi (by omega),rotF_two G (by omega) hj];exact hl _ _ (by omega) (by omega) (by omega)
omit tr in
theorem rot_ord4{G:Nat->Int}{s m e b:Nat}(h2:s<=m)(h3:m<=e)(hr:OrdAB R G m b):OrdAB R (rotF G s m e) e b:=fun i j hi hij hj=>by
 rw [rotF_hi G h2 h3 hi,rotF_hi G h2 h3 (by omega)];exact hr _ _ (by omega) (by omega) (by omega)
omit tr in
theorem ord_join{G:Nat->Int}{a m b:Nat}(h1:OrdAB R G a m)(h2:OrdAB R G m b)(h3:∀i j,a<=i->i<m->m<=j->j<b->R (G i) (G j)):OrdAB R G a b:=fun i j hi hij hj=>by
 by_cases c1:j<m
 ·exact h1 i j hi hij c1
 by_cases c2:i<m
 ·exact h3 i j hi c2 (by omega) hj
 ·exact h2 i j (by omega) hij hj
omit tr in
theorem ord_congr{G H:Nat->Int}{a b:Nat}(h:OrdAB R G a b)(e:∀k,a<=k->k<b->H k=G k):OrdAB R H a b:=fun i j hi hij hj=>by rw [e i hi (by omega),e j (by omega) hj];exact h i j hi hij hj
omit tr in
theorem ord_small(G:Nat->Int){a b:Nat}(h:b<=a+1):OrdAB R G a b:=fun i j hi hij hj=>by omega
theorem rot_sorted{G:Nat->Int}{a s m e b:Nat}(h1:a<=s)(h2:s<=m)(h3:m<=e)(h4:e<=b)(hl:OrdAB R G a m)(hr:OrdAB R G m b)
  (x1:a<s->e<b->R (G (s-1)) (G e)) (x2:s<m->m<e->R (G (e-1)) (G s)) (x3:a<s->m<e->R (G (s-1)) (G m)) (x4:s<m->e<b->R (G (m-1)) (G e)):
  OrdAB R (rotF G s m e) a b:=by
 refine ord_join (m:=s+(e-m)) (ord_join (rot_ord1 h2 hl) (rot_ord2 h2 h3 h4 hr) fun i j hi hi2 hj hj2=>?_) (ord_join (m:=e) (rot_ord3 h1 h2 h3 hl) (rot_ord4 h2 h3 hr) fun i j hi hi2 hj hj2=>?_) (rot_cross tr h1 h2 h3 h4 hl hr x1 x2)
 ·rw [rotF_lo G hi2,rotF_one G hj hj2]
  exact ord_le tr hl hi (show i<=s-1 by omega) (by omega) (ord_ge tr hr (Nat.le_refl m) (show m<=j+(m-s) by omega) (by omega) (x3 (by omega) (by omega)))
 ·rw [rotF_two G hi hi2,rotF_hi G h2 h3 hj]
  exact ord_le tr hl (by omega) (show i-(e-m)<=m-1 by omega) (by omega) (ord_ge tr hr h3 hj hj2 (x4 (by omega) (by omega)))
omit tr in
theorem merge_done{G H G1 G2:Nat->Int}{a mid b:Nat}(hm:a<=mid)(hb:mid<=b)(hp:PermAB G H a b)(hc:∀i j,a<=i->i<mid->mid<=j->j<b->R (H i) (H j))
  (p1:PermAB H G1 a mid) (o1:OrdAB R G1 a mid) (p2:PermAB G1 G2 mid b) (o2:OrdAB R G2 mid b):PermAB G G2 a b/\OrdAB R G2 a b:=by
 refine⟨hp.trans ((p1.wide (Nat.le_refl _) hb).trans (p2.wide hm (Nat.le_refl _))),ord_join (m:=mid) (ord_congr o1 fun k _ h=>p2.out k (.inl h)) o2 fun i j hi hi2 hj hj2=>?_⟩
 obtain⟨i',a1,a2,a3⟩:=p1.frm i hi hi2
 obtain⟨j',b1,b2,b3⟩:=p2.frm j hj hj2
 rw [p2.out i (.inl hi2),a3,b3,p1.out j' (.inr b1)]
 exact hc i' j' a1 a2 b1 b2
end
theorem div_blk{c t a i:Nat}(hc:0<c)(ha:a=c*t):i/c=t↔a<=i/\i<a+c:=by
 subst ha
 rw [Nat.div_eq_iff hc]
 rw [Nat.mul_comm t c]
 constructor
 ·rintro ⟨h1,h2⟩;exact⟨h1,by omega⟩
 ·rintro ⟨h1,h2⟩;exact⟨h1,by omega⟩
theorem div_lt{c t a i:Nat}(hc:0<c)(ha:a=c*t)(h:i<a):i/c<t:=by
 subst ha;exact(Nat.div_lt_iff_lt_mul hc).2 (by rw [Nat.mul_comm];exact h)
theorem div_ge{c t a i:Nat}(hc:0<c)(ha:a=c*t)(h:a<=i):t<=i/c:=by
 subst ha;exact(Nat.le_div_iff_mul_le hc).2 (by rw [Nat.mul_comm];exact h)
structure Blk(R:Int->Int->Prop)(F:Nat->Int)(N bs:Nat)(G:Nat->Int):Prop where
 ord:∀i j,i<j->j<N->i/bs=j/bs->R (G i) (G j)
 frm:∀k,k<N->∃m,m<N/\m/bs=k/bs/\G k=F m
 all:∀m,m<N->∃k,k<N/\k/bs=m/bs/\G k=F m
structure Mix(R:Int->Int->Prop)(F:Nat->Int)(N c bs a:Nat)(G:Nat->Int):Prop where
 ordL:∀i j,i<j->j<a->j<N->i/c=j/c->R (G i) (G j)
 ordR:∀i j,a<=i->i<j->j<N->i/bs=j/bs->R (G i) (G j)
 frmL:∀k,k<a->k<N->∃m,m<N/\m/c=k/c/\G k=F m
 frmR:∀k,a<=k->k<N->∃m,m<N/\m/bs=k/bs/\G k=F m
 allL:∀m,m<a->m<N->∃k,k<N/\k/c=m/c/\G k=F m
 allR:∀m,a<=m->m<N->∃k,k<N/\k/bs=m/bs/\G k=F m
section
variable {R:Int->Int->Prop} {F G G2:Nat->Int} {N bs a y:Nat}
theorem Blk.mix(h:Blk R F N bs G)(c:Nat):Mix R F N c bs 0 G:=
 ⟨fun i j _ hj=>by omega,fun i j _=>h.ord i j,fun k hk=>by omega,fun k _=>h.frm k,fun k hk=>by omega,fun k _=>h.all k⟩
theorem Mix.rows(hb:0<bs)(h:Mix R F N (2*bs) bs a G){t:Nat}(ha:a=2*bs*t)(hy1:a+bs<=y)(hy2:y<=a+2*bs)(hyN:y<=N)(hF:∀i j,i<j->j<N->F i<F j)(hB:∀k,k<N->0<=F k/\F k<N):
  OrdAB R G a (a+bs)/\OrdAB R G (a+bs) y/\(∀i j,a<=i->i<a+bs->a+bs<=j->j<y->G i<G j)/\(∀k,a<=k->k<y->0<=G k/\G k<N):=by
 have e1:a=bs*(2*t):=by rw [ha];rw [Nat.mul_comm 2 bs,Nat.mul_assoc]
 have e2:a+bs=bs*(2*t+1):=by rw [Nat.mul_add,Nat.mul_one,←e1]
 refine⟨fun i j hi hij hj=>h.ordR i j hi hij (by omega) ?_,fun i j hi hij hj=>h.ordR i j (by omega) hij (by omega) ?_,fun i j hi hi2 hj hj2=>?_,fun k hk hk2=>?_⟩
 ·rw [(div_blk hb e1).2 ⟨hi,by omega⟩,(div_blk hb e1).2 ⟨by omega,hj⟩]
 ·rw [(div_blk hb e2).2 ⟨hi,by omega⟩,(div_blk hb e2).2 ⟨by omega,by omega⟩]
 ·obtain⟨m1,a1,a2,a3⟩:=h.frmR i hi (by omega)
  obtain⟨m2,b1,b2,b3⟩:=h.frmR j (by omega) (by omega)
  rw [(div_blk hb e1).2 ⟨hi,hi2⟩] at a2
  rw [(div_blk hb e2).2 ⟨hj,by omega⟩] at b2
  have a4:=(div_blk hb e1).1 a2
  have b4:=(div_blk hb e2).1 b2
  rw [a3,b3]
  exact hF m1 m2 (by omega) b1
 ·obtain⟨m1,a1,_,a3⟩:=h.frmR k hk (by omega)
  rw [a3];exact hB m1 a1
theorem Mix.perm{c:Nat}(hb:0<bs)(hc:c=2*bs)(h:Mix R F N c bs a G){t:Nat}(ha:a=c*t)(hy:a<=y)(hy2:y<=a+c)(hyN:y<=N)(hfull:y=a+c\/y=N)(p:PermAB G G2 a y):
  (∀k,a<=k->k<y->∃m,m<N/\m/c=k/c/\G2 k=F m)/\(∀m,a<=m->m<y->∃k,k<N/\k/c=m/c/\G2 k=F m):=by
 have hc0:0<c:=by omega
 have e1:a=bs*(2*t):=by rw [ha,hc,Nat.mul_comm 2 bs,Nat.mul_assoc]
 have e2:a+bs=bs*(2*t+1):=by rw [Nat.mul_add,Nat.mul_one,←e1]
 have blk:∀q m,a<=q->q<a+c->m/bs=q/bs->a<=m/\m<a+c:=fun q m h1 h2 e=>by
  by_cases d:q<a+bs
  ·rw [(div_blk (i:=q) hb e1).2 ⟨h1,d⟩] at e
   have:=(div_blk hb e1).1 e
   omega
  ·rw [(div_blk (i:=q) hb e2).2 ⟨by omega,by omega⟩] at e
   have:=(div_blk hb e2).1 e
   omega
 refine⟨fun k hk hk2=>?_,fun m hm hm2=>?_⟩
 ·obtain⟨q,q1,q2,q3⟩:=p.frm k hk hk2
  obtain⟨m,m1,m2,m3⟩:=h.frmR q q1 (by omega)
  have:=blk q m q1 (by omega) m2
  exact⟨m,m1,by rw [(div_blk hc0 ha).2 this,(div_blk hc0 ha).2 ⟨hk,by omega⟩],q3.trans m3⟩
 ·obtain⟨q,q1,q2,q3⟩:=h.allR m hm (by omega)
  have hq:=blk m q hm (by omega) q2
  obtain⟨k,k1,k2,k3⟩:=p.all q hq.1 (by rcases hfull with e | e <;> omega)
  exact⟨k,by omega,by rw [(div_blk hc0 ha).2 ⟨k1,by omega⟩,(div_blk hc0 ha).2 ⟨hm,by omega⟩],k3.trans q3⟩
theorem Mix.step(hb:0<bs)(h:Mix R F N (2*bs) bs a G){t:Nat}(ha:a=2*bs*t)(hyN:a+2*bs<=N)(p:PermAB G G2 a (a+2*bs))(o:OrdAB R G2 a (a+2*bs)):Mix R F N (2*bs) bs (a+2*bs) G2:=by
 have hc0:0<2*bs:=by omega
 obtain⟨f1,f2⟩:=h.perm hb rfl ha (y:=a+2*bs) (by omega) (Nat.le_refl _) hyN (.inl rfl) p
 refine⟨fun i j hij hj hjN e=>?_,fun i j hi hij hj e=>?_,fun k hk hkN=>?_,fun k hk hkN=>?_,fun k hk hkN=>?_,fun k hk hkN=>?_⟩
 ·by_cases d:j<a
  ·rw [p.out i (.inl (by omega)),p.out j (.inl d)]
   exact h.ordL i j hij d hjN e
  ·rw [(div_blk (i:=j) hc0 ha).2 ⟨by omega,hj⟩] at e
   have:=(div_blk hc0 ha).1 e
   exact o i j this.1 hij hj
 ·rw [p.out i (.inr hi),p.out j (.inr (by omega))]
  exact h.ordR i j (by omega) hij hj e
 ·by_cases d:k<a
  ·rw [p.out k (.inl d)];exact h.frmL k d hkN
  ·exact f1 k (by omega) hk
 ·rw [p.out k (.inr hk)];exact h.frmR k (by omega) hkN
 ·by_cases d:k<a
  ·obtain⟨q,q1,q2,q3⟩:=h.allL k d hkN
   have hq:q<a:=by
    have h1:=div_lt hc0 ha d
    rw [←q2] at h1
    exact Nat.lt_of_not_le fun h2=>by have:=div_ge hc0 ha h2;omega
   exact⟨q,q1,q2,by rw [p.out q (.inl hq)];exact q3⟩
  ·exact f2 k (by omega) hk
 ·obtain⟨q,q1,q2,q3⟩:=h.allR k (by omega) hkN
  have hq:a+2*bs<=q:=by
   have e3:a+2*bs=bs*(2*t+2):=by rw [ha,Nat.mul_add,Nat.mul_comm bs 2,←Nat.mul_assoc,Nat.mul_comm bs 2]
   have h1:=div_ge hb e3 hk
   rw [←q2] at h1
   exact Nat.le_of_not_lt fun h2=>by have:=div_lt hb e3 h2;omega
  exact⟨q,q1,q2,by rw [p.out q (.inr hq)];exact q3⟩
theorem Mix.last(hb:0<bs)(h:Mix R F N (2*bs) bs a G){t:Nat}(ha:a=2*bs*t)(haN:a<=N)(hN:N<a+2*bs)(p:PermAB G G2 a N)(o:OrdAB R G2 a N):Blk R F N (2*bs) G2:=by
 have hc0:0<2*bs:=by omega
 obtain⟨f1,f2⟩:=h.perm hb rfl ha (y:=N) haN (by omega) (Nat.le_refl _) (.inr rfl) p
 refine⟨fun i j hij hjN e=>?_,fun k hkN=>?_,fun k hkN=>?_⟩
 ·by_cases d:j<a
  ·rw [p.out i (.inl (by omega)),p.out j (.inl d)]
   exact h.ordL i j hij d hjN e
  ·rw [(div_blk (i:=j) hc0 ha).2 ⟨by omega,by omega⟩] at e
   have:=(div_blk hc0 ha).1 e
   exact o i j this.1 hij hjN
 ·by_cases d:k<a
  ·rw [p.out k (.inl d)];exact h.frmL k d hkN
  ·exact f1 k (by omega) hkN
 ·by_cases d:k<a
  ·obtain⟨q,q1,q2,q3⟩:=h.allL k d hkN
   have hq:q<a:=by
    have h1:=div_lt hc0 ha d
    rw [←q2] at h1
    exact Nat.lt_of_not_le fun h2=>by have:=div_ge hc0 ha h2;omega
   exact⟨q,q1,q2,by rw [p.out q (.inl hq)];exact q3⟩
  ·exact f2 k (by omega) hkN
theorem Mix.alone(hb:0<bs)(h:Mix R F N (2*bs) bs a G){t:Nat}(ha:a=2*bs*t)(hN:N<=a+bs):OrdAB R G a N:=fun i j hi hij hj=>by
 have e1:a=bs*(2*t):=by rw [ha];rw [Nat.mul_comm 2 bs,Nat.mul_assoc]
 exact h.ordR i j hi hij hj (by rw [(div_blk hb e1).2 ⟨hi,by omega⟩,(div_blk hb e1).2 ⟨by omega,by omega⟩])
theorem Blk.done(h:Blk R F N bs G)(hN:N<=bs):SrtO R F N G:=
 ⟨fun i j hij hj=>h.ord i j hij hj (by rw [Nat.div_eq_of_lt (by omega),Nat.div_eq_of_lt (by omega)]),fun k hk=>by
  obtain⟨m,h1,_,h2⟩:=h.frm k hk
  exact⟨m,h1,h2⟩,fun k hk=>by
  obtain⟨m,h1,_,h2⟩:=h.all k hk
  exact⟨m,h1,h2⟩⟩
structure Ini(R:Int->Int->Prop)(F:Nat->Int)(N a:Nat)(G:Nat->Int):Prop where
 t:a%20=0
 ord:∀i j,i<j->j<a->i/20=j/20->R (G i) (G j)
 frm:∀k,k<a->∃m,m<a/\m/20=k/20/\G k=F m
 all:∀m,m<a->∃k,k<a/\k/20=m/20/\G k=F m
 rest:∀k,a<=k->G k=F k
theorem Ini.start(R:Int->Int->Prop)(F:Nat->Int)(N:Nat):Ini R F N 0 F:=⟨rfl,fun i j _ h=>by omega,fun k h=>by omega,fun k h=>by omega,fun _ _=>rfl⟩
theorem Ini.step(h:Ini R F N a G)(p:PermAB G G2 a (a+20))(o:OrdAB R G2 a (a+20)):Ini R F N (a+20) G2:=by
 have ht:=h.t
 refine⟨by omega,fun i j hij hj e=>?_,fun k hk=>?_,fun k hk=>?_,fun k hk=>?_⟩
 ·by_cases d:j<a
  ·rw [p.out i (.inl (by omega)),p.out j (.inl d)];exact h.ord i j hij d e
  ·exact o i j (by omega) hij hj
 ·by_cases d:k<a
  ·rw [p.out k (.inl d)]
   obtain⟨m,a1,a2,a3⟩:=h.frm k d
   exact⟨m,by omega,a2,a3⟩
  ·obtain⟨m,a1,a2,a3⟩:=p.frm k (by omega) hk
   exact⟨m,a2,by omega,a3.trans (h.rest m a1)⟩
 ·by_cases d:k<a
  ·obtain⟨m,a1,a2,a3⟩:=h.all k d
   exact⟨m,by omega,a2,by rw [p.out m (.inl a1)];exact a3⟩
  ·obtain⟨m,a1,a2,a3⟩:=p.all k (by omega) hk
   exact⟨m,a2,by omega,a3.trans (h.rest k (by omega))⟩
 ·rw [p.out k (.inr hk)];exact h.rest k (by omega)
theorem Ini.last(h:Ini R F N a G)(haN:a<=N)(hN:N<a+20)(p:PermAB G G2 a N)(o:OrdAB R G2 a N):Blk R F N 20 G2:=by
 have ht:=h.t
 refine⟨fun i j hij hj e=>?_,fun k hk=>?_,fun k hk=>?_⟩
 ·by_cases d:j<a
  ·rw [p.out i (.inl (by omega)),p.out j (.inl d)];exact h.ord i j hij d e
  ·exact o i j (by omega) hij hj
 ·by_cases d:k<a
  ·rw [p.out k (.inl d)]
   obtain⟨m,a1,a2,a3⟩:=h.frm k d
   exact⟨m,by omega,a2,a3⟩
  ·obtain⟨m,a1,a2,a3⟩:=p.frm k (by omega) hk
   exact⟨m,a2,by omega,a3.trans (h.rest m a1)⟩
 ·by_cases d:k<a
  ·obtain⟨m,a1,a2,a3⟩:=h.all k d
   exact⟨m,by omega,a2,by rw [p.out m (.inl a1)];exact a3⟩
  ·obtain⟨m,a1,a2,a3⟩:=p.all k (by omega) hk
   exact⟨m,a2,by omega,a3.trans (h.rest k (by omega))⟩
end
theorem Flip_any(p:Option Addr)(n cap:Nat)(xs:List Int)(w:World)(hs:SlI w .i64 (.slice p n cap) xs)(hn:n<=1099511627776):
  Calls Tryz.prog 174 #[.slice p n cap] w fun e w'=>∃v,e = .returned v/\OwnL .i64 2 (fun q=>q<w.heap.size) w' v xs.reverse/\Old w w':=by
 have hC:=zH (Clone_any p n cap xs w hs hn)
 clear hs
 go_enter Tryz.func174,Tryz.ntmps174
 go_wp2_with fail
 refine hC.out.mono ?_
 rintro e w1 ⟨v,rfl,hv,ho⟩
 have hR:=zH (Reverse_any _ v xs w1 hv (fun q hq=>Nat.lt_of_lt_of_le hq ho.size))
 have HO:=zH ho
 clear hv ho
 go_wp2_with fail
 refine hR.out.mono ?_
 rintro e w2 ⟨rfl,h2,hk⟩
 have H2:=zH h2
 have HO2:=zH (HO.out.after hk (fun _ h=>h))
 clear h2 hk
 go_wp2
 go_ret
 exact⟨_,rfl,H2.out,HO2.out⟩
theorem NNew_any(w:World):Calls Tryz.prog 85 #[] w fun e w'=>e = .returned (.agg #[])/\Old w w':=by
 go_enter Tryz.func85,Tryz.ntmps85
 go_wp2
 refine bodyPost_ret (results_cell_row rfl _ _ w.heap.size 55 _ (0,0) _ rfl (heap_alloc_new _ _) Tryz.underlying55 rfl (by kernel_rfl)) rfl ⟨rfl,Old.alloc _ _⟩
def T8:Array Value:=rowN 16 (turnF 8)
theorem T8_size:T8.size=16:=rowN_size _ _
theorem T8_one:T8.all (·.oneCell')=true:=rowN_one _ _ fun _ _=>rfl
theorem T8_at(k:Nat)(h:k<8):T8[k*2]?=some (.int .i64 (turnP k))/\T8[k*2+1]?=some (.int .i64 (turnU k)):=by
 unfold T8
 rw [rowN_at _ _ _ (by omega),rowN_at _ _ _ (by omega)]
 unfold turnF turnC
 rw [if_pos (by omega),if_pos (by omega),if_pos (by omega),if_neg (by omega),show k*2/2=k by omega,show (k*2+1)/2=k by omega]
 exact⟨rfl,rfl⟩
theorem LNew_any(w:World):Calls Tryz.prog 83 #[.agg T8] w fun e w'=>e = .returned (.agg T8)/\Old w w':=by
 have hF:Array.foldl (fun(cs:Array Value) (x:Value × Nat)=>cs.setIfInBounds x.snd x.fst) #[.int .i64 0,.int .i64 0,.int .i64 0,.int .i64 0,.int .i64 0,.int .i64 0,.int .i64 0,.int .i64 0,.int .i64 0,.int .i64 0,.int .i64 0,.int .i64 0,.int .i64 0,.int .i64 0,.int .i64 0,.int .i64 0] T8.zipIdx 0 16=T8:=by kernel_rfl
 have h1:=zH T8_one
 have hs:=T8_size
 have HB:=heap_alloc_new w (.cells T8 51)
 have HZ:Hid ((Tryz.prog.info? 51).map (·.size)=some 16):=zH (by kernel_rfl)
 have HZ2:Hid ((Tryz.prog.info? 53).map (·.size)=some 16):=zH (by kernel_rfl)
 have HB:=zH HB
 generalize T8=R at *
 go_enter Tryz.func83,Tryz.ntmps83
 go_wp2_with (first
  | (with_reducible refine wpList_load_row rfl 51 _ rfl w.heap.size rfl 51 R (0,0) _ (heap_alloc2_old w _ _) Tryz.underlying51 rfl (by rw [hs];exact HZ.out) ?_)
  | (with_reducible refine wpList_store_row rfl 53 _ _ rfl (w.heap.size+1) R rfl rfl 53 _ (heap_alloc2_new w _ _) (by rw [hs];exact HZ2.out) (by rw [hs];kernel_rfl) h1.out ?_))
 refine bodyPost_ret (results_cell_row rfl _ _ (w.heap.size+1) 53 R (0,0) _ rfl (setRow_heap _ _ _ _ _ _ (heap_alloc2_new w _ _)) Tryz.underlying53 rfl (by rw [hs];exact HZ2.out)) rfl ⟨rfl,?_⟩
 exact((Old.alloc w _).alloc' _).after (X:=fun k=>k<w.heap.size) ⟨rfl,rfl,by simp,fun k hk=>setRow_other _ _ _ _ (by omega)⟩ fun _ h=>h
theorem LapNew_any(w:World):Calls Tryz.prog 43 #[] w fun e w'=>e = .returned (.agg T8)/\Old w w':=by
 have hF:Array.foldl (fun(cs:Array Value) (x:Value × Nat)=>cs.setIfInBounds x.snd x.fst) #[.int .i64 0,.int .i64 0,.int .i64 0,.int .i64 0,.int .i64 0,.int .i64 0,.int .i64 0,.int .i64 0,.int .i64 0,.int .i64 0,.int .i64 0,.int .i64 0,.int .i64 0,.int .i64 0,.int .i64 0,.int .i64 0] T8.zipIdx 0 16=T8:=by kernel_rfl
 have h1:=zH T8_one
 have hs:=T8_size
 have hT:=zH (fun w=>Turns_any w)
 have hL:=zH (fun w=>LNew_any w)
 have hN:=zH (fun w=>NNew_any w)
 rw [show rowN 16 (turnF 8)=T8 from rfl] at hT
 have HZ:Hid ((Tryz.prog.info? 57).map (·.size)=some 16):=zH (by kernel_rfl)
 generalize T8=R at *
 go_enter Tryz.func43,Tryz.ntmps43
 go_wp2_with fail
 refine(hT.out _).mono ?_
 rintro e w1 ⟨rfl,ho1⟩
 go_wp2_with fail
 refine(hL.out _).mono ?_
 rintro e w2 ⟨rfl,ho2⟩
 go_wp2_with fail
 refine(hN.out _).mono ?_
 rintro e w3 ⟨rfl,ho3⟩
 have HO:=zH ((ho1.trans ho2).trans ho3)
 clear ho1 ho2 ho3
 obtain⟨z,hz⟩:∃z:Array Value,z=#[.int .i64 0,.int .i64 0,.int .i64 0,.int .i64 0,.int .i64 0,.int .i64 0,.int .i64 0,.int .i64 0,.int .i64 0,.int .i64 0,.int .i64 0,.int .i64 0,.int .i64 0,.int .i64 0,.int .i64 0,.int .i64 0]:=⟨_,rfl⟩
 have hzs:z.size=16:=by rw [hz];rfl
 rw [←hz] at HO
 have hb:Hid (w3.heap[w.heap.size]?=some (.cells z 57 (0,0))):=(HO.out.block _ (by simp)).trans (heap_alloc_new _ _)
 have HZZ:=zH hz
 clear hz
 go_wp2_with (with_reducible refine wpList_store_row rfl 57 _ _ rfl w.heap.size R rfl rfl 57 _ hb.out (by rw [hs];exact HZ.out) (by rw [hs];exact hzs) h1.out ?_)
 refine bodyPost_ret (results_cell_row rfl _ _ w.heap.size 57 R (0,0) _ rfl (setRow_heap _ _ _ _ _ _ hb.out) Tryz.underlying57 rfl (by rw [hs];exact HZ.out)) rfl ⟨rfl,?_⟩
 exact((Old.alloc w _).trans HO.out).after (X:=fun k=>k<w.heap.size) ⟨rfl,rfl,by simp,fun k hk=>setRow_other _ _ _ _ (by omega)⟩ fun _ h=>h
theorem count_any(p q:Option Addr)(c d:Nat)(w:World):
  Calls Tryz.prog 175 #[.agg T8,.slice p 8 c,.slice q 8 d] w fun e w'=>e = .returned (.int .i64 8)/\Old w w':=by
 generalize T8=R at *
 go_enter Tryz.func175,Tryz.ntmps175
 go_wp2
 go_ret
 exact⟨rfl,Old.alloc _ _⟩
theorem net_part(w:World)(bx:Nat)(c:Array Value)(h:w.heap[bx]?=some (.cells c 57 (0,0))):(partAt ⟨bx,0,none⟩ 16 128).run Tryz.prog w = .ok ⟨bx,16,some 128⟩ w:=by
 have h1:Tryz.prog.cellsOf 57=16:=by kernel_rfl
 have h2:Tryz.prog.bytesOf 57=136:=by kernel_rfl
 have h3:byteOfCell Tryz.prog Tryz.prog.depth 57 0=some 0:=by kernel_rfl
 have hs:w.shape? bx=some (57,c.size):=by unfold World.shape?;rw [h]
 simp [partAt,byteOf,noView,viewAt,hs,h1,h2,h3]
theorem foldl_peak_le(xs:List Int):∀a c:Int,xs.foldl (fun p v=>max p (absI v)) a<=c↔a<=c/\∀x∈xs,absI x<=c:=by
 induction xs with
 | nil=>intro a c;simp
 | cons x r ih=>
  intro a c
  rw [List.foldl_cons,ih]
  simp only [List.mem_cons,forall_eq_or_imp]
  constructor
  ·rintro ⟨h1,h2⟩;exact⟨by omega,by omega,h2⟩
  ·rintro ⟨h1,h2,h3⟩;exact⟨by omega,h3⟩
theorem peakL_le(xs:List Int)(c:Int):peakL xs<=c↔0<=c/\∀x∈xs,absI x<=c:=foldl_peak_le xs 0 c
theorem mem_part{f:Nat->Int}{a n:Nat}{x:Int} : x∈part f a n↔∃j,j<n/\f (a+j)=x:=by simp [part]
def isT(f:Nat->Int)(i:Nat):Prop:=i<16/\64<=absI (f i)/\∀k,k<16->k/4=i/4->k≠i->absI (f k)<=absI (f i)/8
instance (f:Nat->Int) (i:Nat):Decidable (isT f i):=by unfold isT;infer_instance
def isI(f:Nat->Int)(i:Int):Prop:=0<=i/\isT f i.toNat
instance (f:Nat->Int) (i:Int):Decidable (isI f i):=by unfold isI;infer_instance
theorem isI_nat(f:Nat->Int)(k:Nat):decide (isI f k)=decide (isT f k):=by
 apply decide_eq_decide.2
 unfold isI
 rw [Int.toNat_natCast]
 exact⟨fun h=>h.2,fun h=>⟨by omega,h⟩⟩
def butF(f:Nat->Int)(i:Nat):Nat->Int:=fun k=>if k=i then 0 else f k
theorem isT_peak(f:Nat->Int)(i:Nat)(hi:i<16)(h64:64<=absI (f i)):isT f i↔peakL (part (butF f i) (i/4*4) 4)<=absI (f i)/8:=by
 rw [peakL_le]
 have e0:absI 0=0:=by decide
 constructor
 ·rintro ⟨_,_,h⟩
  refine⟨by omega,fun x hx=>?_⟩
  obtain⟨j,hj,rfl⟩:=mem_part.1 hx
  unfold butF
  by_cases e:i/4*4+j=i
  ·rw [if_pos e,e0];omega
  ·rw [if_neg e];exact h _ (by omega) (by omega) e
 ·rintro ⟨_,h⟩
  refine⟨hi,h64,fun k hk hb hne=>?_⟩
  have:=h (f k) (mem_part.2 ⟨k-i/4*4,by omega,by unfold butF;rw [show i/4*4+(k-i/4*4)=k by omega,if_neg hne]⟩)
  exact this
theorem butF_fits{f:Nat->Int}(h:Fits64 f)(i:Nat):Fits64 (butF f i):=fun k=>by
 unfold butF
 split
 ·omega
 ·exact h k
theorem isPlace_any(i:Int)(w:World):
  Calls Tryz.prog 273 #[.int .i64 i] w fun e w'=>e = .returned (.bool (decide (0<=i/\i<16)))/\w=w':=by
 by_cases h1:0<=i
 ·by_cases h2:i<16
  ·have e:decide (0<=i/\i<16)=true:=decide_eq_true ⟨h1,h2⟩
   rw [e]
   clear e
   go_enter Tryz.func273,Tryz.ntmps273
   go_wp2
   go_ret
   exact⟨rfl,rfl⟩
  ·have e:decide (0<=i/\i<16)=false:=decide_eq_false fun h=>h2 h.2
   rw [e]
   have h2':16<=i:=by omega
   clear e h2
   go_enter Tryz.func273,Tryz.ntmps273
   go_wp2
   go_ret
   refine⟨?_,rfl⟩
   show Ending.returned (.bool (decide (i<16)))=_
   rw [decide_eq_false (by omega)]
 ·have e:decide (0<=i/\i<16)=false:=decide_eq_false fun h=>h1 h.1
  rw [e]
  have h1':i<0:=by omega
  clear e h1
  go_enter Tryz.func273,Tryz.ntmps273
  go_wp2
  go_ret
  exact⟨rfl,rfl⟩
theorem slice_band(b k:Nat)(hk:k<4)(w:World):(Instr.sliceAt 43 (.pointer (some ⟨b,0,none⟩)) (some (.int .i64 ((k:Int)*4))) (some (.int .i64 ((k:Int)*4+4))) none).run Tryz.prog w = .ok (.slice (some ⟨b,k*4,none⟩) 4 (16-k*4)) w:=by
 have hl:Tryz.prog.arrayLen 43=16:=by kernel_rfl
 have hz:(sizeOf (Tryz.prog.elem 43)).run Tryz.prog w = .ok 1 w:=by kernel_rfl
 rw [run_sliceAt_array_lh w 43 _ (by kernel_rfl) .i64 .i64 _ _ (by omega) (by omega) (by rw [hl];omega),hz,hl]
 simp only [Result.andThen_ok]
 congr 1
 unfold slicedAt
 rw [if_neg (by omega)]
 simp only [Addr.add]
 have e1:(((k:Int)*4)).toNat=k*4:=by omega
 have e2:((k:Int)*4+4).toNat=k*4+4:=by omega
 rw [e1,e2,show k*4+4-k*4=4 by omega,show k*4*1=k*4 by omega,Nat.zero_add]
 by_cases hk0:k*4=0
 ·rw [if_pos hk0,hk0]
 ·rw [if_neg hk0]
theorem Is_any(f:Nat->Int)(hf:Fits64 f)(i:Int)(w:World)(h1:-9223372036854775808<=i)(h2:i<=9223372036854775807):
  Calls Tryz.prog 270 #[.agg (rowN 16 (blk f)),.int .i64 i] w fun e w'=>e = .returned (.bool (decide (isI f i)))/\Old w w':=by
 have HP:=zH (fun w=>isPlace_any i w)
 by_cases hp:0<=i/\i<16
 ·obtain⟨k,rfl⟩:∃k:Nat,i=k:=⟨i.toNat,by omega⟩
  have hk:k<16:=by omega
  have k0:(0:Int)<=k:=by omega
  have k1:(k:Int)<16:=by omega
  have hP:=HP.out
  rw [decide_eq_true hp] at hP
  have HP':=zH hP
  clear hP hp HP h1 h2
  obtain⟨W0,hW0⟩:∃W0,W0=(w.alloc (.cells (rowN 16 (blk f)) 43)):=⟨_,rfl⟩
  have ha0:W0.heap[w.heap.size]?=some (.cells (rowN 16 (blk f)) 43 (0,0)):=by rw [hW0];exact heap_alloc_new w _
  have ho0:Old w W0:=by rw [hW0];exact Old.alloc w _
  have hcell:W0.cell? ⟨w.heap.size,k,none⟩=some (.int .i64 (f k)):=(cell_of_row _ _ _ _ _ _ ha0).trans (blk_at 16 f k hk)
  have hfrz:W0.frozen? ⟨w.heap.size,k,none⟩=false:=frozen_of_row _ _ _ _ _ ha0
  have ha1:(W0.setCell ⟨w.heap.size,k,none⟩ (.int .i64 0)).heap[w.heap.size]?=some (.cells (rowN 16 (blk (butF f k))) 43 (0,0)):=by
   rw [show blk (butF f k)=updN (blk f) k (.int .i64 0) from(blk_upd f k 0).symm,←rowN_set _ _ _ _ hk]
   exact heap_setCell_same _ _ _ _ _ _ ha0
  have ho1:Old w (W0.setCell ⟨w.heap.size,k,none⟩ (.int .i64 0)):=ho0.after (Kept.setCell (X:=fun q=>q<w.heap.size) _ (a:=⟨w.heap.size,k,none⟩) (by show ¬w.heap.size<w.heap.size;omega) _) fun _ h=>h
  have HO:=zH ho1
  have hm:k/4<4:=by omega
  have HPk:=zH (Peak_any _ _ _ _ _ (part_SlI ha1 (k/4*4) 4 (16-k/4*4) (by omega) (by omega) (by omega)) (part_in (butF_fits hf k) (k/4*4) 4) (by omega))
  have HPb:=zH (peakL_in _ (part_in (butF_fits hf k) (k/4*4) 4))
  have HB:=zH (fun w=>Band_nat k (k/4) w hk rfl)
  have HA:=zH (fun w=>Abs_any (f k) w (hf k).1 (hf k).2)
  have Ab:=absI_bd _ (hf k).1 (hf k).2
  have HT:Hid (64<=absI (f k)->(isT f k↔peakL (part (butF f k) (k/4*4) 4)<=absI (f k)/8)):=fun h=>isT_peak f k hk h
  have HN:Hid (absI (f k)<64->¬isT f k):=fun h h'=>by have:=h'.2.1;omega
  have hS:=fun w':World=>slice_band w.heap.size (k/4) hm w'
  rw [isI_nat]
  clear ha0 ho0 ha1 ho1 hf
  generalize k/4=m at *
  generalize peakL (part (butF f k) (m*4) 4)=p at *
  have hpb1:=HPb.out.1
  have hpb2:=HPb.out.2
  clear HPb
  obtain⟨D,hD⟩:∃D,decide (isT f k)=D:=⟨_,rfl⟩
  have HD:=zH hD
  rw [hD]
  clear hD
  generalize f k=x at *
  generalize absI x=y at *
  have m1:(0:Int)<=m:=by omega
  have m2:(m:Int)<4:=by omega
  go_enter Tryz.func270,Tryz.ntmps270
  go_wp2_with fail
  rw [←hW0]
  clear hW0
  refine(HP'.out _).mono ?_
  rintro e w1 ⟨rfl,rfl⟩
  go_wp2_with fail
  refine(HA.out _).mono ?_
  rintro e w1 ⟨rfl,rfl⟩
  go_wp2_with fail
  refine(HB.out _).mono ?_
  rintro e w1 ⟨rfl,rfl⟩
  by_cases c:y<64
  ·have hd:D=false:=by rw [←HD.out];exact decide_eq_false (HN.out c)
   have HDD:=zH hd
   clear HPk hS hd HT HN HD
   go_wp2_with fail
   go_ret
   exact⟨by rw [HDD.out];rfl,HO.out⟩
  ·have c':64<=y:=by omega
   have q1:wrap64 (y.tdiv 8)=y/8:=by rw [Int.tdiv_eq_ediv_of_nonneg (by omega)];exact IntWalk.wrap64_in _ (by omega)
   have hd:D=decide (p<=y/8):=by rw [←HD.out];exact decide_eq_decide.2 (HT.out c')
   have HDD:=zH hd
   have b1:0<=y/8:=by omega
   have b2:y/8<=9223372036854775807:=by omega
   clear hd HT HN HD c
   go_wp2_with fail
   refine HPk.out.mono ?_
   rintro e w1 ⟨rfl,rfl⟩
   go_wp2_with fail
   go_ret
   exact⟨by rw [HDD.out];rfl,HO.out⟩
 ·have hP:=HP.out
  rw [decide_eq_false hp] at hP
  have HP':=zH hP
  have e:decide (isI f i)=false:=decide_eq_false fun h=>hp ⟨h.1,by have:=h.2.1;omega⟩
  rw [e]
  clear hP hp HP e
  go_enter Tryz.func270,Tryz.ntmps270
  go_wp2_with fail
  refine(HP'.out _).mono ?_
  rintro e w1 ⟨rfl,rfl⟩
  go_wp2_with fail
  go_ret
  exact⟨rfl,Old.alloc _ _⟩
abbrev Way:=Int->Int->Int->Int->Int
def meetTo(wa wb:Way)(k:Nat)(F:Nat->Int):Nat->Int:=fun q=>
 if 8<=q%16 then(if q/16+1<k then wa (F q) (F (q/16*16+16+(15-q%16))) (turnP (15-q%16)) (turnU (15-q%16)) else F q)
 else(if 1<=q/16/\q/16<k then wb (F (q/16*16-16+(15-q%16))) (F q) (turnP (q%16)) (turnU (q%16)) else F q)
theorem split16(q:Nat):∃b r,q=b*16+r/\r<16/\q/16=b/\q%16=r:=⟨q/16,q%16,by omega,by omega,rfl,rfl⟩
theorem dm16(b r:Nat)(h:r<16):(b*16+r)/16=b/\(b*16+r)%16=r:=⟨by omega,by omega⟩
theorem meetTo_hi(wa wb:Way)(k:Nat)(F:Nat->Int)(b r:Nat)(h:r<16)(h8:8<=r):meetTo wa wb k F (b*16+r)=if b+1<k then wa (F (b*16+r)) (F (b*16+16+(15-r))) (turnP (15-r)) (turnU (15-r)) else F (b*16+r):=by
 obtain⟨e1,e2⟩:=dm16 b r h
 unfold meetTo
 rw [e1,e2,if_pos h8]
theorem meetTo_lo(wa wb:Way)(k:Nat)(F:Nat->Int)(b r:Nat)(h8:r<8):meetTo wa wb k F (b*16+r)=if 1<=b/\b<k then wb (F (b*16-16+(15-r))) (F (b*16+r)) (turnP r) (turnU r) else F (b*16+r):=by
 obtain⟨e1,e2⟩:=dm16 b r (by omega)
 unfold meetTo
 rw [e1,e2,if_neg (by omega)]
theorem meetTo_one(wa wb:Way)(F:Nat->Int):meetTo wa wb 1 F=F:=by
 funext q
 obtain⟨b,r,rfl,hr,_,_⟩:=split16 q
 by_cases h:8<=r
 ·rw [meetTo_hi _ _ _ _ _ _ hr h,if_neg (by omega)]
 ·rw [meetTo_lo _ _ _ _ _ _ (by omega),if_neg (by omega)]
theorem meetTo_step(wa wb:Way)(F:Nat->Int)(j:Nat):
  patch (patch (meetTo wa wb (j+1) F) ((j+1)*16) 8 (fun i=>wb (meetTo wa wb (j+1) F (j*16+8+(7-i))) (meetTo wa wb (j+1) F ((j+1)*16+i)) (turnP i) (turnU i)))
   (j*16+8) 8 (fun i=>wa (meetTo wa wb (j+1) F (j*16+8+(7-(7-i)))) (meetTo wa wb (j+1) F ((j+1)*16+(7-i))) (turnP (7-i)) (turnU (7-i)))=meetTo wa wb (j+1+1) F:=by
 have hi:∀i,i<8->meetTo wa wb (j+1) F (j*16+8+i)=F (j*16+(8+i)):=fun i h=>by
  rw [Nat.add_assoc,meetTo_hi _ _ _ _ _ _ (by omega) (by omega),if_neg (by omega)]
 have lo:∀i,i<8->meetTo wa wb (j+1) F ((j+1)*16+i)=F ((j+1)*16+i):=fun i h=>by
  rw [meetTo_lo _ _ _ _ _ _ h,if_neg (by omega)]
 funext q
 obtain⟨b,r,rfl,hr,_,_⟩:=split16 q
 unfold patch
 dsimp only
 by_cases h8:8<=r
 ·rw [meetTo_hi wa wb (j+1+1) F b r hr h8]
  by_cases hb:b=j
  ·subst hb
   rw [if_pos ⟨by omega,by omega⟩,if_pos (by omega),show b*16+r-(b*16+8)=r-8 by omega,show 7-(7-(r-8))=r-8 by omega,hi (r-8) (by omega),lo (7-(r-8)) (by omega)]
   rw [show 8+(r-8)=r by omega,show 7-(r-8)=15-r by omega,show (b+1)*16+(15-r)=b*16+16+(15-r) by omega]
  ·rw [if_neg (by omega),if_neg (by omega),meetTo_hi wa wb (j+1) F b r hr h8]
   by_cases c:b+1<j+1
   ·rw [if_pos c,if_pos (by omega)]
   ·rw [if_neg c,if_neg (by omega)]
 ·rw [if_neg (by omega),meetTo_lo wa wb (j+1+1) F b r (by omega)]
  by_cases hb:b=j+1
  ·subst hb
   rw [if_pos ⟨by omega,by omega⟩,if_pos ⟨by omega,by omega⟩,show (j+1)*16+r-(j+1)*16=r by omega,hi (7-r) (by omega),lo r (by omega)]
   rw [show j*16+(8+(7-r))=(j+1)*16-16+(15-r) by omega]
  ·rw [if_neg (by omega),meetTo_lo wa wb (j+1) F b r (by omega)]
   by_cases c:1<=b/\b<j+1
   ·rw [if_pos c,if_pos ⟨c.1,by omega⟩]
   ·rw [if_neg c,if_neg (by omega)]
theorem meetTo_in{wa wb:Way}{k:Nat}{F:Nat->Int}(ha:∀a b p u,-9223372036854775808<=wa a b p u/\wa a b p u<=9223372036854775807)(hb:∀a b p u,-9223372036854775808<=wb a b p u/\wb a b p u<=9223372036854775807)(h:Fits64 F):Fits64 (meetTo wa wb k F):=by
 intro q
 unfold meetTo
 split
 ·split
  ·exact ha _ _ _ _
  ·exact h q
 ·split
  ·exact hb _ _ _ _
  ·exact h q
theorem meetTo_ext{wa wb:Way}{n:Nat}{F G:Nat->Int}(h:∀q,q<n*16->F q=G q):∀q,q<n*16->meetTo wa wb n F q=meetTo wa wb n G q:=by
 intro q hq
 obtain⟨b,r,rfl,hr,_,_⟩:=split16 q
 by_cases h8:8<=r
 ·rw [meetTo_hi _ _ _ _ _ _ hr h8,meetTo_hi _ _ _ _ _ _ hr h8]
  split
  ·rw [h _ hq,h _ (by omega)]
  ·exact h _ hq
 ·rw [meetTo_lo _ _ _ _ _ _ (by omega),meetTo_lo _ _ _ _ _ _ (by omega)]
  split
  ·rw [h _ hq,h _ (by omega)]
  ·exact h _ hq
theorem meet_back{n:Nat}{F:Nat->Int}(h:Fits64 F):meetTo backWA backWB n (meetTo turnWA turnWB n F)=F:=by
 funext q
 obtain⟨b,r,rfl,hr,_,_⟩:=split16 q
 by_cases h8:8<=r
 ·rw [meetTo_hi _ _ _ _ _ _ hr h8]
  split
  ·rename_i hb
   rw [show b*16+16+(15-r)=(b+1)*16+(15-r) by omega,meetTo_hi _ _ _ _ _ _ hr h8,if_pos hb,meetTo_lo _ _ _ _ _ _ (by omega),if_pos ⟨by omega,by omega⟩]
   rw [show (b+1)*16-16+(15-(15-r))=b*16+r by omega,show b*16+16+(15-r)=(b+1)*16+(15-r) by omega]
   exact(backW_turnW _ _ _ _ (h _).1 (h _).2 (h _).1 (h _).2).1
  ·rename_i hb
   rw [meetTo_hi _ _ _ _ _ _ hr h8,if_neg hb]
 ·rw [meetTo_lo _ _ _ _ _ _ (by omega)]
  split
  ·rename_i hb
   obtain⟨c,rfl⟩:∃c,b=c+1:=⟨b-1,by omega⟩
   rw [show (c+1)*16-16+(15-r)=c*16+(15-r) by omega,meetTo_hi _ _ _ _ _ _ (by omega) (by omega),if_pos (by omega),meetTo_lo _ _ _ _ _ _ (by omega),if_pos hb]
   rw [show 15-(15-r)=r by omega,show c*16+16+r=(c+1)*16+r by omega,show (c+1)*16-16+(15-r)=c*16+(15-r) by omega]
   exact(backW_turnW _ _ _ _ (h _).1 (h _).2 (h _).1 (h _).2).2
  ·rename_i hb
   rw [meetTo_lo _ _ _ _ _ _ (by omega),if_neg hb]
def rowAt(F:Nat->Int)(b:Nat):Nat->Int:=fun k=>F (b*16+k)
def mapB(φ:Nat->(Nat->Int)->Nat->Int)(F:Nat->Int):Nat->Int:=fun q=>φ (q/16) (rowAt F (q/16)) (q%16)
def mapTo(n:Nat)(φ:Nat->(Nat->Int)->Nat->Int)(F:Nat->Int):Nat->Int:=fun q=>if q<n*16 then mapB φ F q else F q
theorem mapB_at(φ:Nat->(Nat->Int)->Nat->Int)(F:Nat->Int)(b r:Nat)(h:r<16):mapB φ F (b*16+r)=φ b (rowAt F b) r:=by
 obtain⟨e1,e2⟩:=dm16 b r h
 unfold mapB
 rw [e1,e2]
theorem mapTo_zero(φ:Nat->(Nat->Int)->Nat->Int)(F:Nat->Int):mapTo 0 φ F=F:=by funext q;unfold mapTo;rw [if_neg (by omega)]
theorem mapTo_step(φ:Nat->(Nat->Int)->Nat->Int)(F:Nat->Int)(n:Nat):patch (mapTo n φ F) (n*16) 16 (φ n (rowAt F n))=mapTo (n+1) φ F:=by
 funext q
 unfold patch mapTo
 by_cases h:n*16<=q/\q<n*16+16
 ·rw [if_pos h,if_pos (by omega)]
  obtain⟨r,rfl⟩:∃r,q=n*16+r:=⟨q-n*16,by omega⟩
  rw [mapB_at _ _ _ _ (by omega),show n*16+r-n*16=r by omega]
 ·rw [if_neg h]
  by_cases h2:q<n*16
  ·rw [if_pos h2,if_pos (by omega)]
  ·rw [if_neg h2,if_neg (by omega)]
theorem mapTo_row(φ:Nat->(Nat->Int)->Nat->Int)(F:Nat->Int)(n k:Nat):mapTo n φ F (n*16+k)=rowAt F n k:=by unfold mapTo rowAt;rw [if_neg (by omega)]
theorem mapTo_end(φ:Nat->(Nat->Int)->Nat->Int)(F:Nat->Int)(n q:Nat)(h:q<n*16):mapTo n φ F q=mapB φ F q:=by unfold mapTo;rw [if_pos h]
theorem mapB_in{φ:Nat->(Nat->Int)->Nat->Int}{F:Nat->Int}(h:∀b f,Fits64 f->Fits64 (φ b f))(hF:Fits64 F):Fits64 (mapB φ F):=fun q=>h _ _ (fun k=>hF _) _
theorem CellsAt.sl{w:World}{g m:Nat}{F:Nat->Int}(h:CellsAt w g m F)(o n cap:Nat)(hn:o+n<=m)(hc:n<=cap)(hm:cap<=maxLen):SlI w .i64 (.slice (some ⟨g,o,none⟩) n cap) (part F o n):=by
 refine⟨_,cap,by rw [part_len],fun _=>⟨g,o,rfl,h.lt,by rw [part_len];exact hc,hm,fun i hi=>?_⟩⟩
 rw [part_len] at hi
 rw [part_getD _ _ _ _ hi]
 exact h.cell (o+i) (by omega)
theorem OwnL.cells{t:TypeId}{X:Nat->Prop}{w:World}{v:Value}{xs:List Int}(h:OwnL .i64 t X w v xs)(h0:0<xs.length):∃g cap,v = .slice (some ⟨g,0,none⟩) xs.length cap/\¬X g/\xs.length<=cap/\cap<=maxLen/\CellsAt w g xs.length (fun j=>xs.getD j 0):=by
 rcases h.shape with ⟨_,h1⟩ | ⟨g,cap,rfl,hX,hg,hn,hc,hcell⟩
 ·omega
 ·refine⟨g,cap,rfl,hX,hn,hc,hg,fun j hj=>hcell j _ (by simp [hj,List.getD]),fun j hj=>h.frozenAt j⟩
def addOne(c:Int)(g:Nat->Int)(x y:Int):Nat->Int:=fun j=>if 0<=x/\x<16/\j=x.toNat then wrap64 (g j+wrap64 (c*y)) else g j
def addTo(c:Int)(f T:Nat->Int):Nat->Nat->Int
 | 0=>f
 | k+1=>addOne c (addTo c f T k) (T (2*k)) (T (2*k+1))
theorem addOne_no(c:Int)(g:Nat->Int)(x y:Int)(h:¬(0<=x/\x<16)):addOne c g x y=g:=by
 funext j
 unfold addOne
 rw [if_neg fun h'=>h ⟨h'.1,h'.2.1⟩]
theorem addOne_yes(c:Int)(g:Nat->Int)(m:Nat)(y:Int)(h:m<16):addOne c g m y=fun j=>if j=m then wrap64 (g m+wrap64 (c*y)) else g j:=by
 funext j
 unfold addOne
 by_cases e:j=m
 ·subst e;rw [if_pos ⟨by omega,by omega,by simp⟩,if_pos rfl]
 ·rw [if_neg (fun h'=>e (by have:=h'.2.2;simpa using this)),if_neg e]
structure AdSt(tb:TypeId)(z:Array Value)(w:World)(g:Nat->Int)(W:World):Prop where
 b:W.heap[w.heap.size]?=some (.cells (rowN 16 (blk g)) tb (0,0))
 r:W.heap[w.heap.size+1]?=some (.cells z tb (0,0))
 old:Old w W
namespace AdSt
variable {tb:TypeId} {z:Array Value} {w W W':World} {g:Nat->Int}
theorem keep(h:AdSt tb z w g W)(o:Old W W'):AdSt tb z w g W':=⟨(o.block _ (lt_of_block h.b)).trans h.b,(o.block _ (lt_of_block h.r)).trans h.r,h.old.trans o⟩
theorem drew(h:AdSt tb z w g W):AdSt tb z w g W.drew:=⟨h.b,h.r,h.old.drew⟩
theorem set(h:AdSt tb z w g W)(j:Nat)(hj:j<16)(v:Int):AdSt tb z w (fun k=>if k=j then v else g k) (W.setCell ⟨w.heap.size,j,none⟩ (.int .i64 v)):=by
 refine⟨?_,(heap_setCell_other _ _ _ _ (by simp)).trans h.r,h.old.after (Kept.setCell (X:=fun k=>k<w.heap.size) _ (a:=⟨w.heap.size,j,none⟩) (by show ¬w.heap.size<w.heap.size;omega) _) fun _ hk=>hk⟩
 rw [←blk_upd,←rowN_set _ _ _ _ hj]
 exact heap_setCell_same _ _ _ _ _ _ h.b
theorem cell(h:AdSt tb z w g W)(j:Nat)(hj:j<16):W.cell? ⟨w.heap.size,j,none⟩=some (.int .i64 (g j))/\W.frozen? ⟨w.heap.size,j,none⟩=false:=
 ⟨(cell_of_row _ _ _ _ _ _ h.b).trans (blk_at 16 g j hj),frozen_of_row _ _ _ _ _ h.b⟩
theorem row(h:AdSt tb z w g W)(cs:Array Value):(W.setRow (w.heap.size+1) cs).heap[w.heap.size+1]?=some (.cells cs tb (0,0))/\Old w (W.setRow (w.heap.size+1) cs):=
 ⟨setRow_heap _ _ _ _ _ _ h.r,h.old.after (X:=fun k=>k<w.heap.size) ⟨rfl,rfl,by simp,fun k hk=>setRow_other _ _ _ _ (by omega)⟩ fun _ h=>h⟩
end AdSt
set_option maxHeartbeats 4000000 in
theorem added_any(f:Nat->Int)(p:Option Addr)(n cap:Nat)(T:Nat->Int)(c:Int)(w:World)(hs:SlF 2 w p n T)(hn:n<=9223372036854775807):
  Calls Tryz.prog 260 #[.agg (rowN 16 (blk f)),.slice p n cap,.int .i64 c] w fun e w'=>e = .returned (.agg (rowN 16 (blk (addTo c f T n))))/\Old w w':=by
 obtain⟨z,hz⟩:∃z,z=rowN 16 (blk fun _=>0):=⟨_,rfl⟩
 have Hb16:Hid ((Tryz.prog.info? 43).map (·.size)=some 16):=zH (by kernel_rfl)
 have HS:=zH hs
 have HP:=zH (fun i w=>isPlace_any i w)
 clear hs
 go_enter Tryz.func260,Tryz.ntmps260
 go_wp2_with fail
 rw [←row16_zero]
 have H0:Hid (AdSt 43 (rowN 16 (blk fun _=>0)) w f ((w.alloc (.cells (rowN 16 (blk f)) 43)).alloc (.cells (rowN 16 (blk fun _=>0)) 43))):=⟨heap_alloc2_old w _ _,heap_alloc2_new w _ _,(Old.alloc w _).alloc' _⟩
 clear hz z
 go_loopw [11] (fun i wr=>∃k:Nat,k<=n/\i = .int .i64 k/\Hid (AdSt 43 (rowN 16 (blk fun _=>0)) w (addTo c f T k) wr)) (fun i _=>n-(intOf i).toNat)
 case atStart=>exact⟨0,by omega,rfl,H0⟩
 case round=>
  obtain⟨k,hk,rfl,hs⟩:=hrel
  clear H0
  by_cases hlt:k<n
  ·obtain⟨g,o,rfl,hg,hc⟩:=two_cells HS.out (by omega)
   obtain⟨c1,c2⟩:=hc k hlt
   rw [←hs.out.old.cell (a:=⟨g,o+k*2,none⟩) hg] at c1
   rw [←hs.out.old.cell (a:=⟨g,o+k*2+1,none⟩) hg] at c2
   have hst:addTo c f T (k+1)=addOne c (addTo c f T k) (T (2*k)) (T (2*k+1)):=rfl
   have HST:=zH hst
   clear hc HS hst hg
   generalize T (2*k)=x at *
   generalize T (2*k+1)=y at *
   generalize addTo c f T k=G at *
   by_cases hx:0<=x/\x<16
   ·obtain⟨m,rfl⟩:∃m:Nat,x=m:=⟨x.toNat,by omega⟩
    have hm:m<16:=by omega
    have m0:(0:Int)<=m:=by omega
    have m1:(m:Int)<16:=by omega
    have hP:=fun w=>HP.out (m:Int) w
    rw [decide_eq_true hx] at hP
    have HPm:=zH hP
    clear hP hx HP
    obtain⟨W1,hW1⟩:∃W1,W1=wr.alloc (.cells #[.int .i64 m,.int .i64 y] 224):=⟨_,rfl⟩
    have hs1:AdSt 43 (rowN 16 (blk fun _=>0)) w G W1:=by rw [hW1];exact hs.out.keep (Old.alloc _ _)
    have d1:W1.cell? ⟨wr.heap.size,0,none⟩=some (.int .i64 m):=by rw [hW1,World.cell?_alloc_at _ _ _ _ rfl];rfl
    have d2:W1.cell? ⟨wr.heap.size,1,none⟩=some (.int .i64 y):=by rw [hW1,World.cell?_alloc_at _ _ _ _ rfl];rfl
    obtain⟨d3,d4⟩:=hs1.cell m hm
    obtain⟨v,hv⟩:∃v,wrap64 (G m+wrap64 (c*y))=v:=⟨_,rfl⟩
    have hn1:AdSt 43 (rowN 16 (blk fun _=>0)) w (addTo c f T (k+1)) (W1.setCell ⟨w.heap.size,m,none⟩ (.int .i64 v)).drew:=by
     rw [HST.out,addOne_yes _ _ _ _ hm,hv]
     exact(hs1.set m hm v).drew
    have HN1:=zH hn1
    have hwr:w.heap.size<wr.heap.size:=lt_of_block hs.out.b
    clear hs hs1 hn1 HST
    generalize G m=u at *
    go_wp2_with fail
    rw [←hW1]
    clear hW1
    refine(HPm.out _).mono ?_
    rintro e w1 ⟨rfl,rfl⟩
    go_wp2_with fail
    go_region
    go_wp2_with fail
    go_roundw
    case rel=>exact⟨k+1,by omega,by go_num,HN1⟩
    case measure=>simp [intOf];omega
   ·have hP:=fun w=>HP.out x w
    rw [decide_eq_false hx] at hP
    have HPm:=zH hP
    have hn1:AdSt 43 (rowN 16 (blk fun _=>0)) w (addTo c f T (k+1)) (wr.alloc (.cells #[.int .i64 x,.int .i64 y] 224)):=by
     rw [HST.out,addOne_no _ _ _ _ hx]
     exact hs.out.keep (Old.alloc _ _)
    have HN1:=zH hn1
    clear hP hx HP hs hn1 HST
    go_wp2_with fail
    refine(HPm.out _).mono ?_
    rintro e w1 ⟨rfl,rfl⟩
    go_wp2_with fail
    go_roundw
    case rel=>exact⟨k+1,by omega,by go_num,HN1⟩
    case measure=>simp [intOf];omega
  ·obtain rfl:k=n:=by omega
   have HB:=zH hs.out.b
   have HR:=zH hs.out.r
   have Hd:=zH (hs.out.row (rowN 16 (blk (addTo c f T k))))
   have H1:Hid ((rowN 16 (blk (addTo c f T k))).all (·.oneCell')=true):=zH (blk_one _ _)
   have hsz:=rowN_size 16 (blk (addTo c f T k))
   have Hz:Hid ((rowN 16 (blk fun _=>0)).size=(rowN 16 (blk (addTo c f T k))).size):=by unfold Hid;rw [rowN_size,rowN_size]
   clear hs HS HP
   go_wp2_with (first | (with_reducible refine wpList_load_row rfl 43 _ rfl w.heap.size rfl 43 (rowN 16 (blk (addTo c f T k))) (0,0) _ HB.out Tryz.underlying43 rfl (by rw [rowN_size];exact Hb16.out) ?_) | (with_reducible refine wpList_store_row rfl 43 _ _ rfl (w.heap.size+1) (rowN 16 (blk (addTo c f T k))) rfl rfl 43 _ HR.out (by rw [hsz];exact Hb16.out) (by rw [hsz];kernel_rfl) H1.out ?_))
   exact bodyPost_ret (results_cell_row rfl _ _ (w.heap.size+1) 43 (rowN 16 (blk (addTo c f T k))) (0,0) _ rfl Hd.out.1 Tryz.underlying43 rfl (by rw [hsz];exact Hb16.out)) rfl ⟨rfl,Hd.out.2⟩
theorem Out_any(f:Nat->Int)(p:Option Addr)(n cap:Nat)(T:Nat->Int)(w:World)(hs:SlF 2 w p n T)(hn:n<=9223372036854775807):
  Calls Tryz.prog 237 #[.agg (rowN 16 (blk f)),.slice p n cap] w fun e w'=>e = .returned (.agg (rowN 16 (blk (addTo (-1) f T n))))/\Old w w':=by
 have Hb16:Hid ((Tryz.prog.info? 43).map (·.size)=some 16):=zH (by kernel_rfl)
 obtain⟨W0,hW0⟩:∃W0,W0=((w.alloc (.cells (rowN 16 (blk f)) 43)).alloc (.cells (rowN 16 (blk fun _=>0)) 43)):=⟨_,rfl⟩
 have h0:AdSt 43 (rowN 16 (blk fun _=>0)) w f W0:=by rw [hW0];exact⟨heap_alloc2_old w _ _,heap_alloc2_new w _ _,(Old.alloc w _).alloc' _⟩
 have HA:=zH (added_any f p n cap T (-1) W0 (hs.old h0.old) hn)
 have H0:=zH h0
 have hB:=h0.b
 rw [row16_zero] at hW0
 rw [hW0] at hB
 have HB:=zH hB
 have HW:=zH hW0
 clear h0 hs hB hW0
 go_enter Tryz.func237,Tryz.ntmps237
 go_wp2_with (with_reducible refine wpList_load_row rfl 43 _ rfl w.heap.size rfl 43 (rowN 16 (blk f)) (0,0) _ HB.out Tryz.underlying43 rfl (by rw [rowN_size];exact Hb16.out) ?_)
 rw [←HW.out]
 clear HW
 refine HA.out.mono ?_
 rintro e w1 ⟨rfl,ho⟩
 have h1:=H0.out.keep ho
 have HR:=zH h1.r
 have Hd:=zH (h1.row (rowN 16 (blk (addTo (-1) f T n))))
 have H1:Hid ((rowN 16 (blk (addTo (-1) f T n))).all (·.oneCell')=true):=zH (blk_one _ _)
 have hsz:=rowN_size 16 (blk (addTo (-1) f T n))
 clear h1 ho H0 HB HA
 go_wp2_with (with_reducible refine wpList_store_row rfl 43 _ _ rfl (w.heap.size+1) (rowN 16 (blk (addTo (-1) f T n))) rfl rfl 43 _ HR.out (by rw [hsz];exact Hb16.out) (by rw [hsz];kernel_rfl) H1.out ?_)
 exact bodyPost_ret (results_cell_row rfl _ _ (w.heap.size+1) 43 (rowN 16 (blk (addTo (-1) f T n))) (0,0) _ rfl Hd.out.1 Tryz.underlying43 rfl (by rw [hsz];exact Hb16.out)) rfl ⟨rfl,Hd.out.2⟩
theorem isNaN64_any(x:Int)(w:World):
  Calls Tryz.prog 271 #[.int .i64 x] w fun e w'=>e = .returned (.bool false)/\w=w':=by
 go_enter Tryz.func271,Tryz.ntmps271
 go_wp2
 go_ret
 refine⟨?_,rfl⟩
 show Ending.returned (.bool _)=_
 simp
def cmpI(a b:Int):Int:=if a<b then -1 else if b<a then 1 else 0
theorem Compare64_any(x y:Int)(w:World):
  Calls Tryz.prog 258 #[.int .i64 x,.int .i64 y] w fun e w'=>e = .returned (.int .i64 (cmpI x y))/\w=w':=by
 have HX:=zH (fun w=>isNaN64_any x w)
 have HY:=zH (fun w=>isNaN64_any y w)
 by_cases h1:x<y
 ·have e:cmpI x y = -1:=by unfold cmpI;rw [if_pos h1]
  rw [e];clear e
  go_enter Tryz.func258,Tryz.ntmps258
  go_wp2_with fail
  refine(HX.out _).mono ?_
  rintro e w1 ⟨rfl,rfl⟩
  go_wp2_with fail
  refine(HY.out _).mono ?_
  rintro e w1 ⟨rfl,rfl⟩
  go_wp2_with fail
  go_ret
  exact⟨rfl,rfl⟩
 ·by_cases h2:y<x
  ·have e:cmpI x y=1:=by unfold cmpI;rw [if_neg h1,if_pos h2]
   rw [e];clear e
   go_enter Tryz.func258,Tryz.ntmps258
   go_wp2_with fail
   refine(HX.out _).mono ?_
   rintro e w1 ⟨rfl,rfl⟩
   go_wp2_with fail
   refine(HY.out _).mono ?_
   rintro e w1 ⟨rfl,rfl⟩
   go_wp2_with fail
   go_ret
   exact⟨rfl,rfl⟩
  ·have e:cmpI x y=0:=by unfold cmpI;rw [if_neg h1,if_neg h2]
   rw [e];clear e
   go_enter Tryz.func258,Tryz.ntmps258
   go_wp2_with fail
   refine(HX.out _).mono ?_
   rintro e w1 ⟨rfl,rfl⟩
   go_wp2_with fail
   refine(HY.out _).mono ?_
   rintro e w1 ⟨rfl,rfl⟩
   go_wp2_with fail
   go_ret
   exact⟨rfl,rfl⟩
set_option maxHeartbeats 4000000 in
theorem louder_any(f:Nat->Int)(hf:Fits64 f)(b x y:Nat)(w:World)(hb:w.heap[b]?=some (.cells (rowN 16 (blk f)) 43 (0,0)))(hx:x<16)(hy:y<16):
  Calls Tryz.prog 257 #[.int .i64 x,.int .i64 y,.pointer (some ⟨b,0,none⟩)] w fun e w'=>e = .returned (.int .i64 (cmpI (absI (f y)) (absI (f x))))/\∃n,w'=w.drewN n:=by
 have cx:w.cell? ⟨b,x,none⟩=some (.int .i64 (f x)):=(cell_of_row _ _ _ _ _ _ hb).trans (blk_at 16 f x hx)
 have cy:w.cell? ⟨b,y,none⟩=some (.int .i64 (f y)):=(cell_of_row _ _ _ _ _ _ hb).trans (blk_at 16 f y hy)
 have HX:=zH (fun w=>Abs_any (f x) w (hf x).1 (hf x).2)
 have HY:=zH (fun w=>Abs_any (f y) w (hf y).1 (hf y).2)
 have HC:=zH (fun w=>Compare64_any (absI (f y)) (absI (f x)) w)
 have x0:(0:Int)<=x:=by omega
 have x1:(x:Int)<16:=by omega
 have y0:(0:Int)<=y:=by omega
 have y1:(y:Int)<16:=by omega
 clear hb hf
 generalize cmpI (absI (f y)) (absI (f x))=c at *
 generalize absI (f x)=p at *
 generalize absI (f y)=q at *
 generalize f x=u at *
 generalize f y=v at *
 go_enter Tryz.func257,Tryz.ntmps257
 go_wp2_with fail
 go_quiet ((first | (go_at_call 258;with_reducible exact Calls.quiet_of_same ((HC.out _).mono fun _ _ hh=>⟨hh.1,hh.2.symm⟩)) | (go_at_call 253;first | with_reducible exact Calls.quiet_of_same ((HX.out _).mono fun _ _ hh=>⟨hh.1,hh.2.symm⟩) | with_reducible exact Calls.quiet_of_same ((HY.out _).mono fun _ _ hh=>⟨hh.1,hh.2.symm⟩))))
 go_wp2_with fail
 go_ret
 exact⟨rfl,_,rfl⟩
def keyI(f:Nat->Int)(x:Int):Int:=absI (f x.toNat)
def aheadP(f:Nat->Int)(x y:Int):Prop:=keyI f y<keyI f x\/(keyI f y=keyI f x/\x<y)
theorem aheadP_trans(f:Nat->Int)(x y z:Int)(h1:aheadP f x y)(h2:aheadP f y z):aheadP f x z:=by unfold aheadP at *;omega
def placesP(F:Nat->Int)(n:Nat):Prop:=(∀k,k<n->0<=F k/\F k<16)/\∀a b,a<b->b<n->F a<F b
structure InsW(t:TypeId)(w0:World)(g n b:Nat)(f:Nat->Int)(G:Nat->Int)(W:World):Prop where
 row:CellsAt W g n G
 box:W.heap[b]?=some (.cells (rowN 16 (blk f)) t (0,0))
 kept:Kept (butOf w0 g) w0 W
namespace InsW
variable {t:TypeId} {w0 W:World} {g n b:Nat} {f G:Nat->Int}
theorem drewN(h:InsW t w0 g n b f G W)(d:Nat):InsW t w0 g n b f G (W.drewN d):=⟨h.row.drewN d,h.box,h.kept.drewN d⟩
theorem set(h:InsW t w0 g n b f G W)(hne:g≠b)(j:Nat)(hj:j<n)(v:Int):InsW t w0 g n b f (fun k=>if k=j then v else G k) (W.setCell ⟨g,j,none⟩ (.int .i64 v)):=
 ⟨h.row.set j hj v,(heap_setCell_other _ _ _ _ hne.symm).trans h.box,h.kept.trans (Kept.setCell (X:=butOf w0 g) _ (a:=⟨g,j,none⟩) (fun e=>e.2 rfl) _)⟩
theorem swap(h:InsW t w0 g n b f G W)(hne:g≠b)(j:Nat)(hj:j<n)(h0:0<j):InsW t w0 g n b f (swapF G j) ((W.setCell ⟨g,j,none⟩ (.int .i64 (G (j-1)))).setCell ⟨g,j-1,none⟩ (.int .i64 (G j))):=
 (h.set hne j hj _).set hne (j-1) (by omega) _
end InsW
set_option maxHeartbeats 4000000 in
theorem insertion_any(f:Nat->Int)(hf:Fits64 f)(b g n cap:Nat)(F:Nat->Int)(w:World)(hF:placesP F n)(hb:w.heap[b]?=some (.cells (rowN 16 (blk f)) 43 (0,0)))(hg:CellsAt w g n F)(hne:g≠b)(hn:n<=4611686018427387904):
  Calls Tryz.prog 213 #[.slice (some ⟨g,0,none⟩) n cap,.int .i64 0,.int .i64 n,.func (.func 257) #[] #[.pointer (some ⟨b,0,none⟩)]] w fun e w'=>e = .returned (.tuple #[])/\∃G,SrtO (aheadP f) F n G/\CellsAt w' g n G/\Kept (butOf w g) w w':=by
 have H0:Hid (InsW 43 w g n b f F w):=⟨hg,hb,Kept.refl _ _⟩
 have HF:=zH hF
 have H64:=zH hf
 have HNE:=zH hne
 clear hb hg hF hf hne
 go_enter Tryz.func213,Tryz.ntmps213
 go_wp2_with fail
 go_loopw [8] (fun i wr=>∃(k:Nat) (G:Nat->Int),1<=k/\(k<=n\/k=1)/\i = .int .i64 k/\Hid (InsO (aheadP f) F k G)/\Hid (InsW 43 w g n b f G wr)) (fun i _=>n-(intOf i).toNat)
 case atStart=>exact⟨1,F,by omega,.inr rfl,rfl,InsO.start _ _,H0⟩
 case round=>
  obtain⟨i,G,hi1,hi2,rfl,HO,HW⟩:=hrel
  clear H0
  by_cases hlt:i<n
  ·clear hi2
   obtain⟨wo,rfl⟩:∃V,V=wr:=⟨_,rfl⟩
   have HI:=zH HO.out.enter
   clear HO
   go_wp2_with fail
   go_loopw [9] (fun jv wr=>∃(j:Nat) (G:Nat->Int),jv = .int .i64 j/\j<=i/\Hid (InsI (aheadP f) F i j G)/\Hid (InsW 43 w g n b f G wr)) (fun jv _=>(intOf jv).toNat)
   case atStart=>exact⟨i,G,rfl,Nat.le_refl _,HI,HW⟩
   case round=>
    clear HI HW
    obtain⟨j,G,rfl,hj,HI,HW⟩:=hrel
    by_cases h0:0<j
    ·obtain⟨m,hm⟩:∃m:Nat,m=j-1:=⟨_,rfl⟩
     have hmj:m<j:=by omega
     have hjn:j<n:=by omega
     have hmn:m<n:=by omega
     have e1:IntKind.i64.wrap ((j:Int)-1)=(m:Int):=by rw [show ((j:Int)-1)=(m:Int) by omega];exact IntWalk.i64_in _ (by omega)
     have e2:wrap64 ((j:Int)-1)=(m:Int):=by rw [show ((j:Int)-1)=(m:Int) by omega];exact IntWalk.wrap64_in _ (by omega)
     have c1:=HW.out.row.cell j hjn
     have c2:=HW.out.row.cell m hmn
     have f1:=HW.out.row.frz j hjn
     have f2:=HW.out.row.frz m hmn
     have b1:0<=G j/\G j<16:=by rw [HI.out.own];exact HF.out.1 i hlt
     obtain⟨m',hm',hGm⟩:=HI.out.frm m (by omega) (by omega)
     have b2:0<=G m/\G m<16:=by rw [hGm];exact HF.out.1 m' (by omega)
     have b3:G m<G j:=by rw [hGm,HI.out.own];exact HF.out.2 m' i hm' hlt
     have hL:=fun w' hb'=>louder_any f H64.out b (G j).toNat (G m).toNat w' hb' (by omega) (by omega)
     rw [Int.toNat_of_nonneg b1.1,Int.toNat_of_nonneg b2.1] at hL
     have hLo:=fun d=>hL (wr.drewN d) HW.out.box
     have j0:(0:Int)<j:=by omega
     have e0:m=j-1:=hm
     by_cases c:keyI f (G m)<keyI f (G j)
     ·have hc:cmpI (absI (f (G m).toNat)) (absI (f (G j).toNat)) = -1:=by unfold cmpI;exact if_pos c
      rw [hc] at hLo
      have HLo:=zH hLo
      clear hLo
      have HI2:=zH (HI.out.swap h0 (by rw [←e0];exact .inl c))
      have hW2:=fun d=>(HW.out.drewN d).swap HNE.out j hjn h0
      rw [←e0] at HI2 hW2
      have HW2:=zH hW2
      have HM:=zH e0
      clear hL HI HW hW2 b1 b2 b3 hGm hm' hc c hm e0
      generalize G j=x at *
      generalize G m=y at *
      go_wp2_with fail
      go_quiet ((go_at_call 257;with_reducible exact Calls.quiet_of (HLo.out _)))
      go_wp2_with fail
      go_region
      go_wp2_with fail
      go_roundw
      case rel=>exact⟨m,_,by go_num,by omega,HI2,HW2.out _⟩
      case measure=>simp [intOf];omega
     ·obtain⟨z,hz,hz0⟩:∃z,cmpI (absI (f (G m).toNat)) (absI (f (G j).toNat))=z/\0<=z:=⟨_,rfl,by unfold keyI at c;unfold cmpI;rw [if_neg c];split <;> omega⟩
      rw [hz] at hLo
      have HLo:=zH hLo
      have hD:InsO (aheadP f) F (i+1) G:=HI.out.done (aheadP_trans f) (fun _=>by rw [←e0];unfold aheadP;unfold keyI at *;omega)
      have HD:=zH hD
      have hW2:=fun d=>(HW.out.drewN d)
      have HW2:=zH hW2
      clear hLo hL HI HW hW2 hD b1 b2 b3 hGm hm' hz c hm e0
      generalize G j=x at *
      generalize G m=y at *
      go_wp2_with fail
      go_quiet ((go_at_call 257;with_reducible exact Calls.quiet_of (HLo.out _)))
      go_wp2_with fail
      go_roundw
      case rel=>exact⟨i+1,_,by omega,by omega,by go_num,HD,HW2.out _⟩
      case measure=>simp [intOf];omega
    ·obtain rfl:j=0:=by omega
     have hD:InsO (aheadP f) F (i+1) G:=HI.out.done (aheadP_trans f) (fun h=>absurd h h0)
     have HD:=zH hD
     have hW2:=fun d=>(HW.out.drewN d)
     have HW2:=zH hW2
     clear HI HW hW2 hD h0
     go_wp2_with fail
     go_quiet (fail)
     go_wp2_with fail
     go_roundw
     case rel=>exact⟨i+1,_,by omega,by omega,by go_num,HD,HW2.out _⟩
     case measure=>simp [intOf];omega
  ·have hS:SrtO (aheadP f) F n G:=HO.out.srt (by omega)
   have HS:=zH hS
   have hR:=HW.out.row
   have hK:=HW.out.kept
   have HR:=zH hR
   have HK:=zH hK
   clear hS HO HW hR hK
   go_wp2_with fail
   go_end0
   exact⟨rfl,G,HS.out,HR.out,HK.out⟩
theorem stable_any(f:Nat->Int)(hf:Fits64 f)(b g n cap:Nat)(F:Nat->Int)(w:World)(hF:placesP F n)(hb:w.heap[b]?=some (.cells (rowN 16 (blk f)) 43 (0,0)))(hg:CellsAt w g n F)(hne:g≠b)(hn:n<20):
  Calls Tryz.prog 163 #[.slice (some ⟨g,0,none⟩) n cap,.int .i64 n,.func (.func 257) #[] #[.pointer (some ⟨b,0,none⟩)]] w fun e w'=>e = .returned (.tuple #[])/\∃G,SrtO (aheadP f) F n G/\CellsAt w' g n G/\Kept (butOf w g) w w':=by
 have HI:=zH (insertion_any f hf b g n cap F w hF hb hg hne (by omega))
 clear hf hF hb hg hne
 go_enter Tryz.func163,Tryz.ntmps163
 go_wp2_with fail
 go_loop [7,8] (fun a c=>a = .int .i64 0/\c = .int .i64 20) (fun _ _=>0)
 case atStart=>exact⟨rfl,rfl⟩
 case round=>
  obtain⟨rfl,rfl⟩:=hrel
  go_wp2_with fail
  refine HI.out.mono ?_
  rintro e w1 ⟨rfl,hh⟩
  have HH:=zH hh
  clear hh HI
  go_wp2_with fail
  go_loop [6] (fun c=>c = .int .i64 20) (fun _=>0)
  case atStart=>rfl
  case round=>
   subst hrel
   go_wp2_with fail
   go_end0
   exact⟨rfl,HH.out⟩
theorem SortStable_any(f:Nat->Int)(hf:Fits64 f)(b g n cap:Nat)(F:Nat->Int)(w:World)(hF:placesP F n)(hb:w.heap[b]?=some (.cells (rowN 16 (blk f)) 43 (0,0)))(hg:CellsAt w g n F)(hne:g≠b)(hn:n<20):
  Calls Tryz.prog 120 #[.slice (some ⟨g,0,none⟩) n cap,.func (.func 257) #[] #[.pointer (some ⟨b,0,none⟩)]] w fun e w'=>e = .returned (.tuple #[])/\∃G,SrtO (aheadP f) F n G/\CellsAt w' g n G/\Kept (butOf w g) w w':=by
 have HI:=zH (stable_any f hf b g n cap F w hF hb hg hne hn)
 clear hf hF hb hg hne
 go_enter Tryz.func120,Tryz.ntmps120
 go_wp2_with fail
 refine HI.out.mono ?_
 rintro e w1 ⟨rfl,hh⟩
 have HH:=zH hh
 clear hh HI
 go_wp2_with fail
 go_end0
 exact⟨rfl,HH.out⟩
def placesL(f:Nat->Int)(k:Nat):List Nat:=(List.range k).filter fun i=>decide (isT f i)
def intsOf(l:List Nat):List Int:=l.map (fun i:Nat=>(i:Int))
theorem intsOf_len(l:List Nat):(intsOf l).length=l.length:=by simp [intsOf]
theorem intsOf_getD(l:List Nat)(k:Nat)(h:k<l.length):(intsOf l).getD k 0=((l.getD k 0:Nat):Int):=by simp [intsOf,List.getD,h]
theorem placesL_yes(f:Nat->Int)(k:Nat)(h:isT f k):placesL f (k+1)=placesL f k ++ [k]:=by
 unfold placesL
 rw [List.range_succ,List.filter_append]
 simp [h]
theorem placesL_no(f:Nat->Int)(k:Nat)(h:¬isT f k):placesL f (k+1)=placesL f k:=by
 unfold placesL
 rw [List.range_succ,List.filter_append]
 simp [h]
theorem placesL_len(f:Nat->Int)(k:Nat):(placesL f k).length<=k:=by
 have:=List.length_filter_le (fun i=>decide (isT f i)) (List.range k)
 simpa [placesL] using this
theorem mem_placesL{f:Nat->Int}{k i:Nat} : i∈placesL f k↔i<k/\isT f i:=by simp [placesL]
theorem placesL_rising(f:Nat->Int)(k:Nat):(placesL f k).Pairwise (· < ·):=List.Pairwise.filter _ List.pairwise_lt_range
structure PlSt(tb te:TypeId)(w:World)(f:Nat->Int)(k:Nat)(v:Value)(W:World):Prop where
 own:OwnL .i64 te (fun q=>q<w.heap.size+1) W v (intsOf (placesL f k))
 box:W.heap[w.heap.size]?=some (.cells (rowN 16 (blk f)) tb (0,0))
 old:Old w W
theorem PlSt.keep{tb te:TypeId}{w W W':World}{f:Nat->Int}{k:Nat}{v:Value}(h:PlSt tb te w f k v W)(o:Old W W'):PlSt tb te w f k v W':=
 ⟨h.own.old o,(o.block _ (lt_of_block h.box)).trans h.box,h.old.trans o⟩
theorem PlSt.next{tb te:TypeId}{w W W':World}{f:Nat->Int}{k:Nat}{v v':Value}(h:PlSt tb te w f k v W)(hk:isT f k)
  (ho:ownX (fun q=>q<w.heap.size+1) W' te v' ((intsOf (placesL f k)).length+1) ((intsOf (placesL f k)).map (Value.int .i64) ++ [.int .i64 k])) (ka:Kept (fun q=>q<w.heap.size+1) W W'):PlSt tb te w f (k+1) v' W':=by
 refine⟨?_,?_,h.old.after ka fun q hq=>by omega⟩
 ·rw [placesL_yes f k hk,show intsOf (placesL f k ++ [k])=intsOf (placesL f k) ++ [(k:Int)] from by simp [intsOf]]
  exact OwnL.snoc ho
 ·exact(ka.block _ (by show w.heap.size<w.heap.size+1;omega)).trans h.box
theorem Tryz.info_int':(Tryz.prog.info? 3).map (fun i=>(i.zero,i.size,i.bytes))=some (some (.int .i64 0),1,8):=by kernel_rfl
set_option maxHeartbeats 1000000 in
theorem places_any(f:Nat->Int)(hf:Fits64 f)(w:World):
  Calls Tryz.prog 256 #[.agg (rowN 16 (blk f))] w fun e w'=>∃v,e = .returned v/\OwnL .i64 3 (fun q=>q<w.heap.size) w' v (intsOf (placesL f 16))/\Old w w':=by
 obtain⟨i0,hi,hz0,hz1,hz2⟩:=info_parts Tryz.info_int'
 have Hb16:Hid ((Tryz.prog.info? 43).map (·.size)=some 16):=zH (by kernel_rfl)
 have HIs:=zH (fun(k:Nat) (hk:k<16) w=>Is_any f hf k w (by omega) (by omega))
 have H0:Hid (PlSt 43 3 w f 0 (.slice none 0 0) (w.alloc (.cells (rowN 16 (blk f)) 43))):=⟨by have:=OwnL.nil .i64 3 (fun q=>q<w.heap.size+1) (w.alloc (.cells (rowN 16 (blk f)) 43));exact this,heap_alloc_new _ _,Old.alloc _ _⟩
 clear hf
 go_enter Tryz.func256,Tryz.ntmps256
 go_wp2_with fail
 go_loopw [3,5] (fun v i wr=>∃k:Nat,k<=16/\i = .int .i64 k/\Hid (PlSt 43 3 w f k v wr)) (fun _ i _=>16-(intOf i).toNat)
 case atStart=>exact⟨0,by omega,rfl,H0⟩
 case round=>
  obtain⟨k,hk,rfl,hs⟩:=hrel
  clear H0
  by_cases hlt:k<16
  ·have k0:(0:Int)<=k:=by omega
   have k1:(k:Int)<16:=by omega
   have HI:=zH (HIs.out k hlt wr)
   have Hbox:=zH hs.out.box
   rw [isI_nat] at HI
   clear HIs
   go_wp2_with (with_reducible refine wpList_load_row rfl 43 _ rfl w.heap.size rfl 43 (rowN 16 (blk f)) (0,0) _ Hbox.out Tryz.underlying43 rfl (by rw [rowN_size];exact Hb16.out) ?_)
   refine HI.out.mono ?_
   rintro e w1 ⟨rfl,ho⟩
   have HS:=zH (hs.out.keep ho)
   clear hs ho HI Hbox
   by_cases ht:isT f k
   ·have hown:=HS.out.own
    have hlen:=placesL_len f k
    have HN:=zH (fun v' w2 ho ka=>HS.out.next (v':=v') (W':=w2) ht ho ka)
    have hd:decide (isT f k)=true:=decide_eq_true ht
    have HXX:Hid (∀(o:Obj) (q:Nat),q<w.heap.size+1->q<(w1.alloc o).heap.size):=fun o q hq=>by
     have:=lt_of_block HS.out.box
     simp
     omega
    have HXS:Hid (w.heap.size+1<=w1.heap.size):=lt_of_block HS.out.box
    have hll:=intsOf_len (placesL f k)
    clear HS ht
    unfold OwnL at hown
    rw [hd]
    clear hd
    generalize intsOf (placesL f k)=xs at *
    generalize placesL f k=ps at *
    go_wp2_with ((at_builtin;refine append_X _ rfl _ _ 23 rfl (fun q=>q<w.heap.size+1) 3 i0 (.int .i64 0) 8 Tryz.underlying23 hi hz0 hz1 hz2 rfl _ _ _ rfl (hown.old (Old.alloc _ _)) ⟨w1.heap.size,0,none⟩ 1 1 [.int .i64 k] rfl rfl (news_one w1 _ _) (one_oneCell _ _) (by unfold maxLen;omega) (by omega) (HXX.out _) ?_;intro v' w2 hown2 hk2 _;have hn2:=zH (HN.out v' w2 hown2 ((Kept.alloc _ _ (fun q hq=>Nat.lt_of_lt_of_le hq HXS.out)).trans hk2));clear hown hown2 hk2 HN))
    go_roundw
    case rel=>exact⟨k+1,by omega,by go_num,hn2⟩
    case measure=>simp [intOf];omega
   ·have hd:decide (isT f k)=false:=decide_eq_false ht
    have hn:PlSt 43 3 w f (k+1) u3 w1:=⟨by rw [placesL_no f k ht];exact HS.out.own,HS.out.box,HS.out.old⟩
    have HN:=zH hn
    rw [hd]
    clear HS hn ht hd
    go_wp2_with fail
    go_roundw
    case rel=>exact⟨k+1,by omega,by go_num,HN⟩
    case measure=>simp [intOf];omega
  ·obtain rfl:k=16:=by omega
   have hr:OwnL .i64 3 (fun q=>q<w.heap.size) wr u3 (intsOf (placesL f 16))/\Old w wr:=⟨hs.out.own.mono fun q hq h=>by have:=hs.out.own.2 q hq;omega,hs.out.old⟩
   have HR:=zH hr
   clear hs hr HIs
   go_wp2_with fail
   go_ret
   exact⟨u3,rfl,HR.out.1,HR.out.2⟩
open Go.Deep
theorem cells_sample:Tryz.prog.cellsOf 90=6:=by kernel_rfl
theorem list6{α:Type}(l:List α)(h:l.length=6):l = [l[0],l[1],l[2],l[3],l[4],l[5]]:=by
 match l,h with
 | [c0,c1,c2,c3,c4,c5],_=>rfl
theorem sample_of_trod{H:Type}{enc:TypeId × Value->H}{W:World}{fuel:Nat}{l:List Value}{x:DataW H × List MemPlace}(hl:l.length=6)
  (hf:DataW.trod enc Tryz.prog W 0 (fun _=>true) true fuel 90 l=some x):
  ∃S:Smp,l=S.cells.toList/\SmOk W S:=by
 obtain⟨xs,m,_,hxe,_,hxl,hg⟩:=DataW.trod_struct Tryz.underlying90 hf
 have hg:∀(i:Nat) (f:Field),_->DataW.trod enc Tryz.prog W 0 (fun _=>true) true m f.type ((l.drop f.offset).take (Tryz.prog.cellsOf f.type))=xs[i]?:=hg
 have hxl:xs.length=6:=hxl
 have h0:=hg 0 _ rfl
 have h1:=hg 1 _ rfl
 have h2:=hg 2 _ rfl
 have h3:=hg 3 _ rfl
 have h4:=hg 4 _ rfl
 have h5:=hg 5 _ rfl
 rw [List.getElem?_eq_getElem (by omega)] at h0 h1 h2 h3 h4 h5
 obtain⟨s,e0,_,w0⟩:=DataW.trod_string Tryz.underlying9 (field_of_trod (o:=0) (by omega) h0)
 obtain⟨r,e1,_,w1⟩:=DataW.trod_int Tryz.underlying3 (field_of_trod (o:=1) (by omega) h1)
 obtain⟨lp,e2,_⟩:=DataW.trod_bool Tryz.underlying4 (field_of_trod (o:=2) (by omega) h2)
 obtain⟨a,e3,_,w3⟩:=DataW.trod_int Tryz.underlying3 (field_of_trod (o:=3) (by omega) h3)
 obtain⟨b,e4,_,w4⟩:=DataW.trod_int Tryz.underlying3 (field_of_trod (o:=4) (by omega) h4)
 simp only [List.cons.injEq,and_true] at e0 e1 e2 e3 e4
 have hrows:=open_int_rows Tryz.underlying88 Tryz.underlying23 Tryz.underlying3 (by kernel_rfl) (by kernel_rfl) (field_of_trod (o:=5) (by omega) h5)
 obtain⟨p,n,c,Q,M,C,X,e5,hle,hcap,hR⟩:∃p n c Q M C X,l[5] = .slice p n c/\n<=c/\c<=maxLen/\Rws W p n Q M C X:=by
  rcases hrows with ⟨hcs,_⟩ | ⟨a,len,cap,A,L,C,Z,hcs,_,hl',hm,hx,hrow⟩
  ·exact⟨none,0,0,fun _=>none,fun _=>0,fun _=>0,fun _ _=>0,by simpa using hcs,Nat.le_refl _,Nat.zero_le _,⟨fun h=>by omega,fun i hi=>by omega⟩⟩
  ·refine⟨some a,len,cap,A,L,C,fun i j=>(Z i).getD j 0,by simpa using hcs,hl',hm,⟨fun h0=>?_,fun i hi=>?_⟩⟩
   ·obtain⟨b,off,rfl,hb⟩:=spot_none (hrow 0 (by omega)).1
    refine⟨b,off,rfl,hb,fun i hi=>?_⟩
    rw [←add_plain]
    exact(hrow i (by omega)).1
   ·obtain⟨_,hLC,hC,hZ,_,hN,hA⟩:=hrow i (by omega)
    refine⟨hLC,hC,fun h0=>?_⟩
    cases hAi:A i with
    | none=>have:=hN hAi;omega
    | some a'=>
     obtain⟨_,hc⟩:=hA a' hAi
     obtain⟨b',off',rfl,hb⟩:=spot_none (hc 0 (by omega))
     refine⟨b',off',rfl,hb,fun j hj=>?_⟩
     rw [←add_plain]
     exact hc j (by omega)
 refine⟨⟨s,r,lp,a,b,p,n,c,Q,M,C,X⟩,?_,⟨by unfold maxLen at w0;show s.size<=_;omega,hle,hcap,hR⟩⟩
 rw [list6 l hl,e0,e1,e2,e3,e4,e5]
 rfl
end Go.Proofs.YtgefdmfcddpaiaaGreatDoor
