/- Texts joined: RowsB, TwoL, CellsV, LapC, LapB, ToneA, Meet, ToneG, SortP, ToneB, ToneC, ToneD, BankP, MergeP, StabP, SampArg. -/
import Derived.Deep.MidRow
import Derived.Laws.MakeOwn
import Derived.Test.YticpdokbiblpoaaGreatDoorChecked
import Derived.ChangeKeysEq
import Derived.BigRegion
import Derived.BigQuiet
import Derived.Deep.Matrix
import Derived.Test.YticpdokbiblpoaaGreatDoorPkAB
import Derived.Test.YticpdokbiblpoaaGreatDoorPkAC
import Derived.Test.YticpdokbiblpoaaGreatDoorPkAE
import Derived.Test.YticpdokbiblpoaaGreatDoorTk
set_option linter.unusedVariables false
set_option maxHeartbeats 4000000
namespace Go.Proofs.YticpdokbiblpoaaGreatDoor
open Go.Proofs.Tryz
open Go.Proofs.Tryz renaming prog → zP
open Go.Value renaming int → vI
open Go.IntKind renaming i64 → iJ
open Go.Ending renaming returned → rJ
set_option maxRecDepth 100000
open Go.RowKit Go.ChangeShapes Go.WideShapes
def eH(n:Nat)(f:nI):List Value:=(List.range n).map (blk f)
theorem gU(n:Nat)(f:nI):(eH n f).length=n:=by simp[eH]
theorem uD(n:Nat)(f:nI)(j:Nat)(h:j<n):(eH n f)[j]?=some (vI iJ (f j)):=by simp[eH,h,blk]
theorem yD{n:Nat}{f:nI}{j:Nat}{v:Value}(h:(eH n f)[j]?=some v):j<n/\v=vI iJ (f j):=by
 by_cases hj:j<n
 ·rw[uD n f j hj]at h;exact⟨hj,by simpa using h.symm⟩
 ·rw[List.getElem?_eq_none (by rw[gU];omega)]at h;cases h
theorem aDp(n:Nat)(f:nI):∀v∈eH n f,v.oneCell'=true:=by
 intro v hv;obtain⟨i,_,rfl⟩:=List.mem_map.1 hv;rfl
theorem aBt(n:Nat)(f g:nI)(h:∀k,k<n->f k=g k):eH n f=eH n g:=List.map_congr_left fun k hk=>by unfold blk;rw[h k (List.mem_range.1 hk)]
structure CellsAt(w:World)(g m:Nat)(F:nI):Prop where
 lt:g<w.heap.size
 cell:∀j,j<m->w.cell? ⟨g,j,none⟩=some (vI iJ (F j))
 frz:∀j,j<m->w.frozen? ⟨g,j,none⟩=false
def aV(F:nI)(o n:Nat)(f:nI):nI:=fun j=>if o<=j/\j<o+n then f (j-o) else F j
theorem cI(b:Nat):∀(vs:List Value) (o:Nat) (w:World) (k:Nat),k≠b->(w.setCells b o vs).heap[k]?=w.heap[k]?
 | [],_,_,_,_=>rfl
 | v :: r,o,w,k,h=>by
  rw[World.setCells,cI b r (o+1) _ k h];exact Below.heap_setCell _ _ _ _ h
theorem eT(b:Nat):∀(vs:List Value) (o:Nat) (w:World),(w.setCells b o vs).heap.size=w.heap.size
 | [],_,_=>rfl
 | v :: r,o,w=>by rw[World.setCells,eT b r (o+1) _];simp[World.setCell]
theorem pI(b:Nat):∀(vs:List Value) (o:Nat) (w:World),(w.setCells b o vs).os=w.os/\(w.setCells b o vs).output=w.output
 | [],_,_=>⟨rfl,rfl⟩
 | v :: r,o,w=>by rw[World.setCells];exact pI b r (o+1) _
theorem Kept.setCells{X:Nat->Prop}(w:World){b:Nat}(hb:¬X b)(o:Nat)(vs:List Value):Kept X w (w.setCells b o vs):=
 ⟨(pI b vs o w).1,(pI b vs o w).2,by rw[eT];exact Nat.le_refl _,fun k hk=>cI _ _ _ _ _ (fun e=>hb (e ▸ hk))⟩
namespace CellsAt
variable {w w':World} {g m:Nat} {F:nI} {Y:Nat->Prop}
theorem kept(h:CellsAt w g m F)(k:Kept Y w w')(hY:Y g):CellsAt w' g m F:=
 ⟨Nat.lt_of_lt_of_le h.lt k.size,fun j hj=>(k.cell (a:=⟨g,j,none⟩) hY).trans (h.cell j hj),fun j hj=>(k.frozen (a:=⟨g,j,none⟩) hY).trans (h.frz j hj)⟩
theorem old(h:CellsAt w g m F)(k:Old w w'):CellsAt w' g m F:=h.kept k h.lt
theorem drewN(h:CellsAt w g m F)(n:Nat):CellsAt (w.drewN n) g m F:=⟨h.lt,h.cell,h.frz⟩
theorem drew(h:CellsAt w g m F):CellsAt w.drew g m F:=⟨h.lt,h.cell,h.frz⟩
theorem ext{G:nI}(h:CellsAt w g m F)(e:∀j,j<m->F j=G j):CellsAt w g m G:=⟨h.lt,fun j hj=>by rw[<-e j hj];exact h.cell j hj,h.frz⟩
theorem less(h:CellsAt w g m F){n:Nat}(hn:n<=m):CellsAt w g n F:=⟨h.lt,fun j hj=>h.cell j zO,fun j hj=>h.frz j zO⟩
theorem set(h:CellsAt w g m F)(j:Nat)(hj:j<m)(v:Int):CellsAt (w.setCell ⟨g,j,none⟩ (vI iJ v)) g m (fun k=>if k=j then v else F k):=by
 refine⟨by have:=h.lt;simpa[World.setCell]using this,fun k hk=>?_,fun k hk=>by rw[World.frozen?_setCell];exact h.frz k hk⟩;by_cases e:k=j
 ·subst e;rw[World.cell?_setCell_same _ _ _ (h.cell k hk),if_pos rfl]
 ·rw[World.cell?_setCell_other _ _ _ _ (fun e'=>e (by injection e' with _ e2;exact e2.symm)),if_neg e];exact h.cell k hk
theorem setOther(h:CellsAt w g m F){a:Addr}(ha:a.block≠g)(v:Value):CellsAt (w.setCell a v) g m F:=
 h.kept (Y:=fun k=>k≠a.block) (Kept.setCell w (fun e=>e rfl) v) (fun e=>ha e.symm)
theorem there(h:CellsAt w g m F)(o n:Nat)(hn:o+n<=m):w.there g o n:=fun j hj=>⟨by rw[h.cell (o+j) zO];rfl,h.frz (o+j) zO⟩
theorem setCells(h:CellsAt w g m F)(o n:Nat)(hn:o+n<=m)(f:nI):CellsAt (w.setCells g o (eH n f)) g m (aV F o n f):=by
 refine⟨by rw[eT];exact h.lt,fun k hk=>?_,fun k hk=>by rw[World.frozen?_setCells];exact h.frz k hk⟩;unfold aV;by_cases e:o<=k/\k<o+n
 ·rw[if_pos e];have h1:=World.cell?_setCells_in g (eH n f) o w (fun i hi=>by rw[gU]at hi;rw[h.cell (o+i) zO];rfl) (k-o) (by rw[gU];omega);rw[show o+(k-o)=k by omega]at h1;rw[h1,<-List.getElem?_eq_getElem,uD n f (k-o) zO]
 ·rw[if_neg e,World.cell?_setCells_out g (eH n f) o w ⟨g,k,none⟩ (fun _ _=>by rw[gU];show k<o\/o+n<=k;omega)];exact h.cell k hk
theorem setCellsOther(h:CellsAt w g m F){b:Nat}(hb:b≠g)(o:Nat)(vs:List Value):CellsAt (w.setCells b o vs) g m F:=
 h.kept (Y:=fun k=>k≠b) (Kept.setCells w (fun e=>e rfl) o vs) (fun e=>hb e.symm)
end CellsAt
theorem fG(w:World)(m:Nat)(F:nI)(t:TypeId):CellsAt (w.alloc (.cells (aA m (blk F)) t)) w.heap.size m F:=
 ⟨zS,fun j hj=>MY w m t (blk F) j hj,fun j hj=>frozen_of_row _ _ _ _ _ (heap_alloc_new _ _)⟩
theorem jZ{P:Program}{op:Oper}{a:Act}{w:World}{K:Act->World->Prop}{Q:Exit->Act->World->Prop}(n:Nat)(f:nI)(ty:TypeId)(x:Operand)(ho:op.op=.load ty x)
  (b o:Nat) (hx:a.eval x=.pointer (some ⟨b,o,none⟩)) (d:TypeDesc) (hc:∀j,j<n->w.cell? ⟨b,o+j,none⟩=some (vI iJ (f j)))
  (hu:P.underlying ty=some d) (hd:d.isRow=true) (hi:(P.info? ty).map (·.size)=some n) (h:K (a.put op.dst (.agg (aA n (blk f)))) w):op.wp P a w K Q:=
 wp_load_mid ty x ho b o hx (eH n f) d (fun j v hv=>by obtain⟨hj,rfl⟩:=yD hv;exact hc j hj) hu hd (by rw[gU];exact hi) h
theorem bC{P:Program}{ops:Array Oper}{rest:List Oper}{op:Oper}{a:Act}{w:World}{Q:Exit->Act->World->Prop}(hgd:op.guard=none)(n:Nat)(f:nI)(ty:TypeId)(x:Operand)(ho:op.op=.load ty x)
  (b o:Nat) (hx:a.eval x=.pointer (some ⟨b,o,none⟩)) (d:TypeDesc) (hc:∀j,j<n->w.cell? ⟨b,o+j,none⟩=some (vI iJ (f j)))
  (hu:P.underlying ty=some d) (hd:d.isRow=true) (hi:(P.info? ty).map (·.size)=some n) (h:wpList P ops Q rest (a.put op.dst (.agg (aA n (blk f)))) w):wpList P ops Q (op :: rest) a w:=
 wpList_plain hgd fun _ hK=>jZ n f ty x ho b o hx d hc hu hd hi (hK _ _ h)
theorem aX{P:Program}{ops:Array Oper}{S:World->Prop}{op:Oper}{a:Act}(n:Nat)(f:nI)(hw:Region.wanted op (yielded ops a.tmps)=true)(ty:TypeId)(x:Operand)(ho:op.op=.load ty x)
  (b o:Nat) (hx:a.eval x=.pointer (some ⟨b,o,none⟩)) (d:TypeDesc) (hS:∀w,S w->∀j,j<n->w.cell? ⟨b,o+j,none⟩=some (vI iJ (f j)))
  (hu:P.underlying ty=some d) (hd:d.isRow=true) (hi:(P.info? ty).map (·.size)=some n):YieldsIf P ops S op (.agg (aA n (blk f))) a:=
 yieldsIf_load_mid hw ty x ho b o hx (eH n f) d (fun w hw' j v hv=>by obtain⟨hj,rfl⟩:=yD hv;exact hS w hw' j hj) hu hd (by rw[gU];exact hi)
theorem kS{P:Program}{op:Oper}{a:Act}{w:World}{K:Act->World->Prop}{Q:Exit->Act->World->Prop}(n:Nat)(f:nI)(ty:TypeId)(x y:Operand)(ho:op.op=.store ty x y)
  (b o:Nat) (hx:a.eval x=.pointer (some ⟨b,o,none⟩)) (hy:a.eval y=.agg (aA n (blk f))) (ht:w.there b o n) (hi:(P.info? ty).map (·.size)=some n)
  (h:K (a.put op.dst undef) (w.setCells b o (eH n f))):op.wp P a w K Q:=
 wp_store_mid ty x y ho b o (aA n (blk f)) hx hy (by rw[aB];exact ht) (by rw[aB];exact hi) (bN _ _) h
theorem mI{P:Program}{ops:Array Oper}{rest:List Oper}{op:Oper}{a:Act}{w:World}{Q:Exit->Act->World->Prop}(hgd:op.guard=none)(n:Nat)(f:nI)(ty:TypeId)(x y:Operand)(ho:op.op=.store ty x y)
  (b o:Nat) (hx:a.eval x=.pointer (some ⟨b,o,none⟩)) (hy:a.eval y=.agg (aA n (blk f))) (ht:w.there b o n) (hi:(P.info? ty).map (·.size)=some n)
  (h:wpList P ops Q rest (a.put op.dst undef) (w.setCells b o (eH n f))):wpList P ops Q (op :: rest) a w:=
 wpList_plain hgd fun _ hK=>kS n f ty x y ho b o hx hy ht hi (hK _ _ h)
theorem oI{P:Program}{w:World}{ops:Array Oper}{rest:List Oper}{o:Oper}{a:Act}{Q:Exit->Act->World->Prop}(hgd:o.guard=none)(d s:Operand)(dT sT:TypeId)
  (ho:o.op=.call { callee:=.builtin .copy,args:=#[d,s],argTypes:=#[dT,sT] }) (elem:TypeId) (hu:P.underlying dT=some (.slice elem)) (hsz:(P.info? elem).map (·.size)=some 1)
  (n:Nat) (f:nI) (g off dLen dCap b so oW sCap:Nat) (hd:a.eval d=.slice (some ⟨g,off,none⟩) dLen dCap) (hs:a.eval s=.slice (some ⟨b,so,none⟩) oW sCap) (hn:n=Nat.min oW dLen)
  (hsrc:∀j,j<n->w.cell? ⟨b,so+j,none⟩=some (vI iJ (f j))) (ht:w.there g off n)
  (h:wpList P ops Q rest (a.put o.dst (goInt n)) (w.setCells g off (eH n f))):wpList P ops Q (o :: rest) a w:=by
 refine wpList_plain hgd fun K hK=>?_
 have hrun:=run_copy_cells (P:=P) w dT sT o.type elem g off dLen dCap ⟨b,so,none⟩ oW sCap (eH n f) hu hsz (by rw[gU];exact hn)
  (fun j v hv=>by obtain⟨hj,rfl⟩:=yD hv;rw[add_plain];exact hsrc j hj) (fun j hj=>(ht j (by rw[gU]at hj;exact hj)).1) (fun j hj=>(ht j (by rw[gU]at hj;exact hj)).2) (aDp n f)
 rw[gU]at hrun;unfold Oper.wp;simp[execOp,ho,resolve,invoke,builtin,hd,hs,hrun,Result.andThen];exact hK _ _ h
def OwnR(s:Nat)(X:Nat->Prop)(w:World)(p:Option Addr)(n:Nat)(F:nI):Prop:=0<n->∃g,p=some ⟨g,0,none⟩/\¬X g/\CellsAt w g (s*n) F
def SlF(s:Nat)(w:World)(p:Option Addr)(n:Nat)(F:nI):Prop:=0<n->∃g o,p=some ⟨g,o,none⟩/\g<w.heap.size/\∀j,j<s*n->w.cell? ⟨g,o+j,none⟩=some (vI iJ (F j))
namespace OwnR
variable {s n:Nat} {X Y:Nat->Prop} {w w':World} {p:Option Addr} {F:nI}
theorem old(h:OwnR s X w p n F)(k:Old w w'):OwnR s X w' p n F:=fun hn=>by obtain⟨g,h1,h2,h3⟩:=h hn;exact⟨g,h1,h2,h3.old k⟩
theorem mono(h:OwnR s X w p n F)(hY:∀k,Y k->X k):OwnR s Y w p n F:=fun hn=>by obtain⟨g,h1,h2,h3⟩:=h hn;exact⟨g,h1,fun e=>h2 (hY g e),h3⟩
end OwnR
namespace SlF
variable {s n:Nat} {w w':World} {p:Option Addr} {F:nI}
theorem old(h:SlF s w p n F)(k:Old w w'):SlF s w' p n F:=fun hn=>by
 obtain⟨g,o,h1,h2,h3⟩:=h hn;exact⟨g,o,h1,Nat.lt_of_lt_of_le h2 k.size,fun j hj=>(k.cell (a:=⟨g,o+j,none⟩) h2).trans (h3 j hj)⟩
theorem ext{G:nI}(h:SlF s w p n F)(e:∀j,j<s*n->F j=G j):SlF s w p n G:=fun hn=>by
 obtain⟨g,o,h1,h2,h3⟩:=h hn;exact⟨g,o,h1,h2,fun j hj=>by rw[<-e j hj];exact h3 j hj⟩
end SlF
theorem qX(n:Nat)(z:Array Value)(hz:z.size≠0)(h:∀j,j<z.size->z[j]?=some (vI iJ 0)):madeCells z n=aA n (blk fun _=>0):=by
 apply Array.ext_getElem?;intro i;by_cases hi:i<n
 ·rw[dR n _ i hi];have hm:i%z.size<z.size:=Nat.mod_lt _ zO;have:=h _ hm;rw[Array.getElem?_eq_getElem hm]at this;simp[madeCells,hi,hm] ;simpa using this
 ·rw[Array.getElem?_eq_none (by rw[size_madeCells];omega),Array.getElem?_eq_none (by rw[aB];omega)]
theorem kK.slF{w:World}{p:Option Addr}{n cap:Nat}{xs:List Int}(h:kK w .i64 (.slice p n cap) xs):SlF 1 w p n (fun j=>xs.getD j 0):=fun hn=>by
 obtain⟨p',cap',he,hc⟩:=h;simp only[Value.slice.injEq]at he;obtain⟨rfl,rfl,rfl⟩:=he;obtain⟨b,off,h1,h2,_,_,h3⟩:=hc (fun e=>by subst e;simp at hn);exact⟨b,off,h1,h2,fun j hj=>h3 j zO⟩
theorem tA{P:Program}{t:TypeId}(ht:P.underlying t=some (.slice (P.elem t)))(hz:∀w,(sizeOf (P.elem t)).run P w=.ok 1 w)(b o n cap k:Nat)(hk:k<n)(hn:n<=cap)(l:Int)(hl:l=k)(w:World):
  (Instr.sliceAt t (.slice (some ⟨b,o,none⟩) n cap) (some (vI iJ l)) none none).run P w=.ok (.slice (some ⟨b,o+k,none⟩) (n-k) (cap-k)) w:=by
 subst hl;rw[run_sliceAt_slice _ _ _ _ _ _ ht,run_slice_l _ _ _ _ _ ht _ _ zO zO,hz];simp only[Result.andThen_ok,sliced,Int.toNat_natCast,Option.map,Nat.mul_one];rw[if_neg zO,add_plain]
theorem eM{P:Program}{t:TypeId}(n:Nat)(ht:P.underlying t=some (.array (P.arrayLen t) (P.elem t)))(hl:P.arrayLen t=n)(hz:∀w,(sizeOf (P.elem t)).run P w=.ok 1 w)(hn:0<n)(b o:Nat)(w:World):
  (Instr.sliceAt t (.pointer (some ⟨b,o,none⟩)) none none none).run P w=.ok (.slice (some ⟨b,o,none⟩) n n) w:=by
 rw[run_sliceAt_array_all w t _ ht,hz,hl];simp only[Result.andThen_ok,slicedAt];rw[if_neg zO,add_plain];rfl
theorem oD{P:Program}{t:TypeId}(n k:Nat)(ht:P.underlying t=some (.array (P.arrayLen t) (P.elem t)))(hl:P.arrayLen t=n)(hz:∀w,(sizeOf (P.elem t)).run P w=.ok 1 w)(hn:k<n)(b o:Nat)(w:World):
  (Instr.sliceAt t (.pointer (some ⟨b,o,none⟩)) (some (vI iJ k)) none none).run P w=.ok (.slice (some ⟨b,o+k,none⟩) (n-k) (n-k)) w:=by
 rw[run_sliceAt_array_l w t _ ht _ _ zO (by rw[hl];omega),hz,hl];simp only[Result.andThen_ok,slicedAt,Int.toNat_natCast];rw[if_neg zO,add_plain,Nat.mul_one]
theorem nL{P:Program}{t:TypeId}(n k:Nat)(ht:P.underlying t=some (.array (P.arrayLen t) (P.elem t)))(hl:P.arrayLen t=n)(hz:∀w,(sizeOf (P.elem t)).run P w=.ok 1 w)(hn:k<=n)(h0:0<n)(b o:Nat)(w:World):
  (Instr.sliceAt t (.pointer (some ⟨b,o,none⟩)) none (some (vI iJ k)) none).run P w=.ok (.slice (some ⟨b,o,none⟩) k n) w:=by
 rw[run_sliceAt_array_h w t _ ht _ _ zO (by rw[hl];omega),hz,hl];simp only[Result.andThen_ok,slicedAt,Int.toNat_natCast];rw[if_neg zO,add_plain];rfl
theorem PG(w:World)(x y:Value)(t:TypeId):∀(j:Nat) (u:Value),[x,y][j]?=some u->(w.alloc (.cells #[x,y] t)).cell? ((⟨w.heap.size,0,none⟩:Addr).add j)=some u:=by
 intro j u h
 match j,h with
 | 0,h=>
  simp only[List.getElem?_cons_zero,Option.some.injEq]at h;subst h;show (w.alloc (.cells #[x,y] t)).cell? ⟨w.heap.size,0,none⟩=_;rw[World.cell?_alloc_at _ _ _ _ rfl];rfl
 | 1,h=>
  simp only[List.getElem?_cons_succ,List.getElem?_cons_zero,Option.some.injEq]at h;subst h;show (w.alloc (.cells #[x,y] t)).cell? ⟨w.heap.size,1,none⟩=_;rw[World.cell?_alloc_at _ _ _ _ rfl];rfl
 | j+2,h=>simp at h
theorem wP(a b:Int):∀u∈[Value.int .i64 a,Value.int .i64 b],u.oneCell'=true:=by
 intro u hu;simp only[List.mem_cons,List.mem_nil_iff,or_false]at hu;rcases hu with rfl | rfl <;> rfl
theorem DB(T:nI)(k:Nat):eH (2*(k+1)) T=eH (2*k) T ++ [vI iJ (T (2*k)),vI iJ (T (2*k+1))]:=by
 unfold eH;rw[show 2*(k+1)=2*k+1+1 by omega,List.range_succ,List.range_succ];simp[blk]
theorem mV{w:World}{p:Option Addr}{n:Nat}{T:nI}(h:SlF 2 w p n T)(hn:0<n):∃g o,p=some ⟨g,o,none⟩/\g<w.heap.size/\∀k,k<n->w.cell? ⟨g,o+k*2,none⟩=some (vI iJ (T (2*k)))/\w.cell? ⟨g,o+k*2+1,none⟩=some (vI iJ (T (2*k+1))):=by
 obtain⟨g,o,hp,hg,hc⟩:=h hn;refine⟨g,o,hp,hg,fun k hk=>⟨?_,?_⟩⟩
 ·have:=hc (2*k) zO
  rwa [show o+2*k=o+k*2 by omega]at this
 ·have:=hc (2*k+1) zO
  rwa [show o+(2*k+1)=o+k*2+1 by omega]at this
theorem RN{X:Nat->Prop}{w:World}{e:TypeId}{n:Nat}{v:Value}{T:nI}(h:ownS X w e 2 v n (eH (2*n) T)):∃p cap,v=.slice p n cap/\n<=cap/\cap<=maxLen/\SlF 2 w p n T:=by
 rcases h.shape with ⟨hv,h0⟩ | ⟨g,cap,hv,_,hg,hk,hc,hcell⟩
 ·exact⟨none,0,by rw[hv,h0],zO,Nat.zero_le _,fun h=>zO⟩
 ·refine⟨some ⟨g,0,none⟩,cap,hv,hk,hc,fun _=>⟨g,0,rfl,hg,fun j hj=>?_⟩⟩;rw[Nat.zero_add];exact hcell j _ (uD _ _ _ hj)
theorem Tryz.info_tone:(zP.info? 209).map (fun i=>(i.zero,i.size,i.bytes))=some (some (.agg #[vI iJ 0,vI iJ 0]),2,16):=zK
structure CellsV(w:World)(g m:Nat)(C:Nat->Value):Prop where
 lt:g<w.heap.size
 cell:∀j,j<m->w.cell? ⟨g,j,none⟩=some (C j)
 frz:∀j,j<m->w.frozen? ⟨g,j,none⟩=false
def jC(C:Nat->Value)(o n:Nat)(c:Nat->Value):Nat->Value:=fun j=>if o<=j/\j<o+n then c (j-o) else C j
theorem qY(n:Nat)(c:Nat->Value):(aA n c).toList=(List.range n).map c:=rfl
theorem iS{n:Nat}{c:Nat->Value}{j:Nat}{v:Value}(h:(aA n c).toList[j]?=some v):j<n/\v=c j:=by
 rw[qY]at h;by_cases hj:j<n
 ·simp[hj]at h;exact⟨hj,h.symm⟩
 ·rw[List.getElem?_eq_none (by simp;omega)]at h;cases h
theorem dK(n:Nat)(c:Nat->Value):(aA n c).toList.length=n:=by simp[qY]
namespace CellsV
variable {w w':World} {g m:Nat} {C:Nat->Value} {Y:Nat->Prop}
theorem kept(h:CellsV w g m C)(k:Kept Y w w')(hY:Y g):CellsV w' g m C:=
 ⟨Nat.lt_of_lt_of_le h.lt k.size,fun j hj=>(k.cell (a:=⟨g,j,none⟩) hY).trans (h.cell j hj),fun j hj=>(k.frozen (a:=⟨g,j,none⟩) hY).trans (h.frz j hj)⟩
theorem old(h:CellsV w g m C)(k:Old w w'):CellsV w' g m C:=h.kept k h.lt
theorem drew(h:CellsV w g m C):CellsV w.drew g m C:=⟨h.lt,h.cell,h.frz⟩
theorem ext{D:Nat->Value}(h:CellsV w g m C)(e:∀j,j<m->C j=D j):CellsV w g m D:=⟨h.lt,fun j hj=>by rw[<-e j hj];exact h.cell j hj,h.frz⟩
theorem there(h:CellsV w g m C)(o n:Nat)(hn:o+n<=m):w.there g o n:=fun j hj=>⟨by rw[h.cell (o+j) zO];rfl,h.frz (o+j) zO⟩
theorem setCells(h:CellsV w g m C)(o n:Nat)(hn:o+n<=m)(c:Nat->Value):CellsV (w.setCells g o (aA n c).toList) g m (jC C o n c):=by
 refine⟨by rw[eT];exact h.lt,fun k hk=>?_,fun k hk=>by rw[World.frozen?_setCells];exact h.frz k hk⟩;unfold jC;by_cases e:o<=k/\k<o+n
 ·rw[if_pos e];have h1:=World.cell?_setCells_in g (aA n c).toList o w (fun i hi=>by rw[dK]at hi;rw[h.cell (o+i) zO];rfl) (k-o) (by rw[dK];omega);rw[show o+(k-o)=k by omega]at h1;rw[h1];simp[qY]
 ·rw[if_neg e,World.cell?_setCells_out g (aA n c).toList o w ⟨g,k,none⟩ (fun _ _=>by rw[dK];show k<o\/o+n<=k;omega)];exact h.cell k hk
end CellsV
theorem kW{w:World}{g m:Nat}{C:Nat->Value}{t:TypeId}(h:w.heap[g]?=some (.cells (aA m C) t (0,0))):CellsV w g m C:=
 ⟨lt_of_block h,fun j hj=>(cell_of_row _ _ _ _ _ _ h).trans (bI m C j hj),fun j hj=>frozen_of_row _ _ _ _ _ h⟩
def gQ(F:nI)(n:Nat):List Int:=(List.range n).map F
theorem dB(F:nI)(n:Nat):(gQ F n).length=n:=by simp[gQ]
theorem iT(F:nI)(n j:Nat)(h:j<n):(gQ F n).getD j 0=F j:=by simp[gQ,List.getD,h]
theorem tW{F G:nI}{n:Nat}(h:∀j,j<n->F j=G j):gQ F n=gQ G n:=List.map_congr_left fun k hk=>h k (List.mem_range.1 hk)
theorem qN{F:nI}{n:Nat}{p:Int->Prop}(h:∀j,j<n->p (F j)):∀x∈gQ F n,p x:=by
 intro x hx;obtain⟨j,hj,rfl⟩:=List.mem_map.1 hx;exact h j (List.mem_range.1 hj)
theorem LS(p:Option Addr)(n cap:Nat)(xs:List Int)(w:World)(hs:kK w .i64 (.slice p n cap) xs)(hn:n<=1099511627776):
  Calls zP 159 #[.slice p n cap] w fun e w'=>∃v,e=rJ v/\OwnL .i64 2 (fun q=>q<w.heap.size) w' v xs.reverse/\Old w w':=by
 have hC:=zH (XM p n cap xs w hs hn);clear hs;go_enter func159,ntmps159
 go_wp2_with fail
 refine hC.o.mono ?_;rintro e w1 ⟨v,rfl,hv,ho⟩;have hR:=zH (LV _ v xs w1 hv (fun q hq=>Nat.lt_of_lt_of_le hq ho.size));have HO:=zH ho;clear hv ho
 go_wp2_with fail
 refine hR.o.mono ?_;rintro e w2 ⟨rfl,h2,hk⟩;have H2:=zH h2;have HO2:=zH (HO.o.after hk (fun _ h=>h));clear h2 hk;go_wp2;go_ret;exact⟨_,rfl,H2.o,HO2.o⟩
theorem aDK(w:World):Calls zP 68 #[] w fun e w'=>e=rJ (.agg #[])/\Old w w':=by
 go_enter func68,ntmps68;go_wp2;refine bodyPost_ret (results_cell_row rfl _ _ w.heap.size 55 _ (0,0) _ rfl (heap_alloc_new _ _) underlying55 rfl zK) rfl ⟨rfl,Old.alloc _ _⟩
def T8:Array Value:=aA 16 (bM 8)
theorem kT:T8.size=16:=aB _ _
theorem aDg:T8.all (·.oneCell')=true:=nA _ _ fun _ _=>rfl
theorem aGI(k:Nat)(h:k<8):T8[k*2]?=some (vI iJ (aS k))/\T8[k*2+1]?=some (vI iJ (aT k)):=by
 unfold T8;rw[bI _ _ _ zO,bI _ _ _ zO];unfold bM yO;rw[if_pos zO,if_pos zO,if_pos zO,if_neg zO,show k*2/2=k by omega,show (k*2+1)/2=k by omega];exact⟨rfl,rfl⟩
theorem aCq(w:World):Calls zP 66 #[.agg T8] w fun e w'=>e=rJ (.agg T8)/\Old w w':=by
 have hF:Array.foldl (fun(cs:Array Value) (x:Value × Nat)=>cs.setIfInBounds x.snd x.fst) #[vI iJ 0,vI iJ 0,vI iJ 0,vI iJ 0,vI iJ 0,vI iJ 0,vI iJ 0,vI iJ 0,vI iJ 0,vI iJ 0,vI iJ 0,vI iJ 0,vI iJ 0,vI iJ 0,vI iJ 0,vI iJ 0] T8.zipIdx 0 16=T8:=zK;have h1:=zH aDg;have hs:=kT;have HB:=heap_alloc_new w (.cells T8 51);have HZ:Hid ((zP.info? 51).map (·.size)=some 16):=zH zK;have HZ2:Hid ((zP.info? 53).map (·.size)=some 16):=zH zK;have HB:=zH HB;generalize T8=R at *;go_enter func66,ntmps66
 go_wp2_with (first
  | (with_reducible refine wpList_load_row rfl 51 _ rfl w.heap.size rfl 51 R (0,0) _ (heap_alloc2_old w _ _) underlying51 rfl (by rw[hs];exact HZ.o) ?_)
  | (with_reducible refine wpList_store_row rfl 53 _ _ rfl (w.heap.size+1) R rfl rfl 53 _ (heap_alloc2_new w _ _) (by rw[hs];exact HZ2.o) (by rw[hs];kernel_rfl) h1.o ?_))
 refine bodyPost_ret (results_cell_row rfl _ _ (w.heap.size+1) 53 R (0,0) _ rfl (setRow_heap _ _ _ _ _ _ (heap_alloc2_new w _ _)) underlying53 rfl (by rw[hs];exact HZ2.o)) rfl ⟨rfl,?_⟩;exact((Old.alloc w _).alloc' _).after (X:=fun k=>k<w.heap.size) ⟨rfl,rfl,zS,fun k hk=>setRow_other _ _ _ _ zO⟩ fun _ h=>h
theorem AH(w:World):Calls zP 32 #[] w fun e w'=>e=rJ (.agg T8)/\Old w w':=by
 have hF:Array.foldl (fun(cs:Array Value) (x:Value × Nat)=>cs.setIfInBounds x.snd x.fst) #[vI iJ 0,vI iJ 0,vI iJ 0,vI iJ 0,vI iJ 0,vI iJ 0,vI iJ 0,vI iJ 0,vI iJ 0,vI iJ 0,vI iJ 0,vI iJ 0,vI iJ 0,vI iJ 0,vI iJ 0,vI iJ 0] T8.zipIdx 0 16=T8:=zK;have h1:=zH aDg;have hs:=kT;have hT:=zH (fun w=>vV w);have hL:=zH (fun w=>aCq w);have hN:=zH (fun w=>aDK w);rw[show aA 16 (bM 8)=T8 from rfl]at hT;have HZ:Hid ((zP.info? 57).map (·.size)=some 16):=zH zK;generalize T8=R at *;go_enter func32,ntmps32
 go_wp2_with fail
 refine(hT.o _).mono ?_;rintro e w1 ⟨rfl,ho1⟩
 go_wp2_with fail
 refine(hL.o _).mono ?_;rintro e w2 ⟨rfl,ho2⟩
 go_wp2_with fail
 refine(hN.o _).mono ?_;rintro e w3 ⟨rfl,ho3⟩;have HO:=zH ((ho1.trans ho2).trans ho3);clear ho1 ho2 ho3;obtain⟨z,hz⟩:∃z:Array Value,z=#[vI iJ 0,vI iJ 0,vI iJ 0,vI iJ 0,vI iJ 0,vI iJ 0,vI iJ 0,vI iJ 0,vI iJ 0,vI iJ 0,vI iJ 0,vI iJ 0,vI iJ 0,vI iJ 0,vI iJ 0,vI iJ 0]:=⟨_,rfl⟩
 have hzs:z.size=16:=by rw[hz];rfl
 rw[<-hz]at HO;have hb:Hid (w3.heap[w.heap.size]?=some (.cells z 57 (0,0))):=(HO.o.block _ zS).trans (heap_alloc_new _ _);have HZZ:=zH hz;clear hz
 go_wp2_with (with_reducible refine wpList_store_row rfl 57 _ _ rfl w.heap.size R rfl rfl 57 _ hb.o (by rw[hs];exact HZ.o) (by rw[hs];exact hzs) h1.o ?_)
 refine bodyPost_ret (results_cell_row rfl _ _ w.heap.size 57 R (0,0) _ rfl (setRow_heap _ _ _ _ _ _ hb.o) underlying57 rfl (by rw[hs];exact HZ.o)) rfl ⟨rfl,?_⟩;exact((Old.alloc w _).trans HO.o).after (X:=fun k=>k<w.heap.size) ⟨rfl,rfl,zS,fun k hk=>setRow_other _ _ _ _ zO⟩ fun _ h=>h
theorem ID(p q:Option Addr)(c d:Nat)(w:World):
  Calls zP 160 #[.agg T8,.slice p 8 c,.slice q 8 d] w fun e w'=>e=rJ (vI iJ 8)/\Old w w':=by
 generalize T8=R at *;go_enter func160,ntmps160;go_wp2;go_ret;exact⟨rfl,Old.alloc _ _⟩
theorem aEf(w:World)(bx:Nat)(c:Array Value)(h:w.heap[bx]?=some (.cells c 57 (0,0))):(partAt ⟨bx,0,none⟩ 16 128).run zP w=.ok ⟨bx,16,some 128⟩ w:=by
 have h1:zP.cellsOf 57=16:=zK;have h2:zP.bytesOf 57=136:=zK;have h3:byteOfCell zP zP.depth 57 0=some 0:=zK;have hs:w.shape? bx=some (57,c.size):=by unfold World.shape?;rw[h]
 simp[partAt,byteOf,noView,viewAt,hs,h1,h2,h3]
theorem Tryz.block_size:(zP.info? 43).map (·.size)=some 16:=zK
theorem Tryz.block_len:zP.arrayLen 43=16:=zK
theorem Tryz.block_elem:∀w,(sizeOf (zP.elem 43)).run zP w=.ok 1 w:=fun w=>zK
theorem Tryz.block_under:zP.underlying 43=some (.array (zP.arrayLen 43) (zP.elem 43)):=zK
theorem Tryz.ints_elem:∀w,(sizeOf (zP.elem 169)).run zP w=.ok 1 w:=fun w=>zK
theorem Tryz.ints_under:zP.underlying 169=some (.slice (zP.elem 169)):=zK
theorem Tryz.int64_cells:(zP.info? 2).map (·.size)=some 1:=zK
theorem Tryz.info_block:(zP.info? 43).map (fun i=>(i.zero,i.size,i.bytes))=some (some (.agg #[vI iJ 0,vI iJ 0,vI iJ 0,vI iJ 0,vI iJ 0,vI iJ 0,vI iJ 0,vI iJ 0,vI iJ 0,vI iJ 0,vI iJ 0,vI iJ 0,vI iJ 0,vI iJ 0,vI iJ 0,vI iJ 0]),16,128):=zK
theorem aHj(n:Nat):madeCells (Value.agg #[vI iJ 0,vI iJ 0,vI iJ 0,vI iJ 0,vI iJ 0,vI iJ 0,vI iJ 0,vI iJ 0,vI iJ 0,vI iJ 0,vI iJ 0,vI iJ 0,vI iJ 0,vI iJ 0,vI iJ 0,vI iJ 0]:Value).cells n=aA n (blk fun _=>0):=
 qX n _ zD (by
  intro j hj;have:j<16:=hj;rcases(by omega:j=0\/j=1\/j=2\/j=3\/j=4\/j=5\/j=6\/j=7\/j=8\/j=9\/j=10\/j=11\/j=12\/j=13\/j=14\/j=15) with rfl | rfl | rfl | rfl | rfl | rfl | rfl | rfl | rfl | rfl | rfl | rfl | rfl | rfl | rfl | rfl <;> rfl)
theorem OL(n:Nat)(hn:n<=1099511627776)(w:World):(Instr.makeSlice 166 (vI iJ n) (vI iJ n)).run zP w=.ok (.slice (some ⟨w.heap.size,0,none⟩) n n) (w.alloc (.cells (aA (n*16) (blk fun _=>0)) 43)):=by
 obtain⟨i,hi,hz0,hz1,hz2⟩:=info_parts Tryz.info_block;rw[run_make w _ _ i _ underlying166 hi hz0 .i64 .i64 n n zO zO (by rw[hz2];omega) zO,hz1,Int.toNat_natCast,aHj (n*16)]
theorem aGH(n:Nat):madeCells (Value.int .i64 0:Value).cells n=aA n (blk fun _=>0):=
 qX n _ zD (fun j hj=>by
  have h1:j<1:=hj;have h2:j=0:=zO;rw[h2];rfl)
theorem Tryz.info_int64:(zP.info? 2).map (fun i=>(i.zero,i.size,i.bytes))=some (some (vI iJ 0),1,8):=zK
theorem aAs(n:Nat)(hn:n<=1099511627776)(w:World):(Instr.makeSlice 169 (vI iJ n) (vI iJ n)).run zP w=.ok (.slice (some ⟨w.heap.size,0,none⟩) n n) (w.alloc (.cells (aA n (blk fun _=>0)) 2)):=by
 obtain⟨i,hi,hz0,hz1,hz2⟩:=info_parts Tryz.info_int64;rw[run_make w _ _ i _ underlying169 hi hz0 .i64 .i64 n n zO zO (by rw[hz2];omega) zO,hz1,Int.toNat_natCast,Nat.mul_one,aGH n]
def toK(k:Nat)(F:nI):nI:=fun j=>if j<k*16 then F j else 0
def cW(n:Nat):Nat:=(n+15)/16
theorem lN(n:Nat):lR n=(cW n:Nat):=nY n
structure aHa(w:World)(N:Nat)(F:nI)(k:Nat)(wr:World):Prop where
 at_:CellsAt wr w.heap.size (N*16) (toK k F)
 old:Old w wr
theorem DM(p:Option Addr)(n cap:Nat)(xs:List Int)(w:World)(hs:kK w .i64 (.slice p n cap) xs)(hn:n<=1099511627776):
  Calls zP 181 #[.slice p n cap] w fun e w'=>e=rJ (.slice (some ⟨w.heap.size,0,none⟩) (cW n) (cW n))/\CellsAt w' w.heap.size (cW n*16) (fun j=>xs.getD j 0)/\Old w w':=by
 obtain⟨hl,hc⟩:=hs.cellAt;have HC:=zH hc;have HL:=zH hl;have hcount:=iO n w zO zO;rw[lN]at hcount;obtain⟨N,hN⟩:=zG (cW n);rw[<-hN]at hcount |-;have HN:Hid (N=(n+15)/16):=hN;have hN2:N<=1099511627776:=by have:=HN.o;omega
 have HCt:=zH hcount;have hM:=OL N hN2 w;have H0:Hid (aHa w N (fun j=>xs.getD j 0) 0 (w.alloc (.cells (aA (N*16) (blk fun _=>0)) 43))):=⟨(fG w _ _ _).ext fun j _=>by unfold toK;rw[if_neg zO],Old.alloc _ _⟩
 clear hs hl hc hcount hN;go_enter func181,ntmps181
 go_wp2_with fail
 refine HCt.o.mono ?_;rintro e w1 ⟨rfl,rfl⟩
 go_wp2_with fail
 go_loopw [11] (fun i wr=>∃k:Nat,k<=N/\i=vI iJ k/\Hid (aHa w N (fun j=>xs.getD j 0) k wr)) (fun i _=>N-(intOf i).toNat)
 case atStart=>exact⟨0,zO,rfl,H0⟩
 case round=>
  obtain⟨k,hk,rfl,HR⟩:=hrel;clear H0 HCt hM;by_cases hlt:k<N
  ·have hkn:k*16<n:=by have:=HN.o;omega
   obtain⟨b,off,rfl,hb,hcap,hcm,hc⟩:=HC.o zO;have hcs:=fun j hj=>(HR.o.old.cell (a:=⟨b,off+j,none⟩) hb).trans (hc j hj);obtain⟨q,hq⟩:=zG (k*16);obtain⟨m,hm⟩:=zG (Nat.min (n-q) 16);have hm2:m<=16/\m<=n-q/\(m=16\/m=n-q):=by rw[hm];simp only[Nat.min_def];split <;> omega
   have hS1:=fun w=>eM (P:=zP) (t:=43) 16 Tryz.block_under Tryz.block_len Tryz.block_elem zO wr.heap.size 0 w;have HSrc:Hid (∀j,j<m->wr.drew.cell? ⟨b,off+q+j,none⟩=some (vI iJ (xs.getD (k*16+j) 0))):=fun j hj=>by
    rw[Nat.add_assoc,hq];exact hcs (k*16+j) zO
   have HT:Hid (wr.drew.there w.heap.size (k*16) m):=HR.o.at_.drew.there (k*16) m zO;have HNx:Hid (aHa w N (fun j=>xs.getD j 0) (k+1) (wr.drew.setCells w.heap.size (k*16) (eH m fun j=>xs.getD (k*16+j) 0))):=by
    refine⟨(HR.o.at_.drew.setCells (k*16) m zO _).ext fun j hj=>?_,HR.o.old.drew.after (Kept.setCells (X:=fun q=>q<w.heap.size) _ (fun e=>zO) _ _) fun _ h=>h⟩;unfold aV toK;dsimp only;by_cases c:k*16<=j/\j<k*16+m
    ·rw[if_pos c,if_pos zO,show k*16+(j-k*16)=j by omega]
    ·rw[if_neg c];by_cases c2:j<k*16
     ·rw[if_pos c2,if_pos zO]
     ·rw[if_neg c2];by_cases c3:j<(k+1)*16
      ·rw[if_pos c3,List.getD_eq_getElem?_getD,List.getElem?_eq_none (by rw[HL.o];omega)];rfl
      ·rw[if_neg c3]
   have hS2:=fun w=>tA (P:=zP) (t:=169) Tryz.ints_under Tryz.ints_elem b off n cap q zO zO (q:Int) rfl w;have t1:IntKind.i64.wrap ((k:Int)*16)=q:=by rw[IntWalk.i64_in _ zO];omega
   have t2:wrap64 ((k:Int)*16)=q:=by rw[IntWalk.wrap64_in _ zO];omega
   have hqn:q<n:=zO;have hS3:=fun w=>eM (P:=zP) (t:=43) 16 Tryz.block_under Tryz.block_len Tryz.block_elem zO w.heap.size (k*16) w;have HM:=zH hm;clear hm hcs hc HC HL HN HR hq hkn hm2
   go_wp2_with fail
   refine wp_region_still_tail 8 zK zK ?_;simp only[List.take_succ_cons,List.take_zero,List.drop_succ_cons,List.drop_zero]
   iterate 8 (with_reducible refine wpStill_step (fun K hK=>?_);go_simp;with_reducible refine hK _ ?_;clear hK K)
   with_reducible refine wpStill_nil ?_
   change wpList _ _ _ _ _ wr.drew;refine oI rfl _ _ 169 169 rfl 2 underlying169 Tryz.int64_cells m (fun j=>xs.getD (k*16+j) 0) w.heap.size (k*16) 16 16 b (off+q) (n-q) (cap-q) rfl rfl HM.o HSrc.o HT.o ?_
   go_wp2_with fail
   go_roundw
   case rel=>exact⟨k+1,zO,by go_num,HNx⟩
   case measure=>exact zM
  ·obtain rfl:k=N:=zO;have HE:Hid (CellsAt wr w.heap.size (k*16) (fun j=>xs.getD j 0)/\Old w wr):=⟨HR.o.at_.ext fun j hj=>by unfold toK;rw[if_pos hj],HR.o.old⟩
   clear HR HC HL HN
   go_wp2_with fail
   go_ret;exact⟨rfl,HE.o⟩
structure SamR(w:World)(L:Nat)(F:nI)(k:Nat)(wr:World):Prop where
 at_:CellsAt wr w.heap.size L (toK k F)
 old:Old w wr
theorem EO(xs:List Int):∀a c:Int,xs.foldl (fun p v=>max p (eB v)) a<=c↔a<=c/\∀x∈xs,eB x<=c:=by
 induction xs with
 | nil=>intro a c;simp
 | cons x r ih=>
  intro a c;rw[List.foldl_cons,ih];simp only[List.mem_cons,forall_eq_or_imp];constructor
  ·rintro ⟨h1,h2⟩;exact⟨zO,zO,h2⟩
  ·rintro ⟨h1,h2,h3⟩;exact⟨zO,h3⟩
theorem mJ(xs:List Int)(c:Int):bF xs<=c↔0<=c/\∀x∈xs,eB x<=c:=EO xs 0 c
theorem lO{f:nI}{a n:Nat}{x:Int} : x∈part f a n↔∃j,j<n/\f (a+j)=x:=by simp[part]
def yY(f:nI)(i:Nat):Prop:=i<16/\64<=eB (f i)/\∀k,k<16->k/4=i/4->k≠i->eB (f k)<=eB (f i)/8
instance (f:nI) (i:Nat):Decidable (yY f i):=by unfold yY;infer_instance
def isI(f:nI)(i:Int):Prop:=0<=i/\yY f i.toNat
instance (f:nI) (i:Int):Decidable (isI f i):=by unfold isI;infer_instance
theorem XC(f:nI)(k:Nat):decide (isI f k)=decide (yY f k):=by
 apply decide_eq_decide.2;unfold isI;rw[Int.toNat_natCast];exact⟨fun h=>h.2,fun h=>⟨zO,h⟩⟩
def IU(f:nI)(i:Nat):nI:=fun k=>if k=i then 0 else f k
theorem aDm(f:nI)(i:Nat)(hi:i<16)(h64:64<=eB (f i)):yY f i↔bF (part (IU f i) (i/4*4) 4)<=eB (f i)/8:=by
 rw[mJ];have e0:eB 0=0:=zD;constructor
 ·rintro ⟨_,_,h⟩;refine⟨zO,fun x hx=>?_⟩;obtain⟨j,hj,rfl⟩:=lO.1 hx;unfold IU;by_cases e:i/4*4+j=i
  ·rw[if_pos e,e0];omega
  ·rw[if_neg e];exact h _ zO zO e
 ·rintro ⟨_,h⟩;refine⟨hi,h64,fun k hk hb hne=>?_⟩;have:=h (f k) (lO.2 ⟨k-i/4*4,zO,by unfold IU;rw[show i/4*4+(k-i/4*4)=k by omega,if_neg hne]⟩);exact this
theorem EW{f:nI}(h:aD f)(i:Nat):aD (IU f i):=fun k=>by
 unfold IU;split
 ·omega
 ·exact h k
theorem wN(i:Int)(w:World):
  Calls zP 260 #[vI iJ i] w fun e w'=>e=rJ (.bool (decide (0<=i/\i<16)))/\w=w':=by
 by_cases h1:0<=i
 ·by_cases h2:i<16
  ·have e:decide (0<=i/\i<16)=true:=decide_eq_true ⟨h1,h2⟩;rw[e];clear e;go_enter func260,ntmps260;go_wp2;go_ret;exact⟨rfl,rfl⟩
  ·have e:decide (0<=i/\i<16)=false:=decide_eq_false fun h=>h2 h.2;rw[e];have h2':16<=i:=zO;clear e h2;go_enter func260,ntmps260;go_wp2;go_ret;refine⟨?_,rfl⟩;show Ending.returned (.bool (decide (i<16)))=_;rw[decide_eq_false zO]
 ·have e:decide (0<=i/\i<16)=false:=decide_eq_false fun h=>h1 h.1;rw[e];have h1':i<0:=zO;clear e h1;go_enter func260,ntmps260;go_wp2;go_ret;exact⟨rfl,rfl⟩
theorem sE(b k:Nat)(hk:k<4)(w:World):(Instr.sliceAt 43 (.pointer (some ⟨b,0,none⟩)) (some (vI iJ ((k:Int)*4))) (some (vI iJ ((k:Int)*4+4))) none).run zP w=.ok (.slice (some ⟨b,k*4,none⟩) 4 (16-k*4)) w:=by
 have hl:zP.arrayLen 43=16:=zK;have hz:(sizeOf (zP.elem 43)).run zP w=.ok 1 w:=zK;rw[run_sliceAt_array_lh w 43 _ zK .i64 .i64 _ _ zO zO (by rw[hl];omega),hz,hl];simp only[Result.andThen_ok];congr 1;unfold slicedAt;rw[if_neg zO];simp only[Addr.add];have e1:(((k:Int)*4)).toNat=k*4:=zO;have e2:((k:Int)*4+4).toNat=k*4+4:=zO;rw[e1,e2,show k*4+4-k*4=4 by omega,show k*4*1=k*4 by omega,Nat.zero_add];by_cases hk0:k*4=0
 ·rw[if_pos hk0,hk0]
 ·rw[if_neg hk0]
theorem aGN(f:nI)(hf:aD f)(i:Int)(w:World)(h1:-9223372036854775808<=i)(h2:i<=9223372036854775807):
  Calls zP 257 #[.agg (aA 16 (blk f)),vI iJ i] w fun e w'=>e=rJ (.bool (decide (isI f i)))/\Old w w':=by
 have HP:=zH (fun w=>wN i w);by_cases hp:0<=i/\i<16
 ·obtain⟨k,rfl⟩:∃k:Nat,i=k:=⟨i.toNat,zO⟩
  have hk:k<16:=zO;have k0:(0:Int)<=k:=zO;have k1:(k:Int)<16:=zO;have hP:=HP.o;rw[decide_eq_true hp]at hP;have HP':=zH hP;clear hP hp HP h1 h2;obtain⟨W0,hW0⟩:=zG ((w.alloc (.cells (aA 16 (blk f)) 43)));have ha0:W0.heap[w.heap.size]?=some (.cells (aA 16 (blk f)) 43 (0,0)):=by rw[hW0];exact heap_alloc_new w _
  have ho0:Old w W0:=by rw[hW0];exact Old.alloc w _
  have hcell:W0.cell? ⟨w.heap.size,k,none⟩=some (vI iJ (f k)):=(cell_of_row _ _ _ _ _ _ ha0).trans (dR 16 f k hk);have hfrz:W0.frozen? ⟨w.heap.size,k,none⟩=false:=frozen_of_row _ _ _ _ _ ha0;have ha1:(W0.setCell ⟨w.heap.size,k,none⟩ (vI iJ 0)).heap[w.heap.size]?=some (.cells (aA 16 (blk (IU f k))) 43 (0,0)):=by
   rw[show blk (IU f k)=nR (blk f) k (vI iJ 0) from(iA f k 0).symm,<-dS _ _ _ _ hk];exact heap_setCell_same _ _ _ _ _ _ ha0
  have ho1:Old w (W0.setCell ⟨w.heap.size,k,none⟩ (vI iJ 0)):=ho0.after (Kept.setCell (X:=fun q=>q<w.heap.size) _ (a:=⟨w.heap.size,k,none⟩) (by show ¬w.heap.size<w.heap.size;omega) _) fun _ h=>h;have HO:=zH ho1;have hm:k/4<4:=zO;have HPk:=zH (tD _ _ _ _ _ (tM ha1 (k/4*4) 4 (16-k/4*4) zO zO zO) (jS (EW hf k) (k/4*4) 4) zO);have HPb:=zH (mP _ (jS (EW hf k) (k/4*4) 4));have HB:=zH (fun w=>kZ k (k/4) w hk rfl);have HA:=zH (fun w=>xU (f k) w (hf k).1 (hf k).2);have Ab:=KO _ (hf k).1 (hf k).2;have HT:Hid (64<=eB (f k)->(yY f k↔bF (part (IU f k) (k/4*4) 4)<=eB (f k)/8)):=fun h=>aDm f k hk h;have HN:Hid (eB (f k)<64->¬yY f k):=fun h h'=>by have:=h'.2.1;omega
  have hS:=fun w':World=>sE w.heap.size (k/4) hm w';rw[XC];clear ha0 ho0 ha1 ho1 hf;generalize k/4=m at *;generalize bF (part (IU f k) (m*4) 4)=p at *;have hpb1:=HPb.o.1;have hpb2:=HPb.o.2;clear HPb;obtain⟨D,hD⟩:=zF (decide (yY f k));have HD:=zH hD;rw[hD];clear hD;generalize f k=x at *;generalize eB x=y at *;have m1:(0:Int)<=m:=zO;have m2:(m:Int)<4:=zO;go_enter func257,ntmps257
  go_wp2_with fail
  rw[<-hW0];clear hW0;refine(HP'.o _).mono ?_;rintro e w1 ⟨rfl,rfl⟩
  go_wp2_with fail
  refine(HA.o _).mono ?_;rintro e w1 ⟨rfl,rfl⟩
  go_wp2_with fail
  refine(HB.o _).mono ?_;rintro e w1 ⟨rfl,rfl⟩;by_cases c:y<64
  ·have hd:D=false:=by rw[<-HD.o];exact decide_eq_false (HN.o c)
   have HDD:=zH hd;clear HPk hS hd HT HN HD
   go_wp2_with fail
   go_ret;exact⟨by rw[HDD.o];rfl,HO.o⟩
  ·have c':64<=y:=zO;have q1:wrap64 (y.tdiv 8)=y/8:=by rw[Int.tdiv_eq_ediv_of_nonneg zO];exact IntWalk.wrap64_in _ zO
   have hd:D=decide (p<=y/8):=by rw[<-HD.o];exact decide_eq_decide.2 (HT.o c')
   have HDD:=zH hd;have b1:0<=y/8:=zO;have b2:y/8<=9223372036854775807:=zO;clear hd HT HN HD c
   go_wp2_with fail
   refine HPk.o.mono ?_;rintro e w1 ⟨rfl,rfl⟩
   go_wp2_with fail
   go_ret;exact⟨by rw[HDD.o];rfl,HO.o⟩
 ·have hP:=HP.o;rw[decide_eq_false hp]at hP;have HP':=zH hP;have e:decide (isI f i)=false:=decide_eq_false fun h=>hp ⟨h.1,by have:=h.2.1;omega⟩;rw[e];clear hP hp HP e;go_enter func257,ntmps257
  go_wp2_with fail
  refine(HP'.o _).mono ?_;rintro e w1 ⟨rfl,rfl⟩
  go_wp2_with fail
  go_ret;exact⟨rfl,Old.alloc _ _⟩
abbrev Way:=Int->Int->Int->Int->Int
def bR(wa wb:Way)(k:Nat)(F:nI):nI:=fun q=>
 if 8<=q%16 then(if q/16+1<k then wa (F q) (F (q/16*16+16+(15-q%16))) (aS (15-q%16)) (aT (15-q%16)) else F q)
 else(if 1<=q/16/\q/16<k then wb (F (q/16*16-16+(15-q%16))) (F q) (aS (q%16)) (aT (q%16)) else F q)
theorem gY(q:Nat):∃b r,q=b*16+r/\r<16/\q/16=b/\q%16=r:=⟨q/16,q%16,zO,zO,rfl,rfl⟩
theorem aGO(b r:Nat)(h:r<16):(b*16+r)/16=b/\(b*16+r)%16=r:=⟨zO,zO⟩
theorem dN(wa wb:Way)(k:Nat)(F:nI)(b r:Nat)(h:r<16)(h8:8<=r):bR wa wb k F (b*16+r)=if b+1<k then wa (F (b*16+r)) (F (b*16+16+(15-r))) (aS (15-r)) (aT (15-r)) else F (b*16+r):=by
 obtain⟨e1,e2⟩:=aGO b r h;unfold bR;rw[e1,e2,if_pos h8]
theorem dO(wa wb:Way)(k:Nat)(F:nI)(b r:Nat)(h8:r<8):bR wa wb k F (b*16+r)=if 1<=b/\b<k then wb (F (b*16-16+(15-r))) (F (b*16+r)) (aS r) (aT r) else F (b*16+r):=by
 obtain⟨e1,e2⟩:=aGO b r zO;unfold bR;rw[e1,e2,if_neg zO]
theorem nS(wa wb:Way)(F:nI):bR wa wb 1 F=F:=by
 funext q;obtain⟨b,r,rfl,hr,_,_⟩:=gY q;by_cases h:8<=r
 ·rw[dN _ _ _ _ _ _ hr h,if_neg zO]
 ·rw[dO _ _ _ _ _ _ zO,if_neg zO]
theorem OK(wa wb:Way)(F:nI)(j:Nat):
  aV (aV (bR wa wb (j+1) F) ((j+1)*16) 8 (fun i=>wb (bR wa wb (j+1) F (j*16+8+(7-i))) (bR wa wb (j+1) F ((j+1)*16+i)) (aS i) (aT i)))
   (j*16+8) 8 (fun i=>wa (bR wa wb (j+1) F (j*16+8+(7-(7-i)))) (bR wa wb (j+1) F ((j+1)*16+(7-i))) (aS (7-i)) (aT (7-i)))=bR wa wb (j+1+1) F:=by
 have hi:∀i,i<8->bR wa wb (j+1) F (j*16+8+i)=F (j*16+(8+i)):=fun i h=>by
  rw[Nat.add_assoc,dN _ _ _ _ _ _ zO zO,if_neg zO]
 have lo:∀i,i<8->bR wa wb (j+1) F ((j+1)*16+i)=F ((j+1)*16+i):=fun i h=>by
  rw[dO _ _ _ _ _ _ h,if_neg zO]
 funext q;obtain⟨b,r,rfl,hr,_,_⟩:=gY q;unfold aV;dsimp only;by_cases h8:8<=r
 ·rw[dN wa wb (j+1+1) F b r hr h8];by_cases hb:b=j
  ·subst hb;rw[if_pos ⟨zO,zO⟩,if_pos zO,show b*16+r-(b*16+8)=r-8 by omega,show 7-(7-(r-8))=r-8 by omega,hi (r-8) zO,lo (7-(r-8)) zO];rw[show 8+(r-8)=r by omega,show 7-(r-8)=15-r by omega,show (b+1)*16+(15-r)=b*16+16+(15-r) by omega]
  ·rw[if_neg zO,if_neg zO,dN wa wb (j+1) F b r hr h8];by_cases c:b+1<j+1
   ·rw[if_pos c,if_pos zO]
   ·rw[if_neg c,if_neg zO]
 ·rw[if_neg zO,dO wa wb (j+1+1) F b r zO];by_cases hb:b=j+1
  ·subst hb;rw[if_pos ⟨zO,zO⟩,if_pos ⟨zO,zO⟩,show (j+1)*16+r-(j+1)*16=r by omega,hi (7-r) zO,lo r zO];rw[show j*16+(8+(7-r))=(j+1)*16-16+(15-r) by omega]
  ·rw[if_neg zO,dO wa wb (j+1) F b r zO];by_cases c:1<=b/\b<j+1
   ·rw[if_pos c,if_pos ⟨c.1,zO⟩]
   ·rw[if_neg c,if_neg zO]
theorem aAf{wa wb:Way}{k:Nat}{F:nI}(ha:∀a b p u,-9223372036854775808<=wa a b p u/\wa a b p u<=9223372036854775807)(hb:∀a b p u,-9223372036854775808<=wb a b p u/\wb a b p u<=9223372036854775807)(h:aD F):aD (bR wa wb k F):=by
 intro q;unfold bR;split
 ·split
  ·exact ha _ _ _ _
  ·exact h q
 ·split
  ·exact hb _ _ _ _
  ·exact h q
theorem AK{wa wb:Way}{n:Nat}{F G:nI}(h:∀q,q<n*16->F q=G q):∀q,q<n*16->bR wa wb n F q=bR wa wb n G q:=by
 intro q hq;obtain⟨b,r,rfl,hr,_,_⟩:=gY q;by_cases h8:8<=r
 ·rw[dN _ _ _ _ _ _ hr h8,dN _ _ _ _ _ _ hr h8];split
  ·rw[h _ hq,h _ zO]
  ·exact h _ hq
 ·rw[dO _ _ _ _ _ _ zO,dO _ _ _ _ _ _ zO];split
  ·rw[h _ hq,h _ zO]
  ·exact h _ hq
theorem YX{n:Nat}{F:nI}(h:aD F):bR cV bW n (bR bB bA n F)=F:=by
 funext q;obtain⟨b,r,rfl,hr,_,_⟩:=gY q;by_cases h8:8<=r
 ·rw[dN _ _ _ _ _ _ hr h8];split
  ·rename_i hb
   rw[show b*16+16+(15-r)=(b+1)*16+(15-r) by omega,dN _ _ _ _ _ _ hr h8,if_pos hb,dO _ _ _ _ _ _ zO,if_pos ⟨zO,zO⟩];rw[show (b+1)*16-16+(15-(15-r))=b*16+r by omega,show b*16+16+(15-r)=(b+1)*16+(15-r) by omega];exact(pY _ _ _ _ (h _).1 (h _).2 (h _).1 (h _).2).1
  ·rename_i hb
   rw[dN _ _ _ _ _ _ hr h8,if_neg hb]
 ·rw[dO _ _ _ _ _ _ zO];split
  ·rename_i hb
   obtain⟨c,rfl⟩:∃c,b=c+1:=⟨b-1,zO⟩
   rw[show (c+1)*16-16+(15-r)=c*16+(15-r) by omega,dN _ _ _ _ _ _ zO zO,if_pos zO,dO _ _ _ _ _ _ zO,if_pos hb];rw[show 15-(15-r)=r by omega,show c*16+16+r=(c+1)*16+r by omega,show (c+1)*16-16+(15-r)=c*16+(15-r) by omega];exact(pY _ _ _ _ (h _).1 (h _).2 (h _).1 (h _).2).2
  ·rename_i hb
   rw[dO _ _ _ _ _ _ zO,if_neg hb]
def aN(F:nI)(b:Nat):nI:=fun k=>F (b*16+k)
def aDM(φ:Nat->(nI)->Nat->Int)(F:nI):nI:=fun q=>φ (q/16) (aN F (q/16)) (q%16)
def dL(n:Nat)(φ:Nat->(nI)->Nat->Int)(F:nI):nI:=fun q=>if q<n*16 then aDM φ F q else F q
theorem gZ(φ:Nat->(nI)->Nat->Int)(F:nI)(b r:Nat)(h:r<16):aDM φ F (b*16+r)=φ b (aN F b) r:=by
 obtain⟨e1,e2⟩:=aGO b r h;unfold aDM;rw[e1,e2]
theorem BE(φ:Nat->(nI)->Nat->Int)(F:nI):dL 0 φ F=F:=by funext q;unfold dL;rw[if_neg zO]
theorem AJ(φ:Nat->(nI)->Nat->Int)(F:nI)(n:Nat):aV (dL n φ F) (n*16) 16 (φ n (aN F n))=dL (n+1) φ F:=by
 funext q;unfold aV dL;by_cases h:n*16<=q/\q<n*16+16
 ·rw[if_pos h,if_pos zO];obtain⟨r,rfl⟩:∃r,q=n*16+r:=⟨q-n*16,zO⟩
  rw[gZ _ _ _ _ zO,show n*16+r-n*16=r by omega]
 ·rw[if_neg h];by_cases h2:q<n*16
  ·rw[if_pos h2,if_pos zO]
  ·rw[if_neg h2,if_neg zO]
theorem IJ(φ:Nat->(nI)->Nat->Int)(F:nI)(n k:Nat):dL n φ F (n*16+k)=aN F n k:=by unfold dL aN;rw[if_neg zO]
theorem fE(φ:Nat->(nI)->Nat->Int)(F:nI)(n q:Nat)(h:q<n*16):dL n φ F q=aDM φ F q:=by unfold dL;rw[if_pos h]
theorem aEG{φ:Nat->(nI)->Nat->Int}{F:nI}(h:∀b f,aD f->aD (φ b f))(hF:aD F):aD (aDM φ F):=fun q=>h _ _ (fun k=>hF _) _
theorem CellsAt.sl{w:World}{g m:Nat}{F:nI}(h:CellsAt w g m F)(o n cap:Nat)(hn:o+n<=m)(hc:n<=cap)(hm:cap<=maxLen):kK w .i64 (.slice (some ⟨g,o,none⟩) n cap) (part F o n):=by
 refine⟨_,cap,by rw[fQ],fun _=>⟨g,o,rfl,h.lt,by rw[fQ];exact hc,hm,fun i hi=>?_⟩⟩;rw[fQ]at hi;rw[uF _ _ _ _ hi];exact h.cell (o+i) zO
theorem OwnL.cells{t:TypeId}{X:Nat->Prop}{w:World}{v:Value}{xs:List Int}(h:OwnL .i64 t X w v xs)(h0:0<xs.length):∃g cap,v=.slice (some ⟨g,0,none⟩) xs.length cap/\¬X g/\xs.length<=cap/\cap<=maxLen/\CellsAt w g xs.length (fun j=>xs.getD j 0):=by
 rcases h.shape with ⟨_,h1⟩ | ⟨g,cap,rfl,hX,hg,hn,hc,hcell⟩
 ·omega
 ·refine⟨g,cap,rfl,hX,hn,hc,hg,fun j hj=>hcell j _ (by simp[hj,List.getD]),fun j hj=>h.frozenAt j⟩
def oE(c:Int)(g:nI)(x y:Int):nI:=fun j=>if 0<=x/\x<16/\j=x.toNat then wrap64 (g j+wrap64 (c*y)) else g j
def eX(c:Int)(f T:nI):Nat->Nat->Int
 | 0=>f
 | k+1=>oE c (eX c f T k) (T (2*k)) (T (2*k+1))
theorem aAk(c:Int)(g:nI)(x y:Int)(h:¬(0<=x/\x<16)):oE c g x y=g:=by
 funext j;unfold oE;rw[if_neg fun h'=>h ⟨h'.1,h'.2.1⟩]
theorem CX(c:Int)(g:nI)(m:Nat)(y:Int)(h:m<16):oE c g m y=fun j=>if j=m then wrap64 (g m+wrap64 (c*y)) else g j:=by
 funext j;unfold oE;by_cases e:j=m
 ·subst e;rw[if_pos ⟨zO,zO,zS⟩,if_pos rfl]
 ·rw[if_neg (fun h'=>e (by have:=h'.2.2;simpa using this)),if_neg e]
structure AdSt(tb:TypeId)(z:Array Value)(w:World)(g:nI)(W:World):Prop where
 b:W.heap[w.heap.size]?=some (.cells (aA 16 (blk g)) tb (0,0))
 r:W.heap[w.heap.size+1]?=some (.cells z tb (0,0))
 old:Old w W
namespace AdSt
variable {tb:TypeId} {z:Array Value} {w W W':World} {g:nI}
theorem keep(h:AdSt tb z w g W)(o:Old W W'):AdSt tb z w g W':=⟨(o.block _ (lt_of_block h.b)).trans h.b,(o.block _ (lt_of_block h.r)).trans h.r,h.old.trans o⟩
theorem drew(h:AdSt tb z w g W):AdSt tb z w g W.drew:=⟨h.b,h.r,h.old.drew⟩
theorem set(h:AdSt tb z w g W)(j:Nat)(hj:j<16)(v:Int):AdSt tb z w (fun k=>if k=j then v else g k) (W.setCell ⟨w.heap.size,j,none⟩ (vI iJ v)):=by
 refine⟨?_,(heap_setCell_other _ _ _ _ zS).trans h.r,h.old.after (Kept.setCell (X:=fun k=>k<w.heap.size) _ (a:=⟨w.heap.size,j,none⟩) (by show ¬w.heap.size<w.heap.size;omega) _) fun _ hk=>hk⟩;rw[<-iA,<-dS _ _ _ _ hj];exact heap_setCell_same _ _ _ _ _ _ h.b
theorem cell(h:AdSt tb z w g W)(j:Nat)(hj:j<16):W.cell? ⟨w.heap.size,j,none⟩=some (vI iJ (g j))/\W.frozen? ⟨w.heap.size,j,none⟩=false:=
 ⟨(cell_of_row _ _ _ _ _ _ h.b).trans (dR 16 g j hj),frozen_of_row _ _ _ _ _ h.b⟩
theorem row(h:AdSt tb z w g W)(cs:Array Value):(W.setRow (w.heap.size+1) cs).heap[w.heap.size+1]?=some (.cells cs tb (0,0))/\Old w (W.setRow (w.heap.size+1) cs):=
 ⟨setRow_heap _ _ _ _ _ _ h.r,h.old.after (X:=fun k=>k<w.heap.size) ⟨rfl,rfl,zS,fun k hk=>setRow_other _ _ _ _ zO⟩ fun _ h=>h⟩
end AdSt
theorem YU(f:nI)(p:Option Addr)(n cap:Nat)(T:nI)(c:Int)(w:World)(hs:SlF 2 w p n T)(hn:n<=9223372036854775807):
  Calls zP 247 #[.agg (aA 16 (blk f)),.slice p n cap,vI iJ c] w fun e w'=>e=rJ (.agg (aA 16 (blk (eX c f T n))))/\Old w w':=by
 obtain⟨z,hz⟩:=zG (aA 16 (blk fun _=>0));have Hb16:Hid ((zP.info? 43).map (·.size)=some 16):=zH zK;have HS:=zH hs;have HP:=zH (fun i w=>wN i w);clear hs;go_enter func247,ntmps247
 go_wp2_with fail
 rw[<-gI];have H0:Hid (AdSt 43 (aA 16 (blk fun _=>0)) w f ((w.alloc (.cells (aA 16 (blk f)) 43)).alloc (.cells (aA 16 (blk fun _=>0)) 43))):=⟨heap_alloc2_old w _ _,heap_alloc2_new w _ _,(Old.alloc w _).alloc' _⟩
 clear hz z
 go_loopw [11] (fun i wr=>∃k:Nat,k<=n/\i=vI iJ k/\Hid (AdSt 43 (aA 16 (blk fun _=>0)) w (eX c f T k) wr)) (fun i _=>n-(intOf i).toNat)
 case atStart=>exact⟨0,zO,rfl,H0⟩
 case round=>
  obtain⟨k,hk,rfl,hs⟩:=hrel;clear H0;by_cases hlt:k<n
  ·obtain⟨g,o,rfl,hg,hc⟩:=mV HS.o zO;obtain⟨c1,c2⟩:=hc k hlt;rw[<-hs.o.old.cell (a:=⟨g,o+k*2,none⟩) hg]at c1;rw[<-hs.o.old.cell (a:=⟨g,o+k*2+1,none⟩) hg]at c2;have hst:eX c f T (k+1)=oE c (eX c f T k) (T (2*k)) (T (2*k+1)):=rfl;have HST:=zH hst;clear hc HS hst hg;generalize T (2*k)=x at *;generalize T (2*k+1)=y at *;generalize eX c f T k=G at *;by_cases hx:0<=x/\x<16
   ·obtain⟨m,rfl⟩:∃m:Nat,x=m:=⟨x.toNat,zO⟩
    have hm:m<16:=zO;have m0:(0:Int)<=m:=zO;have m1:(m:Int)<16:=zO;have hP:=fun w=>HP.o (m:Int) w;rw[decide_eq_true hx]at hP;have HPm:=zH hP;clear hP hx HP;obtain⟨W1,hW1⟩:=zG (wr.alloc (.cells #[vI iJ m,vI iJ y] 209));have hs1:AdSt 43 (aA 16 (blk fun _=>0)) w G W1:=by rw[hW1];exact hs.o.keep (Old.alloc _ _)
    have d1:W1.cell? ⟨wr.heap.size,0,none⟩=some (vI iJ m):=by rw[hW1,World.cell?_alloc_at _ _ _ _ rfl];rfl
    have d2:W1.cell? ⟨wr.heap.size,1,none⟩=some (vI iJ y):=by rw[hW1,World.cell?_alloc_at _ _ _ _ rfl];rfl
    obtain⟨d3,d4⟩:=hs1.cell m hm;obtain⟨v,hv⟩:=zF (wrap64 (G m+wrap64 (c*y)));have hn1:AdSt 43 (aA 16 (blk fun _=>0)) w (eX c f T (k+1)) (W1.setCell ⟨w.heap.size,m,none⟩ (vI iJ v)).drew:=by
     rw[HST.o,CX _ _ _ _ hm,hv];exact(hs1.set m hm v).drew
    have HN1:=zH hn1;have hwr:w.heap.size<wr.heap.size:=lt_of_block hs.o.b;clear hs hs1 hn1 HST;generalize G m=u at *
    go_wp2_with fail
    rw[<-hW1];clear hW1;refine(HPm.o _).mono ?_;rintro e w1 ⟨rfl,rfl⟩
    go_wp2_with fail
    go_region
    go_wp2_with fail
    go_roundw
    case rel=>exact⟨k+1,zO,by go_num,HN1⟩
    case measure=>exact zM
   ·have hP:=fun w=>HP.o x w;rw[decide_eq_false hx]at hP;have HPm:=zH hP;have hn1:AdSt 43 (aA 16 (blk fun _=>0)) w (eX c f T (k+1)) (wr.alloc (.cells #[vI iJ x,vI iJ y] 209)):=by
     rw[HST.o,aAk _ _ _ _ hx];exact hs.o.keep (Old.alloc _ _)
    have HN1:=zH hn1;clear hP hx HP hs hn1 HST
    go_wp2_with fail
    refine(HPm.o _).mono ?_;rintro e w1 ⟨rfl,rfl⟩
    go_wp2_with fail
    go_roundw
    case rel=>exact⟨k+1,zO,by go_num,HN1⟩
    case measure=>exact zM
  ·obtain rfl:k=n:=zO;have HB:=zH hs.o.b;have HR:=zH hs.o.r;have Hd:=zH (hs.o.row (aA 16 (blk (eX c f T k))));have H1:Hid ((aA 16 (blk (eX c f T k))).all (·.oneCell')=true):=zH (bN _ _);have hsz:=aB 16 (blk (eX c f T k));have Hz:Hid ((aA 16 (blk fun _=>0)).size=(aA 16 (blk (eX c f T k))).size):=by unfold Hid;rw[aB,aB]
   clear hs HS HP
   go_wp2_with (first | (with_reducible refine wpList_load_row rfl 43 _ rfl w.heap.size rfl 43 (aA 16 (blk (eX c f T k))) (0,0) _ HB.o underlying43 rfl (by rw[aB];exact Hb16.o) ?_) | (with_reducible refine wpList_store_row rfl 43 _ _ rfl (w.heap.size+1) (aA 16 (blk (eX c f T k))) rfl rfl 43 _ HR.o (by rw[hsz];exact Hb16.o) (by rw[hsz];kernel_rfl) H1.o ?_))
   exact bodyPost_ret (results_cell_row rfl _ _ (w.heap.size+1) 43 (aA 16 (blk (eX c f T k))) (0,0) _ rfl Hd.o.1 underlying43 rfl (by rw[hsz];exact Hb16.o)) rfl ⟨rfl,Hd.o.2⟩
theorem aFM(f:nI)(p:Option Addr)(n cap:Nat)(T:nI)(w:World)(hs:SlF 2 w p n T)(hn:n<=9223372036854775807):
  Calls zP 224 #[.agg (aA 16 (blk f)),.slice p n cap] w fun e w'=>e=rJ (.agg (aA 16 (blk (eX (-1) f T n))))/\Old w w':=by
 have Hb16:Hid ((zP.info? 43).map (·.size)=some 16):=zH zK;obtain⟨W0,hW0⟩:=zG (((w.alloc (.cells (aA 16 (blk f)) 43)).alloc (.cells (aA 16 (blk fun _=>0)) 43)));have h0:AdSt 43 (aA 16 (blk fun _=>0)) w f W0:=by rw[hW0];exact⟨heap_alloc2_old w _ _,heap_alloc2_new w _ _,(Old.alloc w _).alloc' _⟩
 have HA:=zH (YU f p n cap T (-1) W0 (hs.old h0.old) hn);have H0:=zH h0;have hB:=h0.b;rw[gI]at hW0;rw[hW0]at hB;have HB:=zH hB;have HW:=zH hW0;clear h0 hs hB hW0;go_enter func224,ntmps224
 go_wp2_with (with_reducible refine wpList_load_row rfl 43 _ rfl w.heap.size rfl 43 (aA 16 (blk f)) (0,0) _ HB.o underlying43 rfl (by rw[aB];exact Hb16.o) ?_)
 rw[<-HW.o];clear HW;refine HA.o.mono ?_;rintro e w1 ⟨rfl,ho⟩;have h1:=H0.o.keep ho;have HR:=zH h1.r;have Hd:=zH (h1.row (aA 16 (blk (eX (-1) f T n))));have H1:Hid ((aA 16 (blk (eX (-1) f T n))).all (·.oneCell')=true):=zH (bN _ _);have hsz:=aB 16 (blk (eX (-1) f T n));clear h1 ho H0 HB HA
 go_wp2_with (with_reducible refine wpList_store_row rfl 43 _ _ rfl (w.heap.size+1) (aA 16 (blk (eX (-1) f T n))) rfl rfl 43 _ HR.o (by rw[hsz];exact Hb16.o) (by rw[hsz];kernel_rfl) H1.o ?_)
 exact bodyPost_ret (results_cell_row rfl _ _ (w.heap.size+1) 43 (aA 16 (blk (eX (-1) f T n))) (0,0) _ rfl Hd.o.1 underlying43 rfl (by rw[hsz];exact Hb16.o)) rfl ⟨rfl,Hd.o.2⟩
structure tC(R:Int->Int->Prop)(F:nI)(i:Nat)(G:nI):Prop where
 rest:∀k,i<=k->G k=F k
 ord:∀a b,a<b->b<i->R (G a) (G b)
 frm:∀k,k<i->∃m,m<i/\G k=F m
 all:∀m,m<i->∃k,k<i/\G k=F m
structure NU(R:Int->Int->Prop)(F:nI)(i j:Nat)(G:nI):Prop where
 le:j<=i
 rest:∀k,i<k->G k=F k
 own:G j=F i
 ord:∀a b,a<b->b<=i->a≠j->b≠j->R (G a) (G b)
 lo:∀b,j<b->b<=i->R (G j) (G b)
 frm:∀k,k<=i->k≠j->∃m,m<i/\G k=F m
 all:∀m,m<i->∃k,k<=i/\k≠j/\G k=F m
def gM(G:nI)(j:Nat):nI:=fun k=>if k=j-1 then G j else if k=j then G (j-1) else G k
theorem TI(G:nI)(j:Nat)(hj:0<j):(fun k=>if k=j then G (j-1) else(fun k=>if k=j-1 then G j else G k) k)=gM G j:=by
 funext k;unfold gM;by_cases h:k=j
 ·subst h;rw[if_pos rfl,if_neg zO,if_pos rfl]
 ·rw[if_neg h];dsimp only;split <;> rfl
theorem tC.start(R:Int->Int->Prop)(F:nI):tC R F 1 F:=
 ⟨fun _ _=>rfl,fun a b h1 h2=>zO,fun k hk=>⟨k,hk,rfl⟩,fun m hm=>⟨m,hm,rfl⟩⟩
theorem tC.enter{R:Int->Int->Prop}{F G:nI}{i:Nat}(h:tC R F i G):NU R F i i G:=
 ⟨Nat.le_refl _,fun k hk=>h.rest k zO,h.rest i (Nat.le_refl _),fun a b h1 h2 h3 h4=>h.ord a b h1 zO,fun b h1 h2=>zO,fun k h1 h2=>h.frm k zO,fun m hm=>by
  obtain⟨k,h1,h2⟩:=h.all m hm;exact⟨k,zO,zO,h2⟩⟩
theorem NU.swap{R:Int->Int->Prop}{F G:nI}{i j:Nat}(h:NU R F i j G)(hj:0<j)(hR:R (G j) (G (j-1))):NU R F i (j-1) (gM G j):=by
 have hle:=h.le;have e1:gM G j (j-1)=G j:=by unfold gM;rw[if_pos rfl]
 have e2:gM G j j=G (j-1):=by unfold gM;rw[if_neg zO,if_pos rfl]
 have e3:∀k,k≠j->k≠j-1->gM G j k=G k:=fun k h1 h2=>by unfold gM;rw[if_neg h2,if_neg h1]
 refine⟨zO,fun k hk=>by rw[e3 k zO zO];exact h.rest k hk,by rw[e1];exact h.own,?_,?_,?_,?_⟩
 ·intro a b h1 h2 h3 h4;by_cases c:a=j
  ·subst c;rw[e2,e3 b zO h4];exact h.ord _ _ zO h2 zO zO
  ·by_cases d:b=j
   ·subst d;rw[e2,e3 a c h3];exact h.ord _ _ zO zO c zO
   ·rw[e3 a c h3,e3 b d h4];exact h.ord _ _ h1 h2 c d
 ·intro b h1 h2;rw[e1];by_cases d:b=j
  ·subst d;rw[e2];exact hR
  ·rw[e3 b d zO];exact h.lo b zO h2
 ·intro k h1 h2;by_cases d:k=j
  ·subst d;rw[e2];exact h.frm _ zO zO
  ·rw[e3 k d h2];exact h.frm k h1 d
 ·intro m hm;obtain⟨k,h1,h2,h3⟩:=h.all m hm;by_cases d:k=j-1
  ·subst d;exact⟨j,zO,zO,by rw[e2];exact h3⟩
  ·exact⟨k,h1,d,by rw[e3 k h2 d];exact h3⟩
theorem NU.done{R:Int->Int->Prop}(tr:∀x y z,R x y->R y z->R x z){F G:nI}{i j:Nat}(h:NU R F i j G)(hR:0<j->R (G (j-1)) (G j)):tC R F (i+1) G:=by
 have hle:=h.le;refine⟨fun k hk=>h.rest k zO,?_,?_,?_⟩
 ·intro a b h1 h2;by_cases c:a=j
  ·subst c;exact h.lo b h1 zO
  ·by_cases d:b=j
   ·subst d;by_cases e:a=b-1
    ·subst e;exact hR zO
    ·exact tr _ _ _ (h.ord a (b-1) zO zO c zO) (hR zO)
   ·exact h.ord a b h1 zO c d
 ·intro k hk;by_cases d:k=j
  ·subst d;exact⟨i,zO,h.own⟩
  ·obtain⟨m,h1,h2⟩:=h.frm k zO d;exact⟨m,zO,h2⟩
 ·intro m hm;by_cases d:m=i
  ·subst d;exact⟨j,zO,h.own⟩
  ·obtain⟨k,h1,_,h2⟩:=h.all m zO;exact⟨k,zO,h2⟩
structure qC(R:Int->Int->Prop)(F:nI)(n:Nat)(G:nI):Prop where
 ord:∀a b,a<b->b<n->R (G a) (G b)
 frm:∀k,k<n->∃m,m<n/\G k=F m
 all:∀m,m<n->∃k,k<n/\G k=F m
theorem tC.srt{R:Int->Int->Prop}{F G:nI}{i n:Nat}(h:tC R F i G)(hi:i=n\/n=0):qC R F n G:=by
 rcases hi with rfl | rfl
 ·exact⟨h.ord,h.frm,h.all⟩
 ·exact⟨fun _ _ _ h=>zO,fun _ h=>zO,fun _ h=>zO⟩
theorem FS:∀(xs ys:List Nat),xs.Pairwise (· < ·)->ys.Pairwise (· < ·)->(∀x,x∈xs↔x∈ys)->xs=ys
 | [],[],_,_,_=>rfl
 | [],y :: ys,_,_,h=>by have:=(h y).2 zS;simp at this
 | x :: xs,[],_,_,h=>by have:=(h x).1 zS;simp at this
 | x :: xs,y :: ys,hx,hy,h=>by
  rw[List.pairwise_cons]at hx hy;have h1:x=y:=by
   rcases List.mem_cons.1 ((h x).1 zS) with e | e
   ·exact e
   ·rcases List.mem_cons.1 ((h y).2 zS) with e' | e'
    ·exact e'.symm
    ·have:=hy.1 x e;have:=hx.1 y e';omega
  subst h1;rw[FS xs ys hx.2 hy.2 fun z=>?_];constructor
  ·intro hz;have h2:=hx.1 z hz;rcases List.mem_cons.1 ((h z).1 (by simp[hz])) with e | e
   ·omega
   ·exact e
  ·intro hz;have h2:=hy.1 z hz;rcases List.mem_cons.1 ((h z).2 (by simp[hz])) with e | e
   ·omega
   ·exact e
theorem XZ{X:Nat->Prop}{w:World}{t:TypeId}{v:Value}{xs:List Int}(h:ownX X w t v xs.length (xs.map (Value.int .i64))):(v=.slice none 0 0/\xs = [])\/∃g cap,v=.slice (some ⟨g,0,none⟩) xs.length cap/\¬X g/\xs.length<=cap/\cap<=maxLen/\CellsAt w g xs.length (fun j=>xs.getD j 0):=by
 rcases h.shape with ⟨hv,h0⟩ | ⟨g,cap,hv,hx,hg,h1,h2,h3⟩
 ·exact .inl ⟨hv,List.eq_nil_of_length_eq_zero h0⟩
 ·subst hv;refine .inr ⟨g,cap,rfl,hx,h1,h2,hg,fun j hj=>h3 j _ ?_,fun j hj=>h.frozenAt j⟩;rw[List.getElem?_map,List.getElem?_eq_getElem hj];simp[List.getD,hj]
theorem wJ(x:Int)(w:World):
  Calls zP 258 #[vI iJ x] w fun e w'=>e=rJ (.bool false)/\w=w':=by
 go_enter func258,ntmps258;go_wp2;go_ret;refine⟨?_,rfl⟩;show Ending.returned (.bool _)=_;simp
def uO(a b:Int):Int:=if a<b then -1 else if b<a then 1 else 0
theorem ET(x y:Int)(w:World):
  Calls zP 245 #[vI iJ x,vI iJ y] w fun e w'=>e=rJ (vI iJ (uO x y))/\w=w':=by
 have HX:=zH (fun w=>wJ x w);have HY:=zH (fun w=>wJ y w);by_cases h1:x<y
 ·have e:uO x y = -1:=by unfold uO;rw[if_pos h1]
  rw[e];clear e;go_enter func245,ntmps245
  go_wp2_with fail
  refine(HX.o _).mono ?_;rintro e w1 ⟨rfl,rfl⟩
  go_wp2_with fail
  refine(HY.o _).mono ?_;rintro e w1 ⟨rfl,rfl⟩
  go_wp2_with fail
  go_ret;exact⟨rfl,rfl⟩
 ·by_cases h2:y<x
  ·have e:uO x y=1:=by unfold uO;rw[if_neg h1,if_pos h2]
   rw[e];clear e;go_enter func245,ntmps245
   go_wp2_with fail
   refine(HX.o _).mono ?_;rintro e w1 ⟨rfl,rfl⟩
   go_wp2_with fail
   refine(HY.o _).mono ?_;rintro e w1 ⟨rfl,rfl⟩
   go_wp2_with fail
   go_ret;exact⟨rfl,rfl⟩
  ·have e:uO x y=0:=by unfold uO;rw[if_neg h1,if_neg h2]
   rw[e];clear e;go_enter func245,ntmps245
   go_wp2_with fail
   refine(HX.o _).mono ?_;rintro e w1 ⟨rfl,rfl⟩
   go_wp2_with fail
   refine(HY.o _).mono ?_;rintro e w1 ⟨rfl,rfl⟩
   go_wp2_with fail
   go_ret;exact⟨rfl,rfl⟩
theorem RO(f:nI)(hf:aD f)(b x y:Nat)(w:World)(hb:w.heap[b]?=some (.cells (aA 16 (blk f)) 43 (0,0)))(hx:x<16)(hy:y<16):
  Calls zP 244 #[vI iJ x,vI iJ y,.pointer (some ⟨b,0,none⟩)] w fun e w'=>e=rJ (vI iJ (uO (eB (f y)) (eB (f x))))/\∃n,w'=w.drewN n:=by
 have cx:w.cell? ⟨b,x,none⟩=some (vI iJ (f x)):=(cell_of_row _ _ _ _ _ _ hb).trans (dR 16 f x hx);have cy:w.cell? ⟨b,y,none⟩=some (vI iJ (f y)):=(cell_of_row _ _ _ _ _ _ hb).trans (dR 16 f y hy);have HX:=zH (fun w=>xU (f x) w (hf x).1 (hf x).2);have HY:=zH (fun w=>xU (f y) w (hf y).1 (hf y).2);have HC:=zH (fun w=>ET (eB (f y)) (eB (f x)) w);have x0:(0:Int)<=x:=zO;have x1:(x:Int)<16:=zO;have y0:(0:Int)<=y:=zO;have y1:(y:Int)<16:=zO;clear hb hf;generalize uO (eB (f y)) (eB (f x))=c at *;generalize eB (f x)=p at *;generalize eB (f y)=q at *;generalize f x=u at *;generalize f y=v at *;go_enter func244,ntmps244
 go_wp2_with fail
 go_quiet ((first | (go_at_call 245;with_reducible exact Calls.quiet_of_same ((HC.o _).mono fun _ _ hh=>⟨hh.1,hh.2.symm⟩)) | (go_at_call 240;first | with_reducible exact Calls.quiet_of_same ((HX.o _).mono fun _ _ hh=>⟨hh.1,hh.2.symm⟩) | with_reducible exact Calls.quiet_of_same ((HY.o _).mono fun _ _ hh=>⟨hh.1,hh.2.symm⟩))))
 go_wp2_with fail
 go_ret;exact⟨rfl,_,rfl⟩
def PO(f:nI)(x:Int):Int:=eB (f x.toNat)
def dA(f:nI)(x y:Int):Prop:=PO f y<PO f x\/(PO f y=PO f x/\x<y)
theorem nK(f:nI)(x y z:Int)(h1:dA f x y)(h2:dA f y z):dA f x z:=by unfold dA at *;omega
def xZ(F:nI)(n:Nat):Prop:=(∀k,k<n->0<=F k/\F k<16)/\∀a b,a<b->b<n->F a<F b
structure InsW(t:TypeId)(w0:World)(g n b:Nat)(f:nI)(G:nI)(W:World):Prop where
 row:CellsAt W g n G
 box:W.heap[b]?=some (.cells (aA 16 (blk f)) t (0,0))
 kept:Kept (bH w0 g) w0 W
namespace InsW
variable {t:TypeId} {w0 W:World} {g n b:Nat} {f G:nI}
theorem drewN(h:InsW t w0 g n b f G W)(d:Nat):InsW t w0 g n b f G (W.drewN d):=⟨h.row.drewN d,h.box,h.kept.drewN d⟩
theorem set(h:InsW t w0 g n b f G W)(hne:g≠b)(j:Nat)(hj:j<n)(v:Int):InsW t w0 g n b f (fun k=>if k=j then v else G k) (W.setCell ⟨g,j,none⟩ (vI iJ v)):=
 ⟨h.row.set j hj v,(heap_setCell_other _ _ _ _ hne.symm).trans h.box,h.kept.trans (Kept.setCell (X:=bH w0 g) _ (a:=⟨g,j,none⟩) (fun e=>e.2 rfl) _)⟩
theorem swap(h:InsW t w0 g n b f G W)(hne:g≠b)(j:Nat)(hj:j<n)(h0:0<j):InsW t w0 g n b f (gM G j) ((W.setCell ⟨g,j,none⟩ (vI iJ (G (j-1)))).setCell ⟨g,j-1,none⟩ (vI iJ (G j))):=
 (h.set hne j hj _).set hne (j-1) zO _
end InsW
theorem DX(f:nI)(hf:aD f)(b g n cap:Nat)(F:nI)(w:World)(hF:xZ F n)(hb:w.heap[b]?=some (.cells (aA 16 (blk f)) 43 (0,0)))(hg:CellsAt w g n F)(hne:g≠b)(hn:n<=4611686018427387904):
  Calls zP 210 #[.slice (some ⟨g,0,none⟩) n cap,vI iJ 0,vI iJ n,.func (.func 244) #[] #[.pointer (some ⟨b,0,none⟩)]] w fun e w'=>e=rJ (.tuple #[])/\∃G,qC (dA f) F n G/\CellsAt w' g n G/\Kept (bH w g) w w':=by
 have H0:Hid (InsW 43 w g n b f F w):=⟨hg,hb,Kept.refl _ _⟩
 have HF:=zH hF;have H64:=zH hf;have HNE:=zH hne;clear hb hg hF hf hne;go_enter func210,ntmps210
 go_wp2_with fail
 go_loopw [8] (fun i wr=>∃(k:Nat) (G:nI),1<=k/\(k<=n\/k=1)/\i=vI iJ k/\Hid (tC (dA f) F k G)/\Hid (InsW 43 w g n b f G wr)) (fun i _=>n-(intOf i).toNat)
 case atStart=>exact⟨1,F,zO,.inr rfl,rfl,tC.start _ _,H0⟩
 case round=>
  obtain⟨i,G,hi1,hi2,rfl,HO,HW⟩:=hrel;clear H0;by_cases hlt:i<n
  ·clear hi2;obtain⟨wo,rfl⟩:∃V,V=wr:=⟨_,rfl⟩
   have HI:=zH HO.o.enter;clear HO
   go_wp2_with fail
   go_loopw [9] (fun jv wr=>∃(j:Nat) (G:nI),jv=vI iJ j/\j<=i/\Hid (NU (dA f) F i j G)/\Hid (InsW 43 w g n b f G wr)) (fun jv _=>(intOf jv).toNat)
   case atStart=>exact⟨i,G,rfl,Nat.le_refl _,HI,HW⟩
   case round=>
    clear HI HW;obtain⟨j,G,rfl,hj,HI,HW⟩:=hrel;by_cases h0:0<j
    ·obtain⟨m,hm⟩:∃m:Nat,m=j-1:=⟨_,rfl⟩
     have hmj:m<j:=zO;have hjn:j<n:=zO;have hmn:m<n:=zO;have e1:IntKind.i64.wrap ((j:Int)-1)=(m:Int):=by rw[show ((j:Int)-1)=(m:Int) by omega];exact IntWalk.i64_in _ zO
     have e2:wrap64 ((j:Int)-1)=(m:Int):=by rw[show ((j:Int)-1)=(m:Int) by omega];exact IntWalk.wrap64_in _ zO
     have c1:=HW.o.row.cell j hjn;have c2:=HW.o.row.cell m hmn;have f1:=HW.o.row.frz j hjn;have f2:=HW.o.row.frz m hmn;have b1:0<=G j/\G j<16:=by rw[HI.o.own];exact HF.o.1 i hlt
     obtain⟨m',hm',hGm⟩:=HI.o.frm m zO zO;have b2:0<=G m/\G m<16:=by rw[hGm];exact HF.o.1 m' zO
     have b3:G m<G j:=by rw[hGm,HI.o.own];exact HF.o.2 m' i hm' hlt
     have hL:=fun w' hb'=>RO f H64.o b (G j).toNat (G m).toNat w' hb' zO zO;rw[Int.toNat_of_nonneg b1.1,Int.toNat_of_nonneg b2.1]at hL;have hLo:=fun d=>hL (wr.drewN d) HW.o.box;have j0:(0:Int)<j:=zO;have e0:m=j-1:=hm;by_cases c:PO f (G m)<PO f (G j)
     ·have hc:uO (eB (f (G m).toNat)) (eB (f (G j).toNat)) = -1:=by unfold uO;exact if_pos c
      rw[hc]at hLo;have HLo:=zH hLo;clear hLo;have HI2:=zH (HI.o.swap h0 (by rw[<-e0];exact .inl c));have hW2:=fun d=>(HW.o.drewN d).swap HNE.o j hjn h0;rw[<-e0]at HI2 hW2;have HW2:=zH hW2;have HM:=zH e0;clear hL HI HW hW2 b1 b2 b3 hGm hm' hc c hm e0;generalize G j=x at *;generalize G m=y at *
      go_wp2_with fail
      go_quiet ((go_at_call 244;with_reducible exact Calls.quiet_of (HLo.o _)))
      go_wp2_with fail
      go_region
      go_wp2_with fail
      go_roundw
      case rel=>exact⟨m,_,by go_num,zO,HI2,HW2.o _⟩
      case measure=>exact zM
     ·obtain⟨z,hz,hz0⟩:∃z,uO (eB (f (G m).toNat)) (eB (f (G j).toNat))=z/\0<=z:=⟨_,rfl,by unfold PO at c;unfold uO;rw[if_neg c];split <;> omega⟩
      rw[hz]at hLo;have HLo:=zH hLo;have hD:tC (dA f) F (i+1) G:=HI.o.done (nK f) (fun _=>by rw[<-e0];unfold dA;unfold PO at *;omega);have HD:=zH hD;have hW2:=fun d=>(HW.o.drewN d)
      have HW2:=zH hW2;clear hLo hL HI HW hW2 hD b1 b2 b3 hGm hm' hz c hm e0;generalize G j=x at *;generalize G m=y at *
      go_wp2_with fail
      go_quiet ((go_at_call 244;with_reducible exact Calls.quiet_of (HLo.o _)))
      go_wp2_with fail
      go_roundw
      case rel=>exact⟨i+1,_,zO,zO,by go_num,HD,HW2.o _⟩
      case measure=>exact zM
    ·obtain rfl:j=0:=zO;have hD:tC (dA f) F (i+1) G:=HI.o.done (nK f) (fun h=>absurd h h0);have HD:=zH hD;have hW2:=fun d=>(HW.o.drewN d)
     have HW2:=zH hW2;clear HI HW hW2 hD h0
     go_wp2_with fail
     go_quiet (fail)
     go_wp2_with fail
     go_roundw
     case rel=>exact⟨i+1,_,zO,zO,by go_num,HD,HW2.o _⟩
     case measure=>exact zM
  ·have hS:qC (dA f) F n G:=HO.o.srt zO;have HS:=zH hS;have hR:=HW.o.row;have hK:=HW.o.kept;have HR:=zH hR;have HK:=zH hK;clear hS HO HW hR hK
   go_wp2_with fail
   go_end0
   exact⟨rfl,G,HS.o,HR.o,HK.o⟩
theorem ST(f:nI)(hf:aD f)(b g n cap:Nat)(F:nI)(w:World)(hF:xZ F n)(hb:w.heap[b]?=some (.cells (aA 16 (blk f)) 43 (0,0)))(hg:CellsAt w g n F)(hne:g≠b)(hn:n<20):
  Calls zP 168 #[.slice (some ⟨g,0,none⟩) n cap,vI iJ n,.func (.func 244) #[] #[.pointer (some ⟨b,0,none⟩)]] w fun e w'=>e=rJ (.tuple #[])/\∃G,qC (dA f) F n G/\CellsAt w' g n G/\Kept (bH w g) w w':=by
 have HI:=zH (DX f hf b g n cap F w hF hb hg hne zO);clear hf hF hb hg hne;go_enter func168,ntmps168
 go_wp2_with fail
 go_loop [7,8] (fun a c=>a=vI iJ 0/\c=vI iJ 20) (fun _ _=>0)
 case atStart=>exact⟨rfl,rfl⟩
 case round=>
  obtain⟨rfl,rfl⟩:=hrel
  go_wp2_with fail
  refine HI.o.mono ?_;rintro e w1 ⟨rfl,hh⟩;have HH:=zH hh;clear hh HI
  go_wp2_with fail
  go_loop [6] (fun c=>c=vI iJ 20) (fun _=>0)
  case atStart=>rfl
  case round=>
   subst hrel
   go_wp2_with fail
   go_end0
   exact⟨rfl,HH.o⟩
theorem yS(f:nI)(hf:aD f)(b g n cap:Nat)(F:nI)(w:World)(hF:xZ F n)(hb:w.heap[b]?=some (.cells (aA 16 (blk f)) 43 (0,0)))(hg:CellsAt w g n F)(hne:g≠b)(hn:n<20):
  Calls zP 130 #[.slice (some ⟨g,0,none⟩) n cap,.func (.func 244) #[] #[.pointer (some ⟨b,0,none⟩)]] w fun e w'=>e=rJ (.tuple #[])/\∃G,qC (dA f) F n G/\CellsAt w' g n G/\Kept (bH w g) w w':=by
 have HI:=zH (ST f hf b g n cap F w hF hb hg hne hn);clear hf hF hb hg hne;go_enter func130,ntmps130
 go_wp2_with fail
 refine HI.o.mono ?_;rintro e w1 ⟨rfl,hh⟩;have HH:=zH hh;clear hh HI
 go_wp2_with fail
 go_end0
 exact⟨rfl,HH.o⟩
def aY(f:nI)(k:Nat):List Nat:=(List.range k).filter fun i=>decide (yY f i)
def eO(l:List Nat):List Int:=l.map (fun i:Nat=>(i:Int))
theorem sK(l:List Nat):(eO l).length=l.length:=by simp[eO]
theorem gF(l:List Nat)(k:Nat)(h:k<l.length):(eO l).getD k 0=((l.getD k 0:Nat):Int):=by simp[eO,List.getD,h]
theorem OM(f:nI)(k:Nat)(h:yY f k):aY f (k+1)=aY f k ++ [k]:=by
 unfold aY;rw[List.range_succ,List.filter_append];simp[h]
theorem RX(f:nI)(k:Nat)(h:¬yY f k):aY f (k+1)=aY f k:=by
 unfold aY;rw[List.range_succ,List.filter_append];simp[h]
theorem wI(f:nI)(k:Nat):(aY f k).length<=k:=by
 have:=List.length_filter_le (fun i=>decide (yY f i)) (List.range k);simpa[aY]using this
theorem lV{f:nI}{k i:Nat} : i∈aY f k↔i<k/\yY f i:=by simp[aY]
theorem CA(f:nI)(k:Nat):(aY f k).Pairwise (· < ·):=List.Pairwise.filter _ List.pairwise_lt_range
structure KB(tb te:TypeId)(w:World)(f:nI)(k:Nat)(v:Value)(W:World):Prop where
 own:OwnL .i64 te (fun q=>q<w.heap.size+1) W v (eO (aY f k))
 box:W.heap[w.heap.size]?=some (.cells (aA 16 (blk f)) tb (0,0))
 old:Old w W
theorem KB.keep{tb te:TypeId}{w W W':World}{f:nI}{k:Nat}{v:Value}(h:KB tb te w f k v W)(o:Old W W'):KB tb te w f k v W':=
 ⟨h.own.old o,(o.block _ (lt_of_block h.box)).trans h.box,h.old.trans o⟩
theorem KB.next{tb te:TypeId}{w W W':World}{f:nI}{k:Nat}{v v':Value}(h:KB tb te w f k v W)(hk:yY f k)
  (ho:ownX (fun q=>q<w.heap.size+1) W' te v' ((eO (aY f k)).length+1) ((eO (aY f k)).map (Value.int .i64) ++ [vI iJ k])) (ka:Kept (fun q=>q<w.heap.size+1) W W'):KB tb te w f (k+1) v' W':=by
 refine⟨?_,?_,h.old.after ka fun q hq=>zO⟩
 ·rw[OM f k hk,show eO (aY f k ++ [k])=eO (aY f k) ++ [(k:Int)] from by simp[eO]];exact OwnL.snoc ho
 ·exact(ka.block _ (by show w.heap.size<w.heap.size+1;omega)).trans h.box
theorem Tryz.info_int':(zP.info? 3).map (fun i=>(i.zero,i.size,i.bytes))=some (some (vI iJ 0),1,8):=zK
theorem SE(f:nI)(hf:aD f)(w:World):
  Calls zP 243 #[.agg (aA 16 (blk f))] w fun e w'=>∃v,e=rJ v/\OwnL .i64 3 (fun q=>q<w.heap.size) w' v (eO (aY f 16))/\Old w w':=by
 obtain⟨i0,hi,hz0,hz1,hz2⟩:=info_parts Tryz.info_int';have Hb16:Hid ((zP.info? 43).map (·.size)=some 16):=zH zK;have HIs:=zH (fun(k:Nat) (hk:k<16) w=>aGN f hf k w zO zO);have H0:Hid (KB 43 3 w f 0 (.slice none 0 0) (w.alloc (.cells (aA 16 (blk f)) 43))):=⟨by have:=OwnL.nil .i64 3 (fun q=>q<w.heap.size+1) (w.alloc (.cells (aA 16 (blk f)) 43));exact this,heap_alloc_new _ _,Old.alloc _ _⟩
 clear hf;go_enter func243,ntmps243
 go_wp2_with fail
 go_loopw [3,5] (fun v i wr=>∃k:Nat,k<=16/\i=vI iJ k/\Hid (KB 43 3 w f k v wr)) (fun _ i _=>16-(intOf i).toNat)
 case atStart=>exact⟨0,zO,rfl,H0⟩
 case round=>
  obtain⟨k,hk,rfl,hs⟩:=hrel;clear H0;by_cases hlt:k<16
  ·have k0:(0:Int)<=k:=zO;have k1:(k:Int)<16:=zO;have HI:=zH (HIs.o k hlt wr);have Hbox:=zH hs.o.box;rw[XC]at HI;clear HIs
   go_wp2_with (with_reducible refine wpList_load_row rfl 43 _ rfl w.heap.size rfl 43 (aA 16 (blk f)) (0,0) _ Hbox.o underlying43 rfl (by rw[aB];exact Hb16.o) ?_)
   refine HI.o.mono ?_;rintro e w1 ⟨rfl,ho⟩;have HS:=zH (hs.o.keep ho);clear hs ho HI Hbox;by_cases ht:yY f k
   ·have hown:=HS.o.own;have hlen:=wI f k;have HN:=zH (fun v' w2 ho ka=>HS.o.next (v':=v') (W':=w2) ht ho ka);have hd:decide (yY f k)=true:=decide_eq_true ht;have HXX:Hid (∀(o:Obj) (q:Nat),q<w.heap.size+1->q<(w1.alloc o).heap.size):=fun o q hq=>by
     have:=lt_of_block HS.o.box;simp;omega
    have HXS:Hid (w.heap.size+1<=w1.heap.size):=lt_of_block HS.o.box;have hll:=sK (aY f k);clear HS ht;unfold OwnL at hown;rw[hd];clear hd;generalize eO (aY f k)=xs at *;generalize aY f k=ps at *
    go_wp2_with ((at_builtin;refine fL _ rfl _ _ 23 rfl (fun q=>q<w.heap.size+1) 3 i0 (vI iJ 0) 8 underlying23 hi hz0 hz1 hz2 rfl _ _ _ rfl (hown.old (Old.alloc _ _)) ⟨w1.heap.size,0,none⟩ 1 1 [vI iJ k] rfl rfl (jW w1 _ _) (wF _ _) (by unfold maxLen;omega) zO (HXX.o _) ?_;intro v' w2 hown2 hk2 _;have hn2:=zH (HN.o v' w2 hown2 ((Kept.alloc _ _ (fun q hq=>Nat.lt_of_lt_of_le hq HXS.o)).trans hk2));clear hown hown2 hk2 HN))
    go_roundw
    case rel=>exact⟨k+1,zO,by go_num,hn2⟩
    case measure=>exact zM
   ·have hd:decide (yY f k)=false:=decide_eq_false ht;have hn:KB 43 3 w f (k+1) u3 w1:=⟨by rw[RX f k ht];exact HS.o.own,HS.o.box,HS.o.old⟩
    have HN:=zH hn;rw[hd];clear HS hn ht hd
    go_wp2_with fail
    go_roundw
    case rel=>exact⟨k+1,zO,by go_num,HN⟩
    case measure=>exact zM
  ·obtain rfl:k=16:=zO;have hr:OwnL .i64 3 (fun q=>q<w.heap.size) wr u3 (eO (aY f 16))/\Old w wr:=⟨hs.o.own.mono fun q hq h=>by have:=hs.o.own.2 q hq;omega,hs.o.old⟩
   have HR:=zH hr;clear hs hr HIs
   go_wp2_with fail
   go_ret;exact⟨u3,rfl,HR.o.1,HR.o.2⟩
structure Mt where
 s:ByteArray
 n:Int
 r:Int
 c:Int
 lp:Bool
 a:Int
 b:Int
 x:Int
 y:Int
def Mt.cells(m:Mt):Array Value:=#[.string m.s,vI iJ m.n,vI iJ m.r,vI iJ m.c,.bool m.lp,vI iJ m.a,vI iJ m.b,vI iJ m.x,vI iJ m.y]
def Mt.ok(m:Mt):Prop:=cX m.s m.n m.r m.c m.lp m.a m.b=0
structure Mt.OkR(m:Mt):Prop where
 name:wR m.s
 r1:1<=m.r
 r2:m.r<=192000
 c1:1<=m.c
 c2:m.c<=2
 n1:1<=m.n
 n2:m.n<=1048576
 loop:lG m.lp m.a m.b m.n
theorem Mt.ok_iff(m:Mt):m.ok↔m.OkR:=by
 unfold Mt.ok cX;by_cases h1:wR m.s
 ·rw[uY h1,if_neg zS];by_cases h2:m.r<1\/192000<m.r
  ·rw[if_pos h2];exact⟨fun h=>zO,fun h=>by have:=h.r1;have:=h.r2;omega⟩
  ·rw[if_neg h2];by_cases h3:(m.c<1\/2<m.c)\/m.n<1\/1048576<m.n
   ·rw[if_pos h3];exact⟨fun h=>zO,fun h=>by have:=h.c1;have:=h.c2;have:=h.n1;have:=h.n2;omega⟩
   ·rw[if_neg h3];by_cases h4:lG m.lp m.a m.b m.n
    ·rw[if_pos h4];exact⟨fun _=>⟨h1,zO,zO,zO,zO,zO,zO,h4⟩,fun _=>rfl⟩
    ·rw[if_neg h4];exact⟨fun h=>zO,fun h=>absurd h.loop h4⟩
 ·rw[tJ h1,if_pos rfl];exact⟨fun h=>zO,fun h=>absurd h.name h1⟩
theorem Mt.OkR.nums{m:Mt}(h:m.OkR):0<=m.a/\m.a<=1048576/\0<=m.b/\m.b<=1048576:=by
 have hl:=h.loop;have:=h.n2;unfold lG at hl;split at hl <;> omega
def Mt.fr(m:Mt):Nat:=cW m.n.toNat*m.c.toNat
theorem Mt.OkR.fr_le{m:Mt}(h:m.OkR):1<=m.fr/\m.fr<=131072:=by
 have h1:1<=cW m.n.toNat/\cW m.n.toNat<=65536:=by have:=h.n1;have:=h.n2;unfold cW;omega
 have h2:m.c.toNat=1\/m.c.toNat=2:=by have:=h.c1;have:=h.c2;omega
 unfold Mt.fr;rcases h2 with e | e <;> rw[e] <;> omega
def Mt.at_(m:Mt)(x y:Int):Mt:={ m with x:=x,y:=y }
theorem Mt.at_fr(m:Mt)(x y:Int):(m.at_ x y).fr=m.fr:=rfl
theorem Mt.OkR.at_{m:Mt}(h:m.OkR)(x y:Int):(m.at_ x y).OkR:=⟨h.1,h.2,h.3,h.4,h.5,h.6,h.7,h.8⟩
def be(w:Nat)(v:Int)(j:Nat):Int:=v/256 ^ (w-1-j)%256
theorem uE(w:Nat)(v:Int)(j:Nat):0<=be w v j/\be w v j<=255:=by unfold be;omega
def aO(F:nI):nI
 | 0=>0
 | k+1=>aO F k*256+F k
theorem pH{F:nI}{w:Nat}(h:∀j,j<w->0<=F j/\F j<=255):0<=aO F w/\aO F w<256 ^ w:=by
 induction w with
 | zero=>exact⟨Int.le_refl _,by simp[aO]⟩
 | succ w ih=>
  have:=ih fun j hj=>h j zO;have:=h w zO;show 0<=aO F w*256+F w/\aO F w*256+F w<256 ^ (w+1);rw[Int.pow_succ];omega
theorem jK{F G:nI}{w:Nat}(h:∀j,j<w->F j=G j):aO F w=aO G w:=by
 induction w with
 | zero=>rfl
 | succ w ih=>show aO F w*256+F w=aO G w*256+G w;rw[ih fun j hj=>h j zO,h w zO]
theorem qQ(v:Int)(h:0<=v)(h2:v<4294967296):aO (be 4 v) 4=v:=by
 show (((0*256+v/16777216%256)*256+v/65536%256)*256+v/256%256)*256+v/1%256=v;omega
theorem aAT(v:Int)(h:0<=v)(h2:v<65536):aO (be 2 v) 2=v:=by
 show (0*256+v/256%256)*256+v/1%256=v;omega
theorem aAz(v:Int)(h:0<=v)(h2:v<256):aO (be 1 v) 1=v:=by
 show 0*256+v/1%256=v;omega
def mrk(j:Nat):Int:=if j=0 then 67 else if j=1 then 65 else if j=2 then 76 else 49
def mM(len n sz:Int)(j:Nat):Int:=if j<4 then mrk j else if j<8 then be 4 len (j-4) else if j<10 then be 2 n (j-8) else if j<11 then be 1 sz (j-10) else 0
theorem DE(len n sz:Int)(j:Nat):0<=mM len n sz j/\mM len n sz j<=255:=by
 unfold mM mrk;have:=uE 4 len (j-4);have:=uE 2 n (j-8);have:=uE 1 sz (j-10)
 (repeat' split) <;> omega
def Mt.num(m:Mt)(k:Nat):Int:=if k=0 then m.n else if k=1 then m.r else if k=2 then m.a else if k=3 then m.b else if k=4 then m.x else m.y
def eY(m:Mt)(j:Nat):Int:=if j<32 then lT m.s j else if j<56 then be 4 (m.num ((j-32)/4)) ((j-32)%4) else if j=56 then m.c%256 else if j=57 then(if m.lp then 1 else 0) else 0
theorem IP(m:Mt)(j:Nat):0<=eY m j/\eY m j<=255:=by
 unfold eY;have:=aHf m.s j;have:=uE 4 (m.num ((j-32)/4)) ((j-32)%4)
 (repeat' split) <;> omega
def pD(n:Nat):Nat:=(n+15)/16*16
def JC(n:Nat):Nat:=(n+63)/64*64
theorem WE(n:Nat):n<=pD n/\pD n<=n+15:=by unfold pD;omega
theorem aGb(n:Nat):n<=JC n/\JC n<=n+63:=by unfold JC;omega
def bO(f:Nat->Nat)(sz n:Nat):Nat->Nat
 | 0=>20+64*n
 | i+1=>pD (bO f sz n i+4*f i)+f i*sz
def aL(f:Nat->Nat)(sz n i:Nat):Nat:=pD (bO f sz n i+4*f i)
theorem mX(f:Nat->Nat)(sz n i:Nat):bO f sz n (i+1)=aL f sz n i+f i*sz:=rfl
theorem fJ(f:Nat->Nat)(sz n i:Nat):bO f sz n i+4*f i<=aL f sz n i/\aL f sz n i<=bO f sz n i+4*f i+15:=WE _
def aJ(f:Nat->Nat)(sz n:Nat):Nat:=JC (bO f sz n n)
theorem FP(f:Nat->Nat)(sz n i:Nat):bO f sz n i<=bO f sz n (i+1):=by
 rw[mX];have:=fJ f sz n i;omega
theorem qK(f:Nat->Nat)(sz n:Nat){i k:Nat}(h:i<=k):bO f sz n i<=bO f sz n k:=by
 induction h with
 | refl=>exact Nat.le_refl _
 | step _ ih=>exact Nat.le_trans ih (FP f sz n _)
theorem JD(f:Nat->Nat)(sz n i:Nat):20+64*n<=bO f sz n i:=qK f sz n (Nat.zero_le i)
theorem yE(f:Nat->Nat)(sz n:Nat):bO f sz n n<=aJ f sz n/\aJ f sz n<=bO f sz n n+63:=aGb _
theorem tQ{f:Nat->Nat}{sz n:Nat}(h:∀i,i<n->f i<=131072)(hs:sz<=96):∀i,i<=n->bO f sz n i<=20+64*n+i*13107215:=by
 intro i
 induction i with
 | zero=>intro _;show 20+64*n<=_;omega
 | succ i ih=>
  intro hi;have h1:=ih zO;have h2:=fJ f sz n i;have h3:=h i zO;have h4:f i*sz<=131072*96:=Nat.mul_le_mul h3 hs;rw[mX];omega
theorem aCJ{f g:Nat->Nat}{sz n i:Nat}(h:∀k,k<i->f k=g k):bO f sz n i=bO g sz n i:=by
 induction i with
 | zero=>rfl
 | succ i ih=>show pD (bO f sz n i+4*f i)+f i*sz=pD (bO g sz n i+4*g i)+g i*sz;rw[ih fun k hk=>h k zO,h i zO]
def aF(f:Nat->Nat):Nat->Nat
 | 0=>0
 | i+1=>aF f i+f i
theorem iF(f:Nat->Nat){i k:Nat}(h:i<=k):aF f i<=aF f k:=by
 induction h with
 | refl=>exact Nat.le_refl _
 | step _ ih=>exact Nat.le_trans ih (Nat.le_add_right _ _)
theorem yX{f:Nat->Nat}{n:Nat}(h:∀i,i<n->f i<=131072):∀i,i<=n->aF f i<=i*131072:=by
 intro i
 induction i with
 | zero=>intro _;exact Nat.le_refl _
 | succ i ih=>
  intro hi;have h1:=ih zO;have h2:=h i zO;show aF f i+f i<=_;omega
theorem aGV(f:Nat->Nat){i q i' q':Nat}(hq:q<f i)(hq':q'<f i')(h:aF f i'+q'<aF f i+q):i'<i\/(i'=i/\q'<q):=by
 rcases Nat.lt_trichotomy i' i with h1 | h1 | h1
 ·exact .inl h1
 ·subst h1;exact .inr ⟨rfl,zO⟩
 ·have h2:=iF f (show i+1<=i' by omega);have:aF f (i+1)=aF f i+f i:=rfl;omega
def jE(F:nI)(n:Nat):Int:=Crc.sumOf (gQ F n)
theorem AD{F G:nI}{n:Nat}(h:∀j,j<n->F j=G j):jE F n=jE G n:=by unfold jE;rw[tW h]
theorem tT{F:nI}{n:Nat}(h:∀j,j<n->0<=F j/\F j<=255):0<=jE F n/\jE F n<4294967296:=by
 have:=Crc.reg_lt (r:=4294967295) zO (gQ F n) (qN h);unfold jE Crc.sumOf;omega
structure Ld(f:Nat->Nat)(sz n:Nat)(B:Nat->Nat->Int)(H:nI)(k:Nat)(F:nI):Prop where
 front:∀p,p<20+64*n->F p=H p
 sum:∀i q,i<n->q<f i->aF f i+q<k->∀j,j<4->F (bO f sz n i+4*q+j)=be 4 (jE (B (aF f i+q)) sz) j
 byte:∀i q,i<n->q<f i->aF f i+q<k->∀j,j<sz->F (aL f sz n i+sz*q+j)=B (aF f i+q) j
 gap:∀p,20+64*n<=p->(∀i q,i<n->q<f i->aF f i+q<k->(∀j,j<4->p≠bO f sz n i+4*q+j)/\∀j,j<sz->p≠aL f sz n i+sz*q+j)->F p=0
theorem Ld.zero(f:Nat->Nat)(sz n:Nat)(B:Nat->Nat->Int)(H:nI)(F:nI)(h:∀p,p<20+64*n->F p=H p)(h0:∀p,20+64*n<=p->F p=0):Ld f sz n B H 0 F:=
 ⟨h,fun i q _ _ h=>zO,fun i q _ _ h=>zO,fun p hp _=>h0 p hp⟩
theorem DH{F:nI}{o n:Nat}{f:nI}{j:Nat}(h:j<n):aV F o n f (o+j)=f j:=by unfold aV;rw[if_pos ⟨zO,zO⟩];congr 1;omega
theorem eD{F:nI}{o n:Nat}{f:nI}{p:Nat}(h:p<o\/o+n<=p):aV F o n f p=F p:=by unfold aV;rw[if_neg zO]
theorem OH(sz q m:Nat)(h:q<m):sz*q+sz<=sz*m:=by
 have:=Nat.mul_le_mul_left sz (show q+1<=m from h)
 rwa [Nat.mul_succ]at this
theorem rF(f:Nat->Nat)(sz n:Nat){i q:Nat}(hq:q<f i):bO f sz n i+4*q+4<=aL f sz n i/\aL f sz n i+sz*q+sz<=bO f sz n (i+1):=by
 have h1:=fJ f sz n i;have h2:=OH sz q (f i) hq;rw[mX,Nat.mul_comm (f i) sz];omega
theorem Ld.next{f:Nat->Nat}{sz n:Nat}{B:Nat->Nat->Int}{H:nI}{F:nI}{i q:Nat}(h:Ld f sz n B H (aF f i+q) F)(hi:i<n)(hq:q<f i):
  Ld f sz n B H (aF f i+q+1) (aV (aV F (bO f sz n i+4*q) 4 (be 4 (jE (B (aF f i+q)) sz))) (aL f sz n i+sz*q) sz (B (aF f i+q))):=by
 have hlo:=JD f sz n i;have hfi:=fJ f sz n i;have hpe:=rF f sz n hq;have old:∀i' q',i'<n->q'<f i'->aF f i'+q'<aF f i+q->(∀j,j<4->(bO f sz n i'+4*q'+j<bO f sz n i+4*q))/\(∀j,j<sz->(aL f sz n i'+sz*q'+j<bO f sz n i+4*q\/(bO f sz n i+4*q+4<=aL f sz n i'+sz*q'+j/\aL f sz n i'+sz*q'+j<aL f sz n i+sz*q))):=by
  intro i' q' hi' hq' hk;have hpe':=rF f sz n hq';rcases aGV f hq hq' hk with hl | ⟨rfl,hl⟩
  ·have hm:=qK f sz n (show i'+1<=i from hl);have:=fJ f sz n i';exact⟨fun j hj=>zO,fun j hj=>.inl zO⟩
  ·have:=OH sz q' q hl;exact⟨fun j hj=>zO,fun j hj=>.inr ⟨zO,zO⟩⟩
 have same:∀i' q',i'<n->q'<f i'->aF f i'+q'<aF f i+q+1->¬aF f i'+q'<aF f i+q->i'=i/\q'=q:=by
  intro i' q' hi' hq' h1 h2;have e:aF f i'+q'=aF f i+q:=zO;rcases Nat.lt_trichotomy i' i with h3 | h3 | h3
  ·have:=iF f (show i'+1<=i from h3);have:aF f (i'+1)=aF f i'+f i':=rfl;omega
  ·subst h3;exact⟨rfl,zO⟩
  ·have:=iF f (show i+1<=i' from h3);have:aF f (i+1)=aF f i+f i:=rfl;omega
 refine⟨fun p hp=>?_,fun i' q' hi' hq' hk j hj=>?_,fun i' q' hi' hq' hk j hj=>?_,fun p hp hg=>?_⟩
 ·rw[eD zO,eD zO];exact h.front p hp
 ·by_cases hl:aF f i'+q'<aF f i+q
  ·have:=(old i' q' hi' hq' hl).1 j hj;rw[eD zO,eD zO];exact h.sum i' q' hi' hq' hl j hj
  ·obtain⟨rfl,rfl⟩:=same i' q' hi' hq' hk hl;rw[eD zO,DH hj]
 ·by_cases hl:aF f i'+q'<aF f i+q
  ·have:=(old i' q' hi' hq' hl).2 j hj;rw[eD zO,eD zO];exact h.byte i' q' hi' hq' hl j hj
  ·obtain⟨rfl,rfl⟩:=same i' q' hi' hq' hk hl;rw[DH hj]
 ·have hg0:=hg i q hi hq zO;have o1:p<aL f sz n i+sz*q\/aL f sz n i+sz*q+sz<=p:=by
   rcases Nat.lt_or_ge p (aL f sz n i+sz*q) with h1 | h1
   ·exact .inl h1
   ·rcases Nat.lt_or_ge p (aL f sz n i+sz*q+sz) with h2 | h2
    ·exact absurd (show p=aL f sz n i+sz*q+(p-(aL f sz n i+sz*q)) by omega) (hg0.2 _ zO)
    ·exact .inr h2
  have o2:p<bO f sz n i+4*q\/bO f sz n i+4*q+4<=p:=by
   rcases Nat.lt_or_ge p (bO f sz n i+4*q) with h1 | h1
   ·exact .inl h1
   ·rcases Nat.lt_or_ge p (bO f sz n i+4*q+4) with h2 | h2
    ·exact absurd (show p=bO f sz n i+4*q+(p-(bO f sz n i+4*q)) by omega) (hg0.1 _ zO)
    ·exact .inr h2
  rw[eD o1,eD o2];exact h.gap p hp fun i' q' hi' hq' hk=>hg i' q' hi' hq' zO
theorem Ld.one{f:Nat->Nat}{sz n:Nat}{B:Nat->Nat->Int}{H H':nI}{k:Nat}{F F':nI}(h:Ld f sz n B H k F)(h':Ld f sz n B H' k F')(e:∀p,p<20+64*n->H p=H' p)(p:Nat):F p=F' p:=by
 by_cases hp:p<20+64*n
 ·rw[h.front p hp,h'.front p hp,e p hp]
 ·by_cases hs:∃i q,i<n/\q<f i/\aF f i+q<k/\∃j,j<4/\p=bO f sz n i+4*q+j
  ·obtain⟨i,q,h1,h2,h3,j,h4,rfl⟩:=hs;rw[h.sum i q h1 h2 h3 j h4,h'.sum i q h1 h2 h3 j h4]
  ·by_cases hb:∃i q,i<n/\q<f i/\aF f i+q<k/\∃j,j<sz/\p=aL f sz n i+sz*q+j
   ·obtain⟨i,q,h1,h2,h3,j,h4,rfl⟩:=hb;rw[h.byte i q h1 h2 h3 j h4,h'.byte i q h1 h2 h3 j h4]
   ·have hg:∀i q,i<n->q<f i->aF f i+q<k->(∀j,j<4->p≠bO f sz n i+4*q+j)/\∀j,j<sz->p≠aL f sz n i+sz*q+j:=fun i q h1 h2 h3=>⟨fun j h4 e=>hs ⟨i,q,h1,h2,h3,j,h4,e⟩,fun j h4 e=>hb ⟨i,q,h1,h2,h3,j,h4,e⟩⟩
    rw[h.gap p zO hg,h'.gap p zO hg]
def mA(len n sz:Int)(D:Nat->Mt):nI:=fun p=>if p<16 then mM len n sz p else eY (D ((p-16)/64)) ((p-16)%64)
theorem WC(len n sz:Int)(D:Nat->Mt)(p:Nat):0<=mA len n sz D p/\mA len n sz D p<=255:=by
 unfold mA;split
 ·exact DE ..
 ·exact IP ..
theorem aDr(len n sz:Int)(D:Nat->Mt)(i j:Nat)(hj:j<64):mA len n sz D (16+64*i+j)=eY (D i) j:=by
 unfold mA;rw[if_neg zO,show (16+64*i+j-16)/64=i by omega,show (16+64*i+j-16)%64=j by omega]
def cC(len:Int)(n sz:Nat)(D:Nat->Mt):nI:=aV (mA len n sz D) (16+64*n) 4 (be 4 (jE (mA len n sz D) (16+64*n)))
def dU(G:nI)(a b n:Nat):nI:=fun k=>if a<=k/\k<a+n then G (k-a+b) else if b<=k/\k<b+n then G (k-b+a) else G k
theorem PY(G:nI)(a b:Nat):dU G a b 0=G:=by
 funext k;unfold dU;rw[if_neg zO,if_neg zO]
theorem VA(G:nI)(a b n:Nat)(h:a+n<b):(fun k=>if k=b+n then dU G a b n (a+n) else if k=a+n then dU G a b n (b+n) else dU G a b n k)=dU G a b (n+1):=by
 funext k;unfold dU;by_cases c1:k=b+n
 ·rw[if_pos c1,if_neg zO,if_neg zO,if_neg zO,if_pos zO];congr 1;omega
 rw[if_neg c1];by_cases c2:k=a+n
 ·rw[if_pos c2,if_neg zO,if_neg zO,if_pos zO];congr 1;omega
 rw[if_neg c2];by_cases c3:a<=k/\k<a+n
 ·rw[if_pos c3,if_pos zO]
 by_cases c4:b<=k/\k<b+n
 ·rw[if_neg c3,if_pos c4,if_neg zO,if_pos zO]
 rw[if_neg c3,if_neg c4,if_neg zO,if_neg zO]
def dF(G:nI)(a m b:Nat):nI:=fun k=>if a<=k/\k<a+(b-m) then G (k+(m-a)) else if a+(b-m)<=k/\k<b then G (k-(b-m)) else G k
theorem eI(G:nI){a m b k:Nat}(h:k<a):dF G a m b k=G k:=by unfold dF;rw[if_neg zO,if_neg zO]
theorem dV(G:nI){a m b k:Nat}(h1:a<=m)(h2:m<=b)(h:b<=k):dF G a m b k=G k:=by unfold dF;rw[if_neg zO,if_neg zO]
theorem cR(G:nI){a m b k:Nat}(h1:a<=k)(h2:k<a+(b-m)):dF G a m b k=G (k+(m-a)):=by unfold dF;rw[if_pos ⟨h1,h2⟩]
theorem cD(G:nI){a m b k:Nat}(h1:a+(b-m)<=k)(h2:k<b):dF G a m b k=G (k-(b-m)):=by unfold dF;rw[if_neg zO,if_pos ⟨h1,h2⟩]
theorem IG(G:nI)(m b:Nat)(h:m<=b):dF G m m b=G:=by
 funext k;unfold dF;split
 ·congr 1;omega
 ·split
  ·omega
  ·rfl
theorem CJ(G:nI)(a m:Nat)(h:a<=m):dF G a m m=G:=by
 funext k;unfold dF;split
 ·omega
 ·split
  ·congr 1;omega
  ·rfl
theorem aHs(G:nI)(m i j:Nat)(hi:i<=m)(hj:j<i):dF (dU G (m-i) m j) (m-(i-j)) m (m+j)=dF G (m-i) m (m+j):=by
 funext k;by_cases c1:k<m-i
 ·rw[eI _ zO,eI _ c1];unfold dU;rw[if_neg zO,if_neg zO]
 by_cases c2:k<m-i+j
 ·rw[eI _ zO,cR _ zO zO];unfold dU;rw[if_pos zO];congr 1;omega
 by_cases c3:k<m-i+j+j
 ·rw[cR _ zO zO,cD _ zO zO];unfold dU;rw[if_neg zO,if_pos zO];congr 1;omega
 by_cases c4:k<m+j
 ·rw[cD _ zO zO,cD _ zO zO];unfold dU;rw[if_neg zO,if_neg zO]
 rw[dV _ zO zO zO,dV _ zO zO zO];unfold dU;rw[if_neg zO,if_neg zO]
theorem aHG(G:nI)(m i j:Nat)(hi:i<=m)(hj:i<j):dF (dU G (m-i) (m+j-i) i) (m-i) m (m+(j-i))=dF G (m-i) m (m+j):=by
 funext k;by_cases c1:k<m-i
 ·rw[eI _ zO,eI _ c1];unfold dU;rw[if_neg zO,if_neg zO]
 by_cases c2:k<m-i+(j-i)
 ·rw[cR _ zO zO,cR _ zO zO];unfold dU;rw[if_neg zO];by_cases c:m+j-i<=k+(m-(m-i))
  ·omega
  ·rw[if_neg zO]
 by_cases c3:k<m-i+j
 ·by_cases c4:k<m+(j-i)
  ·rw[cD _ zO zO,cR _ zO zO];unfold dU;rw[if_pos zO];congr 1;omega
  ·omega
 by_cases c4:k<m+(j-i)
 ·omega
 by_cases c5:k<m+j
 ·rw[dV _ zO zO zO,cD _ zO zO];unfold dU;rw[if_neg zO,if_pos zO];congr 1;omega
 rw[dV _ zO zO zO,dV _ zO zO zO];unfold dU;rw[if_neg zO,if_neg zO]
theorem aHg(G:nI)(m i:Nat)(hi:i<=m):dU G (m-i) m i=dF G (m-i) m (m+i):=by
 funext k;by_cases c1:k<m-i
 ·rw[eI _ c1];unfold dU;rw[if_neg zO,if_neg zO]
 by_cases c2:k<m
 ·rw[cR _ zO zO];unfold dU;rw[if_pos zO];congr 1;omega
 by_cases c3:k<m+i
 ·rw[cD _ zO zO];unfold dU;rw[if_neg zO,if_pos zO];congr 1;omega
 rw[dV _ zO zO zO];unfold dU;rw[if_neg zO,if_neg zO]
theorem aGR(G:nI)(a k:Nat)(h:a<=k):gM (dF G a (a+1) (k+1)) (k+1)=dF G a (a+1) (k+1+1):=by
 funext q;unfold gM;by_cases c1:q=k+1-1
 ·rw[if_pos c1,dV _ zO zO zO,cR _ zO zO];congr 1;omega
 rw[if_neg c1];by_cases c2:q=k+1
 ·rw[if_pos c2,cD _ zO zO,cD _ zO zO];congr 1;omega
 rw[if_neg c2];by_cases c3:q<a
 ·rw[eI _ c3,eI _ c3]
 by_cases c4:q<k
 ·rw[cR _ zO zO,cR _ zO zO]
 rw[dV _ zO zO zO,dV _ zO zO zO]
theorem aBn(G:nI)(m k:Nat)(h:k<=m)(h0:0<k):gM (dF G k m (m+1)) k=dF G (k-1) m (m+1):=by
 funext q;unfold gM;by_cases c1:q=k-1
 ·rw[if_pos c1,cR _ zO zO,cR _ zO zO];congr 1;omega
 rw[if_neg c1];by_cases c2:q=k
 ·rw[if_pos c2,eI _ zO,cD _ zO zO];congr 1;omega
 rw[if_neg c2];by_cases c3:q<k
 ·rw[eI _ zO,eI _ zO]
 by_cases c4:q<m+1
 ·rw[cD _ zO zO,cD _ zO zO]
 rw[dV _ zO zO zO,dV _ zO zO zO]
def cB(R:Int->Int->Prop)(G:nI)(a b:Nat):Prop:=∀i j,a<=i->i<j->j<b->R (G i) (G j)
structure cM(F G:nI)(a b:Nat):Prop where
 o:∀k,(k<a\/b<=k)->G k=F k
 frm:∀k,a<=k->k<b->∃m,a<=m/\m<b/\G k=F m
 all:∀m,a<=m->m<b->∃k,a<=k/\k<b/\G k=F m
theorem cM.refl(F:nI)(a b:Nat):cM F F a b:=⟨fun _ _=>rfl,fun k h1 h2=>⟨k,h1,h2,rfl⟩,fun k h1 h2=>⟨k,h1,h2,rfl⟩⟩
theorem cM.trans{F G H:nI}{a b:Nat}(h:cM F G a b)(k:cM G H a b):cM F H a b:=
 ⟨fun q hq=>(k.o q hq).trans (h.o q hq),fun q h1 h2=>by
  obtain⟨m,a1,a2,a3⟩:=k.frm q h1 h2;obtain⟨m',b1,b2,b3⟩:=h.frm m a1 a2;exact⟨m',b1,b2,a3.trans b3⟩,fun q h1 h2=>by
  obtain⟨m,a1,a2,a3⟩:=h.all q h1 h2;obtain⟨m',b1,b2,b3⟩:=k.all m a1 a2;exact⟨m',b1,b2,b3.trans a3⟩⟩
theorem cM.wide{F G:nI}{a b c d:Nat}(h:cM F G a b)(h1:c<=a)(h2:b<=d):cM F G c d:=
 ⟨fun q hq=>h.o q zO,fun q q1 q2=>by
  by_cases e:a<=q/\q<b
  ·obtain⟨m,a1,a2,a3⟩:=h.frm q e.1 e.2;exact⟨m,zO,zO,a3⟩
  ·exact⟨q,q1,q2,h.o q zO⟩,fun q q1 q2=>by
  by_cases e:a<=q/\q<b
  ·obtain⟨m,a1,a2,a3⟩:=h.all q e.1 e.2;exact⟨m,zO,zO,a3⟩
  ·exact⟨q,q1,q2,h.o q zO⟩⟩
theorem tP(G:nI){a m b:Nat}(h1:a<=m)(h2:m<=b):cM G (dF G a m b) a b:=by
 refine⟨fun q hq=>?_,fun q q1 q2=>?_,fun q q1 q2=>?_⟩
 ·rcases hq with h | h
  ·exact eI G h
  ·exact dV G h1 h2 h
 ·by_cases c:q<a+(b-m)
  ·exact⟨q+(m-a),zO,zO,cR G q1 c⟩
  ·exact⟨q-(b-m),zO,zO,cD G zO q2⟩
 ·by_cases c:q<m
  ·exact⟨q+(b-m),zO,zO,by rw[cD G zO zO];congr 1;omega⟩
  ·exact⟨q-(m-a),zO,zO,by rw[cR G zO zO];congr 1;omega⟩
section
variable {R:Int->Int->Prop} (tr:∀x y z,R x y->R y z->R x z)
include tr
theorem KH{G:nI}{a b i j:Nat}{z:Int}(h:cB R G a b)(hi:a<=i)(hij:i<=j)(hj:j<b)(hz:R (G j) z):R (G i) z:=by
 by_cases e:i=j
 ·subst e;exact hz
 ·exact tr _ _ _ (h i j hi zO hj) hz
theorem JJ{G:nI}{a b i j:Nat}{z:Int}(h:cB R G a b)(hi:a<=i)(hij:i<=j)(hj:j<b)(hz:R z (G i)):R z (G j):=by
 by_cases e:i=j
 ·subst e;exact hz
 ·exact tr _ _ _ hz (h i j hi zO hj)
theorem FK{G:nI}{a s m e b:Nat}(h1:a<=s)(h2:s<=m)(h3:m<=e)(h4:e<=b)(hl:cB R G a m)(hr:cB R G m b)
  (x1:a<s->e<b->R (G (s-1)) (G e)) (x2:s<m->m<e->R (G (e-1)) (G s)):
  ∀i j,a<=i->i<s+(e-m)->s+(e-m)<=j->j<b->R (dF G s m e i) (dF G s m e j):=by
 intro i j hi hi2 hj hj2;by_cases c1:i<s
 ·rw[eI G c1];by_cases c2:j<e
  ·rw[cD G hj c2];exact hl i _ hi zO zO
  ·rw[dV G h2 h3 zO];exact KH tr hl hi (show i<=s-1 by omega) zO (JJ tr hr h3 (show e<=j by omega) hj2 (x1 zO zO))
 ·rw[cR G zO hi2];by_cases c2:j<e
  ·rw[cD G hj c2];exact KH tr hr zO (show i+(m-s)<=e-1 by omega) zO (JJ tr hl h1 (show s<=j-(e-m) by omega) zO (x2 zO zO))
  ·rw[dV G h2 h3 zO];exact hr _ j zO zO hj2
omit tr in
theorem CG{G:nI}{a s m e:Nat}(h2:s<=m)(hl:cB R G a m):cB R (dF G s m e) a s:=fun i j hi hij hj=>by rw[eI G zO,eI G hj];exact hl i j hi hij zO
omit tr in
theorem yJ{G:nI}{s m e b:Nat}(h2:s<=m)(h3:m<=e)(h4:e<=b)(hr:cB R G m b):cB R (dF G s m e) s (s+(e-m)):=fun i j hi hij hj=>by
 rw[cR G hi zO,cR G zO hj];exact hr _ _ zO zO zO
omit tr in
theorem NT{G:nI}{a s m e:Nat}(h1:a<=s)(h2:s<=m)(h3:m<=e)(hl:cB R G a m):cB R (dF G s m e) (s+(e-m)) e:=fun i j hi hij hj=>by
 rw[cD G hi zO,cD G zO hj];exact hl _ _ zO zO zO
omit tr in
theorem OQ{G:nI}{s m e b:Nat}(h2:s<=m)(h3:m<=e)(hr:cB R G m b):cB R (dF G s m e) e b:=fun i j hi hij hj=>by
 rw[dV G h2 h3 hi,dV G h2 h3 zO];exact hr _ _ zO zO zO
omit tr in
theorem tU{G:nI}{a m b:Nat}(h1:cB R G a m)(h2:cB R G m b)(h3:∀i j,a<=i->i<m->m<=j->j<b->R (G i) (G j)):cB R G a b:=fun i j hi hij hj=>by
 by_cases c1:j<m
 ·exact h1 i j hi hij c1
 by_cases c2:i<m
 ·exact h3 i j hi c2 zO hj
 ·exact h2 i j zO hij hj
omit tr in
theorem vJ{G H:nI}{a b:Nat}(h:cB R G a b)(e:∀k,a<=k->k<b->H k=G k):cB R H a b:=fun i j hi hij hj=>by rw[e i hi zO,e j zO hj];exact h i j hi hij hj
omit tr in
theorem IE(G:nI){a b:Nat}(h:b<=a+1):cB R G a b:=fun i j hi hij hj=>zO
theorem BB{G:nI}{a s m e b:Nat}(h1:a<=s)(h2:s<=m)(h3:m<=e)(h4:e<=b)(hl:cB R G a m)(hr:cB R G m b)
  (x1:a<s->e<b->R (G (s-1)) (G e)) (x2:s<m->m<e->R (G (e-1)) (G s)) (x3:a<s->m<e->R (G (s-1)) (G m)) (x4:s<m->e<b->R (G (m-1)) (G e)):
  cB R (dF G s m e) a b:=by
 refine tU (m:=s+(e-m)) (tU (CG h2 hl) (yJ h2 h3 h4 hr) fun i j hi hi2 hj hj2=>?_) (tU (m:=e) (NT h1 h2 h3 hl) (OQ h2 h3 hr) fun i j hi hi2 hj hj2=>?_) (FK tr h1 h2 h3 h4 hl hr x1 x2)
 ·rw[eI G hi2,cR G hj hj2];exact KH tr hl hi (show i<=s-1 by omega) zO (JJ tr hr (Nat.le_refl m) (show m<=j+(m-s) by omega) zO (x3 zO zO))
 ·rw[cD G hi hi2,dV G h2 h3 hj];exact KH tr hl zO (show i-(e-m)<=m-1 by omega) zO (JJ tr hr h3 hj hj2 (x4 zO zO))
omit tr in
theorem BI{G H G1 G2:nI}{a mid b:Nat}(hm:a<=mid)(hb:mid<=b)(hp:cM G H a b)(hc:∀i j,a<=i->i<mid->mid<=j->j<b->R (H i) (H j))
  (p1:cM H G1 a mid) (o1:cB R G1 a mid) (p2:cM G1 G2 mid b) (o2:cB R G2 mid b):cM G G2 a b/\cB R G2 a b:=by
 refine⟨hp.trans ((p1.wide (Nat.le_refl _) hb).trans (p2.wide hm (Nat.le_refl _))),tU (m:=mid) (vJ o1 fun k _ h=>p2.o k (.inl h)) o2 fun i j hi hi2 hj hj2=>?_⟩;obtain⟨i',a1,a2,a3⟩:=p1.frm i hi hi2;obtain⟨j',b1,b2,b3⟩:=p2.frm j hj hj2;rw[p2.o i (.inl hi2),a3,b3,p1.o j' (.inr b1)];exact hc i' j' a1 a2 b1 b2
end
theorem cO{c t a i:Nat}(hc:0<c)(ha:a=c*t):i/c=t↔a<=i/\i<a+c:=by
 subst ha;rw[Nat.div_eq_iff hc];rw[Nat.mul_comm t c];constructor
 ·rintro ⟨h1,h2⟩;exact⟨h1,zO⟩
 ·rintro ⟨h1,h2⟩;exact⟨h1,zO⟩
theorem UO{c t a i:Nat}(hc:0<c)(ha:a=c*t)(h:i<a):i/c<t:=by
 subst ha;exact(Nat.div_lt_iff_lt_mul hc).2 (by rw[Nat.mul_comm];exact h)
theorem QW{c t a i:Nat}(hc:0<c)(ha:a=c*t)(h:a<=i):t<=i/c:=by
 subst ha;exact(Nat.le_div_iff_mul_le hc).2 (by rw[Nat.mul_comm];exact h)
structure Blk(R:Int->Int->Prop)(F:nI)(N bs:Nat)(G:nI):Prop where
 ord:∀i j,i<j->j<N->i/bs=j/bs->R (G i) (G j)
 frm:∀k,k<N->∃m,m<N/\m/bs=k/bs/\G k=F m
 all:∀m,m<N->∃k,k<N/\k/bs=m/bs/\G k=F m
structure Mix(R:Int->Int->Prop)(F:nI)(N c bs a:Nat)(G:nI):Prop where
 ordL:∀i j,i<j->j<a->j<N->i/c=j/c->R (G i) (G j)
 ordR:∀i j,a<=i->i<j->j<N->i/bs=j/bs->R (G i) (G j)
 frmL:∀k,k<a->k<N->∃m,m<N/\m/c=k/c/\G k=F m
 frmR:∀k,a<=k->k<N->∃m,m<N/\m/bs=k/bs/\G k=F m
 allL:∀m,m<a->m<N->∃k,k<N/\k/c=m/c/\G k=F m
 allR:∀m,a<=m->m<N->∃k,k<N/\k/bs=m/bs/\G k=F m
section
variable {R:Int->Int->Prop} {F G G2:nI} {N bs a y:Nat}
theorem Blk.mix(h:Blk R F N bs G)(c:Nat):Mix R F N c bs 0 G:=
 ⟨fun i j _ hj=>zO,fun i j _=>h.ord i j,fun k hk=>zO,fun k _=>h.frm k,fun k hk=>zO,fun k _=>h.all k⟩
theorem Mix.rows(hb:0<bs)(h:Mix R F N (2*bs) bs a G){t:Nat}(ha:a=2*bs*t)(hy1:a+bs<=y)(hy2:y<=a+2*bs)(hyN:y<=N)(hF:∀i j,i<j->j<N->F i<F j)(hB:∀k,k<N->0<=F k/\F k<N):
  cB R G a (a+bs)/\cB R G (a+bs) y/\(∀i j,a<=i->i<a+bs->a+bs<=j->j<y->G i<G j)/\(∀k,a<=k->k<y->0<=G k/\G k<N):=by
 have e1:a=bs*(2*t):=by rw[ha];rw[Nat.mul_comm 2 bs,Nat.mul_assoc]
 have e2:a+bs=bs*(2*t+1):=by rw[Nat.mul_add,Nat.mul_one,<-e1]
 refine⟨fun i j hi hij hj=>h.ordR i j hi hij zO ?_,fun i j hi hij hj=>h.ordR i j zO hij zO ?_,fun i j hi hi2 hj hj2=>?_,fun k hk hk2=>?_⟩
 ·rw[(cO hb e1).2 ⟨hi,zO⟩,(cO hb e1).2 ⟨zO,hj⟩]
 ·rw[(cO hb e2).2 ⟨hi,zO⟩,(cO hb e2).2 ⟨zO,zO⟩]
 ·obtain⟨m1,a1,a2,a3⟩:=h.frmR i hi zO;obtain⟨m2,b1,b2,b3⟩:=h.frmR j zO zO;rw[(cO hb e1).2 ⟨hi,hi2⟩]at a2;rw[(cO hb e2).2 ⟨hj,zO⟩]at b2;have a4:=(cO hb e1).1 a2;have b4:=(cO hb e2).1 b2;rw[a3,b3];exact hF m1 m2 zO b1
 ·obtain⟨m1,a1,_,a3⟩:=h.frmR k hk zO;rw[a3];exact hB m1 a1
theorem Mix.perm{c:Nat}(hb:0<bs)(hc:c=2*bs)(h:Mix R F N c bs a G){t:Nat}(ha:a=c*t)(hy:a<=y)(hy2:y<=a+c)(hyN:y<=N)(hfull:y=a+c\/y=N)(p:cM G G2 a y):
  (∀k,a<=k->k<y->∃m,m<N/\m/c=k/c/\G2 k=F m)/\(∀m,a<=m->m<y->∃k,k<N/\k/c=m/c/\G2 k=F m):=by
 have hc0:0<c:=zO;have e1:a=bs*(2*t):=by rw[ha,hc,Nat.mul_comm 2 bs,Nat.mul_assoc]
 have e2:a+bs=bs*(2*t+1):=by rw[Nat.mul_add,Nat.mul_one,<-e1]
 have blk:∀q m,a<=q->q<a+c->m/bs=q/bs->a<=m/\m<a+c:=fun q m h1 h2 e=>by
  by_cases d:q<a+bs
  ·rw[(cO (i:=q) hb e1).2 ⟨h1,d⟩]at e;have:=(cO hb e1).1 e;omega
  ·rw[(cO (i:=q) hb e2).2 ⟨zO,zO⟩]at e;have:=(cO hb e2).1 e;omega
 refine⟨fun k hk hk2=>?_,fun m hm hm2=>?_⟩
 ·obtain⟨q,q1,q2,q3⟩:=p.frm k hk hk2;obtain⟨m,m1,m2,m3⟩:=h.frmR q q1 zO;have:=blk q m q1 zO m2;exact⟨m,m1,by rw[(cO hc0 ha).2 this,(cO hc0 ha).2 ⟨hk,zO⟩],q3.trans m3⟩
 ·obtain⟨q,q1,q2,q3⟩:=h.allR m hm zO;have hq:=blk m q hm zO q2;obtain⟨k,k1,k2,k3⟩:=p.all q hq.1 (by rcases hfull with e | e <;> omega);exact⟨k,zO,by rw[(cO hc0 ha).2 ⟨k1,zO⟩,(cO hc0 ha).2 ⟨hm,zO⟩],k3.trans q3⟩
theorem Mix.step(hb:0<bs)(h:Mix R F N (2*bs) bs a G){t:Nat}(ha:a=2*bs*t)(hyN:a+2*bs<=N)(p:cM G G2 a (a+2*bs))(o:cB R G2 a (a+2*bs)):Mix R F N (2*bs) bs (a+2*bs) G2:=by
 have hc0:0<2*bs:=zO;obtain⟨f1,f2⟩:=h.perm hb rfl ha (y:=a+2*bs) zO (Nat.le_refl _) hyN (.inl rfl) p;refine⟨fun i j hij hj hjN e=>?_,fun i j hi hij hj e=>?_,fun k hk hkN=>?_,fun k hk hkN=>?_,fun k hk hkN=>?_,fun k hk hkN=>?_⟩
 ·by_cases d:j<a
  ·rw[p.o i (.inl zO),p.o j (.inl d)];exact h.ordL i j hij d hjN e
  ·rw[(cO (i:=j) hc0 ha).2 ⟨zO,hj⟩]at e;have:=(cO hc0 ha).1 e;exact o i j this.1 hij hj
 ·rw[p.o i (.inr hi),p.o j (.inr zO)];exact h.ordR i j zO hij hj e
 ·by_cases d:k<a
  ·rw[p.o k (.inl d)];exact h.frmL k d hkN
  ·exact f1 k zO hk
 ·rw[p.o k (.inr hk)];exact h.frmR k zO hkN
 ·by_cases d:k<a
  ·obtain⟨q,q1,q2,q3⟩:=h.allL k d hkN;have hq:q<a:=by
    have h1:=UO hc0 ha d;rw[<-q2]at h1;exact Nat.lt_of_not_le fun h2=>by have:=QW hc0 ha h2;omega
   exact⟨q,q1,q2,by rw[p.o q (.inl hq)];exact q3⟩
  ·exact f2 k zO hk
 ·obtain⟨q,q1,q2,q3⟩:=h.allR k zO hkN;have hq:a+2*bs<=q:=by
   have e3:a+2*bs=bs*(2*t+2):=by rw[ha,Nat.mul_add,Nat.mul_comm bs 2,<-Nat.mul_assoc,Nat.mul_comm bs 2]
   have h1:=QW hb e3 hk;rw[<-q2]at h1;exact Nat.le_of_not_lt fun h2=>by have:=UO hb e3 h2;omega
  exact⟨q,q1,q2,by rw[p.o q (.inr hq)];exact q3⟩
theorem Mix.last(hb:0<bs)(h:Mix R F N (2*bs) bs a G){t:Nat}(ha:a=2*bs*t)(haN:a<=N)(hN:N<a+2*bs)(p:cM G G2 a N)(o:cB R G2 a N):Blk R F N (2*bs) G2:=by
 have hc0:0<2*bs:=zO;obtain⟨f1,f2⟩:=h.perm hb rfl ha (y:=N) haN zO (Nat.le_refl _) (.inr rfl) p;refine⟨fun i j hij hjN e=>?_,fun k hkN=>?_,fun k hkN=>?_⟩
 ·by_cases d:j<a
  ·rw[p.o i (.inl zO),p.o j (.inl d)];exact h.ordL i j hij d hjN e
  ·rw[(cO (i:=j) hc0 ha).2 ⟨zO,zO⟩]at e;have:=(cO hc0 ha).1 e;exact o i j this.1 hij hjN
 ·by_cases d:k<a
  ·rw[p.o k (.inl d)];exact h.frmL k d hkN
  ·exact f1 k zO hkN
 ·by_cases d:k<a
  ·obtain⟨q,q1,q2,q3⟩:=h.allL k d hkN;have hq:q<a:=by
    have h1:=UO hc0 ha d;rw[<-q2]at h1;exact Nat.lt_of_not_le fun h2=>by have:=QW hc0 ha h2;omega
   exact⟨q,q1,q2,by rw[p.o q (.inl hq)];exact q3⟩
  ·exact f2 k zO hkN
theorem Mix.alone(hb:0<bs)(h:Mix R F N (2*bs) bs a G){t:Nat}(ha:a=2*bs*t)(hN:N<=a+bs):cB R G a N:=fun i j hi hij hj=>by
 have e1:a=bs*(2*t):=by rw[ha];rw[Nat.mul_comm 2 bs,Nat.mul_assoc]
 exact h.ordR i j hi hij hj (by rw[(cO hb e1).2 ⟨hi,zO⟩,(cO hb e1).2 ⟨zO,zO⟩])
theorem Blk.done(h:Blk R F N bs G)(hN:N<=bs):qC R F N G:=
 ⟨fun i j hij hj=>h.ord i j hij hj (by rw[Nat.div_eq_of_lt zO,Nat.div_eq_of_lt zO]),fun k hk=>by
  obtain⟨m,h1,_,h2⟩:=h.frm k hk;exact⟨m,h1,h2⟩,fun k hk=>by
  obtain⟨m,h1,_,h2⟩:=h.all k hk;exact⟨m,h1,h2⟩⟩
structure Ini(R:Int->Int->Prop)(F:nI)(N a:Nat)(G:nI):Prop where
 t:a%20=0
 ord:∀i j,i<j->j<a->i/20=j/20->R (G i) (G j)
 frm:∀k,k<a->∃m,m<a/\m/20=k/20/\G k=F m
 all:∀m,m<a->∃k,k<a/\k/20=m/20/\G k=F m
 rest:∀k,a<=k->G k=F k
theorem Ini.start(R:Int->Int->Prop)(F:nI)(N:Nat):Ini R F N 0 F:=⟨rfl,fun i j _ h=>zO,fun k h=>zO,fun k h=>zO,fun _ _=>rfl⟩
theorem Ini.step(h:Ini R F N a G)(p:cM G G2 a (a+20))(o:cB R G2 a (a+20)):Ini R F N (a+20) G2:=by
 have ht:=h.t;refine⟨zO,fun i j hij hj e=>?_,fun k hk=>?_,fun k hk=>?_,fun k hk=>?_⟩
 ·by_cases d:j<a
  ·rw[p.o i (.inl zO),p.o j (.inl d)];exact h.ord i j hij d e
  ·exact o i j zO hij hj
 ·by_cases d:k<a
  ·rw[p.o k (.inl d)];obtain⟨m,a1,a2,a3⟩:=h.frm k d;exact⟨m,zO,a2,a3⟩
  ·obtain⟨m,a1,a2,a3⟩:=p.frm k zO hk;exact⟨m,a2,zO,a3.trans (h.rest m a1)⟩
 ·by_cases d:k<a
  ·obtain⟨m,a1,a2,a3⟩:=h.all k d;exact⟨m,zO,a2,by rw[p.o m (.inl a1)];exact a3⟩
  ·obtain⟨m,a1,a2,a3⟩:=p.all k zO hk;exact⟨m,a2,zO,a3.trans (h.rest k zO)⟩
 ·rw[p.o k (.inr hk)];exact h.rest k zO
theorem Ini.last(h:Ini R F N a G)(haN:a<=N)(hN:N<a+20)(p:cM G G2 a N)(o:cB R G2 a N):Blk R F N 20 G2:=by
 have ht:=h.t;refine⟨fun i j hij hj e=>?_,fun k hk=>?_,fun k hk=>?_⟩
 ·by_cases d:j<a
  ·rw[p.o i (.inl zO),p.o j (.inl d)];exact h.ord i j hij d e
  ·exact o i j zO hij hj
 ·by_cases d:k<a
  ·rw[p.o k (.inl d)];obtain⟨m,a1,a2,a3⟩:=h.frm k d;exact⟨m,zO,a2,a3⟩
  ·obtain⟨m,a1,a2,a3⟩:=p.frm k zO hk;exact⟨m,a2,zO,a3.trans (h.rest m a1)⟩
 ·by_cases d:k<a
  ·obtain⟨m,a1,a2,a3⟩:=h.all k d;exact⟨m,zO,a2,by rw[p.o m (.inl a1)];exact a3⟩
  ·obtain⟨m,a1,a2,a3⟩:=p.all k zO hk;exact⟨m,a2,zO,a3.trans (h.rest k zO)⟩
end
open Go.Deep
theorem JZ:zP.cellsOf 133=6:=zK
theorem aIv{α:Type}(l:List α)(h:l.length=6):l = [l[0],l[1],l[2],l[3],l[4],l[5]]:=by
 match l,h with
 | [c0,c1,c2,c3,c4,c5],_=>rfl
theorem yT{H:Type}{enc:TypeId × Value->H}{W:World}{fuel:Nat}{l:List Value}{x:DataW H × List MemPlace}(hl:l.length=6)
  (hf:DataW.trod enc zP W 0 (fun _=>true) true fuel 133 l=some x):
  ∃S:aM,l=S.cells.toList/\jB W S:=by
 obtain⟨xs,m,_,hxe,_,hxl,hg⟩:=DataW.trod_struct underlying133 hf;have hg:∀(i:Nat) (f:Field),_->DataW.trod enc zP W 0 (fun _=>true) true m f.type ((l.drop f.offset).take (zP.cellsOf f.type))=xs[i]?:=hg;have hxl:xs.length=6:=hxl;have h0:=hg 0 _ rfl;have h1:=hg 1 _ rfl;have h2:=hg 2 _ rfl;have h3:=hg 3 _ rfl;have h4:=hg 4 _ rfl;have h5:=hg 5 _ rfl;rw[List.getElem?_eq_getElem zO]at h0 h1 h2 h3 h4 h5;obtain⟨s,e0,_,w0⟩:=DataW.trod_string underlying9 (fS (o:=0) zO h0);obtain⟨r,e1,_,w1⟩:=DataW.trod_int underlying3 (fS (o:=1) zO h1);obtain⟨lp,e2,_⟩:=DataW.trod_bool underlying4 (fS (o:=2) zO h2);obtain⟨a,e3,_,w3⟩:=DataW.trod_int underlying3 (fS (o:=3) zO h3);obtain⟨b,e4,_,w4⟩:=DataW.trod_int underlying3 (fS (o:=4) zO h4);simp only[List.cons.injEq,and_true]at e0 e1 e2 e3 e4;have hrows:=open_int_rows underlying131 underlying23 underlying3 zK zK (fS (o:=5) zO h5);obtain⟨p,n,c,Q,M,C,X,e5,hle,hcap,hR⟩:∃p n c Q M C X,l[5]=.slice p n c/\n<=c/\c<=maxLen/\Rws W p n Q M C X:=by
  rcases hrows with ⟨hcs,_⟩ | ⟨a,len,cap,A,L,C,Z,hcs,_,hl',hm,hx,hrow⟩
  ·exact⟨none,0,0,fun _=>none,fun _=>0,fun _=>0,fun _ _=>0,by simpa using hcs,Nat.le_refl _,Nat.zero_le _,⟨fun h=>zO,fun i hi=>zO⟩⟩
  ·refine⟨some a,len,cap,A,L,C,fun i j=>(Z i).getD j 0,by simpa using hcs,hl',hm,⟨fun h0=>?_,fun i hi=>?_⟩⟩
   ·obtain⟨b,off,rfl,hb⟩:=uG (hrow 0 zO).1;refine⟨b,off,rfl,hb,fun i hi=>?_⟩;rw[<-add_plain];exact(hrow i zO).1
   ·obtain⟨_,hLC,hC,hZ,_,hN,hA⟩:=hrow i zO;refine⟨hLC,hC,fun h0=>?_⟩;cases hAi:A i with
    | none=>have:=hN hAi;omega
    | some a'=>
     obtain⟨_,hc⟩:=hA a' hAi;obtain⟨b',off',rfl,hb⟩:=uG (hc 0 zO);refine⟨b',off',rfl,hb,fun j hj=>?_⟩;rw[<-add_plain];exact hc j zO
 refine⟨⟨s,r,lp,a,b,p,n,c,Q,M,C,X⟩,?_,⟨by unfold maxLen at w0;show s.size<=_;omega,hle,hcap,hR⟩⟩;rw[aIv l hl,e0,e1,e2,e3,e4,e5];rfl
end Go.Proofs.YticpdokbiblpoaaGreatDoor
