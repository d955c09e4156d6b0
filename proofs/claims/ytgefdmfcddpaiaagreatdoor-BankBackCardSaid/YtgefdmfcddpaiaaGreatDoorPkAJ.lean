/- Texts joined: Byt. -/
import Derived.Lib.LazyBuf
import Derived.Test.YtgefdmfcddpaiaaGreatDoorPkAB
import Derived.Test.YtgefdmfcddpaiaaGreatDoorPkAD
namespace Go.Proofs.YtgefdmfcddpaiaaGreatDoor
set_option linter.unusedVariables false
set_option maxRecDepth 100000
open Go.RowKit Go.ChangeShapes Go.WideShapes
def bU(F:Nat->Int):Nat->Value:=fun j=>.int .u8 (F j)
def SlU(w:World)(p:Option Addr)(n:Nat)(F:Nat->Int):Prop:=0<n->∃g o,p=some ⟨g,o,none⟩/\g<w.heap.size/\∀j,j<n->w.cell? ⟨g,o+j,none⟩=some (.int .u8 (F j))
def Byt(F:Nat->Int)(n:Nat):Prop:=∀j,j<n->0<=F j/\F j<=255
namespace SlU
variable {w w':World} {p:Option Addr} {n:Nat} {F:Nat->Int}
theorem old(h:SlU w p n F)(k:Old w w'):SlU w' p n F:=fun hn=>by
 obtain⟨g,o,h1,h2,h3⟩:=h hn
 exact⟨g,o,h1,Nat.lt_of_lt_of_le h2 k.size,fun j hj=>(k.cell (a:=⟨g,o+j,none⟩) h2).trans (h3 j hj)⟩
theorem ext{G:Nat->Int}(h:SlU w p n F)(e:∀j,j<n->F j=G j):SlU w p n G:=fun hn=>by
 obtain⟨g,o,h1,h2,h3⟩:=h hn
 exact⟨g,o,h1,h2,fun j hj=>by rw [←e j hj];exact h3 j hj⟩
theorem slI(h:SlU w p n F){cap:Nat}(h1:n<=cap)(h2:cap<=maxLen):SlI w .u8 (.slice p n cap) (lst F n):=by
 refine⟨p,cap,by rw [lst_len],fun hne=>?_⟩
 have hn:0<n:=by
  rcases Nat.eq_zero_or_pos n with h | h
  ·subst h;exact absurd rfl hne
  ·exact h
 obtain⟨g,o,e1,e2,e3⟩:=h hn
 refine⟨g,o,e1,e2,by rw [lst_len];exact h1,h2,fun i hi=>?_⟩
 rw [lst_len] at hi
 rw [e3 i hi,lst_getD F n i hi]
end SlU
def UAt(w:World)(g m:Nat)(F:Nat->Int):Prop:=CellsV w g m (bU F)
namespace UAt
variable {w w':World} {g m:Nat} {F:Nat->Int} {Y:Nat->Prop}
theorem lt(h:UAt w g m F):g<w.heap.size:=CellsV.lt h
theorem at_(h:UAt w g m F)(j:Nat)(hj:j<m):w.cell? ⟨g,j,none⟩=some (.int .u8 (F j)):=CellsV.cell h j hj
theorem fz(h:UAt w g m F)(j:Nat)(hj:j<m):w.frozen? ⟨g,j,none⟩=false:=CellsV.frz h j hj
theorem kept(h:UAt w g m F)(k:Kept Y w w')(hY:Y g):UAt w' g m F:=CellsV.kept h k hY
theorem old(h:UAt w g m F)(k:Old w w'):UAt w' g m F:=CellsV.old h k
theorem ext{G:Nat->Int}(h:UAt w g m F)(e:∀j,j<m->F j=G j):UAt w g m G:=CellsV.ext h fun j hj=>by unfold bU;rw [e j hj]
theorem set(h:UAt w g m F)(j:Nat)(hj:j<m)(v:Int):UAt (w.setCell ⟨g,j,none⟩ (.int .u8 v)) g m (fun k=>if k=j then v else F k):=by
 refine⟨by have:=h.lt;simpa [World.setCell] using this,fun k hk=>?_,fun k hk=>by rw [World.frozen?_setCell];exact h.fz k hk⟩
 unfold bU
 by_cases e:k=j
 ·subst e;rw [World.cell?_setCell_same _ _ _ (h.at_ k hk)];simp only [if_true]
 ·rw [World.cell?_setCell_other _ _ _ _ (fun e'=>e (by injection e' with _ e2;exact e2.symm))];simp only [if_neg e];exact h.at_ k hk
theorem sl(h:UAt w g m F)(o n:Nat)(hn:o+n<=m):SlU w (some ⟨g,o,none⟩) n (fun j=>F (o+j)):=fun _=>⟨g,o,rfl,h.lt,fun j hj=>h.at_ (o+j) (by omega)⟩
theorem there(h:UAt w g m F)(o n:Nat)(hn:o+n<=m):w.there g o n:=fun j hj=>⟨by rw [h.at_ (o+j) (by omega)];rfl,h.fz (o+j) (by omega)⟩
theorem setCells(h:UAt w g m F)(o n:Nat)(hn:o+n<=m)(f:Nat->Int):UAt (w.setCells g o ((lst f n).map (Value.int .u8))) g m (patch F o n f):=by
 have e:(lst f n).map (Value.int .u8)=(rowN n (bU f)).toList:=by rw [rowN_list];simp [lst,bU,Function.comp_def]
 rw [e]
 refine CellsV.ext (CellsV.setCells h o n hn (bU f)) fun j hj=>?_
 show (if o<=j/\j<o+n then Value.int .u8 (f (j-o)) else Value.int .u8 (F j))=Value.int .u8 (if o<=j/\j<o+n then f (j-o) else F j)
 split <;> rfl
end UAt
theorem uAt_new(w:World)(m:Nat)(F:Nat->Int)(t:TypeId):UAt (w.alloc (.cells (rowN m (bU F)) t)) w.heap.size m F:=cellsV_of (heap_alloc_new _ _)
theorem u8_one(xs:List Int):∀v∈xs.map (Value.int .u8),v.oneCell'=true:=by
 intro v hv
 obtain⟨i,_,rfl⟩:=List.mem_map.1 hv
 rfl
theorem wp_copy_u8{P:Program}{w:World}{o:Oper}{a:Act}{K:Act->World->Prop}{Q:Exit->Act->World->Prop}(d s:Operand)(dT sT:TypeId)
  (ho:o.op = .call { callee:=.builtin .copy,args:=#[d,s],argTypes:=#[dT,sT] }) (elem:TypeId) (hu:P.underlying dT=some (.slice elem)) (hsz:(P.info? elem).map (·.size)=some 1)
  (n:Nat) (f:Nat->Int) (g off dLen dCap b so sLen sCap:Nat) (hd:a.eval d = .slice (some ⟨g,off,none⟩) dLen dCap) (hs:a.eval s = .slice (some ⟨b,so,none⟩) sLen sCap) (hn:n=Nat.min sLen dLen)
  (hsrc:∀j,j<n->w.cell? ⟨b,so+j,none⟩=some (.int .u8 (f j))) (ht:w.there g off n)
  (h:K (a.put o.dst (.int .i64 (n:Int))) (w.setCells g off ((lst f n).map (Value.int .u8)))):o.wp P a w K Q:=by
 have hlen:((lst f n).map (Value.int .u8)).length=n:=by rw [List.length_map,lst_len]
 have hrun:=run_copy_cells (P:=P) w dT sT o.type elem g off dLen dCap ⟨b,so,none⟩ sLen sCap ((lst f n).map (Value.int .u8)) hu hsz (by rw [hlen];exact hn)
  (fun j v hv=>by
   have hj:j<n:=by
    rcases Nat.lt_or_ge j n with h | h
    ·exact h
    ·rw [List.getElem?_eq_none (by omega)] at hv;cases hv
   have:((lst f n).map (Value.int .u8))[j]?=some (.int .u8 (f j)):=by simp [lst,hj]
   rw [this] at hv
   cases hv
   rw [add_plain];exact hsrc j hj) (fun j hj=>(ht j (by rw [hlen] at hj;exact hj)).1) (fun j hj=>(ht j (by rw [hlen] at hj;exact hj)).2) (u8_one _)
 rw [hlen] at hrun
 unfold Oper.wp
 simp [execOp,ho,resolve,invoke,builtin,hd,hs,hrun,Result.andThen]
 exact h
theorem str_cells(t:ByteArray):(t.data.toList.map fun x=>Value.int .u8 (x.toNat:Int))=(lst (bsI t) t.size).map (Value.int .u8):=by
 apply List.ext_getElem
 ·rw [List.length_map,List.length_map,lst_len,←Lib.size_eq]
 ·intro i h1 h2
  have hi:i<t.size:=by
   have h3:i<t.data.toList.length:=by simpa using h1
   rw [←Lib.size_eq] at h3
   exact h3
  have e:=bsI_index t i hi
  simp only [lst,List.getElem_map,List.getElem_range]
  rw [←e]
  rfl
theorem wp_copy_str{P:Program}{w:World}{o:Oper}{a:Act}{K:Act->World->Prop}{Q:Exit->Act->World->Prop}(d s:Operand)(dT sT:TypeId)
  (ho:o.op = .call { callee:=.builtin .copy,args:=#[d,s],argTypes:=#[dT,sT] }) (elem:TypeId) (hu:P.underlying dT=some (.slice elem)) (hz:∀w,(Go.sizeOf elem).run P w = .ok 1 w)
  (t:ByteArray) (g off dLen dCap:Nat) (hd:a.eval d = .slice (some ⟨g,off,none⟩) dLen dCap) (hs:a.eval s = .string t) (hle:t.size<=dLen) (ht:w.there g off t.size)
  (h:K (a.put o.dst (.int .i64 (t.size:Int))) (w.setCells g off ((lst (bsI t) t.size).map (Value.int .u8)))):o.wp P a w K Q:=by
 have hrun:=run_copy_string (P:=P) w dT sT o.type elem g off dLen dCap t hu hz hle (fun j hj=>(ht j hj).1) (fun j hj=>(ht j hj).2)
 rw [str_cells] at hrun
 unfold Oper.wp
 simp [execOp,ho,resolve,invoke,builtin,hd,hs,hrun,Result.andThen]
 exact h
theorem bU_list(n:Nat)(F:Nat->Int)(j:Nat)(v:Value)(h:(rowN n (bU F)).toList[j]?=some v):j<n/\v = .int .u8 (F j):=rowN_list_at h
theorem wp_load_u8{P:Program}{op:Oper}{a:Act}{w:World}{K:Act->World->Prop}{Q:Exit->Act->World->Prop}(n:Nat)(f:Nat->Int)(ty:TypeId)(x:Operand)(ho:op.op = .load ty x)
  (b o:Nat) (hx:a.eval x = .pointer (some ⟨b,o,none⟩)) (d:TypeDesc) (hc:∀j,j<n->w.cell? ⟨b,o+j,none⟩=some (.int .u8 (f j)))
  (hu:P.underlying ty=some d) (hd:d.isRow=true) (hi:(P.info? ty).map (·.size)=some n) (h:K (a.put op.dst (.agg (rowN n (bU f)))) w):op.wp P a w K Q:=
 wp_load_mid ty x ho b o hx (rowN n (bU f)).toList d (fun j v hv=>by obtain⟨hj,rfl⟩:=bU_list n f j v hv;exact hc j hj) hu hd (by rw [rowN_list_len];exact hi) h
theorem wpList_load_u8{P:Program}{ops:Array Oper}{rest:List Oper}{op:Oper}{a:Act}{w:World}{Q:Exit->Act->World->Prop}(hgd:op.guard=none)(n:Nat)(f:Nat->Int)(ty:TypeId)(x:Operand)(ho:op.op = .load ty x)
  (b o:Nat) (hx:a.eval x = .pointer (some ⟨b,o,none⟩)) (d:TypeDesc) (hc:∀j,j<n->w.cell? ⟨b,o+j,none⟩=some (.int .u8 (f j)))
  (hu:P.underlying ty=some d) (hd:d.isRow=true) (hi:(P.info? ty).map (·.size)=some n) (h:wpList P ops Q rest (a.put op.dst (.agg (rowN n (bU f)))) w):wpList P ops Q (op :: rest) a w:=
 wpList_plain hgd fun _ hK=>wp_load_u8 n f ty x ho b o hx d hc hu hd hi (hK _ _ h)
theorem yieldsIf_load_u8{P:Program}{ops:Array Oper}{S:World->Prop}{op:Oper}{a:Act}(n:Nat)(f:Nat->Int)(hw:Region.wanted op (yielded ops a.tmps)=true)(ty:TypeId)(x:Operand)(ho:op.op = .load ty x)
  (b o:Nat) (hx:a.eval x = .pointer (some ⟨b,o,none⟩)) (d:TypeDesc) (hS:∀w,S w->∀j,j<n->w.cell? ⟨b,o+j,none⟩=some (.int .u8 (f j)))
  (hu:P.underlying ty=some d) (hd:d.isRow=true) (hi:(P.info? ty).map (·.size)=some n):YieldsIf P ops S op (.agg (rowN n (bU f))) a:=
 yieldsIf_load_mid hw ty x ho b o hx (rowN n (bU f)).toList d (fun w hw' j v hv=>by obtain⟨hj,rfl⟩:=bU_list n f j v hv;exact hS w hw' j hj) hu hd (by rw [rowN_list_len];exact hi)
end Go.Proofs.YtgefdmfcddpaiaaGreatDoor
