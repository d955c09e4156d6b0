/- Texts joined: FrameA, FrsL, SameL, RightL, FrBitsL, SpecL, EncL, FrBytesL, WithinL, TonesL, TonesM, FrReadA, FrReadL. -/
import Derived.Deep.RegionHeld
import Derived.Test.YtgefdmfcddpaiaaGreatDoorPkAC
import Derived.Test.YtgefdmfcddpaiaaGreatDoorPkAD
import Derived.Test.YtgefdmfcddpaiaaGreatDoorPkAG
import Derived.Test.YtgefdmfcddpaiaaGreatDoorPkAH
import Derived.Test.YtgefdmfcddpaiaaGreatDoorTk
namespace Go.Proofs.YtgefdmfcddpaiaaGreatDoor
set_option linter.unusedVariables false
set_option maxRecDepth 100000
open Go.RowKit Go.ChangeShapes Go.WideShapes
def frC(F:Nat->Int)(s:Value):Nat->Value:=fun k=>if k=4 then s else .int .i64 (F k)
theorem frC_set(F:Nat->Int)(s s':Value):updN (frC F s) 4 s'=frC F s':=by
 funext k
 unfold updN frC
 split <;> rfl
theorem frC_upd(F:Nat->Int)(s:Value)(j:Nat)(hj:j≠4)(v:Int):updN (frC F s) j (.int .i64 v)=frC (fun k=>if k=j then v else F k) s:=by
 funext k
 unfold updN frC
 by_cases h:k=j
 ·subst h;simp [hj]
 ·simp [h]
theorem frC_one(F:Nat->Int)(s:Value)(h:s.oneCell'=true):(rowN 29 (frC F s)).all (·.oneCell')=true:=rowN_one _ _ fun k _=>by
 unfold frC
 split
 ·exact h
 ·rfl
theorem frC_ext{F G:Nat->Int}(s:Value)(h:∀k,k<29->k≠4->F k=G k):rowN 29 (frC F s)=rowN 29 (frC G s):=rowN_ext _ _ _ fun k hk=>by
 unfold frC
 split
 ·rfl
 ·next h4=>rw [h k hk h4]
theorem frC_zero:rowN 29 (frC (fun _=>0) (.slice none 0 0))=#[.int .i64 0,.int .i64 0,.int .i64 0,.int .i64 0,.slice none 0 0,.int .i64 0,.int .i64 0,.int .i64 0,.int .i64 0,.int .i64 0,.int .i64 0,.int .i64 0,.int .i64 0,.int .i64 0,.int .i64 0,.int .i64 0,.int .i64 0,.int .i64 0,.int .i64 0,.int .i64 0,.int .i64 0,.int .i64 0,.int .i64 0,.int .i64 0,.int .i64 0,.int .i64 0,.int .i64 0,.int .i64 0,.int .i64 0]:=rfl
def FrB(t:TypeId)(w:World)(b:Nat)(F:Nat->Int)(s:Value):Prop:=w.heap[b]?=some (.cells (rowN 29 (frC F s)) t (0,0))
namespace FrB
variable {t:TypeId} {w w':World} {b:Nat} {F:Nat->Int} {s:Value} {X:Nat->Prop}
theorem new(w:World)(F:Nat->Int)(s:Value):FrB t (w.alloc (.cells (rowN 29 (frC F s)) t)) w.heap.size F s:=heap_alloc_new _ _
theorem old(h:FrB t w b F s)(k:Old w w'):FrB t w' b F s:=(k.block b (lt_of_block h)).trans h
theorem kept(h:FrB t w b F s)(k:Kept X w w')(hX:X b):FrB t w' b F s:=(k.block b hX).trans h
theorem cell4(h:FrB t w b F s):w.cell? ⟨b,4,none⟩=some s/\w.frozen? ⟨b,4,none⟩=false:=
 ⟨(cell_of_row _ _ _ _ _ _ h).trans (rowN_at 29 (frC F s) 4 (by omega)),frozen_of_row _ _ _ _ _ h⟩
theorem cell(h:FrB t w b F s)(j:Nat)(hj:j<29)(h4:j≠4):w.cell? ⟨b,j,none⟩=some (.int .i64 (F j))/\w.frozen? ⟨b,j,none⟩=false:=
 ⟨by rw [(cell_of_row _ _ _ _ _ _ h).trans (rowN_at 29 (frC F s) j hj)];unfold frC;rw [if_neg h4],frozen_of_row _ _ _ _ _ h⟩
theorem part(h:FrB t w b F s)(o n:Nat)(ho:o+n<=4\/(4<o/\o+n<=29)):∀j,j<n->w.cell? ⟨b,o+j,none⟩=some (.int .i64 (F (o+j))):=fun j hj=>(h.cell (o+j) (by omega) (by omega)).1
theorem set4(h:FrB t w b F s)(s':Value):FrB t (w.setCell ⟨b,4,none⟩ s') b F s':=by
 unfold FrB
 rw [←frC_set F s s',←rowN_set 29 _ 4 _ (by omega)]
 exact heap_setCell_same _ _ _ _ _ _ h
theorem set(h:FrB t w b F s)(j:Nat)(hj:j<29)(h4:j≠4)(v:Int):FrB t (w.setCell ⟨b,j,none⟩ (.int .i64 v)) b (fun k=>if k=j then v else F k) s:=by
 unfold FrB
 rw [←frC_upd F s j h4 v,←rowN_set 29 _ j _ hj]
 exact heap_setCell_same _ _ _ _ _ _ h
end FrB
structure FrP(F:Nat->Int)(n:Nat)(T:Nat->Int):Prop where
 hg:∀k,k<4->0<=F k/\F k<=3
 hs:∀k,k<4->0<=F (5+k)/\F (5+k)<=23
 hw:∀k,k<4->0<=F (9+k)/\F (9+k)<=24
 hq:∀k,k<16->fitB (F (13+k)) (F (9+k/4))=true
 hn:n<=2
 ht:∀k,k<n->0<=T (2*k)/\T (2*k)<=15/\fitB (T (2*k+1)) 24=true/\(0<k->T (2*(k-1))<T (2*k))
theorem frP_iff(F:Nat->Int)(n:Nat)(T:Nat->Int):FrP F n T↔((∀k,k<4->0<=F k/\F k<=3)/\(∀k,k<4->0<=F (5+k)/\F (5+k)<=23)/\(∀k,k<4->0<=F (9+k)/\F (9+k)<=24)/\(∀k,k<16->fitB (F (13+k)) (F (9+k/4))=true)/\n<=2 /\
  (∀k,k<n->0<=T (2*k)/\T (2*k)<=15/\fitB (T (2*k+1)) 24=true/\(0<k->T (2*(k-1))<T (2*k)))):=
 ⟨fun h=>⟨h.hg,h.hs,h.hw,h.hq,h.hn,h.ht⟩,fun⟨a,b,c,d,e,f⟩=>⟨a,b,c,d,e,f⟩⟩
instance (F:Nat->Int) (n:Nat) (T:Nat->Int):Decidable (FrP F n T):=decidable_of_iff' _ (frP_iff F n T)
def sameP(F:Nat->Int)(n:Nat)(T:Nat->Int)(G:Nat->Int)(m:Nat)(U:Nat->Int):Prop:=n=m/\(∀j,j<2*n->T j=U j)/\∀k,k<29->k≠4->F k=G k
instance (F:Nat->Int) (n:Nat) (T:Nat->Int) (G:Nat->Int) (m:Nat) (U:Nat->Int):Decidable (sameP F n T G m U):=by unfold sameP;infer_instance
structure Fr where
 F:Nat->Int
 s:Value
 n:Nat
 T:Nat->Int
def ToV(X:Nat->Prop)(w:World)(x:Fr):Prop:=∃p cap,x.s = .slice p x.n cap/\x.n<=cap/\cap<=maxLen/\SlF 2 w p x.n x.T/\(0<x.n->∀a,p=some a->¬X a.block)
namespace ToV
variable {X Y:Nat->Prop} {w w':World} {x:Fr}
theorem old(h:ToV X w x)(k:Old w w'):ToV X w' x:=by
 obtain⟨p,cap,h1,h2,h3,h4,h5⟩:=h
 exact⟨p,cap,h1,h2,h3,h4.old k,h5⟩
theorem mono(h:ToV X w x)(hY:∀k,k<w.heap.size->Y k->X k):ToV Y w x:=by
 obtain⟨p,cap,h1,h2,h3,h4,h5⟩:=h
 refine⟨p,cap,h1,h2,h3,h4,fun hn a ha hY'=>?_⟩
 obtain⟨g,o,e1,e2,_⟩:=h4 hn
 rw [e1] at ha
 cases ha
 exact h5 hn _ e1 (hY _ e2 hY')
theorem kept(h:ToV X w x)(k:Kept Y w w')(hY:∀q,q<w.heap.size->¬X q->Y q):ToV X w' x:=by
 obtain⟨p,cap,h1,h2,h3,h4,h5⟩:=h
 refine⟨p,cap,h1,h2,h3,fun hn=>?_,h5⟩
 obtain⟨g,o,e1,e2,e3⟩:=h4 hn
 exact⟨g,o,e1,Nat.lt_of_lt_of_le e2 k.size,fun j hj=>(k.cell (a:=⟨g,o+j,none⟩) (hY g e2 (h5 hn _ e1))).trans (e3 j hj)⟩
theorem none(X:Nat->Prop)(w:World)(F T:Nat->Int):ToV X w ⟨F,.slice none 0 0,0,T⟩:=⟨_,0,rfl,Nat.le_refl _,Nat.zero_le _,fun h=>absurd h (by simp),fun h=>absurd h (by simp)⟩
theorem one(h:ToV X w x):x.s.oneCell'=true:=by
 obtain⟨p,cap,h1,_⟩:=h
 rw [h1];rfl
end ToV
def frsC(L:Nat->Fr):Nat->Value:=fun q=>frC (L (q/29)).F (L (q/29)).s (q%29)
theorem frsC_at(L:Nat->Fr)(i k:Nat)(hk:k<29):frsC L (i*29+k)=frC (L i).F (L i).s k:=by
 unfold frsC
 rw [show (i*29+k)/29=i by omega,show (i*29+k)%29=k by omega]
def updF(L:Nat->Fr)(k:Nat)(x:Fr):Nat->Fr:=fun i=>if i=k then x else L i
theorem updF_same(L:Nat->Fr)(k:Nat)(x:Fr):updF L k x k=x:=if_pos rfl
theorem updF_other(L:Nat->Fr)(k:Nat)(x:Fr){i:Nat}(h:i≠k):updF L k x i=L i:=if_neg h
theorem frsC_patch(L:Nat->Fr)(k:Nat)(x:Fr):patchV (frsC L) (k*29) 29 (frC x.F x.s)=frsC (updF L k x):=by
 funext q
 unfold patchV
 by_cases e:k*29<=q/\q<k*29+29
 ·rw [if_pos e]
  unfold frsC
  rw [show q/29=k by omega,updF_same,show q%29=q-k*29 by omega]
 ·rw [if_neg e]
  unfold frsC
  rw [updF_other _ _ _ (by omega)]
def FrsS(X:Nat->Prop)(w:World)(p:Option Addr)(N:Nat)(L:Nat->Fr):Prop:=(0<N->∃g o,p=some ⟨g,o,none⟩/\g<w.heap.size/\∀j,j<29*N->w.cell? ⟨g,o+j,none⟩=some (frsC L j))/\∀i,i<N->ToV X w (L i)
namespace FrsS
variable {X Y:Nat->Prop} {w w':World} {p:Option Addr} {N:Nat} {L:Nat->Fr}
theorem old(h:FrsS X w p N L)(k:Old w w'):FrsS X w' p N L:=by
 refine⟨fun hn=>?_,fun i hi=>(h.2 i hi).old k⟩
 obtain⟨g,o,e1,e2,e3⟩:=h.1 hn
 exact⟨g,o,e1,Nat.lt_of_lt_of_le e2 k.size,fun j hj=>(k.cell (a:=⟨g,o+j,none⟩) e2).trans (e3 j hj)⟩
theorem row(h:FrsS X w p N L)(i:Nat)(hi:i<N):∃g o,p=some ⟨g,o,Option.none⟩/\g<w.heap.size/\∀j,j<29->w.cell? ⟨g,o+i*29+j,Option.none⟩=some (frC (L i).F (L i).s j):=by
 obtain⟨g,o,e1,e2,e3⟩:=h.1 (by omega)
 refine⟨g,o,e1,e2,fun j hj=>?_⟩
 rw [Nat.add_assoc,e3 (i*29+j) (by omega),frsC_at _ _ _ hj]
end FrsS
structure FrsO(X:Nat->Prop)(w:World)(g N:Nat)(L:Nat->Fr):Prop where
 at_:CellsV w g (29*N) (frsC L)
 out:¬X g
 tn:∀i,i<N->ToV (fun k=>k=g) w (L i)
namespace FrsO
variable {X Y:Nat->Prop} {w w':World} {g N:Nat} {L:Nat->Fr}
theorem old(h:FrsO X w g N L)(k:Old w w'):FrsO X w' g N L:=⟨h.at_.old k,h.out,fun i hi=>(h.tn i hi).old k⟩
theorem sl(h:FrsO X w g N L)(Y:Nat->Prop)(hY:∀k,k<w.heap.size->Y k->k=g):FrsS Y w (some ⟨g,0,none⟩) N L:=
 ⟨fun _=>⟨g,0,rfl,h.at_.lt,fun j hj=>by rw [Nat.zero_add];exact h.at_.cell j hj⟩,fun i hi=>(h.tn i hi).mono hY⟩
theorem store(h:FrsO X w g N L)(k:Nat)(hk:k<N)(x:Fr)(hx:ToV (fun k=>k=g) w x):FrsO X (w.setCells g (k*29) (rowN 29 (frC x.F x.s)).toList) g N (updF L k x):=by
 have hK:=Kept.setCells (X:=fun q=>q≠g) w (b:=g) (fun e=>e rfl) (k*29) (rowN 29 (frC x.F x.s)).toList
 refine⟨(h.at_.setCells (k*29) 29 (by omega) _).ext fun j _=>by rw [frsC_patch],h.out,fun i hi=>?_⟩
 by_cases e:i=k
 ·subst e;rw [updF_same];exact hx.kept hK (fun q _ hq=>hq)
 ·rw [updF_other _ _ _ e];exact(h.tn i hi).kept hK (fun q _ hq=>hq)
end FrsO
def zeroFr:Fr:=⟨fun _=>0,.slice none 0 0,0,fun _=>0⟩
theorem frs_made(N:Nat):madeCells (rowN 29 (frC (fun _=>0) (.slice none 0 0))) N=rowN N (frsC fun _=>zeroFr):=by
 apply Array.ext_getElem?
 intro i
 by_cases hi:i<N
 ·rw [rowN_at _ _ i hi]
  have hm:i%29<29:=Nat.mod_lt _ (by omega)
  simp [madeCells,hi,rowN,frsC,zeroFr,hm]
 ·rw [Array.getElem?_eq_none (by rw [size_madeCells];omega),Array.getElem?_eq_none (by rw [rowN_size];omega)]
theorem frs_new(X:Nat->Prop)(w:World)(N:Nat)(t:TypeId)(hX:¬X w.heap.size):FrsO X (w.alloc (.cells (rowN (29*N) (frsC fun _=>zeroFr)) t)) w.heap.size N (fun _=>zeroFr):=
 ⟨cellsV_of (heap_alloc_new _ _),hX,fun i hi=>ToV.none _ _ _ _⟩
structure GotF(U:World)(nb:Nat)(x:Fr)(V:World):Prop where
 lo:U.heap.size<=nb
 at_:CellsV V nb 29 (frC x.F x.s)
 tn:ToV (fun k=>k<U.heap.size) V x
 old:Old U V
theorem cellsV_all{V:World}{nb m:Nat}{C:Nat->Value}(h:CellsV V nb m C)(c:Nat->Value):CellsV (V.setCells nb 0 (rowN m c).toList) nb m c:=
 (h.setCells 0 m (by omega) c).ext fun j hj=>by unfold patchV;rw [if_pos ⟨by omega,by omega⟩,Nat.sub_zero]
theorem gotF_set{U V:World}{nb:Nat}{x:Fr}{C:Nat->Value}(hn:U.heap.size<=nb)(hc:CellsV V nb 29 C)(ht:ToV (fun k=>k<U.heap.size\/k=nb) V x)(o:Old U V):GotF U nb x (V.setCells nb 0 (rowN 29 (frC x.F x.s)).toList):=by
 have hK:=Kept.setCells (X:=fun q=>q≠nb) V (b:=nb) (fun e=>e rfl) 0 (rowN 29 (frC x.F x.s)).toList
 exact⟨hn,cellsV_all hc _,(ht.kept hK (fun q _ hq e=>hq (.inr e))).mono (fun k _ h=>.inl h),o.after (hK.mono fun k hk=>hk) (fun k hk=>by omega)⟩
theorem newFr(w:World)(z:Array Value)(t:TypeId)(hz:z=rowN 29 (frC (fun _=>0) (.slice none 0 0))):CellsV (w.alloc (.cells z t)) w.heap.size 29 (frC (fun _=>0) (.slice none 0 0)):=by
 rw [hz]
 exact cellsV_of (heap_alloc_new _ _)
theorem gotF_call{U V:World}{x:Fr}(z:Array Value)(t:TypeId)(hz:z=rowN 29 (frC (fun _=>0) (.slice none 0 0)))(o:Old U V)(h:ToV (fun k=>k<U.heap.size) V x):GotF U V.heap.size x ((V.alloc (.cells z t)).setCells V.heap.size 0 (rowN 29 (frC x.F x.s)).toList):=
 gotF_set o.size (newFr V z t hz) ((h.mono (Y:=fun k=>k<U.heap.size\/k=V.heap.size) fun k hk hy=>hy.elim id fun e=>by omega).old (Old.alloc V _)) (o.alloc' _)
theorem gotF_alloc{U V:World}{x:Fr}(z:Array Value)(t:TypeId)(hz:z=rowN 29 (frC (fun _=>0) (.slice none 0 0)))(o:Old (U.alloc (.cells z t)) V)(h:ToV (fun k=>k<(U.alloc (.cells z t)).heap.size) V x):GotF U U.heap.size x (V.setCells U.heap.size 0 (rowN 29 (frC x.F x.s)).toList):=
 gotF_set (Nat.le_refl _) ((newFr U z t hz).old o) (h.mono fun k _ hy=>by rw [World.size_alloc];rcases hy with h | h <;> omega) ((Old.alloc U _).trans o)
theorem wpList_load_fr{P:Program}{ops:Array Oper}{rest:List Oper}{op:Oper}{a:Act}{w:World}{Q:Exit->Act->World->Prop}(hgd:op.guard=none)(c:Nat->Value)(ty:TypeId)(x:Operand)(ho:op.op = .load ty x)
  (b o:Nat) (hx:a.eval x = .pointer (some ⟨b,o,none⟩)) (d:TypeDesc) (hc:∀j,j<29->w.cell? ⟨b,o+j,none⟩=some (c j))
  (hu:P.underlying ty=some d) (hd:d.isRow=true) (hi:(P.info? ty).map (·.size)=some 29) (h:wpList P ops Q rest (a.put op.dst (.agg (rowN 29 c))) w):wpList P ops Q (op :: rest) a w:=
 wpList_plain hgd fun _ hK=>wp_load_mid ty x ho b o hx (rowN 29 c).toList d (fun j v hv=>by obtain⟨hj,rfl⟩:=rowN_list_at hv;exact hc j hj) hu hd (by rw [rowN_list_len];exact hi) (hK _ _ h)
theorem wpList_store_fr{P:Program}{ops:Array Oper}{rest:List Oper}{op:Oper}{a:Act}{w:World}{Q:Exit->Act->World->Prop}(hgd:op.guard=none)(c:Nat->Value)(ty:TypeId)(x y:Operand)(ho:op.op = .store ty x y)
  (b o:Nat) (hx:a.eval x = .pointer (some ⟨b,o,none⟩)) (hy:a.eval y = .agg (rowN 29 c)) (ht:w.there b o 29) (hi:(P.info? ty).map (·.size)=some 29) (h1:(rowN 29 c).all (·.oneCell')=true)
  (h:wpList P ops Q rest (a.put op.dst undef) (w.setCells b o (rowN 29 c).toList)):wpList P ops Q (op :: rest) a w:=
 wpList_plain hgd fun _ hK=>wp_store_mid ty x y ho b o (rowN 29 c) hx hy (by rw [rowN_size];exact ht) (by rw [rowN_size];exact hi) h1 (hK _ _ h)
theorem wpList_load_blk_w{P:Program}{ops:Array Oper}{rest:List Oper}{o:Oper}{a:Act}{w:World}{Q:Exit->Act->World->Prop}(hw:Region.wanted o (yielded ops a.tmps)=true)(n:Nat)(f:Nat->Int)(ty:TypeId)(x:Operand)(ho:o.op = .load ty x)
  (b i:Nat) (hx:a.eval x = .pointer (some ⟨b,i,none⟩)) (d:TypeDesc) (hc:∀j,j<n->w.cell? ⟨b,i+j,none⟩=some (.int .i64 (f j)))
  (hu:P.underlying ty=some d) (hd:d.isRow=true) (hi:(P.info? ty).map (·.size)=some n) (h:wpList P ops Q rest (a.put o.dst (.agg (rowN n (blk f)))) w):wpList P ops Q (o :: rest) a w:=
 wpList_step fun K hK=>by
  rw [if_pos hw]
  exact wp_load_blk n f ty x ho b i hx d hc hu hd hi (hK _ _ h)
def nextI(n:Nat)(T:Nat->Int):Int:=if n=0 then 0 else T (2*(n-1))+1
theorem nextPlace_any(p:Option Addr)(n cap:Nat)(T:Nat->Int)(w:World)(hT:SlF 2 w p n T)(hb:0<n->-9223372036854775808<=T (2*(n-1))/\T (2*(n-1))<=15)(hn:n<=maxLen):
  Calls Tryz.prog 217 #[.slice p n cap] w fun e w'=>e = .returned (.int .i64 (nextI n T))/\w=w':=by
 unfold maxLen at hn
 cases n with
 | zero=>
  have HN:Hid (nextI 0 T=0):=zH rfl
  rw [HN.out]
  clear hT hb HN
  go_enter Tryz.func217,Tryz.ntmps217
  go_wp2_with fail
  go_ret
  exact⟨rfl,rfl⟩
 | succ m=>
  obtain⟨g,o,rfl,hg,hc⟩:=two_cells hT (by omega)
  obtain⟨c0,_⟩:=hc m (by omega)
  have hN:nextI (m+1) T=T (2*m)+1:=by unfold nextI;rw [if_neg (by omega)];rfl
  have hbd:=hb (by omega)
  rw [show m+1-1=m by omega] at hbd
  rw [hN]
  clear hT hb hc hN
  generalize T (2*m)=x at *
  have hm:((m+1:Nat):Int)-1=m:=by omega
  obtain⟨b0,b1⟩:=hbd
  go_enter Tryz.func217,Tryz.ntmps217
  go_wp2_with fail
  go_ret
  exact⟨rfl,rfl⟩
def tonesP(n:Nat)(T:Nat->Int):Prop:=n<=2/\∀k,k<n->0<=T (2*k)/\T (2*k)<=15/\fitB (T (2*k+1)) 24=true/\(0<k->T (2*(k-1))<T (2*k))
instance (n:Nat) (T:Nat->Int):Decidable (tonesP n T):=by unfold tonesP;infer_instance
theorem rightTones_any(p:Option Addr)(n cap:Nat)(T:Nat->Int)(w:World)(hT:SlF 2 w p n T)(hf:Fits64 T)(hn:n<=cap)(hc:cap<=maxLen):
  Calls Tryz.prog 241 #[.slice p n cap] w fun e w'=>e = .returned (.bool (decide (tonesP n T)))/\Old w w':=by
 unfold maxLen at hc
 by_cases h2:2<n
 ·have hf:decide (tonesP n T)=false:=by rw [decide_eq_false_iff_not];intro h;have:=h.1;omega
  rw [hf]
  clear hT hf
  go_enter Tryz.func241,Tryz.ntmps241
  go_wp2_with fail
  go_ret
  exact⟨rfl,Old.refl _⟩
 ·have h2':n<=2:=by omega
  have HT:=zH hT
  have HF:=zH hf
  clear hT hf h2
  go_enter Tryz.func241,Tryz.ntmps241
  go_wp2_with fail
  go_loopw [10] (fun i wr=>∃k:Nat,k<=n/\i = .int .i64 k/\Hid ((∀j,j<k->0<=T (2*j)/\T (2*j)<=15/\fitB (T (2*j+1)) 24=true/\(0<j->T (2*(j-1))<T (2*j)))/\Old w wr)) (fun i _=>n-(intOf i).toNat)
  case atStart=>exact⟨0,by omega,rfl,zH ⟨fun j hj=>by omega,Old.refl _⟩⟩
  case round=>
   obtain⟨k,hk,rfl,hs⟩:=hrel
   obtain⟨hJ,hO⟩:=hs.out
   have HJ:=zH hJ
   have HO:=zH hO
   clear hJ hO hs
   by_cases hlt:k<n
   ·have hTr:=HT.out.old HO.out
    have hN:∀W,Old wr W->Calls Tryz.prog 217 #[.slice p k cap] W fun e w'=>e = .returned (.int .i64 (nextI k T))/\W=w':=fun W hW=>by
     refine nextPlace_any p k cap T W ?_ (fun h0=>?_) (by unfold maxLen;omega)
     ·intro h0
      obtain⟨g,o,h1,h2,h3⟩:=(hTr.old hW) (by omega)
      exact⟨g,o,h1,h2,fun j hj=>h3 j (by omega)⟩
     ·have:=HJ.out (k-1) (by omega);omega
    have HN:=zH (fun(o:Obj) n=>hN ((wr.alloc o).drewN n) ((Old.alloc _ _).drewN _))
    have hnx:0<=nextI k T/\nextI k T<=16:=by
     unfold nextI
     split
     ·omega
     ·have:=HJ.out (k-1) (by omega);omega
    have HE:Hid (tonesP n T->nextI k T<=T (2*k)/\T (2*k)<16/\fitB (T (2*k+1)) 24=true):=zH fun h=>by
     have:=h.2 k hlt
     refine⟨?_,by omega,this.2.2.1⟩
     unfold nextI
     split
     ·omega
     ·have:=this.2.2.2 (by omega);omega
    have HS:Hid (nextI k T<=T (2*k)->T (2*k)<16->fitB (T (2*k+1)) 24=true->∀j,j<k+1->0<=T (2*j)/\T (2*j)<=15/\fitB (T (2*j+1)) 24=true/\(0<j->T (2*(j-1))<T (2*j))):=zH fun e1 e2 e3 j hj=>by
     rcases Nat.lt_succ_iff_lt_or_eq.1 hj with h | rfl
     ·exact HJ.out j h
     ·refine⟨by omega,by omega,e3,fun h0=>?_⟩
      unfold nextI at e1
      rw [if_neg (by omega)] at e1
      omega
    have hx:=HF.out (2*k)
    have hy:=HF.out (2*k+1)
    obtain⟨g,o,rfl,hg,hcc⟩:=two_cells hTr (by omega)
    obtain⟨a0,a1⟩:=hcc k hlt
    clear hTr hN hcc HT HF HJ
    generalize hq:T (2*k)=x at *
    generalize hr:T (2*k+1)=y at *
    generalize nextI k T=nx at *
    clear hq hr
    obtain⟨n0,n1⟩:=hnx
    have HFit:=zH (fun w=>Fits_any y 24 w)
    have hkc:k<=cap:=by omega
    by_cases e1:x<nx
    ·have HD:Hid (decide (tonesP n T)=false):=zH (by rw [decide_eq_false_iff_not];intro h;have:=HE.out h;omega)
     clear HE HS
     go_wp2_with fail
     go_quiet ((first | (go_at_call 217;exact Calls.quiet_of_same ((HN.out _ _).mono fun _ _ hh=>⟨hh.1,hh.2.symm⟩)) | (go_at_call 245;exact Calls.quiet_of_same ((HFit.out _).mono fun _ _ hh=>⟨hh.1,hh.2.symm⟩))))
     go_wp2_with fail
     go_ret
     exact⟨by rw [HD.out];rfl,(HO.out.alloc' _).drewN _⟩
    ·have e1':nx<=x:=by omega
     clear e1
     by_cases e2:16<=x
     ·have HD:Hid (decide (tonesP n T)=false):=zH (by rw [decide_eq_false_iff_not];intro h;have:=HE.out h;omega)
      clear HE HS
      go_wp2_with fail
      go_quiet ((first | (go_at_call 217;exact Calls.quiet_of_same ((HN.out _ _).mono fun _ _ hh=>⟨hh.1,hh.2.symm⟩)) | (go_at_call 245;exact Calls.quiet_of_same ((HFit.out _).mono fun _ _ hh=>⟨hh.1,hh.2.symm⟩))))
      go_wp2_with fail
      go_ret
      exact⟨by rw [HD.out];rfl,(HO.out.alloc' _).drewN _⟩
     ·have e2':x<16:=by omega
      clear e2
      cases e3:fitB y 24
      case false=>
       rw [e3] at HFit
       have HD:Hid (decide (tonesP n T)=false):=zH (by rw [decide_eq_false_iff_not];intro h;have:=HE.out h;rw [this.2.2] at e3;cases e3)
       clear HE HS e3
       go_wp2_with fail
       go_quiet ((first | (go_at_call 217;exact Calls.quiet_of_same ((HN.out _ _).mono fun _ _ hh=>⟨hh.1,hh.2.symm⟩)) | (go_at_call 245;exact Calls.quiet_of_same ((HFit.out _).mono fun _ _ hh=>⟨hh.1,hh.2.symm⟩))))
       go_wp2_with fail
       go_ret
       exact⟨by rw [HD.out];rfl,(HO.out.alloc' _).drewN _⟩
      case true=>
       rw [e3] at HFit
       have HS2:=zH (HS.out e1' e2' e3)
       clear HS HE e3
       go_wp2_with fail
       go_quiet ((first | (go_at_call 217;exact Calls.quiet_of_same ((HN.out _ _).mono fun _ _ hh=>⟨hh.1,hh.2.symm⟩)) | (go_at_call 245;exact Calls.quiet_of_same ((HFit.out _).mono fun _ _ hh=>⟨hh.1,hh.2.symm⟩))))
       go_wp2_with fail
       go_roundw
       case rel=>exact⟨k+1,by omega,by go_num,zH ⟨HS2.out,(HO.out.alloc' _).drewN _⟩⟩
       case measure=>simp [intOf];omega
   ·obtain rfl:k=n:=by omega
    have HD:Hid (decide (tonesP k T)=true):=zH (decide_eq_true ⟨h2',HJ.out⟩)
    clear HJ HT HF
    go_wp2_with fail
    go_ret
    exact⟨by rw [HD.out];rfl,HO.out⟩
def stepsP(W Q:Nat->Int):Prop:=(∀k,k<4->0<=W k/\W k<=24)/\∀k,k<16->fitB (Q k) (W (k/4))=true
instance (W Q:Nat->Int):Decidable (stepsP W Q):=by unfold stepsP;infer_instance
theorem rightSteps_any(W Q:Nat->Int)(w:World):
  Calls Tryz.prog 242 #[.agg (rowN 4 (blk W)),.agg (rowN 16 (blk Q))] w fun e w'=>e = .returned (.bool (decide (stepsP W Q)))/\Old w w':=by
 have Hs4:Hid ((Tryz.prog.info? 44).map (·.size)=some 4):=zH (by kernel_rfl)
 have Hs16:Hid ((Tryz.prog.info? 43).map (·.size)=some 16):=zH (by kernel_rfl)
 obtain⟨W0,hW0⟩:∃W0,W0=((w.alloc (.cells (rowN 4 (blk W)) 44)).alloc (.cells (rowN 16 (blk Q)) 43)):=⟨_,rfl⟩
 have HA:Hid (((w.alloc (.cells (rowN 4 (blk W)) 44)).alloc (.cells (rowN 16 (blk Q)) 43)).heap[w.heap.size]?=some (.cells (rowN 4 (blk W)) 44 (0,0))):=zH (heap_alloc2_old w _ _)
 have HB:Hid (W0.heap[w.heap.size+1]?=some (.cells (rowN 16 (blk Q)) 43 (0,0))):=zH (by rw [hW0];exact heap_alloc2_new w _ _)
 have HA0:Hid (W0.heap[w.heap.size]?=some (.cells (rowN 4 (blk W)) 44 (0,0))):=zH (by rw [hW0];exact heap_alloc2_old w _ _)
 have HC:Hid (∀k,k<4->W0.cell? ⟨w.heap.size,k,none⟩=some (.int .i64 (W k))):=zH fun k hk=>(cell_of_row _ _ _ _ _ _ HA0.out).trans (blk_at 4 W k hk)
 have HO:Hid (Old w W0):=zH (by rw [hW0];exact(Old.alloc w _).alloc' _)
 have HW:=zH hW0
 clear hW0
 go_enter Tryz.func242,Tryz.ntmps242
 go_wp2_with (with_reducible refine wpList_load_row rfl 44 _ rfl w.heap.size rfl 44 (rowN 4 (blk W)) (0,0) _ HA.out Tryz.underlying44 rfl (by rw [rowN_size];exact Hs4.out) ?_)
 rw [←HW.out]
 clear HA HW
 go_loop [10] (fun i=>∃k:Nat,k<=4/\i = .int .i64 k/\Hid (∀j,j<k->0<=W j/\W j<=24)) (fun i=>4-(intOf i).toNat)
 case atStart=>exact⟨0,by omega,rfl,zH fun j hj=>by omega⟩
 case round=>
  obtain⟨k,hk,rfl,hj⟩:=hrel
  by_cases hlt:k<4
  ·have i1:(0:Int)<=k:=by omega
   have i2:(k:Int)<4:=by omega
   have hat:∀w:World,(Instr.index 44 (.agg (rowN 4 (blk W))) (.int .i64 k)).run Tryz.prog w = .ok (.int .i64 (W k)) w:=fun w=>run_index_ints Tryz.underlying44 Tryz.underlying3 (fun _=>by kernel_rfl) W k hlt w
   have HN:Hid (0<=W k->W k<=24->∀j,j<k+1->0<=W j/\W j<=24):=zH fun e1 e2 j hj'=>by
    rcases Nat.lt_succ_iff_lt_or_eq.1 hj' with h | rfl
    ·exact hj.out j h
    ·exact⟨e1,e2⟩
   have HF:Hid (¬(0<=W k/\W k<=24)->decide (stepsP W Q)=false):=zH fun h=>by
    rw [decide_eq_false_iff_not];exact fun h2=>h (h2.1 k hlt)
   clear hj HC HA0 HB
   generalize W k=x at *
   by_cases h1:x<0
   ·have HD:=zH (HF.out (by omega))
    clear HF HN
    go_wp2_with fail
    go_ret
    exact⟨by rw [HD.out];rfl,HO.out⟩
   ·have h1':0<=x:=by omega
    clear h1
    by_cases h2:24<x
    ·have HD:=zH (HF.out (by omega))
     clear HF HN
     go_wp2_with fail
     go_ret
     exact⟨by rw [HD.out];rfl,HO.out⟩
    ·have HD:=zH (HN.out h1' (by omega))
     clear HF HN
     go_wp2_with fail
     go_round
     case rel=>exact⟨k+1,by omega,by go_num,HD⟩
     case measure=>simp [intOf];omega
  ·obtain rfl:k=4:=by omega
   have HG:=hj
   clear hj hlt hk
   go_wp2_with (with_reducible refine wpList_load_row rfl 43 _ rfl (w.heap.size+1) rfl 43 (rowN 16 (blk Q)) (0,0) _ HB.out Tryz.underlying43 rfl (by rw [rowN_size];exact Hs16.out) ?_)
   go_loop [21] (fun i=>∃k:Nat,k<=16/\i = .int .i64 k/\Hid (∀j,j<k->fitB (Q j) (W (j/4))=true)) (fun i=>16-(intOf i).toNat)
   case atStart=>exact⟨0,by omega,rfl,zH fun j hj=>by omega⟩
   case round=>
    obtain⟨k,hk,rfl,hj⟩:=hrel
    by_cases hlt:k<16
    ·have i1:(0:Int)<=k:=by omega
     have i2:(k:Int)<16:=by omega
     have hat:∀w:World,(Instr.index 43 (.agg (rowN 16 (blk Q))) (.int .i64 k)).run Tryz.prog w = .ok (.int .i64 (Q k)) w:=fun w=>run_index_ints Tryz.underlying43 Tryz.underlying2 (fun _=>by kernel_rfl) Q k hlt w
     obtain⟨m,hm⟩:∃m,k/4=m:=⟨_,rfl⟩
     have HBd:=zH (fun w=>Band_nat k m w hlt hm)
     have m0:(0:Int)<=m:=by omega
     have m1:(m:Int)<4:=by omega
     have hc:=HC.out m (by omega)
     have hFt:=fun w=>Fits_any (Q k) (W m) w
     have HN:Hid (fitB (Q k) (W m)=true->∀j,j<k+1->fitB (Q j) (W (j/4))=true):=zH fun e1 j hj'=>by
      rcases Nat.lt_succ_iff_lt_or_eq.1 hj' with h | rfl
      ·exact hj.out j h
      ·rw [hm];exact e1
     have HF:Hid (fitB (Q k) (W m)=false->decide (stepsP W Q)=false):=zH fun h=>by
      rw [decide_eq_false_iff_not];intro h2;have:=h2.2 k hlt;rw [hm,h] at this;cases this
     clear hj HC HA0 HB HG hm
     generalize Q k=x at *
     generalize W m=y at *
     have HFt:=zH hFt
     clear hFt
     cases e3:fitB x y
     case false=>
      rw [e3] at HFt
      have HD:=zH (HF.out e3)
      clear HF HN e3
      go_wp2_with fail
      refine(HBd.out _).mono ?_
      rintro e w1 ⟨rfl,rfl⟩
      go_wp2_with fail
      refine(HFt.out _).mono ?_
      rintro e w1 ⟨rfl,rfl⟩
      go_wp2_with fail
      go_ret
      exact⟨by rw [HD.out];rfl,HO.out⟩
     case true=>
      rw [e3] at HFt
      have HD:=zH (HN.out e3)
      clear HF HN e3
      go_wp2_with fail
      refine(HBd.out _).mono ?_
      rintro e w1 ⟨rfl,rfl⟩
      go_wp2_with fail
      refine(HFt.out _).mono ?_
      rintro e w1 ⟨rfl,rfl⟩
      go_wp2_with fail
      go_round
      case rel=>exact⟨k+1,by omega,by go_num,HD⟩
      case measure=>simp [intOf];omega
    ·obtain rfl:k=16:=by omega
     have HD:Hid (decide (stepsP W Q)=true):=zH (decide_eq_true ⟨HG.out,hj.out⟩)
     clear HG hj HC HA0 HB
     go_wp2_with fail
     go_ret
     exact⟨by rw [HD.out];rfl,HO.out⟩
theorem right_split(F:Nat->Int)(n:Nat)(T:Nat->Int):decide (FrP F n T)=(decide (rightP F) && (decide (tonesP n T) && (decide (scalesP fun k=>F (5+k)) && decide (stepsP (fun k=>F (9+k)) (fun k=>F (13+k)))))):=by
 rw [Bool.eq_iff_iff]
 simp only [Bool.and_eq_true,decide_eq_true_iff]
 exact⟨fun h=>⟨h.hg,⟨h.hn,h.ht⟩,h.hs,h.hw,h.hq⟩,fun⟨h1,h2,h3,h4⟩=>⟨h1,h3,h4.1,h4.2,h2.1,h2.2⟩⟩
theorem FRight_any(F:Nat->Int)(p:Option Addr)(n cap:Nat)(T:Nat->Int)(w:World)(hT:SlF 2 w p n T)(hf:Fits64 T)(hn:n<=cap)(hc:cap<=maxLen):
  Calls Tryz.prog 203 #[.agg (rowN 29 (frC F (.slice p n cap)))] w fun e w'=>e = .returned (.bool (decide (FrP F n T)))/\Old w w':=by
 rw [right_split]
 have Hs4:Hid ((Tryz.prog.info? 44).map (·.size)=some 4):=zH (by kernel_rfl)
 have Hs16:Hid ((Tryz.prog.info? 43).map (·.size)=some 16):=zH (by kernel_rfl)
 have HB:Hid (FrB 113 (w.alloc (.cells (rowN 29 (frC F (.slice p n cap))) 113)) w.heap.size F (.slice p n cap)):=zH (FrB.new w F _)
 have HO:Hid (Old w (w.alloc (.cells (rowN 29 (frC F (.slice p n cap))) 113))):=zH (Old.alloc _ _)
 have H1:=zH (fun w=>Right_any F w)
 have H2:=zH (fun(W:World) (h:Old w W)=>rightTones_any p n cap T W (hT.old h) hf hn hc)
 have H3:=zH (fun w=>SRight_any (fun k=>F (5+k)) w)
 have H4:=zH (fun w=>rightSteps_any (fun k=>F (9+k)) (fun k=>F (13+k)) w)
 clear hT hf
 generalize decide (rightP F)=x1 at *
 generalize decide (tonesP n T)=x2 at *
 generalize decide (scalesP fun k=>F (5+k))=x3 at *
 generalize decide (stepsP (fun k=>F (9+k)) (fun k=>F (13+k)))=x4 at *
 go_enter Tryz.func203,Tryz.ntmps203
 go_wp2_with (with_reducible refine wpList_load_blk rfl 4 F 44 _ rfl w.heap.size 0 rfl _ (fun j hj=>by have:=HB.out.part 0 4 (by omega) j hj;rwa [Nat.zero_add] at this ⊢) Tryz.underlying44 rfl Hs4.out ?_)
 refine(H1.out _).mono ?_
 rintro e w1 ⟨rfl,ho1⟩
 have hb1:=HB.out.old ho1
 have ho1:=HO.out.trans ho1
 have c4:=hb1.cell4.1
 have HB1:=zH hb1
 have HO1:=zH ho1
 clear hb1 ho1 HB HO H1
 cases x1
 case false=>
  go_wp2_with fail
  go_ret
  exact⟨rfl,HO1.out⟩
 case true=>
  go_wp2_with fail
  refine(H2.out _ HO1.out).mono ?_
  rintro e w2 ⟨rfl,ho2⟩
  have HB2:=zH (HB1.out.old ho2)
  have HO2:=zH (HO1.out.trans ho2)
  clear ho2 HB1 HO1 H2 c4
  cases x2
  case false=>
   go_wp2_with fail
   go_ret
   exact⟨rfl,HO2.out⟩
  case true=>
   go_wp2_with (with_reducible refine wpList_load_blk_w (by kernel_rfl) 4 (fun j=>F (5+j)) 44 _ rfl w.heap.size 5 rfl _ (HB2.out.part 5 4 (by omega)) Tryz.underlying44 rfl Hs4.out ?_)
   refine(H3.out _).mono ?_
   rintro e w3 ⟨rfl,ho3⟩
   have HB3:=zH (HB2.out.old ho3)
   have HO3:=zH (HO2.out.trans ho3)
   clear ho3 HB2 HO2 H3
   cases x3
   case false=>
    go_wp2_with fail
    go_ret
    exact⟨rfl,HO3.out⟩
   case true=>
    go_wp2_with (first | (with_reducible refine wpList_load_blk_w (by kernel_rfl) 4 (fun j=>F (9+j)) 44 _ rfl w.heap.size 9 rfl _ (HB3.out.part 9 4 (by omega)) Tryz.underlying44 rfl Hs4.out ?_) | (with_reducible refine wpList_load_blk_w (by kernel_rfl) 16 (fun j=>F (13+j)) 43 _ rfl w.heap.size 13 rfl _ (HB3.out.part 13 16 (by omega)) Tryz.underlying43 rfl Hs16.out ?_))
    refine(H4.out _).mono ?_
    rintro e w4 ⟨rfl,ho4⟩
    have HO4:=zH (HO3.out.trans ho4)
    clear ho4
    go_wp2_with fail
    go_ret
    exact⟨rfl,HO4.out⟩
set_option linter.unusedSimpArgs false
def costI(F:Nat->Int)(n:Nat):Int:=52+28*n+4*sumTo (fun k=>F (9+k)) 4
theorem sum_four(g:Nat->Int):sumTo g 4=g 0+g 1+g 2+g 3:=by simp [sumTo]
theorem Bits_wide(F:Nat->Int)(p:Option Addr)(n cap:Nat)(w:World)(hw:∀k,k<4->0<=F (9+k)/\F (9+k)<=99)(hn:n<=5):
  Calls Tryz.prog 240 #[.agg (rowN 29 (frC F (.slice p n cap)))] w fun e w'=>e = .returned (.int .i64 (costI F n))/\Old w w':=by
 have Hs4:Hid ((Tryz.prog.info? 44).map (·.size)=some 4):=zH (by kernel_rfl)
 have HB:Hid (FrB 113 (w.alloc (.cells (rowN 29 (frC F (.slice p n cap))) 113)) w.heap.size F (.slice p n cap)):=zH (FrB.new w F _)
 have HO:Hid (Old w (w.alloc (.cells (rowN 29 (frC F (.slice p n cap))) 113))):=zH (Old.alloc _ _)
 have HC:=zH (fun w=>Cost_any (fun j=>F (9+j)) w (fun k hk=>by have:=hw k hk;constructor <;> omega))
 have hs:0<=sumTo (fun j=>F (9+j)) 4/\sumTo (fun j=>F (9+j)) 4<=396:=by
  have h0:=hw 0 (by omega);have h1:=hw 1 (by omega);have h2:=hw 2 (by omega);have h3:=hw 3 (by omega)
  rw [sum_four];omega
 unfold costI
 generalize sumTo (fun j=>F (9+j)) 4=s at *
 obtain⟨a,ha⟩:∃a:Int,28*(n:Int)=a:=⟨_,rfl⟩
 obtain⟨b,hb⟩:∃b:Int,52+a=b:=⟨_,rfl⟩
 obtain⟨c,hc⟩:∃c:Int,4*s=c:=⟨_,rfl⟩
 obtain⟨d,hd⟩:∃d:Int,b+c=d:=⟨_,rfl⟩
 have q1:wrap64 (28*(n:Int))=a:=by rw [IntWalk.wrap64_in _ (by omega)];exact ha
 have q1':IntKind.i64.wrap (28*(n:Int))=a:=by rw [IntWalk.i64_in _ (by omega)];exact ha
 have q2:wrap64 (52+a)=b:=by rw [IntWalk.wrap64_in _ (by omega)];exact hb
 have q2':IntKind.i64.wrap (52+a)=b:=by rw [IntWalk.i64_in _ (by omega)];exact hb
 have q3:wrap64 (b+c)=d:=by rw [IntWalk.wrap64_in _ (by omega)];exact hd
 have q3':IntKind.i64.wrap (b+c)=d:=by rw [IntWalk.i64_in _ (by omega)];exact hd
 rw [hc] at HC
 rw [ha,hb,hc,hd]
 clear ha hb hc hd hs hw
 go_enter Tryz.func240,Tryz.ntmps240
 go_wp2_with fail
 refine wp_region_held_drew (S:=(fun w'=>FrB 113 w' w.heap.size F (.slice p n cap)/\w'.cell? ⟨w.heap.size,4,none⟩=some (.slice p n cap))) (by kernel_rfl) ?_ (fun hHeld=>?_)
 ·(try dsimp only);exact⟨HB.out,HB.out.cell4.1⟩
 refine wpU 0 rfl ?_;try simp only [Act.put,sA,sZ,sS]
 refine wpU 1 rfl ?_;try simp only [Act.put,sA,sZ,sS]
 refine wpU 2 rfl ?_;try simp only [Act.put,sA,sZ,sS]
 refine wpU 3 rfl ?_;try simp only [Act.put,sA,sZ,sS]
 refine wpU 4 rfl ?_;try simp only [Act.put,sA,sZ,sS]
 refine wpU 5 rfl ?_;try simp only [Act.put,sA,sZ,sS]
 refine wpT 6 (v:=.agg (rowN 4 (blk (fun j=>F (9+j))))) rfl (yieldsIf_load_blk 4 (fun j=>F (9+j)) (by kernel_rfl) 44 (.tmp 8) rfl w.heap.size 9 rfl _ (fun _ h=>h.1.part 9 4 (by omega)) Tryz.underlying44 rfl Hs4.out) (by assumption) ?_;try simp only [Act.put,sA,sZ,sS]
 refine wpR 7 rfl (fun K hK=>?_)
 go_simp
 refine(HC.out _).mono ?_
 rintro e V1 ⟨rfl,o1'⟩
 have o1:=((Old.refl (w.alloc (.cells (rowN 29 (frC F (.slice p n cap))) 113))).drew).trans o1'
 clear o1'
 go_wp2_with fail
 refine hK.out _ _ ?_ (fun hHeld=>?_)
 ·(try dsimp only);exact⟨HB.out.old o1,(HB.out.old o1).cell4.1⟩
 clear hK K
 try simp only [Act.put,sA,sZ,sS]
 refine wpU 8 rfl ?_;try simp only [Act.put,sA,sZ,sS]
 refine wpU 9 rfl ?_;try simp only [Act.put,sA,sZ,sS]
 refine wpAnyH_done (by kernel_rfl) ?_ _
 have HO1:=zH ((HO.out.trans o1))
 clear HB HC o1
 go_wp2_with fail
 go_ret
 exact⟨rfl,HO1.out⟩
def stQ(F:Nat->Int):Nat->Int:=fun k=>if k<16 then F (13+k) else 0
theorem stQ_row(F:Nat->Int):rowN 16 (blk fun j=>F (13+j))=rowN 16 (blk (stQ F)):=rowN_ext _ _ _ fun k hk=>by unfold blk stQ;rw [if_pos hk]
def stS(F:Nat->Int):Nat->Int:=fun k=>F (5+k)
def specTo(V:Nat->Int)(T:Nat->Int):Nat->Nat->Int
 | 0=>V
 | j+1=>fun k=>if (k:Int)=T (2*j) then specTo V T j k+T (2*j+1) else specTo V T j k
def clampTo(V:Nat->Int)(n:Nat):Nat->Int:=fun k=>if k<n then clampI (V k) (-2147483648) 2147483648 else V k
def specV(F:Nat->Int):Nat->Int:=toldR valI (stQ F) (stS F)
def specF(F:Nat->Int)(n:Nat)(T:Nat->Int):Nat->Int:=clampTo (specTo (specV F) T n) 16
theorem clampTo_succ(V:Nat->Int)(n:Nat):(fun k=>if k=n then clampI (V n) (-2147483648) 2147483648 else clampTo V n k)=clampTo V (n+1):=by
 funext k
 unfold clampTo
 by_cases h:k=n
 ·subst h;rw [if_pos rfl,if_pos (Nat.lt_succ_self _)]
 ·rw [if_neg h]
  by_cases h2:k<n
  ·rw [if_pos h2,if_pos (by omega)]
  ·rw [if_neg h2,if_neg (by omega)]
theorem fit24{v k:Int}(h:fitB v k=true)(h0:0<=k)(h1:k<=24):-8388608<=v/\v<=8388607:=by
 by_cases hz:k<=0
 ·rw [fitB_neg v k hz,beq_iff_eq] at h
  omega
 ·rw [fitB_mid v k (by omega) (by omega),decide_eq_true_eq] at h
  have:=pw_mono (k-1).toNat 23 (by omega)
  rw [show pw 23=8388608 from rfl] at this
  omega
theorem stQ_bd{F:Nat->Int}{n:Nat}{T:Nat->Int}(h:FrP F n T)(k:Nat):-8388608<=stQ F k/\stQ F k<=8388607:=by
 unfold stQ
 split
 ·next hk=>exact fit24 (h.hq k hk) (h.hw _ (by omega)).1 (h.hw _ (by omega)).2
 ·omega
theorem stQ_fits{F:Nat->Int}{n:Nat}{T:Nat->Int}(h:FrP F n T):Fits64 (stQ F):=fun k=>by have:=stQ_bd h k;omega
theorem specV_bd{F:Nat->Int}{n:Nat}{T:Nat->Int}(h:FrP F n T)(k:Nat)(hk:k<16):-70368744177664<=specV F k/\specV F k<=70368744177664:=by
 have hs:scalesP (stS F):=fun k hk=>h.hs k hk
 unfold specV toldR
 rw [if_pos hs]
 unfold toldF valI
 have hq:=stQ_bd h k
 have h1:=pw_pos (stS F (k/4)).toNat
 have h2:=pw_mono (stS F (k/4)).toNat 23 (by have:=hs (k/4) (by omega);omega)
 rw [show pw 23=8388608 from rfl] at h2
 generalize pw (stS F (k/4)).toNat=p at *
 generalize stQ F k=x at *
 have a1:x*p<=8388608*8388608:=by
  rcases Int.le_total 0 x with h0 | h0
  ·exact Int.mul_le_mul (by omega) h2 (by omega) (by omega)
  ·have:=Int.mul_nonpos_of_nonpos_of_nonneg h0 (by omega:0<=p)
   omega
 have a2:-(8388608*8388608)<=x*p:=by
  rcases Int.le_total 0 x with h0 | h0
  ·have:=Int.mul_nonneg h0 (by omega:0<=p)
   omega
  ·have:(-x)*p<=8388608*8388608:=Int.mul_le_mul (by omega) h2 (by omega) (by omega)
   rw [Int.neg_mul] at this
   omega
 rw [IntWalk.wrap64_in _ (by omega)]
 omega
theorem specTo_bd{F:Nat->Int}{n:Nat}{T:Nat->Int}(h:FrP F n T)(j:Nat)(hj:j<=n)(k:Nat)(hk:k<16):-(70368744177664+8388608*(j:Int))<=specTo (specV F) T j k/\specTo (specV F) T j k<=70368744177664+8388608*(j:Int):=by
 induction j with
 | zero=>have:=specV_bd h k hk;unfold specTo;omega
 | succ j ih=>
  have h1:=ih (by omega)
  have h2:=fit24 (h.ht j (by omega)).2.2.1 (by omega) (by omega)
  unfold specTo
  split <;> omega
theorem addL_two(a b:Int)(ha:In64 a)(hb:In64 (a+b)):addL [a,b]=a+b:=by
 unfold In64 at ha hb
 unfold addL
 simp only [List.foldl_cons,List.foldl_nil]
 have e:add2 0 a=a:=by unfold add2;rw [if_neg (by omega),if_neg (by omega)];omega
 rw [e]
 unfold add2
 rw [if_neg (by omega),if_neg (by omega)]
structure SpSt(w:World)(fb rb bb:Nat)(z:Array Value)(F:Nat->Int)(s:Value)(V:Nat->Int)(W:World):Prop where
 fr:FrB 113 W fb F s
 res:W.heap[rb]?=some (.cells z 43 (0,0))
 v:W.heap[bb]?=some (.cells (rowN 16 (blk V)) 43 (0,0))
 old:Old w W
 nbb:w.heap.size<=bb
 nrb:w.heap.size<=rb
 n1:fb≠bb
 n2:rb≠bb
namespace SpSt
variable {w W W':World} {fb rb bb:Nat} {z:Array Value} {F V:Nat->Int} {s:Value}
theorem keep(h:SpSt w fb rb bb z F s V W)(k:Old W W'):SpSt w fb rb bb z F s V W':=
 ⟨h.fr.old k,(k.block _ (lt_of_block h.res)).trans h.res,(k.block _ (lt_of_block h.v)).trans h.v,h.old.trans k,h.nbb,h.nrb,h.n1,h.n2⟩
theorem cell(h:SpSt w fb rb bb z F s V W)(j:Nat)(hj:j<16):W.cell? ⟨bb,j,none⟩=some (.int .i64 (V j))/\W.frozen? ⟨bb,j,none⟩=false:=
 ⟨(cell_of_row _ _ _ _ _ _ h.v).trans (blk_at 16 V j hj),frozen_of_row _ _ _ _ _ h.v⟩
theorem set(h:SpSt w fb rb bb z F s V W)(j:Nat)(hj:j<16)(x:Int):SpSt w fb rb bb z F s (fun k=>if k=j then x else V k) (W.setCell ⟨bb,j,none⟩ (.int .i64 x)):=by
 have hk:Kept (butOf W bb) W (W.setCell ⟨bb,j,none⟩ (.int .i64 x)):=Kept.setCell W (a:=⟨bb,j,none⟩) (fun h=>h.2 rfl) _
 have hn:=h.nbb
 refine⟨h.fr.kept hk ⟨lt_of_block h.fr,h.n1⟩,(hk.block rb ⟨lt_of_block h.res,h.n2⟩).trans h.res,?_,Kept.trans h.old (hk.mono fun q hq=>⟨Nat.lt_of_lt_of_le hq h.old.size,fun e=>by omega⟩),h.nbb,h.nrb,h.n1,h.n2⟩
 rw [←blk_upd,←rowN_set 16 _ j _ hj]
 exact heap_setCell_same _ _ _ _ _ _ h.v
end SpSt
set_option maxHeartbeats 4000000 in
theorem Spectrum_any(F:Nat->Int)(p:Option Addr)(n cap:Nat)(T:Nat->Int)(w:World)(hT:SlF 2 w p n T)(hn:n<=cap)(hc:cap<=maxLen)(hF:FrP F n T):
  Calls Tryz.prog 89 #[.agg (rowN 29 (frC F (.slice p n cap)))] w fun e w'=>e = .returned (.agg (rowN 16 (blk (specF F n T))))/\Old w w':=by
 have Hs4:Hid ((Tryz.prog.info? 44).map (·.size)=some 4):=zH (by kernel_rfl)
 have Hs16:Hid ((Tryz.prog.info? 43).map (·.size)=some 16):=zH (by kernel_rfl)
 obtain⟨z,hz⟩:∃z:Array Value,z=#[.int .i64 0,.int .i64 0,.int .i64 0,.int .i64 0,.int .i64 0,.int .i64 0,.int .i64 0,.int .i64 0,.int .i64 0,.int .i64 0,.int .i64 0,.int .i64 0,.int .i64 0,.int .i64 0,.int .i64 0,.int .i64 0]:=⟨_,rfl⟩
 have hzs:z.size=16:=by rw [hz];rfl
 obtain⟨W0,hW0⟩:∃W0,W0=((w.alloc (.cells (rowN 29 (frC F (.slice p n cap))) 113)).alloc (.cells z 43)):=⟨_,rfl⟩
 have hA:FrB 113 W0 w.heap.size F (.slice p n cap):=by rw [hW0];exact heap_alloc2_old w _ _
 have hR:W0.heap[w.heap.size+1]?=some (.cells z 43 (0,0)):=by rw [hW0];exact heap_alloc2_new w _ _
 have hO:Old w W0:=by rw [hW0];exact(Old.alloc w _).alloc' _
 have HW0:=zH hW0
 have HA:=zH hA
 have HR:=zH hR
 have HO:=zH hO
 have Hz:=zH hz
 have Hzs:=zH hzs
 have HT:=zH hT
 have HF:=zH hF
 have HV:=zH (fun w=>Values_any (stQ F) (stS F) w (stQ_fits hF))
 have n2:=hF.hn
 clear hW0 hA hR hO hz hzs hT hF
 go_enter Tryz.func89,Tryz.ntmps89
 go_wp2_with (first | (rw [←Hz.out,←HW0.out];with_reducible refine wpList_load_blk rfl 16 (fun j=>F (13+j)) 43 _ rfl w.heap.size 13 rfl _ (HA.out.part 13 16 (by omega)) Tryz.underlying43 rfl Hs16.out ?_) | (with_reducible refine wpList_load_blk rfl 4 (fun j=>F (5+j)) 44 _ rfl w.heap.size 5 rfl _ (HA.out.part 5 4 (by omega)) Tryz.underlying44 rfl Hs4.out ?_))
 rw [stQ_row]
 refine(HV.out _).mono ?_
 rintro e w1 ⟨rfl,ho⟩
 have hst:SpSt w w.heap.size (w.heap.size+1) w1.heap.size z F (.slice p n cap) (specTo (specV F) T 0) (w1.alloc (.cells (rowN 16 (blk (specV F))) 43)):=by
  have ho':=ho.alloc' (.cells (rowN 16 (blk (specV F))) 43)
  have h1:=lt_of_block HA.out
  have h2:=lt_of_block HR.out
  have h3:=ho.size
  exact⟨HA.out.old ho',(ho'.block _ h2).trans HR.out,heap_alloc_new _ _,HO.out.trans ho',by omega,by omega,by omega,by omega⟩
 have HS:=zH hst
 have H1:Hid ((rowN 16 (blk (specV F))).all (·.oneCell')=true):=zH (blk_one _ _)
 have c4:=HS.out.fr.cell4.1
 clear ho hst HV HA HR HO HW0
 go_wp2_with (with_reducible refine wpList_store_row rfl 43 _ _ rfl w1.heap.size (rowN 16 (blk (specV F))) rfl rfl 43 _ (heap_alloc_new _ _) (by rw [rowN_size];exact Hs16.out) (by rw [rowN_size];kernel_rfl) H1.out ?_;rw [World.setRow_alloc_new])
 obtain⟨W2,hW2⟩:∃W2,W2=w1.alloc (.cells (rowN 16 (blk (specV F))) 43):=⟨_,rfl⟩
 obtain⟨bb,hbb⟩:∃bb,bb=w1.heap.size:=⟨_,rfl⟩
 rw [←hW2,←hbb] at HS ⊢
 generalize hrb:w.heap.size+1=rb at HS ⊢
 clear hW2 hbb hrb c4 H1
 go_loopw [16] (fun i wr=>∃k:Nat,k<=n/\i = .int .i64 k/\Hid (SpSt w w.heap.size rb bb z F (.slice p n cap) (specTo (specV F) T k) wr)) (fun i _=>n-(intOf i).toNat)
 case atStart=>exact⟨0,by omega,rfl,HS⟩
 case round=>
  obtain⟨k,hk,rfl,hs⟩:=hrel
  obtain⟨wo,rfl⟩:∃V,V=wr:=⟨_,rfl⟩
  clear HS
  by_cases hlt:k<n
  ·have i1:(0:Int)<=k:=by omega
   have hT:=HT.out.old hs.out.old
   obtain⟨g,o,rfl,hg,hcc⟩:=two_cells hT (by omega)
   obtain⟨a0,a1⟩:=hcc k hlt
   obtain⟨t0,t1,t2,_⟩:=HF.out.ht k hlt
   have ty:=fit24 t2 (by omega) (by omega)
   obtain⟨j,hj⟩:∃j:Nat,T (2*k)=j:=⟨(T (2*k)).toNat,by omega⟩
   have hj16:j<16:=by omega
   have hbd:=specTo_bd HF.out k (by omega) j hj16
   have hsucc:specTo (specV F) T (k+1)=fun q=>if q=j then specTo (specV F) T k j+T (2*k+1) else specTo (specV F) T k q:=by
    funext q
    show (if (q:Int)=T (2*k) then specTo (specV F) T k q+T (2*k+1) else specTo (specV F) T k q)=_
    rw [hj]
    by_cases e:q=j
    ·subst e;rw [if_pos rfl,if_pos rfl]
    ·rw [if_neg (by omega),if_neg e]
   obtain⟨V,hV⟩:∃V,specTo (specV F) T k j=V:=⟨_,rfl⟩
   rw [hj] at a0
   rw [hV] at hbd hsucc
   have hcj:=fun W (h:Old wo W)=>(hs.out.keep h).cell j hj16
   rw [hV] at hcj
   have HCj:=zH hcj
   obtain⟨y,hy⟩:∃y,T (2*k+1)=y:=⟨_,rfl⟩
   rw [hy] at a1 ty hsucc
   obtain⟨r,hr⟩:∃r,V+y=r:=⟨_,rfl⟩
   have hr64:In64 (V+y):=by unfold In64;omega
   have hV64:In64 V:=by unfold In64;omega
   have hy64:In64 y:=by unfold In64;omega
   have hadd:=addL_two V y hV64 hr64
   rw [hr] at hadd hsucc
   have HN:=zH (fun W (h:Old wo W)=>(hs.out.keep h).set j hj16 r)
   rw [←hsucc] at HN
   have HAdd:=zH (fun(W:World)=>(by
    have:=Add_any (some ⟨W.heap.size,0,none⟩) 2 2 [V,y] (W.alloc (.cells #[.int .i64 V,.int .i64 y] 2)).drew ((SlI.fresh W .i64 2 [V,y] 2 (0,0) rfl (by omega)).old (Old.refl _).drew) (fun x hx=>by
     simp only [List.mem_cons,List.mem_nil_iff,or_false] at hx
     rcases hx with rfl | rfl
     ·exact hV64
     ·exact hy64) (by omega)
    rw [hadd] at this
    exact this:Calls Tryz.prog 128 #[.slice (some ⟨W.heap.size,0,none⟩) 2 2] (W.alloc (.cells #[.int .i64 V,.int .i64 y] 2)).drew fun e w'=>e = .returned (.int .i64 r)/\(W.alloc (.cells #[.int .i64 V,.int .i64 y] 2)).drew=w'))
   have HTn:Hid (∀W,Old (wo.alloc (.cells #[.int .i64 (j:Int),.int .i64 y] 224)) W->W.cell? ⟨wo.heap.size,0,none⟩=some (.int .i64 (j:Int))/\W.cell? ⟨wo.heap.size,1,none⟩=some (.int .i64 y)):=zH fun W h=>by
    have hb:=(h.block wo.heap.size (by simp)).trans (heap_alloc_new wo (.cells #[.int .i64 (j:Int),.int .i64 y] 224))
    exact⟨cell_of_row _ _ _ _ _ _ hb,cell_of_row _ _ _ _ _ _ hb⟩
   have HBb:Hid (bb<wo.heap.size):=zH (lt_of_block hs.out.v)
   have j0:(0:Int)<=j:=by omega
   have j1:(j:Int)<16:=by omega
   clear hT hcc t0 t1 t2 ty hj hbd hsucc hV hcj hy hr hr64 hV64 hy64 hadd hs
   go_wp2_with fail
   obtain⟨tb,htb⟩:∃tb,tb=wo.heap.size:=⟨_,rfl⟩
   have hoA:Old wo (wo.alloc (.cells #[.int .i64 (j:Int),.int .i64 y] 224)):=Old.alloc _ _
   obtain⟨W3,hW3⟩:∃W3,W3=wo.alloc (.cells #[.int .i64 (j:Int),.int .i64 y] 224):=⟨_,rfl⟩
   rw [←hW3,←htb] at HTn
   rw [←hW3] at hoA ⊢
   try rw [←htb]
   have HoA:=zH hoA
   have HTb:Hid (tb=wo.heap.size):=zH htb
   clear hW3 htb hoA
   refine wp_region_held_drew (S:=(fun w'=>w'.cell? ⟨tb,0,none⟩=some (.int .i64 (j:Int))/\w'.cell? ⟨tb,1,none⟩=some (.int .i64 y))) (by kernel_rfl) ?_ (fun hHeld=>?_)
   ·(try dsimp only);exact HTn.out _ ((Old.refl W3).drew)
   refine wpU 0 rfl ?_;try simp only [Act.put,sA,sZ,sS]
   refine wpU 2 rfl ?_;try simp only [Act.put,sA,sZ,sS]
   refine wpU 6 rfl ?_;try simp only [Act.put,sA,sZ,sS]
   refine wpU 1 rfl ?_;try simp only [Act.put,sA,sZ,sS]
   refine wpU 3 rfl ?_;try simp only [Act.put,sA,sZ,sS]
   refine wpU 4 rfl ?_;try simp only [Act.put,sA,sZ,sS]
   refine wpU 7 rfl ?_;try simp only [Act.put,sA,sZ,sS]
   refine wpR 5 rfl (fun K hK=>?_)
   obtain⟨b0,b1⟩:=HCj.out _ (HoA.out.trans ((Old.refl W3).drew))
   go_simp
   refine hK.out _ _ ?_ (fun hHeld=>?_)
   ·(try dsimp only);exact HTn.out _ ((Old.refl W3).drew)
   clear hK K
   try simp only [Act.put,sA,sZ,sS]
   clear b0 b1
   obtain⟨W4,hW4⟩:∃W4,W4=(W3.alloc (.cells #[.int .i64 V,.int .i64 y] 2)).drew:=⟨_,rfl⟩
   have ho4:Old W3 W4:=by rw [hW4];exact(Old.alloc W3 _).drew
   have HAd:=zH (HAdd.out W3)
   rw [←hW4] at HAd
   have HK:Hid (W4.cell? ⟨tb,0,none⟩=some (.int .i64 (j:Int))/\W4.cell? ⟨tb,1,none⟩=some (.int .i64 y)):=zH (HTn.out _ ho4)
   have htb:tb≠bb:=fun e=>by
    have h1:=(HCj.out _ HoA.out).1
    have h2:=(HTn.out _ (Old.refl W3)).1
    have:=HTb.out
    have:=HBb.out
    omega
   have HK2:Hid ((W4.setCell ⟨bb,j,none⟩ (.int .i64 r)).cell? ⟨tb,0,none⟩=some (.int .i64 (j:Int))/\(W4.setCell ⟨bb,j,none⟩ (.int .i64 r)).cell? ⟨tb,1,none⟩=some (.int .i64 y)):=zH (by
    rw [World.cell?_setCell_other _ _ _ _ (fun e=>htb (by injection e with e1 _;exact e1.symm)),World.cell?_setCell_other _ _ _ _ (fun e=>htb (by injection e with e1 _;exact e1.symm))]
    exact HTn.out _ ho4)
   have HNn:=zH (HN.out W4 (HoA.out.trans ho4))
   have HD:=zH (HCj.out _ (HoA.out.trans ho4))
   have HW4:=zH hW4
   clear hW4 ho4 HAdd HN HCj HTn HoA
   refine wpR 8 rfl (fun K hK=>?_)
   go_simp
   try rw [←HW4.out]
   refine hK.out _ _ ?_ (fun hHeld=>?_)
   ·(try dsimp only);exact HK.out
   clear hK K
   try simp only [Act.put,sA,sZ,sS]
   refine wpR 9 rfl (fun K hK=>?_)
   go_simp
   refine HAd.out.mono ?_
   rintro e V5 ⟨rfl,rfl⟩
   go_wp2_with fail
   refine hK.out _ _ ?_ (fun hHeld=>?_)
   ·(try dsimp only);exact HK.out
   clear hK K
   try simp only [Act.put,sA,sZ,sS]
   refine wpU 10 rfl ?_;try simp only [Act.put,sA,sZ,sS]
   refine wpR 11 rfl (fun K hK=>?_)
   obtain⟨d0,d1⟩:=HD.out
   go_simp
   refine hK.out _ _ ?_ (fun hHeld=>?_)
   ·(try dsimp only);exact HK2.out
   clear hK K
   try simp only [Act.put,sA,sZ,sS]
   refine wpAnyH_done (by kernel_rfl) ?_ _
   clear HK HK2 HAd HD d0 d1
   go_wp2_with fail
   go_roundw
   case rel=>exact⟨k+1,by omega,by go_num,HNn⟩
   case measure=>simp [intOf];omega
  ·obtain rfl:k=n:=by omega
   have HS:=hs
   have Hv:=zH hs.out.v
   obtain⟨V,hV⟩:∃V,specTo (specV F) T k=V:=⟨_,rfl⟩
   have hspec:specF F k T=clampTo V 16:=by unfold specF;rw [hV]
   rw [hV] at HS Hv
   have HSp:=zH hspec
   have h0:clampTo V 0=V:=by funext q;unfold clampTo;rw [if_neg (by omega)]
   rw [←h0] at HS
   clear hs hV hspec h0 HF HT hlt hk
   go_wp2_with (with_reducible refine wpList_load_row rfl 43 _ rfl bb rfl 43 (rowN 16 (blk V)) (0,0) _ Hv.out Tryz.underlying43 rfl (by rw [rowN_size];exact Hs16.out) ?_)
   clear Hv
   go_loopw [41] (fun i wr=>∃j:Nat,j<=16/\i = .int .i64 j/\Hid (SpSt w w.heap.size rb bb z F (.slice p k cap) (clampTo V j) wr)) (fun i _=>16-(intOf i).toNat)
   case atStart=>exact⟨0,by omega,rfl,HS⟩
   case round=>
    obtain⟨j,hj,rfl,hs⟩:=hrel
    obtain⟨wp,rfl⟩:∃X,X=wr:=⟨_,rfl⟩
    clear HS
    by_cases hlt:j<16
    ·have i1:(0:Int)<=j:=by omega
     have i2:(j:Int)<16:=by omega
     have hat:∀w:World,(Instr.index 43 (.agg (rowN 16 (blk V))) (.int .i64 j)).run Tryz.prog w = .ok (.int .i64 (V j)) w:=fun w=>run_index_ints Tryz.underlying43 Tryz.underlying2 (fun _=>by kernel_rfl) V j hlt w
     have hn:=hs.out.set j hlt (clampI (V j) (-2147483648) 2147483648)
     rw [clampTo_succ] at hn
     have HN:=zH hn
     obtain⟨d0,d1⟩:=hs.out.cell j hlt
     have HC:=zH (fun w=>Clamp_any (V j) (-2147483648) 2147483648 w)
     clear hs hn
     generalize clampI (V j) (-2147483648) 2147483648=y at *
     generalize V j=x at *
     go_wp2_with fail
     refine(HC.out _).mono ?_
     rintro e w5 ⟨rfl,rfl⟩
     go_wp2_with fail
     go_roundw
     case rel=>exact⟨j+1,by omega,by go_num,HN⟩
     case measure=>simp [intOf];omega
    ·obtain rfl:j=16:=by omega
     have Hv:=zH hs.out.v
     have Hres:=zH hs.out.res
     have Hold:=zH hs.out.old
     have Hnrb:=zH hs.out.nrb
     have H1:Hid ((rowN 16 (blk (clampTo V 16))).all (·.oneCell')=true):=zH (blk_one _ _)
     clear hs hlt hj
     go_wp2_with (first | (with_reducible refine wpList_load_row rfl 43 _ rfl bb rfl 43 (rowN 16 (blk (clampTo V 16))) (0,0) _ Hv.out Tryz.underlying43 rfl (by rw [rowN_size];exact Hs16.out) ?_) | (with_reducible refine wpList_store_row rfl 43 _ _ rfl rb (rowN 16 (blk (clampTo V 16))) rfl rfl 43 _ Hres.out (by rw [rowN_size];exact Hs16.out) (by rw [rowN_size];exact Hzs.out) H1.out ?_))
     have hr:=row_ret Hres.out Hold.out Hnrb.out (rowN 16 (blk (clampTo V 16)))
     exact bodyPost_ret (results_cell_row rfl _ _ rb 43 (rowN 16 (blk (clampTo V 16))) (0,0) _ rfl hr.1 Tryz.underlying43 rfl (by rw [rowN_size];exact Hs16.out)) rfl ⟨by rw [HSp.out],hr.2⟩
def encG(F:Nat->Int)(k:Nat):List Bool:=bitsI 1 2 ++ (List.range k).flatMap fun j=>bitsI (F j) 2
def encN(F:Nat->Int)(n:Nat):List Bool:=encG F 4 ++ bitsI n 2
def encT(F:Nat->Int)(n:Nat)(T:Nat->Int)(k:Nat):List Bool:=encN F n ++ (List.range k).flatMap fun j=>bitsI (T (2*j)) 4 ++ bitsI (T (2*j+1)) 24
def encS(F:Nat->Int)(n:Nat)(T:Nat->Int)(k:Nat):List Bool:=encT F n T n ++ (List.range k).flatMap fun j=>bitsI (F (5+j)) 5 ++ bitsI (F (9+j)) 5
def encQ(F:Nat->Int)(n:Nat)(T:Nat->Int)(k:Nat):List Bool:=encS F n T 4 ++ (List.range k).flatMap fun j=>bitsI (F (13+j)) (F (9+j/4))
def enc(F:Nat->Int)(n:Nat)(T:Nat->Int):List Bool:=encQ F n T 16
theorem encG_zero(F:Nat->Int):encG F 0=bitsI 1 2:=by simp [encG]
theorem encT_zero(F:Nat->Int)(n:Nat)(T:Nat->Int):encT F n T 0=encN F n:=by simp [encT]
theorem encS_zero(F:Nat->Int)(n:Nat)(T:Nat->Int):encS F n T 0=encT F n T n:=by simp [encS]
theorem encQ_zero(F:Nat->Int)(n:Nat)(T:Nat->Int):encQ F n T 0=encS F n T 4:=by simp [encQ]
theorem encG_succ(F:Nat->Int)(k:Nat):encG F (k+1)=encG F k ++ bitsI (F k) 2:=by simp [encG,List.range_succ]
theorem encT_succ(F:Nat->Int)(n:Nat)(T:Nat->Int)(k:Nat):encT F n T (k+1)=encT F n T k ++ bitsI (T (2*k)) 4 ++ bitsI (T (2*k+1)) 24:=by simp [encT,List.range_succ]
theorem encS_succ(F:Nat->Int)(n:Nat)(T:Nat->Int)(k:Nat):encS F n T (k+1)=encS F n T k ++ bitsI (F (5+k)) 5 ++ bitsI (F (9+k)) 5:=by simp [encS,List.range_succ]
theorem encQ_succ(F:Nat->Int)(n:Nat)(T:Nat->Int)(k:Nat):encQ F n T (k+1)=encQ F n T k ++ bitsI (F (13+k)) (F (9+k/4)):=by simp [encQ,List.range_succ]
theorem encG_len(F:Nat->Int)(k:Nat):(encG F k).length=2+2*k:=by
 induction k with
 | zero=>rw [encG_zero,len_bitsI];rfl
 | succ k ih=>rw [encG_succ,List.length_append,ih,len_bitsI];show 2+2*k+2=_;omega
theorem encN_len(F:Nat->Int)(n:Nat):(encN F n).length=12:=by
 unfold encN;rw [List.length_append,encG_len,len_bitsI];rfl
theorem encT_len(F:Nat->Int)(n:Nat)(T:Nat->Int)(k:Nat):(encT F n T k).length=12+28*k:=by
 induction k with
 | zero=>rw [encT_zero,encN_len]
 | succ k ih=>rw [encT_succ,List.length_append,List.length_append,ih,len_bitsI,len_bitsI];show 12+28*k+4+24=_;omega
theorem encS_len(F:Nat->Int)(n:Nat)(T:Nat->Int)(k:Nat):(encS F n T k).length=12+28*n+10*k:=by
 induction k with
 | zero=>rw [encS_zero,encT_len];omega
 | succ k ih=>rw [encS_succ,List.length_append,List.length_append,ih,len_bitsI,len_bitsI];show 12+28*n+10*k+5+5=_;omega
theorem encQ_len(F:Nat->Int)(n:Nat)(T:Nat->Int)(k:Nat)(hw:∀k,k<4->0<=F (9+k)/\F (9+k)<=24)(hk:k<=16):(encQ F n T k).length<=52+28*n+24*k:=by
 induction k with
 | zero=>rw [encQ_zero,encS_len];omega
 | succ k ih=>
  rw [encQ_succ,List.length_append,len_bitsI]
  have:=ih (by omega)
  have:=hw (k/4) (by omega)
  omega
theorem enc_len{F:Nat->Int}{n:Nat}{T:Nat->Int}(h:FrP F n T):((enc F n T).length:Int)=costI F n:=by
 have h0:=h.hw 0 (by omega);have h1:=h.hw 1 (by omega);have h2:=h.hw 2 (by omega);have h3:=h.hw 3 (by omega)
 have e:(enc F n T).length=52+28*n+4*((F 9).toNat+(F 10).toNat+(F 11).toNat+(F 12).toNat):=by
  unfold enc
  rw [encQ_succ,encQ_succ,encQ_succ,encQ_succ,encQ_succ,encQ_succ,encQ_succ,encQ_succ,encQ_succ,encQ_succ,encQ_succ,encQ_succ,encQ_succ,encQ_succ,encQ_succ,encQ_succ,encQ_zero]
  simp only [List.length_append,encS_len,len_bitsI]
  show 12+28*n+10*4+(F 9).toNat+(F 9).toNat+(F 9).toNat+(F 9).toNat+(F 10).toNat+(F 10).toNat+(F 10).toNat+(F 10).toNat+(F 11).toNat+(F 11).toNat+(F 11).toNat+(F 11).toNat+(F 12).toNat+(F 12).toNat+(F 12).toNat+(F 12).toNat=_
  omega
 unfold costI
 rw [e,sum_four]
 show ((52+28*n+4*((F 9).toNat+(F 10).toNat+(F 11).toNat+(F 12).toNat):Nat):Int)=52+28*n+4*(F 9+F 10+F 11+F 12)
 have g0:0<=F 9:=h0.1
 have g1:0<=F 10:=h1.1
 have g2:0<=F 11:=h2.1
 have g3:0<=F 12:=h3.1
 omega
def BySt(w:World)(bw:Nat)(L:List Bool)(wr:World):Prop:=WrAt wr (fun k=>k<w.heap.size) bw L 0/\Old w wr
namespace BySt
variable {w wr w':World} {bw:Nat} {L:List Bool}
theorem fresh(w:World):BySt w w.heap.size [] (w.alloc (.cells #[.slice none 0 0,.int .i64 0,.int .i64 0] 302)):=
 ⟨WrAt.fresh (heap_alloc_new _ _) (by omega) (fun k hk=>by simp;omega),Old.alloc _ _⟩
end BySt
theorem put_X{X:Nat->Prop}{wr:World}{bw:Nat}{L:List Bool}(h:WrAt wr X bw L 0)(v k:Int)(hL:L.length<=4294967200)(h0:0<=v)(h1:v<=9223372036854775807)(hv:validI false v k=true):
  Calls Tryz.prog 204 #[.pointer (some ⟨bw,0,none⟩),.int .u64 v,.int .i64 k] wr fun e w'=>e = .returned (.tuple #[])/\WrAt w' X bw (L ++ bitsI v k) 0/\Kept X wr w':=by
 refine(Put_any X bw L 0 v k wr hL h0 (by omega) h).mono ?_
 rintro e w' ⟨he,h2,h3⟩
 have hp:=putI_plain L 0 v k (by omega) h1
 rw [show v%18446744073709551616=v by omega] at hp
 rw [hp] at h2
 unfold putI at h2
 rw [if_neg (by simp),if_pos hv] at h2
 exact⟨he,h2,h3⟩
theorem sgn_X{X:Nat->Prop}{wr:World}{bw:Nat}{L:List Bool}(h:WrAt wr X bw L 0)(v k:Int)(hL:L.length<=4294967200)(h0:-9223372036854775808<=v)(h1:v<=9223372036854775807)(hv:validI true v k=true):
  Calls Tryz.prog 205 #[.pointer (some ⟨bw,0,none⟩),.int .i64 v,.int .i64 k] wr fun e w'=>e = .returned (.tuple #[])/\WrAt w' X bw (L ++ bitsI v k) 0/\Kept X wr w':=by
 refine(WSigned_any X bw L 0 v k wr hL h).mono ?_
 rintro e w' ⟨he,h2,h3⟩
 rw [putI_signed L 0 v k h0 h1] at h2
 unfold putI at h2
 rw [if_neg (by simp),if_pos hv] at h2
 exact⟨he,h2,h3⟩
theorem Put_ok{w wr:World}{bw:Nat}{L:List Bool}(h:BySt w bw L wr)(v k:Int)(hL:L.length<=4294967200)(h0:0<=v)(h1:v<=9223372036854775807)(hv:validI false v k=true):
  Calls Tryz.prog 204 #[.pointer (some ⟨bw,0,none⟩),.int .u64 v,.int .i64 k] wr fun e w'=>e = .returned (.tuple #[])/\BySt w bw (L ++ bitsI v k) w':=
 (put_X h.1 v k hL h0 h1 hv).mono fun e w' ⟨he,h2,h3⟩=>⟨he,h2,Kept.trans h.2 h3⟩
theorem Signed_ok{w wr:World}{bw:Nat}{L:List Bool}(h:BySt w bw L wr)(v k:Int)(hL:L.length<=4294967200)(h0:-9223372036854775808<=v)(h1:v<=9223372036854775807)(hv:validI true v k=true):
  Calls Tryz.prog 205 #[.pointer (some ⟨bw,0,none⟩),.int .i64 v,.int .i64 k] wr fun e w'=>e = .returned (.tuple #[])/\BySt w bw (L ++ bitsI v k) w':=
 (sgn_X h.1 v k hL h0 h1 hv).mono fun e w' ⟨he,h2,h3⟩=>⟨he,h2,Kept.trans h.2 h3⟩
theorem BySt.guard{w wr:World}{bw:Nat}{L:List Bool}(h:BySt w bw L wr)(o:Obj):WrAt (wr.alloc o) (fun k=>k<w.heap.size\/k=wr.heap.size) bw L 0:=by
 obtain⟨⟨hXb,hX,v,hblk,hown⟩,ho⟩:=h
 have hk:Old wr (wr.alloc o):=Old.alloc wr o
 have hb:=lt_of_block hblk
 have hs:=ho.size
 refine⟨fun hh=>hh.elim hXb (by omega),fun k hk=>by simp;omega,v,(hk.block bw hb).trans hblk,(hown.old hk).mono fun k hv hh=>?_⟩
 have:=hown.lt k hv
 rcases hh with (h1 | h1) | h1
 ·exact hown.2 k hv (.inl h1)
 ·omega
 ·exact hown.2 k hv (.inr h1)
theorem BySt.back{w wr w':World}{bw:Nat}{L L':List Bool}{o:Obj}(h:BySt w bw L wr)(h2:WrAt w' (fun k=>k<w.heap.size\/k=wr.heap.size) bw L' 0)(h3:Kept (fun k=>k<w.heap.size\/k=wr.heap.size) (wr.alloc o) w'):BySt w bw L' w':=by
 obtain⟨hXb,hX,v,hblk,hown⟩:=h2
 have ho:=h.2
 refine⟨⟨fun hh=>hXb (.inl hh),fun k hk=>hX k (.inl hk),v,hblk,hown.mono fun k hv hh=>hown.2 k hv (hh.imp (fun h=>.inl h) id)⟩,?_⟩
 exact Kept.trans (ho.alloc' o) (h3.mono fun k hk=>.inl hk)
theorem valid_low(v k m:Int)(hk:0<=k)(hk2:k<=57)(h0:0<=v)(h1:v<=m)(hm:m<pw k.toNat):validI false v k=true:=by
 unfold validI
 simp only [Bool.false_eq_true,if_false,Bool.and_eq_true,decide_eq_true_eq]
 exact⟨⟨hk,hk2⟩,h0,by omega⟩
theorem valid_fit(v k:Int)(hk:0<=k)(hk2:k<=24)(h:fitB v k=true):validI true v k=true/\-8388608<=v/\v<=8388607:=by
 refine⟨?_,?_⟩
 ·unfold validI
  simp only [if_true,Bool.and_eq_true,decide_eq_true_eq]
  exact⟨⟨hk,by omega⟩,h⟩
 ·by_cases h0:k<=0
  ·rw [fitB_neg v k h0,beq_iff_eq] at h
   omega
  ·rw [fitB_mid v k (by omega) (by omega),decide_eq_true_eq] at h
   have:=pw_mono (k-1).toNat 23 (by omega)
   rw [show pw 23=8388608 from rfl] at this
   omega
theorem FrB.blk{t:TypeId}{w:World}{b:Nat}{F:Nat->Int}{s:Value}(h:FrB t w b F s):w.heap[b]?=some (.cells (rowN 29 (frC F s)) t (0,0)):=h
def bytesR(w:World)(L:List Bool)(size:Int)(e:Ending)(w':World):Prop:=
 Old w w'/\((bytesErr L 0 size≠0/\e = .returned (.tuple #[.slice none 0 0,.int .i64 (bytesErr L 0 size)]))\/(bytesErr L 0 size=0/\∃g,e = .returned (.tuple #[.slice (some ⟨g,0,none⟩) size.toNat size.toNat,.int .i64 0])/\w.heap.size<=g/\w'.heap[g]?=some (.cells ((padded L size.toNat).map (Value.int .u8)).toArray 5 (0,0))))
theorem WBytes_any{w wr:World}{bw:Nat}{L:List Bool}(h:BySt w bw L wr)(size:Int):
  Calls Tryz.prog 206 #[.pointer (some ⟨bw,0,none⟩),.int .i64 size] wr (bytesR w L size):=by
 have hs:=h.2.size
 by_cases he:bytesErr L 0 size=0
 ·have h0:0<=size/\size<=2147483647/\(nb L:Int)<=size:=by
   unfold bytesErr at he
   rw [if_neg (by simp)] at he
   split at he
   ·omega
   ·split at he <;> omega
  obtain⟨N,rfl⟩:=Int.eq_ofNat_of_zero_le h0.1
  refine(Bytes_ok _ bw L N wr h.1 (by omega) (by omega)).mono ?_
  rintro e w' ⟨rfl,h2,h3⟩
  refine⟨h.2.trans (Old.below h3),.inr ⟨he,wr.heap.size,rfl,hs,?_⟩⟩
  simpa using h2
 ·refine(Bytes_err _ bw L 0 size wr h.1 he).mono ?_
  rintro e w' ⟨rfl,h2⟩
  exact⟨h.2.alike h2,.inl ⟨he,rfl⟩⟩
set_option maxHeartbeats 4000000 in
theorem FBytes_yes(F:Nat->Int)(p:Option Addr)(n cap:Nat)(T:Nat->Int)(size:Int)(w:World)(hT:SlF 2 w p n T)(hf:Fits64 T)(hn:n<=cap)(hc:cap<=maxLen)(hF:FrP F n T):
  Calls Tryz.prog 154 #[.agg (rowN 29 (frC F (.slice p n cap))),.int .i64 size] w (bytesR w (enc F n T) size):=by
 have Hs29:Hid ((Tryz.prog.info? 113).map (·.size)=some 29):=zH (by kernel_rfl)
 have Hs4:Hid ((Tryz.prog.info? 44).map (·.size)=some 4):=zH (by kernel_rfl)
 have Hs16:Hid ((Tryz.prog.info? 43).map (·.size)=some 16):=zH (by kernel_rfl)
 have HB:Hid (FrB 113 (w.alloc (.cells (rowN 29 (frC F (.slice p n cap))) 113)) w.heap.size F (.slice p n cap)):=zH (FrB.new w F _)
 have HO:Hid (Old w (w.alloc (.cells (rowN 29 (frC F (.slice p n cap))) 113))):=zH (Old.alloc _ _)
 have hr:=FRight_any F p n cap T _ (hT.old HO.out) hf hn hc
 rw [decide_eq_true hF] at hr
 have HR:=zH hr
 have HT:=zH hT
 have HF:=zH hF
 have n2:=hF.hn
 clear hr hT hf hF
 go_enter Tryz.func154,Tryz.ntmps154
 go_wp2_with (with_reducible refine wpList_load_row rfl 113 _ rfl w.heap.size rfl 113 (rowN 29 (frC F (.slice p n cap))) (0,0) _ HB.out.blk Tryz.underlying113 rfl (by rw [rowN_size];exact Hs29.out) ?_)
 refine HR.out.mono ?_
 rintro e w1 ⟨rfl,ho⟩
 have HB1:=zH (HB.out.old ho)
 have HO1:=zH (HO.out.trans ho)
 have HT1:=zH (HT.out.old HO1.out)
 clear ho HB HO HR HT
 obtain⟨bw,hbw⟩:∃bw,bw=w1.heap.size:=⟨_,rfl⟩
 have hst:=BySt.fresh w1
 obtain⟨W2,hW2⟩:∃W2,W2=w1.alloc (.cells #[.slice none 0 0,.int .i64 0,.int .i64 0] 302):=⟨_,rfl⟩
 rw [←hW2,←hbw] at hst
 have HP:=zH (Put_ok hst 1 2 (by simp) (by omega) (by omega) (valid_low 1 2 1 (by omega) (by omega) (by omega) (by omega) (by decide)))
 have HW2:=zH hW2
 have Hbw:=zH hbw
 clear hst hW2 hbw
 go_wp2_with fail
 rw [←HW2.out,←Hbw.out]
 refine HP.out.mono ?_
 rintro e w3 ⟨rfl,hs⟩
 rw [List.nil_append,←encG_zero F] at hs
 have HS:=zH hs
 have HB3:=zH (HB1.out.old hs.2)
 clear hs HP HW2 Hbw
 go_wp2_with (with_reducible refine wpList_load_blk rfl 4 F 44 _ rfl w.heap.size 0 rfl _ (fun j hj=>by have:=HB3.out.part 0 4 (by omega) j hj;rwa [Nat.zero_add] at this ⊢) Tryz.underlying44 rfl Hs4.out ?_)
 go_loopw [21] (fun i wr=>∃k:Nat,k<=4/\i = .int .i64 k/\Hid (BySt w1 bw (encG F k) wr)) (fun i _=>4-(intOf i).toNat)
 case atStart=>exact⟨0,by omega,rfl,HS⟩
 case round=>
  obtain⟨k,hk,rfl,hs⟩:=hrel
  clear HS HB3
  by_cases hlt:k<4
  ·have i1:(0:Int)<=k:=by omega
   have i2:(k:Int)<4:=by omega
   have hat:∀w:World,(Instr.index 44 (.agg (rowN 4 (blk F))) (.int .i64 k)).run Tryz.prog w = .ok (.int .i64 (F k)) w:=fun w=>run_index_ints Tryz.underlying44 Tryz.underlying3 (fun _=>by kernel_rfl) F k hlt w
   obtain⟨g0,g1⟩:=HF.out.hg k hlt
   have HP:=zH (Put_ok hs.out (F k) 2 (by rw [encG_len];omega) g0 (by omega) (valid_low _ 2 3 (by omega) (by omega) g0 g1 (by decide)))
   rw [←encG_succ] at HP
   clear hs
   generalize F k=x at *
   go_wp2_with fail
   refine HP.out.mono ?_
   rintro e w4 ⟨rfl,hs⟩
   have HS:=zH hs
   clear hs HP
   go_wp2_with fail
   go_roundw
   case rel=>exact⟨k+1,by omega,by go_num,HS⟩
   case measure=>simp [intOf];omega
  ·obtain rfl:k=4:=by omega
   have HB4:=zH (HB1.out.old hs.out.2)
   have c4:=HB4.out.cell4.1
   have HP:=zH (Put_ok hs.out n 2 (by rw [encG_len];omega) (by omega) (by omega) (valid_low _ 2 2 (by omega) (by omega) (by omega) (by omega) (by decide)))
   clear hs hlt hk
   go_wp2_with fail
   refine HP.out.mono ?_
   rintro e w4 ⟨rfl,hs⟩
   rw [show encG F 4 ++ bitsI n 2=encN F n from rfl,←encT_zero F n T] at hs
   have HS:=zH hs
   have c4:=(HB1.out.old hs.2).cell4.1
   clear hs HP HB4
   go_wp2_with fail
   try rw [show ((4:Nat):Int)=4 from rfl]
   go_loopw [36] (fun i wr=>∃k:Nat,k<=n/\i = .int .i64 k/\Hid (BySt w1 bw (encT F n T k) wr)) (fun i _=>n-(intOf i).toNat)
   case atStart=>exact⟨0,by omega,rfl,HS⟩
   case round=>
    obtain⟨k,hk,rfl,hs⟩:=hrel
    obtain⟨wo,rfl⟩:∃V,V=wr:=⟨_,rfl⟩
    clear HS c4
    by_cases hlt:k<n
    ·have i1:(0:Int)<=k:=by omega
     have hT:=HT1.out.old hs.out.2
     obtain⟨g,o,rfl,hg,hcc⟩:=two_cells hT (by omega)
     obtain⟨a0,a1⟩:=hcc k hlt
     obtain⟨t0,t1,t2,_⟩:=HF.out.ht k hlt
     obtain⟨tv,tb0,tb1⟩:=valid_fit _ 24 (by omega) (by omega) t2
     have hlen:=encT_len F n T k
     have hgd:=hs.out.guard (.cells #[.int .i64 (T (2*k)),.int .i64 (T (2*k+1))] 224)
     have HP:=zH (put_X hgd (T (2*k)) 4 (by omega) t0 (by omega) (valid_low _ 4 15 (by omega) (by omega) t0 t1 (by decide)))
     have HQ:=zH (fun wx (h:WrAt wx (fun q=>q<w1.heap.size\/q=wo.heap.size) bw (encT F n T k ++ bitsI (T (2*k)) 4) 0)=>sgn_X h (T (2*k+1)) 24 (by rw [List.length_append,len_bitsI,hlen];show 12+28*k+4<=_;omega) (by omega) (by omega) tv)
     rw [←encT_succ] at HQ
     have HBk:=zH (fun(wx:World) (h2:WrAt wx (fun q=>q<w1.heap.size\/q=wo.heap.size) bw (encT F n T (k+1)) 0) (h3:Kept (fun q=>q<w1.heap.size\/q=wo.heap.size) (wo.alloc (.cells #[.int .i64 (T (2*k)),.int .i64 (T (2*k+1))] 224)) wx)=>hs.out.back h2 h3)
     have hnew:(wo.alloc (.cells #[.int .i64 (T (2*k)),.int .i64 (T (2*k+1))] 224)).cell? ⟨wo.heap.size,1,none⟩=some (.int .i64 (T (2*k+1))):=by rw [World.cell?_alloc_at _ _ _ _ rfl];rfl
     have HNw:=zH hnew
     clear hT hcc hgd hlen hs t2 tv hnew
     generalize T (2*k)=x at *
     generalize T (2*k+1)=y at *
     go_wp2_with fail
     refine HP.out.mono ?_
     rintro e w5 ⟨rfl,h5,k5⟩
     have d1:=(k5.cell (a:=⟨wo.heap.size,1,none⟩) (Or.inr rfl)).trans HNw.out
     have H5:=zH h5
     have K5:=zH k5
     clear h5 k5 HP HNw
     go_wp2_with fail
     refine(HQ.out _ H5.out).mono ?_
     rintro e w6 ⟨rfl,h6,k6⟩
     have HS:=zH (HBk.out _ h6 (K5.out.trans k6))
     clear h6 k6 HQ HBk H5 K5 d1
     go_wp2_with fail
     go_roundw
     case rel=>exact⟨k+1,by omega,by go_num,HS⟩
     case measure=>simp [intOf];omega
    ·obtain rfl:k=n:=by omega
     have HB4:=zH (HB1.out.old hs.out.2)
     rw [←encS_zero] at hs
     have HS:=hs
     clear hs hlt hk
     go_wp2_with (with_reducible refine wpList_load_blk rfl 4 (fun j=>F (5+j)) 44 _ rfl w.heap.size 5 rfl _ (HB4.out.part 5 4 (by omega)) Tryz.underlying44 rfl Hs4.out ?_)
     go_loopw [50] (fun i wr=>∃j:Nat,j<=4/\i = .int .i64 j/\Hid (BySt w1 bw (encS F k T j) wr)) (fun i _=>4-(intOf i).toNat)
     case atStart=>exact⟨0,by omega,rfl,HS⟩
     case round=>
      obtain⟨j,hj,rfl,hs⟩:=hrel
      obtain⟨wp,rfl⟩:∃V,V=wr:=⟨_,rfl⟩
      clear HS HB4
      by_cases hlt:j<4
      ·have i1:(0:Int)<=j:=by omega
       have i2:(j:Int)<4:=by omega
       have hat:∀w:World,(Instr.index 44 (.agg (rowN 4 (blk fun q=>F (5+q)))) (.int .i64 j)).run Tryz.prog w = .ok (.int .i64 (F (5+j))) w:=fun w=>run_index_ints Tryz.underlying44 Tryz.underlying3 (fun _=>by kernel_rfl) (fun q=>F (5+q)) j hlt w
       obtain⟨s0,s1⟩:=HF.out.hs j hlt
       obtain⟨v0,v1⟩:=HF.out.hw j hlt
       have hlen:=encS_len F k T j
       have HP:=zH (Put_ok hs.out (F (5+j)) 5 (by omega) s0 (by omega) (valid_low _ 5 23 (by omega) (by omega) s0 s1 (by decide)))
       have HQ:=zH (fun wx (h:BySt w1 bw (encS F k T j ++ bitsI (F (5+j)) 5) wx)=>Put_ok h (F (9+j)) 5 (by rw [List.length_append,len_bitsI,hlen];show 12+28*k+10*j+5<=_;omega) v0 (by omega) (valid_low _ 5 24 (by omega) (by omega) v0 v1 (by decide)))
       rw [←encS_succ] at HQ
       have HC:=zH (fun(wx:World) (h:Old w1 wx)=>((HB1.out.old h).cell (9+j) (by omega) (by omega)).1)
       clear hs hlen
       generalize F (5+j)=x at *
       generalize F (9+j)=y at *
       go_wp2_with fail
       refine HP.out.mono ?_
       rintro e w5 ⟨rfl,h5⟩
       have d1:=HC.out _ h5.2
       have H5:=zH h5
       clear h5 HP HC
       go_wp2_with fail
       refine(HQ.out _ H5.out).mono ?_
       rintro e w6 ⟨rfl,h6⟩
       have HS:=zH h6
       clear h6 HQ H5 d1
       go_wp2_with fail
       go_roundw
       case rel=>exact⟨j+1,by omega,by go_num,HS⟩
       case measure=>simp [intOf];omega
      ·obtain rfl:j=4:=by omega
       have HB5:=zH (HB1.out.old hs.out.2)
       rw [←encQ_zero] at hs
       have HS:=hs
       clear hs hlt hj
       go_wp2_with (with_reducible refine wpList_load_blk rfl 16 (fun j=>F (13+j)) 43 _ rfl w.heap.size 13 rfl _ (HB5.out.part 13 16 (by omega)) Tryz.underlying43 rfl Hs16.out ?_)
       try rw [show ((4:Nat):Int)=4 from rfl]
       go_loopw [66] (fun i wr=>∃j:Nat,j<=16/\i = .int .i64 j/\Hid (BySt w1 bw (encQ F k T j) wr)) (fun i _=>16-(intOf i).toNat)
       case atStart=>exact⟨0,by omega,rfl,HS⟩
       case round=>
        obtain⟨j,hj,rfl,hs⟩:=hrel
        obtain⟨wq,rfl⟩:∃V,V=wr:=⟨_,rfl⟩
        clear HS HB5
        by_cases hlt:j<16
        ·have i1:(0:Int)<=j:=by omega
         have i2:(j:Int)<16:=by omega
         have hat:∀w:World,(Instr.index 43 (.agg (rowN 16 (blk fun q=>F (13+q)))) (.int .i64 j)).run Tryz.prog w = .ok (.int .i64 (F (13+j))) w:=fun w=>run_index_ints Tryz.underlying43 Tryz.underlying2 (fun _=>by kernel_rfl) (fun q=>F (13+q)) j hlt w
         obtain⟨m,hm⟩:∃m,j/4=m:=⟨_,rfl⟩
         have m0:(0:Int)<=m:=by omega
         have m1:(m:Int)<4:=by omega
         have HBd:=zH (fun w=>Band_nat j m w hlt hm)
         have hq:=HF.out.hq j hlt
         obtain⟨v0,v1⟩:=HF.out.hw m (by omega)
         have hlen:=encQ_len F k T j HF.out.hw hj
         have hqs:=encQ_succ F k T j
         rw [hm] at hq hqs
         obtain⟨tv,tb0,tb1⟩:=valid_fit _ _ v0 v1 hq
         have HP:=zH (Signed_ok hs.out (F (13+j)) (F (9+m)) (by omega) (by omega) (by omega) tv)
         rw [←hqs] at HP
         have hc:=((HB1.out.old hs.out.2).cell (9+m) (by omega) (by omega)).1
         clear hs hlen hqs hq tv hm
         generalize F (13+j)=x at *
         generalize F (9+m)=y at *
         go_wp2_with fail
         refine(HBd.out _).mono ?_
         rintro e w5 ⟨rfl,rfl⟩
         go_wp2_with fail
         refine HP.out.mono ?_
         rintro e w6 ⟨rfl,h6⟩
         have HS:=zH h6
         clear h6 HP HBd hc
         go_wp2_with fail
         go_roundw
         case rel=>exact⟨j+1,by omega,by go_num,HS⟩
         case measure=>simp [intOf];omega
        ·obtain rfl:j=16:=by omega
         have HE:=zH (WBytes_any hs.out size)
         clear hs hlt hj HF HT1 HB1
         go_wp2_with fail
         refine HE.out.mono ?_
         rintro e w7 ⟨h7,hh⟩
         have H7:=zH (HO1.out.trans h7)
         have hsz:=HO1.out.size
         have HSZ:=zH hsz
         clear hsz
         rcases hh with ⟨h0,rfl⟩ | ⟨h0,gg,rfl,hge,hgb⟩
         ·have H0:=zH h0
          clear h0 h7 HE
          go_wp2_with fail
          go_ret2
          exact⟨H7.out,.inl ⟨H0.out,rfl⟩⟩
         ·have H0:=zH h0
          have HG:=zH hgb
          have HGe:=zH hge
          clear h0 h7 HE hgb hge
          go_wp2_with fail
          go_ret2
          exact⟨H7.out,.inr ⟨H0.out,gg,rfl,Nat.le_trans HSZ.out HGe.out,HG.out⟩⟩
def withTo(bs:List Int)(i:Nat)(er k lo hi:Int):Int × Nat × Int:=
 if (getTo bs i er k).1<lo\/hi<(getTo bs i er k).1 then(0,(getTo bs i er k).2.1,if (getTo bs i er k).2.2=0 then 4 else(getTo bs i er k).2.2) else getTo bs i er k
theorem within_any(b:Nat)(bs:List Int)(i:Nat)(er k lo hi:Int)(w:World)(h:RdAt w b bs i er):
  Calls Tryz.prog 166 #[.pointer (some ⟨b,0,none⟩),.int .i64 k,.int .i64 lo,.int .i64 hi] w fun e w'=>e = .returned (.int .i64 (withTo bs i er k lo hi).1)/\RdAt w' b bs (withTo bs i er k lo hi).2.1 (withTo bs i er k lo hi).2.2/\Kept (butOf w b) w w':=by
 have hi8:i<=8*bs.length:=by obtain⟨_,_,_,_,_,_,h6⟩:=h;exact h6
 have hr:=getTo_range bs i er k hi8
 have HG:=zH (Get_any b bs i er k w h)
 unfold withTo
 generalize getTo bs i er k=g at *
 obtain⟨v,j,e2⟩:=g
 simp only [] at *
 obtain⟨v0,v1,_⟩:=hr
 clear h hi8
 have HFa:=zH (fun w1 (hg:RdAt w1 b bs j e2)=>Fail_any b bs j e2 4 w1 hg)
 obtain⟨e3,he3⟩:∃e3,(if e2=0 then(4:Int) else e2)=e3:=⟨_,rfl⟩
 rw [he3] at HFa ⊢
 clear he3
 by_cases h1:v<lo
 ·rw [if_pos (Or.inl h1)]
  go_enter Tryz.func166,Tryz.ntmps166
  go_wp2_with fail
  refine HG.out.mono ?_
  rintro e w1 ⟨rfl,hg,hk⟩
  have HF:=zH (HFa.out w1 hg)
  have HK:=zH hk
  clear hg hk HG
  go_wp2_with fail
  refine HF.out.mono ?_
  rintro e w2 ⟨rfl,hg2,hk2⟩
  have HF2:=zH hg2
  have HK2:=zH (HK.out.trans (hk2.mono fun q hq=>⟨Nat.lt_of_lt_of_le hq.1 HK.out.size,hq.2⟩))
  clear hg2 hk2 HF HK
  go_wp2_with fail
  go_ret
  exact⟨rfl,HF2.out,HK2.out⟩
 ·by_cases h2:hi<v
  ·rw [if_pos (Or.inr h2)]
   have h1':lo<=v:=by omega
   clear h1
   go_enter Tryz.func166,Tryz.ntmps166
   go_wp2_with fail
   refine HG.out.mono ?_
   rintro e w1 ⟨rfl,hg,hk⟩
   have HF:=zH (HFa.out w1 hg)
   have HK:=zH hk
   clear hg hk HG
   go_wp2_with fail
   refine HF.out.mono ?_
   rintro e w2 ⟨rfl,hg2,hk2⟩
   have HF2:=zH hg2
   have HK2:=zH (HK.out.trans (hk2.mono fun q hq=>⟨Nat.lt_of_lt_of_le hq.1 HK.out.size,hq.2⟩))
   clear hg2 hk2 HF HK
   go_wp2_with fail
   go_ret
   exact⟨rfl,HF2.out,HK2.out⟩
  ·rw [if_neg (by omega)]
   have h1':lo<=v:=by omega
   have h2':v<=hi:=by omega
   clear h1 h2
   go_enter Tryz.func166,Tryz.ntmps166
   go_wp2_with fail
   refine HG.out.mono ?_
   rintro e w1 ⟨rfl,hg,hk⟩
   have HF:=zH hg
   have HK:=zH hk
   clear hg hk HG
   go_wp2_with fail
   go_ret
   exact⟨rfl,HF.out,HK.out⟩
def RdP(w:World)(b:Nat)(bs:List Int)(er:Int)(L:List Bool):Prop:=
 ∃i,RdAt w b bs i er/\(er=0->L <+: bitsOf bs/\i=L.length)/\(er=0\/er=2\/er=4)
theorem RdP.but{w w':World}{b q0:Nat}{bs:List Int}{er:Int}{L:List Bool}{cs:Array Value}{t:TypeId}{fr:Nat × Nat}(h:RdP w b bs er L)(k:Kept (butOf w q0) w w')(h0:w.heap[q0]?=some (.cells cs t fr))(h1:t≠5)(h2:t≠318):RdP w' b bs er L:=by
 obtain⟨i,h3,h4⟩:=h
 exact⟨i,h3.but k h0 h1 h2,h4⟩
theorem RdP.old{w w':World}{b:Nat}{bs:List Int}{er:Int}{L:List Bool}(h:RdP w b bs er L)(k:Old w w'):RdP w' b bs er L:=by
 obtain⟨i,h3,h4⟩:=h
 exact⟨i,h3.old k,h4⟩
theorem RdP.congr{w:World}{b:Nat}{bs:List Int}{er:Int}{L M:List Bool}(h:RdP w b bs er L)(e:L=M):RdP w b bs er M:=by subst e;exact h
theorem getTo_spec{w:World}{b:Nat}{bs:List Int}{er:Int}{L:List Bool}{i:Nat}(h1:RdAt w b bs i er)(h2:er=0->L <+: bitsOf bs/\i=L.length)(h3:er=0\/er=2\/er=4)(k:Nat)(hk:k<=57):
  (er≠0/\getTo bs i er k=(0,i,er))\/(er=0/\8*bs.length<L.length+k/\getTo bs i er k=(0,i,2)) \/
  (er=0/\L.length+k<=8*bs.length/\getTo bs i er k=(numB (nextB bs L.length k),L.length+k,0)/\(L ++ nextB bs L.length k) <+: bitsOf bs/\(nextB bs L.length k).length=k):=by
 by_cases her:er=0
 ·subst her
  obtain⟨hp,rfl⟩:=h2 rfl
  have hl:=pre_len hp
  by_cases hs:8*bs.length<L.length+k
  ·refine .inr (.inl ⟨rfl,hs,?_⟩)
   unfold getTo
   rw [if_neg (by omega),if_neg (by simp),if_pos (by omega)]
  ·refine .inr (.inr ⟨rfl,by omega,?_,pre_next hp k (by omega),nextB_len bs _ _ (by omega)⟩)
   unfold getTo
   rw [if_neg (by omega),if_neg (by simp),if_neg (by omega)]
   rfl
 ·refine .inl ⟨her,?_⟩
  unfold getTo
  rw [if_neg (by omega),if_pos her]
theorem with_step{w:World}{b:Nat}{bs:List Int}{er:Int}{L:List Bool}(h:RdP w b bs er L)(k:Nat)(lo hi:Int)(hk:k<=57)(h0:0<=hi)(hlo:0<=lo):
  Calls Tryz.prog 166 #[.pointer (some ⟨b,0,none⟩),.int .i64 k,.int .i64 lo,.int .i64 hi] w fun e w'=>∃v er',e = .returned (.int .i64 v)/\Kept (butOf w b) w w'/\RdP w' b bs er' (L ++ bitsI v k) /\
   (er'=0->er=0/\lo<=v/\v<=hi)/\(0<=v/\v<=hi)/\(∀v0,er=0->lo<=v0->v0<=hi->v0<pw k->(L ++ bitsI v0 k) <+: bitsOf bs->er'=0/\v=v0):=by
 obtain⟨i,h1,h2,h3⟩:=h
 refine(within_any b bs i er k lo hi w h1).mono ?_
 rintro e w' ⟨rfl,hr,hkp⟩
 refine⟨(withTo bs i er k lo hi).1,(withTo bs i er k lo hi).2.2,rfl,hkp,?_⟩
 rcases getTo_spec h1 h2 h3 k hk with ⟨a1,a2⟩ | ⟨a1,a2,a3⟩ | ⟨a1,a2,a3,a4,a5⟩
 ·have e:withTo bs i er k lo hi=(0,i,er):=by
   unfold withTo;rw [a2];dsimp only
   split
   ·first | rfl | rw [if_neg a1]
   ·rfl
  rw [e] at hr ⊢
  exact⟨⟨i,hr,fun h=>absurd h a1,h3⟩,fun h=>absurd h a1,⟨Int.le_refl _,h0⟩,fun v0 h=>absurd h a1⟩
 ·have e:withTo bs i er k lo hi=(0,i,2):=by
   unfold withTo;rw [a3];dsimp only
   split
   ·rw [if_neg (by omega)]
   ·rfl
  rw [e] at hr ⊢
  refine⟨⟨i,hr,fun h=>by dsimp only at h;omega,.inr (.inl rfl)⟩,fun h=>by dsimp only at h;omega,⟨Int.le_refl _,h0⟩,fun v0 _ _ _ _ hp=>?_⟩
  have:=(next_pre hp).2
  rw [len_bitsI,Int.toNat_natCast] at this
  omega
 ·have hn0:=(numB_range (nextB bs L.length k)).1
  by_cases hb:numB (nextB bs L.length k)<lo\/hi<numB (nextB bs L.length k)
  ·have e:withTo bs i er k lo hi=(0,L.length+k,4):=by
    unfold withTo;rw [a3];dsimp only;rw [if_pos hb,if_pos rfl]
   rw [e] at hr ⊢
   refine⟨⟨_,hr,fun h=>by dsimp only at h;omega,.inr (.inr rfl)⟩,fun h=>by dsimp only at h;omega,⟨Int.le_refl _,h0⟩,fun v0 _ l0 l1 l2 hp=>?_⟩
   have hv:=(next_pre hp).1
   rw [len_bitsI,Int.toNat_natCast] at hv
   rw [hv] at hb
   have:numB (bitsI v0 k)=v0:=by unfold bitsI;rw [if_neg (by omega),Int.toNat_natCast];exact numB_bitsN _ _ (by omega) l2
   rw [this] at hb
   omega
  ·have e:withTo bs i er k lo hi=(numB (nextB bs L.length k),L.length+k,0):=by
    unfold withTo;rw [a3];dsimp only;rw [if_neg hb]
   rw [e] at hr ⊢
   dsimp only at hr ⊢
   refine⟨⟨_,hr,fun _=>?_,.inl rfl⟩,fun _=>⟨a1,by omega,by omega⟩,⟨hn0,by omega⟩,fun v0 _ l0 l1 l2 hp=>⟨rfl,?_⟩⟩
   ·rw [bitsI_numB _ k a5]
    exact⟨a4,by rw [List.length_append,a5]⟩
   ·have hv:=(next_pre hp).1
    rw [len_bitsI,Int.toNat_natCast] at hv
    rw [hv]
    unfold bitsI;rw [if_neg (by omega),Int.toNat_natCast];exact numB_bitsN _ _ (by omega) l2
theorem sgn_step{w:World}{b:Nat}{bs:List Int}{er:Int}{L:List Bool}(h:RdP w b bs er L)(k:Nat)(hk:k<=57):
  Calls Tryz.prog 168 #[.pointer (some ⟨b,0,none⟩),.int .i64 k] w fun e w'=>∃v er',e = .returned (.int .i64 v)/\Kept (butOf w b) w w'/\RdP w' b bs er' (L ++ bitsI v k) /\
   (er'=0->er=0)/\fitB v k=true/\(∀v0,er=0->validI true v0 k=true->(L ++ bitsI v0 k) <+: bitsOf bs->er'=0/\v=v0):=by
 obtain⟨i,h1,h2,h3⟩:=h
 refine(RSigned_any b bs i er k w (by omega) h1).mono ?_
 rintro e w' ⟨rfl,hr,hkp⟩
 refine⟨sgnTo bs i er k,(getTo bs i er k).2.2,rfl,hkp,?_⟩
 have hz:fitB 0 (k:Int)=true:=by
  by_cases h0:k=0
  ·subst h0;rfl
  ·rw [fitB_mid _ _ (by omega) (by omega),decide_eq_true_eq]
   have:=pw_pos ((k:Int)-1).toNat
   omega
 rcases getTo_spec h1 h2 h3 k hk with ⟨a1,a2⟩ | ⟨a1,a2,a3⟩ | ⟨a1,a2,a3,a4,a5⟩
 ·have e:sgnTo bs i er k=0:=by unfold sgnTo;rw [a2];dsimp only;rw [if_neg (by simp)]
  rw [e]
  rw [a2] at hr ⊢
  exact⟨⟨i,hr,fun h=>absurd h a1,h3⟩,fun h=>absurd h a1,hz,fun v0 h=>absurd h a1⟩
 ·have e:sgnTo bs i er k=0:=by unfold sgnTo;rw [a3];dsimp only;rw [if_neg (by simp)]
  rw [e]
  rw [a3] at hr ⊢
  refine⟨⟨i,hr,fun h=>by dsimp only at h;omega,.inr (.inl rfl)⟩,fun h=>by dsimp only at h;omega,hz,fun v0 _ _ hp=>?_⟩
  have:=(next_pre hp).2
  rw [len_bitsI,Int.toNat_natCast] at this
  omega
 ·have e:sgnTo bs i er k=sgnB (nextB bs L.length k) k:=by
   unfold sgnTo sgnB;rw [a3];dsimp only;rw [Int.toNat_natCast]
   have:(0<(k:Int)/\numB (nextB bs L.length k)/2 ^ (k-1)=1)↔(0<k/\numB (nextB bs L.length k)/2 ^ (k-1)=1):=⟨fun h=>⟨by omega,h.2⟩,fun h=>⟨by omega,h.2⟩⟩
   split
   ·next hh=>rw [if_pos (this.1 hh)]
   ·next hh=>rw [if_neg (fun h=>hh (this.2 h))]
  rw [e]
  rw [a3] at hr ⊢
  dsimp only at hr ⊢
  refine⟨⟨_,hr,fun _=>?_,.inl rfl⟩,fun _=>a1,fit_sgnB _ k a5 hk,fun v0 _ hv0 hp=>⟨rfl,?_⟩⟩
  ·rw [bitsI_sgnB _ k a5]
   exact⟨a4,by rw [List.length_append,a5]⟩
  ·have hv:=(next_pre hp).1
   rw [len_bitsI,Int.toNat_natCast] at hv
   rw [hv]
   have:=sgn_bitsI v0 k hv0
   unfold sgnB
   rw [Int.toNat_natCast] at this
   have hiff:(0<(k:Int)/\numB (bitsI v0 k)/2 ^ (k-1)=1)↔(0<k/\numB (bitsI v0 k)/2 ^ (k-1)=1):=⟨fun h=>⟨by omega,h.2⟩,fun h=>⟨by omega,h.2⟩⟩
   split
   ·next hh=>rwa [if_pos (hiff.2 hh)] at this
   ·next hh=>rwa [if_neg (fun h=>hh (hiff.1 h))] at this
def tonesE(T:Nat->Int)(k:Nat):List Bool:=(List.range k).flatMap fun j=>bitsI (T (2*j)) 4 ++ bitsI (T (2*j+1)) 24
theorem tonesE_zero(T:Nat->Int):tonesE T 0 = []:=rfl
theorem tonesE_succ(T:Nat->Int)(k:Nat):tonesE T (k+1)=tonesE T k ++ bitsI (T (2*k)) 4 ++ bitsI (T (2*k+1)) 24:=by simp [tonesE,List.range_succ]
theorem tonesE_congr{T U:Nat->Int}{k:Nat}(h:∀j,j<2*k->T j=U j):tonesE T k=tonesE U k:=by
 induction k with
 | zero=>rfl
 | succ k ih=>rw [tonesE_succ,tonesE_succ,ih fun j hj=>h j (by omega),h (2*k) (by omega),h (2*k+1) (by omega)]
theorem tonesE_pre(T:Nat->Int)(k n:Nat)(h:k<=n):tonesE T k <+: tonesE T n:=by
 induction h with
 | refl=>exact List.prefix_refl _
 | step _ ih=>rw [tonesE_succ,List.append_assoc];exact ih.trans (List.prefix_append _ _)
theorem RdP.grow{w w':World}{X:Nat->Prop}{b n:Nat}{bs:List Int}{er:Int}{L:List Bool}{v:Value}{xs:List Value}(h:RdP w b bs er L)(ho:ownS X w 224 2 v n xs)(k:Kept (fun q=>q<w.heap.size/\v.ownBlock≠some q) w w'):RdP w' b bs er L:=by
 rcases ho.1.2 with ⟨hv,_⟩ | ⟨g,cap,cur,hv,_,hh,_⟩
 ·exact h.old (k.mono fun q hq=>⟨hq,by rw [hv];simp [Value.ownBlock]⟩)
 ·refine h.but (q0:=g) (k.mono fun q hq=>⟨hq.1,?_⟩) hh (by decide) (by decide)
  rw [hv]
  have:=hq.2
  simp [Value.ownBlock]
  omega
structure RT(w0:World)(b:Nat)(bs:List Int)(er0:Int)(L:List Bool)(n:Nat)(k:Nat)(v:Value)(T:Nat->Int)(er:Int)(wr:World):Prop where
 rd:RdP wr b bs er (L ++ bitsI n 2 ++ tonesE T k)
 own:ownS (fun q=>q<w0.heap.size) wr 224 2 v k (rowL (2*k) T)
 kept:Kept (butOf w0 b) w0 wr
 bd:∀j,j<k->0<=T (2*j)/\T (2*j)<=15
 good:er=0->er0=0/\∀j,j<k->fitB (T (2*j+1)) 24=true/\(0<j->T (2*(j-1))<T (2*j))
 back:∀n0 T0,er0=0->tonesP n0 T0->(L ++ bitsI n0 2 ++ tonesE T0 n0) <+: bitsOf bs->er=0/\n=n0/\∀j,j<2*k->T j=T0 j
theorem RT.slice{w0:World}{b:Nat}{bs:List Int}{er0:Int}{L:List Bool}{n k:Nat}{v:Value}{T:Nat->Int}{er:Int}{wr:World}(h:RT w0 b bs er0 L n k v T er wr):∃p cap,v = .slice p k cap/\k<=cap/\cap<=maxLen/\SlF 2 wr p k T:=by
 rcases h.own.shape with ⟨hv,h0⟩ | ⟨g,cap,hv,_,hg,hk,hc,hcell⟩
 ·exact⟨none,0,by rw [hv,h0],by omega,Nat.zero_le _,fun h=>by omega⟩
 ·refine⟨some ⟨g,0,none⟩,cap,hv,hk,hc,fun _=>⟨g,0,rfl,hg,fun j hj=>?_⟩⟩
  rw [Nat.zero_add]
  exact hcell j _ (rowL_at _ _ _ hj)
def tonePut(T:Nat->Int)(k:Nat)(x y:Int):Nat->Int:=fun j=>if j=2*k then x else if j=2*k+1 then y else T j
theorem tonePut_lo(T:Nat->Int)(k:Nat)(x y:Int):∀j,j<2*k->tonePut T k x y j=T j:=fun j hj=>by
 unfold tonePut;rw [if_neg (by omega),if_neg (by omega)]
theorem tonePut_x(T:Nat->Int)(k:Nat)(x y:Int):tonePut T k x y (2*k)=x:=by unfold tonePut;rw [if_pos rfl]
theorem tonePut_y(T:Nat->Int)(k:Nat)(x y:Int):tonePut T k x y (2*k+1)=y:=by unfold tonePut;rw [if_neg (by omega),if_pos rfl]
theorem RT.next{w0:World}{b:Nat}{bs:List Int}{er0:Int}{L:List Bool}{n k:Nat}{v:Value}{T:Nat->Int}{er er1 er2:Int}{wr w1 w2 w3:World}{x y:Int}{v':Value}{o:Obj}(h:RT w0 b bs er0 L n k v T er wr)(hk:k<n)(hn2:n<=2)
  (k1:Kept (butOf wr b) wr w1) (e1:er1=0->er=0/\nextI k T<=x/\x<=15) (bx:0<=x/\x<=15) (c1:∀v0,er=0->nextI k T<=v0->v0<=15->v0<pw 4->(L ++ bitsI n 2 ++ tonesE T k ++ bitsI v0 4) <+: bitsOf bs->er1=0/\x=v0)
  (k2:Kept (butOf w1 b) w1 w2) (r2:RdP w2 b bs er2 (L ++ bitsI n 2 ++ tonesE T k ++ bitsI x 4 ++ bitsI y 24)) (e2:er2=0->er1=0) (fy:fitB y 24=true) (c2:∀v0,er1=0->validI true v0 24=true->(L ++ bitsI n 2 ++ tonesE T k ++ bitsI x 4 ++ bitsI v0 24) <+: bitsOf bs->er2=0/\y=v0)
  (ho:ownS (fun q=>q<w2.heap.size/\v.ownBlock≠some q) w3 224 2 v' (k+1) (rowL (2*k) T ++ [.int .i64 x,.int .i64 y])) (k3:Kept (fun q=>q<w2.heap.size/\v.ownBlock≠some q) (w2.alloc o) w3) (hv':∀q,v'.ownBlock=some q->v.ownBlock=some q\/(w2.alloc o).heap.size<=q):
  RT w0 b bs er0 L n (k+1) v' (tonePut T k x y) er2 w3:=by
 have hlo:=tonePut_lo T k x y
 have hx:=tonePut_x T k x y
 have hy:=tonePut_y T k x y
 have s0:=h.kept.size
 have s1:=k1.size
 have s2:=k2.size
 have hownlt:=h.own.lt
 have hb:∀q,v.ownBlock=some q->q≠b:=by
  intro q hq
  obtain⟨i,hr,_⟩:=h.rd
  rcases h.own.1.2 with ⟨hv,_⟩ | ⟨g,cap,cur,hv,_,hh,_⟩
  ·rw [hv] at hq;cases hq
  ·have:g=q:=by rw [hv] at hq;simpa [Value.ownBlock] using hq
   subst this
   exact hr.ne hh (by decide)
 have own2:ownS (fun q=>q<w0.heap.size) w2 224 2 v k (rowL (2*k) T):=
  (h.own.kept k1 fun q hq=>⟨hownlt q hq,hb q hq⟩).kept k2 fun q hq=>⟨Nat.lt_of_lt_of_le (hownlt q hq) s1,hb q hq⟩
 have k3':Kept (fun q=>q<w2.heap.size/\v.ownBlock≠some q) w2 w3:=(Kept.alloc w2 o fun q hq=>hq.1).trans k3
 have hE:tonesE (tonePut T k x y) (k+1)=tonesE T k ++ bitsI x 4 ++ bitsI y 24:=by rw [tonesE_succ,tonesE_congr hlo,hx,hy]
 have hnx:nextI k (tonePut T k x y)=nextI k T:=by
  unfold nextI
  split
  ·rfl
  ·rw [hlo _ (by omega)]
 refine⟨?_,?_,?_,?_,?_,?_⟩
 ·refine(r2.grow own2 k3').congr ?_
  rw [hE];simp only [List.append_assoc]
 ·rw [rowL_succ2,hx,hy,show rowL (2*k) (tonePut T k x y)=rowL (2*k) T from rowL_ext _ _ _ hlo]
  refine ho.mono fun q hq hlt=>?_
  rcases hv' q hq with h1 | h1
  ·exact h.own.2 q h1 hlt
  ·simp at h1;omega
 ·refine h.kept.trans ((k1.mono fun q hq=>⟨Nat.lt_of_lt_of_le hq.1 s0,hq.2⟩).trans ((k2.mono fun q hq=>⟨Nat.lt_of_lt_of_le hq.1 (Nat.le_trans s0 s1),hq.2⟩).trans (k3'.mono fun q hq=>⟨Nat.lt_of_lt_of_le hq.1 (Nat.le_trans s0 (Nat.le_trans s1 s2)),fun e=>h.own.2 q e hq.1⟩)))
 ·intro j hj
  rcases Nat.lt_succ_iff_lt_or_eq.1 hj with h1 | rfl
  ·rw [hlo _ (by omega)];exact h.bd j h1
  ·rw [hx];exact bx
 ·intro h2
  obtain⟨a1,a2,a3⟩:=e1 (e2 h2)
  obtain⟨g1,g2⟩:=h.good a1
  refine⟨g1,fun j hj=>?_⟩
  rcases Nat.lt_succ_iff_lt_or_eq.1 hj with h1 | rfl
  ·rw [hlo (2*j+1) (by omega),hlo (2*j) (by omega)]
   refine⟨(g2 j h1).1,fun h0=>?_⟩
   rw [hlo (2*(j-1)) (by omega)]
   exact(g2 j h1).2 h0
  ·rw [hx,hy]
   refine⟨fy,fun h0=>?_⟩
   rw [hlo (2*(j-1)) (by omega)]
   unfold nextI at a2
   rw [if_neg (by omega)] at a2
   omega
 ·intro n0 T0 h0 hP hp
  obtain⟨b1,b2,b3⟩:=h.back n0 T0 h0 hP hp
  subst b2
  have ht:=hP.2 k hk
  have hpre:(L ++ bitsI n 2 ++ tonesE T k ++ bitsI (T0 (2*k)) 4 ++ bitsI (T0 (2*k+1)) 24) <+: bitsOf bs:=by
   refine List.IsPrefix.trans ?_ hp
   rw [tonesE_congr b3]
   obtain⟨R,hR⟩:=tonesE_pre T0 (k+1) n (by omega)
   rw [←hR,tonesE_succ]
   exact⟨R,by simp only [List.append_assoc]⟩
  have hnx2:nextI k T<=T0 (2*k):=by
   unfold nextI
   split
   ·omega
   ·have:=ht.2.2.2 (by omega)
    rw [b3 _ (by omega)]
    omega
  obtain⟨d1,d2⟩:=c1 (T0 (2*k)) b1 hnx2 ht.2.1 (by have:pw 4=16:=rfl;omega) (pre_left hpre)
  subst d2
  obtain⟨d3,d4⟩:=c2 (T0 (2*k+1)) d1 (valid_fit _ 24 (by omega) (by omega) ht.2.2.1).1 hpre
  subst d4
  refine⟨d3,rfl,fun j hj=>?_⟩
  by_cases j1:j<2*k
  ·rw [hlo j j1];exact b3 j j1
  ·by_cases j2:j=2*k
   ·rw [j2,hx]
   ·rw [show j=2*k+1 by omega,hy]
def WithR(w:World)(b:Nat)(bs:List Int)(er:Int)(L:List Bool)(k:Int)(p:Int)(lo hi:Int)(e:Ending)(w':World):Prop:=
 ∃v er',e = .returned (.int .i64 v)/\Kept (butOf w b) w w'/\RdP w' b bs er' (L ++ bitsI v k) /\
   (er'=0->er=0/\lo<=v/\v<=hi)/\(0<=v/\v<=hi)/\(∀v0,er=0->lo<=v0->v0<=hi->v0<p->(L ++ bitsI v0 k) <+: bitsOf bs->er'=0/\v=v0)
theorem with2{w:World}{b:Nat}{bs:List Int}{er:Int}{L:List Bool}(h:RdP w b bs er L)(lo hi:Int)(h0:0<=hi)(hlo:0<=lo):
  Calls Tryz.prog 166 #[.pointer (some ⟨b,0,none⟩),.int .i64 2,.int .i64 lo,.int .i64 hi] w (WithR w b bs er L 2 4 lo hi):=with_step h 2 lo hi (by omega) h0 hlo
theorem with4{w:World}{b:Nat}{bs:List Int}{er:Int}{L:List Bool}(h:RdP w b bs er L)(lo hi:Int)(h0:0<=hi)(hlo:0<=lo):
  Calls Tryz.prog 166 #[.pointer (some ⟨b,0,none⟩),.int .i64 4,.int .i64 lo,.int .i64 hi] w (WithR w b bs er L 4 16 lo hi):=with_step h 4 lo hi (by omega) h0 hlo
theorem with5{w:World}{b:Nat}{bs:List Int}{er:Int}{L:List Bool}(h:RdP w b bs er L)(lo hi:Int)(h0:0<=hi)(hlo:0<=lo):
  Calls Tryz.prog 166 #[.pointer (some ⟨b,0,none⟩),.int .i64 5,.int .i64 lo,.int .i64 hi] w (WithR w b bs er L 5 32 lo hi):=with_step h 5 lo hi (by omega) h0 hlo
def SgnR(w:World)(b:Nat)(bs:List Int)(er:Int)(L:List Bool)(k:Int)(e:Ending)(w':World):Prop:=
 ∃v er',e = .returned (.int .i64 v)/\Kept (butOf w b) w w'/\RdP w' b bs er' (L ++ bitsI v k) /\
   (er'=0->er=0)/\fitB v k=true/\(∀v0,er=0->validI true v0 k=true->(L ++ bitsI v0 k) <+: bitsOf bs->er'=0/\v=v0)
theorem sgn24{w:World}{b:Nat}{bs:List Int}{er:Int}{L:List Bool}(h:RdP w b bs er L):
  Calls Tryz.prog 168 #[.pointer (some ⟨b,0,none⟩),.int .i64 24] w (SgnR w b bs er L 24):=sgn_step h 24 (by omega)
set_option maxHeartbeats 1000000 in
theorem readTones_any{w:World}{b:Nat}{bs:List Int}{er:Int}{L:List Bool}(h:RdP w b bs er L):
  Calls Tryz.prog 167 #[.pointer (some ⟨b,0,none⟩)] w fun e w'=>∃n p cap T er',e = .returned (.slice p n cap)/\n<=2/\RT w b bs er L n n (.slice p n cap) T er' w':=by
 obtain⟨i0,hi,hz0,hz1,hz2⟩:=info_parts Tryz.info_tone
 have HW:=zH (with2 h 0 2 (by omega) (by omega))
 clear h
 go_enter Tryz.func167,Tryz.ntmps167
 go_wp2_with fail
 refine HW.out.mono ?_
 rintro e w1 ⟨v,er1,rfl,k1,r1,e1,bv,c1⟩
 obtain⟨n,rfl⟩:=Int.eq_ofNat_of_zero_le bv.1
 have n2:n<=2:=by omega
 have hst:RT w b bs er L n 0 (.slice none 0 0) (fun _=>0) er1 w1:=by
  refine⟨by rw [tonesE_zero,List.append_nil];exact r1,ownS.nil _ _ _ _,k1,fun j hj=>by omega,fun h0=>⟨(e1 h0).1,fun j hj=>by omega⟩,fun n0 T0 h0 hP hp=>?_⟩
  have hp2:=hP.1
  obtain⟨d1,d2⟩:=c1 n0 h0 (by omega) (by omega) (by omega) (pre_left hp)
  exact⟨d1,by omega,fun j hj=>by omega⟩
 have HST:=zH hst
 clear k1 r1 e1 bv c1 hst HW
 go_wp2_with fail
 go_loopw [3,7] (fun l i wr=>∃k:Nat,k<=n/\i = .int .i64 k/\Hid (∃T er',RT w b bs er L n k l T er' wr)) (fun _ i _=>n-(intOf i).toNat)
 case atStart=>exact⟨0,by omega,rfl,⟨_,_,HST.out⟩⟩
 case round=>
  obtain⟨k,hk,rfl,hs⟩:=hrel
  obtain⟨wo,rfl⟩:∃V,V=wr:=⟨_,rfl⟩
  clear HST
  by_cases hlt:k<n
  ·obtain⟨T,er2,hrt⟩:=hs.out
   obtain⟨p,cap,rfl,hkc,hcm,hsl⟩:=hrt.slice
   have hcm':cap<=9223372036854775807:=by unfold maxLen at hcm;omega
   have hnb:0<=nextI k T:=by
    unfold nextI
    split
    ·omega
    ·have:=(hrt.bd (k-1) (by omega)).1;omega
   have HNp:=zH (nextPlace_any p k cap T wo hsl (fun h0=>by have:=hrt.bd (k-1) (by omega);omega) (by omega))
   have HW:=zH (with4 hrt.rd (nextI k T) 15 (by omega) hnb)
   have HRT:=zH hrt
   clear hs hrt hsl hnb hcm
   go_wp2_with fail
   refine HNp.out.mono ?_
   rintro e w2 ⟨rfl,rfl⟩
   go_wp2_with fail
   refine HW.out.mono ?_
   rintro e w3 ⟨x,er3,rfl,k3,r3,e3,bx,c3⟩
   have HSg:=zH (sgn24 r3)
   have K3:=zH k3
   have E3:=zH e3
   have C3:=zH c3
   have BX:=zH bx
   clear k3 r3 e3 c3 bx HW HNp
   go_wp2_with fail
   refine HSg.out.mono ?_
   rintro e w4 ⟨y,er4,rfl,k4,r4,e4,fy,c4⟩
   have HN:=zH (fun v' w5 o ho k5 hv'=>HRT.out.next (w3:=w5) (v':=v') (o:=o) hlt n2 K3.out E3.out BX.out C3.out k4 r4 e4 fy c4 ho k5 hv')
   have hown:ownS (fun q=>q<w4.heap.size/\(Value.slice p k cap).ownBlock≠some q) w4 224 2 (.slice p k cap) k (rowL (2*k) T):=by
    have h0:=HRT.out.own
    have hb:∀q,(Value.slice p k cap).ownBlock=some q->q≠b:=by
     intro q hq
     obtain⟨i,hr,_⟩:=HRT.out.rd
     rcases h0.1.2 with ⟨hv,_⟩ | ⟨g,cap',cur,hv,_,hh,_⟩
     ·rw [hv] at hq;cases hq
     ·have:g=q:=by rw [hv] at hq;simpa [Value.ownBlock] using hq
      subst this
      exact hr.ne hh (by decide)
    have h1:=(h0.kept K3.out fun q hq=>⟨h0.lt q hq,hb q hq⟩).kept k4 fun q hq=>⟨Nat.lt_of_lt_of_le (h0.lt q hq) K3.out.size,hb q hq⟩
    exact h1.mono fun q hq hh=>hh.2 hq
   have HXA:Hid (∀(o:Obj) (q:Nat),q<w4.heap.size/\(Value.slice p k cap).ownBlock≠some q->q<(w4.alloc o).heap.size):=zH fun o q hq=>by simp;omega
   have hk2:k<=2:=by omega
   clear k4 r4 e4 fy c4 HSg K3 E3 C3 BX HRT
   go_wp2_with ((at_builtin;refine append_S _ rfl _ _ 111 rfl (fun q=>q<w4.heap.size/\(Value.slice p k cap).ownBlock≠some q) 224 i0 (.agg #[.int .i64 0,.int .i64 0]) 2 16 Tryz.underlying111 hi hz0 hz1 hz2 rfl (by decide) _ _ _ rfl (hown.old (Old.alloc _ _)) ⟨_,0,none⟩ 1 1 [.int .i64 x,.int .i64 y] rfl rfl (news_two _ _ _ _) (two_oneCell _ _) (by unfold maxLen;omega) (by omega) (HXA.out _) ?_;intro v' w5 hown5 hk5 hv5;have hn5:=zH (HN.out v' w5 _ hown5 hk5 hv5);clear hown hown5 hk5 hv5 HN))
   go_roundw
   case rel=>exact⟨k+1,by omega,by go_num,⟨_,_,hn5.out⟩⟩
   case measure=>simp [intOf];omega
  ·obtain rfl:k=n:=by omega
   obtain⟨T,er2,hrt⟩:=hs.out
   obtain⟨p,cap,rfl,_,_,_⟩:=hrt.slice
   have HRT:=zH hrt
   clear hs hrt
   go_wp2_with fail
   go_ret
   exact⟨k,p,cap,T,er2,rfl,n2,HRT.out⟩
theorem encG_congr{F G:Nat->Int}{k:Nat}(h:∀j,j<k->F j=G j):encG F k=encG G k:=by
 induction k with
 | zero=>rw [encG_zero,encG_zero]
 | succ k ih=>rw [encG_succ,encG_succ,ih fun j hj=>h j (by omega),h k (by omega)]
theorem encT_tones(F:Nat->Int)(n:Nat)(T:Nat->Int)(k:Nat):encT F n T k=encG F 4 ++ bitsI n 2 ++ tonesE T k:=rfl
theorem encT_congr{F G:Nat->Int}{n:Nat}{T U:Nat->Int}{k:Nat}(h:∀j,j<4->F j=G j)(hT:∀j,j<2*k->T j=U j):encT F n T k=encT G n U k:=by
 rw [encT_tones,encT_tones,encG_congr h,tonesE_congr hT]
theorem encS_congr{F G:Nat->Int}{n:Nat}{T U:Nat->Int}{k:Nat}(h:∀j,j<4->F j=G j)(hT:∀j,j<2*n->T j=U j)(hS:∀j,j<k->F (5+j)=G (5+j)/\F (9+j)=G (9+j)):encS F n T k=encS G n U k:=by
 induction k with
 | zero=>rw [encS_zero,encS_zero,encT_congr h hT]
 | succ k ih=>rw [encS_succ,encS_succ,ih fun j hj=>hS j (by omega),(hS k (by omega)).1,(hS k (by omega)).2]
theorem encQ_congr{F G:Nat->Int}{n:Nat}{T U:Nat->Int}{k:Nat}(h:∀j,j<4->F j=G j)(hT:∀j,j<2*n->T j=U j)(hS:∀j,j<4->F (5+j)=G (5+j)/\F (9+j)=G (9+j))(hQ:∀j,j<k->F (13+j)=G (13+j))(hk:k<=16):encQ F n T k=encQ G n U k:=by
 induction k with
 | zero=>rw [encQ_zero,encQ_zero,encS_congr h hT hS]
 | succ k ih=>rw [encQ_succ,encQ_succ,ih (fun j hj=>hQ j (by omega)) (by omega),hQ k (by omega),(hS (k/4) (by omega)).2]
theorem mono_pre{f:Nat->List Bool}(hs:∀k,∃R,f (k+1)=f k ++ R){k m:Nat}(h:k<=m):f k <+: f m:=by
 induction h with
 | refl=>exact List.prefix_refl _
 | step _ ih=>obtain⟨R,hR⟩:=hs _;rw [hR];exact ih.trans (List.prefix_append _ _)
theorem encQ_pre(F:Nat->Int)(n:Nat)(T:Nat->Int){k:Nat}(h:k<=16):encQ F n T k <+: enc F n T:=mono_pre (fun k=>⟨_,encQ_succ F n T k⟩) h
theorem encS_pre(F:Nat->Int)(n:Nat)(T:Nat->Int){k:Nat}(h:k<=4):encS F n T k <+: enc F n T:=by
 have h1:encS F n T k <+: encS F n T 4:=mono_pre (f:=encS F n T) (fun k=>⟨_,by rw [encS_succ,List.append_assoc]⟩) h
 rw [←encQ_zero] at h1
 exact h1.trans (encQ_pre F n T (by omega))
theorem encT_pre(F:Nat->Int)(n:Nat)(T:Nat->Int):encT F n T n <+: enc F n T:=by
 have:=encS_pre F n T (k:=0) (by omega)
 rwa [encS_zero] at this
theorem encG_pre(F:Nat->Int)(n:Nat)(T:Nat->Int){k:Nat}(h:k<=4):encG F k <+: enc F n T:=by
 have h1:encG F k <+: encG F 4:=mono_pre (fun k=>⟨_,encG_succ F k⟩) h
 have h2:encG F 4 <+: encT F n T n:=by rw [encT_tones,List.append_assoc];exact List.prefix_append _ _
 exact(h1.trans h2).trans (encT_pre F n T)
structure RS(w:World)(rb fb b:Nat)(z:Array Value)(bs:List Int)(L:List Bool)(F:Nat->Int)(s:Value)(n:Nat)(T:Nat->Int)(A:Prop)(C:(Nat->Int)->Nat->(Nat->Int)->Prop)(er:Int)(wr:World):Prop where
 rd:RdP wr b bs er L
 fr:FrB 113 wr fb F s
 res:wr.heap[rb]?=some (.cells z 113 (0,0))
 own:ownS (fun q=>q<w.heap.size) wr 224 2 s n (rowL (2*n) T)
 old:Old w wr
 nrb:w.heap.size<=rb
 nfb:w.heap.size<=fb
 nb:w.heap.size<=b
 ne:rb≠fb
 wb:∀j,j<4->0<=F (9+j)/\F (9+j)<=24
 good:er=0->A
 back:∀F0 n0 T0,FrP F0 n0 T0->enc F0 n0 T0 <+: bitsOf bs->er=0/\C F0 n0 T0
namespace RS
variable {w:World} {rb fb b:Nat} {z:Array Value} {bs:List Int} {L L1:List Bool} {F:Nat->Int} {s:Value} {n:Nat} {T:Nat->Int} {A A1:Prop} {C C1:(Nat->Int)->Nat->(Nat->Int)->Prop} {er er1:Int} {wr w1:World}
theorem fne(h:RS w rb fb b z bs L F s n T A C er wr):fb≠b:=by obtain⟨i,hr,_⟩:=h.rd;exact hr.ne h.fr (by decide)
theorem rne(h:RS w rb fb b z bs L F s n T A C er wr):rb≠b:=by obtain⟨i,hr,_⟩:=h.rd;exact hr.ne h.res (by decide)
theorem own_ne(h:RS w rb fb b z bs L F s n T A C er wr):∀q,s.ownBlock=some q->q≠b/\q≠fb:=by
 intro q hq
 obtain⟨i,hr,_⟩:=h.rd
 rcases h.own.1.2 with ⟨hv,_⟩ | ⟨g,cap,cur,hv,_,hh,_⟩
 ·rw [hv] at hq;cases hq
 ·have:g=q:=by rw [hv] at hq;simpa [Value.ownBlock] using hq
  subst this
  refine⟨hr.ne hh (by decide),fun e=>?_⟩
  subst e
  have:=h.fr
  unfold FrB at this
  rw [hh] at this
  simp only [Option.some.injEq,Obj.cells.injEq] at this
  exact absurd this.2.1 (by decide)
theorem mv(h:RS w rb fb b z bs L F s n T A C er wr)(k1:Kept (butOf wr b) wr w1)(r1:RdP w1 b bs er1 L1)(hA:er1=0->er=0/\(A->A1))
  (hC:∀F0 n0 T0,FrP F0 n0 T0->enc F0 n0 T0 <+: bitsOf bs->er=0->C F0 n0 T0->er1=0/\C1 F0 n0 T0):RS w rb fb b z bs L1 F s n T A1 C1 er1 w1 where
 rd:=r1
 fr:=h.fr.kept k1 ⟨lt_of_block h.fr,h.fne⟩
 res:=(k1.block rb ⟨lt_of_block h.res,h.rne⟩).trans h.res
 own:=h.own.kept k1 fun q hq=>⟨h.own.lt q hq,(h.own_ne q hq).1⟩
 old:=Kept.trans h.old (k1.mono fun q hq=>⟨Nat.lt_of_lt_of_le hq h.old.size,fun e=>by have:=h.nb;omega⟩)
 nrb:=h.nrb
 nfb:=h.nfb
 nb:=h.nb
 ne:=h.ne
 wb:=h.wb
 good:=fun h0=>(hA h0).2 (h.good (hA h0).1)
 back:=fun F0 n0 T0 hP hp=>hC F0 n0 T0 hP hp (h.back F0 n0 T0 hP hp).1 (h.back F0 n0 T0 hP hp).2
theorem st(h:RS w rb fb b z bs L F s n T A C er wr)(j:Nat)(hj:j<29)(h4:j≠4)(v:Int)(hv:9<=j->j<13->0<=v/\v<=24)(hL:L=L1)(hA:A->A1)(hC:∀F0 n0 T0,FrP F0 n0 T0->C F0 n0 T0->C1 F0 n0 T0):
  RS w rb fb b z bs L1 (fun k=>if k=j then v else F k) s n T A1 C1 er (wr.setCell ⟨fb,j,none⟩ (.int .i64 v)):=by
 have hk:Kept (butOf wr fb) wr (wr.setCell ⟨fb,j,none⟩ (.int .i64 v)):=Kept.setCell wr (a:=⟨fb,j,none⟩) (fun h=>h.2 rfl) _
 exact {
  rd:=(h.rd.but hk h.fr (by decide) (by decide)).congr hL
  fr:=h.fr.set j hj h4 v
  res:=(hk.block rb ⟨lt_of_block h.res,h.ne⟩).trans h.res
  own:=h.own.kept hk fun q hq=>⟨h.own.lt q hq,(h.own_ne q hq).2⟩
  old:=Kept.trans h.old (hk.mono fun q hq=>⟨Nat.lt_of_lt_of_le hq h.old.size,fun e=>by have:=h.nfb;omega⟩)
  nrb:=h.nrb
  nfb:=h.nfb
  nb:=h.nb
  ne:=h.ne
  wb:=fun q hq=>by
   split
   ·exact hv (by omega) (by omega)
   ·exact h.wb q hq
  good:=fun h0=>hA (h.good h0)
  back:=fun F0 n0 T0 hP hp=>⟨(h.back F0 n0 T0 hP hp).1,hC F0 n0 T0 hP (h.back F0 n0 T0 hP hp).2⟩ }
end RS
def GA(F:Nat->Int)(k:Nat):Prop:=∀j,j<k->0<=F j/\F j<=3
def GC(F:Nat->Int)(k:Nat)(F0:Nat->Int):Prop:=∀j,j<k->F j=F0 j
def SA(F:Nat->Int)(k:Nat):Prop:=∀j,j<k->(0<=F (5+j)/\F (5+j)<=23)/\(0<=F (9+j)/\F (9+j)<=24)
def SC(F:Nat->Int)(k:Nat)(F0:Nat->Int):Prop:=∀j,j<k->F (5+j)=F0 (5+j)/\F (9+j)=F0 (9+j)
def QA(F:Nat->Int)(k:Nat):Prop:=∀j,j<k->fitB (F (13+j)) (F (9+j/4))=true
def QC(F:Nat->Int)(k:Nat)(F0:Nat->Int):Prop:=∀j,j<k->F (13+j)=F0 (13+j)
def TC(n:Nat)(T:Nat->Int)(n0:Nat)(T0:Nat->Int):Prop:=n=n0/\∀j,j<2*n->T j=T0 j
def up(F:Nat->Int)(j:Nat)(v:Int):Nat->Int:=fun k=>if k=j then v else F k
theorem up_at(F:Nat->Int)(j:Nat)(v:Int):up F j v j=v:=if_pos rfl
theorem up_ne(F:Nat->Int)(j k:Nat)(v:Int)(h:k≠j):up F j v k=F k:=if_neg h
section
variable {w:World} {rb fb b:Nat} {z:Array Value} {bs:List Int} {F:Nat->Int} {s:Value} {n k:Nat} {T:Nat->Int} {er er1:Int} {wr w1:World} {e:Ending}
theorem RS.gain(h:RS w rb fb b z bs (encG F k) F s n T (GA F k) (fun F0 _ _=>GC F k F0) er wr)(hk:k<4){v:Int}(k1:Kept (butOf wr b) wr w1)(r1:RdP w1 b bs er1 (encG F k ++ bitsI v 2))(e1:er1=0->er=0/\0<=v/\v<=3)
  (c1:∀v0,er=0->0<=v0->v0<=3->v0<4->(encG F k ++ bitsI v0 2) <+: bitsOf bs->er1=0/\v=v0):
  RS w rb fb b z bs (encG (up F k v) (k+1)) (up F k v) s n T (GA (up F k v) (k+1)) (fun F0 _ _=>GC (up F k v) (k+1) F0) er1 (w1.setCell ⟨fb,k,none⟩ (.int .i64 v)):=by
 refine(h.mv (A1:=GA F k/\0<=v/\v<=3) (C1:=fun F0 _ _=>GC F k F0/\v=F0 k) k1 r1 (fun h0=>⟨(e1 h0).1,fun hA=>⟨hA,(e1 h0).2⟩⟩) (fun F0 n0 T0 hP hp h0 hC=>?_)).st k (by omega) (by omega) v (fun h1 _=>by omega) ?_ ?_ ?_
 ·have hp2:=(encG_pre F0 n0 T0 (k:=k+1) (by omega)).trans hp
  rw [encG_succ,←encG_congr hC] at hp2
  have hg:=hP.hg k hk
  obtain⟨d1,d2⟩:=c1 (F0 k) h0 hg.1 hg.2 (by omega) hp2
  exact⟨d1,hC,d2⟩
 ·show _=encG (up F k v) (k+1)
  rw [encG_succ,up_at,encG_congr (F:=up F k v) (G:=F) fun j hj=>up_ne F k j v (by omega)]
 ·rintro ⟨h1,h2⟩ j hj
  show 0<=up F k v j/\up F k v j<=3
  rcases Nat.lt_succ_iff_lt_or_eq.1 hj with h3 | rfl
  ·rw [up_ne F k j v (by omega)];exact h1 j h3
  ·rw [up_at];exact h2
 ·rintro F0 n0 T0 _ ⟨h1,h2⟩ j hj
  show up F k v j=F0 j
  rcases Nat.lt_succ_iff_lt_or_eq.1 hj with h3 | rfl
  ·rw [up_ne F k j v (by omega)];exact h1 j h3
  ·rw [up_at];exact h2
def HA(F:Nat->Int)(n:Nat)(T:Nat->Int):Prop:=GA F 4/\tonesP n T
def HC(F:Nat->Int)(n:Nat)(T:Nat->Int)(F0:Nat->Int)(n0:Nat)(T0:Nat->Int):Prop:=GC F 4 F0/\TC n T n0 T0
theorem RS.tones{n0:Nat}{s0:Value}{T0:Nat->Int}(h:RS w rb fb b z bs (encG F 4) F s0 n0 T0 (GA F 4) (fun F0 _ _=>GC F 4 F0) er wr){p:Option Addr}{cap:Nat}(hn2:n<=2)(hr:RT wr b bs er (encG F 4) n n (.slice p n cap) T er1 w1):
  RS w rb fb b z bs (encS F n T 0) F (.slice p n cap) n T (HA F n T) (fun F0 n0 T0=>HC F n T F0 n0 T0) er1 (w1.setCell ⟨fb,4,none⟩ (.slice p n cap)):=by
 have k1:=hr.kept
 have hfr:FrB 113 w1 fb F s0:=h.fr.kept k1 ⟨lt_of_block h.fr,h.fne⟩
 have hk:Kept (butOf w1 fb) w1 (w1.setCell ⟨fb,4,none⟩ (.slice p n cap)):=Kept.setCell w1 (a:=⟨fb,4,none⟩) (fun h=>h.2 rfl) _
 have hs:=h.old.size
 have hs1:=k1.size
 have hownf:∀q,(Value.slice p n cap).ownBlock=some q->q≠fb:=fun q hq e=>by
  have:=hr.own.2 q hq
  subst e
  exact this (lt_of_block h.fr)
 exact {
  rd:=(hr.rd.but hk hfr (by decide) (by decide)).congr (by rw [encS_zero,encT_tones])
  fr:=hfr.set4 _
  res:=(hk.block rb ⟨Nat.lt_of_lt_of_le (lt_of_block h.res) hs1,h.ne⟩).trans ((k1.block rb ⟨lt_of_block h.res,h.rne⟩).trans h.res)
  own:=(hr.own.mono fun q hq hlt=>hr.own.2 q hq (Nat.lt_of_lt_of_le hlt hs)).kept hk fun q hq=>⟨hr.own.lt q hq,hownf q hq⟩
  old:=Kept.trans (Kept.trans h.old (k1.mono fun q hq=>⟨Nat.lt_of_lt_of_le hq hs,fun e=>by have:=h.nb;omega⟩)) (hk.mono fun q hq=>⟨Nat.lt_of_lt_of_le hq (Nat.le_trans hs hs1),fun e=>by have:=h.nfb;omega⟩)
  nrb:=h.nrb
  nfb:=h.nfb
  nb:=h.nb
  ne:=h.ne
  wb:=h.wb
  good:=fun h0=>by
   obtain⟨g1,g2⟩:=hr.good h0
   exact⟨h.good g1,hn2,fun j hj=>⟨(hr.bd j hj).1,(hr.bd j hj).2,(g2 j hj).1,(g2 j hj).2⟩⟩
  back:=fun F0 m0 U0 hP hp=>by
   obtain⟨a1,a2⟩:=h.back F0 m0 U0 hP hp
   have hp2:=(encT_pre F0 m0 U0).trans hp
   rw [encT_tones,←encG_congr a2] at hp2
   obtain⟨b1,b2,b3⟩:=hr.back m0 U0 a1 ⟨hP.hn,hP.ht⟩ hp2
   exact⟨b1,a2,b2,b3⟩ }
theorem RS.scale(h:RS w rb fb b z bs (encS F n T k) F s n T (HA F n T/\SA F k) (fun F0 n0 T0=>HC F n T F0 n0 T0/\SC F k F0) er wr)(hk:k<4){v:Int}(k1:Kept (butOf wr b) wr w1)(r1:RdP w1 b bs er1 (encS F n T k ++ bitsI v 5))(e1:er1=0->er=0/\0<=v/\v<=23)
  (c1:∀v0,er=0->0<=v0->v0<=23->v0<32->(encS F n T k ++ bitsI v0 5) <+: bitsOf bs->er1=0/\v=v0):
  RS w rb fb b z bs (encS (up F (5+k) v) n T k ++ bitsI v 5) (up F (5+k) v) s n T ((HA (up F (5+k) v) n T/\SA (up F (5+k) v) k)/\0<=v/\v<=23) (fun F0 n0 T0=>(HC (up F (5+k) v) n T F0 n0 T0/\SC (up F (5+k) v) k F0)/\v=F0 (5+k)) er1 (w1.setCell ⟨fb,5+k,none⟩ (.int .i64 v)):=by
 have hu:∀j,j≠5+k->up F (5+k) v j=F j:=fun j hj=>up_ne F (5+k) j v hj
 refine(h.mv (A1:=(HA F n T/\SA F k)/\0<=v/\v<=23) (C1:=fun F0 n0 T0=>(HC F n T F0 n0 T0/\SC F k F0)/\v=F0 (5+k)) k1 r1 (fun h0=>⟨(e1 h0).1,fun hA=>⟨hA,(e1 h0).2⟩⟩) (fun F0 n0 T0 hP hp h0 hC=>?_)).st (5+k) (by omega) (by omega) v (fun h1 _=>by omega) ?_ ?_ ?_
 ·obtain⟨⟨hg,hn,ht⟩,hs⟩:=hC
  subst hn
  have hp2:=(encS_pre F0 n T0 (k:=k+1) (by omega)).trans hp
  rw [encS_succ,←encS_congr hg ht hs] at hp2
  have hg2:=hP.hs k hk
  obtain⟨d1,d2⟩:=c1 (F0 (5+k)) h0 hg2.1 hg2.2 (by omega) (pre_left hp2)
  exact⟨d1,⟨⟨hg,rfl,ht⟩,hs⟩,d2⟩
 ·show _=encS (up F (5+k) v) n T k ++ bitsI v 5
  rw [encS_congr (F:=up F (5+k) v) (G:=F) (fun j hj=>hu j (by omega)) (fun _ _=>rfl) (fun j hj=>⟨hu _ (by omega),hu _ (by omega)⟩)]
 ·rintro ⟨⟨⟨h1,h2⟩,h3⟩,h4⟩
  refine⟨⟨⟨fun j hj=>?_,h2⟩,fun j hj=>?_⟩,h4⟩
  ·show 0<=up F (5+k) v j/\up F (5+k) v j<=3
   rw [hu j (by omega)];exact h1 j hj
  ·show (0<=up F (5+k) v (5+j)/\up F (5+k) v (5+j)<=23)/\(0<=up F (5+k) v (9+j)/\up F (5+k) v (9+j)<=24)
   rw [hu (5+j) (by omega),hu (9+j) (by omega)];exact h3 j hj
 ·rintro F0 n0 T0 _ ⟨⟨⟨h1,h2⟩,h3⟩,h4⟩
  refine⟨⟨⟨fun j hj=>?_,h2⟩,fun j hj=>?_⟩,h4⟩
  ·show up F (5+k) v j=F0 j
   rw [hu j (by omega)];exact h1 j hj
  ·show up F (5+k) v (5+j)=F0 (5+j)/\up F (5+k) v (9+j)=F0 (9+j)
   rw [hu (5+j) (by omega),hu (9+j) (by omega)];exact h3 j hj
theorem RS.width{u:Int}(h:RS w rb fb b z bs (encS F n T k ++ bitsI u 5) F s n T ((HA F n T/\SA F k)/\0<=u/\u<=23) (fun F0 n0 T0=>(HC F n T F0 n0 T0/\SC F k F0)/\u=F0 (5+k)) er wr)(hu5:F (5+k)=u)(hk:k<4){v:Int}(k1:Kept (butOf wr b) wr w1)(r1:RdP w1 b bs er1 (encS F n T k ++ bitsI u 5 ++ bitsI v 5))(e1:er1=0->er=0/\0<=v/\v<=24)(bv:0<=v/\v<=24)
  (c1:∀v0,er=0->0<=v0->v0<=24->v0<32->(encS F n T k ++ bitsI u 5 ++ bitsI v0 5) <+: bitsOf bs->er1=0/\v=v0):
  RS w rb fb b z bs (encS (up F (9+k) v) n T (k+1)) (up F (9+k) v) s n T (HA (up F (9+k) v) n T/\SA (up F (9+k) v) (k+1)) (fun F0 n0 T0=>HC (up F (9+k) v) n T F0 n0 T0/\SC (up F (9+k) v) (k+1) F0) er1 (w1.setCell ⟨fb,9+k,none⟩ (.int .i64 v)):=by
 have hu:∀j,j≠9+k->up F (9+k) v j=F j:=fun j hj=>up_ne F (9+k) j v hj
 refine(h.mv (A1:=((HA F n T/\SA F k)/\0<=u/\u<=23)/\0<=v/\v<=24) (C1:=fun F0 n0 T0=>((HC F n T F0 n0 T0/\SC F k F0)/\u=F0 (5+k))/\v=F0 (9+k)) k1 r1 (fun h0=>⟨(e1 h0).1,fun hA=>⟨hA,(e1 h0).2⟩⟩) (fun F0 n0 T0 hP hp h0 hC=>?_)).st (9+k) (by omega) (by omega) v (fun _ _=>bv) ?_ ?_ ?_
 ·obtain⟨⟨⟨hg,hn,ht⟩,hs⟩,hu0⟩:=hC
  subst hn
  have hp2:=(encS_pre F0 n T0 (k:=k+1) (by omega)).trans hp
  rw [encS_succ,←encS_congr hg ht hs,←hu0] at hp2
  have hg2:=hP.hw k hk
  obtain⟨d1,d2⟩:=c1 (F0 (9+k)) h0 hg2.1 hg2.2 (by omega) hp2
  exact⟨d1,⟨⟨⟨hg,rfl,ht⟩,hs⟩,hu0⟩,d2⟩
 ·show _=encS (up F (9+k) v) n T (k+1)
  rw [encS_succ,encS_congr (F:=up F (9+k) v) (G:=F) (fun j hj=>hu j (by omega)) (fun _ _=>rfl) (fun j hj=>⟨hu _ (by omega),hu _ (by omega)⟩),up_at,hu (5+k) (by omega),hu5]
 ·rintro ⟨⟨⟨⟨h1,h2⟩,h3⟩,h4⟩,h5⟩
  refine⟨⟨fun j hj=>?_,h2⟩,fun j hj=>?_⟩
  ·show 0<=up F (9+k) v j/\up F (9+k) v j<=3
   rw [hu j (by omega)];exact h1 j hj
  ·show (0<=up F (9+k) v (5+j)/\up F (9+k) v (5+j)<=23)/\(0<=up F (9+k) v (9+j)/\up F (9+k) v (9+j)<=24)
   rcases Nat.lt_succ_iff_lt_or_eq.1 hj with h6 | rfl
   ·rw [hu (5+j) (by omega),hu (9+j) (by omega)];exact h3 j h6
   ·rw [hu (5+j) (by omega),up_at,hu5];exact⟨h4,h5⟩
 ·rintro F0 n0 T0 _ ⟨⟨⟨⟨h1,h2⟩,h3⟩,h4⟩,h5⟩
  refine⟨⟨fun j hj=>?_,h2⟩,fun j hj=>?_⟩
  ·show up F (9+k) v j=F0 j
   rw [hu j (by omega)];exact h1 j hj
  ·show up F (9+k) v (5+j)=F0 (5+j)/\up F (9+k) v (9+j)=F0 (9+j)
   rcases Nat.lt_succ_iff_lt_or_eq.1 hj with h6 | rfl
   ·rw [hu (5+j) (by omega),hu (9+j) (by omega)];exact h3 j h6
   ·rw [hu (5+j) (by omega),up_at,hu5];exact⟨h4,h5⟩
theorem RS.step{m kk:Nat}(h:RS w rb fb b z bs (encQ F n T k) F s n T ((HA F n T/\SA F 4)/\QA F k) (fun F0 n0 T0=>(HC F n T F0 n0 T0/\SC F 4 F0)/\QC F k F0) er wr)(hk:k<16)(hm:k/4=m)(hkk:F (9+m)=kk){v:Int}(k1:Kept (butOf wr b) wr w1)(r1:RdP w1 b bs er1 (encQ F n T k ++ bitsI v kk))(e1:er1=0->er=0)(fv:fitB v kk=true)
  (c1:∀v0,er=0->validI true v0 kk=true->(encQ F n T k ++ bitsI v0 kk) <+: bitsOf bs->er1=0/\v=v0):
  RS w rb fb b z bs (encQ (up F (13+k) v) n T (k+1)) (up F (13+k) v) s n T ((HA (up F (13+k) v) n T/\SA (up F (13+k) v) 4)/\QA (up F (13+k) v) (k+1)) (fun F0 n0 T0=>(HC (up F (13+k) v) n T F0 n0 T0/\SC (up F (13+k) v) 4 F0)/\QC (up F (13+k) v) (k+1) F0) er1 (w1.setCell ⟨fb,13+k,none⟩ (.int .i64 v)):=by
 have hu:∀j,j≠13+k->up F (13+k) v j=F j:=fun j hj=>up_ne F (13+k) j v hj
 refine(h.mv (A1:=(HA F n T/\SA F 4)/\QA F k) (C1:=fun F0 n0 T0=>((HC F n T F0 n0 T0/\SC F 4 F0)/\QC F k F0)/\v=F0 (13+k)) k1 r1 (fun h0=>⟨e1 h0,fun hA=>hA⟩) (fun F0 n0 T0 hP hp h0 hC=>?_)).st (13+k) (by omega) (by omega) v (fun _ _=>by omega) ?_ ?_ ?_
 ·obtain⟨⟨⟨hg,hn,ht⟩,hs⟩,hq⟩:=hC
  subst hn
  have hp2:=(encQ_pre F0 n T0 (k:=k+1) (by omega)).trans hp
  have hw9:F0 (9+k/4)=kk:=by rw [hm,←(hs m (by omega)).2];exact hkk
  rw [encQ_succ,←encQ_congr hg ht hs hq (by omega),hw9] at hp2
  have hq2:=hP.hq k hk
  have hw2:=hP.hw (k/4) (by omega)
  rw [hw9] at hq2 hw2
  obtain⟨d1,d2⟩:=c1 (F0 (13+k)) h0 (valid_fit _ _ hw2.1 hw2.2 hq2).1 hp2
  exact⟨d1,⟨⟨⟨hg,rfl,ht⟩,hs⟩,hq⟩,d2⟩
 ·show _=encQ (up F (13+k) v) n T (k+1)
  rw [encQ_succ,encQ_congr (F:=up F (13+k) v) (G:=F) (fun j hj=>hu j (by omega)) (fun _ _=>rfl) (fun j hj=>⟨hu _ (by omega),hu _ (by omega)⟩) (fun j hj=>hu _ (by omega)) (by omega),up_at,hu (9+k/4) (by omega),hm,hkk]
 ·rintro ⟨⟨⟨h1,h2⟩,h3⟩,h4⟩
  refine⟨⟨⟨fun j hj=>?_,h2⟩,fun j hj=>?_⟩,fun j hj=>?_⟩
  ·show 0<=up F (13+k) v j/\up F (13+k) v j<=3
   rw [hu j (by omega)];exact h1 j hj
  ·show (0<=up F (13+k) v (5+j)/\up F (13+k) v (5+j)<=23)/\(0<=up F (13+k) v (9+j)/\up F (13+k) v (9+j)<=24)
   rw [hu (5+j) (by omega),hu (9+j) (by omega)];exact h3 j hj
  ·show fitB (up F (13+k) v (13+j)) (up F (13+k) v (9+j/4))=true
   rw [hu (9+j/4) (by omega)]
   rcases Nat.lt_succ_iff_lt_or_eq.1 hj with h6 | rfl
   ·rw [hu (13+j) (by omega)];exact h4 j h6
   ·rw [up_at,hm,hkk];exact fv
 ·rintro F0 n0 T0 _ ⟨⟨⟨⟨h1,h2⟩,h3⟩,h4⟩,h5⟩
  refine⟨⟨⟨fun j hj=>?_,h2⟩,fun j hj=>?_⟩,fun j hj=>?_⟩
  ·show up F (13+k) v j=F0 j
   rw [hu j (by omega)];exact h1 j hj
  ·show up F (13+k) v (5+j)=F0 (5+j)/\up F (13+k) v (9+j)=F0 (9+j)
   rw [hu (5+j) (by omega),hu (9+j) (by omega)];exact h3 j hj
  ·show up F (13+k) v (13+j)=F0 (13+j)
   rcases Nat.lt_succ_iff_lt_or_eq.1 hj with h6 | rfl
   ·rw [hu (13+j) (by omega)];exact h4 j h6
   ·rw [up_at];exact h5
end
def FReadR2(w:World)(bs:List Int)(e:Ending)(w':World):Prop:=
 ∃F n p cap T er,e = .returned (.tuple #[.agg (rowN 29 (frC F (.slice p n cap))),.int .i64 er])/\Old w w'/\n<=cap/\cap<=maxLen/\SlF 2 w' p n T/\Fits64 T/\(er=0\/er=2\/er=4) /\
  (er=0->FrP F n T/\Tells bs (enc F n T))/\(er≠0->n=0/\p=none/\∀k,F k=0) /\
  (∀F0 n0 T0,FrP F0 n0 T0->Tells bs (enc F0 n0 T0)->er=0/\sameP F n T F0 n0 T0)/\(0<n->∀a,p=some a->w.heap.size<=a.block)
def cutT(T:Nat->Int)(n:Nat):Nat->Int:=fun j=>if j<2*n then T j else 0
theorem cutT_lo(T:Nat->Int)(n j:Nat)(h:j<2*n):cutT T n j=T j:=if_pos h
theorem enc_congr{F G:Nat->Int}{n:Nat}{T U:Nat->Int}(h:∀k,k<29->k≠4->F k=G k)(hT:∀j,j<2*n->T j=U j):enc F n T=enc G n U:=
 encQ_congr (fun j hj=>h j (by omega) (by omega)) hT (fun j hj=>⟨h _ (by omega) (by omega),h _ (by omega) (by omega)⟩) (fun j hj=>h _ (by omega) (by omega)) (by omega)
theorem frP_cut{F:Nat->Int}{n:Nat}{T:Nat->Int}(h:FrP F n T):FrP F n (cutT T n)/\Fits64 (cutT T n):=by
 have hT:∀k,k<n->0<=cutT T n (2*k)/\cutT T n (2*k)<=15/\fitB (cutT T n (2*k+1)) 24=true/\(0<k->cutT T n (2*(k-1))<cutT T n (2*k)):=fun k hk=>by
  rw [cutT_lo T n _ (by omega),cutT_lo T n _ (by omega),cutT_lo T n _ (by omega)];exact h.ht k hk
 refine⟨⟨h.hg,h.hs,h.hw,h.hq,h.hn,hT⟩,fun j=>?_⟩
 by_cases hj:j<2*n
 ·rcases Nat.mod_two_eq_zero_or_one j with h0 | h1
  ·have:=hT (j/2) (by omega)
   rw [show 2*(j/2)=j by omega] at this
   omega
  ·have:=hT (j/2) (by omega)
   rw [show 2*(j/2)+1=j by omega] at this
   have:=(valid_fit _ 24 (by omega) (by omega) this.2.2.1).2
   omega
 ·unfold cutT;rw [if_neg hj];omega
theorem own_row{w:World}{X:Nat->Prop}{p:Option Addr}{n cap rb:Nat}{T:Nat->Int}{z:Array Value}(h:ownS X w 224 2 (.slice p n cap) n (rowL (2*n) T))(hres:w.heap[rb]?=some (.cells z 113 (0,0)))(cs:Array Value):
  n<=cap/\cap<=maxLen/\SlF 2 (w.setRow rb cs) p n T:=by
 rcases h.1.2 with ⟨hv,h0⟩ | ⟨g,cap',cur,hv,_,hh,_⟩
 ·injection hv with _ _ e
  subst e
  exact⟨by omega,Nat.zero_le _,fun h=>by omega⟩
 ·rcases h.shape with ⟨hv2,h0⟩ | ⟨g2,cap2,hv2,_,hg,hk,hc,hcell⟩
  ·rw [hv2] at hv;cases hv
  ·injection hv2 with e1 _ e2
   subst e1 e2
   have hgg:g=g2:=(by simpa using hv.symm:g=g2/\_).1
   subst hgg
   have hne:g≠rb:=fun e=>by
    subst e
    rw [hh] at hres
    simp only [Option.some.injEq,Obj.cells.injEq] at hres
    exact absurd hres.2.1 (by decide)
   refine⟨hk,hc,fun _=>⟨g,0,rfl,by simpa using hg,fun j hj=>?_⟩⟩
   rw [Nat.zero_add]
   exact(World.cell?_of_block (a:=⟨g,j,none⟩) (setRow_other _ _ _ _ hne)).trans (hcell j _ (rowL_at _ _ _ hj))
theorem FRead_end{w:World}{rb fb b:Nat}{z:Array Value}{bs:List Int}{F:Nat->Int}{s:Value}{n:Nat}{T:Nat->Int}{er:Int}{wr:World}(h:RS w rb fb b z bs (encQ F n T 16) F s n T ((HA F n T/\SA F 4)/\QA F 16) (fun F0 n0 T0=>(HC F n T F0 n0 T0/\SC F 4 F0)/\QC F 16 F0) er wr):
  Calls Tryz.prog 170 #[.pointer (some ⟨b,0,none⟩)] wr fun e w1=>∃r,e = .returned (.int .i64 r)/\Kept (butOf wr b) wr w1/\(r=0\/r=2\/r=4)/\(r=0->FrP F n T/\Tells bs (enc F n T)) /\
   (∀F0 n0 T0,FrP F0 n0 T0->Tells bs (enc F0 n0 T0)->r=0/\sameP F n T F0 n0 T0):=by
 obtain⟨i,hr,hl,he⟩:=h.rd
 refine(End_any b bs i er wr hr).mono ?_
 rintro e w1 ⟨rfl,_,hk⟩
 refine⟨endTo bs i er,rfl,hk,?_,fun h0=>?_,fun F0 n0 T0 hP hp=>?_⟩
 ·unfold endTo
  split
  ·split
   ·exact .inl rfl
   ·exact .inr (.inr rfl)
  ·exact he
 ·unfold endTo at h0
  by_cases h1:er=0
  ·rw [if_pos h1] at h0
   obtain⟨h2,h3⟩:=hl h1
   have h4:restF bs i=true:=by
    cases e:restF bs i with
    | true=>rfl
    | false=>rw [e] at h0;simp at h0
   obtain⟨⟨⟨a1,a2⟩,a3⟩,a4⟩:=h.good h1
   exact⟨⟨a1,fun k hk=>(a3 k hk).1,fun k hk=>(a3 k hk).2,a4,a2.1,a2.2⟩,h2,by rw [h3] at h4;exact h4⟩
  ·rw [if_neg h1] at h0;exact absurd h0 h1
 ·obtain⟨h1,⟨⟨⟨c1,rfl,c2⟩,c3⟩,c4⟩⟩:=h.back F0 n0 T0 hP hp.1
  have hs:sameP F n T F0 n T0:=⟨rfl,c2,fun k hk k4=>by
   by_cases e1:k<4
   ·exact c1 k e1
   by_cases e2:k<9
   ·have:=(c3 (k-5) (by omega)).1
    rwa [show 5+(k-5)=k by omega] at this
   by_cases e3:k<13
   ·have:=(c3 (k-9) (by omega)).2
    rwa [show 9+(k-9)=k by omega] at this
   ·have:=c4 (k-13) (by omega)
    rwa [show 13+(k-13)=k by omega] at this⟩
  refine⟨?_,hs⟩
  obtain⟨h2,h3⟩:=hl h1
  have hE:enc F n T=enc F0 n T0:=enc_congr hs.2.2 hs.2.1
  have h4:=hp.2
  rw [←hE,show (enc F n T).length=i from h3.symm] at h4
  unfold endTo
  rw [if_pos h1,if_pos h4]
set_option maxHeartbeats 4000000 in
theorem FRead_any2(v:Value)(bs:List Int)(w:World)(hv:SlI w .u8 v bs)(hbt:isBytes bs)(hl:bs.length<=4294967296):
  Calls Tryz.prog 126 #[v] w (FReadR2 w bs):=by
 have Hs29:Hid ((Tryz.prog.info? 113).map (·.size)=some 29):=zH (by kernel_rfl)
 obtain⟨z,hz⟩:∃z:Array Value,z=#[Value.int IntKind.i64 0,Value.int IntKind.i64 0,Value.int IntKind.i64 0,Value.int IntKind.i64 0,Value.slice none 0 0,Value.int IntKind.i64 0,Value.int IntKind.i64 0,Value.int IntKind.i64 0,Value.int IntKind.i64 0,Value.int IntKind.i64 0,Value.int IntKind.i64 0,Value.int IntKind.i64 0,Value.int IntKind.i64 0,Value.int IntKind.i64 0,Value.int IntKind.i64 0,Value.int IntKind.i64 0,Value.int IntKind.i64 0,Value.int IntKind.i64 0,Value.int IntKind.i64 0,Value.int IntKind.i64 0,Value.int IntKind.i64 0,Value.int IntKind.i64 0,Value.int IntKind.i64 0,Value.int IntKind.i64 0,Value.int IntKind.i64 0,Value.int IntKind.i64 0,Value.int IntKind.i64 0,Value.int IntKind.i64 0,Value.int IntKind.i64 0]:=⟨_,rfl⟩
 have hzs:z.size=29:=by rw [hz];rfl
 have hzf:rowN 29 (frC (fun _=>0) (.slice none 0 0))=z:=by rw [frC_zero,hz]
 obtain⟨W2,hW2⟩:∃W2,W2=((w.alloc (.cells z 113)).alloc (.cells z 113)):=⟨_,rfl⟩
 have hO2:Old w W2:=by rw [hW2];exact(Old.alloc w _).alloc' _
 have hrb:W2.heap[w.heap.size]?=some (.cells z 113 (0,0)):=by rw [hW2];exact heap_alloc2_old w _ _
 have hfb:FrB 113 W2 (w.heap.size+1) (fun _=>0) (.slice none 0 0):=by unfold FrB;rw [hzf,hW2];exact heap_alloc2_new w _ _
 have HRd:=zH (Read_any v bs W2 (hv.old hO2) hbt hl)
 have hs2:W2.heap.size=w.heap.size+1+1:=by rw [hW2];simp
 have HW2:Hid (((w.alloc (.cells #[Value.int IntKind.i64 0,Value.int IntKind.i64 0,Value.int IntKind.i64 0,Value.int IntKind.i64 0,Value.slice none 0 0,Value.int IntKind.i64 0,Value.int IntKind.i64 0,Value.int IntKind.i64 0,Value.int IntKind.i64 0,Value.int IntKind.i64 0,Value.int IntKind.i64 0,Value.int IntKind.i64 0,Value.int IntKind.i64 0,Value.int IntKind.i64 0,Value.int IntKind.i64 0,Value.int IntKind.i64 0,Value.int IntKind.i64 0,Value.int IntKind.i64 0,Value.int IntKind.i64 0,Value.int IntKind.i64 0,Value.int IntKind.i64 0,Value.int IntKind.i64 0,Value.int IntKind.i64 0,Value.int IntKind.i64 0,Value.int IntKind.i64 0,Value.int IntKind.i64 0,Value.int IntKind.i64 0,Value.int IntKind.i64 0,Value.int IntKind.i64 0] 113)).alloc (.cells #[Value.int IntKind.i64 0,Value.int IntKind.i64 0,Value.int IntKind.i64 0,Value.int IntKind.i64 0,Value.slice none 0 0,Value.int IntKind.i64 0,Value.int IntKind.i64 0,Value.int IntKind.i64 0,Value.int IntKind.i64 0,Value.int IntKind.i64 0,Value.int IntKind.i64 0,Value.int IntKind.i64 0,Value.int IntKind.i64 0,Value.int IntKind.i64 0,Value.int IntKind.i64 0,Value.int IntKind.i64 0,Value.int IntKind.i64 0,Value.int IntKind.i64 0,Value.int IntKind.i64 0,Value.int IntKind.i64 0,Value.int IntKind.i64 0,Value.int IntKind.i64 0,Value.int IntKind.i64 0,Value.int IntKind.i64 0,Value.int IntKind.i64 0,Value.int IntKind.i64 0,Value.int IntKind.i64 0,Value.int IntKind.i64 0,Value.int IntKind.i64 0] 113))=W2):=zH (by rw [hW2,hz])
 have Hz:=zH hz
 have HO2:=zH hO2
 have Hrb:=zH hrb
 have Hfb:=zH hfb
 have Hs2:=zH hs2
 have Hzs:=zH hzs
 have Hzf:=zH hzf
 clear hz hzf hW2 hO2 hrb hfb hs2 hzs hv hbt hl
 go_enter Tryz.func126,Tryz.ntmps126
 go_wp2_with fail
 rw [HW2.out]
 refine HRd.out.mono ?_
 rintro e w3 ⟨b,rfl,hr,ho,hb⟩
 have hst:RS w w.heap.size (w.heap.size+1) b z bs [] (fun _=>0) (.slice none 0 0) 0 (fun _=>0) True (fun _ _ _=>True) 0 w3:={
  rd:=⟨0,hr,fun _=>⟨List.nil_prefix,rfl⟩,.inl rfl⟩
  fr:=Hfb.out.old ho
  res:=(ho.block _ (lt_of_block Hrb.out)).trans Hrb.out
  own:=ownS.nil _ _ _ _
  old:=HO2.out.trans ho
  nrb:=Nat.le_refl _
  nfb:=Nat.le_succ _
  nb:=by have:=Hs2.out;omega
  ne:=by omega
  wb:=fun j hj=>⟨Int.le_refl _,by omega⟩
  good:=fun _=>trivial
  back:=fun _ _ _ _ _=>⟨rfl,trivial⟩ }
 have HW:=zH (with2 hst.rd 1 1 (by omega) (by omega))
 have HST:=zH hst
 clear hr ho hb hst HRd HW2 Hrb Hfb HO2 Hs2
 generalize hfbn:w.heap.size+1=fb at *
 generalize hrbn:w.heap.size=rb at HST ⊢
 clear hfbn hrbn
 go_wp2_with fail
 refine HW.out.mono ?_
 rintro e w4 ⟨x,er,rfl,k4,r4,e4,b4,c4⟩
 have hst:RS w rb fb b z bs (encG (fun _=>0) 0) (fun _=>0) (.slice none 0 0) 0 (fun _=>0) (GA (fun _=>0) 0) (fun F0 _ _=>GC (fun _=>0) 0 F0) er w4:=by
  by_cases hx:x=1
  ·subst hx
   refine HST.out.mv k4 (r4.congr (by rw [encG_zero];rfl)) (fun h0=>⟨rfl,fun _ j hj=>by omega⟩) (fun F0 n0 T0 hP hp _ _=>⟨?_,fun j hj=>by omega⟩)
   have hp2:=(encG_pre F0 n0 T0 (k:=0) (by omega)).trans hp
   rw [encG_zero] at hp2
   exact(c4 1 rfl (by omega) (by omega) (by omega) hp2).1
  ·have hne:er≠0:=fun h0=>by have:=(e4 h0).2;omega
   obtain⟨i,q1,q2,q3⟩:=r4
   refine HST.out.mv k4 ⟨i,q1,fun h0=>absurd h0 hne,q3⟩ (fun h0=>absurd h0 hne) (fun F0 n0 T0 hP hp _ _=>?_)
   have hp2:=(encG_pre F0 n0 T0 (k:=0) (by omega)).trans hp
   rw [encG_zero] at hp2
   exact absurd (c4 1 rfl (by omega) (by omega) (by omega) hp2).1 hne
 clear HST k4 r4 e4 b4 c4 HW
 have HST:=zH hst
 clear hst
 go_wp2_with fail
 go_loopw [14] (fun i wr=>∃k:Nat,k<=4/\i = .int .i64 k/\Hid (∃F er,RS w rb fb b z bs (encG F k) F (.slice none 0 0) 0 (fun _=>0) (GA F k) (fun F0 _ _=>GC F k F0) er wr)) (fun i _=>4-(intOf i).toNat)
 case atStart=>exact⟨0,by omega,rfl,⟨_,_,HST.out⟩⟩
 case round=>
  obtain⟨k,hk,rfl,hs⟩:=hrel
  obtain⟨wo,rfl⟩:∃V,V=wr:=⟨_,rfl⟩
  clear HST
  by_cases hlt:k<4
  ·have i1:(0:Int)<=k:=by omega
   have i2:(k:Int)<4:=by omega
   obtain⟨F,er,h⟩:=hs.out
   have HW:=zH (with2 h.rd 0 3 (by omega) (by omega))
   have HH:=zH h
   clear hs h
   go_wp2_with fail
   refine HW.out.mono ?_
   rintro e w5 ⟨x,er1,rfl,k5,r5,e5,b5,c5⟩
   have hn:=HH.out.gain hlt k5 r5 e5 c5
   have hf5:FrB 113 w5 fb F (.slice none 0 0):=HH.out.fr.kept k5 ⟨lt_of_block HH.out.fr,HH.out.fne⟩
   have HN:=zH hn
   obtain⟨d0,d1⟩:=hf5.cell k (by omega) (by omega)
   clear k5 r5 e5 b5 c5 hn hf5 HW HH
   go_wp2_with fail
   go_roundw
   case rel=>exact⟨k+1,by omega,by go_num,⟨_,_,HN.out⟩⟩
   case measure=>simp [intOf];omega
  ·obtain rfl:k=4:=by omega
   obtain⟨F,er,h⟩:=hs.out
   have HW:=zH (readTones_any h.rd)
   have HH:=zH h
   clear hs h hlt hk
   go_wp2_with fail
   refine HW.out.mono ?_
   rintro e w5 ⟨n,p,cap,T,er1,rfl,n2,hrt⟩
   have hn:=HH.out.tones n2 hrt
   have hf5:FrB 113 w5 fb F (.slice none 0 0):=HH.out.fr.kept hrt.kept ⟨lt_of_block HH.out.fr,HH.out.fne⟩
   have HN:Hid (RS w rb fb b z bs (encS F n T 0) F (.slice p n cap) n T (HA F n T/\SA F 0) (fun F0 n0 T0=>HC F n T F0 n0 T0/\SC F 0 F0) er1 (w5.setCell ⟨fb,4,none⟩ (.slice p n cap))):=zH { hn with
    good:=fun h0=>⟨hn.good h0,fun j hj=>by omega⟩
    back:=fun F0 n0 T0 hP hp=>⟨(hn.back F0 n0 T0 hP hp).1,(hn.back F0 n0 T0 hP hp).2,fun j hj=>by omega⟩ }
   obtain⟨d0,d1⟩:=hf5.cell4
   clear hrt hn hf5 HW HH
   go_wp2_with fail
   try rw [show ((4:Nat):Int)=4 from rfl]
   go_loopw [26] (fun i wr=>∃k:Nat,k<=4/\i = .int .i64 k/\Hid (∃F er,RS w rb fb b z bs (encS F n T k) F (.slice p n cap) n T (HA F n T/\SA F k) (fun F0 n0 T0=>HC F n T F0 n0 T0/\SC F k F0) er wr)) (fun i _=>4-(intOf i).toNat)
   case atStart=>exact⟨0,by omega,rfl,⟨_,_,HN.out⟩⟩
   case round=>
    obtain⟨k,hk,rfl,hs⟩:=hrel
    obtain⟨wo,rfl⟩:∃V,V=wr:=⟨_,rfl⟩
    clear HN
    by_cases hlt:k<4
    ·have i1:(0:Int)<=k:=by omega
     have i2:(k:Int)<4:=by omega
     obtain⟨F,er,h⟩:=hs.out
     have HW:=zH (with5 h.rd 0 23 (by omega) (by omega))
     have HH:=zH h
     clear hs h d0 d1
     go_wp2_with fail
     refine HW.out.mono ?_
     rintro e w6 ⟨x,er1,rfl,k6,r6,e6,b6,c6⟩
     have hn:=HH.out.scale hlt k6 r6 e6 c6
     have hf6:FrB 113 w6 fb F (.slice p n cap):=HH.out.fr.kept k6 ⟨lt_of_block HH.out.fr,HH.out.fne⟩
     have HW2:=zH (with5 hn.rd 0 24 (by omega) (by omega))
     have HN:=zH hn
     obtain⟨d0,d1⟩:=hf6.cell (5+k) (by omega) (by omega)
     clear k6 r6 e6 b6 c6 hn hf6 HW HH
     go_wp2_with fail
     refine HW2.out.mono ?_
     rintro e w7 ⟨y,er2,rfl,k7,r7,e7,b7,c7⟩
     have hn2:=HN.out.width (up_at F (5+k) x) hlt k7 r7 e7 b7 c7
     have hf7:=HN.out.fr.kept k7 ⟨lt_of_block HN.out.fr,HN.out.fne⟩
     have HN2:=zH hn2
     obtain⟨d2,d3⟩:=hf7.cell (9+k) (by omega) (by omega)
     clear k7 r7 e7 b7 c7 hn2 hf7 HW2 HN d0 d1
     go_wp2_with fail
     go_roundw
     case rel=>exact⟨k+1,by omega,by go_num,⟨_,_,HN2.out⟩⟩
     case measure=>simp [intOf];omega
    ·obtain rfl:k=4:=by omega
     obtain⟨F,er,h⟩:=hs.out
     have HN:Hid (RS w rb fb b z bs (encQ F n T 0) F (.slice p n cap) n T ((HA F n T/\SA F 4)/\QA F 0) (fun F0 n0 T0=>(HC F n T F0 n0 T0/\SC F 4 F0)/\QC F 0 F0) er wo):=zH { h with
      rd:=h.rd.congr (by rw [encQ_zero])
      good:=fun h0=>⟨h.good h0,fun j hj=>by omega⟩
      back:=fun F0 n0 T0 hP hp=>⟨(h.back F0 n0 T0 hP hp).1,(h.back F0 n0 T0 hP hp).2,fun j hj=>by omega⟩ }
     clear hs h hlt hk d0 d1
     go_wp2_with fail
     try rw [show ((4:Nat):Int)=4 from rfl]
     go_loopw [40] (fun i wr=>∃k:Nat,k<=16/\i = .int .i64 k/\Hid (∃F er,RS w rb fb b z bs (encQ F n T k) F (.slice p n cap) n T ((HA F n T/\SA F 4)/\QA F k) (fun F0 n0 T0=>(HC F n T F0 n0 T0/\SC F 4 F0)/\QC F k F0) er wr)) (fun i _=>16-(intOf i).toNat)
     case atStart=>exact⟨0,by omega,rfl,⟨_,_,HN.out⟩⟩
     case round=>
      obtain⟨k,hk,rfl,hs⟩:=hrel
      obtain⟨wp,rfl⟩:∃V,V=wr:=⟨_,rfl⟩
      clear HN
      by_cases hlt:k<16
      ·have i1:(0:Int)<=k:=by omega
       have i2:(k:Int)<16:=by omega
       obtain⟨F,er,h⟩:=hs.out
       obtain⟨m,hm⟩:∃m,k/4=m:=⟨_,rfl⟩
       have m0:(0:Int)<=m:=by omega
       have m1:(m:Int)<4:=by omega
       have HBd:=zH (fun w=>Band_nat k m w hlt hm)
       obtain⟨kk,hkk⟩:∃kk:Nat,F (9+m)=kk:=⟨(F (9+m)).toNat,by have:=(h.wb m (by omega)).1;omega⟩
       have hkk57:kk<=57:=by have:=(h.wb m (by omega)).2;omega
       have hc:=(h.fr.cell (9+m) (by omega) (by omega)).1
       rw [hkk] at hc
       have HSg:=zH (sgn_step h.rd kk hkk57)
       have HN:Hid (∀w1 v er1,Kept (butOf wp b) wp w1->RdP w1 b bs er1 (encQ F n T k ++ bitsI v kk)->(er1=0->er=0)->fitB v kk=true->(∀v0,er=0->validI true v0 kk=true->(encQ F n T k ++ bitsI v0 kk) <+: bitsOf bs->er1=0/\v=v0)->(∃F er,RS w rb fb b z bs (encQ F n T (k+1)) F (.slice p n cap) n T ((HA F n T/\SA F 4)/\QA F (k+1)) (fun F0 n0 T0=>(HC F n T F0 n0 T0/\SC F 4 F0)/\QC F (k+1) F0) er (w1.setCell ⟨fb,13+k,none⟩ (.int .i64 v)))/\w1.cell? ⟨fb,13+k,none⟩=some (.int .i64 (F (13+k)))/\w1.frozen? ⟨fb,13+k,none⟩=false):=zH fun w1 v er1 q1 q2 q3 q4 q5=>
        ⟨⟨_,_,h.step hlt hm hkk q1 q2 q3 q4 q5⟩,(h.fr.kept q1 ⟨lt_of_block h.fr,h.fne⟩).cell (13+k) (by omega) (by omega)⟩
       clear hs h hm hkk
       go_wp2_with fail
       refine(HBd.out _).mono ?_
       rintro e w5 ⟨rfl,rfl⟩
       go_wp2_with fail
       refine HSg.out.mono ?_
       rintro e w6 ⟨x,er1,rfl,k6,r6,e6,f6,c6⟩
       obtain⟨hn,d0,d1⟩:=HN.out w6 x er1 k6 r6 e6 f6 c6
       have HN2:=zH hn
       clear k6 r6 e6 f6 c6 hn HN HSg HBd hc
       go_wp2_with fail
       go_roundw
       case rel=>exact⟨k+1,by omega,by go_num,⟨HN2.out.choose,HN2.out.choose_spec.choose,HN2.out.choose_spec.choose_spec⟩⟩
       case measure=>simp [intOf];omega
      ·obtain rfl:k=16:=by omega
       obtain⟨F,er,h⟩:=hs.out
       have HE:=zH (FRead_end h)
       have HH:=zH h
       clear hs h hlt hk
       go_wp2_with fail
       refine HE.out.mono ?_
       rintro e w7 ⟨r,rfl,k7,r7,g7,c7⟩
       have hres:=(k7.block rb ⟨lt_of_block HH.out.res,HH.out.rne⟩).trans HH.out.res
       have hfr:=(HH.out.fr.kept k7 ⟨lt_of_block HH.out.fr,HH.out.fne⟩).blk
       have hold:Old w w7:=Kept.trans HH.out.old (k7.mono fun q hq=>⟨Nat.lt_of_lt_of_le hq HH.out.old.size,fun e=>by have:=HH.out.nb;omega⟩)
       have hown:=HH.out.own.kept k7 fun q hq=>⟨HH.out.own.lt q hq,(HH.out.own_ne q hq).1⟩
       have Hres:=zH hres
       have Hfr:=zH hfr
       have Hold:=zH hold
       have Hown:=zH hown
       have Hnrb:=zH HH.out.nrb
       have G7:=zH g7
       have C7:=zH c7
       have R7:=zH r7
       clear k7 r7 g7 c7 hres hfr hold hown HE HH
       by_cases hr:r=0
       ·subst hr
        have H1:Hid ((rowN 29 (frC F (.slice p n cap))).all (·.oneCell')=true):=zH (frC_one _ _ rfl)
        go_wp2_with (first | (with_reducible refine wpList_load_row rfl 113 _ rfl fb rfl 113 (rowN 29 (frC F (.slice p n cap))) (0,0) _ Hfr.out Tryz.underlying113 rfl (by rw [rowN_size];exact Hs29.out) ?_) | (with_reducible refine wpList_store_row rfl 113 _ _ rfl rb (rowN 29 (frC F (.slice p n cap))) rfl rfl 113 _ Hres.out (by rw [rowN_size];exact Hs29.out) (by rw [rowN_size];exact Hzs.out) H1.out ?_))
        have hrr:=row_ret Hres.out Hold.out Hnrb.out (rowN 29 (frC F (.slice p n cap)))
        refine bodyPost_ret (results_row_tmp rfl _ _ rb 113 (rowN 29 (frC F (.slice p n cap))) (0,0) _ rfl hrr.1 Tryz.underlying113 rfl (by rw [rowN_size];exact Hs29.out)) rfl ?_
        obtain⟨hb1,hb2,hb3⟩:=own_row Hown.out Hres.out (rowN 29 (frC F (.slice p n cap)))
        obtain⟨g1,g2⟩:=(show FrP F n T/\Tells bs (enc F n T) from by first | exact G7.out rfl | exact G7.out trivial)
        obtain⟨f1,f2⟩:=frP_cut g1
        refine⟨F,n,p,cap,cutT T n,0,rfl,hrr.2,hb1,hb2,hb3.ext (fun j hj=>(cutT_lo T n j hj).symm),f2,.inl rfl,fun _=>⟨f1,?_⟩,fun h=>absurd rfl h,fun F0 n0 T0 hP hp=>?_,fun _ a ha=>by subst ha;exact Nat.le_of_not_lt (Hown.out.2 _ rfl)⟩
        ·rw [enc_congr (F:=F) (G:=F) (fun _ _ _=>rfl) (fun j hj=>cutT_lo T n j hj)]
         exact g2
        ·obtain⟨a1,a2,a3,a4⟩:=C7.out F0 n0 T0 hP hp
         exact⟨rfl,a2,fun j hj=>by rw [cutT_lo T n j hj];exact a3 j hj,a4⟩
       ·have hne:(r != 0)=true:=by simpa using hr
        have H1:Hid (z.all (·.oneCell')=true):=zH (by rw [←Hzf.out];exact frC_one _ _ rfl)
        have Hi:Hid ((Tryz.prog.info? 113).map (·.size)=some z.size):=zH (by rw [Hzs.out];exact Hs29.out)
        have HR:=zH hr
        clear hr
        go_wp2_with (rw [←Hz.out];with_reducible refine wpList_store_row rfl 113 _ _ rfl rb z rfl rfl 113 _ Hres.out Hi.out rfl H1.out ?_)
        have hrr:=row_ret Hres.out Hold.out Hnrb.out z
        refine bodyPost_ret (results_row_tmp rfl _ _ rb 113 z (0,0) _ rfl hrr.1 Tryz.underlying113 rfl Hi.out) rfl ?_
        refine⟨fun _=>0,0,none,0,fun _=>0,r,by rw [Hzf.out];rfl,hrr.2,Nat.le_refl _,Nat.zero_le _,fun h=>absurd h (by omega),fun _=>by dsimp only;omega,R7.out,fun h=>absurd h HR.out,fun _=>⟨rfl,rfl,fun _=>rfl⟩,fun F0 n0 T0 hP hp=>absurd (C7.out F0 n0 T0 hP hp).1 HR.out,fun h=>absurd h (by omega)⟩
end Go.Proofs.YtgefdmfcddpaiaaGreatDoor
