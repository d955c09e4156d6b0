/- Texts joined: FetchA, FetchB, FetchC, Made18, Awk18, FetH, Flts, Lay18, TwoS, TwoT, TwoU. -/
import Derived.Deep.RegionHeld
import Derived.Test.YtjakgghbdojlbaaGreatDoorPkAI
import Derived.Test.YtjakgghbdojlbaaGreatDoorPkAV
import Derived.Test.YtjakgghbdojlbaaGreatDoorPkBD
import Derived.Test.YtjakgghbdojlbaaGreatDoorPkBF
import Derived.Test.YtjakgghbdojlbaaGreatDoorPkBG
import Derived.Test.YtjakgghbdojlbaaGreatDoorTk
namespace Go.Proofs.YtjakgghbdojlbaaGreatDoor
set_option linter.unusedVariables false
set_option linter.unusedSimpArgs false
set_option maxRecDepth 100000
open Go.RowKit Go.ChangeShapes Go.WideShapes
def FtAt(w:World)(fb cb bb:Nat)(a m:Int):Prop:=w.heap[fb]?=some (.cells #[.pointer (some ⟨cb,0,none⟩),.pointer (some ⟨bb,0,none⟩),.int .i64 a,.int .i64 m] 81 (0,0))
namespace FtAt
variable {w w':World} {fb cb bb:Nat} {a m:Int}
theorem lt(h:FtAt w fb cb bb a m):fb<w.heap.size:=lt_of_block h
theorem kept{X:Nat->Prop}(h:FtAt w fb cb bb a m)(k:Kept X w w')(hX:X fb):FtAt w' fb cb bb a m:=(k.block _ hX).trans h
theorem old(h:FtAt w fb cb bb a m)(k:Old w w'):FtAt w' fb cb bb a m:=h.kept k h.lt
theorem cells(h:FtAt w fb cb bb a m):w.cell? ⟨fb,0,none⟩=some (.pointer (some ⟨cb,0,none⟩))/\w.cell? ⟨fb,1,none⟩=some (.pointer (some ⟨bb,0,none⟩))/\w.cell? ⟨fb,2,none⟩=some (.int .i64 a)/\w.cell? ⟨fb,3,none⟩=some (.int .i64 m)/\∀o,w.frozen? ⟨fb,o,none⟩=false:=by
 have h:w.heap[fb]?=some (.cells #[.pointer (some ⟨cb,0,none⟩),.pointer (some ⟨bb,0,none⟩),.int .i64 a,.int .i64 m] 81 (0,0)):=h
 refine⟨by simp [World.cell?,h],by simp [World.cell?,h],by simp [World.cell?,h],by simp [World.cell?,h],fun o=>by simp [World.frozen?,h]⟩
theorem asked(h:FtAt w fb cb bb a m)(x:Int):FtAt (w.setCell ⟨fb,2,none⟩ (.int .i64 x)) fb cb bb x m:=(heap_setCell_at h).trans rfl
theorem missed(h:FtAt w fb cb bb a m)(x:Int):FtAt (w.setCell ⟨fb,3,none⟩ (.int .i64 x)) fb cb bb a x:=(heap_setCell_at h).trans rfl
end FtAt
theorem fMade_yes(b bb:Nat)(w:World)(hc:w.cell? ⟨b,1,none⟩=some (.pointer (some ⟨bb,0,none⟩))):Calls Tryz.prog 72 #[.pointer (some ⟨b,0,none⟩)] w fun e w'=>e = .returned (.bool true)/\w=w':=by
 go_enter Tryz.func72,Tryz.ntmps72
 go_wp2
 go_ret
 exact⟨rfl,rfl⟩
theorem fFrames_at(fb cb bb:Nat)(a m:Int)(w:World)(h:FtAt w fb cb bb a m):Calls Tryz.prog 66 #[.pointer (some ⟨fb,0,none⟩)] w fun e w'=>e = .returned (.int .i64 a)/\w=w':=by
 obtain⟨c0,c1,c2,c3,_⟩:=h.cells
 have H:=zH (fMade_yes fb bb w c1)
 clear h
 go_enter Tryz.func66,Tryz.ntmps66
 go_wp2_with fail
 refine H.out.mono ?_
 rintro e w' ⟨rfl,rfl⟩
 go_wp2
 go_ret
 exact⟨rfl,rfl⟩
theorem fMissed_at(fb cb bb:Nat)(a m:Int)(w:World)(h:FtAt w fb cb bb a m):Calls Tryz.prog 31 #[.pointer (some ⟨fb,0,none⟩)] w fun e w'=>e = .returned (.int .i64 m)/\w=w':=by
 obtain⟨c0,c1,c2,c3,_⟩:=h.cells
 have H:=zH (fMade_yes fb bb w c1)
 clear h
 go_enter Tryz.func31,Tryz.ntmps31
 go_wp2_with fail
 refine H.out.mono ?_
 rintro e w' ⟨rfl,rfl⟩
 go_wp2
 go_ret
 exact⟨rfl,rfl⟩
theorem cDisk_at(b db:Nat)(w:World)(hc:w.cell? ⟨b,4,none⟩=some (.pointer (some ⟨db,0,none⟩))):Calls Tryz.prog 109 #[.pointer (some ⟨b,0,none⟩)] w fun e w'=>e = .returned (.pointer (some ⟨db,0,none⟩))/\w=w':=by
 have H:=zH (cMade_yes b db w hc)
 go_enter Tryz.func109,Tryz.ntmps109
 go_wp2_with fail
 refine H.out.mono ?_
 rintro e w' ⟨rfl,rfl⟩
 go_wp2
 go_ret
 exact⟨rfl,rfl⟩
theorem fNew_ok(bb cb db:Nat)(sz:Nat)(w:World)(hb:w.cell? ⟨bb,0,none⟩=some (.int .i64 sz))(hz:0<sz)(hc:w.cell? ⟨cb,4,none⟩=some (.pointer (some ⟨db,0,none⟩))):Calls Tryz.prog 65 #[.pointer (some ⟨bb,0,none⟩),.pointer (some ⟨cb,0,none⟩)] w fun e w'=>
  e = .returned (.tuple #[.pointer (some ⟨w.heap.size,0,none⟩),.int .i64 0])/\FtAt w' w.heap.size cb bb 0 0/\w'.heap.size=w.heap.size+1/\Old w w':=by
 have H:=zH (BSize_at bb sz w hb)
 have HD:=zH (cDisk_at cb db w hc)
 have e0:((sz:Int) == 0)=false:=by simp;omega
 have hE:FtAt (w.alloc (.cells #[.pointer (some ⟨cb,0,none⟩),.pointer (some ⟨bb,0,none⟩),.int .i64 0,.int .i64 0] 81)) w.heap.size cb bb 0 0:=heap_alloc_new _ _
 have HE:=zH (And.intro hE (And.intro (show (w.alloc (.cells #[.pointer (some ⟨cb,0,none⟩),.pointer (some ⟨bb,0,none⟩),.int .i64 0,.int .i64 0] 81)).heap.size=w.heap.size+1 by simp) (Old.alloc w (.cells #[.pointer (some ⟨cb,0,none⟩),.pointer (some ⟨bb,0,none⟩),.int .i64 0,.int .i64 0] 81))))
 clear hE hb hc
 go_enter Tryz.func65,Tryz.ntmps65
 go_wp2_with fail
 refine H.out.mono ?_
 rintro e w' ⟨rfl,rfl⟩
 go_wp2_with fail
 refine HD.out.mono ?_
 rintro e w' ⟨rfl,rfl⟩
 go_wp2_with fail
 go_ret2
 exact⟨rfl,HE.out⟩
def notU(w:World)(q:Nat):Prop:=∀v,w.cell? ⟨q,0,none⟩≠some (.int .u8 v)
theorem SlotsAt.keptU{w w':World}{sb n z av:Nat}{S:Nat->Option Slt}{X:Nat->Prop}(h:SlotsAt w sb n z av S)(k:Kept X w w')(hb:X sb)(hU:∀q,q<w.heap.size->¬X q->notU w q):SlotsAt w' sb n z av S:=by
 obtain⟨gs,h1,h2⟩:=h
 refine⟨gs,h1.kept k hb,fun i hi s hs=>?_⟩
 obtain⟨h3,h4⟩:=h2 i hi s hs
 refine⟨h3,h4.kept k fun a _ ha=>?_⟩
 cases ha
 obtain⟨g,o,e1,e2,e3⟩:=h4 (by omega)
 cases e1
 exact Classical.byContradiction fun hx=>hU _ e2 hx _ (e3 0 (by omega))
theorem CkAt.keptU{w w':World}{z0 z av b sb hm db dm cd N:Nat}{p:Option Addr}{c:Cch}{d:Dsk}{X:Nat->Prop}(h:CkAt w z0 z av b sb hm db dm p cd N c d)(k:Kept X w w')(h1:X b)(h2:X sb)(h3:X hm)(h4:X db)(h5:X dm)(h6:∀a,p=some a->X a.block)(hU:∀q,q<w.heap.size->¬X q->notU w q):CkAt w' z0 z av b sb hm db dm p cd N c d:=
 ⟨⟨(k.block _ h1).trans h.cc.blk,h.cc.num,h.cc.slots.keptU k h2 hU,h.cc.map.kept k h3,h.cc.pgs,h.cc.uq,h.cc.rng⟩,h.dk.kept k h4 h5 (fun a _ ha=>h6 a ha),h.nN,h.lo,Nat.le_trans h.hi k.size⟩
theorem MtsS.kept{w w':World}{p:Option Addr}{n:Nat}{D:Nat->Mt}{X:Nat->Prop}(h:MtsS w p n D)(k:Kept X w w')(hX:∀a,0<n->p=some a->X a.block):MtsS w' p n D where
 cell:=fun hn=>by
  obtain⟨g,o,h1,h2,h3⟩:=h.cell hn
  exact⟨g,o,h1,Nat.lt_of_lt_of_le h2 k.size,fun i hi f v hv=>(k.cell (a:=⟨g,o+i*9+f,none⟩) (hX ⟨g,o,none⟩ hn h1)).trans (h3 i hi f v hv)⟩
 str:=h.str
theorem BkB.kept{w w':World}{bb sz n N:Nat}{q:Option Addr}{c:Nat}{im:Option Addr}{ci:Nat}{D:Nat->Mt}{F:Nat->Int}{X:Nat->Prop}(h:BkB w bb sz n N q c im ci D F)(k:Kept X w w')(hX:∀x,bkX bb q n im N x->X x):BkB w' bb sz n N q c im ci D F:=
 ⟨(k.block _ (hX _ (.inl rfl))).trans h.blk,h.dir.kept k (fun a hn ha=>hX _ (.inr (.inl ⟨hn,a,ha,rfl⟩))),h.d1,h.d2,h.img.kept k (fun a hn ha=>hX _ (.inr (.inr ⟨hn,a,ha,rfl⟩))),h.i1,h.i2⟩
theorem BkB.lts{w:World}{bb sz n N:Nat}{q:Option Addr}{c:Nat}{im:Option Addr}{ci:Nat}{D:Nat->Mt}{F:Nat->Int}(h:BkB w bb sz n N q c im ci D F)(x:Nat)(hx:bkX bb q n im N x):x<w.heap.size:=by
 rcases hx with rfl | ⟨hn,a,ha,rfl⟩ | ⟨hn,a,ha,rfl⟩
 ·exact lt_of_block h.blk
 ·obtain⟨g,o,e,h2,_⟩:=h.dir.cell hn
  rw [e] at ha;cases ha;exact h2
 ·obtain⟨g,o,e,h2,_⟩:=h.img hn
  rw [e] at ha;cases ha;exact h2
structure FyP where
 fb:Nat
 z0:Nat
 dm:Nat
 pb:Nat
 N:Nat
 bb:Nat
 sz:Nat
 n:Nat
 NI:Nat
 q:Option Addr
 cq:Nat
 im:Option Addr
 ci:Nat
 L:Nat
 D:Nat->Mt
 F:Nat->Int
def FyP.wr(P:FyP)(x:Nat):Prop:=x=P.fb\/x=P.z0+2\/x=P.z0\/x=P.z0+1\/x=P.dm+1\/x=P.dm
def FyP.bk(P:FyP):Nat->Prop:=bkX P.bb P.q P.n P.im P.NI
def FyP.but(P:FyP)(w:World)(x:Nat):Prop:=x<w.heap.size/\¬P.wr x
structure FyS(P:FyP)(W:World)(c:Cch)(d:Dsk)(a m:Int):Prop where
 ft:FtAt W P.fb (P.z0+2) P.bb a m
 ck:CkAt W P.z0 (P.z0+3) (P.z0+2) (P.z0+2) P.z0 (P.z0+1) (P.dm+1) P.dm (some ⟨P.pb,0,none⟩) P.N P.N c d
 byt:BytC c.S
 bk:BkB W P.bb P.sz P.n P.NI P.q P.cq P.im P.ci P.D P.F
 bn:BkN P.sz P.n P.NI P.D P.F
 bl:∀x,P.bk x->x<P.L
 lo:P.L<=P.dm/\P.L<=P.z0/\P.L<=P.pb/\P.pb<P.z0/\P.dm+1<P.z0/\P.z0+3<=P.fb/\P.pb<P.dm
 pg:P.NI<=64*P.N
 lt:P.pb<W.heap.size
namespace FyS
variable {P:FyP} {W V:World} {c:Cch} {d:Dsk} {a m:Int}
theorem lts(h:FyS P W c d a m)(x:Nat)(hx:P.wr x\/x=P.pb\/P.bk x):x<W.heap.size:=by
 rcases hx with (rfl | rfl | rfl | rfl | rfl | rfl) | rfl | hx
 ·exact h.ft.lt
 ·exact h.ck.cc.ltb
 ·exact h.ck.cc.slots.lt
 ·exact h.ck.cc.map.lt
 ·exact h.ck.dk.ltb
 ·exact h.ck.dk.map.lt
 ·exact h.lt
 ·exact h.bk.lts x hx
theorem kept{X:Nat->Prop}(h:FyS P W c d a m)(k:Kept X W V)(h1:∀x,P.wr x\/x=P.pb\/P.bk x->X x)(hU:∀x,x<W.heap.size->¬X x->notU W x):FyS P V c d a m:=
 ⟨h.ft.kept k (h1 _ (.inl (.inl rfl))),h.ck.keptU k (h1 _ (.inl (by unfold FyP.wr;simp))) (h1 _ (.inl (by unfold FyP.wr;simp))) (h1 _ (.inl (by unfold FyP.wr;simp))) (h1 _ (.inl (by unfold FyP.wr;simp))) (h1 _ (.inl (by unfold FyP.wr;simp))) (fun a ha=>by cases ha;exact h1 _ (.inr (.inl rfl))) hU,
  h.byt,h.bk.kept k (fun x hx=>h1 x (.inr (.inr hx))),h.bn,h.bl,h.lo,h.pg,Nat.lt_of_lt_of_le h.lt k.size⟩
theorem old(h:FyS P W c d a m)(k:Old W V):FyS P V c d a m:=h.kept k (fun x hx=>h.lts x hx) fun x hx hn=>absurd hx hn
theorem row{W1:World}{c1:Cch}{d1:Dsk}{a1 m1:Int}(h1:FyS P W1 c1 d1 a1 m1)(h:FyS P W c d a m){b:Nat}{x:Int}(hb:W1.heap.size<=b)(hx:W.cell? ⟨b,0,none⟩=some (.int .i64 x))(k:Kept (fun q=>q≠b) W V):FyS P V c d a m:=
 h.kept k (fun x hx e=>by have:=h1.lts x hx;omega) fun q _ hq v hv=>by
  have hq:q=b:=Classical.not_not.1 hq
  rw [hq,hx] at hv
  cases hv
theorem asked(h:FyS P W c d a m)(x:Int):FyS P (W.setCell ⟨P.fb,2,none⟩ (.int .i64 x)) c d x m:=by
 have k:Kept (fun j=>j≠P.fb) W (W.setCell ⟨P.fb,2,none⟩ (.int .i64 x)):=Kept.setCell W (a:=⟨P.fb,2,none⟩) (fun e=>e rfl) _
 have hl:=h.lo
 refine⟨h.ft.asked x,h.ck.keptU k (by omega) (by omega) (by omega) (by omega) (by omega) (fun a ha=>by cases ha;show P.pb≠P.fb;omega) ?_,h.byt,h.bk.kept k (fun x hx=>by have:=h.bl x hx;omega),h.bn,h.bl,h.lo,h.pg,Nat.lt_of_lt_of_le h.lt k.size⟩
 intro q _ hq v hv
 have hq:q=P.fb:=Classical.not_not.1 hq
 rw [hq,h.ft.cells.1] at hv
 cases hv
theorem missed(h:FyS P W c d a m)(x:Int):FyS P (W.setCell ⟨P.fb,3,none⟩ (.int .i64 x)) c d a x:=by
 have k:Kept (fun j=>j≠P.fb) W (W.setCell ⟨P.fb,3,none⟩ (.int .i64 x)):=Kept.setCell W (a:=⟨P.fb,3,none⟩) (fun e=>e rfl) _
 have hl:=h.lo
 refine⟨h.ft.missed x,h.ck.keptU k (by omega) (by omega) (by omega) (by omega) (by omega) (fun a ha=>by cases ha;show P.pb≠P.fb;omega) ?_,h.byt,h.bk.kept k (fun x hx=>by have:=h.bl x hx;omega),h.bn,h.bl,h.lo,h.pg,Nat.lt_of_lt_of_le h.lt k.size⟩
 intro q _ hq v hv
 have hq:q=P.fb:=Classical.not_not.1 hq
 rw [hq,h.ft.cells.1] at hv
 cases hv
theorem Span(h:FyS P W c d a m){at_ n:Nat}(hn:at_+n<=64*P.N):Calls Tryz.prog 28 #[.pointer (some ⟨P.z0+2,0,none⟩),.int .i64 (at_:Int),.int .i64 (n:Int)] W fun e V=>
  SpanRes W.heap.size V n (spanR c d at_ n).r e/\(∀G,(spanR c d at_ n).r=some G->Byt G n)/\FyS P V (spanR c d at_ n).c (spanR c d at_ n).d a m/\Kept (P.but W) W V:=by
 refine(cSpan_any _ _ _ _ _ _ _ _ _ _ _ at_ n c d W h.ck hn (by omega)).mono ?_
 rintro e V ⟨r1,r2,r3⟩
 have hl:=h.lo
 obtain⟨b1,b2,b3,b4⟩:=span_byt (at_:=at_) (n:=n) (c:=c) (d:=d) (by rw [h.ck.nN];exact hn) h.byt h.ck.dk.byt
 refine⟨r1,b1,⟨h.ft.kept r3 ⟨h.ft.lt,by omega,by omega,by omega,by omega,by omega⟩,r2,b2,h.bk.kept r3 (fun x hx=>?_),h.bn,h.bl,h.lo,h.pg,Nat.lt_of_lt_of_le h.lt r3.size⟩,r3.mono fun x hx=>?_⟩
 ·have h1:=h.bl x hx
  exact⟨h.bk.lts x hx,by omega,by omega,by omega,by omega,by omega⟩
 ·obtain⟨h1,h2⟩:=hx
  unfold FyP.wr at h2
  exact⟨h1,by omega,by omega,by omega,by omega,by omega⟩
end FyS
def FrmR(W V:World)(bs:Option (List Int))(er:Int)(e:Ending):Prop:=
 ∃X k p cap T,e = .returned (.tuple #[.agg (rowN 29 (frC X (.slice p k cap))),.int .i64 er])/\k<=cap/\cap<=maxLen/\SlF 2 V p k T/\Fits64 T /\
  (er=0->∃b,bs=some b/\FrP X k T/\Tells b (enc X k T)/\∀F0 n0 T0,FrP F0 n0 T0->Tells b (enc F0 n0 T0)->sameP X k T F0 n0 T0)/\(er≠0->k=0/\p=none/\∀j,X j=0)/\(0<k->∀a,p=some a->W.heap.size<=a.block)
theorem FrmR.none{W V:World}{bs:Option (List Int)}{er:Int}(h:er≠0):FrmR W V bs er (.returned (.tuple #[.agg (rowN 29 (frC (fun _=>0) (.slice none 0 0))),.int .i64 er])):=
 ⟨fun _=>0,0,Option.none,0,fun _=>0,rfl,Nat.le_refl _,Nat.zero_le _,fun h=>absurd h (by omega),fun _=>by dsimp only;omega,fun e=>absurd e h,fun _=>⟨rfl,rfl,fun _=>rfl⟩,fun h=>absurd h (by omega)⟩
noncomputable def fetI(P:FyP)(i ch bl:Int):Option (Nat->Int)->Int
 | none=>8
 | some G=>openI (frSum P.D P.F i.toNat (whQ P.D i ch bl)) (lst G P.sz)
def bsOf(P:FyP)(r:Option (Nat->Int)):Option (List Int):=r.map fun G=>lst G P.sz
theorem FyS.place{P:FyP}{W:World}{c:Cch}{d:Dsk}{a m:Int}(h:FyS P W c d a m){i ch bl:Int}(hw:whI P.n P.D i ch bl=0):frAt P.sz P.D i.toNat (whQ P.D i ch bl)+P.sz<=64*P.N:=by
 obtain⟨k,c,b,rfl,rfl,rfl,h1,h2,h3⟩:=whI_ok hw
 have:=(h.bn.pl k _ h1 (whQ_lt h2 h3)).2
 have:=h.pg
 unfold frAt
 rw [Int.toNat_natCast]
 omega
theorem FyS.box{P:FyP}{W W0 V:World}{c:Cch}{d:Dsk}{a m:Int}(h:FyS P W c d a m){b0:Nat}{x:Obj}(hb:b0=W.heap.size)(hR:W0.heap[b0]?=some x)(hK:Kept (P.but W0) W0 V):V.heap[b0]?=some x:=by
 refine(hK.block b0 ⟨?_,fun hx=>?_⟩).trans hR
 ·exact Classical.byContradiction fun hn=>by rw [Array.getElem?_eq_none (by omega)] at hR;cases hR
 ·have:=h.lts b0 (.inl hx)
  omega
theorem FyS.stored{P:FyP}{W W0 V:World}{c0 c:Cch}{d0 d:Dsk}{a0 a m0 m:Int}(h:FyS P W c0 d0 a0 m0)(hO:Old W W0)(hv:FyS P V c d a m)(hK:Kept (P.but W0) W0 V){b0:Nat}(hb:b0=W.heap.size){X:Nat->Int}{s:Value}{t:TypeId}(hR:V.heap[b0]?=some (.cells (rowN 29 (frC X s)) t (0,0)))(cs:Array Value):
  FyS P (V.setRow b0 cs) c d a m/\Kept (P.but W) W (V.setRow b0 cs)/\(V.setRow b0 cs).heap[b0]?=some (.cells cs t (0,0)):=by
 refine⟨h.row hv (b:=b0) (x:=X 0) (by omega) ((cell_of_row _ _ _ _ _ _ hR).trans (rowN_at 29 _ 0 (by omega))) (Kept.setRow _ _ _),?_,setRow_heap _ _ _ _ _ _ hR⟩
 exact((hO.kept (X:=P.but W) fun x hx=>hx.1).trans (hK.mono fun x hx=>⟨Nat.lt_of_lt_of_le hx.1 hO.size,hx.2⟩)).trans ((Kept.setRow V b0 cs).mono fun x hx e=>by have:=hx.1;omega)
set_option maxHeartbeats 4000000 in
theorem fAsk_any(P:FyP)(W:World)(c:Cch)(d:Dsk)(a m:Int)(h:FyS P W c d a m)(i ch bl:Int)(hw:whI P.n P.D i ch bl=0):
  Calls Tryz.prog 73 #[.pointer (some ⟨P.fb,0,none⟩),.int .i64 (frAt P.sz P.D i.toNat (whQ P.D i ch bl)),.int .i64 i,.int .i64 ch,.int .i64 bl] W fun e V=>
   FrmR W V (bsOf P (spanR c d (frAt P.sz P.D i.toNat (whQ P.D i ch bl)) P.sz).r) (fetI P i ch bl (spanR c d (frAt P.sz P.D i.toNat (whQ P.D i ch bl)) P.sz).r) e/\FyS P V (spanR c d (frAt P.sz P.D i.toNat (whQ P.D i ch bl)) P.sz).c (spanR c d (frAt P.sz P.D i.toNat (whQ P.D i ch bl)) P.sz).d a m/\Kept (P.but W) W V:=by
 have Hs29:Hid ((Tryz.prog.info? 75).map (·.size)=some 29):=zH (by kernel_rfl)
 obtain⟨z,hz⟩:∃z:Array Value,z=rowN 29 (frC (fun _=>0) (.slice none 0 0)):=⟨_,rfl⟩
 have hzs:z.size=29:=by rw [hz,rowN_size]
 have hz1:z.all (·.oneCell')=true:=by rw [hz];exact frC_one _ _ rfl
 have HZf:=zH hz
 rw [frC_zero] at hz
 obtain⟨b0,hb0⟩:∃b,b=W.heap.size:=⟨_,rfl⟩
 obtain⟨W0,hW0⟩:∃W0,W0=W.alloc (.cells z 75):=⟨_,rfl⟩
 have hR:W0.heap[b0]?=some (.cells z 75 (0,0)):=by rw [hW0,hb0];exact heap_alloc_new _ _
 have hO:Old W W0:=by rw [hW0];exact Old.alloc _ _
 have hpl:=h.place hw
 obtain⟨A,hA⟩:∃A,A=frAt P.sz P.D i.toNat (whQ P.D i ch bl):=⟨_,rfl⟩
 rw [←hA] at hpl ⊢
 obtain⟨R,hRR⟩:∃R,R=spanR c d A P.sz:=⟨_,rfl⟩
 have h0:=h.old hO
 rw [←hRR]
 have HSp2:Hid (∀V,Old W0 V->V.heap.size=W0.heap.size->Calls Tryz.prog 28 #[.pointer (some ⟨P.z0+2,0,none⟩),.int .i64 (A:Int),.int .i64 (P.sz:Int)] V fun e V'=>
   SpanRes V.heap.size V' P.sz R.r e/\(∀G,R.r=some G->Byt G P.sz)/\FyS P V' R.c R.d a m/\Kept (P.but V) V V'):=zH fun V hV _=>by
  have:=(h0.old hV).Span (at_:=A) (n:=P.sz) hpl
  rw [←hRR] at this
  exact this
 obtain⟨r,hr⟩:∃r,r=R.r:=⟨_,rfl⟩
 rw [←hr] at HSp2 ⊢
 obtain⟨ev,hev⟩:∃ev,ev=fetI P i ch bl:=⟨_,rfl⟩
 rw [←hev]
 have HEv:=zH hev
 have HOp:=zH (fun(V:World) (c:Cch) (d:Dsk) (hV:FyS P V c d a m) p m2 cap G hs hb h1 h2 hm=>BOpen_any P.bb P.sz P.n P.NI P.q P.cq P.im P.ci P.D P.F V hV.bk hV.bn i ch bl p m2 cap G hs hb h1 h2 hm)
 have HSz:=zH (fun(V:World) (hV:Old W0 V)=>BSize_at P.bb P.sz V (h0.old hV).bk.size_.1)
 have HFt:=zH (fun(V:World) (c:Cch) (d:Dsk) (hV:FyS P V c d a m)=>And.intro hV.ft.cells.1 hV.ft.cells.2.1)
 have HF0:=zH h0
 have Hz:=zH hz
 have Hz1:=zH hz1
 have Hzs:=zH hzs
 have Hi:Hid ((Tryz.prog.info? 75).map (·.size)=some z.size):=by unfold Hid;rw [hzs];exact Hs29.out
 have HW0:=zH hW0
 have HR:=zH hR
 have HO:=zH hO
 have HB0:=zH hb0
 have HW:=zH hw
 have HF:=zH h
 have hz96:=h.bn.z2
 obtain⟨fb,hfb⟩:∃x,x=P.fb:=⟨_,rfl⟩
 obtain⟨cb,hcb⟩:∃x,x=P.z0+2:=⟨_,rfl⟩
 obtain⟨bb,hbb⟩:∃x,x=P.bb:=⟨_,rfl⟩
 obtain⟨sz,hsz⟩:∃x,x=P.sz:=⟨_,rfl⟩
 rw [←hfb,←hcb,←hbb] at HFt
 rw [←hcb,←hsz] at HSp2
 rw [←hbb,←hsz] at HSz
 rw [←hbb] at HOp
 rw [←hfb]
 have hsz96:sz<=96:=by omega
 have HSZ:=zH hsz
 clear hz hzs hW0 hR hO hb0 hz1 hr hev hA hRR hpl h0 hw h hfb hcb hbb hz96 hsz
 go_enter Tryz.func73,Tryz.ntmps73
 go_wp2_with fail
 rw [←Hz.out,←HW0.out,←HB0.out]
 clear HW0
 refine wp_region_held_drew (S:=(fun V=>V.cell? ⟨fb,0,none⟩=some (.pointer (some ⟨cb,0,none⟩))/\V.cell? ⟨fb,1,none⟩=some (.pointer (some ⟨bb,0,none⟩)))) (by kernel_rfl) ?_ (fun hHeld=>?_)
 ·(try dsimp only);exact HFt.out _ _ _ (HF0.out.old (Old.refl W0).drew)
 refine wpU 0 rfl ?_;try simp only [Act.put,sA,sZ,sS]
 refine wpU 1 rfl ?_;try simp only [Act.put,sA,sZ,sS]
 refine wpU 2 rfl ?_;try simp only [Act.put,sA,sZ,sS]
 refine wpU 3 rfl ?_;try simp only [Act.put,sA,sZ,sS]
 refine wpU 4 rfl ?_;try simp only [Act.put,sA,sZ,sS]
 refine wpU 5 rfl ?_;try simp only [Act.put,sA,sZ,sS]
 refine wpU 6 rfl ?_;try simp only [Act.put,sA,sZ,sS]
 refine wpU 7 rfl ?_;try simp only [Act.put,sA,sZ,sS]
 refine wpU 8 rfl ?_;try simp only [Act.put,sA,sZ,sS]
 refine wpR 9 rfl (fun K hK=>?_)
 go_simp
 refine(HSz.out _ (Old.refl W0).drew).mono ?_
 rintro e V ⟨rfl,hv⟩
 subst hv
 go_wp2_with fail
 refine hK.out _ _ ?_ (fun hHeld=>?_)
 ·(try dsimp only);exact HFt.out _ _ _ (HF0.out.old (Old.refl W0).drew)
 clear hK K
 try simp only [Act.put,sA,sZ,sS]
 refine wpR 10 rfl (fun K hK=>?_)
 go_simp
 refine(HSp2.out _ (Old.refl W0).drew rfl).mono ?_
 rintro e V ⟨h1,h2,h3,h4⟩
 have HV:=zH h3
 have HK:=zH h4
 have hbx:=HF.out.box HB0.out (W0:=W0.drew) HR.out h4
 have HBx:=zH hbx
 have hbx2:=hbx
 rw [HZf.out] at hbx2
 have HSt:=zH (fun cs=>HF.out.stored HO.out.drew h3 h4 HB0.out hbx2 cs)
 have HCl:=zH (HFt.out _ _ _ h3)
 have HBy:=zH h2
 have HVs:=zH (show W.heap.size<=V.heap.size from Nat.le_trans HO.out.size h4.size)
 clear hbx hbx2 h3 h4 h2 HSp2 HSz HFt HF0 HR
 cases r with
 | none=>
  have h1:e = .returned (.tuple #[.slice none 0 0,.int .i64 8]):=h1
  subst h1
  have HE:Hid (ev none=8):=zH (by rw [HEv.out];rfl)
  clear HOp
  go_wp2_with fail
  refine hK.out _ _ ?_ (fun hHeld=>?_)
  ·(try dsimp only);exact HCl.out
  clear hK K
  try simp only [Act.put,sA,sZ,sS]
  refine wpU 11 rfl ?_;try simp only [Act.put,sA,sZ,sS]
  refine wpU 12 rfl ?_;try simp only [Act.put,sA,sZ,sS]
  refine wpU 13 rfl ?_;try simp only [Act.put,sA,sZ,sS]
  refine wpU 14 rfl ?_;try simp only [Act.put,sA,sZ,sS]
  refine wpU 15 rfl ?_;try simp only [Act.put,sA,sZ,sS]
  refine wpAnyH_done (by kernel_rfl) ?_ _
  go_wp2_with (rw [←Hz.out];with_reducible refine wpList_store_row rfl 75 _ _ rfl b0 z rfl rfl 75 _ HBx.out Hi.out rfl Hz1.out ?_)
  obtain⟨s1,s2,s3⟩:=HSt.out z
  refine bodyPost_ret (results_row_tmp2 rfl _ _ b0 75 z (0,0) _ rfl s3 Tryz.underlying75 rfl Hi.out) rfl ⟨?_,s1,s2⟩
  rw [HE.out]
  have:=FrmR.none (W:=W) (V:=V.setRow b0 z) (bs:=bsOf P none) (er:=8) (by decide)
  rw [←HZf.out] at this
  exact this
 | some G=>
  obtain⟨q,cp,h1,s1,s2,s3,s4⟩:=h1
  subst h1
  have hop:=HOp.out V R.c R.d HV.out q sz cp G s3 (HBy.out G rfl) s1 s2 (by omega)
  have he:opnI P.n P.D P.F i ch bl (lst G sz)=ev (some G):=by
   unfold opnI
   rw [if_neg (fun e=>e HW.out),HSZ.out,HEv.out]
   rfl
  rw [he] at hop
  have HOp2:=zH hop
  obtain⟨c0,c1⟩:=HCl.out
  clear hop he s1 s2 s3 s4 HOp HBy
  go_wp2_with fail
  refine hK.out _ _ ?_ (fun hHeld=>?_)
  ·(try dsimp only);exact HCl.out
  clear hK K
  try simp only [Act.put,sA,sZ,sS]
  refine wpU 11 rfl ?_;try simp only [Act.put,sA,sZ,sS]
  refine wpU 12 rfl ?_;try simp only [Act.put,sA,sZ,sS]
  refine wpU 13 rfl ?_;try simp only [Act.put,sA,sZ,sS]
  refine wpU 14 rfl ?_;try simp only [Act.put,sA,sZ,sS]
  refine wpU 15 rfl ?_;try simp only [Act.put,sA,sZ,sS]
  refine wpAnyH_done (by kernel_rfl) ?_ _
  go_wp2_with fail
  refine HOp2.out.mono ?_
  rintro e V2 ⟨X,k,pg,cg,U,rfl,oo,g1,g2,g3,g4,g5,g6,g7⟩
  have H1g:Hid ((rowN 29 (frC X (.slice pg k cg))).all (·.oneCell')=true):=zH (frC_one _ _ rfl)
  have hK2:Kept (P.but W0.drew) W0.drew V2:=HK.out.trans (oo.kept (X:=P.but W0.drew) fun x hx=>Nat.lt_of_lt_of_le hx.1 HK.out.size)
  have hb2:=(oo.block _ (lt_of_block HBx.out)).trans HBx.out
  have HB2:=zH hb2
  rw [HZf.out] at hb2
  have HSt2:=zH (fun cs=>HF.out.stored HO.out.drew (HV.out.old oo) hK2 HB0.out hb2 cs)
  have hbV:=lt_of_block HBx.out
  have HG:=zH (And.intro g1 (And.intro g2 (And.intro g3 (And.intro g4 (And.intro g5 (And.intro g6 (fun h a ha=>And.intro (Nat.lt_of_lt_of_le hbV (g7 h a ha)) (Nat.le_trans HVs.out (g7 h a ha)))))))))
  clear oo g1 g2 g3 g4 g5 g6 g7 hK2 hb2 hbV HOp2 HSt HF HBx HCl HK HV HO c0 c1
  go_wp2_with (with_reducible refine wpList_store_row rfl 75 _ _ rfl b0 (rowN 29 (frC X (.slice pg k cg))) rfl rfl 75 _ HB2.out (by rw [rowN_size];exact Hs29.out) (by rw [rowN_size];exact Hzs.out) H1g.out ?_)
  obtain⟨s1,s2,s3⟩:=HSt2.out (rowN 29 (frC X (.slice pg k cg)))
  refine bodyPost_ret (results_row_tmp2 rfl _ _ b0 75 (rowN 29 (frC X (.slice pg k cg))) (0,0) _ rfl s3 Tryz.underlying75 rfl (by rw [rowN_size];exact Hs29.out)) rfl ⟨?_,s1,s2⟩
  obtain⟨g1,g2,g3,g4,g5,g6,g7⟩:=HG.out
  exact⟨X,k,pg,cg,U,rfl,g1,g2,g3.kept (Kept.setRow _ _ _) (fun a hn ha=>by have:=(g7 hn a ha).1;omega),g4,fun e=>⟨lst G sz,by rw [HSZ.out];rfl,(g5 e).1,(g5 e).2.1,(g5 e).2.2⟩,g6,fun hn a ha=>(g7 hn a ha).2⟩
theorem FyP.next{P:FyP}{W V V2:World}(h:Kept (P.but W) W V)(k:Kept (P.but V) V V2):Kept (P.but W) W V2:=h.trans (k.mono fun x hx=>⟨Nat.lt_of_lt_of_le hx.1 h.size,hx.2⟩)
theorem FyP.old{P:FyP}{W V V2:World}(h:Kept (P.but W) W V)(k:Old V V2):Kept (P.but W) W V2:=h.trans (k.kept fun x hx=>Nat.lt_of_lt_of_le hx.1 h.size)
theorem FyP.set{P:FyP}{W V:World}(h:Kept (P.but W) W V)(o:Nat)(v:Value):Kept (P.but W) W (V.setCell ⟨P.fb,o,none⟩ v):=h.trans (Kept.setCell V (a:=⟨P.fb,o,none⟩) (fun e=>e.2 (.inl rfl)) _)
theorem FyS.stored2{P:FyP}{W V:World}{c0 c:Cch}{d0 d:Dsk}{a0 a m0 m:Int}(h:FyS P W c0 d0 a0 m0)(hv:FyS P V c d a m)(hK:Kept (P.but W) W V){b0:Nat}(hb:b0=W.heap.size){X:Nat->Int}{s:Value}{t:TypeId}(hR:V.heap[b0]?=some (.cells (rowN 29 (frC X s)) t (0,0)))(cs:Array Value):
  FyS P (V.setRow b0 cs) c d a m/\Kept (P.but W) W (V.setRow b0 cs)/\(V.setRow b0 cs).heap[b0]?=some (.cells cs t (0,0)):=by
 refine⟨h.row hv (b:=b0) (x:=X 0) (by omega) ((cell_of_row _ _ _ _ _ _ hR).trans (rowN_at 29 _ 0 (by omega))) (Kept.setRow _ _ _),?_,setRow_heap _ _ _ _ _ _ hR⟩
 exact hK.trans ((Kept.setRow V b0 cs).mono fun x hx e=>by have:=hx.1;omega)
set_option maxHeartbeats 4000000 in
theorem fFrame_out(P:FyP)(W:World)(c:Cch)(d:Dsk)(a m:Int)(h:FyS P W c d a m)(i ch bl:Int)(hw:whI P.n P.D i ch bl≠0):Calls Tryz.prog 27 #[.pointer (some ⟨P.fb,0,none⟩),.int .i64 i,.int .i64 ch,.int .i64 bl] W fun e V=>e = .returned (.tuple #[.agg (rowN 29 (frC (fun _=>0) (.slice none 0 0))),.int .i64 (whI P.n P.D i ch bl)])/\Old W V:=by
 have Hs29:Hid ((Tryz.prog.info? 75).map (·.size)=some 29):=zH (by kernel_rfl)
 obtain⟨z,hz⟩:∃z:Array Value,z=rowN 29 (frC (fun _=>0) (.slice none 0 0)):=⟨_,rfl⟩
 have hzs:z.size=29:=by rw [hz,rowN_size]
 have hz1:z.all (·.oneCell')=true:=by rw [hz];exact frC_one _ _ rfl
 rw [←hz]
 rw [frC_zero] at hz
 obtain⟨b0,hb0⟩:∃b,b=W.heap.size:=⟨_,rfl⟩
 obtain⟨W0,hW0⟩:∃W0,W0=W.alloc (.cells z 75):=⟨_,rfl⟩
 have hR:W0.heap[b0]?=some (.cells z 75 (0,0)):=by rw [hW0,hb0];exact heap_alloc_new _ _
 have hO:Old W W0:=by rw [hW0];exact Old.alloc _ _
 have h0:=h.old hO
 obtain⟨_,c1,_,_,_⟩:=h0.ft.cells
 have HM:=zH (fMade_yes P.fb P.bb W0 c1)
 have HWh:=zH (BWhere_any P.bb P.sz P.n P.NI P.q P.cq P.im P.ci P.D P.F W0 h0.bk h0.bn i ch bl)
 obtain⟨x,hx⟩:∃x,x=whI P.n P.D i ch bl:=⟨_,rfl⟩
 rw [←hx] at HWh hw ⊢
 have hd:(x != 0)=true:=by simpa using hw
 have HRR:=zH (fun w1 (o1:Old W0 w1)=>row_ret ((o1.block _ (lt_of_block hR)).trans hR) (hO.trans o1) (by omega) z)
 have Hz:=zH hz
 have Hz1:=zH hz1
 have Hi:Hid ((Tryz.prog.info? 75).map (·.size)=some z.size):=by unfold Hid;rw [hzs];exact Hs29.out
 have HW0:=zH hW0
 have HR:=zH hR
 have HB0:=zH hb0
 obtain⟨fb,hfb⟩:∃x,x=P.fb:=⟨_,rfl⟩
 obtain⟨bb,hbb⟩:∃x,x=P.bb:=⟨_,rfl⟩
 rw [←hfb] at HM c1 ⊢
 rw [←hbb] at HWh c1
 clear hz hzs hW0 hR hO hb0 hz1 h hx hw h0 hfb hbb
 go_enter Tryz.func27,Tryz.ntmps27
 go_wp2_with fail
 rw [←Hz.out,←HW0.out,←HB0.out]
 clear HW0
 refine HM.out.mono ?_
 rintro e w1 ⟨rfl,rfl⟩
 go_wp2_with fail
 refine HWh.out.mono ?_
 rintro e w1 ⟨a1,S,rfl,_,_,o1⟩
 have HO1:=zH o1
 have HR1:=zH ((o1.block _ (lt_of_block HR.out)).trans HR.out)
 clear o1 c1 HWh
 go_wp2_with (rw [←Hz.out];with_reducible refine wpList_store_row rfl 75 _ _ rfl b0 z rfl rfl 75 _ HR1.out Hi.out rfl Hz1.out ?_)
 obtain⟨s1,s2⟩:=HRR.out w1 HO1.out
 exact bodyPost_ret (results_row_tmp2 rfl _ _ b0 75 z (0,0) _ rfl s1 Tryz.underlying75 rfl Hi.out) rfl ⟨rfl,s2⟩
set_option maxHeartbeats 4000000 in
theorem fFrame_any(P:FyP)(W:World)(c:Cch)(d:Dsk)(a m:Int)(h:FyS P W c d a m)(i ch bl:Int)(hw:whI P.n P.D i ch bl=0):
  Calls Tryz.prog 27 #[.pointer (some ⟨P.fb,0,none⟩),.int .i64 i,.int .i64 ch,.int .i64 bl] W fun e V=>
   FrmR W V (bsOf P (spanR c d (frAt P.sz P.D i.toNat (whQ P.D i ch bl)) P.sz).r) (fetI P i ch bl (spanR c d (frAt P.sz P.D i.toNat (whQ P.D i ch bl)) P.sz).r) e /\
   FyS P V (spanR c d (frAt P.sz P.D i.toNat (whQ P.D i ch bl)) P.sz).c (spanR c d (frAt P.sz P.D i.toNat (whQ P.D i ch bl)) P.sz).d (wrap64 (a+1)) (if fetI P i ch bl (spanR c d (frAt P.sz P.D i.toNat (whQ P.D i ch bl)) P.sz).r=0 then m else wrap64 (m+1))/\Kept (P.but W) W V:=by
 have Hs29:Hid ((Tryz.prog.info? 75).map (·.size)=some 29):=zH (by kernel_rfl)
 obtain⟨z,hz⟩:∃z:Array Value,z=rowN 29 (frC (fun _=>0) (.slice none 0 0)):=⟨_,rfl⟩
 have hzs:z.size=29:=by rw [hz,rowN_size]
 have hz1:z.all (·.oneCell')=true:=by rw [hz];exact frC_one _ _ rfl
 have HZf:=zH hz
 rw [frC_zero] at hz
 obtain⟨b0,hb0⟩:∃b,b=W.heap.size:=⟨_,rfl⟩
 obtain⟨W0,hW0⟩:∃W0,W0=W.alloc (.cells z 75):=⟨_,rfl⟩
 have hR:W0.heap[b0]?=some (.cells z 75 (0,0)):=by rw [hW0,hb0];exact heap_alloc_new _ _
 have hO:Old W W0:=by rw [hW0];exact Old.alloc _ _
 have h0:=h.old hO
 obtain⟨_,c1,_,_,_⟩:=h0.ft.cells
 have HM:=zH (fMade_yes P.fb P.bb W0 c1)
 have HWh:=zH (BWhere_any P.bb P.sz P.n P.NI P.q P.cq P.im P.ci P.D P.F W0 h0.bk h0.bn i ch bl)
 obtain⟨q,hq⟩:∃q,q=wrap64 (a+1):=⟨_,rfl⟩
 have e1:wrap64 (a+1)=q:=hq.symm
 have hAs:=fun V (hV:FyS P V c d q m)=>fAsk_any P V c d q m hV i ch bl hw
 rw [←hq]
 rw [hw] at HWh
 obtain⟨A,hA⟩:∃A,A=frAt P.sz P.D i.toNat (whQ P.D i ch bl):=⟨_,rfl⟩
 rw [←hA] at hAs HWh ⊢
 obtain⟨R,hRR⟩:∃R,R=spanR c d A P.sz:=⟨_,rfl⟩
 rw [←hRR] at hAs ⊢
 obtain⟨E,hE⟩:∃E,E=fetI P i ch bl R.r:=⟨_,rfl⟩
 rw [←hE] at hAs ⊢
 obtain⟨bs,hbs⟩:∃bs,bs=bsOf P R.r:=⟨_,rfl⟩
 rw [←hbs] at hAs ⊢
 have HAs:=zH hAs
 have HFt:=zH (fun V (hV:Old W0 V)=>(h0.old hV).ft.cells)
 have HF:=zH h
 have HF0:=zH h0
 have Hz:=zH hz
 have Hzs:=zH hzs
 have Hz1:=zH hz1
 have Hi:Hid ((Tryz.prog.info? 75).map (·.size)=some z.size):=by unfold Hid;rw [hzs];exact Hs29.out
 have HW0:=zH hW0
 have HR:=zH hR
 have HO:=zH hO
 have HB0:=zH hb0
 obtain⟨fb,hfb⟩:∃x,x=P.fb:=⟨_,rfl⟩
 obtain⟨bb,hbb⟩:∃x,x=P.bb:=⟨_,rfl⟩
 rw [←hfb] at HM c1 HAs HFt ⊢
 rw [←hbb] at HWh c1 HFt
 have HFb:=zH hfb
 clear hz hzs hW0 hR hO hb0 hz1 h hw h0 hfb hbb hq hAs hA hRR hE hbs
 go_enter Tryz.func27,Tryz.ntmps27
 go_wp2_with fail
 rw [←Hz.out,←HW0.out,←HB0.out]
 clear HW0
 refine HM.out.mono ?_
 rintro e w1 ⟨rfl,rfl⟩
 clear HM
 go_wp2_with fail
 refine HWh.out.mono ?_
 rintro e W2 ⟨a1,S,rfl,h3,_,o1⟩
 obtain⟨rfl,_⟩:=h3 (by trivial)
 obtain⟨_,_,k2,_,kf⟩:=HFt.out _ o1
 have f2:=kf 2
 have hF2:=HF0.out.old o1
 have hF3:=hF2.asked q
 have hK3:=FyP.set (FyP.old (P:=P) (Kept.refl _ _) (HO.out.trans o1)) 2 (.int .i64 q)
 have hR3:(W2.setCell ⟨P.fb,2,none⟩ (.int .i64 q)).heap[b0]?=some (.cells z 75 (0,0)):=by
  refine((Kept.setCell (X:=fun j=>j≠P.fb) W2 (a:=⟨P.fb,2,none⟩) (fun e=>e rfl) (.int .i64 q)).block b0 ?_).trans ((o1.block _ (lt_of_block HR.out)).trans HR.out)
  have:=HF.out.lts P.fb (.inl (.inl rfl))
  have:=HB0.out
  omega
 rw [←HFb.out] at hF3 hK3 hR3
 have HF3:=zH hF3
 have HK3:=zH hK3
 have HR3:=zH hR3
 clear h3 o1 c1 kf hF2 hF3 hK3 hR3 HWh HFt HF0
 go_wp2_with fail
 clear k2 f2
 refine(HAs.out _ HF3.out).mono ?_
 rintro e V ⟨⟨X,k,pg,cg,U,rfl,g1,g2,g3,g4,g5,g6,g7⟩,hF,hK⟩
 have hWV:=HK3.out.size
 obtain⟨b1,hb1⟩:∃b,b=V.heap.size:=⟨_,rfl⟩
 obtain⟨V3,hV3⟩:∃x,x=V.alloc (.cells (rowN 29 (frC X (.slice pg k cg))) 75):=⟨_,rfl⟩
 have o3:Old V V3:=by rw [hV3];exact Old.alloc _ _
 have hBx:V3.heap[b1]?=some (.cells (rowN 29 (frC X (.slice pg k cg))) 75 (0,0)):=by rw [hV3,hb1];exact heap_alloc_new _ _
 have hbox:=(o3.block b0 (lt_of_block (HF.out.box HB0.out HR3.out hK))).trans (HF.out.box HB0.out HR3.out hK)
 have hKW:=FyP.old (FyP.next HK3.out hK) o3
 have HBx:=zH hBx
 have HBo:=zH hbox
 have HKW:=zH hKW
 have HFV:=zH (hF.old o3)
 have H1g:Hid ((rowN 29 (frC X (.slice pg k cg))).all (·.oneCell')=true):=zH (frC_one _ _ rfl)
 have HG:=zH (And.intro g1 (And.intro g2 (And.intro (g3.old o3) (And.intro g4 (And.intro g5 (And.intro g6 (fun h a ha=>Nat.le_trans hWV (g7 h a ha))))))))
 have Hb01:=zH (show b0<b1 by rw [hb1];exact lt_of_block (HF.out.box HB0.out HR3.out hK))
 have HV3:=zH hV3
 have HB1:=zH hb1
 have HN0:=zH (fun(hn:0<k) (a:Addr) (ha:pg=some a)=>show a.block≠b0 from fun e=>by
  have:=g7 hn a ha
  have:=lt_of_block HR3.out
  omega)
 clear g1 g2 g3 g4 g5 g6 g7 hF hK hWV hb1 hV3 o3 hBx hbox hKW HAs HF3 HK3 HR3 HR HO
 by_cases h0:E=0
 ·subst h0
  have HSt:=zH (HF.out.stored2 HFV.out HKW.out HB0.out (by rw [←HZf.out];exact HBo.out) (rowN 29 (frC X (.slice pg k cg))))
  go_wp2_with (first | (with_reducible refine wpList_store_row rfl 75 _ _ rfl V.heap.size (rowN 29 (frC X (.slice pg k cg))) rfl rfl 75 _ (heap_alloc_new _ _) (by rw [rowN_size];exact Hs29.out) (by rw [rowN_size];kernel_rfl) H1g.out ?_;rw [World.setRow_alloc_new,←HV3.out,←HB1.out]) | (with_reducible refine wpList_load_row rfl 75 _ rfl b1 rfl 75 (rowN 29 (frC X (.slice pg k cg))) (0,0) _ HBx.out Tryz.underlying75 rfl (by rw [rowN_size];exact Hs29.out) ?_) | (with_reducible refine wpList_store_row rfl 75 _ _ rfl b0 (rowN 29 (frC X (.slice pg k cg))) rfl rfl 75 _ HBo.out (by rw [rowN_size];exact Hs29.out) (by rw [rowN_size];exact Hzs.out) H1g.out ?_))
  obtain⟨s1,s2,s3⟩:=HSt.out
  refine bodyPost_ret (results_row_tmp2 rfl _ _ b0 75 (rowN 29 (frC X (.slice pg k cg))) (0,0) _ rfl s3 Tryz.underlying75 rfl (by rw [rowN_size];exact Hs29.out)) rfl ⟨?_,s1,s2⟩
  obtain⟨g1,g2,g3,g4,g5,g6,g7⟩:=HG.out
  exact⟨X,k,pg,cg,U,rfl,g1,g2,g3.kept (Kept.setRow _ _ _) (fun a hn ha=>HN0.out hn a ha),g4,fun _=>g5 (by trivial),fun e=>absurd rfl e,g7⟩
 ·have hd:(E != 0)=true:=by simpa using h0
  obtain⟨q2,hq2⟩:∃q,q=wrap64 (m+1):=⟨_,rfl⟩
  have e2:wrap64 (m+1)=q2:=hq2.symm
  have hF4:=HFV.out.missed q2
  have hK4:=FyP.set HKW.out 3 (.int .i64 q2)
  have hkk:Kept (fun j=>j≠P.fb) V3 (V3.setCell ⟨P.fb,3,none⟩ (.int .i64 q2)):=Kept.setCell V3 (a:=⟨P.fb,3,none⟩) (fun e=>e rfl) _
  have hfl:=HF.out.lts P.fb (.inl (.inl rfl))
  have hb04:=(hkk.block b0 (by have:=HB0.out;omega)).trans HBo.out
  have hb14:=(hkk.block b1 (by have:=HB0.out;have:=Hb01.out;omega)).trans HBx.out
  obtain⟨_,_,_,k3,kf⟩:=HFV.out.ft.cells
  have f3:=kf 3
  have hg3:=HG.out.2.2.1.kept hkk (fun a hn ha=>by
   have:=HG.out.2.2.2.2.2.2 hn a ha
   omega)
  have HSt:=zH (HF.out.stored2 hF4 hK4 HB0.out (by rw [←HZf.out];exact hb04) (rowN 29 (frC X (.slice pg k cg))))
  rw [←HFb.out] at hb04 hb14 k3 f3 HSt hg3
  have HB04:=zH hb04
  have HB14:=zH hb14
  have HG3:=zH hg3
  have H0:=zH h0
  rw [hq2] at HSt
  rw [←hq2] at HSt
  clear hF4 hK4 hkk hfl hb04 hb14 kf hg3 h0 hq2 HFV HKW HBo
  go_wp2_with (first | (with_reducible refine wpList_store_row rfl 75 _ _ rfl V.heap.size (rowN 29 (frC X (.slice pg k cg))) rfl rfl 75 _ (heap_alloc_new _ _) (by rw [rowN_size];exact Hs29.out) (by rw [rowN_size];kernel_rfl) H1g.out ?_;rw [World.setRow_alloc_new,←HV3.out,←HB1.out]) | (with_reducible refine wpList_load_row rfl 75 _ rfl b1 rfl 75 (rowN 29 (frC X (.slice pg k cg))) (0,0) _ HB14.out Tryz.underlying75 rfl (by rw [rowN_size];exact Hs29.out) ?_) | (with_reducible refine wpList_store_row rfl 75 _ _ rfl b0 (rowN 29 (frC X (.slice pg k cg))) rfl rfl 75 _ HB04.out (by rw [rowN_size];exact Hs29.out) (by rw [rowN_size];exact Hzs.out) H1g.out ?_))
  obtain⟨s1,s2,s3⟩:=HSt.out
  refine bodyPost_ret (results_row_tmp2 rfl _ _ b0 75 (rowN 29 (frC X (.slice pg k cg))) (0,0) _ rfl s3 Tryz.underlying75 rfl (by rw [rowN_size];exact Hs29.out)) rfl ⟨?_,?_,s2⟩
  ·obtain⟨g1,g2,g3,g4,g5,g6,g7⟩:=HG.out
   exact⟨X,k,pg,cg,U,rfl,g1,g2,HG3.out.kept (Kept.setRow _ _ _) (fun a hn ha=>HN0.out hn a ha),g4,fun e=>absurd e H0.out,g6,g7⟩
  ·exact s1
structure MdR(w:World)(P:FyP)(ab g:Nat)(Z:Nat->Smp)(c:Cch)(d:Dsk)(w':World):Prop where
 all:w'.heap[ab]?=some (.cells #[.pointer (some ⟨P.bb,0,none⟩),.pointer (some ⟨P.dm+1,0,none⟩),.pointer (some ⟨P.fb,0,none⟩),.slice (some ⟨g,0,none⟩) P.NI P.NI] 65 (0,0))
 fy:FyS P w' c d 0 0
 pk:Pkd P.sz P.n Z P.F
 hD:P.D=plD (mtsD Z) P.sz P.n
 hI:P.NI=totalAt (frD (mtsD Z)) P.sz P.n
 hN:P.N=pgs P.NI
 old:Old w w'
 new:∀x,P.wr x->w.heap.size<=x/\x<ab
 bnew:∀x,P.bk x->w.heap.size<=x
def MadeR(w:World)(sz:Int)(n:Nat)(L:Nat->Smp)(sl rt:Int)(e:Ending)(w':World):Prop:=
 ∃Z0,(∀i,i<min n 8->SmFew (Z0 i)/\FewOf (L i) (Z0 i)) /\
  ((e = .returned (.pointer none)/\Old w w'/\¬(PkOk sz (min n 8) Z0/\1<=sl/\sl<=1024/\0<=rt/\rt<=8)) \/
   (24<=sz/\sz<=96/\1<=sl/\sl<=1024/\0<=rt/\rt<=8/\∃P ab g Z,e = .returned (.pointer (some ⟨ab,0,none⟩))/\P.sz=sz.toNat/\P.n=min n 8/\Ordd Z0 (min n 8) Z/\MdR w P ab g Z (cc0 sl.toNat rt.toNat) (dk0 P.NI P.F) w'))
theorem pgs_room(n:Nat):n<=64*pgs n:=by unfold pgs;omega
set_option maxHeartbeats 4000000 in
theorem made18_any(sz:Int)(q:Option Addr)(n c:Nat)(L:Nat->Smp)(sl rt:Int)(w:World)(hs:SmsS w q n L):
  Calls Tryz.prog 23 #[.int .i64 sz,.slice q n c,.int .i64 sl,.int .i64 rt] w (MadeR w sz n L sl rt):=by
 have HFw:=zH (Few15_any q n c L w hs)
 obtain⟨k,hk⟩:∃k,k=min n 8:=⟨_,rfl⟩
 have hk8:k<=8:=by omega
 unfold FewsR at HFw
 unfold MadeR
 rw [←hk] at HFw ⊢
 clear hs hk
 go_enter Tryz.func23,Tryz.ntmps23
 go_wp2_with fail
 refine HFw.out.mono ?_
 rintro e V1 ⟨p1,c1,Z0,rfl,hsm,hfo,o1⟩
 have HPk:=zH (Pack_any sz p1 k c1 Z0 V1 hsm (by omega))
 have HFo:=zH hfo
 have HO1:=zH o1
 clear hsm hfo o1 HFw
 go_wp2_with fail
 refine HPk.out.mono ?_
 intro e V2 hp
 rcases pack_is hp with ⟨er,h0,rfl,o2,hno⟩ | ⟨h24,h96,hall,Z,g,F,rfl,hpk,hord,hfs⟩
 ·have HE:=zH (HO1.out.trans o2)
  have HNo:=zH hno
  have hd:(er != 0)=true:=by simpa using h0
  clear hp o2 hno h0 HPk
  go_wp2_with fail
  go_ret
  exact⟨Z0,HFo.out,.inl ⟨rfl,HE.out,fun h=>HNo.out h.1⟩⟩
 have htot:=hpk.tot
 have hbn:=hpk.bkN
 obtain⟨N,hN⟩:∃N,N=totalAt (frD (mtsD Z)) sz.toNat k:=⟨_,rfl⟩
 rw [←hN] at hfs htot hbn ⊢
 have hby:=hbn.byt
 have hsl:∀V,Old V2 V->SlU V (some ⟨g,0,none⟩) N F:=fun V hV=>((show SlU V2 (some ⟨g,0,none⟩) N F from fun _=>⟨g,0,rfl,hfs.row.lt,fun j hj=>by rw [Nat.zero_add];exact hfs.row.at_ j hj⟩).old hV)
 have HPa:=zH (Parse_any2 (some ⟨g,0,none⟩) N N F V2 (hsl _ (Old.refl _)) hby (Nat.le_refl _) (by unfold maxLen;omega) (by omega))
 have HDn:=zH (fun V (hV:Old V2 V)=>DNew_ok (some ⟨g,0,none⟩) N N F V (hsl V hV) htot (Nat.le_refl _) hby)
 have HPp:Hid (∀e V,PrsR2 V2 F N e V->∃bb q c im ci,e = .returned (.tuple #[.pointer (some ⟨bb,0,none⟩),.int .i64 0])/\BkB V bb sz.toNat k N q c im ci (plD (mtsD Z) sz.toNat k) F/\Old V2 V/\∀x,bkX bb q k im N x->V2.heap.size<=x):=zH fun e V h=>by
  have hld:=hpk.ld
  rw [hN] at h ⊢
  exact parse_packed2 (by omega) (by omega) (by omega) hpk.dir hld h
 have HPK:=zH hpk
 have HBn:=zH hbn
 have HOr:=zH hord
 have HN:=zH hN
 have HO2:=zH (HO1.out.trans hfs.old)
 have HZ:=zH (And.intro h24 h96)
 have hz0:0<sz.toNat:=by omega
 have hpg:pgs N<=65536:=by unfold pgs;omega
 clear hp hpk hord hfs hN hall hbn hby hsl HPk HO1 h24 h96
 obtain⟨z,hz⟩:∃z,z=sz.toNat:=⟨_,rfl⟩
 rw [←hz] at HPp HPK HBn HN hz0
 have HSz:=zH hz
 clear hz
 go_wp2_with fail
 refine HPa.out.mono ?_
 intro e V3 h3
 obtain⟨bb,q3,c3,im,ci,rfl,hbk,o3,hbn3⟩:=HPp.out e V3 h3
 have HBn3:=zH (fun x hx=>Nat.le_trans HO2.out.size (hbn3 x hx))
 have HBk:=zH hbk
 have HO3:=zH (HO2.out.trans o3)
 have HD3:=zH (HDn.out V3 o3)
 clear h3 hbk o3 hbn3 HPa HPp HDn HO2
 go_wp2_with fail
 refine HD3.out.mono ?_
 rintro e V4 ⟨dm,rfl,hlt,hdk,o4⟩
 have HL:=zH hlt
 have HDk:=zH hdk
 have HO4:=zH o4
 clear hlt hdk o4 HD3
 by_cases hbad:sl<1\/1024<sl\/rt<0\/8<rt
 ·have HCn:=zH (cNew_bad (dm+1) sl rt V4 hbad)
  have HB:=zH hbad
  have HE:=zH (HO3.out.trans HO4.out)
  clear hbad
  go_wp2_with fail
  refine HCn.out.mono ?_
  rintro e V5 ⟨rfl,rfl⟩
  go_wp2_with fail
  go_ret
  exact⟨Z0,HFo.out,.inl ⟨rfl,HE.out,fun h=>by have:=HB.out;omega⟩⟩
 obtain⟨sn,rfl⟩:∃sn:Nat,sl=sn:=⟨sl.toNat,by omega⟩
 obtain⟨rn,rfl⟩:∃rn:Nat,rt=rn:=⟨rt.toNat,by omega⟩
 have HB:=zH (show (1<=sn/\sn<=1024/\rn<=8) by omega)
 have HCn:=zH (cNew_ok (dm+1) sn rn (pgs N) V4 (by omega) (by omega) (by omega) hpg)
 clear hbad
 go_wp2_with fail
 refine HCn.out.mono ?_
 rintro e V5 ⟨rfl,hs5,hcc,o5⟩
 have HO5:=zH o5
 have HS5:=zH hs5
 have HCc:=zH hcc
 obtain⟨cb,hcb⟩:∃cb,cb=V4.heap.size+2:=⟨_,rfl⟩
 have hc4:=hcc.cells.2.2.2.2.1
 have HFn:=zH (fNew_ok bb (V4.heap.size+2) (dm+1) z V5 ((HBk.out.old (HO4.out.trans o5)).size_.1) hz0 hc4)
 rw [←hcb] at HFn
 have HCb:=zH hcb
 rw [←hcb]
 clear hs5 hcc o5 hc4 hcb HCn
 go_wp2_with fail
 refine HFn.out.mono ?_
 rintro e V6 ⟨rfl,hft,hs6,o6⟩
 obtain⟨fb,hfb⟩:∃fb,fb=V5.heap.size:=⟨_,rfl⟩
 rw [←hfb] at hft hs6 ⊢
 obtain⟨V7,hV7⟩:∃V7,V7=V6.alloc (.cells #[.pointer (some ⟨bb,0,none⟩),.pointer (some ⟨dm+1,0,none⟩),.pointer (some ⟨fb,0,none⟩),.slice (some ⟨g,0,none⟩) N N] 65):=⟨_,rfl⟩
 have o7:Old V6 V7:=by rw [hV7];exact Old.alloc _ _
 have hall:V7.heap[V6.heap.size]?=some (.cells #[.pointer (some ⟨bb,0,none⟩),.pointer (some ⟨dm+1,0,none⟩),.pointer (some ⟨fb,0,none⟩),.slice (some ⟨g,0,none⟩) N N] 65 (0,0)):=by rw [hV7];exact heap_alloc_new _ _
 have HMd:Hid (MdR w ⟨fb,V4.heap.size,dm,V3.heap.size,pgs N,bb,z,k,N,q3,c3,im,ci,V3.heap.size,plD (mtsD Z) z k,F⟩ V6.heap.size g Z (cc0 sn rn) (dk0 N F) V7):=zH (by
  have s5:=HS5.out
  have hd1:=HDk.out.ltb
  have hd2:=HDk.out.map.lt
  have hl:=HL.out
  have hw:=(HO3.out).size
  have o57:=o6.trans o7
  have ocb:=HCb.out
  rw [ocb] at hft
  refine⟨hall,⟨hft.old o7,⟨HCc.out.old o57,(HDk.out.old HO5.out).old o57,rfl,⟨by show dm+1<V4.heap.size;omega,by show dm<V4.heap.size;omega,fun a _ ha=>by cases ha;show V3.heap.size<V4.heap.size;omega⟩,by have:=o57.size;show V4.heap.size+3<=_;omega⟩,fun i s hs=>(by(have h0:(none:Option Slt)=some s:=hs);cases h0),((HBk.out.old HO4.out).old HO5.out).old o57,HBn.out,fun x hx=>HBk.out.lts x hx,?_,pgs_room N,?_⟩,HPK.out,rfl,HN.out,rfl,(((HO3.out.trans HO4.out).trans HO5.out).trans o57),?_,HBn3.out⟩
  ·dsimp only
   omega
  ·have:=o57.size
   dsimp only
   omega
  ·intro x hx
   unfold FyP.wr at hx
   dsimp only at hx
   have:=HO3.out.size
   omega)
 have HV7:=zH hV7
 have HZ2:=zH (show z=sz.toNat from HSz.out)
 clear hft hs6 o6 hfb hV7 o7 hall HFn HCc HDk HBk HPK HBn HL HO3 HO4 HO5 HS5
 go_wp2_with fail
 go_ret
 rw [←HV7.out]
 exact⟨Z0,HFo.out,.inr ⟨HZ.out.1,HZ.out.2,by have:=HB.out;omega,by have:=HB.out;omega,by have:=HB.out;omega,by have:=HB.out;omega,_,_,g,Z,rfl,HZ2.out,rfl,HOr.out,by rw [Int.toNat_natCast,Int.toNat_natCast];exact HMd.out⟩⟩
theorem clean_fet{P:FyP}{W:World}{c:Cch}{d:Dsk}{a m:Int}{Z:Nat->Smp}(h:FyS P W c d a m)(hc:ClnC (padF P.NI P.F) c.S)(hd:ClnD (padF P.NI P.F) P.N d)(pk:Pkd P.sz P.n Z P.F)(hD:P.D=plD (mtsD Z) P.sz P.n){i ch bl:Int}(hw:whI P.n P.D i ch bl=0):
  ∃G c' d',spanR c d (frAt P.sz P.D i.toNat (whQ P.D i ch bl)) P.sz=⟨some G,c',d'⟩/\(∀j,j<P.sz->G j=P.F (frAt P.sz P.D i.toNat (whQ P.D i ch bl)+j))/\ClnC (padF P.NI P.F) c'.S/\ClnD (padF P.NI P.F) P.N d'/\fetI P i ch bl (some G)=0:=by
 obtain⟨G,c',d',h1,h2,h3,h4⟩:=span_clean (at_:=frAt P.sz P.D i.toNat (whQ P.D i ch bl)) (n:=P.sz) (I:=padF P.NI P.F) (N:=P.N) (h.place hw) (fun j _=>by
  unfold padF
  split
  ·exact h.bn.byt j (by omega)
  ·omega) hc hd
 obtain⟨k,cc,b,rfl,rfl,rfl,k1,k2,k3⟩:=whI_ok hw
 have hpl:=(h.bn.pl k _ k1 (whQ_lt k2 k3)).2
 have hg:∀j,j<P.sz->G j=P.F (frAt P.sz P.D (k:Int).toNat (whQ P.D k cc b)+j):=fun j hj=>by
  rw [h2 j hj]
  unfold padF
  rw [if_pos (by unfold frAt;rw [Int.toNat_natCast];omega)]
 refine⟨G,c',d',h1,hg,h3,h4,?_⟩
 show openI _ (lst G P.sz)=0
 rw [lst_ext hg,Int.toNat_natCast]
 have:=pk.good W (k:=k) (c:=cc) (b:=b) k1 (by rw [←hD];exact k2) (by rw [←hD];exact k3)
 rw [←hD] at this
 exact this
structure RunC(w:World)(P:FyP)(ab g:Nat)(a m:Int)(W:World):Prop where
 ex:∃c d,FyS P W c d a m/\ClnC (padF P.NI P.F) c.S/\ClnD (padF P.NI P.F) P.N d
 all:W.heap[ab]?=some (.cells #[.pointer (some ⟨P.bb,0,none⟩),.pointer (some ⟨P.dm+1,0,none⟩),.pointer (some ⟨P.fb,0,none⟩),.slice (some ⟨g,0,none⟩) P.NI P.NI] 65 (0,0))
 old:Old w W
 new:∀x,P.wr x->w.heap.size<=x/\x<ab
namespace RunC
variable {w W V:World} {P:FyP} {ab g:Nat} {a m:Int}
theorem on(h:RunC w P ab g a m W)(o:Old W V):RunC w P ab g a m V:=by
 obtain⟨c,d,h1,h2⟩:=h.ex
 exact⟨⟨c,d,h1.old o,h2⟩,(o.block _ (lt_of_block h.all)).trans h.all,h.old.trans o,h.new⟩
theorem cells(h:RunC w P ab g a m W):W.cell? ⟨ab,0,none⟩=some (.pointer (some ⟨P.bb,0,none⟩))/\W.cell? ⟨ab,2,none⟩=some (.pointer (some ⟨P.fb,0,none⟩)):=by
 have:=h.all
 exact⟨by simp [World.cell?,this],by simp [World.cell?,this]⟩
theorem ft(h:RunC w P ab g a m W):FtAt W P.fb (P.z0+2) P.bb a m:=by obtain⟨c,d,h1,_⟩:=h.ex;exact h1.ft
theorem start{n:Nat}{sl rt:Nat}{Z:Nat->Smp}(h:MdR w P ab g Z (cc0 sl rt) (dk0 P.NI P.F) W):RunC w P ab g 0 0 W:=
 ⟨⟨_,_,h.fy,fun i s hs=>(by(have h0:(none:Option Slt)=some s:=hs);cases h0),⟨fun _=>rfl,rfl,h.hN.symm⟩⟩,h.all,h.old,h.new⟩
theorem frame(h:RunC w P ab g a m W){Z:Nat->Smp}(pk:Pkd P.sz P.n Z P.F)(hD:P.D=plD (mtsD Z) P.sz P.n){i ch bl:Int}(hw:whI P.n P.D i ch bl=0):
  Calls Tryz.prog 27 #[.pointer (some ⟨P.fb,0,none⟩),.int .i64 i,.int .i64 ch,.int .i64 bl] W fun e V=>
   (∃X k p cap T,e = .returned (.tuple #[.agg (rowN 29 (frC X (.slice p k cap))),.int .i64 0])/\k<=cap/\cap<=maxLen/\SlF 2 V p k T/\Fits64 T/\FrP X k T /\
    Tells (lst (fun j=>P.F (frAt P.sz P.D i.toNat (whQ P.D i ch bl)+j)) P.sz) (enc X k T)/\∀F0 n0 T0,FrP F0 n0 T0->Tells (lst (fun j=>P.F (frAt P.sz P.D i.toNat (whQ P.D i ch bl)+j)) P.sz) (enc F0 n0 T0)->sameP X k T F0 n0 T0) /\
   RunC w P ab g (wrap64 (a+1)) m V:=by
 obtain⟨c,d,h1,h2,h3⟩:=h.ex
 obtain⟨G,c',d',e1,e2,e3,e4,e5⟩:=clean_fet h1 h2 h3 pk hD hw
 refine(fFrame_any P W c d a m h1 i ch bl hw).mono ?_
 rw [e1]
 rintro e V ⟨⟨X,k,p,cap,T,rfl,g1,g2,g3,g4,g5,g6,g7⟩,r2,r3⟩
 rw [show (⟨some G,c',d'⟩:Tkn).r=some G from rfl] at *
 rw [e5,if_pos rfl] at r2
 rw [e5] at g5 ⊢
 obtain⟨b,hb,k1,k2,k3⟩:=g5 rfl
 have hb:lst G P.sz=b:=Option.some.inj hb
 rw [←hb,lst_ext e2] at k2 k3
 refine⟨⟨X,k,p,cap,T,rfl,g1,g2,g3,g4,k1,k2,k3⟩,⟨⟨c',d',r2,e3,e4⟩,(r3.block ab ⟨lt_of_block h.all,fun hx=>by have:=(h.new _ hx).2;omega⟩).trans h.all,h.old.after r3 fun x hx=>⟨Nat.lt_of_lt_of_le hx h.old.size,fun hx2=>by have:=(h.new _ hx2).1;omega⟩,h.new⟩⟩
end RunC
structure ExP(S:Smp):Prop where
 s:S.s=⟨#[97]⟩
 r:S.r=1
 lp:S.lp=false
 a:S.a=0
 b:S.b=0
 n:S.n=1
 m:S.M 0=1
 x:S.X 0 0=5
namespace ExP
variable {S:Smp}
theorem check(h:ExP S):S.check=0:=by
 have hl:S.len=1:=by unfold Smp.len;rw [if_neg (by rw [h.n];omega),h.m];rfl
 have hn:nameB ⟨#[97]⟩=true:=nameB_yes ⟨⟨by decide,by decide⟩,fun i hi=>by
  have hi:i<1:=hi
  obtain rfl:i=0:=by omega
  decide⟩
 have h1:wrongI S.s S.len S.r S.n S.lp S.a S.b=0:=by
  rw [h.s,hl,h.r,h.n,h.lp,h.a,h.b]
  show wrongI ⟨#[97]⟩ 1 1 1 false 0 0=0
  unfold wrongI
  rw [hn,if_neg (by decide),if_neg (by decide),if_neg (by decide),if_pos (by unfold loopP;decide)]
 have h2:¬S.odd:=fun⟨k,hk,h'⟩=>by
  rw [h.n] at hk
  obtain rfl:k=0:=by omega
  exact h' rfl
 have h3:¬S.far:=fun⟨k,hk,i,hi,h'⟩=>by
  rw [h.n] at hk
  obtain rfl:k=0:=by omega
  rw [h.m] at hi
  obtain rfl:i=0:=by omega
  rw [h.x] at h'
  omega
 unfold Smp.check
 rw [h1,if_neg (by decide),if_neg h2,if_neg h3]
theorem pk{L:Nat->Smp}(h:ExP (L 0)):PkOk 24 1 L:=by
 have ha:allI L 1=0:=by
  refine allI_ok (by omega) ?_ fun⟨i,k,h1,h2,_⟩=>by omega
  rw [errTo_next rfl]
  exact h.check
 refine⟨by omega,by omega,ha,fun Z hz=>?_⟩
 obtain⟨m,hm,e⟩:=hz.frm 0 (by omega)
 obtain rfl:m=0:=by omega
 have hf:frD (mtsD Z) 0=1:=by
  unfold frD mtsD
  rw [e,smM_fr (Smp.check_v h.check),h.m,h.n]
  decide
 have h1:atTo (frD (mtsD Z)) 24 1 0=84:=rfl
 have h2:firstAt (frD (mtsD Z)) 24 1 0=96:=by unfold firstAt;rw [hf,h1];rfl
 show totalAt (frD (mtsD Z)) 24 1<=4194304
 unfold totalAt
 rw [atTo_succ,h2,hf]
 decide
end ExP
theorem exS_few{p q:Option Addr}{S:Smp}(h:FewOf (exS p q) S):ExP S where
 s:=by rw [h.s];exact if_neg (show ¬100<(⟨#[97]⟩:ByteArray).size by decide)
 r:=h.r
 lp:=h.lp
 a:=h.a
 b:=h.b
 n:=h.n
 m:=by rw [h.M];rfl
 x:=by rw [h.X];rfl
set_option maxHeartbeats 4000000 in
theorem awake18_any(w:World):Calls Tryz.prog 24 #[] w fun e w'=>e = .returned (.bool true)/\Old w w':=by
 have Hs29:Hid ((Tryz.prog.info? 75).map (·.size)=some 29):=zH (by kernel_rfl)
 obtain⟨W3,hW3⟩:∃W,W=(((w.alloc (.cells #[.int .i64 5] 3)).alloc (.cells #[.slice (some ⟨w.heap.size,0,none⟩) 1 1] 52)).alloc (.cells (exS (some ⟨w.heap.size+1,0,none⟩) (some ⟨w.heap.size,0,none⟩)).cells 50)):=⟨_,rfl⟩
 have ho:Old w W3:=by rw [hW3];exact((Old.alloc w _).alloc' _).alloc' _
 have hsm:SmsS W3 (some ⟨w.heap.size+1+1,0,none⟩) 1 (fun _=>exS (some ⟨w.heap.size+1,0,none⟩) (some ⟨w.heap.size,0,none⟩)):=by rw [hW3];exact exS_sms w _ _ _
 have HMd:=zH (made18_any 24 _ 1 1 _ 1 0 W3 hsm)
 have HO:=zH ho
 unfold exS Smp.cells at hW3
 have HW3:=zH hW3
 clear hW3 ho hsm
 go_enter Tryz.func24,Tryz.ntmps24
 go_wp2_with fail
 rw [←HW3.out]
 refine HMd.out.mono ?_
 rintro e V ⟨Z0,hfo,⟨rfl,_,hno⟩ | ⟨_,_,_,_,_,_,P,ab,g,Z,rfl,hz,hn,hord,hmd⟩⟩
 ·exact absurd ⟨(exS_few (hfo 0 (by decide)).2).pk,by omega,by omega,by omega,by omega⟩ hno
 have hr:=RunC.start (n:=0) hmd
 have hpk:=hmd.pk
 have hD:=hmd.hD
 have hn1:P.n=1:=hn
 have hwh:whI P.n P.D 0 0 0=0:=by
  have hv:=hpk.v 0 (by omega)
  have h1:=(hpk.bkN.ok 0 (by omega)).c1
  have h2:=(hpk.bkN.ok 0 (by omega)).n1
  rw [←hD] at h1 h2
  refine whI_at (k:=0) (c:=0) (b:=0) (by omega) (by omega) ?_
  unfold cnt
  omega
 have HRf:=zH (fun(V:World) (a m:Int) (h:RunC W3 P ab g a m V)=>h.frame hpk hD hwh)
 obtain⟨fb,hfb⟩:∃x,x=P.fb:=⟨_,rfl⟩
 have HC:=zH (fun(V:World) (a m:Int) (h:RunC W3 P ab g a m V)=>h.cells.2)
 have HFr:=zH (fun(V:World) (a m:Int) (h:RunC W3 P ab g a m V)=>fFrames_at P.fb (P.z0+2) P.bb a m V h.ft)
 have HMi:=zH (fun(V:World) (a m:Int) (h:RunC W3 P ab g a m V)=>fMissed_at P.fb (P.z0+2) P.bb a m V h.ft)
 rw [←hfb] at HRf HC HFr HMi
 have HR:=zH hr
 have c2:=HC.out _ _ _ hr
 clear hr hmd hpk hD hn hn1 hwh hz hord hfo hfb HMd HW3
 go_wp2_with fail
 refine(HRf.out _ _ _ HR.out).mono ?_
 rintro e V1 ⟨⟨X,k,p,cap,T,rfl,_⟩,hr1⟩
 have H1g:Hid ((rowN 29 (frC X (.slice p k cap))).all (·.oneCell')=true):=zH (frC_one _ _ rfl)
 obtain⟨V2,hV2⟩:∃x,x=V1.alloc (.cells (rowN 29 (frC X (.slice p k cap))) 75):=⟨_,rfl⟩
 have hr2:=hr1.on (V:=V2) (by rw [hV2];exact Old.alloc _ _)
 have HR2:=zH hr2
 have HV2:=zH hV2
 have c3:=HC.out _ _ _ hr2
 clear hr1 hr2 hV2 c2 HR
 go_wp2_with (with_reducible refine wpList_store_row rfl 75 _ _ rfl V1.heap.size (rowN 29 (frC X (.slice p k cap))) rfl rfl 75 _ (heap_alloc_new _ _) (by rw [rowN_size];exact Hs29.out) (by rw [rowN_size];kernel_rfl) H1g.out ?_;rw [World.setRow_alloc_new,←HV2.out])
 refine(HRf.out _ _ _ HR2.out).mono ?_
 rintro e V3 ⟨⟨X2,k2,p2,cap2,T2,rfl,_⟩,hr3⟩
 have H2g:Hid ((rowN 29 (frC X2 (.slice p2 k2 cap2))).all (·.oneCell')=true):=zH (frC_one _ _ rfl)
 obtain⟨V4,hV4⟩:∃x,x=V3.alloc (.cells (rowN 29 (frC X2 (.slice p2 k2 cap2))) 75):=⟨_,rfl⟩
 have hr4:=hr3.on (V:=V4) (by rw [hV4];exact Old.alloc _ _)
 rw [show wrap64 (wrap64 (0+1)+1)=2 from by rw [IntWalk.wrap64_in (0+1) (by omega),IntWalk.wrap64_in (0+1+1) (by omega)];rfl] at hr4
 have HR4:=zH hr4
 have HV4:=zH hV4
 have c4:=HC.out _ _ _ hr4
 clear hr3 hr4 hV4 c3 HR2 H1g
 go_wp2_with (with_reducible refine wpList_store_row rfl 75 _ _ rfl V3.heap.size (rowN 29 (frC X2 (.slice p2 k2 cap2))) rfl rfl 75 _ (heap_alloc_new _ _) (by rw [rowN_size];exact Hs29.out) (by rw [rowN_size];kernel_rfl) H2g.out ?_;rw [World.setRow_alloc_new,←HV4.out])
 refine(HFr.out _ _ _ HR4.out).mono ?_
 rintro e V5 ⟨rfl,rfl⟩
 go_wp2_with fail
 refine(HMi.out _ _ _ HR4.out).mono ?_
 rintro e V5 ⟨rfl,rfl⟩
 go_wp2_with fail
 go_ret
 exact⟨rfl,HO.out.trans HR4.out.old⟩
namespace RunC
variable {w W V:World} {P:FyP} {ab g:Nat} {a m:Int}
end RunC
structure GotB(W V:World)(nb:Nat)(X:Nat->Int)(k:Nat)(p:Option Addr)(cap:Nat)(T:Nat->Int):Prop where
 cells:CellsV V nb 29 (frC X (.slice p k cap))
 ge:W.heap.size<=nb
 k1:k<=cap
 k2:cap<=maxLen
 tn:SlF 2 V p k T
 ft:Fits64 T
theorem GotB.old{W V V2:World}{nb:Nat}{X:Nat->Int}{k:Nat}{p:Option Addr}{cap:Nat}{T:Nat->Int}(h:GotB W V nb X k p cap T)(o:Old V V2):GotB W V2 nb X k p cap T:=⟨h.cells.old o,h.ge,h.k1,h.k2,h.tn.old o,h.ft⟩
theorem but_new{w W:World}{P:FyP}{ab g:Nat}{a m:Int}(h:RunC w P ab g a m W)(z:Obj):P.but (W.alloc z) W.heap.size:=by
 refine⟨by simp,fun hx=>?_⟩
 have h1:=(h.new _ hx).2
 have h2:=lt_of_block h.all
 omega
theorem same_zero{X:Nat->Int}{k:Nat}{p:Option Addr}{cap:Nat}{T:Nat->Int}(w:World)(hk:k=0)(hX:∀j,X j=0)(hc:SlF 2 w p k T):Calls Tryz.prog 30 #[.agg (rowN 29 (frC X (.slice p k cap))),.agg (rowN 29 (frC (fun _=>0) (.slice none 0 0)))] w fun e w'=>e = .returned (.bool true)/\Old w w':=by
 have h:=Same_any X (fun _=>0) p none k 0 cap 0 T (fun _=>0) w hc (fun h=>absurd h (by omega)) (by unfold maxLen;omega) (Nat.zero_le _)
 rw [decide_eq_true (show sameP X k T (fun _=>0) 0 (fun _=>0) from⟨hk,fun j hj=>by omega,fun j _ _=>hX j⟩)] at h
 exact h
theorem same_yes{X Y:Nat->Int}{k n:Nat}{p q:Option Addr}{cap cap2:Nat}{T U:Nat->Int}(w:World)(h1:SlF 2 w p k T)(h2:SlF 2 w q n U)(h3:k<=maxLen)(h4:n<=maxLen)(hs:sameP X k T Y n U):Calls Tryz.prog 30 #[.agg (rowN 29 (frC X (.slice p k cap))),.agg (rowN 29 (frC Y (.slice q n cap2)))] w fun e w'=>e = .returned (.bool true)/\Old w w':=by
 have h:=Same_any X Y p q k n cap cap2 T U w h1 h2 h3 h4
 rw [decide_eq_true hs] at h
 exact h
open Go.ChangeAt
def SlFlt(w:World)(p:Option Addr)(n:Nat)(K G N Z:Nat->Int):Prop:=0<n->∃b o,p=some ⟨b,o,none⟩/\b<w.heap.size/\∀i,i<n->w.cell? ⟨b,o+i*4,none⟩=some (.int .i64 (K i))/\w.cell? ⟨b,o+i*4+1,none⟩=some (.int .i64 (G i))/\w.cell? ⟨b,o+i*4+2,none⟩=some (.int .i64 (N i))/\w.cell? ⟨b,o+i*4+3,none⟩=some (.int .u8 (Z i))
theorem SlFlt.old{w w':World}{p:Option Addr}{n:Nat}{K G N Z:Nat->Int}(h:SlFlt w p n K G N Z)(k:Old w w'):SlFlt w' p n K G N Z:=fun hn=>by
 obtain⟨b,o,h1,h2,h3⟩:=h hn
 refine⟨b,o,h1,Nat.lt_of_lt_of_le h2 k.size,fun i hi=>?_⟩
 obtain⟨a0,a1,a2,a3⟩:=h3 i hi
 exact⟨(k.cell (a:=⟨b,o+i*4,none⟩) h2).trans a0,(k.cell (a:=⟨b,o+i*4+1,none⟩) h2).trans a1,(k.cell (a:=⟨b,o+i*4+2,none⟩) h2).trans a2,(k.cell (a:=⟨b,o+i*4+3,none⟩) h2).trans a3⟩
theorem open_faults{H:Type}{enc:TypeId × Value->H}{W:World}{base:Nat}{v:Value}{d:DataW H}{p:List MemPlace}(hv:Value.okWide Tryz.prog W .any base 57 v)
  (h:DataW.Trod enc Tryz.prog W 0 (fun _=>true) true 57 v d p) (hlt:∀x∈p,x.block<W.heap.size):
  ∃q n cap K G N Z,v = .slice q n cap/\SlFlt W q n K G N Z/\(∀i,i<n->(-9223372036854775808<=N i/\N i<=9223372036854775807)/\(-9223372036854775808<=G i/\G i<=9223372036854775807)/\(-9223372036854775808<=K i/\K i<=9223372036854775807)/\0<=Z i/\Z i<=255)/\n<=9223372036854775807:=by
 obtain⟨q,n,cap,rfl,hnc,hcm,hc⟩:=open_structs Tryz.underlying57 Tryz.underlying136 (by kernel_rfl) (by kernel_rfl) (by decide) hv h hlt
 unfold maxLen at hcm
 rcases Nat.eq_zero_or_pos n with hn | hn
 ·subst hn
  exact⟨q,0,cap,fun _=>0,fun _=>0,fun _=>0,fun _=>0,rfl,fun h=>absurd h (by omega),fun i hi=>absurd hi (by omega),by omega⟩
 ·obtain⟨b,off,rfl,hb,hcell⟩:=hc hn
  have each:∀i,∃x:Int × Int × Int × Int,i<n->(W.cell? ⟨b,off+i*4,none⟩=some (.int .i64 x.1)/\W.cell? ⟨b,off+i*4+1,none⟩=some (.int .i64 x.2.1)/\W.cell? ⟨b,off+i*4+2,none⟩=some (.int .i64 x.2.2.1)/\W.cell? ⟨b,off+i*4+3,none⟩=some (.int .u8 x.2.2.2))/\(-9223372036854775808<=x.2.2.1/\x.2.2.1<=9223372036854775807)/\(-9223372036854775808<=x.2.1/\x.2.1<=9223372036854775807)/\(-9223372036854775808<=x.1/\x.1<=9223372036854775807)/\0<=x.2.2.2/\x.2.2.2<=255:=by
   intro i
   by_cases hi:i<n
   ·obtain⟨u0,y0,k0,c0,_,t0⟩:=hcell i hi 0 _ rfl
    obtain⟨u1,y1,k1,c1,_,t1⟩:=hcell i hi 1 _ rfl
    obtain⟨u2,y2,k2,c2,_,t2⟩:=hcell i hi 2 _ rfl
    obtain⟨u3,y3,k3,c3,_,t3⟩:=hcell i hi 3 _ rfl
    obtain⟨x0,e0,_,w0⟩:=DataW.trod_int Tryz.underlying3 t0
    obtain⟨x1,e1,_,w1⟩:=DataW.trod_int Tryz.underlying3 t1
    obtain⟨x2,e2,_,w2⟩:=DataW.trod_int Tryz.underlying3 t2
    obtain⟨x3,e3,_,w3⟩:=DataW.trod_int Tryz.underlying5 t3
    simp only [List.cons.injEq,and_true] at e0 e1 e2 e3
    subst e0 e1 e2 e3
    exact⟨(x0,x1,x2,x3),fun _=>⟨⟨c0,c1,c2,c3⟩,i64_of w2,i64_of w1,i64_of w0,bytes_of (xs:=[x3]) (fun y hy=>by rw [List.mem_singleton.1 hy];exact w3) x3 (by simp)⟩⟩
   ·exact⟨(0,0,0,0),fun h=>absurd h hi⟩
  obtain⟨X,hX⟩:=Classical.axiomOfChoice each
  exact⟨some ⟨b,off,none⟩,n,cap,fun i=>(X i).1,fun i=>(X i).2.1,fun i=>(X i).2.2.1,fun i=>(X i).2.2.2,rfl,fun _=>⟨b,off,rfl,hb,fun i hi=>(hX i hi).1⟩,fun i hi=>(hX i hi).2,by omega⟩
open Classical in
noncomputable def failI(d:Dsk)(i n:Int):Dsk:=if noPg d i then d else d.set i.toNat (Flt.mk n (d.F i.toNat).a (d.F i.toNat).x).norm
open Classical in
noncomputable def spoilI(d:Dsk)(i a x:Int):Dsk:=if noPg d i\/a<0\/63<a then d else d.set i.toNat (Flt.mk (d.F i.toNat).f a x).norm
noncomputable def layTo(d:Dsk)(P G A Z:Nat->Int):Nat->Dsk
 | 0=>d
 | k+1=>spoilI (failI (layTo d P G A Z k) (P k) (G k)) (P k) (A k) (Z k)
theorem SlFlt.one{w w':World}{p:Option Addr}{n m:Nat}{K G N Z:Nat->Int}(h:SlFlt w p n K G N Z)(k:Kept (fun j=>j<w.heap.size/\j≠m) w w')(hm:∀a,0<n->p=some a->a.block≠m):SlFlt w' p n K G N Z:=fun hn=>by
 obtain⟨b,o,h1,h2,h3⟩:=h hn
 have hx:b<w.heap.size/\b≠m:=⟨h2,fun e=>hm _ hn h1 (by rw [e])⟩
 refine⟨b,o,h1,Nat.lt_of_lt_of_le h2 k.size,fun i hi=>?_⟩
 obtain⟨a0,a1,a2,a3⟩:=h3 i hi
 exact⟨(k.cell (a:=⟨b,o+i*4,none⟩) hx).trans a0,(k.cell (a:=⟨b,o+i*4+1,none⟩) hx).trans a1,(k.cell (a:=⟨b,o+i*4+2,none⟩) hx).trans a2,(k.cell (a:=⟨b,o+i*4+3,none⟩) hx).trans a3⟩
theorem kept_two{w w1 w2:World}{m:Nat}(h:Kept (fun j=>j<w.heap.size/\j≠m) w w1)(k:Kept (fun j=>j<w1.heap.size/\j≠m) w1 w2):Kept (fun j=>j<w.heap.size/\j≠m) w w2:=
 h.trans (k.mono fun j hj=>⟨Nat.lt_of_lt_of_le hj.1 h.size,hj.2⟩)
theorem failI_N(d:Dsk)(i n:Int):(failI d i n).N=d.N:=by unfold failI;split <;> rfl
theorem fail_all(b m:Nat)(p:Option Addr)(c:Nat)(d:Dsk)(i n:Int)(w:World)(h:DkAt w b m p c d)(h1:-9223372036854775808<=n/\n<=9223372036854775807):
  Calls Tryz.prog 67 #[.pointer (some ⟨b,0,none⟩),.int .i64 i,.int .i64 n] w fun e w'=>(∃r,e = .returned (.int .i64 r))/\DkAt w' b m p c (failI d i n)/\Kept (fun j=>j<w.heap.size/\j≠m) w w':=by
 unfold failI
 by_cases hi:noPg d i
 ·rw [if_pos hi]
  refine(Fail_out b m p c d i n w h hi).mono ?_
  rintro e w' ⟨rfl,rfl⟩
  exact⟨⟨_,rfl⟩,h,(Old.refl w).but m⟩
 ·rw [if_neg hi]
  unfold noPg at hi
  obtain⟨k,rfl⟩:∃k:Nat,i=k:=⟨i.toNat,by omega⟩
  refine(Fail_ok b m p c d k n w h (by omega) h1).mono ?_
  rintro e w' ⟨rfl,h2,h3⟩
  rw [Int.toNat_natCast]
  exact⟨⟨_,rfl⟩,h2,h3⟩
theorem spoil_all(b m:Nat)(p:Option Addr)(c:Nat)(d:Dsk)(i n x:Int)(w:World)(h:DkAt w b m p c d)(hx:0<=x/\x<=255):
  Calls Tryz.prog 68 #[.pointer (some ⟨b,0,none⟩),.int .i64 i,.int .i64 n,.int .u8 x] w fun e w'=>(∃r,e = .returned (.int .i64 r))/\DkAt w' b m p c (spoilI d i n x)/\Kept (fun j=>j<w.heap.size/\j≠m) w w':=by
 unfold spoilI
 by_cases hi:noPg d i
 ·rw [if_pos (.inl hi)]
  refine(Spoil_out b m p c d i n x w h hi).mono ?_
  rintro e w' ⟨rfl,rfl⟩
  exact⟨⟨_,rfl⟩,h,(Old.refl w).but m⟩
 ·have hk:∃k:Nat,i=k/\k<d.N:=by unfold noPg at hi;exact⟨i.toNat,by omega,by omega⟩
  obtain⟨k,rfl,hk⟩:=hk
  by_cases hn:n<0\/63<n
  ·rw [if_pos (.inr hn)]
   refine(Spoil_arg b m p c d k n x w h hk hn).mono ?_
   rintro e w' ⟨rfl,rfl⟩
   exact⟨⟨_,rfl⟩,h,(Old.refl w).but m⟩
  ·rw [if_neg (fun e=>e.elim hi hn)]
   refine(Spoil_ok b m p c d k n x w h hk (by omega) hx).mono ?_
   rintro e w' ⟨rfl,h2,h3⟩
   rw [Int.toNat_natCast]
   exact⟨⟨_,rfl⟩,h2,h3⟩
set_option maxHeartbeats 4000000 in
theorem lay18_any(b m:Nat)(p:Option Addr)(c:Nat)(d:Dsk)(q:Option Addr)(n cap:Nat)(P G A Z:Nat->Int)(w:World)(h:DkAt w b m p c d)(hf:SlFlt w q n P G A Z)(hm:∀a,0<n->q=some a->a.block≠m)(hn:n<=9223372036854775807)
  (hb:∀i,i<n->(-9223372036854775808<=G i/\G i<=9223372036854775807)/\0<=Z i/\Z i<=255):
  Calls Tryz.prog 25 #[.pointer (some ⟨b,0,none⟩),.slice q n cap] w fun e w'=>e = .returned (.tuple #[])/\DkAt w' b m p c (layTo d P G A Z (min n 20))/\Kept (fun j=>j<w.heap.size/\j≠m) w w':=by
 have HK0:=zH ((Old.refl w).but m)
 have HD0:Hid (DkAt w b m p c (layTo d P G A Z 0)):=zH h
 have HF:=zH hf
 have HM:=zH hm
 have HB:=zH hb
 clear h hf hm hb
 go_enter Tryz.func25,Tryz.ntmps25
 go_wp2_with fail
 go_loopw [4] (fun iv wr=>∃k:Nat,k<=n/\k<=20/\iv = .int .i64 k/\Hid (DkAt wr b m p c (layTo d P G A Z k))/\Hid (Kept (fun j=>j<w.heap.size/\j≠m) w wr)) (fun i _=>20-(intOf i).toNat)
 case atStart=>exact⟨0,by omega,by omega,by go_num,HD0,HK0⟩
 case round=>
  clear HD0 HK0
  obtain⟨k,hk,hk20,rfl,HD,HK⟩:=hrel
  by_cases hkn:k<n
  ·have i1:(k:Int)<n:=by omega
   by_cases hk2:k<20
   ·have i2:(k:Int)<20:=by omega
    have i0:(0:Int)<=k:=by omega
    have hfl:=HF.out.one HK.out HM.out
    obtain⟨g,o,rfl,hg,hcs⟩:=hfl (by omega)
    obtain⟨c0,c1,c2,c3⟩:=hcs k hkn
    have hgm:g≠m:=HM.out ⟨g,o,none⟩ (by omega) rfl
    have HC:Hid (∀V,Kept (fun j=>j<wr.heap.size/\j≠m) wr V->V.cell? ⟨g,o+k*4,none⟩=some (.int .i64 (P k))/\V.cell? ⟨g,o+k*4+1,none⟩=some (.int .i64 (G k))/\V.cell? ⟨g,o+k*4+2,none⟩=some (.int .i64 (A k))/\V.cell? ⟨g,o+k*4+3,none⟩=some (.int .u8 (Z k))):=zH fun V kv=>
     ⟨(kv.cell (a:=⟨g,o+k*4,none⟩) ⟨hg,hgm⟩).trans c0,(kv.cell (a:=⟨g,o+k*4+1,none⟩) ⟨hg,hgm⟩).trans c1,(kv.cell (a:=⟨g,o+k*4+2,none⟩) ⟨hg,hgm⟩).trans c2,(kv.cell (a:=⟨g,o+k*4+3,none⟩) ⟨hg,hgm⟩).trans c3⟩
    have hd:Old wr wr.drew:=(Old.refl wr).drew
    have HDd:=zH (HD.out.old hd)
    have HKd:=zH (hd.but m)
    have hbk:=HB.out k hkn
    have HBk:=zH hbk
    clear hfl hg hcs c0 c1 c2 c3 hgm hd hbk
    go_upto_region 3 with (fail)
    refine wp_region_held_drew (S:=(fun V=>V.cell? ⟨g,o+k*4,none⟩=some (.int .i64 (P k))/\V.cell? ⟨g,o+k*4+1,none⟩=some (.int .i64 (G k)))) (by kernel_rfl) ?_ (fun hHeld=>?_)
    ·(try dsimp only);exact⟨(HC.out _ HKd.out).1,(HC.out _ HKd.out).2.1⟩
    refine wpU 0 rfl ?_;try simp only [Act.put,sA,sZ,sS]
    refine wpU 1 rfl ?_;try simp only [Act.put,sA,sZ,sS]
    refine wpU 2 rfl ?_;try simp only [Act.put,sA,sZ,sS]
    refine wpU 3 rfl ?_;try simp only [Act.put,sA,sZ,sS]
    refine wpU 4 rfl ?_;try simp only [Act.put,sA,sZ,sS]
    refine wpT 5 (v:=(.int .i64 (P k))) rfl (Or.inl ⟨by kernel_rfl,fun V' hSV=>by(try dsimp only at hSV);obtain⟨a0,a1⟩:=hSV;go_simp⟩) (by assumption) ?_;try simp only [Act.put,sA,sZ,sS]
    refine wpU 6 rfl ?_;try simp only [Act.put,sA,sZ,sS]
    refine wpU 7 rfl ?_;try simp only [Act.put,sA,sZ,sS]
    refine wpU 8 rfl ?_;try simp only [Act.put,sA,sZ,sS]
    refine wpU 9 rfl ?_;try simp only [Act.put,sA,sZ,sS]
    refine wpT 10 (v:=(.int .i64 (G k))) rfl (Or.inl ⟨by kernel_rfl,fun V' hSV=>by(try dsimp only at hSV);obtain⟨a0,a1⟩:=hSV;go_simp⟩) (by assumption) ?_;try simp only [Act.put,sA,sZ,sS]
    refine wpR 11 rfl (fun K hK=>?_)
    go_simp
    refine(fail_all b m p c _ (P k) (G k) _ HDd.out HBk.out.1).mono ?_
    rintro e V1 ⟨⟨r1,rfl⟩,d1,k1⟩
    have HD1:=zH d1
    have HK1:=zH (kept_two HKd.out k1)
    clear d1 k1
    go_wp2_with fail
    refine hK.out _ _ ?_ (fun hHeld=>?_)
    ·(try dsimp only);exact⟨(HC.out _ HK1.out).1,(HC.out _ HK1.out).2.1⟩
    clear hK K
    try simp only [Act.put,sA,sZ,sS]
    refine wpAnyH_done (by kernel_rfl) ?_ _
    have hd:Old V1 V1.drew:=(Old.refl V1).drew
    have HD2:=zH (HD1.out.old hd)
    have HKd2:=zH (hd.but m)
    have HK2:=zH (kept_two HK1.out HKd2.out)
    clear hd HD1 HDd
    go_upto_region 4 with (fail)
    refine wp_region_held_drew (S:=(fun V=>V.cell? ⟨g,o+k*4,none⟩=some (.int .i64 (P k))/\V.cell? ⟨g,o+k*4+2,none⟩=some (.int .i64 (A k))/\V.cell? ⟨g,o+k*4+3,none⟩=some (.int .u8 (Z k)))) (by kernel_rfl) ?_ (fun hHeld=>?_)
    ·(try dsimp only);exact⟨(HC.out _ HK2.out).1,(HC.out _ HK2.out).2.2⟩
    refine wpU 0 rfl ?_;try simp only [Act.put,sA,sZ,sS]
    refine wpU 1 rfl ?_;try simp only [Act.put,sA,sZ,sS]
    refine wpU 2 rfl ?_;try simp only [Act.put,sA,sZ,sS]
    refine wpU 3 rfl ?_;try simp only [Act.put,sA,sZ,sS]
    refine wpU 4 rfl ?_;try simp only [Act.put,sA,sZ,sS]
    refine wpT 5 (v:=(.int .i64 (P k))) rfl (Or.inl ⟨by kernel_rfl,fun V' hSV=>by(try dsimp only at hSV);obtain⟨a0,a1,a2⟩:=hSV;go_simp⟩) (by assumption) ?_;try simp only [Act.put,sA,sZ,sS]
    refine wpU 6 rfl ?_;try simp only [Act.put,sA,sZ,sS]
    refine wpU 7 rfl ?_;try simp only [Act.put,sA,sZ,sS]
    refine wpU 8 rfl ?_;try simp only [Act.put,sA,sZ,sS]
    refine wpU 9 rfl ?_;try simp only [Act.put,sA,sZ,sS]
    refine wpT 10 (v:=(.int .i64 (A k))) rfl (Or.inl ⟨by kernel_rfl,fun V' hSV=>by(try dsimp only at hSV);obtain⟨a0,a1,a2⟩:=hSV;go_simp⟩) (by assumption) ?_;try simp only [Act.put,sA,sZ,sS]
    refine wpU 11 rfl ?_;try simp only [Act.put,sA,sZ,sS]
    refine wpU 12 rfl ?_;try simp only [Act.put,sA,sZ,sS]
    refine wpU 13 rfl ?_;try simp only [Act.put,sA,sZ,sS]
    refine wpU 14 rfl ?_;try simp only [Act.put,sA,sZ,sS]
    refine wpT 15 (v:=(.int .u8 (Z k))) rfl (Or.inl ⟨by kernel_rfl,fun V' hSV=>by(try dsimp only at hSV);obtain⟨a0,a1,a2⟩:=hSV;go_simp⟩) (by assumption) ?_;try simp only [Act.put,sA,sZ,sS]
    refine wpR 16 rfl (fun K hK=>?_)
    go_simp
    refine(spoil_all b m p c _ (P k) (A k) (Z k) _ HD2.out HBk.out.2).mono ?_
    rintro e V2 ⟨⟨r2,rfl⟩,d2,k2⟩
    have HD3:Hid (DkAt V2 b m p c (layTo d P G A Z (k+1))):=zH d2
    have HK3:=zH (kept_two HK2.out k2)
    clear d2 k2
    go_wp2_with fail
    refine hK.out _ _ ?_ (fun hHeld=>?_)
    ·(try dsimp only);exact⟨(HC.out _ HK3.out).1,(HC.out _ HK3.out).2.2⟩
    clear hK K
    try simp only [Act.put,sA,sZ,sS]
    refine wpAnyH_done (by kernel_rfl) ?_ _
    have HK4:=zH (kept_two HK.out HK3.out)
    clear HD2 HC
    go_wp2_with fail
    go_roundw
    case rel=>exact⟨k+1,by omega,by omega,by go_num,HD3,HK4⟩
    case measure=>simp [intOf];omega
   ·have i2:¬(k:Int)<20:=by omega
    obtain rfl:k=20:=by omega
    have e:min n 20=20:=by omega
    have HE2:=zH (And.intro HD.out HK.out)
    have HE:=zH (show DkAt wr b m p c (layTo d P G A Z (min n 20))/\Kept (fun j=>j<w.heap.size/\j≠m) w wr by rw [e];exact⟨HD.out,HK.out⟩)
    clear HD HK hkn hk2 e
    go_wp2_with fail
    go_end0
    first | exact⟨rfl,HE.out⟩ | exact⟨rfl,HE2.out⟩
  ·have i1:¬(k:Int)<n:=by omega
   obtain rfl:k=n:=by omega
   have e:min k 20=k:=by omega
   have HE2:=zH (And.intro HD.out HK.out)
   have HE:=zH (show DkAt wr b m p c (layTo d P G A Z (min k 20))/\Kept (fun j=>j<w.heap.size/\j≠m) w wr by rw [e];exact⟨HD.out,HK.out⟩)
   clear HD HK e hkn
   go_wp2_with fail
   go_end0
   first | exact⟨rfl,HE.out⟩ | exact⟨rfl,HE2.out⟩
theorem cell_map{w:World}{b clock:Nat}{es}(h:w.heap[b]?=some (.map es clock))(o:Nat):w.cell? ⟨b,o,none⟩=none:=by simp [World.cell?,h]
theorem FyS.notU{P:FyP}{W:World}{c:Cch}{d:Dsk}{a m:Int}(h:FyS P W c d a m)(x:Nat)(hx:P.wr x):notU W x:=fun v hv=>by
 rcases hx with rfl | rfl | rfl | rfl | rfl | rfl
 ·rw [h.ft.cells.1] at hv;cases hv
 ·have:=h.ck.cc.blk
  rw [cell_of_row _ _ _ _ _ _ this] at hv
  simp at hv
 ·obtain⟨gs,h1,_⟩:=h.ck.cc.slots
  have h0:=h.ck.cc.num.1
  rw [h1.cell 0 (by omega)] at hv
  have hv:some (cellS (c.S 0) (gs 0) 0)=some (.int .u8 v):=hv
  cases hS:c.S 0 <;> rw [hS] at hv <;> cases hv
 ·obtain⟨D,⟨es,clock,h1,_⟩,_⟩:=h.ck.cc.map
  rw [cell_map h1] at hv;cases hv
 ·have:=h.ck.dk.blk
  rw [cell_of_row _ _ _ _ _ _ this] at hv
  simp at hv
 ·obtain⟨D,⟨es,clock,h1,_⟩,_⟩:=h.ck.dk.map
  rw [cell_map h1] at hv;cases hv
theorem FyS.faults{P:FyP}{W V:World}{c:Cch}{d d':Dsk}{a m:Int}(h:FyS P W c d a m)(hd:DkAt V (P.dm+1) P.dm (some ⟨P.pb,0,none⟩) P.N d')(k:Kept (fun j=>j<W.heap.size/\j≠P.dm) W V)(hN:d'.N=P.N):FyS P V c d' a m:=by
 have hl:=h.lo
 refine⟨h.ft.kept k ⟨h.ft.lt,by omega⟩,h.ck.disk (k.mono fun q hq=>⟨hq.1,hq.2.2⟩) hd hN,h.byt,h.bk.kept k (fun x hx=>⟨h.bk.lts x hx,by have:=h.bl x hx;omega⟩),h.bn,h.bl,h.lo,h.pg,Nat.lt_of_lt_of_le h.lt k.size⟩
def AllB(W:World)(P:FyP)(ab g:Nat):Prop:=W.heap[ab]?=some (.cells #[.pointer (some ⟨P.bb,0,none⟩),.pointer (some ⟨P.dm+1,0,none⟩),.pointer (some ⟨P.fb,0,none⟩),.slice (some ⟨g,0,none⟩) P.NI P.NI] 65 (0,0))
theorem AllB.cells{W:World}{P:FyP}{ab g:Nat}(h:AllB W P ab g):W.cell? ⟨ab,0,none⟩=some (.pointer (some ⟨P.bb,0,none⟩))/\W.cell? ⟨ab,1,none⟩=some (.pointer (some ⟨P.dm+1,0,none⟩))/\W.cell? ⟨ab,2,none⟩=some (.pointer (some ⟨P.fb,0,none⟩)):=by
 have h:W.heap[ab]?=_:=h
 exact⟨by simp [World.cell?,h],by simp [World.cell?,h],by simp [World.cell?,h]⟩
structure TwP(w:World)(P Q:FyP)(a1 a2:Nat):Prop where
 nP:∀x,P.wr x->w.heap.size<=x
 nQ:∀x,Q.wr x->w.heap.size<=x
 s1:∀x,P.wr x->¬(Q.wr x\/x=Q.pb\/Q.bk x)/\x≠a1/\x≠a2
 s2:∀x,Q.wr x->¬(P.wr x\/x=P.pb\/P.bk x)/\x≠a1/\x≠a2
structure TwS(w:World)(P Q:FyP)(a1 g1 a2 g2:Nat)(c:Cch)(d:Dsk)(a m:Int)(c2:Cch)(d2:Dsk)(W:World):Prop where
 p:FyS P W c d a m
 q:FyS Q W c2 d2 0 0
 b1:AllB W P a1 g1
 b2:AllB W Q a2 g2
 old:Old w W
 pl:TwP w P Q a1 a2
def but2(P Q:FyP)(W:World)(x:Nat):Prop:=x<W.heap.size/\¬P.wr x/\¬Q.wr x
namespace TwS
variable {w W V:World} {P Q:FyP} {a1 g1 a2 g2:Nat} {c c' c2 c2':Cch} {d d' d2 d2':Dsk} {a a' m m':Int}
theorem on(h:TwS w P Q a1 g1 a2 g2 c d a m c2 d2 W)(o:Old W V):TwS w P Q a1 g1 a2 g2 c d a m c2 d2 V:=
 ⟨h.p.old o,h.q.old o,(o.block _ (lt_of_block h.b1)).trans h.b1,(o.block _ (lt_of_block h.b2)).trans h.b2,h.old.trans o,h.pl⟩
theorem stepP(h:TwS w P Q a1 g1 a2 g2 c d a m c2 d2 W)(f:FyS P V c' d' a' m')(k:Kept (P.but W) W V):TwS w P Q a1 g1 a2 g2 c' d' a' m' c2 d2 V:=
 ⟨f,h.q.kept k (fun x hx=>⟨h.q.lts x hx,fun hp=>(h.pl.s1 x hp).1 hx⟩) (fun x hx hn=>h.p.notU x (Classical.not_not.1 fun hp=>hn ⟨hx,hp⟩)),
  (k.block _ ⟨lt_of_block h.b1,fun hp=>(h.pl.s1 _ hp).2.1 rfl⟩).trans h.b1,(k.block _ ⟨lt_of_block h.b2,fun hp=>(h.pl.s1 _ hp).2.2 rfl⟩).trans h.b2,
  h.old.after k fun x hx=>⟨Nat.lt_of_lt_of_le hx h.old.size,fun hp=>by have:=h.pl.nP x hp;omega⟩,h.pl⟩
theorem stepQ(h:TwS w P Q a1 g1 a2 g2 c d a m c2 d2 W)(f:FyS Q V c2' d2' 0 0)(k:Kept (Q.but W) W V):TwS w P Q a1 g1 a2 g2 c d a m c2' d2' V:=
 ⟨h.p.kept k (fun x hx=>⟨h.p.lts x hx,fun hp=>(h.pl.s2 x hp).1 hx⟩) (fun x hx hn=>h.q.notU x (Classical.not_not.1 fun hp=>hn ⟨hx,hp⟩)),f,
  (k.block _ ⟨lt_of_block h.b1,fun hp=>(h.pl.s2 _ hp).2.1 rfl⟩).trans h.b1,(k.block _ ⟨lt_of_block h.b2,fun hp=>(h.pl.s2 _ hp).2.2 rfl⟩).trans h.b2,
  h.old.after k fun x hx=>⟨Nat.lt_of_lt_of_le hx h.old.size,fun hp=>by have:=h.pl.nQ x hp;omega⟩,h.pl⟩
theorem box(h1:TwS w P Q a1 g1 a2 g2 c d a m c2 d2 W)(h:TwS w P Q a1 g1 a2 g2 c' d' a' m' c2' d2' V){b:Nat}{x:Int}{V':World}(hb:W.heap.size<=b)(hx:V.cell? ⟨b,0,none⟩=some (.int .i64 x))(k:Kept (fun q=>q≠b) V V'):TwS w P Q a1 g1 a2 g2 c' d' a' m' c2' d2' V':=by
 have e1:=lt_of_block h1.b1
 have e2:=lt_of_block h1.b2
 have e3:=h1.old.size
 exact⟨h1.p.row h.p hb hx k,h1.q.row h.q hb hx k,(k.block a1 (by omega)).trans h.b1,(k.block a2 (by omega)).trans h.b2,h.old.after k fun q hq=>by omega,h.pl⟩
theorem but_new(h:TwS w P Q a1 g1 a2 g2 c d a m c2 d2 W)(b:Nat)(hb:W.heap.size<=b):¬P.wr b/\¬Q.wr b:=
 ⟨fun hx=>by have:=h.p.lts b (.inl hx);omega,fun hx=>by have:=h.q.lts b (.inl hx);omega⟩
end TwS
theorem but2_P{P Q:FyP}{W V V':World}(hs:W.heap.size<=V.heap.size)(k:Kept (P.but V) V V'):Kept (but2 P Q W) V V':=k.mono fun x hx=>⟨Nat.lt_of_lt_of_le hx.1 hs,hx.2.1⟩
theorem but2_Q{P Q:FyP}{W V V':World}(hs:W.heap.size<=V.heap.size)(k:Kept (Q.but V) V V'):Kept (but2 P Q W) V V':=k.mono fun x hx=>⟨Nat.lt_of_lt_of_le hx.1 hs,hx.2.2⟩
theorem but2_old{P Q:FyP}{W V V':World}(hs:W.heap.size<=V.heap.size)(o:Old V V'):Kept (but2 P Q W) V V':=o.kept fun x hx=>Nat.lt_of_lt_of_le hx.1 hs
theorem twin_start{w W1 W2:World}{P Q:FyP}{a1 g1 a2 g2:Nat}{Z Y:Nat->Smp}{c:Cch}{d d2:Dsk}(h1:MdR w P a1 g1 Z c d W1)(h2:MdR W1 Q a2 g2 Y c d2 W2):TwS w P Q a1 g1 a2 g2 c d 0 0 c d2 W2:=by
 have o:=h2.old
 have hl1:=lt_of_block h1.all
 have hbk:∀x,P.wr x\/x=P.pb\/P.bk x->x<W1.heap.size:=fun x hx=>h1.fy.lts x hx
 have hlo:=h2.fy.lo
 have hQL:W1.heap.size<=Q.L\/True:=.inr trivial
 have hq:∀x,Q.wr x->W1.heap.size<=x:=fun x hx=>(h2.new x hx).1
 have hpb:W1.heap.size<=Q.pb:=by
  have hb:=h2.bnew Q.bb (.inl rfl)
  have h3:=h2.fy.bl Q.bb (.inl rfl)
  omega
 have ha2:W1.heap.size<=a2:=by
  have h3:=h2.new Q.fb (.inl rfl)
  omega
 refine⟨h1.fy.old o,h2.fy,(o.block _ hl1).trans h1.all,h2.all,h1.old.trans o,⟨fun x hx=>(h1.new x hx).1,fun x hx=>?_,fun x hx=>?_,fun x hx=>?_⟩⟩
 ·have e1:=hq x hx
  have e2:=h1.old.size
  omega
 ·have e1:=hbk x (.inl hx)
  refine⟨?_,by have:=(h1.new x hx).2;omega,by omega⟩
  rintro (h | h | h)
  ·have:=hq x h;omega
  ·omega
  ·have:=h2.bnew x h;omega
 ·have e1:=hq x hx
  refine⟨fun h=>by have:=hbk x h;omega,by omega,by have:=(h2.new x hx).2;omega⟩
structure FaR(P:FyP)(c:Cch)(d:Dsk)(m:Int)(i ch bl:Int)(X:Nat->Int)(k:Nat)(p:Option Addr)(T:Nat->Int)(er:Int)(c':Cch)(d':Dsk)(m':Int):Prop where
 no:whI P.n P.D i ch bl≠0->er=whI P.n P.D i ch bl/\c'=c/\d'=d/\m'=m
 yes:whI P.n P.D i ch bl=0->c'=(spanR c d (frAt P.sz P.D i.toNat (whQ P.D i ch bl)) P.sz).c/\d'=(spanR c d (frAt P.sz P.D i.toNat (whQ P.D i ch bl)) P.sz).d/\er=fetI P i ch bl (spanR c d (frAt P.sz P.D i.toNat (whQ P.D i ch bl)) P.sz).r/\m'=(if er=0 then m else wrap64 (m+1)) /\
  (er=0->∃b,bsOf P (spanR c d (frAt P.sz P.D i.toNat (whQ P.D i ch bl)) P.sz).r=some b/\FrP X k T/\Tells b (enc X k T)/\∀F0 n0 T0,FrP F0 n0 T0->Tells b (enc F0 n0 T0)->sameP X k T F0 n0 T0)/\(er≠0->k=0/\p=none/\∀j,X j=0)
theorem TwS.frame{w W:World}{P Q:FyP}{a1 g1 a2 g2:Nat}{c c2:Cch}{d d2:Dsk}{a m:Int}(h:TwS w P Q a1 g1 a2 g2 c d a m c2 d2 W)(i ch bl:Int):
  Calls Tryz.prog 27 #[.pointer (some ⟨P.fb,0,none⟩),.int .i64 i,.int .i64 ch,.int .i64 bl] W fun e V=>
   ∃X k p cap T er c' d' a' m',e = .returned (.tuple #[.agg (rowN 29 (frC X (.slice p k cap))),.int .i64 er])/\k<=cap/\cap<=maxLen/\SlF 2 V p k T/\Fits64 T/\(0<k->∀b,p=some b->W.heap.size<=b.block)/\FaR P c d m i ch bl X k p T er c' d' m' /\
   TwS w P Q a1 g1 a2 g2 c' d' a' m' c2 d2 V/\Kept (P.but W) W V:=by
 by_cases hw:whI P.n P.D i ch bl=0
 ·refine(fFrame_any P W c d a m h.p i ch bl hw).mono ?_
  rintro e V ⟨⟨X,k,p,cap,T,rfl,g1',g2',g3,g4,g5,g6,g7⟩,r2,r3⟩
  exact⟨X,k,p,cap,T,_,_,_,_,_,rfl,g1',g2',g3,g4,g7,⟨fun h0=>absurd hw h0,fun _=>⟨rfl,rfl,rfl,rfl,g5,g6⟩⟩,h.stepP r2 r3,r3⟩
 ·refine(fFrame_out P W c d a m h.p i ch bl hw).mono ?_
  rintro e V ⟨rfl,o⟩
  exact⟨fun _=>0,0,none,0,fun _=>0,_,c,d,a,m,rfl,Nat.le_refl _,Nat.zero_le _,fun h=>absurd h (by omega),fun _=>by dsimp only;omega,fun h=>absurd h (by omega),⟨fun _=>⟨rfl,rfl,rfl,rfl⟩,fun h0=>absurd h0 hw⟩,h.on o,o.kept fun x hx=>hx.1⟩
structure TwF(P Q:FyP):Prop where
 sz:P.sz=24
 sz2:Q.sz=24
 n:Q.n=P.n
 F:Q.F=P.F
 D:∀i,i<P.n->Q.D i=P.D i
theorem whI_one{P Q:FyP}(h:TwF P Q)(i ch bl:Int):whI Q.n Q.D i ch bl=whI P.n P.D i ch bl:=by
 unfold whI
 rw [h.n]
 by_cases h1:i<0\/(P.n:Int)<=i
 ·rw [if_pos h1,if_pos h1]
 ·rw [if_neg h1,if_neg h1,h.D i.toNat (by omega)]
theorem place_one{P Q:FyP}(h:TwF P Q){i ch bl:Int}(hw:whI P.n P.D i ch bl=0):frAt Q.sz Q.D i.toNat (whQ Q.D i ch bl)=frAt P.sz P.D i.toNat (whQ P.D i ch bl)/\frSum Q.D Q.F i.toNat (whQ Q.D i ch bl)=frSum P.D P.F i.toNat (whQ P.D i ch bl):=by
 obtain⟨k,cc,b,rfl,rfl,rfl,k1,k2,k3⟩:=whI_ok hw
 have e:=h.D k k1
 unfold frAt frSum whQ
 simp only [Int.toNat_natCast,e,h.F,h.sz,h.sz2]
 exact⟨trivial,trivial⟩
theorem fetI_four(P:FyP)(i ch bl:Int)(r:Option (Nat->Int)):fetI P i ch bl r=0\/fetI P i ch bl r=8\/fetI P i ch bl r=9\/fetI P i ch bl r=4:=by
 cases r with
 | none=>exact .inr (.inl rfl)
 | some G=>
  show openI _ _=0\/openI _ _=8\/openI _ _=9\/openI _ _=4
  unfold openI
  split
  ·exact .inr (.inr (.inl rfl))
  ·split
   ·exact .inl rfl
   ·exact .inr (.inr (.inr rfl))
theorem spoilI_N(d:Dsk)(i a x:Int):(spoilI d i a x).N=d.N:=by unfold spoilI;split <;> rfl
theorem layTo_N(d:Dsk)(P G A Z:Nat->Int)(k:Nat):(layTo d P G A Z k).N=d.N:=by
 induction k with
 | zero=>rfl
 | succ k ih=>rw [layTo,spoilI_N,failI_N,ih]
theorem twin_facts{w W1 W2:World}{P Q:FyP}{a1 g1 a2 g2 k:Nat}{Z0 Y0 Z Y L:Nat->Smp}{c c2:Cch}{d d2:Dsk}(h1:MdR w P a1 g1 Z c d W1)(h2:MdR W1 Q a2 g2 Y c2 d2 W2)(s1:P.sz=24)(s2:Q.sz=24)(n1:P.n=k)(n2:Q.n=k)
  (f1:∀i,i<k->FewOf (L i) (Z0 i)) (f2:∀i,i<k->FewOf (L i) (Y0 i)) (o1:Ordd Z0 k Z) (o2:Ordd Y0 k Y):TwF P Q/\Q.NI=P.NI:=by
 have hl:=Ordd.twin (fun i hi=>few_like (f1 i hi) (f2 i hi)) o1 o2
 have p1:=h1.pk
 have p2:=h2.pk
 rw [s1,n1] at p1
 rw [s2,n2] at p2
 have hF:=Pkd.twin hl p1 p2
 refine⟨⟨s1,s2,by rw [n1,n2],hF.symm,fun i hi=>?_⟩,?_⟩
 ·rw [h1.hD,h2.hD,s1,s2,n1,n2]
  exact(pl_one hl i (by omega)).symm
 ·rw [h1.hI,h2.hI,s1,s2,n1,n2]
  exact(tot_one fun i hi=>frD_one hl i hi).symm
theorem stats_fields18 : (Tryz.prog.fieldsOf 85).toList = [{ name := "Hits", type := 3, offset := 0, embedded := false, tag := "", pkgPath := "", byteOffset := 0 }, { name := "Misses", type := 3, offset := 1, embedded := false, tag := "", pkgPath := "", byteOffset := 8 }, { name := "Tries", type := 3, offset := 2, embedded := false, tag := "", pkgPath := "", byteOffset := 16 }, { name := "Lost", type := 3, offset := 3, embedded := false, tag := "", pkgPath := "", byteOffset := 24 }] := by kernel_rfl
theorem eq_stats18(a b c d:Int)(w:World):(binOp .eql 85 (.agg #[.int .i64 a,.int .i64 b,.int .i64 c,.int .i64 d]) (.agg #[.int .i64 a,.int .i64 b,.int .i64 c,.int .i64 d])).run Tryz.prog w = .ok (.bool true) w:=by
 rw [run_eql_struct,run_equalIn_agg w 9999 85 _ _ (by kernel_rfl) (by kernel_rfl),stats_fields18]
 have h:=fun(w:World) (a b:Int)=>run_equalIn_int (P:=Tryz.prog) w 9998 3 .i64 .i64 a b Tryz.underlying3
 simp [Op.eqFields,Go.part,isAgg,run_underlying Tryz.underlying3,h,sizeOf]
theorem tw_set{w W V W8:World}{P Q:FyP}{a1 g1 a2 g2:Nat}{c c' c2 c2':Cch}{d d' d2 d2':Dsk}{a a' m m':Int}(h1:TwS w P Q a1 g1 a2 g2 c d a m c2 d2 W)(h:TwS w P Q a1 g1 a2 g2 c' d' a' m' c2' d2' V)(h8:W8.heap.size<=W.heap.size)(hK:Kept (but2 P Q W8) W8 V){nb:Nat}(hb:W.heap.size<=nb)(hc:CellsV V nb 29 (frC (fun _=>0) (.slice none 0 0)))
  {X:Nat->Int} {k:Nat} {p:Option Addr} {cap:Nat} {T:Nat->Int} (g1':k<=cap) (g2':cap<=maxLen) (g3:SlF 2 V p k T) (g4:Fits64 T) (g7:0<k->∀a,p=some a->a.block≠nb):
  TwS w P Q a1 g1 a2 g2 c' d' a' m' c2' d2' (V.setCells nb 0 (rowN 29 (frC X (.slice p k cap))).toList)/\Kept (but2 P Q W8) W8 (V.setCells nb 0 (rowN 29 (frC X (.slice p k cap))).toList)/\GotB W (V.setCells nb 0 (rowN 29 (frC X (.slice p k cap))).toList) nb X k p cap T:=by
 have k2:Kept (fun q=>q≠nb) V (V.setCells nb 0 (rowN 29 (frC X (.slice p k cap))).toList):=Kept.setCells V (b:=nb) (fun e=>e rfl) 0 _
 exact⟨h1.box h hb (hc.cell 0 (by omega)) k2,hK.trans (k2.mono fun x hx e=>by have:=hx.1;omega),cellsV_all hc _,hb,g1',g2',g3.kept k2 (fun a hn ha=>g7 hn a ha),g4⟩
theorem GotB.kept{W V V2:World}{nb:Nat}{X:Nat->Int}{k:Nat}{p:Option Addr}{cap:Nat}{T:Nat->Int}{K:Nat->Prop}(h:GotB W V nb X k p cap T)(o:Kept K V V2)(h1:K nb)(h2:0<k->∀a,p=some a->K a.block):GotB W V2 nb X k p cap T:=⟨h.cells.kept o h1,h.ge,h.k1,h.k2,h.tn.kept o (fun a hn ha=>h2 hn a ha),h.ft⟩
theorem op_set{W V:World}(o:Old W V){nb:Nat}(hb:W.heap.size<=nb)(hc:CellsV V nb 29 (frC (fun _=>0) (.slice none 0 0)))
  {X:Nat->Int} {k:Nat} {p:Option Addr} {cap:Nat} {T:Nat->Int} (g1':k<=cap) (g2':cap<=maxLen) (g3:SlF 2 V p k T) (g4:Fits64 T) (g7:0<k->∀a,p=some a->a.block≠nb):
  Old W (V.setCells nb 0 (rowN 29 (frC X (.slice p k cap))).toList)/\GotB W (V.setCells nb 0 (rowN 29 (frC X (.slice p k cap))).toList) nb X k p cap T:=by
 have k2:Kept (fun q=>q≠nb) V (V.setCells nb 0 (rowN 29 (frC X (.slice p k cap))).toList):=Kept.setCells V (b:=nb) (fun e=>e rfl) 0 _
 exact⟨o.after k2 fun q hq e=>by omega,cellsV_all hc _,hb,g1',g2',g3.kept k2 (fun a hn ha=>g7 hn a ha),g4⟩
theorem same_nought{X Y:Nat->Int}{k n:Nat}{T U:Nat->Int}(h1:k=0)(h2:n=0)(h3:∀j,X j=0)(h4:∀j,Y j=0):sameP X k T Y n U:=⟨by rw [h1,h2],fun j hj=>by omega,fun j _ _=>by rw [h3,h4]⟩
theorem SlF.ltb{w:World}{s n:Nat}{p:Option Addr}{F:Nat->Int}(h:SlF s w p n F)(hn:0<n)(a:Addr)(ha:p=some a):a.block<w.heap.size:=by
 obtain⟨g,o,e,h2,_⟩:=h hn
 rw [e] at ha
 cases ha
 exact h2
end Go.Proofs.YtjakgghbdojlbaaGreatDoor
