/- Texts joined: FetchA, FetchB, FetchC, Made18, Awk18, FetNob, FetH, FetCl. -/
import Derived.Deep.RegionHeld
import Derived.BigQuiet
import Derived.Test.YtanmbhakjfhhdaaGreatDoorPkAD
import Derived.Test.YtanmbhakjfhhdaaGreatDoorPkAI
import Derived.Test.YtanmbhakjfhhdaaGreatDoorPkAS
import Derived.Test.YtanmbhakjfhhdaaGreatDoorPkBA
import Derived.Test.YtanmbhakjfhhdaaGreatDoorPkBF
import Derived.Test.YtanmbhakjfhhdaaGreatDoorTk
namespace Go.Proofs.YtanmbhakjfhhdaaGreatDoor
set_option linter.unusedVariables false
set_option linter.unusedSimpArgs false
set_option maxRecDepth 100000
open Go.RowKit Go.ChangeShapes Go.WideShapes
def FtAt(w:World)(fb cb bb:Nat)(a m:Int):Prop:=w.heap[fb]?=some (.cells #[.pointer (some ⟨cb,0,none⟩),.pointer (some ⟨bb,0,none⟩),.int .i64 a,.int .i64 m] 92 (0,0))
namespace FtAt
variable {w w':World} {fb cb bb:Nat} {a m:Int}
theorem lt(h:FtAt w fb cb bb a m):fb<w.heap.size:=lt_of_block h
theorem kept{X:Nat->Prop}(h:FtAt w fb cb bb a m)(k:Kept X w w')(hX:X fb):FtAt w' fb cb bb a m:=(k.block _ hX).trans h
theorem old(h:FtAt w fb cb bb a m)(k:Old w w'):FtAt w' fb cb bb a m:=h.kept k h.lt
theorem cells(h:FtAt w fb cb bb a m):w.cell? ⟨fb,0,none⟩=some (.pointer (some ⟨cb,0,none⟩))/\w.cell? ⟨fb,1,none⟩=some (.pointer (some ⟨bb,0,none⟩))/\w.cell? ⟨fb,2,none⟩=some (.int .i64 a)/\w.cell? ⟨fb,3,none⟩=some (.int .i64 m)/\∀o,w.frozen? ⟨fb,o,none⟩=false:=by
 have h:w.heap[fb]?=some (.cells #[.pointer (some ⟨cb,0,none⟩),.pointer (some ⟨bb,0,none⟩),.int .i64 a,.int .i64 m] 92 (0,0)):=h
 refine⟨by simp [World.cell?,h],by simp [World.cell?,h],by simp [World.cell?,h],by simp [World.cell?,h],fun o=>by simp [World.frozen?,h]⟩
theorem asked(h:FtAt w fb cb bb a m)(x:Int):FtAt (w.setCell ⟨fb,2,none⟩ (.int .i64 x)) fb cb bb x m:=(heap_setCell_at h).trans rfl
theorem missed(h:FtAt w fb cb bb a m)(x:Int):FtAt (w.setCell ⟨fb,3,none⟩ (.int .i64 x)) fb cb bb a x:=(heap_setCell_at h).trans rfl
end FtAt
def NoFt(w:World)(v:Value):Prop:=v = .pointer none\/∃b,v = .pointer (some ⟨b,0,none⟩)/\b<w.heap.size/\w.cell? ⟨b,1,none⟩=some (.pointer none)
theorem NoFt.old{w w':World}{v:Value}(h:NoFt w v)(o:Old w w'):NoFt w' v:=by
 rcases h with h | ⟨b,h1,h2,h3⟩
 ·exact .inl h
 ·exact .inr ⟨b,h1,Nat.lt_of_lt_of_le h2 o.size,(o.cell (a:=⟨b,1,none⟩) h2).trans h3⟩
theorem fMade_no(v:Value)(w:World)(h:NoFt w v):Calls Tryz.prog 92 #[v] w fun e w'=>e = .returned (.bool false)/\w=w':=by
 rcases h with rfl | ⟨b,rfl,hb,hc⟩
 ·go_enter Tryz.func92,Tryz.ntmps92
  go_wp2
  go_ret
  exact⟨rfl,rfl⟩
 ·go_enter Tryz.func92,Tryz.ntmps92
  go_wp2
  go_ret
  exact⟨rfl,rfl⟩
theorem fMade_yes(b bb:Nat)(w:World)(hc:w.cell? ⟨b,1,none⟩=some (.pointer (some ⟨bb,0,none⟩))):Calls Tryz.prog 92 #[.pointer (some ⟨b,0,none⟩)] w fun e w'=>e = .returned (.bool true)/\w=w':=by
 go_enter Tryz.func92,Tryz.ntmps92
 go_wp2
 go_ret
 exact⟨rfl,rfl⟩
theorem fBank_no(v:Value)(w:World)(h:NoFt w v):Calls Tryz.prog 40 #[v] w fun e w'=>e = .returned (.pointer none)/\w=w':=by
 have H:=zH (fMade_no v w h)
 clear h
 go_enter Tryz.func40,Tryz.ntmps40
 go_wp2_with fail
 refine H.out.mono ?_
 rintro e w' ⟨rfl,rfl⟩
 go_wp2
 go_ret
 exact⟨rfl,rfl⟩
theorem fBank_at(fb cb bb:Nat)(a m:Int)(w:World)(h:FtAt w fb cb bb a m):Calls Tryz.prog 40 #[.pointer (some ⟨fb,0,none⟩)] w fun e w'=>e = .returned (.pointer (some ⟨bb,0,none⟩))/\w=w':=by
 obtain⟨c0,c1,c2,c3,_⟩:=h.cells
 have H:=zH (fMade_yes fb bb w c1)
 clear h
 go_enter Tryz.func40,Tryz.ntmps40
 go_wp2_with fail
 refine H.out.mono ?_
 rintro e w' ⟨rfl,rfl⟩
 go_wp2
 go_ret
 exact⟨rfl,rfl⟩
theorem fFrames_no(v:Value)(w:World)(h:NoFt w v):Calls Tryz.prog 38 #[v] w fun e w'=>e = .returned (.int .i64 0)/\w=w':=by
 have H:=zH (fMade_no v w h)
 clear h
 go_enter Tryz.func38,Tryz.ntmps38
 go_wp2_with fail
 refine H.out.mono ?_
 rintro e w' ⟨rfl,rfl⟩
 go_wp2
 go_ret
 exact⟨rfl,rfl⟩
theorem fFrames_at(fb cb bb:Nat)(a m:Int)(w:World)(h:FtAt w fb cb bb a m):Calls Tryz.prog 38 #[.pointer (some ⟨fb,0,none⟩)] w fun e w'=>e = .returned (.int .i64 a)/\w=w':=by
 obtain⟨c0,c1,c2,c3,_⟩:=h.cells
 have H:=zH (fMade_yes fb bb w c1)
 clear h
 go_enter Tryz.func38,Tryz.ntmps38
 go_wp2_with fail
 refine H.out.mono ?_
 rintro e w' ⟨rfl,rfl⟩
 go_wp2
 go_ret
 exact⟨rfl,rfl⟩
theorem fMissed_no(v:Value)(w:World)(h:NoFt w v):Calls Tryz.prog 39 #[v] w fun e w'=>e = .returned (.int .i64 0)/\w=w':=by
 have H:=zH (fMade_no v w h)
 clear h
 go_enter Tryz.func39,Tryz.ntmps39
 go_wp2_with fail
 refine H.out.mono ?_
 rintro e w' ⟨rfl,rfl⟩
 go_wp2
 go_ret
 exact⟨rfl,rfl⟩
theorem fMissed_at(fb cb bb:Nat)(a m:Int)(w:World)(h:FtAt w fb cb bb a m):Calls Tryz.prog 39 #[.pointer (some ⟨fb,0,none⟩)] w fun e w'=>e = .returned (.int .i64 m)/\w=w':=by
 obtain⟨c0,c1,c2,c3,_⟩:=h.cells
 have H:=zH (fMade_yes fb bb w c1)
 clear h
 go_enter Tryz.func39,Tryz.ntmps39
 go_wp2_with fail
 refine H.out.mono ?_
 rintro e w' ⟨rfl,rfl⟩
 go_wp2
 go_ret
 exact⟨rfl,rfl⟩
theorem cDisk_at(b db:Nat)(w:World)(hc:w.cell? ⟨b,4,none⟩=some (.pointer (some ⟨db,0,none⟩))):Calls Tryz.prog 99 #[.pointer (some ⟨b,0,none⟩)] w fun e w'=>e = .returned (.pointer (some ⟨db,0,none⟩))/\w=w':=by
 have H:=zH (cMade_yes b db w hc)
 go_enter Tryz.func99,Tryz.ntmps99
 go_wp2_with fail
 refine H.out.mono ?_
 rintro e w' ⟨rfl,rfl⟩
 go_wp2
 go_ret
 exact⟨rfl,rfl⟩
theorem fNew_nil(v:Value)(w:World):Calls Tryz.prog 44 #[.pointer none,v] w fun e w'=>e = .returned (.tuple #[.pointer none,.int .i64 1])/\w=w':=by
 have H:=zH (BSize_nil w)
 go_enter Tryz.func44,Tryz.ntmps44
 go_wp2_with fail
 refine H.out.mono ?_
 rintro e w' ⟨rfl,rfl⟩
 go_wp2_with fail
 go_ret2
 exact⟨rfl,rfl⟩
theorem fNew_ok(bb cb db:Nat)(sz:Nat)(w:World)(hb:w.cell? ⟨bb,0,none⟩=some (.int .i64 sz))(hz:0<sz)(hc:w.cell? ⟨cb,4,none⟩=some (.pointer (some ⟨db,0,none⟩))):Calls Tryz.prog 44 #[.pointer (some ⟨bb,0,none⟩),.pointer (some ⟨cb,0,none⟩)] w fun e w'=>
  e = .returned (.tuple #[.pointer (some ⟨w.heap.size,0,none⟩),.int .i64 0])/\FtAt w' w.heap.size cb bb 0 0/\w'.heap.size=w.heap.size+1/\Old w w':=by
 have H:=zH (BSize_at bb sz w hb)
 have HD:=zH (cDisk_at cb db w hc)
 have e0:((sz:Int) == 0)=false:=by simp;omega
 have hE:FtAt (w.alloc (.cells #[.pointer (some ⟨cb,0,none⟩),.pointer (some ⟨bb,0,none⟩),.int .i64 0,.int .i64 0] 92)) w.heap.size cb bb 0 0:=heap_alloc_new _ _
 have HE:=zH (And.intro hE (And.intro (show (w.alloc (.cells #[.pointer (some ⟨cb,0,none⟩),.pointer (some ⟨bb,0,none⟩),.int .i64 0,.int .i64 0] 92)).heap.size=w.heap.size+1 by simp) (Old.alloc w (.cells #[.pointer (some ⟨cb,0,none⟩),.pointer (some ⟨bb,0,none⟩),.int .i64 0,.int .i64 0] 92))))
 clear hE hb hc
 go_enter Tryz.func44,Tryz.ntmps44
 go_wp2_with fail
 refine H.out.mono ?_
 rintro e w' ⟨rfl,rfl⟩
 go_wp2_with fail
 refine HD.out.mono ?_
 rintro e w' ⟨rfl,rfl⟩
 go_wp2_with fail
 go_ret2
 exact⟨rfl,HE.out⟩
def notU(w:World)(q:Nat):Prop:=∀v,w.cell? ⟨q,0,none⟩≠some (.int .u8 v)
theorem SlotsAt.keptU{w w':World}{sb n z av:Nat}{S:Nat->Option Slt}{X:Nat->Prop}(h:SlotsAt w sb n z av S)(k:Kept X w w')(hb:X sb)(hU:∀q,q<w.heap.size->¬X q->notU w q):SlotsAt w' sb n z av S:=by
 obtain⟨gs,h1,h2⟩:=h
 refine⟨gs,h1.kept k hb,fun i hi s hs=>?_⟩
 obtain⟨h3,h4⟩:=h2 i hi s hs
 refine⟨h3,h4.kept k fun a _ ha=>?_⟩
 cases ha
 obtain⟨g,o,e1,e2,e3⟩:=h4 (by omega)
 cases e1
 exact Classical.byContradiction fun hx=>hU _ e2 hx _ (e3 0 (by omega))
theorem CkAt.keptU{w w':World}{z0 z av b sb hm db dm cd N:Nat}{p:Option Addr}{c:Cch}{d:Dsk}{X:Nat->Prop}(h:CkAt w z0 z av b sb hm db dm p cd N c d)(k:Kept X w w')(h1:X b)(h2:X sb)(h3:X hm)(h4:X db)(h5:X dm)(h6:∀a,p=some a->X a.block)(hU:∀q,q<w.heap.size->¬X q->notU w q):CkAt w' z0 z av b sb hm db dm p cd N c d:=
 ⟨⟨(k.block _ h1).trans h.cc.blk,h.cc.num,h.cc.slots.keptU k h2 hU,h.cc.map.kept k h3,h.cc.pgs,h.cc.uq,h.cc.rng⟩,h.dk.kept k h4 h5 (fun a _ ha=>h6 a ha),h.nN,h.lo,Nat.le_trans h.hi k.size⟩
theorem MtsS.kept{w w':World}{p:Option Addr}{n:Nat}{D:Nat->Mt}{X:Nat->Prop}(h:MtsS w p n D)(k:Kept X w w')(hX:∀a,0<n->p=some a->X a.block):MtsS w' p n D where
 cell:=fun hn=>by
  obtain⟨g,o,h1,h2,h3⟩:=h.cell hn
  exact⟨g,o,h1,Nat.lt_of_lt_of_le h2 k.size,fun i hi f v hv=>(k.cell (a:=⟨g,o+i*9+f,none⟩) (hX ⟨g,o,none⟩ hn h1)).trans (h3 i hi f v hv)⟩
 str:=h.str
def bkX(bb:Nat)(q:Option Addr)(n:Nat)(im:Option Addr)(NI:Nat)(x:Nat):Prop:=x=bb\/(0<n/\∃a,q=some a/\a.block=x)\/(0<NI/\∃a,im=some a/\a.block=x)
theorem BkB.kept{w w':World}{bb sz n N:Nat}{q:Option Addr}{c:Nat}{im:Option Addr}{ci:Nat}{D:Nat->Mt}{F:Nat->Int}{X:Nat->Prop}(h:BkB w bb sz n N q c im ci D F)(k:Kept X w w')(hX:∀x,bkX bb q n im N x->X x):BkB w' bb sz n N q c im ci D F:=
 ⟨(k.block _ (hX _ (.inl rfl))).trans h.blk,h.dir.kept k (fun a hn ha=>hX _ (.inr (.inl ⟨hn,a,ha,rfl⟩))),h.d1,h.d2,h.img.kept k (fun a hn ha=>hX _ (.inr (.inr ⟨hn,a,ha,rfl⟩))),h.i1,h.i2⟩
theorem BkB.lts{w:World}{bb sz n N:Nat}{q:Option Addr}{c:Nat}{im:Option Addr}{ci:Nat}{D:Nat->Mt}{F:Nat->Int}(h:BkB w bb sz n N q c im ci D F)(x:Nat)(hx:bkX bb q n im N x):x<w.heap.size:=by
 rcases hx with rfl | ⟨hn,a,ha,rfl⟩ | ⟨hn,a,ha,rfl⟩
 ·exact lt_of_block h.blk
 ·obtain⟨g,o,e,h2,_⟩:=h.dir.cell hn
  rw [e] at ha;cases ha;exact h2
 ·obtain⟨g,o,e,h2,_⟩:=h.img hn
  rw [e] at ha;cases ha;exact h2
structure FyP where
 fb:Nat
 z0:Nat
 dm:Nat
 pb:Nat
 N:Nat
 bb:Nat
 sz:Nat
 n:Nat
 NI:Nat
 q:Option Addr
 cq:Nat
 im:Option Addr
 ci:Nat
 L:Nat
 D:Nat->Mt
 F:Nat->Int
def FyP.wr(P:FyP)(x:Nat):Prop:=x=P.fb\/x=P.z0+2\/x=P.z0\/x=P.z0+1\/x=P.dm+1\/x=P.dm
def FyP.bk(P:FyP):Nat->Prop:=bkX P.bb P.q P.n P.im P.NI
def FyP.but(P:FyP)(w:World)(x:Nat):Prop:=x<w.heap.size/\¬P.wr x
structure FyS(P:FyP)(W:World)(c:Cch)(d:Dsk)(a m:Int):Prop where
 ft:FtAt W P.fb (P.z0+2) P.bb a m
 ck:CkAt W P.z0 (P.z0+3) (P.z0+2) (P.z0+2) P.z0 (P.z0+1) (P.dm+1) P.dm (some ⟨P.pb,0,none⟩) P.N P.N c d
 byt:BytC c.S
 bk:BkB W P.bb P.sz P.n P.NI P.q P.cq P.im P.ci P.D P.F
 bn:BkN P.sz P.n P.NI P.D P.F
 bl:∀x,P.bk x->x<P.L
 lo:P.L<=P.dm/\P.L<=P.z0/\P.L<=P.pb/\P.pb<P.z0/\P.dm+1<P.z0/\P.z0+3<=P.fb/\P.pb<P.dm
 pg:P.NI<=64*P.N
 lt:P.pb<W.heap.size
namespace FyS
variable {P:FyP} {W V:World} {c:Cch} {d:Dsk} {a m:Int}
theorem lts(h:FyS P W c d a m)(x:Nat)(hx:P.wr x\/x=P.pb\/P.bk x):x<W.heap.size:=by
 rcases hx with (rfl | rfl | rfl | rfl | rfl | rfl) | rfl | hx
 ·exact h.ft.lt
 ·exact h.ck.cc.ltb
 ·exact h.ck.cc.slots.lt
 ·exact h.ck.cc.map.lt
 ·exact h.ck.dk.ltb
 ·exact h.ck.dk.map.lt
 ·exact h.lt
 ·exact h.bk.lts x hx
theorem kept{X:Nat->Prop}(h:FyS P W c d a m)(k:Kept X W V)(h1:∀x,P.wr x\/x=P.pb\/P.bk x->X x)(hU:∀x,x<W.heap.size->¬X x->notU W x):FyS P V c d a m:=
 ⟨h.ft.kept k (h1 _ (.inl (.inl rfl))),h.ck.keptU k (h1 _ (.inl (by unfold FyP.wr;simp))) (h1 _ (.inl (by unfold FyP.wr;simp))) (h1 _ (.inl (by unfold FyP.wr;simp))) (h1 _ (.inl (by unfold FyP.wr;simp))) (h1 _ (.inl (by unfold FyP.wr;simp))) (fun a ha=>by cases ha;exact h1 _ (.inr (.inl rfl))) hU,
  h.byt,h.bk.kept k (fun x hx=>h1 x (.inr (.inr hx))),h.bn,h.bl,h.lo,h.pg,Nat.lt_of_lt_of_le h.lt k.size⟩
theorem old(h:FyS P W c d a m)(k:Old W V):FyS P V c d a m:=h.kept k (fun x hx=>h.lts x hx) fun x hx hn=>absurd hx hn
theorem row{W1:World}{c1:Cch}{d1:Dsk}{a1 m1:Int}(h1:FyS P W1 c1 d1 a1 m1)(h:FyS P W c d a m){b:Nat}{x:Int}(hb:W1.heap.size<=b)(hx:W.cell? ⟨b,0,none⟩=some (.int .i64 x))(k:Kept (fun q=>q≠b) W V):FyS P V c d a m:=
 h.kept k (fun x hx e=>by have:=h1.lts x hx;omega) fun q _ hq v hv=>by
  have hq:q=b:=Classical.not_not.1 hq
  rw [hq,hx] at hv
  cases hv
theorem asked(h:FyS P W c d a m)(x:Int):FyS P (W.setCell ⟨P.fb,2,none⟩ (.int .i64 x)) c d x m:=by
 have k:Kept (fun j=>j≠P.fb) W (W.setCell ⟨P.fb,2,none⟩ (.int .i64 x)):=Kept.setCell W (a:=⟨P.fb,2,none⟩) (fun e=>e rfl) _
 have hl:=h.lo
 refine⟨h.ft.asked x,h.ck.keptU k (by omega) (by omega) (by omega) (by omega) (by omega) (fun a ha=>by cases ha;show P.pb≠P.fb;omega) ?_,h.byt,h.bk.kept k (fun x hx=>by have:=h.bl x hx;omega),h.bn,h.bl,h.lo,h.pg,Nat.lt_of_lt_of_le h.lt k.size⟩
 intro q _ hq v hv
 have hq:q=P.fb:=Classical.not_not.1 hq
 rw [hq,h.ft.cells.1] at hv
 cases hv
theorem missed(h:FyS P W c d a m)(x:Int):FyS P (W.setCell ⟨P.fb,3,none⟩ (.int .i64 x)) c d a x:=by
 have k:Kept (fun j=>j≠P.fb) W (W.setCell ⟨P.fb,3,none⟩ (.int .i64 x)):=Kept.setCell W (a:=⟨P.fb,3,none⟩) (fun e=>e rfl) _
 have hl:=h.lo
 refine⟨h.ft.missed x,h.ck.keptU k (by omega) (by omega) (by omega) (by omega) (by omega) (fun a ha=>by cases ha;show P.pb≠P.fb;omega) ?_,h.byt,h.bk.kept k (fun x hx=>by have:=h.bl x hx;omega),h.bn,h.bl,h.lo,h.pg,Nat.lt_of_lt_of_le h.lt k.size⟩
 intro q _ hq v hv
 have hq:q=P.fb:=Classical.not_not.1 hq
 rw [hq,h.ft.cells.1] at hv
 cases hv
theorem Span(h:FyS P W c d a m){at_ n:Nat}(hn:at_+n<=64*P.N):Calls Tryz.prog 42 #[.pointer (some ⟨P.z0+2,0,none⟩),.int .i64 (at_:Int),.int .i64 (n:Int)] W fun e V=>
  SpanRes W.heap.size V n (spanR c d at_ n).r e/\(∀G,(spanR c d at_ n).r=some G->Byt G n)/\FyS P V (spanR c d at_ n).c (spanR c d at_ n).d a m/\Kept (P.but W) W V:=by
 refine(cSpan_any _ _ _ _ _ _ _ _ _ _ _ at_ n c d W h.ck hn (by omega)).mono ?_
 rintro e V ⟨r1,r2,r3⟩
 have hl:=h.lo
 obtain⟨b1,b2,b3,b4⟩:=span_byt (at_:=at_) (n:=n) (c:=c) (d:=d) (by rw [h.ck.nN];exact hn) h.byt h.ck.dk.byt
 refine⟨r1,b1,⟨h.ft.kept r3 ⟨h.ft.lt,by omega,by omega,by omega,by omega,by omega⟩,r2,b2,h.bk.kept r3 (fun x hx=>?_),h.bn,h.bl,h.lo,h.pg,Nat.lt_of_lt_of_le h.lt r3.size⟩,r3.mono fun x hx=>?_⟩
 ·have h1:=h.bl x hx
  exact⟨h.bk.lts x hx,by omega,by omega,by omega,by omega,by omega⟩
 ·obtain⟨h1,h2⟩:=hx
  unfold FyP.wr at h2
  exact⟨h1,by omega,by omega,by omega,by omega,by omega⟩
end FyS
def FrmR(W V:World)(bs:Option (List Int))(er:Int)(e:Ending):Prop:=
 ∃X k p cap T,e = .returned (.tuple #[.agg (rowN 29 (frC X (.slice p k cap))),.int .i64 er])/\k<=cap/\cap<=maxLen/\SlF 2 V p k T/\Fits64 T /\
  (er=0->∃b,bs=some b/\FrP X k T/\Tells b (enc X k T)/\∀F0 n0 T0,FrP F0 n0 T0->Tells b (enc F0 n0 T0)->sameP X k T F0 n0 T0)/\(er≠0->k=0/\p=none/\∀j,X j=0)/\(0<k->∀a,p=some a->W.heap.size<=a.block)
theorem FrmR.none{W V:World}{bs:Option (List Int)}{er:Int}(h:er≠0):FrmR W V bs er (.returned (.tuple #[.agg (rowN 29 (frC (fun _=>0) (.slice none 0 0))),.int .i64 er])):=
 ⟨fun _=>0,0,Option.none,0,fun _=>0,rfl,Nat.le_refl _,Nat.zero_le _,fun h=>absurd h (by omega),fun _=>by dsimp only;omega,fun e=>absurd e h,fun _=>⟨rfl,rfl,fun _=>rfl⟩,fun h=>absurd h (by omega)⟩
noncomputable def fetI(P:FyP)(i ch bl:Int):Option (Nat->Int)->Int
 | none=>8
 | some G=>openI (frSum P.D P.F i.toNat (whQ P.D i ch bl)) (lst G P.sz)
def bsOf(P:FyP)(r:Option (Nat->Int)):Option (List Int):=r.map fun G=>lst G P.sz
theorem FyS.place{P:FyP}{W:World}{c:Cch}{d:Dsk}{a m:Int}(h:FyS P W c d a m){i ch bl:Int}(hw:whI P.n P.D i ch bl=0):frAt P.sz P.D i.toNat (whQ P.D i ch bl)+P.sz<=64*P.N:=by
 obtain⟨k,c,b,rfl,rfl,rfl,h1,h2,h3⟩:=whI_ok hw
 have:=(h.bn.pl k _ h1 (whQ_lt h2 h3)).2
 have:=h.pg
 unfold frAt
 rw [Int.toNat_natCast]
 omega
theorem FyS.box{P:FyP}{W W0 V:World}{c:Cch}{d:Dsk}{a m:Int}(h:FyS P W c d a m){b0:Nat}{x:Obj}(hb:b0=W.heap.size)(hR:W0.heap[b0]?=some x)(hK:Kept (P.but W0) W0 V):V.heap[b0]?=some x:=by
 refine(hK.block b0 ⟨?_,fun hx=>?_⟩).trans hR
 ·exact Classical.byContradiction fun hn=>by rw [Array.getElem?_eq_none (by omega)] at hR;cases hR
 ·have:=h.lts b0 (.inl hx)
  omega
theorem FyS.stored{P:FyP}{W W0 V:World}{c0 c:Cch}{d0 d:Dsk}{a0 a m0 m:Int}(h:FyS P W c0 d0 a0 m0)(hO:Old W W0)(hv:FyS P V c d a m)(hK:Kept (P.but W0) W0 V){b0:Nat}(hb:b0=W.heap.size){X:Nat->Int}{s:Value}{t:TypeId}(hR:V.heap[b0]?=some (.cells (rowN 29 (frC X s)) t (0,0)))(cs:Array Value):
  FyS P (V.setRow b0 cs) c d a m/\Kept (P.but W) W (V.setRow b0 cs)/\(V.setRow b0 cs).heap[b0]?=some (.cells cs t (0,0)):=by
 refine⟨h.row hv (b:=b0) (x:=X 0) (by omega) ((cell_of_row _ _ _ _ _ _ hR).trans (rowN_at 29 _ 0 (by omega))) (Kept.setRow _ _ _),?_,setRow_heap _ _ _ _ _ _ hR⟩
 exact((hO.kept (X:=P.but W) fun x hx=>hx.1).trans (hK.mono fun x hx=>⟨Nat.lt_of_lt_of_le hx.1 hO.size,hx.2⟩)).trans ((Kept.setRow V b0 cs).mono fun x hx e=>by have:=hx.1;omega)
set_option maxHeartbeats 4000000 in
theorem fAsk_any(P:FyP)(W:World)(c:Cch)(d:Dsk)(a m:Int)(h:FyS P W c d a m)(i ch bl:Int)(hw:whI P.n P.D i ch bl=0):
  Calls Tryz.prog 93 #[.pointer (some ⟨P.fb,0,none⟩),.int .i64 (frAt P.sz P.D i.toNat (whQ P.D i ch bl)),.int .i64 i,.int .i64 ch,.int .i64 bl] W fun e V=>
   FrmR W V (bsOf P (spanR c d (frAt P.sz P.D i.toNat (whQ P.D i ch bl)) P.sz).r) (fetI P i ch bl (spanR c d (frAt P.sz P.D i.toNat (whQ P.D i ch bl)) P.sz).r) e/\FyS P V (spanR c d (frAt P.sz P.D i.toNat (whQ P.D i ch bl)) P.sz).c (spanR c d (frAt P.sz P.D i.toNat (whQ P.D i ch bl)) P.sz).d a m/\Kept (P.but W) W V:=by
 have Hs29:Hid ((Tryz.prog.info? 69).map (·.size)=some 29):=zH (by kernel_rfl)
 obtain⟨z,hz⟩:∃z:Array Value,z=rowN 29 (frC (fun _=>0) (.slice none 0 0)):=⟨_,rfl⟩
 have hzs:z.size=29:=by rw [hz,rowN_size]
 have hz1:z.all (·.oneCell')=true:=by rw [hz];exact frC_one _ _ rfl
 have HZf:=zH hz
 rw [frC_zero] at hz
 obtain⟨b0,hb0⟩:∃b,b=W.heap.size:=⟨_,rfl⟩
 obtain⟨W0,hW0⟩:∃W0,W0=W.alloc (.cells z 69):=⟨_,rfl⟩
 have hR:W0.heap[b0]?=some (.cells z 69 (0,0)):=by rw [hW0,hb0];exact heap_alloc_new _ _
 have hO:Old W W0:=by rw [hW0];exact Old.alloc _ _
 have hpl:=h.place hw
 obtain⟨A,hA⟩:∃A,A=frAt P.sz P.D i.toNat (whQ P.D i ch bl):=⟨_,rfl⟩
 rw [←hA] at hpl ⊢
 obtain⟨R,hRR⟩:∃R,R=spanR c d A P.sz:=⟨_,rfl⟩
 have h0:=h.old hO
 rw [←hRR]
 have HSp2:Hid (∀V,Old W0 V->V.heap.size=W0.heap.size->Calls Tryz.prog 42 #[.pointer (some ⟨P.z0+2,0,none⟩),.int .i64 (A:Int),.int .i64 (P.sz:Int)] V fun e V'=>
   SpanRes V.heap.size V' P.sz R.r e/\(∀G,R.r=some G->Byt G P.sz)/\FyS P V' R.c R.d a m/\Kept (P.but V) V V'):=zH fun V hV _=>by
  have:=(h0.old hV).Span (at_:=A) (n:=P.sz) hpl
  rw [←hRR] at this
  exact this
 obtain⟨r,hr⟩:∃r,r=R.r:=⟨_,rfl⟩
 rw [←hr] at HSp2 ⊢
 obtain⟨ev,hev⟩:∃ev,ev=fetI P i ch bl:=⟨_,rfl⟩
 rw [←hev]
 have HEv:=zH hev
 have HOp:=zH (fun(V:World) (c:Cch) (d:Dsk) (hV:FyS P V c d a m) p m2 cap G hs hb h1 h2 hm=>BOpen_any P.bb P.sz P.n P.NI P.q P.cq P.im P.ci P.D P.F V hV.bk hV.bn i ch bl p m2 cap G hs hb h1 h2 hm)
 have HSz:=zH (fun(V:World) (hV:Old W0 V)=>BSize_at P.bb P.sz V (h0.old hV).bk.size_.1)
 have HFt:=zH (fun(V:World) (c:Cch) (d:Dsk) (hV:FyS P V c d a m)=>And.intro hV.ft.cells.1 hV.ft.cells.2.1)
 have HF0:=zH h0
 have Hz:=zH hz
 have Hz1:=zH hz1
 have Hzs:=zH hzs
 have Hi:Hid ((Tryz.prog.info? 69).map (·.size)=some z.size):=by unfold Hid;rw [hzs];exact Hs29.out
 have HW0:=zH hW0
 have HR:=zH hR
 have HO:=zH hO
 have HB0:=zH hb0
 have HW:=zH hw
 have HF:=zH h
 have hz96:=h.bn.z2
 obtain⟨fb,hfb⟩:∃x,x=P.fb:=⟨_,rfl⟩
 obtain⟨cb,hcb⟩:∃x,x=P.z0+2:=⟨_,rfl⟩
 obtain⟨bb,hbb⟩:∃x,x=P.bb:=⟨_,rfl⟩
 obtain⟨sz,hsz⟩:∃x,x=P.sz:=⟨_,rfl⟩
 rw [←hfb,←hcb,←hbb] at HFt
 rw [←hcb,←hsz] at HSp2
 rw [←hbb,←hsz] at HSz
 rw [←hbb] at HOp
 rw [←hfb]
 have hsz96:sz<=96:=by omega
 have HSZ:=zH hsz
 clear hz hzs hW0 hR hO hb0 hz1 hr hev hA hRR hpl h0 hw h hfb hcb hbb hz96 hsz
 go_enter Tryz.func93,Tryz.ntmps93
 go_wp2_with fail
 rw [←Hz.out,←HW0.out,←HB0.out]
 clear HW0
 refine wp_region_held_drew (S:=(fun V=>V.cell? ⟨fb,0,none⟩=some (.pointer (some ⟨cb,0,none⟩))/\V.cell? ⟨fb,1,none⟩=some (.pointer (some ⟨bb,0,none⟩)))) (by kernel_rfl) ?_ (fun hHeld=>?_)
 ·(try dsimp only);exact HFt.out _ _ _ (HF0.out.old (Old.refl W0).drew)
 refine wpU 0 rfl ?_;try simp only [Act.put,sA,sZ,sS]
 refine wpU 1 rfl ?_;try simp only [Act.put,sA,sZ,sS]
 refine wpU 2 rfl ?_;try simp only [Act.put,sA,sZ,sS]
 refine wpU 3 rfl ?_;try simp only [Act.put,sA,sZ,sS]
 refine wpU 4 rfl ?_;try simp only [Act.put,sA,sZ,sS]
 refine wpU 5 rfl ?_;try simp only [Act.put,sA,sZ,sS]
 refine wpU 6 rfl ?_;try simp only [Act.put,sA,sZ,sS]
 refine wpU 7 rfl ?_;try simp only [Act.put,sA,sZ,sS]
 refine wpU 8 rfl ?_;try simp only [Act.put,sA,sZ,sS]
 refine wpAnyH_ready (rs:=[9]) (by kernel_rfl) (by simp) ?_
 refine AllReadyH.cons (o:=⟨_,_,_,_,_,_⟩) (by rfl) ?_ AllReadyH.nil
 intro K hK
 go_simp
 refine(HSz.out _ (Old.refl W0).drew).mono ?_
 rintro e V ⟨rfl,hv⟩
 subst hv
 go_wp2_with fail
 refine hK.out _ _ ?_ (fun hHeld=>?_)
 ·(try dsimp only);exact HFt.out _ _ _ (HF0.out.old (Old.refl W0).drew)
 clear hK K
 try simp only [Act.put,sA,sZ,sS]
 refine wpAnyH_ready (rs:=[10]) (by kernel_rfl) (by simp) ?_
 refine AllReadyH.cons (o:=⟨_,_,_,_,_,_⟩) (by rfl) ?_ AllReadyH.nil
 intro K hK
 go_simp
 refine(HSp2.out _ (Old.refl W0).drew rfl).mono ?_
 rintro e V ⟨h1,h2,h3,h4⟩
 have HV:=zH h3
 have HK:=zH h4
 have hbx:=HF.out.box HB0.out (W0:=W0.drew) HR.out h4
 have HBx:=zH hbx
 have hbx2:=hbx
 rw [HZf.out] at hbx2
 have HSt:=zH (fun cs=>HF.out.stored HO.out.drew h3 h4 HB0.out hbx2 cs)
 have HCl:=zH (HFt.out _ _ _ h3)
 have HBy:=zH h2
 have HVs:=zH (show W.heap.size<=V.heap.size from Nat.le_trans HO.out.size h4.size)
 clear hbx hbx2 h3 h4 h2 HSp2 HSz HFt HF0 HR
 cases r with
 | none=>
  have h1:e = .returned (.tuple #[.slice none 0 0,.int .i64 8]):=h1
  subst h1
  have HE:Hid (ev none=8):=zH (by rw [HEv.out];rfl)
  clear HOp
  go_wp2_with fail
  refine hK.out _ _ ?_ (fun hHeld=>?_)
  ·(try dsimp only);exact HCl.out
  clear hK K
  try simp only [Act.put,sA,sZ,sS]
  refine wpU 11 rfl ?_;try simp only [Act.put,sA,sZ,sS]
  refine wpU 12 rfl ?_;try simp only [Act.put,sA,sZ,sS]
  refine wpU 13 rfl ?_;try simp only [Act.put,sA,sZ,sS]
  refine wpU 14 rfl ?_;try simp only [Act.put,sA,sZ,sS]
  refine wpU 15 rfl ?_;try simp only [Act.put,sA,sZ,sS]
  refine wpAnyH_done (by kernel_rfl) ?_ _
  go_wp2_with (rw [←Hz.out];with_reducible refine wpList_store_row rfl 69 _ _ rfl b0 z rfl rfl 69 _ HBx.out Hi.out rfl Hz1.out ?_)
  obtain⟨s1,s2,s3⟩:=HSt.out z
  refine bodyPost_ret (results_row_tmp2 rfl _ _ b0 69 z (0,0) _ rfl s3 Tryz.underlying69 rfl Hi.out) rfl ⟨?_,s1,s2⟩
  rw [HE.out]
  have:=FrmR.none (W:=W) (V:=V.setRow b0 z) (bs:=bsOf P none) (er:=8) (by decide)
  rw [←HZf.out] at this
  exact this
 | some G=>
  obtain⟨q,cp,h1,s1,s2,s3,s4⟩:=h1
  subst h1
  have hop:=HOp.out V R.c R.d HV.out q sz cp G s3 (HBy.out G rfl) s1 s2 (by omega)
  have he:opnI P.n P.D P.F i ch bl (lst G sz)=ev (some G):=by
   unfold opnI
   rw [if_neg (fun e=>e HW.out),HSZ.out,HEv.out]
   rfl
  rw [he] at hop
  have HOp2:=zH hop
  obtain⟨c0,c1⟩:=HCl.out
  clear hop he s1 s2 s3 s4 HOp HBy
  go_wp2_with fail
  refine hK.out _ _ ?_ (fun hHeld=>?_)
  ·(try dsimp only);exact HCl.out
  clear hK K
  try simp only [Act.put,sA,sZ,sS]
  refine wpU 11 rfl ?_;try simp only [Act.put,sA,sZ,sS]
  refine wpU 12 rfl ?_;try simp only [Act.put,sA,sZ,sS]
  refine wpU 13 rfl ?_;try simp only [Act.put,sA,sZ,sS]
  refine wpU 14 rfl ?_;try simp only [Act.put,sA,sZ,sS]
  refine wpU 15 rfl ?_;try simp only [Act.put,sA,sZ,sS]
  refine wpAnyH_done (by kernel_rfl) ?_ _
  go_wp2_with fail
  refine HOp2.out.mono ?_
  rintro e V2 ⟨X,k,pg,cg,U,rfl,oo,g1,g2,g3,g4,g5,g6,g7⟩
  have H1g:Hid ((rowN 29 (frC X (.slice pg k cg))).all (·.oneCell')=true):=zH (frC_one _ _ rfl)
  have hK2:Kept (P.but W0.drew) W0.drew V2:=HK.out.trans (oo.kept (X:=P.but W0.drew) fun x hx=>Nat.lt_of_lt_of_le hx.1 HK.out.size)
  have hb2:=(oo.block _ (lt_of_block HBx.out)).trans HBx.out
  have HB2:=zH hb2
  rw [HZf.out] at hb2
  have HSt2:=zH (fun cs=>HF.out.stored HO.out.drew (HV.out.old oo) hK2 HB0.out hb2 cs)
  have hbV:=lt_of_block HBx.out
  have HG:=zH (And.intro g1 (And.intro g2 (And.intro g3 (And.intro g4 (And.intro g5 (And.intro g6 (fun h a ha=>And.intro (Nat.lt_of_lt_of_le hbV (g7 h a ha)) (Nat.le_trans HVs.out (g7 h a ha)))))))))
  clear oo g1 g2 g3 g4 g5 g6 g7 hK2 hb2 hbV HOp2 HSt HF HBx HCl HK HV HO c0 c1
  go_wp2_with (with_reducible refine wpList_store_row rfl 69 _ _ rfl b0 (rowN 29 (frC X (.slice pg k cg))) rfl rfl 69 _ HB2.out (by rw [rowN_size];exact Hs29.out) (by rw [rowN_size];exact Hzs.out) H1g.out ?_)
  obtain⟨s1,s2,s3⟩:=HSt2.out (rowN 29 (frC X (.slice pg k cg)))
  refine bodyPost_ret (results_row_tmp2 rfl _ _ b0 69 (rowN 29 (frC X (.slice pg k cg))) (0,0) _ rfl s3 Tryz.underlying69 rfl (by rw [rowN_size];exact Hs29.out)) rfl ⟨?_,s1,s2⟩
  obtain⟨g1,g2,g3,g4,g5,g6,g7⟩:=HG.out
  exact⟨X,k,pg,cg,U,rfl,g1,g2,g3.kept (Kept.setRow _ _ _) (fun a hn ha=>by have:=(g7 hn a ha).1;omega),g4,fun e=>⟨lst G sz,by rw [HSZ.out];rfl,(g5 e).1,(g5 e).2.1,(g5 e).2.2⟩,g6,fun hn a ha=>(g7 hn a ha).2⟩
theorem FyP.next{P:FyP}{W V V2:World}(h:Kept (P.but W) W V)(k:Kept (P.but V) V V2):Kept (P.but W) W V2:=h.trans (k.mono fun x hx=>⟨Nat.lt_of_lt_of_le hx.1 h.size,hx.2⟩)
theorem FyP.old{P:FyP}{W V V2:World}(h:Kept (P.but W) W V)(k:Old V V2):Kept (P.but W) W V2:=h.trans (k.kept fun x hx=>Nat.lt_of_lt_of_le hx.1 h.size)
theorem FyP.set{P:FyP}{W V:World}(h:Kept (P.but W) W V)(o:Nat)(v:Value):Kept (P.but W) W (V.setCell ⟨P.fb,o,none⟩ v):=h.trans (Kept.setCell V (a:=⟨P.fb,o,none⟩) (fun e=>e.2 (.inl rfl)) _)
theorem FyS.stored2{P:FyP}{W V:World}{c0 c:Cch}{d0 d:Dsk}{a0 a m0 m:Int}(h:FyS P W c0 d0 a0 m0)(hv:FyS P V c d a m)(hK:Kept (P.but W) W V){b0:Nat}(hb:b0=W.heap.size){X:Nat->Int}{s:Value}{t:TypeId}(hR:V.heap[b0]?=some (.cells (rowN 29 (frC X s)) t (0,0)))(cs:Array Value):
  FyS P (V.setRow b0 cs) c d a m/\Kept (P.but W) W (V.setRow b0 cs)/\(V.setRow b0 cs).heap[b0]?=some (.cells cs t (0,0)):=by
 refine⟨h.row hv (b:=b0) (x:=X 0) (by omega) ((cell_of_row _ _ _ _ _ _ hR).trans (rowN_at 29 _ 0 (by omega))) (Kept.setRow _ _ _),?_,setRow_heap _ _ _ _ _ _ hR⟩
 exact hK.trans ((Kept.setRow V b0 cs).mono fun x hx e=>by have:=hx.1;omega)
set_option maxHeartbeats 4000000 in
theorem fFrame_no(v:Value)(i ch bl:Int)(w:World)(h:NoFt w v):Calls Tryz.prog 37 #[v,.int .i64 i,.int .i64 ch,.int .i64 bl] w fun e w'=>e = .returned (.tuple #[.agg (rowN 29 (frC (fun _=>0) (.slice none 0 0))),.int .i64 16])/\Old w w':=by
 have Hs29:Hid ((Tryz.prog.info? 69).map (·.size)=some 29):=zH (by kernel_rfl)
 obtain⟨z,hz⟩:∃z:Array Value,z=rowN 29 (frC (fun _=>0) (.slice none 0 0)):=⟨_,rfl⟩
 have hzs:z.size=29:=by rw [hz,rowN_size]
 have hz1:z.all (·.oneCell')=true:=by rw [hz];exact frC_one _ _ rfl
 rw [←hz]
 rw [frC_zero] at hz
 obtain⟨b0,hb0⟩:∃b,b=w.heap.size:=⟨_,rfl⟩
 obtain⟨W0,hW0⟩:∃W0,W0=w.alloc (.cells z 69):=⟨_,rfl⟩
 have hR:W0.heap[b0]?=some (.cells z 69 (0,0)):=by rw [hW0,hb0];exact heap_alloc_new _ _
 have hO:Old w W0:=by rw [hW0];exact Old.alloc _ _
 have HM:=zH (fMade_no v W0 (h.old hO))
 have HRR:=zH (row_ret hR hO (by omega) z)
 have Hz:=zH hz
 have Hz1:=zH hz1
 have Hi:Hid ((Tryz.prog.info? 69).map (·.size)=some z.size):=by unfold Hid;rw [hzs];exact Hs29.out
 have HW0:=zH hW0
 have HR:=zH hR
 have HB0:=zH hb0
 clear hz hzs hW0 hR hO hb0 hz1 h
 go_enter Tryz.func37,Tryz.ntmps37
 go_wp2_with fail
 rw [←Hz.out,←HW0.out,←HB0.out]
 clear HW0
 refine HM.out.mono ?_
 rintro e w1 ⟨rfl,rfl⟩
 go_wp2_with (rw [←Hz.out];with_reducible refine wpList_store_row rfl 69 _ _ rfl b0 z rfl rfl 69 _ HR.out Hi.out rfl Hz1.out ?_)
 exact bodyPost_ret (results_row_tmp2 rfl _ _ b0 69 z (0,0) _ rfl HRR.out.1 Tryz.underlying69 rfl Hi.out) rfl ⟨rfl,HRR.out.2⟩
set_option maxHeartbeats 4000000 in
theorem fFrame_out(P:FyP)(W:World)(c:Cch)(d:Dsk)(a m:Int)(h:FyS P W c d a m)(i ch bl:Int)(hw:whI P.n P.D i ch bl≠0):Calls Tryz.prog 37 #[.pointer (some ⟨P.fb,0,none⟩),.int .i64 i,.int .i64 ch,.int .i64 bl] W fun e V=>e = .returned (.tuple #[.agg (rowN 29 (frC (fun _=>0) (.slice none 0 0))),.int .i64 (whI P.n P.D i ch bl)])/\Old W V:=by
 have Hs29:Hid ((Tryz.prog.info? 69).map (·.size)=some 29):=zH (by kernel_rfl)
 obtain⟨z,hz⟩:∃z:Array Value,z=rowN 29 (frC (fun _=>0) (.slice none 0 0)):=⟨_,rfl⟩
 have hzs:z.size=29:=by rw [hz,rowN_size]
 have hz1:z.all (·.oneCell')=true:=by rw [hz];exact frC_one _ _ rfl
 rw [←hz]
 rw [frC_zero] at hz
 obtain⟨b0,hb0⟩:∃b,b=W.heap.size:=⟨_,rfl⟩
 obtain⟨W0,hW0⟩:∃W0,W0=W.alloc (.cells z 69):=⟨_,rfl⟩
 have hR:W0.heap[b0]?=some (.cells z 69 (0,0)):=by rw [hW0,hb0];exact heap_alloc_new _ _
 have hO:Old W W0:=by rw [hW0];exact Old.alloc _ _
 have h0:=h.old hO
 obtain⟨_,c1,_,_,_⟩:=h0.ft.cells
 have HM:=zH (fMade_yes P.fb P.bb W0 c1)
 have HWh:=zH (BWhere_any P.bb P.sz P.n P.NI P.q P.cq P.im P.ci P.D P.F W0 h0.bk h0.bn i ch bl)
 obtain⟨x,hx⟩:∃x,x=whI P.n P.D i ch bl:=⟨_,rfl⟩
 rw [←hx] at HWh hw ⊢
 have hd:(x != 0)=true:=by simpa using hw
 have HRR:=zH (fun w1 (o1:Old W0 w1)=>row_ret ((o1.block _ (lt_of_block hR)).trans hR) (hO.trans o1) (by omega) z)
 have Hz:=zH hz
 have Hz1:=zH hz1
 have Hi:Hid ((Tryz.prog.info? 69).map (·.size)=some z.size):=by unfold Hid;rw [hzs];exact Hs29.out
 have HW0:=zH hW0
 have HR:=zH hR
 have HB0:=zH hb0
 obtain⟨fb,hfb⟩:∃x,x=P.fb:=⟨_,rfl⟩
 obtain⟨bb,hbb⟩:∃x,x=P.bb:=⟨_,rfl⟩
 rw [←hfb] at HM c1 ⊢
 rw [←hbb] at HWh c1
 clear hz hzs hW0 hR hO hb0 hz1 h hx hw h0 hfb hbb
 go_enter Tryz.func37,Tryz.ntmps37
 go_wp2_with fail
 rw [←Hz.out,←HW0.out,←HB0.out]
 clear HW0
 refine HM.out.mono ?_
 rintro e w1 ⟨rfl,rfl⟩
 go_wp2_with fail
 refine HWh.out.mono ?_
 rintro e w1 ⟨a1,S,rfl,_,_,o1⟩
 have HO1:=zH o1
 have HR1:=zH ((o1.block _ (lt_of_block HR.out)).trans HR.out)
 clear o1 c1 HWh
 go_wp2_with (rw [←Hz.out];with_reducible refine wpList_store_row rfl 69 _ _ rfl b0 z rfl rfl 69 _ HR1.out Hi.out rfl Hz1.out ?_)
 obtain⟨s1,s2⟩:=HRR.out w1 HO1.out
 exact bodyPost_ret (results_row_tmp2 rfl _ _ b0 69 z (0,0) _ rfl s1 Tryz.underlying69 rfl Hi.out) rfl ⟨rfl,s2⟩
set_option maxHeartbeats 4000000 in
theorem fFrame_any(P:FyP)(W:World)(c:Cch)(d:Dsk)(a m:Int)(h:FyS P W c d a m)(i ch bl:Int)(hw:whI P.n P.D i ch bl=0):
  Calls Tryz.prog 37 #[.pointer (some ⟨P.fb,0,none⟩),.int .i64 i,.int .i64 ch,.int .i64 bl] W fun e V=>
   FrmR W V (bsOf P (spanR c d (frAt P.sz P.D i.toNat (whQ P.D i ch bl)) P.sz).r) (fetI P i ch bl (spanR c d (frAt P.sz P.D i.toNat (whQ P.D i ch bl)) P.sz).r) e /\
   FyS P V (spanR c d (frAt P.sz P.D i.toNat (whQ P.D i ch bl)) P.sz).c (spanR c d (frAt P.sz P.D i.toNat (whQ P.D i ch bl)) P.sz).d (wrap64 (a+1)) (if fetI P i ch bl (spanR c d (frAt P.sz P.D i.toNat (whQ P.D i ch bl)) P.sz).r=0 then m else wrap64 (m+1))/\Kept (P.but W) W V:=by
 have Hs29:Hid ((Tryz.prog.info? 69).map (·.size)=some 29):=zH (by kernel_rfl)
 obtain⟨z,hz⟩:∃z:Array Value,z=rowN 29 (frC (fun _=>0) (.slice none 0 0)):=⟨_,rfl⟩
 have hzs:z.size=29:=by rw [hz,rowN_size]
 have hz1:z.all (·.oneCell')=true:=by rw [hz];exact frC_one _ _ rfl
 have HZf:=zH hz
 rw [frC_zero] at hz
 obtain⟨b0,hb0⟩:∃b,b=W.heap.size:=⟨_,rfl⟩
 obtain⟨W0,hW0⟩:∃W0,W0=W.alloc (.cells z 69):=⟨_,rfl⟩
 have hR:W0.heap[b0]?=some (.cells z 69 (0,0)):=by rw [hW0,hb0];exact heap_alloc_new _ _
 have hO:Old W W0:=by rw [hW0];exact Old.alloc _ _
 have h0:=h.old hO
 obtain⟨_,c1,_,_,_⟩:=h0.ft.cells
 have HM:=zH (fMade_yes P.fb P.bb W0 c1)
 have HWh:=zH (BWhere_any P.bb P.sz P.n P.NI P.q P.cq P.im P.ci P.D P.F W0 h0.bk h0.bn i ch bl)
 obtain⟨q,hq⟩:∃q,q=wrap64 (a+1):=⟨_,rfl⟩
 have e1:wrap64 (a+1)=q:=hq.symm
 have hAs:=fun V (hV:FyS P V c d q m)=>fAsk_any P V c d q m hV i ch bl hw
 rw [←hq]
 rw [hw] at HWh
 obtain⟨A,hA⟩:∃A,A=frAt P.sz P.D i.toNat (whQ P.D i ch bl):=⟨_,rfl⟩
 rw [←hA] at hAs HWh ⊢
 obtain⟨R,hRR⟩:∃R,R=spanR c d A P.sz:=⟨_,rfl⟩
 rw [←hRR] at hAs ⊢
 obtain⟨E,hE⟩:∃E,E=fetI P i ch bl R.r:=⟨_,rfl⟩
 rw [←hE] at hAs ⊢
 obtain⟨bs,hbs⟩:∃bs,bs=bsOf P R.r:=⟨_,rfl⟩
 rw [←hbs] at hAs ⊢
 have HAs:=zH hAs
 have HFt:=zH (fun V (hV:Old W0 V)=>(h0.old hV).ft.cells)
 have HF:=zH h
 have HF0:=zH h0
 have Hz:=zH hz
 have Hzs:=zH hzs
 have Hz1:=zH hz1
 have Hi:Hid ((Tryz.prog.info? 69).map (·.size)=some z.size):=by unfold Hid;rw [hzs];exact Hs29.out
 have HW0:=zH hW0
 have HR:=zH hR
 have HO:=zH hO
 have HB0:=zH hb0
 obtain⟨fb,hfb⟩:∃x,x=P.fb:=⟨_,rfl⟩
 obtain⟨bb,hbb⟩:∃x,x=P.bb:=⟨_,rfl⟩
 rw [←hfb] at HM c1 HAs HFt ⊢
 rw [←hbb] at HWh c1 HFt
 have HFb:=zH hfb
 clear hz hzs hW0 hR hO hb0 hz1 h hw h0 hfb hbb hq hAs hA hRR hE hbs
 go_enter Tryz.func37,Tryz.ntmps37
 go_wp2_with fail
 rw [←Hz.out,←HW0.out,←HB0.out]
 clear HW0
 refine HM.out.mono ?_
 rintro e w1 ⟨rfl,rfl⟩
 clear HM
 go_wp2_with fail
 refine HWh.out.mono ?_
 rintro e W2 ⟨a1,S,rfl,h3,_,o1⟩
 obtain⟨rfl,_⟩:=h3 (by trivial)
 obtain⟨_,_,k2,_,kf⟩:=HFt.out _ o1
 have f2:=kf 2
 have hF2:=HF0.out.old o1
 have hF3:=hF2.asked q
 have hK3:=FyP.set (FyP.old (P:=P) (Kept.refl _ _) (HO.out.trans o1)) 2 (.int .i64 q)
 have hR3:(W2.setCell ⟨P.fb,2,none⟩ (.int .i64 q)).heap[b0]?=some (.cells z 69 (0,0)):=by
  refine((Kept.setCell (X:=fun j=>j≠P.fb) W2 (a:=⟨P.fb,2,none⟩) (fun e=>e rfl) (.int .i64 q)).block b0 ?_).trans ((o1.block _ (lt_of_block HR.out)).trans HR.out)
  have:=HF.out.lts P.fb (.inl (.inl rfl))
  have:=HB0.out
  omega
 rw [←HFb.out] at hF3 hK3 hR3
 have HF3:=zH hF3
 have HK3:=zH hK3
 have HR3:=zH hR3
 clear h3 o1 c1 kf hF2 hF3 hK3 hR3 HWh HFt HF0
 go_wp2_with fail
 clear k2 f2
 refine(HAs.out _ HF3.out).mono ?_
 rintro e V ⟨⟨X,k,pg,cg,U,rfl,g1,g2,g3,g4,g5,g6,g7⟩,hF,hK⟩
 have hWV:=HK3.out.size
 obtain⟨b1,hb1⟩:∃b,b=V.heap.size:=⟨_,rfl⟩
 obtain⟨V3,hV3⟩:∃x,x=V.alloc (.cells (rowN 29 (frC X (.slice pg k cg))) 69):=⟨_,rfl⟩
 have o3:Old V V3:=by rw [hV3];exact Old.alloc _ _
 have hBx:V3.heap[b1]?=some (.cells (rowN 29 (frC X (.slice pg k cg))) 69 (0,0)):=by rw [hV3,hb1];exact heap_alloc_new _ _
 have hbox:=(o3.block b0 (lt_of_block (HF.out.box HB0.out HR3.out hK))).trans (HF.out.box HB0.out HR3.out hK)
 have hKW:=FyP.old (FyP.next HK3.out hK) o3
 have HBx:=zH hBx
 have HBo:=zH hbox
 have HKW:=zH hKW
 have HFV:=zH (hF.old o3)
 have H1g:Hid ((rowN 29 (frC X (.slice pg k cg))).all (·.oneCell')=true):=zH (frC_one _ _ rfl)
 have HG:=zH (And.intro g1 (And.intro g2 (And.intro (g3.old o3) (And.intro g4 (And.intro g5 (And.intro g6 (fun h a ha=>Nat.le_trans hWV (g7 h a ha))))))))
 have Hb01:=zH (show b0<b1 by rw [hb1];exact lt_of_block (HF.out.box HB0.out HR3.out hK))
 have HV3:=zH hV3
 have HB1:=zH hb1
 have HN0:=zH (fun(hn:0<k) (a:Addr) (ha:pg=some a)=>show a.block≠b0 from fun e=>by
  have:=g7 hn a ha
  have:=lt_of_block HR3.out
  omega)
 clear g1 g2 g3 g4 g5 g6 g7 hF hK hWV hb1 hV3 o3 hBx hbox hKW HAs HF3 HK3 HR3 HR HO
 by_cases h0:E=0
 ·subst h0
  have HSt:=zH (HF.out.stored2 HFV.out HKW.out HB0.out (by rw [←HZf.out];exact HBo.out) (rowN 29 (frC X (.slice pg k cg))))
  go_wp2_with (first | (with_reducible refine wpList_store_row rfl 69 _ _ rfl V.heap.size (rowN 29 (frC X (.slice pg k cg))) rfl rfl 69 _ (heap_alloc_new _ _) (by rw [rowN_size];exact Hs29.out) (by rw [rowN_size];kernel_rfl) H1g.out ?_;rw [World.setRow_alloc_new,←HV3.out,←HB1.out]) | (with_reducible refine wpList_load_row rfl 69 _ rfl b1 rfl 69 (rowN 29 (frC X (.slice pg k cg))) (0,0) _ HBx.out Tryz.underlying69 rfl (by rw [rowN_size];exact Hs29.out) ?_) | (with_reducible refine wpList_store_row rfl 69 _ _ rfl b0 (rowN 29 (frC X (.slice pg k cg))) rfl rfl 69 _ HBo.out (by rw [rowN_size];exact Hs29.out) (by rw [rowN_size];exact Hzs.out) H1g.out ?_))
  obtain⟨s1,s2,s3⟩:=HSt.out
  refine bodyPost_ret (results_row_tmp2 rfl _ _ b0 69 (rowN 29 (frC X (.slice pg k cg))) (0,0) _ rfl s3 Tryz.underlying69 rfl (by rw [rowN_size];exact Hs29.out)) rfl ⟨?_,s1,s2⟩
  obtain⟨g1,g2,g3,g4,g5,g6,g7⟩:=HG.out
  exact⟨X,k,pg,cg,U,rfl,g1,g2,g3.kept (Kept.setRow _ _ _) (fun a hn ha=>HN0.out hn a ha),g4,fun _=>g5 (by trivial),fun e=>absurd rfl e,g7⟩
 ·have hd:(E != 0)=true:=by simpa using h0
  obtain⟨q2,hq2⟩:∃q,q=wrap64 (m+1):=⟨_,rfl⟩
  have e2:wrap64 (m+1)=q2:=hq2.symm
  have hF4:=HFV.out.missed q2
  have hK4:=FyP.set HKW.out 3 (.int .i64 q2)
  have hkk:Kept (fun j=>j≠P.fb) V3 (V3.setCell ⟨P.fb,3,none⟩ (.int .i64 q2)):=Kept.setCell V3 (a:=⟨P.fb,3,none⟩) (fun e=>e rfl) _
  have hfl:=HF.out.lts P.fb (.inl (.inl rfl))
  have hb04:=(hkk.block b0 (by have:=HB0.out;omega)).trans HBo.out
  have hb14:=(hkk.block b1 (by have:=HB0.out;have:=Hb01.out;omega)).trans HBx.out
  obtain⟨_,_,_,k3,kf⟩:=HFV.out.ft.cells
  have f3:=kf 3
  have hg3:=HG.out.2.2.1.kept hkk (fun a hn ha=>by
   have:=HG.out.2.2.2.2.2.2 hn a ha
   omega)
  have HSt:=zH (HF.out.stored2 hF4 hK4 HB0.out (by rw [←HZf.out];exact hb04) (rowN 29 (frC X (.slice pg k cg))))
  rw [←HFb.out] at hb04 hb14 k3 f3 HSt hg3
  have HB04:=zH hb04
  have HB14:=zH hb14
  have HG3:=zH hg3
  have H0:=zH h0
  rw [hq2] at HSt
  rw [←hq2] at HSt
  clear hF4 hK4 hkk hfl hb04 hb14 kf hg3 h0 hq2 HFV HKW HBo
  go_wp2_with (first | (with_reducible refine wpList_store_row rfl 69 _ _ rfl V.heap.size (rowN 29 (frC X (.slice pg k cg))) rfl rfl 69 _ (heap_alloc_new _ _) (by rw [rowN_size];exact Hs29.out) (by rw [rowN_size];kernel_rfl) H1g.out ?_;rw [World.setRow_alloc_new,←HV3.out,←HB1.out]) | (with_reducible refine wpList_load_row rfl 69 _ rfl b1 rfl 69 (rowN 29 (frC X (.slice pg k cg))) (0,0) _ HB14.out Tryz.underlying69 rfl (by rw [rowN_size];exact Hs29.out) ?_) | (with_reducible refine wpList_store_row rfl 69 _ _ rfl b0 (rowN 29 (frC X (.slice pg k cg))) rfl rfl 69 _ HB04.out (by rw [rowN_size];exact Hs29.out) (by rw [rowN_size];exact Hzs.out) H1g.out ?_))
  obtain⟨s1,s2,s3⟩:=HSt.out
  refine bodyPost_ret (results_row_tmp2 rfl _ _ b0 69 (rowN 29 (frC X (.slice pg k cg))) (0,0) _ rfl s3 Tryz.underlying69 rfl (by rw [rowN_size];exact Hs29.out)) rfl ⟨?_,?_,s2⟩
  ·obtain⟨g1,g2,g3,g4,g5,g6,g7⟩:=HG.out
   exact⟨X,k,pg,cg,U,rfl,g1,g2,HG3.out.kept (Kept.setRow _ _ _) (fun a hn ha=>HN0.out hn a ha),g4,fun e=>absurd e H0.out,g6,g7⟩
  ·exact s1
structure MdR(w:World)(P:FyP)(ab g:Nat)(Z:Nat->Smp)(c:Cch)(d:Dsk)(w':World):Prop where
 all:w'.heap[ab]?=some (.cells #[.pointer (some ⟨P.bb,0,none⟩),.pointer (some ⟨P.dm+1,0,none⟩),.pointer (some ⟨P.fb,0,none⟩),.slice (some ⟨g,0,none⟩) P.NI P.NI] 83 (0,0))
 fy:FyS P w' c d 0 0
 pk:Pkd P.sz P.n Z P.F
 hD:P.D=plD (mtsD Z) P.sz P.n
 hI:P.NI=totalAt (frD (mtsD Z)) P.sz P.n
 hN:P.N=pgs P.NI
 old:Old w w'
 new:∀x,P.wr x->w.heap.size<=x/\x<ab
def MadeR(w:World)(sz:Int)(n:Nat)(L:Nat->Smp)(sl rt:Int)(e:Ending)(w':World):Prop:=
 ∃Z0,(∀i,i<min n 8->SmFew (Z0 i)/\FewOf (L i) (Z0 i)) /\
  ((e = .returned (.pointer none)/\Old w w'/\¬(PkOk sz (min n 8) Z0/\1<=sl/\sl<=1024/\0<=rt/\rt<=8)) \/
   (24<=sz/\sz<=96/\1<=sl/\sl<=1024/\0<=rt/\rt<=8/\∃P ab g Z,e = .returned (.pointer (some ⟨ab,0,none⟩))/\P.sz=sz.toNat/\P.n=min n 8/\Ordd Z0 (min n 8) Z/\MdR w P ab g Z (cc0 sl.toNat rt.toNat) (dk0 P.NI P.F) w'))
theorem pgs_room(n:Nat):n<=64*pgs n:=by unfold pgs;omega
set_option maxHeartbeats 4000000 in
theorem made18_any(sz:Int)(q:Option Addr)(n c:Nat)(L:Nat->Smp)(sl rt:Int)(w:World)(hs:SmsS w q n L):
  Calls Tryz.prog 35 #[.int .i64 sz,.slice q n c,.int .i64 sl,.int .i64 rt] w (MadeR w sz n L sl rt):=by
 have HFw:=zH (Few15_any q n c L w hs)
 obtain⟨k,hk⟩:∃k,k=min n 8:=⟨_,rfl⟩
 have hk8:k<=8:=by omega
 unfold FewsR at HFw
 unfold MadeR
 rw [←hk] at HFw ⊢
 clear hs hk
 go_enter Tryz.func35,Tryz.ntmps35
 go_wp2_with fail
 refine HFw.out.mono ?_
 rintro e V1 ⟨p1,c1,Z0,rfl,hsm,hfo,o1⟩
 have HPk:=zH (Pack_any sz p1 k c1 Z0 V1 hsm (by omega))
 have HFo:=zH hfo
 have HO1:=zH o1
 clear hsm hfo o1 HFw
 go_wp2_with fail
 refine HPk.out.mono ?_
 intro e V2 hp
 rcases pack_is hp with ⟨er,h0,rfl,o2,hno⟩ | ⟨h24,h96,hall,Z,g,F,rfl,hpk,hord,hfs⟩
 ·have HE:=zH (HO1.out.trans o2)
  have HNo:=zH hno
  have hd:(er != 0)=true:=by simpa using h0
  clear hp o2 hno h0 HPk
  go_wp2_with fail
  go_ret
  exact⟨Z0,HFo.out,.inl ⟨rfl,HE.out,fun h=>HNo.out h.1⟩⟩
 have htot:=hpk.tot
 have hbn:=hpk.bkN
 obtain⟨N,hN⟩:∃N,N=totalAt (frD (mtsD Z)) sz.toNat k:=⟨_,rfl⟩
 rw [←hN] at hfs htot hbn ⊢
 have hby:=hbn.byt
 have hsl:∀V,Old V2 V->SlU V (some ⟨g,0,none⟩) N F:=fun V hV=>((show SlU V2 (some ⟨g,0,none⟩) N F from fun _=>⟨g,0,rfl,hfs.row.lt,fun j hj=>by rw [Nat.zero_add];exact hfs.row.at_ j hj⟩).old hV)
 have HPa:=zH (Parse_any (some ⟨g,0,none⟩) N N F V2 (hsl _ (Old.refl _)) hby (Nat.le_refl _) (by unfold maxLen;omega) (by omega))
 have HDn:=zH (fun V (hV:Old V2 V)=>DNew_ok (some ⟨g,0,none⟩) N N F V (hsl V hV) htot (Nat.le_refl _) hby)
 have HPp:Hid (∀e V,PrsR V2 F N e V->∃bb q c im ci,e = .returned (.tuple #[.pointer (some ⟨bb,0,none⟩),.int .i64 0])/\BkB V bb sz.toNat k N q c im ci (plD (mtsD Z) sz.toNat k) F/\Old V2 V):=zH fun e V h=>by
  have hld:=hpk.ld
  rw [hN] at h ⊢
  exact parse_packed (by omega) (by omega) (by omega) hpk.dir hld h
 have HPK:=zH hpk
 have HBn:=zH hbn
 have HOr:=zH hord
 have HN:=zH hN
 have HO2:=zH (HO1.out.trans hfs.old)
 have HZ:=zH (And.intro h24 h96)
 have hz0:0<sz.toNat:=by omega
 have hpg:pgs N<=65536:=by unfold pgs;omega
 clear hp hpk hord hfs hN hall hbn hby hsl HPk HO1 h24 h96
 obtain⟨z,hz⟩:∃z,z=sz.toNat:=⟨_,rfl⟩
 rw [←hz] at HPp HPK HBn HN hz0
 have HSz:=zH hz
 clear hz
 go_wp2_with fail
 refine HPa.out.mono ?_
 intro e V3 h3
 obtain⟨bb,q3,c3,im,ci,rfl,hbk,o3⟩:=HPp.out e V3 h3
 have HBk:=zH hbk
 have HO3:=zH (HO2.out.trans o3)
 have HD3:=zH (HDn.out V3 o3)
 clear h3 hbk o3 HPa HPp HDn HO2
 go_wp2_with fail
 refine HD3.out.mono ?_
 rintro e V4 ⟨dm,rfl,hlt,hdk,o4⟩
 have HL:=zH hlt
 have HDk:=zH hdk
 have HO4:=zH o4
 clear hlt hdk o4 HD3
 by_cases hbad:sl<1\/1024<sl\/rt<0\/8<rt
 ·have HCn:=zH (cNew_bad (dm+1) sl rt V4 hbad)
  have HB:=zH hbad
  have HE:=zH (HO3.out.trans HO4.out)
  clear hbad
  go_wp2_with fail
  refine HCn.out.mono ?_
  rintro e V5 ⟨rfl,rfl⟩
  go_wp2_with fail
  go_ret
  exact⟨Z0,HFo.out,.inl ⟨rfl,HE.out,fun h=>by have:=HB.out;omega⟩⟩
 obtain⟨sn,rfl⟩:∃sn:Nat,sl=sn:=⟨sl.toNat,by omega⟩
 obtain⟨rn,rfl⟩:∃rn:Nat,rt=rn:=⟨rt.toNat,by omega⟩
 have HB:=zH (show (1<=sn/\sn<=1024/\rn<=8) by omega)
 have HCn:=zH (cNew_ok (dm+1) sn rn (pgs N) V4 (by omega) (by omega) (by omega) hpg)
 clear hbad
 go_wp2_with fail
 refine HCn.out.mono ?_
 rintro e V5 ⟨rfl,hs5,hcc,o5⟩
 have HO5:=zH o5
 have HS5:=zH hs5
 have HCc:=zH hcc
 obtain⟨cb,hcb⟩:∃cb,cb=V4.heap.size+2:=⟨_,rfl⟩
 have hc4:=hcc.cells.2.2.2.2.1
 have HFn:=zH (fNew_ok bb (V4.heap.size+2) (dm+1) z V5 ((HBk.out.old (HO4.out.trans o5)).size_.1) hz0 hc4)
 rw [←hcb] at HFn
 have HCb:=zH hcb
 rw [←hcb]
 clear hs5 hcc o5 hc4 hcb HCn
 go_wp2_with fail
 refine HFn.out.mono ?_
 rintro e V6 ⟨rfl,hft,hs6,o6⟩
 obtain⟨fb,hfb⟩:∃fb,fb=V5.heap.size:=⟨_,rfl⟩
 rw [←hfb] at hft hs6 ⊢
 obtain⟨V7,hV7⟩:∃V7,V7=V6.alloc (.cells #[.pointer (some ⟨bb,0,none⟩),.pointer (some ⟨dm+1,0,none⟩),.pointer (some ⟨fb,0,none⟩),.slice (some ⟨g,0,none⟩) N N] 83):=⟨_,rfl⟩
 have o7:Old V6 V7:=by rw [hV7];exact Old.alloc _ _
 have hall:V7.heap[V6.heap.size]?=some (.cells #[.pointer (some ⟨bb,0,none⟩),.pointer (some ⟨dm+1,0,none⟩),.pointer (some ⟨fb,0,none⟩),.slice (some ⟨g,0,none⟩) N N] 83 (0,0)):=by rw [hV7];exact heap_alloc_new _ _
 have HMd:Hid (MdR w ⟨fb,V4.heap.size,dm,V3.heap.size,pgs N,bb,z,k,N,q3,c3,im,ci,V3.heap.size,plD (mtsD Z) z k,F⟩ V6.heap.size g Z (cc0 sn rn) (dk0 N F) V7):=zH (by
  have s5:=HS5.out
  have hd1:=HDk.out.ltb
  have hd2:=HDk.out.map.lt
  have hl:=HL.out
  have hw:=(HO3.out).size
  have o57:=o6.trans o7
  have ocb:=HCb.out
  rw [ocb] at hft
  refine⟨hall,⟨hft.old o7,⟨HCc.out.old o57,(HDk.out.old HO5.out).old o57,rfl,⟨by show dm+1<V4.heap.size;omega,by show dm<V4.heap.size;omega,fun a _ ha=>by cases ha;show V3.heap.size<V4.heap.size;omega⟩,by have:=o57.size;show V4.heap.size+3<=_;omega⟩,fun i s hs=>(by(have h0:(none:Option Slt)=some s:=hs);cases h0),((HBk.out.old HO4.out).old HO5.out).old o57,HBn.out,fun x hx=>HBk.out.lts x hx,?_,pgs_room N,?_⟩,HPK.out,rfl,HN.out,rfl,(((HO3.out.trans HO4.out).trans HO5.out).trans o57),?_⟩
  ·dsimp only
   omega
  ·have:=o57.size
   dsimp only
   omega
  ·intro x hx
   unfold FyP.wr at hx
   dsimp only at hx
   have:=HO3.out.size
   omega)
 have HV7:=zH hV7
 have HZ2:=zH (show z=sz.toNat from HSz.out)
 clear hft hs6 o6 hfb hV7 o7 hall HFn HCc HDk HBk HPK HBn HL HO3 HO4 HO5 HS5
 go_wp2_with fail
 go_ret
 rw [←HV7.out]
 exact⟨Z0,HFo.out,.inr ⟨HZ.out.1,HZ.out.2,by have:=HB.out;omega,by have:=HB.out;omega,by have:=HB.out;omega,by have:=HB.out;omega,_,_,g,Z,rfl,HZ2.out,rfl,HOr.out,by rw [Int.toNat_natCast,Int.toNat_natCast];exact HMd.out⟩⟩
theorem clean_fet{P:FyP}{W:World}{c:Cch}{d:Dsk}{a m:Int}{Z:Nat->Smp}(h:FyS P W c d a m)(hc:ClnC (padF P.NI P.F) c.S)(hd:ClnD (padF P.NI P.F) P.N d)(pk:Pkd P.sz P.n Z P.F)(hD:P.D=plD (mtsD Z) P.sz P.n){i ch bl:Int}(hw:whI P.n P.D i ch bl=0):
  ∃G c' d',spanR c d (frAt P.sz P.D i.toNat (whQ P.D i ch bl)) P.sz=⟨some G,c',d'⟩/\(∀j,j<P.sz->G j=P.F (frAt P.sz P.D i.toNat (whQ P.D i ch bl)+j))/\ClnC (padF P.NI P.F) c'.S/\ClnD (padF P.NI P.F) P.N d'/\fetI P i ch bl (some G)=0:=by
 obtain⟨G,c',d',h1,h2,h3,h4⟩:=span_clean (at_:=frAt P.sz P.D i.toNat (whQ P.D i ch bl)) (n:=P.sz) (I:=padF P.NI P.F) (N:=P.N) (h.place hw) (fun j _=>by
  unfold padF
  split
  ·exact h.bn.byt j (by omega)
  ·omega) hc hd
 obtain⟨k,cc,b,rfl,rfl,rfl,k1,k2,k3⟩:=whI_ok hw
 have hpl:=(h.bn.pl k _ k1 (whQ_lt k2 k3)).2
 have hg:∀j,j<P.sz->G j=P.F (frAt P.sz P.D (k:Int).toNat (whQ P.D k cc b)+j):=fun j hj=>by
  rw [h2 j hj]
  unfold padF
  rw [if_pos (by unfold frAt;rw [Int.toNat_natCast];omega)]
 refine⟨G,c',d',h1,hg,h3,h4,?_⟩
 show openI _ (lst G P.sz)=0
 rw [lst_ext hg,Int.toNat_natCast]
 have:=pk.good W (k:=k) (c:=cc) (b:=b) k1 (by rw [←hD];exact k2) (by rw [←hD];exact k3)
 rw [←hD] at this
 exact this
structure RunC(w:World)(P:FyP)(ab g:Nat)(a m:Int)(W:World):Prop where
 ex:∃c d,FyS P W c d a m/\ClnC (padF P.NI P.F) c.S/\ClnD (padF P.NI P.F) P.N d
 all:W.heap[ab]?=some (.cells #[.pointer (some ⟨P.bb,0,none⟩),.pointer (some ⟨P.dm+1,0,none⟩),.pointer (some ⟨P.fb,0,none⟩),.slice (some ⟨g,0,none⟩) P.NI P.NI] 83 (0,0))
 old:Old w W
 new:∀x,P.wr x->w.heap.size<=x/\x<ab
namespace RunC
variable {w W V:World} {P:FyP} {ab g:Nat} {a m:Int}
theorem on(h:RunC w P ab g a m W)(o:Old W V):RunC w P ab g a m V:=by
 obtain⟨c,d,h1,h2⟩:=h.ex
 exact⟨⟨c,d,h1.old o,h2⟩,(o.block _ (lt_of_block h.all)).trans h.all,h.old.trans o,h.new⟩
theorem cells(h:RunC w P ab g a m W):W.cell? ⟨ab,0,none⟩=some (.pointer (some ⟨P.bb,0,none⟩))/\W.cell? ⟨ab,2,none⟩=some (.pointer (some ⟨P.fb,0,none⟩)):=by
 have:=h.all
 exact⟨by simp [World.cell?,this],by simp [World.cell?,this]⟩
theorem ft(h:RunC w P ab g a m W):FtAt W P.fb (P.z0+2) P.bb a m:=by obtain⟨c,d,h1,_⟩:=h.ex;exact h1.ft
theorem bk(h:RunC w P ab g a m W):BkB W P.bb P.sz P.n P.NI P.q P.cq P.im P.ci P.D P.F/\BkN P.sz P.n P.NI P.D P.F:=by obtain⟨c,d,h1,_⟩:=h.ex;exact⟨h1.bk,h1.bn⟩
theorem start{n:Nat}{sl rt:Nat}{Z:Nat->Smp}(h:MdR w P ab g Z (cc0 sl rt) (dk0 P.NI P.F) W):RunC w P ab g 0 0 W:=
 ⟨⟨_,_,h.fy,fun i s hs=>(by(have h0:(none:Option Slt)=some s:=hs);cases h0),⟨fun _=>rfl,rfl,h.hN.symm⟩⟩,h.all,h.old,h.new⟩
theorem frame(h:RunC w P ab g a m W){Z:Nat->Smp}(pk:Pkd P.sz P.n Z P.F)(hD:P.D=plD (mtsD Z) P.sz P.n){i ch bl:Int}(hw:whI P.n P.D i ch bl=0):
  Calls Tryz.prog 37 #[.pointer (some ⟨P.fb,0,none⟩),.int .i64 i,.int .i64 ch,.int .i64 bl] W fun e V=>
   (∃X k p cap T,e = .returned (.tuple #[.agg (rowN 29 (frC X (.slice p k cap))),.int .i64 0])/\k<=cap/\cap<=maxLen/\SlF 2 V p k T/\Fits64 T/\FrP X k T /\
    Tells (lst (fun j=>P.F (frAt P.sz P.D i.toNat (whQ P.D i ch bl)+j)) P.sz) (enc X k T)/\∀F0 n0 T0,FrP F0 n0 T0->Tells (lst (fun j=>P.F (frAt P.sz P.D i.toNat (whQ P.D i ch bl)+j)) P.sz) (enc F0 n0 T0)->sameP X k T F0 n0 T0) /\
   RunC w P ab g (wrap64 (a+1)) m V:=by
 obtain⟨c,d,h1,h2,h3⟩:=h.ex
 obtain⟨G,c',d',e1,e2,e3,e4,e5⟩:=clean_fet h1 h2 h3 pk hD hw
 refine(fFrame_any P W c d a m h1 i ch bl hw).mono ?_
 rw [e1]
 rintro e V ⟨⟨X,k,p,cap,T,rfl,g1,g2,g3,g4,g5,g6,g7⟩,r2,r3⟩
 rw [show (⟨some G,c',d'⟩:Tkn).r=some G from rfl] at *
 rw [e5,if_pos rfl] at r2
 rw [e5] at g5 ⊢
 obtain⟨b,hb,k1,k2,k3⟩:=g5 rfl
 have hb:lst G P.sz=b:=Option.some.inj hb
 rw [←hb,lst_ext e2] at k2 k3
 refine⟨⟨X,k,p,cap,T,rfl,g1,g2,g3,g4,k1,k2,k3⟩,⟨⟨c',d',r2,e3,e4⟩,(r3.block ab ⟨lt_of_block h.all,fun hx=>by have:=(h.new _ hx).2;omega⟩).trans h.all,h.old.after r3 fun x hx=>⟨Nat.lt_of_lt_of_le hx h.old.size,fun hx2=>by have:=(h.new _ hx2).1;omega⟩,h.new⟩⟩
end RunC
structure ExP(S:Smp):Prop where
 s:S.s=⟨#[97]⟩
 r:S.r=1
 lp:S.lp=false
 a:S.a=0
 b:S.b=0
 n:S.n=1
 m:S.M 0=1
 x:S.X 0 0=5
namespace ExP
variable {S:Smp}
theorem check(h:ExP S):S.check=0:=by
 have hl:S.len=1:=by unfold Smp.len;rw [if_neg (by rw [h.n];omega),h.m];rfl
 have hn:nameB ⟨#[97]⟩=true:=nameB_yes ⟨⟨by decide,by decide⟩,fun i hi=>by
  have hi:i<1:=hi
  obtain rfl:i=0:=by omega
  decide⟩
 have h1:wrongI S.s S.len S.r S.n S.lp S.a S.b=0:=by
  rw [h.s,hl,h.r,h.n,h.lp,h.a,h.b]
  show wrongI ⟨#[97]⟩ 1 1 1 false 0 0=0
  unfold wrongI
  rw [hn,if_neg (by decide),if_neg (by decide),if_neg (by decide),if_pos (by unfold loopP;decide)]
 have h2:¬S.odd:=fun⟨k,hk,h'⟩=>by
  rw [h.n] at hk
  obtain rfl:k=0:=by omega
  exact h' rfl
 have h3:¬S.far:=fun⟨k,hk,i,hi,h'⟩=>by
  rw [h.n] at hk
  obtain rfl:k=0:=by omega
  rw [h.m] at hi
  obtain rfl:i=0:=by omega
  rw [h.x] at h'
  omega
 unfold Smp.check
 rw [h1,if_neg (by decide),if_neg h2,if_neg h3]
theorem pk{L:Nat->Smp}(h:ExP (L 0)):PkOk 24 1 L:=by
 have ha:allI L 1=0:=by
  refine allI_ok (by omega) ?_ fun⟨i,k,h1,h2,_⟩=>by omega
  rw [errTo_next rfl]
  exact h.check
 refine⟨by omega,by omega,ha,fun Z hz=>?_⟩
 obtain⟨m,hm,e⟩:=hz.frm 0 (by omega)
 obtain rfl:m=0:=by omega
 have hf:frD (mtsD Z) 0=1:=by
  unfold frD mtsD
  rw [e,smM_fr (Smp.check_v h.check),h.m,h.n]
  decide
 have h1:atTo (frD (mtsD Z)) 24 1 0=84:=rfl
 have h2:firstAt (frD (mtsD Z)) 24 1 0=96:=by unfold firstAt;rw [hf,h1];rfl
 show totalAt (frD (mtsD Z)) 24 1<=4194304
 unfold totalAt
 rw [atTo_succ,h2,hf]
 decide
end ExP
theorem exS_few{p q:Option Addr}{S:Smp}(h:FewOf (exS p q) S):ExP S where
 s:=by rw [h.s];exact if_neg (show ¬100<(⟨#[97]⟩:ByteArray).size by decide)
 r:=h.r
 lp:=h.lp
 a:=h.a
 b:=h.b
 n:=h.n
 m:=by rw [h.M];rfl
 x:=by rw [h.X];rfl
set_option maxHeartbeats 4000000 in
theorem awake18_any(w:World):Calls Tryz.prog 36 #[] w fun e w'=>e = .returned (.bool true)/\Old w w':=by
 have Hs29:Hid ((Tryz.prog.info? 69).map (·.size)=some 29):=zH (by kernel_rfl)
 obtain⟨W3,hW3⟩:∃W,W=(((w.alloc (.cells #[.int .i64 5] 3)).alloc (.cells #[.slice (some ⟨w.heap.size,0,none⟩) 1 1] 52)).alloc (.cells (exS (some ⟨w.heap.size+1,0,none⟩) (some ⟨w.heap.size,0,none⟩)).cells 50)):=⟨_,rfl⟩
 have ho:Old w W3:=by rw [hW3];exact((Old.alloc w _).alloc' _).alloc' _
 have hsm:SmsS W3 (some ⟨w.heap.size+1+1,0,none⟩) 1 (fun _=>exS (some ⟨w.heap.size+1,0,none⟩) (some ⟨w.heap.size,0,none⟩)):=by rw [hW3];exact exS_sms w _ _ _
 have HMd:=zH (made18_any 24 _ 1 1 _ 1 0 W3 hsm)
 have HO:=zH ho
 unfold exS Smp.cells at hW3
 have HW3:=zH hW3
 clear hW3 ho hsm
 go_enter Tryz.func36,Tryz.ntmps36
 go_wp2_with fail
 rw [←HW3.out]
 refine HMd.out.mono ?_
 rintro e V ⟨Z0,hfo,⟨rfl,_,hno⟩ | ⟨_,_,_,_,_,_,P,ab,g,Z,rfl,hz,hn,hord,hmd⟩⟩
 ·exact absurd ⟨(exS_few (hfo 0 (by decide)).2).pk,by omega,by omega,by omega,by omega⟩ hno
 have hr:=RunC.start (n:=0) hmd
 have hpk:=hmd.pk
 have hD:=hmd.hD
 have hn1:P.n=1:=hn
 have hwh:whI P.n P.D 0 0 0=0:=by
  have hv:=hpk.v 0 (by omega)
  have h1:=(hpk.bkN.ok 0 (by omega)).c1
  have h2:=(hpk.bkN.ok 0 (by omega)).n1
  rw [←hD] at h1 h2
  refine whI_at (k:=0) (c:=0) (b:=0) (by omega) (by omega) ?_
  unfold cnt
  omega
 have HRf:=zH (fun(V:World) (a m:Int) (h:RunC W3 P ab g a m V)=>h.frame hpk hD hwh)
 obtain⟨fb,hfb⟩:∃x,x=P.fb:=⟨_,rfl⟩
 have HC:=zH (fun(V:World) (a m:Int) (h:RunC W3 P ab g a m V)=>h.cells.2)
 have HFr:=zH (fun(V:World) (a m:Int) (h:RunC W3 P ab g a m V)=>fFrames_at P.fb (P.z0+2) P.bb a m V h.ft)
 have HMi:=zH (fun(V:World) (a m:Int) (h:RunC W3 P ab g a m V)=>fMissed_at P.fb (P.z0+2) P.bb a m V h.ft)
 rw [←hfb] at HRf HC HFr HMi
 have HR:=zH hr
 have c2:=HC.out _ _ _ hr
 clear hr hmd hpk hD hn hn1 hwh hz hord hfo hfb HMd HW3
 go_wp2_with fail
 refine(HRf.out _ _ _ HR.out).mono ?_
 rintro e V1 ⟨⟨X,k,p,cap,T,rfl,_⟩,hr1⟩
 have H1g:Hid ((rowN 29 (frC X (.slice p k cap))).all (·.oneCell')=true):=zH (frC_one _ _ rfl)
 obtain⟨V2,hV2⟩:∃x,x=V1.alloc (.cells (rowN 29 (frC X (.slice p k cap))) 69):=⟨_,rfl⟩
 have hr2:=hr1.on (V:=V2) (by rw [hV2];exact Old.alloc _ _)
 have HR2:=zH hr2
 have HV2:=zH hV2
 have c3:=HC.out _ _ _ hr2
 clear hr1 hr2 hV2 c2 HR
 go_wp2_with (with_reducible refine wpList_store_row rfl 69 _ _ rfl V1.heap.size (rowN 29 (frC X (.slice p k cap))) rfl rfl 69 _ (heap_alloc_new _ _) (by rw [rowN_size];exact Hs29.out) (by rw [rowN_size];kernel_rfl) H1g.out ?_;rw [World.setRow_alloc_new,←HV2.out])
 refine(HRf.out _ _ _ HR2.out).mono ?_
 rintro e V3 ⟨⟨X2,k2,p2,cap2,T2,rfl,_⟩,hr3⟩
 have H2g:Hid ((rowN 29 (frC X2 (.slice p2 k2 cap2))).all (·.oneCell')=true):=zH (frC_one _ _ rfl)
 obtain⟨V4,hV4⟩:∃x,x=V3.alloc (.cells (rowN 29 (frC X2 (.slice p2 k2 cap2))) 69):=⟨_,rfl⟩
 have hr4:=hr3.on (V:=V4) (by rw [hV4];exact Old.alloc _ _)
 rw [show wrap64 (wrap64 (0+1)+1)=2 from by rw [IntWalk.wrap64_in (0+1) (by omega),IntWalk.wrap64_in (0+1+1) (by omega)];rfl] at hr4
 have HR4:=zH hr4
 have HV4:=zH hV4
 have c4:=HC.out _ _ _ hr4
 clear hr3 hr4 hV4 c3 HR2 H1g
 go_wp2_with (with_reducible refine wpList_store_row rfl 69 _ _ rfl V3.heap.size (rowN 29 (frC X2 (.slice p2 k2 cap2))) rfl rfl 69 _ (heap_alloc_new _ _) (by rw [rowN_size];exact Hs29.out) (by rw [rowN_size];kernel_rfl) H2g.out ?_;rw [World.setRow_alloc_new,←HV4.out])
 refine(HFr.out _ _ _ HR4.out).mono ?_
 rintro e V5 ⟨rfl,rfl⟩
 go_wp2_with fail
 refine(HMi.out _ _ _ HR4.out).mono ?_
 rintro e V5 ⟨rfl,rfl⟩
 go_wp2_with fail
 go_ret
 exact⟨rfl,HO.out.trans HR4.out.old⟩
set_option maxHeartbeats 4000000 in
theorem fetNob_any(i:Int)(w:World):Calls Tryz.prog 9 #[.int .i64 i] w fun e w'=>e = .returned (.bool true)/\Old w w':=by
 have Hs29:Hid ((Tryz.prog.info? 69).map (·.size)=some 29):=zH (by kernel_rfl)
 obtain⟨z,hz⟩:∃z:Array Value,z=rowN 29 (frC (fun _=>0) (.slice none 0 0)):=⟨_,rfl⟩
 have hzs:z.size=29:=by rw [hz,rowN_size]
 have hz1:z.all (·.oneCell')=true:=by rw [hz];exact frC_one _ _ rfl
 obtain⟨b,hb⟩:∃b,b=w.heap.size:=⟨_,rfl⟩
 obtain⟨W,hW⟩:∃W,W=w.alloc (.cells #[.pointer none,.pointer none,.int .i64 0,.int .i64 0] 92):=⟨_,rfl⟩
 have HO:=zH (show Old w W by rw [hW];exact Old.alloc _ _)
 have hZ0:NoFt W (.pointer (some ⟨b,0,none⟩)):=.inr ⟨b,rfl,by rw [hW,hb];simp,by rw [hW,hb];exact(cell_of_row _ _ _ _ _ _ (heap_alloc_new _ _)).trans rfl⟩
 have HZ:=zH (fun V (hV:Old W V)=>hZ0.old hV)
 have HF:Hid (∀v V,NoFt V v->Calls Tryz.prog 37 #[v,.int .i64 i,.int .i64 0,.int .i64 0] V fun e w'=>e = .returned (.tuple #[.agg z,.int .i64 16])/\Old V w'):=zH fun v V h=>by rw [hz];exact fFrame_no v i 0 0 V h
 have Hzs:=zH hzs
 have Hz1:=zH hz1
 have HW:=zH hW
 have HB:=zH hb
 clear hb hW hZ0 hz hzs hz1
 go_enter Tryz.func9,Tryz.ntmps9
 go_wp2_with fail
 rw [←HW.out,←HB.out]
 refine(HF.out _ W (.inl rfl)).mono ?_
 rintro e V ⟨rfl,ho⟩
 obtain⟨V2,hV2⟩:∃x,x=V.alloc (.cells z 69):=⟨_,rfl⟩
 have HO2:=zH (show Old W V2 by rw [hV2];exact ho.alloc' _)
 have HV2:=zH hV2
 clear ho hV2 HW
 go_wp2_with (with_reducible refine wpList_store_row rfl 69 _ _ rfl V.heap.size z rfl rfl 69 _ (heap_alloc_new _ _) (by rw [Hzs.out];exact Hs29.out) (by rw [Hzs.out];kernel_rfl) Hz1.out ?_;rw [World.setRow_alloc_new,←HV2.out])
 refine(HF.out _ V2 (HZ.out _ HO2.out)).mono ?_
 rintro e V3 ⟨rfl,ho⟩
 obtain⟨V4,hV4⟩:∃x,x=V3.alloc (.cells z 69):=⟨_,rfl⟩
 have HO4:=zH (show Old W V4 by rw [hV4];exact(HO2.out.trans ho).alloc' _)
 have HV4:=zH hV4
 clear ho hV4 HO2
 go_wp2_with (with_reducible refine wpList_store_row rfl 69 _ _ rfl V3.heap.size z rfl rfl 69 _ (heap_alloc_new _ _) (by rw [Hzs.out];exact Hs29.out) (by rw [Hzs.out];kernel_rfl) Hz1.out ?_;rw [World.setRow_alloc_new,←HV4.out])
 refine(fNew_nil _ V4).mono ?_
 rintro e V5 ⟨rfl,hv⟩
 subst hv
 go_wp2_with fail
 refine(fBank_no _ V4 (.inl rfl)).mono ?_
 rintro e V5 ⟨rfl,hv⟩
 subst hv
 go_wp2_with fail
 refine(fFrames_no _ V4 (HZ.out _ HO4.out)).mono ?_
 rintro e V5 ⟨rfl,hv⟩
 subst hv
 go_wp2_with fail
 refine(fMissed_no _ V4 (.inl rfl)).mono ?_
 rintro e V5 ⟨rfl,hv⟩
 subst hv
 go_wp2_with fail
 refine(awake18_any V4).mono ?_
 rintro e V6 ⟨rfl,ho⟩
 have HO6:=zH (HO4.out.trans ho)
 clear ho HO4
 go_wp2_with fail
 go_ret
 exact⟨rfl,HO.out.trans HO6.out⟩
def frBs(P:FyP)(i ch bl:Int):List Int:=lst (fun j=>P.F (frAt P.sz P.D i.toNat (whQ P.D i ch bl)+j)) P.sz
def FrO(bs:List Int)(E:Int)(X:Nat->Int)(k:Nat)(p:Option Addr)(T:Nat->Int):Prop:=
 (E=0->FrP X k T/\Tells bs (enc X k T)/\∀F0 n0 T0,FrP F0 n0 T0->Tells bs (enc F0 n0 T0)->sameP X k T F0 n0 T0)/\(E≠0->k=0/\p=none/\∀j,X j=0)
def nxt(E:Int)(m:Nat):Nat:=if E=0 then m+1 else m
namespace RunC
variable {w W V:World} {P:FyP} {ab g:Nat} {a m:Int}
theorem rowC(h1:RunC w P ab g a m W){a2 m2:Int}{V V':World}(h:RunC w P ab g a2 m2 V){b:Nat}{x:Int}(hb:W.heap.size<=b)(hx:V.cell? ⟨b,0,none⟩=some (.int .i64 x))(k:Kept (fun q=>q≠b) V V'):RunC w P ab g a2 m2 V':=by
 obtain⟨c1,d1,f1,_⟩:=h1.ex
 obtain⟨c,d,f,r⟩:=h.ex
 have hab:=lt_of_block h1.all
 refine⟨⟨c,d,f1.row f hb hx k,r⟩,(k.block ab (by omega)).trans h.all,h.old.after k fun q hq=>?_,h.new⟩
 have:=h1.old.size
 omega
theorem frame2{m:Nat}(h:RunC w P ab g m 0 W)(hm:m<=1000){Z:Nat->Smp}(pk:Pkd P.sz P.n Z P.F)(hD:P.D=plD (mtsD Z) P.sz P.n)(i ch bl:Int):
  Calls Tryz.prog 37 #[.pointer (some ⟨P.fb,0,none⟩),.int .i64 i,.int .i64 ch,.int .i64 bl] W fun e V=>
   (∃X k p cap T,e = .returned (.tuple #[.agg (rowN 29 (frC X (.slice p k cap))),.int .i64 (whI P.n P.D i ch bl)])/\k<=cap/\cap<=maxLen/\SlF 2 V p k T/\Fits64 T/\FrO (frBs P i ch bl) (whI P.n P.D i ch bl) X k p T/\(0<k->∀a,p=some a->W.heap.size<=a.block)) /\
   RunC w P ab g (nxt (whI P.n P.D i ch bl) m:Nat) 0 V/\Kept (P.but W) W V:=by
 obtain⟨c,d,h1,h2,h3⟩:=h.ex
 by_cases hw:whI P.n P.D i ch bl=0
 ·obtain⟨G,c',d',e1,e2,e3,e4,e5⟩:=clean_fet h1 h2 h3 pk hD hw
  refine(fFrame_any P W c d m 0 h1 i ch bl hw).mono ?_
  rw [e1]
  rintro e V ⟨⟨X,k,p,cap,T,rfl,g1,g2,g3,g4,g5,g6,g7⟩,r2,r3⟩
  rw [show (⟨some G,c',d'⟩:Tkn).r=some G from rfl] at *
  rw [e5,if_pos rfl] at r2
  rw [e5] at g5 ⊢
  obtain⟨b,hb,k1,k2,k3⟩:=g5 rfl
  have hb:lst G P.sz=b:=Option.some.inj hb
  rw [←hb,lst_ext e2] at k2 k3
  have hn:wrap64 ((m:Int)+1)=((nxt (whI P.n P.D i ch bl) m:Nat):Int):=by
   rw [IntWalk.wrap64_in _ (by omega)]
   unfold nxt
   rw [if_pos hw]
   omega
  rw [hn] at r2
  refine⟨⟨X,k,p,cap,T,by rw [hw],g1,g2,g3,g4,⟨fun _=>⟨k1,k2,k3⟩,fun e=>absurd hw e⟩,g7⟩,⟨⟨c',d',r2,e3,e4⟩,(r3.block ab ⟨lt_of_block h.all,fun hx=>by have:=(h.new _ hx).2;omega⟩).trans h.all,h.old.after r3 fun x hx=>⟨Nat.lt_of_lt_of_le hx h.old.size,fun hx2=>by have:=(h.new _ hx2).1;omega⟩,h.new⟩,r3⟩
 ·refine(fFrame_out P W c d m 0 h1 i ch bl hw).mono ?_
  rintro e V ⟨rfl,o⟩
  have hn:nxt (whI P.n P.D i ch bl) m=m:=by unfold nxt;rw [if_neg hw]
  rw [hn]
  exact⟨⟨fun _=>0,0,none,0,fun _=>0,rfl,Nat.le_refl _,Nat.zero_le _,fun h=>absurd h (by omega),fun _=>by dsimp only;omega,⟨fun e=>absurd e hw,fun _=>⟨rfl,rfl,fun _=>rfl⟩⟩,fun h=>absurd h (by omega)⟩,h.on o,o.kept fun x hx=>hx.1⟩
end RunC
structure GotB(W V:World)(nb:Nat)(X:Nat->Int)(k:Nat)(p:Option Addr)(cap:Nat)(T:Nat->Int):Prop where
 cells:CellsV V nb 29 (frC X (.slice p k cap))
 ge:W.heap.size<=nb
 k1:k<=cap
 k2:cap<=maxLen
 tn:SlF 2 V p k T
 ft:Fits64 T
theorem GotB.old{W V V2:World}{nb:Nat}{X:Nat->Int}{k:Nat}{p:Option Addr}{cap:Nat}{T:Nat->Int}(h:GotB W V nb X k p cap T)(o:Old V V2):GotB W V2 nb X k p cap T:=⟨h.cells.old o,h.ge,h.k1,h.k2,h.tn.old o,h.ft⟩
theorem got_set{w W V:World}{P:FyP}{ab g:Nat}{a m a2 m2:Int}(h1:RunC w P ab g a m W)(h:RunC w P ab g a2 m2 V)(hK:Kept (P.but W) W V){nb:Nat}(hb:W.heap.size<=nb)(hc:CellsV V nb 29 (frC (fun _=>0) (.slice none 0 0)))
  {X:Nat->Int} {k:Nat} {p:Option Addr} {cap:Nat} {T:Nat->Int} (g1:k<=cap) (g2:cap<=maxLen) (g3:SlF 2 V p k T) (g4:Fits64 T) (g7:0<k->∀a,p=some a->a.block≠nb):
  RunC w P ab g a2 m2 (V.setCells nb 0 (rowN 29 (frC X (.slice p k cap))).toList)/\Kept (P.but W) W (V.setCells nb 0 (rowN 29 (frC X (.slice p k cap))).toList)/\GotB W (V.setCells nb 0 (rowN 29 (frC X (.slice p k cap))).toList) nb X k p cap T:=by
 have k2:Kept (fun q=>q≠nb) V (V.setCells nb 0 (rowN 29 (frC X (.slice p k cap))).toList):=Kept.setCells V (b:=nb) (fun e=>e rfl) 0 _
 exact⟨h1.rowC h hb (hc.cell 0 (by omega)) k2,hK.trans (k2.mono fun x hx e=>by have:=hx.1;omega),cellsV_all hc _,hb,g1,g2,g3.kept k2 (fun a hn ha=>g7 hn a ha),g4⟩
theorem but_new{w W:World}{P:FyP}{ab g:Nat}{a m:Int}(h:RunC w P ab g a m W)(z:Obj):P.but (W.alloc z) W.heap.size:=by
 refine⟨by simp,fun hx=>?_⟩
 have h1:=(h.new _ hx).2
 have h2:=lt_of_block h.all
 omega
theorem same_zero{X:Nat->Int}{k:Nat}{p:Option Addr}{cap:Nat}{T:Nat->Int}(w:World)(hk:k=0)(hX:∀j,X j=0)(hc:SlF 2 w p k T):Calls Tryz.prog 34 #[.agg (rowN 29 (frC X (.slice p k cap))),.agg (rowN 29 (frC (fun _=>0) (.slice none 0 0)))] w fun e w'=>e = .returned (.bool true)/\Old w w':=by
 have h:=Same_any X (fun _=>0) p none k 0 cap 0 T (fun _=>0) w hc (fun h=>absurd h (by omega)) (by unfold maxLen;omega) (Nat.zero_le _)
 rw [decide_eq_true (show sameP X k T (fun _=>0) 0 (fun _=>0) from⟨hk,fun j hj=>by omega,fun j _ _=>hX j⟩)] at h
 exact h
theorem same_yes{X Y:Nat->Int}{k n:Nat}{p q:Option Addr}{cap cap2:Nat}{T U:Nat->Int}(w:World)(h1:SlF 2 w p k T)(h2:SlF 2 w q n U)(h3:k<=maxLen)(h4:n<=maxLen)(hs:sameP X k T Y n U):Calls Tryz.prog 34 #[.agg (rowN 29 (frC X (.slice p k cap))),.agg (rowN 29 (frC Y (.slice q n cap2)))] w fun e w'=>e = .returned (.bool true)/\Old w w':=by
 have h:=Same_any X Y p q k n cap cap2 T U w h1 h2 h3 h4
 rw [decide_eq_true hs] at h
 exact h
theorem RunC.bytes{w W:World}{P:FyP}{ab g:Nat}{a m:Int}(h:RunC w P ab g a m W){i ch bl:Int}(hw:whI P.n P.D i ch bl=0):
  Calls Tryz.prog 29 #[.pointer (some ⟨P.bb,0,none⟩),.int .i64 i,.int .i64 ch,.int .i64 bl] W fun e V=>∃q2 c2,e = .returned (.tuple #[.slice q2 P.sz c2,.int .i64 0])/\P.sz<=c2/\c2<=maxLen/\SlU V q2 P.sz (fun j=>P.F (frAt P.sz P.D i.toNat (whQ P.D i ch bl)+j))/\Old W V:=by
 obtain⟨hb,hN⟩:=h.bk
 obtain⟨k,cc,b,rfl,rfl,rfl,h1,h2,h3⟩:=whI_ok hw
 have hpl:=hN.pl k _ h1 (whQ_lt h2 h3)
 have hok:=hN.ok k h1
 have hc1:=hok.c1
 have hx:=hN.x k h1
 have hy:=hN.y k h1
 rw [whQ_at] at hpl
 have:=BBytes_at P.bb P.sz P.n P.NI P.q P.cq P.im P.ci P.D P.F W hb hN.z1 hN.z2 hN.byt hN.n64 k h1 hok (P.D k).c.toNat cc b (P.D k).x.toNat (P.D k).y.toNat (by omega) (by omega) h3 (by omega) (by omega) hpl.1 (by have:=hN.N4;omega) hpl.2
 rw [Int.toNat_natCast,whQ_at]
 exact this
theorem frBs_byt{P:FyP}(hN:BkN P.sz P.n P.NI P.D P.F){i ch bl:Int}(hw:whI P.n P.D i ch bl=0):Byt (fun j=>P.F (frAt P.sz P.D i.toNat (whQ P.D i ch bl)+j)) P.sz:=fun j hj=>by
 obtain⟨k,cc,b,rfl,rfl,rfl,h1,h2,h3⟩:=whI_ok hw
 have hpl:=(hN.pl k _ h1 (whQ_lt h2 h3)).2
 rw [Int.toNat_natCast]
 exact hN.byt _ (by unfold frAt;omega)
set_option maxHeartbeats 16000000 in
theorem fetCl_any(sz:Int)(q:Option Addr)(n c:Nat)(L:Nat->Smp)(sl:Int)(r:Option Addr)(N cap:Nat)(K:Nat->Int)(w:World)(hs:SmsS w q n L)(hK:SlF 3 w r N K)(h6:Fits64 K):
  Calls Tryz.prog 7 #[.int .i64 sz,.slice q n c,.int .i64 sl,.slice r N cap] w fun e w'=>e = .returned (.bool true)/\Old w w':=by
 have Hs29:Hid ((Tryz.prog.info? 69).map (·.size)=some 29):=zH (by kernel_rfl)
 have Hs3:Hid ((Tryz.prog.info? 79).map (·.size)=some 3):=zH (by kernel_rfl)
 obtain⟨z,hz⟩:∃z:Array Value,z=rowN 29 (frC (fun _=>0) (.slice none 0 0)):=⟨_,rfl⟩
 have HZf:=zH hz
 rw [frC_zero] at hz
 have Hz:=zH hz
 have HMd:=zH (made18_any sz q n c L sl 0 w hs)
 have HK:=zH hK
 clear hs hK h6 hz
 go_enter Tryz.func7,Tryz.ntmps7
 go_wp2_with fail
 refine HMd.out.mono ?_
 rintro e W0 ⟨Z0,_,⟨rfl,o0,_⟩ | ⟨_,_,_,_,_,_,P,ab,g,Z,rfl,_,_,_,hmd⟩⟩
 ·have HO:=zH o0
  clear o0 HMd
  go_wp2_with fail
  refine(awake18_any W0).mono ?_
  rintro e V ⟨rfl,o⟩
  have HE:=zH (HO.out.trans o)
  clear o
  go_wp2_with fail
  go_ret
  exact⟨rfl,HE.out⟩
 have hr:=RunC.start (n:=0) hmd
 have hpk:=hmd.pk
 have hD:=hmd.hD
 have HFr:=zH (fun(V:World) (m:Nat) (h:RunC w P ab g m 0 V) (hm:m<=1000) (i ch bl:Int)=>h.frame2 hm hpk hD i ch bl)
 have HWh:=zH (fun(V:World) (m:Nat) (h:RunC w P ab g m 0 V) (i ch bl:Int)=>BWhere_any P.bb P.sz P.n P.NI P.q P.cq P.im P.ci P.D P.F V h.bk.1 h.bk.2 i ch bl)
 have HBy:=zH (fun(V:World) (m:Nat) (h:RunC w P ab g m 0 V) (i ch bl:Int) (hw:whI P.n P.D i ch bl=0)=>h.bytes hw)
 have HBb:=zH (fun(V:World) (m:Nat) (h:RunC w P ab g m 0 V) (i ch bl:Int) (hw:whI P.n P.D i ch bl=0)=>frBs_byt h.bk.2 hw)
 have HC:=zH (fun(V:World) (m:Nat) (h:RunC w P ab g m 0 V)=>h.cells)
 have HFs:=zH (fun(V:World) (m:Nat) (h:RunC w P ab g m 0 V)=>fFrames_at P.fb (P.z0+2) P.bb m 0 V h.ft)
 have HMi:=zH (fun(V:World) (m:Nat) (h:RunC w P ab g m 0 V)=>fMissed_at P.fb (P.z0+2) P.bb m 0 V h.ft)
 have HBk:=zH (fun(V:World) (m:Nat) (h:RunC w P ab g m 0 V)=>fBank_at P.fb (P.z0+2) P.bb m 0 V h.ft)
 have HDi:=zH (fun(V:World) (m:Nat) (h:RunC w P ab g m 0 V)=>BDir_at P.bb P.sz P.n P.NI P.q P.cq P.im P.ci P.D P.F V h.bk.1 (by have:=h.bk.2.z1;omega) (by have:=h.bk.2.n64;omega))
 have hz96:=hpk.z2
 have Hn64:=zH hpk.n64
 obtain⟨bb,hbb⟩:∃x,x=P.bb:=⟨_,rfl⟩
 obtain⟨fb,hfb⟩:∃x,x=P.fb:=⟨_,rfl⟩
 obtain⟨fz,hfz⟩:∃x,x=P.sz:=⟨_,rfl⟩
 rw [←hbb] at HWh HBy HC HBk HDi
 rw [←hfb] at HFr HC HFs HMi HBk
 rw [←hfz] at HBy HBb hz96
 have HFz:=zH hfz
 have HR:=zH (show RunC w P ab g ((0:Nat):Int) 0 W0 from hr)
 clear hr hpk hD hmd HMd hbb hfb hfz
 go_wp2_with fail
 go_loopw [10,11] (fun nv iv wr=>∃m i:Nat,i<=N/\i<=40/\m<=i/\nv = .int .i64 m/\iv = .int .i64 i/\Hid (RunC w P ab g m 0 wr)) (fun _ iv _=>40-(intOf iv).toNat)
 case atStart=>exact⟨0,0,by omega,by omega,by omega,by go_num,by go_num,HR⟩
 case round=>
  clear HR
  obtain⟨m,i,hiN,hi4,hmi,rfl,rfl,HR⟩:=hrel
  go_upto_region 6 with (fail)
  go_cut [36] (fun v wx=>v = .bool (decide (i<N/\i<40))/\wr=wx)
  case first=>
   clear HR HK HFr HWh HBy HC HFs HMi HBk HDi HBb
   by_cases a1:i<N
   ·by_cases a2:i<40
    ·have He:=zH (show decide (i<N/\i<40)=true from decide_eq_true ⟨a1,a2⟩)
     go_wp2_with fail
     go_meet
     exact⟨by first | (rw [He.out];done) | (rw [He.out];exact congrArg Value.bool (decide_eq_true (by omega))) | (rw [He.out];exact congrArg Value.bool (decide_eq_false (by omega))),rfl⟩
    ·have He:=zH (show decide (i<N/\i<40)=false from decide_eq_false fun h=>a2 h.2)
     go_wp2_with fail
     go_meet
     exact⟨by first | (rw [He.out];done) | (rw [He.out];exact congrArg Value.bool (decide_eq_true (by omega))) | (rw [He.out];exact congrArg Value.bool (decide_eq_false (by omega))),rfl⟩
   ·have He:=zH (show decide (i<N/\i<40)=false from decide_eq_false fun h=>a1 h.1)
    go_wp2_with fail
    go_meet
    exact⟨by first | (rw [He.out];done) | (rw [He.out];exact congrArg Value.bool (decide_eq_true (by omega))) | (rw [He.out];exact congrArg Value.bool (decide_eq_false (by omega))),rfl⟩
  case rest=>as_aux_lemma=>
   obtain⟨rfl,rfl⟩:=hcut
   by_cases ha:i<N/\i<40
   ·rw [decide_eq_true ha]
    have h8:=ha.2
    have hn:=ha.1
    have HIN:=zH ha
    clear ha
    obtain⟨gw,ow,rfl,hgw,hcs⟩:=HK.out.old HR.out.old (by omega)
    have hcw:∀j,j<3->wr.cell? ⟨gw,ow+i*3+j,none⟩=some (.int .i64 (K (3*i+j))):=fun j hj=>by
     have:=hcs (3*i+j) (by omega)
     rw [show ow+(3*i+j)=ow+i*3+j by omega] at this
     exact this
    have HCw:=zH hcw
    obtain⟨kk,hkk⟩:∃kk:Nat->Int,kk=fun j=>K (3*i+j):=⟨_,rfl⟩
    have HCw:Hid (∀j,j<3->wr.cell? ⟨gw,ow+i*3+j,none⟩=some (.int .i64 (kk j))):=zH (by rw [hkk];exact hcw)
    have H3one:Hid ((rowN 3 (blk kk)).all (·.oneCell')=true):=zH (rowN_one _ _ fun k _=>rfl)
    have q0:(0:Int)<=i:=by omega
    have q1:(i:Int)<N:=by omega
    obtain⟨W8,hW8⟩:∃W8,W8=wr.alloc (.cells (rowN 3 (blk kk)) 79):=⟨_,rfl⟩
    obtain⟨bw,hbw⟩:∃b,b=wr.heap.size:=⟨_,rfl⟩
    have hb8:W8.heap[bw]?=some (.cells (rowN 3 (blk kk)) 79 (0,0)):=by rw [hW8,hbw];exact heap_alloc_new _ _
    have hr8:=HR.out.on (V:=W8) (by rw [hW8];exact Old.alloc _ _)
    have HR8:=zH hr8
    have hcc:∀V,Kept (P.but W8) W8 V->V.cell? ⟨bw,0,none⟩=some (.int .i64 (kk 0))/\V.cell? ⟨bw,1,none⟩=some (.int .i64 (kk 1))/\V.cell? ⟨bw,2,none⟩=some (.int .i64 (kk 2)):=fun V hV=>by
     have hbut:P.but W8 bw:=by rw [hW8,hbw];exact but_new HR.out _
     have hb:=(hV.block bw hbut).trans hb8
     exact⟨(cell_of_row _ _ _ _ _ _ hb).trans (rowN_at 3 _ 0 (by omega)),(cell_of_row _ _ _ _ _ _ hb).trans (rowN_at 3 _ 1 (by omega)),(cell_of_row _ _ _ _ _ _ hb).trans (rowN_at 3 _ 2 (by omega))⟩
    have HCc:=zH hcc
    have HW8:=zH hW8
    have HBw:=zH hbw
    clear hcw hkk hW8 hbw hb8 hr8 hcc hcs hgw HR
    go_upto_region 9 with (first | (with_reducible refine wpList_load_blk rfl 3 kk 79 _ rfl gw (ow+i*3) rfl _ HCw.out Tryz.underlying79 rfl Hs3.out ?_) | (with_reducible refine wpList_store_row rfl 79 _ _ rfl wr.heap.size (rowN 3 (blk kk)) rfl rfl 79 _ (heap_alloc_new _ _) (by rw [rowN_size];exact Hs3.out) (by rw [rowN_size];kernel_rfl) H3one.out ?_;rw [World.setRow_alloc_new,←HW8.out,←HBw.out]))
    obtain⟨E,hE⟩:∃E,E=whI P.n P.D (kk 0) (kk 1) (kk 2):=⟨_,rfl⟩
    obtain⟨bs,hbs⟩:∃bs,bs=frBs P (kk 0) (kk 1) (kk 2):=⟨_,rfl⟩
    have HE:=zH hE
    have HBs:=zH hbs
    have HFr2:Hid (∀V,RunC w P ab g m 0 V->Calls Tryz.prog 37 #[.pointer (some ⟨fb,0,none⟩),.int .i64 (kk 0),.int .i64 (kk 1),.int .i64 (kk 2)] V fun e V'=>
      (∃X k p cap T,e = .returned (.tuple #[.agg (rowN 29 (frC X (.slice p k cap))),.int .i64 E])/\k<=cap/\cap<=maxLen/\SlF 2 V' p k T/\Fits64 T/\FrO bs E X k p T/\(0<k->∀a,p=some a->V.heap.size<=a.block)) /\
      RunC w P ab g (nxt E m:Nat) 0 V'/\Kept (P.but V) V V'):=zH fun V h=>by
     rw [hE,hbs]
     exact HFr.out V m h (by omega) _ _ _
    have HWh2:=zH (fun(V:World) (m:Nat) (h:RunC w P ab g m 0 V)=>HWh.out V m h (kk 0) (kk 1) (kk 2))
    rw [←hE] at HWh2
    clear hE hbs q0 q1 hn HCw HK HWh
    try simp only [Act.put,sA,sZ,sS]
    go_cut [13,14] (fun bv ev wx=>∃nb X k p cap T,bv = .pointer (some ⟨nb,0,none⟩)/\ev = .int .i64 E/\Hid (RunC w P ab g (nxt E m:Nat) 0 wx/\Kept (P.but W8) W8 wx/\GotB W8 wx nb X k p cap T/\FrO bs E X k p T))
    case first=>as_aux_lemma=>
     clear HWh2 HBy HFs HMi HBk HDi HBb HE HBs HFr
     have hd:Old W8 W8.drew:=(Old.refl W8).drew
     have HD:=zH hd
     have HS:Hid (∀V m',RunC w P ab g ((m':Nat):Int) 0 V->Kept (P.but W8) W8 V->V.cell? ⟨ab,2,none⟩=some (.pointer (some ⟨fb,0,none⟩))/\V.cell? ⟨bw,0,none⟩=some (.int .i64 (kk 0))/\V.cell? ⟨bw,1,none⟩=some (.int .i64 (kk 1))/\V.cell? ⟨bw,2,none⟩=some (.int .i64 (kk 2))):=zH fun V m' h k=>⟨(HC.out V m' h).2,HCc.out V k⟩
     clear hd HC HCc
     refine wp_region_held_drew (S:=(fun V=>V.cell? ⟨ab,2,none⟩=some (.pointer (some ⟨fb,0,none⟩))/\V.cell? ⟨bw,0,none⟩=some (.int .i64 (kk 0))/\V.cell? ⟨bw,1,none⟩=some (.int .i64 (kk 1))/\V.cell? ⟨bw,2,none⟩=some (.int .i64 (kk 2)))) (by kernel_rfl) ?_ (fun hHeld=>?_)
     ·(try dsimp only);exact HS.out _ _ (HR8.out.on HD.out) (HD.out.kept fun x hx=>hx.1)
     refine wpU 0 rfl ?_;try simp only [Act.put,sA,sZ,sS]
     refine wpU 1 rfl ?_;try simp only [Act.put,sA,sZ,sS]
     refine wpU 2 rfl ?_;try simp only [Act.put,sA,sZ,sS]
     refine wpU 3 rfl ?_;try simp only [Act.put,sA,sZ,sS]
     refine wpU 4 rfl ?_;try simp only [Act.put,sA,sZ,sS]
     refine wpU 5 rfl ?_;try simp only [Act.put,sA,sZ,sS]
     refine wpU 6 rfl ?_;try simp only [Act.put,sA,sZ,sS]
     refine wpU 7 rfl ?_;try simp only [Act.put,sA,sZ,sS]
     refine wpU 8 rfl ?_;try simp only [Act.put,sA,sZ,sS]
     refine wpU 9 rfl ?_;try simp only [Act.put,sA,sZ,sS]
     refine wpAnyH_ready (rs:=[10,14]) (by kernel_rfl) (by simp) ?_
     (refine AllReadyH.cons (o:=⟨_,_,_,_,_,_⟩) (by rfl) ?_ (AllReadyH.cons (o:=⟨_,_,_,_,_,_⟩) (by rfl) ?_ AllReadyH.nil)) <;> intro K hK
     ·go_simp
      refine(HFr2.out _ (HR8.out.on HD.out)).mono ?_
      rintro e V ⟨⟨X,k,p,cap,T,rfl,g1,g2,g3,g4,g5,g7⟩,hr,hk⟩
      have hk8:Kept (P.but W8) W8 V:=(HD.out.kept (X:=P.but W8) fun x hx=>hx.1).trans (hk.mono fun x hx=>hx)
      have H1x:Hid ((rowN 29 (frC X (.slice p k cap))).all (·.oneCell')=true):=zH (frC_one _ _ rfl)
      have hsz:=hk8.size
      have HG:=zH (got_set HR8.out (hr.on (Old.alloc V (.cells z 69))) (hk8.trans ((Old.alloc V (.cells z 69)).kept fun x hx=>Nat.lt_of_lt_of_le hx.1 hsz)) (nb:=V.heap.size) hsz (newFr V z 69 HZf.out) (X:=X) g1 g2 (g3.old (Old.alloc V _)) g4 (fun hn a ha=>by
       obtain⟨g',o',e,hl,_⟩:=g3 hn
       rw [e] at ha
       cases ha
       show g'≠_
       omega))
      have HRv:=zH hr
      have HKv:=zH hk8
      have H5:=zH g5
      have HRa:=zH (hr.on (Old.alloc V (.cells z 69)))
      have HKa:=zH (hk8.trans ((Old.alloc V (.cells z 69)).kept (X:=P.but W8) fun x hx=>Nat.lt_of_lt_of_le hx.1 hsz))
      clear g1 g2 g3 g4 g5 g7 hr hk hk8 hsz
      go_wp2_with fail
      refine hK.out _ _ ?_ (fun hHeld=>?_)
      ·(try dsimp only);exact HS.out _ _ HRv.out HKv.out
      clear hK K
      try simp only [Act.put,sA,sZ,sS]
      refine wpU 11 rfl ?_;try simp only [Act.put,sA,sZ,sS]
      refine wpU 12 rfl ?_;try simp only [Act.put,sA,sZ,sS]
      refine wpU 13 rfl ?_;try simp only [Act.put,sA,sZ,sS]
      refine wpAnyH_ready (rs:=[14]) (by kernel_rfl) (by simp) ?_
      refine AllReadyH.cons (o:=⟨_,_,_,_,_,_⟩) (by rfl) ?_ AllReadyH.nil
      intro K hK
      go_simp
      rw [←Hz.out]
      refine hK.out _ _ ?_ (fun hHeld=>?_)
      ·(try dsimp only);exact HS.out _ _ HRa.out HKa.out
      clear hK K
      try simp only [Act.put,sA,sZ,sS]
      refine wpAnyH_ready (rs:=[15]) (by kernel_rfl) (by simp) ?_
      refine AllReadyH.cons (o:=⟨_,_,_,_,_,_⟩) (by rfl) ?_ AllReadyH.nil
      intro K hK
      rw [if_pos (by kernel_rfl)]
      with_reducible refine wp_store_mid 69 _ _ rfl (V.heap.size) (0) (rowN 29 (frC X (.slice p k cap))) rfl rfl (by rw [rowN_size];exact(newFr V z 69 HZf.out).there 0 29 (by omega)) (by rw [rowN_size];exact Hs29.out) (H1x.out) ?_
      try simp only [Act.put,sA,sZ,sS]
      refine hK.out _ _ ?_ (fun hHeld=>?_)
      ·(try dsimp only);exact HS.out _ _ HG.out.1 HG.out.2.1
      clear hK K
      try simp only [Act.put,sA,sZ,sS]
      refine wpU 16 rfl ?_;try simp only [Act.put,sA,sZ,sS]
      refine wpAnyH_done (by kernel_rfl) ?_ _
      go_wp2_with fail
      go_meet
      exact⟨_,X,k,p,cap,T,rfl,rfl,zH ⟨HG.out.1,HG.out.2.1,HG.out.2.2,H5.out⟩⟩
     ·go_simp
      rw [←Hz.out]
      have ha0:Old W8 (W8.alloc (.cells z 69)).drew:=(Old.alloc W8 _).drew
      have HA0:=zH ha0
      have HAl:=zH (ha0.kept (X:=P.but W8) fun x hx=>hx.1)
      clear ha0
      refine hK.out _ _ ?_ (fun hHeld=>?_)
      ·(try dsimp only);exact HS.out _ _ (HR8.out.on HA0.out) HAl.out
      clear hK K
      try simp only [Act.put,sA,sZ,sS]
      refine wpAnyH_ready (rs:=[10]) (by kernel_rfl) (by simp) ?_
      refine AllReadyH.cons (o:=⟨_,_,_,_,_,_⟩) (by rfl) ?_ AllReadyH.nil
      intro K hK
      go_simp
      refine(HFr2.out _ (HR8.out.on HA0.out)).mono ?_
      rintro e V ⟨⟨X,k,p,cap,T,rfl,g1,g2,g3,g4,g5,g7⟩,hr,hk⟩
      have hk8:Kept (P.but W8) W8 V:=HAl.out.trans (hk.mono fun x hx=>⟨Nat.lt_of_lt_of_le hx.1 HA0.out.size,hx.2⟩)
      have H1x:Hid ((rowN 29 (frC X (.slice p k cap))).all (·.oneCell')=true):=zH (frC_one _ _ rfl)
      have hcv:CellsV V W8.heap.size 29 (frC (fun _=>0) (.slice none 0 0)):=((newFr W8 z 69 HZf.out).drew).kept hk (but_new HR8.out (.cells z 69))
      have HG:=zH (got_set HR8.out hr hk8 (nb:=W8.heap.size) (Nat.le_refl _) hcv (X:=X) g1 g2 g3 g4 (fun hn a ha=>by
       have h1:=g7 hn a ha
       have h2:(W8.alloc (.cells z 69)).drew.heap.size=W8.heap.size+1:=World.size_alloc W8 _
       omega))
      have HCv:=zH hcv
      have HRv:=zH hr
      have HKv:=zH hk8
      have H5:=zH g5
      clear g1 g2 g3 g4 g5 g7 hr hk hk8 hcv
      go_wp2_with fail
      refine hK.out _ _ ?_ (fun hHeld=>?_)
      ·(try dsimp only);exact HS.out _ _ HRv.out HKv.out
      clear hK K
      try simp only [Act.put,sA,sZ,sS]
      refine wpU 11 rfl ?_;try simp only [Act.put,sA,sZ,sS]
      refine wpU 12 rfl ?_;try simp only [Act.put,sA,sZ,sS]
      refine wpU 13 rfl ?_;try simp only [Act.put,sA,sZ,sS]
      refine wpAnyH_ready (rs:=[15]) (by kernel_rfl) (by simp) ?_
      refine AllReadyH.cons (o:=⟨_,_,_,_,_,_⟩) (by rfl) ?_ AllReadyH.nil
      intro K hK
      rw [if_pos (by kernel_rfl)]
      with_reducible refine wp_store_mid 69 _ _ rfl (W8.heap.size) (0) (rowN 29 (frC X (.slice p k cap))) rfl rfl (by rw [rowN_size];exact HCv.out.there 0 29 (by omega)) (by rw [rowN_size];exact Hs29.out) (H1x.out) ?_
      try simp only [Act.put,sA,sZ,sS]
      refine hK.out _ _ ?_ (fun hHeld=>?_)
      ·(try dsimp only);exact HS.out _ _ HG.out.1 HG.out.2.1
      clear hK K
      try simp only [Act.put,sA,sZ,sS]
      refine wpU 16 rfl ?_;try simp only [Act.put,sA,sZ,sS]
      refine wpAnyH_done (by kernel_rfl) ?_ _
      go_wp2_with fail
      go_meet
      exact⟨_,X,k,p,cap,T,rfl,rfl,zH ⟨HG.out.1,HG.out.2.1,HG.out.2.2,H5.out⟩⟩
    case rest=>as_aux_lemma=>
     obtain⟨nb,X,k,p,cap2,T,rfl,rfl,HG⟩:=hcut
     obtain⟨w9,rfl⟩:∃V,V=wc:=⟨_,rfl⟩
     obtain⟨E1,hE1⟩:∃E1,E1=E:=⟨_,rfl⟩
     rw [←hE1]
     have HE1:=zH hE1
     clear hE1
     have hd:Old w9 w9.drew:=(Old.refl w9).drew
     have HD:=zH hd
     have HKw:Hid (∀V,Old w9 V->Kept (P.but W8) W8 V):=zH fun V o=>HG.out.2.1.trans (o.kept fun x hx=>Nat.lt_of_lt_of_le hx.1 HG.out.2.1.size)
     have HS:Hid (∀V,Old w9 V->V.cell? ⟨ab,0,none⟩=some (.pointer (some ⟨bb,0,none⟩))/\V.cell? ⟨bw,0,none⟩=some (.int .i64 (kk 0))/\V.cell? ⟨bw,1,none⟩=some (.int .i64 (kk 1))/\V.cell? ⟨bw,2,none⟩=some (.int .i64 (kk 2))):=zH fun V o=>⟨(HC.out V _ (HG.out.1.on o)).1,HCc.out V (HKw.out V o)⟩
     have HX:=zH (fun V (o:Old w9 V)=>HG.out.2.2.1.old o)
     have HXc:=zH (fun V (o:Old w9 V)=>fun j (hj:j<29)=>show V.cell? ⟨nb,0+j,none⟩=some (frC X (.slice p k cap2) j) by rw [Nat.zero_add];exact(HX.out V o).cells.cell j hj)
     have HFo:=zH HG.out.2.2.2
     clear hd HFr HFr2 HCc HFs HMi HBk HDi H3one HW8 HBw HR8
     go_wp2_with fail
     refine wp_region_held_drew (S:=(fun V=>V.cell? ⟨ab,0,none⟩=some (.pointer (some ⟨bb,0,none⟩))/\V.cell? ⟨bw,0,none⟩=some (.int .i64 (kk 0))/\V.cell? ⟨bw,1,none⟩=some (.int .i64 (kk 1))/\V.cell? ⟨bw,2,none⟩=some (.int .i64 (kk 2)))) (by kernel_rfl) ?_ (fun hHeld=>?_)
     ·(try dsimp only);exact HS.out _ HD.out
     refine wpU 0 rfl ?_;try simp only [Act.put,sA,sZ,sS]
     refine wpU 1 rfl ?_;try simp only [Act.put,sA,sZ,sS]
     refine wpU 2 rfl ?_;try simp only [Act.put,sA,sZ,sS]
     refine wpU 3 rfl ?_;try simp only [Act.put,sA,sZ,sS]
     refine wpU 4 rfl ?_;try simp only [Act.put,sA,sZ,sS]
     refine wpU 5 rfl ?_;try simp only [Act.put,sA,sZ,sS]
     refine wpU 6 rfl ?_;try simp only [Act.put,sA,sZ,sS]
     refine wpU 7 rfl ?_;try simp only [Act.put,sA,sZ,sS]
     refine wpU 8 rfl ?_;try simp only [Act.put,sA,sZ,sS]
     refine wpU 9 rfl ?_;try simp only [Act.put,sA,sZ,sS]
     refine wpAnyH_ready (rs:=[10]) (by kernel_rfl) (by simp) ?_
     refine AllReadyH.cons (o:=⟨_,_,_,_,_,_⟩) (by rfl) ?_ AllReadyH.nil
     intro K hK
     go_simp
     refine(HWh2.out _ _ (HG.out.1.on HD.out)).mono ?_
     rintro e V2 ⟨A,SS,rfl,_,_,o2⟩
     have HO2:=zH (HD.out.trans o2)
     clear o2 HWh2
     go_wp2_with fail
     refine hK.out _ _ ?_ (fun hHeld=>?_)
     ·(try dsimp only);exact HS.out _ HO2.out
     clear hK K
     try simp only [Act.put,sA,sZ,sS]
     refine wpU 11 rfl ?_;try simp only [Act.put,sA,sZ,sS]
     refine wpU 12 rfl ?_;try simp only [Act.put,sA,sZ,sS]
     refine wpU 13 rfl ?_;try simp only [Act.put,sA,sZ,sS]
     refine wpU 14 rfl ?_;try simp only [Act.put,sA,sZ,sS]
     refine wpU 15 rfl ?_;try simp only [Act.put,sA,sZ,sS]
     refine wpU 16 rfl ?_;try simp only [Act.put,sA,sZ,sS]
     refine wpU 17 rfl ?_;try simp only [Act.put,sA,sZ,sS]
     refine wpAnyH_done (by kernel_rfl) ?_ _
     by_cases h0:E=0
     ·have HW0:=zH (show whI P.n P.D (kk 0) (kk 1) (kk 2)=0 by rw [←HE.out];exact h0)
      subst h0
      obtain rfl:E1=0:=HE1.out
      have HBy2:=zH (fun V (h:RunC w P ab g (nxt 0 m:Nat) 0 V)=>HBy.out V _ h (kk 0) (kk 1) (kk 2) HW0.out)
      have HBb2:=zH (HBb.out w9 _ HG.out.1 (kk 0) (kk 1) (kk 2) HW0.out)
      have hnx:nxt 0 m=m+1:=rfl
      rw [hnx] at HBy2 HG
      have HBs2:=HBs
      unfold frBs at HBs2
      rw [←HFz.out] at HBs2
      obtain⟨AT,hAT⟩:∃x,x=frAt fz P.D (kk 0).toNat (whQ P.D (kk 0) (kk 1) (kk 2)):=⟨_,rfl⟩
      rw [←hAT] at HBy2 HBb2 HBs2
      clear hnx hAT HBy HBb HC
      go_upto_region 15 with (fail)
      have hd2:Old V2 V2.drew:=(Old.refl V2).drew
      have HD2:=zH (HO2.out.trans hd2)
      clear hd2
      refine wp_region_held_drew (S:=(fun V=>V.cell? ⟨ab,0,none⟩=some (.pointer (some ⟨bb,0,none⟩))/\V.cell? ⟨bw,0,none⟩=some (.int .i64 (kk 0))/\V.cell? ⟨bw,1,none⟩=some (.int .i64 (kk 1))/\V.cell? ⟨bw,2,none⟩=some (.int .i64 (kk 2)))) (by kernel_rfl) ?_ (fun hHeld=>?_)
      ·(try dsimp only);exact HS.out _ HD2.out
      refine wpU 0 rfl ?_;try simp only [Act.put,sA,sZ,sS]
      refine wpU 1 rfl ?_;try simp only [Act.put,sA,sZ,sS]
      refine wpU 2 rfl ?_;try simp only [Act.put,sA,sZ,sS]
      refine wpU 3 rfl ?_;try simp only [Act.put,sA,sZ,sS]
      refine wpU 4 rfl ?_;try simp only [Act.put,sA,sZ,sS]
      refine wpU 5 rfl ?_;try simp only [Act.put,sA,sZ,sS]
      refine wpU 6 rfl ?_;try simp only [Act.put,sA,sZ,sS]
      refine wpU 7 rfl ?_;try simp only [Act.put,sA,sZ,sS]
      refine wpU 8 rfl ?_;try simp only [Act.put,sA,sZ,sS]
      refine wpU 9 rfl ?_;try simp only [Act.put,sA,sZ,sS]
      refine wpAnyH_ready (rs:=[10]) (by kernel_rfl) (by simp) ?_
      refine AllReadyH.cons (o:=⟨_,_,_,_,_,_⟩) (by rfl) ?_ AllReadyH.nil
      intro K hK
      go_simp
      refine(HBy2.out _ (HG.out.1.on HD2.out)).mono ?_
      rintro e V3 ⟨q2,c2,rfl,b1,b2,b3,o3⟩
      have HO3:=zH (HD2.out.trans o3)
      have HRd:=zH (FRead_any (.slice q2 fz c2) (lst (fun j=>P.F (AT+j)) fz) V3 (b3.slI b1 b2) (lst_mem HBb2.out) (by rw [lst_len];omega))
      clear b1 b2 b3 o3 HBy2
      go_wp2_with fail
      refine hK.out _ _ ?_ (fun hHeld=>?_)
      ·(try dsimp only);exact HS.out _ HO3.out
      clear hK K
      try simp only [Act.put,sA,sZ,sS]
      refine wpU 11 rfl ?_;try simp only [Act.put,sA,sZ,sS]
      refine wpU 12 rfl ?_;try simp only [Act.put,sA,sZ,sS]
      refine wpU 13 rfl ?_;try simp only [Act.put,sA,sZ,sS]
      refine wpU 14 rfl ?_;try simp only [Act.put,sA,sZ,sS]
      refine wpU 15 rfl ?_;try simp only [Act.put,sA,sZ,sS]
      refine wpAnyH_done (by kernel_rfl) ?_ _
      go_wp2_with fail
      refine HRd.out.mono ?_
      rintro e V4 ⟨Y,n2,p2,cp2,U,er,rfl,o4,r1,r2,r3,r4,r5,r6,r7,r8⟩
      have hbs:=HBs2.out
      have hfo:=HFo.out.1 (by trivial)
      rw [hbs] at hfo
      obtain⟨e0,_⟩:=r8 X k T hfo.1 hfo.2.1
      subst e0
      have hy:=r6 rfl
      have hsm:=hfo.2.2 Y n2 U hy.1 hy.2
      obtain⟨nb2,hnb2⟩:∃b,b=V4.heap.size:=⟨_,rfl⟩
      obtain⟨V5,hV5⟩:∃x,x=V4.alloc (.cells (rowN 29 (frC Y (.slice p2 n2 cp2))) 69):=⟨_,rfl⟩
      have o5:Old V4 V5:=by rw [hV5];exact Old.alloc _ _
      have HO5:=zH ((HO3.out.trans o4).trans o5)
      have hb5:V5.heap[nb2]?=some (.cells (rowN 29 (frC Y (.slice p2 n2 cp2))) 69 (0,0)):=by rw [hV5,hnb2];exact heap_alloc_new _ _
      have HY:Hid (∀j,j<29->V5.cell? ⟨nb2,0+j,none⟩=some (frC Y (.slice p2 n2 cp2) j)):=zH fun j hj=>by rw [Nat.zero_add];exact(cell_of_row _ _ _ _ _ _ hb5).trans (rowN_at 29 _ j hj)
      have hx5:=HX.out V5 HO5.out
      have HSm:=zH (same_yes (cap:=cap2) (cap2:=cp2) V5 hx5.tn (r3.old o5) (Nat.le_trans hx5.k1 hx5.k2) (Nat.le_trans r1 r2) hsm)
      have H1y:Hid ((rowN 29 (frC Y (.slice p2 n2 cp2))).all (·.oneCell')=true):=zH (frC_one _ _ rfl)
      have HXc5:=zH (HXc.out V5 HO5.out)
      have HV5:=zH hV5
      have HN2:=zH hnb2
      clear o4 r1 r2 r3 r4 r5 r6 r7 r8 hbs hfo hy hsm hnb2 hV5 o5 hb5 hx5 HRd HX HXc HS
      go_wp2_with (first | (with_reducible refine wpList_store_row rfl 69 _ _ rfl V4.heap.size (rowN 29 (frC Y (.slice p2 n2 cp2))) rfl rfl 69 _ (heap_alloc_new _ _) (by rw [rowN_size];exact Hs29.out) (by rw [rowN_size];kernel_rfl) H1y.out ?_;rw [World.setRow_alloc_new,←HV5.out,←HN2.out]) | (with_reducible refine wpList_load_fr_w (by kernel_rfl) (frC X (.slice p k cap2)) 69 _ rfl nb 0 rfl _ HXc5.out Tryz.underlying69 rfl Hs29.out ?_) | (with_reducible refine wpList_load_fr_w (by kernel_rfl) (frC Y (.slice p2 n2 cp2)) 69 _ rfl nb2 0 rfl _ HY.out Tryz.underlying69 rfl Hs29.out ?_))
      refine HSm.out.mono ?_
      rintro e V6 ⟨rfl,o6⟩
      have HR6:=zH (HG.out.1.on (HO5.out.trans o6))
      clear o6 HSm HG
      go_wp2_with fail
      go_roundw
      case rel=>exact⟨m+1,i+1,by have:=HIN.out;omega,by have:=HIN.out;omega,by omega,by go_num,by go_num,HR6⟩
      case measure=>have:=HIN.out;simp [intOf];omega
     ·have hnx:nxt E m=m:=if_neg h0
      rw [hnx] at HG
      have k0:=(HFo.out.2 h0).1
      have X0:=(HFo.out.2 h0).2.2
      have hsm:=same_zero (cap:=cap2) V2 k0 X0 (HX.out V2 HO2.out).tn
      rw [frC_zero] at hsm
      have HSm:=zH hsm
      have HXc2:=zH (HXc.out V2 HO2.out)
      have hd1:(E != 0)=true:=by simpa using h0
      have hd2:(E1 != E)=false:=by rw [HE1.out];simp
      clear hnx k0 X0 hsm h0 HE1 HS HX HXc HBy HBb HC HFo HBs HE
      go_wp2_with (with_reducible refine wpList_load_fr_w (by kernel_rfl) (frC X (.slice p k cap2)) 69 _ rfl nb 0 rfl _ HXc2.out Tryz.underlying69 rfl Hs29.out ?_)
      refine HSm.out.mono ?_
      rintro e V6 ⟨rfl,o6⟩
      have HR6:=zH (HG.out.1.on (HO2.out.trans o6))
      clear hd1 hd2 o6 HSm HG
      go_wp2_with fail
      go_roundw
      case rel=>exact⟨m,i+1,by have:=HIN.out;omega,by have:=HIN.out;omega,by omega,by go_num,by go_num,HR6⟩
      case measure=>have:=HIN.out;simp [intOf];omega
   ·rw [decide_eq_false ha]
    clear ha HK HFr HWh HBy HBb
    obtain⟨w9,rfl⟩:∃V,V=wr:=⟨_,rfl⟩
    have hd:Old w9 w9.drew:=(Old.refl w9).drew
    have HD:=zH hd
    have HS:Hid (∀V,Old w9 V->V.cell? ⟨ab,0,none⟩=some (.pointer (some ⟨bb,0,none⟩))/\V.cell? ⟨ab,2,none⟩=some (.pointer (some ⟨fb,0,none⟩))):=zH fun V o=>HC.out V _ (HR.out.on o)
    clear hd HC
    go_upto_region 19 with (fail)
    refine wp_region_held_drew (S:=(fun V=>V.cell? ⟨ab,0,none⟩=some (.pointer (some ⟨bb,0,none⟩))/\V.cell? ⟨ab,2,none⟩=some (.pointer (some ⟨fb,0,none⟩)))) (by kernel_rfl) ?_ (fun hHeld=>?_)
    ·(try dsimp only);exact HS.out _ HD.out
    refine wpU 0 rfl ?_;try simp only [Act.put,sA,sZ,sS]
    refine wpU 1 rfl ?_;try simp only [Act.put,sA,sZ,sS]
    refine wpU 2 rfl ?_;try simp only [Act.put,sA,sZ,sS]
    refine wpU 3 rfl ?_;try simp only [Act.put,sA,sZ,sS]
    refine wpU 5 rfl ?_;try simp only [Act.put,sA,sZ,sS]
    refine wpAnyH_ready (rs:=[4]) (by kernel_rfl) (by simp) ?_
    refine AllReadyH.cons (o:=⟨_,_,_,_,_,_⟩) (by rfl) ?_ AllReadyH.nil
    intro K hK
    go_simp
    refine(HFs.out _ _ (HR.out.on HD.out)).mono ?_
    rintro e V ⟨rfl,hv⟩
    subst hv
    go_wp2_with fail
    refine hK.out _ _ ?_ (fun hHeld=>?_)
    ·(try dsimp only);exact HS.out _ HD.out
    clear hK K
    try simp only [Act.put,sA,sZ,sS]
    refine wpU 6 rfl ?_;try simp only [Act.put,sA,sZ,sS]
    refine wpU 7 rfl ?_;try simp only [Act.put,sA,sZ,sS]
    refine wpU 8 rfl ?_;try simp only [Act.put,sA,sZ,sS]
    refine wpU 9 rfl ?_;try simp only [Act.put,sA,sZ,sS]
    refine wpU 10 rfl ?_;try simp only [Act.put,sA,sZ,sS]
    refine wpU 11 rfl ?_;try simp only [Act.put,sA,sZ,sS]
    refine wpAnyH_ready (rs:=[12]) (by kernel_rfl) (by simp) ?_
    refine AllReadyH.cons (o:=⟨_,_,_,_,_,_⟩) (by rfl) ?_ AllReadyH.nil
    intro K hK
    go_simp
    refine(HMi.out _ _ (HR.out.on HD.out)).mono ?_
    rintro e V ⟨rfl,hv⟩
    subst hv
    go_wp2_with fail
    refine hK.out _ _ ?_ (fun hHeld=>?_)
    ·(try dsimp only);exact HS.out _ HD.out
    clear hK K
    try simp only [Act.put,sA,sZ,sS]
    refine wpU 13 rfl ?_;try simp only [Act.put,sA,sZ,sS]
    refine wpU 14 rfl ?_;try simp only [Act.put,sA,sZ,sS]
    refine wpU 15 rfl ?_;try simp only [Act.put,sA,sZ,sS]
    refine wpU 16 rfl ?_;try simp only [Act.put,sA,sZ,sS]
    refine wpU 17 rfl ?_;try simp only [Act.put,sA,sZ,sS]
    refine wpU 18 rfl ?_;try simp only [Act.put,sA,sZ,sS]
    refine wpU 19 rfl ?_;try simp only [Act.put,sA,sZ,sS]
    refine wpU 23 rfl ?_;try simp only [Act.put,sA,sZ,sS]
    refine wpU 24 rfl ?_;try simp only [Act.put,sA,sZ,sS]
    refine wpU 25 rfl ?_;try simp only [Act.put,sA,sZ,sS]
    refine wpU 26 rfl ?_;try simp only [Act.put,sA,sZ,sS]
    refine wpAnyH_ready (rs:=[20]) (by kernel_rfl) (by simp) ?_
    refine AllReadyH.cons (o:=⟨_,_,_,_,_,_⟩) (by rfl) ?_ AllReadyH.nil
    intro K hK
    go_simp
    refine(HBk.out _ _ (HR.out.on HD.out)).mono ?_
    rintro e V ⟨rfl,hv⟩
    subst hv
    go_wp2_with fail
    refine hK.out _ _ ?_ (fun hHeld=>?_)
    ·(try dsimp only);exact HS.out _ HD.out
    clear hK K
    try simp only [Act.put,sA,sZ,sS]
    refine wpAnyH_ready (rs:=[21]) (by kernel_rfl) (by simp) ?_
    refine AllReadyH.cons (o:=⟨_,_,_,_,_,_⟩) (by rfl) ?_ AllReadyH.nil
    intro K hK
    go_simp
    refine(HDi.out _ _ (HR.out.on HD.out)).mono ?_
    rintro e V2 ⟨q3,c3,rfl,_,_,_,o2⟩
    have HO2:=zH (HD.out.trans o2)
    clear o2
    go_wp2_with fail
    refine hK.out _ _ ?_ (fun hHeld=>?_)
    ·(try dsimp only);exact HS.out _ HO2.out
    clear hK K
    try simp only [Act.put,sA,sZ,sS]
    refine wpU 22 rfl ?_;try simp only [Act.put,sA,sZ,sS]
    refine wpAnyH_ready (rs:=[27]) (by kernel_rfl) (by simp) ?_
    refine AllReadyH.cons (o:=⟨_,_,_,_,_,_⟩) (by rfl) ?_ AllReadyH.nil
    intro K hK
    go_simp
    refine(HDi.out _ _ (HR.out.on HO2.out)).mono ?_
    rintro e V3 ⟨q4,c4,rfl,_,_,_,o3⟩
    have HO3:=zH (HO2.out.trans o3)
    clear o3 HO2
    go_wp2_with fail
    refine hK.out _ _ ?_ (fun hHeld=>?_)
    ·(try dsimp only);exact HS.out _ HO3.out
    clear hK K
    try simp only [Act.put,sA,sZ,sS]
    refine wpU 28 rfl ?_;try simp only [Act.put,sA,sZ,sS]
    refine wpU 29 rfl ?_;try simp only [Act.put,sA,sZ,sS]
    refine wpU 30 rfl ?_;try simp only [Act.put,sA,sZ,sS]
    refine wpU 31 rfl ?_;try simp only [Act.put,sA,sZ,sS]
    refine wpAnyH_ready (rs:=[32]) (by kernel_rfl) (by simp) ?_
    refine AllReadyH.cons (o:=⟨_,_,_,_,_,_⟩) (by rfl) ?_ AllReadyH.nil
    intro K hK
    go_simp
    refine(awake18_any V3).mono ?_
    rintro e V4 ⟨rfl,o4⟩
    have HO4:=zH (HO3.out.trans o4)
    clear o4 HO3
    go_wp2_with fail
    refine hK.out _ _ ?_ (fun hHeld=>?_)
    ·(try dsimp only);exact HS.out _ HO4.out
    clear hK K
    try simp only [Act.put,sA,sZ,sS]
    refine wpU 33 rfl ?_;try simp only [Act.put,sA,sZ,sS]
    refine wpU 34 rfl ?_;try simp only [Act.put,sA,sZ,sS]
    refine wpAnyH_done (by kernel_rfl) ?_ _
    have HE:=zH (HR.out.old.trans HO4.out)
    clear HFs HMi HBk HDi HS HR HO4
    go_wp2_with fail
    go_ret
    exact⟨rfl,HE.out⟩
end Go.Proofs.YtanmbhakjfhhdaaGreatDoor
