/- Texts joined: BankB, BankC, BankD, BankE, BankF, BankG, BankH, BankI, BankJ, BankK, BankL, BankM. -/
import Derived.Deep.RegionHeld
import Derived.StillTailTactics
import Derived.Test.YticpdokbiblpoaaGreatDoorPkAC
import Derived.Test.YticpdokbiblpoaaGreatDoorPkAH
import Derived.Test.YticpdokbiblpoaaGreatDoorPkAS
import Derived.Test.YticpdokbiblpoaaGreatDoorPkAT
import Derived.Test.YticpdokbiblpoaaGreatDoorPkAV
import Derived.Test.YticpdokbiblpoaaGreatDoorTk
set_option linter.unusedVariables false
set_option linter.unusedSimpArgs false
set_option maxHeartbeats 8000000
namespace Go.Proofs.YticpdokbiblpoaaGreatDoor
open Go.Proofs.Tryz
open Go.Proofs.Tryz renaming prog → zP
open Go.Value renaming int → vI
open Go.IntKind renaming i64 → iJ
open Go.Ending renaming returned → rJ
set_option maxRecDepth 100000
open Go.RowKit Go.ChangeShapes Go.WideShapes
theorem Mt.size9(m:Mt):m.cells.size=9:=rfl
theorem Mt.one(m:Mt):m.cells.all (·.oneCell')=true:=zK
def GN(w:World)(g:Nat)(m:Mt):Prop:=w.heap[g]?=some (.cells m.cells 90 (0,0))
theorem GN.new(w:World)(m:Mt):GN (w.alloc (.cells m.cells 90)) w.heap.size m:=heap_alloc_new _ _
theorem GN.old{w w':World}{g:Nat}{m:Mt}(h:GN w g m)(k:Old w w'):GN w' g m:=(k.block g (lt_of_block h)).trans h
theorem GN.at_{w:World}{g:Nat}{m:Mt}(h:GN w g m)(f:Nat):w.cell? ⟨g,f,none⟩=m.cells[f]?:=cell_of_row _ _ _ _ _ _ h
structure iB(w:World)(p:Option Addr)(n:Nat)(D:Nat->Mt):Prop where
 cell:0<n->∃g o,p=some ⟨g,o,none⟩/\g<w.heap.size/\∀i,i<n->∀f v,(D i).cells[f]?=some v->w.cell? ⟨g,o+i*9+f,none⟩=some v
 str:∀i,i<n->(D i).s.size<=9223372036854775807
theorem iB.old{w w':World}{p:Option Addr}{n:Nat}{D:Nat->Mt}(h:iB w p n D)(k:Old w w'):iB w' p n D where
 cell:=fun hn=>by
  obtain⟨g,o,h1,h2,h3⟩:=h.cell hn;exact⟨g,o,h1,Nat.lt_of_lt_of_le h2 k.size,fun i hi f v hf=>(k.cell (a:=⟨g,o+i*9+f,none⟩) h2).trans (h3 i hi f v hf)⟩
 str:=h.str
theorem iB.ext{w:World}{p:Option Addr}{n:Nat}{D E:Nat->Mt}(h:iB w p n D)(e:∀i,i<n->D i=E i):iB w p n E where
 cell:=fun hn=>by
  obtain⟨g,o,h1,h2,h3⟩:=h.cell hn;exact⟨g,o,h1,h2,fun i hi f v hf=>h3 i hi f v (by rw[e i hi];exact hf)⟩
 str:=fun i hi=>by rw[<-e i hi];exact h.str i hi
structure KA(w:World)(g n:Nat)(D:Nat->Mt):Prop where
 lt:g<w.heap.size
 cell:∀i,i<n->∀f v,(D i).cells[f]?=some v->w.cell? ⟨g,i*9+f,none⟩=some v
 frz:∀j,j<n*9->w.frozen? ⟨g,j,none⟩=false
theorem KA.kept{w w':World}{g n:Nat}{D:Nat->Mt}{X:Nat->Prop}(h:KA w g n D)(k:Kept X w w')(hX:X g):KA w' g n D:=
 ⟨Nat.lt_of_lt_of_le h.lt k.size,fun i hi f v hf=>(k.cell (a:=⟨g,i*9+f,none⟩) hX).trans (h.cell i hi f v hf),fun j hj=>(k.frozen (a:=⟨g,j,none⟩) hX).trans (h.frz j hj)⟩
theorem KA.old{w w':World}{g n:Nat}{D:Nat->Mt}(h:KA w g n D)(k:Old w w'):KA w' g n D:=h.kept k h.lt
theorem KA.sl{w:World}{g n:Nat}{D:Nat->Mt}(h:KA w g n D)(hs:∀i,i<n->(D i).s.size<=9223372036854775807):iB w (some ⟨g,0,none⟩) n D:=
 ⟨fun _=>⟨g,0,rfl,h.lt,fun i hi f v hf=>by rw[Nat.zero_add];exact h.cell i hi f v hf⟩,hs⟩
theorem KA.put{w:World}{g n:Nat}{D:Nat->Mt}(h:KA w g n D)(k:Nat)(hk:k<n)(f:Nat)(hf:f<9)(v:Value)(m:Mt)(hm:∀q,q<9->m.cells[q]?=if q=f then some v else(D k).cells[q]?):
  KA (w.setCell ⟨g,k*9+f,none⟩ v) g n (fun i=>if i=k then m else D i) where
 lt:=by have:=h.lt;simpa[World.setCell]using this
 cell:=fun i hi q u hq=>by
  have hq9:q<9:=by
   rcases Nat.lt_or_ge q 9 with h | h
   ·exact h
   ·rw[Array.getElem?_eq_none (by split at hq <;> (rw[Mt.size9];exact h))]at hq;cases hq
  by_cases e:i=k
  ·subst e;rw[if_pos rfl,hm q hq9]at hq;by_cases e2:q=f
   ·subst e2;rw[if_pos rfl]at hq;cases hq;have hlt:q<(D i).cells.size:=by rw[Mt.size9];exact hf
    exact World.cell?_setCell_same _ _ _ (h.cell i hk q _ (Array.getElem?_eq_getElem hlt))
   ·rw[if_neg e2]at hq;rw[World.cell?_setCell_other _ _ _ _ (fun e'=>by injection e' with _ e3;omega)];exact h.cell i hk q u hq
  ·rw[if_neg e]at hq;rw[World.cell?_setCell_other _ _ _ _ (fun e'=>by injection e' with _ e3;omega)];exact h.cell i hi q u hq
 frz:=fun j hj=>by rw[World.frozen?_setCell];exact h.frz j hj
theorem nV(m:Mt)(hm:m.OkR)(w:World):Calls zP 97 #[.agg m.cells] w fun e w'=>e=rJ (vI iJ (m.fr:Int))/\Old w w':=by
 have hb:=GN.new w m;have hoo:=Old.alloc w (.cells m.cells 90);have HR:Hid (∀d,((w.alloc (.cells m.cells 90)).drewN d).cell? ⟨w.heap.size,1,none⟩=some (vI iJ m.n)/\((w.alloc (.cells m.cells 90)).drewN d).cell? ⟨w.heap.size,3,none⟩=some (vI iJ m.c)):=zH fun d=>⟨hb.at_ 1,hb.at_ 3⟩
 have c1:=hb.at_ 1;have c3:=hb.at_ 3;have n1:=hm.n1;have n2:=hm.n2;have k1:=hm.c1;have k2:=hm.c2;have HCn:=zH (fun w=>iO m.n w zO zO);have hcn:lR m.n=((cW m.n.toNat:Nat):Int):=by
  have:=nY m.n.toNat
  rw[Int.toNat_of_nonneg zO]at this;exact this
 rw[hcn]at HCn;have hfr:(m.fr:Int)=((cW m.n.toNat:Nat):Int)*m.c:=by
  unfold Mt.fr;rw[Int.natCast_mul,Int.toNat_of_nonneg zO]
 have hcb:cW m.n.toNat<=65536:=by unfold cW;omega
 have hp:=hm.fr_le;have e1:wrap64 (((cW m.n.toNat:Nat):Int)*m.c)=(m.fr:Int):=by rw[<-hfr];exact IntWalk.wrap64_in _ zO
 have e3:IntKind.i64.wrap (((cW m.n.toNat:Nat):Int)*m.c)=(m.fr:Int):=by rw[<-hfr];exact IntWalk.i64_in _ zO
 have e2:max 0 m.c=m.c:=zO;generalize (m.fr:Int)=r at *;generalize cW m.n.toNat=q at *;have HO:=zH hoo;obtain⟨W,hW⟩:=zG (w.alloc (.cells m.cells 90));have HW:=zH hW;rw[<-hW]at c1 c3 HR HO;unfold Mt.cells at *;clear hb hoo hcn hfr hp hW;go_enter func97,ntmps97
 go_wp2_with fail
 rw[<-HW.o];refine wp_region_held_drew (S:=(fun V=>V.cell? ⟨w.heap.size,1,none⟩=some (vI iJ m.n)/\V.cell? ⟨w.heap.size,3,none⟩=some (vI iJ m.c))) zK ?_ (fun hHeld=>?_)
 ·(try dsimp only);exact⟨c1,c3⟩
 refine (uU 0) ((uU 1) ((uU 3) ((uU 4) ((uU 5) ?_))));refine wpR 2 rfl (fun K hK=>?_);go_simp;refine(HCn.o _).mono ?_;rintro e V ⟨rfl,rfl⟩
 go_wp2_with fail
 refine hK.out _ _ ?_ (fun hHeld=>?_)
 ·(try dsimp only);exact⟨c1,c3⟩
 clear hK K;refine (uU 6) ((uU 7) ?_);refine wpAnyH_done zK ?_ _;go_wp2;go_ret;exact⟨bT (by first | exact e1 | rfl | exact e3),HO.o.drew⟩
def nH(D:Nat->Mt)(n:Nat):Prop:=∀i,i<n->(D i).ok/\(0<i->sP (D (i-1)).s (D i).s=true)
theorem FV(p:Option Addr)(n cap:Nat)(D:Nat->Mt)(w:World)(hs:iB w p n D)(hn:n<=1048576):
  Calls zP 102 #[.slice p n cap] w fun e w'=>∃b,e=rJ (.bool b)/\(b=true↔nH D n)/\Old w w':=by
 have HS:=zH hs;have HO0:=zH (Old.refl w);have Hs9:Hid ((zP.info? 90).map (·.size)=some 9):=zH zK;clear hs;go_enter func102,ntmps102
 go_wp2_with fail
 go_loopw [7] (fun iv wr=>∃k:Nat,k<=n/\iv=vI iJ k/\Hid (Old w wr)/\Hid (nH D k)) (fun i _=>n-(intOf i).toNat)
 case atStart=>exact⟨0,zO,by go_num,HO0,zH fun i hi=>zO⟩
 case round=>
  clear HO0;obtain⟨k,hk,rfl,HO,HD⟩:=hrel;by_cases hkn:k<n
  ·obtain⟨g,o,rfl,hg,hcs⟩:=(HS.o.old HO.o).cell zO;obtain⟨m,hm⟩:=zG (D k);have hck:=hcs k hkn;rw[<-hm]at hck;have c0:wr.cell? ⟨g,o+k*9,none⟩=some (.string m.s):=hck 0 _ rfl;have c1:wr.cell? ⟨g,o+k*9+1,none⟩=some (vI iJ m.n):=hck 1 _ rfl;have c2:wr.cell? ⟨g,o+k*9+2,none⟩=some (vI iJ m.r):=hck 2 _ rfl;have c3:wr.cell? ⟨g,o+k*9+3,none⟩=some (vI iJ m.c):=hck 3 _ rfl;have c4:wr.cell? ⟨g,o+k*9+4,none⟩=some (.bool m.lp):=hck 4 _ rfl;have c5:wr.cell? ⟨g,o+k*9+5,none⟩=some (vI iJ m.a):=hck 5 _ rfl;have c6:wr.cell? ⟨g,o+k*9+6,none⟩=some (vI iJ m.b):=hck 6 _ rfl;have c7:wr.cell? ⟨g,o+k*9+7,none⟩=some (vI iJ m.x):=hck 7 _ rfl;have c8:wr.cell? ⟨g,o+k*9+8,none⟩=some (vI iJ m.y):=hck 8 _ rfl;have HM:=zH hm;have HRM:Hid (∀V,Calls zP 142 #[.agg m.cells] V fun e w'=>e=rJ (.bool (cX m.s m.n m.r m.c m.lp m.a m.b == 0))/\Old V w'):=
    zH fun V=>EL m.s m.n m.r m.c m.lp m.a m.b m.x m.y V (by rw[hm];exact HS.o.str k hkn)
   have hokq:(cX m.s m.n m.r m.c m.lp m.a m.b == 0)=true↔(D k).ok:=by rw[<-hm];unfold Mt.ok;simp
   obtain⟨q,hq⟩:=zG ((cX m.s m.n m.r m.c m.lp m.a m.b == 0));rw[<-hq]at hokq HRM;have HOK:=zH hokq;obtain⟨b,hb⟩:=zG (wr.heap.size);obtain⟨W,hW⟩:=zG (wr.alloc (.cells m.cells 90));have hbx:GN W b m:=by rw[hW,hb];exact GN.new wr m
   have HOW:=zH (show Old wr W by rw[hW];exact Old.alloc _ _);have HB:=zH hb;have HBx:=zH hbx;have HCS:=zH hcs;have HG:=zH hg;obtain⟨R,hR⟩:=zG (m.cells);have HR:=zH hR;have HR9:Hid (R.size=9):=zH (by rw[hR];exact Mt.size9 m);rw[<-hR]at HRM hW;have hbr:W.heap[b]?=some (.cells R 90 (0,0)):=by rw[hR];exact hbx
   have HBr:=zH hbr;have hW':W=wr.alloc (.cells #[.string m.s,vI iJ m.n,vI iJ m.r,vI iJ m.c,.bool m.lp,vI iJ m.a,vI iJ m.b,vI iJ m.x,vI iJ m.y] 90):=by rw[hW,hR];rfl
   have HW:=zH hW';have HBs:Hid (∀V,Old W V->V.heap[b]?=some (.cells R 90 (0,0))/\V.cell? ⟨b,0,none⟩=some (.string m.s)):=zH fun V hV=>⟨(hV.block _ (lt_of_block hbr)).trans hbr,(hbx.old hV).at_ 0⟩
   have i0:(0:Int)<=k:=zO;have i1:(k:Int)<n:=zO;clear hck hm hq hb hW hW' hbx hcs hR hbr hokq hg;cases q
   ·go_wp2_with fail
    rw[<-HW.o,<-HB.o];refine wp_region_held_drew (S:=(fun V=>V.heap[b]?=some (.cells R 90 (0,0)))) zK ?_ (fun hHeld=>?_)
    ·(try dsimp only);exact HBr.o
    refine (uT 0 (v:=.agg R) rfl (aG zK 90 (.tmp 4) rfl b rfl 90 R (0,0) _ (fun _ h=>h) underlying90 rfl (by rw[HR9.o];exact Hs9.o))) ?_;refine wpR 1 rfl (fun K hK=>?_);go_simp;refine(HRM.o _).mono ?_;rintro e V ⟨rfl,o1⟩;have HV:=zH ((Old.drew (Old.refl W)).trans o1);clear o1
    go_wp2_with fail
    refine hK.out _ _ ?_ (fun hHeld=>?_)
    ·(try dsimp only);exact(HBs.o _ HV.o).1
    clear hK K;refine (uU 2) ((uU 3) ((uN 4) ((uN 5) ((uN 6) ((uN 7) ((uN 8) ((uN 9) ((uN 10) ((uN 11) ((uN 12) ((uN 13) ((uN 14) ((uN 15) ((uN 16) ((uU 17) ?_)))))))))))))));refine wpAnyH_done zK ?_ _
    go_wp2_with fail
    go_ret;refine⟨false,rfl,⟨fun h=>(by cases h),fun h=>?_⟩,(HO.o.trans HOW.o).trans HV.o⟩;have:=HOK.o.2 (h k hkn).1;cases this
   ·rcases Nat.eq_zero_or_pos k with hk0 | hk0
    ·have HD2:=zH (show nH D (k+1) from fun i hi=>by
      obtain rfl:i=k:=zO;exact⟨HOK.o.1 zS,fun h=>zO⟩)
     have d0:decide (0<k)=false:=decide_eq_false zO;clear hk0
     go_wp2_with fail
     rw[<-HW.o,<-HB.o];refine wp_region_held_drew (S:=(fun V=>V.heap[b]?=some (.cells R 90 (0,0)))) zK ?_ (fun hHeld=>?_)
     ·(try dsimp only);exact HBr.o
     refine (uT 0 (v:=.agg R) rfl (aG zK 90 (.tmp 4) rfl b rfl 90 R (0,0) _ (fun _ h=>h) underlying90 rfl (by rw[HR9.o];exact Hs9.o))) ?_;refine wpR 1 rfl (fun K hK=>?_);go_simp;refine(HRM.o _).mono ?_;rintro e V ⟨rfl,o1⟩;have HV:=zH ((Old.drew (Old.refl W)).trans o1);clear o1
     go_wp2_with fail
     refine hK.out _ _ ?_ (fun hHeld=>?_)
     ·(try dsimp only);exact(HBs.o _ HV.o).1
     clear hK K;refine (uU 2) ((uU 3) ((uU 4) ((uU 5) ((uU 6) ((uN 7) ((uN 8) ((uN 9) ((uN 10) ((uN 11) ((uN 12) ((uN 13) ((uN 14) ((uN 15) ((uU 16) ((uU 17) ?_)))))))))))))));refine wpAnyH_done zK ?_ _;have HO2:=zH ((HO.o.trans HOW.o).trans HV.o);clear HO HOW HV HD HBs HBr HBx HRM
     go_wp2_with fail
     go_roundw
     case rel=>exact⟨k+1,zO,by go_num,HO2,HD2⟩
     case measure=>exact zM
    ·obtain⟨j,hj⟩:∃j,j+1=k:=⟨k-1,zO⟩
     have d0:decide (0<k)=true:=decide_eq_true zO;have q1:wrap64 ((k:Int)-1)=j:=by rw[IntWalk.wrap64_in _ zO];omega
     have q2:IntKind.i64.wrap ((k:Int)-1)=j:=by rw[IntWalk.i64_in _ zO];omega
     have j0:(0:Int)<=j:=zO;have j1:(j:Int)<n:=zO;have HJ:=zH hj;obtain⟨s,hss⟩:=zG ((D j).s);have HBs2:Hid (∀V,Old W V->V.heap[b]?=some (.cells R 90 (0,0))/\V.cell? ⟨b,0,none⟩=some (.string m.s)/\V.cell? ⟨g,o+j*9,none⟩=some (.string s)):=zH fun V hV=>
      ⟨(HBs.o V hV).1,(HBs.o V hV).2,by
       rw[hss];exact((HOW.o.trans hV).cell (a:=⟨g,o+j*9+0,none⟩) HG.o).trans (HCS.o j zO 0 (.string (D j).s) rfl)⟩
     have HSS:=zH hss;clear hk0 hj hss;obtain⟨lt,hlt⟩:=zG (sP s m.s);have HLT:=zH hlt;unfold sP at hlt;have HF:=zH (And.intro d0 (And.intro q1 (And.intro q2 (And.intro j0 (And.intro j1 hlt.symm)))));clear d0 q1 q2 j0 j1 hlt;cases lt
     ·go_wp2_with fail
      rw[<-HW.o,<-HB.o];obtain⟨d0,q1,q2,j0,j1,hlt⟩:=HF.o;refine wp_region_held_drew (S:=(fun V=>V.heap[b]?=some (.cells R 90 (0,0))/\V.cell? ⟨b,0,none⟩=some (.string m.s)/\V.cell? ⟨g,o+j*9,none⟩=some (.string s))) zK ?_ (fun hHeld=>?_)
      ·(try dsimp only);exact HBs2.o _ (Old.drew (Old.refl W))
      refine (uT 0 (v:=.agg R) rfl (aG zK 90 (.tmp 4) rfl b rfl 90 R (0,0) _ (fun _ h=>h.1) underlying90 rfl (by rw[HR9.o];exact Hs9.o))) ?_;refine wpR 1 rfl (fun K hK=>?_);go_simp;refine(HRM.o _).mono ?_;rintro e V ⟨rfl,o1⟩;have HV:=zH ((Old.drew (Old.refl W)).trans o1);clear o1
      go_wp2_with fail
      refine hK.out _ _ ?_ (fun hHeld=>?_)
      ·(try dsimp only);exact HBs2.o _ HV.o
      clear hK K;refine (uU 2) ((uU 3) ((uU 4) ((uU 5) ((uU 6) ((uU 7) ((uU 8) ((uU 9) ((uU 10) ((uU 11) ((uU 12) ((uU 13) ((uU 14) ((uU 15) ((uU 16) ((uU 17) ?_)))))))))))))));refine wpAnyH_done zK ?_ _
      go_wp2_with fail
      go_ret;refine⟨false,rfl,⟨fun h=>(by cases h),fun h=>?_⟩,(HO.o.trans HOW.o).trans HV.o⟩;have h2:=(h k hkn).2 (by have:=HJ.o;omega);rw[show k-1=j by have:=HJ.o;omega,<-HM.o,<-HSS.o,<-HLT.o]at h2;cases h2
     ·go_wp2_with fail
      rw[<-HW.o,<-HB.o];obtain⟨d0,q1,q2,j0,j1,hlt⟩:=HF.o;refine wp_region_held_drew (S:=(fun V=>V.heap[b]?=some (.cells R 90 (0,0))/\V.cell? ⟨b,0,none⟩=some (.string m.s)/\V.cell? ⟨g,o+j*9,none⟩=some (.string s))) zK ?_ (fun hHeld=>?_)
      ·(try dsimp only);exact HBs2.o _ (Old.drew (Old.refl W))
      refine (uT 0 (v:=.agg R) rfl (aG zK 90 (.tmp 4) rfl b rfl 90 R (0,0) _ (fun _ h=>h.1) underlying90 rfl (by rw[HR9.o];exact Hs9.o))) ?_;refine wpR 1 rfl (fun K hK=>?_);go_simp;refine(HRM.o _).mono ?_;rintro e V ⟨rfl,o1⟩;have HV:=zH ((Old.drew (Old.refl W)).trans o1);clear o1
      go_wp2_with fail
      refine hK.out _ _ ?_ (fun hHeld=>?_)
      ·(try dsimp only);exact HBs2.o _ HV.o
      clear hK K;refine (uU 2) ((uU 3) ((uU 4) ((uU 5) ((uU 6) ((uU 7) ((uU 8) ((uU 9) ((uU 10) ((uU 11) ((uU 12) ((uU 13) ((uU 14) ((uU 15) ((uU 16) ((uU 17) ?_)))))))))))))));refine wpAnyH_done zK ?_ _;have HO2:=zH ((HO.o.trans HOW.o).trans HV.o);have HD2:=zH (show nH D (k+1) from fun i hi=>by
       by_cases e:i=k
       ·subst e;refine⟨HOK.o.1 zS,fun _=>?_⟩;rw[show i-1=j by have:=HJ.o;omega,<-HM.o,<-HSS.o,<-HLT.o]
       ·exact HD.o i zO)
      clear HO HOW HV HD HBs HBs2 HBr HBx HRM q1 q2 hlt
      go_wp2_with fail
      go_roundw
      case rel=>exact⟨k+1,zO,by go_num,HO2,HD2⟩
      case measure=>exact zM
  ·obtain rfl:k=n:=zO
   go_wp2_with fail
   go_ret;exact⟨true,rfl,⟨fun _=>HD.o,fun _=>rfl⟩,HO.o⟩
theorem KA.ext{w:World}{g n:Nat}{D E:Nat->Mt}(h:KA w g n D)(e:∀i,i<n->D i=E i):KA w g n E:=
 ⟨h.lt,fun i hi f v hf=>h.cell i hi f v (by rw[e i hi];exact hf),h.frz⟩
def EJ(D:Nat->Mt)(n:Nat):List Value:=(List.range (n*9)).map fun j=>(D (j/9)).cells.getD (j%9) (vI iJ 0)
theorem OR(D:Nat->Mt)(n:Nat):(EJ D n).length=n*9:=by simp[EJ]
theorem Mt.get(m:Mt)(f:Nat)(hf:f<9):m.cells[f]?=some (m.cells.getD f (vI iJ 0)):=by
 have h:f<m.cells.size:=by rw[Mt.size9];exact hf
 simp[Array.getD,h]
theorem WZ(D:Nat->Mt)(n i f:Nat)(hi:i<n)(hf:f<9):(EJ D n)[i*9+f]?=(D i).cells[f]?:=by
 have h:i*9+f<n*9:=zO;rw[(D i).get f hf];unfold EJ;rw[List.getElem?_map,List.getElem?_range h];simp only[Option.map_some];rw[show (i*9+f)/9=i by omega,show (i*9+f)%9=f by omega]
theorem aBT{D:Nat->Mt}{n j:Nat}{u:Value}(h:(EJ D n)[j]?=some u):∃i f,i<n/\f<9/\j=i*9+f/\(D i).cells[f]?=some u:=by
 have hj:j<n*9:=by
  rcases Nat.lt_or_ge j (n*9) with h1 | h1
  ·exact h1
  ·rw[List.getElem?_eq_none (by rw[OR];exact h1)]at h;cases h
 have hm:=WZ D n (j/9) (j%9) zO zO;rw[show j/9*9+j%9=j by omega]at hm;exact⟨j/9,j%9,zO,zO,zO,by rw[<-hm];exact h⟩
theorem aDt(D:Nat->Mt)(n:Nat):∀u∈EJ D n,u.oneCell'=true:=by
 intro u hu;obtain⟨j,_,rfl⟩:=List.mem_map.1 hu;have h:=(D (j/9)).one;have hf:j%9<9:=zO;have h2:j%9<(D (j/9)).cells.size:=by rw[Mt.size9];exact hf
 rw[Array.all_eq_true]at h;have:=h (j%9) h2;simpa[Array.getD,h2]using this
theorem CR(w:World)(t:TypeId)(s:Nat):ownS (fun q=>q<w.heap.size) (w.alloc (.cells #[] t)) t s (.slice (some ⟨w.heap.size,0,none⟩) 0 0) 0 []:=by
 refine⟨⟨zS,.inr ⟨w.heap.size,0,#[],rfl,Nat.zero_le _,heap_alloc_new _ _,Nat.le_refl _,Nat.zero_le _,zS,zS⟩⟩,fun k hk=>?_⟩;have:k=w.heap.size:=by simpa[Value.ownBlock,eq_comm]using hk
 omega
def MtP(w w':World)(q:Option Addr)(n:Nat)(D:Nat->Mt):Prop:=0<n->∃g,q=some ⟨g,0,none⟩/\KA w' g n D/\w.heap.size<=g
theorem Tryz.infoM:(zP.info? 90).map (fun i=>(i.zero,i.size,i.bytes))=some (some (.agg #[.string ⟨#[]⟩,vI iJ 0,vI iJ 0,vI iJ 0,.bool false,vI iJ 0,vI iJ 0,vI iJ 0,vI iJ 0]),9,80):=zK
theorem aCZ{w w':World}{v:Value}{n:Nat}{D:Nat->Mt}(h:ownS (fun q=>q<w.heap.size) w' 90 9 v n (EJ D n)):∃q cap,v=.slice q n cap/\n<=cap/\cap<=maxLen/\MtP w w' q n D:=by
 rcases h.1.2 with ⟨hv,h0⟩ | ⟨g,cap,cur,hv,hg,hh,hn,hc,hs,ht⟩
 ·exact⟨none,0,by rw[hv,h0],zO,Nat.zero_le _,fun h=>zO⟩
 ·subst hv;refine⟨_,cap,rfl,hn,hc,fun hn0=>⟨g,rfl,⟨lt_of_block hh,fun i hi f v hf=>?_,fun j hj=>frozen_of_row _ _ _ _ _ hh⟩,Nat.not_lt.1 (h.2 g rfl)⟩⟩;have hf9:f<9:=by
   rcases Nat.lt_or_ge f 9 with h | h
   ·exact h
   ·rw[Array.getElem?_eq_none (by rw[Mt.size9];exact h)]at hf;cases hf
  have:=h.1.cells (g:=g) rfl (i*9+f) v (by rw[WZ D n i f hi hf9];exact hf)
  rwa [add_plain,Nat.zero_add]at this
theorem VB(p:Option Addr)(n cap:Nat)(D:Nat->Mt)(w:World)(hs:iB w p n D)(hn:n<=1048576):
  Calls zP 95 #[.slice p n cap] w fun e w'=>∃q c,e=rJ (.slice q n c)/\n<=c/\c<=maxLen/\MtP w w' q n D/\Old w w':=by
 have HC:=zH hs;clear hs;obtain⟨i0,hi,hz0,hz1,hz2⟩:=info_parts Tryz.infoM;cases p with
 | none=>
  have h0:n=0:=by
   rcases Nat.eq_zero_or_pos n with h | h
   ·exact h
   ·obtain⟨b,off,hp,_⟩:=HC.o.cell h;cases hp
  have H0:=zH h0;clear h0 HC;have hE:=eL 105 90 none n cap underlying105;go_enter func95,ntmps95;go_wp2;go_ret;exact⟨none,0,by rw[H0.o];rfl,by rw[H0.o];exact Nat.le_refl _,Nat.zero_le _,fun h=>by have:=H0.o;omega,Old.refl w⟩
 | some a=>
  have HN:Hid (∀j u,(EJ D n)[j]?=some u->(w.alloc (.cells #[] 90)).cell? (a.add j)=some u):=by
   intro j u hj;obtain⟨i,f,hi',hf,rfl,hu⟩:=aBT hj;obtain⟨b,off,hp,hb,hcell⟩:=HC.o.cell zO;obtain rfl:a=⟨b,off,none⟩:=by simpa using hp
   rw[add_plain,(Old.alloc w (.cells #[] 90)).cell (a:=⟨b,off+(i*9+f),none⟩) hb,<-Nat.add_assoc];exact hcell i hi' f u hu
  have HO:Hid (Old w (w.alloc (.cells #[] 90))):=Old.alloc _ _;have HX:=zH (OR D n);have H1:=zH (aDt D n);clear HC;have hE:=eL 105 90 (some a) n cap underlying105;go_enter func95,ntmps95
  go_wp2_with (at_builtin;refine pA _ rfl _ _ 105 rfl (fun q=>q<w.heap.size) 90 i0 _ 9 80 underlying105 hi hz0 hz1 hz2 rfl zO _ _ _ rfl (CR w 90 9) a n cap (EJ D n) rfl HX.o HN.o H1.o (by unfold maxLen;omega) zO (fun q hq=>Nat.lt_of_lt_of_le hq HO.o.size) ?_;intro v' w2 hown2 hk2 _;have HR2:=zH (show ownS (fun q=>q<w.heap.size) w2 90 9 v' n (EJ D n) from(by have:=hown2;rw[Nat.zero_add,List.nil_append]at this;exact this));have HO2:=zH (HO.o.after hk2 (fun _ h=>h));clear hown2 hk2 HO HN HX H1)
  go_ret;obtain⟨q,c,hv,h1,h2,h3⟩:=aCZ HR2.o;exact⟨q,c,by rw[<-hv];rfl,h1,h2,h3,HO2.o⟩
def aQ(D:Nat->Mt):Nat->Nat:=fun i=>(D i).fr
def eE(D:Nat->Mt)(sz n:Nat):Nat->Mt:=fun i=>(D i).at_ (bO (aQ D) sz n i) (aL (aQ D) sz n i)
def plK(D:Nat->Mt)(sz n k:Nat):Nat->Mt:=fun i=>if i<k then eE D sz n i else D i
theorem aCT(D:Nat->Mt)(sz n k:Nat)(m:Mt)(hm:m=eE D sz n k):(fun i=>if i=k then m else plK D sz n k i)=plK D sz n (k+1):=by
 subst hm;funext i;unfold plK;by_cases e:i=k
 ·subst e;rw[if_pos rfl,if_pos zO]
 ·rw[if_neg e];by_cases h:i<k
  ·rw[if_pos h,if_pos zO]
  ·rw[if_neg h,if_neg zO]
theorem aEZ(m:Mt)(x:Int):∀q,q<9->(m.at_ x m.y).cells[q]?=if q=7 then some (vI iJ x) else m.cells[q]?:=by
 intro q hq
 match q,hq with
 | 0,_=>rfl
 | 1,_=>rfl
 | 2,_=>rfl
 | 3,_=>rfl
 | 4,_=>rfl
 | 5,_=>rfl
 | 6,_=>rfl
 | 7,_=>rfl
 | 8,_=>rfl
theorem aFN(m:Mt)(x y:Int):∀q,q<9->(m.at_ x y).cells[q]?=if q=8 then some (vI iJ y) else(m.at_ x m.y).cells[q]?:=by
 intro q hq
 match q,hq with
 | 0,_=>rfl
 | 1,_=>rfl
 | 2,_=>rfl
 | 3,_=>rfl
 | 4,_=>rfl
 | 5,_=>rfl
 | 6,_=>rfl
 | 7,_=>rfl
 | 8,_=>rfl
theorem KA.put2{w:World}{g n:Nat}{D:Nat->Mt}(h:KA w g n D)(k:Nat)(hk:k<n)(f:Nat)(hf:f<9)(v:Value)(m m':Mt)(e:D k=m)(hm:∀q,q<9->m'.cells[q]?=if q=f then some v else m.cells[q]?):
  KA (w.setCell ⟨g,k*9+f,none⟩ v) g n (fun i=>if i=k then m' else D i):=h.put k hk f hf v m' (by rw[e];exact hm)
theorem aER(a fr sz:Nat)(h:a<=900000000)(hf:fr<=131072)(hz:sz<=96):∃u v y z t:Nat,u=fr*4/\v=a+u/\y=pD (a+fr*4)/\z=fr*sz/\t=y+z/\v<=1099511627776 /\
  (IntKind.i64.wrap ((fr:Int)*4)=u/\IntKind.i64.wrap ((a:Int)+u)=v/\IntKind.i64.wrap ((fr:Int)*sz)=z/\IntKind.i64.wrap ((y:Int)+z)=t /\
   wrap64 ((fr:Int)*4)=u/\wrap64 ((a:Int)+u)=v/\wrap64 ((fr:Int)*sz)=z/\wrap64 ((y:Int)+z)=t):=by
 have hu:=WE (a+fr*4);have hfs:fr*sz<=131072*96:=Nat.mul_le_mul hf hz;refine⟨_,_,_,_,_,rfl,rfl,rfl,rfl,rfl,zO,?_,?_,?_,?_,?_,?_,?_,?_⟩
 ·rw[IntWalk.i64_in _ zO];omega
 ·rw[IntWalk.i64_in _ zO];omega
 ·rw[<-Int.natCast_mul];exact IntWalk.i64_in _ zO
 ·rw[<-Int.natCast_add];exact IntWalk.i64_in _ zO
 ·rw[IntWalk.wrap64_in _ zO];omega
 ·rw[IntWalk.wrap64_in _ zO];omega
 ·rw[<-Int.natCast_mul];exact IntWalk.wrap64_in _ zO
 ·rw[<-Int.natCast_add];exact IntWalk.wrap64_in _ zO
structure PlS(w:World)(g n:Nat)(E:Nat->Mt)(wr:World):Prop where
 own:KA wr g n E
 ge:w.heap.size<=g
 old:Old w wr
theorem PlS.put{w:World}{g n:Nat}{E:Nat->Mt}{wr:World}(h:PlS w g n E wr)(k:Nat)(hk:k<n)(f:Nat)(hf:f<9)(v:Value)(m m':Mt)(e:E k=m)(hm:∀q,q<9->m'.cells[q]?=if q=f then some v else m.cells[q]?):
  PlS w g n (fun i=>if i=k then m' else E i) (wr.setCell ⟨g,k*9+f,none⟩ v):=
 ⟨h.own.put2 k hk f hf v m m' e hm,h.ge,h.old.after (X:=fun q=>q<w.heap.size) (Kept.setCell _ (a:=⟨g,k*9+f,none⟩) (by have:=h.ge;simp only;omega) v) fun _ h=>h⟩
theorem PlS.ext{w:World}{g n:Nat}{E E':Nat->Mt}{wr:World}(h:PlS w g n E wr)(e:∀i,i<n->E i=E' i):PlS w g n E' wr:=⟨h.own.ext e,h.ge,h.old⟩
theorem PlS.on{w:World}{g n:Nat}{E:Nat->Mt}{wr wr':World}(h:PlS w g n E wr)(o:Old wr wr'):PlS w g n E wr':=⟨h.own.old o,h.ge,h.old.trans o⟩
theorem sL(sz:Nat)(p:Option Addr)(n cap:Nat)(D:Nat->Mt)(w:World)(hz:sz<=96)(hs:iB w p n D)(hn:n<=64)(hD:∀i,i<n->(D i).OkR):
  Calls zP 50 #[vI iJ sz,.slice p n cap] w fun e w'=>∃q c,e=rJ (.tuple #[.slice q n c,vI iJ (aJ (aQ D) sz n:Nat)])/\n<=c/\c<=maxLen/\MtP w w' q n (eE D sz n)/\Old w w':=by
 have HC:=zH (VB p n cap D w hs zO);have HDr:=zH (fun w=>xT n w zO);have HOk:=zH hD;have hbd:=tQ (f:=aQ D) (sz:=sz) (n:=n) (fun i hi=>(hD i hi).fr_le.2) hz;have HBd:=zH hbd;have HU:=zH (SY (bO (aQ D) sz n n));have Hs9:Hid ((zP.info? 90).map (·.size)=some 9):=zH zK;clear hs hD hbd;go_enter func50,ntmps50
 go_wp2_with fail
 refine HC.o.mono ?_;rintro e w1 ⟨q,c,rfl,hc1,hc2,hmp,ho⟩;have HMP:=zH hmp;have HO:=zH ho;have HCc:=zH (And.intro hc1 hc2);clear HC hmp ho hc1 hc2
 go_wp2_with fail
 refine(HDr.o _).mono ?_;rintro e w2 ⟨rfl,rfl⟩;clear HDr;obtain⟨wo,hwo⟩:∃V,V=w1:=⟨_,rfl⟩
 rw[<-hwo]at HMP HO |-;clear hwo;have hat0:((20+64*n:Nat):Int)=(bO (aQ D) sz n 0:Nat):=rfl;rw[hat0];clear hat0
 go_wp2_with fail
 by_cases hn0:n=0
 ·have H0:=zH hn0;have HE:=zH (show MtP w wo q n (eE D sz n) from fun h=>zO);have HUl:=zH (HU.o wo (by have:=HBd.o n (Nat.le_refl _);omega));have e0:bO (aQ D) sz n n=bO (aQ D) sz n 0:=by rw[hn0]
  rw[e0]at HUl;obtain⟨t,ht⟩:∃t:Nat,t=bO (aQ D) sz n 0:=⟨_,rfl⟩
  rw[<-ht]at HUl |-;have hx:(JC t:Nat)=aJ (aQ D) sz n:=by unfold aJ;rw[e0,<-ht]
  rw[hx]at HUl;clear hx e0 ht HU;have HT:=zH (Nat.le_refl (aJ (aQ D) sz n));obtain⟨r,hr⟩:∃r:Nat,r=aJ (aQ D) sz n:=⟨_,rfl⟩
  rw[<-hr]at HUl;have HR:=zH hr;clear hr hn0
  go_loopw [7,17] (fun av iv wr=>av=vI iJ t/\iv=vI iJ 0/\wr=wo) (fun _ i _=>0)
  case atStart=>exact⟨rfl,by go_num,rfl⟩
  case round=>
   obtain⟨rfl,rfl,rfl⟩:=hrel;have hlt:¬((0:Int)<n):=by have:=H0.o;omega
   go_wp2_with fail
   refine HUl.o.mono ?_;rintro e w3 ⟨rfl,rfl⟩
   go_wp2_with fail
   go_ret2
   exact⟨q,c,by rw[<-HR.o];rfl,HCc.o.1,HCc.o.2,HE.o,HO.o⟩
 ·obtain⟨g,hq,hmo,hge⟩:=HMP.o zO;subst hq;have HP0:=zH (show PlS w g n (plK D sz n 0) wo from⟨hmo.ext fun i _=>by unfold plK;rw[if_neg zO],hge,HO.o⟩);clear hmo hge HMP hn0
  go_loopw [7,17] (fun av iv wr=>∃k:Nat,k<=n/\iv=vI iJ k/\av=vI iJ (bO (aQ D) sz n k:Nat)/\Hid (PlS w g n (plK D sz n k) wr)) (fun _ i _=>n-(intOf i).toNat)
  case atStart=>exact⟨0,zO,by go_num,rfl,HP0⟩
  case round=>
   clear HP0 HO;obtain⟨k,hk,rfl,rfl,HP⟩:=hrel;by_cases hkn:k<n
   ·obtain⟨m,hm⟩:=zG (D k);have hok:=HOk.o k hkn;rw[<-hm]at hok;have hEk:plK D sz n k k=m:=by unfold plK;rw[if_neg zO,hm]
    have hat:=HBd.o k hk;have hfr:=hok.fr_le;obtain⟨at_,ha⟩:∃t:Nat,t=bO (aQ D) sz n k:=⟨_,rfl⟩
    obtain⟨fr,hf⟩:∃t:Nat,t=m.fr:=⟨_,rfl⟩
    have hfst:aL (aQ D) sz n k=pD (at_+fr*4):=by
     show pD (bO (aQ D) sz n k+4*(D k).fr)=_;rw[<-ha,<-hm,<-hf,Nat.mul_comm 4 fr]
    have hnext:bO (aQ D) sz n (k+1)=pD (at_+fr*4)+fr*sz:=by
     rw[mX,hfst];show _+(D k).fr*sz=_;rw[<-hm,<-hf]
    have hpl:m.at_ at_ (pD (at_+fr*4):Nat)=eE D sz n k:=by
     show _=(D k).at_ (bO (aQ D) sz n k:Nat) (aL (aQ D) sz n k:Nat);rw[hfst,<-hm,<-ha]
    rw[<-ha]at hat |-;rw[<-hf]at hfr;obtain⟨u,v,y,z,t,huu,hvv,hy,hzz,ht,hv40,hEq⟩:=aER at_ fr sz zO hfr.2 hz;have HEq:=zH hEq;clear hEq;have HUv:Hid (∀w,Calls zP 96 #[vI iJ v,vI iJ 16] w fun e w'=>e=rJ (vI iJ y)/\w=w'):=zH fun w=>by
     have:=RF v w hv40;rw[hvv,huu,<-hy]at this;rw[hvv,huu];exact this
    have HNext:Hid (bO (aQ D) sz n (k+1)=t):=zH (by rw[hnext,ht,hy,hzz]);rw[<-hy]at hpl;have HPl:=zH hpl;have HEk:=zH hEk;have HFr:Hid (∀(x y:Int) V,Calls zP 97 #[.agg (m.at_ x y).cells] V fun e w'=>e=rJ (vI iJ fr)/\Old V w'):=zH fun x y V=>by
     have:=nV (m.at_ x y) (hok.at_ x y) V;rw[Mt.at_fr,<-hf]at this;exact this
    have ck:=HP.o.own.cell k hkn;rw[hEk]at ck;have c7:wr.cell? ⟨g,k*9+7,none⟩=some (vI iJ m.x):=ck 7 _ rfl;have z7:=HP.o.own.frz (k*9+7) zO;have HP1:=zH (HP.o.put k hkn 7 zO (vI iJ at_) m (m.at_ at_ m.y) hEk (aEZ m at_));obtain⟨W1,hW1⟩:∃V,V=wr.setCell ⟨g,k*9+7,none⟩ (vI iJ at_):=⟨_,rfl⟩
    rw[<-hW1]at HP1;have HW1:=zH hW1;have i0:(0:Int)<=k:=zO;have i1:(k:Int)<n:=zO;clear ck hok hEk hat hfr ha hf hfst hnext hpl huu hvv hy hzz ht hv40 hW1 hm HP;have HK1:Hid (∀V,Old W1 V->(∀f v,(m.at_ at_ m.y).cells[f]?=some v->V.cell? ⟨g,k*9+f,none⟩=some v)/\V.cell? ⟨g,k*9+7,none⟩=some (vI iJ at_)):=zH fun V hV=>by
     have h:=(HP1.o.on hV).own.cell k hkn;simp only[if_true]at h;exact⟨h,h 7 _ rfl⟩
    go_wp2_with fail
    rw[<-HW1.o];clear c7 z7;obtain⟨e1,e2,e3,e4,f1,f2,f3,f4⟩:=HEq.o;have HRng:Hid (W1.drew.rangeAt g (k*9) (m.at_ at_ m.y).cells.toList):=zH fun j v hv=>(HK1.o _ (Old.drew (Old.refl W1))).1 j v (by simpa using hv);have HLen:Hid ((zP.info? 90).map (·.size)=some (m.at_ at_ m.y).cells.toList.length):=zH Hs9.o;refine wp_region_held_drew (S:=(fun V=>V.cell? ⟨g,k*9+7,none⟩=some (vI iJ at_))) zK ?_ (fun hHeld=>?_)
    ·(try dsimp only);exact(HK1.o _ (Old.drew (Old.refl W1))).2
    refine (uU 0) ((uU 1) ((uU 2) ((uU 3) ((uU 4) ((uU 5) ((uU 6) ?_))))));refine wpR 7 rfl (fun K hK=>?_);rw[if_pos zK]
    with_reducible refine wp_load_mid 90 _ rfl g (k*9) rfl (m.at_ at_ m.y).cells.toList _ HRng.o underlying90 rfl HLen.o ?_
    refine hK.out _ _ ?_ (fun hHeld=>?_)
    ·(try dsimp only);exact(HK1.o _ (Old.drew (Old.refl W1))).2
    clear hK K
    try simp only[Act.put,sA,sZ,sS]
    refine wpR 8 rfl (fun K hK=>?_);go_simp;refine(HFr.o at_ m.y _).mono ?_;rintro e V1 ⟨rfl,o1⟩;have HV1:=zH ((Old.drew (Old.refl W1)).trans o1);clear o1
    go_wp2_with fail
    refine hK.out _ _ ?_ (fun hHeld=>?_)
    ·(try dsimp only);exact(HK1.o _ HV1.o).2
    clear hK K;refine (uU 9) ((uU 10) ?_);refine wpR 11 rfl (fun K hK=>?_);go_simp;refine(HUv.o _).mono ?_;rintro e V2 ⟨rfl,rfl⟩
    go_wp2_with fail
    refine hK.out _ _ ?_ (fun hHeld=>?_)
    ·(try dsimp only);exact(HK1.o _ HV1.o).2
    clear hK K
    try simp only[Act.put,sA,sZ,sS]
    have hp2:=HP1.o.on HV1.o;have c8:V1.cell? ⟨g,k*9+8,none⟩=some (vI iJ m.y):=(HK1.o _ HV1.o).1 8 _ rfl;have z8:=hp2.own.frz (k*9+8) zO;have HP2:=zH (hp2.put k hkn 8 zO (vI iJ y) (m.at_ at_ m.y) (m.at_ at_ y) (by simp only[if_true]) (aFN m at_ y));obtain⟨W2,hW2⟩:∃V,V=V1.setCell ⟨g,k*9+8,none⟩ (vI iJ y):=⟨_,rfl⟩
    rw[<-hW2]at HP2;have HW2:=zH hW2;have hk2:∀V,Old W2 V->(∀f v,(m.at_ at_ y).cells[f]?=some v->V.cell? ⟨g,k*9+f,none⟩=some v)/\V.cell? ⟨g,k*9+8,none⟩=some (vI iJ y)/\V.cell? ⟨g,k*9+7,none⟩=some (vI iJ at_):=fun V hV=>by
     have h:=(HP2.o.on hV).own.cell k hkn;simp only[if_true]at h;exact⟨h,h 8 _ rfl,h 7 _ rfl⟩
    have HK2:=zH hk2;clear hk2 hW2 hp2;refine (uU 12) ((uU 13) ?_);refine wpR 14 rfl (fun K hK=>?_);go_simp;rw[<-HW2.o];refine hK.out _ _ ?_ (fun hHeld=>?_)
    ·(try dsimp only);exact(HK2.o _ (Old.refl _)).2.2
    clear hK K
    try simp only[Act.put,sA,sZ,sS]
    refine wpAnyH_done zK ?_ _;clear HK1 HP1 HV1 c8 z8 HW2 HUv
    go_wp2_with fail
    refine wp_region_held_drew (S:=(fun V=>(∀f v,(m.at_ at_ y).cells[f]?=some v->V.cell? ⟨g,k*9+f,none⟩=some v)/\V.cell? ⟨g,k*9+8,none⟩=some (vI iJ y))) zK ?_ (fun hHeld=>?_)
    ·(try dsimp only);exact⟨(HK2.o _ (Old.drew (Old.refl W2))).1,(HK2.o _ (Old.drew (Old.refl W2))).2.1⟩
    refine (uU 0) ((uU 1) ((uU 2) ((uU 3) ((uU 4) ((uU 5) ?_)))));refine (uT 6 (v:=.agg (m.at_ at_ y).cells) rfl (yieldsIf_load_mid zK 90 (.tmp 46) rfl g (k*9) rfl (m.at_ at_ y).cells.toList _ (fun _ h j v hv=>h.1 j v (by simpa using hv)) underlying90 rfl (by exact Hs9.o))) ?_;refine (uU 8) ?_;refine wpR 7 rfl (fun K hK=>?_);go_simp;refine(HFr.o at_ y _).mono ?_;rintro e V3 ⟨rfl,o3⟩;have HV3:=zH ((Old.drew (Old.refl W2)).trans o3);clear o3
    go_wp2_with fail
    refine hK.out _ _ ?_ (fun hHeld=>?_)
    ·(try dsimp only);exact⟨(HK2.o _ HV3.o).1,(HK2.o _ HV3.o).2.1⟩
    clear hK K;refine (uU 9) ((uU 10) ((uU 11) ?_));refine wpAnyH_done zK ?_ _;have HP3:=zH (show PlS w g n (plK D sz n (k+1)) V3 from(HP2.o.on HV3.o).ext fun i _=>by
     rw[<-aCT D sz n k (m.at_ at_ y) HPl.o];by_cases e:i=k
     ·simp only[e,if_true]
     ·simp only[if_neg e])
    clear HK2 HP2 HV3 HPl HEk HEq
    go_wp2_with fail
    go_roundw
    case rel=>exact⟨k+1,zO,by go_num,by rw[HNext.o],HP3⟩
    case measure=>exact zM
   ·obtain rfl:k=n:=zO;have HUl:=zH (HU.o wr (by have:=HBd.o k (Nat.le_refl _);omega));obtain⟨t,ht⟩:∃t:Nat,t=bO (aQ D) sz k k:=⟨_,rfl⟩
    rw[<-ht]at HUl |-;have hx:(JC t:Nat)=aJ (aQ D) sz k:=by unfold aJ;rw[<-ht]
    rw[hx]at HUl;have HE:Hid (MtP w wr (some ⟨g,0,none⟩) k (eE D sz k)):=zH fun _=>⟨g,rfl,HP.o.own.ext fun i hi=>by unfold plK;rw[if_pos hi],HP.o.ge⟩
    have HOl:=zH HP.o.old;obtain⟨r,hr⟩:∃r:Nat,r=aJ (aQ D) sz k:=⟨_,rfl⟩
    rw[<-hr]at HUl;have HR:=zH hr;clear hx ht hr HU HP
    go_wp2_with fail
    refine HUl.o.mono ?_;rintro e w3 ⟨rfl,rfl⟩
    go_wp2_with fail
    go_ret2
    exact⟨some ⟨g,0,none⟩,c,by rw[<-HR.o];rfl,HCc.o.1,HCc.o.2,HE.o,HOl.o⟩
theorem aGG(n:Nat)(F:nI)(j:Nat)(h:j<n):(aA n (bU F))[j]?=some (.int .u8 (F j)):=bI n (bU F) j h
theorem UW(n:Nat)(F:nI):(aA n (bU F)).all (·.oneCell')=true:=by simp[aA,bU,Value.oneCell']
theorem Tryz.zero64:(∀w,(zeroValue 202).run zP w=.ok (.agg (aA 64 (bU fun _=>0))) w)/\(zP.info? 202).map (·.size)=some 64:=by
 have hi:(zP.info? 202).map (fun i=>(i.zero,i.size))=some (some (.agg (aA 64 (bU fun _=>0))),64):=zK;exact zero_of_info hi
theorem rE:∀w,(sizeOf 5).run zP w=.ok 1 w:=fun w=>by go_simp
theorem WY(b k:Nat)(hk:k<64)(w:World):(Instr.sliceAt 202 (.pointer (some ⟨b,0,none⟩)) (some (vI iJ k)) none none).run zP w=.ok (.slice (some ⟨b,k,none⟩) (64-k) (64-k)) w:=by
 have h:=oD (P:=zP) (t:=202) 64 k (by exact underlying202) zK (fun w=>by exact rE w) hk b 0 w
 rwa [Nat.zero_add]at h
theorem PN(b:Nat)(w:World):(Instr.sliceAt 202 (.pointer (some ⟨b,0,none⟩)) none none none).run zP w=.ok (.slice (some ⟨b,0,none⟩) 64 64) w:=
 eM (P:=zP) (t:=202) 64 (by exact underlying202) zK (fun w=>by exact rE w) zO b 0 w
def WW(m:Mt)(k:Nat):nI:=fun j=>if j<32 then lT m.s j else if j<32+k*4 then be 4 (m.num ((j-32)/4)) ((j-32)%4) else 0
theorem qO(s:ByteArray)(j:Nat)(h:s.size<=j):lT s j=0:=by
 unfold lT;have h1:s.data[j]?=none:=Array.getElem?_eq_none (by show s.size<=j;exact h);rw[Array.getD_eq_getD_getElem?,h1];rfl
theorem aCQ(m:Mt)(h:m.s.size<=32)(j:Nat):aV (fun _=>0) 0 m.s.size (lT m.s) j=WW m 0 j:=by
 unfold aV WW;by_cases h1:j<m.s.size
 ·rw[if_pos ⟨zO,zO⟩,if_pos zO,Nat.sub_zero]
 ·rw[if_neg zO];by_cases h2:j<32
  ·rw[if_pos h2,qO _ _ zO]
  ·rw[if_neg h2,if_neg zO]
theorem aBm(m:Mt)(k:Nat)(j:Nat):aV (WW m k) (32+k*4) 4 (be 4 (m.num k)) j=WW m (k+1) j:=by
 unfold aV WW;by_cases h:32+k*4<=j/\j<32+k*4+4
 ·rw[if_pos h,if_neg zO,if_pos zO,show (j-32)/4=k by omega,show (j-32)%4=j-(32+k*4) by omega]
 ·rw[if_neg h];by_cases h2:j<32
  ·rw[if_pos h2,if_pos h2]
  ·rw[if_neg h2,if_neg h2];by_cases h3:j<32+k*4
   ·rw[if_pos h3,if_pos zO]
   ·rw[if_neg h3,if_neg zO]
structure EnS(w:World)(m:Mt)(F:nI)(W:World):Prop where
 box:GN W w.heap.size m
 res:W.heap[w.heap.size+1]?=some (.cells (aA 64 (bU fun _=>0)) 202 (0,0))
 row:UAt W (w.heap.size+2) 64 F
 old:Old w W
theorem EnS.kept{w:World}{m:Mt}{F G:nI}{W W':World}(h:EnS w m F W)(k:Kept (fun q=>q≠w.heap.size+2) W W')(hr:UAt W' (w.heap.size+2) 64 G):EnS w m G W':=
 ⟨(k.block _ zO).trans h.box,(k.block _ zO).trans h.res,hr,h.old.after k fun q hq=>zO⟩
theorem EnS.ext{w:World}{m:Mt}{F G:nI}{W:World}(h:EnS w m F W)(e:∀j,F j=G j):EnS w m G W:=⟨h.box,h.res,h.row.ext fun j _=>e j,h.old⟩
def Mt.numOk(m:Mt):Prop:=∀k,k<6->0<=m.num k/\m.num k<=9223372036854775807
theorem GD(m:Mt)(w:World)(h32:m.s.size<=32)(hnum:m.numOk):Calls zP 107 #[.agg m.cells] w fun e w'=>e=rJ (.agg (aA 64 (bU (eY m))))/\Old w w':=by
 have hz:=Tryz.zero64.1;have Hs64:=zH Tryz.zero64.2;have HSU:=zH rE;obtain⟨W0,hW0⟩:∃W,W=((w.alloc (.cells m.cells 90)).alloc (.cells (aA 64 (bU fun _=>0)) 202)).alloc (.cells (aA 64 (bU fun _=>0)) 202):=⟨_,rfl⟩
 have hst:EnS w m (fun _=>0) W0:=by
  have o2:=(Old.alloc (w.alloc (.cells m.cells 90)) (.cells (aA 64 (bU fun _=>0)) 202))
  have o3:=Old.alloc ((w.alloc (.cells m.cells 90)).alloc (.cells (aA 64 (bU fun _=>0)) 202)) (.cells (aA 64 (bU fun _=>0)) 202);rw[hW0];refine⟨((GN.new w m).old o2).old o3,(o3.block _ zS).trans (heap_alloc2_new w _ _),?_,((Old.alloc w _).trans o2).trans o3⟩;have h:=qF ((w.alloc (.cells m.cells 90)).alloc (.cells (aA 64 (bU fun _=>0)) 202)) 64 (fun _=>0) 202;rw[World.size_alloc,World.size_alloc]at h;exact h
 have HW0:=zH hW0;have HS:=zH hst;have HNum:=zH hnum;have H32:=zH h32;obtain⟨W1,hW1⟩:∃W,W=W0.drew.setCells (w.heap.size+2) 0 ((gQ (lT m.s) m.s.size).map (Value.int .u8)):=⟨_,rfl⟩
 have hs1:EnS w m (WW m 0) W1:=by
  rw[hW1];have hd:EnS w m (fun _=>0) W0.drew:=⟨hst.box,hst.res,⟨hst.row.1,hst.row.2,hst.row.3⟩,hst.old.drew⟩
  refine EnS.ext (hd.kept (Kept.setCells (X:=fun q=>q≠w.heap.size+2) _ (fun e=>e rfl) _ _) (hd.row.setCells 0 m.s.size zO (lT m.s))) (aCQ m h32)
 have HS1:=zH hs1;have HW1:=zH hW1;have HTh:Hid (W0.drew.there (w.heap.size+2) 0 m.s.size):=zH (by
  have hd:UAt W0.drew (w.heap.size+2) 64 (fun _=>0):=⟨hst.row.1,hst.row.2,hst.row.3⟩
  exact hd.there 0 m.s.size zO)
 have hsl:=fun w'=>PN (w.heap.size+2) w';have HSl:=zH hsl;unfold Mt.cells at hW0;have HW0':=zH hW0;have Ha:=zH (show W0.cell? ⟨w.heap.size,0,none⟩=some (.string m.s) from hst.box.at_ 0);have Hb:=zH (show W1.cell? ⟨w.heap.size,0,none⟩=some (.string m.s) from hs1.box.at_ 0);have HC1:Hid (W1.cell? ⟨w.heap.size,1,none⟩=some (vI iJ m.n)/\W1.cell? ⟨w.heap.size,2,none⟩=some (vI iJ m.r)/\W1.cell? ⟨w.heap.size,5,none⟩=some (vI iJ m.a)/\W1.cell? ⟨w.heap.size,6,none⟩=some (vI iJ m.b)/\W1.cell? ⟨w.heap.size,7,none⟩=some (vI iJ m.x)/\W1.cell? ⟨w.heap.size,8,none⟩=some (vI iJ m.y)):=
  zH ⟨hs1.box.at_ 1,hs1.box.at_ 2,hs1.box.at_ 5,hs1.box.at_ 6,hs1.box.at_ 7,hs1.box.at_ 8⟩
 unfold Mt.cells;clear hst hs1 hW0 hW1 hnum h32 hsl;go_enter func107,ntmps107
 go_wp2_with fail
 rw[<-HW0'.o];clear HW0 HW0' hz;have hsl:=HSl.o;refine wp_region_held_drew (S:=(fun V=>V.cell? ⟨w.heap.size,0,none⟩=some (.string m.s))) zK ?_ (fun hHeld=>?_)
 ·(try dsimp only);exact Ha.o
 refine (uU 0) ((uU 1) ((uU 2) ?_));refine wpR 3 rfl (fun K hK=>?_);rw[if_pos zK]
 with_reducible refine LM (.tmp 6) (.tmp 8) 34 9 rfl 5 underlying34 HSU.o m.s (w.heap.size+1+1) 0 64 64 rfl rfl (by have:=H32.o;omega) HTh.o ?_
 rw[<-HW1.o];refine hK.out _ _ ?_ (fun hHeld=>?_)
 ·(try dsimp only);exact Hb.o
 clear hK K
 try simp only[Act.put,sA,sZ,sS]
 refine wpAnyH_done zK ?_ _;clear hsl HSl HW1 HTh Ha Hb HS;obtain⟨d1,d2,d5,d6,d7,d8⟩:=HC1.o
 go_wp2_with fail
 clear d1 d2 d5 d6 d7 d8 HC1
 go_loopw [23] (fun iv wr=>∃k:Nat,k<=6/\iv=vI iJ k/\Hid (EnS w m (WW m k) wr)) (fun i _=>6-(intOf i).toNat)
 case atStart=>exact⟨0,zO,by go_num,HS1⟩
 case round=>
  clear HS1;obtain⟨k,hk,rfl,HE⟩:=hrel;by_cases hkn:k<6
  ·have hix:∀w',(Instr.index 253 (.agg #[vI iJ m.n,vI iJ m.r,vI iJ m.a,vI iJ m.b,vI iJ m.x,vI iJ m.y]) (vI iJ k)).run zP w'=.ok (vI iJ (m.num k)) w':=fun w'=>
    aZ (P:=zP) (t:=253) (e:=3) (n:=6) (q:=.i64) underlying253 underlying3 (fun w=>by go_simp) m.num k hkn w'
   obtain⟨u,hu⟩:∃u:Nat,u=k*4:=⟨_,rfl⟩
   obtain⟨z,hz⟩:∃z:Nat,z=32+u:=⟨_,rfl⟩
   obtain⟨L,hL⟩:∃L:Nat,L=64-z:=⟨_,rfl⟩
   have hsl:=fun w'=>WY (w.heap.size+1+1) z zO w';rw[<-hL,show (z:Int)=32+(k:Int)*4 by omega]at hsl;have HP:=zH (qZ (w.heap.size+1+1) z 64 L 4 (WW m k) (m.num k) wr zO zO HE.o.row (HNum.o k hkn).1 (HNum.o k hkn).2);have b0:(0:Int)<=z:=zO;have b1:(4:Int)<=L:=zO;have b2:(k:Int)<6:=zO;have HN:Hid (∀j,aV (WW m k) z 4 (be 4 (m.num k)) j=WW m (k+1) j):=zH fun j=>by rw[hz,hu];exact aBm m k j
   have HZ:=zH (And.intro hu (And.intro hz hL));clear hu hz hL;generalize m.num k=v at *
   go_wp2_with fail
   refine HP.o.mono ?_;rintro e w1 ⟨rfl,hr,hk1⟩;have HE2:=zH ((HE.o.kept hk1 hr).ext HN.o);clear HE HP HN hr hk1
   go_wp2_with fail
   go_roundw
   case rel=>exact⟨k+1,zO,by go_num,HE2⟩
   case measure=>exact zM
  ·obtain rfl:k=6:=zO;have c3:wr.cell? ⟨w.heap.size,3,none⟩=some (vI iJ m.c):=HE.o.box.at_ 3;have hs1:=HE.o.kept (Kept.setCell (X:=fun q=>q≠w.heap.size+2) wr (a:=⟨w.heap.size+2,56,none⟩) (fun e=>e rfl) (.int .u8 (m.c%256))) (HE.o.row.set 56 zO (m.c%256));have c56:=HE.o.row.at_ 56 zO;have f56:=HE.o.row.fz 56 zO;have hen:∀j,eY m j=if j=57 then(if m.lp then 1 else 0) else if j=56 then m.c%256 else WW m 6 j:=fun j=>by
    unfold eY WW;by_cases h1:j<32
    ·rw[if_pos h1,if_neg zO,if_neg zO,if_pos h1]
    ·rw[if_neg h1];by_cases h2:j<56
     ·rw[if_pos h2,if_neg zO,if_neg zO,if_neg h1,if_pos zO]
     ·rw[if_neg h2];by_cases h3:j=56
      ·rw[if_pos h3,if_neg zO,if_pos h3]
      ·rw[if_neg h3];by_cases h4:j=57
       ·rw[if_pos h4,if_pos h4]
       ·rw[if_neg h4,if_neg h4,if_neg h3,if_neg h1,if_neg zO]
   have HEn:=zH hen;obtain⟨W2,hW2⟩:∃W,W=wr.setCell ⟨w.heap.size+2,56,none⟩ (.int .u8 (m.c%256)):=⟨_,rfl⟩
   rw[<-hW2]at hs1;have HS2:=zH hs1;have HW2:=zH hW2;have c4:W2.cell? ⟨w.heap.size,4,none⟩=some (.bool m.lp):=hs1.box.at_ 4;have HC4:=zH c4;have HEND:Hid (∀V F,EnS w m F V->(∀j,F j=eY m j)->(∀j,j<64->V.cell? ⟨w.heap.size+1+1,0+j,none⟩=some (.int .u8 (eY m j)))/\V.heap[w.heap.size+1]?=some (.cells (aA 64 (bU fun _=>0)) 202 (0,0))/\Old w V):=zH fun V F hV e=>⟨fun j hj=>by
    rw[Nat.zero_add];have:=hV.row.at_ j hj;rw[e j]at this;exact this,hV.res,hV.old⟩
   clear hs1 hW2 hen HE;obtain⟨x56,hx56⟩:∃x,x=WW m 6 56:=⟨_,rfl⟩
   rw[<-hx56]at c56;clear hx56;have HRW:=zH (UW 64 (eY m));have Hr64:Hid ((aA 64 (bU (eY m))).size=64):=zH (by rw[aB]);have Hz64:Hid ((aA 64 (bU fun _=>0)).size=64):=zH (by rw[aB]);obtain⟨lp,hlp⟩:=zG (m.lp);rw[<-hlp]at c4;have HLp:=zH hlp;cases lp
   ·clear hlp;have he:=HEND.o W2 _ HS2.o (fun j=>by
     rw[HEn.o j,<-HLp.o];by_cases e:j=57
     ·subst e;rfl
     ·rw[if_neg e])
    have HE1:=zH he.1;have HE2:=zH he.2.1;have hrr:=bS he.2.1 he.2.2 zO (aA 64 (bU (eY m)));have HRR:=zH hrr;clear he hrr HEND HEn HS2
    go_wp2_with (first
     | (rw[<-HW2.o])
     | (with_reducible refine gD rfl 64 (eY m) 202 _ rfl (w.heap.size+1+1) 0 rfl _ HE1.o underlying202 rfl Hs64.o ?_)
     | (with_reducible refine wpList_store_row rfl 202 _ _ rfl (w.heap.size+1) (aA 64 (bU (eY m))) rfl rfl 202 _ HE2.o (by rw[Hr64.o];exact Hs64.o) (by rw[Hr64.o,Hz64.o]) HRW.o ?_))
    exact bodyPost_ret (results_cell_row rfl _ _ (w.heap.size+1) 202 (aA 64 (bU (eY m))) (0,0) _ rfl HRR.o.1 underlying202 rfl (by rw[Hr64.o];exact Hs64.o)) rfl ⟨rfl,HRR.o.2⟩
   ·clear hlp;have hs3:=HS2.o.kept (Kept.setCell (X:=fun q=>q≠w.heap.size+2) W2 (a:=⟨w.heap.size+2,57,none⟩) (fun e=>e rfl) (.int .u8 1)) (HS2.o.row.set 57 zO 1);have c57:=HS2.o.row.at_ 57 zO;have f57:=HS2.o.row.fz 57 zO;rw[if_neg zO]at c57;obtain⟨x57,hx57⟩:∃x,x=WW m 6 57:=⟨_,rfl⟩
    rw[<-hx57]at c57;clear hx57;obtain⟨W3,hW3⟩:∃W,W=W2.setCell ⟨w.heap.size+2,57,none⟩ (.int .u8 1):=⟨_,rfl⟩
    rw[<-hW3]at hs3;have HW3:=zH hW3;have he:=HEND.o W3 _ hs3 (fun j=>by
     rw[HEn.o j,<-HLp.o];by_cases e:j=57
     ·subst e;rfl
     ·rw[if_neg e];rw[if_neg e])
    have HE1:=zH he.1;have HE2:=zH he.2.1;have hrr:=bS he.2.1 he.2.2 zO (aA 64 (bU (eY m)));have HRR:=zH hrr;clear he hrr HEND HEn HS2 hs3 hW3
    go_wp2_with (first
     | (rw[<-HW2.o])
     | (rw[<-HW3.o])
     | (with_reducible refine gD rfl 64 (eY m) 202 _ rfl (w.heap.size+1+1) 0 rfl _ HE1.o underlying202 rfl Hs64.o ?_)
     | (with_reducible refine wpList_store_row rfl 202 _ _ rfl (w.heap.size+1) (aA 64 (bU (eY m))) rfl rfl 202 _ HE2.o (by rw[Hr64.o];exact Hs64.o) (by rw[Hr64.o,Hz64.o]) HRW.o ?_))
    exact bodyPost_ret (results_cell_row rfl _ _ (w.heap.size+1) 202 (aA 64 (bU (eY m))) (0,0) _ rfl HRR.o.1 underlying202 rfl (by rw[Hr64.o];exact Hs64.o)) rfl ⟨rfl,HRR.o.2⟩
theorem xY:∀w,(sizeOf (zP.elem 34)).run zP w=.ok 1 w:=fun w=>zK
theorem lF:zP.underlying 34=some (.slice (zP.elem 34)):=zK
theorem vS(b o n cap k:Nat)(hk:k<n)(hn:n<=cap)(w:World):(Instr.sliceAt 34 (.slice (some ⟨b,o,none⟩) n cap) (some (vI iJ k)) none none).run zP w=.ok (.slice (some ⟨b,o+k,none⟩) (n-k) (cap-k)) w:=
 tA lF xY b o n cap k hk hn k rfl w
theorem DO(b o n cap hi:Nat)(h0:0<cap)(hh:hi<=cap)(w:World):(Instr.sliceAt 34 (.slice (some ⟨b,o,none⟩) n cap) none (some (vI iJ hi)) none).run zP w=.ok (.slice (some ⟨b,o,none⟩) hi cap) w:=by
 rw[run_sliceAt_slice _ _ _ _ _ _ lF,run_slice_h _ _ _ _ _ lF _ _ zO zO,xY];simp only[Result.andThen_ok,sliced,Int.toNat_natCast,Option.map,Nat.mul_one];rw[if_neg zO,add_plain];rfl
theorem lD(b o n cap lo hi:Nat)(h1:lo<hi)(h2:hi<=cap)(w:World):(Instr.sliceAt 34 (.slice (some ⟨b,o,none⟩) n cap) (some (vI iJ lo)) (some (vI iJ hi)) none).run zP w=.ok (.slice (some ⟨b,o+lo,none⟩) (hi-lo) (cap-lo)) w:=by
 rw[run_sliceAt_slice _ _ _ _ _ _ lF,run_slice_lh _ _ _ _ _ lF _ _ _ _ zO zO zO,xY];simp only[Result.andThen_ok,sliced,Int.toNat_natCast,Option.map,Nat.mul_one];rw[if_neg zO,add_plain]
theorem aET(n:Nat):madeCells (Value.int .u8 0:Value).cells n=aA n (bU fun _=>0):=by
 apply Array.ext_getElem?;intro i;by_cases hi:i<n
 ·rw[aGG n _ i hi];have h1:(Value.int .u8 0:Value).cells.size=1:=rfl;simp[madeCells,hi,Value.cells,Nat.mod_one]
 ·rw[Array.getElem?_eq_none (by rw[size_madeCells];omega),Array.getElem?_eq_none (by rw[aB];omega)]
theorem LO(w:World)(g o N cap:Nat)(s:ByteArray)(hle:s.size<=N)(ht:w.there g o s.size):
  (Builtin.copy_ #[34,9] 3 #[.slice (some ⟨g,o,none⟩) N cap,.string s]).run zP w=.ok (vI iJ (s.size:Int)) (w.setCells g o ((gQ (lT s) s.size).map (Value.int .u8))):=by
 have h:=run_copy_string (P:=zP) w 34 9 3 5 g o N cap s underlying34 rE hle (fun j hj=>(ht j hj).1) (fun j hj=>(ht j hj).2);rw[FY]at h;exact h
theorem Tryz.info_u8:(zP.info? 5).map (fun i=>(i.zero,i.size,i.bytes))=some (some (.int .u8 0),1,1):=zK
theorem WI(n:Nat)(hn:n<=1099511627776)(w:World):(Instr.makeSlice 34 (vI iJ n) (vI iJ n)).run zP w=.ok (.slice (some ⟨w.heap.size,0,none⟩) n n) (w.alloc (.cells (aA n (bU fun _=>0)) 5)):=by
 obtain⟨i,hi,hz0,hz1,hz2⟩:=info_parts Tryz.info_u8;rw[run_make w _ _ i _ underlying34 hi hz0 .i64 .i64 n n zO zO (by rw[hz2];omega) zO,hz1,Int.toNat_natCast,Nat.mul_one,aET n]
def yU(len n sz:Int)(D:Nat->Mt)(k:Nat):nI:=fun p=>if p<16 then mM len n sz p else if p<16+64*k then eY (D ((p-16)/64)) ((p-16)%64) else 0
theorem aCL(len n sz:Int)(D:Nat->Mt)(k j:Nat):aV (yU len n sz D k) (16+64*k) 64 (eY (D k)) j=yU len n sz D (k+1) j:=by
 unfold aV yU;by_cases h:16+64*k<=j/\j<16+64*k+64
 ·rw[if_pos h,if_neg zO,if_pos zO,show (j-16)/64=k by omega,show (j-16)%64=j-(16+64*k) by omega]
 ·rw[if_neg h];by_cases h1:j<16
  ·rw[if_pos h1,if_pos h1]
  ·rw[if_neg h1,if_neg h1];by_cases h2:j<16+64*k
   ·rw[if_pos h2,if_pos zO]
   ·rw[if_neg h2,if_neg zO]
theorem aCi(len n sz:Int)(D:Nat->Mt)(j:Nat):aV (aV (aV (aV (fun _=>0) 0 4 mrk) 4 4 (be 4 len)) 8 2 (be 2 n)) 10 1 (be 1 sz) j=yU len n sz D 0 j:=by
 unfold aV yU mM;by_cases h0:j<4
 ·rw[if_neg zO,if_neg zO,if_neg zO,if_pos zO,if_pos zO,if_pos h0,Nat.sub_zero]
 ·by_cases h1:j<8
  ·rw[if_neg zO,if_neg zO,if_pos zO,if_pos zO,if_neg h0,if_pos h1]
  ·by_cases h2:j<10
   ·rw[if_neg zO,if_pos zO,if_pos zO,if_neg h0,if_neg h1,if_pos h2]
   ·by_cases h3:j<11
    ·rw[if_pos zO,if_pos zO,if_neg h0,if_neg h1,if_neg h2,if_pos h3]
    ·rw[if_neg zO,if_neg zO,if_neg zO,if_neg zO];by_cases h4:j<16
     ·rw[if_pos h4,if_neg h0,if_neg h1,if_neg h2,if_neg h3]
     ·rw[if_neg h4,if_neg zO]
theorem VU(len n sz:Int)(D:Nat->Mt)(N j:Nat)(h:j<16+64*N):yU len n sz D N j=mA len n sz D j:=by
 unfold yU mA;by_cases h1:j<16
 ·rw[if_pos h1,if_pos h1]
 ·rw[if_neg h1,if_neg h1,if_pos h]
theorem ZM(len:Int)(n sz:Nat)(D:Nat->Mt)(j:Nat)(h:j<20+64*n):aV (yU len n sz D n) (16+64*n) 4 (be 4 (jE (yU len n sz D n) (16+64*n))) j=cC len n sz D j:=by
 have e:jE (yU len n sz D n) (16+64*n)=jE (mA len n sz D) (16+64*n):=AD fun j hj=>VU len n sz D n j hj;unfold cC;rw[e];unfold aV;by_cases h1:16+64*n<=j/\j<16+64*n+4
 ·rw[if_pos h1,if_pos h1]
 ·rw[if_neg h1,if_neg h1];exact VU len n sz D n j zO
def uR:ByteArray:=⟨#[67,65,76,49]⟩
theorem KI(j:Nat)(h:j<4):lT uR j=mrk j:=by
 match j,h with
 | 0,_=>rfl
 | 1,_=>rfl
 | 2,_=>rfl
 | 3,_=>rfl
structure gX(w:World)(g N:Nat)(F:nI)(W:World):Prop where
 row:UAt W g N F
 ge:w.heap.size<=g
 old:Old w W
theorem gX.put{w:World}{g N:Nat}{F G:nI}{W W':World}(h:gX w g N F W)(r:UAt W' g N G)(k:Kept (fun q=>q≠g) W W'):gX w g N G W':=
 ⟨r,h.ge,h.old.after k fun q hq=>by have:=h.ge;omega⟩
theorem gX.on{w:World}{g N:Nat}{F:nI}{W W':World}(h:gX w g N F W)(o:Old W W'):gX w g N F W':=⟨h.row.old o,h.ge,h.old.trans o⟩
theorem gX.ext{w:World}{g N:Nat}{F G:nI}{W:World}(h:gX w g N F W)(e:∀j,F j=G j):gX w g N G W:=⟨h.row.ext fun j _=>e j,h.ge,h.old⟩
theorem gX.lay{w:World}{g N:Nat}{F:nI}{W:World}(h:gX w g N F W)(o n:Nat)(hn:o+n<=N)(f:nI):gX w g N (aV F o n f) (W.setCells g o ((gQ f n).map (Value.int .u8))):=
 h.put (h.row.setCells o n hn f) (Kept.setCells (X:=fun q=>q≠g) W (fun e=>e rfl) _ _)
theorem gX.new(w:World)(N:Nat):gX w w.heap.size N (fun _=>0) (w.alloc (.cells (aA N (bU fun _=>0)) 5)):=⟨qF _ _ _ _,Nat.le_refl _,Old.alloc _ _⟩
theorem ZR(sz n:Nat)(len:Int)(p:Option Addr)(cap:Nat)(D:Nat->Mt)(w:World)(hz:sz<=255)(hl0:0<=len)(hl1:len<=9223372036854775807)(hs:iB w p n D)(hn:n<=64)(hD:∀i,i<n->(D i).s.size<=32/\(D i).numOk):
  Calls zP 145 #[vI iJ sz,vI iJ len,.slice p n cap] w fun e w'=>∃g,e=rJ (.slice (some ⟨g,0,none⟩) (20+64*n) (20+64*n))/\gX w g (20+64*n) (cC len n sz D) w':=by
 have HDr:=zH (fun w=>xT n w zO);have HSU:=zH rE;obtain⟨N,hN⟩:=zG (20+64*n);rw[<-hN]at HDr |-;have hmk:=WI N zO w;obtain⟨g,hg⟩:=zG (w.heap.size);obtain⟨W0,hW0⟩:∃W,W=w.alloc (.cells (aA N (bU fun _=>0)) 5):=⟨_,rfl⟩
 have hf0:gX w g N (fun _=>0) W0:=by rw[hW0,hg];exact gX.new w N
 rw[<-hW0,<-hg]at hmk;obtain⟨W1,hW1⟩:∃W,W=W0.setCells g 0 ((gQ (lT uR) uR.size).map (Value.int .u8)):=⟨_,rfl⟩
 have hf1:gX w g N (aV (fun _=>0) 0 4 mrk) W1:=by
  rw[hW1];refine(hf0.lay 0 4 zO (lT uR)).ext fun j=>?_;unfold aV;by_cases h:0<=j/\j<0+4
  ·rw[if_pos h,if_pos h];exact KI _ zO
  ·rw[if_neg h,if_neg h]
 have HF1:=zH hf1;have hcp:(Builtin.copy_ #[34,9] 3 #[.slice (some ⟨g,0,none⟩) N N,.string ⟨#[67,65,76,49]⟩]).run zP W0=.ok (vI iJ 4) W1:=by
  rw[hW1];exact LO W0 g 0 N N uR (by show 4<=N;omega) (hf0.row.there 0 4 zO)
 have hc1:=fun w'=>lD g 0 N N 4 8 zO zO w';have hc2:=fun w'=>lD g 0 N N 8 10 zO zO w';have hc3:=fun w'=>lD g 0 N N 10 11 zO zO w';have HDD:=zH hD;have HS:=zH hs;have HB:=zH (And.intro hN (And.intro hl0 (And.intro hl1 hz)));have hN20:20<=N:=zO;clear hf0 hf1 hW0 hW1 hs hg hN hl0 hl1 hz hD;go_enter func145,ntmps145
 go_wp2_with fail
 refine(HDr.o _).mono ?_;rintro e w1 ⟨rfl,rfl⟩
 go_wp2_with fail
 clear hcp hmk HDr;have HP:=zH (qZ g 4 N (N-4) 4 _ len W1 zO zO HF1.o.row HB.o.2.1 HB.o.2.2.1);refine HP.o.mono ?_;rintro e w2 ⟨rfl,hr,hk⟩;have HF2:=zH (HF1.o.put hr hk);clear HF1 HP hr hk
 go_wp2_with fail
 have HP:=zH (qZ g 8 N (N-8) 2 _ n w2 zO zO HF2.o.row zO zO);refine HP.o.mono ?_;rintro e w3 ⟨rfl,hr,hk⟩;have HF3:=zH (HF2.o.put hr hk);clear HF2 HP hr hk
 go_wp2_with fail
 have HP:=zH (qZ g 10 N (N-10) 1 _ sz w3 zO zO HF3.o.row zO (by have:=HB.o.2.2.2;omega));refine HP.o.mono ?_;rintro e w4 ⟨rfl,hr,hk⟩;have HF4:=zH ((HF3.o.put hr hk).ext (aCi len n sz D));clear HF3 HP hr hk hc1 hc2 hc3;obtain⟨wo,rfl⟩:∃V,V=w4:=⟨_,rfl⟩
 go_wp2_with fail
 have Hs9:Hid ((zP.info? 90).map (·.size)=some 9):=zH zK;have Hs64:=zH Tryz.zero64.2;have Hu1:Hid ((zP.info? 5).map (·.size)=some 1):=zH zK
 go_loopw [33] (fun iv wr=>∃k:Nat,k<=n/\iv=vI iJ k/\Hid (gX w g N (yU len n sz D k) wr)) (fun i _=>n-(intOf i).toNat)
 case atStart=>exact⟨0,zO,by go_num,HF4⟩
 case round=>
  clear HF4;obtain⟨k,hk,rfl,HF⟩:=hrel;by_cases hkn:k<n
  ·obtain⟨gd,o,rfl,hgd,hcs⟩:=(HS.o.old HF.o.old).cell zO;obtain⟨m,hm⟩:=zG (D k);have hck:=hcs k hkn;rw[<-hm]at hck;have c0:wr.cell? ⟨gd,o+k*9,none⟩=some (.string m.s):=hck 0 _ rfl;have c1:wr.cell? ⟨gd,o+k*9+1,none⟩=some (vI iJ m.n):=hck 1 _ rfl;have c2:wr.cell? ⟨gd,o+k*9+2,none⟩=some (vI iJ m.r):=hck 2 _ rfl;have c3:wr.cell? ⟨gd,o+k*9+3,none⟩=some (vI iJ m.c):=hck 3 _ rfl;have c4:wr.cell? ⟨gd,o+k*9+4,none⟩=some (.bool m.lp):=hck 4 _ rfl;have c5:wr.cell? ⟨gd,o+k*9+5,none⟩=some (vI iJ m.a):=hck 5 _ rfl;have c6:wr.cell? ⟨gd,o+k*9+6,none⟩=some (vI iJ m.b):=hck 6 _ rfl;have c7:wr.cell? ⟨gd,o+k*9+7,none⟩=some (vI iJ m.x):=hck 7 _ rfl;have c8:wr.cell? ⟨gd,o+k*9+8,none⟩=some (vI iJ m.y):=hck 8 _ rfl;have hdk:=HDD.o k hkn;rw[<-hm]at hdk;have HEn:=zH (fun V=>GD m V hdk.1 hdk.2);have HM:=zH hm;have HOB:=zH (Old.alloc wr (.cells m.cells 90));have hz:=Tryz.zero64.1;clear hck hcs hgd hm hdk;unfold Mt.cells at HEn HOB
   go_wp2_with fail
   refine(HEn.o _).mono ?_;rintro e w2 ⟨rfl,ho2⟩;have HO2:=zH (HOB.o.trans ho2);clear HEn HOB ho2 c0 c1 c2 c3 c4 c5 c6 c7 c8;obtain⟨b2,hb2⟩:∃b,b=w2.heap.size:=⟨_,rfl⟩
   obtain⟨W3,hW3⟩:∃W,W=w2.alloc (.cells (aA 64 (bU (eY m))) 202):=⟨_,rfl⟩
   have hrow:UAt W3 b2 64 (eY m):=by rw[hW3,hb2];exact qF _ _ _ _
   have ho3:Old w2 W3:=by rw[hW3];exact Old.alloc _ _
   have HRow:=zH hrow;have HO3:=zH (HO2.o.trans ho3);have HW3:=zH hW3;have HB2:=zH hb2;have HOne:=zH (UW 64 (eY m));have Hr64:Hid ((aA 64 (bU (eY m))).size=64):=zH (by rw[aB]);clear hrow ho3 hW3 hb2 HO2
   go_wp2_with (with_reducible refine wpList_store_row rfl 202 _ _ rfl w2.heap.size (aA 64 (bU (eY m))) rfl rfl 202 _ (heap_alloc_new _ _) (by rw[Hr64.o];exact Hs64.o) (by rw[Hr64.o,aB]) HOne.o ?_;rw[World.setRow_alloc_new,<-HW3.o,<-HB2.o];clear hz)
   obtain⟨u,hu⟩:∃u:Nat,u=k*64:=⟨_,rfl⟩
   obtain⟨z,hz⟩:∃z:Nat,z=16+u:=⟨_,rfl⟩
   have HZ:=zH (And.intro hu hz);have hNN:=HB.o.1;have hzn:z+64<=N:=zO;have e1:IntKind.i64.wrap ((k:Int)*64)=u:=by rw[IntWalk.i64_in _ zO];omega
   have e2:IntKind.i64.wrap (16+(u:Int))=z:=by rw[IntWalk.i64_in _ zO];omega
   have hcl:=fun w'=>vS g 0 N N z zO zO w';have hca:=fun w'=>PN b2 w';have HTh:Hid (W3.drew.there g z 64):=zH (by
    have hf:UAt W3.drew g N (yU len n sz D k):=⟨(HF.o.on HO3.o).row.1,(HF.o.on HO3.o).row.2,(HF.o.on HO3.o).row.3⟩
    exact hf.there z 64 hzn)
   have HSrc:Hid (∀j,j<64->W3.drew.cell? ⟨b2,0+j,none⟩=some (.int .u8 (eY m j))):=zH fun j hj=>by rw[Nat.zero_add];exact HRow.o.at_ j hj
   have HFn:=zH (show gX w g N (yU len n sz D (k+1)) (W3.drew.setCells g z ((gQ (eY m) 64).map (Value.int .u8))) from by
    have h1:=HF.o.on HO3.o;have h2:gX w g N (yU len n sz D k) W3.drew:=⟨⟨h1.row.1,h1.row.2,h1.row.3⟩,h1.ge,h1.old.drew⟩
    refine(h2.lay z 64 hzn (eY m)).ext fun j=>?_;have h16:z=16+64*k:=by have:=HZ.o;omega
    rw[h16,HM.o];exact aCL len n sz D k j)
   have HMin:Hid (64=Nat.min 64 (N-z)):=zH (by show 64=min 64 (N-z);omega);clear hu hz hNN hzn HRow HO3 HF HW3 HB2 HOne Hr64;refine wp_region_held_drew (S:=(fun _=>True)) zK ?_ (fun hHeld=>?_)
   ·exact trivial
   refine (uU 0) ((uU 1) ((uU 2) ((uU 3) ((uU 4) ((uU 5) ?_)))));refine wpR 6 rfl (fun K hK=>?_);rw[if_pos zK]
   with_reducible refine AV (.tmp 44) (.tmp 45) 34 34 rfl 5 underlying34 Hu1.o 64 (eY m) g z (N-z) (N-z) b2 0 64 64 rfl rfl HMin.o HSrc.o HTh.o ?_
   refine hK.out _ _ ?_ (fun hHeld=>?_)
   ·exact trivial
   clear hK K
   try simp only[Act.put,sA,sZ,sS]
   refine wpAnyH_done zK ?_ _;clear e1 e2 hcl hca HTh HSrc
   go_wp2_with fail
   go_roundw
   case rel=>exact⟨k+1,zO,by go_num,HFn⟩
   case measure=>exact zM
  ·obtain rfl:k=n:=zO;obtain⟨E,hE⟩:∃E:Nat,E=16+64*k:=⟨_,rfl⟩
   have hNN:=HB.o.1;have hEN:N=E+4:=zO;have e1:wrap64 ((N:Int)-4)=E:=by rw[IntWalk.wrap64_in _ zO];omega
   have hcl:∀w',(Instr.sliceAt 34 (.slice (some ⟨g,0,none⟩) N N) (some (vI iJ E)) none none).run zP w'=.ok (.slice (some ⟨g,E,none⟩) 4 4) w':=fun w'=>by
    have:=vS g 0 N N E zO zO w'
    rwa [Nat.zero_add,show N-E=4 by omega]at this
   have hch:=fun w'=>DO g 0 N N E zO zO w';have HSm:=zH (fun V (hV:gX w g N (yU len k sz D k) V)=>uC (some ⟨g,0,none⟩) E N (yU len k sz D k) V ((hV.row.sl 0 E zO).ext fun j _=>by rw[Nat.zero_add]) (fun j _=>by
    unfold yU;split
    ·exact DE ..
    ·split
     ·exact IP ..
     ·omega) zO (by unfold maxLen;omega))
   have hsb:=tT (F:=yU len k sz D k) (n:=E) (fun j _=>by
    unfold yU;split
    ·exact DE ..
    ·split
     ·exact IP ..
     ·omega)
   have HFin:=zH (fun j (hj:j<N)=>ZM len k sz D j zO);rw[<-hE]at HFin;obtain⟨S,hS⟩:=zG (jE (yU len k sz D k) E);rw[<-hS]at hsb HSm HFin;have e3:IntKind.i64.wrap S=S:=IntWalk.i64_in _ zO;have HPt:=zH (fun V (hV:gX w g N (yU len k sz D k) V)=>qZ g E N 4 4 (yU len k sz D k) S V zO zO hV.row hsb.1 zO);have HZ:=zH (And.intro hE (And.intro hNN hEN));have hd0:gX w g N (yU len k sz D k) wr.drew:=⟨⟨HF.o.row.1,HF.o.row.2,HF.o.row.3⟩,HF.o.ge,HF.o.old.drew⟩
   have HF2:=zH hd0;have hb1:(0:Int)<=E:=zO;have hb2:(E:Int)<=N:=zO;have hbS:=hsb;clear hE hNN hEN hS hd0 HF hsb
   go_wp2_with fail
   refine wp_region_held_drew (S:=(fun _=>True)) zK ?_ (fun hHeld=>?_)
   ·exact trivial
   refine (uU 0) ((uU 1) ((uU 2) ((uU 3) ((uU 4) ((uU 5) ?_)))));refine wpR 6 rfl (fun K hK=>?_);go_simp;refine(HSm.o _ HF2.o).mono ?_;rintro e V ⟨rfl,o1⟩;have HF3:=zH (HF2.o.on o1);clear HF2 o1 HSm
   go_wp2_with fail
   refine hK.out _ _ ?_ (fun hHeld=>?_)
   ·exact trivial
   clear hK K;refine (uU 7) ?_;refine wpR 8 rfl (fun K hK=>?_);go_simp;refine(HPt.o _ HF3.o).mono ?_;rintro e V2 ⟨rfl,hr,hk1⟩;have HF4:=zH (HF3.o.put hr hk1);clear HF3 hr hk1 HPt
   go_wp2_with fail
   refine hK.out _ _ ?_ (fun hHeld=>?_)
   ·exact trivial
   clear hK K
   try simp only[Act.put,sA,sZ,sS]
   refine wpAnyH_done zK ?_ _
   go_wp2_with fail
   go_ret;exact⟨g,rfl,⟨HF4.o.row.ext HFin.o,HF4.o.ge,HF4.o.old⟩⟩
theorem BQ(w:World)(g o N cap b so M sc n:Nat)(f:nI)(hn:n=min M N)(hsrc:∀j,j<n->w.cell? ⟨b,so+j,none⟩=some (.int .u8 (f j)))(ht:w.there g o n):
  (Builtin.copy_ #[34,34] 3 #[.slice (some ⟨g,o,none⟩) N cap,.slice (some ⟨b,so,none⟩) M sc]).run zP w=.ok (vI iJ (n:Int)) (w.setCells g o ((gQ f n).map (Value.int .u8))):=by
 have hlen:((gQ f n).map (Value.int .u8)).length=n:=by rw[List.length_map,dB]
 have hrun:=run_copy_cells (P:=zP) w 34 34 3 5 g o N cap ⟨b,so,none⟩ M sc ((gQ f n).map (Value.int .u8)) underlying34 zK (by rw[hlen];exact hn)
  (fun j v hv=>by
   have hj:j<n:=by
    rcases Nat.lt_or_ge j n with h | h
    ·exact h
    ·rw[List.getElem?_eq_none zO]at hv;cases hv
   have:((gQ f n).map (Value.int .u8))[j]?=some (.int .u8 (f j)):=by simp[gQ,hj]
   rw[this]at hv;cases hv;rw[add_plain];exact hsrc j hj) (fun j hj=>(ht j (by rw[hlen]at hj;exact hj)).1) (fun j hj=>(ht j (by rw[hlen]at hj;exact hj)).2) (aDy _)
 rw[hlen]at hrun;exact hrun
structure RwU(w:World)(p:Option Addr)(n:Nat)(Q:Nat->Option Addr)(M C:Nat->Nat)(B:Nat->Nat->Int):Prop where
 cell:0<n->∃g o,p=some ⟨g,o,none⟩/\g<w.heap.size/\∀i,i<n->w.cell? ⟨g,o+i,none⟩=some (.slice (Q i) (M i) (C i))
 row:∀i,i<n->M i<=C i/\C i<=maxLen/\SlU w (Q i) (M i) (B i)/\lS (B i) (M i)
theorem RwU.old{w w':World}{p:Option Addr}{n:Nat}{Q:Nat->Option Addr}{M C:Nat->Nat}{B:Nat->Nat->Int}(h:RwU w p n Q M C B)(k:Old w w'):RwU w' p n Q M C B where
 cell:=fun hn=>by
  obtain⟨g,o,h1,h2,h3⟩:=h.cell hn;exact⟨g,o,h1,Nat.lt_of_lt_of_le h2 k.size,fun i hi=>(k.cell (a:=⟨g,o+i,none⟩) h2).trans (h3 i hi)⟩
 row:=fun i hi=>by
  obtain⟨a,b,c,d⟩:=h.row i hi;exact⟨a,b,c.old k,d⟩
theorem XG{D:Nat->Mt}{sz n:Nat}(hz:sz<=96)(hn:n<=64)(hD:∀i,i<n->(D i).OkR)(i:Nat)(hi:i<n):(eE D sz n i).s.size<=32/\(eE D sz n i).numOk:=by
 have h:=hD i hi;have hb:=tQ (f:=aQ D) (sz:=sz) (n:=n) (fun i hi=>(hD i hi).fr_le.2) hz i zO;have hf:=fJ (aQ D) sz n i;have hfr:aQ D i<=131072:=h.fr_le.2;have h1:=h.nums;have h2:=h.n1;have h3:=h.n2;have h4:=h.r1;have h5:=h.r2;refine⟨h.name.1.2,fun k hk=>?_⟩
 match k,hk with
 | 0,_=>show 0<=(D i).n/\(D i).n<=_;omega
 | 1,_=>show 0<=(D i).r/\(D i).r<=_;omega
 | 2,_=>show 0<=(D i).a/\(D i).a<=_;omega
 | 3,_=>show 0<=(D i).b/\(D i).b<=_;omega
 | 4,_=>show 0<=((bO (aQ D) sz n i:Nat):Int)/\((bO (aQ D) sz n i:Nat):Int)<=_;omega
 | 5,_=>show 0<=((aL (aQ D) sz n i:Nat):Int)/\((aL (aQ D) sz n i:Nat):Int)<=_;omega
theorem WJ(A Y q sz:Nat)(hA:A<=1099511627776)(hY:Y<=1099511627776)(hq:q<=131072)(hz:sz<=96):∃u P v R:Nat,u=q*4/\P=A+u/\v=q*sz/\R=Y+v /\
  (IntKind.i64.wrap ((q:Int)*4)=u/\IntKind.i64.wrap ((A:Int)+u)=P/\wrap64 ((q:Int)*4)=u/\wrap64 ((A:Int)+u)=P) /\
  (IntKind.i64.wrap ((q:Int)*sz)=v/\IntKind.i64.wrap ((Y:Int)+v)=R/\wrap64 ((q:Int)*sz)=v/\wrap64 ((Y:Int)+v)=R):=by
 have hfs:q*sz<=131072*96:=Nat.mul_le_mul hq hz;refine⟨_,_,_,_,rfl,rfl,rfl,rfl,⟨?_,?_,?_,?_⟩,?_,?_,?_,?_⟩
 ·rw[IntWalk.i64_in _ zO];omega
 ·rw[IntWalk.i64_in _ zO];omega
 ·rw[IntWalk.wrap64_in _ zO];omega
 ·rw[IntWalk.wrap64_in _ zO];omega
 ·rw[<-Int.natCast_mul];exact IntWalk.i64_in _ zO
 ·rw[<-Int.natCast_add];exact IntWalk.i64_in _ zO
 ·rw[<-Int.natCast_mul];exact IntWalk.wrap64_in _ zO
 ·rw[<-Int.natCast_add];exact IntWalk.wrap64_in _ zO
def oF(w:World)(g N:Nat)(f:Nat->Nat)(sz n:Nat)(B:Nat->Nat->Int)(H:nI)(k:Nat)(W:World):Prop:=∃F,gX w g N F W/\Ld f sz n B H k F
theorem oF.on{w:World}{g N:Nat}{f:Nat->Nat}{sz n:Nat}{B:Nat->Nat->Int}{H:nI}{k:Nat}{W W':World}(h:oF w g N f sz n B H k W)(o:Old W W'):oF w g N f sz n B H k W':=by
 obtain⟨F,h1,h2⟩:=h;exact⟨F,h1.on o,h2⟩
theorem oF.lt{w:World}{g N:Nat}{f:Nat->Nat}{sz n:Nat}{B:Nat->Nat->Int}{H:nI}{k:Nat}{W:World}(h:oF w g N f sz n B H k W):g<W.heap.size/\Old w W/\w.heap.size<=g:=by
 obtain⟨F,h1,h2⟩:=h;exact⟨h1.row.lt,h1.old,h1.ge⟩
theorem aBz(sz n N K:Nat)(p:Option Addr)(cap:Nat)(D:Nat->Mt)(fp:Option Addr)(fc:Nat)(Q:Nat->Option Addr)(C:Nat->Nat)(B:Nat->Nat->Int)(w:World)(h24:24<=sz)(hz:sz<=96)(hs:iB w p n (eE D sz n))(hn:n<=64)(hD:∀i,i<n->(D i).OkR)
  (hN:bO (aQ D) sz n n<=N) (hN2:N<=1099511627776) (hfr:RwU w fp K Q (fun _=>sz) C B) (hK:K=aF (aQ D) n):
  Calls zP 104 #[vI iJ sz,vI iJ N,.slice p n cap,.slice fp K fc] w fun e w'=>∃g,e=rJ (.slice (some ⟨g,0,none⟩) N N)/\oF w g N (aQ D) sz n B (cC N n sz (eE D sz n)) K w':=by
 have hlo:=JD (aQ D) sz n n;have hmk:=WI N zO w;obtain⟨g,hg⟩:=zG (w.heap.size);obtain⟨W0,hW0⟩:∃W,W=w.alloc (.cells (aA N (bU fun _=>0)) 5):=⟨_,rfl⟩
 have hf0:gX w g N (fun _=>0) W0:=by rw[hW0,hg];exact gX.new w N
 rw[<-hW0,<-hg]at hmk;have HFt:=zH (ZR sz n N p cap (eE D sz n) W0 zO zO zO (hs.old hf0.old) hn (fun i hi=>XG hz hn hD i hi));have HF0:=zH hf0;have HS:=zH hs;have HOk:=zH hD;have HFr:=zH hfr;have HB:=zH (And.intro h24 (And.intro hz (And.intro hN (And.intro hN2 (And.intro hK hlo)))));have hn64:=hn;clear hf0 hW0 hs hg hN hN2 hz hD hfr hK hlo h24;go_enter func104,ntmps104
 go_wp2_with fail
 refine HFt.o.mono ?_;rintro e w1 ⟨gf,rfl,hft⟩;have hNN:20+64*n<=N:=by have:=HB.o.2.2.2.2.2;have:=HB.o.2.2.1;omega
 obtain⟨E,hE⟩:=zG (20+64*n);rw[<-hE]at hft hNN |-;have hfw:=HF0.o.on hft.old;have hcp:=BQ w1 g 0 N N gf 0 E E E (cC N n sz (eE D sz n)) zO (fun j hj=>by rw[Nat.zero_add];exact hft.row.at_ j hj) (hfw.row.there 0 E zO);obtain⟨W2,hW2⟩:∃W,W=w1.setCells g 0 ((gQ (cC N n sz (eE D sz n)) E).map (Value.int .u8)):=⟨_,rfl⟩
 rw[<-hW2]at hcp;have HL0:Hid (oF w g N (aQ D) sz n B (cC N n sz (eE D sz n)) (aF (aQ D) 0) W2):=zH ⟨_,by
  rw[hW2];exact hfw.lay 0 E zO _,Ld.zero _ _ _ _ _ _ (fun p hp=>by unfold aV;rw[if_pos ⟨zO,zO⟩,Nat.sub_zero]) (fun p hp=>by unfold aV;rw[if_neg zO])⟩
 clear hft hfw hW2 HF0 HFt hmk hE hNN
 go_wp2_with fail
 clear hcp;obtain⟨H,hH⟩:=zG (cC N n sz (eE D sz n));have HH:=zH hH;rw[<-hH]at HL0;clear hH
 go_loopw [10,25] (fun nv iv wr=>∃k:Nat,k<=n/\iv=vI iJ k/\nv=vI iJ (aF (aQ D) k:Nat)/\Hid (oF w g N (aQ D) sz n B H (aF (aQ D) k) wr)) (fun _ i _=>n-(intOf i).toNat)
 case atStart=>exact⟨0,zO,by go_num,rfl,HL0⟩
 case round=>
  clear HL0;obtain⟨k,hk,rfl,rfl,HL⟩:=hrel;by_cases hkn:k<n
  ·obtain⟨gd,o,rfl,hgd,hcs⟩:=(HS.o.old HL.o.lt.2.1).cell zO;obtain⟨m,hm⟩:=zG (eE D sz n k);have hck:=hcs k hkn;rw[<-hm]at hck;have c0:wr.cell? ⟨gd,o+k*9,none⟩=some (.string m.s):=hck 0 _ rfl;have c1:wr.cell? ⟨gd,o+k*9+1,none⟩=some (vI iJ m.n):=hck 1 _ rfl;have c2:wr.cell? ⟨gd,o+k*9+2,none⟩=some (vI iJ m.r):=hck 2 _ rfl;have c3:wr.cell? ⟨gd,o+k*9+3,none⟩=some (vI iJ m.c):=hck 3 _ rfl;have c4:wr.cell? ⟨gd,o+k*9+4,none⟩=some (.bool m.lp):=hck 4 _ rfl;have c5:wr.cell? ⟨gd,o+k*9+5,none⟩=some (vI iJ m.a):=hck 5 _ rfl;have c6:wr.cell? ⟨gd,o+k*9+6,none⟩=some (vI iJ m.b):=hck 6 _ rfl;have c7:wr.cell? ⟨gd,o+k*9+7,none⟩=some (vI iJ m.x):=hck 7 _ rfl;have c8:wr.cell? ⟨gd,o+k*9+8,none⟩=some (vI iJ m.y):=hck 8 _ rfl;have hokm:m.OkR:=by rw[hm];exact(HOk.o k hkn).at_ _ _
   have hfm:m.fr=aQ D k:=by rw[hm];rfl
   have HFs:=zH (fun V=>nV m hokm V);rw[hfm]at HFs;obtain⟨b,hb⟩:=zG (wr.heap.size);obtain⟨W,hW⟩:=zG (wr.alloc (.cells m.cells 90));have HBx:=zH (show GN W b m by rw[hW,hb];exact GN.new wr m);have HLW:=zH (HL.o.on (show Old wr W by rw[hW];exact Old.alloc _ _));have HBg:Hid (b≠g):=zH (by have:=HL.o.lt.1;omega);have HMx:Hid (m.x=(bO (aQ D) sz n k:Nat)/\m.y=(aL (aQ D) sz n k:Nat)):=zH (by rw[hm];exact⟨rfl,rfl⟩);unfold Mt.cells at HFs hW;have HW:=zH hW;have HBb:=zH hb;have hfrb:aQ D k<=131072:=(HOk.o k hkn).fr_le.2;clear hck hcs hgd hm hokm hfm hb hW HL
   go_wp2_with fail
   rw[<-HW.o,<-HBb.o];refine(HFs.o _).mono ?_;rintro e w2 ⟨rfl,ho2⟩;have HL2:=zH (HLW.o.on ho2);have HB2:=zH (HBx.o.old ho2);clear ho2 HFs HLW HBx HW HBb c0 c1 c2 c3 c4 c5 c6 c7 c8;obtain⟨wo,rfl⟩:∃V,V=w2:=⟨_,rfl⟩
   obtain⟨fr,hfrr⟩:=zG (aQ D k);rw[<-hfrr]at hfrb |-;have HFR:=zH hfrr;clear hfrr
   go_wp2_with fail
   go_loopw [10,31] (fun nv iv wr=>∃q:Nat,q<=fr/\iv=vI iJ q/\nv=vI iJ (aF (aQ D) k+q:Nat)/\Hid (oF w g N (aQ D) sz n B H (aF (aQ D) k+q) wr)/\Hid (GN wr b m)) (fun _ i _=>fr-(intOf i).toNat)
   case atStart=>exact⟨0,zO,by go_num,rfl,HL2,HB2⟩
   case round=>
    clear HL2 HB2;obtain⟨q,hq,rfl,rfl,HL,HBx⟩:=hrel;by_cases hqn:q<fr
    ·have hk1:aF (aQ D) k+fr<=K:=by
      have h1:=iF (aQ D) (show k+1<=n from hkn);have h2:aF (aQ D) (k+1)=aF (aQ D) k+aQ D k:=rfl;have h3:=HFR.o;have h4:=HB.o.2.2.2.2.1;omega
     have hKb:K<=64*131072:=by
      have h1:=yX (f:=aQ D) (n:=n) (fun i hi=>(HOk.o i hi).fr_le.2) n (Nat.le_refl _);have h4:=HB.o.2.2.2.2.1;omega
     obtain⟨T,hT⟩:=zG (aF (aQ D) k+q);have hTK:T<K:=zO;have hTn:((aF (aQ D) k+(q+1):Nat):Int)=(T:Int)+1:=zO;have HTn:=zH hTn;have hLn:∀V,oF w g N (aQ D) sz n B H (T+1) V->oF w g N (aQ D) sz n B H (aF (aQ D) k+(q+1)) V:=fun V h=>by
      rw[show aF (aQ D) k+(q+1)=T+1 by omega];exact h
     have HLn:=zH hLn;have hqf:q<aQ D k:=by have:=HFR.o;omega
     have HNx:Hid (∀F,Ld (aQ D) sz n B H T F->Ld (aQ D) sz n B H (T+1) (aV (aV F (bO (aQ D) sz n k+4*q) 4 (be 4 (jE (B T) sz))) (aL (aQ D) sz n k+sz*q) sz (B T))):=zH fun F h=>by
      rw[hT]at h |-;exact h.next hkn hqf
     have hpe:=rF (aQ D) sz n hqf;have hmo:=qK (aQ D) sz n (show k+1<=n from hkn);have hfi:=fJ (aQ D) sz n k;have hNa:=HB.o.2.2.1;have hNb:=HB.o.2.2.2.1;have hmx:=HMx.o;obtain⟨A,hA⟩:=zG (bO (aQ D) sz n k);obtain⟨Y,hY⟩:=zG (aL (aQ D) sz n k);rw[<-hT]at HL |-;rw[<-hA,<-hY]at HNx hpe hmx;obtain⟨u,P,v,R,hu,hP,hv,hR,hw1,hw2⟩:=WJ A Y q sz zO zO zO HB.o.2.1;have HW1:=zH hw1;have HW2:=zH hw2;clear hw1 hw2;rw[show A+4*q=P by omega,show Y+sz*q=R by rw[hR,hv,Nat.mul_comm]]at HNx;rw[show A+4*q=P by omega,show Y+sz*q=R by rw[hR,hv,Nat.mul_comm]]at hpe;have hPN:P+4<=N:=zO;have hRN:R+sz<=N:=zO;have hs0:24<=sz:=HB.o.1;have hFo:=HFr.o.old HL.o.lt.2.1;obtain⟨gp,op,rfl,hgp,hcp⟩:=hFo.cell zO;have ct:=hcp T hTK;obtain⟨r1,r2,r3,r4⟩:=hFo.row T hTK;obtain⟨gb,ob,hQ,hgb,hcb⟩:=r3 zO;rw[hQ]at ct;have HSm:=zH (fun V (hV:Old wr V)=>uC (some ⟨gb,ob,none⟩) sz (C T) (B T) V (by rw[<-hQ];exact r3.old hV) r4 r1 r2);have HSrc:=zH (fun V (hV:Old wr V) j (hj:j<sz)=>(hV.cell (a:=⟨gb,ob+j,none⟩) hgb).trans (hcb j hj));have hsb:=tT r4;obtain⟨S,hS⟩:=zG (jE (B T) sz);rw[<-hS]at hsb HSm HNx;have HE3:Hid (IntKind.i64.wrap S=S):=zH (IntWalk.i64_in _ zO);obtain⟨CT,hCT⟩:∃c,c=C T:=⟨_,rfl⟩
     rw[<-hCT]at ct HSm;have d7:wr.cell? ⟨b,7,none⟩=some (vI iJ (A:Int)):=by rw[<-hmx.1];exact HBx.o.at_ 7
     have d8:wr.cell? ⟨b,8,none⟩=some (vI iJ (Y:Int)):=by rw[<-hmx.2];exact HBx.o.at_ 8
     have HD7:=zH d7;obtain⟨LP,hLP⟩:∃L,L=N-P:=⟨_,rfl⟩
     obtain⟨LR,hLR⟩:∃L,L=N-R:=⟨_,rfl⟩
     have hc1:∀w',(Instr.sliceAt 34 (.slice (some ⟨g,0,none⟩) N N) (some (vI iJ P)) none none).run zP w'=.ok (.slice (some ⟨g,P,none⟩) LP LP) w':=fun w'=>by
      have:=vS g 0 N N P zO zO w'
      rwa [Nat.zero_add,<-hLP]at this
     have hc2:=fun w'=>DO g P LP LP 4 zO zO w';have HC3:Hid (∀w',(Instr.sliceAt 34 (.slice (some ⟨g,0,none⟩) N N) (some (vI iJ R)) none none).run zP w'=.ok (.slice (some ⟨g,R,none⟩) LR LR) w'):=zH fun w'=>by
      have:=vS g 0 N N R zO zO w'
      rwa [Nat.zero_add,<-hLR]at this
     have HPt:=zH (fun V F (hV:gX w g N F V)=>qZ g P N LP 4 F S V zO hPN hV.row hsb.1 zO);have HCp:=zH (fun V (hV:UAt V g N H\/True) (hsrc:∀j,j<sz->V.cell? ⟨gb,ob+j,none⟩=some (.int .u8 (B T j))) (ht:V.there g R sz)=>BQ V g R LR LR gb ob sz CT sz (B T) zO hsrc ht);have HRN:=zH hRN;have HGb:Hid (gb≠g/\b≠g):=zH ⟨by
      have h1:=HFr.o.row T hTK;obtain⟨gb',ob',hQ',hgb',_⟩:=h1.2.2.1 zO;rw[hQ]at hQ';cases hQ';have:=HL.o.lt.2.2;omega,HBg.o⟩
     have i0:(0:Int)<=T:=zO;have i1:(T:Int)<K:=zO;have i2:(T:Int)+1<=9223372036854775807:=zO;have b4:(4:Int)<=LP:=zO;have HBl:=zH (lt_of_block HBx.o);have hHL:=HL.o;clear hk1 hKb hT hTn hLn hqf hpe hmo hfi hNa hNb hmx hA hY hu hP hv hR hFo hgp hcp r1 r2 r3 r4 hcb hS hCT hLP hLR hQ hgb hsb hTK hHL hPN hRN hs0
     go_wp2_with fail
     clear ct;obtain⟨e1,e2,f1,f2⟩:=HW1.o;have e3:=HE3.o;have HBd:Hid (GN wr.drew b m):=zH HBx.o;refine wp_region_held_drew (S:=(fun V=>V.cell? ⟨b,7,none⟩=some (vI iJ (A:Int)))) zK ?_ (fun hHeld=>?_)
     ·(try dsimp only);exact HD7.o
     refine (uU 0) ((uU 1) ((uU 2) ((uU 3) ((uU 4) ((uU 5) ((uU 6) ((uU 7) ((uU 8) ?_))))))));refine wpR 9 rfl (fun K hK=>?_);go_simp;refine(HSm.o _ (Old.drew (Old.refl wr))).mono ?_;rintro e V ⟨rfl,o1⟩;have HV:=zH ((Old.drew (Old.refl wr)).trans o1);clear o1 HSm
     go_wp2_with fail
     obtain⟨F,hF,hld⟩:=HL.o;have HF:=zH (hF.on HV.o);have HLd:=zH hld;have HBV:=zH (HBx.o.old HV.o);clear hF hld;have HK7:=zH ((HV.o.cell (a:=⟨b,7,none⟩) HBl.o).trans HD7.o);refine hK.out _ _ ?_ (fun hHeld=>?_)
     ·(try dsimp only);exact HK7.o
     clear hK K;refine (uU 10) ?_;refine wpR 11 rfl (fun K hK=>?_);go_simp;refine(HPt.o _ F HF.o).mono ?_;rintro e V2 ⟨rfl,hr,hk1⟩;have HF2:=zH (HF.o.put hr hk1);have HB2:=zH (show GN V2 b m from(hk1.block b HGb.o.2).trans HBV.o);have HS2:Hid (∀j,j<sz->V2.cell? ⟨gb,ob+j,none⟩=some (.int .u8 (B T j))):=zH fun j hj=>(hk1.cell (a:=⟨gb,ob+j,none⟩) HGb.o.1).trans (HSrc.o V HV.o j hj);have HK8:=zH ((hk1.cell (a:=⟨b,7,none⟩) HGb.o.2).trans HK7.o);have HD8:=zH ((hk1.cell (a:=⟨b,8,none⟩) HGb.o.2).trans ((HV.o.cell (a:=⟨b,8,none⟩) HBl.o).trans d8));clear hr hk1
     go_wp2_with fail
     refine hK.out _ _ ?_ (fun hHeld=>?_)
     ·(try dsimp only);exact HK8.o
     clear hK K
     try simp only[Act.put,sA,sZ,sS]
     refine wpAnyH_done zK ?_ _;clear e1 e2 f1 f2 e3 hc1 hc2 b4 d7 d8;have d8:=HD8.o;have hc3:=HC3.o;obtain⟨e1,e2,f1,f2⟩:=HW2.o;have hcp:=HCp.o V2 (Or.inr trivial) HS2.o (HF2.o.row.there R sz HRN.o);obtain⟨W3,hW3⟩:∃W,W=V2.setCells g R ((gQ (B T) sz).map (Value.int .u8)):=⟨_,rfl⟩
     rw[<-hW3]at hcp;have HL3:Hid (oF w g N (aQ D) sz n B H (T+1) W3):=zH ⟨_,by rw[hW3];exact HF2.o.lay R sz HRN.o (B T),HNx.o F HLd.o⟩;have HB3:=zH (show GN W3 b m by rw[hW3];exact(cI _ _ _ _ _ HGb.o.2).trans HB2.o);clear hW3 HNx HL HBx HV HF HLd HBV HF2 HB2 HS2 HSrc HCp HPt HK7 HK8 HD7 HD8 HC3 HW1 HW2
     go_wp2_with fail
     go_roundw
     case rel=>exact⟨q+1,zO,by go_num,by rw[HTn.o],HLn.o _ HL3.o,HB3⟩
     case measure=>exact zM
    ·obtain rfl:q=fr:=zO;have HLo:=zH (show oF w g N (aQ D) sz n B H (aF (aQ D) (k+1)) wr by
      have h:aF (aQ D) (k+1)=aF (aQ D) k+q:=by rw[HFR.o];rfl
      rw[h];exact HL.o)
     have HOf:Hid (aF (aQ D) k+q=aF (aQ D) (k+1)):=zH (by rw[HFR.o];rfl);obtain⟨T,hT⟩:=zG (aF (aQ D) k+q);rw[<-hT]at HOf |-;clear hT HL HBx
     go_wp2_with fail
     go_roundw
     case rel=>exact⟨k+1,zO,by go_num,by rw[<-HOf.o],HLo⟩
     case measure=>exact zM
  ·obtain rfl:k=n:=zO;have HE:Hid (oF w g N (aQ D) sz k B (cC N k sz (eE D sz k)) K wr):=zH (by
    rw[HB.o.2.2.2.2.1,<-HH.o];exact HL.o)
   obtain⟨T,hT⟩:=zG (aF (aQ D) k);rw[<-hT];clear hT HL
   go_wp2_with fail
   go_ret;exact⟨g,rfl,HE.o⟩
def aCg(b:Nat):Value:=.func (.func 144) #[] #[.pointer (some ⟨b,0,none⟩)]
theorem aFe(p:Option Addr)(m c:Nat)(b:Nat)(sz:Int)(w:World)(hb:w.cell? ⟨b,0,none⟩=some (vI iJ sz)):
  Calls zP 144 #[.slice p m c,.pointer (some ⟨b,0,none⟩)] w fun e w'=>e=rJ (.bool (decide ((m:Int)≠sz)))/\w=w':=by
 by_cases h:(m:Int)=sz
 ·have d:decide ((m:Int)≠sz)=false:=decide_eq_false zO;have d2:((m:Int) != sz)=false:=by simp[h]
  rw[d];clear h d;go_enter func144,ntmps144
  go_wp2_with fail
  go_ret;exact⟨rfl,rfl⟩
 ·have d:decide ((m:Int)≠sz)=true:=decide_eq_true h;have d2:((m:Int) != sz)=true:=by simp[h]
  rw[d];clear h d;go_enter func144,ntmps144
  go_wp2_with fail
  go_ret;exact⟨rfl,rfl⟩
theorem IO(p:Option Addr)(n cap b:Nat)(sz:Int)(Q:Nat->Option Addr)(M C:Nat->Nat)(B:Nat->Nat->Int)(w:World)(h:RwU w p n Q M C B)(hb:w.cell? ⟨b,0,none⟩=some (vI iJ sz))(hn:n<=9223372036854775807):
  Calls zP 194 #[.slice p n cap,aCg b] w fun e w'=>(∃i:Int,e=rJ (vI iJ i)/\((0<=i/\∃j,j<n/\(M j:Int)≠sz)\/(i = -1/\∀j,j<n->(M j:Int)=sz)))/\w=w':=by
 have HB:=zH (fun p m c=>aFe p m c b sz w hb);have H:=zH h;clear h hb;unfold aCg;go_enter func194,ntmps194
 go_wp2_with fail
 go_loop [8] (fun i=>∃k:Nat,k<=n/\i=vI iJ k/\Hid (∀j,j<k->(M j:Int)=sz)) (fun i=>n-(intOf i).toNat)
 case atStart=>exact⟨0,zO,rfl,zH fun j hj=>zO⟩
 case round=>
  obtain⟨k,hk,rfl,HJ⟩:=hrel;by_cases hkn:k<n
  ·obtain⟨g,o,rfl,hg,hc⟩:=H.o.cell zO;have ck:=hc k hkn;obtain⟨q,hq⟩:=zG (Q k);obtain⟨c,hc'⟩:=zG (C k);obtain⟨m,hm⟩:=zG (M k);rw[<-hq,<-hc',<-hm]at ck;have HM:=zH hm;have i0:(0:Int)<=k:=zO;have i1:(k:Int)<n:=zO;clear hc hg hq hc' hm
   go_wp2_with fail
   refine(HB.o _ _ _).mono ?_;rintro e w1 ⟨rfl,rfl⟩;by_cases hb:(m:Int)=sz
   ·have HJ2:=zH (show ∀j,j<k+1->(M j:Int)=sz from fun j hj=>by
     by_cases e:j=k
     ·subst e;rw[<-HM.o];exact hb
     ·exact HJ.o j zO)
    have hd:decide ((m:Int)≠sz)=false:=decide_eq_false zO;rw[hd];clear HJ hb ck hd
    go_wp2_with fail
    go_round
    case rel=>exact⟨k+1,zO,by go_num,HJ2⟩
    case measure=>exact zM
   ·have HF:=zH (show ∃j,j<n/\(M j:Int)≠sz from⟨k,hkn,by rw[<-HM.o];exact hb⟩);have hd:decide ((m:Int)≠sz)=true:=decide_eq_true hb;rw[hd];clear HJ hb ck hd
    go_wp2_with fail
    go_ret;exact⟨⟨k,rfl,.inl ⟨zO,HF.o⟩⟩,rfl⟩
  ·have HF:=zH (show ∀j,j<n->(M j:Int)=sz from fun j hj=>HJ.o j zO);clear HJ
   go_wp2_with fail
   go_ret;exact⟨⟨-1,rfl,.inr ⟨rfl,HF.o⟩⟩,rfl⟩
theorem xC(p:Option Addr)(n cap b:Nat)(sz:Int)(Q:Nat->Option Addr)(M C:Nat->Nat)(B:Nat->Nat->Int)(w:World)(h:RwU w p n Q M C B)(hb:w.cell? ⟨b,0,none⟩=some (vI iJ sz))(hn:n<=9223372036854775807):
  Calls zP 143 #[.slice p n cap,aCg b] w fun e w'=>(∃r,e=rJ (.bool r)/\(r=true↔∃j,j<n/\(M j:Int)≠sz))/\w=w':=by
 have HI:=zH (IO p n cap b sz Q M C B w h hb hn);clear h hb;unfold aCg at *;go_enter func143,ntmps143
 go_wp2_with fail
 refine HI.o.mono ?_;rintro e w1 ⟨⟨i,rfl,hi⟩,rfl⟩;have H:=zH hi;rcases hi with ⟨hi,hf⟩ | ⟨hi,hf⟩
 ·have d:decide (0<=i)=true:=decide_eq_true hi;have Hhi:=zH hi;clear hi hf HI
  go_wp2_with fail
  go_ret;have hi:=Hhi.o;refine⟨⟨true,rfl,?_⟩,rfl⟩;rcases H.o with h | h
  ·exact⟨fun _=>h.2,fun _=>rfl⟩
  ·omega
 ·subst hi;clear hf HI
  go_wp2_with fail
  go_ret;refine⟨⟨false,rfl,?_⟩,rfl⟩;rcases H.o with h | h
  ·omega
  ·exact⟨fun e=>(by cases e),fun⟨j,h1,h2⟩=>absurd (h.2 j h1) h2⟩
def hvP(sz:Int)(D:Nat->Mt)(n K:Nat)(M:Nat->Nat):Prop:=K=aF (aQ D) n/\∀j,j<K->(M j:Int)=sz
theorem DG(sz:Int)(p:Option Addr)(n cap:Nat)(D:Nat->Mt)(fp:Option Addr)(K fc:Nat)(Q:Nat->Option Addr)(M C:Nat->Nat)(B:Nat->Nat->Int)(w:World)(hs:iB w p n D)(hn:n<=64)(hD:∀i,i<n->(D i).OkR)(hfr:RwU w fp K Q M C B)(hK:K<=1099511627776):
  Calls zP 103 #[vI iJ sz,.slice p n cap,.slice fp K fc] w fun e w'=>∃r,e=rJ (.bool r)/\(r=true↔hvP sz D n K M)/\Old w w':=by
 obtain⟨b,hb⟩:=zG (w.heap.size);obtain⟨W0,hW0⟩:∃W,W=w.alloc (.cells #[vI iJ sz] 3):=⟨_,rfl⟩
 have ho0:Old w W0:=by rw[hW0];exact Old.alloc _ _
 have hc0:W0.cell? ⟨b,0,none⟩=some (vI iJ sz):=by rw[hW0,hb];exact(cell_of_row _ _ _ _ _ _ (heap_alloc_new _ _)).trans rfl
 have hbl:b<W0.heap.size:=by rw[hW0,hb];simp
 have HC:=zH (fun V (hV:Old W0 V)=>xC fp K fc b sz Q M C B V (hfr.old (ho0.trans hV)) ((hV.cell (a:=⟨b,0,none⟩) hbl).trans hc0) zO);have HS:=zH (hs.old ho0);have HOk:=zH hD;have HO0:=zH (Old.refl W0);have HOw:=zH ho0;have HW:=zH hW0;have HB:=zH hb;have hbd:=yX (f:=aQ D) (n:=n) (fun i hi=>(hD i hi).fr_le.2);have HBd:=zH hbd;unfold aCg at HC;clear ho0 hc0 hbl hs hD hW0 hb hfr hbd;go_enter func103,ntmps103
 go_upto_region 2 with (fail)
 rw[<-HW.o,<-HB.o]
 go_wp2_with fail
 go_loopw [7,12] (fun cv iv wr=>∃k:Nat,k<=n/\iv=vI iJ k/\cv=vI iJ (aF (aQ D) k:Nat)/\Hid (Old W0 wr)) (fun _ i _=>n-(intOf i).toNat)
 case atStart=>exact⟨0,zO,by go_num,rfl,HO0⟩
 case round=>
  clear HO0;obtain⟨k,hk,rfl,rfl,HO⟩:=hrel;by_cases hkn:k<n
  ·obtain⟨gd,o,rfl,hgd,hcs⟩:=(HS.o.old HO.o).cell zO;obtain⟨m,hm⟩:=zG (D k);have hck:=hcs k hkn;rw[<-hm]at hck;have c0:wr.cell? ⟨gd,o+k*9,none⟩=some (.string m.s):=hck 0 _ rfl;have c1:wr.cell? ⟨gd,o+k*9+1,none⟩=some (vI iJ m.n):=hck 1 _ rfl;have c2:wr.cell? ⟨gd,o+k*9+2,none⟩=some (vI iJ m.r):=hck 2 _ rfl;have c3:wr.cell? ⟨gd,o+k*9+3,none⟩=some (vI iJ m.c):=hck 3 _ rfl;have c4:wr.cell? ⟨gd,o+k*9+4,none⟩=some (.bool m.lp):=hck 4 _ rfl;have c5:wr.cell? ⟨gd,o+k*9+5,none⟩=some (vI iJ m.a):=hck 5 _ rfl;have c6:wr.cell? ⟨gd,o+k*9+6,none⟩=some (vI iJ m.b):=hck 6 _ rfl;have c7:wr.cell? ⟨gd,o+k*9+7,none⟩=some (vI iJ m.x):=hck 7 _ rfl;have c8:wr.cell? ⟨gd,o+k*9+8,none⟩=some (vI iJ m.y):=hck 8 _ rfl;have hokm:m.OkR:=by rw[hm];exact HOk.o k hkn
   have hfm:m.fr=aQ D k:=by rw[hm];rfl
   have HFs:=zH (fun V=>nV m hokm V);rw[hfm]at HFs;have HOa:=zH (HO.o.alloc' (.cells m.cells 90));have hb1:=HBd.o k hk;have hb2:aQ D k<=131072:=(HOk.o k hkn).fr_le.2;have hnx:((aF (aQ D) (k+1):Nat):Int)=(aF (aQ D) k:Nat)+(aQ D k:Nat):=by
    show ((aF (aQ D) k+aQ D k:Nat):Int)=_;omega
   have HNx:=zH hnx;obtain⟨T,hT⟩:=zG (aF (aQ D) k);obtain⟨fr,hfr⟩:=zG (aQ D k);rw[<-hT,<-hfr]at HNx;rw[<-hT]at hb1 |-;rw[<-hfr]at hb2 HFs;have hTb:T+fr<=9223372036854775807:=zO;unfold Mt.cells at HFs HOa;clear hck hcs hgd hm hokm hfm hnx hT hfr hb1 hb2
   go_wp2_with fail
   refine(HFs.o _).mono ?_;rintro e w2 ⟨rfl,ho2⟩;have HO2:=zH (HOa.o.trans ho2);clear ho2 HFs HOa HO c0 c1 c2 c3 c4 c5 c6 c7 c8
   go_wp2_with fail
   go_roundw
   case rel=>exact⟨k+1,zO,by go_num,by rw[HNx.o],HO2⟩
   case measure=>exact zM
  ·obtain rfl:k=n:=zO;obtain⟨T,hT⟩:=zG (aF (aQ D) k);have HT:=zH hT;rw[<-hT];clear hT;by_cases hKT:K=T
   ·have d:((K:Int) == T)=true:=by simp[hKT]
    have HK:=zH hKT;clear hKT
    go_wp2_with fail
    refine(HC.o _ HO.o).mono ?_;rintro e w2 ⟨⟨r,rfl,hr⟩,rfl⟩;have HR:=zH hr;have HOf:=zH (HOw.o.trans HO.o);clear hr HC HO;cases r
    ·go_wp2_with fail
     go_ret;refine⟨true,rfl,⟨fun _=>⟨by rw[HK.o,HT.o],fun j hj=>?_⟩,fun _=>rfl⟩,HOf.o⟩;by_cases e:(M j:Int)=sz
     ·exact e
     ·have:=HR.o.2 ⟨j,hj,e⟩;simp at this
    ·go_wp2_with fail
     go_ret;refine⟨false,rfl,⟨fun h=>(by cases h),fun h=>?_⟩,HOf.o⟩;obtain⟨j,h1,h2⟩:=HR.o.1 zS;exact absurd (h.2 j h1) h2
   ·have d:((K:Int) == T)=false:=by simp;omega
    have HK:=zH hKT;have HOf:=zH (HOw.o.trans HO.o);clear hKT HC HO
    go_wp2_with fail
    go_ret;exact⟨false,rfl,⟨fun h=>(by cases h),fun h=>absurd (h.1.trans HT.o.symm) HK.o⟩,HOf.o⟩
theorem gL{D:Nat->Mt}{n:Nat}(h:nH D n):∀i,i<n->(D i).OkR:=fun i hi=>(Mt.ok_iff _).1 (h i hi).1
open Classical in
noncomputable def vH(sz:Int)(D:Nat->Mt)(n K:Nat)(M:Nat->Nat):Int:=
 if ¬(24<=sz/\sz<=96) then 12 else if ¬nH D n then 4 else if ¬hvP sz D n K M then 1 else if 4194304<aJ (aQ D) sz.toNat n then 3 else 0
def aAw(w:World)(sz n K:Nat)(D:Nat->Mt)(B:Nat->Nat->Int)(er:Int)(e:Ending)(w':World):Prop:=
 (er≠0/\e=rJ (.tuple #[.slice none 0 0,vI iJ er])/\Old w w') \/
 (er=0/\∃g,e=rJ (.tuple #[.slice (some ⟨g,0,none⟩) (aJ (aQ D) sz n) (aJ (aQ D) sz n),vI iJ 0])/\oF w g (aJ (aQ D) sz n) (aQ D) sz n B (cC (aJ (aQ D) sz n) n sz (eE D sz n)) K w')
theorem aAH(sz:Int)(p:Option Addr)(n cap:Nat)(D:Nat->Mt)(fp:Option Addr)(K fc:Nat)(Q:Nat->Option Addr)(M C:Nat->Nat)(B:Nat->Nat->Int)(w:World)(hs:iB w p n D)(hn:n<=64)(hfr:RwU w fp K Q M C B)(hK:K<=1099511627776):
  Calls zP 52 #[vI iJ sz,.slice p n cap,.slice fp K fc] w (aAw w sz.toNat n K D B (vH sz D n K M)):=by
 have HZ:=zH (fun w=>yF sz w);by_cases h1:¬(24<=sz/\sz<=96)
 ·have e0:vH sz D n K M=12:=by unfold vH;rw[if_pos h1]
  rw[e0,show decide (24<=sz/\sz<=96)=false from decide_eq_false h1]at *;have HO:=zH (Old.refl w);clear hs hfr hK e0 h1;go_enter func52,ntmps52
  go_wp2_with fail
  refine(HZ.o _).mono ?_;rintro e w1 ⟨rfl,rfl⟩
  go_wp2_with fail
  go_ret2
  exact .inl ⟨zO,rfl,HO.o⟩
 have h1:=Classical.not_not.1 h1;rw[show decide (24<=sz/\sz<=96)=true from decide_eq_true h1]at HZ;obtain⟨z,rfl⟩:=Int.eq_ofNat_of_zero_le (show 0<=sz by omega);rw[Int.toNat_natCast];have HDi:=zH (FV p n cap D w hs zO);by_cases h2:¬nH D n
 ·have e0:vH z D n K M=4:=by unfold vH;rw[if_neg (fun h=>h h1),if_pos h2]
  rw[e0];have H2:=zH h2;clear hs hfr hK e0 h1 h2;go_enter func52,ntmps52
  go_wp2_with fail
  refine(HZ.o _).mono ?_;rintro e w1 ⟨rfl,rfl⟩
  go_wp2_with fail
  refine HDi.o.mono ?_;rintro e w2 ⟨b,rfl,hb,ho⟩;obtain rfl:b=false:=by
   cases b
   ·rfl
   ·exact absurd (hb.1 rfl) H2.o
  have HO:=zH ho;clear hb ho
  go_wp2_with fail
  go_ret2
  exact .inl ⟨zO,rfl,HO.o⟩
 have h2:=Classical.not_not.1 h2;have HHv:=zH (fun V (hV:Old w V)=>DG z p n cap D fp K fc Q M C B V (hs.old hV) hn (gL h2) (hfr.old hV) hK);by_cases h3:¬hvP z D n K M
 ·have e0:vH z D n K M=1:=by unfold vH;rw[if_neg (fun h=>h h1),if_neg (fun h=>h h2),if_pos h3]
  rw[e0];have H2:=zH h2;have H3:=zH h3;clear hs hfr hK e0 h1 h2 h3;go_enter func52,ntmps52
  go_wp2_with fail
  refine(HZ.o _).mono ?_;rintro e w1 ⟨rfl,rfl⟩
  go_wp2_with fail
  refine HDi.o.mono ?_;rintro e w2 ⟨b,rfl,hb,ho⟩;obtain rfl:b=true:=hb.2 H2.o;have HO:=zH ho;clear hb ho
  go_wp2_with fail
  refine(HHv.o _ HO.o).mono ?_;rintro e w3 ⟨b,rfl,hb,ho⟩;obtain rfl:b=false:=by
   cases b
   ·rfl
   ·exact absurd (hb.1 rfl) H3.o
  have HO2:=zH (HO.o.trans ho);clear hb ho HO
  go_wp2_with fail
  go_ret2
  exact .inl ⟨zO,rfl,HO2.o⟩
 have h3:=Classical.not_not.1 h3;have HPl:=zH (fun V (hV:Old w V)=>sL z p n cap D V zO (hs.old hV) hn (gL h2));obtain⟨N,hN⟩:=zG (aJ (aQ D) z n);have hNb:=hN;have hbt:=tQ (f:=aQ D) (sz:=z) (n:=n) (fun i hi=>(gL h2 i hi).fr_le.2) zO n (Nat.le_refl _);have htl:=yE (aQ D) z n;have hNle:N<=1099511627776:=zO;by_cases h4:4194304<N
 ·have e0:vH z D n K M=3:=by unfold vH;rw[if_neg (fun h=>h h1),if_neg (fun h=>h h2),if_neg (fun h=>h h3),Int.toNat_natCast,<-hN,if_pos h4]
  rw[e0];rw[<-hN]at HPl;have H2:=zH h2;have H3:=zH h3;have i4:(4194304:Int)<N:=zO;clear hs hfr hK e0 h1 h2 h3 h4 hN hNb hbt htl;go_enter func52,ntmps52
  go_wp2_with fail
  refine(HZ.o _).mono ?_;rintro e w1 ⟨rfl,rfl⟩
  go_wp2_with fail
  refine HDi.o.mono ?_;rintro e w2 ⟨b,rfl,hb,ho⟩;obtain rfl:b=true:=hb.2 H2.o;have HO:=zH ho;clear hb ho
  go_wp2_with fail
  refine(HHv.o _ HO.o).mono ?_;rintro e w3 ⟨b,rfl,hb,ho⟩;obtain rfl:b=true:=hb.2 H3.o;have HO2:=zH (HO.o.trans ho);clear hb ho HO
  go_wp2_with fail
  refine(HPl.o _ HO2.o).mono ?_;rintro e w4 ⟨q,c,rfl,hc1,hc2,hm,ho⟩;have HO3:=zH (HO2.o.trans ho);clear hc1 hc2 hm ho HO2
  go_wp2_with fail
  go_ret2
  exact .inl ⟨zO,rfl,HO3.o⟩
 ·have e0:vH z D n K M=0:=by unfold vH;rw[if_neg (fun h=>h h1),if_neg (fun h=>h h2),if_neg (fun h=>h h3),Int.toNat_natCast,<-hN,if_neg h4]
  rw[e0];have hM:∀j,j<K->M j=z:=fun j hj=>by have:=h3.2 j hj;omega
  have hfz:RwU w fp K Q (fun _=>z) C B:=⟨fun h0=>by
   obtain⟨g,o,a1,a2,a3⟩:=hfr.cell h0;exact⟨g,o,a1,a2,fun i hi=>by rw[a3 i hi,hM i hi]⟩,fun i hi=>by
   have:=hfr.row i hi;rw[hM i hi]at this;exact this⟩
  have HLy:=zH (fun V (hV:Old w V) q c (hq:iB V q n (eE D z n))=>aBz z n N K q c D fp fc Q C B V zO zO hq hn (gL h2) zO hNle (hfz.old hV) h3.1);rw[<-hN]at HPl;have HSt:Hid (∀i,i<n->(eE D z n i).s.size<=9223372036854775807):=zH fun i hi=>by
   have:=(XG (sz:=z) zO hn (gL h2) i hi).1;omega
  have H2:=zH h2;have H3:=zH h3;have HN:=zH hN;have i4:(N:Int)<=4194304:=zO;clear hs hfr hK e0 h1 h2 h3 h4 hN hNb hbt htl hM hfz;go_enter func52,ntmps52
  go_wp2_with fail
  refine(HZ.o _).mono ?_;rintro e w1 ⟨rfl,rfl⟩
  go_wp2_with fail
  refine HDi.o.mono ?_;rintro e w2 ⟨b,rfl,hb,ho⟩;obtain rfl:b=true:=hb.2 H2.o;have HO:=zH ho;clear hb ho
  go_wp2_with fail
  refine(HHv.o _ HO.o).mono ?_;rintro e w3 ⟨b,rfl,hb,ho⟩;obtain rfl:b=true:=hb.2 H3.o;have HO2:=zH (HO.o.trans ho);clear hb ho HO
  go_wp2_with fail
  refine(HPl.o _ HO2.o).mono ?_;rintro e w4 ⟨q,c,rfl,hc1,hc2,hm,ho⟩;have HO3:=zH (HO2.o.trans ho);have HMs:Hid (iB w4 q n (eE D z n)):=zH ⟨fun h0=>by
   obtain⟨g,hq,hm1,_⟩:=hm h0;rw[hq];exact(hm1.sl HSt.o).cell h0,HSt.o⟩
  clear hc1 hc2 hm ho HO2
  go_wp2_with fail
  refine(HLy.o _ HO3.o q c HMs.o).mono ?_;rintro e w5 ⟨g,rfl,hl⟩;have HL:Hid (oF w g N (aQ D) z n B (cC N n z (eE D z n)) K w5):=zH (by
   obtain⟨F,h1,h2⟩:=hl;exact⟨F,⟨h1.row,Nat.le_trans HO3.o.size h1.ge,HO3.o.trans h1.old⟩,h2⟩)
  clear hl
  go_wp2_with fail
  go_ret2
  refine .inr ⟨rfl,g,?_,?_⟩
  ·rw[<-HN.o];rfl
  ·rw[<-HN.o];exact HL.o
structure TrS(s t:ByteArray):Prop where
 le:t.size<=s.size
 same:∀j,j<t.size->lT t j=lT s j
 gone:∀j,t.size<=j->lT s j=0
def JL:Value->Nat
 | .string t=>t.size
 | _=>0
theorem TrS.next{s t:ByteArray}(h:TrS s t)(k:Nat)(hk:t.size=k+1)(h0:lT t k=0):TrS s (t.extract 0 k)/\(t.extract 0 k).size=k:=by
 have hsz:(t.extract 0 k).size=k:=by simp;omega
 refine⟨⟨by rw[hsz];have:=h.le;omega,fun j hj=>?_,fun j hj=>?_⟩,hsz⟩
 ·rw[hsz]at hj;rw[<-h.same j zO,<-jL (t.extract 0 k) j (by rw[hsz];exact hj),<-jL t j zO];rw[ByteArray.getElem_extract];simp
 ·rw[hsz]at hj;by_cases e:j=k
  ·subst e;rw[<-h.same j zO];exact h0
  ·exact h.gone j zO
theorem YK(t:ByteArray)(k:Nat)(hk:k<t.size)(w:World):(Instr.index 9 (.string t) (vI iJ k)).run zP w=.ok (.int .u8 (lT t k)) w:=by
 rw[run_index_string w _ _ _ _ underlying9,dif_pos ⟨zO,zO⟩];simp only[Int.toNat_natCast];rw[jL t k hk]
theorem JR(s:ByteArray)(w:World)(hs:s.size<=9223372036854775807):
  Calls zP 196 #[.string s,.int .u8 0] w fun e w'=>∃t,e=rJ (.string t)/\TrS s t/\(0<t.size->lT t (t.size-1)≠0)/\w=w':=by
 have H0:=zH (show TrS s s from⟨Nat.le_refl _,fun _ _=>rfl,fun j hj=>qO s j hj⟩);have HS:=zH hs;clear hs;go_enter func196,ntmps196
 go_wp2_with fail
 go_loop [0] (fun v=>∃t:ByteArray,v=.string t/\Hid (TrS s t)) (fun v=>JL v)
 case atStart=>exact⟨s,rfl,H0⟩
 case round=>
  clear H0;obtain⟨t,rfl,HT⟩:=hrel;have hsz:=HT.o.le;have hss:=HS.o;by_cases h0:t.size=0
  ·have HE:=zH h0;have d:decide (0<(t.size:Int))=false:=decide_eq_false zO;have d':decide (0<t.size)=false:=decide_eq_false zO;clear h0 hsz hss
   go_wp2_with fail
   go_ret;exact⟨t,rfl,HT.o,fun h=>by have:=HE.o;omega,rfl⟩
  ·obtain⟨k,hk⟩:∃k,t.size=k+1:=⟨t.size-1,zO⟩
   have d:decide (0<(t.size:Int))=true:=decide_eq_true zO;have d':decide (0<t.size)=true:=decide_eq_true zO;have q:wrap64 (k:Int)=k:=IntWalk.wrap64_in _ zO;have q1:IntKind.i64.wrap (k:Int)=k:=IntWalk.i64_in _ zO;have q2:(t.size:Int)-1=k:=zO;have hix:=fun w'=>YK t k zO w';have HK:=zH hk;by_cases hb:lT t k=0
   ·rw[hb]at hix;obtain⟨hn,hz⟩:=HT.o.next k hk hb;have HT2:=zH hn;have HZ:=zH hz;have b1:(0:Int)<=k:=zO;have b2:(k:Int)<=t.size:=zO;have b3:(k:Int)<t.size:=zO;clear hn hz hk hsz hss HT h0 hb
    go_wp2_with fail
    go_round
    case rel=>exact⟨_,rfl,HT2⟩
    case measure=>(show JL (.string _)<JL (.string _));unfold JL;simp only;have:=HZ.o;have:=HK.o;omega
   ·have hne:((lT t k == 0):Bool)=false:=by simpa using hb
    have HB:=zH hb;have b1:(0:Int)<=k:=zO;have b2:(k:Int)<=t.size:=zO;have b3:(k:Int)<t.size:=zO;obtain⟨v,hv⟩:=zG (lT t k);rw[<-hv]at hix hne;clear hk hsz hss h0 hb hv
    go_wp2_with fail
    go_ret;exact⟨t,rfl,HT.o,fun h=>by rw[show t.size-1=k by have:=HK.o;omega];exact HB.o,rfl⟩
theorem aAq(s:ByteArray)(h:s.size=0):s=⟨#[]⟩:=by
 obtain⟨d⟩:=s;have:d.size=0:=h;rw[Array.eq_empty_of_size_eq_zero this]
theorem JE(s:ByteArray)(h:s.size≠0):(s.toList == (⟨#[]⟩:ByteArray).toList)=false:=by
 rw[beq_eq_false_iff_ne];intro e;have:s.toList.length=(⟨#[]⟩:ByteArray).toList.length:=by rw[e]
 rw[ByteArray.toList_eq,ByteArray.toList_eq]at this;exact h this
theorem EG(s:ByteArray)(w:World)(hs:s.size<=9223372036854775807):
  Calls zP 149 #[.string s,.string ⟨#[0]⟩] w fun e w'=>∃t,e=rJ (.string t)/\TrS s t/\(0<t.size->lT t (t.size-1)≠0)/\w=w':=by
 by_cases h:s.size=0
 ·have HT:=zH (show TrS s s from⟨Nat.le_refl _,fun _ _=>rfl,fun j hj=>qO s j hj⟩);have HE:=zH h;have hq:s=⟨#[]⟩:=aAq s h;subst hq;clear h hs;go_enter func149,ntmps149
  go_wp2_with fail
  go_ret;exact⟨_,rfl,HT.o,fun h=>by have:=HE.o;omega,rfl⟩
 ·have hq:=JE s h;have hq2:¬s.toList = []:=fun e=>by
   rw[ByteArray.toList_eq]at e;have:=congrArg List.length e;exact h (by simpa using this)
  have hq1:(s.toList == [])=false:=beq_eq_false_iff_ne.2 hq2;have hq3:s≠⟨#[]⟩:=fun e=>h (by rw[e];rfl);have hq4:s≠ByteArray.empty:=hq3;have hq5:(s.size == 0)=false:=by simpa using h
  have HC:=zH (fun w=>JR s w hs);clear h hs;go_enter func149,ntmps149
  go_wp2_with fail
  refine(HC.o _).mono ?_;rintro e w1 ⟨t,rfl,h1,h2,rfl⟩;have H1:=zH (And.intro h1 h2);clear h1 h2
  go_wp2_with fail
  go_ret;exact⟨t,rfl,H1.o.1,H1.o.2,rfl⟩
theorem FC(xs:List Int)(hx:∀x∈xs,0<=x/\x<=255):(strOfNums xs).size=xs.length/\∀j,j<xs.length->lT (strOfNums xs) j=xs.getD j 0:=by
 have hl:(strOfNums xs).data.toList=xs.map (fun n=>UInt8.ofNat n.toNat):=by
  have:=Lib.strOfNums_toList xs;rw[ByteArray.toList_eq]at this;exact this
 have hsz:(strOfNums xs).size=xs.length:=by
  have:=congrArg List.length hl;rw[List.length_map]at this;exact this
 refine⟨hsz,fun j hj=>?_⟩;have hjs:j<(strOfNums xs).data.size:=by show j<(strOfNums xs).size;omega
 rw[<-jL _ j zO];have h1:(strOfNums xs).data.toList[j]?=some ((strOfNums xs)[j]'zO):=by
  rw[Array.getElem?_toList,Array.getElem?_eq_getElem hjs];rfl
 rw[hl,List.getElem?_map,List.getElem?_eq_getElem hj]at h1;simp only[Option.map_some,Option.some.injEq]at h1;rw[<-h1];have:=hx xs[j] (List.getElem_mem hj);have e:xs.getD j 0=xs[j]:=by simp[List.getD,hj]
 rw[e,UInt8.toNat_ofNat'];omega
structure TrE(E:nI)(t:ByteArray):Prop where
 le:t.size<=32
 same:∀j,j<32->lT t j=E j
 last:0<t.size->lT t (t.size-1)≠0
def rdM(t:ByteArray)(E:nI):Mt where
 s:=t
 n:=aO (fun j=>E (32+j)) 4
 r:=aO (fun j=>E (36+j)) 4
 c:=E 56
 lp:=E 57 == 1
 a:=aO (fun j=>E (40+j)) 4
 b:=aO (fun j=>E (44+j)) 4
 x:=aO (fun j=>E (48+j)) 4
 y:=aO (fun j=>E (52+j)) 4
theorem NV(s:ByteArray)(n r c:Int)(lp:Bool)(a b x y:Int):zP.built 90 [(0,.string s),(1,vI iJ n),(2,vI iJ r),(3,vI iJ c),(4,.bool lp),(5,vI iJ a),(6,vI iJ b),(7,vI iJ x),(8,vI iJ y)]=some (Mt.mk s n r c lp a b x y).cells:=zK
theorem aEx(b hi:Nat)(h:hi<=64)(w:World):(Instr.sliceAt 202 (.pointer (some ⟨b,0,none⟩)) none (some (vI iJ hi)) none).run zP w=.ok (.slice (some ⟨b,0,none⟩) hi 64) w:=
 nL (P:=zP) (t:=202) 64 hi (by exact underlying202) zK (fun w=>by exact rE w) h zO b 0 w
def vK(E:nI)(k:Nat):nI:=fun i=>if i<k then aO (fun j=>E (32+i*4+j)) 4 else 0
theorem aHy(t:ByteArray)(E:nI):rdM t E=⟨t,vK E 6 0,vK E 6 1,E 56,E 57 == 1,vK E 6 2,vK E 6 3,vK E 6 4,vK E 6 5⟩:=rfl
structure ReS(w:World)(E:nI)(k:Nat)(W:World):Prop where
 row:UAt W w.heap.size 64 E
 res:W.heap[w.heap.size+1]?=some (.cells (Mt.mk ⟨#[]⟩ 0 0 0 false 0 0 0 0).cells 90 (0,0))
 num:CellsAt W (w.heap.size+2) 6 (vK E k)
 old:Old w W
theorem ReS.next{w:World}{E:nI}{k:Nat}{W:World}(h:ReS w E k W)(hk:k<6):ReS w E (k+1) (W.setCell ⟨w.heap.size+2,k,none⟩ (vI iJ (aO (fun j=>E (32+k*4+j)) 4))):=by
 have hK:=Kept.setCell (X:=fun q=>q≠w.heap.size+2) W (a:=⟨w.heap.size+2,k,none⟩) (fun e=>e rfl) (vI iJ (aO (fun j=>E (32+k*4+j)) 4));refine⟨h.row.kept hK zO,(hK.block _ zO).trans h.res,(h.num.set k hk _).ext fun i hi=>?_,h.old.after hK fun q hq=>zO⟩;unfold vK;by_cases e:i=k
 ·subst e;rw[if_pos rfl,if_pos zO]
 ·rw[if_neg e];by_cases h:i<k
  ·rw[if_pos h,if_pos zO]
  ·rw[if_neg h,if_neg zO]
theorem EU(E:nI)(w:World)(hE:lS E 64):Calls zP 106 #[.agg (aA 64 (bU E))] w fun e w'=>∃t,e=rJ (.agg (rdM t E).cells)/\TrE E t/\Old w w':=by
 have Hs64:=zH Tryz.zero64.2;have Hs9:Hid ((zP.info? 90).map (·.size)=some 9):=zH zK;obtain⟨R,hR⟩:=zG (aA 64 (bU E));obtain⟨W0,hW0⟩:∃W,W=((w.alloc (.cells R 202)).alloc (.cells #[.string ⟨#[]⟩,vI iJ 0,vI iJ 0,vI iJ 0,.bool false,vI iJ 0,vI iJ 0,vI iJ 0,vI iJ 0] 90)).alloc (.cells #[vI iJ 0,vI iJ 0,vI iJ 0,vI iJ 0,vI iJ 0,vI iJ 0] 253):=⟨_,rfl⟩
 have hst:ReS w E 0 W0:=by
  rw[hW0,hR];have o2:=Old.alloc (w.alloc (.cells (aA 64 (bU E)) 202)) (.cells #[.string ⟨#[]⟩,vI iJ 0,vI iJ 0,vI iJ 0,.bool false,vI iJ 0,vI iJ 0,vI iJ 0,vI iJ 0] 90);have o3:=Old.alloc ((w.alloc (.cells (aA 64 (bU E)) 202)).alloc (.cells #[.string ⟨#[]⟩,vI iJ 0,vI iJ 0,vI iJ 0,.bool false,vI iJ 0,vI iJ 0,vI iJ 0,vI iJ 0] 90)) (.cells #[vI iJ 0,vI iJ 0,vI iJ 0,vI iJ 0,vI iJ 0,vI iJ 0] 253);refine⟨((qF w 64 E _).old o2).old o3,(o3.block _ zS).trans (heap_alloc2_new w _ _),?_,((Old.alloc w _).trans o2).trans o3⟩;have h:=fG ((w.alloc (.cells (aA 64 (bU E)) 202)).alloc (.cells #[.string ⟨#[]⟩,vI iJ 0,vI iJ 0,vI iJ 0,.bool false,vI iJ 0,vI iJ 0,vI iJ 0,vI iJ 0] 90)) 6 (fun _=>0) 253;rw[World.size_alloc,World.size_alloc]at h;exact h.ext fun i _=>by unfold vK;rw[if_neg zO]
 have HW:=zH hW0;have HS:=zH hst;have HB:=zH hE;rw[<-hR];clear hst hW0 hE hR;go_enter func106,ntmps106
 go_wp2_with fail
 rw[<-HW.o];clear HW
 go_loopw [5] (fun iv wr=>∃k:Nat,k<=6/\iv=vI iJ k/\Hid (ReS w E k wr)) (fun i _=>6-(intOf i).toNat)
 case atStart=>exact⟨0,zO,by go_num,HS⟩
 case round=>
  clear HS;obtain⟨k,hk,rfl,HE⟩:=hrel;by_cases hkn:k<6
  ·obtain⟨z,hz⟩:∃z:Nat,z=32+k*4:=⟨_,rfl⟩
   obtain⟨L,hL⟩:∃L:Nat,L=64-z:=⟨_,rfl⟩
   have hsl:=fun w'=>WY w.heap.size z zO w';rw[<-hL,show (z:Int)=32+(k:Int)*4 by omega]at hsl;have HG:=zH (kR (some ⟨w.heap.size,z,none⟩) 4 L (fun j=>E (32+k*4+j)) wr zO ((HE.o.row.sl z 4 zO).ext fun j _=>by rw[hz]) (fun j hj=>HB.o _ zO));have HN:=zH (HE.o.next hkn);have ck:=HE.o.num.cell k hkn;have fk:=HE.o.num.frz k hkn;have b1:(4:Int)<=L:=zO;have b2:(k:Int)<6:=zO;have b0:(0:Int)<=k:=zO;obtain⟨old,hold⟩:∃o,o=vK E k k:=⟨_,rfl⟩
   rw[<-hold]at ck;obtain⟨v,hv⟩:=zG (aO (fun j=>E (32+k*4+j)) 4);rw[<-hv]at HG HN;clear hz hL hold hv HE
   go_wp2_with fail
   refine HG.o.mono ?_;rintro e w1 ⟨rfl,rfl⟩;clear HG
   go_wp2_with fail
   go_roundw
   case rel=>exact⟨k+1,zO,by go_num,HN⟩
   case measure=>exact zM
  ·obtain rfl:k=6:=zO;have hc:∀V,Old wr V->(∀j,j<64->V.cell? ⟨w.heap.size,j,none⟩=some (.int .u8 (E j)))/\V.cell? ⟨w.heap.size,56,none⟩=some (.int .u8 (E 56))/\V.cell? ⟨w.heap.size,57,none⟩=some (.int .u8 (E 57)) /\
     V.cell? ⟨w.heap.size+1+1,0,none⟩=some (vI iJ (vK E 6 0))/\V.cell? ⟨w.heap.size+1+1,1,none⟩=some (vI iJ (vK E 6 1))/\V.cell? ⟨w.heap.size+1+1,2,none⟩=some (vI iJ (vK E 6 2)) /\
     V.cell? ⟨w.heap.size+1+1,3,none⟩=some (vI iJ (vK E 6 3))/\V.cell? ⟨w.heap.size+1+1,4,none⟩=some (vI iJ (vK E 6 4))/\V.cell? ⟨w.heap.size+1+1,5,none⟩=some (vI iJ (vK E 6 5)):=fun V hV=>by
    have h1:=HE.o.row.old hV;have h2:=HE.o.num.old hV;exact⟨h1.at_,h1.at_ 56 zO,h1.at_ 57 zO,h2.cell 0 zO,h2.cell 1 zO,h2.cell 2 zO,h2.cell 3 zO,h2.cell 4 zO,h2.cell 5 zO⟩
   have HC:=zH hc;have hby:∀x∈gQ E 32,0<=x/\x<=255:=qN (fun j hj=>HB.o j zO);obtain⟨s,hs⟩:=zG (strOfNums (gQ E 32));have hst:=FC (gQ E 32) hby;rw[<-hs,dB]at hst;have HSt:=zH hst;have HTr:=zH (fun V=>EG s V zO);have HCv:Hid (∀V,(∀j,j<64->V.cell? ⟨w.heap.size,j,none⟩=some (.int .u8 (E j)))->(convert 34 9 (.slice (some ⟨w.heap.size,0,none⟩) 32 64)).run zP V=.ok (.string s) V):=zH fun V hV=>by
    rw[hs];refine PL ?_;refine⟨some ⟨w.heap.size,0,none⟩,64,by rw[dB],fun _=>⟨w.heap.size,0,rfl,?_,by rw[dB];omega,by unfold maxLen;omega,fun i hi=>?_⟩⟩
    ·have:=hV 0 zO;exact block_lt_of_cell this
    ·rw[dB]at hi;rw[Nat.zero_add,hV i zO,iT E 32 i hi]
   have h56:=HB.o 56 zO;have h57:=HB.o 57 zO;have hRM:∀t,(rdM t E).cells=(Mt.mk t (vK E 6 0) (vK E 6 1) (E 56) (E 57 == 1) (vK E 6 2) (vK E 6 3) (vK E 6 4) (vK E 6 5)).cells:=fun t=>by rw[aHy]
   have HRM:=zH hRM;have hres:=HE.o.res;have HRes:=zH (And.intro hres HE.o.old);obtain⟨n0,hn0⟩:∃v,v=vK E 6 0:=⟨_,rfl⟩
   obtain⟨n1,hn1⟩:∃v,v=vK E 6 1:=⟨_,rfl⟩
   obtain⟨n2,hn2⟩:∃v,v=vK E 6 2:=⟨_,rfl⟩
   obtain⟨n3,hn3⟩:∃v,v=vK E 6 3:=⟨_,rfl⟩
   obtain⟨n4,hn4⟩:∃v,v=vK E 6 4:=⟨_,rfl⟩
   obtain⟨n5,hn5⟩:∃v,v=vK E 6 5:=⟨_,rfl⟩
   rw[<-hn0,<-hn1,<-hn2,<-hn3,<-hn4,<-hn5]at HC HRM;have e6:IntKind.i64.wrap (E 56)=(E 56):=IntWalk.i64_in _ zO;have hsl:=fun w'=>aEx w.heap.size 32 zO w';clear hc hby hs hst hRM hres hn0 hn1 hn2 hn3 hn4 hn5 HE h57
   go_wp2_with fail
   refine wp_region_held_drew (S:=(fun V=>(∀j,j<64->V.cell? ⟨w.heap.size,j,none⟩=some (.int .u8 (E j)))/\V.cell? ⟨w.heap.size,56,none⟩=some (.int .u8 (E 56))/\V.cell? ⟨w.heap.size,57,none⟩=some (.int .u8 (E 57))/\V.cell? ⟨w.heap.size+1+1,0,none⟩=some (vI iJ n0)/\V.cell? ⟨w.heap.size+1+1,1,none⟩=some (vI iJ n1)/\V.cell? ⟨w.heap.size+1+1,2,none⟩=some (vI iJ n2)/\V.cell? ⟨w.heap.size+1+1,3,none⟩=some (vI iJ n3)/\V.cell? ⟨w.heap.size+1+1,4,none⟩=some (vI iJ n4)/\V.cell? ⟨w.heap.size+1+1,5,none⟩=some (vI iJ n5))) zK ?_ (fun hHeld=>?_)
   ·(try dsimp only);exact HC.o _ (Old.drew (Old.refl wr))
   refine (uU 0) ?_;refine (uT 1 (v:=.string s) rfl (DZ zK 34 9 (.tmp 17) rfl _ (fun V h=>HCv.o V h.1))) ?_;refine (uU 3) ((uU 4) ((uU 5) ((uU 6) ((uU 7) ((uU 8) ((uU 9) ((uU 10) ((uU 11) ((uU 12) ((uU 13) ((uU 14) ((uU 15) ((uU 16) ((uU 17) ((uU 18) ((uU 19) ((uU 20) ?_)))))))))))))))));refine wpR 2 rfl (fun K hK=>?_);go_simp;refine(HTr.o _).mono ?_;rintro e V ⟨t,rfl,h1,h2,rfl⟩;have HT:Hid (TrE E t):=zH ⟨by have:=h1.le;rw[HSt.o.1]at this;exact this,fun j hj=>by
    by_cases hjt:j<t.size
    ·rw[h1.same j hjt,HSt.o.2 j hj,iT E 32 j hj]
    ·rw[qO t j zO,<-iT E 32 j hj,<-HSt.o.2 j hj];exact(h1.gone j zO).symm,h2⟩
   clear h1 h2
   go_wp2_with fail
   refine hK.out _ _ ?_ (fun hHeld=>?_)
   ·(try dsimp only);exact HC.o _ (Old.drew (Old.refl wr))
   clear hK K
   try simp only[Act.put,sA,sZ,sS]
   have HBd:=zH (NV t n0 n1 (E 56) ((E 57) == 1) n2 n3 n4 n5);obtain⟨M,hM⟩:=zG ((Mt.mk t n0 n1 (E 56) ((E 57) == 1) n2 n3 n4 n5).cells);have H9:Hid (M.all (·.oneCell')=true):=zH (by rw[hM];exact Mt.one _);have HM9:Hid (M.size=9):=zH (by rw[hM];rfl);rw[<-hM]at HBd;have HMe:Hid (M=(rdM t E).cells):=zH (by rw[hM,HRM.o t]);have hrr:(wr.drew.setRow (w.heap.size+1) M).heap[w.heap.size+1]?=some (.cells M 90 (0,0))/\Old w (wr.drew.setRow (w.heap.size+1) M):=
    bS (W:=wr.drew) HRes.o.1 HRes.o.2.drew zO M
   have HRt:=zH hrr;have hkp:Kept (fun q=>q≠w.heap.size+1) wr.drew (wr.drew.setRow (w.heap.size+1) M):=⟨rfl,rfl,zS,fun k hk=>setRow_other _ _ _ _ hk⟩
   have HK2:Hid ((∀j,j<64->(wr.drew.setRow (w.heap.size+1) M).cell? ⟨w.heap.size,j,none⟩=some (.int .u8 (E j)))/\(wr.drew.setRow (w.heap.size+1) M).cell? ⟨w.heap.size,56,none⟩=some (.int .u8 (E 56))/\(wr.drew.setRow (w.heap.size+1) M).cell? ⟨w.heap.size,57,none⟩=some (.int .u8 (E 57))/\(wr.drew.setRow (w.heap.size+1) M).cell? ⟨w.heap.size+1+1,0,none⟩=some (vI iJ n0)/\(wr.drew.setRow (w.heap.size+1) M).cell? ⟨w.heap.size+1+1,1,none⟩=some (vI iJ n1)/\(wr.drew.setRow (w.heap.size+1) M).cell? ⟨w.heap.size+1+1,2,none⟩=some (vI iJ n2)/\(wr.drew.setRow (w.heap.size+1) M).cell? ⟨w.heap.size+1+1,3,none⟩=some (vI iJ n3)/\(wr.drew.setRow (w.heap.size+1) M).cell? ⟨w.heap.size+1+1,4,none⟩=some (vI iJ n4)/\(wr.drew.setRow (w.heap.size+1) M).cell? ⟨w.heap.size+1+1,5,none⟩=some (vI iJ n5)):=zH (by
    have h:=HC.o _ (Old.drew (Old.refl wr));have h0:∀j,(wr.drew.setRow (w.heap.size+1) M).cell? ⟨w.heap.size,j,none⟩=wr.drew.cell? ⟨w.heap.size,j,none⟩:=fun j=>hkp.cell (a:=⟨w.heap.size,j,none⟩) (by simp only;omega);have h2:∀j,(wr.drew.setRow (w.heap.size+1) M).cell? ⟨w.heap.size+1+1,j,none⟩=wr.drew.cell? ⟨w.heap.size+1+1,j,none⟩:=fun j=>hkp.cell (a:=⟨w.heap.size+1+1,j,none⟩) (by simp only;omega);refine⟨fun j hj=>(h0 j).trans (h.1 j hj),?_⟩;rw[h0,h0,h2,h2,h2,h2,h2,h2];exact h.2)
   clear hM hrr hkp;refine (uT 21 (v:=.agg M) rfl (fC zK 90 _ rfl [(0,.string t),(1,vI iJ n0),(2,vI iJ n1),(3,vI iJ (E 56)),(4,.bool ((E 57) == 1)),(5,vI iJ n2),(6,vI iJ n3),(7,vI iJ n4),(8,vI iJ n5)] _ zK HBd.o)) ?_;refine wpR 22 rfl (fun K hK=>?_);rw[if_pos zK];have Hz9:Hid ((Mt.mk ⟨#[]⟩ 0 0 0 false 0 0 0 0).cells.size=9):=zH rfl;have HRes1:Hid (wr.drew.heap[w.heap.size+1]?=some (.cells (Mt.mk ⟨#[]⟩ 0 0 0 false 0 0 0 0).cells 90 (0,0))):=zH HRes.o.1
   with_reducible refine wp_store_row 90 _ _ rfl (w.heap.size+1) M rfl rfl 90 _ HRes1.o (by rw[HM9.o];exact Hs9.o) (by rw[HM9.o,Hz9.o]) H9.o ?_
   refine hK.out _ _ ?_ (fun hHeld=>?_)
   ·(try dsimp only);exact HK2.o
   clear hK K
   try simp only[Act.put,sA,sZ,sS]
   refine wpAnyH_done zK ?_ _
   go_wp2_with fail
   refine bodyPost_ret (results_cell_row rfl _ _ (w.heap.size+1) 90 M (0,0) _ rfl HRt.o.1 underlying90 rfl (by rw[HM9.o];exact Hs9.o)) rfl ?_;exact⟨t,by rw[HMe.o],HT.o,HRt.o.2⟩
theorem BM{P:Program}(d:Nat)(e:TypeId)(q:IntKind)(hu:P.underlying e=some (.int q))(n:Nat)(f g:nI)(w:World):∀is:List Nat,(∀i∈is,i<n) ->
  (Op.eqItems (d+1) e 1 (aA n (bU f)) (aA n (bU g)) is).run P w=.ok (decide (∀i∈is,f i=g i)) w
 | [],_=>by simp[Op.eqItems]
 | i :: is,h=>by
  have hi:=h i zS;have ih:=BM d e q hu n f g w is (fun j hj=>h j (by simp[hj]));have h1:∀f:nI,(Go.part e (aA n (bU f)) (i*1)).run P w=.ok (.int .u8 (f i)) w:=fun f=>by
   simp[Go.part,isAgg,run_underlying hu,aGG n f i hi]
  simp only[Op.eqItems,Sem.run_bind,h1,Result.andThen_ok,run_equalIn_int w d e .u8 q _ _ hu];by_cases hfg:f i=g i
  ·simp only[hfg,BEq.rfl];simp[hfg,ih]
  ·have:(f i == g i)=false:=by simpa using hfg
   simp only[this];simp[hfg]
theorem aHp{P:Program}{t e:TypeId}{n:Nat}{q:IntKind}(ht:P.underlying t=some (.array n e))(he:P.underlying e=some (.int q))(hc:P.cellsOf e=1)(hi:(P.info? e).isSome=true)(f g:nI)(w:World):
  (binOp .neq t (.agg (aA n (bU f))) (.agg (aA n (bU g)))).run P w=.ok (.bool !(eqB n f g)) w:=by
 obtain⟨i,hi⟩:=Option.isSome_iff_exists.1 hi;have h:=BM (P:=P) 9998 e q he n f g w (List.range n) (fun i hi=>List.mem_range.1 hi);rw[run_neq_struct,run_equalIn_array w 9999 _ _ ht hi,hc,h];simp[eqB]
theorem GU(s t:ByteArray)(h:s.size=t.size)(e:∀j,j<s.size->lT s j=lT t j):s=t:=by
 obtain⟨a⟩:=s;obtain⟨b⟩:=t;congr 1;have hab:a.size=b.size:=h;apply Array.ext hab;intro i h1 h2;have h3:=e i h1;rw[<-jL ⟨a⟩ i h1,<-jL ⟨b⟩ i h2]at h3;have h4:(a[i]).toNat=(b[i]).toNat:=by
  have:(((⟨a⟩:ByteArray)[i]'h1).toNat:Int)=(((⟨b⟩:ByteArray)[i]'h2).toNat:Int):=h3;exact Int.ofNat.inj this
 exact UInt8.toNat_inj.1 h4
structure Mt.Wide(m:Mt):Prop where
 ok:m.OkR
 x1:0<=m.x
 x2:m.x<4294967296
 y1:0<=m.y
 y2:m.y<4294967296
theorem YW{s t:ByteArray}{E:nI}(hs:wR s)(hE:∀j,j<32->lT s j=E j)(ht:TrE E t):t=s:=by
 have hsz:t.size=s.size:=by
  rcases Nat.lt_trichotomy t.size s.size with h | h | h
  ·have h1:=ht.same t.size (by have:=hs.1.2;omega);rw[qO t t.size (Nat.le_refl _),<-hE t.size (by have:=hs.1.2;omega)]at h1;have:=(hs.2 t.size h).1;omega
  ·exact h
  ·have h1:=ht.last zO;have hl:=ht.le;rw[ht.same (t.size-1) zO,<-hE (t.size-1) zO,qO s (t.size-1) zO]at h1;exact absurd rfl h1
 exact GU t s hsz fun j hj=>by
  have hl:=ht.le;rw[ht.same j zO,hE j zO]
theorem xS{m:Mt}{E:nI}{t:ByteArray}(hm:m.Wide)(hE:∀j,j<64->eY m j=E j)(ht:TrE E t):rdM t E=m:=by
 have h1:=hm.ok.n1;have h2:=hm.ok.n2;have h3:=hm.ok.r1;have h4:=hm.ok.r2;have h5:=hm.ok.nums;have hx1:=hm.x1;have hx2:=hm.x2;have hy1:=hm.y1;have hy2:=hm.y2;have num:∀(k:Nat) (hk:k<6),0<=m.num k->m.num k<4294967296->aO (fun j=>E (32+k*4+j)) 4=m.num k:=fun k hk a b=>by
  refine Eq.trans (jK fun j hj=>?_) (qQ (m.num k) a b);rw[<-hE (32+k*4+j) zO];unfold eY;rw[if_neg zO,if_pos zO,show (32+k*4+j-32)/4=k by omega,show (32+k*4+j-32)%4=j by omega]
 have hname:t=m.s:=YW hm.ok.name (fun j hj=>by
  rw[<-hE j zO];unfold eY;rw[if_pos hj]) ht
 have hc:E 56=m.c:=by
  rw[<-hE 56 zO];show m.c%256=m.c;have:=hm.ok.c1;have:=hm.ok.c2;omega
 have hl:(E 57 == 1)=m.lp:=by
  rw[<-hE 57 zO];show ((if m.lp=true then(1:Int) else 0) == 1)=m.lp;cases m.lp <;> rfl
 have n0:=num 0 zO (show 0<=m.n by omega) (show m.n<_ by omega);have n1:=num 1 zO (show 0<=m.r by omega) (show m.r<_ by omega);have n2:=num 2 zO (show 0<=m.a by omega) (show m.a<_ by omega);have n3:=num 3 zO (show 0<=m.b by omega) (show m.b<_ by omega);have n4:=num 4 zO (show 0<=m.x by omega) (show m.x<_ by omega);have n5:=num 5 zO (show 0<=m.y by omega) (show m.y<_ by omega);have e:rdM t E=⟨t,aO (fun j=>E (32+0*4+j)) 4,aO (fun j=>E (32+1*4+j)) 4,E 56,E 57 == 1,aO (fun j=>E (32+2*4+j)) 4,aO (fun j=>E (32+3*4+j)) 4,aO (fun j=>E (32+4*4+j)) 4,aO (fun j=>E (32+5*4+j)) 4⟩:=rfl;rw[e,n0,n1,n2,n3,n4,n5,hname,hc,hl];rfl
end Go.Proofs.YticpdokbiblpoaaGreatDoor
