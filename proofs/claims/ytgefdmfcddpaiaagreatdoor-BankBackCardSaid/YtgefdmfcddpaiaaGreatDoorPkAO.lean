/- Texts joined: BankB, BankC, BankD, BankE, BankF, BankG, BankH, BankI, BankJ, BankK, BankL, BankM. -/
import Derived.Deep.RegionHeld
import Derived.StillTailTactics
import Derived.Test.YtgefdmfcddpaiaaGreatDoorPkAC
import Derived.Test.YtgefdmfcddpaiaaGreatDoorPkAH
import Derived.Test.YtgefdmfcddpaiaaGreatDoorPkAM
import Derived.Test.YtgefdmfcddpaiaaGreatDoorPkAN
import Derived.Test.YtgefdmfcddpaiaaGreatDoorPkAP
import Derived.Test.YtgefdmfcddpaiaaGreatDoorTk
namespace Go.Proofs.YtgefdmfcddpaiaaGreatDoor
set_option linter.unusedVariables false
set_option linter.unusedSimpArgs false
set_option maxRecDepth 100000
open Go.RowKit Go.ChangeShapes Go.WideShapes
theorem Mt.size9(m:Mt):m.cells.size=9:=rfl
theorem Mt.one(m:Mt):m.cells.all (·.oneCell')=true:=by kernel_rfl
def MtB(w:World)(g:Nat)(m:Mt):Prop:=w.heap[g]?=some (.cells m.cells 85 (0,0))
theorem MtB.new(w:World)(m:Mt):MtB (w.alloc (.cells m.cells 85)) w.heap.size m:=heap_alloc_new _ _
theorem MtB.old{w w':World}{g:Nat}{m:Mt}(h:MtB w g m)(k:Old w w'):MtB w' g m:=(k.block g (lt_of_block h)).trans h
theorem MtB.at_{w:World}{g:Nat}{m:Mt}(h:MtB w g m)(f:Nat):w.cell? ⟨g,f,none⟩=m.cells[f]?:=cell_of_row _ _ _ _ _ _ h
structure MtsS(w:World)(p:Option Addr)(n:Nat)(D:Nat->Mt):Prop where
 cell:0<n->∃g o,p=some ⟨g,o,none⟩/\g<w.heap.size/\∀i,i<n->∀f v,(D i).cells[f]?=some v->w.cell? ⟨g,o+i*9+f,none⟩=some v
 str:∀i,i<n->(D i).s.size<=9223372036854775807
theorem MtsS.old{w w':World}{p:Option Addr}{n:Nat}{D:Nat->Mt}(h:MtsS w p n D)(k:Old w w'):MtsS w' p n D where
 cell:=fun hn=>by
  obtain⟨g,o,h1,h2,h3⟩:=h.cell hn
  exact⟨g,o,h1,Nat.lt_of_lt_of_le h2 k.size,fun i hi f v hf=>(k.cell (a:=⟨g,o+i*9+f,none⟩) h2).trans (h3 i hi f v hf)⟩
 str:=h.str
theorem MtsS.ext{w:World}{p:Option Addr}{n:Nat}{D E:Nat->Mt}(h:MtsS w p n D)(e:∀i,i<n->D i=E i):MtsS w p n E where
 cell:=fun hn=>by
  obtain⟨g,o,h1,h2,h3⟩:=h.cell hn
  exact⟨g,o,h1,h2,fun i hi f v hf=>h3 i hi f v (by rw [e i hi];exact hf)⟩
 str:=fun i hi=>by rw [←e i hi];exact h.str i hi
structure MtO(w:World)(g n:Nat)(D:Nat->Mt):Prop where
 lt:g<w.heap.size
 cell:∀i,i<n->∀f v,(D i).cells[f]?=some v->w.cell? ⟨g,i*9+f,none⟩=some v
 frz:∀j,j<n*9->w.frozen? ⟨g,j,none⟩=false
theorem MtO.kept{w w':World}{g n:Nat}{D:Nat->Mt}{X:Nat->Prop}(h:MtO w g n D)(k:Kept X w w')(hX:X g):MtO w' g n D:=
 ⟨Nat.lt_of_lt_of_le h.lt k.size,fun i hi f v hf=>(k.cell (a:=⟨g,i*9+f,none⟩) hX).trans (h.cell i hi f v hf),fun j hj=>(k.frozen (a:=⟨g,j,none⟩) hX).trans (h.frz j hj)⟩
theorem MtO.old{w w':World}{g n:Nat}{D:Nat->Mt}(h:MtO w g n D)(k:Old w w'):MtO w' g n D:=h.kept k h.lt
theorem MtO.sl{w:World}{g n:Nat}{D:Nat->Mt}(h:MtO w g n D)(hs:∀i,i<n->(D i).s.size<=9223372036854775807):MtsS w (some ⟨g,0,none⟩) n D:=
 ⟨fun _=>⟨g,0,rfl,h.lt,fun i hi f v hf=>by rw [Nat.zero_add];exact h.cell i hi f v hf⟩,hs⟩
theorem MtO.put{w:World}{g n:Nat}{D:Nat->Mt}(h:MtO w g n D)(k:Nat)(hk:k<n)(f:Nat)(hf:f<9)(v:Value)(m:Mt)(hm:∀q,q<9->m.cells[q]?=if q=f then some v else(D k).cells[q]?):
  MtO (w.setCell ⟨g,k*9+f,none⟩ v) g n (fun i=>if i=k then m else D i) where
 lt:=by have:=h.lt;simpa [World.setCell] using this
 cell:=fun i hi q u hq=>by
  have hq9:q<9:=by
   rcases Nat.lt_or_ge q 9 with h | h
   ·exact h
   ·rw [Array.getElem?_eq_none (by split at hq <;> (rw [Mt.size9];exact h))] at hq;cases hq
  by_cases e:i=k
  ·subst e
   rw [if_pos rfl,hm q hq9] at hq
   by_cases e2:q=f
   ·subst e2
    rw [if_pos rfl] at hq
    cases hq
    have hlt:q<(D i).cells.size:=by rw [Mt.size9];exact hf
    exact World.cell?_setCell_same _ _ _ (h.cell i hk q _ (Array.getElem?_eq_getElem hlt))
   ·rw [if_neg e2] at hq
    rw [World.cell?_setCell_other _ _ _ _ (fun e'=>by injection e' with _ e3;omega)]
    exact h.cell i hk q u hq
  ·rw [if_neg e] at hq
   rw [World.cell?_setCell_other _ _ _ _ (fun e'=>by injection e' with _ e3;omega)]
   exact h.cell i hi q u hq
 frz:=fun j hj=>by rw [World.frozen?_setCell];exact h.frz j hj
set_option maxHeartbeats 1000000 in
theorem Frames_any(m:Mt)(hm:m.OkR)(w:World):Calls Tryz.prog 35 #[.agg m.cells] w fun e w'=>e = .returned (.int .i64 (m.fr:Int))/\Old w w':=by
 have hb:=MtB.new w m
 have hoo:=Old.alloc w (.cells m.cells 85)
 have HR:Hid (∀d,((w.alloc (.cells m.cells 85)).drewN d).cell? ⟨w.heap.size,1,none⟩=some (.int .i64 m.n)/\((w.alloc (.cells m.cells 85)).drewN d).cell? ⟨w.heap.size,3,none⟩=some (.int .i64 m.c)):=zH fun d=>⟨hb.at_ 1,hb.at_ 3⟩
 have c1:=hb.at_ 1
 have c3:=hb.at_ 3
 have n1:=hm.n1
 have n2:=hm.n2
 have k1:=hm.c1
 have k2:=hm.c2
 have HCn:=zH (fun w=>Count_any m.n w (by omega) (by omega))
 have hcn:countI m.n=((cnt m.n.toNat:Nat):Int):=by
  have:=countI_nat m.n.toNat
  rw [Int.toNat_of_nonneg (by omega)] at this
  exact this
 rw [hcn] at HCn
 have hfr:(m.fr:Int)=((cnt m.n.toNat:Nat):Int)*m.c:=by
  unfold Mt.fr
  rw [Int.natCast_mul,Int.toNat_of_nonneg (by omega)]
 have hcb:cnt m.n.toNat<=65536:=by unfold cnt;omega
 have hp:=hm.fr_le
 have e1:wrap64 (((cnt m.n.toNat:Nat):Int)*m.c)=(m.fr:Int):=by rw [←hfr];exact IntWalk.wrap64_in _ (by omega)
 have e3:IntKind.i64.wrap (((cnt m.n.toNat:Nat):Int)*m.c)=(m.fr:Int):=by rw [←hfr];exact IntWalk.i64_in _ (by omega)
 have e2:max 0 m.c=m.c:=by omega
 generalize (m.fr:Int)=r at *
 generalize cnt m.n.toNat=q at *
 have HO:=zH hoo
 obtain⟨W,hW⟩:∃W,W=w.alloc (.cells m.cells 85):=⟨_,rfl⟩
 have HW:=zH hW
 rw [←hW] at c1 c3 HR HO
 unfold Mt.cells at *
 clear hb hoo hcn hfr hp hW
 go_enter Tryz.func35,Tryz.ntmps35
 go_wp2_with fail
 rw [←HW.out]
 refine wp_region_held_drew (S:=(fun V=>V.cell? ⟨w.heap.size,1,none⟩=some (.int .i64 m.n)/\V.cell? ⟨w.heap.size,3,none⟩=some (.int .i64 m.c))) (by kernel_rfl) ?_ (fun hHeld=>?_)
 ·(try dsimp only);exact⟨c1,c3⟩
 refine wpU 0 rfl ?_;try simp only [Act.put,sA,sZ,sS]
 refine wpU 1 rfl ?_;try simp only [Act.put,sA,sZ,sS]
 refine wpU 3 rfl ?_;try simp only [Act.put,sA,sZ,sS]
 refine wpU 4 rfl ?_;try simp only [Act.put,sA,sZ,sS]
 refine wpU 5 rfl ?_;try simp only [Act.put,sA,sZ,sS]
 refine wpR 2 rfl (fun K hK=>?_)
 go_simp
 refine(HCn.out _).mono ?_
 rintro e V ⟨rfl,rfl⟩
 go_wp2_with fail
 refine hK.out _ _ ?_ (fun hHeld=>?_)
 ·(try dsimp only);exact⟨c1,c3⟩
 clear hK K
 try simp only [Act.put,sA,sZ,sS]
 refine wpU 6 rfl ?_;try simp only [Act.put,sA,sZ,sS]
 refine wpU 7 rfl ?_;try simp only [Act.put,sA,sZ,sS]
 refine wpAnyH_done (by kernel_rfl) ?_ _
 go_wp2
 go_ret
 exact⟨ret_int (by first | exact e1 | rfl | exact e3),HO.out.drew⟩
def dirP(D:Nat->Mt)(n:Nat):Prop:=∀i,i<n->(D i).ok/\(0<i->ltS (D (i-1)).s (D i).s=true)
set_option maxHeartbeats 4000000 in
theorem isDir_any(p:Option Addr)(n cap:Nat)(D:Nat->Mt)(w:World)(hs:MtsS w p n D)(hn:n<=1048576):
  Calls Tryz.prog 114 #[.slice p n cap] w fun e w'=>∃b,e = .returned (.bool b)/\(b=true↔dirP D n)/\Old w w':=by
 have HS:=zH hs
 have HO0:=zH (Old.refl w)
 have Hs9:Hid ((Tryz.prog.info? 85).map (·.size)=some 9):=zH (by kernel_rfl)
 clear hs
 go_enter Tryz.func114,Tryz.ntmps114
 go_wp2_with fail
 go_loopw [7] (fun iv wr=>∃k:Nat,k<=n/\iv = .int .i64 k/\Hid (Old w wr)/\Hid (dirP D k)) (fun i _=>n-(intOf i).toNat)
 case atStart=>exact⟨0,by omega,by go_num,HO0,zH fun i hi=>by omega⟩
 case round=>
  clear HO0
  obtain⟨k,hk,rfl,HO,HD⟩:=hrel
  by_cases hkn:k<n
  ·obtain⟨g,o,rfl,hg,hcs⟩:=(HS.out.old HO.out).cell (by omega)
   obtain⟨m,hm⟩:∃m,m=D k:=⟨_,rfl⟩
   have hck:=hcs k hkn
   rw [←hm] at hck
   have c0:wr.cell? ⟨g,o+k*9,none⟩=some (.string m.s):=hck 0 _ rfl
   have c1:wr.cell? ⟨g,o+k*9+1,none⟩=some (.int .i64 m.n):=hck 1 _ rfl
   have c2:wr.cell? ⟨g,o+k*9+2,none⟩=some (.int .i64 m.r):=hck 2 _ rfl
   have c3:wr.cell? ⟨g,o+k*9+3,none⟩=some (.int .i64 m.c):=hck 3 _ rfl
   have c4:wr.cell? ⟨g,o+k*9+4,none⟩=some (.bool m.lp):=hck 4 _ rfl
   have c5:wr.cell? ⟨g,o+k*9+5,none⟩=some (.int .i64 m.a):=hck 5 _ rfl
   have c6:wr.cell? ⟨g,o+k*9+6,none⟩=some (.int .i64 m.b):=hck 6 _ rfl
   have c7:wr.cell? ⟨g,o+k*9+7,none⟩=some (.int .i64 m.x):=hck 7 _ rfl
   have c8:wr.cell? ⟨g,o+k*9+8,none⟩=some (.int .i64 m.y):=hck 8 _ rfl
   have HM:=zH hm
   have HRM:Hid (∀V,Calls Tryz.prog 155 #[.agg m.cells] V fun e w'=>e = .returned (.bool (wrongI m.s m.n m.r m.c m.lp m.a m.b == 0))/\Old V w'):=
    zH fun V=>RightMeta_any m.s m.n m.r m.c m.lp m.a m.b m.x m.y V (by rw [hm];exact HS.out.str k hkn)
   have hokq:(wrongI m.s m.n m.r m.c m.lp m.a m.b == 0)=true↔(D k).ok:=by rw [←hm];unfold Mt.ok;simp
   obtain⟨q,hq⟩:∃q,q=(wrongI m.s m.n m.r m.c m.lp m.a m.b == 0):=⟨_,rfl⟩
   rw [←hq] at hokq HRM
   have HOK:=zH hokq
   obtain⟨b,hb⟩:∃b,b=wr.heap.size:=⟨_,rfl⟩
   obtain⟨W,hW⟩:∃W,W=wr.alloc (.cells m.cells 85):=⟨_,rfl⟩
   have hbx:MtB W b m:=by rw [hW,hb];exact MtB.new wr m
   have HOW:=zH (show Old wr W by rw [hW];exact Old.alloc _ _)
   have HB:=zH hb
   have HBx:=zH hbx
   have HCS:=zH hcs
   have HG:=zH hg
   obtain⟨R,hR⟩:∃R,R=m.cells:=⟨_,rfl⟩
   have HR:=zH hR
   have HR9:Hid (R.size=9):=zH (by rw [hR];exact Mt.size9 m)
   rw [←hR] at HRM hW
   have hbr:W.heap[b]?=some (.cells R 85 (0,0)):=by rw [hR];exact hbx
   have HBr:=zH hbr
   have hW':W=wr.alloc (.cells #[.string m.s,.int .i64 m.n,.int .i64 m.r,.int .i64 m.c,.bool m.lp,.int .i64 m.a,.int .i64 m.b,.int .i64 m.x,.int .i64 m.y] 85):=by rw [hW,hR];rfl
   have HW:=zH hW'
   have HBs:Hid (∀V,Old W V->V.heap[b]?=some (.cells R 85 (0,0))/\V.cell? ⟨b,0,none⟩=some (.string m.s)):=zH fun V hV=>⟨(hV.block _ (lt_of_block hbr)).trans hbr,(hbx.old hV).at_ 0⟩
   have i0:(0:Int)<=k:=by omega
   have i1:(k:Int)<n:=by omega
   clear hck hm hq hb hW hW' hbx hcs hR hbr hokq hg
   cases q
   ·go_wp2_with fail
    rw [←HW.out,←HB.out]
    refine wp_region_held_drew (S:=(fun V=>V.heap[b]?=some (.cells R 85 (0,0)))) (by kernel_rfl) ?_ (fun hHeld=>?_)
    ·(try dsimp only);exact HBr.out
    refine wpT 0 (v:=.agg R) rfl (yieldsIf_load_row (by kernel_rfl) 85 (.tmp 4) rfl b rfl 85 R (0,0) _ (fun _ h=>h) Tryz.underlying85 rfl (by rw [HR9.out];exact Hs9.out)) (by assumption) ?_;try simp only [Act.put,sA,sZ,sS]
    refine wpR 1 rfl (fun K hK=>?_)
    go_simp
    refine(HRM.out _).mono ?_
    rintro e V ⟨rfl,o1⟩
    have HV:=zH ((Old.drew (Old.refl W)).trans o1)
    clear o1
    go_wp2_with fail
    refine hK.out _ _ ?_ (fun hHeld=>?_)
    ·(try dsimp only);exact(HBs.out _ HV.out).1
    clear hK K
    try simp only [Act.put,sA,sZ,sS]
    refine wpU 2 rfl ?_;try simp only [Act.put,sA,sZ,sS]
    refine wpU 3 rfl ?_;try simp only [Act.put,sA,sZ,sS]
    refine wpT 4 (v:=undef) rfl (Or.inr ⟨by kernel_rfl,rfl⟩) (by assumption) ?_;try simp only [Act.put,sA,sZ,sS]
    refine wpT 5 (v:=undef) rfl (Or.inr ⟨by kernel_rfl,rfl⟩) (by assumption) ?_;try simp only [Act.put,sA,sZ,sS]
    refine wpT 6 (v:=undef) rfl (Or.inr ⟨by kernel_rfl,rfl⟩) (by assumption) ?_;try simp only [Act.put,sA,sZ,sS]
    refine wpT 7 (v:=undef) rfl (Or.inr ⟨by kernel_rfl,rfl⟩) (by assumption) ?_;try simp only [Act.put,sA,sZ,sS]
    refine wpT 8 (v:=undef) rfl (Or.inr ⟨by kernel_rfl,rfl⟩) (by assumption) ?_;try simp only [Act.put,sA,sZ,sS]
    refine wpT 9 (v:=undef) rfl (Or.inr ⟨by kernel_rfl,rfl⟩) (by assumption) ?_;try simp only [Act.put,sA,sZ,sS]
    refine wpT 10 (v:=undef) rfl (Or.inr ⟨by kernel_rfl,rfl⟩) (by assumption) ?_;try simp only [Act.put,sA,sZ,sS]
    refine wpT 11 (v:=undef) rfl (Or.inr ⟨by kernel_rfl,rfl⟩) (by assumption) ?_;try simp only [Act.put,sA,sZ,sS]
    refine wpT 12 (v:=undef) rfl (Or.inr ⟨by kernel_rfl,rfl⟩) (by assumption) ?_;try simp only [Act.put,sA,sZ,sS]
    refine wpT 13 (v:=undef) rfl (Or.inr ⟨by kernel_rfl,rfl⟩) (by assumption) ?_;try simp only [Act.put,sA,sZ,sS]
    refine wpT 14 (v:=undef) rfl (Or.inr ⟨by kernel_rfl,rfl⟩) (by assumption) ?_;try simp only [Act.put,sA,sZ,sS]
    refine wpT 15 (v:=undef) rfl (Or.inr ⟨by kernel_rfl,rfl⟩) (by assumption) ?_;try simp only [Act.put,sA,sZ,sS]
    refine wpT 16 (v:=undef) rfl (Or.inr ⟨by kernel_rfl,rfl⟩) (by assumption) ?_;try simp only [Act.put,sA,sZ,sS]
    refine wpU 17 rfl ?_;try simp only [Act.put,sA,sZ,sS]
    refine wpAnyH_done (by kernel_rfl) ?_ _
    go_wp2_with fail
    go_ret
    refine⟨false,rfl,⟨fun h=>(by cases h),fun h=>?_⟩,(HO.out.trans HOW.out).trans HV.out⟩
    have:=HOK.out.2 (h k hkn).1
    cases this
   ·rcases Nat.eq_zero_or_pos k with hk0 | hk0
    ·have HD2:=zH (show dirP D (k+1) from fun i hi=>by
      obtain rfl:i=k:=by omega
      exact⟨HOK.out.1 (by simp),fun h=>by omega⟩)
     have d0:decide (0<k)=false:=decide_eq_false (by omega)
     clear hk0
     go_wp2_with fail
     rw [←HW.out,←HB.out]
     refine wp_region_held_drew (S:=(fun V=>V.heap[b]?=some (.cells R 85 (0,0)))) (by kernel_rfl) ?_ (fun hHeld=>?_)
     ·(try dsimp only);exact HBr.out
     refine wpT 0 (v:=.agg R) rfl (yieldsIf_load_row (by kernel_rfl) 85 (.tmp 4) rfl b rfl 85 R (0,0) _ (fun _ h=>h) Tryz.underlying85 rfl (by rw [HR9.out];exact Hs9.out)) (by assumption) ?_;try simp only [Act.put,sA,sZ,sS]
     refine wpR 1 rfl (fun K hK=>?_)
     go_simp
     refine(HRM.out _).mono ?_
     rintro e V ⟨rfl,o1⟩
     have HV:=zH ((Old.drew (Old.refl W)).trans o1)
     clear o1
     go_wp2_with fail
     refine hK.out _ _ ?_ (fun hHeld=>?_)
     ·(try dsimp only);exact(HBs.out _ HV.out).1
     clear hK K
     try simp only [Act.put,sA,sZ,sS]
     refine wpU 2 rfl ?_;try simp only [Act.put,sA,sZ,sS]
     refine wpU 3 rfl ?_;try simp only [Act.put,sA,sZ,sS]
     refine wpU 4 rfl ?_;try simp only [Act.put,sA,sZ,sS]
     refine wpU 5 rfl ?_;try simp only [Act.put,sA,sZ,sS]
     refine wpU 6 rfl ?_;try simp only [Act.put,sA,sZ,sS]
     refine wpT 7 (v:=undef) rfl (Or.inr ⟨by kernel_rfl,rfl⟩) (by assumption) ?_;try simp only [Act.put,sA,sZ,sS]
     refine wpT 8 (v:=undef) rfl (Or.inr ⟨by kernel_rfl,rfl⟩) (by assumption) ?_;try simp only [Act.put,sA,sZ,sS]
     refine wpT 9 (v:=undef) rfl (Or.inr ⟨by kernel_rfl,rfl⟩) (by assumption) ?_;try simp only [Act.put,sA,sZ,sS]
     refine wpT 10 (v:=undef) rfl (Or.inr ⟨by kernel_rfl,rfl⟩) (by assumption) ?_;try simp only [Act.put,sA,sZ,sS]
     refine wpT 11 (v:=undef) rfl (Or.inr ⟨by kernel_rfl,rfl⟩) (by assumption) ?_;try simp only [Act.put,sA,sZ,sS]
     refine wpT 12 (v:=undef) rfl (Or.inr ⟨by kernel_rfl,rfl⟩) (by assumption) ?_;try simp only [Act.put,sA,sZ,sS]
     refine wpT 13 (v:=undef) rfl (Or.inr ⟨by kernel_rfl,rfl⟩) (by assumption) ?_;try simp only [Act.put,sA,sZ,sS]
     refine wpT 14 (v:=undef) rfl (Or.inr ⟨by kernel_rfl,rfl⟩) (by assumption) ?_;try simp only [Act.put,sA,sZ,sS]
     refine wpT 15 (v:=undef) rfl (Or.inr ⟨by kernel_rfl,rfl⟩) (by assumption) ?_;try simp only [Act.put,sA,sZ,sS]
     refine wpU 16 rfl ?_;try simp only [Act.put,sA,sZ,sS]
     refine wpU 17 rfl ?_;try simp only [Act.put,sA,sZ,sS]
     refine wpAnyH_done (by kernel_rfl) ?_ _
     have HO2:=zH ((HO.out.trans HOW.out).trans HV.out)
     clear HO HOW HV HD HBs HBr HBx HRM
     go_wp2_with fail
     go_roundw
     case rel=>exact⟨k+1,by omega,by go_num,HO2,HD2⟩
     case measure=>simp [intOf];omega
    ·obtain⟨j,hj⟩:∃j,j+1=k:=⟨k-1,by omega⟩
     have d0:decide (0<k)=true:=decide_eq_true (by omega)
     have q1:wrap64 ((k:Int)-1)=j:=by rw [IntWalk.wrap64_in _ (by omega)];omega
     have q2:IntKind.i64.wrap ((k:Int)-1)=j:=by rw [IntWalk.i64_in _ (by omega)];omega
     have j0:(0:Int)<=j:=by omega
     have j1:(j:Int)<n:=by omega
     have HJ:=zH hj
     obtain⟨s,hss⟩:∃s,s=(D j).s:=⟨_,rfl⟩
     have HBs2:Hid (∀V,Old W V->V.heap[b]?=some (.cells R 85 (0,0))/\V.cell? ⟨b,0,none⟩=some (.string m.s)/\V.cell? ⟨g,o+j*9,none⟩=some (.string s)):=zH fun V hV=>
      ⟨(HBs.out V hV).1,(HBs.out V hV).2,by
       rw [hss]
       exact((HOW.out.trans hV).cell (a:=⟨g,o+j*9+0,none⟩) HG.out).trans (HCS.out j (by omega) 0 (.string (D j).s) rfl)⟩
     have HSS:=zH hss
     clear hk0 hj hss
     obtain⟨lt,hlt⟩:∃lt,lt=ltS s m.s:=⟨_,rfl⟩
     have HLT:=zH hlt
     unfold ltS at hlt
     have HF:=zH (And.intro d0 (And.intro q1 (And.intro q2 (And.intro j0 (And.intro j1 hlt.symm)))))
     clear d0 q1 q2 j0 j1 hlt
     cases lt
     ·go_wp2_with fail
      rw [←HW.out,←HB.out]
      obtain⟨d0,q1,q2,j0,j1,hlt⟩:=HF.out
      refine wp_region_held_drew (S:=(fun V=>V.heap[b]?=some (.cells R 85 (0,0))/\V.cell? ⟨b,0,none⟩=some (.string m.s)/\V.cell? ⟨g,o+j*9,none⟩=some (.string s))) (by kernel_rfl) ?_ (fun hHeld=>?_)
      ·(try dsimp only);exact HBs2.out _ (Old.drew (Old.refl W))
      refine wpT 0 (v:=.agg R) rfl (yieldsIf_load_row (by kernel_rfl) 85 (.tmp 4) rfl b rfl 85 R (0,0) _ (fun _ h=>h.1) Tryz.underlying85 rfl (by rw [HR9.out];exact Hs9.out)) (by assumption) ?_;try simp only [Act.put,sA,sZ,sS]
      refine wpR 1 rfl (fun K hK=>?_)
      go_simp
      refine(HRM.out _).mono ?_
      rintro e V ⟨rfl,o1⟩
      have HV:=zH ((Old.drew (Old.refl W)).trans o1)
      clear o1
      go_wp2_with fail
      refine hK.out _ _ ?_ (fun hHeld=>?_)
      ·(try dsimp only);exact HBs2.out _ HV.out
      clear hK K
      try simp only [Act.put,sA,sZ,sS]
      refine wpU 2 rfl ?_;try simp only [Act.put,sA,sZ,sS]
      refine wpU 3 rfl ?_;try simp only [Act.put,sA,sZ,sS]
      refine wpU 4 rfl ?_;try simp only [Act.put,sA,sZ,sS]
      refine wpU 5 rfl ?_;try simp only [Act.put,sA,sZ,sS]
      refine wpU 6 rfl ?_;try simp only [Act.put,sA,sZ,sS]
      refine wpU 7 rfl ?_;try simp only [Act.put,sA,sZ,sS]
      refine wpU 8 rfl ?_;try simp only [Act.put,sA,sZ,sS]
      refine wpU 9 rfl ?_;try simp only [Act.put,sA,sZ,sS]
      refine wpU 10 rfl ?_;try simp only [Act.put,sA,sZ,sS]
      refine wpU 11 rfl ?_;try simp only [Act.put,sA,sZ,sS]
      refine wpU 12 rfl ?_;try simp only [Act.put,sA,sZ,sS]
      refine wpU 13 rfl ?_;try simp only [Act.put,sA,sZ,sS]
      refine wpU 14 rfl ?_;try simp only [Act.put,sA,sZ,sS]
      refine wpU 15 rfl ?_;try simp only [Act.put,sA,sZ,sS]
      refine wpU 16 rfl ?_;try simp only [Act.put,sA,sZ,sS]
      refine wpU 17 rfl ?_;try simp only [Act.put,sA,sZ,sS]
      refine wpAnyH_done (by kernel_rfl) ?_ _
      go_wp2_with fail
      go_ret
      refine⟨false,rfl,⟨fun h=>(by cases h),fun h=>?_⟩,(HO.out.trans HOW.out).trans HV.out⟩
      have h2:=(h k hkn).2 (by have:=HJ.out;omega)
      rw [show k-1=j by have:=HJ.out;omega,←HM.out,←HSS.out,←HLT.out] at h2
      cases h2
     ·go_wp2_with fail
      rw [←HW.out,←HB.out]
      obtain⟨d0,q1,q2,j0,j1,hlt⟩:=HF.out
      refine wp_region_held_drew (S:=(fun V=>V.heap[b]?=some (.cells R 85 (0,0))/\V.cell? ⟨b,0,none⟩=some (.string m.s)/\V.cell? ⟨g,o+j*9,none⟩=some (.string s))) (by kernel_rfl) ?_ (fun hHeld=>?_)
      ·(try dsimp only);exact HBs2.out _ (Old.drew (Old.refl W))
      refine wpT 0 (v:=.agg R) rfl (yieldsIf_load_row (by kernel_rfl) 85 (.tmp 4) rfl b rfl 85 R (0,0) _ (fun _ h=>h.1) Tryz.underlying85 rfl (by rw [HR9.out];exact Hs9.out)) (by assumption) ?_;try simp only [Act.put,sA,sZ,sS]
      refine wpR 1 rfl (fun K hK=>?_)
      go_simp
      refine(HRM.out _).mono ?_
      rintro e V ⟨rfl,o1⟩
      have HV:=zH ((Old.drew (Old.refl W)).trans o1)
      clear o1
      go_wp2_with fail
      refine hK.out _ _ ?_ (fun hHeld=>?_)
      ·(try dsimp only);exact HBs2.out _ HV.out
      clear hK K
      try simp only [Act.put,sA,sZ,sS]
      refine wpU 2 rfl ?_;try simp only [Act.put,sA,sZ,sS]
      refine wpU 3 rfl ?_;try simp only [Act.put,sA,sZ,sS]
      refine wpU 4 rfl ?_;try simp only [Act.put,sA,sZ,sS]
      refine wpU 5 rfl ?_;try simp only [Act.put,sA,sZ,sS]
      refine wpU 6 rfl ?_;try simp only [Act.put,sA,sZ,sS]
      refine wpU 7 rfl ?_;try simp only [Act.put,sA,sZ,sS]
      refine wpU 8 rfl ?_;try simp only [Act.put,sA,sZ,sS]
      refine wpU 9 rfl ?_;try simp only [Act.put,sA,sZ,sS]
      refine wpU 10 rfl ?_;try simp only [Act.put,sA,sZ,sS]
      refine wpU 11 rfl ?_;try simp only [Act.put,sA,sZ,sS]
      refine wpU 12 rfl ?_;try simp only [Act.put,sA,sZ,sS]
      refine wpU 13 rfl ?_;try simp only [Act.put,sA,sZ,sS]
      refine wpU 14 rfl ?_;try simp only [Act.put,sA,sZ,sS]
      refine wpU 15 rfl ?_;try simp only [Act.put,sA,sZ,sS]
      refine wpU 16 rfl ?_;try simp only [Act.put,sA,sZ,sS]
      refine wpU 17 rfl ?_;try simp only [Act.put,sA,sZ,sS]
      refine wpAnyH_done (by kernel_rfl) ?_ _
      have HO2:=zH ((HO.out.trans HOW.out).trans HV.out)
      have HD2:=zH (show dirP D (k+1) from fun i hi=>by
       by_cases e:i=k
       ·subst e
        refine⟨HOK.out.1 (by simp),fun _=>?_⟩
        rw [show i-1=j by have:=HJ.out;omega,←HM.out,←HSS.out,←HLT.out]
       ·exact HD.out i (by omega))
      clear HO HOW HV HD HBs HBs2 HBr HBx HRM q1 q2 hlt
      go_wp2_with fail
      go_roundw
      case rel=>exact⟨k+1,by omega,by go_num,HO2,HD2⟩
      case measure=>simp [intOf];omega
  ·obtain rfl:k=n:=by omega
   go_wp2_with fail
   go_ret
   exact⟨true,rfl,⟨fun _=>HD.out,fun _=>rfl⟩,HO.out⟩
theorem MtO.ext{w:World}{g n:Nat}{D E:Nat->Mt}(h:MtO w g n D)(e:∀i,i<n->D i=E i):MtO w g n E:=
 ⟨h.lt,fun i hi f v hf=>h.cell i hi f v (by rw [e i hi];exact hf),h.frz⟩
def metL(D:Nat->Mt)(n:Nat):List Value:=(List.range (n*9)).map fun j=>(D (j/9)).cells.getD (j%9) (.int .i64 0)
theorem metL_len(D:Nat->Mt)(n:Nat):(metL D n).length=n*9:=by simp [metL]
theorem Mt.get(m:Mt)(f:Nat)(hf:f<9):m.cells[f]?=some (m.cells.getD f (.int .i64 0)):=by
 have h:f<m.cells.size:=by rw [Mt.size9];exact hf
 simp [Array.getD,h]
theorem metL_at(D:Nat->Mt)(n i f:Nat)(hi:i<n)(hf:f<9):(metL D n)[i*9+f]?=(D i).cells[f]?:=by
 have h:i*9+f<n*9:=by omega
 rw [(D i).get f hf]
 unfold metL
 rw [List.getElem?_map,List.getElem?_range h]
 simp only [Option.map_some]
 rw [show (i*9+f)/9=i by omega,show (i*9+f)%9=f by omega]
theorem metL_get{D:Nat->Mt}{n j:Nat}{u:Value}(h:(metL D n)[j]?=some u):∃i f,i<n/\f<9/\j=i*9+f/\(D i).cells[f]?=some u:=by
 have hj:j<n*9:=by
  rcases Nat.lt_or_ge j (n*9) with h1 | h1
  ·exact h1
  ·rw [List.getElem?_eq_none (by rw [metL_len];exact h1)] at h;cases h
 have hm:=metL_at D n (j/9) (j%9) (by omega) (by omega)
 rw [show j/9*9+j%9=j by omega] at hm
 exact⟨j/9,j%9,by omega,by omega,by omega,by rw [←hm];exact h⟩
theorem metL_one(D:Nat->Mt)(n:Nat):∀u∈metL D n,u.oneCell'=true:=by
 intro u hu
 obtain⟨j,_,rfl⟩:=List.mem_map.1 hu
 have h:=(D (j/9)).one
 have hf:j%9<9:=by omega
 have h2:j%9<(D (j/9)).cells.size:=by rw [Mt.size9];exact hf
 rw [Array.all_eq_true] at h
 have:=h (j%9) h2
 simpa [Array.getD,h2] using this
theorem own_emptyS(w:World)(t:TypeId)(s:Nat):ownS (fun q=>q<w.heap.size) (w.alloc (.cells #[] t)) t s (.slice (some ⟨w.heap.size,0,none⟩) 0 0) 0 []:=by
 refine⟨⟨by simp,.inr ⟨w.heap.size,0,#[],rfl,Nat.zero_le _,heap_alloc_new _ _,Nat.le_refl _,Nat.zero_le _,by simp,by simp⟩⟩,fun k hk=>?_⟩
 have:k=w.heap.size:=by simpa [Value.ownBlock,eq_comm] using hk
 omega
def MtP(w w':World)(q:Option Addr)(n:Nat)(D:Nat->Mt):Prop:=0<n->∃g,q=some ⟨g,0,none⟩/\MtO w' g n D/\w.heap.size<=g
theorem Tryz.infoM:(Tryz.prog.info? 85).map (fun i=>(i.zero,i.size,i.bytes))=some (some (.agg #[.string ⟨#[]⟩,.int .i64 0,.int .i64 0,.int .i64 0,.bool false,.int .i64 0,.int .i64 0,.int .i64 0,.int .i64 0]),9,80):=by kernel_rfl
theorem ownS_mtP{w w':World}{v:Value}{n:Nat}{D:Nat->Mt}(h:ownS (fun q=>q<w.heap.size) w' 85 9 v n (metL D n)):∃q cap,v = .slice q n cap/\n<=cap/\cap<=maxLen/\MtP w w' q n D:=by
 rcases h.1.2 with ⟨hv,h0⟩ | ⟨g,cap,cur,hv,hg,hh,hn,hc,hs,ht⟩
 ·exact⟨none,0,by rw [hv,h0],by omega,Nat.zero_le _,fun h=>by omega⟩
 ·subst hv
  refine⟨_,cap,rfl,hn,hc,fun hn0=>⟨g,rfl,⟨lt_of_block hh,fun i hi f v hf=>?_,fun j hj=>frozen_of_row _ _ _ _ _ hh⟩,Nat.not_lt.1 (h.2 g rfl)⟩⟩
  have hf9:f<9:=by
   rcases Nat.lt_or_ge f 9 with h | h
   ·exact h
   ·rw [Array.getElem?_eq_none (by rw [Mt.size9];exact h)] at hf;cases hf
  have:=h.1.cells (g:=g) rfl (i*9+f) v (by rw [metL_at D n i f hi hf9];exact hf)
  rwa [add_plain,Nat.zero_add] at this
theorem CloneM_any(p:Option Addr)(n cap:Nat)(D:Nat->Mt)(w:World)(hs:MtsS w p n D)(hn:n<=1048576):
  Calls Tryz.prog 75 #[.slice p n cap] w fun e w'=>∃q c,e = .returned (.slice q n c)/\n<=c/\c<=maxLen/\MtP w w' q n D/\Old w w':=by
 have HC:=zH hs
 clear hs
 obtain⟨i0,hi,hz0,hz1,hz2⟩:=info_parts Tryz.infoM
 cases p with
 | none=>
  have h0:n=0:=by
   rcases Nat.eq_zero_or_pos n with h | h
   ·exact h
   ·obtain⟨b,off,hp,_⟩:=HC.out.cell h
    cases hp
  have H0:=zH h0
  clear h0 HC
  have hE:=eql_sl_nil 81 85 none n cap Tryz.underlying81
  go_enter Tryz.func75,Tryz.ntmps75
  go_wp2
  go_ret
  exact⟨none,0,by rw [H0.out];rfl,by rw [H0.out];exact Nat.le_refl _,Nat.zero_le _,fun h=>by have:=H0.out;omega,Old.refl w⟩
 | some a=>
  have HN:Hid (∀j u,(metL D n)[j]?=some u->(w.alloc (.cells #[] 85)).cell? (a.add j)=some u):=by
   intro j u hj
   obtain⟨i,f,hi',hf,rfl,hu⟩:=metL_get hj
   obtain⟨b,off,hp,hb,hcell⟩:=HC.out.cell (by omega)
   obtain rfl:a=⟨b,off,none⟩:=by simpa using hp
   rw [add_plain,(Old.alloc w (.cells #[] 85)).cell (a:=⟨b,off+(i*9+f),none⟩) hb,←Nat.add_assoc]
   exact hcell i hi' f u hu
  have HO:Hid (Old w (w.alloc (.cells #[] 85))):=Old.alloc _ _
  have HX:=zH (metL_len D n)
  have H1:=zH (metL_one D n)
  clear HC
  have hE:=eql_sl_nil 81 85 (some a) n cap Tryz.underlying81
  go_enter Tryz.func75,Tryz.ntmps75
  go_wp2_with (at_builtin;refine append_S _ rfl _ _ 81 rfl (fun q=>q<w.heap.size) 85 i0 _ 9 80 Tryz.underlying81 hi hz0 hz1 hz2 rfl (by omega) _ _ _ rfl (own_emptyS w 85 9) a n cap (metL D n) rfl HX.out HN.out H1.out (by unfold maxLen;omega) (by omega) (fun q hq=>Nat.lt_of_lt_of_le hq HO.out.size) ?_;intro v' w2 hown2 hk2 _;have HR2:=zH (show ownS (fun q=>q<w.heap.size) w2 85 9 v' n (metL D n) from(by have:=hown2;rw [Nat.zero_add,List.nil_append] at this;exact this));have HO2:=zH (HO.out.after hk2 (fun _ h=>h));clear hown2 hk2 HO HN HX H1)
  go_ret
  obtain⟨q,c,hv,h1,h2,h3⟩:=ownS_mtP HR2.out
  exact⟨q,c,by rw [←hv];rfl,h1,h2,h3,HO2.out⟩
def frD(D:Nat->Mt):Nat->Nat:=fun i=>(D i).fr
def plD(D:Nat->Mt)(sz n:Nat):Nat->Mt:=fun i=>(D i).at_ (atTo (frD D) sz n i) (firstAt (frD D) sz n i)
def plK(D:Nat->Mt)(sz n k:Nat):Nat->Mt:=fun i=>if i<k then plD D sz n i else D i
theorem plK_next(D:Nat->Mt)(sz n k:Nat)(m:Mt)(hm:m=plD D sz n k):(fun i=>if i=k then m else plK D sz n k i)=plK D sz n (k+1):=by
 subst hm
 funext i
 unfold plK
 by_cases e:i=k
 ·subst e;rw [if_pos rfl,if_pos (by omega)]
 ·rw [if_neg e]
  by_cases h:i<k
  ·rw [if_pos h,if_pos (by omega)]
  ·rw [if_neg h,if_neg (by omega)]
theorem mt_put7(m:Mt)(x:Int):∀q,q<9->(m.at_ x m.y).cells[q]?=if q=7 then some (.int .i64 x) else m.cells[q]?:=by
 intro q hq
 match q,hq with
 | 0,_=>rfl
 | 1,_=>rfl
 | 2,_=>rfl
 | 3,_=>rfl
 | 4,_=>rfl
 | 5,_=>rfl
 | 6,_=>rfl
 | 7,_=>rfl
 | 8,_=>rfl
theorem mt_put8(m:Mt)(x y:Int):∀q,q<9->(m.at_ x y).cells[q]?=if q=8 then some (.int .i64 y) else(m.at_ x m.y).cells[q]?:=by
 intro q hq
 match q,hq with
 | 0,_=>rfl
 | 1,_=>rfl
 | 2,_=>rfl
 | 3,_=>rfl
 | 4,_=>rfl
 | 5,_=>rfl
 | 6,_=>rfl
 | 7,_=>rfl
 | 8,_=>rfl
theorem MtO.put2{w:World}{g n:Nat}{D:Nat->Mt}(h:MtO w g n D)(k:Nat)(hk:k<n)(f:Nat)(hf:f<9)(v:Value)(m m':Mt)(e:D k=m)(hm:∀q,q<9->m'.cells[q]?=if q=f then some v else m.cells[q]?):
  MtO (w.setCell ⟨g,k*9+f,none⟩ v) g n (fun i=>if i=k then m' else D i):=h.put k hk f hf v m' (by rw [e];exact hm)
theorem pl_nums(a fr sz:Nat)(h:a<=900000000)(hf:fr<=131072)(hz:sz<=96):∃u v y z t:Nat,u=fr*4/\v=a+u/\y=up16 (a+fr*4)/\z=fr*sz/\t=y+z/\v<=1099511627776 /\
  (IntKind.i64.wrap ((fr:Int)*4)=u/\IntKind.i64.wrap ((a:Int)+u)=v/\IntKind.i64.wrap ((fr:Int)*sz)=z/\IntKind.i64.wrap ((y:Int)+z)=t /\
   wrap64 ((fr:Int)*4)=u/\wrap64 ((a:Int)+u)=v/\wrap64 ((fr:Int)*sz)=z/\wrap64 ((y:Int)+z)=t):=by
 have hu:=up16_le (a+fr*4)
 have hfs:fr*sz<=131072*96:=Nat.mul_le_mul hf hz
 refine⟨_,_,_,_,_,rfl,rfl,rfl,rfl,rfl,by omega,?_,?_,?_,?_,?_,?_,?_,?_⟩
 ·rw [IntWalk.i64_in _ (by omega)];omega
 ·rw [IntWalk.i64_in _ (by omega)];omega
 ·rw [←Int.natCast_mul];exact IntWalk.i64_in _ (by omega)
 ·rw [←Int.natCast_add];exact IntWalk.i64_in _ (by omega)
 ·rw [IntWalk.wrap64_in _ (by omega)];omega
 ·rw [IntWalk.wrap64_in _ (by omega)];omega
 ·rw [←Int.natCast_mul];exact IntWalk.wrap64_in _ (by omega)
 ·rw [←Int.natCast_add];exact IntWalk.wrap64_in _ (by omega)
structure PlS(w:World)(g n:Nat)(E:Nat->Mt)(wr:World):Prop where
 own:MtO wr g n E
 ge:w.heap.size<=g
 old:Old w wr
theorem PlS.put{w:World}{g n:Nat}{E:Nat->Mt}{wr:World}(h:PlS w g n E wr)(k:Nat)(hk:k<n)(f:Nat)(hf:f<9)(v:Value)(m m':Mt)(e:E k=m)(hm:∀q,q<9->m'.cells[q]?=if q=f then some v else m.cells[q]?):
  PlS w g n (fun i=>if i=k then m' else E i) (wr.setCell ⟨g,k*9+f,none⟩ v):=
 ⟨h.own.put2 k hk f hf v m m' e hm,h.ge,h.old.after (X:=fun q=>q<w.heap.size) (Kept.setCell _ (a:=⟨g,k*9+f,none⟩) (by have:=h.ge;simp only;omega) v) fun _ h=>h⟩
theorem PlS.ext{w:World}{g n:Nat}{E E':Nat->Mt}{wr:World}(h:PlS w g n E wr)(e:∀i,i<n->E i=E' i):PlS w g n E' wr:=⟨h.own.ext e,h.ge,h.old⟩
theorem PlS.on{w:World}{g n:Nat}{E:Nat->Mt}{wr wr':World}(h:PlS w g n E wr)(o:Old wr wr'):PlS w g n E wr':=⟨h.own.old o,h.ge,h.old.trans o⟩
set_option maxHeartbeats 8000000 in
theorem placed_any(sz:Nat)(p:Option Addr)(n cap:Nat)(D:Nat->Mt)(w:World)(hz:sz<=96)(hs:MtsS w p n D)(hn:n<=64)(hD:∀i,i<n->(D i).OkR):
  Calls Tryz.prog 62 #[.int .i64 sz,.slice p n cap] w fun e w'=>∃q c,e = .returned (.tuple #[.slice q n c,.int .i64 (totalAt (frD D) sz n:Nat)])/\n<=c/\c<=maxLen/\MtP w w' q n (plD D sz n)/\Old w w':=by
 have HC:=zH (CloneM_any p n cap D w hs (by omega))
 have HDr:=zH (fun w=>Dir_any n w (by omega))
 have HOk:=zH hD
 have hbd:=atTo_bd (f:=frD D) (sz:=sz) (n:=n) (fun i hi=>(hD i hi).fr_le.2) hz
 have HBd:=zH hbd
 have HU:=zH (upTo64_any (atTo (frD D) sz n n))
 have Hs9:Hid ((Tryz.prog.info? 85).map (·.size)=some 9):=zH (by kernel_rfl)
 clear hs hD hbd
 go_enter Tryz.func62,Tryz.ntmps62
 go_wp2_with fail
 refine HC.out.mono ?_
 rintro e w1 ⟨q,c,rfl,hc1,hc2,hmp,ho⟩
 have HMP:=zH hmp
 have HO:=zH ho
 have HCc:=zH (And.intro hc1 hc2)
 clear HC hmp ho hc1 hc2
 go_wp2_with fail
 refine(HDr.out _).mono ?_
 rintro e w2 ⟨rfl,rfl⟩
 clear HDr
 obtain⟨wo,hwo⟩:∃V,V=w1:=⟨_,rfl⟩
 rw [←hwo] at HMP HO ⊢
 clear hwo
 have hat0:((20+64*n:Nat):Int)=(atTo (frD D) sz n 0:Nat):=rfl
 rw [hat0]
 clear hat0
 go_wp2_with fail
 by_cases hn0:n=0
 ·have H0:=zH hn0
  have HE:=zH (show MtP w wo q n (plD D sz n) from fun h=>by omega)
  have HUl:=zH (HU.out wo (by have:=HBd.out n (Nat.le_refl _);omega))
  have e0:atTo (frD D) sz n n=atTo (frD D) sz n 0:=by rw [hn0]
  rw [e0] at HUl
  obtain⟨t,ht⟩:∃t:Nat,t=atTo (frD D) sz n 0:=⟨_,rfl⟩
  rw [←ht] at HUl ⊢
  have hx:(up64 t:Nat)=totalAt (frD D) sz n:=by unfold totalAt;rw [e0,←ht]
  rw [hx] at HUl
  clear hx e0 ht HU
  have HT:=zH (Nat.le_refl (totalAt (frD D) sz n))
  obtain⟨r,hr⟩:∃r:Nat,r=totalAt (frD D) sz n:=⟨_,rfl⟩
  rw [←hr] at HUl
  have HR:=zH hr
  clear hr hn0
  go_loopw [7,17] (fun av iv wr=>av = .int .i64 t/\iv = .int .i64 0/\wr=wo) (fun _ i _=>0)
  case atStart=>exact⟨rfl,by go_num,rfl⟩
  case round=>
   obtain⟨rfl,rfl,rfl⟩:=hrel
   have hlt:¬((0:Int)<n):=by have:=H0.out;omega
   go_wp2_with fail
   refine HUl.out.mono ?_
   rintro e w3 ⟨rfl,rfl⟩
   go_wp2_with fail
   go_ret2
   exact⟨q,c,by rw [←HR.out];rfl,HCc.out.1,HCc.out.2,HE.out,HO.out⟩
 ·obtain⟨g,hq,hmo,hge⟩:=HMP.out (by omega)
  subst hq
  have HP0:=zH (show PlS w g n (plK D sz n 0) wo from⟨hmo.ext fun i _=>by unfold plK;rw [if_neg (by omega)],hge,HO.out⟩)
  clear hmo hge HMP hn0
  go_loopw [7,17] (fun av iv wr=>∃k:Nat,k<=n/\iv = .int .i64 k/\av = .int .i64 (atTo (frD D) sz n k:Nat)/\Hid (PlS w g n (plK D sz n k) wr)) (fun _ i _=>n-(intOf i).toNat)
  case atStart=>exact⟨0,by omega,by go_num,rfl,HP0⟩
  case round=>
   clear HP0 HO
   obtain⟨k,hk,rfl,rfl,HP⟩:=hrel
   by_cases hkn:k<n
   ·obtain⟨m,hm⟩:∃m,m=D k:=⟨_,rfl⟩
    have hok:=HOk.out k hkn
    rw [←hm] at hok
    have hEk:plK D sz n k k=m:=by unfold plK;rw [if_neg (by omega),hm]
    have hat:=HBd.out k hk
    have hfr:=hok.fr_le
    obtain⟨at_,ha⟩:∃t:Nat,t=atTo (frD D) sz n k:=⟨_,rfl⟩
    obtain⟨fr,hf⟩:∃t:Nat,t=m.fr:=⟨_,rfl⟩
    have hfst:firstAt (frD D) sz n k=up16 (at_+fr*4):=by
     show up16 (atTo (frD D) sz n k+4*(D k).fr)=_
     rw [←ha,←hm,←hf,Nat.mul_comm 4 fr]
    have hnext:atTo (frD D) sz n (k+1)=up16 (at_+fr*4)+fr*sz:=by
     rw [atTo_succ,hfst]
     show _+(D k).fr*sz=_
     rw [←hm,←hf]
    have hpl:m.at_ at_ (up16 (at_+fr*4):Nat)=plD D sz n k:=by
     show _=(D k).at_ (atTo (frD D) sz n k:Nat) (firstAt (frD D) sz n k:Nat)
     rw [hfst,←hm,←ha]
    rw [←ha] at hat ⊢
    rw [←hf] at hfr
    obtain⟨u,v,y,z,t,huu,hvv,hy,hzz,ht,hv40,hEq⟩:=pl_nums at_ fr sz (by omega) hfr.2 hz
    have HEq:=zH hEq
    clear hEq
    have HUv:Hid (∀w,Calls Tryz.prog 109 #[.int .i64 v,.int .i64 16] w fun e w'=>e = .returned (.int .i64 y)/\w=w'):=zH fun w=>by
     have:=upTo16_any v w hv40
     rw [hvv,huu,←hy] at this
     rw [hvv,huu]
     exact this
    have HNext:Hid (atTo (frD D) sz n (k+1)=t):=zH (by rw [hnext,ht,hy,hzz])
    rw [←hy] at hpl
    have HPl:=zH hpl
    have HEk:=zH hEk
    have HFr:Hid (∀(x y:Int) V,Calls Tryz.prog 35 #[.agg (m.at_ x y).cells] V fun e w'=>e = .returned (.int .i64 fr)/\Old V w'):=zH fun x y V=>by
     have:=Frames_any (m.at_ x y) (hok.at_ x y) V
     rw [Mt.at_fr,←hf] at this
     exact this
    have ck:=HP.out.own.cell k hkn
    rw [hEk] at ck
    have c7:wr.cell? ⟨g,k*9+7,none⟩=some (.int .i64 m.x):=ck 7 _ rfl
    have z7:=HP.out.own.frz (k*9+7) (by omega)
    have HP1:=zH (HP.out.put k hkn 7 (by omega) (.int .i64 at_) m (m.at_ at_ m.y) hEk (mt_put7 m at_))
    obtain⟨W1,hW1⟩:∃V,V=wr.setCell ⟨g,k*9+7,none⟩ (.int .i64 at_):=⟨_,rfl⟩
    rw [←hW1] at HP1
    have HW1:=zH hW1
    have i0:(0:Int)<=k:=by omega
    have i1:(k:Int)<n:=by omega
    clear ck hok hEk hat hfr ha hf hfst hnext hpl huu hvv hy hzz ht hv40 hW1 hm HP
    have HK1:Hid (∀V,Old W1 V->(∀f v,(m.at_ at_ m.y).cells[f]?=some v->V.cell? ⟨g,k*9+f,none⟩=some v)/\V.cell? ⟨g,k*9+7,none⟩=some (.int .i64 at_)):=zH fun V hV=>by
     have h:=(HP1.out.on hV).own.cell k hkn
     simp only [if_true] at h
     exact⟨h,h 7 _ rfl⟩
    go_wp2_with fail
    rw [←HW1.out]
    clear c7 z7
    obtain⟨e1,e2,e3,e4,f1,f2,f3,f4⟩:=HEq.out
    have HRng:Hid (W1.drew.rangeAt g (k*9) (m.at_ at_ m.y).cells.toList):=zH fun j v hv=>(HK1.out _ (Old.drew (Old.refl W1))).1 j v (by simpa using hv)
    have HLen:Hid ((Tryz.prog.info? 85).map (·.size)=some (m.at_ at_ m.y).cells.toList.length):=zH Hs9.out
    refine wp_region_held_drew (S:=(fun V=>V.cell? ⟨g,k*9+7,none⟩=some (.int .i64 at_))) (by kernel_rfl) ?_ (fun hHeld=>?_)
    ·(try dsimp only);exact(HK1.out _ (Old.drew (Old.refl W1))).2
    refine wpU 0 rfl ?_;try simp only [Act.put,sA,sZ,sS]
    refine wpU 1 rfl ?_;try simp only [Act.put,sA,sZ,sS]
    refine wpU 2 rfl ?_;try simp only [Act.put,sA,sZ,sS]
    refine wpU 3 rfl ?_;try simp only [Act.put,sA,sZ,sS]
    refine wpU 4 rfl ?_;try simp only [Act.put,sA,sZ,sS]
    refine wpU 5 rfl ?_;try simp only [Act.put,sA,sZ,sS]
    refine wpU 6 rfl ?_;try simp only [Act.put,sA,sZ,sS]
    refine wpR 7 rfl (fun K hK=>?_)
    rw [if_pos (by kernel_rfl)]
    with_reducible refine wp_load_mid 85 _ rfl g (k*9) rfl (m.at_ at_ m.y).cells.toList _ HRng.out Tryz.underlying85 rfl HLen.out ?_
    refine hK.out _ _ ?_ (fun hHeld=>?_)
    ·(try dsimp only);exact(HK1.out _ (Old.drew (Old.refl W1))).2
    clear hK K
    try simp only [Act.put,sA,sZ,sS]
    refine wpR 8 rfl (fun K hK=>?_)
    go_simp
    refine(HFr.out at_ m.y _).mono ?_
    rintro e V1 ⟨rfl,o1⟩
    have HV1:=zH ((Old.drew (Old.refl W1)).trans o1)
    clear o1
    go_wp2_with fail
    refine hK.out _ _ ?_ (fun hHeld=>?_)
    ·(try dsimp only);exact(HK1.out _ HV1.out).2
    clear hK K
    try simp only [Act.put,sA,sZ,sS]
    refine wpU 9 rfl ?_;try simp only [Act.put,sA,sZ,sS]
    refine wpU 10 rfl ?_;try simp only [Act.put,sA,sZ,sS]
    refine wpR 11 rfl (fun K hK=>?_)
    go_simp
    refine(HUv.out _).mono ?_
    rintro e V2 ⟨rfl,rfl⟩
    go_wp2_with fail
    refine hK.out _ _ ?_ (fun hHeld=>?_)
    ·(try dsimp only);exact(HK1.out _ HV1.out).2
    clear hK K
    try simp only [Act.put,sA,sZ,sS]
    have hp2:=HP1.out.on HV1.out
    have c8:V1.cell? ⟨g,k*9+8,none⟩=some (.int .i64 m.y):=(HK1.out _ HV1.out).1 8 _ rfl
    have z8:=hp2.own.frz (k*9+8) (by omega)
    have HP2:=zH (hp2.put k hkn 8 (by omega) (.int .i64 y) (m.at_ at_ m.y) (m.at_ at_ y) (by simp only [if_true]) (mt_put8 m at_ y))
    obtain⟨W2,hW2⟩:∃V,V=V1.setCell ⟨g,k*9+8,none⟩ (.int .i64 y):=⟨_,rfl⟩
    rw [←hW2] at HP2
    have HW2:=zH hW2
    have hk2:∀V,Old W2 V->(∀f v,(m.at_ at_ y).cells[f]?=some v->V.cell? ⟨g,k*9+f,none⟩=some v)/\V.cell? ⟨g,k*9+8,none⟩=some (.int .i64 y)/\V.cell? ⟨g,k*9+7,none⟩=some (.int .i64 at_):=fun V hV=>by
     have h:=(HP2.out.on hV).own.cell k hkn
     simp only [if_true] at h
     exact⟨h,h 8 _ rfl,h 7 _ rfl⟩
    have HK2:=zH hk2
    clear hk2 hW2 hp2
    refine wpU 12 rfl ?_;try simp only [Act.put,sA,sZ,sS]
    refine wpU 13 rfl ?_;try simp only [Act.put,sA,sZ,sS]
    refine wpR 14 rfl (fun K hK=>?_)
    go_simp
    rw [←HW2.out]
    refine hK.out _ _ ?_ (fun hHeld=>?_)
    ·(try dsimp only);exact(HK2.out _ (Old.refl _)).2.2
    clear hK K
    try simp only [Act.put,sA,sZ,sS]
    refine wpAnyH_done (by kernel_rfl) ?_ _
    clear HK1 HP1 HV1 c8 z8 HW2 HUv
    go_wp2_with fail
    refine wp_region_held_drew (S:=(fun V=>(∀f v,(m.at_ at_ y).cells[f]?=some v->V.cell? ⟨g,k*9+f,none⟩=some v)/\V.cell? ⟨g,k*9+8,none⟩=some (.int .i64 y))) (by kernel_rfl) ?_ (fun hHeld=>?_)
    ·(try dsimp only);exact⟨(HK2.out _ (Old.drew (Old.refl W2))).1,(HK2.out _ (Old.drew (Old.refl W2))).2.1⟩
    refine wpU 0 rfl ?_;try simp only [Act.put,sA,sZ,sS]
    refine wpU 1 rfl ?_;try simp only [Act.put,sA,sZ,sS]
    refine wpU 2 rfl ?_;try simp only [Act.put,sA,sZ,sS]
    refine wpU 3 rfl ?_;try simp only [Act.put,sA,sZ,sS]
    refine wpU 4 rfl ?_;try simp only [Act.put,sA,sZ,sS]
    refine wpU 5 rfl ?_;try simp only [Act.put,sA,sZ,sS]
    refine wpT 6 (v:=.agg (m.at_ at_ y).cells) rfl (yieldsIf_load_mid (by kernel_rfl) 85 (.tmp 46) rfl g (k*9) rfl (m.at_ at_ y).cells.toList _ (fun _ h j v hv=>h.1 j v (by simpa using hv)) Tryz.underlying85 rfl (by exact Hs9.out)) (by assumption) ?_;try simp only [Act.put,sA,sZ,sS]
    refine wpU 8 rfl ?_;try simp only [Act.put,sA,sZ,sS]
    refine wpR 7 rfl (fun K hK=>?_)
    go_simp
    refine(HFr.out at_ y _).mono ?_
    rintro e V3 ⟨rfl,o3⟩
    have HV3:=zH ((Old.drew (Old.refl W2)).trans o3)
    clear o3
    go_wp2_with fail
    refine hK.out _ _ ?_ (fun hHeld=>?_)
    ·(try dsimp only);exact⟨(HK2.out _ HV3.out).1,(HK2.out _ HV3.out).2.1⟩
    clear hK K
    try simp only [Act.put,sA,sZ,sS]
    refine wpU 9 rfl ?_;try simp only [Act.put,sA,sZ,sS]
    refine wpU 10 rfl ?_;try simp only [Act.put,sA,sZ,sS]
    refine wpU 11 rfl ?_;try simp only [Act.put,sA,sZ,sS]
    refine wpAnyH_done (by kernel_rfl) ?_ _
    have HP3:=zH (show PlS w g n (plK D sz n (k+1)) V3 from(HP2.out.on HV3.out).ext fun i _=>by
     rw [←plK_next D sz n k (m.at_ at_ y) HPl.out]
     by_cases e:i=k
     ·simp only [e,if_true]
     ·simp only [if_neg e])
    clear HK2 HP2 HV3 HPl HEk HEq
    go_wp2_with fail
    go_roundw
    case rel=>exact⟨k+1,by omega,by go_num,by rw [HNext.out],HP3⟩
    case measure=>simp [intOf];omega
   ·obtain rfl:k=n:=by omega
    have HUl:=zH (HU.out wr (by have:=HBd.out k (Nat.le_refl _);omega))
    obtain⟨t,ht⟩:∃t:Nat,t=atTo (frD D) sz k k:=⟨_,rfl⟩
    rw [←ht] at HUl ⊢
    have hx:(up64 t:Nat)=totalAt (frD D) sz k:=by unfold totalAt;rw [←ht]
    rw [hx] at HUl
    have HE:Hid (MtP w wr (some ⟨g,0,none⟩) k (plD D sz k)):=zH fun _=>⟨g,rfl,HP.out.own.ext fun i hi=>by unfold plK;rw [if_pos hi],HP.out.ge⟩
    have HOl:=zH HP.out.old
    obtain⟨r,hr⟩:∃r:Nat,r=totalAt (frD D) sz k:=⟨_,rfl⟩
    rw [←hr] at HUl
    have HR:=zH hr
    clear hx ht hr HU HP
    go_wp2_with fail
    refine HUl.out.mono ?_
    rintro e w3 ⟨rfl,rfl⟩
    go_wp2_with fail
    go_ret2
    exact⟨some ⟨g,0,none⟩,c,by rw [←HR.out];rfl,HCc.out.1,HCc.out.2,HE.out,HOl.out⟩
theorem bU_at(n:Nat)(F:Nat->Int)(j:Nat)(h:j<n):(rowN n (bU F))[j]?=some (.int .u8 (F j)):=rowN_at n (bU F) j h
theorem bU_one(n:Nat)(F:Nat->Int):(rowN n (bU F)).all (·.oneCell')=true:=by simp [rowN,bU,Value.oneCell']
theorem Tryz.zero64:(∀w,(zeroValue 214).run Tryz.prog w = .ok (.agg (rowN 64 (bU fun _=>0))) w)/\(Tryz.prog.info? 214).map (·.size)=some 64:=by
 have hi:(Tryz.prog.info? 214).map (fun i=>(i.zero,i.size))=some (some (.agg (rowN 64 (bU fun _=>0))),64):=by kernel_rfl
 exact zero_of_info hi
theorem size_u8:∀w,(sizeOf 5).run Tryz.prog w = .ok 1 w:=fun w=>by go_simp
theorem sl64_lo(b k:Nat)(hk:k<64)(w:World):(Instr.sliceAt 214 (.pointer (some ⟨b,0,none⟩)) (some (.int .i64 k)) none none).run Tryz.prog w = .ok (.slice (some ⟨b,k,none⟩) (64-k) (64-k)) w:=by
 have h:=slice_arr_lo (P:=Tryz.prog) (t:=214) 64 k (by exact Tryz.underlying214) (by kernel_rfl) (fun w=>by exact size_u8 w) hk b 0 w
 rwa [Nat.zero_add] at h
theorem sl64_all(b:Nat)(w:World):(Instr.sliceAt 214 (.pointer (some ⟨b,0,none⟩)) none none none).run Tryz.prog w = .ok (.slice (some ⟨b,0,none⟩) 64 64) w:=
 slice_arr_all (P:=Tryz.prog) (t:=214) 64 (by exact Tryz.underlying214) (by kernel_rfl) (fun w=>by exact size_u8 w) (by omega) b 0 w
def enK(m:Mt)(k:Nat):Nat->Int:=fun j=>if j<32 then bsI m.s j else if j<32+k*4 then be 4 (m.num ((j-32)/4)) ((j-32)%4) else 0
theorem bsI_end(s:ByteArray)(j:Nat)(h:s.size<=j):bsI s j=0:=by
 unfold bsI
 have h1:s.data[j]?=none:=Array.getElem?_eq_none (by show s.size<=j;exact h)
 rw [Array.getD_eq_getD_getElem?,h1]
 rfl
theorem enK_zero(m:Mt)(h:m.s.size<=32)(j:Nat):patch (fun _=>0) 0 m.s.size (bsI m.s) j=enK m 0 j:=by
 unfold patch enK
 by_cases h1:j<m.s.size
 ·rw [if_pos ⟨by omega,by omega⟩,if_pos (by omega),Nat.sub_zero]
 ·rw [if_neg (by omega)]
  by_cases h2:j<32
  ·rw [if_pos h2,bsI_end _ _ (by omega)]
  ·rw [if_neg h2,if_neg (by omega)]
theorem enK_step(m:Mt)(k:Nat)(j:Nat):patch (enK m k) (32+k*4) 4 (be 4 (m.num k)) j=enK m (k+1) j:=by
 unfold patch enK
 by_cases h:32+k*4<=j/\j<32+k*4+4
 ·rw [if_pos h,if_neg (by omega),if_pos (by omega),show (j-32)/4=k by omega,show (j-32)%4=j-(32+k*4) by omega]
 ·rw [if_neg h]
  by_cases h2:j<32
  ·rw [if_pos h2,if_pos h2]
  ·rw [if_neg h2,if_neg h2]
   by_cases h3:j<32+k*4
   ·rw [if_pos h3,if_pos (by omega)]
   ·rw [if_neg h3,if_neg (by omega)]
structure EnS(w:World)(m:Mt)(F:Nat->Int)(W:World):Prop where
 box:MtB W w.heap.size m
 res:W.heap[w.heap.size+1]?=some (.cells (rowN 64 (bU fun _=>0)) 214 (0,0))
 row:UAt W (w.heap.size+2) 64 F
 old:Old w W
theorem EnS.kept{w:World}{m:Mt}{F G:Nat->Int}{W W':World}(h:EnS w m F W)(k:Kept (fun q=>q≠w.heap.size+2) W W')(hr:UAt W' (w.heap.size+2) 64 G):EnS w m G W':=
 ⟨(k.block _ (by omega)).trans h.box,(k.block _ (by omega)).trans h.res,hr,h.old.after k fun q hq=>by omega⟩
theorem EnS.ext{w:World}{m:Mt}{F G:Nat->Int}{W:World}(h:EnS w m F W)(e:∀j,F j=G j):EnS w m G W:=⟨h.box,h.res,h.row.ext fun j _=>e j,h.old⟩
def Mt.numOk(m:Mt):Prop:=∀k,k<6->0<=m.num k/\m.num k<=9223372036854775807
set_option maxHeartbeats 4000000 in
theorem entry_any(m:Mt)(w:World)(h32:m.s.size<=32)(hnum:m.numOk):Calls Tryz.prog 119 #[.agg m.cells] w fun e w'=>e = .returned (.agg (rowN 64 (bU (entF m))))/\Old w w':=by
 have hz:=Tryz.zero64.1
 have Hs64:=zH Tryz.zero64.2
 have HSU:=zH size_u8
 obtain⟨W0,hW0⟩:∃W,W=((w.alloc (.cells m.cells 85)).alloc (.cells (rowN 64 (bU fun _=>0)) 214)).alloc (.cells (rowN 64 (bU fun _=>0)) 214):=⟨_,rfl⟩
 have hst:EnS w m (fun _=>0) W0:=by
  have o2:=(Old.alloc (w.alloc (.cells m.cells 85)) (.cells (rowN 64 (bU fun _=>0)) 214))
  have o3:=Old.alloc ((w.alloc (.cells m.cells 85)).alloc (.cells (rowN 64 (bU fun _=>0)) 214)) (.cells (rowN 64 (bU fun _=>0)) 214)
  rw [hW0]
  refine⟨((MtB.new w m).old o2).old o3,(o3.block _ (by simp)).trans (heap_alloc2_new w _ _),?_,((Old.alloc w _).trans o2).trans o3⟩
  have h:=uAt_new ((w.alloc (.cells m.cells 85)).alloc (.cells (rowN 64 (bU fun _=>0)) 214)) 64 (fun _=>0) 214
  rw [World.size_alloc,World.size_alloc] at h
  exact h
 have HW0:=zH hW0
 have HS:=zH hst
 have HNum:=zH hnum
 have H32:=zH h32
 obtain⟨W1,hW1⟩:∃W,W=W0.drew.setCells (w.heap.size+2) 0 ((lst (bsI m.s) m.s.size).map (Value.int .u8)):=⟨_,rfl⟩
 have hs1:EnS w m (enK m 0) W1:=by
  rw [hW1]
  have hd:EnS w m (fun _=>0) W0.drew:=⟨hst.box,hst.res,⟨hst.row.1,hst.row.2,hst.row.3⟩,hst.old.drew⟩
  refine EnS.ext (hd.kept (Kept.setCells (X:=fun q=>q≠w.heap.size+2) _ (fun e=>e rfl) _ _) (hd.row.setCells 0 m.s.size (by omega) (bsI m.s))) (enK_zero m h32)
 have HS1:=zH hs1
 have HW1:=zH hW1
 have HTh:Hid (W0.drew.there (w.heap.size+2) 0 m.s.size):=zH (by
  have hd:UAt W0.drew (w.heap.size+2) 64 (fun _=>0):=⟨hst.row.1,hst.row.2,hst.row.3⟩
  exact hd.there 0 m.s.size (by omega))
 have hsl:=fun w'=>sl64_all (w.heap.size+2) w'
 have HSl:=zH hsl
 unfold Mt.cells at hW0
 have HW0':=zH hW0
 have Ha:=zH (show W0.cell? ⟨w.heap.size,0,none⟩=some (.string m.s) from hst.box.at_ 0)
 have Hb:=zH (show W1.cell? ⟨w.heap.size,0,none⟩=some (.string m.s) from hs1.box.at_ 0)
 have HC1:Hid (W1.cell? ⟨w.heap.size,1,none⟩=some (.int .i64 m.n)/\W1.cell? ⟨w.heap.size,2,none⟩=some (.int .i64 m.r)/\W1.cell? ⟨w.heap.size,5,none⟩=some (.int .i64 m.a)/\W1.cell? ⟨w.heap.size,6,none⟩=some (.int .i64 m.b)/\W1.cell? ⟨w.heap.size,7,none⟩=some (.int .i64 m.x)/\W1.cell? ⟨w.heap.size,8,none⟩=some (.int .i64 m.y)):=
  zH ⟨hs1.box.at_ 1,hs1.box.at_ 2,hs1.box.at_ 5,hs1.box.at_ 6,hs1.box.at_ 7,hs1.box.at_ 8⟩
 unfold Mt.cells
 clear hst hs1 hW0 hW1 hnum h32 hsl
 go_enter Tryz.func119,Tryz.ntmps119
 go_wp2_with fail
 rw [←HW0'.out]
 clear HW0 HW0' hz
 have hsl:=HSl.out
 refine wp_region_held_drew (S:=(fun V=>V.cell? ⟨w.heap.size,0,none⟩=some (.string m.s))) (by kernel_rfl) ?_ (fun hHeld=>?_)
 ·(try dsimp only);exact Ha.out
 refine wpU 0 rfl ?_;try simp only [Act.put,sA,sZ,sS]
 refine wpU 1 rfl ?_;try simp only [Act.put,sA,sZ,sS]
 refine wpU 2 rfl ?_;try simp only [Act.put,sA,sZ,sS]
 refine wpR 3 rfl (fun K hK=>?_)
 rw [if_pos (by kernel_rfl)]
 with_reducible refine wp_copy_str (.tmp 6) (.tmp 8) 34 9 rfl 5 Tryz.underlying34 HSU.out m.s (w.heap.size+1+1) 0 64 64 rfl rfl (by have:=H32.out;omega) HTh.out ?_
 rw [←HW1.out]
 refine hK.out _ _ ?_ (fun hHeld=>?_)
 ·(try dsimp only);exact Hb.out
 clear hK K
 try simp only [Act.put,sA,sZ,sS]
 refine wpAnyH_done (by kernel_rfl) ?_ _
 clear hsl HSl HW1 HTh Ha Hb HS
 obtain⟨d1,d2,d5,d6,d7,d8⟩:=HC1.out
 go_wp2_with fail
 clear d1 d2 d5 d6 d7 d8 HC1
 go_loopw [23] (fun iv wr=>∃k:Nat,k<=6/\iv = .int .i64 k/\Hid (EnS w m (enK m k) wr)) (fun i _=>6-(intOf i).toNat)
 case atStart=>exact⟨0,by omega,by go_num,HS1⟩
 case round=>
  clear HS1
  obtain⟨k,hk,rfl,HE⟩:=hrel
  by_cases hkn:k<6
  ·have hix:∀w',(Instr.index 266 (.agg #[.int .i64 m.n,.int .i64 m.r,.int .i64 m.a,.int .i64 m.b,.int .i64 m.x,.int .i64 m.y]) (.int .i64 k)).run Tryz.prog w' = .ok (.int .i64 (m.num k)) w':=fun w'=>
    run_index_ints (P:=Tryz.prog) (t:=266) (e:=3) (n:=6) (q:=.i64) Tryz.underlying266 Tryz.underlying3 (fun w=>by go_simp) m.num k hkn w'
   obtain⟨u,hu⟩:∃u:Nat,u=k*4:=⟨_,rfl⟩
   obtain⟨z,hz⟩:∃z:Nat,z=32+u:=⟨_,rfl⟩
   obtain⟨L,hL⟩:∃L:Nat,L=64-z:=⟨_,rfl⟩
   have hsl:=fun w'=>sl64_lo (w.heap.size+1+1) z (by omega) w'
   rw [←hL,show (z:Int)=32+(k:Int)*4 by omega] at hsl
   have HP:=zH (put_any (w.heap.size+1+1) z 64 L 4 (enK m k) (m.num k) wr (by omega) (by omega) HE.out.row (HNum.out k hkn).1 (HNum.out k hkn).2)
   have b0:(0:Int)<=z:=by omega
   have b1:(4:Int)<=L:=by omega
   have b2:(k:Int)<6:=by omega
   have HN:Hid (∀j,patch (enK m k) z 4 (be 4 (m.num k)) j=enK m (k+1) j):=zH fun j=>by rw [hz,hu];exact enK_step m k j
   have HZ:=zH (And.intro hu (And.intro hz hL))
   clear hu hz hL
   generalize m.num k=v at *
   go_wp2_with fail
   refine HP.out.mono ?_
   rintro e w1 ⟨rfl,hr,hk1⟩
   have HE2:=zH ((HE.out.kept hk1 hr).ext HN.out)
   clear HE HP HN hr hk1
   go_wp2_with fail
   go_roundw
   case rel=>exact⟨k+1,by omega,by go_num,HE2⟩
   case measure=>simp [intOf];omega
  ·obtain rfl:k=6:=by omega
   have c3:wr.cell? ⟨w.heap.size,3,none⟩=some (.int .i64 m.c):=HE.out.box.at_ 3
   have hs1:=HE.out.kept (Kept.setCell (X:=fun q=>q≠w.heap.size+2) wr (a:=⟨w.heap.size+2,56,none⟩) (fun e=>e rfl) (.int .u8 (m.c%256))) (HE.out.row.set 56 (by omega) (m.c%256))
   have c56:=HE.out.row.at_ 56 (by omega)
   have f56:=HE.out.row.fz 56 (by omega)
   have hen:∀j,entF m j=if j=57 then(if m.lp then 1 else 0) else if j=56 then m.c%256 else enK m 6 j:=fun j=>by
    unfold entF enK
    by_cases h1:j<32
    ·rw [if_pos h1,if_neg (by omega),if_neg (by omega),if_pos h1]
    ·rw [if_neg h1]
     by_cases h2:j<56
     ·rw [if_pos h2,if_neg (by omega),if_neg (by omega),if_neg h1,if_pos (by omega)]
     ·rw [if_neg h2]
      by_cases h3:j=56
      ·rw [if_pos h3,if_neg (by omega),if_pos h3]
      ·rw [if_neg h3]
       by_cases h4:j=57
       ·rw [if_pos h4,if_pos h4]
       ·rw [if_neg h4,if_neg h4,if_neg h3,if_neg h1,if_neg (by omega)]
   have HEn:=zH hen
   obtain⟨W2,hW2⟩:∃W,W=wr.setCell ⟨w.heap.size+2,56,none⟩ (.int .u8 (m.c%256)):=⟨_,rfl⟩
   rw [←hW2] at hs1
   have HS2:=zH hs1
   have HW2:=zH hW2
   have c4:W2.cell? ⟨w.heap.size,4,none⟩=some (.bool m.lp):=hs1.box.at_ 4
   have HC4:=zH c4
   have HEND:Hid (∀V F,EnS w m F V->(∀j,F j=entF m j)->(∀j,j<64->V.cell? ⟨w.heap.size+1+1,0+j,none⟩=some (.int .u8 (entF m j)))/\V.heap[w.heap.size+1]?=some (.cells (rowN 64 (bU fun _=>0)) 214 (0,0))/\Old w V):=zH fun V F hV e=>⟨fun j hj=>by
    rw [Nat.zero_add]
    have:=hV.row.at_ j hj
    rw [e j] at this
    exact this,hV.res,hV.old⟩
   clear hs1 hW2 hen HE
   obtain⟨x56,hx56⟩:∃x,x=enK m 6 56:=⟨_,rfl⟩
   rw [←hx56] at c56
   clear hx56
   have HRW:=zH (bU_one 64 (entF m))
   have Hr64:Hid ((rowN 64 (bU (entF m))).size=64):=zH (by rw [rowN_size])
   have Hz64:Hid ((rowN 64 (bU fun _=>0)).size=64):=zH (by rw [rowN_size])
   obtain⟨lp,hlp⟩:∃lp,lp=m.lp:=⟨_,rfl⟩
   rw [←hlp] at c4
   have HLp:=zH hlp
   cases lp
   ·clear hlp
    have he:=HEND.out W2 _ HS2.out (fun j=>by
     rw [HEn.out j,←HLp.out]
     by_cases e:j=57
     ·subst e;rfl
     ·rw [if_neg e])
    have HE1:=zH he.1
    have HE2:=zH he.2.1
    have hrr:=row_ret he.2.1 he.2.2 (by omega) (rowN 64 (bU (entF m)))
    have HRR:=zH hrr
    clear he hrr HEND HEn HS2
    go_wp2_with (first
     | (rw [←HW2.out])
     | (with_reducible refine wpList_load_u8 rfl 64 (entF m) 214 _ rfl (w.heap.size+1+1) 0 rfl _ HE1.out Tryz.underlying214 rfl Hs64.out ?_)
     | (with_reducible refine wpList_store_row rfl 214 _ _ rfl (w.heap.size+1) (rowN 64 (bU (entF m))) rfl rfl 214 _ HE2.out (by rw [Hr64.out];exact Hs64.out) (by rw [Hr64.out,Hz64.out]) HRW.out ?_))
    exact bodyPost_ret (results_cell_row rfl _ _ (w.heap.size+1) 214 (rowN 64 (bU (entF m))) (0,0) _ rfl HRR.out.1 Tryz.underlying214 rfl (by rw [Hr64.out];exact Hs64.out)) rfl ⟨rfl,HRR.out.2⟩
   ·clear hlp
    have hs3:=HS2.out.kept (Kept.setCell (X:=fun q=>q≠w.heap.size+2) W2 (a:=⟨w.heap.size+2,57,none⟩) (fun e=>e rfl) (.int .u8 1)) (HS2.out.row.set 57 (by omega) 1)
    have c57:=HS2.out.row.at_ 57 (by omega)
    have f57:=HS2.out.row.fz 57 (by omega)
    rw [if_neg (by omega)] at c57
    obtain⟨x57,hx57⟩:∃x,x=enK m 6 57:=⟨_,rfl⟩
    rw [←hx57] at c57
    clear hx57
    obtain⟨W3,hW3⟩:∃W,W=W2.setCell ⟨w.heap.size+2,57,none⟩ (.int .u8 1):=⟨_,rfl⟩
    rw [←hW3] at hs3
    have HW3:=zH hW3
    have he:=HEND.out W3 _ hs3 (fun j=>by
     rw [HEn.out j,←HLp.out]
     by_cases e:j=57
     ·subst e;rfl
     ·rw [if_neg e];rw [if_neg e])
    have HE1:=zH he.1
    have HE2:=zH he.2.1
    have hrr:=row_ret he.2.1 he.2.2 (by omega) (rowN 64 (bU (entF m)))
    have HRR:=zH hrr
    clear he hrr HEND HEn HS2 hs3 hW3
    go_wp2_with (first
     | (rw [←HW2.out])
     | (rw [←HW3.out])
     | (with_reducible refine wpList_load_u8 rfl 64 (entF m) 214 _ rfl (w.heap.size+1+1) 0 rfl _ HE1.out Tryz.underlying214 rfl Hs64.out ?_)
     | (with_reducible refine wpList_store_row rfl 214 _ _ rfl (w.heap.size+1) (rowN 64 (bU (entF m))) rfl rfl 214 _ HE2.out (by rw [Hr64.out];exact Hs64.out) (by rw [Hr64.out,Hz64.out]) HRW.out ?_))
    exact bodyPost_ret (results_cell_row rfl _ _ (w.heap.size+1) 214 (rowN 64 (bU (entF m))) (0,0) _ rfl HRR.out.1 Tryz.underlying214 rfl (by rw [Hr64.out];exact Hs64.out)) rfl ⟨rfl,HRR.out.2⟩
theorem u8_elem:∀w,(sizeOf (Tryz.prog.elem 34)).run Tryz.prog w = .ok 1 w:=fun w=>by kernel_rfl
theorem u8_under:Tryz.prog.underlying 34=some (.slice (Tryz.prog.elem 34)):=by kernel_rfl
theorem cut_lo(b o n cap k:Nat)(hk:k<n)(hn:n<=cap)(w:World):(Instr.sliceAt 34 (.slice (some ⟨b,o,none⟩) n cap) (some (.int .i64 k)) none none).run Tryz.prog w = .ok (.slice (some ⟨b,o+k,none⟩) (n-k) (cap-k)) w:=
 slice_lo u8_under u8_elem b o n cap k hk hn k rfl w
theorem cut_hi(b o n cap hi:Nat)(h0:0<cap)(hh:hi<=cap)(w:World):(Instr.sliceAt 34 (.slice (some ⟨b,o,none⟩) n cap) none (some (.int .i64 hi)) none).run Tryz.prog w = .ok (.slice (some ⟨b,o,none⟩) hi cap) w:=by
 rw [run_sliceAt_slice _ _ _ _ _ _ u8_under,run_slice_h _ _ _ _ _ u8_under _ _ (by omega) (by omega),u8_elem]
 simp only [Result.andThen_ok,sliced,Int.toNat_natCast,Option.map,Nat.mul_one]
 rw [if_neg (by omega),add_plain]
 rfl
theorem cut_lh(b o n cap lo hi:Nat)(h1:lo<hi)(h2:hi<=cap)(w:World):(Instr.sliceAt 34 (.slice (some ⟨b,o,none⟩) n cap) (some (.int .i64 lo)) (some (.int .i64 hi)) none).run Tryz.prog w = .ok (.slice (some ⟨b,o+lo,none⟩) (hi-lo) (cap-lo)) w:=by
 rw [run_sliceAt_slice _ _ _ _ _ _ u8_under,run_slice_lh _ _ _ _ _ u8_under _ _ _ _ (by omega) (by omega) (by omega),u8_elem]
 simp only [Result.andThen_ok,sliced,Int.toNat_natCast,Option.map,Nat.mul_one]
 rw [if_neg (by omega),add_plain]
theorem made_bU(n:Nat):madeCells (Value.int .u8 0:Value).cells n=rowN n (bU fun _=>0):=by
 apply Array.ext_getElem?
 intro i
 by_cases hi:i<n
 ·rw [bU_at n _ i hi]
  have h1:(Value.int .u8 0:Value).cells.size=1:=rfl
  simp [madeCells,hi,Value.cells,Nat.mod_one]
 ·rw [Array.getElem?_eq_none (by rw [size_madeCells];omega),Array.getElem?_eq_none (by rw [rowN_size];omega)]
theorem copy_str_eq(w:World)(g o N cap:Nat)(s:ByteArray)(hle:s.size<=N)(ht:w.there g o s.size):
  (Builtin.copy_ #[34,9] 3 #[.slice (some ⟨g,o,none⟩) N cap,.string s]).run Tryz.prog w = .ok (.int .i64 (s.size:Int)) (w.setCells g o ((lst (bsI s) s.size).map (Value.int .u8))):=by
 have h:=run_copy_string (P:=Tryz.prog) w 34 9 3 5 g o N cap s Tryz.underlying34 size_u8 hle (fun j hj=>(ht j hj).1) (fun j hj=>(ht j hj).2)
 rw [str_cells] at h
 exact h
theorem Tryz.info_u8:(Tryz.prog.info? 5).map (fun i=>(i.zero,i.size,i.bytes))=some (some (.int .u8 0),1,1):=by kernel_rfl
theorem make_u8(n:Nat)(hn:n<=1099511627776)(w:World):(Instr.makeSlice 34 (.int .i64 n) (.int .i64 n)).run Tryz.prog w = .ok (.slice (some ⟨w.heap.size,0,none⟩) n n) (w.alloc (.cells (rowN n (bU fun _=>0)) 5)):=by
 obtain⟨i,hi,hz0,hz1,hz2⟩:=info_parts Tryz.info_u8
 rw [run_make w _ _ i _ Tryz.underlying34 hi hz0 .i64 .i64 n n (by omega) (by omega) (by rw [hz2];omega) (by omega),hz1,Int.toNat_natCast,Nat.mul_one,made_bU n]
def hdK(len n sz:Int)(D:Nat->Mt)(k:Nat):Nat->Int:=fun p=>if p<16 then headF len n sz p else if p<16+64*k then entF (D ((p-16)/64)) ((p-16)%64) else 0
theorem hdK_step(len n sz:Int)(D:Nat->Mt)(k j:Nat):patch (hdK len n sz D k) (16+64*k) 64 (entF (D k)) j=hdK len n sz D (k+1) j:=by
 unfold patch hdK
 by_cases h:16+64*k<=j/\j<16+64*k+64
 ·rw [if_pos h,if_neg (by omega),if_pos (by omega),show (j-16)/64=k by omega,show (j-16)%64=j-(16+64*k) by omega]
 ·rw [if_neg h]
  by_cases h1:j<16
  ·rw [if_pos h1,if_pos h1]
  ·rw [if_neg h1,if_neg h1]
   by_cases h2:j<16+64*k
   ·rw [if_pos h2,if_pos (by omega)]
   ·rw [if_neg h2,if_neg (by omega)]
theorem hdK_zero(len n sz:Int)(D:Nat->Mt)(j:Nat):patch (patch (patch (patch (fun _=>0) 0 4 mrk) 4 4 (be 4 len)) 8 2 (be 2 n)) 10 1 (be 1 sz) j=hdK len n sz D 0 j:=by
 unfold patch hdK headF
 by_cases h0:j<4
 ·rw [if_neg (by omega),if_neg (by omega),if_neg (by omega),if_pos (by omega),if_pos (by omega),if_pos h0,Nat.sub_zero]
 ·by_cases h1:j<8
  ·rw [if_neg (by omega),if_neg (by omega),if_pos (by omega),if_pos (by omega),if_neg h0,if_pos h1]
  ·by_cases h2:j<10
   ·rw [if_neg (by omega),if_pos (by omega),if_pos (by omega),if_neg h0,if_neg h1,if_pos h2]
   ·by_cases h3:j<11
    ·rw [if_pos (by omega),if_pos (by omega),if_neg h0,if_neg h1,if_neg h2,if_pos h3]
    ·rw [if_neg (by omega),if_neg (by omega),if_neg (by omega),if_neg (by omega)]
     by_cases h4:j<16
     ·rw [if_pos h4,if_neg h0,if_neg h1,if_neg h2,if_neg h3]
     ·rw [if_neg h4,if_neg (by omega)]
theorem hdK_dir(len n sz:Int)(D:Nat->Mt)(N j:Nat)(h:j<16+64*N):hdK len n sz D N j=dirF len n sz D j:=by
 unfold hdK dirF
 by_cases h1:j<16
 ·rw [if_pos h1,if_pos h1]
 ·rw [if_neg h1,if_neg h1,if_pos h]
theorem hdK_front(len:Int)(n sz:Nat)(D:Nat->Mt)(j:Nat)(h:j<20+64*n):patch (hdK len n sz D n) (16+64*n) 4 (be 4 (sumF (hdK len n sz D n) (16+64*n))) j=frontF len n sz D j:=by
 have e:sumF (hdK len n sz D n) (16+64*n)=sumF (dirF len n sz D) (16+64*n):=sumF_ext fun j hj=>hdK_dir len n sz D n j hj
 unfold frontF
 rw [e]
 unfold patch
 by_cases h1:16+64*n<=j/\j<16+64*n+4
 ·rw [if_pos h1,if_pos h1]
 ·rw [if_neg h1,if_neg h1]
  exact hdK_dir len n sz D n j (by omega)
def calS:ByteArray:=⟨#[67,65,76,49]⟩
theorem calS_at(j:Nat)(h:j<4):bsI calS j=mrk j:=by
 match j,h with
 | 0,_=>rfl
 | 1,_=>rfl
 | 2,_=>rfl
 | 3,_=>rfl
structure FrtS(w:World)(g N:Nat)(F:Nat->Int)(W:World):Prop where
 row:UAt W g N F
 ge:w.heap.size<=g
 old:Old w W
theorem FrtS.put{w:World}{g N:Nat}{F G:Nat->Int}{W W':World}(h:FrtS w g N F W)(r:UAt W' g N G)(k:Kept (fun q=>q≠g) W W'):FrtS w g N G W':=
 ⟨r,h.ge,h.old.after k fun q hq=>by have:=h.ge;omega⟩
theorem FrtS.on{w:World}{g N:Nat}{F:Nat->Int}{W W':World}(h:FrtS w g N F W)(o:Old W W'):FrtS w g N F W':=⟨h.row.old o,h.ge,h.old.trans o⟩
theorem FrtS.ext{w:World}{g N:Nat}{F G:Nat->Int}{W:World}(h:FrtS w g N F W)(e:∀j,F j=G j):FrtS w g N G W:=⟨h.row.ext fun j _=>e j,h.ge,h.old⟩
theorem FrtS.lay{w:World}{g N:Nat}{F:Nat->Int}{W:World}(h:FrtS w g N F W)(o n:Nat)(hn:o+n<=N)(f:Nat->Int):FrtS w g N (patch F o n f) (W.setCells g o ((lst f n).map (Value.int .u8))):=
 h.put (h.row.setCells o n hn f) (Kept.setCells (X:=fun q=>q≠g) W (fun e=>e rfl) _ _)
theorem FrtS.new(w:World)(N:Nat):FrtS w w.heap.size N (fun _=>0) (w.alloc (.cells (rowN N (bU fun _=>0)) 5)):=⟨uAt_new _ _ _ _,Nat.le_refl _,Old.alloc _ _⟩
set_option maxHeartbeats 8000000 in
theorem front_any(sz n:Nat)(len:Int)(p:Option Addr)(cap:Nat)(D:Nat->Mt)(w:World)(hz:sz<=255)(hl0:0<=len)(hl1:len<=9223372036854775807)(hs:MtsS w p n D)(hn:n<=64)(hD:∀i,i<n->(D i).s.size<=32/\(D i).numOk):
  Calls Tryz.prog 158 #[.int .i64 sz,.int .i64 len,.slice p n cap] w fun e w'=>∃g,e = .returned (.slice (some ⟨g,0,none⟩) (20+64*n) (20+64*n))/\FrtS w g (20+64*n) (frontF len n sz D) w':=by
 have HDr:=zH (fun w=>Dir_any n w (by omega))
 have HSU:=zH size_u8
 obtain⟨N,hN⟩:∃N,N=20+64*n:=⟨_,rfl⟩
 rw [←hN] at HDr ⊢
 have hmk:=make_u8 N (by omega) w
 obtain⟨g,hg⟩:∃g,g=w.heap.size:=⟨_,rfl⟩
 obtain⟨W0,hW0⟩:∃W,W=w.alloc (.cells (rowN N (bU fun _=>0)) 5):=⟨_,rfl⟩
 have hf0:FrtS w g N (fun _=>0) W0:=by rw [hW0,hg];exact FrtS.new w N
 rw [←hW0,←hg] at hmk
 obtain⟨W1,hW1⟩:∃W,W=W0.setCells g 0 ((lst (bsI calS) calS.size).map (Value.int .u8)):=⟨_,rfl⟩
 have hf1:FrtS w g N (patch (fun _=>0) 0 4 mrk) W1:=by
  rw [hW1]
  refine(hf0.lay 0 4 (by omega) (bsI calS)).ext fun j=>?_
  unfold patch
  by_cases h:0<=j/\j<0+4
  ·rw [if_pos h,if_pos h];exact calS_at _ (by omega)
  ·rw [if_neg h,if_neg h]
 have HF1:=zH hf1
 have hcp:(Builtin.copy_ #[34,9] 3 #[.slice (some ⟨g,0,none⟩) N N,.string ⟨#[67,65,76,49]⟩]).run Tryz.prog W0 = .ok (.int .i64 4) W1:=by
  rw [hW1]
  exact copy_str_eq W0 g 0 N N calS (by show 4<=N;omega) (hf0.row.there 0 4 (by omega))
 have hc1:=fun w'=>cut_lh g 0 N N 4 8 (by omega) (by omega) w'
 have hc2:=fun w'=>cut_lh g 0 N N 8 10 (by omega) (by omega) w'
 have hc3:=fun w'=>cut_lh g 0 N N 10 11 (by omega) (by omega) w'
 have HDD:=zH hD
 have HS:=zH hs
 have HB:=zH (And.intro hN (And.intro hl0 (And.intro hl1 hz)))
 have hN20:20<=N:=by omega
 clear hf0 hf1 hW0 hW1 hs hg hN hl0 hl1 hz hD
 go_enter Tryz.func158,Tryz.ntmps158
 go_wp2_with fail
 refine(HDr.out _).mono ?_
 rintro e w1 ⟨rfl,rfl⟩
 go_wp2_with fail
 clear hcp hmk HDr
 have HP:=zH (put_any g 4 N (N-4) 4 _ len W1 (by omega) (by omega) HF1.out.row HB.out.2.1 HB.out.2.2.1)
 refine HP.out.mono ?_
 rintro e w2 ⟨rfl,hr,hk⟩
 have HF2:=zH (HF1.out.put hr hk)
 clear HF1 HP hr hk
 go_wp2_with fail
 have HP:=zH (put_any g 8 N (N-8) 2 _ n w2 (by omega) (by omega) HF2.out.row (by omega) (by omega))
 refine HP.out.mono ?_
 rintro e w3 ⟨rfl,hr,hk⟩
 have HF3:=zH (HF2.out.put hr hk)
 clear HF2 HP hr hk
 go_wp2_with fail
 have HP:=zH (put_any g 10 N (N-10) 1 _ sz w3 (by omega) (by omega) HF3.out.row (by omega) (by have:=HB.out.2.2.2;omega))
 refine HP.out.mono ?_
 rintro e w4 ⟨rfl,hr,hk⟩
 have HF4:=zH ((HF3.out.put hr hk).ext (hdK_zero len n sz D))
 clear HF3 HP hr hk hc1 hc2 hc3
 obtain⟨wo,rfl⟩:∃V,V=w4:=⟨_,rfl⟩
 go_wp2_with fail
 have Hs9:Hid ((Tryz.prog.info? 85).map (·.size)=some 9):=zH (by kernel_rfl)
 have Hs64:=zH Tryz.zero64.2
 have Hu1:Hid ((Tryz.prog.info? 5).map (·.size)=some 1):=zH (by kernel_rfl)
 go_loopw [33] (fun iv wr=>∃k:Nat,k<=n/\iv = .int .i64 k/\Hid (FrtS w g N (hdK len n sz D k) wr)) (fun i _=>n-(intOf i).toNat)
 case atStart=>exact⟨0,by omega,by go_num,HF4⟩
 case round=>
  clear HF4
  obtain⟨k,hk,rfl,HF⟩:=hrel
  by_cases hkn:k<n
  ·obtain⟨gd,o,rfl,hgd,hcs⟩:=(HS.out.old HF.out.old).cell (by omega)
   obtain⟨m,hm⟩:∃m,m=D k:=⟨_,rfl⟩
   have hck:=hcs k hkn
   rw [←hm] at hck
   have c0:wr.cell? ⟨gd,o+k*9,none⟩=some (.string m.s):=hck 0 _ rfl
   have c1:wr.cell? ⟨gd,o+k*9+1,none⟩=some (.int .i64 m.n):=hck 1 _ rfl
   have c2:wr.cell? ⟨gd,o+k*9+2,none⟩=some (.int .i64 m.r):=hck 2 _ rfl
   have c3:wr.cell? ⟨gd,o+k*9+3,none⟩=some (.int .i64 m.c):=hck 3 _ rfl
   have c4:wr.cell? ⟨gd,o+k*9+4,none⟩=some (.bool m.lp):=hck 4 _ rfl
   have c5:wr.cell? ⟨gd,o+k*9+5,none⟩=some (.int .i64 m.a):=hck 5 _ rfl
   have c6:wr.cell? ⟨gd,o+k*9+6,none⟩=some (.int .i64 m.b):=hck 6 _ rfl
   have c7:wr.cell? ⟨gd,o+k*9+7,none⟩=some (.int .i64 m.x):=hck 7 _ rfl
   have c8:wr.cell? ⟨gd,o+k*9+8,none⟩=some (.int .i64 m.y):=hck 8 _ rfl
   have hdk:=HDD.out k hkn
   rw [←hm] at hdk
   have HEn:=zH (fun V=>entry_any m V hdk.1 hdk.2)
   have HM:=zH hm
   have HOB:=zH (Old.alloc wr (.cells m.cells 85))
   have hz:=Tryz.zero64.1
   clear hck hcs hgd hm hdk
   unfold Mt.cells at HEn HOB
   go_wp2_with fail
   refine(HEn.out _).mono ?_
   rintro e w2 ⟨rfl,ho2⟩
   have HO2:=zH (HOB.out.trans ho2)
   clear HEn HOB ho2 c0 c1 c2 c3 c4 c5 c6 c7 c8
   obtain⟨b2,hb2⟩:∃b,b=w2.heap.size:=⟨_,rfl⟩
   obtain⟨W3,hW3⟩:∃W,W=w2.alloc (.cells (rowN 64 (bU (entF m))) 214):=⟨_,rfl⟩
   have hrow:UAt W3 b2 64 (entF m):=by rw [hW3,hb2];exact uAt_new _ _ _ _
   have ho3:Old w2 W3:=by rw [hW3];exact Old.alloc _ _
   have HRow:=zH hrow
   have HO3:=zH (HO2.out.trans ho3)
   have HW3:=zH hW3
   have HB2:=zH hb2
   have HOne:=zH (bU_one 64 (entF m))
   have Hr64:Hid ((rowN 64 (bU (entF m))).size=64):=zH (by rw [rowN_size])
   clear hrow ho3 hW3 hb2 HO2
   go_wp2_with (with_reducible refine wpList_store_row rfl 214 _ _ rfl w2.heap.size (rowN 64 (bU (entF m))) rfl rfl 214 _ (heap_alloc_new _ _) (by rw [Hr64.out];exact Hs64.out) (by rw [Hr64.out,rowN_size]) HOne.out ?_;rw [World.setRow_alloc_new,←HW3.out,←HB2.out];clear hz)
   obtain⟨u,hu⟩:∃u:Nat,u=k*64:=⟨_,rfl⟩
   obtain⟨z,hz⟩:∃z:Nat,z=16+u:=⟨_,rfl⟩
   have HZ:=zH (And.intro hu hz)
   have hNN:=HB.out.1
   have hzn:z+64<=N:=by omega
   have e1:IntKind.i64.wrap ((k:Int)*64)=u:=by rw [IntWalk.i64_in _ (by omega)];omega
   have e2:IntKind.i64.wrap (16+(u:Int))=z:=by rw [IntWalk.i64_in _ (by omega)];omega
   have hcl:=fun w'=>cut_lo g 0 N N z (by omega) (by omega) w'
   have hca:=fun w'=>sl64_all b2 w'
   have HTh:Hid (W3.drew.there g z 64):=zH (by
    have hf:UAt W3.drew g N (hdK len n sz D k):=⟨(HF.out.on HO3.out).row.1,(HF.out.on HO3.out).row.2,(HF.out.on HO3.out).row.3⟩
    exact hf.there z 64 hzn)
   have HSrc:Hid (∀j,j<64->W3.drew.cell? ⟨b2,0+j,none⟩=some (.int .u8 (entF m j))):=zH fun j hj=>by rw [Nat.zero_add];exact HRow.out.at_ j hj
   have HFn:=zH (show FrtS w g N (hdK len n sz D (k+1)) (W3.drew.setCells g z ((lst (entF m) 64).map (Value.int .u8))) from by
    have h1:=HF.out.on HO3.out
    have h2:FrtS w g N (hdK len n sz D k) W3.drew:=⟨⟨h1.row.1,h1.row.2,h1.row.3⟩,h1.ge,h1.old.drew⟩
    refine(h2.lay z 64 hzn (entF m)).ext fun j=>?_
    have h16:z=16+64*k:=by have:=HZ.out;omega
    rw [h16,HM.out]
    exact hdK_step len n sz D k j)
   have HMin:Hid (64=Nat.min 64 (N-z)):=zH (by show 64=min 64 (N-z);omega)
   clear hu hz hNN hzn HRow HO3 HF HW3 HB2 HOne Hr64
   refine wp_region_held_drew (S:=(fun _=>True)) (by kernel_rfl) ?_ (fun hHeld=>?_)
   ·exact trivial
   refine wpU 0 rfl ?_;try simp only [Act.put,sA,sZ,sS]
   refine wpU 1 rfl ?_;try simp only [Act.put,sA,sZ,sS]
   refine wpU 2 rfl ?_;try simp only [Act.put,sA,sZ,sS]
   refine wpU 3 rfl ?_;try simp only [Act.put,sA,sZ,sS]
   refine wpU 4 rfl ?_;try simp only [Act.put,sA,sZ,sS]
   refine wpU 5 rfl ?_;try simp only [Act.put,sA,sZ,sS]
   refine wpR 6 rfl (fun K hK=>?_)
   rw [if_pos (by kernel_rfl)]
   with_reducible refine wp_copy_u8 (.tmp 44) (.tmp 45) 34 34 rfl 5 Tryz.underlying34 Hu1.out 64 (entF m) g z (N-z) (N-z) b2 0 64 64 rfl rfl HMin.out HSrc.out HTh.out ?_
   refine hK.out _ _ ?_ (fun hHeld=>?_)
   ·exact trivial
   clear hK K
   try simp only [Act.put,sA,sZ,sS]
   refine wpAnyH_done (by kernel_rfl) ?_ _
   clear e1 e2 hcl hca HTh HSrc
   go_wp2_with fail
   go_roundw
   case rel=>exact⟨k+1,by omega,by go_num,HFn⟩
   case measure=>simp [intOf];omega
  ·obtain rfl:k=n:=by omega
   obtain⟨E,hE⟩:∃E:Nat,E=16+64*k:=⟨_,rfl⟩
   have hNN:=HB.out.1
   have hEN:N=E+4:=by omega
   have e1:wrap64 ((N:Int)-4)=E:=by rw [IntWalk.wrap64_in _ (by omega)];omega
   have hcl:∀w',(Instr.sliceAt 34 (.slice (some ⟨g,0,none⟩) N N) (some (.int .i64 E)) none none).run Tryz.prog w' = .ok (.slice (some ⟨g,E,none⟩) 4 4) w':=fun w'=>by
    have:=cut_lo g 0 N N E (by omega) (by omega) w'
    rwa [Nat.zero_add,show N-E=4 by omega] at this
   have hch:=fun w'=>cut_hi g 0 N N E (by omega) (by omega) w'
   have HSm:=zH (fun V (hV:FrtS w g N (hdK len k sz D k) V)=>CSum_any (some ⟨g,0,none⟩) E N (hdK len k sz D k) V ((hV.row.sl 0 E (by omega)).ext fun j _=>by rw [Nat.zero_add]) (fun j _=>by
    unfold hdK
    split
    ·exact headF_bd ..
    ·split
     ·exact entF_bd ..
     ·omega) (by omega) (by unfold maxLen;omega))
   have hsb:=sumF_bd (F:=hdK len k sz D k) (n:=E) (fun j _=>by
    unfold hdK
    split
    ·exact headF_bd ..
    ·split
     ·exact entF_bd ..
     ·omega)
   have HFin:=zH (fun j (hj:j<N)=>hdK_front len k sz D j (by omega))
   rw [←hE] at HFin
   obtain⟨S,hS⟩:∃S,S=sumF (hdK len k sz D k) E:=⟨_,rfl⟩
   rw [←hS] at hsb HSm HFin
   have e3:IntKind.i64.wrap S=S:=IntWalk.i64_in _ (by omega)
   have HPt:=zH (fun V (hV:FrtS w g N (hdK len k sz D k) V)=>put_any g E N 4 4 (hdK len k sz D k) S V (by omega) (by omega) hV.row hsb.1 (by omega))
   have HZ:=zH (And.intro hE (And.intro hNN hEN))
   have hd0:FrtS w g N (hdK len k sz D k) wr.drew:=⟨⟨HF.out.row.1,HF.out.row.2,HF.out.row.3⟩,HF.out.ge,HF.out.old.drew⟩
   have HF2:=zH hd0
   have hb1:(0:Int)<=E:=by omega
   have hb2:(E:Int)<=N:=by omega
   have hbS:=hsb
   clear hE hNN hEN hS hd0 HF hsb
   go_wp2_with fail
   refine wp_region_held_drew (S:=(fun _=>True)) (by kernel_rfl) ?_ (fun hHeld=>?_)
   ·exact trivial
   refine wpU 0 rfl ?_;try simp only [Act.put,sA,sZ,sS]
   refine wpU 1 rfl ?_;try simp only [Act.put,sA,sZ,sS]
   refine wpU 2 rfl ?_;try simp only [Act.put,sA,sZ,sS]
   refine wpU 3 rfl ?_;try simp only [Act.put,sA,sZ,sS]
   refine wpU 4 rfl ?_;try simp only [Act.put,sA,sZ,sS]
   refine wpU 5 rfl ?_;try simp only [Act.put,sA,sZ,sS]
   refine wpR 6 rfl (fun K hK=>?_)
   go_simp
   refine(HSm.out _ HF2.out).mono ?_
   rintro e V ⟨rfl,o1⟩
   have HF3:=zH (HF2.out.on o1)
   clear HF2 o1 HSm
   go_wp2_with fail
   refine hK.out _ _ ?_ (fun hHeld=>?_)
   ·exact trivial
   clear hK K
   try simp only [Act.put,sA,sZ,sS]
   refine wpU 7 rfl ?_;try simp only [Act.put,sA,sZ,sS]
   refine wpR 8 rfl (fun K hK=>?_)
   go_simp
   refine(HPt.out _ HF3.out).mono ?_
   rintro e V2 ⟨rfl,hr,hk1⟩
   have HF4:=zH (HF3.out.put hr hk1)
   clear HF3 hr hk1 HPt
   go_wp2_with fail
   refine hK.out _ _ ?_ (fun hHeld=>?_)
   ·exact trivial
   clear hK K
   try simp only [Act.put,sA,sZ,sS]
   refine wpAnyH_done (by kernel_rfl) ?_ _
   go_wp2_with fail
   go_ret
   exact⟨g,rfl,⟨HF4.out.row.ext HFin.out,HF4.out.ge,HF4.out.old⟩⟩
theorem copy_u8_eq(w:World)(g o N cap b so M sc n:Nat)(f:Nat->Int)(hn:n=min M N)(hsrc:∀j,j<n->w.cell? ⟨b,so+j,none⟩=some (.int .u8 (f j)))(ht:w.there g o n):
  (Builtin.copy_ #[34,34] 3 #[.slice (some ⟨g,o,none⟩) N cap,.slice (some ⟨b,so,none⟩) M sc]).run Tryz.prog w = .ok (.int .i64 (n:Int)) (w.setCells g o ((lst f n).map (Value.int .u8))):=by
 have hlen:((lst f n).map (Value.int .u8)).length=n:=by rw [List.length_map,lst_len]
 have hrun:=run_copy_cells (P:=Tryz.prog) w 34 34 3 5 g o N cap ⟨b,so,none⟩ M sc ((lst f n).map (Value.int .u8)) Tryz.underlying34 (by kernel_rfl) (by rw [hlen];exact hn)
  (fun j v hv=>by
   have hj:j<n:=by
    rcases Nat.lt_or_ge j n with h | h
    ·exact h
    ·rw [List.getElem?_eq_none (by omega)] at hv;cases hv
   have:((lst f n).map (Value.int .u8))[j]?=some (.int .u8 (f j)):=by simp [lst,hj]
   rw [this] at hv
   cases hv
   rw [add_plain];exact hsrc j hj) (fun j hj=>(ht j (by rw [hlen] at hj;exact hj)).1) (fun j hj=>(ht j (by rw [hlen] at hj;exact hj)).2) (u8_one _)
 rw [hlen] at hrun
 exact hrun
structure RwU(w:World)(p:Option Addr)(n:Nat)(Q:Nat->Option Addr)(M C:Nat->Nat)(B:Nat->Nat->Int):Prop where
 cell:0<n->∃g o,p=some ⟨g,o,none⟩/\g<w.heap.size/\∀i,i<n->w.cell? ⟨g,o+i,none⟩=some (.slice (Q i) (M i) (C i))
 row:∀i,i<n->M i<=C i/\C i<=maxLen/\SlU w (Q i) (M i) (B i)/\Byt (B i) (M i)
theorem RwU.old{w w':World}{p:Option Addr}{n:Nat}{Q:Nat->Option Addr}{M C:Nat->Nat}{B:Nat->Nat->Int}(h:RwU w p n Q M C B)(k:Old w w'):RwU w' p n Q M C B where
 cell:=fun hn=>by
  obtain⟨g,o,h1,h2,h3⟩:=h.cell hn
  exact⟨g,o,h1,Nat.lt_of_lt_of_le h2 k.size,fun i hi=>(k.cell (a:=⟨g,o+i,none⟩) h2).trans (h3 i hi)⟩
 row:=fun i hi=>by
  obtain⟨a,b,c,d⟩:=h.row i hi
  exact⟨a,b,c.old k,d⟩
theorem plD_num{D:Nat->Mt}{sz n:Nat}(hz:sz<=96)(hn:n<=64)(hD:∀i,i<n->(D i).OkR)(i:Nat)(hi:i<n):(plD D sz n i).s.size<=32/\(plD D sz n i).numOk:=by
 have h:=hD i hi
 have hb:=atTo_bd (f:=frD D) (sz:=sz) (n:=n) (fun i hi=>(hD i hi).fr_le.2) hz i (by omega)
 have hf:=firstAt_le (frD D) sz n i
 have hfr:frD D i<=131072:=h.fr_le.2
 have h1:=h.nums
 have h2:=h.n1
 have h3:=h.n2
 have h4:=h.r1
 have h5:=h.r2
 refine⟨h.name.1.2,fun k hk=>?_⟩
 match k,hk with
 | 0,_=>show 0<=(D i).n/\(D i).n<=_;omega
 | 1,_=>show 0<=(D i).r/\(D i).r<=_;omega
 | 2,_=>show 0<=(D i).a/\(D i).a<=_;omega
 | 3,_=>show 0<=(D i).b/\(D i).b<=_;omega
 | 4,_=>show 0<=((atTo (frD D) sz n i:Nat):Int)/\((atTo (frD D) sz n i:Nat):Int)<=_;omega
 | 5,_=>show 0<=((firstAt (frD D) sz n i:Nat):Int)/\((firstAt (frD D) sz n i:Nat):Int)<=_;omega
theorem ly_nums(A Y q sz:Nat)(hA:A<=1099511627776)(hY:Y<=1099511627776)(hq:q<=131072)(hz:sz<=96):∃u P v R:Nat,u=q*4/\P=A+u/\v=q*sz/\R=Y+v /\
  (IntKind.i64.wrap ((q:Int)*4)=u/\IntKind.i64.wrap ((A:Int)+u)=P/\wrap64 ((q:Int)*4)=u/\wrap64 ((A:Int)+u)=P) /\
  (IntKind.i64.wrap ((q:Int)*sz)=v/\IntKind.i64.wrap ((Y:Int)+v)=R/\wrap64 ((q:Int)*sz)=v/\wrap64 ((Y:Int)+v)=R):=by
 have hfs:q*sz<=131072*96:=Nat.mul_le_mul hq hz
 refine⟨_,_,_,_,rfl,rfl,rfl,rfl,⟨?_,?_,?_,?_⟩,?_,?_,?_,?_⟩
 ·rw [IntWalk.i64_in _ (by omega)];omega
 ·rw [IntWalk.i64_in _ (by omega)];omega
 ·rw [IntWalk.wrap64_in _ (by omega)];omega
 ·rw [IntWalk.wrap64_in _ (by omega)];omega
 ·rw [←Int.natCast_mul];exact IntWalk.i64_in _ (by omega)
 ·rw [←Int.natCast_add];exact IntWalk.i64_in _ (by omega)
 ·rw [←Int.natCast_mul];exact IntWalk.wrap64_in _ (by omega)
 ·rw [←Int.natCast_add];exact IntWalk.wrap64_in _ (by omega)
def LayS(w:World)(g N:Nat)(f:Nat->Nat)(sz n:Nat)(B:Nat->Nat->Int)(H:Nat->Int)(k:Nat)(W:World):Prop:=∃F,FrtS w g N F W/\Ld f sz n B H k F
theorem LayS.on{w:World}{g N:Nat}{f:Nat->Nat}{sz n:Nat}{B:Nat->Nat->Int}{H:Nat->Int}{k:Nat}{W W':World}(h:LayS w g N f sz n B H k W)(o:Old W W'):LayS w g N f sz n B H k W':=by
 obtain⟨F,h1,h2⟩:=h
 exact⟨F,h1.on o,h2⟩
theorem LayS.lt{w:World}{g N:Nat}{f:Nat->Nat}{sz n:Nat}{B:Nat->Nat->Int}{H:Nat->Int}{k:Nat}{W:World}(h:LayS w g N f sz n B H k W):g<W.heap.size/\Old w W/\w.heap.size<=g:=by
 obtain⟨F,h1,h2⟩:=h
 exact⟨h1.row.lt,h1.old,h1.ge⟩
set_option maxHeartbeats 8000000 in
theorem BLay_any(sz n N K:Nat)(p:Option Addr)(cap:Nat)(D:Nat->Mt)(fp:Option Addr)(fc:Nat)(Q:Nat->Option Addr)(C:Nat->Nat)(B:Nat->Nat->Int)(w:World)(h24:24<=sz)(hz:sz<=96)(hs:MtsS w p n (plD D sz n))(hn:n<=64)(hD:∀i,i<n->(D i).OkR)
  (hN:atTo (frD D) sz n n<=N) (hN2:N<=1099511627776) (hfr:RwU w fp K Q (fun _=>sz) C B) (hK:K=offTo (frD D) n):
  Calls Tryz.prog 116 #[.int .i64 sz,.int .i64 N,.slice p n cap,.slice fp K fc] w fun e w'=>∃g,e = .returned (.slice (some ⟨g,0,none⟩) N N)/\LayS w g N (frD D) sz n B (frontF N n sz (plD D sz n)) K w':=by
 have hlo:=atTo_lo (frD D) sz n n
 have hmk:=make_u8 N (by omega) w
 obtain⟨g,hg⟩:∃g,g=w.heap.size:=⟨_,rfl⟩
 obtain⟨W0,hW0⟩:∃W,W=w.alloc (.cells (rowN N (bU fun _=>0)) 5):=⟨_,rfl⟩
 have hf0:FrtS w g N (fun _=>0) W0:=by rw [hW0,hg];exact FrtS.new w N
 rw [←hW0,←hg] at hmk
 have HFt:=zH (front_any sz n N p cap (plD D sz n) W0 (by omega) (by omega) (by omega) (hs.old hf0.old) hn (fun i hi=>plD_num hz hn hD i hi))
 have HF0:=zH hf0
 have HS:=zH hs
 have HOk:=zH hD
 have HFr:=zH hfr
 have HB:=zH (And.intro h24 (And.intro hz (And.intro hN (And.intro hN2 (And.intro hK hlo)))))
 have hn64:=hn
 clear hf0 hW0 hs hg hN hN2 hz hD hfr hK hlo h24
 go_enter Tryz.func116,Tryz.ntmps116
 go_wp2_with fail
 refine HFt.out.mono ?_
 rintro e w1 ⟨gf,rfl,hft⟩
 have hNN:20+64*n<=N:=by have:=HB.out.2.2.2.2.2;have:=HB.out.2.2.1;omega
 obtain⟨E,hE⟩:∃E,E=20+64*n:=⟨_,rfl⟩
 rw [←hE] at hft hNN ⊢
 have hfw:=HF0.out.on hft.old
 have hcp:=copy_u8_eq w1 g 0 N N gf 0 E E E (frontF N n sz (plD D sz n)) (by omega) (fun j hj=>by rw [Nat.zero_add];exact hft.row.at_ j hj) (hfw.row.there 0 E (by omega))
 obtain⟨W2,hW2⟩:∃W,W=w1.setCells g 0 ((lst (frontF N n sz (plD D sz n)) E).map (Value.int .u8)):=⟨_,rfl⟩
 rw [←hW2] at hcp
 have HL0:Hid (LayS w g N (frD D) sz n B (frontF N n sz (plD D sz n)) (offTo (frD D) 0) W2):=zH ⟨_,by
  rw [hW2]
  exact hfw.lay 0 E (by omega) _,Ld.zero _ _ _ _ _ _ (fun p hp=>by unfold patch;rw [if_pos ⟨by omega,by omega⟩,Nat.sub_zero]) (fun p hp=>by unfold patch;rw [if_neg (by omega)])⟩
 clear hft hfw hW2 HF0 HFt hmk hE hNN
 go_wp2_with fail
 clear hcp
 obtain⟨H,hH⟩:∃H,H=frontF N n sz (plD D sz n):=⟨_,rfl⟩
 have HH:=zH hH
 rw [←hH] at HL0
 clear hH
 go_loopw [10,25] (fun nv iv wr=>∃k:Nat,k<=n/\iv = .int .i64 k/\nv = .int .i64 (offTo (frD D) k:Nat)/\Hid (LayS w g N (frD D) sz n B H (offTo (frD D) k) wr)) (fun _ i _=>n-(intOf i).toNat)
 case atStart=>exact⟨0,by omega,by go_num,rfl,HL0⟩
 case round=>
  clear HL0
  obtain⟨k,hk,rfl,rfl,HL⟩:=hrel
  by_cases hkn:k<n
  ·obtain⟨gd,o,rfl,hgd,hcs⟩:=(HS.out.old HL.out.lt.2.1).cell (by omega)
   obtain⟨m,hm⟩:∃m,m=plD D sz n k:=⟨_,rfl⟩
   have hck:=hcs k hkn
   rw [←hm] at hck
   have c0:wr.cell? ⟨gd,o+k*9,none⟩=some (.string m.s):=hck 0 _ rfl
   have c1:wr.cell? ⟨gd,o+k*9+1,none⟩=some (.int .i64 m.n):=hck 1 _ rfl
   have c2:wr.cell? ⟨gd,o+k*9+2,none⟩=some (.int .i64 m.r):=hck 2 _ rfl
   have c3:wr.cell? ⟨gd,o+k*9+3,none⟩=some (.int .i64 m.c):=hck 3 _ rfl
   have c4:wr.cell? ⟨gd,o+k*9+4,none⟩=some (.bool m.lp):=hck 4 _ rfl
   have c5:wr.cell? ⟨gd,o+k*9+5,none⟩=some (.int .i64 m.a):=hck 5 _ rfl
   have c6:wr.cell? ⟨gd,o+k*9+6,none⟩=some (.int .i64 m.b):=hck 6 _ rfl
   have c7:wr.cell? ⟨gd,o+k*9+7,none⟩=some (.int .i64 m.x):=hck 7 _ rfl
   have c8:wr.cell? ⟨gd,o+k*9+8,none⟩=some (.int .i64 m.y):=hck 8 _ rfl
   have hokm:m.OkR:=by rw [hm];exact(HOk.out k hkn).at_ _ _
   have hfm:m.fr=frD D k:=by rw [hm];rfl
   have HFs:=zH (fun V=>Frames_any m hokm V)
   rw [hfm] at HFs
   obtain⟨b,hb⟩:∃b,b=wr.heap.size:=⟨_,rfl⟩
   obtain⟨W,hW⟩:∃W,W=wr.alloc (.cells m.cells 85):=⟨_,rfl⟩
   have HBx:=zH (show MtB W b m by rw [hW,hb];exact MtB.new wr m)
   have HLW:=zH (HL.out.on (show Old wr W by rw [hW];exact Old.alloc _ _))
   have HBg:Hid (b≠g):=zH (by have:=HL.out.lt.1;omega)
   have HMx:Hid (m.x=(atTo (frD D) sz n k:Nat)/\m.y=(firstAt (frD D) sz n k:Nat)):=zH (by rw [hm];exact⟨rfl,rfl⟩)
   unfold Mt.cells at HFs hW
   have HW:=zH hW
   have HBb:=zH hb
   have hfrb:frD D k<=131072:=(HOk.out k hkn).fr_le.2
   clear hck hcs hgd hm hokm hfm hb hW HL
   go_wp2_with fail
   rw [←HW.out,←HBb.out]
   refine(HFs.out _).mono ?_
   rintro e w2 ⟨rfl,ho2⟩
   have HL2:=zH (HLW.out.on ho2)
   have HB2:=zH (HBx.out.old ho2)
   clear ho2 HFs HLW HBx HW HBb c0 c1 c2 c3 c4 c5 c6 c7 c8
   obtain⟨wo,rfl⟩:∃V,V=w2:=⟨_,rfl⟩
   obtain⟨fr,hfrr⟩:∃fr,fr=frD D k:=⟨_,rfl⟩
   rw [←hfrr] at hfrb ⊢
   have HFR:=zH hfrr
   clear hfrr
   go_wp2_with fail
   go_loopw [10,31] (fun nv iv wr=>∃q:Nat,q<=fr/\iv = .int .i64 q/\nv = .int .i64 (offTo (frD D) k+q:Nat)/\Hid (LayS w g N (frD D) sz n B H (offTo (frD D) k+q) wr)/\Hid (MtB wr b m)) (fun _ i _=>fr-(intOf i).toNat)
   case atStart=>exact⟨0,by omega,by go_num,rfl,HL2,HB2⟩
   case round=>
    clear HL2 HB2
    obtain⟨q,hq,rfl,rfl,HL,HBx⟩:=hrel
    by_cases hqn:q<fr
    ·have hk1:offTo (frD D) k+fr<=K:=by
      have h1:=offTo_mono (frD D) (show k+1<=n from hkn)
      have h2:offTo (frD D) (k+1)=offTo (frD D) k+frD D k:=rfl
      have h3:=HFR.out
      have h4:=HB.out.2.2.2.2.1
      omega
     have hKb:K<=64*131072:=by
      have h1:=offTo_bd (f:=frD D) (n:=n) (fun i hi=>(HOk.out i hi).fr_le.2) n (Nat.le_refl _)
      have h4:=HB.out.2.2.2.2.1
      omega
     obtain⟨T,hT⟩:∃T,T=offTo (frD D) k+q:=⟨_,rfl⟩
     have hTK:T<K:=by omega
     have hTn:((offTo (frD D) k+(q+1):Nat):Int)=(T:Int)+1:=by omega
     have HTn:=zH hTn
     have hLn:∀V,LayS w g N (frD D) sz n B H (T+1) V->LayS w g N (frD D) sz n B H (offTo (frD D) k+(q+1)) V:=fun V h=>by
      rw [show offTo (frD D) k+(q+1)=T+1 by omega];exact h
     have HLn:=zH hLn
     have hqf:q<frD D k:=by have:=HFR.out;omega
     have HNx:Hid (∀F,Ld (frD D) sz n B H T F->Ld (frD D) sz n B H (T+1) (patch (patch F (atTo (frD D) sz n k+4*q) 4 (be 4 (sumF (B T) sz))) (firstAt (frD D) sz n k+sz*q) sz (B T))):=zH fun F h=>by
      rw [hT] at h ⊢
      exact h.next hkn hqf
     have hpe:=place_end (frD D) sz n hqf
     have hmo:=atTo_mono (frD D) sz n (show k+1<=n from hkn)
     have hfi:=firstAt_le (frD D) sz n k
     have hNa:=HB.out.2.2.1
     have hNb:=HB.out.2.2.2.1
     have hmx:=HMx.out
     obtain⟨A,hA⟩:∃A,A=atTo (frD D) sz n k:=⟨_,rfl⟩
     obtain⟨Y,hY⟩:∃Y,Y=firstAt (frD D) sz n k:=⟨_,rfl⟩
     rw [←hT] at HL ⊢
     rw [←hA,←hY] at HNx hpe hmx
     obtain⟨u,P,v,R,hu,hP,hv,hR,hw1,hw2⟩:=ly_nums A Y q sz (by omega) (by omega) (by omega) HB.out.2.1
     have HW1:=zH hw1
     have HW2:=zH hw2
     clear hw1 hw2
     rw [show A+4*q=P by omega,show Y+sz*q=R by rw [hR,hv,Nat.mul_comm]] at HNx
     rw [show A+4*q=P by omega,show Y+sz*q=R by rw [hR,hv,Nat.mul_comm]] at hpe
     have hPN:P+4<=N:=by omega
     have hRN:R+sz<=N:=by omega
     have hs0:24<=sz:=HB.out.1
     have hFo:=HFr.out.old HL.out.lt.2.1
     obtain⟨gp,op,rfl,hgp,hcp⟩:=hFo.cell (by omega)
     have ct:=hcp T hTK
     obtain⟨r1,r2,r3,r4⟩:=hFo.row T hTK
     obtain⟨gb,ob,hQ,hgb,hcb⟩:=r3 (by omega)
     rw [hQ] at ct
     have HSm:=zH (fun V (hV:Old wr V)=>CSum_any (some ⟨gb,ob,none⟩) sz (C T) (B T) V (by rw [←hQ];exact r3.old hV) r4 r1 r2)
     have HSrc:=zH (fun V (hV:Old wr V) j (hj:j<sz)=>(hV.cell (a:=⟨gb,ob+j,none⟩) hgb).trans (hcb j hj))
     have hsb:=sumF_bd r4
     obtain⟨S,hS⟩:∃S,S=sumF (B T) sz:=⟨_,rfl⟩
     rw [←hS] at hsb HSm HNx
     have HE3:Hid (IntKind.i64.wrap S=S):=zH (IntWalk.i64_in _ (by omega))
     obtain⟨CT,hCT⟩:∃c,c=C T:=⟨_,rfl⟩
     rw [←hCT] at ct HSm
     have d7:wr.cell? ⟨b,7,none⟩=some (.int .i64 (A:Int)):=by rw [←hmx.1];exact HBx.out.at_ 7
     have d8:wr.cell? ⟨b,8,none⟩=some (.int .i64 (Y:Int)):=by rw [←hmx.2];exact HBx.out.at_ 8
     have HD7:=zH d7
     obtain⟨LP,hLP⟩:∃L,L=N-P:=⟨_,rfl⟩
     obtain⟨LR,hLR⟩:∃L,L=N-R:=⟨_,rfl⟩
     have hc1:∀w',(Instr.sliceAt 34 (.slice (some ⟨g,0,none⟩) N N) (some (.int .i64 P)) none none).run Tryz.prog w' = .ok (.slice (some ⟨g,P,none⟩) LP LP) w':=fun w'=>by
      have:=cut_lo g 0 N N P (by omega) (by omega) w'
      rwa [Nat.zero_add,←hLP] at this
     have hc2:=fun w'=>cut_hi g P LP LP 4 (by omega) (by omega) w'
     have HC3:Hid (∀w',(Instr.sliceAt 34 (.slice (some ⟨g,0,none⟩) N N) (some (.int .i64 R)) none none).run Tryz.prog w' = .ok (.slice (some ⟨g,R,none⟩) LR LR) w'):=zH fun w'=>by
      have:=cut_lo g 0 N N R (by omega) (by omega) w'
      rwa [Nat.zero_add,←hLR] at this
     have HPt:=zH (fun V F (hV:FrtS w g N F V)=>put_any g P N LP 4 F S V (by omega) hPN hV.row hsb.1 (by omega))
     have HCp:=zH (fun V (hV:UAt V g N H\/True) (hsrc:∀j,j<sz->V.cell? ⟨gb,ob+j,none⟩=some (.int .u8 (B T j))) (ht:V.there g R sz)=>copy_u8_eq V g R LR LR gb ob sz CT sz (B T) (by omega) hsrc ht)
     have HRN:=zH hRN
     have HGb:Hid (gb≠g/\b≠g):=zH ⟨by
      have h1:=HFr.out.row T hTK
      obtain⟨gb',ob',hQ',hgb',_⟩:=h1.2.2.1 (by omega)
      rw [hQ] at hQ'
      cases hQ'
      have:=HL.out.lt.2.2
      omega,HBg.out⟩
     have i0:(0:Int)<=T:=by omega
     have i1:(T:Int)<K:=by omega
     have i2:(T:Int)+1<=9223372036854775807:=by omega
     have b4:(4:Int)<=LP:=by omega
     have HBl:=zH (lt_of_block HBx.out)
     have hHL:=HL.out
     clear hk1 hKb hT hTn hLn hqf hpe hmo hfi hNa hNb hmx hA hY hu hP hv hR hFo hgp hcp r1 r2 r3 r4 hcb hS hCT hLP hLR hQ hgb hsb hTK hHL hPN hRN hs0
     go_wp2_with fail
     clear ct
     obtain⟨e1,e2,f1,f2⟩:=HW1.out
     have e3:=HE3.out
     have HBd:Hid (MtB wr.drew b m):=zH HBx.out
     refine wp_region_held_drew (S:=(fun V=>V.cell? ⟨b,7,none⟩=some (.int .i64 (A:Int)))) (by kernel_rfl) ?_ (fun hHeld=>?_)
     ·(try dsimp only);exact HD7.out
     refine wpU 0 rfl ?_;try simp only [Act.put,sA,sZ,sS]
     refine wpU 1 rfl ?_;try simp only [Act.put,sA,sZ,sS]
     refine wpU 2 rfl ?_;try simp only [Act.put,sA,sZ,sS]
     refine wpU 3 rfl ?_;try simp only [Act.put,sA,sZ,sS]
     refine wpU 4 rfl ?_;try simp only [Act.put,sA,sZ,sS]
     refine wpU 5 rfl ?_;try simp only [Act.put,sA,sZ,sS]
     refine wpU 6 rfl ?_;try simp only [Act.put,sA,sZ,sS]
     refine wpU 7 rfl ?_;try simp only [Act.put,sA,sZ,sS]
     refine wpU 8 rfl ?_;try simp only [Act.put,sA,sZ,sS]
     refine wpR 9 rfl (fun K hK=>?_)
     go_simp
     refine(HSm.out _ (Old.drew (Old.refl wr))).mono ?_
     rintro e V ⟨rfl,o1⟩
     have HV:=zH ((Old.drew (Old.refl wr)).trans o1)
     clear o1 HSm
     go_wp2_with fail
     obtain⟨F,hF,hld⟩:=HL.out
     have HF:=zH (hF.on HV.out)
     have HLd:=zH hld
     have HBV:=zH (HBx.out.old HV.out)
     clear hF hld
     have HK7:=zH ((HV.out.cell (a:=⟨b,7,none⟩) HBl.out).trans HD7.out)
     refine hK.out _ _ ?_ (fun hHeld=>?_)
     ·(try dsimp only);exact HK7.out
     clear hK K
     try simp only [Act.put,sA,sZ,sS]
     refine wpU 10 rfl ?_;try simp only [Act.put,sA,sZ,sS]
     refine wpR 11 rfl (fun K hK=>?_)
     go_simp
     refine(HPt.out _ F HF.out).mono ?_
     rintro e V2 ⟨rfl,hr,hk1⟩
     have HF2:=zH (HF.out.put hr hk1)
     have HB2:=zH (show MtB V2 b m from(hk1.block b HGb.out.2).trans HBV.out)
     have HS2:Hid (∀j,j<sz->V2.cell? ⟨gb,ob+j,none⟩=some (.int .u8 (B T j))):=zH fun j hj=>(hk1.cell (a:=⟨gb,ob+j,none⟩) HGb.out.1).trans (HSrc.out V HV.out j hj)
     have HK8:=zH ((hk1.cell (a:=⟨b,7,none⟩) HGb.out.2).trans HK7.out)
     have HD8:=zH ((hk1.cell (a:=⟨b,8,none⟩) HGb.out.2).trans ((HV.out.cell (a:=⟨b,8,none⟩) HBl.out).trans d8))
     clear hr hk1
     go_wp2_with fail
     refine hK.out _ _ ?_ (fun hHeld=>?_)
     ·(try dsimp only);exact HK8.out
     clear hK K
     try simp only [Act.put,sA,sZ,sS]
     refine wpAnyH_done (by kernel_rfl) ?_ _
     clear e1 e2 f1 f2 e3 hc1 hc2 b4 d7 d8
     have d8:=HD8.out
     have hc3:=HC3.out
     obtain⟨e1,e2,f1,f2⟩:=HW2.out
     have hcp:=HCp.out V2 (Or.inr trivial) HS2.out (HF2.out.row.there R sz HRN.out)
     obtain⟨W3,hW3⟩:∃W,W=V2.setCells g R ((lst (B T) sz).map (Value.int .u8)):=⟨_,rfl⟩
     rw [←hW3] at hcp
     have HL3:Hid (LayS w g N (frD D) sz n B H (T+1) W3):=zH ⟨_,by rw [hW3];exact HF2.out.lay R sz HRN.out (B T),HNx.out F HLd.out⟩
     have HB3:=zH (show MtB W3 b m by rw [hW3];exact(setCells_heap_other _ _ _ _ _ HGb.out.2).trans HB2.out)
     clear hW3 HNx HL HBx HV HF HLd HBV HF2 HB2 HS2 HSrc HCp HPt HK7 HK8 HD7 HD8 HC3 HW1 HW2
     go_wp2_with fail
     go_roundw
     case rel=>exact⟨q+1,by omega,by go_num,by rw [HTn.out],HLn.out _ HL3.out,HB3⟩
     case measure=>simp [intOf];omega
    ·obtain rfl:q=fr:=by omega
     have HLo:=zH (show LayS w g N (frD D) sz n B H (offTo (frD D) (k+1)) wr by
      have h:offTo (frD D) (k+1)=offTo (frD D) k+q:=by rw [HFR.out];rfl
      rw [h];exact HL.out)
     have HOf:Hid (offTo (frD D) k+q=offTo (frD D) (k+1)):=zH (by rw [HFR.out];rfl)
     obtain⟨T,hT⟩:∃T,T=offTo (frD D) k+q:=⟨_,rfl⟩
     rw [←hT] at HOf ⊢
     clear hT HL HBx
     go_wp2_with fail
     go_roundw
     case rel=>exact⟨k+1,by omega,by go_num,by rw [←HOf.out],HLo⟩
     case measure=>simp [intOf];omega
  ·obtain rfl:k=n:=by omega
   have HE:Hid (LayS w g N (frD D) sz k B (frontF N k sz (plD D sz k)) K wr):=zH (by
    rw [HB.out.2.2.2.2.1,←HH.out]
    exact HL.out)
   obtain⟨T,hT⟩:∃T,T=offTo (frD D) k:=⟨_,rfl⟩
   rw [←hT]
   clear hT HL
   go_wp2_with fail
   go_ret
   exact⟨g,rfl,HE.out⟩
def unlV(b:Nat):Value:=.func (.func 157) #[] #[.pointer (some ⟨b,0,none⟩)]
theorem unl_any(p:Option Addr)(m c:Nat)(b:Nat)(sz:Int)(w:World)(hb:w.cell? ⟨b,0,none⟩=some (.int .i64 sz)):
  Calls Tryz.prog 157 #[.slice p m c,.pointer (some ⟨b,0,none⟩)] w fun e w'=>e = .returned (.bool (decide ((m:Int)≠sz)))/\w=w':=by
 by_cases h:(m:Int)=sz
 ·have d:decide ((m:Int)≠sz)=false:=decide_eq_false (by omega)
  have d2:((m:Int) != sz)=false:=by simp [h]
  rw [d]
  clear h d
  go_enter Tryz.func157,Tryz.ntmps157
  go_wp2_with fail
  go_ret
  exact⟨rfl,rfl⟩
 ·have d:decide ((m:Int)≠sz)=true:=decide_eq_true h
  have d2:((m:Int) != sz)=true:=by simp [h]
  rw [d]
  clear h d
  go_enter Tryz.func157,Tryz.ntmps157
  go_wp2_with fail
  go_ret
  exact⟨rfl,rfl⟩
set_option maxHeartbeats 1000000 in
theorem IndexUnl_any(p:Option Addr)(n cap b:Nat)(sz:Int)(Q:Nat->Option Addr)(M C:Nat->Nat)(B:Nat->Nat->Int)(w:World)(h:RwU w p n Q M C B)(hb:w.cell? ⟨b,0,none⟩=some (.int .i64 sz))(hn:n<=9223372036854775807):
  Calls Tryz.prog 207 #[.slice p n cap,unlV b] w fun e w'=>(∃i:Int,e = .returned (.int .i64 i)/\((0<=i/\∃j,j<n/\(M j:Int)≠sz)\/(i = -1/\∀j,j<n->(M j:Int)=sz)))/\w=w':=by
 have HB:=zH (fun p m c=>unl_any p m c b sz w hb)
 have H:=zH h
 clear h hb
 unfold unlV
 go_enter Tryz.func207,Tryz.ntmps207
 go_wp2_with fail
 go_loop [8] (fun i=>∃k:Nat,k<=n/\i = .int .i64 k/\Hid (∀j,j<k->(M j:Int)=sz)) (fun i=>n-(intOf i).toNat)
 case atStart=>exact⟨0,by omega,rfl,zH fun j hj=>by omega⟩
 case round=>
  obtain⟨k,hk,rfl,HJ⟩:=hrel
  by_cases hkn:k<n
  ·obtain⟨g,o,rfl,hg,hc⟩:=H.out.cell (by omega)
   have ck:=hc k hkn
   obtain⟨q,hq⟩:∃q,q=Q k:=⟨_,rfl⟩
   obtain⟨c,hc'⟩:∃c,c=C k:=⟨_,rfl⟩
   obtain⟨m,hm⟩:∃m,m=M k:=⟨_,rfl⟩
   rw [←hq,←hc',←hm] at ck
   have HM:=zH hm
   have i0:(0:Int)<=k:=by omega
   have i1:(k:Int)<n:=by omega
   clear hc hg hq hc' hm
   go_wp2_with fail
   refine(HB.out _ _ _).mono ?_
   rintro e w1 ⟨rfl,rfl⟩
   by_cases hb:(m:Int)=sz
   ·have HJ2:=zH (show ∀j,j<k+1->(M j:Int)=sz from fun j hj=>by
     by_cases e:j=k
     ·subst e;rw [←HM.out];exact hb
     ·exact HJ.out j (by omega))
    have hd:decide ((m:Int)≠sz)=false:=decide_eq_false (by omega)
    rw [hd]
    clear HJ hb ck hd
    go_wp2_with fail
    go_round
    case rel=>exact⟨k+1,by omega,by go_num,HJ2⟩
    case measure=>simp [intOf];omega
   ·have HF:=zH (show ∃j,j<n/\(M j:Int)≠sz from⟨k,hkn,by rw [←HM.out];exact hb⟩)
    have hd:decide ((m:Int)≠sz)=true:=decide_eq_true hb
    rw [hd]
    clear HJ hb ck hd
    go_wp2_with fail
    go_ret
    exact⟨⟨k,rfl,.inl ⟨by omega,HF.out⟩⟩,rfl⟩
  ·have HF:=zH (show ∀j,j<n->(M j:Int)=sz from fun j hj=>HJ.out j (by omega))
   clear HJ
   go_wp2_with fail
   go_ret
   exact⟨⟨-1,rfl,.inr ⟨rfl,HF.out⟩⟩,rfl⟩
theorem ContainsUnl_any(p:Option Addr)(n cap b:Nat)(sz:Int)(Q:Nat->Option Addr)(M C:Nat->Nat)(B:Nat->Nat->Int)(w:World)(h:RwU w p n Q M C B)(hb:w.cell? ⟨b,0,none⟩=some (.int .i64 sz))(hn:n<=9223372036854775807):
  Calls Tryz.prog 156 #[.slice p n cap,unlV b] w fun e w'=>(∃r,e = .returned (.bool r)/\(r=true↔∃j,j<n/\(M j:Int)≠sz))/\w=w':=by
 have HI:=zH (IndexUnl_any p n cap b sz Q M C B w h hb hn)
 clear h hb
 unfold unlV at *
 go_enter Tryz.func156,Tryz.ntmps156
 go_wp2_with fail
 refine HI.out.mono ?_
 rintro e w1 ⟨⟨i,rfl,hi⟩,rfl⟩
 have H:=zH hi
 rcases hi with ⟨hi,hf⟩ | ⟨hi,hf⟩
 ·have d:decide (0<=i)=true:=decide_eq_true hi
  have Hhi:=zH hi
  clear hi hf HI
  go_wp2_with fail
  go_ret
  have hi:=Hhi.out
  refine⟨⟨true,rfl,?_⟩,rfl⟩
  rcases H.out with h | h
  ·exact⟨fun _=>h.2,fun _=>rfl⟩
  ·omega
 ·subst hi
  clear hf HI
  go_wp2_with fail
  go_ret
  refine⟨⟨false,rfl,?_⟩,rfl⟩
  rcases H.out with h | h
  ·omega
  ·exact⟨fun e=>(by cases e),fun⟨j,h1,h2⟩=>absurd (h.2 j h1) h2⟩
def hvP(sz:Int)(D:Nat->Mt)(n K:Nat)(M:Nat->Nat):Prop:=K=offTo (frD D) n/\∀j,j<K->(M j:Int)=sz
set_option maxHeartbeats 4000000 in
theorem haveFrames_any(sz:Int)(p:Option Addr)(n cap:Nat)(D:Nat->Mt)(fp:Option Addr)(K fc:Nat)(Q:Nat->Option Addr)(M C:Nat->Nat)(B:Nat->Nat->Int)(w:World)(hs:MtsS w p n D)(hn:n<=64)(hD:∀i,i<n->(D i).OkR)(hfr:RwU w fp K Q M C B)(hK:K<=1099511627776):
  Calls Tryz.prog 115 #[.int .i64 sz,.slice p n cap,.slice fp K fc] w fun e w'=>∃r,e = .returned (.bool r)/\(r=true↔hvP sz D n K M)/\Old w w':=by
 obtain⟨b,hb⟩:∃b,b=w.heap.size:=⟨_,rfl⟩
 obtain⟨W0,hW0⟩:∃W,W=w.alloc (.cells #[.int .i64 sz] 3):=⟨_,rfl⟩
 have ho0:Old w W0:=by rw [hW0];exact Old.alloc _ _
 have hc0:W0.cell? ⟨b,0,none⟩=some (.int .i64 sz):=by rw [hW0,hb];exact(cell_of_row _ _ _ _ _ _ (heap_alloc_new _ _)).trans rfl
 have hbl:b<W0.heap.size:=by rw [hW0,hb];simp
 have HC:=zH (fun V (hV:Old W0 V)=>ContainsUnl_any fp K fc b sz Q M C B V (hfr.old (ho0.trans hV)) ((hV.cell (a:=⟨b,0,none⟩) hbl).trans hc0) (by omega))
 have HS:=zH (hs.old ho0)
 have HOk:=zH hD
 have HO0:=zH (Old.refl W0)
 have HOw:=zH ho0
 have HW:=zH hW0
 have HB:=zH hb
 have hbd:=offTo_bd (f:=frD D) (n:=n) (fun i hi=>(hD i hi).fr_le.2)
 have HBd:=zH hbd
 unfold unlV at HC
 clear ho0 hc0 hbl hs hD hW0 hb hfr hbd
 go_enter Tryz.func115,Tryz.ntmps115
 go_upto_region 2 with (fail)
 rw [←HW.out,←HB.out]
 go_wp2_with fail
 go_loopw [7,12] (fun cv iv wr=>∃k:Nat,k<=n/\iv = .int .i64 k/\cv = .int .i64 (offTo (frD D) k:Nat)/\Hid (Old W0 wr)) (fun _ i _=>n-(intOf i).toNat)
 case atStart=>exact⟨0,by omega,by go_num,rfl,HO0⟩
 case round=>
  clear HO0
  obtain⟨k,hk,rfl,rfl,HO⟩:=hrel
  by_cases hkn:k<n
  ·obtain⟨gd,o,rfl,hgd,hcs⟩:=(HS.out.old HO.out).cell (by omega)
   obtain⟨m,hm⟩:∃m,m=D k:=⟨_,rfl⟩
   have hck:=hcs k hkn
   rw [←hm] at hck
   have c0:wr.cell? ⟨gd,o+k*9,none⟩=some (.string m.s):=hck 0 _ rfl
   have c1:wr.cell? ⟨gd,o+k*9+1,none⟩=some (.int .i64 m.n):=hck 1 _ rfl
   have c2:wr.cell? ⟨gd,o+k*9+2,none⟩=some (.int .i64 m.r):=hck 2 _ rfl
   have c3:wr.cell? ⟨gd,o+k*9+3,none⟩=some (.int .i64 m.c):=hck 3 _ rfl
   have c4:wr.cell? ⟨gd,o+k*9+4,none⟩=some (.bool m.lp):=hck 4 _ rfl
   have c5:wr.cell? ⟨gd,o+k*9+5,none⟩=some (.int .i64 m.a):=hck 5 _ rfl
   have c6:wr.cell? ⟨gd,o+k*9+6,none⟩=some (.int .i64 m.b):=hck 6 _ rfl
   have c7:wr.cell? ⟨gd,o+k*9+7,none⟩=some (.int .i64 m.x):=hck 7 _ rfl
   have c8:wr.cell? ⟨gd,o+k*9+8,none⟩=some (.int .i64 m.y):=hck 8 _ rfl
   have hokm:m.OkR:=by rw [hm];exact HOk.out k hkn
   have hfm:m.fr=frD D k:=by rw [hm];rfl
   have HFs:=zH (fun V=>Frames_any m hokm V)
   rw [hfm] at HFs
   have HOa:=zH (HO.out.alloc' (.cells m.cells 85))
   have hb1:=HBd.out k hk
   have hb2:frD D k<=131072:=(HOk.out k hkn).fr_le.2
   have hnx:((offTo (frD D) (k+1):Nat):Int)=(offTo (frD D) k:Nat)+(frD D k:Nat):=by
    show ((offTo (frD D) k+frD D k:Nat):Int)=_
    omega
   have HNx:=zH hnx
   obtain⟨T,hT⟩:∃T,T=offTo (frD D) k:=⟨_,rfl⟩
   obtain⟨fr,hfr⟩:∃fr,fr=frD D k:=⟨_,rfl⟩
   rw [←hT,←hfr] at HNx
   rw [←hT] at hb1 ⊢
   rw [←hfr] at hb2 HFs
   have hTb:T+fr<=9223372036854775807:=by omega
   unfold Mt.cells at HFs HOa
   clear hck hcs hgd hm hokm hfm hnx hT hfr hb1 hb2
   go_wp2_with fail
   refine(HFs.out _).mono ?_
   rintro e w2 ⟨rfl,ho2⟩
   have HO2:=zH (HOa.out.trans ho2)
   clear ho2 HFs HOa HO c0 c1 c2 c3 c4 c5 c6 c7 c8
   go_wp2_with fail
   go_roundw
   case rel=>exact⟨k+1,by omega,by go_num,by rw [HNx.out],HO2⟩
   case measure=>simp [intOf];omega
  ·obtain rfl:k=n:=by omega
   obtain⟨T,hT⟩:∃T,T=offTo (frD D) k:=⟨_,rfl⟩
   have HT:=zH hT
   rw [←hT]
   clear hT
   by_cases hKT:K=T
   ·have d:((K:Int) == T)=true:=by simp [hKT]
    have HK:=zH hKT
    clear hKT
    go_wp2_with fail
    refine(HC.out _ HO.out).mono ?_
    rintro e w2 ⟨⟨r,rfl,hr⟩,rfl⟩
    have HR:=zH hr
    have HOf:=zH (HOw.out.trans HO.out)
    clear hr HC HO
    cases r
    ·go_wp2_with fail
     go_ret
     refine⟨true,rfl,⟨fun _=>⟨by rw [HK.out,HT.out],fun j hj=>?_⟩,fun _=>rfl⟩,HOf.out⟩
     by_cases e:(M j:Int)=sz
     ·exact e
     ·have:=HR.out.2 ⟨j,hj,e⟩
      simp at this
    ·go_wp2_with fail
     go_ret
     refine⟨false,rfl,⟨fun h=>(by cases h),fun h=>?_⟩,HOf.out⟩
     obtain⟨j,h1,h2⟩:=HR.out.1 (by simp)
     exact absurd (h.2 j h1) h2
   ·have d:((K:Int) == T)=false:=by simp;omega
    have HK:=zH hKT
    have HOf:=zH (HOw.out.trans HO.out)
    clear hKT HC HO
    go_wp2_with fail
    go_ret
    exact⟨false,rfl,⟨fun h=>(by cases h),fun h=>absurd (h.1.trans HT.out.symm) HK.out⟩,HOf.out⟩
theorem dirP_ok{D:Nat->Mt}{n:Nat}(h:dirP D n):∀i,i<n->(D i).OkR:=fun i hi=>(Mt.ok_iff _).1 (h i hi).1
open Classical in
noncomputable def bldI(sz:Int)(D:Nat->Mt)(n K:Nat)(M:Nat->Nat):Int:=
 if ¬(24<=sz/\sz<=96) then 12 else if ¬dirP D n then 4 else if ¬hvP sz D n K M then 1 else if 4194304<totalAt (frD D) sz.toNat n then 3 else 0
def BldR(w:World)(sz n K:Nat)(D:Nat->Mt)(B:Nat->Nat->Int)(er:Int)(e:Ending)(w':World):Prop:=
 (er≠0/\e = .returned (.tuple #[.slice none 0 0,.int .i64 er])/\Old w w') \/
 (er=0/\∃g,e = .returned (.tuple #[.slice (some ⟨g,0,none⟩) (totalAt (frD D) sz n) (totalAt (frD D) sz n),.int .i64 0])/\LayS w g (totalAt (frD D) sz n) (frD D) sz n B (frontF (totalAt (frD D) sz n) n sz (plD D sz n)) K w')
set_option maxHeartbeats 4000000 in
theorem Build_any(sz:Int)(p:Option Addr)(n cap:Nat)(D:Nat->Mt)(fp:Option Addr)(K fc:Nat)(Q:Nat->Option Addr)(M C:Nat->Nat)(B:Nat->Nat->Int)(w:World)(hs:MtsS w p n D)(hn:n<=64)(hfr:RwU w fp K Q M C B)(hK:K<=1099511627776):
  Calls Tryz.prog 64 #[.int .i64 sz,.slice p n cap,.slice fp K fc] w (BldR w sz.toNat n K D B (bldI sz D n K M)):=by
 have HZ:=zH (fun w=>isSize_any sz w)
 by_cases h1:¬(24<=sz/\sz<=96)
 ·have e0:bldI sz D n K M=12:=by unfold bldI;rw [if_pos h1]
  rw [e0,show decide (24<=sz/\sz<=96)=false from decide_eq_false h1] at *
  have HO:=zH (Old.refl w)
  clear hs hfr hK e0 h1
  go_enter Tryz.func64,Tryz.ntmps64
  go_wp2_with fail
  refine(HZ.out _).mono ?_
  rintro e w1 ⟨rfl,rfl⟩
  go_wp2_with fail
  go_ret2
  exact .inl ⟨by omega,rfl,HO.out⟩
 have h1:=Classical.not_not.1 h1
 rw [show decide (24<=sz/\sz<=96)=true from decide_eq_true h1] at HZ
 obtain⟨z,rfl⟩:=Int.eq_ofNat_of_zero_le (show 0<=sz by omega)
 rw [Int.toNat_natCast]
 have HDi:=zH (isDir_any p n cap D w hs (by omega))
 by_cases h2:¬dirP D n
 ·have e0:bldI z D n K M=4:=by unfold bldI;rw [if_neg (fun h=>h h1),if_pos h2]
  rw [e0]
  have H2:=zH h2
  clear hs hfr hK e0 h1 h2
  go_enter Tryz.func64,Tryz.ntmps64
  go_wp2_with fail
  refine(HZ.out _).mono ?_
  rintro e w1 ⟨rfl,rfl⟩
  go_wp2_with fail
  refine HDi.out.mono ?_
  rintro e w2 ⟨b,rfl,hb,ho⟩
  obtain rfl:b=false:=by
   cases b
   ·rfl
   ·exact absurd (hb.1 rfl) H2.out
  have HO:=zH ho
  clear hb ho
  go_wp2_with fail
  go_ret2
  exact .inl ⟨by omega,rfl,HO.out⟩
 have h2:=Classical.not_not.1 h2
 have HHv:=zH (fun V (hV:Old w V)=>haveFrames_any z p n cap D fp K fc Q M C B V (hs.old hV) hn (dirP_ok h2) (hfr.old hV) hK)
 by_cases h3:¬hvP z D n K M
 ·have e0:bldI z D n K M=1:=by unfold bldI;rw [if_neg (fun h=>h h1),if_neg (fun h=>h h2),if_pos h3]
  rw [e0]
  have H2:=zH h2
  have H3:=zH h3
  clear hs hfr hK e0 h1 h2 h3
  go_enter Tryz.func64,Tryz.ntmps64
  go_wp2_with fail
  refine(HZ.out _).mono ?_
  rintro e w1 ⟨rfl,rfl⟩
  go_wp2_with fail
  refine HDi.out.mono ?_
  rintro e w2 ⟨b,rfl,hb,ho⟩
  obtain rfl:b=true:=hb.2 H2.out
  have HO:=zH ho
  clear hb ho
  go_wp2_with fail
  refine(HHv.out _ HO.out).mono ?_
  rintro e w3 ⟨b,rfl,hb,ho⟩
  obtain rfl:b=false:=by
   cases b
   ·rfl
   ·exact absurd (hb.1 rfl) H3.out
  have HO2:=zH (HO.out.trans ho)
  clear hb ho HO
  go_wp2_with fail
  go_ret2
  exact .inl ⟨by omega,rfl,HO2.out⟩
 have h3:=Classical.not_not.1 h3
 have HPl:=zH (fun V (hV:Old w V)=>placed_any z p n cap D V (by omega) (hs.old hV) hn (dirP_ok h2))
 obtain⟨N,hN⟩:∃N,N=totalAt (frD D) z n:=⟨_,rfl⟩
 have hNb:=hN
 have hbt:=atTo_bd (f:=frD D) (sz:=z) (n:=n) (fun i hi=>(dirP_ok h2 i hi).fr_le.2) (by omega) n (Nat.le_refl _)
 have htl:=total_le (frD D) z n
 have hNle:N<=1099511627776:=by omega
 by_cases h4:4194304<N
 ·have e0:bldI z D n K M=3:=by unfold bldI;rw [if_neg (fun h=>h h1),if_neg (fun h=>h h2),if_neg (fun h=>h h3),Int.toNat_natCast,←hN,if_pos h4]
  rw [e0]
  rw [←hN] at HPl
  have H2:=zH h2
  have H3:=zH h3
  have i4:(4194304:Int)<N:=by omega
  clear hs hfr hK e0 h1 h2 h3 h4 hN hNb hbt htl
  go_enter Tryz.func64,Tryz.ntmps64
  go_wp2_with fail
  refine(HZ.out _).mono ?_
  rintro e w1 ⟨rfl,rfl⟩
  go_wp2_with fail
  refine HDi.out.mono ?_
  rintro e w2 ⟨b,rfl,hb,ho⟩
  obtain rfl:b=true:=hb.2 H2.out
  have HO:=zH ho
  clear hb ho
  go_wp2_with fail
  refine(HHv.out _ HO.out).mono ?_
  rintro e w3 ⟨b,rfl,hb,ho⟩
  obtain rfl:b=true:=hb.2 H3.out
  have HO2:=zH (HO.out.trans ho)
  clear hb ho HO
  go_wp2_with fail
  refine(HPl.out _ HO2.out).mono ?_
  rintro e w4 ⟨q,c,rfl,hc1,hc2,hm,ho⟩
  have HO3:=zH (HO2.out.trans ho)
  clear hc1 hc2 hm ho HO2
  go_wp2_with fail
  go_ret2
  exact .inl ⟨by omega,rfl,HO3.out⟩
 ·have e0:bldI z D n K M=0:=by unfold bldI;rw [if_neg (fun h=>h h1),if_neg (fun h=>h h2),if_neg (fun h=>h h3),Int.toNat_natCast,←hN,if_neg h4]
  rw [e0]
  have hM:∀j,j<K->M j=z:=fun j hj=>by have:=h3.2 j hj;omega
  have hfz:RwU w fp K Q (fun _=>z) C B:=⟨fun h0=>by
   obtain⟨g,o,a1,a2,a3⟩:=hfr.cell h0
   exact⟨g,o,a1,a2,fun i hi=>by rw [a3 i hi,hM i hi]⟩,fun i hi=>by
   have:=hfr.row i hi
   rw [hM i hi] at this
   exact this⟩
  have HLy:=zH (fun V (hV:Old w V) q c (hq:MtsS V q n (plD D z n))=>BLay_any z n N K q c D fp fc Q C B V (by omega) (by omega) hq hn (dirP_ok h2) (by omega) hNle (hfz.old hV) h3.1)
  rw [←hN] at HPl
  have HSt:Hid (∀i,i<n->(plD D z n i).s.size<=9223372036854775807):=zH fun i hi=>by
   have:=(plD_num (sz:=z) (by omega) hn (dirP_ok h2) i hi).1
   omega
  have H2:=zH h2
  have H3:=zH h3
  have HN:=zH hN
  have i4:(N:Int)<=4194304:=by omega
  clear hs hfr hK e0 h1 h2 h3 h4 hN hNb hbt htl hM hfz
  go_enter Tryz.func64,Tryz.ntmps64
  go_wp2_with fail
  refine(HZ.out _).mono ?_
  rintro e w1 ⟨rfl,rfl⟩
  go_wp2_with fail
  refine HDi.out.mono ?_
  rintro e w2 ⟨b,rfl,hb,ho⟩
  obtain rfl:b=true:=hb.2 H2.out
  have HO:=zH ho
  clear hb ho
  go_wp2_with fail
  refine(HHv.out _ HO.out).mono ?_
  rintro e w3 ⟨b,rfl,hb,ho⟩
  obtain rfl:b=true:=hb.2 H3.out
  have HO2:=zH (HO.out.trans ho)
  clear hb ho HO
  go_wp2_with fail
  refine(HPl.out _ HO2.out).mono ?_
  rintro e w4 ⟨q,c,rfl,hc1,hc2,hm,ho⟩
  have HO3:=zH (HO2.out.trans ho)
  have HMs:Hid (MtsS w4 q n (plD D z n)):=zH ⟨fun h0=>by
   obtain⟨g,hq,hm1,_⟩:=hm h0
   rw [hq]
   exact(hm1.sl HSt.out).cell h0,HSt.out⟩
  clear hc1 hc2 hm ho HO2
  go_wp2_with fail
  refine(HLy.out _ HO3.out q c HMs.out).mono ?_
  rintro e w5 ⟨g,rfl,hl⟩
  have HL:Hid (LayS w g N (frD D) z n B (frontF N n z (plD D z n)) K w5):=zH (by
   obtain⟨F,h1,h2⟩:=hl
   exact⟨F,⟨h1.row,Nat.le_trans HO3.out.size h1.ge,HO3.out.trans h1.old⟩,h2⟩)
  clear hl
  go_wp2_with fail
  go_ret2
  refine .inr ⟨rfl,g,?_,?_⟩
  ·rw [←HN.out];rfl
  ·rw [←HN.out];exact HL.out
structure TrS(s t:ByteArray):Prop where
 le:t.size<=s.size
 same:∀j,j<t.size->bsI t j=bsI s j
 gone:∀j,t.size<=j->bsI s j=0
def strLen:Value->Nat
 | .string t=>t.size
 | _=>0
theorem TrS.next{s t:ByteArray}(h:TrS s t)(k:Nat)(hk:t.size=k+1)(h0:bsI t k=0):TrS s (t.extract 0 k)/\(t.extract 0 k).size=k:=by
 have hsz:(t.extract 0 k).size=k:=by simp;omega
 refine⟨⟨by rw [hsz];have:=h.le;omega,fun j hj=>?_,fun j hj=>?_⟩,hsz⟩
 ·rw [hsz] at hj
  rw [←h.same j (by omega),←bsI_index (t.extract 0 k) j (by rw [hsz];exact hj),←bsI_index t j (by omega)]
  rw [ByteArray.getElem_extract]
  simp
 ·rw [hsz] at hj
  by_cases e:j=k
  ·subst e;rw [←h.same j (by omega)];exact h0
  ·exact h.gone j (by omega)
theorem str_index(t:ByteArray)(k:Nat)(hk:k<t.size)(w:World):(Instr.index 9 (.string t) (.int .i64 k)).run Tryz.prog w = .ok (.int .u8 (bsI t k)) w:=by
 rw [run_index_string w _ _ _ _ Tryz.underlying9,dif_pos ⟨by omega,by omega⟩]
 simp only [Int.toNat_natCast]
 rw [bsI_index t k hk]
set_option maxHeartbeats 1000000 in
theorem trimByte_any(s:ByteArray)(w:World)(hs:s.size<=9223372036854775807):
  Calls Tryz.prog 209 #[.string s,.int .u8 0] w fun e w'=>∃t,e = .returned (.string t)/\TrS s t/\(0<t.size->bsI t (t.size-1)≠0)/\w=w':=by
 have H0:=zH (show TrS s s from⟨Nat.le_refl _,fun _ _=>rfl,fun j hj=>bsI_end s j hj⟩)
 have HS:=zH hs
 clear hs
 go_enter Tryz.func209,Tryz.ntmps209
 go_wp2_with fail
 go_loop [0] (fun v=>∃t:ByteArray,v = .string t/\Hid (TrS s t)) (fun v=>strLen v)
 case atStart=>exact⟨s,rfl,H0⟩
 case round=>
  clear H0
  obtain⟨t,rfl,HT⟩:=hrel
  have hsz:=HT.out.le
  have hss:=HS.out
  by_cases h0:t.size=0
  ·have HE:=zH h0
   have d:decide (0<(t.size:Int))=false:=decide_eq_false (by omega)
   have d':decide (0<t.size)=false:=decide_eq_false (by omega)
   clear h0 hsz hss
   go_wp2_with fail
   go_ret
   exact⟨t,rfl,HT.out,fun h=>by have:=HE.out;omega,rfl⟩
  ·obtain⟨k,hk⟩:∃k,t.size=k+1:=⟨t.size-1,by omega⟩
   have d:decide (0<(t.size:Int))=true:=decide_eq_true (by omega)
   have d':decide (0<t.size)=true:=decide_eq_true (by omega)
   have q:wrap64 (k:Int)=k:=IntWalk.wrap64_in _ (by omega)
   have q1:IntKind.i64.wrap (k:Int)=k:=IntWalk.i64_in _ (by omega)
   have q2:(t.size:Int)-1=k:=by omega
   have hix:=fun w'=>str_index t k (by omega) w'
   have HK:=zH hk
   by_cases hb:bsI t k=0
   ·rw [hb] at hix
    obtain⟨hn,hz⟩:=HT.out.next k hk hb
    have HT2:=zH hn
    have HZ:=zH hz
    have b1:(0:Int)<=k:=by omega
    have b2:(k:Int)<=t.size:=by omega
    have b3:(k:Int)<t.size:=by omega
    clear hn hz hk hsz hss HT h0 hb
    go_wp2_with fail
    go_round
    case rel=>exact⟨_,rfl,HT2⟩
    case measure=>(show strLen (.string _)<strLen (.string _));unfold strLen;simp only;have:=HZ.out;have:=HK.out;omega
   ·have hne:((bsI t k == 0):Bool)=false:=by simpa using hb
    have HB:=zH hb
    have b1:(0:Int)<=k:=by omega
    have b2:(k:Int)<=t.size:=by omega
    have b3:(k:Int)<t.size:=by omega
    obtain⟨v,hv⟩:∃v,v=bsI t k:=⟨_,rfl⟩
    rw [←hv] at hix hne
    clear hk hsz hss h0 hb hv
    go_wp2_with fail
    go_ret
    exact⟨t,rfl,HT.out,fun h=>by rw [show t.size-1=k by have:=HK.out;omega];exact HB.out,rfl⟩
theorem str_empty(s:ByteArray)(h:s.size=0):s=⟨#[]⟩:=by
 obtain⟨d⟩:=s
 have:d.size=0:=h
 rw [Array.eq_empty_of_size_eq_zero this]
theorem str_nonempty(s:ByteArray)(h:s.size≠0):(s.toList == (⟨#[]⟩:ByteArray).toList)=false:=by
 rw [beq_eq_false_iff_ne]
 intro e
 have:s.toList.length=(⟨#[]⟩:ByteArray).toList.length:=by rw [e]
 rw [ByteArray.toList_eq,ByteArray.toList_eq] at this
 exact h this
theorem TrimRight_any(s:ByteArray)(w:World)(hs:s.size<=9223372036854775807):
  Calls Tryz.prog 162 #[.string s,.string ⟨#[0]⟩] w fun e w'=>∃t,e = .returned (.string t)/\TrS s t/\(0<t.size->bsI t (t.size-1)≠0)/\w=w':=by
 by_cases h:s.size=0
 ·have HT:=zH (show TrS s s from⟨Nat.le_refl _,fun _ _=>rfl,fun j hj=>bsI_end s j hj⟩)
  have HE:=zH h
  have hq:s=⟨#[]⟩:=str_empty s h
  subst hq
  clear h hs
  go_enter Tryz.func162,Tryz.ntmps162
  go_wp2_with fail
  go_ret
  exact⟨_,rfl,HT.out,fun h=>by have:=HE.out;omega,rfl⟩
 ·have hq:=str_nonempty s h
  have hq2:¬s.toList = []:=fun e=>by
   rw [ByteArray.toList_eq] at e
   have:=congrArg List.length e
   exact h (by simpa using this)
  have hq1:(s.toList == [])=false:=beq_eq_false_iff_ne.2 hq2
  have hq3:s≠⟨#[]⟩:=fun e=>h (by rw [e];rfl)
  have hq4:s≠ByteArray.empty:=hq3
  have hq5:(s.size == 0)=false:=by simpa using h
  have HC:=zH (fun w=>trimByte_any s w hs)
  clear h hs
  go_enter Tryz.func162,Tryz.ntmps162
  go_wp2_with fail
  refine(HC.out _).mono ?_
  rintro e w1 ⟨t,rfl,h1,h2,rfl⟩
  have H1:=zH (And.intro h1 h2)
  clear h1 h2
  go_wp2_with fail
  go_ret
  exact⟨t,rfl,H1.out.1,H1.out.2,rfl⟩
theorem bsI_strOf(xs:List Int)(hx:∀x∈xs,0<=x/\x<=255):(strOfNums xs).size=xs.length/\∀j,j<xs.length->bsI (strOfNums xs) j=xs.getD j 0:=by
 have hl:(strOfNums xs).data.toList=xs.map (fun n=>UInt8.ofNat n.toNat):=by
  have:=Lib.strOfNums_toList xs
  rw [ByteArray.toList_eq] at this
  exact this
 have hsz:(strOfNums xs).size=xs.length:=by
  have:=congrArg List.length hl
  rw [List.length_map] at this
  exact this
 refine⟨hsz,fun j hj=>?_⟩
 have hjs:j<(strOfNums xs).data.size:=by show j<(strOfNums xs).size;omega
 rw [←bsI_index _ j (by omega)]
 have h1:(strOfNums xs).data.toList[j]?=some ((strOfNums xs)[j]'(by omega)):=by
  rw [Array.getElem?_toList,Array.getElem?_eq_getElem hjs]
  rfl
 rw [hl,List.getElem?_map,List.getElem?_eq_getElem hj] at h1
 simp only [Option.map_some,Option.some.injEq] at h1
 rw [←h1]
 have:=hx xs[j] (List.getElem_mem hj)
 have e:xs.getD j 0=xs[j]:=by simp [List.getD,hj]
 rw [e,UInt8.toNat_ofNat']
 omega
structure TrE(E:Nat->Int)(t:ByteArray):Prop where
 le:t.size<=32
 same:∀j,j<32->bsI t j=E j
 last:0<t.size->bsI t (t.size-1)≠0
def rdM(t:ByteArray)(E:Nat->Int):Mt where
 s:=t
 n:=numTo (fun j=>E (32+j)) 4
 r:=numTo (fun j=>E (36+j)) 4
 c:=E 56
 lp:=E 57 == 1
 a:=numTo (fun j=>E (40+j)) 4
 b:=numTo (fun j=>E (44+j)) 4
 x:=numTo (fun j=>E (48+j)) 4
 y:=numTo (fun j=>E (52+j)) 4
theorem meta_built9(s:ByteArray)(n r c:Int)(lp:Bool)(a b x y:Int):Tryz.prog.built 85 [(0,.string s),(1,.int .i64 n),(2,.int .i64 r),(3,.int .i64 c),(4,.bool lp),(5,.int .i64 a),(6,.int .i64 b),(7,.int .i64 x),(8,.int .i64 y)]=some (Mt.mk s n r c lp a b x y).cells:=by kernel_rfl
theorem sl64_hi(b hi:Nat)(h:hi<=64)(w:World):(Instr.sliceAt 214 (.pointer (some ⟨b,0,none⟩)) none (some (.int .i64 hi)) none).run Tryz.prog w = .ok (.slice (some ⟨b,0,none⟩) hi 64) w:=
 slice_arr_hi (P:=Tryz.prog) (t:=214) 64 hi (by exact Tryz.underlying214) (by kernel_rfl) (fun w=>by exact size_u8 w) h (by omega) b 0 w
def vK(E:Nat->Int)(k:Nat):Nat->Int:=fun i=>if i<k then numTo (fun j=>E (32+i*4+j)) 4 else 0
theorem rdM_eq(t:ByteArray)(E:Nat->Int):rdM t E=⟨t,vK E 6 0,vK E 6 1,E 56,E 57 == 1,vK E 6 2,vK E 6 3,vK E 6 4,vK E 6 5⟩:=rfl
structure ReS(w:World)(E:Nat->Int)(k:Nat)(W:World):Prop where
 row:UAt W w.heap.size 64 E
 res:W.heap[w.heap.size+1]?=some (.cells (Mt.mk ⟨#[]⟩ 0 0 0 false 0 0 0 0).cells 85 (0,0))
 num:CellsAt W (w.heap.size+2) 6 (vK E k)
 old:Old w W
theorem ReS.next{w:World}{E:Nat->Int}{k:Nat}{W:World}(h:ReS w E k W)(hk:k<6):ReS w E (k+1) (W.setCell ⟨w.heap.size+2,k,none⟩ (.int .i64 (numTo (fun j=>E (32+k*4+j)) 4))):=by
 have hK:=Kept.setCell (X:=fun q=>q≠w.heap.size+2) W (a:=⟨w.heap.size+2,k,none⟩) (fun e=>e rfl) (.int .i64 (numTo (fun j=>E (32+k*4+j)) 4))
 refine⟨h.row.kept hK (by omega),(hK.block _ (by omega)).trans h.res,(h.num.set k hk _).ext fun i hi=>?_,h.old.after hK fun q hq=>by omega⟩
 unfold vK
 by_cases e:i=k
 ·subst e;rw [if_pos rfl,if_pos (by omega)]
 ·rw [if_neg e]
  by_cases h:i<k
  ·rw [if_pos h,if_pos (by omega)]
  ·rw [if_neg h,if_neg (by omega)]
set_option maxHeartbeats 8000000 in
theorem readEntry_any(E:Nat->Int)(w:World)(hE:Byt E 64):Calls Tryz.prog 118 #[.agg (rowN 64 (bU E))] w fun e w'=>∃t,e = .returned (.agg (rdM t E).cells)/\TrE E t/\Old w w':=by
 have Hs64:=zH Tryz.zero64.2
 have Hs9:Hid ((Tryz.prog.info? 85).map (·.size)=some 9):=zH (by kernel_rfl)
 obtain⟨R,hR⟩:∃R,R=rowN 64 (bU E):=⟨_,rfl⟩
 obtain⟨W0,hW0⟩:∃W,W=((w.alloc (.cells R 214)).alloc (.cells #[.string ⟨#[]⟩,.int .i64 0,.int .i64 0,.int .i64 0,.bool false,.int .i64 0,.int .i64 0,.int .i64 0,.int .i64 0] 85)).alloc (.cells #[.int .i64 0,.int .i64 0,.int .i64 0,.int .i64 0,.int .i64 0,.int .i64 0] 266):=⟨_,rfl⟩
 have hst:ReS w E 0 W0:=by
  rw [hW0,hR]
  have o2:=Old.alloc (w.alloc (.cells (rowN 64 (bU E)) 214)) (.cells #[.string ⟨#[]⟩,.int .i64 0,.int .i64 0,.int .i64 0,.bool false,.int .i64 0,.int .i64 0,.int .i64 0,.int .i64 0] 85)
  have o3:=Old.alloc ((w.alloc (.cells (rowN 64 (bU E)) 214)).alloc (.cells #[.string ⟨#[]⟩,.int .i64 0,.int .i64 0,.int .i64 0,.bool false,.int .i64 0,.int .i64 0,.int .i64 0,.int .i64 0] 85)) (.cells #[.int .i64 0,.int .i64 0,.int .i64 0,.int .i64 0,.int .i64 0,.int .i64 0] 266)
  refine⟨((uAt_new w 64 E _).old o2).old o3,(o3.block _ (by simp)).trans (heap_alloc2_new w _ _),?_,((Old.alloc w _).trans o2).trans o3⟩
  have h:=cellsAt_new ((w.alloc (.cells (rowN 64 (bU E)) 214)).alloc (.cells #[.string ⟨#[]⟩,.int .i64 0,.int .i64 0,.int .i64 0,.bool false,.int .i64 0,.int .i64 0,.int .i64 0,.int .i64 0] 85)) 6 (fun _=>0) 266
  rw [World.size_alloc,World.size_alloc] at h
  exact h.ext fun i _=>by unfold vK;rw [if_neg (by omega)]
 have HW:=zH hW0
 have HS:=zH hst
 have HB:=zH hE
 rw [←hR]
 clear hst hW0 hE hR
 go_enter Tryz.func118,Tryz.ntmps118
 go_wp2_with fail
 rw [←HW.out]
 clear HW
 go_loopw [5] (fun iv wr=>∃k:Nat,k<=6/\iv = .int .i64 k/\Hid (ReS w E k wr)) (fun i _=>6-(intOf i).toNat)
 case atStart=>exact⟨0,by omega,by go_num,HS⟩
 case round=>
  clear HS
  obtain⟨k,hk,rfl,HE⟩:=hrel
  by_cases hkn:k<6
  ·obtain⟨z,hz⟩:∃z:Nat,z=32+k*4:=⟨_,rfl⟩
   obtain⟨L,hL⟩:∃L:Nat,L=64-z:=⟨_,rfl⟩
   have hsl:=fun w'=>sl64_lo w.heap.size z (by omega) w'
   rw [←hL,show (z:Int)=32+(k:Int)*4 by omega] at hsl
   have HG:=zH (get_any (some ⟨w.heap.size,z,none⟩) 4 L (fun j=>E (32+k*4+j)) wr (by omega) ((HE.out.row.sl z 4 (by omega)).ext fun j _=>by rw [hz]) (fun j hj=>HB.out _ (by omega)))
   have HN:=zH (HE.out.next hkn)
   have ck:=HE.out.num.cell k hkn
   have fk:=HE.out.num.frz k hkn
   have b1:(4:Int)<=L:=by omega
   have b2:(k:Int)<6:=by omega
   have b0:(0:Int)<=k:=by omega
   obtain⟨old,hold⟩:∃o,o=vK E k k:=⟨_,rfl⟩
   rw [←hold] at ck
   obtain⟨v,hv⟩:∃v,v=numTo (fun j=>E (32+k*4+j)) 4:=⟨_,rfl⟩
   rw [←hv] at HG HN
   clear hz hL hold hv HE
   go_wp2_with fail
   refine HG.out.mono ?_
   rintro e w1 ⟨rfl,rfl⟩
   clear HG
   go_wp2_with fail
   go_roundw
   case rel=>exact⟨k+1,by omega,by go_num,HN⟩
   case measure=>simp [intOf];omega
  ·obtain rfl:k=6:=by omega
   have hc:∀V,Old wr V->(∀j,j<64->V.cell? ⟨w.heap.size,j,none⟩=some (.int .u8 (E j)))/\V.cell? ⟨w.heap.size,56,none⟩=some (.int .u8 (E 56))/\V.cell? ⟨w.heap.size,57,none⟩=some (.int .u8 (E 57)) /\
     V.cell? ⟨w.heap.size+1+1,0,none⟩=some (.int .i64 (vK E 6 0))/\V.cell? ⟨w.heap.size+1+1,1,none⟩=some (.int .i64 (vK E 6 1))/\V.cell? ⟨w.heap.size+1+1,2,none⟩=some (.int .i64 (vK E 6 2)) /\
     V.cell? ⟨w.heap.size+1+1,3,none⟩=some (.int .i64 (vK E 6 3))/\V.cell? ⟨w.heap.size+1+1,4,none⟩=some (.int .i64 (vK E 6 4))/\V.cell? ⟨w.heap.size+1+1,5,none⟩=some (.int .i64 (vK E 6 5)):=fun V hV=>by
    have h1:=HE.out.row.old hV
    have h2:=HE.out.num.old hV
    exact⟨h1.at_,h1.at_ 56 (by omega),h1.at_ 57 (by omega),h2.cell 0 (by omega),h2.cell 1 (by omega),h2.cell 2 (by omega),h2.cell 3 (by omega),h2.cell 4 (by omega),h2.cell 5 (by omega)⟩
   have HC:=zH hc
   have hby:∀x∈lst E 32,0<=x/\x<=255:=lst_mem (fun j hj=>HB.out j (by omega))
   obtain⟨s,hs⟩:∃s,s=strOfNums (lst E 32):=⟨_,rfl⟩
   have hst:=bsI_strOf (lst E 32) hby
   rw [←hs,lst_len] at hst
   have HSt:=zH hst
   have HTr:=zH (fun V=>TrimRight_any s V (by omega))
   have HCv:Hid (∀V,(∀j,j<64->V.cell? ⟨w.heap.size,j,none⟩=some (.int .u8 (E j)))->(convert 34 9 (.slice (some ⟨w.heap.size,0,none⟩) 32 64)).run Tryz.prog V = .ok (.string s) V):=zH fun V hV=>by
    rw [hs]
    refine conv_slI ?_
    refine⟨some ⟨w.heap.size,0,none⟩,64,by rw [lst_len],fun _=>⟨w.heap.size,0,rfl,?_,by rw [lst_len];omega,by unfold maxLen;omega,fun i hi=>?_⟩⟩
    ·have:=hV 0 (by omega)
     exact block_lt_of_cell this
    ·rw [lst_len] at hi
     rw [Nat.zero_add,hV i (by omega),lst_getD E 32 i hi]
   have h56:=HB.out 56 (by omega)
   have h57:=HB.out 57 (by omega)
   have hRM:∀t,(rdM t E).cells=(Mt.mk t (vK E 6 0) (vK E 6 1) (E 56) (E 57 == 1) (vK E 6 2) (vK E 6 3) (vK E 6 4) (vK E 6 5)).cells:=fun t=>by rw [rdM_eq]
   have HRM:=zH hRM
   have hres:=HE.out.res
   have HRes:=zH (And.intro hres HE.out.old)
   obtain⟨n0,hn0⟩:∃v,v=vK E 6 0:=⟨_,rfl⟩
   obtain⟨n1,hn1⟩:∃v,v=vK E 6 1:=⟨_,rfl⟩
   obtain⟨n2,hn2⟩:∃v,v=vK E 6 2:=⟨_,rfl⟩
   obtain⟨n3,hn3⟩:∃v,v=vK E 6 3:=⟨_,rfl⟩
   obtain⟨n4,hn4⟩:∃v,v=vK E 6 4:=⟨_,rfl⟩
   obtain⟨n5,hn5⟩:∃v,v=vK E 6 5:=⟨_,rfl⟩
   rw [←hn0,←hn1,←hn2,←hn3,←hn4,←hn5] at HC HRM
   have e6:IntKind.i64.wrap (E 56)=(E 56):=IntWalk.i64_in _ (by omega)
   have hsl:=fun w'=>sl64_hi w.heap.size 32 (by omega) w'
   clear hc hby hs hst hRM hres hn0 hn1 hn2 hn3 hn4 hn5 HE h57
   go_wp2_with fail
   refine wp_region_held_drew (S:=(fun V=>(∀j,j<64->V.cell? ⟨w.heap.size,j,none⟩=some (.int .u8 (E j)))/\V.cell? ⟨w.heap.size,56,none⟩=some (.int .u8 (E 56))/\V.cell? ⟨w.heap.size,57,none⟩=some (.int .u8 (E 57))/\V.cell? ⟨w.heap.size+1+1,0,none⟩=some (.int .i64 n0)/\V.cell? ⟨w.heap.size+1+1,1,none⟩=some (.int .i64 n1)/\V.cell? ⟨w.heap.size+1+1,2,none⟩=some (.int .i64 n2)/\V.cell? ⟨w.heap.size+1+1,3,none⟩=some (.int .i64 n3)/\V.cell? ⟨w.heap.size+1+1,4,none⟩=some (.int .i64 n4)/\V.cell? ⟨w.heap.size+1+1,5,none⟩=some (.int .i64 n5))) (by kernel_rfl) ?_ (fun hHeld=>?_)
   ·(try dsimp only);exact HC.out _ (Old.drew (Old.refl wr))
   refine wpU 0 rfl ?_;try simp only [Act.put,sA,sZ,sS]
   refine wpT 1 (v:=.string s) rfl (yieldsIf_conv (by kernel_rfl) 34 9 (.tmp 17) rfl _ (fun V h=>HCv.out V h.1)) (by assumption) ?_;try simp only [Act.put,sA,sZ,sS]
   refine wpU 3 rfl ?_;try simp only [Act.put,sA,sZ,sS]
   refine wpU 4 rfl ?_;try simp only [Act.put,sA,sZ,sS]
   refine wpU 5 rfl ?_;try simp only [Act.put,sA,sZ,sS]
   refine wpU 6 rfl ?_;try simp only [Act.put,sA,sZ,sS]
   refine wpU 7 rfl ?_;try simp only [Act.put,sA,sZ,sS]
   refine wpU 8 rfl ?_;try simp only [Act.put,sA,sZ,sS]
   refine wpU 9 rfl ?_;try simp only [Act.put,sA,sZ,sS]
   refine wpU 10 rfl ?_;try simp only [Act.put,sA,sZ,sS]
   refine wpU 11 rfl ?_;try simp only [Act.put,sA,sZ,sS]
   refine wpU 12 rfl ?_;try simp only [Act.put,sA,sZ,sS]
   refine wpU 13 rfl ?_;try simp only [Act.put,sA,sZ,sS]
   refine wpU 14 rfl ?_;try simp only [Act.put,sA,sZ,sS]
   refine wpU 15 rfl ?_;try simp only [Act.put,sA,sZ,sS]
   refine wpU 16 rfl ?_;try simp only [Act.put,sA,sZ,sS]
   refine wpU 17 rfl ?_;try simp only [Act.put,sA,sZ,sS]
   refine wpU 18 rfl ?_;try simp only [Act.put,sA,sZ,sS]
   refine wpU 19 rfl ?_;try simp only [Act.put,sA,sZ,sS]
   refine wpU 20 rfl ?_;try simp only [Act.put,sA,sZ,sS]
   refine wpR 2 rfl (fun K hK=>?_)
   go_simp
   refine(HTr.out _).mono ?_
   rintro e V ⟨t,rfl,h1,h2,rfl⟩
   have HT:Hid (TrE E t):=zH ⟨by have:=h1.le;rw [HSt.out.1] at this;exact this,fun j hj=>by
    by_cases hjt:j<t.size
    ·rw [h1.same j hjt,HSt.out.2 j hj,lst_getD E 32 j hj]
    ·rw [bsI_end t j (by omega),←lst_getD E 32 j hj,←HSt.out.2 j hj]
     exact(h1.gone j (by omega)).symm,h2⟩
   clear h1 h2
   go_wp2_with fail
   refine hK.out _ _ ?_ (fun hHeld=>?_)
   ·(try dsimp only);exact HC.out _ (Old.drew (Old.refl wr))
   clear hK K
   try simp only [Act.put,sA,sZ,sS]
   have HBd:=zH (meta_built9 t n0 n1 (E 56) ((E 57) == 1) n2 n3 n4 n5)
   obtain⟨M,hM⟩:∃M,M=(Mt.mk t n0 n1 (E 56) ((E 57) == 1) n2 n3 n4 n5).cells:=⟨_,rfl⟩
   have H9:Hid (M.all (·.oneCell')=true):=zH (by rw [hM];exact Mt.one _)
   have HM9:Hid (M.size=9):=zH (by rw [hM];rfl)
   rw [←hM] at HBd
   have HMe:Hid (M=(rdM t E).cells):=zH (by rw [hM,HRM.out t])
   have hrr:(wr.drew.setRow (w.heap.size+1) M).heap[w.heap.size+1]?=some (.cells M 85 (0,0))/\Old w (wr.drew.setRow (w.heap.size+1) M):=
    row_ret (W:=wr.drew) HRes.out.1 HRes.out.2.drew (by omega) M
   have HRt:=zH hrr
   have hkp:Kept (fun q=>q≠w.heap.size+1) wr.drew (wr.drew.setRow (w.heap.size+1) M):=⟨rfl,rfl,by simp,fun k hk=>setRow_other _ _ _ _ hk⟩
   have HK2:Hid ((∀j,j<64->(wr.drew.setRow (w.heap.size+1) M).cell? ⟨w.heap.size,j,none⟩=some (.int .u8 (E j)))/\(wr.drew.setRow (w.heap.size+1) M).cell? ⟨w.heap.size,56,none⟩=some (.int .u8 (E 56))/\(wr.drew.setRow (w.heap.size+1) M).cell? ⟨w.heap.size,57,none⟩=some (.int .u8 (E 57))/\(wr.drew.setRow (w.heap.size+1) M).cell? ⟨w.heap.size+1+1,0,none⟩=some (.int .i64 n0)/\(wr.drew.setRow (w.heap.size+1) M).cell? ⟨w.heap.size+1+1,1,none⟩=some (.int .i64 n1)/\(wr.drew.setRow (w.heap.size+1) M).cell? ⟨w.heap.size+1+1,2,none⟩=some (.int .i64 n2)/\(wr.drew.setRow (w.heap.size+1) M).cell? ⟨w.heap.size+1+1,3,none⟩=some (.int .i64 n3)/\(wr.drew.setRow (w.heap.size+1) M).cell? ⟨w.heap.size+1+1,4,none⟩=some (.int .i64 n4)/\(wr.drew.setRow (w.heap.size+1) M).cell? ⟨w.heap.size+1+1,5,none⟩=some (.int .i64 n5)):=zH (by
    have h:=HC.out _ (Old.drew (Old.refl wr))
    have h0:∀j,(wr.drew.setRow (w.heap.size+1) M).cell? ⟨w.heap.size,j,none⟩=wr.drew.cell? ⟨w.heap.size,j,none⟩:=fun j=>hkp.cell (a:=⟨w.heap.size,j,none⟩) (by simp only;omega)
    have h2:∀j,(wr.drew.setRow (w.heap.size+1) M).cell? ⟨w.heap.size+1+1,j,none⟩=wr.drew.cell? ⟨w.heap.size+1+1,j,none⟩:=fun j=>hkp.cell (a:=⟨w.heap.size+1+1,j,none⟩) (by simp only;omega)
    refine⟨fun j hj=>(h0 j).trans (h.1 j hj),?_⟩
    rw [h0,h0,h2,h2,h2,h2,h2,h2]
    exact h.2)
   clear hM hrr hkp
   refine wpT 21 (v:=.agg M) rfl (yieldsIf_build (by kernel_rfl) 85 _ rfl [(0,.string t),(1,.int .i64 n0),(2,.int .i64 n1),(3,.int .i64 (E 56)),(4,.bool ((E 57) == 1)),(5,.int .i64 n2),(6,.int .i64 n3),(7,.int .i64 n4),(8,.int .i64 n5)] _ (by kernel_rfl) HBd.out) (by assumption) ?_;try simp only [Act.put,sA,sZ,sS]
   refine wpR 22 rfl (fun K hK=>?_)
   rw [if_pos (by kernel_rfl)]
   have Hz9:Hid ((Mt.mk ⟨#[]⟩ 0 0 0 false 0 0 0 0).cells.size=9):=zH rfl
   have HRes1:Hid (wr.drew.heap[w.heap.size+1]?=some (.cells (Mt.mk ⟨#[]⟩ 0 0 0 false 0 0 0 0).cells 85 (0,0))):=zH HRes.out.1
   with_reducible refine wp_store_row 85 _ _ rfl (w.heap.size+1) M rfl rfl 85 _ HRes1.out (by rw [HM9.out];exact Hs9.out) (by rw [HM9.out,Hz9.out]) H9.out ?_
   refine hK.out _ _ ?_ (fun hHeld=>?_)
   ·(try dsimp only);exact HK2.out
   clear hK K
   try simp only [Act.put,sA,sZ,sS]
   refine wpAnyH_done (by kernel_rfl) ?_ _
   go_wp2_with fail
   refine bodyPost_ret (results_cell_row rfl _ _ (w.heap.size+1) 85 M (0,0) _ rfl HRt.out.1 Tryz.underlying85 rfl (by rw [HM9.out];exact Hs9.out)) rfl ?_
   exact⟨t,by rw [HMe.out],HT.out,HRt.out.2⟩
theorem eqItems_u8{P:Program}(d:Nat)(e:TypeId)(q:IntKind)(hu:P.underlying e=some (.int q))(n:Nat)(f g:Nat->Int)(w:World):∀is:List Nat,(∀i∈is,i<n) ->
  (Op.eqItems (d+1) e 1 (rowN n (bU f)) (rowN n (bU g)) is).run P w = .ok (decide (∀i∈is,f i=g i)) w
 | [],_=>by simp [Op.eqItems]
 | i :: is,h=>by
  have hi:=h i (by simp)
  have ih:=eqItems_u8 d e q hu n f g w is (fun j hj=>h j (by simp [hj]))
  have h1:∀f:Nat->Int,(Go.part e (rowN n (bU f)) (i*1)).run P w = .ok (.int .u8 (f i)) w:=fun f=>by
   simp [Go.part,isAgg,run_underlying hu,bU_at n f i hi]
  simp only [Op.eqItems,Sem.run_bind,h1,Result.andThen_ok,run_equalIn_int w d e .u8 q _ _ hu]
  by_cases hfg:f i=g i
  ·simp only [hfg,BEq.rfl]
   simp [hfg,ih]
  ·have:(f i == g i)=false:=by simpa using hfg
   simp only [this]
   simp [hfg]
theorem neq_u8{P:Program}{t e:TypeId}{n:Nat}{q:IntKind}(ht:P.underlying t=some (.array n e))(he:P.underlying e=some (.int q))(hc:P.cellsOf e=1)(hi:(P.info? e).isSome=true)(f g:Nat->Int)(w:World):
  (binOp .neq t (.agg (rowN n (bU f))) (.agg (rowN n (bU g)))).run P w = .ok (.bool !(eqB n f g)) w:=by
 obtain⟨i,hi⟩:=Option.isSome_iff_exists.1 hi
 have h:=eqItems_u8 (P:=P) 9998 e q he n f g w (List.range n) (fun i hi=>List.mem_range.1 hi)
 rw [run_neq_struct,run_equalIn_array w 9999 _ _ ht hi,hc,h]
 simp [eqB]
theorem bytes_ext(s t:ByteArray)(h:s.size=t.size)(e:∀j,j<s.size->bsI s j=bsI t j):s=t:=by
 obtain⟨a⟩:=s
 obtain⟨b⟩:=t
 congr 1
 have hab:a.size=b.size:=h
 apply Array.ext hab
 intro i h1 h2
 have h3:=e i h1
 rw [←bsI_index ⟨a⟩ i h1,←bsI_index ⟨b⟩ i h2] at h3
 have h4:(a[i]).toNat=(b[i]).toNat:=by
  have:(((⟨a⟩:ByteArray)[i]'h1).toNat:Int)=(((⟨b⟩:ByteArray)[i]'h2).toNat:Int):=h3
  exact Int.ofNat.inj this
 exact UInt8.toNat_inj.1 h4
structure Mt.Wide(m:Mt):Prop where
 ok:m.OkR
 x1:0<=m.x
 x2:m.x<4294967296
 y1:0<=m.y
 y2:m.y<4294967296
theorem name_uniq{s t:ByteArray}{E:Nat->Int}(hs:nameP s)(hE:∀j,j<32->bsI s j=E j)(ht:TrE E t):t=s:=by
 have hsz:t.size=s.size:=by
  rcases Nat.lt_trichotomy t.size s.size with h | h | h
  ·have h1:=ht.same t.size (by have:=hs.1.2;omega)
   rw [bsI_end t t.size (Nat.le_refl _),←hE t.size (by have:=hs.1.2;omega)] at h1
   have:=(hs.2 t.size h).1
   omega
  ·exact h
  ·have h1:=ht.last (by omega)
   have hl:=ht.le
   rw [ht.same (t.size-1) (by omega),←hE (t.size-1) (by omega),bsI_end s (t.size-1) (by omega)] at h1
   exact absurd rfl h1
 exact bytes_ext t s hsz fun j hj=>by
  have hl:=ht.le
  rw [ht.same j (by omega),hE j (by omega)]
theorem rd_uniq{m:Mt}{E:Nat->Int}{t:ByteArray}(hm:m.Wide)(hE:∀j,j<64->entF m j=E j)(ht:TrE E t):rdM t E=m:=by
 have h1:=hm.ok.n1
 have h2:=hm.ok.n2
 have h3:=hm.ok.r1
 have h4:=hm.ok.r2
 have h5:=hm.ok.nums
 have hx1:=hm.x1
 have hx2:=hm.x2
 have hy1:=hm.y1
 have hy2:=hm.y2
 have num:∀(k:Nat) (hk:k<6),0<=m.num k->m.num k<4294967296->numTo (fun j=>E (32+k*4+j)) 4=m.num k:=fun k hk a b=>by
  refine Eq.trans (numTo_ext fun j hj=>?_) (numTo_be4 (m.num k) a b)
  rw [←hE (32+k*4+j) (by omega)]
  unfold entF
  rw [if_neg (by omega),if_pos (by omega),show (32+k*4+j-32)/4=k by omega,show (32+k*4+j-32)%4=j by omega]
 have hname:t=m.s:=name_uniq hm.ok.name (fun j hj=>by
  rw [←hE j (by omega)]
  unfold entF
  rw [if_pos hj]) ht
 have hc:E 56=m.c:=by
  rw [←hE 56 (by omega)]
  show m.c%256=m.c
  have:=hm.ok.c1
  have:=hm.ok.c2
  omega
 have hl:(E 57 == 1)=m.lp:=by
  rw [←hE 57 (by omega)]
  show ((if m.lp=true then(1:Int) else 0) == 1)=m.lp
  cases m.lp <;> rfl
 have n0:=num 0 (by omega) (show 0<=m.n by omega) (show m.n<_ by omega)
 have n1:=num 1 (by omega) (show 0<=m.r by omega) (show m.r<_ by omega)
 have n2:=num 2 (by omega) (show 0<=m.a by omega) (show m.a<_ by omega)
 have n3:=num 3 (by omega) (show 0<=m.b by omega) (show m.b<_ by omega)
 have n4:=num 4 (by omega) (show 0<=m.x by omega) (show m.x<_ by omega)
 have n5:=num 5 (by omega) (show 0<=m.y by omega) (show m.y<_ by omega)
 have e:rdM t E=⟨t,numTo (fun j=>E (32+0*4+j)) 4,numTo (fun j=>E (32+1*4+j)) 4,E 56,E 57 == 1,numTo (fun j=>E (32+2*4+j)) 4,numTo (fun j=>E (32+3*4+j)) 4,numTo (fun j=>E (32+4*4+j)) 4,numTo (fun j=>E (32+5*4+j)) 4⟩:=rfl
 rw [e,n0,n1,n2,n3,n4,n5,hname,hc,hl]
 rfl
end Go.Proofs.YtgefdmfcddpaiaaGreatDoor
