/- Texts joined: RowK, LapD, GainU, LapH, LapE, LapF, WaveC, WaveD, SampK, FewS. -/
import Derived.Deep.RegionHeld
import Derived.Test.YticpdokbiblpoaaGreatDoorPkAB
import Derived.Test.YticpdokbiblpoaaGreatDoorPkAC
import Derived.Test.YticpdokbiblpoaaGreatDoorPkAD
import Derived.Test.YticpdokbiblpoaaGreatDoorTk
set_option linter.unusedVariables false
set_option linter.unusedSimpArgs false
set_option maxHeartbeats 8000000
namespace Go.Proofs.YticpdokbiblpoaaGreatDoor
open Go.Proofs.Tryz
open Go.Proofs.Tryz renaming prog → zP
open Go.Value renaming int → vI
open Go.IntKind renaming i64 → iJ
open Go.Ending renaming returned → rJ
set_option maxRecDepth 100000
open Go.RowKit Go.ChangeShapes Go.WideShapes
theorem bS{t:TypeId}{w W:World}{b:Nat}{z:Array Value}(h:W.heap[b]?=some (.cells z t (0,0)))(ho:Old w W)(hb:w.heap.size<=b)(cs:Array Value):(W.setRow b cs).heap[b]?=some (.cells cs t (0,0))/\Old w (W.setRow b cs):=
 ⟨setRow_heap _ _ _ _ _ _ h,ho.after (X:=fun k=>k<w.heap.size) ⟨rfl,rfl,zS,fun k hk=>setRow_other _ _ _ _ zO⟩ fun _ h=>h⟩
theorem fC{P:Program}{ops:Array Oper}{S:World->Prop}{op:Oper}{a:Act}(hw:Region.wanted op (yielded ops a.tmps)=true)(t:TypeId)(parts:Array (Nat × Operand))(ho:op.op=.build t parts)(ps:List (Nat × Value))(cells:Array Value)
  (hp:(parts.map fun x=>(x.1,a.eval x.2)).toList=ps) (hr:P.built t ps=some cells):YieldsIf P ops S op (.agg cells) a:=
 .inl ⟨hw,fun w _=>by
  unfold execOp;simp only[ho,Sem.run_bind,run_build w t _ cells (by rw[hp];exact hr),Result.andThen_ok,Sem.run_pure]⟩
theorem lK{P:Program}{ops:Array Oper}{rest:List Oper}{o:Oper}{a:Act}{w:World}{Q:Exit->Act->World->Prop}(hw:Region.wanted o (yielded ops a.tmps)=true)(t:TypeId)(parts:Array (Nat × Operand))(ho:o.op=.build t parts)(ps:List (Nat × Value))(cells:Array Value)
  (hp:(parts.map fun x=>(x.1,a.eval x.2)).toList=ps) (hr:P.built t ps=some cells) (h:wpList P ops Q rest (a.put o.dst (.agg cells)) w):wpList P ops Q (o :: rest) a w:=
 wpList_step fun K hK=>by
  rw[if_pos hw];unfold Oper.wp execOp;simp only[ho,Sem.run_bind,run_build w t _ cells (by rw[hp];exact hr),Result.andThen_ok];exact hK _ _ h
theorem bV{P:Program}{fn:Func}{p u:Tmp}{ty:TypeId}(h:fn.results=#[.cell p ty,.tmp u])(tmps:Array Value)(w:World)(g:Nat)(t:TypeId)(cs:Array Value)(fr:Nat × Nat)(d:TypeDesc)
  (hp:tmps.getD p undef=.pointer (some ⟨g,0,none⟩)) (hg:w.heap[g]?=some (.cells cs t fr))
  (hu:P.underlying ty=some d) (hd:(match d with | .struct _ | .array _ _=>true | _=>false)=true) (hi:(P.info? ty).map (·.size)=some cs.size):
  (results fn tmps).run P w=.ok (.tuple #[.agg cs,tmps.getD u undef]) w:=by
 rw[results_cell_tmp h,hp];simp[asAddr,run_loadVar_row w g t ty cs fr d hg hu hd hi]
def eG(wa:Int->Int->Int->Int->Int)(fa fb:nI):nI:=fun k=>wa (fa k) (fb k) (aS k) (aT k)
def rP(n:Nat)(f g:nI):nI:=fun k=>if k<n then f k else g k
def kM(n:Nat)(f g:nI):nI:=fun k=>if k<n then g k else f k
theorem FG(f g:nI):rP 0 f g=g:=by funext k;unfold rP;rw[if_neg zO]
theorem yB(f g:nI)(k:Nat)(h:k<8):kM 8 f g k=g k:=by unfold kM;rw[if_pos h]
structure PT(X:Nat->Prop)(w:World)(bt tt ga gb m ob:Nat)(F fa' fb':nI)(W:World):Prop where
 a:CellsAt W ga 8 fa'
 b:CellsAt W gb m (aV F ob 8 fb')
 t:W.heap[bt]?=some (.cells T8 tt (0,0))
 k:Kept X w W
theorem PT.ext{X:Nat->Prop}{w:World}{bt tt ga gb m ob:Nat}{F fa fa' fb fb':nI}{W:World}(h:PT X w bt tt ga gb m ob F fa fb W)(ha:∀j,j<8->fa j=fa' j)(hb:∀j,j<8->fb j=fb' j):PT X w bt tt ga gb m ob F fa' fb' W:=
 ⟨h.a.ext ha,h.b.ext fun j _=>by unfold aV;split <;> first | rfl | exact hb _ zO,h.t,h.k⟩
theorem PT.step{X:Nat->Prop}{w W V:World}{bt tt ga gb m ob k:Nat}{F fa fb:nI}(h:PT X w bt tt ga gb m ob F fa fb W)(ho:Old W V)(hX:∀q,X q->q<w.heap.size)(hk:k<8)(hm:ob+8<=m)(h1:ga≠gb)(h2:bt≠ga)(h3:bt≠gb)(xa:¬X ga)(xb:¬X gb)(va vb:Int):
  PT X w bt tt ga gb m ob F (fun j=>if j=k then va else fa j) (fun j=>if j=k then vb else fb j) ((V.setCell ⟨ga,k,none⟩ (vI iJ va)).setCell ⟨gb,ob+k,none⟩ (vI iJ vb)):=by
 have a1:=(h.a.old ho).set k hk va;have b1:=(h.b.old ho)
 refine⟨a1.setOther (a:=⟨gb,ob+k,none⟩) (fun e=>h1 e.symm) _,?_,?_,((h.k.trans (Kept.mono ho fun q hq=>Nat.lt_of_lt_of_le (hX q hq) h.k.size)).trans (Kept.setCell _ (a:=⟨ga,k,none⟩) xa _)).trans (Kept.setCell _ (a:=⟨gb,ob+k,none⟩) xb _)⟩
 ·refine((b1.setOther (a:=⟨ga,k,none⟩) h1 _).set (ob+k) zO vb).ext fun j _=>?_;unfold aV;dsimp only;by_cases e:j=ob+k
  ·subst e;rw[if_pos rfl,if_pos ⟨zO,zO⟩,if_pos zO]
  ·rw[if_neg e];split
   ·rw[if_neg zO]
   ·rfl
 ·rw[Below.heap_setCell _ _ _ _ h3,Below.heap_setCell _ _ _ _ h2];exact(ho.block bt (lt_of_block h.t)).trans h.t
theorem aAE(X:Nat->Prop)(ga gb m ob ca cb:Nat)(fa F:nI)(w:World)(ha:CellsAt w ga 8 fa)(hb:CellsAt w gb m F)(hm:ob+8<=m)(hne:ga≠gb)(xa:¬X ga)(xb:¬X gb)(hX:∀q,X q->q<w.heap.size):
  Calls zP 184 #[.agg T8,.slice (some ⟨ga,0,none⟩) 8 ca,.slice (some ⟨gb,ob,none⟩) 8 cb] w fun e w'=>e=rJ (.tuple #[]) /\
   CellsAt w' ga 8 (eG bB fa (fun k=>F (ob+k)))/\CellsAt w' gb m (aV F ob 8 (eG bA fa (fun k=>F (ob+k))))/\Kept X w w':=by
 have hs:=kT;have HT:=zH aGI;have HZ:Hid ((zP.info? 53).map (·.size)=some 16):=zH zK;have hC:=zH (fun w=>ID (some ⟨ga,0,none⟩) (some ⟨gb,ob,none⟩) ca cb w);have H0:Hid (∀W,Old (w.alloc (.cells T8 53)) W->PT X w w.heap.size 53 ga gb m ob F fa (fun k=>F (ob+k)) W):=fun W hW=>by
  have h1:=(Old.alloc w (.cells T8 53)).trans hW;refine⟨ha.old h1,(hb.old h1).ext fun j hj=>?_,(hW.block _ zS).trans (heap_alloc_new _ _),Kept.mono h1 hX⟩;unfold aV;dsimp only;split
  ·rw[show ob+(j-ob)=j by omega]
  ·rfl
 have hga:=ha.lt;have hgb:=hb.lt;have HP:Hid (PT X w w.heap.size 53 ga gb m ob F=PT X w w.heap.size 53 ga gb m ob F):=rfl;clear ha hb HP;generalize hR:T8=R at hs hC |-;have HR:=zH hR;clear hR;go_enter func184,ntmps184
 go_wp2_with (with_reducible refine wpList_load_row rfl 53 _ rfl w.heap.size rfl 53 R (0,0) _ (heap_alloc_new _ _) underlying53 rfl (by rw[hs];exact HZ.o) ?_)
 refine(hC.o _).mono ?_;rintro e w1 ⟨rfl,ho1⟩;have H1:Hid (PT X w w.heap.size 53 ga gb m ob F fa (fun k=>F (ob+k)) w1):=H0.o w1 (by rw[HR.o];exact ho1);clear H0 ho1 hC
 go_wp2_with fail
 go_loopw [11] (fun i wr=>∃k:Nat,k<=8/\i=vI iJ k/\Hid (PT X w w.heap.size 53 ga gb m ob F (rP k (eG bB fa (fun k=>F (ob+k))) fa) (rP k (eG bA fa (fun k=>F (ob+k))) (fun k=>F (ob+k))) wr)) (fun i _=>8-(intOf i).toNat)
 case atStart=>exact⟨0,zO,rfl,by rw[FG,FG];exact H1⟩
 case round=>
  obtain⟨k,hk,rfl,HS⟩:=hrel;clear H1;by_cases hlt:k<8
  ·have i1:(0:Int)<=k:=zO;have i2:(k:Int)<8:=zO;have hk8:k<8:=zO;obtain⟨ga',hga'⟩:∃f,f=rP k (eG bB fa (fun k=>F (ob+k))) fa:=⟨_,rfl⟩
   obtain⟨gb',hgb'⟩:∃f,f=rP k (eG bA fa (fun k=>F (ob+k))) (fun k=>F (ob+k)):=⟨_,rfl⟩
   have ea:ga' k=fa k:=by rw[hga'];unfold rP;rw[if_neg zO]
   have eb:gb' k=F (ob+k):=by rw[hgb'];unfold rP;rw[if_neg zO]
   rw[<-hga',<-hgb']at HS;have hcT:=fun w=>NE (fa k) (F (ob+k)) (aS k) (aT k) w;have na:∀j,j<8->(if j=k then bB (fa k) (F (ob+k)) (aS k) (aT k) else ga' j)=rP (k+1) (eG bB fa (fun k=>F (ob+k))) fa j:=fun j hj=>by
    rw[hga'];unfold rP eG;by_cases e:j=k
    ·subst e;rw[if_pos rfl,if_pos zO]
    ·rw[if_neg e];by_cases c:j<k
     ·rw[if_pos c,if_pos zO]
     ·rw[if_neg c,if_neg zO]
   have nb:∀j,j<8->(if j=k then bA (fa k) (F (ob+k)) (aS k) (aT k) else gb' j)=rP (k+1) (eG bA fa (fun k=>F (ob+k))) (fun k=>F (ob+k)) j:=fun j hj=>by
    rw[hgb'];unfold rP eG;by_cases e:j=k
    ·subst e;rw[if_pos rfl,if_pos zO]
    ·rw[if_neg e];by_cases c:j<k
     ·rw[if_pos c,if_pos zO]
     ·rw[if_neg c,if_neg zO]
   obtain⟨x,hx⟩:=zG (fa k);obtain⟨y,hy⟩:=zG (F (ob+k));rw[<-hx,<-hy]at hcT na nb;rw[<-hx]at ea;rw[<-hy]at eb;have hT8:=HT.o k hk8;rw[HR.o]at hT8;have ht:=HS.o.t;rw[HR.o]at ht;generalize aS k=pv at *;generalize aT k=uv at *;generalize hva:bB x y pv uv=va at *;generalize hvb:bA x y pv uv=vb at *;have NX:Hid (∀V,Old wr.drew V->PT X w w.heap.size 53 ga gb m ob F (rP (k+1) (eG bB fa (fun k=>F (ob+k))) fa) (rP (k+1) (eG bA fa (fun k=>F (ob+k))) (fun k=>F (ob+k))) ((V.setCell ⟨ga,k,none⟩ (vI iJ va)).setCell ⟨gb,ob+k,none⟩ (vI iJ vb))):=fun V hV=>
    (HS.o.step (Old.drew (Old.refl _) |>.trans hV) hX hk8 hm hne zO zO xa xb va vb).ext na nb
   have keep1:∀V:World,Old wr.drew V->V.cell? ⟨w.heap.size,k*2,none⟩=some (vI iJ pv)/\V.cell? ⟨w.heap.size,k*2+1,none⟩=some (vI iJ uv):=fun V hV=>by
    have e:V.heap[w.heap.size]?=some (.cells R 53 (0,0)):=(hV.block _ (lt_of_block ht)).trans ht;exact⟨(cell_of_row _ _ _ _ _ _ e).trans hT8.1,(cell_of_row _ _ _ _ _ _ e).trans hT8.2⟩
   have keep2:∀(V:World) (g j:Nat) (v:Value),w.heap.size≠g->(V.cell? ⟨w.heap.size,k*2,none⟩=some (vI iJ pv)/\V.cell? ⟨w.heap.size,k*2+1,none⟩=some (vI iJ uv))->(V.setCell ⟨g,j,none⟩ v).cell? ⟨w.heap.size,k*2,none⟩=some (vI iJ pv)/\(V.setCell ⟨g,j,none⟩ v).cell? ⟨w.heap.size,k*2+1,none⟩=some (vI iJ uv):=fun V g j v hg hV=>
    ⟨(World.cell?_setCell_far _ _ _ _ (fun e=>hg e.symm)).trans hV.1,(World.cell?_setCell_far _ _ _ _ (fun e=>hg e.symm)).trans hV.2⟩
   have cells:∀V:World,Old wr.drew V->V.cell? ⟨ga,k,none⟩=some (vI iJ x)/\V.cell? ⟨gb,ob+k,none⟩=some (vI iJ y)/\V.frozen? ⟨ga,k,none⟩=false/\V.frozen? ⟨gb,ob+k,none⟩=false /\
     (V.setCell ⟨ga,k,none⟩ (vI iJ va)).cell? ⟨gb,ob+k,none⟩=some (vI iJ y)/\(V.setCell ⟨ga,k,none⟩ (vI iJ va)).frozen? ⟨gb,ob+k,none⟩=false:=fun V hV=>by
    have a1:=(HS.o.a.drew.old hV).cell k hk8;have a2:=(HS.o.a.drew.old hV).frz k hk8;have b1:=(HS.o.b.drew.old hV).cell (ob+k) zO;have b2:=(HS.o.b.drew.old hV).frz (ob+k) zO;unfold aV at b1;rw[if_pos ⟨zO,zO⟩,show ob+k-ob=k by omega,eb]at b1;rw[ea]at a1;refine⟨a1,b1,a2,b2,?_,?_⟩
    ·rw[World.cell?_setCell_far _ _ _ _ (by exact hne)];exact b1
    ·rw[World.frozen?_setCell];exact b2
   have HK1:=zH keep1;have HK2:=zH keep2;have HCl:=zH cells;have HcT:=zH hcT;have nga:w.heap.size≠ga:=zO;have ngb:w.heap.size≠gb:=zO;obtain⟨c1,c2,c3,c4,c5,c6⟩:=cells wr.drew (Old.refl _);clear keep1 keep2 cells hcT na nb hx hy hga' hgb' ea eb hT8 ht HS HT HR hva hvb HZ
   go_wp2_with fail
   refine wp_region_held_drew (S:=(fun w'=>w'.cell? ⟨w.heap.size,k*2,none⟩=some (vI iJ pv)/\w'.cell? ⟨w.heap.size,k*2+1,none⟩=some (vI iJ uv))) zK ?_ (fun hHeld=>?_)
   ·(try dsimp only);exact HK1.o _ (Old.refl _)
   refine (uU 0) ((uU 1) ((uU 2) ((uU 3) ((uU 4) ((uU 5) ((uU 6) ((uU 8) ((uU 9) ((uU 10) ((uU 12) ((uU 13) ((uU 14) ((uU 15) ?_)))))))))))));refine wpAnyH_ready (rs:=[7,11]) zK zS ?_;refine AllReadyH.cons (o:=⟨_,_,_,_,_,_⟩) rfl (fun K hK=>?_) (AllReadyH.cons (o:=⟨_,_,_,_,_,_⟩) rfl (fun K hK=>?_) AllReadyH.nil)
   ·go_simp;refine hK.out _ _ ?_ (fun hHeld=>?_)
    ·(try dsimp only);exact hHeld
    clear hK K
    try simp only[Act.put,sA,sZ,sS]
    refine wpR 11 rfl (fun K hK=>?_);go_simp;refine hK.out _ _ ?_ (fun hHeld=>?_)
    ·(try dsimp only);exact hHeld
    clear hK K
    try simp only[Act.put,sA,sZ,sS]
    refine wpR 16 rfl (fun K hK=>?_);go_simp;refine(HcT.o _).mono ?_;rintro e V1 ⟨rfl,o1⟩
    go_wp2_with fail
    refine hK.out _ _ ?_ (fun hHeld=>?_)
    ·(try dsimp only);exact HK1.o _ o1
    clear hK K;refine (uU 17) ((uU 18) ((uU 19) ((uU 20) ?_)));obtain⟨-,-,d3,d4,d5,d6⟩:=HCl.o V1 o1;have dc:=(HCl.o V1 o1).1;refine wpR 21 rfl (fun K hK=>?_);go_simp;refine hK.out _ _ ?_ (fun hHeld=>?_)
    ·(try dsimp only);exact HK2.o _ _ _ _ nga (HK1.o _ o1)
    clear hK K;refine (uU 22) ?_;refine wpR 23 rfl (fun K hK=>?_);go_simp;refine hK.out _ _ ?_ (fun hHeld=>?_)
    ·(try dsimp only);exact HK2.o _ _ _ _ ngb (HK2.o _ _ _ _ nga (HK1.o _ o1))
    clear hK K
    try simp only[Act.put,sA,sZ,sS]
    refine wpAnyH_done zK ?_ _;have HN:=zH (NX.o V1 o1);clear HK1 HK2 HCl NX HcT o1 c1 c2 c3 c4 c5 c6 d3 d4 d5 d6 dc
    go_wp2_with fail
    go_roundw
    case rel=>exact⟨k+1,zO,by go_num,HN⟩
    case measure=>(simp[intOf];try omega)
   ·go_simp;refine hK.out _ _ ?_ (fun hHeld=>?_)
    ·(try dsimp only);exact hHeld
    clear hK K
    try simp only[Act.put,sA,sZ,sS]
    refine wpR 7 rfl (fun K hK=>?_);go_simp;refine hK.out _ _ ?_ (fun hHeld=>?_)
    ·(try dsimp only);exact hHeld
    clear hK K
    try simp only[Act.put,sA,sZ,sS]
    refine wpR 16 rfl (fun K hK=>?_);go_simp;refine(HcT.o _).mono ?_;rintro e V1 ⟨rfl,o1⟩
    go_wp2_with fail
    refine hK.out _ _ ?_ (fun hHeld=>?_)
    ·(try dsimp only);exact HK1.o _ o1
    clear hK K;refine (uU 17) ((uU 18) ((uU 19) ((uU 20) ?_)));obtain⟨-,-,d3,d4,d5,d6⟩:=HCl.o V1 o1;have dc:=(HCl.o V1 o1).1;refine wpR 21 rfl (fun K hK=>?_);go_simp;refine hK.out _ _ ?_ (fun hHeld=>?_)
    ·(try dsimp only);exact HK2.o _ _ _ _ nga (HK1.o _ o1)
    clear hK K;refine (uU 22) ?_;refine wpR 23 rfl (fun K hK=>?_);go_simp;refine hK.out _ _ ?_ (fun hHeld=>?_)
    ·(try dsimp only);exact HK2.o _ _ _ _ ngb (HK2.o _ _ _ _ nga (HK1.o _ o1))
    clear hK K
    try simp only[Act.put,sA,sZ,sS]
    refine wpAnyH_done zK ?_ _;have HN:=zH (NX.o V1 o1);clear HK1 HK2 HCl NX HcT o1 c1 c2 c3 c4 c5 c6 d3 d4 d5 d6 dc
    go_wp2_with fail
    go_roundw
    case rel=>exact⟨k+1,zO,by go_num,HN⟩
    case measure=>(simp[intOf];try omega)
  ·obtain rfl:k=8:=zO;have HE:Hid (CellsAt wr ga 8 (eG bB fa (fun k=>F (ob+k)))/\CellsAt wr gb m (aV F ob 8 (eG bA fa (fun k=>F (ob+k))))/\Kept X w wr):=by
    have h:=HS.o.ext (fa':=(eG bB fa (fun k=>F (ob+k)))) (fb':=(eG bA fa (fun k=>F (ob+k)))) (fun j hj=>by unfold rP;rw[if_pos hj]) (fun j hj=>by unfold rP;rw[if_pos hj]);exact⟨h.a,h.b,h.k⟩
   clear HS HT HR
   go_wp2_with fail
   go_end0
   exact⟨rfl,HE.o⟩
theorem aAm(X:Nat->Prop)(ga gb m ob ca cb:Nat)(fa F:nI)(w:World)(ha:CellsAt w ga 8 fa)(hb:CellsAt w gb m F)(hm:ob+8<=m)(hne:ga≠gb)(xa:¬X ga)(xb:¬X gb)(hX:∀q,X q->q<w.heap.size):
  Calls zP 114 #[.agg T8,.slice (some ⟨ga,0,none⟩) 8 ca,.slice (some ⟨gb,ob,none⟩) 8 cb] w fun e w'=>e=rJ (.tuple #[]) /\
   CellsAt w' ga 8 (eG cV fa (fun k=>F (ob+k)))/\CellsAt w' gb m (aV F ob 8 (eG bW fa (fun k=>F (ob+k))))/\Kept X w w':=by
 have hs:=kT;have HT:=zH aGI;have HZ:Hid ((zP.info? 53).map (·.size)=some 16):=zH zK;have hC:=zH (fun w=>ID (some ⟨ga,0,none⟩) (some ⟨gb,ob,none⟩) ca cb w);have H0:Hid (∀W,Old (w.alloc (.cells T8 53)) W->PT X w w.heap.size 53 ga gb m ob F fa (fun k=>F (ob+k)) W):=fun W hW=>by
  have h1:=(Old.alloc w (.cells T8 53)).trans hW;refine⟨ha.old h1,(hb.old h1).ext fun j hj=>?_,(hW.block _ zS).trans (heap_alloc_new _ _),Kept.mono h1 hX⟩;unfold aV;dsimp only;split
  ·rw[show ob+(j-ob)=j by omega]
  ·rfl
 have hga:=ha.lt;have hgb:=hb.lt;have HP:Hid (PT X w w.heap.size 53 ga gb m ob F=PT X w w.heap.size 53 ga gb m ob F):=rfl;clear ha hb HP;generalize hR:T8=R at hs hC |-;have HR:=zH hR;clear hR;go_enter func114,ntmps114
 go_wp2_with (with_reducible refine wpList_load_row rfl 53 _ rfl w.heap.size rfl 53 R (0,0) _ (heap_alloc_new _ _) underlying53 rfl (by rw[hs];exact HZ.o) ?_)
 refine(hC.o _).mono ?_;rintro e w1 ⟨rfl,ho1⟩;have H1:Hid (PT X w w.heap.size 53 ga gb m ob F fa (fun k=>F (ob+k)) w1):=H0.o w1 (by rw[HR.o];exact ho1);clear H0 ho1 hC
 go_wp2_with fail
 go_loopw [6] (fun i wr=>∃k:Nat,k<=8/\i=vI iJ ((k:Int)-1)/\Hid (PT X w w.heap.size 53 ga gb m ob F (kM k (eG cV fa (fun k=>F (ob+k))) fa) (kM k (eG bW fa (fun k=>F (ob+k))) (fun k=>F (ob+k))) wr)) (fun i _=>(intOf i+1).toNat)
 case atStart=>exact⟨8,zO,rfl,H1.o.ext (fun j hj=>(yB (eG cV fa (fun k=>F (ob+k))) fa j hj).symm) (fun j hj=>(yB (eG bW fa (fun k=>F (ob+k))) (fun k=>F (ob+k)) j hj).symm)⟩
 case round=>
  obtain⟨k1,hk,rfl,HS⟩:=hrel;clear H1;by_cases hlt:0<k1
  ·obtain⟨k,rfl⟩:∃k,k1=k+1:=⟨k1-1,zO⟩
   rw[show ((k+1:Nat):Int)-1=(k:Int) by omega];have i1:(0:Int)<=k:=zO;have i2:(k:Int)<8:=zO;have hk8:k<8:=zO;obtain⟨ga',hga'⟩:∃f,f=kM (k+1) (eG cV fa (fun k=>F (ob+k))) fa:=⟨_,rfl⟩
   obtain⟨gb',hgb'⟩:∃f,f=kM (k+1) (eG bW fa (fun k=>F (ob+k))) (fun k=>F (ob+k)):=⟨_,rfl⟩
   have ea:ga' k=fa k:=by rw[hga'];unfold kM;rw[if_pos zO]
   have eb:gb' k=F (ob+k):=by rw[hgb'];unfold kM;rw[if_pos zO]
   rw[<-hga',<-hgb']at HS;have hcT:=fun w=>OT (fa k) (F (ob+k)) (aS k) (aT k) w;have na:∀j,j<8->(if j=k then cV (fa k) (F (ob+k)) (aS k) (aT k) else ga' j)=kM k (eG cV fa (fun k=>F (ob+k))) fa j:=fun j hj=>by
    rw[hga'];unfold kM eG;by_cases e:j=k
    ·subst e;rw[if_pos rfl,if_neg zO]
    ·rw[if_neg e];by_cases c:j<k
     ·rw[if_pos zO,if_pos zO]
     ·rw[if_neg zO,if_neg zO]
   have nb:∀j,j<8->(if j=k then bW (fa k) (F (ob+k)) (aS k) (aT k) else gb' j)=kM k (eG bW fa (fun k=>F (ob+k))) (fun k=>F (ob+k)) j:=fun j hj=>by
    rw[hgb'];unfold kM eG;by_cases e:j=k
    ·subst e;rw[if_pos rfl,if_neg zO]
    ·rw[if_neg e];by_cases c:j<k
     ·rw[if_pos zO,if_pos zO]
     ·rw[if_neg zO,if_neg zO]
   obtain⟨x,hx⟩:=zG (fa k);obtain⟨y,hy⟩:=zG (F (ob+k));rw[<-hx,<-hy]at hcT na nb;rw[<-hx]at ea;rw[<-hy]at eb;have hT8:=HT.o k hk8;rw[HR.o]at hT8;have ht:=HS.o.t;rw[HR.o]at ht;generalize aS k=pv at *;generalize aT k=uv at *;generalize hva:cV x y pv uv=va at *;generalize hvb:bW x y pv uv=vb at *;have NX:Hid (∀V,Old wr.drew V->PT X w w.heap.size 53 ga gb m ob F (kM k (eG cV fa (fun k=>F (ob+k))) fa) (kM k (eG bW fa (fun k=>F (ob+k))) (fun k=>F (ob+k))) ((V.setCell ⟨ga,k,none⟩ (vI iJ va)).setCell ⟨gb,ob+k,none⟩ (vI iJ vb))):=fun V hV=>
    (HS.o.step (Old.drew (Old.refl _) |>.trans hV) hX hk8 hm hne zO zO xa xb va vb).ext na nb
   have keep1:∀V:World,Old wr.drew V->V.cell? ⟨w.heap.size,k*2,none⟩=some (vI iJ pv)/\V.cell? ⟨w.heap.size,k*2+1,none⟩=some (vI iJ uv):=fun V hV=>by
    have e:V.heap[w.heap.size]?=some (.cells R 53 (0,0)):=(hV.block _ (lt_of_block ht)).trans ht;exact⟨(cell_of_row _ _ _ _ _ _ e).trans hT8.1,(cell_of_row _ _ _ _ _ _ e).trans hT8.2⟩
   have keep2:∀(V:World) (g j:Nat) (v:Value),w.heap.size≠g->(V.cell? ⟨w.heap.size,k*2,none⟩=some (vI iJ pv)/\V.cell? ⟨w.heap.size,k*2+1,none⟩=some (vI iJ uv))->(V.setCell ⟨g,j,none⟩ v).cell? ⟨w.heap.size,k*2,none⟩=some (vI iJ pv)/\(V.setCell ⟨g,j,none⟩ v).cell? ⟨w.heap.size,k*2+1,none⟩=some (vI iJ uv):=fun V g j v hg hV=>
    ⟨(World.cell?_setCell_far _ _ _ _ (fun e=>hg e.symm)).trans hV.1,(World.cell?_setCell_far _ _ _ _ (fun e=>hg e.symm)).trans hV.2⟩
   have cells:∀V:World,Old wr.drew V->V.cell? ⟨ga,k,none⟩=some (vI iJ x)/\V.cell? ⟨gb,ob+k,none⟩=some (vI iJ y)/\V.frozen? ⟨ga,k,none⟩=false/\V.frozen? ⟨gb,ob+k,none⟩=false /\
     (V.setCell ⟨ga,k,none⟩ (vI iJ va)).cell? ⟨gb,ob+k,none⟩=some (vI iJ y)/\(V.setCell ⟨ga,k,none⟩ (vI iJ va)).frozen? ⟨gb,ob+k,none⟩=false:=fun V hV=>by
    have a1:=(HS.o.a.drew.old hV).cell k hk8;have a2:=(HS.o.a.drew.old hV).frz k hk8;have b1:=(HS.o.b.drew.old hV).cell (ob+k) zO;have b2:=(HS.o.b.drew.old hV).frz (ob+k) zO;unfold aV at b1;rw[if_pos ⟨zO,zO⟩,show ob+k-ob=k by omega,eb]at b1;rw[ea]at a1;refine⟨a1,b1,a2,b2,?_,?_⟩
    ·rw[World.cell?_setCell_far _ _ _ _ (by exact hne)];exact b1
    ·rw[World.frozen?_setCell];exact b2
   have HK1:=zH keep1;have HK2:=zH keep2;have HCl:=zH cells;have HcT:=zH hcT;have nga:w.heap.size≠ga:=zO;have ngb:w.heap.size≠gb:=zO;obtain⟨c1,c2,c3,c4,c5,c6⟩:=cells wr.drew (Old.refl _);clear keep1 keep2 cells hcT na nb hx hy hga' hgb' ea eb hT8 ht HS HT HR hva hvb HZ
   go_wp2_with fail
   refine wp_region_held_drew (S:=(fun w'=>w'.cell? ⟨w.heap.size,k*2,none⟩=some (vI iJ pv)/\w'.cell? ⟨w.heap.size,k*2+1,none⟩=some (vI iJ uv))) zK ?_ (fun hHeld=>?_)
   ·(try dsimp only);exact HK1.o _ (Old.refl _)
   refine (uU 0) ((uU 1) ((uU 2) ((uU 3) ((uU 4) ((uU 5) ((uU 6) ((uU 8) ((uU 9) ((uU 10) ((uU 12) ((uU 13) ((uU 14) ((uU 15) ?_)))))))))))));refine wpAnyH_ready (rs:=[7,11]) zK zS ?_;refine AllReadyH.cons (o:=⟨_,_,_,_,_,_⟩) rfl (fun K hK=>?_) (AllReadyH.cons (o:=⟨_,_,_,_,_,_⟩) rfl (fun K hK=>?_) AllReadyH.nil)
   ·go_simp;refine hK.out _ _ ?_ (fun hHeld=>?_)
    ·(try dsimp only);exact hHeld
    clear hK K
    try simp only[Act.put,sA,sZ,sS]
    refine wpR 11 rfl (fun K hK=>?_);go_simp;refine hK.out _ _ ?_ (fun hHeld=>?_)
    ·(try dsimp only);exact hHeld
    clear hK K
    try simp only[Act.put,sA,sZ,sS]
    refine wpR 16 rfl (fun K hK=>?_);go_simp;refine(HcT.o _).mono ?_;rintro e V1 ⟨rfl,o1⟩
    go_wp2_with fail
    refine hK.out _ _ ?_ (fun hHeld=>?_)
    ·(try dsimp only);exact HK1.o _ o1
    clear hK K;refine (uU 17) ((uU 18) ((uU 19) ((uU 20) ?_)));obtain⟨-,-,d3,d4,d5,d6⟩:=HCl.o V1 o1;have dc:=(HCl.o V1 o1).1;refine wpR 21 rfl (fun K hK=>?_);go_simp;refine hK.out _ _ ?_ (fun hHeld=>?_)
    ·(try dsimp only);exact HK2.o _ _ _ _ nga (HK1.o _ o1)
    clear hK K;refine (uU 22) ?_;refine wpR 23 rfl (fun K hK=>?_);go_simp;refine hK.out _ _ ?_ (fun hHeld=>?_)
    ·(try dsimp only);exact HK2.o _ _ _ _ ngb (HK2.o _ _ _ _ nga (HK1.o _ o1))
    clear hK K
    try simp only[Act.put,sA,sZ,sS]
    refine wpAnyH_done zK ?_ _;have HN:=zH (NX.o V1 o1);clear HK1 HK2 HCl NX HcT o1 c1 c2 c3 c4 c5 c6 d3 d4 d5 d6 dc
    go_wp2_with fail
    go_roundw
    case rel=>exact⟨k,zO,by go_num,HN⟩
    case measure=>(simp[intOf];try omega)
   ·go_simp;refine hK.out _ _ ?_ (fun hHeld=>?_)
    ·(try dsimp only);exact hHeld
    clear hK K
    try simp only[Act.put,sA,sZ,sS]
    refine wpR 7 rfl (fun K hK=>?_);go_simp;refine hK.out _ _ ?_ (fun hHeld=>?_)
    ·(try dsimp only);exact hHeld
    clear hK K
    try simp only[Act.put,sA,sZ,sS]
    refine wpR 16 rfl (fun K hK=>?_);go_simp;refine(HcT.o _).mono ?_;rintro e V1 ⟨rfl,o1⟩
    go_wp2_with fail
    refine hK.out _ _ ?_ (fun hHeld=>?_)
    ·(try dsimp only);exact HK1.o _ o1
    clear hK K;refine (uU 17) ((uU 18) ((uU 19) ((uU 20) ?_)));obtain⟨-,-,d3,d4,d5,d6⟩:=HCl.o V1 o1;have dc:=(HCl.o V1 o1).1;refine wpR 21 rfl (fun K hK=>?_);go_simp;refine hK.out _ _ ?_ (fun hHeld=>?_)
    ·(try dsimp only);exact HK2.o _ _ _ _ nga (HK1.o _ o1)
    clear hK K;refine (uU 22) ?_;refine wpR 23 rfl (fun K hK=>?_);go_simp;refine hK.out _ _ ?_ (fun hHeld=>?_)
    ·(try dsimp only);exact HK2.o _ _ _ _ ngb (HK2.o _ _ _ _ nga (HK1.o _ o1))
    clear hK K
    try simp only[Act.put,sA,sZ,sS]
    refine wpAnyH_done zK ?_ _;have HN:=zH (NX.o V1 o1);clear HK1 HK2 HCl NX HcT o1 c1 c2 c3 c4 c5 c6 d3 d4 d5 d6 dc
    go_wp2_with fail
    go_roundw
    case rel=>exact⟨k,zO,by go_num,HN⟩
    case measure=>(simp[intOf];try omega)
  ·obtain rfl:k1=0:=zO;have HE:Hid (CellsAt wr ga 8 (eG cV fa (fun k=>F (ob+k)))/\CellsAt wr gb m (aV F ob 8 (eG bW fa (fun k=>F (ob+k))))/\Kept X w wr):=by
    have h:=HS.o.ext (fa':=(eG cV fa (fun k=>F (ob+k)))) (fb':=(eG bW fa (fun k=>F (ob+k)))) (fun j hj=>by unfold kM;rw[if_neg zO]) (fun j hj=>by unfold kM;rw[if_neg zO]);exact⟨h.a,h.b,h.k⟩
   clear HS HT HR;rw[show ((0:Nat):Int)-1 = -1 from rfl]
   go_wp2_with fail
   go_end0
   exact⟨rfl,HE.o⟩
theorem sN(g:nI)(i:Int):0<=mG g i/\mG g i<=3:=by
 unfold mG;split
 ·rename_i h
  have:=h.2.2 (i/4).toNat zO;omega
 ·omega
theorem aAg(x:Int):IntKind.i64.wrap x=wrap64 x:=by rw[IntKind.wrap_i64];unfold wrap64;omega
def PR(x s:Int):Int:=wrap64 (x*2 ^ s.toNat)
def NK(f g:nI):nI:=fun k=>PR (f k) (mG g k)
def fZ(x s:Int):Int:=iW x (pw s.toNat)
def aIi(f g:nI):nI:=fun k=>fZ (f k) (mG g k)
def toB(n:Nat)(f g:nI):nI:=fun k=>if k<n then f k else g k
structure UpSt(w:World)(tb tg:TypeId)(z:Array Value)(f g:nI)(W:World):Prop where
 b:W.heap[w.heap.size]?=some (.cells (aA 16 (blk f)) tb (0,0))
 g:W.heap[w.heap.size+1]?=some (.cells (aA 4 (blk g)) tg (0,0))
 r:W.heap[w.heap.size+1+1]?=some (.cells z tb (0,0))
 old:Old w W
namespace UpSt
variable {w W V:World} {tb tg:TypeId} {z:Array Value} {f g:nI}
theorem keep(h:UpSt w tb tg z f g W)(o:Old W V):UpSt w tb tg z f g V:=
 ⟨(o.block _ (lt_of_block h.b)).trans h.b,(o.block _ (lt_of_block h.g)).trans h.g,(o.block _ (lt_of_block h.r)).trans h.r,h.old.trans o⟩
theorem set(h:UpSt w tb tg z f g W)(j:Nat)(hj:j<16)(v:Int):UpSt w tb tg z (fun k=>if k=j then v else f k) g (W.setCell ⟨w.heap.size,j,none⟩ (vI iJ v)):=by
 refine⟨?_,(heap_setCell_other _ _ _ _ zS).trans h.g,(heap_setCell_other _ _ _ _ (by simp;omega)).trans h.r,h.old.after (Kept.setCell (X:=fun k=>k<w.heap.size) _ (a:=⟨w.heap.size,j,none⟩) (by show ¬w.heap.size<w.heap.size;omega) _) fun _ hk=>hk⟩;rw[<-iA,<-dS _ _ _ _ hj];exact heap_setCell_same _ _ _ _ _ _ h.b
theorem cell(h:UpSt w tb tg z f g W)(j:Nat)(hj:j<16):W.cell? ⟨w.heap.size,j,none⟩=some (vI iJ (f j))/\W.frozen? ⟨w.heap.size,j,none⟩=false:=
 ⟨(cell_of_row _ _ _ _ _ _ h.b).trans (dR 16 f j hj),frozen_of_row _ _ _ _ _ h.b⟩
theorem row(h:UpSt w tb tg z f g W)(cs:Array Value):(W.setRow (w.heap.size+1+1) cs).heap[w.heap.size+1+1]?=some (.cells cs tb (0,0))/\Old w (W.setRow (w.heap.size+1+1) cs):=
 ⟨setRow_heap _ _ _ _ _ _ h.r,h.old.after (X:=fun k=>k<w.heap.size) ⟨rfl,rfl,zS,fun k hk=>setRow_other _ _ _ _ zO⟩ fun _ h=>h⟩
end UpSt
theorem aEe(n:Nat)(f g:nI)(v:Int)(hv:v=f n):(fun k=>if k=n then v else toB n f g k)=toB (n+1) f g:=by
 funext k;unfold toB;by_cases h:k=n
 ·subst h;rw[if_pos rfl,if_pos zO,hv]
 ·rw[if_neg h];by_cases h2:k<n
  ·rw[if_pos h2,if_pos zO]
  ·rw[if_neg h2,if_neg zO]
theorem aCH(f g:nI):toB 0 f g=g:=by funext k;unfold toB;rw[if_neg zO]
theorem aBb(w:World)(tb tg:TypeId)(z:Array Value)(f g:nI):UpSt w tb tg z f g (((w.alloc (.cells (aA 16 (blk f)) tb)).alloc (.cells (aA 4 (blk g)) tg)).alloc (.cells z tb)):=by
 refine⟨?_,?_,?_,((Old.alloc w _).alloc' _).alloc' _⟩
 ·exact(Below.heap_alloc _ _ _ (by simp;omega)).trans (heap_alloc2_old w _ _)
 ·exact(Below.heap_alloc _ _ _ zS).trans (heap_alloc2_new w _ _)
 ·have:=heap_alloc_new ((w.alloc (.cells (aA 16 (blk f)) tb)).alloc (.cells (aA 4 (blk g)) tg)) (.cells z tb);rw[World.size_alloc,World.size_alloc]at this;exact this
theorem aHk(f g:nI)(w:World):
  Calls zP 183 #[.agg (aA 16 (blk f)),.agg (aA 4 (blk g))] w fun e w'=>e=rJ (.agg (aA 16 (blk (NK f g))))/\Old w w':=by
 obtain⟨z,hz⟩:∃z:Array Value,z=#[vI iJ 0,vI iJ 0,vI iJ 0,vI iJ 0,vI iJ 0,vI iJ 0,vI iJ 0,vI iJ 0,vI iJ 0,vI iJ 0,vI iJ 0,vI iJ 0,vI iJ 0,vI iJ 0,vI iJ 0,vI iJ 0]:=⟨_,rfl⟩
 have hzs:z.size=16:=by rw[hz];rfl
 have hst:=aBb w 43 44 z f g;have HAt:=zH (fun(i:Nat) (h:i<16) w=>QL g i w zO zO);have Hs4:Hid ((zP.info? 44).map (·.size)=some 4):=zH zK;have H0:Hid (UpSt w 43 44 z (toB 0 (NK f g) f) g (((w.alloc (.cells (aA 16 (blk f)) 43)).alloc (.cells (aA 4 (blk g)) 44)).alloc (.cells z 43))):=by rw[aCH];exact hst
 clear hst;go_enter func183,ntmps183
 go_wp2_with fail
 rw[<-hz];clear hz
 go_loopw [6] (fun i wr=>∃k:Nat,k<=16/\i=vI iJ k/\Hid (UpSt w 43 44 z (toB k (NK f g) f) g wr)) (fun i _=>16-(intOf i).toNat)
 case atStart=>exact⟨0,zO,rfl,H0⟩
 case round=>
  obtain⟨k,hk,rfl,HS⟩:=hrel;clear H0;by_cases hlt:k<16
  ·have i1:(0:Int)<=k:=zO;have i2:(k:Int)<16:=zO;have hA:=HAt.o k hlt;obtain⟨s0,s3⟩:=sN g k;have NX:Hid (∀V,Old wr.drew V->UpSt w 43 44 z (toB (k+1) (NK f g) f) g (V.setCell ⟨w.heap.size,k,none⟩ (vI iJ (PR (f k) (mG g k))))):=fun V hV=>by
    have h:=(HS.o.keep (Old.drew (Old.refl _) |>.trans hV)).set k hlt (PR (f k) (mG g k));rw[aEe k (NK f g) f (PR (f k) (mG g k)) rfl]at h;exact h
   have cells:Hid (∀V,Old wr.drew V->V.cell? ⟨w.heap.size,k,none⟩=some (vI iJ (f k))/\V.frozen? ⟨w.heap.size,k,none⟩=false/\V.heap[w.heap.size+1]?=some (.cells (aA 4 (blk g)) 44 (0,0))):=fun V hV=>by
    have h:=HS.o.keep (Old.drew (Old.refl _) |>.trans hV);have c:=h.cell k hlt;unfold toB at c;rw[if_neg zO]at c;exact⟨c.1,c.2,h.g⟩
   have keep2:Hid (∀(V:World) (v:Value),V.heap[w.heap.size+1]?=some (.cells (aA 4 (blk g)) 44 (0,0))->(V.setCell ⟨w.heap.size,k,none⟩ v).heap[w.heap.size+1]?=some (.cells (aA 4 (blk g)) 44 (0,0))):=fun V v hV=>(heap_setCell_other _ _ _ _ zS).trans hV;have HA:=zH hA;obtain⟨x,hx⟩:=zG (f k);rw[<-hx]at NX cells;clear hA hx HAt HS;generalize mG g (k:Int)=s at *;have q1:IntKind.i64.wrap (x*2 ^ s.toNat)=PR x s:=aAg _;have q2:wrap64 (x*2 ^ s.toNat)=PR x s:=rfl;generalize PR x s=u at *;obtain⟨c1,c2,c3⟩:=cells.o wr.drew (Old.refl _)
   go_wp2_with fail
   refine wp_region_held_drew (S:=(fun w'=>w'.heap[w.heap.size+1]?=some (.cells (aA 4 (blk g)) 44 (0,0)))) zK ?_ (fun hHeld=>?_)
   ·(try dsimp only);exact c3
   refine (uU 0) ((uU 1) ?_);refine (uT 3 (v:=.agg (aA 4 (blk g))) rfl (aG zK 44 (.tmp 3) rfl (w.heap.size+1) rfl 44 (aA 4 (blk g)) (0,0) _ (fun _ h=>h) underlying44 rfl (by rw[aB];exact Hs4.o))) ?_;refine (uU 4) ?_;refine wpAnyH_ready (rs:=[2,5]) zK zS ?_;refine AllReadyH.cons (o:=⟨_,_,_,_,_,_⟩) rfl (fun K hK=>?_) (AllReadyH.cons (o:=⟨_,_,_,_,_,_⟩) rfl (fun K hK=>?_) AllReadyH.nil)
   ·go_simp;refine hK.out _ _ ?_ (fun hHeld=>?_)
    ·(try dsimp only);exact c3
    clear hK K
    try simp only[Act.put,sA,sZ,sS]
    refine wpR 5 rfl (fun K hK=>?_);go_simp;refine(HA.o _).mono ?_;rintro e V1 ⟨rfl,o1⟩
    go_wp2_with fail
    refine hK.out _ _ ?_ (fun hHeld=>?_)
    ·(try dsimp only);exact(cells.o V1 o1).2.2
    clear hK K;refine (uU 6) ((uU 7) ?_);obtain⟨d1,d2,d3⟩:=cells.o V1 o1;refine wpR 8 rfl (fun K hK=>?_);go_simp;refine hK.out _ _ ?_ (fun hHeld=>?_)
    ·(try dsimp only);exact keep2.o _ _ d3
    clear hK K
    try simp only[Act.put,sA,sZ,sS]
    refine wpAnyH_done zK ?_ _;have HN:=zH (NX.o V1 o1);clear cells keep2 NX o1 c1 c2 c3 d1 d2 d3 q1 q2 HA
    go_wp2_with fail
    go_roundw
    case rel=>exact⟨k+1,zO,by go_num,HN⟩
    case measure=>exact zM
   ·go_simp;refine(HA.o _).mono ?_;rintro e V1 ⟨rfl,o1⟩
    go_wp2_with fail
    refine hK.out _ _ ?_ (fun hHeld=>?_)
    ·(try dsimp only);exact(cells.o V1 o1).2.2
    clear hK K
    try simp only[Act.put,sA,sZ,sS]
    obtain⟨d1,d2,d3⟩:=cells.o V1 o1;refine wpR 2 rfl (fun K hK=>?_);go_simp;refine hK.out _ _ ?_ (fun hHeld=>?_)
    ·(try dsimp only);exact d3
    clear hK K;refine (uU 6) ((uU 7) ?_);refine wpR 8 rfl (fun K hK=>?_);go_simp;refine hK.out _ _ ?_ (fun hHeld=>?_)
    ·(try dsimp only);exact keep2.o _ _ d3
    clear hK K
    try simp only[Act.put,sA,sZ,sS]
    refine wpAnyH_done zK ?_ _;have HN:=zH (NX.o V1 o1);clear cells keep2 NX o1 c1 c2 c3 d1 d2 d3 q1 q2 HA
    go_wp2_with fail
    go_roundw
    case rel=>exact⟨k+1,zO,by go_num,HN⟩
    case measure=>exact zM
  ·obtain rfl:k=16:=zO;have hg:aA 16 (blk (toB 16 (NK f g) f))=aA 16 (blk (NK f g)):=kA _ _ _ fun k hk=>by unfold blk toB;rw[if_pos hk]
   have Hg:=zH HS.o.b;rw[hg]at Hg;have Hr:=zH HS.o.r;have Hd:=zH (HS.o.row (aA 16 (blk (NK f g))));have Hs:Hid ((zP.info? 43).map (·.size)=some 16):=zH zK;have H1:Hid ((aA 16 (blk (NK f g))).all (·.oneCell')=true):=zH (bN _ _);clear HS hg HAt;have hsz:=aB 16 (blk (NK f g))
   go_wp2_with (first | (with_reducible refine wpList_load_row rfl 43 _ rfl w.heap.size rfl 43 (aA 16 (blk (NK f g))) (0,0) _ Hg.o underlying43 rfl (by rw[hsz];exact Hs.o) ?_) | (with_reducible refine wpList_store_row rfl 43 _ _ rfl (w.heap.size+1+1) (aA 16 (blk (NK f g))) rfl rfl 43 _ Hr.o (by rw[hsz];exact Hs.o) (by rw[hsz];exact hzs) H1.o ?_))
   exact bodyPost_ret (results_cell_row rfl _ _ (w.heap.size+1+1) 43 (aA 16 (blk (NK f g))) (0,0) _ rfl Hd.o.1 underlying43 rfl (by rw[hsz];exact Hs.o)) rfl ⟨rfl,Hd.o.2⟩
def iL(f h:nI)(i:Nat):Int:=if 8<=i then cV (f i) (h (15-i)) (aS (15-i)) (aT (15-i)) else bW (h (15-i)) (f i) (aS i) (aT i)
theorem OD(f h:nI)(i:Nat):-9223372036854775808<=iL f h i/\iL f h i<=9223372036854775807:=by
 unfold iL;split <;> exact fT _
theorem Tryz.arr8_len:zP.arrayLen 220=8:=zK
theorem Tryz.arr8_elem:∀w,(sizeOf (zP.elem 220)).run zP w=.ok 1 w:=fun w=>zK
theorem Tryz.arr8_under:zP.underlying 220=some (.array (zP.arrayLen 220) (zP.elem 220)):=zK
theorem SI(bb ob i:Nat)(f:nI)(w:World)(hb:bb<w.heap.size)(hc:∀k,k<16->w.cell? ⟨bb,ob+k,none⟩=some (vI iJ (f k)))(hi:i<16):
  Calls zP 77 #[.agg T8,.pointer (some ⟨bb,ob,none⟩),.pointer none,vI iJ i] w fun e w'=>e=rJ (vI iJ (f i))/\Old w w':=by
 have c1:(w.alloc (.cells T8 57)).cell? ⟨bb,ob+i,none⟩=some (vI iJ (f i)):=((Old.alloc w _).cell (a:=⟨bb,ob+i,none⟩) hb).trans (hc i hi);have i1:(0:Int)<=i:=zO;have i2:(i:Int)<16:=zO;have hs:=kT;clear hc;generalize f i=x at *;generalize T8=R at *;go_enter func77,ntmps77
 go_wp2_with fail
 go_ret;exact⟨rfl,Old.alloc _ _⟩
theorem aGK:(#[vI iJ 0,vI iJ 0,vI iJ 0,vI iJ 0,vI iJ 0,vI iJ 0,vI iJ 0,vI iJ 0]:Array Value)=aA 8 (blk fun _=>0):=rfl
theorem MJ(bb ob bo oo i:Nat)(f h:nI)(w:World)(hb:bb<w.heap.size)(ho:bo<w.heap.size)(hc:∀k,k<16->w.cell? ⟨bb,ob+k,none⟩=some (vI iJ (f k)))(hd:∀k,k<16->w.cell? ⟨bo,oo+k,none⟩=some (vI iJ (h k)))(hi:i<16):
  Calls zP 77 #[.agg T8,.pointer (some ⟨bb,ob,none⟩),.pointer (some ⟨bo,oo,none⟩),vI iJ i] w fun e w'=>e=rJ (vI iJ (iL f h i))/\Old w w':=by
 have i1:(0:Int)<=i:=zO;have i2:(i:Int)<16:=zO;have r1:(i:Int)<=15:=zO;have r2:15-(i:Int)<16:=zO;have hs:=kT;have HZ:Hid ((zP.info? 53).map (·.size)=some 16):=zH zK;obtain⟨W0,hW0⟩:∃V,V=((w.alloc (.cells T8 57)).alloc (.cells #[vI iJ 0,vI iJ 0,vI iJ 0,vI iJ 0,vI iJ 0,vI iJ 0,vI iJ 0,vI iJ 0] 220)).alloc (.cells #[vI iJ 0,vI iJ 0,vI iJ 0,vI iJ 0,vI iJ 0,vI iJ 0,vI iJ 0,vI iJ 0] 220):=⟨_,rfl⟩
 have o0:Old w W0:=by rw[hW0];exact((Old.alloc w _).alloc' _).alloc' _
 have HC:Hid (∀V,Old W0 V->V.cell? ⟨bb,ob+i,none⟩=some (vI iJ (f i))/\V.cell? ⟨bo,oo+(15-i),none⟩=some (vI iJ (h (15-i)))):=fun V hV=>
  ⟨((o0.trans hV).cell (a:=⟨bb,ob+i,none⟩) hb).trans (hc i hi),((o0.trans hV).cell (a:=⟨bo,oo+(15-i),none⟩) ho).trans (hd (15-i) zO)⟩
 have hA:CellsAt W0 (w.heap.size+1) 8 (fun _=>0):=by
  rw[hW0,aGK];have:=fG (w.alloc (.cells T8 57)) 8 (fun _=>0) 220;rw[World.size_alloc]at this;exact this.old (Old.alloc _ _)
 have hB:CellsAt W0 (w.heap.size+1+1) 8 (fun _=>0):=by
  rw[hW0,aGK];have:=fG ((w.alloc (.cells T8 57)).alloc (.cells (aA 8 (blk fun _=>0)) 220)) 8 (fun _=>0) 220;rw[World.size_alloc,World.size_alloc]at this;exact this
 have hX:W0.heap[w.heap.size]?=some (.cells T8 57 (0,0)):=by rw[hW0];exact(Below.heap_alloc _ _ _ (by simp;omega)).trans ((Below.heap_alloc _ _ _ zS).trans (heap_alloc_new _ _))
 have hsz:W0.heap.size=w.heap.size+1+1+1:=by rw[hW0];simp
 have HX:=zH hX;have HA:=zH hA;have HB:=zH hB;have HO:=zH o0;have HSz:=zH hsz;have hS1:=fun o w=>eM (P:=zP) (t:=220) 8 Tryz.arr8_under Tryz.arr8_len Tryz.arr8_elem zO (w.heap.size+1) o w;have hS2:=fun(V:World)=>eM (P:=zP) (t:=220) 8 Tryz.arr8_under Tryz.arr8_len Tryz.arr8_elem zO (w.heap.size+1) 0 V;have hS3:=fun(V:World)=>eM (P:=zP) (t:=220) 8 Tryz.arr8_under Tryz.arr8_len Tryz.arr8_elem zO (w.heap.size+1+1) 0 V;have HPB:=zH (fun(fa F:nI) (V:World) (ha:CellsAt V (w.heap.size+1) 8 fa) (hb:CellsAt V (w.heap.size+1+1) 8 F) (hsz:w.heap.size<V.heap.size)=>aAm (fun q=>q<w.heap.size+1) (w.heap.size+1) (w.heap.size+1+1) 8 0 8 8 fa F V ha hb zO zO zO zO (fun q hq=>zO));clear hS1 hA hB hX o0 hsz hc hd;by_cases h8:8<=i
 ·have k8:(15-i)<8:=zO;have m1:(15-(i:Int))<8:=zO;have m2:(i:Int)>=15-(i:Int):=zO;have m3:0<=(15-(i:Int)):=zO;have e:iL f h i=cV (f i) (h (15-i)) (aS (15-i)) (aT (15-i)):=by unfold iL;rw[if_pos zO]
  rw[e];have HSt:Hid (∀V,V=((W0.setCell ⟨w.heap.size+1,(15-i),none⟩ (vI iJ (f i))).setCell ⟨w.heap.size+1+1,(15-i),none⟩ (vI iJ (h (15-i)))).drew->CellsAt V (w.heap.size+1) 8 (fun j=>if j=(15-i) then f i else 0)/\CellsAt V (w.heap.size+1+1) 8 (fun j=>if j=(15-i) then h (15-i) else 0) /\
    V.heap[w.heap.size]?=some (.cells T8 57 (0,0))/\Old w V):=by
   rintro V rfl;refine⟨?_,?_,?_,?_⟩
   ·exact((HA.o.drew.set (15-i) k8 (f i)).setOther (a:=⟨w.heap.size+1+1,15-i,none⟩) (by show w.heap.size+1+1≠w.heap.size+1;omega) _)
   ·exact((HB.o.drew.setOther (a:=⟨w.heap.size+1,15-i,none⟩) (by show w.heap.size+1≠w.heap.size+1+1;omega) _).set (15-i) k8 (h (15-i)))
   ·exact(Below.heap_setCell _ _ _ _ (by show w.heap.size≠w.heap.size+1+1;omega)).trans ((Below.heap_setCell _ _ _ _ (by show w.heap.size≠w.heap.size+1;omega)).trans HX.o)
   ·exact(HO.o.drew.after (Kept.setCell (X:=fun q=>q<w.heap.size) _ (a:=⟨w.heap.size+1,(15-i),none⟩) (by show ¬w.heap.size+1<w.heap.size;omega) _) fun _ h=>h).after (Kept.setCell (X:=fun q=>q<w.heap.size) _ (a:=⟨w.heap.size+1+1,(15-i),none⟩) (by show ¬w.heap.size+1+1<w.heap.size;omega) _) fun _ h=>h
  have d1:W0.drew.cell? ⟨w.heap.size+1,(15-i),none⟩=some (vI iJ 0):=HA.o.drew.cell _ k8;have d2:W0.drew.frozen? ⟨w.heap.size+1,(15-i),none⟩=false:=HA.o.drew.frz _ k8;have d3:(W0.drew.setCell ⟨w.heap.size+1,(15-i),none⟩ (vI iJ (f i))).cell? ⟨w.heap.size+1+1,(15-i),none⟩=some (vI iJ 0):=(HB.o.drew.setOther (a:=⟨w.heap.size+1,(15-i),none⟩) (by show w.heap.size+1≠w.heap.size+1+1;omega) _).cell _ k8;have d4:(W0.drew.setCell ⟨w.heap.size+1,(15-i),none⟩ (vI iJ (f i))).frozen? ⟨w.heap.size+1+1,(15-i),none⟩=false:=(HB.o.drew.setOther (a:=⟨w.heap.size+1,(15-i),none⟩) (by show w.heap.size+1≠w.heap.size+1+1;omega) _).frz _ k8;have d5:W0.cell? ⟨w.heap.size+1+1,(15-i),none⟩=some (vI iJ 0):=HB.o.cell _ k8;have d6:W0.frozen? ⟨w.heap.size+1+1,(15-i),none⟩=false:=HB.o.frz _ k8;have HC2:Hid (∀V,V=W0.drew\/V=W0.drew.setCell ⟨w.heap.size+1,(15-i),none⟩ (vI iJ (f i))\/V=(W0.drew.setCell ⟨w.heap.size+1,(15-i),none⟩ (vI iJ (f i))).setCell ⟨w.heap.size+1+1,(15-i),none⟩ (vI iJ (h (15-i)))->V.cell? ⟨bb,ob+i,none⟩=some (vI iJ (f i))/\V.cell? ⟨bo,oo+(15-i),none⟩=some (vI iJ (h (15-i)))):=fun V hV=>by
   obtain⟨c1,c2⟩:=HC.o W0.drew (Old.drew (Old.refl _));have n1:bb≠w.heap.size+1:=zO;have n2:bb≠w.heap.size+1+1:=zO;have n3:bo≠w.heap.size+1:=zO;have n4:bo≠w.heap.size+1+1:=zO;rcases hV with rfl | rfl | rfl
   ·exact⟨c1,c2⟩
   ·exact⟨(World.cell?_setCell_far _ _ _ _ (by simp;omega)).trans c1,(World.cell?_setCell_far _ _ _ _ (by simp;omega)).trans c2⟩
   ·exact⟨(World.cell?_setCell_far _ _ _ _ (by simp;omega)).trans ((World.cell?_setCell_far _ _ _ _ (by simp;omega)).trans c1),(World.cell?_setCell_far _ _ _ _ (by simp;omega)).trans ((World.cell?_setCell_far _ _ _ _ (by simp;omega)).trans c2)⟩
  have hRes:∀V,CellsAt V (w.heap.size+1) 8 (eG cV (fun j=>if j=(15-i) then f i else 0) (fun j=>(fun j=>if j=(15-i) then h (15-i) else 0) (0+j)))->CellsAt V (w.heap.size+1+1) 8 (aV (fun j=>if j=(15-i) then h (15-i) else 0) 0 8 (eG bW (fun j=>if j=(15-i) then f i else 0) (fun j=>(fun j=>if j=(15-i) then h (15-i) else 0) (0+j))))->V.cell? ⟨w.heap.size+1,(15-i),none⟩=some (vI iJ (cV (f i) (h (15-i)) (aS (15-i)) (aT (15-i)))):=fun V h1 h2=>by
   have h:=h1.cell (15-i) k8;rw[h];unfold eG;dsimp only;rw[if_pos rfl,if_pos zO]
  have HRes:=zH hRes;clear hRes e HC HA HB HX HO;obtain⟨xf,hxf⟩:∃x,x=f i:=⟨_,rfl⟩
  obtain⟨xh,hxh⟩:∃x,x=h (15-i):=⟨_,rfl⟩
  obtain⟨xr,hxr⟩:∃x,x=cV (f i) (h (15-i)) (aS (15-i)) (aT (15-i)):=⟨_,rfl⟩
  rw[<-hxr]at HRes |-;rw[<-hxf,<-hxh]at HSt HC2 HRes;rw[<-hxf]at d3 d4;clear hxf hxh hxr;generalize hT:T8=R at hs HSt HPB hW0 |-;clear hT;go_enter func77,ntmps77
  go_wp2_with fail
  rw[<-hW0];clear hW0;refine wp_region_held_drew (S:=(fun w'=>w'.cell? ⟨bb,ob+i,none⟩=some (vI iJ xf)/\w'.cell? ⟨bo,oo+(15-i),none⟩=some (vI iJ xh))) zK ?_ (fun hHeld=>?_)
  ·(try dsimp only);exact HC2.o _ (.inl rfl)
  refine (uU 0) ((uU 1) ((uU 2) ((uU 3) ((uU 4) ((uU 5) ((uU 6) ((uU 7) ((uU 8) ((uU 9) ((uU 10) ((uU 11) ((uU 12) ((uU 13) ((uU 14) ((uU 15) ((uU 17) ?_))))))))))))))));refine wpR 16 rfl (fun K hK=>?_);go_simp;refine hK.out _ _ ?_ (fun hHeld=>?_)
  ·(try dsimp only);exact HC2.o _ (.inr (.inl rfl))
  clear hK K;refine (uU 18) ?_;refine wpR 19 rfl (fun K hK=>?_);go_simp;refine hK.out _ _ ?_ (fun hHeld=>?_)
  ·(try dsimp only);exact HC2.o _ (.inr (.inr rfl))
  clear hK K
  try simp only[Act.put,sA,sZ,sS]
  refine wpAnyH_done zK ?_ _;obtain⟨V1,hV1⟩:∃V,V=((W0.setCell ⟨w.heap.size+1,(15-i),none⟩ (vI iJ xf)).setCell ⟨w.heap.size+1+1,(15-i),none⟩ (vI iJ xh)).drew:=⟨_,rfl⟩
  rw[<-hV1];have HSt:=zH (HSt.o V1 hV1);have hbx:=HSt.o.2.2.1;have HPc:=zH (HPB.o _ _ V1.drew HSt.o.1.drew HSt.o.2.1.drew (by have:=HSt.o.1.lt;show w.heap.size<V1.heap.size;omega));have HO1:=zH HSt.o.2.2.2;clear hV1 HSt HC2 d1 d2 d3 d4 d5 d6 HPB
  go_wp2_with fail
  refine wp_region_held_drew (S:=(fun w'=>w'.heap[w.heap.size]?=some (.cells R 57 (0,0)))) zK ?_ (fun hHeld=>?_)
  ·(try dsimp only);exact hbx
  refine (uU 0) ?_;refine (uT 1 (v:=.agg R) rfl (aG zK 53 (.tmp 47) rfl w.heap.size rfl 57 R (0,0) _ (fun _ h=>h) underlying53 rfl (by rw[hs];exact HZ.o))) ?_;refine (uU 2) ((uU 3) ?_);refine wpR 4 rfl (fun K hK=>?_);go_simp;refine HPc.o.mono ?_;rintro e V2 ⟨rfl,hA2,hB2,hK2⟩
  go_wp2_with fail
  have hc:=HRes.o V2 hA2 hB2;have hbx2:V2.heap[w.heap.size]?=some (.cells R 57 (0,0)):=(hK2.block w.heap.size zO).trans hbx;have HE:=zH (HO1.o.after (X:=fun q=>q<w.heap.size) (Kept.mono (Kept.trans (Kept.drew (Kept.refl _ _)) hK2) (fun _ h=>zO)) fun _ h=>h);clear hA2 hB2 hK2 HRes HPc HO1;refine hK.out _ _ ?_ (fun hHeld=>?_)
  ·exact hbx2
  clear hK K
  try simp only[Act.put,sA,sZ,sS]
  refine wpAnyH_done zK ?_ _
  go_wp2_with fail
  go_ret;exact⟨rfl,HE.o⟩
 ·have k8:i<8:=zO;have m1:(i:Int)<8:=zO;have m2:(i:Int)<15-(i:Int):=zO;have m3:0<=(i:Int):=zO;have e:iL f h i=bW (h (15-i)) (f i) (aS i) (aT i):=by unfold iL;rw[if_neg zO]
  rw[e];have HSt:Hid (∀V,V=((W0.setCell ⟨w.heap.size+1+1,i,none⟩ (vI iJ (f i))).setCell ⟨w.heap.size+1,i,none⟩ (vI iJ (h (15-i)))).drew->CellsAt V (w.heap.size+1) 8 (fun j=>if j=i then h (15-i) else 0)/\CellsAt V (w.heap.size+1+1) 8 (fun j=>if j=i then f i else 0) /\
    V.heap[w.heap.size]?=some (.cells T8 57 (0,0))/\Old w V):=by
   rintro V rfl;refine⟨?_,?_,?_,?_⟩
   ·exact((HA.o.drew.setOther (a:=⟨w.heap.size+1+1,i,none⟩) (by show w.heap.size+1+1≠w.heap.size+1;omega) _).set i k8 (h (15-i)))
   ·exact((HB.o.drew.set i k8 (f i)).setOther (a:=⟨w.heap.size+1,i,none⟩) (by show w.heap.size+1≠w.heap.size+1+1;omega) _)
   ·exact(Below.heap_setCell _ _ _ _ (by show w.heap.size≠w.heap.size+1;omega)).trans ((Below.heap_setCell _ _ _ _ (by show w.heap.size≠w.heap.size+1+1;omega)).trans HX.o)
   ·exact(HO.o.drew.after (Kept.setCell (X:=fun q=>q<w.heap.size) _ (a:=⟨w.heap.size+1+1,i,none⟩) (by show ¬w.heap.size+1+1<w.heap.size;omega) _) fun _ h=>h).after (Kept.setCell (X:=fun q=>q<w.heap.size) _ (a:=⟨w.heap.size+1,i,none⟩) (by show ¬w.heap.size+1<w.heap.size;omega) _) fun _ h=>h
  have d1:W0.drew.cell? ⟨w.heap.size+1+1,i,none⟩=some (vI iJ 0):=HB.o.drew.cell _ k8;have d2:W0.drew.frozen? ⟨w.heap.size+1+1,i,none⟩=false:=HB.o.drew.frz _ k8;have d3:(W0.drew.setCell ⟨w.heap.size+1+1,i,none⟩ (vI iJ (f i))).cell? ⟨w.heap.size+1,i,none⟩=some (vI iJ 0):=(HA.o.drew.setOther (a:=⟨w.heap.size+1+1,i,none⟩) (by show w.heap.size+1+1≠w.heap.size+1;omega) _).cell _ k8;have d4:(W0.drew.setCell ⟨w.heap.size+1+1,i,none⟩ (vI iJ (f i))).frozen? ⟨w.heap.size+1,i,none⟩=false:=(HA.o.drew.setOther (a:=⟨w.heap.size+1+1,i,none⟩) (by show w.heap.size+1+1≠w.heap.size+1;omega) _).frz _ k8;have d5:W0.cell? ⟨w.heap.size+1,i,none⟩=some (vI iJ 0):=HA.o.cell _ k8;have d6:W0.frozen? ⟨w.heap.size+1,i,none⟩=false:=HA.o.frz _ k8;have HC2:Hid (∀V,V=W0.drew\/V=W0.drew.setCell ⟨w.heap.size+1+1,i,none⟩ (vI iJ (f i))\/V=(W0.drew.setCell ⟨w.heap.size+1+1,i,none⟩ (vI iJ (f i))).setCell ⟨w.heap.size+1,i,none⟩ (vI iJ (h (15-i)))->V.cell? ⟨bb,ob+i,none⟩=some (vI iJ (f i))/\V.cell? ⟨bo,oo+(15-i),none⟩=some (vI iJ (h (15-i)))):=fun V hV=>by
   obtain⟨c1,c2⟩:=HC.o W0.drew (Old.drew (Old.refl _));have n1:bb≠w.heap.size+1:=zO;have n2:bb≠w.heap.size+1+1:=zO;have n3:bo≠w.heap.size+1:=zO;have n4:bo≠w.heap.size+1+1:=zO;rcases hV with rfl | rfl | rfl
   ·exact⟨c1,c2⟩
   ·exact⟨(World.cell?_setCell_far _ _ _ _ (by simp;omega)).trans c1,(World.cell?_setCell_far _ _ _ _ (by simp;omega)).trans c2⟩
   ·exact⟨(World.cell?_setCell_far _ _ _ _ (by simp;omega)).trans ((World.cell?_setCell_far _ _ _ _ (by simp;omega)).trans c1),(World.cell?_setCell_far _ _ _ _ (by simp;omega)).trans ((World.cell?_setCell_far _ _ _ _ (by simp;omega)).trans c2)⟩
  have hRes:∀V,CellsAt V (w.heap.size+1) 8 (eG cV (fun j=>if j=i then h (15-i) else 0) (fun j=>(fun j=>if j=i then f i else 0) (0+j)))->CellsAt V (w.heap.size+1+1) 8 (aV (fun j=>if j=i then f i else 0) 0 8 (eG bW (fun j=>if j=i then h (15-i) else 0) (fun j=>(fun j=>if j=i then f i else 0) (0+j))))->V.cell? ⟨w.heap.size+1+1,i,none⟩=some (vI iJ (bW (h (15-i)) (f i) (aS i) (aT i))):=fun V h1 h2=>by
   have h:=h2.cell i k8;rw[h];unfold aV eG;dsimp only;rw[if_pos ⟨zO,zO⟩,if_pos zO,if_pos zO,Nat.sub_zero]
  have HRes:=zH hRes;clear hRes e HC HA HB HX HO;obtain⟨xf,hxf⟩:∃x,x=f i:=⟨_,rfl⟩
  obtain⟨xh,hxh⟩:∃x,x=h (15-i):=⟨_,rfl⟩
  obtain⟨xr,hxr⟩:∃x,x=bW (h (15-i)) (f i) (aS i) (aT i):=⟨_,rfl⟩
  rw[<-hxr]at HRes |-;rw[<-hxf,<-hxh]at HSt HC2 HRes;rw[<-hxf]at d3 d4;clear hxf hxh hxr;generalize hT:T8=R at hs HSt HPB hW0 |-;clear hT;go_enter func77,ntmps77
  go_wp2_with fail
  rw[<-hW0];clear hW0;refine wp_region_held_drew (S:=(fun w'=>w'.cell? ⟨bb,ob+i,none⟩=some (vI iJ xf)/\w'.cell? ⟨bo,oo+(15-i),none⟩=some (vI iJ xh))) zK ?_ (fun hHeld=>?_)
  ·(try dsimp only);exact HC2.o _ (.inl rfl)
  refine (uU 0) ((uU 1) ((uU 2) ((uU 3) ((uU 4) ((uU 5) ((uU 6) ((uU 7) ((uU 8) ((uU 9) ((uU 10) ((uU 11) ((uU 12) ((uU 13) ((uU 14) ((uU 15) ((uU 17) ?_))))))))))))))));refine wpR 16 rfl (fun K hK=>?_);go_simp;refine hK.out _ _ ?_ (fun hHeld=>?_)
  ·(try dsimp only);exact HC2.o _ (.inr (.inl rfl))
  clear hK K;refine (uU 18) ?_;refine wpR 19 rfl (fun K hK=>?_);go_simp;refine hK.out _ _ ?_ (fun hHeld=>?_)
  ·(try dsimp only);exact HC2.o _ (.inr (.inr rfl))
  clear hK K
  try simp only[Act.put,sA,sZ,sS]
  refine wpAnyH_done zK ?_ _;obtain⟨V1,hV1⟩:∃V,V=((W0.setCell ⟨w.heap.size+1+1,i,none⟩ (vI iJ xf)).setCell ⟨w.heap.size+1,i,none⟩ (vI iJ xh)).drew:=⟨_,rfl⟩
  rw[<-hV1];have HSt:=zH (HSt.o V1 hV1);have hbx:=HSt.o.2.2.1;have HPc:=zH (HPB.o _ _ V1.drew HSt.o.1.drew HSt.o.2.1.drew (by have:=HSt.o.1.lt;show w.heap.size<V1.heap.size;omega));have HO1:=zH HSt.o.2.2.2;clear hV1 HSt HC2 d1 d2 d3 d4 d5 d6 HPB
  go_wp2_with fail
  refine wp_region_held_drew (S:=(fun w'=>w'.heap[w.heap.size]?=some (.cells R 57 (0,0)))) zK ?_ (fun hHeld=>?_)
  ·(try dsimp only);exact hbx
  refine (uU 0) ?_;refine (uT 1 (v:=.agg R) rfl (aG zK 53 (.tmp 47) rfl w.heap.size rfl 57 R (0,0) _ (fun _ h=>h) underlying53 rfl (by rw[hs];exact HZ.o))) ?_;refine (uU 2) ((uU 3) ?_);refine wpR 4 rfl (fun K hK=>?_);go_simp;refine HPc.o.mono ?_;rintro e V2 ⟨rfl,hA2,hB2,hK2⟩
  go_wp2_with fail
  have hc:=HRes.o V2 hA2 hB2;have hbx2:V2.heap[w.heap.size]?=some (.cells R 57 (0,0)):=(hK2.block w.heap.size zO).trans hbx;have HE:=zH (HO1.o.after (X:=fun q=>q<w.heap.size) (Kept.mono (Kept.trans (Kept.drew (Kept.refl _ _)) hK2) (fun _ h=>zO)) fun _ h=>h);clear hA2 hB2 hK2 HRes HPc HO1;refine hK.out _ _ ?_ (fun hHeld=>?_)
  ·exact hbx2
  clear hK K
  try simp only[Act.put,sA,sZ,sS]
  refine wpAnyH_done zK ?_ _
  go_wp2_with fail
  go_ret;exact⟨rfl,HE.o⟩
theorem UZ(bb ob i:Nat)(f g:nI)(w:World)(hb:bb<w.heap.size)(hc:∀k,k<16->w.cell? ⟨bb,ob+k,none⟩=some (vI iJ (f k)))(hx:∀k,k<16->-9223372036854775808<=f k/\f k<=9223372036854775807)(hi:i<16):
  Calls zP 42 #[.agg T8,.pointer (some ⟨bb,ob,none⟩),.pointer none,.agg (aA 4 (blk g)),vI iJ i] w fun e w'=>e=rJ (vI iJ (fZ (f i) (mG g i)))/\Old w w':=by
 have i1:(0:Int)<=i:=zO;have i2:(i:Int)<16:=zO;have h8:=kT;have Hs4:Hid ((zP.info? 44).map (·.size)=some 4):=zH zK;have HZ:Hid ((zP.info? 57).map (·.size)=some 16):=zH zK;obtain⟨W0,hW0⟩:∃V,V=(w.alloc (.cells T8 57)).alloc (.cells (aA 4 (blk g)) 44):=⟨_,rfl⟩
 have o0:Old w W0:=by rw[hW0];exact(Old.alloc w _).alloc' _
 have hX:W0.heap[w.heap.size]?=some (.cells T8 57 (0,0)):=by rw[hW0];exact heap_alloc2_old w _ _
 have hY:W0.heap[w.heap.size+1]?=some (.cells (aA 4 (blk g)) 44 (0,0)):=by rw[hW0];exact heap_alloc2_new w _ _
 have HP:=zH (fun(V:World) (hV:Old w V)=>SI bb ob i f V (Nat.lt_of_lt_of_le hb hV.size) (fun k hk=>(hV.cell (a:=⟨bb,ob+k,none⟩) hb).trans (hc k hk)) hi);have HAt:=zH (fun V=>QL g i V zO zO);have HRd:=zH (fun V=>uV (f i) (mG g i) V (sN g i).1 (by have:=(sN g i).2;omega) (hx i hi).1 (hx i hi).2);obtain⟨x,hx'⟩:=zG (f i);rw[<-hx']at HP HRd |-;obtain⟨s,hs'⟩:=zG (mG g i);rw[<-hs']at HAt HRd |-;rw[show iW x (pw s.toNat)=fZ x s from rfl]at HRd;generalize fZ x s=u at *;clear hx' hs' hc hx;generalize hT:T8=R at h8 HP hW0 hX |-;clear hT;have HK:Hid (∀V,Old W0 V->V.heap[w.heap.size]?=some (.cells R 57 (0,0))/\V.heap[w.heap.size+1]?=some (.cells (aA 4 (blk g)) 44 (0,0))):=fun V hV=>⟨(hV.block _ (lt_of_block hX)).trans hX,(hV.block _ (lt_of_block hY)).trans hY⟩
 have HO:=zH o0;clear hX hY o0;go_enter func42,ntmps42
 go_wp2_with fail
 rw[<-hW0];clear hW0;refine wp_region_held_drew (S:=(fun w'=>w'.heap[w.heap.size]?=some (.cells R 57 (0,0))/\w'.heap[w.heap.size+1]?=some (.cells (aA 4 (blk g)) 44 (0,0)))) zK ?_ (fun hHeld=>?_)
 ·(try dsimp only);exact HK.o _ (Old.drew (Old.refl _))
 refine (uT 0 (v:=.agg R) rfl (aG zK 57 (.tmp 5) rfl w.heap.size rfl 57 R (0,0) _ (fun _ h=>h.1) underlying57 rfl (by rw[h8];exact HZ.o))) ?_;refine (uU 1) ((uU 2) ((uU 3) ?_));refine (uT 5 (v:=.agg (aA 4 (blk g))) rfl (aG zK 44 (.tmp 8) rfl (w.heap.size+1) rfl 44 (aA 4 (blk g)) (0,0) _ (fun _ h=>h.2) underlying44 rfl (by rw[aB];exact Hs4.o))) ?_;refine (uU 6) ?_;refine wpR 4 rfl (fun K hK=>?_);go_simp;refine(HP.o _ (HO.o.trans (Old.drew (Old.refl _)))).mono ?_;rintro e V1 ⟨rfl,o1⟩;have o1':=(Old.drew (Old.refl W0)).trans o1
 go_wp2_with fail
 refine hK.out _ _ ?_ (fun hHeld=>?_)
 ·(try dsimp only);exact HK.o _ o1'
 clear hK K
 try simp only[Act.put,sA,sZ,sS]
 refine wpR 7 rfl (fun K hK=>?_);go_simp;refine(HAt.o _).mono ?_;rintro e V2 ⟨rfl,o2⟩
 go_wp2_with fail
 refine hK.out _ _ ?_ (fun hHeld=>?_)
 ·(try dsimp only);exact HK.o _ (o1'.trans o2)
 clear hK K
 try simp only[Act.put,sA,sZ,sS]
 refine wpR 8 rfl (fun K hK=>?_);go_simp;refine(HRd.o _).mono ?_;rintro e V3 ⟨rfl,n3,rfl⟩
 go_wp2_with fail
 refine hK.out _ _ ?_ (fun hHeld=>?_)
 ·(try dsimp only);exact HK.o _ ((o1'.trans o2).drewN n3)
 clear hK K;refine (uU 9) ?_;refine wpAnyH_done zK ?_ _;have HE:=zH ((HO.o.trans (o1'.trans o2)).drewN n3);clear HK HO HP HAt HRd o1 o1' o2
 go_wp2_with fail
 go_ret;exact⟨rfl,HE.o⟩
theorem NA(bb ob bo oo i:Nat)(f h g:nI)(w:World)(hb:bb<w.heap.size)(ho:bo<w.heap.size)(hc:∀k,k<16->w.cell? ⟨bb,ob+k,none⟩=some (vI iJ (f k)))(hd:∀k,k<16->w.cell? ⟨bo,oo+k,none⟩=some (vI iJ (h k)))(hi:i<16):
  Calls zP 42 #[.agg T8,.pointer (some ⟨bb,ob,none⟩),.pointer (some ⟨bo,oo,none⟩),.agg (aA 4 (blk g)),vI iJ i] w fun e w'=>e=rJ (vI iJ (fZ (iL f h i) (mG g i)))/\Old w w':=by
 have i1:(0:Int)<=i:=zO;have i2:(i:Int)<16:=zO;have h8:=kT;have Hs4:Hid ((zP.info? 44).map (·.size)=some 4):=zH zK;have HZ:Hid ((zP.info? 57).map (·.size)=some 16):=zH zK;obtain⟨W0,hW0⟩:∃V,V=(w.alloc (.cells T8 57)).alloc (.cells (aA 4 (blk g)) 44):=⟨_,rfl⟩
 have o0:Old w W0:=by rw[hW0];exact(Old.alloc w _).alloc' _
 have hX:W0.heap[w.heap.size]?=some (.cells T8 57 (0,0)):=by rw[hW0];exact heap_alloc2_old w _ _
 have hY:W0.heap[w.heap.size+1]?=some (.cells (aA 4 (blk g)) 44 (0,0)):=by rw[hW0];exact heap_alloc2_new w _ _
 have HP:=zH (fun(V:World) (hV:Old w V)=>MJ bb ob bo oo i f h V (Nat.lt_of_lt_of_le hb hV.size) (Nat.lt_of_lt_of_le ho hV.size) (fun k hk=>(hV.cell (a:=⟨bb,ob+k,none⟩) hb).trans (hc k hk)) (fun k hk=>(hV.cell (a:=⟨bo,oo+k,none⟩) ho).trans (hd k hk)) hi);have HAt:=zH (fun V=>QL g i V zO zO);have HRd:=zH (fun V=>uV (iL f h i) (mG g i) V (sN g i).1 (by have:=(sN g i).2;omega) (OD f h i).1 (OD f h i).2);obtain⟨x,hx'⟩:=zG (iL f h i);rw[<-hx']at HP HRd |-;obtain⟨s,hs'⟩:=zG (mG g i);rw[<-hs']at HAt HRd |-;rw[show iW x (pw s.toNat)=fZ x s from rfl]at HRd;generalize fZ x s=u at *;clear hx' hs' hc hd;generalize hT:T8=R at h8 HP hW0 hX |-;clear hT;have HK:Hid (∀V,Old W0 V->V.heap[w.heap.size]?=some (.cells R 57 (0,0))/\V.heap[w.heap.size+1]?=some (.cells (aA 4 (blk g)) 44 (0,0))):=fun V hV=>⟨(hV.block _ (lt_of_block hX)).trans hX,(hV.block _ (lt_of_block hY)).trans hY⟩
 have HO:=zH o0;clear hX hY o0;go_enter func42,ntmps42
 go_wp2_with fail
 rw[<-hW0];clear hW0;refine wp_region_held_drew (S:=(fun w'=>w'.heap[w.heap.size]?=some (.cells R 57 (0,0))/\w'.heap[w.heap.size+1]?=some (.cells (aA 4 (blk g)) 44 (0,0)))) zK ?_ (fun hHeld=>?_)
 ·(try dsimp only);exact HK.o _ (Old.drew (Old.refl _))
 refine (uT 0 (v:=.agg R) rfl (aG zK 57 (.tmp 5) rfl w.heap.size rfl 57 R (0,0) _ (fun _ h=>h.1) underlying57 rfl (by rw[h8];exact HZ.o))) ?_;refine (uU 1) ((uU 2) ((uU 3) ?_));refine (uT 5 (v:=.agg (aA 4 (blk g))) rfl (aG zK 44 (.tmp 8) rfl (w.heap.size+1) rfl 44 (aA 4 (blk g)) (0,0) _ (fun _ h=>h.2) underlying44 rfl (by rw[aB];exact Hs4.o))) ?_;refine (uU 6) ?_;refine wpR 4 rfl (fun K hK=>?_);go_simp;refine(HP.o _ (HO.o.trans (Old.drew (Old.refl _)))).mono ?_;rintro e V1 ⟨rfl,o1⟩;have o1':=(Old.drew (Old.refl W0)).trans o1
 go_wp2_with fail
 refine hK.out _ _ ?_ (fun hHeld=>?_)
 ·(try dsimp only);exact HK.o _ o1'
 clear hK K
 try simp only[Act.put,sA,sZ,sS]
 refine wpR 7 rfl (fun K hK=>?_);go_simp;refine(HAt.o _).mono ?_;rintro e V2 ⟨rfl,o2⟩
 go_wp2_with fail
 refine hK.out _ _ ?_ (fun hHeld=>?_)
 ·(try dsimp only);exact HK.o _ (o1'.trans o2)
 clear hK K
 try simp only[Act.put,sA,sZ,sS]
 refine wpR 8 rfl (fun K hK=>?_);go_simp;refine(HRd.o _).mono ?_;rintro e V3 ⟨rfl,n3,rfl⟩
 go_wp2_with fail
 refine hK.out _ _ ?_ (fun hHeld=>?_)
 ·(try dsimp only);exact HK.o _ ((o1'.trans o2).drewN n3)
 clear hK K;refine (uU 9) ?_;refine wpAnyH_done zK ?_ _;have HE:=zH ((HO.o.trans (o1'.trans o2)).drewN n3);clear HK HO HP HAt HRd o1 o1' o2
 go_wp2_with fail
 go_ret;exact⟨rfl,HE.o⟩
theorem BV(f:nI)(a j:Nat)(h:j<8):(part f a 8).reverse.getD j 0=f (a+(7-j)):=by
 rw[List.getD_eq_getElem?_getD,List.getElem?_reverse (by rw[fQ];exact h),fQ,<-List.getD_eq_getElem?_getD,show 8-1-j=7-j by omega];exact uF f a 8 (7-j) zO
def aCC(wa wb:Way)(X:Nat->Prop)(w:World)(pt:Option Addr)(n:Nat)(F:nI)(k:Nat)(wr:World):Prop:=
 OwnR 16 X wr pt n (bR wa wb k F)/\Kept X w wr
theorem KD(X:Nat->Prop)(pt:Option Addr)(n cap:Nat)(F:nI)(w:World)(h:OwnR 16 X w pt n F)(hX:∀q,X q->q<w.heap.size)(hn:n<=17179869184):
  Calls zP 113 #[.slice pt n cap,.func (.func 184) #[.agg T8] #[]] w fun e w'=>e=rJ (.tuple #[])/\OwnR 16 X w' pt n (bR bB bA n F)/\Kept X w w':=by
 have H0:Hid (aCC bB bA X w pt n F 1 w):=⟨by rw[nS];exact h,Kept.refl _ _⟩
 have HE0:Hid (n<=1->bR bB bA n F=F):=fun hn=>by
  rcases(by omega:n=0\/n=1) with rfl | rfl
  ·funext q;obtain⟨b,r,rfl,hr,_,_⟩:=gY q;by_cases h8:8<=r
   ·rw[dN _ _ _ _ _ _ hr h8,if_neg zO]
   ·rw[dO _ _ _ _ _ _ zO,if_neg zO]
  ·exact nS _ _ _
 have HX:=zH hX;have hR:(Value.agg T8)=.agg T8:=rfl;clear h hR hX;generalize hT:T8=R;have HR:=zH hT;clear hT;go_enter func113,ntmps113
 go_wp2_with fail
 go_loopw [4] (fun i wr=>∃k:Nat,1<=k/\(k<=n\/k=1)/\i=vI iJ k/\Hid (aCC bB bA X w pt n F k wr)) (fun i _=>n-(intOf i).toNat)
 case atStart=>exact⟨1,zO,zO,rfl,H0⟩
 case round=>
  obtain⟨k,hk1,hk,rfl,HS⟩:=hrel;clear H0;by_cases hlt:k<n
  ·obtain⟨j,rfl⟩:∃j,k=j+1:=⟨k-1,zO⟩
   obtain⟨g,rfl,xg,hc⟩:=HS.o.1 zO;obtain⟨M,hM⟩:=zG (bR bB bA (j+1) F);rw[<-hM]at hc;have hstep:=OK bB bA F j;rw[<-hM]at hstep;have HStep:=zH hstep;have HC:=zH hc;have HK:=zH HS.o.2;have hgl:=hc.lt;have e1:(((j+1:Nat):Int))=(j:Int)+1:=zO;have q1:wrap64 ((j:Int)+1-1)=j:=by rw[show (j:Int)+1-1=j by omega];exact IntWalk.wrap64_in _ zO
   have hS1:=fun o w=>oD (P:=zP) (t:=43) 16 8 Tryz.block_under Tryz.block_len Tryz.block_elem zO g o w;have hS2:=fun o w=>nL (P:=zP) (t:=43) 16 8 Tryz.block_under Tryz.block_len Tryz.block_elem zO zO g o w;rw[show ((8:Nat):Int)=8 from rfl]at hS1 hS2;have HF1:=zH (LS (some ⟨g,j*16+8,none⟩) 8 8 (part M (j*16+8) 8) wr (hc.sl (j*16+8) 8 8 zO zO (by unfold maxLen;omega)) zO);clear hstep hc HS hM
   go_wp2_with fail
   refine HF1.o.mono ?_;rintro e w1 ⟨v1,rfl,hv1,ho1⟩;obtain⟨ga,ca,rfl,xga,hca1,hca2,hA⟩:=hv1.cells (by rw[List.length_reverse,fQ];omega);rw[List.length_reverse,fQ]at hA hca1 |-;have xga':¬X ga:=fun e=>xga (Nat.lt_of_lt_of_le (HX.o _ e) HK.o.size);have hne:ga≠g:=fun e=>xga (by rw[e];exact hgl);have HP:=zH (aAE X ga g (16*n) ((j+1)*16) ca 16 (fun i=>(part M (j*16+8) 8).reverse.getD i 0) M w1 hA (HC.o.old ho1) zO hne xga' xg (fun q hq=>Nat.lt_of_lt_of_le (HX.o q hq) (Nat.le_trans HK.o.size ho1.size)));rw[HR.o]at HP;have HK1:Hid (Kept X w w1):=HK.o.trans (ho1.kept fun q hq=>Nat.lt_of_lt_of_le (HX.o q hq) HK.o.size);clear HF1 hv1 ho1 hA HK HC
   go_wp2_with fail
   refine HP.o.mono ?_;rintro e w2 ⟨rfl,hA2,hC2,hK2⟩;have hfA:eG bB (fun i=>(part M (j*16+8) 8).reverse.getD i 0) (fun k=>M ((j+1)*16+k))=fun i=>bB ((part M (j*16+8) 8).reverse.getD i 0) (M ((j+1)*16+i)) (aS i) (aT i):=rfl;obtain⟨fA,hfA⟩:∃f,f=eG bB (fun i=>(part M (j*16+8) 8).reverse.getD i 0) (fun k=>M ((j+1)*16+k)):=⟨_,rfl⟩
   rw[<-hfA]at hA2;have HFA:Hid (∀i,i<8->fA i=bB (M (j*16+8+(7-i))) (M ((j+1)*16+i)) (aS i) (aT i)):=fun i hi=>by rw[hfA];unfold eG;dsimp only;rw[BV _ _ _ hi]
   have HF2:=zH (LS (some ⟨ga,0,none⟩) 8 ca (part fA 0 8) w2 (hA2.sl 0 8 ca zO hca1 hca2) zO);have HC2:=zH hC2;have HK2:Hid (Kept X w w2):=HK1.o.trans hK2;clear hfA HP hA2 hC2 hK2 HK1
   go_wp2_with fail
   refine HF2.o.mono ?_;rintro e w3 ⟨v3,rfl,hv3,ho3⟩;obtain⟨gc,cc,rfl,_,_,_,hG⟩:=hv3.cells (by rw[List.length_reverse,fQ];omega);rw[List.length_reverse,fQ]at hG |-;have HC3:=zH (HC2.o.old ho3);have HSrc:Hid (∀i,i<8->w3.cell? ⟨gc,0+i,none⟩=some (vI iJ (fA (7-i)))):=fun i hi=>by
    rw[Nat.zero_add,hG.cell i hi,BV _ _ _ hi,Nat.zero_add]
   have HT:Hid (w3.there g (j*16+8) 8):=HC3.o.there _ _ zO;have HN:Hid (aCC bB bA X w (some ⟨g,0,none⟩) n F (j+1+1) (w3.setCells g (j*16+8) (eH 8 fun i=>fA (7-i)))):=by
    refine⟨fun _=>⟨g,rfl,xg,?_⟩,(HK2.o.trans (ho3.kept fun q hq=>Nat.lt_of_lt_of_le (HX.o q hq) HK2.o.size)).trans (Kept.setCells _ xg _ _)⟩;refine(HC3.o.setCells (j*16+8) 8 zO _).ext fun q hq=>?_;rw[<-HStep.o];unfold aV;dsimp only;split
    ·rw[HFA.o _ zO]
    ·split
     ·unfold eG;dsimp only;rw[BV _ _ _ zO]
     ·rfl
   clear HF2 hv3 ho3 hG HC2 HC3 HK2 HFA HStep HX
   go_wp2_with (with_reducible refine oI rfl _ _ 169 169 rfl 2 underlying169 Tryz.int64_cells 8 (fun i=>fA (7-i)) g (j*16+8) 8 8 gc 0 8 cc rfl rfl zD HSrc.o HT.o ?_)
   go_roundw
   case rel=>exact⟨j+1+1,zO,zO,by go_num,HN⟩
   case measure=>exact zM
  ·have HE:Hid (OwnR 16 X wr pt n (bR bB bA n F)/\Kept X w wr):=by
    refine⟨?_,HS.o.2⟩;by_cases h1:n<=1
    ·rw[HE0.o h1];have:=HS.o.1;rcases hk with h | rfl
     ·obtain rfl:k=1:=zO
      rwa [nS]at this
     ·rwa [nS]at this
    ·obtain rfl:k=n:=zO;exact HS.o.1
   have hlt':n<=k:=zO;clear HS HE0 HX HR
   go_wp2_with fail
   go_end0
   exact⟨rfl,HE.o⟩
def dJ(G:nI)(ng i:Nat):nI:=if i<ng then(fun k=>G (i*4+k)) else fun _=>0
theorem NH(p:Option Addr)(ng cap i:Nat)(G:nI)(w:World)(hs:SlF 4 w p ng G)(hi:i<=17179869184):
  Calls zP 116 #[.slice p ng cap,vI iJ i] w fun e w'=>e=rJ (.agg (aA 4 (blk (dJ G ng i))))/\Old w w':=by
 have Hs4:Hid ((zP.info? 44).map (·.size)=some 4):=zH zK;have i0:(0:Int)<=i:=zO;by_cases h:i<ng
 ·obtain⟨g,o,rfl,hg,hc⟩:=hs zO;have e:dJ G ng i=fun k=>G (i*4+k):=by unfold dJ;rw[if_pos h]
  rw[e];have HC:Hid (∀j,j<4->(w.alloc (.cells #[vI iJ 0,vI iJ 0,vI iJ 0,vI iJ 0] 44)).cell? ⟨g,o+i*4+j,none⟩=some (vI iJ (G (i*4+j)))):=fun j hj=>by
   rw[Nat.add_assoc,(Old.alloc w _).cell (a:=⟨g,o+(i*4+j),none⟩) hg];exact hc (i*4+j) zO
  have h':(i:Int)<ng:=zO;have H1:=zH (bN (fun k=>G (i*4+k)) 4);clear hs hc e hg;go_enter func116,ntmps116
  go_wp2_with (first | (with_reducible refine bC rfl 4 (fun k=>G (i*4+k)) 44 _ rfl g (o+i*4) rfl _ HC.o underlying44 rfl Hs4.o ?_) | (with_reducible refine wpList_store_row rfl 44 _ _ rfl w.heap.size (aA 4 (blk fun k=>G (i*4+k))) rfl rfl 44 _ (heap_alloc_new _ _) (by rw[aB];exact Hs4.o) (by rw[aB];kernel_rfl) H1.o ?_;rw[World.setRow_alloc_new]))
  exact bodyPost_ret (results_cell_row rfl _ _ w.heap.size 44 _ (0,0) _ rfl (heap_alloc_new _ _) underlying44 rfl (by rw[aB];exact Hs4.o)) rfl ⟨rfl,Old.alloc _ _⟩
 ·have e:aA 4 (blk (dJ G ng i))=aA 4 (blk fun _=>0):=by unfold dJ;rw[if_neg h]
  have h':(ng:Int)<=i:=zO;rw[e,show aA 4 (blk fun _=>0)=#[vI iJ 0,vI iJ 0,vI iJ 0,vI iJ 0] from rfl];clear hs e;go_enter func116,ntmps116
  go_wp2_with (with_reducible refine wpList_store_row rfl 44 _ _ rfl w.heap.size #[vI iJ 0,vI iJ 0,vI iJ 0,vI iJ 0] rfl rfl 44 _ (heap_alloc_new _ _) Hs4.o zK zK ?_;rw[World.setRow_alloc_new])
  exact bodyPost_ret (results_cell_row rfl _ _ w.heap.size 44 _ (0,0) _ rfl (heap_alloc_new _ _) underlying44 rfl Hs4.o) rfl ⟨rfl,Old.alloc _ _⟩
def pX(s:ByteArray)(n r c:Int)(lp:Bool)(a b:Int):Array Value:=#[.string s,vI iJ n,vI iJ r,vI iJ c,.bool lp,vI iJ a,vI iJ b,vI iJ 0,vI iJ 0]
theorem SX(s:ByteArray)(n r c:Int)(lp:Bool)(a b:Int):zP.built 90 [(0,.string s),(1,vI iJ n),(2,vI iJ r),(3,vI iJ c),(4,.bool lp),(5,vI iJ a),(6,vI iJ b)]=some (pX s n r c lp a b):=zK
theorem aM.size(S:aM):S.cells.size=6:=rfl
theorem RL(s:ByteArray)(n r c:Int)(lp:Bool)(a b:Int):(pX s n r c lp a b).size=9:=rfl
theorem aAb(s:ByteArray)(n r c:Int)(lp:Bool)(a b:Int):(pX s n r c lp a b).all (·.oneCell')=true:=zK
theorem yL(S:aM)(w:World)(hs:jB w S):
  Calls zP 94 #[S.val] w fun e w'=>e=rJ (.agg (pX S.s S.len S.r S.n S.lp S.a S.b))/\Old w w':=by
 have Hs6:Hid ((zP.info? 133).map (·.size)=some 6):=zH zK;have Hs9:Hid ((zP.info? 90).map (·.size)=some 9):=zH zK;obtain⟨W0,hW0⟩:=zG (((w.alloc (.cells S.cells 133)).alloc (.cells (pX ⟨#[]⟩ 0 0 0 false 0 0) 90)));have ho:Old w W0:=by rw[hW0];exact(Old.alloc w _).alloc' _
 have hb:xM W0 w.heap.size S:=by rw[hW0];exact(xM.new w S).old (Old.alloc _ _)
 have hr:W0.heap[w.heap.size+1]?=some (.cells (pX ⟨#[]⟩ 0 0 0 false 0 0) 90 (0,0)):=by rw[hW0];exact heap_alloc2_new w _ _
 have HO:=zH ho;have HB:=zH hb;have HR:=zH hr;unfold pX at hW0;have HW:=zH hW0;have HL:=zH (fun W (k:Old w W)=>SG S W (hs.old k));have HBd:=zH (SX S.s S.len S.r S.n S.lp S.a S.b);have HK:Hid (∀W,Old W0 W->(W.heap[w.heap.size]?=some (.cells S.cells 133 (0,0))/\W.cell? ⟨w.heap.size,0,none⟩=some (.string S.s)/\W.cell? ⟨w.heap.size,1,none⟩=some (vI iJ S.r)/\W.cell? ⟨w.heap.size,2,none⟩=some (.bool S.lp)/\W.cell? ⟨w.heap.size,3,none⟩=some (vI iJ S.a)/\W.cell? ⟨w.heap.size,4,none⟩=some (vI iJ S.b)/\W.cell? ⟨w.heap.size,5,none⟩=some (.slice S.p S.n S.c))):=zH fun W k=>⟨hb.old k,(hb.old k).at⟩
 obtain⟨M,hM⟩:=zG (pX S.s S.len S.r S.n S.lp S.a S.b);have H9:Hid (M.all (·.oneCell')=true):=zH (by rw[hM];exact aAb _ _ _ _ _ _ _);have HM9:Hid (M.size=9):=zH (by rw[hM];rfl);rw[<-hM]at HBd |-;unfold aM.val;clear hM ho hb hr hW0 hs;go_enter func94,ntmps94
 go_wp2_with fail
 rw[<-HW.o];clear HW;refine wp_region_held_drew (S:=(fun W=>W.heap[w.heap.size]?=some (.cells S.cells 133 (0,0))/\W.cell? ⟨w.heap.size,0,none⟩=some (.string S.s)/\W.cell? ⟨w.heap.size,1,none⟩=some (vI iJ S.r)/\W.cell? ⟨w.heap.size,2,none⟩=some (.bool S.lp)/\W.cell? ⟨w.heap.size,3,none⟩=some (vI iJ S.a)/\W.cell? ⟨w.heap.size,4,none⟩=some (vI iJ S.b)/\W.cell? ⟨w.heap.size,5,none⟩=some (.slice S.p S.n S.c))) zK ?_ (fun hHeld=>?_)
 ·(try dsimp only);exact HK.o _ ((Old.refl W0).drew)
 refine (uU 0) ((uU 1) ?_);refine (uT 2 (v:=.agg S.cells) rfl (aG zK 133 (.tmp 1) rfl w.heap.size rfl 133 S.cells (0,0) _ (fun _ h=>h.1) underlying133 rfl (by rw[S.size];exact Hs6.o))) ?_;refine (uU 4) ((uU 5) ((uU 6) ((uU 7) ((uU 8) ((uU 9) ((uU 10) ((uU 11) ((uU 12) ((uU 13) ((uU 14) ?_))))))))));refine wpR 3 rfl (fun K hK=>?_);go_simp;refine(HL.o _ (HO.o.drew)).mono ?_;rintro e V1 ⟨rfl,o1'⟩;have o1:=((Old.refl W0).drew).trans o1';clear o1';have HK1:=zH (HK.o _ o1);have HO1:=zH (HO.o.trans o1);have HR1:=zH ((o1.block _ (lt_of_block HR.o)).trans HR.o);clear HO HR HK HL o1
 go_wp2_with fail
 refine hK.out _ _ ?_ (fun hHeld=>?_)
 ·(try dsimp only);exact HK1.o
 clear hK K;refine (uT 15 (v:=.agg M) rfl (fC zK 90 _ rfl [(0,.string S.s),(1,vI iJ S.len),(2,vI iJ S.r),(3,vI iJ S.n),(4,.bool S.lp),(5,vI iJ S.a),(6,vI iJ S.b)] _ zK HBd.o)) ?_;have hr:=bS HR1.o HO1.o zO M;have HRt:=zH hr;have HK2:Hid ((V1.setRow (w.heap.size+1) M).heap[w.heap.size]?=some (.cells S.cells 133 (0,0))/\(V1.setRow (w.heap.size+1) M).cell? ⟨w.heap.size,0,none⟩=some (.string S.s)/\(V1.setRow (w.heap.size+1) M).cell? ⟨w.heap.size,1,none⟩=some (vI iJ S.r)/\(V1.setRow (w.heap.size+1) M).cell? ⟨w.heap.size,2,none⟩=some (.bool S.lp)/\(V1.setRow (w.heap.size+1) M).cell? ⟨w.heap.size,3,none⟩=some (vI iJ S.a)/\(V1.setRow (w.heap.size+1) M).cell? ⟨w.heap.size,4,none⟩=some (vI iJ S.b)/\(V1.setRow (w.heap.size+1) M).cell? ⟨w.heap.size,5,none⟩=some (.slice S.p S.n S.c)):=zH (by
  have hb:xM (V1.setRow (w.heap.size+1) M) w.heap.size S:=(setRow_other _ _ _ _ zO).trans HK1.o.1;exact⟨hb,hb.at⟩)
 clear hr;refine wpR 16 rfl (fun K hK=>?_);rw[if_pos zK]
 with_reducible refine wp_store_row 90 _ _ rfl (w.heap.size+1) M rfl rfl 90 _ HR1.o (by rw[HM9.o];exact Hs9.o) (by rw[HM9.o,RL]) H9.o ?_
 refine hK.out _ _ ?_ (fun hHeld=>?_)
 ·(try dsimp only);exact HK2.o
 clear hK K
 try simp only[Act.put,sA,sZ,sS]
 refine wpAnyH_done zK ?_ _
 go_wp2_with fail
 exact bodyPost_ret (results_cell_row rfl _ _ (w.heap.size+1) 90 M (0,0) _ rfl HRt.o.1 underlying90 rfl (by rw[HM9.o];exact Hs9.o)) rfl ⟨rfl,HRt.o.2⟩
def LT(v:Int):Bool:=decide (v < -32768\/32767<v)
theorem aEq(n:Nat)(F:nI):KR n F↔∃i,i<n/\LT (F i)=true:=by unfold KR LT;simp only[decide_eq_true_eq]
def WL(w:World)(p:Option Addr)(n:Nat)(X:nI):Prop:=0<n->∃g o,p=some ⟨g,o,none⟩/\g<w.heap.size/\∀j,j<n->w.cell? ⟨g,o+j,none⟩=some (vI iJ (X j))
theorem JX(v:Int)(w:World):Calls zP 129 #[vI iJ v] w fun e w'=>e=rJ (.bool (LT v))/\w=w':=by
 have HE:=zH (show (decide (v < -32768) || decide (32767<v))=LT v by unfold LT;simp);go_enter func129,ntmps129
 go_wp2_with fail
 all_goals
  go_ret;refine⟨BJ (Eq.trans ?_ HE.o),rfl⟩
  first | (have c1:decide (v < -32768)=true:=decide_eq_true zA;simp[c1]) | (have c1:decide (v < -32768)=false:=decide_eq_false zO;simp[c1])
theorem xF(p:Option Addr)(n cap:Nat)(X:nI)(w:World)(h:WL w p n X)(hn:n<=9223372036854775807):
  Calls zP 167 #[.slice p n cap,.func (.func 129) #[] #[]] w fun e w'=>(∃i:Int,e=rJ (vI iJ i)/\((0<=i/\KR n X)\/(i = -1/\¬KR n X)))/\w=w':=by
 have HB:=zH (fun v w=>JX v w);have HP:=zH (aEq n X);have H:=zH h;clear h;go_enter func167,ntmps167
 go_wp2_with fail
 go_loop [8] (fun i=>∃k:Nat,k<=n/\i=vI iJ k/\Hid (∀j,j<k->LT (X j)=false)) (fun i=>n-(intOf i).toNat)
 case atStart=>exact⟨0,zO,rfl,zH fun j hj=>zO⟩
 case round=>
  obtain⟨k,hk,rfl,HJ⟩:=hrel;by_cases hkn:k<n
  ·obtain⟨g,o,rfl,hg,hc⟩:=H.o zO;have ck:=hc k hkn;clear hc hg
   go_wp2_with fail
   refine(HB.o _ _).mono ?_;rintro e w1 ⟨rfl,rfl⟩;cases hb:LT (X k)
   ·have HJ2:=zH (show ∀j,j<k+1->LT (X j)=false from fun j hj=>by
     by_cases e:j=k
     ·subst e;exact hb
     ·exact HJ.o j zO)
    clear HJ hb ck
    go_wp2_with fail
    go_round
    case rel=>exact⟨k+1,zO,by go_num,HJ2⟩
    case measure=>exact zM
   ·have hf:=HP.o.2 ⟨k,hkn,hb⟩;have HF:=zH hf;clear HJ hb ck hf
    go_wp2_with fail
    go_ret;exact⟨⟨k,rfl,.inl ⟨zO,HF.o⟩⟩,rfl⟩
  ·have hf:¬KR n X:=fun h=>by
    obtain⟨j,h1,h2⟩:=HP.o.1 h;rw[HJ.o j zO]at h2;cases h2
   have HF:=zH hf;clear HJ hf
   go_wp2_with fail
   go_ret;exact⟨⟨-1,rfl,.inr ⟨rfl,HF.o⟩⟩,rfl⟩
theorem sM(p:Option Addr)(n cap:Nat)(X:nI)(w:World)(h:WL w p n X)(hn:n<=9223372036854775807):
  Calls zP 128 #[.slice p n cap,.func (.func 129) #[] #[]] w fun e w'=>(∃b,e=rJ (.bool b)/\(b=true↔KR n X))/\w=w':=by
 have HI:=zH (xF p n cap X w h hn);clear h;go_enter func128,ntmps128
 go_wp2_with fail
 refine HI.o.mono ?_;rintro e w1 ⟨⟨i,rfl,hi⟩,rfl⟩;have H:=zH hi;rcases hi with ⟨hi,hf⟩ | ⟨hi,hf⟩
 ·have d:decide (0<=i)=true:=decide_eq_true hi;have Hhi:=zH hi;clear hi hf HI
  go_wp2_with fail
  go_ret;have hi:=Hhi.o;refine⟨⟨true,rfl,?_⟩,rfl⟩;rcases H.o with h | h
  ·simp[h.2]
  ·omega
 ·subst hi;clear hf HI
  go_wp2_with fail
  go_ret;refine⟨⟨false,rfl,?_⟩,rfl⟩;rcases H.o with h | h
  ·omega
  ·simp[h.2]
theorem jB.row{w:World}{S:aM}(h:jB w S)(i:Nat)(hi:i<S.n):WL w (S.Q i) (S.M i) (S.X i):=(h.rows.row i hi).2.2
theorem aAJ{s:ByteArray}{n r c:Int}{lp:Bool}{a b:Int}(h:cX s n r c lp a b=0):tS s=true/\(1<=r/\r<=192000)/\(1<=c/\c<=2)/\(1<=n/\n<=1048576)/\lG lp a b n:=by
 unfold cX at h;cases hn:tS s
 ·rw[hn,if_pos rfl]at h;omega
 rw[hn,if_neg zS]at h;by_cases h1:r<1\/192000<r
 ·rw[if_pos h1]at h;omega
 rw[if_neg h1]at h;by_cases h2:(c<1\/2<c)\/n<1\/1048576<n
 ·rw[if_pos h2]at h;omega
 rw[if_neg h2]at h;by_cases h3:lG lp a b n
 ·exact⟨rfl,zO,zO,zO,h3⟩
 ·rw[if_neg h3]at h;omega
theorem aM.check_wrong{S:aM}(h:cX S.s S.len S.r S.n S.lp S.a S.b≠0):S.check=cX S.s S.len S.r S.n S.lp S.a S.b:=by unfold aM.check;rw[if_pos h]
theorem aM.check_odd{S:aM}(h:cX S.s S.len S.r S.n S.lp S.a S.b=0)(h2:S.odd):S.check=12:=by unfold aM.check;rw[if_neg zO,if_pos h2]
theorem aM.check_far{S:aM}(h:cX S.s S.len S.r S.n S.lp S.a S.b=0)(h2:¬S.odd)(h3:S.far):S.check=5:=by unfold aM.check;rw[if_neg zO,if_neg h2,if_pos h3]
theorem aM.check_ok{S:aM}(h:cX S.s S.len S.r S.n S.lp S.a S.b=0)(h2:¬S.odd)(h3:¬S.far):S.check=0:=by unfold aM.check;rw[if_neg zO,if_neg h2,if_neg h3]
theorem XX(S:aM)(w:World)(hs:jB w S):
  Calls zP 88 #[S.val] w fun e w'=>e=rJ (vI iJ S.check)/\Old w w':=by
 have HO:=zH (Old.alloc w (.cells S.cells 133));have HB:=zH (xM.new w S);obtain⟨c0,c1,c2,c3,c4,c5⟩:=(xM.new w S).at
 have HOK:=zH hs;have HM:=zH (yL S (w.alloc (.cells S.cells 133)) (hs.old (Old.alloc _ _)));have HWr:Hid (∀w,Calls zP 127 #[.agg (pX S.s S.len S.r S.n S.lp S.a S.b)] w fun e w'=>e=rJ (vI iJ (cX S.s S.len S.r S.n S.lp S.a S.b))/\Old w w'):=zH (fun w=>GL S.s S.len S.r S.n S.lp S.a S.b 0 0 w hs.size);unfold aM.val;clear hs;go_enter func88,ntmps88
 go_wp2_with fail
 refine HM.o.mono ?_;rintro e w1 ⟨rfl,ho1⟩;have HO1:=zH (HO.o.trans ho1);have HB1:=zH (HB.o.old ho1);clear HO HB HM ho1 c0 c1 c2 c3 c4 c5;unfold pX at *
 go_wp2_with fail
 refine(HWr.o _).mono ?_;rintro e w2 ⟨rfl,ho2⟩;obtain⟨M,hM⟩:∃M:Array Value,M=#[.string S.s,vI iJ S.len,vI iJ S.r,vI iJ S.n,.bool S.lp,vI iJ S.a,vI iJ S.b,vI iJ 0,vI iJ 0]:=⟨_,rfl⟩
 have HM1:Hid (M[1]?=some (vI iJ S.len)):=zH (by rw[hM];rfl);rw[<-hM]at ho2;clear hM;have hg:=lt_of_block HB1.o;have cl:w2.cell? ⟨w1.heap.size,1,none⟩=some (vI iJ S.len):=by
  have h1:(w1.alloc (.cells M 90)).heap[w1.heap.size]?=some (.cells M 90 (0,0)):=heap_alloc_new _ _;exact(cell_of_row _ _ _ _ _ _ ((ho2.block _ (lt_of_block h1)).trans h1)).trans HM1.o
 have o12:=(Old.alloc w1 (.cells M 90)).trans ho2;have HO2:=zH (HO1.o.trans o12);obtain⟨_,_,_,_,_,c5⟩:=(HB1.o.old o12).at
 have HOK2:=zH (HOK.o.old HO2.o);clear HO1 HB1 HWr ho2 o12 HM1 hg HOK;obtain⟨v,hv⟩:=zG (cX S.s S.len S.r S.n S.lp S.a S.b);rw[<-hv];generalize w1.heap.size=mb at *;by_cases h0:v=0
 case neg=>
  have hc:=aM.check_wrong (S:=S) (by rw[<-hv];exact h0);rw[<-hv]at hc;have q:(v != 0)=true:=by simpa using h0
  have HC:=zH hc;clear hc hv h0 HOK2 cl c5
  go_wp2_with fail
  go_ret;exact⟨bT HC.o.symm,HO2.o⟩
 rw[h0]at hv;subst h0;have HV:=zH hv.symm;have hok:=aAJ hv.symm;have hn1:1<=S.n:=by have:=hok.2.2.1;omega
 have hn2:S.n<=2:=by have:=hok.2.2.1;omega
 have hl:S.len=(S.M 0:Int):=by unfold aM.len;rw[if_neg zO]
 obtain⟨g,o,hp,hg,hc⟩:=HOK2.o.rows.cell zO;obtain⟨n,hn⟩:=zG (S.n);have HC:Hid (∀i,i<n->w2.cell? ⟨g,o+i,none⟩=some (.slice (S.Q i) (S.M i) (S.C i))):=zH (by rw[hn];exact hc);rw[hp,<-hn]at c5;rw[<-hn]at hn1 hn2;have HN:=zH hn;clear hn;rw[hl]at cl;clear hv hok hl hc hp;generalize S.c=cap at *
 go_wp2_with fail
 go_loop [19] (fun i=>∃k:Nat,k<=n/\i=vI iJ k/\Hid (∀j,j<k->S.M j=S.M 0)) (fun i=>n-(intOf i).toNat)
 case atStart=>exact⟨0,zO,rfl,zH fun j hj=>zO⟩
 case round=>
  obtain⟨k,hk,rfl,HJ⟩:=hrel;by_cases hkn:k<n
  ·have ck:=HC.o k hkn;by_cases hm:S.M k=S.M 0
   ·have HJ2:=zH (show ∀j,j<k+1->S.M j=S.M 0 from fun j hj=>by
     by_cases e:j=k
     ·subst e;exact hm
     ·exact HJ.o j zO)
    have q:((S.M k:Int) != (S.M 0:Int))=false:=by rw[hm];simp
    clear HJ hm
    go_wp2_with fail
    go_round
    case rel=>exact⟨k+1,zO,by go_num,HJ2⟩
    case measure=>exact zM
   ·have q:((S.M k:Int) != (S.M 0:Int))=true:=by simp only[bne_iff_ne,ne_eq];omega
    have hck:=aM.check_odd HV.o ⟨k,by have:=HN.o;omega,hm⟩;have HCK:=zH hck;clear HJ hm hck
    go_wp2_with fail
    go_ret;exact⟨bT HCK.o.symm,HO2.o⟩
  ·have hodd:¬S.odd:=fun⟨j,h1,h2⟩=>h2 (HJ.o j (by have:=HN.o;omega));have HODD:=zH hodd;obtain rfl:k=n:=zO;clear HJ hodd cl hkn hk
   go_wp2_with fail
   go_loop [32] (fun i=>∃j:Nat,j<=k/\i=vI iJ j/\Hid (∀m,m<j->¬KR (S.M m) (S.X m))) (fun i=>k-(intOf i).toNat)
   case atStart=>exact⟨0,zO,rfl,zH fun j hj=>zO⟩
   case round=>
    obtain⟨j,hj,rfl,HJ⟩:=hrel;by_cases hjn:j<k
    ·have ck:=HC.o j hjn;have hr:=HOK2.o.row j (by have:=HN.o;omega);have hrr:=HOK2.o.rows.row j (by have:=HN.o;omega);have HF:=zH (sM (S.Q j) (S.M j) (S.C j) (S.X j) w2 hr (by have:=hrr.1;have:=hrr.2.1;unfold maxLen at *;omega));clear hr hrr
     go_wp2_with fail
     refine HF.o.mono ?_;rintro e w3 ⟨⟨b,rfl,hbf⟩,rfl⟩;clear HF;cases b
     ·have HJ2:=zH (show ∀m,m<j+1->¬KR (S.M m) (S.X m) from fun m hm=>by
       by_cases e:m=j
       ·subst e;exact fun h=>by have:=hbf.2 h;cases this
       ·exact HJ.o m zO)
      clear HJ hbf
      go_wp2_with fail
      go_round
      case rel=>exact⟨j+1,zO,by go_num,HJ2⟩
      case measure=>exact zM
     ·have hck:=aM.check_far HV.o HODD.o ⟨j,by have:=HN.o;omega,hbf.1 rfl⟩;have HCK:=zH hck;clear HJ hbf hck
      go_wp2_with fail
      go_ret;exact⟨bT HCK.o.symm,HO2.o⟩
    ·have hck:=aM.check_ok HV.o HODD.o fun⟨m,h1,h2⟩=>HJ.o m (by have:=HN.o;omega) h2;have HCK:=zH hck;clear HJ hck
     go_wp2_with fail
     go_ret;exact⟨bT HCK.o.symm,HO2.o⟩
def aM.named(S:aM)(s:ByteArray):aM:={ S with s:=s }
def aM.rowed(S:aM)(p:Option Addr)(n c:Nat)(M:Nat->Nat):aM:={ S with p:=p,n:=n,c:=c,M:=M }
def aM.celled(S:aM)(p:Option Addr)(c:Nat)(Q:Nat->Option Addr)(C:Nat->Nat):aM:={ S with p:=p,c:=c,Q:=Q,C:=C }
structure gS(w W:World)(S:aM)(z:Array Value):Prop where
 b:xM W w.heap.size S
 r:W.heap[w.heap.size+1]?=some (.cells z 133 (0,0))
 old:Old w W
theorem gS.kept{w W W':World}{S:aM}{z:Array Value}(h:gS w W S z)(k:Kept (fun q=>q<w.heap.size+2) W W'):gS w W' S z:=
 ⟨(k.block _ zO).trans h.b,(k.block _ zO).trans h.r,h.old.after k (fun _ _=>zO)⟩
theorem gS.lt{w W:World}{S:aM}{z:Array Value}(h:gS w W S z):w.heap.size+2<=W.heap.size:=lt_of_block h.r
theorem gS.named{w W:World}{S:aM}{z:Array Value}(h:gS w W S z)(s:ByteArray):gS w (W.setCell ⟨w.heap.size,0,none⟩ (.string s)) (S.named s) z:=
 ⟨heap_setCell_same _ _ _ _ _ _ h.b,(heap_setCell_other _ _ _ _ zS).trans h.r,h.old.after (X:=fun k=>k<w.heap.size) (Kept.setCell _ (a:=⟨w.heap.size,0,none⟩) zS _) fun _ h=>h⟩
theorem gS.rowed{w W:World}{S:aM}{z:Array Value}(h:gS w W S z)(p:Option Addr)(n c:Nat)(M:Nat->Nat):gS w (W.setCell ⟨w.heap.size,5,none⟩ (.slice p n c)) (S.rowed p n c M) z:=
 ⟨heap_setCell_same _ _ _ _ _ _ h.b,(heap_setCell_other _ _ _ _ zS).trans h.r,h.old.after (X:=fun k=>k<w.heap.size) (Kept.setCell _ (a:=⟨w.heap.size,5,none⟩) zS _) fun _ h=>h⟩
theorem gS.celled{w W:World}{S:aM}{z:Array Value}(h:gS w W S z)(p:Option Addr)(c:Nat)(Q:Nat->Option Addr)(C:Nat->Nat):gS w (W.setCell ⟨w.heap.size,5,none⟩ (.slice p S.n c)) (S.celled p c Q C) z:=
 ⟨heap_setCell_same _ _ _ _ _ _ h.b,(heap_setCell_other _ _ _ _ zS).trans h.r,h.old.after (X:=fun k=>k<w.heap.size) (Kept.setCell _ (a:=⟨w.heap.size,5,none⟩) zS _) fun _ h=>h⟩
def gN(S:aM)(k:Nat):Nat:=if 150<S.M k then 150 else S.M k
def pV(S:aM)(k:Nat):List Value:=(List.range k).map fun i=>.slice (S.Q i) (gN S i) (S.C i)
theorem GR(S:aM)(k:Nat):pV S (k+1)=pV S k ++ [.slice (S.Q k) (gN S k) (S.C k)]:=by unfold pV;rw[List.range_succ,List.map_append];rfl
theorem MM(S:aM)(k:Nat):(pV S k).length=k:=by simp[pV]
theorem Tryz.infoR:(zP.info? 23).map (fun i=>(i.zero,i.size,i.bytes))=some (some (.slice none 0 0),1,24):=zK
def yP(s:ByteArray):ByteArray:=if 100<s.size then s.extract 0 100 else s
structure rV(S S':aM):Prop where
 s:S'.s=yP S.s
 r:S'.r=S.r
 lp:S'.lp=S.lp
 a:S'.a=S.a
 b:S'.b=S.b
 n:S'.n=min S.n 4
 M:S'.M=gN S
 X:S'.X=S.X
def aII(w:World)(S:aM)(e:Ending)(w':World):Prop:=∃S':aM,e=rJ (.agg S'.cells)/\jB w' S'/\CB S'/\Old w w'/\(∀a,0<S'.n->S'.p=some a->w.heap.size<=a.block)/\S'.Q=S.Q/\S'.n<=S.n/\(∀i,S'.M i<=S.M i)/\rV S S'
theorem aGg(S:aM)(w:World)(hs:jB w S):
  Calls zP 53 #[S.val] w (aII w S):=by
 have Hs6:Hid ((zP.info? 133).map (·.size)=some 6):=zH zK;obtain⟨ir,hir,hr0,hr1,hr2⟩:=info_parts Tryz.infoR;obtain⟨z,hz⟩:∃z:Array Value,z=#[.string ⟨#[]⟩,vI iJ 0,.bool false,vI iJ 0,vI iJ 0,.slice none 0 0]:=⟨_,rfl⟩
 have Hz6:Hid (z.size=6):=zH (by rw[hz];rfl);obtain⟨W1,hW1⟩:=zG ((w.alloc (.cells S.cells 133)).alloc (.cells z 133));have hst:gS w W1 S z:=by
  rw[hW1];refine⟨(xM.new w S).old (Old.alloc _ _),?_,(Old.alloc w _).alloc' _⟩;exact heap_alloc2_new w _ _
 have HS:=zH hst;obtain⟨c0,_⟩:=hst.b.at
 have f0:W1.frozen? ⟨w.heap.size,0,none⟩=false:=frozen_of_row _ _ _ _ _ hst.b;have HOK:=zH hs;rw[hz]at hW1;unfold aM.cells at hW1;have HW:=zH hW1;unfold aM.val aM.cells;clear hs hst hW1 hz;go_enter func53,ntmps53
 go_upto_region 1 with fail
 rw[<-HW.o];clear HW;have h1:(100<S.s.size/\∃s',s'=S.s.extract 0 100/\s'.size<=100)\/(¬100<S.s.size/\∃s',s'=S.s/\s'.size<=100):=by
  by_cases h:100<S.s.size
  ·exact .inl ⟨h,_,rfl,by rw[ByteArray.size_extract];omega⟩
  ·exact .inr ⟨h,_,rfl,zO⟩
 rcases h1 with ⟨h1,s',hs',hsz⟩ | ⟨h1,s',hs',hsz⟩
 case inl=>
  have d:decide (100<(S.s.size:Int))=true:=decide_eq_true zO;have HS2:=zH (HS.o.named s');have HSZ:=zH hsz;have HNm:Hid (s'=yP S.s):=zH (by rw[hs'];unfold yP;first | rw[if_pos h1] | rw[if_neg h1])
  go_wp2_with fail
  clear d h1 c0 f0 HS hsz;rw[<-hs'];clear hs'
  go_loopw [3,4] (fun v i wr=>∃k:Nat,k<=4/\k<=S.n/\i=vI iJ k/\Hid (gS w wr (S.named s') z)/\Hid (ownX (fun q=>q<w.heap.size+2) wr 23 v k (pV S k))) (fun _ i _=>4-(intOf i).toNat)
  case atStart=>exact⟨0,zO,zO,rfl,HS2,zH (ownX.nil _ _ _)⟩
  case round=>
   clear HS2;obtain⟨k,hk4,hkn,rfl,HF,HA⟩:=hrel;obtain⟨b0,b1,b2,b3,b4,b5⟩:=HF.o.b.at
   have hb5:wr.cell? ⟨w.heap.size,5,none⟩=some (.slice S.p S.n S.c):=b5;clear b5;have hend:(k=4\/k=S.n)\/(k<4/\k<S.n):=zO;rcases hend with hend | ⟨h4,hn⟩
   ·have dd:(decide ((k:Int)<(S.n:Int)) && decide ((k:Int)<4))=false:=by rcases hend with h | h <;> simp <;> omega
    have hsh:=HA.o.shape;have hst:=HF.o;obtain⟨p',c',hv,hle,hcm,hcells⟩:∃p' c',u3=.slice p' k c'/\k<=c'/\c'<=maxLen/\(0<k->∃g o,p'=some ⟨g,o,none⟩/\g<wr.heap.size/\w.heap.size+2<=g/\∀i,i<k->wr.cell? ⟨g,o+i,none⟩=some (.slice (S.Q i) (gN S i) (S.C i))):=by
     rcases hsh with ⟨hv,h0⟩ | ⟨g,cap,hv,hX,hg,h1,h2,h3⟩
     ·subst h0;exact⟨none,0,hv,Nat.le_refl _,Nat.zero_le _,fun h=>zO⟩
     ·refine⟨_,cap,hv,h1,h2,fun h0=>⟨g,0,rfl,hg,by simpa using hX,fun i hi=>?_⟩⟩;rw[Nat.zero_add];refine h3 i _ ?_;unfold pV;rw[List.getElem?_map,List.getElem?_range hi];rfl
    subst hv;have f5:wr.frozen? ⟨w.heap.size,5,none⟩=false:=frozen_of_row _ _ _ _ _ hst.b;have hst2:=hst.rowed p' k c' (gN S);obtain⟨d0,d1,d2,d3,d4,d5⟩:=hst2.b.at
    have d0:(wr.setCell ⟨w.heap.size,5,none⟩ (.slice p' k c')).cell? ⟨w.heap.size,0,none⟩=some (.string s'):=d0;have d1:(wr.setCell ⟨w.heap.size,5,none⟩ (.slice p' k c')).cell? ⟨w.heap.size,1,none⟩=some (vI iJ S.r):=d1;have d2:(wr.setCell ⟨w.heap.size,5,none⟩ (.slice p' k c')).cell? ⟨w.heap.size,2,none⟩=some (.bool S.lp):=d2;have d3:(wr.setCell ⟨w.heap.size,5,none⟩ (.slice p' k c')).cell? ⟨w.heap.size,3,none⟩=some (vI iJ S.a):=d3;have d4:(wr.setCell ⟨w.heap.size,5,none⟩ (.slice p' k c')).cell? ⟨w.heap.size,4,none⟩=some (vI iJ S.b):=d4;have d5:(wr.setCell ⟨w.heap.size,5,none⟩ (.slice p' k c')).cell? ⟨w.heap.size,5,none⟩=some (.slice p' k c'):=d5;obtain⟨W3,hW3⟩:=zG (wr.setCell ⟨w.heap.size,5,none⟩ (.slice p' k c'));have hfew:CB ((S.named s').rowed p' k c' (gN S)):=⟨HSZ.o,hk4,fun i hi=>by show gN S i<=150;unfold gN;split <;> omega⟩
    have HFW:=zH hfew;have hst3:gS w W3 ((S.named s').rowed p' k c' (gN S)) z:=by rw[hW3];exact hst2
    have HST:=zH hst3;have HW3:=zH hW3;rw[<-hW3]at d0 d1 d2 d3 d4 d5;obtain⟨R,hR⟩:∃R:Array Value,R=#[.string s',vI iJ S.r,.bool S.lp,vI iJ S.a,vI iJ S.b,.slice p' k c']:=⟨_,rfl⟩
    have HR:=zH hR;have hrr:=bS hst3.r hst3.old zO R;have hok:jB (W3.setRow (w.heap.size+1) R) ((S.named s').rowed p' k c' (gN S)):=by
     refine⟨by have:=HSZ.o;exact Nat.le_trans this zD,hle,hcm,⟨fun h0=>?_,fun i hi=>?_⟩⟩
     ·obtain⟨g,o,e,h1,h2,h3⟩:=hcells h0;have hk:Kept (fun q=>w.heap.size+2<=q) wr (W3.setRow (w.heap.size+1) R):=by
       rw[hW3];exact(Kept.setCell wr (a:=⟨w.heap.size,5,none⟩) zS _).trans ⟨rfl,rfl,zS,fun k hk=>setRow_other _ _ _ _ zO⟩
      refine⟨g,o,e,Nat.lt_of_lt_of_le h1 hk.size,fun i hi=>(hk.cell (a:=⟨g,o+i,none⟩) h2).trans (h3 i hi)⟩
     ·have hi':i<S.n:=by
       have:i<k:=hi;omega
      have hr:=(HOK.o.old hrr.2).rows.row i hi';have hm:gN S i<=S.M i:=by unfold gN;split <;> omega
      refine⟨Nat.le_trans hm hr.1,hr.2.1,fun h0=>?_⟩;obtain⟨g,o,e,h1,h2⟩:=hr.2.2 (Nat.lt_of_lt_of_le h0 hm);exact⟨g,o,e,h1,fun j hj=>h2 j (Nat.lt_of_lt_of_le hj hm)⟩
    have HOK2:=zH hok;have HRR:=zH hrr;have HGP:=zH (show 0<k->∃g o,p'=some ⟨g,o,none⟩/\w.heap.size<=g from fun h0=>by
     obtain⟨g,o,e,_,h2,_⟩:=hcells h0;exact⟨g,o,e,zO⟩)
    have HR6:Hid (R.size=6):=zH (by rw[hR];rfl);have HR1:Hid (R.all (·.oneCell')=true):=zH (by rw[hR];kernel_rfl);clear hrr hok hfew hst hst2 hst3 hsh hcells hle hcm HF HA HOK b0 b1 b2 b3 b4 hW3 hR dd;rcases hend with h | h
    ·have e4:decide ((k:Int)<4)=false:=decide_eq_false zO;have HKn:Hid (k=min S.n 4):=zH zO;clear h
     go_wp2_with (first | (rw[<-HW3.o]) | (rw[<-HR.o];with_reducible refine wpList_store_row rfl 133 _ _ rfl (w.heap.size+1) R rfl rfl 133 _ HST.o.r (by rw[HR6.o];exact Hs6.o) (by rw[HR6.o,Hz6.o]) HR1.o ?_))
     all_goals
      refine bodyPost_ret (results_cell_row rfl _ _ (w.heap.size+1) 133 R (0,0) _ rfl HRR.o.1 underlying133 rfl (by rw[HR6.o];exact Hs6.o)) rfl ?_;exact⟨_,by rw[HR.o];rfl,HOK2.o,HFW.o,HRR.o.2,fun a h0 ha=>by obtain⟨g,o,e,h⟩:=HGP.o h0;have ha:p'=some a:=ha;rw[e]at ha;cases ha;exact h,rfl,hkn,(fun i=>by show gN S i<=S.M i;unfold gN;split <;> omega),⟨HNm.o,rfl,rfl,rfl,rfl,HKn.o,rfl,rfl⟩⟩
    ·have e4:decide ((k:Int)<(S.n:Int))=false:=decide_eq_false zO;have e5:¬((k:Int)<(S.n:Int)):=zO;have HKn:Hid (k=min S.n 4):=zH zO;clear h
     go_wp2_with (first | (rw[<-HW3.o]) | (rw[<-HR.o];with_reducible refine wpList_store_row rfl 133 _ _ rfl (w.heap.size+1) R rfl rfl 133 _ HST.o.r (by rw[HR6.o];exact Hs6.o) (by rw[HR6.o,Hz6.o]) HR1.o ?_))
     all_goals
      refine bodyPost_ret (results_cell_row rfl _ _ (w.heap.size+1) 133 R (0,0) _ rfl HRR.o.1 underlying133 rfl (by rw[HR6.o];exact Hs6.o)) rfl ?_;exact⟨_,by rw[HR.o];rfl,HOK2.o,HFW.o,HRR.o.2,fun a h0 ha=>by obtain⟨g,o,e,h⟩:=HGP.o h0;have ha:p'=some a:=ha;rw[e]at ha;cases ha;exact h,rfl,hkn,(fun i=>by show gN S i<=S.M i;unfold gN;split <;> omega),⟨HNm.o,rfl,rfl,rfl,rfl,HKn.o,rfl,rfl⟩⟩
   ·obtain⟨g,o,hp,hg,hc⟩:=(HOK.o.old HF.o.old).rows.cell zO;have ck:=hc k hn;have hr:=(HOK.o.old HF.o.old).rows.row k hn;rw[hp]at hb5;have q1:(k:Int)<S.n:=zO;have HLT:=zH HF.o.lt;have HN:=zH (GR S k);have HLN:=zH (MM S k);by_cases hm:150<S.M k
    ·obtain⟨g2,o2,hQ,_,_⟩:=hr.2.2 zO;have hcl:150<=S.C k:=by have:=hr.1;omega
     rw[hQ]at ck;have HX:Hid (pV S (k+1)=pV S k ++ [.slice (some ⟨g2,o2,none⟩) 150 (S.C k)]):=zH (by rw[HN.o,hQ];unfold gN;rw[if_pos hm]);have hcm:S.C k<=9223372036854775807:=by have:=hr.2.1;unfold maxLen at this;omega
     have HA1:=zH (HA.o.old (Old.alloc wr (.cells #[.slice (some ⟨g2,o2,none⟩) 150 (S.C k)] 23)));have HF1:=zH (HF.o.kept ((Old.alloc wr (.cells #[.slice (some ⟨g2,o2,none⟩) 150 (S.C k)] 23)).kept (fun q hq=>by have:=HLT.o;omega)));clear hc hr hp hQ HA HF HN hg
     go_wp2_with (at_builtin;refine fL _ rfl _ _ 131 rfl (fun q=>q<w.heap.size+2) 23 ir (.slice none 0 0) 24 underlying131 hir hr0 hr1 hr2 rfl _ _ _ rfl HA1.o ⟨wr.heap.size,0,none⟩ 1 1 [.slice (some ⟨g2,o2,none⟩) 150 (S.C k)] rfl rfl (jW wr _ _) (rH rfl) (by unfold maxLen;omega) zO (fun q hq=>by have:=HF1.o.lt;omega) ?_;intro v' w2 hown2 hk2 _;have HF2:=zH (HF1.o.kept hk2);have HA2:=zH hown2;clear hown2 hk2 HA1 HF1)
     go_roundw
     case rel=>exact⟨k+1,zO,zO,by go_num,HF2,by rw[HX.o];exact HA2⟩
     case measure=>exact zM
    ·have HX:Hid (pV S (k+1)=pV S k ++ [.slice (S.Q k) (S.M k) (S.C k)]):=zH (by rw[HN.o];unfold gN;rw[if_neg hm]);have HA1:=zH (HA.o.old (Old.alloc wr (.cells #[.slice (S.Q k) (S.M k) (S.C k)] 23)));have HF1:=zH (HF.o.kept ((Old.alloc wr (.cells #[.slice (S.Q k) (S.M k) (S.C k)] 23)).kept (fun q hq=>by have:=HLT.o;omega)));clear hc hr hp HA HF HN hg
     go_wp2_with (at_builtin;refine fL _ rfl _ _ 131 rfl (fun q=>q<w.heap.size+2) 23 ir (.slice none 0 0) 24 underlying131 hir hr0 hr1 hr2 rfl _ _ _ rfl HA1.o ⟨wr.heap.size,0,none⟩ 1 1 [.slice (S.Q k) (S.M k) (S.C k)] rfl rfl (jW wr _ _) (rH rfl) (by unfold maxLen;omega) zO (fun q hq=>by have:=HF1.o.lt;omega) ?_;intro v' w2 hown2 hk2 _;have HF2:=zH (HF1.o.kept hk2);have HA2:=zH hown2;clear hown2 hk2 HA1 HF1)
     go_roundw
     case rel=>exact⟨k+1,zO,zO,by go_num,HF2,by rw[HX.o];exact HA2⟩
     case measure=>exact zM
 case inr=>
  have d:decide (100<(S.s.size:Int))=false:=decide_eq_false zO;have HS2:=zH (show gS w W1 (S.named s') z by rw[hs'];exact HS.o);have HSZ:=zH hsz;have HNm:Hid (s'=yP S.s):=zH (by rw[hs'];unfold yP;first | rw[if_pos h1] | rw[if_neg h1])
  go_wp2_with fail
  clear d h1 c0 f0 HS hs' hsz
  go_loopw [3,4] (fun v i wr=>∃k:Nat,k<=4/\k<=S.n/\i=vI iJ k/\Hid (gS w wr (S.named s') z)/\Hid (ownX (fun q=>q<w.heap.size+2) wr 23 v k (pV S k))) (fun _ i _=>4-(intOf i).toNat)
  case atStart=>exact⟨0,zO,zO,rfl,HS2,zH (ownX.nil _ _ _)⟩
  case round=>
   clear HS2;obtain⟨k,hk4,hkn,rfl,HF,HA⟩:=hrel;obtain⟨b0,b1,b2,b3,b4,b5⟩:=HF.o.b.at
   have hb5:wr.cell? ⟨w.heap.size,5,none⟩=some (.slice S.p S.n S.c):=b5;clear b5;have hend:(k=4\/k=S.n)\/(k<4/\k<S.n):=zO;rcases hend with hend | ⟨h4,hn⟩
   ·have dd:(decide ((k:Int)<(S.n:Int)) && decide ((k:Int)<4))=false:=by rcases hend with h | h <;> simp <;> omega
    have hsh:=HA.o.shape;have hst:=HF.o;obtain⟨p',c',hv,hle,hcm,hcells⟩:∃p' c',u3=.slice p' k c'/\k<=c'/\c'<=maxLen/\(0<k->∃g o,p'=some ⟨g,o,none⟩/\g<wr.heap.size/\w.heap.size+2<=g/\∀i,i<k->wr.cell? ⟨g,o+i,none⟩=some (.slice (S.Q i) (gN S i) (S.C i))):=by
     rcases hsh with ⟨hv,h0⟩ | ⟨g,cap,hv,hX,hg,h1,h2,h3⟩
     ·subst h0;exact⟨none,0,hv,Nat.le_refl _,Nat.zero_le _,fun h=>zO⟩
     ·refine⟨_,cap,hv,h1,h2,fun h0=>⟨g,0,rfl,hg,by simpa using hX,fun i hi=>?_⟩⟩;rw[Nat.zero_add];refine h3 i _ ?_;unfold pV;rw[List.getElem?_map,List.getElem?_range hi];rfl
    subst hv;have f5:wr.frozen? ⟨w.heap.size,5,none⟩=false:=frozen_of_row _ _ _ _ _ hst.b;have hst2:=hst.rowed p' k c' (gN S);obtain⟨d0,d1,d2,d3,d4,d5⟩:=hst2.b.at
    have d0:(wr.setCell ⟨w.heap.size,5,none⟩ (.slice p' k c')).cell? ⟨w.heap.size,0,none⟩=some (.string s'):=d0;have d1:(wr.setCell ⟨w.heap.size,5,none⟩ (.slice p' k c')).cell? ⟨w.heap.size,1,none⟩=some (vI iJ S.r):=d1;have d2:(wr.setCell ⟨w.heap.size,5,none⟩ (.slice p' k c')).cell? ⟨w.heap.size,2,none⟩=some (.bool S.lp):=d2;have d3:(wr.setCell ⟨w.heap.size,5,none⟩ (.slice p' k c')).cell? ⟨w.heap.size,3,none⟩=some (vI iJ S.a):=d3;have d4:(wr.setCell ⟨w.heap.size,5,none⟩ (.slice p' k c')).cell? ⟨w.heap.size,4,none⟩=some (vI iJ S.b):=d4;have d5:(wr.setCell ⟨w.heap.size,5,none⟩ (.slice p' k c')).cell? ⟨w.heap.size,5,none⟩=some (.slice p' k c'):=d5;obtain⟨W3,hW3⟩:=zG (wr.setCell ⟨w.heap.size,5,none⟩ (.slice p' k c'));have hfew:CB ((S.named s').rowed p' k c' (gN S)):=⟨HSZ.o,hk4,fun i hi=>by show gN S i<=150;unfold gN;split <;> omega⟩
    have HFW:=zH hfew;have hst3:gS w W3 ((S.named s').rowed p' k c' (gN S)) z:=by rw[hW3];exact hst2
    have HST:=zH hst3;have HW3:=zH hW3;rw[<-hW3]at d0 d1 d2 d3 d4 d5;obtain⟨R,hR⟩:∃R:Array Value,R=#[.string s',vI iJ S.r,.bool S.lp,vI iJ S.a,vI iJ S.b,.slice p' k c']:=⟨_,rfl⟩
    have HR:=zH hR;have hrr:=bS hst3.r hst3.old zO R;have hok:jB (W3.setRow (w.heap.size+1) R) ((S.named s').rowed p' k c' (gN S)):=by
     refine⟨by have:=HSZ.o;exact Nat.le_trans this zD,hle,hcm,⟨fun h0=>?_,fun i hi=>?_⟩⟩
     ·obtain⟨g,o,e,h1,h2,h3⟩:=hcells h0;have hk:Kept (fun q=>w.heap.size+2<=q) wr (W3.setRow (w.heap.size+1) R):=by
       rw[hW3];exact(Kept.setCell wr (a:=⟨w.heap.size,5,none⟩) zS _).trans ⟨rfl,rfl,zS,fun k hk=>setRow_other _ _ _ _ zO⟩
      refine⟨g,o,e,Nat.lt_of_lt_of_le h1 hk.size,fun i hi=>(hk.cell (a:=⟨g,o+i,none⟩) h2).trans (h3 i hi)⟩
     ·have hi':i<S.n:=by
       have:i<k:=hi;omega
      have hr:=(HOK.o.old hrr.2).rows.row i hi';have hm:gN S i<=S.M i:=by unfold gN;split <;> omega
      refine⟨Nat.le_trans hm hr.1,hr.2.1,fun h0=>?_⟩;obtain⟨g,o,e,h1,h2⟩:=hr.2.2 (Nat.lt_of_lt_of_le h0 hm);exact⟨g,o,e,h1,fun j hj=>h2 j (Nat.lt_of_lt_of_le hj hm)⟩
    have HOK2:=zH hok;have HRR:=zH hrr;have HGP:=zH (show 0<k->∃g o,p'=some ⟨g,o,none⟩/\w.heap.size<=g from fun h0=>by
     obtain⟨g,o,e,_,h2,_⟩:=hcells h0;exact⟨g,o,e,zO⟩)
    have HR6:Hid (R.size=6):=zH (by rw[hR];rfl);have HR1:Hid (R.all (·.oneCell')=true):=zH (by rw[hR];kernel_rfl);clear hrr hok hfew hst hst2 hst3 hsh hcells hle hcm HF HA HOK b0 b1 b2 b3 b4 hW3 hR dd;rcases hend with h | h
    ·have e4:decide ((k:Int)<4)=false:=decide_eq_false zO;have HKn:Hid (k=min S.n 4):=zH zO;clear h
     go_wp2_with (first | (rw[<-HW3.o]) | (rw[<-HR.o];with_reducible refine wpList_store_row rfl 133 _ _ rfl (w.heap.size+1) R rfl rfl 133 _ HST.o.r (by rw[HR6.o];exact Hs6.o) (by rw[HR6.o,Hz6.o]) HR1.o ?_))
     all_goals
      refine bodyPost_ret (results_cell_row rfl _ _ (w.heap.size+1) 133 R (0,0) _ rfl HRR.o.1 underlying133 rfl (by rw[HR6.o];exact Hs6.o)) rfl ?_;exact⟨_,by rw[HR.o];rfl,HOK2.o,HFW.o,HRR.o.2,fun a h0 ha=>by obtain⟨g,o,e,h⟩:=HGP.o h0;have ha:p'=some a:=ha;rw[e]at ha;cases ha;exact h,rfl,hkn,(fun i=>by show gN S i<=S.M i;unfold gN;split <;> omega),⟨HNm.o,rfl,rfl,rfl,rfl,HKn.o,rfl,rfl⟩⟩
    ·have e4:decide ((k:Int)<(S.n:Int))=false:=decide_eq_false zO;have e5:¬((k:Int)<(S.n:Int)):=zO;have HKn:Hid (k=min S.n 4):=zH zO;clear h
     go_wp2_with (first | (rw[<-HW3.o]) | (rw[<-HR.o];with_reducible refine wpList_store_row rfl 133 _ _ rfl (w.heap.size+1) R rfl rfl 133 _ HST.o.r (by rw[HR6.o];exact Hs6.o) (by rw[HR6.o,Hz6.o]) HR1.o ?_))
     all_goals
      refine bodyPost_ret (results_cell_row rfl _ _ (w.heap.size+1) 133 R (0,0) _ rfl HRR.o.1 underlying133 rfl (by rw[HR6.o];exact Hs6.o)) rfl ?_;exact⟨_,by rw[HR.o];rfl,HOK2.o,HFW.o,HRR.o.2,fun a h0 ha=>by obtain⟨g,o,e,h⟩:=HGP.o h0;have ha:p'=some a:=ha;rw[e]at ha;cases ha;exact h,rfl,hkn,(fun i=>by show gN S i<=S.M i;unfold gN;split <;> omega),⟨HNm.o,rfl,rfl,rfl,rfl,HKn.o,rfl,rfl⟩⟩
   ·obtain⟨g,o,hp,hg,hc⟩:=(HOK.o.old HF.o.old).rows.cell zO;have ck:=hc k hn;have hr:=(HOK.o.old HF.o.old).rows.row k hn;rw[hp]at hb5;have q1:(k:Int)<S.n:=zO;have HLT:=zH HF.o.lt;have HN:=zH (GR S k);have HLN:=zH (MM S k);by_cases hm:150<S.M k
    ·obtain⟨g2,o2,hQ,_,_⟩:=hr.2.2 zO;have hcl:150<=S.C k:=by have:=hr.1;omega
     rw[hQ]at ck;have HX:Hid (pV S (k+1)=pV S k ++ [.slice (some ⟨g2,o2,none⟩) 150 (S.C k)]):=zH (by rw[HN.o,hQ];unfold gN;rw[if_pos hm]);have hcm:S.C k<=9223372036854775807:=by have:=hr.2.1;unfold maxLen at this;omega
     have HA1:=zH (HA.o.old (Old.alloc wr (.cells #[.slice (some ⟨g2,o2,none⟩) 150 (S.C k)] 23)));have HF1:=zH (HF.o.kept ((Old.alloc wr (.cells #[.slice (some ⟨g2,o2,none⟩) 150 (S.C k)] 23)).kept (fun q hq=>by have:=HLT.o;omega)));clear hc hr hp hQ HA HF HN hg
     go_wp2_with (at_builtin;refine fL _ rfl _ _ 131 rfl (fun q=>q<w.heap.size+2) 23 ir (.slice none 0 0) 24 underlying131 hir hr0 hr1 hr2 rfl _ _ _ rfl HA1.o ⟨wr.heap.size,0,none⟩ 1 1 [.slice (some ⟨g2,o2,none⟩) 150 (S.C k)] rfl rfl (jW wr _ _) (rH rfl) (by unfold maxLen;omega) zO (fun q hq=>by have:=HF1.o.lt;omega) ?_;intro v' w2 hown2 hk2 _;have HF2:=zH (HF1.o.kept hk2);have HA2:=zH hown2;clear hown2 hk2 HA1 HF1)
     go_roundw
     case rel=>exact⟨k+1,zO,zO,by go_num,HF2,by rw[HX.o];exact HA2⟩
     case measure=>exact zM
    ·have HX:Hid (pV S (k+1)=pV S k ++ [.slice (S.Q k) (S.M k) (S.C k)]):=zH (by rw[HN.o];unfold gN;rw[if_neg hm]);have HA1:=zH (HA.o.old (Old.alloc wr (.cells #[.slice (S.Q k) (S.M k) (S.C k)] 23)));have HF1:=zH (HF.o.kept ((Old.alloc wr (.cells #[.slice (S.Q k) (S.M k) (S.C k)] 23)).kept (fun q hq=>by have:=HLT.o;omega)));clear hc hr hp HA HF HN hg
     go_wp2_with (at_builtin;refine fL _ rfl _ _ 131 rfl (fun q=>q<w.heap.size+2) 23 ir (.slice none 0 0) 24 underlying131 hir hr0 hr1 hr2 rfl _ _ _ rfl HA1.o ⟨wr.heap.size,0,none⟩ 1 1 [.slice (S.Q k) (S.M k) (S.C k)] rfl rfl (jW wr _ _) (rH rfl) (by unfold maxLen;omega) zO (fun q hq=>by have:=HF1.o.lt;omega) ?_;intro v' w2 hown2 hk2 _;have HF2:=zH (HF1.o.kept hk2);have HA2:=zH hown2;clear hown2 hk2 HA1 HF1)
     go_roundw
     case rel=>exact⟨k+1,zO,zO,by go_num,HF2,by rw[HX.o];exact HA2⟩
     case measure=>exact zM
end Go.Proofs.YticpdokbiblpoaaGreatDoor
