/- Texts joined: BankN, BankO, BankR. -/
import Derived.Test.YticpdokbiblpoaaGreatDoorPkAU
import Derived.Test.YticpdokbiblpoaaGreatDoorTk
set_option linter.unusedVariables false
set_option linter.unusedSimpArgs false
set_option maxHeartbeats 8000000
namespace Go.Proofs.YticpdokbiblpoaaGreatDoor
open Go.Proofs.Tryz
open Go.Proofs.Tryz renaming prog → zP
open Go.Value renaming int → vI
open Go.IntKind renaming i64 → iJ
open Go.Ending renaming returned → rJ
set_option maxRecDepth 100000
open Go.RowKit Go.ChangeShapes Go.WideShapes
structure RdW(w W:World)(g n k:Nat)(Z:Nat->Mt):Prop where
 lt:g<W.heap.size
 ge:w.heap.size<=g
 there:W.there g 0 (n*9)
 cell:∀i,i<k->∀f v,(Z i).cells[f]?=some v->W.cell? ⟨g,i*9+f,none⟩=some v
 old:Old w W
theorem RdW.on{w W W':World}{g n k:Nat}{Z:Nat->Mt}(h:RdW w W g n k Z)(o:Old W W'):RdW w W' g n k Z where
 lt:=Nat.lt_of_lt_of_le h.lt o.size
 ge:=h.ge
 there:=fun j hj=>by
  have:=h.there j hj;exact⟨by rw[o.cell (a:=⟨g,0+j,none⟩) h.lt];exact this.1,by rw[Kept.frozen o (a:=⟨g,0+j,none⟩) h.lt];exact this.2⟩
 cell:=fun i hi f v hf=>(o.cell (a:=⟨g,i*9+f,none⟩) h.lt).trans (h.cell i hi f v hf)
 old:=h.old.trans o
theorem TR(m:Mt):m.cells.toList.length=9:=rfl
theorem RdW.put{w W:World}{g n k:Nat}{Z:Nat->Mt}(h:RdW w W g n k Z)(hk:k<n)(m:Mt):RdW w (W.setCells g (k*9) m.cells.toList) g n (k+1) (fun i=>if i=k then m else Z i) where
 lt:=by rw[eT];exact h.lt
 ge:=h.ge
 there:=World.there_setCells h.there _ _ _
 cell:=fun i hi f v hf=>by
  have f9:f<9:=by
   rcases Nat.lt_or_ge f 9 with h | h
   ·exact h
   ·rw[Array.getElem?_eq_none (by split at hf <;> (rw[Mt.size9];exact h))]at hf;cases hf
  by_cases e:i=k
  ·subst e;rw[if_pos rfl]at hf;have h1:=World.cell?_setCells_in g m.cells.toList (i*9) W (fun j hj=>by
    have:=(h.there (i*9+j) (by rw[TR]at hj;omega)).1
    rwa [Nat.zero_add]at this) f (by rw[TR];exact f9)
   rw[h1,<-hf];simp
  ·rw[if_neg e]at hf;rw[World.cell?_setCells_out g m.cells.toList (k*9) W ⟨g,i*9+f,none⟩ (fun _ _=>by rw[TR];show i*9+f<k*9\/k*9+9<=i*9+f;omega)];exact h.cell i zO f v hf
 old:=h.old.after (Kept.setCells (X:=fun q=>q<w.heap.size) W (by have:=h.ge;omega) _ _) fun _ h=>h
def QE:Array Value:=#[.string ⟨#[]⟩,vI iJ 0,vI iJ 0,vI iJ 0,.bool false,vI iJ 0,vI iJ 0,vI iJ 0,vI iJ 0]
theorem CM(n:Nat)(hn:n<=1099511627776)(w:World):(Instr.makeSlice 105 (vI iJ n) (vI iJ n)).run zP w=.ok (.slice (some ⟨w.heap.size,0,none⟩) n n) (w.alloc (.cells (madeCells QE (n*9)) 90)):=by
 obtain⟨i,hi,hz0,hz1,hz2⟩:=info_parts Tryz.infoM;rw[run_make w _ _ i _ underlying105 hi hz0 .i64 .i64 n n zO zO (by rw[hz2];omega) zO,hz1,Int.toNat_natCast];rfl
theorem wB(w:World)(m:Nat)(z:Array Value)(t:TypeId):(w.alloc (.cells (madeCells z m) t)).there w.heap.size 0 m:=fun j hj=>by
 have hb:(w.alloc (.cells (madeCells z m) t)).heap[w.heap.size]?=some (.cells (madeCells z m) t (0,0)):=heap_alloc_new _ _;refine⟨?_,frozen_of_row _ _ _ _ _ hb⟩;rw[cell_of_row _ _ _ _ _ _ hb,Nat.zero_add,Array.getElem?_eq_getElem (by rw[size_madeCells];exact hj)];rfl
theorem aGx(b o L c:Nat)(h:64<=L)(w:World):(Instr.arrayAt 202 (.slice (some ⟨b,o,none⟩) L c)).run zP w=.ok (.pointer (some ⟨b,o,none⟩)) w:=by
 have:¬L<64:=zO;simp[Instr.arrayAt,run_underlying underlying202,this]
def RdI(E:nI)(m:Mt):Prop:=∃t,m=rdM t E/\TrE E t/\∀j,j<64->eY m j=E j
def aBM(D:Nat->Mt)(n:Nat)(F:nI):Prop:=(∀i,i<n->(D i).Wide/\∀j,j<64->eY (D i) j=F (64*i+j))/\nH D n
theorem aFF{t:ByteArray}{E:nI}(hE:lS E 64):(rdM t E).numOk/\(0<=(rdM t E).x/\(rdM t E).x<4294967296)/\0<=(rdM t E).y/\(rdM t E).y<4294967296:=by
 have b:∀o,o+4<=64->0<=aO (fun j=>E (o+j)) 4/\aO (fun j=>E (o+j)) 4<4294967296:=fun o ho=>pH (F:=fun j=>E (o+j)) (w:=4) fun j hj=>hE (o+j) zO;have b0:=b 32 zO;have b1:=b 36 zO;have b2:=b 40 zO;have b3:=b 44 zO;have b4:=b 48 zO;have b5:=b 52 zO;refine⟨fun k hk=>?_,b4,b5⟩
 match k,hk with
 | 0,_=>show 0<=aO (fun j=>E (32+j)) 4/\aO (fun j=>E (32+j)) 4<=_;omega
 | 1,_=>show 0<=aO (fun j=>E (36+j)) 4/\aO (fun j=>E (36+j)) 4<=_;omega
 | 2,_=>show 0<=aO (fun j=>E (40+j)) 4/\aO (fun j=>E (40+j)) 4<=_;omega
 | 3,_=>show 0<=aO (fun j=>E (44+j)) 4/\aO (fun j=>E (44+j)) 4<=_;omega
 | 4,_=>show 0<=aO (fun j=>E (48+j)) 4/\aO (fun j=>E (48+j)) 4<=_;omega
 | 5,_=>show 0<=aO (fun j=>E (52+j)) 4/\aO (fun j=>E (52+j)) 4<=_;omega
theorem aDo{D Z:Nat->Mt}{n:Nat}(e:∀i,i<n->D i=Z i)(h:nH D n):nH Z n:=fun i hi=>by
 have:=h i hi;rw[e i hi,e (i-1) zO]at this;exact this
def aIK(w:World)(n:Nat)(F:nI)(e:Ending)(w':World):Prop:=
 (∃q c D,e=rJ (.tuple #[.slice q n c,.bool true])/\n<=c/\c<=maxLen/\iB w' q n D/\nH D n/\(∀i,i<n->RdI (fun j=>F (64*i+j)) (D i))/\Old w w'/\∀a,0<n->q=some a->w.heap.size<=a.block) \/
 ∃q m c,e=rJ (.tuple #[.slice q m c,.bool false])/\(∀D,¬aBM D n F)/\Old w w'
theorem LF(p:Option Addr)(n cap:Nat)(F:nI)(w:World)(hs:SlU w p (64*n) F)(hb:lS F (64*n))(hn:n<=64)(hc:64*n<=cap):
  Calls zP 58 #[.slice p (64*n) cap] w (aIK w n F):=by
 have hmk:=CM n zO w;obtain⟨g,hg⟩:=zG (w.heap.size);obtain⟨W0,hW0⟩:∃W,W=w.alloc (.cells (madeCells QE (n*9)) 90):=⟨_,rfl⟩
 have HR0:Hid (RdW w W0 g n 0 (fun _=>⟨⟨#[]⟩,0,0,0,false,0,0,0,0⟩)):=zH (by
  rw[hW0,hg];exact⟨zS,Nat.le_refl _,wB _ _ _ _,fun i hi=>zO,Old.alloc _ _⟩)
 rw[<-hW0,<-hg]at hmk;have HS:=zH hs;have HB:=zH hb;have HC:=zH hc;have Hs9:Hid ((zP.info? 90).map (·.size)=some 9):=zH zK;have Hs64:=zH Tryz.zero64.2;obtain⟨N,hN⟩:=zG (64*n);rw[<-hN];have q1:wrap64 ((N:Int).tdiv 64)=n:=by
  have:(N:Int).tdiv 64=n:=(gV _ _ zO).trans zO;rw[this];exact IntWalk.wrap64_in _ zO
 have q2:(N:Int)/64=n:=zO;have HN:=zH hN;have hN0:N<=4096:=zO;clear hW0 hg hs hb hc hN;go_enter func58,ntmps58
 go_wp2_with fail
 clear q1 q2 hmk
 go_loopw [13] (fun iv wr=>∃(k:Nat) (Z:Nat->Mt),k<=n/\iv=vI iJ k/\Hid (RdW w wr g n k Z)/\Hid (∀i,i<k->RdI (fun j=>F (64*i+j)) (Z i))) (fun i _=>n-(intOf i).toNat)
 case atStart=>exact⟨0,_,zO,by go_num,HR0,zH fun i hi=>zO⟩
 case round=>
  clear HR0;obtain⟨k,Z,hk,rfl,HR,HZ⟩:=hrel;by_cases hkn:k<n
  ·obtain⟨E,hE⟩:∃E:nI,E=fun j=>F (64*k+j):=⟨_,rfl⟩
   obtain⟨gb,ob,rfl,hgb,hcs⟩:=(HS.o.old HR.o.old) zO;have hEb:lS E 64:=fun j hj=>by rw[hE];exact HB.o _ zO
   obtain⟨u,hu⟩:∃u:Nat,u=k*64:=⟨_,rfl⟩
   obtain⟨L,hL⟩:∃L:Nat,L=N-u:=⟨_,rfl⟩
   obtain⟨c',hc'⟩:∃c:Nat,c=cap-u:=⟨_,rfl⟩
   have hNN:=HN.o;have hCC:=HC.o;have e1:wrap64 ((k:Int)*64)=u:=by rw[IntWalk.wrap64_in _ zO];omega
   have e2:(k:Int)*64=u:=zO;have hcl:∀w',(Instr.sliceAt 34 (.slice (some ⟨gb,ob,none⟩) N cap) (some (vI iJ u)) none none).run zP w'=.ok (.slice (some ⟨gb,ob+u,none⟩) L c') w':=fun w'=>by
    have:=vS gb ob N cap u zO zO w'
    rwa [<-hL,<-hc']at this
   have hap:=fun w'=>aGx gb (ob+u) L c' zO w';have HLd:Hid (∀j,j<64->wr.cell? ⟨gb,ob+u+j,none⟩=some (.int .u8 (E j))):=zH fun j hj=>by
    rw[Nat.add_assoc,hcs (u+j) zO,hE];show some (Value.int .u8 (F (u+j)))=some (Value.int .u8 (F (64*k+j)));rw[show 64*k+j=u+j by omega]
   obtain⟨b1,hb1⟩:∃b,b=wr.heap.size:=⟨_,rfl⟩
   obtain⟨R,hR⟩:=zG (aA 64 (bU E));obtain⟨W1,hW1⟩:∃W,W=wr.alloc (.cells R 202):=⟨_,rfl⟩
   have HRow:=zH (show UAt W1 b1 64 E by rw[hW1,hb1,hR];exact qF _ _ _ _);have HO1:=zH (show Old wr W1 by rw[hW1];exact Old.alloc _ _);have HW1:=zH hW1;have HB1:=zH hb1;have HRr:=zH hR;have HRs:Hid (R.size=64):=zH (by rw[hR,aB]);have HR1:Hid (R.all (·.oneCell')=true):=zH (by rw[hR];exact UW 64 E);have HRe:=zH (fun V=>EU E V hEb);rw[<-hR]at HRe;have HEq:=zH hE;have HEb:=zH hEb;have hz:=Tryz.zero64.1;have HLd1:Hid (∀j,j<64->W1.cell? ⟨b1,0+j,none⟩=some (.int .u8 (E j))):=zH fun j hj=>by rw[Nat.zero_add];exact HRow.o.at_ j hj
   have i0:(0:Int)<=k:=zO;have i1:(k:Int)<n:=zO;have b2:(u:Int)<=N:=zO;clear hE hgb hcs hEb hu hL hc' hNN hCC hb1 hR hW1
   go_wp2_with (first
    | (with_reducible refine gD rfl 64 E 202 _ rfl gb (ob+u) rfl _ HLd.o underlying202 rfl Hs64.o ?_;rw[<-HRr.o])
    | (with_reducible refine wpList_store_row rfl 202 _ _ rfl wr.heap.size R rfl rfl 202 _ (heap_alloc_new _ _) (by rw[HRs.o];exact Hs64.o) (by rw[HRs.o,aB]) HR1.o ?_;rw[World.setRow_alloc_new,<-HW1.o,<-HB1.o];clear hz)
    | (with_reducible refine gD rfl 64 E 202 _ rfl b1 0 rfl _ HLd1.o underlying202 rfl Hs64.o ?_;rw[<-HRr.o]))
   refine(HRe.o _).mono ?_;rintro e V ⟨t,rfl,ht,ho⟩;obtain⟨m,hm⟩:=zG (rdM t E);rw[<-hm];have hnm:=aFF (t:=t) HEb.o;rw[<-hm]at hnm;have HTr:=zH ht;have HM:=zH hm;have HNm:=zH hnm;have hR2:=HR.o.on (HO1.o.trans ho);have HTh:Hid (V.there g (k*9) 9):=zH fun j hj=>by
    have:=hR2.there (k*9+j) zO
    rwa [Nat.zero_add]at this
   obtain⟨W2,hW2⟩:∃W,W=V.setCells g (k*9) m.cells.toList:=⟨_,rfl⟩
   have HR2:=zH (show RdW w W2 g n (k+1) (fun i=>if i=k then m else Z i) by rw[hW2];exact hR2.put hkn m);have hbg:b1≠g:=by have:=HR.o.lt;have:=HB1.o;omega
   have HRow2:=zH (show UAt W2 b1 64 E by
    rw[hW2];exact(HRow.o.old ho).kept (Y:=fun q=>q≠g) (Kept.setCells V (fun e=>e rfl) _ _) hbg)
   have HW2:=zH hW2;have Hc9:Hid (m.cells.size=9):=zH (Mt.size9 m);have Hc1:Hid (m.cells.all (·.oneCell')=true):=zH m.one;have HEn:=zH (fun V=>GD m V (by rw[hm];exact ht.le) hnm.1);have hne:=fun w'=>aHp (P:=zP) (t:=202) (e:=5) (n:=64) (q:=.u8) underlying202 underlying5 zK zK (eY m) E w';rw[<-HRr.o]at hne;obtain⟨X,hX⟩:=zG (aA 64 (bU (eY m)));rw[<-hX]at hne HEn;have HNe:=zH hne;have HLen:Hid ((zP.info? 90).map (·.size)=some m.cells.toList.length):=zH Hs9.o;have HKp:Hid (∀U,Old W2 U->(∀f v,m.cells[f]?=some v->U.cell? ⟨g,k*9+f,none⟩=some v)/\∀j,j<64->U.cell? ⟨b1,0+j,none⟩=some (.int .u8 (E j))):=zH fun U hU=>
    ⟨fun f v hf=>(HR2.o.on hU).cell k zO f v (by simp only[if_true];exact hf),fun j hj=>by rw[Nat.zero_add];exact(HRow2.o.old hU).at_ j hj⟩
   clear hm hnm ht hR2 hbg hne hX ho hW2 HR HRe HRow HLd HLd1 HO1 HW1 HB1 hcl hap e1 e2
   go_wp2_with (with_reducible refine wpList_store_mid rfl 90 _ _ rfl g (k*9) m.cells rfl rfl (by rw[Hc9.o];exact HTh.o) (by rw[Hc9.o];exact Hs9.o) Hc1.o ?_;rw[<-HW2.o])
   clear HTh HW2;refine wp_region_held_drew (S:=(fun U=>(∀f v,m.cells[f]?=some v->U.cell? ⟨g,k*9+f,none⟩=some v)/\∀j,j<64->U.cell? ⟨b1,0+j,none⟩=some (.int .u8 (E j)))) zK ?_ (fun hHeld=>?_)
   ·(try dsimp only);exact HKp.o _ (Old.drew (Old.refl W2))
   refine (uU 0) ((uU 1) ((uU 2) ?_));refine (uT 5 (v:=.agg (aA 64 (bU E))) rfl (uW 64 E zK 202 (.tmp 6) rfl b1 0 rfl _ (fun _ h=>h.2) underlying202 rfl Hs64.o)) ?_;refine (uT 3 (v:=.agg m.cells) rfl (yieldsIf_load_mid zK 90 (.tmp 29) rfl g (k*9) rfl m.cells.toList _ (fun _ h j v hv=>h.1 j v (by simpa using hv)) underlying90 rfl HLen.o)) ?_;refine wpR 4 rfl (fun K hK=>?_);go_simp;refine(HEn.o _).mono ?_;rintro e V3 ⟨rfl,o3⟩;have HO3:=zH ((Old.drew (Old.refl W2)).trans o3);clear o3 HEn
   go_wp2_with fail
   refine hK.out _ _ ?_ (fun hHeld=>?_)
   ·(try dsimp only);exact HKp.o _ HO3.o
   clear hK K
   try simp only[Act.put,sA,sZ,sS]
   rw[<-HRr.o];have hne:=HNe.o;obtain⟨q,hq⟩:=zG (eqB 64 (eY m) E);rw[<-hq]at hne;have HQ:=zH hq;have HR3:=zH (HR2.o.on HO3.o);clear hq HR2 HKp;refine (uU 6) ?_;refine wpAnyH_done zK ?_ _;clear hne;cases q
   ·go_wp2_with fail
    go_ret2
    refine .inr ⟨none,0,0,rfl,fun D hD=>?_,HR3.o.old⟩;have h1:=hD.1 k hkn;have h2:=xS h1.1 (fun j hj=>by rw[HEq.o];exact h1.2 j hj) HTr.o;have h3:=aAY.1 HQ.o.symm;exact h3 fun j hj=>by
     rw[HM.o,h2,HEq.o];exact h1.2 j hj
   ·have HZ2:=zH (show ∀i,i<k+1->RdI (fun j=>F (64*i+j)) ((fun i=>if i=k then m else Z i) i) from fun i hi=>by
     by_cases e:i=k
     ·subst e;simp only[if_true];rw[<-HEq.o];exact⟨t,HM.o,HTr.o,PQ.1 HQ.o.symm⟩
     ·simp only[if_neg e];exact HZ.o i zO)
    clear HQ HNe HZ
    go_wp2_with fail
    go_roundw
    case rel=>exact⟨k+1,_,zO,by go_num,HR3,HZ2⟩
    case measure=>exact zM
  ·obtain rfl:k=n:=zO;have hst:∀i,i<k->(Z i).s.size<=9223372036854775807:=fun i hi=>by
    obtain⟨t,h1,h2,_⟩:=HZ.o i hi;rw[h1];have:=h2.le;show t.size<=_;omega
   have hms:iB wr (some ⟨g,0,none⟩) k Z:=⟨fun _=>⟨g,0,rfl,HR.o.lt,fun i hi f v hf=>by rw[Nat.zero_add];exact HR.o.cell i hi f v hf⟩,hst⟩
   have HMs:=zH hms;have HDi:=zH (FV (some ⟨g,0,none⟩) k k Z wr hms zO);have HOl:=zH HR.o.old;have HGe:=zH HR.o.ge;clear hst hms HR
   go_wp2_with fail
   refine HDi.o.mono ?_;rintro e V ⟨b,rfl,hb,ho⟩;have HBb:=zH hb;have HO:=zH ho;clear hb ho HDi;cases b
   ·go_wp2_with fail
    go_ret2
    refine .inr ⟨_,_,_,rfl,fun D hD=>?_,HOl.o.trans HO.o⟩;have e:∀i,i<k->D i=Z i:=fun i hi=>by
     obtain⟨t,h1,h2,_⟩:=HZ.o i hi;have h3:=hD.1 i hi;rw[h1];exact(xS h3.1 h3.2 h2).symm
    have:=HBb.o.2 (aDo e hD.2);cases this
   ·go_wp2_with fail
    go_ret2
    exact .inl ⟨_,_,Z,rfl,Nat.le_refl _,by unfold maxLen;omega,HMs.o.old HO.o,HBb.o.1 zS,HZ.o,HOl.o.trans HO.o,fun a _ ha=>by cases ha;exact HGe.o⟩
def wT(F:nI):Prop:=∀j,j<4->F j=mrk j
instance (F:nI):Decidable (wT F):=by unfold wT;infer_instance
def hd5(F:nI):Int:=aO (fun j=>F (11+j)) 5
def KM(F:nI):Int:=aO (fun j=>F (10+j)) 1
def PU(F:nI):Int:=aO (fun j=>F (8+j)) 2
def hd4(F:nI):Int:=aO (fun j=>F (4+j)) 4
def ZQ(F:nI)(N:Nat):Int:=
 if N<20 then 2 else if ¬wT F\/hd5 F≠0 then 4 else if ¬(24<=KM F/\KM F<=96)\/64<PU F\/hd4 F≠N then 12 else 0
theorem aGe{w:World}{g o N cap:Nat}{F:nI}(h:∀j,j<N->w.cell? ⟨g,o+j,none⟩=some (.int .u8 (F j)))(h0:0<N)(h1:N<=cap)(h2:cap<=maxLen):(convert 34 9 (.slice (some ⟨g,o,none⟩) N cap)).run zP w=.ok (.string (strOfNums (gQ F N))) w:=by
 refine PL ?_;refine⟨some ⟨g,o,none⟩,cap,by rw[dB],fun _=>⟨g,o,rfl,block_lt_of_cell (h 0 h0),by rw[dB];exact h1,h2,fun i hi=>?_⟩⟩;rw[dB]at hi;rw[h i hi,iT F N i hi]
theorem ZK(s:ByteArray)(F:nI)(N:Nat)(hb:lS F N):strOfNums (gQ F N)=s↔s.size=N/\∀j,j<N->lT s j=F j:=by
 have h:=FC (gQ F N) (qN hb);rw[dB]at h;constructor
 ·intro e;rw[<-e];exact⟨h.1,fun j hj=>by rw[h.2 j hj,iT F N j hj]⟩
 ·rintro ⟨h1,h2⟩;refine GU _ _ (by rw[h.1,h1]) fun j hj=>?_;rw[h.1]at hj;rw[h.2 j hj,iT F N j hj,h2 j hj]
theorem VS(s t:ByteArray)(h:s≠t):(s.toList == t.toList)=false:=by
 rw[beq_eq_false_iff_ne];intro e;rw[ByteArray.toList_eq,ByteArray.toList_eq]at e;obtain⟨a⟩:=s;obtain⟨b⟩:=t;have:a=b:=Array.toList_inj.1 e;exact h (by rw[this])
theorem YY:uR.toList = [67,65,76,49]:=by rw[ByteArray.toList_eq];rfl
theorem EH(p:Option Addr)(N cap:Nat)(F:nI)(w:World)(hs:SlU w p N F)(hb:lS F N)(hc:N<=cap)(hm:cap<=maxLen):
  Calls zP 54 #[.slice p N cap] w fun e w'=>e=rJ (vI iJ (ZQ F N))/\w=w':=by
 have HDr:=zH (fun w=>xT 0 w zO);by_cases h0:N<20
 ·have e0:ZQ F N=2:=by unfold ZQ;rw[if_pos h0]
  rw[e0];have i0:(N:Int)<20:=zO;clear hs hb hc hm e0 h0;go_enter func54,ntmps54
  go_wp2_with fail
  refine(HDr.o _).mono ?_;rintro e w1 ⟨rfl,rfl⟩
  go_wp2_with fail
  go_ret;exact⟨rfl,rfl⟩
 obtain⟨g,o,rfl,hg,hcs⟩:=hs zO;have sub:∀a n,a+n<=N->SlU w (some ⟨g,o+a,none⟩) n (fun j=>F (a+j)):=fun a n ha _=>⟨g,o+a,rfl,hg,fun j hj=>by rw[Nat.add_assoc];exact hcs (a+j) zO⟩
 have HG5:=zH (kR (some ⟨g,o+11,none⟩) 5 (cap-11) (fun j=>F (11+j)) w zO (sub 11 5 zO) (fun j hj=>hb _ zO));have HG1:=zH (kR (some ⟨g,o+10,none⟩) 1 (cap-10) (fun j=>F (10+j)) w zO (sub 10 1 zO) (fun j hj=>hb _ zO));have HG2:=zH (kR (some ⟨g,o+8,none⟩) 2 (cap-8) (fun j=>F (8+j)) w zO (sub 8 2 zO) (fun j hj=>hb _ zO));have HG4:=zH (kR (some ⟨g,o+4,none⟩) 4 (cap-4) (fun j=>F (4+j)) w zO (sub 4 4 zO) (fun j hj=>hb _ zO));have hcv:=aGe (F:=F) (N:=4) (cap:=cap) (fun j hj=>hcs j zO) zO zO hm;have hsx:=ZK uR F 4 (fun j hj=>hb j zO);have hmk:strOfNums (gQ F 4)=uR↔wT F:=by
  rw[hsx];constructor
  ·rintro ⟨_,h⟩ j hj;rw[<-h j hj,KI j hj]
  ·intro h;exact⟨rfl,fun j hj=>by rw[h j hj,KI j hj]⟩
 have e5:hd5 F=aO (fun j=>F (11+j)) 5:=rfl;have e1:KM F=aO (fun j=>F (10+j)) 1:=rfl;have e2:PU F=aO (fun j=>F (8+j)) 2:=rfl;have e4:hd4 F=aO (fun j=>F (4+j)) 4:=rfl;rw[<-e5]at HG5;rw[<-e1]at HG1;rw[<-e2]at HG2;rw[<-e4]at HG4;have HE:Hid (ZQ F N=if ¬wT F\/hd5 F≠0 then 4 else if ¬(24<=KM F/\KM F<=96)\/64<PU F\/hd4 F≠N then 12 else 0):=zH (by unfold ZQ;rw[if_neg h0]);rw[HE.o];have HZ:=zH (fun w=>yF (KM F) w);have hh:=fun w'=>DO g o N cap 4 zO zO w';have hl5:=fun w'=>lD g o N cap 11 16 zO zO w';have hl1:=fun w'=>lD g o N cap 10 11 zO zO w';have hl2:=fun w'=>lD g o N cap 8 10 zO zO w';have hl4:=fun w'=>lD g o N cap 4 8 zO zO w';have i0:¬((N:Int)<20):=zO;have ic:(20:Int)<=cap:=zO;have iN:(20:Int)<=N:=zO;have d0:decide ((N:Int)<20)=false:=decide_eq_false i0;generalize hd5 F=x5 at *;generalize KM F=x1 at *;generalize PU F=x2 at *;generalize hd4 F=x4 at *;obtain⟨s,hss⟩:=zG (strOfNums (gQ F 4));rw[<-hss]at hcv hmk;clear e5 e1 e2 e4 sub hsx hb hcs hg hs hc hm h0 HE hss;by_cases hmp:wT F
 ·have hsc:=hmk.2 hmp;subst hsc;unfold uR at hcv;by_cases h5:x5=0
  ·subst h5;rw[if_neg (fun h=>h.elim (fun h=>h hmp) (fun h=>h rfl))];clear hmk;by_cases h1:24<=x1/\x1<=96
   ·rw[show decide (24<=x1/\x1<=96)=true from decide_eq_true h1]at HZ;by_cases h2:64<x2
    ·rw[if_pos (.inr (.inl h2))];have d2:decide (64<x2)=true:=decide_eq_true h2;clear hmp h1 h2;go_enter func54,ntmps54
     go_wp2_with fail
     refine(HDr.o _).mono ?_;rintro e w1 ⟨rfl,rfl⟩
     go_wp2_with fail
     refine HG5.o.mono ?_;rintro e w1 ⟨rfl,rfl⟩
     go_wp2_with fail
     refine HG1.o.mono ?_;rintro e w1 ⟨rfl,rfl⟩
     go_wp2_with fail
     refine(HZ.o _).mono ?_;rintro e w1 ⟨rfl,rfl⟩
     go_wp2_with fail
     refine HG2.o.mono ?_;rintro e w1 ⟨rfl,rfl⟩
     go_wp2_with fail
     go_ret;exact⟨rfl,rfl⟩
    ·have d2:decide (64<x2)=false:=decide_eq_false h2;by_cases h4:x4=N
     ·rw[if_neg (fun h=>h.elim (fun h=>h h1) (fun h=>h.elim h2 (fun h=>h h4)))];have d4:(x4 != (N:Int))=false:=by simp[h4]
      clear hmp h1 h2 h4;go_enter func54,ntmps54
      go_wp2_with fail
      refine(HDr.o _).mono ?_;rintro e w1 ⟨rfl,rfl⟩
      go_wp2_with fail
      refine HG5.o.mono ?_;rintro e w1 ⟨rfl,rfl⟩
      go_wp2_with fail
      refine HG1.o.mono ?_;rintro e w1 ⟨rfl,rfl⟩
      go_wp2_with fail
      refine(HZ.o _).mono ?_;rintro e w1 ⟨rfl,rfl⟩
      go_wp2_with fail
      refine HG2.o.mono ?_;rintro e w1 ⟨rfl,rfl⟩
      go_wp2_with fail
      refine HG4.o.mono ?_;rintro e w1 ⟨rfl,rfl⟩
      go_wp2_with fail
      go_ret;exact⟨rfl,rfl⟩
     ·rw[if_pos (.inr (.inr h4))];have d4:(x4 != (N:Int))=true:=by simpa using h4
      clear hmp h1 h2 h4;go_enter func54,ntmps54
      go_wp2_with fail
      refine(HDr.o _).mono ?_;rintro e w1 ⟨rfl,rfl⟩
      go_wp2_with fail
      refine HG5.o.mono ?_;rintro e w1 ⟨rfl,rfl⟩
      go_wp2_with fail
      refine HG1.o.mono ?_;rintro e w1 ⟨rfl,rfl⟩
      go_wp2_with fail
      refine(HZ.o _).mono ?_;rintro e w1 ⟨rfl,rfl⟩
      go_wp2_with fail
      refine HG2.o.mono ?_;rintro e w1 ⟨rfl,rfl⟩
      go_wp2_with fail
      refine HG4.o.mono ?_;rintro e w1 ⟨rfl,rfl⟩
      go_wp2_with fail
      go_ret;exact⟨rfl,rfl⟩
   ·rw[show decide (24<=x1/\x1<=96)=false from decide_eq_false h1]at HZ;rw[if_pos (.inl h1)];clear hmp h1;go_enter func54,ntmps54
    go_wp2_with fail
    refine(HDr.o _).mono ?_;rintro e w1 ⟨rfl,rfl⟩
    go_wp2_with fail
    refine HG5.o.mono ?_;rintro e w1 ⟨rfl,rfl⟩
    go_wp2_with fail
    refine HG1.o.mono ?_;rintro e w1 ⟨rfl,rfl⟩
    go_wp2_with fail
    refine(HZ.o _).mono ?_;rintro e w1 ⟨rfl,rfl⟩
    go_wp2_with fail
    go_ret;exact⟨rfl,rfl⟩
  ·rw[if_pos (.inr h5)];have d5:(x5 != 0)=true:=by simpa using h5
   clear hmk hmp h5;go_enter func54,ntmps54
   go_wp2_with fail
   refine(HDr.o _).mono ?_;rintro e w1 ⟨rfl,rfl⟩
   go_wp2_with fail
   refine HG5.o.mono ?_;rintro e w1 ⟨rfl,rfl⟩
   go_wp2_with fail
   go_ret;exact⟨rfl,rfl⟩
 ·rw[if_pos (.inl hmp)];have hne:s≠uR:=fun e=>hmp (hmk.1 e);have hq:=VS s uR hne;rw[YY]at hq;have hq2:¬s.toList = [67,65,76,49]:=by simpa using hq
  have hq3:s≠⟨#[67,65,76,49]⟩:=hne;have hq4:=VS s uR hne;unfold uR at hq4;clear hmk hmp hne;go_enter func54,ntmps54
  go_wp2_with fail
  refine(HDr.o _).mono ?_;rintro e w1 ⟨rfl,rfl⟩
  go_wp2_with fail
  go_ret;exact⟨rfl,rfl⟩
theorem aGP(w:World)(s:ByteArray)(n r c:Int)(lp:Bool)(a b x y x' y':Int):(binOp .neq 90 (.agg (Mt.mk s n r c lp a b x y).cells) (.agg (Mt.mk s n r c lp a b x' y').cells)).run zP w=.ok (.bool !(decide (x=x'/\y=y'))) w:=by
 unfold Mt.cells;rw[run_neq_struct,run_equalIn_agg w 9999 90 _ _ zK zK];have h1:=fun(w:World) (a b:Int)=>run_equalIn_int (P:=zP) w 9998 3 .i64 .i64 a b underlying3;have h2:=fun(w:World) (a b:Bool)=>run_equalIn_bool (P:=zP) w 9998 4 a b underlying4;have h3:=fun(w:World) (a b:ByteArray)=>run_equalIn_string (P:=zP) w 9998 9 a b underlying9;have hfs : (zP.fieldsOf 90).toList = [{ name := "Name", type := 9, offset := 0, embedded := false, tag := "", pkgPath := "", byteOffset := 0 }, { name := "Length", type := 3, offset := 1, embedded := false, tag := "", pkgPath := "", byteOffset := 16 }, { name := "Rate", type := 3, offset := 2, embedded := false, tag := "", pkgPath := "", byteOffset := 24 }, { name := "Channels", type := 3, offset := 3, embedded := false, tag := "", pkgPath := "", byteOffset := 32 }, { name := "Loop", type := 4, offset := 4, embedded := false, tag := "", pkgPath := "", byteOffset := 40 }, { name := "LoopStart", type := 3, offset := 5, embedded := false, tag := "", pkgPath := "", byteOffset := 48 }, { name := "LoopEnd", type := 3, offset := 6, embedded := false, tag := "", pkgPath := "", byteOffset := 56 }, { name := "Sums", type := 3, offset := 7, embedded := false, tag := "", pkgPath := "", byteOffset := 64 }, { name := "First", type := 3, offset := 8, embedded := false, tag := "", pkgPath := "", byteOffset := 72 }] := by kernel_rfl
 rw[hfs];by_cases hx:x=x' <;> by_cases hy:y=y' <;> simp[Op.eqFields,Go.part,isAgg,run_underlying underlying3,run_underlying underlying4,run_underlying underlying9,h1,h2,h3,sizeOf,hx,hy]
theorem RJ(p q:Option Addr)(n c c':Nat)(D E:Nat->Mt)(w:World)(hp:iB w p n D)(hq:iB w q n E)(hn:n<=1048576)(hDE:∀i,i<n->D i=(E i).at_ (D i).x (D i).y):
  Calls zP 59 #[.slice p n c,.slice q n c'] w fun e w'=>∃r,e=rJ (.bool r)/\(r=true↔∀i,i<n->D i=E i)/\Old w w':=by
 have HP:=zH hp;have HQ:=zH hq;have HDE:=zH hDE;have HO0:=zH (Old.refl w);have Hs9:Hid ((zP.info? 90).map (·.size)=some 9):=zH zK;have hnn:((n:Int) != n)=false:=zS;clear hp hq hDE;go_enter func59,ntmps59
 go_wp2_with fail
 go_loopw [13] (fun iv wr=>∃k:Nat,k<=n/\iv=vI iJ k/\Hid (Old w wr)/\Hid (∀i,i<k->D i=E i)) (fun i _=>n-(intOf i).toNat)
 case atStart=>exact⟨0,zO,by go_num,HO0,zH fun i hi=>zO⟩
 case round=>
  clear HO0;obtain⟨k,hk,rfl,HO,HJ⟩:=hrel;by_cases hkn:k<n
  ·obtain⟨g1,o1,rfl,hg1,hc1⟩:=(HP.o.old HO.o).cell zO;obtain⟨g2,o2,rfl,hg2,hc2⟩:=(HQ.o.old HO.o).cell zO;have hde:=HDE.o k hkn;obtain⟨X,hX⟩:=zG ((D k).cells);obtain⟨Y,hY⟩:=zG ((E k).cells);obtain⟨r,hr⟩:=zG (decide ((D k).x=(E k).x/\(D k).y=(E k).y));have hne:∀w',(binOp .neq 90 (.agg X) (.agg Y)).run zP w'=.ok (.bool !r) w':=fun w'=>by
    rw[hX,hY,hde,hr];exact aGP w' (E k).s (E k).n (E k).r (E k).c (E k).lp (E k).a (E k).b (D k).x (D k).y (E k).x (E k).y
   have hrk:r=true↔D k=E k:=by
    rw[hr,decide_eq_true_eq];constructor
    ·rintro ⟨e1,e2⟩;rw[hde,e1,e2];rfl
    ·intro e;rw[e];exact⟨rfl,rfl⟩
   have HRk:=zH hrk;have HX:Hid (∀V,Old wr V->(∀j v,X.toList[j]?=some v->V.cell? ⟨g1,o1+k*9+j,none⟩=some v)/\∀j v,Y.toList[j]?=some v->V.cell? ⟨g2,o2+k*9+j,none⟩=some v):=zH fun V hV=>by
    rw[hX,hY];exact⟨fun j v hv=>(hV.cell (a:=⟨g1,o1+k*9+j,none⟩) hg1).trans (hc1 k hkn j v (by simpa using hv)),fun j v hv=>(hV.cell (a:=⟨g2,o2+k*9+j,none⟩) hg2).trans (hc2 k hkn j v (by simpa using hv))⟩
   have HLx:Hid ((zP.info? 90).map (·.size)=some X.toList.length):=zH (by rw[hX];exact Hs9.o);have HLy:Hid ((zP.info? 90).map (·.size)=some Y.toList.length):=zH (by rw[hY];exact Hs9.o);have i0:(0:Int)<=k:=zO;have i1:(k:Int)<n:=zO;clear hX hY hr hrk hde hc1 hc2 hg1 hg2 hnn
   go_wp2_with fail
   refine wp_region_held_drew (S:=(fun V=>(∀j v,X.toList[j]?=some v->V.cell? ⟨g1,o1+k*9+j,none⟩=some v)/\∀j v,Y.toList[j]?=some v->V.cell? ⟨g2,o2+k*9+j,none⟩=some v)) zK ?_ (fun hHeld=>?_)
   ·(try dsimp only);exact HX.o _ (Old.drew (Old.refl wr))
   refine (uU 0) ((uU 1) ((uU 2) ?_));refine (uT 3 (v:=.agg X) rfl (yieldsIf_load_mid zK 90 (.tmp 18) rfl g1 (o1+k*9) rfl X.toList _ (fun _ h j v hv=>h.1 j v hv) underlying90 rfl HLx.o)) ?_;refine (uU 4) ((uU 5) ((uU 6) ?_));refine (uT 7 (v:=.agg Y) rfl (yieldsIf_load_mid zK 90 (.tmp 22) rfl g2 (o2+k*9) rfl Y.toList _ (fun _ h j v hv=>h.2 j v hv) underlying90 rfl HLy.o)) ?_;refine (uU 8) ?_;refine wpAnyH_done zK ?_ _;clear hne;have HO2:=zH (HO.o.trans (Old.drew (Old.refl wr)));cases r
   ·go_wp2_with fail
    go_ret;refine⟨false,rfl,⟨fun h=>(by cases h),fun h=>?_⟩,HO2.o⟩;have:=HRk.o.2 (h k hkn);cases this
   ·have HJ2:=zH (show ∀i,i<k+1->D i=E i from fun i hi=>by
     by_cases e:i=k
     ·rw[e];exact HRk.o.1 rfl
     ·exact HJ.o i zO)
    clear HX HJ HO
    go_wp2_with fail
    go_roundw
    case rel=>exact⟨k+1,zO,by go_num,HO2,HJ2⟩
    case measure=>exact zM
  ·obtain rfl:k=n:=zO;clear hnn
   go_wp2_with fail
   go_ret;exact⟨true,rfl,⟨fun _=>HJ.o,fun _=>rfl⟩,HO.o⟩
end Go.Proofs.YticpdokbiblpoaaGreatDoor
