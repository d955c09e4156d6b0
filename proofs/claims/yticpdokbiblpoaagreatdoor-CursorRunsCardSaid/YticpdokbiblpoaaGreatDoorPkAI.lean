/- Texts joined: FrameA, SameL, RightL, SpecL, VeilA, VeilB, VeilD, FrBitsL, EncL, FrBytesL, FrsL, WithinL, TonesL, TonesM, FrReadA. -/
import Derived.Deep.RegionHeld
import Derived.Test.YticpdokbiblpoaaGreatDoorPkAC
import Derived.Test.YticpdokbiblpoaaGreatDoorPkAD
import Derived.Test.YticpdokbiblpoaaGreatDoorPkAG
import Derived.Test.YticpdokbiblpoaaGreatDoorPkAH
import Derived.Test.YticpdokbiblpoaaGreatDoorTk
set_option linter.unusedVariables false
set_option linter.unusedSimpArgs false
set_option maxHeartbeats 4000000
namespace Go.Proofs.YticpdokbiblpoaaGreatDoor
open Go.Proofs.Tryz
open Go.Proofs.Tryz renaming prog → zP
open Go.Value renaming int → vI
open Go.IntKind renaming i64 → iJ
open Go.Ending renaming returned → rJ
set_option maxRecDepth 100000
open Go.RowKit Go.ChangeShapes Go.WideShapes
def aR(F:nI)(s:Value):Nat->Value:=fun k=>if k=4 then s else vI iJ (F k)
theorem aFw(F:nI)(s s':Value):nR (aR F s) 4 s'=aR F s':=by
 funext k;unfold nR aR;split <;> rfl
theorem aFc(F:nI)(s:Value)(j:Nat)(hj:j≠4)(v:Int):nR (aR F s) j (vI iJ v)=aR (fun k=>if k=j then v else F k) s:=by
 funext k;unfold nR aR;by_cases h:k=j
 ·subst h;simp[hj]
 ·simp[h]
theorem cN(F:nI)(s:Value)(h:s.oneCell'=true):(aA 29 (aR F s)).all (·.oneCell')=true:=nA _ _ fun k _=>by
 unfold aR;split
 ·exact h
 ·rfl
theorem aFb{F G:nI}(s:Value)(h:∀k,k<29->k≠4->F k=G k):aA 29 (aR F s)=aA 29 (aR G s):=kA _ _ _ fun k hk=>by
 unfold aR;split
 ·rfl
 ·next h4=>rw[h k hk h4]
theorem eZ:aA 29 (aR (fun _=>0) (.slice none 0 0))=#[vI iJ 0,vI iJ 0,vI iJ 0,vI iJ 0,.slice none 0 0,vI iJ 0,vI iJ 0,vI iJ 0,vI iJ 0,vI iJ 0,vI iJ 0,vI iJ 0,vI iJ 0,vI iJ 0,vI iJ 0,vI iJ 0,vI iJ 0,vI iJ 0,vI iJ 0,vI iJ 0,vI iJ 0,vI iJ 0,vI iJ 0,vI iJ 0,vI iJ 0,vI iJ 0,vI iJ 0,vI iJ 0,vI iJ 0]:=rfl
def FrB(t:TypeId)(w:World)(b:Nat)(F:nI)(s:Value):Prop:=w.heap[b]?=some (.cells (aA 29 (aR F s)) t (0,0))
namespace FrB
variable {t:TypeId} {w w':World} {b:Nat} {F:nI} {s:Value} {X:Nat->Prop}
theorem new(w:World)(F:nI)(s:Value):FrB t (w.alloc (.cells (aA 29 (aR F s)) t)) w.heap.size F s:=heap_alloc_new _ _
theorem old(h:FrB t w b F s)(k:Old w w'):FrB t w' b F s:=(k.block b (lt_of_block h)).trans h
theorem kept(h:FrB t w b F s)(k:Kept X w w')(hX:X b):FrB t w' b F s:=(k.block b hX).trans h
theorem cell4(h:FrB t w b F s):w.cell? ⟨b,4,none⟩=some s/\w.frozen? ⟨b,4,none⟩=false:=
 ⟨(cell_of_row _ _ _ _ _ _ h).trans (bI 29 (aR F s) 4 zO),frozen_of_row _ _ _ _ _ h⟩
theorem cell(h:FrB t w b F s)(j:Nat)(hj:j<29)(h4:j≠4):w.cell? ⟨b,j,none⟩=some (vI iJ (F j))/\w.frozen? ⟨b,j,none⟩=false:=
 ⟨by rw[(cell_of_row _ _ _ _ _ _ h).trans (bI 29 (aR F s) j hj)];unfold aR;rw[if_neg h4],frozen_of_row _ _ _ _ _ h⟩
theorem part(h:FrB t w b F s)(o n:Nat)(ho:o+n<=4\/(4<o/\o+n<=29)):∀j,j<n->w.cell? ⟨b,o+j,none⟩=some (vI iJ (F (o+j))):=fun j hj=>(h.cell (o+j) zO zO).1
theorem set4(h:FrB t w b F s)(s':Value):FrB t (w.setCell ⟨b,4,none⟩ s') b F s':=by
 unfold FrB;rw[<-aFw F s s',<-dS 29 _ 4 _ zO];exact heap_setCell_same _ _ _ _ _ _ h
theorem set(h:FrB t w b F s)(j:Nat)(hj:j<29)(h4:j≠4)(v:Int):FrB t (w.setCell ⟨b,j,none⟩ (vI iJ v)) b (fun k=>if k=j then v else F k) s:=by
 unfold FrB;rw[<-aFc F s j h4 v,<-dS 29 _ j _ hj];exact heap_setCell_same _ _ _ _ _ _ h
end FrB
structure mC(F:nI)(n:Nat)(T:nI):Prop where
 hg:∀k,k<4->0<=F k/\F k<=3
 hs:∀k,k<4->0<=F (5+k)/\F (5+k)<=23
 hw:∀k,k<4->0<=F (9+k)/\F (9+k)<=24
 hq:∀k,k<16->eK (F (13+k)) (F (9+k/4))=true
 hn:n<=2
 ht:∀k,k<n->0<=T (2*k)/\T (2*k)<=15/\eK (T (2*k+1)) 24=true/\(0<k->T (2*(k-1))<T (2*k))
theorem aFn(F:nI)(n:Nat)(T:nI):mC F n T↔((∀k,k<4->0<=F k/\F k<=3)/\(∀k,k<4->0<=F (5+k)/\F (5+k)<=23)/\(∀k,k<4->0<=F (9+k)/\F (9+k)<=24)/\(∀k,k<16->eK (F (13+k)) (F (9+k/4))=true)/\n<=2 /\
  (∀k,k<n->0<=T (2*k)/\T (2*k)<=15/\eK (T (2*k+1)) 24=true/\(0<k->T (2*(k-1))<T (2*k)))):=
 ⟨fun h=>⟨h.hg,h.hs,h.hw,h.hq,h.hn,h.ht⟩,fun⟨a,b,c,d,e,f⟩=>⟨a,b,c,d,e,f⟩⟩
instance (F:nI) (n:Nat) (T:nI):Decidable (mC F n T):=decidable_of_iff' _ (aFn F n T)
def mO(F:nI)(n:Nat)(T:nI)(G:nI)(m:Nat)(U:nI):Prop:=n=m/\(∀j,j<2*n->T j=U j)/\∀k,k<29->k≠4->F k=G k
instance (F:nI) (n:Nat) (T:nI) (G:nI) (m:Nat) (U:nI):Decidable (mO F n T G m U):=by unfold mO;infer_instance
theorem iX{P:Program}{ops:Array Oper}{rest:List Oper}{o:Oper}{a:Act}{w:World}{Q:Exit->Act->World->Prop}(hw:Region.wanted o (yielded ops a.tmps)=true)(n:Nat)(f:nI)(ty:TypeId)(x:Operand)(ho:o.op=.load ty x)
  (b i:Nat) (hx:a.eval x=.pointer (some ⟨b,i,none⟩)) (d:TypeDesc) (hc:∀j,j<n->w.cell? ⟨b,i+j,none⟩=some (vI iJ (f j)))
  (hu:P.underlying ty=some d) (hd:d.isRow=true) (hi:(P.info? ty).map (·.size)=some n) (h:wpList P ops Q rest (a.put o.dst (.agg (aA n (blk f)))) w):wpList P ops Q (o :: rest) a w:=
 wpList_step fun K hK=>by
  rw[if_pos hw];exact jZ n f ty x ho b i hx d hc hu hd hi (hK _ _ h)
def fW(n:Nat)(T:nI):Int:=if n=0 then 0 else T (2*(n-1))+1
theorem rZ(p:Option Addr)(n cap:Nat)(T:nI)(w:World)(hT:SlF 2 w p n T)(hb:0<n->-9223372036854775808<=T (2*(n-1))/\T (2*(n-1))<=15)(hn:n<=maxLen):
  Calls zP 202 #[.slice p n cap] w fun e w'=>e=rJ (vI iJ (fW n T))/\w=w':=by
 unfold maxLen at hn;cases n with
 | zero=>
  have HN:Hid (fW 0 T=0):=zH rfl;rw[HN.o];clear hT hb HN;go_enter func202,ntmps202
  go_wp2_with fail
  go_ret;exact⟨rfl,rfl⟩
 | succ m=>
  obtain⟨g,o,rfl,hg,hc⟩:=mV hT zO;obtain⟨c0,_⟩:=hc m zO;have hN:fW (m+1) T=T (2*m)+1:=by unfold fW;rw[if_neg zO];rfl
  have hbd:=hb zO;rw[show m+1-1=m by omega]at hbd;rw[hN];clear hT hb hc hN;generalize T (2*m)=x at *;have hm:((m+1:Nat):Int)-1=m:=zO;obtain⟨b0,b1⟩:=hbd;go_enter func202,ntmps202
  go_wp2_with fail
  go_ret;exact⟨rfl,rfl⟩
def jP(n:Nat)(T:nI):Prop:=n<=2/\∀k,k<n->0<=T (2*k)/\T (2*k)<=15/\eK (T (2*k+1)) 24=true/\(0<k->T (2*(k-1))<T (2*k))
instance (n:Nat) (T:nI):Decidable (jP n T):=by unfold jP;infer_instance
theorem BL(p:Option Addr)(n cap:Nat)(T:nI)(w:World)(hT:SlF 2 w p n T)(hf:aD T)(hn:n<=cap)(hc:cap<=maxLen):
  Calls zP 228 #[.slice p n cap] w fun e w'=>e=rJ (.bool (decide (jP n T)))/\Old w w':=by
 unfold maxLen at hc;by_cases h2:2<n
 ·have hf:decide (jP n T)=false:=by rw[decide_eq_false_iff_not];intro h;have:=h.1;omega
  rw[hf];clear hT hf;go_enter func228,ntmps228
  go_wp2_with fail
  go_ret;exact⟨rfl,Old.refl _⟩
 ·have h2':n<=2:=zO;have HT:=zH hT;have HF:=zH hf;clear hT hf h2;go_enter func228,ntmps228
  go_wp2_with fail
  go_loopw [10] (fun i wr=>∃k:Nat,k<=n/\i=vI iJ k/\Hid ((∀j,j<k->0<=T (2*j)/\T (2*j)<=15/\eK (T (2*j+1)) 24=true/\(0<j->T (2*(j-1))<T (2*j)))/\Old w wr)) (fun i _=>n-(intOf i).toNat)
  case atStart=>exact⟨0,zO,rfl,zH ⟨fun j hj=>zO,Old.refl _⟩⟩
  case round=>
   obtain⟨k,hk,rfl,hs⟩:=hrel;obtain⟨hJ,hO⟩:=hs.o;have HJ:=zH hJ;have HO:=zH hO;clear hJ hO hs;by_cases hlt:k<n
   ·have hTr:=HT.o.old HO.o;have hN:∀W,Old wr W->Calls zP 202 #[.slice p k cap] W fun e w'=>e=rJ (vI iJ (fW k T))/\W=w':=fun W hW=>by
     refine rZ p k cap T W ?_ (fun h0=>?_) (by unfold maxLen;omega)
     ·intro h0;obtain⟨g,o,h1,h2,h3⟩:=(hTr.old hW) zO;exact⟨g,o,h1,h2,fun j hj=>h3 j zO⟩
     ·have:=HJ.o (k-1) zO;omega
    have HN:=zH (fun(o:Obj) n=>hN ((wr.alloc o).drewN n) ((Old.alloc _ _).drewN _));have hnx:0<=fW k T/\fW k T<=16:=by
     unfold fW;split
     ·omega
     ·have:=HJ.o (k-1) zO;omega
    have HE:Hid (jP n T->fW k T<=T (2*k)/\T (2*k)<16/\eK (T (2*k+1)) 24=true):=zH fun h=>by
     have:=h.2 k hlt;refine⟨?_,zO,this.2.2.1⟩;unfold fW;split
     ·omega
     ·have:=this.2.2.2 zO;omega
    have HS:Hid (fW k T<=T (2*k)->T (2*k)<16->eK (T (2*k+1)) 24=true->∀j,j<k+1->0<=T (2*j)/\T (2*j)<=15/\eK (T (2*j+1)) 24=true/\(0<j->T (2*(j-1))<T (2*j))):=zH fun e1 e2 e3 j hj=>by
     rcases Nat.lt_succ_iff_lt_or_eq.1 hj with h | rfl
     ·exact HJ.o j h
     ·refine⟨zO,zO,e3,fun h0=>?_⟩;unfold fW at e1;rw[if_neg zO]at e1;omega
    have hx:=HF.o (2*k);have hy:=HF.o (2*k+1);obtain⟨g,o,rfl,hg,hcc⟩:=mV hTr zO;obtain⟨a0,a1⟩:=hcc k hlt;clear hTr hN hcc HT HF HJ;generalize hq:T (2*k)=x at *;generalize hr:T (2*k+1)=y at *;generalize fW k T=nx at *;clear hq hr;obtain⟨n0,n1⟩:=hnx;have HFit:=zH (fun w=>BA y 24 w);have hkc:k<=cap:=zO;by_cases e1:x<nx
    ·have HD:Hid (decide (jP n T)=false):=zH (by rw[decide_eq_false_iff_not];intro h;have:=HE.o h;omega);clear HE HS
     go_wp2_with fail
     go_quiet ((first | (go_at_call 202;exact Calls.quiet_of_same ((HN.o _ _).mono fun _ _ hh=>⟨hh.1,hh.2.symm⟩)) | (go_at_call 232;exact Calls.quiet_of_same ((HFit.o _).mono fun _ _ hh=>⟨hh.1,hh.2.symm⟩))))
     go_wp2_with fail
     go_ret;exact⟨by rw[HD.o];rfl,(HO.o.alloc' _).drewN _⟩
    ·have e1':nx<=x:=zO;clear e1;by_cases e2:16<=x
     ·have HD:Hid (decide (jP n T)=false):=zH (by rw[decide_eq_false_iff_not];intro h;have:=HE.o h;omega);clear HE HS
      go_wp2_with fail
      go_quiet ((first | (go_at_call 202;exact Calls.quiet_of_same ((HN.o _ _).mono fun _ _ hh=>⟨hh.1,hh.2.symm⟩)) | (go_at_call 232;exact Calls.quiet_of_same ((HFit.o _).mono fun _ _ hh=>⟨hh.1,hh.2.symm⟩))))
      go_wp2_with fail
      go_ret;exact⟨by rw[HD.o];rfl,(HO.o.alloc' _).drewN _⟩
     ·have e2':x<16:=zO;clear e2;cases e3:eK y 24
      case false=>
       rw[e3]at HFit;have HD:Hid (decide (jP n T)=false):=zH (by rw[decide_eq_false_iff_not];intro h;have:=HE.o h;rw[this.2.2]at e3;cases e3);clear HE HS e3
       go_wp2_with fail
       go_quiet ((first | (go_at_call 202;exact Calls.quiet_of_same ((HN.o _ _).mono fun _ _ hh=>⟨hh.1,hh.2.symm⟩)) | (go_at_call 232;exact Calls.quiet_of_same ((HFit.o _).mono fun _ _ hh=>⟨hh.1,hh.2.symm⟩))))
       go_wp2_with fail
       go_ret;exact⟨by rw[HD.o];rfl,(HO.o.alloc' _).drewN _⟩
      case true=>
       rw[e3]at HFit;have HS2:=zH (HS.o e1' e2' e3);clear HS HE e3
       go_wp2_with fail
       go_quiet ((first | (go_at_call 202;exact Calls.quiet_of_same ((HN.o _ _).mono fun _ _ hh=>⟨hh.1,hh.2.symm⟩)) | (go_at_call 232;exact Calls.quiet_of_same ((HFit.o _).mono fun _ _ hh=>⟨hh.1,hh.2.symm⟩))))
       go_wp2_with fail
       go_roundw
       case rel=>exact⟨k+1,zO,by go_num,zH ⟨HS2.o,(HO.o.alloc' _).drewN _⟩⟩
       case measure=>exact zM
   ·obtain rfl:k=n:=zO;have HD:Hid (decide (jP k T)=true):=zH (decide_eq_true ⟨h2',HJ.o⟩);clear HJ HT HF
    go_wp2_with fail
    go_ret;exact⟨by rw[HD.o];rfl,HO.o⟩
def qA(W Q:nI):Prop:=(∀k,k<4->0<=W k/\W k<=24)/\∀k,k<16->eK (Q k) (W (k/4))=true
instance (W Q:nI):Decidable (qA W Q):=by unfold qA;infer_instance
theorem DP(W Q:nI)(w:World):
  Calls zP 229 #[.agg (aA 4 (blk W)),.agg (aA 16 (blk Q))] w fun e w'=>e=rJ (.bool (decide (qA W Q)))/\Old w w':=by
 have Hs4:Hid ((zP.info? 44).map (·.size)=some 4):=zH zK;have Hs16:Hid ((zP.info? 43).map (·.size)=some 16):=zH zK;obtain⟨W0,hW0⟩:=zG (((w.alloc (.cells (aA 4 (blk W)) 44)).alloc (.cells (aA 16 (blk Q)) 43)));have HA:Hid (((w.alloc (.cells (aA 4 (blk W)) 44)).alloc (.cells (aA 16 (blk Q)) 43)).heap[w.heap.size]?=some (.cells (aA 4 (blk W)) 44 (0,0))):=zH (heap_alloc2_old w _ _);have HB:Hid (W0.heap[w.heap.size+1]?=some (.cells (aA 16 (blk Q)) 43 (0,0))):=zH (by rw[hW0];exact heap_alloc2_new w _ _);have HA0:Hid (W0.heap[w.heap.size]?=some (.cells (aA 4 (blk W)) 44 (0,0))):=zH (by rw[hW0];exact heap_alloc2_old w _ _);have HC:Hid (∀k,k<4->W0.cell? ⟨w.heap.size,k,none⟩=some (vI iJ (W k))):=zH fun k hk=>(cell_of_row _ _ _ _ _ _ HA0.o).trans (dR 4 W k hk);have HO:Hid (Old w W0):=zH (by rw[hW0];exact(Old.alloc w _).alloc' _);have HW:=zH hW0;clear hW0;go_enter func229,ntmps229
 go_wp2_with (with_reducible refine wpList_load_row rfl 44 _ rfl w.heap.size rfl 44 (aA 4 (blk W)) (0,0) _ HA.o underlying44 rfl (by rw[aB];exact Hs4.o) ?_)
 rw[<-HW.o];clear HA HW
 go_loop [10] (fun i=>∃k:Nat,k<=4/\i=vI iJ k/\Hid (∀j,j<k->0<=W j/\W j<=24)) (fun i=>4-(intOf i).toNat)
 case atStart=>exact⟨0,zO,rfl,zH fun j hj=>zO⟩
 case round=>
  obtain⟨k,hk,rfl,hj⟩:=hrel;by_cases hlt:k<4
  ·have i1:(0:Int)<=k:=zO;have i2:(k:Int)<4:=zO;have hat:∀w:World,(Instr.index 44 (.agg (aA 4 (blk W))) (vI iJ k)).run zP w=.ok (vI iJ (W k)) w:=fun w=>aZ underlying44 underlying3 (fun _=>zK) W k hlt w;have HN:Hid (0<=W k->W k<=24->∀j,j<k+1->0<=W j/\W j<=24):=zH fun e1 e2 j hj'=>by
    rcases Nat.lt_succ_iff_lt_or_eq.1 hj' with h | rfl
    ·exact hj.o j h
    ·exact⟨e1,e2⟩
   have HF:Hid (¬(0<=W k/\W k<=24)->decide (qA W Q)=false):=zH fun h=>by
    rw[decide_eq_false_iff_not];exact fun h2=>h (h2.1 k hlt)
   clear hj HC HA0 HB;generalize W k=x at *;by_cases h1:x<0
   ·have HD:=zH (HF.o zO);clear HF HN
    go_wp2_with fail
    go_ret;exact⟨by rw[HD.o];rfl,HO.o⟩
   ·have h1':0<=x:=zO;clear h1;by_cases h2:24<x
    ·have HD:=zH (HF.o zO);clear HF HN
     go_wp2_with fail
     go_ret;exact⟨by rw[HD.o];rfl,HO.o⟩
    ·have HD:=zH (HN.o h1' zO);clear HF HN
     go_wp2_with fail
     go_round
     case rel=>exact⟨k+1,zO,by go_num,HD⟩
     case measure=>exact zM
  ·obtain rfl:k=4:=zO;have HG:=hj;clear hj hlt hk
   go_wp2_with (with_reducible refine wpList_load_row rfl 43 _ rfl (w.heap.size+1) rfl 43 (aA 16 (blk Q)) (0,0) _ HB.o underlying43 rfl (by rw[aB];exact Hs16.o) ?_)
   go_loop [21] (fun i=>∃k:Nat,k<=16/\i=vI iJ k/\Hid (∀j,j<k->eK (Q j) (W (j/4))=true)) (fun i=>16-(intOf i).toNat)
   case atStart=>exact⟨0,zO,rfl,zH fun j hj=>zO⟩
   case round=>
    obtain⟨k,hk,rfl,hj⟩:=hrel;by_cases hlt:k<16
    ·have i1:(0:Int)<=k:=zO;have i2:(k:Int)<16:=zO;have hat:∀w:World,(Instr.index 43 (.agg (aA 16 (blk Q))) (vI iJ k)).run zP w=.ok (vI iJ (Q k)) w:=fun w=>aZ underlying43 underlying2 (fun _=>zK) Q k hlt w;obtain⟨m,hm⟩:=zF (k/4);have HBd:=zH (fun w=>kZ k m w hlt hm);have m0:(0:Int)<=m:=zO;have m1:(m:Int)<4:=zO;have hc:=HC.o m zO;have hFt:=fun w=>BA (Q k) (W m) w;have HN:Hid (eK (Q k) (W m)=true->∀j,j<k+1->eK (Q j) (W (j/4))=true):=zH fun e1 j hj'=>by
      rcases Nat.lt_succ_iff_lt_or_eq.1 hj' with h | rfl
      ·exact hj.o j h
      ·rw[hm];exact e1
     have HF:Hid (eK (Q k) (W m)=false->decide (qA W Q)=false):=zH fun h=>by
      rw[decide_eq_false_iff_not];intro h2;have:=h2.2 k hlt;rw[hm,h]at this;cases this
     clear hj HC HA0 HB HG hm;generalize Q k=x at *;generalize W m=y at *;have HFt:=zH hFt;clear hFt;cases e3:eK x y
     case false=>
      rw[e3]at HFt;have HD:=zH (HF.o e3);clear HF HN e3
      go_wp2_with fail
      refine(HBd.o _).mono ?_;rintro e w1 ⟨rfl,rfl⟩
      go_wp2_with fail
      refine(HFt.o _).mono ?_;rintro e w1 ⟨rfl,rfl⟩
      go_wp2_with fail
      go_ret;exact⟨by rw[HD.o];rfl,HO.o⟩
     case true=>
      rw[e3]at HFt;have HD:=zH (HN.o e3);clear HF HN e3
      go_wp2_with fail
      refine(HBd.o _).mono ?_;rintro e w1 ⟨rfl,rfl⟩
      go_wp2_with fail
      refine(HFt.o _).mono ?_;rintro e w1 ⟨rfl,rfl⟩
      go_wp2_with fail
      go_round
      case rel=>exact⟨k+1,zO,by go_num,HD⟩
      case measure=>exact zM
    ·obtain rfl:k=16:=zO;have HD:Hid (decide (qA W Q)=true):=zH (decide_eq_true ⟨HG.o,hj.o⟩);clear HG hj HC HA0 HB
     go_wp2_with fail
     go_ret;exact⟨by rw[HD.o];rfl,HO.o⟩
theorem LQ(F:nI)(n:Nat)(T:nI):decide (mC F n T)=(decide (bX F) && (decide (jP n T) && (decide (dW fun k=>F (5+k)) && decide (qA (fun k=>F (9+k)) (fun k=>F (13+k)))))):=by
 rw[Bool.eq_iff_iff];simp only[Bool.and_eq_true,decide_eq_true_iff];exact⟨fun h=>⟨h.hg,⟨h.hn,h.ht⟩,h.hs,h.hw,h.hq⟩,fun⟨h1,h2,h3,h4⟩=>⟨h1,h3,h4.1,h4.2,h2.1,h2.2⟩⟩
theorem CN(F:nI)(p:Option Addr)(n cap:Nat)(T:nI)(w:World)(hT:SlF 2 w p n T)(hf:aD T)(hn:n<=cap)(hc:cap<=maxLen):
  Calls zP 190 #[.agg (aA 29 (aR F (.slice p n cap)))] w fun e w'=>e=rJ (.bool (decide (mC F n T)))/\Old w w':=by
 rw[LQ];have Hs4:Hid ((zP.info? 44).map (·.size)=some 4):=zH zK;have Hs16:Hid ((zP.info? 43).map (·.size)=some 16):=zH zK;have HB:Hid (FrB 98 (w.alloc (.cells (aA 29 (aR F (.slice p n cap))) 98)) w.heap.size F (.slice p n cap)):=zH (FrB.new w F _);have HO:Hid (Old w (w.alloc (.cells (aA 29 (aR F (.slice p n cap))) 98))):=zH (Old.alloc _ _);have H1:=zH (fun w=>FU F w);have H2:=zH (fun(W:World) (h:Old w W)=>BL p n cap T W (hT.old h) hf hn hc);have H3:=zH (fun w=>sD (fun k=>F (5+k)) w);have H4:=zH (fun w=>DP (fun k=>F (9+k)) (fun k=>F (13+k)) w);clear hT hf;generalize decide (bX F)=x1 at *;generalize decide (jP n T)=x2 at *;generalize decide (dW fun k=>F (5+k))=x3 at *;generalize decide (qA (fun k=>F (9+k)) (fun k=>F (13+k)))=x4 at *;go_enter func190,ntmps190
 go_wp2_with (with_reducible refine bC rfl 4 F 44 _ rfl w.heap.size 0 rfl _ (fun j hj=>by have:=HB.o.part 0 4 zO j hj;rwa [Nat.zero_add]at this |-) underlying44 rfl Hs4.o ?_)
 refine(H1.o _).mono ?_;rintro e w1 ⟨rfl,ho1⟩;have hb1:=HB.o.old ho1;have ho1:=HO.o.trans ho1;have c4:=hb1.cell4.1;have HB1:=zH hb1;have HO1:=zH ho1;clear hb1 ho1 HB HO H1;cases x1
 case false=>
  go_wp2_with fail
  go_ret;exact⟨rfl,HO1.o⟩
 case true=>
  go_wp2_with fail
  refine(H2.o _ HO1.o).mono ?_;rintro e w2 ⟨rfl,ho2⟩;have HB2:=zH (HB1.o.old ho2);have HO2:=zH (HO1.o.trans ho2);clear ho2 HB1 HO1 H2 c4;cases x2
  case false=>
   go_wp2_with fail
   go_ret;exact⟨rfl,HO2.o⟩
  case true=>
   go_wp2_with (with_reducible refine iX zK 4 (fun j=>F (5+j)) 44 _ rfl w.heap.size 5 rfl _ (HB2.o.part 5 4 zO) underlying44 rfl Hs4.o ?_)
   refine(H3.o _).mono ?_;rintro e w3 ⟨rfl,ho3⟩;have HB3:=zH (HB2.o.old ho3);have HO3:=zH (HO2.o.trans ho3);clear ho3 HB2 HO2 H3;cases x3
   case false=>
    go_wp2_with fail
    go_ret;exact⟨rfl,HO3.o⟩
   case true=>
    go_wp2_with (first | (with_reducible refine iX zK 4 (fun j=>F (9+j)) 44 _ rfl w.heap.size 9 rfl _ (HB3.o.part 9 4 zO) underlying44 rfl Hs4.o ?_) | (with_reducible refine iX zK 16 (fun j=>F (13+j)) 43 _ rfl w.heap.size 13 rfl _ (HB3.o.part 13 16 zO) underlying43 rfl Hs16.o ?_))
    refine(H4.o _).mono ?_;rintro e w4 ⟨rfl,ho4⟩;have HO4:=zH (HO3.o.trans ho4);clear ho4
    go_wp2_with fail
    go_ret;exact⟨rfl,HO4.o⟩
def XH(F:nI):nI:=fun k=>if k<16 then F (13+k) else 0
theorem aFg(F:nI):aA 16 (blk fun j=>F (13+j))=aA 16 (blk (XH F)):=kA _ _ _ fun k hk=>by unfold blk XH;rw[if_pos hk]
def PS(F:nI):nI:=fun k=>F (5+k)
def dZ(V:nI)(T:nI):Nat->Nat->Int
 | 0=>V
 | j+1=>fun k=>if (k:Int)=T (2*j) then dZ V T j k+T (2*j+1) else dZ V T j k
def eW(V:nI)(n:Nat):nI:=fun k=>if k<n then jD (V k) (-2147483648) 2147483648 else V k
def fH(F:nI):nI:=bE jO (XH F) (PS F)
def dX(F:nI)(n:Nat)(T:nI):nI:=eW (dZ (fH F) T n) 16
theorem KL(V:nI)(n:Nat):(fun k=>if k=n then jD (V n) (-2147483648) 2147483648 else eW V n k)=eW V (n+1):=by
 funext k;unfold eW;by_cases h:k=n
 ·subst h;rw[if_pos rfl,if_pos (Nat.lt_succ_self _)]
 ·rw[if_neg h];by_cases h2:k<n
  ·rw[if_pos h2,if_pos zO]
  ·rw[if_neg h2,if_neg zO]
theorem aCf{v k:Int}(h:eK v k=true)(h0:0<=k)(h1:k<=24):-8388608<=v/\v<=8388607:=by
 by_cases hz:k<=0
 ·rw[lI v k hz,beq_iff_eq]at h;omega
 ·rw[fD v k zO zO,decide_eq_true_eq]at h;have:=lY (k-1).toNat 23 zO;rw[show pw 23=8388608 from rfl]at this;omega
theorem aCc{F:nI}{n:Nat}{T:nI}(h:mC F n T)(k:Nat):-8388608<=XH F k/\XH F k<=8388607:=by
 unfold XH;split
 ·next hk=>exact aCf (h.hq k hk) (h.hw _ zO).1 (h.hw _ zO).2
 ·omega
theorem aDE{F:nI}{n:Nat}{T:nI}(h:mC F n T):aD (XH F):=fun k=>by have:=aCc h k;omega
theorem aBY{F:nI}{n:Nat}{T:nI}(h:mC F n T)(k:Nat)(hk:k<16):-70368744177664<=fH F k/\fH F k<=70368744177664:=by
 have hs:dW (PS F):=fun k hk=>h.hs k hk;unfold fH bE;rw[if_pos hs];unfold gH jO;have hq:=aCc h k;have h1:=fI (PS F (k/4)).toNat
 have h2:=lY (PS F (k/4)).toNat 23 (by have:=hs (k/4) zO;omega);rw[show pw 23=8388608 from rfl]at h2;generalize pw (PS F (k/4)).toNat=p at *;generalize XH F k=x at *;have a1:x*p<=8388608*8388608:=by
  rcases Int.le_total 0 x with h0 | h0
  ·exact Int.mul_le_mul zO h2 zO zO
  ·have:=Int.mul_nonpos_of_nonpos_of_nonneg h0 (by omega:0<=p);omega
 have a2:-(8388608*8388608)<=x*p:=by
  rcases Int.le_total 0 x with h0 | h0
  ·have:=Int.mul_nonneg h0 (by omega:0<=p);omega
  ·have:(-x)*p<=8388608*8388608:=Int.mul_le_mul zO h2 zO zO;rw[Int.neg_mul]at this;omega
 rw[IntWalk.wrap64_in _ zO];omega
theorem ZH{F:nI}{n:Nat}{T:nI}(h:mC F n T)(j:Nat)(hj:j<=n)(k:Nat)(hk:k<16):-(70368744177664+8388608*(j:Int))<=dZ (fH F) T j k/\dZ (fH F) T j k<=70368744177664+8388608*(j:Int):=by
 induction j with
 | zero=>have:=aBY h k hk;unfold dZ;omega
 | succ j ih=>
  have h1:=ih zO;have h2:=aCf (h.ht j zO).2.2.1 zO zO;unfold dZ;split <;> omega
theorem aDI(a b:Int)(ha:jF a)(hb:jF (a+b)):AM [a,b]=a+b:=by
 unfold jF at ha hb;unfold AM;simp only[List.foldl_cons,List.foldl_nil];have e:EE 0 a=a:=by unfold EE;rw[if_neg zO,if_neg zO];omega
 rw[e];unfold EE;rw[if_neg zO,if_neg zO]
structure SpSt(w:World)(fb rb bb:Nat)(z:Array Value)(F:nI)(s:Value)(V:nI)(W:World):Prop where
 fr:FrB 98 W fb F s
 res:W.heap[rb]?=some (.cells z 43 (0,0))
 v:W.heap[bb]?=some (.cells (aA 16 (blk V)) 43 (0,0))
 old:Old w W
 nbb:w.heap.size<=bb
 nrb:w.heap.size<=rb
 n1:fb≠bb
 n2:rb≠bb
namespace SpSt
variable {w W W':World} {fb rb bb:Nat} {z:Array Value} {F V:nI} {s:Value}
theorem keep(h:SpSt w fb rb bb z F s V W)(k:Old W W'):SpSt w fb rb bb z F s V W':=
 ⟨h.fr.old k,(k.block _ (lt_of_block h.res)).trans h.res,(k.block _ (lt_of_block h.v)).trans h.v,h.old.trans k,h.nbb,h.nrb,h.n1,h.n2⟩
theorem cell(h:SpSt w fb rb bb z F s V W)(j:Nat)(hj:j<16):W.cell? ⟨bb,j,none⟩=some (vI iJ (V j))/\W.frozen? ⟨bb,j,none⟩=false:=
 ⟨(cell_of_row _ _ _ _ _ _ h.v).trans (dR 16 V j hj),frozen_of_row _ _ _ _ _ h.v⟩
theorem set(h:SpSt w fb rb bb z F s V W)(j:Nat)(hj:j<16)(x:Int):SpSt w fb rb bb z F s (fun k=>if k=j then x else V k) (W.setCell ⟨bb,j,none⟩ (vI iJ x)):=by
 have hk:Kept (bH W bb) W (W.setCell ⟨bb,j,none⟩ (vI iJ x)):=Kept.setCell W (a:=⟨bb,j,none⟩) (fun h=>h.2 rfl) _;have hn:=h.nbb;refine⟨h.fr.kept hk ⟨lt_of_block h.fr,h.n1⟩,(hk.block rb ⟨lt_of_block h.res,h.n2⟩).trans h.res,?_,Kept.trans h.old (hk.mono fun q hq=>⟨Nat.lt_of_lt_of_le hq h.old.size,fun e=>zO⟩),h.nbb,h.nrb,h.n1,h.n2⟩;rw[<-iA,<-dS 16 _ j _ hj];exact heap_setCell_same _ _ _ _ _ _ h.v
end SpSt
theorem KV(F:nI)(p:Option Addr)(n cap:Nat)(T:nI)(w:World)(hT:SlF 2 w p n T)(hn:n<=cap)(hc:cap<=maxLen)(hF:mC F n T):
  Calls zP 72 #[.agg (aA 29 (aR F (.slice p n cap)))] w fun e w'=>e=rJ (.agg (aA 16 (blk (dX F n T))))/\Old w w':=by
 have Hs4:Hid ((zP.info? 44).map (·.size)=some 4):=zH zK;have Hs16:Hid ((zP.info? 43).map (·.size)=some 16):=zH zK;obtain⟨z,hz⟩:∃z:Array Value,z=#[vI iJ 0,vI iJ 0,vI iJ 0,vI iJ 0,vI iJ 0,vI iJ 0,vI iJ 0,vI iJ 0,vI iJ 0,vI iJ 0,vI iJ 0,vI iJ 0,vI iJ 0,vI iJ 0,vI iJ 0,vI iJ 0]:=⟨_,rfl⟩
 have hzs:z.size=16:=by rw[hz];rfl
 obtain⟨W0,hW0⟩:=zG (((w.alloc (.cells (aA 29 (aR F (.slice p n cap))) 98)).alloc (.cells z 43)));have hA:FrB 98 W0 w.heap.size F (.slice p n cap):=by rw[hW0];exact heap_alloc2_old w _ _
 have hR:W0.heap[w.heap.size+1]?=some (.cells z 43 (0,0)):=by rw[hW0];exact heap_alloc2_new w _ _
 have hO:Old w W0:=by rw[hW0];exact(Old.alloc w _).alloc' _
 have HW0:=zH hW0;have HA:=zH hA;have HR:=zH hR;have HO:=zH hO;have Hz:=zH hz;have Hzs:=zH hzs;have HT:=zH hT;have HF:=zH hF;have HV:=zH (fun w=>VL (XH F) (PS F) w (aDE hF));have n2:=hF.hn;clear hW0 hA hR hO hz hzs hT hF;go_enter func72,ntmps72
 go_wp2_with (first | (rw[<-Hz.o,<-HW0.o];with_reducible refine bC rfl 16 (fun j=>F (13+j)) 43 _ rfl w.heap.size 13 rfl _ (HA.o.part 13 16 zO) underlying43 rfl Hs16.o ?_) | (with_reducible refine bC rfl 4 (fun j=>F (5+j)) 44 _ rfl w.heap.size 5 rfl _ (HA.o.part 5 4 zO) underlying44 rfl Hs4.o ?_))
 rw[aFg];refine(HV.o _).mono ?_;rintro e w1 ⟨rfl,ho⟩;have hst:SpSt w w.heap.size (w.heap.size+1) w1.heap.size z F (.slice p n cap) (dZ (fH F) T 0) (w1.alloc (.cells (aA 16 (blk (fH F))) 43)):=by
  have ho':=ho.alloc' (.cells (aA 16 (blk (fH F))) 43);have h1:=lt_of_block HA.o;have h2:=lt_of_block HR.o;have h3:=ho.size;exact⟨HA.o.old ho',(ho'.block _ h2).trans HR.o,heap_alloc_new _ _,HO.o.trans ho',zO,zO,zO,zO⟩
 have HS:=zH hst;have H1:Hid ((aA 16 (blk (fH F))).all (·.oneCell')=true):=zH (bN _ _);have c4:=HS.o.fr.cell4.1;clear ho hst HV HA HR HO HW0
 go_wp2_with (with_reducible refine wpList_store_row rfl 43 _ _ rfl w1.heap.size (aA 16 (blk (fH F))) rfl rfl 43 _ (heap_alloc_new _ _) (by rw[aB];exact Hs16.o) (by rw[aB];kernel_rfl) H1.o ?_;rw[World.setRow_alloc_new])
 obtain⟨W2,hW2⟩:=zG (w1.alloc (.cells (aA 16 (blk (fH F))) 43));obtain⟨bb,hbb⟩:=zG (w1.heap.size);rw[<-hW2,<-hbb]at HS |-;generalize hrb:w.heap.size+1=rb at HS |-;clear hW2 hbb hrb c4 H1
 go_loopw [16] (fun i wr=>∃k:Nat,k<=n/\i=vI iJ k/\Hid (SpSt w w.heap.size rb bb z F (.slice p n cap) (dZ (fH F) T k) wr)) (fun i _=>n-(intOf i).toNat)
 case atStart=>exact⟨0,zO,rfl,HS⟩
 case round=>
  obtain⟨k,hk,rfl,hs⟩:=hrel;obtain⟨wo,rfl⟩:∃V,V=wr:=⟨_,rfl⟩
  clear HS;by_cases hlt:k<n
  ·have i1:(0:Int)<=k:=zO;have hT:=HT.o.old hs.o.old;obtain⟨g,o,rfl,hg,hcc⟩:=mV hT zO;obtain⟨a0,a1⟩:=hcc k hlt;obtain⟨t0,t1,t2,_⟩:=HF.o.ht k hlt;have ty:=aCf t2 zO zO;obtain⟨j,hj⟩:∃j:Nat,T (2*k)=j:=⟨(T (2*k)).toNat,zO⟩
   have hj16:j<16:=zO;have hbd:=ZH HF.o k zO j hj16;have hsucc:dZ (fH F) T (k+1)=fun q=>if q=j then dZ (fH F) T k j+T (2*k+1) else dZ (fH F) T k q:=by
    funext q;show (if (q:Int)=T (2*k) then dZ (fH F) T k q+T (2*k+1) else dZ (fH F) T k q)=_;rw[hj];by_cases e:q=j
    ·subst e;rw[if_pos rfl,if_pos rfl]
    ·rw[if_neg zO,if_neg e]
   obtain⟨V,hV⟩:=zF (dZ (fH F) T k j);rw[hj]at a0;rw[hV]at hbd hsucc;have hcj:=fun W (h:Old wo W)=>(hs.o.keep h).cell j hj16;rw[hV]at hcj;have HCj:=zH hcj;obtain⟨y,hy⟩:=zF (T (2*k+1));rw[hy]at a1 ty hsucc;obtain⟨r,hr⟩:=zF (V+y);have hr64:jF (V+y):=by unfold jF;omega
   have hV64:jF V:=by unfold jF;omega
   have hy64:jF y:=by unfold jF;omega
   have hadd:=aDI V y hV64 hr64;rw[hr]at hadd hsucc;have HN:=zH (fun W (h:Old wo W)=>(hs.o.keep h).set j hj16 r);rw[<-hsucc]at HN;have HAdd:=zH (fun(W:World)=>(by
    have:=aFZ (some ⟨W.heap.size,0,none⟩) 2 2 [V,y] (W.alloc (.cells #[vI iJ V,vI iJ y] 2)).drew ((kK.fresh W .i64 2 [V,y] 2 (0,0) rfl zO).old (Old.refl _).drew) (fun x hx=>by
     simp only[List.mem_cons,List.mem_nil_iff,or_false]at hx;rcases hx with rfl | rfl
     ·exact hV64
     ·exact hy64) zO
    rw[hadd]at this;exact this:Calls zP 111 #[.slice (some ⟨W.heap.size,0,none⟩) 2 2] (W.alloc (.cells #[vI iJ V,vI iJ y] 2)).drew fun e w'=>e=rJ (vI iJ r)/\(W.alloc (.cells #[vI iJ V,vI iJ y] 2)).drew=w'))
   have HTn:Hid (∀W,Old (wo.alloc (.cells #[vI iJ (j:Int),vI iJ y] 209)) W->W.cell? ⟨wo.heap.size,0,none⟩=some (vI iJ (j:Int))/\W.cell? ⟨wo.heap.size,1,none⟩=some (vI iJ y)):=zH fun W h=>by
    have hb:=(h.block wo.heap.size zS).trans (heap_alloc_new wo (.cells #[vI iJ (j:Int),vI iJ y] 209));exact⟨cell_of_row _ _ _ _ _ _ hb,cell_of_row _ _ _ _ _ _ hb⟩
   have HBb:Hid (bb<wo.heap.size):=zH (lt_of_block hs.o.v);have j0:(0:Int)<=j:=zO;have j1:(j:Int)<16:=zO;clear hT hcc t0 t1 t2 ty hj hbd hsucc hV hcj hy hr hr64 hV64 hy64 hadd hs
   go_wp2_with fail
   obtain⟨tb,htb⟩:=zG (wo.heap.size);have hoA:Old wo (wo.alloc (.cells #[vI iJ (j:Int),vI iJ y] 209)):=Old.alloc _ _;obtain⟨W3,hW3⟩:=zG (wo.alloc (.cells #[vI iJ (j:Int),vI iJ y] 209));rw[<-hW3,<-htb]at HTn;rw[<-hW3]at hoA |-
   try rw[<-htb]
   have HoA:=zH hoA;have HTb:Hid (tb=wo.heap.size):=zH htb;clear hW3 htb hoA;refine wp_region_held_drew (S:=(fun w'=>w'.cell? ⟨tb,0,none⟩=some (vI iJ (j:Int))/\w'.cell? ⟨tb,1,none⟩=some (vI iJ y))) zK ?_ (fun hHeld=>?_)
   ·(try dsimp only);exact HTn.o _ ((Old.refl W3).drew)
   refine (uU 0) ((uU 2) ((uU 6) ((uU 1) ((uU 3) ((uU 4) ((uU 7) ?_))))));refine wpR 5 rfl (fun K hK=>?_);obtain⟨b0,b1⟩:=HCj.o _ (HoA.o.trans ((Old.refl W3).drew));go_simp;refine hK.out _ _ ?_ (fun hHeld=>?_)
   ·(try dsimp only);exact HTn.o _ ((Old.refl W3).drew)
   clear hK K
   try simp only[Act.put,sA,sZ,sS]
   clear b0 b1;obtain⟨W4,hW4⟩:=zG ((W3.alloc (.cells #[vI iJ V,vI iJ y] 2)).drew);have ho4:Old W3 W4:=by rw[hW4];exact(Old.alloc W3 _).drew
   have HAd:=zH (HAdd.o W3);rw[<-hW4]at HAd;have HK:Hid (W4.cell? ⟨tb,0,none⟩=some (vI iJ (j:Int))/\W4.cell? ⟨tb,1,none⟩=some (vI iJ y)):=zH (HTn.o _ ho4);have htb:tb≠bb:=fun e=>by
    have h1:=(HCj.o _ HoA.o).1;have h2:=(HTn.o _ (Old.refl W3)).1;have:=HTb.o;have:=HBb.o;omega
   have HK2:Hid ((W4.setCell ⟨bb,j,none⟩ (vI iJ r)).cell? ⟨tb,0,none⟩=some (vI iJ (j:Int))/\(W4.setCell ⟨bb,j,none⟩ (vI iJ r)).cell? ⟨tb,1,none⟩=some (vI iJ y)):=zH (by
    rw[World.cell?_setCell_other _ _ _ _ (fun e=>htb (by injection e with e1 _;exact e1.symm)),World.cell?_setCell_other _ _ _ _ (fun e=>htb (by injection e with e1 _;exact e1.symm))];exact HTn.o _ ho4)
   have HNn:=zH (HN.o W4 (HoA.o.trans ho4));have HD:=zH (HCj.o _ (HoA.o.trans ho4));have HW4:=zH hW4;clear hW4 ho4 HAdd HN HCj HTn HoA;refine wpR 8 rfl (fun K hK=>?_);go_simp
   try rw[<-HW4.o]
   refine hK.out _ _ ?_ (fun hHeld=>?_)
   ·(try dsimp only);exact HK.o
   clear hK K
   try simp only[Act.put,sA,sZ,sS]
   refine wpR 9 rfl (fun K hK=>?_);go_simp;refine HAd.o.mono ?_;rintro e V5 ⟨rfl,rfl⟩
   go_wp2_with fail
   refine hK.out _ _ ?_ (fun hHeld=>?_)
   ·(try dsimp only);exact HK.o
   clear hK K;refine (uU 10) ?_;refine wpR 11 rfl (fun K hK=>?_);obtain⟨d0,d1⟩:=HD.o;go_simp;refine hK.out _ _ ?_ (fun hHeld=>?_)
   ·(try dsimp only);exact HK2.o
   clear hK K
   try simp only[Act.put,sA,sZ,sS]
   refine wpAnyH_done zK ?_ _;clear HK HK2 HAd HD d0 d1
   go_wp2_with fail
   go_roundw
   case rel=>exact⟨k+1,zO,by go_num,HNn⟩
   case measure=>exact zM
  ·obtain rfl:k=n:=zO;have HS:=hs;have Hv:=zH hs.o.v;obtain⟨V,hV⟩:=zF (dZ (fH F) T k);have hspec:dX F k T=eW V 16:=by unfold dX;rw[hV]
   rw[hV]at HS Hv;have HSp:=zH hspec;have h0:eW V 0=V:=by funext q;unfold eW;rw[if_neg zO]
   rw[<-h0]at HS;clear hs hV hspec h0 HF HT hlt hk
   go_wp2_with (with_reducible refine wpList_load_row rfl 43 _ rfl bb rfl 43 (aA 16 (blk V)) (0,0) _ Hv.o underlying43 rfl (by rw[aB];exact Hs16.o) ?_)
   clear Hv
   go_loopw [41] (fun i wr=>∃j:Nat,j<=16/\i=vI iJ j/\Hid (SpSt w w.heap.size rb bb z F (.slice p k cap) (eW V j) wr)) (fun i _=>16-(intOf i).toNat)
   case atStart=>exact⟨0,zO,rfl,HS⟩
   case round=>
    obtain⟨j,hj,rfl,hs⟩:=hrel;obtain⟨wp,rfl⟩:∃X,X=wr:=⟨_,rfl⟩
    clear HS;by_cases hlt:j<16
    ·have i1:(0:Int)<=j:=zO;have i2:(j:Int)<16:=zO;have hat:∀w:World,(Instr.index 43 (.agg (aA 16 (blk V))) (vI iJ j)).run zP w=.ok (vI iJ (V j)) w:=fun w=>aZ underlying43 underlying2 (fun _=>zK) V j hlt w;have hn:=hs.o.set j hlt (jD (V j) (-2147483648) 2147483648);rw[KL]at hn;have HN:=zH hn;obtain⟨d0,d1⟩:=hs.o.cell j hlt;have HC:=zH (fun w=>GM (V j) (-2147483648) 2147483648 w);clear hs hn;generalize jD (V j) (-2147483648) 2147483648=y at *;generalize V j=x at *
     go_wp2_with fail
     refine(HC.o _).mono ?_;rintro e w5 ⟨rfl,rfl⟩
     go_wp2_with fail
     go_roundw
     case rel=>exact⟨j+1,zO,by go_num,HN⟩
     case measure=>exact zM
    ·obtain rfl:j=16:=zO;have Hv:=zH hs.o.v;have Hres:=zH hs.o.res;have Hold:=zH hs.o.old;have Hnrb:=zH hs.o.nrb;have H1:Hid ((aA 16 (blk (eW V 16))).all (·.oneCell')=true):=zH (bN _ _);clear hs hlt hj
     go_wp2_with (first | (with_reducible refine wpList_load_row rfl 43 _ rfl bb rfl 43 (aA 16 (blk (eW V 16))) (0,0) _ Hv.o underlying43 rfl (by rw[aB];exact Hs16.o) ?_) | (with_reducible refine wpList_store_row rfl 43 _ _ rfl rb (aA 16 (blk (eW V 16))) rfl rfl 43 _ Hres.o (by rw[aB];exact Hs16.o) (by rw[aB];exact Hzs.o) H1.o ?_))
     have hr:=bS Hres.o Hold.o Hnrb.o (aA 16 (blk (eW V 16)));exact bodyPost_ret (results_cell_row rfl _ _ rb 43 (aA 16 (blk (eW V 16))) (0,0) _ rfl hr.1 underlying43 rfl (by rw[aB];exact Hs16.o)) rfl ⟨by rw[HSp.o],hr.2⟩
def KY(F:nI)(n:Nat)(T:nI):nI:=fun k=>if k<16 then dX F n T k else F (k-16)
theorem aBo(F:nI)(n:Nat)(T:nI)(j:Nat)(hj:j<16):-2147483648<=dX F n T j/\dX F n T j<=2147483648:=by
 unfold dX eW;rw[if_pos hj];unfold jD;split <;> (try split) <;> omega
structure FdV(w:World)(t:TypeId)(n:Nat)(z:Array Value)(V:nI)(W:World):Prop where
 b:W.heap[w.heap.size]?=some (.cells (aA n (blk V)) t (0,0))
 r:W.heap[w.heap.size+1]?=some (.cells z t (0,0))
 old:Old w W
namespace FdV
variable {w W W':World} {t:TypeId} {n:Nat} {z:Array Value} {V:nI}
end FdV
theorem FrB.heap{t:TypeId}{w:World}{b:Nat}{F:nI}{s:Value}(h:FrB t w b F s):w.heap[b]?=some (.cells (aA 29 (aR F s)) t (0,0)):=h
theorem LD(S G:nI):zP.built 46 [(0,.agg (aA 16 (blk S))),(1,.agg (aA 4 (blk fun j=>G (0+j))))]=some (aA 20 (blk fun k=>if k<16 then S k else G (k-16))):=by
 rw[show (fun j=>G (0+j))=G from funext fun j=>by rw[Nat.zero_add]];kernel_rfl
theorem aFp(F:nI)(p:Option Addr)(n cap:Nat)(T:nI)(w:World)(hT:SlF 2 w p n T)(hn:n<=cap)(hc:cap<=maxLen)(hF:mC F n T):
  Calls zP 124 #[.agg (aA 29 (aR F (.slice p n cap)))] w fun e w'=>e=rJ (.agg (aA 20 (blk (KY F n T))))/\Old w w':=by
 have Hs29:Hid ((zP.info? 98).map (·.size)=some 29):=zH zK;have Hs20:Hid ((zP.info? 46).map (·.size)=some 20):=zH zK;have Hs4:Hid ((zP.info? 44).map (·.size)=some 4):=zH zK;obtain⟨z,hz⟩:∃z:Array Value,z=#[vI iJ 0,vI iJ 0,vI iJ 0,vI iJ 0,vI iJ 0,vI iJ 0,vI iJ 0,vI iJ 0,vI iJ 0,vI iJ 0,vI iJ 0,vI iJ 0,vI iJ 0,vI iJ 0,vI iJ 0,vI iJ 0,vI iJ 0,vI iJ 0,vI iJ 0,vI iJ 0]:=⟨_,rfl⟩
 obtain⟨W0,hW0⟩:=zG (((w.alloc (.cells (aA 29 (aR F (.slice p n cap))) 98)).alloc (.cells z 46)));have zs:Hid (z.size=20):=zH (by rw[hz];rfl);have HA:Hid (FrB 98 W0 w.heap.size F (.slice p n cap)):=zH (by rw[hW0];exact heap_alloc2_old w _ _);have HR:Hid (W0.heap[w.heap.size+1]?=some (.cells z 46 (0,0))):=zH (by rw[hW0];exact heap_alloc2_new w _ _);have HO:Hid (Old w W0):=zH (by rw[hW0];exact(Old.alloc w _).alloc' _);have HSp:=zH (fun(W:World) (h:Old w W)=>KV F p n cap T W (hT.old h) hn hc hF);have HBd:=zH (LD (dX F n T) F);have H1:Hid ((aA 20 (blk (KY F n T))).all (·.oneCell')=true):=zH (bN _ _);have Hz:=zH hz;have HW0:=zH hW0;clear hz hW0 hT hn hc hF;go_enter func124,ntmps124
 go_wp2_with fail
 rw[<-Hz.o,<-HW0.o];refine wp_region_held_drew (S:=(fun w'=>FrB 98 w' w.heap.size F (.slice p n cap))) zK ?_ (fun hHeld=>?_)
 ·(try dsimp only);exact HA.o.old ((Old.refl W0).drew)
 refine (uU 2) ?_;refine (uT 0 (v:=.agg (aA 29 (aR F (.slice p n cap)))) rfl (aG zK 98 (.tmp 1) rfl w.heap.size rfl 98 (aA 29 (aR F (.slice p n cap))) (0,0) _ (fun _ h=>FrB.heap h) underlying98 rfl (by rw[aB];exact Hs29.o))) ?_;refine (uT 3 (v:=.agg (aA 4 (blk fun j=>F (0+j)))) rfl (aX 4 (fun j=>F (0+j)) zK 44 (.tmp 5) rfl w.heap.size 0 rfl _ (fun _ h=>FrB.part h 0 4 zO) underlying44 rfl Hs4.o)) ?_;refine wpR 1 rfl (fun K hK=>?_);go_simp;refine(HSp.o _ (HO.o.trans (Old.refl W0).drew)).mono ?_;rintro e V1 ⟨rfl,o1⟩;have o1':Old W0 V1:=((Old.refl W0).drew).trans o1
 go_wp2_with fail
 refine hK.out _ _ ?_ (fun hHeld=>?_)
 ·(try dsimp only);exact HA.o.old o1'
 clear hK K;refine (uT 4 (v:=.agg (aA 20 (blk (KY F n T)))) rfl (fC zK 46 _ rfl [(0,.agg (aA 16 (blk (dX F n T)))),(1,.agg (aA 4 (blk fun j=>F (0+j))))] _ zK HBd.o)) ?_;refine wpR 5 rfl (fun K hK=>?_);rw[if_pos zK];have HR1:Hid (V1.heap[w.heap.size+1]?=some (.cells z 46 (0,0))):=zH ((o1'.block _ (lt_of_block HR.o)).trans HR.o);have HD:=zH (bS HR1.o (HO.o.trans o1') (Nat.le_succ _) (aA 20 (blk (KY F n T))))
 with_reducible refine wp_store_row 46 _ _ rfl (w.heap.size+1) (aA 20 (blk (KY F n T))) rfl rfl 46 _ HR1.o (by rw[aB];exact Hs20.o) (by rw[aB];exact zs.o) H1.o ?_
 refine hK.out _ _ ?_ (fun hHeld=>?_)
 ·(try dsimp only);exact(setRow_other _ _ _ _ zO).trans (HA.o.old o1').heap
 clear hK K;refine wpAnyH_done zK ?_ _
 go_wp2_with fail
 exact bodyPost_ret (results_cell_row rfl _ _ (w.heap.size+1) 46 (aA 20 (blk (KY F n T))) (0,0) _ rfl HD.o.1 underlying46 rfl (by rw[aB];exact Hs20.o)) rfl ⟨rfl,HD.o.2⟩
def BF(P:nI)(l:Int):nI:=fun k=>if k=20 then l else P k
theorem AF:BF (fun _=>0) 0=fun _=>0:=by funext k;unfold BF;split <;> rfl
def VlB(w:World)(b:Nat)(P:nI)(l:Int):Prop:=w.heap[b]?=some (.cells (aA 21 (blk (BF P l))) 48 (0,0))
namespace VlB
variable {w w':World} {b:Nat} {P:nI} {l:Int} {X:Nat->Prop}
end VlB
theorem aCn{w W:World}{b:Nat}{X:Nat->Prop}(h:Kept X w W)(hX:∀k,X k->k<w.heap.size){rb:Nat}(hr:w.heap.size<=rb)(cs:Array Value):Kept X w (W.setRow rb cs):=
 h.trans ⟨rfl,rfl,zS,fun k hk=>setRow_other _ _ _ _ (by have:=hX k hk;omega)⟩
theorem TV(P:nI):zP.built 48 [(0,.agg (aA 20 (blk P)))]=some (aA 21 (blk (BF P 0))):=zK
def vW(w:World)(b:Nat)(T:TypeId)(m:Nat):Prop:=∃c,w.heap[b]?=some (.cells c T (0,0))/\c.size=m
theorem vW.kept{X:Nat->Prop}{w w':World}{b m:Nat}{T:TypeId}(h:vW w b T m)(k:Kept X w w')(hX:X b):vW w' b T m:=by
 obtain⟨c,h1,h2⟩:=h;exact⟨c,(k.block _ hX).trans h1,h2⟩
theorem vW.cell{w:World}{b m:Nat}{T:TypeId}(h:vW w b T m)(o:Nat)(u:Value):vW (w.setCell ⟨b,o,none⟩ u) b T m:=by
 obtain⟨c,h1,h2⟩:=h;exact⟨_,aW h1,by simp[h2]⟩
theorem vW.cells{b m:Nat}{T:TypeId} : ∀(vs:List Value) (o:Nat) {w:World},vW w b T m->vW (w.setCells b o vs) b T m
 | [],_,_,h=>h
 | v :: r,o,_,h=>by rw[World.setCells];exact vW.cells r (o+1) (h.cell o v)
structure VlI(w:World)(b o m:Nat)(C:Nat->Value)(P:nI)(l:Int):Prop where
 c:CellsV w b m C
 h:o+21<=m
 v:∀j,j<21->C (o+j)=vI iJ (BF P l j)
def vlC(C:Nat->Value)(o:Nat)(P:nI)(l:Int):Nat->Value:=jC C o 21 (blk (BF P l))
theorem CellsV.one{w:World}{g m:Nat}{C:Nat->Value}(h:CellsV w g m C)(o:Nat)(ho:o<m)(v:Value):CellsV (w.setCell ⟨g,o,none⟩ v) g m (fun j=>if j=o then v else C j):=by
 have:=h.setCells o 1 zO (fun _=>v);refine CellsV.ext this fun j _=>?_;unfold jC;by_cases e:j=o
 ·rw[if_pos zO,if_pos e]
 ·rw[if_neg zO,if_neg e]
namespace VlI
variable {w w':World} {b o m:Nat} {C:Nat->Value} {P:nI} {l:Int}
theorem lt(h:VlI w b o m C P l):b<w.heap.size:=h.c.lt
theorem old(h:VlI w b o m C P l)(k:Old w w'):VlI w' b o m C P l:=⟨h.c.old k,h.h,h.v⟩
theorem cell(h:VlI w b o m C P l)(j:Nat)(hj:j<20):w.cell? ⟨b,o+j,none⟩=some (vI iJ (P j)):=by
 have:=h.h;rw[h.c.cell (o+j) zO,h.v j zO];unfold BF;rw[if_neg zO]
theorem set(h:VlI w b o m C P l)(Q:nI)(l':Int):VlI (w.setCells b o (aA 21 (blk (BF Q l'))).toList) b o m (vlC C o Q l') Q l':=by
 have hh:=h.h;refine⟨h.c.setCells o 21 hh _,hh,fun j hj=>?_⟩;unfold vlC jC;rw[if_pos ⟨zO,zO⟩,show o+j-o=j by omega];rfl
end VlI
theorem rA(W:World)(b:Nat)(cs:Array Value):Kept (fun q=>q≠b) W (W.setRow b cs):=⟨rfl,rfl,zS,fun k hk=>setRow_other _ _ _ _ hk⟩
theorem SR{w W:World}{b:Nat}(ho:Old w W)(o:Nat)(vs:List Value):Kept (bH w b) w (W.setCells b o vs):=
 (ho.kept (X:=bH w b) fun _ hk=>hk.1).trans (Kept.setCells W (fun h=>h.2 rfl) _ _)
theorem aFv(b o m:Nat)(C:Nat->Value)(P0:nI)(l0:Int)(F:nI)(p:Option Addr)(n cap:Nat)(T:nI)(w:World)(hb:VlI w b o m C P0 l0)(hT:SlF 2 w p n T)(hn:n<=cap)(hc:cap<=maxLen)(hF:mC F n T):
  Calls zP 86 #[.pointer (some ⟨b,o,none⟩),.agg (aA 29 (aR F (.slice p n cap)))] w fun e w'=>e=rJ (.agg (aA 20 (blk (KY F n T))))/\VlI w' b o m (vlC C o (KY F n T) 0) (KY F n T) 0/\Kept (bH w b) w w'/\∀T m,vW w b T m->vW w' b T m:=by
 have Hs29:Hid ((zP.info? 98).map (·.size)=some 29):=zH zK;have Hs20:Hid ((zP.info? 46).map (·.size)=some 20):=zH zK;have Hs21:Hid ((zP.info? 48).map (·.size)=some 21):=zH zK;obtain⟨z,hz⟩:∃z:Array Value,z=#[vI iJ 0,vI iJ 0,vI iJ 0,vI iJ 0,vI iJ 0,vI iJ 0,vI iJ 0,vI iJ 0,vI iJ 0,vI iJ 0,vI iJ 0,vI iJ 0,vI iJ 0,vI iJ 0,vI iJ 0,vI iJ 0,vI iJ 0,vI iJ 0,vI iJ 0,vI iJ 0]:=⟨_,rfl⟩
 obtain⟨W0,hW0⟩:=zG (((w.alloc (.cells (aA 29 (aR F (.slice p n cap))) 98)).alloc (.cells z 46)));have zs:Hid (z.size=20):=zH (by rw[hz];rfl);have HA:Hid (FrB 98 W0 w.heap.size F (.slice p n cap)):=zH (by rw[hW0];exact heap_alloc2_old w _ _);have HR:Hid (W0.heap[w.heap.size+1]?=some (.cells z 46 (0,0))):=zH (by rw[hW0];exact heap_alloc2_new w _ _);have HO:Hid (Old w W0):=zH (by rw[hW0];exact(Old.alloc w _).alloc' _);have hOf:=aFp F p n cap T W0 (hT.old HO.o) hn hc hF;obtain⟨P,hP⟩:=zF (KY F n T);rw[hP]at hOf |-;have HOf:=zH hOf;have HB:=zH hb;have HBd:=zH (TV P);have H20:Hid ((aA 20 (blk P)).all (·.oneCell')=true):=zH (bN _ _);have H21:Hid ((aA 21 (blk (BF P 0))).all (·.oneCell')=true):=zH (bN _ _);have Hz:=zH hz;have HW0:=zH hW0;clear hz hW0 hT hn hc hF hOf hP hb;go_enter func86,ntmps86
 go_wp2_with (rw[<-Hz.o,<-HW0.o];with_reducible refine wpList_load_row rfl 98 _ rfl w.heap.size rfl 98 (aA 29 (aR F (.slice p n cap))) (0,0) _ HA.o.heap underlying98 rfl (by rw[aB];exact Hs29.o) ?_)
 refine HOf.o.mono ?_;rintro e w1 ⟨rfl,o1⟩;have o2:=HO.o.trans o1;have hv1:=HB.o.old o2;have HTh:=zH (hv1.c.there o 21 hv1.h);have hv2:=hv1.set P 0;have hk2:=SR (b:=b) o2 o (aA 21 (blk (BF P 0))).toList;obtain⟨U1,hU1⟩:∃U,U=w1.setCells b o (aA 21 (blk (BF P 0))).toList:=⟨_,rfl⟩
 rw[<-hU1]at hv2 hk2;have HU1:=zH hU1;have HV2:=zH hv2;have HC:=zH HV2.o.cell;have hbl:b<w.heap.size:=HB.o.lt;have hr1:w1.heap[w.heap.size+1]?=some (.cells z 46 (0,0)):=(o1.block _ (lt_of_block HR.o)).trans HR.o;have HR2:Hid (U1.heap[w.heap.size+1]?=some (.cells z 46 (0,0))):=zH (by rw[hU1];exact(cI _ _ _ _ _ zO).trans hr1);have HR3:=zH (setRow_heap U1 (w.heap.size+1) z (aA 20 (blk P)) _ _ HR2.o);have HV3:Hid (VlI (U1.setRow (w.heap.size+1) (aA 20 (blk P))) b o m (vlC C o P 0) P 0):=zH ⟨HV2.o.c.kept (rA _ _ _) (show b≠w.heap.size+1 by omega),HV2.o.h,HV2.o.v⟩;have HSh:Hid (∀T m,vW w b T m->vW (U1.setRow (w.heap.size+1) (aA 20 (blk P))) b T m):=zH fun T m h=>(by have:=vW.cells (aA 21 (blk (BF P 0))).toList o (h.kept o2 hbl);rw[<-hU1]at this;exact this.kept (rA _ _ _) (show b≠w.heap.size+1 by omega))
 have HK:=zH (aCn (b:=b) hk2 (fun k hk=>hk.1) (Nat.le_succ w.heap.size) (aA 20 (blk P)));clear hr1 hbl hv1 o1 o2 HOf HA HR HO HB hv2 hk2 hU1
 go_wp2_with (first | (with_reducible refine lK zK 48 _ rfl [(0,.agg (aA 20 (blk P)))] _ zK HBd.o ?_) | (with_reducible refine wpList_store_mid rfl 48 _ _ rfl b o (aA 21 (blk (BF P 0))) rfl rfl (by rw[aB];exact HTh.o) (by rw[aB];exact Hs21.o) H21.o ?_;rw[<-HU1.o]) | (with_reducible refine bC rfl 20 P 46 _ rfl b o rfl _ HC.o underlying46 rfl Hs20.o ?_) | (with_reducible refine wpList_store_row rfl 46 _ _ rfl (w.heap.size+1) (aA 20 (blk P)) rfl rfl 46 _ HR2.o (by rw[aB];exact Hs20.o) (by rw[aB];exact zs.o) H20.o ?_))
 exact bodyPost_ret (results_cell_row rfl _ _ (w.heap.size+1) 46 (aA 20 (blk P)) (0,0) _ rfl HR3.o underlying46 rfl (by rw[aB];exact Hs20.o)) rfl ⟨rfl,HV3.o,HK.o,HSh.o⟩
def pF(F:nI)(n:Nat):Int:=52+28*n+4*dM (fun k=>F (9+k)) 4
theorem pB(g:nI):dM g 4=g 0+g 1+g 2+g 3:=by simp[dM]
theorem ZG(F:nI)(p:Option Addr)(n cap:Nat)(w:World)(hw:∀k,k<4->0<=F (9+k)/\F (9+k)<=99)(hn:n<=5):
  Calls zP 227 #[.agg (aA 29 (aR F (.slice p n cap)))] w fun e w'=>e=rJ (vI iJ (pF F n))/\Old w w':=by
 have Hs4:Hid ((zP.info? 44).map (·.size)=some 4):=zH zK;have HB:Hid (FrB 98 (w.alloc (.cells (aA 29 (aR F (.slice p n cap))) 98)) w.heap.size F (.slice p n cap)):=zH (FrB.new w F _);have HO:Hid (Old w (w.alloc (.cells (aA 29 (aR F (.slice p n cap))) 98))):=zH (Old.alloc _ _);have HC:=zH (fun w=>aCO (fun j=>F (9+j)) w (fun k hk=>by have:=hw k hk;constructor <;> omega));have hs:0<=dM (fun j=>F (9+j)) 4/\dM (fun j=>F (9+j)) 4<=396:=by
  have h0:=hw 0 zO;have h1:=hw 1 zO;have h2:=hw 2 zO;have h3:=hw 3 zO;rw[pB];omega
 unfold pF;generalize dM (fun j=>F (9+j)) 4=s at *;obtain⟨a,ha⟩:∃a:Int,28*(n:Int)=a:=⟨_,rfl⟩
 obtain⟨b,hb⟩:∃b:Int,52+a=b:=⟨_,rfl⟩
 obtain⟨c,hc⟩:∃c:Int,4*s=c:=⟨_,rfl⟩
 obtain⟨d,hd⟩:∃d:Int,b+c=d:=⟨_,rfl⟩
 have q1:wrap64 (28*(n:Int))=a:=by rw[IntWalk.wrap64_in _ zO];exact ha
 have q1':IntKind.i64.wrap (28*(n:Int))=a:=by rw[IntWalk.i64_in _ zO];exact ha
 have q2:wrap64 (52+a)=b:=by rw[IntWalk.wrap64_in _ zO];exact hb
 have q2':IntKind.i64.wrap (52+a)=b:=by rw[IntWalk.i64_in _ zO];exact hb
 have q3:wrap64 (b+c)=d:=by rw[IntWalk.wrap64_in _ zO];exact hd
 have q3':IntKind.i64.wrap (b+c)=d:=by rw[IntWalk.i64_in _ zO];exact hd
 rw[hc]at HC;rw[ha,hb,hc,hd];clear ha hb hc hd hs hw;go_enter func227,ntmps227
 go_wp2_with fail
 refine wp_region_held_drew (S:=(fun w'=>FrB 98 w' w.heap.size F (.slice p n cap)/\w'.cell? ⟨w.heap.size,4,none⟩=some (.slice p n cap))) zK ?_ (fun hHeld=>?_)
 ·(try dsimp only);exact⟨HB.o,HB.o.cell4.1⟩
 refine (uU 0) ((uU 1) ((uU 2) ((uU 3) ((uU 4) ((uU 5) ?_)))));refine (uT 6 (v:=.agg (aA 4 (blk (fun j=>F (9+j))))) rfl (aX 4 (fun j=>F (9+j)) zK 44 (.tmp 8) rfl w.heap.size 9 rfl _ (fun _ h=>h.1.part 9 4 zO) underlying44 rfl Hs4.o)) ?_;refine wpR 7 rfl (fun K hK=>?_);go_simp;refine(HC.o _).mono ?_;rintro e V1 ⟨rfl,o1'⟩;have o1:=((Old.refl (w.alloc (.cells (aA 29 (aR F (.slice p n cap))) 98))).drew).trans o1';clear o1'
 go_wp2_with fail
 refine hK.out _ _ ?_ (fun hHeld=>?_)
 ·(try dsimp only);exact⟨HB.o.old o1,(HB.o.old o1).cell4.1⟩
 clear hK K;refine (uU 8) ((uU 9) ?_);refine wpAnyH_done zK ?_ _;have HO1:=zH ((HO.o.trans o1));clear HB HC o1
 go_wp2_with fail
 go_ret;exact⟨rfl,HO1.o⟩
def kJ(F:nI)(k:Nat):List Bool:=aK 1 2 ++ (List.range k).flatMap fun j=>aK (F j) 2
def aCF(F:nI)(n:Nat):List Bool:=kJ F 4 ++ aK n 2
def rN(F:nI)(n:Nat)(T:nI)(k:Nat):List Bool:=aCF F n ++ (List.range k).flatMap fun j=>aK (T (2*j)) 4 ++ aK (T (2*j+1)) 24
def jA(F:nI)(n:Nat)(T:nI)(k:Nat):List Bool:=rN F n T n ++ (List.range k).flatMap fun j=>aK (F (5+j)) 5 ++ aK (F (9+j)) 5
def lU(F:nI)(n:Nat)(T:nI)(k:Nat):List Bool:=jA F n T 4 ++ (List.range k).flatMap fun j=>aK (F (13+j)) (F (9+j/4))
def enc(F:nI)(n:Nat)(T:nI):List Bool:=lU F n T 16
theorem jJ(F:nI):kJ F 0=aK 1 2:=by simp[kJ]
theorem GW(F:nI)(n:Nat)(T:nI):rN F n T 0=aCF F n:=by simp[rN]
theorem kX(F:nI)(n:Nat)(T:nI):jA F n T 0=rN F n T n:=by simp[jA]
theorem jI(F:nI)(n:Nat)(T:nI):lU F n T 0=jA F n T 4:=by simp[lU]
theorem jN(F:nI)(k:Nat):kJ F (k+1)=kJ F k ++ aK (F k) 2:=by simp[kJ,List.range_succ]
theorem GT(F:nI)(n:Nat)(T:nI)(k:Nat):rN F n T (k+1)=rN F n T k ++ aK (T (2*k)) 4 ++ aK (T (2*k+1)) 24:=by simp[rN,List.range_succ]
theorem iM(F:nI)(n:Nat)(T:nI)(k:Nat):jA F n T (k+1)=jA F n T k ++ aK (F (5+k)) 5 ++ aK (F (9+k)) 5:=by simp[jA,List.range_succ]
theorem bD(F:nI)(n:Nat)(T:nI)(k:Nat):lU F n T (k+1)=lU F n T k ++ aK (F (13+k)) (F (9+k/4)):=by simp[lU,List.range_succ]
theorem AQ(F:nI)(k:Nat):(kJ F k).length=2+2*k:=by
 induction k with
 | zero=>rw[jJ,cH];rfl
 | succ k ih=>rw[jN,List.length_append,ih,cH];show 2+2*k+2=_;omega
theorem aBw(F:nI)(n:Nat):(aCF F n).length=12:=by
 unfold aCF;rw[List.length_append,AQ,cH];rfl
theorem MT(F:nI)(n:Nat)(T:nI)(k:Nat):(rN F n T k).length=12+28*k:=by
 induction k with
 | zero=>rw[GW,aBw]
 | succ k ih=>rw[GT,List.length_append,List.length_append,ih,cH,cH];show 12+28*k+4+24=_;omega
theorem AC(F:nI)(n:Nat)(T:nI)(k:Nat):(jA F n T k).length=12+28*n+10*k:=by
 induction k with
 | zero=>rw[kX,MT];omega
 | succ k ih=>rw[iM,List.length_append,List.length_append,ih,cH,cH];show 12+28*n+10*k+5+5=_;omega
theorem aBy(F:nI)(n:Nat)(T:nI)(k:Nat)(hw:∀k,k<4->0<=F (9+k)/\F (9+k)<=24)(hk:k<=16):(lU F n T k).length<=52+28*n+24*k:=by
 induction k with
 | zero=>rw[jI,AC];omega
 | succ k ih=>
  rw[bD,List.length_append,cH];have:=ih zO;have:=hw (k/4) zO;omega
theorem VP{F:nI}{n:Nat}{T:nI}(h:mC F n T):((enc F n T).length:Int)=pF F n:=by
 have h0:=h.hw 0 zO;have h1:=h.hw 1 zO;have h2:=h.hw 2 zO;have h3:=h.hw 3 zO;have e:(enc F n T).length=52+28*n+4*((F 9).toNat+(F 10).toNat+(F 11).toNat+(F 12).toNat):=by
  unfold enc;rw[bD,bD,bD,bD,bD,bD,bD,bD,bD,bD,bD,bD,bD,bD,bD,bD,jI];simp only[List.length_append,AC,cH];show 12+28*n+10*4+(F 9).toNat+(F 9).toNat+(F 9).toNat+(F 9).toNat+(F 10).toNat+(F 10).toNat+(F 10).toNat+(F 10).toNat+(F 11).toNat+(F 11).toNat+(F 11).toNat+(F 11).toNat+(F 12).toNat+(F 12).toNat+(F 12).toNat+(F 12).toNat=_;omega
 unfold pF;rw[e,pB];show ((52+28*n+4*((F 9).toNat+(F 10).toNat+(F 11).toNat+(F 12).toNat):Nat):Int)=52+28*n+4*(F 9+F 10+F 11+F 12);have g0:0<=F 9:=h0.1;have g1:0<=F 10:=h1.1;have g2:0<=F 11:=h2.1;have g3:0<=F 12:=h3.1;omega
def BySt(w:World)(bw:Nat)(L:List Bool)(wr:World):Prop:=iQ wr (fun k=>k<w.heap.size) bw L 0/\Old w wr
namespace BySt
variable {w wr w':World} {bw:Nat} {L:List Bool}
theorem fresh(w:World):BySt w w.heap.size [] (w.alloc (.cells #[.slice none 0 0,vI iJ 0,vI iJ 0] 290)):=
 ⟨iQ.fresh (heap_alloc_new _ _) zO (fun k hk=>by simp;omega),Old.alloc _ _⟩
end BySt
theorem aGF{X:Nat->Prop}{wr:World}{bw:Nat}{L:List Bool}(h:iQ wr X bw L 0)(v k:Int)(hL:L.length<=4294967200)(h0:0<=v)(h1:v<=9223372036854775807)(hv:eC false v k=true):
  Calls zP 191 #[.pointer (some ⟨bw,0,none⟩),.int .u64 v,vI iJ k] wr fun e w'=>e=rJ (.tuple #[])/\iQ w' X bw (L ++ aK v k) 0/\Kept X wr w':=by
 refine(aFD X bw L 0 v k wr hL h0 zO h).mono ?_;rintro e w' ⟨he,h2,h3⟩;have hp:=SL L 0 v k zO h1;rw[show v%18446744073709551616=v by omega]at hp;rw[hp]at h2;unfold aAl at h2;rw[if_neg zS,if_pos hv]at h2;exact⟨he,h2,h3⟩
theorem aGE{X:Nat->Prop}{wr:World}{bw:Nat}{L:List Bool}(h:iQ wr X bw L 0)(v k:Int)(hL:L.length<=4294967200)(h0:-9223372036854775808<=v)(h1:v<=9223372036854775807)(hv:eC true v k=true):
  Calls zP 192 #[.pointer (some ⟨bw,0,none⟩),vI iJ v,vI iJ k] wr fun e w'=>e=rJ (.tuple #[])/\iQ w' X bw (L ++ aK v k) 0/\Kept X wr w':=by
 refine(LL X bw L 0 v k wr hL h).mono ?_;rintro e w' ⟨he,h2,h3⟩;rw[OU L 0 v k h0 h1]at h2;unfold aAl at h2;rw[if_neg zS,if_pos hv]at h2;exact⟨he,h2,h3⟩
theorem yH{w wr:World}{bw:Nat}{L:List Bool}(h:BySt w bw L wr)(v k:Int)(hL:L.length<=4294967200)(h0:0<=v)(h1:v<=9223372036854775807)(hv:eC false v k=true):
  Calls zP 191 #[.pointer (some ⟨bw,0,none⟩),.int .u64 v,vI iJ k] wr fun e w'=>e=rJ (.tuple #[])/\BySt w bw (L ++ aK v k) w':=
 (aGF h.1 v k hL h0 h1 hv).mono fun e w' ⟨he,h2,h3⟩=>⟨he,h2,Kept.trans h.2 h3⟩
theorem YL{w wr:World}{bw:Nat}{L:List Bool}(h:BySt w bw L wr)(v k:Int)(hL:L.length<=4294967200)(h0:-9223372036854775808<=v)(h1:v<=9223372036854775807)(hv:eC true v k=true):
  Calls zP 192 #[.pointer (some ⟨bw,0,none⟩),vI iJ v,vI iJ k] wr fun e w'=>e=rJ (.tuple #[])/\BySt w bw (L ++ aK v k) w':=
 (aGE h.1 v k hL h0 h1 hv).mono fun e w' ⟨he,h2,h3⟩=>⟨he,h2,Kept.trans h.2 h3⟩
theorem BySt.guard{w wr:World}{bw:Nat}{L:List Bool}(h:BySt w bw L wr)(o:Obj):iQ (wr.alloc o) (fun k=>k<w.heap.size\/k=wr.heap.size) bw L 0:=by
 obtain⟨⟨hXb,hX,v,hblk,hown⟩,ho⟩:=h;have hk:Old wr (wr.alloc o):=Old.alloc wr o;have hb:=lt_of_block hblk;have hs:=ho.size;refine⟨fun hh=>hh.elim hXb zO,fun k hk=>by simp;omega,v,(hk.block bw hb).trans hblk,(hown.old hk).mono fun k hv hh=>?_⟩;have:=hown.lt k hv;rcases hh with (h1 | h1) | h1
 ·exact hown.2 k hv (.inl h1)
 ·omega
 ·exact hown.2 k hv (.inr h1)
theorem BySt.back{w wr w':World}{bw:Nat}{L L':List Bool}{o:Obj}(h:BySt w bw L wr)(h2:iQ w' (fun k=>k<w.heap.size\/k=wr.heap.size) bw L' 0)(h3:Kept (fun k=>k<w.heap.size\/k=wr.heap.size) (wr.alloc o) w'):BySt w bw L' w':=by
 obtain⟨hXb,hX,v,hblk,hown⟩:=h2;have ho:=h.2;refine⟨⟨fun hh=>hXb (.inl hh),fun k hk=>hX k (.inl hk),v,hblk,hown.mono fun k hv hh=>hown.2 k hv (hh.imp (fun h=>.inl h) id)⟩,?_⟩;exact Kept.trans (ho.alloc' o) (h3.mono fun k hk=>.inl hk)
theorem kV(v k m:Int)(hk:0<=k)(hk2:k<=57)(h0:0<=v)(h1:v<=m)(hm:m<pw k.toNat):eC false v k=true:=by
 unfold eC;simp only[Bool.false_eq_true,if_false,Bool.and_eq_true,decide_eq_true_eq];exact⟨⟨hk,hk2⟩,h0,zO⟩
theorem mT(v k:Int)(hk:0<=k)(hk2:k<=24)(h:eK v k=true):eC true v k=true/\-8388608<=v/\v<=8388607:=by
 refine⟨?_,?_⟩
 ·unfold eC;simp only[if_true,Bool.and_eq_true,decide_eq_true_eq];exact⟨⟨hk,zO⟩,h⟩
 ·by_cases h0:k<=0
  ·rw[lI v k h0,beq_iff_eq]at h;omega
  ·rw[fD v k zO zO,decide_eq_true_eq]at h;have:=lY (k-1).toNat 23 zO;rw[show pw 23=8388608 from rfl]at this;omega
theorem FrB.blk{t:TypeId}{w:World}{b:Nat}{F:nI}{s:Value}(h:FrB t w b F s):w.heap[b]?=some (.cells (aA 29 (aR F s)) t (0,0)):=h
def aEd(w:World)(L:List Bool)(size:Int)(e:Ending)(w':World):Prop:=
 Old w w'/\((gG L 0 size≠0/\e=rJ (.tuple #[.slice none 0 0,vI iJ (gG L 0 size)]))\/(gG L 0 size=0/\∃g,e=rJ (.tuple #[.slice (some ⟨g,0,none⟩) size.toNat size.toNat,vI iJ 0])/\w.heap.size<=g/\w'.heap[g]?=some (.cells ((cU L size.toNat).map (Value.int .u8)).toArray 5 (0,0))))
theorem RA{w wr:World}{bw:Nat}{L:List Bool}(h:BySt w bw L wr)(size:Int):
  Calls zP 193 #[.pointer (some ⟨bw,0,none⟩),vI iJ size] wr (aEd w L size):=by
 have hs:=h.2.size;by_cases he:gG L 0 size=0
 ·have h0:0<=size/\size<=2147483647/\(nb L:Int)<=size:=by
   unfold gG at he;rw[if_neg zS]at he;split at he
   ·omega
   ·split at he <;> omega
  obtain⟨N,rfl⟩:=Int.eq_ofNat_of_zero_le h0.1;refine(aDD _ bw L N wr h.1 zO zO).mono ?_;rintro e w' ⟨rfl,h2,h3⟩;refine⟨h.2.trans (Old.below h3),.inr ⟨he,wr.heap.size,rfl,hs,?_⟩⟩;simpa using h2
 ·refine(YM _ bw L 0 size wr h.1 he).mono ?_;rintro e w' ⟨rfl,h2⟩;exact⟨h.2.alike h2,.inl ⟨he,rfl⟩⟩
theorem UQ(F:nI)(p:Option Addr)(n cap:Nat)(T:nI)(size:Int)(w:World)(hT:SlF 2 w p n T)(hf:aD T)(hn:n<=cap)(hc:cap<=maxLen)(hF:mC F n T):
  Calls zP 141 #[.agg (aA 29 (aR F (.slice p n cap))),vI iJ size] w (aEd w (enc F n T) size):=by
 have Hs29:Hid ((zP.info? 98).map (·.size)=some 29):=zH zK;have Hs4:Hid ((zP.info? 44).map (·.size)=some 4):=zH zK;have Hs16:Hid ((zP.info? 43).map (·.size)=some 16):=zH zK;have HB:Hid (FrB 98 (w.alloc (.cells (aA 29 (aR F (.slice p n cap))) 98)) w.heap.size F (.slice p n cap)):=zH (FrB.new w F _);have HO:Hid (Old w (w.alloc (.cells (aA 29 (aR F (.slice p n cap))) 98))):=zH (Old.alloc _ _);have hr:=CN F p n cap T _ (hT.old HO.o) hf hn hc;rw[decide_eq_true hF]at hr;have HR:=zH hr;have HT:=zH hT;have HF:=zH hF;have n2:=hF.hn;clear hr hT hf hF;go_enter func141,ntmps141
 go_wp2_with (with_reducible refine wpList_load_row rfl 98 _ rfl w.heap.size rfl 98 (aA 29 (aR F (.slice p n cap))) (0,0) _ HB.o.blk underlying98 rfl (by rw[aB];exact Hs29.o) ?_)
 refine HR.o.mono ?_;rintro e w1 ⟨rfl,ho⟩;have HB1:=zH (HB.o.old ho);have HO1:=zH (HO.o.trans ho);have HT1:=zH (HT.o.old HO1.o);clear ho HB HO HR HT;obtain⟨bw,hbw⟩:=zG (w1.heap.size);have hst:=BySt.fresh w1;obtain⟨W2,hW2⟩:=zG (w1.alloc (.cells #[.slice none 0 0,vI iJ 0,vI iJ 0] 290));rw[<-hW2,<-hbw]at hst;have HP:=zH (yH hst 1 2 zS zO zO (kV 1 2 1 zO zO zO zO zD));have HW2:=zH hW2;have Hbw:=zH hbw;clear hst hW2 hbw
 go_wp2_with fail
 rw[<-HW2.o,<-Hbw.o];refine HP.o.mono ?_;rintro e w3 ⟨rfl,hs⟩;rw[List.nil_append,<-jJ F]at hs;have HS:=zH hs;have HB3:=zH (HB1.o.old hs.2);clear hs HP HW2 Hbw
 go_wp2_with (with_reducible refine bC rfl 4 F 44 _ rfl w.heap.size 0 rfl _ (fun j hj=>by have:=HB3.o.part 0 4 zO j hj;rwa [Nat.zero_add]at this |-) underlying44 rfl Hs4.o ?_)
 go_loopw [21] (fun i wr=>∃k:Nat,k<=4/\i=vI iJ k/\Hid (BySt w1 bw (kJ F k) wr)) (fun i _=>4-(intOf i).toNat)
 case atStart=>exact⟨0,zO,rfl,HS⟩
 case round=>
  obtain⟨k,hk,rfl,hs⟩:=hrel;clear HS HB3;by_cases hlt:k<4
  ·have i1:(0:Int)<=k:=zO;have i2:(k:Int)<4:=zO;have hat:∀w:World,(Instr.index 44 (.agg (aA 4 (blk F))) (vI iJ k)).run zP w=.ok (vI iJ (F k)) w:=fun w=>aZ underlying44 underlying3 (fun _=>zK) F k hlt w;obtain⟨g0,g1⟩:=HF.o.hg k hlt;have HP:=zH (yH hs.o (F k) 2 (by rw[AQ];omega) g0 zO (kV _ 2 3 zO zO g0 g1 zD));rw[<-jN]at HP;clear hs;generalize F k=x at *
   go_wp2_with fail
   refine HP.o.mono ?_;rintro e w4 ⟨rfl,hs⟩;have HS:=zH hs;clear hs HP
   go_wp2_with fail
   go_roundw
   case rel=>exact⟨k+1,zO,by go_num,HS⟩
   case measure=>exact zM
  ·obtain rfl:k=4:=zO;have HB4:=zH (HB1.o.old hs.o.2);have c4:=HB4.o.cell4.1;have HP:=zH (yH hs.o n 2 (by rw[AQ];omega) zO zO (kV _ 2 2 zO zO zO zO zD));clear hs hlt hk
   go_wp2_with fail
   refine HP.o.mono ?_;rintro e w4 ⟨rfl,hs⟩;rw[show kJ F 4 ++ aK n 2=aCF F n from rfl,<-GW F n T]at hs;have HS:=zH hs;have c4:=(HB1.o.old hs.2).cell4.1;clear hs HP HB4
   go_wp2_with fail
   try rw[show ((4:Nat):Int)=4 from rfl]
   go_loopw [36] (fun i wr=>∃k:Nat,k<=n/\i=vI iJ k/\Hid (BySt w1 bw (rN F n T k) wr)) (fun i _=>n-(intOf i).toNat)
   case atStart=>exact⟨0,zO,rfl,HS⟩
   case round=>
    obtain⟨k,hk,rfl,hs⟩:=hrel;obtain⟨wo,rfl⟩:∃V,V=wr:=⟨_,rfl⟩
    clear HS c4;by_cases hlt:k<n
    ·have i1:(0:Int)<=k:=zO;have hT:=HT1.o.old hs.o.2;obtain⟨g,o,rfl,hg,hcc⟩:=mV hT zO;obtain⟨a0,a1⟩:=hcc k hlt;obtain⟨t0,t1,t2,_⟩:=HF.o.ht k hlt;obtain⟨tv,tb0,tb1⟩:=mT _ 24 zO zO t2;have hlen:=MT F n T k;have hgd:=hs.o.guard (.cells #[vI iJ (T (2*k)),vI iJ (T (2*k+1))] 209);have HP:=zH (aGF hgd (T (2*k)) 4 zO t0 zO (kV _ 4 15 zO zO t0 t1 zD));have HQ:=zH (fun wx (h:iQ wx (fun q=>q<w1.heap.size\/q=wo.heap.size) bw (rN F n T k ++ aK (T (2*k)) 4) 0)=>aGE h (T (2*k+1)) 24 (by rw[List.length_append,cH,hlen];show 12+28*k+4<=_;omega) zO zO tv);rw[<-GT]at HQ;have HBk:=zH (fun(wx:World) (h2:iQ wx (fun q=>q<w1.heap.size\/q=wo.heap.size) bw (rN F n T (k+1)) 0) (h3:Kept (fun q=>q<w1.heap.size\/q=wo.heap.size) (wo.alloc (.cells #[vI iJ (T (2*k)),vI iJ (T (2*k+1))] 209)) wx)=>hs.o.back h2 h3);have hnew:(wo.alloc (.cells #[vI iJ (T (2*k)),vI iJ (T (2*k+1))] 209)).cell? ⟨wo.heap.size,1,none⟩=some (vI iJ (T (2*k+1))):=by rw[World.cell?_alloc_at _ _ _ _ rfl];rfl
     have HNw:=zH hnew;clear hT hcc hgd hlen hs t2 tv hnew;generalize T (2*k)=x at *;generalize T (2*k+1)=y at *
     go_wp2_with fail
     refine HP.o.mono ?_;rintro e w5 ⟨rfl,h5,k5⟩;have d1:=(k5.cell (a:=⟨wo.heap.size,1,none⟩) (Or.inr rfl)).trans HNw.o;have H5:=zH h5;have K5:=zH k5;clear h5 k5 HP HNw
     go_wp2_with fail
     refine(HQ.o _ H5.o).mono ?_;rintro e w6 ⟨rfl,h6,k6⟩;have HS:=zH (HBk.o _ h6 (K5.o.trans k6));clear h6 k6 HQ HBk H5 K5 d1
     go_wp2_with fail
     go_roundw
     case rel=>exact⟨k+1,zO,by go_num,HS⟩
     case measure=>exact zM
    ·obtain rfl:k=n:=zO;have HB4:=zH (HB1.o.old hs.o.2);rw[<-kX]at hs;have HS:=hs;clear hs hlt hk
     go_wp2_with (with_reducible refine bC rfl 4 (fun j=>F (5+j)) 44 _ rfl w.heap.size 5 rfl _ (HB4.o.part 5 4 zO) underlying44 rfl Hs4.o ?_)
     go_loopw [50] (fun i wr=>∃j:Nat,j<=4/\i=vI iJ j/\Hid (BySt w1 bw (jA F k T j) wr)) (fun i _=>4-(intOf i).toNat)
     case atStart=>exact⟨0,zO,rfl,HS⟩
     case round=>
      obtain⟨j,hj,rfl,hs⟩:=hrel;obtain⟨wp,rfl⟩:∃V,V=wr:=⟨_,rfl⟩
      clear HS HB4;by_cases hlt:j<4
      ·have i1:(0:Int)<=j:=zO;have i2:(j:Int)<4:=zO;have hat:∀w:World,(Instr.index 44 (.agg (aA 4 (blk fun q=>F (5+q)))) (vI iJ j)).run zP w=.ok (vI iJ (F (5+j))) w:=fun w=>aZ underlying44 underlying3 (fun _=>zK) (fun q=>F (5+q)) j hlt w;obtain⟨s0,s1⟩:=HF.o.hs j hlt;obtain⟨v0,v1⟩:=HF.o.hw j hlt;have hlen:=AC F k T j;have HP:=zH (yH hs.o (F (5+j)) 5 zO s0 zO (kV _ 5 23 zO zO s0 s1 zD));have HQ:=zH (fun wx (h:BySt w1 bw (jA F k T j ++ aK (F (5+j)) 5) wx)=>yH h (F (9+j)) 5 (by rw[List.length_append,cH,hlen];show 12+28*k+10*j+5<=_;omega) v0 zO (kV _ 5 24 zO zO v0 v1 zD));rw[<-iM]at HQ;have HC:=zH (fun(wx:World) (h:Old w1 wx)=>((HB1.o.old h).cell (9+j) zO zO).1);clear hs hlen;generalize F (5+j)=x at *;generalize F (9+j)=y at *
       go_wp2_with fail
       refine HP.o.mono ?_;rintro e w5 ⟨rfl,h5⟩;have d1:=HC.o _ h5.2;have H5:=zH h5;clear h5 HP HC
       go_wp2_with fail
       refine(HQ.o _ H5.o).mono ?_;rintro e w6 ⟨rfl,h6⟩;have HS:=zH h6;clear h6 HQ H5 d1
       go_wp2_with fail
       go_roundw
       case rel=>exact⟨j+1,zO,by go_num,HS⟩
       case measure=>exact zM
      ·obtain rfl:j=4:=zO;have HB5:=zH (HB1.o.old hs.o.2);rw[<-jI]at hs;have HS:=hs;clear hs hlt hj
       go_wp2_with (with_reducible refine bC rfl 16 (fun j=>F (13+j)) 43 _ rfl w.heap.size 13 rfl _ (HB5.o.part 13 16 zO) underlying43 rfl Hs16.o ?_)
       try rw[show ((4:Nat):Int)=4 from rfl]
       go_loopw [66] (fun i wr=>∃j:Nat,j<=16/\i=vI iJ j/\Hid (BySt w1 bw (lU F k T j) wr)) (fun i _=>16-(intOf i).toNat)
       case atStart=>exact⟨0,zO,rfl,HS⟩
       case round=>
        obtain⟨j,hj,rfl,hs⟩:=hrel;obtain⟨wq,rfl⟩:∃V,V=wr:=⟨_,rfl⟩
        clear HS HB5;by_cases hlt:j<16
        ·have i1:(0:Int)<=j:=zO;have i2:(j:Int)<16:=zO;have hat:∀w:World,(Instr.index 43 (.agg (aA 16 (blk fun q=>F (13+q)))) (vI iJ j)).run zP w=.ok (vI iJ (F (13+j))) w:=fun w=>aZ underlying43 underlying2 (fun _=>zK) (fun q=>F (13+q)) j hlt w;obtain⟨m,hm⟩:=zF (j/4);have m0:(0:Int)<=m:=zO;have m1:(m:Int)<4:=zO;have HBd:=zH (fun w=>kZ j m w hlt hm);have hq:=HF.o.hq j hlt;obtain⟨v0,v1⟩:=HF.o.hw m zO;have hlen:=aBy F k T j HF.o.hw hj;have hqs:=bD F k T j;rw[hm]at hq hqs;obtain⟨tv,tb0,tb1⟩:=mT _ _ v0 v1 hq;have HP:=zH (YL hs.o (F (13+j)) (F (9+m)) zO zO zO tv);rw[<-hqs]at HP;have hc:=((HB1.o.old hs.o.2).cell (9+m) zO zO).1;clear hs hlen hqs hq tv hm;generalize F (13+j)=x at *;generalize F (9+m)=y at *
         go_wp2_with fail
         refine(HBd.o _).mono ?_;rintro e w5 ⟨rfl,rfl⟩
         go_wp2_with fail
         refine HP.o.mono ?_;rintro e w6 ⟨rfl,h6⟩;have HS:=zH h6;clear h6 HP HBd hc
         go_wp2_with fail
         go_roundw
         case rel=>exact⟨j+1,zO,by go_num,HS⟩
         case measure=>exact zM
        ·obtain rfl:j=16:=zO;have HE:=zH (RA hs.o size);clear hs hlt hj HF HT1 HB1
         go_wp2_with fail
         refine HE.o.mono ?_;rintro e w7 ⟨h7,hh⟩;have H7:=zH (HO1.o.trans h7);have hsz:=HO1.o.size;have HSZ:=zH hsz;clear hsz;rcases hh with ⟨h0,rfl⟩ | ⟨h0,gg,rfl,hge,hgb⟩
         ·have H0:=zH h0;clear h0 h7 HE
          go_wp2_with fail
          go_ret2
          exact⟨H7.o,.inl ⟨H0.o,rfl⟩⟩
         ·have H0:=zH h0;have HG:=zH hgb;have HGe:=zH hge;clear h0 h7 HE hgb hge
          go_wp2_with fail
          go_ret2
          exact⟨H7.o,.inr ⟨H0.o,gg,rfl,Nat.le_trans HSZ.o HGe.o,HG.o⟩⟩
structure Fr where
 F:nI
 s:Value
 n:Nat
 T:nI
def ToV(X:Nat->Prop)(w:World)(x:Fr):Prop:=∃p cap,x.s=.slice p x.n cap/\x.n<=cap/\cap<=maxLen/\SlF 2 w p x.n x.T/\(0<x.n->∀a,p=some a->¬X a.block)
namespace ToV
variable {X Y:Nat->Prop} {w w':World} {x:Fr}
theorem old(h:ToV X w x)(k:Old w w'):ToV X w' x:=by
 obtain⟨p,cap,h1,h2,h3,h4,h5⟩:=h;exact⟨p,cap,h1,h2,h3,h4.old k,h5⟩
theorem mono(h:ToV X w x)(hY:∀k,k<w.heap.size->Y k->X k):ToV Y w x:=by
 obtain⟨p,cap,h1,h2,h3,h4,h5⟩:=h;refine⟨p,cap,h1,h2,h3,h4,fun hn a ha hY'=>?_⟩;obtain⟨g,o,e1,e2,_⟩:=h4 hn;rw[e1]at ha;cases ha;exact h5 hn _ e1 (hY _ e2 hY')
theorem kept(h:ToV X w x)(k:Kept Y w w')(hY:∀q,q<w.heap.size->¬X q->Y q):ToV X w' x:=by
 obtain⟨p,cap,h1,h2,h3,h4,h5⟩:=h;refine⟨p,cap,h1,h2,h3,fun hn=>?_,h5⟩;obtain⟨g,o,e1,e2,e3⟩:=h4 hn;exact⟨g,o,e1,Nat.lt_of_lt_of_le e2 k.size,fun j hj=>(k.cell (a:=⟨g,o+j,none⟩) (hY g e2 (h5 hn _ e1))).trans (e3 j hj)⟩
theorem none(X:Nat->Prop)(w:World)(F T:nI):ToV X w ⟨F,.slice none 0 0,0,T⟩:=⟨_,0,rfl,Nat.le_refl _,Nat.zero_le _,fun h=>absurd h zS,fun h=>absurd h zS⟩
theorem one(h:ToV X w x):x.s.oneCell'=true:=by
 obtain⟨p,cap,h1,_⟩:=h;rw[h1];rfl
end ToV
def vO(L:Nat->Fr):Nat->Value:=fun q=>aR (L (q/29)).F (L (q/29)).s (q%29)
theorem aFu(L:Nat->Fr)(i k:Nat)(hk:k<29):vO L (i*29+k)=aR (L i).F (L i).s k:=by
 unfold vO;rw[show (i*29+k)/29=i by omega,show (i*29+k)%29=k by omega]
def aCI(L:Nat->Fr)(k:Nat)(x:Fr):Nat->Fr:=fun i=>if i=k then x else L i
theorem rB(L:Nat->Fr)(k:Nat)(x:Fr):aCI L k x k=x:=if_pos rfl
theorem nO(L:Nat->Fr)(k:Nat)(x:Fr){i:Nat}(h:i≠k):aCI L k x i=L i:=if_neg h
theorem SZ(L:Nat->Fr)(k:Nat)(x:Fr):jC (vO L) (k*29) 29 (aR x.F x.s)=vO (aCI L k x):=by
 funext q;unfold jC;by_cases e:k*29<=q/\q<k*29+29
 ·rw[if_pos e];unfold vO;rw[show q/29=k by omega,rB,show q%29=q-k*29 by omega]
 ·rw[if_neg e];unfold vO;rw[nO _ _ _ zO]
def FrsS(X:Nat->Prop)(w:World)(p:Option Addr)(N:Nat)(L:Nat->Fr):Prop:=(0<N->∃g o,p=some ⟨g,o,none⟩/\g<w.heap.size/\∀j,j<29*N->w.cell? ⟨g,o+j,none⟩=some (vO L j))/\∀i,i<N->ToV X w (L i)
namespace FrsS
variable {X Y:Nat->Prop} {w w':World} {p:Option Addr} {N:Nat} {L:Nat->Fr}
theorem old(h:FrsS X w p N L)(k:Old w w'):FrsS X w' p N L:=by
 refine⟨fun hn=>?_,fun i hi=>(h.2 i hi).old k⟩;obtain⟨g,o,e1,e2,e3⟩:=h.1 hn;exact⟨g,o,e1,Nat.lt_of_lt_of_le e2 k.size,fun j hj=>(k.cell (a:=⟨g,o+j,none⟩) e2).trans (e3 j hj)⟩
theorem row(h:FrsS X w p N L)(i:Nat)(hi:i<N):∃g o,p=some ⟨g,o,Option.none⟩/\g<w.heap.size/\∀j,j<29->w.cell? ⟨g,o+i*29+j,Option.none⟩=some (aR (L i).F (L i).s j):=by
 obtain⟨g,o,e1,e2,e3⟩:=h.1 zO;refine⟨g,o,e1,e2,fun j hj=>?_⟩;rw[Nat.add_assoc,e3 (i*29+j) zO,aFu _ _ _ hj]
end FrsS
structure FrsO(X:Nat->Prop)(w:World)(g N:Nat)(L:Nat->Fr):Prop where
 at_:CellsV w g (29*N) (vO L)
 o:¬X g
 tn:∀i,i<N->ToV (fun k=>k=g) w (L i)
namespace FrsO
variable {X Y:Nat->Prop} {w w':World} {g N:Nat} {L:Nat->Fr}
theorem old(h:FrsO X w g N L)(k:Old w w'):FrsO X w' g N L:=⟨h.at_.old k,h.o,fun i hi=>(h.tn i hi).old k⟩
theorem sl(h:FrsO X w g N L)(Y:Nat->Prop)(hY:∀k,k<w.heap.size->Y k->k=g):FrsS Y w (some ⟨g,0,none⟩) N L:=
 ⟨fun _=>⟨g,0,rfl,h.at_.lt,fun j hj=>by rw[Nat.zero_add];exact h.at_.cell j hj⟩,fun i hi=>(h.tn i hi).mono hY⟩
theorem store(h:FrsO X w g N L)(k:Nat)(hk:k<N)(x:Fr)(hx:ToV (fun k=>k=g) w x):FrsO X (w.setCells g (k*29) (aA 29 (aR x.F x.s)).toList) g N (aCI L k x):=by
 have hK:=Kept.setCells (X:=fun q=>q≠g) w (b:=g) (fun e=>e rfl) (k*29) (aA 29 (aR x.F x.s)).toList;refine⟨(h.at_.setCells (k*29) 29 zO _).ext fun j _=>by rw[SZ],h.o,fun i hi=>?_⟩;by_cases e:i=k
 ·subst e;rw[rB];exact hx.kept hK (fun q _ hq=>hq)
 ·rw[nO _ _ _ e];exact(h.tn i hi).kept hK (fun q _ hq=>hq)
end FrsO
def nJ:Fr:=⟨fun _=>0,.slice none 0 0,0,fun _=>0⟩
theorem aDL(N:Nat):madeCells (aA 29 (aR (fun _=>0) (.slice none 0 0))) N=aA N (vO fun _=>nJ):=by
 apply Array.ext_getElem?;intro i;by_cases hi:i<N
 ·rw[bI _ _ i hi];have hm:i%29<29:=Nat.mod_lt _ zO;simp[madeCells,hi,aA,vO,nJ,hm]
 ·rw[Array.getElem?_eq_none (by rw[size_madeCells];omega),Array.getElem?_eq_none (by rw[aB];omega)]
theorem aFy(X:Nat->Prop)(w:World)(N:Nat)(t:TypeId)(hX:¬X w.heap.size):FrsO X (w.alloc (.cells (aA (29*N) (vO fun _=>nJ)) t)) w.heap.size N (fun _=>nJ):=
 ⟨kW (heap_alloc_new _ _),hX,fun i hi=>ToV.none _ _ _ _⟩
structure aDF(U:World)(nb:Nat)(x:Fr)(V:World):Prop where
 lo:U.heap.size<=nb
 at_:CellsV V nb 29 (aR x.F x.s)
 tn:ToV (fun k=>k<U.heap.size) V x
 old:Old U V
theorem CL{V:World}{nb m:Nat}{C:Nat->Value}(h:CellsV V nb m C)(c:Nat->Value):CellsV (V.setCells nb 0 (aA m c).toList) nb m c:=
 (h.setCells 0 m zO c).ext fun j hj=>by unfold jC;rw[if_pos ⟨zO,zO⟩,Nat.sub_zero]
theorem LY{U V:World}{nb:Nat}{x:Fr}{C:Nat->Value}(hn:U.heap.size<=nb)(hc:CellsV V nb 29 C)(ht:ToV (fun k=>k<U.heap.size\/k=nb) V x)(o:Old U V):aDF U nb x (V.setCells nb 0 (aA 29 (aR x.F x.s)).toList):=by
 have hK:=Kept.setCells (X:=fun q=>q≠nb) V (b:=nb) (fun e=>e rfl) 0 (aA 29 (aR x.F x.s)).toList;exact⟨hn,CL hc _,(ht.kept hK (fun q _ hq e=>hq (.inr e))).mono (fun k _ h=>.inl h),o.after (hK.mono fun k hk=>hk) (fun k hk=>zO)⟩
theorem AR(w:World)(z:Array Value)(t:TypeId)(hz:z=aA 29 (aR (fun _=>0) (.slice none 0 0))):CellsV (w.alloc (.cells z t)) w.heap.size 29 (aR (fun _=>0) (.slice none 0 0)):=by
 rw[hz];exact kW (heap_alloc_new _ _)
theorem ZO{U V:World}{x:Fr}(z:Array Value)(t:TypeId)(hz:z=aA 29 (aR (fun _=>0) (.slice none 0 0)))(o:Old U V)(h:ToV (fun k=>k<U.heap.size) V x):aDF U V.heap.size x ((V.alloc (.cells z t)).setCells V.heap.size 0 (aA 29 (aR x.F x.s)).toList):=
 LY o.size (AR V z t hz) ((h.mono (Y:=fun k=>k<U.heap.size\/k=V.heap.size) fun k hk hy=>hy.elim id fun e=>zO).old (Old.alloc V _)) (o.alloc' _)
theorem SU{U V:World}{x:Fr}(z:Array Value)(t:TypeId)(hz:z=aA 29 (aR (fun _=>0) (.slice none 0 0)))(o:Old (U.alloc (.cells z t)) V)(h:ToV (fun k=>k<(U.alloc (.cells z t)).heap.size) V x):aDF U U.heap.size x (V.setCells U.heap.size 0 (aA 29 (aR x.F x.s)).toList):=
 LY (Nat.le_refl _) ((AR U z t hz).old o) (h.mono fun k _ hy=>by rw[World.size_alloc];rcases hy with h | h <;> omega) ((Old.alloc U _).trans o)
theorem lC{P:Program}{ops:Array Oper}{rest:List Oper}{op:Oper}{a:Act}{w:World}{Q:Exit->Act->World->Prop}(hgd:op.guard=none)(c:Nat->Value)(ty:TypeId)(x:Operand)(ho:op.op=.load ty x)
  (b o:Nat) (hx:a.eval x=.pointer (some ⟨b,o,none⟩)) (d:TypeDesc) (hc:∀j,j<29->w.cell? ⟨b,o+j,none⟩=some (c j))
  (hu:P.underlying ty=some d) (hd:d.isRow=true) (hi:(P.info? ty).map (·.size)=some 29) (h:wpList P ops Q rest (a.put op.dst (.agg (aA 29 c))) w):wpList P ops Q (op :: rest) a w:=
 wpList_plain hgd fun _ hK=>wp_load_mid ty x ho b o hx (aA 29 c).toList d (fun j v hv=>by obtain⟨hj,rfl⟩:=iS hv;exact hc j hj) hu hd (by rw[dK];exact hi) (hK _ _ h)
theorem vU{P:Program}{ops:Array Oper}{S:World->Prop}{op:Oper}{a:Act}(c:Nat->Value)(hw:Region.wanted op (yielded ops a.tmps)=true)(ty:TypeId)(x:Operand)(ho:op.op=.load ty x)
  (b o:Nat) (hx:a.eval x=.pointer (some ⟨b,o,none⟩)) (d:TypeDesc) (hS:∀w,S w->∀j,j<29->w.cell? ⟨b,o+j,none⟩=some (c j))
  (hu:P.underlying ty=some d) (hd:d.isRow=true) (hi:(P.info? ty).map (·.size)=some 29):YieldsIf P ops S op (.agg (aA 29 c)) a:=
 yieldsIf_load_mid hw ty x ho b o hx (aA 29 c).toList d (fun w hw' j v hv=>by obtain⟨hj,rfl⟩:=iS hv;exact hS w hw' j hj) hu hd (by rw[dK];exact hi)
theorem oP{P:Program}{ops:Array Oper}{rest:List Oper}{op:Oper}{a:Act}{w:World}{Q:Exit->Act->World->Prop}(hgd:op.guard=none)(c:Nat->Value)(ty:TypeId)(x y:Operand)(ho:op.op=.store ty x y)
  (b o:Nat) (hx:a.eval x=.pointer (some ⟨b,o,none⟩)) (hy:a.eval y=.agg (aA 29 c)) (ht:w.there b o 29) (hi:(P.info? ty).map (·.size)=some 29) (h1:(aA 29 c).all (·.oneCell')=true)
  (h:wpList P ops Q rest (a.put op.dst undef) (w.setCells b o (aA 29 c).toList)):wpList P ops Q (op :: rest) a w:=
 wpList_plain hgd fun _ hK=>wp_store_mid ty x y ho b o (aA 29 c) hx hy (by rw[aB];exact ht) (by rw[aB];exact hi) h1 (hK _ _ h)
def iU(bs:List Int)(i:Nat)(er k lo hi:Int):Int × Nat × Int:=
 if (cZ bs i er k).1<lo\/hi<(cZ bs i er k).1 then(0,(cZ bs i er k).2.1,if (cZ bs i er k).2.2=0 then 4 else(cZ bs i er k).2.2) else cZ bs i er k
theorem QY(b:Nat)(bs:List Int)(i:Nat)(er k lo hi:Int)(w:World)(h:eA w b bs i er):
  Calls zP 151 #[.pointer (some ⟨b,0,none⟩),vI iJ k,vI iJ lo,vI iJ hi] w fun e w'=>e=rJ (vI iJ (iU bs i er k lo hi).1)/\eA w' b bs (iU bs i er k lo hi).2.1 (iU bs i er k lo hi).2.2/\Kept (bH w b) w w':=by
 have hi8:i<=8*bs.length:=by obtain⟨_,_,_,_,_,_,h6⟩:=h;exact h6
 have hr:=wE bs i er k hi8;have HG:=zH (VT b bs i er k w h);unfold iU;generalize cZ bs i er k=g at *;obtain⟨v,j,e2⟩:=g;simp only[]at *;obtain⟨v0,v1,_⟩:=hr;clear h hi8;have HFa:=zH (fun w1 (hg:eA w1 b bs j e2)=>pR b bs j e2 4 w1 hg);obtain⟨e3,he3⟩:=zF ((if e2=0 then(4:Int) else e2));rw[he3]at HFa |-;clear he3;by_cases h1:v<lo
 ·rw[if_pos (Or.inl h1)];go_enter func151,ntmps151
  go_wp2_with fail
  refine HG.o.mono ?_;rintro e w1 ⟨rfl,hg,hk⟩;have HF:=zH (HFa.o w1 hg);have HK:=zH hk;clear hg hk HG
  go_wp2_with fail
  refine HF.o.mono ?_;rintro e w2 ⟨rfl,hg2,hk2⟩;have HF2:=zH hg2;have HK2:=zH (HK.o.trans (hk2.mono fun q hq=>⟨Nat.lt_of_lt_of_le hq.1 HK.o.size,hq.2⟩));clear hg2 hk2 HF HK
  go_wp2_with fail
  go_ret;exact⟨rfl,HF2.o,HK2.o⟩
 ·by_cases h2:hi<v
  ·rw[if_pos (Or.inr h2)];have h1':lo<=v:=zO;clear h1;go_enter func151,ntmps151
   go_wp2_with fail
   refine HG.o.mono ?_;rintro e w1 ⟨rfl,hg,hk⟩;have HF:=zH (HFa.o w1 hg);have HK:=zH hk;clear hg hk HG
   go_wp2_with fail
   refine HF.o.mono ?_;rintro e w2 ⟨rfl,hg2,hk2⟩;have HF2:=zH hg2;have HK2:=zH (HK.o.trans (hk2.mono fun q hq=>⟨Nat.lt_of_lt_of_le hq.1 HK.o.size,hq.2⟩));clear hg2 hk2 HF HK
   go_wp2_with fail
   go_ret;exact⟨rfl,HF2.o,HK2.o⟩
  ·rw[if_neg zO];have h1':lo<=v:=zO;have h2':v<=hi:=zO;clear h1 h2;go_enter func151,ntmps151
   go_wp2_with fail
   refine HG.o.mono ?_;rintro e w1 ⟨rfl,hg,hk⟩;have HF:=zH hg;have HK:=zH hk;clear hg hk HG
   go_wp2_with fail
   go_ret;exact⟨rfl,HF.o,HK.o⟩
def rW(w:World)(b:Nat)(bs:List Int)(er:Int)(L:List Bool):Prop:=
 ∃i,eA w b bs i er/\(er=0->L <+: bY bs/\i=L.length)/\(er=0\/er=2\/er=4)
theorem rW.but{w w':World}{b q0:Nat}{bs:List Int}{er:Int}{L:List Bool}{cs:Array Value}{t:TypeId}{fr:Nat × Nat}(h:rW w b bs er L)(k:Kept (bH w q0) w w')(h0:w.heap[q0]?=some (.cells cs t fr))(h1:t≠5)(h2:t≠304):rW w' b bs er L:=by
 obtain⟨i,h3,h4⟩:=h;exact⟨i,h3.but k h0 h1 h2,h4⟩
theorem rW.old{w w':World}{b:Nat}{bs:List Int}{er:Int}{L:List Bool}(h:rW w b bs er L)(k:Old w w'):rW w' b bs er L:=by
 obtain⟨i,h3,h4⟩:=h;exact⟨i,h3.old k,h4⟩
theorem rW.congr{w:World}{b:Nat}{bs:List Int}{er:Int}{L M:List Bool}(h:rW w b bs er L)(e:L=M):rW w b bs er M:=by subst e;exact h
theorem yQ{w:World}{b:Nat}{bs:List Int}{er:Int}{L:List Bool}{i:Nat}(h1:eA w b bs i er)(h2:er=0->L <+: bY bs/\i=L.length)(h3:er=0\/er=2\/er=4)(k:Nat)(hk:k<=57):
  (er≠0/\cZ bs i er k=(0,i,er))\/(er=0/\8*bs.length<L.length+k/\cZ bs i er k=(0,i,2)) \/
  (er=0/\L.length+k<=8*bs.length/\cZ bs i er k=(eV (cT bs L.length k),L.length+k,0)/\(L ++ cT bs L.length k) <+: bY bs/\(cT bs L.length k).length=k):=by
 by_cases her:er=0
 ·subst her;obtain⟨hp,rfl⟩:=h2 rfl;have hl:=aEw hp;by_cases hs:8*bs.length<L.length+k
  ·refine .inr (.inl ⟨rfl,hs,?_⟩);unfold cZ;rw[if_neg zO,if_neg zS,if_pos zO]
  ·refine .inr (.inr ⟨rfl,zO,?_,aBE hp k zO,uM bs _ _ zO⟩);unfold cZ;rw[if_neg zO,if_neg zS,if_neg zO];rfl
 ·refine .inl ⟨her,?_⟩;unfold cZ;rw[if_neg zO,if_pos her]
theorem uQ{w:World}{b:Nat}{bs:List Int}{er:Int}{L:List Bool}(h:rW w b bs er L)(k:Nat)(lo hi:Int)(hk:k<=57)(h0:0<=hi)(hlo:0<=lo):
  Calls zP 151 #[.pointer (some ⟨b,0,none⟩),vI iJ k,vI iJ lo,vI iJ hi] w fun e w'=>∃v er',e=rJ (vI iJ v)/\Kept (bH w b) w w'/\rW w' b bs er' (L ++ aK v k) /\
   (er'=0->er=0/\lo<=v/\v<=hi)/\(0<=v/\v<=hi)/\(∀v0,er=0->lo<=v0->v0<=hi->v0<pw k->(L ++ aK v0 k) <+: bY bs->er'=0/\v=v0):=by
 obtain⟨i,h1,h2,h3⟩:=h;refine(QY b bs i er k lo hi w h1).mono ?_;rintro e w' ⟨rfl,hr,hkp⟩;refine⟨(iU bs i er k lo hi).1,(iU bs i er k lo hi).2.2,rfl,hkp,?_⟩;rcases yQ h1 h2 h3 k hk with ⟨a1,a2⟩ | ⟨a1,a2,a3⟩ | ⟨a1,a2,a3,a4,a5⟩
 ·have e:iU bs i er k lo hi=(0,i,er):=by
   unfold iU;rw[a2];dsimp only;split
   ·first | rfl | rw[if_neg a1]
   ·rfl
  rw[e]at hr |-;exact⟨⟨i,hr,fun h=>absurd h a1,h3⟩,fun h=>absurd h a1,⟨Int.le_refl _,h0⟩,fun v0 h=>absurd h a1⟩
 ·have e:iU bs i er k lo hi=(0,i,2):=by
   unfold iU;rw[a3];dsimp only;split
   ·rw[if_neg zO]
   ·rfl
  rw[e]at hr |-;refine⟨⟨i,hr,fun h=>by dsimp only at h;omega,.inr (.inl rfl)⟩,fun h=>by dsimp only at h;omega,⟨Int.le_refl _,h0⟩,fun v0 _ _ _ _ hp=>?_⟩;have:=(pP hp).2;rw[cH,Int.toNat_natCast]at this;omega
 ·have hn0:=(gA (cT bs L.length k)).1;by_cases hb:eV (cT bs L.length k)<lo\/hi<eV (cT bs L.length k)
  ·have e:iU bs i er k lo hi=(0,L.length+k,4):=by
    unfold iU;rw[a3];dsimp only;rw[if_pos hb,if_pos rfl]
   rw[e]at hr |-;refine⟨⟨_,hr,fun h=>by dsimp only at h;omega,.inr (.inr rfl)⟩,fun h=>by dsimp only at h;omega,⟨Int.le_refl _,h0⟩,fun v0 _ l0 l1 l2 hp=>?_⟩;have hv:=(pP hp).1;rw[cH,Int.toNat_natCast]at hv;rw[hv]at hb;have:eV (aK v0 k)=v0:=by unfold aK;rw[if_neg zO,Int.toNat_natCast];exact jH _ _ zO l2
   rw[this]at hb;omega
  ·have e:iU bs i er k lo hi=(eV (cT bs L.length k),L.length+k,0):=by
    unfold iU;rw[a3];dsimp only;rw[if_neg hb]
   rw[e]at hr |-;dsimp only at hr |-;refine⟨⟨_,hr,fun _=>?_,.inl rfl⟩,fun _=>⟨a1,zO,zO⟩,⟨hn0,zO⟩,fun v0 _ l0 l1 l2 hp=>⟨rfl,?_⟩⟩
   ·rw[BU _ k a5];exact⟨a4,by rw[List.length_append,a5]⟩
   ·have hv:=(pP hp).1;rw[cH,Int.toNat_natCast]at hv;rw[hv];unfold aK;rw[if_neg zO,Int.toNat_natCast];exact jH _ _ zO l2
theorem OY{w:World}{b:Nat}{bs:List Int}{er:Int}{L:List Bool}(h:rW w b bs er L)(k:Nat)(hk:k<=57):
  Calls zP 153 #[.pointer (some ⟨b,0,none⟩),vI iJ k] w fun e w'=>∃v er',e=rJ (vI iJ v)/\Kept (bH w b) w w'/\rW w' b bs er' (L ++ aK v k) /\
   (er'=0->er=0)/\eK v k=true/\(∀v0,er=0->eC true v0 k=true->(L ++ aK v0 k) <+: bY bs->er'=0/\v=v0):=by
 obtain⟨i,h1,h2,h3⟩:=h;refine(PH b bs i er k w zO h1).mono ?_;rintro e w' ⟨rfl,hr,hkp⟩;refine⟨sX bs i er k,(cZ bs i er k).2.2,rfl,hkp,?_⟩;have hz:eK 0 (k:Int)=true:=by
  by_cases h0:k=0
  ·subst h0;rfl
  ·rw[fD _ _ zO zO,decide_eq_true_eq];have:=fI ((k:Int)-1).toNat
   omega
 rcases yQ h1 h2 h3 k hk with ⟨a1,a2⟩ | ⟨a1,a2,a3⟩ | ⟨a1,a2,a3,a4,a5⟩
 ·have e:sX bs i er k=0:=by unfold sX;rw[a2];dsimp only;rw[if_neg zS]
  rw[e];rw[a2]at hr |-;exact⟨⟨i,hr,fun h=>absurd h a1,h3⟩,fun h=>absurd h a1,hz,fun v0 h=>absurd h a1⟩
 ·have e:sX bs i er k=0:=by unfold sX;rw[a3];dsimp only;rw[if_neg zS]
  rw[e];rw[a3]at hr |-;refine⟨⟨i,hr,fun h=>by dsimp only at h;omega,.inr (.inl rfl)⟩,fun h=>by dsimp only at h;omega,hz,fun v0 _ _ hp=>?_⟩;have:=(pP hp).2;rw[cH,Int.toNat_natCast]at this;omega
 ·have e:sX bs i er k=VI (cT bs L.length k) k:=by
   unfold sX VI;rw[a3];dsimp only;rw[Int.toNat_natCast];have:(0<(k:Int)/\eV (cT bs L.length k)/2 ^ (k-1)=1)↔(0<k/\eV (cT bs L.length k)/2 ^ (k-1)=1):=⟨fun h=>⟨zO,h.2⟩,fun h=>⟨zO,h.2⟩⟩
   split
   ·next hh=>rw[if_pos (this.1 hh)]
   ·next hh=>rw[if_neg (fun h=>hh (this.2 h))]
  rw[e];rw[a3]at hr |-;dsimp only at hr |-;refine⟨⟨_,hr,fun _=>?_,.inl rfl⟩,fun _=>a1,aBK _ k a5 hk,fun v0 _ hv0 hp=>⟨rfl,?_⟩⟩
  ·rw[QV _ k a5];exact⟨a4,by rw[List.length_append,a5]⟩
  ·have hv:=(pP hp).1;rw[cH,Int.toNat_natCast]at hv;rw[hv];have:=ZE v0 k hv0;unfold VI;rw[Int.toNat_natCast]at this;have hiff:(0<(k:Int)/\eV (aK v0 k)/2 ^ (k-1)=1)↔(0<k/\eV (aK v0 k)/2 ^ (k-1)=1):=⟨fun h=>⟨zO,h.2⟩,fun h=>⟨zO,h.2⟩⟩
   split
   ·next hh=>rwa [if_pos (hiff.2 hh)]at this
   ·next hh=>rwa [if_neg (fun h=>hh (hiff.1 h))]at this
def gK(T:nI)(k:Nat):List Bool:=(List.range k).flatMap fun j=>aK (T (2*j)) 4 ++ aK (T (2*j+1)) 24
theorem ON(T:nI):gK T 0 = []:=rfl
theorem jX(T:nI)(k:Nat):gK T (k+1)=gK T k ++ aK (T (2*k)) 4 ++ aK (T (2*k+1)) 24:=by simp[gK,List.range_succ]
theorem oA{T U:nI}{k:Nat}(h:∀j,j<2*k->T j=U j):gK T k=gK U k:=by
 induction k with
 | zero=>rfl
 | succ k ih=>rw[jX,jX,ih fun j hj=>h j zO,h (2*k) zO,h (2*k+1) zO]
theorem SB(T:nI)(k n:Nat)(h:k<=n):gK T k <+: gK T n:=by
 induction h with
 | refl=>exact List.prefix_refl _
 | step _ ih=>rw[jX,List.append_assoc];exact ih.trans (List.prefix_append _ _)
theorem rW.grow{w w':World}{X:Nat->Prop}{b n:Nat}{bs:List Int}{er:Int}{L:List Bool}{v:Value}{xs:List Value}(h:rW w b bs er L)(ho:ownS X w 209 2 v n xs)(k:Kept (fun q=>q<w.heap.size/\v.ownBlock≠some q) w w'):rW w' b bs er L:=by
 rcases ho.1.2 with ⟨hv,_⟩ | ⟨g,cap,cur,hv,_,hh,_⟩
 ·exact h.old (k.mono fun q hq=>⟨hq,by rw[hv];simp[Value.ownBlock]⟩)
 ·refine h.but (q0:=g) (k.mono fun q hq=>⟨hq.1,?_⟩) hh zD zD;rw[hv];have:=hq.2;simp[Value.ownBlock];omega
structure RT(w0:World)(b:Nat)(bs:List Int)(er0:Int)(L:List Bool)(n:Nat)(k:Nat)(v:Value)(T:nI)(er:Int)(wr:World):Prop where
 rd:rW wr b bs er (L ++ aK n 2 ++ gK T k)
 own:ownS (fun q=>q<w0.heap.size) wr 209 2 v k (eH (2*k) T)
 kept:Kept (bH w0 b) w0 wr
 bd:∀j,j<k->0<=T (2*j)/\T (2*j)<=15
 good:er=0->er0=0/\∀j,j<k->eK (T (2*j+1)) 24=true/\(0<j->T (2*(j-1))<T (2*j))
 back:∀n0 T0,er0=0->jP n0 T0->(L ++ aK n0 2 ++ gK T0 n0) <+: bY bs->er=0/\n=n0/\∀j,j<2*k->T j=T0 j
theorem RT.slice{w0:World}{b:Nat}{bs:List Int}{er0:Int}{L:List Bool}{n k:Nat}{v:Value}{T:nI}{er:Int}{wr:World}(h:RT w0 b bs er0 L n k v T er wr):∃p cap,v=.slice p k cap/\k<=cap/\cap<=maxLen/\SlF 2 wr p k T:=by
 rcases h.own.shape with ⟨hv,h0⟩ | ⟨g,cap,hv,_,hg,hk,hc,hcell⟩
 ·exact⟨none,0,by rw[hv,h0],zO,Nat.zero_le _,fun h=>zO⟩
 ·refine⟨some ⟨g,0,none⟩,cap,hv,hk,hc,fun _=>⟨g,0,rfl,hg,fun j hj=>?_⟩⟩;rw[Nat.zero_add];exact hcell j _ (uD _ _ _ hj)
def jR(T:nI)(k:Nat)(x y:Int):nI:=fun j=>if j=2*k then x else if j=2*k+1 then y else T j
theorem VO(T:nI)(k:Nat)(x y:Int):∀j,j<2*k->jR T k x y j=T j:=fun j hj=>by
 unfold jR;rw[if_neg zO,if_neg zO]
theorem YQ(T:nI)(k:Nat)(x y:Int):jR T k x y (2*k)=x:=by unfold jR;rw[if_pos rfl]
theorem YI(T:nI)(k:Nat)(x y:Int):jR T k x y (2*k+1)=y:=by unfold jR;rw[if_neg zO,if_pos rfl]
theorem RT.next{w0:World}{b:Nat}{bs:List Int}{er0:Int}{L:List Bool}{n k:Nat}{v:Value}{T:nI}{er er1 er2:Int}{wr w1 w2 w3:World}{x y:Int}{v':Value}{o:Obj}(h:RT w0 b bs er0 L n k v T er wr)(hk:k<n)(hn2:n<=2)
  (k1:Kept (bH wr b) wr w1) (e1:er1=0->er=0/\fW k T<=x/\x<=15) (bx:0<=x/\x<=15) (c1:∀v0,er=0->fW k T<=v0->v0<=15->v0<pw 4->(L ++ aK n 2 ++ gK T k ++ aK v0 4) <+: bY bs->er1=0/\x=v0)
  (k2:Kept (bH w1 b) w1 w2) (r2:rW w2 b bs er2 (L ++ aK n 2 ++ gK T k ++ aK x 4 ++ aK y 24)) (e2:er2=0->er1=0) (fy:eK y 24=true) (c2:∀v0,er1=0->eC true v0 24=true->(L ++ aK n 2 ++ gK T k ++ aK x 4 ++ aK v0 24) <+: bY bs->er2=0/\y=v0)
  (ho:ownS (fun q=>q<w2.heap.size/\v.ownBlock≠some q) w3 209 2 v' (k+1) (eH (2*k) T ++ [vI iJ x,vI iJ y])) (k3:Kept (fun q=>q<w2.heap.size/\v.ownBlock≠some q) (w2.alloc o) w3) (hv':∀q,v'.ownBlock=some q->v.ownBlock=some q\/(w2.alloc o).heap.size<=q):
  RT w0 b bs er0 L n (k+1) v' (jR T k x y) er2 w3:=by
 have hlo:=VO T k x y;have hx:=YQ T k x y;have hy:=YI T k x y;have s0:=h.kept.size;have s1:=k1.size;have s2:=k2.size;have hownlt:=h.own.lt;have hb:∀q,v.ownBlock=some q->q≠b:=by
  intro q hq;obtain⟨i,hr,_⟩:=h.rd;rcases h.own.1.2 with ⟨hv,_⟩ | ⟨g,cap,cur,hv,_,hh,_⟩
  ·rw[hv]at hq;cases hq
  ·have:g=q:=by rw[hv]at hq;simpa[Value.ownBlock]using hq
   subst this;exact hr.ne hh zD
 have own2:ownS (fun q=>q<w0.heap.size) w2 209 2 v k (eH (2*k) T):=
  (h.own.kept k1 fun q hq=>⟨hownlt q hq,hb q hq⟩).kept k2 fun q hq=>⟨Nat.lt_of_lt_of_le (hownlt q hq) s1,hb q hq⟩
 have k3':Kept (fun q=>q<w2.heap.size/\v.ownBlock≠some q) w2 w3:=(Kept.alloc w2 o fun q hq=>hq.1).trans k3;have hE:gK (jR T k x y) (k+1)=gK T k ++ aK x 4 ++ aK y 24:=by rw[jX,oA hlo,hx,hy]
 have hnx:fW k (jR T k x y)=fW k T:=by
  unfold fW;split
  ·rfl
  ·rw[hlo _ zO]
 refine⟨?_,?_,?_,?_,?_,?_⟩
 ·refine(r2.grow own2 k3').congr ?_;rw[hE];simp only[List.append_assoc]
 ·rw[DB,hx,hy,show eH (2*k) (jR T k x y)=eH (2*k) T from aBt _ _ _ hlo];refine ho.mono fun q hq hlt=>?_;rcases hv' q hq with h1 | h1
  ·exact h.own.2 q h1 hlt
  ·simp at h1;omega
 ·refine h.kept.trans ((k1.mono fun q hq=>⟨Nat.lt_of_lt_of_le hq.1 s0,hq.2⟩).trans ((k2.mono fun q hq=>⟨Nat.lt_of_lt_of_le hq.1 (Nat.le_trans s0 s1),hq.2⟩).trans (k3'.mono fun q hq=>⟨Nat.lt_of_lt_of_le hq.1 (Nat.le_trans s0 (Nat.le_trans s1 s2)),fun e=>h.own.2 q e hq.1⟩)))
 ·intro j hj;rcases Nat.lt_succ_iff_lt_or_eq.1 hj with h1 | rfl
  ·rw[hlo _ zO];exact h.bd j h1
  ·rw[hx];exact bx
 ·intro h2;obtain⟨a1,a2,a3⟩:=e1 (e2 h2);obtain⟨g1,g2⟩:=h.good a1;refine⟨g1,fun j hj=>?_⟩;rcases Nat.lt_succ_iff_lt_or_eq.1 hj with h1 | rfl
  ·rw[hlo (2*j+1) zO,hlo (2*j) zO];refine⟨(g2 j h1).1,fun h0=>?_⟩;rw[hlo (2*(j-1)) zO];exact(g2 j h1).2 h0
  ·rw[hx,hy];refine⟨fy,fun h0=>?_⟩;rw[hlo (2*(j-1)) zO];unfold fW at a2;rw[if_neg zO]at a2;omega
 ·intro n0 T0 h0 hP hp;obtain⟨b1,b2,b3⟩:=h.back n0 T0 h0 hP hp;subst b2;have ht:=hP.2 k hk;have hpre:(L ++ aK n 2 ++ gK T k ++ aK (T0 (2*k)) 4 ++ aK (T0 (2*k+1)) 24) <+: bY bs:=by
   refine List.IsPrefix.trans ?_ hp;rw[oA b3];obtain⟨R,hR⟩:=SB T0 (k+1) n zO;rw[<-hR,jX];exact⟨R,by simp only[List.append_assoc]⟩
  have hnx2:fW k T<=T0 (2*k):=by
   unfold fW;split
   ·omega
   ·have:=ht.2.2.2 zO;rw[b3 _ zO];omega
  obtain⟨d1,d2⟩:=c1 (T0 (2*k)) b1 hnx2 ht.2.1 (by have:pw 4=16:=rfl;omega) (AU hpre);subst d2;obtain⟨d3,d4⟩:=c2 (T0 (2*k+1)) d1 (mT _ 24 zO zO ht.2.2.1).1 hpre;subst d4;refine⟨d3,rfl,fun j hj=>?_⟩;by_cases j1:j<2*k
  ·rw[hlo j j1];exact b3 j j1
  ·by_cases j2:j=2*k
   ·rw[j2,hx]
   ·rw[show j=2*k+1 by omega,hy]
def aEj(w:World)(b:Nat)(bs:List Int)(er:Int)(L:List Bool)(k:Int)(p:Int)(lo hi:Int)(e:Ending)(w':World):Prop:=
 ∃v er',e=rJ (vI iJ v)/\Kept (bH w b) w w'/\rW w' b bs er' (L ++ aK v k) /\
   (er'=0->er=0/\lo<=v/\v<=hi)/\(0<=v/\v<=hi)/\(∀v0,er=0->lo<=v0->v0<=hi->v0<p->(L ++ aK v0 k) <+: bY bs->er'=0/\v=v0)
theorem aBJ{w:World}{b:Nat}{bs:List Int}{er:Int}{L:List Bool}(h:rW w b bs er L)(lo hi:Int)(h0:0<=hi)(hlo:0<=lo):
  Calls zP 151 #[.pointer (some ⟨b,0,none⟩),vI iJ 2,vI iJ lo,vI iJ hi] w (aEj w b bs er L 2 4 lo hi):=uQ h 2 lo hi zO h0 hlo
theorem aIb{w:World}{b:Nat}{bs:List Int}{er:Int}{L:List Bool}(h:rW w b bs er L)(lo hi:Int)(h0:0<=hi)(hlo:0<=lo):
  Calls zP 151 #[.pointer (some ⟨b,0,none⟩),vI iJ 4,vI iJ lo,vI iJ hi] w (aEj w b bs er L 4 16 lo hi):=uQ h 4 lo hi zO h0 hlo
theorem aGD{w:World}{b:Nat}{bs:List Int}{er:Int}{L:List Bool}(h:rW w b bs er L)(lo hi:Int)(h0:0<=hi)(hlo:0<=lo):
  Calls zP 151 #[.pointer (some ⟨b,0,none⟩),vI iJ 5,vI iJ lo,vI iJ hi] w (aEj w b bs er L 5 32 lo hi):=uQ h 5 lo hi zO h0 hlo
def aIG(w:World)(b:Nat)(bs:List Int)(er:Int)(L:List Bool)(k:Int)(e:Ending)(w':World):Prop:=
 ∃v er',e=rJ (vI iJ v)/\Kept (bH w b) w w'/\rW w' b bs er' (L ++ aK v k) /\
   (er'=0->er=0)/\eK v k=true/\(∀v0,er=0->eC true v0 k=true->(L ++ aK v0 k) <+: bY bs->er'=0/\v=v0)
theorem aIo{w:World}{b:Nat}{bs:List Int}{er:Int}{L:List Bool}(h:rW w b bs er L):
  Calls zP 153 #[.pointer (some ⟨b,0,none⟩),vI iJ 24] w (aIG w b bs er L 24):=OY h 24 zO
theorem EN{w:World}{b:Nat}{bs:List Int}{er:Int}{L:List Bool}(h:rW w b bs er L):
  Calls zP 152 #[.pointer (some ⟨b,0,none⟩)] w fun e w'=>∃n p cap T er',e=rJ (.slice p n cap)/\n<=2/\RT w b bs er L n n (.slice p n cap) T er' w':=by
 obtain⟨i0,hi,hz0,hz1,hz2⟩:=info_parts Tryz.info_tone;have HW:=zH (aBJ h 0 2 zO zO);clear h;go_enter func152,ntmps152
 go_wp2_with fail
 refine HW.o.mono ?_;rintro e w1 ⟨v,er1,rfl,k1,r1,e1,bv,c1⟩;obtain⟨n,rfl⟩:=Int.eq_ofNat_of_zero_le bv.1;have n2:n<=2:=zO;have hst:RT w b bs er L n 0 (.slice none 0 0) (fun _=>0) er1 w1:=by
  refine⟨by rw[ON,List.append_nil];exact r1,ownS.nil _ _ _ _,k1,fun j hj=>zO,fun h0=>⟨(e1 h0).1,fun j hj=>zO⟩,fun n0 T0 h0 hP hp=>?_⟩;have hp2:=hP.1;obtain⟨d1,d2⟩:=c1 n0 h0 zO zO zO (AU hp);exact⟨d1,zO,fun j hj=>zO⟩
 have HST:=zH hst;clear k1 r1 e1 bv c1 hst HW
 go_wp2_with fail
 go_loopw [3,7] (fun l i wr=>∃k:Nat,k<=n/\i=vI iJ k/\Hid (∃T er',RT w b bs er L n k l T er' wr)) (fun _ i _=>n-(intOf i).toNat)
 case atStart=>exact⟨0,zO,rfl,⟨_,_,HST.o⟩⟩
 case round=>
  obtain⟨k,hk,rfl,hs⟩:=hrel;obtain⟨wo,rfl⟩:∃V,V=wr:=⟨_,rfl⟩
  clear HST;by_cases hlt:k<n
  ·obtain⟨T,er2,hrt⟩:=hs.o;obtain⟨p,cap,rfl,hkc,hcm,hsl⟩:=hrt.slice;have hcm':cap<=9223372036854775807:=by unfold maxLen at hcm;omega
   have hnb:0<=fW k T:=by
    unfold fW;split
    ·omega
    ·have:=(hrt.bd (k-1) zO).1;omega
   have HNp:=zH (rZ p k cap T wo hsl (fun h0=>by have:=hrt.bd (k-1) zO;omega) zO);have HW:=zH (aIb hrt.rd (fW k T) 15 zO hnb);have HRT:=zH hrt;clear hs hrt hsl hnb hcm
   go_wp2_with fail
   refine HNp.o.mono ?_;rintro e w2 ⟨rfl,rfl⟩
   go_wp2_with fail
   refine HW.o.mono ?_;rintro e w3 ⟨x,er3,rfl,k3,r3,e3,bx,c3⟩;have HSg:=zH (aIo r3);have K3:=zH k3;have E3:=zH e3;have C3:=zH c3;have BX:=zH bx;clear k3 r3 e3 c3 bx HW HNp
   go_wp2_with fail
   refine HSg.o.mono ?_;rintro e w4 ⟨y,er4,rfl,k4,r4,e4,fy,c4⟩;have HN:=zH (fun v' w5 o ho k5 hv'=>HRT.o.next (w3:=w5) (v':=v') (o:=o) hlt n2 K3.o E3.o BX.o C3.o k4 r4 e4 fy c4 ho k5 hv');have hown:ownS (fun q=>q<w4.heap.size/\(Value.slice p k cap).ownBlock≠some q) w4 209 2 (.slice p k cap) k (eH (2*k) T):=by
    have h0:=HRT.o.own;have hb:∀q,(Value.slice p k cap).ownBlock=some q->q≠b:=by
     intro q hq;obtain⟨i,hr,_⟩:=HRT.o.rd;rcases h0.1.2 with ⟨hv,_⟩ | ⟨g,cap',cur,hv,_,hh,_⟩
     ·rw[hv]at hq;cases hq
     ·have:g=q:=by rw[hv]at hq;simpa[Value.ownBlock]using hq
      subst this;exact hr.ne hh zD
    have h1:=(h0.kept K3.o fun q hq=>⟨h0.lt q hq,hb q hq⟩).kept k4 fun q hq=>⟨Nat.lt_of_lt_of_le (h0.lt q hq) K3.o.size,hb q hq⟩
    exact h1.mono fun q hq hh=>hh.2 hq
   have HXA:Hid (∀(o:Obj) (q:Nat),q<w4.heap.size/\(Value.slice p k cap).ownBlock≠some q->q<(w4.alloc o).heap.size):=zH fun o q hq=>by simp;omega
   have hk2:k<=2:=zO;clear k4 r4 e4 fy c4 HSg K3 E3 C3 BX HRT
   go_wp2_with ((at_builtin;refine pA _ rfl _ _ 96 rfl (fun q=>q<w4.heap.size/\(Value.slice p k cap).ownBlock≠some q) 209 i0 (.agg #[vI iJ 0,vI iJ 0]) 2 16 underlying96 hi hz0 hz1 hz2 rfl zD _ _ _ rfl (hown.old (Old.alloc _ _)) ⟨_,0,none⟩ 1 1 [vI iJ x,vI iJ y] rfl rfl (PG _ _ _ _) (wP _ _) (by unfold maxLen;omega) zO (HXA.o _) ?_;intro v' w5 hown5 hk5 hv5;have hn5:=zH (HN.o v' w5 _ hown5 hk5 hv5);clear hown hown5 hk5 hv5 HN))
   go_roundw
   case rel=>exact⟨k+1,zO,by go_num,⟨_,_,hn5.o⟩⟩
   case measure=>exact zM
  ·obtain rfl:k=n:=zO;obtain⟨T,er2,hrt⟩:=hs.o;obtain⟨p,cap,rfl,_,_,_⟩:=hrt.slice;have HRT:=zH hrt;clear hs hrt
   go_wp2_with fail
   go_ret;exact⟨k,p,cap,T,er2,rfl,n2,HRT.o⟩
theorem oC{F G:nI}{k:Nat}(h:∀j,j<k->F j=G j):kJ F k=kJ G k:=by
 induction k with
 | zero=>rw[jJ,jJ]
 | succ k ih=>rw[jN,jN,ih fun j hj=>h j zO,h k zO]
theorem lP(F:nI)(n:Nat)(T:nI)(k:Nat):rN F n T k=kJ F 4 ++ aK n 2 ++ gK T k:=rfl
theorem RM{F G:nI}{n:Nat}{T U:nI}{k:Nat}(h:∀j,j<4->F j=G j)(hT:∀j,j<2*k->T j=U j):rN F n T k=rN G n U k:=by
 rw[lP,lP,oC h,oA hT]
theorem lA{F G:nI}{n:Nat}{T U:nI}{k:Nat}(h:∀j,j<4->F j=G j)(hT:∀j,j<2*n->T j=U j)(hS:∀j,j<k->F (5+j)=G (5+j)/\F (9+j)=G (9+j)):jA F n T k=jA G n U k:=by
 induction k with
 | zero=>rw[kX,kX,RM h hT]
 | succ k ih=>rw[iM,iM,ih fun j hj=>hS j zO,(hS k zO).1,(hS k zO).2]
theorem sO{F G:nI}{n:Nat}{T U:nI}{k:Nat}(h:∀j,j<4->F j=G j)(hT:∀j,j<2*n->T j=U j)(hS:∀j,j<4->F (5+j)=G (5+j)/\F (9+j)=G (9+j))(hQ:∀j,j<k->F (13+j)=G (13+j))(hk:k<=16):lU F n T k=lU G n U k:=by
 induction k with
 | zero=>rw[jI,jI,lA h hT hS]
 | succ k ih=>rw[bD,bD,ih (fun j hj=>hQ j zO) zO,hQ k zO,(hS (k/4) zO).2]
theorem yZ{f:Nat->List Bool}(hs:∀k,∃R,f (k+1)=f k ++ R){k m:Nat}(h:k<=m):f k <+: f m:=by
 induction h with
 | refl=>exact List.prefix_refl _
 | step _ ih=>obtain⟨R,hR⟩:=hs _;rw[hR];exact ih.trans (List.prefix_append _ _)
theorem MU(F:nI)(n:Nat)(T:nI){k:Nat}(h:k<=16):lU F n T k <+: enc F n T:=yZ (fun k=>⟨_,bD F n T k⟩) h
theorem BC(F:nI)(n:Nat)(T:nI){k:Nat}(h:k<=4):jA F n T k <+: enc F n T:=by
 have h1:jA F n T k <+: jA F n T 4:=yZ (f:=jA F n T) (fun k=>⟨_,by rw[iM,List.append_assoc]⟩) h;rw[<-jI]at h1;exact h1.trans (MU F n T zO)
theorem LJ(F:nI)(n:Nat)(T:nI):rN F n T n <+: enc F n T:=by
 have:=BC F n T (k:=0) zO
 rwa [kX]at this
theorem CZ(F:nI)(n:Nat)(T:nI){k:Nat}(h:k<=4):kJ F k <+: enc F n T:=by
 have h1:kJ F k <+: kJ F 4:=yZ (fun k=>⟨_,jN F k⟩) h;have h2:kJ F 4 <+: rN F n T n:=by rw[lP,List.append_assoc];exact List.prefix_append _ _
 exact(h1.trans h2).trans (LJ F n T)
structure RS(w:World)(rb fb b:Nat)(z:Array Value)(bs:List Int)(L:List Bool)(F:nI)(s:Value)(n:Nat)(T:nI)(A:Prop)(C:(nI)->Nat->(nI)->Prop)(er:Int)(wr:World):Prop where
 rd:rW wr b bs er L
 fr:FrB 98 wr fb F s
 res:wr.heap[rb]?=some (.cells z 98 (0,0))
 own:ownS (fun q=>q<w.heap.size) wr 209 2 s n (eH (2*n) T)
 old:Old w wr
 nrb:w.heap.size<=rb
 nfb:w.heap.size<=fb
 nb:w.heap.size<=b
 ne:rb≠fb
 wb:∀j,j<4->0<=F (9+j)/\F (9+j)<=24
 good:er=0->A
 back:∀F0 n0 T0,mC F0 n0 T0->enc F0 n0 T0 <+: bY bs->er=0/\C F0 n0 T0
namespace RS
variable {w:World} {rb fb b:Nat} {z:Array Value} {bs:List Int} {L L1:List Bool} {F:nI} {s:Value} {n:Nat} {T:nI} {A A1:Prop} {C C1:(nI)->Nat->(nI)->Prop} {er er1:Int} {wr w1:World}
theorem fne(h:RS w rb fb b z bs L F s n T A C er wr):fb≠b:=by obtain⟨i,hr,_⟩:=h.rd;exact hr.ne h.fr zD
theorem rne(h:RS w rb fb b z bs L F s n T A C er wr):rb≠b:=by obtain⟨i,hr,_⟩:=h.rd;exact hr.ne h.res zD
theorem own_ne(h:RS w rb fb b z bs L F s n T A C er wr):∀q,s.ownBlock=some q->q≠b/\q≠fb:=by
 intro q hq;obtain⟨i,hr,_⟩:=h.rd;rcases h.own.1.2 with ⟨hv,_⟩ | ⟨g,cap,cur,hv,_,hh,_⟩
 ·rw[hv]at hq;cases hq
 ·have:g=q:=by rw[hv]at hq;simpa[Value.ownBlock]using hq
  subst this;refine⟨hr.ne hh zD,fun e=>?_⟩;subst e;have:=h.fr;unfold FrB at this;rw[hh]at this;simp only[Option.some.injEq,Obj.cells.injEq]at this;exact absurd this.2.1 zD
theorem mv(h:RS w rb fb b z bs L F s n T A C er wr)(k1:Kept (bH wr b) wr w1)(r1:rW w1 b bs er1 L1)(hA:er1=0->er=0/\(A->A1))
  (hC:∀F0 n0 T0,mC F0 n0 T0->enc F0 n0 T0 <+: bY bs->er=0->C F0 n0 T0->er1=0/\C1 F0 n0 T0):RS w rb fb b z bs L1 F s n T A1 C1 er1 w1 where
 rd:=r1
 fr:=h.fr.kept k1 ⟨lt_of_block h.fr,h.fne⟩
 res:=(k1.block rb ⟨lt_of_block h.res,h.rne⟩).trans h.res
 own:=h.own.kept k1 fun q hq=>⟨h.own.lt q hq,(h.own_ne q hq).1⟩
 old:=Kept.trans h.old (k1.mono fun q hq=>⟨Nat.lt_of_lt_of_le hq h.old.size,fun e=>by have:=h.nb;omega⟩)
 nrb:=h.nrb
 nfb:=h.nfb
 nb:=h.nb
 ne:=h.ne
 wb:=h.wb
 good:=fun h0=>(hA h0).2 (h.good (hA h0).1)
 back:=fun F0 n0 T0 hP hp=>hC F0 n0 T0 hP hp (h.back F0 n0 T0 hP hp).1 (h.back F0 n0 T0 hP hp).2
theorem st(h:RS w rb fb b z bs L F s n T A C er wr)(j:Nat)(hj:j<29)(h4:j≠4)(v:Int)(hv:9<=j->j<13->0<=v/\v<=24)(hL:L=L1)(hA:A->A1)(hC:∀F0 n0 T0,mC F0 n0 T0->C F0 n0 T0->C1 F0 n0 T0):
  RS w rb fb b z bs L1 (fun k=>if k=j then v else F k) s n T A1 C1 er (wr.setCell ⟨fb,j,none⟩ (vI iJ v)):=by
 have hk:Kept (bH wr fb) wr (wr.setCell ⟨fb,j,none⟩ (vI iJ v)):=Kept.setCell wr (a:=⟨fb,j,none⟩) (fun h=>h.2 rfl) _
 exact {
  rd:=(h.rd.but hk h.fr zD zD).congr hL
  fr:=h.fr.set j hj h4 v
  res:=(hk.block rb ⟨lt_of_block h.res,h.ne⟩).trans h.res
  own:=h.own.kept hk fun q hq=>⟨h.own.lt q hq,(h.own_ne q hq).2⟩
  old:=Kept.trans h.old (hk.mono fun q hq=>⟨Nat.lt_of_lt_of_le hq h.old.size,fun e=>by have:=h.nfb;omega⟩)
  nrb:=h.nrb
  nfb:=h.nfb
  nb:=h.nb
  ne:=h.ne
  wb:=fun q hq=>by
   split
   ·exact hv zO zO
   ·exact h.wb q hq
  good:=fun h0=>hA (h.good h0)
  back:=fun F0 n0 T0 hP hp=>⟨(h.back F0 n0 T0 hP hp).1,hC F0 n0 T0 hP (h.back F0 n0 T0 hP hp).2⟩ }
end RS
def GA(F:nI)(k:Nat):Prop:=∀j,j<k->0<=F j/\F j<=3
def GC(F:nI)(k:Nat)(F0:nI):Prop:=∀j,j<k->F j=F0 j
def SA(F:nI)(k:Nat):Prop:=∀j,j<k->(0<=F (5+j)/\F (5+j)<=23)/\(0<=F (9+j)/\F (9+j)<=24)
def SC(F:nI)(k:Nat)(F0:nI):Prop:=∀j,j<k->F (5+j)=F0 (5+j)/\F (9+j)=F0 (9+j)
def QA(F:nI)(k:Nat):Prop:=∀j,j<k->eK (F (13+j)) (F (9+j/4))=true
def QC(F:nI)(k:Nat)(F0:nI):Prop:=∀j,j<k->F (13+j)=F0 (13+j)
def TC(n:Nat)(T:nI)(n0:Nat)(T0:nI):Prop:=n=n0/\∀j,j<2*n->T j=T0 j
def up(F:nI)(j:Nat)(v:Int):nI:=fun k=>if k=j then v else F k
theorem rY(F:nI)(j:Nat)(v:Int):up F j v j=v:=if_pos rfl
theorem GJ(F:nI)(j k:Nat)(v:Int)(h:k≠j):up F j v k=F k:=if_neg h
section
variable {w:World} {rb fb b:Nat} {z:Array Value} {bs:List Int} {F:nI} {s:Value} {n k:Nat} {T:nI} {er er1:Int} {wr w1:World} {e:Ending}
theorem RS.gain(h:RS w rb fb b z bs (kJ F k) F s n T (GA F k) (fun F0 _ _=>GC F k F0) er wr)(hk:k<4){v:Int}(k1:Kept (bH wr b) wr w1)(r1:rW w1 b bs er1 (kJ F k ++ aK v 2))(e1:er1=0->er=0/\0<=v/\v<=3)
  (c1:∀v0,er=0->0<=v0->v0<=3->v0<4->(kJ F k ++ aK v0 2) <+: bY bs->er1=0/\v=v0):
  RS w rb fb b z bs (kJ (up F k v) (k+1)) (up F k v) s n T (GA (up F k v) (k+1)) (fun F0 _ _=>GC (up F k v) (k+1) F0) er1 (w1.setCell ⟨fb,k,none⟩ (vI iJ v)):=by
 refine(h.mv (A1:=GA F k/\0<=v/\v<=3) (C1:=fun F0 _ _=>GC F k F0/\v=F0 k) k1 r1 (fun h0=>⟨(e1 h0).1,fun hA=>⟨hA,(e1 h0).2⟩⟩) (fun F0 n0 T0 hP hp h0 hC=>?_)).st k zO zO v (fun h1 _=>zO) ?_ ?_ ?_
 ·have hp2:=(CZ F0 n0 T0 (k:=k+1) zO).trans hp;rw[jN,<-oC hC]at hp2;have hg:=hP.hg k hk;obtain⟨d1,d2⟩:=c1 (F0 k) h0 hg.1 hg.2 zO hp2;exact⟨d1,hC,d2⟩
 ·show _=kJ (up F k v) (k+1);rw[jN,rY,oC (F:=up F k v) (G:=F) fun j hj=>GJ F k j v zO]
 ·rintro ⟨h1,h2⟩ j hj;show 0<=up F k v j/\up F k v j<=3;rcases Nat.lt_succ_iff_lt_or_eq.1 hj with h3 | rfl
  ·rw[GJ F k j v zO];exact h1 j h3
  ·rw[rY];exact h2
 ·rintro F0 n0 T0 _ ⟨h1,h2⟩ j hj;show up F k v j=F0 j;rcases Nat.lt_succ_iff_lt_or_eq.1 hj with h3 | rfl
  ·rw[GJ F k j v zO];exact h1 j h3
  ·rw[rY];exact h2
def HA(F:nI)(n:Nat)(T:nI):Prop:=GA F 4/\jP n T
def HC(F:nI)(n:Nat)(T:nI)(F0:nI)(n0:Nat)(T0:nI):Prop:=GC F 4 F0/\TC n T n0 T0
theorem RS.tones{n0:Nat}{s0:Value}{T0:nI}(h:RS w rb fb b z bs (kJ F 4) F s0 n0 T0 (GA F 4) (fun F0 _ _=>GC F 4 F0) er wr){p:Option Addr}{cap:Nat}(hn2:n<=2)(hr:RT wr b bs er (kJ F 4) n n (.slice p n cap) T er1 w1):
  RS w rb fb b z bs (jA F n T 0) F (.slice p n cap) n T (HA F n T) (fun F0 n0 T0=>HC F n T F0 n0 T0) er1 (w1.setCell ⟨fb,4,none⟩ (.slice p n cap)):=by
 have k1:=hr.kept;have hfr:FrB 98 w1 fb F s0:=h.fr.kept k1 ⟨lt_of_block h.fr,h.fne⟩;have hk:Kept (bH w1 fb) w1 (w1.setCell ⟨fb,4,none⟩ (.slice p n cap)):=Kept.setCell w1 (a:=⟨fb,4,none⟩) (fun h=>h.2 rfl) _;have hs:=h.old.size;have hs1:=k1.size;have hownf:∀q,(Value.slice p n cap).ownBlock=some q->q≠fb:=fun q hq e=>by
  have:=hr.own.2 q hq;subst e;exact this (lt_of_block h.fr)
 exact {
  rd:=(hr.rd.but hk hfr zD zD).congr (by rw[kX,lP])
  fr:=hfr.set4 _
  res:=(hk.block rb ⟨Nat.lt_of_lt_of_le (lt_of_block h.res) hs1,h.ne⟩).trans ((k1.block rb ⟨lt_of_block h.res,h.rne⟩).trans h.res)
  own:=(hr.own.mono fun q hq hlt=>hr.own.2 q hq (Nat.lt_of_lt_of_le hlt hs)).kept hk fun q hq=>⟨hr.own.lt q hq,hownf q hq⟩
  old:=Kept.trans (Kept.trans h.old (k1.mono fun q hq=>⟨Nat.lt_of_lt_of_le hq hs,fun e=>by have:=h.nb;omega⟩)) (hk.mono fun q hq=>⟨Nat.lt_of_lt_of_le hq (Nat.le_trans hs hs1),fun e=>by have:=h.nfb;omega⟩)
  nrb:=h.nrb
  nfb:=h.nfb
  nb:=h.nb
  ne:=h.ne
  wb:=h.wb
  good:=fun h0=>by
   obtain⟨g1,g2⟩:=hr.good h0;exact⟨h.good g1,hn2,fun j hj=>⟨(hr.bd j hj).1,(hr.bd j hj).2,(g2 j hj).1,(g2 j hj).2⟩⟩
  back:=fun F0 m0 U0 hP hp=>by
   obtain⟨a1,a2⟩:=h.back F0 m0 U0 hP hp;have hp2:=(LJ F0 m0 U0).trans hp;rw[lP,<-oC a2]at hp2;obtain⟨b1,b2,b3⟩:=hr.back m0 U0 a1 ⟨hP.hn,hP.ht⟩ hp2;exact⟨b1,a2,b2,b3⟩ }
theorem RS.scale(h:RS w rb fb b z bs (jA F n T k) F s n T (HA F n T/\SA F k) (fun F0 n0 T0=>HC F n T F0 n0 T0/\SC F k F0) er wr)(hk:k<4){v:Int}(k1:Kept (bH wr b) wr w1)(r1:rW w1 b bs er1 (jA F n T k ++ aK v 5))(e1:er1=0->er=0/\0<=v/\v<=23)
  (c1:∀v0,er=0->0<=v0->v0<=23->v0<32->(jA F n T k ++ aK v0 5) <+: bY bs->er1=0/\v=v0):
  RS w rb fb b z bs (jA (up F (5+k) v) n T k ++ aK v 5) (up F (5+k) v) s n T ((HA (up F (5+k) v) n T/\SA (up F (5+k) v) k)/\0<=v/\v<=23) (fun F0 n0 T0=>(HC (up F (5+k) v) n T F0 n0 T0/\SC (up F (5+k) v) k F0)/\v=F0 (5+k)) er1 (w1.setCell ⟨fb,5+k,none⟩ (vI iJ v)):=by
 have hu:∀j,j≠5+k->up F (5+k) v j=F j:=fun j hj=>GJ F (5+k) j v hj;refine(h.mv (A1:=(HA F n T/\SA F k)/\0<=v/\v<=23) (C1:=fun F0 n0 T0=>(HC F n T F0 n0 T0/\SC F k F0)/\v=F0 (5+k)) k1 r1 (fun h0=>⟨(e1 h0).1,fun hA=>⟨hA,(e1 h0).2⟩⟩) (fun F0 n0 T0 hP hp h0 hC=>?_)).st (5+k) zO zO v (fun h1 _=>zO) ?_ ?_ ?_
 ·obtain⟨⟨hg,hn,ht⟩,hs⟩:=hC;subst hn;have hp2:=(BC F0 n T0 (k:=k+1) zO).trans hp;rw[iM,<-lA hg ht hs]at hp2;have hg2:=hP.hs k hk;obtain⟨d1,d2⟩:=c1 (F0 (5+k)) h0 hg2.1 hg2.2 zO (AU hp2);exact⟨d1,⟨⟨hg,rfl,ht⟩,hs⟩,d2⟩
 ·show _=jA (up F (5+k) v) n T k ++ aK v 5;rw[lA (F:=up F (5+k) v) (G:=F) (fun j hj=>hu j zO) (fun _ _=>rfl) (fun j hj=>⟨hu _ zO,hu _ zO⟩)]
 ·rintro ⟨⟨⟨h1,h2⟩,h3⟩,h4⟩;refine⟨⟨⟨fun j hj=>?_,h2⟩,fun j hj=>?_⟩,h4⟩
  ·show 0<=up F (5+k) v j/\up F (5+k) v j<=3;rw[hu j zO];exact h1 j hj
  ·show (0<=up F (5+k) v (5+j)/\up F (5+k) v (5+j)<=23)/\(0<=up F (5+k) v (9+j)/\up F (5+k) v (9+j)<=24)
   rw[hu (5+j) zO,hu (9+j) zO];exact h3 j hj
 ·rintro F0 n0 T0 _ ⟨⟨⟨h1,h2⟩,h3⟩,h4⟩;refine⟨⟨⟨fun j hj=>?_,h2⟩,fun j hj=>?_⟩,h4⟩
  ·show up F (5+k) v j=F0 j;rw[hu j zO];exact h1 j hj
  ·show up F (5+k) v (5+j)=F0 (5+j)/\up F (5+k) v (9+j)=F0 (9+j);rw[hu (5+j) zO,hu (9+j) zO];exact h3 j hj
theorem RS.width{u:Int}(h:RS w rb fb b z bs (jA F n T k ++ aK u 5) F s n T ((HA F n T/\SA F k)/\0<=u/\u<=23) (fun F0 n0 T0=>(HC F n T F0 n0 T0/\SC F k F0)/\u=F0 (5+k)) er wr)(hu5:F (5+k)=u)(hk:k<4){v:Int}(k1:Kept (bH wr b) wr w1)(r1:rW w1 b bs er1 (jA F n T k ++ aK u 5 ++ aK v 5))(e1:er1=0->er=0/\0<=v/\v<=24)(bv:0<=v/\v<=24)
  (c1:∀v0,er=0->0<=v0->v0<=24->v0<32->(jA F n T k ++ aK u 5 ++ aK v0 5) <+: bY bs->er1=0/\v=v0):
  RS w rb fb b z bs (jA (up F (9+k) v) n T (k+1)) (up F (9+k) v) s n T (HA (up F (9+k) v) n T/\SA (up F (9+k) v) (k+1)) (fun F0 n0 T0=>HC (up F (9+k) v) n T F0 n0 T0/\SC (up F (9+k) v) (k+1) F0) er1 (w1.setCell ⟨fb,9+k,none⟩ (vI iJ v)):=by
 have hu:∀j,j≠9+k->up F (9+k) v j=F j:=fun j hj=>GJ F (9+k) j v hj;refine(h.mv (A1:=((HA F n T/\SA F k)/\0<=u/\u<=23)/\0<=v/\v<=24) (C1:=fun F0 n0 T0=>((HC F n T F0 n0 T0/\SC F k F0)/\u=F0 (5+k))/\v=F0 (9+k)) k1 r1 (fun h0=>⟨(e1 h0).1,fun hA=>⟨hA,(e1 h0).2⟩⟩) (fun F0 n0 T0 hP hp h0 hC=>?_)).st (9+k) zO zO v (fun _ _=>bv) ?_ ?_ ?_
 ·obtain⟨⟨⟨hg,hn,ht⟩,hs⟩,hu0⟩:=hC;subst hn;have hp2:=(BC F0 n T0 (k:=k+1) zO).trans hp;rw[iM,<-lA hg ht hs,<-hu0]at hp2;have hg2:=hP.hw k hk;obtain⟨d1,d2⟩:=c1 (F0 (9+k)) h0 hg2.1 hg2.2 zO hp2;exact⟨d1,⟨⟨⟨hg,rfl,ht⟩,hs⟩,hu0⟩,d2⟩
 ·show _=jA (up F (9+k) v) n T (k+1);rw[iM,lA (F:=up F (9+k) v) (G:=F) (fun j hj=>hu j zO) (fun _ _=>rfl) (fun j hj=>⟨hu _ zO,hu _ zO⟩),rY,hu (5+k) zO,hu5]
 ·rintro ⟨⟨⟨⟨h1,h2⟩,h3⟩,h4⟩,h5⟩;refine⟨⟨fun j hj=>?_,h2⟩,fun j hj=>?_⟩
  ·show 0<=up F (9+k) v j/\up F (9+k) v j<=3;rw[hu j zO];exact h1 j hj
  ·show (0<=up F (9+k) v (5+j)/\up F (9+k) v (5+j)<=23)/\(0<=up F (9+k) v (9+j)/\up F (9+k) v (9+j)<=24)
   rcases Nat.lt_succ_iff_lt_or_eq.1 hj with h6 | rfl
   ·rw[hu (5+j) zO,hu (9+j) zO];exact h3 j h6
   ·rw[hu (5+j) zO,rY,hu5];exact⟨h4,h5⟩
 ·rintro F0 n0 T0 _ ⟨⟨⟨⟨h1,h2⟩,h3⟩,h4⟩,h5⟩;refine⟨⟨fun j hj=>?_,h2⟩,fun j hj=>?_⟩
  ·show up F (9+k) v j=F0 j;rw[hu j zO];exact h1 j hj
  ·show up F (9+k) v (5+j)=F0 (5+j)/\up F (9+k) v (9+j)=F0 (9+j);rcases Nat.lt_succ_iff_lt_or_eq.1 hj with h6 | rfl
   ·rw[hu (5+j) zO,hu (9+j) zO];exact h3 j h6
   ·rw[hu (5+j) zO,rY,hu5];exact⟨h4,h5⟩
theorem RS.step{m kk:Nat}(h:RS w rb fb b z bs (lU F n T k) F s n T ((HA F n T/\SA F 4)/\QA F k) (fun F0 n0 T0=>(HC F n T F0 n0 T0/\SC F 4 F0)/\QC F k F0) er wr)(hk:k<16)(hm:k/4=m)(hkk:F (9+m)=kk){v:Int}(k1:Kept (bH wr b) wr w1)(r1:rW w1 b bs er1 (lU F n T k ++ aK v kk))(e1:er1=0->er=0)(fv:eK v kk=true)
  (c1:∀v0,er=0->eC true v0 kk=true->(lU F n T k ++ aK v0 kk) <+: bY bs->er1=0/\v=v0):
  RS w rb fb b z bs (lU (up F (13+k) v) n T (k+1)) (up F (13+k) v) s n T ((HA (up F (13+k) v) n T/\SA (up F (13+k) v) 4)/\QA (up F (13+k) v) (k+1)) (fun F0 n0 T0=>(HC (up F (13+k) v) n T F0 n0 T0/\SC (up F (13+k) v) 4 F0)/\QC (up F (13+k) v) (k+1) F0) er1 (w1.setCell ⟨fb,13+k,none⟩ (vI iJ v)):=by
 have hu:∀j,j≠13+k->up F (13+k) v j=F j:=fun j hj=>GJ F (13+k) j v hj;refine(h.mv (A1:=(HA F n T/\SA F 4)/\QA F k) (C1:=fun F0 n0 T0=>((HC F n T F0 n0 T0/\SC F 4 F0)/\QC F k F0)/\v=F0 (13+k)) k1 r1 (fun h0=>⟨e1 h0,fun hA=>hA⟩) (fun F0 n0 T0 hP hp h0 hC=>?_)).st (13+k) zO zO v (fun _ _=>zO) ?_ ?_ ?_
 ·obtain⟨⟨⟨hg,hn,ht⟩,hs⟩,hq⟩:=hC;subst hn;have hp2:=(MU F0 n T0 (k:=k+1) zO).trans hp;have hw9:F0 (9+k/4)=kk:=by rw[hm,<-(hs m zO).2];exact hkk
  rw[bD,<-sO hg ht hs hq zO,hw9]at hp2;have hq2:=hP.hq k hk;have hw2:=hP.hw (k/4) zO;rw[hw9]at hq2 hw2;obtain⟨d1,d2⟩:=c1 (F0 (13+k)) h0 (mT _ _ hw2.1 hw2.2 hq2).1 hp2;exact⟨d1,⟨⟨⟨hg,rfl,ht⟩,hs⟩,hq⟩,d2⟩
 ·show _=lU (up F (13+k) v) n T (k+1);rw[bD,sO (F:=up F (13+k) v) (G:=F) (fun j hj=>hu j zO) (fun _ _=>rfl) (fun j hj=>⟨hu _ zO,hu _ zO⟩) (fun j hj=>hu _ zO) zO,rY,hu (9+k/4) zO,hm,hkk]
 ·rintro ⟨⟨⟨h1,h2⟩,h3⟩,h4⟩;refine⟨⟨⟨fun j hj=>?_,h2⟩,fun j hj=>?_⟩,fun j hj=>?_⟩
  ·show 0<=up F (13+k) v j/\up F (13+k) v j<=3;rw[hu j zO];exact h1 j hj
  ·show (0<=up F (13+k) v (5+j)/\up F (13+k) v (5+j)<=23)/\(0<=up F (13+k) v (9+j)/\up F (13+k) v (9+j)<=24)
   rw[hu (5+j) zO,hu (9+j) zO];exact h3 j hj
  ·show eK (up F (13+k) v (13+j)) (up F (13+k) v (9+j/4))=true;rw[hu (9+j/4) zO];rcases Nat.lt_succ_iff_lt_or_eq.1 hj with h6 | rfl
   ·rw[hu (13+j) zO];exact h4 j h6
   ·rw[rY,hm,hkk];exact fv
 ·rintro F0 n0 T0 _ ⟨⟨⟨⟨h1,h2⟩,h3⟩,h4⟩,h5⟩;refine⟨⟨⟨fun j hj=>?_,h2⟩,fun j hj=>?_⟩,fun j hj=>?_⟩
  ·show up F (13+k) v j=F0 j;rw[hu j zO];exact h1 j hj
  ·show up F (13+k) v (5+j)=F0 (5+j)/\up F (13+k) v (9+j)=F0 (9+j);rw[hu (5+j) zO,hu (9+j) zO];exact h3 j hj
  ·show up F (13+k) v (13+j)=F0 (13+j);rcases Nat.lt_succ_iff_lt_or_eq.1 hj with h6 | rfl
   ·rw[hu (13+j) zO];exact h4 j h6
   ·rw[rY];exact h5
end
end Go.Proofs.YticpdokbiblpoaaGreatDoor
