/- Texts joined: BankN, BankO, BankR. -/
import Derived.Test.YtgefdmfcddpaiaaGreatDoorPkAO
import Derived.Test.YtgefdmfcddpaiaaGreatDoorTk
namespace Go.Proofs.YtgefdmfcddpaiaaGreatDoor
set_option linter.unusedVariables false
set_option linter.unusedSimpArgs false
set_option maxRecDepth 100000
open Go.RowKit Go.ChangeShapes Go.WideShapes
structure RdW(w W:World)(g n k:Nat)(Z:Nat->Mt):Prop where
 lt:g<W.heap.size
 ge:w.heap.size<=g
 there:W.there g 0 (n*9)
 cell:∀i,i<k->∀f v,(Z i).cells[f]?=some v->W.cell? ⟨g,i*9+f,none⟩=some v
 old:Old w W
theorem RdW.on{w W W':World}{g n k:Nat}{Z:Nat->Mt}(h:RdW w W g n k Z)(o:Old W W'):RdW w W' g n k Z where
 lt:=Nat.lt_of_lt_of_le h.lt o.size
 ge:=h.ge
 there:=fun j hj=>by
  have:=h.there j hj
  exact⟨by rw [o.cell (a:=⟨g,0+j,none⟩) h.lt];exact this.1,by rw [Kept.frozen o (a:=⟨g,0+j,none⟩) h.lt];exact this.2⟩
 cell:=fun i hi f v hf=>(o.cell (a:=⟨g,i*9+f,none⟩) h.lt).trans (h.cell i hi f v hf)
 old:=h.old.trans o
theorem mt_len(m:Mt):m.cells.toList.length=9:=rfl
theorem RdW.put{w W:World}{g n k:Nat}{Z:Nat->Mt}(h:RdW w W g n k Z)(hk:k<n)(m:Mt):RdW w (W.setCells g (k*9) m.cells.toList) g n (k+1) (fun i=>if i=k then m else Z i) where
 lt:=by rw [setCells_size];exact h.lt
 ge:=h.ge
 there:=World.there_setCells h.there _ _ _
 cell:=fun i hi f v hf=>by
  have f9:f<9:=by
   rcases Nat.lt_or_ge f 9 with h | h
   ·exact h
   ·rw [Array.getElem?_eq_none (by split at hf <;> (rw [Mt.size9];exact h))] at hf;cases hf
  by_cases e:i=k
  ·subst e
   rw [if_pos rfl] at hf
   have h1:=World.cell?_setCells_in g m.cells.toList (i*9) W (fun j hj=>by
    have:=(h.there (i*9+j) (by rw [mt_len] at hj;omega)).1
    rwa [Nat.zero_add] at this) f (by rw [mt_len];exact f9)
   rw [h1,←hf]
   simp
  ·rw [if_neg e] at hf
   rw [World.cell?_setCells_out g m.cells.toList (k*9) W ⟨g,i*9+f,none⟩ (fun _ _=>by rw [mt_len];show i*9+f<k*9\/k*9+9<=i*9+f;omega)]
   exact h.cell i (by omega) f v hf
 old:=h.old.after (Kept.setCells (X:=fun q=>q<w.heap.size) W (by have:=h.ge;omega) _ _) fun _ h=>h
def zeroMc:Array Value:=#[.string ⟨#[]⟩,.int .i64 0,.int .i64 0,.int .i64 0,.bool false,.int .i64 0,.int .i64 0,.int .i64 0,.int .i64 0]
theorem make_metas(n:Nat)(hn:n<=1099511627776)(w:World):(Instr.makeSlice 81 (.int .i64 n) (.int .i64 n)).run Tryz.prog w = .ok (.slice (some ⟨w.heap.size,0,none⟩) n n) (w.alloc (.cells (madeCells zeroMc (n*9)) 85)):=by
 obtain⟨i,hi,hz0,hz1,hz2⟩:=info_parts Tryz.infoM
 rw [run_make w _ _ i _ Tryz.underlying81 hi hz0 .i64 .i64 n n (by omega) (by omega) (by rw [hz2];omega) (by omega),hz1,Int.toNat_natCast]
 rfl
theorem made_thereM(w:World)(m:Nat)(z:Array Value)(t:TypeId):(w.alloc (.cells (madeCells z m) t)).there w.heap.size 0 m:=fun j hj=>by
 have hb:(w.alloc (.cells (madeCells z m) t)).heap[w.heap.size]?=some (.cells (madeCells z m) t (0,0)):=heap_alloc_new _ _
 refine⟨?_,frozen_of_row _ _ _ _ _ hb⟩
 rw [cell_of_row _ _ _ _ _ _ hb,Nat.zero_add,Array.getElem?_eq_getElem (by rw [size_madeCells];exact hj)]
 rfl
theorem arr_ptr(b o L c:Nat)(h:64<=L)(w:World):(Instr.arrayAt 214 (.slice (some ⟨b,o,none⟩) L c)).run Tryz.prog w = .ok (.pointer (some ⟨b,o,none⟩)) w:=by
 have:¬L<64:=by omega
 simp [Instr.arrayAt,run_underlying Tryz.underlying214,this]
def RdI(E:Nat->Int)(m:Mt):Prop:=∃t,m=rdM t E/\TrE E t/\∀j,j<64->entF m j=E j
def GoodD(D:Nat->Mt)(n:Nat)(F:Nat->Int):Prop:=(∀i,i<n->(D i).Wide/\∀j,j<64->entF (D i) j=F (64*i+j))/\dirP D n
theorem rdM_num{t:ByteArray}{E:Nat->Int}(hE:Byt E 64):(rdM t E).numOk/\(0<=(rdM t E).x/\(rdM t E).x<4294967296)/\0<=(rdM t E).y/\(rdM t E).y<4294967296:=by
 have b:∀o,o+4<=64->0<=numTo (fun j=>E (o+j)) 4/\numTo (fun j=>E (o+j)) 4<4294967296:=fun o ho=>numTo_bd (F:=fun j=>E (o+j)) (w:=4) fun j hj=>hE (o+j) (by omega)
 have b0:=b 32 (by omega);have b1:=b 36 (by omega);have b2:=b 40 (by omega);have b3:=b 44 (by omega);have b4:=b 48 (by omega);have b5:=b 52 (by omega)
 refine⟨fun k hk=>?_,b4,b5⟩
 match k,hk with
 | 0,_=>show 0<=numTo (fun j=>E (32+j)) 4/\numTo (fun j=>E (32+j)) 4<=_;omega
 | 1,_=>show 0<=numTo (fun j=>E (36+j)) 4/\numTo (fun j=>E (36+j)) 4<=_;omega
 | 2,_=>show 0<=numTo (fun j=>E (40+j)) 4/\numTo (fun j=>E (40+j)) 4<=_;omega
 | 3,_=>show 0<=numTo (fun j=>E (44+j)) 4/\numTo (fun j=>E (44+j)) 4<=_;omega
 | 4,_=>show 0<=numTo (fun j=>E (48+j)) 4/\numTo (fun j=>E (48+j)) 4<=_;omega
 | 5,_=>show 0<=numTo (fun j=>E (52+j)) 4/\numTo (fun j=>E (52+j)) 4<=_;omega
theorem dirP_ext{D Z:Nat->Mt}{n:Nat}(e:∀i,i<n->D i=Z i)(h:dirP D n):dirP Z n:=fun i hi=>by
 have:=h i hi
 rw [e i hi,e (i-1) (by omega)] at this
 exact this
def RdDR(w:World)(n:Nat)(F:Nat->Int)(e:Ending)(w':World):Prop:=
 (∃q c D,e = .returned (.tuple #[.slice q n c,.bool true])/\n<=c/\c<=maxLen/\MtsS w' q n D/\dirP D n/\(∀i,i<n->RdI (fun j=>F (64*i+j)) (D i))/\Old w w'/\∀a,0<n->q=some a->w.heap.size<=a.block) \/
 ∃q m c,e = .returned (.tuple #[.slice q m c,.bool false])/\(∀D,¬GoodD D n F)/\Old w w'
set_option maxHeartbeats 8000000 in
theorem readDir_any(p:Option Addr)(n cap:Nat)(F:Nat->Int)(w:World)(hs:SlU w p (64*n) F)(hb:Byt F (64*n))(hn:n<=64)(hc:64*n<=cap):
  Calls Tryz.prog 69 #[.slice p (64*n) cap] w (RdDR w n F):=by
 have hmk:=make_metas n (by omega) w
 obtain⟨g,hg⟩:∃g,g=w.heap.size:=⟨_,rfl⟩
 obtain⟨W0,hW0⟩:∃W,W=w.alloc (.cells (madeCells zeroMc (n*9)) 85):=⟨_,rfl⟩
 have HR0:Hid (RdW w W0 g n 0 (fun _=>⟨⟨#[]⟩,0,0,0,false,0,0,0,0⟩)):=zH (by
  rw [hW0,hg]
  exact⟨by simp,Nat.le_refl _,made_thereM _ _ _ _,fun i hi=>by omega,Old.alloc _ _⟩)
 rw [←hW0,←hg] at hmk
 have HS:=zH hs
 have HB:=zH hb
 have HC:=zH hc
 have Hs9:Hid ((Tryz.prog.info? 85).map (·.size)=some 9):=zH (by kernel_rfl)
 have Hs64:=zH Tryz.zero64.2
 obtain⟨N,hN⟩:∃N,N=64*n:=⟨_,rfl⟩
 rw [←hN]
 have q1:wrap64 ((N:Int).tdiv 64)=n:=by
  have:(N:Int).tdiv 64=n:=(tdiv_pos _ _ (by omega)).trans (by omega)
  rw [this]
  exact IntWalk.wrap64_in _ (by omega)
 have q2:(N:Int)/64=n:=by omega
 have HN:=zH hN
 have hN0:N<=4096:=by omega
 clear hW0 hg hs hb hc hN
 go_enter Tryz.func69,Tryz.ntmps69
 go_wp2_with fail
 clear q1 q2 hmk
 go_loopw [13] (fun iv wr=>∃(k:Nat) (Z:Nat->Mt),k<=n/\iv = .int .i64 k/\Hid (RdW w wr g n k Z)/\Hid (∀i,i<k->RdI (fun j=>F (64*i+j)) (Z i))) (fun i _=>n-(intOf i).toNat)
 case atStart=>exact⟨0,_,by omega,by go_num,HR0,zH fun i hi=>by omega⟩
 case round=>
  clear HR0
  obtain⟨k,Z,hk,rfl,HR,HZ⟩:=hrel
  by_cases hkn:k<n
  ·obtain⟨E,hE⟩:∃E:Nat->Int,E=fun j=>F (64*k+j):=⟨_,rfl⟩
   obtain⟨gb,ob,rfl,hgb,hcs⟩:=(HS.out.old HR.out.old) (by omega)
   have hEb:Byt E 64:=fun j hj=>by rw [hE];exact HB.out _ (by omega)
   obtain⟨u,hu⟩:∃u:Nat,u=k*64:=⟨_,rfl⟩
   obtain⟨L,hL⟩:∃L:Nat,L=N-u:=⟨_,rfl⟩
   obtain⟨c',hc'⟩:∃c:Nat,c=cap-u:=⟨_,rfl⟩
   have hNN:=HN.out
   have hCC:=HC.out
   have e1:wrap64 ((k:Int)*64)=u:=by rw [IntWalk.wrap64_in _ (by omega)];omega
   have e2:(k:Int)*64=u:=by omega
   have hcl:∀w',(Instr.sliceAt 34 (.slice (some ⟨gb,ob,none⟩) N cap) (some (.int .i64 u)) none none).run Tryz.prog w' = .ok (.slice (some ⟨gb,ob+u,none⟩) L c') w':=fun w'=>by
    have:=cut_lo gb ob N cap u (by omega) (by omega) w'
    rwa [←hL,←hc'] at this
   have hap:=fun w'=>arr_ptr gb (ob+u) L c' (by omega) w'
   have HLd:Hid (∀j,j<64->wr.cell? ⟨gb,ob+u+j,none⟩=some (.int .u8 (E j))):=zH fun j hj=>by
    rw [Nat.add_assoc,hcs (u+j) (by omega),hE]
    show some (Value.int .u8 (F (u+j)))=some (Value.int .u8 (F (64*k+j)))
    rw [show 64*k+j=u+j by omega]
   obtain⟨b1,hb1⟩:∃b,b=wr.heap.size:=⟨_,rfl⟩
   obtain⟨R,hR⟩:∃R,R=rowN 64 (bU E):=⟨_,rfl⟩
   obtain⟨W1,hW1⟩:∃W,W=wr.alloc (.cells R 214):=⟨_,rfl⟩
   have HRow:=zH (show UAt W1 b1 64 E by rw [hW1,hb1,hR];exact uAt_new _ _ _ _)
   have HO1:=zH (show Old wr W1 by rw [hW1];exact Old.alloc _ _)
   have HW1:=zH hW1
   have HB1:=zH hb1
   have HRr:=zH hR
   have HRs:Hid (R.size=64):=zH (by rw [hR,rowN_size])
   have HR1:Hid (R.all (·.oneCell')=true):=zH (by rw [hR];exact bU_one 64 E)
   have HRe:=zH (fun V=>readEntry_any E V hEb)
   rw [←hR] at HRe
   have HEq:=zH hE
   have HEb:=zH hEb
   have hz:=Tryz.zero64.1
   have HLd1:Hid (∀j,j<64->W1.cell? ⟨b1,0+j,none⟩=some (.int .u8 (E j))):=zH fun j hj=>by rw [Nat.zero_add];exact HRow.out.at_ j hj
   have i0:(0:Int)<=k:=by omega
   have i1:(k:Int)<n:=by omega
   have b2:(u:Int)<=N:=by omega
   clear hE hgb hcs hEb hu hL hc' hNN hCC hb1 hR hW1
   go_wp2_with (first
    | (with_reducible refine wpList_load_u8 rfl 64 E 214 _ rfl gb (ob+u) rfl _ HLd.out Tryz.underlying214 rfl Hs64.out ?_;rw [←HRr.out])
    | (with_reducible refine wpList_store_row rfl 214 _ _ rfl wr.heap.size R rfl rfl 214 _ (heap_alloc_new _ _) (by rw [HRs.out];exact Hs64.out) (by rw [HRs.out,rowN_size]) HR1.out ?_;rw [World.setRow_alloc_new,←HW1.out,←HB1.out];clear hz)
    | (with_reducible refine wpList_load_u8 rfl 64 E 214 _ rfl b1 0 rfl _ HLd1.out Tryz.underlying214 rfl Hs64.out ?_;rw [←HRr.out]))
   refine(HRe.out _).mono ?_
   rintro e V ⟨t,rfl,ht,ho⟩
   obtain⟨m,hm⟩:∃m,m=rdM t E:=⟨_,rfl⟩
   rw [←hm]
   have hnm:=rdM_num (t:=t) HEb.out
   rw [←hm] at hnm
   have HTr:=zH ht
   have HM:=zH hm
   have HNm:=zH hnm
   have hR2:=HR.out.on (HO1.out.trans ho)
   have HTh:Hid (V.there g (k*9) 9):=zH fun j hj=>by
    have:=hR2.there (k*9+j) (by omega)
    rwa [Nat.zero_add] at this
   obtain⟨W2,hW2⟩:∃W,W=V.setCells g (k*9) m.cells.toList:=⟨_,rfl⟩
   have HR2:=zH (show RdW w W2 g n (k+1) (fun i=>if i=k then m else Z i) by rw [hW2];exact hR2.put hkn m)
   have hbg:b1≠g:=by have:=HR.out.lt;have:=HB1.out;omega
   have HRow2:=zH (show UAt W2 b1 64 E by
    rw [hW2]
    exact(HRow.out.old ho).kept (Y:=fun q=>q≠g) (Kept.setCells V (fun e=>e rfl) _ _) hbg)
   have HW2:=zH hW2
   have Hc9:Hid (m.cells.size=9):=zH (Mt.size9 m)
   have Hc1:Hid (m.cells.all (·.oneCell')=true):=zH m.one
   have HEn:=zH (fun V=>entry_any m V (by rw [hm];exact ht.le) hnm.1)
   have hne:=fun w'=>neq_u8 (P:=Tryz.prog) (t:=214) (e:=5) (n:=64) (q:=.u8) Tryz.underlying214 Tryz.underlying5 (by kernel_rfl) (by kernel_rfl) (entF m) E w'
   rw [←HRr.out] at hne
   obtain⟨X,hX⟩:∃X,X=rowN 64 (bU (entF m)):=⟨_,rfl⟩
   rw [←hX] at hne HEn
   have HNe:=zH hne
   have HLen:Hid ((Tryz.prog.info? 85).map (·.size)=some m.cells.toList.length):=zH Hs9.out
   have HKp:Hid (∀U,Old W2 U->(∀f v,m.cells[f]?=some v->U.cell? ⟨g,k*9+f,none⟩=some v)/\∀j,j<64->U.cell? ⟨b1,0+j,none⟩=some (.int .u8 (E j))):=zH fun U hU=>
    ⟨fun f v hf=>(HR2.out.on hU).cell k (by omega) f v (by simp only [if_true];exact hf),fun j hj=>by rw [Nat.zero_add];exact(HRow2.out.old hU).at_ j hj⟩
   clear hm hnm ht hR2 hbg hne hX ho hW2 HR HRe HRow HLd HLd1 HO1 HW1 HB1 hcl hap e1 e2
   go_wp2_with (with_reducible refine wpList_store_mid rfl 85 _ _ rfl g (k*9) m.cells rfl rfl (by rw [Hc9.out];exact HTh.out) (by rw [Hc9.out];exact Hs9.out) Hc1.out ?_;rw [←HW2.out])
   clear HTh HW2
   refine wp_region_held_drew (S:=(fun U=>(∀f v,m.cells[f]?=some v->U.cell? ⟨g,k*9+f,none⟩=some v)/\∀j,j<64->U.cell? ⟨b1,0+j,none⟩=some (.int .u8 (E j)))) (by kernel_rfl) ?_ (fun hHeld=>?_)
   ·(try dsimp only);exact HKp.out _ (Old.drew (Old.refl W2))
   refine wpU 0 rfl ?_;try simp only [Act.put,sA,sZ,sS]
   refine wpU 1 rfl ?_;try simp only [Act.put,sA,sZ,sS]
   refine wpU 2 rfl ?_;try simp only [Act.put,sA,sZ,sS]
   refine wpT 5 (v:=.agg (rowN 64 (bU E))) rfl (yieldsIf_load_u8 64 E (by kernel_rfl) 214 (.tmp 6) rfl b1 0 rfl _ (fun _ h=>h.2) Tryz.underlying214 rfl Hs64.out) (by assumption) ?_;try simp only [Act.put,sA,sZ,sS]
   refine wpT 3 (v:=.agg m.cells) rfl (yieldsIf_load_mid (by kernel_rfl) 85 (.tmp 29) rfl g (k*9) rfl m.cells.toList _ (fun _ h j v hv=>h.1 j v (by simpa using hv)) Tryz.underlying85 rfl HLen.out) (by assumption) ?_;try simp only [Act.put,sA,sZ,sS]
   refine wpR 4 rfl (fun K hK=>?_)
   go_simp
   refine(HEn.out _).mono ?_
   rintro e V3 ⟨rfl,o3⟩
   have HO3:=zH ((Old.drew (Old.refl W2)).trans o3)
   clear o3 HEn
   go_wp2_with fail
   refine hK.out _ _ ?_ (fun hHeld=>?_)
   ·(try dsimp only);exact HKp.out _ HO3.out
   clear hK K
   try simp only [Act.put,sA,sZ,sS]
   rw [←HRr.out]
   have hne:=HNe.out
   obtain⟨q,hq⟩:∃q,q=eqB 64 (entF m) E:=⟨_,rfl⟩
   rw [←hq] at hne
   have HQ:=zH hq
   have HR3:=zH (HR2.out.on HO3.out)
   clear hq HR2 HKp
   refine wpU 6 rfl ?_;try simp only [Act.put,sA,sZ,sS]
   refine wpAnyH_done (by kernel_rfl) ?_ _
   clear hne
   cases q
   ·go_wp2_with fail
    go_ret2
    refine .inr ⟨none,0,0,rfl,fun D hD=>?_,HR3.out.old⟩
    have h1:=hD.1 k hkn
    have h2:=rd_uniq h1.1 (fun j hj=>by rw [HEq.out];exact h1.2 j hj) HTr.out
    have h3:=eqB_false.1 HQ.out.symm
    exact h3 fun j hj=>by
     rw [HM.out,h2,HEq.out]
     exact h1.2 j hj
   ·have HZ2:=zH (show ∀i,i<k+1->RdI (fun j=>F (64*i+j)) ((fun i=>if i=k then m else Z i) i) from fun i hi=>by
     by_cases e:i=k
     ·subst e
      simp only [if_true]
      rw [←HEq.out]
      exact⟨t,HM.out,HTr.out,eqB_true.1 HQ.out.symm⟩
     ·simp only [if_neg e]
      exact HZ.out i (by omega))
    clear HQ HNe HZ
    go_wp2_with fail
    go_roundw
    case rel=>exact⟨k+1,_,by omega,by go_num,HR3,HZ2⟩
    case measure=>simp [intOf];omega
  ·obtain rfl:k=n:=by omega
   have hst:∀i,i<k->(Z i).s.size<=9223372036854775807:=fun i hi=>by
    obtain⟨t,h1,h2,_⟩:=HZ.out i hi
    rw [h1]
    have:=h2.le
    show t.size<=_
    omega
   have hms:MtsS wr (some ⟨g,0,none⟩) k Z:=⟨fun _=>⟨g,0,rfl,HR.out.lt,fun i hi f v hf=>by rw [Nat.zero_add];exact HR.out.cell i hi f v hf⟩,hst⟩
   have HMs:=zH hms
   have HDi:=zH (isDir_any (some ⟨g,0,none⟩) k k Z wr hms (by omega))
   have HOl:=zH HR.out.old
   have HGe:=zH HR.out.ge
   clear hst hms HR
   go_wp2_with fail
   refine HDi.out.mono ?_
   rintro e V ⟨b,rfl,hb,ho⟩
   have HBb:=zH hb
   have HO:=zH ho
   clear hb ho HDi
   cases b
   ·go_wp2_with fail
    go_ret2
    refine .inr ⟨_,_,_,rfl,fun D hD=>?_,HOl.out.trans HO.out⟩
    have e:∀i,i<k->D i=Z i:=fun i hi=>by
     obtain⟨t,h1,h2,_⟩:=HZ.out i hi
     have h3:=hD.1 i hi
     rw [h1]
     exact(rd_uniq h3.1 h3.2 h2).symm
    have:=HBb.out.2 (dirP_ext e hD.2)
    cases this
   ·go_wp2_with fail
    go_ret2
    exact .inl ⟨_,_,Z,rfl,Nat.le_refl _,by unfold maxLen;omega,HMs.out.old HO.out,HBb.out.1 (by simp),HZ.out,HOl.out.trans HO.out,fun a _ ha=>by cases ha;exact HGe.out⟩
def markP(F:Nat->Int):Prop:=∀j,j<4->F j=mrk j
instance (F:Nat->Int):Decidable (markP F):=by unfold markP;infer_instance
def hd5(F:Nat->Int):Int:=numTo (fun j=>F (11+j)) 5
def hd1(F:Nat->Int):Int:=numTo (fun j=>F (10+j)) 1
def hd2(F:Nat->Int):Int:=numTo (fun j=>F (8+j)) 2
def hd4(F:Nat->Int):Int:=numTo (fun j=>F (4+j)) 4
def hdI(F:Nat->Int)(N:Nat):Int:=
 if N<20 then 2 else if ¬markP F\/hd5 F≠0 then 4 else if ¬(24<=hd1 F/\hd1 F<=96)\/64<hd2 F\/hd4 F≠N then 12 else 0
theorem conv_at{w:World}{g o N cap:Nat}{F:Nat->Int}(h:∀j,j<N->w.cell? ⟨g,o+j,none⟩=some (.int .u8 (F j)))(h0:0<N)(h1:N<=cap)(h2:cap<=maxLen):(convert 34 9 (.slice (some ⟨g,o,none⟩) N cap)).run Tryz.prog w = .ok (.string (strOfNums (lst F N))) w:=by
 refine conv_slI ?_
 refine⟨some ⟨g,o,none⟩,cap,by rw [lst_len],fun _=>⟨g,o,rfl,block_lt_of_cell (h 0 h0),by rw [lst_len];exact h1,h2,fun i hi=>?_⟩⟩
 rw [lst_len] at hi
 rw [h i hi,lst_getD F N i hi]
theorem strOf_ext(s:ByteArray)(F:Nat->Int)(N:Nat)(hb:Byt F N):strOfNums (lst F N)=s↔s.size=N/\∀j,j<N->bsI s j=F j:=by
 have h:=bsI_strOf (lst F N) (lst_mem hb)
 rw [lst_len] at h
 constructor
 ·intro e
  rw [←e]
  exact⟨h.1,fun j hj=>by rw [h.2 j hj,lst_getD F N j hj]⟩
 ·rintro ⟨h1,h2⟩
  refine bytes_ext _ _ (by rw [h.1,h1]) fun j hj=>?_
  rw [h.1] at hj
  rw [h.2 j hj,lst_getD F N j hj,h2 j hj]
theorem str_neq(s t:ByteArray)(h:s≠t):(s.toList == t.toList)=false:=by
 rw [beq_eq_false_iff_ne]
 intro e
 rw [ByteArray.toList_eq,ByteArray.toList_eq] at e
 obtain⟨a⟩:=s
 obtain⟨b⟩:=t
 have:a=b:=Array.toList_inj.1 e
 exact h (by rw [this])
theorem calS_list:calS.toList = [67,65,76,49]:=by rw [ByteArray.toList_eq];rfl
set_option maxHeartbeats 8000000 in
theorem wrongHead_any(p:Option Addr)(N cap:Nat)(F:Nat->Int)(w:World)(hs:SlU w p N F)(hb:Byt F N)(hc:N<=cap)(hm:cap<=maxLen):
  Calls Tryz.prog 65 #[.slice p N cap] w fun e w'=>e = .returned (.int .i64 (hdI F N))/\w=w':=by
 have HDr:=zH (fun w=>Dir_any 0 w (by omega))
 by_cases h0:N<20
 ·have e0:hdI F N=2:=by unfold hdI;rw [if_pos h0]
  rw [e0]
  have i0:(N:Int)<20:=by omega
  clear hs hb hc hm e0 h0
  go_enter Tryz.func65,Tryz.ntmps65
  go_wp2_with fail
  refine(HDr.out _).mono ?_
  rintro e w1 ⟨rfl,rfl⟩
  go_wp2_with fail
  go_ret
  exact⟨rfl,rfl⟩
 obtain⟨g,o,rfl,hg,hcs⟩:=hs (by omega)
 have sub:∀a n,a+n<=N->SlU w (some ⟨g,o+a,none⟩) n (fun j=>F (a+j)):=fun a n ha _=>⟨g,o+a,rfl,hg,fun j hj=>by rw [Nat.add_assoc];exact hcs (a+j) (by omega)⟩
 have HG5:=zH (get_any (some ⟨g,o+11,none⟩) 5 (cap-11) (fun j=>F (11+j)) w (by omega) (sub 11 5 (by omega)) (fun j hj=>hb _ (by omega)))
 have HG1:=zH (get_any (some ⟨g,o+10,none⟩) 1 (cap-10) (fun j=>F (10+j)) w (by omega) (sub 10 1 (by omega)) (fun j hj=>hb _ (by omega)))
 have HG2:=zH (get_any (some ⟨g,o+8,none⟩) 2 (cap-8) (fun j=>F (8+j)) w (by omega) (sub 8 2 (by omega)) (fun j hj=>hb _ (by omega)))
 have HG4:=zH (get_any (some ⟨g,o+4,none⟩) 4 (cap-4) (fun j=>F (4+j)) w (by omega) (sub 4 4 (by omega)) (fun j hj=>hb _ (by omega)))
 have hcv:=conv_at (F:=F) (N:=4) (cap:=cap) (fun j hj=>hcs j (by omega)) (by omega) (by omega) hm
 have hsx:=strOf_ext calS F 4 (fun j hj=>hb j (by omega))
 have hmk:strOfNums (lst F 4)=calS↔markP F:=by
  rw [hsx]
  constructor
  ·rintro ⟨_,h⟩ j hj
   rw [←h j hj,calS_at j hj]
  ·intro h
   exact⟨rfl,fun j hj=>by rw [h j hj,calS_at j hj]⟩
 have e5:hd5 F=numTo (fun j=>F (11+j)) 5:=rfl
 have e1:hd1 F=numTo (fun j=>F (10+j)) 1:=rfl
 have e2:hd2 F=numTo (fun j=>F (8+j)) 2:=rfl
 have e4:hd4 F=numTo (fun j=>F (4+j)) 4:=rfl
 rw [←e5] at HG5
 rw [←e1] at HG1
 rw [←e2] at HG2
 rw [←e4] at HG4
 have HE:Hid (hdI F N=if ¬markP F\/hd5 F≠0 then 4 else if ¬(24<=hd1 F/\hd1 F<=96)\/64<hd2 F\/hd4 F≠N then 12 else 0):=zH (by unfold hdI;rw [if_neg h0])
 rw [HE.out]
 have HZ:=zH (fun w=>isSize_any (hd1 F) w)
 have hh:=fun w'=>cut_hi g o N cap 4 (by omega) (by omega) w'
 have hl5:=fun w'=>cut_lh g o N cap 11 16 (by omega) (by omega) w'
 have hl1:=fun w'=>cut_lh g o N cap 10 11 (by omega) (by omega) w'
 have hl2:=fun w'=>cut_lh g o N cap 8 10 (by omega) (by omega) w'
 have hl4:=fun w'=>cut_lh g o N cap 4 8 (by omega) (by omega) w'
 have i0:¬((N:Int)<20):=by omega
 have ic:(20:Int)<=cap:=by omega
 have iN:(20:Int)<=N:=by omega
 have d0:decide ((N:Int)<20)=false:=decide_eq_false i0
 generalize hd5 F=x5 at *
 generalize hd1 F=x1 at *
 generalize hd2 F=x2 at *
 generalize hd4 F=x4 at *
 obtain⟨s,hss⟩:∃s,s=strOfNums (lst F 4):=⟨_,rfl⟩
 rw [←hss] at hcv hmk
 clear e5 e1 e2 e4 sub hsx hb hcs hg hs hc hm h0 HE hss
 by_cases hmp:markP F
 ·have hsc:=hmk.2 hmp
  subst hsc
  unfold calS at hcv
  by_cases h5:x5=0
  ·subst h5
   rw [if_neg (fun h=>h.elim (fun h=>h hmp) (fun h=>h rfl))]
   clear hmk
   by_cases h1:24<=x1/\x1<=96
   ·rw [show decide (24<=x1/\x1<=96)=true from decide_eq_true h1] at HZ
    by_cases h2:64<x2
    ·rw [if_pos (.inr (.inl h2))]
     have d2:decide (64<x2)=true:=decide_eq_true h2
     clear hmp h1 h2
     go_enter Tryz.func65,Tryz.ntmps65
     go_wp2_with fail
     refine(HDr.out _).mono ?_
     rintro e w1 ⟨rfl,rfl⟩
     go_wp2_with fail
     refine HG5.out.mono ?_
     rintro e w1 ⟨rfl,rfl⟩
     go_wp2_with fail
     refine HG1.out.mono ?_
     rintro e w1 ⟨rfl,rfl⟩
     go_wp2_with fail
     refine(HZ.out _).mono ?_
     rintro e w1 ⟨rfl,rfl⟩
     go_wp2_with fail
     refine HG2.out.mono ?_
     rintro e w1 ⟨rfl,rfl⟩
     go_wp2_with fail
     go_ret
     exact⟨rfl,rfl⟩
    ·have d2:decide (64<x2)=false:=decide_eq_false h2
     by_cases h4:x4=N
     ·rw [if_neg (fun h=>h.elim (fun h=>h h1) (fun h=>h.elim h2 (fun h=>h h4)))]
      have d4:(x4 != (N:Int))=false:=by simp [h4]
      clear hmp h1 h2 h4
      go_enter Tryz.func65,Tryz.ntmps65
      go_wp2_with fail
      refine(HDr.out _).mono ?_
      rintro e w1 ⟨rfl,rfl⟩
      go_wp2_with fail
      refine HG5.out.mono ?_
      rintro e w1 ⟨rfl,rfl⟩
      go_wp2_with fail
      refine HG1.out.mono ?_
      rintro e w1 ⟨rfl,rfl⟩
      go_wp2_with fail
      refine(HZ.out _).mono ?_
      rintro e w1 ⟨rfl,rfl⟩
      go_wp2_with fail
      refine HG2.out.mono ?_
      rintro e w1 ⟨rfl,rfl⟩
      go_wp2_with fail
      refine HG4.out.mono ?_
      rintro e w1 ⟨rfl,rfl⟩
      go_wp2_with fail
      go_ret
      exact⟨rfl,rfl⟩
     ·rw [if_pos (.inr (.inr h4))]
      have d4:(x4 != (N:Int))=true:=by simpa using h4
      clear hmp h1 h2 h4
      go_enter Tryz.func65,Tryz.ntmps65
      go_wp2_with fail
      refine(HDr.out _).mono ?_
      rintro e w1 ⟨rfl,rfl⟩
      go_wp2_with fail
      refine HG5.out.mono ?_
      rintro e w1 ⟨rfl,rfl⟩
      go_wp2_with fail
      refine HG1.out.mono ?_
      rintro e w1 ⟨rfl,rfl⟩
      go_wp2_with fail
      refine(HZ.out _).mono ?_
      rintro e w1 ⟨rfl,rfl⟩
      go_wp2_with fail
      refine HG2.out.mono ?_
      rintro e w1 ⟨rfl,rfl⟩
      go_wp2_with fail
      refine HG4.out.mono ?_
      rintro e w1 ⟨rfl,rfl⟩
      go_wp2_with fail
      go_ret
      exact⟨rfl,rfl⟩
   ·rw [show decide (24<=x1/\x1<=96)=false from decide_eq_false h1] at HZ
    rw [if_pos (.inl h1)]
    clear hmp h1
    go_enter Tryz.func65,Tryz.ntmps65
    go_wp2_with fail
    refine(HDr.out _).mono ?_
    rintro e w1 ⟨rfl,rfl⟩
    go_wp2_with fail
    refine HG5.out.mono ?_
    rintro e w1 ⟨rfl,rfl⟩
    go_wp2_with fail
    refine HG1.out.mono ?_
    rintro e w1 ⟨rfl,rfl⟩
    go_wp2_with fail
    refine(HZ.out _).mono ?_
    rintro e w1 ⟨rfl,rfl⟩
    go_wp2_with fail
    go_ret
    exact⟨rfl,rfl⟩
  ·rw [if_pos (.inr h5)]
   have d5:(x5 != 0)=true:=by simpa using h5
   clear hmk hmp h5
   go_enter Tryz.func65,Tryz.ntmps65
   go_wp2_with fail
   refine(HDr.out _).mono ?_
   rintro e w1 ⟨rfl,rfl⟩
   go_wp2_with fail
   refine HG5.out.mono ?_
   rintro e w1 ⟨rfl,rfl⟩
   go_wp2_with fail
   go_ret
   exact⟨rfl,rfl⟩
 ·rw [if_pos (.inl hmp)]
  have hne:s≠calS:=fun e=>hmp (hmk.1 e)
  have hq:=str_neq s calS hne
  rw [calS_list] at hq
  have hq2:¬s.toList = [67,65,76,49]:=by simpa using hq
  have hq3:s≠⟨#[67,65,76,49]⟩:=hne
  have hq4:=str_neq s calS hne
  unfold calS at hq4
  clear hmk hmp hne
  go_enter Tryz.func65,Tryz.ntmps65
  go_wp2_with fail
  refine(HDr.out _).mono ?_
  rintro e w1 ⟨rfl,rfl⟩
  go_wp2_with fail
  go_ret
  exact⟨rfl,rfl⟩
theorem neq_mt(w:World)(s:ByteArray)(n r c:Int)(lp:Bool)(a b x y x' y':Int):(binOp .neq 85 (.agg (Mt.mk s n r c lp a b x y).cells) (.agg (Mt.mk s n r c lp a b x' y').cells)).run Tryz.prog w = .ok (.bool !(decide (x=x'/\y=y'))) w:=by
 unfold Mt.cells
 rw [run_neq_struct,run_equalIn_agg w 9999 85 _ _ (by kernel_rfl) (by kernel_rfl)]
 have h1:=fun(w:World) (a b:Int)=>run_equalIn_int (P:=Tryz.prog) w 9998 3 .i64 .i64 a b Tryz.underlying3
 have h2:=fun(w:World) (a b:Bool)=>run_equalIn_bool (P:=Tryz.prog) w 9998 4 a b Tryz.underlying4
 have h3:=fun(w:World) (a b:ByteArray)=>run_equalIn_string (P:=Tryz.prog) w 9998 9 a b Tryz.underlying9
 have hfs : (Tryz.prog.fieldsOf 85).toList = [{ name := "Name", type := 9, offset := 0, embedded := false, tag := "", pkgPath := "", byteOffset := 0 }, { name := "Length", type := 3, offset := 1, embedded := false, tag := "", pkgPath := "", byteOffset := 16 }, { name := "Rate", type := 3, offset := 2, embedded := false, tag := "", pkgPath := "", byteOffset := 24 }, { name := "Channels", type := 3, offset := 3, embedded := false, tag := "", pkgPath := "", byteOffset := 32 }, { name := "Loop", type := 4, offset := 4, embedded := false, tag := "", pkgPath := "", byteOffset := 40 }, { name := "LoopStart", type := 3, offset := 5, embedded := false, tag := "", pkgPath := "", byteOffset := 48 }, { name := "LoopEnd", type := 3, offset := 6, embedded := false, tag := "", pkgPath := "", byteOffset := 56 }, { name := "Sums", type := 3, offset := 7, embedded := false, tag := "", pkgPath := "", byteOffset := 64 }, { name := "First", type := 3, offset := 8, embedded := false, tag := "", pkgPath := "", byteOffset := 72 }] := by kernel_rfl
 rw [hfs]
 by_cases hx:x=x' <;> by_cases hy:y=y' <;> simp [Op.eqFields,Go.part,isAgg,run_underlying Tryz.underlying3,run_underlying Tryz.underlying4,run_underlying Tryz.underlying9,h1,h2,h3,sizeOf,hx,hy]
theorem CloneB_any(p:Option Addr)(n cap:Nat)(F:Nat->Int)(w:World)(hs:SlU w p n F)(hn:n<=1099511627776):
  Calls Tryz.prog 71 #[.slice p n cap] w fun e w'=>∃q c,e = .returned (.slice q n c)/\n<=c/\c<=maxLen/\SlU w' q n F/\Old w w':=by
 have HC:=zH hs
 clear hs
 obtain⟨i0,hi,hz0,hz1,hz2⟩:=info_parts Tryz.info_u8
 cases p with
 | none=>
  have h0:n=0:=by
   rcases Nat.eq_zero_or_pos n with h | h
   ·exact h
   ·obtain⟨b,off,hp,_⟩:=HC.out h
    cases hp
  have H0:=zH h0
  clear h0 HC
  have hE:=eql_sl_nil 34 5 none n cap Tryz.underlying34
  go_enter Tryz.func71,Tryz.ntmps71
  go_wp2
  go_ret
  exact⟨none,0,by rw [H0.out];rfl,by rw [H0.out];exact Nat.le_refl _,Nat.zero_le _,fun h=>by have:=H0.out;omega,Old.refl w⟩
 | some a=>
  obtain⟨xs,hxs⟩:∃xs,xs=(lst F n).map (Value.int .u8):=⟨_,rfl⟩
  have hxl:xs.length=n:=by rw [hxs,List.length_map,lst_len]
  have hxa:∀j u,xs[j]?=some u->j<n/\u = .int .u8 (F j):=fun j u hj=>by
   rw [hxs] at hj
   have hjn:j<n:=by
    rcases Nat.lt_or_ge j n with h | h
    ·exact h
    ·rw [List.getElem?_eq_none (by rw [List.length_map,lst_len];exact h)] at hj;cases hj
   refine⟨hjn,?_⟩
   simp [lst,hjn] at hj
   exact hj.symm
  have HN:Hid (∀j u,xs[j]?=some u->(w.alloc (.cells #[] 5)).cell? (a.add j)=some u):=by
   intro j u hj
   obtain⟨hjn,rfl⟩:=hxa j u hj
   obtain⟨b,off,hp,hb,hcell⟩:=HC.out (by omega)
   obtain rfl:a=⟨b,off,none⟩:=by simpa using hp
   rw [add_plain,(Old.alloc w (.cells #[] 5)).cell (a:=⟨b,off+j,none⟩) hb]
   exact hcell j hjn
  have HO:Hid (Old w (w.alloc (.cells #[] 5))):=Old.alloc _ _
  have HX:=zH hxl
  have H1:=zH (show ∀u∈xs,u.oneCell'=true by rw [hxs];exact u8_one _)
  have HAt:=zH (show ∀j,j<n->xs[j]?=some (.int .u8 (F j)) from fun j hj=>by rw [hxs];simp [lst,hj])
  clear HC hxs hxl hxa
  have hE:=eql_sl_nil 34 5 (some a) n cap Tryz.underlying34
  have ho:=own_emptyS w 5 1
  go_enter Tryz.func71,Tryz.ntmps71
  go_wp2_with (at_builtin;refine append_X _ rfl _ _ 34 rfl (fun q=>q<w.heap.size) 5 i0 (.int .u8 0) 1 Tryz.underlying34 hi hz0 hz1 hz2 rfl _ _ _ rfl ho a n cap xs rfl HX.out HN.out H1.out (by unfold maxLen;omega) (by omega) (fun q hq=>Nat.lt_of_lt_of_le hq HO.out.size) ?_;intro v' w2 hown2 hk2 _;have HR2:=zH (show ownX (fun q=>q<w.heap.size) w2 5 v' n xs from(by have:=hown2;rw [Nat.zero_add,List.nil_append] at this;exact this));have HO2:=zH (HO.out.after hk2 (fun _ h=>h));clear hown2 hk2 HO HN HX H1 ho)
  go_ret
  rcases HR2.out.shape with ⟨hv,h0⟩ | ⟨g,c,hv,_,hg,h1,h2,h3⟩
  ·exact⟨none,0,by rw [h0,←hv];rfl,by omega,Nat.zero_le _,fun h=>by omega,HO2.out⟩
  ·exact⟨_,c,by rw [←hv];rfl,h1,h2,fun _=>⟨g,0,rfl,hg,fun j hj=>by rw [Nat.zero_add];exact h3 j _ (HAt.out j hj)⟩,HO2.out⟩
set_option maxHeartbeats 4000000 in
theorem EqualM_any(p q:Option Addr)(n c c':Nat)(D E:Nat->Mt)(w:World)(hp:MtsS w p n D)(hq:MtsS w q n E)(hn:n<=1048576)(hDE:∀i,i<n->D i=(E i).at_ (D i).x (D i).y):
  Calls Tryz.prog 70 #[.slice p n c,.slice q n c'] w fun e w'=>∃r,e = .returned (.bool r)/\(r=true↔∀i,i<n->D i=E i)/\Old w w':=by
 have HP:=zH hp
 have HQ:=zH hq
 have HDE:=zH hDE
 have HO0:=zH (Old.refl w)
 have Hs9:Hid ((Tryz.prog.info? 85).map (·.size)=some 9):=zH (by kernel_rfl)
 have hnn:((n:Int) != n)=false:=by simp
 clear hp hq hDE
 go_enter Tryz.func70,Tryz.ntmps70
 go_wp2_with fail
 go_loopw [13] (fun iv wr=>∃k:Nat,k<=n/\iv = .int .i64 k/\Hid (Old w wr)/\Hid (∀i,i<k->D i=E i)) (fun i _=>n-(intOf i).toNat)
 case atStart=>exact⟨0,by omega,by go_num,HO0,zH fun i hi=>by omega⟩
 case round=>
  clear HO0
  obtain⟨k,hk,rfl,HO,HJ⟩:=hrel
  by_cases hkn:k<n
  ·obtain⟨g1,o1,rfl,hg1,hc1⟩:=(HP.out.old HO.out).cell (by omega)
   obtain⟨g2,o2,rfl,hg2,hc2⟩:=(HQ.out.old HO.out).cell (by omega)
   have hde:=HDE.out k hkn
   obtain⟨X,hX⟩:∃X,X=(D k).cells:=⟨_,rfl⟩
   obtain⟨Y,hY⟩:∃Y,Y=(E k).cells:=⟨_,rfl⟩
   obtain⟨r,hr⟩:∃r,r=decide ((D k).x=(E k).x/\(D k).y=(E k).y):=⟨_,rfl⟩
   have hne:∀w',(binOp .neq 85 (.agg X) (.agg Y)).run Tryz.prog w' = .ok (.bool !r) w':=fun w'=>by
    rw [hX,hY,hde,hr]
    exact neq_mt w' (E k).s (E k).n (E k).r (E k).c (E k).lp (E k).a (E k).b (D k).x (D k).y (E k).x (E k).y
   have hrk:r=true↔D k=E k:=by
    rw [hr,decide_eq_true_eq]
    constructor
    ·rintro ⟨e1,e2⟩
     rw [hde,e1,e2]
     rfl
    ·intro e
     rw [e]
     exact⟨rfl,rfl⟩
   have HRk:=zH hrk
   have HX:Hid (∀V,Old wr V->(∀j v,X.toList[j]?=some v->V.cell? ⟨g1,o1+k*9+j,none⟩=some v)/\∀j v,Y.toList[j]?=some v->V.cell? ⟨g2,o2+k*9+j,none⟩=some v):=zH fun V hV=>by
    rw [hX,hY]
    exact⟨fun j v hv=>(hV.cell (a:=⟨g1,o1+k*9+j,none⟩) hg1).trans (hc1 k hkn j v (by simpa using hv)),fun j v hv=>(hV.cell (a:=⟨g2,o2+k*9+j,none⟩) hg2).trans (hc2 k hkn j v (by simpa using hv))⟩
   have HLx:Hid ((Tryz.prog.info? 85).map (·.size)=some X.toList.length):=zH (by rw [hX];exact Hs9.out)
   have HLy:Hid ((Tryz.prog.info? 85).map (·.size)=some Y.toList.length):=zH (by rw [hY];exact Hs9.out)
   have i0:(0:Int)<=k:=by omega
   have i1:(k:Int)<n:=by omega
   clear hX hY hr hrk hde hc1 hc2 hg1 hg2 hnn
   go_wp2_with fail
   refine wp_region_held_drew (S:=(fun V=>(∀j v,X.toList[j]?=some v->V.cell? ⟨g1,o1+k*9+j,none⟩=some v)/\∀j v,Y.toList[j]?=some v->V.cell? ⟨g2,o2+k*9+j,none⟩=some v)) (by kernel_rfl) ?_ (fun hHeld=>?_)
   ·(try dsimp only);exact HX.out _ (Old.drew (Old.refl wr))
   refine wpU 0 rfl ?_;try simp only [Act.put,sA,sZ,sS]
   refine wpU 1 rfl ?_;try simp only [Act.put,sA,sZ,sS]
   refine wpU 2 rfl ?_;try simp only [Act.put,sA,sZ,sS]
   refine wpT 3 (v:=.agg X) rfl (yieldsIf_load_mid (by kernel_rfl) 85 (.tmp 18) rfl g1 (o1+k*9) rfl X.toList _ (fun _ h j v hv=>h.1 j v hv) Tryz.underlying85 rfl HLx.out) (by assumption) ?_;try simp only [Act.put,sA,sZ,sS]
   refine wpU 4 rfl ?_;try simp only [Act.put,sA,sZ,sS]
   refine wpU 5 rfl ?_;try simp only [Act.put,sA,sZ,sS]
   refine wpU 6 rfl ?_;try simp only [Act.put,sA,sZ,sS]
   refine wpT 7 (v:=.agg Y) rfl (yieldsIf_load_mid (by kernel_rfl) 85 (.tmp 22) rfl g2 (o2+k*9) rfl Y.toList _ (fun _ h j v hv=>h.2 j v hv) Tryz.underlying85 rfl HLy.out) (by assumption) ?_;try simp only [Act.put,sA,sZ,sS]
   refine wpU 8 rfl ?_;try simp only [Act.put,sA,sZ,sS]
   refine wpAnyH_done (by kernel_rfl) ?_ _
   clear hne
   have HO2:=zH (HO.out.trans (Old.drew (Old.refl wr)))
   cases r
   ·go_wp2_with fail
    go_ret
    refine⟨false,rfl,⟨fun h=>(by cases h),fun h=>?_⟩,HO2.out⟩
    have:=HRk.out.2 (h k hkn)
    cases this
   ·have HJ2:=zH (show ∀i,i<k+1->D i=E i from fun i hi=>by
     by_cases e:i=k
     ·rw [e];exact HRk.out.1 rfl
     ·exact HJ.out i (by omega))
    clear HX HJ HO
    go_wp2_with fail
    go_roundw
    case rel=>exact⟨k+1,by omega,by go_num,HO2,HJ2⟩
    case measure=>simp [intOf];omega
  ·obtain rfl:k=n:=by omega
   clear hnn
   go_wp2_with fail
   go_ret
   exact⟨true,rfl,⟨fun _=>HJ.out,fun _=>rfl⟩,HO.out⟩
end Go.Proofs.YtgefdmfcddpaiaaGreatDoor
