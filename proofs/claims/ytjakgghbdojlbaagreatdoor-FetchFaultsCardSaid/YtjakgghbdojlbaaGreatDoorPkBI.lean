/- Texts joined: FetFa. -/
import Derived.Deep.RegionHeld
import Derived.BigQuiet
import Derived.Test.YtjakgghbdojlbaaGreatDoorPkAD
import Derived.Test.YtjakgghbdojlbaaGreatDoorPkBH
import Derived.Test.YtjakgghbdojlbaaGreatDoorTk
namespace Go.Proofs.YtjakgghbdojlbaaGreatDoor
set_option linter.unusedVariables false
set_option linter.unusedSimpArgs false
set_option maxRecDepth 100000
open Go.RowKit Go.ChangeShapes Go.WideShapes
structure FbR(w:World)(P Q:FyP)(a1 g1 a2 g2:Nat)(c:Cch)(d:Dsk)(m:Int)(kk:Nat->Int)(W8 W9:World)(nb:Nat)(X:Nat->Int)(k:Nat)(p:Option Addr)(cap:Nat)(T:Nat->Int)(er:Int)(c':Cch)(d':Dsk)(a' m':Int)(wx:World):Prop where
 tw:TwS w P Q a1 g1 a2 g2 c' d' a' m' c d wx
 kp:Kept (but2 P Q W8) W8 wx
 got:GotB W9 wx nb X k p cap T
 tn:0<k->∀b,p=some b->W9.heap.size<=b.block
 fa:FaR P c d m (kk 0) (kk 1) (kk 2) X k p T er c' d' m'
set_option maxHeartbeats 16000000 in
theorem fetFa_any(q:Option Addr)(n c0:Nat)(L:Nat->Smp)(rt:Int)(pf:Option Addr)(nf cf:Nat)(FP FG FA FX:Nat->Int)(r:Option Addr)(N cap:Nat)(K:Nat->Int)(w:World)(hs:SmsS w q n L)(hf:SlFlt w pf nf FP FG FA FX)(hnf:nf<=9223372036854775807)
  (hfb:∀i,i<nf->(-9223372036854775808<=FG i/\FG i<=9223372036854775807)/\0<=FX i/\FX i<=255) (hK:SlF 3 w r N K):
  Calls Tryz.prog 5 #[.slice q n c0,.int .i64 rt,.slice pf nf cf,.slice r N cap] w fun e w'=>e = .returned (.bool true)/\Old w w':=by
 have Hs29:Hid ((Tryz.prog.info? 75).map (·.size)=some 29):=zH (by kernel_rfl)
 have Hs3:Hid ((Tryz.prog.info? 66).map (·.size)=some 3):=zH (by kernel_rfl)
 obtain⟨z,hz⟩:∃z:Array Value,z=rowN 29 (frC (fun _=>0) (.slice none 0 0)):=⟨_,rfl⟩
 have HZf:=zH hz
 rw [frC_zero] at hz
 have Hz:=zH hz
 have HMd:=zH (fun V (o:Old w V)=>made18_any 24 q n c0 L 3 rt V (hs.old o))
 have HK:=zH hK
 have HF:=zH (And.intro hf (And.intro hnf hfb))
 clear hs hK hz hf hnf hfb
 go_enter Tryz.func5,Tryz.ntmps5
 go_wp2_with fail
 refine(HMd.out w (Old.refl w)).mono ?_
 rintro e W1 ⟨Z0,hz0,h1⟩
 have ho1:Old w W1:=by
  rcases h1 with ⟨_,o,_⟩ | ⟨_,_,_,_,_,_,P,ab,g,Z,_,_,_,_,hmd⟩
  ·exact o
  ·exact hmd.old
 obtain⟨v1,hv1⟩:∃v,e = .returned v:=by
  rcases h1 with ⟨rfl,_,_⟩ | ⟨_,_,_,_,_,_,P,ab,g,Z,rfl,_,_,_,_⟩ <;> exact⟨_,rfl⟩
 subst hv1
 have HM2:=zH (HMd.out W1 ho1)
 have HO1:=zH ho1
 have H1:=zH h1
 have HZ0:=zH hz0
 clear ho1 h1 hz0 HMd
 go_wp2_with fail
 refine HM2.out.mono ?_
 rintro e W2 ⟨Y0,hy0,h2⟩
 have ho2:Old W1 W2:=by
  rcases h2 with ⟨_,o,_⟩ | ⟨_,_,_,_,_,_,P,ab,g,Z,_,_,_,_,hmd⟩
  ·exact o
  ·exact hmd.old
 have HO2:=zH (HO1.out.trans ho2)
 rcases H1.out with ⟨e1,_,_⟩ | ⟨_,_,_,_,_,_,P,ab,g,Z,e1,s1,n1,r1,md1⟩
 ·injection e1 with e1
  subst e1
  obtain⟨v2,hv2⟩:∃v,e = .returned v:=by
   rcases h2 with ⟨rfl,_,_⟩ | ⟨_,_,_,_,_,_,P,ab,g,Z,rfl,_,_,_,_⟩ <;> exact⟨_,rfl⟩
  subst hv2
  clear h2 ho2 hy0 H1 HM2 HZ0
  go_wp2_with fail
  refine(awake18_any W2).mono ?_
  rintro e V ⟨rfl,o⟩
  have HE:=zH (HO2.out.trans o)
  clear o
  go_wp2_with fail
  go_ret
  exact⟨rfl,HE.out⟩
 injection e1 with e1
 subst e1
 rcases h2 with ⟨rfl,_,_⟩ | ⟨_,_,_,_,_,_,Q,ab2,g2,Y,rfl,s2,n2,r2,md2⟩
 ·clear ho2 hy0 H1 HM2 HZ0 md1 r1 n1 s1
  go_wp2_with fail
  refine(awake18_any W2).mono ?_
  rintro e V ⟨rfl,o⟩
  have HE:=zH (HO2.out.trans o)
  clear o
  go_wp2_with fail
  go_ret
  exact⟨rfl,HE.out⟩
 have hsz1:P.sz=24:=s1
 have hsz2:Q.sz=24:=s2
 have htf:=twin_facts md1 md2 hsz1 hsz2 n1 n2 (fun i hi=>(HZ0.out i hi).2) (fun i hi=>(hy0 i hi).2) r1 r2
 have hTw:=twin_start md1 md2
 have hdd:dk0 Q.NI Q.F=dk0 P.NI P.F:=by rw [htf.1.F,htf.2]
 have hN1:(dk0 P.NI P.F).N=P.N:=md1.hN.symm
 have hN2:(dk0 Q.NI Q.F).N=Q.N:=md2.hN.symm
 rw [hdd] at hTw hN2
 have HTF:=zH htf.1
 have HT0:=zH hTw
 obtain⟨d0,hd0⟩:∃d,d=dk0 P.NI P.F:=⟨_,rfl⟩
 rw [←hd0] at HT0 hN1 hN2
 obtain⟨cc,hcc⟩:∃c,c=cc0 (3:Int).toNat rt.toNat:=⟨_,rfl⟩
 rw [←hcc] at HT0
 clear htf hTw hdd hd0 hcc md1 md2 r1 r2 n1 n2 s1 s2 hsz1 hsz2 hy0 ho2 H1 HM2 HZ0 HO1
 have hm1:∀a,0<nf->pf=some a->a.block≠P.dm:=fun a ha he=>by
  obtain⟨b,o,e1,h2,_⟩:=HF.out.1 ha
  rw [e1] at he;cases he
  have h3:=HT0.out.pl.nP P.dm (by unfold FyP.wr;simp)
  show b≠P.dm
  omega
 have hm2:∀a,0<nf->pf=some a->a.block≠Q.dm:=fun a ha he=>by
  obtain⟨b,o,e1,h2,_⟩:=HF.out.1 ha
  rw [e1] at he;cases he
  have h3:=HT0.out.pl.nQ Q.dm (by unfold FyP.wr;simp)
  show b≠Q.dm
  omega
 have HLP:=zH (lay18_any (P.dm+1) P.dm (some ⟨P.pb,0,none⟩) P.N d0 pf nf cf FP FG FA FX W2 HT0.out.p.ck.dk (HF.out.1.old HT0.out.old) hm1 HF.out.2.1 HF.out.2.2)
 obtain⟨dL,hdL⟩:∃d,d=layTo d0 FP FG FA FX (min nf 20):=⟨_,rfl⟩
 have hNL:dL.N=d0.N:=by rw [hdL];exact layTo_N _ _ _ _ _ _
 have HNL:=zH (And.intro hNL (And.intro hN1 hN2))
 have HM2':=zH hm2
 have c1:=HT0.out.b1.cells.2.1
 rw [←hdL] at HLP
 have HdL:=zH hdL
 clear hm1 hm2 hNL hN1 hN2 hdL
 go_wp2_with fail
 refine HLP.out.mono ?_
 rintro e W3 ⟨rfl,hd3,hk3⟩
 have hT3:=HT0.out.stepP (HT0.out.p.faults hd3 hk3 (by rw [HNL.out.1,HNL.out.2.1])) (hk3.mono fun x hx=>⟨hx.1,fun e=>hx.2 (by unfold FyP.wr;simp [e])⟩)
 have HT3:=zH hT3
 clear hd3 hk3 hT3 c1 HLP HT0
 have c1:=HT3.out.b2.cells.2.1
 have HLQ:=zH (lay18_any (Q.dm+1) Q.dm (some ⟨Q.pb,0,none⟩) Q.N d0 pf nf cf FP FG FA FX W3 HT3.out.q.ck.dk (HF.out.1.old HT3.out.old) HM2'.out HF.out.2.1 HF.out.2.2)
 rw [←HdL.out] at HLQ
 go_wp2_with fail
 refine HLQ.out.mono ?_
 rintro e W4 ⟨rfl,hd4,hk4⟩
 have hT4:=HT3.out.stepQ (HT3.out.q.faults hd4 hk4 (by rw [HNL.out.1,HNL.out.2.2])) (hk4.mono fun x hx=>⟨hx.1,fun e=>hx.2 (by unfold FyP.wr;simp [e])⟩)
 have HT4:=zH hT4
 have HOw:=zH (fun V m c d (a:Int) (h:TwS w P Q ab g ab2 g2 c d a m c d V)=>h.old)
 obtain⟨bb,hbb⟩:∃x,x=P.bb:=⟨_,rfl⟩
 obtain⟨fb,hfb⟩:∃x,x=P.fb:=⟨_,rfl⟩
 obtain⟨fb2,hfb2⟩:∃x,x=Q.fb:=⟨_,rfl⟩
 obtain⟨bq,hbq⟩:∃x,x=Q.bb:=⟨_,rfl⟩
 obtain⟨cb2,hcb2⟩:∃x,x=Q.z0+2:=⟨_,rfl⟩
 obtain⟨cb1,hcb1⟩:∃x,x=P.z0+2:=⟨_,rfl⟩
 have HC:Hid (∀V c d (a m:Int) c2 d2,TwS w P Q ab g ab2 g2 c d a m c2 d2 V->(V.cell? ⟨ab,0,none⟩=some (.pointer (some ⟨bb,0,none⟩))/\V.cell? ⟨ab,2,none⟩=some (.pointer (some ⟨fb,0,none⟩)))/\(V.cell? ⟨ab2,0,none⟩=some (.pointer (some ⟨bq,0,none⟩))/\V.cell? ⟨ab2,2,none⟩=some (.pointer (some ⟨fb2,0,none⟩)))/\V.cell? ⟨fb2,0,none⟩=some (.pointer (some ⟨cb2,0,none⟩))/\V.cell? ⟨fb,0,none⟩=some (.pointer (some ⟨cb1,0,none⟩))):=zH fun V c d a m c2 d2 h=>by
  rw [hbb,hfb,hfb2,hbq,hcb2,hcb1]
  exact⟨⟨h.b1.cells.1,h.b1.cells.2.2⟩,⟨h.b2.cells.1,h.b2.cells.2.2⟩,h.q.ft.cells.1,h.p.ft.cells.1⟩
 have HWh:=zH (fun V c d (a m:Int) c2 d2 (h:TwS w P Q ab g ab2 g2 c d a m c2 d2 V) (i ch bl:Int)=>BWhere_any P.bb P.sz P.n P.NI P.q P.cq P.im P.ci P.D P.F V h.p.bk h.p.bn i ch bl)
 have HFr:=zH (fun V c d (a m:Int) c2 d2 (h:TwS w P Q ab g ab2 g2 c d a m c2 d2 V) (i ch bl:Int)=>h.frame i ch bl)
 have HMi:=zH (fun V c d (a m:Int) c2 d2 (h:TwS w P Q ab g ab2 g2 c d a m c2 d2 V)=>fMissed_at P.fb (P.z0+2) P.bb a m V h.p.ft)
 have HTl:=zH (fun V c d (a m:Int) c2 d2 (h:TwS w P Q ab g ab2 g2 c d a m c2 d2 V)=>cTold_at _ _ _ _ _ _ _ _ c V h.p.ck.cc)
 have HTl2:=zH (fun V c d (a m:Int) c2 d2 (h:TwS w P Q ab g ab2 g2 c d a m c2 d2 V)=>cTold_at _ _ _ _ _ _ _ _ c2 V h.q.ck.cc)
 have HSp:=zH (fun V c d (a m:Int) c2 d2 (h:TwS w P Q ab g ab2 g2 c d a m c2 d2 V) (AT:Nat) (hn:AT+24<=64*Q.N)=>h.q.Span (at_:=AT) (n:=24) hn)
 have HOp:=zH (fun V c d (a m:Int) c2 d2 (h:TwS w P Q ab g ab2 g2 c d a m c2 d2 V)=>BOpen_any Q.bb Q.sz Q.n Q.NI Q.q Q.cq Q.im Q.ci Q.D Q.F V h.q.bk h.q.bn)
 have HPl:=zH (fun V c d (a m:Int) c2 d2 (h:TwS w P Q ab g ab2 g2 c d a m c2 d2 V) (i ch bl:Int) (hw:whI Q.n Q.D i ch bl=0)=>h.q.place hw)
 rw [←hbb] at HWh
 rw [←hfb] at HFr HMi
 rw [←hcb1] at HTl
 rw [←hcb2] at HTl2 HSp
 rw [←hbq] at HOp
 have HR:Hid (TwS w P Q ab g ab2 g2 cc dL 0 ((0:Nat):Int) cc dL W4):=HT4
 clear hd4 hk4 hT4 HT4 c1 HLQ HT3 HNL HM2' HdL HO2 HF HOw hbb hfb hfb2 hbq hcb1 hcb2
 go_wp2_with fail
 go_loopw [11,12] (fun mv iv wr=>∃(m i:Nat) (c:Cch) (d:Dsk) (a:Int),i<=N/\i<=30/\m<=i/\mv = .int .i64 m/\iv = .int .i64 i/\Hid (TwS w P Q ab g ab2 g2 c d a m c d wr)) (fun _ iv _=>30-(intOf iv).toNat)
 case atStart=>exact⟨0,0,_,_,_,by omega,by omega,by omega,by go_num,by go_num,HR⟩
 case round=>
  clear HR
  obtain⟨m,i,c,d,a,hiN,hi4,hmi,rfl,rfl,HR⟩:=hrel
  go_upto_region 9 with (fail)
  go_cut [57] (fun v wx=>v = .bool (decide (i<N/\i<30))/\wr=wx)
  case first=>
   clear HR HK HFr HWh HC HMi HTl HTl2 HSp HOp HPl HTF
   by_cases a1:i<N
   ·by_cases a2:i<30
    ·have He:=zH (show decide (i<N/\i<30)=true from decide_eq_true ⟨a1,a2⟩)
     go_wp2_with fail
     go_meet
     exact⟨by first | (rw [He.out];done) | (rw [He.out];exact congrArg Value.bool (decide_eq_true (by omega))) | (rw [He.out];exact congrArg Value.bool (decide_eq_false (by omega))),rfl⟩
    ·have He:=zH (show decide (i<N/\i<30)=false from decide_eq_false fun h=>a2 h.2)
     go_wp2_with fail
     go_meet
     exact⟨by first | (rw [He.out];done) | (rw [He.out];exact congrArg Value.bool (decide_eq_true (by omega))) | (rw [He.out];exact congrArg Value.bool (decide_eq_false (by omega))),rfl⟩
   ·have He:=zH (show decide (i<N/\i<30)=false from decide_eq_false fun h=>a1 h.1)
    go_wp2_with fail
    go_meet
    exact⟨by first | (rw [He.out];done) | (rw [He.out];exact congrArg Value.bool (decide_eq_true (by omega))) | (rw [He.out];exact congrArg Value.bool (decide_eq_false (by omega))),rfl⟩
  case rest=>as_aux_lemma=>
   obtain⟨rfl,rfl⟩:=hcut
   by_cases ha:i<N/\i<30
   ·rw [decide_eq_true ha]
    have hn:=ha.1
    have HIN:=zH ha
    clear ha
    obtain⟨gw,ow,rfl,hgw,hcs⟩:=HK.out.old HR.out.old (by omega)
    have hcw:∀j,j<3->wr.cell? ⟨gw,ow+i*3+j,none⟩=some (.int .i64 (K (3*i+j))):=fun j hj=>by
     have:=hcs (3*i+j) (by omega)
     rw [show ow+(3*i+j)=ow+i*3+j by omega] at this
     exact this
    obtain⟨kk,hkk⟩:∃kk:Nat->Int,kk=fun j=>K (3*i+j):=⟨_,rfl⟩
    have HCw:Hid (∀j,j<3->wr.cell? ⟨gw,ow+i*3+j,none⟩=some (.int .i64 (kk j))):=zH (by rw [hkk];exact hcw)
    have H3one:Hid ((rowN 3 (blk kk)).all (·.oneCell')=true):=zH (rowN_one _ _ fun k _=>rfl)
    have q0:(0:Int)<=i:=by omega
    have q1:(i:Int)<N:=by omega
    obtain⟨W8,hW8⟩:∃W8,W8=wr.alloc (.cells (rowN 3 (blk kk)) 66):=⟨_,rfl⟩
    obtain⟨bw,hbw⟩:∃b,b=wr.heap.size:=⟨_,rfl⟩
    have hb8:W8.heap[bw]?=some (.cells (rowN 3 (blk kk)) 66 (0,0)):=by rw [hW8,hbw];exact heap_alloc_new _ _
    have hr8:=HR.out.on (V:=W8) (by rw [hW8];exact Old.alloc _ _)
    have HR8:=zH hr8
    have hcc:∀V,Kept (but2 P Q W8) W8 V->V.cell? ⟨bw,0,none⟩=some (.int .i64 (kk 0))/\V.cell? ⟨bw,1,none⟩=some (.int .i64 (kk 1))/\V.cell? ⟨bw,2,none⟩=some (.int .i64 (kk 2)):=fun V hV=>by
     have hbut:but2 P Q W8 bw:=by
      have h:=HR.out.but_new bw (by omega)
      exact⟨lt_of_block hb8,h.1,h.2⟩
     have hb:=(hV.block bw hbut).trans hb8
     exact⟨(cell_of_row _ _ _ _ _ _ hb).trans (rowN_at 3 _ 0 (by omega)),(cell_of_row _ _ _ _ _ _ hb).trans (rowN_at 3 _ 1 (by omega)),(cell_of_row _ _ _ _ _ _ hb).trans (rowN_at 3 _ 2 (by omega))⟩
    have HCc:=zH hcc
    have HW8:=zH hW8
    have HBw:=zH hbw
    clear hcw hkk hW8 hbw hb8 hr8 hcc hcs hgw HR
    go_upto_region 12 with (first | (with_reducible refine wpList_load_blk rfl 3 kk 66 _ rfl gw (ow+i*3) rfl _ HCw.out Tryz.underlying66 rfl Hs3.out ?_) | (with_reducible refine wpList_store_row rfl 66 _ _ rfl wr.heap.size (rowN 3 (blk kk)) rfl rfl 66 _ (heap_alloc_new _ _) (by rw [rowN_size];exact Hs3.out) (by rw [rowN_size];kernel_rfl) H3one.out ?_;rw [World.setRow_alloc_new,←HW8.out,←HBw.out]))
    obtain⟨E,hE⟩:∃E,E=whI P.n P.D (kk 0) (kk 1) (kk 2):=⟨_,rfl⟩
    have HE:=zH hE
    have HWh2:=zH (fun(V:World) (h:TwS w P Q ab g ab2 g2 c d a m c d V)=>HWh.out V _ _ _ _ _ _ h (kk 0) (kk 1) (kk 2))
    rw [←hE] at HWh2
    have hd:Old W8 W8.drew:=(Old.refl W8).drew
    have HD:=zH hd
    have HS:Hid (∀V,Old W8 V->V.cell? ⟨ab,0,none⟩=some (.pointer (some ⟨bb,0,none⟩))/\V.cell? ⟨bw,0,none⟩=some (.int .i64 (kk 0))/\V.cell? ⟨bw,1,none⟩=some (.int .i64 (kk 1))/\V.cell? ⟨bw,2,none⟩=some (.int .i64 (kk 2))):=zH fun V o=>⟨(HC.out V _ _ _ _ _ _ (HR8.out.on o)).1.1,HCc.out V (o.kept fun x hx=>hx.1)⟩
    clear hE q0 q1 hn HCw HK HWh hd
    try simp only [Act.put,sA,sZ,sS]
    refine wp_region_held_drew (S:=(fun V=>V.cell? ⟨ab,0,none⟩=some (.pointer (some ⟨bb,0,none⟩))/\V.cell? ⟨bw,0,none⟩=some (.int .i64 (kk 0))/\V.cell? ⟨bw,1,none⟩=some (.int .i64 (kk 1))/\V.cell? ⟨bw,2,none⟩=some (.int .i64 (kk 2)))) (by kernel_rfl) ?_ (fun hHeld=>?_)
    ·(try dsimp only);exact HS.out _ HD.out
    refine wpU 0 rfl ?_;try simp only [Act.put,sA,sZ,sS]
    refine wpU 1 rfl ?_;try simp only [Act.put,sA,sZ,sS]
    refine wpU 2 rfl ?_;try simp only [Act.put,sA,sZ,sS]
    refine wpU 3 rfl ?_;try simp only [Act.put,sA,sZ,sS]
    refine wpU 4 rfl ?_;try simp only [Act.put,sA,sZ,sS]
    refine wpU 5 rfl ?_;try simp only [Act.put,sA,sZ,sS]
    refine wpU 6 rfl ?_;try simp only [Act.put,sA,sZ,sS]
    refine wpU 7 rfl ?_;try simp only [Act.put,sA,sZ,sS]
    refine wpU 8 rfl ?_;try simp only [Act.put,sA,sZ,sS]
    refine wpU 9 rfl ?_;try simp only [Act.put,sA,sZ,sS]
    refine wpR 10 rfl (fun K hK=>?_)
    go_simp
    refine(HWh2.out _ (HR8.out.on HD.out)).mono ?_
    rintro e V2 ⟨A,SS,rfl,hA,_,o2⟩
    have HO2:=zH (HD.out.trans o2)
    have HA:=zH hA
    clear o2 hA HWh2
    go_wp2_with fail
    refine hK.out _ _ ?_ (fun hHeld=>?_)
    ·(try dsimp only);exact HS.out _ HO2.out
    clear hK K
    try simp only [Act.put,sA,sZ,sS]
    refine wpU 11 rfl ?_;try simp only [Act.put,sA,sZ,sS]
    refine wpU 12 rfl ?_;try simp only [Act.put,sA,sZ,sS]
    refine wpU 13 rfl ?_;try simp only [Act.put,sA,sZ,sS]
    refine wpU 14 rfl ?_;try simp only [Act.put,sA,sZ,sS]
    refine wpU 15 rfl ?_;try simp only [Act.put,sA,sZ,sS]
    refine wpU 16 rfl ?_;try simp only [Act.put,sA,sZ,sS]
    refine wpU 17 rfl ?_;try simp only [Act.put,sA,sZ,sS]
    refine wpAnyH_done (by kernel_rfl) ?_ _
    have hr9:=HR8.out.on HO2.out
    have HR9:=zH hr9
    have HK9:Hid (Kept (but2 P Q W8) W8 V2):=zH (HO2.out.kept fun x hx=>hx.1)
    obtain⟨W9,rfl⟩:∃V,V=V2:=⟨_,rfl⟩
    clear hr9 HS HD H3one HW8 HBw
    go_upto_region 13 with (fail)
    try simp only [Act.put,sA,sZ,sS]
    go_cut [17,18] (fun bv ev wx=>∃nb X k p cap T er c' d' a' m',bv = .pointer (some ⟨nb,0,none⟩)/\ev = .int .i64 er/\Hid (FbR w P Q ab g ab2 g2 c d m kk W8 W9 nb X k p cap T er c' d' a' m' wx))
    case first=>as_aux_lemma=>
     have HFr2:=zH (fun V (h:TwS w P Q ab g ab2 g2 c d a m c d V)=>HFr.out V _ _ _ _ _ _ h (kk 0) (kk 1) (kk 2))
     clear HMi HTl HTl2 HSp HOp HPl HTF HFr HA HE
     have hd:Old W9 W9.drew:=(Old.refl W9).drew
     have HD:=zH hd
     have hs89:=HO2.out.size
     have HS:Hid (∀V c' d' (a' m':Int),TwS w P Q ab g ab2 g2 c' d' a' m' c d V->Kept (but2 P Q W8) W8 V->V.cell? ⟨ab,2,none⟩=some (.pointer (some ⟨fb,0,none⟩))/\V.cell? ⟨bw,0,none⟩=some (.int .i64 (kk 0))/\V.cell? ⟨bw,1,none⟩=some (.int .i64 (kk 1))/\V.cell? ⟨bw,2,none⟩=some (.int .i64 (kk 2))):=zH fun V c' d' a' m' h k=>⟨(HC.out V _ _ _ _ _ _ h).1.2,HCc.out V k⟩
     have HK9d:Hid (Kept (but2 P Q W8) W8 W9.drew):=zH (HK9.out.trans (but2_old hs89 hd))
     clear hd HC HCc
     refine wp_region_held_drew (S:=(fun V=>V.cell? ⟨ab,2,none⟩=some (.pointer (some ⟨fb,0,none⟩))/\V.cell? ⟨bw,0,none⟩=some (.int .i64 (kk 0))/\V.cell? ⟨bw,1,none⟩=some (.int .i64 (kk 1))/\V.cell? ⟨bw,2,none⟩=some (.int .i64 (kk 2)))) (by kernel_rfl) ?_ (fun hHeld=>?_)
     ·(try dsimp only);exact HS.out _ _ _ _ _ (HR9.out.on HD.out) HK9d.out
     refine wpU 0 rfl ?_;try simp only [Act.put,sA,sZ,sS]
     refine wpU 1 rfl ?_;try simp only [Act.put,sA,sZ,sS]
     refine wpU 2 rfl ?_;try simp only [Act.put,sA,sZ,sS]
     refine wpU 3 rfl ?_;try simp only [Act.put,sA,sZ,sS]
     refine wpU 4 rfl ?_;try simp only [Act.put,sA,sZ,sS]
     refine wpU 5 rfl ?_;try simp only [Act.put,sA,sZ,sS]
     refine wpU 6 rfl ?_;try simp only [Act.put,sA,sZ,sS]
     refine wpU 7 rfl ?_;try simp only [Act.put,sA,sZ,sS]
     refine wpU 8 rfl ?_;try simp only [Act.put,sA,sZ,sS]
     refine wpU 9 rfl ?_;try simp only [Act.put,sA,sZ,sS]
     refine wpAnyH_ready (rs:=[10,14]) (by kernel_rfl) (by simp) ?_
     (refine AllReadyH.cons (o:=⟨_,_,_,_,_,_⟩) (by rfl) ?_ (AllReadyH.cons (o:=⟨_,_,_,_,_,_⟩) (by rfl) ?_ AllReadyH.nil)) <;> intro K hK
     ·go_simp
      refine(HFr2.out _ (HR9.out.on HD.out)).mono ?_
      rintro e V ⟨X,k,p,cap,T,er,c',d',a',m',rfl,g1',g2',g3,g4,g5,g6,hr,hk⟩
      have hk8:Kept (but2 P Q W8) W8 V:=HK9d.out.trans (but2_P hs89 hk)
      have H1x:Hid ((rowN 29 (frC X (.slice p k cap))).all (·.oneCell')=true):=zH (frC_one _ _ rfl)
      have hsz:W9.heap.size<=V.heap.size:=hk.size
      have hka:=hk8.trans (but2_old (Nat.le_trans hs89 hsz) (Old.alloc V (.cells z 75)))
      have HG:=zH (tw_set HR9.out (hr.on (Old.alloc V (.cells z 75))) hs89 hka (nb:=V.heap.size) hsz (newFr V z 75 HZf.out) (X:=X) g1' g2' (g3.old (Old.alloc V _)) g4 (fun hn a ha=>by
       obtain⟨g',o',e,hl,_⟩:=g3 hn
       rw [e] at ha
       cases ha
       show g'≠_
       omega))
      have HRv:=zH hr
      have HKv:=zH hk8
      have H5:=zH (And.intro g5 g6)
      have HRa:=zH (hr.on (Old.alloc V (.cells z 75)))
      have HKa:=zH hka
      clear g1' g2' g3 g4 g5 g6 hr hk hk8 hsz hka
      go_wp2_with fail
      refine hK.out _ _ ?_ (fun hHeld=>?_)
      ·(try dsimp only);exact HS.out _ _ _ _ _ HRv.out HKv.out
      clear hK K
      try simp only [Act.put,sA,sZ,sS]
      refine wpU 11 rfl ?_;try simp only [Act.put,sA,sZ,sS]
      refine wpU 12 rfl ?_;try simp only [Act.put,sA,sZ,sS]
      refine wpU 13 rfl ?_;try simp only [Act.put,sA,sZ,sS]
      refine wpR 14 rfl (fun K hK=>?_)
      go_simp
      rw [←Hz.out]
      refine hK.out _ _ ?_ (fun hHeld=>?_)
      ·(try dsimp only);exact HS.out _ _ _ _ _ HRa.out HKa.out
      clear hK K
      try simp only [Act.put,sA,sZ,sS]
      refine wpR 15 rfl (fun K hK=>?_)
      rw [if_pos (by kernel_rfl)]
      with_reducible refine wp_store_mid 75 _ _ rfl (V.heap.size) (0) (rowN 29 (frC X (.slice p k cap))) rfl rfl (by rw [rowN_size];exact(newFr V z 75 HZf.out).there 0 29 (by omega)) (by rw [rowN_size];exact Hs29.out) (H1x.out) ?_
      try simp only [Act.put,sA,sZ,sS]
      refine hK.out _ _ ?_ (fun hHeld=>?_)
      ·(try dsimp only);exact HS.out _ _ _ _ _ HG.out.1 HG.out.2.1
      clear hK K
      try simp only [Act.put,sA,sZ,sS]
      refine wpU 16 rfl ?_;try simp only [Act.put,sA,sZ,sS]
      refine wpAnyH_done (by kernel_rfl) ?_ _
      go_wp2_with fail
      go_meet
      exact⟨_,X,k,p,cap,T,er,c',d',a',m',rfl,rfl,zH ⟨HG.out.1,HG.out.2.1,HG.out.2.2,H5.out.1,H5.out.2⟩⟩
     ·go_simp
      rw [←Hz.out]
      have ha0:Old W9 (W9.alloc (.cells z 75)).drew:=(Old.alloc W9 _).drew
      have HA0:=zH ha0
      have HAl:=zH (HK9.out.trans (but2_old (Q:=Q) (P:=P) hs89 ha0))
      clear ha0
      refine hK.out _ _ ?_ (fun hHeld=>?_)
      ·(try dsimp only);exact HS.out _ _ _ _ _ (HR9.out.on HA0.out) HAl.out
      clear hK K
      try simp only [Act.put,sA,sZ,sS]
      refine wpR 10 rfl (fun K hK=>?_)
      go_simp
      refine(HFr2.out _ (HR9.out.on HA0.out)).mono ?_
      rintro e V ⟨X,k,p,cap,T,er,c',d',a',m',rfl,g1',g2',g3,g4,g5,g6,hr,hk⟩
      have hsa:(W9.alloc (.cells z 75)).drew.heap.size=W9.heap.size+1:=World.size_alloc W9 _
      have hk8:Kept (but2 P Q W8) W8 V:=HAl.out.trans (but2_P (by rw [hsa];omega) hk)
      have H1x:Hid ((rowN 29 (frC X (.slice p k cap))).all (·.oneCell')=true):=zH (frC_one _ _ rfl)
      have hcv:CellsV V W9.heap.size 29 (frC (fun _=>0) (.slice none 0 0)):=((newFr W9 z 75 HZf.out).drew).kept hk ⟨by rw [hsa];omega,(HR9.out.but_new _ (Nat.le_refl _)).1⟩
      have HG:=zH (tw_set HR9.out hr hs89 hk8 (nb:=W9.heap.size) (Nat.le_refl _) hcv (X:=X) g1' g2' g3 g4 (fun hn a ha=>by
       have h1:=g5 hn a ha
       omega))
      have HCv:=zH hcv
      have HRv:=zH hr
      have HKv:=zH hk8
      have g5':0<k->∀b,p=some b->W9.heap.size<=b.block:=fun hn b hb=>by have:=g5 hn b hb;omega
      have H5:=zH (And.intro g5' g6)
      clear g1' g2' g3 g4 g5 g5' g6 hr hk hk8 hcv hsa
      go_wp2_with fail
      refine hK.out _ _ ?_ (fun hHeld=>?_)
      ·(try dsimp only);exact HS.out _ _ _ _ _ HRv.out HKv.out
      clear hK K
      try simp only [Act.put,sA,sZ,sS]
      refine wpU 11 rfl ?_;try simp only [Act.put,sA,sZ,sS]
      refine wpU 12 rfl ?_;try simp only [Act.put,sA,sZ,sS]
      refine wpU 13 rfl ?_;try simp only [Act.put,sA,sZ,sS]
      refine wpR 15 rfl (fun K hK=>?_)
      rw [if_pos (by kernel_rfl)]
      with_reducible refine wp_store_mid 75 _ _ rfl (W9.heap.size) (0) (rowN 29 (frC X (.slice p k cap))) rfl rfl (by rw [rowN_size];exact HCv.out.there 0 29 (by omega)) (by rw [rowN_size];exact Hs29.out) (H1x.out) ?_
      try simp only [Act.put,sA,sZ,sS]
      refine hK.out _ _ ?_ (fun hHeld=>?_)
      ·(try dsimp only);exact HS.out _ _ _ _ _ HG.out.1 HG.out.2.1
      clear hK K
      try simp only [Act.put,sA,sZ,sS]
      refine wpU 16 rfl ?_;try simp only [Act.put,sA,sZ,sS]
      refine wpAnyH_done (by kernel_rfl) ?_ _
      go_wp2_with fail
      go_meet
      exact⟨_,X,k,p,cap,T,er,c',d',a',m',rfl,rfl,zH ⟨HG.out.1,HG.out.2.1,HG.out.2.2,H5.out.1,H5.out.2⟩⟩
    case rest=>as_aux_lemma=>
     obtain⟨nb,X,k,p,cap2,T,er,c',d',a',m',rfl,rfl,HG⟩:=hcut
     obtain⟨V0,rfl⟩:∃V,V=wc:=⟨_,rfl⟩
     by_cases h0:E=0
     case neg=>
      obtain⟨e1,e2,e3,e4⟩:=HG.out.fa.no (by rw [←HE.out];exact h0)
      rw [←HE.out] at e1
      subst e1 e2 e3 e4
      have hd1:(er != 0)=true:=by simpa using h0
      have hd2:(er != er)=false:=by simp
      have HR6:=zH HG.out.tw
      clear h0 HG HFr HMi HTl HTl2 HSp HOp HPl HTF HC HCc HE HA HR8 HR9 HK9 HO2
      go_wp2_with fail
      go_roundw
      case rel=>exact⟨m,i+1,_,_,a',by have:=HIN.out;omega,by have:=HIN.out;omega,by omega,by go_num,by go_num,HR6⟩
      case measure=>have:=HIN.out;simp [intOf];omega
     case pos=>as_aux_lemma=>
      subst h0
      have hw:whI P.n P.D (kk 0) (kk 1) (kk 2)=0:=HE.out.symm
      obtain⟨e1,e2,e3,e4,e5,e6⟩:=HG.out.fa.yes hw
      have hpo:=place_one HTF.out hw
      have hwq:=(whI_one HTF.out (kk 0) (kk 1) (kk 2)).trans hw
      have hpl:=HPl.out V0 _ _ _ _ _ _ HG.out.tw _ _ _ hwq
      have hA:=(HA.out rfl).1
      rw [hpo.1] at hpl
      obtain⟨AT,hAT⟩:∃x,x=frAt P.sz P.D (kk 0).toNat (whQ P.D (kk 0) (kk 1) (kk 2)):=⟨_,rfl⟩
      rw [←hAT] at e1 e2 e3 e5 hpl hA
      rw [HTF.out.sz] at e1 e2 e3 e5
      rw [HTF.out.sz2] at hpl
      obtain⟨R,hR⟩:∃R,R=spanR c d AT 24:=⟨_,rfl⟩
      rw [←hR] at e1 e2 e3 e5
      have hspan:=HSp.out V0 _ _ _ _ _ _ HG.out.tw AT hpl
      rw [←hR] at hspan
      subst hA
      have HSn:Hid (Calls Tryz.prog 28 #[.pointer (some ⟨cb2,0,none⟩),.int .i64 (AT:Int),.int .i64 24] V0 fun e V=>SpanRes V0.heap.size V 24 R.r e/\(∀G,R.r=some G->Byt G 24)/\FyS Q V R.c R.d 0 0/\Kept (Q.but V0) V0 V):=zH hspan
      have c1:=(HC.out V0 _ _ _ _ _ _ HG.out.tw).2.1.2
      have c2:=(HC.out V0 _ _ _ _ _ _ HG.out.tw).2.2.1
      have he4:=fetI_four P (kk 0) (kk 1) (kk 2) R.r
      have H4:=zH e4
      have H5:=zH (And.intro e5 e6)
      have H3:=zH e3
      have HE4:=zH he4
      have HPo:=zH (And.intro hpo.2 hwq)
      subst e1 e2
      clear hw hpo hpl hAT hR hspan e3 e4 e5 e6 he4 hwq HFr HMi HTl HTl2 HSp HPl HA HE
      go_wp2_with fail
      refine HSn.out.mono ?_
      rintro e V3 ⟨r1,r2,r3,r4⟩
      have hT3:=HG.out.tw.stepQ r3 r4
      have hnb:nb<V0.heap.size:=HG.out.got.cells.lt
      have hb9:=HG.out.got.ge
      have hG3:=HG.out.got.kept r4 ⟨hnb,(HR9.out.but_new nb hb9).2⟩ (fun hk b hb=>⟨HG.out.got.tn.ltb hk b hb,(HR9.out.but_new _ (HG.out.tn hk b hb)).2⟩)
      have hs8:W8.heap.size<=V0.heap.size:=HG.out.kp.size
      have hK3:=HG.out.kp.trans (but2_Q hs8 r4)
      have hn3:nb<V3.heap.size:=Nat.lt_of_lt_of_le hnb r4.size
      have HT3:=zH hT3
      have HG3:=zH hG3
      have HK3:=zH hK3
      have HN3:=zH hn3
      have Hby:=zH r2
      obtain⟨W4,hW4⟩:∃W,W=V3.alloc (.cells z 75):=⟨_,rfl⟩
      obtain⟨yb,hyb⟩:∃b,b=V3.heap.size:=⟨_,rfl⟩
      have o34:Old V3 W4:=by rw [hW4];exact Old.alloc _ _
      have HO34:=zH o34
      have HYb:Hid (W4.heap[yb]?=some (.cells z 75 (0,0))):=zH (by rw [hW4,hyb];exact heap_alloc_new _ _)
      have HW4:=zH hW4
      have Hyb:=zH hyb
      clear r2 r3 r4 hT3 hnb hb9 hG3 hs8 hK3 hn3 hW4 hyb o34 c1 c2 HSn HG HK9 HO2 HR8
      cases hr:R.r with
      | none=>
       rw [hr] at r1
       change e = .returned (.tuple #[.slice none 0 0,.int .i64 8]) at r1
       subst r1
       have h3:=H3.out
       rw [hr] at h3
       change er=8 at h3
       subst h3
       have h4:=H4.out
       rw [if_neg (by decide),IntWalk.wrap64_in _ (by have:=HIN.out;omega)] at h4
       have k0:=(H5.out.2 (by decide)).1
       have X0:=(H5.out.2 (by decide)).2.2
       have hg4:=HG3.out.old HO34.out
       have hsm:=same_zero (cap:=cap2) W4 k0 X0 hg4.tn
       have HSm:=zH hsm
       have HXc:Hid (∀j,j<29->W4.cell? ⟨nb,0+j,none⟩=some (frC X (.slice p k cap2) j)):=zH fun j hj=>by rw [Nat.zero_add];exact hg4.cells.cell j hj
       have HYc:Hid (∀j,j<29->W4.cell? ⟨yb,0+j,none⟩=some (frC (fun _=>0) (.slice none 0 0) j)):=zH fun j hj=>by rw [Nat.zero_add,cell_of_row _ _ _ _ _ _ HYb.out,HZf.out];exact rowN_at 29 _ j hj
       have HR6:=zH (HT3.out.on HO34.out)
       clear k0 X0 hg4 hsm hr HT3 HG3 HK3 HN3 Hby HYb H3 H5 HE4 HPo HOp HTF HC HCc HR9
       go_wp2_with (first
        | (rw [←Hz.out,←HW4.out,←Hyb.out];with_reducible refine wpList_load_fr_w (by kernel_rfl) (frC X (.slice p k cap2)) 75 _ rfl nb 0 rfl _ HXc.out Tryz.underlying75 rfl Hs29.out ?_)
        | (with_reducible refine wpList_load_fr_w (by kernel_rfl) (frC (fun _=>0) (.slice none 0 0)) 75 _ rfl yb 0 rfl _ HYc.out Tryz.underlying75 rfl Hs29.out ?_))
       refine HSm.out.mono ?_
       rintro e V6 ⟨rfl,o6⟩
       have HR7:=zH (HR6.out.on o6)
       have HM:=zH h4
       clear o6 HSm HR6 HXc HYc h4
       go_wp2_with fail
       go_roundw
       case rel=>exact⟨m+1,i+1,_,_,a',by have:=HIN.out;omega,by have:=HIN.out;omega,by omega,by go_num,by go_num,by rw [show ((m+1:Nat):Int)=m' by rw [HM.out];omega];exact HR7⟩
       case measure=>have:=HIN.out;simp [intOf];omega
      | some Gx=>
       rw [hr] at r1
       obtain⟨q3,c3,rfl,b1,b2,b3,_⟩:=r1
       have hby:=Hby.out Gx hr
       have h3:=H3.out
       rw [hr] at h3
       have hop:=HOp.out
       have h3':er=openI (frSum P.D P.F (kk 0).toNat (whQ P.D (kk 0) (kk 1) (kk 2))) (lst Gx 24):=by rw [←HTF.out.sz];exact h3
       have hoi:opnI Q.n Q.D Q.F (kk 0) (kk 1) (kk 2) (lst Gx 24)=er:=by
        unfold opnI
        rw [if_neg (by rw [HPo.out.2];simp),HPo.out.1,h3']
       have hOpn:=fun V (o:Old W4 V)=>HOp.out V _ _ _ _ _ _ (HT3.out.on (HO34.out.trans o)) (kk 0) (kk 1) (kk 2) q3 24 c3 Gx (b3.old (HO34.out.trans o)) hby b1 b2 (by omega)
       rw [hoi] at hOpn
       have HOpn:=zH hOpn
       have hbs:bsOf P R.r=some (lst Gx 24):=by rw [hr];show some (lst Gx P.sz)=_;rw [HTF.out.sz]
       have h5:=H5.out.1
       rw [hbs] at h5
       have H51:=zH h5
       have H52:=zH H5.out.2
       have HER:=H3
       clear hr b1 b2 b3 hby h3 hop h3' hoi hOpn hbs h5 H3 H5 Hby HPo HOp HTF
       go_upto_region 21 with fail
       rw [←Hz.out,←HW4.out,←Hyb.out]
       have hd:Old W4 W4.drew:=(Old.refl W4).drew
       have HD:=zH hd
       have HS:Hid (∀V,Old W4 V->V.cell? ⟨ab2,0,none⟩=some (.pointer (some ⟨bq,0,none⟩))/\V.cell? ⟨bw,0,none⟩=some (.int .i64 (kk 0))/\V.cell? ⟨bw,1,none⟩=some (.int .i64 (kk 1))/\V.cell? ⟨bw,2,none⟩=some (.int .i64 (kk 2))):=zH fun V o=>⟨(HC.out V _ _ _ _ _ _ (HT3.out.on (HO34.out.trans o))).2.1.1,HCc.out V (HK3.out.trans (but2_old HK3.out.size (HO34.out.trans o)))⟩
       clear hd HC HCc HK3
       try simp only [Act.put,sA,sZ,sS]
       go_cut [23,24] (fun zv kv wx=>∃nb2 Y k2 p2 cp2 U,zv = .pointer (some ⟨nb2,0,none⟩)/\kv = .int .i64 er/\Hid (Old W4 wx/\GotB W4 wx nb2 Y k2 p2 cp2 U/\(er=0->FrP Y k2 U/\Tells (lst Gx 24) (enc Y k2 U))/\(er≠0->k2=0/\p2=none/\∀j,Y j=0)/\(0<k2->∀b,p2=some b->W4.heap.size<=b.block)))
       case first=>as_aux_lemma=>
        clear H51 H52 HG3 HT3 HN3 HYb HW4 Hyb H4 HE4 HR9 HER
        refine wp_region_held_drew (S:=(fun V=>V.cell? ⟨ab2,0,none⟩=some (.pointer (some ⟨bq,0,none⟩))/\V.cell? ⟨bw,0,none⟩=some (.int .i64 (kk 0))/\V.cell? ⟨bw,1,none⟩=some (.int .i64 (kk 1))/\V.cell? ⟨bw,2,none⟩=some (.int .i64 (kk 2)))) (by kernel_rfl) ?_ (fun hHeld=>?_)
        ·(try dsimp only);exact HS.out _ HD.out
        refine wpU 0 rfl ?_;try simp only [Act.put,sA,sZ,sS]
        refine wpU 1 rfl ?_;try simp only [Act.put,sA,sZ,sS]
        refine wpU 2 rfl ?_;try simp only [Act.put,sA,sZ,sS]
        refine wpU 3 rfl ?_;try simp only [Act.put,sA,sZ,sS]
        refine wpU 4 rfl ?_;try simp only [Act.put,sA,sZ,sS]
        refine wpU 5 rfl ?_;try simp only [Act.put,sA,sZ,sS]
        refine wpU 6 rfl ?_;try simp only [Act.put,sA,sZ,sS]
        refine wpU 7 rfl ?_;try simp only [Act.put,sA,sZ,sS]
        refine wpU 8 rfl ?_;try simp only [Act.put,sA,sZ,sS]
        refine wpU 9 rfl ?_;try simp only [Act.put,sA,sZ,sS]
        refine wpU 10 rfl ?_;try simp only [Act.put,sA,sZ,sS]
        refine wpAnyH_ready (rs:=[11,15]) (by kernel_rfl) (by simp) ?_
        (refine AllReadyH.cons (o:=⟨_,_,_,_,_,_⟩) (by rfl) ?_ (AllReadyH.cons (o:=⟨_,_,_,_,_,_⟩) (by rfl) ?_ AllReadyH.nil)) <;> intro K hK
        ·go_simp
         refine(HOpn.out _ HD.out).mono ?_
         rintro e V ⟨Y,k2,p2,cp2,U,rfl,o,f1,f2,f3,f4,f5,f6,f7⟩
         have hv:Old W4 V:=HD.out.trans o
         have H1x:Hid ((rowN 29 (frC Y (.slice p2 k2 cp2))).all (·.oneCell')=true):=zH (frC_one _ _ rfl)
         have hva:=hv.alloc' (.cells z 75)
         have HG:=zH (op_set hva (nb:=V.heap.size) hv.size (newFr V z 75 HZf.out) (X:=Y) f1 f2 (f3.old (Old.alloc V _)) f4 (fun hn a ha=>by
          have:=f3.ltb hn a ha
          omega))
         have HV:=zH hv
         have HVa:=zH hva
         have f5':er=0->FrP Y k2 U/\Tells (lst Gx 24) (enc Y k2 U):=fun h=>⟨(f5 h).1,(f5 h).2.1⟩
         have f7':0<k2->∀b,p2=some b->W4.heap.size<=b.block:=fun hn b hb=>f7 hn b hb
         have H5:=zH (And.intro f5' (And.intro f6 f7'))
         clear f1 f2 f3 f4 f5 f6 f7 f5' f7' o hv hva
         go_wp2_with fail
         refine hK.out _ _ ?_ (fun hHeld=>?_)
         ·(try dsimp only);exact HS.out _ HV.out
         clear hK K
         try simp only [Act.put,sA,sZ,sS]
         refine wpU 12 rfl ?_;try simp only [Act.put,sA,sZ,sS]
         refine wpU 13 rfl ?_;try simp only [Act.put,sA,sZ,sS]
         refine wpU 14 rfl ?_;try simp only [Act.put,sA,sZ,sS]
         refine wpR 15 rfl (fun K hK=>?_)
         go_simp
         rw [←Hz.out]
         refine hK.out _ _ ?_ (fun hHeld=>?_)
         ·(try dsimp only);exact HS.out _ HVa.out
         clear hK K
         try simp only [Act.put,sA,sZ,sS]
         refine wpR 16 rfl (fun K hK=>?_)
         rw [if_pos (by kernel_rfl)]
         with_reducible refine wp_store_mid 75 _ _ rfl (V.heap.size) (0) (rowN 29 (frC Y (.slice p2 k2 cp2))) rfl rfl (by rw [rowN_size];exact(newFr V z 75 HZf.out).there 0 29 (by omega)) (by rw [rowN_size];exact Hs29.out) (H1x.out) ?_
         try simp only [Act.put,sA,sZ,sS]
         refine hK.out _ _ ?_ (fun hHeld=>?_)
         ·(try dsimp only);exact HS.out _ HG.out.1
         clear hK K
         try simp only [Act.put,sA,sZ,sS]
         refine wpU 17 rfl ?_;try simp only [Act.put,sA,sZ,sS]
         refine wpAnyH_done (by kernel_rfl) ?_ _
         go_wp2_with fail
         go_meet
         exact⟨_,Y,k2,p2,cp2,U,rfl,rfl,zH ⟨HG.out.1,HG.out.2,H5.out.1,H5.out.2⟩⟩
        ·go_simp
         rw [←Hz.out]
         have ha0:Old W4 (W4.alloc (.cells z 75)).drew:=(Old.alloc W4 _).drew
         have HA0:=zH ha0
         clear ha0
         refine hK.out _ _ ?_ (fun hHeld=>?_)
         ·(try dsimp only);exact HS.out _ HA0.out
         clear hK K
         try simp only [Act.put,sA,sZ,sS]
         refine wpR 11 rfl (fun K hK=>?_)
         go_simp
         refine(HOpn.out _ HA0.out).mono ?_
         rintro e V ⟨Y,k2,p2,cp2,U,rfl,o,f1,f2,f3,f4,f5,f6,f7⟩
         have hv:Old W4 V:=HA0.out.trans o
         have hsa:(W4.alloc (.cells z 75)).drew.heap.size=W4.heap.size+1:=World.size_alloc W4 _
         have H1x:Hid ((rowN 29 (frC Y (.slice p2 k2 cp2))).all (·.oneCell')=true):=zH (frC_one _ _ rfl)
         have hcv:CellsV V W4.heap.size 29 (frC (fun _=>0) (.slice none 0 0)):=((newFr W4 z 75 HZf.out).drew).old o
         have HG:=zH (op_set hv (nb:=W4.heap.size) (Nat.le_refl _) hcv (X:=Y) f1 f2 f3 f4 (fun hn a ha=>by
          have:=f7 hn a ha
          omega))
         have HCv:=zH hcv
         have HV:=zH hv
         have f5':er=0->FrP Y k2 U/\Tells (lst Gx 24) (enc Y k2 U):=fun h=>⟨(f5 h).1,(f5 h).2.1⟩
         have f7':0<k2->∀b,p2=some b->W4.heap.size<=b.block:=fun hn b hb=>by have:=f7 hn b hb;omega
         have H5:=zH (And.intro f5' (And.intro f6 f7'))
         clear f1 f2 f3 f4 f5 f6 f7 f5' f7' o hv hcv hsa
         go_wp2_with fail
         refine hK.out _ _ ?_ (fun hHeld=>?_)
         ·(try dsimp only);exact HS.out _ HV.out
         clear hK K
         try simp only [Act.put,sA,sZ,sS]
         refine wpU 12 rfl ?_;try simp only [Act.put,sA,sZ,sS]
         refine wpU 13 rfl ?_;try simp only [Act.put,sA,sZ,sS]
         refine wpU 14 rfl ?_;try simp only [Act.put,sA,sZ,sS]
         refine wpR 16 rfl (fun K hK=>?_)
         rw [if_pos (by kernel_rfl)]
         with_reducible refine wp_store_mid 75 _ _ rfl (W4.heap.size) (0) (rowN 29 (frC Y (.slice p2 k2 cp2))) rfl rfl (by rw [rowN_size];exact HCv.out.there 0 29 (by omega)) (by rw [rowN_size];exact Hs29.out) (H1x.out) ?_
         try simp only [Act.put,sA,sZ,sS]
         refine hK.out _ _ ?_ (fun hHeld=>?_)
         ·(try dsimp only);exact HS.out _ HG.out.1
         clear hK K
         try simp only [Act.put,sA,sZ,sS]
         refine wpU 17 rfl ?_;try simp only [Act.put,sA,sZ,sS]
         refine wpAnyH_done (by kernel_rfl) ?_ _
         go_wp2_with fail
         go_meet
         exact⟨_,Y,k2,p2,cp2,U,rfl,rfl,zH ⟨HG.out.1,HG.out.2,H5.out.1,H5.out.2⟩⟩
       case rest=>as_aux_lemma=>
        obtain⟨nb2,Y,k2,p2,cp2,U,rfl,rfl,HG⟩:=hcut
        obtain⟨V5,rfl⟩:∃V,V=wc:=⟨_,rfl⟩
        have hsm:sameP X k T Y k2 U:=by
         by_cases h0:er=0
         ·obtain⟨b,hb,_,_,hu⟩:=H51.out h0
          obtain⟨y1,y2⟩:=HG.out.2.2.1 h0
          have hb:lst Gx 24=b:=Option.some.inj hb
          rw [hb] at y2
          exact hu Y k2 U y1 y2
         ·exact same_nought (H52.out h0).1 (HG.out.2.2.2.1 h0).1 (H52.out h0).2.2 (HG.out.2.2.2.1 h0).2.2
        have o35:=HO34.out.trans HG.out.1
        have hyb5:=(HG.out.1.block yb (lt_of_block HYb.out)).trans HYb.out
        have k56:Kept (fun q=>q≠yb) V5 (V5.setRow yb (rowN 29 (frC Y (.slice p2 k2 cp2)))):=⟨rfl,rfl,by simp,fun x hx=>setRow_other _ _ _ _ hx⟩
        have hx0:V5.cell? ⟨yb,0,none⟩=some (.int .i64 0):=by
         rw [cell_of_row _ _ _ _ _ _ hyb5,HZf.out]
         exact rowN_at 29 _ 0 (by omega)
        have hys:=Hyb.out
        have hT6:=HT3.out.box (HT3.out.on o35) (by rw [hys];exact Nat.le_refl _) hx0 k56
        have hG6:=(HG3.out.old o35).kept k56 (fun e=>by have:=HN3.out;omega) (fun hk b hb e=>by have:=HG3.out.tn.ltb hk b hb;omega)
        have hY6:=setRow_heap V5 yb z (rowN 29 (frC Y (.slice p2 k2 cp2))) _ _ hyb5
        have hU6:SlF 2 (V5.setRow yb (rowN 29 (frC Y (.slice p2 k2 cp2)))) p2 k2 U:=by
         refine HG.out.2.1.tn.kept k56 (fun b hn hb e=>?_)
         have h1:=HG.out.2.2.2.2 hn b hb
         have h2:=lt_of_block HYb.out
         omega
        have HSm:=zH (same_yes (cap:=cap2) (cap2:=cp2) (V5.setRow yb (rowN 29 (frC Y (.slice p2 k2 cp2)))) hG6.tn hU6 (Nat.le_trans hG6.k1 hG6.k2) (Nat.le_trans HG.out.2.1.k1 HG.out.2.1.k2) hsm)
        have HXc:Hid (∀j,j<29->(V5.setRow yb (rowN 29 (frC Y (.slice p2 k2 cp2)))).cell? ⟨nb,0+j,none⟩=some (frC X (.slice p k cap2) j)):=zH fun j hj=>by rw [Nat.zero_add];exact hG6.cells.cell j hj
        have HYc:Hid (∀j,j<29->(V5.setRow yb (rowN 29 (frC Y (.slice p2 k2 cp2)))).cell? ⟨yb,0+j,none⟩=some (frC Y (.slice p2 k2 cp2) j)):=zH fun j hj=>by rw [Nat.zero_add,cell_of_row _ _ _ _ _ _ hY6];exact rowN_at 29 _ j hj
        have HZc:Hid (∀j,j<29->V5.cell? ⟨nb2,0+j,none⟩=some (frC Y (.slice p2 k2 cp2) j)):=zH fun j hj=>by rw [Nat.zero_add];exact HG.out.2.1.cells.cell j hj
        have HYb5:=zH hyb5
        have HZs:Hid (z.size=29):=zH (by rw [HZf.out,rowN_size])
        have H1y:Hid ((rowN 29 (frC Y (.slice p2 k2 cp2))).all (·.oneCell')=true):=zH (frC_one _ _ rfl)
        have HT6:=zH hT6
        have her4:er=0\/er=8\/er=9\/er=4:=by rw [HER.out];exact HE4.out
        clear hsm o35 hyb5 k56 hx0 hys hT6 hG6 hY6 hU6 HG HT3 HG3 HN3 HYb H51 H52 HE4 HO34 HS HD HOpn HR9 HER
        rcases her4 with her | her | her | her
        ·subst her
         have h4:=H4.out
         rw [if_pos rfl] at h4
         have HM:=zH h4
         clear h4 H4
         go_wp2_with (first
          | (with_reducible refine wpList_load_fr rfl (frC Y (.slice p2 k2 cp2)) 75 _ rfl nb2 0 rfl _ HZc.out Tryz.underlying75 rfl Hs29.out ?_)
          | (with_reducible refine wpList_store_row rfl 75 _ _ rfl yb (rowN 29 (frC Y (.slice p2 k2 cp2))) rfl rfl 75 _ HYb5.out (by rw [rowN_size];exact Hs29.out) (by rw [rowN_size];exact HZs.out) H1y.out ?_)
          | (with_reducible refine wpList_load_fr_w (by kernel_rfl) (frC X (.slice p k cap2)) 75 _ rfl nb 0 rfl _ HXc.out Tryz.underlying75 rfl Hs29.out ?_)
          | (with_reducible refine wpList_load_fr_w (by kernel_rfl) (frC Y (.slice p2 k2 cp2)) 75 _ rfl yb 0 rfl _ HYc.out Tryz.underlying75 rfl Hs29.out ?_))
         refine HSm.out.mono ?_
         rintro e V6 ⟨rfl,o6⟩
         have HR7:=zH (HT6.out.on o6)
         clear o6 HSm HT6 HXc HYc HZc HYb5
         go_wp2_with fail
         go_roundw
         case rel=>exact⟨m,i+1,_,_,a',by have:=HIN.out;omega,by have:=HIN.out;omega,by omega,by go_num,by go_num,by rw [show ((m:Nat):Int)=m' by rw [HM.out];first | done | omega];exact HR7⟩
         case measure=>have:=HIN.out;simp [intOf];omega
        all_goals
         subst her
         have h4:=H4.out
         rw [if_neg (by decide),IntWalk.wrap64_in _ (by have:=HIN.out;omega)] at h4
         have HM:=zH h4
         clear h4 H4
         go_wp2_with (first
          | (with_reducible refine wpList_load_fr rfl (frC Y (.slice p2 k2 cp2)) 75 _ rfl nb2 0 rfl _ HZc.out Tryz.underlying75 rfl Hs29.out ?_)
          | (with_reducible refine wpList_store_row rfl 75 _ _ rfl yb (rowN 29 (frC Y (.slice p2 k2 cp2))) rfl rfl 75 _ HYb5.out (by rw [rowN_size];exact Hs29.out) (by rw [rowN_size];exact HZs.out) H1y.out ?_)
          | (with_reducible refine wpList_load_fr_w (by kernel_rfl) (frC X (.slice p k cap2)) 75 _ rfl nb 0 rfl _ HXc.out Tryz.underlying75 rfl Hs29.out ?_)
          | (with_reducible refine wpList_load_fr_w (by kernel_rfl) (frC Y (.slice p2 k2 cp2)) 75 _ rfl yb 0 rfl _ HYc.out Tryz.underlying75 rfl Hs29.out ?_))
         refine HSm.out.mono ?_
         rintro e V6 ⟨rfl,o6⟩
         have HR7:=zH (HT6.out.on o6)
         clear o6 HSm HT6 HXc HYc HZc HYb5
         go_wp2_with fail
         go_roundw
         case rel=>exact⟨m+1,i+1,_,_,a',by have:=HIN.out;omega,by have:=HIN.out;omega,by omega,by go_num,by go_num,by rw [show ((m+1:Nat):Int)=m' by rw [HM.out];first | done | omega];exact HR7⟩
         case measure=>have:=HIN.out;simp [intOf];omega
   ·rw [decide_eq_false ha]
    clear ha HK HFr HWh HSp HOp HPl HTF
    obtain⟨w9,rfl⟩:∃V,V=wr:=⟨_,rfl⟩
    have hd:Old w9 w9.drew:=(Old.refl w9).drew
    have HD:=zH hd
    have HS:Hid (∀V,Old w9 V->(V.cell? ⟨ab,2,none⟩=some (.pointer (some ⟨fb,0,none⟩))/\V.cell? ⟨ab2,2,none⟩=some (.pointer (some ⟨fb2,0,none⟩)))/\V.cell? ⟨fb2,0,none⟩=some (.pointer (some ⟨cb2,0,none⟩))/\V.cell? ⟨fb,0,none⟩=some (.pointer (some ⟨cb1,0,none⟩))):=zH fun V o=>by
     have h:=HC.out V _ _ _ _ _ _ (HR.out.on o)
     exact⟨⟨h.1.2,h.2.1.2⟩,h.2.2⟩
    have hE:=fun W=>eq_stats18 c.h c.m c.t c.l W
    clear hd HC
    go_upto_region 28 with (fail)
    refine wp_region_held_drew (S:=(fun V=>(V.cell? ⟨ab,2,none⟩=some (.pointer (some ⟨fb,0,none⟩))/\V.cell? ⟨ab2,2,none⟩=some (.pointer (some ⟨fb2,0,none⟩)))/\V.cell? ⟨fb2,0,none⟩=some (.pointer (some ⟨cb2,0,none⟩))/\V.cell? ⟨fb,0,none⟩=some (.pointer (some ⟨cb1,0,none⟩)))) (by kernel_rfl) ?_ (fun hHeld=>?_)
    ·(try dsimp only);exact HS.out _ HD.out
    refine wpU 0 rfl ?_;try simp only [Act.put,sA,sZ,sS]
    refine wpU 1 rfl ?_;try simp only [Act.put,sA,sZ,sS]
    refine wpU 2 rfl ?_;try simp only [Act.put,sA,sZ,sS]
    refine wpU 3 rfl ?_;try simp only [Act.put,sA,sZ,sS]
    refine wpU 5 rfl ?_;try simp only [Act.put,sA,sZ,sS]
    refine wpR 4 rfl (fun K hK=>?_)
    go_simp
    refine(HMi.out _ _ _ _ _ _ _ (HR.out.on HD.out)).mono ?_
    rintro e V ⟨rfl,hv⟩
    subst hv
    go_wp2_with fail
    refine hK.out _ _ ?_ (fun hHeld=>?_)
    ·(try dsimp only);exact HS.out _ HD.out
    clear hK K
    try simp only [Act.put,sA,sZ,sS]
    refine wpU 6 rfl ?_;try simp only [Act.put,sA,sZ,sS]
    refine wpU 7 rfl ?_;try simp only [Act.put,sA,sZ,sS]
    refine wpU 8 rfl ?_;try simp only [Act.put,sA,sZ,sS]
    refine wpU 9 rfl ?_;try simp only [Act.put,sA,sZ,sS]
    refine wpU 10 rfl ?_;try simp only [Act.put,sA,sZ,sS]
    refine wpU 11 rfl ?_;try simp only [Act.put,sA,sZ,sS]
    refine wpU 12 rfl ?_;try simp only [Act.put,sA,sZ,sS]
    refine wpU 13 rfl ?_;try simp only [Act.put,sA,sZ,sS]
    refine wpU 14 rfl ?_;try simp only [Act.put,sA,sZ,sS]
    refine wpU 16 rfl ?_;try simp only [Act.put,sA,sZ,sS]
    refine wpU 17 rfl ?_;try simp only [Act.put,sA,sZ,sS]
    refine wpU 18 rfl ?_;try simp only [Act.put,sA,sZ,sS]
    refine wpU 19 rfl ?_;try simp only [Act.put,sA,sZ,sS]
    refine wpU 20 rfl ?_;try simp only [Act.put,sA,sZ,sS]
    refine wpU 21 rfl ?_;try simp only [Act.put,sA,sZ,sS]
    refine wpU 22 rfl ?_;try simp only [Act.put,sA,sZ,sS]
    refine wpR 15 rfl (fun K hK=>?_)
    go_simp
    refine(HTl.out _ _ _ _ _ _ _ (HR.out.on HD.out)).mono ?_
    rintro e V1 ⟨rfl,o1⟩
    have HO1:=zH (HD.out.trans o1)
    clear o1
    unfold statV
    go_wp2_with fail
    refine hK.out _ _ ?_ (fun hHeld=>?_)
    ·(try dsimp only);exact HS.out _ HO1.out
    clear hK K
    try simp only [Act.put,sA,sZ,sS]
    refine wpR 23 rfl (fun K hK=>?_)
    go_simp
    refine(HTl2.out _ _ _ _ _ _ _ (HR.out.on HO1.out)).mono ?_
    rintro e V2 ⟨rfl,o2⟩
    have HO2:=zH (HO1.out.trans o2)
    clear o2 HO1
    unfold statV
    go_wp2_with fail
    refine hK.out _ _ ?_ (fun hHeld=>?_)
    ·(try dsimp only);exact HS.out _ HO2.out
    clear hK K
    try simp only [Act.put,sA,sZ,sS]
    refine wpU 24 rfl ?_;try simp only [Act.put,sA,sZ,sS]
    refine wpU 25 rfl ?_;try simp only [Act.put,sA,sZ,sS]
    refine wpU 26 rfl ?_;try simp only [Act.put,sA,sZ,sS]
    refine wpR 27 rfl (fun K hK=>?_)
    go_simp
    refine(awake18_any V2).mono ?_
    rintro e V4 ⟨rfl,o4⟩
    have HO4:=zH (HO2.out.trans o4)
    clear o4 HO2
    go_wp2_with fail
    refine hK.out _ _ ?_ (fun hHeld=>?_)
    ·(try dsimp only);exact HS.out _ HO4.out
    clear hK K
    try simp only [Act.put,sA,sZ,sS]
    refine wpU 28 rfl ?_;try simp only [Act.put,sA,sZ,sS]
    refine wpU 29 rfl ?_;try simp only [Act.put,sA,sZ,sS]
    refine wpAnyH_done (by kernel_rfl) ?_ _
    have HE:=zH (HR.out.old.trans HO4.out)
    clear HMi HTl HTl2 HS HR HO4 hE
    go_wp2_with fail
    go_ret
    exact⟨rfl,HE.out⟩
end Go.Proofs.YtjakgghbdojlbaaGreatDoor
