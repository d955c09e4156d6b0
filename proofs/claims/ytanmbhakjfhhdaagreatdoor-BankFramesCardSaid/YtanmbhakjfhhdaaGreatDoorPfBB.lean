/- Texts joined: BnkFr. -/
import Derived.Deep.RegionHeld
import Derived.BigQuiet
import Derived.Test.YtanmbhakjfhhdaaGreatDoorPfAI
import Derived.Test.YtanmbhakjfhhdaaGreatDoorPfAP
import Derived.Test.YtanmbhakjfhhdaaGreatDoorPfAS
import Derived.Test.YtanmbhakjfhhdaaGreatDoorPfBA
import Derived.Test.YtanmbhakjfhhdaaGreatDoorTf
namespace Go.Proofs.YtanmbhakjfhhdaaGreatDoor
set_option linter.unusedVariables false
set_option linter.unusedSimpArgs false
set_option maxRecDepth 100000
open Go.RowKit Go.ChangeShapes Go.WideShapes
theorem opn_same{bs:List Int}{E er:Int}{X Y:Nat->Int}{k m:Nat}{T U:Nat->Int}(h0:E=0)(hx:E=0->FrP X k T/\Tells bs (enc X k T)/\∀F0 n0 T0,FrP F0 n0 T0->Tells bs (enc F0 n0 T0)->sameP X k T F0 n0 T0)(e0:er=0)(hy:er=0->FrP Y m U/\Tells bs (enc Y m U)):sameP X k T Y m U:=
 (hx h0).2.2 Y m U (hy e0).1 (hy e0).2
theorem cut_u8(b o n cap:Nat)(hi:Nat)(h0:0<cap)(hh:hi<=cap)(w:World):(Instr.sliceAt 24 (.slice (some ⟨b,o,none⟩) n cap) none (some (.int .i64 hi)) none).run Tryz.prog w = .ok (.slice (some ⟨b,o,none⟩) hi cap) w:=cut_hi b o n cap hi (by omega) (by omega) w
set_option maxHeartbeats 16000000 in
theorem bnkFr_any(sz:Int)(q:Option Addr)(n c:Nat)(L:Nat->Smp)(i ch bl:Int)(op:Option Addr)(on oc:Nat)(O:Nat->Int)(w:World)(hs:SmsS w q n L)(ho:SlU w op on O)(hO:Byt O on)(hc1:on<=oc)(hc2:oc<=maxLen)(hi:-9223372036854775808<=i/\i<=9223372036854775807)(hch:-9223372036854775808<=ch/\ch<=9223372036854775807)(hbl:-9223372036854775808<=bl/\bl<=9223372036854775807):
  Calls Tryz.prog 6 #[.int .i64 sz,.slice q n c,.int .i64 i,.int .i64 ch,.int .i64 bl,.slice op on oc] w fun e w'=>e = .returned (.bool true)/\Old w w':=by
 have Hs29:Hid ((Tryz.prog.info? 69).map (·.size)=some 29):=zH (by kernel_rfl)
 have Hs9:Hid ((Tryz.prog.info? 45).map (·.size)=some 9):=zH (by kernel_rfl)
 have HFw:=zH (Few15_any q n c L w hs)
 obtain⟨k,hk⟩:∃k,k=min n 8:=⟨_,rfl⟩
 have hk8:k<=8:=by omega
 unfold FewsR at HFw
 rw [←hk] at HFw
 have HOt:=zH (And.intro ho (And.intro hO (And.intro hc1 hc2)))
 have hc3:oc<=9223372036854775807:=by unfold maxLen at hc2;omega
 clear hs hk ho hO hc2
 go_enter Tryz.func6,Tryz.ntmps6
 go_wp2_with fail
 refine HFw.out.mono ?_
 rintro e V1 ⟨p1,c1,Z0,rfl,hsm,_,o1⟩
 have HPk:=zH (Pack_any sz p1 k c1 Z0 V1 hsm (by omega))
 have HO1:=zH o1
 clear hsm o1 HFw
 go_wp2_with fail
 refine HPk.out.mono ?_
 intro e V2 hp
 rcases pack_is hp with ⟨er,h0,rfl,o2,_⟩ | ⟨h24,h96,hall,Z,g,F,rfl,hpk,hord,hfs⟩
 ·have HE:=zH (HO1.out.trans o2)
  have hd:(er != 0)=true:=by simpa using h0
  clear hp o2 h0 HPk
  go_wp2_with fail
  refine(awake_any V2).mono ?_
  rintro e V3 ⟨rfl,o3⟩
  have HE3:=zH (HE.out.trans o3)
  clear o3 HE
  go_wp2_with fail
  go_ret
  exact⟨rfl,HE3.out⟩
 have htot:=hpk.tot
 have hbn:=hpk.bkN
 obtain⟨N,hN⟩:∃N,N=totalAt (frD (mtsD Z)) sz.toNat k:=⟨_,rfl⟩
 rw [←hN] at hfs htot hbn ⊢
 have hby:=hbn.byt
 have hsl:∀V,Old V2 V->SlU V (some ⟨g,0,none⟩) N F:=fun V hV=>((show SlU V2 (some ⟨g,0,none⟩) N F from fun _=>⟨g,0,rfl,hfs.row.lt,fun j hj=>by rw [Nat.zero_add];exact hfs.row.at_ j hj⟩).old hV)
 have HPa:=zH (Parse_any (some ⟨g,0,none⟩) N N F V2 (hsl _ (Old.refl _)) hby (Nat.le_refl _) (by unfold maxLen;omega) (by omega))
 have HPp:Hid (∀e V,PrsR V2 F N e V->∃bb q c im ci,e = .returned (.tuple #[.pointer (some ⟨bb,0,none⟩),.int .i64 0])/\BkB V bb sz.toNat k N q c im ci (plD (mtsD Z) sz.toNat k) F/\Old V2 V):=zH fun e V h=>by
  have hld:=hpk.ld
  rw [hN] at h ⊢
  exact parse_packed (by omega) (by omega) (by omega) hpk.dir hld h
 have HPK:=zH hpk
 have HBn:=zH hbn
 have HSl:=zH hsl
 have HO2:=zH (HO1.out.trans hfs.old)
 obtain⟨z,rfl⟩:∃z:Nat,sz=z:=⟨sz.toNat,by omega⟩
 rw [Int.toNat_natCast] at *
 clear hp hpk hord hfs hN hall hbn hby hsl HPk HO1
 go_upto_if 42 with (fail)
 go_cut [5] (fun v wx=>∃om:Nat,v = .slice op om oc/\Hid (om<=200/\om<=on)/\V2=wx)
 case first=>as_aux_lemma=>
  clear HPa HPp HPK HBn HSl HO2
  by_cases hbig:200<on
  ·have hoc:0<oc:=by omega
   obtain⟨gb,ob,hop,_,_⟩:=HOt.out.1 (by omega)
   have hct:=fun w'=>cut_u8 gb ob on oc 200 hoc (by omega) w'
   have hb2:(200:Int)<on:=by omega
   have HB:=zH hbig
   clear HOt
   subst hop
   go_wp2_with fail
   go_meet
   exact⟨200,rfl,zH ⟨Nat.le_refl _,by have:=HB.out;omega⟩,rfl⟩
  ·have hb2:¬((200:Int)<on):=by omega
   have HB:=zH hbig
   clear HOt
   go_wp2_with fail
   go_meet
   exact⟨on,rfl,zH ⟨by have:=HB.out;omega,Nat.le_refl _⟩,rfl⟩
 case rest=>as_aux_lemma=>
  obtain⟨om,rfl,HOm,rfl⟩:=hcut
  have HOs:Hid (∀V,Old w V->SlU V op om O):=zH fun V hV hm=>by
   obtain⟨g',o',e,h1,h2⟩:=(HOt.out.1.old hV) (by have:=HOm.out;omega)
   exact⟨g',o',e,h1,fun j hj=>h2 j (by have:=HOm.out;omega)⟩
  have HOb:Hid (Byt O om):=zH fun j hj=>HOt.out.2.1 j (by have:=HOm.out;omega)
  have HOc:=zH (show om<=oc/\oc<=maxLen from⟨by have:=HOm.out;omega,HOt.out.2.2.2⟩)
  clear HOt
  go_wp2_with fail
  refine HPa.out.mono ?_
  intro e V3 h3
  obtain⟨bb,q3,c3,im,ci,rfl,hbk,o3⟩:=HPp.out e V3 h3
  obtain⟨D,hD⟩:∃D,D=plD (mtsD Z) z k:=⟨_,rfl⟩
  rw [←hD] at hbk
  rw [←hD] at HBn
  have HD:=zH hD
  have HBk:=zH (fun V (o:Old V3 V)=>hbk.old o)
  have HO3:=zH (HO2.out.trans o3)
  have HO23:=zH o3
  obtain⟨x,hx⟩:∃x,x=whI k D i ch bl:=⟨_,rfl⟩
  have HWh:=zH (BWhere_any bb z k N q3 c3 im ci D F V3 hbk HBn.out i ch bl)
  have HBy:=zH (fun V (o:Old V3 V)=>BBytes_any bb z k N q3 c3 im ci D F V (HBk.out V o) HBn.out i ch bl)
  have HOp:=zH (fun V (o:Old V3 V)=>BOpen_any bb z k N q3 c3 im ci D F V (HBk.out V o) HBn.out i ch bl op om oc O (HOs.out V (HO3.out.trans o)) HOb.out HOc.out.1 HOc.out.2 (by have:=HOm.out;omega))
  have HDi:=zH (fun V (o:Old V3 V)=>BDir_at bb z k N q3 c3 im ci D F V (HBk.out V o) (by have:=HBn.out.z1;omega) (by omega))
  obtain⟨y,hy⟩:∃y,y=opnI k D F i ch bl (lst O om):=⟨_,rfl⟩
  rw [←hx] at HWh HBy
  rw [←hy] at HOp
  have HX:=zH hx
  have HY:=zH hy
  clear h3 hbk o3 hD hx hy HPa HPp HO2
  go_wp2_with fail
  refine HWh.out.mono ?_
  rintro e V4 ⟨A,SS,rfl,hA,_,o4⟩
  have HA:=zH hA
  have HO4:=zH o4
  clear hA o4 HWh
  go_wp2_with fail
  refine(HBy.out V4 HO4.out).mono ?_
  rintro e V5 ⟨q2,m2,c2,rfl,b1,b2,b3,o5⟩
  have HB5:=zH (And.intro b1 (And.intro b2 b3))
  have HO5:=zH (HO4.out.trans o5)
  have HO35:=zH o5
  clear b1 b2 b3 o5 HBy HO4
  go_wp2_with fail
  refine(HOp.out V5 HO5.out).mono ?_
  rintro e V6 ⟨X,kx,pg,cg,U,rfl,o6,g1,g2,g3,g4,g5,g6,g7⟩
  obtain⟨b6,hb6⟩:∃b,b=V6.heap.size:=⟨_,rfl⟩
  obtain⟨V7,hV7⟩:∃V,V=V6.alloc (.cells (rowN 29 (frC X (.slice pg kx cg))) 69):=⟨_,rfl⟩
  have o7:Old V6 V7:=by rw [hV7];exact Old.alloc _ _
  have hx7:V7.heap[b6]?=some (.cells (rowN 29 (frC X (.slice pg kx cg))) 69 (0,0)):=by rw [hV7,hb6];exact heap_alloc_new _ _
  have HX7:Hid (∀V,Old V7 V->∀j,j<29->V.cell? ⟨b6,0+j,none⟩=some (frC X (.slice pg kx cg) j)):=zH fun V o j hj=>by rw [Nat.zero_add];exact(cell_of_row _ _ _ _ _ _ ((o.block _ (lt_of_block hx7)).trans hx7)).trans (rowN_at 29 _ j hj)
  have H1x:Hid ((rowN 29 (frC X (.slice pg kx cg))).all (·.oneCell')=true):=zH (frC_one _ _ rfl)
  have HG:=zH (And.intro g1 (And.intro g2 (And.intro (fun V (o:Old V7 V)=>(g3.old o7).old o) g5)))
  have HO57:=zH (o6.trans o7)
  have HO7:=zH (HO5.out.trans (o6.trans o7))
  have HV7:=zH hV7
  have HB6:=zH hb6
  clear hV7 hb6 o6 o7 hx7 g1 g2 g3 g4 g5 g6 g7 HOp
  go_wp2_with (with_reducible refine wpList_store_row rfl 69 _ _ rfl V6.heap.size (rowN 29 (frC X (.slice pg kx cg))) rfl rfl 69 _ (heap_alloc_new _ _) (by rw [rowN_size];exact Hs29.out) (by rw [rowN_size];kernel_rfl) H1x.out ?_;rw [World.setRow_alloc_new,←HV7.out,←HB6.out])
  refine(HDi.out V7 HO7.out).mono ?_
  rintro e V8 ⟨q4,c4,rfl,d1,d2,d3,o8⟩
  have HMs:=zH (And.intro d1 (And.intro d2 d3))
  have HO8:=zH (HO7.out.trans o8)
  have HO78:=zH o8
  clear d1 d2 d3 o8 HDi
  by_cases h1:i<0\/(k:Int)<=i
  ·obtain rfl:x=7:=by rw [HX.out];unfold whI;rw [if_pos h1]
   obtain rfl:y=7:=by rw [HY.out];unfold opnI;rw [←HX.out];rfl
   clear HX HY
   by_cases h2:i<0
   ·have e2:decide (i<0)=true:=decide_eq_true h2
    clear h1
    go_wp2_with fail
    refine(awake_any _).mono ?_
    rintro e V9 ⟨rfl,o9⟩
    have HE:=zH (HO3.out.trans (HO8.out.trans o9))
    clear o9
    go_wp2_with fail
    go_ret
    exact⟨rfl,HE.out⟩
   ·have e2:decide (i<0)=false:=decide_eq_false h2
    have e3:(k:Int)<=i:=by omega
    have e4:decide ((k:Int)<=i)=true:=decide_eq_true e3
    clear h1
    go_wp2_with fail
    refine(awake_any _).mono ?_
    rintro e V9 ⟨rfl,o9⟩
    have HE:=zH (HO3.out.trans (HO8.out.trans o9))
    clear o9
    go_wp2_with fail
    go_ret
    exact⟨rfl,HE.out⟩
  ·obtain⟨ii,rfl⟩:∃ii:Nat,i=ii:=⟨i.toNat,by omega⟩
   have hik:ii<k:=by omega
   obtain⟨gd,od,rfl,hgd,hcs⟩:=HMs.out.2.2.cell (by omega)
   have hck:=hcs ii hik
   obtain⟨mm,hm⟩:∃mm,mm=D ii:=⟨_,rfl⟩
   rw [←hm] at hck
   have mc0:V8.cell? ⟨gd,od+ii*9,none⟩=some (.string mm.s):=hck 0 _ rfl
   have mc1:V8.cell? ⟨gd,od+ii*9+1,none⟩=some (.int .i64 mm.n):=hck 1 _ rfl
   have mc2:V8.cell? ⟨gd,od+ii*9+2,none⟩=some (.int .i64 mm.r):=hck 2 _ rfl
   have mc3:V8.cell? ⟨gd,od+ii*9+3,none⟩=some (.int .i64 mm.c):=hck 3 _ rfl
   have mc4:V8.cell? ⟨gd,od+ii*9+4,none⟩=some (.bool mm.lp):=hck 4 _ rfl
   have mc5:V8.cell? ⟨gd,od+ii*9+5,none⟩=some (.int .i64 mm.a):=hck 5 _ rfl
   have mc6:V8.cell? ⟨gd,od+ii*9+6,none⟩=some (.int .i64 mm.b):=hck 6 _ rfl
   have mc7:V8.cell? ⟨gd,od+ii*9+7,none⟩=some (.int .i64 mm.x):=hck 7 _ rfl
   have mc8:V8.cell? ⟨gd,od+ii*9+8,none⟩=some (.int .i64 mm.y):=hck 8 _ rfl
   have HM:=zH hm
   have i0:(0:Int)<=ii:=by omega
   have i1:(ii:Int)<k:=by omega
   have e2:decide ((ii:Int)<0)=false:=decide_eq_false (by omega)
   have e3:decide ((k:Int)<=ii)=false:=decide_eq_false (by omega)
   clear h1 hm hck hcs hgd hi
   obtain⟨V9,hV9⟩:∃V,V=V8.alloc (.cells #[.string mm.s,.int .i64 mm.n,.int .i64 mm.r,.int .i64 mm.c,.bool mm.lp,.int .i64 mm.a,.int .i64 mm.b,.int .i64 mm.x,.int .i64 mm.y] 45):=⟨_,rfl⟩
   obtain⟨b9,hb9⟩:∃b,b=V8.heap.size:=⟨_,rfl⟩
   have HV9:=zH hV9
   have HB9:=zH hb9
   have o9:Old V8 V9:=by rw [hV9];exact Old.alloc _ _
   have hb:V9.heap[b9]?=some (.cells #[.string mm.s,.int .i64 mm.n,.int .i64 mm.r,.int .i64 mm.c,.bool mm.lp,.int .i64 mm.a,.int .i64 mm.b,.int .i64 mm.x,.int .i64 mm.y] 45 (0,0)):=by rw [hV9,hb9];exact heap_alloc_new _ _
   have n1:V9.cell? ⟨b9,1,none⟩=some (.int .i64 mm.n):=(cell_of_row _ _ _ _ _ _ hb).trans rfl
   have n3:V9.cell? ⟨b9,3,none⟩=some (.int .i64 mm.c):=(cell_of_row _ _ _ _ _ _ hb).trans rfl
   have n8:V9.cell? ⟨b9,8,none⟩=some (.int .i64 mm.y):=(cell_of_row _ _ _ _ _ _ hb).trans rfl
   have HO9:=zH (HO8.out.trans o9)
   have HO79:=zH (HO78.out.trans o9)
   have HN:=zH (And.intro n1 (And.intro n3 n8))
   have HB9lt:=zH (lt_of_block hb)
   clear hV9 hb9 o9 hb n1 n3 n8 HMs
   go_upto_region 17 with fail
   rw [←HV9.out,←HB9.out]
   have hok:=HBn.out.ok ii hik
   rw [←HM.out] at hok
   have k1:=hok.c1
   have k2:=hok.c2
   have m1:=hok.n1
   have m2b:=hok.n2
   obtain⟨T,hT⟩:∃T,T=cnt mm.n.toNat:=⟨_,rfl⟩
   have qq2:(mm.n+15)/16=(T:Int):=by rw [hT];unfold cnt;omega
   have qq1:wrap64 ((mm.n+15).tdiv 16)=(T:Int):=by rw [tdiv_pos _ _ (by omega),qq2,IntWalk.wrap64_in _ (by rw [←qq2];omega)]
   have HT:=zH hT
   have HW5:Hid ((ch<0\/mm.c<=ch)\/bl<0\/(T:Int)<=bl->x=5/\y=5):=zH fun h=>by
    have e:whI k D ii ch bl=5:=by
     unfold whI
     rw [if_neg (by omega),Int.toNat_natCast,←HM.out,←HT.out,if_pos h]
    refine⟨by rw [HX.out,e],?_⟩
    rw [HY.out]
    unfold opnI
    rw [e]
    rfl
   clear hT hok
   by_cases hbad:(ch<0\/mm.c<=ch)\/bl<0\/(T:Int)<=bl
   ·obtain⟨rfl,rfl⟩:=HW5.out hbad
    obtain⟨n1,n3,_⟩:=HN.out
    have HBd:=zH hbad
    clear HX HY HW5 hbad
    have fin:∀V,Old V9 V->Old w V:=fun V o=>HO3.out.trans (HO9.out.trans o)
    have HFin:=zH fin
    clear fin
    by_cases h':ch<0
    ·clear HBd
     go_wp2_with fail
     refine(awake_any _).mono ?_
     rintro e V10 ⟨rfl,o10⟩
     have HE:=zH (HFin.out _ o10)
     clear o10
     go_wp2_with fail
     go_ret
     exact⟨rfl,HE.out⟩
    by_cases h'':mm.c<=ch
    ·clear HBd
     go_wp2_with fail
     refine(awake_any _).mono ?_
     rintro e V10 ⟨rfl,o10⟩
     have HE:=zH (HFin.out _ o10)
     clear o10
     go_wp2_with fail
     go_ret
     exact⟨rfl,HE.out⟩
    by_cases h3:bl<0
    ·clear HBd
     go_wp2_with fail
     refine(awake_any _).mono ?_
     rintro e V10 ⟨rfl,o10⟩
     have HE:=zH (HFin.out _ o10)
     clear o10
     go_wp2_with fail
     go_ret
     exact⟨rfl,HE.out⟩
    have h4:(T:Int)<=bl:=by have:=HBd.out;omega
    clear HBd
    go_wp2_with fail
    refine(awake_any _).mono ?_
    rintro e V10 ⟨rfl,o10⟩
    have HE:=zH (HFin.out _ o10)
    clear o10
    go_wp2_with fail
    go_ret
    exact⟨rfl,HE.out⟩
   ·obtain⟨cc,rfl⟩:∃cc:Nat,ch=cc:=⟨ch.toNat,by omega⟩
    obtain⟨bb2,rfl⟩:∃b:Nat,bl=b:=⟨bl.toNat,by omega⟩
    have hc2:(cc:Int)<mm.c:=by omega
    have hb2:bb2<T:=by omega
    have e0:whI k D ii cc bb2=0:=whI_at hik (by rw [←HM.out];exact hc2) (by rw [←HM.out,←HT.out];exact hb2)
    obtain rfl:x=0:=by rw [HX.out,e0]
    obtain⟨hA1,hA2⟩:=HA.out rfl
    have hwq:=whQ_at D ii cc bb2
    rw [←HM.out] at hwq
    have hpl:=HBn.out.pl ii _ hik (whQ_lt (c:=cc) (b:=bb2) (by rw [←HM.out];exact hc2) (by rw [←HM.out,←HT.out];exact hb2))
    have hB3:=HB5.out.2.2 rfl
    obtain⟨r,hr⟩:∃r,r=whQ D ii cc bb2:=⟨_,rfl⟩
    rw [←hr] at hA1 hA2 hpl hwq
    rw [Int.toNat_natCast,←hr] at hB3
    rw [Int.toNat_natCast] at hA1 hA2
    rw [←HM.out] at hpl
    obtain⟨CC,hCC⟩:∃CC:Nat,mm.c=CC:=⟨mm.c.toNat,by omega⟩
    have hCn:mm.c.toNat=CC:=by omega
    rw [hCn] at hwq
    have hy0:=HBn.out.y ii hik
    rw [←HM.out] at hy0
    obtain⟨Y,hY⟩:∃Y:Nat,mm.y=Y:=⟨mm.y.toNat,by omega⟩
    have hYn:mm.y.toNat=Y:=by omega
    rw [hYn] at hpl
    have hfa:frAt z D ii r=Y+r*z:=by unfold frAt;rw [←HM.out,hYn]
    rw [hfa] at hA1 hB3
    obtain⟨u,hu⟩:∃u,u=bb2*CC:=⟨_,rfl⟩
    rw [←hu] at hwq
    obtain⟨zr,hzr⟩:∃v,v=r*z:=⟨_,rfl⟩
    rw [←hzr] at hA1 hB3 hpl
    obtain⟨at_,hat⟩:∃v,v=Y+zr:=⟨_,rfl⟩
    rw [←hat] at hA1 hB3 hpl
    have hN4:=HBn.out.N4
    have eu:(bb2:Int)*mm.c=u:=by rw [hCC,hu,Int.natCast_mul]
    have hT6:T<=65536:=by omega
    have hb6:bb2<=65536:=by omega
    have hC6:CC<=2:=by omega
    have hub:u<=131072:=by
     have h1:bb2*CC<=65536*2:=Nat.mul_le_mul hb6 hC6
     omega
    have e1:wrap64 ((bb2:Int)*mm.c)=u:=by rw [eu];exact IntWalk.wrap64_in _ (by omega)
    have ez:(z:Int)*(r:Int)=zr:=by rw [hzr,Int.natCast_mul,Int.mul_comm]
    have z1:IntKind.i64.wrap ((z:Int)*(r:Int))=zr:=by rw [ez];exact IntWalk.i64_in _ (by omega)
    have z2:IntKind.i64.wrap (mm.y+(zr:Int))=at_:=by rw [hY,IntWalk.i64_in _ (by omega)];omega
    obtain⟨B2,hB2⟩:∃v,v=at_+z:=⟨_,rfl⟩
    have z3:IntKind.i64.wrap ((at_:Int)+(z:Int))=B2:=by rw [IntWalk.i64_in _ (by omega)];omega
    have HZs:=zH (And.intro z1 (And.intro z2 z3))
    have HAT:=zH (show at_+z<=N/\B2=at_+z by omega)
    obtain rfl:m2=z:=hB3.1
    have HBy3:=zH (fun V (o:Old V5 V)=>hB3.2.old o)
    have hRr:(r:Int)=(u:Int)+cc:=by omega
    have HU:=zH (show wrap64 (wrap64 ((bb2:Int)*(CC:Int))+(cc:Int))=(r:Int) by rw [←hCC,e1,IntWalk.wrap64_in _ (by omega)];exact hRr.symm)
    have HSS:=zH hA2
    have HRq:=zH hr
    have HFa:=zH (show frAt m2 D ii r=at_ by rw [hfa,hat,hzr])
    subst hA1
    obtain⟨n1,n3,_⟩:=HN.out
    have HW:=zH (And.intro hc2 (And.intro hb2 hbad))
    clear hr hwq hfa hu hzr hat hpl hB3 hYn hCn hRr z1 z2 z3 ez hN4 hB2 hy0 HA
    clear hT6 hb6 hC6
    go_upto_region 19 with fail
    go_cut [26] (fun v wx=>v = .int .i64 (r:Nat)/\V9=wx)
    case first=>as_aux_lemma=>
     clear HBy3 HZs HSS HPK HSl HBk HG HX7 HOs HOb
     go_wp2_with fail
     go_meet
     exact⟨by rw [HU.out],rfl⟩
    case rest=>as_aux_lemma=>
     obtain⟨rfl,rfl⟩:=hcut
     have HYo:Hid (y=openI SS (lst O om)):=zH (by
      have h2:=HSS.out
      rw [HY.out]
      unfold opnI
      rw [e0,if_neg (fun h=>h rfl),Int.toNat_natCast,←HRq.out,←h2])
     have HRd:=zH (fun V (o:Old V9 V)=>FRead_any (.slice op om oc) (lst O om) V ((HOs.out V (HO3.out.trans (HO9.out.trans o))).slI HOc.out.1 HOc.out.2) (lst_mem HOb.out) (by rw [lst_len];have:=HOm.out;omega))
     have HCo:=zH (fun V (o:Old V9 V)=>CSum_any op om oc O V (HOs.out V (HO3.out.trans (HO9.out.trans o))) HOb.out HOc.out.1 HOc.out.2)
     obtain⟨s8,hs8⟩:∃s,s=strOfNums (lst (fun j=>F (at_+j)) m2):=⟨_,rfl⟩
     have HCv:Hid (∀V p2 c,SlU V p2 m2 (fun j=>F (at_+j))->m2<=c->c<=maxLen->(convert 24 9 (.slice p2 m2 c)).run Tryz.prog V = .ok (.string s8) V):=zH fun V p2 c hV hc hm=>(by
      rw [hs8]
      exact conv_slI (hV.slI hc hm))
     have hbyt:Byt (fun j=>F (at_+j)) m2:=fun j hj=>HBn.out.byt _ (by have:=HAT.out;omega)
     have HCs:=zH (fun V (o:Old V5 V)=>CSum_any q2 m2 c2 (fun j=>F (at_+j)) V (HBy3.out V o) hbyt HB5.out.1 HB5.out.2.1)
     have HSe:Hid (SS=sumF (fun j=>F (at_+j)) m2):=zH (by
      have hpk:=HPK.out
      have h1:(cc:Int)<(plD (mtsD Z) m2 k ii).c:=by rw [←HD.out,←HM.out];exact HW.out.1
      have h2:bb2<cnt (plD (mtsD Z) m2 k ii).n.toNat:=by rw [←HD.out,←HM.out,←HT.out];exact HW.out.2.1
      rw [HSS.out,HRq.out]
      have h3:=hpk.sum hik h1 h2
      rw [←hpk.bytes hik h1 h2] at h3
      rw [←HD.out] at h3
      rw [h3]
      have h4:frAt m2 D ii (whQ D ii cc bb2)=at_:=by rw [←HRq.out];exact HFa.out
      rw [h4]
      rfl)
     obtain⟨sv,hsv⟩:∃v,v=sumF (fun j=>F (at_+j)) m2:=⟨_,rfl⟩
     rw [←hsv] at HCs HSe
     obtain⟨rfl⟩:SS=sv:=HSe.out
     have HSv:=zH hsv
     have hat2:=HAT.out
     obtain⟨B2',hB2'⟩:∃v,v=B2:=⟨_,rfl⟩
     have hct:∀w',(Instr.sliceAt 24 (.slice (some ⟨g,0,none⟩) N N) (some (.int .i64 at_)) (some (.int .i64 B2)) none).run Tryz.prog w' = .ok (.slice (some ⟨g,at_,none⟩) m2 (N-at_)) w':=fun w'=>by
      have:=cut_lh g 0 N N at_ B2 (by omega) (by omega) w'
      rw [Nat.zero_add,show B2-at_=m2 by omega] at this
      exact this
     have HSg:Hid (∀V,Old V9 V->SlU V (some ⟨g,at_,none⟩) m2 (fun j=>F (at_+j))):=zH fun V o hm=>by
      obtain⟨g',o',e,h1,h2⟩:=HSl.out V ((HO23.out.trans (HO9.out)).trans o) (by have:=HAT.out;omega)
      cases e
      exact⟨g,at_,rfl,h1,fun j hj=>by have:=h2 (at_+j) (by have:=HAT.out;omega);rw [Nat.zero_add] at this;exact this⟩
     have HN8:=zH (fun V (o:Old V9 V)=>show V.cell? ⟨b9,8,none⟩=some (.int .i64 mm.y) from(o.cell (a:=⟨b9,8,none⟩) HB9lt.out).trans HN.out.2.2)
     have HY5:Hid (∀V,Old V9 V->Old V5 V):=zH fun V o=>(HO57.out.trans (HO79.out)).trans o
     obtain⟨z1,z2,z3⟩:=HZs.out
     have hn4:¬((N:Int)<B2):=by have:=HAT.out;omega
     have hBn:(B2:Int)<=N:=by have:=HAT.out;omega
     clear hsv hs8 hbyt hat2 hB2' HPK HBk HOs HOb HSS
     go_upto_region 20 with fail
     go_cut [189] (fun v wx=>v = .bool false/\Old V9 wx)
     case first=>as_aux_lemma=>
      clear HG HX7 HSl HX HY
      have hd:Old V9 V9.drew:=(Old.refl V9).drew
      have HD9:=zH hd
      clear hd
      refine wp_region_held_drew (S:=(fun V'=>Old V9 V')) (by kernel_rfl) ?_ (fun hHeld=>?_)
      ·(try dsimp only);exact HD9.out
      refine wpU 0 rfl ?_;try simp only [Act.put,sA,sZ,sS]
      refine wpU 1 rfl ?_;try simp only [Act.put,sA,sZ,sS]
      refine wpT 2 (v:=(.int .i64 mm.y)) rfl (Or.inl ⟨by kernel_rfl,fun V' hSV=>by(try dsimp only at hSV);have hcB:=HN8.out V' hSV;go_simp⟩) (by assumption) ?_;try simp only [Act.put,sA,sZ,sS]
      refine wpU 3 rfl ?_;try simp only [Act.put,sA,sZ,sS]
      refine wpU 4 rfl ?_;try simp only [Act.put,sA,sZ,sS]
      refine wpU 5 rfl ?_;try simp only [Act.put,sA,sZ,sS]
      refine wpU 6 rfl ?_;try simp only [Act.put,sA,sZ,sS]
      refine wpT 7 (v:=(.bool false)) rfl (Or.inl ⟨by kernel_rfl,fun V' hSV=>by(try dsimp only at hSV);go_simp;(try simp);first | done | (rw [←hY];exact z2.symm) | exact z2.symm⟩) (by assumption) ?_;try simp only [Act.put,sA,sZ,sS]
      refine wpU 8 rfl ?_;try simp only [Act.put,sA,sZ,sS]
      refine wpU 9 rfl ?_;try simp only [Act.put,sA,sZ,sS]
      refine wpT 10 (v:=(.bool false)) rfl (Or.inl ⟨by kernel_rfl,fun V' hSV=>by(try dsimp only at hSV);go_simp;try simp⟩) (by assumption) ?_;try simp only [Act.put,sA,sZ,sS]
      refine wpU 11 rfl ?_;try simp only [Act.put,sA,sZ,sS]
      refine wpU 12 rfl ?_;try simp only [Act.put,sA,sZ,sS]
      refine wpU 13 rfl ?_;try simp only [Act.put,sA,sZ,sS]
      refine wpU 14 rfl ?_;try simp only [Act.put,sA,sZ,sS]
      refine wpU 15 rfl ?_;try simp only [Act.put,sA,sZ,sS]
      refine wpU 16 rfl ?_;try simp only [Act.put,sA,sZ,sS]
      refine wpU 17 rfl ?_;try simp only [Act.put,sA,sZ,sS]
      refine wpT 18 (v:=(.bool false)) rfl (Or.inl ⟨by kernel_rfl,fun V' hSV=>by(try dsimp only at hSV);go_simp;try simp⟩) (by assumption) ?_;try simp only [Act.put,sA,sZ,sS]
      refine wpU 19 rfl ?_;try simp only [Act.put,sA,sZ,sS]
      refine wpU 20 rfl ?_;try simp only [Act.put,sA,sZ,sS]
      refine wpU 21 rfl ?_;try simp only [Act.put,sA,sZ,sS]
      refine wpT 22 (v:=(.bool false)) rfl (Or.inl ⟨by kernel_rfl,fun V' hSV=>by(try dsimp only at hSV);go_simp;try simp⟩) (by assumption) ?_;try simp only [Act.put,sA,sZ,sS]
      refine wpU 23 rfl ?_;try simp only [Act.put,sA,sZ,sS]
      refine wpU 24 rfl ?_;try simp only [Act.put,sA,sZ,sS]
      refine wpU 25 rfl ?_;try simp only [Act.put,sA,sZ,sS]
      refine wpT 26 (v:=(.bool false)) rfl (Or.inl ⟨by kernel_rfl,fun V' hSV=>by(try dsimp only at hSV);go_simp;try simp⟩) (by assumption) ?_;try simp only [Act.put,sA,sZ,sS]
      refine wpU 27 rfl ?_;try simp only [Act.put,sA,sZ,sS]
      refine wpU 28 rfl ?_;try simp only [Act.put,sA,sZ,sS]
      refine wpU 29 rfl ?_;try simp only [Act.put,sA,sZ,sS]
      refine wpT 30 (v:=(.string s8)) rfl (Or.inl ⟨by kernel_rfl,fun V' hSV=>by(try dsimp only at hSV);have hcB:=HCv.out V' _ c2 (HBy3.out V' (HY5.out V' hSV)) HB5.out.1 HB5.out.2.1;go_simp⟩) (by assumption) ?_;try simp only [Act.put,sA,sZ,sS]
      refine wpU 31 rfl ?_;try simp only [Act.put,sA,sZ,sS]
      refine wpU 32 rfl ?_;try simp only [Act.put,sA,sZ,sS]
      refine wpU 33 rfl ?_;try simp only [Act.put,sA,sZ,sS]
      refine wpU 34 rfl ?_;try simp only [Act.put,sA,sZ,sS]
      refine wpU 35 rfl ?_;try simp only [Act.put,sA,sZ,sS]
      refine wpU 36 rfl ?_;try simp only [Act.put,sA,sZ,sS]
      refine wpT 37 (v:=(.string s8)) rfl (Or.inl ⟨by kernel_rfl,fun V' hSV=>by(try dsimp only at hSV);have hcB:=HCv.out V' _ (N-at_) (HSg.out V' hSV) (by have:=HAT.out;omega) (by have:=HBn.out.N4;unfold maxLen;omega);go_simp⟩) (by assumption) ?_;try simp only [Act.put,sA,sZ,sS]
      refine wpT 38 (v:=(.bool false)) rfl (Or.inl ⟨by kernel_rfl,fun V' hSV=>by(try dsimp only at hSV);go_simp;try simp⟩) (by assumption) ?_;try simp only [Act.put,sA,sZ,sS]
      refine wpU 39 rfl ?_;try simp only [Act.put,sA,sZ,sS]
      refine wpU 40 rfl ?_;try simp only [Act.put,sA,sZ,sS]
      refine wpU 41 rfl ?_;try simp only [Act.put,sA,sZ,sS]
      refine wpU 42 rfl ?_;try simp only [Act.put,sA,sZ,sS]
      refine wpAnyH_ready (rs:=[43]) (by kernel_rfl) (by simp) ?_
      refine AllReadyH.cons (o:=⟨_,_,_,_,_,_⟩) (by rfl) ?_ AllReadyH.nil
      intro K hK
      go_simp
      refine(HCs.out _ (HY5.out _ HD9.out)).mono ?_
      rintro e V10 ⟨rfl,o10⟩
      have HE:=zH (HD9.out.trans o10)
      clear o10
      go_wp2_with fail
      refine hK.out _ _ ?_ (fun hHeld=>?_)
      ·(try dsimp only);exact HE.out
      clear hK K
      try simp only [Act.put,sA,sZ,sS]
      refine wpT 44 (v:=(.bool false)) rfl (Or.inl ⟨by kernel_rfl,fun V' hSV=>by(try dsimp only at hSV);go_simp;try simp⟩) (by assumption) ?_;try simp only [Act.put,sA,sZ,sS]
      refine wpU 45 rfl ?_;try simp only [Act.put,sA,sZ,sS]
      refine wpAnyH_done (by kernel_rfl) ?_ _
      go_wp2_with fail
      go_meet
      exact⟨rfl,HE.out⟩
     case rest=>as_aux_lemma=>
      obtain⟨rfl,o9⟩:=hcut
      have HOw:=zH o9
      clear o9 HCs HCv HSg HN8 HBy3 HZs HSl HBn HY5 z1 z2 z3
      go_wp2_with fail
      refine(HRd.out _ HOw.out).mono ?_
      rintro e W1 ⟨Gf,mf,pf,cf,Tf,er,rfl,o1,j1,j2,j3,j4,j5,j6,j7,j8⟩
      obtain⟨b10,hb10⟩:∃b,b=W1.heap.size:=⟨_,rfl⟩
      obtain⟨W2,hW2⟩:∃V,V=W1.alloc (.cells (rowN 29 (frC Gf (.slice pf mf cf))) 69):=⟨_,rfl⟩
      have o2:Old W1 W2:=by rw [hW2];exact Old.alloc _ _
      have hx2:W2.heap[b10]?=some (.cells (rowN 29 (frC Gf (.slice pf mf cf))) 69 (0,0)):=by rw [hW2,hb10];exact heap_alloc_new _ _
      have HG2:Hid (∀V,Old W2 V->∀j,j<29->V.cell? ⟨b10,0+j,none⟩=some (frC Gf (.slice pf mf cf) j)):=zH fun V o j hj=>by rw [Nat.zero_add];exact(cell_of_row _ _ _ _ _ _ ((o.block _ (lt_of_block hx2)).trans hx2)).trans (rowN_at 29 _ j hj)
      have H1g:Hid ((rowN 29 (frC Gf (.slice pf mf cf))).all (·.oneCell')=true):=zH (frC_one _ _ rfl)
      have HO2:=zH ((HOw.out.trans o1).trans o2)
      have HSf:=zH (fun V (o:Old W2 V)=>(j3.old o2).old o)
      have HJ:=zH (And.intro j1 (And.intro j2 (And.intro j5 (And.intro j6 j8))))
      have HW2:=zH hW2
      have HB10:=zH hb10
      clear hW2 hb10 o1 o2 hx2 j1 j2 j3 j4 j5 j6 j7 j8 HRd
      obtain⟨SO,hSO⟩:∃v,v=sumF O om:=⟨_,rfl⟩
      have HSO:Hid (SO=Crc.sumOf (lst O om)):=zH (by rw [hSO];rfl)
      rw [←hSO] at HCo
      clear hSO
      by_cases hS:SO≠SS
      ·obtain rfl:y=9:=by rw [HYo.out];exact openI_sum (by rw [←HSO.out];exact hS)
       have hd:(SO != SS)=true:=by simpa using hS
       clear HYo HSO hS HY
       go_wp2_with (with_reducible refine wpList_store_row rfl 69 _ _ rfl W1.heap.size (rowN 29 (frC Gf (.slice pf mf cf))) rfl rfl 69 _ (heap_alloc_new _ _) (by rw [rowN_size];exact Hs29.out) (by rw [rowN_size];kernel_rfl) H1g.out ?_;rw [World.setRow_alloc_new,←HW2.out,←HB10.out])
       refine(HCo.out _ HO2.out).mono ?_
       rintro e W3 ⟨rfl,o3⟩
       have HO3':=zH (HO2.out.trans o3)
       clear o3 HCo
       go_wp2_with fail
       refine(awake_any _).mono ?_
       rintro e W4 ⟨rfl,o4⟩
       have HE:=zH (HO3.out.trans (HO9.out.trans (HO3'.out.trans o4)))
       clear o4
       go_wp2_with fail
       go_ret
       exact⟨rfl,HE.out⟩
      ·have hS:=Classical.not_not.1 hS
       have hd:(SO != SS)=false:=by simpa using hS
       by_cases h0:er=0
       ·have hrd:RdOf (lst O om):=⟨Gf,mf,Tf,(HJ.out.2.2.2.1 h0).1,(HJ.out.2.2.2.1 h0).2⟩
        obtain rfl:y=0:=by rw [HYo.out];exact openI_ok (by rw [←HSO.out];exact hS) hrd
        obtain rfl:=h0
        have hsame:=opn_same (E:=0) (er:=0) rfl HG.out.2.2.2 rfl HJ.out.2.2.2.1
        have HSa:=zH (fun V (o:Old W2 V)=>Same_any X Gf pg pf kx mf cg cf U Tf V (HG.out.2.2.1 V ((HO79.out.trans HO2.out).trans o)) (HSf.out V o) (by have:=HG.out.1;have:=HG.out.2.1;omega) (by have:=HJ.out.1;have:=HJ.out.2.1;omega))
        rw [decide_eq_true hsame] at HSa
        have HXl:=zH (fun V (o:Old W2 V)=>HX7.out V ((HO79.out.trans HO2.out).trans o))
        clear HYo HSO hS HY hrd hsame HX7 HSf
        go_wp2_with (with_reducible refine wpList_store_row rfl 69 _ _ rfl W1.heap.size (rowN 29 (frC Gf (.slice pf mf cf))) rfl rfl 69 _ (heap_alloc_new _ _) (by rw [rowN_size];exact Hs29.out) (by rw [rowN_size];kernel_rfl) H1g.out ?_;rw [World.setRow_alloc_new,←HW2.out,←HB10.out])
        refine(HCo.out _ HO2.out).mono ?_
        rintro e W3 ⟨rfl,o3⟩
        have HO3':=zH (HO2.out.trans o3)
        have HXc:=zH (HXl.out _ o3)
        have HGc:=zH (HG2.out _ o3)
        have HSb:=zH (HSa.out _ o3)
        clear o3 HCo HXl HG2 HSa
        go_wp2_with (first | (with_reducible refine wpList_load_fr_w (by kernel_rfl) (frC X (.slice pg kx cg)) 69 _ rfl b6 0 rfl _ HXc.out Tryz.underlying69 rfl Hs29.out ?_) | (with_reducible refine wpList_load_fr_w (by kernel_rfl) (frC Gf (.slice pf mf cf)) 69 _ rfl b10 0 rfl _ HGc.out Tryz.underlying69 rfl Hs29.out ?_))
        refine HSb.out.mono ?_
        rintro e W4 ⟨rfl,o4⟩
        have HO4':=zH (HO3'.out.trans o4)
        clear o4 HSb
        go_wp2_with fail
        refine(awake_any _).mono ?_
        rintro e W5 ⟨rfl,o5⟩
        have HE:=zH (HO3.out.trans (HO9.out.trans (HO4'.out.trans o5)))
        clear o5
        go_wp2_with fail
        go_ret
        exact⟨rfl,HE.out⟩
       ·have hrd:¬RdOf (lst O om):=fun⟨F0,n0,T0,a,b⟩=>h0 (HJ.out.2.2.2.2 F0 n0 T0 a b).1
        obtain rfl:y=4:=by rw [HYo.out];exact openI_form (by rw [←HSO.out];exact hS) hrd
        have hd2:(er != 0)=true:=by simpa using h0
        clear HYo HSO hS HY hrd h0
        go_wp2_with (with_reducible refine wpList_store_row rfl 69 _ _ rfl W1.heap.size (rowN 29 (frC Gf (.slice pf mf cf))) rfl rfl 69 _ (heap_alloc_new _ _) (by rw [rowN_size];exact Hs29.out) (by rw [rowN_size];kernel_rfl) H1g.out ?_;rw [World.setRow_alloc_new,←HW2.out,←HB10.out])
        refine(HCo.out _ HO2.out).mono ?_
        rintro e W3 ⟨rfl,o3⟩
        have HO3':=zH (HO2.out.trans o3)
        clear o3 HCo
        go_wp2_with fail
        refine(awake_any _).mono ?_
        rintro e W4 ⟨rfl,o4⟩
        have HE:=zH (HO3.out.trans (HO9.out.trans (HO3'.out.trans o4)))
        clear o4
        go_wp2_with fail
        go_ret
        exact⟨rfl,HE.out⟩
end Go.Proofs.YtanmbhakjfhhdaaGreatDoor
