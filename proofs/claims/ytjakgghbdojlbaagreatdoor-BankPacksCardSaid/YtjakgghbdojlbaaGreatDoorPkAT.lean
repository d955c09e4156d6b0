/- Texts joined: LawP, LawQ, BankS, BankT, BankY. -/
import Derived.Deep.DeepCutAuto
import Derived.Deep.CutBlock
import Derived.OwnWalk
import Derived.Test.YtjakgghbdojlbaaGreatDoorPkAO
import Derived.Test.YtjakgghbdojlbaaGreatDoorPkAQ
import Derived.Test.YtjakgghbdojlbaaGreatDoorPkAS
import Derived.Test.YtjakgghbdojlbaaGreatDoorTk
namespace Go.Proofs.YtjakgghbdojlbaaGreatDoor
set_option linter.unusedVariables false
set_option maxRecDepth 100000
open Go.RowKit Go.ChangeShapes Go.WideShapes
theorem patch_step(F G:Nat->Int)(o k:Nat)(p:Nat):(if p=o+k then G k else patch F o k G p)=patch F o (k+1) G p:=by
 unfold patch
 by_cases e:p=o+k
 ·rw [if_pos e,if_pos (by omega)]
  congr 1
  omega
 ·rw [if_neg e]
  by_cases h:o<=p/\p<o+k
  ·rw [if_pos h,if_pos (by omega)]
  ·rw [if_neg h,if_neg (by omega)]
theorem patch_past(F G:Nat->Int)(o k L N:Nat)(hk:k<=L)(h:k=L\/N<=o+k)(p:Nat)(hp:p<N):patch F o k G p=patch F o L G p:=by
 unfold patch
 by_cases e:o<=p/\p<o+k
 ·rw [if_pos e,if_pos (by omega)]
 ·rw [if_neg e,if_neg (by omega)]
set_option maxHeartbeats 4000000 in
theorem lawLay_any(pb:Option Addr)(N cap o:Nat)(x:Option Addr)(L cx:Nat)(F G:Nat->Int)(w:World)(hN1:1<=N)(hN:N<=1099511627776)(ho:o<=1099511627776)(hL:L<=1099511627776)(hs:SlU w pb N F)(hx:SlU w x L G):
  Calls Tryz.prog 46 #[.slice pb N cap,.int .i64 o,.slice x L cx] w fun e w'=>∃g c,e = .returned (.slice (some ⟨g,0,none⟩) N c)/\N<=c/\c<=maxLen/\FrtS w g N (patch F o L G) w':=by
 obtain⟨i0,hi,hz0,hz1,hz2⟩:=info_parts (show (Tryz.prog.info? 5).map (fun i=>(i.zero,i.size,i.bytes))=some (some (.int .u8 0),1,1) by kernel_rfl)
 have HO:=zH (Old.alloc w (.cells #[] 5))
 have HS:=zH (hs.old HO.out)
 have HXs:=zH hx
 have hoe:=own_emptyX w 5
 have HX0:∀j,(fun j=>j<w.heap.size) j->j<(w.alloc (.cells #[] 5)).heap.size:=fun j hj=>Nat.lt_of_lt_of_le hj HO.out.size
 clear hs hx
 go_enter Tryz.func46,Tryz.ntmps46
 go_wp2_with (at_builtin;refine append_U _ rfl _ _ 24 rfl (fun j=>j<w.heap.size) 5 i0 Tryz.underlying24 hi hz0 hz1 hz2 (.slice (some ⟨w.heap.size,0,none⟩) 0 0) 0 (fun _=>0) rfl hoe pb N cap F rfl HS.out (by omega) HX0 ?_;intro v2 w2 h2 hk2 _;generalize hcut3:wpList _ _ _ _ _ _=GG)
 rw [Nat.zero_add] at h2
 have h2':ownX (fun j=>j<w.heap.size) w2 5 v2 N (u8L F N):=by
  rw [u8L_ext (F:=F) (G:=fun j=>if j<0 then 0 else F (j-0)) (fun j _=>by rw [if_neg (by omega),Nat.sub_zero])];exact h2
 obtain⟨p2,c,rfl,hc1,hc2,_,hpp⟩:=h2'.bytes
 obtain⟨g,rfl,hgx,hu⟩:=hpp (by omega)
 have hgx:¬g<w.heap.size:=hgx
 have HGc:=zH (And.intro hc1 hc2)
 have HF0:Hid (FrtS w g N (patch F o 0 G) w2):=zH ⟨hu.ext fun p _=>by unfold patch;rw [if_neg (by omega)],by omega,HO.out.after hk2 (fun _ h=>h)⟩
 rw [←hcut3]
 clear h2 h2' hk2 hcut3 hpp hu hgx hc1 hc2 HX0 hoe HS HO
 go_wp2_with fail
 go_loopw [8] (fun iv wr=>∃k:Nat,k<=L/\iv = .int .i64 k/\Hid (FrtS w g N (patch F o k G) wr)) (fun i _=>L-(intOf i).toNat)
 case atStart=>exact⟨0,by omega,by go_num,HF0⟩
 case round=>
  clear HF0
  obtain⟨k,hk,rfl,HF⟩:=hrel
  obtain⟨m,hm⟩:∃m,m=o+k:=⟨_,rfl⟩
  have em:(o:Int)+(k:Int)=(m:Int):=by omega
  have hmb:m<=4398046511104:=by omega
  have HM:=zH hm
  clear hm
  go_upto_region 3 with (fail)
  go_cut [23] (fun v wx=>v = .bool (decide (k<L/\m<N))/\wr=wx)
  case first=>
   by_cases c1:k<L
   ·have a1:(k:Int)<L:=by omega
    by_cases c2:m<N
    ·have a2:(m:Int)<N:=by omega
     go_wp2_with fail
     go_meet
     exact⟨congrArg Value.bool (decide_eq_true ⟨c1,c2⟩).symm,rfl⟩
    ·have a2:¬(m:Int)<N:=by omega
     go_wp2_with fail
     go_meet
     exact⟨congrArg Value.bool (decide_eq_false (fun h=>c2 h.2)).symm,rfl⟩
   ·have a1:¬(k:Int)<L:=by omega
    have d1:decide ((k:Int)<L)=false:=decide_eq_false a1
    go_wp2_with fail
    go_meet
    exact⟨congrArg Value.bool (decide_eq_false (fun h=>c1 h.1)).symm,rfl⟩
  case rest=>
   obtain⟨rfl,rfl⟩:=hcut
   by_cases hin:k<L/\m<N
   ·rw [decide_eq_true hin]
    obtain⟨gx,ox,rfl,hgx,hcx⟩:=(HXs.out.old HF.out.old) (by omega)
    have cx:=hcx k hin.1
    have ck:=HF.out.row.at_ m hin.2
    have fk:=HF.out.row.fz m hin.2
    have HN:Hid (FrtS w g N (patch F o (k+1) G) (wr.setCell ⟨g,m,none⟩ (.int .u8 (G k)))):=zH (HF.out.put ((HF.out.row.set m hin.2 (G k)).ext fun p _=>by rw [HM.out];exact patch_step F G o k p) (Kept.setCell (X:=fun q=>q≠g) wr (a:=⟨g,m,none⟩) (fun e=>e rfl) (.int .u8 (G k))))
    have j0:(0:Int)<=k:=by omega
    have j1:(k:Int)<L:=by omega
    have m0:(0:Int)<=m:=by omega
    have m1:(m:Int)<N:=by omega
    generalize patch F o k G m=old at *
    clear hcx HF hin
    go_wp2_with fail
    go_roundw
    case rel=>exact⟨k+1,by omega,by go_num,HN⟩
    case measure=>simp [intOf];omega
   ·rw [decide_eq_false hin]
    have HE:Hid (FrtS w g N (patch F o L G) wr):=zH ⟨HF.out.row.ext fun p hp=>patch_past F G o k L N hk (by have:=HM.out;omega) p hp,HF.out.ge,HF.out.old⟩
    clear HF
    go_wp2_with fail
    go_ret
    exact⟨g,c,rfl,HGc.out.1,HGc.out.2,HE.out⟩
set_option linter.unusedSimpArgs false
theorem metL_snoc(E:Nat->Mt)(k:Nat):metL E k ++ (E k).cells.toList=metL E (k+1):=by
 apply List.ext_getElem?
 intro j
 have hs:(E k).cells.toList.length=9:=rfl
 rcases Nat.lt_or_ge j (k*9) with h | h
 ·rw [List.getElem?_append_left (by rw [metL_len];exact h)]
  have e:=metL_at E k (j/9) (j%9) (by omega) (by omega)
  have e':=metL_at E (k+1) (j/9) (j%9) (by omega) (by omega)
  rw [show j/9*9+j%9=j by omega] at e e'
  rw [e,e']
 ·rw [List.getElem?_append_right (by rw [metL_len];exact h),metL_len]
  rcases Nat.lt_or_ge j ((k+1)*9) with h2 | h2
  ·have e':=metL_at E (k+1) k (j-k*9) (by omega) (by omega)
   rw [show k*9+(j-k*9)=j by omega] at e'
   rw [e',←Array.getElem?_toList]
  ·rw [List.getElem?_eq_none (by rw [hs];omega),List.getElem?_eq_none (by rw [metL_len];exact h2)]
theorem ownS_mts{X:Nat->Prop}{w:World}{v:Value}{n:Nat}{D:Nat->Mt}(h:ownS X w 45 9 v n (metL D n))(hs:∀i,i<n->(D i).s.size<=9223372036854775807):∃q cap,v = .slice q n cap/\n<=cap/\MtsS w q n D:=by
 rcases h.shape with ⟨rfl,rfl⟩ | ⟨g,cap,rfl,_,hg,h1,_,h3⟩
 ·exact⟨none,0,rfl,Nat.le_refl _,fun h=>absurd h (by omega),hs⟩
 ·refine⟨some ⟨g,0,none⟩,cap,rfl,h1,fun _=>⟨g,0,rfl,hg,fun i hi f u hf=>?_⟩,hs⟩
  have hf9:f<9:=by
   rcases Nat.lt_or_ge f 9 with h | h
   ·exact h
   ·rw [Array.getElem?_eq_none (by rw [Mt.size9];exact h)] at hf;cases hf
  rw [Nat.zero_add]
  exact h3 (i*9+f) u (by rw [metL_at D n i f hi hf9];exact hf)
structure PcR(w:World)(pv:Value)(k:Nat)(E:Nat->Mt)(wr:World):Prop where
 own:ownS (fun q=>q<w.heap.size) wr 45 9 pv k (metL E k)
 old:Old w wr
theorem PcR.next{w wr w1 w2:World}{pv v':Value}{k:Nat}{E:Nat->Mt}(h:PcR w pv k E wr)(o:Old wr w1)(ho:ownS (fun z=>z<w1.heap.size/\pv.ownBlock≠some z) w2 45 9 v' (k+1) (metL E k ++ (E k).cells.toList))(hk:Kept (fun z=>z<w1.heap.size/\pv.ownBlock≠some z) w1 w2)(hb:∀z,v'.ownBlock=some z->pv.ownBlock=some z\/w1.heap.size<=z):PcR w v' (k+1) E w2:=by
 refine⟨?_,(h.old.trans o).after hk fun q hq=>⟨Nat.lt_of_lt_of_le hq (h.old.trans o).size,fun e=>h.own.2 q e hq⟩⟩
 rw [metL_snoc] at ho
 refine ho.mono fun z hz hlt=>?_
 rcases hb z hz with h1 | h1
 ·exact h.own.2 z h1 hlt
 ·have:=(h.old.trans o).size;omega
theorem news_nine(w:World)(m:Mt)(t:TypeId):∀(j:Nat) (u:Value),m.cells.toList[j]?=some u->(w.alloc (.cells m.cells t)).cell? ((⟨w.heap.size,0,none⟩:Addr).add j)=some u:=by
 intro j u h
 rw [add_plain,Nat.zero_add,cell_of_row _ _ _ _ _ _ (heap_alloc_new _ _)]
 simpa using h
theorem im_nums(m:Mt)(h:m.OkR)(A sz:Nat)(hA:A<=900000000)(hz:sz<=96):∃T fr u v y z t:Nat,fr=m.fr/\u=4*fr/\v=A+u/\y=up16 v/\z=sz*fr/\t=y+z/\v<=1099511627776 /\
  (wrap64 ((m.n+15).tdiv 16)=(T:Int)/\(m.n+15)/16=(T:Int))/\((T:Int)*m.c=(fr:Int)/\wrap64 ((T:Int)*m.c)=(fr:Int)/\IntKind.i64.wrap ((T:Int)*m.c)=(fr:Int)) /\
  ((4:Int)*(fr:Int)=u/\(A:Int)+u=v)/\((sz:Int)*(fr:Int)=z/\wrap64 ((sz:Int)*(fr:Int))=z/\IntKind.i64.wrap ((sz:Int)*(fr:Int))=z)/\(y:Int)+z=t/\t<=1099511627776:=by
 have n1:=h.n1
 have n2:=h.n2
 have hf:=h.fr_le
 have hu:=up16_le (A+4*m.fr)
 have hfs:sz*m.fr<=96*131072:=Nat.mul_le_mul hz hf.2
 have hT:(m.n+15)/16=((cnt m.n.toNat:Nat):Int):=by unfold cnt;omega
 have hT2:(m.n+15).tdiv 16=((cnt m.n.toNat:Nat):Int):=(tdiv_pos _ _ (by omega)).trans hT
 have hfr:((cnt m.n.toNat:Nat):Int)*m.c=(m.fr:Int):=by
  have:=h.c1
  unfold Mt.fr
  rw [Int.natCast_mul,Int.toNat_of_nonneg (by omega)]
 have hcb:cnt m.n.toNat<=65536:=by unfold cnt;omega
 refine⟨cnt m.n.toNat,m.fr,_,_,_,_,_,rfl,rfl,rfl,rfl,rfl,rfl,by omega,⟨by rw [hT2];exact IntWalk.wrap64_in _ (by omega),hT⟩,⟨hfr,?_,?_⟩,⟨by omega,by omega⟩,⟨by rw [Int.natCast_mul],?_,?_⟩,by omega,by omega⟩
 ·rw [hfr];exact IntWalk.wrap64_in _ (by omega)
 ·rw [hfr];exact IntWalk.i64_in _ (by omega)
 ·rw [←Int.natCast_mul];exact IntWalk.wrap64_in _ (by omega)
 ·rw [←Int.natCast_mul];exact IntWalk.i64_in _ (by omega)
theorem im_frs(m:Mt)(h:m.OkR):∃T fr:Nat,fr=m.fr/\wrap64 ((m.n+15).tdiv 16)=(T:Int)/\(m.n+15)/16=(T:Int)/\wrap64 ((T:Int)*m.c)=(fr:Int)/\IntKind.i64.wrap ((T:Int)*m.c)=(fr:Int):=by
 obtain⟨T,fr,u,v,y,z,t,efr,eu,ev,ey,ez,et,hv,⟨a1,a2⟩,⟨b1,b2,b3⟩,_⟩:=im_nums m h 0 0 (by omega) (by omega)
 exact⟨T,fr,efr,a1,a2,b2,b3⟩
def ImS(w:World)(N:Nat)(P:(Nat->Int)->Prop)(v:Value)(wr:World):Prop:=∃g c F,v = .slice (some ⟨g,0,none⟩) N c/\N<=c/\c<=maxLen/\FrtS w g N F wr/\P F
theorem ImS.on{w:World}{N:Nat}{P:(Nat->Int)->Prop}{v:Value}{wr w':World}(h:ImS w N P v wr)(o:Old wr w'):ImS w N P v w':=by
 obtain⟨g,c,F,h1,h2,h3,h4,h5⟩:=h
 exact⟨g,c,F,h1,h2,h3,h4.on o,h5⟩
theorem lawLay_im{w:World}{N:Nat}{P:(Nat->Int)->Prop}{g c:Nat}{wr:World}(h:ImS w N P (.slice (some ⟨g,0,none⟩) N c) wr)(o:Nat)(x:Option Addr)(L cx:Nat)(G:Nat->Int)(P':(Nat->Int)->Prop)(hP:∀F,P F->P' (patch F o L G))(hx:SlU wr x L G)(hN1:1<=N)(hN:N<=1099511627776)(ho:o<=1099511627776)(hL:L<=1099511627776):
  Calls Tryz.prog 46 #[.slice (some ⟨g,0,none⟩) N c,.int .i64 o,.slice x L cx] wr fun e w'=>∃g' c',e = .returned (.slice (some ⟨g',0,none⟩) N c')/\ImS w N P' (.slice (some ⟨g',0,none⟩) N c') w'/\Old wr w':=by
 obtain⟨g0,c0,F,h1,h2,h3,h4,h5⟩:=h
 simp only [Value.slice.injEq,Option.some.injEq,Addr.mk.injEq,and_true,true_and] at h1
 obtain⟨rfl,rfl⟩:=h1
 have hs:SlU wr (some ⟨g,0,none⟩) N F:=(h4.row.sl 0 N (by omega)).ext fun j _=>by rw [Nat.zero_add]
 refine(lawLay_any (some ⟨g,0,none⟩) N c o x L cx F G wr hN1 hN ho hL hs hx).mono ?_
 rintro e w' ⟨g',c',rfl,e1,e2,e3⟩
 exact⟨g',c',rfl,⟨g',c',_,rfl,e1,e2,⟨e3.row,Nat.le_trans h4.old.size e3.ge,h4.old.trans e3.old⟩,hP F h5⟩,e3.old⟩
theorem Ld.front_ext{f:Nat->Nat}{sz n:Nat}{B:Nat->Nat->Int}{H H':Nat->Int}{k:Nat}{F:Nat->Int}(h:Ld f sz n B H k F)(e:∀p,p<20+64*n->H p=H' p):Ld f sz n B H' k F:=
 ⟨fun p hp=>(h.front p hp).trans (e p hp),h.sum,h.byte,h.gap⟩
theorem lawLay_front{w:World}{N:Nat}{f:Nat->Nat}{sz n:Nat}{B:Nat->Nat->Int}{H:Nat->Int}{k:Nat}{g c:Nat}{wr:World}(h:ImS w N (Ld f sz n B H k) (.slice (some ⟨g,0,none⟩) N c) wr)(o:Nat)(x:Option Addr)(L cx:Nat)(G:Nat->Int)(H':Nat->Int)(hH:∀p,p<20+64*n->patch H o L G p=H' p)(ho:o+L<=20+64*n)(hx:SlU wr x L G)(hN1:1<=N)(hN:N<=1099511627776)(hn:n<=64):
  Calls Tryz.prog 46 #[.slice (some ⟨g,0,none⟩) N c,.int .i64 o,.slice x L cx] wr fun e w'=>∃g' c',e = .returned (.slice (some ⟨g',0,none⟩) N c')/\ImS w N (Ld f sz n B H' k) (.slice (some ⟨g',0,none⟩) N c') w'/\Old wr w':=
 lawLay_im h o x L cx G _ (fun F hF=>(hF.lay o L G ho).front_ext hH) hx hN1 hN (by omega) (by omega)
theorem num_sl{w:World}{g n:Nat}{F:Nat->Int}{W:World}(h:FrtS w g n F W):SlU W (some ⟨g,0,none⟩) n F:=(h.row.sl 0 n (by omega)).ext fun j _=>by rw [Nat.zero_add]
theorem lawLay_fi{w:World}{N:Nat}{f:Nat->Nat}{sz n:Nat}{B:Nat->Nat->Int}{H:Nat->Int}{k:Nat}{g c:Nat}{wr:World}(h:ImS w N (Ld f sz n B H k) (.slice (some ⟨g,0,none⟩) N c) wr)(oi:Int)(o:Nat)(hoi:oi=o)(x:Option Addr)(L cx:Nat)(G:Nat->Int)(H':Nat->Int)(hH:∀p,p<20+64*n->patch H o L G p=H' p)(ho:o+L<=20+64*n)(hx:SlU wr x L G)(hN1:1<=N)(hN:N<=1099511627776)(hn:n<=64):
  Calls Tryz.prog 46 #[.slice (some ⟨g,0,none⟩) N c,.int .i64 oi,.slice x L cx] wr fun e w'=>∃g' c',e = .returned (.slice (some ⟨g',0,none⟩) N c')/\ImS w N (Ld f sz n B H' k) (.slice (some ⟨g',0,none⟩) N c') w'/\Old wr w':=by
 subst hoi
 exact lawLay_front h o x L cx G H' hH ho hx hN1 hN hn
theorem lawNumber_i(ni vi:Int)(n V:Nat)(hni:ni=n)(hvi:vi=V)(w:World)(h1:1<=n)(hn:n<=8)(hV:V<=1099511627776):
  Calls Tryz.prog 47 #[.int .i64 ni,.int .i64 vi] w fun e w'=>∃g,e = .returned (.slice (some ⟨g,0,none⟩) n n)/\SlU w' (some ⟨g,0,none⟩) n (be n vi)/\Old w w':=by
 subst hni hvi
 refine(lawNumber_any n V w h1 hn hV).mono ?_
 rintro e w' ⟨g,rfl,hf⟩
 exact⟨g,rfl,num_sl hf,hf.old⟩
theorem patch_sub(H E:Nat->Int)(o a L:Nat)(G:Nat->Int)(h:a+L<=64)(p:Nat):patch (patch H o 64 E) (o+a) L G p=patch H o 64 (patch E a L G) p:=by
 unfold patch
 by_cases h1:o+a<=p/\p<o+a+L
 ·rw [if_pos h1,if_pos (by omega),if_pos (by omega),show p-o-a=p-(o+a) by omega]
 ·rw [if_neg h1]
  by_cases h2:o<=p/\p<o+64
  ·rw [if_pos h2,if_pos h2,if_neg (by omega)]
  ·rw [if_neg h2,if_neg h2]
theorem patch_ext64(H E E':Nat->Int)(o:Nat)(h:∀r,r<64->E r=E' r)(p:Nat):patch H o 64 E p=patch H o 64 E' p:=by
 unfold patch
 by_cases h1:o<=p/\p<o+64
 ·rw [if_pos h1,if_pos h1,h _ (by omega)]
 ·rw [if_neg h1,if_neg h1]
theorem hd_name(len n sz:Int)(D:Nat->Mt)(i:Nat)(m:Mt)(h:m.s.size<=32)(p:Nat):patch (hdK len n sz D i) (16+64*i) m.s.size (bsI m.s) p=patch (hdK len n sz D i) (16+64*i) 64 (enK m 0) p:=by
 unfold patch enK
 by_cases h1:16+64*i<=p/\p<16+64*i+m.s.size
 ·rw [if_pos h1,if_pos (by omega),if_pos (by omega)]
 ·rw [if_neg h1]
  by_cases h2:16+64*i<=p/\p<16+64*i+64
  ·rw [if_pos h2]
   have e0:hdK len n sz D i p=0:=by unfold hdK;rw [if_neg (by omega),if_neg (by omega)]
   rw [e0]
   by_cases h3:p-(16+64*i)<32
   ·rw [if_pos h3,bsI_end _ _ (by omega)]
   ·rw [if_neg h3,if_neg (by omega)]
  ·rw [if_neg h2]
theorem be1_zero(v:Int):be 1 v 0=v%256:=by show v/1%256=v%256;omega
theorem en_last(m:Mt)(r:Nat)(hr:r<64):(m.lp=true->patch (patch (enK m 6) 56 1 (be 1 m.c)) 57 1 (be 1 1) r=entF m r)/\(m.lp=false->patch (enK m 6) 56 1 (be 1 m.c) r=entF m r):=by
 have e1:be 1 1 0=1:=by rw [be1_zero];rfl
 refine⟨fun hl=>?_,fun hl=>?_⟩
 all_goals
  unfold patch enK entF
  rw [hl]
  by_cases h57:r=57
  ·subst h57;simp [e1]
  ·by_cases h56:r=56
   ·subst h56;simp [be1_zero]
   ·by_cases h32:r<32
    ·simp [h32,show ¬(57<=r) by omega,show ¬(56<=r) by omega]
    ·by_cases h5:r<56
     ·simp [h32,h5,show ¬(57<=r) by omega,show ¬(56<=r) by omega]
     ·simp [h32,h5,h56,h57,show ¬(r<58) by omega,show ¬(r<57) by omega]
theorem hd_next(len n sz:Int)(D:Nat->Mt)(i:Nat)(E:Nat->Int)(h:∀r,r<64->E r=entF (D i) r)(p:Nat):patch (hdK len n sz D i) (16+64*i) 64 E p=hdK len n sz D (i+1) p:=by
 rw [←hdK_step]
 unfold patch
 by_cases h1:16+64*i<=p/\p<16+64*i+64
 ·rw [if_pos h1,if_pos h1,h _ (by omega)]
 ·rw [if_neg h1,if_neg h1]
theorem num_bd{m:Mt}{j sz k i:Nat}{D:Nat->Mt}(hm:m=plD D sz k i)(hz:sz<=96)(hn:k<=64)(hD:∀i,i<k->(D i).OkR)(hi:i<k):m.num j<=1099511627776:=by
 have h:=hD i hi
 have hb:=atTo_bd (f:=frD D) (sz:=sz) (n:=k) (fun i hi=>(hD i hi).fr_le.2) hz i (by omega)
 have hf:=firstAt_le (frD D) sz k i
 have hfr:frD D i<=131072:=h.fr_le.2
 have h1:=h.nums
 have h3:=h.n2
 have h5:=h.r2
 subst hm
 unfold Mt.num
 show (if j=0 then(D i).n else if j=1 then(D i).r else if j=2 then(D i).a else if j=3 then(D i).b else if j=4 then((atTo (frD D) sz k i:Nat):Int) else((firstAt (frD D) sz k i:Nat):Int))<=_
 (repeat' split) <;> omega
theorem six_at(m:Mt)(j:Nat)(h:j<6):(#[Value.int .i64 m.n,.int .i64 m.r,.int .i64 m.a,.int .i64 m.b,.int .i64 m.x,.int .i64 m.y]:Array Value)[j]?=some (.int .i64 (m.num j)):=by
 match j,h with
 | 0,_=>rfl
 | 1,_=>rfl
 | 2,_=>rfl
 | 3,_=>rfl
 | 4,_=>rfl
 | 5,_=>rfl
theorem cal_sl(w:World)(fr:Nat × Nat):SlU (w.alloc (.cells #[.int .u8 67,.int .u8 65,.int .u8 76,.int .u8 49] 5 fr)) (some ⟨w.heap.size,0,none⟩) 4 mrk:=fun _=>⟨w.heap.size,0,rfl,by simp,fun j hj=>by
 rw [World.cell?_alloc_mark]
 match j,hj with
 | 0,_=>rfl
 | 1,_=>rfl
 | 2,_=>rfl
 | 3,_=>rfl⟩
set_option maxHeartbeats 8000000 in
theorem lawImage_any(sz n K:Nat)(p:Option Addr)(cap:Nat)(D:Nat->Mt)(fp:Option Addr)(fc:Nat)(Q:Nat->Option Addr)(C:Nat->Nat)(B:Nat->Nat->Int)(w:World)(h24:24<=sz)(hz:sz<=96)(hs:MtsS w p n D)(hn:n<=64)(hD:∀i,i<n->(D i).OkR)
  (hfr:RwU w fp K Q (fun _=>sz) C B) (hK:K<=offTo (frD D) n):
  Calls Tryz.prog 12 #[.int .i64 sz,.slice p n cap,.slice fp K fc] w fun e w'=>∃g c,e = .returned (.slice (some ⟨g,0,none⟩) (totalAt (frD D) sz n) c)/\totalAt (frD D) sz n<=c/\c<=maxLen/\LayS w g (totalAt (frD D) sz n) (frD D) sz n B (frontF (totalAt (frD D) sz n) n sz (plD D sz n)) K w':=by
 obtain⟨ir,hir,hr0,hr1,hr2⟩:=info_parts Tryz.infoM
 have HS:=zH hs
 have HOk:=zH hD
 have hbd:=atTo_bd (f:=frD D) (sz:=sz) (n:=n) (fun i hi=>(hD i hi).fr_le.2) hz
 have HBd:=zH hbd
 have HFr:=zH (And.intro hfr hK)
 have HKb:Hid (K<=8388608):=zH (by
  have h1:=offTo_bd (f:=frD D) (n:=n) (fun i hi=>(hD i hi).fr_le.2) n (Nat.le_refl _)
  omega)
 have HP0:Hid (PcR w (.slice none 0 0) 0 (plD D sz n) w):=zH ⟨ownS.nil _ _ _ _,Old.refl w⟩
 have hat0:(20:Int)+64*(n:Int)=((atTo (frD D) sz n 0:Nat):Int):=by show _=((20+64*n:Nat):Int);omega
 have hU64:=zH (fun V=>lawUp64_any (atTo (frD D) sz n n) V (by have:=hbd n (Nat.le_refl _);omega))
 obtain⟨N,hN⟩:∃N,N=totalAt (frD D) sz n:=⟨_,rfl⟩
 have HNe:=zH hN
 have hNb:20+64*n<=N/\N<=1099511627776:=by
  have h1:=atTo_lo (frD D) sz n n
  have h2:=total_le (frD D) sz n
  have h3:=hbd n (Nat.le_refl _)
  omega
 have HU2:=zH (fun V=>by have:=hU64.out V;rw [show up64 (atTo (frD D) sz n n)=N by rw [hN];rfl] at this;exact this)
 rw [←hN]
 have HNb:=zH hNb
 clear hs hD hbd hfr hK hN hU64 hNb
 go_enter Tryz.func12,Tryz.ntmps12
 go_wp2_with fail
 clear hat0
 go_loopw [7,8,9] (fun av pv iv wr=>∃k:Nat,k<=n/\iv = .int .i64 k/\av = .int .i64 (atTo (frD D) sz n k:Nat)/\Hid (PcR w pv k (plD D sz n) wr)) (fun _ _ i _=>n-(intOf i).toNat)
 case atStart=>exact⟨0,by omega,by go_num,rfl,HP0⟩
 case round=>
  clear HP0
  obtain⟨k,hk,rfl,rfl,HP⟩:=hrel
  by_cases hkn:k<n
  ·obtain⟨g0,o0,hp0,hg0,hcs⟩:=(HS.out.old HP.out.old).cell (by omega)
   obtain⟨m,hm⟩:∃m,m=D k:=⟨_,rfl⟩
   have hck:=hcs k hkn
   rw [←hm] at hck
   have c0:wr.cell? ⟨g0,o0+k*9,none⟩=some (.string m.s):=hck 0 _ rfl
   have c1:wr.cell? ⟨g0,o0+k*9+1,none⟩=some (.int .i64 m.n):=hck 1 _ rfl
   have c2:wr.cell? ⟨g0,o0+k*9+2,none⟩=some (.int .i64 m.r):=hck 2 _ rfl
   have c3:wr.cell? ⟨g0,o0+k*9+3,none⟩=some (.int .i64 m.c):=hck 3 _ rfl
   have c4:wr.cell? ⟨g0,o0+k*9+4,none⟩=some (.bool m.lp):=hck 4 _ rfl
   have c5:wr.cell? ⟨g0,o0+k*9+5,none⟩=some (.int .i64 m.a):=hck 5 _ rfl
   have c6:wr.cell? ⟨g0,o0+k*9+6,none⟩=some (.int .i64 m.b):=hck 6 _ rfl
   have c7:wr.cell? ⟨g0,o0+k*9+7,none⟩=some (.int .i64 m.x):=hck 7 _ rfl
   have c8:wr.cell? ⟨g0,o0+k*9+8,none⟩=some (.int .i64 m.y):=hck 8 _ rfl
   have hok:=HOk.out k hkn
   rw [←hm] at hok
   obtain⟨A,hA⟩:∃A,A=atTo (frD D) sz n k:=⟨_,rfl⟩
   have hA9:A<=900000000:=by have:=HBd.out k hk;omega
   obtain⟨T,fr,u,v,y,z,t,efr,eu,ev,ey,ez,et,hv,⟨a1,a2⟩,⟨b1,b2,b3⟩,⟨d1,d2⟩,⟨f1,f2,f3⟩,g1,ht⟩:=im_nums m hok A sz hA9 hz
   have hfm:fr=frD D k:=by rw [efr,hm];rfl
   have hy:firstAt (frD D) sz n k=y:=by unfold firstAt;rw [ey,ev,eu,hfm,hA]
   have hnx:atTo (frD D) sz n (k+1)=t:=by rw [atTo_succ,hy,et,ez,hfm,Nat.mul_comm]
   have HUp:=zH (fun V=>lawUp16_any v V hv)
   rw [←ey] at HUp
   have hE:plD D sz n k=m.at_ A y:=by unfold plD;rw [hy,←hA,hm]
   have HE:=zH hE
   have HNx:=zH hnx
   have HM:=zH hm
   have n1:=hok.n1
   have n2:=hok.n2
   have hfrb:fr<=131072:=by rw [efr];exact hok.fr_le.2
   subst hp0
   rw [←hA]
   have HB':=zH (And.intro b2 b3)
   have HF':=zH (And.intro f2 f3)
   have HA':=zH (And.intro a1 a2)
   clear hcs hck hok hm hA hfm hy hnx ey ez et efr eu ev hg0 hE a1 a2 b1 b2 b3 f1 f2 f3
   have hkn':(k:Int)<n:=by omega
   go_upto_region 7 with (fail)
   obtain⟨a1,a2⟩:=HA'.out
   obtain⟨b2,b3⟩:=HB'.out
   go_upto_region 8 with (fail)
   clear a1 a2 b2 b3 n1 n2
   go_wp2_with fail
   refine(HUp.out _).mono ?_
   rintro e w' ⟨rfl,hv'⟩
   subst hv'
   obtain⟨f2,f3⟩:=HF'.out
   go_upto_region 11 with (fail)
   obtain⟨W1,hW1⟩:∃W,W=wr.alloc (.cells #[.string m.s,.int .i64 m.n,.int .i64 m.r,.int .i64 m.c,.bool m.lp,.int .i64 m.a,.int .i64 m.b,.int .i64 (A:Nat),.int .i64 (y:Nat)] 45):=⟨_,rfl⟩
   rw [←hW1]
   obtain⟨b1,hb1⟩:∃b,b=wr.heap.size:=⟨_,rfl⟩
   rw [←hb1]
   have HO1:=zH (show Old wr W1 by rw [hW1];exact Old.alloc _ _)
   have HB1:Hid (W1.heap[b1]?=some (.cells #[.string m.s,.int .i64 m.n,.int .i64 m.r,.int .i64 m.c,.bool m.lp,.int .i64 m.a,.int .i64 m.b,.int .i64 (A:Nat),.int .i64 (y:Nat)] 45 (0,0))):=zH (by rw [hW1,hb1];exact heap_alloc_new _ _)
   have z0:W1.cell? ⟨b1,0,none⟩=some (.string m.s):=(cell_of_row _ _ _ _ _ _ HB1.out).trans rfl
   have z1:W1.cell? ⟨b1,1,none⟩=some (.int .i64 m.n):=(cell_of_row _ _ _ _ _ _ HB1.out).trans rfl
   have z2:W1.cell? ⟨b1,2,none⟩=some (.int .i64 m.r):=(cell_of_row _ _ _ _ _ _ HB1.out).trans rfl
   have z3:W1.cell? ⟨b1,3,none⟩=some (.int .i64 m.c):=(cell_of_row _ _ _ _ _ _ HB1.out).trans rfl
   have z4:W1.cell? ⟨b1,4,none⟩=some (.bool m.lp):=(cell_of_row _ _ _ _ _ _ HB1.out).trans rfl
   have z5:W1.cell? ⟨b1,5,none⟩=some (.int .i64 m.a):=(cell_of_row _ _ _ _ _ _ HB1.out).trans rfl
   have z6:W1.cell? ⟨b1,6,none⟩=some (.int .i64 m.b):=(cell_of_row _ _ _ _ _ _ HB1.out).trans rfl
   have z7:W1.cell? ⟨b1,7,none⟩=some (.int .i64 (A:Nat)):=(cell_of_row _ _ _ _ _ _ HB1.out).trans rfl
   have z8:W1.cell? ⟨b1,8,none⟩=some (.int .i64 (y:Nat)):=(cell_of_row _ _ _ _ _ _ HB1.out).trans rfl
   have HO2:=zH (HO1.out.trans (Old.alloc W1 (.cells (m.at_ A y).cells 45)))
   have HON:=zH ((HP.out.own.old HO2.out).mono (Y:=fun z=>z<(W1.alloc (.cells (m.at_ A y).cells 45)).heap.size/\u8.ownBlock≠some z) fun z hz hh=>hh.2 hz)
   have HNW:=zH (news_nine W1 (m.at_ A y) 45)
   have H1C:Hid (∀u∈(m.at_ A y).cells.toList,u.oneCell'=true):=zH (by
    intro u hu
    have h1:=(m.at_ A y).one
    rw [Array.all_eq_true] at h1
    obtain⟨i,hi,rfl⟩:=List.getElem_of_mem hu
    simpa using h1 i (by simpa using hi))
   have HLN:Hid ((m.at_ A y).cells.toList.length=1*9):=zH rfl
   clear hW1 hb1 c0 c1 c2 c3 c4 c5 c6 c7 c8 d1 d2 f2 f3 HUp
   have eC:(m.at_ A y).cells=#[.string m.s,.int .i64 m.n,.int .i64 m.r,.int .i64 m.c,.bool m.lp,.int .i64 m.a,.int .i64 m.b,.int .i64 (A:Nat),.int .i64 (y:Nat)]:=rfl
   have eL:(m.at_ A y).cells.toList = [.string m.s,.int .i64 m.n,.int .i64 m.r,.int .i64 m.c,.bool m.lp,.int .i64 m.a,.int .i64 m.b,.int .i64 (A:Nat),.int .i64 (y:Nat)]:=rfl
   rw [eL] at HNW H1C HLN
   rw [eC] at HON HNW HO2
   clear eC eL
   go_wp2_with (at_builtin;refine append_S _ rfl _ _ 30 rfl (fun z=>z<(W1.alloc (.cells #[.string m.s,.int .i64 m.n,.int .i64 m.r,.int .i64 m.c,.bool m.lp,.int .i64 m.a,.int .i64 m.b,.int .i64 (A:Nat),.int .i64 (y:Nat)] 45)).heap.size/\u8.ownBlock≠some z) 45 ir (.agg #[.string ⟨#[]⟩,.int .i64 0,.int .i64 0,.int .i64 0,.bool false,.int .i64 0,.int .i64 0,.int .i64 0,.int .i64 0]) 9 80 Tryz.underlying30 hir hr0 hr1 hr2 rfl (by decide) u8 k (metL (plD D sz n) k) rfl HON.out ⟨W1.heap.size,0,none⟩ 1 1 [.string m.s,.int .i64 m.n,.int .i64 m.r,.int .i64 m.c,.bool m.lp,.int .i64 m.a,.int .i64 m.b,.int .i64 (A:Nat),.int .i64 (y:Nat)] rfl HLN.out HNW.out H1C.out (by unfold maxLen;omega) (by omega) (fun z hz=>hz.1) ?_;intro v3 w3 h3 hk3 hb3;have HNext:=zH (PcR.next (v':=v3) HP.out HO2.out (by rw [HE.out];exact h3) hk3 hb3);clear h3 hk3 hb3 HON)
   go_roundw
   case rel=>exact⟨k+1,by omega,by go_num,by rw [HNx.out],HNext⟩
   case measure=>simp [intOf];omega
  ·obtain rfl:k=n:=by omega
   obtain⟨q8,c8,hpv,hc8,hms⟩:=ownS_mts HP.out.own (fun i hi=>by
    have:=(HOk.out i hi).name.1.2
    show (D i).s.size<=_
    omega)
   subst hpv
   have HMs:=zH hms
   have hNb:=HNb.out
   have HO:=zH HP.out.old
   have hM:=fun V=>make_u8 N hNb.2 V
   clear hms HP hir hr0 hr1 hr2 hc8 HS
   obtain⟨at_,hat_⟩:∃t,t=atTo (frD D) sz k k:=⟨_,rfl⟩
   rw [←hat_] at HU2 ⊢
   clear hat_
   go_wp2_with fail
   refine(HU2.out _).mono ?_
   rintro e w' ⟨rfl,hv'⟩
   subst hv'
   have HI0:Hid (ImS w N (Ld (frD D) sz k B (fun _=>0) 0) (.slice (some ⟨wr.heap.size,0,none⟩) N N) (wr.alloc (.cells (rowN N (bU fun _=>0)) 5))):=zH ⟨_,_,_,rfl,Nat.le_refl _,by unfold maxLen;omega,⟨uAt_new _ _ _ _,HO.out.size,HO.out.trans (Old.alloc _ _)⟩,Ld.zero _ _ _ _ _ _ (fun _ _=>rfl) (fun _ _=>rfl)⟩
   have HMs1:=zH (HMs.out.old (Old.alloc wr (.cells (rowN N (bU fun _=>0)) 5)))
   have HFr1:=zH ((HFr.out.1.old HO.out).old (Old.alloc wr (.cells (rowN N (bU fun _=>0)) 5)))
   have hN1:1<=N:=by omega
   clear HU2 HMs
   go_upto_region 13 with (fail)
   clear hM
   generalize wr.heap.size=g0 at HI0 ⊢
   generalize wr.alloc (.cells (rowN N (bU fun _=>0)) 5)=Wa at *
   have kc:=Lib.run_convert_bytes_const (P:=Tryz.prog) Wa 24 5 #[.int .u8 67,.int .u8 65,.int .u8 76,.int .u8 49] 4 4 Tryz.underlying24 Tryz.underlying5
   go_wp2_with fail
   clear kc
   refine(lawLay_fi (HI0.out.on (Old.alloc Wa _)) 0 0 rfl (some ⟨Wa.heap.size,0,none⟩) 4 4 mrk _ (fun _ _=>rfl) (by omega) (cal_sl Wa _) hN1 hNb.2 hn).mono ?_
   rintro e w1 ⟨g1,c1,rfl,hi1,ho1⟩
   have HI1:=zH hi1
   have HO1:=zH ((Old.alloc Wa _).trans ho1)
   clear hi1 ho1 HI0
   go_wp2_with fail
   refine(lawNumber_i 4 N 4 N rfl rfl w1 (by omega) (by omega) hNb.2).mono ?_
   rintro e w2 ⟨gn,rfl,hfs,hfo⟩
   have HI2:=zH (HI1.out.on hfo)
   have HO2:=zH (HO1.out.trans hfo)
   have HX:=zH hfs
   clear hfs hfo HI1 HO1
   go_wp2_with fail
   refine(lawLay_fi HI2.out 4 4 rfl (some ⟨gn,0,none⟩) 4 4 (be 4 N) _ (fun _ _=>rfl) (by omega) HX.out hN1 hNb.2 hn).mono ?_
   rintro e w3 ⟨g3,c3,rfl,hi1,ho1⟩
   have HI3:=zH hi1
   have HO3:=zH (HO2.out.trans ho1)
   clear hi1 ho1 HI2 HO2 HX
   go_wp2_with fail
   refine(lawNumber_i 2 k 2 k rfl rfl w3 (by omega) (by omega) (by omega)).mono ?_
   rintro e w4 ⟨gn2,rfl,hfs,hfo⟩
   have HI4:=zH (HI3.out.on hfo)
   have HO4:=zH (HO3.out.trans hfo)
   have HX:=zH hfs
   clear hfs hfo HI3 HO3
   go_wp2_with fail
   refine(lawLay_fi HI4.out 8 8 rfl (some ⟨gn2,0,none⟩) 2 2 (be 2 k) _ (fun _ _=>rfl) (by omega) HX.out hN1 hNb.2 hn).mono ?_
   rintro e w5 ⟨g5,c5,rfl,hi1,ho1⟩
   have HI5:=zH hi1
   have HO5:=zH (HO4.out.trans ho1)
   clear hi1 ho1 HI4 HO4 HX
   go_wp2_with fail
   refine(lawNumber_i 1 sz 1 sz rfl rfl w5 (by omega) (by omega) (by omega)).mono ?_
   rintro e w6 ⟨gn3,rfl,hfs,hfo⟩
   have HI6:=zH (HI5.out.on hfo)
   have HO6:=zH (HO5.out.trans hfo)
   have HX:=zH hfs
   clear hfs hfo HI5 HO5
   go_wp2_with fail
   refine(lawLay_fi HI6.out 10 10 rfl (some ⟨gn3,0,none⟩) 1 1 (be 1 sz) (hdK N k sz (plD D sz k) 0) (fun p _=>hdK_zero _ _ _ _ p) (by omega) HX.out hN1 hNb.2 hn).mono ?_
   rintro e w7 ⟨g7,c7,rfl,hi1,ho1⟩
   have HI7:=zH (show ImS w N (Ld (frD D) sz k B (hdK N k sz (plD D sz k) 0) (min K (offTo (frD D) 0))) (.slice (some ⟨g7,0,none⟩) N c7) w7 from by
    rw [show min K (offTo (frD D) 0)=0 from Nat.min_eq_right (Nat.zero_le _)];exact hi1)
   have HO7:=zH (HO6.out.trans ho1)
   have HMs7:=zH (HMs1.out.old HO7.out)
   have HFr7:=zH (HFr1.out.old HO7.out)
   clear hi1 ho1 HI6 HO6 HX HO7 HMs1 HFr1
   obtain⟨W7,rfl⟩:∃V,V=w7:=⟨_,rfl⟩
   go_wp2_with fail
   go_loopw [12,13,14] (fun bv kv iv wr=>∃(i g c:Nat),i<=k/\iv = .int .i64 i/\kv = .int .i64 (min K (offTo (frD D) i):Nat)/\bv = .slice (some ⟨g,0,none⟩) N c/\Hid (ImS w N (Ld (frD D) sz k B (hdK N k sz (plD D sz k) i) (min K (offTo (frD D) i))) bv wr)/\Hid (Old W7 wr)) (fun _ _ i _=>k-(intOf i).toNat)
   case atStart=>exact⟨0,g7,c7,by omega,by go_num,by rw [show min K (offTo (frD D) 0)=0 from Nat.min_eq_right (Nat.zero_le _)];rfl,rfl,HI7,zH (Old.refl _)⟩
   case round=>
    clear HI7
    obtain⟨i,g,c,hi,rfl,rfl,rfl,HI,HO⟩:=hrel
    by_cases hik:i<k
    ·obtain⟨gq,oq,hpq,hgq,hcs⟩:=(HMs7.out.old HO.out).cell (by omega)
     obtain⟨m,hm⟩:∃m,m=plD D sz k i:=⟨_,rfl⟩
     have hck:=hcs i hik
     rw [←hm] at hck
     have c0:wr.cell? ⟨gq,oq+i*9,none⟩=some (.string m.s):=hck 0 _ rfl
     have c1:wr.cell? ⟨gq,oq+i*9+1,none⟩=some (.int .i64 m.n):=hck 1 _ rfl
     have c2:wr.cell? ⟨gq,oq+i*9+2,none⟩=some (.int .i64 m.r):=hck 2 _ rfl
     have c3:wr.cell? ⟨gq,oq+i*9+3,none⟩=some (.int .i64 m.c):=hck 3 _ rfl
     have c4:wr.cell? ⟨gq,oq+i*9+4,none⟩=some (.bool m.lp):=hck 4 _ rfl
     have c5:wr.cell? ⟨gq,oq+i*9+5,none⟩=some (.int .i64 m.a):=hck 5 _ rfl
     have c6:wr.cell? ⟨gq,oq+i*9+6,none⟩=some (.int .i64 m.b):=hck 6 _ rfl
     have c7:wr.cell? ⟨gq,oq+i*9+7,none⟩=some (.int .i64 m.x):=hck 7 _ rfl
     have c8:wr.cell? ⟨gq,oq+i*9+8,none⟩=some (.int .i64 m.y):=hck 8 _ rfl
     have hnum:=plD_num hz hn (fun i hi=>HOk.out i hi) i hik
     rw [←hm] at hnum
     have HNum:=zH hnum
     have HM:=zH hm
     have hokm:m.OkR:=by rw [hm];exact(HOk.out i hik).at_ _ _
     have HOm:=zH hokm
     subst hpq
     obtain⟨κ,hκ⟩:∃κ,κ=min K (offTo (frD D) i):=⟨_,rfl⟩
     have HK:=zH hκ
     rw [←hκ] at HI ⊢
     obtain⟨from_,hfrom⟩:∃f,f=16+64*i:=⟨_,rfl⟩
     have HFm:=zH hfrom
     have t1:(16:Int)+64*(i:Int)=(from_:Int):=by omega
     have hfb:from_<=16+64*64:=by omega
     clear hcs hck hgq hm hnum hokm hκ hfrom
     have hik':(i:Int)<k:=by omega
     go_upto_region 23 with (fail)
     clear c0 c1 c2 c3 c4 c5 c6 c7 c8
     obtain⟨W8,hW8⟩:∃V,V=wr.alloc (.cells #[.string m.s,.int .i64 m.n,.int .i64 m.r,.int .i64 m.c,.bool m.lp,.int .i64 m.a,.int .i64 m.b,.int .i64 m.x,.int .i64 m.y] 45):=⟨_,rfl⟩
     obtain⟨bx,hbx⟩:∃b,b=wr.heap.size:=⟨_,rfl⟩
     have HBx:Hid (MtB W8 bx m):=zH (by rw [hW8,hbx];exact MtB.new wr m)
     have HI8:=zH (HI.out.on (show Old wr W8 by rw [hW8];exact Old.alloc _ _))
     have HO8:=zH (HO.out.trans (show Old wr W8 by rw [hW8];exact Old.alloc _ _))
     rw [←hW8,←hbx]
     clear hW8 hbx HI HO
     have x0:W8.cell? ⟨bx,0,none⟩=some (.string m.s):=(HBx.out.at_ 0).trans rfl
     obtain⟨sc,w9,hconv,hoc,hltc,hcc⟩:=conv_bytes (P:=Tryz.prog) W8 9 24 5 m.s Tryz.underlying9 Tryz.underlying24 Tryz.underlying5
     have HSx:Hid (SlU w9 (some ⟨W8.heap.size,0,none⟩) m.s.size (bsI m.s)):=zH fun _=>⟨W8.heap.size,0,rfl,hltc,fun j hj=>by rw [Nat.zero_add];exact hcc j hj⟩
     have HI9:=zH (HI8.out.on hoc)
     have HO9:=zH (HO8.out.trans hoc)
     have HBx9:=zH (HBx.out.old hoc)
     have h32:=HNum.out.1
     clear hoc hltc hcc HI8 HO8 HBx
     go_wp2_with fail
     refine(lawLay_fi HI9.out from_ from_ rfl _ m.s.size sc (bsI m.s) (patch (hdK N k sz (plD D sz k) i) from_ 64 (enK m 0)) (fun p _=>by rw [HFm.out];exact hd_name _ _ _ _ i m HNum.out.1 p) (by have:=HFm.out;omega) HSx.out hN1 hNb.2 hn).mono ?_
     rintro e wa ⟨g1,c1,rfl,hi1,ho1⟩
     have HIa:=zH hi1
     have HOa:=zH (HO9.out.trans ho1)
     have HBa:=zH (HBx9.out.old ho1)
     clear hi1 ho1 HI9 HO9 HBx9 HSx hconv x0 h32
     have x1:wa.cell? ⟨bx,1,none⟩=some (.int .i64 m.n):=(HBa.out.at_ 1).trans rfl
     have x2:wa.cell? ⟨bx,2,none⟩=some (.int .i64 m.r):=(HBa.out.at_ 2).trans rfl
     have x5:wa.cell? ⟨bx,5,none⟩=some (.int .i64 m.a):=(HBa.out.at_ 5).trans rfl
     have x6:wa.cell? ⟨bx,6,none⟩=some (.int .i64 m.b):=(HBa.out.at_ 6).trans rfl
     have x7:wa.cell? ⟨bx,7,none⟩=some (.int .i64 m.x):=(HBa.out.at_ 7).trans rfl
     have x8:wa.cell? ⟨bx,8,none⟩=some (.int .i64 m.y):=(HBa.out.at_ 8).trans rfl
     go_upto_region 25 with (fail)
     clear x1 x2 x5 x6 x7 x8
     obtain⟨wb,hwb⟩:∃V,V=wa.alloc (.cells #[.int .i64 m.n,.int .i64 m.r,.int .i64 m.a,.int .i64 m.b,.int .i64 m.x,.int .i64 m.y] 3):=⟨_,rfl⟩
     obtain⟨nb,hnb⟩:∃b,b=wa.heap.size:=⟨_,rfl⟩
     have HNb6:Hid (wb.heap[nb]?=some (.cells #[.int .i64 m.n,.int .i64 m.r,.int .i64 m.a,.int .i64 m.b,.int .i64 m.x,.int .i64 m.y] 3 (0,0))):=zH (by rw [hwb,hnb];exact heap_alloc_new _ _)
     have hob:Old wa wb:=by rw [hwb];exact Old.alloc _ _
     have HIb:=zH (HIa.out.on hob)
     have HOb:=zH (HOa.out.trans hob)
     have HBb:=zH (HBa.out.old hob)
     rw [←hwb,←hnb]
     clear hwb hnb hob HIa HOa HBa
     obtain⟨W9,rfl⟩:∃V,V=wb:=⟨_,rfl⟩
     go_wp2_with fail
     go_loopw [12,18] (fun bv jv wr=>∃(j g c:Nat),j<=6/\jv = .int .i64 j/\bv = .slice (some ⟨g,0,none⟩) N c/\Hid (ImS w N (Ld (frD D) sz k B (patch (hdK N k sz (plD D sz k) i) from_ 64 (enK m j)) κ) bv wr)/\Hid (Old W9 wr)) (fun _ jv _=>6-(intOf jv).toNat)
     case atStart=>exact⟨0,g1,c1,by omega,by go_num,rfl,HIb,zH (Old.refl _)⟩
     case round=>
      clear HIb
      obtain⟨j,g2,c2,hj,rfl,rfl,HI,HO⟩:=hrel
      by_cases hj6:j<6
      ·have cj:wr.cell? ⟨nb,j,none⟩=some (.int .i64 (m.num j)):=((HO.out.cell (a:=⟨nb,j,none⟩) (lt_of_block HNb6.out)).trans (cell_of_row _ _ _ _ _ _ HNb6.out)).trans (six_at m j hj6)
       have hv:=HNum.out.2 j hj6
       obtain⟨V,hV⟩:∃V:Nat,m.num j=V:=⟨(m.num j).toNat,by omega⟩
       have HVb:=zH (num_bd (m:=m) (j:=j) HM.out hz hn (fun i hi=>HOk.out i hi) hik)
       rw [hV] at cj
       have HVe:=zH hV
       obtain⟨o,ho⟩:∃o,o=from_+(32+j*4):=⟨_,rfl⟩
       have HOo:=zH ho
       have t2:(from_:Int)+32+4*(j:Int)=(o:Int):=by omega
       have hj0:(0:Int)<=j:=by omega
       have hj1:(j:Int)<6:=by omega
       clear hv hV ho
       go_wp2_with fail
       refine(lawNumber_i 4 V 4 V rfl rfl _ (by omega) (by omega) (by have:=HVb.out;have:=HVe.out;omega)).mono ?_
       rintro e wc2 ⟨gn4,rfl,hfs,hfo⟩
       have HI2:=zH (HI.out.on hfo)
       have HO2:=zH (HO.out.trans hfo)
       have HX:=zH hfs
       clear hfs hfo HI HO cj
       go_wp2_with fail
       refine(lawLay_fi HI2.out o o rfl (some ⟨gn4,0,none⟩) 4 4 (be 4 V) (patch (hdK N k sz (plD D sz k) i) from_ 64 (enK m (j+1))) (fun p _=>by rw [HOo.out,patch_sub _ _ _ _ _ _ (by omega)];exact patch_ext64 _ _ _ _ (fun r _=>by rw [←HVe.out];exact enK_step m j r) p) (by have:=HOo.out;have:=HFm.out;omega) HX.out hN1 hNb.2 hn).mono ?_
       rintro e wd ⟨g5,c5,rfl,hi1,ho1⟩
       have HI3:=zH hi1
       have HO3:=zH (HO2.out.trans ho1)
       clear hi1 ho1 HI2 HO2 HX
       go_wp2_with fail
       go_roundw
       case rel=>exact⟨j+1,g5,c5,by omega,by go_num,rfl,HI3,HO3⟩
       case measure=>simp [intOf];omega
      ·obtain rfl:j=6:=by omega
       have HBc:=zH (HBb.out.old HO.out)
       have HOc:=zH (HOb.out.trans HO.out)
       have x3:wr.cell? ⟨bx,3,none⟩=some (.int .i64 m.c):=(HBc.out.at_ 3).trans rfl
       obtain⟨o,ho⟩:∃o,o=from_+56:=⟨_,rfl⟩
       have HOo:=zH ho
       have t2:(from_:Int)+56=(o:Int):=by omega
       obtain⟨cv,hcv⟩:∃V:Nat,m.c=V:=⟨m.c.toNat,by have:=HOm.out.c1;omega⟩
       have HCv:=zH hcv
       have HCb:=zH (show cv<=2 by have:=HOm.out.c2;omega)
       rw [hcv] at x3
       clear ho hcv HBb HOb HO hj6 HNb6
       obtain⟨W10,rfl⟩:∃V,V=wr:=⟨_,rfl⟩
       go_wp2_with fail
       refine(lawNumber_i 1 cv 1 cv rfl rfl _ (by omega) (by omega) (by have:=HCb.out;omega)).mono ?_
       rintro e w11 ⟨gn4,rfl,hfs,hfo⟩
       have HI2:=zH (HI.out.on hfo)
       have HO2:=zH (HOc.out.trans hfo)
       have HB2:=zH (HBc.out.old hfo)
       have HX:=zH hfs
       clear hfs hfo HI HOc HBc x3
       go_wp2_with fail
       refine(lawLay_fi HI2.out o o rfl (some ⟨gn4,0,none⟩) 1 1 (be 1 cv) (patch (hdK N k sz (plD D sz k) i) from_ 64 (patch (enK m 6) 56 1 (be 1 m.c))) (fun p _=>by rw [HOo.out,HCv.out,patch_sub _ _ _ _ _ _ (by omega)]) (by have:=HOo.out;have:=HFm.out;omega) HX.out hN1 hNb.2 hn).mono ?_
       rintro e w12 ⟨g5,c5,rfl,hi1,ho1⟩
       have HI3:=zH hi1
       have HO3:=zH (HO2.out.trans ho1)
       have HB3:=zH (HB2.out.old ho1)
       have x4:w12.cell? ⟨bx,4,none⟩=some (.bool m.lp):=(HB3.out.at_ 4).trans rfl
       clear hi1 ho1 HI2 HO2 HX HB2
       clear t2 HOo HCv HCb
       obtain⟨o7,ho7⟩:∃o,o=from_+57:=⟨_,rfl⟩
       have HO7:=zH ho7
       have t2:(from_:Int)+57=(o7:Int):=by omega
       clear ho7
       go_upto_if 139 with (fail)
       go_cut [12] (fun v wx=>∃g c,v = .slice (some ⟨g,0,none⟩) N c/\ImS w N (Ld (frD D) sz k B (hdK N k sz (plD D sz k) (i+1)) κ) v wx/\Old W7 wx/\MtB wx bx m)
       case first=>
        cases hlp:m.lp with
        | true=>
         rw [hlp] at x4
         have HLp:=zH hlp
         clear hlp
         go_wp2_with fail
         refine(lawNumber_i 1 1 1 1 rfl rfl _ (by omega) (by omega) (by omega)).mono ?_
         rintro e w13 ⟨gn5,rfl,hfs,hfo⟩
         have HI4:=zH (HI3.out.on hfo)
         have HO4:=zH (HO3.out.trans hfo)
         have HB4:=zH (HB3.out.old hfo)
         have HX:=zH hfs
         clear hfs hfo HI3 HO3 HB3 x4
         go_wp2_with fail
         refine(lawLay_fi HI4.out o7 o7 rfl (some ⟨gn5,0,none⟩) 1 1 (be 1 1) (hdK N k sz (plD D sz k) (i+1)) (fun p _=>by
          rw [HO7.out,patch_sub _ _ _ _ _ _ (by omega),HFm.out]
          exact hd_next _ _ _ _ i _ (fun r hr=>by rw [←HM.out];exact(en_last m r hr).1 HLp.out) p) (by have:=HO7.out;have:=HFm.out;omega) HX.out hN1 hNb.2 hn).mono ?_
         rintro e w14 ⟨g6,c6,rfl,hi1,ho1⟩
         have HI5:=zH hi1
         have HO5:=zH (HO4.out.trans ho1)
         have HB5:=zH (HB4.out.old ho1)
         clear hi1 ho1 HI4 HO4 HX HB4
         go_wp2_with fail
         go_meet
         exact⟨g6,c6,rfl,HI5.out,HO5.out,HB5.out⟩
        | false=>
         rw [hlp] at x4
         have HLp:=zH hlp
         clear hlp
         have HI5:=zH (show ImS w N (Ld (frD D) sz k B (hdK N k sz (plD D sz k) (i+1)) κ) (.slice (some ⟨g5,0,none⟩) N c5) w12 from by
          obtain⟨a1,a2,a3,a4,a5,a6,a7,a8⟩:=HI3.out
          exact⟨a1,a2,a3,a4,a5,a6,a7,a8.front_ext fun p _=>by rw [HFm.out];exact hd_next _ _ _ _ i _ (fun r hr=>by rw [←HM.out];exact(en_last m r hr).2 HLp.out) p⟩)
         go_wp2_with fail
         go_meet
         exact⟨g5,c5,rfl,HI5.out,HO3.out,HB3.out⟩
       case rest=>
        obtain⟨g6,c6,rfl,hi1,ho1,hb1⟩:=hcut
        have HI6:=zH (show ImS w N (Ld (frD D) sz k B (hdK N k sz (plD D sz k) (i+1)) (min K (offTo (frD D) i+0))) (.slice (some ⟨g6,0,none⟩) N c6) wc from by rw [HK.out] at hi1;exact hi1)
        have HO6:=zH ho1
        have HB6:=zH hb1
        have HKe:=zH (show κ=min K (offTo (frD D) i+0) from HK.out)
        clear hi1 ho1 hb1 HI3 HO3 HB3 x4 t2 HO7 HK HNum
        obtain⟨W11,rfl⟩:∃V,V=wc:=⟨_,rfl⟩
        have hf2:frD D i=m.fr:=by rw [HM.out];rfl
        have HFd:=zH hf2
        clear hf2
        go_wp2_with fail
        go_loopw [12,13,19] (fun bv kv qv wr=>∃(q g c:Nat),q<=frD D i/\qv = .int .i64 q/\kv = .int .i64 (min K (offTo (frD D) i+q):Nat)/\bv = .slice (some ⟨g,0,none⟩) N c/\Hid (ImS w N (Ld (frD D) sz k B (hdK N k sz (plD D sz k) (i+1)) (min K (offTo (frD D) i+q))) bv wr)/\Hid (Old W11 wr)) (fun _ _ qv _=>frD D i-(intOf qv).toNat)
        case atStart=>exact⟨0,g6,c6,by omega,by go_num,by rw [←HKe.out],rfl,HI6,zH (Old.refl _)⟩
        case round=>
         clear HI6
         obtain⟨q,g7,c7,hq,rfl,rfl,rfl,HI,HO⟩:=hrel
         have HBq:=zH (HB6.out.old HO.out)
         have x1:wr.cell? ⟨bx,1,none⟩=some (.int .i64 m.n):=(HBq.out.at_ 1).trans rfl
         have x3:wr.cell? ⟨bx,3,none⟩=some (.int .i64 m.c):=(HBq.out.at_ 3).trans rfl
         obtain⟨T,fr,efr,a1,a2,b2,b3⟩:=im_frs m HOm.out
         have hfq:frD D i=fr:=by rw [HFd.out,efr]
         have HFq:=zH hfq
         have n1:=HOm.out.n1
         have n2:=HOm.out.n2
         obtain⟨kq,hkq⟩:∃kq,kq=min K (offTo (frD D) i+q):=⟨_,rfl⟩
         have HKq:=zH hkq
         rw [←hkq] at HI ⊢
         have hq':q<=fr:=by rw [←hfq];exact hq
         clear hfq hkq efr hq
         go_upto_region 33 with (fail)
         go_cut [159] (fun v wx=>v = .bool (decide (q<fr/\kq<K))/\wr=wx)
         case first=>
          by_cases c1:q<fr
          ·have a3:(q:Int)<fr:=by omega
           by_cases c2:kq<K
           ·have a4:(kq:Int)<K:=by omega
            go_wp2_with fail
            go_meet
            exact⟨congrArg Value.bool (decide_eq_true ⟨c1,c2⟩).symm,rfl⟩
           ·have a4:¬(kq:Int)<K:=by omega
            go_wp2_with fail
            go_meet
            exact⟨congrArg Value.bool (decide_eq_false (fun h=>c2 h.2)).symm,rfl⟩
          ·have a3:¬(q:Int)<fr:=by omega
           have d1:decide ((q:Int)<fr)=false:=decide_eq_false a3
           go_wp2_with fail
           go_meet
           exact⟨congrArg Value.bool (decide_eq_false (fun h=>c1 h.1)).symm,rfl⟩
         case rest=>
          obtain⟨rfl,rfl⟩:=hcut
          clear x1 x3 a1 a2 b2 b3 n1 n2
          by_cases hin:q<fr/\kq<K
          ·rw [decide_eq_true hin]
           have HQf:=zH (show q<frD D i by rw [HFq.out];exact hin.1)
           have HKo:=zH (show kq=offTo (frD D) i+q by
            have h1:=HKq.out
            have h2:=hin.2
            rcases Nat.le_total K (offTo (frD D) i+q) with h3 | h3
            ·rw [Nat.min_eq_left h3] at h1;omega
            ·rw [Nat.min_eq_right h3] at h1;exact h1)
           obtain⟨gf,of_,hfp,hgf,hfc⟩:=(HFr7.out.old (HO6.out.trans HO.out)).cell (by omega)
           have hrow:=(HFr7.out.old (HO6.out.trans HO.out)).row kq hin.2
           have HRow:=zH hrow
           have hfck:=hfc kq hin.2
           have hfb:=sumF_bd (F:=B kq) (n:=sz) hrow.2.2.2
           obtain⟨S,hS⟩:∃S:Nat,sumF (B kq) sz=S:=⟨(sumF (B kq) sz).toNat,by omega⟩
           have HS':=zH hS
           have hSb:S<4294967296:=by omega
           have HSb:=zH hSb
           obtain⟨A,hA⟩:∃A,A=atTo (frD D) sz k i:=⟨_,rfl⟩
           obtain⟨Y,hY⟩:∃Y,Y=firstAt (frD D) sz k i:=⟨_,rfl⟩
           have hAb:A<=900000000/\Y<=900000000:=by
            have h1:=HBd.out i (by omega)
            have h2:=firstAt_le (frD D) sz k i
            have h3:=HOm.out.fr_le.2
            have h4:=HFd.out
            omega
           have HAe:=zH (And.intro hA hY)
           have x7:wr.cell? ⟨bx,7,none⟩=some (.int .i64 (A:Int)):=((HBq.out.at_ 7).trans rfl:wr.cell? ⟨bx,7,none⟩=some (.int .i64 m.x)).trans (by rw [HM.out,hA];rfl)
           have x8:wr.cell? ⟨bx,8,none⟩=some (.int .i64 (Y:Int)):=((HBq.out.at_ 8).trans rfl:wr.cell? ⟨bx,8,none⟩=some (.int .i64 m.y)).trans (by rw [HM.out,hY];rfl)
           have hbxl:bx<wr.heap.size:=lt_of_block HBq.out
           have HLt:=zH (And.intro hbxl hgf)
           subst hfp
           obtain⟨P1,hP1⟩:∃P1,P1=A+4*q:=⟨_,rfl⟩
           have hqb:q<=131072:=by have:=HOm.out.fr_le.2;have:=HFd.out;have:=HFq.out;omega
           have u1:(4:Int)*(q:Int)=((4*q:Nat):Int):=by omega
           have u2:(A:Int)+4*(q:Int)=(P1:Int):=by omega
           obtain⟨zq,hzq⟩:∃z,z=sz*q:=⟨_,rfl⟩
           have hzb:zq<=96*131072:=by rw [hzq];exact Nat.mul_le_mul hz hqb
           have HZq:=zH (show IntKind.i64.wrap ((sz:Int)*(q:Int))=(zq:Int)/\wrap64 ((sz:Int)*(q:Int))=(zq:Int) by
            rw [←Int.natCast_mul,←hzq];exact⟨IntWalk.i64_in _ (by omega),IntWalk.wrap64_in _ (by omega)⟩)
           obtain⟨P2,hP2⟩:∃P2,P2=Y+zq:=⟨_,rfl⟩
           have u3:(Y:Int)+(zq:Int)=(P2:Int):=by omega
           have HP1:=zH (And.intro hP1 (And.intro hzq hP2))
           have HPb:=zH (show P1<=1099511627776/\P2<=1099511627776 by omega)
           obtain⟨uq,huq⟩:∃u,u=4*q:=⟨_,rfl⟩
           have HWr:=zH (show (IntKind.i64.wrap ((4:Int)*(q:Int))=(uq:Int)/\IntKind.i64.wrap ((A:Int)+(uq:Int))=(P1:Int))/\IntKind.i64.wrap ((Y:Int)+(zq:Int))=(P2:Int) by
            refine⟨⟨?_,?_⟩,?_⟩
            ·rw [IntWalk.i64_in _ (by omega)];omega
            ·rw [IntWalk.i64_in _ (by omega)];omega
            ·rw [IntWalk.i64_in _ (by omega)];omega)
           have kq1:(kq:Int)<K:=by omega
           have kq0:(0:Int)<=kq:=by omega
           have HIn:=zH hin
           clear hrow hfc hfb hS hA hY hAb hgf hbxl hP1 hP2 hzq hin u1 u2 u3 huq hSb
           go_upto_region 35 with (fail)
           have y7:wr.drew.cell? ⟨bx,7,none⟩=some (.int .i64 (A:Int)):=x7
           have yf:wr.drew.cell? ⟨gf,of_+kq,none⟩=some (.slice (Q kq) sz (C kq)):=hfck
           refine wp_region_held_drew (S:=(fun V=>V.cell? ⟨bx,7,none⟩=some (.int .i64 (A:Int))/\V.cell? ⟨gf,of_+kq,none⟩=some (.slice (Q kq) sz (C kq)))) (by kernel_rfl) ?_ (fun hHeld=>?_)
           ·(try dsimp only);exact⟨y7,yf⟩
           refine wpU 0 rfl ?_;try simp only [Act.put,sA,sZ,sS]
           refine wpU 1 rfl ?_;try simp only [Act.put,sA,sZ,sS]
           refine wpU 3 rfl ?_;try simp only [Act.put,sA,sZ,sS]
           refine wpU 4 rfl ?_;try simp only [Act.put,sA,sZ,sS]
           refine wpU 6 rfl ?_;try simp only [Act.put,sA,sZ,sS]
           refine wpU 7 rfl ?_;try simp only [Act.put,sA,sZ,sS]
           refine wpU 8 rfl ?_;try simp only [Act.put,sA,sZ,sS]
           refine wpT 2 (v:=?_) rfl (Or.inl ⟨by kernel_rfl,?_⟩) (by assumption) ?_;rotate_left;(intro w hSw;obtain⟨s4,s5⟩:=hSw;go_simp;try with_reducible rfl);try simp only [Act.put,sA,sZ,sS]
           refine wpU 5 rfl ?_;try simp only [Act.put,sA,sZ,sS]
           refine wpT 9 (v:=?_) rfl (Or.inl ⟨by kernel_rfl,?_⟩) (by assumption) ?_;rotate_left;(intro w hSw;obtain⟨s4,s5⟩:=hSw;go_simp;try with_reducible rfl);try simp only [Act.put,sA,sZ,sS]
           refine wpAnyH_ready (rs:=[10]) (by kernel_rfl) (by simp) ?_
           refine AllReadyH.cons (o:=⟨_,_,_,_,_,_⟩) (by rfl) ?_ AllReadyH.nil
           intro K hK
           go_simp
           refine(CSum_any (Q kq) sz (C kq) (B kq) _ (HRow.out.2.2.1.old (Old.drew (Old.refl wr))) HRow.out.2.2.2 HRow.out.1 HRow.out.2.1).mono ?_
           rintro e v1 ⟨rfl,hv1⟩
           have HV1:=zH ((Old.drew (Old.refl wr)).trans hv1)
           have z7:=(HV1.out.cell (a:=⟨bx,7,none⟩) HLt.out.1).trans x7
           have zf:=(HV1.out.cell (a:=⟨gf,of_+kq,none⟩) HLt.out.2).trans hfck
           rw [HS'.out]
           clear hv1 y7 yf
           refine hK.out _ _ ?_ (fun hHeld=>?_)
           ·(try dsimp only);exact⟨z7,zf⟩
           clear hK K
           try simp only [Act.put,sA,sZ,sS]
           have hS0:(0:Int)<=S:=by omega
           have hS1:(S:Int)<=4294967295:=by have:=HSb.out;omega
           have hSw:IntKind.i64.wrap (S:Int)=(S:Int):=IntWalk.i64_in _ (by omega)
           refine wpU 11 rfl ?_;try simp only [Act.put,sA,sZ,sS]
           refine wpAnyH_ready (rs:=[12]) (by kernel_rfl) (by simp) ?_
           refine AllReadyH.cons (o:=⟨_,_,_,_,_,_⟩) (by rfl) ?_ AllReadyH.nil
           intro K hK
           go_simp
           (try rw [hSw])
           clear hSw
           refine(lawNumber_i 4 S 4 S rfl rfl _ (by omega) (by omega) (by omega)).mono ?_
           rintro e v2 ⟨gn,rfl,hfs,hfo⟩
           have HV2:=zH (HV1.out.trans hfo)
           have HX:=zH hfs
           have y7:=(HV2.out.cell (a:=⟨bx,7,none⟩) HLt.out.1).trans x7
           have yf:=(HV2.out.cell (a:=⟨gf,of_+kq,none⟩) HLt.out.2).trans hfck
           clear hfs hfo z7 zf HV1
           refine hK.out _ _ ?_ (fun hHeld=>?_)
           ·(try dsimp only);exact⟨y7,yf⟩
           clear hK K
           try simp only [Act.put,sA,sZ,sS]
           refine wpAnyH_ready (rs:=[13]) (by kernel_rfl) (by simp) ?_
           refine AllReadyH.cons (o:=⟨_,_,_,_,_,_⟩) (by rfl) ?_ AllReadyH.nil
           intro K hK
           go_simp
           (try rw [HWr.out.1.1,HWr.out.1.2])
           refine(lawLay_im (HI.out.on HV2.out) P1 (some ⟨gn,0,none⟩) 4 4 (be 4 S) (fun F=>∃F0,Ld (frD D) sz k B (hdK N k sz (plD D sz k) (i+1)) kq F0/\F=patch F0 P1 4 (be 4 S)) (fun F hF=>⟨F,hF,rfl⟩) HX.out hN1 hNb.2 HPb.out.1 (by omega)).mono ?_
           rintro e v3 ⟨g8,c9,rfl,hi1,ho1⟩
           have HV3:=zH (HV2.out.trans ho1)
           have HI3:=zH hi1
           have z7:=(HV3.out.cell (a:=⟨bx,7,none⟩) HLt.out.1).trans x7
           have zf:=(HV3.out.cell (a:=⟨gf,of_+kq,none⟩) HLt.out.2).trans hfck
           clear hi1 ho1 y7 yf HV2 HI HX
           refine hK.out _ _ ?_ (fun hHeld=>?_)
           ·(try dsimp only);exact⟨z7,zf⟩
           clear hK K
           try simp only [Act.put,sA,sZ,sS]
           refine wpU 14 rfl ?_;try simp only [Act.put,sA,sZ,sS]
           refine wpAnyH_done (by kernel_rfl) ?_ _
           clear z7 zf
           go_upto_region 36 with (fail)
           have y8:v3.drew.cell? ⟨bx,8,none⟩=some (.int .i64 (Y:Int)):=(HV3.out.cell (a:=⟨bx,8,none⟩) HLt.out.1).trans x8
           have yf:v3.drew.cell? ⟨gf,of_+kq,none⟩=some (.slice (Q kq) sz (C kq)):=(HV3.out.cell (a:=⟨gf,of_+kq,none⟩) HLt.out.2).trans hfck
           refine wp_region_held_drew (S:=(fun V=>V.cell? ⟨bx,8,none⟩=some (.int .i64 (Y:Int))/\V.cell? ⟨gf,of_+kq,none⟩=some (.slice (Q kq) sz (C kq)))) (by kernel_rfl) ?_ (fun hHeld=>?_)
           ·(try dsimp only);exact⟨y8,yf⟩
           refine wpU 0 rfl ?_;try simp only [Act.put,sA,sZ,sS]
           refine wpU 1 rfl ?_;try simp only [Act.put,sA,sZ,sS]
           refine wpU 3 rfl ?_;try simp only [Act.put,sA,sZ,sS]
           refine wpU 4 rfl ?_;try simp only [Act.put,sA,sZ,sS]
           refine wpU 5 rfl ?_;try simp only [Act.put,sA,sZ,sS]
           refine wpU 7 rfl ?_;try simp only [Act.put,sA,sZ,sS]
           refine wpU 8 rfl ?_;try simp only [Act.put,sA,sZ,sS]
           refine wpU 9 rfl ?_;try simp only [Act.put,sA,sZ,sS]
           refine wpT 2 (v:=?_) rfl (Or.inl ⟨by kernel_rfl,?_⟩) (by assumption) ?_;rotate_left;(intro w hSw;obtain⟨s4,s5⟩:=hSw;go_simp;try with_reducible rfl);try simp only [Act.put,sA,sZ,sS]
           refine wpU 6 rfl ?_;try simp only [Act.put,sA,sZ,sS]
           refine wpT 10 (v:=?_) rfl (Or.inl ⟨by kernel_rfl,?_⟩) (by assumption) ?_;rotate_left;(intro w hSw;obtain⟨s4,s5⟩:=hSw;go_simp;try with_reducible rfl);try simp only [Act.put,sA,sZ,sS]
           refine wpAnyH_ready (rs:=[11]) (by kernel_rfl) (by simp) ?_
           refine AllReadyH.cons (o:=⟨_,_,_,_,_,_⟩) (by rfl) ?_ AllReadyH.nil
           intro K hK
           go_simp
           (try rw [HZq.out.1])
           (try rw [HWr.out.2])
           have HI3d:=zH (HI3.out.on (Old.drew (Old.refl v3)))
           refine(lawLay_im HI3d.out P2 (Q kq) sz (C kq) (B kq) (Ld (frD D) sz k B (hdK N k sz (plD D sz k) (i+1)) (kq+1)) (fun F hF=>by
            obtain⟨F0,h1,rfl⟩:=hF
            rw [HKo.out] at h1 ⊢
            have h2:=h1.next (by omega) HQf.out
            rw [←HS'.out,HKo.out,HP1.out.1,HP1.out.2.2,HP1.out.2.1,HAe.out.1,HAe.out.2]
            exact h2) (HRow.out.2.2.1.old (HV3.out.drew)) hN1 hNb.2 HPb.out.2 (by omega)).mono ?_
           rintro e v4 ⟨g9,c10,rfl,hi1,ho1⟩
           have HV4:=zH (HV3.out.drew.trans ho1)
           have HI4:=zH hi1
           have z8:=(HV4.out.cell (a:=⟨bx,8,none⟩) HLt.out.1).trans x8
           have zf:=(HV4.out.cell (a:=⟨gf,of_+kq,none⟩) HLt.out.2).trans hfck
           clear hi1 ho1 y8 yf HV3 HI3 HI3d
           refine hK.out _ _ ?_ (fun hHeld=>?_)
           ·(try dsimp only);exact⟨z8,zf⟩
           clear hK K
           try simp only [Act.put,sA,sZ,sS]
           refine wpU 12 rfl ?_;try simp only [Act.put,sA,sZ,sS]
           refine wpAnyH_done (by kernel_rfl) ?_ _
           have HOn:=zH (HO.out.trans HV4.out)
           have hkn1:min K (offTo (frD D) i+(q+1))=kq+1:=by
            have h1:=HKo.out
            have h2:=HIn.out.2
            rw [Nat.min_eq_right (by omega)]
            omega
           have HKn:=zH hkn1
           have HI5:=zH (show ImS w N (Ld (frD D) sz k B (hdK N k sz (plD D sz k) (i+1)) (min K (offTo (frD D) i+(q+1)))) (.slice (some ⟨g9,0,none⟩) N c10) v4 from by rw [hkn1];exact HI4.out)
           have hqn:q+1<=frD D i:=HQf.out
           have hkqb:(kq:Int)+1<=16777216:=by have:=HKb.out;have:=HIn.out.2;omega
           have HQn:=zH hqn
           clear z8 zf hkn1 hqn HI4 x7 x8 hfck
           go_wp2_with fail
           go_roundw
           case rel=>exact⟨q+1,g9,c10,HQn.out,by go_num,by rw [HKn.out];go_num,rfl,HI5,HOn⟩
           case measure=>(have:=HQn.out;simp [intOf];omega)
          ·rw [decide_eq_false hin]
           have HKe2:=zH (show kq=min K (offTo (frD D) (i+1)) by
            have h1:=HKq.out
            have h2:=HFq.out
            have h3:offTo (frD D) (i+1)=offTo (frD D) i+frD D i:=rfl
            rw [h3,h2]
            by_cases c1:q<fr
            ·have c2:¬kq<K:=fun h=>hin ⟨c1,h⟩
             rcases Nat.le_total K (offTo (frD D) i+q) with h4 | h4
             ·rw [Nat.min_eq_left h4] at h1;rw [Nat.min_eq_left (by omega)];exact h1
             ·rw [Nat.min_eq_right h4] at h1;rw [Nat.min_eq_left (by omega)];omega
            ·rw [h1,show q=fr by omega])
           have HI5:=zH (show ImS w N (Ld (frD D) sz k B (hdK N k sz (plD D sz k) (i+1)) (min K (offTo (frD D) (i+1)))) (.slice (some ⟨g7,0,none⟩) N c7) wr from by rw [←HKe2.out];exact HI.out)
           have HOn:=zH (HO6.out.trans HO.out)
           clear HI HO hin
           go_wp2_with fail
           go_roundw
           case rel=>exact⟨i+1,g7,c7,by omega,by go_num,by rw [←HKe2.out],rfl,HI5,HOn⟩
           case measure=>simp [intOf];omega
    ·obtain rfl:i=k:=by omega
     have hKm:min K (offTo (frD D) i)=K:=Nat.min_eq_left HFr.out.2
     rw [hKm] at HI
     obtain⟨g1,c1,F,hv1,hc1,hc2,hf1,hl1⟩:=HI.out
     simp only [Value.slice.injEq,Option.some.injEq,Addr.mk.injEq,and_true,true_and] at hv1
     obtain⟨rfl,rfl⟩:=hv1
     obtain⟨E,hE⟩:∃E,E=16+64*i:=⟨_,rfl⟩
     have hEN:E<N:=by omega
     have hFh:∀p,p<E->F p=hdK N i sz (plD D sz i) i p:=fun p hp=>hl1.front p (by omega)
     have hby:Byt F E:=fun p hp=>by
      rw [hFh p hp]
      unfold hdK
      by_cases h1:p<16
      ·rw [if_pos h1];exact headF_bd ..
      ·rw [if_neg h1,if_pos (by omega)];exact entF_bd ..
     have hsum:sumF F E=sumF (hdK N i sz (plD D sz i) i) E:=sumF_ext hFh
     have hsl:SlU wr (some ⟨g,0,none⟩) E F:=(hf1.row.sl 0 E (by omega)).ext fun j _=>by rw [Nat.zero_add]
     have hsb:=sumF_bd (F:=F) (n:=E) hby
     obtain⟨S,hS⟩:∃S:Nat,sumF F E=S:=⟨(sumF F E).toNat,by omega⟩
     have HSb:=zH (show S<4294967296 by omega)
     have HSm:=zH (show sumF (hdK N i sz (plD D sz i) i) E=S by rw [←hsum];exact hS)
     have HCs:=zH (CSum_any (some ⟨g,0,none⟩) E c F wr hsl hby (by omega) hc2)
     rw [hS] at HCs
     have HEe:=zH hE
     have hcut:=fun V=>cut_hi g 0 N c E (by omega) (by omega) V
     have t1:(16:Int)+64*(i:Int)=(E:Int):=by omega
     have HO2:=zH (HO.out)
     have HI2:=HI
     clear hKm hFh hby hsum hsl hsb hS hf1 hl1 hE HI HO
     go_wp2_with fail
     refine HCs.out.mono ?_
     rintro e v1 ⟨rfl,hv1⟩
     have HV1:=zH hv1
     have hS0:(0:Int)<=S:=by omega
     have hS1:(S:Int)<=4294967295:=by have:=HSb.out;omega
     clear hv1 HCs
     go_wp2_with fail
     refine(lawNumber_i 4 S 4 S rfl rfl _ (by omega) (by omega) (by omega)).mono ?_
     rintro e v2 ⟨gn,rfl,hfs,hfo⟩
     have HV2:=zH (HV1.out.trans hfo)
     have HX:=zH hfs
     have HI3:=zH (HI2.out.on HV2.out)
     clear hfs hfo HV1 HI2
     go_wp2_with fail
     refine(lawLay_fi HI3.out E E rfl (some ⟨gn,0,none⟩) 4 4 (be 4 S) (frontF N i sz (plD D sz i)) (fun p hp=>by
      have h:=hdK_front N i sz (plD D sz i) p hp
      rw [←HEe.out,HSm.out] at h
      exact h) (by have:=HEe.out;omega) HX.out hN1 hNb.2 hn).mono ?_
     rintro e v3 ⟨g2,c2,rfl,hi1,ho1⟩
     have HI4:=zH hi1
     clear hi1 ho1 HI3 HX
     go_wp2_with fail
     go_ret
     obtain⟨g3,c3,F3,h1,h2,h3,h4,h5⟩:=HI4.out
     simp only [Value.slice.injEq,Option.some.injEq,Addr.mk.injEq,and_true,true_and] at h1
     obtain⟨rfl,rfl⟩:=h1
     exact⟨g2,c2,rfl,h2,h3,F3,h4,h5⟩
theorem cut_lh0(b o n cap lo hi:Nat)(h1:lo<=hi)(h2:hi<=cap)(h3:lo<cap)(w:World):(Instr.sliceAt 24 (.slice (some ⟨b,o,none⟩) n cap) (some (.int .i64 lo)) (some (.int .i64 hi)) none).run Tryz.prog w = .ok (.slice (some ⟨b,o+lo,none⟩) (hi-lo) (cap-lo)) w:=by
 rw [run_sliceAt_slice _ _ _ _ _ _ u8_under,run_slice_lh _ _ _ _ _ u8_under _ _ _ _ (by omega) (by omega) (by omega),u8_elem]
 simp only [Result.andThen_ok,sliced,Int.toNat_natCast,Option.map,Nat.mul_one]
 rw [if_neg (by omega),add_plain]
theorem plD_ext{D E:Nat->Mt}{sz n:Nat}(e:∀i,i<n->D i=E i):(∀i,i<n->plD D sz n i=plD E sz n i)/\totalAt (frD D) sz n=totalAt (frD E) sz n:=by
 have hf:∀i,i<n->frD D i=frD E i:=fun i hi=>by unfold frD;rw [e i hi]
 have ha:∀i,i<=n->atTo (frD D) sz n i=atTo (frD E) sz n i:=fun i hi=>atTo_ext fun k hk=>hf k (by omega)
 refine⟨fun i hi=>?_,by unfold totalAt;rw [ha n (Nat.le_refl _)]⟩
 unfold plD firstAt
 rw [e i hi,ha i (by omega),hf i hi]
def hdN(F:Nat->Int):Nat:=(hd2 F).toNat
def hdZ(F:Nat->Int):Nat:=(hd1 F).toNat
def hdS(F:Nat->Int):Int:=numTo (fun j=>F (16+64*hdN F+j)) 4
def preI(F:Nat->Int)(N:Nat):Int:=
 if hdI F N≠0 then hdI F N else if N<20+64*hdN F then 2 else if hdS F≠sumF F (16+64*hdN F) then 9 else 0
def GoodI(D:Nat->Mt)(F:Nat->Int)(N:Nat):Prop:=GoodD D (hdN F) (fun p=>F (16+p))/\(∀i,i<hdN F->plD D (hdZ F) (hdN F) i=D i)/\totalAt (frD D) (hdZ F) (hdN F)=N
structure BkB(w:World)(bb sz n N:Nat)(q:Option Addr)(c:Nat)(im:Option Addr)(ci:Nat)(D:Nat->Mt)(F:Nat->Int):Prop where
 blk:w.heap[bb]?=some (.cells #[.int .i64 sz,.slice q n c,.slice im N ci] 119 (0,0))
 dir:MtsS w q n D
 d1:n<=c
 d2:c<=maxLen
 img:SlU w im N F
 i1:N<=ci
 i2:ci<=maxLen
theorem BkB.old{w w':World}{bb sz n N:Nat}{q:Option Addr}{c:Nat}{im:Option Addr}{ci:Nat}{D:Nat->Mt}{F:Nat->Int}(h:BkB w bb sz n N q c im ci D F)(k:Old w w'):BkB w' bb sz n N q c im ci D F:=
 ⟨(k.block _ (lt_of_block h.blk)).trans h.blk,h.dir.old k,h.d1,h.d2,h.img.old k,h.i1,h.i2⟩
structure BkD(F:Nat->Int)(N:Nat)(D:Nat->Mt):Prop where
 dir:dirP D (hdN F)
 ent:∀i,i<hdN F->RdI (fun j=>F (16+(64*i+j))) (D i)
 place:∀i,i<hdN F->plD D (hdZ F) (hdN F) i=D i
 total:totalAt (frD D) (hdZ F) (hdN F)=N
theorem BkD.one{F:Nat->Int}{N:Nat}{D E:Nat->Mt}(h:BkD F N D)(k:GoodI E F N):∀i,i<hdN F->D i=E i:=fun i hi=>by
 obtain⟨t,h1,h2,_⟩:=h.ent i hi
 have h3:=k.1.1 i hi
 rw [h1]
 exact rd_uniq h3.1 h3.2 h2
def bkX(bb:Nat)(q:Option Addr)(n:Nat)(im:Option Addr)(NI:Nat)(x:Nat):Prop:=x=bb\/(0<n/\∃a,q=some a/\a.block=x)\/(0<NI/\∃a,im=some a/\a.block=x)
def PrsR(w:World)(F:Nat->Int)(N:Nat)(e:Ending)(w':World):Prop:=
 (preI F N≠0/\e = .returned (.tuple #[.pointer none,.int .i64 (preI F N)])/\Old w w') \/
 (preI F N=0/\((∃er,(er=4\/er=12)/\e = .returned (.tuple #[.pointer none,.int .i64 er])/\(∀D,¬GoodI D F N)/\Old w w') \/
  ∃bb q c im ci D,e = .returned (.tuple #[.pointer (some ⟨bb,0,none⟩),.int .i64 0])/\BkB w' bb (hdZ F) (hdN F) N q c im ci D F/\BkD F N D/\Old w w'))
def PrsR2(w:World)(F:Nat->Int)(N:Nat)(e:Ending)(w':World):Prop:=
 (preI F N≠0/\e = .returned (.tuple #[.pointer none,.int .i64 (preI F N)])/\Old w w') \/
 (preI F N=0/\((∃er,(er=4\/er=12)/\e = .returned (.tuple #[.pointer none,.int .i64 er])/\(∀D,¬GoodI D F N)/\Old w w') \/
  ∃bb q c im ci D,e = .returned (.tuple #[.pointer (some ⟨bb,0,none⟩),.int .i64 0])/\BkB w' bb (hdZ F) (hdN F) N q c im ci D F/\BkD F N D/\Old w w'/\∀x,bkX bb q (hdN F) im N x->w.heap.size<=x))
theorem PrsR2.one{w w':World}{F:Nat->Int}{N:Nat}{e:Ending}(h:PrsR2 w F N e w'):PrsR w F N e w':=by
 rcases h with h | ⟨h0,h | ⟨bb,q,c,im,ci,D,h1,h2,h3,h4,_⟩⟩
 ·exact .inl h
 ·exact .inr ⟨h0,.inl h⟩
 ·exact .inr ⟨h0,.inr ⟨bb,q,c,im,ci,D,h1,h2,h3,h4⟩⟩
set_option maxHeartbeats 16000000 in
theorem Parse_any2(p:Option Addr)(N cap:Nat)(F:Nat->Int)(w:World)(hs:SlU w p N F)(hb:Byt F N)(hc:N<=cap)(hm:cap<=maxLen)(hN:N<=1099511627776):
  Calls Tryz.prog 14 #[.slice p N cap] w (PrsR2 w F N):=by
 have HWr:=zH (wrongHead_any p N cap F w hs hb hc hm)
 by_cases h0:hdI F N≠0
 ·have e0:preI F N=hdI F N:=by unfold preI;rw [if_pos h0]
  have HE:=zH (And.intro e0 h0)
  obtain⟨x,hx⟩:∃x,x=hdI F N:=⟨_,rfl⟩
  rw [←hx] at HWr h0
  have HX:=zH hx
  have d0:(x != 0)=true:=by simpa using h0
  have HO:=zH (Old.refl w)
  clear e0 hx h0 hs hb hc hm
  go_enter Tryz.func14,Tryz.ntmps14
  go_wp2_with fail
  refine HWr.out.mono ?_
  rintro e w1 ⟨rfl,rfl⟩
  go_wp2_with fail
  go_ret2
  refine .inl ⟨by rw [HE.out.1];exact HE.out.2,?_,HO.out⟩
  rw [HE.out.1,←HX.out]
  rfl
 have h0:=Classical.not_not.1 h0
 rw [h0] at HWr
 have hhd:=h0
 unfold hdI at hhd
 have hN20:20<=N:=by
  rcases Nat.lt_or_ge N 20 with h | h
  ·rw [if_pos h] at hhd;omega
  ·exact h
 rw [if_neg (by omega)] at hhd
 by_cases hA:¬markP F\/hd5 F≠0
 ·rw [if_pos hA] at hhd;omega
 rw [if_neg hA] at hhd
 by_cases hB:¬(24<=hd1 F/\hd1 F<=96)\/64<hd2 F\/hd4 F≠N
 ·rw [if_pos hB] at hhd;omega
 clear hhd
 obtain⟨g,o,rfl,hg,hcs⟩:=hs (by omega)
 have sub:∀a n,a+n<=N->SlU w (some ⟨g,o+a,none⟩) n (fun j=>F (a+j)):=fun a n ha _=>⟨g,o+a,rfl,hg,fun j hj=>by rw [Nat.add_assoc];exact hcs (a+j) (by omega)⟩
 have HG1:=zH (fun V (hV:Old w V)=>get_any (some ⟨g,o+10,none⟩) 1 (cap-10) (fun j=>F (10+j)) V (by omega) ((sub 10 1 (by omega)).old hV) (fun j hj=>hb _ (by omega)))
 have HG2:=zH (fun V (hV:Old w V)=>get_any (some ⟨g,o+8,none⟩) 2 (cap-8) (fun j=>F (8+j)) V (by omega) ((sub 8 2 (by omega)).old hV) (fun j hj=>hb _ (by omega)))
 have hb2:=numTo_bd (F:=fun j=>F (8+j)) (w:=2) (fun j hj=>hb _ (by omega))
 have e1:hd1 F=(hdZ F:Nat):=by unfold hdZ;omega
 have e2:hd2 F=(hdN F:Nat):=by
  have h1:0<=hd2 F:=hb2.1
  unfold hdN
  omega
 have f1:numTo (fun j=>F (10+j)) 1=(hdZ F:Nat):=e1
 have f2:numTo (fun j=>F (8+j)) 2=(hdN F:Nat):=e2
 rw [f1] at HG1
 rw [f2] at HG2
 have hz1:24<=hdZ F/\hdZ F<=96:=by omega
 have hn64:hdN F<=64:=by omega
 have HPre:Hid (preI F N=if N<20+64*hdN F then 2 else if hdS F≠sumF F (16+64*hdN F) then 9 else 0):=zH (by unfold preI;rw [if_neg (by omega)])
 obtain⟨n,hn⟩:∃n,n=hdN F:=⟨_,rfl⟩
 obtain⟨z,hz⟩:∃z,z=hdZ F:=⟨_,rfl⟩
 rw [←hn] at HG2 HPre hn64
 rw [←hz] at HG1 hz1
 have HDr:=zH (fun w=>Dir_any n w (by omega))
 have hl1:=fun w'=>cut_lh g o N cap 10 11 (by omega) (by omega) w'
 have hl2:=fun w'=>cut_lh g o N cap 8 10 (by omega) (by omega) w'
 have iN:(20:Int)<=N:=by omega
 have ic:(20:Int)<=cap:=by omega
 have i11:(11:Int)<=cap:=by omega
 have i10:(10:Int)<=cap:=by omega
 have n10:¬cap=10:=by omega
 have n8:¬cap=8:=by omega
 have HO:=zH (Old.refl w)
 by_cases hsh:N<20+64*n
 ·have HE:=zH (show preI F N=2 by rw [HPre.out,if_pos hsh])
  have i2:(N:Int)<((20+64*n:Nat):Int):=by omega
  obtain⟨T,hT⟩:∃T,T=20+64*n:=⟨_,rfl⟩
  rw [←hT] at HDr i2
  clear e1 e2 f1 f2 hb2 hA hB h0 sub hcs hg hb hc hm hn hz hz1 hn64 hsh hT
  go_enter Tryz.func14,Tryz.ntmps14
  go_wp2_with fail
  refine HWr.out.mono ?_
  rintro e w1 ⟨rfl,rfl⟩
  go_wp2_with fail
  refine wp_region_held_drew (S:=(fun _=>True)) (by kernel_rfl) ?_ (fun hHeld=>?_)
  ·exact trivial
  refine wpU 0 rfl ?_;try simp only [Act.put,sA,sZ,sS]
  refine wpU 1 rfl ?_;try simp only [Act.put,sA,sZ,sS]
  refine wpU 3 rfl ?_;try simp only [Act.put,sA,sZ,sS]
  refine wpU 4 rfl ?_;try simp only [Act.put,sA,sZ,sS]
  refine wpAnyH_ready (rs:=[2]) (by kernel_rfl) (by simp) ?_
  refine AllReadyH.cons (o:=⟨_,_,_,_,_,_⟩) (by rfl) ?_ AllReadyH.nil
  intro K hK
  go_simp
  refine(HG1.out _ (Old.drew (Old.refl w))).mono ?_
  rintro e V ⟨rfl,rfl⟩
  go_wp2_with fail
  refine hK.out _ _ ?_ (fun hHeld=>?_)
  ·exact trivial
  clear hK K
  try simp only [Act.put,sA,sZ,sS]
  refine wpAnyH_ready (rs:=[5]) (by kernel_rfl) (by simp) ?_
  refine AllReadyH.cons (o:=⟨_,_,_,_,_,_⟩) (by rfl) ?_ AllReadyH.nil
  intro K hK
  go_simp
  refine(HG2.out _ (Old.drew (Old.refl w))).mono ?_
  rintro e V ⟨rfl,rfl⟩
  go_wp2_with fail
  refine hK.out _ _ ?_ (fun hHeld=>?_)
  ·exact trivial
  clear hK K
  try simp only [Act.put,sA,sZ,sS]
  refine wpU 6 rfl ?_;try simp only [Act.put,sA,sZ,sS]
  refine wpU 7 rfl ?_;try simp only [Act.put,sA,sZ,sS]
  refine wpAnyH_done (by kernel_rfl) ?_ _
  go_wp2_with fail
  refine(HDr.out _).mono ?_
  rintro e V ⟨rfl,rfl⟩
  go_wp2_with fail
  go_ret2
  exact .inl ⟨by rw [HE.out];omega,by rw [HE.out];rfl,HO.out.drew⟩
 obtain⟨T,hT⟩:∃T,T=20+64*n:=⟨_,rfl⟩
 obtain⟨E,hE⟩:∃E,E=16+64*n:=⟨_,rfl⟩
 have hTE:T=E+4:=by omega
 have HSum:Hid (preI F N=if numTo (fun j=>F (E+j)) 4≠sumF F E then 9 else 0):=zH (by
  rw [HPre.out,if_neg hsh,hE,hn]
  rfl)
 have HGS:=zH (fun V (hV:Old w V)=>get_any (some ⟨g,o+E,none⟩) 4 (cap-E) (fun j=>F (E+j)) V (by omega) ((sub E 4 (by omega)).old hV) (fun j hj=>hb _ (by omega)))
 have HSm:=zH (fun V (hV:Old w V)=>CSum_any (some ⟨g,o,none⟩) E cap F V (by
  have:=(sub 0 E (by omega)).old hV
  rw [Nat.add_zero] at this
  exact this.ext fun j _=>by rw [Nat.zero_add]) (fun j hj=>hb j (by omega)) (by omega) hm)
 have hxb:=numTo_bd (F:=fun j=>F (E+j)) (w:=4) (fun j hj=>hb _ (by omega))
 have hyb:=sumF_bd (F:=F) (n:=E) (fun j hj=>hb j (by omega))
 obtain⟨x,hx⟩:∃x,x=numTo (fun j=>F (E+j)) 4:=⟨_,rfl⟩
 obtain⟨y,hy⟩:∃y,y=sumF F E:=⟨_,rfl⟩
 rw [←hx] at HGS hxb HSum
 rw [←hy] at HSm HSum
 have hxb2:x<4294967296:=hxb.2
 have hx0:0<=x:=hxb.1
 have w1:IntKind.u32.wrap x=x:=by rw [IntKind.wrap_u32];omega
 have w2:x%4294967296=x:=by omega
 obtain⟨q,hq⟩:∃q,q=(x != y):=⟨_,rfl⟩
 have hq2:(x != y)=q:=hq.symm
 have HQ:Hid (preI F N=if q then 9 else 0):=zH (by
  rw [HSum.out,hq]
  by_cases e:x=y
  ·rw [if_neg (fun h=>h e)];simp [e]
  ·rw [if_pos e];simp [e])
 have hRd:=fun V (hV:Old w V)=>readDir_any (some ⟨g,o+16,none⟩) n (cap-16) (fun p=>F (16+p)) V ((sub 16 (64*n) (by omega)).old hV) (fun j hj=>hb _ (by omega)) (by omega) (by omega)
 rw [show 64*n=E-16 by omega] at hRd
 have HRd:=zH hRd
 have HPl:=zH (fun V q c D (h:MtsS V q n D) (hd:dirP D n)=>placed_any z q n c D V (by omega) h (by omega) (dirP_ok hd))
 have HEq:=zH (fun V p q c c' D (hp:MtsS V p n (plD D z n)) (hq:MtsS V q n D)=>EqualM_any p q n c c' (plD D z n) D V hp hq (by omega) (fun i _=>rfl))
 have HCl:=zH (fun V (hV:Old w V)=>CloneU_any (some ⟨g,o,none⟩) N cap F V (by
  have:=(sub 0 N (by omega)).old hV
  rw [Nat.add_zero] at this
  exact this.ext fun j _=>by rw [Nat.zero_add]) hN)
 have HNZ:=zH (And.intro hn hz)
 have HZ1:=zH hz1
 have q1:wrap64 ((T:Int)-4)=E:=by rw [IntWalk.wrap64_in _ (by omega)];omega
 have q0:(T:Int)-4=E:=by omega
 have q3:wrap64 (E:Int)=E:=IntWalk.wrap64_in _ (by omega)
 have k1:(E:Int)<=T:=by omega
 have k2:(T:Int)<=cap:=by omega
 have k3:(E:Int)<=cap:=by omega
 have k4:(16:Int)<=E:=by omega
 have k5:¬((N:Int)<T):=by omega
 have k6:¬cap=E:=by omega
 have k7:¬cap=0:=by omega
 have k8:¬cap=16:=by omega
 have c1:∀w',(Instr.sliceAt 24 (.slice (some ⟨g,o,none⟩) N cap) (some (.int .i64 E)) (some (.int .i64 T)) none).run Tryz.prog w' = .ok (.slice (some ⟨g,o+E,none⟩) 4 (cap-E)) w':=fun w'=>by
  have:=cut_lh g o N cap E T (by omega) (by omega) w'
  rwa [show T-E=4 by omega] at this
 have c2:=fun w'=>cut_hi g o N cap E (by omega) (by omega) w'
 have c3:∀w',(Instr.sliceAt 24 (.slice (some ⟨g,o,none⟩) N cap) (some (.int .i64 16)) (some (.int .i64 E)) none).run Tryz.prog w' = .ok (.slice (some ⟨g,o+16,none⟩) (E-16) (cap-16)) w':=fun w'=>cut_lh0 g o N cap 16 E (by omega) (by omega) (by omega) w'
 have HC3:=zH c3
 have HDr2:Hid (∀V,Calls Tryz.prog 13 #[.int .i64 n] V fun e w'=>e = .returned (.int .i64 T)/\V=w'):=zH fun V=>by
  have:=HDr.out V
  rw [←hT] at this
  exact this
 have hEN:Hid (E=16+64*n):=zH hE
 clear hT hE hTE hx hy hxb hyb hq hRd hn hz e1 e2 f1 f2 hb2 hA hB h0 sub hcs hg hb hc hm hz1 hn64 hsh HDr c3
 go_enter Tryz.func14,Tryz.ntmps14
 go_wp2_with fail
 refine HWr.out.mono ?_
 rintro e w1 ⟨rfl,rfl⟩
 go_wp2_with fail
 refine wp_region_held_drew (S:=(fun _=>True)) (by kernel_rfl) ?_ (fun hHeld=>?_)
 ·exact trivial
 refine wpU 0 rfl ?_;try simp only [Act.put,sA,sZ,sS]
 refine wpU 1 rfl ?_;try simp only [Act.put,sA,sZ,sS]
 refine wpU 3 rfl ?_;try simp only [Act.put,sA,sZ,sS]
 refine wpU 4 rfl ?_;try simp only [Act.put,sA,sZ,sS]
 refine wpAnyH_ready (rs:=[2]) (by kernel_rfl) (by simp) ?_
 refine AllReadyH.cons (o:=⟨_,_,_,_,_,_⟩) (by rfl) ?_ AllReadyH.nil
 intro K hK
 go_simp
 refine(HG1.out _ (Old.drew (Old.refl w))).mono ?_
 rintro e V ⟨rfl,rfl⟩
 go_wp2_with fail
 refine hK.out _ _ ?_ (fun hHeld=>?_)
 ·exact trivial
 clear hK K
 try simp only [Act.put,sA,sZ,sS]
 refine wpAnyH_ready (rs:=[5]) (by kernel_rfl) (by simp) ?_
 refine AllReadyH.cons (o:=⟨_,_,_,_,_,_⟩) (by rfl) ?_ AllReadyH.nil
 intro K hK
 go_simp
 refine(HG2.out _ (Old.drew (Old.refl w))).mono ?_
 rintro e V ⟨rfl,rfl⟩
 go_wp2_with fail
 refine hK.out _ _ ?_ (fun hHeld=>?_)
 ·exact trivial
 clear hK K
 try simp only [Act.put,sA,sZ,sS]
 refine wpU 6 rfl ?_;try simp only [Act.put,sA,sZ,sS]
 refine wpU 7 rfl ?_;try simp only [Act.put,sA,sZ,sS]
 refine wpAnyH_done (by kernel_rfl) ?_ _
 clear HG1 HG2 hl1 hl2
 obtain⟨wa,hwa⟩:∃V,V=w.drew:=⟨_,rfl⟩
 have HOa:=zH (show Old w wa by rw [hwa];exact Old.drew (Old.refl w))
 rw [←hwa]
 clear hwa
 go_wp2_with fail
 refine(HDr2.out _).mono ?_
 rintro e V ⟨rfl,rfl⟩
 go_wp2_with fail
 refine(HDr2.out _).mono ?_
 rintro e V ⟨rfl,rfl⟩
 go_wp2_with fail
 refine wp_region_held_drew (S:=(fun _=>True)) (by kernel_rfl) ?_ (fun hHeld=>?_)
 ·exact trivial
 refine wpU 0 rfl ?_;try simp only [Act.put,sA,sZ,sS]
 refine wpU 1 rfl ?_;try simp only [Act.put,sA,sZ,sS]
 refine wpU 2 rfl ?_;try simp only [Act.put,sA,sZ,sS]
 refine wpU 7 rfl ?_;try simp only [Act.put,sA,sZ,sS]
 refine wpU 8 rfl ?_;try simp only [Act.put,sA,sZ,sS]
 refine wpU 9 rfl ?_;try simp only [Act.put,sA,sZ,sS]
 refine wpAnyH_ready (rs:=[3]) (by kernel_rfl) (by simp) ?_
 refine AllReadyH.cons (o:=⟨_,_,_,_,_,_⟩) (by rfl) ?_ AllReadyH.nil
 intro K hK
 go_simp
 refine(HDr2.out _).mono ?_
 rintro e V ⟨rfl,rfl⟩
 go_wp2_with fail
 refine hK.out _ _ ?_ (fun hHeld=>?_)
 ·exact trivial
 clear hK K
 try simp only [Act.put,sA,sZ,sS]
 refine wpU 4 rfl ?_;try simp only [Act.put,sA,sZ,sS]
 refine wpAnyH_ready (rs:=[5]) (by kernel_rfl) (by simp) ?_
 refine AllReadyH.cons (o:=⟨_,_,_,_,_,_⟩) (by rfl) ?_ AllReadyH.nil
 intro K hK
 go_simp
 refine(HGS.out _ HOa.out.drew).mono ?_
 rintro e V ⟨rfl,rfl⟩
 go_wp2_with fail
 refine hK.out _ _ ?_ (fun hHeld=>?_)
 ·exact trivial
 clear hK K
 try simp only [Act.put,sA,sZ,sS]
 refine wpU 6 rfl ?_;try simp only [Act.put,sA,sZ,sS]
 refine wpAnyH_ready (rs:=[10]) (by kernel_rfl) (by simp) ?_
 refine AllReadyH.cons (o:=⟨_,_,_,_,_,_⟩) (by rfl) ?_ AllReadyH.nil
 intro K hK
 go_simp
 refine(HSm.out _ HOa.out.drew).mono ?_
 rintro e V1 ⟨rfl,o1⟩
 have HO1:=zH (HOa.out.drew.trans o1)
 clear o1
 go_wp2_with fail
 refine hK.out _ _ ?_ (fun hHeld=>?_)
 ·exact trivial
 clear hK K
 try simp only [Act.put,sA,sZ,sS]
 refine wpU 11 rfl ?_;try simp only [Act.put,sA,sZ,sS]
 refine wpAnyH_done (by kernel_rfl) ?_ _
 clear HGS HSm w1 w2 hq2 c1 c2 HDr2 HOa HSum
 cases q
 case true=>
  go_wp2_with fail
  go_ret2
  exact .inl ⟨by rw [HQ.out];simp,by rw [HQ.out];rfl,HO1.out⟩
 have c3:=HC3.out
 go_wp2_with fail
 refine(HRd.out _ HO1.out).mono ?_
 rintro e V2 (⟨qd,cd,D,rfl,hd1,hd2,hms,hdp,hri,ho,hnw⟩ | ⟨qd,md,cd,rfl,hno,ho⟩)
 case inr=>
  have HO2:=zH (HO1.out.trans ho)
  have HNo:=zH hno
  clear ho hno HRd
  go_wp2_with fail
  go_ret2
  refine .inr ⟨by rw [HQ.out];rfl,.inl ⟨4,.inl rfl,rfl,fun D hD=>HNo.out D ?_,HO2.out⟩⟩
  rw [HNZ.out.1]
  exact hD.1
 have HO2:=zH (HO1.out.trans ho)
 have HMs:=zH hms
 have HDp:=zH hdp
 have HRi:=zH hri
 have HDc:=zH (And.intro hd1 hd2)
 have HNw:=zH (fun a h0 ha=>Nat.le_trans HO1.out.size (hnw a h0 ha))
 have HOne:Hid (∀D0,GoodD D0 n (fun p=>F (16+p))->∀i,i<n->D i=D0 i):=zH fun D0 h i hi=>by
  obtain⟨t,h1,h2,_⟩:=hri i hi
  have h3:=h.1 i hi
  rw [h1]
  exact rd_uniq h3.1 h3.2 h2
 have HSt:=zH hms.str
 clear ho hms hdp hri hd1 hd2 hnw HRd HO1
 go_wp2_with fail
 refine(HPl.out V2 qd cd D HMs.out HDp.out).mono ?_
 rintro e V3 ⟨qp,cp,rfl,hc1,hc2,hmp,ho⟩
 have HO3:=zH (HO2.out.trans ho)
 have HM3:=zH (HMs.out.old ho)
 have HP3:Hid (MtsS V3 qp n (plD D z n)):=zH ⟨fun h0=>by
  obtain⟨g,hq,hm1,_⟩:=hmp h0
  rw [hq]
  exact(hm1.sl fun i hi=>HSt.out i hi).cell h0,fun i hi=>HSt.out i hi⟩
 clear hc1 hc2 hmp ho HMs HO2 HPl
 obtain⟨tt,htt⟩:∃t,t=totalAt (frD D) z n:=⟨_,rfl⟩
 rw [←htt]
 have HTt:=zH htt
 clear htt
 go_wp2_with fail
 refine(HEq.out V3 qp qd cp cd D HP3.out HM3.out).mono ?_
 rintro e V4 ⟨r,rfl,hr,ho⟩
 have HO4:=zH (HO3.out.trans ho)
 have HM4:=zH (HM3.out.old ho)
 have HR:=zH hr
 clear ho hr HO3 HM3 HP3 HEq
 cases r
 case false=>
  go_wp2_with fail
  go_ret2
  refine .inr ⟨by rw [HQ.out];rfl,.inl ⟨12,.inr rfl,rfl,fun D0 hD=>?_,HO4.out⟩⟩
  unfold GoodI at hD
  rw [←HNZ.out.1,←HNZ.out.2] at hD
  have e:=HOne.out D0 hD.1
  have:=HR.out.2 fun i hi=>by
   rw [(plD_ext (sz:=z) e).1 i hi,hD.2.1 i hi,e i hi]
  cases this
 by_cases hTN:tt=N
 case neg=>
  have d:((tt:Int) != (N:Int))=true:=by
   have:(tt:Int)≠N:=by omega
   simpa using this
  have HTN:=zH hTN
  clear hTN
  go_wp2_with fail
  go_ret2
  refine .inr ⟨by rw [HQ.out];rfl,.inl ⟨12,.inr rfl,rfl,fun D0 hD=>?_,HO4.out⟩⟩
  unfold GoodI at hD
  rw [←HNZ.out.1,←HNZ.out.2] at hD
  have e:=HOne.out D0 hD.1
  exact HTN.out (by rw [HTt.out,(plD_ext (sz:=z) e).2,hD.2.2])
 have d:((tt:Int) != (N:Int))=false:=by simp [hTN]
 have HTN:=zH hTN
 clear hTN
 go_wp2_with fail
 refine(HCl.out V4 HO4.out).mono ?_
 rintro e V5 ⟨im,ci,rfl,hi1,hi2,him,ho,hinw⟩
 have HIn:=zH (fun a h0 ha=>Nat.le_trans HO4.out.size (hinw a h0 ha))
 have HO5:=zH (HO4.out.trans ho)
 have HM5:=zH (HM4.out.old ho)
 have HIm:=zH him
 have HIi:=zH (And.intro hi1 hi2)
 clear ho him hi1 hi2 hinw HO4 HM4 HCl
 go_wp2_with fail
 go_ret2
 have oa:=Old.alloc V5 (.cells #[.int .i64 z,.slice qd n cd,.slice im N ci] 119)
 refine .inr ⟨by rw [HQ.out];rfl,.inr ⟨V5.heap.size,qd,cd,im,ci,D,rfl,?_,?_,HO5.out.trans oa,?_⟩⟩
 ·rw [←HNZ.out.1,←HNZ.out.2]
  exact⟨heap_alloc_new _ _,HM5.out.old oa,HDc.out.1,HDc.out.2,HIm.out.old oa,HIi.out.1,HIi.out.2⟩
 ·refine⟨by rw [←HNZ.out.1];exact HDp.out,fun i hi=>HRi.out i (by rw [HNZ.out.1];exact hi),fun i hi=>?_,?_⟩
  ·rw [←HNZ.out.1,←HNZ.out.2]
   exact HR.out.1 (by simp) i (by rw [HNZ.out.1];exact hi)
  ·rw [←HNZ.out.1,←HNZ.out.2,←HTt.out,HTN.out]
 ·rw [←HNZ.out.1]
  rintro x (rfl | ⟨h0,a,ha,rfl⟩ | ⟨h0,a,ha,rfl⟩)
  ·exact HO5.out.size
  ·exact HNw.out a h0 ha
  ·exact HIn.out a h0 ha
theorem Parse_any(p:Option Addr)(N cap:Nat)(F:Nat->Int)(w:World)(hs:SlU w p N F)(hb:Byt F N)(hc:N<=cap)(hm:cap<=maxLen)(hN:N<=1099511627776):
  Calls Tryz.prog 14 #[.slice p N cap] w (PrsR w F N):=(Parse_any2 p N cap F w hs hb hc hm hN).mono fun _ _ h=>h.one
theorem plD_two(D:Nat->Mt)(sz n i:Nat):plD (plD D sz n) sz n i=plD D sz n i:=rfl
theorem frD_pl(D:Nat->Mt)(sz n:Nat):frD (plD D sz n)=frD D:=rfl
theorem frontF_head{len:Int}{n sz:Nat}{D:Nat->Mt}(j:Nat)(hj:j<16):frontF len n sz D j=headF len n sz j:=by
 unfold frontF dirF
 rw [patch_out (by omega),if_pos hj]
theorem frontF_ent{len:Int}{n sz:Nat}{D:Nat->Mt}(i j:Nat)(hi:i<n)(hj:j<64):frontF len n sz D (16+64*i+j)=entF (D i) j:=by
 unfold frontF
 rw [patch_out (by omega),dirF_ent _ _ _ _ _ _ hj]
theorem frontF_sum{len:Int}{n sz:Nat}{D:Nat->Mt}(j:Nat)(hj:j<4):frontF len n sz D (16+64*n+j)=be 4 (sumF (dirF len n sz D) (16+64*n)) j:=by
 unfold frontF
 exact patch_in hj
theorem frontF_dir{len:Int}{n sz:Nat}{D:Nat->Mt}(p:Nat)(hp:p<16+64*n):frontF len n sz D p=dirF len n sz D p:=by
 unfold frontF
 exact patch_out (by omega)
theorem frontF_bd(len:Int)(n sz:Nat)(D:Nat->Mt)(p:Nat):0<=frontF len n sz D p/\frontF len n sz D p<=255:=by
 unfold frontF patch
 split
 ·exact be_bd _ _ _
 ·exact dirF_bd _ _ _ _ _
theorem total_bd{D:Nat->Mt}{sz n:Nat}(hz:sz<=96)(hn:n<=64)(hD:∀i,i<n->(D i).OkR):totalAt (frD D) sz n<=900000000/\20+64*n<=totalAt (frD D) sz n:=by
 have h1:=atTo_bd (f:=frD D) (sz:=sz) (n:=n) (fun i hi=>(hD i hi).fr_le.2) hz n (Nat.le_refl _)
 have h2:=total_le (frD D) sz n
 have h3:=atTo_lo (frD D) sz n n
 omega
theorem dirP_pl{D:Nat->Mt}{n:Nat}(sz m:Nat)(h:dirP D n):dirP (plD D sz m) n:=fun i hi=>⟨(h i hi).1,(h i hi).2⟩
theorem front_good{F:Nat->Int}{D:Nat->Mt}{n sz:Nat}(h24:24<=sz)(h96:sz<=96)(hn:n<=64)(hd:dirP D n)(hF:∀p,p<20+64*n->F p=frontF (totalAt (frD D) sz n:Nat) n sz (plD D sz n) p):
  preI F (totalAt (frD D) sz n)=0/\hdN F=n/\hdZ F=sz/\GoodI (plD D sz n) F (totalAt (frD D) sz n):=by
 obtain⟨hN1,hN2⟩:=total_bd (sz:=sz) h96 hn (dirP_ok hd)
 obtain⟨N,hN⟩:∃N,N=totalAt (frD D) sz n:=⟨_,rfl⟩
 rw [←hN] at hN1 hN2 hF ⊢
 have hh:∀j,j<16->F j=headF N n sz j:=fun j hj=>by rw [hF j (by omega),frontF_head j hj]
 have m4:markP F:=fun j hj=>by rw [hh j (by omega)];unfold headF;rw [if_pos hj]
 have m5:hd5 F=0:=by
  have e:hd5 F=numTo (fun _=>0) 5:=numTo_ext fun j hj=>by
   rw [hh (11+j) (by omega)]
   unfold headF
   rw [if_neg (by omega),if_neg (by omega),if_neg (by omega),if_neg (by omega)]
  rw [e]
  rfl
 have m1:hd1 F=sz:=by
  have e:hd1 F=numTo (be 1 sz) 1:=numTo_ext fun j hj=>by
   rw [hh (10+j) (by omega)]
   unfold headF
   rw [if_neg (by omega),if_neg (by omega),if_neg (by omega),if_pos (by omega),show 10+j-10=j by omega]
  rw [e,numTo_be1 _ (by omega) (by omega)]
 have m2:hd2 F=n:=by
  have e:hd2 F=numTo (be 2 n) 2:=numTo_ext fun j hj=>by
   rw [hh (8+j) (by omega)]
   unfold headF
   rw [if_neg (by omega),if_neg (by omega),if_pos (by omega),show 8+j-8=j by omega]
  rw [e,numTo_be2 _ (by omega) (by omega)]
 have m3:hd4 F=N:=by
  have e:hd4 F=numTo (be 4 N) 4:=numTo_ext fun j hj=>by
   rw [hh (4+j) (by omega)]
   unfold headF
   rw [if_neg (by omega),if_pos (by omega),show 4+j-4=j by omega]
  rw [e,numTo_be4 _ (by omega) (by omega)]
 have hdn:hdN F=n:=by unfold hdN;rw [m2];simp
 have hdz:hdZ F=sz:=by unfold hdZ;rw [m1];simp
 have hI:hdI F N=0:=by
  unfold hdI
  rw [if_neg (by omega),if_neg (fun h=>h.elim (fun h=>h m4) (fun h=>h m5)),if_neg]
  rintro (h | h | h)
  ·rw [m1] at h;omega
  ·rw [m2] at h;omega
  ·exact h m3
 have hsb:=sumF_bd (F:=dirF N n sz (plD D sz n)) (n:=16+64*n) (fun j _=>dirF_bd _ _ _ _ _)
 have hS:hdS F=sumF F (16+64*n):=by
  have e1:sumF F (16+64*n)=sumF (dirF N n sz (plD D sz n)) (16+64*n):=sumF_ext fun j hj=>by rw [hF j (by omega),frontF_dir j hj]
  have e2:hdS F=numTo (be 4 (sumF (dirF N n sz (plD D sz n)) (16+64*n))) 4:=by
   unfold hdS
   rw [hdn]
   exact numTo_ext fun j hj=>by rw [hF _ (by omega),frontF_sum j hj]
  rw [e1,e2,numTo_be4 _ hsb.1 hsb.2]
 refine⟨?_,hdn,hdz,?_⟩
 ·unfold preI
  rw [if_neg (by omega),hdn,if_neg (by omega),if_neg (fun h=>h hS)]
 ·unfold GoodI
  rw [hdn,hdz]
  refine⟨⟨fun i hi=>⟨?_,fun j hj=>?_⟩,dirP_pl sz n hd⟩,fun i hi=>plD_two D sz n i,by rw [frD_pl,hN]⟩
  ·have hb:=atTo_bd (f:=frD D) (sz:=sz) (n:=n) (fun i hi=>(dirP_ok hd i hi).fr_le.2) h96 i (by omega)
   have hf:=firstAt_le (frD D) sz n i
   have hfr:frD D i<=131072:=(dirP_ok hd i hi).fr_le.2
   refine⟨(dirP_ok hd i hi).at_ _ _,?_,?_,?_,?_⟩
   ·show (0:Int)<=(atTo (frD D) sz n i:Nat);omega
   ·show ((atTo (frD D) sz n i:Nat):Int)<_;omega
   ·show (0:Int)<=(firstAt (frD D) sz n i:Nat);omega
   ·show ((firstAt (frD D) sz n i:Nat):Int)<_;omega
  ·show entF (plD D sz n i) j=F (16+(64*i+j))
   rw [←Nat.add_assoc,hF _ (by omega),frontF_ent i j hi hj]
theorem Ld.byt{f:Nat->Nat}{sz n:Nat}{B:Nat->Nat->Int}{H:Nat->Int}{k:Nat}{F:Nat->Int}(h:Ld f sz n B H k F)(hH:∀p,p<20+64*n->0<=H p/\H p<=255)(hB:∀i,i<k->Byt (B i) sz)(N:Nat):Byt F N:=fun p _=>by
 by_cases hp:p<20+64*n
 ·rw [h.front p hp];exact hH p hp
 ·by_cases hs:∃i q,i<n/\q<f i/\offTo f i+q<k/\∃j,j<4/\p=atTo f sz n i+4*q+j
  ·obtain⟨i,q,h1,h2,h3,j,h4,rfl⟩:=hs
   rw [h.sum i q h1 h2 h3 j h4];exact be_bd _ _ _
  ·by_cases hb:∃i q,i<n/\q<f i/\offTo f i+q<k/\∃j,j<sz/\p=firstAt f sz n i+sz*q+j
   ·obtain⟨i,q,h1,h2,h3,j,h4,rfl⟩:=hb
    rw [h.byte i q h1 h2 h3 j h4];exact hB _ h3 j h4
   ·have hg:∀i q,i<n->q<f i->offTo f i+q<k->(∀j,j<4->p≠atTo f sz n i+4*q+j)/\∀j,j<sz->p≠firstAt f sz n i+sz*q+j:=fun i q h1 h2 h3=>⟨fun j h4 e=>hs ⟨i,q,h1,h2,h3,j,h4,e⟩,fun j h4 e=>hb ⟨i,q,h1,h2,h3,j,h4,e⟩⟩
    rw [h.gap p (by omega) hg];omega
def mtZ:Array Value:=#[.string ⟨#[]⟩,.int .i64 0,.int .i64 0,.int .i64 0,.bool false,.int .i64 0,.int .i64 0,.int .i64 0,.int .i64 0]
theorem BSize_at(b:Nat)(s:Int)(w:World)(h:w.cell? ⟨b,0,none⟩=some (.int .i64 s)):Calls Tryz.prog 16 #[.pointer (some ⟨b,0,none⟩)] w fun e w'=>e = .returned (.int .i64 s)/\w=w':=by
 go_enter Tryz.func16,Tryz.ntmps16
 go_wp2_with fail
 go_ret
 exact⟨rfl,rfl⟩
theorem BMade_yes(b:Nat)(s:Int)(w:World)(h:w.cell? ⟨b,0,none⟩=some (.int .i64 s))(h0:s≠0):Calls Tryz.prog 54 #[.pointer (some ⟨b,0,none⟩)] w fun e w'=>e = .returned (.bool true)/\w=w':=by
 have HS:=zH (BSize_at b s w h)
 have h1:(s != 0)=true:=by simpa using h0
 clear h h0
 go_enter Tryz.func54,Tryz.ntmps54
 go_wp2_with fail
 refine HS.out.mono ?_
 rintro e w' ⟨rfl,rfl⟩
 go_wp2_with fail
 go_ret
 exact⟨rfl,rfl⟩
end Go.Proofs.YtjakgghbdojlbaaGreatDoor
