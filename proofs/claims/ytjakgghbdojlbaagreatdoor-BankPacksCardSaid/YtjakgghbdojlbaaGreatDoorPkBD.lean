/- Texts joined: BankW, BankX, BankZ, BankAA, BankAB, BankAC, BankAD, BankAE, BankAF, BankAG, BankAH, OrdU, LawR, ExS, Awake, BnkPk. -/
import Derived.Deep.RegionHeld
import Derived.BigQuiet
import Derived.Test.YtjakgghbdojlbaaGreatDoorPkAA
import Derived.Test.YtjakgghbdojlbaaGreatDoorPkAH
import Derived.Test.YtjakgghbdojlbaaGreatDoorPkAI
import Derived.Test.YtjakgghbdojlbaaGreatDoorPkAO
import Derived.Test.YtjakgghbdojlbaaGreatDoorPkAP
import Derived.Test.YtjakgghbdojlbaaGreatDoorPkAT
import Derived.Test.YtjakgghbdojlbaaGreatDoorPkAV
import Derived.Test.YtjakgghbdojlbaaGreatDoorPkAW
import Derived.Test.YtjakgghbdojlbaaGreatDoorPkBC
import Derived.Test.YtjakgghbdojlbaaGreatDoorTk
namespace Go.Proofs.YtjakgghbdojlbaaGreatDoor
set_option linter.unusedVariables false
set_option linter.unusedSimpArgs false
set_option maxRecDepth 100000
open Go.RowKit Go.ChangeShapes Go.WideShapes
open Classical in
noncomputable def frmL(sz:Nat)(xs:List Int)(k:Nat):List Int:=
 if h:∃x:Fr,FitR (rowAt (spC (decide (55<=(sz:Int))) (cnt xs.length) fun j=>xs.getD j 0) k) (gnR (decide (55<=(sz:Int))) (fun j=>xs.getD j 0) k) sz x then padded (enc h.choose.F h.choose.n h.choose.T) sz else padded [] sz
def FmX(sz:Nat)(xs:List Int)(N:Nat)(L:Nat->Fr):Prop:=FmG sz (decide (55<=(sz:Int))) (fun j=>xs.getD j 0) (spC (decide (55<=(sz:Int))) (cnt xs.length) fun j=>xs.getD j 0) N L
theorem enc_same{F G T U:Nat->Int}{n m:Nat}(h:sameP F n T G m U):enc F n T=enc G m U:=by
 obtain⟨rfl,h2,h3⟩:=h
 exact enc_congr h3 h2
theorem frmL_is{sz:Nat}{xs:List Int}{N:Nat}{L:Nat->Fr}(h:FmX sz xs N L)(i:Nat)(hi:i<N):frmL sz xs i=padded (enc (L i).F (L i).n (L i).T) sz:=by
 unfold frmL
 have hx:∃x:Fr,FitR (rowAt (spC (decide (55<=(sz:Int))) (cnt xs.length) fun j=>xs.getD j 0) i) (gnR (decide (55<=(sz:Int))) (fun j=>xs.getD j 0) i) sz x:=⟨L i,(h i hi).1⟩
 rw [dif_pos hx,enc_same (fitR_same hx.choose_spec (h i hi).1)]
theorem frmL_len(sz:Nat)(xs:List Int)(k:Nat):(frmL sz xs k).length=sz:=by
 unfold frmL
 split <;> exact length_padded _ _
theorem frmL_byt(sz:Nat)(xs:List Int)(k:Nat):isBytes (frmL sz xs k):=by
 unfold frmL
 split <;> exact isBytes_padded _ _
structure SmpV(S:Smp):Prop where
 n1:1<=S.n
 n2:S.n<=2
 m:∀k,k<S.n->S.M k=S.M 0
 m1:1<=S.M 0
 m2:S.M 0<=1048576
 x:∀k,k<S.n->∀j,j<S.M k->-32768<=S.X k j/\S.X k j<=32767
 ok:(smM S).OkR
theorem Smp.check_v{S:Smp}(h:S.check=0):SmpV S:=by
 unfold Smp.check at h
 by_cases h1:wrongI S.s S.len S.r S.n S.lp S.a S.b≠0
 ·rw [if_pos h1] at h;omega
 rw [if_neg h1] at h
 by_cases h2:S.odd
 ·rw [if_pos h2] at h;omega
 rw [if_neg h2] at h
 by_cases h3:S.far
 ·rw [if_pos h3] at h;omega
 have hok:(smM S).OkR:=(Mt.ok_iff _).1 (by unfold Mt.ok;exact Classical.not_not.1 h1)
 have a1:=hok.c1
 have a2:=hok.c2
 have a3:=hok.n1
 have a4:=hok.n2
 have c1:(smM S).c=S.n:=rfl
 have c2:(smM S).n=S.len:=rfl
 rw [c1] at a1 a2
 rw [c2] at a3 a4
 have hlen:S.len=S.M 0:=by unfold Smp.len;rw [if_neg (by omega)]
 rw [hlen] at a3 a4
 have hm:∀k,k<S.n->S.M k=S.M 0:=fun k hk=>by
  by_cases e:S.M k=S.M 0
  ·exact e
  ·exact absurd ⟨k,hk,e⟩ h2
 refine⟨by omega,by omega,hm,by omega,by omega,fun k hk j hj=>?_,hok⟩
 by_cases e:S.X k j < -32768\/32767<S.X k j
 ·exact absurd ⟨k,hk,j,hj,e⟩ h3
 ·omega
def chL(S:Smp)(c:Nat):List Int:=lst (S.X c) (S.M c)
theorem chL_len(S:Smp)(c:Nat):(chL S c).length=S.M c:=lst_len _ _
noncomputable def frB(sz:Nat)(S:Smp)(k:Nat):Nat->Int:=fun j=>(frmL sz (chL S (k%S.n)) (k/S.n)).getD j 0
theorem frB_byt(sz:Nat)(S:Smp)(k:Nat):Byt (frB sz S k) sz:=fun j hj=>by
 have h:=frmL_byt sz (chL S (k%S.n)) (k/S.n)
 unfold frB
 have hl:=frmL_len sz (chL S (k%S.n)) (k/S.n)
 rw [show (frmL sz (chL S (k%S.n)) (k/S.n)).getD j 0=(frmL sz (chL S (k%S.n)) (k/S.n))[j]'(by omega) by simp [List.getD,show j<(frmL sz (chL S (k%S.n)) (k/S.n)).length by omega]]
 exact h _ (List.getElem_mem _)
theorem smM_fr{S:Smp}(h:SmpV S):(smM S).fr=cnt (S.M 0)*S.n:=by
 have hlen:S.len=S.M 0:=by unfold Smp.len;rw [if_neg (by have:=h.n1;omega)]
 unfold Mt.fr
 show cnt (S.len).toNat*((S.n:Int)).toNat=_
 rw [hlen]
 simp
theorem ch_slI{w:World}{S:Smp}(h:SmOk w S)(c:Nat)(hc:c<S.n):SlI w .i64 (.slice (S.Q c) (S.M c) (S.C c)) (chL S c):=by
 obtain⟨a,b,r⟩:=h.rows.row c hc
 refine⟨S.Q c,S.C c,by rw [chL_len],fun hne=>?_⟩
 have h0:0<S.M c:=by
  rcases Nat.eq_zero_or_pos (S.M c) with e | e
  ·unfold chL at hne;rw [e] at hne;exact absurd rfl hne
  ·exact e
 obtain⟨g,o,h1,h2,h3⟩:=r h0
 refine⟨g,o,h1,h2,by rw [chL_len];exact a,b,fun i hi=>?_⟩
 rw [chL_len] at hi
 unfold chL
 rw [h3 i hi,lst_getD _ _ _ hi]
theorem ch_samP{S:Smp}(h:SmpV S)(c:Nat)(hc:c<S.n):samP (chL S c):=lst_mem (fun j hj=>h.x c hc j hj)
theorem number_any(m:Mt)(C ch bl:Nat)(w:World)(hC:m.c=C)(h2:C<=2)(hb:bl<=65536)(hc:ch<=2):
  Calls Tryz.prog 71 #[.agg m.cells,.int .i64 ch,.int .i64 bl] w fun e w'=>e = .returned (.int .i64 ((bl*C+ch:Nat):Int))/\Old w w':=by
 have hp:bl*C<=65536*2:=Nat.mul_le_mul hb h2
 obtain⟨u,hu⟩:∃u,u=bl*C:=⟨_,rfl⟩
 have e1:(bl:Int)*m.c=u:=by rw [hC,hu,Int.natCast_mul]
 have e2:wrap64 ((bl:Int)*m.c)=u:=by rw [e1];exact IntWalk.wrap64_in _ (by omega)
 have HO:=zH (Old.alloc w (.cells m.cells 45))
 rw [←hu] at hp ⊢
 clear hu hC e1
 unfold Mt.cells at *
 go_enter Tryz.func71,Tryz.ntmps71
 go_wp2_with fail
 go_ret
 exact⟨ret_int (by omega),HO.out⟩
theorem Tryz.info_rows:(Tryz.prog.info? 24).map (fun i=>(i.zero,i.size,i.bytes))=some (some (.slice none 0 0),1,24):=by kernel_rfl
theorem made_sl(n:Nat):madeCells (Value.slice none 0 0:Value).cells n=rowN n (fun _=>.slice none 0 0):=by
 apply Array.ext_getElem?
 intro i
 by_cases hi:i<n
 ·rw [rowN_at n _ i hi]
  have h1:(Value.slice none 0 0:Value).cells.size=1:=rfl
  simp [madeCells,hi,Value.cells,Nat.mod_one]
 ·rw [Array.getElem?_eq_none (by rw [size_madeCells];omega),Array.getElem?_eq_none (by rw [rowN_size];omega)]
theorem make_rows(n:Nat)(hn:n<=1099511627776)(w:World):(Instr.makeSlice 31 (.int .i64 n) (.int .i64 n)).run Tryz.prog w = .ok (.slice (some ⟨w.heap.size,0,none⟩) n n) (w.alloc (.cells (rowN n (fun _=>.slice none 0 0)) 24)):=by
 obtain⟨i,hi,hz0,hz1,hz2⟩:=info_parts Tryz.info_rows
 rw [run_make w _ _ i _ Tryz.underlying31 hi hz0 .i64 .i64 n n (by omega) (by omega) (by rw [hz2];omega) (by omega),hz1,Int.toNat_natCast,Nat.mul_one,made_sl n]
structure FwS(w:World)(g fr sz:Nat)(B:Nat->Nat->Int)(P:Nat->Prop)(W:World):Prop where
 lt:g<W.heap.size
 ge:w.heap.size<=g
 there:W.there g 0 fr
 cell:∀k,k<fr->P k->∃gb ob C,W.cell? ⟨g,k,none⟩=some (.slice (some ⟨gb,ob,none⟩) sz C)/\sz<=C/\C<=maxLen/\gb≠g/\w.heap.size<=gb/\gb<W.heap.size/\∀j,j<sz->W.cell? ⟨gb,ob+j,none⟩=some (.int .u8 (B k j))
 old:Old w W
theorem FwS.on{w W W':World}{g fr sz:Nat}{B:Nat->Nat->Int}{P:Nat->Prop}(h:FwS w g fr sz B P W)(o:Old W W'):FwS w g fr sz B P W' where
 lt:=Nat.lt_of_lt_of_le h.lt o.size
 ge:=h.ge
 there:=fun j hj=>by
  have:=h.there j hj
  exact⟨by rw [o.cell (a:=⟨g,0+j,none⟩) h.lt];exact this.1,by rw [Kept.frozen o (a:=⟨g,0+j,none⟩) h.lt];exact this.2⟩
 cell:=fun k hk hP=>by
  obtain⟨gb,ob,C,h1,h2,h3,h4,h4',h5,h6⟩:=h.cell k hk hP
  exact⟨gb,ob,C,(o.cell (a:=⟨g,k,none⟩) h.lt).trans h1,h2,h3,h4,h4',Nat.lt_of_lt_of_le h5 o.size,fun j hj=>(o.cell (a:=⟨gb,ob+j,none⟩) h5).trans (h6 j hj)⟩
 old:=h.old.trans o
theorem FwS.put{w W:World}{g fr sz:Nat}{B:Nat->Nat->Int}{P:Nat->Prop}(h:FwS w g fr sz B P W)(k:Nat)(hk:k<fr)(gb ob C:Nat)(h1:sz<=C)(h2:C<=maxLen)(h3:gb≠g)(h3':w.heap.size<=gb)(h4:gb<W.heap.size)(h5:∀j,j<sz->W.cell? ⟨gb,ob+j,none⟩=some (.int .u8 (B k j))):
  FwS w g fr sz B (fun q=>P q\/q=k) (W.setCell ⟨g,k,none⟩ (.slice (some ⟨gb,ob,none⟩) sz C)):=by
 have hK:=Kept.setCell (X:=fun q=>q≠g) W (a:=⟨g,k,none⟩) (fun e=>e rfl) (.slice (some ⟨gb,ob,none⟩) sz C)
 have hck:=(h.there k hk).1
 rw [Nat.zero_add] at hck
 obtain⟨u,hu⟩:=Option.isSome_iff_exists.1 hck
 have hnew:=World.cell?_setCell_same W (a:=⟨g,k,none⟩) (.slice (some ⟨gb,ob,none⟩) sz C) hu
 have hoth:∀q,q≠k->(W.setCell ⟨g,k,none⟩ (.slice (some ⟨gb,ob,none⟩) sz C)).cell? ⟨g,q,none⟩=W.cell? ⟨g,q,none⟩:=fun q hq=>World.cell?_setCell_other _ _ _ _ (fun e=>by injection e with _ e2;exact hq e2.symm)
 refine⟨by have:=h.lt;simpa [World.setCell] using this,h.ge,fun j hj=>?_,fun q hq hP=>?_,h.old.after hK fun q hq=>by have:=h.ge;omega⟩
 ·have hj:=h.there j hj
  rw [Nat.zero_add] at hj ⊢
  refine⟨?_,by rw [World.frozen?_setCell];exact hj.2⟩
  by_cases e:j=k
  ·rw [e,hnew];rfl
  ·rw [hoth j e];exact hj.1
 ·by_cases e:q=k
  ·subst e
   exact⟨gb,ob,C,hnew,h1,h2,h3,h3',by have:=h4;simpa [World.setCell] using this,fun j hj=>(hK.cell (a:=⟨gb,ob+j,none⟩) h3).trans (h5 j hj)⟩
  ·obtain⟨gb',ob',C',a1,a2,a3,a4,a4',a5,a6⟩:=h.cell q hq (hP.elim id fun e'=>absurd e' e)
   exact⟨gb',ob',C',by rw [hoth q e];exact a1,a2,a3,a4,a4',by simpa [World.setCell] using a5,fun j hj=>(hK.cell (a:=⟨gb',ob'+j,none⟩) a4).trans (a6 j hj)⟩
theorem FwS.imp{w W:World}{g fr sz:Nat}{B:Nat->Nat->Int}{P P':Nat->Prop}(h:FwS w g fr sz B P W)(e:∀k,k<fr->P' k->P k):FwS w g fr sz B P' W:=⟨h.lt,h.ge,h.there,fun k hk hP=>h.cell k hk (e k hk hP),h.old⟩
theorem fw_nums(bl sz n c:Nat)(hb:bl<=65536)(hz:sz<=96):∃lo hi:Nat,lo=bl*sz/\hi=lo+sz /\
  (wrap64 ((bl:Int)*sz)=lo/\IntKind.i64.wrap ((bl:Int)*sz)=lo)/\∃kp:Int,(bl:Int)+1=kp/\IntKind.i64.wrap ((bl:Int)+1)=kp/\wrap64 ((bl:Int)+1)=kp/\IntKind.i64.wrap (kp*(sz:Int))=hi/\wrap64 (kp*(sz:Int))=hi:=by
 have h1:bl*sz<=65536*96:=Nat.mul_le_mul hb hz
 have h2:((bl:Int)+1)*(sz:Int)=((bl*sz+sz:Nat):Int):=by rw [Int.add_mul,Int.one_mul,←Int.natCast_mul];omega
 refine⟨_,_,rfl,rfl,⟨?_,?_⟩,_,rfl,?_,?_,?_,?_⟩
 ·rw [←Int.natCast_mul];exact IntWalk.wrap64_in _ (by omega)
 ·rw [←Int.natCast_mul];exact IntWalk.i64_in _ (by omega)
 ·exact IntWalk.i64_in _ (by omega)
 ·exact IntWalk.wrap64_in _ (by omega)
 ·rw [h2];exact IntWalk.i64_in _ (by omega)
 ·rw [h2];exact IntWalk.wrap64_in _ (by omega)
theorem mod_mul_add(bl n c:Nat)(hc:c<n):(bl*n+c)%n=c/\(bl*n+c)/n=bl:=by
 rw [Nat.mul_comm]
 exact⟨by rw [Nat.mul_add_mod,Nat.mod_eq_of_lt hc],by rw [Nat.mul_add_div (by omega),Nat.div_eq_of_lt hc,Nat.add_zero]⟩
theorem FwS.new{w V:World}(ho:Old w V)(fr sz:Nat)(B:Nat->Nat->Int)(hfr:fr<=1099511627776):FwS w V.heap.size fr sz B (fun _=>False) (V.alloc (.cells (rowN fr (fun _=>.slice none 0 0)) 24)) where
 lt:=by simp
 ge:=ho.size
 there:=fun j hj=>by
  rw [Nat.zero_add]
  exact⟨by rw [(cell_of_row _ _ _ _ _ _ (heap_alloc_new _ _)).trans (rowN_at fr _ j hj)];rfl,frozen_of_row _ _ _ _ _ (heap_alloc_new _ _)⟩
 cell:=fun k hk h=>h.elim
 old:=ho.alloc' _
theorem cb_at(sz:Nat)(L:Nat->Fr)(N bl j:Nat)(hbl:bl<N)(hj:j<sz):(cbytes sz L N).getD (bl*sz+j) 0=(padded (enc (L bl).F (L bl).n (L bl).T) sz).getD j 0:=by
 rw [←cbytes_row sz L bl N hbl]
 simp [List.getD_eq_getElem?_getD,List.getElem?_take,List.getElem?_drop,hj]
set_option maxHeartbeats 16000000 in
theorem framesOf_any(b sz:Nat)(S:Smp)(w:World)(hb:CoB w b sz)(h24:24<=sz)(h96:sz<=96)(hs:SmOk w S)(hv:SmpV S):
  Calls Tryz.prog 37 #[.pointer (some ⟨b,0,none⟩),.agg S.cells] w fun e w'=>∃g,e = .returned (.tuple #[.slice (some ⟨g,0,none⟩) (smM S).fr (smM S).fr,.int .i64 0])/\FwS w g (smM S).fr sz (frB sz S) (fun _=>True) w':=by
 obtain⟨bx,hbx⟩:∃b,b=w.heap.size:=⟨_,rfl⟩
 obtain⟨W0,hW0⟩:∃W,W=w.alloc (.cells S.cells 50):=⟨_,rfl⟩
 have ho0:Old w W0:=by rw [hW0];exact Old.alloc _ _
 have hsb:SmB W0 bx S:=by rw [hW0,hbx];exact SmB.new w S
 have hn1:=hv.n1
 have hn2:=hv.n2
 have hm1:=hv.m1
 have hm2:=hv.m2
 have hfr:=smM_fr hv
 have hfrb:=hv.ok.fr_le
 obtain⟨gd,od,hSp,hgd,hcd⟩:=hs.rows.cell (by omega)
 have HSp:=zH hSp
 have HGd:=zH (And.intro hgd hcd)
 clear hSp hgd hcd
 have HSB:=zH hsb
 have HO0:=zH ho0
 have HV:=zH hv
 have HS:=zH hs
 have HCo:=zH hb
 have HMe:=zH (Meta_any S W0 (hs.old ho0))
 rw [smM_cells] at HMe
 obtain⟨X,hX⟩:∃X,X=(smM S).cells:=⟨_,rfl⟩
 have HFs:=zH (fun V=>Frames_any (smM S) hv.ok V)
 rw [←hX] at HMe HFs
 have HX:=zH hX
 have HX9:Hid (X.size=9):=zH (by rw [hX];rfl)
 have HX1:Hid (X.all (·.oneCell')=true):=zH (by rw [hX];exact Mt.one _)
 have Hs9:Hid ((Tryz.prog.info? 45).map (·.size)=some 9):=zH (by kernel_rfl)
 obtain⟨fr,hfrr⟩:∃f,f=(smM S).fr:=⟨_,rfl⟩
 rw [←hfrr] at hfr hfrb HFs ⊢
 obtain⟨N,hN⟩:∃N,N=cnt (S.M 0):=⟨_,rfl⟩
 rw [←hN] at hfr
 have hN1:1<=N/\N<=65536:=by rw [hN];unfold cnt;omega
 have HNf:=zH (And.intro hN (And.intro hfr (And.intro h24 h96)))
 obtain⟨c0,c1,c2,c3,c4,c5⟩:=hsb.at
 have hW0':W0=w.alloc (.cells #[.string S.s,.int .i64 S.r,.bool S.lp,.int .i64 S.a,.int .i64 S.b,.slice S.p S.n S.c] 50):=hW0
 have HW0:=zH hW0'
 have HBX:=zH hbx
 have HC5:=zH c5
 unfold Smp.val at HMe
 unfold Smp.cells at HMe ⊢
 clear hbx hW0 hW0' ho0 hsb hs hv hb hX hfrr hN h24 h96 hm1 hm2 hfr
 go_enter Tryz.func37,Tryz.ntmps37
 go_upto_region 1 with (fail)
 rw [←HW0.out,←HBX.out]
 go_wp2_with fail
 refine HMe.out.mono ?_
 rintro e V1 ⟨rfl,ho⟩
 have HO1:=zH (HO0.out.trans ho)
 have HSB1:=zH (HSB.out.old ho)
 clear ho HMe HSB c0 c1 c2 c3 c4 c5 HO0
 have HSz:=zH (CSize_any b sz V1 (HCo.out.old HO1.out))
 go_wp2_with fail
 refine HSz.out.mono ?_
 rintro e V1' ⟨rfl,rfl⟩
 clear HSz
 obtain⟨bm,hbm⟩:∃b,b=V1.heap.size:=⟨_,rfl⟩
 obtain⟨W2,hW2⟩:∃W,W=V1.alloc (.cells X 45):=⟨_,rfl⟩
 have HMB:=zH (show W2.heap[bm]?=some (.cells X 45 (0,0)) by rw [hW2,hbm];exact heap_alloc_new _ _)
 have HO2:=zH (show Old w W2 by rw [hW2];exact HO1.out.alloc' _)
 have HSB2:=zH (show SmB W2 bx S by rw [hW2];exact HSB1.out.old (Old.alloc _ _))
 have HW2:=zH hW2
 have HBM:=zH hbm
 have HBne:Hid (bx<bm):=zH (by have:=lt_of_block HSB1.out;omega)
 clear hbm hW2 HSB1
 go_wp2_with (first
  | (with_reducible refine wpList_store_row rfl 45 _ _ rfl V1.heap.size X rfl rfl 45 _ (heap_alloc_new _ _) (by rw [HX9.out];exact Hs9.out) (by rw [HX9.out];kernel_rfl) HX1.out ?_;rw [World.setRow_alloc_new,←HW2.out,←HBM.out])
  | (with_reducible refine wpList_load_row rfl 45 _ rfl bm rfl 45 X (0,0) _ HMB.out Tryz.underlying45 rfl (by rw [HX9.out];exact Hs9.out) ?_))
 refine(HFs.out _).mono ?_
 rintro e V3 ⟨rfl,ho⟩
 have HO3:=zH (HO2.out.trans ho)
 have HSB3:=zH (HSB2.out.old ho)
 have HMB3:=zH ((ho.block _ (lt_of_block HMB.out)).trans HMB.out)
 clear ho HFs HO2 HSB2 HMB HW2 HBM HO1
 have hn1:=HV.out.n1
 have hmk:=make_rows fr (by omega) V3
 obtain⟨g,hg⟩:∃g,g=V3.heap.size:=⟨_,rfl⟩
 obtain⟨W4,hW4⟩:∃W,W=V3.alloc (.cells (rowN fr (fun _=>.slice none 0 0)) 24):=⟨_,rfl⟩
 rw [←hW4,←hg] at hmk
 have HF4:Hid (FwS w g fr sz (frB sz S) (fun k=>k%S.n<0) W4):=zH (by rw [hW4,hg];exact(FwS.new HO3.out fr sz _ (by omega)).imp fun k _ h=>by omega)
 have HS4:=zH (show SmB W4 bx S by rw [hW4];exact HSB3.out.old (Old.alloc _ _))
 have HM4:Hid (W4.heap[bm]?=some (.cells X 45 (0,0))):=zH (by rw [hW4];exact((Old.alloc V3 _).block bm (lt_of_block HMB3.out)).trans HMB3.out)
 have HGn:Hid (bx≠g/\bm≠g):=zH (by have h1:=lt_of_block HSB3.out;have h2:=lt_of_block HMB3.out;omega)
 have c5:W4.cell? ⟨bx,5,none⟩=some (.slice (some ⟨gd,od,none⟩) S.n S.c):=by rw [←HSp.out];exact HS4.out.at.2.2.2.2.2
 clear hW4 hg HO3 HSB3 HMB3 HBne
 go_wp2_with fail
 clear c5 hmk
 go_loopw [25] (fun iv wr=>∃c:Nat,c<=S.n/\iv = .int .i64 c/\Hid (FwS w g fr sz (frB sz S) (fun k=>k%S.n<c) wr)/\Hid (SmB wr bx S)/\Hid (wr.heap[bm]?=some (.cells X 45 (0,0)))) (fun i _=>S.n-(intOf i).toNat)
 case atStart=>exact⟨0,Nat.zero_le _,by go_num,HF4,HS4,HM4⟩
 case round=>
  clear HF4 HS4 HM4
  obtain⟨c,hc,rfl,HF,HSb,HMb⟩:=hrel
  by_cases hcn:c<S.n
  ·obtain⟨xs,hxs⟩:∃xs,xs=chL S c:=⟨_,rfl⟩
   have hsl:=(ch_slI HS.out c hcn).old HF.out.old
   have hMc:=HV.out.m c hcn
   have hm2:=HV.out.m2
   have hcnt:cnt (S.M c)=N:=by rw [hMc];exact HNf.out.1.symm
   have hCF:=CFrames_any b sz (S.Q c) (S.M c) (S.C c) (chL S c) wr (HCo.out.old HF.out.old) (by have:=HNf.out.2.2.1;omega) (by have:=HNf.out.2.2.2;omega) hsl (ch_samP HV.out c hcn) (by omega)
   rw [hcnt] at hCF
   have HCF:=zH hCF
   have ct:wr.cell? ⟨gd,od+c,none⟩=some (.slice (S.Q c) (S.M c) (S.C c)):=(HF.out.old.cell (a:=⟨gd,od+c,none⟩) HGd.out.1).trans (HGd.out.2 c hcn)
   have hlen:(chL S c).length=S.M c:=chL_len S c
   have HFx:Hid (∀L,FmG sz (decide (55<=(sz:Int))) (fun j=>(chL S c).getD j 0) (spC (decide (55<=(sz:Int))) N fun j=>(chL S c).getD j 0) N L->FmX sz (chL S c) N L):=zH fun L h=>by
    unfold FmX
    rw [hlen,hcnt]
    exact h
   have HSa:Hid (∀q,-32768<=(chL S c).getD q 0/\(chL S c).getD q 0<=32768):=zH fun q=>by have:=samP_at (ch_samP HV.out c hcn) q;omega
   obtain⟨Q,hQ⟩:∃Q,Q=S.Q c:=⟨_,rfl⟩
   obtain⟨M,hM⟩:∃M,M=S.M c:=⟨_,rfl⟩
   obtain⟨C,hC⟩:∃C,C=S.C c:=⟨_,rfl⟩
   rw [←hQ,←hM,←hC] at ct HCF
   have i0:(0:Int)<=c:=by omega
   have i1:(c:Int)<S.n:=by omega
   clear hsl hMc hcnt hCF hlen hQ hM hC hxs
   go_wp2_with fail
   refine HCF.out.mono ?_
   rintro e V ⟨fb,L,rfl,hfs,hfm,ho⟩
   have HFV:=zH (HF.out.on ho)
   have HSV:=zH (HSb.out.old ho)
   have HMV:=zH ((ho.block _ (lt_of_block HMb.out)).trans HMb.out)
   have hmay:=fun i hi=>fmG_may HSa.out (by have:=HNf.out.2.2.1;omega) hfm i hi
   have hCB:=CBytes_any b sz (some ⟨fb,0,none⟩) N N L _ V (HCo.out.old HFV.out.old) HNf.out.2.2.1 HNf.out.2.2.2 hfs (fun i hi=>(hmay i hi).1) (fun i hi=>(hmay i hi).2.1) (fun i hi=>(hmay i hi).2.2) (by omega)
   have HCB:=zH hCB
   have HX2:=zH (HFx.out L hfm)
   clear ct ho hfs hfm hmay hCB HF HSb HMb HCF HFx HSa
   go_wp2_with fail
   refine HCB.out.mono ?_
   rintro e V2 ⟨v,rfl,hown,ho⟩
   have HFV2:=zH (HFV.out.on ho)
   have HSV2:=zH (HSV.out.old ho)
   have HMV2:=zH ((ho.block _ (lt_of_block HMV.out)).trans HMV.out)
   have hN1':=hN1.1
   have hT0:24<=N*sz:=by have h1:=HNf.out.2.2.1;have h2:1*sz<=N*sz:=Nat.mul_le_mul_right sz hN1.1;omega
   have hTb:N*sz<=65536*96:=Nat.mul_le_mul hN1.2 HNf.out.2.2.2
   obtain⟨g2,cap2,rfl,hgw,hg2,hg3,hl2,hc2,hcells⟩:∃g2 cap2,v = .slice (some ⟨g2,0,none⟩) (N*sz) cap2/\w.heap.size<=g2/\g2≠g/\g2<V2.heap.size/\N*sz<=cap2/\cap2<=maxLen/\∀i,i<N*sz->V2.cell? ⟨g2,i,none⟩=some (.int .u8 ((cbytes sz L N).getD i 0)):=by
    have hl:=cbytes_len sz L N
    rcases hown.shape with ⟨_,h0⟩ | ⟨g2,cap2,hv,hX2,hg2,h1,h2,h3⟩
    ·omega
    ·rw [hl] at hv h1
     have hX2:¬g2<V.heap.size:=hX2
     have:=HFV.out.lt
     have:=HFV.out.old.size
     refine⟨g2,cap2,hv,by omega,by omega,hg2,h1,h2,fun i hi=>h3 i _ ?_⟩
     rw [List.getElem?_map,List.getElem?_eq_getElem (by omega)]
     simp [List.getD,show i<(cbytes sz L N).length by omega]
   obtain⟨T,hT⟩:∃T,T=N*sz:=⟨_,rfl⟩
   rw [←hT] at hT0 hTb hl2 hcells ⊢
   have HT:=zH hT
   have HCl:=zH (And.intro hg2 (And.intro hl2 (And.intro hT0 (And.intro hTb (And.intro hc2 hgw)))))
   have HV2:=zH (show FwS w g fr sz (frB sz S) (fun k=>k%S.n<c\/(k%S.n=c/\k/S.n<0)) V2 from HFV2.out.imp fun k _ h=>h.elim id fun h=>absurd h.2 (Nat.not_lt_zero _))
   have HU2:Hid (g2<V2.heap.size/\∀i,i<T->V2.cell? ⟨g2,i,none⟩=some (.int .u8 ((cbytes sz L N).getD i 0))):=zH ⟨hg3,hcells⟩
   clear hown ho hT hcells hgw hg2 hg3 hl2 hc2 hT0 hTb HFV HSV HMV HFV2 HCB
   obtain⟨wo,rfl⟩:∃V,V=V2:=⟨_,rfl⟩
   go_wp2_with fail
   go_loopw [50] (fun iv wr=>∃bl:Nat,bl<=N/\iv = .int .i64 bl/\Hid (FwS w g fr sz (frB sz S) (fun k=>k%S.n<c\/(k%S.n=c/\k/S.n<bl)) wr)/\Hid (SmB wr bx S)/\Hid (wr.heap[bm]?=some (.cells X 45 (0,0)))/\Hid (g2<wr.heap.size/\∀i,i<T->wr.cell? ⟨g2,i,none⟩=some (.int .u8 ((cbytes sz L N).getD i 0)))) (fun i _=>N-(intOf i).toNat)
   case atStart=>exact⟨0,Nat.zero_le _,by go_num,HV2,HSV2,HMV2,HU2⟩
   case round=>
    clear HV2 HSV2 HMV2 HU2
    obtain⟨bl,hbl,rfl,HF,HSb,HMb,HU⟩:=hrel
    by_cases hbn:bl<N
    ·obtain⟨lo,hi,hlo,hhi,hE1,kp,hkp,f1,f2,f3,f4⟩:=fw_nums bl sz S.n c (by omega) HNf.out.2.2.2
     have HE:=zH (And.intro hE1 (And.intro f1 (And.intro f2 (And.intro f3 f4))))
     clear f1 f2 f3 f4 hE1 hkp
     obtain⟨r,hr⟩:∃r,r=bl*S.n+c:=⟨_,rfl⟩
     have hrf:r<fr:=by
      have h1:(bl+1)*S.n<=N*S.n:=Nat.mul_le_mul_right _ hbn
      have h2:=HNf.out.2.1
      rw [Nat.add_mul,Nat.one_mul] at h1
      omega
     have hhT:hi<=T:=by
      have h1:(bl+1)*sz<=N*sz:=Nat.mul_le_mul_right _ hbn
      have h2:=HT.out
      rw [Nat.add_mul,Nat.one_mul] at h1
      omega
     have hNu:∀V,Calls Tryz.prog 71 #[.agg X,.int .i64 c,.int .i64 bl] V fun e w'=>e = .returned (.int .i64 (r:Nat))/\Old V w':=fun V=>by
      rw [HX.out,hr]
      exact number_any (smM S) S.n c bl V rfl (by omega) (by omega) (by omega)
     have HNu:=zH hNu
     obtain⟨C3,hC3⟩:∃c,c=cap2-lo:=⟨_,rfl⟩
     have hcl:=HCl.out
     have hsz:=HNf.out.2.2.1
     have hcut:∀w',(Instr.sliceAt 24 (.slice (some ⟨g2,0,none⟩) T cap2) (some (.int .i64 lo)) (some (.int .i64 hi)) none).run Tryz.prog w' = .ok (.slice (some ⟨g2,lo,none⟩) sz C3) w':=fun w'=>by
      have:=cut_lh g2 0 T cap2 lo hi (by omega) (by omega) w'
      rw [Nat.zero_add,←hC3,show hi-lo=sz by omega] at this
      exact this
     have HPut:Hid (∀V,Old wr V->V.heap.size<=maxLen\/True->FwS w g fr sz (frB sz S) (fun k=>k%S.n<c\/(k%S.n=c/\k/S.n<bl+1)) (V.setCell ⟨g,r,none⟩ (.slice (some ⟨g2,lo,none⟩) sz C3))):=zH fun V hV _=>by
      have hh:=HF.out.on hV
      obtain⟨x1,x2⟩:=mod_mul_add bl S.n c hcn
      rw [←hr] at x1 x2
      refine(hh.put r hrf g2 lo C3 (by omega) (by omega) hcl.1 hcl.2.2.2.2.2 (Nat.lt_of_lt_of_le HU.out.1 hV.size) (fun j hj=>?_)).imp (fun q hq hP=>?_)
      ·rw [(hV.cell (a:=⟨g2,lo+j,none⟩) HU.out.1).trans (HU.out.2 (lo+j) (by omega)),hlo,cb_at sz L N bl j hbn hj]
       unfold frB
       rw [x1,x2,frmL_is HX2.out bl hbn]
      ·by_cases e:q=r
       ·exact Or.inr e
       ·refine Or.inl (hP.elim Or.inl fun h=>Or.inr ⟨h.1,?_⟩)
        by_cases e2:q/S.n=bl
        ·have:=Nat.div_add_mod q S.n
         rw [e2,h.1,Nat.mul_comm] at this
         omega
        ·omega
     have HRf:=zH hrf
     have i0:(0:Int)<=r:=by omega
     have i1:(r:Int)<fr:=by omega
     have HMd:Hid (wr.drew.heap[bm]?=some (.cells X 45 (0,0))):=zH HMb.out
     clear hNu hlo hhi hr hrf hhT hC3 hcl hsz
     go_wp2_with fail
     obtain⟨⟨e1,e2⟩,f1,f2,f3,f4⟩:=HE.out
     refine wp_region_held_drew (S:=(fun V=>V.heap[bm]?=some (.cells X 45 (0,0)))) (by kernel_rfl) ?_ (fun hHeld=>?_)
     ·(try dsimp only);exact HMd.out
     refine wpU 0 rfl ?_;try simp only [Act.put,sA,sZ,sS]
     refine wpT 1 (v:=.agg X) rfl (yieldsIf_load_row (by kernel_rfl) 45 (.tmp 6) rfl bm rfl 45 X (0,0) _ (fun _ h=>h) Tryz.underlying45 rfl (by rw [HX9.out];exact Hs9.out)) (by assumption) ?_;try simp only [Act.put,sA,sZ,sS]
     refine wpU 2 rfl ?_;try simp only [Act.put,sA,sZ,sS]
     refine wpU 3 rfl ?_;try simp only [Act.put,sA,sZ,sS]
     refine wpU 5 rfl ?_;try simp only [Act.put,sA,sZ,sS]
     refine wpU 6 rfl ?_;try simp only [Act.put,sA,sZ,sS]
     refine wpU 7 rfl ?_;try simp only [Act.put,sA,sZ,sS]
     refine wpU 8 rfl ?_;try simp only [Act.put,sA,sZ,sS]
     refine wpU 9 rfl ?_;try simp only [Act.put,sA,sZ,sS]
     refine wpU 10 rfl ?_;try simp only [Act.put,sA,sZ,sS]
     refine wpU 11 rfl ?_;try simp only [Act.put,sA,sZ,sS]
     refine wpU 12 rfl ?_;try simp only [Act.put,sA,sZ,sS]
     refine wpU 13 rfl ?_;try simp only [Act.put,sA,sZ,sS]
     refine wpAnyH_ready (rs:=[4]) (by kernel_rfl) (by simp) ?_
     refine AllReadyH.cons (o:=⟨_,_,_,_,_,_⟩) (by rfl) ?_ AllReadyH.nil
     intro K hK
     go_simp
     refine(HNu.out _).mono ?_
     rintro e V ⟨rfl,o1⟩
     have HV1:=zH ((Old.drew (Old.refl wr)).trans o1)
     clear o1
     go_wp2_with fail
     have HMV:Hid (V.heap[bm]?=some (.cells X 45 (0,0))):=zH ((HV1.out.block _ (lt_of_block HMb.out)).trans HMb.out)
     refine hK.out _ _ ?_ (fun hHeld=>?_)
     ·(try dsimp only);exact HMV.out
     clear hK K
     try simp only [Act.put,sA,sZ,sS]
     refine wpU 14 rfl ?_;try simp only [Act.put,sA,sZ,sS]
     have hth:=(HF.out.on HV1.out).there r HRf.out
     rw [Nat.zero_add] at hth
     obtain⟨u,ck⟩:=Option.isSome_iff_exists.1 hth.1
     have fk:V.frozen? ⟨g,r,none⟩=false:=hth.2
     obtain⟨W5,hW5⟩:∃W,W=V.setCell ⟨g,r,none⟩ (.slice (some ⟨g2,lo,none⟩) sz C3):=⟨_,rfl⟩
     have hK:=Kept.setCell (X:=fun q=>q≠g) V (a:=⟨g,r,none⟩) (fun e=>e rfl) (.slice (some ⟨g2,lo,none⟩) sz C3)
     rw [←hW5] at hK
     have HP:=zH (HPut.out V HV1.out (Or.inr trivial))
     rw [←hW5] at HP
     have HM5:Hid (W5.heap[bm]?=some (.cells X 45 (0,0))):=zH ((hK.block bm HGn.out.2).trans HMV.out)
     have HS5:=zH (show SmB W5 bx S from(hK.block bx HGn.out.1).trans (HSb.out.old HV1.out))
     have HU5:Hid (g2<W5.heap.size/\∀i,i<T->W5.cell? ⟨g2,i,none⟩=some (.int .u8 ((cbytes sz L N).getD i 0))):=zH ⟨by
      have h1:=HU.out.1
      have h2:=HV1.out.size
      rw [hW5,World.size_setCell]
      omega,fun i hi=>(hK.cell (a:=⟨g2,i,none⟩) HCl.out.1).trans ((HV1.out.cell (a:=⟨g2,i,none⟩) HU.out.1).trans (HU.out.2 i hi))⟩
     have HW5:=zH hW5
     clear hth hK hW5 HPut HNu HSb HMb HF HU HV1 HMd
     refine wpAnyH_ready (rs:=[15]) (by kernel_rfl) (by simp) ?_
     refine AllReadyH.cons (o:=⟨_,_,_,_,_,_⟩) (by rfl) ?_ AllReadyH.nil
     intro K hK
     go_simp
     rw [←HW5.out]
     refine hK.out _ _ ?_ (fun hHeld=>?_)
     ·(try dsimp only);exact HM5.out
     clear hK K
     try simp only [Act.put,sA,sZ,sS]
     refine wpAnyH_done (by kernel_rfl) ?_ _
     clear e1 e2 f1 f2 f3 f4 ck fk hcut
     go_wp2_with fail
     go_roundw
     case rel=>exact⟨bl+1,by omega,by go_num,HP,HS5,HM5,HU5⟩
     case measure=>simp [intOf];omega
    ·have HE:=zH (show FwS w g fr sz (frB sz S) (fun k=>k%S.n<c+1) wr from HF.out.imp fun k hk h=>by
      have h3:=HNf.out.2.1
      have h2:k/S.n<N:=Nat.div_lt_of_lt_mul (by rw [Nat.mul_comm];omega)
      omega)
     have hend:¬((bl:Int)<(N:Int)):=by omega
     clear HF HU
     go_wp2_with fail
     go_roundw
     case rel=>exact⟨c+1,by omega,by go_num,HE,HSb,HMb⟩
     case measure=>simp [intOf];omega
  ·have HE:=zH (show FwS w g fr sz (frB sz S) (fun _=>True) wr from HF.out.imp fun k hk h=>by
    have:=Nat.mod_lt k (show 0<S.n by omega)
    omega)
   have hend:¬((c:Int)<(S.n:Int)):=by omega
   clear HF HSb HMb
   go_wp2_with fail
   go_ret2
   exact⟨g,rfl,HE.out⟩
theorem FrtS.lift{v w:World}{g N:Nat}{F:Nat->Int}{W:World}(h:FrtS w g N F W)(o:Old v w):FrtS v g N F W:=⟨h.row,Nat.le_trans o.size h.ge,o.trans h.old⟩
theorem LayS.lift{v w:World}{g N:Nat}{f:Nat->Nat}{sz n:Nat}{B:Nat->Nat->Int}{H:Nat->Int}{k:Nat}{W:World}(h:LayS w g N f sz n B H k W)(o:Old v w):LayS v g N f sz n B H k W:=by
 obtain⟨F,h1,h2⟩:=h
 exact⟨F,h1.lift o,h2⟩
theorem BldR.lift{v w:World}{sz n K:Nat}{D:Nat->Mt}{B:Nat->Nat->Int}{er:Int}{e:Ending}{w':World}(h:BldR w sz n K D B er e w')(o:Old v w):BldR v sz n K D B er e w':=by
 rcases h with ⟨h1,h2,h3⟩ | ⟨h1,g,h2,h3⟩
 ·exact .inl ⟨h1,h2,o.trans h3⟩
 ·exact .inr ⟨h1,g,h2,h3.lift o⟩
def mtsD(Z:Nat->Smp):Nat->Mt:=fun i=>smM (Z i)
noncomputable def BTo(sz:Nat)(Z:Nat->Smp):Nat->Nat->Nat->Int
 | 0=>fun _ _=>0
 | k+1=>fun j=>if j<offTo (frD (mtsD Z)) k then BTo sz Z k j else frB sz (Z k) (j-offTo (frD (mtsD Z)) k)
theorem BTo_byt(sz:Nat)(Z:Nat->Smp)(k j:Nat):Byt (BTo sz Z k j) sz:=by
 induction k generalizing j with
 | zero=>intro i _;exact⟨by show (0:Int)<=0;omega,by show (0:Int)<256;omega⟩
 | succ k ih=>
  show Byt (if j<offTo (frD (mtsD Z)) k then BTo sz Z k j else frB sz (Z k) (j-offTo (frD (mtsD Z)) k)) sz
  split
  ·exact ih j
  ·exact frB_byt _ _ _
def PkV(W:World)(v:Value)(sz N:Nat)(vs:List Value)(B:Nat->Nat->Int):Prop:=
 ∀j,j<N->∃gb ob C,vs[j]?=some (.slice (some ⟨gb,ob,none⟩) sz C)/\sz<=C/\C<=maxLen/\v.ownBlock≠some gb/\gb<W.heap.size/\∀i,i<sz->W.cell? ⟨gb,ob+i,none⟩=some (.int .u8 (B j i))
theorem PkV.on{W W':World}{v:Value}{sz N:Nat}{vs:List Value}{B:Nat->Nat->Int}(h:PkV W v sz N vs B)(o:Old W W'):PkV W' v sz N vs B:=fun j hj=>by
 obtain⟨gb,ob,C,h1,h2,h3,h4,h5,h6⟩:=h j hj
 exact⟨gb,ob,C,h1,h2,h3,h4,Nat.lt_of_lt_of_le h5 o.size,fun i hi=>(o.cell (a:=⟨gb,ob+i,none⟩) h5).trans (h6 i hi)⟩
theorem PkV.snoc{W W':World}{v v':Value}{sz N fr:Nat}{vs news:List Value}{B B2:Nat->Nat->Int}(h:PkV W v sz N vs B)(hn:PkV W v sz fr news B2)(hl:vs.length=N)(hk:Kept (fun q=>q<W.heap.size/\v.ownBlock≠some q) W W')(hv:∀k,v'.ownBlock=some k->v.ownBlock=some k\/W.heap.size<=k):
  PkV W' v' sz (N+fr) (vs ++ news) (fun j=>if j<N then B j else B2 (j-N)):=fun j hj=>by
 by_cases e:j<N
 ·obtain⟨gb,ob,C,h1,h2,h3,h4,h5,h6⟩:=h j e
  refine⟨gb,ob,C,by rw [List.getElem?_append_left (by omega)];exact h1,h2,h3,fun e'=>(hv gb e').elim h4 (by omega),Nat.lt_of_lt_of_le h5 hk.size,fun i hi=>?_⟩
  dsimp only
  rw [if_pos e]
  exact(hk.cell (a:=⟨gb,ob+i,none⟩) ⟨h5,h4⟩).trans (h6 i hi)
 ·obtain⟨gb,ob,C,h1,h2,h3,h4,h5,h6⟩:=hn (j-N) (by omega)
  refine⟨gb,ob,C,by rw [List.getElem?_append_right (by omega),hl];exact h1,h2,h3,fun e'=>(hv gb e').elim h4 (by omega),Nat.lt_of_lt_of_le h5 hk.size,fun i hi=>?_⟩
  dsimp only
  rw [if_neg e]
  exact(hk.cell (a:=⟨gb,ob+i,none⟩) ⟨h5,h4⟩).trans (h6 i hi)
theorem FwS.news{w W:World}{g fr sz:Nat}{B:Nat->Nat->Int}(h:FwS w g fr sz B (fun _=>True) W)(v:Value)(hv:∀k,v.ownBlock=some k->k<w.heap.size):
  ∃news:List Value,news.length=fr/\(∀j u,news[j]?=some u->W.cell? ((⟨g,0,none⟩:Addr).add j)=some u)/\(∀u∈news,u.oneCell'=true)/\PkV W v sz fr news B:=by
 obtain⟨l,hl,hP⟩:=list_of (P:=fun i x=>∃gb ob C,x=Value.slice (some ⟨gb,ob,none⟩) sz C/\W.cell? ⟨g,i,none⟩=some x/\sz<=C/\C<=maxLen/\w.heap.size<=gb/\gb<W.heap.size/\∀j,j<sz->W.cell? ⟨gb,ob+j,none⟩=some (.int .u8 (B i j))) fr fun i hi=>by
  obtain⟨gb,ob,C,h1,h2,h3,h4,h4',h5,h6⟩:=h.cell i hi trivial
  exact⟨_,gb,ob,C,rfl,h1,h2,h3,h4',h5,h6⟩
 refine⟨l,hl,fun j u hu=>?_,fun u hu=>?_,fun j hj=>?_⟩
 ·obtain⟨gb,ob,C,_,h1,_⟩:=hP j u hu
  rw [add_plain,Nat.zero_add]
  exact h1
 ·obtain⟨j,hj,rfl⟩:=List.getElem_of_mem hu
  obtain⟨gb,ob,C,h1,_⟩:=hP j _ (List.getElem?_eq_getElem hj)
  rw [h1]
  rfl
 ·obtain⟨gb,ob,C,h1,h2,h3,h4,h5,h6,h7⟩:=hP j _ (List.getElem?_eq_getElem (by omega))
  refine⟨gb,ob,C,by rw [List.getElem?_eq_getElem (show j<l.length by omega),h1],h3,h4,fun e=>?_,h6,h7⟩
  have:=hv gb e
  omega
theorem pkRows{X:Nat->Prop}{W:World}{v:Value}{sz N:Nat}{vs:List Value}{B:Nat->Nat->Int}(h:PkV W v sz N vs B)(ho:ownX X W 24 v N vs)(hB:∀j,j<N->Byt (B j) sz):
  ∃p c Q C,v = .slice p N c/\RwU W p N Q (fun _=>sz) C B:=by
 have hx:∀k,∃q:Option Addr × Nat,k<N->vs[k]?=some (.slice q.1 sz q.2)/\sz<=q.2/\q.2<=maxLen/\SlU W q.1 sz (B k):=fun k=>by
  by_cases hk:k<N
  ·obtain⟨gb,ob,C,h1,h2,h3,h4,h5,h6⟩:=h k hk
   exact⟨(some ⟨gb,ob,none⟩,C),fun _=>⟨h1,h2,h3,fun _=>⟨gb,ob,rfl,h5,h6⟩⟩⟩
  ·exact⟨(none,0),fun h=>absurd h hk⟩
 obtain⟨f,hf⟩:=Classical.skolem.1 hx
 rcases ho.shape with ⟨hv,h0⟩ | ⟨g,cap,hv,_,hg,_,_,hc⟩
 ·subst h0
  exact⟨none,0,fun k=>(f k).1,fun k=>(f k).2,hv,fun h=>by omega,fun i hi=>by omega⟩
 ·exact⟨some ⟨g,0,none⟩,cap,fun k=>(f k).1,fun k=>(f k).2,hv,fun _=>⟨g,0,rfl,hg,fun i hi=>by rw [Nat.zero_add];exact hc i _ (hf i hi).1⟩,fun i hi=>⟨(hf i hi).2.1,(hf i hi).2.2.1,(hf i hi).2.2.2,hB i hi⟩⟩
theorem errTo_each{L:Nat->Smp} : ∀{n:Nat},errTo L n=0->∀i,i<n->(L i).check=0
 | 0,_,i,hi=>by omega
 | n+1,h,i,hi=>by
  have h0:errTo L n=0:=Classical.byContradiction fun e=>by rw [errTo_stays e (Nat.le_succ n)] at h;exact e h
  rw [errTo_next h0] at h
  by_cases e:i=n
  ·rw [e];exact h
  ·exact errTo_each h0 i (by omega)
theorem allI_zero{L:Nat->Smp}{n:Nat}(h:allI L n=0):n<=64/\(∀i,i<n->SmpV (L i))/\∀i j,i<n->j<n->i≠j->(L i).s≠(L j).s:=by
 unfold allI at h
 by_cases h1:64<n
 ·rw [if_pos h1] at h;omega
 rw [if_neg h1] at h
 by_cases h2:errTo L n≠0
 ·rw [if_pos h2] at h;exact absurd h h2
 rw [if_neg h2] at h
 by_cases h3:twiceP L n
 ·rw [if_pos h3] at h;omega
 refine⟨by omega,fun i hi=>Smp.check_v (errTo_each (Classical.not_not.1 h2) i hi),fun i j hi hj hne e=>h3 ?_⟩
 rcases Nat.lt_or_gt_of_ne hne with a | a
 ·exact⟨j,i,a,hj,e.symm⟩
 ·exact⟨i,j,a,hi,e⟩
theorem Ordd.valid{L Z:Nat->Smp}{n:Nat}(h:Ordd L n Z)(hv:∀i,i<n->SmpV (L i)):∀i,i<n->SmpV (Z i):=fun i hi=>by
 obtain⟨m,hm,e⟩:=h.frm i hi
 rw [e]
 exact hv m hm
theorem Ordd.dir{L Z:Nat->Smp}{n:Nat}(h:Ordd L n Z)(hv:∀i,i<n->SmpV (L i)):dirP (mtsD Z) n:=fun i hi=>⟨(Mt.ok_iff _).2 (h.valid hv i hi).ok,fun h0=>h.rise (i-1) i (by omega) hi⟩
theorem off_bd{f:Nat->Nat}{n:Nat}(h:∀i,i<n->f i<=131072)(k:Nat)(hk:k<=n)(hn:n<=64):offTo f k<=8388608:=by
 have h1:=offTo_bd h k hk
 generalize offTo f k=x at h1
 have h2:k*131072<=64*131072:=Nat.mul_le_mul_right _ (by omega)
 omega
def PkR(w:World)(sz:Int)(n:Nat)(L:Nat->Smp)(e:Ending)(w':World):Prop:=
 (¬(24<=sz/\sz<=96)/\e = .returned (.tuple #[.slice none 0 0,.int .i64 12])/\Old w w') \/
 ((24<=sz/\sz<=96)/\allI L n≠0/\e = .returned (.tuple #[.slice none 0 0,.int .i64 (allI L n)])/\Old w w') \/
 ((24<=sz/\sz<=96)/\allI L n=0/\∃Z,Ordd L n Z/\BldR w sz.toNat n (offTo (frD (mtsD Z)) n) (mtsD Z) (BTo sz.toNat Z n) (if 4194304<totalAt (frD (mtsD Z)) sz.toNat n then 3 else 0) e w')
theorem Tryz.info_rw:(Tryz.prog.info? 24).map (fun i=>(i.zero,i.size,i.bytes))=some (some (.slice none 0 0),1,24):=by kernel_rfl
set_option maxHeartbeats 16000000 in
theorem Pack_any(sz:Int)(p:Option Addr)(n cap:Nat)(L:Nat->Smp)(w:World)(hs:SmsS w p n L)(hn:n<=1048576):
  Calls Tryz.prog 7 #[.int .i64 sz,.slice p n cap] w (PkR w sz n L):=by
 by_cases hz:¬(24<=sz/\sz<=96)
 ·have HN:=zH (CNew_no sz w hz)
  have HZ:=zH hz
  clear hz hs
  go_enter Tryz.func7,Tryz.ntmps7
  go_wp2_with fail
  refine HN.out.mono ?_
  rintro e w1 ⟨rfl,rfl⟩
  go_wp2_with fail
  go_ret2
  exact .inl ⟨HZ.out,rfl,Old.refl _⟩
 obtain⟨z,rfl⟩:∃z:Nat,sz=z:=⟨sz.toNat,by omega⟩
 have hz1:24<=z:=by omega
 have hz2:z<=96:=by omega
 have HZ:=zH hz
 have HNw:=zH (CNew_yes (z:Int) w (by omega) (by omega))
 have HCk:=zH (fun V (hV:Old w V)=>CheckAll_any p n cap L V (hs.old hV) hn)
 have HS:=zH hs
 by_cases ha:allI L n≠0
 ·have HA:=zH ha
  obtain⟨x,hx⟩:∃x,x=allI L n:=⟨_,rfl⟩
  rw [←hx] at HCk ha
  have hx2:(x != 0)=true:=by simpa using ha
  have HX:=zH hx
  clear hz hs hx ha
  go_enter Tryz.func7,Tryz.ntmps7
  go_wp2_with fail
  refine HNw.out.mono ?_
  rintro e w1 ⟨b,rfl,hb,hbg,ho⟩
  have HO:=zH ho
  clear ho hb hbg
  go_wp2_with fail
  refine(HCk.out _ HO.out).mono ?_
  rintro e w2 ⟨rfl,ho⟩
  have HO2:=zH (HO.out.trans ho)
  clear ho
  go_wp2_with fail
  go_ret2
  exact .inr (.inl ⟨Classical.not_not.1 HZ.out,HA.out,by rw [←HX.out];rfl,HO2.out⟩)
 obtain⟨hn64,hval,hne⟩:=allI_zero (Classical.not_not.1 ha)
 have HA:=zH (Classical.not_not.1 ha)
 have HV:=zH hval
 have HDi:=zH (fun V (hV:Old w V)=>directory_any p n cap L V (hs.old hV) hn64 hne)
 rw [HA.out] at HCk
 obtain⟨ir,hir,hr0,hr1,hr2⟩:=info_parts Tryz.info_rw
 clear hz hs ha hval hne hn
 go_enter Tryz.func7,Tryz.ntmps7
 go_wp2_with fail
 refine HNw.out.mono ?_
 rintro e w1 ⟨b,rfl,hb,hbg,ho⟩
 have HO1:=zH ho
 have HCo:=zH hb
 clear ho hb hbg
 go_wp2_with fail
 refine(HCk.out _ HO1.out).mono ?_
 rintro e w2 ⟨rfl,ho⟩
 have HO2:=zH (HO1.out.trans ho)
 have HCo2:=zH (HCo.out.old ho)
 clear ho HCo HO1 HNw HCk
 go_wp2_with fail
 refine(HDi.out _ HO2.out).mono ?_
 rintro e w3 ⟨q,c,Z,qm,cm,rfl,hord,hsm,hmt,ho⟩
 have HO3:=zH (HO2.out.trans ho)
 have HCo3:=zH (HCo2.out.old ho)
 have HOr:=zH hord
 have HSm:=zH hsm
 have HMt:=zH (show MtsS w3 qm n (mtsD Z) from hmt)
 have HDP:=zH (hord.dir HV.out)
 have HPl:=zH (placed_any z qm n cm (mtsD Z) w3 hz2 hmt hn64 (dirP_ok (hord.dir HV.out)))
 have htb:=total_bd (n:=n) hz2 hn64 (dirP_ok (hord.dir HV.out))
 obtain⟨T,hT⟩:∃T,T=totalAt (frD (mtsD Z)) z n:=⟨_,rfl⟩
 rw [←hT] at HPl htb
 have HT:=zH hT
 have htb1:=htb.1
 clear ho hord hsm hmt HO2 HCo2 HDi hT htb
 go_wp2_with fail
 refine HPl.out.mono ?_
 rintro e w4 ⟨q2,c2,rfl,_,_,_,ho⟩
 have HO4:=zH (HO3.out.trans ho)
 have HCo4:=zH (HCo3.out.old ho)
 have HSm4:=zH (HSm.out.old ho)
 have HMt4:=zH (HMt.out.old ho)
 clear ho HO3 HCo3 HSm HMt HPl
 by_cases hT3:4194304<T
 ·have h4:(4194304:Int)<T:=by omega
  have H4:=zH hT3
  clear hT3
  go_wp2_with fail
  go_ret2
  refine .inr (.inr ⟨Classical.not_not.1 HZ.out,HA.out,Z,HOr.out,.inl ⟨?_,?_,HO4.out⟩⟩)
  ·rw [Int.toNat_natCast,←HT.out,if_pos H4.out];omega
  ·rw [Int.toNat_natCast,←HT.out,if_pos H4.out];rfl
 have h4:¬(4194304:Int)<T:=by omega
 have H4:=zH hT3
 clear hT3
 have hle:∀i,i<n->(mtsD Z i).fr<=131072:=fun i hi=>(dirP_ok HDP.out i hi).fr_le.2
 have HLe:=zH hle
 have HO0:Hid (ownX (fun q=>q<w4.heap.size) w4 24 (.slice none 0 0) (offTo (frD (mtsD Z)) 0) []):=zH (ownX.nil _ _ _)
 have HP0:Hid (PkV w4 (.slice none 0 0) z (offTo (frD (mtsD Z)) 0) [] (BTo z Z 0)):=zH fun j hj=>absurd hj (Nat.not_lt_zero _)
 have HR0:=zH (Old.refl w4)
 clear hle
 go_wp2_with fail
 go_loopw [13,46] (fun fv iv wr=>∃(k:Nat) (vs:List Value),k<=n/\iv = .int .i64 k/\Hid (ownX (fun q=>q<w4.heap.size) wr 24 fv (offTo (frD (mtsD Z)) k) vs)/\Hid (PkV wr fv z (offTo (frD (mtsD Z)) k) vs (BTo z Z k))/\Hid (Old w4 wr)) (fun _ i _=>n-(intOf i).toNat)
 case atStart=>exact⟨0,_,Nat.zero_le _,by go_num,HO0,HP0,HR0⟩
 case round=>
  clear HO0 HP0 HR0
  obtain⟨k,vs,hk,rfl,HOw,HPk,HO⟩:=hrel
  obtain⟨v,rfl⟩:∃v,v=u13:=⟨_,rfl⟩
  by_cases hkn:k<n
  ·obtain⟨gs,o,rfl,hgs,hcs⟩:=(HSm4.out.old HO.out).cell (by omega)
   obtain⟨S,hS⟩:∃S,S=Z k:=⟨_,rfl⟩
   have hck:=hcs k hkn
   rw [←hS] at hck
   have c0:wr.cell? ⟨gs,o+k*6,none⟩=some (.string S.s):=hck 0 _ rfl
   have c1:wr.cell? ⟨gs,o+k*6+1,none⟩=some (.int .i64 S.r):=hck 1 _ rfl
   have c2:wr.cell? ⟨gs,o+k*6+2,none⟩=some (.bool S.lp):=hck 2 _ rfl
   have c3:wr.cell? ⟨gs,o+k*6+3,none⟩=some (.int .i64 S.a):=hck 3 _ rfl
   have c4:wr.cell? ⟨gs,o+k*6+4,none⟩=some (.int .i64 S.b):=hck 4 _ rfl
   have c5:wr.cell? ⟨gs,o+k*6+5,none⟩=some (.slice S.p S.n S.c):=hck 5 _ rfl
   have hok:SmOk w4 S:=by rw [hS];exact HSm4.out.ok k hkn
   have hvl:SmpV S:=by rw [hS];exact HOr.out.valid HV.out k hkn
   have ho3:Old w4 (wr.alloc (.cells S.cells 50)):=HO.out.alloc' _
   have HFo:=zH (framesOf_any b z S (wr.alloc (.cells S.cells 50)) (HCo4.out.old ho3) hz1 hz2 (hok.old ho3) hvl)
   have HOa:=zH (HOw.out.old (Old.alloc wr (.cells S.cells 50)))
   have HPa:=zH (HPk.out.on (Old.alloc wr (.cells S.cells 50)))
   have HOo:=zH ho3
   have hfr:(smM S).fr<=131072:=by rw [hS];exact HLe.out k hkn
   have hof:offTo (frD (mtsD Z)) k<=8388608:=off_bd HLe.out k hk hn64
   have HSk:=zH hS
   have HB:=zH (And.intro hfr hof)
   unfold Smp.cells at HFo HOa HPa HOo
   have i0:(0:Int)<=k:=by omega
   have i1:(k:Int)<n:=by omega
   clear hck hcs hgs hS hok hvl ho3 hfr hof HOw HPk HO
   go_wp2_with fail
   refine HFo.out.mono ?_
   rintro e V ⟨g,rfl,hfw⟩
   have hlt:=HOa.out.lt
   obtain⟨news,hl,hnw,h1c,hpn⟩:=hfw.news v hlt
   have hO2:=HOa.out.old hfw.old
   have HP2:=zH (HPa.out.on hfw.old)
   have HOv:=zH (HOo.out.trans hfw.old)
   have HOM:=zH (show ownX (fun q=>q<V.heap.size/\v.ownBlock≠some q) V 24 v (offTo (frD (mtsD Z)) k) vs from hO2.mono fun q hq h=>h.2 hq)
   have HX0:=zH hO2.2
   have HNl:=zH hl
   have HNw:=zH hnw
   have HN1:=zH h1c
   have HNp:=zH hpn
   obtain⟨fr,hfr⟩:∃f,f=(smM S).fr:=⟨_,rfl⟩
   obtain⟨N,hN⟩:∃N,N=offTo (frD (mtsD Z)) k:=⟨_,rfl⟩
   rw [←hfr] at HNl HNp HB ⊢
   rw [←hN] at HOM HP2 HB
   have HN':Hid (offTo (frD (mtsD Z)) (k+1)=N+fr):=zH (by rw [hN,hfr,HSk.out];rfl)
   have HBt:Hid (BTo z Z (k+1)=fun j=>if j<N then BTo z Z k j else frB z S (j-N)):=zH (by rw [hN,HSk.out];rfl)
   have hb1:=HB.out.1
   have hb2:=HB.out.2
   have hvl:vs.length=N:=HOM.out.1.1.trans (Nat.mul_one N)
   have HVl:=zH hvl
   clear hlt hl hnw h1c hpn hO2 hfw HOa HPa HOo HFo hfr hN hvl c0 c1 c2 c3 c4 c5
   go_wp2_with (at_builtin;refine append_X _ rfl _ _ 31 rfl (fun q=>q<V.heap.size/\v.ownBlock≠some q) 24 ir (.slice none 0 0) 24 Tryz.underlying31 hir hr0 hr1 hr2 rfl _ _ _ rfl HOM.out ⟨g,0,none⟩ fr fr news rfl HNl.out HNw.out HN1.out (by unfold maxLen;omega) (by omega) (fun q hq=>hq.1) ?_;intro v' V2 hown2 hk2 hv2;have HR:=zH (And.intro hown2 (And.intro hk2 hv2));clear hown2 hk2 hv2)
   have ho5:Old w4 V2:=HOv.out.after HR.out.2.1 fun q hq=>⟨Nat.lt_of_lt_of_le hq HOv.out.size,fun e=>HX0.out q e hq⟩
   have HO5:=zH ho5
   have HOw5:Hid (ownX (fun q=>q<w4.heap.size) V2 24 v' (offTo (frD (mtsD Z)) (k+1)) (vs ++ news)):=zH (by
    rw [HN'.out]
    refine HR.out.1.mono fun q hq hlt=>?_
    rcases HR.out.2.2 q hq with h | h
    ·exact HX0.out q h hlt
    ·have:=HOv.out.size
     omega)
   have HPk5:Hid (PkV V2 v' z (offTo (frD (mtsD Z)) (k+1)) (vs ++ news) (BTo z Z (k+1))):=zH (by
    rw [HN'.out,HBt.out]
    exact HP2.out.snoc HNp.out HVl.out HR.out.2.1 HR.out.2.2)
   clear ho5 HR HOM HP2 HNp
   go_wp2_with fail
   go_roundw
   case rel=>exact⟨k+1,_,by omega,by go_num,HOw5,HPk5,HO5⟩
   case measure=>simp [intOf];omega
  ·obtain rfl:k=n:=by omega
   obtain⟨fp,fc,Q,C,rfl,hrw⟩:=pkRows HPk.out HOw.out (fun j _=>BTo_byt z Z k j)
   have hK:offTo (frD (mtsD Z)) k<=8388608:=off_bd HLe.out k hk hn64
   have HBu:=zH (Build_any (z:Int) qm k cm (mtsD Z) fp (offTo (frD (mtsD Z)) k) fc Q (fun _=>z) C (BTo z Z k) wr (HMt4.out.old HO.out) hn64 hrw (Nat.le_trans hK (by decide)))
   have HOe:=zH (HO4.out.trans HO.out)
   have hbl:bldI z (mtsD Z) k (offTo (frD (mtsD Z)) k) (fun _=>z)=0:=by
    unfold bldI
    rw [if_neg HZ.out,if_neg (Classical.not_not.2 HDP.out),if_neg (Classical.not_not.2 ⟨rfl,fun j _=>rfl⟩),Int.toNat_natCast,←HT.out,if_neg H4.out]
   rw [hbl] at HBu
   have HEnd:=zH (fun e V (h:BldR wr (z:Int).toNat k (offTo (frD (mtsD Z)) k) (mtsD Z) (BTo z Z k) 0 e V)=>(show PkR w z k L e V from .inr (.inr ⟨Classical.not_not.1 HZ.out,HA.out,Z,HOr.out,by
    have h:=h.lift HOe.out
    rw [Int.toNat_natCast] at h ⊢
    rw [←HT.out,if_neg H4.out]
    exact h⟩)))
   obtain⟨K,hKK⟩:∃K,K=offTo (frD (mtsD Z)) k:=⟨_,rfl⟩
   rw [←hKK] at HBu HEnd ⊢
   clear hrw hK hbl HPk HOw hKK
   go_wp2_with fail
   refine HBu.out.mono ?_
   rintro e V (⟨h1,rfl,h3⟩ | ⟨h1,g,rfl,h3⟩)
   ·exact absurd rfl h1
   have HF:=zH (HEnd.out _ _ (.inr ⟨h1,g,rfl,h3⟩))
   clear h1 h3 HEnd
   generalize totalAt (frD (mtsD Z)) (z:Int).toNat k=TT at *
   go_wp2_with fail
   go_ret2
   exact HF.out
theorem BkB.size_{w:World}{bb sz n N:Nat}{q:Option Addr}{c:Nat}{im:Option Addr}{ci:Nat}{D:Nat->Mt}{F:Nat->Int}(h:BkB w bb sz n N q c im ci D F):
  w.cell? ⟨bb,0,none⟩=some (.int .i64 sz)/\w.cell? ⟨bb,1,none⟩=some (.slice q n c)/\w.cell? ⟨bb,2,none⟩=some (.slice im N ci):=by
 have:=h.blk
 simp [World.cell?,this]
theorem parse_packed{w w':World}{e:Ending}{sz n K:Nat}{D:Nat->Mt}{B:Nat->Nat->Int}{F:Nat->Int}(h24:24<=sz)(h96:sz<=96)(hn:n<=64)(hd:dirP D n)
  (hld:Ld (frD D) sz n B (frontF (totalAt (frD D) sz n:Nat) n sz (plD D sz n)) K F) (hP:PrsR w F (totalAt (frD D) sz n) e w'):
  ∃bb q c im ci,e = .returned (.tuple #[.pointer (some ⟨bb,0,none⟩),.int .i64 0])/\BkB w' bb sz n (totalAt (frD D) sz n) q c im ci (plD D sz n) F/\Old w w':=by
 obtain⟨f1,f2,f3,f4⟩:=front_good h24 h96 hn hd hld.front
 rcases hP with ⟨h1,_⟩ | ⟨_,⟨er,_,_,h1,_⟩ | ⟨bb,q,c,im,ci,E,rfl,hb,hbd,ho⟩⟩
 ·exact absurd f1 h1
 ·exact absurd f4 (h1 _)
 ·refine⟨bb,q,c,im,ci,rfl,?_,ho⟩
  have e:=hbd.one f4
  rw [f2] at e
  rw [f2,f3] at hb
  exact⟨hb.blk,hb.dir.ext e,hb.d1,hb.d2,hb.img,hb.i1,hb.i2⟩
theorem laid_byt{N:Nat}{sz n K:Nat}{D:Nat->Mt}{B:Nat->Nat->Int}{F:Nat->Int}{len:Int}(hld:Ld (frD D) sz n B (frontF len n sz (plD D sz n)) K F)(hB:∀i,i<K->Byt (B i) sz):Byt F N:=
 hld.byt (fun p _=>frontF_bd _ _ _ _ _) hB N
set_option maxHeartbeats 4000000 in
theorem BMeta_at(bb sz n N:Nat)(q:Option Addr)(c:Nat)(im:Option Addr)(ci:Nat)(D:Nat->Mt)(F:Nat->Int)(w:World)(h:BkB w bb sz n N q c im ci D F)(h0:0<sz)(hn:n<=64)(k:Nat)(hk:k<n):
  Calls Tryz.prog 39 #[.pointer (some ⟨bb,0,none⟩),.int .i64 k] w fun e w'=>e = .returned (.tuple #[.agg (D k).cells,.int .i64 0])/\Old w w':=by
 have Hs9:Hid ((Tryz.prog.info? 45).map (·.size)=some 9):=zH (by kernel_rfl)
 obtain⟨W,hW⟩:∃W,W=w.alloc (.cells mtZ 45):=⟨_,rfl⟩
 obtain⟨b0,hb0⟩:∃b,b=w.heap.size:=⟨_,rfl⟩
 have HO:=zH (show Old w W by rw [hW];exact Old.alloc _ _)
 have hB:=h.old HO.out
 have HMd:=zH (BMade_yes bb sz W hB.size_.1 (by omega))
 obtain⟨gd,o,rfl,hgd,hcs⟩:=hB.dir.cell (by omega)
 obtain⟨m,hm⟩:∃m,m=D k:=⟨_,rfl⟩
 have hck:=hcs k hk
 rw [←hm] at hck ⊢
 have c0:W.cell? ⟨gd,o+k*9,none⟩=some (.string m.s):=hck 0 _ rfl
 have c1:W.cell? ⟨gd,o+k*9+1,none⟩=some (.int .i64 m.n):=hck 1 _ rfl
 have c2:W.cell? ⟨gd,o+k*9+2,none⟩=some (.int .i64 m.r):=hck 2 _ rfl
 have c3:W.cell? ⟨gd,o+k*9+3,none⟩=some (.int .i64 m.c):=hck 3 _ rfl
 have c4:W.cell? ⟨gd,o+k*9+4,none⟩=some (.bool m.lp):=hck 4 _ rfl
 have c5:W.cell? ⟨gd,o+k*9+5,none⟩=some (.int .i64 m.a):=hck 5 _ rfl
 have c6:W.cell? ⟨gd,o+k*9+6,none⟩=some (.int .i64 m.b):=hck 6 _ rfl
 have c7:W.cell? ⟨gd,o+k*9+7,none⟩=some (.int .i64 m.x):=hck 7 _ rfl
 have c8:W.cell? ⟨gd,o+k*9+8,none⟩=some (.int .i64 m.y):=hck 8 _ rfl
 have d1:=hB.size_.2.1
 have i0:(0:Int)<=k:=by omega
 have i1:(k:Int)<n:=by omega
 have e0:decide ((k:Int)<0)=false:=decide_eq_false (by omega)
 have e1:decide ((n:Int)<=k)=false:=decide_eq_false (by omega)
 have HW:=zH hW
 have HB0:=zH hb0
 have HBz:Hid (W.heap[b0]?=some (.cells mtZ 45 (0,0))):=zH (by rw [hW,hb0];exact heap_alloc_new _ _)
 have HBg:Hid (w.heap.size<=b0):=zH (by omega)
 have H1x:=zH (Mt.one m)
 unfold mtZ at HW HBz
 unfold Mt.cells at H1x ⊢
 clear h hB hck hcs hgd hm hW hb0
 go_enter Tryz.func39,Tryz.ntmps39
 go_wp2_with fail
 rw [←HW.out,←HB0.out]
 refine HMd.out.mono ?_
 rintro e V ⟨rfl,hWV⟩
 subst hWV
 go_wp2_with (with_reducible refine wpList_store_row rfl 45 _ _ rfl b0 _ rfl rfl 45 _ HBz.out (by kernel_rfl) (by kernel_rfl) H1x.out ?_)
 have hrr:=row_ret (w:=w) HBz.out HO.out HBg.out m.cells
 unfold Mt.cells at hrr
 refine bodyPost_ret (results_row_tmp rfl _ _ b0 45 _ (0,0) _ rfl hrr.1 Tryz.underlying45 rfl Hs9.out) rfl ?_
 exact⟨rfl,hrr.2⟩
def RdOf(bs:List Int):Prop:=∃F n T,FrP F n T/\Tells bs (enc F n T)
open Classical in
noncomputable def openI(S:Int)(bs:List Int):Int:=if Crc.sumOf bs≠S then 9 else if RdOf bs then 0 else 4
theorem openI_ok{S:Int}{bs:List Int}(h:Crc.sumOf bs=S)(k:RdOf bs):openI S bs=0:=by
 unfold openI
 rw [if_neg (fun e=>e h),if_pos k]
theorem Kept.setRow(w:World)(b:Nat)(cs:Array Value):Kept (fun q=>q≠b) w (w.setRow b cs):=⟨rfl,rfl,by simp,fun k hk=>setRow_other _ _ _ _ hk⟩
structure BkN(sz n N:Nat)(D:Nat->Mt)(F:Nat->Int):Prop where
 z1:24<=sz
 z2:sz<=96
 n64:n<=64
 N4:N<=4194304
 byt:Byt F N
 ok:∀k,k<n->(D k).OkR
 x:∀k,k<n->0<=(D k).x
 y:∀k,k<n->0<=(D k).y
 pl:∀k q,k<n->q<(D k).fr->(D k).x.toNat+4*q+4<=N/\(D k).y.toNat+q*sz+sz<=N
def frAt(sz:Nat)(D:Nat->Mt)(k q:Nat):Nat:=(D k).y.toNat+q*sz
def frSum(D:Nat->Mt)(F:Nat->Int)(k q:Nat):Int:=numTo (fun j=>F ((D k).x.toNat+4*q+j)) 4
def whQ(D:Nat->Mt)(i ch bl:Int):Nat:=bl.toNat*(D i.toNat).c.toNat+ch.toNat
theorem whQ_at(D:Nat->Mt)(k c b:Nat):whQ D k c b=b*(D k).c.toNat+c:=by
 unfold whQ
 rw [Int.toNat_natCast,Int.toNat_natCast,Int.toNat_natCast]
theorem whQ_lt{D:Nat->Mt}{k c b:Nat}(h2:(c:Int)<(D k).c)(h3:b<cnt (D k).n.toNat):whQ D k c b<(D k).fr:=by
 rw [whQ_at]
 unfold Mt.fr
 have h:(b+1)*(D k).c.toNat<=cnt (D k).n.toNat*(D k).c.toNat:=Nat.mul_le_mul_right _ h3
 rw [Nat.succ_mul] at h
 omega
theorem fitR_ex(f g:Nat->Int)(size:Int)(w:World)(hf:Fits64 f)(h24:24<=size)(h96:size<=96)(hs:smallP f)(hg:rightP g):∃x,FitR f g size x/\x.n<=2:=by
 by_cases h:55<=size
 ·exact⟨⟨tolN zeroS zeroS f,.slice none 0 0,0,fun _=>0⟩,.inl ⟨h,rfl,rfl,rfl⟩,by show (0:Nat)<=2;omega⟩
 ·obtain⟨e,w',fr,⟨n,p,cap,_,h1,h2,_⟩,_⟩:=frame_search2 f g size w hf ⟨h24,by omega⟩ ⟨hs,hg⟩ []
  exact⟨⟨tolN g (sclN (restF2 f true) n) (restF2 f true),.slice none 0 0,tnN f true,toneF f⟩,.inr ⟨by omega,n,h1,rfl,rfl,rfl⟩,h2⟩
theorem frm_good{sz:Nat}{xs:List Int}(hx:samP xs)(h24:24<=sz)(h96:sz<=96)(w:World){k:Nat}(hk:k<cnt xs.length):
  ∃x:Fr,FitR (rowAt (spC (decide (55<=(sz:Int))) (cnt xs.length) fun j=>xs.getD j 0) k) (gnR (decide (55<=(sz:Int))) (fun j=>xs.getD j 0) k) sz x/\x.n<=2/\FrP x.F x.n x.T/\Fits64 x.T/\frmL sz xs k=padded (enc x.F x.n x.T) sz/\Tells (frmL sz xs k) (enc x.F x.n x.T):=by
 have hF:∀q,-32768<=(fun j=>xs.getD j 0) q/\(fun j=>xs.getD j 0) q<=32768:=fun q=>by have:=samP_at hx q;dsimp only;omega
 have hs:=spectra_small hF (decide (55<=(sz:Int))) (cnt xs.length) k hk
 have hf:Fits64 (rowAt (spC (decide (55<=(sz:Int))) (cnt xs.length) fun j=>xs.getD j 0) k):=fun j=>spectraF_in _ _ _ (fun q=>by have h1:=hF q;dsimp only at h1 ⊢;omega) _
 obtain⟨x,h1,h2⟩:=fitR_ex _ _ (sz:Int) w hf (by omega) (by omega) hs (gnR_right (decide (55<=(sz:Int))) (fun j=>xs.getD j 0) k)
 have hP:=fitR_may h1 hs (gnR_right _ _ k) h2
 have hr:=fitR_room h1 hs h2 (by omega)
 have he:=enc_len hP
 have hfr:frmL sz xs k=padded (enc x.F x.n x.T) sz:=by
  unfold frmL
  have hex:∃x:Fr,FitR (rowAt (spC (decide (55<=(sz:Int))) (cnt xs.length) fun j=>xs.getD j 0) k) (gnR (decide (55<=(sz:Int))) (fun j=>xs.getD j 0) k) sz x:=⟨x,h1⟩
  rw [dif_pos hex,enc_same (fitR_same hex.choose_spec h1)]
 exact⟨x,h1,h2,hP,fitR_fits h1 hf,hfr,by rw [hfr];exact tells_padded _ _ (by omega)⟩
structure Pkd(sz n:Nat)(Z:Nat->Smp)(F:Nat->Int):Prop where
 z1:24<=sz
 z2:sz<=96
 n64:n<=64
 v:∀i,i<n->SmpV (Z i)
 tot:totalAt (frD (mtsD Z)) sz n<=4194304
 dir:dirP (mtsD Z) n
 ld:Ld (frD (mtsD Z)) sz n (BTo sz Z n) (frontF (totalAt (frD (mtsD Z)) sz n:Nat) n sz (plD (mtsD Z) sz n)) (offTo (frD (mtsD Z)) n) F
theorem BTo_at(sz:Nat)(Z:Nat->Smp):∀{n k q:Nat},k<n->q<frD (mtsD Z) k->BTo sz Z n (offTo (frD (mtsD Z)) k+q)=frB sz (Z k) q
 | 0,k,q,h,_=>by omega
 | n+1,k,q,h,hq=>by
  have e:offTo (frD (mtsD Z)) (k+1)=offTo (frD (mtsD Z)) k+frD (mtsD Z) k:=rfl
  show (if offTo (frD (mtsD Z)) k+q<offTo (frD (mtsD Z)) n then BTo sz Z n (offTo (frD (mtsD Z)) k+q) else frB sz (Z n) (offTo (frD (mtsD Z)) k+q-offTo (frD (mtsD Z)) n))=_
  by_cases hk:k<n
  ·have:=offTo_mono (frD (mtsD Z)) (show k+1<=n from hk)
   rw [if_pos (by omega)]
   exact BTo_at sz Z hk hq
  ·obtain rfl:k=n:=by omega
   rw [if_neg (by omega),Nat.add_sub_cancel_left]
namespace Pkd
variable {sz n:Nat} {Z:Nat->Smp} {F:Nat->Int}
theorem bkN(h:Pkd sz n Z F):BkN sz n (totalAt (frD (mtsD Z)) sz n) (plD (mtsD Z) sz n) F where
 z1:=h.z1
 z2:=h.z2
 n64:=h.n64
 N4:=h.tot
 byt:=laid_byt h.ld fun i _=>BTo_byt _ _ _ _
 ok:=fun k hk=>((Mt.ok_iff _).1 (h.dir k hk).1).at_ _ _
 x:=fun k hk=>Int.natCast_nonneg _
 y:=fun k hk=>Int.natCast_nonneg _
 pl:=fun k q hk hq=>by
  have h1:=place_end (frD (mtsD Z)) sz n (i:=k) (q:=q) hq
  have h2:=atTo_mono (frD (mtsD Z)) sz n (show k+1<=n from hk)
  have h3:=(total_le (frD (mtsD Z)) sz n).1
  have h4:=firstAt_le (frD (mtsD Z)) sz n k
  have h5:=atTo_step (frD (mtsD Z)) sz n k
  have e1:(plD (mtsD Z) sz n k).x.toNat=atTo (frD (mtsD Z)) sz n k:=Int.toNat_natCast _
  have e2:(plD (mtsD Z) sz n k).y.toNat=firstAt (frD (mtsD Z)) sz n k:=Int.toNat_natCast _
  rw [e1,e2,Nat.mul_comm q sz]
  omega
theorem numC(h:Pkd sz n Z F)(k:Nat):(plD (mtsD Z) sz n k).c.toNat=(Z k).n:=Int.toNat_natCast _
theorem bytes(h:Pkd sz n Z F){k c b:Nat}(hk:k<n)(hc:(c:Int)<(plD (mtsD Z) sz n k).c)(hb:b<cnt (plD (mtsD Z) sz n k).n.toNat):
  lst (fun j=>F (frAt sz (plD (mtsD Z) sz n) k (whQ (plD (mtsD Z) sz n) k c b)+j)) sz=frmL sz (chL (Z k) c) b:=by
 have hq:=whQ_lt hc hb
 have hq':whQ (plD (mtsD Z) sz n) k c b<frD (mtsD Z) k:=hq
 have h1:=h.ld.byte k _ hk hq' (by
  have:=offTo_mono (frD (mtsD Z)) (show k+1<=n from hk)
  have e:offTo (frD (mtsD Z)) (k+1)=offTo (frD (mtsD Z)) k+frD (mtsD Z) k:=rfl
  omega)
 have e2:(plD (mtsD Z) sz n k).y.toNat=firstAt (frD (mtsD Z)) sz n k:=Int.toNat_natCast _
 have hcn:c<(Z k).n:=by
  have:(plD (mtsD Z) sz n k).c=((Z k).n:Int):=rfl
  omega
 have hm:=mod_mul_add b (Z k).n c hcn
 refine List.ext_getElem (by rw [lst_len,frmL_len]) fun j h2 h3=>?_
 rw [lst_len] at h2
 have e3:=h1 j h2
 rw [BTo_at sz Z hk hq'] at e3
 have e4:(lst (fun j=>F (frAt sz (plD (mtsD Z) sz n) k (whQ (plD (mtsD Z) sz n) k c b)+j)) sz)[j]'(by rw [lst_len];exact h2)=F (frAt sz (plD (mtsD Z) sz n) k (whQ (plD (mtsD Z) sz n) k c b)+j):=by simp [lst]
 rw [e4]
 unfold frAt
 rw [e2,Nat.mul_comm _ sz,e3]
 unfold frB
 rw [whQ_at,h.numC k,hm.1,hm.2,List.getD_eq_getElem?_getD,List.getElem?_eq_getElem h3]
 rfl
theorem sum(h:Pkd sz n Z F){k c b:Nat}(hk:k<n)(hc:(c:Int)<(plD (mtsD Z) sz n k).c)(hb:b<cnt (plD (mtsD Z) sz n k).n.toNat):
  frSum (plD (mtsD Z) sz n) F k (whQ (plD (mtsD Z) sz n) k c b)=Crc.sumOf (frmL sz (chL (Z k) c) b):=by
 have hq:=whQ_lt hc hb
 have hq':whQ (plD (mtsD Z) sz n) k c b<frD (mtsD Z) k:=hq
 have hoff:offTo (frD (mtsD Z)) k+whQ (plD (mtsD Z) sz n) k c b<offTo (frD (mtsD Z)) n:=by
  have:=offTo_mono (frD (mtsD Z)) (show k+1<=n from hk)
  have e:offTo (frD (mtsD Z)) (k+1)=offTo (frD (mtsD Z)) k+frD (mtsD Z) k:=rfl
  omega
 have h1:=h.ld.sum k _ hk hq' hoff
 have h2:=h.ld.byte k _ hk hq' hoff
 have e1:(plD (mtsD Z) sz n k).x.toNat=atTo (frD (mtsD Z)) sz n k:=Int.toNat_natCast _
 have hbd:=sumF_bd (F:=BTo sz Z n (offTo (frD (mtsD Z)) k+whQ (plD (mtsD Z) sz n) k c b)) (n:=sz) (BTo_byt _ _ _ _)
 unfold frSum
 rw [e1,numTo_ext h1,numTo_be4 _ hbd.1 hbd.2]
 unfold sumF
 rw [←h.bytes hk hc hb]
 congr 1
 have e2:(plD (mtsD Z) sz n k).y.toNat=firstAt (frD (mtsD Z)) sz n k:=Int.toNat_natCast _
 refine lst_ext fun j hj=>?_
 unfold frAt
 rw [e2,Nat.mul_comm _ sz,h2 j hj]
theorem chan(h:Pkd sz n Z F){k c:Nat}(hk:k<n)(hc:(c:Int)<(plD (mtsD Z) sz n k).c):c<(Z k).n/\samP (chL (Z k) c)/\(chL (Z k) c).length=(Z k).M 0/\(plD (mtsD Z) sz n k).n.toNat=(Z k).M 0:=by
 have hcn:c<(Z k).n:=by
  have:(plD (mtsD Z) sz n k).c=((Z k).n:Int):=rfl
  omega
 have hv:=h.v k hk
 refine⟨hcn,ch_samP hv c hcn,by rw [chL_len,hv.m c hcn],?_⟩
 show (Z k).len.toNat=_
 unfold Smp.len
 rw [if_neg (by have:=hv.n1;omega)]
 exact Int.toNat_natCast _
theorem good(h:Pkd sz n Z F)(w:World){k c b:Nat}(hk:k<n)(hc:(c:Int)<(plD (mtsD Z) sz n k).c)(hb:b<cnt (plD (mtsD Z) sz n k).n.toNat):
  openI (frSum (plD (mtsD Z) sz n) F k (whQ (plD (mtsD Z) sz n) k c b)) (lst (fun j => F (frAt sz (plD (mtsD Z) sz n) k (whQ (plD (mtsD Z) sz n) k c b) + j)) sz) = 0 := by
 obtain⟨h1,h2,h3,h4⟩:=h.chan hk hc
 rw [h.sum hk hc hb,h.bytes hk hc hb]
 obtain⟨x,_,_,hP,_,_,ht⟩:=frm_good h2 h.z1 h.z2 w (k:=b) (by rw [h3,←h4];exact hb)
 exact openI_ok rfl ⟨x.F,x.n,x.T,hP,ht⟩
end Pkd
def PkOk(sz:Int)(n:Nat)(L:Nat->Smp):Prop:=24<=sz/\sz<=96/\allI L n=0/\∀Z,Ordd L n Z->totalAt (frD (mtsD Z)) sz.toNat n<=4194304
theorem pack_is{w V:World}{sz:Int}{n:Nat}{L:Nat->Smp}{e:Ending}(h:PkR w sz n L e V):
  (∃er,er≠0/\e = .returned (.tuple #[.slice none 0 0,.int .i64 er])/\Old w V/\¬PkOk sz n L) \/
  (24<=sz/\sz<=96/\allI L n=0/\∃Z g F,e = .returned (.tuple #[.slice (some ⟨g,0,none⟩) (totalAt (frD (mtsD Z)) sz.toNat n) (totalAt (frD (mtsD Z)) sz.toNat n),.int .i64 0])/\Pkd sz.toNat n Z F/\Ordd L n Z/\FrtS w g (totalAt (frD (mtsD Z)) sz.toNat n) F V):=by
 rcases h with ⟨h0,h1,h2⟩ | ⟨_,h1,h2,h3⟩ | ⟨h0,h1,Z,h2,h3⟩
 ·exact .inl ⟨12,by decide,h1,h2,fun k=>h0 ⟨k.1,k.2.1⟩⟩
 ·exact .inl ⟨_,h1,h2,h3,fun k=>h1 k.2.2.1⟩
 ·rcases h3 with ⟨k1,k2,k3⟩ | ⟨k1,g,k2,F,k3,k4⟩
  ·exact .inl ⟨_,k1,k2,k3,fun k=>k1 (if_neg (by have:=k.2.2.2 Z h2;omega))⟩
  ·obtain⟨a1,a2,a3⟩:=allI_zero h1
   have hv:=h2.valid a2
   refine .inr ⟨h0.1,h0.2,h1,Z,g,F,k2,⟨by omega,by omega,a1,hv,?_,h2.dir a2,k4⟩,h2,k3⟩
   by_cases c:4194304<totalAt (frD (mtsD Z)) sz.toNat n
   ·rw [if_pos c] at k1;cases k1
   ·omega
theorem rise_one{n:Nat}{A C:Nat->ByteArray}(hA:∀i j,i<j->j<n->ltS (A i) (A j)=true)(hC:∀i j,i<j->j<n->ltS (C i) (C j)=true)
  (h1:∀i,i<n->∃j,j<n/\A i=C j) (h2:∀i,i<n->∃j,j<n/\C i=A j):∀i,i<n->A i=C i:=by
 have key:∀m,∀i,i<m->i<n->A i=C i:=by
  intro m
  induction m with
  | zero=>intro i h _;omega
  | succ m ih=>
   intro i him hi
   by_cases hlt:i<m
   ·exact ih i hlt hi
   obtain⟨a,ha,ea⟩:=h1 i hi
   obtain⟨b,hb,eb⟩:=h2 i hi
   have a1:i<=a:=by
    rcases Nat.lt_or_ge a i with h | h
    ·have h3:=hA a i h hi
     rw [ih a (by omega) ha,←ea,ltS_irr] at h3
     cases h3
    ·exact h
   have b1:i<=b:=by
    rcases Nat.lt_or_ge b i with h | h
    ·have h3:=hC b i h hi
     rw [←ih b (by omega) hb,←eb,ltS_irr] at h3
     cases h3
    ·exact h
   rcases Nat.lt_or_ge i a with h | h
   ·have h3:=hC i a h ha
    rw [←ea,eb] at h3
    rcases Nat.lt_or_ge i b with h4 | h4
    ·have h5:=hA i b h4 hb
     rw [ltS_asym h5] at h3
     cases h3
    ·obtain rfl:b=i:=by omega
     rw [ltS_irr] at h3
     cases h3
   ·obtain rfl:a=i:=by omega
    exact ea
 exact fun i hi=>key (i+1) i (by omega) hi
theorem name_one{L:Nat->Smp}{n:Nat}(hd:∀i j,i<n->j<n->i≠j->(L i).s≠(L j).s){i j:Nat}(hi:i<n)(hj:j<n)(h:(L i).s=(L j).s):i=j:=by
 by_cases e:i=j
 ·exact e
 ·exact absurd h (hd i j hi hj e)
theorem Ordd.of_srt{L:Nat->Smp}{n:Nat}{G:Nat->Int}{Z Y:Nat->Smp}(h:SrtO (nameR (nmS L)) (fun j=>(j:Int)) n G)(hz:∀i,i<n->(Z i).like (L (G i).toNat))
  (hd:∀i j,i<n->j<n->i≠j->(L i).s≠(L j).s) (hY:Ordd L n Y):∀i,i<n->(Z i).like (Y i):=by
 have hg:∀i,i<n->(G i).toNat<n:=fun i hi=>by
  obtain⟨m,hm,e⟩:=h.frm i hi
  rw [e];simpa using hm
 have hs:∀i,i<n->(Z i).s=(L (G i).toNat).s:=fun i hi=>(hz i hi).1
 have hA:∀i j,i<j->j<n->ltS (Z i).s (Z j).s=true:=fun i j hij hj=>by
  rw [hs i (by omega),hs j hj]
  rcases h.ord i j hij hj with h1 | ⟨h1,h2⟩
  ·exact h1
  ·cases h3:ltS (L (G i).toNat).s (L (G j).toNat).s
   ·have h4:=name_one hd (hg i (by omega)) (hg j hj) (ltS_tri h3 h1)
    obtain⟨m,hm,e⟩:=h.frm i (by omega)
    obtain⟨m',hm',e'⟩:=h.frm j hj
    rw [e,e'] at h2 h4
    simp at h2 h4
    omega
   ·rfl
 have hone:=rise_one (n:=n) (A:=fun i=>(Z i).s) (C:=fun i=>(Y i).s) hA hY.rise
  (fun i hi=>by
   obtain⟨j,hj,e⟩:=hY.all (G i).toNat (hg i hi)
   exact⟨j,hj,by show (Z i).s=(Y j).s;rw [hs i hi,e]⟩)
  (fun i hi=>by
   obtain⟨m,hm,e⟩:=hY.frm i hi
   obtain⟨k,hk,e2⟩:=h.all m hm
   exact⟨k,hk,by show (Y i).s=(Z k).s;rw [hs k hk,e,e2];simp⟩)
 intro i hi
 obtain⟨m,hm,e⟩:=hY.frm i hi
 have h1:=hone i hi
 have h2:(Z i).s=(Y i).s:=h1
 rw [hs i hi,e] at h2
 have h3:=name_one hd (hg i hi) hm h2
 have h4:=hz i hi
 rw [h3] at h4
 rw [e]
 exact h4
theorem Smp.like.meta{S T:Smp}(h:S.like T):smM S=smM T:=by
 have hl:=h.len
 obtain⟨h1,h2,h3,h4,h5,h6,h7,h8⟩:=h
 unfold smM
 rw [h1,h2,h3,h4,h5,h6,hl]
theorem Smp.like.frB{S T:Smp}(h:S.like T)(sz:Nat):frB sz S=frB sz T:=by
 obtain⟨h1,h2,h3,h4,h5,h6,h7,h8⟩:=h
 funext k j
 unfold Proofs.YtjakgghbdojlbaaGreatDoor.frB chL
 rw [h6,h7,h8]
theorem mts_one{n:Nat}{Z Y:Nat->Smp}(h:∀i,i<n->(Z i).like (Y i)):∀i,i<n->mtsD Z i=mtsD Y i:=fun i hi=>(h i hi).meta
theorem frD_one{n:Nat}{Z Y:Nat->Smp}(h:∀i,i<n->(Z i).like (Y i)):∀i,i<n->frD (mtsD Z) i=frD (mtsD Y) i:=fun i hi=>by
 unfold frD
 rw [mts_one h i hi]
theorem off_one{f g:Nat->Nat} : ∀{k:Nat},(∀i,i<k->f i=g i)->offTo f k=offTo g k
 | 0,_=>rfl
 | k+1,h=>by
  show offTo f k+f k=offTo g k+g k
  rw [off_one (fun i hi=>h i (by omega)),h k (by omega)]
theorem BTo_one(sz:Nat){Z Y:Nat->Smp} : ∀{n:Nat},(∀i,i<n->(Z i).like (Y i))->BTo sz Z n=BTo sz Y n
 | 0,_=>rfl
 | n+1,h=>by
  funext j
  show (if j<offTo (frD (mtsD Z)) n then BTo sz Z n j else Proofs.YtjakgghbdojlbaaGreatDoor.frB sz (Z n) (j-offTo (frD (mtsD Z)) n))=(if j<offTo (frD (mtsD Y)) n then BTo sz Y n j else Proofs.YtjakgghbdojlbaaGreatDoor.frB sz (Y n) (j-offTo (frD (mtsD Y)) n))
  rw [off_one (fun i hi=>frD_one h i (by omega)),BTo_one sz (fun i hi=>h i (by omega)),(h n (by omega)).frB]
theorem Smp.like.valid{S T:Smp}(h:S.like T)(v:SmpV T):SmpV S:=by
 have hm:=h.meta
 obtain⟨h1,h2,h3,h4,h5,h6,h7,h8⟩:=h
 obtain⟨v1,v2,v3,v4,v5,v6,v7⟩:=v
 exact⟨by rw [h6];exact v1,by rw [h6];exact v2,by rw [h6,h7];exact v3,by rw [h7];exact v4,by rw [h7];exact v5,by rw [h6,h7,h8];exact v6,by rw [hm];exact v7⟩
theorem MtsS.one{w:World}{p:Option Addr}{n:Nat}{D E:Nat->Mt}(h:MtsS w p n D)(e:∀i,i<n->D i=E i):MtsS w p n E where
 cell:=fun hn=>by
  obtain⟨g,o,h1,h2,h3⟩:=h.cell hn
  exact⟨g,o,h1,h2,fun i hi f v hf=>h3 i hi f v (by rw [e i hi];exact hf)⟩
 str:=fun i hi=>by rw [←e i hi];exact h.str i hi
theorem few_total{n sz:Nat}{Z:Nat->Smp}(hn:n<=8)(hz:sz<=96)(hv:∀i,i<n->SmpV (Z i))(hm:∀i,i<n->(Z i).M 0<=150):totalAt (frD (mtsD Z)) sz n<=4194304:=by
 have hf:∀i,i<n->frD (mtsD Z) i<=20:=fun i hi=>by
  have h1:frD (mtsD Z) i=cnt ((Z i).M 0)*(Z i).n:=smM_fr (hv i hi)
  have h2:cnt ((Z i).M 0)<=10:=by unfold cnt;have:=hm i hi;omega
  have h3:=Nat.mul_le_mul h2 (hv i hi).n2
  omega
 have key:∀k,k<=n->atTo (frD (mtsD Z)) sz n k<=20+64*n+2100*k:=by
  intro k
  induction k with
  | zero=>intro _;show 20+64*n<=_;omega
  | succ k ih=>
   intro hk
   have h1:=ih (by omega)
   have h2:=firstAt_le (frD (mtsD Z)) sz n k
   have h3:=Nat.mul_le_mul (hf k (by omega)) hz
   rw [atTo_succ]
   have:=hf k (by omega)
   omega
 have h1:=key n (Nat.le_refl _)
 unfold totalAt
 have h2:=up64_le (atTo (frD (mtsD Z)) sz n n)
 omega
def own3(a b c:Value)(q:Nat):Prop:=a.ownBlock=some q\/b.ownBlock=some q\/c.ownBlock=some q
def PkX(X:Nat->Prop)(W:World)(sz N:Nat)(vs:List Value)(B:Nat->Nat->Int):Prop:=
 ∀j,j<N->∃gb ob C,vs[j]?=some (.slice (some ⟨gb,ob,none⟩) sz C)/\sz<=C/\C<=maxLen/\¬X gb/\gb<W.heap.size/\∀i,i<sz->W.cell? ⟨gb,ob+i,none⟩=some (.int .u8 (B j i))
theorem PkX.kept{X Y K:Nat->Prop}{W W':World}{sz N:Nat}{vs:List Value}{B:Nat->Nat->Int}(h:PkX X W sz N vs B)(k:Kept K W W')(hK:∀q,q<W.heap.size->¬X q->K q)(hY:∀q,q<W.heap.size->Y q->X q):PkX Y W' sz N vs B:=fun j hj=>by
 obtain⟨gb,ob,C,h1,h2,h3,h4,h5,h6⟩:=h j hj
 exact⟨gb,ob,C,h1,h2,h3,fun e=>h4 (hY gb h5 e),Nat.lt_of_lt_of_le h5 k.size,fun i hi=>(k.cell (a:=⟨gb,ob+i,none⟩) (hK gb h5 h4)).trans (h6 i hi)⟩
theorem PkX.snoc{X:Nat->Prop}{W:World}{sz N:Nat}{vs:List Value}{B:Nat->Nat->Int}(h:PkX X W sz N vs B)(hl:vs.length=N){gb ob C:Nat}(h2:sz<=C)(h3:C<=maxLen)(h4:¬X gb)(h5:gb<W.heap.size)(h6:∀i,i<sz->W.cell? ⟨gb,ob+i,none⟩=some (.int .u8 (B N i))):
  PkX X W sz (N+1) (vs ++ [.slice (some ⟨gb,ob,none⟩) sz C]) B:=fun j hj=>by
 by_cases e:j<N
 ·obtain⟨gb',ob',C',k1,k2⟩:=h j e
  exact⟨gb',ob',C',by rw [List.getElem?_append_left (by omega)];exact k1,k2⟩
 ·obtain rfl:j=N:=by omega
  exact⟨gb,ob,C,by rw [List.getElem?_append_right (by omega),hl];simp,h2,h3,h4,h5,h6⟩
theorem PkX.pkV{X:Nat->Prop}{W:World}{v:Value}{sz N:Nat}{vs:List Value}{B:Nat->Nat->Int}(h:PkX X W sz N vs B)(hX:∀q,v.ownBlock=some q->X q):PkV W v sz N vs B:=fun j hj=>by
 obtain⟨gb,ob,C,h1,h2,h3,h4,h5⟩:=h j hj
 exact⟨gb,ob,C,h1,h2,h3,fun e=>h4 (hX gb e),h5⟩
def AlX(X:Nat->Prop)(W:World)(j N:Nat)(al:List Value)(Ls:Nat->Nat->Fr):Prop:=
 ∀i,i<j->∃fb,al[i]?=some (.slice (some ⟨fb,0,none⟩) N N)/\¬X fb/\fb<W.heap.size/\FrsS (fun q=>X q/\q<W.heap.size) W (some ⟨fb,0,none⟩) N (Ls i)
theorem AlX.kept{X Y K:Nat->Prop}{W W':World}{j N:Nat}{al:List Value}{Ls:Nat->Nat->Fr}(h:AlX X W j N al Ls)(k:Kept K W W')(hK:∀q,q<W.heap.size->¬X q->K q)(hY:∀q,q<W.heap.size->Y q->X q):AlX Y W' j N al Ls:=fun i hi=>by
 obtain⟨fb,h1,h2,h3,h4⟩:=h i hi
 refine⟨fb,h1,fun e=>h2 (hY fb h3 e),Nat.lt_of_lt_of_le h3 k.size,?_⟩
 refine⟨fun hn=>?_,fun m hm=>?_⟩
 ·obtain⟨g,o,e1,e2,e3⟩:=h4.1 hn
  injection e1 with e1
  injection e1 with e1 e5
  subst e1 e5
  exact⟨fb,0,rfl,Nat.lt_of_lt_of_le e2 k.size,fun q hq=>(k.cell (a:=⟨fb,0+q,none⟩) (hK fb h3 h2)).trans (e3 q hq)⟩
 ·obtain⟨p,cap,a1,a2,a3,a4,a5⟩:=(h4.2 m hm).kept k (fun q hq hx=>hK q hq fun e=>hx ⟨e,hq⟩)
  refine⟨p,cap,a1,a2,a3,a4,fun hn a ha hy=>?_⟩
  have hlt:a.block<W.heap.size:=by
   obtain⟨p0,cap0,b1,_,_,b4,_⟩:=h4.2 m hm
   rw [a1] at b1
   simp only [Value.slice.injEq] at b1
   obtain⟨rfl,_,_⟩:=b1
   obtain⟨g,o,c1,c2,_⟩:=b4 hn
   rw [ha] at c1
   injection c1 with c1
   rw [c1]
   exact c2
  exact a5 hn a ha ⟨hY _ hlt hy.1,hlt⟩
structure LF(w:World)(sz:Nat)(D:Nat->Mt)(k:Nat)(v8 v9 v12:Value)(N:Nat)(vs:List Value)(B:Nat->Nat->Int)(j NF:Nat)(al:List Value)(Ls:Nat->Nat->Fr)(wr:World):Prop where
 d:ownS (fun q=>q<w.heap.size) wr 45 9 v8 k (metL D k)
 o:ownS (fun q=>q<w.heap.size) wr 24 1 v9 N vs
 a:ownS (fun q=>q<w.heap.size) wr 104 1 v12 j al
 pk:PkX (own3 v8 v9 v12) wr sz N vs B
 fr:AlX (own3 v8 v9 v12) wr j NF al Ls
 old:Old w wr
theorem AlX.snoc{X:Nat->Prop}{W:World}{j N:Nat}{al:List Value}{Ls:Nat->Nat->Fr}(h:AlX X W j N al Ls)(hl:al.length=j){fb:Nat}{L:Nat->Fr}(h2:¬X fb)(h3:fb<W.heap.size)(h4:FrsS (fun q=>X q/\q<W.heap.size) W (some ⟨fb,0,none⟩) N L):
  AlX X W (j+1) N (al ++ [.slice (some ⟨fb,0,none⟩) N N]) (fun i=>if i=j then L else Ls i):=fun i hi=>by
 by_cases e:i<j
 ·obtain⟨fb',k1,k2,k3,k4⟩:=h i e
  exact⟨fb',by rw [List.getElem?_append_left (by omega)];exact k1,k2,k3,by dsimp only;rw [if_neg (by omega)];exact k4⟩
 ·obtain rfl:i=j:=by omega
  exact⟨fb,by rw [List.getElem?_append_right (by omega),hl];simp,h2,h3,by dsimp only;rw [if_pos rfl];exact h4⟩
namespace LF
variable {w wr A w3:World} {sz:Nat} {D:Nat->Mt} {k:Nat} {v8 v9 v12 v':Value} {N:Nat} {vs:List Value} {B:Nat->Nat->Int} {j NF:Nat} {al:List Value} {Ls:Nat->Nat->Fr}
theorem keep(h:LF w sz D k v8 v9 v12 N vs B j NF al Ls wr)(o:Old wr w3):LF w sz D k v8 v9 v12 N vs B j NF al Ls w3:=
 ⟨h.d.old o,h.o.old o,h.a.old o,h.pk.kept o (fun q hq _=>hq) (fun _ _ h=>h),h.fr.kept o (fun q hq _=>hq) (fun _ _ h=>h),h.old.trans o⟩
theorem addD(h:LF w sz D k v8 v9 v12 N vs B j NF al Ls wr)(o:Old wr A)(hown:ownS (but A v8) w3 45 9 v' (k+1) (metL D k ++ (D k).cells.toList))(hk:Kept (but A v8) A w3)(hv:∀q,v'.ownBlock=some q->v8.ownBlock=some q\/A.heap.size<=q):LF w sz D (k+1) v' v9 v12 N vs B j NF al Ls w3:=by
 rw [metL_snoc] at hown
 have hK:∀q,q<A.heap.size->¬own3 v8 v9 v12 q->but A v8 q:=fun q hq hx=>⟨hq,fun e=>hx (.inl e)⟩
 have hY:∀q,q<A.heap.size->own3 v' v9 v12 q->own3 v8 v9 v12 q:=fun q hq h=>h.elim (fun e=>(hv q e).elim .inl fun h2=>by omega) .inr
 exact⟨ls_own h.d h.old o hown hv,ls_other h.d h.o (by decide) o hk,ls_other h.d h.a (by decide) o hk,(h.keep o).pk.kept hk hK hY,(h.keep o).fr.kept hk hK hY,ls_old h.d h.old o hk⟩
theorem addO(h:LF w sz D k v8 v9 v12 N vs B j NF al Ls wr)(o:Old wr A){gb ob C:Nat}(h2:sz<=C)(h3:C<=maxLen)(h4:¬own3 v8 v9 v12 gb)(h5:gb<A.heap.size)(h6:∀i,i<sz->A.cell? ⟨gb,ob+i,none⟩=some (.int .u8 (B N i)))
  (hown:ownS (but A v9) w3 24 1 v' (N+1) (vs ++ [.slice (some ⟨gb,ob,none⟩) sz C])) (hk:Kept (but A v9) A w3) (hv:∀q,v'.ownBlock=some q->v9.ownBlock=some q\/A.heap.size<=q):LF w sz D k v8 v' v12 (N+1) (vs ++ [.slice (some ⟨gb,ob,none⟩) sz C]) B j NF al Ls w3:=by
 have hK:∀q,q<A.heap.size->¬own3 v8 v9 v12 q->but A v9 q:=fun q hq hx=>⟨hq,fun e=>hx (.inr (.inl e))⟩
 have hY:∀q,q<A.heap.size->own3 v8 v' v12 q->own3 v8 v9 v12 q:=fun q hq h=>h.elim .inl fun h=>h.elim (fun e=>(hv q e).elim (fun e=>.inr (.inl e)) fun h2=>by omega) fun e=>.inr (.inr e)
 exact⟨ls_other h.o h.d (by decide) o hk,ls_own h.o h.old o hown hv,ls_other h.o h.a (by decide) o hk,((h.keep o).pk.snoc (by have:=h.o.1.1;omega) h2 h3 h4 h5 h6).kept hk hK hY,(h.keep o).fr.kept hk hK hY,ls_old h.o h.old o hk⟩
theorem addA(h:LF w sz D k v8 v9 v12 N vs B j NF al Ls wr)(o:Old wr A){fb:Nat}{L:Nat->Fr}(h2:¬own3 v8 v9 v12 fb)(h3:fb<A.heap.size)(h4:FrsS (fun q=>own3 v8 v9 v12 q/\q<A.heap.size) A (some ⟨fb,0,none⟩) NF L)
  (hown:ownS (but A v12) w3 104 1 v' (j+1) (al ++ [.slice (some ⟨fb,0,none⟩) NF NF])) (hk:Kept (but A v12) A w3) (hv:∀q,v'.ownBlock=some q->v12.ownBlock=some q\/A.heap.size<=q):LF w sz D k v8 v9 v' N vs B (j+1) NF (al ++ [.slice (some ⟨fb,0,none⟩) NF NF]) (fun i=>if i=j then L else Ls i) w3:=by
 have hK:∀q,q<A.heap.size->¬own3 v8 v9 v12 q->but A v12 q:=fun q hq hx=>⟨hq,fun e=>hx (.inr (.inr e))⟩
 have hY:∀q,q<A.heap.size->own3 v8 v9 v' q->own3 v8 v9 v12 q:=fun q hq h=>h.elim .inl fun h=>h.elim (fun e=>.inr (.inl e)) fun e=>(hv q e).elim (fun e=>.inr (.inr e)) fun h2=>by omega
 exact⟨ls_other h.a h.d (by decide) o hk,ls_other h.a h.o (by decide) o hk,ls_own h.a h.old o hown hv,(h.keep o).pk.kept hk hK hY,((h.keep o).fr.snoc (by have:=h.a.1.1;omega) h2 h3 h4).kept hk hK hY,ls_old h.a h.old o hk⟩
theorem old3(h:LF w sz D k v8 v9 v12 N vs B j NF al Ls wr)(q:Nat)(hq:own3 v8 v9 v12 q):q<wr.heap.size:=hq.elim (h.d.lt q) fun hq=>hq.elim (h.o.lt q) (h.a.lt q)
theorem fresh(h:LF w sz D k v8 v9 v12 N vs B j NF al Ls wr)(NF':Nat)(Ls':Nat->Nat->Fr):LF w sz D k v8 v9 (.slice none 0 0) N vs B 0 NF' [] Ls' wr:=
 ⟨h.d,h.o,ownS.nil _ _ _ _,h.pk.kept (Kept.refl (fun _=>True) _) (fun _ _ _=>trivial) (fun q _ h=>h.elim .inl fun h=>h.elim (fun e=>.inr (.inl e)) fun e=>by cases e),fun i hi=>absurd hi (Nat.not_lt_zero _),h.old⟩
theorem reB{B':Nat->Nat->Int}(h:LF w sz D k v8 v9 v12 N vs B j NF al Ls wr)(e:∀q,q<N->B q=B' q):LF w sz D k v8 v9 v12 N vs B' j NF al Ls wr:=
 ⟨h.d,h.o,h.a,fun q hq=>by rw [←e q hq];exact h.pk q hq,h.fr,h.old⟩
end LF
theorem own3_12{v8 v9 v12 v':Value}{n:Nat}(hv:∀q,v'.ownBlock=some q->v12.ownBlock=some q\/n<=q):∀q,q<n->own3 v8 v9 v' q->own3 v8 v9 v12 q:=fun q hq h=>h.elim .inl fun h=>h.elim (fun e=>.inr (.inl e)) fun e=>(hv q e).elim (fun e=>.inr (.inr e)) fun h2=>by omega
theorem own3_9{v8 v9 v12 v':Value}{n:Nat}(hv:∀q,v'.ownBlock=some q->v9.ownBlock=some q\/n<=q):∀q,q<n->own3 v8 v' v12 q->own3 v8 v9 v12 q:=fun q hq h=>h.elim .inl fun h=>h.elim (fun e=>(hv q e).elim (fun e=>.inr (.inl e)) fun h2=>by omega) fun e=>.inr (.inr e)
theorem own3_8{v8 v9 v12 v':Value}{n:Nat}(hv:∀q,v'.ownBlock=some q->v8.ownBlock=some q\/n<=q):∀q,q<n->own3 v' v9 v12 q->own3 v8 v9 v12 q:=fun q hq h=>h.elim (fun e=>(hv q e).elim .inl fun h2=>by omega) .inr
structure BxR(X:Nat->Prop)(W:World)(b:Nat)(S:Smp):Prop where
 lt:b<W.heap.size
 out:¬X b
 blk:W.heap[b]?=some (.cells (smM S).cells 45 (0,0))
theorem BxR.step{X Y K:Nat->Prop}{W V:World}{b:Nat}{S:Smp}(h:BxR X W b S)(k:Kept K W V)(hK:∀q,q<W.heap.size->¬X q->K q)(hY:∀q,q<W.heap.size->Y q->X q):BxR Y V b S:=
 ⟨Nat.lt_of_lt_of_le h.lt k.size,fun e=>h.out (hY b h.lt e),(k.block b (hK b h.lt h.out)).trans h.blk⟩
theorem BxR.old{X:Nat->Prop}{W V:World}{b:Nat}{S:Smp}(h:BxR X W b S)(k:Old W V):BxR X V b S:=h.step k (fun q hq _=>hq) (fun _ _ h=>h)
def exS(p q:Option Addr):Smp:=⟨⟨#[97]⟩,1,false,0,0,p,1,1,fun _=>q,fun _=>1,fun _=>1,fun _ _=>5⟩
theorem exS_check(p q:Option Addr):(exS p q).check=0:=by
 unfold Smp.check
 have h1:wrongI (exS p q).s (exS p q).len (exS p q).r (exS p q).n (exS p q).lp (exS p q).a (exS p q).b=0:=by
  show wrongI ⟨#[97]⟩ (exS p q).len 1 1 false 0 0=0
  have hl:(exS p q).len=1:=by unfold Smp.len;rw [if_neg (by show ¬(1:Nat)=0;omega)];rfl
  have hn:nameB ⟨#[97]⟩=true:=nameB_yes ⟨⟨by decide,by decide⟩,fun i hi=>by
   have hi:i<1:=hi
   obtain rfl:i=0:=by omega
   decide⟩
  rw [hl]
  unfold wrongI
  rw [hn,if_neg (by decide),if_neg (by decide),if_neg (by decide),if_pos (by unfold loopP;decide)]
 have h2:¬(exS p q).odd:=fun⟨k,_,h⟩=>h rfl
 have h3:¬(exS p q).far:=fun⟨k,_,i,_,h⟩=>by
  have h:(5:Int) < -32768\/32767<(5:Int):=h
  omega
 rw [h1,if_neg (by decide),if_neg h2,if_neg h3]
theorem exS_all(p q:Option Addr):allI (fun _=>exS p q) 1=0:=by
 refine allI_ok (by omega) ?_ fun⟨i,k,h1,h2,_⟩=>by omega
 rw [errTo_next rfl]
 exact exS_check p q
theorem exS_dir{p q:Option Addr}{Z:Nat->Smp}(h:Ordd (fun _=>exS p q) 1 Z):Z 0=exS p q:=by
 obtain⟨m,_,e⟩:=h.frm 0 (by omega)
 exact e
theorem exS_nums{p q:Option Addr}{Z:Nat->Smp}(h:Ordd (fun _=>exS p q) 1 Z):totalAt (frD (mtsD Z)) 24 1=128/\plD (mtsD Z) 24 1 0=⟨⟨#[97]⟩,1,1,1,false,0,0,84,96⟩:=by
 have hf:frD (mtsD Z) 0=1:=by
  unfold frD mtsD
  rw [exS_dir h,smM_fr (Smp.check_v (exS_check p q))]
  show cnt 1*1=1
  decide
 have ha:atTo (frD (mtsD Z)) 24 1 0=84:=rfl
 have hfi:firstAt (frD (mtsD Z)) 24 1 0=96:=by unfold firstAt;rw [hf,ha];rfl
 refine⟨?_,?_⟩
 ·unfold totalAt
  rw [atTo_succ,hfi,hf]
  rfl
 ·unfold plD
  rw [ha,hfi]
  show (smM (Z 0)).at_ _ _=_
  rw [exS_dir h]
  have hl:(exS p q).len=1:=by unfold Smp.len;rw [if_neg (by show ¬(1:Nat)=0;omega)];rfl
  unfold smM Mt.at_
  rw [hl]
  rfl
theorem exS_sms(w:World)(T1 T2 T3:TypeId):SmsS (((w.alloc (.cells #[.int .i64 5] T1)).alloc (.cells #[.slice (some ⟨w.heap.size,0,none⟩) 1 1] T2)).alloc (.cells (exS (some ⟨w.heap.size+1,0,none⟩) (some ⟨w.heap.size,0,none⟩)).cells T3)) (some ⟨w.heap.size+1+1,0,none⟩) 1 (fun _=>exS (some ⟨w.heap.size+1,0,none⟩) (some ⟨w.heap.size,0,none⟩)):=by
 obtain⟨W1,hW1⟩:∃W,W=w.alloc (.cells #[.int .i64 5] T1):=⟨_,rfl⟩
 have s1:W1.heap.size=w.heap.size+1:=by rw [hW1];simp
 have h1:W1.heap[w.heap.size]?=some (.cells #[.int .i64 5] T1 (0,0)):=by rw [hW1];exact heap_alloc_new _ _
 obtain⟨W2,hW2⟩:∃W,W=W1.alloc (.cells #[.slice (some ⟨w.heap.size,0,none⟩) 1 1] T2):=⟨_,rfl⟩
 have s2:W2.heap.size=w.heap.size+1+1:=by rw [hW2,←s1];simp
 have h2:W2.heap[w.heap.size+1]?=some (.cells #[.slice (some ⟨w.heap.size,0,none⟩) 1 1] T2 (0,0)):=by rw [hW2,←s1];exact heap_alloc_new _ _
 have o2:Old W1 W2:=by rw [hW2];exact Old.alloc _ _
 rw [←hW1,←hW2]
 obtain⟨W3,hW3⟩:∃W,W=W2.alloc (.cells (exS (some ⟨w.heap.size+1,0,none⟩) (some ⟨w.heap.size,0,none⟩)).cells T3):=⟨_,rfl⟩
 have o3:Old W2 W3:=by rw [hW3];exact Old.alloc _ _
 have h3:W3.heap[w.heap.size+1+1]?=some (.cells (exS (some ⟨w.heap.size+1,0,none⟩) (some ⟨w.heap.size,0,none⟩)).cells T3 (0,0)):=by rw [hW3,←s2];exact heap_alloc_new _ _
 rw [←hW3]
 have h2':=(o3.block _ (lt_of_block h2)).trans h2
 have h1':=((o2.trans o3).block _ (lt_of_block h1)).trans h1
 refine⟨fun _=>⟨_,0,rfl,lt_of_block h3,fun i hi f v hf=>?_⟩,fun i hi=>⟨by show (1:Nat)<=_;omega,Nat.le_refl _,by show (1:Nat)<=maxLen;unfold maxLen;omega,⟨fun _=>⟨_,0,rfl,lt_of_block h2',fun i hi=>?_⟩,fun i hi=>⟨Nat.le_refl _,by show (1:Nat)<=maxLen;unfold maxLen;omega,fun _=>⟨_,0,rfl,lt_of_block h1',fun j hj=>?_⟩⟩⟩⟩⟩
 ·obtain rfl:i=0:=by omega
  rw [show 0+0*6+f=f by omega]
  exact(cell_of_row _ _ _ _ _ _ h3).trans hf
 ·have hi:i<1:=hi
  obtain rfl:i=0:=by omega
  exact(cell_of_row _ _ _ _ _ _ h2').trans rfl
 ·have hj:j<1:=hj
  obtain rfl:j=0:=by omega
  exact(cell_of_row _ _ _ _ _ _ h1').trans rfl
set_option maxHeartbeats 4000000 in
theorem awake_any(w:World):Calls Tryz.prog 8 #[] w fun e w'=>e = .returned (.bool true)/\Old w w':=by
 obtain⟨W3,hW3⟩:∃W,W=(((w.alloc (.cells #[.int .i64 5] 3)).alloc (.cells #[.slice (some ⟨w.heap.size,0,none⟩) 1 1] 52)).alloc (.cells (exS (some ⟨w.heap.size+1,0,none⟩) (some ⟨w.heap.size,0,none⟩)).cells 50)):=⟨_,rfl⟩
 have ho:Old w W3:=by rw [hW3];exact((Old.alloc w _).alloc' _).alloc' _
 have hsm:SmsS W3 (some ⟨w.heap.size+1+1,0,none⟩) 1 (fun _=>exS (some ⟨w.heap.size+1,0,none⟩) (some ⟨w.heap.size,0,none⟩)):=by rw [hW3];exact exS_sms w _ _ _
 have HPk:=zH (Pack_any 24 _ 1 1 _ W3 hsm (by omega))
 have HA:=zH (exS_all (some ⟨w.heap.size+1,0,none⟩) (some ⟨w.heap.size,0,none⟩))
 have HO:=zH ho
 obtain⟨L,hL⟩:∃L:Nat->Smp,L=fun _=>exS (some ⟨w.heap.size+1,0,none⟩) (some ⟨w.heap.size,0,none⟩):=⟨_,rfl⟩
 rw [←hL] at HPk HA
 have HNu:Hid (∀Z,Ordd L 1 Z->totalAt (frD (mtsD Z)) 24 1=128/\plD (mtsD Z) 24 1 0=⟨⟨#[97]⟩,1,1,1,false,0,0,84,96⟩):=zH fun Z h=>exS_nums (by rw [hL] at h;exact h)
 have HDr:Hid (∀Z,Ordd L 1 Z->dirP (mtsD Z) 1):=zH fun Z h=>h.dir fun i _=>by rw [hL];exact Smp.check_v (exS_check _ _)
 unfold exS Smp.cells at hW3
 have HW3:=zH hW3
 clear hW3 ho hsm hL
 go_enter Tryz.func8,Tryz.ntmps8
 go_wp2_with fail
 rw [←HW3.out]
 refine HPk.out.mono ?_
 rintro e V (⟨h1,_⟩ | ⟨_,h1,_⟩ | ⟨_,_,Z,hz,hb⟩)
 ·exact absurd ⟨by omega,by omega⟩ h1
 ·exact absurd HA.out h1
 obtain⟨n1,n2⟩:=HNu.out Z hz
 have hdr:=HDr.out Z hz
 rw [show (24:Int).toNat=24 from rfl,n1,if_neg (by omega)] at hb
 rcases hb with ⟨h1,_⟩ | ⟨_,g,rfl,hl⟩
 ·exact absurd rfl h1
 rw [n1] at hl ⊢
 obtain⟨F,hf,hld⟩:=hl
 have HOV:=zH (HO.out.trans hf.old)
 have hby:Byt F 128:=laid_byt hld fun i _=>BTo_byt _ _ _ _
 have hsu:SlU V (some ⟨g,0,none⟩) 128 F:=fun _=>⟨g,0,rfl,hf.row.lt,fun j hj=>by rw [Nat.zero_add];exact hf.row.at_ j hj⟩
 have HPa:=zH (Parse_any (some ⟨g,0,none⟩) 128 128 F V hsu hby (by omega) (by unfold maxLen;omega) (by omega))
 have hpp:∀e w',PrsR V F 128 e w'->∃bb q c im ci,e = .returned (.tuple #[.pointer (some ⟨bb,0,none⟩),.int .i64 0])/\BkB w' bb 24 1 128 q c im ci (plD (mtsD Z) 24 1) F/\Old V w':=fun e w' h=>by
  have hld':=hld
  rw [←n1] at h hld'
  have:=parse_packed (by omega) (by omega) (by omega) hdr hld' h
  rw [n1] at this
  exact this
 have HPp:=zH hpp
 have HN2:=zH n2
 clear n1 n2 hdr hz hf hld hby hsu hpp HNu HDr HPk HA HO HW3
 go_wp2_with fail
 refine HPa.out.mono ?_
 intro e V2 hh
 obtain⟨bb,q,c,im,ci,rfl,hbk,ho⟩:=HPp.out e V2 hh
 have hm:=BMeta_at bb 24 1 128 q c im ci _ F V2 hbk (by omega) (by omega) 0 (by omega)
 rw [HN2.out] at hm
 have HM:=zH hm
 have HO2:=zH (HOV.out.trans ho)
 clear hh hbk ho hm HPa HPp HOV
 unfold Mt.cells at HM
 go_wp2_with fail
 refine HM.out.mono ?_
 rintro e V3 ⟨rfl,ho⟩
 have HO3:=zH (HO2.out.trans ho)
 clear ho HM HO2
 go_wp2_with fail
 go_ret
 exact⟨rfl,HO3.out.alloc' _⟩
def FrmsC:Prop:=∀(sz n:Nat) (p:Option Addr) (cap:Nat) (Z:Nat->Smp) (w:World),24<=sz->sz<=96->n<=8->SmsS w p n Z->(∀i,i<n->SmpV (Z i))->(∀i,i<n->(Z i).M 0<=150) ->
 Calls Tryz.prog 10 #[.int .i64 sz,.slice p n cap] w fun e w'=>∃q c fp fc Q C,e = .returned (.tuple #[.slice q n c,.slice fp (offTo (frD (mtsD Z)) n) fc])/\MtsS w' q n (mtsD Z)/\RwU w' fp (offTo (frD (mtsD Z)) n) Q (fun _=>sz) C (BTo sz Z n)/\Old w w'
set_option maxHeartbeats 16000000 in
theorem bnkPk_any(hF:FrmsC)(sz:Int)(q:Option Addr)(n c:Nat)(L:Nat->Smp)(w:World)(hs:SmsS w q n L):
  Calls Tryz.prog 3 #[.int .i64 sz,.slice q n c] w fun e w'=>e = .returned (.bool true)/\Old w w':=by
 have HFw:=zH (Few15_any q n c L w hs)
 obtain⟨k,hk⟩:∃k,k=min n 8:=⟨_,rfl⟩
 have hk8:k<=8:=by omega
 unfold FewsR at HFw
 rw [←hk] at HFw
 have HF:=zH hF
 clear hs hk hF
 go_enter Tryz.func3,Tryz.ntmps3
 go_wp2_with fail
 refine HFw.out.mono ?_
 rintro e V1 ⟨p1,c1,Z0,rfl,hsm,hfew,o1⟩
 have HPk:=zH (Pack_any sz p1 k c1 Z0 V1 hsm (by omega))
 have HO1:=zH o1
 have HSm:=zH hsm
 have HM0:Hid (∀i,i<k->∀j,j<(Z0 i).n->(Z0 i).M j<=150):=zH fun i hi=>(hfew i hi).1.m
 have HN4:Hid (∀i,i<k->(Z0 i).n<=4):=zH fun i hi=>(hfew i hi).1.n
 clear hsm hfew o1 HFw
 go_wp2_with fail
 refine HPk.out.mono ?_
 intro e V2 hp
 clear HPk
 by_cases hz:¬(24<=sz/\sz<=96)
 ·obtain⟨rfl,o2⟩:e = .returned (.tuple #[.slice none 0 0,.int .i64 12])/\Old V1 V2:=by
   rcases hp with ⟨_,h1,h2⟩ | ⟨h0,_⟩ | ⟨h0,_⟩
   ·exact⟨h1,h2⟩
   ·exact absurd h0 hz
   ·exact absurd h0 hz
  have HE:=zH (HO1.out.trans o2)
  clear hp o2 HSm HM0 HN4 HF
  by_cases h1:sz<24
  ·clear hz
   go_wp2_with fail
   refine(awake_any _).mono ?_
   rintro e V3 ⟨rfl,o3⟩
   have HE3:=zH (HE.out.trans o3)
   clear o3 HE
   go_wp2_with fail
   go_ret
   exact⟨rfl,HE3.out⟩
  ·have h2:96<sz:=by omega
   clear hz
   go_wp2_with fail
   refine(awake_any _).mono ?_
   rintro e V3 ⟨rfl,o3⟩
   have HE3:=zH (HE.out.trans o3)
   clear o3 HE
   go_wp2_with fail
   go_ret
   exact⟨rfl,HE3.out⟩
 have hz:=Classical.not_not.1 hz
 have hz1:¬sz<24:=by omega
 have hz2:¬96<sz:=by omega
 obtain⟨E,hE⟩:∃E,E=allI Z0 k:=⟨_,rfl⟩
 have HCk:Hid (∀V,Old V1 V->Calls Tryz.prog 9 #[.slice p1 k c1] V fun e w'=>e = .returned (.int .i64 E)/\Old V w'):=zH fun V o=>by
  rw [hE]
  exact CheckAll_any p1 k c1 Z0 V (HSm.out.old o) (by omega)
 by_cases ha:E≠0
 ·obtain⟨rfl,o2⟩:e = .returned (.tuple #[.slice none 0 0,.int .i64 E])/\Old V1 V2:=by
   rw [hE] at ha ⊢
   rcases hp with ⟨h0,_⟩ | ⟨_,_,h1,h2⟩ | ⟨_,h0,_⟩
   ·exact absurd hz h0
   ·exact⟨h1,h2⟩
   ·exact absurd h0 ha
  have hd:(E != 0)=true:=by simpa using ha
  have HO2:=zH o2
  clear hp o2 hE ha HSm HM0 HN4 HF hz
  go_wp2_with fail
  refine(HCk.out V2 HO2.out).mono ?_
  rintro e V3 ⟨rfl,o3⟩
  have HO3:=zH (HO2.out.trans o3)
  obtain⟨E1,hE1⟩:∃x,x=E:=⟨_,rfl⟩
  have hCk2:=HCk.out V3 HO3.out
  rw [←hE1] at hCk2
  have hd2:(E == E1)=true:=by rw [hE1];simp
  have HCk2:=zH hCk2
  clear o3 HCk hE1 hCk2
  go_wp2_with fail
  refine HCk2.out.mono ?_
  rintro e V4 ⟨rfl,o4⟩
  have HO4:=zH (HO3.out.trans o4)
  clear o4 HCk2
  go_wp2_with fail
  refine(awake_any _).mono ?_
  rintro e V5 ⟨rfl,o5⟩
  have HE:=zH (HO1.out.trans (HO4.out.trans o5))
  clear o5
  go_wp2_with fail
  go_ret
  exact⟨rfl,HE.out⟩
 have ha:=Classical.not_not.1 ha
 have hall:allI Z0 k=0:=by rw [←hE];exact ha
 obtain⟨a1,a2,a3⟩:=allI_zero hall
 have hm0:∀i,i<k->(Z0 i).M 0<=150:=fun i hi=>HM0.out i hi 0 (by have:=(a2 i hi).n1;omega)
 obtain⟨z,rfl⟩:∃z:Nat,sz=z:=⟨sz.toNat,by omega⟩
 rcases pack_is hp with ⟨er,_,_,_,hno⟩ | ⟨h24,h96,_,Y,g,F,rfl,hpk,hord,hfs⟩
 ·exfalso
  refine hno ⟨hz.1,hz.2,hall,fun Y hY=>few_total hk8 (by omega) (hY.valid a2) fun i hi=>?_⟩
  obtain⟨m,hm,e⟩:=hY.frm i hi
  rw [e]
  exact hm0 m hm
 rw [Int.toNat_natCast] at *
 have hYm:∀i,i<k->(Y i).M 0<=150:=fun i hi=>by
  obtain⟨m,hm,e⟩:=hord.frm i hi
  rw [e]
  exact hm0 m hm
 obtain⟨N,hN⟩:∃N,N=totalAt (frD (mtsD Y)) z k:=⟨_,rfl⟩
 rw [←hN] at hfs ⊢
 have htot:=hpk.tot
 have hbyt:=hpk.bkN.byt
 rw [←hN] at htot hbyt
 have HZ:=zH hz
 have HHy:=zH (And.intro hpk (And.intro hord (And.intro a2 (And.intro a3 hYm))))
 have HNe:=zH hN
 have HB:=zH (And.intro htot hbyt)
 have HO2:=zH hfs.old
 have HFs:=zH hfs.row
 obtain rfl:E=0:=ha
 have HSt:=zH (fun V (o:Old V1 V)=>Sort_any2 p1 k c1 Z0 V (HSm.out.old o) (by omega) (fun i hi=>by have:=HN4.out i hi;omega) (fun i hi j hj=>by have:=HM0.out i hi j hj;omega))
 have HDr:=zH (fun V=>Dir_any k V (by omega))
 obtain⟨dk,hdk⟩:∃d:Int,d=((20+64*k:Nat):Int):=⟨_,rfl⟩
 rw [←hdk] at HDr
 have hd6:IntKind.i64.wrap (64*(k:Int))=64*(k:Int):=IntWalk.i64_in _ (by omega)
 have hd7:IntKind.i64.wrap (20+64*(k:Int))=dk:=by rw [IntWalk.i64_in _ (by omega)];omega
 have HDk:=zH (And.intro hd6 hd7)
 clear hp hE hall a1 a2 a3 hm0 h24 h96 hpk hord hfs hYm hN htot hbyt hz HSm HM0 HN4 hdk hd6 hd7
 go_wp2_with fail
 refine(HCk.out V2 HO2.out).mono ?_
 rintro e V3 ⟨rfl,o3⟩
 have HO3:=zH (HO2.out.trans o3)
 have HO23:=zH o3
 clear o3 HCk
 go_wp2_with fail
 refine(HSt.out V3 HO3.out).mono ?_
 rintro e V4 ⟨gs,G,Zs,rfl,hsrt,hlk,hss,o4⟩
 have HO4:=zH (HO3.out.trans o4)
 have HO24:=zH (HO23.out.trans o4)
 have hlike:∀i,i<k->(Zs i).like (Y i):=Ordd.of_srt hsrt hlk HHy.out.2.2.2.1 HHy.out.2.1
 have hvy:=HHy.out.2.1.valid HHy.out.2.2.1
 have hvz:∀i,i<k->SmpV (Zs i):=fun i hi=>(hlike i hi).valid (hvy i hi)
 have hfr:=HF.out z k (some ⟨gs,0,none⟩) k Zs V4 (by have:=HZ.out;omega) (by have:=HZ.out;omega) hk8 hss hvz (fun i hi=>by
  have h1:=HHy.out.2.2.2.2 i hi
  have h2:(Zs i).M=(Y i).M:=(hlike i hi).2.2.2.2.2.2.1
  rw [h2]
  exact h1)
 rw [off_one (fun i hi=>frD_one hlike i hi),BTo_one z hlike] at hfr
 have HMt:=zH (fun(V:World) qq (h:MtsS V qq k (mtsD Zs))=>h.one (mts_one hlike))
 have HFr:=zH hfr
 clear hfr hsrt hlk hss o4 hlike hvy hvz HSt HF
 go_wp2_with fail
 refine HFr.out.mono ?_
 rintro e V5 ⟨qd,cd,fp,fc,Q,C,rfl,hmt,hrw,o5⟩
 have HO5:=zH (HO4.out.trans o5)
 have HO25:=zH (HO24.out.trans o5)
 have hmt2:=HMt.out V5 qd hmt
 have HIm:=zH (fun V (o:Old V5 V)=>lawImage_any z k (offTo (frD (mtsD Y)) k) qd cd (mtsD Y) fp fc Q C (BTo z Y k) V (by have:=HZ.out;omega) (by have:=HZ.out;omega) (hmt2.old o) (by omega) (fun i hi=>(HHy.out.1.v i hi).ok) (hrw.old o) (Nat.le_refl _))
 rw [←HNe.out] at HIm
 obtain⟨s8,hs8⟩:∃s,s=strOfNums (lst F N):=⟨_,rfl⟩
 have HCv:Hid (∀V p2 c,SlU V p2 N F->N<=c->c<=maxLen->(convert 24 9 (.slice p2 N c)).run Tryz.prog V = .ok (.string s8) V):=zH fun V p2 c hV hc hm=>(by
  rw [hs8]
  exact conv_slI (hV.slI hc hm))
 have HSg:Hid (∀V,Old V5 V->SlU V (some ⟨g,0,none⟩) N F):=zH fun V o hm=>⟨g,0,rfl,(HFs.out.old (HO25.out.trans o)).lt,fun j hj=>by rw [Nat.zero_add];exact(HFs.out.old (HO25.out.trans o)).at_ j hj⟩
 have HLy:Hid (∀V W g2 c2,N<=c2->c2<=maxLen->LayS V g2 N (frD (mtsD Y)) z k (BTo z Y k) (frontF N k z (plD (mtsD Y) z k)) (offTo (frD (mtsD Y)) k) W->(convert 24 9 (.slice (some ⟨g2,0,none⟩) N c2)).run Tryz.prog W = .ok (.string s8) W):=zH fun V W g2 c2 h1 h2 ⟨F2,hf2,hl2⟩=>by
  have hl1:=HHy.out.1.ld
  rw [←HNe.out] at hl1
  have he:∀p,F2 p=F p:=fun p=>hl2.one hl1 (fun _ _=>rfl) p
  obtain rfl:F2=F:=funext he
  exact HCv.out W _ c2 (fun _=>⟨g2,0,rfl,hf2.row.lt,fun j hj=>by rw [Nat.zero_add];exact hf2.row.at_ j hj⟩) h1 h2
 have HNm:Hid (N<=maxLen):=zH (by have:=HB.out.1;unfold maxLen;omega)
 have HR5:=zH (Old.refl V5)
 clear hmt hmt2 hrw o5 hs8 HFr HMt HHy HB
 go_upto_region 8 with fail
 go_cut [4] (fun v wx=>v = .bool true/\Old V5 wx)
 case first=>as_aux_lemma=>
  have hd:Old V5 V5.drew:=(Old.refl V5).drew
  have HD:=zH hd
  clear hd
  refine wp_region_held_drew (S:=(fun V'=>Old V5 V')) (by kernel_rfl) ?_ (fun hHeld=>?_)
  ·(try dsimp only);exact HD.out
  refine wpU 0 rfl ?_;try simp only [Act.put,sA,sZ,sS]
  refine wpU 1 rfl ?_;try simp only [Act.put,sA,sZ,sS]
  refine wpU 2 rfl ?_;try simp only [Act.put,sA,sZ,sS]
  refine wpU 3 rfl ?_;try simp only [Act.put,sA,sZ,sS]
  refine wpT 4 (v:=(.string s8)) rfl (Or.inl ⟨by kernel_rfl,fun V' hSV=>by(try dsimp only at hSV);have hcB:=HCv.out V' _ N (HSg.out V' hSV) (Nat.le_refl _) HNm.out;go_simp⟩) (by assumption) ?_;try simp only [Act.put,sA,sZ,sS]
  refine wpU 5 rfl ?_;try simp only [Act.put,sA,sZ,sS]
  refine wpU 6 rfl ?_;try simp only [Act.put,sA,sZ,sS]
  refine wpU 7 rfl ?_;try simp only [Act.put,sA,sZ,sS]
  refine wpAnyH_ready (rs:=[8]) (by kernel_rfl) (by simp) ?_
  refine AllReadyH.cons (o:=⟨_,_,_,_,_,_⟩) (by rfl) ?_ AllReadyH.nil
  intro K hK
  go_simp
  refine(HIm.out _ HD.out).mono ?_
  rintro e V6 ⟨g2,c2,rfl,hc1,hc2,hly⟩
  have HO6:=zH (HD.out.trans (hly.lt.2.1))
  have hcB:=HLy.out _ V6 g2 c2 hc1 hc2 hly
  clear hc1 hc2 hly HIm
  go_wp2_with fail
  refine hK.out _ _ ?_ (fun hHeld=>?_)
  ·(try dsimp only);exact HO6.out
  clear hK K
  try simp only [Act.put,sA,sZ,sS]
  refine wpAnyH_ready (rs:=[9]) (by kernel_rfl) (by simp) ?_
  refine AllReadyH.cons (o:=⟨_,_,_,_,_,_⟩) (by rfl) ?_ AllReadyH.nil
  intro K hK
  go_simp
  go_wp2_with fail
  refine hK.out _ _ ?_ (fun hHeld=>?_)
  ·(try dsimp only);exact HO6.out
  clear hK K
  try simp only [Act.put,sA,sZ,sS]
  refine wpT 10 (v:=(.bool true)) rfl (Or.inl ⟨by kernel_rfl,fun V' hSV=>by(try dsimp only at hSV);go_simp;try simp⟩) (by assumption) ?_;try simp only [Act.put,sA,sZ,sS]
  obtain⟨d6,d7⟩:=HDk.out
  refine wpU 11 rfl ?_;try simp only [Act.put,sA,sZ,sS]
  refine wpU 12 rfl ?_;try simp only [Act.put,sA,sZ,sS]
  refine wpU 13 rfl ?_;try simp only [Act.put,sA,sZ,sS]
  refine wpU 14 rfl ?_;try simp only [Act.put,sA,sZ,sS]
  refine wpU 16 rfl ?_;try simp only [Act.put,sA,sZ,sS]
  refine wpU 17 rfl ?_;try simp only [Act.put,sA,sZ,sS]
  refine wpU 18 rfl ?_;try simp only [Act.put,sA,sZ,sS]
  refine wpU 19 rfl ?_;try simp only [Act.put,sA,sZ,sS]
  refine wpAnyH_ready (rs:=[15]) (by kernel_rfl) (by simp) ?_
  refine AllReadyH.cons (o:=⟨_,_,_,_,_,_⟩) (by rfl) ?_ AllReadyH.nil
  intro K hK
  go_simp
  refine(HDr.out _).mono ?_
  rintro e V7 ⟨rfl,hv⟩
  subst hv
  go_wp2_with fail
  refine hK.out _ _ ?_ (fun hHeld=>?_)
  ·(try dsimp only);exact HO6.out
  clear hK K
  try simp only [Act.put,sA,sZ,sS]
  refine wpT 20 (v:=(.bool true)) rfl (Or.inl ⟨by kernel_rfl,fun V' hSV=>by(try dsimp only at hSV);go_simp;try simp⟩) (by assumption) ?_;try simp only [Act.put,sA,sZ,sS]
  refine wpU 21 rfl ?_;try simp only [Act.put,sA,sZ,sS]
  refine wpU 22 rfl ?_;try simp only [Act.put,sA,sZ,sS]
  refine wpU 23 rfl ?_;try simp only [Act.put,sA,sZ,sS]
  refine wpU 24 rfl ?_;try simp only [Act.put,sA,sZ,sS]
  refine wpU 25 rfl ?_;try simp only [Act.put,sA,sZ,sS]
  refine wpU 26 rfl ?_;try simp only [Act.put,sA,sZ,sS]
  refine wpU 27 rfl ?_;try simp only [Act.put,sA,sZ,sS]
  refine wpU 28 rfl ?_;try simp only [Act.put,sA,sZ,sS]
  refine wpAnyH_ready (rs:=[29]) (by kernel_rfl) (by simp) ?_
  refine AllReadyH.cons (o:=⟨_,_,_,_,_,_⟩) (by rfl) ?_ AllReadyH.nil
  intro K hK
  go_simp
  refine(awake_any _).mono ?_
  rintro e V8 ⟨rfl,o8⟩
  have HO8:=zH (HO6.out.trans o8)
  clear o8
  go_wp2_with fail
  refine hK.out _ _ ?_ (fun hHeld=>?_)
  ·(try dsimp only);exact HO8.out
  clear hK K
  try simp only [Act.put,sA,sZ,sS]
  refine wpU 30 rfl ?_;try simp only [Act.put,sA,sZ,sS]
  refine wpU 31 rfl ?_;try simp only [Act.put,sA,sZ,sS]
  refine wpAnyH_done (by kernel_rfl) ?_ _
  go_wp2_with fail
  go_meet
  exact⟨rfl,HO8.out⟩
 case rest=>as_aux_lemma=>
  obtain⟨rfl,o9⟩:=hcut
  have HE:=zH (HO1.out.trans (HO5.out.trans o9))
  clear o9
  go_wp2_with fail
  go_ret
  exact⟨rfl,HE.out⟩
end Go.Proofs.YtjakgghbdojlbaaGreatDoor
