/- Texts joined: BankW, BankX, BankZ, BankAA, BankAB, BankAC, BankAD, BankAE, BankAF, BankAG, BankAJ, BankAH, ChanQ, BankAK, BankAL. -/
import Derived.Deep.RegionHeld
import Derived.Test.YtgefdmfcddpaiaaGreatDoorPkAI
import Derived.Test.YtgefdmfcddpaiaaGreatDoorPkAN
import Derived.Test.YtgefdmfcddpaiaaGreatDoorPkAO
import Derived.Test.YtgefdmfcddpaiaaGreatDoorPkAT
import Derived.Test.YtgefdmfcddpaiaaGreatDoorPkAU
import Derived.Test.YtgefdmfcddpaiaaGreatDoorPkAV
import Derived.Test.YtgefdmfcddpaiaaGreatDoorPkAW
import Derived.Test.YtgefdmfcddpaiaaGreatDoorPkBC
import Derived.Test.YtgefdmfcddpaiaaGreatDoorTk
namespace Go.Proofs.YtgefdmfcddpaiaaGreatDoor
set_option linter.unusedVariables false
set_option linter.unusedSimpArgs false
set_option maxRecDepth 100000
open Go.RowKit Go.ChangeShapes Go.WideShapes
open Classical in
noncomputable def frmL(sz:Nat)(xs:List Int)(k:Nat):List Int:=
 if h:∃x:Fr,FitR (rowAt (spC (decide (55<=(sz:Int))) (cnt xs.length) fun j=>xs.getD j 0) k) (gnR (decide (55<=(sz:Int))) (fun j=>xs.getD j 0) k) sz x then padded (enc h.choose.F h.choose.n h.choose.T) sz else padded [] sz
def FmX(sz:Nat)(xs:List Int)(N:Nat)(L:Nat->Fr):Prop:=FmG sz (decide (55<=(sz:Int))) (fun j=>xs.getD j 0) (spC (decide (55<=(sz:Int))) (cnt xs.length) fun j=>xs.getD j 0) N L
theorem enc_same{F G T U:Nat->Int}{n m:Nat}(h:sameP F n T G m U):enc F n T=enc G m U:=by
 obtain⟨rfl,h2,h3⟩:=h
 exact enc_congr h3 h2
theorem frmL_is{sz:Nat}{xs:List Int}{N:Nat}{L:Nat->Fr}(h:FmX sz xs N L)(i:Nat)(hi:i<N):frmL sz xs i=padded (enc (L i).F (L i).n (L i).T) sz:=by
 unfold frmL
 have hx:∃x:Fr,FitR (rowAt (spC (decide (55<=(sz:Int))) (cnt xs.length) fun j=>xs.getD j 0) i) (gnR (decide (55<=(sz:Int))) (fun j=>xs.getD j 0) i) sz x:=⟨L i,(h i hi).1⟩
 rw [dif_pos hx,enc_same (fitR_same hx.choose_spec (h i hi).1)]
theorem frmL_len(sz:Nat)(xs:List Int)(k:Nat):(frmL sz xs k).length=sz:=by
 unfold frmL
 split <;> exact length_padded _ _
theorem frmL_byt(sz:Nat)(xs:List Int)(k:Nat):isBytes (frmL sz xs k):=by
 unfold frmL
 split <;> exact isBytes_padded _ _
structure SmpV(S:Smp):Prop where
 n1:1<=S.n
 n2:S.n<=2
 m:∀k,k<S.n->S.M k=S.M 0
 m1:1<=S.M 0
 m2:S.M 0<=1048576
 x:∀k,k<S.n->∀j,j<S.M k->-32768<=S.X k j/\S.X k j<=32767
 ok:(smM S).OkR
theorem Smp.check_v{S:Smp}(h:S.check=0):SmpV S:=by
 unfold Smp.check at h
 by_cases h1:wrongI S.s S.len S.r S.n S.lp S.a S.b≠0
 ·rw [if_pos h1] at h;omega
 rw [if_neg h1] at h
 by_cases h2:S.odd
 ·rw [if_pos h2] at h;omega
 rw [if_neg h2] at h
 by_cases h3:S.far
 ·rw [if_pos h3] at h;omega
 have hok:(smM S).OkR:=(Mt.ok_iff _).1 (by unfold Mt.ok;exact Classical.not_not.1 h1)
 have a1:=hok.c1
 have a2:=hok.c2
 have a3:=hok.n1
 have a4:=hok.n2
 have c1:(smM S).c=S.n:=rfl
 have c2:(smM S).n=S.len:=rfl
 rw [c1] at a1 a2
 rw [c2] at a3 a4
 have hlen:S.len=S.M 0:=by unfold Smp.len;rw [if_neg (by omega)]
 rw [hlen] at a3 a4
 have hm:∀k,k<S.n->S.M k=S.M 0:=fun k hk=>by
  by_cases e:S.M k=S.M 0
  ·exact e
  ·exact absurd ⟨k,hk,e⟩ h2
 refine⟨by omega,by omega,hm,by omega,by omega,fun k hk j hj=>?_,hok⟩
 by_cases e:S.X k j < -32768\/32767<S.X k j
 ·exact absurd ⟨k,hk,j,hj,e⟩ h3
 ·omega
def chL(S:Smp)(c:Nat):List Int:=lst (S.X c) (S.M c)
theorem chL_len(S:Smp)(c:Nat):(chL S c).length=S.M c:=lst_len _ _
noncomputable def frB(sz:Nat)(S:Smp)(k:Nat):Nat->Int:=fun j=>(frmL sz (chL S (k%S.n)) (k/S.n)).getD j 0
theorem frB_byt(sz:Nat)(S:Smp)(k:Nat):Byt (frB sz S k) sz:=fun j hj=>by
 have h:=frmL_byt sz (chL S (k%S.n)) (k/S.n)
 unfold frB
 have hl:=frmL_len sz (chL S (k%S.n)) (k/S.n)
 rw [show (frmL sz (chL S (k%S.n)) (k/S.n)).getD j 0=(frmL sz (chL S (k%S.n)) (k/S.n))[j]'(by omega) by simp [List.getD,show j<(frmL sz (chL S (k%S.n)) (k/S.n)).length by omega]]
 exact h _ (List.getElem_mem _)
theorem smM_fr{S:Smp}(h:SmpV S):(smM S).fr=cnt (S.M 0)*S.n:=by
 have hlen:S.len=S.M 0:=by unfold Smp.len;rw [if_neg (by have:=h.n1;omega)]
 unfold Mt.fr
 show cnt (S.len).toNat*((S.n:Int)).toNat=_
 rw [hlen]
 simp
theorem ch_slI{w:World}{S:Smp}(h:SmOk w S)(c:Nat)(hc:c<S.n):SlI w .i64 (.slice (S.Q c) (S.M c) (S.C c)) (chL S c):=by
 obtain⟨a,b,r⟩:=h.rows.row c hc
 refine⟨S.Q c,S.C c,by rw [chL_len],fun hne=>?_⟩
 have h0:0<S.M c:=by
  rcases Nat.eq_zero_or_pos (S.M c) with e | e
  ·unfold chL at hne;rw [e] at hne;exact absurd rfl hne
  ·exact e
 obtain⟨g,o,h1,h2,h3⟩:=r h0
 refine⟨g,o,h1,h2,by rw [chL_len];exact a,b,fun i hi=>?_⟩
 rw [chL_len] at hi
 unfold chL
 rw [h3 i hi,lst_getD _ _ _ hi]
theorem ch_samP{S:Smp}(h:SmpV S)(c:Nat)(hc:c<S.n):samP (chL S c):=lst_mem (fun j hj=>h.x c hc j hj)
theorem number_any(m:Mt)(C ch bl:Nat)(w:World)(hC:m.c=C)(h2:C<=2)(hb:bl<=65536)(hc:ch<=2):
  Calls Tryz.prog 47 #[.agg m.cells,.int .i64 ch,.int .i64 bl] w fun e w'=>e = .returned (.int .i64 ((bl*C+ch:Nat):Int))/\Old w w':=by
 have hp:bl*C<=65536*2:=Nat.mul_le_mul hb h2
 obtain⟨u,hu⟩:∃u,u=bl*C:=⟨_,rfl⟩
 have e1:(bl:Int)*m.c=u:=by rw [hC,hu,Int.natCast_mul]
 have e2:wrap64 ((bl:Int)*m.c)=u:=by rw [e1];exact IntWalk.wrap64_in _ (by omega)
 have HO:=zH (Old.alloc w (.cells m.cells 85))
 rw [←hu] at hp ⊢
 clear hu hC e1
 unfold Mt.cells at *
 go_enter Tryz.func47,Tryz.ntmps47
 go_wp2_with fail
 go_ret
 exact⟨ret_int (by omega),HO.out⟩
theorem Tryz.info_rows:(Tryz.prog.info? 34).map (fun i=>(i.zero,i.size,i.bytes))=some (some (.slice none 0 0),1,24):=by kernel_rfl
theorem made_sl(n:Nat):madeCells (Value.slice none 0 0:Value).cells n=rowN n (fun _=>.slice none 0 0):=by
 apply Array.ext_getElem?
 intro i
 by_cases hi:i<n
 ·rw [rowN_at n _ i hi]
  have h1:(Value.slice none 0 0:Value).cells.size=1:=rfl
  simp [madeCells,hi,Value.cells,Nat.mod_one]
 ·rw [Array.getElem?_eq_none (by rw [size_madeCells];omega),Array.getElem?_eq_none (by rw [rowN_size];omega)]
theorem make_rows(n:Nat)(hn:n<=1099511627776)(w:World):(Instr.makeSlice 145 (.int .i64 n) (.int .i64 n)).run Tryz.prog w = .ok (.slice (some ⟨w.heap.size,0,none⟩) n n) (w.alloc (.cells (rowN n (fun _=>.slice none 0 0)) 34)):=by
 obtain⟨i,hi,hz0,hz1,hz2⟩:=info_parts Tryz.info_rows
 rw [run_make w _ _ i _ Tryz.underlying145 hi hz0 .i64 .i64 n n (by omega) (by omega) (by rw [hz2];omega) (by omega),hz1,Int.toNat_natCast,Nat.mul_one,made_sl n]
structure FwS(w:World)(g fr sz:Nat)(B:Nat->Nat->Int)(P:Nat->Prop)(W:World):Prop where
 lt:g<W.heap.size
 ge:w.heap.size<=g
 there:W.there g 0 fr
 cell:∀k,k<fr->P k->∃gb ob C,W.cell? ⟨g,k,none⟩=some (.slice (some ⟨gb,ob,none⟩) sz C)/\sz<=C/\C<=maxLen/\gb≠g/\w.heap.size<=gb/\gb<W.heap.size/\∀j,j<sz->W.cell? ⟨gb,ob+j,none⟩=some (.int .u8 (B k j))
 old:Old w W
theorem FwS.on{w W W':World}{g fr sz:Nat}{B:Nat->Nat->Int}{P:Nat->Prop}(h:FwS w g fr sz B P W)(o:Old W W'):FwS w g fr sz B P W' where
 lt:=Nat.lt_of_lt_of_le h.lt o.size
 ge:=h.ge
 there:=fun j hj=>by
  have:=h.there j hj
  exact⟨by rw [o.cell (a:=⟨g,0+j,none⟩) h.lt];exact this.1,by rw [Kept.frozen o (a:=⟨g,0+j,none⟩) h.lt];exact this.2⟩
 cell:=fun k hk hP=>by
  obtain⟨gb,ob,C,h1,h2,h3,h4,h4',h5,h6⟩:=h.cell k hk hP
  exact⟨gb,ob,C,(o.cell (a:=⟨g,k,none⟩) h.lt).trans h1,h2,h3,h4,h4',Nat.lt_of_lt_of_le h5 o.size,fun j hj=>(o.cell (a:=⟨gb,ob+j,none⟩) h5).trans (h6 j hj)⟩
 old:=h.old.trans o
theorem FwS.put{w W:World}{g fr sz:Nat}{B:Nat->Nat->Int}{P:Nat->Prop}(h:FwS w g fr sz B P W)(k:Nat)(hk:k<fr)(gb ob C:Nat)(h1:sz<=C)(h2:C<=maxLen)(h3:gb≠g)(h3':w.heap.size<=gb)(h4:gb<W.heap.size)(h5:∀j,j<sz->W.cell? ⟨gb,ob+j,none⟩=some (.int .u8 (B k j))):
  FwS w g fr sz B (fun q=>P q\/q=k) (W.setCell ⟨g,k,none⟩ (.slice (some ⟨gb,ob,none⟩) sz C)):=by
 have hK:=Kept.setCell (X:=fun q=>q≠g) W (a:=⟨g,k,none⟩) (fun e=>e rfl) (.slice (some ⟨gb,ob,none⟩) sz C)
 have hck:=(h.there k hk).1
 rw [Nat.zero_add] at hck
 obtain⟨u,hu⟩:=Option.isSome_iff_exists.1 hck
 have hnew:=World.cell?_setCell_same W (a:=⟨g,k,none⟩) (.slice (some ⟨gb,ob,none⟩) sz C) hu
 have hoth:∀q,q≠k->(W.setCell ⟨g,k,none⟩ (.slice (some ⟨gb,ob,none⟩) sz C)).cell? ⟨g,q,none⟩=W.cell? ⟨g,q,none⟩:=fun q hq=>World.cell?_setCell_other _ _ _ _ (fun e=>by injection e with _ e2;exact hq e2.symm)
 refine⟨by have:=h.lt;simpa [World.setCell] using this,h.ge,fun j hj=>?_,fun q hq hP=>?_,h.old.after hK fun q hq=>by have:=h.ge;omega⟩
 ·have hj:=h.there j hj
  rw [Nat.zero_add] at hj ⊢
  refine⟨?_,by rw [World.frozen?_setCell];exact hj.2⟩
  by_cases e:j=k
  ·rw [e,hnew];rfl
  ·rw [hoth j e];exact hj.1
 ·by_cases e:q=k
  ·subst e
   exact⟨gb,ob,C,hnew,h1,h2,h3,h3',by have:=h4;simpa [World.setCell] using this,fun j hj=>(hK.cell (a:=⟨gb,ob+j,none⟩) h3).trans (h5 j hj)⟩
  ·obtain⟨gb',ob',C',a1,a2,a3,a4,a4',a5,a6⟩:=h.cell q hq (hP.elim id fun e'=>absurd e' e)
   exact⟨gb',ob',C',by rw [hoth q e];exact a1,a2,a3,a4,a4',by simpa [World.setCell] using a5,fun j hj=>(hK.cell (a:=⟨gb',ob'+j,none⟩) a4).trans (a6 j hj)⟩
theorem FwS.imp{w W:World}{g fr sz:Nat}{B:Nat->Nat->Int}{P P':Nat->Prop}(h:FwS w g fr sz B P W)(e:∀k,k<fr->P' k->P k):FwS w g fr sz B P' W:=⟨h.lt,h.ge,h.there,fun k hk hP=>h.cell k hk (e k hk hP),h.old⟩
theorem fw_nums(bl sz n c:Nat)(hb:bl<=65536)(hz:sz<=96):∃lo hi:Nat,lo=bl*sz/\hi=lo+sz /\
  (wrap64 ((bl:Int)*sz)=lo/\IntKind.i64.wrap ((bl:Int)*sz)=lo)/\∃kp:Int,(bl:Int)+1=kp/\IntKind.i64.wrap ((bl:Int)+1)=kp/\wrap64 ((bl:Int)+1)=kp/\IntKind.i64.wrap (kp*(sz:Int))=hi/\wrap64 (kp*(sz:Int))=hi:=by
 have h1:bl*sz<=65536*96:=Nat.mul_le_mul hb hz
 have h2:((bl:Int)+1)*(sz:Int)=((bl*sz+sz:Nat):Int):=by rw [Int.add_mul,Int.one_mul,←Int.natCast_mul];omega
 refine⟨_,_,rfl,rfl,⟨?_,?_⟩,_,rfl,?_,?_,?_,?_⟩
 ·rw [←Int.natCast_mul];exact IntWalk.wrap64_in _ (by omega)
 ·rw [←Int.natCast_mul];exact IntWalk.i64_in _ (by omega)
 ·exact IntWalk.i64_in _ (by omega)
 ·exact IntWalk.wrap64_in _ (by omega)
 ·rw [h2];exact IntWalk.i64_in _ (by omega)
 ·rw [h2];exact IntWalk.wrap64_in _ (by omega)
theorem mod_mul_add(bl n c:Nat)(hc:c<n):(bl*n+c)%n=c/\(bl*n+c)/n=bl:=by
 rw [Nat.mul_comm]
 exact⟨by rw [Nat.mul_add_mod,Nat.mod_eq_of_lt hc],by rw [Nat.mul_add_div (by omega),Nat.div_eq_of_lt hc,Nat.add_zero]⟩
theorem FwS.new{w V:World}(ho:Old w V)(fr sz:Nat)(B:Nat->Nat->Int)(hfr:fr<=1099511627776):FwS w V.heap.size fr sz B (fun _=>False) (V.alloc (.cells (rowN fr (fun _=>.slice none 0 0)) 34)) where
 lt:=by simp
 ge:=ho.size
 there:=fun j hj=>by
  rw [Nat.zero_add]
  exact⟨by rw [(cell_of_row _ _ _ _ _ _ (heap_alloc_new _ _)).trans (rowN_at fr _ j hj)];rfl,frozen_of_row _ _ _ _ _ (heap_alloc_new _ _)⟩
 cell:=fun k hk h=>h.elim
 old:=ho.alloc' _
theorem cb_at(sz:Nat)(L:Nat->Fr)(N bl j:Nat)(hbl:bl<N)(hj:j<sz):(cbytes sz L N).getD (bl*sz+j) 0=(padded (enc (L bl).F (L bl).n (L bl).T) sz).getD j 0:=by
 rw [←cbytes_row sz L bl N hbl]
 simp [List.getD_eq_getElem?_getD,List.getElem?_take,List.getElem?_drop,hj]
set_option maxHeartbeats 16000000 in
theorem framesOf_any(b sz:Nat)(S:Smp)(w:World)(hb:CoB w b sz)(h24:24<=sz)(h96:sz<=96)(hs:SmOk w S)(hv:SmpV S):
  Calls Tryz.prog 63 #[.pointer (some ⟨b,0,none⟩),.agg S.cells] w fun e w'=>∃g,e = .returned (.tuple #[.slice (some ⟨g,0,none⟩) (smM S).fr (smM S).fr,.int .i64 0])/\FwS w g (smM S).fr sz (frB sz S) (fun _=>True) w':=by
 obtain⟨bx,hbx⟩:∃b,b=w.heap.size:=⟨_,rfl⟩
 obtain⟨W0,hW0⟩:∃W,W=w.alloc (.cells S.cells 90):=⟨_,rfl⟩
 have ho0:Old w W0:=by rw [hW0];exact Old.alloc _ _
 have hsb:SmB W0 bx S:=by rw [hW0,hbx];exact SmB.new w S
 have hn1:=hv.n1
 have hn2:=hv.n2
 have hm1:=hv.m1
 have hm2:=hv.m2
 have hfr:=smM_fr hv
 have hfrb:=hv.ok.fr_le
 obtain⟨gd,od,hSp,hgd,hcd⟩:=hs.rows.cell (by omega)
 have HSp:=zH hSp
 have HGd:=zH (And.intro hgd hcd)
 clear hSp hgd hcd
 have HSB:=zH hsb
 have HO0:=zH ho0
 have HV:=zH hv
 have HS:=zH hs
 have HCo:=zH hb
 have HMe:=zH (Meta_any S W0 (hs.old ho0))
 rw [smM_cells] at HMe
 obtain⟨X,hX⟩:∃X,X=(smM S).cells:=⟨_,rfl⟩
 have HFs:=zH (fun V=>Frames_any (smM S) hv.ok V)
 rw [←hX] at HMe HFs
 have HX:=zH hX
 have HX9:Hid (X.size=9):=zH (by rw [hX];rfl)
 have HX1:Hid (X.all (·.oneCell')=true):=zH (by rw [hX];exact Mt.one _)
 have Hs9:Hid ((Tryz.prog.info? 85).map (·.size)=some 9):=zH (by kernel_rfl)
 obtain⟨fr,hfrr⟩:∃f,f=(smM S).fr:=⟨_,rfl⟩
 rw [←hfrr] at hfr hfrb HFs ⊢
 obtain⟨N,hN⟩:∃N,N=cnt (S.M 0):=⟨_,rfl⟩
 rw [←hN] at hfr
 have hN1:1<=N/\N<=65536:=by rw [hN];unfold cnt;omega
 have HNf:=zH (And.intro hN (And.intro hfr (And.intro h24 h96)))
 obtain⟨c0,c1,c2,c3,c4,c5⟩:=hsb.at
 have hW0':W0=w.alloc (.cells #[.string S.s,.int .i64 S.r,.bool S.lp,.int .i64 S.a,.int .i64 S.b,.slice S.p S.n S.c] 90):=hW0
 have HW0:=zH hW0'
 have HBX:=zH hbx
 have HC5:=zH c5
 unfold Smp.val at HMe
 unfold Smp.cells at HMe ⊢
 clear hbx hW0 hW0' ho0 hsb hs hv hb hX hfrr hN h24 h96 hm1 hm2 hfr
 go_enter Tryz.func63,Tryz.ntmps63
 go_upto_region 1 with (fail)
 rw [←HW0.out,←HBX.out]
 go_wp2_with fail
 refine HMe.out.mono ?_
 rintro e V1 ⟨rfl,ho⟩
 have HO1:=zH (HO0.out.trans ho)
 have HSB1:=zH (HSB.out.old ho)
 clear ho HMe HSB c0 c1 c2 c3 c4 c5 HO0
 have HSz:=zH (CSize_any b sz V1 (HCo.out.old HO1.out))
 go_wp2_with fail
 refine HSz.out.mono ?_
 rintro e V1' ⟨rfl,rfl⟩
 clear HSz
 obtain⟨bm,hbm⟩:∃b,b=V1.heap.size:=⟨_,rfl⟩
 obtain⟨W2,hW2⟩:∃W,W=V1.alloc (.cells X 85):=⟨_,rfl⟩
 have HMB:=zH (show W2.heap[bm]?=some (.cells X 85 (0,0)) by rw [hW2,hbm];exact heap_alloc_new _ _)
 have HO2:=zH (show Old w W2 by rw [hW2];exact HO1.out.alloc' _)
 have HSB2:=zH (show SmB W2 bx S by rw [hW2];exact HSB1.out.old (Old.alloc _ _))
 have HW2:=zH hW2
 have HBM:=zH hbm
 have HBne:Hid (bx<bm):=zH (by have:=lt_of_block HSB1.out;omega)
 clear hbm hW2 HSB1
 go_wp2_with (first
  | (with_reducible refine wpList_store_row rfl 85 _ _ rfl V1.heap.size X rfl rfl 85 _ (heap_alloc_new _ _) (by rw [HX9.out];exact Hs9.out) (by rw [HX9.out];kernel_rfl) HX1.out ?_;rw [World.setRow_alloc_new,←HW2.out,←HBM.out])
  | (with_reducible refine wpList_load_row rfl 85 _ rfl bm rfl 85 X (0,0) _ HMB.out Tryz.underlying85 rfl (by rw [HX9.out];exact Hs9.out) ?_))
 refine(HFs.out _).mono ?_
 rintro e V3 ⟨rfl,ho⟩
 have HO3:=zH (HO2.out.trans ho)
 have HSB3:=zH (HSB2.out.old ho)
 have HMB3:=zH ((ho.block _ (lt_of_block HMB.out)).trans HMB.out)
 clear ho HFs HO2 HSB2 HMB HW2 HBM HO1
 have hn1:=HV.out.n1
 have hmk:=make_rows fr (by omega) V3
 obtain⟨g,hg⟩:∃g,g=V3.heap.size:=⟨_,rfl⟩
 obtain⟨W4,hW4⟩:∃W,W=V3.alloc (.cells (rowN fr (fun _=>.slice none 0 0)) 34):=⟨_,rfl⟩
 rw [←hW4,←hg] at hmk
 have HF4:Hid (FwS w g fr sz (frB sz S) (fun k=>k%S.n<0) W4):=zH (by rw [hW4,hg];exact(FwS.new HO3.out fr sz _ (by omega)).imp fun k _ h=>by omega)
 have HS4:=zH (show SmB W4 bx S by rw [hW4];exact HSB3.out.old (Old.alloc _ _))
 have HM4:Hid (W4.heap[bm]?=some (.cells X 85 (0,0))):=zH (by rw [hW4];exact((Old.alloc V3 _).block bm (lt_of_block HMB3.out)).trans HMB3.out)
 have HGn:Hid (bx≠g/\bm≠g):=zH (by have h1:=lt_of_block HSB3.out;have h2:=lt_of_block HMB3.out;omega)
 have c5:W4.cell? ⟨bx,5,none⟩=some (.slice (some ⟨gd,od,none⟩) S.n S.c):=by rw [←HSp.out];exact HS4.out.at.2.2.2.2.2
 clear hW4 hg HO3 HSB3 HMB3 HBne
 go_wp2_with fail
 clear c5 hmk
 go_loopw [25] (fun iv wr=>∃c:Nat,c<=S.n/\iv = .int .i64 c/\Hid (FwS w g fr sz (frB sz S) (fun k=>k%S.n<c) wr)/\Hid (SmB wr bx S)/\Hid (wr.heap[bm]?=some (.cells X 85 (0,0)))) (fun i _=>S.n-(intOf i).toNat)
 case atStart=>exact⟨0,Nat.zero_le _,by go_num,HF4,HS4,HM4⟩
 case round=>
  clear HF4 HS4 HM4
  obtain⟨c,hc,rfl,HF,HSb,HMb⟩:=hrel
  by_cases hcn:c<S.n
  ·obtain⟨xs,hxs⟩:∃xs,xs=chL S c:=⟨_,rfl⟩
   have hsl:=(ch_slI HS.out c hcn).old HF.out.old
   have hMc:=HV.out.m c hcn
   have hm2:=HV.out.m2
   have hcnt:cnt (S.M c)=N:=by rw [hMc];exact HNf.out.1.symm
   have hCF:=CFrames_any b sz (S.Q c) (S.M c) (S.C c) (chL S c) wr (HCo.out.old HF.out.old) (by have:=HNf.out.2.2.1;omega) (by have:=HNf.out.2.2.2;omega) hsl (ch_samP HV.out c hcn) (by omega)
   rw [hcnt] at hCF
   have HCF:=zH hCF
   have ct:wr.cell? ⟨gd,od+c,none⟩=some (.slice (S.Q c) (S.M c) (S.C c)):=(HF.out.old.cell (a:=⟨gd,od+c,none⟩) HGd.out.1).trans (HGd.out.2 c hcn)
   have hlen:(chL S c).length=S.M c:=chL_len S c
   have HFx:Hid (∀L,FmG sz (decide (55<=(sz:Int))) (fun j=>(chL S c).getD j 0) (spC (decide (55<=(sz:Int))) N fun j=>(chL S c).getD j 0) N L->FmX sz (chL S c) N L):=zH fun L h=>by
    unfold FmX
    rw [hlen,hcnt]
    exact h
   have HSa:Hid (∀q,-32768<=(chL S c).getD q 0/\(chL S c).getD q 0<=32768):=zH fun q=>by have:=samP_at (ch_samP HV.out c hcn) q;omega
   obtain⟨Q,hQ⟩:∃Q,Q=S.Q c:=⟨_,rfl⟩
   obtain⟨M,hM⟩:∃M,M=S.M c:=⟨_,rfl⟩
   obtain⟨C,hC⟩:∃C,C=S.C c:=⟨_,rfl⟩
   rw [←hQ,←hM,←hC] at ct HCF
   have i0:(0:Int)<=c:=by omega
   have i1:(c:Int)<S.n:=by omega
   clear hsl hMc hcnt hCF hlen hQ hM hC hxs
   go_wp2_with fail
   refine HCF.out.mono ?_
   rintro e V ⟨fb,L,rfl,hfs,hfm,ho⟩
   have HFV:=zH (HF.out.on ho)
   have HSV:=zH (HSb.out.old ho)
   have HMV:=zH ((ho.block _ (lt_of_block HMb.out)).trans HMb.out)
   have hmay:=fun i hi=>fmG_may HSa.out (by have:=HNf.out.2.2.1;omega) hfm i hi
   have hCB:=CBytes_any b sz (some ⟨fb,0,none⟩) N N L _ V (HCo.out.old HFV.out.old) HNf.out.2.2.1 HNf.out.2.2.2 hfs (fun i hi=>(hmay i hi).1) (fun i hi=>(hmay i hi).2.1) (fun i hi=>(hmay i hi).2.2) (by omega)
   have HCB:=zH hCB
   have HX2:=zH (HFx.out L hfm)
   clear ct ho hfs hfm hmay hCB HF HSb HMb HCF HFx HSa
   go_wp2_with fail
   refine HCB.out.mono ?_
   rintro e V2 ⟨v,rfl,hown,ho⟩
   have HFV2:=zH (HFV.out.on ho)
   have HSV2:=zH (HSV.out.old ho)
   have HMV2:=zH ((ho.block _ (lt_of_block HMV.out)).trans HMV.out)
   have hN1':=hN1.1
   have hT0:24<=N*sz:=by have h1:=HNf.out.2.2.1;have h2:1*sz<=N*sz:=Nat.mul_le_mul_right sz hN1.1;omega
   have hTb:N*sz<=65536*96:=Nat.mul_le_mul hN1.2 HNf.out.2.2.2
   obtain⟨g2,cap2,rfl,hgw,hg2,hg3,hl2,hc2,hcells⟩:∃g2 cap2,v = .slice (some ⟨g2,0,none⟩) (N*sz) cap2/\w.heap.size<=g2/\g2≠g/\g2<V2.heap.size/\N*sz<=cap2/\cap2<=maxLen/\∀i,i<N*sz->V2.cell? ⟨g2,i,none⟩=some (.int .u8 ((cbytes sz L N).getD i 0)):=by
    have hl:=cbytes_len sz L N
    rcases hown.shape with ⟨_,h0⟩ | ⟨g2,cap2,hv,hX2,hg2,h1,h2,h3⟩
    ·omega
    ·rw [hl] at hv h1
     have hX2:¬g2<V.heap.size:=hX2
     have:=HFV.out.lt
     have:=HFV.out.old.size
     refine⟨g2,cap2,hv,by omega,by omega,hg2,h1,h2,fun i hi=>h3 i _ ?_⟩
     rw [List.getElem?_map,List.getElem?_eq_getElem (by omega)]
     simp [List.getD,show i<(cbytes sz L N).length by omega]
   obtain⟨T,hT⟩:∃T,T=N*sz:=⟨_,rfl⟩
   rw [←hT] at hT0 hTb hl2 hcells ⊢
   have HT:=zH hT
   have HCl:=zH (And.intro hg2 (And.intro hl2 (And.intro hT0 (And.intro hTb (And.intro hc2 hgw)))))
   have HV2:=zH (show FwS w g fr sz (frB sz S) (fun k=>k%S.n<c\/(k%S.n=c/\k/S.n<0)) V2 from HFV2.out.imp fun k _ h=>h.elim id fun h=>absurd h.2 (Nat.not_lt_zero _))
   have HU2:Hid (g2<V2.heap.size/\∀i,i<T->V2.cell? ⟨g2,i,none⟩=some (.int .u8 ((cbytes sz L N).getD i 0))):=zH ⟨hg3,hcells⟩
   clear hown ho hT hcells hgw hg2 hg3 hl2 hc2 hT0 hTb HFV HSV HMV HFV2 HCB
   obtain⟨wo,rfl⟩:∃V,V=V2:=⟨_,rfl⟩
   go_wp2_with fail
   go_loopw [50] (fun iv wr=>∃bl:Nat,bl<=N/\iv = .int .i64 bl/\Hid (FwS w g fr sz (frB sz S) (fun k=>k%S.n<c\/(k%S.n=c/\k/S.n<bl)) wr)/\Hid (SmB wr bx S)/\Hid (wr.heap[bm]?=some (.cells X 85 (0,0)))/\Hid (g2<wr.heap.size/\∀i,i<T->wr.cell? ⟨g2,i,none⟩=some (.int .u8 ((cbytes sz L N).getD i 0)))) (fun i _=>N-(intOf i).toNat)
   case atStart=>exact⟨0,Nat.zero_le _,by go_num,HV2,HSV2,HMV2,HU2⟩
   case round=>
    clear HV2 HSV2 HMV2 HU2
    obtain⟨bl,hbl,rfl,HF,HSb,HMb,HU⟩:=hrel
    by_cases hbn:bl<N
    ·obtain⟨lo,hi,hlo,hhi,hE1,kp,hkp,f1,f2,f3,f4⟩:=fw_nums bl sz S.n c (by omega) HNf.out.2.2.2
     have HE:=zH (And.intro hE1 (And.intro f1 (And.intro f2 (And.intro f3 f4))))
     clear f1 f2 f3 f4 hE1 hkp
     obtain⟨r,hr⟩:∃r,r=bl*S.n+c:=⟨_,rfl⟩
     have hrf:r<fr:=by
      have h1:(bl+1)*S.n<=N*S.n:=Nat.mul_le_mul_right _ hbn
      have h2:=HNf.out.2.1
      rw [Nat.add_mul,Nat.one_mul] at h1
      omega
     have hhT:hi<=T:=by
      have h1:(bl+1)*sz<=N*sz:=Nat.mul_le_mul_right _ hbn
      have h2:=HT.out
      rw [Nat.add_mul,Nat.one_mul] at h1
      omega
     have hNu:∀V,Calls Tryz.prog 47 #[.agg X,.int .i64 c,.int .i64 bl] V fun e w'=>e = .returned (.int .i64 (r:Nat))/\Old V w':=fun V=>by
      rw [HX.out,hr]
      exact number_any (smM S) S.n c bl V rfl (by omega) (by omega) (by omega)
     have HNu:=zH hNu
     obtain⟨C3,hC3⟩:∃c,c=cap2-lo:=⟨_,rfl⟩
     have hcl:=HCl.out
     have hsz:=HNf.out.2.2.1
     have hcut:∀w',(Instr.sliceAt 34 (.slice (some ⟨g2,0,none⟩) T cap2) (some (.int .i64 lo)) (some (.int .i64 hi)) none).run Tryz.prog w' = .ok (.slice (some ⟨g2,lo,none⟩) sz C3) w':=fun w'=>by
      have:=cut_lh g2 0 T cap2 lo hi (by omega) (by omega) w'
      rw [Nat.zero_add,←hC3,show hi-lo=sz by omega] at this
      exact this
     have HPut:Hid (∀V,Old wr V->V.heap.size<=maxLen\/True->FwS w g fr sz (frB sz S) (fun k=>k%S.n<c\/(k%S.n=c/\k/S.n<bl+1)) (V.setCell ⟨g,r,none⟩ (.slice (some ⟨g2,lo,none⟩) sz C3))):=zH fun V hV _=>by
      have hh:=HF.out.on hV
      obtain⟨x1,x2⟩:=mod_mul_add bl S.n c hcn
      rw [←hr] at x1 x2
      refine(hh.put r hrf g2 lo C3 (by omega) (by omega) hcl.1 hcl.2.2.2.2.2 (Nat.lt_of_lt_of_le HU.out.1 hV.size) (fun j hj=>?_)).imp (fun q hq hP=>?_)
      ·rw [(hV.cell (a:=⟨g2,lo+j,none⟩) HU.out.1).trans (HU.out.2 (lo+j) (by omega)),hlo,cb_at sz L N bl j hbn hj]
       unfold frB
       rw [x1,x2,frmL_is HX2.out bl hbn]
      ·by_cases e:q=r
       ·exact Or.inr e
       ·refine Or.inl (hP.elim Or.inl fun h=>Or.inr ⟨h.1,?_⟩)
        by_cases e2:q/S.n=bl
        ·have:=Nat.div_add_mod q S.n
         rw [e2,h.1,Nat.mul_comm] at this
         omega
        ·omega
     have HRf:=zH hrf
     have i0:(0:Int)<=r:=by omega
     have i1:(r:Int)<fr:=by omega
     have HMd:Hid (wr.drew.heap[bm]?=some (.cells X 85 (0,0))):=zH HMb.out
     clear hNu hlo hhi hr hrf hhT hC3 hcl hsz
     go_wp2_with fail
     obtain⟨⟨e1,e2⟩,f1,f2,f3,f4⟩:=HE.out
     refine wp_region_held_drew (S:=(fun V=>V.heap[bm]?=some (.cells X 85 (0,0)))) (by kernel_rfl) ?_ (fun hHeld=>?_)
     ·(try dsimp only);exact HMd.out
     refine wpU 0 rfl ?_;try simp only [Act.put,sA,sZ,sS]
     refine wpT 1 (v:=.agg X) rfl (yieldsIf_load_row (by kernel_rfl) 85 (.tmp 6) rfl bm rfl 85 X (0,0) _ (fun _ h=>h) Tryz.underlying85 rfl (by rw [HX9.out];exact Hs9.out)) (by assumption) ?_;try simp only [Act.put,sA,sZ,sS]
     refine wpU 2 rfl ?_;try simp only [Act.put,sA,sZ,sS]
     refine wpU 3 rfl ?_;try simp only [Act.put,sA,sZ,sS]
     refine wpU 5 rfl ?_;try simp only [Act.put,sA,sZ,sS]
     refine wpU 6 rfl ?_;try simp only [Act.put,sA,sZ,sS]
     refine wpU 7 rfl ?_;try simp only [Act.put,sA,sZ,sS]
     refine wpU 8 rfl ?_;try simp only [Act.put,sA,sZ,sS]
     refine wpU 9 rfl ?_;try simp only [Act.put,sA,sZ,sS]
     refine wpU 10 rfl ?_;try simp only [Act.put,sA,sZ,sS]
     refine wpU 11 rfl ?_;try simp only [Act.put,sA,sZ,sS]
     refine wpU 12 rfl ?_;try simp only [Act.put,sA,sZ,sS]
     refine wpU 13 rfl ?_;try simp only [Act.put,sA,sZ,sS]
     refine wpR 4 rfl (fun K hK=>?_)
     go_simp
     refine(HNu.out _).mono ?_
     rintro e V ⟨rfl,o1⟩
     have HV1:=zH ((Old.drew (Old.refl wr)).trans o1)
     clear o1
     go_wp2_with fail
     have HMV:Hid (V.heap[bm]?=some (.cells X 85 (0,0))):=zH ((HV1.out.block _ (lt_of_block HMb.out)).trans HMb.out)
     refine hK.out _ _ ?_ (fun hHeld=>?_)
     ·(try dsimp only);exact HMV.out
     clear hK K
     try simp only [Act.put,sA,sZ,sS]
     refine wpU 14 rfl ?_;try simp only [Act.put,sA,sZ,sS]
     have hth:=(HF.out.on HV1.out).there r HRf.out
     rw [Nat.zero_add] at hth
     obtain⟨u,ck⟩:=Option.isSome_iff_exists.1 hth.1
     have fk:V.frozen? ⟨g,r,none⟩=false:=hth.2
     obtain⟨W5,hW5⟩:∃W,W=V.setCell ⟨g,r,none⟩ (.slice (some ⟨g2,lo,none⟩) sz C3):=⟨_,rfl⟩
     have hK:=Kept.setCell (X:=fun q=>q≠g) V (a:=⟨g,r,none⟩) (fun e=>e rfl) (.slice (some ⟨g2,lo,none⟩) sz C3)
     rw [←hW5] at hK
     have HP:=zH (HPut.out V HV1.out (Or.inr trivial))
     rw [←hW5] at HP
     have HM5:Hid (W5.heap[bm]?=some (.cells X 85 (0,0))):=zH ((hK.block bm HGn.out.2).trans HMV.out)
     have HS5:=zH (show SmB W5 bx S from(hK.block bx HGn.out.1).trans (HSb.out.old HV1.out))
     have HU5:Hid (g2<W5.heap.size/\∀i,i<T->W5.cell? ⟨g2,i,none⟩=some (.int .u8 ((cbytes sz L N).getD i 0))):=zH ⟨by
      have h1:=HU.out.1
      have h2:=HV1.out.size
      rw [hW5,World.size_setCell]
      omega,fun i hi=>(hK.cell (a:=⟨g2,i,none⟩) HCl.out.1).trans ((HV1.out.cell (a:=⟨g2,i,none⟩) HU.out.1).trans (HU.out.2 i hi))⟩
     have HW5:=zH hW5
     clear hth hK hW5 HPut HNu HSb HMb HF HU HV1 HMd
     refine wpR 15 rfl (fun K hK=>?_)
     go_simp
     rw [←HW5.out]
     refine hK.out _ _ ?_ (fun hHeld=>?_)
     ·(try dsimp only);exact HM5.out
     clear hK K
     try simp only [Act.put,sA,sZ,sS]
     refine wpAnyH_done (by kernel_rfl) ?_ _
     clear e1 e2 f1 f2 f3 f4 ck fk hcut
     go_wp2_with fail
     go_roundw
     case rel=>exact⟨bl+1,by omega,by go_num,HP,HS5,HM5,HU5⟩
     case measure=>simp [intOf];omega
    ·have HE:=zH (show FwS w g fr sz (frB sz S) (fun k=>k%S.n<c+1) wr from HF.out.imp fun k hk h=>by
      have h3:=HNf.out.2.1
      have h2:k/S.n<N:=Nat.div_lt_of_lt_mul (by rw [Nat.mul_comm];omega)
      omega)
     have hend:¬((bl:Int)<(N:Int)):=by omega
     clear HF HU
     go_wp2_with fail
     go_roundw
     case rel=>exact⟨c+1,by omega,by go_num,HE,HSb,HMb⟩
     case measure=>simp [intOf];omega
  ·have HE:=zH (show FwS w g fr sz (frB sz S) (fun _=>True) wr from HF.out.imp fun k hk h=>by
    have:=Nat.mod_lt k (show 0<S.n by omega)
    omega)
   have hend:¬((c:Int)<(S.n:Int)):=by omega
   clear HF HSb HMb
   go_wp2_with fail
   go_ret2
   exact⟨g,rfl,HE.out⟩
theorem FrtS.lift{v w:World}{g N:Nat}{F:Nat->Int}{W:World}(h:FrtS w g N F W)(o:Old v w):FrtS v g N F W:=⟨h.row,Nat.le_trans o.size h.ge,o.trans h.old⟩
theorem LayS.lift{v w:World}{g N:Nat}{f:Nat->Nat}{sz n:Nat}{B:Nat->Nat->Int}{H:Nat->Int}{k:Nat}{W:World}(h:LayS w g N f sz n B H k W)(o:Old v w):LayS v g N f sz n B H k W:=by
 obtain⟨F,h1,h2⟩:=h
 exact⟨F,h1.lift o,h2⟩
theorem BldR.lift{v w:World}{sz n K:Nat}{D:Nat->Mt}{B:Nat->Nat->Int}{er:Int}{e:Ending}{w':World}(h:BldR w sz n K D B er e w')(o:Old v w):BldR v sz n K D B er e w':=by
 rcases h with ⟨h1,h2,h3⟩ | ⟨h1,g,h2,h3⟩
 ·exact .inl ⟨h1,h2,o.trans h3⟩
 ·exact .inr ⟨h1,g,h2,h3.lift o⟩
def mtsD(Z:Nat->Smp):Nat->Mt:=fun i=>smM (Z i)
noncomputable def BTo(sz:Nat)(Z:Nat->Smp):Nat->Nat->Nat->Int
 | 0=>fun _ _=>0
 | k+1=>fun j=>if j<offTo (frD (mtsD Z)) k then BTo sz Z k j else frB sz (Z k) (j-offTo (frD (mtsD Z)) k)
theorem BTo_byt(sz:Nat)(Z:Nat->Smp)(k j:Nat):Byt (BTo sz Z k j) sz:=by
 induction k generalizing j with
 | zero=>intro i _;exact⟨by show (0:Int)<=0;omega,by show (0:Int)<256;omega⟩
 | succ k ih=>
  show Byt (if j<offTo (frD (mtsD Z)) k then BTo sz Z k j else frB sz (Z k) (j-offTo (frD (mtsD Z)) k)) sz
  split
  ·exact ih j
  ·exact frB_byt _ _ _
def PkV(W:World)(v:Value)(sz N:Nat)(vs:List Value)(B:Nat->Nat->Int):Prop:=
 ∀j,j<N->∃gb ob C,vs[j]?=some (.slice (some ⟨gb,ob,none⟩) sz C)/\sz<=C/\C<=maxLen/\v.ownBlock≠some gb/\gb<W.heap.size/\∀i,i<sz->W.cell? ⟨gb,ob+i,none⟩=some (.int .u8 (B j i))
theorem PkV.on{W W':World}{v:Value}{sz N:Nat}{vs:List Value}{B:Nat->Nat->Int}(h:PkV W v sz N vs B)(o:Old W W'):PkV W' v sz N vs B:=fun j hj=>by
 obtain⟨gb,ob,C,h1,h2,h3,h4,h5,h6⟩:=h j hj
 exact⟨gb,ob,C,h1,h2,h3,h4,Nat.lt_of_lt_of_le h5 o.size,fun i hi=>(o.cell (a:=⟨gb,ob+i,none⟩) h5).trans (h6 i hi)⟩
theorem PkV.snoc{W W':World}{v v':Value}{sz N fr:Nat}{vs news:List Value}{B B2:Nat->Nat->Int}(h:PkV W v sz N vs B)(hn:PkV W v sz fr news B2)(hl:vs.length=N)(hk:Kept (fun q=>q<W.heap.size/\v.ownBlock≠some q) W W')(hv:∀k,v'.ownBlock=some k->v.ownBlock=some k\/W.heap.size<=k):
  PkV W' v' sz (N+fr) (vs ++ news) (fun j=>if j<N then B j else B2 (j-N)):=fun j hj=>by
 by_cases e:j<N
 ·obtain⟨gb,ob,C,h1,h2,h3,h4,h5,h6⟩:=h j e
  refine⟨gb,ob,C,by rw [List.getElem?_append_left (by omega)];exact h1,h2,h3,fun e'=>(hv gb e').elim h4 (by omega),Nat.lt_of_lt_of_le h5 hk.size,fun i hi=>?_⟩
  dsimp only
  rw [if_pos e]
  exact(hk.cell (a:=⟨gb,ob+i,none⟩) ⟨h5,h4⟩).trans (h6 i hi)
 ·obtain⟨gb,ob,C,h1,h2,h3,h4,h5,h6⟩:=hn (j-N) (by omega)
  refine⟨gb,ob,C,by rw [List.getElem?_append_right (by omega),hl];exact h1,h2,h3,fun e'=>(hv gb e').elim h4 (by omega),Nat.lt_of_lt_of_le h5 hk.size,fun i hi=>?_⟩
  dsimp only
  rw [if_neg e]
  exact(hk.cell (a:=⟨gb,ob+i,none⟩) ⟨h5,h4⟩).trans (h6 i hi)
theorem FwS.news{w W:World}{g fr sz:Nat}{B:Nat->Nat->Int}(h:FwS w g fr sz B (fun _=>True) W)(v:Value)(hv:∀k,v.ownBlock=some k->k<w.heap.size):
  ∃news:List Value,news.length=fr/\(∀j u,news[j]?=some u->W.cell? ((⟨g,0,none⟩:Addr).add j)=some u)/\(∀u∈news,u.oneCell'=true)/\PkV W v sz fr news B:=by
 obtain⟨l,hl,hP⟩:=list_of (P:=fun i x=>∃gb ob C,x=Value.slice (some ⟨gb,ob,none⟩) sz C/\W.cell? ⟨g,i,none⟩=some x/\sz<=C/\C<=maxLen/\w.heap.size<=gb/\gb<W.heap.size/\∀j,j<sz->W.cell? ⟨gb,ob+j,none⟩=some (.int .u8 (B i j))) fr fun i hi=>by
  obtain⟨gb,ob,C,h1,h2,h3,h4,h4',h5,h6⟩:=h.cell i hi trivial
  exact⟨_,gb,ob,C,rfl,h1,h2,h3,h4',h5,h6⟩
 refine⟨l,hl,fun j u hu=>?_,fun u hu=>?_,fun j hj=>?_⟩
 ·obtain⟨gb,ob,C,_,h1,_⟩:=hP j u hu
  rw [add_plain,Nat.zero_add]
  exact h1
 ·obtain⟨j,hj,rfl⟩:=List.getElem_of_mem hu
  obtain⟨gb,ob,C,h1,_⟩:=hP j _ (List.getElem?_eq_getElem hj)
  rw [h1]
  rfl
 ·obtain⟨gb,ob,C,h1,h2,h3,h4,h5,h6,h7⟩:=hP j _ (List.getElem?_eq_getElem (by omega))
  refine⟨gb,ob,C,by rw [List.getElem?_eq_getElem (show j<l.length by omega),h1],h3,h4,fun e=>?_,h6,h7⟩
  have:=hv gb e
  omega
theorem pkRows{X:Nat->Prop}{W:World}{v:Value}{sz N:Nat}{vs:List Value}{B:Nat->Nat->Int}(h:PkV W v sz N vs B)(ho:ownX X W 34 v N vs)(hB:∀j,j<N->Byt (B j) sz):
  ∃p c Q C,v = .slice p N c/\RwU W p N Q (fun _=>sz) C B:=by
 have hx:∀k,∃q:Option Addr × Nat,k<N->vs[k]?=some (.slice q.1 sz q.2)/\sz<=q.2/\q.2<=maxLen/\SlU W q.1 sz (B k):=fun k=>by
  by_cases hk:k<N
  ·obtain⟨gb,ob,C,h1,h2,h3,h4,h5,h6⟩:=h k hk
   exact⟨(some ⟨gb,ob,none⟩,C),fun _=>⟨h1,h2,h3,fun _=>⟨gb,ob,rfl,h5,h6⟩⟩⟩
  ·exact⟨(none,0),fun h=>absurd h hk⟩
 obtain⟨f,hf⟩:=Classical.skolem.1 hx
 rcases ho.shape with ⟨hv,h0⟩ | ⟨g,cap,hv,_,hg,_,_,hc⟩
 ·subst h0
  exact⟨none,0,fun k=>(f k).1,fun k=>(f k).2,hv,fun h=>by omega,fun i hi=>by omega⟩
 ·exact⟨some ⟨g,0,none⟩,cap,fun k=>(f k).1,fun k=>(f k).2,hv,fun _=>⟨g,0,rfl,hg,fun i hi=>by rw [Nat.zero_add];exact hc i _ (hf i hi).1⟩,fun i hi=>⟨(hf i hi).2.1,(hf i hi).2.2.1,(hf i hi).2.2.2,hB i hi⟩⟩
theorem errTo_each{L:Nat->Smp} : ∀{n:Nat},errTo L n=0->∀i,i<n->(L i).check=0
 | 0,_,i,hi=>by omega
 | n+1,h,i,hi=>by
  have h0:errTo L n=0:=Classical.byContradiction fun e=>by rw [errTo_stays e (Nat.le_succ n)] at h;exact e h
  rw [errTo_next h0] at h
  by_cases e:i=n
  ·rw [e];exact h
  ·exact errTo_each h0 i (by omega)
theorem allI_zero{L:Nat->Smp}{n:Nat}(h:allI L n=0):n<=64/\(∀i,i<n->SmpV (L i))/\∀i j,i<n->j<n->i≠j->(L i).s≠(L j).s:=by
 unfold allI at h
 by_cases h1:64<n
 ·rw [if_pos h1] at h;omega
 rw [if_neg h1] at h
 by_cases h2:errTo L n≠0
 ·rw [if_pos h2] at h;exact absurd h h2
 rw [if_neg h2] at h
 by_cases h3:twiceP L n
 ·rw [if_pos h3] at h;omega
 refine⟨by omega,fun i hi=>Smp.check_v (errTo_each (Classical.not_not.1 h2) i hi),fun i j hi hj hne e=>h3 ?_⟩
 rcases Nat.lt_or_gt_of_ne hne with a | a
 ·exact⟨j,i,a,hj,e.symm⟩
 ·exact⟨i,j,a,hi,e⟩
theorem Ordd.valid{L Z:Nat->Smp}{n:Nat}(h:Ordd L n Z)(hv:∀i,i<n->SmpV (L i)):∀i,i<n->SmpV (Z i):=fun i hi=>by
 obtain⟨m,hm,e⟩:=h.frm i hi
 rw [e]
 exact hv m hm
theorem Ordd.dir{L Z:Nat->Smp}{n:Nat}(h:Ordd L n Z)(hv:∀i,i<n->SmpV (L i)):dirP (mtsD Z) n:=fun i hi=>⟨(Mt.ok_iff _).2 (h.valid hv i hi).ok,fun h0=>h.rise (i-1) i (by omega) hi⟩
theorem off_bd{f:Nat->Nat}{n:Nat}(h:∀i,i<n->f i<=131072)(k:Nat)(hk:k<=n)(hn:n<=64):offTo f k<=8388608:=by
 have h1:=offTo_bd h k hk
 generalize offTo f k=x at h1
 have h2:k*131072<=64*131072:=Nat.mul_le_mul_right _ (by omega)
 omega
def PkR(w:World)(sz:Int)(n:Nat)(L:Nat->Smp)(e:Ending)(w':World):Prop:=
 (¬(24<=sz/\sz<=96)/\e = .returned (.tuple #[.slice none 0 0,.int .i64 12])/\Old w w') \/
 ((24<=sz/\sz<=96)/\allI L n≠0/\e = .returned (.tuple #[.slice none 0 0,.int .i64 (allI L n)])/\Old w w') \/
 ((24<=sz/\sz<=96)/\allI L n=0/\∃Z,Ordd L n Z/\BldR w sz.toNat n (offTo (frD (mtsD Z)) n) (mtsD Z) (BTo sz.toNat Z n) (if 4194304<totalAt (frD (mtsD Z)) sz.toNat n then 3 else 0) e w')
theorem Tryz.info_rw:(Tryz.prog.info? 34).map (fun i=>(i.zero,i.size,i.bytes))=some (some (.slice none 0 0),1,24):=by kernel_rfl
set_option maxHeartbeats 16000000 in
theorem Pack_any(sz:Int)(p:Option Addr)(n cap:Nat)(L:Nat->Smp)(w:World)(hs:SmsS w p n L)(hn:n<=1048576):
  Calls Tryz.prog 25 #[.int .i64 sz,.slice p n cap] w (PkR w sz n L):=by
 by_cases hz:¬(24<=sz/\sz<=96)
 ·have HN:=zH (CNew_no sz w hz)
  have HZ:=zH hz
  clear hz hs
  go_enter Tryz.func25,Tryz.ntmps25
  go_wp2_with fail
  refine HN.out.mono ?_
  rintro e w1 ⟨rfl,rfl⟩
  go_wp2_with fail
  go_ret2
  exact .inl ⟨HZ.out,rfl,Old.refl _⟩
 obtain⟨z,rfl⟩:∃z:Nat,sz=z:=⟨sz.toNat,by omega⟩
 have hz1:24<=z:=by omega
 have hz2:z<=96:=by omega
 have HZ:=zH hz
 have HNw:=zH (CNew_yes (z:Int) w (by omega) (by omega))
 have HCk:=zH (fun V (hV:Old w V)=>CheckAll_any p n cap L V (hs.old hV) hn)
 have HS:=zH hs
 by_cases ha:allI L n≠0
 ·have HA:=zH ha
  obtain⟨x,hx⟩:∃x,x=allI L n:=⟨_,rfl⟩
  rw [←hx] at HCk ha
  have hx2:(x != 0)=true:=by simpa using ha
  have HX:=zH hx
  clear hz hs hx ha
  go_enter Tryz.func25,Tryz.ntmps25
  go_wp2_with fail
  refine HNw.out.mono ?_
  rintro e w1 ⟨b,rfl,hb,hbg,ho⟩
  have HO:=zH ho
  clear ho hb hbg
  go_wp2_with fail
  refine(HCk.out _ HO.out).mono ?_
  rintro e w2 ⟨rfl,ho⟩
  have HO2:=zH (HO.out.trans ho)
  clear ho
  go_wp2_with fail
  go_ret2
  exact .inr (.inl ⟨Classical.not_not.1 HZ.out,HA.out,by rw [←HX.out];rfl,HO2.out⟩)
 obtain⟨hn64,hval,hne⟩:=allI_zero (Classical.not_not.1 ha)
 have HA:=zH (Classical.not_not.1 ha)
 have HV:=zH hval
 have HDi:=zH (fun V (hV:Old w V)=>directory_any p n cap L V (hs.old hV) hn64 hne)
 rw [HA.out] at HCk
 obtain⟨ir,hir,hr0,hr1,hr2⟩:=info_parts Tryz.info_rw
 clear hz hs ha hval hne hn
 go_enter Tryz.func25,Tryz.ntmps25
 go_wp2_with fail
 refine HNw.out.mono ?_
 rintro e w1 ⟨b,rfl,hb,hbg,ho⟩
 have HO1:=zH ho
 have HCo:=zH hb
 clear ho hb hbg
 go_wp2_with fail
 refine(HCk.out _ HO1.out).mono ?_
 rintro e w2 ⟨rfl,ho⟩
 have HO2:=zH (HO1.out.trans ho)
 have HCo2:=zH (HCo.out.old ho)
 clear ho HCo HO1 HNw HCk
 go_wp2_with fail
 refine(HDi.out _ HO2.out).mono ?_
 rintro e w3 ⟨q,c,Z,qm,cm,rfl,hord,hsm,hmt,ho⟩
 have HO3:=zH (HO2.out.trans ho)
 have HCo3:=zH (HCo2.out.old ho)
 have HOr:=zH hord
 have HSm:=zH hsm
 have HMt:=zH (show MtsS w3 qm n (mtsD Z) from hmt)
 have HDP:=zH (hord.dir HV.out)
 have HPl:=zH (placed_any z qm n cm (mtsD Z) w3 hz2 hmt hn64 (dirP_ok (hord.dir HV.out)))
 have htb:=total_bd (n:=n) hz2 hn64 (dirP_ok (hord.dir HV.out))
 obtain⟨T,hT⟩:∃T,T=totalAt (frD (mtsD Z)) z n:=⟨_,rfl⟩
 rw [←hT] at HPl htb
 have HT:=zH hT
 have htb1:=htb.1
 clear ho hord hsm hmt HO2 HCo2 HDi hT htb
 go_wp2_with fail
 refine HPl.out.mono ?_
 rintro e w4 ⟨q2,c2,rfl,_,_,_,ho⟩
 have HO4:=zH (HO3.out.trans ho)
 have HCo4:=zH (HCo3.out.old ho)
 have HSm4:=zH (HSm.out.old ho)
 have HMt4:=zH (HMt.out.old ho)
 clear ho HO3 HCo3 HSm HMt HPl
 by_cases hT3:4194304<T
 ·have h4:(4194304:Int)<T:=by omega
  have H4:=zH hT3
  clear hT3
  go_wp2_with fail
  go_ret2
  refine .inr (.inr ⟨Classical.not_not.1 HZ.out,HA.out,Z,HOr.out,.inl ⟨?_,?_,HO4.out⟩⟩)
  ·rw [Int.toNat_natCast,←HT.out,if_pos H4.out];omega
  ·rw [Int.toNat_natCast,←HT.out,if_pos H4.out];rfl
 have h4:¬(4194304:Int)<T:=by omega
 have H4:=zH hT3
 clear hT3
 have hle:∀i,i<n->(mtsD Z i).fr<=131072:=fun i hi=>(dirP_ok HDP.out i hi).fr_le.2
 have HLe:=zH hle
 have HO0:Hid (ownX (fun q=>q<w4.heap.size) w4 34 (.slice none 0 0) (offTo (frD (mtsD Z)) 0) []):=zH (ownX.nil _ _ _)
 have HP0:Hid (PkV w4 (.slice none 0 0) z (offTo (frD (mtsD Z)) 0) [] (BTo z Z 0)):=zH fun j hj=>absurd hj (Nat.not_lt_zero _)
 have HR0:=zH (Old.refl w4)
 clear hle
 go_wp2_with fail
 go_loopw [13,46] (fun fv iv wr=>∃(k:Nat) (vs:List Value),k<=n/\iv = .int .i64 k/\Hid (ownX (fun q=>q<w4.heap.size) wr 34 fv (offTo (frD (mtsD Z)) k) vs)/\Hid (PkV wr fv z (offTo (frD (mtsD Z)) k) vs (BTo z Z k))/\Hid (Old w4 wr)) (fun _ i _=>n-(intOf i).toNat)
 case atStart=>exact⟨0,_,Nat.zero_le _,by go_num,HO0,HP0,HR0⟩
 case round=>
  clear HO0 HP0 HR0
  obtain⟨k,vs,hk,rfl,HOw,HPk,HO⟩:=hrel
  obtain⟨v,rfl⟩:∃v,v=u13:=⟨_,rfl⟩
  by_cases hkn:k<n
  ·obtain⟨gs,o,rfl,hgs,hcs⟩:=(HSm4.out.old HO.out).cell (by omega)
   obtain⟨S,hS⟩:∃S,S=Z k:=⟨_,rfl⟩
   have hck:=hcs k hkn
   rw [←hS] at hck
   have c0:wr.cell? ⟨gs,o+k*6,none⟩=some (.string S.s):=hck 0 _ rfl
   have c1:wr.cell? ⟨gs,o+k*6+1,none⟩=some (.int .i64 S.r):=hck 1 _ rfl
   have c2:wr.cell? ⟨gs,o+k*6+2,none⟩=some (.bool S.lp):=hck 2 _ rfl
   have c3:wr.cell? ⟨gs,o+k*6+3,none⟩=some (.int .i64 S.a):=hck 3 _ rfl
   have c4:wr.cell? ⟨gs,o+k*6+4,none⟩=some (.int .i64 S.b):=hck 4 _ rfl
   have c5:wr.cell? ⟨gs,o+k*6+5,none⟩=some (.slice S.p S.n S.c):=hck 5 _ rfl
   have hok:SmOk w4 S:=by rw [hS];exact HSm4.out.ok k hkn
   have hvl:SmpV S:=by rw [hS];exact HOr.out.valid HV.out k hkn
   have ho3:Old w4 (wr.alloc (.cells S.cells 90)):=HO.out.alloc' _
   have HFo:=zH (framesOf_any b z S (wr.alloc (.cells S.cells 90)) (HCo4.out.old ho3) hz1 hz2 (hok.old ho3) hvl)
   have HOa:=zH (HOw.out.old (Old.alloc wr (.cells S.cells 90)))
   have HPa:=zH (HPk.out.on (Old.alloc wr (.cells S.cells 90)))
   have HOo:=zH ho3
   have hfr:(smM S).fr<=131072:=by rw [hS];exact HLe.out k hkn
   have hof:offTo (frD (mtsD Z)) k<=8388608:=off_bd HLe.out k hk hn64
   have HSk:=zH hS
   have HB:=zH (And.intro hfr hof)
   unfold Smp.cells at HFo HOa HPa HOo
   have i0:(0:Int)<=k:=by omega
   have i1:(k:Int)<n:=by omega
   clear hck hcs hgs hS hok hvl ho3 hfr hof HOw HPk HO
   go_wp2_with fail
   refine HFo.out.mono ?_
   rintro e V ⟨g,rfl,hfw⟩
   have hlt:=HOa.out.lt
   obtain⟨news,hl,hnw,h1c,hpn⟩:=hfw.news v hlt
   have hO2:=HOa.out.old hfw.old
   have HP2:=zH (HPa.out.on hfw.old)
   have HOv:=zH (HOo.out.trans hfw.old)
   have HOM:=zH (show ownX (fun q=>q<V.heap.size/\v.ownBlock≠some q) V 34 v (offTo (frD (mtsD Z)) k) vs from hO2.mono fun q hq h=>h.2 hq)
   have HX0:=zH hO2.2
   have HNl:=zH hl
   have HNw:=zH hnw
   have HN1:=zH h1c
   have HNp:=zH hpn
   obtain⟨fr,hfr⟩:∃f,f=(smM S).fr:=⟨_,rfl⟩
   obtain⟨N,hN⟩:∃N,N=offTo (frD (mtsD Z)) k:=⟨_,rfl⟩
   rw [←hfr] at HNl HNp HB ⊢
   rw [←hN] at HOM HP2 HB
   have HN':Hid (offTo (frD (mtsD Z)) (k+1)=N+fr):=zH (by rw [hN,hfr,HSk.out];rfl)
   have HBt:Hid (BTo z Z (k+1)=fun j=>if j<N then BTo z Z k j else frB z S (j-N)):=zH (by rw [hN,HSk.out];rfl)
   have hb1:=HB.out.1
   have hb2:=HB.out.2
   have hvl:vs.length=N:=HOM.out.1.1.trans (Nat.mul_one N)
   have HVl:=zH hvl
   clear hlt hl hnw h1c hpn hO2 hfw HOa HPa HOo HFo hfr hN hvl c0 c1 c2 c3 c4 c5
   go_wp2_with (at_builtin;refine append_X _ rfl _ _ 145 rfl (fun q=>q<V.heap.size/\v.ownBlock≠some q) 34 ir (.slice none 0 0) 24 Tryz.underlying145 hir hr0 hr1 hr2 rfl _ _ _ rfl HOM.out ⟨g,0,none⟩ fr fr news rfl HNl.out HNw.out HN1.out (by unfold maxLen;omega) (by omega) (fun q hq=>hq.1) ?_;intro v' V2 hown2 hk2 hv2;have HR:=zH (And.intro hown2 (And.intro hk2 hv2));clear hown2 hk2 hv2)
   have ho5:Old w4 V2:=HOv.out.after HR.out.2.1 fun q hq=>⟨Nat.lt_of_lt_of_le hq HOv.out.size,fun e=>HX0.out q e hq⟩
   have HO5:=zH ho5
   have HOw5:Hid (ownX (fun q=>q<w4.heap.size) V2 34 v' (offTo (frD (mtsD Z)) (k+1)) (vs ++ news)):=zH (by
    rw [HN'.out]
    refine HR.out.1.mono fun q hq hlt=>?_
    rcases HR.out.2.2 q hq with h | h
    ·exact HX0.out q h hlt
    ·have:=HOv.out.size
     omega)
   have HPk5:Hid (PkV V2 v' z (offTo (frD (mtsD Z)) (k+1)) (vs ++ news) (BTo z Z (k+1))):=zH (by
    rw [HN'.out,HBt.out]
    exact HP2.out.snoc HNp.out HVl.out HR.out.2.1 HR.out.2.2)
   clear ho5 HR HOM HP2 HNp
   go_wp2_with fail
   go_roundw
   case rel=>exact⟨k+1,_,by omega,by go_num,HOw5,HPk5,HO5⟩
   case measure=>simp [intOf];omega
  ·obtain rfl:k=n:=by omega
   obtain⟨fp,fc,Q,C,rfl,hrw⟩:=pkRows HPk.out HOw.out (fun j _=>BTo_byt z Z k j)
   have hK:offTo (frD (mtsD Z)) k<=8388608:=off_bd HLe.out k hk hn64
   have HBu:=zH (Build_any (z:Int) qm k cm (mtsD Z) fp (offTo (frD (mtsD Z)) k) fc Q (fun _=>z) C (BTo z Z k) wr (HMt4.out.old HO.out) hn64 hrw (Nat.le_trans hK (by decide)))
   have HOe:=zH (HO4.out.trans HO.out)
   have hbl:bldI z (mtsD Z) k (offTo (frD (mtsD Z)) k) (fun _=>z)=0:=by
    unfold bldI
    rw [if_neg HZ.out,if_neg (Classical.not_not.2 HDP.out),if_neg (Classical.not_not.2 ⟨rfl,fun j _=>rfl⟩),Int.toNat_natCast,←HT.out,if_neg H4.out]
   rw [hbl] at HBu
   have HEnd:=zH (fun e V (h:BldR wr (z:Int).toNat k (offTo (frD (mtsD Z)) k) (mtsD Z) (BTo z Z k) 0 e V)=>(show PkR w z k L e V from .inr (.inr ⟨Classical.not_not.1 HZ.out,HA.out,Z,HOr.out,by
    have h:=h.lift HOe.out
    rw [Int.toNat_natCast] at h ⊢
    rw [←HT.out,if_neg H4.out]
    exact h⟩)))
   obtain⟨K,hKK⟩:∃K,K=offTo (frD (mtsD Z)) k:=⟨_,rfl⟩
   rw [←hKK] at HBu HEnd ⊢
   clear hrw hK hbl HPk HOw hKK
   go_wp2_with fail
   refine HBu.out.mono ?_
   rintro e V (⟨h1,rfl,h3⟩ | ⟨h1,g,rfl,h3⟩)
   ·exact absurd rfl h1
   have HF:=zH (HEnd.out _ _ (.inr ⟨h1,g,rfl,h3⟩))
   clear h1 h3 HEnd
   generalize totalAt (frD (mtsD Z)) (z:Int).toNat k=TT at *
   go_wp2_with fail
   go_ret2
   exact HF.out
theorem BkB.size_{w:World}{bb sz n N:Nat}{q:Option Addr}{c:Nat}{im:Option Addr}{ci:Nat}{D:Nat->Mt}{F:Nat->Int}(h:BkB w bb sz n N q c im ci D F):
  w.cell? ⟨bb,0,none⟩=some (.int .i64 sz)/\w.cell? ⟨bb,1,none⟩=some (.slice q n c)/\w.cell? ⟨bb,2,none⟩=some (.slice im N ci):=by
 have:=h.blk
 simp [World.cell?,this]
theorem parse_packed{w w':World}{e:Ending}{sz n K:Nat}{D:Nat->Mt}{B:Nat->Nat->Int}{F:Nat->Int}(h24:24<=sz)(h96:sz<=96)(hn:n<=64)(hd:dirP D n)
  (hld:Ld (frD D) sz n B (frontF (totalAt (frD D) sz n:Nat) n sz (plD D sz n)) K F) (hP:PrsR w F (totalAt (frD D) sz n) e w'):
  ∃bb q c im ci,e = .returned (.tuple #[.pointer (some ⟨bb,0,none⟩),.int .i64 0])/\BkB w' bb sz n (totalAt (frD D) sz n) q c im ci (plD D sz n) F/\Old w w':=by
 obtain⟨f1,f2,f3,f4⟩:=front_good h24 h96 hn hd hld.front
 rcases hP with ⟨h1,_⟩ | ⟨_,⟨er,_,_,h1,_⟩ | ⟨bb,q,c,im,ci,E,rfl,hb,hbd,ho⟩⟩
 ·exact absurd f1 h1
 ·exact absurd f4 (h1 _)
 ·refine⟨bb,q,c,im,ci,rfl,?_,ho⟩
  have e:=hbd.one f4
  rw [f2] at e
  rw [f2,f3] at hb
  exact⟨hb.blk,hb.dir.ext e,hb.d1,hb.d2,hb.img,hb.i1,hb.i2⟩
theorem parse_packed2{w w':World}{e:Ending}{sz n K:Nat}{D:Nat->Mt}{B:Nat->Nat->Int}{F:Nat->Int}(h24:24<=sz)(h96:sz<=96)(hn:n<=64)(hd:dirP D n)
  (hld:Ld (frD D) sz n B (frontF (totalAt (frD D) sz n:Nat) n sz (plD D sz n)) K F) (hP:PrsR2 w F (totalAt (frD D) sz n) e w'):
  ∃bb q c im ci,e = .returned (.tuple #[.pointer (some ⟨bb,0,none⟩),.int .i64 0])/\BkB w' bb sz n (totalAt (frD D) sz n) q c im ci (plD D sz n) F/\Old w w'/\∀x,bkX bb q n im (totalAt (frD D) sz n) x->w.heap.size<=x:=by
 obtain⟨f1,f2,f3,f4⟩:=front_good h24 h96 hn hd hld.front
 rcases hP with ⟨h1,_⟩ | ⟨_,⟨er,_,_,h1,_⟩ | ⟨bb,q,c,im,ci,E,rfl,hb,hbd,ho,hnw⟩⟩
 ·exact absurd f1 h1
 ·exact absurd f4 (h1 _)
 ·refine⟨bb,q,c,im,ci,rfl,?_,ho,by rw [f2] at hnw;exact hnw⟩
  have e:=hbd.one f4
  rw [f2] at e
  rw [f2,f3] at hb
  exact⟨hb.blk,hb.dir.ext e,hb.d1,hb.d2,hb.img,hb.i1,hb.i2⟩
theorem laid_byt{N:Nat}{sz n K:Nat}{D:Nat->Mt}{B:Nat->Nat->Int}{F:Nat->Int}{len:Int}(hld:Ld (frD D) sz n B (frontF len n sz (plD D sz n)) K F)(hB:∀i,i<K->Byt (B i) sz):Byt F N:=
 hld.byt (fun p _=>frontF_bd _ _ _ _ _) hB N
set_option maxHeartbeats 4000000 in
theorem BMeta_at(bb sz n N:Nat)(q:Option Addr)(c:Nat)(im:Option Addr)(ci:Nat)(D:Nat->Mt)(F:Nat->Int)(w:World)(h:BkB w bb sz n N q c im ci D F)(h0:0<sz)(hn:n<=64)(k:Nat)(hk:k<n):
  Calls Tryz.prog 42 #[.pointer (some ⟨bb,0,none⟩),.int .i64 k] w fun e w'=>e = .returned (.tuple #[.agg (D k).cells,.int .i64 0])/\Old w w':=by
 have Hs9:Hid ((Tryz.prog.info? 85).map (·.size)=some 9):=zH (by kernel_rfl)
 obtain⟨W,hW⟩:∃W,W=w.alloc (.cells mtZ 85):=⟨_,rfl⟩
 obtain⟨b0,hb0⟩:∃b,b=w.heap.size:=⟨_,rfl⟩
 have HO:=zH (show Old w W by rw [hW];exact Old.alloc _ _)
 have hB:=h.old HO.out
 have HMd:=zH (BMade_yes bb sz W hB.size_.1 (by omega))
 obtain⟨gd,o,rfl,hgd,hcs⟩:=hB.dir.cell (by omega)
 obtain⟨m,hm⟩:∃m,m=D k:=⟨_,rfl⟩
 have hck:=hcs k hk
 rw [←hm] at hck ⊢
 have c0:W.cell? ⟨gd,o+k*9,none⟩=some (.string m.s):=hck 0 _ rfl
 have c1:W.cell? ⟨gd,o+k*9+1,none⟩=some (.int .i64 m.n):=hck 1 _ rfl
 have c2:W.cell? ⟨gd,o+k*9+2,none⟩=some (.int .i64 m.r):=hck 2 _ rfl
 have c3:W.cell? ⟨gd,o+k*9+3,none⟩=some (.int .i64 m.c):=hck 3 _ rfl
 have c4:W.cell? ⟨gd,o+k*9+4,none⟩=some (.bool m.lp):=hck 4 _ rfl
 have c5:W.cell? ⟨gd,o+k*9+5,none⟩=some (.int .i64 m.a):=hck 5 _ rfl
 have c6:W.cell? ⟨gd,o+k*9+6,none⟩=some (.int .i64 m.b):=hck 6 _ rfl
 have c7:W.cell? ⟨gd,o+k*9+7,none⟩=some (.int .i64 m.x):=hck 7 _ rfl
 have c8:W.cell? ⟨gd,o+k*9+8,none⟩=some (.int .i64 m.y):=hck 8 _ rfl
 have d1:=hB.size_.2.1
 have i0:(0:Int)<=k:=by omega
 have i1:(k:Int)<n:=by omega
 have e0:decide ((k:Int)<0)=false:=decide_eq_false (by omega)
 have e1:decide ((n:Int)<=k)=false:=decide_eq_false (by omega)
 have HW:=zH hW
 have HB0:=zH hb0
 have HBz:Hid (W.heap[b0]?=some (.cells mtZ 85 (0,0))):=zH (by rw [hW,hb0];exact heap_alloc_new _ _)
 have HBg:Hid (w.heap.size<=b0):=zH (by omega)
 have H1x:=zH (Mt.one m)
 unfold mtZ at HW HBz
 unfold Mt.cells at H1x ⊢
 clear h hB hck hcs hgd hm hW hb0
 go_enter Tryz.func42,Tryz.ntmps42
 go_wp2_with fail
 rw [←HW.out,←HB0.out]
 refine HMd.out.mono ?_
 rintro e V ⟨rfl,hWV⟩
 subst hWV
 go_wp2_with (with_reducible refine wpList_store_row rfl 85 _ _ rfl b0 _ rfl rfl 85 _ HBz.out (by kernel_rfl) (by kernel_rfl) H1x.out ?_)
 have hrr:=row_ret (w:=w) HBz.out HO.out HBg.out m.cells
 unfold Mt.cells at hrr
 refine bodyPost_ret (results_row_tmp rfl _ _ b0 85 _ (0,0) _ rfl hrr.1 Tryz.underlying85 rfl Hs9.out) rfl ?_
 exact⟨rfl,hrr.2⟩
set_option maxHeartbeats 2000000 in
theorem BDir_at(bb sz n N:Nat)(q:Option Addr)(c:Nat)(im:Option Addr)(ci:Nat)(D:Nat->Mt)(F:Nat->Int)(w:World)(h:BkB w bb sz n N q c im ci D F)(h0:0<sz)(hn:n<=1048576):
  Calls Tryz.prog 29 #[.pointer (some ⟨bb,0,none⟩)] w fun e w'=>∃q2 c2,e = .returned (.slice q2 n c2)/\n<=c2/\c2<=maxLen/\MtsS w' q2 n D/\Old w w':=by
 have HMd:=zH (BMade_yes bb sz w h.size_.1 (by omega))
 have HC:=zH (CloneM_any q n c D w h.dir hn)
 have HS:=zH h.dir.str
 have d1:=h.size_.2.1
 clear h hn
 go_enter Tryz.func29,Tryz.ntmps29
 go_wp2_with fail
 refine HMd.out.mono ?_
 rintro e V ⟨rfl,hv⟩
 subst hv
 go_wp2_with fail
 refine HC.out.mono ?_
 rintro e V ⟨q2,c2,rfl,h1,h2,h3,ho⟩
 have HF:Hid (n<=c2/\c2<=maxLen/\MtsS V q2 n D/\Old w V):=zH ⟨h1,h2,⟨fun h0=>by
  obtain⟨g,hq,hm1,_⟩:=h3 h0
  rw [hq]
  exact(hm1.sl HS.out).cell h0,HS.out⟩,ho⟩
 clear h1 h2 h3 ho
 go_wp2_with fail
 go_ret
 exact⟨q2,c2,rfl,HF.out.1,HF.out.2.1,HF.out.2.2.1,HF.out.2.2.2⟩
set_option maxHeartbeats 2000000 in
theorem BImage_at(bb sz n N:Nat)(q:Option Addr)(c:Nat)(im:Option Addr)(ci:Nat)(D:Nat->Mt)(F:Nat->Int)(w:World)(h:BkB w bb sz n N q c im ci D F)(h0:0<sz)(hN:N<=1099511627776):
  Calls Tryz.prog 31 #[.pointer (some ⟨bb,0,none⟩)] w fun e w'=>∃q2 c2,e = .returned (.slice q2 N c2)/\N<=c2/\c2<=maxLen/\SlU w' q2 N F/\Old w w':=by
 have HMd:=zH (BMade_yes bb sz w h.size_.1 (by omega))
 have HC:=zH (CloneB_any im N ci F w h.img hN)
 have d1:=h.size_.2.2
 clear h hN
 go_enter Tryz.func31,Tryz.ntmps31
 go_wp2_with fail
 refine HMd.out.mono ?_
 rintro e V ⟨rfl,hv⟩
 subst hv
 go_wp2_with fail
 refine HC.out.mono ?_
 rintro e V ⟨q2,c2,rfl,h1,h2,h3,ho⟩
 have HF:=zH (And.intro h1 (And.intro h2 (And.intro h3 ho)))
 clear h1 h2 h3 ho
 go_wp2_with fail
 go_ret
 exact⟨q2,c2,rfl,HF.out.1,HF.out.2.1,HF.out.2.2.1,HF.out.2.2.2⟩
set_option maxHeartbeats 4000000 in
theorem BMetaOf_at(bb sz n N:Nat)(q:Option Addr)(c:Nat)(im:Option Addr)(ci:Nat)(D:Nat->Mt)(F:Nat->Int)(w:World)(h:BkB w bb sz n N q c im ci D F)(h0:0<sz)(hn:n<=64)(k:Nat)(hk:k<n)(ch:Int)(hch:0<=ch/\ch<(D k).c):
  Calls Tryz.prog 44 #[.pointer (some ⟨bb,0,none⟩),.int .i64 k,.int .i64 ch] w fun e w'=>e = .returned (.tuple #[.agg (D k).cells,.int .i64 0])/\Old w w':=by
 have Hs9:Hid ((Tryz.prog.info? 85).map (·.size)=some 9):=zH (by kernel_rfl)
 obtain⟨W0,hW0⟩:∃W,W=w.alloc (.cells mtZ 85):=⟨_,rfl⟩
 obtain⟨b0,hb0⟩:∃b,b=w.heap.size:=⟨_,rfl⟩
 have HO:=zH (show Old w W0 by rw [hW0];exact Old.alloc _ _)
 have HB:=zH (show W0.heap[b0]?=some (.cells mtZ 85 (0,0)) by rw [hW0,hb0];exact heap_alloc_new _ _)
 have HBg:Hid (w.heap.size<=b0):=zH (by omega)
 have HS:=zH (BMeta_at bb sz n N q c im ci D F W0 (h.old HO.out) h0 hn k hk)
 obtain⟨m,hm⟩:∃m,m=D k:=⟨_,rfl⟩
 rw [←hm] at HS hch ⊢
 have H1x:=zH (Mt.one m)
 have H1z:Hid ((mtZ).all (·.oneCell')=true):=zH (by kernel_rfl)
 have e0:decide (ch<0)=false:=decide_eq_false (by omega)
 have e1:decide (m.c<=ch)=false:=decide_eq_false (by omega)
 clear h hm hk
 unfold mtZ at *
 unfold Mt.cells at *
 have HW0:=zH hW0
 have HB0:=zH hb0
 clear hW0 hb0
 go_enter Tryz.func44,Tryz.ntmps44
 go_wp2_with fail
 rw [←HW0.out,←HB0.out]
 refine HS.out.mono ?_
 rintro e V ⟨rfl,ho⟩
 have HO2:=zH (HO.out.trans ho)
 have HB2:=zH ((ho.block _ (lt_of_block HB.out)).trans HB.out)
 clear ho HO HB HW0 HB0 HS
 have HB3:=zH (fun o=>((Old.alloc V o).block _ (lt_of_block HB2.out)).trans HB2.out)
 go_wp2_with (with_reducible refine wpList_store_row rfl 85 _ _ rfl b0 _ rfl rfl 85 _ (HB3.out _) (by kernel_rfl) (by kernel_rfl) H1x.out ?_)
 have hrr:=row_ret (w:=w) (HB3.out (.cells m.cells 85)) (HO2.out.alloc' _) HBg.out m.cells
 unfold Mt.cells at hrr
 refine bodyPost_ret (results_row_tmp rfl _ _ b0 85 _ (0,0) _ rfl hrr.1 Tryz.underlying85 rfl Hs9.out) rfl ?_
 exact⟨rfl,hrr.2⟩
theorem u32_fits(S:Int)(h0:0<=S)(h1:S<4294967296):IntKind.u32.wrap S=S:=by
 show S%4294967296=S
 omega
set_option maxHeartbeats 4000000 in
theorem BPlace_any(bb sz n N:Nat)(q:Option Addr)(c:Nat)(im:Option Addr)(ci:Nat)(D:Nat->Mt)(F:Nat->Int)(w:World)(h:BkB w bb sz n N q c im ci D F)(h96:sz<=96)(hby:Byt F N)(m:Mt)(A Y k:Nat)(hx:m.x=A)(hy:m.y=Y)(hk:k<=131072)(hA:A+4*k+4<=N)(hN:N<=1099511627776)(hY:Y<=1099511627776):
  Calls Tryz.prog 86 #[.pointer (some ⟨bb,0,none⟩),.agg m.cells,.int .i64 k] w fun e w'=>e = .returned (.tuple #[.int .i64 (Y+k*sz:Nat),.int .u32 (numTo (fun j=>F (A+4*k+j)) 4)])/\Old w w':=by
 obtain⟨b1,hb1⟩:∃b,b=w.heap.size:=⟨_,rfl⟩
 obtain⟨W,hW⟩:∃W,W=w.alloc (.cells m.cells 85):=⟨_,rfl⟩
 have ho:Old w W:=by rw [hW];exact Old.alloc _ _
 have hm:MtB W b1 m:=by rw [hW,hb1];exact MtB.new w m
 have hB:=h.old ho
 obtain⟨g,o,rfl,hg,hcs⟩:=hB.img (by omega)
 obtain⟨u,P,v,R,hu,hP,hv,hR,hw1,hw2⟩:=ly_nums A Y k sz (by omega) hY hk h96
 have HW1:=zH hw1
 have HW2:=zH hw2
 clear hw1 hw2
 have eP:A+4*k=P:=by omega
 have eR:Y+k*sz=R:=by omega
 rw [eP,eR]
 have hPN:P+4<=N:=by omega
 have hsl:SlU W (some ⟨g,o+P,none⟩) 4 (fun j=>F (P+j)):=fun _=>⟨g,o+P,rfl,hg,fun j hj=>by rw [Nat.add_assoc];exact hcs (P+j) (by omega)⟩
 have hbd:Byt (fun j=>F (P+j)) 4:=fun j hj=>hby _ (by omega)
 have hi1:=hB.i1
 obtain⟨LP,hLP⟩:∃L,L=N-P:=⟨_,rfl⟩
 obtain⟨CP,hCP⟩:∃L,L=ci-P:=⟨_,rfl⟩
 have hc1:∀w',(Instr.sliceAt 34 (.slice (some ⟨g,o,none⟩) N ci) (some (.int .i64 P)) none none).run Tryz.prog w' = .ok (.slice (some ⟨g,o+P,none⟩) LP CP) w':=fun w'=>by
  rw [hLP,hCP]
  exact cut_lo g o N ci P (by omega) (by omega) w'
 have hc2:∀w',(Instr.sliceAt 34 (.slice (some ⟨g,o+P,none⟩) LP CP) none (some (.int .i64 (4:Nat))) none).run Tryz.prog w' = .ok (.slice (some ⟨g,o+P,none⟩) 4 CP) w':=fun w'=>cut_hi g (o+P) LP CP 4 (by omega) (by omega) w'
 obtain⟨S,hS⟩:∃S,S=numTo (fun j=>F (P+j)) 4:=⟨_,rfl⟩
 have hSb:0<=S/\S<4294967296:=by
  have h4:=numTo_bd hbd
  rw [←hS] at h4
  have e4:(256:Int) ^ 4=4294967296:=by decide
  rw [e4] at h4
  exact h4
 have HG:=zH (fun V (hV:Old W V)=>get_any (some ⟨g,o+P,none⟩) 4 CP (fun j=>F (P+j)) V (by omega) (hsl.old hV) hbd)
 rw [←hS] at HG ⊢
 have HE3:Hid (IntKind.u32.wrap S=S):=zH (u32_fits S hSb.1 hSb.2)
 have d7:W.cell? ⟨b1,7,none⟩=some (.int .i64 (A:Int)):=by rw [←hx];exact hm.at_ 7
 have d8:W.cell? ⟨b1,8,none⟩=some (.int .i64 (Y:Int)):=by rw [←hy];exact hm.at_ 8
 have k0:=hB.size_.1
 have k2:=hB.size_.2.2
 have HK:=zH (And.intro d7 (And.intro d8 (And.intro k0 k2)))
 have HW:=zH hW
 have HB1:=zH hb1
 have HO:=zH ho
 unfold Mt.cells at HW ⊢
 have i4:(4:Int)<=CP:=by omega
 clear hb1 hW ho hm hB h hu hP hv hR eP eR hPN hsl hbd hi1 hLP hCP hS hcs hx hy hA hby
 go_enter Tryz.func86,Tryz.ntmps86
 go_wp2_with fail
 rw [←HW.out,←HB1.out]
 obtain⟨e1,e2,f1,f2⟩:=HW1.out
 refine wp_region_held_drew (S:=(fun V=>V.cell? ⟨b1,7,none⟩=some (.int .i64 (A:Int))/\V.cell? ⟨bb,2,none⟩=some (.slice (some ⟨g,o,none⟩) N ci))) (by kernel_rfl) ?_ (fun hHeld=>?_)
 ·(try dsimp only);exact⟨HK.out.1,HK.out.2.2.2⟩
 refine wpU 0 rfl ?_;try simp only [Act.put,sA,sZ,sS]
 refine wpU 1 rfl ?_;try simp only [Act.put,sA,sZ,sS]
 refine wpU 2 rfl ?_;try simp only [Act.put,sA,sZ,sS]
 refine wpU 3 rfl ?_;try simp only [Act.put,sA,sZ,sS]
 refine wpU 4 rfl ?_;try simp only [Act.put,sA,sZ,sS]
 refine wpU 5 rfl ?_;try simp only [Act.put,sA,sZ,sS]
 refine wpU 6 rfl ?_;try simp only [Act.put,sA,sZ,sS]
 refine wpU 7 rfl ?_;try simp only [Act.put,sA,sZ,sS]
 refine wpU 8 rfl ?_;try simp only [Act.put,sA,sZ,sS]
 refine wpU 9 rfl ?_;try simp only [Act.put,sA,sZ,sS]
 refine wpU 10 rfl ?_;try simp only [Act.put,sA,sZ,sS]
 refine wpR 11 rfl (fun K hK=>?_)
 go_simp
 refine(HG.out _ ((Old.refl W).drew)).mono ?_
 rintro e V ⟨rfl,hv⟩
 subst hv
 go_wp2_with fail
 refine hK.out _ _ ?_ (fun hHeld=>?_)
 ·(try dsimp only);exact⟨HK.out.1,HK.out.2.2.2⟩
 clear hK K
 try simp only [Act.put,sA,sZ,sS]
 refine wpU 12 rfl ?_;try simp only [Act.put,sA,sZ,sS]
 refine wpAnyH_done (by kernel_rfl) ?_ _
 clear e1 e2 f1 f2
 go_wp2_with fail
 obtain⟨e1,e2,f1,f2⟩:=HW2.out
 have e3:=HE3.out
 refine wp_region_held_drew (S:=(fun V=>V.cell? ⟨b1,8,none⟩=some (.int .i64 (Y:Int))/\V.cell? ⟨bb,0,none⟩=some (.int .i64 (sz:Int)))) (by kernel_rfl) ?_ (fun hHeld=>?_)
 ·(try dsimp only);exact⟨HK.out.2.1,HK.out.2.2.1⟩
 refine wpU 0 rfl ?_;try simp only [Act.put,sA,sZ,sS]
 refine wpU 1 rfl ?_;try simp only [Act.put,sA,sZ,sS]
 refine wpU 2 rfl ?_;try simp only [Act.put,sA,sZ,sS]
 refine wpU 3 rfl ?_;try simp only [Act.put,sA,sZ,sS]
 refine wpU 4 rfl ?_;try simp only [Act.put,sA,sZ,sS]
 refine wpU 5 rfl ?_;try simp only [Act.put,sA,sZ,sS]
 refine wpU 6 rfl ?_;try simp only [Act.put,sA,sZ,sS]
 refine wpU 7 rfl ?_;try simp only [Act.put,sA,sZ,sS]
 refine wpU 8 rfl ?_;try simp only [Act.put,sA,sZ,sS]
 refine wpU 9 rfl ?_;try simp only [Act.put,sA,sZ,sS]
 refine wpU 10 rfl ?_;try simp only [Act.put,sA,sZ,sS]
 refine wpU 11 rfl ?_;try simp only [Act.put,sA,sZ,sS]
 refine wpU 12 rfl ?_;try simp only [Act.put,sA,sZ,sS]
 refine wpAnyH_done (by kernel_rfl) ?_ _
 clear e1 e2 f1 f2 e3
 go_wp2_with fail
 go_ret2
 exact⟨rfl,(HO.out.drew).drew⟩
def RdOf(bs:List Int):Prop:=∃F n T,FrP F n T/\Tells bs (enc F n T)
open Classical in
noncomputable def openI(S:Int)(bs:List Int):Int:=if Crc.sumOf bs≠S then 9 else if RdOf bs then 0 else 4
theorem openI_sum{S:Int}{bs:List Int}(h:Crc.sumOf bs≠S):openI S bs=9:=if_pos h
theorem openI_ok{S:Int}{bs:List Int}(h:Crc.sumOf bs=S)(k:RdOf bs):openI S bs=0:=by
 unfold openI
 rw [if_neg (fun e=>e h),if_pos k]
theorem openI_form{S:Int}{bs:List Int}(h:Crc.sumOf bs=S)(k:¬RdOf bs):openI S bs=4:=by
 unfold openI
 rw [if_neg (fun e=>e h),if_neg k]
def OpnR(w:World)(bs:List Int)(er:Int)(e:Ending)(w':World):Prop:=
 ∃F n p cap T,e = .returned (.tuple #[.agg (rowN 29 (frC F (.slice p n cap))),.int .i64 er])/\Old w w'/\n<=cap/\cap<=maxLen/\SlF 2 w' p n T/\Fits64 T /\
  (er=0->FrP F n T/\Tells bs (enc F n T)/\∀F0 n0 T0,FrP F0 n0 T0->Tells bs (enc F0 n0 T0)->sameP F n T F0 n0 T0)/\(er≠0->n=0/\p=none/\∀k,F k=0)/\(0<n->∀a,p=some a->w.heap.size<=a.block)
theorem OpnR.none{w w':World}{bs:List Int}{er:Int}(h:er≠0)(o:Old w w'):OpnR w bs er (.returned (.tuple #[.agg (rowN 29 (frC (fun _=>0) (.slice none 0 0))),.int .i64 er])) w':=
 ⟨fun _=>0,0,Option.none,0,fun _=>0,rfl,o,Nat.le_refl _,Nat.zero_le _,fun h=>absurd h (by omega),fun _=>by dsimp only;omega,fun e=>absurd e h,fun _=>⟨rfl,rfl,fun _=>rfl⟩,fun h=>absurd h (by omega)⟩
theorem SlF.kept{s n:Nat}{w w':World}{p:Option Addr}{F:Nat->Int}{X:Nat->Prop}(h:SlF s w p n F)(k:Kept X w w')(hX:∀a,0<n->p=some a->X a.block):SlF s w' p n F:=fun hn=>by
 obtain⟨g,o,h1,h2,h3⟩:=h hn
 exact⟨g,o,h1,Nat.lt_of_lt_of_le h2 k.size,fun j hj=>(k.cell (a:=⟨g,o+j,none⟩) (hX ⟨g,o,none⟩ hn h1)).trans (h3 j hj)⟩
theorem Kept.setRow(w:World)(b:Nat)(cs:Array Value):Kept (fun q=>q≠b) w (w.setRow b cs):=⟨rfl,rfl,by simp,fun k hk=>setRow_other _ _ _ _ hk⟩
set_option maxHeartbeats 4000000 in
theorem open_any(p:Option Addr)(n cap:Nat)(F:Nat->Int)(S:Int)(w:World)(hs:SlU w p n F)(hb:Byt F n)(h1:n<=cap)(h2:cap<=maxLen)(hn:n<=4294967296):
  Calls Tryz.prog 87 #[.slice p n cap,.int .u32 S] w (OpnR w (lst F n) (openI S (lst F n))):=by
 have Hs29:Hid ((Tryz.prog.info? 113).map (·.size)=some 29):=zH (by kernel_rfl)
 obtain⟨z,hz⟩:∃z:Array Value,z=rowN 29 (frC (fun _=>0) (.slice none 0 0)):=⟨_,rfl⟩
 have hzs:z.size=29:=by rw [hz,rowN_size]
 have hz1:z.all (·.oneCell')=true:=by rw [hz];exact frC_one _ _ rfl
 have HZf:=zH hz
 rw [frC_zero] at hz
 obtain⟨b0,hb0⟩:∃b,b=w.heap.size:=⟨_,rfl⟩
 obtain⟨W0,hW0⟩:∃W0,W0=w.alloc (.cells z 113):=⟨_,rfl⟩
 have hR:W0.heap[b0]?=some (.cells z 113 (0,0)):=by rw [hW0,hb0];exact heap_alloc_new _ _
 have hO:Old w W0:=by rw [hW0];exact Old.alloc _ _
 have HCs:=zH (CSum_any p n cap F W0 (hs.old hO) hb h1 h2)
 have HRd:=zH (fun V (hV:Old W0 V)=>FRead_any2 (.slice p n cap) (lst F n) V ((hs.old (hO.trans hV)).slI h1 h2) (lst_mem hb) (by rw [lst_len];exact hn))
 have Hz:=zH hz
 have Hz1:=zH hz1
 have Hzs:=zH hzs
 have Hi:Hid ((Tryz.prog.info? 113).map (·.size)=some z.size):=by unfold Hid;rw [hzs];exact Hs29.out
 have HW0:=zH hW0
 have HR:=zH hR
 have HO:=zH hO
 have HB0:=zH hb0
 obtain⟨bs,hbs⟩:∃bs,bs=lst F n:=⟨_,rfl⟩
 have hsum:sumF F n=Crc.sumOf bs:=by rw [hbs];rfl
 rw [←hbs] at HRd ⊢
 rw [hsum] at HCs
 obtain⟨X,hX⟩:∃X,X=Crc.sumOf bs:=⟨_,rfl⟩
 rw [←hX] at HCs
 clear hz hzs hW0 hR hO hb0 hbs hsum hs hb h1 h2 hn hz1
 by_cases hS:X≠S
 ·have HQ:Hid (openI S bs=9):=zH (openI_sum (by rw [←hX];exact hS))
  have hd:(X != S)=true:=by simpa using hS
  obtain⟨E,hE⟩:∃E,E=openI S bs:=⟨_,rfl⟩
  rw [←hE] at HQ ⊢
  clear hS hX hE HRd
  go_enter Tryz.func87,Tryz.ntmps87
  go_wp2_with fail
  rw [←Hz.out,←HW0.out,←HB0.out]
  clear HW0
  refine HCs.out.mono ?_
  rintro e w1 ⟨rfl,o1⟩
  have HR1:=zH ((o1.block _ (lt_of_block HR.out)).trans HR.out)
  have hrr:=row_ret HR1.out (HO.out.trans o1) (by rw [HB0.out];omega) z
  have HRR:=zH hrr
  clear o1 hrr HCs
  go_wp2_with (rw [←Hz.out];with_reducible refine wpList_store_row rfl 113 _ _ rfl b0 z rfl rfl 113 _ HR1.out Hi.out rfl Hz1.out ?_)
  refine bodyPost_ret (results_row_tmp2 rfl _ _ b0 113 z (0,0) _ rfl HRR.out.1 Tryz.underlying113 rfl Hi.out) rfl ?_
  have:=OpnR.none (bs:=bs) (er:=9) (by decide) HRR.out.2
  rw [←HZf.out] at this
  rw [HQ.out]
  exact this
 ·have hS:=Classical.not_not.1 hS
  have HQ1:Hid (RdOf bs->openI S bs=0):=zH (openI_ok (by rw [←hX];exact hS))
  have HQ2:Hid (¬RdOf bs->openI S bs=4):=zH (openI_form (by rw [←hX];exact hS))
  have hd:(X != S)=false:=by simpa using hS
  obtain⟨E,hE⟩:∃E,E=openI S bs:=⟨_,rfl⟩
  rw [←hE] at HQ1 HQ2 ⊢
  clear hS hX hE
  go_enter Tryz.func87,Tryz.ntmps87
  go_wp2_with fail
  rw [←Hz.out,←HW0.out,←HB0.out]
  clear HW0
  refine HCs.out.mono ?_
  rintro e w1 ⟨rfl,o1⟩
  have HO1:=zH o1
  clear o1 HCs
  go_wp2_with fail
  refine(HRd.out _ HO1.out).mono ?_
  rintro e w2 ⟨G,m,pg,cg,U,er,rfl,oo,hm,hcg,hU,hfU,her,hgood,hbad,hback,hnew⟩
  have ho2:=(HO.out.trans HO1.out).trans oo
  obtain⟨b2,hb2⟩:∃b,b=w2.heap.size:=⟨_,rfl⟩
  obtain⟨W3,hW3⟩:∃W,W=w2.alloc (.cells (rowN 29 (frC G (.slice pg m cg))) 113):=⟨_,rfl⟩
  have ho3:Old w2 W3:=by rw [hW3];exact Old.alloc _ _
  have HBx:=zH (show W3.heap[b2]?=some (.cells (rowN 29 (frC G (.slice pg m cg))) 113 (0,0)) by rw [hW3,hb2];exact heap_alloc_new _ _)
  have HR3:=zH (show W3.heap[b0]?=some (.cells z 113 (0,0)) from(((HO1.out.trans oo).trans ho3).block _ (lt_of_block HR.out)).trans HR.out)
  have H1g:Hid ((rowN 29 (frC G (.slice pg m cg))).all (·.oneCell')=true):=zH (frC_one _ _ rfl)
  have hw1:w.heap.size<w1.heap.size:=Nat.lt_of_lt_of_le (by rw [←HB0.out];exact lt_of_block HR.out) HO1.out.size
  have HN:=zH (fun h a ha=>Nat.lt_of_lt_of_le hw1 (hnew h a ha))
  have HG:=zH (And.intro hm (And.intro hcg (And.intro (hU.old ho3) (And.intro hfU (And.intro hgood hback)))))
  have HO3:=zH (ho2.trans ho3)
  have HW3:=zH hW3
  have HB2:=zH hb2
  have HEr:=zH her
  clear oo hm hcg hU hfU her hgood hbad hback hnew ho2 ho3 hb2 hW3 hw1 HRd HO1 HO HR
  by_cases h0:er=0
  ·subst h0
   have hrd:RdOf bs:=⟨G,m,U,(HG.out.2.2.2.2.1 rfl).1,(HG.out.2.2.2.2.1 rfl).2⟩
   have HE:=zH (HQ1.out hrd)
   have hrr:=row_ret HR3.out HO3.out (by rw [HB0.out];omega) (rowN 29 (frC G (.slice pg m cg)))
   have HRR:=zH hrr
   clear hrd hrr HQ1 HQ2
   go_wp2_with (first | (with_reducible refine wpList_store_row rfl 113 _ _ rfl w2.heap.size (rowN 29 (frC G (.slice pg m cg))) rfl rfl 113 _ (heap_alloc_new _ _) (by rw [rowN_size];exact Hs29.out) (by rw [rowN_size];kernel_rfl) H1g.out ?_;rw [World.setRow_alloc_new,←HW3.out,←HB2.out]) | (with_reducible refine wpList_load_row rfl 113 _ rfl b2 rfl 113 (rowN 29 (frC G (.slice pg m cg))) (0,0) _ HBx.out Tryz.underlying113 rfl (by rw [rowN_size];exact Hs29.out) ?_) | (with_reducible refine wpList_store_row rfl 113 _ _ rfl b0 (rowN 29 (frC G (.slice pg m cg))) rfl rfl 113 _ HR3.out (by rw [rowN_size];exact Hs29.out) (by rw [rowN_size];exact Hzs.out) H1g.out ?_))
   refine bodyPost_ret (results_row_tmp2 rfl _ _ b0 113 (rowN 29 (frC G (.slice pg m cg))) (0,0) _ rfl HRR.out.1 Tryz.underlying113 rfl (by rw [rowN_size];exact Hs29.out)) rfl ?_
   obtain⟨g1,g2,g3,g4,g5,g6⟩:=HG.out
   exact⟨G,m,pg,cg,U,by rw [HE.out];rfl,HRR.out.2,g1,g2,g3.kept (Kept.setRow _ _ _) (fun a hn ha=>by have:=HN.out hn a ha;have:=HB0.out;omega),g4,fun _=>⟨(g5 (by trivial)).1,(g5 (by trivial)).2,fun F0 n0 T0 a b=>(g6 F0 n0 T0 a b).2⟩,fun h=>absurd HE.out h,fun hn a ha=>Nat.le_of_lt (HN.out hn a ha)⟩
  ·have hrd:¬RdOf bs:=fun⟨F0,n0,T0,a,b⟩=>h0 (HG.out.2.2.2.2.2 F0 n0 T0 a b).1
   have HE:=zH (HQ2.out hrd)
   have hrr:=row_ret HR3.out HO3.out (by rw [HB0.out];omega) z
   have HRR:=zH hrr
   have hd2:(er != 0)=true:=by simpa using h0
   clear hrd hrr HQ1 HQ2 h0
   go_wp2_with (first | (with_reducible refine wpList_store_row rfl 113 _ _ rfl w2.heap.size (rowN 29 (frC G (.slice pg m cg))) rfl rfl 113 _ (heap_alloc_new _ _) (by rw [rowN_size];exact Hs29.out) (by rw [rowN_size];kernel_rfl) H1g.out ?_;rw [World.setRow_alloc_new,←HW3.out,←HB2.out]) | (rw [←Hz.out];with_reducible refine wpList_store_row rfl 113 _ _ rfl b0 z rfl rfl 113 _ HR3.out Hi.out rfl Hz1.out ?_))
   refine bodyPost_ret (results_row_tmp2 rfl _ _ b0 113 z (0,0) _ rfl HRR.out.1 Tryz.underlying113 rfl Hi.out) rfl ?_
   have:=OpnR.none (bs:=bs) (er:=4) (by decide) HRR.out.2
   rw [←HZf.out] at this
   rw [HE.out]
   exact this
structure BkN(sz n N:Nat)(D:Nat->Mt)(F:Nat->Int):Prop where
 z1:24<=sz
 z2:sz<=96
 n64:n<=64
 N4:N<=4194304
 byt:Byt F N
 ok:∀k,k<n->(D k).OkR
 x:∀k,k<n->0<=(D k).x
 y:∀k,k<n->0<=(D k).y
 pl:∀k q,k<n->q<(D k).fr->(D k).x.toNat+4*q+4<=N/\(D k).y.toNat+q*sz+sz<=N
def frAt(sz:Nat)(D:Nat->Mt)(k q:Nat):Nat:=(D k).y.toNat+q*sz
def frSum(D:Nat->Mt)(F:Nat->Int)(k q:Nat):Int:=numTo (fun j=>F ((D k).x.toNat+4*q+j)) 4
def whQ(D:Nat->Mt)(i ch bl:Int):Nat:=bl.toNat*(D i.toNat).c.toNat+ch.toNat
theorem whQ_at(D:Nat->Mt)(k c b:Nat):whQ D k c b=b*(D k).c.toNat+c:=by
 unfold whQ
 rw [Int.toNat_natCast,Int.toNat_natCast,Int.toNat_natCast]
theorem whQ_lt{D:Nat->Mt}{k c b:Nat}(h2:(c:Int)<(D k).c)(h3:b<cnt (D k).n.toNat):whQ D k c b<(D k).fr:=by
 rw [whQ_at]
 unfold Mt.fr
 have h:(b+1)*(D k).c.toNat<=cnt (D k).n.toNat*(D k).c.toNat:=Nat.mul_le_mul_right _ h3
 rw [Nat.succ_mul] at h
 omega
set_option maxHeartbeats 4000000 in
theorem frameOf_any(bb sz n N:Nat)(q:Option Addr)(c:Nat)(im:Option Addr)(ci:Nat)(D:Nat->Mt)(F:Nat->Int)(w:World)(h:BkB w bb sz n N q c im ci D F)(hN:BkN sz n N D F)(i k:Nat)(hi:i<n)(hk:k<(D i).fr):
  Calls Tryz.prog 46 #[.pointer (some ⟨bb,0,none⟩),.agg (D i).cells,.int .i64 k] w (OpnR w (lst (fun j=>F (frAt sz D i k+j)) sz) (openI (frSum D F i k) (lst (fun j=>F (frAt sz D i k+j)) sz))):=by
 have Hs29:Hid ((Tryz.prog.info? 113).map (·.size)=some 29):=zH (by kernel_rfl)
 have Hs9:Hid ((Tryz.prog.info? 85).map (·.size)=some 9):=zH (by kernel_rfl)
 have hpl:=hN.pl i k hi hk
 have hok:=hN.ok i hi
 have hx:=hN.x i hi
 have hy:=hN.y i hi
 have h24:=hN.z1
 have h96:=hN.z2
 have hN4:=hN.N4
 have hfr:=hok.fr_le
 obtain⟨A,hA⟩:∃A,A=(D i).x.toNat:=⟨_,rfl⟩
 obtain⟨Y,hY⟩:∃Y,Y=(D i).y.toNat:=⟨_,rfl⟩
 have hxA:(D i).x=A:=by omega
 have hyY:(D i).y=Y:=by omega
 rw [←hA,←hY] at hpl
 have HPl:=zH (fun V (o:Old w V)=>BPlace_any bb sz n N q c im ci D F V (h.old o) h96 hN.byt (D i) A Y k hxA hyY (by omega) (by omega) (by omega) (by omega))
 have hfa:frAt sz D i k=Y+k*sz:=by unfold frAt;rw [←hY]
 have hfs:frSum D F i k=numTo (fun j=>F (A+4*k+j)) 4:=by unfold frSum;rw [←hA]
 rw [hfa,hfs]
 obtain⟨S,hS⟩:∃S,S=numTo (fun j=>F (A+4*k+j)) 4:=⟨_,rfl⟩
 obtain⟨at_,hat⟩:∃a,a=Y+k*sz:=⟨_,rfl⟩
 rw [←hat,←hS] at HPl ⊢
 have hbt:Byt (fun j=>F (at_+j)) sz:=fun j hj=>hN.byt _ (by omega)
 obtain⟨g,o,rfl,hg,hcs⟩:=h.img (by omega)
 have hsl:SlU w (some ⟨g,o+at_,none⟩) sz (fun j=>F (at_+j)):=fun _=>⟨g,o+at_,rfl,hg,fun j hj=>by rw [Nat.add_assoc];exact hcs (at_+j) (by omega)⟩
 obtain⟨hi',hhi⟩:∃x,x=at_+sz:=⟨_,rfl⟩
 obtain⟨CP,hCP⟩:∃L,L=ci-at_:=⟨_,rfl⟩
 have hi1:=h.i1
 have hi2:=h.i2
 have hc1:∀w',(Instr.sliceAt 34 (.slice (some ⟨g,o,none⟩) N ci) (some (.int .i64 at_)) (some (.int .i64 hi')) none).run Tryz.prog w' = .ok (.slice (some ⟨g,o+at_,none⟩) sz CP) w':=fun w'=>by
  have:=cut_lh g o N ci at_ hi' (by omega) (by omega) w'
  rw [←hCP,show hi'-at_=sz by omega] at this
  exact this
 have HOp:=zH (fun V (hV:Old w V)=>open_any (some ⟨g,o+at_,none⟩) sz CP (fun j=>F (at_+j)) S V (hsl.old hV) hbt (by omega) (by omega) (by omega))
 have HK:=zH (fun V (hV:Old w V)=>(And.intro (h.old hV).size_.2.2 (h.old hV).size_.1))
 have e1:IntKind.i64.wrap ((at_:Int)+sz)=hi':=by rw [IntWalk.i64_in _ (by omega)];omega
 have e2:wrap64 ((at_:Int)+sz)=hi':=by rw [IntWalk.wrap64_in _ (by omega)];omega
 have HE:=zH (And.intro e1 e2)
 obtain⟨X,hX⟩:∃X,X=(D i).cells:=⟨_,rfl⟩
 have HX9:Hid (X.size=9):=zH (by rw [hX];exact Mt.size9 _)
 rw [←hX] at HPl ⊢
 obtain⟨z,hz⟩:∃z:Array Value,z=rowN 29 (frC (fun _=>0) (.slice none 0 0)):=⟨_,rfl⟩
 have HZs:Hid (z.size=29):=zH (by rw [hz,rowN_size])
 rw [frC_zero] at hz
 obtain⟨W0,hW0⟩:∃W,W=(w.alloc (.cells X 85)).alloc (.cells z 113):=⟨_,rfl⟩
 have HB:Hid (W0.heap[w.heap.size]?=some (.cells X 85 (0,0))):=zH (by rw [hW0];exact heap_alloc2_old w _ _)
 have HR:Hid (W0.heap[w.heap.size+1]?=some (.cells z 113 (0,0))):=zH (by rw [hW0];exact heap_alloc2_new w _ _)
 have HO:Hid (Old w W0):=zH (by rw [hW0];exact(Old.alloc w _).alloc' _)
 have HZ:=zH hz
 have HW0:=zH hW0
 clear h hN hpl hok hx hy hfr hA hY hxA hyY hfa hfs hS hat hbt hg hcs hsl hhi hCP hi1 hi2 hX hz hW0 e1 e2
 go_enter Tryz.func46,Tryz.ntmps46
 go_wp2_with (rw [←HZ.out,←HW0.out];with_reducible refine wpList_load_row rfl 85 _ rfl w.heap.size rfl 85 X (0,0) _ HB.out Tryz.underlying85 rfl (by rw [HX9.out];exact Hs9.out) ?_)
 refine(HPl.out W0 HO.out).mono ?_
 rintro e V ⟨rfl,o1⟩
 have HO1:=zH (HO.out.trans o1)
 have HR1:=zH ((o1.block _ (lt_of_block HR.out)).trans HR.out)
 clear o1 HPl HB HR
 go_wp2_with fail
 obtain⟨e1,e2⟩:=HE.out
 refine wp_region_held_drew (S:=(fun V=>V.cell? ⟨bb,2,none⟩=some (.slice (some ⟨g,o,none⟩) N ci)/\V.cell? ⟨bb,0,none⟩=some (.int .i64 (sz:Int)))) (by kernel_rfl) ?_ (fun hHeld=>?_)
 ·(try dsimp only);exact HK.out _ HO1.out.drew
 refine wpU 0 rfl ?_;try simp only [Act.put,sA,sZ,sS]
 refine wpU 1 rfl ?_;try simp only [Act.put,sA,sZ,sS]
 refine wpU 2 rfl ?_;try simp only [Act.put,sA,sZ,sS]
 refine wpU 3 rfl ?_;try simp only [Act.put,sA,sZ,sS]
 refine wpU 4 rfl ?_;try simp only [Act.put,sA,sZ,sS]
 refine wpU 5 rfl ?_;try simp only [Act.put,sA,sZ,sS]
 refine wpU 6 rfl ?_;try simp only [Act.put,sA,sZ,sS]
 refine wpU 7 rfl ?_;try simp only [Act.put,sA,sZ,sS]
 refine wpU 8 rfl ?_;try simp only [Act.put,sA,sZ,sS]
 refine wpU 9 rfl ?_;try simp only [Act.put,sA,sZ,sS]
 refine wpU 10 rfl ?_;try simp only [Act.put,sA,sZ,sS]
 refine wpU 11 rfl ?_;try simp only [Act.put,sA,sZ,sS]
 refine wpU 12 rfl ?_;try simp only [Act.put,sA,sZ,sS]
 refine wpR 13 rfl (fun K hK=>?_)
 clear e1 e2
 go_simp
 refine(HOp.out _ HO1.out.drew).mono ?_
 rintro e V2 ⟨G,n2,p2,cp2,T,rfl,o2,f1,f2,f3,f4,f5,f6,f7⟩
 have HV:=zH (HO1.out.drew.trans o2)
 have hrb:w.heap.size+1<V.heap.size:=lt_of_block HR1.out
 have hR2:V2.heap[w.heap.size+1]?=some (.cells z 113 (0,0)):=(o2.block _ hrb).trans HR1.out
 have k3:Kept (fun q=>q≠w.heap.size+1) V2 (V2.setRow (w.heap.size+1) (rowN 29 (frC G (.slice p2 n2 cp2)))):=⟨rfl,rfl,by simp,fun x hx=>setRow_other _ _ _ _ hx⟩
 have hrr:=row_ret hR2 HV.out (Nat.le_succ _) (rowN 29 (frC G (.slice p2 n2 cp2)))
 have f3':SlF 2 (V2.setRow (w.heap.size+1) (rowN 29 (frC G (.slice p2 n2 cp2)))) p2 n2 T:=f3.kept k3 (fun a hn ha e=>by
  have h1:=f7 hn a ha
  have h2:V.drew.heap.size=V.heap.size:=rfl
  omega)
 have f7':0<n2->∀a,p2=some a->w.heap.size<=a.block:=fun hn a ha=>by
  have h1:=f7 hn a ha
  have h2:V.drew.heap.size=V.heap.size:=rfl
  omega
 have HRR:=zH hrr
 have HR2:=zH hR2
 have HF:=zH (And.intro f1 (And.intro f2 (And.intro f3' (And.intro f4 (And.intro f5 (And.intro f6 f7'))))))
 have H1g:Hid ((rowN 29 (frC G (.slice p2 n2 cp2))).all (·.oneCell')=true):=zH (frC_one _ _ rfl)
 have HKr:Hid ((V2.setRow (w.heap.size+1) (rowN 29 (frC G (.slice p2 n2 cp2)))).cell? ⟨bb,2,none⟩=some (.slice (some ⟨g,o,none⟩) N ci)/\(V2.setRow (w.heap.size+1) (rowN 29 (frC G (.slice p2 n2 cp2)))).cell? ⟨bb,0,none⟩=some (.int .i64 (sz:Int))):=zH (HK.out _ hrr.2)
 clear o2 f1 f2 f3 f4 f5 f6 f7 f3' f7' hrb hR2 k3 hrr HOp
 go_wp2_with fail
 refine hK.out _ _ ?_ (fun hHeld=>?_)
 ·(try dsimp only);exact HK.out _ HV.out
 clear hK K
 try simp only [Act.put,sA,sZ,sS]
 refine wpU 14 rfl ?_;try simp only [Act.put,sA,sZ,sS]
 refine wpU 15 rfl ?_;try simp only [Act.put,sA,sZ,sS]
 refine wpR 16 rfl (fun K hK=>?_)
 rw [if_pos (by kernel_rfl)]
 with_reducible refine wp_store_row 113 _ _ rfl (w.heap.size+1) (rowN 29 (frC G (.slice p2 n2 cp2))) rfl rfl 113 _ HR2.out (by rw [rowN_size];exact Hs29.out) (by rw [rowN_size];exact HZs.out) H1g.out ?_
 refine hK.out _ _ ?_ (fun hHeld=>?_)
 ·(try dsimp only);exact HKr.out
 clear hK K
 refine wpU 17 rfl ?_;try simp only [Act.put,sA,sZ,sS]
 refine wpAnyH_done (by kernel_rfl) ?_ _
 go_wp2_with fail
 refine bodyPost_ret (results_row_tmp2 rfl _ _ (w.heap.size+1) 113 (rowN 29 (frC G (.slice p2 n2 cp2))) (0,0) _ rfl HRR.out.1 Tryz.underlying113 rfl (by rw [rowN_size];exact Hs29.out)) rfl ?_
 exact⟨G,n2,p2,cp2,T,rfl,HRR.out.2,HF.out.1,HF.out.2.1,HF.out.2.2.1,HF.out.2.2.2.1,HF.out.2.2.2.2.1,HF.out.2.2.2.2.2.1,HF.out.2.2.2.2.2.2⟩
theorem fitR_ex(f g:Nat->Int)(size:Int)(w:World)(hf:Fits64 f)(h24:24<=size)(h96:size<=96)(hs:smallP f)(hg:rightP g):∃x,FitR f g size x/\x.n<=2:=by
 by_cases h:55<=size
 ·exact⟨⟨tolN zeroS zeroS f,.slice none 0 0,0,fun _=>0⟩,.inl ⟨h,rfl,rfl,rfl⟩,by show (0:Nat)<=2;omega⟩
 ·obtain⟨e,w',fr,⟨n,p,cap,_,h1,h2,_⟩,_⟩:=frame_search2 f g size w hf ⟨h24,by omega⟩ ⟨hs,hg⟩ []
  exact⟨⟨tolN g (sclN (restF2 f true) n) (restF2 f true),.slice none 0 0,tnN f true,toneF f⟩,.inr ⟨by omega,n,h1,rfl,rfl,rfl⟩,h2⟩
theorem frm_good{sz:Nat}{xs:List Int}(hx:samP xs)(h24:24<=sz)(h96:sz<=96)(w:World){k:Nat}(hk:k<cnt xs.length):
  ∃x:Fr,FitR (rowAt (spC (decide (55<=(sz:Int))) (cnt xs.length) fun j=>xs.getD j 0) k) (gnR (decide (55<=(sz:Int))) (fun j=>xs.getD j 0) k) sz x/\x.n<=2/\FrP x.F x.n x.T/\Fits64 x.T/\frmL sz xs k=padded (enc x.F x.n x.T) sz/\Tells (frmL sz xs k) (enc x.F x.n x.T):=by
 have hF:∀q,-32768<=(fun j=>xs.getD j 0) q/\(fun j=>xs.getD j 0) q<=32768:=fun q=>by have:=samP_at hx q;dsimp only;omega
 have hs:=spectra_small hF (decide (55<=(sz:Int))) (cnt xs.length) k hk
 have hf:Fits64 (rowAt (spC (decide (55<=(sz:Int))) (cnt xs.length) fun j=>xs.getD j 0) k):=fun j=>spectraF_in _ _ _ (fun q=>by have h1:=hF q;dsimp only at h1 ⊢;omega) _
 obtain⟨x,h1,h2⟩:=fitR_ex _ _ (sz:Int) w hf (by omega) (by omega) hs (gnR_right (decide (55<=(sz:Int))) (fun j=>xs.getD j 0) k)
 have hP:=fitR_may h1 hs (gnR_right _ _ k) h2
 have hr:=fitR_room h1 hs h2 (by omega)
 have he:=enc_len hP
 have hfr:frmL sz xs k=padded (enc x.F x.n x.T) sz:=by
  unfold frmL
  have hex:∃x:Fr,FitR (rowAt (spC (decide (55<=(sz:Int))) (cnt xs.length) fun j=>xs.getD j 0) k) (gnR (decide (55<=(sz:Int))) (fun j=>xs.getD j 0) k) sz x:=⟨x,h1⟩
  rw [dif_pos hex,enc_same (fitR_same hex.choose_spec h1)]
 exact⟨x,h1,h2,hP,fitR_fits h1 hf,hfr,by rw [hfr];exact tells_padded _ _ (by omega)⟩
structure Pkd(sz n:Nat)(Z:Nat->Smp)(F:Nat->Int):Prop where
 z1:24<=sz
 z2:sz<=96
 n64:n<=64
 v:∀i,i<n->SmpV (Z i)
 tot:totalAt (frD (mtsD Z)) sz n<=4194304
 dir:dirP (mtsD Z) n
 ld:Ld (frD (mtsD Z)) sz n (BTo sz Z n) (frontF (totalAt (frD (mtsD Z)) sz n:Nat) n sz (plD (mtsD Z) sz n)) (offTo (frD (mtsD Z)) n) F
theorem BTo_at(sz:Nat)(Z:Nat->Smp):∀{n k q:Nat},k<n->q<frD (mtsD Z) k->BTo sz Z n (offTo (frD (mtsD Z)) k+q)=frB sz (Z k) q
 | 0,k,q,h,_=>by omega
 | n+1,k,q,h,hq=>by
  have e:offTo (frD (mtsD Z)) (k+1)=offTo (frD (mtsD Z)) k+frD (mtsD Z) k:=rfl
  show (if offTo (frD (mtsD Z)) k+q<offTo (frD (mtsD Z)) n then BTo sz Z n (offTo (frD (mtsD Z)) k+q) else frB sz (Z n) (offTo (frD (mtsD Z)) k+q-offTo (frD (mtsD Z)) n))=_
  by_cases hk:k<n
  ·have:=offTo_mono (frD (mtsD Z)) (show k+1<=n from hk)
   rw [if_pos (by omega)]
   exact BTo_at sz Z hk hq
  ·obtain rfl:k=n:=by omega
   rw [if_neg (by omega),Nat.add_sub_cancel_left]
namespace Pkd
variable {sz n:Nat} {Z:Nat->Smp} {F:Nat->Int}
theorem bkN(h:Pkd sz n Z F):BkN sz n (totalAt (frD (mtsD Z)) sz n) (plD (mtsD Z) sz n) F where
 z1:=h.z1
 z2:=h.z2
 n64:=h.n64
 N4:=h.tot
 byt:=laid_byt h.ld fun i _=>BTo_byt _ _ _ _
 ok:=fun k hk=>((Mt.ok_iff _).1 (h.dir k hk).1).at_ _ _
 x:=fun k hk=>Int.natCast_nonneg _
 y:=fun k hk=>Int.natCast_nonneg _
 pl:=fun k q hk hq=>by
  have h1:=place_end (frD (mtsD Z)) sz n (i:=k) (q:=q) hq
  have h2:=atTo_mono (frD (mtsD Z)) sz n (show k+1<=n from hk)
  have h3:=(total_le (frD (mtsD Z)) sz n).1
  have h4:=firstAt_le (frD (mtsD Z)) sz n k
  have h5:=atTo_step (frD (mtsD Z)) sz n k
  have e1:(plD (mtsD Z) sz n k).x.toNat=atTo (frD (mtsD Z)) sz n k:=Int.toNat_natCast _
  have e2:(plD (mtsD Z) sz n k).y.toNat=firstAt (frD (mtsD Z)) sz n k:=Int.toNat_natCast _
  rw [e1,e2,Nat.mul_comm q sz]
  omega
theorem numC(h:Pkd sz n Z F)(k:Nat):(plD (mtsD Z) sz n k).c.toNat=(Z k).n:=Int.toNat_natCast _
theorem bytes(h:Pkd sz n Z F){k c b:Nat}(hk:k<n)(hc:(c:Int)<(plD (mtsD Z) sz n k).c)(hb:b<cnt (plD (mtsD Z) sz n k).n.toNat):
  lst (fun j=>F (frAt sz (plD (mtsD Z) sz n) k (whQ (plD (mtsD Z) sz n) k c b)+j)) sz=frmL sz (chL (Z k) c) b:=by
 have hq:=whQ_lt hc hb
 have hq':whQ (plD (mtsD Z) sz n) k c b<frD (mtsD Z) k:=hq
 have h1:=h.ld.byte k _ hk hq' (by
  have:=offTo_mono (frD (mtsD Z)) (show k+1<=n from hk)
  have e:offTo (frD (mtsD Z)) (k+1)=offTo (frD (mtsD Z)) k+frD (mtsD Z) k:=rfl
  omega)
 have e2:(plD (mtsD Z) sz n k).y.toNat=firstAt (frD (mtsD Z)) sz n k:=Int.toNat_natCast _
 have hcn:c<(Z k).n:=by
  have:(plD (mtsD Z) sz n k).c=((Z k).n:Int):=rfl
  omega
 have hm:=mod_mul_add b (Z k).n c hcn
 refine List.ext_getElem (by rw [lst_len,frmL_len]) fun j h2 h3=>?_
 rw [lst_len] at h2
 have e3:=h1 j h2
 rw [BTo_at sz Z hk hq'] at e3
 have e4:(lst (fun j=>F (frAt sz (plD (mtsD Z) sz n) k (whQ (plD (mtsD Z) sz n) k c b)+j)) sz)[j]'(by rw [lst_len];exact h2)=F (frAt sz (plD (mtsD Z) sz n) k (whQ (plD (mtsD Z) sz n) k c b)+j):=by simp [lst]
 rw [e4]
 unfold frAt
 rw [e2,Nat.mul_comm _ sz,e3]
 unfold frB
 rw [whQ_at,h.numC k,hm.1,hm.2,List.getD_eq_getElem?_getD,List.getElem?_eq_getElem h3]
 rfl
theorem sum(h:Pkd sz n Z F){k c b:Nat}(hk:k<n)(hc:(c:Int)<(plD (mtsD Z) sz n k).c)(hb:b<cnt (plD (mtsD Z) sz n k).n.toNat):
  frSum (plD (mtsD Z) sz n) F k (whQ (plD (mtsD Z) sz n) k c b)=Crc.sumOf (frmL sz (chL (Z k) c) b):=by
 have hq:=whQ_lt hc hb
 have hq':whQ (plD (mtsD Z) sz n) k c b<frD (mtsD Z) k:=hq
 have hoff:offTo (frD (mtsD Z)) k+whQ (plD (mtsD Z) sz n) k c b<offTo (frD (mtsD Z)) n:=by
  have:=offTo_mono (frD (mtsD Z)) (show k+1<=n from hk)
  have e:offTo (frD (mtsD Z)) (k+1)=offTo (frD (mtsD Z)) k+frD (mtsD Z) k:=rfl
  omega
 have h1:=h.ld.sum k _ hk hq' hoff
 have h2:=h.ld.byte k _ hk hq' hoff
 have e1:(plD (mtsD Z) sz n k).x.toNat=atTo (frD (mtsD Z)) sz n k:=Int.toNat_natCast _
 have hbd:=sumF_bd (F:=BTo sz Z n (offTo (frD (mtsD Z)) k+whQ (plD (mtsD Z) sz n) k c b)) (n:=sz) (BTo_byt _ _ _ _)
 unfold frSum
 rw [e1,numTo_ext h1,numTo_be4 _ hbd.1 hbd.2]
 unfold sumF
 rw [←h.bytes hk hc hb]
 congr 1
 have e2:(plD (mtsD Z) sz n k).y.toNat=firstAt (frD (mtsD Z)) sz n k:=Int.toNat_natCast _
 refine lst_ext fun j hj=>?_
 unfold frAt
 rw [e2,Nat.mul_comm _ sz,h2 j hj]
theorem chan(h:Pkd sz n Z F){k c:Nat}(hk:k<n)(hc:(c:Int)<(plD (mtsD Z) sz n k).c):c<(Z k).n/\samP (chL (Z k) c)/\(chL (Z k) c).length=(Z k).M 0/\(plD (mtsD Z) sz n k).n.toNat=(Z k).M 0:=by
 have hcn:c<(Z k).n:=by
  have:(plD (mtsD Z) sz n k).c=((Z k).n:Int):=rfl
  omega
 have hv:=h.v k hk
 refine⟨hcn,ch_samP hv c hcn,by rw [chL_len,hv.m c hcn],?_⟩
 show (Z k).len.toNat=_
 unfold Smp.len
 rw [if_neg (by have:=hv.n1;omega)]
 exact Int.toNat_natCast _
theorem good(h:Pkd sz n Z F)(w:World){k c b:Nat}(hk:k<n)(hc:(c:Int)<(plD (mtsD Z) sz n k).c)(hb:b<cnt (plD (mtsD Z) sz n k).n.toNat):
  openI (frSum (plD (mtsD Z) sz n) F k (whQ (plD (mtsD Z) sz n) k c b)) (lst (fun j => F (frAt sz (plD (mtsD Z) sz n) k (whQ (plD (mtsD Z) sz n) k c b) + j)) sz) = 0 := by
 obtain⟨h1,h2,h3,h4⟩:=h.chan hk hc
 rw [h.sum hk hc hb,h.bytes hk hc hb]
 obtain⟨x,_,_,hP,_,_,ht⟩:=frm_good h2 h.z1 h.z2 w (k:=b) (by rw [h3,←h4];exact hb)
 exact openI_ok rfl ⟨x.F,x.n,x.T,hP,ht⟩
end Pkd
def PkOk(sz:Int)(n:Nat)(L:Nat->Smp):Prop:=24<=sz/\sz<=96/\allI L n=0/\∀Z,Ordd L n Z->totalAt (frD (mtsD Z)) sz.toNat n<=4194304
theorem pack_is{w V:World}{sz:Int}{n:Nat}{L:Nat->Smp}{e:Ending}(h:PkR w sz n L e V):
  (∃er,er≠0/\e = .returned (.tuple #[.slice none 0 0,.int .i64 er])/\Old w V/\¬PkOk sz n L) \/
  (24<=sz/\sz<=96/\allI L n=0/\∃Z g F,e = .returned (.tuple #[.slice (some ⟨g,0,none⟩) (totalAt (frD (mtsD Z)) sz.toNat n) (totalAt (frD (mtsD Z)) sz.toNat n),.int .i64 0])/\Pkd sz.toNat n Z F/\Ordd L n Z/\FrtS w g (totalAt (frD (mtsD Z)) sz.toNat n) F V):=by
 rcases h with ⟨h0,h1,h2⟩ | ⟨_,h1,h2,h3⟩ | ⟨h0,h1,Z,h2,h3⟩
 ·exact .inl ⟨12,by decide,h1,h2,fun k=>h0 ⟨k.1,k.2.1⟩⟩
 ·exact .inl ⟨_,h1,h2,h3,fun k=>h1 k.2.2.1⟩
 ·rcases h3 with ⟨k1,k2,k3⟩ | ⟨k1,g,k2,F,k3,k4⟩
  ·exact .inl ⟨_,k1,k2,k3,fun k=>k1 (if_neg (by have:=k.2.2.2 Z h2;omega))⟩
  ·obtain⟨a1,a2,a3⟩:=allI_zero h1
   have hv:=h2.valid a2
   refine .inr ⟨h0.1,h0.2,h1,Z,g,F,k2,⟨by omega,by omega,a1,hv,?_,h2.dir a2,k4⟩,h2,k3⟩
   by_cases c:4194304<totalAt (frD (mtsD Z)) sz.toNat n
   ·rw [if_pos c] at k1;cases k1
   ·omega
theorem specTo_same{V W T U:Nat->Int}{k:Nat}(hV:V k=W k):∀{n:Nat},(∀j,j<2*n->T j=U j)->specTo V T n k=specTo W U n k
 | 0,_=>hV
 | n+1,h=>by
  have ih:=specTo_same (V:=V) (W:=W) (T:=T) (U:=U) (k:=k) hV (n:=n) fun j hj=>h j (by omega)
  show (if (k:Int)=T (2*n) then specTo V T n k+T (2*n+1) else specTo V T n k)=if (k:Int)=U (2*n) then specTo W U n k+U (2*n+1) else specTo W U n k
  rw [h (2*n) (by omega),h (2*n+1) (by omega),ih]
theorem specF_same{F G T U:Nat->Int}{n m:Nat}(h:sameP F n T G m U)(k:Nat)(hk:k<16):specF F n T k=specF G m U k:=by
 obtain⟨rfl,h2,h3⟩:=h
 have hs:∀k,k<4->stS F k=stS G k:=fun k hk=>h3 (5+k) (by omega) (by omega)
 have hq:stQ F k=stQ G k:=by unfold stQ;rw [if_pos hk,if_pos hk];exact h3 (13+k) (by omega) (by omega)
 have hv:specV F k=specV G k:=by
  unfold specV toldR
  have hp:scalesP (stS F)↔scalesP (stS G):=⟨fun a j hj=>by rw [←hs j hj];exact a j hj,fun a j hj=>by rw [hs j hj];exact a j hj⟩
  by_cases hc:scalesP (stS F)
  ·rw [if_pos hc,if_pos (hp.1 hc)]
   unfold toldF
   rw [hq,hs (k/4) (by omega)]
  ·rw [if_neg hc,if_neg fun a=>hc (hp.2 a)]
 unfold specF clampTo
 rw [if_pos hk,if_pos hk,specTo_same hv h2]
theorem chan_frames{sz:Nat}{xs:List Int}(hx:samP xs)(h24:24<=sz)(h96:sz<=96)(w:World):∃L:Nat->Fr,FmX sz xs (cnt xs.length) L/\∀k,k<cnt xs.length->FrP (L k).F (L k).n (L k).T/\Fits64 (L k).T/\Tells (frmL sz xs k) (enc (L k).F (L k).n (L k).T):=by
 have h:∀k,∃x:Fr,k<cnt xs.length->FitR (rowAt (spC (decide (55<=(sz:Int))) (cnt xs.length) fun j=>xs.getD j 0) k) (gnR (decide (55<=(sz:Int))) (fun j=>xs.getD j 0) k) sz x/\x.n<=2/\FrP x.F x.n x.T/\Fits64 x.T/\Tells (frmL sz xs k) (enc x.F x.n x.T):=fun k=>by
  by_cases hk:k<cnt xs.length
  ·obtain⟨x,h1,h2,h3,h4,_,h6⟩:=frm_good hx h24 h96 w hk
   exact⟨x,fun _=>⟨h1,h2,h3,h4,h6⟩⟩
  ·exact⟨zeroFr,fun h=>absurd h hk⟩
 refine⟨fun k=>(h k).choose,fun k hk=>?_,fun k hk=>?_⟩
 ·obtain⟨h1,h2,_⟩:=(h k).choose_spec hk
  exact⟨h1,h2⟩
 ·obtain⟨_,_,h3,h4,h5⟩:=(h k).choose_spec hk
  exact⟨h3,h4,h5⟩
theorem chan_exact{sz:Nat}{xs:List Int}(hx:samP xs)(h55:55<=sz){L:Nat->Fr}(h:FmX sz xs (cnt xs.length) L)(q:Nat)(hq:q<xs.length):satI (wholeF (cnt xs.length) (gfTo (cnt xs.length) L) (cnt xs.length) (smTo (cnt xs.length) L) q)=xs.getD q 0:=by
 have h1:decide (55<=(sz:Int))=true:=decide_eq_true (by omega)
 unfold FmX at h
 rw [h1] at h
 have hF:∀q,-32768<=(fun j=>xs.getD j 0) q/\(fun j=>xs.getD j 0) q<=32768:=fun q=>by have:=samP_at hx q;dsimp only;omega
 rw [exact_back hF (by omega) h q (by unfold cnt;omega)]
 have:=samP_at hx q
 exact satI_in _ (by omega) (by omega)
def WholeR(w:World)(len N:Nat)(L:Nat->Fr)(e:Ending)(w':World):Prop:=
 ∃r,e = .returned (.tuple #[.slice (some ⟨r,0,none⟩) len len,.int .i64 0])/\CellsAt w' r len (fun j=>satI (wholeF N (gfTo N L) N (smTo N L) j))/\w.heap.size<=r/\Old w w'
structure WhS(w:World)(g mb N:Nat)(X:Array Value)(L:Nat->Fr)(k:Nat)(wr:World):Prop where
 ex:∃Lk,FrsO (fun q=>q<w.heap.size) wr g N Lk/\∀i,i<k->FrP (Lk i).F (Lk i).n (Lk i).T/\sameP (Lk i).F (Lk i).n (Lk i).T (L i).F (L i).n (L i).T
 bx:wr.heap[mb]?=some (.cells X 85 (0,0))
 ne:mb≠g
 old:Old w wr
namespace WhS
variable {w wr V:World} {g mb N:Nat} {X:Array Value} {L:Nat->Fr} {k:Nat}
theorem keep(h:WhS w g mb N X L k wr)(o:Old wr V):WhS w g mb N X L k V:=by
 obtain⟨Lk,h1,h2⟩:=h.ex
 exact⟨⟨Lk,h1.old o,h2⟩,(o.block _ (lt_of_block h.bx)).trans h.bx,h.ne,h.old.trans o⟩
theorem glt(h:WhS w g mb N X L k wr):g<wr.heap.size:=by obtain⟨Lk,h1,_⟩:=h.ex;exact h1.at_.lt
theorem there(h:WhS w g mb N X L k wr)(hk:k<N):wr.there g (k*29) 29:=by obtain⟨Lk,h1,_⟩:=h.ex;exact h1.at_.there (k*29) 29 (by omega)
theorem next(h:WhS w g mb N X L k wr)(hk:k<N)(x:Fr)(hx:ToV (fun q=>q=g) wr x)(h1:FrP x.F x.n x.T)(h2:sameP x.F x.n x.T (L k).F (L k).n (L k).T):WhS w g mb N X L (k+1) (wr.setCells g (k*29) (rowN 29 (frC x.F x.s)).toList):=by
 obtain⟨Lk,a1,a2⟩:=h.ex
 have kk:=Kept.setCells (X:=fun q=>q≠g) wr (b:=g) (fun e=>e rfl) (k*29) (rowN 29 (frC x.F x.s)).toList
 refine⟨⟨updF Lk k x,a1.store k hk x hx,fun i hi=>?_⟩,(kk.block mb h.ne).trans h.bx,h.ne,h.old.after kk fun q hq e=>a1.out (e ▸ hq)⟩
 by_cases e:i=k
 ·subst e
  rw [updF_same]
  exact⟨h1,h2⟩
 ·rw [updF_other _ _ _ e]
  exact a2 i (by omega)
end WhS
theorem whole_same{N:Nat}{L M:Nat->Fr}(h:∀i,i<N->sameP (L i).F (L i).n (L i).T (M i).F (M i).n (M i).T)(q:Nat)(hq:q<N*16):wholeF N (gfTo N L) N (smTo N L) q=wholeF N (gfTo N M) N (smTo N M) q:=by
 refine wholeF_ext (fun j hj=>?_) (fun j hj=>?_) q hq
 ·unfold smTo
  rw [if_pos (by omega),if_pos (by omega)]
  exact specF_same (h _ (by omega)) _ (by omega)
 ·unfold gfTo
  rw [if_pos (by omega),if_pos (by omega)]
  exact(h (j/4) (by omega)).2.2 _ (by omega) (by omega)
set_option maxHeartbeats 8000000 in
theorem Whole_good(bb sz n:Nat)(q:Option Addr)(c:Nat)(im:Option Addr)(ci:Nat)(D:Nat->Mt)(F:Nat->Int)(Z:Nat->Smp)(w:World)(h:BkB w bb sz n (totalAt (frD (mtsD Z)) sz n) q c im ci D F)(pk:Pkd sz n Z F)(hD:D=plD (mtsD Z) sz n)(k ch:Nat)(hk:k<n)(hch:(ch:Int)<(D k).c)
  (len N:Nat) (hlen:len=(D k).n.toNat) (hN:N=cnt len) (L:Nat->Fr) (hL:∀b,b<N->FrP (L b).F (L b).n (L b).T/\Tells (frmL sz (chL (Z k) ch) b) (enc (L b).F (L b).n (L b).T)):
  Calls Tryz.prog 11 #[.pointer (some ⟨bb,0,none⟩),.int .i64 k,.int .i64 ch] w (WholeR w len N L):=by
 have Hs29:Hid ((Tryz.prog.info? 113).map (·.size)=some 29):=zH (by kernel_rfl)
 have Hs9:Hid ((Tryz.prog.info? 85).map (·.size)=some 9):=zH (by kernel_rfl)
 have hbn:BkN sz n (totalAt (frD (mtsD Z)) sz n) D F:=by rw [hD];exact pk.bkN
 have hz0:0<sz:=by have:=hbn.z1;omega
 have hn64:=hbn.n64
 have HM:=zH (BMetaOf_at bb sz n _ q c im ci D F w h hz0 hn64 k hk ch ⟨by omega,hch⟩)
 have hok:=hbn.ok k hk
 have hfr:=hok.fr_le
 have hn1:=hok.n1
 have hle:len<=1048576:=by have hd:=hch;rw [hD] at hd;have:=pk.chan hk hd;have:=(pk.v k hk).m2;rw [hlen,hD];omega
 have HFo:Hid (∀V b,b<N->Old w V->Calls Tryz.prog 46 #[.pointer (some ⟨bb,0,none⟩),.agg (D k).cells,.int .i64 (whQ D k ch b)] V (OpnR V (frmL sz (chL (Z k) ch) b) 0)):=zH fun V b hb hV=>by
  have hb':b<cnt (D k).n.toNat:=by rw [←hlen,←hN];exact hb
  have hq:whQ D k ch b<(D k).fr:=whQ_lt hch hb'
  have:=frameOf_any bb sz n _ q c im ci D F V (h.old hV) hbn k (whQ D k ch b) hk hq
  have e1:lst (fun j=>F (frAt sz D k (whQ D k ch b)+j)) sz=frmL sz (chL (Z k) ch) b:=by
   rw [hD] at hch hb' ⊢
   exact pk.bytes hk hch hb'
  have e2:openI (frSum D F k (whQ D k ch b)) (lst (fun j=>F (frAt sz D k (whQ D k ch b)+j)) sz)=0:=by
   rw [hD] at hch hb' ⊢
   exact pk.good V hk hch hb'
  rw [e2,e1] at this
  exact this
 have HNu:Hid (∀V b,b<N->Calls Tryz.prog 47 #[.agg (D k).cells,.int .i64 ch,.int .i64 b] V fun e w'=>e = .returned (.int .i64 (whQ D k ch b))/\Old V w'):=zH fun V b hb=>by
  have h2:(D k).c=(Z k).n:=by rw [hD];rfl
  have hn2:=(pk.v k hk).n2
  have:=number_any (D k) (D k).c.toNat ch b V (by omega) (by omega) (by rw [hN] at hb;unfold cnt at hb;omega) (by omega)
  rw [whQ_at]
  exact this
 have HCn:=zH (fun V=>Count_any (len:Int) V (by omega) (by omega))
 rw [countI_cnt,←hN] at HCn
 have hNle:N<=65536:=by rw [hN];unfold cnt;omega
 have hMk:=fun V=>make_frames N (by omega) V
 have HCo:=zH (fun V=>CNew_yes (sz:Int) V (by have:=hbn.z1;omega) (by have:=hbn.z2;omega))
 have HSz:Hid (∀V,Old w V->V.cell? ⟨bb,0,none⟩=some (.int .i64 sz)):=zH fun V o=>(h.old o).size_.1
 have HSm:=zH (fun(b:Nat) (g:Nat) (Lk:Nat->Fr) (V:World) (hb:CoB V b sz) (hf:FrsS (fun _=>False) V (some ⟨g,0,none⟩) N Lk) (hm:∀i,i<N->FrP (Lk i).F (Lk i).n (Lk i).T)=>CSamples_any b (sz:Int) (some ⟨g,0,none⟩) N N Lk (len:Int) (fun _=>False) V hb (by have:=hbn.z1;omega) hf hm (by omega) (by omega) (by omega))
 have hsam:samN N (len:Int)=len:=by unfold samN;rw [hN];unfold cnt;omega
 rw [hsam] at HSm
 have HL:=zH hL
 obtain⟨X,hX⟩:∃X,X=(D k).cells:=⟨_,rfl⟩
 have HX9:Hid (X.size=9):=zH (by rw [hX];exact Mt.size9 _)
 have HX1:Hid (X.all (·.oneCell')=true):=zH (by rw [hX];exact Mt.one _)
 have HXl:Hid (X[1]?=some (.int .i64 len)):=zH (by rw [hX];show some (Value.int .i64 (D k).n)=_;rw [show (D k).n=(len:Int) by omega])
 rw [←hX] at HM HFo HNu
 have HLen:Hid (len<=N*16):=zH (by rw [hN];unfold cnt;omega)
 clear h pk hD hk hch hL hbn hok hfr hn1 hX hsam hlen hN hn64 hz0
 obtain⟨z,hz⟩:∃z:Array Value,z=rowN 9 (fun j=>(mtZ[j]?).getD undef):=⟨_,rfl⟩
 go_enter Tryz.func11,Tryz.ntmps11
 go_wp2_with fail
 refine HM.out.mono ?_
 rintro e V0 ⟨rfl,o0⟩
 obtain⟨W1,hW1⟩:∃V,V=V0.alloc (.cells X 85):=⟨_,rfl⟩
 obtain⟨mb,hmb⟩:∃x,x=V0.heap.size:=⟨_,rfl⟩
 have hbx:W1.heap[mb]?=some (.cells X 85 (0,0)):=by rw [hW1,hmb];exact heap_alloc_new _ _
 have HO1:=zH (show Old w W1 by rw [hW1];exact o0.alloc' _)
 have HW1:=zH hW1
 have HMb:=zH hmb
 have HBx:=zH hbx
 have cl:W1.cell? ⟨mb,1,none⟩=some (.int .i64 len):=(cell_of_row _ _ _ _ _ _ hbx).trans HXl.out
 have HMg:Hid (w.heap.size<=mb):=zH (by rw [hmb];exact o0.size)
 clear o0 hW1 hmb hbx HM hz
 go_wp2_with (with_reducible refine wpList_store_row rfl 85 _ _ rfl V0.heap.size X rfl rfl 85 _ (heap_alloc_new _ _) (by rw [HX9.out];exact Hs9.out) (by rw [HX9.out];kernel_rfl) HX1.out ?_;rw [World.setRow_alloc_new,←HW1.out,←HMb.out])
 refine(HCn.out _).mono ?_
 rintro e V1 ⟨rfl,rfl⟩
 obtain⟨g,hg⟩:∃x,x=W1.heap.size:=⟨_,rfl⟩
 obtain⟨W2,hW2⟩:∃V,V=W1.alloc (.cells (rowN (29*N) (frsC fun _=>zeroFr)) 113):=⟨_,rfl⟩
 have HS0:Hid (WhS w g mb N X L 0 W2):=zH (by
  have hml:=lt_of_block HBx.out
  have ho:Old W1 W2:=by rw [hW2];exact Old.alloc _ _
  refine⟨⟨fun _=>zeroFr,by rw [hW2,hg];exact frs_new _ W1 N _ (by have:=HO1.out.size;omega),fun i hi=>by omega⟩,(ho.block _ hml).trans HBx.out,by omega,HO1.out.trans ho⟩)
 have HW2:=zH hW2
 have HG:=zH hg
 clear hW2 hg cl HO1 HBx HCn
 go_wp2_with fail
 rw [←HG.out,←HW2.out]
 go_loopw [29] (fun iv wr=>∃j:Nat,j<=N/\iv = .int .i64 j/\Hid (WhS w g mb N X L j wr)) (fun iv _=>N-(intOf iv).toNat)
 case atStart=>exact⟨0,by omega,by go_num,HS0⟩
 case round=>
  obtain⟨j,hj,rfl,HS⟩:=hrel
  clear HS0
  by_cases hlt:j<N
  ·have j0:(0:Int)<=j:=by omega
   have j1:(j:Int)<N:=by omega
   have HNj:=zH (fun V=>HNu.out V j hlt)
   have HFj:=zH (fun V (o:Old wr V)=>HFo.out V j hlt (HS.out.old.trans o))
   have HLj:=zH (HL.out j hlt)
   have HD:Hid (Old wr wr.drew):=zH (Old.refl wr).drew
   clear HNu HFo HL HCo HSm HSz
   go_wp2_with fail
   refine wp_region_held_drew (S:=(fun V=>V.heap[mb]?=some (.cells X 85 (0,0)))) (by kernel_rfl) ?_ (fun hHeld=>?_)
   ·(try dsimp only);exact(HS.out.keep HD.out).bx
   refine wpU 0 rfl ?_;try simp only [Act.put,sA,sZ,sS]
   refine wpU 1 rfl ?_;try simp only [Act.put,sA,sZ,sS]
   refine wpU 2 rfl ?_;try simp only [Act.put,sA,sZ,sS]
   refine wpT 3 (v:=.agg X) rfl (yieldsIf_load_row (by kernel_rfl) 85 (.tmp 8) rfl mb rfl 85 X (0,0) _ (fun _ h=>h) Tryz.underlying85 rfl (by rw [HX9.out];exact Hs9.out)) (by assumption) ?_;try simp only [Act.put,sA,sZ,sS]
   refine wpT 4 (v:=.agg X) rfl (yieldsIf_load_row (by kernel_rfl) 85 (.tmp 8) rfl mb rfl 85 X (0,0) _ (fun _ h=>h) Tryz.underlying85 rfl (by rw [HX9.out];exact Hs9.out)) (by assumption) ?_;try simp only [Act.put,sA,sZ,sS]
   refine wpU 5 rfl ?_;try simp only [Act.put,sA,sZ,sS]
   refine wpU 6 rfl ?_;try simp only [Act.put,sA,sZ,sS]
   refine wpR 7 rfl (fun K hK=>?_)
   go_simp
   refine(HNj.out _).mono ?_
   rintro e V1 ⟨rfl,o1⟩
   have HO1:=zH (HD.out.trans o1)
   clear o1
   go_wp2_with fail
   refine hK.out _ _ ?_ (fun hHeld=>?_)
   ·(try dsimp only);exact(HS.out.keep HO1.out).bx
   clear hK K
   try simp only [Act.put,sA,sZ,sS]
   refine wpR 8 rfl (fun K hK=>?_)
   go_simp
   refine(HFj.out _ HO1.out).mono ?_
   rintro e V2 ⟨Xf,kf,p,cap,T,rfl,o2,g1,g2,g3,g4,g5,_,g7⟩
   have HO2:=zH (HO1.out.trans o2)
   have H1x:Hid ((rowN 29 (frC Xf (.slice p kf cap))).all (·.oneCell')=true):=zH (frC_one _ _ rfl)
   have hS2:=HS.out.keep HO2.out
   obtain⟨f1,f2,f3⟩:=g5 rfl
   have hgl:=HS.out.glt
   have hNx:=hS2.next hlt ⟨Xf,.slice p kf cap,kf,T⟩ ⟨p,cap,rfl,g1,g2,g3,fun hn a ha e=>by have:=g7 hn a ha;have:=HO1.out.size;omega⟩ f1 (f3 _ _ _ HLj.out.1 HLj.out.2)
   have HTh:=zH (hS2.there hlt)
   have HNx:=zH hNx
   clear o2 g1 g2 g3 g4 g5 g7 hS2 f1 f2 f3 hgl hNx
   go_wp2_with fail
   refine hK.out _ _ ?_ (fun hHeld=>?_)
   ·(try dsimp only);exact(HS.out.keep HO2.out).bx
   clear hK K
   try simp only [Act.put,sA,sZ,sS]
   refine wpU 9 rfl ?_;try simp only [Act.put,sA,sZ,sS]
   refine wpU 10 rfl ?_;try simp only [Act.put,sA,sZ,sS]
   refine wpU 11 rfl ?_;try simp only [Act.put,sA,sZ,sS]
   refine wpU 12 rfl ?_;try simp only [Act.put,sA,sZ,sS]
   refine wpR 13 rfl (fun K hK=>?_)
   rw [if_pos (by kernel_rfl)]
   with_reducible refine wp_store_mid 113 _ _ rfl (g) (j*29) (rowN 29 (frC Xf (.slice p kf cap))) rfl rfl (by rw [rowN_size];exact HTh.out) (by rw [rowN_size];exact Hs29.out) (H1x.out) ?_
   try simp only [Act.put,sA,sZ,sS]
   refine hK.out _ _ ?_ (fun hHeld=>?_)
   ·(try dsimp only);exact HNx.out.bx
   clear hK K
   try simp only [Act.put,sA,sZ,sS]
   refine wpU 14 rfl ?_;try simp only [Act.put,sA,sZ,sS]
   refine wpAnyH_done (by kernel_rfl) ?_ _
   clear HS HNj HFj HLj HTh HO1 HO2 HD
   go_wp2_with fail
   go_roundw
   case rel=>exact⟨j+1,by omega,by go_num,HNx⟩
   case measure=>simp [intOf];omega
  ·obtain rfl:j=N:=by omega
   have cz:=HSz.out wr HS.out.old
   have HCw:=zH (HCo.out wr)
   clear HNu HFo HL HCo HSz
   go_wp2_with fail
   refine HCw.out.mono ?_
   rintro e V3 ⟨cb,rfl,hco,hcg,o3⟩
   have hS3:=HS.out.keep o3
   obtain⟨Lk,k1,k2⟩:=hS3.ex
   have HSw:=zH (HSm.out cb g Lk V3 hco (k1.sl _ (fun q _ hq=>hq.elim)) (fun i hi=>(k2 i hi).1))
   have HSame:=zH (fun q hq=>whole_same (fun i hi=>(k2 i hi).2) q hq)
   have hbx3:=hS3.bx
   have cl3:V3.cell? ⟨mb,1,none⟩=some (.int .i64 len):=(cell_of_row _ _ _ _ _ _ hbx3).trans HXl.out
   have HO3:=zH hS3.old
   clear hco hcg o3 hS3 k1 k2 HS HCw cz hbx3 HSm
   go_wp2_with fail
   refine HSw.out.mono ?_
   rintro e V4 ⟨r,rfl,hr,hrg,o4⟩
   have HE:Hid (CellsAt V4 r len (fun j=>satI (wholeF j (gfTo j L) j (smTo j L) j))->True):=zH fun _=>trivial
   have HR:=zH (hr.ext fun q hq=>by rw [HSame.out q (by have:=HLen.out;omega)])
   have HQ:Hid (w.heap.size<=r/\Old w V4):=zH ⟨Nat.le_trans HO3.out.size hrg,HO3.out.trans o4⟩
   clear hr hrg o4 HE
   go_wp2_with fail
   go_ret2
   exact⟨r,rfl,HR.out,HQ.out⟩
theorem cb_same:∀l:List UInt8,Lib.compareBytes l l=0
 | []=>rfl
 | x :: l=>by
  unfold Lib.compareBytes
  simp [cb_same l]
structure BdS(w:World)(mb:Nat)(X:Array Value)(wr:World):Prop where
 bx:wr.heap[mb]?=some (.cells X 85 (0,0))
 old:Old w wr
theorem BdS.keep{w wr V:World}{mb:Nat}{X:Array Value}(h:BdS w mb X wr)(o:Old wr V):BdS w mb X V:=⟨(o.block _ (lt_of_block h.bx)).trans h.bx,h.old.trans o⟩
set_option maxHeartbeats 4000000 in
theorem Bad_good(bb sz n:Nat)(q:Option Addr)(c:Nat)(im:Option Addr)(ci:Nat)(D:Nat->Mt)(F:Nat->Int)(Z:Nat->Smp)(w:World)(h:BkB w bb sz n (totalAt (frD (mtsD Z)) sz n) q c im ci D F)(pk:Pkd sz n Z F)(hD:D=plD (mtsD Z) sz n)(k:Nat)(hk:k<n):
  Calls Tryz.prog 34 #[.pointer (some ⟨bb,0,none⟩),.int .i64 k] w fun e w'=>e = .returned (.slice none 0 0)/\Old w w':=by
 have Hs29:Hid ((Tryz.prog.info? 113).map (·.size)=some 29):=zH (by kernel_rfl)
 have Hs9:Hid ((Tryz.prog.info? 85).map (·.size)=some 9):=zH (by kernel_rfl)
 have hbn:BkN sz n (totalAt (frD (mtsD Z)) sz n) D F:=by rw [hD];exact pk.bkN
 have hz0:0<sz:=by have:=hbn.z1;omega
 have hn64:=hbn.n64
 have HM:=zH (BMeta_at bb sz n _ q c im ci D F w h hz0 hn64 k hk)
 have hok:=hbn.ok k hk
 have hfr:=hok.fr_le
 have HFs:=zH (fun V=>Frames_any (D k) hok V)
 have HFo:Hid (∀V j,j<(D k).fr->Old w V->Calls Tryz.prog 46 #[.pointer (some ⟨bb,0,none⟩),.agg (D k).cells,.int .i64 j] V fun e V'=>(∃Xf p kf cap,e = .returned (.tuple #[.agg (rowN 29 (frC Xf (.slice p kf cap))),.int .i64 0]))/\Old V V'):=zH fun V j hj hV=>by
  obtain⟨C,hCe⟩:∃C,C=(D k).c.toNat:=⟨_,rfl⟩
  have hjC:j<cnt (D k).n.toNat*C:=by rw [hCe];exact hj
  have hC:0<C:=by
   rcases Nat.eq_zero_or_pos C with e | e
   ·rw [e,Nat.mul_zero] at hjC
    omega
   ·exact e
  obtain⟨cc,hcc⟩:∃x,x=j%C:=⟨_,rfl⟩
  obtain⟨bl,hbl⟩:∃x,x=j/C:=⟨_,rfl⟩
  have hq:whQ D k cc bl=j:=by rw [whQ_at,←hCe,hcc,hbl,Nat.mul_comm];exact Nat.div_add_mod _ _
  have hlt:cc<C:=by rw [hcc];exact Nat.mod_lt j hC
  have hch:(cc:Int)<(D k).c:=by omega
  have hb:bl<cnt (D k).n.toNat:=by rw [hbl];exact(Nat.div_lt_iff_lt_mul hC).2 hjC
  have:=frameOf_any bb sz n _ q c im ci D F V (h.old hV) hbn k j hk hj
  have e2:openI (frSum D F k j) (lst (fun i=>F (frAt sz D k j+i)) sz)=0:=by
   rw [←hq]
   rw [hD] at hch hb ⊢
   exact pk.good V hk hch hb
  rw [e2] at this
  refine this.mono ?_
  rintro e V' ⟨Xf,kf,p,cap,T,rfl,o,_⟩
  exact⟨⟨Xf,p,kf,cap,rfl⟩,o⟩
 obtain⟨X,hX⟩:∃X,X=(D k).cells:=⟨_,rfl⟩
 have HX9:Hid (X.size=9):=zH (by rw [hX];exact Mt.size9 _)
 have HX1:Hid (X.all (·.oneCell')=true):=zH (by rw [hX];exact Mt.one _)
 rw [←hX] at HM HFo HFs
 obtain⟨N,hN⟩:∃N,N=(D k).fr:=⟨_,rfl⟩
 rw [←hN] at HFo HFs hfr
 clear h pk hD hk hbn hok hX hn64 hz0 hN
 go_enter Tryz.func34,Tryz.ntmps34
 go_wp2_with fail
 refine HM.out.mono ?_
 rintro e V0 ⟨rfl,o0⟩
 obtain⟨W1,hW1⟩:∃V,V=V0.alloc (.cells X 85):=⟨_,rfl⟩
 obtain⟨mb,hmb⟩:∃x,x=V0.heap.size:=⟨_,rfl⟩
 have hbx:W1.heap[mb]?=some (.cells X 85 (0,0)):=by rw [hW1,hmb];exact heap_alloc_new _ _
 have HS0:Hid (BdS w mb X W1):=zH ⟨hbx,by rw [hW1];exact o0.alloc' _⟩
 have HW1:=zH hW1
 have HMb:=zH hmb
 have HBx:=zH hbx
 clear o0 hW1 hmb hbx HM
 go_wp2_with (first | (with_reducible refine wpList_store_row rfl 85 _ _ rfl V0.heap.size X rfl rfl 85 _ (heap_alloc_new _ _) (by rw [HX9.out];exact Hs9.out) (by rw [HX9.out];kernel_rfl) HX1.out ?_;rw [World.setRow_alloc_new,←HW1.out,←HMb.out]) | (with_reducible refine wpList_load_row rfl 85 _ rfl mb rfl 85 X (0,0) _ HBx.out Tryz.underlying85 rfl (by rw [HX9.out];exact Hs9.out) ?_))
 refine(HFs.out _).mono ?_
 rintro e V1 ⟨rfl,o1⟩
 have HS1:=zH (HS0.out.keep o1)
 clear o1 HS0 HBx HW1 HMb
 go_wp2_with fail
 go_loopw [7,21] (fun bv iv wr=>∃j:Nat,j<=N/\bv = .slice none 0 0/\iv = .int .i64 j/\Hid (BdS w mb X wr)) (fun _ iv _=>N-(intOf iv).toNat)
 case atStart=>exact⟨0,by omega,rfl,by go_num,HS1⟩
 case round=>
  obtain⟨j,hj,rfl,rfl,HS⟩:=hrel
  clear HS1
  by_cases hlt:j<N
  ·have j0:(0:Int)<=j:=by omega
   have j1:(j:Int)<N:=by omega
   have HFj:=zH (HFo.out wr j hlt HS.out.old)
   have HBx:=zH HS.out.bx
   clear HFo HFs
   go_wp2_with (with_reducible refine wpList_load_row rfl 85 _ rfl mb rfl 85 X (0,0) _ HBx.out Tryz.underlying85 rfl (by rw [HX9.out];exact Hs9.out) ?_)
   refine HFj.out.mono ?_
   rintro e V2 ⟨⟨Xf,p,kf,cap,rfl⟩,o2⟩
   have H1x:Hid ((rowN 29 (frC Xf (.slice p kf cap))).all (·.oneCell')=true):=zH (frC_one _ _ rfl)
   obtain⟨V3,hV3⟩:∃V,V=V2.alloc (.cells (rowN 29 (frC Xf (.slice p kf cap))) 113):=⟨_,rfl⟩
   have HN:=zH (HS.out.keep (show Old wr V3 by rw [hV3];exact o2.alloc' _))
   have HV3:=zH hV3
   clear o2 hV3 HS HFj HBx
   go_wp2_with (with_reducible refine wpList_store_row rfl 113 _ _ rfl V2.heap.size (rowN 29 (frC Xf (.slice p kf cap))) rfl rfl 113 _ (heap_alloc_new _ _) (by rw [rowN_size];exact Hs29.out) (by rw [rowN_size];kernel_rfl) H1x.out ?_;rw [World.setRow_alloc_new,←HV3.out])
   go_roundw
   case rel=>exact⟨j+1,by omega,rfl,by go_num,HN⟩
   case measure=>simp [intOf];omega
  ·obtain rfl:j=N:=by omega
   have HE:=zH HS.out.old
   clear HFo HFs HS
   go_wp2_with fail
   go_ret
   exact⟨rfl,HE.out⟩
theorem Find1_any(m:Mt)(t:ByteArray)(w:World):Calls Tryz.prog 77 #[.agg m.cells,.string t] w fun e w'=>e = .returned (.int .i64 (Lib.compareBytes m.s.data.toList t.data.toList))/\Old w w':=by
 have HC:=zH (fun V=>StrCompare_any m.s t V)
 have HO:=zH (Old.alloc w (.cells m.cells 85))
 unfold Mt.cells at *
 generalize Lib.compareBytes m.s.data.toList t.data.toList=r at *
 go_enter Tryz.func77,Tryz.ntmps77
 go_wp2_with fail
 refine(HC.out _).mono ?_
 rintro e V ⟨rfl,rfl⟩
 go_wp2_with fail
 go_ret
 exact⟨rfl,HO.out⟩
set_option maxHeartbeats 4000000 in
theorem Search_at(p:Option Addr)(n cap:Nat)(D:Nat->Mt)(k:Nat)(w:World)(hs:MtsS w p n D)(hn:n<=64)(hk:k<n)(hr:∀i j,i<j->j<n->ltS (D i).s (D j).s=true):
  Calls Tryz.prog 76 #[.slice p n cap,.string (D k).s,.func (.func 77) #[] #[]] w fun e w'=>e = .returned (.tuple #[.int .i64 k,.bool true])/\Old w w':=by
 obtain⟨g,o,rfl,hg,hc⟩:=hs.cell (by omega)
 obtain⟨t,ht⟩:∃t,t=(D k).s:=⟨_,rfl⟩
 have HC:=zH (fun(m:Mt) V=>Find1_any m t V)
 have HLt:Hid (∀i,i<n->i<k->Lib.compareBytes (D i).s.data.toList t.data.toList<0):=zH fun i hi hik=>by rw [ht];exact(cmpS_neg _ _).2 (hr i k hik hk)
 have HGe:Hid (∀i,i<n->k<=i->¬Lib.compareBytes (D i).s.data.toList t.data.toList<0):=zH fun i hi hik h=>by
  rw [ht] at h
  have h2:=(cmpS_neg _ _).1 h
  by_cases e:i=k
  ·rw [e,ltS_irr] at h2;cases h2
  ·have:=ltS_asym (hr k i (by omega) hi);rw [h2] at this;cases this
 have HEq:Hid (Lib.compareBytes (D k).s.data.toList t.data.toList=0):=zH (by rw [ht];exact cb_same _)
 rw [←ht]
 have HCs:Hid (∀V,Old w V->∀i,i<n->∀f v,(D i).cells[f]?=some v->V.cell? ⟨g,o+i*9+f,none⟩=some v):=zH fun V hV i hi f v hf=>(hV.cell (a:=⟨g,o+i*9+f,none⟩) hg).trans (hc i hi f v hf)
 have n0:(n:Int)<=64:=by omega
 clear hs hc hg hr ht
 go_enter Tryz.func76,Tryz.ntmps76
 go_wp2_with fail
 go_loopw [9,10] (fun iv jv wr=>∃i j:Nat,i<=k/\k<=j/\j<=n/\iv = .int .i64 i/\jv = .int .i64 j/\Hid (Old w wr)) (fun iv jv _=>(intOf jv).toNat-(intOf iv).toNat)
 case atStart=>exact⟨0,n,by omega,by omega,by omega,by go_num,by go_num,zH (Old.refl w)⟩
 case round=>
  obtain⟨i,j,hi,hj,hjn,rfl,rfl,HO⟩:=hrel
  by_cases hlt:i<j
  ·obtain⟨mid,hmid⟩:∃m:Nat,m=(i+j)/2:=⟨_,rfl⟩
   have hm1:i<=mid:=by omega
   have hm2:mid<j:=by omega
   have hdiv:((i:Int)+(j:Int))/2=(mid:Int):=by omega
   have i0:(0:Int)<=i:=by omega
   have i1:(i:Int)<j:=by omega
   have j1:(j:Int)<=64:=by omega
   have q0:(0:Int)<=mid:=by omega
   have q1:(mid:Int)<n:=by omega
   have hcm:=HCs.out wr HO.out mid (by omega)
   obtain⟨m,hm⟩:∃m,m=D mid:=⟨_,rfl⟩
   have HCm:=zH (HC.out m wr)
   have HL:=zH (fun h=>HLt.out mid (by omega) h)
   have HG:=zH (fun h=>HGe.out mid (by omega) h)
   rw [←hm] at hcm HL HG
   have c0:wr.cell? ⟨g,o+mid*9,none⟩=some (.string m.s):=hcm 0 _ rfl
   have c1:wr.cell? ⟨g,o+mid*9+1,none⟩=some (.int .i64 m.n):=hcm 1 _ rfl
   have c2:wr.cell? ⟨g,o+mid*9+2,none⟩=some (.int .i64 m.r):=hcm 2 _ rfl
   have c3:wr.cell? ⟨g,o+mid*9+3,none⟩=some (.int .i64 m.c):=hcm 3 _ rfl
   have c4:wr.cell? ⟨g,o+mid*9+4,none⟩=some (.bool m.lp):=hcm 4 _ rfl
   have c5:wr.cell? ⟨g,o+mid*9+5,none⟩=some (.int .i64 m.a):=hcm 5 _ rfl
   have c6:wr.cell? ⟨g,o+mid*9+6,none⟩=some (.int .i64 m.b):=hcm 6 _ rfl
   have c7:wr.cell? ⟨g,o+mid*9+7,none⟩=some (.int .i64 m.x):=hcm 7 _ rfl
   have c8:wr.cell? ⟨g,o+mid*9+8,none⟩=some (.int .i64 m.y):=hcm 8 _ rfl
   clear hcm hm hmid HC HLt HGe HEq HCs
   generalize Lib.compareBytes m.s.data.toList t.data.toList=r at *
   unfold Mt.cells at HCm
   go_wp2_with fail
   refine HCm.out.mono ?_
   rintro e V1 ⟨rfl,o1⟩
   have HO1:=zH (HO.out.trans o1)
   clear o1 c0 c1 c2 c3 c4 c5 c6 c7 c8 hdiv
   by_cases hr0:r<0
   ·have hmk:mid<k:=Classical.byContradiction fun h=>by have:=HG.out (by omega);omega
    clear HL HG
    go_wp2_with fail
    go_roundw
    case rel=>exact⟨mid+1,j,by omega,by omega,by omega,by go_num,rfl,HO1⟩
    case measure=>simp [intOf];omega
   ·have hmk:k<=mid:=Classical.byContradiction fun h=>by have:=HL.out (by omega);omega
    clear HL HG
    go_wp2_with fail
    go_roundw
    case rel=>exact⟨i,mid,by omega,by omega,by omega,rfl,rfl,HO1⟩
    case measure=>simp [intOf];omega
  ·have hik:i=k:=by omega
   have hjk:j=k:=by omega
   rw [hik,hjk]
   clear hi hj hjn hlt hik hjk
   have i0:(0:Int)<=k:=by omega
   have i1:(k:Int)<n:=by omega
   have hcm:=HCs.out wr HO.out k hk
   obtain⟨m,hm⟩:∃m,m=D k:=⟨_,rfl⟩
   have HCm:=zH (HC.out m wr)
   rw [←hm] at hcm HEq
   have c0:wr.cell? ⟨g,o+k*9,none⟩=some (.string m.s):=hcm 0 _ rfl
   have c1:wr.cell? ⟨g,o+k*9+1,none⟩=some (.int .i64 m.n):=hcm 1 _ rfl
   have c2:wr.cell? ⟨g,o+k*9+2,none⟩=some (.int .i64 m.r):=hcm 2 _ rfl
   have c3:wr.cell? ⟨g,o+k*9+3,none⟩=some (.int .i64 m.c):=hcm 3 _ rfl
   have c4:wr.cell? ⟨g,o+k*9+4,none⟩=some (.bool m.lp):=hcm 4 _ rfl
   have c5:wr.cell? ⟨g,o+k*9+5,none⟩=some (.int .i64 m.a):=hcm 5 _ rfl
   have c6:wr.cell? ⟨g,o+k*9+6,none⟩=some (.int .i64 m.b):=hcm 6 _ rfl
   have c7:wr.cell? ⟨g,o+k*9+7,none⟩=some (.int .i64 m.x):=hcm 7 _ rfl
   have c8:wr.cell? ⟨g,o+k*9+8,none⟩=some (.int .i64 m.y):=hcm 8 _ rfl
   rw [HEq.out] at HCm
   clear hcm hm HC HLt HGe HEq HCs
   unfold Mt.cells at HCm
   go_wp2_with fail
   refine HCm.out.mono ?_
   rintro e V1 ⟨rfl,o1⟩
   have HO1:=zH (HO.out.trans o1)
   clear o1 c0 c1 c2 c3 c4 c5 c6 c7 c8
   go_wp2_with fail
   go_ret2
   exact⟨rfl,HO1.out⟩
theorem Find_good(bb sz n N:Nat)(q:Option Addr)(c:Nat)(im:Option Addr)(ci:Nat)(D:Nat->Mt)(F:Nat->Int)(w:World)(h:BkB w bb sz n N q c im ci D F)(h0:0<sz)(hn:n<=64)(k:Nat)(hk:k<n)(hr:∀i j,i<j->j<n->ltS (D i).s (D j).s=true):
  Calls Tryz.prog 32 #[.pointer (some ⟨bb,0,none⟩),.string (D k).s] w fun e w'=>e = .returned (.tuple #[.int .i64 k,.bool true])/\Old w w':=by
 have HMd:=zH (BMade_yes bb sz w h.size_.1 (by omega))
 have HS:=zH (Search_at q n c D k w h.dir hn hk hr)
 have d1:=h.size_.2.1
 obtain⟨t,ht⟩:∃t,t=(D k).s:=⟨_,rfl⟩
 rw [←ht] at HS ⊢
 clear h hr ht
 go_enter Tryz.func32,Tryz.ntmps32
 go_wp2_with fail
 refine HMd.out.mono ?_
 rintro e V ⟨rfl,rfl⟩
 go_wp2_with fail
 refine HS.out.mono ?_
 rintro e V ⟨rfl,o⟩
 have HO:=zH o
 clear o
 go_wp2_with fail
 go_ret2
 exact⟨rfl,HO.out⟩
end Go.Proofs.YtgefdmfcddpaiaaGreatDoor
