/- Texts joined: BankU, BankV. -/
import Derived.Test.YtgefdmfcddpaiaaGreatDoorSrt
import Derived.Test.YtgefdmfcddpaiaaGreatDoorShelf
import Derived.BigQuiet
import Derived.Test.YtgefdmfcddpaiaaGreatDoorPkAH
import Derived.Test.YtgefdmfcddpaiaaGreatDoorPkAT
import Derived.Test.YtgefdmfcddpaiaaGreatDoorPkAV
import Derived.Test.YtgefdmfcddpaiaaGreatDoorTk
namespace Go.Proofs.YtgefdmfcddpaiaaGreatDoor
set_option linter.unusedVariables false
set_option linter.unusedSimpArgs false
set_option maxRecDepth 100000
open Go.RowKit Go.ChangeShapes Go.WideShapes
instance:Inhabited Smp:=⟨⟨⟨#[]⟩,0,false,0,0,none,0,0,fun _=>none,fun _=>0,fun _=>0,fun _ _=>0⟩⟩
def encSm(S:Smp):List Value:=S.cells.toList
def cmpN(S T:Smp):Int:=Lib.compareBytes S.s.data.toList T.s.data.toList
theorem ltOf_cmpN(S T:Smp):ltOf cmpN S T=ltS S.s T.s:=by
 unfold ltOf cmpN
 rw [Bool.eq_iff_iff,decide_eq_true_eq]
 exact cmpS_neg _ _
theorem swo_cmpN:Go.Sort.SWO (ltOf cmpN) where
 irrefl:=fun x=>by rw [ltOf_cmpN];exact ltS_irr _
 trans:=fun x y z h1 h2=>by rw [ltOf_cmpN] at *;exact ltS_tr h1 h2
 ntrans:=fun x y z h1 h2=>by
  rw [ltOf_cmpN] at *
  cases h:ltS x.s z.s
  ·rfl
  ·cases h3:ltS y.s x.s
   ·have e:=ltS_tri h1 h3
    rw [e,h2] at h
    cases h
   ·have:=ltS_tr h3 h
    rw [this] at h2
    cases h2
set_option maxHeartbeats 1000000 in
theorem dirCmp_any(S T:Smp)(W:World):Calls Tryz.prog 108 #[.agg S.cells,.agg T.cells] W fun e w'=>e = .returned (.int .i64 (cmpN S T))/\∃q os',w'=Go.Sort.grow (W.drewN q) os':=by
 have hb1:=SmB.new W S
 have hb2:=SmB.new (W.alloc (.cells S.cells 90)) T
 have ho:=Old.alloc (W.alloc (.cells S.cells 90)) (.cells T.cells 90)
 have c1:=(hb1.old ho).at.1
 have c2:=hb2.at.1
 rw [World.size_alloc] at c2
 obtain⟨W1,hW1⟩:∃V,V=(W.alloc (.cells S.cells 90)).alloc (.cells T.cells 90):=⟨_,rfl⟩
 rw [←hW1] at c1 c2
 have HG:Hid (∀n,∃q os',W1.drewN n=Go.Sort.grow (W.drewN q) os'):=zH fun n=>⟨n,_,by rw [hW1,Go.Sort.alloc_eq_grow,Go.Sort.alloc_eq_grow,Go.Sort.grow_grow];rfl⟩
 unfold Smp.cells at hW1
 have HW1:=zH hW1
 have HC:=zH (fun w=>StrCompare_any S.s T.s w)
 have e1:cmpN S T=Lib.compareBytes S.s.data.toList T.s.data.toList:=rfl
 rw [e1]
 generalize Lib.compareBytes S.s.data.toList T.s.data.toList=r at *
 unfold Smp.cells
 clear hb1 hb2 ho hW1 e1
 go_enter Tryz.func108,Tryz.ntmps108
 go_upto_region 1 with (fail)
 rw [←HW1.out]
 go_wp2_with fail
 refine(HC.out _).mono ?_
 rintro e w1 ⟨rfl,rfl⟩
 go_wp2_with fail
 go_ret
 exact⟨rfl,HG.out 0⟩
structure SmO(w:World)(g n:Nat)(Z:Nat->Smp):Prop where
 lt:g<w.heap.size
 cell:∀i,i<n->∀f v,(Z i).cells[f]?=some v->w.cell? ⟨g,i*6+f,none⟩=some v
 frz:∀j,j<n*6->w.frozen? ⟨g,j,none⟩=false
theorem smp_get(S:Smp)(f:Nat)(hf:f<6):S.cells[f]?=some (encSm S)[f]!:=by
 have h:f<S.cells.size:=hf
 unfold encSm
 rw [Array.getElem?_eq_getElem h]
 simp [h]
structure Ordd(L:Nat->Smp)(n:Nat)(Z:Nat->Smp):Prop where
 rise:∀i j,i<j->j<n->ltS (Z i).s (Z j).s=true
 frm:∀i,i<n->∃m,m<n/\Z i=L m
 all:∀m,m<n->∃i,i<n/\Z i=L m
theorem arr_get(L:Nat->Smp)(n i:Nat)(h:i<n):((Array.range n).map L)[i]! = L i:=by
 simp [h]
theorem sorted_world{w:World}{g n m:Nat}{L:Nat->Smp}(h:SmO w g n L)(d':Array Smp)(os:Array Obj)(hd:d'.size=n):
  SmO (sortWorldK encSm 6 w g 0 m d' os) g n (fun i=>d'[i]!)/\Kept (fun q=>q<w.heap.size/\q≠g) w (sortWorldK encSm 6 w g 0 m d' os):=by
 have hH:Go.Sort.HoldsK encSm 6 w g 0 ((Array.range n).map L):=fun j hj=>by
  have hj6:j<n*6:=by simpa using hj
  rw [Nat.zero_add,Go.Sort.get_flatK _ _ _ _ (by simpa using hj6),arr_get L n (j/6) (by omega)]
  have hc:=h.cell (j/6) (by omega) (j%6) _ (smp_get (L (j/6)) (j%6) (by omega))
  rw [show j/6*6+j%6=j by omega] at hc
  exact⟨hc,h.frz j hj6⟩
 have hlt:g<(Go.Sort.putRowK encSm 6 (Go.Sort.ahead w m) g 0 d').heap.size:=by
  show g<(w.heap.modify g _).size
  simpa using h.lt
 have h2:=Go.Sort.holdsK_grow encSm 6 _ os g 0 d' hlt (Go.Sort.holdsK_putRowK encSm 6 (Go.Sort.ahead w m) g 0 _ d' (Go.Sort.holdsK_ahead encSm 6 w m g 0 _ hH) (by simp [hd]))
 refine⟨⟨?_,fun i hi f v hf=>?_,fun j hj=>?_⟩,⟨rfl,rfl,?_,fun k hk=>?_⟩⟩
 ·show g<((w.heap.modify g _) ++ os).size
  have:=h.lt
  simp
  omega
 ·have f6:f<6:=by
   rcases Nat.lt_or_ge f 6 with h | h
   ·exact h
   ·rw [Array.getElem?_eq_none (by show 6<=f;exact h)] at hf;cases hf
  have h3:=(h2.cell (i:=i) (c:=f) (by omega) f6).1
  rw [Nat.zero_add] at h3
  rw [smp_get _ f f6] at hf
  cases hf
  exact h3
 ·have h3:=(h2.cell (i:=j/6) (c:=j%6) (by omega) (by omega)).2
  rw [Nat.zero_add,show j/6*6+j%6=j by omega] at h3
  exact h3
 ·show w.heap.size<=((w.heap.modify g _) ++ os).size
  simp
 ·show ((w.heap.modify g _) ++ os)[k]?=_
  rw [Array.getElem?_append_left (by simpa using hk.1),Array.getElem?_modify,if_neg (fun e=>hk.2 e.symm)]
theorem SortS_any(g n cap:Nat)(L:Nat->Smp)(w:World)(h:SmO w g n L)(hn:n<=1048576)(hne:∀i j,i<n->j<n->i≠j->(L i).s≠(L j).s):
  Calls Tryz.prog 107 #[.slice (some ⟨g,0,none⟩) n cap,.func (.func 108) #[] #[]] w fun e w'=>e = .returned (.tuple #[])/\∃Z,Ordd L n Z/\SmO w' g n Z/\Kept (fun q=>q<w.heap.size/\q≠g) w w':=by
 have hH:Go.Sort.HoldsK encSm 6 w g 0 ((Array.range n).map L):=fun j hj=>by
  have hj6:j<n*6:=by simpa using hj
  rw [Nat.zero_add,Go.Sort.get_flatK _ _ _ _ (by simpa using hj6),arr_get L n (j/6) (by omega)]
  have hc:=h.cell (j/6) (by omega) (j%6) _ (smp_get (L (j/6)) (j%6) (by omega))
  rw [show j/6*6+j%6=j by omega] at hc
  exact⟨hc,h.frz j hj6⟩
 have eg:∀args w,(callFunc 108 args).run Tryz.prog w = .ok (.enter 108 args) w:=enters_of Tryz.func108 (by kernel_rfl) rfl
 have hcon:=Go.Proofs.Tryz.SortFuncS (α:=Smp) 6 (fun w=>by kernel_rfl) (fun w=>by kernel_rfl) encSm (fun _=>rfl) (fun x v hv=>by
  simp only [encSm,Smp.cells,List.mem_cons,List.not_mem_nil,or_false] at hv
  rcases hv with rfl | rfl | rfl | rfl | rfl | rfl <;> rfl) cmpN swo_cmpN 108 #[] g 0 cap ((Array.range n).map L) w eg (fun _ _ _ _ x y=>dirCmp_any x y _) hH h.lt (by simp;omega)
 rw [show ((Array.range n).map L).size=n by simp] at hcon
 refine hcon.mono ?_
 rintro e w' ⟨rfl,d',m,os,hp,hs,rfl⟩
 have hd:d'.size=n:=by rw [hp.1];simp
 obtain⟨h1,h2⟩:=sorted_world (m:=m) h d' os hd
 have hperm:d'.toList.Perm ((List.range n).map L):=by
  have:=hp.2.2
  rw [show d'.extract 0 n=d' by rw [←hd];simp,show ((Array.range n).map L).extract 0 n=(Array.range n).map L by simp] at this
  simpa using this
 have hfr:∀i,i<n->∃k,k<n/\d'[i]! = L k:=fun i hi=>by
  have hm:d'[i]!∈d'.toList:=by
   rw [getElem!_pos d' i (by omega)]
   simp
  have:=hperm.mem_iff.1 hm
  obtain⟨k,hk,e⟩:=List.mem_map.1 this
  exact⟨k,List.mem_range.1 hk,e.symm⟩
 have hal:∀k,k<n->∃i,i<n/\d'[i]! = L k:=fun k hk=>by
  have hm:L k∈(List.range n).map L:=List.mem_map.2 ⟨k,List.mem_range.2 hk,rfl⟩
  have:=hperm.mem_iff.2 hm
  obtain⟨i,hi,e⟩:=List.getElem_of_mem this
  have hi':i<d'.size:=by simpa using hi
  refine⟨i,by omega,?_⟩
  rw [getElem!_pos d' i hi',←e]
  simp
 have hnd:((List.range n).map fun k=>(L k).s).Nodup:=by
  rw [List.nodup_iff_pairwise_ne,List.pairwise_map]
  refine List.Pairwise.imp_of_mem ?_ (List.nodup_range (n:=n))
  intro a b ha hb hab
  exact hne a b (List.mem_range.1 ha) (List.mem_range.1 hb) hab
 have hnd2:(d'.toList.map fun S=>S.s).Nodup:=by
  have:=(hperm.map fun S=>S.s).nodup_iff.2
  refine this ?_
  rw [List.map_map]
  exact hnd
 refine⟨rfl,fun i=>d'[i]!,⟨fun i j hij hj=>?_,hfr,hal⟩,h1,h2⟩
 have hle:ltOf cmpN d'[j]! d'[i]! = false:=hs i j (Nat.zero_le _) hij hj
 rw [ltOf_cmpN] at hle
 cases hlt:ltS d'[i]!.s d'[j]!.s
 ·have e:=ltS_tri hlt hle
  exfalso
  rw [List.nodup_iff_pairwise_ne,List.pairwise_map,List.pairwise_iff_getElem] at hnd2
  have:=hnd2 i j (by simp;omega) (by simp;omega) hij
  rw [getElem!_pos d' i (by omega),getElem!_pos d' j (by omega)] at e
  exact this (by simpa using e)
 ·rfl
set_option maxHeartbeats 1000000 in
theorem SortS_nil(cap:Nat)(w:World):Calls Tryz.prog 107 #[.slice none 0 cap,.func (.func 108) #[] #[]] w fun e w'=>e = .returned (.tuple #[])/\w=w':=by
 have HL:=zH (fun w=>Go.Proofs.Tryz.bits_Len 0 w (by omega) (by omega))
 have HI:Hid (∀V,Calls Tryz.prog 183 #[.slice none 0 cap,.int .i64 0,.int .i64 0,.func (.func 108) #[] #[]] V fun e w'=>e = .returned (.tuple #[])/\V=w'):=zH fun V=>by
  go_enter Tryz.func183,Tryz.ntmps183
  go_wp2_with fail
  go_loop [8] (fun i=>i = .int .i64 1) (fun _=>0)
  case atStart=>rfl
  case round=>
   subst hrel
   go_wp2_with fail
   go_end0
   exact⟨rfl,rfl⟩
 have HP:Hid (∀V l,Calls Tryz.prog 147 #[.slice none 0 cap,.int .i64 0,.int .i64 0,l,.func (.func 108) #[] #[]] V fun e w'=>e = .returned (.tuple #[])/\V=w'):=zH fun V l=>by
  go_enter Tryz.func147,Tryz.ntmps147
  go_wp2_with fail
  refine wp_loop_rounds 1 ?_
  rw [rounds_succ]
  go_wp2_with fail
  refine(HI.out _).mono ?_
  rintro e w1 ⟨rfl,rfl⟩
  go_wp2_with fail
  (try simp only [Exit.inBlock,Exit.then]);refine bodyPost_ret (results_none rfl _ _ _) rfl ?_
  exact⟨rfl,rfl⟩
 go_enter Tryz.func107,Tryz.ntmps107
 go_wp2_with fail
 refine(HL.out _).mono ?_
 rintro e w1 ⟨rfl,rfl⟩
 go_wp2_with fail
 refine(HP.out _ _).mono ?_
 rintro e w1 ⟨rfl,rfl⟩
 go_wp2_with fail
 go_end0
 exact⟨rfl,rfl⟩
def smM(S:Smp):Mt:=⟨S.s,S.len,S.r,S.n,S.lp,S.a,S.b,0,0⟩
theorem smM_cells(S:Smp):metaC S.s S.len S.r S.n S.lp S.a S.b=(smM S).cells:=rfl
def smpL(L:Nat->Smp)(n:Nat):List Value:=(List.range (n*6)).map fun j=>(encSm (L (j/6)))[j%6]!
theorem smpL_len(L:Nat->Smp)(n:Nat):(smpL L n).length=n*6:=by simp [smpL]
theorem smpL_at(L:Nat->Smp)(n i f:Nat)(hi:i<n)(hf:f<6):(smpL L n)[i*6+f]?=(L i).cells[f]?:=by
 rw [smp_get (L i) f hf]
 unfold smpL
 rw [List.getElem?_map,List.getElem?_range (show i*6+f<n*6 by omega)]
 simp only [Option.map_some]
 rw [show (i*6+f)/6=i by omega,show (i*6+f)%6=f by omega]
theorem smpL_get{L:Nat->Smp}{n j:Nat}{u:Value}(h:(smpL L n)[j]?=some u):∃i f,i<n/\f<6/\j=i*6+f/\(L i).cells[f]?=some u:=by
 have hj:j<n*6:=by
  rcases Nat.lt_or_ge j (n*6) with h1 | h1
  ·exact h1
  ·rw [List.getElem?_eq_none (by rw [smpL_len];exact h1)] at h;cases h
 have hm:=smpL_at L n (j/6) (j%6) (by omega) (by omega)
 rw [show j/6*6+j%6=j by omega] at hm
 exact⟨j/6,j%6,by omega,by omega,by omega,by rw [←hm];exact h⟩
theorem smp_one(S:Smp)(f:Nat)(hf:f<6):((encSm S)[f]!).oneCell'=true:=by
 match f,hf with
 | 0,_=>rfl
 | 1,_=>rfl
 | 2,_=>rfl
 | 3,_=>rfl
 | 4,_=>rfl
 | 5,_=>rfl
theorem smpL_one(L:Nat->Smp)(n:Nat):∀u∈smpL L n,u.oneCell'=true:=by
 intro u hu
 obtain⟨j,_,rfl⟩:=List.mem_map.1 hu
 exact smp_one _ _ (by omega)
theorem ownS_smO{w w':World}{v:Value}{n:Nat}{L:Nat->Smp}(h:ownS (fun q=>q<w.heap.size) w' 90 6 v n (smpL L n)):(v = .slice none 0 0/\n=0)\/∃g cap,v = .slice (some ⟨g,0,none⟩) n cap/\n<=cap/\cap<=maxLen/\SmO w' g n L/\w.heap.size<=g:=by
 rcases h.1.2 with ⟨hv,h0⟩ | ⟨g,cap,cur,hv,hg,hh,hn,hc,hs,ht⟩
 ·exact .inl ⟨hv,h0⟩
 ·subst hv
  refine .inr ⟨g,cap,rfl,hn,hc,⟨lt_of_block hh,fun i hi f v hf=>?_,fun j hj=>frozen_of_row _ _ _ _ _ hh⟩,Nat.not_lt.1 (h.2 g rfl)⟩
  have hf6:f<6:=by
   rcases Nat.lt_or_ge f 6 with h | h
   ·exact h
   ·rw [Array.getElem?_eq_none (by show 6<=f;exact h)] at hf;cases hf
  have:=h.1.cells (g:=g) rfl (i*6+f) v (by rw [smpL_at L n i f hi hf6];exact hf)
  rwa [add_plain,Nat.zero_add] at this
theorem CloneSm_any(p:Option Addr)(n cap:Nat)(L:Nat->Smp)(w:World)(hs:SmsS w p n L)(hn:n<=1048576):
  Calls Tryz.prog 106 #[.slice p n cap] w fun e w'=>((e = .returned (.slice none 0 0)/\n=0)\/∃g c,e = .returned (.slice (some ⟨g,0,none⟩) n c)/\n<=c/\c<=maxLen/\SmO w' g n L/\w.heap.size<=g)/\Old w w':=by
 have HC:=zH hs
 clear hs
 obtain⟨i0,hi,hz0,hz1,hz2⟩:=info_parts Tryz.info_smp
 cases p with
 | none=>
  have h0:n=0:=by
   rcases Nat.eq_zero_or_pos n with h | h
   ·exact h
   ·obtain⟨b,off,hp,_⟩:=HC.out.cell h
    cases hp
  have H0:=zH h0
  clear h0 HC
  have hE:=eql_sl_nil 22 90 none n cap Tryz.underlying22
  go_enter Tryz.func106,Tryz.ntmps106
  go_wp2
  go_ret
  exact⟨.inl ⟨rfl,H0.out⟩,Old.refl w⟩
 | some a=>
  have HN:Hid (∀j u,(smpL L n)[j]?=some u->(w.alloc (.cells #[] 90)).cell? (a.add j)=some u):=by
   intro j u hj
   obtain⟨i,f,hi',hf,rfl,hu⟩:=smpL_get hj
   obtain⟨b,off,hp,hb,hcell⟩:=HC.out.cell (by omega)
   obtain rfl:a=⟨b,off,none⟩:=by simpa using hp
   rw [add_plain,(Old.alloc w (.cells #[] 90)).cell (a:=⟨b,off+(i*6+f),none⟩) hb,←Nat.add_assoc]
   exact hcell i hi' f u hu
  have HO:Hid (Old w (w.alloc (.cells #[] 90))):=Old.alloc _ _
  have HX:=zH (smpL_len L n)
  have H1:=zH (smpL_one L n)
  clear HC
  have hE:=eql_sl_nil 22 90 (some a) n cap Tryz.underlying22
  go_enter Tryz.func106,Tryz.ntmps106
  go_wp2_with (at_builtin;refine append_S _ rfl _ _ 22 rfl (fun q=>q<w.heap.size) 90 i0 _ 6 72 Tryz.underlying22 hi hz0 hz1 hz2 rfl (by omega) _ _ _ rfl (own_emptyS w 90 6) a n cap (smpL L n) rfl HX.out HN.out H1.out (by unfold maxLen;omega) (by omega) (fun q hq=>Nat.lt_of_lt_of_le hq HO.out.size) ?_;intro v' w2 hown2 hk2 _;have HR2:=zH (show ownS (fun q=>q<w.heap.size) w2 90 6 v' n (smpL L n) from(by have:=hown2;rw [Nat.zero_add,List.nil_append] at this;exact this));have HO2:=zH (HO.out.after hk2 (fun _ h=>h));clear hown2 hk2 HO HN HX H1)
  go_ret
  refine⟨?_,HO2.out⟩
  rcases ownS_smO HR2.out with ⟨hv,h0⟩ | ⟨g,c,hv,h1,h2,h3,h4⟩
  ·exact .inl ⟨by rw [←hv];rfl,h0⟩
  ·exact .inr ⟨g,c,by rw [←hv];rfl,h1,h2,h3,h4⟩
def DirR(w:World)(n:Nat)(L:Nat->Smp)(e:Ending)(w':World):Prop:=
 ∃q c Z qm cm,e = .returned (.tuple #[.slice q n c,.slice qm n cm])/\Ordd L n Z/\SmsS w' q n Z/\MtsS w' qm n (fun i=>smM (Z i))/\Old w w'
set_option maxHeartbeats 8000000 in
theorem directory_any(p:Option Addr)(n cap:Nat)(L:Nat->Smp)(w:World)(hs:SmsS w p n L)(hn:n<=64)(hne:∀i j,i<n->j<n->i≠j->(L i).s≠(L j).s):
  Calls Tryz.prog 61 #[.slice p n cap] w (DirR w n L):=by
 have HC:=zH (CloneSm_any p n cap L w hs (by omega))
 have HS:=zH hs
 have HNe:=zH hne
 have Hs9:Hid ((Tryz.prog.info? 85).map (·.size)=some 9):=zH (by kernel_rfl)
 clear hs hne
 go_enter Tryz.func61,Tryz.ntmps61
 go_wp2_with fail
 refine HC.out.mono ?_
 rintro e w1 ⟨hsh,ho1⟩
 obtain⟨q,c,he,hsort⟩:∃q c,e = .returned (.slice q n c)/\Calls Tryz.prog 107 #[.slice q n c,.func (.func 108) #[] #[]] w1 fun e w'=>e = .returned (.tuple #[])/\∃Z,Ordd L n Z/\SmsS w' q n Z/\Old w w':=by
  rcases hsh with ⟨he,h0⟩ | ⟨g,c,he,h1,h2,h3,h4⟩
  ·refine⟨none,0,by rw [he,h0],?_⟩
   rw [h0]
   refine(SortS_nil 0 w1).mono ?_
   rintro e w' ⟨rfl,rfl⟩
   exact⟨rfl,L,⟨fun i j _ h=>by omega,fun i h=>by omega,fun i h=>by omega⟩,⟨fun h=>by omega,fun i h=>by omega⟩,ho1⟩
  ·refine⟨_,c,he,(SortS_any g n c L w1 h3 (by omega) HNe.out).mono ?_⟩
   rintro e w' ⟨rfl,Z,hz,hsm,hk⟩
   have ho:Old w w':=ho1.after hk fun q hq=>⟨Nat.lt_of_lt_of_le hq ho1.size,by omega⟩
   refine⟨rfl,Z,hz,⟨fun _=>⟨g,0,rfl,hsm.lt,fun i hi f v hf=>by rw [Nat.zero_add];exact hsm.cell i hi f v hf⟩,fun i hi=>?_⟩,ho⟩
   obtain⟨m,hm,e⟩:=hz.frm i hi
   rw [e]
   exact(HS.out.ok m hm).old ho
 subst he
 have HSo:=zH hsort
 clear hsort hsh ho1 HC
 go_wp2_with fail
 refine HSo.out.mono ?_
 rintro e w2 ⟨rfl,Z,hz,hsm,ho2⟩
 have HZ:=zH hz
 have HSm:=zH hsm
 have HO2:=zH ho2
 have hmk:=make_metas n (by omega) w2
 obtain⟨gm,hgm⟩:∃g,g=w2.heap.size:=⟨_,rfl⟩
 obtain⟨W3,hW3⟩:∃W,W=w2.alloc (.cells (madeCells zeroMc (n*9)) 85):=⟨_,rfl⟩
 have HR0:Hid (RdW w2 W3 gm n 0 (fun i=>smM (Z i))):=zH (by
  rw [hW3,hgm]
  exact⟨by simp,Nat.le_refl _,made_thereM _ _ _ _,fun i hi=>by omega,Old.alloc _ _⟩)
 rw [←hW3,←hgm] at hmk
 clear hz hsm ho2 hW3 hgm HSo
 go_wp2_with fail
 clear hmk
 go_loopw [17] (fun iv wr=>∃k:Nat,k<=n/\iv = .int .i64 k/\Hid (RdW w2 wr gm n k (fun i=>smM (Z i)))) (fun i _=>n-(intOf i).toNat)
 case atStart=>exact⟨0,by omega,by go_num,HR0⟩
 case round=>
  clear HR0
  obtain⟨k,hk,rfl,HR⟩:=hrel
  by_cases hkn:k<n
  ·obtain⟨gs,o,rfl,hgs,hcs⟩:=(HSm.out.old HR.out.old).cell (by omega)
   obtain⟨S,hS⟩:∃S,S=Z k:=⟨_,rfl⟩
   have hck:=hcs k hkn
   rw [←hS] at hck
   have c0:wr.cell? ⟨gs,o+k*6,none⟩=some (.string S.s):=hck 0 _ rfl
   have c1:wr.cell? ⟨gs,o+k*6+1,none⟩=some (.int .i64 S.r):=hck 1 _ rfl
   have c2:wr.cell? ⟨gs,o+k*6+2,none⟩=some (.bool S.lp):=hck 2 _ rfl
   have c3:wr.cell? ⟨gs,o+k*6+3,none⟩=some (.int .i64 S.a):=hck 3 _ rfl
   have c4:wr.cell? ⟨gs,o+k*6+4,none⟩=some (.int .i64 S.b):=hck 4 _ rfl
   have c5:wr.cell? ⟨gs,o+k*6+5,none⟩=some (.slice S.p S.n S.c):=hck 5 _ rfl
   have hok:SmOk w2 S:=by rw [hS];exact HSm.out.ok k hkn
   have ho3:Old w2 (wr.alloc (.cells S.cells 90)):=HR.out.old.alloc' _
   have HMe:=zH (Meta_any S (wr.alloc (.cells S.cells 90)) (hok.old ho3))
   have HRa:=zH (HR.out.on (Old.alloc wr (.cells S.cells 90)))
   have HSk:=zH hS
   rw [smM_cells] at HMe
   unfold Smp.val at HMe
   unfold Smp.cells at HMe HRa
   have i0:(0:Int)<=k:=by omega
   have i1:(k:Int)<n:=by omega
   clear hck hcs hgs hS hok ho3 HR
   go_wp2_with fail
   refine HMe.out.mono ?_
   rintro e V ⟨rfl,ho⟩
   have hR2:=HRa.out.on ho
   have HTh:Hid (V.there gm (k*9) 9):=zH fun j hj=>by
    have:=hR2.there (k*9+j) (by omega)
    rwa [Nat.zero_add] at this
   have HRn:Hid (RdW w2 (V.setCells gm (k*9) (smM S).cells.toList) gm n (k+1) (fun i=>smM (Z i))):=zH (by
    have h:=hR2.put hkn (smM S)
    have e:(fun i=>if i=k then smM S else smM (Z i))=fun i=>smM (Z i):=by
     funext i
     by_cases e:i=k
     ·rw [if_pos e,HSk.out,e]
     ·rw [if_neg e]
    rw [e] at h
    exact h)
   have Hc9:Hid ((smM S).cells.size=9):=zH (Mt.size9 _)
   have Hc1:Hid ((smM S).cells.all (·.oneCell')=true):=zH (Mt.one _)
   clear hR2 ho HRa HMe c0 c1 c2 c3 c4 c5
   generalize (smM S).cells=X at *
   go_wp2_with (with_reducible refine wpList_store_mid rfl 85 _ _ rfl gm (k*9) X rfl rfl (by rw [Hc9.out];exact HTh.out) (by rw [Hc9.out];exact Hs9.out) Hc1.out ?_)
   go_roundw
   case rel=>exact⟨k+1,by omega,by go_num,HRn⟩
   case measure=>simp [intOf];omega
  ·obtain rfl:k=n:=by omega
   have HF:Hid (SmsS wr q k Z/\MtsS wr (some ⟨gm,0,none⟩) k (fun i=>smM (Z i))/\Old w wr):=zH ⟨HSm.out.old HR.out.old,⟨fun _=>⟨gm,0,rfl,HR.out.lt,fun i hi f v hf=>by rw [Nat.zero_add];exact HR.out.cell i hi f v hf⟩,fun i hi=>(HSm.out.ok i hi).size⟩,HO2.out.trans HR.out.old⟩
   clear HR
   go_wp2_with fail
   go_ret2
   exact⟨q,c,Z,_,_,rfl,HZ.out,HF.out.1,HF.out.2.1,HF.out.2.2⟩
end Go.Proofs.YtgefdmfcddpaiaaGreatDoor
