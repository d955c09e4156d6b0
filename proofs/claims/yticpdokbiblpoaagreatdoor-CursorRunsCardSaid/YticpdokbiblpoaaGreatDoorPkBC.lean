/- Texts joined: BankU, BankV. -/
import Derived.Test.YticpdokbiblpoaaGreatDoorSrt
import Derived.Test.YticpdokbiblpoaaGreatDoorShelf
import Derived.BigQuiet
import Derived.Test.YticpdokbiblpoaaGreatDoorPkAH
import Derived.Test.YticpdokbiblpoaaGreatDoorPkAZ
import Derived.Test.YticpdokbiblpoaaGreatDoorPkBB
import Derived.Test.YticpdokbiblpoaaGreatDoorTk
set_option linter.unusedVariables false
set_option linter.unusedSimpArgs false
set_option maxHeartbeats 8000000
namespace Go.Proofs.YticpdokbiblpoaaGreatDoor
open Go.Proofs.Tryz
open Go.Proofs.Tryz renaming prog → zP
open Go.Value renaming int → vI
open Go.IntKind renaming i64 → iJ
open Go.Ending renaming returned → rJ
set_option maxRecDepth 100000
open Go.RowKit Go.ChangeShapes Go.WideShapes
instance:Inhabited aM:=⟨⟨⟨#[]⟩,0,false,0,0,none,0,0,fun _=>none,fun _=>0,fun _=>0,fun _ _=>0⟩⟩
def lZ(S:aM):List Value:=S.cells.toList
def UD(S T:aM):Int:=Lib.compareBytes S.s.data.toList T.s.data.toList
theorem qV(S T:aM):ltOf UD S T=sP S.s T.s:=by
 unfold ltOf UD;rw[Bool.eq_iff_iff,decide_eq_true_eq];exact BG _ _
theorem aCo:Go.Sort.SWO (ltOf UD) where
 irrefl:=fun x=>by rw[qV];exact jT _
 trans:=fun x y z h1 h2=>by rw[qV]at *;exact pO h1 h2
 ntrans:=fun x y z h1 h2=>by
  rw[qV]at *;cases h:sP x.s z.s
  ·rfl
  ·cases h3:sP y.s x.s
   ·have e:=qP h1 h3;rw[e,h2]at h;cases h
   ·have:=pO h3 h;rw[this]at h2;cases h2
theorem RI(S T:aM)(W:World):Calls zP 92 #[.agg S.cells,.agg T.cells] W fun e w'=>e=rJ (vI iJ (UD S T))/\∃q os',w'=Go.Sort.grow (W.drewN q) os':=by
 have hb1:=xM.new W S;have hb2:=xM.new (W.alloc (.cells S.cells 133)) T;have ho:=Old.alloc (W.alloc (.cells S.cells 133)) (.cells T.cells 133);have c1:=(hb1.old ho).at.1;have c2:=hb2.at.1;rw[World.size_alloc]at c2;obtain⟨W1,hW1⟩:∃V,V=(W.alloc (.cells S.cells 133)).alloc (.cells T.cells 133):=⟨_,rfl⟩
 rw[<-hW1]at c1 c2;have HG:Hid (∀n,∃q os',W1.drewN n=Go.Sort.grow (W.drewN q) os'):=zH fun n=>⟨n,_,by rw[hW1,Go.Sort.alloc_eq_grow,Go.Sort.alloc_eq_grow,Go.Sort.grow_grow];rfl⟩
 unfold aM.cells at hW1;have HW1:=zH hW1;have HC:=zH (fun w=>qB S.s T.s w);have e1:UD S T=Lib.compareBytes S.s.data.toList T.s.data.toList:=rfl;rw[e1];generalize Lib.compareBytes S.s.data.toList T.s.data.toList=r at *;unfold aM.cells;clear hb1 hb2 ho hW1 e1;go_enter func92,ntmps92
 go_upto_region 1 with (fail)
 rw[<-HW1.o]
 go_wp2_with fail
 refine(HC.o _).mono ?_;rintro e w1 ⟨rfl,rfl⟩
 go_wp2_with fail
 go_ret;exact⟨rfl,HG.o 0⟩
structure SmO(w:World)(g n:Nat)(Z:Nat->aM):Prop where
 lt:g<w.heap.size
 cell:∀i,i<n->∀f v,(Z i).cells[f]?=some v->w.cell? ⟨g,i*6+f,none⟩=some v
 frz:∀j,j<n*6->w.frozen? ⟨g,j,none⟩=false
theorem xP(S:aM)(f:Nat)(hf:f<6):S.cells[f]?=some (lZ S)[f]!:=by
 have h:f<S.cells.size:=hf;unfold lZ;rw[Array.getElem?_eq_getElem h];simp[h]
structure pM(L:Nat->aM)(n:Nat)(Z:Nat->aM):Prop where
 rise:∀i j,i<j->j<n->sP (Z i).s (Z j).s=true
 frm:∀i,i<n->∃m,m<n/\Z i=L m
 all:∀m,m<n->∃i,i<n/\Z i=L m
theorem WN(L:Nat->aM)(n i:Nat)(h:i<n):((Array.range n).map L)[i]! = L i:=by
 simp[h]
theorem JV{w:World}{g n m:Nat}{L:Nat->aM}(h:SmO w g n L)(d':Array aM)(os:Array Obj)(hd:d'.size=n):
  SmO (sortWorldK lZ 6 w g 0 m d' os) g n (fun i=>d'[i]!)/\Kept (fun q=>q<w.heap.size/\q≠g) w (sortWorldK lZ 6 w g 0 m d' os):=by
 have hH:Go.Sort.HoldsK lZ 6 w g 0 ((Array.range n).map L):=fun j hj=>by
  have hj6:j<n*6:=by simpa using hj
  rw[Nat.zero_add,Go.Sort.get_flatK _ _ _ _ (by simpa using hj6),WN L n (j/6) zO];have hc:=h.cell (j/6) zO (j%6) _ (xP (L (j/6)) (j%6) zO);rw[show j/6*6+j%6=j by omega]at hc;exact⟨hc,h.frz j hj6⟩
 have hlt:g<(Go.Sort.putRowK lZ 6 (Go.Sort.ahead w m) g 0 d').heap.size:=by
  show g<(w.heap.modify g _).size;simpa using h.lt
 have h2:=Go.Sort.holdsK_grow lZ 6 _ os g 0 d' hlt (Go.Sort.holdsK_putRowK lZ 6 (Go.Sort.ahead w m) g 0 _ d' (Go.Sort.holdsK_ahead lZ 6 w m g 0 _ hH) (by simp[hd]));refine⟨⟨?_,fun i hi f v hf=>?_,fun j hj=>?_⟩,⟨rfl,rfl,?_,fun k hk=>?_⟩⟩
 ·show g<((w.heap.modify g _) ++ os).size;have:=h.lt;simp;omega
 ·have f6:f<6:=by
   rcases Nat.lt_or_ge f 6 with h | h
   ·exact h
   ·rw[Array.getElem?_eq_none (by show 6<=f;exact h)]at hf;cases hf
  have h3:=(h2.cell (i:=i) (c:=f) zO f6).1;rw[Nat.zero_add]at h3;rw[xP _ f f6]at hf;cases hf;exact h3
 ·have h3:=(h2.cell (i:=j/6) (c:=j%6) zO zO).2;rw[Nat.zero_add,show j/6*6+j%6=j by omega]at h3;exact h3
 ·show w.heap.size<=((w.heap.modify g _) ++ os).size;simp
 ·show ((w.heap.modify g _) ++ os)[k]?=_;rw[Array.getElem?_append_left (by simpa using hk.1),Array.getElem?_modify,if_neg (fun e=>hk.2 e.symm)]
theorem XN(g n cap:Nat)(L:Nat->aM)(w:World)(h:SmO w g n L)(hn:n<=1048576)(hne:∀i j,i<n->j<n->i≠j->(L i).s≠(L j).s):
  Calls zP 91 #[.slice (some ⟨g,0,none⟩) n cap,.func (.func 92) #[] #[]] w fun e w'=>e=rJ (.tuple #[])/\∃Z,pM L n Z/\SmO w' g n Z/\Kept (fun q=>q<w.heap.size/\q≠g) w w':=by
 have hH:Go.Sort.HoldsK lZ 6 w g 0 ((Array.range n).map L):=fun j hj=>by
  have hj6:j<n*6:=by simpa using hj
  rw[Nat.zero_add,Go.Sort.get_flatK _ _ _ _ (by simpa using hj6),WN L n (j/6) zO];have hc:=h.cell (j/6) zO (j%6) _ (xP (L (j/6)) (j%6) zO);rw[show j/6*6+j%6=j by omega]at hc;exact⟨hc,h.frz j hj6⟩
 have eg:∀args w,(callFunc 92 args).run zP w=.ok (.enter 92 args) w:=enters_of func92 zK rfl;have hcon:=Go.Proofs.Tryz.SortFuncS (α:=aM) 6 (fun w=>zK) (fun w=>zK) lZ (fun _=>rfl) (fun x v hv=>by
  simp only[lZ,aM.cells,List.mem_cons,List.not_mem_nil,or_false]at hv;rcases hv with rfl | rfl | rfl | rfl | rfl | rfl <;> rfl) UD aCo 92 #[] g 0 cap ((Array.range n).map L) w eg (fun _ _ _ _ x y=>RI x y _) hH h.lt (by simp;omega)
 rw[show ((Array.range n).map L).size=n by simp]at hcon;refine hcon.mono ?_;rintro e w' ⟨rfl,d',m,os,hp,hs,rfl⟩;have hd:d'.size=n:=by rw[hp.1];simp
 obtain⟨h1,h2⟩:=JV (m:=m) h d' os hd;have hperm:d'.toList.Perm ((List.range n).map L):=by
  have:=hp.2.2;rw[show d'.extract 0 n=d' by rw[<-hd];simp,show ((Array.range n).map L).extract 0 n=(Array.range n).map L by simp]at this;simpa using this
 have hfr:∀i,i<n->∃k,k<n/\d'[i]! = L k:=fun i hi=>by
  have hm:d'[i]!∈d'.toList:=by
   rw[getElem!_pos d' i zO];simp
  have:=hperm.mem_iff.1 hm;obtain⟨k,hk,e⟩:=List.mem_map.1 this;exact⟨k,List.mem_range.1 hk,e.symm⟩
 have hal:∀k,k<n->∃i,i<n/\d'[i]! = L k:=fun k hk=>by
  have hm:L k∈(List.range n).map L:=List.mem_map.2 ⟨k,List.mem_range.2 hk,rfl⟩;have:=hperm.mem_iff.2 hm;obtain⟨i,hi,e⟩:=List.getElem_of_mem this;have hi':i<d'.size:=by simpa using hi
  refine⟨i,zO,?_⟩;rw[getElem!_pos d' i hi',<-e];simp
 have hnd:((List.range n).map fun k=>(L k).s).Nodup:=by
  rw[List.nodup_iff_pairwise_ne,List.pairwise_map];refine List.Pairwise.imp_of_mem ?_ (List.nodup_range (n:=n));intro a b ha hb hab;exact hne a b (List.mem_range.1 ha) (List.mem_range.1 hb) hab
 have hnd2:(d'.toList.map fun S=>S.s).Nodup:=by
  have:=(hperm.map fun S=>S.s).nodup_iff.2;refine this ?_;rw[List.map_map];exact hnd
 refine⟨rfl,fun i=>d'[i]!,⟨fun i j hij hj=>?_,hfr,hal⟩,h1,h2⟩;have hle:ltOf UD d'[j]! d'[i]! = false:=hs i j (Nat.zero_le _) hij hj;rw[qV]at hle;cases hlt:sP d'[i]!.s d'[j]!.s
 ·have e:=qP hlt hle;exfalso;rw[List.nodup_iff_pairwise_ne,List.pairwise_map,List.pairwise_iff_getElem]at hnd2;have:=hnd2 i j (by simp;omega) (by simp;omega) hij;rw[getElem!_pos d' i zO,getElem!_pos d' j zO]at e;exact this (by simpa using e)
 ·rfl
theorem YO(cap:Nat)(w:World):Calls zP 91 #[.slice none 0 cap,.func (.func 92) #[] #[]] w fun e w'=>e=rJ (.tuple #[])/\w=w':=by
 have HL:=zH (fun w=>Go.Proofs.Tryz.bits_Len 0 w zO zO);have HI:Hid (∀V,Calls zP 169 #[.slice none 0 cap,vI iJ 0,vI iJ 0,.func (.func 92) #[] #[]] V fun e w'=>e=rJ (.tuple #[])/\V=w'):=zH fun V=>by
  go_enter func169,ntmps169
  go_wp2_with fail
  go_loop [8] (fun i=>i=vI iJ 1) (fun _=>0)
  case atStart=>rfl
  case round=>
   subst hrel
   go_wp2_with fail
   go_end0
   exact⟨rfl,rfl⟩
 have HP:Hid (∀V l,Calls zP 132 #[.slice none 0 cap,vI iJ 0,vI iJ 0,l,.func (.func 92) #[] #[]] V fun e w'=>e=rJ (.tuple #[])/\V=w'):=zH fun V l=>by
  go_enter func132,ntmps132
  go_wp2_with fail
  refine wp_loop_rounds 1 ?_;rw[rounds_succ]
  go_wp2_with fail
  refine(HI.o _).mono ?_;rintro e w1 ⟨rfl,rfl⟩
  go_wp2_with fail
  (try simp only[Exit.inBlock,Exit.then]);refine bodyPost_ret (results_none rfl _ _ _) rfl ?_
  exact⟨rfl,rfl⟩
 go_enter func91,ntmps91
 go_wp2_with fail
 refine(HL.o _).mono ?_;rintro e w1 ⟨rfl,rfl⟩
 go_wp2_with fail
 refine(HP.o _ _).mono ?_;rintro e w1 ⟨rfl,rfl⟩
 go_wp2_with fail
 go_end0
 exact⟨rfl,rfl⟩
def sC(S:aM):Mt:=⟨S.s,S.len,S.r,S.n,S.lp,S.a,S.b,0,0⟩
theorem II(S:aM):pX S.s S.len S.r S.n S.lp S.a S.b=(sC S).cells:=rfl
def EA(L:Nat->aM)(n:Nat):List Value:=(List.range (n*6)).map fun j=>(lZ (L (j/6)))[j%6]!
theorem MN(L:Nat->aM)(n:Nat):(EA L n).length=n*6:=by simp[EA]
theorem WD(L:Nat->aM)(n i f:Nat)(hi:i<n)(hf:f<6):(EA L n)[i*6+f]?=(L i).cells[f]?:=by
 rw[xP (L i) f hf];unfold EA;rw[List.getElem?_map,List.getElem?_range (show i*6+f<n*6 by omega)];simp only[Option.map_some];rw[show (i*6+f)/6=i by omega,show (i*6+f)%6=f by omega]
theorem aCm{L:Nat->aM}{n j:Nat}{u:Value}(h:(EA L n)[j]?=some u):∃i f,i<n/\f<6/\j=i*6+f/\(L i).cells[f]?=some u:=by
 have hj:j<n*6:=by
  rcases Nat.lt_or_ge j (n*6) with h1 | h1
  ·exact h1
  ·rw[List.getElem?_eq_none (by rw[MN];exact h1)]at h;cases h
 have hm:=WD L n (j/6) (j%6) zO zO;rw[show j/6*6+j%6=j by omega]at hm;exact⟨j/6,j%6,zO,zO,zO,by rw[<-hm];exact h⟩
theorem aEJ(S:aM)(f:Nat)(hf:f<6):((lZ S)[f]!).oneCell'=true:=by
 match f,hf with
 | 0,_=>rfl
 | 1,_=>rfl
 | 2,_=>rfl
 | 3,_=>rfl
 | 4,_=>rfl
 | 5,_=>rfl
theorem aDC(L:Nat->aM)(n:Nat):∀u∈EA L n,u.oneCell'=true:=by
 intro u hu;obtain⟨j,_,rfl⟩:=List.mem_map.1 hu;exact aEJ _ _ zO
theorem aDP{w w':World}{v:Value}{n:Nat}{L:Nat->aM}(h:ownS (fun q=>q<w.heap.size) w' 133 6 v n (EA L n)):(v=.slice none 0 0/\n=0)\/∃g cap,v=.slice (some ⟨g,0,none⟩) n cap/\n<=cap/\cap<=maxLen/\SmO w' g n L/\w.heap.size<=g:=by
 rcases h.1.2 with ⟨hv,h0⟩ | ⟨g,cap,cur,hv,hg,hh,hn,hc,hs,ht⟩
 ·exact .inl ⟨hv,h0⟩
 ·subst hv;refine .inr ⟨g,cap,rfl,hn,hc,⟨lt_of_block hh,fun i hi f v hf=>?_,fun j hj=>frozen_of_row _ _ _ _ _ hh⟩,Nat.not_lt.1 (h.2 g rfl)⟩;have hf6:f<6:=by
   rcases Nat.lt_or_ge f 6 with h | h
   ·exact h
   ·rw[Array.getElem?_eq_none (by show 6<=f;exact h)]at hf;cases hf
  have:=h.1.cells (g:=g) rfl (i*6+f) v (by rw[WD L n i f hi hf6];exact hf)
  rwa [add_plain,Nat.zero_add]at this
theorem MB(p:Option Addr)(n cap:Nat)(L:Nat->aM)(w:World)(hs:nE w p n L)(hn:n<=1048576):
  Calls zP 90 #[.slice p n cap] w fun e w'=>((e=rJ (.slice none 0 0)/\n=0)\/∃g c,e=rJ (.slice (some ⟨g,0,none⟩) n c)/\n<=c/\c<=maxLen/\SmO w' g n L/\w.heap.size<=g)/\Old w w':=by
 have HC:=zH hs;clear hs;obtain⟨i0,hi,hz0,hz1,hz2⟩:=info_parts Tryz.info_smp;cases p with
 | none=>
  have h0:n=0:=by
   rcases Nat.eq_zero_or_pos n with h | h
   ·exact h
   ·obtain⟨b,off,hp,_⟩:=HC.o.cell h;cases hp
  have H0:=zH h0;clear h0 HC;have hE:=eL 22 133 none n cap underlying22;go_enter func90,ntmps90;go_wp2;go_ret;exact⟨.inl ⟨rfl,H0.o⟩,Old.refl w⟩
 | some a=>
  have HN:Hid (∀j u,(EA L n)[j]?=some u->(w.alloc (.cells #[] 133)).cell? (a.add j)=some u):=by
   intro j u hj;obtain⟨i,f,hi',hf,rfl,hu⟩:=aCm hj;obtain⟨b,off,hp,hb,hcell⟩:=HC.o.cell zO;obtain rfl:a=⟨b,off,none⟩:=by simpa using hp
   rw[add_plain,(Old.alloc w (.cells #[] 133)).cell (a:=⟨b,off+(i*6+f),none⟩) hb,<-Nat.add_assoc];exact hcell i hi' f u hu
  have HO:Hid (Old w (w.alloc (.cells #[] 133))):=Old.alloc _ _;have HX:=zH (MN L n);have H1:=zH (aDC L n);clear HC;have hE:=eL 22 133 (some a) n cap underlying22;go_enter func90,ntmps90
  go_wp2_with (at_builtin;refine pA _ rfl _ _ 22 rfl (fun q=>q<w.heap.size) 133 i0 _ 6 72 underlying22 hi hz0 hz1 hz2 rfl zO _ _ _ rfl (CR w 133 6) a n cap (EA L n) rfl HX.o HN.o H1.o (by unfold maxLen;omega) zO (fun q hq=>Nat.lt_of_lt_of_le hq HO.o.size) ?_;intro v' w2 hown2 hk2 _;have HR2:=zH (show ownS (fun q=>q<w.heap.size) w2 133 6 v' n (EA L n) from(by have:=hown2;rw[Nat.zero_add,List.nil_append]at this;exact this));have HO2:=zH (HO.o.after hk2 (fun _ h=>h));clear hown2 hk2 HO HN HX H1)
  go_ret;refine⟨?_,HO2.o⟩;rcases aDP HR2.o with ⟨hv,h0⟩ | ⟨g,c,hv,h1,h2,h3,h4⟩
  ·exact .inl ⟨by rw[<-hv];rfl,h0⟩
  ·exact .inr ⟨g,c,by rw[<-hv];rfl,h1,h2,h3,h4⟩
def aIS(w:World)(n:Nat)(L:Nat->aM)(e:Ending)(w':World):Prop:=
 ∃q c Z qm cm,e=rJ (.tuple #[.slice q n c,.slice qm n cm])/\pM L n Z/\nE w' q n Z/\iB w' qm n (fun i=>sC (Z i))/\Old w w'
theorem ER(p:Option Addr)(n cap:Nat)(L:Nat->aM)(w:World)(hs:nE w p n L)(hn:n<=64)(hne:∀i j,i<n->j<n->i≠j->(L i).s≠(L j).s):
  Calls zP 49 #[.slice p n cap] w (aIS w n L):=by
 have HC:=zH (MB p n cap L w hs zO);have HS:=zH hs;have HNe:=zH hne;have Hs9:Hid ((zP.info? 90).map (·.size)=some 9):=zH zK;clear hs hne;go_enter func49,ntmps49
 go_wp2_with fail
 refine HC.o.mono ?_;rintro e w1 ⟨hsh,ho1⟩;obtain⟨q,c,he,hsort⟩:∃q c,e=rJ (.slice q n c)/\Calls zP 91 #[.slice q n c,.func (.func 92) #[] #[]] w1 fun e w'=>e=rJ (.tuple #[])/\∃Z,pM L n Z/\nE w' q n Z/\Old w w':=by
  rcases hsh with ⟨he,h0⟩ | ⟨g,c,he,h1,h2,h3,h4⟩
  ·refine⟨none,0,by rw[he,h0],?_⟩;rw[h0];refine(YO 0 w1).mono ?_;rintro e w' ⟨rfl,rfl⟩;exact⟨rfl,L,⟨fun i j _ h=>zO,fun i h=>zO,fun i h=>zO⟩,⟨fun h=>zO,fun i h=>zO⟩,ho1⟩
  ·refine⟨_,c,he,(XN g n c L w1 h3 zO HNe.o).mono ?_⟩;rintro e w' ⟨rfl,Z,hz,hsm,hk⟩;have ho:Old w w':=ho1.after hk fun q hq=>⟨Nat.lt_of_lt_of_le hq ho1.size,zO⟩
   refine⟨rfl,Z,hz,⟨fun _=>⟨g,0,rfl,hsm.lt,fun i hi f v hf=>by rw[Nat.zero_add];exact hsm.cell i hi f v hf⟩,fun i hi=>?_⟩,ho⟩;obtain⟨m,hm,e⟩:=hz.frm i hi;rw[e];exact(HS.o.ok m hm).old ho
 subst he;have HSo:=zH hsort;clear hsort hsh ho1 HC
 go_wp2_with fail
 refine HSo.o.mono ?_;rintro e w2 ⟨rfl,Z,hz,hsm,ho2⟩;have HZ:=zH hz;have HSm:=zH hsm;have HO2:=zH ho2;have hmk:=CM n zO w2;obtain⟨gm,hgm⟩:∃g,g=w2.heap.size:=⟨_,rfl⟩
 obtain⟨W3,hW3⟩:∃W,W=w2.alloc (.cells (madeCells QE (n*9)) 90):=⟨_,rfl⟩
 have HR0:Hid (RdW w2 W3 gm n 0 (fun i=>sC (Z i))):=zH (by
  rw[hW3,hgm];exact⟨zS,Nat.le_refl _,wB _ _ _ _,fun i hi=>zO,Old.alloc _ _⟩)
 rw[<-hW3,<-hgm]at hmk;clear hz hsm ho2 hW3 hgm HSo
 go_wp2_with fail
 clear hmk
 go_loopw [17] (fun iv wr=>∃k:Nat,k<=n/\iv=vI iJ k/\Hid (RdW w2 wr gm n k (fun i=>sC (Z i)))) (fun i _=>n-(intOf i).toNat)
 case atStart=>exact⟨0,zO,by go_num,HR0⟩
 case round=>
  clear HR0;obtain⟨k,hk,rfl,HR⟩:=hrel;by_cases hkn:k<n
  ·obtain⟨gs,o,rfl,hgs,hcs⟩:=(HSm.o.old HR.o.old).cell zO;obtain⟨S,hS⟩:=zG (Z k);have hck:=hcs k hkn;rw[<-hS]at hck;have c0:wr.cell? ⟨gs,o+k*6,none⟩=some (.string S.s):=hck 0 _ rfl;have c1:wr.cell? ⟨gs,o+k*6+1,none⟩=some (vI iJ S.r):=hck 1 _ rfl;have c2:wr.cell? ⟨gs,o+k*6+2,none⟩=some (.bool S.lp):=hck 2 _ rfl;have c3:wr.cell? ⟨gs,o+k*6+3,none⟩=some (vI iJ S.a):=hck 3 _ rfl;have c4:wr.cell? ⟨gs,o+k*6+4,none⟩=some (vI iJ S.b):=hck 4 _ rfl;have c5:wr.cell? ⟨gs,o+k*6+5,none⟩=some (.slice S.p S.n S.c):=hck 5 _ rfl;have hok:jB w2 S:=by rw[hS];exact HSm.o.ok k hkn
   have ho3:Old w2 (wr.alloc (.cells S.cells 133)):=HR.o.old.alloc' _;have HMe:=zH (yL S (wr.alloc (.cells S.cells 133)) (hok.old ho3));have HRa:=zH (HR.o.on (Old.alloc wr (.cells S.cells 133)));have HSk:=zH hS;rw[II]at HMe;unfold aM.val at HMe;unfold aM.cells at HMe HRa;have i0:(0:Int)<=k:=zO;have i1:(k:Int)<n:=zO;clear hck hcs hgs hS hok ho3 HR
   go_wp2_with fail
   refine HMe.o.mono ?_;rintro e V ⟨rfl,ho⟩;have hR2:=HRa.o.on ho;have HTh:Hid (V.there gm (k*9) 9):=zH fun j hj=>by
    have:=hR2.there (k*9+j) zO
    rwa [Nat.zero_add]at this
   have HRn:Hid (RdW w2 (V.setCells gm (k*9) (sC S).cells.toList) gm n (k+1) (fun i=>sC (Z i))):=zH (by
    have h:=hR2.put hkn (sC S);have e:(fun i=>if i=k then sC S else sC (Z i))=fun i=>sC (Z i):=by
     funext i;by_cases e:i=k
     ·rw[if_pos e,HSk.o,e]
     ·rw[if_neg e]
    rw[e]at h;exact h)
   have Hc9:Hid ((sC S).cells.size=9):=zH (Mt.size9 _);have Hc1:Hid ((sC S).cells.all (·.oneCell')=true):=zH (Mt.one _);clear hR2 ho HRa HMe c0 c1 c2 c3 c4 c5;generalize (sC S).cells=X at *
   go_wp2_with (with_reducible refine wpList_store_mid rfl 90 _ _ rfl gm (k*9) X rfl rfl (by rw[Hc9.o];exact HTh.o) (by rw[Hc9.o];exact Hs9.o) Hc1.o ?_)
   go_roundw
   case rel=>exact⟨k+1,zO,by go_num,HRn⟩
   case measure=>exact zM
  ·obtain rfl:k=n:=zO;have HF:Hid (nE wr q k Z/\iB wr (some ⟨gm,0,none⟩) k (fun i=>sC (Z i))/\Old w wr):=zH ⟨HSm.o.old HR.o.old,⟨fun _=>⟨gm,0,rfl,HR.o.lt,fun i hi f v hf=>by rw[Nat.zero_add];exact HR.o.cell i hi f v hf⟩,fun i hi=>(HSm.o.ok i hi).size⟩,HO2.o.trans HR.o.old⟩;clear HR
   go_wp2_with fail
   go_ret2
   exact⟨q,c,Z,_,_,rfl,HZ.o,HF.o.1,HF.o.2.1,HF.o.2.2⟩
end Go.Proofs.YticpdokbiblpoaaGreatDoor
