/- Texts joined: LawR, BnkPk. -/
import Derived.Deep.RegionHeld
import Derived.BigQuiet
import Derived.Test.YtjakgghbdojlbaaGreatDoorPkAA
import Derived.Test.YtjakgghbdojlbaaGreatDoorPkAP
import Derived.Test.YtjakgghbdojlbaaGreatDoorPkAT
import Derived.Test.YtjakgghbdojlbaaGreatDoorPkAV
import Derived.Test.YtjakgghbdojlbaaGreatDoorPkBD
import Derived.Test.YtjakgghbdojlbaaGreatDoorTk
namespace Go.Proofs.YtjakgghbdojlbaaGreatDoor
set_option linter.unusedVariables false
set_option linter.unusedSimpArgs false
set_option maxRecDepth 100000
open Go.RowKit Go.ChangeShapes Go.WideShapes
def own3(a b c:Value)(q:Nat):Prop:=a.ownBlock=some q\/b.ownBlock=some q\/c.ownBlock=some q
def PkX(X:Nat->Prop)(W:World)(sz N:Nat)(vs:List Value)(B:Nat->Nat->Int):Prop:=
 ∀j,j<N->∃gb ob C,vs[j]?=some (.slice (some ⟨gb,ob,none⟩) sz C)/\sz<=C/\C<=maxLen/\¬X gb/\gb<W.heap.size/\∀i,i<sz->W.cell? ⟨gb,ob+i,none⟩=some (.int .u8 (B j i))
theorem PkX.kept{X Y K:Nat->Prop}{W W':World}{sz N:Nat}{vs:List Value}{B:Nat->Nat->Int}(h:PkX X W sz N vs B)(k:Kept K W W')(hK:∀q,q<W.heap.size->¬X q->K q)(hY:∀q,q<W.heap.size->Y q->X q):PkX Y W' sz N vs B:=fun j hj=>by
 obtain⟨gb,ob,C,h1,h2,h3,h4,h5,h6⟩:=h j hj
 exact⟨gb,ob,C,h1,h2,h3,fun e=>h4 (hY gb h5 e),Nat.lt_of_lt_of_le h5 k.size,fun i hi=>(k.cell (a:=⟨gb,ob+i,none⟩) (hK gb h5 h4)).trans (h6 i hi)⟩
theorem PkX.snoc{X:Nat->Prop}{W:World}{sz N:Nat}{vs:List Value}{B:Nat->Nat->Int}(h:PkX X W sz N vs B)(hl:vs.length=N){gb ob C:Nat}(h2:sz<=C)(h3:C<=maxLen)(h4:¬X gb)(h5:gb<W.heap.size)(h6:∀i,i<sz->W.cell? ⟨gb,ob+i,none⟩=some (.int .u8 (B N i))):
  PkX X W sz (N+1) (vs ++ [.slice (some ⟨gb,ob,none⟩) sz C]) B:=fun j hj=>by
 by_cases e:j<N
 ·obtain⟨gb',ob',C',k1,k2⟩:=h j e
  exact⟨gb',ob',C',by rw [List.getElem?_append_left (by omega)];exact k1,k2⟩
 ·obtain rfl:j=N:=by omega
  exact⟨gb,ob,C,by rw [List.getElem?_append_right (by omega),hl];simp,h2,h3,h4,h5,h6⟩
theorem PkX.pkV{X:Nat->Prop}{W:World}{v:Value}{sz N:Nat}{vs:List Value}{B:Nat->Nat->Int}(h:PkX X W sz N vs B)(hX:∀q,v.ownBlock=some q->X q):PkV W v sz N vs B:=fun j hj=>by
 obtain⟨gb,ob,C,h1,h2,h3,h4,h5⟩:=h j hj
 exact⟨gb,ob,C,h1,h2,h3,fun e=>h4 (hX gb e),h5⟩
def AlX(X:Nat->Prop)(W:World)(j N:Nat)(al:List Value)(Ls:Nat->Nat->Fr):Prop:=
 ∀i,i<j->∃fb,al[i]?=some (.slice (some ⟨fb,0,none⟩) N N)/\¬X fb/\fb<W.heap.size/\FrsS (fun q=>X q/\q<W.heap.size) W (some ⟨fb,0,none⟩) N (Ls i)
theorem AlX.kept{X Y K:Nat->Prop}{W W':World}{j N:Nat}{al:List Value}{Ls:Nat->Nat->Fr}(h:AlX X W j N al Ls)(k:Kept K W W')(hK:∀q,q<W.heap.size->¬X q->K q)(hY:∀q,q<W.heap.size->Y q->X q):AlX Y W' j N al Ls:=fun i hi=>by
 obtain⟨fb,h1,h2,h3,h4⟩:=h i hi
 refine⟨fb,h1,fun e=>h2 (hY fb h3 e),Nat.lt_of_lt_of_le h3 k.size,?_⟩
 refine⟨fun hn=>?_,fun m hm=>?_⟩
 ·obtain⟨g,o,e1,e2,e3⟩:=h4.1 hn
  injection e1 with e1
  injection e1 with e1 e5
  subst e1 e5
  exact⟨fb,0,rfl,Nat.lt_of_lt_of_le e2 k.size,fun q hq=>(k.cell (a:=⟨fb,0+q,none⟩) (hK fb h3 h2)).trans (e3 q hq)⟩
 ·obtain⟨p,cap,a1,a2,a3,a4,a5⟩:=(h4.2 m hm).kept k (fun q hq hx=>hK q hq fun e=>hx ⟨e,hq⟩)
  refine⟨p,cap,a1,a2,a3,a4,fun hn a ha hy=>?_⟩
  have hlt:a.block<W.heap.size:=by
   obtain⟨p0,cap0,b1,_,_,b4,_⟩:=h4.2 m hm
   rw [a1] at b1
   simp only [Value.slice.injEq] at b1
   obtain⟨rfl,_,_⟩:=b1
   obtain⟨g,o,c1,c2,_⟩:=b4 hn
   rw [ha] at c1
   injection c1 with c1
   rw [c1]
   exact c2
  exact a5 hn a ha ⟨hY _ hlt hy.1,hlt⟩
structure LF(w:World)(sz:Nat)(D:Nat->Mt)(k:Nat)(v8 v9 v12:Value)(N:Nat)(vs:List Value)(B:Nat->Nat->Int)(j NF:Nat)(al:List Value)(Ls:Nat->Nat->Fr)(wr:World):Prop where
 d:ownS (fun q=>q<w.heap.size) wr 45 9 v8 k (metL D k)
 o:ownS (fun q=>q<w.heap.size) wr 24 1 v9 N vs
 a:ownS (fun q=>q<w.heap.size) wr 104 1 v12 j al
 pk:PkX (own3 v8 v9 v12) wr sz N vs B
 fr:AlX (own3 v8 v9 v12) wr j NF al Ls
 old:Old w wr
theorem AlX.snoc{X:Nat->Prop}{W:World}{j N:Nat}{al:List Value}{Ls:Nat->Nat->Fr}(h:AlX X W j N al Ls)(hl:al.length=j){fb:Nat}{L:Nat->Fr}(h2:¬X fb)(h3:fb<W.heap.size)(h4:FrsS (fun q=>X q/\q<W.heap.size) W (some ⟨fb,0,none⟩) N L):
  AlX X W (j+1) N (al ++ [.slice (some ⟨fb,0,none⟩) N N]) (fun i=>if i=j then L else Ls i):=fun i hi=>by
 by_cases e:i<j
 ·obtain⟨fb',k1,k2,k3,k4⟩:=h i e
  exact⟨fb',by rw [List.getElem?_append_left (by omega)];exact k1,k2,k3,by dsimp only;rw [if_neg (by omega)];exact k4⟩
 ·obtain rfl:i=j:=by omega
  exact⟨fb,by rw [List.getElem?_append_right (by omega),hl];simp,h2,h3,by dsimp only;rw [if_pos rfl];exact h4⟩
namespace LF
variable {w wr A w3:World} {sz:Nat} {D:Nat->Mt} {k:Nat} {v8 v9 v12 v':Value} {N:Nat} {vs:List Value} {B:Nat->Nat->Int} {j NF:Nat} {al:List Value} {Ls:Nat->Nat->Fr}
theorem keep(h:LF w sz D k v8 v9 v12 N vs B j NF al Ls wr)(o:Old wr w3):LF w sz D k v8 v9 v12 N vs B j NF al Ls w3:=
 ⟨h.d.old o,h.o.old o,h.a.old o,h.pk.kept o (fun q hq _=>hq) (fun _ _ h=>h),h.fr.kept o (fun q hq _=>hq) (fun _ _ h=>h),h.old.trans o⟩
theorem addD(h:LF w sz D k v8 v9 v12 N vs B j NF al Ls wr)(o:Old wr A)(hown:ownS (but A v8) w3 45 9 v' (k+1) (metL D k ++ (D k).cells.toList))(hk:Kept (but A v8) A w3)(hv:∀q,v'.ownBlock=some q->v8.ownBlock=some q\/A.heap.size<=q):LF w sz D (k+1) v' v9 v12 N vs B j NF al Ls w3:=by
 rw [metL_snoc] at hown
 have hK:∀q,q<A.heap.size->¬own3 v8 v9 v12 q->but A v8 q:=fun q hq hx=>⟨hq,fun e=>hx (.inl e)⟩
 have hY:∀q,q<A.heap.size->own3 v' v9 v12 q->own3 v8 v9 v12 q:=fun q hq h=>h.elim (fun e=>(hv q e).elim .inl fun h2=>by omega) .inr
 exact⟨ls_own h.d h.old o hown hv,ls_other h.d h.o (by decide) o hk,ls_other h.d h.a (by decide) o hk,(h.keep o).pk.kept hk hK hY,(h.keep o).fr.kept hk hK hY,ls_old h.d h.old o hk⟩
theorem addO(h:LF w sz D k v8 v9 v12 N vs B j NF al Ls wr)(o:Old wr A){gb ob C:Nat}(h2:sz<=C)(h3:C<=maxLen)(h4:¬own3 v8 v9 v12 gb)(h5:gb<A.heap.size)(h6:∀i,i<sz->A.cell? ⟨gb,ob+i,none⟩=some (.int .u8 (B N i)))
  (hown:ownS (but A v9) w3 24 1 v' (N+1) (vs ++ [.slice (some ⟨gb,ob,none⟩) sz C])) (hk:Kept (but A v9) A w3) (hv:∀q,v'.ownBlock=some q->v9.ownBlock=some q\/A.heap.size<=q):LF w sz D k v8 v' v12 (N+1) (vs ++ [.slice (some ⟨gb,ob,none⟩) sz C]) B j NF al Ls w3:=by
 have hK:∀q,q<A.heap.size->¬own3 v8 v9 v12 q->but A v9 q:=fun q hq hx=>⟨hq,fun e=>hx (.inr (.inl e))⟩
 have hY:∀q,q<A.heap.size->own3 v8 v' v12 q->own3 v8 v9 v12 q:=fun q hq h=>h.elim .inl fun h=>h.elim (fun e=>(hv q e).elim (fun e=>.inr (.inl e)) fun h2=>by omega) fun e=>.inr (.inr e)
 exact⟨ls_other h.o h.d (by decide) o hk,ls_own h.o h.old o hown hv,ls_other h.o h.a (by decide) o hk,((h.keep o).pk.snoc (by have:=h.o.1.1;omega) h2 h3 h4 h5 h6).kept hk hK hY,(h.keep o).fr.kept hk hK hY,ls_old h.o h.old o hk⟩
theorem addA(h:LF w sz D k v8 v9 v12 N vs B j NF al Ls wr)(o:Old wr A){fb:Nat}{L:Nat->Fr}(h2:¬own3 v8 v9 v12 fb)(h3:fb<A.heap.size)(h4:FrsS (fun q=>own3 v8 v9 v12 q/\q<A.heap.size) A (some ⟨fb,0,none⟩) NF L)
  (hown:ownS (but A v12) w3 104 1 v' (j+1) (al ++ [.slice (some ⟨fb,0,none⟩) NF NF])) (hk:Kept (but A v12) A w3) (hv:∀q,v'.ownBlock=some q->v12.ownBlock=some q\/A.heap.size<=q):LF w sz D k v8 v9 v' N vs B (j+1) NF (al ++ [.slice (some ⟨fb,0,none⟩) NF NF]) (fun i=>if i=j then L else Ls i) w3:=by
 have hK:∀q,q<A.heap.size->¬own3 v8 v9 v12 q->but A v12 q:=fun q hq hx=>⟨hq,fun e=>hx (.inr (.inr e))⟩
 have hY:∀q,q<A.heap.size->own3 v8 v9 v' q->own3 v8 v9 v12 q:=fun q hq h=>h.elim .inl fun h=>h.elim (fun e=>.inr (.inl e)) fun e=>(hv q e).elim (fun e=>.inr (.inr e)) fun h2=>by omega
 exact⟨ls_other h.a h.d (by decide) o hk,ls_other h.a h.o (by decide) o hk,ls_own h.a h.old o hown hv,(h.keep o).pk.kept hk hK hY,((h.keep o).fr.snoc (by have:=h.a.1.1;omega) h2 h3 h4).kept hk hK hY,ls_old h.a h.old o hk⟩
theorem old3(h:LF w sz D k v8 v9 v12 N vs B j NF al Ls wr)(q:Nat)(hq:own3 v8 v9 v12 q):q<wr.heap.size:=hq.elim (h.d.lt q) fun hq=>hq.elim (h.o.lt q) (h.a.lt q)
theorem fresh(h:LF w sz D k v8 v9 v12 N vs B j NF al Ls wr)(NF':Nat)(Ls':Nat->Nat->Fr):LF w sz D k v8 v9 (.slice none 0 0) N vs B 0 NF' [] Ls' wr:=
 ⟨h.d,h.o,ownS.nil _ _ _ _,h.pk.kept (Kept.refl (fun _=>True) _) (fun _ _ _=>trivial) (fun q _ h=>h.elim .inl fun h=>h.elim (fun e=>.inr (.inl e)) fun e=>by cases e),fun i hi=>absurd hi (Nat.not_lt_zero _),h.old⟩
theorem reB{B':Nat->Nat->Int}(h:LF w sz D k v8 v9 v12 N vs B j NF al Ls wr)(e:∀q,q<N->B q=B' q):LF w sz D k v8 v9 v12 N vs B' j NF al Ls wr:=
 ⟨h.d,h.o,h.a,fun q hq=>by rw [←e q hq];exact h.pk q hq,h.fr,h.old⟩
end LF
theorem own3_12{v8 v9 v12 v':Value}{n:Nat}(hv:∀q,v'.ownBlock=some q->v12.ownBlock=some q\/n<=q):∀q,q<n->own3 v8 v9 v' q->own3 v8 v9 v12 q:=fun q hq h=>h.elim .inl fun h=>h.elim (fun e=>.inr (.inl e)) fun e=>(hv q e).elim (fun e=>.inr (.inr e)) fun h2=>by omega
theorem own3_9{v8 v9 v12 v':Value}{n:Nat}(hv:∀q,v'.ownBlock=some q->v9.ownBlock=some q\/n<=q):∀q,q<n->own3 v8 v' v12 q->own3 v8 v9 v12 q:=fun q hq h=>h.elim .inl fun h=>h.elim (fun e=>(hv q e).elim (fun e=>.inr (.inl e)) fun h2=>by omega) fun e=>.inr (.inr e)
theorem own3_8{v8 v9 v12 v':Value}{n:Nat}(hv:∀q,v'.ownBlock=some q->v8.ownBlock=some q\/n<=q):∀q,q<n->own3 v' v9 v12 q->own3 v8 v9 v12 q:=fun q hq h=>h.elim (fun e=>(hv q e).elim .inl fun h2=>by omega) .inr
structure BxR(X:Nat->Prop)(W:World)(b:Nat)(S:Smp):Prop where
 lt:b<W.heap.size
 out:¬X b
 blk:W.heap[b]?=some (.cells (smM S).cells 45 (0,0))
theorem BxR.step{X Y K:Nat->Prop}{W V:World}{b:Nat}{S:Smp}(h:BxR X W b S)(k:Kept K W V)(hK:∀q,q<W.heap.size->¬X q->K q)(hY:∀q,q<W.heap.size->Y q->X q):BxR Y V b S:=
 ⟨Nat.lt_of_lt_of_le h.lt k.size,fun e=>h.out (hY b h.lt e),(k.block b (hK b h.lt h.out)).trans h.blk⟩
theorem BxR.old{X:Nat->Prop}{W V:World}{b:Nat}{S:Smp}(h:BxR X W b S)(k:Old W V):BxR X V b S:=h.step k (fun q hq _=>hq) (fun _ _ h=>h)
def FrmsC:Prop:=∀(sz n:Nat) (p:Option Addr) (cap:Nat) (Z:Nat->Smp) (w:World),24<=sz->sz<=96->n<=8->SmsS w p n Z->(∀i,i<n->SmpV (Z i))->(∀i,i<n->(Z i).M 0<=150) ->
 Calls Tryz.prog 10 #[.int .i64 sz,.slice p n cap] w fun e w'=>∃q c fp fc Q C,e = .returned (.tuple #[.slice q n c,.slice fp (offTo (frD (mtsD Z)) n) fc])/\MtsS w' q n (mtsD Z)/\RwU w' fp (offTo (frD (mtsD Z)) n) Q (fun _=>sz) C (BTo sz Z n)/\Old w w'
set_option maxHeartbeats 16000000 in
theorem bnkPk_any(hF:FrmsC)(sz:Int)(q:Option Addr)(n c:Nat)(L:Nat->Smp)(w:World)(hs:SmsS w q n L):
  Calls Tryz.prog 3 #[.int .i64 sz,.slice q n c] w fun e w'=>e = .returned (.bool true)/\Old w w':=by
 have HFw:=zH (Few15_any q n c L w hs)
 obtain⟨k,hk⟩:∃k,k=min n 8:=⟨_,rfl⟩
 have hk8:k<=8:=by omega
 unfold FewsR at HFw
 rw [←hk] at HFw
 have HF:=zH hF
 clear hs hk hF
 go_enter Tryz.func3,Tryz.ntmps3
 go_wp2_with fail
 refine HFw.out.mono ?_
 rintro e V1 ⟨p1,c1,Z0,rfl,hsm,hfew,o1⟩
 have HPk:=zH (Pack_any sz p1 k c1 Z0 V1 hsm (by omega))
 have HO1:=zH o1
 have HSm:=zH hsm
 have HM0:Hid (∀i,i<k->∀j,j<(Z0 i).n->(Z0 i).M j<=150):=zH fun i hi=>(hfew i hi).1.m
 have HN4:Hid (∀i,i<k->(Z0 i).n<=4):=zH fun i hi=>(hfew i hi).1.n
 clear hsm hfew o1 HFw
 go_wp2_with fail
 refine HPk.out.mono ?_
 intro e V2 hp
 clear HPk
 by_cases hz:¬(24<=sz/\sz<=96)
 ·obtain⟨rfl,o2⟩:e = .returned (.tuple #[.slice none 0 0,.int .i64 12])/\Old V1 V2:=by
   rcases hp with ⟨_,h1,h2⟩ | ⟨h0,_⟩ | ⟨h0,_⟩
   ·exact⟨h1,h2⟩
   ·exact absurd h0 hz
   ·exact absurd h0 hz
  have HE:=zH (HO1.out.trans o2)
  clear hp o2 HSm HM0 HN4 HF
  by_cases h1:sz<24
  ·clear hz
   go_wp2_with fail
   refine(awake_any _).mono ?_
   rintro e V3 ⟨rfl,o3⟩
   have HE3:=zH (HE.out.trans o3)
   clear o3 HE
   go_wp2_with fail
   go_ret
   exact⟨rfl,HE3.out⟩
  ·have h2:96<sz:=by omega
   clear hz
   go_wp2_with fail
   refine(awake_any _).mono ?_
   rintro e V3 ⟨rfl,o3⟩
   have HE3:=zH (HE.out.trans o3)
   clear o3 HE
   go_wp2_with fail
   go_ret
   exact⟨rfl,HE3.out⟩
 have hz:=Classical.not_not.1 hz
 have hz1:¬sz<24:=by omega
 have hz2:¬96<sz:=by omega
 obtain⟨E,hE⟩:∃E,E=allI Z0 k:=⟨_,rfl⟩
 have HCk:Hid (∀V,Old V1 V->Calls Tryz.prog 9 #[.slice p1 k c1] V fun e w'=>e = .returned (.int .i64 E)/\Old V w'):=zH fun V o=>by
  rw [hE]
  exact CheckAll_any p1 k c1 Z0 V (HSm.out.old o) (by omega)
 by_cases ha:E≠0
 ·obtain⟨rfl,o2⟩:e = .returned (.tuple #[.slice none 0 0,.int .i64 E])/\Old V1 V2:=by
   rw [hE] at ha ⊢
   rcases hp with ⟨h0,_⟩ | ⟨_,_,h1,h2⟩ | ⟨_,h0,_⟩
   ·exact absurd hz h0
   ·exact⟨h1,h2⟩
   ·exact absurd h0 ha
  have hd:(E != 0)=true:=by simpa using ha
  have HO2:=zH o2
  clear hp o2 hE ha HSm HM0 HN4 HF hz
  go_wp2_with fail
  refine(HCk.out V2 HO2.out).mono ?_
  rintro e V3 ⟨rfl,o3⟩
  have HO3:=zH (HO2.out.trans o3)
  obtain⟨E1,hE1⟩:∃x,x=E:=⟨_,rfl⟩
  have hCk2:=HCk.out V3 HO3.out
  rw [←hE1] at hCk2
  have hd2:(E == E1)=true:=by rw [hE1];simp
  have HCk2:=zH hCk2
  clear o3 HCk hE1 hCk2
  go_wp2_with fail
  refine HCk2.out.mono ?_
  rintro e V4 ⟨rfl,o4⟩
  have HO4:=zH (HO3.out.trans o4)
  clear o4 HCk2
  go_wp2_with fail
  refine(awake_any _).mono ?_
  rintro e V5 ⟨rfl,o5⟩
  have HE:=zH (HO1.out.trans (HO4.out.trans o5))
  clear o5
  go_wp2_with fail
  go_ret
  exact⟨rfl,HE.out⟩
 have ha:=Classical.not_not.1 ha
 have hall:allI Z0 k=0:=by rw [←hE];exact ha
 obtain⟨a1,a2,a3⟩:=allI_zero hall
 have hm0:∀i,i<k->(Z0 i).M 0<=150:=fun i hi=>HM0.out i hi 0 (by have:=(a2 i hi).n1;omega)
 obtain⟨z,rfl⟩:∃z:Nat,sz=z:=⟨sz.toNat,by omega⟩
 rcases pack_is hp with ⟨er,_,_,_,hno⟩ | ⟨h24,h96,_,Y,g,F,rfl,hpk,hord,hfs⟩
 ·exfalso
  refine hno ⟨hz.1,hz.2,hall,fun Y hY=>few_total hk8 (by omega) (hY.valid a2) fun i hi=>?_⟩
  obtain⟨m,hm,e⟩:=hY.frm i hi
  rw [e]
  exact hm0 m hm
 rw [Int.toNat_natCast] at *
 have hYm:∀i,i<k->(Y i).M 0<=150:=fun i hi=>by
  obtain⟨m,hm,e⟩:=hord.frm i hi
  rw [e]
  exact hm0 m hm
 obtain⟨N,hN⟩:∃N,N=totalAt (frD (mtsD Y)) z k:=⟨_,rfl⟩
 rw [←hN] at hfs ⊢
 have htot:=hpk.tot
 have hbyt:=hpk.bkN.byt
 rw [←hN] at htot hbyt
 have HZ:=zH hz
 have HHy:=zH (And.intro hpk (And.intro hord (And.intro a2 (And.intro a3 hYm))))
 have HNe:=zH hN
 have HB:=zH (And.intro htot hbyt)
 have HO2:=zH hfs.old
 have HFs:=zH hfs.row
 obtain rfl:E=0:=ha
 have HSt:=zH (fun V (o:Old V1 V)=>Sort_any2 p1 k c1 Z0 V (HSm.out.old o) (by omega) (fun i hi=>by have:=HN4.out i hi;omega) (fun i hi j hj=>by have:=HM0.out i hi j hj;omega))
 have HDr:=zH (fun V=>Dir_any k V (by omega))
 obtain⟨dk,hdk⟩:∃d:Int,d=((20+64*k:Nat):Int):=⟨_,rfl⟩
 rw [←hdk] at HDr
 have hd6:IntKind.i64.wrap (64*(k:Int))=64*(k:Int):=IntWalk.i64_in _ (by omega)
 have hd7:IntKind.i64.wrap (20+64*(k:Int))=dk:=by rw [IntWalk.i64_in _ (by omega)];omega
 have HDk:=zH (And.intro hd6 hd7)
 clear hp hE hall a1 a2 a3 hm0 h24 h96 hpk hord hfs hYm hN htot hbyt hz HSm HM0 HN4 hdk hd6 hd7
 go_wp2_with fail
 refine(HCk.out V2 HO2.out).mono ?_
 rintro e V3 ⟨rfl,o3⟩
 have HO3:=zH (HO2.out.trans o3)
 have HO23:=zH o3
 clear o3 HCk
 go_wp2_with fail
 refine(HSt.out V3 HO3.out).mono ?_
 rintro e V4 ⟨gs,G,Zs,rfl,hsrt,hlk,hss,o4⟩
 have HO4:=zH (HO3.out.trans o4)
 have HO24:=zH (HO23.out.trans o4)
 have hlike:∀i,i<k->(Zs i).like (Y i):=Ordd.of_srt hsrt hlk HHy.out.2.2.2.1 HHy.out.2.1
 have hvy:=HHy.out.2.1.valid HHy.out.2.2.1
 have hvz:∀i,i<k->SmpV (Zs i):=fun i hi=>(hlike i hi).valid (hvy i hi)
 have hfr:=HF.out z k (some ⟨gs,0,none⟩) k Zs V4 (by have:=HZ.out;omega) (by have:=HZ.out;omega) hk8 hss hvz (fun i hi=>by
  have h1:=HHy.out.2.2.2.2 i hi
  have h2:(Zs i).M=(Y i).M:=(hlike i hi).2.2.2.2.2.2.1
  rw [h2]
  exact h1)
 rw [off_one (fun i hi=>frD_one hlike i hi),BTo_one z hlike] at hfr
 have HMt:=zH (fun(V:World) qq (h:MtsS V qq k (mtsD Zs))=>h.one (mts_one hlike))
 have HFr:=zH hfr
 clear hfr hsrt hlk hss o4 hlike hvy hvz HSt HF
 go_wp2_with fail
 refine HFr.out.mono ?_
 rintro e V5 ⟨qd,cd,fp,fc,Q,C,rfl,hmt,hrw,o5⟩
 have HO5:=zH (HO4.out.trans o5)
 have HO25:=zH (HO24.out.trans o5)
 have hmt2:=HMt.out V5 qd hmt
 have HIm:=zH (fun V (o:Old V5 V)=>lawImage_any z k (offTo (frD (mtsD Y)) k) qd cd (mtsD Y) fp fc Q C (BTo z Y k) V (by have:=HZ.out;omega) (by have:=HZ.out;omega) (hmt2.old o) (by omega) (fun i hi=>(HHy.out.1.v i hi).ok) (hrw.old o) (Nat.le_refl _))
 rw [←HNe.out] at HIm
 obtain⟨s8,hs8⟩:∃s,s=strOfNums (lst F N):=⟨_,rfl⟩
 have HCv:Hid (∀V p2 c,SlU V p2 N F->N<=c->c<=maxLen->(convert 24 9 (.slice p2 N c)).run Tryz.prog V = .ok (.string s8) V):=zH fun V p2 c hV hc hm=>(by
  rw [hs8]
  exact conv_slI (hV.slI hc hm))
 have HSg:Hid (∀V,Old V5 V->SlU V (some ⟨g,0,none⟩) N F):=zH fun V o hm=>⟨g,0,rfl,(HFs.out.old (HO25.out.trans o)).lt,fun j hj=>by rw [Nat.zero_add];exact(HFs.out.old (HO25.out.trans o)).at_ j hj⟩
 have HLy:Hid (∀V W g2 c2,N<=c2->c2<=maxLen->LayS V g2 N (frD (mtsD Y)) z k (BTo z Y k) (frontF N k z (plD (mtsD Y) z k)) (offTo (frD (mtsD Y)) k) W->(convert 24 9 (.slice (some ⟨g2,0,none⟩) N c2)).run Tryz.prog W = .ok (.string s8) W):=zH fun V W g2 c2 h1 h2 ⟨F2,hf2,hl2⟩=>by
  have hl1:=HHy.out.1.ld
  rw [←HNe.out] at hl1
  have he:∀p,F2 p=F p:=fun p=>hl2.one hl1 (fun _ _=>rfl) p
  obtain rfl:F2=F:=funext he
  exact HCv.out W _ c2 (fun _=>⟨g2,0,rfl,hf2.row.lt,fun j hj=>by rw [Nat.zero_add];exact hf2.row.at_ j hj⟩) h1 h2
 have HNm:Hid (N<=maxLen):=zH (by have:=HB.out.1;unfold maxLen;omega)
 have HR5:=zH (Old.refl V5)
 clear hmt hmt2 hrw o5 hs8 HFr HMt HHy HB
 go_upto_region 8 with fail
 go_cut [4] (fun v wx=>v = .bool true/\Old V5 wx)
 case first=>as_aux_lemma=>
  have hd:Old V5 V5.drew:=(Old.refl V5).drew
  have HD:=zH hd
  clear hd
  refine wp_region_held_drew (S:=(fun V'=>Old V5 V')) (by kernel_rfl) ?_ (fun hHeld=>?_)
  ·(try dsimp only);exact HD.out
  refine wpU 0 rfl ?_;try simp only [Act.put,sA,sZ,sS]
  refine wpU 1 rfl ?_;try simp only [Act.put,sA,sZ,sS]
  refine wpU 2 rfl ?_;try simp only [Act.put,sA,sZ,sS]
  refine wpU 3 rfl ?_;try simp only [Act.put,sA,sZ,sS]
  refine wpT 4 (v:=(.string s8)) rfl (Or.inl ⟨by kernel_rfl,fun V' hSV=>by(try dsimp only at hSV);have hcB:=HCv.out V' _ N (HSg.out V' hSV) (Nat.le_refl _) HNm.out;go_simp⟩) (by assumption) ?_;try simp only [Act.put,sA,sZ,sS]
  refine wpU 5 rfl ?_;try simp only [Act.put,sA,sZ,sS]
  refine wpU 6 rfl ?_;try simp only [Act.put,sA,sZ,sS]
  refine wpU 7 rfl ?_;try simp only [Act.put,sA,sZ,sS]
  refine wpAnyH_ready (rs:=[8]) (by kernel_rfl) (by simp) ?_
  refine AllReadyH.cons (o:=⟨_,_,_,_,_,_⟩) (by rfl) ?_ AllReadyH.nil
  intro K hK
  go_simp
  refine(HIm.out _ HD.out).mono ?_
  rintro e V6 ⟨g2,c2,rfl,hc1,hc2,hly⟩
  have HO6:=zH (HD.out.trans (hly.lt.2.1))
  have hcB:=HLy.out _ V6 g2 c2 hc1 hc2 hly
  clear hc1 hc2 hly HIm
  go_wp2_with fail
  refine hK.out _ _ ?_ (fun hHeld=>?_)
  ·(try dsimp only);exact HO6.out
  clear hK K
  try simp only [Act.put,sA,sZ,sS]
  refine wpAnyH_ready (rs:=[9]) (by kernel_rfl) (by simp) ?_
  refine AllReadyH.cons (o:=⟨_,_,_,_,_,_⟩) (by rfl) ?_ AllReadyH.nil
  intro K hK
  go_simp
  go_wp2_with fail
  refine hK.out _ _ ?_ (fun hHeld=>?_)
  ·(try dsimp only);exact HO6.out
  clear hK K
  try simp only [Act.put,sA,sZ,sS]
  refine wpT 10 (v:=(.bool true)) rfl (Or.inl ⟨by kernel_rfl,fun V' hSV=>by(try dsimp only at hSV);go_simp;try simp⟩) (by assumption) ?_;try simp only [Act.put,sA,sZ,sS]
  obtain⟨d6,d7⟩:=HDk.out
  refine wpU 11 rfl ?_;try simp only [Act.put,sA,sZ,sS]
  refine wpU 12 rfl ?_;try simp only [Act.put,sA,sZ,sS]
  refine wpU 13 rfl ?_;try simp only [Act.put,sA,sZ,sS]
  refine wpU 14 rfl ?_;try simp only [Act.put,sA,sZ,sS]
  refine wpU 16 rfl ?_;try simp only [Act.put,sA,sZ,sS]
  refine wpU 17 rfl ?_;try simp only [Act.put,sA,sZ,sS]
  refine wpU 18 rfl ?_;try simp only [Act.put,sA,sZ,sS]
  refine wpU 19 rfl ?_;try simp only [Act.put,sA,sZ,sS]
  refine wpAnyH_ready (rs:=[15]) (by kernel_rfl) (by simp) ?_
  refine AllReadyH.cons (o:=⟨_,_,_,_,_,_⟩) (by rfl) ?_ AllReadyH.nil
  intro K hK
  go_simp
  refine(HDr.out _).mono ?_
  rintro e V7 ⟨rfl,hv⟩
  subst hv
  go_wp2_with fail
  refine hK.out _ _ ?_ (fun hHeld=>?_)
  ·(try dsimp only);exact HO6.out
  clear hK K
  try simp only [Act.put,sA,sZ,sS]
  refine wpT 20 (v:=(.bool true)) rfl (Or.inl ⟨by kernel_rfl,fun V' hSV=>by(try dsimp only at hSV);go_simp;try simp⟩) (by assumption) ?_;try simp only [Act.put,sA,sZ,sS]
  refine wpU 21 rfl ?_;try simp only [Act.put,sA,sZ,sS]
  refine wpU 22 rfl ?_;try simp only [Act.put,sA,sZ,sS]
  refine wpU 23 rfl ?_;try simp only [Act.put,sA,sZ,sS]
  refine wpU 24 rfl ?_;try simp only [Act.put,sA,sZ,sS]
  refine wpU 25 rfl ?_;try simp only [Act.put,sA,sZ,sS]
  refine wpU 26 rfl ?_;try simp only [Act.put,sA,sZ,sS]
  refine wpU 27 rfl ?_;try simp only [Act.put,sA,sZ,sS]
  refine wpU 28 rfl ?_;try simp only [Act.put,sA,sZ,sS]
  refine wpAnyH_ready (rs:=[29]) (by kernel_rfl) (by simp) ?_
  refine AllReadyH.cons (o:=⟨_,_,_,_,_,_⟩) (by rfl) ?_ AllReadyH.nil
  intro K hK
  go_simp
  refine(awake_any _).mono ?_
  rintro e V8 ⟨rfl,o8⟩
  have HO8:=zH (HO6.out.trans o8)
  clear o8
  go_wp2_with fail
  refine hK.out _ _ ?_ (fun hHeld=>?_)
  ·(try dsimp only);exact HO8.out
  clear hK K
  try simp only [Act.put,sA,sZ,sS]
  refine wpU 30 rfl ?_;try simp only [Act.put,sA,sZ,sS]
  refine wpU 31 rfl ?_;try simp only [Act.put,sA,sZ,sS]
  refine wpAnyH_done (by kernel_rfl) ?_ _
  go_wp2_with fail
  go_meet
  exact⟨rfl,HO8.out⟩
 case rest=>as_aux_lemma=>
  obtain⟨rfl,o9⟩:=hcut
  have HE:=zH (HO1.out.trans (HO5.out.trans o9))
  clear o9
  go_wp2_with fail
  go_ret
  exact⟨rfl,HE.out⟩
end Go.Proofs.YtjakgghbdojlbaaGreatDoor
