/- Texts joined: LayA, Lay. -/
import Derived.RegionTactic
import Derived.BigRegion
import Derived.ChangeAlike
import Derived.OwnWalk
import Derived.OneCell
import Derived.Deep.OwnRows
import Derived.Test.YticpdokbiblpoaaGreatDoorPkAB
import Derived.Test.YticpdokbiblpoaaGreatDoorPkAE
import Derived.Test.YticpdokbiblpoaaGreatDoorTk
set_option linter.unusedVariables false
set_option maxHeartbeats 400000
namespace Go.Proofs.YticpdokbiblpoaaGreatDoor
open Go.Proofs.Tryz
open Go.Proofs.Tryz renaming prog → zP
open Go.Value renaming int → vI
open Go.IntKind renaming i64 → iJ
open Go.Ending renaming returned → rJ
set_option maxRecDepth 100000
open Go.RowKit
theorem Tryz.info5:(zP.info? 5).map (fun i=>(i.zero,i.size,i.bytes))=some (some (.int .u8 0),1,1):=zK
theorem aAV(b g m cap n:Nat)(old bit:Int)(w:World)(hn:n<=9223372036854775800)
  (hm:n/8<m) (hr:0<n%8)
  (c0:w.cell? ⟨b,0,none⟩=some (.slice (some ⟨g,0,none⟩) m cap)) (c1:w.cell? ⟨b,1,none⟩=some (vI iJ n)) (f1:w.frozen? ⟨b,1,none⟩=false)
  (hbg:b≠g)
  (hc:w.cell? ⟨g,n/8,none⟩=some (.int .u8 old)) (hf:w.frozen? ⟨g,n/8,none⟩=false):
  Calls zP 249 #[.pointer (some ⟨b,0,none⟩),.int .u8 bit] w fun e w'=>e=rJ (.tuple #[]) /\
   w'.Alike ((w.setCell ⟨g,n/8,none⟩ (.int .u8 (bits .or .u8 old (bit*2 ^ (7-n%8)%256)))).setCell ⟨b,1,none⟩ (vI iJ ((n:Int)+1))):=by
 go_enter func249,ntmps249
 go_wp2_with fail
 go_region
 go_wp2
 go_end0
 exact⟨rfl,rfl,rfl,rfl⟩
theorem ZA{w w1:World}{X:Nat->Prop}{b m:Nat}{v v' x y:Value}{xs:List Value}{o:Obj}(hown1:ownX (fun k=>X k\/k=b) w1 5 v' (m+1) (xs ++ [x]))(hk:Kept (fun k=>X k\/k=b) (w.alloc o) w1)
  (hX:∀k,X k->k<w.heap.size) (hb:b<w.heap.size) (hx:xs.length=m) (c0:w.cell? ⟨b,0,none⟩=some v) (c1:w.cell? ⟨b,1,none⟩=some y) (f0:w.frozen? ⟨b,0,none⟩=false) (f1:w.frozen? ⟨b,1,none⟩=false):
  ∃g cap,v'=.slice (some ⟨g,0,none⟩) (m+1) cap/\Hid (ownX (fun k=>X k\/k=b) w1 5 (.slice (some ⟨g,0,none⟩) (m+1) cap) (m+1) (xs ++ [x]))/\Hid (Kept (fun k=>X k\/k=b) w w1)/\b≠g /\
   w1.cell? ⟨b,0,none⟩=some v/\w1.cell? ⟨b,1,none⟩=some y/\w1.frozen? ⟨b,0,none⟩=false/\w1.frozen? ⟨b,1,none⟩=false/\w1.cell? ⟨g,m,none⟩=some x/\w1.frozen? ⟨g,m,none⟩=false/\m+1<=cap:=by
 have hkk:Kept (fun k=>X k\/k=b) w w1:=(Kept.alloc w o fun k hk=>hk.elim (hX k) (fun e=>zO)).trans hk;rcases hown1.shape with ⟨_,h0⟩ | ⟨g,cap,rfl,hg,hgl,hmc,hcap,hcell⟩
 ·omega
 ·have hgb:b≠g:=fun e=>hg (.inr e.symm);have k2:=hcell m x (by rw[<-hx];simp);exact⟨g,cap,rfl,hown1,hkk,hgb,(hkk.cell (a:=⟨b,0,none⟩) (.inr rfl)).trans c0,(hkk.cell (a:=⟨b,1,none⟩) (.inr rfl)).trans c1,
   (hkk.frozen (a:=⟨b,0,none⟩) (.inr rfl)).trans f0,(hkk.frozen (a:=⟨b,1,none⟩) (.inr rfl)).trans f1,k2,hown1.frozenAt m,hmc⟩
theorem RE(X:Nat->Prop)(b m n:Nat)(v:Value)(xs:List Value)(bit:Int)(w:World)(hn:n<=4294967296)(hmn:n/8=m)
  (hr:n%8=0) (hX:∀k,X k->k<w.heap.size) (hblt:b<w.heap.size)
  (hx:xs.length=m)
  (c0:w.cell? ⟨b,0,none⟩=some v) (c1:w.cell? ⟨b,1,none⟩=some (vI iJ n)) (f0:w.frozen? ⟨b,0,none⟩=false) (f1:w.frozen? ⟨b,1,none⟩=false)
  (hown:ownX (fun k=>X k\/k=b) w 5 v m xs):
  Calls zP 249 #[.pointer (some ⟨b,0,none⟩),.int .u8 bit] w fun e w'=>e=rJ (.tuple #[]) /\
   ∃w1 g cap,ownX (fun k=>X k\/k=b) w1 5 (.slice (some ⟨g,0,none⟩) (m+1) cap) (m+1) (xs ++ [.int .u8 0])/\Kept (fun k=>X k\/k=b) w w1 /\
   w'.Alike (((w1.setCell ⟨b,0,none⟩ (.slice (some ⟨g,0,none⟩) (m+1) cap)).setCell ⟨g,m,none⟩ (.int .u8 (bits .or .u8 0 (bit*128%256)))).setCell ⟨b,1,none⟩ (vI iJ ((n:Int)+1))):=by
 obtain⟨i0,hi,hz0,hz1,hz2⟩:=info_parts Tryz.info5;have hd:((n:Int)%8 == 0)=true:=by rw[beq_iff_eq];omega
 have HX:=zH hX;have HXX:=zH (fun(o:Obj) (k:Nat) (h:X k\/k=b)=>(show k<(w.alloc o).heap.size from by have:=h.elim (hX k) (fun e=>zO);simp;omega));clear hX;go_enter func249,ntmps249
 go_wp2_with ((at_builtin;refine fL _ rfl _ _ 34 rfl (fun k=>X k\/k=b) 5 i0 (.int .u8 0) 1 underlying34 hi hz0 hz1 hz2 rfl _ _ _ rfl (hown.old (Old.alloc _ _)) ⟨w.heap.size,0,none⟩ 1 1 [.int .u8 0] rfl rfl (jW w _ _) (wF _ _) (by unfold maxLen;omega) zO (HXX.o _) ?_;intro v' w1 hown1 hgrow1 _;obtain⟨g,cap,rfl,HO,HB,hne,k0,k1,l0,l1,k2,l2,hmc⟩:=ZA hown1 hgrow1 HX.o hblt hx c0 c1 f0 f1;clear hown hown1 hgrow1 hx c0 c1 f0 f1))
 go_region
 go_wp2
 go_end0
 exact⟨rfl,w1,g,cap,HO.o,HB.o,rfl,rfl,rfl⟩
def iQ(w:World)(X:Nat->Prop)(b:Nat)(L:List Bool)(er:Int):Prop:=
 ¬X b/\(∀k,X k->k<w.heap.size)/\∃v,w.heap[b]?=some (.cells #[v,vI iJ (L.length:Int),vI iJ er] 290 (0,0))/\ownX (fun k=>X k\/k=b) w 5 v (nb L) ((bytesOf L).map (Value.int .u8))
theorem vG(L:List Bool)(x:Bool)(h:L.length%8≠0):bytesOf (L ++ [x])=(bytesOf L).set (L.length/8) (dI L (L.length/8)+bi x*2 ^ (7-L.length%8)):=by
 have hn:nb (L ++ [x])=nb L:=by simp only[nb,List.length_append,List.length_singleton];omega
 apply List.ext_getElem?;intro i;rw[List.getElem?_set];simp only[bytesOf,hn,List.length_map,List.length_range];by_cases hi:i<nb L
 ·by_cases he:L.length/8=i
  ·subst he;simp[hi,wQ]
  ·simp[he,hi,pL L x i (fun e=>he e.symm)]
 ·have:L.length/8≠i:=by simp only[nb]at hi;omega
  simp[this,hi]
theorem vX(L:List Bool)(x:Bool)(h:L.length%8=0):bytesOf (L ++ [x])=(bytesOf L ++ [0]).set (L.length/8) (bi x*128):=by
 have hn:nb (L ++ [x])=nb L+1:=by simp only[nb,List.length_append,List.length_singleton];omega
 have hnl:nb L=L.length/8:=by simp only[nb];omega
 have hp:=xB L (L.length/8) zO;apply List.ext_getElem?;intro i;rw[List.getElem?_set];simp only[bytesOf,hn,List.length_append,List.length_map,List.length_range,List.length_singleton];by_cases he:L.length/8=i
 ·subst he;have e:=wQ L x;rw[h,hp]at e;simp[hnl,e]
 ·by_cases hi:i<nb L
  ·have h2:i<nb L+1:=zO;simp[he,hi,h2,pL L x i (fun e=>he e.symm)]
  ·have h2:¬i<nb L+1:=zO;have h3:nb L+1<=i:=zO;simp[he,h2]
theorem VK(X:Nat->Prop)(b:Nat)(L:List Bool)(er:Int)(x:Bool)(w:World)(hL:L.length<=4294967296)(h:iQ w X b L er):
  Calls zP 249 #[.pointer (some ⟨b,0,none⟩),.int .u8 (bi x)] w fun e w'=>e=rJ (.tuple #[])/\iQ w' X b (L ++ [x]) er/\Kept X w w':=by
 obtain⟨hXb,hX,v,hblk,hown⟩:=h;obtain⟨c0,c1,c2,f0,f1,f2⟩:=kO hblk;have hx:=iK x;have hbl:=lt_of_block hblk;have hlen:((L ++ [x]).length:Int)=(L.length:Int)+1:=zS;by_cases h8:L.length%8=0
 ·have hnl:nb L=L.length/8:=by simp only[nb];omega
  have hnl':nb (L ++ [x])=L.length/8+1:=by simp only[nb,List.length_append,List.length_singleton];omega
  refine(RE X b (L.length/8) L.length v ((bytesOf L).map (Value.int .u8)) (bi x) w hL rfl h8 hX hbl (by simp[cY,hnl]) c0 c1 f0 f1 (by rw[<-hnl];exact hown)).mono ?_;rintro e w' ⟨rfl,w1,g,cap,ho,hbut,hal⟩;have e:=aCb 0 x 7 zO zO zO zO;simp only[show (2:Int) ^ 7=128 from rfl,Int.zero_add]at e;rw[e]at hal;have hg:=ho.2 g rfl;have hbg:b≠g:=fun e=>hg (.inr e.symm);have hk:=(hbut.block b (.inr rfl)).trans hblk;have hsz:=hbut.size;refine⟨rfl,⟨hXb,?_,.slice (some ⟨g,0,none⟩) (L.length/8+1) cap,?_,?_⟩,?_⟩
  ·intro k hk;rw[hal.1];have:=hX k hk;simp[World.setCell];omega
  ·rw[hal.1,hlen];have h1:=aW (o:=0) (u:=.slice (some ⟨g,0,none⟩) (L.length/8+1) cap) hk;have h2:=(Below.heap_setCell (w1.setCell ⟨b,0,none⟩ (.slice (some ⟨g,0,none⟩) (L.length/8+1) cap)) ⟨g,L.length/8,none⟩ (.int .u8 (bi x*128)) b hbg).trans h1;exact aW (o:=1) (u:=vI iJ ((L.length:Int)+1)) h2
  ·rw[hnl'];refine ownX.alike ?_ hal;refine ownX.other ?_ (by simp[Value.ownBlock];omega) _;have:=(ho.other (a:=⟨b,0,none⟩) (by simp[Value.ownBlock];omega) (.slice (some ⟨g,0,none⟩) (L.length/8+1) cap)).stored (L.length/8) (.int .u8 (bi x*128));rw[vX L x h8];simpa using this
  ·have hbX:Kept X w w1:=hbut.mono fun _ h=>.inl h;exact(((hbX.trans (Kept.setCell _ (a:=⟨b,0,none⟩) hXb _)).trans (Kept.setCell _ (a:=⟨g,L.length/8,none⟩) (fun h=>hg (.inl h)) _)).trans (Kept.setCell _ (a:=⟨b,1,none⟩) hXb _)).alike hal
 ·have hnl:nb L=L.length/8+1:=by simp only[nb];omega
  have hnl':nb (L ++ [x])=nb L:=by simp only[nb,List.length_append,List.length_singleton];omega
  have hown':ownX (fun k=>X k\/k=b) w 5 v (L.length/8+1) ((bytesOf L).map (Value.int .u8)):=by rw[<-hnl];exact hown
  rcases hown'.shape with ⟨_,h0⟩ | ⟨g,cap,rfl,hg,hgl,hmc,hcap,_⟩
  ·omega
  have hbg:b≠g:=fun e=>hg (.inr e.symm);have k2:=hown'.cellAt (L.length/8) zO;rw[List.getElem?_map,mU L _ zO]at k2;have hr:=tE L (L.length/8);have hlow:=TM L;rw[show 8-L.length%8=7-L.length%8+1 by omega]at hlow;refine(aAV b g (L.length/8+1) cap L.length (dI L (L.length/8)) (bi x) w zO zO zO c0 c1 f1 hbg k2 (hown'.frozenAt _)).mono ?_;rintro e w' ⟨rfl,hal⟩;rw[aCb _ x _ zO hr.1 hr.2 hlow]at hal;refine⟨rfl,⟨hXb,?_,.slice (some ⟨g,0,none⟩) (L.length/8+1) cap,?_,?_⟩,?_⟩
  ·intro k hk;rw[hal.1];have:=hX k hk;simp[World.setCell];omega
  ·rw[hal.1,hlen];have h2:=(Below.heap_setCell w ⟨g,L.length/8,none⟩ (.int .u8 (dI L (L.length/8)+bi x*2 ^ (7-L.length%8))) b hbg).trans hblk;exact aW (o:=1) (u:=vI iJ ((L.length:Int)+1)) h2
  ·rw[hnl',hnl];refine ownX.alike ?_ hal;refine ownX.other ?_ (by simp[Value.ownBlock];omega) _;have:=hown'.stored (L.length/8) (.int .u8 (dI L (L.length/8)+bi x*2 ^ (7-L.length%8)));rw[vG L x h8,List.map_set];exact this
  ·exact((Kept.setCell _ (a:=⟨g,L.length/8,none⟩) (fun h=>hg (.inl h)) _).trans (Kept.setCell _ (a:=⟨b,1,none⟩) hXb _)).alike hal
def fX(v:Int)(k:Nat):List Bool:=(List.range k).map fun i=>v/2 ^ (k-1-i)%2 == 1
theorem nG(v:Int)(k:Nat):(fX v k).length=k:=by simp[fX]
theorem oL(v:Int)(k i:Nat)(h:i<k):(fX v k).take (i+1)=(fX v k).take i ++ [v/2 ^ (k-1-i)%2 == 1]:=by
 rw[List.take_succ_eq_append_getElem (by simpa[fX]using h)];simp[fX]
theorem aFJ(a:Int)(h0:0<=a)(h1:a<=18446744073709551615):bits .and .u64 a 1=a%2:=by
 obtain⟨n,rfl⟩:=Int.eq_ofNat_of_zero_le h0;have ea:(BitVec.ofInt 64 (n:Int)).toNat=n:=by rw[BitVec.ofInt_natCast,BitVec.toNat_ofNat];exact Nat.mod_eq_of_lt zO
 have eb:(BitVec.ofInt 64 1).toNat=1:=rfl;show IntKind.u64.wrap ((BitVec.ofInt 64 (n:Int) &&& BitVec.ofInt 64 1).toNat:Int)=_;rw[BitVec.toNat_and,ea,eb,Nat.and_one_is_mod,IntKind.wrap_u64];omega
theorem aDY(v:Int)(n:Nat)(h0:0<=v)(h1:v<=18446744073709551615):bits .and .u64 (v/2 ^ n) 1%256=v/2 ^ n%2:=by
 have hp:(0:Int)<2 ^ n:=Int.pow_pos zO;have a0:0<=v/2 ^ n:=Int.ediv_nonneg h0 zO;have a1:v/2 ^ n<=v:=Int.ediv_le_self _ h0;rw[aFJ _ a0 zO];omega
theorem UC(a:Int):bi (a%2 == 1)=a%2:=by
 have:a%2=0\/a%2=1:=zO;rcases this with h | h <;> rw[h] <;> rfl
def aBs(w:World)(X:Nat->Prop)(b:Nat)(L:List Bool)(v k:Int)(j:Nat)(wr:World):Prop:=iQ wr X b (L ++ (fX v k.toNat).take j) 0/\Kept X w wr
theorem YV(w:World)(X:Nat->Prop)(b:Nat)(L:List Bool)(v k:Int)(j:Nat)(wr:World)(hj:(j:Int)<k)(hk:k<=57)(hL:L.length<=4294967200)(h:aBs w X b L v k j wr):
  Calls zP 249 #[.pointer (some ⟨b,0,none⟩),.int .u8 (v/2 ^ (k.toNat-1-j)%2)] wr fun e w'=>e=rJ (.tuple #[])/\aBs w X b L v k (j+1) w':=by
 rw[<-UC];have hl:(fX v k.toNat).take j=(fX v k.toNat).take j:=rfl;refine(VK X b (L ++ (fX v k.toNat).take j) 0 (v/2 ^ (k.toNat-1-j)%2 == 1) wr ?_ h.1).mono ?_
 ·have:=List.length_take_le j (fX v k.toNat);rw[List.length_append];omega
 ·rintro e w' ⟨rfl,h1,h2⟩;refine⟨rfl,?_,h.2.trans h2⟩;rw[List.append_assoc,<-oL _ _ _ zO]at h1;exact h1
theorem aGh(X:Nat->Prop)(b:Nat)(L:List Bool)(v k:Int)(w:World)(hL:L.length<=4294967200)(h0:0<=v)(h1:v<=18446744073709551615)(k0:0<=k)(k1:k<=57)(h:iQ w X b L 0):
  Calls zP 230 #[.pointer (some ⟨b,0,none⟩),.int .u64 v,vI iJ k,.bool true] w fun e w'=>e=rJ (.tuple #[])/\iQ w' X b (L ++ fX v k.toNat) 0/\Kept X w w':=by
 have hst:aBs w X b L v k 0 w:=⟨by simpa using h,Kept.refl _ _⟩
 obtain⟨_,_,v0,hblk,_⟩:=h;obtain⟨c0,c1,c2,f0,f1,f2⟩:=kO hblk;clear hblk c0 c1 f0 f1 f2;go_enter func230,ntmps230
 go_wp2_with fail
 go_loopw [24] (fun i wr=>∃j:Nat,(j:Int)<=k/\i=vI iJ j/\aBs w X b L v k j wr) (fun i _=>k.toNat-(intOf i).toNat)
 case atStart=>exact⟨0,zO,rfl,hst⟩
 case round=>
  obtain⟨j,hj,rfl,hlaid⟩:=hrel;by_cases hlt:(j:Int)<k
  ·go_wp2_with fail
   rw[aDY v _ h0 h1];refine(YV w X b L v k j wr hlt k1 hL hlaid).mono ?_;rintro e w1 ⟨rfl,hl1⟩;go_wp2;go_roundw
   case rel=>exact⟨j+1,zO,by go_num,hl1⟩
   case measure=>exact zM
  ·have hend:iQ wr X b (L ++ fX v k.toNat) 0/\Kept X w wr:=by
    have:=hlaid;unfold aBs at this;rw[List.take_of_length_le (by rw[nG];omega)]at this;exact this
   have HE:=zH hend;clear hend;go_wp2
   go_end0
   exact⟨rfl,HE.o⟩
theorem aHt(X:Nat->Prop)(b:Nat)(L:List Bool)(v k:Int)(w:World)(h:iQ w X b L 0):
  Calls zP 230 #[.pointer (some ⟨b,0,none⟩),.int .u64 v,vI iJ k,.bool false] w fun e w'=>e=rJ (.tuple #[])/\iQ w' X b L 5/\Kept X w w':=by
 obtain⟨hXb,hX,v0,hblk,hown⟩:=h;obtain⟨c0,c1,c2,f0,f1,f2⟩:=kO hblk;have hend:iQ (w.setCell ⟨b,2,none⟩ (vI iJ 5)) X b L 5/\Kept X w (w.setCell ⟨b,2,none⟩ (vI iJ 5)):=
  ⟨⟨hXb,fun k hk=>by have:=hX k hk;simp[World.setCell];omega,v0,aW (o:=2) (u:=vI iJ 5) hblk,hown.other (fun e=>hown.2 b e (.inr rfl)) _⟩,Kept.setCell _ (a:=⟨b,2,none⟩) hXb _⟩
 have HE:=zH hend;clear hblk hown hend;go_enter func230,ntmps230;go_wp2;refine bodyPost_ret (results_none rfl _ _ _) rfl ?_;exact⟨rfl,HE.o⟩
theorem aGt(X:Nat->Prop)(b:Nat)(L:List Bool)(v k er:Int)(ok:Bool)(w:World)(her:er≠0)(h:iQ w X b L er):
  Calls zP 230 #[.pointer (some ⟨b,0,none⟩),.int .u64 v,vI iJ k,.bool ok] w fun e w'=>e=rJ (.tuple #[])/\w=w':=by
 obtain⟨hXb,hX,v0,hblk,hown⟩:=h;obtain⟨c0,c1,c2,f0,f1,f2⟩:=kO hblk;have hne:(er != 0)=true:=by simpa using her
 clear hblk hown;go_enter func230,ntmps230;go_wp2;refine bodyPost_ret (results_none rfl _ _ _) rfl ?_;exact⟨rfl,rfl⟩
def pU(L:List Bool)(er:Int)(ok:Bool)(v k:Int):List Bool × Int:=if er≠0 then(L,er) else if ok then(L ++ fX v k.toNat,0) else(L,5)
def oQ(v k:Int):Bool:=decide (0<=k/\k<=57/\v<pw k.toNat)
def mK(v k:Int):Bool:=mB k && eK v k
theorem KE(X:Nat->Prop)(b:Nat)(L:List Bool)(er v k:Int)(ok:Bool)(w:World)(hL:L.length<=4294967200)(h0:0<=v)(h1:v<=18446744073709551615)(hk:ok=true->0<=k/\k<=57)(h:iQ w X b L er):
  Calls zP 230 #[.pointer (some ⟨b,0,none⟩),.int .u64 v,vI iJ k,.bool ok] w fun e w'=>e=rJ (.tuple #[])/\iQ w' X b (pU L er ok v k).1 (pU L er ok v k).2/\Kept X w w':=by
 unfold pU;by_cases her:er=0
 ·subst her;cases ok with
  | true=>simpa using aGh X b L v k w hL h0 h1 (hk rfl).1 (hk rfl).2 h
  | false=>simpa using aHt X b L v k w h
 ·refine(aGt X b L v k er ok w her h).mono ?_;rintro e w' ⟨rfl,rfl⟩;rw[if_pos her];exact⟨rfl,h,Kept.refl _ _⟩
theorem UI(v:Int)(n:Nat):v/2 ^ n=v/pw n:=rfl
theorem aFD(X:Nat->Prop)(b:Nat)(L:List Bool)(er v k:Int)(w:World)(hL:L.length<=4294967200)(h0:0<=v)(h1:v<=18446744073709551615)(h:iQ w X b L er):
  Calls zP 191 #[.pointer (some ⟨b,0,none⟩),.int .u64 v,vI iJ k] w fun e w'=>e=rJ (.tuple #[])/\iQ w' X b (pU L er (oQ v k) v k).1 (pU L er (oQ v k) v k).2/\Kept X w w':=by
 by_cases hk:0<=k/\k<=57
 ·have hw:Hid (mB k=true):=by unfold Hid mB;simpa using hk
  have hp:=fI k.toNat
  have hd:Hid (oQ v k=(v/2 ^ k.toNat == 0)):=by
   unfold Hid oQ;rw[UI,Bool.eq_iff_iff,beq_iff_eq,decide_eq_true_eq];generalize pw k.toNat=q at *;constructor
   ·rintro ⟨_,_,h⟩;exact Int.ediv_eq_zero_of_lt h0 h
   ·intro h;refine⟨hk.1,hk.2,?_⟩;have:=Int.lt_mul_ediv_self_add (x:=v) (k:=q) zO;rw[h]at this;omega
  have hmin:min k.toNat 64=k.toNat:=zO;have HL:=zH (KE X b L er v k (oQ v k) w hL h0 h1 (fun _=>hk) h);obtain⟨hk0,hk1⟩:=hk;clear h;rw[hd.o]at HL |-;go_enter func191,ntmps191
  go_wp2_with fail
  refine(eJ k w).mono ?_;rintro e w' ⟨rfl,rfl⟩;rw[hw.o]
  go_wp2_with fail
  refine HL.o.mono ?_;rintro e w1 ⟨rfl,h1⟩;have H1:=zH h1;clear h1;go_wp2
  go_end0
  exact⟨rfl,H1.o⟩
 ·have hw:Hid (mB k=false):=by unfold Hid mB;simpa using hk
  have hd:Hid (oQ v k=false):=by unfold Hid oQ;simp;omega
  have HL:=zH (KE X b L er v k false w hL h0 h1 (fun h=>by cases h) h);clear h;rw[hd.o];go_enter func191,ntmps191
  go_wp2_with fail
  refine(eJ k w).mono ?_;rintro e w' ⟨rfl,rfl⟩;rw[hw.o]
  go_wp2_with fail
  refine HL.o.mono ?_;rintro e w1 ⟨rfl,h1⟩;have H1:=zH h1;clear h1;go_wp2
  go_end0
  exact⟨rfl,H1.o⟩
theorem LL(X:Nat->Prop)(b:Nat)(L:List Bool)(er v k:Int)(w:World)(hL:L.length<=4294967200)(h:iQ w X b L er):
  Calls zP 192 #[.pointer (some ⟨b,0,none⟩),vI iJ v,vI iJ k] w fun e w'=>e=rJ (.tuple #[])/\iQ w' X b (pU L er (mK v k) (v%18446744073709551616) k).1 (pU L er (mK v k) (v%18446744073709551616) k).2/\Kept X w w':=by
 have HL:=zH (KE X b L er (v%18446744073709551616) k (mK v k) w hL zO zO (fun h=>by simp only[mK,mB,Bool.and_eq_true,decide_eq_true_eq]at h;exact h.1) h);clear h;cases hw:mB k with
 | true=>
  have hd:mK v k=eK v k:=by simp[mK,hw]
  rw[hd]at HL |-;have hw':=zH hw;clear hw hd;go_enter func192,ntmps192
  go_wp2_with fail
  refine(eJ k w).mono ?_;rintro e w' ⟨rfl,rfl⟩;rw[hw'.o]
  go_wp2_with fail
  refine(BA v k w).mono ?_;rintro e w' ⟨rfl,rfl⟩
  go_wp2_with fail
  refine HL.o.mono ?_;rintro e w1 ⟨rfl,h1⟩;have H1:=zH h1;clear h1;go_wp2
  go_end0
  exact⟨rfl,H1.o⟩
 | false=>
  have hd:mK v k=false:=by simp[mK,hw]
  rw[hd]at HL |-;have hw':=zH hw;clear hw hd;go_enter func192,ntmps192
  go_wp2_with fail
  refine(eJ k w).mono ?_;rintro e w' ⟨rfl,rfl⟩;rw[hw'.o]
  go_wp2_with fail
  refine HL.o.mono ?_;rintro e w1 ⟨rfl,h1⟩;have H1:=zH h1;clear h1;go_wp2
  go_end0
  exact⟨rfl,H1.o⟩
theorem iQ.fresh{w:World}{X:Nat->Prop}{b:Nat}(h:w.heap[b]?=some (.cells #[.slice none 0 0,vI iJ 0,vI iJ 0] 290 (0,0)))(hb:¬X b)(hX:∀k,X k->k<w.heap.size):iQ w X b [] 0:=
 ⟨hb,hX,.slice none 0 0,h,by
  have:=ownX.nil (fun k=>X k\/k=b) w 5;simpa[nb,bytesOf]using this⟩
end Go.Proofs.YticpdokbiblpoaaGreatDoor
