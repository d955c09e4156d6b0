/- Texts joined: LayA, Lay. -/
import Derived.RegionTactic
import Derived.BigRegion
import Derived.ChangeAlike
import Derived.OwnWalk
import Derived.OneCell
import Derived.Deep.OwnRows
import Derived.Test.YtgefdmfcddpaiaaGreatDoorPkAB
import Derived.Test.YtgefdmfcddpaiaaGreatDoorPkAE
import Derived.Test.YtgefdmfcddpaiaaGreatDoorTk
namespace Go.Proofs.YtgefdmfcddpaiaaGreatDoor
set_option linter.unusedVariables false
set_option maxRecDepth 100000
open Go.RowKit
theorem Tryz.info5:(Tryz.prog.info? 5).map (fun i=>(i.zero,i.size,i.bytes))=some (some (.int .u8 0),1,1):=by kernel_rfl
set_option maxHeartbeats 400000 in
theorem layBit_in(b g m cap n:Nat)(old bit:Int)(w:World)(hn:n<=9223372036854775800)
  (hm:n/8<m) (hr:0<n%8)
  (c0:w.cell? ⟨b,0,none⟩=some (.slice (some ⟨g,0,none⟩) m cap)) (c1:w.cell? ⟨b,1,none⟩=some (.int .i64 n)) (f1:w.frozen? ⟨b,1,none⟩=false)
  (hbg:b≠g)
  (hc:w.cell? ⟨g,n/8,none⟩=some (.int .u8 old)) (hf:w.frozen? ⟨g,n/8,none⟩=false):
  Calls Tryz.prog 262 #[.pointer (some ⟨b,0,none⟩),.int .u8 bit] w fun e w'=>e = .returned (.tuple #[]) /\
   w'.Alike ((w.setCell ⟨g,n/8,none⟩ (.int .u8 (bits .or .u8 old (bit*2 ^ (7-n%8)%256)))).setCell ⟨b,1,none⟩ (.int .i64 ((n:Int)+1))):=by
 go_enter Tryz.func262,Tryz.ntmps262
 go_wp2_with fail
 go_region
 go_wp2
 go_end0
 exact⟨rfl,rfl,rfl,rfl⟩
theorem new_facts{w w1:World}{X:Nat->Prop}{b m:Nat}{v v' x y:Value}{xs:List Value}{o:Obj}(hown1:ownX (fun k=>X k\/k=b) w1 5 v' (m+1) (xs ++ [x]))(hk:Kept (fun k=>X k\/k=b) (w.alloc o) w1)
  (hX:∀k,X k->k<w.heap.size) (hb:b<w.heap.size) (hx:xs.length=m) (c0:w.cell? ⟨b,0,none⟩=some v) (c1:w.cell? ⟨b,1,none⟩=some y) (f0:w.frozen? ⟨b,0,none⟩=false) (f1:w.frozen? ⟨b,1,none⟩=false):
  ∃g cap,v' = .slice (some ⟨g,0,none⟩) (m+1) cap/\Hid (ownX (fun k=>X k\/k=b) w1 5 (.slice (some ⟨g,0,none⟩) (m+1) cap) (m+1) (xs ++ [x]))/\Hid (Kept (fun k=>X k\/k=b) w w1)/\b≠g /\
   w1.cell? ⟨b,0,none⟩=some v/\w1.cell? ⟨b,1,none⟩=some y/\w1.frozen? ⟨b,0,none⟩=false/\w1.frozen? ⟨b,1,none⟩=false/\w1.cell? ⟨g,m,none⟩=some x/\w1.frozen? ⟨g,m,none⟩=false/\m+1<=cap:=by
 have hkk:Kept (fun k=>X k\/k=b) w w1:=(Kept.alloc w o fun k hk=>hk.elim (hX k) (fun e=>by omega)).trans hk
 rcases hown1.shape with ⟨_,h0⟩ | ⟨g,cap,rfl,hg,hgl,hmc,hcap,hcell⟩
 ·omega
 ·have hgb:b≠g:=fun e=>hg (.inr e.symm)
  have k2:=hcell m x (by rw [←hx];simp)
  exact⟨g,cap,rfl,hown1,hkk,hgb,(hkk.cell (a:=⟨b,0,none⟩) (.inr rfl)).trans c0,(hkk.cell (a:=⟨b,1,none⟩) (.inr rfl)).trans c1,
   (hkk.frozen (a:=⟨b,0,none⟩) (.inr rfl)).trans f0,(hkk.frozen (a:=⟨b,1,none⟩) (.inr rfl)).trans f1,k2,hown1.frozenAt m,hmc⟩
set_option maxHeartbeats 400000 in
theorem layBit_new(X:Nat->Prop)(b m n:Nat)(v:Value)(xs:List Value)(bit:Int)(w:World)(hn:n<=4294967296)(hmn:n/8=m)
  (hr:n%8=0) (hX:∀k,X k->k<w.heap.size) (hblt:b<w.heap.size)
  (hx:xs.length=m)
  (c0:w.cell? ⟨b,0,none⟩=some v) (c1:w.cell? ⟨b,1,none⟩=some (.int .i64 n)) (f0:w.frozen? ⟨b,0,none⟩=false) (f1:w.frozen? ⟨b,1,none⟩=false)
  (hown:ownX (fun k=>X k\/k=b) w 5 v m xs):
  Calls Tryz.prog 262 #[.pointer (some ⟨b,0,none⟩),.int .u8 bit] w fun e w'=>e = .returned (.tuple #[]) /\
   ∃w1 g cap,ownX (fun k=>X k\/k=b) w1 5 (.slice (some ⟨g,0,none⟩) (m+1) cap) (m+1) (xs ++ [.int .u8 0])/\Kept (fun k=>X k\/k=b) w w1 /\
   w'.Alike (((w1.setCell ⟨b,0,none⟩ (.slice (some ⟨g,0,none⟩) (m+1) cap)).setCell ⟨g,m,none⟩ (.int .u8 (bits .or .u8 0 (bit*128%256)))).setCell ⟨b,1,none⟩ (.int .i64 ((n:Int)+1))):=by
 obtain⟨i0,hi,hz0,hz1,hz2⟩:=info_parts Tryz.info5
 have hd:((n:Int)%8 == 0)=true:=by rw [beq_iff_eq];omega
 have HX:=zH hX
 have HXX:=zH (fun(o:Obj) (k:Nat) (h:X k\/k=b)=>(show k<(w.alloc o).heap.size from by have:=h.elim (hX k) (fun e=>by omega);simp;omega))
 clear hX
 go_enter Tryz.func262,Tryz.ntmps262
 go_wp2_with ((at_builtin;refine append_X _ rfl _ _ 34 rfl (fun k=>X k\/k=b) 5 i0 (.int .u8 0) 1 Tryz.underlying34 hi hz0 hz1 hz2 rfl _ _ _ rfl (hown.old (Old.alloc _ _)) ⟨w.heap.size,0,none⟩ 1 1 [.int .u8 0] rfl rfl (news_one w _ _) (one_oneCell _ _) (by unfold maxLen;omega) (by omega) (HXX.out _) ?_;intro v' w1 hown1 hgrow1 _;obtain⟨g,cap,rfl,HO,HB,hne,k0,k1,l0,l1,k2,l2,hmc⟩:=new_facts hown1 hgrow1 HX.out hblt hx c0 c1 f0 f1;clear hown hown1 hgrow1 hx c0 c1 f0 f1))
 go_region
 go_wp2
 go_end0
 exact⟨rfl,w1,g,cap,HO.out,HB.out,rfl,rfl,rfl⟩
def WrAt(w:World)(X:Nat->Prop)(b:Nat)(L:List Bool)(er:Int):Prop:=
 ¬X b/\(∀k,X k->k<w.heap.size)/\∃v,w.heap[b]?=some (.cells #[v,.int .i64 (L.length:Int),.int .i64 er] 302 (0,0))/\ownX (fun k=>X k\/k=b) w 5 v (nb L) ((bytesOf L).map (Value.int .u8))
theorem bytesOf_snoc_old(L:List Bool)(x:Bool)(h:L.length%8≠0):bytesOf (L ++ [x])=(bytesOf L).set (L.length/8) (byteAt L (L.length/8)+bi x*2 ^ (7-L.length%8)):=by
 have hn:nb (L ++ [x])=nb L:=by simp only [nb,List.length_append,List.length_singleton];omega
 apply List.ext_getElem?
 intro i
 rw [List.getElem?_set]
 simp only [bytesOf,hn,List.length_map,List.length_range]
 by_cases hi:i<nb L
 ·by_cases he:L.length/8=i
  ·subst he
   simp [hi,byteAt_snoc]
  ·simp [he,hi,byteAt_snoc_ne L x i (fun e=>he e.symm)]
 ·have:L.length/8≠i:=by simp only [nb] at hi;omega
  simp [this,hi]
theorem bytesOf_snoc_new(L:List Bool)(x:Bool)(h:L.length%8=0):bytesOf (L ++ [x])=(bytesOf L ++ [0]).set (L.length/8) (bi x*128):=by
 have hn:nb (L ++ [x])=nb L+1:=by simp only [nb,List.length_append,List.length_singleton];omega
 have hnl:nb L=L.length/8:=by simp only [nb];omega
 have hp:=byteAt_past L (L.length/8) (by omega)
 apply List.ext_getElem?
 intro i
 rw [List.getElem?_set]
 simp only [bytesOf,hn,List.length_append,List.length_map,List.length_range,List.length_singleton]
 by_cases he:L.length/8=i
 ·subst he
  have e:=byteAt_snoc L x
  rw [h,hp] at e
  simp [hnl,e]
 ·by_cases hi:i<nb L
  ·have h2:i<nb L+1:=by omega
   simp [he,hi,h2,byteAt_snoc_ne L x i (fun e=>he e.symm)]
  ·have h2:¬i<nb L+1:=by omega
   have h3:nb L+1<=i:=by omega
   simp [he,h2]
theorem layBit_any(X:Nat->Prop)(b:Nat)(L:List Bool)(er:Int)(x:Bool)(w:World)(hL:L.length<=4294967296)(h:WrAt w X b L er):
  Calls Tryz.prog 262 #[.pointer (some ⟨b,0,none⟩),.int .u8 (bi x)] w fun e w'=>e = .returned (.tuple #[])/\WrAt w' X b (L ++ [x]) er/\Kept X w w':=by
 obtain⟨hXb,hX,v,hblk,hown⟩:=h
 obtain⟨c0,c1,c2,f0,f1,f2⟩:=cell3 hblk
 have hx:=bi_01 x
 have hbl:=lt_of_block hblk
 have hlen:((L ++ [x]).length:Int)=(L.length:Int)+1:=by simp
 by_cases h8:L.length%8=0
 ·have hnl:nb L=L.length/8:=by simp only [nb];omega
  have hnl':nb (L ++ [x])=L.length/8+1:=by simp only [nb,List.length_append,List.length_singleton];omega
  refine(layBit_new X b (L.length/8) L.length v ((bytesOf L).map (Value.int .u8)) (bi x) w hL rfl h8 hX hbl (by simp [length_bytesOf,hnl]) c0 c1 f0 f1 (by rw [←hnl];exact hown)).mono ?_
  rintro e w' ⟨rfl,w1,g,cap,ho,hbut,hal⟩
  have e:=or_add 0 x 7 (by omega) (by omega) (by omega) (by omega)
  simp only [show (2:Int) ^ 7=128 from rfl,Int.zero_add] at e
  rw [e] at hal
  have hg:=ho.2 g rfl
  have hbg:b≠g:=fun e=>hg (.inr e.symm)
  have hk:=(hbut.block b (.inr rfl)).trans hblk
  have hsz:=hbut.size
  refine⟨rfl,⟨hXb,?_,.slice (some ⟨g,0,none⟩) (L.length/8+1) cap,?_,?_⟩,?_⟩
  ·intro k hk;rw [hal.1];have:=hX k hk;simp [World.setCell];omega
  ·rw [hal.1,hlen]
   have h1:=heap_setCell_at (o:=0) (u:=.slice (some ⟨g,0,none⟩) (L.length/8+1) cap) hk
   have h2:=(Below.heap_setCell (w1.setCell ⟨b,0,none⟩ (.slice (some ⟨g,0,none⟩) (L.length/8+1) cap)) ⟨g,L.length/8,none⟩ (.int .u8 (bi x*128)) b hbg).trans h1
   exact heap_setCell_at (o:=1) (u:=.int .i64 ((L.length:Int)+1)) h2
  ·rw [hnl']
   refine ownX.alike ?_ hal
   refine ownX.other ?_ (by simp [Value.ownBlock];omega) _
   have:=(ho.other (a:=⟨b,0,none⟩) (by simp [Value.ownBlock];omega) (.slice (some ⟨g,0,none⟩) (L.length/8+1) cap)).stored (L.length/8) (.int .u8 (bi x*128))
   rw [bytesOf_snoc_new L x h8]
   simpa using this
  ·have hbX:Kept X w w1:=hbut.mono fun _ h=>.inl h
   exact(((hbX.trans (Kept.setCell _ (a:=⟨b,0,none⟩) hXb _)).trans (Kept.setCell _ (a:=⟨g,L.length/8,none⟩) (fun h=>hg (.inl h)) _)).trans (Kept.setCell _ (a:=⟨b,1,none⟩) hXb _)).alike hal
 ·have hnl:nb L=L.length/8+1:=by simp only [nb];omega
  have hnl':nb (L ++ [x])=nb L:=by simp only [nb,List.length_append,List.length_singleton];omega
  have hown':ownX (fun k=>X k\/k=b) w 5 v (L.length/8+1) ((bytesOf L).map (Value.int .u8)):=by rw [←hnl];exact hown
  rcases hown'.shape with ⟨_,h0⟩ | ⟨g,cap,rfl,hg,hgl,hmc,hcap,_⟩
  ·omega
  have hbg:b≠g:=fun e=>hg (.inr e.symm)
  have k2:=hown'.cellAt (L.length/8) (by omega)
  rw [List.getElem?_map,getElem?_bytesOf L _ (by omega)] at k2
  have hr:=byteAt_range L (L.length/8)
  have hlow:=byteAt_low L
  rw [show 8-L.length%8=7-L.length%8+1 by omega] at hlow
  refine(layBit_in b g (L.length/8+1) cap L.length (byteAt L (L.length/8)) (bi x) w (by omega) (by omega) (by omega) c0 c1 f1 hbg k2 (hown'.frozenAt _)).mono ?_
  rintro e w' ⟨rfl,hal⟩
  rw [or_add _ x _ (by omega) hr.1 hr.2 hlow] at hal
  refine⟨rfl,⟨hXb,?_,.slice (some ⟨g,0,none⟩) (L.length/8+1) cap,?_,?_⟩,?_⟩
  ·intro k hk;rw [hal.1];have:=hX k hk;simp [World.setCell];omega
  ·rw [hal.1,hlen]
   have h2:=(Below.heap_setCell w ⟨g,L.length/8,none⟩ (.int .u8 (byteAt L (L.length/8)+bi x*2 ^ (7-L.length%8))) b hbg).trans hblk
   exact heap_setCell_at (o:=1) (u:=.int .i64 ((L.length:Int)+1)) h2
  ·rw [hnl',hnl]
   refine ownX.alike ?_ hal
   refine ownX.other ?_ (by simp [Value.ownBlock];omega) _
   have:=hown'.stored (L.length/8) (.int .u8 (byteAt L (L.length/8)+bi x*2 ^ (7-L.length%8)))
   rw [bytesOf_snoc_old L x h8,List.map_set]
   exact this
  ·exact((Kept.setCell _ (a:=⟨g,L.length/8,none⟩) (fun h=>hg (.inl h)) _).trans (Kept.setCell _ (a:=⟨b,1,none⟩) hXb _)).alike hal
def bitsN(v:Int)(k:Nat):List Bool:=(List.range k).map fun i=>v/2 ^ (k-1-i)%2 == 1
theorem length_bitsN(v:Int)(k:Nat):(bitsN v k).length=k:=by simp [bitsN]
theorem bitsN_take_succ(v:Int)(k i:Nat)(h:i<k):(bitsN v k).take (i+1)=(bitsN v k).take i ++ [v/2 ^ (k-1-i)%2 == 1]:=by
 rw [List.take_succ_eq_append_getElem (by simpa [bitsN] using h)]
 simp [bitsN]
theorem and_one(a:Int)(h0:0<=a)(h1:a<=18446744073709551615):bits .and .u64 a 1=a%2:=by
 obtain⟨n,rfl⟩:=Int.eq_ofNat_of_zero_le h0
 have ea:(BitVec.ofInt 64 (n:Int)).toNat=n:=by rw [BitVec.ofInt_natCast,BitVec.toNat_ofNat];exact Nat.mod_eq_of_lt (by omega)
 have eb:(BitVec.ofInt 64 1).toNat=1:=rfl
 show IntKind.u64.wrap ((BitVec.ofInt 64 (n:Int) &&& BitVec.ofInt 64 1).toNat:Int)=_
 rw [BitVec.toNat_and,ea,eb,Nat.and_one_is_mod,IntKind.wrap_u64]
 omega
theorem and_byte(v:Int)(n:Nat)(h0:0<=v)(h1:v<=18446744073709551615):bits .and .u64 (v/2 ^ n) 1%256=v/2 ^ n%2:=by
 have hp:(0:Int)<2 ^ n:=Int.pow_pos (by omega)
 have a0:0<=v/2 ^ n:=Int.ediv_nonneg h0 (by omega)
 have a1:v/2 ^ n<=v:=Int.ediv_le_self _ h0
 rw [and_one _ a0 (by omega)]
 omega
theorem bi_mod(a:Int):bi (a%2 == 1)=a%2:=by
 have:a%2=0\/a%2=1:=by omega
 rcases this with h | h <;> rw [h] <;> rfl
def Laid(w:World)(X:Nat->Prop)(b:Nat)(L:List Bool)(v k:Int)(j:Nat)(wr:World):Prop:=WrAt wr X b (L ++ (bitsN v k.toNat).take j) 0/\Kept X w wr
theorem laid_next(w:World)(X:Nat->Prop)(b:Nat)(L:List Bool)(v k:Int)(j:Nat)(wr:World)(hj:(j:Int)<k)(hk:k<=57)(hL:L.length<=4294967200)(h:Laid w X b L v k j wr):
  Calls Tryz.prog 262 #[.pointer (some ⟨b,0,none⟩),.int .u8 (v/2 ^ (k.toNat-1-j)%2)] wr fun e w'=>e = .returned (.tuple #[])/\Laid w X b L v k (j+1) w':=by
 rw [←bi_mod]
 have hl:(bitsN v k.toNat).take j=(bitsN v k.toNat).take j:=rfl
 refine(layBit_any X b (L ++ (bitsN v k.toNat).take j) 0 (v/2 ^ (k.toNat-1-j)%2 == 1) wr ?_ h.1).mono ?_
 ·have:=List.length_take_le j (bitsN v k.toNat)
  rw [List.length_append];omega
 ·rintro e w' ⟨rfl,h1,h2⟩
  refine⟨rfl,?_,h.2.trans h2⟩
  rw [List.append_assoc,←bitsN_take_succ _ _ _ (by omega)] at h1
  exact h1
set_option maxHeartbeats 400000 in
theorem lay_yes(X:Nat->Prop)(b:Nat)(L:List Bool)(v k:Int)(w:World)(hL:L.length<=4294967200)(h0:0<=v)(h1:v<=18446744073709551615)(k0:0<=k)(k1:k<=57)(h:WrAt w X b L 0):
  Calls Tryz.prog 243 #[.pointer (some ⟨b,0,none⟩),.int .u64 v,.int .i64 k,.bool true] w fun e w'=>e = .returned (.tuple #[])/\WrAt w' X b (L ++ bitsN v k.toNat) 0/\Kept X w w':=by
 have hst:Laid w X b L v k 0 w:=⟨by simpa using h,Kept.refl _ _⟩
 obtain⟨_,_,v0,hblk,_⟩:=h
 obtain⟨c0,c1,c2,f0,f1,f2⟩:=cell3 hblk
 clear hblk c0 c1 f0 f1 f2
 go_enter Tryz.func243,Tryz.ntmps243
 go_wp2_with fail
 go_loopw [24] (fun i wr=>∃j:Nat,(j:Int)<=k/\i = .int .i64 j/\Laid w X b L v k j wr) (fun i _=>k.toNat-(intOf i).toNat)
 case atStart=>exact⟨0,by omega,rfl,hst⟩
 case round=>
  obtain⟨j,hj,rfl,hlaid⟩:=hrel
  by_cases hlt:(j:Int)<k
  ·go_wp2_with fail
   rw [and_byte v _ h0 h1]
   refine(laid_next w X b L v k j wr hlt k1 hL hlaid).mono ?_
   rintro e w1 ⟨rfl,hl1⟩
   go_wp2
   go_roundw
   case rel=>exact⟨j+1,by omega,by go_num,hl1⟩
   case measure=>simp [intOf];omega
  ·have hend:WrAt wr X b (L ++ bitsN v k.toNat) 0/\Kept X w wr:=by
    have:=hlaid
    unfold Laid at this
    rw [List.take_of_length_le (by rw [length_bitsN];omega)] at this
    exact this
   have HE:=zH hend
   clear hend
   go_wp2
   go_end0
   exact⟨rfl,HE.out⟩
theorem lay_no(X:Nat->Prop)(b:Nat)(L:List Bool)(v k:Int)(w:World)(h:WrAt w X b L 0):
  Calls Tryz.prog 243 #[.pointer (some ⟨b,0,none⟩),.int .u64 v,.int .i64 k,.bool false] w fun e w'=>e = .returned (.tuple #[])/\WrAt w' X b L 5/\Kept X w w':=by
 obtain⟨hXb,hX,v0,hblk,hown⟩:=h
 obtain⟨c0,c1,c2,f0,f1,f2⟩:=cell3 hblk
 have hend:WrAt (w.setCell ⟨b,2,none⟩ (.int .i64 5)) X b L 5/\Kept X w (w.setCell ⟨b,2,none⟩ (.int .i64 5)):=
  ⟨⟨hXb,fun k hk=>by have:=hX k hk;simp [World.setCell];omega,v0,heap_setCell_at (o:=2) (u:=.int .i64 5) hblk,hown.other (fun e=>hown.2 b e (.inr rfl)) _⟩,Kept.setCell _ (a:=⟨b,2,none⟩) hXb _⟩
 have HE:=zH hend
 clear hblk hown hend
 go_enter Tryz.func243,Tryz.ntmps243
 go_wp2
 refine bodyPost_ret (results_none rfl _ _ _) rfl ?_
 exact⟨rfl,HE.out⟩
theorem lay_err(X:Nat->Prop)(b:Nat)(L:List Bool)(v k er:Int)(ok:Bool)(w:World)(her:er≠0)(h:WrAt w X b L er):
  Calls Tryz.prog 243 #[.pointer (some ⟨b,0,none⟩),.int .u64 v,.int .i64 k,.bool ok] w fun e w'=>e = .returned (.tuple #[])/\w=w':=by
 obtain⟨hXb,hX,v0,hblk,hown⟩:=h
 obtain⟨c0,c1,c2,f0,f1,f2⟩:=cell3 hblk
 have hne:(er != 0)=true:=by simpa using her
 clear hblk hown
 go_enter Tryz.func243,Tryz.ntmps243
 go_wp2
 refine bodyPost_ret (results_none rfl _ _ _) rfl ?_
 exact⟨rfl,rfl⟩
def putTo(L:List Bool)(er:Int)(ok:Bool)(v k:Int):List Bool × Int:=if er≠0 then(L,er) else if ok then(L ++ bitsN v k.toNat,0) else(L,5)
def okPut(v k:Int):Bool:=decide (0<=k/\k<=57/\v<pw k.toNat)
def okSgn(v k:Int):Bool:=widB k && fitB v k
theorem lay_any(X:Nat->Prop)(b:Nat)(L:List Bool)(er v k:Int)(ok:Bool)(w:World)(hL:L.length<=4294967200)(h0:0<=v)(h1:v<=18446744073709551615)(hk:ok=true->0<=k/\k<=57)(h:WrAt w X b L er):
  Calls Tryz.prog 243 #[.pointer (some ⟨b,0,none⟩),.int .u64 v,.int .i64 k,.bool ok] w fun e w'=>e = .returned (.tuple #[])/\WrAt w' X b (putTo L er ok v k).1 (putTo L er ok v k).2/\Kept X w w':=by
 unfold putTo
 by_cases her:er=0
 ·subst her
  cases ok with
  | true=>simpa using lay_yes X b L v k w hL h0 h1 (hk rfl).1 (hk rfl).2 h
  | false=>simpa using lay_no X b L v k w h
 ·refine(lay_err X b L v k er ok w her h).mono ?_
  rintro e w' ⟨rfl,rfl⟩
  rw [if_pos her]
  exact⟨rfl,h,Kept.refl _ _⟩
theorem pw_div(v:Int)(n:Nat):v/2 ^ n=v/pw n:=rfl
theorem Put_any(X:Nat->Prop)(b:Nat)(L:List Bool)(er v k:Int)(w:World)(hL:L.length<=4294967200)(h0:0<=v)(h1:v<=18446744073709551615)(h:WrAt w X b L er):
  Calls Tryz.prog 204 #[.pointer (some ⟨b,0,none⟩),.int .u64 v,.int .i64 k] w fun e w'=>e = .returned (.tuple #[])/\WrAt w' X b (putTo L er (okPut v k) v k).1 (putTo L er (okPut v k) v k).2/\Kept X w w':=by
 by_cases hk:0<=k/\k<=57
 ·have hw:Hid (widB k=true):=by unfold Hid widB;simpa using hk
  have hp:=pw_pos k.toNat
  have hd:Hid (okPut v k=(v/2 ^ k.toNat == 0)):=by
   unfold Hid okPut
   rw [pw_div,Bool.eq_iff_iff,beq_iff_eq,decide_eq_true_eq]
   generalize pw k.toNat=q at *
   constructor
   ·rintro ⟨_,_,h⟩;exact Int.ediv_eq_zero_of_lt h0 h
   ·intro h
    refine⟨hk.1,hk.2,?_⟩
    have:=Int.lt_mul_ediv_self_add (x:=v) (k:=q) (by omega)
    rw [h] at this;omega
  have hmin:min k.toNat 64=k.toNat:=by omega
  have HL:=zH (lay_any X b L er v k (okPut v k) w hL h0 h1 (fun _=>hk) h)
  obtain⟨hk0,hk1⟩:=hk
  clear h
  rw [hd.out] at HL ⊢
  go_enter Tryz.func204,Tryz.ntmps204
  go_wp2_with fail
  refine(isWidth_any k w).mono ?_
  rintro e w' ⟨rfl,rfl⟩
  rw [hw.out]
  go_wp2_with fail
  refine HL.out.mono ?_
  rintro e w1 ⟨rfl,h1⟩
  have H1:=zH h1
  clear h1
  go_wp2
  go_end0
  exact⟨rfl,H1.out⟩
 ·have hw:Hid (widB k=false):=by unfold Hid widB;simpa using hk
  have hd:Hid (okPut v k=false):=by unfold Hid okPut;simp;omega
  have HL:=zH (lay_any X b L er v k false w hL h0 h1 (fun h=>by cases h) h)
  clear h
  rw [hd.out]
  go_enter Tryz.func204,Tryz.ntmps204
  go_wp2_with fail
  refine(isWidth_any k w).mono ?_
  rintro e w' ⟨rfl,rfl⟩
  rw [hw.out]
  go_wp2_with fail
  refine HL.out.mono ?_
  rintro e w1 ⟨rfl,h1⟩
  have H1:=zH h1
  clear h1
  go_wp2
  go_end0
  exact⟨rfl,H1.out⟩
theorem WSigned_any(X:Nat->Prop)(b:Nat)(L:List Bool)(er v k:Int)(w:World)(hL:L.length<=4294967200)(h:WrAt w X b L er):
  Calls Tryz.prog 205 #[.pointer (some ⟨b,0,none⟩),.int .i64 v,.int .i64 k] w fun e w'=>e = .returned (.tuple #[])/\WrAt w' X b (putTo L er (okSgn v k) (v%18446744073709551616) k).1 (putTo L er (okSgn v k) (v%18446744073709551616) k).2/\Kept X w w':=by
 have HL:=zH (lay_any X b L er (v%18446744073709551616) k (okSgn v k) w hL (by omega) (by omega) (fun h=>by simp only [okSgn,widB,Bool.and_eq_true,decide_eq_true_eq] at h;exact h.1) h)
 clear h
 cases hw:widB k with
 | true=>
  have hd:okSgn v k=fitB v k:=by simp [okSgn,hw]
  rw [hd] at HL ⊢
  have hw':=zH hw
  clear hw hd
  go_enter Tryz.func205,Tryz.ntmps205
  go_wp2_with fail
  refine(isWidth_any k w).mono ?_
  rintro e w' ⟨rfl,rfl⟩
  rw [hw'.out]
  go_wp2_with fail
  refine(Fits_any v k w).mono ?_
  rintro e w' ⟨rfl,rfl⟩
  go_wp2_with fail
  refine HL.out.mono ?_
  rintro e w1 ⟨rfl,h1⟩
  have H1:=zH h1
  clear h1
  go_wp2
  go_end0
  exact⟨rfl,H1.out⟩
 | false=>
  have hd:okSgn v k=false:=by simp [okSgn,hw]
  rw [hd] at HL ⊢
  have hw':=zH hw
  clear hw hd
  go_enter Tryz.func205,Tryz.ntmps205
  go_wp2_with fail
  refine(isWidth_any k w).mono ?_
  rintro e w' ⟨rfl,rfl⟩
  rw [hw'.out]
  go_wp2_with fail
  refine HL.out.mono ?_
  rintro e w1 ⟨rfl,h1⟩
  have H1:=zH h1
  clear h1
  go_wp2
  go_end0
  exact⟨rfl,H1.out⟩
theorem WrAt.fresh{w:World}{X:Nat->Prop}{b:Nat}(h:w.heap[b]?=some (.cells #[.slice none 0 0,.int .i64 0,.int .i64 0] 302 (0,0)))(hb:¬X b)(hX:∀k,X k->k<w.heap.size):WrAt w X b [] 0:=
 ⟨hb,hX,.slice none 0 0,h,by
  have:=ownX.nil (fun k=>X k\/k=b) w 5
  simpa [nb,bytesOf] using this⟩
end Go.Proofs.YtgefdmfcddpaiaaGreatDoor
