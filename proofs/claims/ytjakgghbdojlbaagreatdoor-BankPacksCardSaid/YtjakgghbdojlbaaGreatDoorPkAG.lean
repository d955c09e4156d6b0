/- Texts joined: Bytes, Read, End, PadL, PrefL. -/
import Derived.Laws.CopyOwn
import Derived.Deep.QuietTactic
import Derived.BigQuiet
import Derived.Laws.Shifts
import Derived.Deep.LoopGhost
import Derived.Test.YtjakgghbdojlbaaGreatDoorPkAF
namespace Go.Proofs.YtjakgghbdojlbaaGreatDoor
set_option linter.unusedVariables false
set_option maxRecDepth 100000
open Go.RowKit Go.ChangeShapes Go.WideShapes
def padded(L:List Bool)(n:Nat):List Int:=(List.range n).map (byteAt L)
theorem length_padded(L:List Bool)(n:Nat):(padded L n).length=n:=by simp [padded]
theorem splice_padded(L:List Bool)(n:Nat)(h:nb L<=n):splice (List.replicate n (Value.int .u8 0)) 0 ((bytesOf L).map (Value.int .u8))=(padded L n).map (Value.int .u8):=by
 apply List.ext_getElem?
 intro i
 simp only [splice,List.take_zero,List.nil_append,Nat.zero_add,List.length_map,length_bytesOf]
 by_cases hi:i<nb L
 ·rw [List.getElem?_append_left (by simpa [length_bytesOf] using hi),List.getElem?_map,List.getElem?_map,getElem?_bytesOf L i hi]
  simp [padded,show i<n by omega]
 ·rw [List.getElem?_append_right (by simp [length_bytesOf];omega),List.getElem?_map]
  simp only [List.length_map,length_bytesOf,List.getElem?_drop,padded,List.getElem?_map]
  by_cases hn:i<n
  ·have e:=byteAt_past L i (by simp only [nb] at hi;omega)
   simp [show nb L+(i-nb L)=i by omega,hn,e]
  ·simp [show nb L+(i-nb L)=i by omega,hn]
theorem src_cells{w:World}{X:Nat->Prop}{L:List Bool}{v:Value}(o:Obj)(hown:ownX X w 5 v (nb L) ((bytesOf L).map (Value.int .u8))):
  ∃sp sc,v = .slice sp (nb L) sc/\(0<nb L->∃ad,sp=some ad/\∀j u,((bytesOf L).map (Value.int .u8))[j]?=some u->(w.alloc o).cell? (ad.add j)=some u):=by
 rcases(hown.old (Old.alloc w o)).shape with ⟨hv,h0⟩ | ⟨g,cap,rfl,_,_,_,_,hc⟩
 ·exact⟨none,0,by rw [hv,h0],fun h=>by omega⟩
 ·exact⟨some ⟨g,0,none⟩,cap,rfl,fun _=>⟨_,rfl,fun j u hj=>by rw [add_plain,Nat.zero_add];exact hc j u hj⟩⟩
def bytesErr(L:List Bool)(er size:Int):Int:=if er≠0 then er else if size<0\/2147483647<size then 1 else if size<nb L then 3 else 0
set_option maxHeartbeats 400000 in
theorem Bytes_err(X:Nat->Prop)(b:Nat)(L:List Bool)(er size:Int)(w:World)(h:WrAt w X b L er)(he:bytesErr L er size≠0):
  Calls Tryz.prog 146 #[.pointer (some ⟨b,0,none⟩),.int .i64 size] w fun e w'=>e = .returned (.tuple #[.slice none 0 0,.int .i64 (bytesErr L er size)])/\w'.Alike w:=by
 obtain⟨hXb,hX,v0,hblk,hown⟩:=h
 obtain⟨sp,sc,rfl,_⟩:=src_cells (.cells #[] 0) hown
 obtain⟨c0,c1,c2,f0,f1,f2⟩:=cell3 hblk
 clear hblk hown hX
 unfold bytesErr at he ⊢
 by_cases her:er=0
 ·subst her
  simp only [ne_eq,not_true_eq_false,if_false] at he ⊢
  by_cases hs:size<0\/2147483647<size
  ·rw [if_pos hs]
   clear he
   rcases hs with hs | hs
   ·go_enter Tryz.func146,Tryz.ntmps146
    go_wp2
    go_ret2
    exact⟨rfl,rfl,rfl,rfl⟩
   ·go_enter Tryz.func146,Tryz.ntmps146
    go_wp2
    go_ret2
    exact⟨rfl,rfl,rfl,rfl⟩
  ·rw [if_neg hs] at he ⊢
   have hlt:size<nb L:=by
    by_cases h:size<nb L
    ·exact h
    ·rw [if_neg h] at he;exact absurd rfl he
   rw [if_pos hlt]
   clear he
   have h1:0<=size:=by omega
   have h2:size<=2147483647:=by omega
   go_enter Tryz.func146,Tryz.ntmps146
   go_wp2
   go_ret2
   exact⟨rfl,rfl,rfl,rfl⟩
 ·have hne:(er != 0)=true:=by simpa using her
  rw [if_pos her]
  clear he
  go_enter Tryz.func146,Tryz.ntmps146
  go_wp2
  go_region
  go_wp2
  go_ret2
  exact⟨rfl,rfl,rfl,rfl⟩
theorem Tryz.size5:(Tryz.prog.info? 5).map (·.size)=some 1:=by kernel_rfl
theorem bytes_oneCell(l:List Int):∀v∈l.map (Value.int .u8),v.oneCell'=true:=by
 intro v hv
 obtain⟨x,_,rfl⟩:=List.mem_map.1 hv
 rfl
set_option maxHeartbeats 400000 in
theorem Bytes_ok(X:Nat->Prop)(b:Nat)(L:List Bool)(n:Nat)(w:World)(h:WrAt w X b L 0)(hn:n<=2147483647)(hL:nb L<=n):
  Calls Tryz.prog 146 #[.pointer (some ⟨b,0,none⟩),.int .i64 n] w fun e w'=>e = .returned (.tuple #[.slice (some ⟨w.heap.size,0,none⟩) n n,.int .i64 0]) /\
   w'.heap[w.heap.size]?=some (.cells ((padded L n).map (Value.int .u8)).toArray 5 (0,0))/\Below w.heap.size w w':=by
 obtain⟨hXb,hX,v0,hblk,hown⟩:=h
 obtain⟨sp,sc,rfl,hsrc⟩:=src_cells (.cells (madeCells #[Value.int .u8 0] n) 5) hown
 obtain⟨c0,c1,c2,f0,f1,f2⟩:=cell3 hblk
 have hmk:=fun W=>run_make_row' (P:=Tryz.prog) 24 5 (.int .u8 0) 1 Tryz.underlying24 Tryz.info5 rfl .i64 .i64 n (by omega) (by omega) W
 have hnew:Hid ((w.alloc (.cells (madeCells #[Value.int .u8 0] n) 5)).heap[w.heap.size]?=some (.cells (List.replicate n (Value.int .u8 0)).toArray 5 (0,0))):=by
  unfold Hid
  rw [←toList_madeCells_one]
  exact heap_alloc_new _ _
 have hblt:b<w.heap.size:=lt_of_block hblk
 have hq2:Hid (((bytesOf L).map (Value.int .u8)).length=Nat.min (nb L) n):=by unfold Hid;rw [List.length_map,length_bytesOf];exact(Nat.min_eq_left hL).symm
 have hq3:Hid (0<((bytesOf L).map (Value.int .u8)).length->some (⟨w.heap.size,0,none⟩:Addr)=some ⟨w.heap.size,0,none⟩/\∃ad,sp=some ad/\∀j u,((bytesOf L).map (Value.int .u8))[j]?=some u->(w.alloc (.cells (madeCells #[Value.int .u8 0] n) 5)).cell? (ad.add j)=some u):=
  fun h=>⟨rfl,hsrc (by simpa [length_bytesOf] using h)⟩
 have hq4:Hid (0+((bytesOf L).map (Value.int .u8)).length<=(List.replicate n (Value.int .u8 0)).length):=by unfold Hid;simp [length_bytesOf];omega
 have hq6:Hid (Below w.heap.size w (w.alloc (.cells (madeCells #[Value.int .u8 0] n) 5))):=(Below.refl _ _).alloc (Nat.le_refl _) _
 clear hblk hown hsrc hX
 go_enter Tryz.func146,Tryz.ntmps146
 go_wp2_with (with_reducible refine wpList_copy_splice rfl _ _ 24 24 rfl 5 Tryz.underlying24 Tryz.size5 _ _ _ _ _ _ rfl rfl w.heap.size 0 _ 5 hnew.out ((bytesOf L).map (Value.int .u8)) hq2.out hq3.out hq4.out (bytes_oneCell _) w.heap.size w hq6.out (Nat.le_refl _) ?_;intro w1 h1 hb1)
 go_ret2
 rw [splice_padded L n hL] at h1
 exact⟨rfl,h1.out,hb1⟩
def bitAt(bs:List Int)(i:Nat):Bool:=bs.getD (i/8) 0/2 ^ (7-i%8)%2 == 1
def bitsOf(bs:List Int):List Bool:=(List.range (8*bs.length)).map (bitAt bs)
theorem length_bitsOf(bs:List Int):(bitsOf bs).length=8*bs.length:=by simp [bitsOf]
theorem bitsOf_get(bs:List Int)(i:Nat)(h:i<8*bs.length):(bitsOf bs)[i]?=some (bitAt bs i):=by simp [bitsOf,h]
def isBytes(bs:List Int):Prop:=∀x∈bs,0<=x/\x<=255
def DataB(w:World)(v:Value)(b:Nat):Prop:=∀q,v.ownBlock=some q->q≠b/\∃cs,w.heap[q]?=some (.cells cs 5 (0,0))
theorem DataB.kept{w w':World}{X:Nat->Prop}{v:Value}{b:Nat}(h:DataB w v b)(k:Kept X w w')(hX:∀q,v.ownBlock=some q->q<w.heap.size->X q):DataB w' v b:=fun q hq=>by
 obtain⟨h1,cs,h2⟩:=h q hq
 exact⟨h1,cs,(k.block q (hX q hq (lt_of_block h2))).trans h2⟩
def RdAt(w:World)(b:Nat)(bs:List Int)(at_:Nat)(er:Int):Prop:=
 ∃v,w.heap[b]?=some (.cells #[v,.int .i64 (at_:Int),.int .i64 er] 303 (0,0))/\SlI w .u8 v bs/\DataB w v b/\isBytes bs/\bs.length<=4294967296/\at_<=8*bs.length
theorem SlI.kept{w w':World}{X:Nat->Prop}{k:IntKind}{v:Value}{xs:List Int}(h:SlI w k v xs)(ho:Kept X w w')(hX:∀q,v.ownBlock=some q->q<w.heap.size->X q):SlI w' k v xs:=by
 obtain⟨p,cap,rfl,h⟩:=h
 refine⟨p,cap,rfl,fun hne=>?_⟩
 obtain⟨b,off,rfl,hb,hl,hm,hc⟩:=h hne
 exact⟨b,off,rfl,Nat.lt_of_lt_of_le hb ho.size,hl,hm,fun i hi=>(ho.cell (a:=⟨b,off+i,none⟩) (hX b rfl hb)).trans (hc i hi)⟩
theorem RdAt.kept{w w':World}{X:Nat->Prop}{b:Nat}{bs:List Int}{at_:Nat}{er:Int}(h:RdAt w b bs at_ er)(k:Kept X w w')(hX:∀q,q<w.heap.size->X q):RdAt w' b bs at_ er:=by
 obtain⟨v,hb,hs,hne,hr⟩:=h
 exact⟨v,(k.block b (hX b (lt_of_block hb))).trans hb,hs.kept k (fun q _ hq=>hX q hq),hne.kept k (fun q _ hq=>hX q hq),hr⟩
theorem RdAt.old{w w':World}{b:Nat}{bs:List Int}{at_:Nat}{er:Int}(h:RdAt w b bs at_ er)(k:Old w w'):RdAt w' b bs at_ er:=h.kept k fun _ hq=>hq
theorem RdAt.but{w w':World}{b q0:Nat}{bs:List Int}{at_:Nat}{er:Int}{cs:Array Value}{t:TypeId}{fr:Nat × Nat}(h:RdAt w b bs at_ er)(k:Kept (butOf w q0) w w')(h0:w.heap[q0]?=some (.cells cs t fr))(h1:t≠5)(h2:t≠303):RdAt w' b bs at_ er:=by
 obtain⟨v,hb,hs,hne,hr⟩:=h
 have hbq:b≠q0:=fun e=>by
  subst e;rw [h0] at hb
  simp only [Option.some.injEq,Obj.cells.injEq] at hb
  exact h2 hb.2.1
 have hdq:∀q,v.ownBlock=some q->q≠q0:=fun q hq e=>by
  subst e
  obtain⟨_,cs',hcs⟩:=hne q hq
  rw [h0] at hcs
  simp only [Option.some.injEq,Obj.cells.injEq] at hcs
  exact h1 hcs.2.1
 exact⟨v,(k.block b ⟨lt_of_block hb,hbq⟩).trans hb,hs.kept k (fun q hq hlt=>⟨hlt,hdq q hq⟩),hne.kept k (fun q hq hlt=>⟨hlt,hdq q hq⟩),hr⟩
theorem RdAt.ne{w:World}{b q0:Nat}{bs:List Int}{at_:Nat}{er:Int}{cs:Array Value}{t:TypeId}{fr:Nat × Nat}(h:RdAt w b bs at_ er)(h0:w.heap[q0]?=some (.cells cs t fr))(h2:t≠303):q0≠b:=fun e=>by
 obtain⟨v,hb,_⟩:=h
 subst e;rw [h0] at hb
 simp only [Option.some.injEq,Obj.cells.injEq] at hb
 exact h2 hb.2.1
def restF(bs:List Int)(i:Nat):Bool:=((bitsOf bs).drop i).all (· == false)
def validI(s:Bool)(v k:Int):Bool:=decide (0<=k/\k<=57) && (if s then fitB v k else decide (0<=v/\v<pw k.toNat))
def bitsI(v k:Int):List Bool:=bitsN (if v<0 then v+pw k.toNat else v) k.toNat
def putI(L:List Bool)(er:Int)(s:Bool)(v k:Int):List Bool × Int:=if er≠0 then(L,er) else if validI s v k then(L ++ bitsI v k,0) else(L,5)
theorem bit_shift(a c:Int)(m:Nat):(a+pw m*(2*c))/pw m%2=a/pw m%2:=by
 rw [Int.add_mul_ediv_left _ _ (by have:=pw_pos m;omega)]
 omega
theorem pw_add(m n:Nat):pw (m+n)=pw m*pw n:=by unfold pw;rw [Int.pow_add]
theorem bits_wrap(v:Int)(k:Nat)(hk:k<=57):bitsN (v+18446744073709551616) k=bitsN (v+pw k) k:=by
 unfold bitsN
 apply List.map_congr_left
 intro i hi
 rw [List.mem_range] at hi
 have h64:(18446744073709551616:Int)=pw (k-1-i)*(2*pw (63-(k-1-i))):=by
  rw [show (18446744073709551616:Int)=pw 64 from rfl,←pw_succ,←pw_add];congr 1;omega
 have hkk:pw k=pw (k-1-i)*(2*pw i):=by
  rw [←pw_succ,←pw_add];congr 1;omega
 rw [h64,hkk]
 show ((v+pw (k-1-i)*(2*pw (63-(k-1-i))))/pw (k-1-i)%2 == 1)=((v+pw (k-1-i)*(2*pw i))/pw (k-1-i)%2 == 1)
 rw [bit_shift,bit_shift]
theorem putI_signed(L:List Bool)(er v k:Int)(h0:-9223372036854775808<=v)(h1:v<=9223372036854775807):putTo L er (okSgn v k) (v%18446744073709551616) k=putI L er true v k:=by
 unfold putTo putI
 by_cases her:er≠0
 ·rw [if_pos her,if_pos her]
 ·rw [if_neg her,if_neg her]
  have hv:validI true v k=okSgn v k:=by simp [validI,okSgn,widB]
  rw [hv]
  by_cases hok:okSgn v k=true
  ·rw [if_pos hok,if_pos hok]
   simp only [okSgn,widB,Bool.and_eq_true,decide_eq_true_eq] at hok
   congr 2
   unfold bitsI
   by_cases hn:v<0
   ·rw [if_pos hn,←bits_wrap v k.toNat (by omega)]
    congr 1;omega
   ·rw [if_neg hn];congr 1;omega
  ·rw [if_neg hok,if_neg hok]
theorem putI_plain(L:List Bool)(er v k:Int)(h0:-9223372036854775808<=v)(h1:v<=9223372036854775807):putTo L er (okPut (v%18446744073709551616) k) (v%18446744073709551616) k=putI L er false v k:=by
 unfold putTo putI
 by_cases her:er≠0
 ·rw [if_pos her,if_pos her]
 ·rw [if_neg her,if_neg her]
  have hv:validI false v k=okPut (v%18446744073709551616) k:=by
   rw [Bool.eq_iff_iff]
   simp only [validI,okPut,Bool.and_eq_true,decide_eq_true_eq,Bool.false_eq_true,if_false]
   constructor
   ·rintro ⟨⟨a,b⟩,c,d⟩
    have e:v%18446744073709551616=v:=by omega
    rw [e];exact⟨a,b,d⟩
   ·rintro ⟨a,b,c⟩
    have hp:=pw_le k.toNat (by omega)
    have e:v%18446744073709551616=v:=by omega
    rw [e] at c
    exact⟨⟨a,b⟩,by omega,c⟩
  rw [hv]
  by_cases hok:okPut (v%18446744073709551616) k=true
  ·rw [if_pos hok,if_pos hok]
   simp only [okPut,decide_eq_true_eq] at hok
   have hp:=pw_le k.toNat (by omega)
   have e:v%18446744073709551616=v:=by omega
   rw [e]
   unfold bitsI
   rw [if_neg (by omega)]
  ·rw [if_neg hok,if_neg hok]
theorem byte_bit_at(L:List Bool)(i:Nat):(byteAt L (i/8)/2 ^ (7-i%8)%2 == 1)=L.getD i false:=by
 have key:byteAt L (i/8)/2 ^ (7-i%8)%2=bi (L.getD i false):=by
  generalize hq:i/8=q
  unfold byteAt
  have h0:=bi_01 (L.getD (8*q) false);have h1:=bi_01 (L.getD (8*q+1) false);have h2:=bi_01 (L.getD (8*q+2) false);have h3:=bi_01 (L.getD (8*q+3) false)
  have h4:=bi_01 (L.getD (8*q+4) false);have h5:=bi_01 (L.getD (8*q+5) false);have h6:=bi_01 (L.getD (8*q+6) false);have h7:=bi_01 (L.getD (8*q+7) false)
  rcases eight i with h | h | h | h | h | h | h | h <;> rw [h]
  ·rw [show i=8*q by omega];omega
  ·rw [show i=8*q+1 by omega];omega
  ·rw [show i=8*q+2 by omega];omega
  ·rw [show i=8*q+3 by omega];omega
  ·rw [show i=8*q+4 by omega];omega
  ·rw [show i=8*q+5 by omega];omega
  ·rw [show i=8*q+6 by omega];omega
  ·rw [show i=8*q+7 by omega];omega
 rw [key]
 cases L.getD i false <;> rfl
theorem bitsOf_padded(L:List Bool)(n:Nat)(h:L.length<=8*n):bitsOf (padded L n)=L ++ List.replicate (8*n-L.length) false:=by
 apply List.ext_getElem?
 intro i
 by_cases hi:i<8*n
 ·rw [bitsOf_get _ _ (by rw [length_padded];exact hi)]
  have hb:bitAt (padded L n) i=L.getD i false:=by
   unfold bitAt
   have e:(padded L n).getD (i/8) 0=byteAt L (i/8):=by
    have hlt:i/8<n:=by omega
    simp [padded,List.getD,hlt]
   rw [e]
   exact byte_bit_at L i
  rw [hb]
  by_cases hl:i<L.length
  ·rw [List.getElem?_append_left hl,List.getElem?_eq_getElem hl];simp [List.getD,hl]
  ·rw [List.getElem?_append_right (by omega),getD_end L i (by omega),List.getElem?_replicate,if_pos (by omega)]
 ·rw [List.getElem?_eq_none (by rw [length_bitsOf,length_padded];omega),List.getElem?_eq_none (by simp;omega)]
theorem rest_padded(L:List Bool)(n:Nat)(h:L.length<=8*n):restF (padded L n) L.length=true:=by
 unfold restF
 rw [bitsOf_padded _ _ h,List.drop_left]
 simp
theorem len_bitsI(v k:Int):(bitsI v k).length=k.toNat:=by unfold bitsI;rw [length_bitsN]
theorem isBytes_padded(L:List Bool)(n:Nat):isBytes (padded L n):=by
 intro x hx
 obtain⟨i,_,rfl⟩:=List.mem_map.1 hx
 exact byteAt_range L i
def Tells(bs:List Int)(L:List Bool):Prop:=L <+: bitsOf bs/\restF bs L.length=true
theorem tells_padded(L:List Bool)(n:Nat)(h:L.length<=8*n):Tells (padded L n) L:=
 ⟨by rw [bitsOf_padded L n h];exact List.prefix_append _ _,rest_padded L n h⟩
end Go.Proofs.YtjakgghbdojlbaaGreatDoor
