/- Texts joined: Bytes, Read, End, PadL, PrefL. -/
import Derived.Laws.CopyOwn
import Derived.Deep.QuietTactic
import Derived.BigQuiet
import Derived.Laws.Shifts
import Derived.Deep.LoopGhost
import Derived.Test.YtgefdmfcddpaiaaGreatDoorPkAF
import Derived.Test.YtgefdmfcddpaiaaGreatDoorTk
namespace Go.Proofs.YtgefdmfcddpaiaaGreatDoor
set_option linter.unusedVariables false
set_option maxRecDepth 100000
open Go.RowKit Go.ChangeShapes Go.WideShapes
def padded(L:List Bool)(n:Nat):List Int:=(List.range n).map (byteAt L)
theorem length_padded(L:List Bool)(n:Nat):(padded L n).length=n:=by simp [padded]
theorem splice_padded(L:List Bool)(n:Nat)(h:nb L<=n):splice (List.replicate n (Value.int .u8 0)) 0 ((bytesOf L).map (Value.int .u8))=(padded L n).map (Value.int .u8):=by
 apply List.ext_getElem?
 intro i
 simp only [splice,List.take_zero,List.nil_append,Nat.zero_add,List.length_map,length_bytesOf]
 by_cases hi:i<nb L
 ·rw [List.getElem?_append_left (by simpa [length_bytesOf] using hi),List.getElem?_map,List.getElem?_map,getElem?_bytesOf L i hi]
  simp [padded,show i<n by omega]
 ·rw [List.getElem?_append_right (by simp [length_bytesOf];omega),List.getElem?_map]
  simp only [List.length_map,length_bytesOf,List.getElem?_drop,padded,List.getElem?_map]
  by_cases hn:i<n
  ·have e:=byteAt_past L i (by simp only [nb] at hi;omega)
   simp [show nb L+(i-nb L)=i by omega,hn,e]
  ·simp [show nb L+(i-nb L)=i by omega,hn]
theorem src_cells{w:World}{X:Nat->Prop}{L:List Bool}{v:Value}(o:Obj)(hown:ownX X w 5 v (nb L) ((bytesOf L).map (Value.int .u8))):
  ∃sp sc,v = .slice sp (nb L) sc/\(0<nb L->∃ad,sp=some ad/\∀j u,((bytesOf L).map (Value.int .u8))[j]?=some u->(w.alloc o).cell? (ad.add j)=some u):=by
 rcases(hown.old (Old.alloc w o)).shape with ⟨hv,h0⟩ | ⟨g,cap,rfl,_,_,_,_,hc⟩
 ·exact⟨none,0,by rw [hv,h0],fun h=>by omega⟩
 ·exact⟨some ⟨g,0,none⟩,cap,rfl,fun _=>⟨_,rfl,fun j u hj=>by rw [add_plain,Nat.zero_add];exact hc j u hj⟩⟩
def bytesErr(L:List Bool)(er size:Int):Int:=if er≠0 then er else if size<0\/2147483647<size then 1 else if size<nb L then 3 else 0
set_option maxHeartbeats 400000 in
theorem Bytes_err(X:Nat->Prop)(b:Nat)(L:List Bool)(er size:Int)(w:World)(h:WrAt w X b L er)(he:bytesErr L er size≠0):
  Calls Tryz.prog 206 #[.pointer (some ⟨b,0,none⟩),.int .i64 size] w fun e w'=>e = .returned (.tuple #[.slice none 0 0,.int .i64 (bytesErr L er size)])/\w'.Alike w:=by
 obtain⟨hXb,hX,v0,hblk,hown⟩:=h
 obtain⟨sp,sc,rfl,_⟩:=src_cells (.cells #[] 0) hown
 obtain⟨c0,c1,c2,f0,f1,f2⟩:=cell3 hblk
 clear hblk hown hX
 unfold bytesErr at he ⊢
 by_cases her:er=0
 ·subst her
  simp only [ne_eq,not_true_eq_false,if_false] at he ⊢
  by_cases hs:size<0\/2147483647<size
  ·rw [if_pos hs]
   clear he
   rcases hs with hs | hs
   ·go_enter Tryz.func206,Tryz.ntmps206
    go_wp2
    go_ret2
    exact⟨rfl,rfl,rfl,rfl⟩
   ·go_enter Tryz.func206,Tryz.ntmps206
    go_wp2
    go_ret2
    exact⟨rfl,rfl,rfl,rfl⟩
  ·rw [if_neg hs] at he ⊢
   have hlt:size<nb L:=by
    by_cases h:size<nb L
    ·exact h
    ·rw [if_neg h] at he;exact absurd rfl he
   rw [if_pos hlt]
   clear he
   have h1:0<=size:=by omega
   have h2:size<=2147483647:=by omega
   go_enter Tryz.func206,Tryz.ntmps206
   go_wp2
   go_ret2
   exact⟨rfl,rfl,rfl,rfl⟩
 ·have hne:(er != 0)=true:=by simpa using her
  rw [if_pos her]
  clear he
  go_enter Tryz.func206,Tryz.ntmps206
  go_wp2
  go_region
  go_wp2
  go_ret2
  exact⟨rfl,rfl,rfl,rfl⟩
theorem Tryz.size5:(Tryz.prog.info? 5).map (·.size)=some 1:=by kernel_rfl
theorem bytes_oneCell(l:List Int):∀v∈l.map (Value.int .u8),v.oneCell'=true:=by
 intro v hv
 obtain⟨x,_,rfl⟩:=List.mem_map.1 hv
 rfl
set_option maxHeartbeats 400000 in
theorem Bytes_ok(X:Nat->Prop)(b:Nat)(L:List Bool)(n:Nat)(w:World)(h:WrAt w X b L 0)(hn:n<=2147483647)(hL:nb L<=n):
  Calls Tryz.prog 206 #[.pointer (some ⟨b,0,none⟩),.int .i64 n] w fun e w'=>e = .returned (.tuple #[.slice (some ⟨w.heap.size,0,none⟩) n n,.int .i64 0]) /\
   w'.heap[w.heap.size]?=some (.cells ((padded L n).map (Value.int .u8)).toArray 5 (0,0))/\Below w.heap.size w w':=by
 obtain⟨hXb,hX,v0,hblk,hown⟩:=h
 obtain⟨sp,sc,rfl,hsrc⟩:=src_cells (.cells (madeCells #[Value.int .u8 0] n) 5) hown
 obtain⟨c0,c1,c2,f0,f1,f2⟩:=cell3 hblk
 have hmk:=fun W=>run_make_row' (P:=Tryz.prog) 34 5 (.int .u8 0) 1 Tryz.underlying34 Tryz.info5 rfl .i64 .i64 n (by omega) (by omega) W
 have hnew:Hid ((w.alloc (.cells (madeCells #[Value.int .u8 0] n) 5)).heap[w.heap.size]?=some (.cells (List.replicate n (Value.int .u8 0)).toArray 5 (0,0))):=by
  unfold Hid
  rw [←toList_madeCells_one]
  exact heap_alloc_new _ _
 have hblt:b<w.heap.size:=lt_of_block hblk
 have hq2:Hid (((bytesOf L).map (Value.int .u8)).length=Nat.min (nb L) n):=by unfold Hid;rw [List.length_map,length_bytesOf];exact(Nat.min_eq_left hL).symm
 have hq3:Hid (0<((bytesOf L).map (Value.int .u8)).length->some (⟨w.heap.size,0,none⟩:Addr)=some ⟨w.heap.size,0,none⟩/\∃ad,sp=some ad/\∀j u,((bytesOf L).map (Value.int .u8))[j]?=some u->(w.alloc (.cells (madeCells #[Value.int .u8 0] n) 5)).cell? (ad.add j)=some u):=
  fun h=>⟨rfl,hsrc (by simpa [length_bytesOf] using h)⟩
 have hq4:Hid (0+((bytesOf L).map (Value.int .u8)).length<=(List.replicate n (Value.int .u8 0)).length):=by unfold Hid;simp [length_bytesOf];omega
 have hq6:Hid (Below w.heap.size w (w.alloc (.cells (madeCells #[Value.int .u8 0] n) 5))):=(Below.refl _ _).alloc (Nat.le_refl _) _
 clear hblk hown hsrc hX
 go_enter Tryz.func206,Tryz.ntmps206
 go_wp2_with (with_reducible refine wpList_copy_splice rfl _ _ 34 34 rfl 5 Tryz.underlying34 Tryz.size5 _ _ _ _ _ _ rfl rfl w.heap.size 0 _ 5 hnew.out ((bytesOf L).map (Value.int .u8)) hq2.out hq3.out hq4.out (bytes_oneCell _) w.heap.size w hq6.out (Nat.le_refl _) ?_;intro w1 h1 hb1)
 go_ret2
 rw [splice_padded L n hL] at h1
 exact⟨rfl,h1.out,hb1⟩
def bitAt(bs:List Int)(i:Nat):Bool:=bs.getD (i/8) 0/2 ^ (7-i%8)%2 == 1
def bitsOf(bs:List Int):List Bool:=(List.range (8*bs.length)).map (bitAt bs)
theorem length_bitsOf(bs:List Int):(bitsOf bs).length=8*bs.length:=by simp [bitsOf]
theorem bitsOf_get(bs:List Int)(i:Nat)(h:i<8*bs.length):(bitsOf bs)[i]?=some (bitAt bs i):=by simp [bitsOf,h]
def isBytes(bs:List Int):Prop:=∀x∈bs,0<=x/\x<=255
def DataB(w:World)(v:Value)(b:Nat):Prop:=∀q,v.ownBlock=some q->q≠b/\∃cs,w.heap[q]?=some (.cells cs 5 (0,0))
theorem DataB.kept{w w':World}{X:Nat->Prop}{v:Value}{b:Nat}(h:DataB w v b)(k:Kept X w w')(hX:∀q,v.ownBlock=some q->q<w.heap.size->X q):DataB w' v b:=fun q hq=>by
 obtain⟨h1,cs,h2⟩:=h q hq
 exact⟨h1,cs,(k.block q (hX q hq (lt_of_block h2))).trans h2⟩
def RdAt(w:World)(b:Nat)(bs:List Int)(at_:Nat)(er:Int):Prop:=
 ∃v,w.heap[b]?=some (.cells #[v,.int .i64 (at_:Int),.int .i64 er] 318 (0,0))/\SlI w .u8 v bs/\DataB w v b/\isBytes bs/\bs.length<=4294967296/\at_<=8*bs.length
theorem SlI.kept{w w':World}{X:Nat->Prop}{k:IntKind}{v:Value}{xs:List Int}(h:SlI w k v xs)(ho:Kept X w w')(hX:∀q,v.ownBlock=some q->q<w.heap.size->X q):SlI w' k v xs:=by
 obtain⟨p,cap,rfl,h⟩:=h
 refine⟨p,cap,rfl,fun hne=>?_⟩
 obtain⟨b,off,rfl,hb,hl,hm,hc⟩:=h hne
 exact⟨b,off,rfl,Nat.lt_of_lt_of_le hb ho.size,hl,hm,fun i hi=>(ho.cell (a:=⟨b,off+i,none⟩) (hX b rfl hb)).trans (hc i hi)⟩
theorem RdAt.kept{w w':World}{X:Nat->Prop}{b:Nat}{bs:List Int}{at_:Nat}{er:Int}(h:RdAt w b bs at_ er)(k:Kept X w w')(hX:∀q,q<w.heap.size->X q):RdAt w' b bs at_ er:=by
 obtain⟨v,hb,hs,hne,hr⟩:=h
 exact⟨v,(k.block b (hX b (lt_of_block hb))).trans hb,hs.kept k (fun q _ hq=>hX q hq),hne.kept k (fun q _ hq=>hX q hq),hr⟩
theorem RdAt.old{w w':World}{b:Nat}{bs:List Int}{at_:Nat}{er:Int}(h:RdAt w b bs at_ er)(k:Old w w'):RdAt w' b bs at_ er:=h.kept k fun _ hq=>hq
theorem RdAt.set1{w:World}{b:Nat}{bs:List Int}{at_ n:Nat}{er:Int}(h:RdAt w b bs at_ er)(hn:n<=8*bs.length):RdAt (w.setCell ⟨b,1,none⟩ (.int .i64 (n:Int))) b bs n er/\Kept (butOf w b) w (w.setCell ⟨b,1,none⟩ (.int .i64 (n:Int))):=by
 obtain⟨v,hb,hs,hne,hi,hl,_⟩:=h
 have hk:Kept (butOf w b) w (w.setCell ⟨b,1,none⟩ (.int .i64 (n:Int))):=Kept.setCell _ (a:=⟨b,1,none⟩) (fun h=>h.2 rfl) _
 exact⟨⟨v,heap_setCell_at (o:=1) (u:=.int .i64 (n:Int)) hb,hs.kept hk (fun q hq hlt=>⟨hlt,(hne q hq).1⟩),hne.kept hk (fun q hq hlt=>⟨hlt,(hne q hq).1⟩),hi,hl,hn⟩,hk⟩
theorem RdAt.set2{w:World}{b:Nat}{bs:List Int}{at_:Nat}{er e:Int}(h:RdAt w b bs at_ er):RdAt (w.setCell ⟨b,2,none⟩ (.int .i64 e)) b bs at_ e/\Kept (butOf w b) w (w.setCell ⟨b,2,none⟩ (.int .i64 e)):=by
 obtain⟨v,hb,hs,hne,hr⟩:=h
 have hk:Kept (butOf w b) w (w.setCell ⟨b,2,none⟩ (.int .i64 e)):=Kept.setCell _ (a:=⟨b,2,none⟩) (fun h=>h.2 rfl) _
 exact⟨⟨v,heap_setCell_at (o:=2) (u:=.int .i64 e) hb,hs.kept hk (fun q hq hlt=>⟨hlt,(hne q hq).1⟩),hne.kept hk (fun q hq hlt=>⟨hlt,(hne q hq).1⟩),hr⟩,hk⟩
theorem RdAt.but{w w':World}{b q0:Nat}{bs:List Int}{at_:Nat}{er:Int}{cs:Array Value}{t:TypeId}{fr:Nat × Nat}(h:RdAt w b bs at_ er)(k:Kept (butOf w q0) w w')(h0:w.heap[q0]?=some (.cells cs t fr))(h1:t≠5)(h2:t≠318):RdAt w' b bs at_ er:=by
 obtain⟨v,hb,hs,hne,hr⟩:=h
 have hbq:b≠q0:=fun e=>by
  subst e;rw [h0] at hb
  simp only [Option.some.injEq,Obj.cells.injEq] at hb
  exact h2 hb.2.1
 have hdq:∀q,v.ownBlock=some q->q≠q0:=fun q hq e=>by
  subst e
  obtain⟨_,cs',hcs⟩:=hne q hq
  rw [h0] at hcs
  simp only [Option.some.injEq,Obj.cells.injEq] at hcs
  exact h1 hcs.2.1
 exact⟨v,(k.block b ⟨lt_of_block hb,hbq⟩).trans hb,hs.kept k (fun q hq hlt=>⟨hlt,hdq q hq⟩),hne.kept k (fun q hq hlt=>⟨hlt,hdq q hq⟩),hr⟩
theorem RdAt.ne{w:World}{b q0:Nat}{bs:List Int}{at_:Nat}{er:Int}{cs:Array Value}{t:TypeId}{fr:Nat × Nat}(h:RdAt w b bs at_ er)(h0:w.heap[q0]?=some (.cells cs t fr))(h2:t≠318):q0≠b:=fun e=>by
 obtain⟨v,hb,_⟩:=h
 subst e;rw [h0] at hb
 simp only [Option.some.injEq,Obj.cells.injEq] at hb
 exact h2 hb.2.1
theorem u8_and_one(a:Int)(h0:0<=a)(h1:a<=255):bits .and .u8 a 1=a%2:=by
 obtain⟨n,rfl⟩:=Int.eq_ofNat_of_zero_le h0
 have ea:(BitVec.ofInt 8 (n:Int)).toNat=n:=by rw [BitVec.ofInt_natCast,BitVec.toNat_ofNat];exact Nat.mod_eq_of_lt (by omega)
 have eb:(BitVec.ofInt 8 1).toNat=1:=rfl
 show IntKind.u8.wrap ((BitVec.ofInt 8 (n:Int) &&& BitVec.ofInt 8 1).toNat:Int)=_
 rw [BitVec.toNat_and,ea,eb,Nat.and_one_is_mod,IntKind.wrap_u8]
 omega
theorem byte_bit(y:Int)(n:Nat)(h0:0<=y)(h1:y<=255):bits .and .u8 (y/2 ^ n) 1=bi (y/2 ^ n%2 == 1):=by
 have hp:(0:Int)<2 ^ n:=Int.pow_pos (by omega)
 have a0:0<=y/2 ^ n:=Int.ediv_nonneg h0 (by omega)
 have a1:y/2 ^ n<=y:=Int.ediv_le_self _ h0
 rw [u8_and_one _ a0 (by omega),bi_mod]
theorem bit_any(b:Nat)(bs:List Int)(at_:Nat)(er:Int)(i:Nat)(w:World)(hi:i<8*bs.length)(h:RdAt w b bs at_ er):
  Calls Tryz.prog 250 #[.pointer (some ⟨b,0,none⟩),.int .i64 i] w fun e w'=>e = .returned (.int .u8 (bi (bitAt bs i)))/\w=w':=by
 obtain⟨v,hb,hs,hne,hbt,hl,_⟩:=h
 obtain⟨c0,c1,c2,f0,f1,f2⟩:=cell3 hb
 obtain⟨p,cap,rfl,hc⟩:=hs
 have hlen:i/8<bs.length:=by omega
 obtain⟨g,off,rfl,_,hlc,hcm,hcell⟩:=hc (by intro e;rw [e] at hlen;simp at hlen)
 have hc0:=hcell (i/8) hlen
 have hr:0<=bs.getD (i/8) 0/\bs.getD (i/8) 0<=255:=hbt _ (by simp only [List.getD,List.getElem?_eq_getElem hlen,Option.getD_some];exact List.getElem_mem hlen)
 have hfin:=zH (byte_bit (bs.getD (i/8) 0) (7-i%8) hr.1 hr.2)
 unfold bitAt
 clear hcell hc hb hbt hne
 generalize bs.getD (i/8) 0=y at *
 obtain⟨r0,r1⟩:=hr
 go_enter Tryz.func250,Tryz.ntmps250
 go_wp2
 go_ret
 exact⟨by rw [←hfin.out];rfl,rfl⟩
theorem Fail_any(b:Nat)(bs:List Int)(at_:Nat)(er e:Int)(w:World)(h:RdAt w b bs at_ er):
  Calls Tryz.prog 216 #[.pointer (some ⟨b,0,none⟩),.int .i64 e] w fun en w'=>en = .returned (.tuple #[])/\RdAt w' b bs at_ (if er=0 then e else er)/\Kept (butOf w b) w w':=by
 have h2:=h.set2 (e:=e)
 have hh:=h
 obtain⟨v,hb,hs,hne,hbt,hl,_⟩:=h
 obtain⟨c0,c1,c2,f0,f1,f2⟩:=cell3 hb
 by_cases her:er=0
 ·rw [if_pos her]
  subst her
  have H2:=zH h2
  clear hb hs hne hbt h2 hh
  go_enter Tryz.func216,Tryz.ntmps216
  go_wp2
  go_end0
  exact⟨rfl,H2.out⟩
 ·rw [if_neg her]
  have hne':(er == 0)=false:=by simpa using her
  have H2:=zH hh
  clear hb hs hne hbt h2 hh
  go_enter Tryz.func216,Tryz.ntmps216
  go_wp2
  go_end0
  exact⟨rfl,H2.out,Kept.refl _ _⟩
theorem Err_any(b:Nat)(bs:List Int)(at_:Nat)(er:Int)(w:World)(h:RdAt w b bs at_ er):
  Calls Tryz.prog 219 #[.pointer (some ⟨b,0,none⟩)] w fun en w'=>en = .returned (.int .i64 er)/\w=w':=by
 obtain⟨v,hb,_⟩:=h
 obtain⟨c0,c1,c2,f0,f1,f2⟩:=cell3 hb
 clear hb
 go_enter Tryz.func219,Tryz.ntmps219
 go_wp2
 go_ret
 exact⟨rfl,rfl⟩
theorem Left_any(b:Nat)(bs:List Int)(at_:Nat)(er:Int)(w:World)(h:RdAt w b bs at_ er):
  Calls Tryz.prog 218 #[.pointer (some ⟨b,0,none⟩)] w fun en w'=>en = .returned (.int .i64 (if er=0 then((8*bs.length-at_:Nat):Int) else 0))/\∃n,w'=w.drewN n:=by
 obtain⟨v,hb,hs,_,_,hl,hat⟩:=h
 obtain⟨p,cap,rfl,_⟩:=hs
 obtain⟨c0,c1,c2,f0,f1,f2⟩:=cell3 hb
 clear hb
 by_cases her:er=0
 ·rw [if_pos her]
  subst her
  have e1:IntKind.i64.wrap (8*(bs.length:Int))=8*(bs.length:Int):=IntWalk.i64_in _ (by omega)
  have e2:IntKind.i64.wrap (8*(bs.length:Int)-at_)=8*(bs.length:Int)-at_:=IntWalk.i64_in _ (by omega)
  have e3:Hid ((8*(bs.length:Int)-at_)=((8*bs.length-at_:Nat):Int)):=by unfold Hid;omega
  go_enter Tryz.func218,Tryz.ntmps218
  go_wp2_with fail
  go_quiet (fail)
  go_wp2_with fail
  go_ret
  exact⟨by rw [←e3.out];rfl,_,rfl⟩
 ·rw [if_neg her]
  have hne':(er != 0)=true:=by simpa using her
  go_enter Tryz.func218,Tryz.ntmps218
  go_wp2_with fail
  go_ret
  exact⟨rfl,0,rfl⟩
def numB(l:List Bool):Int:=l.foldl (fun v x=>2*v+bi x) 0
theorem numB_snoc(l:List Bool)(x:Bool):numB (l ++ [x])=2*numB l+bi x:=by simp [numB]
theorem numB_range(l:List Bool):0<=numB l/\numB l<pw l.length:=by
 suffices h:∀n,∀l:List Bool,l.length=n->0<=numB l/\numB l<pw n from h _ l rfl
 intro n
 induction n with
 | zero=>intro l hl;rw [List.eq_nil_of_length_eq_zero hl];exact⟨by decide,by decide⟩
 | succ n ih=>
  intro l hl
  obtain⟨l',x,rfl⟩:∃l' x,l=l' ++ [x]:=⟨l.dropLast,l.getLast (fun e=>by rw [e] at hl;cases hl),(List.dropLast_concat_getLast _).symm⟩
  have:=ih l' (by simpa using hl)
  have hb:=bi_01 x
  rw [numB_snoc,pw_succ]
  omega
theorem u64_or_nat(a b:Nat)(ha:a<18446744073709551616)(hb:b<18446744073709551616):bits .or .u64 (a:Int) (b:Int)=((a ||| b:Nat):Int):=by
 have hx:a ||| b<2 ^ 64:=Nat.or_lt_two_pow (by omega) (by omega)
 have ea:(BitVec.ofInt 64 (a:Int)).toNat=a:=by rw [BitVec.ofInt_natCast,BitVec.toNat_ofNat];exact Nat.mod_eq_of_lt (by omega)
 have eb:(BitVec.ofInt 64 (b:Int)).toNat=b:=by rw [BitVec.ofInt_natCast,BitVec.toNat_ofNat];exact Nat.mod_eq_of_lt (by omega)
 show IntKind.u64.wrap ((BitVec.ofInt 64 (a:Int) ||| BitVec.ofInt 64 (b:Int)).toNat:Int)=_
 rw [BitVec.toNat_or,ea,eb,IntKind.wrap_u64]
 omega
theorem or_bit(v:Int)(x:Bool)(h0:0<=v)(h1:v<4611686018427387904):bits .or .u64 (v*2) (bi x)=2*v+bi x:=by
 obtain⟨n,rfl⟩:=Int.eq_ofNat_of_zero_le h0
 have e2:bi x=(((bi x).toNat:Nat):Int):=by cases x <;> rfl
 have hlt:(bi x).toNat<2 ^ 1:=by cases x <;> decide
 rw [e2,show ((n:Int)*2)=((2 ^ 1*n:Nat):Int) by omega,u64_or_nat _ _ (by omega) (by omega),←Nat.two_pow_add_eq_or_of_lt hlt n]
 omega
def nextB(bs:List Int)(i k:Nat):List Bool:=((bitsOf bs).drop i).take k
theorem nextB_succ(bs:List Int)(i j:Nat)(h:i+j<8*bs.length):nextB bs i (j+1)=nextB bs i j ++ [bitAt bs (i+j)]:=by
 unfold nextB
 have hl:j<((bitsOf bs).drop i).length:=by rw [List.length_drop,length_bitsOf];omega
 rw [List.take_succ_eq_append_getElem hl]
 congr 1
 have:=bitsOf_get bs (i+j) h
 simp only [List.getElem_drop,List.cons.injEq,and_true]
 rw [List.getElem?_eq_getElem (by rw [length_bitsOf];exact h)] at this
 simpa using this
theorem nextB_len(bs:List Int)(i j:Nat)(h:i+j<=8*bs.length):(nextB bs i j).length=j:=by
 unfold nextB
 rw [List.length_take,List.length_drop,length_bitsOf];omega
def getTo(bs:List Int)(i:Nat)(er k:Int):Int × Nat × Int:=
 if k<0\/57<k then(0,i,if er=0 then 1 else er)
 else if er≠0 then(0,i,er)
 else if ((8*bs.length-i:Nat):Int)<k then(0,i,2)
 else(numB (nextB bs i k.toNat),i+k.toNat,0)
def GetR(w:World)(b:Nat)(bs:List Int)(i:Nat)(j:Nat)(wr:World):Prop:=RdAt wr b bs (i+j) 0/\Kept (butOf w b) w wr
theorem getR_next{w wr:World}{b:Nat}{bs:List Int}{i j:Nat}(h:GetR w b bs i j wr)(hj:i+j<8*bs.length):GetR w b bs i (j+1) (wr.setCell ⟨b,1,none⟩ (.int .i64 (((i+j:Nat):Int)+1))):=by
 have:=h.1.set1 (n:=i+(j+1)) (by omega)
 have e:((i+(j+1):Nat):Int)=((i+j:Nat):Int)+1:=by omega
 rw [e] at this
 have hsz:=h.2.size
 exact⟨this.1,h.2.trans (this.2.mono fun q hq=>⟨Nat.lt_of_lt_of_le hq.1 hsz,hq.2⟩)⟩
set_option maxHeartbeats 1000000 in
theorem Get_yes(b:Nat)(bs:List Int)(i:Nat)(k:Nat)(w:World)(hk:k<=57)(hl:i+k<=8*bs.length)(h:RdAt w b bs i 0):
  Calls Tryz.prog 215 #[.pointer (some ⟨b,0,none⟩),.int .i64 k] w fun en w'=>en = .returned (.int .u64 (numB (nextB bs i k)))/\RdAt w' b bs (i+k) 0/\Kept (butOf w b) w w':=by
 have hw:Hid (widB k=true):=by unfold Hid widB;simp;omega
 have cL:=zH (Left_any b bs i 0 w h)
 rw [if_pos rfl] at cL
 have hst:∀n,GetR w b bs i 0 (w.drewN n):=fun n=>⟨h.kept ((Kept.refl (fun _=>True) w).drewN n) (fun _ _=>trivial),(Kept.refl _ w).drewN n⟩
 have HST:=zH hst
 have hlr:((8*bs.length-i:Nat):Int)>=k:=by omega
 generalize hq:((8*bs.length-i:Nat):Int)=q at *
 clear hq hst h
 go_enter Tryz.func215,Tryz.ntmps215
 go_wp2_with fail
 refine(isWidth_any k w).mono ?_
 rintro e w' ⟨rfl,rfl⟩
 rw [hw.out]
 go_wp2_with fail
 refine cL.out.mono ?_
 rintro e w1 ⟨rfl,nq,rfl⟩
 go_wp2_with fail
 go_loopw [5,18] (fun vv vi wr=>∃j:Nat,j<=k/\vi = .int .i64 j/\vv = .int .u64 (numB (nextB bs i j))/\GetR w b bs i j wr) (fun _ vi _=>k-(intOf vi).toNat)
 case atStart=>exact⟨0,by omega,rfl,rfl,HST.out _⟩
 case round=>
  obtain⟨j,hj,rfl,rfl,hg⟩:=hrel
  by_cases hlt:j<k
  ·obtain⟨v,hb,_⟩:=hg.1
   obtain⟨c0,c1,c2,f0,f1,f2⟩:=cell3 hb
   have cb:=zH (bit_any b bs _ 0 (i+j) wr (by omega) hg.1)
   have hn:=zH (getR_next hg (by omega))
   have hr:=numB_range (nextB bs i j)
   rw [nextB_len bs i j (by omega)] at hr
   have hpw:=pw_mono j 56 (by omega)
   rw [show pw 56=72057594037927936 from rfl] at hpw
   have hs:=zH (show numB (nextB bs i (j+1))=2*numB (nextB bs i j)+bi (bitAt bs (i+j)) from by rw [nextB_succ bs i j (by omega),numB_snoc])
   have ho:=zH (or_bit (numB (nextB bs i j)) (bitAt bs (i+j)) hr.1 (by omega))
   have hb1:=bi_01 (bitAt bs (i+j))
   have hij:((i+j:Nat):Int)<=34359738368:=by have:=hg.1;obtain⟨_,_,_,_,_,h4,_⟩:=this;omega
   have hij0:0<=((i+j:Nat):Int):=by omega
   obtain⟨r0,r1⟩:=hr
   obtain⟨b0,b1⟩:=hb1
   have r2:numB (nextB bs i j)<=72057594037927936:=by omega
   generalize ((i+j:Nat):Int)=ij at *
   generalize numB (nextB bs i j)=y at *
   generalize bi (bitAt bs (i+j))=c at *
   clear hg hb hpw r1
   go_wp2_with fail
   refine cb.out.mono ?_
   rintro e w2 ⟨rfl,rfl⟩
   go_wp2
   go_roundw
   case rel=>exact⟨j+1,by omega,by go_num,by rw [hs.out,←ho.out],hn.out⟩
   case measure=>simp [intOf];omega
  ·obtain rfl:j=k:=by omega
   have hend:=zH hg.1
   have hend2:=zH hg.2
   clear hg
   go_wp2_with fail
   go_ret
   exact⟨rfl,hend.out,hend2.out⟩
theorem Get_any(b:Nat)(bs:List Int)(i:Nat)(er k:Int)(w:World)(h:RdAt w b bs i er):
  Calls Tryz.prog 215 #[.pointer (some ⟨b,0,none⟩),.int .i64 k] w fun en w'=>en = .returned (.int .u64 (getTo bs i er k).1)/\RdAt w' b bs (getTo bs i er k).2.1 (getTo bs i er k).2.2/\Kept (butOf w b) w w':=by
 have hb8:i<=8*bs.length:=by obtain⟨_,_,_,_,_,_,h6⟩:=h;exact h6
 by_cases hk:k<0\/57<k
 ·have hg:getTo bs i er k=(0,i,if er=0 then 1 else er):=by unfold getTo;rw [if_pos hk]
  rw [hg]
  have hw:Hid (widB k=false):=by unfold Hid widB;simp;omega
  have cF:=zH (Fail_any b bs i er 1 w h)
  clear h hg hk
  simp only []
  generalize (if er=0 then(1:Int) else er)=er' at *
  go_enter Tryz.func215,Tryz.ntmps215
  go_wp2_with fail
  refine(isWidth_any k w).mono ?_
  rintro e w' ⟨rfl,rfl⟩
  rw [hw.out]
  go_wp2_with fail
  refine cF.out.mono ?_
  rintro e w1 ⟨rfl,hf⟩
  have HF:=zH hf
  clear hf
  go_wp2_with fail
  go_ret
  exact⟨rfl,HF.out⟩
 ·obtain⟨n,rfl⟩:=Int.eq_ofNat_of_zero_le (show 0<=k by omega)
  by_cases her:er=0
  ·subst her
   by_cases hs:((8*bs.length-i:Nat):Int)<(n:Int)
   ·have hg:getTo bs i 0 n=(0,i,2):=by unfold getTo;rw [if_neg hk,if_neg (by simp),if_pos hs]
    rw [hg]
    have hw:Hid (widB n=true):=by unfold Hid widB;simp;omega
    have cL:=zH (Left_any b bs i 0 w h)
    rw [if_pos rfl] at cL
    have cF:=zH (fun m=>Fail_any b bs i 0 2 (w.drewN m) (h.kept ((Kept.refl (fun _=>True) w).drewN m) (fun _ _=>trivial)))
    simp only [if_true] at cF
    generalize ((8*bs.length-i:Nat):Int)=q at *
    clear h hg hk hb8
    go_enter Tryz.func215,Tryz.ntmps215
    go_wp2_with fail
    refine(isWidth_any n w).mono ?_
    rintro e w' ⟨rfl,rfl⟩
    rw [hw.out]
    go_wp2_with fail
    refine cL.out.mono ?_
    rintro e w1 ⟨rfl,nq,rfl⟩
    go_wp2_with fail
    refine(cF.out nq).mono ?_
    rintro e w1 ⟨rfl,hf1,hf2⟩
    have HF:=zH hf1
    have HF2:=zH (show Kept (butOf w b) w w1 from((Kept.refl _ w).drewN nq).trans (hf2.mono fun q hq=>hq))
    clear hf1 hf2
    go_wp2_with fail
    go_ret
    exact⟨rfl,HF.out,HF2.out⟩
   ·have hg:getTo bs i 0 n=(numB (nextB bs i n),i+n,0):=by unfold getTo;rw [if_neg hk,if_neg (by simp),if_neg hs];rfl
    rw [hg]
    exact Get_yes b bs i n w (by omega) (by omega) h
  ·have hg:getTo bs i er n=(0,i,er):=by unfold getTo;rw [if_neg hk,if_pos her]
   rw [hg]
   have hw:Hid (widB n=true):=by unfold Hid widB;simp;omega
   have cL:=zH (Left_any b bs i er w h)
   rw [if_neg her] at cL
   have cF:=zH (fun m=>Fail_any b bs i er 2 (w.drewN m) (h.kept ((Kept.refl (fun _=>True) w).drewN m) (fun _ _=>trivial)))
   have hq:=zH (fun m=>h.kept ((Kept.refl (fun _=>True) w).drewN m) (fun _ _=>trivial))
   simp only [if_neg her] at cF
   by_cases h0:n=0
   ·subst h0
    clear h hg hk hb8 her cF hw
    have hw:Hid (widB 0=true):=by unfold Hid;rfl
    go_enter Tryz.func215,Tryz.ntmps215
    go_wp2_with fail
    refine(isWidth_any _ w).mono ?_
    rintro e w' ⟨rfl,rfl⟩
    rw [hw.out]
    go_wp2_with fail
    refine cL.out.mono ?_
    rintro e w1 ⟨rfl,nq,rfl⟩
    go_wp2_with fail
    refine wp_loop_rounds 1 ?_
    rw [rounds_succ]
    go_wp2_with fail
    go_ret
    exact⟨rfl,hq.out nq,(Kept.refl _ w).drewN nq⟩
   ·have hpos:(0:Int)<n:=by omega
    clear h hg hk hb8 her h0
    go_enter Tryz.func215,Tryz.ntmps215
    go_wp2_with fail
    refine(isWidth_any n w).mono ?_
    rintro e w' ⟨rfl,rfl⟩
    rw [hw.out]
    go_wp2_with fail
    refine cL.out.mono ?_
    rintro e w1 ⟨rfl,nq,rfl⟩
    go_wp2_with fail
    refine(cF.out nq).mono ?_
    rintro e w1 ⟨rfl,hf1,hf2⟩
    have HF:=zH hf1
    have HF2:=zH (show Kept (butOf w b) w w1 from((Kept.refl _ w).drewN nq).trans (hf2.mono fun q hq=>hq))
    clear hf1 hf2
    go_wp2_with fail
    go_ret
    exact⟨rfl,HF.out,HF2.out⟩
theorem src_slI{w:World}{p:Option Addr}{n cap:Nat}{bs:List Int}(o:Obj)(h:SlI w .u8 (.slice p n cap) bs):
  0<(bs.map (Value.int .u8)).length->some (⟨w.heap.size,0,none⟩:Addr)=some ⟨w.heap.size,0,none⟩/\∃ad,p=some ad/\∀j u,(bs.map (Value.int .u8))[j]?=some u->(w.alloc o).cell? (ad.add j)=some u:=by
 intro h0
 rw [List.length_map] at h0
 obtain⟨hl,hc⟩:=(h.old (Old.alloc w o)).cellAt
 obtain⟨b,off,hp,_,_,_,hcell⟩:=hc (by omega)
 refine⟨rfl,_,hp,fun j u hj=>?_⟩
 rw [List.getElem?_map] at hj
 obtain⟨x,hx,rfl⟩:=Option.map_eq_some_iff.1 hj
 have hjl:j<bs.length:=(List.getElem?_eq_some_iff.1 hx).1
 rw [add_plain,hcell j (by omega)]
 simp [List.getD,hx]
theorem splice_all(bs:List Int)(n:Nat)(h:bs.length=n):splice (List.replicate n (Value.int .u8 0)) 0 (bs.map (Value.int .u8))=bs.map (Value.int .u8):=by
 subst h;simp [splice]
theorem rd_new{w w1:World}{n:Nat}{bs:List Int}(hn:bs.length=n)(hbt:isBytes bs)(hl:bs.length<=4294967296)(h:w1.heap[w.heap.size]?=some (.cells (bs.map (Value.int .u8)).toArray 5 (0,0)))(hb:Below w.heap.size w w1):
  RdAt (w1.alloc (.cells #[.slice (some ⟨w.heap.size,0,none⟩) n n,.int .i64 0,.int .i64 0] 318)) w1.heap.size bs 0 0/\Old w (w1.alloc (.cells #[.slice (some ⟨w.heap.size,0,none⟩) n n,.int .i64 0,.int .i64 0] 318)):=by
 have hlt:=lt_of_block h
 subst hn
 refine⟨⟨_,heap_alloc_new _ _,⟨_,_,rfl,fun hne=>⟨w.heap.size,0,rfl,by simp;omega,Nat.le_refl _,by unfold maxLen;omega,fun i hi=>?_⟩⟩,fun q hq=>by
  have hq':w.heap.size=q:=by simpa [Value.ownBlock] using hq
  subst hq'
  exact⟨by omega,_,(Below.heap_alloc w1 _ _ hlt).trans h⟩,hbt,hl,Nat.zero_le _⟩,(Old.below hb).alloc' _⟩
 have:=(Below.heap_alloc w1 (.cells #[.slice (some ⟨w.heap.size,0,none⟩) bs.length bs.length,.int .i64 0,.int .i64 0] 318) _ hlt).trans h
 simp [World.cell?,this,hi,List.getD]
set_option maxHeartbeats 400000 in
theorem Read_any(v:Value)(bs:List Int)(w:World)(hv:SlI w .u8 v bs)(hbt:isBytes bs)(hl:bs.length<=4294967296):
  Calls Tryz.prog 165 #[v] w fun e w'=>∃b,e = .returned (.pointer (some ⟨b,0,none⟩))/\RdAt w' b bs 0 0/\Old w w'/\w.heap.size<=b:=by
 obtain⟨p,n,cap,rfl,hn,_⟩:∃p n cap,v = .slice p n cap/\bs.length=n/\True:=by obtain⟨p,cap,rfl,_⟩:=hv;exact⟨p,bs.length,cap,rfl,rfl,trivial⟩
 have hnb:n<=4294967296:=by omega
 have hmk:=fun W=>run_make_row' (P:=Tryz.prog) 34 5 (.int .u8 0) 1 Tryz.underlying34 Tryz.info5 rfl .i64 .i64 n (by omega) (by omega) W
 have hnew:Hid ((w.alloc (.cells (madeCells #[Value.int .u8 0] n) 5)).heap[w.heap.size]?=some (.cells (List.replicate n (Value.int .u8 0)).toArray 5 (0,0))):=by
  unfold Hid
  rw [←toList_madeCells_one]
  exact heap_alloc_new _ _
 have hq2:Hid ((bs.map (Value.int .u8)).length=Nat.min n n):=by unfold Hid;rw [List.length_map,hn];exact(Nat.min_self n).symm
 have hq3:=zH (src_slI (.cells (madeCells #[Value.int .u8 0] n) 5) hv)
 have hq4:Hid (0+(bs.map (Value.int .u8)).length<=(List.replicate n (Value.int .u8 0)).length):=by unfold Hid;simp [hn]
 have hq6:Hid (Below w.heap.size w (w.alloc (.cells (madeCells #[Value.int .u8 0] n) 5))):=(Below.refl _ _).alloc (Nat.le_refl _) _
 have hfin:=zH (fun w1 h hb=>rd_new (w:=w) (w1:=w1) hn hbt hl h hb)
 have HS:=zH (splice_all bs n hn)
 clear hv hn hbt hl
 go_enter Tryz.func165,Tryz.ntmps165
 go_wp2_with (with_reducible refine wpList_copy_splice rfl _ _ 34 34 rfl 5 Tryz.underlying34 Tryz.size5 _ _ _ _ _ _ rfl rfl w.heap.size 0 _ 5 hnew.out (bs.map (Value.int .u8)) hq2.out hq3.out hq4.out (bytes_oneCell _) w.heap.size w hq6.out (Nat.le_refl _) ?_;intro w1 h1 hb1;have H1:=zH h1;have HB:=zH hb1;clear h1 hb1)
 go_ret
 have h1:=H1.out.out
 rw [HS.out] at h1
 have hf:=hfin.out w1 h1 HB.out
 exact⟨_,rfl,hf.1,hf.2,HB.out.size⟩
def sgnTo(bs:List Int)(i:Nat)(er k:Int):Int:=if 0<k/\(getTo bs i er k).1/2 ^ (k.toNat-1)=1 then(getTo bs i er k).1-pw k.toNat else(getTo bs i er k).1
theorem getTo_range(bs:List Int)(i:Nat)(er k:Int)(hi:i<=8*bs.length):0<=(getTo bs i er k).1/\(getTo bs i er k).1<144115188075855872/\((getTo bs i er k).1≠0->0<=k/\k<=57):=by
 unfold getTo
 split
 ·exact⟨by simp,by simp,fun h=>absurd rfl h⟩
 ·split
  ·exact⟨by simp,by simp,fun h=>absurd rfl h⟩
  ·split
   ·exact⟨by simp,by simp,fun h=>absurd rfl h⟩
   ·have:=numB_range (nextB bs i k.toNat)
    rw [nextB_len bs i _ (by omega)] at this
    have hm:=pw_mono k.toNat 57 (by omega)
    rw [show pw 57=144115188075855872 from rfl] at hm
    exact⟨this.1,by simp only [];omega,fun _=>by omega⟩
set_option maxHeartbeats 400000 in
theorem RSigned_any(b:Nat)(bs:List Int)(i:Nat)(er k:Int)(w:World)(hk63:-9223372036854775808<=k/\k<=9223372036854775807)(h:RdAt w b bs i er):
  Calls Tryz.prog 168 #[.pointer (some ⟨b,0,none⟩),.int .i64 k] w fun en w'=>en = .returned (.int .i64 (sgnTo bs i er k))/\RdAt w' b bs (getTo bs i er k).2.1 (getTo bs i er k).2.2/\Kept (butOf w b) w w':=by
 have hi:i<=8*bs.length:=by obtain⟨_,_,_,_,_,_,h6⟩:=h;exact h6
 have hr:=getTo_range bs i er k hi
 have cG:=zH (Get_any b bs i er k w h)
 unfold sgnTo
 generalize getTo bs i er k=g at *
 obtain⟨g,ga,ge⟩:=g
 simp only [] at *
 obtain⟨r0,r1,r2⟩:=hr
 clear h hi
 by_cases h0:0<k
 ·by_cases h57:k<=57
  ·by_cases ht:g/2 ^ (k.toNat-1)=1
   ·rw [if_pos ⟨h0,ht⟩]
    have hp:=pw_pos k.toNat
    have hq:=pw_le k.toNat (by omega)
    have he:wrap64 ((2:Int) ^ k.toNat)=pw k.toNat:=IntWalk.wrap64_in _ ⟨by show _<=pw k.toNat;omega,by show pw k.toNat<=_;omega⟩
    have htb:(g/2 ^ (k.toNat-1) == 1)=true:=by simpa using ht
    generalize pw k.toNat=q at *
    clear ht r2
    go_enter Tryz.func168,Tryz.ntmps168
    go_wp2_with fail
    refine cG.out.mono ?_
    rintro e w1 ⟨rfl,hg⟩
    have HG:=zH hg
    clear hg
    go_wp2_with fail
    go_ret
    exact⟨rfl,HG.out⟩
   ·rw [if_neg (fun hh=>ht hh.2)]
    have htb:(g/2 ^ (k.toNat-1) == 1)=false:=by simpa using ht
    clear ht r2
    go_enter Tryz.func168,Tryz.ntmps168
    go_wp2_with fail
    refine cG.out.mono ?_
    rintro e w1 ⟨rfl,hg⟩
    have HG:=zH hg
    clear hg
    go_wp2_with fail
    go_ret
    exact⟨rfl,HG.out⟩
  ·obtain rfl:g=0:=by
    by_cases hg:g=0
    ·exact hg
    ·have:=r2 hg;omega
   rw [if_neg (by simp)]
   have hs:Op.shift .shr .i64 0 .i64 (k-1)=pure (.int .i64 0):=by rw [shift_shr_any _ _ _ _ (by omega)];simp
   clear r2
   go_enter Tryz.func168,Tryz.ntmps168
   go_wp2_with fail
   refine cG.out.mono ?_
   rintro e w1 ⟨rfl,hg⟩
   have HG:=zH hg
   clear hg
   go_wp2_with fail
   go_ret
   exact⟨rfl,HG.out⟩
 ·rw [if_neg (fun hh=>h0 hh.1)]
  clear r2
  go_enter Tryz.func168,Tryz.ntmps168
  go_wp2_with fail
  refine cG.out.mono ?_
  rintro e w1 ⟨rfl,hg⟩
  have HG:=zH hg
  clear hg
  go_wp2_with fail
  go_ret
  exact⟨rfl,HG.out⟩
def restF(bs:List Int)(i:Nat):Bool:=((bitsOf bs).drop i).all (· == false)
def endTo(bs:List Int)(i:Nat)(er:Int):Int:=if er=0 then(if restF bs i then 0 else 4) else er
theorem numB_zero(l:List Bool):numB l=0↔l.all (· == false)=true:=by
 suffices h:∀n,∀l:List Bool,l.length=n->(numB l=0↔l.all (· == false)=true) from h _ l rfl
 intro n
 induction n with
 | zero=>intro l hl;rw [List.eq_nil_of_length_eq_zero hl];exact⟨fun _=>rfl,fun _=>rfl⟩
 | succ n ih=>
  intro l hl
  obtain⟨l',x,rfl⟩:∃l' x,l=l' ++ [x]:=⟨l.dropLast,l.getLast (fun e=>by rw [e] at hl;cases hl),(List.dropLast_concat_getLast _).symm⟩
  have h1:=ih l' (by simpa using hl)
  have h2:=numB_range l'
  rw [numB_snoc,List.all_append,Bool.and_eq_true,←h1]
  cases x <;> simp [bi] <;> omega
theorem restF_split(bs:List Int)(i k:Nat):restF bs i=((nextB bs i k).all (· == false) && restF bs (i+k)):=by
 unfold restF nextB
 rw [←List.drop_drop,←List.all_append,List.take_append_drop]
theorem restF_end(bs:List Int):restF bs (8*bs.length)=true:=by
 unfold restF
 rw [List.drop_eq_nil_of_le (by rw [length_bitsOf];exact Nat.le_refl _)]
 rfl
theorem endTo_zero(bs:List Int)(i k:Nat)(h:numB (nextB bs i k)=0):endTo bs (i+k) 0=endTo bs i 0:=by
 unfold endTo
 rw [restF_split bs i k,(numB_zero _).1 h,Bool.true_and]
theorem endTo_some(bs:List Int)(i k:Nat)(h:numB (nextB bs i k)≠0)(j:Nat):endTo bs j 4=endTo bs i 0:=by
 unfold endTo
 have:(nextB bs i k).all (· == false)=false:=by
  cases e:(nextB bs i k).all (· == false) with
  | true=>exact absurd ((numB_zero _).2 e) h
  | false=>rfl
 rw [restF_split bs i k,this]
 simp
theorem endTo_stop(bs:List Int)(j:Nat)(er:Int)(h:er≠0\/j=8*bs.length):endTo bs j er=er:=by
 unfold endTo
 by_cases he:er=0
 ·subst he
  rcases h with h | h
  ·exact absurd rfl h
  ·subst h;simp [restF_end]
 ·rw [if_neg he]
theorem Left_kept(b:Nat)(bs:List Int)(at_:Nat)(er:Int)(w:World)(h:RdAt w b bs at_ er):
  Calls Tryz.prog 218 #[.pointer (some ⟨b,0,none⟩)] w fun en w'=>en = .returned (.int .i64 (if er=0 then((8*bs.length-at_:Nat):Int) else 0))/\RdAt w' b bs at_ er/\Kept (fun _=>True) w w':=by
 refine(Left_any b bs at_ er w h).mono ?_
 rintro e w' ⟨rfl,n,rfl⟩
 exact⟨rfl,h.kept ((Kept.refl (fun _=>True) w).drewN n) (fun _ _=>trivial),(Kept.refl _ w).drewN n⟩
def EndR(w:World)(b:Nat)(bs:List Int)(i:Nat)(er:Int)(g:Nat)(wr:World):Prop:=
 ∃j er',RdAt wr b bs j er'/\Kept (butOf w b) w wr/\endTo bs j er'=endTo bs i er/\g=(if er'=0 then 8*bs.length-j else 0)/\j<=8*bs.length
def EndD(w:World)(b:Nat)(bs:List Int)(r:Int)(e:Ending)(w':World):Prop:=e = .returned (.int .i64 r)/\(∃j,RdAt w' b bs j r/\(r=0->j=8*bs.length))/\Kept (butOf w b) w w'
set_option maxHeartbeats 1000000 in
theorem End_any(b:Nat)(bs:List Int)(i:Nat)(er:Int)(w:World)(h:RdAt w b bs i er):
  Calls Tryz.prog 170 #[.pointer (some ⟨b,0,none⟩)] w (EndD w b bs (endTo bs i er)):=by
 have hi:i<=8*bs.length:=by obtain⟨_,_,_,_,_,_,h6⟩:=h;exact h6
 have hst:EndR w b bs i er (if er=0 then 8*bs.length-i else 0) w:=⟨i,er,h,Kept.refl _ _,rfl,rfl,hi⟩
 have HST:=zH hst
 clear h hi hst
 go_enter Tryz.func170,Tryz.ntmps170
 go_wp2_with fail
 go_loopg [] (if er=0 then 8*bs.length-i else 0) (fun g wr=>EndR w b bs i er g wr)
 case atStart=>exact HST.out
 case round=>
  obtain⟨j,er',hr,hk,he,hg,hj⟩:=hrel
  have hbl:bs.length<=4294967296:=by obtain⟨_,_,_,_,_,h5,_⟩:=hr;exact h5
  by_cases hgo:er'=0/\j<8*bs.length
  ·obtain⟨rfl,hlt⟩:=hgo
   rw [if_pos rfl] at hg
   obtain⟨q,hq⟩:∃q:Nat,q=8*bs.length-j:=⟨_,rfl⟩
   have cL:=zH (Left_kept b bs j 0 wr hr)
   rw [if_pos rfl,←hq] at cL
   have hq0:0<q:=by omega
   have hq1:q<=34359738368:=by omega
   have cL2:=zH (fun w1 (h1:RdAt w1 b bs j 0)=>(by have:=Left_kept b bs j 0 w1 h1;rw [if_pos rfl,←hq] at this;exact this:Calls Tryz.prog 218 #[.pointer (some ⟨b,0,none⟩)] w1 fun en w'=>en = .returned (.int .i64 (q:Int))/\RdAt w' b bs j 0/\Kept (fun _=>True) w1 w'))
   have HG:=zH hg;have HE:=zH he;have HK:=zH hk;have HR:=zH hr
   by_cases h57:q<=57
   case' pos=>
    obtain⟨k,hk0⟩:∃k:Nat,k=q:=⟨_,rfl⟩
    have cG:=zH (fun w2 (h2:RdAt w2 b bs j 0)=>Get_yes b bs j q w2 (by omega) (by omega) h2)
    rw [←hk0] at cG
    have hkq:k<=q:=by omega
    have hk1:0<k:=by omega
    have hjk:j+k<=8*bs.length:=by omega
    have hge:(q:Int)<=57:=by omega
    rw [hk0] at cG
    have HK0:=zH hk0
   case' neg=>
    obtain⟨k,hk0⟩:∃k:Nat,k=57:=⟨_,rfl⟩
    have cG:=zH (fun w2 (h2:RdAt w2 b bs j 0)=>(Get_yes b bs j 57 w2 (by omega) (by omega) h2:Calls Tryz.prog 215 #[.pointer (some ⟨b,0,none⟩),.int .i64 57] w2 _))
    have hkq:k<=q:=by omega
    have hk1:0<k:=by omega
    have hjk:j+k<=8*bs.length:=by omega
    have hge:¬(q:Int)<=57:=by omega
    have HK0:=zH hk0
   all_goals
    have HQ:=zH hq
    clear hg hq he hk hr hk0
    go_wp2_with fail
    refine cL.out.mono ?_
    rintro e w1 ⟨rfl,hr1,hk1'⟩
    have HR1:=zH hr1
    have HK1:=zH (HK.out.trans (hk1'.mono fun _ _=>trivial))
    clear hr1 hk1' cL HK HR
    go_wp2_with fail
    refine(cL2.out w1 HR1.out).mono ?_
    rintro e w2 ⟨rfl,hr2,hk2'⟩
    have HR2:=zH hr2
    have HK2:=zH (HK1.out.trans (hk2'.mono fun _ _=>trivial))
    clear hr2 hk2' cL2 HK1 HR1
    go_wp2_with fail
    refine(cG.out w2 HR2.out).mono ?_
    rintro e w3 ⟨rfl,hr3,hk3'⟩
    rw [←HK0.out] at hr3 ⊢
    have HR3:=zH hr3
    have HK3:=zH (HK2.out.trans (hk3'.mono fun q hq=>⟨Nat.lt_of_lt_of_le hq.1 HK2.out.size,hq.2⟩))
    have hz:=endTo_zero bs j k
    have hs:=endTo_some bs j k
    have HZ:=zH hz;have HS:=zH hs
    clear hr3 hk3' hz hs HK2 HR2 cG
    generalize numB (nextB bs j k)=v at *
    by_cases hv:v=0
    ·subst hv
     have HD:=zH ((HZ.out rfl).trans HE.out)
     clear HZ HS HE
     go_wp2_with fail
     go_roundg (gk-k)
     case measure=>have:=HG.out;omega
     case rel=>exact⟨j+k,0,HR3.out,HK3.out,HD.out,by have:=HG.out;rw [if_pos rfl];omega,hjk⟩
    ·have HD:=zH ((HS.out hv (j+k)).trans HE.out)
     have hvb:(v != 0)=true:=by simpa using hv
     have cF:=zH (Fail_any b bs (j+k) 0 4 w3 HR3.out)
     clear HZ HS HE hv
     go_wp2_with fail
     refine cF.out.mono ?_
     rintro e w4 ⟨rfl,hr4,hk4⟩
     simp only [if_true] at hr4
     have HR4:=zH hr4
     have HK4:=zH (HK3.out.trans (hk4.mono fun q hq=>⟨Nat.lt_of_lt_of_le hq.1 HK3.out.size,hq.2⟩))
     clear hr4 hk4
     go_wp2_with fail
     go_roundg 0
     case measure=>have:=HG.out;omega
     case rel=>exact⟨j+k,4,HR4.out,HK4.out,HD.out,rfl,hjk⟩
  ·have hs:=endTo_stop bs j er' (by omega)
   rw [he] at hs
   have cL:=zH (Left_kept b bs j er' wr hr)
   have hz:(if er'=0 then((8*bs.length-j:Nat):Int) else 0)=0:=by
    by_cases h0:er'=0
    ·rw [if_pos h0];omega
    ·rw [if_neg h0]
   rw [hz] at cL
   have hjl:er'=0->j=8*bs.length:=fun h0=>by omega
   have HS:=zH hs;have HJ:=zH hjl;have HK:=zH hk
   clear hr hk he hg hz hjl hs hgo
   go_wp2_with fail
   refine cL.out.mono ?_
   rintro e w1 ⟨rfl,hr1,hk1'⟩
   have cE:=zH (Err_any b bs j er' w1 hr1)
   have HR1:=zH hr1
   have HK1:=zH (HK.out.trans (hk1'.mono fun _ _=>trivial))
   clear hr1 hk1' cL HK
   go_wp2_with fail
   refine cE.out.mono ?_
   rintro e w2 ⟨rfl,rfl⟩
   go_wp2_with fail
   go_ret
   rw [HS.out]
   exact⟨rfl,⟨j,HR1.out,HJ.out⟩,HK1.out⟩
def validI(s:Bool)(v k:Int):Bool:=decide (0<=k/\k<=57) && (if s then fitB v k else decide (0<=v/\v<pw k.toNat))
def bitsI(v k:Int):List Bool:=bitsN (if v<0 then v+pw k.toNat else v) k.toNat
def putI(L:List Bool)(er:Int)(s:Bool)(v k:Int):List Bool × Int:=if er≠0 then(L,er) else if validI s v k then(L ++ bitsI v k,0) else(L,5)
theorem bit_shift(a c:Int)(m:Nat):(a+pw m*(2*c))/pw m%2=a/pw m%2:=by
 rw [Int.add_mul_ediv_left _ _ (by have:=pw_pos m;omega)]
 omega
theorem pw_add(m n:Nat):pw (m+n)=pw m*pw n:=by unfold pw;rw [Int.pow_add]
theorem bits_wrap(v:Int)(k:Nat)(hk:k<=57):bitsN (v+18446744073709551616) k=bitsN (v+pw k) k:=by
 unfold bitsN
 apply List.map_congr_left
 intro i hi
 rw [List.mem_range] at hi
 have h64:(18446744073709551616:Int)=pw (k-1-i)*(2*pw (63-(k-1-i))):=by
  rw [show (18446744073709551616:Int)=pw 64 from rfl,←pw_succ,←pw_add];congr 1;omega
 have hkk:pw k=pw (k-1-i)*(2*pw i):=by
  rw [←pw_succ,←pw_add];congr 1;omega
 rw [h64,hkk]
 show ((v+pw (k-1-i)*(2*pw (63-(k-1-i))))/pw (k-1-i)%2 == 1)=((v+pw (k-1-i)*(2*pw i))/pw (k-1-i)%2 == 1)
 rw [bit_shift,bit_shift]
theorem putI_signed(L:List Bool)(er v k:Int)(h0:-9223372036854775808<=v)(h1:v<=9223372036854775807):putTo L er (okSgn v k) (v%18446744073709551616) k=putI L er true v k:=by
 unfold putTo putI
 by_cases her:er≠0
 ·rw [if_pos her,if_pos her]
 ·rw [if_neg her,if_neg her]
  have hv:validI true v k=okSgn v k:=by simp [validI,okSgn,widB]
  rw [hv]
  by_cases hok:okSgn v k=true
  ·rw [if_pos hok,if_pos hok]
   simp only [okSgn,widB,Bool.and_eq_true,decide_eq_true_eq] at hok
   congr 2
   unfold bitsI
   by_cases hn:v<0
   ·rw [if_pos hn,←bits_wrap v k.toNat (by omega)]
    congr 1;omega
   ·rw [if_neg hn];congr 1;omega
  ·rw [if_neg hok,if_neg hok]
theorem putI_plain(L:List Bool)(er v k:Int)(h0:-9223372036854775808<=v)(h1:v<=9223372036854775807):putTo L er (okPut (v%18446744073709551616) k) (v%18446744073709551616) k=putI L er false v k:=by
 unfold putTo putI
 by_cases her:er≠0
 ·rw [if_pos her,if_pos her]
 ·rw [if_neg her,if_neg her]
  have hv:validI false v k=okPut (v%18446744073709551616) k:=by
   rw [Bool.eq_iff_iff]
   simp only [validI,okPut,Bool.and_eq_true,decide_eq_true_eq,Bool.false_eq_true,if_false]
   constructor
   ·rintro ⟨⟨a,b⟩,c,d⟩
    have e:v%18446744073709551616=v:=by omega
    rw [e];exact⟨a,b,d⟩
   ·rintro ⟨a,b,c⟩
    have hp:=pw_le k.toNat (by omega)
    have e:v%18446744073709551616=v:=by omega
    rw [e] at c
    exact⟨⟨a,b⟩,by omega,c⟩
  rw [hv]
  by_cases hok:okPut (v%18446744073709551616) k=true
  ·rw [if_pos hok,if_pos hok]
   simp only [okPut,decide_eq_true_eq] at hok
   have hp:=pw_le k.toNat (by omega)
   have e:v%18446744073709551616=v:=by omega
   rw [e]
   unfold bitsI
   rw [if_neg (by omega)]
  ·rw [if_neg hok,if_neg hok]
theorem byte_bit_at(L:List Bool)(i:Nat):(byteAt L (i/8)/2 ^ (7-i%8)%2 == 1)=L.getD i false:=by
 have key:byteAt L (i/8)/2 ^ (7-i%8)%2=bi (L.getD i false):=by
  generalize hq:i/8=q
  unfold byteAt
  have h0:=bi_01 (L.getD (8*q) false);have h1:=bi_01 (L.getD (8*q+1) false);have h2:=bi_01 (L.getD (8*q+2) false);have h3:=bi_01 (L.getD (8*q+3) false)
  have h4:=bi_01 (L.getD (8*q+4) false);have h5:=bi_01 (L.getD (8*q+5) false);have h6:=bi_01 (L.getD (8*q+6) false);have h7:=bi_01 (L.getD (8*q+7) false)
  rcases eight i with h | h | h | h | h | h | h | h <;> rw [h]
  ·rw [show i=8*q by omega];omega
  ·rw [show i=8*q+1 by omega];omega
  ·rw [show i=8*q+2 by omega];omega
  ·rw [show i=8*q+3 by omega];omega
  ·rw [show i=8*q+4 by omega];omega
  ·rw [show i=8*q+5 by omega];omega
  ·rw [show i=8*q+6 by omega];omega
  ·rw [show i=8*q+7 by omega];omega
 rw [key]
 cases L.getD i false <;> rfl
theorem bitsOf_padded(L:List Bool)(n:Nat)(h:L.length<=8*n):bitsOf (padded L n)=L ++ List.replicate (8*n-L.length) false:=by
 apply List.ext_getElem?
 intro i
 by_cases hi:i<8*n
 ·rw [bitsOf_get _ _ (by rw [length_padded];exact hi)]
  have hb:bitAt (padded L n) i=L.getD i false:=by
   unfold bitAt
   have e:(padded L n).getD (i/8) 0=byteAt L (i/8):=by
    have hlt:i/8<n:=by omega
    simp [padded,List.getD,hlt]
   rw [e]
   exact byte_bit_at L i
  rw [hb]
  by_cases hl:i<L.length
  ·rw [List.getElem?_append_left hl,List.getElem?_eq_getElem hl];simp [List.getD,hl]
  ·rw [List.getElem?_append_right (by omega),getD_end L i (by omega),List.getElem?_replicate,if_pos (by omega)]
 ·rw [List.getElem?_eq_none (by rw [length_bitsOf,length_padded];omega),List.getElem?_eq_none (by simp;omega)]
theorem rest_padded(L:List Bool)(n:Nat)(h:L.length<=8*n):restF (padded L n) L.length=true:=by
 unfold restF
 rw [bitsOf_padded _ _ h,List.drop_left]
 simp
theorem numB_bitsN(v:Int)(k:Nat)(h0:0<=v)(h1:v<pw k):numB (bitsN v k)=v:=by
 have step:∀j,j<=k->numB ((bitsN v k).take j)=v/pw (k-j):=by
  intro j
  induction j with
  | zero=>intro _;simp only [List.take_zero,Nat.sub_zero];rw [Int.ediv_eq_zero_of_lt h0 h1];rfl
  | succ j ih=>
   intro hj
   rw [bitsN_take_succ v k j (by omega),numB_snoc,ih (by omega),bi_mod]
   have e1:k-j=(k-1-j)+1:=by omega
   have e2:k-(j+1)=k-1-j:=by omega
   have e3:v/pw ((k-1-j)+1)=v/pw (k-1-j)/2:=by
    rw [pw_succ,Int.mul_comm,←Int.ediv_ediv_of_nonneg (by have:=pw_pos (k-1-j);omega)]
   rw [e1,e2,e3,pw_div]
   omega
 have:=step k (Nat.le_refl _)
 rw [List.take_of_length_le (by rw [length_bitsN];exact Nat.le_refl _),Nat.sub_self,pw_zero,Int.ediv_one] at this
 exact this
theorem numB_bitsI(s:Bool)(v k:Int)(h:validI s v k=true):numB (bitsI v k)=(if v<0 then v+pw k.toNat else v)/\0<=k/\k<=57/\(s=false->0<=v):=by
 unfold validI at h
 simp only [Bool.and_eq_true,decide_eq_true_eq] at h
 obtain⟨⟨hk0,hk1⟩,hs⟩:=h
 have hp:=pw_pos k.toNat
 unfold bitsI
 cases s with
 | false=>
  simp only [Bool.false_eq_true,if_false,decide_eq_true_eq] at hs
  rw [if_neg (by omega)]
  exact⟨numB_bitsN _ _ hs.1 hs.2,hk0,hk1,fun _=>hs.1⟩
 | true=>
  simp only [if_true] at hs
  refine⟨?_,hk0,hk1,fun h=>by cases h⟩
  by_cases h0:k<=0
  ·rw [fitB_neg v k h0,beq_iff_eq] at hs
   subst hs
   rw [if_neg (by omega)]
   exact numB_bitsN _ _ (by omega) (by omega)
  ·rw [fitB_mid v k (by omega) (by omega),decide_eq_true_eq] at hs
   have hm:=pw_succ (k-1).toNat
   rw [show (k-1).toNat+1=k.toNat by omega] at hm
   by_cases hv:v<0
   ·rw [if_pos hv];exact numB_bitsN _ _ (by omega) (by omega)
   ·rw [if_neg hv];exact numB_bitsN _ _ (by omega) (by omega)
theorem sgn_bitsI(v k:Int)(h:validI true v k=true):(if 0<k/\numB (bitsI v k)/2 ^ (k.toNat-1)=1 then numB (bitsI v k)-pw k.toNat else numB (bitsI v k))=v:=by
 have hn:=(numB_bitsI true v k h).1
 rw [hn]
 unfold validI at h
 simp only [Bool.and_eq_true,decide_eq_true_eq,if_true] at h
 obtain⟨⟨hk0,hk1⟩,hs⟩:=h
 by_cases h0:k<=0
 ·rw [fitB_neg v k h0,beq_iff_eq] at hs
  subst hs
  rw [if_neg (by omega),if_neg (by omega)]
 ·rw [fitB_mid v k (by omega) (by omega),decide_eq_true_eq] at hs
  have hm:=pw_succ (k-1).toNat
  rw [show (k-1).toNat+1=k.toNat by omega] at hm
  have e:(2:Int) ^ (k.toNat-1)=pw (k-1).toNat:=by rw [show (k-1).toNat=k.toNat-1 by omega];rfl
  have hp:=pw_pos (k-1).toNat
  rw [e]
  generalize pw (k-1).toNat=q at *
  rw [hm]
  by_cases hv:v<0
  ·rw [if_pos hv,if_pos ⟨by omega,by rw [Int.ediv_eq_iff_of_pos (by omega)];omega⟩];omega
  ·rw [if_neg hv,if_neg (fun hh=>by have:=Int.ediv_eq_zero_of_lt (by omega:0<=v) (by omega:v<q);omega)]
theorem len_bitsI(v k:Int):(bitsI v k).length=k.toNat:=by unfold bitsI;rw [length_bitsN]
theorem bitsN_double(a:Int)(x:Bool)(k:Nat)(h0:0<=a):bitsN (2*a+bi x) (k+1)=bitsN a k ++ [x]:=by
 unfold bitsN
 rw [List.range_succ,List.map_append]
 congr 1
 ·apply List.map_congr_left
  intro i hi
  rw [List.mem_range] at hi
  have e:(2*a+bi x)/2 ^ (k+1-1-i)=a/2 ^ (k-1-i):=by
   have hp:(2:Int) ^ (k+1-1-i)=2*2 ^ (k-1-i):=by rw [show k+1-1-i=(k-1-i)+1 by omega,Int.pow_succ,Int.mul_comm]
   rw [hp,←Int.ediv_ediv_of_nonneg (by omega)]
   have hb:=bi_01 x
   rw [show (2*a+bi x)/2=a by omega]
  rw [e]
 ·simp only [List.map_cons,List.map_nil]
  have e:k+1-1-k=0:=by omega
  rw [e]
  simp only [Int.pow_zero,Int.ediv_one]
  cases x <;> simp [bi] <;> omega
theorem bitsN_numB:∀(n:Nat) (l:List Bool),l.length=n->bitsN (numB l) n=l:=by
 intro n
 induction n with
 | zero=>intro l hl;rw [List.eq_nil_of_length_eq_zero hl];rfl
 | succ n ih=>
  intro l hl
  obtain⟨l',x,rfl⟩:∃l' x,l=l' ++ [x]:=⟨l.dropLast,l.getLast (fun e=>by rw [e] at hl;cases hl),(List.dropLast_concat_getLast _).symm⟩
  have hl':l'.length=n:=by simpa using hl
  rw [numB_snoc,bitsN_double _ _ _ (numB_range l').1,ih l' hl']
def sgnB(M:List Bool)(k:Nat):Int:=if 0<k/\numB M/2 ^ (k-1)=1 then numB M-pw k else numB M
theorem bitsI_numB(M:List Bool)(k:Nat)(h:M.length=k):bitsI (numB M) (k:Int)=M:=by
 unfold bitsI
 rw [if_neg (by have:=(numB_range M).1;omega),Int.toNat_natCast]
 exact bitsN_numB k M h
theorem bitsI_sgnB(M:List Bool)(k:Nat)(h:M.length=k):bitsI (sgnB M k) (k:Int)=M:=by
 have hr:=numB_range M
 rw [h] at hr
 unfold sgnB
 split
 ·unfold bitsI
  rw [if_pos (by omega),Int.toNat_natCast,Int.sub_add_cancel]
  exact bitsN_numB k M h
 ·exact bitsI_numB M k h
theorem fit_sgnB(M:List Bool)(k:Nat)(h:M.length=k)(hk:k<=57):fitB (sgnB M k) (k:Int)=true:=by
 have hr:=numB_range M
 rw [h] at hr
 cases k with
 | zero=>
  have e:M = []:=List.eq_nil_of_length_eq_zero h
  subst e
  rfl
 | succ m=>
  rw [fitB_mid _ _ (by omega) (by omega),decide_eq_true_eq]
  rw [show (((m+1:Nat):Int)-1).toNat=m by omega]
  unfold sgnB
  rw [show m+1-1=m by omega,pw_div]
  rw [pw_succ] at hr ⊢
  have hp:=pw_pos m
  generalize pw m=q at *
  generalize numB M=v at *
  split
  ·next hh=>
   have:=hh.2
   rw [Int.ediv_eq_iff_of_pos (by omega)] at this
   omega
  ·next hh=>
   have h2:v/q<1\/v/q=1:=by
    have:v/q<2:=Int.ediv_lt_of_lt_mul (by omega) (by omega)
    omega
   rcases h2 with h2 | h2
   ·have:v<1*q:=by
     have:=Int.lt_mul_of_ediv_lt (by omega:(0:Int)<q) h2
     omega
    omega
   ·exact absurd ⟨by omega,h2⟩ hh
theorem pre_next{bs:List Int}{L:List Bool}(h:L <+: bitsOf bs)(k:Nat)(hk:L.length+k<=8*bs.length):(L ++ nextB bs L.length k) <+: bitsOf bs:=by
 obtain⟨R,hR⟩:=h
 unfold nextB
 rw [←hR,List.drop_left]
 exact⟨R.drop k,by rw [List.append_assoc,List.take_append_drop]⟩
theorem next_pre{bs:List Int}{L M:List Bool}(h:(L ++ M) <+: bitsOf bs):nextB bs L.length M.length=M/\L.length+M.length<=8*bs.length:=by
 obtain⟨R,hR⟩:=h
 refine⟨?_,?_⟩
 ·unfold nextB
  rw [←hR,List.append_assoc,List.drop_left,List.take_left]
 ·have:=congrArg List.length hR
  rw [length_bitsOf,List.length_append,List.length_append] at this
  omega
theorem pre_len{bs:List Int}{L:List Bool}(h:L <+: bitsOf bs):L.length<=8*bs.length:=by
 have:=h.length_le
 rwa [length_bitsOf] at this
theorem pre_left{L M:List Bool}{B:List Bool}(h:(L ++ M) <+: B):L <+: B:=(List.prefix_append L M).trans h
theorem isBytes_padded(L:List Bool)(n:Nat):isBytes (padded L n):=by
 intro x hx
 obtain⟨i,_,rfl⟩:=List.mem_map.1 hx
 exact byteAt_range L i
def Tells(bs:List Int)(L:List Bool):Prop:=L <+: bitsOf bs/\restF bs L.length=true
theorem tells_padded(L:List Bool)(n:Nat)(h:L.length<=8*n):Tells (padded L n) L:=
 ⟨by rw [bitsOf_padded L n h];exact List.prefix_append _ _,rest_padded L n h⟩
end Go.Proofs.YtgefdmfcddpaiaaGreatDoor
