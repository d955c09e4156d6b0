/- Texts joined: Bytes, Read, End, PadL, PrefL. -/
import Derived.Laws.CopyOwn
import Derived.Deep.QuietTactic
import Derived.BigQuiet
import Derived.Laws.Shifts
import Derived.Deep.LoopGhost
import Derived.Test.YticpdokbiblpoaaGreatDoorPkAF
import Derived.Test.YticpdokbiblpoaaGreatDoorTk
set_option linter.unusedVariables false
set_option maxHeartbeats 1000000
namespace Go.Proofs.YticpdokbiblpoaaGreatDoor
open Go.Proofs.Tryz
open Go.Proofs.Tryz renaming prog → zP
open Go.Value renaming int → vI
open Go.IntKind renaming i64 → iJ
open Go.Ending renaming returned → rJ
set_option maxRecDepth 100000
open Go.RowKit Go.ChangeShapes Go.WideShapes
def cU(L:List Bool)(n:Nat):List Int:=(List.range n).map (dI L)
theorem eQ(L:List Bool)(n:Nat):(cU L n).length=n:=by simp[cU]
theorem EB(L:List Bool)(n:Nat)(h:nb L<=n):splice (List.replicate n (Value.int .u8 0)) 0 ((bytesOf L).map (Value.int .u8))=(cU L n).map (Value.int .u8):=by
 apply List.ext_getElem?;intro i;simp only[splice,List.take_zero,List.nil_append,Nat.zero_add,List.length_map,cY];by_cases hi:i<nb L
 ·rw[List.getElem?_append_left (by simpa[cY]using hi),List.getElem?_map,List.getElem?_map,mU L i hi];simp[cU,show i<n by omega]
 ·rw[List.getElem?_append_right (by simp[cY];omega),List.getElem?_map];simp only[List.length_map,cY,List.getElem?_drop,cU,List.getElem?_map];by_cases hn:i<n
  ·have e:=xB L i (by simp only[nb]at hi;omega);simp[show nb L+(i-nb L)=i by omega,hn,e]
  ·simp[show nb L+(i-nb L)=i by omega,hn]
theorem FE{w:World}{X:Nat->Prop}{L:List Bool}{v:Value}(o:Obj)(hown:ownX X w 5 v (nb L) ((bytesOf L).map (Value.int .u8))):
  ∃sp sc,v=.slice sp (nb L) sc/\(0<nb L->∃ad,sp=some ad/\∀j u,((bytesOf L).map (Value.int .u8))[j]?=some u->(w.alloc o).cell? (ad.add j)=some u):=by
 rcases(hown.old (Old.alloc w o)).shape with ⟨hv,h0⟩ | ⟨g,cap,rfl,_,_,_,_,hc⟩
 ·exact⟨none,0,by rw[hv,h0],fun h=>zO⟩
 ·exact⟨some ⟨g,0,none⟩,cap,rfl,fun _=>⟨_,rfl,fun j u hj=>by rw[add_plain,Nat.zero_add];exact hc j u hj⟩⟩
def gG(L:List Bool)(er size:Int):Int:=if er≠0 then er else if size<0\/2147483647<size then 1 else if size<nb L then 3 else 0
theorem YM(X:Nat->Prop)(b:Nat)(L:List Bool)(er size:Int)(w:World)(h:iQ w X b L er)(he:gG L er size≠0):
  Calls zP 193 #[.pointer (some ⟨b,0,none⟩),vI iJ size] w fun e w'=>e=rJ (.tuple #[.slice none 0 0,vI iJ (gG L er size)])/\w'.Alike w:=by
 obtain⟨hXb,hX,v0,hblk,hown⟩:=h;obtain⟨sp,sc,rfl,_⟩:=FE (.cells #[] 0) hown;obtain⟨c0,c1,c2,f0,f1,f2⟩:=kO hblk;clear hblk hown hX;unfold gG at he |-;by_cases her:er=0
 ·subst her;simp only[ne_eq,not_true_eq_false,if_false]at he |-;by_cases hs:size<0\/2147483647<size
  ·rw[if_pos hs];clear he;rcases hs with hs | hs
   ·go_enter func193,ntmps193;go_wp2
    go_ret2
    exact⟨rfl,rfl,rfl,rfl⟩
   ·go_enter func193,ntmps193;go_wp2
    go_ret2
    exact⟨rfl,rfl,rfl,rfl⟩
  ·rw[if_neg hs]at he |-;have hlt:size<nb L:=by
    by_cases h:size<nb L
    ·exact h
    ·rw[if_neg h]at he;exact absurd rfl he
   rw[if_pos hlt];clear he;have h1:0<=size:=zO;have h2:size<=2147483647:=zO;go_enter func193,ntmps193;go_wp2
   go_ret2
   exact⟨rfl,rfl,rfl,rfl⟩
 ·have hne:(er != 0)=true:=by simpa using her
  rw[if_pos her];clear he;go_enter func193,ntmps193;go_wp2
  go_region
  go_wp2
  go_ret2
  exact⟨rfl,rfl,rfl,rfl⟩
theorem Tryz.size5:(zP.info? 5).map (·.size)=some 1:=zK
theorem sB(l:List Int):∀v∈l.map (Value.int .u8),v.oneCell'=true:=by
 intro v hv;obtain⟨x,_,rfl⟩:=List.mem_map.1 hv;rfl
theorem aDD(X:Nat->Prop)(b:Nat)(L:List Bool)(n:Nat)(w:World)(h:iQ w X b L 0)(hn:n<=2147483647)(hL:nb L<=n):
  Calls zP 193 #[.pointer (some ⟨b,0,none⟩),vI iJ n] w fun e w'=>e=rJ (.tuple #[.slice (some ⟨w.heap.size,0,none⟩) n n,vI iJ 0]) /\
   w'.heap[w.heap.size]?=some (.cells ((cU L n).map (Value.int .u8)).toArray 5 (0,0))/\Below w.heap.size w w':=by
 obtain⟨hXb,hX,v0,hblk,hown⟩:=h;obtain⟨sp,sc,rfl,hsrc⟩:=FE (.cells (madeCells #[Value.int .u8 0] n) 5) hown;obtain⟨c0,c1,c2,f0,f1,f2⟩:=kO hblk;have hmk:=fun W=>run_make_row' (P:=zP) 34 5 (.int .u8 0) 1 underlying34 Tryz.info5 rfl .i64 .i64 n zO zO W;have hnew:Hid ((w.alloc (.cells (madeCells #[Value.int .u8 0] n) 5)).heap[w.heap.size]?=some (.cells (List.replicate n (Value.int .u8 0)).toArray 5 (0,0))):=by
  unfold Hid;rw[<-toList_madeCells_one];exact heap_alloc_new _ _
 have hblt:b<w.heap.size:=lt_of_block hblk;have hq2:Hid (((bytesOf L).map (Value.int .u8)).length=Nat.min (nb L) n):=by unfold Hid;rw[List.length_map,cY];exact(Nat.min_eq_left hL).symm
 have hq3:Hid (0<((bytesOf L).map (Value.int .u8)).length->some (⟨w.heap.size,0,none⟩:Addr)=some ⟨w.heap.size,0,none⟩/\∃ad,sp=some ad/\∀j u,((bytesOf L).map (Value.int .u8))[j]?=some u->(w.alloc (.cells (madeCells #[Value.int .u8 0] n) 5)).cell? (ad.add j)=some u):=
  fun h=>⟨rfl,hsrc (by simpa[cY]using h)⟩
 have hq4:Hid (0+((bytesOf L).map (Value.int .u8)).length<=(List.replicate n (Value.int .u8 0)).length):=by unfold Hid;simp[cY];omega
 have hq6:Hid (Below w.heap.size w (w.alloc (.cells (madeCells #[Value.int .u8 0] n) 5))):=(Below.refl _ _).alloc (Nat.le_refl _) _;clear hblk hown hsrc hX;go_enter func193,ntmps193
 go_wp2_with (with_reducible refine wpList_copy_splice rfl _ _ 34 34 rfl 5 underlying34 Tryz.size5 _ _ _ _ _ _ rfl rfl w.heap.size 0 _ 5 hnew.o ((bytesOf L).map (Value.int .u8)) hq2.o hq3.o hq4.o (sB _) w.heap.size w hq6.o (Nat.le_refl _) ?_;intro w1 h1 hb1)
 go_ret2
 rw[EB L n hL]at h1;exact⟨rfl,h1.o,hb1⟩
def pW(bs:List Int)(i:Nat):Bool:=bs.getD (i/8) 0/2 ^ (7-i%8)%2 == 1
def bY(bs:List Int):List Bool:=(List.range (8*bs.length)).map (pW bs)
theorem eU(bs:List Int):(bY bs).length=8*bs.length:=by simp[bY]
theorem yC(bs:List Int)(i:Nat)(h:i<8*bs.length):(bY bs)[i]?=some (pW bs i):=by simp[bY,h]
def qJ(bs:List Int):Prop:=∀x∈bs,0<=x/\x<=255
def XA(w:World)(v:Value)(b:Nat):Prop:=∀q,v.ownBlock=some q->q≠b/\∃cs,w.heap[q]?=some (.cells cs 5 (0,0))
theorem XA.kept{w w':World}{X:Nat->Prop}{v:Value}{b:Nat}(h:XA w v b)(k:Kept X w w')(hX:∀q,v.ownBlock=some q->q<w.heap.size->X q):XA w' v b:=fun q hq=>by
 obtain⟨h1,cs,h2⟩:=h q hq;exact⟨h1,cs,(k.block q (hX q hq (lt_of_block h2))).trans h2⟩
def eA(w:World)(b:Nat)(bs:List Int)(at_:Nat)(er:Int):Prop:=
 ∃v,w.heap[b]?=some (.cells #[v,vI iJ (at_:Int),vI iJ er] 304 (0,0))/\kK w .u8 v bs/\XA w v b/\qJ bs/\bs.length<=4294967296/\at_<=8*bs.length
theorem kK.kept{w w':World}{X:Nat->Prop}{k:IntKind}{v:Value}{xs:List Int}(h:kK w k v xs)(ho:Kept X w w')(hX:∀q,v.ownBlock=some q->q<w.heap.size->X q):kK w' k v xs:=by
 obtain⟨p,cap,rfl,h⟩:=h;refine⟨p,cap,rfl,fun hne=>?_⟩;obtain⟨b,off,rfl,hb,hl,hm,hc⟩:=h hne;exact⟨b,off,rfl,Nat.lt_of_lt_of_le hb ho.size,hl,hm,fun i hi=>(ho.cell (a:=⟨b,off+i,none⟩) (hX b rfl hb)).trans (hc i hi)⟩
theorem eA.kept{w w':World}{X:Nat->Prop}{b:Nat}{bs:List Int}{at_:Nat}{er:Int}(h:eA w b bs at_ er)(k:Kept X w w')(hX:∀q,q<w.heap.size->X q):eA w' b bs at_ er:=by
 obtain⟨v,hb,hs,hne,hr⟩:=h;exact⟨v,(k.block b (hX b (lt_of_block hb))).trans hb,hs.kept k (fun q _ hq=>hX q hq),hne.kept k (fun q _ hq=>hX q hq),hr⟩
theorem eA.old{w w':World}{b:Nat}{bs:List Int}{at_:Nat}{er:Int}(h:eA w b bs at_ er)(k:Old w w'):eA w' b bs at_ er:=h.kept k fun _ hq=>hq
theorem eA.set1{w:World}{b:Nat}{bs:List Int}{at_ n:Nat}{er:Int}(h:eA w b bs at_ er)(hn:n<=8*bs.length):eA (w.setCell ⟨b,1,none⟩ (vI iJ (n:Int))) b bs n er/\Kept (bH w b) w (w.setCell ⟨b,1,none⟩ (vI iJ (n:Int))):=by
 obtain⟨v,hb,hs,hne,hi,hl,_⟩:=h;have hk:Kept (bH w b) w (w.setCell ⟨b,1,none⟩ (vI iJ (n:Int))):=Kept.setCell _ (a:=⟨b,1,none⟩) (fun h=>h.2 rfl) _;exact⟨⟨v,aW (o:=1) (u:=vI iJ (n:Int)) hb,hs.kept hk (fun q hq hlt=>⟨hlt,(hne q hq).1⟩),hne.kept hk (fun q hq hlt=>⟨hlt,(hne q hq).1⟩),hi,hl,hn⟩,hk⟩
theorem eA.set2{w:World}{b:Nat}{bs:List Int}{at_:Nat}{er e:Int}(h:eA w b bs at_ er):eA (w.setCell ⟨b,2,none⟩ (vI iJ e)) b bs at_ e/\Kept (bH w b) w (w.setCell ⟨b,2,none⟩ (vI iJ e)):=by
 obtain⟨v,hb,hs,hne,hr⟩:=h;have hk:Kept (bH w b) w (w.setCell ⟨b,2,none⟩ (vI iJ e)):=Kept.setCell _ (a:=⟨b,2,none⟩) (fun h=>h.2 rfl) _;exact⟨⟨v,aW (o:=2) (u:=vI iJ e) hb,hs.kept hk (fun q hq hlt=>⟨hlt,(hne q hq).1⟩),hne.kept hk (fun q hq hlt=>⟨hlt,(hne q hq).1⟩),hr⟩,hk⟩
theorem eA.but{w w':World}{b q0:Nat}{bs:List Int}{at_:Nat}{er:Int}{cs:Array Value}{t:TypeId}{fr:Nat × Nat}(h:eA w b bs at_ er)(k:Kept (bH w q0) w w')(h0:w.heap[q0]?=some (.cells cs t fr))(h1:t≠5)(h2:t≠304):eA w' b bs at_ er:=by
 obtain⟨v,hb,hs,hne,hr⟩:=h;have hbq:b≠q0:=fun e=>by
  subst e;rw[h0]at hb;simp only[Option.some.injEq,Obj.cells.injEq]at hb;exact h2 hb.2.1
 have hdq:∀q,v.ownBlock=some q->q≠q0:=fun q hq e=>by
  subst e;obtain⟨_,cs',hcs⟩:=hne q hq;rw[h0]at hcs;simp only[Option.some.injEq,Obj.cells.injEq]at hcs;exact h1 hcs.2.1
 exact⟨v,(k.block b ⟨lt_of_block hb,hbq⟩).trans hb,hs.kept k (fun q hq hlt=>⟨hlt,hdq q hq⟩),hne.kept k (fun q hq hlt=>⟨hlt,hdq q hq⟩),hr⟩
theorem eA.ne{w:World}{b q0:Nat}{bs:List Int}{at_:Nat}{er:Int}{cs:Array Value}{t:TypeId}{fr:Nat × Nat}(h:eA w b bs at_ er)(h0:w.heap[q0]?=some (.cells cs t fr))(h2:t≠304):q0≠b:=fun e=>by
 obtain⟨v,hb,_⟩:=h;subst e;rw[h0]at hb;simp only[Option.some.injEq,Obj.cells.injEq]at hb;exact h2 hb.2.1
theorem QJ(a:Int)(h0:0<=a)(h1:a<=255):bits .and .u8 a 1=a%2:=by
 obtain⟨n,rfl⟩:=Int.eq_ofNat_of_zero_le h0;have ea:(BitVec.ofInt 8 (n:Int)).toNat=n:=by rw[BitVec.ofInt_natCast,BitVec.toNat_ofNat];exact Nat.mod_eq_of_lt zO
 have eb:(BitVec.ofInt 8 1).toNat=1:=rfl;show IntKind.u8.wrap ((BitVec.ofInt 8 (n:Int) &&& BitVec.ofInt 8 1).toNat:Int)=_;rw[BitVec.toNat_and,ea,eb,Nat.and_one_is_mod,IntKind.wrap_u8];omega
theorem aDV(y:Int)(n:Nat)(h0:0<=y)(h1:y<=255):bits .and .u8 (y/2 ^ n) 1=bi (y/2 ^ n%2 == 1):=by
 have hp:(0:Int)<2 ^ n:=Int.pow_pos zO;have a0:0<=y/2 ^ n:=Int.ediv_nonneg h0 zO;have a1:y/2 ^ n<=y:=Int.ediv_le_self _ h0;rw[QJ _ a0 zO,UC]
theorem aGu(b:Nat)(bs:List Int)(at_:Nat)(er:Int)(i:Nat)(w:World)(hi:i<8*bs.length)(h:eA w b bs at_ er):
  Calls zP 236 #[.pointer (some ⟨b,0,none⟩),vI iJ i] w fun e w'=>e=rJ (.int .u8 (bi (pW bs i)))/\w=w':=by
 obtain⟨v,hb,hs,hne,hbt,hl,_⟩:=h;obtain⟨c0,c1,c2,f0,f1,f2⟩:=kO hb;obtain⟨p,cap,rfl,hc⟩:=hs;have hlen:i/8<bs.length:=zO;obtain⟨g,off,rfl,_,hlc,hcm,hcell⟩:=hc (by intro e;rw[e]at hlen;simp at hlen);have hc0:=hcell (i/8) hlen;have hr:0<=bs.getD (i/8) 0/\bs.getD (i/8) 0<=255:=hbt _ (by simp only[List.getD,List.getElem?_eq_getElem hlen,Option.getD_some];exact List.getElem_mem hlen);have hfin:=zH (aDV (bs.getD (i/8) 0) (7-i%8) hr.1 hr.2);unfold pW;clear hcell hc hb hbt hne;generalize bs.getD (i/8) 0=y at *;obtain⟨r0,r1⟩:=hr;go_enter func236,ntmps236;go_wp2;go_ret;exact⟨by rw[<-hfin.o];rfl,rfl⟩
theorem pR(b:Nat)(bs:List Int)(at_:Nat)(er e:Int)(w:World)(h:eA w b bs at_ er):
  Calls zP 201 #[.pointer (some ⟨b,0,none⟩),vI iJ e] w fun en w'=>en=rJ (.tuple #[])/\eA w' b bs at_ (if er=0 then e else er)/\Kept (bH w b) w w':=by
 have h2:=h.set2 (e:=e);have hh:=h;obtain⟨v,hb,hs,hne,hbt,hl,_⟩:=h;obtain⟨c0,c1,c2,f0,f1,f2⟩:=kO hb;by_cases her:er=0
 ·rw[if_pos her];subst her;have H2:=zH h2;clear hb hs hne hbt h2 hh;go_enter func201,ntmps201;go_wp2
  go_end0
  exact⟨rfl,H2.o⟩
 ·rw[if_neg her];have hne':(er == 0)=false:=by simpa using her
  have H2:=zH hh;clear hb hs hne hbt h2 hh;go_enter func201,ntmps201;go_wp2
  go_end0
  exact⟨rfl,H2.o,Kept.refl _ _⟩
theorem aFm(b:Nat)(bs:List Int)(at_:Nat)(er:Int)(w:World)(h:eA w b bs at_ er):
  Calls zP 204 #[.pointer (some ⟨b,0,none⟩)] w fun en w'=>en=rJ (vI iJ er)/\w=w':=by
 obtain⟨v,hb,_⟩:=h;obtain⟨c0,c1,c2,f0,f1,f2⟩:=kO hb;clear hb;go_enter func204,ntmps204;go_wp2;go_ret;exact⟨rfl,rfl⟩
theorem sW(b:Nat)(bs:List Int)(at_:Nat)(er:Int)(w:World)(h:eA w b bs at_ er):
  Calls zP 203 #[.pointer (some ⟨b,0,none⟩)] w fun en w'=>en=rJ (vI iJ (if er=0 then((8*bs.length-at_:Nat):Int) else 0))/\∃n,w'=w.drewN n:=by
 obtain⟨v,hb,hs,_,_,hl,hat⟩:=h;obtain⟨p,cap,rfl,_⟩:=hs;obtain⟨c0,c1,c2,f0,f1,f2⟩:=kO hb;clear hb;by_cases her:er=0
 ·rw[if_pos her];subst her;have e1:IntKind.i64.wrap (8*(bs.length:Int))=8*(bs.length:Int):=IntWalk.i64_in _ zO;have e2:IntKind.i64.wrap (8*(bs.length:Int)-at_)=8*(bs.length:Int)-at_:=IntWalk.i64_in _ zO;have e3:Hid ((8*(bs.length:Int)-at_)=((8*bs.length-at_:Nat):Int)):=by unfold Hid;omega
  go_enter func203,ntmps203
  go_wp2_with fail
  go_quiet (fail)
  go_wp2_with fail
  go_ret;exact⟨by rw[<-e3.o];rfl,_,rfl⟩
 ·rw[if_neg her];have hne':(er != 0)=true:=by simpa using her
  go_enter func203,ntmps203
  go_wp2_with fail
  go_ret;exact⟨rfl,0,rfl⟩
def eV(l:List Bool):Int:=l.foldl (fun v x=>2*v+bi x) 0
theorem mL(l:List Bool)(x:Bool):eV (l ++ [x])=2*eV l+bi x:=by simp[eV]
theorem gA(l:List Bool):0<=eV l/\eV l<pw l.length:=by
 suffices h:∀n,∀l:List Bool,l.length=n->0<=eV l/\eV l<pw n from h _ l rfl
 intro n
 induction n with
 | zero=>intro l hl;rw[List.eq_nil_of_length_eq_zero hl];exact⟨zD,zD⟩
 | succ n ih=>
  intro l hl;obtain⟨l',x,rfl⟩:∃l' x,l=l' ++ [x]:=⟨l.dropLast,l.getLast (fun e=>by rw[e]at hl;cases hl),(List.dropLast_concat_getLast _).symm⟩
  have:=ih l' (by simpa using hl);have hb:=iK x;rw[mL,kQ];omega
theorem VN(a b:Nat)(ha:a<18446744073709551616)(hb:b<18446744073709551616):bits .or .u64 (a:Int) (b:Int)=((a ||| b:Nat):Int):=by
 have hx:a ||| b<2 ^ 64:=Nat.or_lt_two_pow zO zO;have ea:(BitVec.ofInt 64 (a:Int)).toNat=a:=by rw[BitVec.ofInt_natCast,BitVec.toNat_ofNat];exact Nat.mod_eq_of_lt zO
 have eb:(BitVec.ofInt 64 (b:Int)).toNat=b:=by rw[BitVec.ofInt_natCast,BitVec.toNat_ofNat];exact Nat.mod_eq_of_lt zO
 show IntKind.u64.wrap ((BitVec.ofInt 64 (a:Int) ||| BitVec.ofInt 64 (b:Int)).toNat:Int)=_;rw[BitVec.toNat_or,ea,eb,IntKind.wrap_u64];omega
theorem aHn(v:Int)(x:Bool)(h0:0<=v)(h1:v<4611686018427387904):bits .or .u64 (v*2) (bi x)=2*v+bi x:=by
 obtain⟨n,rfl⟩:=Int.eq_ofNat_of_zero_le h0;have e2:bi x=(((bi x).toNat:Nat):Int):=by cases x <;> rfl
 have hlt:(bi x).toNat<2 ^ 1:=by cases x <;> decide
 rw[e2,show ((n:Int)*2)=((2 ^ 1*n:Nat):Int) by omega,VN _ _ zO zO,<-Nat.two_pow_add_eq_or_of_lt hlt n];omega
def cT(bs:List Int)(i k:Nat):List Bool:=((bY bs).drop i).take k
theorem QO(bs:List Int)(i j:Nat)(h:i+j<8*bs.length):cT bs i (j+1)=cT bs i j ++ [pW bs (i+j)]:=by
 unfold cT;have hl:j<((bY bs).drop i).length:=by rw[List.length_drop,eU];omega
 rw[List.take_succ_eq_append_getElem hl];congr 1;have:=yC bs (i+j) h;simp only[List.getElem_drop,List.cons.injEq,and_true];rw[List.getElem?_eq_getElem (by rw[eU];exact h)]at this;simpa using this
theorem uM(bs:List Int)(i j:Nat)(h:i+j<=8*bs.length):(cT bs i j).length=j:=by
 unfold cT;rw[List.length_take,List.length_drop,eU];omega
def cZ(bs:List Int)(i:Nat)(er k:Int):Int × Nat × Int:=
 if k<0\/57<k then(0,i,if er=0 then 1 else er)
 else if er≠0 then(0,i,er)
 else if ((8*bs.length-i:Nat):Int)<k then(0,i,2)
 else(eV (cT bs i k.toNat),i+k.toNat,0)
def aES(w:World)(b:Nat)(bs:List Int)(i:Nat)(j:Nat)(wr:World):Prop:=eA wr b bs (i+j) 0/\Kept (bH w b) w wr
theorem aAL{w wr:World}{b:Nat}{bs:List Int}{i j:Nat}(h:aES w b bs i j wr)(hj:i+j<8*bs.length):aES w b bs i (j+1) (wr.setCell ⟨b,1,none⟩ (vI iJ (((i+j:Nat):Int)+1))):=by
 have:=h.1.set1 (n:=i+(j+1)) zO;have e:((i+(j+1):Nat):Int)=((i+j:Nat):Int)+1:=zO;rw[e]at this;have hsz:=h.2.size;exact⟨this.1,h.2.trans (this.2.mono fun q hq=>⟨Nat.lt_of_lt_of_le hq.1 hsz,hq.2⟩)⟩
theorem KW(b:Nat)(bs:List Int)(i:Nat)(k:Nat)(w:World)(hk:k<=57)(hl:i+k<=8*bs.length)(h:eA w b bs i 0):
  Calls zP 200 #[.pointer (some ⟨b,0,none⟩),vI iJ k] w fun en w'=>en=rJ (.int .u64 (eV (cT bs i k)))/\eA w' b bs (i+k) 0/\Kept (bH w b) w w':=by
 have hw:Hid (mB k=true):=by unfold Hid mB;simp;omega
 have cL:=zH (sW b bs i 0 w h);rw[if_pos rfl]at cL;have hst:∀n,aES w b bs i 0 (w.drewN n):=fun n=>⟨h.kept ((Kept.refl (fun _=>True) w).drewN n) (fun _ _=>trivial),(Kept.refl _ w).drewN n⟩
 have HST:=zH hst;have hlr:((8*bs.length-i:Nat):Int)>=k:=zO;generalize hq:((8*bs.length-i:Nat):Int)=q at *;clear hq hst h;go_enter func200,ntmps200
 go_wp2_with fail
 refine(eJ k w).mono ?_;rintro e w' ⟨rfl,rfl⟩;rw[hw.o]
 go_wp2_with fail
 refine cL.o.mono ?_;rintro e w1 ⟨rfl,nq,rfl⟩
 go_wp2_with fail
 go_loopw [5,18] (fun vv vi wr=>∃j:Nat,j<=k/\vi=vI iJ j/\vv=.int .u64 (eV (cT bs i j))/\aES w b bs i j wr) (fun _ vi _=>k-(intOf vi).toNat)
 case atStart=>exact⟨0,zO,rfl,rfl,HST.o _⟩
 case round=>
  obtain⟨j,hj,rfl,rfl,hg⟩:=hrel;by_cases hlt:j<k
  ·obtain⟨v,hb,_⟩:=hg.1;obtain⟨c0,c1,c2,f0,f1,f2⟩:=kO hb;have cb:=zH (aGu b bs _ 0 (i+j) wr zO hg.1);have hn:=zH (aAL hg zO);have hr:=gA (cT bs i j);rw[uM bs i j zO]at hr;have hpw:=lY j 56 zO;rw[show pw 56=72057594037927936 from rfl]at hpw;have hs:=zH (show eV (cT bs i (j+1))=2*eV (cT bs i j)+bi (pW bs (i+j)) from by rw[QO bs i j zO,mL]);have ho:=zH (aHn (eV (cT bs i j)) (pW bs (i+j)) hr.1 zO);have hb1:=iK (pW bs (i+j));have hij:((i+j:Nat):Int)<=34359738368:=by have:=hg.1;obtain⟨_,_,_,_,_,h4,_⟩:=this;omega
   have hij0:0<=((i+j:Nat):Int):=zO;obtain⟨r0,r1⟩:=hr;obtain⟨b0,b1⟩:=hb1;have r2:eV (cT bs i j)<=72057594037927936:=zO;generalize ((i+j:Nat):Int)=ij at *;generalize eV (cT bs i j)=y at *;generalize bi (pW bs (i+j))=c at *;clear hg hb hpw r1
   go_wp2_with fail
   refine cb.o.mono ?_;rintro e w2 ⟨rfl,rfl⟩;go_wp2;go_roundw
   case rel=>exact⟨j+1,zO,by go_num,by rw[hs.o,<-ho.o],hn.o⟩
   case measure=>exact zM
  ·obtain rfl:j=k:=zO;have hend:=zH hg.1;have hend2:=zH hg.2;clear hg
   go_wp2_with fail
   go_ret;exact⟨rfl,hend.o,hend2.o⟩
theorem VT(b:Nat)(bs:List Int)(i:Nat)(er k:Int)(w:World)(h:eA w b bs i er):
  Calls zP 200 #[.pointer (some ⟨b,0,none⟩),vI iJ k] w fun en w'=>en=rJ (.int .u64 (cZ bs i er k).1)/\eA w' b bs (cZ bs i er k).2.1 (cZ bs i er k).2.2/\Kept (bH w b) w w':=by
 have hb8:i<=8*bs.length:=by obtain⟨_,_,_,_,_,_,h6⟩:=h;exact h6
 by_cases hk:k<0\/57<k
 ·have hg:cZ bs i er k=(0,i,if er=0 then 1 else er):=by unfold cZ;rw[if_pos hk]
  rw[hg];have hw:Hid (mB k=false):=by unfold Hid mB;simp;omega
  have cF:=zH (pR b bs i er 1 w h);clear h hg hk;simp only[];generalize (if er=0 then(1:Int) else er)=er' at *;go_enter func200,ntmps200
  go_wp2_with fail
  refine(eJ k w).mono ?_;rintro e w' ⟨rfl,rfl⟩;rw[hw.o]
  go_wp2_with fail
  refine cF.o.mono ?_;rintro e w1 ⟨rfl,hf⟩;have HF:=zH hf;clear hf
  go_wp2_with fail
  go_ret;exact⟨rfl,HF.o⟩
 ·obtain⟨n,rfl⟩:=Int.eq_ofNat_of_zero_le (show 0<=k by omega);by_cases her:er=0
  ·subst her;by_cases hs:((8*bs.length-i:Nat):Int)<(n:Int)
   ·have hg:cZ bs i 0 n=(0,i,2):=by unfold cZ;rw[if_neg hk,if_neg zS,if_pos hs]
    rw[hg];have hw:Hid (mB n=true):=by unfold Hid mB;simp;omega
    have cL:=zH (sW b bs i 0 w h);rw[if_pos rfl]at cL;have cF:=zH (fun m=>pR b bs i 0 2 (w.drewN m) (h.kept ((Kept.refl (fun _=>True) w).drewN m) (fun _ _=>trivial)));simp only[if_true]at cF;generalize ((8*bs.length-i:Nat):Int)=q at *;clear h hg hk hb8;go_enter func200,ntmps200
    go_wp2_with fail
    refine(eJ n w).mono ?_;rintro e w' ⟨rfl,rfl⟩;rw[hw.o]
    go_wp2_with fail
    refine cL.o.mono ?_;rintro e w1 ⟨rfl,nq,rfl⟩
    go_wp2_with fail
    refine(cF.o nq).mono ?_;rintro e w1 ⟨rfl,hf1,hf2⟩;have HF:=zH hf1;have HF2:=zH (show Kept (bH w b) w w1 from((Kept.refl _ w).drewN nq).trans (hf2.mono fun q hq=>hq));clear hf1 hf2
    go_wp2_with fail
    go_ret;exact⟨rfl,HF.o,HF2.o⟩
   ·have hg:cZ bs i 0 n=(eV (cT bs i n),i+n,0):=by unfold cZ;rw[if_neg hk,if_neg zS,if_neg hs];rfl
    rw[hg];exact KW b bs i n w zO zO h
  ·have hg:cZ bs i er n=(0,i,er):=by unfold cZ;rw[if_neg hk,if_pos her]
   rw[hg];have hw:Hid (mB n=true):=by unfold Hid mB;simp;omega
   have cL:=zH (sW b bs i er w h);rw[if_neg her]at cL;have cF:=zH (fun m=>pR b bs i er 2 (w.drewN m) (h.kept ((Kept.refl (fun _=>True) w).drewN m) (fun _ _=>trivial)));have hq:=zH (fun m=>h.kept ((Kept.refl (fun _=>True) w).drewN m) (fun _ _=>trivial));simp only[if_neg her]at cF;by_cases h0:n=0
   ·subst h0;clear h hg hk hb8 her cF hw;have hw:Hid (mB 0=true):=by unfold Hid;rfl
    go_enter func200,ntmps200
    go_wp2_with fail
    refine(eJ _ w).mono ?_;rintro e w' ⟨rfl,rfl⟩;rw[hw.o]
    go_wp2_with fail
    refine cL.o.mono ?_;rintro e w1 ⟨rfl,nq,rfl⟩
    go_wp2_with fail
    refine wp_loop_rounds 1 ?_;rw[rounds_succ]
    go_wp2_with fail
    go_ret;exact⟨rfl,hq.o nq,(Kept.refl _ w).drewN nq⟩
   ·have hpos:(0:Int)<n:=zO;clear h hg hk hb8 her h0;go_enter func200,ntmps200
    go_wp2_with fail
    refine(eJ n w).mono ?_;rintro e w' ⟨rfl,rfl⟩;rw[hw.o]
    go_wp2_with fail
    refine cL.o.mono ?_;rintro e w1 ⟨rfl,nq,rfl⟩
    go_wp2_with fail
    refine(cF.o nq).mono ?_;rintro e w1 ⟨rfl,hf1,hf2⟩;have HF:=zH hf1;have HF2:=zH (show Kept (bH w b) w w1 from((Kept.refl _ w).drewN nq).trans (hf2.mono fun q hq=>hq));clear hf1 hf2
    go_wp2_with fail
    go_ret;exact⟨rfl,HF.o,HF2.o⟩
theorem aEC{w:World}{p:Option Addr}{n cap:Nat}{bs:List Int}(o:Obj)(h:kK w .u8 (.slice p n cap) bs):
  0<(bs.map (Value.int .u8)).length->some (⟨w.heap.size,0,none⟩:Addr)=some ⟨w.heap.size,0,none⟩/\∃ad,p=some ad/\∀j u,(bs.map (Value.int .u8))[j]?=some u->(w.alloc o).cell? (ad.add j)=some u:=by
 intro h0;rw[List.length_map]at h0;obtain⟨hl,hc⟩:=(h.old (Old.alloc w o)).cellAt;obtain⟨b,off,hp,_,_,_,hcell⟩:=hc zO;refine⟨rfl,_,hp,fun j u hj=>?_⟩;rw[List.getElem?_map]at hj;obtain⟨x,hx,rfl⟩:=Option.map_eq_some_iff.1 hj;have hjl:j<bs.length:=(List.getElem?_eq_some_iff.1 hx).1;rw[add_plain,hcell j zO];simp[List.getD,hx]
theorem RQ(bs:List Int)(n:Nat)(h:bs.length=n):splice (List.replicate n (Value.int .u8 0)) 0 (bs.map (Value.int .u8))=bs.map (Value.int .u8):=by
 subst h;simp[splice]
theorem aHE{w w1:World}{n:Nat}{bs:List Int}(hn:bs.length=n)(hbt:qJ bs)(hl:bs.length<=4294967296)(h:w1.heap[w.heap.size]?=some (.cells (bs.map (Value.int .u8)).toArray 5 (0,0)))(hb:Below w.heap.size w w1):
  eA (w1.alloc (.cells #[.slice (some ⟨w.heap.size,0,none⟩) n n,vI iJ 0,vI iJ 0] 304)) w1.heap.size bs 0 0/\Old w (w1.alloc (.cells #[.slice (some ⟨w.heap.size,0,none⟩) n n,vI iJ 0,vI iJ 0] 304)):=by
 have hlt:=lt_of_block h;subst hn;refine⟨⟨_,heap_alloc_new _ _,⟨_,_,rfl,fun hne=>⟨w.heap.size,0,rfl,by simp;omega,Nat.le_refl _,by unfold maxLen;omega,fun i hi=>?_⟩⟩,fun q hq=>by
  have hq':w.heap.size=q:=by simpa[Value.ownBlock]using hq
  subst hq';exact⟨zO,_,(Below.heap_alloc w1 _ _ hlt).trans h⟩,hbt,hl,Nat.zero_le _⟩,(Old.below hb).alloc' _⟩
 have:=(Below.heap_alloc w1 (.cells #[.slice (some ⟨w.heap.size,0,none⟩) bs.length bs.length,vI iJ 0,vI iJ 0] 304) _ hlt).trans h;simp[World.cell?,this,hi,List.getD]
theorem aCh(v:Value)(bs:List Int)(w:World)(hv:kK w .u8 v bs)(hbt:qJ bs)(hl:bs.length<=4294967296):
  Calls zP 150 #[v] w fun e w'=>∃b,e=rJ (.pointer (some ⟨b,0,none⟩))/\eA w' b bs 0 0/\Old w w'/\w.heap.size<=b:=by
 obtain⟨p,n,cap,rfl,hn,_⟩:∃p n cap,v=.slice p n cap/\bs.length=n/\True:=by obtain⟨p,cap,rfl,_⟩:=hv;exact⟨p,bs.length,cap,rfl,rfl,trivial⟩
 have hnb:n<=4294967296:=zO;have hmk:=fun W=>run_make_row' (P:=zP) 34 5 (.int .u8 0) 1 underlying34 Tryz.info5 rfl .i64 .i64 n zO zO W;have hnew:Hid ((w.alloc (.cells (madeCells #[Value.int .u8 0] n) 5)).heap[w.heap.size]?=some (.cells (List.replicate n (Value.int .u8 0)).toArray 5 (0,0))):=by
  unfold Hid;rw[<-toList_madeCells_one];exact heap_alloc_new _ _
 have hq2:Hid ((bs.map (Value.int .u8)).length=Nat.min n n):=by unfold Hid;rw[List.length_map,hn];exact(Nat.min_self n).symm
 have hq3:=zH (aEC (.cells (madeCells #[Value.int .u8 0] n) 5) hv);have hq4:Hid (0+(bs.map (Value.int .u8)).length<=(List.replicate n (Value.int .u8 0)).length):=by unfold Hid;simp[hn]
 have hq6:Hid (Below w.heap.size w (w.alloc (.cells (madeCells #[Value.int .u8 0] n) 5))):=(Below.refl _ _).alloc (Nat.le_refl _) _;have hfin:=zH (fun w1 h hb=>aHE (w:=w) (w1:=w1) hn hbt hl h hb);have HS:=zH (RQ bs n hn);clear hv hn hbt hl;go_enter func150,ntmps150
 go_wp2_with (with_reducible refine wpList_copy_splice rfl _ _ 34 34 rfl 5 underlying34 Tryz.size5 _ _ _ _ _ _ rfl rfl w.heap.size 0 _ 5 hnew.o (bs.map (Value.int .u8)) hq2.o hq3.o hq4.o (sB _) w.heap.size w hq6.o (Nat.le_refl _) ?_;intro w1 h1 hb1;have H1:=zH h1;have HB:=zH hb1;clear h1 hb1)
 go_ret;have h1:=H1.o.o;rw[HS.o]at h1;have hf:=hfin.o w1 h1 HB.o;exact⟨_,rfl,hf.1,hf.2,HB.o.size⟩
def sX(bs:List Int)(i:Nat)(er k:Int):Int:=if 0<k/\(cZ bs i er k).1/2 ^ (k.toNat-1)=1 then(cZ bs i er k).1-pw k.toNat else(cZ bs i er k).1
theorem wE(bs:List Int)(i:Nat)(er k:Int)(hi:i<=8*bs.length):0<=(cZ bs i er k).1/\(cZ bs i er k).1<144115188075855872/\((cZ bs i er k).1≠0->0<=k/\k<=57):=by
 unfold cZ;split
 ·exact⟨zS,zS,fun h=>absurd rfl h⟩
 ·split
  ·exact⟨zS,zS,fun h=>absurd rfl h⟩
  ·split
   ·exact⟨zS,zS,fun h=>absurd rfl h⟩
   ·have:=gA (cT bs i k.toNat);rw[uM bs i _ zO]at this;have hm:=lY k.toNat 57 zO;rw[show pw 57=144115188075855872 from rfl]at hm;exact⟨this.1,by simp only[];omega,fun _=>zO⟩
theorem PH(b:Nat)(bs:List Int)(i:Nat)(er k:Int)(w:World)(hk63:-9223372036854775808<=k/\k<=9223372036854775807)(h:eA w b bs i er):
  Calls zP 153 #[.pointer (some ⟨b,0,none⟩),vI iJ k] w fun en w'=>en=rJ (vI iJ (sX bs i er k))/\eA w' b bs (cZ bs i er k).2.1 (cZ bs i er k).2.2/\Kept (bH w b) w w':=by
 have hi:i<=8*bs.length:=by obtain⟨_,_,_,_,_,_,h6⟩:=h;exact h6
 have hr:=wE bs i er k hi;have cG:=zH (VT b bs i er k w h);unfold sX;generalize cZ bs i er k=g at *;obtain⟨g,ga,ge⟩:=g;simp only[]at *;obtain⟨r0,r1,r2⟩:=hr;clear h hi;by_cases h0:0<k
 ·by_cases h57:k<=57
  ·by_cases ht:g/2 ^ (k.toNat-1)=1
   ·rw[if_pos ⟨h0,ht⟩];have hp:=fI k.toNat
    have hq:=sR k.toNat zO;have he:wrap64 ((2:Int) ^ k.toNat)=pw k.toNat:=IntWalk.wrap64_in _ ⟨by show _<=pw k.toNat;omega,by show pw k.toNat<=_;omega⟩;have htb:(g/2 ^ (k.toNat-1) == 1)=true:=by simpa using ht
    generalize pw k.toNat=q at *;clear ht r2;go_enter func153,ntmps153
    go_wp2_with fail
    refine cG.o.mono ?_;rintro e w1 ⟨rfl,hg⟩;have HG:=zH hg;clear hg
    go_wp2_with fail
    go_ret;exact⟨rfl,HG.o⟩
   ·rw[if_neg (fun hh=>ht hh.2)];have htb:(g/2 ^ (k.toNat-1) == 1)=false:=by simpa using ht
    clear ht r2;go_enter func153,ntmps153
    go_wp2_with fail
    refine cG.o.mono ?_;rintro e w1 ⟨rfl,hg⟩;have HG:=zH hg;clear hg
    go_wp2_with fail
    go_ret;exact⟨rfl,HG.o⟩
  ·obtain rfl:g=0:=by
    by_cases hg:g=0
    ·exact hg
    ·have:=r2 hg;omega
   rw[if_neg zS];have hs:Op.shift .shr .i64 0 .i64 (k-1)=pure (vI iJ 0):=by rw[shift_shr_any _ _ _ _ zO];simp
   clear r2;go_enter func153,ntmps153
   go_wp2_with fail
   refine cG.o.mono ?_;rintro e w1 ⟨rfl,hg⟩;have HG:=zH hg;clear hg
   go_wp2_with fail
   go_ret;exact⟨rfl,HG.o⟩
 ·rw[if_neg (fun hh=>h0 hh.1)];clear r2;go_enter func153,ntmps153
  go_wp2_with fail
  refine cG.o.mono ?_;rintro e w1 ⟨rfl,hg⟩;have HG:=zH hg;clear hg
  go_wp2_with fail
  go_ret;exact⟨rfl,HG.o⟩
def oZ(bs:List Int)(i:Nat):Bool:=((bY bs).drop i).all (· == false)
def lJ(bs:List Int)(i:Nat)(er:Int):Int:=if er=0 then(if oZ bs i then 0 else 4) else er
theorem FN(l:List Bool):eV l=0↔l.all (· == false)=true:=by
 suffices h:∀n,∀l:List Bool,l.length=n->(eV l=0↔l.all (· == false)=true) from h _ l rfl
 intro n
 induction n with
 | zero=>intro l hl;rw[List.eq_nil_of_length_eq_zero hl];exact⟨fun _=>rfl,fun _=>rfl⟩
 | succ n ih=>
  intro l hl;obtain⟨l',x,rfl⟩:∃l' x,l=l' ++ [x]:=⟨l.dropLast,l.getLast (fun e=>by rw[e]at hl;cases hl),(List.dropLast_concat_getLast _).symm⟩
  have h1:=ih l' (by simpa using hl);have h2:=gA l';rw[mL,List.all_append,Bool.and_eq_true,<-h1];cases x <;> simp[bi] <;> omega
theorem wS(bs:List Int)(i k:Nat):oZ bs i=((cT bs i k).all (· == false) && oZ bs (i+k)):=by
 unfold oZ cT;rw[<-List.drop_drop,<-List.all_append,List.take_append_drop]
theorem ZD(bs:List Int):oZ bs (8*bs.length)=true:=by
 unfold oZ;rw[List.drop_eq_nil_of_le (by rw[eU];exact Nat.le_refl _)];rfl
theorem QK(bs:List Int)(i k:Nat)(h:eV (cT bs i k)=0):lJ bs (i+k) 0=lJ bs i 0:=by
 unfold lJ;rw[wS bs i k,(FN _).1 h,Bool.true_and]
theorem UJ(bs:List Int)(i k:Nat)(h:eV (cT bs i k)≠0)(j:Nat):lJ bs j 4=lJ bs i 0:=by
 unfold lJ;have:(cT bs i k).all (· == false)=false:=by
  cases e:(cT bs i k).all (· == false) with
  | true=>exact absurd ((FN _).2 e) h
  | false=>rfl
 rw[wS bs i k,this];simp
theorem UU(bs:List Int)(j:Nat)(er:Int)(h:er≠0\/j=8*bs.length):lJ bs j er=er:=by
 unfold lJ;by_cases he:er=0
 ·subst he;rcases h with h | h
  ·exact absurd rfl h
  ·subst h;simp[ZD]
 ·rw[if_neg he]
theorem uH(b:Nat)(bs:List Int)(at_:Nat)(er:Int)(w:World)(h:eA w b bs at_ er):
  Calls zP 203 #[.pointer (some ⟨b,0,none⟩)] w fun en w'=>en=rJ (vI iJ (if er=0 then((8*bs.length-at_:Nat):Int) else 0))/\eA w' b bs at_ er/\Kept (fun _=>True) w w':=by
 refine(sW b bs at_ er w h).mono ?_;rintro e w' ⟨rfl,n,rfl⟩;exact⟨rfl,h.kept ((Kept.refl (fun _=>True) w).drewN n) (fun _ _=>trivial),(Kept.refl _ w).drewN n⟩
def aIg(w:World)(b:Nat)(bs:List Int)(i:Nat)(er:Int)(g:Nat)(wr:World):Prop:=
 ∃j er',eA wr b bs j er'/\Kept (bH w b) w wr/\lJ bs j er'=lJ bs i er/\g=(if er'=0 then 8*bs.length-j else 0)/\j<=8*bs.length
def aIN(w:World)(b:Nat)(bs:List Int)(r:Int)(e:Ending)(w':World):Prop:=e=rJ (vI iJ r)/\(∃j,eA w' b bs j r/\(r=0->j=8*bs.length))/\Kept (bH w b) w w'
theorem aGj(b:Nat)(bs:List Int)(i:Nat)(er:Int)(w:World)(h:eA w b bs i er):
  Calls zP 155 #[.pointer (some ⟨b,0,none⟩)] w (aIN w b bs (lJ bs i er)):=by
 have hi:i<=8*bs.length:=by obtain⟨_,_,_,_,_,_,h6⟩:=h;exact h6
 have hst:aIg w b bs i er (if er=0 then 8*bs.length-i else 0) w:=⟨i,er,h,Kept.refl _ _,rfl,rfl,hi⟩
 have HST:=zH hst;clear h hi hst;go_enter func155,ntmps155
 go_wp2_with fail
 go_loopg [] (if er=0 then 8*bs.length-i else 0) (fun g wr=>aIg w b bs i er g wr)
 case atStart=>exact HST.o
 case round=>
  obtain⟨j,er',hr,hk,he,hg,hj⟩:=hrel;have hbl:bs.length<=4294967296:=by obtain⟨_,_,_,_,_,h5,_⟩:=hr;exact h5
  by_cases hgo:er'=0/\j<8*bs.length
  ·obtain⟨rfl,hlt⟩:=hgo;rw[if_pos rfl]at hg;obtain⟨q,hq⟩:∃q:Nat,q=8*bs.length-j:=⟨_,rfl⟩
   have cL:=zH (uH b bs j 0 wr hr);rw[if_pos rfl,<-hq]at cL;have hq0:0<q:=zO;have hq1:q<=34359738368:=zO;have cL2:=zH (fun w1 (h1:eA w1 b bs j 0)=>(by have:=uH b bs j 0 w1 h1;rw[if_pos rfl,<-hq]at this;exact this:Calls zP 203 #[.pointer (some ⟨b,0,none⟩)] w1 fun en w'=>en=rJ (vI iJ (q:Int))/\eA w' b bs j 0/\Kept (fun _=>True) w1 w'));have HG:=zH hg;have HE:=zH he;have HK:=zH hk;have HR:=zH hr;by_cases h57:q<=57
   case' pos=>
    obtain⟨k,hk0⟩:∃k:Nat,k=q:=⟨_,rfl⟩
    have cG:=zH (fun w2 (h2:eA w2 b bs j 0)=>KW b bs j q w2 zO zO h2);rw[<-hk0]at cG;have hkq:k<=q:=zO;have hk1:0<k:=zO;have hjk:j+k<=8*bs.length:=zO;have hge:(q:Int)<=57:=zO;rw[hk0]at cG;have HK0:=zH hk0
   case' neg=>
    obtain⟨k,hk0⟩:∃k:Nat,k=57:=⟨_,rfl⟩
    have cG:=zH (fun w2 (h2:eA w2 b bs j 0)=>(KW b bs j 57 w2 zO zO h2:Calls zP 200 #[.pointer (some ⟨b,0,none⟩),vI iJ 57] w2 _));have hkq:k<=q:=zO;have hk1:0<k:=zO;have hjk:j+k<=8*bs.length:=zO;have hge:¬(q:Int)<=57:=zO;have HK0:=zH hk0
   all_goals
    have HQ:=zH hq;clear hg hq he hk hr hk0
    go_wp2_with fail
    refine cL.o.mono ?_;rintro e w1 ⟨rfl,hr1,hk1'⟩;have HR1:=zH hr1;have HK1:=zH (HK.o.trans (hk1'.mono fun _ _=>trivial));clear hr1 hk1' cL HK HR
    go_wp2_with fail
    refine(cL2.o w1 HR1.o).mono ?_;rintro e w2 ⟨rfl,hr2,hk2'⟩;have HR2:=zH hr2;have HK2:=zH (HK1.o.trans (hk2'.mono fun _ _=>trivial));clear hr2 hk2' cL2 HK1 HR1
    go_wp2_with fail
    refine(cG.o w2 HR2.o).mono ?_;rintro e w3 ⟨rfl,hr3,hk3'⟩;rw[<-HK0.o]at hr3 |-;have HR3:=zH hr3;have HK3:=zH (HK2.o.trans (hk3'.mono fun q hq=>⟨Nat.lt_of_lt_of_le hq.1 HK2.o.size,hq.2⟩));have hz:=QK bs j k;have hs:=UJ bs j k;have HZ:=zH hz;have HS:=zH hs;clear hr3 hk3' hz hs HK2 HR2 cG;generalize eV (cT bs j k)=v at *;by_cases hv:v=0
    ·subst hv;have HD:=zH ((HZ.o rfl).trans HE.o);clear HZ HS HE
     go_wp2_with fail
     go_roundg (gk-k)
     case measure=>have:=HG.o;omega
     case rel=>exact⟨j+k,0,HR3.o,HK3.o,HD.o,by have:=HG.o;rw[if_pos rfl];omega,hjk⟩
    ·have HD:=zH ((HS.o hv (j+k)).trans HE.o);have hvb:(v != 0)=true:=by simpa using hv
     have cF:=zH (pR b bs (j+k) 0 4 w3 HR3.o);clear HZ HS HE hv
     go_wp2_with fail
     refine cF.o.mono ?_;rintro e w4 ⟨rfl,hr4,hk4⟩;simp only[if_true]at hr4;have HR4:=zH hr4;have HK4:=zH (HK3.o.trans (hk4.mono fun q hq=>⟨Nat.lt_of_lt_of_le hq.1 HK3.o.size,hq.2⟩));clear hr4 hk4
     go_wp2_with fail
     go_roundg 0
     case measure=>have:=HG.o;omega
     case rel=>exact⟨j+k,4,HR4.o,HK4.o,HD.o,rfl,hjk⟩
  ·have hs:=UU bs j er' zO;rw[he]at hs;have cL:=zH (uH b bs j er' wr hr);have hz:(if er'=0 then((8*bs.length-j:Nat):Int) else 0)=0:=by
    by_cases h0:er'=0
    ·rw[if_pos h0];omega
    ·rw[if_neg h0]
   rw[hz]at cL;have hjl:er'=0->j=8*bs.length:=fun h0=>zO;have HS:=zH hs;have HJ:=zH hjl;have HK:=zH hk;clear hr hk he hg hz hjl hs hgo
   go_wp2_with fail
   refine cL.o.mono ?_;rintro e w1 ⟨rfl,hr1,hk1'⟩;have cE:=zH (aFm b bs j er' w1 hr1);have HR1:=zH hr1;have HK1:=zH (HK.o.trans (hk1'.mono fun _ _=>trivial));clear hr1 hk1' cL HK
   go_wp2_with fail
   refine cE.o.mono ?_;rintro e w2 ⟨rfl,rfl⟩
   go_wp2_with fail
   go_ret;rw[HS.o];exact⟨rfl,⟨j,HR1.o,HJ.o⟩,HK1.o⟩
def eC(s:Bool)(v k:Int):Bool:=decide (0<=k/\k<=57) && (if s then eK v k else decide (0<=v/\v<pw k.toNat))
def aK(v k:Int):List Bool:=fX (if v<0 then v+pw k.toNat else v) k.toNat
def aAl(L:List Bool)(er:Int)(s:Bool)(v k:Int):List Bool × Int:=if er≠0 then(L,er) else if eC s v k then(L ++ aK v k,0) else(L,5)
theorem GE(a c:Int)(m:Nat):(a+pw m*(2*c))/pw m%2=a/pw m%2:=by
 rw[Int.add_mul_ediv_left _ _ (by have:=fI m;omega)];omega
theorem aDs(m n:Nat):pw (m+n)=pw m*pw n:=by unfold pw;rw[Int.pow_add]
theorem XQ(v:Int)(k:Nat)(hk:k<=57):fX (v+18446744073709551616) k=fX (v+pw k) k:=by
 unfold fX;apply List.map_congr_left;intro i hi;rw[List.mem_range]at hi;have h64:(18446744073709551616:Int)=pw (k-1-i)*(2*pw (63-(k-1-i))):=by
  rw[show (18446744073709551616:Int)=pw 64 from rfl,<-kQ,<-aDs];congr 1;omega
 have hkk:pw k=pw (k-1-i)*(2*pw i):=by
  rw[<-kQ,<-aDs];congr 1;omega
 rw[h64,hkk];show ((v+pw (k-1-i)*(2*pw (63-(k-1-i))))/pw (k-1-i)%2 == 1)=((v+pw (k-1-i)*(2*pw i))/pw (k-1-i)%2 == 1)
 rw[GE,GE]
theorem OU(L:List Bool)(er v k:Int)(h0:-9223372036854775808<=v)(h1:v<=9223372036854775807):pU L er (mK v k) (v%18446744073709551616) k=aAl L er true v k:=by
 unfold pU aAl;by_cases her:er≠0
 ·rw[if_pos her,if_pos her]
 ·rw[if_neg her,if_neg her];have hv:eC true v k=mK v k:=by simp[eC,mK,mB]
  rw[hv];by_cases hok:mK v k=true
  ·rw[if_pos hok,if_pos hok];simp only[mK,mB,Bool.and_eq_true,decide_eq_true_eq]at hok;congr 2;unfold aK;by_cases hn:v<0
   ·rw[if_pos hn,<-XQ v k.toNat zO];congr 1;omega
   ·rw[if_neg hn];congr 1;omega
  ·rw[if_neg hok,if_neg hok]
theorem SL(L:List Bool)(er v k:Int)(h0:-9223372036854775808<=v)(h1:v<=9223372036854775807):pU L er (oQ (v%18446744073709551616) k) (v%18446744073709551616) k=aAl L er false v k:=by
 unfold pU aAl;by_cases her:er≠0
 ·rw[if_pos her,if_pos her]
 ·rw[if_neg her,if_neg her];have hv:eC false v k=oQ (v%18446744073709551616) k:=by
   rw[Bool.eq_iff_iff];simp only[eC,oQ,Bool.and_eq_true,decide_eq_true_eq,Bool.false_eq_true,if_false];constructor
   ·rintro ⟨⟨a,b⟩,c,d⟩;have e:v%18446744073709551616=v:=zO;rw[e];exact⟨a,b,d⟩
   ·rintro ⟨a,b,c⟩;have hp:=sR k.toNat zO;have e:v%18446744073709551616=v:=zO;rw[e]at c;exact⟨⟨a,b⟩,zO,c⟩
  rw[hv];by_cases hok:oQ (v%18446744073709551616) k=true
  ·rw[if_pos hok,if_pos hok];simp only[oQ,decide_eq_true_eq]at hok;have hp:=sR k.toNat zO;have e:v%18446744073709551616=v:=zO;rw[e];unfold aK;rw[if_neg zO]
  ·rw[if_neg hok,if_neg hok]
theorem PB(L:List Bool)(i:Nat):(dI L (i/8)/2 ^ (7-i%8)%2 == 1)=L.getD i false:=by
 have key:dI L (i/8)/2 ^ (7-i%8)%2=bi (L.getD i false):=by
  generalize hq:i/8=q;unfold dI;have h0:=iK (L.getD (8*q) false);have h1:=iK (L.getD (8*q+1) false);have h2:=iK (L.getD (8*q+2) false);have h3:=iK (L.getD (8*q+3) false);have h4:=iK (L.getD (8*q+4) false);have h5:=iK (L.getD (8*q+5) false);have h6:=iK (L.getD (8*q+6) false);have h7:=iK (L.getD (8*q+7) false);rcases aBH i with h | h | h | h | h | h | h | h <;> rw[h]
  ·rw[show i=8*q by omega];omega
  ·rw[show i=8*q+1 by omega];omega
  ·rw[show i=8*q+2 by omega];omega
  ·rw[show i=8*q+3 by omega];omega
  ·rw[show i=8*q+4 by omega];omega
  ·rw[show i=8*q+5 by omega];omega
  ·rw[show i=8*q+6 by omega];omega
  ·rw[show i=8*q+7 by omega];omega
 rw[key];cases L.getD i false <;> rfl
theorem rS(L:List Bool)(n:Nat)(h:L.length<=8*n):bY (cU L n)=L ++ List.replicate (8*n-L.length) false:=by
 apply List.ext_getElem?;intro i;by_cases hi:i<8*n
 ·rw[yC _ _ (by rw[eQ];exact hi)];have hb:pW (cU L n) i=L.getD i false:=by
   unfold pW;have e:(cU L n).getD (i/8) 0=dI L (i/8):=by
    have hlt:i/8<n:=zO;simp[cU,List.getD,hlt]
   rw[e];exact PB L i
  rw[hb];by_cases hl:i<L.length
  ·rw[List.getElem?_append_left hl,List.getElem?_eq_getElem hl];simp[List.getD,hl]
  ·rw[List.getElem?_append_right zO,aH L i zO,List.getElem?_replicate,if_pos zO]
 ·rw[List.getElem?_eq_none (by rw[eU,eQ];omega),List.getElem?_eq_none (by simp;omega)]
theorem NG(L:List Bool)(n:Nat)(h:L.length<=8*n):oZ (cU L n) L.length=true:=by
 unfold oZ;rw[rS _ _ h,List.drop_left];simp
theorem jH(v:Int)(k:Nat)(h0:0<=v)(h1:v<pw k):eV (fX v k)=v:=by
 have step:∀j,j<=k->eV ((fX v k).take j)=v/pw (k-j):=by
  intro j
  induction j with
  | zero=>intro _;simp only[List.take_zero,Nat.sub_zero];rw[Int.ediv_eq_zero_of_lt h0 h1];rfl
  | succ j ih=>
   intro hj;rw[oL v k j zO,mL,ih zO,UC];have e1:k-j=(k-1-j)+1:=zO;have e2:k-(j+1)=k-1-j:=zO;have e3:v/pw ((k-1-j)+1)=v/pw (k-1-j)/2:=by
    rw[kQ,Int.mul_comm,<-Int.ediv_ediv_of_nonneg (by have:=fI (k-1-j);omega)]
   rw[e1,e2,e3,UI];omega
 have:=step k (Nat.le_refl _);rw[List.take_of_length_le (by rw[nG];exact Nat.le_refl _),Nat.sub_self,aFo,Int.ediv_one]at this;exact this
theorem QD(s:Bool)(v k:Int)(h:eC s v k=true):eV (aK v k)=(if v<0 then v+pw k.toNat else v)/\0<=k/\k<=57/\(s=false->0<=v):=by
 unfold eC at h;simp only[Bool.and_eq_true,decide_eq_true_eq]at h;obtain⟨⟨hk0,hk1⟩,hs⟩:=h;have hp:=fI k.toNat
 unfold aK;cases s with
 | false=>
  simp only[Bool.false_eq_true,if_false,decide_eq_true_eq]at hs;rw[if_neg zO];exact⟨jH _ _ hs.1 hs.2,hk0,hk1,fun _=>hs.1⟩
 | true=>
  simp only[if_true]at hs;refine⟨?_,hk0,hk1,fun h=>by cases h⟩;by_cases h0:k<=0
  ·rw[lI v k h0,beq_iff_eq]at hs;subst hs;rw[if_neg zO];exact jH _ _ zO zO
  ·rw[fD v k zO zO,decide_eq_true_eq]at hs;have hm:=kQ (k-1).toNat
   rw[show (k-1).toNat+1=k.toNat by omega]at hm;by_cases hv:v<0
   ·rw[if_pos hv];exact jH _ _ zO zO
   ·rw[if_neg hv];exact jH _ _ zO zO
theorem ZE(v k:Int)(h:eC true v k=true):(if 0<k/\eV (aK v k)/2 ^ (k.toNat-1)=1 then eV (aK v k)-pw k.toNat else eV (aK v k))=v:=by
 have hn:=(QD true v k h).1;rw[hn];unfold eC at h;simp only[Bool.and_eq_true,decide_eq_true_eq,if_true]at h;obtain⟨⟨hk0,hk1⟩,hs⟩:=h;by_cases h0:k<=0
 ·rw[lI v k h0,beq_iff_eq]at hs;subst hs;rw[if_neg zO,if_neg zO]
 ·rw[fD v k zO zO,decide_eq_true_eq]at hs;have hm:=kQ (k-1).toNat
  rw[show (k-1).toNat+1=k.toNat by omega]at hm;have e:(2:Int) ^ (k.toNat-1)=pw (k-1).toNat:=by rw[show (k-1).toNat=k.toNat-1 by omega];rfl
  have hp:=fI (k-1).toNat
  rw[e];generalize pw (k-1).toNat=q at *;rw[hm];by_cases hv:v<0
  ·rw[if_pos hv,if_pos ⟨zO,by rw[Int.ediv_eq_iff_of_pos zO];omega⟩];omega
  ·rw[if_neg hv,if_neg (fun hh=>by have:=Int.ediv_eq_zero_of_lt (by omega:0<=v) (by omega:v<q);omega)]
theorem cH(v k:Int):(aK v k).length=k.toNat:=by unfold aK;rw[nG]
theorem KX(a:Int)(x:Bool)(k:Nat)(h0:0<=a):fX (2*a+bi x) (k+1)=fX a k ++ [x]:=by
 unfold fX;rw[List.range_succ,List.map_append];congr 1
 ·apply List.map_congr_left;intro i hi;rw[List.mem_range]at hi;have e:(2*a+bi x)/2 ^ (k+1-1-i)=a/2 ^ (k-1-i):=by
   have hp:(2:Int) ^ (k+1-1-i)=2*2 ^ (k-1-i):=by rw[show k+1-1-i=(k-1-i)+1 by omega,Int.pow_succ,Int.mul_comm]
   rw[hp,<-Int.ediv_ediv_of_nonneg zO];have hb:=iK x;rw[show (2*a+bi x)/2=a by omega]
  rw[e]
 ·simp only[List.map_cons,List.map_nil];have e:k+1-1-k=0:=zO;rw[e];simp only[Int.pow_zero,Int.ediv_one];cases x <;> simp[bi] <;> omega
theorem AN:∀(n:Nat) (l:List Bool),l.length=n->fX (eV l) n=l:=by
 intro n
 induction n with
 | zero=>intro l hl;rw[List.eq_nil_of_length_eq_zero hl];rfl
 | succ n ih=>
  intro l hl;obtain⟨l',x,rfl⟩:∃l' x,l=l' ++ [x]:=⟨l.dropLast,l.getLast (fun e=>by rw[e]at hl;cases hl),(List.dropLast_concat_getLast _).symm⟩
  have hl':l'.length=n:=by simpa using hl
  rw[mL,KX _ _ _ (gA l').1,ih l' hl']
def VI(M:List Bool)(k:Nat):Int:=if 0<k/\eV M/2 ^ (k-1)=1 then eV M-pw k else eV M
theorem BU(M:List Bool)(k:Nat)(h:M.length=k):aK (eV M) (k:Int)=M:=by
 unfold aK;rw[if_neg (by have:=(gA M).1;omega),Int.toNat_natCast];exact AN k M h
theorem QV(M:List Bool)(k:Nat)(h:M.length=k):aK (VI M k) (k:Int)=M:=by
 have hr:=gA M;rw[h]at hr;unfold VI;split
 ·unfold aK;rw[if_pos zO,Int.toNat_natCast,Int.sub_add_cancel];exact AN k M h
 ·exact BU M k h
theorem aBK(M:List Bool)(k:Nat)(h:M.length=k)(hk:k<=57):eK (VI M k) (k:Int)=true:=by
 have hr:=gA M;rw[h]at hr;cases k with
 | zero=>
  have e:M = []:=List.eq_nil_of_length_eq_zero h;subst e;rfl
 | succ m=>
  rw[fD _ _ zO zO,decide_eq_true_eq];rw[show (((m+1:Nat):Int)-1).toNat=m by omega];unfold VI;rw[show m+1-1=m by omega,UI];rw[kQ]at hr |-;have hp:=fI m;generalize pw m=q at *;generalize eV M=v at *;split
  ·next hh=>
   have:=hh.2;rw[Int.ediv_eq_iff_of_pos zO]at this;omega
  ·next hh=>
   have h2:v/q<1\/v/q=1:=by
    have:v/q<2:=Int.ediv_lt_of_lt_mul zO zO;omega
   rcases h2 with h2 | h2
   ·have:v<1*q:=by
     have:=Int.lt_mul_of_ediv_lt (by omega:(0:Int)<q) h2;omega
    omega
   ·exact absurd ⟨zO,h2⟩ hh
theorem aBE{bs:List Int}{L:List Bool}(h:L <+: bY bs)(k:Nat)(hk:L.length+k<=8*bs.length):(L ++ cT bs L.length k) <+: bY bs:=by
 obtain⟨R,hR⟩:=h;unfold cT;rw[<-hR,List.drop_left];exact⟨R.drop k,by rw[List.append_assoc,List.take_append_drop]⟩
theorem pP{bs:List Int}{L M:List Bool}(h:(L ++ M) <+: bY bs):cT bs L.length M.length=M/\L.length+M.length<=8*bs.length:=by
 obtain⟨R,hR⟩:=h;refine⟨?_,?_⟩
 ·unfold cT;rw[<-hR,List.append_assoc,List.drop_left,List.take_left]
 ·have:=congrArg List.length hR;rw[eU,List.length_append,List.length_append]at this;omega
theorem aEw{bs:List Int}{L:List Bool}(h:L <+: bY bs):L.length<=8*bs.length:=by
 have:=h.length_le
 rwa [eU]at this
theorem AU{L M:List Bool}{B:List Bool}(h:(L ++ M) <+: B):L <+: B:=(List.prefix_append L M).trans h
theorem DQ(L:List Bool)(n:Nat):qJ (cU L n):=by
 intro x hx;obtain⟨i,_,rfl⟩:=List.mem_map.1 hx;exact tE L i
def kC(bs:List Int)(L:List Bool):Prop:=L <+: bY bs/\oZ bs L.length=true
theorem JB(L:List Bool)(n:Nat)(h:L.length<=8*n):kC (cU L n) L:=
 ⟨by rw[rS L n h];exact List.prefix_append _ _,NG L n h⟩
end Go.Proofs.YticpdokbiblpoaaGreatDoor
