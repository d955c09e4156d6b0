/- Texts joined: FitA, FitB, CodeA, FitC, FitP, FitQ, FitD, FitE, FitG. -/
import Derived.Deep.RegionHeld
import Derived.Deep.CutBlock
import Derived.Test.YticpdokbiblpoaaGreatDoorPkAB
import Derived.Test.YticpdokbiblpoaaGreatDoorPkAC
import Derived.Test.YticpdokbiblpoaaGreatDoorPkAD
import Derived.Test.YticpdokbiblpoaaGreatDoorPkAH
import Derived.Test.YticpdokbiblpoaaGreatDoorPkAI
import Derived.Test.YticpdokbiblpoaaGreatDoorPkAK
import Derived.Test.YticpdokbiblpoaaGreatDoorPkAN
import Derived.Test.YticpdokbiblpoaaGreatDoorTk
set_option linter.unusedVariables false
set_option linter.unusedSimpArgs false
set_option maxHeartbeats 16000000
namespace Go.Proofs.YticpdokbiblpoaaGreatDoor
open Go.Proofs.Tryz
open Go.Proofs.Tryz renaming prog → zP
open Go.Value renaming int → vI
open Go.IntKind renaming i64 → iJ
open Go.Ending renaming returned → rJ
set_option maxRecDepth 100000
open Go.RowKit
theorem FX:∀(n x:Nat),x<18446744073709551616->(Lib.bitLen x<=n↔x<2 ^ n)
 | n,0,_=>by
  have:Lib.bitLen 0=0:=rfl;rw[this];exact⟨fun _=>Nat.pow_pos zO,fun _=>Nat.zero_le _⟩
 | 0,x+1,h=>by
  rw[wX (x+1) zO h];simp
 | n+1,x+1,h=>by
  have ih:=FX n ((x+1)/2) zO;rw[wX (x+1) zO h,Nat.pow_succ];constructor
  ·intro h1;have:=ih.1 zO;omega
  ·intro h1;have:=ih.2 zO;omega
theorem qT(v k:Int)(h1:-9223372036854775808<=v)(h2:v<=9223372036854775807)(hk0:0<=k)(hk:k<=63):eS v<=k↔eK v k=true:=by
 by_cases hv:v=0
 ·subst hv;have e:eS 0=0:=rfl;rw[e];by_cases hz:k<=0
  ·rw[lI _ _ hz];exact⟨fun _=>rfl,fun _=>hk0⟩
  ·have:=fI (k-1).toNat
   rw[fD _ _ zO hk,decide_eq_true_eq];exact⟨fun _=>zO,fun _=>hk0⟩
 ·unfold eS;rw[if_neg hv];by_cases hz:k<=0
  ·rw[lI _ _ hz,beq_iff_eq];constructor
   ·intro h;omega
   ·intro h;exact absurd h hv
  ·obtain⟨n,rfl⟩:∃n:Nat,k=n+1:=⟨(k-1).toNat,zO⟩
   have hb:=FX n (upW v).toNat (by unfold upW;split <;> omega)
   rw[fD _ _ zO hk,decide_eq_true_eq,show ((n:Int)+1-1).toNat=n by omega];have e:pw n=((2 ^ n:Nat):Int):=by unfold pw;rw[Int.natCast_pow];rfl
   rw[e];generalize 2 ^ n=q at *;generalize Lib.bitLen (upW v).toNat=L at *;constructor
   ·intro h;have:=hb.1 zO;unfold upW at this;split at this <;> omega
   ·intro h;have:L<=n:=hb.2 (by unfold upW;split <;> omega);omega
theorem TN(v k:Int)(h1:-9223372036854775808<=v)(h2:v<=9223372036854775807)(hk:k<=63)(h:eS v<=k):eK v k=true:=by
 have:=qS v;exact(qT v k h1 h2 zO hk).1 h
theorem ZV(f:nI)(n k:Nat)(hk:k<n):eS (f k)<=iH f n (k/4):=by
 induction n with
 | zero=>omega
 | succ n ih=>
  rw[<-lX];dsimp only;by_cases e:k=n
  ·subst e;rw[if_pos rfl];omega
  ·have:=ih zO;split
   ·next h=>rw[<-h];omega
   ·exact this
theorem GO(f:nI)(c:Int)(h0:0<=c)(n j:Nat)(h:∀k,k<n->k/4=j->eS (f k)<=c):iH f n j<=c:=by
 induction n with
 | zero=>exact h0
 | succ n ih=>
  have ih':=ih fun k hk e=>h k zO e;rw[<-lX];dsimp only;split
  ·next e=>
   have:=h n zO e.symm;rw[<-e];omega
  ·exact ih'
def PJ(g s u q:nI):nI:=fun k=>if k<4 then g k else if k<9 then s (k-5) else if k<13 then u (k-9) else q (k-13)
theorem WX(g s u q:nI)(k:Nat)(h:k<4):PJ g s u q k=g k:=by unfold PJ;rw[if_pos h]
theorem OZ(g s u q:nI)(k:Nat)(h:k<4):PJ g s u q (5+k)=s k:=by unfold PJ;rw[if_neg zO,if_pos zO,show 5+k-5=k by omega]
theorem FA(g s u q:nI)(k:Nat)(h:k<4):PJ g s u q (9+k)=u k:=by unfold PJ;rw[if_neg zO,if_neg zO,if_pos zO,show 9+k-9=k by omega]
theorem aCx(g s u q:nI)(k:Nat):PJ g s u q (13+k)=q k:=by unfold PJ;rw[if_neg zO,if_neg zO,if_neg zO,show 13+k-13=k by omega]
def fF(g s X:nI):nI:=PJ g s (fR (bE bK X s)) (bE bK X s)
def fY(X:nI)(k:Nat):Int:=eS (bF (part X (k*4) 4))
theorem RH(v:Int)(n:Nat)(h1:-9223372036854775808<=v)(h2:v<=9223372036854775807):-9223372036854775808<=kB v (pw n)/\kB v (pw n)<=9223372036854775807:=by
 have hp:=fI n;have:=KS v (pw n) zO h1 h2;by_cases hn0:n=0
 ·subst hn0;have e:pw 0=1:=rfl;unfold kB;rw[e]at this |-;split <;> omega
 ·have h2':2<=pw n:=by have:=lY 1 n zO;rw[show pw 1=2 from rfl]at this;exact this
  generalize pw n=p at *;have hq:v/p<=4611686018427387904:=by
   have:=Int.ediv_le_ediv (a:=v) (b:=9223372036854775807) (c:=p) zO h2;have h3:(9223372036854775807:Int)/p<=4611686018427387904:=by
    apply Int.ediv_le_of_le_mul zO;omega
   omega
  unfold kB;split <;> omega
theorem aAr{X:nI}(s:nI)(h:aD X):aD (bE bK X s):=fun k=>by
 unfold bE;split
 ·exact RH _ _ (h k).1 (h k).2
 ·show -9223372036854775808<=(0:Int)/\(0:Int)<=9223372036854775807;omega
open Go.ChangeShapes Go.WideShapes
theorem JN(s u q:nI):zP.built 98 [(2,.agg (aA 4 (blk s))),(3,.agg (aA 4 (blk u))),(4,.agg (aA 16 (blk q)))]=some (aA 29 (aR (PJ (fun _=>0) s u q) (.slice none 0 0))):=zK
structure TlSt(w:World)(z:Array Value)(X s:nI)(W:World):Prop where
 b:W.heap[w.heap.size]?=some (.cells (aA 16 (blk X)) 43 (0,0))
 s:W.heap[w.heap.size+1]?=some (.cells (aA 4 (blk s)) 261 (0,0))
 r:W.heap[w.heap.size+1+1]?=some (.cells z 98 (0,0))
 old:Old w W
namespace TlSt
variable {w W W':World} {z:Array Value} {X s:nI}
theorem keep(h:TlSt w z X s W)(k:Old W W'):TlSt w z X s W':=⟨(k.block _ (lt_of_block h.b)).trans h.b,(k.block _ (lt_of_block h.s)).trans h.s,(k.block _ (lt_of_block h.r)).trans h.r,h.old.trans k⟩
theorem start(w:World)(z:Array Value)(X s:nI):TlSt w z X s (((w.alloc (.cells (aA 16 (blk X)) 43)).alloc (.cells (aA 4 (blk s)) 261)).alloc (.cells z 98)):=by
 refine⟨?_,?_,?_,((Old.alloc w _).alloc' _).alloc' _⟩
 ·exact(Below.heap_alloc _ _ _ (by simp;omega)).trans (heap_alloc2_old w _ _)
 ·exact(Below.heap_alloc _ _ _ zS).trans (heap_alloc2_new w _ _)
 ·have:=heap_alloc_new ((w.alloc (.cells (aA 16 (blk X)) 43)).alloc (.cells (aA 4 (blk s)) 261)) (.cells z 98);rw[World.size_alloc,World.size_alloc]at this;exact this
end TlSt
theorem OW(X s:nI)(w:World)(hX:aD X):
  Calls zP 222 #[.agg (aA 16 (blk X)),.agg (aA 4 (blk s))] w fun e w'=>e=rJ (.agg (aA 29 (aR (fF (fun _=>0) s X) (.slice none 0 0))))/\Old w w':=by
 have Hs4:Hid ((zP.info? 261).map (·.size)=some 4):=zH zK;have Hs16:Hid ((zP.info? 43).map (·.size)=some 16):=zH zK;have Hs29:Hid ((zP.info? 98).map (·.size)=some 29):=zH zK;obtain⟨z,hz⟩:∃z:Array Value,z=aA 29 (aR (fun _=>0) (.slice none 0 0)):=⟨_,rfl⟩
 have hzs:z.size=29:=by rw[hz,aB]
 rw[eZ]at hz;obtain⟨W0,hW0⟩:=zG ((((w.alloc (.cells (aA 16 (blk X)) 43)).alloc (.cells (aA 4 (blk s)) 261)).alloc (.cells z 98)));have h0:TlSt w z X s W0:=by rw[hW0];exact TlSt.start w z X s
 have H0:=zH h0;have HS:=zH (aAZ X s W0 hX);have HQ:=zH (aAr s hX);have HW0:=zH hW0;have Hz:=zH hz;have Hzs:=zH hzs;unfold fF;generalize bE bK X s=q at *;obtain⟨F,hF⟩:=zF (PJ (fun _=>0) s (fR q) q);have hbd:=JN s (fR q) q;rw[hF]at hbd |-;have HBd:=zH hbd;clear hF hbd;clear h0 hX hW0 hz hzs;go_enter func222,ntmps222
 go_wp2_with (first | (rw[<-Hz.o,<-HW0.o];with_reducible refine wpList_load_row rfl 43 _ rfl w.heap.size rfl 43 (aA 16 (blk X)) (0,0) _ H0.o.b underlying43 rfl (by rw[aB];exact Hs16.o) ?_) | (with_reducible refine wpList_load_row rfl 261 _ rfl (w.heap.size+1) rfl 261 (aA 4 (blk s)) (0,0) _ H0.o.s underlying261 rfl (by rw[aB];exact Hs4.o) ?_))
 refine HS.o.mono ?_;rintro e w1 ⟨rfl,ho⟩;have h1:=H0.o.keep (ho.alloc' (.cells (aA 16 (blk q)) 43));have hq1:=heap_alloc_new w1 (.cells (aA 16 (blk q)) 43);have H1:Hid ((aA 16 (blk q)).all (·.oneCell')=true):=zH (bN _ _);have HA:=zH h1;have HB:=zH hq1;have HWd:=zH (fun w=>RG q w HQ.o);clear h1 hq1 ho H0 HS HW0
 go_wp2_with (with_reducible refine wpList_store_row rfl 43 _ _ rfl w1.heap.size (aA 16 (blk q)) rfl rfl 43 _ (heap_alloc_new _ _) (by rw[aB];exact Hs16.o) (by rw[aB];kernel_rfl) H1.o ?_;rw[World.setRow_alloc_new])
 obtain⟨W2,hW2⟩:=zG (w1.alloc (.cells (aA 16 (blk q)) 43));obtain⟨qb,hqb⟩:=zG (w1.heap.size);rw[<-hW2]at HA HB |-;rw[<-hqb]at HB |-;clear hW2 hqb H1;have HK:Hid (∀W,Old W2 W->(W.heap[w.heap.size+1]?=some (.cells (aA 4 (blk s)) 261 (0,0))/\W.heap[qb]?=some (.cells (aA 16 (blk q)) 43 (0,0)))):=zH fun W k=>⟨(HA.o.keep k).s,(k.block _ (lt_of_block HB.o)).trans HB.o⟩
 refine wp_region_held_drew (S:=(fun w'=>w'.heap[w.heap.size+1]?=some (.cells (aA 4 (blk s)) 261 (0,0))/\w'.heap[qb]?=some (.cells (aA 16 (blk q)) 43 (0,0)))) zK ?_ (fun hHeld=>?_)
 ·(try dsimp only);exact HK.o _ ((Old.refl W2).drew)
 refine (uT 0 (v:=.agg (aA 4 (blk s))) rfl (aG zK 261 (.tmp 3) rfl (w.heap.size+1) rfl 261 (aA 4 (blk s)) (0,0) _ (fun _ h=>h.1) underlying261 rfl (by rw[aB];exact Hs4.o))) ?_;refine (uT 1 (v:=.agg (aA 16 (blk q))) rfl (aG zK 43 (.tmp 5) rfl qb rfl 43 (aA 16 (blk q)) (0,0) _ (fun _ h=>h.2) underlying43 rfl (by rw[aB];exact Hs16.o))) ?_;refine (uT 3 (v:=.agg (aA 16 (blk q))) rfl (aG zK 43 (.tmp 5) rfl qb rfl 43 (aA 16 (blk q)) (0,0) _ (fun _ h=>h.2) underlying43 rfl (by rw[aB];exact Hs16.o))) ?_;refine wpR 2 rfl (fun K hK=>?_);go_simp;refine(HWd.o _).mono ?_;rintro e V1 ⟨rfl,o1'⟩;have o1:=((Old.refl W2).drew).trans o1';clear o1';have HA1:=zH (HA.o.keep o1);have HK1:=zH (HK.o _ o1);clear HA HK HB HWd o1
 go_wp2_with fail
 refine hK.out _ _ ?_ (fun hHeld=>?_)
 ·(try dsimp only);exact HK1.o
 clear hK K;refine (uT 4 (v:=.agg (aA 29 (aR F (.slice none 0 0)))) rfl (fC zK 98 _ rfl [(2,.agg (aA 4 (blk s))),(3,.agg (aA 4 (blk (fR q)))),(4,.agg (aA 16 (blk q)))] _ zK HBd.o)) ?_;have H29:Hid ((aA 29 (aR F (.slice none 0 0))).all (·.oneCell')=true):=zH (cN _ _ rfl);have hr:=bS HA1.o.r HA1.o.old zO (aA 29 (aR F (.slice none 0 0)));have HR:=zH hr;have HK2:Hid ((V1.setRow (w.heap.size+1+1) (aA 29 (aR F (.slice none 0 0)))).heap[w.heap.size+1]?=some (.cells (aA 4 (blk s)) 261 (0,0))/\(V1.setRow (w.heap.size+1+1) (aA 29 (aR F (.slice none 0 0)))).heap[qb]?=some (.cells (aA 16 (blk q)) 43 (0,0))):=by
  refine⟨(setRow_other _ _ _ _ zO).trans HK1.o.1,(setRow_other _ _ _ _ fun e=>?_).trans HK1.o.2⟩;have h1:=HK1.o.2;rw[e,HA1.o.r]at h1;cases h1
 refine wpR 5 rfl (fun K hK=>?_);rw[if_pos zK];refine wp_store_row 98 _ _ rfl (w.heap.size+1+1) (aA 29 (aR F (.slice none 0 0))) rfl rfl 98 _ HA1.o.r (by rw[aB];exact Hs29.o) (by rw[aB];exact Hzs.o) H29.o ?_;refine hK.out _ _ ?_ (fun hHeld=>?_)
 ·(try dsimp only);exact HK2.o
 clear hK K
 try simp only[Act.put,sA,sZ,sS]
 refine wpAnyH_done zK ?_ _
 go_wp2_with fail
 exact bodyPost_ret (results_cell_row rfl _ _ (w.heap.size+1+1) 98 (aA 29 (aR F (.slice none 0 0))) (0,0) _ rfl HR.o.1 underlying98 rfl (by rw[aB];exact Hs29.o)) rfl ⟨rfl,HR.o.2⟩
def tI:nI:=fun k=>if k<8*2 then yO k else 0
theorem AE:T8=aA 16 (blk tI):=rfl
def coC(size:Int):Nat->Value:=fun k=>if k<16 then blk tI k else vI iJ size
theorem NQ(size:Int):zP.built 165 [(0,.agg T8),(1,vI iJ size)]=some (aA 17 (coC size)):=zK
def CoB(w:World)(b:Nat)(size:Int):Prop:=w.heap[b]?=some (.cells (aA 17 (coC size)) 165 (0,0))
namespace CoB
variable {w w':World} {b:Nat} {size:Int}
theorem old(h:CoB w b size)(k:Old w w'):CoB w' b size:=(k.block b (lt_of_block h)).trans h
theorem lt(h:CoB w b size):b<w.heap.size:=lt_of_block h
theorem size_cell(h:CoB w b size):w.cell? ⟨b,16,none⟩=some (vI iJ size):=
 (cell_of_row _ _ _ _ _ _ h).trans (bI 17 (coC size) 16 zO)
theorem lap_cell(h:CoB w b size):∀j,j<16->w.cell? ⟨b,0+j,none⟩=some (vI iJ (tI j)):=fun j hj=>by
 rw[Nat.zero_add,(cell_of_row _ _ _ _ _ _ h).trans (bI 17 (coC size) j zO)];unfold coC;rw[if_pos hj];rfl
end CoB
theorem aDQ(size:Int)(w:World)(h1:24<=size)(h2:size<=96):
  Calls zP 37 #[vI iJ size] w fun e w'=>∃b,e=rJ (.tuple #[.pointer (some ⟨b,0,none⟩),vI iJ 0])/\CoB w' b size/\w.heap.size<=b/\Old w w':=by
 have HL:=zH (fun w=>AH w);have HBd:=zH (NQ size);have hR:∃R,T8=R:=⟨_,rfl⟩
 obtain⟨R,hR⟩:=hR;rw[hR]at HL HBd;have HR:=zH hR;clear hR;go_enter func37,ntmps37
 go_wp2_with fail
 refine(HL.o _).mono ?_;rintro e w1 ⟨rfl,o1⟩;have HO:=zH o1;clear o1
 go_wp2_with (refine lK zK 165 _ rfl [(0,.agg R),(1,vI iJ size)] _ zK HBd.o ?_)
 go_ret2
 exact⟨_,rfl,heap_alloc_new _ _,HO.o.size,HO.o.alloc' _⟩
theorem aFU(size:Int)(w:World)(h:¬(24<=size/\size<=96)):
  Calls zP 37 #[vI iJ size] w fun e w'=>e=rJ (.tuple #[.pointer none,vI iJ 12])/\w=w':=by
 by_cases a:24<=size
 ·have b:96<size:=zO;clear h;go_enter func37,ntmps37;go_wp2
  go_ret2
  exact⟨rfl,rfl⟩
 ·have b:size<24:=zO;clear h a;go_enter func37,ntmps37;go_wp2
  go_ret2
  exact⟨rfl,rfl⟩
theorem vB(b:Nat)(size:Int)(w:World)(h:CoB w b size):Calls zP 98 #[.pointer (some ⟨b,0,none⟩)] w fun e w'=>e=rJ (vI iJ size)/\w=w':=by
 have hc:=h.size_cell;clear h;go_enter func98,ntmps98;go_wp2;go_ret;exact⟨rfl,rfl⟩
theorem sF(b:Nat)(size:Int)(w:World)(h:CoB w b size)(h1:24<=size):Calls zP 71 #[.pointer (some ⟨b,0,none⟩)] w fun e w'=>e=rJ (.bool true)/\w=w':=by
 have H:=zH (vB b size w h);have hne:((size:Int) != 0)=true:=by simp;omega
 clear h;go_enter func71,ntmps71
 go_wp2_with fail
 refine H.o.mono ?_;rintro e w1 ⟨rfl,rfl⟩;go_wp2;go_ret;exact⟨rfl,rfl⟩
theorem UT(b:Nat)(size:Int)(w:World)(h:CoB w b size):Calls zP 180 #[.pointer (some ⟨b,0,none⟩)] w fun e w'=>e=rJ (.bool (decide (55<=size)))/\w=w':=by
 have H:=zH (vB b size w h);clear h;go_enter func180,ntmps180
 go_wp2_with fail
 refine H.o.mono ?_;rintro e w1 ⟨rfl,rfl⟩;go_wp2;go_ret;exact⟨rfl,rfl⟩
def qE(xs:List Int):Prop:=∀x∈xs,-32768<=x/\x<=32767
instance (xs:List Int):Decidable (qE xs):=by unfold qE;infer_instance
theorem rI{xs:List Int}(h:qE xs)(k:Nat):-32768<=xs.getD k 0/\xs.getD k 0<=32767:=by
 by_cases hk:k<xs.length
 ·have e:xs.getD k 0=xs[k]:=by simp[List.getD,hk]
  rw[e];exact h _ (List.getElem_mem hk)
 ·rw[List.getD_eq_getElem?_getD,List.getElem?_eq_none zO];show -32768<=(0:Int)/\(0:Int)<=32767;omega
theorem aFl{xs:List Int}(h:∀k,k<xs.length->-32768<=xs.getD k 0/\xs.getD k 0<=32767):qE xs:=fun x hx=>by
 obtain⟨k,hk,rfl⟩:=List.getElem_of_mem hx;have:=h k hk;simpa[List.getD,hk]using this
theorem SP(p:Option Addr)(n cap:Nat)(xs:List Int)(w:World)(hs:kK w .i64 (.slice p n cap) xs)(hn:n<=1048576):
  Calls zP 136 #[.slice p n cap] w fun e w'=>e=rJ (vI iJ (if qE xs then 0 else 5))/\w=w':=by
 have hl:xs.length=n:=by obtain⟨_,_,h,_⟩:=hs;simp only[Value.slice.injEq]at h;exact h.2.1.symm
 have HS:=zH hs.slF;have HL:=zH hl;clear hs hl;have n1:(n:Int)<=1048576:=zO;go_enter func136,ntmps136;go_wp2
 go_loop [10] (fun i=>∃k:Nat,k<=n/\i=vI iJ k/\Hid (∀j,j<k->-32768<=xs.getD j 0/\xs.getD j 0<=32767)) (fun i=>n-(intOf i).toNat)
 case atStart=>exact⟨0,zO,rfl,fun j hj=>zO⟩
 case round=>
  obtain⟨k,hk,rfl,hj⟩:=hrel;by_cases hlt:k<n
  ·obtain⟨b,off,rfl,hb,hc⟩:=HS.o zO;have hcell:=hc k zO;dsimp only at hcell;have i1:(0:Int)<=k:=zO;have i2:(k:Int)<n:=zO;obtain⟨x,hx⟩:=zF (xs.getD k 0);rw[hx]at hcell;have Hx:=zH hx;clear hx hc HS;have hbad:¬(-32768<=x/\x<=32767)->¬qE xs:=fun h hh=>h (by rw[<-Hx.o];exact rI hh k);have HBad:=zH hbad;clear hbad;by_cases h1:x < -32768
   ·have hf:¬qE xs:=HBad.o zO;have HF:=zH hf;clear hf HBad hj;go_wp2;go_ret;exact⟨rfl,rfl⟩
   ·by_cases h2:32767<x
    ·have hf:¬qE xs:=HBad.o zO;have HF:=zH hf;clear hf HBad hj;have h1':-32768<=x:=zO;go_wp2;go_ret;exact⟨rfl,rfl⟩
    ·have h1':-32768<=x:=zO;have h2':x<=32767:=zO;have hn:Hid (∀j,j<k+1->-32768<=xs.getD j 0/\xs.getD j 0<=32767):=fun j hj'=>by
      rcases Nat.lt_succ_iff_lt_or_eq.1 hj' with h | rfl
      ·exact hj.o j h
      ·rw[Hx.o];exact⟨h1',h2'⟩
     clear h1 h2 HBad hj;go_wp2;go_round
     case rel=>exact⟨k+1,zO,by go_num,hn⟩
     case measure=>exact zM
  ·obtain rfl:k=n:=zO;have hf:qE xs:=aFl (by rw[HL.o];exact hj.o);have HF:=zH hf;clear hf hj HS HL;go_wp2;go_ret;exact⟨rfl,rfl⟩
def nB(m s u:nI)(b:Int)(k:Nat):Int:=if 0<u k/\s k<23/\(b<0\/m b.toNat-s b.toNat<m k-s k) then k else b
def bJ(m s u:nI):nI
 | 0=>-1
 | k+1=>nB m s u (bJ m s u k) k
theorem vL(m s u:nI)(k:Nat):-1<=bJ m s u k/\bJ m s u k<k:=by
 induction k with
 | zero=>exact⟨by show (-1:Int)<=-1;omega,by show (-1:Int)<0;omega⟩
 | succ k ih=>
  show -1<=nB m s u (bJ m s u k) k/\nB m s u (bJ m s u k) k<((k+1:Nat):Int);unfold nB;split <;> omega
theorem ZW(m s u:nI)(k:Nat)(h:0<=bJ m s u k):0<u (bJ m s u k).toNat/\s (bJ m s u k).toNat<23:=by
 induction k with
 | zero=>exact absurd h (by show ¬(0:Int)<=-1;omega)
 | succ k ih=>
  have e:bJ m s u (k+1)=nB m s u (bJ m s u k) k:=rfl;rw[e]at h |-;unfold nB at h |-;split
  ·next hc=>rw[Int.toNat_natCast];exact⟨hc.1,hc.2.1⟩
  ·next hc=>rw[if_neg hc]at h;exact ih h
theorem MS(m s u:nI)(k:Nat)(h:bJ m s u k<0)(j:Nat)(hj:j<k):¬(0<u j/\s j<23):=by
 induction k with
 | zero=>omega
 | succ k ih=>
  have e:bJ m s u (k+1)=nB m s u (bJ m s u k) k:=rfl;rw[e]at h;unfold nB at h;split at h
  ·omega
  ·next hc=>
   by_cases e2:j=k
   ·subst e2;rintro ⟨h1,h2⟩;exact hc ⟨h1,h2,.inl h⟩
   ·exact ih h zO
theorem KQ{m m' s s' u u':nI}(hm:∀k,k<4->m k=m' k)(hs:∀k,k<4->s k=s' k)(hu:∀k,k<4->u k=u' k)(k:Nat)(hk:k<=4):bJ m s u k=bJ m' s' u' k:=by
 induction k with
 | zero=>rfl
 | succ k ih=>
  have hb:=vL m s u k;have e:bJ m s u (k+1)=nB m s u (bJ m s u k) k:=rfl;have e':bJ m' s' u' (k+1)=nB m' s' u' (bJ m' s' u' k) k:=rfl;rw[e,e',<-ih zO];unfold nB;rw[hm k zO,hs k zO,hu k zO,hm (bJ m s u k).toNat zO,hs (bJ m s u k).toNat zO]
structure UY(w:World)(m F:nI)(sl:Value)(W:World):Prop where
 m:W.heap[w.heap.size]?=some (.cells (aA 4 (blk m)) 44 (0,0))
 f:FrB 98 W (w.heap.size+1) F sl
 old:Old w W
theorem UY.start(w:World)(m F:nI)(sl:Value):UY w m F sl ((w.alloc (.cells (aA 4 (blk m)) 44)).alloc (.cells (aA 29 (aR F sl)) 98)):=
 ⟨heap_alloc2_old w _ _,heap_alloc2_new w _ _,(Old.alloc w _).alloc' _⟩
theorem UY.keep{w W W':World}{m F:nI}{sl:Value}(h:UY w m F sl W)(k:Old W W'):UY w m F sl W':=⟨(k.block _ (lt_of_block h.m)).trans h.m,h.f.old k,h.old.trans k⟩
theorem PA(m F:nI)(p:Option Addr)(n cap:Nat)(w:World)(hm:∀k,k<4->0<=m k/\m k<=99)(hs:∀k,k<4->0<=F (5+k)/\F (5+k)<=23)(hu:∀k,k<4->0<=F (9+k)/\F (9+k)<=99):
  Calls zP 226 #[.agg (aA 4 (blk m)),.agg (aA 29 (aR F (.slice p n cap)))] w fun e w'=>e=rJ (.tuple #[vI iJ ((bJ m (fun k=>F (5+k)) (fun k=>F (9+k)) 4).toNat:Int),.bool (decide (0<=bJ m (fun k=>F (5+k)) (fun k=>F (9+k)) 4))])/\Old w w':=by
 have Hs4:Hid ((zP.info? 44).map (·.size)=some 4):=zH zK;obtain⟨W0,hW0⟩:=zG (((w.alloc (.cells (aA 4 (blk m)) 44)).alloc (.cells (aA 29 (aR F (.slice p n cap))) 98)));have h0:UY w m F (.slice p n cap) W0:=by rw[hW0];exact UY.start _ _ _ _
 have H0:=zH h0;have HM:=zH hm;have HS:=zH hs;have HU:=zH hu;have HW0:=zH hW0;clear h0 hm hs hu hW0;go_enter func226,ntmps226
 go_wp2_with (rw[<-HW0.o];with_reducible refine bC rfl 4 (fun j=>F (5+j)) 44 _ rfl (w.heap.size+1) 5 rfl _ (H0.o.f.part 5 4 zO) underlying44 rfl Hs4.o ?_)
 clear HW0
 go_loopw [6,7,12] (fun a b i wr=>∃k:Nat,k<=4/\i=vI iJ k/\a=vI iJ ((bJ m (fun k=>F (5+k)) (fun k=>F (9+k)) k).toNat:Int)/\b=.bool (decide (0<=bJ m (fun k=>F (5+k)) (fun k=>F (9+k)) k))/\Hid (Old W0 wr)) (fun _ _ i _=>4-(intOf i).toNat)
 case atStart=>exact⟨0,zO,rfl,rfl,rfl,zH (Old.refl _)⟩
 case round=>
  obtain⟨k,hk,rfl,rfl,rfl,ho⟩:=hrel;by_cases hlt:k<4
  ·have hst:=H0.o.keep ho.o;have i0:(0:Int)<=k:=zO;have i1:(k:Int)<4:=zO;have hat:∀w:World,(Instr.index 44 (.agg (aA 4 (blk fun j=>F (5+j)))) (vI iJ k)).run zP w=.ok (vI iJ (F (5+k))) w:=fun w=>aZ underlying44 underlying3 (fun _=>zK) (fun j=>F (5+j)) k hlt w;obtain⟨b,hb⟩:=zF (bJ m (fun k=>F (5+k)) (fun k=>F (9+k)) k);have hbd:=vL m (fun k=>F (5+k)) (fun k=>F (9+k)) k;have hnx:bJ m (fun k=>F (5+k)) (fun k=>F (9+k)) (k+1)=nB m (fun k=>F (5+k)) (fun k=>F (9+k)) b k:=by rw[<-hb];rfl
   rw[hb]at hbd |-;obtain⟨nx,hnxt⟩:∃nx:Nat,nx=b.toNat:=⟨_,rfl⟩
   have hnx4:nx<4:=zO;have n0:(0:Int)<=nx:=zO;have n1:(nx:Int)<4:=zO;have c1:=(hst.f.cell (9+k) zO zO).1;have c2:=(cell_of_row _ _ _ _ _ _ hst.m).trans (dR 4 m k hlt);have c3:=(cell_of_row _ _ _ _ _ _ hst.m).trans (dR 4 m nx hnx4);have c4:=(hst.f.cell (5+nx) zO zO).1;obtain⟨u0,u1⟩:=HU.o k hlt;obtain⟨s0,s1⟩:=HS.o k hlt;obtain⟨m0,m1⟩:=HM.o k hlt;obtain⟨t0,t1⟩:=HS.o nx hnx4;obtain⟨v0,v1⟩:=HM.o nx hnx4;unfold nB at hnx;rw[<-hnxt]at hnx |-;dsimp only at hnx;have HY:Hid (0<F (9+k)->F (5+k)<23->(b<0\/m nx-F (5+nx)<m k-F (5+k))->bJ m (fun k=>F (5+k)) (fun k=>F (9+k)) (k+1)=k):=zH fun h1 h2 h3=>by rw[hnx,if_pos ⟨h1,h2,h3⟩]
   have HZ:Hid (¬(0<F (9+k)/\F (5+k)<23/\(b<0\/m nx-F (5+nx)<m k-F (5+k)))->bJ m (fun k=>F (5+k)) (fun k=>F (9+k)) (k+1)=b):=zH fun h=>by rw[hnx,if_neg h]
   have Hnb:Hid (nx=b.toNat):=zH hnxt;clear hst hb hnx hnxt;generalize F (9+k)=uk at *;generalize F (5+k)=sk at *;generalize m k=mk at *;generalize F (5+nx)=sn at *;generalize m nx=mn at *;obtain⟨x,hx⟩:=zF (mk-sk);obtain⟨y,hy⟩:=zF (mn-sn);have q1:wrap64 (mk-sk)=x:=by rw[IntWalk.wrap64_in _ zO];exact hx
   have q2:wrap64 (mn-sn)=y:=by rw[IntWalk.wrap64_in _ zO];exact hy
   have q1':IntKind.i64.wrap (mk-sk)=x:=by rw[IntWalk.i64_in _ zO];exact hx
   have q2':IntKind.i64.wrap (mn-sn)=y:=by rw[IntWalk.i64_in _ zO];exact hy
   rw[hx,hy]at HY HZ;clear hx hy;by_cases hu0:uk=0
   ·subst hu0;have HN2:Hid (bJ m (fun k=>F (5+k)) (fun k=>F (9+k)) (k+1)=b):=zH (HZ.o zO);clear HY HZ
    go_wp2_with fail
    go_roundw
    case rel=>exact⟨k+1,zO,by go_num,by rw[HN2.o,Hnb.o],by rw[HN2.o],ho⟩
    case measure=>exact zM
   ·have hu0':(uk == 0)=false:=by simpa using hu0
    by_cases hs23:23<=sk
    ·have HN2:Hid (bJ m (fun k=>F (5+k)) (fun k=>F (9+k)) (k+1)=b):=zH (HZ.o zO);clear HY HZ
     go_wp2_with fail
     go_roundw
     case rel=>exact⟨k+1,zO,by go_num,by rw[HN2.o,Hnb.o],by rw[HN2.o],ho⟩
     case measure=>exact zM
    ·by_cases hb0:0<=b
     ·have hd:decide (0<=b)=true:=decide_eq_true hb0;rw[hd];by_cases hxy:y<x
      ·have HN2:Hid (bJ m (fun k=>F (5+k)) (fun k=>F (9+k)) (k+1)=k):=zH (HY.o zO zO (.inr hxy));clear HY HZ hd
       go_wp2_with fail
       go_quiet (fail)
       go_wp2_with fail
       go_roundw
       case rel=>exact⟨k+1,zO,by go_num,by rw[HN2.o];simp,by rw[HN2.o];simp,zH (ho.o.drewN _)⟩
       case measure=>exact zM
      ·have HN2:Hid (bJ m (fun k=>F (5+k)) (fun k=>F (9+k)) (k+1)=b):=zH (HZ.o zO);clear HY HZ hd
       go_wp2_with fail
       go_quiet (fail)
       go_wp2_with fail
       go_roundw
       case rel=>exact⟨k+1,zO,by go_num,by rw[HN2.o,Hnb.o],by rw[HN2.o];simp;omega,zH (ho.o.drewN _)⟩
       case measure=>exact zM
     ·have hd:decide (0<=b)=false:=decide_eq_false hb0;rw[hd];have HN2:Hid (bJ m (fun k=>F (5+k)) (fun k=>F (9+k)) (k+1)=k):=zH (HY.o zO zO (.inl zO));clear HY HZ hd
      go_wp2_with fail
      go_quiet (fail)
      go_wp2_with fail
      go_roundw
      case rel=>exact⟨k+1,zO,by go_num,by rw[HN2.o];simp,by rw[HN2.o];simp,zH (ho.o.drewN _)⟩
      case measure=>exact zM
  ·obtain rfl:k=4:=zO;have HO:=zH (H0.o.old.trans ho.o);clear ho H0 HM HS HU
   go_wp2_with fail
   go_ret2
   exact⟨rfl,HO.o⟩
def pQ(X:nI)(n:Nat):nI:=fun k=>if k<n then fY X k else 0
theorem LK(X:nI)(n:Nat):(fun k=>if k=n then fY X n else pQ X n k)=pQ X (n+1):=by
 funext k;unfold pQ;by_cases h:k=n
 ·subst h;rw[if_pos rfl,if_pos zO]
 ·rw[if_neg h];by_cases h2:k<n
  ·rw[if_pos h2,if_pos zO]
  ·rw[if_neg h2,if_neg zO]
theorem aCM(X:nI):aA 4 (blk (pQ X 4))=aA 4 (blk (fY X)):=kA _ _ _ fun k hk=>by unfold blk pQ;rw[if_pos hk]
theorem aDi(X:nI)(w:World)(hX:aD X):
  Calls zP 225 #[.agg (aA 16 (blk X))] w fun e w'=>e=rJ (.agg (aA 4 (blk (fY X))))/\Old w w':=by
 have Hw4:Hid ((zP.info? 44).map (·.size)=some 4):=zH zK;obtain⟨z,hz⟩:∃z:Array Value,z=#[vI iJ 0,vI iJ 0,vI iJ 0,vI iJ 0]:=⟨_,rfl⟩
 have hzs:z.size=4:=by rw[hz];rfl
 have H0:=WdSt.start w 43 44 X;rw[show iH X 0=pQ X 0 from funext fun k=>by unfold pQ;rw[if_neg zO];rfl]at H0;have HX:=zH hX;have HS:=zH (fun k hk w=>sE w.heap.size k hk w);clear hX;have H0:=zH H0;go_enter func225,ntmps225
 go_wp2_with fail
 rw[<-hz]at H0 |-;clear hz
 go_loopw [6] (fun i wr=>∃k:Nat,k<=4/\i=vI iJ k/\Hid (WdSt w 43 44 z X (pQ X k) wr)) (fun i _=>4-(intOf i).toNat)
 case atStart=>exact⟨0,zO,rfl,H0⟩
 case round=>
  obtain⟨k,hk,rfl,hs⟩:=hrel;clear H0;by_cases hlt:k<4
  ·have k1:(0:Int)<=k:=zO;have k2:(k:Int)<4:=zO;have hS:=fun w':World=>sE w.heap.size k hlt w';have HPk:=zH (tD _ _ _ _ wr (tM hs.o.b (k*4) 4 (16-k*4) zO zO zO) (jS HX.o (k*4) 4) zO);have hpb:=mP _ (jS HX.o (k*4) 4);have hmk:fY X k=eS (bF (part X (k*4) 4)):=rfl;obtain⟨c1,c2⟩:=hs.o.cell k hlt;have h1:=hs.o.set k hlt (fY X k);rw[LK,hmk]at h1;have H1:=zH h1;have HWd:=zH (fun w=>uS (bF (part X (k*4) 4)) w zO zO);clear h1 hs hmk hpb HS;generalize bF (part X (k*4) 4)=pk at *;generalize eS pk=wk at *
   go_wp2_with fail
   refine HPk.o.mono ?_;rintro e w1 ⟨rfl,rfl⟩
   go_wp2_with fail
   refine(HWd.o _).mono ?_;rintro e w1 ⟨rfl,rfl⟩
   go_wp2_with fail
   go_roundw
   case rel=>exact⟨k+1,zO,by go_num,H1⟩
   case measure=>exact zM
  ·obtain rfl:k=4:=zO;have hst:=hs.o;have hg:=hst.g;rw[aCM]at hg;have HG:=zH hg;have HR:=zH hst.r;have HD:=zH (hst.row (aA 4 (blk (fY X))));have H1:Hid ((aA 4 (blk (fY X))).all (·.oneCell')=true):=zH (bN _ _);clear hs hst hg HX HS
   go_wp2_with (first | (with_reducible refine wpList_load_row rfl 44 _ rfl (w.heap.size+1+1) rfl 44 (aA 4 (blk (fY X))) (0,0) _ HG.o underlying44 rfl (by rw[aB];exact Hw4.o) ?_) | (with_reducible refine wpList_store_row rfl 44 _ _ rfl (w.heap.size+1) (aA 4 (blk (fY X))) rfl rfl 44 _ HR.o (by rw[aB];exact Hw4.o) (by rw[aB];exact hzs) H1.o ?_))
   exact bodyPost_ret (results_cell_row rfl _ _ (w.heap.size+1) 44 (aA 4 (blk (fY X))) (0,0) _ rfl HD.o.1 underlying44 rfl (by rw[aB];exact Hw4.o)) rfl ⟨rfl,HD.o.2⟩
def jM(X s:nI):Int:=bJ (fY X) s (fR (bE bK X s)) 4
def cS(X:nI):Nat->Nat->Int
 | 0=>fun _=>0
 | n+1=>fun k=>if k=(jM X (cS X n)).toNat then cS X n k+1 else cS X n k
def tX(X:nI)(t n:Nat):Int:=52+28*t+4*dM (fR (bE bK X (cS X n))) 4
def tK(X:nI)(t:Nat)(room:Int)(n:Nat):Prop:=jM X (cS X n)<0\/tX X t n<=room
structure nF(X:nI)(t:Nat)(room:Int)(n:Nat):Prop where
 st:tK X t room n
 no:∀j,j<n->¬tK X t room j
theorem nF.one{X:nI}{t:Nat}{room:Int}{n m:Nat}(h:nF X t room n)(k:nF X t room m):n=m:=by
 rcases Nat.lt_trichotomy n m with c | c | c
 ·exact absurd h.st (k.no n c)
 ·exact c
 ·exact absurd k.st (h.no m c)
theorem EY(X s:nI):-1<=jM X s/\jM X s<4:=vL _ _ _ 4
theorem xO(X:nI)(t:Nat)(room:Int)(n:Nat)(no:∀j,j<n->¬tK X t room j):(∀k,k<4->0<=cS X n k/\cS X n k<=23)/\cS X n 0+cS X n 1+cS X n 2+cS X n 3=n:=by
 induction n with
 | zero=>exact⟨fun k _=>by show 0<=(0:Int)/\(0:Int)<=23;omega,by show (0:Int)+0+0+0=0;omega⟩
 | succ n ih=>
  obtain⟨h1,h2⟩:=ih fun j hj=>no j zO;have hb:0<=jM X (cS X n):=by
   have:=no n zO;unfold tK at this;omega
  have hk:=EY X (cS X n);have h3:=(ZW _ _ _ 4 hb).2;rw[show bJ (fY X) (cS X n) (fR (bE bK X (cS X n))) 4=jM X (cS X n) from rfl]at h3;have e:∀k,cS X (n+1) k=if k=(jM X (cS X n)).toNat then cS X n k+1 else cS X n k:=fun _=>rfl
  obtain⟨b,hb4,hbb⟩:∃b:Nat,b<4/\(jM X (cS X n)).toNat=b:=⟨_,zO,rfl⟩
  rw[hbb]at h3;constructor
  ·intro k hk4;rw[e,hbb];have:=h1 k hk4;split
   ·next h=>subst h;omega
   ·exact this
  ·rw[e,e,e,e,hbb];rcases(show b=0\/b=1\/b=2\/b=3 by omega) with rfl | rfl | rfl | rfl <;> simp <;> omega
theorem aHx(X:nI)(t:Nat)(room:Int)(n:Nat)(no:∀j,j<n->¬tK X t room j):n<=92:=by
 obtain⟨h1,h2⟩:=xO X t room n no;have a:=h1 0 zO;have b:=h1 1 zO;have c:=h1 2 zO;have d:=h1 3 zO;omega
theorem aDW(X:nI)(k:Nat):0<=fY X k/\fY X k<=65:=qS _
theorem yV(q:nI)(k:Nat):0<=fR q k/\fR q k<=65:=FT q 16 k
theorem OC{g:nI}(c x y:Int)(h:aD g):aD (oE c g x y):=fun j=>by
 unfold oE;split
 ·unfold wrap64;omega
 ·exact h j
theorem BS{f:nI}(c:Int)(T:nI)(h:aD f):∀n,aD (eX c f T n)
 | 0=>h
 | n+1=>OC _ _ _ (BS c T h n)
def DL(f:nI)(tones:Bool):Nat:=if tones then(bL f).length else 0
def fU(f:nI)(tones:Bool):nI:=eX (-1) f (dY f) (DL f tones)
theorem LI{f:nI}(h:aD f)(tones:Bool):aD (fU f tones):=BS _ _ h _
theorem UK(g s X:nI):∀k,k<29->k≠4->(if k<4 then g k else fF (fun _=>0) s X k)=fF g s X k:=fun k _ _=>by
 unfold fF PJ;split <;> rfl
def dD(f:nI):Prop:=∀k,k<16->-8388607<=f k/\f k<=8388607
instance (f:nI):Decidable (dD f):=by unfold dD;infer_instance
theorem aGT:pw 23=8388608:=rfl
theorem aFR(a:Int)(h0:0<=a)(h1:a<=9223372036854775807):eS a<=24↔a<=8388607:=by
 rw[qT a 24 zO h1 zO zO,fD _ _ zO zO,decide_eq_true_eq,show ((24:Int)-1).toNat=23 from rfl,aGT];omega
theorem CE(v:Int)(h0:-9223372036854775808<=v)(h1:v<=9223372036854775807):eB v<=8388607↔-8388607<=v/\v<=8388607:=by
 unfold eB;split
 ·omega
 ·split <;> omega
theorem NC(f:nI)(hf:aD f):eS (bF (part f 0 16))<=24↔dD f:=by
 have hp:=mP _ (jS hf 0 16);rw[aFR _ hp.1 hp.2,mJ];constructor
 ·rintro ⟨_,h⟩ k hk;have:=h (f k) (lO.2 ⟨k,hk,by rw[Nat.zero_add]⟩);exact(CE _ (hf k).1 (hf k).2).1 this
 ·intro h;refine⟨zO,fun x hx=>?_⟩;obtain⟨j,hj,rfl⟩:=lO.1 hx;rw[Nat.zero_add];exact(CE _ (hf j).1 (hf j).2).2 (h j hj)
theorem SQ{f:nI}(h:dD f):WV f:=fun k hk=>by have:=h k hk;omega
theorem mD(l:List Nat)(k i:Nat)(h:k<l.length):i∈l.take (k+1)↔i∈l.take k\/i=l.getD k 0:=by
 rw[List.take_add_one,List.getElem?_eq_getElem h,List.mem_append,List.getD_eq_getElem?_getD,List.getElem?_eq_getElem h];simp
theorem sJ(f:nI)(k:Nat)(hkl:k<(bL f).length):(bL f).getD k 0<16:=by
 rw[List.getD_eq_getElem?_getD,List.getElem?_eq_getElem hkl];exact(qL.1 (List.getElem_mem hkl)).1.1
theorem gone(f:nI)(hn:WV f):∀k,k<=(bL f).length->∀j,j<16->eX (-1) f (dY f) k j=if j∈(bL f).take k then 0 else f j
 | 0,_,j,_=>by simp[eX]
 | k+1,hk,j,hj=>by
  have ih:=gone f hn k zO;have hkl:k<(bL f).length:=zO;have hp16:=sJ f k hkl;have hnot:(bL f).getD k 0 ∉ (bL f).take k:=by
   intro hm;obtain⟨q,hq,e⟩:=List.getElem_of_mem hm;rw[List.length_take]at hq;rw[List.getElem_take,List.getD_eq_getElem?_getD,List.getElem?_eq_getElem hkl]at e;have:=List.pairwise_iff_getElem.1 (nT f) q k zO hkl zO;simp only[Option.getD_some]at e;omega
  show oE (-1) (eX (-1) f (dY f) k) (dY f (2*k)) (dY f (2*k+1)) j=_;rw[nD,vC,CX _ _ _ _ hp16];dsimp only;by_cases e:j=(bL f).getD k 0
  ·rw[if_pos e,if_pos ((mD _ _ _ hkl).2 (.inr e)),ih _ hp16,if_neg hnot];have:=hn _ hp16;rw[show (-1:Int)*f ((bL f).getD k 0) = - f ((bL f).getD k 0) by omega,IntWalk.wrap64_in (- f ((bL f).getD k 0)) zO,IntWalk.wrap64_in _ zO];omega
  ·rw[if_neg e,ih j hj];by_cases h:j∈(bL f).take k
   ·rw[if_pos h,if_pos ((mD _ _ _ hkl).2 (.inl h))]
   ·rw[if_neg h,if_neg (fun h'=>by rcases(mD _ _ _ hkl).1 h' with h' | h';exact h h';exact e h')]
theorem DJ{f:nI}(h:dD f)(tones:Bool):dD (fU f tones):=fun k hk=>by
 have hle:DL f tones<=(bL f).length:=by unfold DL;split <;> omega
 unfold fU;rw[gone f (SQ h) _ hle k hk];split
 ·omega
 ·exact h k hk
theorem aBd{f:nI}(hf:aD f):aD (dY f):=fun j=>by
 unfold dY;split
 ·have:(bL f).getD (j/2) 0<16:=by
   by_cases h:j/2<(bL f).length
   ·exact sJ f _ h
   ·simp[Nat.not_lt.1 h]
  omega
 ·exact hf _
theorem BN(v:Int)(n:Nat)(h1:-8388607<=v)(h2:v<=8388607):-8388607<=kB v (pw n)/\kB v (pw n)<=8388607:=by
 have hp:=fI n;by_cases hn0:n=0
 ·subst hn0;have e:pw 0=1:=rfl;unfold kB;rw[e];split <;> omega
 ·have h2':2<=pw n:=by have:=lY 1 n zO;rw[show pw 1=2 from rfl]at this;exact this
  generalize pw n=p at *;have a1:v/p<=4194303:=by
   have:v/p<4194304:=Int.ediv_lt_of_lt_mul zO zO;omega
  have a2:-8388607<=v/p:=Int.le_ediv_of_mul_le zO zO;unfold kB;split <;> omega
theorem aAp(v:Int)(h1:-8388607<=v)(h2:v<=8388607):-1<=kB v 8388608/\kB v 8388608<=1:=by
 unfold kB;split <;> omega
theorem sH{X s:nI}(hX:dD X)(k:Nat):0<=fR (bE bK X s) k/\fR (bE bK X s) k<=24:=by
 refine⟨(yV _ k).1,GO _ 24 zO 16 k fun j hj _=>?_⟩;have hq:-8388607<=bE bK X s j/\bE bK X s j<=8388607:=by
  unfold bE;split
  ·exact BN _ _ (hX j hj).1 (hX j hj).2
  ·show -8388607<=(0:Int)/\(0:Int)<=8388607;omega
 rw[qT _ 24 zO zO zO zO,fD _ _ zO zO,decide_eq_true_eq,show ((24:Int)-1).toNat=23 from rfl,aGT];omega
theorem RK{X s:nI}(hX:dD X)(j:Nat)(hj:j<16):-8388607<=bE bK X s j/\bE bK X s j<=8388607:=by
 unfold bE;split
 ·exact BN _ _ (hX j hj).1 (hX j hj).2
 ·show -8388607<=(0:Int)/\(0:Int)<=8388607;omega
theorem XF{g s X:nI}{n:Nat}{T:nI}(hg:bX g)(hs:∀k,k<4->0<=s k/\s k<=23)(hX:dD X)(hn:n<=2)
  (ht:∀k,k<n->0<=T (2*k)/\T (2*k)<=15/\eK (T (2*k+1)) 24=true/\(0<k->T (2*(k-1))<T (2*k))):mC (fF g s X) n T where
 hg k hk:=by unfold fF;rw[WX _ _ _ _ _ hk];exact hg k hk
 hs k hk:=by unfold fF;rw[OZ _ _ _ _ _ hk];exact hs k hk
 hw k hk:=by unfold fF;rw[FA _ _ _ _ _ hk];exact sH hX k
 hq k hk:=by
  unfold fF;rw[aCx,FA _ _ _ _ _ zO];have h1:=RK (s:=s) hX k hk;have h2:=sH (s:=s) hX (k/4);exact TN _ _ zO zO zO (ZV _ 16 k hk)
 hn:=hn
 ht:=ht
theorem XP{f:nI}(hf:dD f)(n:Nat)(hn:n<=(bL f).length):∀k,k<n->0<=dY f (2*k)/\dY f (2*k)<=15/\eK (dY f (2*k+1)) 24=true/\(0<k->dY f (2*(k-1))<dY f (2*k)):=fun k hk=>by
 have hkl:k<(bL f).length:=zO;have hp:=sJ f k hkl;rw[nD,vC,nD];refine⟨zO,zO,?_,fun h0=>?_⟩
 ·have:=hf _ hp;rw[fD _ _ zO zO,decide_eq_true_eq,show ((24:Int)-1).toNat=23 from rfl,aGT];omega
 ·have:=List.pairwise_iff_getElem.1 (nT f) (k-1) k zO hkl zO;rw[List.getD_eq_getElem?_getD,List.getElem?_eq_getElem zO,List.getD_eq_getElem?_getD,List.getElem?_eq_getElem hkl];simp only[Option.getD_some];omega
theorem XO{X:nI}{t n:Nat}{room:Int}(h:nF X t room n)(hX:dD X)(ht:t<=2)(hr:192<=room):tX X t n<=room:=by
 rcases h.st with h1 | h1
 ·obtain⟨hs,_⟩:=xO X t room n h.no;have hw:∀k,k<4->fR (bE bK X (cS X n)) k<=2:=fun k hk=>by
   have hno:=MS _ _ _ 4 h1 k hk;have hsk:=hs k hk;by_cases hu:0<fR (bE bK X (cS X n)) k
   ·have h23:cS X n k=23:=by
     by_cases h:cS X n k<23
     ·exact absurd ⟨hu,h⟩ hno
     ·omega
    refine GO _ 2 zO 16 k fun j hj e=>?_;have hsc:dW (cS X n):=fun k hk=>hs k hk;have hq:bE bK X (cS X n) j=kB (X j) 8388608:=by
     unfold bE;rw[if_pos hsc];unfold gH bK;rw[e,h23];rfl
    rw[hq];have:=aAp (X j) (hX j hj).1 (hX j hj).2;rw[qT _ 2 zO zO zO zO,fD _ _ zO zO,decide_eq_true_eq,show ((2:Int)-1).toNat=1 from rfl,show pw 1=2 from rfl];omega
   ·omega
  have a:=hw 0 zO;have b:=hw 1 zO;have c:=hw 2 zO;have d:=hw 3 zO;unfold tX;rw[pB];omega
 ·exact h1
def bG:nI:=fun _=>0
theorem aCD:dW bG:=fun k _=>by unfold bG;omega
theorem QU(f:nI):bE bK f bG=f:=by
 funext k;unfold bE;rw[if_pos aCD];show kB (f k) 1=f k;unfold kB;split <;> omega
theorem TS{f g:nI}(hf:dD f)(T:nI)(k:Nat)(hk:k<16):dX (fF g bG f) 0 T k=f k:=by
 have hs:PS (fF g bG f)=fun k=>fF g bG f (5+k):=rfl;have hq:∀k,k<16->XH (fF g bG f) k=f k:=fun k hk=>by
  unfold XH;rw[if_pos hk];unfold fF;rw[aCx,QU]
 have hsc:dW (PS (fF g bG f)):=fun k hk=>by
  unfold PS fF;rw[OZ _ _ _ _ _ hk];unfold bG;omega
 unfold dX eW;rw[if_pos hk];show jD (fH (fF g bG f) k) _ _=_;have hv:fH (fF g bG f) k=f k:=by
  unfold fH bE;rw[if_pos hsc];unfold gH;rw[hq k hk];have e:PS (fF g bG f) (k/4)=0:=by
   unfold PS fF;rw[OZ _ _ _ _ _ zO];rfl
  rw[e];show wrap64 (f k*1)=f k;rw[Int.mul_one];have:=hf k hk;exact IntWalk.wrap64_in _ zO
 rw[hv];have:=hf k hk;exact ZZ _ _ _ zO zO
theorem aAF{f g:nI}(hg:bX g)(hf:dD f)(T:nI):mC (fF g bG f) 0 T:=XF hg (fun k _=>by unfold bG;omega) hf zO (fun k hk=>zO)
theorem aCp(L:List Bool)(size:Int)(h:(L.length:Int)<=8*size)(h2:size<=2147483647):gG L 0 size=0:=by
 unfold gG nb;rw[if_neg zS,if_neg zO,if_neg zO]
theorem YN:bX bG:=fun k _=>by unfold bG;omega
theorem aAu(g:nI)(T:nI):mC (PJ g bG bG bG) 0 T↔bX g:=by
 constructor
 ·intro h k hk;have:=h.hg k hk
  rwa [WX _ _ _ _ _ hk]at this
 ·intro h;refine⟨fun k hk=>by rw[WX _ _ _ _ _ hk];exact h k hk,fun k hk=>?_,fun k hk=>?_,fun k hk=>?_,zO,fun k hk=>zO⟩
  ·rw[OZ _ _ _ _ _ hk];unfold bG;omega
  ·rw[FA _ _ _ _ _ hk];unfold bG;omega
  ·rw[aCx];rw[FA _ _ _ _ _ zO];rfl
theorem RB:aA 4 (blk fun _=>0)=#[vI iJ 0,vI iJ 0,vI iJ 0,vI iJ 0]:=rfl
theorem FrB.gains{t:TypeId}{w:World}{b:Nat}{F:nI}{s:Value}(h:FrB t w b F s)(g:nI):FrB t (w.setCells b 0 (eH 4 g)) b (fun k=>if k<4 then g k else F k) s:=by
 have h4:=(((h.set 0 zO zO (g 0)).set 1 zO zO (g 1)).set 2 zO zO (g 2)).set 3 zO zO (g 3);have e:(fun k=>if k=3 then g 3 else(fun k=>if k=2 then g 2 else(fun k=>if k=1 then g 1 else(fun k=>if k=0 then g 0 else F k) k) k) k)=fun k=>if k<4 then g k else F k:=by
  funext k;dsimp only;by_cases h0:k=0
  ·subst h0;simp
  by_cases h1:k=1
  ·subst h1;simp
  by_cases h2:k=2
  ·subst h2;simp
  by_cases h3:k=3
  ·subst h3;simp
  rw[if_neg h3,if_neg h2,if_neg h1,if_neg h0,if_neg zO]
 rw[e]at h4;exact h4
theorem FrB.there{t:TypeId}{w:World}{b:Nat}{F:nI}{s:Value}(h:FrB t w b F s)(o n:Nat)(ho:o+n<=4\/(4<o/\o+n<=29)):w.there b o n:=fun j hj=>⟨by rw[(h.cell (o+j) zO zO).1];rfl,(h.cell (o+j) zO zO).2⟩
theorem FrB.ext{t:TypeId}{w:World}{b:Nat}{F G:nI}{s:Value}(h:FrB t w b F s)(e:∀k,k<29->k≠4->F k=G k):FrB t w b G s:=by
 unfold FrB;rw[<-aFb s e];exact h
theorem FrB.cells{t:TypeId}{w:World}{b:Nat}{F:nI}{s:Value}(h:FrB t w b F s):w.heap[b]?=some (.cells (aA 29 (aR F s)) t (0,0)):=h
theorem aU{P:Program}{fn:Func}{p u:Tmp}{ty:TypeId}(h:fn.results=#[.cell p ty,.tmp u])(tmps:Array Value)(w:World)(g:Nat)(t:TypeId)(cs:Array Value)(fr:Nat × Nat)(d:TypeDesc)
  (hp:tmps.getD p undef=.pointer (some ⟨g,0,none⟩)) (hg:w.heap[g]?=some (.cells cs t fr))
  (hu:P.underlying ty=some d) (hd:(match d with | .struct _ | .array _ _=>true | _=>false)=true) (hi:(P.info? ty).map (·.size)=some cs.size):
  (results fn tmps).run P w=.ok (.tuple #[.agg cs,tmps.getD u undef]) w:=by
 rw[results_cell_tmp h,hp];simp[asAddr,run_loadVar_row w g t ty cs fr d hg hu hd hi]
structure SeSt(w:World)(z:Array Value)(f g:nI)(W:World):Prop where
 b:W.heap[w.heap.size]?=some (.cells (aA 16 (blk f)) 43 (0,0))
 g:W.heap[w.heap.size+1]?=some (.cells (aA 4 (blk g)) 44 (0,0))
 r:W.heap[w.heap.size+1+1]?=some (.cells z 98 (0,0))
 old:Old w W
namespace SeSt
variable {w W W':World} {z:Array Value} {f g:nI}
theorem keep(h:SeSt w z f g W)(k:Old W W'):SeSt w z f g W':=⟨(k.block _ (lt_of_block h.b)).trans h.b,(k.block _ (lt_of_block h.g)).trans h.g,(k.block _ (lt_of_block h.r)).trans h.r,h.old.trans k⟩
theorem start(w:World)(z:Array Value)(f g:nI):SeSt w z f g (((w.alloc (.cells (aA 16 (blk f)) 43)).alloc (.cells (aA 4 (blk g)) 44)).alloc (.cells z 98)):=by
 refine⟨?_,?_,?_,((Old.alloc w _).alloc' _).alloc' _⟩
 ·exact(Below.heap_alloc _ _ _ (by simp;omega)).trans (heap_alloc2_old w _ _)
 ·exact(Below.heap_alloc _ _ _ zS).trans (heap_alloc2_new w _ _)
 ·have:=heap_alloc_new ((w.alloc (.cells (aA 16 (blk f)) 43)).alloc (.cells (aA 4 (blk g)) 44)) (.cells z 98);rw[World.size_alloc,World.size_alloc]at this;exact this
end SeSt
structure aBR(ty:TypeId)(V4:World)(X:nI)(t:Nat)(room:Int)(n:Nat)(W:World):Prop where
 no:∀j,j<n->¬tK X t room j
 s:W.heap[V4.heap.size]?=some (.cells (aA 4 (blk (cS X n))) ty (0,0))
 old:Old V4 W
theorem aBR.next{ty:TypeId}{V4 W W':World}{X:nI}{t n:Nat}{room:Int}(h:aBR ty V4 X t room n W)(hs:¬tK X t room n)(k:Old W W')(b:Nat)(hb:(jM X (cS X n)).toNat=b)(hb4:b<4):
  aBR ty V4 X t room (n+1) (W'.setCell ⟨V4.heap.size,b,none⟩ (vI iJ (cS X n b+1))):=by
 refine⟨fun j hj=>?_,?_,(h.old.trans k).after (Kept.setCell (X:=fun k=>k<V4.heap.size) _ (a:=⟨V4.heap.size,b,none⟩) (by show ¬V4.heap.size<V4.heap.size;omega) _) fun _ h=>h⟩
 ·by_cases e:j=n
  ·subst e;exact hs
  ·exact h.no j zO
 ·have e:blk (cS X (n+1))=nR (blk (cS X n)) b (vI iJ (cS X n b+1)):=by
   rw[iA];congr 1;funext k;show (if k=(jM X (cS X n)).toNat then cS X n k+1 else cS X n k)=_;rw[hb];by_cases e:k=b
   ·subst e;simp
   ·rw[if_neg e,if_neg e]
  rw[e,<-dS _ _ _ _ hb4];exact heap_setCell_same _ _ _ _ _ _ ((k.block _ (lt_of_block h.s)).trans h.s)
theorem QF(f g:nI)(room:Int)(tones:Bool)(w:World)(hf:aD f):
  Calls zP 189 #[.agg (aA 16 (blk f)),.agg (aA 4 (blk g)),vI iJ room,.bool tones] w fun e w'=>∃n p cap,e=rJ (.tuple #[.agg (aA 29 (aR (fF g (cS (fU f tones) n) (fU f tones)) (.slice p (DL f tones) cap))),vI iJ (n:Int)])/\nF (fU f tones) (DL f tones) room n/\DL f tones<=2/\DL f tones<=cap/\cap<=maxLen/\SlF 2 w' p (DL f tones) (dY f)/\(∀q,(Value.slice p (DL f tones) cap).ownBlock=some q->w.heap.size<=q)/\Old w w':=by
 have Hs4:Hid ((zP.info? 44).map (·.size)=some 4):=zH zK;have HsC:Hid ((zP.info? 261).map (·.size)=some 4):=zH zK;have Hs16:Hid ((zP.info? 43).map (·.size)=some 16):=zH zK;have Hs29:Hid ((zP.info? 98).map (·.size)=some 29):=zH zK;obtain⟨z,hz⟩:∃z:Array Value,z=aA 29 (aR (fun _=>0) (.slice none 0 0)):=⟨_,rfl⟩
 have hzs:z.size=29:=by rw[hz,aB]
 rw[eZ]at hz;obtain⟨W0,hW0⟩:=zG ((((w.alloc (.cells (aA 16 (blk f)) 43)).alloc (.cells (aA 4 (blk g)) 44)).alloc (.cells z 98)));have h0:SeSt w z f g W0:=by rw[hW0];exact SeSt.start w z f g
 have H0:=zH h0;have HF:=zH (fun w=>aCe f hf w);have Hf:=zH hf;have Hzs:=zH hzs;have hX:=LI hf tones;obtain⟨X,hXd⟩:=zF (fU f tones);obtain⟨t,htd⟩:=zF (DL f tones);have hOut0:Hid (eX (-1) f (dY f) t=X):=by unfold Hid;rw[<-htd];exact hXd
 rw[hXd]at hX |-;rw[htd];have Ht:=zH htd;have HX:=zH hX;clear h0 hf hzs hXd htd hX;go_enter func189,ntmps189
 go_upto_if 18 with (fail)
 rw[<-hz,<-hW0];clear hz hW0
 go_cut [10] (fun v wx=>∃p cap,v=.slice p t cap/\t<=2/\t<=cap/\cap<=maxLen/\SlF 2 wx p t (dY f)/\(∀q,(Value.slice p t cap).ownBlock=some q->W0.heap.size<=q)/\Old W0 wx)
 case first=>
  cases tones
  ·go_wp2_with fail
   go_meet
   have h0:t=0:=by rw[<-Ht.o];rfl
   rw[h0];exact⟨none,0,rfl,zO,zO,Nat.zero_le _,fun h=>absurd h zO,fun q hq=>(by cases hq),Old.refl _⟩
  ·go_wp2_with (with_reducible refine wpList_load_row rfl 43 _ rfl w.heap.size rfl 43 (aA 16 (blk f)) (0,0) _ H0.o.b underlying43 rfl (by rw[aB];exact Hs16.o) ?_)
   refine(HF.o _).mono ?_;rintro e w1 ⟨v,rfl,hl,hown,ho⟩;obtain⟨p,cap,rfl,hnc,hcm,hsl⟩:=RN hown;have hq:=fun q h=>Nat.le_of_not_lt (hown.2 q h);clear hown
   go_wp2_with fail
   go_meet
   rw[show (bL f).length=t from Ht.o]at hl hnc hsl hq |-;exact⟨p,cap,rfl,hl,hnc,hcm,hsl,hq,ho⟩
 case rest=>
  obtain⟨p,cap,rfl,t2,tc,cm,hsl,hq,ho⟩:=hcut;have hrb:=lt_of_block H0.o.r;have Hq:Hid (∀q,(Value.slice p t cap).ownBlock=some q->w.heap.size+1+1<q):=zH fun q h=>Nat.lt_of_lt_of_le hrb (hq q h);clear hq hrb;obtain⟨V1,rfl⟩:∃V,V=wc:=⟨_,rfl⟩
  have hOut:=aFM f p t cap (dY f) V1 hsl zO;rw[hOut0.o]at hOut;have H1:=zH (H0.o.keep ho);have HSl:=zH hsl;have HOut:=zH hOut;have HMk:=zH (fun w=>aDi X w HX.o);have Hcm:=zH cm;clear hOut hOut0 hsl ho H0 HF cm Ht
  go_wp2_with (with_reducible refine wpList_load_row rfl 43 _ rfl w.heap.size rfl 43 (aA 16 (blk f)) (0,0) _ H1.o.b underlying43 rfl (by rw[aB];exact Hs16.o) ?_)
  refine HOut.o.mono ?_;rintro e V2 ⟨rfl,o2⟩;have H1X:Hid ((aA 16 (blk X)).all (·.oneCell')=true):=zH (bN _ _);have HV2:Hid (Old V1 (V2.alloc (.cells (aA 16 (blk X)) 43))):=zH (o2.alloc' _);clear o2 HOut
  go_wp2_with (first | (with_reducible refine wpList_store_row rfl 43 _ _ rfl V2.heap.size (aA 16 (blk X)) rfl rfl 43 _ (heap_alloc_new _ _) (by rw[aB];exact Hs16.o) (by rw[aB];kernel_rfl) H1X.o ?_;rw[World.setRow_alloc_new]) | (with_reducible refine wpList_load_row rfl 43 _ rfl V2.heap.size rfl 43 (aA 16 (blk X)) (0,0) _ (heap_alloc_new _ _) underlying43 rfl (by rw[aB];exact Hs16.o) ?_))
  refine(HMk.o _).mono ?_;rintro e V3 ⟨rfl,o3⟩;have H1M:Hid ((aA 4 (blk (fY X))).all (·.oneCell')=true):=zH (bN _ _);have o3':=o3.alloc' (.cells (aA 4 (blk (fY X))) 44);have HXb:=zH ((o3'.block _ zS).trans (heap_alloc_new V2 (.cells (aA 16 (blk X)) 43)));have HMb:=zH (heap_alloc_new V3 (.cells (aA 4 (blk (fY X))) 44));have HO4:=zH (HV2.o.trans o3');clear o3 o3' HMk HV2
  go_wp2_with (with_reducible refine wpList_store_row rfl 44 _ _ rfl V3.heap.size (aA 4 (blk (fY X))) rfl rfl 44 _ (heap_alloc_new _ _) (by rw[aB];exact Hs4.o) (by rw[aB];kernel_rfl) H1M.o ?_;rw[World.setRow_alloc_new])
  rw[<-RB];obtain⟨V4,hV4⟩:=zG (V3.alloc (.cells (aA 4 (blk (fY X))) 44));obtain⟨xb,hxb⟩:=zG (V2.heap.size);obtain⟨mb,hmb⟩:=zG (V3.heap.size);rw[<-hV4,<-hxb]at HXb;rw[<-hV4,<-hmb]at HMb;rw[<-hV4]at HO4;rw[<-hV4,<-hxb,<-hmb];have hsz:mb+1=V4.heap.size:=by rw[hV4,hmb];simp
  rw[hsz];clear hV4 hxb hmb hsz H1X H1M;have HSe:=zH (H1.o.keep HO4.o);have HSl4:=zH (HSl.o.old HO4.o);have HR0:Hid (aBR 261 V4 X t room 0 (V4.alloc (.cells (aA 4 (blk fun _=>0)) 261))):=zH ⟨fun j hj=>zO,heap_alloc_new _ _,Old.alloc _ _⟩;clear H1 HO4 HSl Hf
  go_loopw [14] (fun i wr=>∃n:Nat,i=vI iJ (n:Int)/\n<=92/\Hid (aBR 261 V4 X t room n wr)) (fun i _=>92-(intOf i).toNat)
  case atStart=>exact⟨0,rfl,zO,HR0⟩
  case round=>
   obtain⟨n,rfl,hn92,hr⟩:=hrel;obtain⟨wo,rfl⟩:∃V,V=wr:=⟨_,rfl⟩
   clear HR0;obtain⟨hsb,hsum⟩:=xO X t room n hr.o.no;have HSB:=zH hsb;have HT:=zH (fun w=>OW X (cS X n) w HX.o);have HXo:=zH ((hr.o.old.block _ (lt_of_block HXb.o)).trans HXb.o);have HSo:=zH hr.o.s;clear hsb hsum
   go_wp2_with (first | (with_reducible refine wpList_load_row rfl 43 _ rfl xb rfl 43 (aA 16 (blk X)) (0,0) _ HXo.o underlying43 rfl (by rw[aB];exact Hs16.o) ?_) | (with_reducible refine wpList_load_row rfl 261 _ rfl V4.heap.size rfl 261 (aA 4 (blk (cS X n))) (0,0) _ HSo.o underlying261 rfl (by rw[aB];exact HsC.o) ?_))
   refine(HT.o _).mono ?_;rintro e W1 ⟨rfl,o1⟩;obtain⟨F0,hF0⟩:=zF (fF (fun _=>0) (cS X n) X);obtain⟨F,hF⟩:=zF (fF g (cS X n) X);have hFF:∀k,k<29->k≠4->(if k<4 then g k else F0 k)=F k:=by rw[<-hF0,<-hF];exact UK g _ _
   have hFs:∀k,k<4->F (5+k)=cS X n k:=by rw[<-hF];exact fun k hk=>OZ _ _ _ _ k hk
   have hFu:∀k,k<4->F (9+k)=fR (bE bK X (cS X n)) k:=by rw[<-hF];exact fun k hk=>FA _ _ _ _ k hk
   rw[hF0];have H1F:Hid ((aA 29 (aR F0 (.slice none 0 0))).all (·.oneCell')=true):=zH (cN _ _ rfl);obtain⟨V5,hV5⟩:=zG (W1.alloc (.cells (aA 29 (aR F0 (.slice none 0 0))) 98));obtain⟨fb,hfb⟩:=zG (W1.heap.size);have o5:Old wo V5:=by rw[hV5];exact o1.alloc' _
   have hfr:FrB 98 V5 fb F0 (.slice none 0 0):=by rw[hV5,hfb];exact FrB.new _ _ _
   have hge:wo.heap.size<=fb:=by rw[hfb];exact o1.size
   have hg5:=((hr.o.old.trans o5).block _ (lt_of_block HSe.o.g)).trans HSe.o.g;have HG5:=zH hg5;have HTh:=zH (hfr.there 0 4 zO);obtain⟨V6,hV6⟩:=zG (V5.setCells fb 0 (eH 4 g));have hfr6:FrB 98 V6 fb F (.slice none 0 0):=by rw[hV6];exact(hfr.gains g).ext hFF
   have ho6:Old wo V6:=by rw[hV6];exact o5.after (Kept.setCells (X:=fun k=>k<wo.heap.size) _ (by show ¬fb<wo.heap.size;omega) _ _) fun _ h=>h
   have c61:=hfr6.cell4.1;have c62:=hfr6.cell4.2;have hfr7:FrB 98 (V6.setCell ⟨fb,4,none⟩ (.slice p t cap)) fb F (.slice p t cap):=hfr6.set4 _;have ho7:Old wo (V6.setCell ⟨fb,4,none⟩ (.slice p t cap)):=ho6.after (Kept.setCell (X:=fun k=>k<wo.heap.size) _ (a:=⟨fb,4,none⟩) (by show ¬fb<wo.heap.size;omega) _) fun _ h=>h;have HM7:=zH (((hr.o.old.trans ho7).block _ (lt_of_block HMb.o)).trans HMb.o);have HF7:=zH hfr7;have HO7:=zH ho7;have HCo:=zH (fun w=>PA (fY X) F p t cap w (fun k hk=>by have:=aDW X k;omega) (fun k hk=>by rw[hFs k hk];exact HSB.o k hk) (fun k hk=>by rw[hFu k hk];have:=yV (bE bK X (cS X n)) k;omega));have hbe:bJ (fY X) (fun k=>F (5+k)) (fun k=>F (9+k)) 4=jM X (cS X n):=KQ (fun _ _=>rfl) hFs hFu 4 zO;rw[hbe]at HCo;have hcost:pF F t=tX X t n:=by
    unfold pF tX;rw[pB,pB,hFu 0 zO,hFu 1 zO,hFu 2 zO,hFu 3 zO]
   have HBi:=zH (fun w=>ZG F p t cap w (fun k hk=>by rw[hFu k hk];have:=yV (bE bK X (cS X n)) k;omega) zO);rw[hcost]at HBi;have HV5:=zH hV5;have Hfb:=zH hfb;have HV6:=zH hV6;have HFn:=zH hF;clear hF0 hF hFF hFs hFu o1 o5 hfr hg5 hV5 hfb hV6 hfr6 ho6 hfr7 ho7 hbe hcost HT HXo
   go_wp2_with (first | (with_reducible refine wpList_store_row rfl 98 _ _ rfl W1.heap.size (aA 29 (aR F0 (.slice none 0 0))) rfl rfl 98 _ (heap_alloc_new _ _) (by rw[aB];exact Hs29.o) (by rw[aB];kernel_rfl) H1F.o ?_;rw[World.setRow_alloc_new,<-HV5.o,<-Hfb.o]) | (with_reducible refine wpList_load_row rfl 44 _ rfl (w.heap.size+1) rfl 44 (aA 4 (blk g)) (0,0) _ HG5.o underlying44 rfl (by rw[aB];exact Hs4.o) ?_) | (with_reducible refine mI rfl 4 g 44 _ _ rfl fb 0 rfl rfl HTh.o Hs4.o ?_;rw[<-HV6.o]) | (with_reducible refine wpList_load_row rfl 44 _ rfl mb rfl 44 (aA 4 (blk (fY X))) (0,0) _ HM7.o underlying44 rfl (by rw[aB];exact Hs4.o) ?_) | (with_reducible refine wpList_load_row rfl 98 _ rfl fb rfl 98 (aA 29 (aR F (.slice p t cap))) (0,0) _ HF7.o.cells underlying98 rfl (by rw[aB];exact Hs29.o) ?_))
   refine(HCo.o _).mono ?_;rintro e W2 ⟨rfl,o2⟩;have HF8:=zH (HF7.o.old o2);have HO8:=zH (HO7.o.trans o2);clear o2 HF7 HO7 HM7 HTh HG5 c61 c62 HV5 HV6 Hfb H1F HCo;obtain⟨b,hb⟩:=zF (jM X (cS X n));have hbb:=EY X (cS X n);rw[hb]at hbb |-;have Hb:=zH hb;have H1r:Hid ((aA 29 (aR F (.slice p t cap))).all (·.oneCell')=true):=zH (cN _ _ rfl);have HNo:=zH hr.o.no;clear hb;have Hend:Hid (∀W9,Old wo W9->tK X t room n->(W9.setRow (w.heap.size+1+1) (aA 29 (aR F (.slice p t cap)))).heap[w.heap.size+1+1]?=some (.cells (aA 29 (aR F (.slice p t cap))) 98 (0,0))/\nF X t room n/\t<=2/\t<=cap/\cap<=maxLen/\SlF 2 (W9.setRow (w.heap.size+1+1) (aA 29 (aR F (.slice p t cap)))) p t (dY f)/\(∀q,(Value.slice p t cap).ownBlock=some q->w.heap.size<=q)/\Old w (W9.setRow (w.heap.size+1+1) (aA 29 (aR F (.slice p t cap))))):=zH fun W9 k hs=>by
    have hse:=HSe.o.keep (hr.o.old.trans k);have hrr:=bS hse.r hse.old zO (aA 29 (aR F (.slice p t cap)));refine⟨hrr.1,⟨hs,HNo.o⟩,t2,tc,Hcm.o,fun h0=>?_,fun q h=>by have:=Hq.o q h;omega,hrr.2⟩;obtain⟨gg,oo,e1,e2,e3⟩:=HSl4.o h0;have hne:gg≠w.heap.size+1+1:=by have:=Hq.o gg (by rw[e1];rfl);omega
    refine⟨gg,oo,e1,Nat.lt_of_lt_of_le e2 (Nat.le_trans (hr.o.old.trans k).size zS),fun j hj=>?_⟩;refine(World.cell?_of_block (setRow_other _ _ _ _ hne)).trans ?_;exact(World.cell?_of_block ((hr.o.old.trans k).block gg e2)).trans (e3 j hj)
   by_cases hb0:0<=b
   ·obtain⟨bn,hbn⟩:∃bn:Nat,b.toNat=bn:=⟨_,rfl⟩
    have hbn4:bn<4:=zO;rw[decide_eq_true hb0,hbn];have Hbn:Hid ((jM X (cS X n)).toNat=bn):=by unfold Hid;rw[Hb.o,hbn]
    have Hb0:=zH hb0;clear hbn hb0 hbb
    go_wp2_with (with_reducible refine fV zK 98 _ rfl fb rfl 98 (aA 29 (aR F (.slice p t cap))) (0,0) _ HF8.o.cells underlying98 rfl (by rw[aB];exact Hs29.o) ?_)
    refine(HBi.o _).mono ?_;rintro e W9 ⟨rfl,o9⟩;have HF9:=zH (HF8.o.old o9);have HO9:=zH (HO8.o.trans o9);clear o9 HF8 HO8 HBi;by_cases hc:tX X t n<=room
    ·have hE:=Hend.o W9 HO9.o (.inr hc);have HE:=zH hE;have Hr9:=zH (HSe.o.keep (hr.o.old.trans HO9.o)).r;clear hE Hend;generalize tX X t n=c at *
     go_wp2_with (first | (with_reducible refine wpList_load_row rfl 98 _ rfl fb rfl 98 (aA 29 (aR F (.slice p t cap))) (0,0) _ HF9.o.cells underlying98 rfl (by rw[aB];exact Hs29.o) ?_) | (with_reducible refine wpList_store_row rfl 98 _ _ rfl (w.heap.size+1+1) (aA 29 (aR F (.slice p t cap))) rfl rfl 98 _ Hr9.o (by rw[aB];exact Hs29.o) (by rw[aB];exact Hzs.o) H1r.o ?_))
     exact bodyPost_ret (aU rfl _ _ (w.heap.size+1+1) 98 (aA 29 (aR F (.slice p t cap))) (0,0) _ rfl HE.o.1 underlying98 rfl (by rw[aB];exact Hs29.o)) rfl ⟨n,p,cap,by rw[HFn.o];rfl,HE.o.2⟩
    ·have hns:¬tK X t room n:=fun h=>by
      rcases h with h | h
      ·rw[Hb.o]at h;have:=Hb0.o;omega
      ·exact hc h
     have hn1:=aHx X t room (n+1) fun j hj=>by
      by_cases e:j=n
      ·subst e;exact hns
      ·exact hr.o.no j zO
     have hnx:=hr.o.next hns HO9.o bn Hbn.o hbn4;have HNx:=zH hnx;obtain⟨s0,s1⟩:=HSB.o bn hbn4;have hsc:=(HO9.o.block _ (lt_of_block hr.o.s)).trans hr.o.s;have c1:=(cell_of_row _ _ _ _ _ _ hsc).trans (dR 4 (cS X n) bn hbn4);have c2:W9.frozen? ⟨V4.heap.size,bn,none⟩=false:=frozen_of_row _ _ _ _ _ hsc;have b0:(0:Int)<=bn:=zO;have b1:(bn:Int)<4:=zO;clear hns hnx hsc hr Hend;generalize tX X t n=c at *;generalize cS X n bn=sc at *
     go_wp2_with fail
     go_roundw
     case rel=>exact⟨n+1,by go_num,zO,HNx⟩
     case measure=>exact zM
   ·rw[decide_eq_false hb0];have hE:=Hend.o W2 HO8.o (.inl (by rw[Hb.o];omega));have HE:=zH hE;have Hr9:=zH (HSe.o.keep (hr.o.old.trans HO8.o)).r;clear hE Hend
    go_wp2_with (first | (with_reducible refine wpList_load_row rfl 98 _ rfl fb rfl 98 (aA 29 (aR F (.slice p t cap))) (0,0) _ HF8.o.cells underlying98 rfl (by rw[aB];exact Hs29.o) ?_) | (with_reducible refine wpList_store_row rfl 98 _ _ rfl (w.heap.size+1+1) (aA 29 (aR F (.slice p t cap))) rfl rfl 98 _ Hr9.o (by rw[aB];exact Hs29.o) (by rw[aB];exact Hzs.o) H1r.o ?_))
    exact bodyPost_ret (aU rfl _ _ (w.heap.size+1+1) 98 (aA 29 (aR F (.slice p t cap))) (0,0) _ rfl HE.o.1 underlying98 rfl (by rw[aB];exact Hs29.o)) rfl ⟨n,p,cap,by rw[HFn.o];rfl,HE.o.2⟩
theorem wL(k:Int)(w:World):
  Calls zP 186 #[vI iJ k] w fun e w'=>e=rJ (.bool (decide (24<=k/\k<=96)))/\w=w':=by
 by_cases a:24<=k <;> by_cases b:k<=96 <;> try (exfalso;omega)
 ·have e:decide (24<=k/\k<=96)=true:=decide_eq_true ⟨a,b⟩;rw[e];clear e;go_enter func186,ntmps186;go_wp2;go_ret;exact⟨rfl,rfl⟩
 ·have e:decide (24<=k/\k<=96)=false:=decide_eq_false zO;rw[e];clear e;have b':96<k:=zO;go_enter func186,ntmps186;go_wp2;go_ret;exact⟨rfl,rfl⟩
 ·have e:decide (24<=k/\k<=96)=false:=decide_eq_false zO;rw[e];clear e;have a':k<24:=zO;go_enter func186,ntmps186;go_wp2;go_ret;exact⟨rfl,rfl⟩
theorem IX(g:nI):zP.built 98 [(0,.agg (aA 4 (blk g)))]=some (aA 29 (aR (PJ g bG bG bG) (.slice none 0 0))):=zK
theorem DA(f g:nI)(w:World)(hf:aD f):
  Calls zP 187 #[.agg (aA 16 (blk f)),.agg (aA 4 (blk g))] w fun e w'=>e=rJ (.bool (decide (dD f/\bX g)))/\Old w w':=by
 have Hs4:Hid ((zP.info? 44).map (·.size)=some 4):=zH zK;obtain⟨W0,hW0⟩:=zG (((w.alloc (.cells (aA 16 (blk f)) 43)).alloc (.cells (aA 4 (blk g)) 44)));have hb:W0.heap[w.heap.size]?=some (.cells (aA 16 (blk f)) 43 (0,0)):=by rw[hW0];exact heap_alloc2_old w _ _
 have hg:W0.heap[w.heap.size+1]?=some (.cells (aA 4 (blk g)) 44 (0,0)):=by rw[hW0];exact heap_alloc2_new w _ _
 have ho:Old w W0:=by rw[hW0];exact(Old.alloc w _).alloc' _
 have hS:∀(b:Nat) (w:World),(Instr.sliceAt 43 (.pointer (some ⟨b,0,none⟩)) none none none).run zP w=.ok (.slice (some ⟨b,0,none⟩) 16 16) w:=fun b w=>by
  have hl:zP.arrayLen 43=16:=zK;have hz:(sizeOf (zP.elem 43)).run zP w=.ok 1 w:=zK;rw[run_sliceAt_array_all w 43 _ zK,hz,hl];rfl
 have HPk:=zH (tD _ _ _ _ W0 (tM hb 0 16 16 zO zO zO) (jS hf 0 16) zO);have hpb:=mP _ (jS hf 0 16);have HWd:=zH (fun w=>uS (bF (part f 0 16)) w zO zO);have hsm:=NC f hf;have HR:=zH (fun w=>CN (PJ g bG bG bG) none 0 0 (fun _=>0) w (fun h=>absurd h zO) (fun _=>by dsimp only;omega) (Nat.le_refl _) (Nat.zero_le _));have hfr:decide (mC (PJ g bG bG bG) 0 (fun _=>0))=decide (bX g):=decide_eq_decide.2 (aAu g _);rw[hfr]at HR;have HBd:=zH (IX g);have HG:=zH hg;have HO:=zH ho;have HW0:=zH hW0;have Hsm:=zH hsm;clear hb hg ho hW0 hsm hfr hpb;generalize bF (part f 0 16)=pk at *;generalize eS pk=wk at *;generalize PJ g bG bG bG=F at *;obtain⟨D,hD⟩:=zF (decide (dD f/\bX g));have HD:=zH hD;rw[hD];clear hD;go_enter func187,ntmps187
 go_wp2_with fail
 rw[<-HW0.o];clear HW0;refine HPk.o.mono ?_;rintro e w1 ⟨rfl,rfl⟩
 go_wp2_with fail
 refine(HWd.o _).mono ?_;rintro e w1 ⟨rfl,rfl⟩;by_cases c:wk<=24
 ·have e:decide (dD f/\bX g)=decide (bX g):=decide_eq_decide.2 ⟨fun h=>h.2,fun h=>⟨Hsm.o.1 c,h⟩⟩;have He:=zH (HD.o.symm.trans e);clear e Hsm
  go_wp2_with (first | (with_reducible refine fV zK 44 _ rfl (w.heap.size+1) rfl 44 (aA 4 (blk g)) (0,0) _ HG.o underlying44 rfl (by rw[aB];exact Hs4.o) ?_) | (refine lK zK 98 _ rfl [(0,.agg (aA 4 (blk g)))] _ zK HBd.o ?_))
  refine(HR.o _).mono ?_;rintro e w2 ⟨rfl,o2⟩;have HO2:=zH (HO.o.trans o2);clear o2
  go_wp2_with fail
  go_ret;exact⟨by rw[He.o];rfl,HO2.o⟩
 ·have e:decide (dD f/\bX g)=false:=decide_eq_false fun h=>c (Hsm.o.2 h.1);have He:=zH (HD.o.symm.trans e);clear e Hsm
  go_wp2_with fail
  go_ret;exact⟨by rw[He.o];rfl,HO.o⟩
theorem UA:aA 4 (blk bG)=#[vI iJ 0,vI iJ 0,vI iJ 0,vI iJ 0]:=rfl
theorem ZL(f:nI)(w:World)(hf:aD f):
  Calls zP 188 #[.agg (aA 16 (blk f))] w fun e w'=>e=rJ (.agg (aA 29 (aR (fF bG bG f) (.slice none 0 0))))/\Old w w':=by
 have Hs16:Hid ((zP.info? 43).map (·.size)=some 16):=zH zK;have Hs29:Hid ((zP.info? 98).map (·.size)=some 29):=zH zK;obtain⟨z,hz⟩:∃z:Array Value,z=aA 29 (aR (fun _=>0) (.slice none 0 0)):=⟨_,rfl⟩
 have hzs:z.size=29:=by rw[hz,aB]
 rw[eZ]at hz;obtain⟨W0,hW0⟩:=zG (((w.alloc (.cells (aA 16 (blk f)) 43)).alloc (.cells z 98)));have hb:W0.heap[w.heap.size]?=some (.cells (aA 16 (blk f)) 43 (0,0)):=by rw[hW0];exact heap_alloc2_old w _ _
 have hr:W0.heap[w.heap.size+1]?=some (.cells z 98 (0,0)):=by rw[hW0];exact heap_alloc2_new w _ _
 have ho:Old w W0:=by rw[hW0];exact(Old.alloc w _).alloc' _
 have hT:=fun w=>OW f bG w hf;rw[show (fun _=>(0:Int))=bG from rfl]at hT;obtain⟨F,hF⟩:=zF (fF bG bG f);rw[hF]at hT |-;have HT:=zH hT;have Hb:=zH hb;have Hr:=zH hr;have HO:=zH ho;have HW0:=zH hW0;have Hz:=zH hz;have Hzs:=zH hzs;clear hb hr ho hW0 hz hzs hT hF;go_enter func188,ntmps188
 go_wp2_with (rw[<-Hz.o,<-HW0.o];with_reducible refine wpList_load_row rfl 43 _ rfl w.heap.size rfl 43 (aA 16 (blk f)) (0,0) _ Hb.o underlying43 rfl (by rw[aB];exact Hs16.o) ?_)
 rw[<-UA];refine(HT.o _).mono ?_;rintro e w1 ⟨rfl,o1⟩;have HR1:=zH ((o1.block _ (lt_of_block Hr.o)).trans Hr.o);have hrr:=bS HR1.o (HO.o.trans o1) zO (aA 29 (aR F (.slice none 0 0)));have HRR:=zH hrr;have H1:Hid ((aA 29 (aR F (.slice none 0 0))).all (·.oneCell')=true):=zH (cN _ _ rfl);clear o1 hrr Hb Hr HO HT HW0
 go_wp2_with (with_reducible refine wpList_store_row rfl 98 _ _ rfl (w.heap.size+1) (aA 29 (aR F (.slice none 0 0))) rfl rfl 98 _ HR1.o (by rw[aB];exact Hs29.o) (by rw[aB];exact Hzs.o) H1.o ?_)
 exact bodyPost_ret (results_cell_row rfl _ _ (w.heap.size+1) 98 (aA 29 (aR F (.slice none 0 0))) (0,0) _ rfl HRR.o.1 underlying98 rfl (by rw[aB];exact Hs29.o)) rfl ⟨rfl,HRR.o.2⟩
theorem OE(f g:nI)(size:Int)(w:World)(hf:aD f)(h:55<=size/\size<=96)(h2:dD f/\bX g):
  Calls zP 140 #[.agg (aA 16 (blk f)),.agg (aA 4 (blk g)),vI iJ size] w fun e w'=>e=rJ (.tuple #[.agg (aA 29 (aR (fF bG bG f) (.slice none 0 0))),vI iJ 0])/\Old w w':=by
 have Hs4:Hid ((zP.info? 44).map (·.size)=some 4):=zH zK;have Hs16:Hid ((zP.info? 43).map (·.size)=some 16):=zH zK;have Hs29:Hid ((zP.info? 98).map (·.size)=some 29):=zH zK;obtain⟨z,hz⟩:∃z:Array Value,z=aA 29 (aR (fun _=>0) (.slice none 0 0)):=⟨_,rfl⟩
 have hzs:z.size=29:=by rw[hz,aB]
 rw[eZ]at hz;obtain⟨W0,hW0⟩:=zG ((((w.alloc (.cells (aA 16 (blk f)) 43)).alloc (.cells (aA 4 (blk g)) 44)).alloc (.cells z 98)));have h0:SeSt w z f g W0:=by rw[hW0];exact SeSt.start w z f g
 have H0:=zH h0;have Hz:=zH hz;have Hzs:=zH hzs;have HW0:=zH hW0;clear h0 hz hzs hW0;have hS:=fun w=>wL size w;rw[decide_eq_true ⟨zO,h.2⟩]at hS;have HS:=zH hS;have hT:=fun w=>DA f g w hf;rw[decide_eq_true h2]at hT;have HT:=zH hT;have HE:=zH (fun w=>ZL f w hf);obtain⟨h55,h96⟩:=h;clear hS h2 hT hf;generalize fF bG bG f=F at *;have H1:Hid ((aA 29 (aR F (.slice none 0 0))).all (·.oneCell')=true):=zH (cN _ _ rfl);go_enter func140,ntmps140
 go_wp2_with fail
 rw[<-Hz.o,<-HW0.o];clear HW0;refine(HS.o _).mono ?_;rintro e w1 ⟨rfl,rfl⟩
 go_wp2_with (first | (with_reducible refine wpList_load_row rfl 43 _ rfl w.heap.size rfl 43 (aA 16 (blk f)) (0,0) _ H0.o.b underlying43 rfl (by rw[aB];exact Hs16.o) ?_) | (with_reducible refine wpList_load_row rfl 44 _ rfl (w.heap.size+1) rfl 44 (aA 4 (blk g)) (0,0) _ H0.o.g underlying44 rfl (by rw[aB];exact Hs4.o) ?_))
 refine(HT.o _).mono ?_;rintro e w1 ⟨rfl,o1⟩;have HA:=zH (H0.o.keep o1);clear o1 H0
 go_wp2_with (with_reducible refine wpList_load_row rfl 43 _ rfl w.heap.size rfl 43 (aA 16 (blk f)) (0,0) _ HA.o.b underlying43 rfl (by rw[aB];exact Hs16.o) ?_)
 refine(HE.o _).mono ?_;rintro e w2 ⟨rfl,o2⟩;have hb:=HA.o.keep o2;have HB:=zH hb;have hrr:=bS hb.r hb.old zO (aA 29 (aR F (.slice none 0 0)));have HRR:=zH hrr;clear o2 hb hrr HA
 go_wp2_with (with_reducible refine wpList_store_row rfl 98 _ _ rfl (w.heap.size+1+1) (aA 29 (aR F (.slice none 0 0))) rfl rfl 98 _ HB.o.r (by rw[aB];exact Hs29.o) (by rw[aB];exact Hzs.o) H1.o ?_)
 exact bodyPost_ret (aU rfl _ _ (w.heap.size+1+1) 98 (aA 29 (aR F (.slice none 0 0))) (0,0) _ rfl HRR.o.1 underlying98 rfl (by rw[aB];exact Hs29.o)) rfl ⟨rfl,HRR.o.2⟩
theorem rT(f g:nI)(size:Int)(w:World)(hf:aD f)(h:24<=size/\size<55)(h2:dD f/\bX g):
  Calls zP 140 #[.agg (aA 16 (blk f)),.agg (aA 4 (blk g)),vI iJ size] w fun e w'=>∃n p cap,e=rJ (.tuple #[.agg (aA 29 (aR (fF g (cS (fU f true) n) (fU f true)) (.slice p (DL f true) cap))),vI iJ 0])/\nF (fU f true) (DL f true) (8*size) n/\DL f true<=2/\DL f true<=cap/\cap<=maxLen/\SlF 2 w' p (DL f true) (dY f)/\(0<DL f true->∀a,p=some a->w.heap.size<=a.block)/\Old w w':=by
 have Hs4:Hid ((zP.info? 44).map (·.size)=some 4):=zH zK;have Hs16:Hid ((zP.info? 43).map (·.size)=some 16):=zH zK;have Hs29:Hid ((zP.info? 98).map (·.size)=some 29):=zH zK;obtain⟨z,hz⟩:∃z:Array Value,z=aA 29 (aR (fun _=>0) (.slice none 0 0)):=⟨_,rfl⟩
 have hzs:z.size=29:=by rw[hz,aB]
 rw[eZ]at hz;obtain⟨W0,hW0⟩:=zG ((((w.alloc (.cells (aA 16 (blk f)) 43)).alloc (.cells (aA 4 (blk g)) 44)).alloc (.cells z 98)));have h0:SeSt w z f g W0:=by rw[hW0];exact SeSt.start w z f g
 have H0:=zH h0;have Hz:=zH hz;have Hzs:=zH hzs;have HW0:=zH hW0;clear h0 hz hzs hW0;have hS:=fun w=>wL size w;rw[decide_eq_true ⟨h.1,zO⟩]at hS;have HS:=zH hS;have hT:=fun w=>DA f g w hf;rw[decide_eq_true h2]at hT;have HT:=zH hT;have hSe:=fun w=>QF f g (8*size) true w hf;obtain⟨h24,h55⟩:=h;obtain⟨room,hroom⟩:=zF (8*size);rw[hroom]at hSe |-;obtain⟨X,hX⟩:=zF (fU f true);obtain⟨t,ht⟩:=zF (DL f true);rw[hX,ht]at hSe |-;have HSe:=zH hSe;have Hroom:=zH hroom;clear hS h2 hT hf hSe hX ht hroom;go_enter func140,ntmps140
 go_wp2_with fail
 rw[<-Hz.o,<-HW0.o];clear HW0;refine(HS.o _).mono ?_;rintro e w1 ⟨rfl,rfl⟩
 go_wp2_with (first | (with_reducible refine wpList_load_row rfl 43 _ rfl w.heap.size rfl 43 (aA 16 (blk f)) (0,0) _ H0.o.b underlying43 rfl (by rw[aB];exact Hs16.o) ?_) | (with_reducible refine wpList_load_row rfl 44 _ rfl (w.heap.size+1) rfl 44 (aA 4 (blk g)) (0,0) _ H0.o.g underlying44 rfl (by rw[aB];exact Hs4.o) ?_))
 refine(HT.o _).mono ?_;rintro e w1 ⟨rfl,o1⟩;have HA:=zH (H0.o.keep o1);clear o1 H0
 go_wp2_with (first | (with_reducible refine wpList_load_row rfl 43 _ rfl w.heap.size rfl 43 (aA 16 (blk f)) (0,0) _ HA.o.b underlying43 rfl (by rw[aB];exact Hs16.o) ?_) | (with_reducible refine wpList_load_row rfl 44 _ rfl (w.heap.size+1) rfl 44 (aA 4 (blk g)) (0,0) _ HA.o.g underlying44 rfl (by rw[aB];exact Hs4.o) ?_))
 rw[Hroom.o];refine(HSe.o _).mono ?_;rintro e w2 ⟨n,p,cap,rfl,hst,t2,tc,cm,hsl,hq,o2⟩;obtain⟨F,hF⟩:=zF (fF g (cS X n) X);rw[hF];have H1:Hid ((aA 29 (aR F (.slice p t cap))).all (·.oneCell')=true):=zH (cN _ _ rfl);have o3:=o2.alloc' (.cells (aA 29 (aR F (.slice p t cap))) 98);have hb:=HA.o.keep o3;have hfr:=heap_alloc_new w2 (.cells (aA 29 (aR F (.slice p t cap))) 98);have HB:=zH hb;have HFr:=zH hfr;have hrr:=bS hb.r hb.old zO (aA 29 (aR F (.slice p t cap)));have HRR:=zH hrr;have hsl3:=hsl.old (Old.alloc w2 (.cells (aA 29 (aR F (.slice p t cap))) 98));have HRest:Hid (nF X t room n/\t<=2/\t<=cap/\cap<=maxLen/\SlF 2 ((w2.alloc (.cells (aA 29 (aR F (.slice p t cap))) 98)).setRow (w.heap.size+1+1) (aA 29 (aR F (.slice p t cap)))) p t (dY f)):=by
  refine zH ⟨hst,t2,tc,cm,fun h0=>?_⟩;obtain⟨gg,oo,e1,e2,e3⟩:=hsl3 h0;have hne:gg≠w.heap.size+1+1:=by
   have h5:=hq gg (by rw[e1];rfl);have h6:=lt_of_block HA.o.r;omega
  exact⟨gg,oo,e1,Nat.lt_of_lt_of_le e2 zS,fun j hj=>(World.cell?_of_block (setRow_other _ _ _ _ hne)).trans (e3 j hj)⟩
 have HFre:Hid (0<t->∀a,p=some a->w.heap.size<=a.block):=zH fun h0 a ha=>by
  obtain⟨gg,oo,e1,_,_⟩:=hsl3 h0;rw[e1]at ha;cases ha;have h5:=hq gg (by rw[e1];rfl);have h6:=HA.o.old.size;show w.heap.size<=gg;omega
 have HF:=zH hF;clear o2 o3 hb hfr hrr HA hst t2 tc cm hsl hsl3 hF hq
 go_wp2_with (first | (with_reducible refine wpList_store_row rfl 98 _ _ rfl w2.heap.size (aA 29 (aR F (.slice p t cap))) rfl rfl 98 _ (heap_alloc_new _ _) (by rw[aB];exact Hs29.o) (by rw[aB];kernel_rfl) H1.o ?_;rw[World.setRow_alloc_new]) | (with_reducible refine wpList_load_row rfl 98 _ rfl w2.heap.size rfl 98 (aA 29 (aR F (.slice p t cap))) (0,0) _ HFr.o underlying98 rfl (by rw[aB];exact Hs29.o) ?_) | (with_reducible refine wpList_store_row rfl 98 _ _ rfl (w.heap.size+1+1) (aA 29 (aR F (.slice p t cap))) rfl rfl 98 _ HB.o.r (by rw[aB];exact Hs29.o) (by rw[aB];exact Hzs.o) H1.o ?_))
 exact bodyPost_ret (aU rfl _ _ (w.heap.size+1+1) 98 (aA 29 (aR F (.slice p t cap))) (0,0) _ rfl HRR.o.1 underlying98 rfl (by rw[aB];exact Hs29.o)) rfl ⟨n,p,cap,by rw[HF.o];rfl,HRest.o.1,HRest.o.2.1,HRest.o.2.2.1,HRest.o.2.2.2.1,HRest.o.2.2.2.2,HFre.o,HRR.o.2⟩
end Go.Proofs.YticpdokbiblpoaaGreatDoor
