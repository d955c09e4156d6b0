/- Texts joined: BankAJ, BankAK. -/
import Derived.Deep.RegionHeld
import Derived.Test.YticpdokbiblpoaaGreatDoorPkBE
import Derived.Test.YticpdokbiblpoaaGreatDoorTk
set_option linter.unusedVariables false
set_option linter.unusedSimpArgs false
set_option maxHeartbeats 8000000
namespace Go.Proofs.YticpdokbiblpoaaGreatDoor
open Go.Proofs.Tryz
open Go.Proofs.Tryz renaming prog → zP
open Go.Value renaming int → vI
open Go.IntKind renaming i64 → iJ
open Go.Ending renaming returned → rJ
set_option maxRecDepth 100000
open Go.RowKit Go.ChangeShapes Go.WideShapes
theorem OR(bb sz n N:Nat)(q:Option Addr)(c:Nat)(im:Option Addr)(ci:Nat)(D:Nat->Mt)(F:nI)(w:World)(h:uJ w bb sz n N q c im ci D F)(hN:BkN sz n N D F)(i k:Nat)(hi:i<n)(hk:k<(D i).fr):
  Calls zP 35 #[.pointer (some ⟨bb,0,none⟩),.agg (D i).cells,vI iJ k] w (KQ w (gN (fun j=>F (gQ sz D i k+j)) sz) (jI (pZ D F i k) (gN (fun j=>F (gQ sz D i k+j)) sz))):=by
 have Hs29:Hid ((zP.info? 98).map (·.size)=some 29):=zH zK;have Hs9:Hid ((zP.info? 90).map (·.size)=some 9):=zH zK;have hpl:=hN.pl i k hi hk;have hok:=hN.ok i hi;have hx:=hN.x i hi;have hy:=hN.y i hi;have h24:=hN.z1;have h96:=hN.z2;have hN4:=hN.N4;have hfr:=hok.fr_le;obtain⟨A,hA⟩:=zG ((D i).x.toNat);obtain⟨Y,hY⟩:=zG ((D i).y.toNat);have hxA:(D i).x=A:=zO;have hyY:(D i).y=Y:=zO;rw[<-hA,<-hY]at hpl;have HPl:=zH (fun V (o:Old w V)=>CG bb sz n N q c im ci D F V (h.old o) h96 hN.byt (D i) A Y k hxA hyY zO zO zO zO);have hfa:gQ sz D i k=Y+k*sz:=by unfold gQ;rw[<-hY]
 have hfs:pZ D F i k=aM (fun j=>F (A+4*k+j)) 4:=by unfold pZ;rw[<-hA]
 rw[hfa,hfs];obtain⟨S,hS⟩:=zG (aM (fun j=>F (A+4*k+j)) 4);obtain⟨at_,hat⟩:∃a,a=Y+k*sz:=⟨_,rfl⟩
 rw[<-hat,<-hS]at HPl |-;have hbt:lV (fun j=>F (at_+j)) sz:=fun j hj=>hN.byt _ zO;obtain⟨g,o,rfl,hg,hcs⟩:=h.img zO;have hsl:SlU w (some ⟨g,o+at_,none⟩) sz (fun j=>F (at_+j)):=fun _=>⟨g,o+at_,rfl,hg,fun j hj=>by rw[Nat.add_assoc];exact hcs (at_+j) zO⟩
 obtain⟨hi',hhi⟩:∃x,x=at_+sz:=⟨_,rfl⟩
 obtain⟨CP,hCP⟩:∃L,L=ci-at_:=⟨_,rfl⟩
 have hi1:=h.i1;have hi2:=h.i2;have hc1:∀w',(Instr.sliceAt 34 (.slice (some ⟨g,o,none⟩) N ci) (some (vI iJ at_)) (some (vI iJ hi')) none).run zP w'=.ok (.slice (some ⟨g,o+at_,none⟩) sz CP) w':=fun w'=>by
  have:=kK g o N ci at_ hi' zO zO w';rw[<-hCP,show hi'-at_=sz by omega]at this;exact this
 have HOp:=zH (fun V (hV:Old w V)=>PO (some ⟨g,o+at_,none⟩) sz CP (fun j=>F (at_+j)) S V (hsl.old hV) hbt zO zO zO);have HK:=zH (fun V (hV:Old w V)=>(And.intro (h.old hV).size_.2.2 (h.old hV).size_.1));have e1:IntKind.i64.wrap ((at_:Int)+sz)=hi':=by rw[IntWalk.i64_in _ zO];omega
 have e2:wrap64 ((at_:Int)+sz)=hi':=by rw[IntWalk.wrap64_in _ zO];omega
 have HE:=zH (And.intro e1 e2);obtain⟨X,hX⟩:=zG ((D i).cells);have HX9:Hid (X.size=9):=zH (by rw[hX];exact Mt.size9 _);rw[<-hX]at HPl |-;obtain⟨z,hz⟩:∃z:Array Value,z=aA 29 (aN (fun _=>0) (.slice none 0 0)):=⟨_,rfl⟩
 have HZs:Hid (z.size=29):=zH (by rw[hz,aB]);rw[eK]at hz;obtain⟨W0,hW0⟩:∃W,W=(w.alloc (.cells X 90)).alloc (.cells z 98):=⟨_,rfl⟩
 have HB:Hid (W0.heap[w.heap.size]?=some (.cells X 90 (0,0))):=zH (by rw[hW0];exact heap_alloc2_old w _ _);have HR:Hid (W0.heap[w.heap.size+1]?=some (.cells z 98 (0,0))):=zH (by rw[hW0];exact heap_alloc2_new w _ _);have HO:Hid (Old w W0):=zH (by rw[hW0];exact(Old.alloc w _).alloc' _);have HZ:=zH hz;have HW0:=zH hW0;clear h hN hpl hok hx hy hfr hA hY hxA hyY hfa hfs hS hat hbt hg hcs hsl hhi hCP hi1 hi2 hX hz hW0 e1 e2;go_enter func35,ntmps35
 go_wp2_with (rw[<-HZ.o,<-HW0.o];with_reducible refine wpList_load_row rfl 90 _ rfl w.heap.size rfl 90 X (0,0) _ HB.o underlying90 rfl (by rw[HX9.o];exact Hs9.o) ?_)
 refine(HPl.o W0 HO.o).mono ?_;rintro e V ⟨rfl,o1⟩;have HO1:=zH (HO.o.trans o1);have HR1:=zH ((o1.block _ (lt_of_block HR.o)).trans HR.o);clear o1 HPl HB HR
 go_wp2_with fail
 obtain⟨e1,e2⟩:=HE.o;refine wp_region_held_drew (S:=(fun V=>V.cell? ⟨bb,2,none⟩=some (.slice (some ⟨g,o,none⟩) N ci)/\V.cell? ⟨bb,0,none⟩=some (vI iJ (sz:Int)))) zK ?_ (fun hHeld=>?_)
 ·(try dsimp only);exact HK.o _ HO1.o.drew
 refine (uU 0) ((uU 1) ((uU 2) ((uU 3) ((uU 4) ((uU 5) ((uU 6) ((uU 7) ((uU 8) ((uU 9) ((uU 10) ((uU 11) ((uU 12) ?_))))))))))));refine wpR 13 rfl (fun K hK=>?_);clear e1 e2;go_simp;refine(HOp.o _ HO1.o.drew).mono ?_;rintro e V2 ⟨G,n2,p2,cp2,T,rfl,o2,f1,f2,f3,f4,f5,f6,f7⟩;have HV:=zH (HO1.o.drew.trans o2);have hrb:w.heap.size+1<V.heap.size:=lt_of_block HR1.o;have hR2:V2.heap[w.heap.size+1]?=some (.cells z 98 (0,0)):=(o2.block _ hrb).trans HR1.o;have k3:Kept (fun q=>q≠w.heap.size+1) V2 (V2.setRow (w.heap.size+1) (aA 29 (aN G (.slice p2 n2 cp2)))):=⟨rfl,rfl,zS,fun x hx=>setRow_other _ _ _ _ hx⟩
 have hrr:=bR hR2 HV.o (Nat.le_succ _) (aA 29 (aN G (.slice p2 n2 cp2)));have f3':SlF 2 (V2.setRow (w.heap.size+1) (aA 29 (aN G (.slice p2 n2 cp2)))) p2 n2 T:=f3.kept k3 (fun a hn ha e=>by
  have h1:=f7 hn a ha;have h2:V.drew.heap.size=V.heap.size:=rfl;omega)
 have f7':0<n2->∀a,p2=some a->w.heap.size<=a.block:=fun hn a ha=>by
  have h1:=f7 hn a ha;have h2:V.drew.heap.size=V.heap.size:=rfl;omega
 have HRR:=zH hrr;have HR2:=zH hR2;have HF:=zH (And.intro f1 (And.intro f2 (And.intro f3' (And.intro f4 (And.intro f5 (And.intro f6 f7'))))));have H1g:Hid ((aA 29 (aN G (.slice p2 n2 cp2))).all (·.oneCell')=true):=zH (bV _ _ rfl);have HKr:Hid ((V2.setRow (w.heap.size+1) (aA 29 (aN G (.slice p2 n2 cp2)))).cell? ⟨bb,2,none⟩=some (.slice (some ⟨g,o,none⟩) N ci)/\(V2.setRow (w.heap.size+1) (aA 29 (aN G (.slice p2 n2 cp2)))).cell? ⟨bb,0,none⟩=some (vI iJ (sz:Int))):=zH (HK.o _ hrr.2);clear o2 f1 f2 f3 f4 f5 f6 f7 f3' f7' hrb hR2 k3 hrr HOp
 go_wp2_with fail
 refine hK.out _ _ ?_ (fun hHeld=>?_)
 ·(try dsimp only);exact HK.o _ HV.o
 clear hK K;refine (uU 14) ((uU 15) ?_);refine wpR 16 rfl (fun K hK=>?_);rw[if_pos zK]
 with_reducible refine wp_store_row 98 _ _ rfl (w.heap.size+1) (aA 29 (aN G (.slice p2 n2 cp2))) rfl rfl 98 _ HR2.o (by rw[aB];exact Hs29.o) (by rw[aB];exact HZs.o) H1g.o ?_
 refine hK.out _ _ ?_ (fun hHeld=>?_)
 ·(try dsimp only);exact HKr.o
 clear hK K;refine (uU 17) ?_;refine wpAnyH_done zK ?_ _
 go_wp2_with fail
 refine bodyPost_ret (aR rfl _ _ (w.heap.size+1) 98 (aA 29 (aN G (.slice p2 n2 cp2))) (0,0) _ rfl HRR.o.1 underlying98 rfl (by rw[aB];exact Hs29.o)) rfl ?_;exact⟨G,n2,p2,cp2,T,rfl,HRR.o.2,HF.o.1,HF.o.2.1,HF.o.2.2.1,HF.o.2.2.2.1,HF.o.2.2.2.2.1,HF.o.2.2.2.2.2.1,HF.o.2.2.2.2.2.2⟩
def chE(n:Nat)(D:Nat->Mt)(i ch:Int):Int:=if i<0\/(n:Int)<=i then 7 else if ch<0\/(D i.toNat).c<=ch then 5 else 0
def aDO(w:World)(len N:Nat)(L:Nat->Fr)(e:Ending)(w':World):Prop:=
 ∃r,e=rJ (.tuple #[.slice (some ⟨r,0,none⟩) len len,vI iJ 0])/\CellsAt w' r len (fun j=>jN (dY N (iM N L) N (gU N L) j))/\w.heap.size<=r/\Old w w'
structure WhS(w:World)(g mb N:Nat)(X:Array Value)(L:Nat->Fr)(k:Nat)(wr:World):Prop where
 ex:∃Lk,FrsO (fun q=>q<w.heap.size) wr g N Lk/\∀i,i<k->lC (Lk i).F (Lk i).n (Lk i).T/\kS (Lk i).F (Lk i).n (Lk i).T (L i).F (L i).n (L i).T
 bx:wr.heap[mb]?=some (.cells X 90 (0,0))
 ne:mb≠g
 old:Old w wr
namespace WhS
variable {w wr V:World} {g mb N:Nat} {X:Array Value} {L:Nat->Fr} {k:Nat}
theorem keep(h:WhS w g mb N X L k wr)(o:Old wr V):WhS w g mb N X L k V:=by
 obtain⟨Lk,h1,h2⟩:=h.ex;exact⟨⟨Lk,h1.old o,h2⟩,(o.block _ (lt_of_block h.bx)).trans h.bx,h.ne,h.old.trans o⟩
theorem glt(h:WhS w g mb N X L k wr):g<wr.heap.size:=by obtain⟨Lk,h1,_⟩:=h.ex;exact h1.at_.lt
theorem there(h:WhS w g mb N X L k wr)(hk:k<N):wr.there g (k*29) 29:=by obtain⟨Lk,h1,_⟩:=h.ex;exact h1.at_.there (k*29) 29 zO
theorem next(h:WhS w g mb N X L k wr)(hk:k<N)(x:Fr)(hx:ToV (fun q=>q=g) wr x)(h1:lC x.F x.n x.T)(h2:kS x.F x.n x.T (L k).F (L k).n (L k).T):WhS w g mb N X L (k+1) (wr.setCells g (k*29) (aA 29 (aN x.F x.s)).toList):=by
 obtain⟨Lk,a1,a2⟩:=h.ex;have kk:=Kept.setCells (X:=fun q=>q≠g) wr (b:=g) (fun e=>e rfl) (k*29) (aA 29 (aN x.F x.s)).toList;refine⟨⟨ZS Lk k x,a1.store k hk x hx,fun i hi=>?_⟩,(kk.block mb h.ne).trans h.bx,h.ne,h.old.after kk fun q hq e=>a1.o (e ▸ hq)⟩;by_cases e:i=k
 ·subst e;rw[mP];exact⟨h1,h2⟩
 ·rw[lT _ _ _ e];exact a2 i zO
end WhS
theorem SE{N:Nat}{L M:Nat->Fr}(h:∀i,i<N->kS (L i).F (L i).n (L i).T (M i).F (M i).n (M i).T)(q:Nat)(hq:q<N*16):dY N (iM N L) N (gU N L) q=dY N (iM N M) N (gU N M) q:=by
 refine BE (fun j hj=>?_) (fun j hj=>?_) q hq
 ·unfold gU;rw[if_pos zO,if_pos zO];exact yJ (h _ zO) _ zO
 ·unfold iM;rw[if_pos zO,if_pos zO];exact(h (j/4) zO).2.2 _ zO zO
theorem XV(bb sz n N0:Nat)(q:Option Addr)(c:Nat)(im:Option Addr)(ci:Nat)(D:Nat->Mt)(F:nI)(w:World)(h:uJ w bb sz n N0 q c im ci D F)(h0:0<sz)(hn:n<=64)(i ch:Int)(hE:chE n D i ch≠0):
  Calls zP 10 #[.pointer (some ⟨bb,0,none⟩),vI iJ i,vI iJ ch] w fun e w'=>e=rJ (.tuple #[.slice none 0 0,vI iJ (chE n D i ch)])/\Old w w':=by
 have hM:Calls zP 33 #[.pointer (some ⟨bb,0,none⟩),vI iJ i,vI iJ ch] w fun e w'=>e=rJ (.tuple #[.agg oV,vI iJ (chE n D i ch)])/\Old w w':=by
  unfold chE at hE |-;by_cases hi:i<0\/(n:Int)<=i
  ·rw[if_pos hi];exact tT bb sz n N0 q c im ci D F w h h0 i ch hi
  ·rw[if_neg hi]at hE |-;obtain⟨k,rfl⟩:∃k:Nat,i=k:=⟨i.toNat,zO⟩
   rw[Int.toNat_natCast]at hE |-;by_cases hc:ch<0\/(D k).c<=ch
   ·rw[if_pos hc];exact rR bb sz n N0 q c im ci D F w h h0 hn k zO ch hc
   ·rw[if_neg hc]at hE;exact absurd rfl hE
 obtain⟨E,hEe⟩:=zG (chE n D i ch);rw[<-hEe]at hM hE |-;have HM:=zH hM;unfold oV at HM;have e1:(E != 0)=true:=by simpa using hE
 clear hM h hEe hE;go_enter func10,ntmps10
 go_wp2_with fail
 refine HM.o.mono ?_;rintro e V ⟨rfl,o⟩;have HO:=zH (o.alloc' (.cells oV 90));unfold oV at HO;clear o
 go_wp2_with fail
 go_ret2
 exact⟨rfl,HO.o⟩
theorem RO(bb sz n:Nat)(q:Option Addr)(c:Nat)(im:Option Addr)(ci:Nat)(D:Nat->Mt)(F:nI)(Z:Nat->aO)(w:World)(h:uJ w bb sz n (aL (aQ (aJ Z)) sz n) q c im ci D F)(pk:Pkd sz n Z F)(hD:D=eX (aJ Z) sz n)(k ch:Nat)(hk:k<n)(hch:(ch:Int)<(D k).c)
  (len N:Nat) (hlen:len=(D k).n.toNat) (hN:N=cR len) (L:Nat->Fr) (hL:∀b,b<N->lC (L b).F (L b).n (L b).T/\jJ (frmL sz (qP (Z k) ch) b) (enc (L b).F (L b).n (L b).T)):
  Calls zP 10 #[.pointer (some ⟨bb,0,none⟩),vI iJ k,vI iJ ch] w (aDO w len N L):=by
 have Hs29:Hid ((zP.info? 98).map (·.size)=some 29):=zH zK;have Hs9:Hid ((zP.info? 90).map (·.size)=some 9):=zH zK;have hbn:BkN sz n (aL (aQ (aJ Z)) sz n) D F:=by rw[hD];exact pk.bkN
 have hz0:0<sz:=by have:=hbn.z1;omega
 have hn64:=hbn.n64;have HM:=zH (sG bb sz n _ q c im ci D F w h hz0 hn64 k hk ch ⟨zO,hch⟩);have hok:=hbn.ok k hk;have hfr:=hok.fr_le;have hn1:=hok.n1;have hle:len<=1048576:=by have hd:=hch;rw[hD]at hd;have:=pk.chan hk hd;have:=(pk.v k hk).m2;rw[hlen,hD];omega
 have HFo:Hid (∀V b,b<N->Old w V->Calls zP 35 #[.pointer (some ⟨bb,0,none⟩),.agg (D k).cells,vI iJ (mE D k ch b)] V (KQ V (frmL sz (qP (Z k) ch) b) 0)):=zH fun V b hb hV=>by
  have hb':b<cR (D k).n.toNat:=by rw[<-hlen,<-hN];exact hb
  have hq:mE D k ch b<(D k).fr:=vQ hch hb';have:=OR bb sz n _ q c im ci D F V (h.old hV) hbn k (mE D k ch b) hk hq;have e1:gN (fun j=>F (gQ sz D k (mE D k ch b)+j)) sz=frmL sz (qP (Z k) ch) b:=by
   rw[hD]at hch hb' |-;exact pk.bytes hk hch hb'
  have e2:jI (pZ D F k (mE D k ch b)) (gN (fun j=>F (gQ sz D k (mE D k ch b)+j)) sz)=0:=by
   rw[hD]at hch hb' |-;exact pk.good V hk hch hb'
  rw[e2,e1]at this;exact this
 have HNu:Hid (∀V b,b<N->Calls zP 36 #[.agg (D k).cells,vI iJ ch,vI iJ b] V fun e w'=>e=rJ (vI iJ (mE D k ch b))/\Old V w'):=zH fun V b hb=>by
  have h2:(D k).c=(Z k).n:=by rw[hD];rfl
  have hn2:=(pk.v k hk).n2;have:=sI (D k) (D k).c.toNat ch b V zO zO (by rw[hN]at hb;unfold cR at hb;omega) zO;rw[uZ];exact this
 have HCn:=zH (fun V=>fV (len:Int) V zO zO);rw[iH,<-hN]at HCn;have hNle:N<=65536:=by rw[hN];unfold cR;omega
 have hMk:=fun V=>wE N zO V;have HCo:=zH (fun V=>NH (sz:Int) V (by have:=hbn.z1;omega) (by have:=hbn.z2;omega));have HSz:Hid (∀V,Old w V->V.cell? ⟨bb,0,none⟩=some (vI iJ sz)):=zH fun V o=>(h.old o).size_.1;have HSm:=zH (fun(b:Nat) (g:Nat) (Lk:Nat->Fr) (V:World) (hb:CoB V b sz) (hf:FrsS (fun _=>False) V (some ⟨g,0,none⟩) N Lk) (hm:∀i,i<N->lC (Lk i).F (Lk i).n (Lk i).T)=>JP b (sz:Int) (some ⟨g,0,none⟩) N N Lk (len:Int) (fun _=>False) V hb (by have:=hbn.z1;omega) hf hm zO zO zO);have hsam:mJ N (len:Int)=len:=by unfold mJ;rw[hN];unfold cR;omega
 rw[hsam]at HSm;have HL:=zH hL;obtain⟨X,hX⟩:=zG ((D k).cells);have HX9:Hid (X.size=9):=zH (by rw[hX];exact Mt.size9 _);have HX1:Hid (X.all (·.oneCell')=true):=zH (by rw[hX];exact Mt.one _);have HXl:Hid (X[1]?=some (vI iJ len)):=zH (by rw[hX];show some (Value.int .i64 (D k).n)=_;rw[show (D k).n=(len:Int) by omega]);rw[<-hX]at HM HFo HNu;have HLen:Hid (len<=N*16):=zH (by rw[hN];unfold cR;omega);clear h pk hD hk hch hL hbn hok hfr hn1 hX hsam hlen hN hn64 hz0;obtain⟨z,hz⟩:∃z:Array Value,z=aA 9 (fun j=>(oV[j]?).getD undef):=⟨_,rfl⟩
 go_enter func10,ntmps10
 go_wp2_with fail
 refine HM.o.mono ?_;rintro e V0 ⟨rfl,o0⟩;obtain⟨W1,hW1⟩:∃V,V=V0.alloc (.cells X 90):=⟨_,rfl⟩
 obtain⟨mb,hmb⟩:∃x,x=V0.heap.size:=⟨_,rfl⟩
 have hbx:W1.heap[mb]?=some (.cells X 90 (0,0)):=by rw[hW1,hmb];exact heap_alloc_new _ _
 have HO1:=zH (show Old w W1 by rw[hW1];exact o0.alloc' _);have HW1:=zH hW1;have HMb:=zH hmb;have HBx:=zH hbx;have cl:W1.cell? ⟨mb,1,none⟩=some (vI iJ len):=(cell_of_row _ _ _ _ _ _ hbx).trans HXl.o;have HMg:Hid (w.heap.size<=mb):=zH (by rw[hmb];exact o0.size);clear o0 hW1 hmb hbx HM hz
 go_wp2_with (with_reducible refine wpList_store_row rfl 90 _ _ rfl V0.heap.size X rfl rfl 90 _ (heap_alloc_new _ _) (by rw[HX9.o];exact Hs9.o) (by rw[HX9.o];kernel_rfl) HX1.o ?_;rw[World.setRow_alloc_new,<-HW1.o,<-HMb.o])
 refine(HCn.o _).mono ?_;rintro e V1 ⟨rfl,rfl⟩;obtain⟨g,hg⟩:∃x,x=W1.heap.size:=⟨_,rfl⟩
 obtain⟨W2,hW2⟩:∃V,V=W1.alloc (.cells (aA (29*N) (tX fun _=>lJ)) 98):=⟨_,rfl⟩
 have HS0:Hid (WhS w g mb N X L 0 W2):=zH (by
  have hml:=lt_of_block HBx.o;have ho:Old W1 W2:=by rw[hW2];exact Old.alloc _ _
  refine⟨⟨fun _=>lJ,by rw[hW2,hg];exact WP _ W1 N _ (by have:=HO1.o.size;omega),fun i hi=>zO⟩,(ho.block _ hml).trans HBx.o,zO,HO1.o.trans ho⟩)
 have HW2:=zH hW2;have HG:=zH hg;clear hW2 hg cl HO1 HBx HCn
 go_wp2_with fail
 rw[<-HG.o,<-HW2.o]
 go_loopw [29] (fun iv wr=>∃j:Nat,j<=N/\iv=vI iJ j/\Hid (WhS w g mb N X L j wr)) (fun iv _=>N-(intOf iv).toNat)
 case atStart=>exact⟨0,zO,by go_num,HS0⟩
 case round=>
  obtain⟨j,hj,rfl,HS⟩:=hrel;clear HS0;by_cases hlt:j<N
  ·have j0:(0:Int)<=j:=zO;have j1:(j:Int)<N:=zO;have HNj:=zH (fun V=>HNu.o V j hlt);have HFj:=zH (fun V (o:Old wr V)=>HFo.o V j hlt (HS.o.old.trans o));have HLj:=zH (HL.o j hlt);have HD:Hid (Old wr wr.drew):=zH (Old.refl wr).drew;clear HNu HFo HL HCo HSm HSz
   go_wp2_with fail
   refine wp_region_held_drew (S:=(fun V=>V.heap[mb]?=some (.cells X 90 (0,0)))) zK ?_ (fun hHeld=>?_)
   ·(try dsimp only);exact(HS.o.keep HD.o).bx
   refine (uU 0) ((uU 1) ((uU 2) ?_));refine (uT 3 (v:=.agg X) rfl (aF zK 90 (.tmp 8) rfl mb rfl 90 X (0,0) _ (fun _ h=>h) underlying90 rfl (by rw[HX9.o];exact Hs9.o))) ?_;refine (uT 4 (v:=.agg X) rfl (aF zK 90 (.tmp 8) rfl mb rfl 90 X (0,0) _ (fun _ h=>h) underlying90 rfl (by rw[HX9.o];exact Hs9.o))) ?_;refine (uU 5) ((uU 6) ?_);refine wpR 7 rfl (fun K hK=>?_);go_simp;refine(HNj.o _).mono ?_;rintro e V1 ⟨rfl,o1⟩;have HO1:=zH (HD.o.trans o1);clear o1
   go_wp2_with fail
   refine hK.out _ _ ?_ (fun hHeld=>?_)
   ·(try dsimp only);exact(HS.o.keep HO1.o).bx
   clear hK K
   try simp only[Act.put,sA,sZ,sS]
   refine wpR 8 rfl (fun K hK=>?_);go_simp;refine(HFj.o _ HO1.o).mono ?_;rintro e V2 ⟨Xf,kf,p,cap,T,rfl,o2,g1,g2,g3,g4,g5,_,g7⟩;have HO2:=zH (HO1.o.trans o2);have H1x:Hid ((aA 29 (aN Xf (.slice p kf cap))).all (·.oneCell')=true):=zH (bV _ _ rfl);have hS2:=HS.o.keep HO2.o;obtain⟨f1,f2,f3⟩:=g5 rfl;have hgl:=HS.o.glt;have hNx:=hS2.next hlt ⟨Xf,.slice p kf cap,kf,T⟩ ⟨p,cap,rfl,g1,g2,g3,fun hn a ha e=>by have:=g7 hn a ha;have:=HO1.o.size;omega⟩ f1 (f3 _ _ _ HLj.o.1 HLj.o.2);have HTh:=zH (hS2.there hlt);have HNx:=zH hNx;clear o2 g1 g2 g3 g4 g5 g7 hS2 f1 f2 f3 hgl hNx
   go_wp2_with fail
   refine hK.out _ _ ?_ (fun hHeld=>?_)
   ·(try dsimp only);exact(HS.o.keep HO2.o).bx
   clear hK K;refine (uU 9) ((uU 10) ((uU 11) ((uU 12) ?_)));refine wpR 13 rfl (fun K hK=>?_);rw[if_pos zK]
   with_reducible refine wp_store_mid 98 _ _ rfl (g) (j*29) (aA 29 (aN Xf (.slice p kf cap))) rfl rfl (by rw[aB];exact HTh.o) (by rw[aB];exact Hs29.o) (H1x.o) ?_
   try simp only[Act.put,sA,sZ,sS]
   refine hK.out _ _ ?_ (fun hHeld=>?_)
   ·(try dsimp only);exact HNx.o.bx
   clear hK K;refine (uU 14) ?_;refine wpAnyH_done zK ?_ _;clear HS HNj HFj HLj HTh HO1 HO2 HD
   go_wp2_with fail
   go_roundw
   case rel=>exact⟨j+1,zO,by go_num,HNx⟩
   case measure=>exact zM
  ·obtain rfl:j=N:=zO;have cz:=HSz.o wr HS.o.old;have HCw:=zH (HCo.o wr);clear HNu HFo HL HCo HSz
   go_wp2_with fail
   refine HCw.o.mono ?_;rintro e V3 ⟨cb,rfl,hco,hcg,o3⟩;have hS3:=HS.o.keep o3;obtain⟨Lk,k1,k2⟩:=hS3.ex;have HSw:=zH (HSm.o cb g Lk V3 hco (k1.sl _ (fun q _ hq=>hq.elim)) (fun i hi=>(k2 i hi).1));have HSame:=zH (fun q hq=>SE (fun i hi=>(k2 i hi).2) q hq);have hbx3:=hS3.bx;have cl3:V3.cell? ⟨mb,1,none⟩=some (vI iJ len):=(cell_of_row _ _ _ _ _ _ hbx3).trans HXl.o;have HO3:=zH hS3.old;clear hco hcg o3 hS3 k1 k2 HS HCw cz hbx3 HSm
   go_wp2_with fail
   refine HSw.o.mono ?_;rintro e V4 ⟨r,rfl,hr,hrg,o4⟩;have HE:Hid (CellsAt V4 r len (fun j=>jN (dY j (iM j L) j (gU j L) j))->True):=zH fun _=>trivial;have HR:=zH (hr.ext fun q hq=>by rw[HSame.o q (by have:=HLen.o;omega)]);have HQ:Hid (w.heap.size<=r/\Old w V4):=zH ⟨Nat.le_trans HO3.o.size hrg,HO3.o.trans o4⟩;clear hr hrg o4 HE
   go_wp2_with fail
   go_ret2
   exact⟨r,rfl,HR.o,HQ.o⟩
end Go.Proofs.YticpdokbiblpoaaGreatDoor
