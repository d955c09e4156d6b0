/- Texts joined: CodeQ, CodeB, CodeC, CodeE, CodeX, WholeQ, CurP, CurC, CodeF. -/
import Derived.Deep.RegionHeld
import Derived.Test.YticpdokbiblpoaaGreatDoorPkAB
import Derived.Test.YticpdokbiblpoaaGreatDoorPkAD
import Derived.Test.YticpdokbiblpoaaGreatDoorPkAG
import Derived.Test.YticpdokbiblpoaaGreatDoorPkAH
import Derived.Test.YticpdokbiblpoaaGreatDoorPkAI
import Derived.Test.YticpdokbiblpoaaGreatDoorPkAL
import Derived.Test.YticpdokbiblpoaaGreatDoorPkAM
import Derived.Test.YticpdokbiblpoaaGreatDoorTk
set_option linter.unusedVariables false
set_option linter.unusedSimpArgs false
set_option maxHeartbeats 4000000
namespace Go.Proofs.YticpdokbiblpoaaGreatDoor
open Go.Proofs.Tryz
open Go.Proofs.Tryz renaming prog → zP
open Go.Value renaming int → vI
open Go.IntKind renaming i64 → iJ
open Go.Ending renaming returned → rJ
set_option maxRecDepth 100000
open Go.RowKit
theorem aFd(p t:Int)(h0:0<=p)(h1:p<=t):p*2 ^ (jG p t).toNat<=t:=by
 unfold jG;split
 ·rw[show (0:Int).toNat=0 from rfl,show (2:Int) ^ 0=1 from rfl];omega
 ·split
  ·rw[show (1:Int).toNat=1 from rfl,show (2:Int) ^ 1=2 from rfl];omega
  ·split
   ·rw[show (2:Int).toNat=2 from rfl,show (2:Int) ^ 2=4 from rfl];omega
   ·rw[show (3:Int).toNat=3 from rfl,show (2:Int) ^ 3=8 from rfl];omega
theorem aIM(s:Int)(h0:0<=s)(h3:s<=3):1<=(2:Int) ^ s.toNat/\(2:Int) ^ s.toNat<=8:=by
 rcases(by omega:s=0\/s=1\/s=2\/s=3) with rfl | rfl | rfl | rfl <;> decide
theorem NM(v M:Int)(h1:-M<=v)(h2:v<=M)(hM:M<=1048576):eB v<=M/\-(eB v)<=v/\v<=eB v:=by
 unfold eB;rw[if_neg zO];split <;> omega
theorem PF(f:nI)(a n k:Nat)(hk:k<n):f (a+k)∈part f a n:=lO.2 ⟨k,hk,rfl⟩
theorem aGy(f:nI)(M:Int)(h:∀k,k<16->-M<=f k/\f k<=M)(h0:0<=M)(hM:M<=1048576)(k:Nat)(hk:k<16):
  -(bF (part f (4*(k/4)) 4))<=f k/\f k<=bF (part f (4*(k/4)) 4)/\bF (part f (4*(k/4)) 4)<=bF (part f 0 16)/\bF (part f 0 16)<=M/\0<=bF (part f (4*(k/4)) 4):=by
 have a1:=(mJ (part f (4*(k/4)) 4) (bF (part f (4*(k/4)) 4))).1 (Int.le_refl _);have a2:=a1.2 (f k) (by have:=PF f (4*(k/4)) 4 (k%4) zO;rwa [show 4*(k/4)+k%4=k by omega]at this);obtain⟨b1,b2,b3⟩:=NM (f k) M (h k hk).1 (h k hk).2 hM;have a3:bF (part f 0 16)<=M:=(mJ _ _).2 ⟨h0,fun x hx=>by
  obtain⟨j,hj,rfl⟩:=lO.1 hx;rw[Nat.zero_add];exact(NM _ M (h j hj).1 (h j hj).2 hM).1⟩
 have c1:=(mJ (part f 0 16) (bF (part f 0 16))).1 (Int.le_refl _);have a4:bF (part f (4*(k/4)) 4)<=bF (part f 0 16):=(mJ _ _).2 ⟨c1.1,fun x hx=>by
  obtain⟨j,hj,rfl⟩:=lO.1 hx;exact c1.2 _ (by have:=PF f 0 16 (4*(k/4)+j) zO;rwa [Nat.zero_add]at this)⟩
 exact⟨zO,zO,a4,a3,a1.1⟩
theorem aED{g:nI}(h:bX g)(k:Nat)(hk:k<16):mG g k=g (k/4):=by
 unfold mG;rw[if_pos ⟨zO,zO,h⟩,show ((k:Int)/4).toNat=k/4 by omega]
theorem aIw(f g:nI)(M:Int)(h:∀k,k<16->-M<=f k/\f k<=M)(h0:0<=M)(hM:M<=1048576)(hg:(∀k,k<4->g k=fK f k)\/∀k,k<4->g k=0)(k:Nat)(hk:k<16):-M<=NK f g k/\NK f g k<=M:=by
 have hr:bX g:=fun k hk=>by
  rcases hg with hg | hg
  ·rw[hg k hk];exact tH _ _
  ·rw[hg k hk];omega
 unfold NK PR;rw[aED hr k hk];rcases hg with hg | hg
 ·rw[hg _ zO];obtain⟨a1,a2,a3,a4,a5⟩:=aGy f M h h0 hM k hk;have m1:=aFd _ _ a5 a3;have mb:=tH (bF (part f (4*(k/4)) 4)) (bF (part f 0 16));show -M<=wrap64 (f k*2 ^ (jG (bF (part f (4*(k/4)) 4)) (bF (part f 0 16))).toNat)/\wrap64 (f k*2 ^ (jG (bF (part f (4*(k/4)) 4)) (bF (part f 0 16))).toNat)<=M;have pb:=aIM _ mb.1 mb.2;generalize (2:Int) ^ (jG (bF (part f (4*(k/4)) 4)) (bF (part f 0 16))).toNat=c at *;generalize bF (part f (4*(k/4)) 4)=p at *;generalize bF (part f 0 16)=t at *;generalize f k=x at *;have e1:x*c<=p*c:=Int.mul_le_mul_of_nonneg_right a2 zO;have e2:-p*c<=x*c:=Int.mul_le_mul_of_nonneg_right a1 zO;rw[Int.neg_mul]at e2;rw[IntWalk.wrap64_in _ zO];omega
 ·rw[hg _ zO,show (0:Int).toNat=0 from rfl,show (2:Int) ^ 0=1 from rfl,Int.mul_one,IntWalk.wrap64_in _ (by have:=h k hk;omega)];exact h k hk
def DW(ex:Bool)(F:nI):nI:=fun q=>if ex then 0 else fK (aN F (q/4)) (q%4)
theorem QX(ex:Bool)(F:nI)(b k:Nat)(hk:k<4):DW ex F (b*4+k)=if ex then 0 else fK (aN F b) k:=by
 unfold DW;rw[show (b*4+k)/4=b by omega,show (b*4+k)%4=k by omega]
def PW(ex:Bool)(F:nI)(b:Nat):nI:=fun k=>DW ex F (b*4+k)
theorem rG(ex:Bool)(F:nI)(b:Nat):bX (PW ex F b):=fun k hk=>by
 show 0<=DW ex F (b*4+k)/\DW ex F (b*4+k)<=3;rw[QX ex F b k hk];split
 ·omega
 ·exact tH _ _
def JT(ex:Bool)(N:Nat)(F:nI):nI:=fN N (DW ex F) N F
theorem aEX{F:nI}{M:Int}(h:∀q,-M<=F q/\F q<=M)(h0:0<=M)(hM:M<=1048576)(ex:Bool)(N q:Nat):-M<=dL N (iY (DW ex F) N) F q/\dL N (iY (DW ex F) N) F q<=M:=by
 unfold dL;split
 ·obtain⟨b,r,rfl,hr,_,_⟩:=gY q;rw[gZ _ _ _ _ hr];refine aIw _ _ M (fun k _=>h _) h0 hM ?_ r hr;have hb:b<N:=zO;unfold dJ;rw[if_pos hb];cases ex with
  | false=>exact .inl fun k hk=>by rw[QX _ _ _ _ hk];rfl
  | true=>exact .inr fun k hk=>by rw[QX _ _ _ _ hk];rfl
 ·exact h q
theorem aHC{A:nI}{M:Int}(h:∀q,-M<=A q/\A q<=M)(h0:0<=M)(hM:M<=1048576)(N q:Nat):-(3*M+4)<=bR bB bA N A q/\bR bB bA N A q<=3*M+4:=by
 have key:∀(i j k:Nat),k<8->(-(3*M+4)<=bB (A i) (A j) (aS k) (aT k)/\bB (A i) (A j) (aS k) (aT k)<=3*M+4)/\-(3*M+4)<=bA (A i) (A j) (aS k) (aT k)/\bA (A i) (A j) (aS k) (aT k)<=3*M+4:=by
  intro i j k hk;obtain⟨p0,p1,u0,u1⟩:=LB k hk;have e:=OG (A i) (A j) (aS k) (aT k) M (h i).1 (h i).2 (h j).1 (h j).2 p0 zO u0 u1 zO;have n:=FW (A i) (A j) (aS k) (aT k) M (h i).1 (h i).2 (h j).1 (h j).2 p0 p1 u0 u1;rw[e.1,e.2];exact⟨⟨zO,zO⟩,zO,zO⟩
 unfold bR;have:=h q;split
 ·split
  ·exact(key _ _ _ zO).1
  ·omega
 ·split
  ·exact(key _ _ _ zO).2
  ·omega
theorem jQ{F:nI}(h:∀q,-32768<=F q/\F q<=32768)(ex:Bool)(N b:Nat)(hb:b<N):dD (aN (JT ex N F) b):=fun k hk=>by
 have e:aN (JT ex N F) b k=mF 4 (aN (UN N (DW ex F) N F) b) k:=by
  show dL N mR (UN N (DW ex F) N F) (b*16+k)=_;rw[fE _ _ _ _ zO,gZ _ _ _ _ hk];rfl
 rw[e];have hA:=aEX (M:=32768) (fun q=>h q) zO zO ex N;have hB:=aHC hA zO zO N;have:=aDU (M:=3*32768+4) zO zO (f:=aN (UN N (DW ex F) N F) b) (fun k=>hB _) k;omega
def oV(f g:nI)(size:Int)(x:Fr):Prop:=
 (55<=size/\x.F=fF bG bG f/\x.n=0/\x.T=fun _=>0) \/
 (size<55/\∃m,nF (fU f true) (DL f true) (8*size) m/\x.F=fF g (cS (fU f true) m) (fU f true)/\x.n=DL f true/\x.T=dY f)
theorem IC{f g:nI}{size:Int}{x y:Fr}(h:oV f g size x)(k:oV f g size y):mO x.F x.n x.T y.F y.n y.T:=by
 rcases h with ⟨h1,h2,h3,h4⟩ | ⟨h1,m,h2,h3,h4,h5⟩
 ·rcases k with ⟨k1,k2,k3,k4⟩ | ⟨k1,_⟩
  ·rw[h2,h3,h4,k2,k3,k4];exact⟨rfl,fun _ _=>rfl,fun _ _ _=>rfl⟩
  ·omega
 ·rcases k with ⟨k1,_⟩ | ⟨k1,m',k2,k3,k4,k5⟩
  ·omega
  ·rw[h3,h4,h5,k3,k4,k5,h2.one k2];exact⟨rfl,fun _ _=>rfl,fun _ _ _=>rfl⟩
theorem aEI(f:nI):DL f true<=(bL f).length:=Nat.le_refl _
theorem MC{f g:nI}{size:Int}{x:Fr}(h:oV f g size x)(hf:dD f)(hg:bX g)(hn:x.n<=2):mC x.F x.n x.T:=by
 rcases h with ⟨h1,h2,h3,h4⟩ | ⟨h1,m,h2,h3,h4,h5⟩
 ·rw[h2,h3];exact aAF YN hf _
 ·rw[h4]at hn;rw[h3,h4,h5];exact XF hg (xO _ _ _ _ h2.no).1 (DJ hf true) hn (XP hf _ (aEI f))
theorem FZ{f g:nI}{size:Int}{x:Fr}(h:oV f g size x)(hf:aD f):aD x.T:=by
 rcases h with ⟨_,_,_,h4⟩ | ⟨_,_,_,_,_,h5⟩
 ·rw[h4];exact fun _=>by dsimp only;omega
 ·rw[h5];exact aBd hf
theorem LC(g s X:nI)(t:Nat):pF (fF g s X) t=52+28*t+4*dM (fR (bE bK X s)) 4:=by
 have e:∀k,k<4->fF g s X (9+k)=fR (bE bK X s) k:=fun k hk=>FA _ _ _ _ k hk;have e2:dM (fun k=>fF g s X (9+k)) 4=dM (fR (bE bK X s)) 4:=by
  unfold dM dM dM dM dM;rw[e 0 zO,e 1 zO,e 2 zO,e 3 zO]
 unfold pF;rw[e2]
theorem GP{f g:nI}{size:Int}{x:Fr}(h:oV f g size x)(hf:dD f)(hn:x.n<=2)(h24:24<=size):pF x.F x.n<=8*size:=by
 rcases h with ⟨h1,h2,h3,h4⟩ | ⟨h1,m,h2,h3,h4,h5⟩
 ·rw[h2,h3,LC];have w:=fun k=>(sH (s:=bG) hf k).2;have w0:=w 0;have w1:=w 1;have w2:=w 2;have w3:=w 3;unfold dM dM dM dM dM;omega
 ·rw[h3,h4,LC];rw[h4]at hn;have:=XO h2 (DJ hf true) hn zO;unfold tX at this;exact this
theorem UR{f g:nI}{size:Int}{x:Fr}(h:oV f g size x)(h55:55<=size)(hf:dD f)(k:Nat)(hk:k<16):dX x.F x.n x.T k=f k:=by
 rcases h with ⟨h1,h2,h3,h4⟩ | ⟨h1,_⟩
 ·rw[h2,h3];exact TS hf _ k hk
 ·omega
open Go.ChangeShapes Go.WideShapes
theorem Tryz.cinfo_int:(zP.info? 3).map (fun i=>(i.zero,i.size,i.bytes))=some (some (vI iJ 0),1,8):=zK
theorem SW(n:Nat)(hn:n<=1099511627776)(w:World):(Instr.makeSlice 23 (vI iJ n) (vI iJ n)).run zP w=.ok (.slice (some ⟨w.heap.size,0,none⟩) n n) (w.alloc (.cells (aA n (blk fun _=>0)) 3)):=by
 obtain⟨i,hi,hz0,hz1,hz2⟩:=info_parts Tryz.cinfo_int;rw[run_make w _ _ i _ underlying23 hi hz0 .i64 .i64 n n zO zO (by rw[hz2];omega) zO,hz1,Int.toNat_natCast,Nat.mul_one,aGH n]
theorem Tryz.info_gains:(zP.info? 44).map (fun i=>(i.zero,i.size,i.bytes))=some (some (.agg #[vI iJ 0,vI iJ 0,vI iJ 0,vI iJ 0]),4,32):=zK
theorem aIq(n:Nat):madeCells (Value.agg #[vI iJ 0,vI iJ 0,vI iJ 0,vI iJ 0]:Value).cells n=aA n (blk fun _=>0):=
 qX n _ zD (by
  intro j hj;have:j<4:=hj;rcases(by omega:j=0\/j=1\/j=2\/j=3) with rfl | rfl | rfl | rfl <;> rfl)
theorem SJ(n:Nat)(hn:n<=1099511627776)(w:World):(Instr.makeSlice 167 (vI iJ n) (vI iJ n)).run zP w=.ok (.slice (some ⟨w.heap.size,0,none⟩) n n) (w.alloc (.cells (aA (n*4) (blk fun _=>0)) 44)):=by
 obtain⟨i,hi,hz0,hz1,hz2⟩:=info_parts Tryz.info_gains;rw[run_make w _ _ i _ underlying167 hi hz0 .i64 .i64 n n zO zO (by rw[hz2];omega) zO,hz1,Int.toNat_natCast,aIq (n*4)]
theorem aAe{w:World}{g n cap:Nat}{F:nI}{xs:List Int}(h:CellsAt w g n F)(hl:xs.length=n)(hx:∀j,j<n->F j=xs.getD j 0)(hc:n<=cap)(hm:cap<=maxLen):kK w .i64 (.slice (some ⟨g,0,none⟩) n cap) xs:=by
 subst hl;refine⟨_,cap,rfl,fun _=>⟨g,0,rfl,h.lt,hc,hm,fun i hi=>?_⟩⟩;rw[Nat.zero_add,h.cell i hi,hx i hi]
def pG(k:Nat)(F:nI):nI:=fun j=>if j<k then F j else 0
theorem LU(k:Nat)(F:nI):(fun j=>if j=k then F k else pG k F j)=pG (k+1) F:=by
 funext j;unfold pG;by_cases h:j=k
 ·subst h;rw[if_pos rfl,if_pos zO]
 ·rw[if_neg h];by_cases h2:j<k
  ·rw[if_pos h2,if_pos zO]
  ·rw[if_neg h2,if_neg zO]
structure WdR(w:World)(n:Nat)(F:nI)(wr:World):Prop where
 at_:CellsAt wr w.heap.size n F
 old:Old w wr
theorem aAU(p:Option Addr)(n cap:Nat)(xs:List Int)(w:World)(hs:kK w .i64 (.slice p n cap) xs)(hn:n<=1048576):
  Calls zP 137 #[.slice p n cap] w fun e w'=>e=rJ (.slice (some ⟨w.heap.size,0,none⟩) n n)/\kK w' .i64 (.slice (some ⟨w.heap.size,0,none⟩) n n) xs/\Old w w':=by
 have hl:xs.length=n:=by obtain⟨_,_,h,_⟩:=hs;simp only[Value.slice.injEq]at h;exact h.2.1.symm
 have HS:=zH hs.slF;have HL:=zH hl;have hM:=SW n zO w;have hM:=aAs n zO w;have H0:Hid (WdR w n (pG 0 fun j=>xs.getD j 0) (w.alloc (.cells (aA n (blk fun _=>0)) 2))):=⟨(fG w _ _ _).ext fun j _=>by unfold pG;rw[if_neg zO],Old.alloc _ _⟩
 have n1:(n:Int)<=1048576:=zO;clear hs hl;go_enter func137,ntmps137;go_wp2
 go_loopw [11] (fun i wr=>∃k:Nat,k<=n/\i=vI iJ k/\Hid (WdR w n (pG k fun j=>xs.getD j 0) wr)) (fun i _=>n-(intOf i).toNat)
 case atStart=>exact⟨0,zO,rfl,H0⟩
 case round=>
  obtain⟨k,hk,rfl,HR⟩:=hrel;clear H0 hM;by_cases hlt:k<n
  ·obtain⟨b,off,rfl,hb,hc⟩:=HS.o zO;have hcell:=(HR.o.old.cell (a:=⟨b,off+k,none⟩) hb).trans (hc k zO);dsimp only at hcell;have i1:(0:Int)<=k:=zO;have i2:(k:Int)<n:=zO;have hold:=HR.o.at_.cell k hlt;have hfr:=HR.o.at_.frz k hlt;obtain⟨x,hx⟩:=zF (xs.getD k 0);have NX:Hid (WdR w n (pG (k+1) fun j=>xs.getD j 0) (wr.setCell ⟨w.heap.size,k,none⟩ (vI iJ x))):=by
    refine⟨(HR.o.at_.set k hlt x).ext fun j _=>?_,HR.o.old.after (Kept.setCell (X:=fun q=>q<w.heap.size) _ (a:=⟨w.heap.size,k,none⟩) (by show ¬w.heap.size<w.heap.size;omega) _) fun _ h=>h⟩;rw[<-hx];exact congrFun (LU k fun j=>xs.getD j 0) j
   rw[hx]at hcell;clear hx hc HS HR;go_wp2;go_roundw
   case rel=>exact⟨k+1,zO,by go_num,NX⟩
   case measure=>exact zM
  ·obtain rfl:k=n:=zO;have HE:Hid (kK wr .i64 (.slice (some ⟨w.heap.size,0,none⟩) k k) xs/\Old w wr):=⟨aAe HR.o.at_ HL.o (fun j hj=>by unfold pG;rw[if_pos hj]) (Nat.le_refl _) (by unfold maxLen;omega),HR.o.old⟩
   clear HR HS HL;go_wp2;go_ret;exact⟨rfl,HE.o.1,HE.o.2⟩
def MV(k:Nat)(F:nI):nI:=fun q=>if q/4<k then fK (aN F (q/4)) (q%4) else 0
theorem aAS(k:Nat)(F:nI):aV (MV k F) (k*4) 4 (fK (aN F k))=MV (k+1) F:=by
 funext q;unfold aV MV;by_cases h:k*4<=q/\q<k*4+4
 ·rw[if_pos h,if_pos zO,show q/4=k by omega,show q-k*4=q%4 by omega]
 ·rw[if_neg h];by_cases h2:q/4<k
  ·rw[if_pos h2,if_pos zO]
  ·rw[if_neg h2,if_neg zO]
structure GnR(w:World)(gb bb N:Nat)(F G:nI)(wr:World):Prop where
 g:CellsAt wr gb (N*4) G
 b:CellsAt wr bb (N*16) F
 ne:bb≠gb
 ng:w.heap.size<=gb
 old:Old w wr
namespace GnR
variable {w wr w':World} {gb bb N:Nat} {F G:nI}
theorem keep(h:GnR w gb bb N F G wr)(k:Old wr w'):GnR w gb bb N F G w':=⟨h.g.old k,h.b.old k,h.ne,h.ng,h.old.trans k⟩
theorem store(h:GnR w gb bb N F G wr)(k:Nat)(hk:k<N)(f:nI):GnR w gb bb N F (aV G (k*4) 4 f) (wr.setCells gb (k*4) (eH 4 f)):=
 ⟨h.g.setCells (k*4) 4 zO f,h.b.setCellsOther h.ne.symm _ _,h.ne,h.ng,h.old.after (Kept.setCells (X:=fun q=>q<w.heap.size) _ (fun e=>by have:=h.ng;omega) _ _) fun _ h=>h⟩
end GnR
theorem QR(b:Nat)(size:Int)(p:Option Addr)(n cap:Nat)(xs:List Int)(w:World)(hb:CoB w b size)(h1:24<=size)(hs:kK w .i64 (.slice p n cap) xs)(hx:∀x∈xs,jF x)(hn:n<=17179869184):
  Calls zP 138 #[.pointer (some ⟨b,0,none⟩),.slice p n cap] w fun e w'=>∃g,e=rJ (.slice (some ⟨g,0,none⟩) (cW n) (cW n))/\CellsAt w' g (cW n*4) (DW (decide (55<=size)) (fun j=>xs.getD j 0))/\w.heap.size<=g/\Old w w':=by
 have Hs16:=zH Tryz.block_size;have Hs4:Hid ((zP.info? 44).map (·.size)=some 4):=zH zK;have HMd:=zH (sF b size w hb h1);have hcount:=iO n w zO zO;rw[lN]at hcount;have hN2:cW n<=17179869184:=by unfold cW;omega
 have hM:=SJ (cW n) zO w;obtain⟨W1,hW1⟩:=zG (w.alloc (.cells (aA (cW n*4) (blk fun _=>0)) 44));have hO1:Old w W1:=by rw[hW1];exact Old.alloc _ _
 have hG1:CellsAt W1 w.heap.size (cW n*4) (fun _=>0):=by rw[hW1];exact fG w _ _ _
 have hE:=UT b size W1 (hb.old hO1);have hB:=DM p n cap xs W1 (hs.old hO1) zO;obtain⟨F,hF⟩:∃F:nI,F=fun j=>xs.getD j 0:=⟨_,rfl⟩
 have hF64:aD F:=fun j=>by rw[hF];exact KU hx j
 rw[<-hF]at hB |-;obtain⟨N,hN⟩:=zG (cW n);rw[<-hN]at hB hM hcount hG1 hN2 hW1 |-;have HC:=zH hcount;have HB:=zH hB;have HE:=zH hE;have HO1:=zH hO1;have HG1:=zH hG1;have HOf:=zH (fun(k:Nat) (V:World)=>aHN (aN F k) (fun j=>hF64 _) V);have HW1:=zH hW1;clear hb hs hx hcount hB hE hO1 hG1 hF hF64 hN hW1;rw[<-HW1.o]at hM;by_cases h55:55<=size
 ·rw[decide_eq_true h55]at HE |-;have HR:Hid (CellsAt W1 w.heap.size (N*4) (DW true F)):=HG1.o.ext fun j _=>rfl;clear HG1 HB HOf;go_enter func138,ntmps138
  go_wp2_with fail
  refine HMd.o.mono ?_;rintro e w1 ⟨rfl,rfl⟩
  go_wp2_with fail
  refine HC.o.mono ?_;rintro e w1 ⟨rfl,rfl⟩
  go_wp2_with fail
  refine HE.o.mono ?_;rintro e w1 ⟨rfl,rfl⟩
  go_wp2_with fail
  go_ret;exact⟨_,rfl,HR.o,Nat.le_refl _,HO1.o⟩
 ·rw[decide_eq_false h55]at HE |-;go_enter func138,ntmps138
  go_wp2_with fail
  refine HMd.o.mono ?_;rintro e w1 ⟨rfl,rfl⟩
  go_wp2_with fail
  refine HC.o.mono ?_;rintro e w1 ⟨rfl,rfl⟩
  go_wp2_with fail
  refine HE.o.mono ?_;rintro e w1 ⟨rfl,rfl⟩
  go_wp2_with fail
  refine HB.o.mono ?_;rintro e w2 ⟨rfl,hc2,ho2⟩;obtain⟨bb,hbb⟩:∃q,q=W1.heap.size:=⟨_,rfl⟩
  rw[<-hbb]at hc2 |-;have H2:Hid (GnR w w.heap.size bb N F (MV 0 F) w2):=by
   have h:=HG1.o.old ho2;refine⟨h.ext fun j _=>by unfold MV;rw[if_neg zO],hc2,?_,zO,HO1.o.trans ho2⟩;have:=HG1.o.lt;omega
  clear hc2 ho2 hbb HG1 HB HE HC HMd HO1 HW1 hM
  go_wp2_with fail
  go_loopw [21] (fun i wr=>∃k:Nat,k<=N/\i=vI iJ k/\Hid (GnR w w.heap.size bb N F (MV k F) wr)) (fun i _=>N-(intOf i).toNat)
  case atStart=>exact⟨0,zO,rfl,H2⟩
  case round=>
   obtain⟨k,hk,rfl,HR⟩:=hrel;clear H2;by_cases hlt:k<N
   ·have i1:(0:Int)<=k:=zO;have i2:(k:Int)<N:=zO;have HLd:Hid (∀j,j<16->wr.cell? ⟨bb,k*16+j,none⟩=some (vI iJ (aN F k j))):=fun j hj=>HR.o.b.cell (k*16+j) zO;have H1:Hid ((aA 16 (blk (aN F k))).all (·.oneCell')=true):=zH (bN _ _);have HK:=zH (HR.o.keep (Old.alloc wr (.cells (aA 16 (blk (aN F k))) 43)));have HO:=zH (HOf.o k);clear HR HOf
    go_wp2_with (first
     | (with_reducible refine bC rfl 16 (aN F k) 43 _ rfl bb (k*16) rfl _ HLd.o underlying43 rfl Hs16.o ?_)
     | (with_reducible refine wpList_store_row rfl 43 _ _ rfl wr.heap.size (aA 16 (blk (aN F k))) rfl rfl 43 _ (heap_alloc_new _ _) (by rw[aB];exact Hs16.o) (by rw[aB];kernel_rfl) H1.o ?_;rw[World.setRow_alloc_new])
     | (with_reducible refine wpList_load_row rfl 43 _ rfl wr.heap.size rfl 43 (aA 16 (blk (aN F k))) (0,0) _ (heap_alloc_new _ _) underlying43 rfl (by rw[aB];exact Hs16.o) ?_))
    refine(HO.o _).mono ?_;rintro e w3 ⟨rfl,o3⟩;have hk3:=HK.o.keep o3;have HT:=zH (hk3.g.there (k*4) 4 zO);have NX:Hid (GnR w w.heap.size bb N F (MV (k+1) F) (w3.setCells w.heap.size (k*4) (eH 4 (fK (aN F k))))):=by
     have h:=hk3.store k hlt (fK (aN F k))
     rwa [aAS]at h
    clear HK HO HLd H1 o3 hk3
    go_wp2_with (with_reducible refine mI rfl 4 (fK (aN F k)) 44 _ _ rfl w.heap.size (k*4) rfl rfl HT.o Hs4.o ?_)
    go_roundw
    case rel=>exact⟨k+1,zO,by go_num,NX⟩
    case measure=>(simp[intOf];try omega)
   ·obtain rfl:k=N:=zO;have HE:Hid (CellsAt wr w.heap.size (k*4) (DW false F)/\w.heap.size<=w.heap.size/\Old w wr):=⟨HR.o.g.ext fun j hj=>by unfold MV DW;rw[if_pos zO];rfl,HR.o.ng,HR.o.old⟩
    clear HR HOf
    go_wp2_with fail
    go_ret;exact⟨_,rfl,HE.o.1,HE.o.2.1,HE.o.2.2⟩
theorem aEB(f g:nI)(size:Int)(w:World)(hf:aD f)(h1:24<=size)(h2:size<=96)(hs:dD f)(hg:bX g):
  Calls zP 140 #[.agg (aA 16 (blk f)),.agg (aA 4 (blk g)),vI iJ size] w fun e w'=>∃x:Fr,e=rJ (.tuple #[.agg (aA 29 (aR x.F x.s)),vI iJ 0])/\oV f g size x/\x.n<=2/\ToV (fun k=>k<w.heap.size) w' x/\Old w w':=by
 by_cases h:55<=size
 ·refine(OE f g size w hf ⟨h,h2⟩ ⟨hs,hg⟩).mono ?_;rintro e w' ⟨rfl,ho⟩;exact⟨⟨fF bG bG f,.slice none 0 0,0,fun _=>0⟩,rfl,.inl ⟨h,rfl,rfl,rfl⟩,Nat.zero_le _,ToV.none _ _ _ _,ho⟩
 ·refine(rT f g size w hf ⟨h1,zO⟩ ⟨hs,hg⟩).mono ?_;rintro e w' ⟨n,p,cap,rfl,hst,t2,tc,cm,hsl,hfr,ho⟩;exact⟨⟨fF g (cS (fU f true) n) (fU f true),.slice p (DL f true) cap,DL f true,dY f⟩,rfl,.inr ⟨zO,n,hst,rfl,rfl,rfl⟩,t2,⟨p,cap,rfl,tc,cm,hsl,fun hn a ha hlt=>by have:=hfr hn a ha;omega⟩,ho⟩
theorem Tryz.info_frame:(zP.info? 98).map (fun i=>(i.zero,i.size,i.bytes))=some (some (.agg #[vI iJ 0,vI iJ 0,vI iJ 0,vI iJ 0,.slice none 0 0,vI iJ 0,vI iJ 0,vI iJ 0,vI iJ 0,vI iJ 0,vI iJ 0,vI iJ 0,vI iJ 0,vI iJ 0,vI iJ 0,vI iJ 0,vI iJ 0,vI iJ 0,vI iJ 0,vI iJ 0,vI iJ 0,vI iJ 0,vI iJ 0,vI iJ 0,vI iJ 0,vI iJ 0,vI iJ 0,vI iJ 0,vI iJ 0]),29,248):=zK
theorem KZ(n:Nat)(hn:n<=17179869184)(w:World):(Instr.makeSlice 95 (vI iJ n) (vI iJ n)).run zP w=.ok (.slice (some ⟨w.heap.size,0,none⟩) n n) (w.alloc (.cells (aA (29*n) (vO fun _=>nJ)) 98)):=by
 obtain⟨i,hi,hz0,hz1,hz2⟩:=info_parts Tryz.info_frame;rw[run_make w _ _ i _ underlying95 hi hz0 .i64 .i64 n n zO zO (by rw[hz2];omega) zO,hz1,Int.toNat_natCast,Nat.mul_comm n 29,<-aDL,eZ];rfl
theorem ToV.put{w w':World}{g:Nat}{X:Nat->Prop}{x:Fr}(h:ToV X w x)(k:ToV (fun k=>k=g) w x)(o:Kept (fun q=>q≠g) w w'):ToV X w' x:=by
 obtain⟨p,cap,h1,h2,h3,h4,h5⟩:=k.kept o (fun q _ hq=>hq);obtain⟨p',cap',e1,_,_,_,e5⟩:=h;rw[h1]at e1;simp only[Value.slice.injEq]at e1;obtain⟨rfl,_,_⟩:=e1;exact⟨p,cap,h1,h2,h3,h4,e5⟩
structure FmR(w:World)(b:Nat)(size:Int)(gg:Nat)(pt:Option Addr)(fb N:Nat)(G S:nI)(L:Nat->Fr)(wr:World):Prop where
 co:CoB wr b size
 gn:CellsAt wr gg (N*4) G
 sp:OwnR 16 (fun q=>q=fb) wr pt N S
 fr:FrsO (fun q=>q<w.heap.size) wr fb N L
 neb:b≠fb
 neg:gg≠fb
 old:Old w wr
 tw:∀i,i<N->ToV (fun q=>q<w.heap.size) wr (L i)
namespace FmR
variable {w wr w':World} {b:Nat} {size:Int} {gg:Nat} {pt:Option Addr} {fb N:Nat} {G S:nI} {L:Nat->Fr}
theorem keep(h:FmR w b size gg pt fb N G S L wr)(k:Old wr w'):FmR w b size gg pt fb N G S L w':=
 ⟨h.co.old k,h.gn.old k,h.sp.old k,h.fr.old k,h.neb,h.neg,h.old.trans k,fun i hi=>(h.tw i hi).old k⟩
theorem store(h:FmR w b size gg pt fb N G S L wr)(k:Nat)(hk:k<N)(x:Fr)(hx:ToV (fun k=>k=fb) wr x)(hw:ToV (fun q=>q<w.heap.size) wr x):FmR w b size gg pt fb N G S (aCI L k x) (wr.setCells fb (k*29) (aA 29 (aR x.F x.s)).toList):=by
 refine⟨(cI _ _ _ _ _ h.neb).trans h.co,h.gn.setCellsOther h.neg.symm _ _,fun hn=>?_,h.fr.store k hk x hx,h.neb,h.neg,h.old.after (Kept.setCells (X:=fun q=>q<w.heap.size) _ h.fr.o _ _) fun _ h=>h,fun i hi=>?_⟩
 ·obtain⟨g,e1,e2,e3⟩:=h.sp hn;exact⟨g,e1,e2,e3.setCellsOther (fun e=>e2 e.symm) _ _⟩
 ·have hK:=Kept.setCells (X:=fun q=>q≠fb) wr (b:=fb) (fun e=>e rfl) (k*29) (aA 29 (aR x.F x.s)).toList;by_cases e:i=k
  ·subst e;rw[rB];exact hw.put hx hK
  ·rw[nO _ _ _ e];exact(h.tw i hi).put (h.fr.tn i hi) hK
end FmR
def FmG(size:Int)(ex:Bool)(F S:nI)(k:Nat)(L:Nat->Fr):Prop:=∀i,i<k->oV (aN S i) (PW ex F i) size (L i)/\(L i).n<=2
def FmN(w:World)(b:Nat)(size:Int)(gg:Nat)(pt:Option Addr)(fb N:Nat)(ex:Bool)(F S:nI)(k:Nat)(wr:World):Prop:=∃L,FmR w b size gg pt fb N (DW ex F) S L wr/\FmG size ex F S k L
theorem FmN.step{w:World}{b:Nat}{size:Int}{gg:Nat}{pt:Option Addr}{fb N:Nat}{ex:Bool}{F S:nI}{k:Nat}{L:Nat->Fr}{U V:World}{nb:Nat}{x:Fr}
  (h:FmR w b size gg pt fb N (DW ex F) S L V) (hg:FmG size ex F S k L) (hk:k<N) (hx:aDF U nb x V) (hf:oV (aN S k) (PW ex F k) size x/\x.n<=2) (hu:fb<U.heap.size):
  FmN w b size gg pt fb N ex F S (k+1) (V.setCells fb (k*29) (aA 29 (aR x.F x.s)).toList):=by
 refine⟨_,h.store k hk x (hx.tn.mono fun q _ e=>by rw[e];exact hu) (hx.tn.mono fun q _ e=>by have:=h.fr.o;show q<U.heap.size;have e':q<w.heap.size:=e;have h3:¬fb<w.heap.size:=h.fr.o;omega),fun i hi=>?_⟩;by_cases e:i=k
 ·subst e;rw[rB];exact hf
 ·rw[nO _ _ _ e];exact hg i zO
theorem IQ(b:Nat)(size:Int)(p:Option Addr)(n cap:Nat)(xs:List Int)(w:World)(hb:CoB w b size)(h1:24<=size)(h2:size<=96)(hs:kK w .i64 (.slice p n cap) xs)(hx:qE xs)(hn:n<=1048576):
  Calls zP 99 #[.pointer (some ⟨b,0,none⟩),.slice p n cap] w fun e w'=>∃fb L,e=rJ (.tuple #[.slice (some ⟨fb,0,none⟩) (cW n) (cW n),vI iJ 0])/\w.heap.size<=fb/\FrsS (fun q=>q<w.heap.size) w' (some ⟨fb,0,none⟩) (cW n) L/\FmG size (decide (55<=size)) (fun j=>xs.getD j 0) (JT (decide (55<=size)) (cW n) fun j=>xs.getD j 0) (cW n) L/\Old w w':=by
 have Hs16:=zH Tryz.block_size;have HsL:Hid ((zP.info? 57).map (·.size)=some 16):=zH zK;have Hs4:Hid ((zP.info? 44).map (·.size)=some 4):=zH zK;have Hs29:Hid ((zP.info? 98).map (·.size)=some 29):=zH zK;obtain⟨z,hz⟩:∃z:Array Value,z=aA 29 (aR (fun _=>0) (.slice none 0 0)):=⟨_,rfl⟩
 have Hzr:=zH hz;rw[eZ]at hz;have Hz:=zH hz;have HMd:=zH (sF b size w hb h1);have hWr:=SP p n cap xs w hs hn;rw[if_pos hx]at hWr;have HWr:=zH hWr;have HWd:=zH (aAU p n cap xs w hs hn);have HB:=zH hb;have hx64:∀x∈xs,jF x:=fun x h=>by have:=hx x h;unfold jF;omega
 obtain⟨ex,hex⟩:=zF (decide (55<=size));obtain⟨F,hF⟩:∃F:nI,F=fun j=>xs.getD j 0:=⟨_,rfl⟩
 obtain⟨N,hN⟩:=zG (cW n);have hN2:N<=17179869184:=by rw[hN];unfold cW;omega
 obtain⟨S,hS⟩:=zF (JT ex N F);have hFb:∀q,-32768<=F q/\F q<=32768:=fun q=>by rw[hF];have:=rI hx q;dsimp only;omega
 have hF64:aD F:=fun q=>by have:=hFb q;omega
 have hFit:∀k,k<N->∀V,Calls zP 140 #[.agg (aA 16 (blk (aN S k))),.agg (aA 4 (blk (PW ex F k))),vI iJ size] V fun e w'=>∃x:Fr,e=rJ (.tuple #[.agg (aA 29 (aR x.F x.s)),vI iJ 0])/\oV (aN S k) (PW ex F k) size x/\x.n<=2/\ToV (fun k=>k<V.heap.size) w' x/\Old V w':=fun k hk V=>
  aEB _ _ size V (fun j=>by rw[<-hS];exact oX N _ N hF64 _) h1 h2 (by rw[<-hS];exact jQ hFb ex N k hk) (rG ex F k)
 have HFit:=zH hFit;have HGn:=zH (fun(V:World) (q:Nat) (hV:Old w V) (hs:kK V .i64 (.slice (some ⟨q,0,none⟩) n n) xs)=>QR b size (some ⟨q,0,none⟩) n n xs V (HB.o.old hV) h1 hs hx64 zO);have HSp:=zH (fun(V:World) (q g:Nat) (hs:kK V .i64 (.slice (some ⟨q,0,none⟩) n n) xs) (hg:CellsAt V g (N*4) (DW ex F))=>OB (some ⟨q,0,none⟩) n n xs (some ⟨g,0,none⟩) N N (DW ex F) V hs zO (fun _=>⟨g,0,rfl,hg.lt,fun j hj=>by rw[Nat.zero_add];exact hg.cell j zO⟩));rw[hex,<-hF,<-hN]at HGn;rw[<-hF,<-hN,AE]at HSp;rw[hex,<-hF,<-hN,hS];have HS:Hid (fN N (DW ex F) N F=S):=zH hS;rw[HS.o]at HSp;clear hz hb hs hx hWr hx64 hFit hF hS hN hex hFb hF64;go_enter func99,ntmps99
 go_wp2_with fail
 refine HMd.o.mono ?_;rintro e w1 ⟨rfl,rfl⟩
 go_wp2_with fail
 refine HWr.o.mono ?_;rintro e w1 ⟨rfl,rfl⟩
 go_wp2_with fail
 refine HWd.o.mono ?_;rintro e w2 ⟨rfl,hs2,o2⟩;obtain⟨wd,hwd⟩:∃q,q=w.heap.size:=⟨_,rfl⟩
 rw[<-hwd]at hs2;have HS2:=zH hs2;have HO2:=zH o2;have hGn2:=HGn.o w2 wd o2 hs2;rw[hwd]at hGn2;have HGn2:=zH hGn2;clear hs2 o2 hGn2 HMd HWr HWd HGn
 go_wp2_with fail
 refine HGn2.o.mono ?_;rintro e w3 ⟨gg,rfl,hg3,hg30,o3⟩;have hM:=KZ N hN2 w3;obtain⟨W4,hW4⟩:∃W,W=w3.alloc (.cells (aA (29*N) (vO fun _=>nJ)) 98):=⟨_,rfl⟩
 obtain⟨fb,hfb⟩:∃q,q=w3.heap.size:=⟨_,rfl⟩
 have o34:Old w3 W4:=by rw[hW4];exact Old.alloc _ _
 have hF4:FrsO (fun q=>q<w.heap.size) W4 fb N (fun _=>nJ):=by rw[hW4,hfb];exact aFy _ _ _ _ (by have:=HO2.o.size;have:=o3.size;omega)
 have hf4:fb<W4.heap.size:=hF4.at_.lt;have Ho4:Hid (Old w W4):=zH ((HO2.o.trans o3).trans o34);have HSl4:=zH (HS2.o.old (o3.trans o34));have Hg4:=zH (hg3.old o34);have hgf:gg≠fb:=by have:=hg3.lt;omega
 have HB4:=zH (HB.o.old Ho4.o);have hbf:b≠fb:=by have:=HB.o.lt;have:=HO2.o.size;have:=o3.size;omega
 have HF4:=zH hF4;have hSp4:=HSp.o W4 wd gg HSl4.o Hg4.o;rw[hwd]at hSp4;have HSp4:=zH hSp4;have HLap:=zH HB4.o.lap_cell;rw[<-hW4,<-hfb]at hM;clear hg3 hg30 o3 hW4 o34 hF4 hSp4 HSp HSl4 HGn2 HS2 HO2 hfb
 go_wp2_with (with_reducible refine bC rfl 16 tI 57 _ rfl b 0 rfl _ HLap.o underlying57 rfl HsL.o ?_)
 refine HSp4.o.mono ?_;rintro e w5 ⟨pt,c5,rfl,hp5,o5,_⟩;have H5:Hid (FmN w b size gg pt fb N ex F S 0 w5):=zH ⟨fun _=>nJ,⟨HB4.o.old o5,Hg4.o.old o5,hp5.mono (fun q hq=>by rw[hq];exact hf4),HF4.o.old o5,hbf,hgf,Ho4.o.trans o5,fun i hi=>ToV.none _ _ _ _⟩,fun i hi=>zO⟩;clear hp5 o5 HSp4 HLap HB4 Hg4 HF4 Ho4 hM hf4 hbf hgf hwd
 go_wp2_with fail
 go_loopw [38] (fun i wr=>∃k:Nat,k<=N/\i=vI iJ k/\Hid (FmN w b size gg pt fb N ex F S k wr)) (fun i _=>N-(intOf i).toNat)
 case atStart=>exact⟨0,zO,rfl,H5⟩
 case round=>
  obtain⟨k,hk,rfl,HR⟩:=hrel;clear H5;by_cases hlt:k<N
  ·obtain⟨L,hR,hGood⟩:=HR.o;have i1:(0:Int)<=k:=zO;have i2:(k:Int)<N:=zO;obtain⟨sq,rfl,_,hsq⟩:=hR.sp zO;have HLd:Hid (∀j,j<16->wr.cell? ⟨sq,k*16+j,none⟩=some (vI iJ (aN S k j))):=fun j hj=>hsq.cell (k*16+j) zO;have H1:Hid ((aA 16 (blk (aN S k))).all (·.oneCell')=true):=zH (bN _ _);have HGood:=zH hGood;obtain⟨bw,hbw⟩:∃q,q=wr.heap.size:=⟨_,rfl⟩
   obtain⟨U,hU⟩:∃V,V=wr.alloc (.cells (aA 16 (blk (aN S k))) 43):=⟨_,rfl⟩
   have oU:Old wr U:=by rw[hU];exact Old.alloc _ _
   have HK:=zH (hR.keep oU);have hfbU:fb<U.heap.size:=HK.o.fr.at_.lt;have hbox:U.heap[bw]?=some (.cells (aA 16 (blk (aN S k))) 43 (0,0)):=by rw[hU,hbw];exact heap_alloc_new _ _
   have HSS:Hid (∀V,Old U.drew V->V.heap[bw]?=some (.cells (aA 16 (blk (aN S k))) 43 (0,0))/\(∀j,j<4->V.cell? ⟨gg,k*4+j,none⟩=some (vI iJ (PW ex F k j)))/\V.cell? ⟨b,16,none⟩=some (vI iJ size)):=fun V hV=>by
    have h:=HK.o.keep ((Old.drew (Old.refl _)).trans hV);exact⟨(hV.block _ (lt_of_block hbox)).trans hbox,fun j hj=>h.gn.cell (k*4+j) zO,h.co.size_cell⟩
   have HUw:=zH hU;have HUb:=zH hbw;have HFk:=zH (HFit.o k hlt);clear HR hR hGood hsq oU hU hbw hbox HFit
   go_wp2_with (first
    | (with_reducible refine bC rfl 16 (aN S k) 43 _ rfl sq (k*16) rfl _ HLd.o underlying43 rfl Hs16.o ?_)
    | (with_reducible refine wpList_store_row rfl 43 _ _ rfl wr.heap.size (aA 16 (blk (aN S k))) rfl rfl 43 _ (heap_alloc_new _ _) (by rw[aB];exact Hs16.o) (by rw[aB];kernel_rfl) H1.o ?_;rw[World.setRow_alloc_new,<-HUw.o,<-HUb.o]))
   refine wp_region_held_drew (S:=(fun w'=>w'.heap[bw]?=some (.cells (aA 16 (blk (aN S k))) 43 (0,0))/\(∀j,j<4->w'.cell? ⟨gg,k*4+j,none⟩=some (vI iJ (PW ex F k j)))/\w'.cell? ⟨b,16,none⟩=some (vI iJ size))) zK ?_ (fun hHeld=>?_)
   ·(try dsimp only);exact HSS.o _ (Old.refl _)
   refine (uT 0 (v:=.agg (aA 16 (blk (aN S k)))) rfl (aG zK 43 (.tmp 11) rfl bw rfl 43 (aA 16 (blk (aN S k))) (0,0) _ (fun _ h=>h.1) underlying43 rfl (by rw[aB];exact Hs16.o))) ?_;refine (uU 1) ((uU 2) ((uU 3) ?_));refine (uT 4 (v:=.agg (aA 4 (blk (PW ex F k)))) rfl (aX 4 (PW ex F k) zK 44 (.tmp 47) rfl gg (k*4) rfl _ (fun _ h=>h.2.1) underlying44 rfl Hs4.o)) ?_;refine (uU 5) ((uU 6) ((uU 7) ((uU 8) ?_)));refine wpAnyH_ready (rs:=[9,13]) zK zS ?_
   (refine AllReadyH.cons (o:=⟨_,_,_,_,_,_⟩) (by rfl) ?_ (AllReadyH.cons (o:=⟨_,_,_,_,_,_⟩) (by rfl) ?_ AllReadyH.nil)) <;> intro K hK
   ·go_simp;refine(HFk.o _).mono ?_;rintro e V1 ⟨x,rfl,hfit,hx2,ht1,o1⟩;have HX:Hid ((oV (aN S k) (PW ex F k) size x/\x.n<=2)/\fb<U.heap.size):=zH ⟨⟨hfit,hx2⟩,hfbU⟩;have HO1:=zH o1;have HT1:=zH ht1;have H1x:Hid ((aA 29 (aR x.F x.s)).all (·.oneCell')=true):=zH (cN _ _ ht1.one);clear hfit hx2 ht1 o1
    go_wp2_with fail
    refine hK.out _ _ ?_ (fun hHeld=>?_)
    ·(try dsimp only);exact HSS.o _ HO1.o
    clear hK K;refine (uU 10) ((uU 11) ((uU 12) ?_));refine wpR 13 rfl (fun K hK=>?_);go_simp;rw[<-Hz.o];refine hK.out _ _ ?_ (fun hHeld=>?_)
    ·(try dsimp only);exact HSS.o _ (HO1.o.alloc' _)
    clear hK K
    try simp only[Act.put,sA,sZ,sS]
    refine wpR 14 rfl (fun K hK=>?_);have hGot:=ZO z 98 Hzr.o HO1.o HT1.o;rw[if_pos zK]
    with_reducible refine wp_store_mid 98 _ _ rfl (V1.heap.size) (0) (aA 29 (aR x.F x.s)) rfl rfl (by rw[aB];exact(AR V1 z 98 Hzr.o).there 0 29 zO) (by rw[aB];exact Hs29.o) (H1x.o) ?_
    try simp only[Act.put,sA,sZ,sS]
    refine hK.out _ _ ?_ (fun hHeld=>?_)
    ·(try dsimp only);exact HSS.o _ hGot.old
    clear hK K;refine (uU 15) ?_;refine wpAnyH_done zK ?_ _;obtain⟨V9,hV9⟩:∃V,V=(V1.alloc (.cells z 98)).setCells V1.heap.size 0 (aA 29 (aR x.F x.s)).toList:=⟨_,rfl⟩
    obtain⟨nb,hnb⟩:∃q,q=V1.heap.size:=⟨_,rfl⟩
    rw[<-hV9,<-hnb]at hGot;rw[<-hV9,<-hnb];clear hV9 hnb HO1 HT1;have HG:=zH hGot;have HOU:Hid (Old U V9):=zH (by first | exact(Old.drew (Old.refl _)).trans hGot.old);have hk9:=HK.o.keep HOU.o;have HT:=zH (hk9.fr.at_.there (k*29) 29 zO);have NX:=zH (FmN.step hk9 HGood.o hlt hGot HX.o.1 HX.o.2);have Hc9:Hid (∀j,j<29->V9.cell? ⟨nb,0+j,none⟩=some (aR x.F x.s j)):=zH fun j hj=>by rw[Nat.zero_add];exact hGot.at_.cell j hj
    clear hGot hk9 HK HGood HSS HFk HX HG
    go_wp2_with (first
     | (with_reducible refine lC rfl (aR x.F x.s) 98 _ rfl nb 0 rfl _ Hc9.o underlying98 rfl Hs29.o ?_)
     | (with_reducible refine oP rfl (aR x.F x.s) 98 _ _ rfl fb (k*29) rfl rfl HT.o Hs29.o H1x.o ?_))
    go_roundw
    case rel=>exact⟨k+1,zO,by go_num,NX⟩
    case measure=>(simp[intOf];try omega)
   ·go_simp;rw[<-Hz.o];refine hK.out _ _ ?_ (fun hHeld=>?_)
    ·(try dsimp only);exact HSS.o _ ((Old.refl _).alloc' _)
    clear hK K
    try simp only[Act.put,sA,sZ,sS]
    refine wpR 9 rfl (fun K hK=>?_);go_simp;refine(HFk.o _).mono ?_;rintro e V1 ⟨x,rfl,hfit,hx2,ht1,o1⟩;have HX:Hid ((oV (aN S k) (PW ex F k) size x/\x.n<=2)/\fb<U.heap.size):=zH ⟨⟨hfit,hx2⟩,hfbU⟩;have HO1:=zH o1;have HT1:=zH ht1;have H1x:Hid ((aA 29 (aR x.F x.s)).all (·.oneCell')=true):=zH (cN _ _ ht1.one);clear hfit hx2 ht1 o1
    go_wp2_with fail
    refine hK.out _ _ ?_ (fun hHeld=>?_)
    ·(try dsimp only);exact HSS.o _ (((Old.refl _).alloc' _).trans HO1.o)
    clear hK K;refine (uU 10) ((uU 11) ((uU 12) ?_));refine wpR 14 rfl (fun K hK=>?_);have hTh:V1.there U.heap.size 0 29:=((AR U.drew z 98 Hzr.o).old HO1.o).there 0 29 zO;have hGot:aDF U.drew U.heap.size x (V1.setCells U.heap.size 0 (aA 29 (aR x.F x.s)).toList):=SU (U:=U.drew) z 98 Hzr.o HO1.o HT1.o;rw[if_pos zK]
    with_reducible refine wp_store_mid 98 _ _ rfl (U.heap.size) (0) (aA 29 (aR x.F x.s)) rfl rfl (by rw[aB];exact hTh) (by rw[aB];exact Hs29.o) (H1x.o) ?_
    try simp only[Act.put,sA,sZ,sS]
    refine hK.out _ _ ?_ (fun hHeld=>?_)
    ·(try dsimp only);exact HSS.o _ hGot.old
    clear hK K;refine (uU 15) ?_;refine wpAnyH_done zK ?_ _;obtain⟨V9,hV9⟩:∃V,V=V1.setCells U.heap.size 0 (aA 29 (aR x.F x.s)).toList:=⟨_,rfl⟩
    obtain⟨nb,hnb⟩:∃q,q=U.heap.size:=⟨_,rfl⟩
    rw[<-hV9,<-hnb]at hGot;rw[<-hV9,<-hnb];clear hV9 hnb HO1 HT1;have HG:=zH hGot;have HOU:Hid (Old U V9):=zH (by first | exact(Old.drew (Old.refl _)).trans hGot.old);have hk9:=HK.o.keep HOU.o;have HT:=zH (hk9.fr.at_.there (k*29) 29 zO);have NX:=zH (FmN.step hk9 HGood.o hlt hGot HX.o.1 HX.o.2);have Hc9:Hid (∀j,j<29->V9.cell? ⟨nb,0+j,none⟩=some (aR x.F x.s j)):=zH fun j hj=>by rw[Nat.zero_add];exact hGot.at_.cell j hj
    clear hGot hk9 HK HGood HSS HFk HX HG
    go_wp2_with (first
     | (with_reducible refine lC rfl (aR x.F x.s) 98 _ rfl nb 0 rfl _ Hc9.o underlying98 rfl Hs29.o ?_)
     | (with_reducible refine oP rfl (aR x.F x.s) 98 _ _ rfl fb (k*29) rfl rfl HT.o Hs29.o H1x.o ?_))
    go_roundw
    case rel=>exact⟨k+1,zO,by go_num,NX⟩
    case measure=>(simp[intOf];try omega)
  ·obtain rfl:k=N:=zO;have HE:Hid (∃L,w.heap.size<=fb/\FrsS (fun q=>q<w.heap.size) wr (some ⟨fb,0,none⟩) k L/\FmG size ex F S k L/\Old w wr):=by
    obtain⟨L,hR,hGood⟩:=HR.o;exact⟨L,Nat.le_of_not_lt hR.fr.o,⟨(hR.fr.sl (fun _=>False) (fun _ _ h=>h.elim)).1,hR.tw⟩,hGood,hR.old⟩
   clear HR HFit
   go_wp2_with fail
   go_ret2
   obtain⟨L,e0,e1,e2,e3⟩:=HE.o;exact⟨_,L,rfl,e0,e1,e2,e3⟩
theorem LH(b:Nat)(size:Int)(p:Option Addr)(n cap:Nat)(xs:List Int)(w:World)(hb:CoB w b size)(h1:24<=size)(h2:size<=96)(hs:kK w .i64 (.slice p n cap) xs)(hx:qE xs)(hn:n<=1048576):
  Calls zP 99 #[.pointer (some ⟨b,0,none⟩),.slice p n cap] w fun e w'=>∃fb L,e=rJ (.tuple #[.slice (some ⟨fb,0,none⟩) (cW n) (cW n),vI iJ 0])/\FrsS (fun _=>False) w' (some ⟨fb,0,none⟩) (cW n) L/\FmG size (decide (55<=size)) (fun j=>xs.getD j 0) (JT (decide (55<=size)) (cW n) fun j=>xs.getD j 0) (cW n) L/\Old w w':=
 (IQ b size p n cap xs w hb h1 h2 hs hx hn).mono fun _ _ ⟨fb,L,e,_,e1,e2,e3⟩=>⟨fb,L,e,⟨e1.1,fun i hi=>(e1.2 i hi).mono fun _ _ h=>h.elim⟩,e2,e3⟩
def rL(k:Nat)(L:Nat->Fr):nI:=fun q=>if q/16<k then dX (L (q/16)).F (L (q/16)).n (L (q/16)).T (q%16) else 0
def rK(k:Nat)(L:Nat->Fr):nI:=fun q=>if q/4<k then(L (q/4)).F (q%4) else 0
structure SmR(w:World)(sb gb N:Nat)(SF GF:nI)(wr:World):Prop where
 s:CellsAt wr sb (N*16) SF
 g:CellsAt wr gb (N*4) GF
 ne:sb≠gb
 ns:w.heap.size<=sb
 ng:w.heap.size<=gb
 old:Old w wr
namespace SmR
variable {w wr w':World} {sb gb N:Nat} {SF GF:nI}
end SmR
theorem tO{g h:nI}(e:∀k,k<4->g k=h k)(i:Int):mG g i=mG h i:=by
 have er:bX g↔bX h:=⟨fun hr k hk=>by rw[<-e k hk];exact hr k hk,fun hr k hk=>by rw[e k hk];exact hr k hk⟩
 unfold mG;by_cases c:0<=i/\i<16/\bX g
 ·rw[if_pos c,if_pos ⟨c.1,c.2.1,er.1 c.2.2⟩,e _ zO]
 ·rw[if_neg c,if_neg (fun d=>c ⟨d.1,d.2.1,er.2 d.2.2⟩)]
theorem TE{N:Nat}{A B:nI}(h:∀q,q<N*16->A q=B q):∀q,q<N*16->gP N A q=gP N B q:=by
 unfold gP;refine AK fun q hq=>?_;rw[fE _ _ _ _ hq,fE _ _ _ _ hq];obtain⟨b,r,rfl,hr,_,_⟩:=gY q;rw[gZ _ _ _ _ hr,gZ _ _ _ _ hr];exact mZ 4 (fun k hk=>h _ zO) r hr
theorem SH{N:Nat}{A B G H:nI}(h:∀q,q<N*16->A q=B q)(hG:∀q,q<N*4->G q=H q):∀q,q<N*16->gJ N G N A q=gJ N H N B q:=by
 intro q hq;unfold gJ;rw[fE _ _ _ _ hq,fE _ _ _ _ hq];obtain⟨b,r,rfl,hr,_,_⟩:=gY q;rw[gZ _ _ _ _ hr,gZ _ _ _ _ hr];show fZ (gP N A (b*16+r)) (mG (dJ G N b) r)=fZ (gP N B (b*16+r)) (mG (dJ H N b) r);rw[TE h _ hq,tO (h:=dJ H N b) fun k hk=>?_];unfold dJ;rw[if_pos zO,if_pos zO];exact hG _ zO
theorem TH{F:nI}(hF:∀q,-32768<=F q/\F q<=32768){size:Int}(h55:55<=size){N:Nat}{L:Nat->Fr}(h:FmG size true F (JT true N F) N L):(∀q,q<N*16->rL N L q=JT true N F q)/\∀q,q<N*4->rK N L q=DW true F q:=by
 constructor
 ·intro q hq;unfold rL;rw[if_pos zO];have e:=UR (h (q/16) zO).1 h55 (jQ hF true N (q/16) zO) (q%16) zO;rw[e];show JT true N F (q/16*16+q%16)=_;rw[show q/16*16+q%16=q by omega]
 ·intro q hq;unfold rK;rw[if_pos zO];rcases(h (q/4) zO).1 with ⟨_,e,_,_⟩ | ⟨h1,_⟩
  ·rw[e];unfold fF;rw[WX _ _ _ _ _ zO];rfl
  ·omega
theorem RZ{F:nI}(hF:∀q,-32768<=F q/\F q<=32768){size:Int}(h55:55<=size){N:Nat}{L:Nat->Fr}(h:FmG size true F (JT true N F) N L)(q:Nat)(hq:q<N*16):gJ N (rK N L) N (rL N L) q=F q:=by
 obtain⟨h1,h2⟩:=TH hF h55 h;rw[SH h1 h2 q hq];exact aCX (fun q=>by have:=hF q;omega) N _ N q hq
theorem aGp(v:Int)(h1:-32768<=v)(h2:v<=32767):oG v=v:=by unfold oG;rw[EX];omega
theorem aGo{F:nI}(hF:∀q,-32768<=F q/\F q<=32768){size:Int}{ex:Bool}{N:Nat}{L:Nat->Fr}(h24:24<=size)(h:FmG size ex F (JT ex N F) N L)(i:Nat)(hi:i<N):mC (L i).F (L i).n (L i).T/\pF (L i).F (L i).n<=8*size/\aD (L i).T:=by
 have hs:=jQ hF ex N i hi;have hf:aD (aN (JT ex N F) i):=fun k=>oX N _ N (fun q=>by have:=hF q;omega) _;obtain⟨h1,h2⟩:=h i hi;exact⟨MC h1 hs (rG ex F i) h2,GP h1 hs h2 h24,FZ h1 hf⟩
theorem aBB(n:Nat)(G:nI)(ng:Nat)(L:nI)(k:Nat)(h:k<n*16):gJ n G ng L k=fZ (gP n L k) (mG (dJ G ng (k/16)) ((k%16:Nat):Int)):=by
 unfold gJ;rw[fE _ _ _ _ h];show fZ (aN (gP n L) (k/16) (k%16)) _=_;unfold aN;rw[show k/16*16+k%16=k by omega]
theorem qM(n:Nat)(L:nI)(b r:Nat)(hr:r<16)(h:b*16+r<n*16):dL n back L (b*16+r)=iC 4 (aN L b) r:=by
 rw[fE _ _ _ _ h,gZ _ _ _ _ hr];rfl
theorem PP(n:Nat)(L:nI)(k:Nat)(h:k<n*16)(h1:¬(8<=k%16/\k/16+1<n))(h2:¬(k%16<8/\1<=k/16)):gP n L k=iC 4 (aN L (k/16)) (k%16):=by
 obtain⟨b,r,rfl,hr,e1,e2⟩:=gY k;rw[e1]at h1 h2 |-;rw[e2]at h1 h2 |-;unfold gP;by_cases h8:8<=r
 ·rw[dN _ _ _ _ _ _ hr h8,if_neg zO,qM _ _ _ _ hr h]
 ·rw[dO _ _ _ _ _ _ zO,if_neg zO,qM _ _ _ _ hr h]
theorem FD(n:Nat)(L:nI)(k kk:Nat)(h:k<n*16)(hk:kk<n)(h1:(8<=k%16/\kk=k/16+1)\/(k%16<8/\kk+1=k/16)):gP n L k=iL (iC 4 (aN L (k/16))) (iC 4 (aN L kk)) (k%16):=by
 obtain⟨b,r,rfl,hr,e1,e2⟩:=gY k;rw[e1]at h1 |-;rw[e2]at h1 |-;unfold gP iL;rcases h1 with ⟨h8,rfl⟩ | ⟨h8,hb⟩
 ·rw[dN _ _ _ _ _ _ hr h8,if_pos hk,if_pos h8,qM _ _ _ _ hr h,show b*16+16+(15-r)=(b+1)*16+(15-r) by omega,qM _ _ _ _ zO zO]
 ·rw[dO _ _ _ _ _ _ h8,if_pos ⟨zO,zO⟩,if_neg zO,qM _ _ _ _ hr h,show b*16-16+(15-r)=kk*16+(15-r) by omega,qM _ _ _ _ zO zO]
structure Kb where
 b:Nat
 n:Nat
 F:nI
 G:nI
def kbF(x:Kb):nI:=fun j=>if j=0 then x.n else if j<17 then x.F (j-1) else x.G (j-17)
def xN:Option Kb->Value
 | none=>.pointer none
 | some x=>.pointer (some ⟨x.b,0,none⟩)
theorem aGi(o:Option Kb):(xN o).oneCell'=true:=by cases o <;> rfl
def sI(K:Nat->Option Kb)(n k:Nat):Bool:=match K k with
 | none=>false
 | some x=>decide (x.n≠n)
structure aGW(K:Nat->Option Kb)(n k:Nat):Prop where
 le:k<=3
 past:∀j,j<k->sI K n j=true
 end_ : k < 3 -> sI K n k = false
def YJ(K:Nat->Option Kb)(k:Nat)(x:Kb):Nat->Option Kb:=fun j=>if j=0 then some x else if j<=k then K (j-1) else K j
def GH(V:nI)(A:Nat->Value)(K:Nat->Option Kb)(ms:Value)(fr:Int):Nat->Value:=fun j=>
 if j<21 then vI iJ (V j) else if j<41 then A (j-21) else if j<45 then xN (K (j-41)) else if j=45 then ms else vI iJ fr
theorem aDq(V:nI)(A:Nat->Value)(K:Nat->Option Kb)(ms:Value)(fr:Int)(P:nI)(l:Int)(j:Nat):vlC (GH V A K ms fr) 0 P l j=GH (BF P l) A K ms fr j:=by
 unfold vlC jC GH;by_cases h:j<21
 ·rw[if_pos ⟨zO,zO⟩,if_pos h];rfl
 ·rw[if_neg zO,if_neg h,if_neg h]
theorem TX(V:nI)(A:Nat->Value)(K:Nat->Option Kb)(ms:Value)(fr fr':Int)(j:Nat)(hj:j<47):(if j=46 then vI iJ fr' else GH V A K ms fr j)=GH V A K ms fr' j:=by
 unfold GH;by_cases h:j=46
 ·subst h;rfl
 ·rw[if_neg h];have:j<46:=zO;by_cases h1:j<21
  ·rw[if_pos h1,if_pos h1]
  by_cases h2:j<41
  ·rw[if_neg h1,if_pos h2,if_neg h1,if_pos h2]
  by_cases h3:j<45
  ·rw[if_neg h1,if_neg h2,if_pos h3,if_neg h1,if_neg h2,if_pos h3]
  ·rw[if_neg h1,if_neg h2,if_neg h3,if_neg h1,if_neg h2,if_neg h3,if_pos zO,if_pos zO]
def lW(fb:Nat)(i ch len:Int):Nat->Value:=fun j=>if j=0 then .pointer (some ⟨fb,0,none⟩) else if j=1 then vI iJ i else if j=2 then vI iJ ch else if j=3 then vI iJ len else vI iJ (tI (j-4))
def KbAt(w:World)(x:Kb):Prop:=w.heap[x.b]?=some (.cells (aA 21 (blk (kbF x))) 113 (0,0))
namespace KbAt
variable {w w':World} {x:Kb}
theorem lt(h:KbAt w x):x.b<w.heap.size:=lt_of_block h
theorem kept{X:Nat->Prop}(h:KbAt w x)(k:Kept X w w')(hX:X x.b):KbAt w' x:=(k.block _ hX).trans h
theorem old(h:KbAt w x)(k:Old w w'):KbAt w' x:=h.kept k h.lt
theorem num(h:KbAt w x):w.cell? ⟨x.b,0,none⟩=some (vI iJ x.n):=(cell_of_row _ _ _ _ _ _ h).trans (dR 21 (kbF x) 0 zO)
theorem wave(h:KbAt w x)(j:Nat)(hj:j<16):w.cell? ⟨x.b,1+j,none⟩=some (vI iJ (x.F j)):=by
 rw[(cell_of_row _ _ _ _ _ _ h).trans (dR 21 (kbF x) (1+j) zO)];unfold kbF;rw[if_neg zO,if_pos zO,show 1+j-1=j by omega]
theorem gains(h:KbAt w x)(j:Nat)(hj:j<4):w.cell? ⟨x.b,17+j,none⟩=some (vI iJ (x.G j)):=by
 rw[(cell_of_row _ _ _ _ _ _ h).trans (dR 21 (kbF x) (17+j) zO)];unfold kbF;rw[if_neg zO,if_neg zO,show 17+j-17=j by omega]
end KbAt
structure CuS(w:World)(b:Nat)(V:nI)(A:Nat->Value)(K:Nat->Option Kb)(ms:Value)(fr:Int):Prop where
 c:CellsV w b 47 (GH V A K ms fr)
 sh:vW w b 61 47
 k:∀j,j<4->∀x,K j=some x->KbAt w x/\x.b≠b
namespace CuS
variable {w w':World} {b:Nat} {V:nI} {A:Nat->Value} {K:Nat->Option Kb} {ms:Value} {fr:Int}
theorem lt(h:CuS w b V A K ms fr):b<w.heap.size:=h.c.lt
theorem kept{X:Nat->Prop}(h:CuS w b V A K ms fr)(k:Kept X w w')(hb:X b)(hX:∀j,j<4->∀x,K j=some x->X x.b):CuS w' b V A K ms fr:=
 ⟨h.c.kept k hb,h.sh.kept k hb,fun j hj x hx=>⟨(h.k j hj x hx).1.kept k (hX j hj x hx),(h.k j hj x hx).2⟩⟩
theorem old(h:CuS w b V A K ms fr)(k:Old w w'):CuS w' b V A K ms fr:=h.kept k h.lt fun j hj x hx=>(h.k j hj x hx).1.lt
theorem veil{P:nI}{l:Int}(h:CuS w b (BF P l) A K ms fr):VlI w b 0 47 (GH (BF P l) A K ms fr) P l:=
 ⟨h.c,zO,fun j hj=>by unfold GH;rw[if_pos zO,Nat.zero_add]⟩
theorem cA(h:CuS w b V A K ms fr)(j:Nat)(hj:j<20):w.cell? ⟨b,21+j,none⟩=some (A j):=by
 rw[h.c.cell _ zO];unfold GH;rw[if_neg zO,if_pos zO,show 21+j-21=j by omega]
theorem cK(h:CuS w b V A K ms fr)(j:Nat)(hj:j<4):w.cell? ⟨b,41+j,none⟩=some (xN (K j)):=by
 rw[h.c.cell _ zO];unfold GH;rw[if_neg zO,if_neg zO,if_pos zO,show 41+j-41=j by omega]
theorem cF(h:CuS w b V A K ms fr):w.cell? ⟨b,46,none⟩=some (vI iJ fr):=by
 rw[h.c.cell _ zO];rfl
theorem setF(h:CuS w b V A K ms fr)(fr':Int):CuS (w.setCell ⟨b,46,none⟩ (vI iJ fr')) b V A K ms fr':=
 ⟨(h.c.one 46 zO _).ext fun j hj=>TX V A K ms fr fr' j hj,h.sh.cell _ _,fun j hj x hx=>⟨(h.k j hj x hx).1.kept (Kept.setCell w (X:=fun q=>q≠b) (a:=⟨b,46,none⟩) (fun e=>e rfl) _) (h.k j hj x hx).2,(h.k j hj x hx).2⟩⟩
end CuS
theorem aFI(w:World)(b:Nat)(h:vW w b 61 47):(partAt ⟨b,25,none⟩ 16 128).run zP w=.ok ⟨b,41,some 328⟩ w:=by
 have h1:zP.cellsOf 61=47:=zK;have h2:zP.bytesOf 61=400:=zK;have h3:byteOfCell zP zP.depth 61 25=some 200:=zK;have h4:byteOfCell zP zP.depth 61 41=some 336:=zK;obtain⟨c,hc,hz⟩:=h;have hs:w.shape? b=some (61,47):=by unfold World.shape?;rw[hc,<-hz]
 simp[partAt,byteOf,noView,viewAt,hs,h1,h2,h3,h4]
theorem aAN{P:Program}{w:World}{o:Oper}{a:Act}{K:Act->World->Prop}{Q:Exit->Act->World->Prop}(d s:Operand)(dT sT:TypeId)
  (ho:o.op=.call { callee:=.builtin .copy,args:=#[d,s],argTypes:=#[dT,sT] }) (elem:TypeId) (hu:P.underlying dT=some (.slice elem)) (hsz:(P.info? elem).map (·.size)=some 1)
  (n:Nat) (f:Nat->Value) (h1:∀j,j<n->(f j).oneCell'=true) (g off dLen dCap b so oW sCap:Nat) (hd:a.eval d=.slice (some ⟨g,off,none⟩) dLen dCap) (hs:a.eval s=.slice (some ⟨b,so,none⟩) oW sCap) (hn:n=Nat.min oW dLen)
  (hsrc:∀j,j<n->w.cell? ⟨b,so+j,none⟩=some (f j)) (ht:w.there g off n)
  (h:K (a.put o.dst (vI iJ (n:Int))) (w.setCells g off (aA n f).toList)):o.wp P a w K Q:=by
 have hlen:(aA n f).toList.length=n:=dK n f
 have hrun:=run_copy_cells (P:=P) w dT sT o.type elem g off dLen dCap ⟨b,so,none⟩ oW sCap (aA n f).toList hu hsz (by rw[hlen];exact hn)
  (fun j v hv=>by obtain⟨hj,rfl⟩:=iS hv;rw[add_plain];exact hsrc j hj) (fun j hj=>(ht j (by rw[hlen]at hj;exact hj)).1) (fun j hj=>(ht j (by rw[hlen]at hj;exact hj)).2)
  (fun v hv=>by obtain⟨j,hj⟩:=List.getElem?_of_mem hv;obtain⟨h2,rfl⟩:=iS hj;exact h1 j h2)
 rw[hlen]at hrun;unfold Oper.wp;simp[execOp,ho,resolve,invoke,builtin,hd,hs,hrun,Result.andThen];exact h
structure CuM(b:Nat)(A:Nat->Value)(G:Kb->Prop){σ:Type}(R:σ->(Nat->Option Kb)->World->Prop):Prop where
 at_:∀{s K W},R s K W->∃V ms fr,CuS W b V A K ms fr
 set:∀{s K W V ms fr K' U},R s K W->CuS W b V A K ms fr->Kept (fun q=>q≠b) W U->CuS U b V A K' ms fr->(∀j,j<4->∀x,K' j=some x->(∃i,i<4/\K i=some x)\/G x)->R s K' U
 gd:∀{s K W},R s K W->∀j,j<4->∀x,K j=some x->G x
 old:∀{s K W U},R s K W->Old W U->R s K U
def oR(K:Nat->Option Kb)(n k:Nat):Bool:=match K k with
 | none=>false
 | some x=>decide (x.n=n)
structure BH{σ:Type}(K:Nat->Option Kb)(n:Nat)(s:σ)(St:σ->Kb->σ->Prop)(kb:Kb)(s':σ)(K':Nat->Option Kb):Prop where
 num:kb.n=n
 how:∃k,aGW K n k/\((oR K n k=true/\K k=some kb/\s'=s)\/(oR K n k=false/\St s kb s'))/\K'=YJ K k kb
theorem aBj{K:Nat->Option Kb}{n k:Nat}(h:oR K n k=true):∃x,K k=some x/\x.n=n:=by
 unfold oR at h;cases hK:K k with
 | none=>rw[hK]at h;cases h
 | some x=>rw[hK]at h;exact⟨x,rfl,of_decide_eq_true h⟩
theorem aHJ{V:nI}{A:Nat->Value}{K:Nat->Option Kb}{ms:Value}{fr:Int}{k:Nat}(hk:k<=3)(kb:Kb)(j:Nat)(hj:j<47):(if j=41 then xN (some kb) else jC (GH V A K ms fr) 42 k (fun i=>xN (K i)) j)=GH V A (YJ K k kb) ms fr j:=by
 by_cases h0:j=41
 ·subst h0;rfl
 rw[if_neg h0];unfold jC GH;by_cases h1:j<21
 ·rw[if_neg zO,if_pos h1,if_pos h1]
 by_cases h2:j<41
 ·rw[if_neg zO,if_neg h1,if_pos h2,if_neg h1,if_pos h2]
 by_cases h3:j<45
 ·rw[if_neg h1,if_neg h2,if_pos h3,if_neg h1,if_neg h2,if_pos h3];have e0:¬(j-41=0):=zO;have hs:YJ K k kb (j-41)=if j-41<=k then K (j-42) else K (j-41):=by unfold YJ;rw[if_neg e0,show j-41-1=j-42 by omega]
  rw[hs];by_cases h4:j-41<=k
  ·rw[if_pos (show 42<=j/\j<42+k from⟨zO,zO⟩),if_pos h4]
  ·rw[if_neg (show ¬(42<=j/\j<42+k) by omega),if_neg h4]
 ·rw[if_neg zO,if_neg h1,if_neg h2,if_neg h3,if_neg h1,if_neg h2,if_neg h3]
theorem Tryz.kp_under:zP.underlying 59=some (.array (zP.arrayLen 59) (zP.elem 59)):=zK
theorem rC(b:Nat)(A:Nat->Value)(G:Kb->Prop){σ:Type}(R:σ->(Nat->Option Kb)->World->Prop)(M:CuM b A G R)(St:σ->Kb->σ->Prop)(n:Nat)(s:σ)(K:Nat->Option Kb)(W:World)(h:R s K W)
  (HF:∀V,R s K V->Calls zP 74 #[.pointer (some ⟨b,0,none⟩),vI iJ n] V fun e V'=>∃kb s',e=rJ (.pointer (some ⟨kb.b,0,none⟩))/\kb.n=n/\KbAt V' kb/\kb.b≠b/\G kb/\St s kb s'/\R s' K V'):
  Calls zP 40 #[.pointer (some ⟨b,0,none⟩),vI iJ n] W fun e V=>∃kb s' K',e=rJ (.pointer (some ⟨kb.b,0,none⟩))/\KbAt V kb/\kb.b≠b/\G kb/\BH K n s St kb s' K'/\R s' K' V:=by
 have HF':=zH HF;have HM:=zH M;have HR:=zH h;obtain⟨V0,ms0,fr0,hcu0⟩:=M.at_ h;have HCk:=zH hcu0.cK;have HKb:=zH hcu0.k;clear HF M h hcu0;go_enter func40,ntmps40
 go_wp2_with fail
 go_loopw [5] (fun v wr=>∃k:Nat,k<=3/\v=vI iJ k/\Hid (∀j,j<k->sI K n j=true)/\W=wr) (fun v _=>3-(intOf v).toNat)
 case atStart=>exact⟨0,zO,rfl,zH (fun j hj=>zO),rfl⟩
 case round=>
  obtain⟨k,hk3,rfl,HP,rfl⟩:=hrel;have k0:(0:Int)<=k:=zO;have k4:(k:Int)<4:=zO;have HC:=zH (HCk.o k zO);obtain⟨go,hgo⟩:=zG ((decide (k<3) && sI K n k))
  go_upto_region 2 with (fail)
  go_cut [30] (fun v wx=>v=.bool go/\W=wx)
  case first=>
   clear HF' HM HR HP HCk;by_cases hk:k<3
   ·have hk':(k:Int)<3:=zO;cases hK:K k with
    | none=>
     have c:W.cell? ⟨b,41+k,none⟩=some (.pointer none):=by have:=HC.o;rw[hK]at this;exact this
     have e:go=false:=by rw[hgo];unfold sI;rw[hK];simp
     have He:=zH e;clear HC HKb e hgo
     go_wp2_with fail
     go_meet
     exact⟨by rw[He.o],rfl⟩
    | some x=>
     have c:W.cell? ⟨b,41+k,none⟩=some (.pointer (some ⟨x.b,0,none⟩)):=by have:=HC.o;rw[hK]at this;exact this
     have c2:=(HKb.o k zO x hK).1.num;by_cases hx:x.n=n
     ·have e:go=false:=by rw[hgo];unfold sI;rw[hK];simp[hx]
      have e2:((x.n:Int) != (n:Int))=false:=by rw[hx];simp
      have He:=zH e;clear HC HKb e hgo hx;generalize (x.n:Int)=xn at *
      go_wp2_with fail
      go_meet
      exact⟨by first | (rw[He.o];done) | (rw[He.o,e2]),rfl⟩
     ·have e:go=true:=by rw[hgo];unfold sI;rw[hK];simp[hx,hk]
      have e2:((x.n:Int) != (n:Int))=true:=by simp;omega
      have He:=zH e;clear HC HKb e hgo hx;generalize (x.n:Int)=xn at *
      go_wp2_with fail
      go_meet
      exact⟨by first | (rw[He.o];done) | (rw[He.o,e2]),rfl⟩
   ·have hk':¬(k:Int)<3:=zO;have e:go=false:=by rw[hgo];simp[hk]
    have He:=zH e;clear HC HKb e hgo
    go_wp2_with fail
    go_meet
    exact⟨by rw[He.o],rfl⟩
  case rest=>as_aux_lemma=>
   obtain⟨rfl,rfl⟩:=hcut;by_cases hg:(decide (k<3) && sI K n k)=true
   ·rw[hgo,hg];have hk:k<3:=by
     by_cases hk:k<3
     ·exact hk
     ·simp[hk]at hg
    have hm:sI K n k=true:=by simp[hk]at hg;exact hg
    have HP2:Hid (∀j,j<k+1->sI K n j=true):=zH fun j hj=>by
     by_cases e:j=k
     ·rw[e];exact hm
     ·exact HP.o j zO
    clear hg hgo hm HP HC HCk HKb HF' HM HR
    go_wp2_with fail
    go_roundw
    case rel=>exact⟨k+1,zO,by go_num,HP2,trivial⟩
    case measure=>exact zM
   ·rw[hgo,Bool.eq_false_iff.2 hg];have HAt:Hid (aGW K n k):=zH ⟨hk3,HP.o,fun hk=>by
     cases hm:sI K n k with
     | false=>rfl
     | true=>exact absurd (by simp[hk,hm]) hg⟩
    clear hg hgo HP;obtain⟨pv,hpv⟩:=zG (xN (K k));have c4:W.cell? ⟨b,41+k,none⟩=some pv:=by rw[hpv];exact HC.o
    have HPv:=zH hpv;obtain⟨hit,hhit⟩:∃x,x=oR K n k:=⟨_,rfl⟩
    have HHit:=zH hhit;clear hpv HC hhit
    go_upto_region 5 with (fail)
    go_cut [48] (fun v wx=>v=.bool (!hit)/\W=wx)
    case first=>
     clear HF' HM HR HCk HAt c4;cases hK:K k with
     | none=>
      have e1:pv=.pointer none:=by rw[HPv.o,hK];rfl
      have e2:hit=false:=by rw[HHit.o];unfold oR;rw[hK]
      subst e1 e2;clear HPv HHit HKb
      go_wp2_with fail
      go_meet
      exact⟨rfl,rfl⟩
     | some x=>
      have e1:pv=.pointer (some ⟨x.b,0,none⟩):=by rw[HPv.o,hK];rfl
      have c2:=(HKb.o k zO x hK).1.num;subst e1;by_cases hx:x.n=n
      ·have e2:hit=true:=by rw[HHit.o];unfold oR;rw[hK];exact decide_eq_true hx
       have e3:((x.n:Int) != (n:Int))=false:=by rw[hx];simp
       subst e2;clear HPv HHit HKb hx;generalize (x.n:Int)=xn at *
       go_wp2_with fail
       go_meet
       exact⟨by first | rfl | (rw[e3];rfl),rfl⟩
      ·have e2:hit=false:=by rw[HHit.o];unfold oR;rw[hK];exact decide_eq_false hx
       have e3:((x.n:Int) != (n:Int))=true:=by simp;omega
       subst e2;clear HPv HHit HKb hx;generalize (x.n:Int)=xn at *
       go_wp2_with fail
       go_meet
       exact⟨by first | rfl | (rw[e3];rfl),rfl⟩
    case rest=>as_aux_lemma=>
     obtain⟨rfl,rfl⟩:=hcut;clear c4
     go_upto_if 48 with (fail)
     go_cut [6] (fun v wx=>∃kb s',v=.pointer (some ⟨kb.b,0,none⟩)/\Hid (G kb/\kb.n=n/\KbAt wx kb/\kb.b≠b/\R s' K wx/\((oR K n k=true/\K k=some kb/\s'=s)\/(oR K n k=false/\St s kb s'))))
     case first=>
      cases hh:hit with
      | true=>
       obtain⟨x,hK,hx⟩:=aBj (HHit.o.symm.trans hh);have e1:pv=.pointer (some ⟨x.b,0,none⟩):=by rw[HPv.o,hK];rfl
       have HE:Hid (G x/\x.n=n/\KbAt W x/\x.b≠b/\R s K W/\((oR K n k=true/\K k=some x/\s=s)\/(oR K n k=false/\St s x s))):=zH ⟨HM.o.gd HR.o k zO x hK,hx,(HKb.o k zO x hK).1,(HKb.o k zO x hK).2,HR.o,.inl ⟨HHit.o.symm.trans hh,hK,rfl⟩⟩;subst e1;clear HPv HHit HKb hx hK HCk HF' HM HR HAt
       go_wp2_with fail
       go_meet
       exact⟨x,s,rfl,zH (by simpa using HE.o)⟩
      | false=>
       have HF2:=zH (HF'.o W HR.o);have HH:Hid (oR K n k=false):=zH (HHit.o.symm.trans hh);clear HPv HHit HKb HCk HF' HM HR HAt
       go_wp2_with fail
       refine HF2.o.mono ?_;rintro e V1 ⟨kb,s',rfl,hn,hkb,hb,hg,hst,hr⟩;have HE:Hid (G kb/\kb.n=n/\KbAt V1 kb/\kb.b≠b/\R s' K V1/\((oR K n k=true/\K k=some kb/\s'=s)\/(oR K n k=false/\St s kb s'))):=zH ⟨hg,hn,hkb,hb,hr,.inr ⟨HH.o,hst⟩⟩;clear hn hkb hb hg hst hr
       go_wp2_with fail
       go_meet
       exact⟨kb,s',rfl,HE⟩
     case rest=>as_aux_lemma=>
      obtain⟨kb,s',rfl,HE⟩:=hcut;clear HPv HHit HKb HCk HF' HR;obtain⟨W5,rfl⟩:∃V,V=wc:=⟨_,rfl⟩
      obtain⟨V1,ms1,fr1,hcu⟩:=HM.o.at_ HE.o.2.2.2.2.1;have HCu:=zH hcu;obtain⟨kF,hkF⟩:∃f:Nat->Value,f=fun i=>xN (K i):=⟨_,rfl⟩
      have HK1F:Hid (∀j,(kF j).oneCell'=true):=zH fun j=>by rw[hkF];exact aGi _
      have HCell:Hid (∀j,j<4->W5.drew.cell? ⟨b,41+j,none⟩=some (kF j)):=zH fun j hj=>by rw[hkF];exact hcu.cK j hj
      have HTh:=zH (hcu.c.drew.there 42 k zO);have hS1:=fun w=>oD (P:=zP) (t:=59) 4 1 Tryz.kp_under zK (fun w=>zK) zO b 41 w;have hS2:=fun w=>nL (P:=zP) (t:=59) 4 k Tryz.kp_under zK (fun w=>zK) zO zO b 41 w;obtain⟨U1,hU1⟩:∃U,U=(W5.drew.setCells b 42 (aA k kF).toList):=⟨_,rfl⟩
      have HU1:=zH hU1;have HC1:Hid (CellsV U1 b 47 (jC (GH V1 A K ms1 fr1) 42 k fun i=>xN (K i))):=zH (by rw[hU1,hkF];exact hcu.c.drew.setCells 42 k zO _);have HSh1:Hid (vW U1 b 61 47):=zH (by rw[hU1];exact vW.cells _ _ (hcu.sh.kept (Kept.drew (Kept.refl (fun _=>True) _)) trivial));have HK1:Hid (Kept (fun q=>q≠b) W5 U1):=zH (by rw[hU1];exact(Kept.drew (Kept.refl _ W5)).trans (Kept.setCells W5.drew (fun e=>e rfl) _ _));clear hcu hU1 hkF
      go_wp2_with fail
      refine wp_region_held_drew (S:=(fun _=>True)) zK ?_ (fun hHeld=>?_)
      ·exact trivial
      refine (uU 0) ((uU 1) ((uU 2) ((uU 3) ((uU 4) ((uU 5) ((uU 6) ((uU 7) ((uU 8) ?_))))))));refine wpR 9 rfl (fun K hK=>?_);rw[if_pos zK]
      with_reducible refine aAN (.tmp 55) (.tmp 60) 171 171 rfl 58 zK zK k kF (fun j _=>HK1F.o j) b 42 3 3 b 41 k 4 rfl rfl (by simp[Nat.min_def];omega) (fun j hj=>HCell.o j zO) HTh.o ?_
      refine hK.out _ _ ?_ (fun hHeld=>?_)
      ·exact trivial
      clear hK K
      try simp only[Act.put,sA,sZ,sS]
      refine wpAnyH_done zK ?_ _;rw[<-HU1.o];have c6:U1.cell? ⟨b,41,none⟩=some (xN (K 0)):=by
       rw[HC1.o.cell 41 zO];unfold jC;rw[if_neg zO];rfl
      have c7:U1.frozen? ⟨b,41,none⟩=false:=HC1.o.frz 41 zO;obtain⟨pk,hpk⟩:∃x,x=xN (K 0):=⟨_,rfl⟩
      rw[<-hpk]at c6;clear hpk;have HFin:Hid (R s' (YJ K k kb) (U1.setCell ⟨b,41,none⟩ (.pointer (some ⟨kb.b,0,none⟩)))/\KbAt (U1.setCell ⟨b,41,none⟩ (.pointer (some ⟨kb.b,0,none⟩))) kb):=zH (by
       have kk:=HK1.o.trans (Kept.setCell U1 (X:=fun q=>q≠b) (a:=⟨b,41,none⟩) (fun e=>e rfl) (.pointer (some ⟨kb.b,0,none⟩)));refine⟨HM.o.set HE.o.2.2.2.2.1 HCu.o kk ⟨(HC1.o.one 41 zO _).ext fun j hj=>aHJ hk3 kb j hj,HSh1.o.cell _ _,fun j hj x hx=>?_⟩ ?_,HE.o.2.2.1.kept kk HE.o.2.2.2.1⟩
       ·unfold YJ at hx;by_cases h0:j=0
        ·rw[if_pos h0]at hx;cases hx;exact⟨HE.o.2.2.1.kept kk HE.o.2.2.2.1,HE.o.2.2.2.1⟩
        ·rw[if_neg h0]at hx;by_cases h1:j<=k
         ·rw[if_pos h1]at hx;have:=HCu.o.k (j-1) zO x hx;exact⟨this.1.kept kk this.2,this.2⟩
         ·rw[if_neg h1]at hx;have:=HCu.o.k j hj x hx;exact⟨this.1.kept kk this.2,this.2⟩
       ·intro j hj x hx;unfold YJ at hx;by_cases h0:j=0
        ·rw[if_pos h0]at hx;cases hx;exact .inr HE.o.1
        ·rw[if_neg h0]at hx;by_cases h1:j<=k
         ·rw[if_pos h1]at hx;exact .inl ⟨j-1,zO,hx⟩
         ·rw[if_neg h1]at hx;exact .inl ⟨j,hj,hx⟩)
      clear HU1 HC1 HSh1 HK1 HCell HTh hS1 hS2 HCu HM
      go_wp2_with fail
      go_ret;exact⟨kb,s',YJ K k kb,rfl,HFin.o.2,HE.o.2.2.2.1,HE.o.1,⟨HE.o.2.1,k,HAt.o,HE.o.2.2.2.2.2,rfl⟩,HFin.o.1⟩
def dC(sz:Nat)(L:Nat->Fr):Nat->List Int
 | 0=>[]
 | k+1=>dC sz L k ++ cU (enc (L k).F (L k).n (L k).T) sz
theorem lM(sz:Nat)(L:Nat->Fr):∀k,(dC sz L k).length=k*sz
 | 0=>by simp[dC]
 | k+1=>by rw[dC,List.length_append,lM sz L k,eQ,Nat.add_mul,Nat.one_mul]
theorem AO(sz:Nat)(L:Nat->Fr)(i:Nat):∀k,i<k->((dC sz L k).drop (i*sz)).take sz=cU (enc (L i).F (L i).n (L i).T) sz
 | 0,h=>zO
 | k+1,h=>by
  have hl:=lM sz L k;rw[dC];by_cases e:i=k
  ·subst e;rw[List.drop_append_of_le_length zO,List.drop_eq_nil_of_le zO,List.nil_append,List.take_of_length_le (by rw[eQ];omega)]
  ·have h2:i*sz+sz<=k*sz:=by
    have:(i+1)*sz<=k*sz:=Nat.mul_le_mul_right sz zO
    rwa [Nat.add_mul,Nat.one_mul]at this
   rw[List.drop_append_of_le_length zO,List.take_append_of_le_length (by rw[List.length_drop];omega)];exact AO sz L i k zO
structure ByR(w:World)(v:Value)(xs:List Int)(wr:World):Prop where
 own:OwnL .u8 5 (fun q=>q<w.heap.size) wr v xs
 old:Old w wr
theorem aEy{w:World}{g:Nat}{xs:List Int}{t:TypeId}{fr:Nat × Nat}(h:w.heap[g]?=some (.cells (xs.map (Value.int .u8)).toArray t fr)):∀(j:Nat) (u:Value),(xs.map (Value.int .u8))[j]?=some u->w.cell? ((⟨g,0,none⟩:Addr).add j)=some u:=fun j u hu=>by
 rw[add_plain,Nat.zero_add,cell_of_row _ _ _ _ _ _ h];simpa using hu
theorem aDf(k:IntKind)(xs:List Int):∀u∈xs.map (Value.int k),u.oneCell'=true:=fun u hu=>by
 obtain⟨x,_,rfl⟩:=List.mem_map.1 hu;rfl
theorem QS(b sz:Nat)(p:Option Addr)(N cap:Nat)(L:Nat->Fr)(X:Nat->Prop)(w:World)(hb:CoB w b sz)(h1:24<=sz)(h2:sz<=96)(hfr:FrsS X w p N L)(hmay:∀i,i<N->mC (L i).F (L i).n (L i).T)(hroom:∀i,i<N->pF (L i).F (L i).n<=8*(sz:Int))(hT64:∀i,i<N->aD (L i).T)(hN:N<=1048576):
  Calls zP 100 #[.pointer (some ⟨b,0,none⟩),.slice p N cap] w fun e w'=>∃v,e=rJ (.tuple #[v,vI iJ 0])/\OwnL .u8 5 (fun q=>q<w.heap.size) w' v (dC sz L N)/\Old w w':=by
 have Hs29:Hid ((zP.info? 98).map (·.size)=some 29):=zH zK;obtain⟨i0,hi,hz0,hz1,hz2⟩:=info_parts (show (zP.info? 5).map (fun i=>(i.zero,i.size,i.bytes))=some (some (.int .u8 0),1,1) by kernel_rfl);have HMd:=zH (sF b sz w hb zO);have HB:=zH hb;have HFr:=zH hfr;have HBy:Hid (∀k,k<N->∀V,Old w V->Calls zP 141 #[.agg (aA 29 (aR (L k).F (L k).s)),vI iJ sz] V fun e w'=>Old V w'/\∃g,e=rJ (.tuple #[.slice (some ⟨g,0,none⟩) sz sz,vI iJ 0])/\V.heap.size<=g/\w'.heap[g]?=some (.cells ((cU (enc (L k).F (L k).n (L k).T) sz).map (Value.int .u8)).toArray 5 (0,0))):=zH fun k hk V hV=>by
  obtain⟨pk,ck,es,a1,a2,a3,_⟩:=hfr.2 k hk;have he:gG (enc (L k).F (L k).n (L k).T) 0 sz=0:=aCp _ _ (by rw[VP (hmay k hk)];exact hroom k hk) zO;rw[es];refine(UQ _ pk _ ck _ sz V (a3.old hV) (hT64 k hk) a1 a2 (hmay k hk)).mono ?_;rintro e w' ⟨ho,⟨h0,_⟩ | ⟨_,g,rfl,hg,hh⟩⟩
  ·exact absurd he h0
  ·rw[Int.toNat_natCast]at hh;exact⟨ho,g,rfl,hg,hh⟩
 have H1F:Hid (∀k,k<N->(aA 29 (aR (L k).F (L k).s)).all (·.oneCell')=true):=zH fun k hk=>cN _ _ (hfr.2 k hk).one;have HLen:=zH (fun k=>lM sz L k);have hcell:=hb.size_cell;obtain⟨c,hc⟩:=zF (N*sz);have hc2:c<=100663296:=by rw[<-hc];exact Nat.le_trans (Nat.mul_le_mul hN h2) zO
 have hci:(N:Int)*(sz:Int)=c:=by rw[<-hc,Int.natCast_mul]
 have e1:wrap64 ((N:Int)*(sz:Int))=c:=by rw[hci];exact IntWalk.wrap64_in _ zO
 have e2:IntKind.i64.wrap ((N:Int)*(sz:Int))=c:=by rw[hci];exact IntWalk.i64_in _ zO
 obtain⟨w3,hmk,hown,hgr⟩:=run_make_own (P:=zP) w w.heap.size 34 5 i0 _ 1 underlying34 hi hz0 hz1 .i64 .i64 c (by rw[hz2];omega) (by unfold maxLen;omega) (Nat.le_refl _);have H3:Hid (ByR w (.slice (some ⟨w.heap.size,0,none⟩) 0 c) (dC sz L 0) w3):=zH ⟨⟨oH hown,fun k hk=>Nat.not_lt.2 (Nat.le_of_eq (by simpa[Value.ownBlock]using hk))⟩,Kept.grown hgr (fun _ h=>h) (fun _ h=>by cases h)⟩;have HBd:Hid (∀k,k<=N->(dC sz L k).length<=100663296):=zH fun k hk=>by
  rw[lM];exact Nat.le_trans (Nat.mul_le_mul (Nat.le_trans hk hN) h2) zO
 clear hb hfr hmay hroom hT64 hown hgr hc hci;go_enter func100,ntmps100
 go_wp2_with fail
 refine HMd.o.mono ?_;rintro e w1 ⟨rfl,rfl⟩
 go_wp2_with fail
 go_loopw [6,24] (fun v i wr=>∃k:Nat,k<=N/\i=vI iJ k/\Hid (ByR w v (dC sz L k) wr)) (fun _ i _=>N-(intOf i).toNat)
 case atStart=>exact⟨0,zO,rfl,H3⟩
 case round=>
  obtain⟨k,hk,rfl,HR⟩:=hrel;clear H3 hmk hcell e1 e2;by_cases hlt:k<N
  ·have i1:(0:Int)<=k:=zO;have i2:(k:Int)<N:=zO;obtain⟨fg,fo,rfl,_,hcf⟩:=(HFr.o.old HR.o.old).row k hlt;have HLd:=zH hcf;have H1k:=zH (H1F.o k hlt);have HBk:=zH (HBy.o k hlt);obtain⟨R,hRd⟩:∃R:Array Value,R=aA 29 (aR (L k).F (L k).s):=⟨_,rfl⟩
   have hRs:R.size=29:=by rw[hRd,aB]
   obtain⟨nb,hnb⟩:∃q,q=wr.heap.size:=⟨_,rfl⟩
   obtain⟨U,hU⟩:∃V,V=wr.alloc (.cells R 98):=⟨_,rfl⟩
   have oU:Old wr U:=by rw[hU];exact Old.alloc _ _
   have hbox:U.heap[nb]?=some (.cells R 98 (0,0)):=by rw[hU,hnb];exact heap_alloc_new _ _
   have HO:=zH (HR.o.old.trans oU);have HSS:Hid (∀V,Old U.drew V->V.heap[nb]?=some (.cells R 98 (0,0))/\V.cell? ⟨b,16,none⟩=some (vI iJ sz)):=zH fun V hV=>
    ⟨(hV.block _ (lt_of_block hbox)).trans hbox,((HB.o.old HO.o).old ((Old.drew (Old.refl _)).trans hV)).size_cell⟩
   have HUw:=zH hU;have HUb:=zH hnb;have HRd:=zH hRd;have HRs:=zH hRs;have HOw:=zH oU;rw[<-hRd]at H1k HBk;clear hcf hRd hRs hU hnb oU hbox HBy H1F
   go_wp2_with (first
    | (with_reducible refine lC rfl (aR (L k).F (L k).s) 98 _ rfl fg (fo+k*29) rfl _ HLd.o underlying98 rfl Hs29.o ?_;rw[<-HRd.o])
    | (with_reducible refine wpList_store_row rfl 98 _ _ rfl wr.heap.size R rfl rfl 98 _ (heap_alloc_new _ _) (by rw[HRs.o];exact Hs29.o) (by rw[HRs.o];kernel_rfl) H1k.o ?_;rw[World.setRow_alloc_new,<-HUw.o,<-HUb.o]))
   refine wp_region_held_drew (S:=(fun w'=>w'.heap[nb]?=some (.cells R 98 (0,0))/\w'.cell? ⟨b,16,none⟩=some (vI iJ sz))) zK ?_ (fun hHeld=>?_)
   ·(try dsimp only);exact HSS.o _ (Old.refl _)
   refine (uT 0 (v:=.agg R) rfl (aG zK 98 (.tmp 8) rfl nb rfl 98 R (0,0) _ (fun _ h=>h.1) underlying98 rfl (by rw[HRs.o];exact Hs29.o))) ?_;refine (uU 1) ((uU 2) ((uU 3) ((uU 4) ?_)));refine wpR 5 rfl (fun K hK=>?_);go_simp;refine(HBk.o _ (HO.o.trans (Old.drew (Old.refl _)))).mono ?_;rintro e V1 ⟨o1,g,rfl,hg,hh⟩;have HO1:=zH ((Old.drew (Old.refl U)).trans o1);have HO1':=zH o1;have HH:=zH hh;clear o1 hg hh HBk
   go_wp2_with fail
   refine hK.out _ _ ?_ (fun hHeld=>?_)
   ·(try dsimp only);exact HSS.o _ HO1'.o
   clear hK K;refine (uU 6) ((uU 7) ((uU 8) ((uU 9) ((uU 10) ?_))));refine wpAnyH_done zK ?_ _;have hown:=HR.o.own.old (HOw.o.trans HO1.o);have HN:Hid (∀v' w',ownX (fun q=>q<w.heap.size) w' 5 v' ((dC sz L k).length+sz) ((dC sz L k).map (Value.int .u8) ++ (cU (enc (L k).F (L k).n (L k).T) sz).map (Value.int .u8))->Kept (fun q=>q<w.heap.size) V1 w'->ByR w v' (dC sz L (k+1)) w'):=zH fun v' w' h hk=>by
    have e:(dC sz L (k+1)).length=(dC sz L k).length+sz:=by rw[dC,List.length_append,eQ]
    refine⟨?_,(HO.o.trans HO1.o).after hk fun _ h=>h⟩;unfold OwnL;rw[e,dC,List.map_append];exact h
   have HNw:=zH (aEy HH.o);have H1s:=zH (aDf .u8 (cU (enc (L k).F (L k).n (L k).T) sz));have HPl:Hid (((cU (enc (L k).F (L k).n (L k).T) sz).map (Value.int .u8)).length=sz):=zH (by rw[List.length_map,eQ]);have HBk2:=zH (HBd.o k hk);have HX:Hid (∀q,q<w.heap.size->q<V1.heap.size):=zH fun q hq=>Nat.lt_of_lt_of_le hq (HO.o.trans HO1.o).size;unfold OwnL at hown;clear HH HSS HLd HUw HUb HRd HOw HO1 HO1' HO HR;obtain⟨B2,hB2⟩:=zF (dC sz L (k+1));rw[hB2]at HN;have HB2:=zH hB2;clear hB2;generalize hP:cU (enc (L k).F (L k).n (L k).T) sz=P at *;generalize hB:dC sz L k=B at *;clear hP hB
   go_wp2_with ((at_builtin;refine fL _ rfl _ _ 34 rfl (fun q=>q<w.heap.size) 5 i0 (.int .u8 0) 1 underlying34 hi hz0 hz1 hz2 rfl _ _ _ rfl hown ⟨g,0,none⟩ sz sz (P.map (Value.int .u8)) rfl HPl.o HNw.o H1s.o (by have:=HBk2.o;unfold maxLen;omega) (by have:=HBk2.o;omega) HX.o ?_;intro v' w2 hown2 hk2 _;have hn2:=zH (HN.o v' w2 hown2 hk2);clear hown hown2 hk2 HN))
   go_roundw
   case rel=>exact⟨k+1,zO,by go_num,by rw[HB2.o];exact hn2⟩
   case measure=>(simp[intOf];try omega)
  ·obtain rfl:k=N:=zO;have HE:=zH (And.intro HR.o.own HR.o.old);clear HR HBy H1F HFr
   go_wp2_with fail
   go_ret2
   exact⟨_,rfl,HE.o.1,HE.o.2⟩
end Go.Proofs.YticpdokbiblpoaaGreatDoor
