/- Texts joined: CodeQ, CodeB, CodeC, CodeF, CodeE, CodeX, WholeQ. -/
import Derived.Deep.RegionHeld
import Derived.Test.YtgefdmfcddpaiaaGreatDoorPkAB
import Derived.Test.YtgefdmfcddpaiaaGreatDoorPkAD
import Derived.Test.YtgefdmfcddpaiaaGreatDoorPkAG
import Derived.Test.YtgefdmfcddpaiaaGreatDoorPkAH
import Derived.Test.YtgefdmfcddpaiaaGreatDoorPkAI
import Derived.Test.YtgefdmfcddpaiaaGreatDoorPkAZ
import Derived.Test.YtgefdmfcddpaiaaGreatDoorPkBA
import Derived.Test.YtgefdmfcddpaiaaGreatDoorTk
namespace Go.Proofs.YtgefdmfcddpaiaaGreatDoor
set_option linter.unusedVariables false
set_option maxRecDepth 100000
open Go.RowKit
theorem most_ok(p t:Int)(h0:0<=p)(h1:p<=t):p*2 ^ (mostI p t).toNat<=t:=by
 unfold mostI
 split
 ·rw [show (0:Int).toNat=0 from rfl,show (2:Int) ^ 0=1 from rfl];omega
 ·split
  ·rw [show (1:Int).toNat=1 from rfl,show (2:Int) ^ 1=2 from rfl];omega
  ·split
   ·rw [show (2:Int).toNat=2 from rfl,show (2:Int) ^ 2=4 from rfl];omega
   ·rw [show (3:Int).toNat=3 from rfl,show (2:Int) ^ 3=8 from rfl];omega
theorem pow3(s:Int)(h0:0<=s)(h3:s<=3):1<=(2:Int) ^ s.toNat/\(2:Int) ^ s.toNat<=8:=by
 rcases(by omega:s=0\/s=1\/s=2\/s=3) with rfl | rfl | rfl | rfl <;> decide
theorem absI_mid(v M:Int)(h1:-M<=v)(h2:v<=M)(hM:M<=1048576):absI v<=M/\-(absI v)<=v/\v<=absI v:=by
 unfold absI
 rw [if_neg (by omega)]
 split <;> omega
theorem part_mem(f:Nat->Int)(a n k:Nat)(hk:k<n):f (a+k)∈part f a n:=mem_part.2 ⟨k,hk,rfl⟩
theorem peak_bd(f:Nat->Int)(M:Int)(h:∀k,k<16->-M<=f k/\f k<=M)(h0:0<=M)(hM:M<=1048576)(k:Nat)(hk:k<16):
  -(peakL (part f (4*(k/4)) 4))<=f k/\f k<=peakL (part f (4*(k/4)) 4)/\peakL (part f (4*(k/4)) 4)<=peakL (part f 0 16)/\peakL (part f 0 16)<=M/\0<=peakL (part f (4*(k/4)) 4):=by
 have a1:=(peakL_le (part f (4*(k/4)) 4) (peakL (part f (4*(k/4)) 4))).1 (Int.le_refl _)
 have a2:=a1.2 (f k) (by have:=part_mem f (4*(k/4)) 4 (k%4) (by omega);rwa [show 4*(k/4)+k%4=k by omega] at this)
 obtain⟨b1,b2,b3⟩:=absI_mid (f k) M (h k hk).1 (h k hk).2 hM
 have a3:peakL (part f 0 16)<=M:=(peakL_le _ _).2 ⟨h0,fun x hx=>by
  obtain⟨j,hj,rfl⟩:=mem_part.1 hx
  rw [Nat.zero_add]
  exact(absI_mid _ M (h j hj).1 (h j hj).2 hM).1⟩
 have c1:=(peakL_le (part f 0 16) (peakL (part f 0 16))).1 (Int.le_refl _)
 have a4:peakL (part f (4*(k/4)) 4)<=peakL (part f 0 16):=(peakL_le _ _).2 ⟨c1.1,fun x hx=>by
  obtain⟨j,hj,rfl⟩:=mem_part.1 hx
  exact c1.2 _ (by have:=part_mem f 0 16 (4*(k/4)+j) (by omega);rwa [Nat.zero_add] at this)⟩
 exact⟨by omega,by omega,a4,a3,a1.1⟩
theorem atI_yes{g:Nat->Int}(h:rightP g)(k:Nat)(hk:k<16):atI g k=g (k/4):=by
 unfold atI
 rw [if_pos ⟨by omega,by omega,h⟩,show ((k:Int)/4).toNat=k/4 by omega]
theorem up_bd(f g:Nat->Int)(M:Int)(h:∀k,k<16->-M<=f k/\f k<=M)(h0:0<=M)(hM:M<=1048576)(hg:(∀k,k<4->g k=gainOf f k)\/∀k,k<4->g k=0)(k:Nat)(hk:k<16):-M<=upB f g k/\upB f g k<=M:=by
 have hr:rightP g:=fun k hk=>by
  rcases hg with hg | hg
  ·rw [hg k hk];exact mostI_bd _ _
  ·rw [hg k hk];omega
 unfold upB upI
 rw [atI_yes hr k hk]
 rcases hg with hg | hg
 ·rw [hg _ (by omega)]
  obtain⟨a1,a2,a3,a4,a5⟩:=peak_bd f M h h0 hM k hk
  have m1:=most_ok _ _ a5 a3
  have mb:=mostI_bd (peakL (part f (4*(k/4)) 4)) (peakL (part f 0 16))
  show -M<=wrap64 (f k*2 ^ (mostI (peakL (part f (4*(k/4)) 4)) (peakL (part f 0 16))).toNat)/\wrap64 (f k*2 ^ (mostI (peakL (part f (4*(k/4)) 4)) (peakL (part f 0 16))).toNat)<=M
  have pb:=pow3 _ mb.1 mb.2
  generalize (2:Int) ^ (mostI (peakL (part f (4*(k/4)) 4)) (peakL (part f 0 16))).toNat=c at *
  generalize peakL (part f (4*(k/4)) 4)=p at *
  generalize peakL (part f 0 16)=t at *
  generalize f k=x at *
  have e1:x*c<=p*c:=Int.mul_le_mul_of_nonneg_right a2 (by omega)
  have e2:-p*c<=x*c:=Int.mul_le_mul_of_nonneg_right a1 (by omega)
  rw [Int.neg_mul] at e2
  rw [IntWalk.wrap64_in _ (by omega)]
  omega
 ·rw [hg _ (by omega),show (0:Int).toNat=0 from rfl,show (2:Int) ^ 0=1 from rfl,Int.mul_one,IntWalk.wrap64_in _ (by have:=h k hk;omega)]
  exact h k hk
def gnC(ex:Bool)(F:Nat->Int):Nat->Int:=fun q=>if ex then 0 else gainOf (rowAt F (q/4)) (q%4)
theorem gnC_at(ex:Bool)(F:Nat->Int)(b k:Nat)(hk:k<4):gnC ex F (b*4+k)=if ex then 0 else gainOf (rowAt F b) k:=by
 unfold gnC
 rw [show (b*4+k)/4=b by omega,show (b*4+k)%4=k by omega]
def gnR(ex:Bool)(F:Nat->Int)(b:Nat):Nat->Int:=fun k=>gnC ex F (b*4+k)
theorem gnR_right(ex:Bool)(F:Nat->Int)(b:Nat):rightP (gnR ex F b):=fun k hk=>by
 show 0<=gnC ex F (b*4+k)/\gnC ex F (b*4+k)<=3
 rw [gnC_at ex F b k hk]
 split
 ·omega
 ·exact mostI_bd _ _
def spC(ex:Bool)(N:Nat)(F:Nat->Int):Nat->Int:=spectraF N (gnC ex F) N F
theorem loud_bd{F:Nat->Int}{M:Int}(h:∀q,-M<=F q/\F q<=M)(h0:0<=M)(hM:M<=1048576)(ex:Bool)(N q:Nat):-M<=mapTo N (louder (gnC ex F) N) F q/\mapTo N (louder (gnC ex F) N) F q<=M:=by
 unfold mapTo
 split
 ·obtain⟨b,r,rfl,hr,_,_⟩:=split16 q
  rw [mapB_at _ _ _ _ hr]
  refine up_bd _ _ M (fun k _=>h _) h0 hM ?_ r hr
  have hb:b<N:=by omega
  unfold gainsAt
  rw [if_pos hb]
  cases ex with
  | false=>exact .inl fun k hk=>by rw [gnC_at _ _ _ _ hk];rfl
  | true=>exact .inr fun k hk=>by rw [gnC_at _ _ _ _ hk];rfl
 ·exact h q
theorem met_bd{A:Nat->Int}{M:Int}(h:∀q,-M<=A q/\A q<=M)(h0:0<=M)(hM:M<=1048576)(N q:Nat):-(3*M+4)<=meetTo turnWA turnWB N A q/\meetTo turnWA turnWB N A q<=3*M+4:=by
 have key:∀(i j k:Nat),k<8->(-(3*M+4)<=turnWA (A i) (A j) (turnP k) (turnU k)/\turnWA (A i) (A j) (turnP k) (turnU k)<=3*M+4)/\-(3*M+4)<=turnWB (A i) (A j) (turnP k) (turnU k)/\turnWB (A i) (A j) (turnP k) (turnU k)<=3*M+4:=by
  intro i j k hk
  obtain⟨p0,p1,u0,u1⟩:=turn_bds k hk
  have e:=turnW_eq (A i) (A j) (turnP k) (turnU k) M (h i).1 (h i).2 (h j).1 (h j).2 p0 (by omega) u0 u1 (by omega)
  have n:=turn_near (A i) (A j) (turnP k) (turnU k) M (h i).1 (h i).2 (h j).1 (h j).2 p0 p1 u0 u1
  rw [e.1,e.2]
  exact⟨⟨by omega,by omega⟩,by omega,by omega⟩
 unfold meetTo
 have:=h q
 split
 ·split
  ·exact(key _ _ _ (by omega)).1
  ·omega
 ·split
  ·exact(key _ _ _ (by omega)).2
  ·omega
theorem spectra_small{F:Nat->Int}(h:∀q,-32768<=F q/\F q<=32768)(ex:Bool)(N b:Nat)(hb:b<N):smallP (rowAt (spC ex N F) b):=fun k hk=>by
 have e:rowAt (spC ex N F) b k=fwdN 4 (rowAt (metF N (gnC ex F) N F) b) k:=by
  show mapTo N forth (metF N (gnC ex F) N F) (b*16+k)=_
  rw [mapTo_end _ _ _ _ (by omega),mapB_at _ _ _ _ hk]
  rfl
 rw [e]
 have hA:=loud_bd (M:=32768) (fun q=>h q) (by omega) (by omega) ex N
 have hB:=met_bd hA (by omega) (by omega) N
 have:=fwd_near (M:=3*32768+4) (by omega) (by omega) (f:=rowAt (metF N (gnC ex F) N F) b) (fun k=>hB _) k
 omega
def FitR(f g:Nat->Int)(size:Int)(x:Fr):Prop:=
 (55<=size/\x.F=tolN zeroS zeroS f/\x.n=0/\x.T=fun _=>0) \/
 (size<55/\∃m,StopAt (restF2 f true) (tnN f true) (8*size) m/\x.F=tolN g (sclN (restF2 f true) m) (restF2 f true)/\x.n=tnN f true/\x.T=toneF f)
theorem fitR_same{f g:Nat->Int}{size:Int}{x y:Fr}(h:FitR f g size x)(k:FitR f g size y):sameP x.F x.n x.T y.F y.n y.T:=by
 rcases h with ⟨h1,h2,h3,h4⟩ | ⟨h1,m,h2,h3,h4,h5⟩
 ·rcases k with ⟨k1,k2,k3,k4⟩ | ⟨k1,_⟩
  ·rw [h2,h3,h4,k2,k3,k4];exact⟨rfl,fun _ _=>rfl,fun _ _ _=>rfl⟩
  ·omega
 ·rcases k with ⟨k1,_⟩ | ⟨k1,m',k2,k3,k4,k5⟩
  ·omega
  ·rw [h3,h4,h5,k3,k4,k5,h2.one k2];exact⟨rfl,fun _ _=>rfl,fun _ _ _=>rfl⟩
theorem tnN_le2(f:Nat->Int):tnN f true<=(findL f).length:=Nat.le_refl _
theorem fitR_may{f g:Nat->Int}{size:Int}{x:Fr}(h:FitR f g size x)(hf:smallP f)(hg:rightP g)(hn:x.n<=2):FrP x.F x.n x.T:=by
 rcases h with ⟨h1,h2,h3,h4⟩ | ⟨h1,m,h2,h3,h4,h5⟩
 ·rw [h2,h3];exact exact_may gain_zero hf _
 ·rw [h4] at hn
  rw [h3,h4,h5]
  exact tol_may hg (scl_inv _ _ _ _ h2.no).1 (rest_small hf true) hn (tones_may hf _ (tnN_le2 f))
theorem fitR_fits{f g:Nat->Int}{size:Int}{x:Fr}(h:FitR f g size x)(hf:Fits64 f):Fits64 x.T:=by
 rcases h with ⟨_,_,_,h4⟩ | ⟨_,_,_,_,_,h5⟩
 ·rw [h4];exact fun _=>by dsimp only;omega
 ·rw [h5];exact tone_fits hf
theorem cost_tol(g s X:Nat->Int)(t:Nat):costI (tolN g s X) t=52+28*t+4*sumTo (wideF (toldR stepI X s)) 4:=by
 have e:∀k,k<4->tolN g s X (9+k)=wideF (toldR stepI X s) k:=fun k hk=>frN_u _ _ _ _ k hk
 have e2:sumTo (fun k=>tolN g s X (9+k)) 4=sumTo (wideF (toldR stepI X s)) 4:=by
  unfold sumTo sumTo sumTo sumTo sumTo
  rw [e 0 (by omega),e 1 (by omega),e 2 (by omega),e 3 (by omega)]
 unfold costI
 rw [e2]
theorem fitR_room{f g:Nat->Int}{size:Int}{x:Fr}(h:FitR f g size x)(hf:smallP f)(hn:x.n<=2)(h24:24<=size):costI x.F x.n<=8*size:=by
 rcases h with ⟨h1,h2,h3,h4⟩ | ⟨h1,m,h2,h3,h4,h5⟩
 ·rw [h2,h3,cost_tol]
  have w:=fun k=>(wide_small (s:=zeroS) hf k).2
  have w0:=w 0;have w1:=w 1;have w2:=w 2;have w3:=w 3
  unfold sumTo sumTo sumTo sumTo sumTo
  omega
 ·rw [h3,h4,cost_tol]
  rw [h4] at hn
  have:=stop_room h2 (rest_small hf true) hn (by omega)
  unfold costN at this
  exact this
theorem fitR_exact{f g:Nat->Int}{size:Int}{x:Fr}(h:FitR f g size x)(h55:55<=size)(hf:smallP f)(k:Nat)(hk:k<16):specF x.F x.n x.T k=f k:=by
 rcases h with ⟨h1,h2,h3,h4⟩ | ⟨h1,_⟩
 ·rw [h2,h3];exact spec_exact hf _ k hk
 ·omega
open Go.ChangeShapes Go.WideShapes
theorem Tryz.cinfo_int:(Tryz.prog.info? 3).map (fun i=>(i.zero,i.size,i.bytes))=some (some (.int .i64 0),1,8):=by kernel_rfl
theorem make_sints(n:Nat)(hn:n<=1099511627776)(w:World):(Instr.makeSlice 23 (.int .i64 n) (.int .i64 n)).run Tryz.prog w = .ok (.slice (some ⟨w.heap.size,0,none⟩) n n) (w.alloc (.cells (rowN n (blk fun _=>0)) 3)):=by
 obtain⟨i,hi,hz0,hz1,hz2⟩:=info_parts Tryz.cinfo_int
 rw [run_make w _ _ i _ Tryz.underlying23 hi hz0 .i64 .i64 n n (by omega) (by omega) (by rw [hz2];omega) (by omega),hz1,Int.toNat_natCast,Nat.mul_one,zero1 n]
theorem Tryz.info_gains:(Tryz.prog.info? 44).map (fun i=>(i.zero,i.size,i.bytes))=some (some (.agg #[.int .i64 0,.int .i64 0,.int .i64 0,.int .i64 0]),4,32):=by kernel_rfl
theorem zero4(n:Nat):madeCells (Value.agg #[.int .i64 0,.int .i64 0,.int .i64 0,.int .i64 0]:Value).cells n=rowN n (blk fun _=>0):=
 made_rowN n _ (by decide) (by
  intro j hj
  have:j<4:=hj
  rcases(by omega:j=0\/j=1\/j=2\/j=3) with rfl | rfl | rfl | rfl <;> rfl)
theorem make_gains(n:Nat)(hn:n<=1099511627776)(w:World):(Instr.makeSlice 184 (.int .i64 n) (.int .i64 n)).run Tryz.prog w = .ok (.slice (some ⟨w.heap.size,0,none⟩) n n) (w.alloc (.cells (rowN (n*4) (blk fun _=>0)) 44)):=by
 obtain⟨i,hi,hz0,hz1,hz2⟩:=info_parts Tryz.info_gains
 rw [run_make w _ _ i _ Tryz.underlying184 hi hz0 .i64 .i64 n n (by omega) (by omega) (by rw [hz2];omega) (by omega),hz1,Int.toNat_natCast,zero4 (n*4)]
theorem cells_SlI{w:World}{g n cap:Nat}{F:Nat->Int}{xs:List Int}(h:CellsAt w g n F)(hl:xs.length=n)(hx:∀j,j<n->F j=xs.getD j 0)(hc:n<=cap)(hm:cap<=maxLen):SlI w .i64 (.slice (some ⟨g,0,none⟩) n cap) xs:=by
 subst hl
 refine⟨_,cap,rfl,fun _=>⟨g,0,rfl,h.lt,hc,hm,fun i hi=>?_⟩⟩
 rw [Nat.zero_add,h.cell i hi,hx i hi]
def firstK(k:Nat)(F:Nat->Int):Nat->Int:=fun j=>if j<k then F j else 0
theorem firstK_step(k:Nat)(F:Nat->Int):(fun j=>if j=k then F k else firstK k F j)=firstK (k+1) F:=by
 funext j
 unfold firstK
 by_cases h:j=k
 ·subst h;rw [if_pos rfl,if_pos (by omega)]
 ·rw [if_neg h]
  by_cases h2:j<k
  ·rw [if_pos h2,if_pos (by omega)]
  ·rw [if_neg h2,if_neg (by omega)]
structure WdR(w:World)(n:Nat)(F:Nat->Int)(wr:World):Prop where
 at_:CellsAt wr w.heap.size n F
 old:Old w wr
set_option maxHeartbeats 1000000 in
theorem cwide_any(p:Option Addr)(n cap:Nat)(xs:List Int)(w:World)(hs:SlI w .i64 (.slice p n cap) xs)(hn:n<=1048576):
  Calls Tryz.prog 150 #[.slice p n cap] w fun e w'=>e = .returned (.slice (some ⟨w.heap.size,0,none⟩) n n)/\SlI w' .i64 (.slice (some ⟨w.heap.size,0,none⟩) n n) xs/\Old w w':=by
 have hl:xs.length=n:=by obtain⟨_,_,h,_⟩:=hs;simp only [Value.slice.injEq] at h;exact h.2.1.symm
 have HS:=zH hs.slF
 have HL:=zH hl
 have hM:=make_sints n (by omega) w
 have hM:=make_ints n (by omega) w
 have H0:Hid (WdR w n (firstK 0 fun j=>xs.getD j 0) (w.alloc (.cells (rowN n (blk fun _=>0)) 2))):=⟨(cellsAt_new w _ _ _).ext fun j _=>by unfold firstK;rw [if_neg (by omega)],Old.alloc _ _⟩
 have n1:(n:Int)<=1048576:=by omega
 clear hs hl
 go_enter Tryz.func150,Tryz.ntmps150
 go_wp2
 go_loopw [11] (fun i wr=>∃k:Nat,k<=n/\i = .int .i64 k/\Hid (WdR w n (firstK k fun j=>xs.getD j 0) wr)) (fun i _=>n-(intOf i).toNat)
 case atStart=>exact⟨0,by omega,rfl,H0⟩
 case round=>
  obtain⟨k,hk,rfl,HR⟩:=hrel
  clear H0 hM
  by_cases hlt:k<n
  ·obtain⟨b,off,rfl,hb,hc⟩:=HS.out (by omega)
   have hcell:=(HR.out.old.cell (a:=⟨b,off+k,none⟩) hb).trans (hc k (by omega))
   dsimp only at hcell
   have i1:(0:Int)<=k:=by omega
   have i2:(k:Int)<n:=by omega
   have hold:=HR.out.at_.cell k hlt
   have hfr:=HR.out.at_.frz k hlt
   obtain⟨x,hx⟩:∃x,xs.getD k 0=x:=⟨_,rfl⟩
   have NX:Hid (WdR w n (firstK (k+1) fun j=>xs.getD j 0) (wr.setCell ⟨w.heap.size,k,none⟩ (.int .i64 x))):=by
    refine⟨(HR.out.at_.set k hlt x).ext fun j _=>?_,HR.out.old.after (Kept.setCell (X:=fun q=>q<w.heap.size) _ (a:=⟨w.heap.size,k,none⟩) (by show ¬w.heap.size<w.heap.size;omega) _) fun _ h=>h⟩
    rw [←hx]
    exact congrFun (firstK_step k fun j=>xs.getD j 0) j
   rw [hx] at hcell
   clear hx hc HS HR
   go_wp2
   go_roundw
   case rel=>exact⟨k+1,by omega,by go_num,NX⟩
   case measure=>simp [intOf];omega
  ·obtain rfl:k=n:=by omega
   have HE:Hid (SlI wr .i64 (.slice (some ⟨w.heap.size,0,none⟩) k k) xs/\Old w wr):=⟨cells_SlI HR.out.at_ HL.out (fun j hj=>by unfold firstK;rw [if_pos hj]) (Nat.le_refl _) (by unfold maxLen;omega),HR.out.old⟩
   clear HR HS HL
   go_wp2
   go_ret
   exact⟨rfl,HE.out.1,HE.out.2⟩
def gnTo(k:Nat)(F:Nat->Int):Nat->Int:=fun q=>if q/4<k then gainOf (rowAt F (q/4)) (q%4) else 0
theorem gnTo_step(k:Nat)(F:Nat->Int):patch (gnTo k F) (k*4) 4 (gainOf (rowAt F k))=gnTo (k+1) F:=by
 funext q
 unfold patch gnTo
 by_cases h:k*4<=q/\q<k*4+4
 ·rw [if_pos h,if_pos (by omega),show q/4=k by omega,show q-k*4=q%4 by omega]
 ·rw [if_neg h]
  by_cases h2:q/4<k
  ·rw [if_pos h2,if_pos (by omega)]
  ·rw [if_neg h2,if_neg (by omega)]
structure GnR(w:World)(gb bb N:Nat)(F G:Nat->Int)(wr:World):Prop where
 g:CellsAt wr gb (N*4) G
 b:CellsAt wr bb (N*16) F
 ne:bb≠gb
 ng:w.heap.size<=gb
 old:Old w wr
namespace GnR
variable {w wr w':World} {gb bb N:Nat} {F G:Nat->Int}
theorem keep(h:GnR w gb bb N F G wr)(k:Old wr w'):GnR w gb bb N F G w':=⟨h.g.old k,h.b.old k,h.ne,h.ng,h.old.trans k⟩
theorem store(h:GnR w gb bb N F G wr)(k:Nat)(hk:k<N)(f:Nat->Int):GnR w gb bb N F (patch G (k*4) 4 f) (wr.setCells gb (k*4) (rowL 4 f)):=
 ⟨h.g.setCells (k*4) 4 (by omega) f,h.b.setCellsOther h.ne.symm _ _,h.ne,h.ng,h.old.after (Kept.setCells (X:=fun q=>q<w.heap.size) _ (fun e=>by have:=h.ng;omega) _ _) fun _ h=>h⟩
end GnR
set_option maxHeartbeats 2000000 in
theorem CGains_any(b:Nat)(size:Int)(p:Option Addr)(n cap:Nat)(xs:List Int)(w:World)(hb:CoB w b size)(h1:24<=size)(hs:SlI w .i64 (.slice p n cap) xs)(hx:∀x∈xs,In64 x)(hn:n<=17179869184):
  Calls Tryz.prog 151 #[.pointer (some ⟨b,0,none⟩),.slice p n cap] w fun e w'=>∃g,e = .returned (.slice (some ⟨g,0,none⟩) (cnt n) (cnt n))/\CellsAt w' g (cnt n*4) (gnC (decide (55<=size)) (fun j=>xs.getD j 0))/\w.heap.size<=g/\Old w w':=by
 have Hs16:=zH Tryz.block_size
 have Hs4:Hid ((Tryz.prog.info? 44).map (·.size)=some 4):=zH (by kernel_rfl)
 have HMd:=zH (isMade_any b size w hb h1)
 have hcount:=Count_any n w (by omega) (by omega)
 rw [countI_cnt] at hcount
 have hN2:cnt n<=17179869184:=by unfold cnt;omega
 have hM:=make_gains (cnt n) (by omega) w
 obtain⟨W1,hW1⟩:∃W1,W1=w.alloc (.cells (rowN (cnt n*4) (blk fun _=>0)) 44):=⟨_,rfl⟩
 have hO1:Old w W1:=by rw [hW1];exact Old.alloc _ _
 have hG1:CellsAt W1 w.heap.size (cnt n*4) (fun _=>0):=by rw [hW1];exact cellsAt_new w _ _ _
 have hE:=CExact_any b size W1 (hb.old hO1)
 have hB:=Blocks_any p n cap xs W1 (hs.old hO1) (by omega)
 obtain⟨F,hF⟩:∃F:Nat->Int,F=fun j=>xs.getD j 0:=⟨_,rfl⟩
 have hF64:Fits64 F:=fun j=>by rw [hF];exact getD_in hx j
 rw [←hF] at hB ⊢
 obtain⟨N,hN⟩:∃N,N=cnt n:=⟨_,rfl⟩
 rw [←hN] at hB hM hcount hG1 hN2 hW1 ⊢
 have HC:=zH hcount
 have HB:=zH hB
 have HE:=zH hE
 have HO1:=zH hO1
 have HG1:=zH hG1
 have HOf:=zH (fun(k:Nat) (V:World)=>Of_any (rowAt F k) (fun j=>hF64 _) V)
 have HW1:=zH hW1
 clear hb hs hx hcount hB hE hO1 hG1 hF hF64 hN hW1
 rw [←HW1.out] at hM
 by_cases h55:55<=size
 ·rw [decide_eq_true h55] at HE ⊢
  have HR:Hid (CellsAt W1 w.heap.size (N*4) (gnC true F)):=HG1.out.ext fun j _=>rfl
  clear HG1 HB HOf
  go_enter Tryz.func151,Tryz.ntmps151
  go_wp2_with fail
  refine HMd.out.mono ?_
  rintro e w1 ⟨rfl,rfl⟩
  go_wp2_with fail
  refine HC.out.mono ?_
  rintro e w1 ⟨rfl,rfl⟩
  go_wp2_with fail
  refine HE.out.mono ?_
  rintro e w1 ⟨rfl,rfl⟩
  go_wp2_with fail
  go_ret
  exact⟨_,rfl,HR.out,Nat.le_refl _,HO1.out⟩
 ·rw [decide_eq_false h55] at HE ⊢
  go_enter Tryz.func151,Tryz.ntmps151
  go_wp2_with fail
  refine HMd.out.mono ?_
  rintro e w1 ⟨rfl,rfl⟩
  go_wp2_with fail
  refine HC.out.mono ?_
  rintro e w1 ⟨rfl,rfl⟩
  go_wp2_with fail
  refine HE.out.mono ?_
  rintro e w1 ⟨rfl,rfl⟩
  go_wp2_with fail
  refine HB.out.mono ?_
  rintro e w2 ⟨rfl,hc2,ho2⟩
  obtain⟨bb,hbb⟩:∃q,q=W1.heap.size:=⟨_,rfl⟩
  rw [←hbb] at hc2 ⊢
  have H2:Hid (GnR w w.heap.size bb N F (gnTo 0 F) w2):=by
   have h:=HG1.out.old ho2
   refine⟨h.ext fun j _=>by unfold gnTo;rw [if_neg (by omega)],hc2,?_,by omega,HO1.out.trans ho2⟩
   have:=HG1.out.lt
   omega
  clear hc2 ho2 hbb HG1 HB HE HC HMd HO1 HW1 hM
  go_wp2_with fail
  go_loopw [21] (fun i wr=>∃k:Nat,k<=N/\i = .int .i64 k/\Hid (GnR w w.heap.size bb N F (gnTo k F) wr)) (fun i _=>N-(intOf i).toNat)
  case atStart=>exact⟨0,by omega,rfl,H2⟩
  case round=>
   obtain⟨k,hk,rfl,HR⟩:=hrel
   clear H2
   by_cases hlt:k<N
   ·have i1:(0:Int)<=k:=by omega
    have i2:(k:Int)<N:=by omega
    have HLd:Hid (∀j,j<16->wr.cell? ⟨bb,k*16+j,none⟩=some (.int .i64 (rowAt F k j))):=fun j hj=>HR.out.b.cell (k*16+j) (by omega)
    have H1:Hid ((rowN 16 (blk (rowAt F k))).all (·.oneCell')=true):=zH (blk_one _ _)
    have HK:=zH (HR.out.keep (Old.alloc wr (.cells (rowN 16 (blk (rowAt F k))) 43)))
    have HO:=zH (HOf.out k)
    clear HR HOf
    go_wp2_with (first
     | (with_reducible refine wpList_load_blk rfl 16 (rowAt F k) 43 _ rfl bb (k*16) rfl _ HLd.out Tryz.underlying43 rfl Hs16.out ?_)
     | (with_reducible refine wpList_store_row rfl 43 _ _ rfl wr.heap.size (rowN 16 (blk (rowAt F k))) rfl rfl 43 _ (heap_alloc_new _ _) (by rw [rowN_size];exact Hs16.out) (by rw [rowN_size];kernel_rfl) H1.out ?_;rw [World.setRow_alloc_new])
     | (with_reducible refine wpList_load_row rfl 43 _ rfl wr.heap.size rfl 43 (rowN 16 (blk (rowAt F k))) (0,0) _ (heap_alloc_new _ _) Tryz.underlying43 rfl (by rw [rowN_size];exact Hs16.out) ?_))
    refine(HO.out _).mono ?_
    rintro e w3 ⟨rfl,o3⟩
    have hk3:=HK.out.keep o3
    have HT:=zH (hk3.g.there (k*4) 4 (by omega))
    have NX:Hid (GnR w w.heap.size bb N F (gnTo (k+1) F) (w3.setCells w.heap.size (k*4) (rowL 4 (gainOf (rowAt F k))))):=by
     have h:=hk3.store k hlt (gainOf (rowAt F k))
     rwa [gnTo_step] at h
    clear HK HO HLd H1 o3 hk3
    go_wp2_with (with_reducible refine wpList_store_blk rfl 4 (gainOf (rowAt F k)) 44 _ _ rfl w.heap.size (k*4) rfl rfl HT.out Hs4.out ?_)
    go_roundw
    case rel=>exact⟨k+1,by omega,by go_num,NX⟩
    case measure=>(simp [intOf];try omega)
   ·obtain rfl:k=N:=by omega
    have HE:Hid (CellsAt wr w.heap.size (k*4) (gnC false F)/\w.heap.size<=w.heap.size/\Old w wr):=⟨HR.out.g.ext fun j hj=>by unfold gnTo gnC;rw [if_pos (by omega)];rfl,HR.out.ng,HR.out.old⟩
    clear HR HOf
    go_wp2_with fail
    go_ret
    exact⟨_,rfl,HE.out.1,HE.out.2.1,HE.out.2.2⟩
theorem Fit_any(f g:Nat->Int)(size:Int)(w:World)(hf:Fits64 f)(h1:24<=size)(h2:size<=96)(hs:smallP f)(hg:rightP g):
  Calls Tryz.prog 153 #[.agg (rowN 16 (blk f)),.agg (rowN 4 (blk g)),.int .i64 size] w fun e w'=>∃x:Fr,e = .returned (.tuple #[.agg (rowN 29 (frC x.F x.s)),.int .i64 0])/\FitR f g size x/\x.n<=2/\ToV (fun k=>k<w.heap.size) w' x/\Old w w':=by
 by_cases h:55<=size
 ·refine(frame_exact f g size w hf ⟨h,h2⟩ ⟨hs,hg⟩).mono ?_
  rintro e w' ⟨rfl,ho⟩
  exact⟨⟨tolN zeroS zeroS f,.slice none 0 0,0,fun _=>0⟩,rfl,.inl ⟨h,rfl,rfl,rfl⟩,Nat.zero_le _,ToV.none _ _ _ _,ho⟩
 ·refine(frame_search2 f g size w hf ⟨h1,by omega⟩ ⟨hs,hg⟩).mono ?_
  rintro e w' ⟨n,p,cap,rfl,hst,t2,tc,cm,hsl,hfr,ho⟩
  exact⟨⟨tolN g (sclN (restF2 f true) n) (restF2 f true),.slice p (tnN f true) cap,tnN f true,toneF f⟩,rfl,.inr ⟨by omega,n,hst,rfl,rfl,rfl⟩,t2,⟨p,cap,rfl,tc,cm,hsl,fun hn a ha hlt=>by have:=hfr hn a ha;omega⟩,ho⟩
set_option linter.unusedSimpArgs false
theorem Tryz.info_frame:(Tryz.prog.info? 113).map (fun i=>(i.zero,i.size,i.bytes))=some (some (.agg #[.int .i64 0,.int .i64 0,.int .i64 0,.int .i64 0,.slice none 0 0,.int .i64 0,.int .i64 0,.int .i64 0,.int .i64 0,.int .i64 0,.int .i64 0,.int .i64 0,.int .i64 0,.int .i64 0,.int .i64 0,.int .i64 0,.int .i64 0,.int .i64 0,.int .i64 0,.int .i64 0,.int .i64 0,.int .i64 0,.int .i64 0,.int .i64 0,.int .i64 0,.int .i64 0,.int .i64 0,.int .i64 0,.int .i64 0]),29,248):=by kernel_rfl
theorem make_frames(n:Nat)(hn:n<=17179869184)(w:World):(Instr.makeSlice 110 (.int .i64 n) (.int .i64 n)).run Tryz.prog w = .ok (.slice (some ⟨w.heap.size,0,none⟩) n n) (w.alloc (.cells (rowN (29*n) (frsC fun _=>zeroFr)) 113)):=by
 obtain⟨i,hi,hz0,hz1,hz2⟩:=info_parts Tryz.info_frame
 rw [run_make w _ _ i _ Tryz.underlying110 hi hz0 .i64 .i64 n n (by omega) (by omega) (by rw [hz2];omega) (by omega),hz1,Int.toNat_natCast,Nat.mul_comm n 29,←frs_made,frC_zero]
 rfl
theorem ToV.put{w w':World}{g:Nat}{X:Nat->Prop}{x:Fr}(h:ToV X w x)(k:ToV (fun k=>k=g) w x)(o:Kept (fun q=>q≠g) w w'):ToV X w' x:=by
 obtain⟨p,cap,h1,h2,h3,h4,h5⟩:=k.kept o (fun q _ hq=>hq)
 obtain⟨p',cap',e1,_,_,_,e5⟩:=h
 rw [h1] at e1
 simp only [Value.slice.injEq] at e1
 obtain⟨rfl,_,_⟩:=e1
 exact⟨p,cap,h1,h2,h3,h4,e5⟩
structure FmR(w:World)(b:Nat)(size:Int)(gg:Nat)(pt:Option Addr)(fb N:Nat)(G S:Nat->Int)(L:Nat->Fr)(wr:World):Prop where
 co:CoB wr b size
 gn:CellsAt wr gg (N*4) G
 sp:OwnR 16 (fun q=>q=fb) wr pt N S
 fr:FrsO (fun q=>q<w.heap.size) wr fb N L
 neb:b≠fb
 neg:gg≠fb
 old:Old w wr
 tw:∀i,i<N->ToV (fun q=>q<w.heap.size) wr (L i)
namespace FmR
variable {w wr w':World} {b:Nat} {size:Int} {gg:Nat} {pt:Option Addr} {fb N:Nat} {G S:Nat->Int} {L:Nat->Fr}
theorem keep(h:FmR w b size gg pt fb N G S L wr)(k:Old wr w'):FmR w b size gg pt fb N G S L w':=
 ⟨h.co.old k,h.gn.old k,h.sp.old k,h.fr.old k,h.neb,h.neg,h.old.trans k,fun i hi=>(h.tw i hi).old k⟩
theorem store(h:FmR w b size gg pt fb N G S L wr)(k:Nat)(hk:k<N)(x:Fr)(hx:ToV (fun k=>k=fb) wr x)(hw:ToV (fun q=>q<w.heap.size) wr x):FmR w b size gg pt fb N G S (updF L k x) (wr.setCells fb (k*29) (rowN 29 (frC x.F x.s)).toList):=by
 refine⟨(setCells_heap_other _ _ _ _ _ h.neb).trans h.co,h.gn.setCellsOther h.neg.symm _ _,fun hn=>?_,h.fr.store k hk x hx,h.neb,h.neg,h.old.after (Kept.setCells (X:=fun q=>q<w.heap.size) _ h.fr.out _ _) fun _ h=>h,fun i hi=>?_⟩
 ·obtain⟨g,e1,e2,e3⟩:=h.sp hn
  exact⟨g,e1,e2,e3.setCellsOther (fun e=>e2 e.symm) _ _⟩
 ·have hK:=Kept.setCells (X:=fun q=>q≠fb) wr (b:=fb) (fun e=>e rfl) (k*29) (rowN 29 (frC x.F x.s)).toList
  by_cases e:i=k
  ·subst e;rw [updF_same];exact hw.put hx hK
  ·rw [updF_other _ _ _ e];exact(h.tw i hi).put (h.fr.tn i hi) hK
end FmR
def FmG(size:Int)(ex:Bool)(F S:Nat->Int)(k:Nat)(L:Nat->Fr):Prop:=∀i,i<k->FitR (rowAt S i) (gnR ex F i) size (L i)/\(L i).n<=2
def FmN(w:World)(b:Nat)(size:Int)(gg:Nat)(pt:Option Addr)(fb N:Nat)(ex:Bool)(F S:Nat->Int)(k:Nat)(wr:World):Prop:=∃L,FmR w b size gg pt fb N (gnC ex F) S L wr/\FmG size ex F S k L
theorem FmN.step{w:World}{b:Nat}{size:Int}{gg:Nat}{pt:Option Addr}{fb N:Nat}{ex:Bool}{F S:Nat->Int}{k:Nat}{L:Nat->Fr}{U V:World}{nb:Nat}{x:Fr}
  (h:FmR w b size gg pt fb N (gnC ex F) S L V) (hg:FmG size ex F S k L) (hk:k<N) (hx:GotF U nb x V) (hf:FitR (rowAt S k) (gnR ex F k) size x/\x.n<=2) (hu:fb<U.heap.size):
  FmN w b size gg pt fb N ex F S (k+1) (V.setCells fb (k*29) (rowN 29 (frC x.F x.s)).toList):=by
 refine⟨_,h.store k hk x (hx.tn.mono fun q _ e=>by rw [e];exact hu) (hx.tn.mono fun q _ e=>by have:=h.fr.out;show q<U.heap.size;have e':q<w.heap.size:=e;have h3:¬fb<w.heap.size:=h.fr.out;omega),fun i hi=>?_⟩
 by_cases e:i=k
 ·subst e;rw [updF_same];exact hf
 ·rw [updF_other _ _ _ e];exact hg i (by omega)
set_option maxHeartbeats 4000000 in
theorem CFrames_any2(b:Nat)(size:Int)(p:Option Addr)(n cap:Nat)(xs:List Int)(w:World)(hb:CoB w b size)(h1:24<=size)(h2:size<=96)(hs:SlI w .i64 (.slice p n cap) xs)(hx:samP xs)(hn:n<=1048576):
  Calls Tryz.prog 111 #[.pointer (some ⟨b,0,none⟩),.slice p n cap] w fun e w'=>∃fb L,e = .returned (.tuple #[.slice (some ⟨fb,0,none⟩) (cnt n) (cnt n),.int .i64 0])/\w.heap.size<=fb/\FrsS (fun q=>q<w.heap.size) w' (some ⟨fb,0,none⟩) (cnt n) L/\FmG size (decide (55<=size)) (fun j=>xs.getD j 0) (spC (decide (55<=size)) (cnt n) fun j=>xs.getD j 0) (cnt n) L/\Old w w':=by
 have Hs16:=zH Tryz.block_size
 have HsL:Hid ((Tryz.prog.info? 57).map (·.size)=some 16):=zH (by kernel_rfl)
 have Hs4:Hid ((Tryz.prog.info? 44).map (·.size)=some 4):=zH (by kernel_rfl)
 have Hs29:Hid ((Tryz.prog.info? 113).map (·.size)=some 29):=zH (by kernel_rfl)
 obtain⟨z,hz⟩:∃z:Array Value,z=rowN 29 (frC (fun _=>0) (.slice none 0 0)):=⟨_,rfl⟩
 have Hzr:=zH hz
 rw [frC_zero] at hz
 have Hz:=zH hz
 have HMd:=zH (isMade_any b size w hb h1)
 have hWr:=cwrong_any p n cap xs w hs hn
 rw [if_pos hx] at hWr
 have HWr:=zH hWr
 have HWd:=zH (cwide_any p n cap xs w hs hn)
 have HB:=zH hb
 have hx64:∀x∈xs,In64 x:=fun x h=>by have:=hx x h;unfold In64;omega
 obtain⟨ex,hex⟩:∃ex,decide (55<=size)=ex:=⟨_,rfl⟩
 obtain⟨F,hF⟩:∃F:Nat->Int,F=fun j=>xs.getD j 0:=⟨_,rfl⟩
 obtain⟨N,hN⟩:∃N,N=cnt n:=⟨_,rfl⟩
 have hN2:N<=17179869184:=by rw [hN];unfold cnt;omega
 obtain⟨S,hS⟩:∃S,spC ex N F=S:=⟨_,rfl⟩
 have hFb:∀q,-32768<=F q/\F q<=32768:=fun q=>by rw [hF];have:=samP_at hx q;dsimp only;omega
 have hF64:Fits64 F:=fun q=>by have:=hFb q;omega
 have hFit:∀k,k<N->∀V,Calls Tryz.prog 153 #[.agg (rowN 16 (blk (rowAt S k))),.agg (rowN 4 (blk (gnR ex F k))),.int .i64 size] V fun e w'=>∃x:Fr,e = .returned (.tuple #[.agg (rowN 29 (frC x.F x.s)),.int .i64 0])/\FitR (rowAt S k) (gnR ex F k) size x/\x.n<=2/\ToV (fun k=>k<V.heap.size) w' x/\Old V w':=fun k hk V=>
  Fit_any _ _ size V (fun j=>by rw [←hS];exact spectraF_in N _ N hF64 _) h1 h2 (by rw [←hS];exact spectra_small hFb ex N k hk) (gnR_right ex F k)
 have HFit:=zH hFit
 have HGn:=zH (fun(V:World) (q:Nat) (hV:Old w V) (hs:SlI V .i64 (.slice (some ⟨q,0,none⟩) n n) xs)=>CGains_any b size (some ⟨q,0,none⟩) n n xs V (HB.out.old hV) h1 hs hx64 (by omega))
 have HSp:=zH (fun(V:World) (q g:Nat) (hs:SlI V .i64 (.slice (some ⟨q,0,none⟩) n n) xs) (hg:CellsAt V g (N*4) (gnC ex F))=>Spectra_any (some ⟨q,0,none⟩) n n xs (some ⟨g,0,none⟩) N N (gnC ex F) V hs (by omega) (fun _=>⟨g,0,rfl,hg.lt,fun j hj=>by rw [Nat.zero_add];exact hg.cell j (by omega)⟩))
 rw [hex,←hF,←hN] at HGn
 rw [←hF,←hN,T8_blk] at HSp
 rw [hex,←hF,←hN,hS]
 have HS:Hid (spectraF N (gnC ex F) N F=S):=zH hS
 rw [HS.out] at HSp
 clear hz hb hs hx hWr hx64 hFit hF hS hN hex hFb hF64
 go_enter Tryz.func111,Tryz.ntmps111
 go_wp2_with fail
 refine HMd.out.mono ?_
 rintro e w1 ⟨rfl,rfl⟩
 go_wp2_with fail
 refine HWr.out.mono ?_
 rintro e w1 ⟨rfl,rfl⟩
 go_wp2_with fail
 refine HWd.out.mono ?_
 rintro e w2 ⟨rfl,hs2,o2⟩
 obtain⟨wd,hwd⟩:∃q,q=w.heap.size:=⟨_,rfl⟩
 rw [←hwd] at hs2
 have HS2:=zH hs2
 have HO2:=zH o2
 have hGn2:=HGn.out w2 wd o2 hs2
 rw [hwd] at hGn2
 have HGn2:=zH hGn2
 clear hs2 o2 hGn2 HMd HWr HWd HGn
 go_wp2_with fail
 refine HGn2.out.mono ?_
 rintro e w3 ⟨gg,rfl,hg3,hg30,o3⟩
 have hM:=make_frames N hN2 w3
 obtain⟨W4,hW4⟩:∃W,W=w3.alloc (.cells (rowN (29*N) (frsC fun _=>zeroFr)) 113):=⟨_,rfl⟩
 obtain⟨fb,hfb⟩:∃q,q=w3.heap.size:=⟨_,rfl⟩
 have o34:Old w3 W4:=by rw [hW4];exact Old.alloc _ _
 have hF4:FrsO (fun q=>q<w.heap.size) W4 fb N (fun _=>zeroFr):=by rw [hW4,hfb];exact frs_new _ _ _ _ (by have:=HO2.out.size;have:=o3.size;omega)
 have hf4:fb<W4.heap.size:=hF4.at_.lt
 have Ho4:Hid (Old w W4):=zH ((HO2.out.trans o3).trans o34)
 have HSl4:=zH (HS2.out.old (o3.trans o34))
 have Hg4:=zH (hg3.old o34)
 have hgf:gg≠fb:=by have:=hg3.lt;omega
 have HB4:=zH (HB.out.old Ho4.out)
 have hbf:b≠fb:=by have:=HB.out.lt;have:=HO2.out.size;have:=o3.size;omega
 have HF4:=zH hF4
 have hSp4:=HSp.out W4 wd gg HSl4.out Hg4.out
 rw [hwd] at hSp4
 have HSp4:=zH hSp4
 have HLap:=zH HB4.out.lap_cell
 rw [←hW4,←hfb] at hM
 clear hg3 hg30 o3 hW4 o34 hF4 hSp4 HSp HSl4 HGn2 HS2 HO2 hfb
 go_wp2_with (with_reducible refine wpList_load_blk rfl 16 tI 57 _ rfl b 0 rfl _ HLap.out Tryz.underlying57 rfl HsL.out ?_)
 refine HSp4.out.mono ?_
 rintro e w5 ⟨pt,c5,rfl,hp5,o5,_⟩
 have H5:Hid (FmN w b size gg pt fb N ex F S 0 w5):=zH ⟨fun _=>zeroFr,⟨HB4.out.old o5,Hg4.out.old o5,hp5.mono (fun q hq=>by rw [hq];exact hf4),HF4.out.old o5,hbf,hgf,Ho4.out.trans o5,fun i hi=>ToV.none _ _ _ _⟩,fun i hi=>by omega⟩
 clear hp5 o5 HSp4 HLap HB4 Hg4 HF4 Ho4 hM hf4 hbf hgf hwd
 go_wp2_with fail
 go_loopw [38] (fun i wr=>∃k:Nat,k<=N/\i = .int .i64 k/\Hid (FmN w b size gg pt fb N ex F S k wr)) (fun i _=>N-(intOf i).toNat)
 case atStart=>exact⟨0,by omega,rfl,H5⟩
 case round=>
  obtain⟨k,hk,rfl,HR⟩:=hrel
  clear H5
  by_cases hlt:k<N
  ·obtain⟨L,hR,hGood⟩:=HR.out
   have i1:(0:Int)<=k:=by omega
   have i2:(k:Int)<N:=by omega
   obtain⟨sq,rfl,_,hsq⟩:=hR.sp (by omega)
   have HLd:Hid (∀j,j<16->wr.cell? ⟨sq,k*16+j,none⟩=some (.int .i64 (rowAt S k j))):=fun j hj=>hsq.cell (k*16+j) (by omega)
   have H1:Hid ((rowN 16 (blk (rowAt S k))).all (·.oneCell')=true):=zH (blk_one _ _)
   have HGood:=zH hGood
   obtain⟨bw,hbw⟩:∃q,q=wr.heap.size:=⟨_,rfl⟩
   obtain⟨U,hU⟩:∃V,V=wr.alloc (.cells (rowN 16 (blk (rowAt S k))) 43):=⟨_,rfl⟩
   have oU:Old wr U:=by rw [hU];exact Old.alloc _ _
   have HK:=zH (hR.keep oU)
   have hfbU:fb<U.heap.size:=HK.out.fr.at_.lt
   have hbox:U.heap[bw]?=some (.cells (rowN 16 (blk (rowAt S k))) 43 (0,0)):=by rw [hU,hbw];exact heap_alloc_new _ _
   have HSS:Hid (∀V,Old U.drew V->V.heap[bw]?=some (.cells (rowN 16 (blk (rowAt S k))) 43 (0,0))/\(∀j,j<4->V.cell? ⟨gg,k*4+j,none⟩=some (.int .i64 (gnR ex F k j)))/\V.cell? ⟨b,16,none⟩=some (.int .i64 size)):=fun V hV=>by
    have h:=HK.out.keep ((Old.drew (Old.refl _)).trans hV)
    exact⟨(hV.block _ (lt_of_block hbox)).trans hbox,fun j hj=>h.gn.cell (k*4+j) (by omega),h.co.size_cell⟩
   have HUw:=zH hU
   have HUb:=zH hbw
   have HFk:=zH (HFit.out k hlt)
   clear HR hR hGood hsq oU hU hbw hbox HFit
   go_wp2_with (first
    | (with_reducible refine wpList_load_blk rfl 16 (rowAt S k) 43 _ rfl sq (k*16) rfl _ HLd.out Tryz.underlying43 rfl Hs16.out ?_)
    | (with_reducible refine wpList_store_row rfl 43 _ _ rfl wr.heap.size (rowN 16 (blk (rowAt S k))) rfl rfl 43 _ (heap_alloc_new _ _) (by rw [rowN_size];exact Hs16.out) (by rw [rowN_size];kernel_rfl) H1.out ?_;rw [World.setRow_alloc_new,←HUw.out,←HUb.out]))
   refine wp_region_held_drew (S:=(fun w'=>w'.heap[bw]?=some (.cells (rowN 16 (blk (rowAt S k))) 43 (0,0))/\(∀j,j<4->w'.cell? ⟨gg,k*4+j,none⟩=some (.int .i64 (gnR ex F k j)))/\w'.cell? ⟨b,16,none⟩=some (.int .i64 size))) (by kernel_rfl) ?_ (fun hHeld=>?_)
   ·(try dsimp only);exact HSS.out _ (Old.refl _)
   refine wpT 0 (v:=.agg (rowN 16 (blk (rowAt S k)))) rfl (yieldsIf_load_row (by kernel_rfl) 43 (.tmp 11) rfl bw rfl 43 (rowN 16 (blk (rowAt S k))) (0,0) _ (fun _ h=>h.1) Tryz.underlying43 rfl (by rw [rowN_size];exact Hs16.out)) (by assumption) ?_;try simp only [Act.put,sA,sZ,sS]
   refine wpU 1 rfl ?_;try simp only [Act.put,sA,sZ,sS]
   refine wpU 2 rfl ?_;try simp only [Act.put,sA,sZ,sS]
   refine wpU 3 rfl ?_;try simp only [Act.put,sA,sZ,sS]
   refine wpT 4 (v:=.agg (rowN 4 (blk (gnR ex F k)))) rfl (yieldsIf_load_blk 4 (gnR ex F k) (by kernel_rfl) 44 (.tmp 47) rfl gg (k*4) rfl _ (fun _ h=>h.2.1) Tryz.underlying44 rfl Hs4.out) (by assumption) ?_;try simp only [Act.put,sA,sZ,sS]
   refine wpU 5 rfl ?_;try simp only [Act.put,sA,sZ,sS]
   refine wpU 6 rfl ?_;try simp only [Act.put,sA,sZ,sS]
   refine wpU 7 rfl ?_;try simp only [Act.put,sA,sZ,sS]
   refine wpU 8 rfl ?_;try simp only [Act.put,sA,sZ,sS]
   refine wpAnyH_ready (rs:=[9,13]) (by kernel_rfl) (by simp) ?_
   (refine AllReadyH.cons (o:=⟨_,_,_,_,_,_⟩) (by rfl) ?_ (AllReadyH.cons (o:=⟨_,_,_,_,_,_⟩) (by rfl) ?_ AllReadyH.nil)) <;> intro K hK
   ·go_simp
    refine(HFk.out _).mono ?_
    rintro e V1 ⟨x,rfl,hfit,hx2,ht1,o1⟩
    have HX:Hid ((FitR (rowAt S k) (gnR ex F k) size x/\x.n<=2)/\fb<U.heap.size):=zH ⟨⟨hfit,hx2⟩,hfbU⟩
    have HO1:=zH o1
    have HT1:=zH ht1
    have H1x:Hid ((rowN 29 (frC x.F x.s)).all (·.oneCell')=true):=zH (frC_one _ _ ht1.one)
    clear hfit hx2 ht1 o1
    go_wp2_with fail
    refine hK.out _ _ ?_ (fun hHeld=>?_)
    ·(try dsimp only);exact HSS.out _ HO1.out
    clear hK K
    try simp only [Act.put,sA,sZ,sS]
    refine wpU 10 rfl ?_;try simp only [Act.put,sA,sZ,sS]
    refine wpU 11 rfl ?_;try simp only [Act.put,sA,sZ,sS]
    refine wpU 12 rfl ?_;try simp only [Act.put,sA,sZ,sS]
    refine wpR 13 rfl (fun K hK=>?_)
    go_simp
    rw [←Hz.out]
    refine hK.out _ _ ?_ (fun hHeld=>?_)
    ·(try dsimp only);exact HSS.out _ (HO1.out.alloc' _)
    clear hK K
    try simp only [Act.put,sA,sZ,sS]
    refine wpR 14 rfl (fun K hK=>?_)
    have hGot:=gotF_call z 113 Hzr.out HO1.out HT1.out
    rw [if_pos (by kernel_rfl)]
    with_reducible refine wp_store_mid 113 _ _ rfl (V1.heap.size) (0) (rowN 29 (frC x.F x.s)) rfl rfl (by rw [rowN_size];exact(newFr V1 z 113 Hzr.out).there 0 29 (by omega)) (by rw [rowN_size];exact Hs29.out) (H1x.out) ?_
    try simp only [Act.put,sA,sZ,sS]
    refine hK.out _ _ ?_ (fun hHeld=>?_)
    ·(try dsimp only);exact HSS.out _ hGot.old
    clear hK K
    try simp only [Act.put,sA,sZ,sS]
    refine wpU 15 rfl ?_;try simp only [Act.put,sA,sZ,sS]
    refine wpAnyH_done (by kernel_rfl) ?_ _
    obtain⟨V9,hV9⟩:∃V,V=(V1.alloc (.cells z 113)).setCells V1.heap.size 0 (rowN 29 (frC x.F x.s)).toList:=⟨_,rfl⟩
    obtain⟨nb,hnb⟩:∃q,q=V1.heap.size:=⟨_,rfl⟩
    rw [←hV9,←hnb] at hGot
    rw [←hV9,←hnb]
    clear hV9 hnb HO1 HT1
    have HG:=zH hGot
    have HOU:Hid (Old U V9):=zH (by first | exact(Old.drew (Old.refl _)).trans hGot.old)
    have hk9:=HK.out.keep HOU.out
    have HT:=zH (hk9.fr.at_.there (k*29) 29 (by omega))
    have NX:=zH (FmN.step hk9 HGood.out hlt hGot HX.out.1 HX.out.2)
    have Hc9:Hid (∀j,j<29->V9.cell? ⟨nb,0+j,none⟩=some (frC x.F x.s j)):=zH fun j hj=>by rw [Nat.zero_add];exact hGot.at_.cell j hj
    clear hGot hk9 HK HGood HSS HFk HX HG
    go_wp2_with (first
     | (with_reducible refine wpList_load_fr rfl (frC x.F x.s) 113 _ rfl nb 0 rfl _ Hc9.out Tryz.underlying113 rfl Hs29.out ?_)
     | (with_reducible refine wpList_store_fr rfl (frC x.F x.s) 113 _ _ rfl fb (k*29) rfl rfl HT.out Hs29.out H1x.out ?_))
    go_roundw
    case rel=>exact⟨k+1,by omega,by go_num,NX⟩
    case measure=>(simp [intOf];try omega)
   ·go_simp
    rw [←Hz.out]
    refine hK.out _ _ ?_ (fun hHeld=>?_)
    ·(try dsimp only);exact HSS.out _ ((Old.refl _).alloc' _)
    clear hK K
    try simp only [Act.put,sA,sZ,sS]
    refine wpR 9 rfl (fun K hK=>?_)
    go_simp
    refine(HFk.out _).mono ?_
    rintro e V1 ⟨x,rfl,hfit,hx2,ht1,o1⟩
    have HX:Hid ((FitR (rowAt S k) (gnR ex F k) size x/\x.n<=2)/\fb<U.heap.size):=zH ⟨⟨hfit,hx2⟩,hfbU⟩
    have HO1:=zH o1
    have HT1:=zH ht1
    have H1x:Hid ((rowN 29 (frC x.F x.s)).all (·.oneCell')=true):=zH (frC_one _ _ ht1.one)
    clear hfit hx2 ht1 o1
    go_wp2_with fail
    refine hK.out _ _ ?_ (fun hHeld=>?_)
    ·(try dsimp only);exact HSS.out _ (((Old.refl _).alloc' _).trans HO1.out)
    clear hK K
    try simp only [Act.put,sA,sZ,sS]
    refine wpU 10 rfl ?_;try simp only [Act.put,sA,sZ,sS]
    refine wpU 11 rfl ?_;try simp only [Act.put,sA,sZ,sS]
    refine wpU 12 rfl ?_;try simp only [Act.put,sA,sZ,sS]
    refine wpR 14 rfl (fun K hK=>?_)
    have hTh:V1.there U.heap.size 0 29:=((newFr U.drew z 113 Hzr.out).old HO1.out).there 0 29 (by omega)
    have hGot:GotF U.drew U.heap.size x (V1.setCells U.heap.size 0 (rowN 29 (frC x.F x.s)).toList):=gotF_alloc (U:=U.drew) z 113 Hzr.out HO1.out HT1.out
    rw [if_pos (by kernel_rfl)]
    with_reducible refine wp_store_mid 113 _ _ rfl (U.heap.size) (0) (rowN 29 (frC x.F x.s)) rfl rfl (by rw [rowN_size];exact hTh) (by rw [rowN_size];exact Hs29.out) (H1x.out) ?_
    try simp only [Act.put,sA,sZ,sS]
    refine hK.out _ _ ?_ (fun hHeld=>?_)
    ·(try dsimp only);exact HSS.out _ hGot.old
    clear hK K
    try simp only [Act.put,sA,sZ,sS]
    refine wpU 15 rfl ?_;try simp only [Act.put,sA,sZ,sS]
    refine wpAnyH_done (by kernel_rfl) ?_ _
    obtain⟨V9,hV9⟩:∃V,V=V1.setCells U.heap.size 0 (rowN 29 (frC x.F x.s)).toList:=⟨_,rfl⟩
    obtain⟨nb,hnb⟩:∃q,q=U.heap.size:=⟨_,rfl⟩
    rw [←hV9,←hnb] at hGot
    rw [←hV9,←hnb]
    clear hV9 hnb HO1 HT1
    have HG:=zH hGot
    have HOU:Hid (Old U V9):=zH (by first | exact(Old.drew (Old.refl _)).trans hGot.old)
    have hk9:=HK.out.keep HOU.out
    have HT:=zH (hk9.fr.at_.there (k*29) 29 (by omega))
    have NX:=zH (FmN.step hk9 HGood.out hlt hGot HX.out.1 HX.out.2)
    have Hc9:Hid (∀j,j<29->V9.cell? ⟨nb,0+j,none⟩=some (frC x.F x.s j)):=zH fun j hj=>by rw [Nat.zero_add];exact hGot.at_.cell j hj
    clear hGot hk9 HK HGood HSS HFk HX HG
    go_wp2_with (first
     | (with_reducible refine wpList_load_fr rfl (frC x.F x.s) 113 _ rfl nb 0 rfl _ Hc9.out Tryz.underlying113 rfl Hs29.out ?_)
     | (with_reducible refine wpList_store_fr rfl (frC x.F x.s) 113 _ _ rfl fb (k*29) rfl rfl HT.out Hs29.out H1x.out ?_))
    go_roundw
    case rel=>exact⟨k+1,by omega,by go_num,NX⟩
    case measure=>(simp [intOf];try omega)
  ·obtain rfl:k=N:=by omega
   have HE:Hid (∃L,w.heap.size<=fb/\FrsS (fun q=>q<w.heap.size) wr (some ⟨fb,0,none⟩) k L/\FmG size ex F S k L/\Old w wr):=by
    obtain⟨L,hR,hGood⟩:=HR.out
    exact⟨L,Nat.le_of_not_lt hR.fr.out,⟨(hR.fr.sl (fun _=>False) (fun _ _ h=>h.elim)).1,hR.tw⟩,hGood,hR.old⟩
   clear HR HFit
   go_wp2_with fail
   go_ret2
   obtain⟨L,e0,e1,e2,e3⟩:=HE.out
   exact⟨_,L,rfl,e0,e1,e2,e3⟩
theorem CFrames_any(b:Nat)(size:Int)(p:Option Addr)(n cap:Nat)(xs:List Int)(w:World)(hb:CoB w b size)(h1:24<=size)(h2:size<=96)(hs:SlI w .i64 (.slice p n cap) xs)(hx:samP xs)(hn:n<=1048576):
  Calls Tryz.prog 111 #[.pointer (some ⟨b,0,none⟩),.slice p n cap] w fun e w'=>∃fb L,e = .returned (.tuple #[.slice (some ⟨fb,0,none⟩) (cnt n) (cnt n),.int .i64 0])/\FrsS (fun _=>False) w' (some ⟨fb,0,none⟩) (cnt n) L/\FmG size (decide (55<=size)) (fun j=>xs.getD j 0) (spC (decide (55<=size)) (cnt n) fun j=>xs.getD j 0) (cnt n) L/\Old w w':=
 (CFrames_any2 b size p n cap xs w hb h1 h2 hs hx hn).mono fun _ _ ⟨fb,L,e,_,e1,e2,e3⟩=>⟨fb,L,e,⟨e1.1,fun i hi=>(e1.2 i hi).mono fun _ _ h=>h.elim⟩,e2,e3⟩
def cbytes(sz:Nat)(L:Nat->Fr):Nat->List Int
 | 0=>[]
 | k+1=>cbytes sz L k ++ padded (enc (L k).F (L k).n (L k).T) sz
theorem cbytes_len(sz:Nat)(L:Nat->Fr):∀k,(cbytes sz L k).length=k*sz
 | 0=>by simp [cbytes]
 | k+1=>by rw [cbytes,List.length_append,cbytes_len sz L k,length_padded,Nat.add_mul,Nat.one_mul]
theorem cbytes_row(sz:Nat)(L:Nat->Fr)(i:Nat):∀k,i<k->((cbytes sz L k).drop (i*sz)).take sz=padded (enc (L i).F (L i).n (L i).T) sz
 | 0,h=>by omega
 | k+1,h=>by
  have hl:=cbytes_len sz L k
  rw [cbytes]
  by_cases e:i=k
  ·subst e
   rw [List.drop_append_of_le_length (by omega),List.drop_eq_nil_of_le (by omega),List.nil_append,List.take_of_length_le (by rw [length_padded];omega)]
  ·have h2:i*sz+sz<=k*sz:=by
    have:(i+1)*sz<=k*sz:=Nat.mul_le_mul_right sz (by omega)
    rwa [Nat.add_mul,Nat.one_mul] at this
   rw [List.drop_append_of_le_length (by omega),List.take_append_of_le_length (by rw [List.length_drop];omega)]
   exact cbytes_row sz L i k (by omega)
structure ByR(w:World)(v:Value)(xs:List Int)(wr:World):Prop where
 own:OwnL .u8 5 (fun q=>q<w.heap.size) wr v xs
 old:Old w wr
theorem news_of{w:World}{g:Nat}{xs:List Int}{t:TypeId}{fr:Nat × Nat}(h:w.heap[g]?=some (.cells (xs.map (Value.int .u8)).toArray t fr)):∀(j:Nat) (u:Value),(xs.map (Value.int .u8))[j]?=some u->w.cell? ((⟨g,0,none⟩:Addr).add j)=some u:=fun j u hu=>by
 rw [add_plain,Nat.zero_add,cell_of_row _ _ _ _ _ _ h]
 simpa using hu
theorem ints_one(k:IntKind)(xs:List Int):∀u∈xs.map (Value.int k),u.oneCell'=true:=fun u hu=>by
 obtain⟨x,_,rfl⟩:=List.mem_map.1 hu
 rfl
set_option maxHeartbeats 4000000 in
theorem CBytes_any(b sz:Nat)(p:Option Addr)(N cap:Nat)(L:Nat->Fr)(X:Nat->Prop)(w:World)(hb:CoB w b sz)(h1:24<=sz)(h2:sz<=96)(hfr:FrsS X w p N L)(hmay:∀i,i<N->FrP (L i).F (L i).n (L i).T)(hroom:∀i,i<N->costI (L i).F (L i).n<=8*(sz:Int))(hT64:∀i,i<N->Fits64 (L i).T)(hN:N<=1048576):
  Calls Tryz.prog 112 #[.pointer (some ⟨b,0,none⟩),.slice p N cap] w fun e w'=>∃v,e = .returned (.tuple #[v,.int .i64 0])/\OwnL .u8 5 (fun q=>q<w.heap.size) w' v (cbytes sz L N)/\Old w w':=by
 have Hs29:Hid ((Tryz.prog.info? 113).map (·.size)=some 29):=zH (by kernel_rfl)
 obtain⟨i0,hi,hz0,hz1,hz2⟩:=info_parts (show (Tryz.prog.info? 5).map (fun i=>(i.zero,i.size,i.bytes))=some (some (.int .u8 0),1,1) by kernel_rfl)
 have HMd:=zH (isMade_any b sz w hb (by omega))
 have HB:=zH hb
 have HFr:=zH hfr
 have HBy:Hid (∀k,k<N->∀V,Old w V->Calls Tryz.prog 154 #[.agg (rowN 29 (frC (L k).F (L k).s)),.int .i64 sz] V fun e w'=>Old V w'/\∃g,e = .returned (.tuple #[.slice (some ⟨g,0,none⟩) sz sz,.int .i64 0])/\V.heap.size<=g/\w'.heap[g]?=some (.cells ((padded (enc (L k).F (L k).n (L k).T) sz).map (Value.int .u8)).toArray 5 (0,0))):=zH fun k hk V hV=>by
  obtain⟨pk,ck,es,a1,a2,a3,_⟩:=hfr.2 k hk
  have he:bytesErr (enc (L k).F (L k).n (L k).T) 0 sz=0:=err_none _ _ (by rw [enc_len (hmay k hk)];exact hroom k hk) (by omega)
  rw [es]
  refine(FBytes_yes _ pk _ ck _ sz V (a3.old hV) (hT64 k hk) a1 a2 (hmay k hk)).mono ?_
  rintro e w' ⟨ho,⟨h0,_⟩ | ⟨_,g,rfl,hg,hh⟩⟩
  ·exact absurd he h0
  ·rw [Int.toNat_natCast] at hh
   exact⟨ho,g,rfl,hg,hh⟩
 have H1F:Hid (∀k,k<N->(rowN 29 (frC (L k).F (L k).s)).all (·.oneCell')=true):=zH fun k hk=>frC_one _ _ (hfr.2 k hk).one
 have HLen:=zH (fun k=>cbytes_len sz L k)
 have hcell:=hb.size_cell
 obtain⟨c,hc⟩:∃c,N*sz=c:=⟨_,rfl⟩
 have hc2:c<=100663296:=by rw [←hc];exact Nat.le_trans (Nat.mul_le_mul hN h2) (by omega)
 have hci:(N:Int)*(sz:Int)=c:=by rw [←hc,Int.natCast_mul]
 have e1:wrap64 ((N:Int)*(sz:Int))=c:=by rw [hci];exact IntWalk.wrap64_in _ (by omega)
 have e2:IntKind.i64.wrap ((N:Int)*(sz:Int))=c:=by rw [hci];exact IntWalk.i64_in _ (by omega)
 obtain⟨w3,hmk,hown,hgr⟩:=run_make_own (P:=Tryz.prog) w w.heap.size 34 5 i0 _ 1 Tryz.underlying34 hi hz0 hz1 .i64 .i64 c (by rw [hz2];omega) (by unfold maxLen;omega) (Nat.le_refl _)
 have H3:Hid (ByR w (.slice (some ⟨w.heap.size,0,none⟩) 0 c) (cbytes sz L 0) w3):=zH ⟨⟨ownsRow_zero hown,fun k hk=>Nat.not_lt.2 (Nat.le_of_eq (by simpa [Value.ownBlock] using hk))⟩,Kept.grown hgr (fun _ h=>h) (fun _ h=>by cases h)⟩
 have HBd:Hid (∀k,k<=N->(cbytes sz L k).length<=100663296):=zH fun k hk=>by
  rw [cbytes_len]
  exact Nat.le_trans (Nat.mul_le_mul (Nat.le_trans hk hN) h2) (by omega)
 clear hb hfr hmay hroom hT64 hown hgr hc hci
 go_enter Tryz.func112,Tryz.ntmps112
 go_wp2_with fail
 refine HMd.out.mono ?_
 rintro e w1 ⟨rfl,rfl⟩
 go_wp2_with fail
 go_loopw [6,24] (fun v i wr=>∃k:Nat,k<=N/\i = .int .i64 k/\Hid (ByR w v (cbytes sz L k) wr)) (fun _ i _=>N-(intOf i).toNat)
 case atStart=>exact⟨0,by omega,rfl,H3⟩
 case round=>
  obtain⟨k,hk,rfl,HR⟩:=hrel
  clear H3 hmk hcell e1 e2
  by_cases hlt:k<N
  ·have i1:(0:Int)<=k:=by omega
   have i2:(k:Int)<N:=by omega
   obtain⟨fg,fo,rfl,_,hcf⟩:=(HFr.out.old HR.out.old).row k hlt
   have HLd:=zH hcf
   have H1k:=zH (H1F.out k hlt)
   have HBk:=zH (HBy.out k hlt)
   obtain⟨R,hRd⟩:∃R:Array Value,R=rowN 29 (frC (L k).F (L k).s):=⟨_,rfl⟩
   have hRs:R.size=29:=by rw [hRd,rowN_size]
   obtain⟨nb,hnb⟩:∃q,q=wr.heap.size:=⟨_,rfl⟩
   obtain⟨U,hU⟩:∃V,V=wr.alloc (.cells R 113):=⟨_,rfl⟩
   have oU:Old wr U:=by rw [hU];exact Old.alloc _ _
   have hbox:U.heap[nb]?=some (.cells R 113 (0,0)):=by rw [hU,hnb];exact heap_alloc_new _ _
   have HO:=zH (HR.out.old.trans oU)
   have HSS:Hid (∀V,Old U.drew V->V.heap[nb]?=some (.cells R 113 (0,0))/\V.cell? ⟨b,16,none⟩=some (.int .i64 sz)):=zH fun V hV=>
    ⟨(hV.block _ (lt_of_block hbox)).trans hbox,((HB.out.old HO.out).old ((Old.drew (Old.refl _)).trans hV)).size_cell⟩
   have HUw:=zH hU
   have HUb:=zH hnb
   have HRd:=zH hRd
   have HRs:=zH hRs
   have HOw:=zH oU
   rw [←hRd] at H1k HBk
   clear hcf hRd hRs hU hnb oU hbox HBy H1F
   go_wp2_with (first
    | (with_reducible refine wpList_load_fr rfl (frC (L k).F (L k).s) 113 _ rfl fg (fo+k*29) rfl _ HLd.out Tryz.underlying113 rfl Hs29.out ?_;rw [←HRd.out])
    | (with_reducible refine wpList_store_row rfl 113 _ _ rfl wr.heap.size R rfl rfl 113 _ (heap_alloc_new _ _) (by rw [HRs.out];exact Hs29.out) (by rw [HRs.out];kernel_rfl) H1k.out ?_;rw [World.setRow_alloc_new,←HUw.out,←HUb.out]))
   refine wp_region_held_drew (S:=(fun w'=>w'.heap[nb]?=some (.cells R 113 (0,0))/\w'.cell? ⟨b,16,none⟩=some (.int .i64 sz))) (by kernel_rfl) ?_ (fun hHeld=>?_)
   ·(try dsimp only);exact HSS.out _ (Old.refl _)
   refine wpT 0 (v:=.agg R) rfl (yieldsIf_load_row (by kernel_rfl) 113 (.tmp 8) rfl nb rfl 113 R (0,0) _ (fun _ h=>h.1) Tryz.underlying113 rfl (by rw [HRs.out];exact Hs29.out)) (by assumption) ?_;try simp only [Act.put,sA,sZ,sS]
   refine wpU 1 rfl ?_;try simp only [Act.put,sA,sZ,sS]
   refine wpU 2 rfl ?_;try simp only [Act.put,sA,sZ,sS]
   refine wpU 3 rfl ?_;try simp only [Act.put,sA,sZ,sS]
   refine wpU 4 rfl ?_;try simp only [Act.put,sA,sZ,sS]
   refine wpR 5 rfl (fun K hK=>?_)
   go_simp
   refine(HBk.out _ (HO.out.trans (Old.drew (Old.refl _)))).mono ?_
   rintro e V1 ⟨o1,g,rfl,hg,hh⟩
   have HO1:=zH ((Old.drew (Old.refl U)).trans o1)
   have HO1':=zH o1
   have HH:=zH hh
   clear o1 hg hh HBk
   go_wp2_with fail
   refine hK.out _ _ ?_ (fun hHeld=>?_)
   ·(try dsimp only);exact HSS.out _ HO1'.out
   clear hK K
   try simp only [Act.put,sA,sZ,sS]
   refine wpU 6 rfl ?_;try simp only [Act.put,sA,sZ,sS]
   refine wpU 7 rfl ?_;try simp only [Act.put,sA,sZ,sS]
   refine wpU 8 rfl ?_;try simp only [Act.put,sA,sZ,sS]
   refine wpU 9 rfl ?_;try simp only [Act.put,sA,sZ,sS]
   refine wpU 10 rfl ?_;try simp only [Act.put,sA,sZ,sS]
   refine wpAnyH_done (by kernel_rfl) ?_ _
   have hown:=HR.out.own.old (HOw.out.trans HO1.out)
   have HN:Hid (∀v' w',ownX (fun q=>q<w.heap.size) w' 5 v' ((cbytes sz L k).length+sz) ((cbytes sz L k).map (Value.int .u8) ++ (padded (enc (L k).F (L k).n (L k).T) sz).map (Value.int .u8))->Kept (fun q=>q<w.heap.size) V1 w'->ByR w v' (cbytes sz L (k+1)) w'):=zH fun v' w' h hk=>by
    have e:(cbytes sz L (k+1)).length=(cbytes sz L k).length+sz:=by rw [cbytes,List.length_append,length_padded]
    refine⟨?_,(HO.out.trans HO1.out).after hk fun _ h=>h⟩
    unfold OwnL
    rw [e,cbytes,List.map_append]
    exact h
   have HNw:=zH (news_of HH.out)
   have H1s:=zH (ints_one .u8 (padded (enc (L k).F (L k).n (L k).T) sz))
   have HPl:Hid (((padded (enc (L k).F (L k).n (L k).T) sz).map (Value.int .u8)).length=sz):=zH (by rw [List.length_map,length_padded])
   have HBk2:=zH (HBd.out k hk)
   have HX:Hid (∀q,q<w.heap.size->q<V1.heap.size):=zH fun q hq=>Nat.lt_of_lt_of_le hq (HO.out.trans HO1.out).size
   unfold OwnL at hown
   clear HH HSS HLd HUw HUb HRd HOw HO1 HO1' HO HR
   obtain⟨B2,hB2⟩:∃B2,cbytes sz L (k+1)=B2:=⟨_,rfl⟩
   rw [hB2] at HN
   have HB2:=zH hB2
   clear hB2
   generalize hP:padded (enc (L k).F (L k).n (L k).T) sz=P at *
   generalize hB:cbytes sz L k=B at *
   clear hP hB
   go_wp2_with ((at_builtin;refine append_X _ rfl _ _ 34 rfl (fun q=>q<w.heap.size) 5 i0 (.int .u8 0) 1 Tryz.underlying34 hi hz0 hz1 hz2 rfl _ _ _ rfl hown ⟨g,0,none⟩ sz sz (P.map (Value.int .u8)) rfl HPl.out HNw.out H1s.out (by have:=HBk2.out;unfold maxLen;omega) (by have:=HBk2.out;omega) HX.out ?_;intro v' w2 hown2 hk2 _;have hn2:=zH (HN.out v' w2 hown2 hk2);clear hown hown2 hk2 HN))
   go_roundw
   case rel=>exact⟨k+1,by omega,by go_num,by rw [HB2.out];exact hn2⟩
   case measure=>(simp [intOf];try omega)
  ·obtain rfl:k=N:=by omega
   have HE:=zH (And.intro HR.out.own HR.out.old)
   clear HR HBy H1F HFr
   go_wp2_with fail
   go_ret2
   exact⟨_,rfl,HE.out.1,HE.out.2⟩
def smTo(k:Nat)(L:Nat->Fr):Nat->Int:=fun q=>if q/16<k then specF (L (q/16)).F (L (q/16)).n (L (q/16)).T (q%16) else 0
def gfTo(k:Nat)(L:Nat->Fr):Nat->Int:=fun q=>if q/4<k then(L (q/4)).F (q%4) else 0
theorem smTo_step(k:Nat)(L:Nat->Fr):patch (smTo k L) (k*16) 16 (specF (L k).F (L k).n (L k).T)=smTo (k+1) L:=by
 funext q
 unfold patch smTo
 by_cases h:k*16<=q/\q<k*16+16
 ·rw [if_pos h,if_pos (by omega),show q/16=k by omega,show q-k*16=q%16 by omega]
 ·rw [if_neg h]
  by_cases h2:q/16<k
  ·rw [if_pos h2,if_pos (by omega)]
  ·rw [if_neg h2,if_neg (by omega)]
theorem gfTo_step(k:Nat)(L:Nat->Fr):patch (gfTo k L) (k*4) 4 (L k).F=gfTo (k+1) L:=by
 funext q
 unfold patch gfTo
 by_cases h:k*4<=q/\q<k*4+4
 ·rw [if_pos h,if_pos (by omega),show q/4=k by omega,show q-k*4=q%4 by omega]
 ·rw [if_neg h]
  by_cases h2:q/4<k
  ·rw [if_pos h2,if_pos (by omega)]
  ·rw [if_neg h2,if_neg (by omega)]
theorem specF_bd(F:Nat->Int)(n:Nat)(T:Nat->Int)(k:Nat)(hk:k<16):-2147483648<=specF F n T k/\specF F n T k<=2147483648:=by
 unfold specF clampTo
 rw [if_pos hk,clampI_eq]
 omega
theorem smTo_fits(k:Nat)(L:Nat->Fr):Fits64 (smTo k L):=fun q=>by
 unfold smTo
 split
 ·have:=specF_bd (L (q/16)).F (L (q/16)).n (L (q/16)).T (q%16) (by omega);omega
 ·omega
structure SmR(w:World)(sb gb N:Nat)(SF GF:Nat->Int)(wr:World):Prop where
 s:CellsAt wr sb (N*16) SF
 g:CellsAt wr gb (N*4) GF
 ne:sb≠gb
 ns:w.heap.size<=sb
 ng:w.heap.size<=gb
 old:Old w wr
namespace SmR
variable {w wr w':World} {sb gb N:Nat} {SF GF:Nat->Int}
theorem keep(h:SmR w sb gb N SF GF wr)(k:Old wr w'):SmR w sb gb N SF GF w':=⟨h.s.old k,h.g.old k,h.ne,h.ns,h.ng,h.old.trans k⟩
theorem storeS(h:SmR w sb gb N SF GF wr)(k:Nat)(hk:k<N)(f:Nat->Int):SmR w sb gb N (patch SF (k*16) 16 f) GF (wr.setCells sb (k*16) (rowL 16 f)):=
 ⟨h.s.setCells (k*16) 16 (by omega) f,h.g.setCellsOther h.ne _ _,h.ne,h.ns,h.ng,h.old.after (Kept.setCells (X:=fun q=>q<w.heap.size) _ (fun e=>by have:=h.ns;omega) _ _) fun _ h=>h⟩
theorem storeG(h:SmR w sb gb N SF GF wr)(k:Nat)(hk:k<N)(f:Nat->Int):SmR w sb gb N SF (patch GF (k*4) 4 f) (wr.setCells gb (k*4) (rowL 4 f)):=
 ⟨h.s.setCellsOther h.ne.symm _ _,h.g.setCells (k*4) 4 (by omega) f,h.ne,h.ns,h.ng,h.old.after (Kept.setCells (X:=fun q=>q<w.heap.size) _ (fun e=>by have:=h.ng;omega) _ _) fun _ h=>h⟩
end SmR
theorem smR_two{w:World}{N:Nat}{L:Nat->Fr}{t u:TypeId} : SmR w w.heap.size (w.heap.size+1) N (smTo 0 L) (gfTo 0 L) ((w.alloc (.cells (rowN (N*16) (blk fun _=>0)) t)).alloc (.cells (rowN (N*4) (blk fun _=>0)) u)):=by
 have h1:=cellsAt_new w (N*16) (fun _=>0) t
 have h2:=cellsAt_new (w.alloc (.cells (rowN (N*16) (blk fun _=>0)) t)) (N*4) (fun _=>0) u
 rw [World.size_alloc] at h2
 exact⟨(h1.old (Old.alloc _ _)).ext fun j _=>by unfold smTo;rw [if_neg (by omega)],h2.ext fun j _=>by unfold gfTo;rw [if_neg (by omega)],by omega,by omega,by omega,(Old.alloc _ _).alloc' _⟩
theorem smR_two'{w:World}{N:Nat}{L:Nat->Fr}{t u:TypeId} : SmR w (w.heap.size+1) w.heap.size N (smTo 0 L) (gfTo 0 L) ((w.alloc (.cells (rowN (N*4) (blk fun _=>0)) u)).alloc (.cells (rowN (N*16) (blk fun _=>0)) t)):=by
 have h1:=cellsAt_new w (N*4) (fun _=>0) u
 have h2:=cellsAt_new (w.alloc (.cells (rowN (N*4) (blk fun _=>0)) u)) (N*16) (fun _=>0) t
 rw [World.size_alloc] at h2
 exact⟨h2.ext fun j _=>by unfold smTo;rw [if_neg (by omega)],(h1.old (Old.alloc _ _)).ext fun j _=>by unfold gfTo;rw [if_neg (by omega)],by omega,by omega,by omega,(Old.alloc _ _).alloc' _⟩
set_option maxHeartbeats 4000000 in
theorem CSamples_any(b:Nat)(size:Int)(p:Option Addr)(N cap:Nat)(L:Nat->Fr)(m:Int)(X:Nat->Prop)(w:World)(hb:CoB w b size)(h1:24<=size)(hfr:FrsS X w p N L)(hmay:∀i,i<N->FrP (L i).F (L i).n (L i).T)(hN:N<=17179869184)(m1:-9223372036854775808<=m)(m2:m<=9223372036854775807):
  Calls Tryz.prog 49 #[.pointer (some ⟨b,0,none⟩),.slice p N cap,.int .i64 m] w fun e w'=>∃r,e = .returned (.slice (some ⟨r,0,none⟩) (samN N m) (samN N m))/\CellsAt w' r (samN N m) (fun j=>satI (wholeF N (gfTo N L) N (smTo N L) j))/\w.heap.size<=r/\Old w w':=by
 have Hs16:=zH Tryz.block_size
 have HsL:Hid ((Tryz.prog.info? 57).map (·.size)=some 16):=zH (by kernel_rfl)
 have Hs4:Hid ((Tryz.prog.info? 44).map (·.size)=some 4):=zH (by kernel_rfl)
 have Hs29:Hid ((Tryz.prog.info? 113).map (·.size)=some 29):=zH (by kernel_rfl)
 have HMd:=zH (isMade_any b size w hb h1)
 have HB:=zH hb
 have HFr:=zH hfr
 have HSp:Hid (∀k,k<N->∀V,Old w V->Calls Tryz.prog 89 #[.agg (rowN 29 (frC (L k).F (L k).s))] V fun e w'=>e = .returned (.agg (rowN 16 (blk (specF (L k).F (L k).n (L k).T))))/\Old V w'):=zH fun k hk V hV=>by
  obtain⟨pk,ck,es,a1,a2,a3,_⟩:=hfr.2 k hk
  rw [es]
  exact Spectrum_any _ pk _ ck _ V (a3.old hV) a1 a2 (hmay k hk)
 have H1F:Hid (∀k,k<N->(rowN 29 (frC (L k).F (L k).s)).all (·.oneCell')=true):=zH fun k hk=>frC_one _ _ (hfr.2 k hk).one
 have HWh:=zH (fun(sb gb:Nat) (V:World) (h:SmR w sb gb N (smTo N L) (gfTo N L) V)=>Whole_any (some ⟨sb,0,none⟩) N N (smTo N L) (some ⟨gb,0,none⟩) N N (gfTo N L) m V (fun _=>⟨sb,0,rfl,h.s.lt,fun j hj=>by rw [Nat.zero_add];exact h.s.cell j (by omega)⟩) hN (fun _ e=>by cases e) (smTo_fits N L) (fun _=>⟨gb,0,rfl,h.g.lt,fun j hj=>by rw [Nat.zero_add];exact h.g.cell j (by omega)⟩) m1 m2)
 rw [T8_blk] at HWh
 obtain⟨WF,hWF⟩:∃WF,wholeF N (gfTo N L) N (smTo N L)=WF:=⟨_,rfl⟩
 rw [hWF] at HWh ⊢
 clear hWF
 have hL2:samN N m<=1099511627776:=by have:=samN_le N m;omega
 generalize samN N m=n' at *
 have hMb:=fun w=>make_blocks N (by omega) w
 have hMg:=fun w=>make_gains N (by omega) w
 clear hb hfr hmay
 go_enter Tryz.func49,Tryz.ntmps49
 go_wp2_with fail
 refine HMd.out.mono ?_
 rintro e w1 ⟨rfl,rfl⟩
 clear HMd
 go_upto_region 3 with (fail)
 go_cut [7,8] (fun v7 v8 wx=>∃sb gb,v7 = .slice (some ⟨sb,0,none⟩) N N/\v8 = .slice (some ⟨gb,0,none⟩) N N/\SmR w sb gb N (smTo 0 L) (gfTo 0 L) wx)
 case first=>
  refine wp_region_held_drew (S:=(fun _=>True)) (by kernel_rfl) ?_ (fun hHeld=>?_)
  ·exact trivial
  refine wpU 0 rfl ?_;try simp only [Act.put,sA,sZ,sS]
  refine wpU 1 rfl ?_;try simp only [Act.put,sA,sZ,sS]
  refine wpU 3 rfl ?_;try simp only [Act.put,sA,sZ,sS]
  refine wpU 4 rfl ?_;try simp only [Act.put,sA,sZ,sS]
  refine wpAnyH_ready (rs:=[2,5]) (by kernel_rfl) (by simp) ?_
  (refine AllReadyH.cons (o:=⟨_,_,_,_,_,_⟩) (by rfl) ?_ (AllReadyH.cons (o:=⟨_,_,_,_,_,_⟩) (by rfl) ?_ AllReadyH.nil)) <;> intro K hK
  ·go_simp
   refine hK.out _ _ ?_ (fun hHeld=>?_)
   ·exact trivial
   clear hK K
   try simp only [Act.put,sA,sZ,sS]
   refine wpU 6 rfl ?_;try simp only [Act.put,sA,sZ,sS]
   refine wpR 5 rfl (fun K hK=>?_)
   go_simp
   refine hK.out _ _ ?_ (fun hHeld=>?_)
   ·exact trivial
   clear hK K
   try simp only [Act.put,sA,sZ,sS]
   refine wpU 7 rfl ?_;try simp only [Act.put,sA,sZ,sS]
   refine wpAnyH_done (by kernel_rfl) ?_ _
   go_wp2_with fail
   go_meet
   exact⟨_,_,rfl,rfl,(smR_two (w:=w)).keep (Old.drew (Old.refl _))⟩
  ·go_simp
   refine hK.out _ _ ?_ (fun hHeld=>?_)
   ·exact trivial
   clear hK K
   try simp only [Act.put,sA,sZ,sS]
   refine wpR 2 rfl (fun K hK=>?_)
   go_simp
   refine hK.out _ _ ?_ (fun hHeld=>?_)
   ·exact trivial
   clear hK K
   try simp only [Act.put,sA,sZ,sS]
   refine wpU 6 rfl ?_;try simp only [Act.put,sA,sZ,sS]
   refine wpU 7 rfl ?_;try simp only [Act.put,sA,sZ,sS]
   refine wpAnyH_done (by kernel_rfl) ?_ _
   go_wp2_with fail
   go_meet
   exact⟨_,_,rfl,rfl,(smR_two' (w:=w)).keep (Old.drew (Old.refl _))⟩
 case rest=>
 obtain⟨sb,gb,rfl,rfl,h3⟩:=hcut
 obtain⟨w3,rfl⟩:∃V,V=wc:=⟨_,rfl⟩
 have H3:=zH h3
 clear h3 hMb hMg
 go_wp2_with fail
 go_loopw [26] (fun i wr=>∃k:Nat,k<=N/\i = .int .i64 k/\Hid (SmR w sb gb N (smTo k L) (gfTo k L) wr)) (fun i _=>N-(intOf i).toNat)
 case atStart=>exact⟨0,by omega,rfl,H3⟩
 case round=>
  obtain⟨k,hk,rfl,HR⟩:=hrel
  clear H3
  by_cases hlt:k<N
  ·have i1:(0:Int)<=k:=by omega
   have i2:(k:Int)<N:=by omega
   obtain⟨fg,fo,rfl,_,hcf⟩:=(HFr.out.old HR.out.old).row k hlt
   have HLd:=zH hcf
   have H1k:=zH (H1F.out k hlt)
   have HSk:=zH (HSp.out k hlt)
   obtain⟨R,hRd⟩:∃R:Array Value,R=rowN 29 (frC (L k).F (L k).s):=⟨_,rfl⟩
   have hRs:R.size=29:=by rw [hRd,rowN_size]
   obtain⟨nb,hnb⟩:∃q,q=wr.heap.size:=⟨_,rfl⟩
   obtain⟨U,hU⟩:∃V,V=wr.alloc (.cells R 113):=⟨_,rfl⟩
   have oU:Old wr U:=by rw [hU];exact Old.alloc _ _
   have HK:=zH (HR.out.keep oU)
   have hbox:FrB 113 U nb (L k).F (L k).s:=by unfold FrB;rw [hU,hnb,←hRd];exact heap_alloc_new _ _
   have hns:sb≠nb:=by have:=HR.out.s.lt;omega
   have hng:gb≠nb:=by have:=HR.out.g.lt;omega
   have HBx:Hid (∀V,Old U.drew V->FrB 113 V nb (L k).F (L k).s/\FrB 113 (V.setCells sb (k*16) (rowL 16 (specF (L k).F (L k).n (L k).T))) nb (L k).F (L k).s/\FrB 113 ((V.setCells sb (k*16) (rowL 16 (specF (L k).F (L k).n (L k).T))).setCells gb (k*4) (rowL 4 (L k).F)) nb (L k).F (L k).s):=zH fun V hV=>by
    have h:=hbox.old ((Old.drew (Old.refl _)).trans hV)
    have h':FrB 113 (V.setCells sb (k*16) (rowL 16 (specF (L k).F (L k).n (L k).T))) nb (L k).F (L k).s:=(setCells_heap_other _ _ _ _ _ hns.symm).trans h
    exact⟨h,h',(setCells_heap_other _ _ _ _ _ hng.symm).trans h'⟩
   have HUw:=zH hU
   have HUb:=zH hnb
   have HRd:=zH hRd
   have HRs:=zH hRs
   rw [←hRd] at H1k HSk
   clear HR hcf hRd hRs hU hnb oU hbox hns hng HSp H1F
   go_wp2_with (first
    | (with_reducible refine wpList_load_fr rfl (frC (L k).F (L k).s) 113 _ rfl fg (fo+k*29) rfl _ HLd.out Tryz.underlying113 rfl Hs29.out ?_;rw [←HRd.out])
    | (with_reducible refine wpList_store_row rfl 113 _ _ rfl wr.heap.size R rfl rfl 113 _ (heap_alloc_new _ _) (by rw [HRs.out];exact Hs29.out) (by rw [HRs.out];kernel_rfl) H1k.out ?_;rw [World.setRow_alloc_new,←HUw.out,←HUb.out]))
   refine wp_region_held_drew (S:=(fun w'=>FrB 113 w' nb (L k).F (L k).s)) (by kernel_rfl) ?_ (fun hHeld=>?_)
   ·(try dsimp only);exact(HBx.out _ (Old.refl _)).1
   refine wpU 0 rfl ?_;try simp only [Act.put,sA,sZ,sS]
   refine wpU 1 rfl ?_;try simp only [Act.put,sA,sZ,sS]
   refine wpU 2 rfl ?_;try simp only [Act.put,sA,sZ,sS]
   refine wpU 3 rfl ?_;try simp only [Act.put,sA,sZ,sS]
   refine wpT 4 (v:=.agg R) rfl (yieldsIf_load_row (by kernel_rfl) 113 (.tmp 10) rfl nb rfl 113 R (0,0) _ (fun _ h=>by rw [HRd.out];exact h) Tryz.underlying113 rfl (by rw [HRs.out];exact Hs29.out)) (by assumption) ?_;try simp only [Act.put,sA,sZ,sS]
   refine wpU 6 rfl ?_;try simp only [Act.put,sA,sZ,sS]
   refine wpT 7 (v:=.agg (rowN 4 (blk (L k).F))) rfl (yieldsIf_load_blk 4 (L k).F (by kernel_rfl) 44 (.tmp 37) rfl nb 0 rfl _ (fun _ h j hj=>by have h2:=FrB.part h 0 4 (by omega) j hj;rw [h2,Nat.zero_add]) Tryz.underlying44 rfl Hs4.out) (by assumption) ?_;try simp only [Act.put,sA,sZ,sS]
   refine wpR 5 rfl (fun K hK=>?_)
   go_simp
   refine(HSk.out _ (HK.out.old.trans (Old.drew (Old.refl _)))).mono ?_
   rintro e V1 ⟨rfl,o1⟩
   have HO1:=zH o1
   have hk1:=HK.out.keep ((Old.drew (Old.refl _)).trans o1)
   have HA:=zH (hk1.storeS k hlt (specF (L k).F (L k).n (L k).T))
   have HK1:=zH hk1
   clear o1 hk1 HSk
   go_wp2_with fail
   refine hK.out _ _ ?_ (fun hHeld=>?_)
   ·(try dsimp only);exact(HBx.out _ HO1.out).1
   clear hK K
   try simp only [Act.put,sA,sZ,sS]
   refine wpU 8 rfl ?_;try simp only [Act.put,sA,sZ,sS]
   refine wpR 9 rfl (fun K hK=>?_)
   rw [if_pos (by kernel_rfl)]
   with_reducible refine wp_store_blk 16 (specF (L k).F (L k).n (L k).T) 43 _ _ rfl (sb) (k*16) rfl rfl (HK1.out.s.there _ _ (by omega)) Hs16.out ?_
   try simp only [Act.put,sA,sZ,sS]
   refine hK.out _ _ ?_ (fun hHeld=>?_)
   ·(try dsimp only);exact(HBx.out _ HO1.out).2.1
   clear hK K
   try simp only [Act.put,sA,sZ,sS]
   refine wpU 10 rfl ?_;try simp only [Act.put,sA,sZ,sS]
   refine wpR 11 rfl (fun K hK=>?_)
   rw [if_pos (by kernel_rfl)]
   with_reducible refine wp_store_blk 4 ((L k).F) 44 _ _ rfl (gb) (k*4) rfl rfl (HA.out.g.there _ _ (by omega)) Hs4.out ?_
   try simp only [Act.put,sA,sZ,sS]
   refine hK.out _ _ ?_ (fun hHeld=>?_)
   ·(try dsimp only);exact(HBx.out _ HO1.out).2.2
   clear hK K
   try simp only [Act.put,sA,sZ,sS]
   refine wpAnyH_done (by kernel_rfl) ?_ _
   have hB:=HA.out.storeG k hlt (L k).F
   rw [smTo_step,gfTo_step] at hB
   have NX:=zH hB
   clear hB HA HK1 HO1 HBx HK HLd HUw HUb HRd
   go_wp2_with fail
   go_roundw
   case rel=>exact⟨k+1,by omega,by go_num,NX⟩
   case measure=>(simp [intOf];try omega)
  ·obtain rfl:k=N:=by omega
   have HLap:=zH (HB.out.old HR.out.old).lap_cell
   have HW:=zH (HWh.out sb gb wr HR.out)
   have HO:=zH HR.out.old
   clear HR HSp H1F HWh HFr
   go_wp2_with (with_reducible refine wpList_load_blk rfl 16 tI 57 _ rfl b 0 rfl _ HLap.out Tryz.underlying57 rfl HsL.out ?_)
   refine HW.out.mono ?_
   rintro e w5 ⟨g,rfl,hc5,_,o5⟩
   have hM:=make_sints n' hL2 w5
   have H0:Hid (WdR w5 n' (firstK 0 fun j=>satI (WF j)) (w5.alloc (.cells (rowN n' (blk fun _=>0)) 3))):=zH ⟨(cellsAt_new w5 _ _ _).ext fun j _=>by unfold firstK;rw [if_neg (by omega)],Old.alloc _ _⟩
   have HC5:=zH hc5
   have HO5:=zH (HO.out.trans o5)
   have HSat:=zH (fun(v:Int) (w:World)=>Sat_any v w)
   obtain⟨N,hNk⟩:∃N,N=n':=⟨_,rfl⟩
   clear hc5 o5 HW HLap HO HB hNk
   go_wp2_with fail
   go_loopw [55] (fun i wr=>∃k:Nat,k<=n'/\i = .int .i64 k/\Hid (WdR w5 n' (firstK k fun j=>satI (WF j)) wr)) (fun i _=>n'-(intOf i).toNat)
   case atStart=>exact⟨0,by omega,rfl,H0⟩
   case round=>
    obtain⟨j,hj,rfl,HR⟩:=hrel
    clear H0 hM
    by_cases hjt:j<n'
    ·have hcell:=(HR.out.old.cell (a:=⟨g,j,none⟩) HC5.out.lt).trans (HC5.out.cell j hjt)
     have j1:(0:Int)<=j:=by omega
     have j2:(j:Int)<n':=by omega
     have hold:=HR.out.at_.cell j hjt
     have hfr:=HR.out.at_.frz j hjt
     obtain⟨x,hx⟩:∃x,WF j=x:=⟨_,rfl⟩
     have NX:Hid (WdR w5 n' (firstK (j+1) fun j=>satI (WF j)) (wr.setCell ⟨w5.heap.size,j,none⟩ (.int .i64 (satI x)))):=by
      refine zH ⟨(HR.out.at_.set j hjt (satI x)).ext fun i _=>?_,HR.out.old.after (Kept.setCell (X:=fun q=>q<w5.heap.size) _ (a:=⟨w5.heap.size,j,none⟩) (by show ¬w5.heap.size<w5.heap.size;omega) _) fun _ h=>h⟩
      rw [←hx]
      exact congrFun (firstK_step j fun j=>satI (WF j)) i
     rw [hx] at hcell
     have HSx:=zH (HSat.out x)
     generalize satI x=y at *
     clear hx HR HC5
     go_wp2_with fail
     refine(HSx.out _).mono ?_
     rintro e w6 ⟨rfl,rfl⟩
     go_wp2_with fail
     go_roundw
     case rel=>exact⟨j+1,by omega,by go_num,NX⟩
     case measure=>(simp [intOf];try omega)
    ·obtain rfl:j=n':=by omega
     have HE:Hid (CellsAt wr w5.heap.size j (fun j=>satI (WF j))/\w.heap.size<=w5.heap.size/\Old w wr):=zH ⟨HR.out.at_.ext fun i hi=>by unfold firstK;rw [if_pos hi],HO5.out.size,HO5.out.trans HR.out.old⟩
     clear HR HC5
     go_wp2_with fail
     go_ret
     exact⟨_,rfl,HE.out.1,HE.out.2.1,HE.out.2.2⟩
theorem atI_ext{g h:Nat->Int}(e:∀k,k<4->g k=h k)(i:Int):atI g i=atI h i:=by
 have er:rightP g↔rightP h:=⟨fun hr k hk=>by rw [←e k hk];exact hr k hk,fun hr k hk=>by rw [e k hk];exact hr k hk⟩
 unfold atI
 by_cases c:0<=i/\i<16/\rightP g
 ·rw [if_pos c,if_pos ⟨c.1,c.2.1,er.1 c.2.2⟩,e _ (by omega)]
 ·rw [if_neg c,if_neg (fun d=>c ⟨d.1,d.2.1,er.2 d.2.2⟩)]
theorem wholeM_ext{N:Nat}{A B:Nat->Int}(h:∀q,q<N*16->A q=B q):∀q,q<N*16->wholeM N A q=wholeM N B q:=by
 unfold wholeM
 refine meetTo_ext fun q hq=>?_
 rw [mapTo_end _ _ _ _ hq,mapTo_end _ _ _ _ hq]
 obtain⟨b,r,rfl,hr,_,_⟩:=split16 q
 rw [mapB_at _ _ _ _ hr,mapB_at _ _ _ _ hr]
 exact bckN_same 4 (fun k hk=>h _ (by omega)) r hr
theorem wholeF_ext{N:Nat}{A B G H:Nat->Int}(h:∀q,q<N*16->A q=B q)(hG:∀q,q<N*4->G q=H q):∀q,q<N*16->wholeF N G N A q=wholeF N H N B q:=by
 intro q hq
 unfold wholeF
 rw [mapTo_end _ _ _ _ hq,mapTo_end _ _ _ _ hq]
 obtain⟨b,r,rfl,hr,_,_⟩:=split16 q
 rw [mapB_at _ _ _ _ hr,mapB_at _ _ _ _ hr]
 show downI (wholeM N A (b*16+r)) (atI (gainsAt G N b) r)=downI (wholeM N B (b*16+r)) (atI (gainsAt H N b) r)
 rw [wholeM_ext h _ hq,atI_ext (h:=gainsAt H N b) fun k hk=>?_]
 unfold gainsAt
 rw [if_pos (by omega),if_pos (by omega)]
 exact hG _ (by omega)
theorem exact_spec{F:Nat->Int}(hF:∀q,-32768<=F q/\F q<=32768){size:Int}(h55:55<=size){N:Nat}{L:Nat->Fr}(h:FmG size true F (spC true N F) N L):(∀q,q<N*16->smTo N L q=spC true N F q)/\∀q,q<N*4->gfTo N L q=gnC true F q:=by
 constructor
 ·intro q hq
  unfold smTo
  rw [if_pos (by omega)]
  have e:=fitR_exact (h (q/16) (by omega)).1 h55 (spectra_small hF true N (q/16) (by omega)) (q%16) (by omega)
  rw [e]
  show spC true N F (q/16*16+q%16)=_
  rw [show q/16*16+q%16=q by omega]
 ·intro q hq
  unfold gfTo
  rw [if_pos (by omega)]
  rcases(h (q/4) (by omega)).1 with ⟨_,e,_,_⟩ | ⟨h1,_⟩
  ·rw [e]
   unfold tolN
   rw [frN_g _ _ _ _ _ (by omega)]
   rfl
  ·omega
theorem exact_back{F:Nat->Int}(hF:∀q,-32768<=F q/\F q<=32768){size:Int}(h55:55<=size){N:Nat}{L:Nat->Fr}(h:FmG size true F (spC true N F) N L)(q:Nat)(hq:q<N*16):wholeF N (gfTo N L) N (smTo N L) q=F q:=by
 obtain⟨h1,h2⟩:=exact_spec hF h55 h
 rw [wholeF_ext h1 h2 q hq]
 exact lap_back (fun q=>by have:=hF q;omega) N _ N q hq
theorem satI_in(v:Int)(h1:-32768<=v)(h2:v<=32767):satI v=v:=by unfold satI;rw [clampI_eq];omega
theorem fmG_may{F:Nat->Int}(hF:∀q,-32768<=F q/\F q<=32768){size:Int}{ex:Bool}{N:Nat}{L:Nat->Fr}(h24:24<=size)(h:FmG size ex F (spC ex N F) N L)(i:Nat)(hi:i<N):FrP (L i).F (L i).n (L i).T/\costI (L i).F (L i).n<=8*size/\Fits64 (L i).T:=by
 have hs:=spectra_small hF ex N i hi
 have hf:Fits64 (rowAt (spC ex N F) i):=fun k=>spectraF_in N _ N (fun q=>by have:=hF q;omega) _
 obtain⟨h1,h2⟩:=h i hi
 exact⟨fitR_may h1 hs (gnR_right ex F i) h2,fitR_room h1 hs h2 h24,fitR_fits h1 hf⟩
end Go.Proofs.YtgefdmfcddpaiaaGreatDoor
