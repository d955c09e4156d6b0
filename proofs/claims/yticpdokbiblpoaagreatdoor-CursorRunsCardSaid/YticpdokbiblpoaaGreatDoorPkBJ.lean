/- Texts joined: OrdU, Twin. -/
import Derived.Test.YticpdokbiblpoaaGreatDoorPkAH
import Derived.Test.YticpdokbiblpoaaGreatDoorPkBE
import Derived.Test.YticpdokbiblpoaaGreatDoorTk
set_option linter.unusedVariables false
set_option linter.unusedSimpArgs false
namespace Go.Proofs.YticpdokbiblpoaaGreatDoor
open Go.Value renaming int → vI
open Go.IntKind renaming i64 → iJ
open Go.Ending renaming returned → rJ
set_option maxRecDepth 100000
open Go.RowKit Go.ChangeShapes Go.WideShapes
theorem aCs{n:Nat}{A C:Nat->ByteArray}(hA:∀i j,i<j->j<n->sP (A i) (A j)=true)(hC:∀i j,i<j->j<n->sP (C i) (C j)=true)
  (h1:∀i,i<n->∃j,j<n/\A i=C j) (h2:∀i,i<n->∃j,j<n/\C i=A j):∀i,i<n->A i=C i:=by
 have key:∀m,∀i,i<m->i<n->A i=C i:=by
  intro m
  induction m with
  | zero=>intro i h _;omega
  | succ m ih=>
   intro i him hi;by_cases hlt:i<m
   ·exact ih i hlt hi
   obtain⟨a,ha,ea⟩:=h1 i hi;obtain⟨b,hb,eb⟩:=h2 i hi;have a1:i<=a:=by
    rcases Nat.lt_or_ge a i with h | h
    ·have h3:=hA a i h hi;rw[ih a zO ha,<-ea,jT]at h3;cases h3
    ·exact h
   have b1:i<=b:=by
    rcases Nat.lt_or_ge b i with h | h
    ·have h3:=hC b i h hi;rw[<-ih b zO hb,<-eb,jT]at h3;cases h3
    ·exact h
   rcases Nat.lt_or_ge i a with h | h
   ·have h3:=hC i a h ha;rw[<-ea,eb]at h3;rcases Nat.lt_or_ge i b with h4 | h4
    ·have h5:=hA i b h4 hb;rw[aEi h5]at h3;cases h3
    ·obtain rfl:b=i:=zO;rw[jT]at h3;cases h3
   ·obtain rfl:a=i:=zO;exact ea
 exact fun i hi=>key (i+1) i zO hi
theorem aM.like.meta{S T:aM}(h:S.like T):sC S=sC T:=by
 have hl:=h.len;obtain⟨h1,h2,h3,h4,h5,h6,h7,h8⟩:=h;unfold sC;rw[h1,h2,h3,h4,h5,h6,hl]
theorem aM.like.frB{S T:aM}(h:S.like T)(sz:Nat):frB sz S=frB sz T:=by
 obtain⟨h1,h2,h3,h4,h5,h6,h7,h8⟩:=h;funext k j;unfold Proofs.YticpdokbiblpoaaGreatDoor.frB qG;rw[h6,h7,h8]
theorem WP{n:Nat}{Z Y:Nat->aM}(h:∀i,i<n->(Z i).like (Y i)):∀i,i<n->aI Z i=aI Y i:=fun i hi=>(h i hi).meta
theorem xW{n:Nat}{Z Y:Nat->aM}(h:∀i,i<n->(Z i).like (Y i)):∀i,i<n->aQ (aI Z) i=aQ (aI Y) i:=fun i hi=>by
 unfold aQ;rw[WP h i hi]
theorem qH{f g:Nat->Nat} : ∀{k:Nat},(∀i,i<k->f i=g i)->aF f k=aF g k
 | 0,_=>rfl
 | k+1,h=>by
  show aF f k+f k=aF g k+g k;rw[qH (fun i hi=>h i zO),h k zO]
theorem vD{f g:Nat->Nat}{sz n:Nat} : ∀{k:Nat},(∀i,i<k->f i=g i)->bO f sz n k=bO g sz n k
 | 0,_=>rfl
 | k+1,h=>by
  show pD (bO f sz n k+4*f k)+f k*sz=pD (bO g sz n k+4*g k)+g k*sz;rw[vD (fun i hi=>h i zO),h k zO]
theorem VZ(sz:Nat){Z Y:Nat->aM} : ∀{n:Nat},(∀i,i<n->(Z i).like (Y i))->JG sz Z n=JG sz Y n
 | 0,_=>rfl
 | n+1,h=>by
  funext j;show (if j<aF (aQ (aI Z)) n then JG sz Z n j else Proofs.YticpdokbiblpoaaGreatDoor.frB sz (Z n) (j-aF (aQ (aI Z)) n))=(if j<aF (aQ (aI Y)) n then JG sz Y n j else Proofs.YticpdokbiblpoaaGreatDoor.frB sz (Y n) (j-aF (aQ (aI Y)) n))
  rw[qH (fun i hi=>xW h i zO),VZ sz (fun i hi=>h i zO),(h n zO).frB]
theorem aM.like.symm{S T:aM}(h:S.like T):T.like S:=by
 obtain⟨h1,h2,h3,h4,h5,h6,h7,h8⟩:=h;exact⟨h1.symm,h2.symm,h3.symm,h4.symm,h5.symm,h6.symm,h7.symm,h8.symm⟩
theorem aBZ{S A C:aM}(h:rV S A)(k:rV S C):A.like C:=by
 obtain⟨a1,a2,a3,a4,a5,a6,a7,a8⟩:=h;obtain⟨b1,b2,b3,b4,b5,b6,b7,b8⟩:=k;exact⟨a1.trans b1.symm,a2.trans b2.symm,a3.trans b3.symm,a4.trans b4.symm,a5.trans b5.symm,a6.trans b6.symm,a7.trans b7.symm,a8.trans b8.symm⟩
theorem pM.twin{n:Nat}{L M Y X:Nat->aM}(hl:∀i,i<n->(L i).like (M i))(h:pM L n Y)(k:pM M n X):∀i,i<n->(Y i).like (X i):=by
 have hone:=aCs (n:=n) (A:=fun i=>(Y i).s) (C:=fun i=>(X i).s) h.rise k.rise
  (fun i hi=>by
   obtain⟨m,hm,e⟩:=h.frm i hi;obtain⟨j,hj,e2⟩:=k.all m hm;exact⟨j,hj,by show (Y i).s=(X j).s;rw[e,e2];exact(hl m hm).1⟩)
  (fun i hi=>by
   obtain⟨m,hm,e⟩:=k.frm i hi;obtain⟨j,hj,e2⟩:=h.all m hm;exact⟨j,hj,by show (X i).s=(Y j).s;rw[e,e2];exact(hl m hm).1.symm⟩)
 intro i hi;obtain⟨m,hm,e⟩:=k.frm i hi;obtain⟨j,hj,e2⟩:=h.all m hm;have h1:(Y i).s=(X i).s:=hone i hi;have h2:(Y j).s=(Y i).s:=by rw[e2,h1,e];exact(hl m hm).1
 have hji:j=i:=by
  rcases Nat.lt_trichotomy j i with h3 | h3 | h3
  ·have h4:=h.rise j i h3 hi;rw[h2,jT]at h4;cases h4
  ·exact h3
  ·have h4:=h.rise i j h3 hj;rw[h2,jT]at h4;cases h4
 rw[<-hji,e2,hji,e];exact hl m hm
theorem Ld.congr{f g:Nat->Nat}{sz n:Nat}{B:Nat->Nat->Int}{H:nI}{k:Nat}{F:nI}(h:Ld f sz n B H k F)(e:∀i,i<n->f i=g i):Ld g sz n B H k F where
 front:=h.front
 sum:=fun i q hi hq hk j hj=>by
  have e1:=vD (f:=f) (g:=g) (sz:=sz) (n:=n) (k:=i) (fun x hx=>e x zO);have e2:=qH (f:=f) (g:=g) (k:=i) (fun x hx=>e x zO);rw[<-e1,<-e2];exact h.sum i q hi (by rw[e i hi];exact hq) (by rw[e2];exact hk) j hj
 byte:=fun i q hi hq hk j hj=>by
  have e1:=vD (f:=f) (g:=g) (sz:=sz) (n:=n) (k:=i) (fun x hx=>e x zO);have e2:=qH (f:=f) (g:=g) (k:=i) (fun x hx=>e x zO);have e3:aL g sz n i=aL f sz n i:=by unfold aL;rw[e1,e i hi]
  rw[e3,<-e2];exact h.byte i q hi (by rw[e i hi];exact hq) (by rw[e2];exact hk) j hj
 gap:=fun p hp hg=>h.gap p hp fun i q hi hq hk=>by
  have e1:=vD (f:=f) (g:=g) (sz:=sz) (n:=n) (k:=i) (fun x hx=>e x zO);have e2:=qH (f:=f) (g:=g) (k:=i) (fun x hx=>e x zO);have e3:aL g sz n i=aL f sz n i:=by unfold aL;rw[e1,e i hi]
  rw[e1,<-e3];exact hg i q hi (by rw[<-e i hi];exact hq) (by rw[<-e2];exact hk)
theorem aFr{f g:Nat->Nat}{sz n:Nat}(e:∀i,i<n->f i=g i):aJ f sz n=aJ g sz n:=by
 unfold aJ;rw[vD e]
theorem aDG{n sz:Nat}{Z Y:Nat->aM}(h:∀i,i<n->(Z i).like (Y i))(i:Nat)(hi:i<n):eE (aI Z) sz n i=eE (aI Y) sz n i:=by
 have e1:=vD (f:=aQ (aI Z)) (g:=aQ (aI Y)) (sz:=sz) (n:=n) (k:=i) (fun x hx=>xW h x zO);have e3:aL (aQ (aI Z)) sz n i=aL (aQ (aI Y)) sz n i:=by unfold aL;rw[e1,xW h i hi]
 unfold eE;rw[e1,e3,WP h i hi]
theorem MA{len n sz:Int}{D E:Nat->Mt}{m:Nat}(e:∀i,i<m->D i=E i)(p:Nat)(hp:p<16+64*m):mA len n sz D p=mA len n sz E p:=by
 unfold mA;by_cases h:p<16
 ·rw[if_pos h,if_pos h]
 ·rw[if_neg h,if_neg h,e _ zO]
theorem YF{len:Int}{n sz:Nat}{D E:Nat->Mt}(e:∀i,i<n->D i=E i)(p:Nat)(hp:p<20+64*n):cC len n sz D p=cC len n sz E p:=by
 have hs:jE (mA len n sz D) (16+64*n)=jE (mA len n sz E) (16+64*n):=AD fun j hj=>MA e j hj;unfold cC;rw[hs];by_cases h:16+64*n<=p/\p<16+64*n+4
 ·unfold aV;rw[if_pos h,if_pos h]
 ·unfold aV;rw[if_neg h,if_neg h,MA e p zO]
theorem Pkd.twin{sz n:Nat}{Z Y:Nat->aM}{F G:nI}(hl:∀i,i<n->(Z i).like (Y i))(h:Pkd sz n Z F)(k:Pkd sz n Y G):F=G:=by
 have e:=fun i hi=>xW hl i hi;have h1:=h.ld.congr e;have h2:=k.ld;rw[qH e,VZ sz hl]at h1;funext p;refine h1.one h2 (fun p hp=>?_) p;rw[aFr e];exact YF (fun i hi=>aDG hl i hi) p hp
end Go.Proofs.YticpdokbiblpoaaGreatDoor
