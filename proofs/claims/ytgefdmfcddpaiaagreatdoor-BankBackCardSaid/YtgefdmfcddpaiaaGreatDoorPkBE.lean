/- Texts joined: BankAN, OrdU, ExS, Awake, BnkBk. -/
import Derived.Deep.RegionHeld
import Derived.BigQuiet
import Derived.Test.YtgefdmfcddpaiaaGreatDoorPkAH
import Derived.Test.YtgefdmfcddpaiaaGreatDoorPkAP
import Derived.Test.YtgefdmfcddpaiaaGreatDoorPkAV
import Derived.Test.YtgefdmfcddpaiaaGreatDoorPkBD
import Derived.Test.YtgefdmfcddpaiaaGreatDoorTk
namespace Go.Proofs.YtgefdmfcddpaiaaGreatDoor
set_option linter.unusedVariables false
set_option linter.unusedSimpArgs false
set_option maxRecDepth 100000
open Go.RowKit Go.ChangeShapes Go.WideShapes
theorem CellsV.put1{w:World}{g m:Nat}{C:Nat->Value}(h:CellsV w g m C)(o:Nat)(ho:o<m)(v:Value):CellsV (w.setCell ⟨g,o,none⟩ v) g m (fun j=>if j=o then v else C j):=by
 have:=h.setCells o 1 (by omega) (fun _=>v)
 refine CellsV.ext this fun j _=>?_
 unfold patchV
 by_cases e:j=o
 ·rw [if_pos (by omega),if_pos e]
 ·rw [if_neg (by omega),if_neg e]
def rwV(R:Nat->Nat)(len k:Nat):Nat->Value:=fun c=>if c<k then .slice (some ⟨R c,0,none⟩) len len else .slice none 0 0
structure UpS(w:World)(rb mb g C len k:Nat)(z X:Array Value)(V:Nat->Nat->Int)(R:Nat->Nat)(wr:World):Prop where
 hrb:wr.heap[rb]?=some (.cells z 90 (0,0))
 hmb:wr.heap[mb]?=some (.cells X 85 (0,0))
 hg:CellsV wr g C (rwV R len k)
 row:∀c,c<k->CellsAt wr (R c) len (V c)/\R c≠g/\R c≠rb
 ne:rb≠g/\mb≠g
 old:Old w wr
 new:w.heap.size<=rb/\w.heap.size<=g
namespace UpS
variable {w wr U:World} {rb mb g C len k:Nat} {z X:Array Value} {V:Nat->Nat->Int} {R:Nat->Nat}
theorem keep(h:UpS w rb mb g C len k z X V R wr)(o:Old wr U):UpS w rb mb g C len k z X V R U:=
 ⟨(o.block _ (lt_of_block h.hrb)).trans h.hrb,(o.block _ (lt_of_block h.hmb)).trans h.hmb,h.hg.old o,fun c hc=>⟨(h.row c hc).1.old o,(h.row c hc).2⟩,h.ne,h.old.trans o,h.new⟩
theorem next(h:UpS w rb mb g C len k z X V R wr)(hk:k<C)(r:Nat)(hr:CellsAt wr r len (V k))(hg:r≠g)(hb:r≠rb):UpS w rb mb g C len (k+1) z X V (fun c=>if c=k then r else R c) (wr.setCell ⟨g,k,none⟩ (.slice (some ⟨r,0,none⟩) len len)):=by
 have kk:Kept (fun q=>q≠g) wr (wr.setCell ⟨g,k,none⟩ (.slice (some ⟨r,0,none⟩) len len)):=Kept.setCell wr (X:=fun q=>q≠g) (a:=⟨g,k,none⟩) (fun e=>e rfl) _
 refine⟨(kk.block _ h.ne.1).trans h.hrb,(kk.block _ h.ne.2).trans h.hmb,(h.hg.put1 k hk _).ext fun j hj=>?_,fun c hc=>?_,h.ne,h.old.after kk fun q hq e=>by have:=h.new.2;omega,h.new⟩
 ·unfold rwV
  by_cases e:j=k
  ·rw [if_pos e,if_pos (by omega)]
   dsimp only
   rw [if_pos e]
  ·rw [if_neg e]
   by_cases e2:j<k
   ·rw [if_pos e2,if_pos (by omega)]
    dsimp only
    rw [if_neg e]
   ·rw [if_neg e2,if_neg (by omega)]
 ·by_cases e:c=k
  ·rw [if_pos e,e]
   exact⟨hr.kept kk hg,hg,hb⟩
  ·rw [if_neg e]
   have:=h.row c (by omega)
   exact⟨this.1.kept kk this.2.1,this.2⟩
end UpS
def UnpR(w:World)(m:Mt)(C len:Nat)(V:Nat->Nat->Int)(e:Ending)(w':World):Prop:=
 ∃S:Smp,e = .returned (.tuple #[.agg S.cells,.int .i64 0])/\SmOk w' S/\S.s=m.s/\S.r=m.r/\S.lp=m.lp/\S.a=m.a/\S.b=m.b/\S.n=C/\(∀c,S.M c=len)/\S.X=V/\Old w w'
theorem Tryz.infoRI:(Tryz.prog.info? 23).map (fun i=>(i.zero,i.size,i.bytes))=some (some (.slice none 0 0),1,24):=by kernel_rfl
theorem made_rows(n:Nat):madeCells (Value.slice none 0 0:Value).cells n=rowN n (fun _=>.slice none 0 0):=by
 show madeCells #[Value.slice none 0 0] n=_
 apply Array.ext_getElem?
 intro i
 by_cases hi:i<n
 ·rw [rowN_at _ _ i hi]
  simp [madeCells,hi,Nat.mod_one]
 ·rw [Array.getElem?_eq_none (by rw [size_madeCells];omega),Array.getElem?_eq_none (by rw [rowN_size];omega)]
theorem make_rowsI(n:Nat)(hn:n<=1048576)(w:World):(Instr.makeSlice 88 (.int .i64 n) (.int .i64 n)).run Tryz.prog w = .ok (.slice (some ⟨w.heap.size,0,none⟩) n n) (w.alloc (.cells (rowN n fun _=>.slice none 0 0) 23)):=by
 obtain⟨i,hi,hz0,hz1,hz2⟩:=info_parts Tryz.infoRI
 rw [run_make w _ _ i _ Tryz.underlying88 hi hz0 .i64 .i64 n n (by omega) (by omega) (by rw [hz2];omega) (by omega),hz1,Int.toNat_natCast,Nat.mul_one,made_rows]
set_option maxHeartbeats 8000000 in
theorem Unpack_good(bb sz n:Nat)(q:Option Addr)(c:Nat)(im:Option Addr)(ci:Nat)(D:Nat->Mt)(F:Nat->Int)(Z:Nat->Smp)(w:World)(h:BkB w bb sz n (totalAt (frD (mtsD Z)) sz n) q c im ci D F)(pk:Pkd sz n Z F)(hD:D=plD (mtsD Z) sz n)(k:Nat)(hk:k<n)
  (len N C:Nat) (hlen:len=(D k).n.toNat) (hN:N=cnt len) (hC:C=(D k).c.toNat) (L:Nat->Nat->Fr) (hL:∀ch,ch<C->∀b,b<N->FrP (L ch b).F (L ch b).n (L ch b).T/\Tells (frmL sz (chL (Z k) ch) b) (enc (L ch b).F (L ch b).n (L ch b).T)):
  Calls Tryz.prog 36 #[.pointer (some ⟨bb,0,none⟩),.int .i64 k] w (UnpR w (D k) C len (fun ch j=>satI (wholeF N (gfTo N (L ch)) N (smTo N (L ch)) j))):=by
 have Hs9:Hid ((Tryz.prog.info? 85).map (·.size)=some 9):=zH (by kernel_rfl)
 have Hs6:Hid ((Tryz.prog.info? 90).map (·.size)=some 6):=zH (by kernel_rfl)
 have hbn:BkN sz n (totalAt (frD (mtsD Z)) sz n) D F:=by rw [hD];exact pk.bkN
 have hz0:0<sz:=by have:=hbn.z1;omega
 have hn64:=hbn.n64
 have hcc:(D k).c=(Z k).n:=by rw [hD];rfl
 have hn2:=(pk.v k hk).n2
 have hC2:C<=2:=by omega
 have HWh:Hid (∀V ch,ch<C->Old w V->Calls Tryz.prog 11 #[.pointer (some ⟨bb,0,none⟩),.int .i64 k,.int .i64 ch] V (WholeR V len N (L ch))):=zH fun V ch hch hV=>Whole_good bb sz n q c im ci D F Z V (h.old hV) pk hD k ch hk (by omega) len N hlen hN (L ch) (hL ch hch)
 have hmS:=h.dir.str k hk
 obtain⟨z,hz⟩:∃z:Array Value,z=#[.string ⟨#[]⟩,.int .i64 0,.bool false,.int .i64 0,.int .i64 0,.slice none 0 0]:=⟨_,rfl⟩
 obtain⟨rb,hrb⟩:∃x,x=w.heap.size:=⟨_,rfl⟩
 obtain⟨W0,hW0⟩:∃V,V=w.alloc (.cells z 90):=⟨_,rfl⟩
 have ho0:Old w W0:=by rw [hW0];exact Old.alloc _ _
 have hb0:W0.heap[rb]?=some (.cells z 90 (0,0)):=by rw [hW0,hrb];exact heap_alloc_new _ _
 have HM:=zH (BMeta_at bb sz n _ q c im ci D F W0 (h.old ho0) hz0 hn64 k hk)
 have hMk:=fun V=>make_rowsI C (by omega) V
 obtain⟨m,hm⟩:∃m,m=D k:=⟨_,rfl⟩
 rw [←hm] at HM hmS hC ⊢
 obtain⟨X,hX⟩:∃X,X=m.cells:=⟨_,rfl⟩
 have HX9:Hid (X.size=9):=zH (by rw [hX];exact Mt.size9 _)
 have HX1:Hid (X.all (·.oneCell')=true):=zH (by rw [hX];exact Mt.one _)
 have hmc:m.c=(C:Int):=by rw [hm] at hC ⊢;omega
 have HXs:Hid (X[0]?=some (.string m.s)/\X[2]?=some (.int .i64 m.r)/\X[3]?=some (.int .i64 C)/\X[4]?=some (.bool m.lp)/\X[5]?=some (.int .i64 m.a)/\X[6]?=some (.int .i64 m.b)):=zH (by rw [hX,←hmc];exact⟨rfl,rfl,rfl,rfl,rfl,rfl⟩)
 rw [←hX] at HM
 obtain⟨VF,hVF⟩:∃f:Nat->Nat->Int,f=fun ch j=>satI (wholeF N (gfTo N (L ch)) N (smTo N (L ch)) j):=⟨_,rfl⟩
 have HWh:Hid (∀V ch,ch<C->Old w V->Calls Tryz.prog 11 #[.pointer (some ⟨bb,0,none⟩),.int .i64 k,.int .i64 ch] V fun e V'=>∃r,e = .returned (.tuple #[.slice (some ⟨r,0,none⟩) len len,.int .i64 0])/\CellsAt V' r len (VF ch)/\V.heap.size<=r/\Old V V'):=zH fun V ch hch hV=>(HWh.out V ch hch hV).mono fun e V' h=>by rw [hVF];exact h
 rw [←hVF]
 have HO0:=zH ho0
 have HB0:=zH hb0
 have HW0:=zH hW0
 have HRb:=zH hrb
 have Hz:=zH hz
 have HLn:Hid (len<=maxLen):=zH (by have hd:=hlen;have:=(hbn.ok k hk).n2;unfold maxLen;omega)
 have HMs:=zH hmS
 clear h pk hD hk hbn hcc hn2 hm hX hmc hVF hL hlen hN hC ho0 hb0 hW0 hrb hz hz0 hn64 hmS
 go_enter Tryz.func36,Tryz.ntmps36
 go_wp2_with fail
 rw [←Hz.out,←HW0.out,←HRb.out]
 refine HM.out.mono ?_
 rintro e V0 ⟨rfl,o0⟩
 obtain⟨W1,hW1⟩:∃V,V=V0.alloc (.cells X 85):=⟨_,rfl⟩
 obtain⟨mb,hmb⟩:∃x,x=V0.heap.size:=⟨_,rfl⟩
 have ho1:Old V0 W1:=by rw [hW1];exact Old.alloc _ _
 have hbx:W1.heap[mb]?=some (.cells X 85 (0,0)):=by rw [hW1,hmb];exact heap_alloc_new _ _
 have cl:W1.cell? ⟨mb,3,none⟩=some (.int .i64 C):=(cell_of_row _ _ _ _ _ _ hbx).trans HXs.out.2.2.1
 obtain⟨g,hg⟩:∃x,x=W1.heap.size:=⟨_,rfl⟩
 obtain⟨W2,hW2⟩:∃V,V=W1.alloc (.cells (rowN C fun _=>.slice none 0 0) 23):=⟨_,rfl⟩
 have ho2:Old W1 W2:=by rw [hW2];exact Old.alloc _ _
 have HS0:Hid (UpS w rb mb g C len 0 z X VF (fun _=>0) W2):=zH (by
  have r0:=lt_of_block HB0.out
  have r1:=o0.size
  have r2:=ho1.size
  have r3:=lt_of_block hbx
  have r4:=HO0.out.size
  have hrbw:=HRb.out
  refine⟨(((o0.trans ho1).trans ho2).block _ r0).trans HB0.out,(ho2.block _ r3).trans hbx,by rw [hW2,hg];exact cellsV_of (by rw [show rwV (fun _=>0) len 0=fun _=>.slice none 0 0 from funext fun c=>if_neg (by omega)];exact heap_alloc_new _ _),fun c hc=>by omega,⟨by omega,by omega⟩,((HO0.out.trans o0).trans ho1).trans ho2,⟨by omega,by omega⟩⟩)
 have HW1:=zH hW1
 have HMb:=zH hmb
 have HW2:=zH hW2
 have HG:=zH hg
 clear o0 hW1 hmb hbx HM ho1 hW2 hg ho2 HB0 HO0 HRb HW0
 go_wp2_with (with_reducible refine wpList_store_row rfl 85 _ _ rfl V0.heap.size X rfl rfl 85 _ (heap_alloc_new _ _) (by rw [HX9.out];exact Hs9.out) (by rw [HX9.out];kernel_rfl) HX1.out ?_;rw [World.setRow_alloc_new,←HW1.out,←HMb.out])
 rw [←HG.out,←HW2.out]
 clear cl HW1 HMb HW2 HG
 go_loopw [25] (fun iv wr=>∃j:Nat,j<=C/\iv = .int .i64 j/\Hid (∃R,UpS w rb mb g C len j z X VF R wr)) (fun iv _=>C-(intOf iv).toNat)
 case atStart=>exact⟨0,by omega,by go_num,zH ⟨_,HS0.out⟩⟩
 case round=>
  clear HS0
  obtain⟨j,hj,rfl,HR⟩:=hrel
  obtain⟨R,hS⟩:=HR.out
  by_cases hlt:j<C
  ·have j0:(0:Int)<=j:=by omega
   have j1:(j:Int)<C:=by omega
   have HWj:=zH (HWh.out wr j hlt hS.old)
   have HS:=zH hS
   clear hS HR HWh hMk
   go_wp2_with fail
   refine HWj.out.mono ?_
   rintro e V2 ⟨r,rfl,hr,hrg,o2⟩
   have hS2:=HS.out.keep o2
   have hrne:r≠g:=by have:=HS.out.hg.lt;omega
   have hrnb:r≠rb:=by have:=lt_of_block HS.out.hrb;omega
   have HN:=zH (hS2.next hlt r hr hrne hrnb)
   have c1:=hS2.hg.cell j hlt
   have c2:=hS2.hg.frz j hlt
   obtain⟨u,hu⟩:∃u,u=rwV R len j j:=⟨_,rfl⟩
   rw [←hu] at c1
   clear hS2 hr hrg o2 hrne hrnb HS HWj hu
   go_wp2_with fail
   go_roundw
   case rel=>exact⟨j+1,by omega,by go_num,zH ⟨_,HN.out⟩⟩
   case measure=>simp [intOf];omega
  ·obtain rfl:j=C:=by omega
   have hmb:=hS.hmb
   have d0:wr.cell? ⟨mb,0,none⟩=some (.string m.s):=(cell_of_row _ _ _ _ _ _ hmb).trans HXs.out.1
   have d2:wr.cell? ⟨mb,2,none⟩=some (.int .i64 m.r):=(cell_of_row _ _ _ _ _ _ hmb).trans HXs.out.2.1
   have d4:wr.cell? ⟨mb,4,none⟩=some (.bool m.lp):=(cell_of_row _ _ _ _ _ _ hmb).trans HXs.out.2.2.2.1
   have d5:wr.cell? ⟨mb,5,none⟩=some (.int .i64 m.a):=(cell_of_row _ _ _ _ _ _ hmb).trans HXs.out.2.2.2.2.1
   have d6:wr.cell? ⟨mb,6,none⟩=some (.int .i64 m.b):=(cell_of_row _ _ _ _ _ _ hmb).trans HXs.out.2.2.2.2.2
   have HRb:=zH hS.hrb
   have H1:Hid ((#[.string m.s,.int .i64 m.r,.bool m.lp,.int .i64 m.a,.int .i64 m.b,.slice (some ⟨g,0,none⟩) j j]:Array Value).all (·.oneCell')=true):=zH (by kernel_rfl)
   have HS:=zH hS
   clear hmb hS HR HWh hMk hlt hj
   go_wp2_with (with_reducible refine wpList_store_row rfl 90 _ _ rfl rb #[.string m.s,.int .i64 m.r,.bool m.lp,.int .i64 m.a,.int .i64 m.b,.slice (some ⟨g,0,none⟩) j j] rfl rfl 90 _ HRb.out (by kernel_rfl) (by rw [Hz.out];kernel_rfl) H1.out ?_)
   have hrr:=row_ret (w:=w) HRb.out HS.out.old HS.out.new.1 #[.string m.s,.int .i64 m.r,.bool m.lp,.int .i64 m.a,.int .i64 m.b,.slice (some ⟨g,0,none⟩) j j]
   refine bodyPost_ret (results_row_tmp rfl _ _ rb 90 _ (0,0) _ rfl hrr.1 Tryz.underlying90 rfl Hs6.out) rfl ?_
   have kk:=Kept.setRow wr rb #[.string m.s,.int .i64 m.r,.bool m.lp,.int .i64 m.a,.int .i64 m.b,.slice (some ⟨g,0,none⟩) j j]
   have hne:=HS.out.ne
   refine⟨⟨m.s,m.r,m.lp,m.a,m.b,some ⟨g,0,none⟩,j,j,fun c=>some ⟨R c,0,none⟩,fun _=>len,fun _=>len,VF⟩,rfl,⟨HMs.out,Nat.le_refl _,by show j<=maxLen;unfold maxLen;omega,⟨fun _=>⟨g,0,rfl,Nat.lt_of_lt_of_le HS.out.hg.lt kk.size,fun i hi=>?_⟩,fun i hi=>⟨Nat.le_refl _,HLn.out,fun _=>?_⟩⟩⟩,rfl,rfl,rfl,rfl,rfl,rfl,fun _=>rfl,rfl,hrr.2⟩
   ·have hi:i<j:=hi
    rw [Nat.zero_add]
    refine(kk.cell (a:=⟨g,i,none⟩) (show g≠rb from fun e=>hne.1 e.symm)).trans ((HS.out.hg.cell i hi).trans ?_)
    unfold rwV
    rw [if_pos hi]
   ·have hi:i<j:=hi
    have hr:=(HS.out.row i hi).1
    have hrb:R i≠rb:=(HS.out.row i hi).2.2
    exact⟨R i,0,rfl,Nat.lt_of_lt_of_le hr.lt kk.size,fun q hq=>by rw [Nat.zero_add];exact(kk.cell (a:=⟨R i,q,none⟩) hrb).trans (hr.cell q hq)⟩
theorem rise_one{n:Nat}{A C:Nat->ByteArray}(hA:∀i j,i<j->j<n->ltS (A i) (A j)=true)(hC:∀i j,i<j->j<n->ltS (C i) (C j)=true)
  (h1:∀i,i<n->∃j,j<n/\A i=C j) (h2:∀i,i<n->∃j,j<n/\C i=A j):∀i,i<n->A i=C i:=by
 have key:∀m,∀i,i<m->i<n->A i=C i:=by
  intro m
  induction m with
  | zero=>intro i h _;omega
  | succ m ih=>
   intro i him hi
   by_cases hlt:i<m
   ·exact ih i hlt hi
   obtain⟨a,ha,ea⟩:=h1 i hi
   obtain⟨b,hb,eb⟩:=h2 i hi
   have a1:i<=a:=by
    rcases Nat.lt_or_ge a i with h | h
    ·have h3:=hA a i h hi
     rw [ih a (by omega) ha,←ea,ltS_irr] at h3
     cases h3
    ·exact h
   have b1:i<=b:=by
    rcases Nat.lt_or_ge b i with h | h
    ·have h3:=hC b i h hi
     rw [←ih b (by omega) hb,←eb,ltS_irr] at h3
     cases h3
    ·exact h
   rcases Nat.lt_or_ge i a with h | h
   ·have h3:=hC i a h ha
    rw [←ea,eb] at h3
    rcases Nat.lt_or_ge i b with h4 | h4
    ·have h5:=hA i b h4 hb
     rw [ltS_asym h5] at h3
     cases h3
    ·obtain rfl:b=i:=by omega
     rw [ltS_irr] at h3
     cases h3
   ·obtain rfl:a=i:=by omega
    exact ea
 exact fun i hi=>key (i+1) i (by omega) hi
theorem name_one{L:Nat->Smp}{n:Nat}(hd:∀i j,i<n->j<n->i≠j->(L i).s≠(L j).s){i j:Nat}(hi:i<n)(hj:j<n)(h:(L i).s=(L j).s):i=j:=by
 by_cases e:i=j
 ·exact e
 ·exact absurd h (hd i j hi hj e)
theorem Ordd.of_srt{L:Nat->Smp}{n:Nat}{G:Nat->Int}{Z Y:Nat->Smp}(h:SrtO (nameR (nmS L)) (fun j=>(j:Int)) n G)(hz:∀i,i<n->(Z i).like (L (G i).toNat))
  (hd:∀i j,i<n->j<n->i≠j->(L i).s≠(L j).s) (hY:Ordd L n Y):∀i,i<n->(Z i).like (Y i):=by
 have hg:∀i,i<n->(G i).toNat<n:=fun i hi=>by
  obtain⟨m,hm,e⟩:=h.frm i hi
  rw [e];simpa using hm
 have hs:∀i,i<n->(Z i).s=(L (G i).toNat).s:=fun i hi=>(hz i hi).1
 have hA:∀i j,i<j->j<n->ltS (Z i).s (Z j).s=true:=fun i j hij hj=>by
  rw [hs i (by omega),hs j hj]
  rcases h.ord i j hij hj with h1 | ⟨h1,h2⟩
  ·exact h1
  ·cases h3:ltS (L (G i).toNat).s (L (G j).toNat).s
   ·have h4:=name_one hd (hg i (by omega)) (hg j hj) (ltS_tri h3 h1)
    obtain⟨m,hm,e⟩:=h.frm i (by omega)
    obtain⟨m',hm',e'⟩:=h.frm j hj
    rw [e,e'] at h2 h4
    simp at h2 h4
    omega
   ·rfl
 have hone:=rise_one (n:=n) (A:=fun i=>(Z i).s) (C:=fun i=>(Y i).s) hA hY.rise
  (fun i hi=>by
   obtain⟨j,hj,e⟩:=hY.all (G i).toNat (hg i hi)
   exact⟨j,hj,by show (Z i).s=(Y j).s;rw [hs i hi,e]⟩)
  (fun i hi=>by
   obtain⟨m,hm,e⟩:=hY.frm i hi
   obtain⟨k,hk,e2⟩:=h.all m hm
   exact⟨k,hk,by show (Y i).s=(Z k).s;rw [hs k hk,e,e2];simp⟩)
 intro i hi
 obtain⟨m,hm,e⟩:=hY.frm i hi
 have h1:=hone i hi
 have h2:(Z i).s=(Y i).s:=h1
 rw [hs i hi,e] at h2
 have h3:=name_one hd (hg i hi) hm h2
 have h4:=hz i hi
 rw [h3] at h4
 rw [e]
 exact h4
theorem Smp.like.meta{S T:Smp}(h:S.like T):smM S=smM T:=by
 have hl:=h.len
 obtain⟨h1,h2,h3,h4,h5,h6,h7,h8⟩:=h
 unfold smM
 rw [h1,h2,h3,h4,h5,h6,hl]
def exS(p q:Option Addr):Smp:=⟨⟨#[97]⟩,1,false,0,0,p,1,1,fun _=>q,fun _=>1,fun _=>1,fun _ _=>5⟩
theorem exS_check(p q:Option Addr):(exS p q).check=0:=by
 unfold Smp.check
 have h1:wrongI (exS p q).s (exS p q).len (exS p q).r (exS p q).n (exS p q).lp (exS p q).a (exS p q).b=0:=by
  show wrongI ⟨#[97]⟩ (exS p q).len 1 1 false 0 0=0
  have hl:(exS p q).len=1:=by unfold Smp.len;rw [if_neg (by show ¬(1:Nat)=0;omega)];rfl
  have hn:nameB ⟨#[97]⟩=true:=nameB_yes ⟨⟨by decide,by decide⟩,fun i hi=>by
   have hi:i<1:=hi
   obtain rfl:i=0:=by omega
   decide⟩
  rw [hl]
  unfold wrongI
  rw [hn,if_neg (by decide),if_neg (by decide),if_neg (by decide),if_pos (by unfold loopP;decide)]
 have h2:¬(exS p q).odd:=fun⟨k,_,h⟩=>h rfl
 have h3:¬(exS p q).far:=fun⟨k,_,i,_,h⟩=>by
  have h:(5:Int) < -32768\/32767<(5:Int):=h
  omega
 rw [h1,if_neg (by decide),if_neg h2,if_neg h3]
theorem exS_all(p q:Option Addr):allI (fun _=>exS p q) 1=0:=by
 refine allI_ok (by omega) ?_ fun⟨i,k,h1,h2,_⟩=>by omega
 rw [errTo_next rfl]
 exact exS_check p q
theorem exS_dir{p q:Option Addr}{Z:Nat->Smp}(h:Ordd (fun _=>exS p q) 1 Z):Z 0=exS p q:=by
 obtain⟨m,_,e⟩:=h.frm 0 (by omega)
 exact e
theorem exS_nums{p q:Option Addr}{Z:Nat->Smp}(h:Ordd (fun _=>exS p q) 1 Z):totalAt (frD (mtsD Z)) 24 1=128/\plD (mtsD Z) 24 1 0=⟨⟨#[97]⟩,1,1,1,false,0,0,84,96⟩:=by
 have hf:frD (mtsD Z) 0=1:=by
  unfold frD mtsD
  rw [exS_dir h,smM_fr (Smp.check_v (exS_check p q))]
  show cnt 1*1=1
  decide
 have ha:atTo (frD (mtsD Z)) 24 1 0=84:=rfl
 have hfi:firstAt (frD (mtsD Z)) 24 1 0=96:=by unfold firstAt;rw [hf,ha];rfl
 refine⟨?_,?_⟩
 ·unfold totalAt
  rw [atTo_succ,hfi,hf]
  rfl
 ·unfold plD
  rw [ha,hfi]
  show (smM (Z 0)).at_ _ _=_
  rw [exS_dir h]
  have hl:(exS p q).len=1:=by unfold Smp.len;rw [if_neg (by show ¬(1:Nat)=0;omega)];rfl
  unfold smM Mt.at_
  rw [hl]
  rfl
theorem exS_sms(w:World)(T1 T2 T3:TypeId):SmsS (((w.alloc (.cells #[.int .i64 5] T1)).alloc (.cells #[.slice (some ⟨w.heap.size,0,none⟩) 1 1] T2)).alloc (.cells (exS (some ⟨w.heap.size+1,0,none⟩) (some ⟨w.heap.size,0,none⟩)).cells T3)) (some ⟨w.heap.size+1+1,0,none⟩) 1 (fun _=>exS (some ⟨w.heap.size+1,0,none⟩) (some ⟨w.heap.size,0,none⟩)):=by
 obtain⟨W1,hW1⟩:∃W,W=w.alloc (.cells #[.int .i64 5] T1):=⟨_,rfl⟩
 have s1:W1.heap.size=w.heap.size+1:=by rw [hW1];simp
 have h1:W1.heap[w.heap.size]?=some (.cells #[.int .i64 5] T1 (0,0)):=by rw [hW1];exact heap_alloc_new _ _
 obtain⟨W2,hW2⟩:∃W,W=W1.alloc (.cells #[.slice (some ⟨w.heap.size,0,none⟩) 1 1] T2):=⟨_,rfl⟩
 have s2:W2.heap.size=w.heap.size+1+1:=by rw [hW2,←s1];simp
 have h2:W2.heap[w.heap.size+1]?=some (.cells #[.slice (some ⟨w.heap.size,0,none⟩) 1 1] T2 (0,0)):=by rw [hW2,←s1];exact heap_alloc_new _ _
 have o2:Old W1 W2:=by rw [hW2];exact Old.alloc _ _
 rw [←hW1,←hW2]
 obtain⟨W3,hW3⟩:∃W,W=W2.alloc (.cells (exS (some ⟨w.heap.size+1,0,none⟩) (some ⟨w.heap.size,0,none⟩)).cells T3):=⟨_,rfl⟩
 have o3:Old W2 W3:=by rw [hW3];exact Old.alloc _ _
 have h3:W3.heap[w.heap.size+1+1]?=some (.cells (exS (some ⟨w.heap.size+1,0,none⟩) (some ⟨w.heap.size,0,none⟩)).cells T3 (0,0)):=by rw [hW3,←s2];exact heap_alloc_new _ _
 rw [←hW3]
 have h2':=(o3.block _ (lt_of_block h2)).trans h2
 have h1':=((o2.trans o3).block _ (lt_of_block h1)).trans h1
 refine⟨fun _=>⟨_,0,rfl,lt_of_block h3,fun i hi f v hf=>?_⟩,fun i hi=>⟨by show (1:Nat)<=_;omega,Nat.le_refl _,by show (1:Nat)<=maxLen;unfold maxLen;omega,⟨fun _=>⟨_,0,rfl,lt_of_block h2',fun i hi=>?_⟩,fun i hi=>⟨Nat.le_refl _,by show (1:Nat)<=maxLen;unfold maxLen;omega,fun _=>⟨_,0,rfl,lt_of_block h1',fun j hj=>?_⟩⟩⟩⟩⟩
 ·obtain rfl:i=0:=by omega
  rw [show 0+0*6+f=f by omega]
  exact(cell_of_row _ _ _ _ _ _ h3).trans hf
 ·have hi:i<1:=hi
  obtain rfl:i=0:=by omega
  exact(cell_of_row _ _ _ _ _ _ h2').trans rfl
 ·have hj:j<1:=hj
  obtain rfl:j=0:=by omega
  exact(cell_of_row _ _ _ _ _ _ h1').trans rfl
set_option maxHeartbeats 4000000 in
theorem awake_any(w:World):Calls Tryz.prog 27 #[] w fun e w'=>e = .returned (.bool true)/\Old w w':=by
 obtain⟨W3,hW3⟩:∃W,W=(((w.alloc (.cells #[.int .i64 5] 3)).alloc (.cells #[.slice (some ⟨w.heap.size,0,none⟩) 1 1] 23)).alloc (.cells (exS (some ⟨w.heap.size+1,0,none⟩) (some ⟨w.heap.size,0,none⟩)).cells 90)):=⟨_,rfl⟩
 have ho:Old w W3:=by rw [hW3];exact((Old.alloc w _).alloc' _).alloc' _
 have hsm:SmsS W3 (some ⟨w.heap.size+1+1,0,none⟩) 1 (fun _=>exS (some ⟨w.heap.size+1,0,none⟩) (some ⟨w.heap.size,0,none⟩)):=by rw [hW3];exact exS_sms w _ _ _
 have HPk:=zH (Pack_any 24 _ 1 1 _ W3 hsm (by omega))
 have HA:=zH (exS_all (some ⟨w.heap.size+1,0,none⟩) (some ⟨w.heap.size,0,none⟩))
 have HO:=zH ho
 obtain⟨L,hL⟩:∃L:Nat->Smp,L=fun _=>exS (some ⟨w.heap.size+1,0,none⟩) (some ⟨w.heap.size,0,none⟩):=⟨_,rfl⟩
 rw [←hL] at HPk HA
 have HNu:Hid (∀Z,Ordd L 1 Z->totalAt (frD (mtsD Z)) 24 1=128/\plD (mtsD Z) 24 1 0=⟨⟨#[97]⟩,1,1,1,false,0,0,84,96⟩):=zH fun Z h=>exS_nums (by rw [hL] at h;exact h)
 have HDr:Hid (∀Z,Ordd L 1 Z->dirP (mtsD Z) 1):=zH fun Z h=>h.dir fun i _=>by rw [hL];exact Smp.check_v (exS_check _ _)
 unfold exS Smp.cells at hW3
 have HW3:=zH hW3
 clear hW3 ho hsm hL
 go_enter Tryz.func27,Tryz.ntmps27
 go_wp2_with fail
 rw [←HW3.out]
 refine HPk.out.mono ?_
 rintro e V (⟨h1,_⟩ | ⟨_,h1,_⟩ | ⟨_,_,Z,hz,hb⟩)
 ·exact absurd ⟨by omega,by omega⟩ h1
 ·exact absurd HA.out h1
 obtain⟨n1,n2⟩:=HNu.out Z hz
 have hdr:=HDr.out Z hz
 rw [show (24:Int).toNat=24 from rfl,n1,if_neg (by omega)] at hb
 rcases hb with ⟨h1,_⟩ | ⟨_,g,rfl,hl⟩
 ·exact absurd rfl h1
 rw [n1] at hl ⊢
 obtain⟨F,hf,hld⟩:=hl
 have HOV:=zH (HO.out.trans hf.old)
 have hby:Byt F 128:=laid_byt hld fun i _=>BTo_byt _ _ _ _
 have hsu:SlU V (some ⟨g,0,none⟩) 128 F:=fun _=>⟨g,0,rfl,hf.row.lt,fun j hj=>by rw [Nat.zero_add];exact hf.row.at_ j hj⟩
 have HPa:=zH (Parse_any (some ⟨g,0,none⟩) 128 128 F V hsu hby (by omega) (by unfold maxLen;omega) (by omega))
 have hpp:∀e w',PrsR V F 128 e w'->∃bb q c im ci,e = .returned (.tuple #[.pointer (some ⟨bb,0,none⟩),.int .i64 0])/\BkB w' bb 24 1 128 q c im ci (plD (mtsD Z) 24 1) F/\Old V w':=fun e w' h=>by
  have hld':=hld
  rw [←n1] at h hld'
  have:=parse_packed (by omega) (by omega) (by omega) hdr hld' h
  rw [n1] at this
  exact this
 have HPp:=zH hpp
 have HN2:=zH n2
 clear n1 n2 hdr hz hf hld hby hsu hpp HNu HDr HPk HA HO HW3
 go_wp2_with fail
 refine HPa.out.mono ?_
 intro e V2 hh
 obtain⟨bb,q,c,im,ci,rfl,hbk,ho⟩:=HPp.out e V2 hh
 have hm:=BMeta_at bb 24 1 128 q c im ci _ F V2 hbk (by omega) (by omega) 0 (by omega)
 rw [HN2.out] at hm
 have HM:=zH hm
 have HO2:=zH (HOV.out.trans ho)
 clear hh hbk ho hm HPa HPp HOV
 unfold Mt.cells at HM
 go_wp2_with fail
 refine HM.out.mono ?_
 rintro e V3 ⟨rfl,ho⟩
 have HO3:=zH (HO2.out.trans ho)
 clear ho HM HO2
 go_wp2_with fail
 go_ret
 exact⟨rfl,HO3.out.alloc' _⟩
theorem yieldsIf_load_cs{P:Program}{ops:Array Oper}{S:World->Prop}{op:Oper}{a:Act}(cs:Array Value)(hw:Region.wanted op (yielded ops a.tmps)=true)(ty:TypeId)(x:Operand)(ho:op.op = .load ty x)
  (b o:Nat) (hx:a.eval x = .pointer (some ⟨b,o,none⟩)) (d:TypeDesc) (hS:∀w,S w->∀j v,cs[j]?=some v->w.cell? ⟨b,o+j,none⟩=some v)
  (hu:P.underlying ty=some d) (hd:d.isRow=true) (hi:(P.info? ty).map (·.size)=some cs.size):YieldsIf P ops S op (.agg cs) a:=by
 have:=yieldsIf_load_mid (S:=S) hw ty x ho b o hx cs.toList d (fun w hw' j v hv=>hS w hw' j v (by simpa using hv)) hu hd (by simpa using hi)
 simpa using this
theorem pre_zero(F:Nat->Int):preI F 0=2:=by
 have h:hdI F 0=2:=by unfold hdI;rw [if_pos (by omega)]
 unfold preI
 rw [h,if_pos (by decide)]
theorem bnk_nums{len C cn fr l15:Nat}(h:cn*C=fr/\cn=(len+15)/16/\fr<=131072/\cn<=65537/\1<=len/\len<=1048576/\C<=2/\1<=C)(hl:l15=len+15):
  (0:Int)<=len/\(0:Int)<=C/\wrap64 ((len:Int)+15)=(l15:Int)/\IntKind.i64.wrap ((len:Int)+15)=(l15:Int)/\(l15:Int)/16=(cn:Int)/\wrap64 ((l15:Int).tdiv 16)=(cn:Int)
   /\ (cn:Int)*(C:Int)=(fr:Int)/\wrap64 ((cn:Int)*(C:Int))=(fr:Int)/\IntKind.i64.wrap ((cn:Int)*(C:Int))=(fr:Int)/\IntKind.i64.wrap (cn:Int)=(cn:Int)/\IntKind.i64.wrap (fr:Int)=(fr:Int):=by
 obtain⟨n1,n2,n3,n4,n5,n6,n7,n8⟩:=h
 have f2:(l15:Int)/16=(cn:Int):=by omega
 have f3:(cn:Int)*(C:Int)=(fr:Int):=by rw [←n1];exact(Int.natCast_mul _ _).symm
 refine⟨by omega,by omega,?_,?_,f2,?_,f3,?_,?_,?_,?_⟩
 ·rw [IntWalk.wrap64_in _ (by omega)];omega
 ·rw [IntWalk.i64_in _ (by omega)];omega
 ·rw [Int.tdiv_eq_ediv_of_nonneg (by omega),f2,IntWalk.wrap64_in _ (by omega)]
 ·rw [f3,IntWalk.wrap64_in _ (by omega)]
 ·rw [f3,IntWalk.i64_in _ (by omega)]
 ·exact IntWalk.i64_in _ (by omega)
 ·exact IntWalk.i64_in _ (by omega)
theorem unp_meta{S:Smp}{m M:Mt}{C len:Nat}(hC:1<=C)(u:m.s=M.s/\m.r=M.r/\m.lp=M.lp/\m.a=M.a/\m.b=M.b)(e1:M.n=(len:Int))(e2:M.c=(C:Int))(e3:M.x=0)(e4:M.y=0)
  (t1:S.s=m.s) (t2:S.r=m.r) (t3:S.lp=m.lp) (t4:S.a=m.a) (t5:S.b=m.b) (t6:S.n=C) (t7:∀c,S.M c=len):smM S=M:=by
 obtain⟨u1,u2,u3,u4,u5⟩:=u
 have el:S.len=(len:Int):=by unfold Smp.len;rw [if_neg (by omega),t7]
 unfold smM
 rw [el,t1,t2,t3,t4,t5,t6,u1,u2,u3,u4,u5,←e1,←e2]
 cases M
 simp only at e3 e4
 subst e3 e4
 rfl
theorem smp_one15(S:Smp):S.cells.all (·.oneCell')=true:=by
 unfold Smp.cells
 simp [Value.oneCell']
theorem Rws.reads{w:World}{p:Option Addr}{n:Nat}{Q:Nat->Option Addr}{M Cc:Nat->Nat}{X:Nat->Nat->Int}(h:Rws w p n Q M Cc X){C len:Nat}(hn:n=C)(hC:1<=C)(hl:1<=len)(hM:∀ch,ch<C->M ch=len):
  ∃g o,p=some ⟨g,o,none⟩/\(∀V,Old w V->∀ch,ch<C->V.cell? ⟨g,o+ch,none⟩=some (.slice (Q ch) len (Cc ch)))
   /\ ∀ch,ch<C->∃a b,Q ch=some ⟨a,b,none⟩/\∀V,Old w V->∀j,j<len->V.cell? ⟨a,b+j,none⟩=some (.int .i64 (X ch j)):=by
 subst hn
 obtain⟨g,o,h1,h2,h3⟩:=h.cell (by omega)
 refine⟨g,o,h1,fun V k ch hch=>by rw [k.cell (a:=⟨g,o+ch,none⟩) h2,h3 ch hch,hM ch hch],fun ch hch=>?_⟩
 obtain⟨_,_,h4⟩:=h.row ch hch
 rw [hM ch hch] at h4
 obtain⟨a,b,h5,h6,h7⟩:=h4 (by omega)
 exact⟨a,b,h5,fun V k j hj=>(k.cell (a:=⟨a,b+j,none⟩) h6).trans (h7 j hj)⟩
set_option maxHeartbeats 16000000 in
theorem bnkBk_any(sz:Int)(q:Option Addr)(n c:Nat)(L:Nat->Smp)(w:World)(hs:SmsS w q n L):
  Calls Tryz.prog 7 #[.int .i64 sz,.slice q n c] w fun e w'=>e = .returned (.bool true)/\Old w w':=by
 have HFw:=zH (Few15_any q n c L w hs)
 obtain⟨k,hk⟩:∃k,k=min n 8:=⟨_,rfl⟩
 have hk8:k<=8:=by omega
 unfold FewsR at HFw
 rw [←hk] at HFw
 clear hs hk
 go_enter Tryz.func7,Tryz.ntmps7
 go_wp2_with fail
 refine HFw.out.mono ?_
 rintro e V1 ⟨p1,c1,Z0,rfl,hsm,hfew,o1⟩
 have HPk:=zH (Pack_any sz p1 k c1 Z0 V1 hsm (by omega))
 have HO1:=zH o1
 have HSm:=zH hsm
 have HM0:Hid (∀i,i<k->∀j,j<(Z0 i).n->(Z0 i).M j<=150):=zH fun i hi=>(hfew i hi).1.m
 have HN4:Hid (∀i,i<k->(Z0 i).n<=4):=zH fun i hi=>(hfew i hi).1.n
 clear hsm hfew o1 HFw
 go_wp2_with fail
 refine HPk.out.mono ?_
 intro e V2 hp
 clear HPk
 rcases pack_is hp with ⟨er,h0,rfl,o2,hno⟩ | ⟨h24,h96,hall,Z,g,F,rfl,hpk,hord,hfs⟩
 ·have HE:=zH (HO1.out.trans o2)
  have hd:(er != 0)=true:=by simpa using h0
  have HPa:=zH (Parse_any2 none 0 0 (fun _=>0) V2 (fun h=>absurd h (by omega)) (fun j hj=>by omega) (Nat.le_refl _) (by unfold maxLen;omega) (by omega))
  clear hp o2 hno h0 HSm HM0 HN4
  go_wp2_with fail
  refine HPa.out.mono ?_
  intro e V3 h3
  obtain⟨rfl,o3⟩:e = .returned (.tuple #[.pointer none,.int .i64 2])/\Old V2 V3:=by
   rcases h3 with ⟨_,h1,h2⟩ | ⟨h1,_⟩
   ·rw [pre_zero] at h1
    exact⟨h1,h2⟩
   ·rw [pre_zero] at h1
    cases h1
  have HE3:=zH (HE.out.trans o3)
  clear h3 o3 HPa HE
  go_wp2_with fail
  refine(awake_any _).mono ?_
  rintro e V4 ⟨rfl,o4⟩
  have HE4:=zH (HE3.out.trans o4)
  clear o4 HE3
  go_wp2_with fail
  go_ret
  exact⟨rfl,HE4.out⟩
 obtain⟨z,rfl⟩:∃z:Nat,sz=z:=⟨sz.toNat,by omega⟩
 rw [Int.toNat_natCast] at hpk hfs ⊢
 have htot:=hpk.tot
 have hbn:=hpk.bkN
 obtain⟨N,hN⟩:∃N,N=totalAt (frD (mtsD Z)) z k:=⟨_,rfl⟩
 rw [←hN] at hfs htot hbn ⊢
 have hby:=hbn.byt
 have hsl:∀V,Old V2 V->SlU V (some ⟨g,0,none⟩) N F:=fun V hV=>((show SlU V2 (some ⟨g,0,none⟩) N F from fun _=>⟨g,0,rfl,hfs.row.lt,fun j hj=>by rw [Nat.zero_add];exact hfs.row.at_ j hj⟩).old hV)
 have HPa:=zH (Parse_any2 (some ⟨g,0,none⟩) N N F V2 (hsl _ (Old.refl _)) hby (Nat.le_refl _) (by unfold maxLen;omega) (by omega))
 have HPp:Hid (∀e V,PrsR2 V2 F N e V->∃bb q c im ci,e = .returned (.tuple #[.pointer (some ⟨bb,0,none⟩),.int .i64 0])/\BkB V bb z k N q c im ci (plD (mtsD Z) z k) F/\Old V2 V/\∀x,bkX bb q k im N x->V2.heap.size<=x):=zH fun e V h=>by
  have hld:=hpk.ld
  rw [hN] at h ⊢
  have:=parse_packed2 (sz:=z) (by omega) (by omega) (by omega) hpk.dir hld h
  exact this
 have HSl:=zH hsl
 have HPK:=zH hpk
 have HOr:=zH hord
 have HN:=zH hN
 have HDist:=zH (allI_zero hall).2.2
 have HO2:=zH (HO1.out.trans hfs.old)
 have HO12:=zH hfs.old
 have HTot:=zH htot
 have hz1:(24:Int)<=z:=h24
 have hz2:(z:Int)<=96:=h96
 clear hp hpk hord hfs hN hall hbn hby hsl HO1 h24 h96 htot
 go_wp2_with fail
 refine HPa.out.mono ?_
 intro e V3 h3
 obtain⟨bb,q3,c3,im,ci,rfl,hbk,o3,_⟩:=HPp.out e V3 h3
 have HBk:=zH hbk
 have HO3:=zH (HO2.out.trans o3)
 have HO13:=zH (HO12.out.trans o3)
 have HO23:=zH o3
 have HSo:=zH (Sort_any2 p1 k c1 Z0 V3 (HSm.out.old (HO12.out.trans o3)) (by omega) (fun i hi=>by have:=HN4.out i hi;omega) (fun i hi j hj=>by have:=HM0.out i hi j hj;omega))
 clear h3 hbk o3 HPa HPp HO2
 go_wp2_with fail
 refine HSo.out.mono ?_
 rintro e V4 ⟨gs,G,Y,rfl,hsr,hlk,hys,o4⟩
 have hlike:∀i,i<k->(Y i).like (Z i):=Ordd.of_srt hsr hlk HDist.out HOr.out
 have HLk:=zH hlike
 have HYs:=zH hys
 have HO4:=zH (HO3.out.trans o4)
 have HO34:=zH o4
 have HSi:=zH (fun V (o:Old V4 V)=>BSize_at bb z V (((HBk.out.old o4).old o).size_.1))
 have HDr:=zH (BDir_at bb z k N q3 c3 im ci _ F V4 (HBk.out.old o4) (by omega) (by omega))
 clear hsr hlk hys o4 hlike HSo
 go_wp2_with fail
 refine HDr.out.mono ?_
 rintro e V5 ⟨qd,cd,rfl,hcd,hcdm,hds,o5⟩
 have HDs:=zH hds
 have HO5:=zH (HO4.out.trans o5)
 have HO45:=zH o5
 have HBk5:=zH ((HBk.out.old HO34.out).old o5)
 obtain⟨s9,hs9⟩:∃s,s=strOfNums (lst F N):=⟨_,rfl⟩
 have HN0:Hid (0<N):=zH (by rw [HN.out];have h1:=atTo_mono (frD (mtsD Z)) z k (Nat.zero_le k);have h0:atTo (frD (mtsD Z)) z k 0=20+64*k:=rfl;have h2:=(total_le (frD (mtsD Z)) z k).1;omega)
 have HCv:Hid (∀V p2 c,SlU V p2 N F->N<=c->c<=maxLen->(convert 34 9 (.slice p2 N c)).run Tryz.prog V = .ok (.string s9) V):=zH fun V p2 c hV hc hm=>by
  obtain⟨g2,o2,rfl,_,h2⟩:=hV HN0.out
  rw [hs9]
  exact conv_at h2 HN0.out hc hm
 have HSb:Hid (∀V,Old V5 V->SlU V (some ⟨g,0,none⟩) N F):=zH fun V o=>HSl.out V (((HO23.out.trans HO34.out).trans o5).trans o)
 have HNm:Hid (N<=maxLen):=zH (by have:=HTot.out;unfold maxLen;omega)
 have ez:((z:Int) != (z:Int))=false:=by simp
 have ek:((k:Int) != (k:Int))=false:=by simp
 clear hcd hcdm hds o5 hs9 HDr HSm HM0 HN4 HSl
 go_upto_region 8 with (fail)
 go_cut [69] (fun v wx=>v = .bool false/\Old V5 wx)
 case first=>as_aux_lemma=>
  have HD:Hid (Old V5 V5.drew):=zH (Old.refl V5).drew
  refine wp_region_held_drew (S:=(fun V=>Old V5 V)) (by kernel_rfl) ?_ (fun hHeld=>?_)
  ·(try dsimp only);exact HD.out
  refine wpU 0 rfl ?_;try simp only [Act.put,sA,sZ,sS]
  refine wpU 1 rfl ?_;try simp only [Act.put,sA,sZ,sS]
  refine wpU 2 rfl ?_;try simp only [Act.put,sA,sZ,sS]
  refine wpU 3 rfl ?_;try simp only [Act.put,sA,sZ,sS]
  refine wpU 5 rfl ?_;try simp only [Act.put,sA,sZ,sS]
  refine wpR 4 rfl (fun K hK=>?_)
  go_simp
  refine(HSi.out _ (HO45.out.trans HD.out)).mono ?_
  rintro e V ⟨rfl,hv⟩
  subst hv
  go_wp2_with fail
  refine hK.out _ _ ?_ (fun hHeld=>?_)
  ·(try dsimp only);exact HD.out
  clear hK K
  try simp only [Act.put,sA,sZ,sS]
  refine wpU 6 rfl ?_;try simp only [Act.put,sA,sZ,sS]
  refine wpU 7 rfl ?_;try simp only [Act.put,sA,sZ,sS]
  refine wpU 8 rfl ?_;try simp only [Act.put,sA,sZ,sS]
  refine wpU 9 rfl ?_;try simp only [Act.put,sA,sZ,sS]
  refine wpU 10 rfl ?_;try simp only [Act.put,sA,sZ,sS]
  refine wpU 11 rfl ?_;try simp only [Act.put,sA,sZ,sS]
  refine wpU 12 rfl ?_;try simp only [Act.put,sA,sZ,sS]
  refine wpU 13 rfl ?_;try simp only [Act.put,sA,sZ,sS]
  refine wpU 14 rfl ?_;try simp only [Act.put,sA,sZ,sS]
  refine wpU 15 rfl ?_;try simp only [Act.put,sA,sZ,sS]
  refine wpU 16 rfl ?_;try simp only [Act.put,sA,sZ,sS]
  refine wpU 19 rfl ?_;try simp only [Act.put,sA,sZ,sS]
  refine wpT 20 (v:=(.string s9)) rfl (Or.inl ⟨by kernel_rfl,fun V hSV=>by(try dsimp only at hSV);have hcB:=HCv.out V _ N (HSb.out V hSV) (Nat.le_refl _) HNm.out;go_simp⟩) (by assumption) ?_;try simp only [Act.put,sA,sZ,sS]
  refine wpR 17 rfl (fun K hK=>?_)
  go_simp
  refine(BImage_at bb z k N q3 c3 im ci _ F _ (HBk5.out.old HD.out) (by omega) (by have:=HTot.out;omega)).mono ?_
  rintro e V ⟨q6,c6,rfl,hc6,hc6m,him,ho⟩
  have HO6:=zH (HD.out.trans ho)
  have hc13:=HCv.out V q6 c6 him hc6 hc6m
  clear ho him
  go_wp2_with fail
  refine hK.out _ _ ?_ (fun hHeld=>?_)
  ·(try dsimp only);exact HO6.out
  clear hK K
  try simp only [Act.put,sA,sZ,sS]
  refine wpR 18 rfl (fun K hK=>?_)
  go_simp
  go_wp2_with fail
  refine hK.out _ _ ?_ (fun hHeld=>?_)
  ·(try dsimp only);exact HO6.out
  clear hK K
  try simp only [Act.put,sA,sZ,sS]
  refine wpU 21 rfl ?_;try simp only [Act.put,sA,sZ,sS]
  refine wpU 22 rfl ?_;try simp only [Act.put,sA,sZ,sS]
  refine wpAnyH_done (by kernel_rfl) ?_ _
  go_wp2_with fail
  go_meet
  exact⟨rfl,HO6.out⟩
 case rest=>as_aux_lemma=>
  obtain⟨rfl,ho6⟩:=hcut
  obtain⟨W6,rfl⟩:∃V,V=wc:=⟨_,rfl⟩
  have HO6:=zH ho6
  have HO46:=zH (HO45.out.trans ho6)
  have HO06:=zH (HO5.out.trans ho6)
  have HBk6:=zH (HBk5.out.old HO6.out)
  have HDs6:=zH (HDs.out.old HO6.out)
  have HYs6:=zH (HYs.out.old HO46.out)
  clear ho6 HCv HSb HSi ez HBk HBk5 HDs HYs HO6 HO46
  have Hs9:Hid ((Tryz.prog.info? 85).map (·.size)=some 9):=zH (by kernel_rfl)
  have Hs6:Hid ((Tryz.prog.info? 90).map (·.size)=some 6):=zH (by kernel_rfl)
  go_wp2_with fail
  go_loopw [11] (fun iv wr=>∃i:Nat,i<=k/\iv = .int .i64 i/\Hid (Old W6 wr)) (fun iv _=>k-(intOf iv).toNat)
  case atStart=>exact⟨0,by omega,by go_num,zH (Old.refl W6)⟩
  case round=>
   obtain⟨i,hik,rfl,HW⟩:=hrel
   by_cases hi:i<k
   ·obtain⟨D,hD⟩:∃D,D=plD (mtsD Z) z k:=⟨_,rfl⟩
    have HBr:=zH (fun V (o:Old wr V)=>(HBk6.out.old HW.out).old o)
    rw [←hD] at HBr
    have hds:=HDs6.out.old HW.out
    rw [←hD] at hds
    obtain⟨gd,od,rfl,hgd,hdc⟩:=hds.cell (by omega)
    have hdi:=hdc i hi
    obtain⟨gs',os',hgs,hgl,hsc⟩:=(HYs6.out.old HW.out).cell (by omega)
    cases hgs
    have hsi:=hsc i hi
    have hsok:=(HYs6.out.old HW.out).ok i hi
    obtain⟨M0,hM0⟩:∃M,M=smM (Z i):=⟨_,rfl⟩
    have hMY:smM (Y i)=M0:=by rw [hM0];exact(HLk.out i hi).meta
    have hDi:D i=M0.at_ (D i).x (D i).y:=by rw [hM0,hD];rfl
    have hv:=HPK.out.v i hi
    obtain⟨len,hlen⟩:∃l,l=(Z i).M 0:=⟨_,rfl⟩
    obtain⟨C,hC⟩:∃l,l=(Z i).n:=⟨_,rfl⟩
    have hMn:M0.n=(len:Int):=by rw [hM0,hlen];show (Z i).len=_;unfold Smp.len;rw [if_neg (by have:=hv.n1;omega)]
    have hMc:M0.c=(C:Int):=by rw [hM0,hC];rfl
    have hxy:M0.x=0/\M0.y=0:=by rw [hM0];exact⟨rfl,rfl⟩
    have hMs:M0.s=(Y i).s:=by rw [←hMY];rfl
    have hDs:(D i).s=M0.s:=by rw [hDi];rfl
    have HFi:=zH (fun V (o:Old wr V)=>Find_good bb z k N q3 c3 im ci D F V (HBr.out V o) (by omega) (by omega) i hi (fun x y hxy hy=>by
     have h1:(D x).s=(Z x).s:=by rw [hD];rfl
     have h2:(D y).s=(Z y).s:=by rw [hD];rfl
     rw [h1,h2]
     exact HOr.out.rise x y hxy hy))
    rw [hDs] at HFi
    obtain⟨MC,hMC⟩:∃X,X=M0.cells:=⟨_,rfl⟩
    obtain⟨SC,hSC⟩:∃X,X=(Y i).cells:=⟨_,rfl⟩
    obtain⟨DC,hDC⟩:∃X,X=(D i).cells:=⟨_,rfl⟩
    have hbkN:BkB wr bb z k (totalAt (frD (mtsD Z)) z k) q3 c3 im ci D F:=by rw [←HN.out];exact HBr.out wr (Old.refl _)
    have HBd:=zH (fun V (o:Old wr V)=>Bad_good bb z k q3 c3 im ci D F Z V (hbkN.old o) HPK.out hD i hi)
    have hok:(D i).OkR:=by rw [hD];exact HPK.out.bkN.ok i hi
    have HFs:=zH (fun V=>Frames_any (D i) hok V)
    rw [←hDC] at HFs
    have hfr:(D i).fr=cnt len*C:=by
     unfold Mt.fr
     have e1:(D i).n=(len:Int):=by rw [hDi];exact hMn
     have e2:(D i).c=(C:Int):=by rw [hDi];exact hMc
     rw [e1,e2]
     rfl
    have HMs:=zH (fun V (o:Old wr V)=>Meta_any (Y i) V (hsok.old o))
    rw [smM_cells,hMY,←hMC,show (Y i).val = .agg SC by rw [hSC];rfl] at HMs
    have hC2:C<=2:=by rw [hC];exact hv.n2
    have hC1:1<=C:=by rw [hC];exact hv.n1
    have hl1:1<=len:=by rw [hlen];exact hv.m1
    have hl2:len<=1048576:=by rw [hlen];exact hv.m2
    have hch:∀ch,ch<C->samP (chL (Z i) ch)/\(chL (Z i) ch).length=len:=fun ch h=>by
     have hcc:(ch:Int)<(plD (mtsD Z) z k i).c:=by
      have:(plD (mtsD Z) z k i).c=((Z i).n:Int):=rfl
      omega
     obtain⟨_,h2,h3,_⟩:=HPK.out.chan hi hcc
     exact⟨h2,by rw [h3,hlen]⟩
    have hLx:∀ch,∃L:Nat->Fr,ch<C->FmX z (chL (Z i) ch) (cnt len) L/\∀b,b<cnt len->FrP (L b).F (L b).n (L b).T/\Tells (frmL z (chL (Z i) ch) b) (enc (L b).F (L b).n (L b).T):=fun ch=>by
     by_cases h:ch<C
     ·obtain⟨h1,h2⟩:=hch ch h
      obtain⟨L,a1,a2⟩:=chan_frames h1 (show 24<=z by omega) (by omega) wr
      rw [h2] at a1 a2
      exact⟨L,fun _=>⟨a1,fun b hb=>⟨(a2 b hb).1,(a2 b hb).2.2⟩⟩⟩
     ·exact⟨fun _=>zeroFr,fun e=>absurd e h⟩
    obtain⟨Lc,hLc⟩:∃f:Nat->Nat->Fr,∀ch,ch<C->FmX z (chL (Z i) ch) (cnt len) (f ch)/\∀b,b<cnt len->FrP (f ch b).F (f ch b).n (f ch b).T/\Tells (frmL z (chL (Z i) ch) b) (enc (f ch b).F (f ch b).n (f ch b).T):=⟨fun ch=>(hLx ch).choose,fun ch=>(hLx ch).choose_spec⟩
    clear hLx
    obtain⟨VF,hVF⟩:∃f:Nat->Nat->Int,f=fun ch j=>satI (wholeF (cnt len) (gfTo (cnt len) (Lc ch)) (cnt len) (smTo (cnt len) (Lc ch)) j):=⟨_,rfl⟩
    have HEx:Hid (55<=z->∀ch j,ch<C->j<len->VF ch j=(Y i).X ch j):=zH fun h55 ch j hch' hj=>by
     obtain⟨h1,h2⟩:=hch ch hch'
     have h3:=(hLc ch hch').1
     rw [←h2] at h3
     have:=chan_exact h1 h55 h3 j (by rw [h2];exact hj)
     rw [h2] at this
     rw [hVF]
     dsimp only
     rw [this]
     unfold chL
     rw [lst_getD _ _ _ (by rw [hv.m ch (by omega),←hlen];exact hj),(HLk.out i hi).2.2.2.2.2.2.2]
    have HUn:=zH (fun V (o:Old wr V)=>Unpack_good bb z k q3 c3 im ci D F Z V (hbkN.old o) HPK.out hD i hi len (cnt len) C (by rw [hDi];show len=M0.n.toNat;rw [hMn];rfl) rfl (by rw [hDi];show C=M0.c.toNat;rw [hMc];rfl) Lc (fun ch h=>(hLc ch h).2))
    rw [←hVF] at HUn
    have HUm:Hid ((D i).s=M0.s/\(D i).r=M0.r/\(D i).lp=M0.lp/\(D i).a=M0.a/\(D i).b=M0.b):=zH (by rw [hDi];exact⟨rfl,rfl,rfl,rfl,rfl⟩)
    have hrows:=hsok.rows
    have HYn:Hid ((Y i).n=C/\∀ch,ch<C->(Y i).M ch=len):=zH ⟨by rw [(HLk.out i hi).2.2.2.2.2.1,hC],fun ch h=>by rw [(HLk.out i hi).2.2.2.2.2.2.1,hv.m ch (by omega),←hlen]⟩
    have HYr:=zH hrows
    have i0:(0:Int)<=i:=by omega
    have i1:(i:Int)<k:=by omega
    have HSc:Hid (∀V,Old wr V->∀f v,SC[f]?=some v->V.cell? ⟨gs,i*6+f,none⟩=some v):=zH fun V o f v hf=>(o.cell (a:=⟨gs,i*6+f,none⟩) hgl).trans (by have:=hsi f v (by rw [←hSC];exact hf);rw [Nat.zero_add] at this;exact this)
    have HDc:Hid (∀V,Old wr V->∀f v,DC[f]?=some v->V.cell? ⟨gd,od+i*9+f,none⟩=some v):=zH fun V o f v hf=>(o.cell (a:=⟨gd,od+i*9+f,none⟩) hgd).trans (hdi f v (by rw [←hDC];exact hf))
    have HS6:Hid (SC.size=6):=zH (by rw [hSC];rfl)
    have HD9:Hid (DC.size=9):=zH (by rw [hDC];rfl)
    have HM9:Hid (MC.size=9):=zH (by rw [hMC];rfl)
    have HSd:Hid (SC[5]?=some (.slice (Y i).p (Y i).n (Y i).c)):=zH (by rw [hSC];rfl)
    have HMl:Hid (MC[1]?=some (.int .i64 len)/\MC[3]?=some (.int .i64 C)):=zH (by rw [hMC,←hMn,←hMc];exact⟨rfl,rfl⟩)
    have hneq:∀V:World,(binOp .neq 85 (.agg MC) (.agg MC)).run Tryz.prog V = .ok (.bool false) V:=fun V=>by
     have:=neq_mt V M0.s M0.n M0.r M0.c M0.lp M0.a M0.b M0.x M0.y M0.x M0.y
     rw [hMC]
     simpa using this
    have HMCe:Hid (MC=#[.string M0.s,.int .i64 M0.n,.int .i64 M0.r,.int .i64 M0.c,.bool M0.lp,.int .i64 M0.a,.int .i64 M0.b,.int .i64 0,.int .i64 0]):=zH (by rw [hMC];unfold Mt.cells;rw [hxy.1,hxy.2])
    have c0:wr.cell? ⟨gd,od+i*9,none⟩=some (.string M0.s):=hdi 0 _ (by rw [hDi];rfl)
    have c1:wr.cell? ⟨gd,od+i*9+1,none⟩=some (.int .i64 M0.n):=hdi 1 _ (by rw [hDi];rfl)
    have c2:wr.cell? ⟨gd,od+i*9+2,none⟩=some (.int .i64 M0.r):=hdi 2 _ (by rw [hDi];rfl)
    have c3':wr.cell? ⟨gd,od+i*9+3,none⟩=some (.int .i64 M0.c):=hdi 3 _ (by rw [hDi];rfl)
    have c4:wr.cell? ⟨gd,od+i*9+4,none⟩=some (.bool M0.lp):=hdi 4 _ (by rw [hDi];rfl)
    have c5:wr.cell? ⟨gd,od+i*9+5,none⟩=some (.int .i64 M0.a):=hdi 5 _ (by rw [hDi];rfl)
    have c6:wr.cell? ⟨gd,od+i*9+6,none⟩=some (.int .i64 M0.b):=hdi 6 _ (by rw [hDi];rfl)
    have c7:wr.cell? ⟨gd,od+i*9+7,none⟩=some (.int .i64 (D i).x):=hdi 7 _ rfl
    have c8:wr.cell? ⟨gd,od+i*9+8,none⟩=some (.int .i64 (D i).y):=hdi 8 _ rfl
    have s0w:wr.cell? ⟨gs,i*6,none⟩=some (.string M0.s):=by have:=hsi 0 (.string (Y i).s) rfl;rw [Nat.zero_add,Nat.add_zero] at this;rw [this,hMs]
    obtain⟨fr,hfre⟩:∃f,f=(D i).fr:=⟨_,rfl⟩
    rw [←hfre] at HFs hfr
    obtain⟨cn,hcn⟩:∃c,c=cnt len:=⟨_,rfl⟩
    have hcn2:cn=(len+15)/16:=hcn
    rw [←hcn] at hfr
    obtain⟨dx,hdx⟩:∃x,x=(D i).x:=⟨_,rfl⟩
    obtain⟨dy,hdy⟩:∃x,x=(D i).y:=⟨_,rfl⟩
    rw [←hdx] at c7
    rw [←hdy] at c8
    obtain⟨W7,hW7⟩:∃V,V=wr.alloc (.cells MC 85):=⟨_,rfl⟩
    have HO7:=zH (show Old wr W7 by rw [hW7];exact Old.alloc _ _)
    obtain⟨bx,hbx⟩:∃x,x=wr.heap.size:=⟨_,rfl⟩
    have hBx:W7.heap[bx]?=some (.cells MC 85 (0,0)):=by rw [hW7,hbx];exact heap_alloc_new _ _
    rw [HMCe.out] at hW7
    have s0:(wr.alloc (.cells #[.string M0.s,.int .i64 M0.n,.int .i64 M0.r,.int .i64 M0.c,.bool M0.lp,.int .i64 M0.a,.int .i64 M0.b,.int .i64 0,.int .i64 0] 85)).cell? ⟨gs,i*6,none⟩=some (.string M0.s):=by rw [←hW7];exact(HO7.out.cell (a:=⟨gs,i*6,none⟩) hgl).trans s0w
    clear s0w
    have HW7:=zH hW7
    have HBxe:=zH hbx
    have HBx:=zH hBx
    have HNum:Hid (cn*C=fr/\cn=(len+15)/16/\fr<=131072/\cn<=65537/\1<=len/\len<=1048576/\C<=2/\1<=C):=zH ⟨hfr.symm,hcn2,by rw [hfre];exact hok.fr_le.2,by omega,hl1,hl2,hC2,hC1⟩
    have HM0e:Hid (M0=smM (Z i)/\M0.n=(len:Int)/\M0.c=(C:Int)/\M0.x=0/\M0.y=0):=zH ⟨hM0,hMn,hMc,hxy.1,hxy.2⟩
    have HMCc:=zH hMC
    have HDi:=zH hDi
    clear hLc hD hds hgd hdc hdi hgl hsc hsi hsok hM0 hMY hDi hv hlen hC hMn hMc hxy hMs hDs hMC hSC hDC hbkN hok hfr hC2 hC1 hl1 hl2 hch hVF hrows hfre hcn hcn2 hdx hdy hW7 hbx hBx
    go_wp2_with fail
    rw [←HW7.out,←HBxe.out]
    refine(HFi.out _ HO7.out).mono ?_
    rintro e V8 ⟨rfl,o8⟩
    have HO8:=zH (HO7.out.trans o8)
    have HBx8:=zH ((o8.block _ (lt_of_block HBx.out)).trans HBx.out)
    clear o8 c0 c1 c2 c3' c4 c5 c6 c7 c8 s0 HFi HBx HW7
    have HBx9:Hid (∀V,Old V8 V->V.heap[bx]?=some (.cells MC 85 (0,0))):=zH fun V o=>(o.block _ (lt_of_block HBx8.out)).trans HBx8.out
    have HB1:Hid (∀V,Old V8 V->V.cell? ⟨bx,1,none⟩=some (.int .i64 len)/\V.cell? ⟨bx,3,none⟩=some (.int .i64 C)):=zH fun V o=>⟨(cell_of_row _ _ _ _ _ _ (HBx9.out V o)).trans HMl.out.1,(cell_of_row _ _ _ _ _ _ (HBx9.out V o)).trans HMl.out.2⟩
    clear HBx8
    have L2:Hid (len<=1048576/\C<=2):=zH ⟨HNum.out.2.2.2.2.2.1,HNum.out.2.2.2.2.2.2.1⟩
    have L1:Hid (1<=len):=zH HNum.out.2.2.2.2.1
    have C1:Hid (1<=C):=zH HNum.out.2.2.2.2.2.2.2
    go_upto_region 17 with (fail)
    go_cut [129] (fun v wx=>v = .bool false/\Old V8 wx)
    case first=>as_aux_lemma=>
     obtain⟨l15,hl15⟩:∃l:Nat,l=len+15:=⟨_,rfl⟩
     obtain⟨len0,C0,f0,f0',f2,f2',f3,f4,f4',f5,hf6⟩:=bnk_nums HNum.out hl15
     have f6:=zH hf6
     clear hf6
     have ei:((i:Int) != (i:Int))=false:=bne_self_eq_false _
     have ef:((fr:Int) != (fr:Int))=false:=bne_self_eq_false _
     have HD:Hid (Old V8 V8.drew):=zH (Old.refl V8).drew
     clear hl15 HUn HUm HYr HYn HEx
     refine wp_region_held_drew (S:=(fun V=>Old V8 V)) (by kernel_rfl) ?_ (fun hHeld=>?_)
     ·(try dsimp only);exact HD.out
     refine wpU 1 rfl ?_;try simp only [Act.put,sA,sZ,sS]
     refine wpU 2 rfl ?_;try simp only [Act.put,sA,sZ,sS]
     refine wpU 3 rfl ?_;try simp only [Act.put,sA,sZ,sS]
     refine wpT 0 (v:=.agg MC) rfl (yieldsIf_load_row (by kernel_rfl) 85 (.tmp 12) rfl bx rfl 85 MC (0,0) _ (fun V h=>HBx9.out V h) Tryz.underlying85 rfl (by rw [HM9.out];exact Hs9.out)) (by assumption) ?_;try simp only [Act.put,sA,sZ,sS]
     refine wpT 4 (v:=.agg SC) rfl (yieldsIf_load_cs SC (by kernel_rfl) 90 (.tmp 95) rfl gs (i*6) rfl _ (fun V h=>HSc.out V (HO8.out.trans h)) Tryz.underlying90 rfl (by rw [HS6.out];exact Hs6.out)) (by assumption) ?_;try simp only [Act.put,sA,sZ,sS]
     refine wpR 5 rfl (fun K hK=>?_)
     go_simp
     refine(HMs.out _ (HO8.out.trans HD.out)).mono ?_
     rintro e V9 ⟨rfl,o9⟩
     have HO9:=zH (HD.out.trans o9)
     clear o9
     go_wp2_with fail
     refine hK.out _ _ ?_ (fun hHeld=>?_)
     ·(try dsimp only);exact HO9.out
     clear hK K
     try simp only [Act.put,sA,sZ,sS]
     refine wpU 6 rfl ?_;try simp only [Act.put,sA,sZ,sS]
     refine wpU 7 rfl ?_;try simp only [Act.put,sA,sZ,sS]
     refine wpU 8 rfl ?_;try simp only [Act.put,sA,sZ,sS]
     refine wpU 9 rfl ?_;try simp only [Act.put,sA,sZ,sS]
     refine wpU 10 rfl ?_;try simp only [Act.put,sA,sZ,sS]
     refine wpU 11 rfl ?_;try simp only [Act.put,sA,sZ,sS]
     refine wpU 12 rfl ?_;try simp only [Act.put,sA,sZ,sS]
     refine wpU 13 rfl ?_;try simp only [Act.put,sA,sZ,sS]
     refine wpU 14 rfl ?_;try simp only [Act.put,sA,sZ,sS]
     refine wpU 15 rfl ?_;try simp only [Act.put,sA,sZ,sS]
     refine wpU 16 rfl ?_;try simp only [Act.put,sA,sZ,sS]
     refine wpU 17 rfl ?_;try simp only [Act.put,sA,sZ,sS]
     refine wpU 18 rfl ?_;try simp only [Act.put,sA,sZ,sS]
     refine wpR 19 rfl (fun K hK=>?_)
     go_simp
     refine(HBd.out _ (HO8.out.trans HO9.out)).mono ?_
     rintro e V10 ⟨rfl,o10⟩
     have HO10:=zH (HO9.out.trans o10)
     clear o10
     go_wp2_with fail
     refine hK.out _ _ ?_ (fun hHeld=>?_)
     ·(try dsimp only);exact HO10.out
     clear hK K
     try simp only [Act.put,sA,sZ,sS]
     refine wpU 20 rfl ?_;try simp only [Act.put,sA,sZ,sS]
     refine wpU 21 rfl ?_;try simp only [Act.put,sA,sZ,sS]
     refine wpU 22 rfl ?_;try simp only [Act.put,sA,sZ,sS]
     refine wpU 23 rfl ?_;try simp only [Act.put,sA,sZ,sS]
     refine wpU 24 rfl ?_;try simp only [Act.put,sA,sZ,sS]
     refine wpU 25 rfl ?_;try simp only [Act.put,sA,sZ,sS]
     refine wpU 26 rfl ?_;try simp only [Act.put,sA,sZ,sS]
     refine wpU 29 rfl ?_;try simp only [Act.put,sA,sZ,sS]
     refine wpT 27 (v:=.agg DC) rfl (yieldsIf_load_cs DC (by kernel_rfl) 85 (.tmp 118) rfl gd (od+i*9) rfl _ (fun V h=>HDc.out V (HO8.out.trans h)) Tryz.underlying85 rfl (by rw [HD9.out];exact Hs9.out)) (by assumption) ?_;try simp only [Act.put,sA,sZ,sS]
     refine wpT 30 (v:=.int .i64 (len:Int)) rfl (Or.inl ⟨by kernel_rfl,fun V hSV=>by have c:=(HB1.out V hSV).1;go_simp⟩) (by assumption) ?_;try simp only [Act.put,sA,sZ,sS]
     refine wpU 31 rfl ?_;try simp only [Act.put,sA,sZ,sS]
     refine wpU 32 rfl ?_;try simp only [Act.put,sA,sZ,sS]
     refine wpU 33 rfl ?_;try simp only [Act.put,sA,sZ,sS]
     refine wpT 34 (v:=.int .i64 (C:Int)) rfl (Or.inl ⟨by kernel_rfl,fun V hSV=>by have c:=(HB1.out V hSV).2;go_simp⟩) (by assumption) ?_;try simp only [Act.put,sA,sZ,sS]
     refine wpU 35 rfl ?_;try simp only [Act.put,sA,sZ,sS]
     refine wpR 28 rfl (fun K hK=>?_)
     go_simp
     refine(HFs.out _).mono ?_
     rintro e V11 ⟨rfl,o11⟩
     have HO11:=zH (HO10.out.trans o11)
     clear o11
     go_wp2_with fail
     refine hK.out _ _ ?_ (fun hHeld=>?_)
     ·(try dsimp only);exact HO11.out
     clear hK K
     try simp only [Act.put,sA,sZ,sS]
     refine wpU 36 rfl ?_;try simp only [Act.put,sA,sZ,sS]
     refine wpU 37 rfl ?_;try simp only [Act.put,sA,sZ,sS]
     refine wpAnyH_done (by kernel_rfl) ?_ _
     go_wp2_with fail
     go_meet
     exact⟨by first | rw [f6.out,ef] | (rw [f5,f4',ef]) | rfl,HO11.out⟩
    case rest=>as_aux_lemma=>
     obtain⟨rfl,ho12⟩:=hcut
     obtain⟨W12,rfl⟩:∃V,V=wc:=⟨_,rfl⟩
     have HO12':=zH (HO8.out.trans ho12)
     have HUn12:=zH (HUn.out W12 HO12'.out)
     clear ho12 HBd HFs HUn HB1 HBx9 HNum HDc HD9
     go_wp2_with fail
     refine HUn12.out.mono ?_
     rintro e V13 ⟨S1,rfl,hS1,t1,t2,t3,t4,t5,t6,t7,t8,o13⟩
     obtain⟨X1,hX1⟩:∃X,X=S1.cells:=⟨_,rfl⟩
     have hmm:smM S1=M0:=by
      obtain⟨_,m2,m3,m4,m5⟩:=HM0e.out
      exact unp_meta C1.out HUm.out m2 m3 m4 m5 t1 t2 t3 t4 t5 t6 t7
     have HMu:=zH (fun V (o:Old V13 V)=>Meta_any S1 V (hS1.old o))
     rw [smM_cells,hmm,←HMCc.out,show S1.val = .agg X1 by rw [hX1];rfl] at HMu
     have HX9:Hid (X1.size=6):=zH (by rw [hX1];rfl)
     have HX1:Hid (X1.all (·.oneCell')=true):=zH (by rw [hX1];exact smp_one15 S1)
     have HXd:Hid (X1[5]?=some (.slice S1.p C S1.c)):=zH (by rw [hX1,←t6];rfl)
     have hrw:=hS1.rows
     rw [t6,t8] at hrw
     have HRw:Hid (Rws V13 S1.p C S1.Q (fun _=>len) S1.C VF):=zH (by rw [show (fun _=>len)=S1.M from(funext t7).symm];exact hrw)
     have HO13:=zH (HO12'.out.trans o13)
     rw [←hX1]
     clear hX1 hmm t1 t2 t3 t4 t5 t6 t7 t8 o13 HUm HM0e HMCc hrw hS1 HUn12 HO12'
     obtain⟨yb,hyb⟩:∃b,b=V13.heap.size:=⟨_,rfl⟩
     obtain⟨W14,hW14⟩:∃W,W=V13.alloc (.cells X1 90):=⟨_,rfl⟩
     have HO14:=zH (show Old V13 W14 by rw [hW14];exact Old.alloc _ _)
     have HYx:=zH (show W14.heap[yb]?=some (.cells X1 90 (0,0)) by rw [hW14,hyb];exact heap_alloc_new _ _)
     have HYb:Hid (∀V,Old W14 V->V.heap[yb]?=some (.cells X1 90 (0,0))):=zH fun V o=>(o.block _ (lt_of_block HYx.out)).trans HYx.out
     have HW14:=zH hW14
     have HYbe:=zH hyb
     have HYd:Hid (∀V,Old W14 V->V.cell? ⟨yb,5,none⟩=some (.slice S1.p C S1.c)):=zH fun V o=>(cell_of_row _ _ _ _ _ _ (HYb.out V o)).trans HXd.out
     have HGd:Hid (∀V,Old W14 V->V.cell? ⟨gs,i*6+5,none⟩=some (.slice (Y i).p (Y i).n (Y i).c)):=zH fun V o=>HSc.out V (HO13.out.trans (HO14.out.trans o)) 5 _ HSd.out
     clear hW14 hyb HYx HXd
     go_upto_region 20 with (with_reducible refine wpList_store_row rfl 90 _ _ rfl V13.heap.size X1 rfl rfl 90 _ (heap_alloc_new _ _) (by rw [HX9.out];exact Hs6.out) (by rw [HX9.out];kernel_rfl) HX1.out ?_;rw [World.setRow_alloc_new,←HW14.out,←HYbe.out])
     go_cut [159] (fun v wx=>v = .bool false/\Old W14 wx)
     case first=>as_aux_lemma=>
      have HD:Hid (Old W14 W14.drew):=zH (Old.refl W14).drew
      clear HW14 HYbe HRw HYr HEx
      refine wp_region_held_drew (S:=(fun V=>Old W14 V)) (by kernel_rfl) ?_ (fun hHeld=>?_)
      ·(try dsimp only);exact HD.out
      refine wpU 0 rfl ?_;try simp only [Act.put,sA,sZ,sS]
      refine wpU 1 rfl ?_;try simp only [Act.put,sA,sZ,sS]
      refine wpU 2 rfl ?_;try simp only [Act.put,sA,sZ,sS]
      refine wpU 5 rfl ?_;try simp only [Act.put,sA,sZ,sS]
      refine wpU 6 rfl ?_;try simp only [Act.put,sA,sZ,sS]
      refine wpU 7 rfl ?_;try simp only [Act.put,sA,sZ,sS]
      refine wpT 3 (v:=.agg X1) rfl (yieldsIf_load_row (by kernel_rfl) 90 (.tmp 15) rfl yb rfl 90 X1 (0,0) _ (fun V h=>HYb.out V h) Tryz.underlying90 rfl (by rw [HX9.out];exact Hs6.out)) (by assumption) ?_;try simp only [Act.put,sA,sZ,sS]
      refine wpT 8 (v:=.agg SC) rfl (yieldsIf_load_cs SC (by kernel_rfl) 90 (.tmp 143) rfl gs (i*6) rfl _ (fun V h=>HSc.out V (HO13.out.trans (HO14.out.trans h))) Tryz.underlying90 rfl (by rw [HS6.out];exact Hs6.out)) (by assumption) ?_;try simp only [Act.put,sA,sZ,sS]
      refine wpR 4 rfl (fun K hK=>?_)
      go_simp
      refine(HMu.out _ (HO14.out.trans HD.out)).mono ?_
      rintro e V15 ⟨rfl,o15⟩
      have HO15:=zH (HD.out.trans o15)
      clear o15
      go_wp2_with fail
      refine hK.out _ _ ?_ (fun hHeld=>?_)
      ·(try dsimp only);exact HO15.out
      clear hK K
      try simp only [Act.put,sA,sZ,sS]
      refine wpR 9 rfl (fun K hK=>?_)
      go_simp
      refine(HMs.out _ (HO13.out.trans (HO14.out.trans HO15.out))).mono ?_
      rintro e V16 ⟨rfl,o16⟩
      have HO16:=zH (HO15.out.trans o16)
      clear o16
      go_wp2_with fail
      refine hK.out _ _ ?_ (fun hHeld=>?_)
      ·(try dsimp only);exact HO16.out
      clear hK K
      try simp only [Act.put,sA,sZ,sS]
      refine wpU 10 rfl ?_;try simp only [Act.put,sA,sZ,sS]
      refine wpU 11 rfl ?_;try simp only [Act.put,sA,sZ,sS]
      refine wpU 12 rfl ?_;try simp only [Act.put,sA,sZ,sS]
      refine wpU 13 rfl ?_;try simp only [Act.put,sA,sZ,sS]
      refine wpT 14 (v:=.slice S1.p C S1.c) rfl (Or.inl ⟨by kernel_rfl,fun V hSV=>by have c:=HYd.out V hSV;go_simp⟩) (by assumption) ?_;try simp only [Act.put,sA,sZ,sS]
      refine wpU 15 rfl ?_;try simp only [Act.put,sA,sZ,sS]
      refine wpU 16 rfl ?_;try simp only [Act.put,sA,sZ,sS]
      refine wpU 17 rfl ?_;try simp only [Act.put,sA,sZ,sS]
      refine wpU 18 rfl ?_;try simp only [Act.put,sA,sZ,sS]
      refine wpU 19 rfl ?_;try simp only [Act.put,sA,sZ,sS]
      refine wpT 20 (v:=.slice (Y i).p (Y i).n (Y i).c) rfl (Or.inl ⟨by kernel_rfl,fun V hSV=>by have c:=HGd.out V hSV;go_simp⟩) (by assumption) ?_;try simp only [Act.put,sA,sZ,sS]
      refine wpU 21 rfl ?_;try simp only [Act.put,sA,sZ,sS]
      refine wpU 22 rfl ?_;try simp only [Act.put,sA,sZ,sS]
      refine wpU 23 rfl ?_;try simp only [Act.put,sA,sZ,sS]
      refine wpAnyH_done (by kernel_rfl) ?_ _
      go_wp2_with fail
      go_meet
      exact⟨by rw [HYn.out.1];simp,HO16.out⟩
     case rest=>as_aux_lemma=>
      obtain⟨rfl,ho17⟩:=hcut
      obtain⟨W17,rfl⟩:∃V,V=wc:=⟨_,rfl⟩
      have HO17:=zH ho17
      have len1:1<=len:=L1.out
      obtain⟨yg,yo,hyp,hyc,hyr⟩:=HRw.out.reads rfl C1.out len1 (fun _ _=>rfl)
      obtain⟨zg,zo,hzp,hzc,hzr⟩:=HYr.out.reads HYn.out.1 C1.out len1 HYn.out.2
      rw [hyp] at HYd
      rw [HYn.out.1,hzp] at HGd
      have HOz:=zH (HO13.out.trans (HO14.out.trans HO17.out))
      have HO1:=zH (HO14.out.trans HO17.out)
      have HYd':Hid (∀V,Old W17 V->V.cell? ⟨yb,5,none⟩=some (.slice (some ⟨yg,yo,none⟩) C S1.c)):=zH fun V o=>HYd.out V (HO17.out.trans o)
      have HGd':Hid (∀V,Old W17 V->V.cell? ⟨gs,i*6+5,none⟩=some (.slice (some ⟨zg,zo,none⟩) C (Y i).c)):=zH fun V o=>HGd.out V (HO17.out.trans o)
      have HYc:=zH (fun V (o:Old W17 V)=>hyc V (HO1.out.trans o))
      have HZc:=zH (fun V (o:Old W17 V)=>hzc V (HOz.out.trans o))
      have HYq:=zH hyr
      have HZq:=zH hzr
      have HO67:=zH (HW.out.trans HOz.out)
      clear ho17 HW14 HYbe HMs HMu hyc hzc hyr hzr hyp hzp HYd HGd HRw HYr HYn HYb HSc HSd hneq HX9 HX1 HMCe HMl HM9 HS6
      go_wp2_with fail
      go_loopw [17] (fun iv wr=>∃ch:Nat,ch<=C/\iv = .int .i64 ch/\Hid (Old W17 wr)) (fun iv _=>C-(intOf iv).toNat)
      case atStart=>exact⟨0,Nat.zero_le _,by go_num,zH (Old.refl W17)⟩
      case round=>
       obtain⟨ch,hch,rfl,HWa⟩:=hrel
       have c1:=HYd'.out _ HWa.out
       by_cases hc:ch<C
       ·have j0:(0:Int)<=ch:=Int.natCast_nonneg _
        have j1:(ch:Int)<C:=Int.ofNat_lt.mpr hc
        obtain⟨ya,yo',hyq,hyv⟩:=HYq.out ch hc
        obtain⟨za,zo',hzq,hzv⟩:=HZq.out ch hc
        have HYc':Hid (∀V,Old W17 V->V.cell? ⟨yg,yo+ch,none⟩=some (.slice (some ⟨ya,yo',none⟩) len (S1.C ch))):=zH fun V o=>by rw [←hyq];exact HYc.out V o ch hc
        have HZc':Hid (∀V,Old W17 V->V.cell? ⟨zg,zo+ch,none⟩=some (.slice (some ⟨za,zo',none⟩) len ((Y i).C ch))):=zH fun V o=>by rw [←hzq];exact HZc.out V o ch hc
        have HYv:=zH (fun V (o:Old W17 V)=>hyv V (HO1.out.trans o))
        have HZv:=zH (fun V (o:Old W17 V)=>hzv V (HOz.out.trans o))
        have HE:=zH (fun h j hj=>HEx.out h ch j hc hj)
        clear hyq hzq hyv hzv
        go_wp2_with fail
        obtain⟨Wa,rfl⟩:∃V,V=wr:=⟨_,rfl⟩
        go_loopw [18] (fun iv wr=>∃j:Nat,j<=len/\iv = .int .i64 j/\Hid (Old W17 wr)) (fun iv _=>len-(intOf iv).toNat)
        case atStart=>exact⟨0,Nat.zero_le _,by go_num,HWa⟩
        case round=>
         obtain⟨j,hj,rfl,HWb⟩:=hrel
         have c1:=HYd'.out _ HWb.out
         have c2:=HYc'.out _ HWb.out
         have c3:=HGd'.out _ HWb.out
         have c4:=HZc'.out _ HWb.out
         by_cases hjl:j<len
         ·have j2:(0:Int)<=j:=Int.natCast_nonneg _
          have j3:(j:Int)<len:=Int.ofNat_lt.mpr hjl
          go_upto_region 28 with (fail)
          go_cut [213] (fun v wx=>v = .bool false/\Old W17 wx)
          case first=>as_aux_lemma=>
           have HD:Hid (Old W17 wr.drew):=zH HWb.out.drew
           clear c1 c2 c3 c4
           by_cases h55:55<=z
           ·have f55:(55:Int)<=z:=by exact_mod_cast h55
            have g55:decide ((55:Int)<=(z:Int))=true:=decide_eq_true f55
            have hee:=HE.out h55 j hjl
            refine wp_region_held_drew (S:=(fun V=>Old W17 V)) (by kernel_rfl) ?_ (fun hHeld=>?_)
            ·(try dsimp only);exact HD.out
            refine wpU 0 rfl ?_;try simp only [Act.put,sA,sZ,sS]
            refine wpU 1 rfl ?_;try simp only [Act.put,sA,sZ,sS]
            refine wpU 2 rfl ?_;try simp only [Act.put,sA,sZ,sS]
            refine wpU 3 rfl ?_;try simp only [Act.put,sA,sZ,sS]
            refine wpT 4 (v:=.slice (some ⟨yg,yo,none⟩) C S1.c) rfl (Or.inl ⟨by kernel_rfl,fun V hSV=>by have c:=HYd'.out V hSV;go_simp⟩) (by assumption) ?_;try simp only [Act.put,sA,sZ,sS]
            refine wpU 5 rfl ?_;try simp only [Act.put,sA,sZ,sS]
            refine wpU 6 rfl ?_;try simp only [Act.put,sA,sZ,sS]
            refine wpT 7 (v:=.slice (some ⟨ya,yo',none⟩) len (S1.C ch)) rfl (Or.inl ⟨by kernel_rfl,fun V hSV=>by have c:=HYc'.out V hSV;go_simp⟩) (by assumption) ?_;try simp only [Act.put,sA,sZ,sS]
            refine wpU 8 rfl ?_;try simp only [Act.put,sA,sZ,sS]
            refine wpU 9 rfl ?_;try simp only [Act.put,sA,sZ,sS]
            refine wpT 10 (v:=.int .i64 (VF ch j)) rfl (Or.inl ⟨by kernel_rfl,fun V hSV=>by have c:=HYv.out V hSV j hjl;go_simp⟩) (by assumption) ?_;try simp only [Act.put,sA,sZ,sS]
            refine wpU 11 rfl ?_;try simp only [Act.put,sA,sZ,sS]
            refine wpU 12 rfl ?_;try simp only [Act.put,sA,sZ,sS]
            refine wpU 13 rfl ?_;try simp only [Act.put,sA,sZ,sS]
            refine wpU 14 rfl ?_;try simp only [Act.put,sA,sZ,sS]
            refine wpT 15 (v:=.slice (some ⟨zg,zo,none⟩) C (Y i).c) rfl (Or.inl ⟨by kernel_rfl,fun V hSV=>by have c:=HGd'.out V hSV;go_simp⟩) (by assumption) ?_;try simp only [Act.put,sA,sZ,sS]
            refine wpU 16 rfl ?_;try simp only [Act.put,sA,sZ,sS]
            refine wpU 17 rfl ?_;try simp only [Act.put,sA,sZ,sS]
            refine wpT 18 (v:=.slice (some ⟨za,zo',none⟩) len ((Y i).C ch)) rfl (Or.inl ⟨by kernel_rfl,fun V hSV=>by have c:=HZc'.out V hSV;go_simp⟩) (by assumption) ?_;try simp only [Act.put,sA,sZ,sS]
            refine wpU 19 rfl ?_;try simp only [Act.put,sA,sZ,sS]
            refine wpU 20 rfl ?_;try simp only [Act.put,sA,sZ,sS]
            refine wpT 21 (v:=.int .i64 ((Y i).X ch j)) rfl (Or.inl ⟨by kernel_rfl,fun V hSV=>by have c:=HZv.out V hSV j hjl;go_simp⟩) (by assumption) ?_;try simp only [Act.put,sA,sZ,sS]
            refine wpU 22 rfl ?_;try simp only [Act.put,sA,sZ,sS]
            refine wpU 23 rfl ?_;try simp only [Act.put,sA,sZ,sS]
            refine wpAnyH_done (by kernel_rfl) ?_ _
            go_wp2_with fail
            go_meet
            exact⟨by simp [hee],HD.out⟩
           ·have f55:¬(55:Int)<=z:=by intro h;exact h55 (by exact_mod_cast h)
            have g55:decide ((55:Int)<=(z:Int))=false:=decide_eq_false f55
            refine wp_region_held_drew (S:=(fun V=>Old W17 V)) (by kernel_rfl) ?_ (fun hHeld=>?_)
            ·(try dsimp only);exact HD.out
            refine wpU 0 rfl ?_;try simp only [Act.put,sA,sZ,sS]
            refine wpU 1 rfl ?_;try simp only [Act.put,sA,sZ,sS]
            refine wpU 2 rfl ?_;try simp only [Act.put,sA,sZ,sS]
            refine wpT 3 (v:=undef) rfl (Or.inr ⟨by kernel_rfl,rfl⟩) (by assumption) ?_;try simp only [Act.put,sA,sZ,sS]
            refine wpT 4 (v:=undef) rfl (Or.inr ⟨by kernel_rfl,rfl⟩) (by assumption) ?_;try simp only [Act.put,sA,sZ,sS]
            refine wpT 5 (v:=undef) rfl (Or.inr ⟨by kernel_rfl,rfl⟩) (by assumption) ?_;try simp only [Act.put,sA,sZ,sS]
            refine wpT 6 (v:=undef) rfl (Or.inr ⟨by kernel_rfl,rfl⟩) (by assumption) ?_;try simp only [Act.put,sA,sZ,sS]
            refine wpT 7 (v:=undef) rfl (Or.inr ⟨by kernel_rfl,rfl⟩) (by assumption) ?_;try simp only [Act.put,sA,sZ,sS]
            refine wpT 8 (v:=undef) rfl (Or.inr ⟨by kernel_rfl,rfl⟩) (by assumption) ?_;try simp only [Act.put,sA,sZ,sS]
            refine wpT 9 (v:=undef) rfl (Or.inr ⟨by kernel_rfl,rfl⟩) (by assumption) ?_;try simp only [Act.put,sA,sZ,sS]
            refine wpT 10 (v:=undef) rfl (Or.inr ⟨by kernel_rfl,rfl⟩) (by assumption) ?_;try simp only [Act.put,sA,sZ,sS]
            refine wpT 11 (v:=undef) rfl (Or.inr ⟨by kernel_rfl,rfl⟩) (by assumption) ?_;try simp only [Act.put,sA,sZ,sS]
            refine wpT 12 (v:=undef) rfl (Or.inr ⟨by kernel_rfl,rfl⟩) (by assumption) ?_;try simp only [Act.put,sA,sZ,sS]
            refine wpT 13 (v:=undef) rfl (Or.inr ⟨by kernel_rfl,rfl⟩) (by assumption) ?_;try simp only [Act.put,sA,sZ,sS]
            refine wpT 14 (v:=undef) rfl (Or.inr ⟨by kernel_rfl,rfl⟩) (by assumption) ?_;try simp only [Act.put,sA,sZ,sS]
            refine wpT 15 (v:=undef) rfl (Or.inr ⟨by kernel_rfl,rfl⟩) (by assumption) ?_;try simp only [Act.put,sA,sZ,sS]
            refine wpT 16 (v:=undef) rfl (Or.inr ⟨by kernel_rfl,rfl⟩) (by assumption) ?_;try simp only [Act.put,sA,sZ,sS]
            refine wpT 17 (v:=undef) rfl (Or.inr ⟨by kernel_rfl,rfl⟩) (by assumption) ?_;try simp only [Act.put,sA,sZ,sS]
            refine wpT 18 (v:=undef) rfl (Or.inr ⟨by kernel_rfl,rfl⟩) (by assumption) ?_;try simp only [Act.put,sA,sZ,sS]
            refine wpT 19 (v:=undef) rfl (Or.inr ⟨by kernel_rfl,rfl⟩) (by assumption) ?_;try simp only [Act.put,sA,sZ,sS]
            refine wpT 20 (v:=undef) rfl (Or.inr ⟨by kernel_rfl,rfl⟩) (by assumption) ?_;try simp only [Act.put,sA,sZ,sS]
            refine wpT 21 (v:=undef) rfl (Or.inr ⟨by kernel_rfl,rfl⟩) (by assumption) ?_;try simp only [Act.put,sA,sZ,sS]
            refine wpT 22 (v:=undef) rfl (Or.inr ⟨by kernel_rfl,rfl⟩) (by assumption) ?_;try simp only [Act.put,sA,sZ,sS]
            refine wpU 23 rfl ?_;try simp only [Act.put,sA,sZ,sS]
            refine wpAnyH_done (by kernel_rfl) ?_ _
            go_wp2_with fail
            go_meet
            exact⟨rfl,HD.out⟩
          case rest=>as_aux_lemma=>
           obtain⟨rfl,hoz⟩:=hcut
           have j4:(j:Int)<1048576:=by have:=L2.out.1;omega
           clear c1 c2 c3 c4
           go_wp2_with fail
           go_roundw
           case rel=>exact⟨j+1,hjl,by go_num,zH hoz⟩
           case measure=>(simp [intOf];try omega)
         ·obtain rfl:j=len:=Nat.le_antisymm hj (Nat.not_lt.mp hjl)
          have j4:(ch:Int)<2:=by have:=L2.out.2;omega
          go_wp2_with fail
          go_roundw
          case rel=>exact⟨ch+1,hc,by go_num,HWb⟩
          case measure=>(simp [intOf];try omega)
       ·obtain rfl:ch=C:=Nat.le_antisymm hch (Nat.not_lt.mp hc)
        go_wp2_with fail
        go_roundw
        case rel=>exact⟨i+1,hi,by go_num,zH (HO67.out.trans HWa.out)⟩
        case measure=>(simp [intOf];try omega)
   ·obtain rfl:i=k:=by omega
    have HE:=zH (HO06.out.trans HW.out)
    clear HBk6 HDs6 HYs6 HPK HOr HLk
    go_wp2_with fail
    refine(awake_any _).mono ?_
    rintro e V9 ⟨rfl,o9⟩
    have HE9:=zH (HE.out.trans o9)
    clear o9
    go_wp2_with fail
    go_ret
    exact⟨rfl,HE9.out⟩
end Go.Proofs.YtgefdmfcddpaiaaGreatDoor
