/- Texts joined: FitA, FitB, CodeA, FitC, FitP, FitQ, FitD, FitE, FitG. -/
import Derived.Deep.RegionHeld
import Derived.Deep.CutBlock
import Derived.Test.YtgefdmfcddpaiaaGreatDoorPkAB
import Derived.Test.YtgefdmfcddpaiaaGreatDoorPkAC
import Derived.Test.YtgefdmfcddpaiaaGreatDoorPkAD
import Derived.Test.YtgefdmfcddpaiaaGreatDoorPkAH
import Derived.Test.YtgefdmfcddpaiaaGreatDoorPkAI
import Derived.Test.YtgefdmfcddpaiaaGreatDoorPkAY
import Derived.Test.YtgefdmfcddpaiaaGreatDoorPkBB
import Derived.Test.YtgefdmfcddpaiaaGreatDoorTk
namespace Go.Proofs.YtgefdmfcddpaiaaGreatDoor
set_option linter.unusedVariables false
set_option maxRecDepth 100000
open Go.RowKit
theorem bitLen_lt:∀(n x:Nat),x<18446744073709551616->(Lib.bitLen x<=n↔x<2 ^ n)
 | n,0,_=>by
  have:Lib.bitLen 0=0:=rfl
  rw [this]
  exact⟨fun _=>Nat.pow_pos (by omega),fun _=>Nat.zero_le _⟩
 | 0,x+1,h=>by
  rw [bitLen_half (x+1) (by omega) h]
  simp
 | n+1,x+1,h=>by
  have ih:=bitLen_lt n ((x+1)/2) (by omega)
  rw [bitLen_half (x+1) (by omega) h,Nat.pow_succ]
  constructor
  ·intro h1
   have:=ih.1 (by omega)
   omega
  ·intro h1
   have:=ih.2 (by omega)
   omega
theorem widthI_le(v k:Int)(h1:-9223372036854775808<=v)(h2:v<=9223372036854775807)(hk0:0<=k)(hk:k<=63):widthI v<=k↔fitB v k=true:=by
 by_cases hv:v=0
 ·subst hv
  have e:widthI 0=0:=rfl
  rw [e]
  by_cases hz:k<=0
  ·rw [fitB_neg _ _ hz];exact⟨fun _=>rfl,fun _=>hk0⟩
  ·have:=pw_pos (k-1).toNat
   rw [fitB_mid _ _ (by omega) hk,decide_eq_true_eq];exact⟨fun _=>by omega,fun _=>hk0⟩
 ·unfold widthI
  rw [if_neg hv]
  by_cases hz:k<=0
  ·rw [fitB_neg _ _ hz,beq_iff_eq]
   constructor
   ·intro h;omega
   ·intro h;exact absurd h hv
  ·obtain⟨n,rfl⟩:∃n:Nat,k=n+1:=⟨(k-1).toNat,by omega⟩
   have hb:=bitLen_lt n (upW v).toNat (by unfold upW;split <;> omega)
   rw [fitB_mid _ _ (by omega) hk,decide_eq_true_eq,show ((n:Int)+1-1).toNat=n by omega]
   have e:pw n=((2 ^ n:Nat):Int):=by unfold pw;rw [Int.natCast_pow];rfl
   rw [e]
   generalize 2 ^ n=q at *
   generalize Lib.bitLen (upW v).toNat=L at *
   constructor
   ·intro h
    have:=hb.1 (by omega)
    unfold upW at this
    split at this <;> omega
   ·intro h
    have:L<=n:=hb.2 (by unfold upW;split <;> omega)
    omega
theorem widthI_fit(v k:Int)(h1:-9223372036854775808<=v)(h2:v<=9223372036854775807)(hk:k<=63)(h:widthI v<=k):fitB v k=true:=by
 have:=widthI_bd v
 exact(widthI_le v k h1 h2 (by omega) hk).1 h
theorem wideTo_ge(f:Nat->Int)(n k:Nat)(hk:k<n):widthI (f k)<=wideTo f n (k/4):=by
 induction n with
 | zero=>omega
 | succ n ih=>
  rw [←wideTo_succ]
  dsimp only
  by_cases e:k=n
  ·subst e
   rw [if_pos rfl]
   omega
  ·have:=ih (by omega)
   split
   ·next h=>rw [←h];omega
   ·exact this
theorem wideTo_le(f:Nat->Int)(c:Int)(h0:0<=c)(n j:Nat)(h:∀k,k<n->k/4=j->widthI (f k)<=c):wideTo f n j<=c:=by
 induction n with
 | zero=>exact h0
 | succ n ih=>
  have ih':=ih fun k hk e=>h k (by omega) e
  rw [←wideTo_succ]
  dsimp only
  split
  ·next e=>
   have:=h n (by omega) e.symm
   rw [←e]
   omega
  ·exact ih'
def frN(g s u q:Nat->Int):Nat->Int:=fun k=>if k<4 then g k else if k<9 then s (k-5) else if k<13 then u (k-9) else q (k-13)
theorem frN_g(g s u q:Nat->Int)(k:Nat)(h:k<4):frN g s u q k=g k:=by unfold frN;rw [if_pos h]
theorem frN_s(g s u q:Nat->Int)(k:Nat)(h:k<4):frN g s u q (5+k)=s k:=by unfold frN;rw [if_neg (by omega),if_pos (by omega),show 5+k-5=k by omega]
theorem frN_u(g s u q:Nat->Int)(k:Nat)(h:k<4):frN g s u q (9+k)=u k:=by unfold frN;rw [if_neg (by omega),if_neg (by omega),if_pos (by omega),show 9+k-9=k by omega]
theorem frN_q(g s u q:Nat->Int)(k:Nat):frN g s u q (13+k)=q k:=by unfold frN;rw [if_neg (by omega),if_neg (by omega),if_neg (by omega),show 13+k-13=k by omega]
def tolN(g s X:Nat->Int):Nat->Int:=frN g s (wideF (toldR stepI X s)) (toldR stepI X s)
def maskI(X:Nat->Int)(k:Nat):Int:=widthI (peakL (part X (k*4) 4))
theorem nearI_fits(v:Int)(n:Nat)(h1:-9223372036854775808<=v)(h2:v<=9223372036854775807):-9223372036854775808<=nearI v (pw n)/\nearI v (pw n)<=9223372036854775807:=by
 have hp:=pw_pos n
 have:=quot_bd v (pw n) (by omega) h1 h2
 by_cases hn0:n=0
 ·subst hn0
  have e:pw 0=1:=rfl
  unfold nearI
  rw [e] at this ⊢
  split <;> omega
 ·have h2':2<=pw n:=by have:=pw_mono 1 n (by omega);rw [show pw 1=2 from rfl] at this;exact this
  generalize pw n=p at *
  have hq:v/p<=4611686018427387904:=by
   have:=Int.ediv_le_ediv (a:=v) (b:=9223372036854775807) (c:=p) (by omega) h2
   have h3:(9223372036854775807:Int)/p<=4611686018427387904:=by
    apply Int.ediv_le_of_le_mul (by omega)
    omega
   omega
  unfold nearI
  split <;> omega
theorem told_fits{X:Nat->Int}(s:Nat->Int)(h:Fits64 X):Fits64 (toldR stepI X s):=fun k=>by
 unfold toldR
 split
 ·exact nearI_fits _ _ (h k).1 (h k).2
 ·show -9223372036854775808<=(0:Int)/\(0:Int)<=9223372036854775807
  omega
open Go.ChangeShapes Go.WideShapes
set_option linter.unusedSimpArgs false
theorem frame_build3(s u q:Nat->Int):Tryz.prog.built 113 [(2,.agg (rowN 4 (blk s))),(3,.agg (rowN 4 (blk u))),(4,.agg (rowN 16 (blk q)))]=some (rowN 29 (frC (frN (fun _=>0) s u q) (.slice none 0 0))):=by kernel_rfl
structure TlSt(w:World)(z:Array Value)(X s:Nat->Int)(W:World):Prop where
 b:W.heap[w.heap.size]?=some (.cells (rowN 16 (blk X)) 43 (0,0))
 s:W.heap[w.heap.size+1]?=some (.cells (rowN 4 (blk s)) 275 (0,0))
 r:W.heap[w.heap.size+1+1]?=some (.cells z 113 (0,0))
 old:Old w W
namespace TlSt
variable {w W W':World} {z:Array Value} {X s:Nat->Int}
theorem keep(h:TlSt w z X s W)(k:Old W W'):TlSt w z X s W':=⟨(k.block _ (lt_of_block h.b)).trans h.b,(k.block _ (lt_of_block h.s)).trans h.s,(k.block _ (lt_of_block h.r)).trans h.r,h.old.trans k⟩
theorem start(w:World)(z:Array Value)(X s:Nat->Int):TlSt w z X s (((w.alloc (.cells (rowN 16 (blk X)) 43)).alloc (.cells (rowN 4 (blk s)) 275)).alloc (.cells z 113)):=by
 refine⟨?_,?_,?_,((Old.alloc w _).alloc' _).alloc' _⟩
 ·exact(Below.heap_alloc _ _ _ (by simp;omega)).trans (heap_alloc2_old w _ _)
 ·exact(Below.heap_alloc _ _ _ (by simp)).trans (heap_alloc2_new w _ _)
 ·have:=heap_alloc_new ((w.alloc (.cells (rowN 16 (blk X)) 43)).alloc (.cells (rowN 4 (blk s)) 275)) (.cells z 113)
  rw [World.size_alloc,World.size_alloc] at this
  exact this
end TlSt
set_option maxHeartbeats 2000000 in
theorem Told_any(X s:Nat->Int)(w:World)(hX:Fits64 X):
  Calls Tryz.prog 235 #[.agg (rowN 16 (blk X)),.agg (rowN 4 (blk s))] w fun e w'=>e = .returned (.agg (rowN 29 (frC (tolN (fun _=>0) s X) (.slice none 0 0))))/\Old w w':=by
 have Hs4:Hid ((Tryz.prog.info? 275).map (·.size)=some 4):=zH (by kernel_rfl)
 have Hs16:Hid ((Tryz.prog.info? 43).map (·.size)=some 16):=zH (by kernel_rfl)
 have Hs29:Hid ((Tryz.prog.info? 113).map (·.size)=some 29):=zH (by kernel_rfl)
 obtain⟨z,hz⟩:∃z:Array Value,z=rowN 29 (frC (fun _=>0) (.slice none 0 0)):=⟨_,rfl⟩
 have hzs:z.size=29:=by rw [hz,rowN_size]
 rw [frC_zero] at hz
 obtain⟨W0,hW0⟩:∃W0,W0=(((w.alloc (.cells (rowN 16 (blk X)) 43)).alloc (.cells (rowN 4 (blk s)) 275)).alloc (.cells z 113)):=⟨_,rfl⟩
 have h0:TlSt w z X s W0:=by rw [hW0];exact TlSt.start w z X s
 have H0:=zH h0
 have HS:=zH (Steps_any X s W0 hX)
 have HQ:=zH (told_fits s hX)
 have HW0:=zH hW0
 have Hz:=zH hz
 have Hzs:=zH hzs
 unfold tolN
 generalize toldR stepI X s=q at *
 obtain⟨F,hF⟩:∃F,frN (fun _=>0) s (wideF q) q=F:=⟨_,rfl⟩
 have hbd:=frame_build3 s (wideF q) q
 rw [hF] at hbd ⊢
 have HBd:=zH hbd
 clear hF hbd
 clear h0 hX hW0 hz hzs
 go_enter Tryz.func235,Tryz.ntmps235
 go_wp2_with (first | (rw [←Hz.out,←HW0.out];with_reducible refine wpList_load_row rfl 43 _ rfl w.heap.size rfl 43 (rowN 16 (blk X)) (0,0) _ H0.out.b Tryz.underlying43 rfl (by rw [rowN_size];exact Hs16.out) ?_) | (with_reducible refine wpList_load_row rfl 275 _ rfl (w.heap.size+1) rfl 275 (rowN 4 (blk s)) (0,0) _ H0.out.s Tryz.underlying275 rfl (by rw [rowN_size];exact Hs4.out) ?_))
 refine HS.out.mono ?_
 rintro e w1 ⟨rfl,ho⟩
 have h1:=H0.out.keep (ho.alloc' (.cells (rowN 16 (blk q)) 43))
 have hq1:=heap_alloc_new w1 (.cells (rowN 16 (blk q)) 43)
 have H1:Hid ((rowN 16 (blk q)).all (·.oneCell')=true):=zH (blk_one _ _)
 have HA:=zH h1
 have HB:=zH hq1
 have HWd:=zH (fun w=>Widths_any q w HQ.out)
 clear h1 hq1 ho H0 HS HW0
 go_wp2_with (with_reducible refine wpList_store_row rfl 43 _ _ rfl w1.heap.size (rowN 16 (blk q)) rfl rfl 43 _ (heap_alloc_new _ _) (by rw [rowN_size];exact Hs16.out) (by rw [rowN_size];kernel_rfl) H1.out ?_;rw [World.setRow_alloc_new])
 obtain⟨W2,hW2⟩:∃W2,W2=w1.alloc (.cells (rowN 16 (blk q)) 43):=⟨_,rfl⟩
 obtain⟨qb,hqb⟩:∃qb,qb=w1.heap.size:=⟨_,rfl⟩
 rw [←hW2] at HA HB ⊢
 rw [←hqb] at HB ⊢
 clear hW2 hqb H1
 have HK:Hid (∀W,Old W2 W->(W.heap[w.heap.size+1]?=some (.cells (rowN 4 (blk s)) 275 (0,0))/\W.heap[qb]?=some (.cells (rowN 16 (blk q)) 43 (0,0)))):=zH fun W k=>⟨(HA.out.keep k).s,(k.block _ (lt_of_block HB.out)).trans HB.out⟩
 refine wp_region_held_drew (S:=(fun w'=>w'.heap[w.heap.size+1]?=some (.cells (rowN 4 (blk s)) 275 (0,0))/\w'.heap[qb]?=some (.cells (rowN 16 (blk q)) 43 (0,0)))) (by kernel_rfl) ?_ (fun hHeld=>?_)
 ·(try dsimp only);exact HK.out _ ((Old.refl W2).drew)
 refine wpT 0 (v:=.agg (rowN 4 (blk s))) rfl (yieldsIf_load_row (by kernel_rfl) 275 (.tmp 3) rfl (w.heap.size+1) rfl 275 (rowN 4 (blk s)) (0,0) _ (fun _ h=>h.1) Tryz.underlying275 rfl (by rw [rowN_size];exact Hs4.out)) (by assumption) ?_;try simp only [Act.put,sA,sZ,sS]
 refine wpT 1 (v:=.agg (rowN 16 (blk q))) rfl (yieldsIf_load_row (by kernel_rfl) 43 (.tmp 5) rfl qb rfl 43 (rowN 16 (blk q)) (0,0) _ (fun _ h=>h.2) Tryz.underlying43 rfl (by rw [rowN_size];exact Hs16.out)) (by assumption) ?_;try simp only [Act.put,sA,sZ,sS]
 refine wpT 3 (v:=.agg (rowN 16 (blk q))) rfl (yieldsIf_load_row (by kernel_rfl) 43 (.tmp 5) rfl qb rfl 43 (rowN 16 (blk q)) (0,0) _ (fun _ h=>h.2) Tryz.underlying43 rfl (by rw [rowN_size];exact Hs16.out)) (by assumption) ?_;try simp only [Act.put,sA,sZ,sS]
 refine wpR 2 rfl (fun K hK=>?_)
 go_simp
 refine(HWd.out _).mono ?_
 rintro e V1 ⟨rfl,o1'⟩
 have o1:=((Old.refl W2).drew).trans o1'
 clear o1'
 have HA1:=zH (HA.out.keep o1)
 have HK1:=zH (HK.out _ o1)
 clear HA HK HB HWd o1
 go_wp2_with fail
 refine hK.out _ _ ?_ (fun hHeld=>?_)
 ·(try dsimp only);exact HK1.out
 clear hK K
 try simp only [Act.put,sA,sZ,sS]
 refine wpT 4 (v:=.agg (rowN 29 (frC F (.slice none 0 0)))) rfl (yieldsIf_build (by kernel_rfl) 113 _ rfl [(2,.agg (rowN 4 (blk s))),(3,.agg (rowN 4 (blk (wideF q)))),(4,.agg (rowN 16 (blk q)))] _ (by kernel_rfl) HBd.out) (by assumption) ?_;try simp only [Act.put,sA,sZ,sS]
 have H29:Hid ((rowN 29 (frC F (.slice none 0 0))).all (·.oneCell')=true):=zH (frC_one _ _ rfl)
 have hr:=row_ret HA1.out.r HA1.out.old (by omega) (rowN 29 (frC F (.slice none 0 0)))
 have HR:=zH hr
 have HK2:Hid ((V1.setRow (w.heap.size+1+1) (rowN 29 (frC F (.slice none 0 0)))).heap[w.heap.size+1]?=some (.cells (rowN 4 (blk s)) 275 (0,0))/\(V1.setRow (w.heap.size+1+1) (rowN 29 (frC F (.slice none 0 0)))).heap[qb]?=some (.cells (rowN 16 (blk q)) 43 (0,0))):=by
  refine⟨(setRow_other _ _ _ _ (by omega)).trans HK1.out.1,(setRow_other _ _ _ _ fun e=>?_).trans HK1.out.2⟩
  have h1:=HK1.out.2
  rw [e,HA1.out.r] at h1
  cases h1
 refine wpR 5 rfl (fun K hK=>?_)
 rw [if_pos (by kernel_rfl)]
 refine wp_store_row 113 _ _ rfl (w.heap.size+1+1) (rowN 29 (frC F (.slice none 0 0))) rfl rfl 113 _ HA1.out.r (by rw [rowN_size];exact Hs29.out) (by rw [rowN_size];exact Hzs.out) H29.out ?_
 refine hK.out _ _ ?_ (fun hHeld=>?_)
 ·(try dsimp only);exact HK2.out
 clear hK K
 try simp only [Act.put,sA,sZ,sS]
 refine wpAnyH_done (by kernel_rfl) ?_ _
 go_wp2_with fail
 exact bodyPost_ret (results_cell_row rfl _ _ (w.heap.size+1+1) 113 (rowN 29 (frC F (.slice none 0 0))) (0,0) _ rfl HR.out.1 Tryz.underlying113 rfl (by rw [rowN_size];exact Hs29.out)) rfl ⟨rfl,HR.out.2⟩
def tI:Nat->Int:=fun k=>if k<8*2 then turnC k else 0
theorem T8_blk:T8=rowN 16 (blk tI):=rfl
def coC(size:Int):Nat->Value:=fun k=>if k<16 then blk tI k else .int .i64 size
theorem coder_build(size:Int):Tryz.prog.built 182 [(0,.agg T8),(1,.int .i64 size)]=some (rowN 17 (coC size)):=by kernel_rfl
def CoB(w:World)(b:Nat)(size:Int):Prop:=w.heap[b]?=some (.cells (rowN 17 (coC size)) 182 (0,0))
namespace CoB
variable {w w':World} {b:Nat} {size:Int}
theorem old(h:CoB w b size)(k:Old w w'):CoB w' b size:=(k.block b (lt_of_block h)).trans h
theorem lt(h:CoB w b size):b<w.heap.size:=lt_of_block h
theorem size_cell(h:CoB w b size):w.cell? ⟨b,16,none⟩=some (.int .i64 size):=
 (cell_of_row _ _ _ _ _ _ h).trans (rowN_at 17 (coC size) 16 (by omega))
theorem lap_cell(h:CoB w b size):∀j,j<16->w.cell? ⟨b,0+j,none⟩=some (.int .i64 (tI j)):=fun j hj=>by
 rw [Nat.zero_add,(cell_of_row _ _ _ _ _ _ h).trans (rowN_at 17 (coC size) j (by omega))]
 unfold coC
 rw [if_pos hj]
 rfl
end CoB
theorem CNew_yes(size:Int)(w:World)(h1:24<=size)(h2:size<=96):
  Calls Tryz.prog 48 #[.int .i64 size] w fun e w'=>∃b,e = .returned (.tuple #[.pointer (some ⟨b,0,none⟩),.int .i64 0])/\CoB w' b size/\w.heap.size<=b/\Old w w':=by
 have HL:=zH (fun w=>LapNew_any w)
 have HBd:=zH (coder_build size)
 have hR:∃R,T8=R:=⟨_,rfl⟩
 obtain⟨R,hR⟩:=hR
 rw [hR] at HL HBd
 have HR:=zH hR
 clear hR
 go_enter Tryz.func48,Tryz.ntmps48
 go_wp2_with fail
 refine(HL.out _).mono ?_
 rintro e w1 ⟨rfl,o1⟩
 have HO:=zH o1
 clear o1
 go_wp2_with (refine wpList_build_w (by kernel_rfl) 182 _ rfl [(0,.agg R),(1,.int .i64 size)] _ (by kernel_rfl) HBd.out ?_)
 go_ret2
 exact⟨_,rfl,heap_alloc_new _ _,HO.out.size,HO.out.alloc' _⟩
theorem CNew_no(size:Int)(w:World)(h:¬(24<=size/\size<=96)):
  Calls Tryz.prog 48 #[.int .i64 size] w fun e w'=>e = .returned (.tuple #[.pointer none,.int .i64 12])/\w=w':=by
 by_cases a:24<=size
 ·have b:96<size:=by omega
  clear h
  go_enter Tryz.func48,Tryz.ntmps48
  go_wp2
  go_ret2
  exact⟨rfl,rfl⟩
 ·have b:size<24:=by omega
  clear h a
  go_enter Tryz.func48,Tryz.ntmps48
  go_wp2
  go_ret2
  exact⟨rfl,rfl⟩
theorem CSize_any(b:Nat)(size:Int)(w:World)(h:CoB w b size):Calls Tryz.prog 110 #[.pointer (some ⟨b,0,none⟩)] w fun e w'=>e = .returned (.int .i64 size)/\w=w':=by
 have hc:=h.size_cell
 clear h
 go_enter Tryz.func110,Tryz.ntmps110
 go_wp2
 go_ret
 exact⟨rfl,rfl⟩
theorem isMade_any(b:Nat)(size:Int)(w:World)(h:CoB w b size)(h1:24<=size):Calls Tryz.prog 88 #[.pointer (some ⟨b,0,none⟩)] w fun e w'=>e = .returned (.bool true)/\w=w':=by
 have H:=zH (CSize_any b size w h)
 have hne:((size:Int) != 0)=true:=by simp;omega
 clear h
 go_enter Tryz.func88,Tryz.ntmps88
 go_wp2_with fail
 refine H.out.mono ?_
 rintro e w1 ⟨rfl,rfl⟩
 go_wp2
 go_ret
 exact⟨rfl,rfl⟩
theorem CExact_any(b:Nat)(size:Int)(w:World)(h:CoB w b size):Calls Tryz.prog 193 #[.pointer (some ⟨b,0,none⟩)] w fun e w'=>e = .returned (.bool (decide (55<=size)))/\w=w':=by
 have H:=zH (CSize_any b size w h)
 clear h
 go_enter Tryz.func193,Tryz.ntmps193
 go_wp2_with fail
 refine H.out.mono ?_
 rintro e w1 ⟨rfl,rfl⟩
 go_wp2
 go_ret
 exact⟨rfl,rfl⟩
def samP(xs:List Int):Prop:=∀x∈xs,-32768<=x/\x<=32767
instance (xs:List Int):Decidable (samP xs):=by unfold samP;infer_instance
theorem samP_at{xs:List Int}(h:samP xs)(k:Nat):-32768<=xs.getD k 0/\xs.getD k 0<=32767:=by
 by_cases hk:k<xs.length
 ·have e:xs.getD k 0=xs[k]:=by simp [List.getD,hk]
  rw [e];exact h _ (List.getElem_mem hk)
 ·rw [List.getD_eq_getElem?_getD,List.getElem?_eq_none (by omega)]
  show -32768<=(0:Int)/\(0:Int)<=32767
  omega
theorem samP_of{xs:List Int}(h:∀k,k<xs.length->-32768<=xs.getD k 0/\xs.getD k 0<=32767):samP xs:=fun x hx=>by
 obtain⟨k,hk,rfl⟩:=List.getElem_of_mem hx
 have:=h k hk
 simpa [List.getD,hk] using this
set_option maxHeartbeats 1000000 in
theorem cwrong_any(p:Option Addr)(n cap:Nat)(xs:List Int)(w:World)(hs:SlI w .i64 (.slice p n cap) xs)(hn:n<=1048576):
  Calls Tryz.prog 149 #[.slice p n cap] w fun e w'=>e = .returned (.int .i64 (if samP xs then 0 else 5))/\w=w':=by
 have hl:xs.length=n:=by obtain⟨_,_,h,_⟩:=hs;simp only [Value.slice.injEq] at h;exact h.2.1.symm
 have HS:=zH hs.slF
 have HL:=zH hl
 clear hs hl
 have n1:(n:Int)<=1048576:=by omega
 go_enter Tryz.func149,Tryz.ntmps149
 go_wp2
 go_loop [10] (fun i=>∃k:Nat,k<=n/\i = .int .i64 k/\Hid (∀j,j<k->-32768<=xs.getD j 0/\xs.getD j 0<=32767)) (fun i=>n-(intOf i).toNat)
 case atStart=>exact⟨0,by omega,rfl,fun j hj=>by omega⟩
 case round=>
  obtain⟨k,hk,rfl,hj⟩:=hrel
  by_cases hlt:k<n
  ·obtain⟨b,off,rfl,hb,hc⟩:=HS.out (by omega)
   have hcell:=hc k (by omega)
   dsimp only at hcell
   have i1:(0:Int)<=k:=by omega
   have i2:(k:Int)<n:=by omega
   obtain⟨x,hx⟩:∃x,xs.getD k 0=x:=⟨_,rfl⟩
   rw [hx] at hcell
   have Hx:=zH hx
   clear hx hc HS
   have hbad:¬(-32768<=x/\x<=32767)->¬samP xs:=fun h hh=>h (by rw [←Hx.out];exact samP_at hh k)
   have HBad:=zH hbad
   clear hbad
   by_cases h1:x < -32768
   ·have hf:¬samP xs:=HBad.out (by omega)
    have HF:=zH hf
    clear hf HBad hj
    go_wp2
    go_ret
    exact⟨rfl,rfl⟩
   ·by_cases h2:32767<x
    ·have hf:¬samP xs:=HBad.out (by omega)
     have HF:=zH hf
     clear hf HBad hj
     have h1':-32768<=x:=by omega
     go_wp2
     go_ret
     exact⟨rfl,rfl⟩
    ·have h1':-32768<=x:=by omega
     have h2':x<=32767:=by omega
     have hn:Hid (∀j,j<k+1->-32768<=xs.getD j 0/\xs.getD j 0<=32767):=fun j hj'=>by
      rcases Nat.lt_succ_iff_lt_or_eq.1 hj' with h | rfl
      ·exact hj.out j h
      ·rw [Hx.out];exact⟨h1',h2'⟩
     clear h1 h2 HBad hj
     go_wp2
     go_round
     case rel=>exact⟨k+1,by omega,by go_num,hn⟩
     case measure=>simp [intOf];omega
  ·obtain rfl:k=n:=by omega
   have hf:samP xs:=samP_of (by rw [HL.out];exact hj.out)
   have HF:=zH hf
   clear hf hj HS HL
   go_wp2
   go_ret
   exact⟨rfl,rfl⟩
def candI(m s u:Nat->Int)(b:Int)(k:Nat):Int:=if 0<u k/\s k<23/\(b<0\/m b.toNat-s b.toNat<m k-s k) then k else b
def bestTo(m s u:Nat->Int):Nat->Int
 | 0=>-1
 | k+1=>candI m s u (bestTo m s u k) k
theorem bestTo_bd(m s u:Nat->Int)(k:Nat):-1<=bestTo m s u k/\bestTo m s u k<k:=by
 induction k with
 | zero=>exact⟨by show (-1:Int)<=-1;omega,by show (-1:Int)<0;omega⟩
 | succ k ih=>
  show -1<=candI m s u (bestTo m s u k) k/\candI m s u (bestTo m s u k) k<((k+1:Nat):Int)
  unfold candI
  split <;> omega
theorem bestTo_ok(m s u:Nat->Int)(k:Nat)(h:0<=bestTo m s u k):0<u (bestTo m s u k).toNat/\s (bestTo m s u k).toNat<23:=by
 induction k with
 | zero=>exact absurd h (by show ¬(0:Int)<=-1;omega)
 | succ k ih=>
  have e:bestTo m s u (k+1)=candI m s u (bestTo m s u k) k:=rfl
  rw [e] at h ⊢
  unfold candI at h ⊢
  split
  ·next hc=>rw [Int.toNat_natCast];exact⟨hc.1,hc.2.1⟩
  ·next hc=>rw [if_neg hc] at h;exact ih h
theorem bestTo_none(m s u:Nat->Int)(k:Nat)(h:bestTo m s u k<0)(j:Nat)(hj:j<k):¬(0<u j/\s j<23):=by
 induction k with
 | zero=>omega
 | succ k ih=>
  have e:bestTo m s u (k+1)=candI m s u (bestTo m s u k) k:=rfl
  rw [e] at h
  unfold candI at h
  split at h
  ·omega
  ·next hc=>
   by_cases e2:j=k
   ·subst e2
    rintro ⟨h1,h2⟩
    exact hc ⟨h1,h2,.inl h⟩
   ·exact ih h (by omega)
theorem bestTo_congr{m m' s s' u u':Nat->Int}(hm:∀k,k<4->m k=m' k)(hs:∀k,k<4->s k=s' k)(hu:∀k,k<4->u k=u' k)(k:Nat)(hk:k<=4):bestTo m s u k=bestTo m' s' u' k:=by
 induction k with
 | zero=>rfl
 | succ k ih=>
  have hb:=bestTo_bd m s u k
  have e:bestTo m s u (k+1)=candI m s u (bestTo m s u k) k:=rfl
  have e':bestTo m' s' u' (k+1)=candI m' s' u' (bestTo m' s' u' k) k:=rfl
  rw [e,e',←ih (by omega)]
  unfold candI
  rw [hm k (by omega),hs k (by omega),hu k (by omega),hm (bestTo m s u k).toNat (by omega),hs (bestTo m s u k).toNat (by omega)]
structure CoSt(w:World)(m F:Nat->Int)(sl:Value)(W:World):Prop where
 m:W.heap[w.heap.size]?=some (.cells (rowN 4 (blk m)) 44 (0,0))
 f:FrB 113 W (w.heap.size+1) F sl
 old:Old w W
theorem CoSt.start(w:World)(m F:Nat->Int)(sl:Value):CoSt w m F sl ((w.alloc (.cells (rowN 4 (blk m)) 44)).alloc (.cells (rowN 29 (frC F sl)) 113)):=
 ⟨heap_alloc2_old w _ _,heap_alloc2_new w _ _,(Old.alloc w _).alloc' _⟩
theorem CoSt.keep{w W W':World}{m F:Nat->Int}{sl:Value}(h:CoSt w m F sl W)(k:Old W W'):CoSt w m F sl W':=⟨(k.block _ (lt_of_block h.m)).trans h.m,h.f.old k,h.old.trans k⟩
set_option maxHeartbeats 4000000 in
theorem Coarser_any(m F:Nat->Int)(p:Option Addr)(n cap:Nat)(w:World)(hm:∀k,k<4->0<=m k/\m k<=99)(hs:∀k,k<4->0<=F (5+k)/\F (5+k)<=23)(hu:∀k,k<4->0<=F (9+k)/\F (9+k)<=99):
  Calls Tryz.prog 239 #[.agg (rowN 4 (blk m)),.agg (rowN 29 (frC F (.slice p n cap)))] w fun e w'=>e = .returned (.tuple #[.int .i64 ((bestTo m (fun k=>F (5+k)) (fun k=>F (9+k)) 4).toNat:Int),.bool (decide (0<=bestTo m (fun k=>F (5+k)) (fun k=>F (9+k)) 4))])/\Old w w':=by
 have Hs4:Hid ((Tryz.prog.info? 44).map (·.size)=some 4):=zH (by kernel_rfl)
 obtain⟨W0,hW0⟩:∃W0,W0=((w.alloc (.cells (rowN 4 (blk m)) 44)).alloc (.cells (rowN 29 (frC F (.slice p n cap))) 113)):=⟨_,rfl⟩
 have h0:CoSt w m F (.slice p n cap) W0:=by rw [hW0];exact CoSt.start _ _ _ _
 have H0:=zH h0
 have HM:=zH hm
 have HS:=zH hs
 have HU:=zH hu
 have HW0:=zH hW0
 clear h0 hm hs hu hW0
 go_enter Tryz.func239,Tryz.ntmps239
 go_wp2_with (rw [←HW0.out];with_reducible refine wpList_load_blk rfl 4 (fun j=>F (5+j)) 44 _ rfl (w.heap.size+1) 5 rfl _ (H0.out.f.part 5 4 (by omega)) Tryz.underlying44 rfl Hs4.out ?_)
 clear HW0
 go_loopw [6,7,12] (fun a b i wr=>∃k:Nat,k<=4/\i = .int .i64 k/\a = .int .i64 ((bestTo m (fun k=>F (5+k)) (fun k=>F (9+k)) k).toNat:Int)/\b = .bool (decide (0<=bestTo m (fun k=>F (5+k)) (fun k=>F (9+k)) k))/\Hid (Old W0 wr)) (fun _ _ i _=>4-(intOf i).toNat)
 case atStart=>exact⟨0,by omega,rfl,rfl,rfl,zH (Old.refl _)⟩
 case round=>
  obtain⟨k,hk,rfl,rfl,rfl,ho⟩:=hrel
  by_cases hlt:k<4
  ·have hst:=H0.out.keep ho.out
   have i0:(0:Int)<=k:=by omega
   have i1:(k:Int)<4:=by omega
   have hat:∀w:World,(Instr.index 44 (.agg (rowN 4 (blk fun j=>F (5+j)))) (.int .i64 k)).run Tryz.prog w = .ok (.int .i64 (F (5+k))) w:=fun w=>run_index_ints Tryz.underlying44 Tryz.underlying3 (fun _=>by kernel_rfl) (fun j=>F (5+j)) k hlt w
   obtain⟨b,hb⟩:∃b,bestTo m (fun k=>F (5+k)) (fun k=>F (9+k)) k=b:=⟨_,rfl⟩
   have hbd:=bestTo_bd m (fun k=>F (5+k)) (fun k=>F (9+k)) k
   have hnx:bestTo m (fun k=>F (5+k)) (fun k=>F (9+k)) (k+1)=candI m (fun k=>F (5+k)) (fun k=>F (9+k)) b k:=by rw [←hb];rfl
   rw [hb] at hbd ⊢
   obtain⟨nx,hnxt⟩:∃nx:Nat,nx=b.toNat:=⟨_,rfl⟩
   have hnx4:nx<4:=by omega
   have n0:(0:Int)<=nx:=by omega
   have n1:(nx:Int)<4:=by omega
   have c1:=(hst.f.cell (9+k) (by omega) (by omega)).1
   have c2:=(cell_of_row _ _ _ _ _ _ hst.m).trans (blk_at 4 m k hlt)
   have c3:=(cell_of_row _ _ _ _ _ _ hst.m).trans (blk_at 4 m nx hnx4)
   have c4:=(hst.f.cell (5+nx) (by omega) (by omega)).1
   obtain⟨u0,u1⟩:=HU.out k hlt
   obtain⟨s0,s1⟩:=HS.out k hlt
   obtain⟨m0,m1⟩:=HM.out k hlt
   obtain⟨t0,t1⟩:=HS.out nx hnx4
   obtain⟨v0,v1⟩:=HM.out nx hnx4
   unfold candI at hnx
   rw [←hnxt] at hnx ⊢
   dsimp only at hnx
   have HY:Hid (0<F (9+k)->F (5+k)<23->(b<0\/m nx-F (5+nx)<m k-F (5+k))->bestTo m (fun k=>F (5+k)) (fun k=>F (9+k)) (k+1)=k):=zH fun h1 h2 h3=>by rw [hnx,if_pos ⟨h1,h2,h3⟩]
   have HZ:Hid (¬(0<F (9+k)/\F (5+k)<23/\(b<0\/m nx-F (5+nx)<m k-F (5+k)))->bestTo m (fun k=>F (5+k)) (fun k=>F (9+k)) (k+1)=b):=zH fun h=>by rw [hnx,if_neg h]
   have Hnb:Hid (nx=b.toNat):=zH hnxt
   clear hst hb hnx hnxt
   generalize F (9+k)=uk at *
   generalize F (5+k)=sk at *
   generalize m k=mk at *
   generalize F (5+nx)=sn at *
   generalize m nx=mn at *
   obtain⟨x,hx⟩:∃x,mk-sk=x:=⟨_,rfl⟩
   obtain⟨y,hy⟩:∃y,mn-sn=y:=⟨_,rfl⟩
   have q1:wrap64 (mk-sk)=x:=by rw [IntWalk.wrap64_in _ (by omega)];exact hx
   have q2:wrap64 (mn-sn)=y:=by rw [IntWalk.wrap64_in _ (by omega)];exact hy
   have q1':IntKind.i64.wrap (mk-sk)=x:=by rw [IntWalk.i64_in _ (by omega)];exact hx
   have q2':IntKind.i64.wrap (mn-sn)=y:=by rw [IntWalk.i64_in _ (by omega)];exact hy
   rw [hx,hy] at HY HZ
   clear hx hy
   by_cases hu0:uk=0
   ·subst hu0
    have HN2:Hid (bestTo m (fun k=>F (5+k)) (fun k=>F (9+k)) (k+1)=b):=zH (HZ.out (by omega))
    clear HY HZ
    go_wp2_with fail
    go_roundw
    case rel=>exact⟨k+1,by omega,by go_num,by rw [HN2.out,Hnb.out],by rw [HN2.out],ho⟩
    case measure=>simp [intOf];omega
   ·have hu0':(uk == 0)=false:=by simpa using hu0
    by_cases hs23:23<=sk
    ·have HN2:Hid (bestTo m (fun k=>F (5+k)) (fun k=>F (9+k)) (k+1)=b):=zH (HZ.out (by omega))
     clear HY HZ
     go_wp2_with fail
     go_roundw
     case rel=>exact⟨k+1,by omega,by go_num,by rw [HN2.out,Hnb.out],by rw [HN2.out],ho⟩
     case measure=>simp [intOf];omega
    ·by_cases hb0:0<=b
     ·have hd:decide (0<=b)=true:=decide_eq_true hb0
      rw [hd]
      by_cases hxy:y<x
      ·have HN2:Hid (bestTo m (fun k=>F (5+k)) (fun k=>F (9+k)) (k+1)=k):=zH (HY.out (by omega) (by omega) (.inr hxy))
       clear HY HZ hd
       go_wp2_with fail
       go_quiet (fail)
       go_wp2_with fail
       go_roundw
       case rel=>exact⟨k+1,by omega,by go_num,by rw [HN2.out];simp,by rw [HN2.out];simp,zH (ho.out.drewN _)⟩
       case measure=>simp [intOf];omega
      ·have HN2:Hid (bestTo m (fun k=>F (5+k)) (fun k=>F (9+k)) (k+1)=b):=zH (HZ.out (by omega))
       clear HY HZ hd
       go_wp2_with fail
       go_quiet (fail)
       go_wp2_with fail
       go_roundw
       case rel=>exact⟨k+1,by omega,by go_num,by rw [HN2.out,Hnb.out],by rw [HN2.out];simp;omega,zH (ho.out.drewN _)⟩
       case measure=>simp [intOf];omega
     ·have hd:decide (0<=b)=false:=decide_eq_false hb0
      rw [hd]
      have HN2:Hid (bestTo m (fun k=>F (5+k)) (fun k=>F (9+k)) (k+1)=k):=zH (HY.out (by omega) (by omega) (.inl (by omega)))
      clear HY HZ hd
      go_wp2_with fail
      go_quiet (fail)
      go_wp2_with fail
      go_roundw
      case rel=>exact⟨k+1,by omega,by go_num,by rw [HN2.out];simp,by rw [HN2.out];simp,zH (ho.out.drewN _)⟩
      case measure=>simp [intOf];omega
  ·obtain rfl:k=4:=by omega
   have HO:=zH (H0.out.old.trans ho.out)
   clear ho H0 HM HS HU
   go_wp2_with fail
   go_ret2
   exact⟨rfl,HO.out⟩
def maskTo(X:Nat->Int)(n:Nat):Nat->Int:=fun k=>if k<n then maskI X k else 0
theorem maskTo_succ(X:Nat->Int)(n:Nat):(fun k=>if k=n then maskI X n else maskTo X n k)=maskTo X (n+1):=by
 funext k
 unfold maskTo
 by_cases h:k=n
 ·subst h;rw [if_pos rfl,if_pos (by omega)]
 ·rw [if_neg h]
  by_cases h2:k<n
  ·rw [if_pos h2,if_pos (by omega)]
  ·rw [if_neg h2,if_neg (by omega)]
theorem mask_row(X:Nat->Int):rowN 4 (blk (maskTo X 4))=rowN 4 (blk (maskI X)):=rowN_ext _ _ _ fun k hk=>by unfold blk maskTo;rw [if_pos hk]
set_option maxHeartbeats 1000000 in
theorem Mask_any(X:Nat->Int)(w:World)(hX:Fits64 X):
  Calls Tryz.prog 238 #[.agg (rowN 16 (blk X))] w fun e w'=>e = .returned (.agg (rowN 4 (blk (maskI X))))/\Old w w':=by
 have Hw4:Hid ((Tryz.prog.info? 44).map (·.size)=some 4):=zH (by kernel_rfl)
 obtain⟨z,hz⟩:∃z:Array Value,z=#[.int .i64 0,.int .i64 0,.int .i64 0,.int .i64 0]:=⟨_,rfl⟩
 have hzs:z.size=4:=by rw [hz];rfl
 have H0:=WdSt.start w 43 44 X
 rw [show wideTo X 0=maskTo X 0 from funext fun k=>by unfold maskTo;rw [if_neg (by omega)];rfl] at H0
 have HX:=zH hX
 have HS:=zH (fun k hk w=>slice_band w.heap.size k hk w)
 clear hX
 have H0:=zH H0
 go_enter Tryz.func238,Tryz.ntmps238
 go_wp2_with fail
 rw [←hz] at H0 ⊢
 clear hz
 go_loopw [6] (fun i wr=>∃k:Nat,k<=4/\i = .int .i64 k/\Hid (WdSt w 43 44 z X (maskTo X k) wr)) (fun i _=>4-(intOf i).toNat)
 case atStart=>exact⟨0,by omega,rfl,H0⟩
 case round=>
  obtain⟨k,hk,rfl,hs⟩:=hrel
  clear H0
  by_cases hlt:k<4
  ·have k1:(0:Int)<=k:=by omega
   have k2:(k:Int)<4:=by omega
   have hS:=fun w':World=>slice_band w.heap.size k hlt w'
   have HPk:=zH (Peak_any _ _ _ _ wr (part_SlI hs.out.b (k*4) 4 (16-k*4) (by omega) (by omega) (by omega)) (part_in HX.out (k*4) 4) (by omega))
   have hpb:=peakL_in _ (part_in HX.out (k*4) 4)
   have hmk:maskI X k=widthI (peakL (part X (k*4) 4)):=rfl
   obtain⟨c1,c2⟩:=hs.out.cell k hlt
   have h1:=hs.out.set k hlt (maskI X k)
   rw [maskTo_succ,hmk] at h1
   have H1:=zH h1
   have HWd:=zH (fun w=>Width_any (peakL (part X (k*4) 4)) w (by omega) (by omega))
   clear h1 hs hmk hpb HS
   generalize peakL (part X (k*4) 4)=pk at *
   generalize widthI pk=wk at *
   go_wp2_with fail
   refine HPk.out.mono ?_
   rintro e w1 ⟨rfl,rfl⟩
   go_wp2_with fail
   refine(HWd.out _).mono ?_
   rintro e w1 ⟨rfl,rfl⟩
   go_wp2_with fail
   go_roundw
   case rel=>exact⟨k+1,by omega,by go_num,H1⟩
   case measure=>simp [intOf];omega
  ·obtain rfl:k=4:=by omega
   have hst:=hs.out
   have hg:=hst.g
   rw [mask_row] at hg
   have HG:=zH hg
   have HR:=zH hst.r
   have HD:=zH (hst.row (rowN 4 (blk (maskI X))))
   have H1:Hid ((rowN 4 (blk (maskI X))).all (·.oneCell')=true):=zH (blk_one _ _)
   clear hs hst hg HX HS
   go_wp2_with (first | (with_reducible refine wpList_load_row rfl 44 _ rfl (w.heap.size+1+1) rfl 44 (rowN 4 (blk (maskI X))) (0,0) _ HG.out Tryz.underlying44 rfl (by rw [rowN_size];exact Hw4.out) ?_) | (with_reducible refine wpList_store_row rfl 44 _ _ rfl (w.heap.size+1) (rowN 4 (blk (maskI X))) rfl rfl 44 _ HR.out (by rw [rowN_size];exact Hw4.out) (by rw [rowN_size];exact hzs) H1.out ?_))
   exact bodyPost_ret (results_cell_row rfl _ _ (w.heap.size+1) 44 (rowN 4 (blk (maskI X))) (0,0) _ rfl HD.out.1 Tryz.underlying44 rfl (by rw [rowN_size];exact Hw4.out)) rfl ⟨rfl,HD.out.2⟩
def bestOf(X s:Nat->Int):Int:=bestTo (maskI X) s (wideF (toldR stepI X s)) 4
def sclN(X:Nat->Int):Nat->Nat->Int
 | 0=>fun _=>0
 | n+1=>fun k=>if k=(bestOf X (sclN X n)).toNat then sclN X n k+1 else sclN X n k
def costN(X:Nat->Int)(t n:Nat):Int:=52+28*t+4*sumTo (wideF (toldR stepI X (sclN X n))) 4
def stopN(X:Nat->Int)(t:Nat)(room:Int)(n:Nat):Prop:=bestOf X (sclN X n)<0\/costN X t n<=room
structure StopAt(X:Nat->Int)(t:Nat)(room:Int)(n:Nat):Prop where
 st:stopN X t room n
 no:∀j,j<n->¬stopN X t room j
theorem StopAt.one{X:Nat->Int}{t:Nat}{room:Int}{n m:Nat}(h:StopAt X t room n)(k:StopAt X t room m):n=m:=by
 rcases Nat.lt_trichotomy n m with c | c | c
 ·exact absurd h.st (k.no n c)
 ·exact c
 ·exact absurd k.st (h.no m c)
theorem bestOf_bd(X s:Nat->Int):-1<=bestOf X s/\bestOf X s<4:=bestTo_bd _ _ _ 4
theorem scl_inv(X:Nat->Int)(t:Nat)(room:Int)(n:Nat)(no:∀j,j<n->¬stopN X t room j):(∀k,k<4->0<=sclN X n k/\sclN X n k<=23)/\sclN X n 0+sclN X n 1+sclN X n 2+sclN X n 3=n:=by
 induction n with
 | zero=>exact⟨fun k _=>by show 0<=(0:Int)/\(0:Int)<=23;omega,by show (0:Int)+0+0+0=0;omega⟩
 | succ n ih=>
  obtain⟨h1,h2⟩:=ih fun j hj=>no j (by omega)
  have hb:0<=bestOf X (sclN X n):=by
   have:=no n (by omega)
   unfold stopN at this
   omega
  have hk:=bestOf_bd X (sclN X n)
  have h3:=(bestTo_ok _ _ _ 4 hb).2
  rw [show bestTo (maskI X) (sclN X n) (wideF (toldR stepI X (sclN X n))) 4=bestOf X (sclN X n) from rfl] at h3
  have e:∀k,sclN X (n+1) k=if k=(bestOf X (sclN X n)).toNat then sclN X n k+1 else sclN X n k:=fun _=>rfl
  obtain⟨b,hb4,hbb⟩:∃b:Nat,b<4/\(bestOf X (sclN X n)).toNat=b:=⟨_,by omega,rfl⟩
  rw [hbb] at h3
  constructor
  ·intro k hk4
   rw [e,hbb]
   have:=h1 k hk4
   split
   ·next h=>subst h;omega
   ·exact this
  ·rw [e,e,e,e,hbb]
   rcases(show b=0\/b=1\/b=2\/b=3 by omega) with rfl | rfl | rfl | rfl <;> simp <;> omega
theorem scl_le(X:Nat->Int)(t:Nat)(room:Int)(n:Nat)(no:∀j,j<n->¬stopN X t room j):n<=92:=by
 obtain⟨h1,h2⟩:=scl_inv X t room n no
 have a:=h1 0 (by omega);have b:=h1 1 (by omega);have c:=h1 2 (by omega);have d:=h1 3 (by omega)
 omega
theorem maskI_bd(X:Nat->Int)(k:Nat):0<=maskI X k/\maskI X k<=65:=widthI_bd _
theorem wideF_bd(q:Nat->Int)(k:Nat):0<=wideF q k/\wideF q k<=65:=wideTo_bd q 16 k
theorem addOne_fits{g:Nat->Int}(c x y:Int)(h:Fits64 g):Fits64 (addOne c g x y):=fun j=>by
 unfold addOne
 split
 ·unfold wrap64;omega
 ·exact h j
theorem addTo_fits{f:Nat->Int}(c:Int)(T:Nat->Int)(h:Fits64 f):∀n,Fits64 (addTo c f T n)
 | 0=>h
 | n+1=>addOne_fits _ _ _ (addTo_fits c T h n)
def tnN(f:Nat->Int)(tones:Bool):Nat:=if tones then(findL f).length else 0
def restF2(f:Nat->Int)(tones:Bool):Nat->Int:=addTo (-1) f (toneF f) (tnN f tones)
theorem restF2_fits{f:Nat->Int}(h:Fits64 f)(tones:Bool):Fits64 (restF2 f tones):=addTo_fits _ _ h _
theorem tolN_gains(g s X:Nat->Int):∀k,k<29->k≠4->(if k<4 then g k else tolN (fun _=>0) s X k)=tolN g s X k:=fun k _ _=>by
 unfold tolN frN
 split <;> rfl
def smallP(f:Nat->Int):Prop:=∀k,k<16->-8388607<=f k/\f k<=8388607
instance (f:Nat->Int):Decidable (smallP f):=by unfold smallP;infer_instance
theorem pw23:pw 23=8388608:=rfl
theorem width24(a:Int)(h0:0<=a)(h1:a<=9223372036854775807):widthI a<=24↔a<=8388607:=by
 rw [widthI_le a 24 (by omega) h1 (by omega) (by omega),fitB_mid _ _ (by omega) (by omega),decide_eq_true_eq,show ((24:Int)-1).toNat=23 from rfl,pw23]
 omega
theorem absI_small(v:Int)(h0:-9223372036854775808<=v)(h1:v<=9223372036854775807):absI v<=8388607↔-8388607<=v/\v<=8388607:=by
 unfold absI
 split
 ·omega
 ·split <;> omega
theorem small_width(f:Nat->Int)(hf:Fits64 f):widthI (peakL (part f 0 16))<=24↔smallP f:=by
 have hp:=peakL_in _ (part_in hf 0 16)
 rw [width24 _ hp.1 hp.2,peakL_le]
 constructor
 ·rintro ⟨_,h⟩ k hk
  have:=h (f k) (mem_part.2 ⟨k,hk,by rw [Nat.zero_add]⟩)
  exact(absI_small _ (hf k).1 (hf k).2).1 this
 ·intro h
  refine⟨by omega,fun x hx=>?_⟩
  obtain⟨j,hj,rfl⟩:=mem_part.1 hx
  rw [Nat.zero_add]
  exact(absI_small _ (hf j).1 (hf j).2).2 (h j hj)
theorem small_near{f:Nat->Int}(h:smallP f):nearP f:=fun k hk=>by have:=h k hk;omega
theorem take_mem_succ(l:List Nat)(k i:Nat)(h:k<l.length):i∈l.take (k+1)↔i∈l.take k\/i=l.getD k 0:=by
 rw [List.take_add_one,List.getElem?_eq_getElem h,List.mem_append,List.getD_eq_getElem?_getD,List.getElem?_eq_getElem h]
 simp
theorem tone_place(f:Nat->Int)(k:Nat)(hkl:k<(findL f).length):(findL f).getD k 0<16:=by
 rw [List.getD_eq_getElem?_getD,List.getElem?_eq_getElem hkl]
 exact(mem_findL.1 (List.getElem_mem hkl)).1.1
theorem gone(f:Nat->Int)(hn:nearP f):∀k,k<=(findL f).length->∀j,j<16->addTo (-1) f (toneF f) k j=if j∈(findL f).take k then 0 else f j
 | 0,_,j,_=>by simp [addTo]
 | k+1,hk,j,hj=>by
  have ih:=gone f hn k (by omega)
  have hkl:k<(findL f).length:=by omega
  have hp16:=tone_place f k hkl
  have hnot:(findL f).getD k 0 ∉ (findL f).take k:=by
   intro hm
   obtain⟨q,hq,e⟩:=List.getElem_of_mem hm
   rw [List.length_take] at hq
   rw [List.getElem_take,List.getD_eq_getElem?_getD,List.getElem?_eq_getElem hkl] at e
   have:=List.pairwise_iff_getElem.1 (findL_rising f) q k (by omega) hkl (by omega)
   simp only [Option.getD_some] at e
   omega
  show addOne (-1) (addTo (-1) f (toneF f) k) (toneF f (2*k)) (toneF f (2*k+1)) j=_
  rw [toneF_even,toneF_odd,addOne_yes _ _ _ _ hp16]
  dsimp only
  by_cases e:j=(findL f).getD k 0
  ·rw [if_pos e,if_pos ((take_mem_succ _ _ _ hkl).2 (.inr e)),ih _ hp16,if_neg hnot]
   have:=hn _ hp16
   rw [show (-1:Int)*f ((findL f).getD k 0) = - f ((findL f).getD k 0) by omega,IntWalk.wrap64_in (- f ((findL f).getD k 0)) (by omega),IntWalk.wrap64_in _ (by omega)]
   omega
  ·rw [if_neg e,ih j hj]
   by_cases h:j∈(findL f).take k
   ·rw [if_pos h,if_pos ((take_mem_succ _ _ _ hkl).2 (.inl h))]
   ·rw [if_neg h,if_neg (fun h'=>by rcases(take_mem_succ _ _ _ hkl).1 h' with h' | h';exact h h';exact e h')]
theorem rest_small{f:Nat->Int}(h:smallP f)(tones:Bool):smallP (restF2 f tones):=fun k hk=>by
 have hle:tnN f tones<=(findL f).length:=by unfold tnN;split <;> omega
 unfold restF2
 rw [gone f (small_near h) _ hle k hk]
 split
 ·omega
 ·exact h k hk
theorem tone_fits{f:Nat->Int}(hf:Fits64 f):Fits64 (toneF f):=fun j=>by
 unfold toneF
 split
 ·have:(findL f).getD (j/2) 0<16:=by
   by_cases h:j/2<(findL f).length
   ·exact tone_place f _ h
   ·simp [Nat.not_lt.1 h]
  omega
 ·exact hf _
theorem near_small(v:Int)(n:Nat)(h1:-8388607<=v)(h2:v<=8388607):-8388607<=nearI v (pw n)/\nearI v (pw n)<=8388607:=by
 have hp:=pw_pos n
 by_cases hn0:n=0
 ·subst hn0
  have e:pw 0=1:=rfl
  unfold nearI
  rw [e]
  split <;> omega
 ·have h2':2<=pw n:=by have:=pw_mono 1 n (by omega);rw [show pw 1=2 from rfl] at this;exact this
  generalize pw n=p at *
  have a1:v/p<=4194303:=by
   have:v/p<4194304:=Int.ediv_lt_of_lt_mul (by omega) (by omega)
   omega
  have a2:-8388607<=v/p:=Int.le_ediv_of_mul_le (by omega) (by omega)
  unfold nearI
  split <;> omega
theorem near_last(v:Int)(h1:-8388607<=v)(h2:v<=8388607):-1<=nearI v 8388608/\nearI v 8388608<=1:=by
 unfold nearI
 split <;> omega
theorem wide_small{X s:Nat->Int}(hX:smallP X)(k:Nat):0<=wideF (toldR stepI X s) k/\wideF (toldR stepI X s) k<=24:=by
 refine⟨(wideF_bd _ k).1,wideTo_le _ 24 (by omega) 16 k fun j hj _=>?_⟩
 have hq:-8388607<=toldR stepI X s j/\toldR stepI X s j<=8388607:=by
  unfold toldR
  split
  ·exact near_small _ _ (hX j hj).1 (hX j hj).2
  ·show -8388607<=(0:Int)/\(0:Int)<=8388607
   omega
 rw [widthI_le _ 24 (by omega) (by omega) (by omega) (by omega),fitB_mid _ _ (by omega) (by omega),decide_eq_true_eq,show ((24:Int)-1).toNat=23 from rfl,pw23]
 omega
theorem step_small{X s:Nat->Int}(hX:smallP X)(j:Nat)(hj:j<16):-8388607<=toldR stepI X s j/\toldR stepI X s j<=8388607:=by
 unfold toldR
 split
 ·exact near_small _ _ (hX j hj).1 (hX j hj).2
 ·show -8388607<=(0:Int)/\(0:Int)<=8388607
  omega
theorem tol_may{g s X:Nat->Int}{n:Nat}{T:Nat->Int}(hg:rightP g)(hs:∀k,k<4->0<=s k/\s k<=23)(hX:smallP X)(hn:n<=2)
  (ht:∀k,k<n->0<=T (2*k)/\T (2*k)<=15/\fitB (T (2*k+1)) 24=true/\(0<k->T (2*(k-1))<T (2*k))):FrP (tolN g s X) n T where
 hg k hk:=by unfold tolN;rw [frN_g _ _ _ _ _ hk];exact hg k hk
 hs k hk:=by unfold tolN;rw [frN_s _ _ _ _ _ hk];exact hs k hk
 hw k hk:=by unfold tolN;rw [frN_u _ _ _ _ _ hk];exact wide_small hX k
 hq k hk:=by
  unfold tolN
  rw [frN_q,frN_u _ _ _ _ _ (by omega)]
  have h1:=step_small (s:=s) hX k hk
  have h2:=wide_small (s:=s) hX (k/4)
  exact widthI_fit _ _ (by omega) (by omega) (by omega) (wideTo_ge _ 16 k hk)
 hn:=hn
 ht:=ht
theorem tones_may{f:Nat->Int}(hf:smallP f)(n:Nat)(hn:n<=(findL f).length):∀k,k<n->0<=toneF f (2*k)/\toneF f (2*k)<=15/\fitB (toneF f (2*k+1)) 24=true/\(0<k->toneF f (2*(k-1))<toneF f (2*k)):=fun k hk=>by
 have hkl:k<(findL f).length:=by omega
 have hp:=tone_place f k hkl
 rw [toneF_even,toneF_odd,toneF_even]
 refine⟨by omega,by omega,?_,fun h0=>?_⟩
 ·have:=hf _ hp
  rw [fitB_mid _ _ (by omega) (by omega),decide_eq_true_eq,show ((24:Int)-1).toNat=23 from rfl,pw23]
  omega
 ·have:=List.pairwise_iff_getElem.1 (findL_rising f) (k-1) k (by omega) hkl (by omega)
  rw [List.getD_eq_getElem?_getD,List.getElem?_eq_getElem (by omega),List.getD_eq_getElem?_getD,List.getElem?_eq_getElem hkl]
  simp only [Option.getD_some]
  omega
theorem stop_room{X:Nat->Int}{t n:Nat}{room:Int}(h:StopAt X t room n)(hX:smallP X)(ht:t<=2)(hr:192<=room):costN X t n<=room:=by
 rcases h.st with h1 | h1
 ·obtain⟨hs,_⟩:=scl_inv X t room n h.no
  have hw:∀k,k<4->wideF (toldR stepI X (sclN X n)) k<=2:=fun k hk=>by
   have hno:=bestTo_none _ _ _ 4 h1 k hk
   have hsk:=hs k hk
   by_cases hu:0<wideF (toldR stepI X (sclN X n)) k
   ·have h23:sclN X n k=23:=by
     by_cases h:sclN X n k<23
     ·exact absurd ⟨hu,h⟩ hno
     ·omega
    refine wideTo_le _ 2 (by omega) 16 k fun j hj e=>?_
    have hsc:scalesP (sclN X n):=fun k hk=>hs k hk
    have hq:toldR stepI X (sclN X n) j=nearI (X j) 8388608:=by
     unfold toldR
     rw [if_pos hsc]
     unfold toldF stepI
     rw [e,h23]
     rfl
    rw [hq]
    have:=near_last (X j) (hX j hj).1 (hX j hj).2
    rw [widthI_le _ 2 (by omega) (by omega) (by omega) (by omega),fitB_mid _ _ (by omega) (by omega),decide_eq_true_eq,show ((2:Int)-1).toNat=1 from rfl,show pw 1=2 from rfl]
    omega
   ·omega
  have a:=hw 0 (by omega);have b:=hw 1 (by omega);have c:=hw 2 (by omega);have d:=hw 3 (by omega)
  unfold costN
  rw [sum_four]
  omega
 ·exact h1
def zeroS:Nat->Int:=fun _=>0
theorem zeroS_ok:scalesP zeroS:=fun k _=>by unfold zeroS;omega
theorem step_exact(f:Nat->Int):toldR stepI f zeroS=f:=by
 funext k
 unfold toldR
 rw [if_pos zeroS_ok]
 show nearI (f k) 1=f k
 unfold nearI
 split <;> omega
theorem spec_exact{f g:Nat->Int}(hf:smallP f)(T:Nat->Int)(k:Nat)(hk:k<16):specF (tolN g zeroS f) 0 T k=f k:=by
 have hs:stS (tolN g zeroS f)=fun k=>tolN g zeroS f (5+k):=rfl
 have hq:∀k,k<16->stQ (tolN g zeroS f) k=f k:=fun k hk=>by
  unfold stQ
  rw [if_pos hk]
  unfold tolN
  rw [frN_q,step_exact]
 have hsc:scalesP (stS (tolN g zeroS f)):=fun k hk=>by
  unfold stS tolN
  rw [frN_s _ _ _ _ _ hk]
  unfold zeroS
  omega
 unfold specF clampTo
 rw [if_pos hk]
 show clampI (specV (tolN g zeroS f) k) _ _=_
 have hv:specV (tolN g zeroS f) k=f k:=by
  unfold specV toldR
  rw [if_pos hsc]
  unfold toldF
  rw [hq k hk]
  have e:stS (tolN g zeroS f) (k/4)=0:=by
   unfold stS tolN
   rw [frN_s _ _ _ _ _ (by omega)]
   rfl
  rw [e]
  show wrap64 (f k*1)=f k
  rw [Int.mul_one]
  have:=hf k hk
  exact IntWalk.wrap64_in _ (by omega)
 rw [hv]
 have:=hf k hk
 exact clampI_in _ _ _ (by omega) (by omega)
theorem exact_may{f g:Nat->Int}(hg:rightP g)(hf:smallP f)(T:Nat->Int):FrP (tolN g zeroS f) 0 T:=tol_may hg (fun k _=>by unfold zeroS;omega) hf (by omega) (fun k hk=>by omega)
theorem err_none(L:List Bool)(size:Int)(h:(L.length:Int)<=8*size)(h2:size<=2147483647):bytesErr L 0 size=0:=by
 unfold bytesErr nb
 rw [if_neg (by simp),if_neg (by omega),if_neg (by omega)]
theorem gain_zero:rightP zeroS:=fun k _=>by unfold zeroS;omega
theorem gains_may(g:Nat->Int)(T:Nat->Int):FrP (frN g zeroS zeroS zeroS) 0 T↔rightP g:=by
 constructor
 ·intro h k hk
  have:=h.hg k hk
  rwa [frN_g _ _ _ _ _ hk] at this
 ·intro h
  refine⟨fun k hk=>by rw [frN_g _ _ _ _ _ hk];exact h k hk,fun k hk=>?_,fun k hk=>?_,fun k hk=>?_,by omega,fun k hk=>by omega⟩
  ·rw [frN_s _ _ _ _ _ hk];unfold zeroS;omega
  ·rw [frN_u _ _ _ _ _ hk];unfold zeroS;omega
  ·rw [frN_q];rw [frN_u _ _ _ _ _ (by omega)];rfl
theorem row4_zeroD:rowN 4 (blk fun _=>0)=#[.int .i64 0,.int .i64 0,.int .i64 0,.int .i64 0]:=rfl
theorem FrB.gains{t:TypeId}{w:World}{b:Nat}{F:Nat->Int}{s:Value}(h:FrB t w b F s)(g:Nat->Int):FrB t (w.setCells b 0 (rowL 4 g)) b (fun k=>if k<4 then g k else F k) s:=by
 have h4:=(((h.set 0 (by omega) (by omega) (g 0)).set 1 (by omega) (by omega) (g 1)).set 2 (by omega) (by omega) (g 2)).set 3 (by omega) (by omega) (g 3)
 have e:(fun k=>if k=3 then g 3 else(fun k=>if k=2 then g 2 else(fun k=>if k=1 then g 1 else(fun k=>if k=0 then g 0 else F k) k) k) k)=fun k=>if k<4 then g k else F k:=by
  funext k
  dsimp only
  by_cases h0:k=0
  ·subst h0;simp
  by_cases h1:k=1
  ·subst h1;simp
  by_cases h2:k=2
  ·subst h2;simp
  by_cases h3:k=3
  ·subst h3;simp
  rw [if_neg h3,if_neg h2,if_neg h1,if_neg h0,if_neg (by omega)]
 rw [e] at h4
 exact h4
theorem FrB.there{t:TypeId}{w:World}{b:Nat}{F:Nat->Int}{s:Value}(h:FrB t w b F s)(o n:Nat)(ho:o+n<=4\/(4<o/\o+n<=29)):w.there b o n:=fun j hj=>⟨by rw [(h.cell (o+j) (by omega) (by omega)).1];rfl,(h.cell (o+j) (by omega) (by omega)).2⟩
theorem FrB.ext{t:TypeId}{w:World}{b:Nat}{F G:Nat->Int}{s:Value}(h:FrB t w b F s)(e:∀k,k<29->k≠4->F k=G k):FrB t w b G s:=by
 unfold FrB
 rw [←frC_ext s e]
 exact h
theorem FrB.cells{t:TypeId}{w:World}{b:Nat}{F:Nat->Int}{s:Value}(h:FrB t w b F s):w.heap[b]?=some (.cells (rowN 29 (frC F s)) t (0,0)):=h
theorem results_row_tmp2{P:Program}{fn:Func}{p u:Tmp}{ty:TypeId}(h:fn.results=#[.cell p ty,.tmp u])(tmps:Array Value)(w:World)(g:Nat)(t:TypeId)(cs:Array Value)(fr:Nat × Nat)(d:TypeDesc)
  (hp:tmps.getD p undef = .pointer (some ⟨g,0,none⟩)) (hg:w.heap[g]?=some (.cells cs t fr))
  (hu:P.underlying ty=some d) (hd:(match d with | .struct _ | .array _ _=>true | _=>false)=true) (hi:(P.info? ty).map (·.size)=some cs.size):
  (results fn tmps).run P w = .ok (.tuple #[.agg cs,tmps.getD u undef]) w:=by
 rw [results_cell_tmp h,hp]
 simp [asAddr,run_loadVar_row w g t ty cs fr d hg hu hd hi]
structure SeSt(w:World)(z:Array Value)(f g:Nat->Int)(W:World):Prop where
 b:W.heap[w.heap.size]?=some (.cells (rowN 16 (blk f)) 43 (0,0))
 g:W.heap[w.heap.size+1]?=some (.cells (rowN 4 (blk g)) 44 (0,0))
 r:W.heap[w.heap.size+1+1]?=some (.cells z 113 (0,0))
 old:Old w W
namespace SeSt
variable {w W W':World} {z:Array Value} {f g:Nat->Int}
theorem keep(h:SeSt w z f g W)(k:Old W W'):SeSt w z f g W':=⟨(k.block _ (lt_of_block h.b)).trans h.b,(k.block _ (lt_of_block h.g)).trans h.g,(k.block _ (lt_of_block h.r)).trans h.r,h.old.trans k⟩
theorem start(w:World)(z:Array Value)(f g:Nat->Int):SeSt w z f g (((w.alloc (.cells (rowN 16 (blk f)) 43)).alloc (.cells (rowN 4 (blk g)) 44)).alloc (.cells z 113)):=by
 refine⟨?_,?_,?_,((Old.alloc w _).alloc' _).alloc' _⟩
 ·exact(Below.heap_alloc _ _ _ (by simp;omega)).trans (heap_alloc2_old w _ _)
 ·exact(Below.heap_alloc _ _ _ (by simp)).trans (heap_alloc2_new w _ _)
 ·have:=heap_alloc_new ((w.alloc (.cells (rowN 16 (blk f)) 43)).alloc (.cells (rowN 4 (blk g)) 44)) (.cells z 113)
  rw [World.size_alloc,World.size_alloc] at this
  exact this
end SeSt
structure RoSt(ty:TypeId)(V4:World)(X:Nat->Int)(t:Nat)(room:Int)(n:Nat)(W:World):Prop where
 no:∀j,j<n->¬stopN X t room j
 s:W.heap[V4.heap.size]?=some (.cells (rowN 4 (blk (sclN X n))) ty (0,0))
 old:Old V4 W
theorem RoSt.next{ty:TypeId}{V4 W W':World}{X:Nat->Int}{t n:Nat}{room:Int}(h:RoSt ty V4 X t room n W)(hs:¬stopN X t room n)(k:Old W W')(b:Nat)(hb:(bestOf X (sclN X n)).toNat=b)(hb4:b<4):
  RoSt ty V4 X t room (n+1) (W'.setCell ⟨V4.heap.size,b,none⟩ (.int .i64 (sclN X n b+1))):=by
 refine⟨fun j hj=>?_,?_,(h.old.trans k).after (Kept.setCell (X:=fun k=>k<V4.heap.size) _ (a:=⟨V4.heap.size,b,none⟩) (by show ¬V4.heap.size<V4.heap.size;omega) _) fun _ h=>h⟩
 ·by_cases e:j=n
  ·subst e;exact hs
  ·exact h.no j (by omega)
 ·have e:blk (sclN X (n+1))=updN (blk (sclN X n)) b (.int .i64 (sclN X n b+1)):=by
   rw [blk_upd]
   congr 1
   funext k
   show (if k=(bestOf X (sclN X n)).toNat then sclN X n k+1 else sclN X n k)=_
   rw [hb]
   by_cases e:k=b
   ·subst e;simp
   ·rw [if_neg e,if_neg e]
  rw [e,←rowN_set _ _ _ _ hb4]
  exact heap_setCell_same _ _ _ _ _ _ ((k.block _ (lt_of_block h.s)).trans h.s)
set_option maxHeartbeats 16000000 in
theorem Search_any(f g:Nat->Int)(room:Int)(tones:Bool)(w:World)(hf:Fits64 f):
  Calls Tryz.prog 202 #[.agg (rowN 16 (blk f)),.agg (rowN 4 (blk g)),.int .i64 room,.bool tones] w fun e w'=>∃n p cap,e = .returned (.tuple #[.agg (rowN 29 (frC (tolN g (sclN (restF2 f tones) n) (restF2 f tones)) (.slice p (tnN f tones) cap))),.int .i64 (n:Int)])/\StopAt (restF2 f tones) (tnN f tones) room n/\tnN f tones<=2/\tnN f tones<=cap/\cap<=maxLen/\SlF 2 w' p (tnN f tones) (toneF f)/\(∀q,(Value.slice p (tnN f tones) cap).ownBlock=some q->w.heap.size<=q)/\Old w w':=by
 have Hs4:Hid ((Tryz.prog.info? 44).map (·.size)=some 4):=zH (by kernel_rfl)
 have HsC:Hid ((Tryz.prog.info? 275).map (·.size)=some 4):=zH (by kernel_rfl)
 have Hs16:Hid ((Tryz.prog.info? 43).map (·.size)=some 16):=zH (by kernel_rfl)
 have Hs29:Hid ((Tryz.prog.info? 113).map (·.size)=some 29):=zH (by kernel_rfl)
 obtain⟨z,hz⟩:∃z:Array Value,z=rowN 29 (frC (fun _=>0) (.slice none 0 0)):=⟨_,rfl⟩
 have hzs:z.size=29:=by rw [hz,rowN_size]
 rw [frC_zero] at hz
 obtain⟨W0,hW0⟩:∃W0,W0=(((w.alloc (.cells (rowN 16 (blk f)) 43)).alloc (.cells (rowN 4 (blk g)) 44)).alloc (.cells z 113)):=⟨_,rfl⟩
 have h0:SeSt w z f g W0:=by rw [hW0];exact SeSt.start w z f g
 have H0:=zH h0
 have HF:=zH (fun w=>Find_any f hf w)
 have Hf:=zH hf
 have Hzs:=zH hzs
 have hX:=restF2_fits hf tones
 obtain⟨X,hXd⟩:∃X,restF2 f tones=X:=⟨_,rfl⟩
 obtain⟨t,htd⟩:∃t,tnN f tones=t:=⟨_,rfl⟩
 have hOut0:Hid (addTo (-1) f (toneF f) t=X):=by unfold Hid;rw [←htd];exact hXd
 rw [hXd] at hX ⊢
 rw [htd]
 have Ht:=zH htd
 have HX:=zH hX
 clear h0 hf hzs hXd htd hX
 go_enter Tryz.func202,Tryz.ntmps202
 go_upto_if 18 with (fail)
 rw [←hz,←hW0]
 clear hz hW0
 go_cut [10] (fun v wx=>∃p cap,v = .slice p t cap/\t<=2/\t<=cap/\cap<=maxLen/\SlF 2 wx p t (toneF f)/\(∀q,(Value.slice p t cap).ownBlock=some q->W0.heap.size<=q)/\Old W0 wx)
 case first=>
  cases tones
  ·go_wp2_with fail
   go_meet
   have h0:t=0:=by rw [←Ht.out];rfl
   rw [h0]
   exact⟨none,0,rfl,by omega,by omega,Nat.zero_le _,fun h=>absurd h (by omega),fun q hq=>(by cases hq),Old.refl _⟩
  ·go_wp2_with (with_reducible refine wpList_load_row rfl 43 _ rfl w.heap.size rfl 43 (rowN 16 (blk f)) (0,0) _ H0.out.b Tryz.underlying43 rfl (by rw [rowN_size];exact Hs16.out) ?_)
   refine(HF.out _).mono ?_
   rintro e w1 ⟨v,rfl,hl,hown,ho⟩
   obtain⟨p,cap,rfl,hnc,hcm,hsl⟩:=own2_slice hown
   have hq:=fun q h=>Nat.le_of_not_lt (hown.2 q h)
   clear hown
   go_wp2_with fail
   go_meet
   rw [show (findL f).length=t from Ht.out] at hl hnc hsl hq ⊢
   exact⟨p,cap,rfl,hl,hnc,hcm,hsl,hq,ho⟩
 case rest=>
  obtain⟨p,cap,rfl,t2,tc,cm,hsl,hq,ho⟩:=hcut
  have hrb:=lt_of_block H0.out.r
  have Hq:Hid (∀q,(Value.slice p t cap).ownBlock=some q->w.heap.size+1+1<q):=zH fun q h=>Nat.lt_of_lt_of_le hrb (hq q h)
  clear hq hrb
  obtain⟨V1,rfl⟩:∃V,V=wc:=⟨_,rfl⟩
  have hOut:=Out_any f p t cap (toneF f) V1 hsl (by omega)
  rw [hOut0.out] at hOut
  have H1:=zH (H0.out.keep ho)
  have HSl:=zH hsl
  have HOut:=zH hOut
  have HMk:=zH (fun w=>Mask_any X w HX.out)
  have Hcm:=zH cm
  clear hOut hOut0 hsl ho H0 HF cm Ht
  go_wp2_with (with_reducible refine wpList_load_row rfl 43 _ rfl w.heap.size rfl 43 (rowN 16 (blk f)) (0,0) _ H1.out.b Tryz.underlying43 rfl (by rw [rowN_size];exact Hs16.out) ?_)
  refine HOut.out.mono ?_
  rintro e V2 ⟨rfl,o2⟩
  have H1X:Hid ((rowN 16 (blk X)).all (·.oneCell')=true):=zH (blk_one _ _)
  have HV2:Hid (Old V1 (V2.alloc (.cells (rowN 16 (blk X)) 43))):=zH (o2.alloc' _)
  clear o2 HOut
  go_wp2_with (first | (with_reducible refine wpList_store_row rfl 43 _ _ rfl V2.heap.size (rowN 16 (blk X)) rfl rfl 43 _ (heap_alloc_new _ _) (by rw [rowN_size];exact Hs16.out) (by rw [rowN_size];kernel_rfl) H1X.out ?_;rw [World.setRow_alloc_new]) | (with_reducible refine wpList_load_row rfl 43 _ rfl V2.heap.size rfl 43 (rowN 16 (blk X)) (0,0) _ (heap_alloc_new _ _) Tryz.underlying43 rfl (by rw [rowN_size];exact Hs16.out) ?_))
  refine(HMk.out _).mono ?_
  rintro e V3 ⟨rfl,o3⟩
  have H1M:Hid ((rowN 4 (blk (maskI X))).all (·.oneCell')=true):=zH (blk_one _ _)
  have o3':=o3.alloc' (.cells (rowN 4 (blk (maskI X))) 44)
  have HXb:=zH ((o3'.block _ (by simp)).trans (heap_alloc_new V2 (.cells (rowN 16 (blk X)) 43)))
  have HMb:=zH (heap_alloc_new V3 (.cells (rowN 4 (blk (maskI X))) 44))
  have HO4:=zH (HV2.out.trans o3')
  clear o3 o3' HMk HV2
  go_wp2_with (with_reducible refine wpList_store_row rfl 44 _ _ rfl V3.heap.size (rowN 4 (blk (maskI X))) rfl rfl 44 _ (heap_alloc_new _ _) (by rw [rowN_size];exact Hs4.out) (by rw [rowN_size];kernel_rfl) H1M.out ?_;rw [World.setRow_alloc_new])
  rw [←row4_zeroD]
  obtain⟨V4,hV4⟩:∃V4,V4=V3.alloc (.cells (rowN 4 (blk (maskI X))) 44):=⟨_,rfl⟩
  obtain⟨xb,hxb⟩:∃xb,xb=V2.heap.size:=⟨_,rfl⟩
  obtain⟨mb,hmb⟩:∃mb,mb=V3.heap.size:=⟨_,rfl⟩
  rw [←hV4,←hxb] at HXb
  rw [←hV4,←hmb] at HMb
  rw [←hV4] at HO4
  rw [←hV4,←hxb,←hmb]
  have hsz:mb+1=V4.heap.size:=by rw [hV4,hmb];simp
  rw [hsz]
  clear hV4 hxb hmb hsz H1X H1M
  have HSe:=zH (H1.out.keep HO4.out)
  have HSl4:=zH (HSl.out.old HO4.out)
  have HR0:Hid (RoSt 275 V4 X t room 0 (V4.alloc (.cells (rowN 4 (blk fun _=>0)) 275))):=zH ⟨fun j hj=>by omega,heap_alloc_new _ _,Old.alloc _ _⟩
  clear H1 HO4 HSl Hf
  go_loopw [14] (fun i wr=>∃n:Nat,i = .int .i64 (n:Int)/\n<=92/\Hid (RoSt 275 V4 X t room n wr)) (fun i _=>92-(intOf i).toNat)
  case atStart=>exact⟨0,rfl,by omega,HR0⟩
  case round=>
   obtain⟨n,rfl,hn92,hr⟩:=hrel
   obtain⟨wo,rfl⟩:∃V,V=wr:=⟨_,rfl⟩
   clear HR0
   obtain⟨hsb,hsum⟩:=scl_inv X t room n hr.out.no
   have HSB:=zH hsb
   have HT:=zH (fun w=>Told_any X (sclN X n) w HX.out)
   have HXo:=zH ((hr.out.old.block _ (lt_of_block HXb.out)).trans HXb.out)
   have HSo:=zH hr.out.s
   clear hsb hsum
   go_wp2_with (first | (with_reducible refine wpList_load_row rfl 43 _ rfl xb rfl 43 (rowN 16 (blk X)) (0,0) _ HXo.out Tryz.underlying43 rfl (by rw [rowN_size];exact Hs16.out) ?_) | (with_reducible refine wpList_load_row rfl 275 _ rfl V4.heap.size rfl 275 (rowN 4 (blk (sclN X n))) (0,0) _ HSo.out Tryz.underlying275 rfl (by rw [rowN_size];exact HsC.out) ?_))
   refine(HT.out _).mono ?_
   rintro e W1 ⟨rfl,o1⟩
   obtain⟨F0,hF0⟩:∃F0,tolN (fun _=>0) (sclN X n) X=F0:=⟨_,rfl⟩
   obtain⟨F,hF⟩:∃F,tolN g (sclN X n) X=F:=⟨_,rfl⟩
   have hFF:∀k,k<29->k≠4->(if k<4 then g k else F0 k)=F k:=by rw [←hF0,←hF];exact tolN_gains g _ _
   have hFs:∀k,k<4->F (5+k)=sclN X n k:=by rw [←hF];exact fun k hk=>frN_s _ _ _ _ k hk
   have hFu:∀k,k<4->F (9+k)=wideF (toldR stepI X (sclN X n)) k:=by rw [←hF];exact fun k hk=>frN_u _ _ _ _ k hk
   rw [hF0]
   have H1F:Hid ((rowN 29 (frC F0 (.slice none 0 0))).all (·.oneCell')=true):=zH (frC_one _ _ rfl)
   obtain⟨V5,hV5⟩:∃V5,V5=W1.alloc (.cells (rowN 29 (frC F0 (.slice none 0 0))) 113):=⟨_,rfl⟩
   obtain⟨fb,hfb⟩:∃fb,fb=W1.heap.size:=⟨_,rfl⟩
   have o5:Old wo V5:=by rw [hV5];exact o1.alloc' _
   have hfr:FrB 113 V5 fb F0 (.slice none 0 0):=by rw [hV5,hfb];exact FrB.new _ _ _
   have hge:wo.heap.size<=fb:=by rw [hfb];exact o1.size
   have hg5:=((hr.out.old.trans o5).block _ (lt_of_block HSe.out.g)).trans HSe.out.g
   have HG5:=zH hg5
   have HTh:=zH (hfr.there 0 4 (by omega))
   obtain⟨V6,hV6⟩:∃V6,V6=V5.setCells fb 0 (rowL 4 g):=⟨_,rfl⟩
   have hfr6:FrB 113 V6 fb F (.slice none 0 0):=by rw [hV6];exact(hfr.gains g).ext hFF
   have ho6:Old wo V6:=by rw [hV6];exact o5.after (Kept.setCells (X:=fun k=>k<wo.heap.size) _ (by show ¬fb<wo.heap.size;omega) _ _) fun _ h=>h
   have c61:=hfr6.cell4.1
   have c62:=hfr6.cell4.2
   have hfr7:FrB 113 (V6.setCell ⟨fb,4,none⟩ (.slice p t cap)) fb F (.slice p t cap):=hfr6.set4 _
   have ho7:Old wo (V6.setCell ⟨fb,4,none⟩ (.slice p t cap)):=ho6.after (Kept.setCell (X:=fun k=>k<wo.heap.size) _ (a:=⟨fb,4,none⟩) (by show ¬fb<wo.heap.size;omega) _) fun _ h=>h
   have HM7:=zH (((hr.out.old.trans ho7).block _ (lt_of_block HMb.out)).trans HMb.out)
   have HF7:=zH hfr7
   have HO7:=zH ho7
   have HCo:=zH (fun w=>Coarser_any (maskI X) F p t cap w (fun k hk=>by have:=maskI_bd X k;omega) (fun k hk=>by rw [hFs k hk];exact HSB.out k hk) (fun k hk=>by rw [hFu k hk];have:=wideF_bd (toldR stepI X (sclN X n)) k;omega))
   have hbe:bestTo (maskI X) (fun k=>F (5+k)) (fun k=>F (9+k)) 4=bestOf X (sclN X n):=bestTo_congr (fun _ _=>rfl) hFs hFu 4 (by omega)
   rw [hbe] at HCo
   have hcost:costI F t=costN X t n:=by
    unfold costI costN
    rw [sum_four,sum_four,hFu 0 (by omega),hFu 1 (by omega),hFu 2 (by omega),hFu 3 (by omega)]
   have HBi:=zH (fun w=>Bits_wide F p t cap w (fun k hk=>by rw [hFu k hk];have:=wideF_bd (toldR stepI X (sclN X n)) k;omega) (by omega))
   rw [hcost] at HBi
   have HV5:=zH hV5
   have Hfb:=zH hfb
   have HV6:=zH hV6
   have HFn:=zH hF
   clear hF0 hF hFF hFs hFu o1 o5 hfr hg5 hV5 hfb hV6 hfr6 ho6 hfr7 ho7 hbe hcost HT HXo
   go_wp2_with (first | (with_reducible refine wpList_store_row rfl 113 _ _ rfl W1.heap.size (rowN 29 (frC F0 (.slice none 0 0))) rfl rfl 113 _ (heap_alloc_new _ _) (by rw [rowN_size];exact Hs29.out) (by rw [rowN_size];kernel_rfl) H1F.out ?_;rw [World.setRow_alloc_new,←HV5.out,←Hfb.out]) | (with_reducible refine wpList_load_row rfl 44 _ rfl (w.heap.size+1) rfl 44 (rowN 4 (blk g)) (0,0) _ HG5.out Tryz.underlying44 rfl (by rw [rowN_size];exact Hs4.out) ?_) | (with_reducible refine wpList_store_blk rfl 4 g 44 _ _ rfl fb 0 rfl rfl HTh.out Hs4.out ?_;rw [←HV6.out]) | (with_reducible refine wpList_load_row rfl 44 _ rfl mb rfl 44 (rowN 4 (blk (maskI X))) (0,0) _ HM7.out Tryz.underlying44 rfl (by rw [rowN_size];exact Hs4.out) ?_) | (with_reducible refine wpList_load_row rfl 113 _ rfl fb rfl 113 (rowN 29 (frC F (.slice p t cap))) (0,0) _ HF7.out.cells Tryz.underlying113 rfl (by rw [rowN_size];exact Hs29.out) ?_))
   refine(HCo.out _).mono ?_
   rintro e W2 ⟨rfl,o2⟩
   have HF8:=zH (HF7.out.old o2)
   have HO8:=zH (HO7.out.trans o2)
   clear o2 HF7 HO7 HM7 HTh HG5 c61 c62 HV5 HV6 Hfb H1F HCo
   obtain⟨b,hb⟩:∃b,bestOf X (sclN X n)=b:=⟨_,rfl⟩
   have hbb:=bestOf_bd X (sclN X n)
   rw [hb] at hbb ⊢
   have Hb:=zH hb
   have H1r:Hid ((rowN 29 (frC F (.slice p t cap))).all (·.oneCell')=true):=zH (frC_one _ _ rfl)
   have HNo:=zH hr.out.no
   clear hb
   have Hend:Hid (∀W9,Old wo W9->stopN X t room n->(W9.setRow (w.heap.size+1+1) (rowN 29 (frC F (.slice p t cap)))).heap[w.heap.size+1+1]?=some (.cells (rowN 29 (frC F (.slice p t cap))) 113 (0,0))/\StopAt X t room n/\t<=2/\t<=cap/\cap<=maxLen/\SlF 2 (W9.setRow (w.heap.size+1+1) (rowN 29 (frC F (.slice p t cap)))) p t (toneF f)/\(∀q,(Value.slice p t cap).ownBlock=some q->w.heap.size<=q)/\Old w (W9.setRow (w.heap.size+1+1) (rowN 29 (frC F (.slice p t cap))))):=zH fun W9 k hs=>by
    have hse:=HSe.out.keep (hr.out.old.trans k)
    have hrr:=row_ret hse.r hse.old (by omega) (rowN 29 (frC F (.slice p t cap)))
    refine⟨hrr.1,⟨hs,HNo.out⟩,t2,tc,Hcm.out,fun h0=>?_,fun q h=>by have:=Hq.out q h;omega,hrr.2⟩
    obtain⟨gg,oo,e1,e2,e3⟩:=HSl4.out h0
    have hne:gg≠w.heap.size+1+1:=by have:=Hq.out gg (by rw [e1];rfl);omega
    refine⟨gg,oo,e1,Nat.lt_of_lt_of_le e2 (Nat.le_trans (hr.out.old.trans k).size (by simp)),fun j hj=>?_⟩
    refine(World.cell?_of_block (setRow_other _ _ _ _ hne)).trans ?_
    exact(World.cell?_of_block ((hr.out.old.trans k).block gg e2)).trans (e3 j hj)
   by_cases hb0:0<=b
   ·obtain⟨bn,hbn⟩:∃bn:Nat,b.toNat=bn:=⟨_,rfl⟩
    have hbn4:bn<4:=by omega
    rw [decide_eq_true hb0,hbn]
    have Hbn:Hid ((bestOf X (sclN X n)).toNat=bn):=by unfold Hid;rw [Hb.out,hbn]
    have Hb0:=zH hb0
    clear hbn hb0 hbb
    go_wp2_with (with_reducible refine wpList_load_row_w (by kernel_rfl) 113 _ rfl fb rfl 113 (rowN 29 (frC F (.slice p t cap))) (0,0) _ HF8.out.cells Tryz.underlying113 rfl (by rw [rowN_size];exact Hs29.out) ?_)
    refine(HBi.out _).mono ?_
    rintro e W9 ⟨rfl,o9⟩
    have HF9:=zH (HF8.out.old o9)
    have HO9:=zH (HO8.out.trans o9)
    clear o9 HF8 HO8 HBi
    by_cases hc:costN X t n<=room
    ·have hE:=Hend.out W9 HO9.out (.inr hc)
     have HE:=zH hE
     have Hr9:=zH (HSe.out.keep (hr.out.old.trans HO9.out)).r
     clear hE Hend
     generalize costN X t n=c at *
     go_wp2_with (first | (with_reducible refine wpList_load_row rfl 113 _ rfl fb rfl 113 (rowN 29 (frC F (.slice p t cap))) (0,0) _ HF9.out.cells Tryz.underlying113 rfl (by rw [rowN_size];exact Hs29.out) ?_) | (with_reducible refine wpList_store_row rfl 113 _ _ rfl (w.heap.size+1+1) (rowN 29 (frC F (.slice p t cap))) rfl rfl 113 _ Hr9.out (by rw [rowN_size];exact Hs29.out) (by rw [rowN_size];exact Hzs.out) H1r.out ?_))
     exact bodyPost_ret (results_row_tmp2 rfl _ _ (w.heap.size+1+1) 113 (rowN 29 (frC F (.slice p t cap))) (0,0) _ rfl HE.out.1 Tryz.underlying113 rfl (by rw [rowN_size];exact Hs29.out)) rfl ⟨n,p,cap,by rw [HFn.out];rfl,HE.out.2⟩
    ·have hns:¬stopN X t room n:=fun h=>by
      rcases h with h | h
      ·rw [Hb.out] at h;have:=Hb0.out;omega
      ·exact hc h
     have hn1:=scl_le X t room (n+1) fun j hj=>by
      by_cases e:j=n
      ·subst e;exact hns
      ·exact hr.out.no j (by omega)
     have hnx:=hr.out.next hns HO9.out bn Hbn.out hbn4
     have HNx:=zH hnx
     obtain⟨s0,s1⟩:=HSB.out bn hbn4
     have hsc:=(HO9.out.block _ (lt_of_block hr.out.s)).trans hr.out.s
     have c1:=(cell_of_row _ _ _ _ _ _ hsc).trans (blk_at 4 (sclN X n) bn hbn4)
     have c2:W9.frozen? ⟨V4.heap.size,bn,none⟩=false:=frozen_of_row _ _ _ _ _ hsc
     have b0:(0:Int)<=bn:=by omega
     have b1:(bn:Int)<4:=by omega
     clear hns hnx hsc hr Hend
     generalize costN X t n=c at *
     generalize sclN X n bn=sc at *
     go_wp2_with fail
     go_roundw
     case rel=>exact⟨n+1,by go_num,by omega,HNx⟩
     case measure=>simp [intOf];omega
   ·rw [decide_eq_false hb0]
    have hE:=Hend.out W2 HO8.out (.inl (by rw [Hb.out];omega))
    have HE:=zH hE
    have Hr9:=zH (HSe.out.keep (hr.out.old.trans HO8.out)).r
    clear hE Hend
    go_wp2_with (first | (with_reducible refine wpList_load_row rfl 113 _ rfl fb rfl 113 (rowN 29 (frC F (.slice p t cap))) (0,0) _ HF8.out.cells Tryz.underlying113 rfl (by rw [rowN_size];exact Hs29.out) ?_) | (with_reducible refine wpList_store_row rfl 113 _ _ rfl (w.heap.size+1+1) (rowN 29 (frC F (.slice p t cap))) rfl rfl 113 _ Hr9.out (by rw [rowN_size];exact Hs29.out) (by rw [rowN_size];exact Hzs.out) H1r.out ?_))
    exact bodyPost_ret (results_row_tmp2 rfl _ _ (w.heap.size+1+1) 113 (rowN 29 (frC F (.slice p t cap))) (0,0) _ rfl HE.out.1 Tryz.underlying113 rfl (by rw [rowN_size];exact Hs29.out)) rfl ⟨n,p,cap,by rw [HFn.out];rfl,HE.out.2⟩
theorem fisSize_any(k:Int)(w:World):
  Calls Tryz.prog 199 #[.int .i64 k] w fun e w'=>e = .returned (.bool (decide (24<=k/\k<=96)))/\w=w':=by
 by_cases a:24<=k <;> by_cases b:k<=96 <;> try (exfalso;omega)
 ·have e:decide (24<=k/\k<=96)=true:=decide_eq_true ⟨a,b⟩
  rw [e];clear e
  go_enter Tryz.func199,Tryz.ntmps199
  go_wp2
  go_ret
  exact⟨rfl,rfl⟩
 ·have e:decide (24<=k/\k<=96)=false:=decide_eq_false (by omega)
  rw [e];clear e
  have b':96<k:=by omega
  go_enter Tryz.func199,Tryz.ntmps199
  go_wp2
  go_ret
  exact⟨rfl,rfl⟩
 ·have e:decide (24<=k/\k<=96)=false:=decide_eq_false (by omega)
  rw [e];clear e
  have a':k<24:=by omega
  go_enter Tryz.func199,Tryz.ntmps199
  go_wp2
  go_ret
  exact⟨rfl,rfl⟩
theorem frame_build1(g:Nat->Int):Tryz.prog.built 113 [(0,.agg (rowN 4 (blk g)))]=some (rowN 29 (frC (frN g zeroS zeroS zeroS) (.slice none 0 0))):=by kernel_rfl
set_option maxHeartbeats 1000000 in
theorem isTold_any(f g:Nat->Int)(w:World)(hf:Fits64 f):
  Calls Tryz.prog 200 #[.agg (rowN 16 (blk f)),.agg (rowN 4 (blk g))] w fun e w'=>e = .returned (.bool (decide (smallP f/\rightP g)))/\Old w w':=by
 have Hs4:Hid ((Tryz.prog.info? 44).map (·.size)=some 4):=zH (by kernel_rfl)
 obtain⟨W0,hW0⟩:∃W0,W0=((w.alloc (.cells (rowN 16 (blk f)) 43)).alloc (.cells (rowN 4 (blk g)) 44)):=⟨_,rfl⟩
 have hb:W0.heap[w.heap.size]?=some (.cells (rowN 16 (blk f)) 43 (0,0)):=by rw [hW0];exact heap_alloc2_old w _ _
 have hg:W0.heap[w.heap.size+1]?=some (.cells (rowN 4 (blk g)) 44 (0,0)):=by rw [hW0];exact heap_alloc2_new w _ _
 have ho:Old w W0:=by rw [hW0];exact(Old.alloc w _).alloc' _
 have hS:∀(b:Nat) (w:World),(Instr.sliceAt 43 (.pointer (some ⟨b,0,none⟩)) none none none).run Tryz.prog w = .ok (.slice (some ⟨b,0,none⟩) 16 16) w:=fun b w=>by
  have hl:Tryz.prog.arrayLen 43=16:=by kernel_rfl
  have hz:(sizeOf (Tryz.prog.elem 43)).run Tryz.prog w = .ok 1 w:=by kernel_rfl
  rw [run_sliceAt_array_all w 43 _ (by kernel_rfl),hz,hl]
  rfl
 have HPk:=zH (Peak_any _ _ _ _ W0 (part_SlI hb 0 16 16 (by omega) (by omega) (by omega)) (part_in hf 0 16) (by omega))
 have hpb:=peakL_in _ (part_in hf 0 16)
 have HWd:=zH (fun w=>Width_any (peakL (part f 0 16)) w (by omega) (by omega))
 have hsm:=small_width f hf
 have HR:=zH (fun w=>FRight_any (frN g zeroS zeroS zeroS) none 0 0 (fun _=>0) w (fun h=>absurd h (by omega)) (fun _=>by dsimp only;omega) (Nat.le_refl _) (Nat.zero_le _))
 have hfr:decide (FrP (frN g zeroS zeroS zeroS) 0 (fun _=>0))=decide (rightP g):=decide_eq_decide.2 (gains_may g _)
 rw [hfr] at HR
 have HBd:=zH (frame_build1 g)
 have HG:=zH hg
 have HO:=zH ho
 have HW0:=zH hW0
 have Hsm:=zH hsm
 clear hb hg ho hW0 hsm hfr hpb
 generalize peakL (part f 0 16)=pk at *
 generalize widthI pk=wk at *
 generalize frN g zeroS zeroS zeroS=F at *
 obtain⟨D,hD⟩:∃D,decide (smallP f/\rightP g)=D:=⟨_,rfl⟩
 have HD:=zH hD
 rw [hD]
 clear hD
 go_enter Tryz.func200,Tryz.ntmps200
 go_wp2_with fail
 rw [←HW0.out]
 clear HW0
 refine HPk.out.mono ?_
 rintro e w1 ⟨rfl,rfl⟩
 go_wp2_with fail
 refine(HWd.out _).mono ?_
 rintro e w1 ⟨rfl,rfl⟩
 by_cases c:wk<=24
 ·have e:decide (smallP f/\rightP g)=decide (rightP g):=decide_eq_decide.2 ⟨fun h=>h.2,fun h=>⟨Hsm.out.1 c,h⟩⟩
  have He:=zH (HD.out.symm.trans e)
  clear e Hsm
  go_wp2_with (first | (with_reducible refine wpList_load_row_w (by kernel_rfl) 44 _ rfl (w.heap.size+1) rfl 44 (rowN 4 (blk g)) (0,0) _ HG.out Tryz.underlying44 rfl (by rw [rowN_size];exact Hs4.out) ?_) | (refine wpList_build_w (by kernel_rfl) 113 _ rfl [(0,.agg (rowN 4 (blk g)))] _ (by kernel_rfl) HBd.out ?_))
  refine(HR.out _).mono ?_
  rintro e w2 ⟨rfl,o2⟩
  have HO2:=zH (HO.out.trans o2)
  clear o2
  go_wp2_with fail
  go_ret
  exact⟨by rw [He.out];rfl,HO2.out⟩
 ·have e:decide (smallP f/\rightP g)=false:=decide_eq_false fun h=>c (Hsm.out.2 h.1)
  have He:=zH (HD.out.symm.trans e)
  clear e Hsm
  go_wp2_with fail
  go_ret
  exact⟨by rw [He.out];rfl,HO.out⟩
theorem row4_zeroS:rowN 4 (blk zeroS)=#[.int .i64 0,.int .i64 0,.int .i64 0,.int .i64 0]:=rfl
set_option maxHeartbeats 1000000 in
theorem Exact_any(f:Nat->Int)(w:World)(hf:Fits64 f):
  Calls Tryz.prog 201 #[.agg (rowN 16 (blk f))] w fun e w'=>e = .returned (.agg (rowN 29 (frC (tolN zeroS zeroS f) (.slice none 0 0))))/\Old w w':=by
 have Hs16:Hid ((Tryz.prog.info? 43).map (·.size)=some 16):=zH (by kernel_rfl)
 have Hs29:Hid ((Tryz.prog.info? 113).map (·.size)=some 29):=zH (by kernel_rfl)
 obtain⟨z,hz⟩:∃z:Array Value,z=rowN 29 (frC (fun _=>0) (.slice none 0 0)):=⟨_,rfl⟩
 have hzs:z.size=29:=by rw [hz,rowN_size]
 rw [frC_zero] at hz
 obtain⟨W0,hW0⟩:∃W0,W0=((w.alloc (.cells (rowN 16 (blk f)) 43)).alloc (.cells z 113)):=⟨_,rfl⟩
 have hb:W0.heap[w.heap.size]?=some (.cells (rowN 16 (blk f)) 43 (0,0)):=by rw [hW0];exact heap_alloc2_old w _ _
 have hr:W0.heap[w.heap.size+1]?=some (.cells z 113 (0,0)):=by rw [hW0];exact heap_alloc2_new w _ _
 have ho:Old w W0:=by rw [hW0];exact(Old.alloc w _).alloc' _
 have hT:=fun w=>Told_any f zeroS w hf
 rw [show (fun _=>(0:Int))=zeroS from rfl] at hT
 obtain⟨F,hF⟩:∃F,tolN zeroS zeroS f=F:=⟨_,rfl⟩
 rw [hF] at hT ⊢
 have HT:=zH hT
 have Hb:=zH hb
 have Hr:=zH hr
 have HO:=zH ho
 have HW0:=zH hW0
 have Hz:=zH hz
 have Hzs:=zH hzs
 clear hb hr ho hW0 hz hzs hT hF
 go_enter Tryz.func201,Tryz.ntmps201
 go_wp2_with (rw [←Hz.out,←HW0.out];with_reducible refine wpList_load_row rfl 43 _ rfl w.heap.size rfl 43 (rowN 16 (blk f)) (0,0) _ Hb.out Tryz.underlying43 rfl (by rw [rowN_size];exact Hs16.out) ?_)
 rw [←row4_zeroS]
 refine(HT.out _).mono ?_
 rintro e w1 ⟨rfl,o1⟩
 have HR1:=zH ((o1.block _ (lt_of_block Hr.out)).trans Hr.out)
 have hrr:=row_ret HR1.out (HO.out.trans o1) (by omega) (rowN 29 (frC F (.slice none 0 0)))
 have HRR:=zH hrr
 have H1:Hid ((rowN 29 (frC F (.slice none 0 0))).all (·.oneCell')=true):=zH (frC_one _ _ rfl)
 clear o1 hrr Hb Hr HO HT HW0
 go_wp2_with (with_reducible refine wpList_store_row rfl 113 _ _ rfl (w.heap.size+1) (rowN 29 (frC F (.slice none 0 0))) rfl rfl 113 _ HR1.out (by rw [rowN_size];exact Hs29.out) (by rw [rowN_size];exact Hzs.out) H1.out ?_)
 exact bodyPost_ret (results_cell_row rfl _ _ (w.heap.size+1) 113 (rowN 29 (frC F (.slice none 0 0))) (0,0) _ rfl HRR.out.1 Tryz.underlying113 rfl (by rw [rowN_size];exact Hs29.out)) rfl ⟨rfl,HRR.out.2⟩
set_option maxHeartbeats 1000000 in
theorem frame_exact(f g:Nat->Int)(size:Int)(w:World)(hf:Fits64 f)(h:55<=size/\size<=96)(h2:smallP f/\rightP g):
  Calls Tryz.prog 153 #[.agg (rowN 16 (blk f)),.agg (rowN 4 (blk g)),.int .i64 size] w fun e w'=>e = .returned (.tuple #[.agg (rowN 29 (frC (tolN zeroS zeroS f) (.slice none 0 0))),.int .i64 0])/\Old w w':=by
 have Hs4:Hid ((Tryz.prog.info? 44).map (·.size)=some 4):=zH (by kernel_rfl)
 have Hs16:Hid ((Tryz.prog.info? 43).map (·.size)=some 16):=zH (by kernel_rfl)
 have Hs29:Hid ((Tryz.prog.info? 113).map (·.size)=some 29):=zH (by kernel_rfl)
 obtain⟨z,hz⟩:∃z:Array Value,z=rowN 29 (frC (fun _=>0) (.slice none 0 0)):=⟨_,rfl⟩
 have hzs:z.size=29:=by rw [hz,rowN_size]
 rw [frC_zero] at hz
 obtain⟨W0,hW0⟩:∃W0,W0=(((w.alloc (.cells (rowN 16 (blk f)) 43)).alloc (.cells (rowN 4 (blk g)) 44)).alloc (.cells z 113)):=⟨_,rfl⟩
 have h0:SeSt w z f g W0:=by rw [hW0];exact SeSt.start w z f g
 have H0:=zH h0
 have Hz:=zH hz
 have Hzs:=zH hzs
 have HW0:=zH hW0
 clear h0 hz hzs hW0
 have hS:=fun w=>fisSize_any size w
 rw [decide_eq_true ⟨by omega,h.2⟩] at hS
 have HS:=zH hS
 have hT:=fun w=>isTold_any f g w hf
 rw [decide_eq_true h2] at hT
 have HT:=zH hT
 have HE:=zH (fun w=>Exact_any f w hf)
 obtain⟨h55,h96⟩:=h
 clear hS h2 hT hf
 generalize tolN zeroS zeroS f=F at *
 have H1:Hid ((rowN 29 (frC F (.slice none 0 0))).all (·.oneCell')=true):=zH (frC_one _ _ rfl)
 go_enter Tryz.func153,Tryz.ntmps153
 go_wp2_with fail
 rw [←Hz.out,←HW0.out]
 clear HW0
 refine(HS.out _).mono ?_
 rintro e w1 ⟨rfl,rfl⟩
 go_wp2_with (first | (with_reducible refine wpList_load_row rfl 43 _ rfl w.heap.size rfl 43 (rowN 16 (blk f)) (0,0) _ H0.out.b Tryz.underlying43 rfl (by rw [rowN_size];exact Hs16.out) ?_) | (with_reducible refine wpList_load_row rfl 44 _ rfl (w.heap.size+1) rfl 44 (rowN 4 (blk g)) (0,0) _ H0.out.g Tryz.underlying44 rfl (by rw [rowN_size];exact Hs4.out) ?_))
 refine(HT.out _).mono ?_
 rintro e w1 ⟨rfl,o1⟩
 have HA:=zH (H0.out.keep o1)
 clear o1 H0
 go_wp2_with (with_reducible refine wpList_load_row rfl 43 _ rfl w.heap.size rfl 43 (rowN 16 (blk f)) (0,0) _ HA.out.b Tryz.underlying43 rfl (by rw [rowN_size];exact Hs16.out) ?_)
 refine(HE.out _).mono ?_
 rintro e w2 ⟨rfl,o2⟩
 have hb:=HA.out.keep o2
 have HB:=zH hb
 have hrr:=row_ret hb.r hb.old (by omega) (rowN 29 (frC F (.slice none 0 0)))
 have HRR:=zH hrr
 clear o2 hb hrr HA
 go_wp2_with (with_reducible refine wpList_store_row rfl 113 _ _ rfl (w.heap.size+1+1) (rowN 29 (frC F (.slice none 0 0))) rfl rfl 113 _ HB.out.r (by rw [rowN_size];exact Hs29.out) (by rw [rowN_size];exact Hzs.out) H1.out ?_)
 exact bodyPost_ret (results_row_tmp2 rfl _ _ (w.heap.size+1+1) 113 (rowN 29 (frC F (.slice none 0 0))) (0,0) _ rfl HRR.out.1 Tryz.underlying113 rfl (by rw [rowN_size];exact Hs29.out)) rfl ⟨rfl,HRR.out.2⟩
set_option maxHeartbeats 2000000 in
theorem frame_search2(f g:Nat->Int)(size:Int)(w:World)(hf:Fits64 f)(h:24<=size/\size<55)(h2:smallP f/\rightP g):
  Calls Tryz.prog 153 #[.agg (rowN 16 (blk f)),.agg (rowN 4 (blk g)),.int .i64 size] w fun e w'=>∃n p cap,e = .returned (.tuple #[.agg (rowN 29 (frC (tolN g (sclN (restF2 f true) n) (restF2 f true)) (.slice p (tnN f true) cap))),.int .i64 0])/\StopAt (restF2 f true) (tnN f true) (8*size) n/\tnN f true<=2/\tnN f true<=cap/\cap<=maxLen/\SlF 2 w' p (tnN f true) (toneF f)/\(0<tnN f true->∀a,p=some a->w.heap.size<=a.block)/\Old w w':=by
 have Hs4:Hid ((Tryz.prog.info? 44).map (·.size)=some 4):=zH (by kernel_rfl)
 have Hs16:Hid ((Tryz.prog.info? 43).map (·.size)=some 16):=zH (by kernel_rfl)
 have Hs29:Hid ((Tryz.prog.info? 113).map (·.size)=some 29):=zH (by kernel_rfl)
 obtain⟨z,hz⟩:∃z:Array Value,z=rowN 29 (frC (fun _=>0) (.slice none 0 0)):=⟨_,rfl⟩
 have hzs:z.size=29:=by rw [hz,rowN_size]
 rw [frC_zero] at hz
 obtain⟨W0,hW0⟩:∃W0,W0=(((w.alloc (.cells (rowN 16 (blk f)) 43)).alloc (.cells (rowN 4 (blk g)) 44)).alloc (.cells z 113)):=⟨_,rfl⟩
 have h0:SeSt w z f g W0:=by rw [hW0];exact SeSt.start w z f g
 have H0:=zH h0
 have Hz:=zH hz
 have Hzs:=zH hzs
 have HW0:=zH hW0
 clear h0 hz hzs hW0
 have hS:=fun w=>fisSize_any size w
 rw [decide_eq_true ⟨h.1,by omega⟩] at hS
 have HS:=zH hS
 have hT:=fun w=>isTold_any f g w hf
 rw [decide_eq_true h2] at hT
 have HT:=zH hT
 have hSe:=fun w=>Search_any f g (8*size) true w hf
 obtain⟨h24,h55⟩:=h
 obtain⟨room,hroom⟩:∃room,8*size=room:=⟨_,rfl⟩
 rw [hroom] at hSe ⊢
 obtain⟨X,hX⟩:∃X,restF2 f true=X:=⟨_,rfl⟩
 obtain⟨t,ht⟩:∃t,tnN f true=t:=⟨_,rfl⟩
 rw [hX,ht] at hSe ⊢
 have HSe:=zH hSe
 have Hroom:=zH hroom
 clear hS h2 hT hf hSe hX ht hroom
 go_enter Tryz.func153,Tryz.ntmps153
 go_wp2_with fail
 rw [←Hz.out,←HW0.out]
 clear HW0
 refine(HS.out _).mono ?_
 rintro e w1 ⟨rfl,rfl⟩
 go_wp2_with (first | (with_reducible refine wpList_load_row rfl 43 _ rfl w.heap.size rfl 43 (rowN 16 (blk f)) (0,0) _ H0.out.b Tryz.underlying43 rfl (by rw [rowN_size];exact Hs16.out) ?_) | (with_reducible refine wpList_load_row rfl 44 _ rfl (w.heap.size+1) rfl 44 (rowN 4 (blk g)) (0,0) _ H0.out.g Tryz.underlying44 rfl (by rw [rowN_size];exact Hs4.out) ?_))
 refine(HT.out _).mono ?_
 rintro e w1 ⟨rfl,o1⟩
 have HA:=zH (H0.out.keep o1)
 clear o1 H0
 go_wp2_with (first | (with_reducible refine wpList_load_row rfl 43 _ rfl w.heap.size rfl 43 (rowN 16 (blk f)) (0,0) _ HA.out.b Tryz.underlying43 rfl (by rw [rowN_size];exact Hs16.out) ?_) | (with_reducible refine wpList_load_row rfl 44 _ rfl (w.heap.size+1) rfl 44 (rowN 4 (blk g)) (0,0) _ HA.out.g Tryz.underlying44 rfl (by rw [rowN_size];exact Hs4.out) ?_))
 rw [Hroom.out]
 refine(HSe.out _).mono ?_
 rintro e w2 ⟨n,p,cap,rfl,hst,t2,tc,cm,hsl,hq,o2⟩
 obtain⟨F,hF⟩:∃F,tolN g (sclN X n) X=F:=⟨_,rfl⟩
 rw [hF]
 have H1:Hid ((rowN 29 (frC F (.slice p t cap))).all (·.oneCell')=true):=zH (frC_one _ _ rfl)
 have o3:=o2.alloc' (.cells (rowN 29 (frC F (.slice p t cap))) 113)
 have hb:=HA.out.keep o3
 have hfr:=heap_alloc_new w2 (.cells (rowN 29 (frC F (.slice p t cap))) 113)
 have HB:=zH hb
 have HFr:=zH hfr
 have hrr:=row_ret hb.r hb.old (by omega) (rowN 29 (frC F (.slice p t cap)))
 have HRR:=zH hrr
 have hsl3:=hsl.old (Old.alloc w2 (.cells (rowN 29 (frC F (.slice p t cap))) 113))
 have HRest:Hid (StopAt X t room n/\t<=2/\t<=cap/\cap<=maxLen/\SlF 2 ((w2.alloc (.cells (rowN 29 (frC F (.slice p t cap))) 113)).setRow (w.heap.size+1+1) (rowN 29 (frC F (.slice p t cap)))) p t (toneF f)):=by
  refine zH ⟨hst,t2,tc,cm,fun h0=>?_⟩
  obtain⟨gg,oo,e1,e2,e3⟩:=hsl3 h0
  have hne:gg≠w.heap.size+1+1:=by
   have h5:=hq gg (by rw [e1];rfl)
   have h6:=lt_of_block HA.out.r
   omega
  exact⟨gg,oo,e1,Nat.lt_of_lt_of_le e2 (by simp),fun j hj=>(World.cell?_of_block (setRow_other _ _ _ _ hne)).trans (e3 j hj)⟩
 have HFre:Hid (0<t->∀a,p=some a->w.heap.size<=a.block):=zH fun h0 a ha=>by
  obtain⟨gg,oo,e1,_,_⟩:=hsl3 h0
  rw [e1] at ha
  cases ha
  have h5:=hq gg (by rw [e1];rfl)
  have h6:=HA.out.old.size
  show w.heap.size<=gg
  omega
 have HF:=zH hF
 clear o2 o3 hb hfr hrr HA hst t2 tc cm hsl hsl3 hF hq
 go_wp2_with (first | (with_reducible refine wpList_store_row rfl 113 _ _ rfl w2.heap.size (rowN 29 (frC F (.slice p t cap))) rfl rfl 113 _ (heap_alloc_new _ _) (by rw [rowN_size];exact Hs29.out) (by rw [rowN_size];kernel_rfl) H1.out ?_;rw [World.setRow_alloc_new]) | (with_reducible refine wpList_load_row rfl 113 _ rfl w2.heap.size rfl 113 (rowN 29 (frC F (.slice p t cap))) (0,0) _ HFr.out Tryz.underlying113 rfl (by rw [rowN_size];exact Hs29.out) ?_) | (with_reducible refine wpList_store_row rfl 113 _ _ rfl (w.heap.size+1+1) (rowN 29 (frC F (.slice p t cap))) rfl rfl 113 _ HB.out.r (by rw [rowN_size];exact Hs29.out) (by rw [rowN_size];exact Hzs.out) H1.out ?_))
 exact bodyPost_ret (results_row_tmp2 rfl _ _ (w.heap.size+1+1) 113 (rowN 29 (frC F (.slice p t cap))) (0,0) _ rfl HRR.out.1 Tryz.underlying113 rfl (by rw [rowN_size];exact Hs29.out)) rfl ⟨n,p,cap,by rw [HF.out];rfl,HRest.out.1,HRest.out.2.1,HRest.out.2.2.1,HRest.out.2.2.2.1,HRest.out.2.2.2.2,HFre.out,HRR.out.2⟩
end Go.Proofs.YtgefdmfcddpaiaaGreatDoor
