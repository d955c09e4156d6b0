/- Texts joined: BankS, BankY, BankT. -/
import Derived.OwnWalk
import Derived.Test.YtgefdmfcddpaiaaGreatDoorPkAQ
import Derived.Test.YtgefdmfcddpaiaaGreatDoorPkAS
import Derived.Test.YtgefdmfcddpaiaaGreatDoorTk
namespace Go.Proofs.YtgefdmfcddpaiaaGreatDoor
set_option linter.unusedVariables false
set_option linter.unusedSimpArgs false
set_option maxRecDepth 100000
open Go.RowKit Go.ChangeShapes Go.WideShapes
theorem cut_lh0(b o n cap lo hi:Nat)(h1:lo<=hi)(h2:hi<=cap)(h3:lo<cap)(w:World):(Instr.sliceAt 34 (.slice (some ⟨b,o,none⟩) n cap) (some (.int .i64 lo)) (some (.int .i64 hi)) none).run Tryz.prog w = .ok (.slice (some ⟨b,o+lo,none⟩) (hi-lo) (cap-lo)) w:=by
 rw [run_sliceAt_slice _ _ _ _ _ _ u8_under,run_slice_lh _ _ _ _ _ u8_under _ _ _ _ (by omega) (by omega) (by omega),u8_elem]
 simp only [Result.andThen_ok,sliced,Int.toNat_natCast,Option.map,Nat.mul_one]
 rw [if_neg (by omega),add_plain]
theorem plD_ext{D E:Nat->Mt}{sz n:Nat}(e:∀i,i<n->D i=E i):(∀i,i<n->plD D sz n i=plD E sz n i)/\totalAt (frD D) sz n=totalAt (frD E) sz n:=by
 have hf:∀i,i<n->frD D i=frD E i:=fun i hi=>by unfold frD;rw [e i hi]
 have ha:∀i,i<=n->atTo (frD D) sz n i=atTo (frD E) sz n i:=fun i hi=>atTo_ext fun k hk=>hf k (by omega)
 refine⟨fun i hi=>?_,by unfold totalAt;rw [ha n (Nat.le_refl _)]⟩
 unfold plD firstAt
 rw [e i hi,ha i (by omega),hf i hi]
def hdN(F:Nat->Int):Nat:=(hd2 F).toNat
def hdZ(F:Nat->Int):Nat:=(hd1 F).toNat
def hdS(F:Nat->Int):Int:=numTo (fun j=>F (16+64*hdN F+j)) 4
def preI(F:Nat->Int)(N:Nat):Int:=
 if hdI F N≠0 then hdI F N else if N<20+64*hdN F then 2 else if hdS F≠sumF F (16+64*hdN F) then 9 else 0
def GoodI(D:Nat->Mt)(F:Nat->Int)(N:Nat):Prop:=GoodD D (hdN F) (fun p=>F (16+p))/\(∀i,i<hdN F->plD D (hdZ F) (hdN F) i=D i)/\totalAt (frD D) (hdZ F) (hdN F)=N
structure BkB(w:World)(bb sz n N:Nat)(q:Option Addr)(c:Nat)(im:Option Addr)(ci:Nat)(D:Nat->Mt)(F:Nat->Int):Prop where
 blk:w.heap[bb]?=some (.cells #[.int .i64 sz,.slice q n c,.slice im N ci] 121 (0,0))
 dir:MtsS w q n D
 d1:n<=c
 d2:c<=maxLen
 img:SlU w im N F
 i1:N<=ci
 i2:ci<=maxLen
theorem BkB.old{w w':World}{bb sz n N:Nat}{q:Option Addr}{c:Nat}{im:Option Addr}{ci:Nat}{D:Nat->Mt}{F:Nat->Int}(h:BkB w bb sz n N q c im ci D F)(k:Old w w'):BkB w' bb sz n N q c im ci D F:=
 ⟨(k.block _ (lt_of_block h.blk)).trans h.blk,h.dir.old k,h.d1,h.d2,h.img.old k,h.i1,h.i2⟩
structure BkD(F:Nat->Int)(N:Nat)(D:Nat->Mt):Prop where
 dir:dirP D (hdN F)
 ent:∀i,i<hdN F->RdI (fun j=>F (16+(64*i+j))) (D i)
 place:∀i,i<hdN F->plD D (hdZ F) (hdN F) i=D i
 total:totalAt (frD D) (hdZ F) (hdN F)=N
theorem BkD.one{F:Nat->Int}{N:Nat}{D E:Nat->Mt}(h:BkD F N D)(k:GoodI E F N):∀i,i<hdN F->D i=E i:=fun i hi=>by
 obtain⟨t,h1,h2,_⟩:=h.ent i hi
 have h3:=k.1.1 i hi
 rw [h1]
 exact rd_uniq h3.1 h3.2 h2
def bkX(bb:Nat)(q:Option Addr)(n:Nat)(im:Option Addr)(NI:Nat)(x:Nat):Prop:=x=bb\/(0<n/\∃a,q=some a/\a.block=x)\/(0<NI/\∃a,im=some a/\a.block=x)
def PrsR(w:World)(F:Nat->Int)(N:Nat)(e:Ending)(w':World):Prop:=
 (preI F N≠0/\e = .returned (.tuple #[.pointer none,.int .i64 (preI F N)])/\Old w w') \/
 (preI F N=0/\((∃er,(er=4\/er=12)/\e = .returned (.tuple #[.pointer none,.int .i64 er])/\(∀D,¬GoodI D F N)/\Old w w') \/
  ∃bb q c im ci D,e = .returned (.tuple #[.pointer (some ⟨bb,0,none⟩),.int .i64 0])/\BkB w' bb (hdZ F) (hdN F) N q c im ci D F/\BkD F N D/\Old w w'))
def PrsR2(w:World)(F:Nat->Int)(N:Nat)(e:Ending)(w':World):Prop:=
 (preI F N≠0/\e = .returned (.tuple #[.pointer none,.int .i64 (preI F N)])/\Old w w') \/
 (preI F N=0/\((∃er,(er=4\/er=12)/\e = .returned (.tuple #[.pointer none,.int .i64 er])/\(∀D,¬GoodI D F N)/\Old w w') \/
  ∃bb q c im ci D,e = .returned (.tuple #[.pointer (some ⟨bb,0,none⟩),.int .i64 0])/\BkB w' bb (hdZ F) (hdN F) N q c im ci D F/\BkD F N D/\Old w w'/\∀x,bkX bb q (hdN F) im N x->w.heap.size<=x))
theorem PrsR2.one{w w':World}{F:Nat->Int}{N:Nat}{e:Ending}(h:PrsR2 w F N e w'):PrsR w F N e w':=by
 rcases h with h | ⟨h0,h | ⟨bb,q,c,im,ci,D,h1,h2,h3,h4,_⟩⟩
 ·exact .inl h
 ·exact .inr ⟨h0,.inl h⟩
 ·exact .inr ⟨h0,.inr ⟨bb,q,c,im,ci,D,h1,h2,h3,h4⟩⟩
set_option maxHeartbeats 16000000 in
theorem Parse_any2(p:Option Addr)(N cap:Nat)(F:Nat->Int)(w:World)(hs:SlU w p N F)(hb:Byt F N)(hc:N<=cap)(hm:cap<=maxLen)(hN:N<=1099511627776):
  Calls Tryz.prog 26 #[.slice p N cap] w (PrsR2 w F N):=by
 have HWr:=zH (wrongHead_any p N cap F w hs hb hc hm)
 by_cases h0:hdI F N≠0
 ·have e0:preI F N=hdI F N:=by unfold preI;rw [if_pos h0]
  have HE:=zH (And.intro e0 h0)
  obtain⟨x,hx⟩:∃x,x=hdI F N:=⟨_,rfl⟩
  rw [←hx] at HWr h0
  have HX:=zH hx
  have d0:(x != 0)=true:=by simpa using h0
  have HO:=zH (Old.refl w)
  clear e0 hx h0 hs hb hc hm
  go_enter Tryz.func26,Tryz.ntmps26
  go_wp2_with fail
  refine HWr.out.mono ?_
  rintro e w1 ⟨rfl,rfl⟩
  go_wp2_with fail
  go_ret2
  refine .inl ⟨by rw [HE.out.1];exact HE.out.2,?_,HO.out⟩
  rw [HE.out.1,←HX.out]
  rfl
 have h0:=Classical.not_not.1 h0
 rw [h0] at HWr
 have hhd:=h0
 unfold hdI at hhd
 have hN20:20<=N:=by
  rcases Nat.lt_or_ge N 20 with h | h
  ·rw [if_pos h] at hhd;omega
  ·exact h
 rw [if_neg (by omega)] at hhd
 by_cases hA:¬markP F\/hd5 F≠0
 ·rw [if_pos hA] at hhd;omega
 rw [if_neg hA] at hhd
 by_cases hB:¬(24<=hd1 F/\hd1 F<=96)\/64<hd2 F\/hd4 F≠N
 ·rw [if_pos hB] at hhd;omega
 clear hhd
 obtain⟨g,o,rfl,hg,hcs⟩:=hs (by omega)
 have sub:∀a n,a+n<=N->SlU w (some ⟨g,o+a,none⟩) n (fun j=>F (a+j)):=fun a n ha _=>⟨g,o+a,rfl,hg,fun j hj=>by rw [Nat.add_assoc];exact hcs (a+j) (by omega)⟩
 have HG1:=zH (fun V (hV:Old w V)=>get_any (some ⟨g,o+10,none⟩) 1 (cap-10) (fun j=>F (10+j)) V (by omega) ((sub 10 1 (by omega)).old hV) (fun j hj=>hb _ (by omega)))
 have HG2:=zH (fun V (hV:Old w V)=>get_any (some ⟨g,o+8,none⟩) 2 (cap-8) (fun j=>F (8+j)) V (by omega) ((sub 8 2 (by omega)).old hV) (fun j hj=>hb _ (by omega)))
 have hb2:=numTo_bd (F:=fun j=>F (8+j)) (w:=2) (fun j hj=>hb _ (by omega))
 have e1:hd1 F=(hdZ F:Nat):=by unfold hdZ;omega
 have e2:hd2 F=(hdN F:Nat):=by
  have h1:0<=hd2 F:=hb2.1
  unfold hdN
  omega
 have f1:numTo (fun j=>F (10+j)) 1=(hdZ F:Nat):=e1
 have f2:numTo (fun j=>F (8+j)) 2=(hdN F:Nat):=e2
 rw [f1] at HG1
 rw [f2] at HG2
 have hz1:24<=hdZ F/\hdZ F<=96:=by omega
 have hn64:hdN F<=64:=by omega
 have HPre:Hid (preI F N=if N<20+64*hdN F then 2 else if hdS F≠sumF F (16+64*hdN F) then 9 else 0):=zH (by unfold preI;rw [if_neg (by omega)])
 obtain⟨n,hn⟩:∃n,n=hdN F:=⟨_,rfl⟩
 obtain⟨z,hz⟩:∃z,z=hdZ F:=⟨_,rfl⟩
 rw [←hn] at HG2 HPre hn64
 rw [←hz] at HG1 hz1
 have HDr:=zH (fun w=>Dir_any n w (by omega))
 have hl1:=fun w'=>cut_lh g o N cap 10 11 (by omega) (by omega) w'
 have hl2:=fun w'=>cut_lh g o N cap 8 10 (by omega) (by omega) w'
 have iN:(20:Int)<=N:=by omega
 have ic:(20:Int)<=cap:=by omega
 have i11:(11:Int)<=cap:=by omega
 have i10:(10:Int)<=cap:=by omega
 have n10:¬cap=10:=by omega
 have n8:¬cap=8:=by omega
 have HO:=zH (Old.refl w)
 by_cases hsh:N<20+64*n
 ·have HE:=zH (show preI F N=2 by rw [HPre.out,if_pos hsh])
  have i2:(N:Int)<((20+64*n:Nat):Int):=by omega
  obtain⟨T,hT⟩:∃T,T=20+64*n:=⟨_,rfl⟩
  rw [←hT] at HDr i2
  clear e1 e2 f1 f2 hb2 hA hB h0 sub hcs hg hb hc hm hn hz hz1 hn64 hsh hT
  go_enter Tryz.func26,Tryz.ntmps26
  go_wp2_with fail
  refine HWr.out.mono ?_
  rintro e w1 ⟨rfl,rfl⟩
  go_wp2_with fail
  refine wp_region_held_drew (S:=(fun _=>True)) (by kernel_rfl) ?_ (fun hHeld=>?_)
  ·exact trivial
  refine wpU 0 rfl ?_;try simp only [Act.put,sA,sZ,sS]
  refine wpU 1 rfl ?_;try simp only [Act.put,sA,sZ,sS]
  refine wpU 3 rfl ?_;try simp only [Act.put,sA,sZ,sS]
  refine wpU 4 rfl ?_;try simp only [Act.put,sA,sZ,sS]
  refine wpR 2 rfl (fun K hK=>?_)
  go_simp
  refine(HG1.out _ (Old.drew (Old.refl w))).mono ?_
  rintro e V ⟨rfl,rfl⟩
  go_wp2_with fail
  refine hK.out _ _ ?_ (fun hHeld=>?_)
  ·exact trivial
  clear hK K
  try simp only [Act.put,sA,sZ,sS]
  refine wpR 5 rfl (fun K hK=>?_)
  go_simp
  refine(HG2.out _ (Old.drew (Old.refl w))).mono ?_
  rintro e V ⟨rfl,rfl⟩
  go_wp2_with fail
  refine hK.out _ _ ?_ (fun hHeld=>?_)
  ·exact trivial
  clear hK K
  try simp only [Act.put,sA,sZ,sS]
  refine wpU 6 rfl ?_;try simp only [Act.put,sA,sZ,sS]
  refine wpU 7 rfl ?_;try simp only [Act.put,sA,sZ,sS]
  refine wpAnyH_done (by kernel_rfl) ?_ _
  go_wp2_with fail
  refine(HDr.out _).mono ?_
  rintro e V ⟨rfl,rfl⟩
  go_wp2_with fail
  go_ret2
  exact .inl ⟨by rw [HE.out];omega,by rw [HE.out];rfl,HO.out.drew⟩
 obtain⟨T,hT⟩:∃T,T=20+64*n:=⟨_,rfl⟩
 obtain⟨E,hE⟩:∃E,E=16+64*n:=⟨_,rfl⟩
 have hTE:T=E+4:=by omega
 have HSum:Hid (preI F N=if numTo (fun j=>F (E+j)) 4≠sumF F E then 9 else 0):=zH (by
  rw [HPre.out,if_neg hsh,hE,hn]
  rfl)
 have HGS:=zH (fun V (hV:Old w V)=>get_any (some ⟨g,o+E,none⟩) 4 (cap-E) (fun j=>F (E+j)) V (by omega) ((sub E 4 (by omega)).old hV) (fun j hj=>hb _ (by omega)))
 have HSm:=zH (fun V (hV:Old w V)=>CSum_any (some ⟨g,o,none⟩) E cap F V (by
  have:=(sub 0 E (by omega)).old hV
  rw [Nat.add_zero] at this
  exact this.ext fun j _=>by rw [Nat.zero_add]) (fun j hj=>hb j (by omega)) (by omega) hm)
 have hxb:=numTo_bd (F:=fun j=>F (E+j)) (w:=4) (fun j hj=>hb _ (by omega))
 have hyb:=sumF_bd (F:=F) (n:=E) (fun j hj=>hb j (by omega))
 obtain⟨x,hx⟩:∃x,x=numTo (fun j=>F (E+j)) 4:=⟨_,rfl⟩
 obtain⟨y,hy⟩:∃y,y=sumF F E:=⟨_,rfl⟩
 rw [←hx] at HGS hxb HSum
 rw [←hy] at HSm HSum
 have hxb2:x<4294967296:=hxb.2
 have hx0:0<=x:=hxb.1
 have w1:IntKind.u32.wrap x=x:=by rw [IntKind.wrap_u32];omega
 have w2:x%4294967296=x:=by omega
 obtain⟨q,hq⟩:∃q,q=(x != y):=⟨_,rfl⟩
 have hq2:(x != y)=q:=hq.symm
 have HQ:Hid (preI F N=if q then 9 else 0):=zH (by
  rw [HSum.out,hq]
  by_cases e:x=y
  ·rw [if_neg (fun h=>h e)];simp [e]
  ·rw [if_pos e];simp [e])
 have hRd:=fun V (hV:Old w V)=>readDir_any (some ⟨g,o+16,none⟩) n (cap-16) (fun p=>F (16+p)) V ((sub 16 (64*n) (by omega)).old hV) (fun j hj=>hb _ (by omega)) (by omega) (by omega)
 rw [show 64*n=E-16 by omega] at hRd
 have HRd:=zH hRd
 have HPl:=zH (fun V q c D (h:MtsS V q n D) (hd:dirP D n)=>placed_any z q n c D V (by omega) h (by omega) (dirP_ok hd))
 have HEq:=zH (fun V p q c c' D (hp:MtsS V p n (plD D z n)) (hq:MtsS V q n D)=>EqualM_any p q n c c' (plD D z n) D V hp hq (by omega) (fun i _=>rfl))
 have HCl:=zH (fun V (hV:Old w V)=>CloneU_any (some ⟨g,o,none⟩) N cap F V (by
  have:=(sub 0 N (by omega)).old hV
  rw [Nat.add_zero] at this
  exact this.ext fun j _=>by rw [Nat.zero_add]) hN)
 have HNZ:=zH (And.intro hn hz)
 have HZ1:=zH hz1
 have q1:wrap64 ((T:Int)-4)=E:=by rw [IntWalk.wrap64_in _ (by omega)];omega
 have q0:(T:Int)-4=E:=by omega
 have q3:wrap64 (E:Int)=E:=IntWalk.wrap64_in _ (by omega)
 have k1:(E:Int)<=T:=by omega
 have k2:(T:Int)<=cap:=by omega
 have k3:(E:Int)<=cap:=by omega
 have k4:(16:Int)<=E:=by omega
 have k5:¬((N:Int)<T):=by omega
 have k6:¬cap=E:=by omega
 have k7:¬cap=0:=by omega
 have k8:¬cap=16:=by omega
 have c1:∀w',(Instr.sliceAt 34 (.slice (some ⟨g,o,none⟩) N cap) (some (.int .i64 E)) (some (.int .i64 T)) none).run Tryz.prog w' = .ok (.slice (some ⟨g,o+E,none⟩) 4 (cap-E)) w':=fun w'=>by
  have:=cut_lh g o N cap E T (by omega) (by omega) w'
  rwa [show T-E=4 by omega] at this
 have c2:=fun w'=>cut_hi g o N cap E (by omega) (by omega) w'
 have c3:∀w',(Instr.sliceAt 34 (.slice (some ⟨g,o,none⟩) N cap) (some (.int .i64 16)) (some (.int .i64 E)) none).run Tryz.prog w' = .ok (.slice (some ⟨g,o+16,none⟩) (E-16) (cap-16)) w':=fun w'=>cut_lh0 g o N cap 16 E (by omega) (by omega) (by omega) w'
 have HC3:=zH c3
 have HDr2:Hid (∀V,Calls Tryz.prog 67 #[.int .i64 n] V fun e w'=>e = .returned (.int .i64 T)/\V=w'):=zH fun V=>by
  have:=HDr.out V
  rw [←hT] at this
  exact this
 have hEN:Hid (E=16+64*n):=zH hE
 clear hT hE hTE hx hy hxb hyb hq hRd hn hz e1 e2 f1 f2 hb2 hA hB h0 sub hcs hg hb hc hm hz1 hn64 hsh HDr c3
 go_enter Tryz.func26,Tryz.ntmps26
 go_wp2_with fail
 refine HWr.out.mono ?_
 rintro e w1 ⟨rfl,rfl⟩
 go_wp2_with fail
 refine wp_region_held_drew (S:=(fun _=>True)) (by kernel_rfl) ?_ (fun hHeld=>?_)
 ·exact trivial
 refine wpU 0 rfl ?_;try simp only [Act.put,sA,sZ,sS]
 refine wpU 1 rfl ?_;try simp only [Act.put,sA,sZ,sS]
 refine wpU 3 rfl ?_;try simp only [Act.put,sA,sZ,sS]
 refine wpU 4 rfl ?_;try simp only [Act.put,sA,sZ,sS]
 refine wpR 2 rfl (fun K hK=>?_)
 go_simp
 refine(HG1.out _ (Old.drew (Old.refl w))).mono ?_
 rintro e V ⟨rfl,rfl⟩
 go_wp2_with fail
 refine hK.out _ _ ?_ (fun hHeld=>?_)
 ·exact trivial
 clear hK K
 try simp only [Act.put,sA,sZ,sS]
 refine wpR 5 rfl (fun K hK=>?_)
 go_simp
 refine(HG2.out _ (Old.drew (Old.refl w))).mono ?_
 rintro e V ⟨rfl,rfl⟩
 go_wp2_with fail
 refine hK.out _ _ ?_ (fun hHeld=>?_)
 ·exact trivial
 clear hK K
 try simp only [Act.put,sA,sZ,sS]
 refine wpU 6 rfl ?_;try simp only [Act.put,sA,sZ,sS]
 refine wpU 7 rfl ?_;try simp only [Act.put,sA,sZ,sS]
 refine wpAnyH_done (by kernel_rfl) ?_ _
 clear HG1 HG2 hl1 hl2
 obtain⟨wa,hwa⟩:∃V,V=w.drew:=⟨_,rfl⟩
 have HOa:=zH (show Old w wa by rw [hwa];exact Old.drew (Old.refl w))
 rw [←hwa]
 clear hwa
 go_wp2_with fail
 refine(HDr2.out _).mono ?_
 rintro e V ⟨rfl,rfl⟩
 go_wp2_with fail
 refine(HDr2.out _).mono ?_
 rintro e V ⟨rfl,rfl⟩
 go_wp2_with fail
 refine wp_region_held_drew (S:=(fun _=>True)) (by kernel_rfl) ?_ (fun hHeld=>?_)
 ·exact trivial
 refine wpU 0 rfl ?_;try simp only [Act.put,sA,sZ,sS]
 refine wpU 1 rfl ?_;try simp only [Act.put,sA,sZ,sS]
 refine wpU 2 rfl ?_;try simp only [Act.put,sA,sZ,sS]
 refine wpU 7 rfl ?_;try simp only [Act.put,sA,sZ,sS]
 refine wpU 8 rfl ?_;try simp only [Act.put,sA,sZ,sS]
 refine wpU 9 rfl ?_;try simp only [Act.put,sA,sZ,sS]
 refine wpR 3 rfl (fun K hK=>?_)
 go_simp
 refine(HDr2.out _).mono ?_
 rintro e V ⟨rfl,rfl⟩
 go_wp2_with fail
 refine hK.out _ _ ?_ (fun hHeld=>?_)
 ·exact trivial
 clear hK K
 try simp only [Act.put,sA,sZ,sS]
 refine wpU 4 rfl ?_;try simp only [Act.put,sA,sZ,sS]
 refine wpR 5 rfl (fun K hK=>?_)
 go_simp
 refine(HGS.out _ HOa.out.drew).mono ?_
 rintro e V ⟨rfl,rfl⟩
 go_wp2_with fail
 refine hK.out _ _ ?_ (fun hHeld=>?_)
 ·exact trivial
 clear hK K
 try simp only [Act.put,sA,sZ,sS]
 refine wpU 6 rfl ?_;try simp only [Act.put,sA,sZ,sS]
 refine wpR 10 rfl (fun K hK=>?_)
 go_simp
 refine(HSm.out _ HOa.out.drew).mono ?_
 rintro e V1 ⟨rfl,o1⟩
 have HO1:=zH (HOa.out.drew.trans o1)
 clear o1
 go_wp2_with fail
 refine hK.out _ _ ?_ (fun hHeld=>?_)
 ·exact trivial
 clear hK K
 try simp only [Act.put,sA,sZ,sS]
 refine wpU 11 rfl ?_;try simp only [Act.put,sA,sZ,sS]
 refine wpAnyH_done (by kernel_rfl) ?_ _
 clear HGS HSm w1 w2 hq2 c1 c2 HDr2 HOa HSum
 cases q
 case true=>
  go_wp2_with fail
  go_ret2
  exact .inl ⟨by rw [HQ.out];simp,by rw [HQ.out];rfl,HO1.out⟩
 have c3:=HC3.out
 go_wp2_with fail
 refine(HRd.out _ HO1.out).mono ?_
 rintro e V2 (⟨qd,cd,D,rfl,hd1,hd2,hms,hdp,hri,ho,hnw⟩ | ⟨qd,md,cd,rfl,hno,ho⟩)
 case inr=>
  have HO2:=zH (HO1.out.trans ho)
  have HNo:=zH hno
  clear ho hno HRd
  go_wp2_with fail
  go_ret2
  refine .inr ⟨by rw [HQ.out];rfl,.inl ⟨4,.inl rfl,rfl,fun D hD=>HNo.out D ?_,HO2.out⟩⟩
  rw [HNZ.out.1]
  exact hD.1
 have HO2:=zH (HO1.out.trans ho)
 have HMs:=zH hms
 have HDp:=zH hdp
 have HRi:=zH hri
 have HDc:=zH (And.intro hd1 hd2)
 have HNw:=zH (fun a h0 ha=>Nat.le_trans HO1.out.size (hnw a h0 ha))
 have HOne:Hid (∀D0,GoodD D0 n (fun p=>F (16+p))->∀i,i<n->D i=D0 i):=zH fun D0 h i hi=>by
  obtain⟨t,h1,h2,_⟩:=hri i hi
  have h3:=h.1 i hi
  rw [h1]
  exact rd_uniq h3.1 h3.2 h2
 have HSt:=zH hms.str
 clear ho hms hdp hri hd1 hd2 hnw HRd HO1
 go_wp2_with fail
 refine(HPl.out V2 qd cd D HMs.out HDp.out).mono ?_
 rintro e V3 ⟨qp,cp,rfl,hc1,hc2,hmp,ho⟩
 have HO3:=zH (HO2.out.trans ho)
 have HM3:=zH (HMs.out.old ho)
 have HP3:Hid (MtsS V3 qp n (plD D z n)):=zH ⟨fun h0=>by
  obtain⟨g,hq,hm1,_⟩:=hmp h0
  rw [hq]
  exact(hm1.sl fun i hi=>HSt.out i hi).cell h0,fun i hi=>HSt.out i hi⟩
 clear hc1 hc2 hmp ho HMs HO2 HPl
 obtain⟨tt,htt⟩:∃t,t=totalAt (frD D) z n:=⟨_,rfl⟩
 rw [←htt]
 have HTt:=zH htt
 clear htt
 go_wp2_with fail
 refine(HEq.out V3 qp qd cp cd D HP3.out HM3.out).mono ?_
 rintro e V4 ⟨r,rfl,hr,ho⟩
 have HO4:=zH (HO3.out.trans ho)
 have HM4:=zH (HM3.out.old ho)
 have HR:=zH hr
 clear ho hr HO3 HM3 HP3 HEq
 cases r
 case false=>
  go_wp2_with fail
  go_ret2
  refine .inr ⟨by rw [HQ.out];rfl,.inl ⟨12,.inr rfl,rfl,fun D0 hD=>?_,HO4.out⟩⟩
  unfold GoodI at hD
  rw [←HNZ.out.1,←HNZ.out.2] at hD
  have e:=HOne.out D0 hD.1
  have:=HR.out.2 fun i hi=>by
   rw [(plD_ext (sz:=z) e).1 i hi,hD.2.1 i hi,e i hi]
  cases this
 by_cases hTN:tt=N
 case neg=>
  have d:((tt:Int) != (N:Int))=true:=by
   have:(tt:Int)≠N:=by omega
   simpa using this
  have HTN:=zH hTN
  clear hTN
  go_wp2_with fail
  go_ret2
  refine .inr ⟨by rw [HQ.out];rfl,.inl ⟨12,.inr rfl,rfl,fun D0 hD=>?_,HO4.out⟩⟩
  unfold GoodI at hD
  rw [←HNZ.out.1,←HNZ.out.2] at hD
  have e:=HOne.out D0 hD.1
  exact HTN.out (by rw [HTt.out,(plD_ext (sz:=z) e).2,hD.2.2])
 have d:((tt:Int) != (N:Int))=false:=by simp [hTN]
 have HTN:=zH hTN
 clear hTN
 go_wp2_with fail
 refine(HCl.out V4 HO4.out).mono ?_
 rintro e V5 ⟨im,ci,rfl,hi1,hi2,him,ho,hinw⟩
 have HIn:=zH (fun a h0 ha=>Nat.le_trans HO4.out.size (hinw a h0 ha))
 have HO5:=zH (HO4.out.trans ho)
 have HM5:=zH (HM4.out.old ho)
 have HIm:=zH him
 have HIi:=zH (And.intro hi1 hi2)
 clear ho him hi1 hi2 hinw HO4 HM4 HCl
 go_wp2_with fail
 go_ret2
 have oa:=Old.alloc V5 (.cells #[.int .i64 z,.slice qd n cd,.slice im N ci] 121)
 refine .inr ⟨by rw [HQ.out];rfl,.inr ⟨V5.heap.size,qd,cd,im,ci,D,rfl,?_,?_,HO5.out.trans oa,?_⟩⟩
 ·rw [←HNZ.out.1,←HNZ.out.2]
  exact⟨heap_alloc_new _ _,HM5.out.old oa,HDc.out.1,HDc.out.2,HIm.out.old oa,HIi.out.1,HIi.out.2⟩
 ·refine⟨by rw [←HNZ.out.1];exact HDp.out,fun i hi=>HRi.out i (by rw [HNZ.out.1];exact hi),fun i hi=>?_,?_⟩
  ·rw [←HNZ.out.1,←HNZ.out.2]
   exact HR.out.1 (by simp) i (by rw [HNZ.out.1];exact hi)
  ·rw [←HNZ.out.1,←HNZ.out.2,←HTt.out,HTN.out]
 ·rw [←HNZ.out.1]
  rintro x (rfl | ⟨h0,a,ha,rfl⟩ | ⟨h0,a,ha,rfl⟩)
  ·exact HO5.out.size
  ·exact HNw.out a h0 ha
  ·exact HIn.out a h0 ha
theorem Parse_any(p:Option Addr)(N cap:Nat)(F:Nat->Int)(w:World)(hs:SlU w p N F)(hb:Byt F N)(hc:N<=cap)(hm:cap<=maxLen)(hN:N<=1099511627776):
  Calls Tryz.prog 26 #[.slice p N cap] w (PrsR w F N):=(Parse_any2 p N cap F w hs hb hc hm hN).mono fun _ _ h=>h.one
def mtZ:Array Value:=#[.string ⟨#[]⟩,.int .i64 0,.int .i64 0,.int .i64 0,.bool false,.int .i64 0,.int .i64 0,.int .i64 0,.int .i64 0]
theorem BSize_at(b:Nat)(s:Int)(w:World)(h:w.cell? ⟨b,0,none⟩=some (.int .i64 s)):Calls Tryz.prog 30 #[.pointer (some ⟨b,0,none⟩)] w fun e w'=>e = .returned (.int .i64 s)/\w=w':=by
 go_enter Tryz.func30,Tryz.ntmps30
 go_wp2_with fail
 go_ret
 exact⟨rfl,rfl⟩
theorem BMade_yes(b:Nat)(s:Int)(w:World)(h:w.cell? ⟨b,0,none⟩=some (.int .i64 s))(h0:s≠0):Calls Tryz.prog 74 #[.pointer (some ⟨b,0,none⟩)] w fun e w'=>e = .returned (.bool true)/\w=w':=by
 have HS:=zH (BSize_at b s w h)
 have h1:(s != 0)=true:=by simpa using h0
 clear h h0
 go_enter Tryz.func74,Tryz.ntmps74
 go_wp2_with fail
 refine HS.out.mono ?_
 rintro e w' ⟨rfl,rfl⟩
 go_wp2_with fail
 go_ret
 exact⟨rfl,rfl⟩
theorem plD_two(D:Nat->Mt)(sz n i:Nat):plD (plD D sz n) sz n i=plD D sz n i:=rfl
theorem frD_pl(D:Nat->Mt)(sz n:Nat):frD (plD D sz n)=frD D:=rfl
theorem frontF_head{len:Int}{n sz:Nat}{D:Nat->Mt}(j:Nat)(hj:j<16):frontF len n sz D j=headF len n sz j:=by
 unfold frontF dirF
 rw [patch_out (by omega),if_pos hj]
theorem frontF_ent{len:Int}{n sz:Nat}{D:Nat->Mt}(i j:Nat)(hi:i<n)(hj:j<64):frontF len n sz D (16+64*i+j)=entF (D i) j:=by
 unfold frontF
 rw [patch_out (by omega),dirF_ent _ _ _ _ _ _ hj]
theorem frontF_sum{len:Int}{n sz:Nat}{D:Nat->Mt}(j:Nat)(hj:j<4):frontF len n sz D (16+64*n+j)=be 4 (sumF (dirF len n sz D) (16+64*n)) j:=by
 unfold frontF
 exact patch_in hj
theorem frontF_dir{len:Int}{n sz:Nat}{D:Nat->Mt}(p:Nat)(hp:p<16+64*n):frontF len n sz D p=dirF len n sz D p:=by
 unfold frontF
 exact patch_out (by omega)
theorem frontF_bd(len:Int)(n sz:Nat)(D:Nat->Mt)(p:Nat):0<=frontF len n sz D p/\frontF len n sz D p<=255:=by
 unfold frontF patch
 split
 ·exact be_bd _ _ _
 ·exact dirF_bd _ _ _ _ _
theorem total_bd{D:Nat->Mt}{sz n:Nat}(hz:sz<=96)(hn:n<=64)(hD:∀i,i<n->(D i).OkR):totalAt (frD D) sz n<=900000000/\20+64*n<=totalAt (frD D) sz n:=by
 have h1:=atTo_bd (f:=frD D) (sz:=sz) (n:=n) (fun i hi=>(hD i hi).fr_le.2) hz n (Nat.le_refl _)
 have h2:=total_le (frD D) sz n
 have h3:=atTo_lo (frD D) sz n n
 omega
theorem dirP_pl{D:Nat->Mt}{n:Nat}(sz m:Nat)(h:dirP D n):dirP (plD D sz m) n:=fun i hi=>⟨(h i hi).1,(h i hi).2⟩
theorem front_good{F:Nat->Int}{D:Nat->Mt}{n sz:Nat}(h24:24<=sz)(h96:sz<=96)(hn:n<=64)(hd:dirP D n)(hF:∀p,p<20+64*n->F p=frontF (totalAt (frD D) sz n:Nat) n sz (plD D sz n) p):
  preI F (totalAt (frD D) sz n)=0/\hdN F=n/\hdZ F=sz/\GoodI (plD D sz n) F (totalAt (frD D) sz n):=by
 obtain⟨hN1,hN2⟩:=total_bd (sz:=sz) h96 hn (dirP_ok hd)
 obtain⟨N,hN⟩:∃N,N=totalAt (frD D) sz n:=⟨_,rfl⟩
 rw [←hN] at hN1 hN2 hF ⊢
 have hh:∀j,j<16->F j=headF N n sz j:=fun j hj=>by rw [hF j (by omega),frontF_head j hj]
 have m4:markP F:=fun j hj=>by rw [hh j (by omega)];unfold headF;rw [if_pos hj]
 have m5:hd5 F=0:=by
  have e:hd5 F=numTo (fun _=>0) 5:=numTo_ext fun j hj=>by
   rw [hh (11+j) (by omega)]
   unfold headF
   rw [if_neg (by omega),if_neg (by omega),if_neg (by omega),if_neg (by omega)]
  rw [e]
  rfl
 have m1:hd1 F=sz:=by
  have e:hd1 F=numTo (be 1 sz) 1:=numTo_ext fun j hj=>by
   rw [hh (10+j) (by omega)]
   unfold headF
   rw [if_neg (by omega),if_neg (by omega),if_neg (by omega),if_pos (by omega),show 10+j-10=j by omega]
  rw [e,numTo_be1 _ (by omega) (by omega)]
 have m2:hd2 F=n:=by
  have e:hd2 F=numTo (be 2 n) 2:=numTo_ext fun j hj=>by
   rw [hh (8+j) (by omega)]
   unfold headF
   rw [if_neg (by omega),if_neg (by omega),if_pos (by omega),show 8+j-8=j by omega]
  rw [e,numTo_be2 _ (by omega) (by omega)]
 have m3:hd4 F=N:=by
  have e:hd4 F=numTo (be 4 N) 4:=numTo_ext fun j hj=>by
   rw [hh (4+j) (by omega)]
   unfold headF
   rw [if_neg (by omega),if_pos (by omega),show 4+j-4=j by omega]
  rw [e,numTo_be4 _ (by omega) (by omega)]
 have hdn:hdN F=n:=by unfold hdN;rw [m2];simp
 have hdz:hdZ F=sz:=by unfold hdZ;rw [m1];simp
 have hI:hdI F N=0:=by
  unfold hdI
  rw [if_neg (by omega),if_neg (fun h=>h.elim (fun h=>h m4) (fun h=>h m5)),if_neg]
  rintro (h | h | h)
  ·rw [m1] at h;omega
  ·rw [m2] at h;omega
  ·exact h m3
 have hsb:=sumF_bd (F:=dirF N n sz (plD D sz n)) (n:=16+64*n) (fun j _=>dirF_bd _ _ _ _ _)
 have hS:hdS F=sumF F (16+64*n):=by
  have e1:sumF F (16+64*n)=sumF (dirF N n sz (plD D sz n)) (16+64*n):=sumF_ext fun j hj=>by rw [hF j (by omega),frontF_dir j hj]
  have e2:hdS F=numTo (be 4 (sumF (dirF N n sz (plD D sz n)) (16+64*n))) 4:=by
   unfold hdS
   rw [hdn]
   exact numTo_ext fun j hj=>by rw [hF _ (by omega),frontF_sum j hj]
  rw [e1,e2,numTo_be4 _ hsb.1 hsb.2]
 refine⟨?_,hdn,hdz,?_⟩
 ·unfold preI
  rw [if_neg (by omega),hdn,if_neg (by omega),if_neg (fun h=>h hS)]
 ·unfold GoodI
  rw [hdn,hdz]
  refine⟨⟨fun i hi=>⟨?_,fun j hj=>?_⟩,dirP_pl sz n hd⟩,fun i hi=>plD_two D sz n i,by rw [frD_pl,hN]⟩
  ·have hb:=atTo_bd (f:=frD D) (sz:=sz) (n:=n) (fun i hi=>(dirP_ok hd i hi).fr_le.2) h96 i (by omega)
   have hf:=firstAt_le (frD D) sz n i
   have hfr:frD D i<=131072:=(dirP_ok hd i hi).fr_le.2
   refine⟨(dirP_ok hd i hi).at_ _ _,?_,?_,?_,?_⟩
   ·show (0:Int)<=(atTo (frD D) sz n i:Nat);omega
   ·show ((atTo (frD D) sz n i:Nat):Int)<_;omega
   ·show (0:Int)<=(firstAt (frD D) sz n i:Nat);omega
   ·show ((firstAt (frD D) sz n i:Nat):Int)<_;omega
  ·show entF (plD D sz n i) j=F (16+(64*i+j))
   rw [←Nat.add_assoc,hF _ (by omega),frontF_ent i j hi hj]
theorem Ld.byt{f:Nat->Nat}{sz n:Nat}{B:Nat->Nat->Int}{H:Nat->Int}{k:Nat}{F:Nat->Int}(h:Ld f sz n B H k F)(hH:∀p,p<20+64*n->0<=H p/\H p<=255)(hB:∀i,i<k->Byt (B i) sz)(N:Nat):Byt F N:=fun p _=>by
 by_cases hp:p<20+64*n
 ·rw [h.front p hp];exact hH p hp
 ·by_cases hs:∃i q,i<n/\q<f i/\offTo f i+q<k/\∃j,j<4/\p=atTo f sz n i+4*q+j
  ·obtain⟨i,q,h1,h2,h3,j,h4,rfl⟩:=hs
   rw [h.sum i q h1 h2 h3 j h4];exact be_bd _ _ _
  ·by_cases hb:∃i q,i<n/\q<f i/\offTo f i+q<k/\∃j,j<sz/\p=firstAt f sz n i+sz*q+j
   ·obtain⟨i,q,h1,h2,h3,j,h4,rfl⟩:=hb
    rw [h.byte i q h1 h2 h3 j h4];exact hB _ h3 j h4
   ·have hg:∀i q,i<n->q<f i->offTo f i+q<k->(∀j,j<4->p≠atTo f sz n i+4*q+j)/\∀j,j<sz->p≠firstAt f sz n i+sz*q+j:=fun i q h1 h2 h3=>⟨fun j h4 e=>hs ⟨i,q,h1,h2,h3,j,h4,e⟩,fun j h4 e=>hb ⟨i,q,h1,h2,h3,j,h4,e⟩⟩
    rw [h.gap p (by omega) hg];omega
end Go.Proofs.YtgefdmfcddpaiaaGreatDoor
