/- Texts joined: LawF. -/
import Derived.Deep.RegionHeld
import Derived.Great.BuildSlice
import Derived.Test.YtjakgghbdojlbaaGreatDoorPkBC
import Derived.Test.YtjakgghbdojlbaaGreatDoorPkBD
import Derived.Test.YtjakgghbdojlbaaGreatDoorTk
namespace Go.Proofs.YtjakgghbdojlbaaGreatDoor
set_option linter.unusedVariables false
set_option linter.unusedSimpArgs false
set_option maxRecDepth 100000
open Go.RowKit Go.ChangeShapes Go.WideShapes
theorem Tryz.info_fl:(Tryz.prog.info? 104).map (fun i=>(i.zero,i.size,i.bytes))=some (some (.slice none 0 0),1,24):=by kernel_rfl
theorem fr_build1(F:Nat->Int)(s:Value)(w:World):(Instr.buildSlice 104 1 #[(0,.agg (rowN 29 (frC F s)))]).run Tryz.prog w = .ok (.slice (some ⟨w.heap.size,0,none⟩) 1 1) (w.alloc (.cells (rowN 29 (frC F s)) 75)):=by
 obtain⟨i0,hi,hz0,hz1,hz2⟩:=info_parts Tryz.info_frame
 exact run_buildSlice w 104 75 1 _ (rowN 29 (frC F s)) i0 _ Tryz.underlying104 hi hz0 (by rw [hz1];decide) (by rw [hz1];decide) (by rw [hz1];kernel_rfl)
theorem fr_fold1(F:Nat->Int)(s:Value):Array.foldl (fun(cs:Array Value) (x:Value × Nat)=>cs.setIfInBounds x.snd x.fst) #[.int .i64 0,.int .i64 0,.int .i64 0,.int .i64 0,.slice none 0 0,.int .i64 0,.int .i64 0,.int .i64 0,.int .i64 0,.int .i64 0,.int .i64 0,.int .i64 0,.int .i64 0,.int .i64 0,.int .i64 0,.int .i64 0,.int .i64 0,.int .i64 0,.int .i64 0,.int .i64 0,.int .i64 0,.int .i64 0,.int .i64 0,.int .i64 0,.int .i64 0,.int .i64 0,.int .i64 0,.int .i64 0,.int .i64 0] (rowN 29 (frC F s)).zipIdx 0 29=rowN 29 (frC F s):=by kernel_rfl
theorem Tryz.info_bs:(Tryz.prog.info? 24).map (fun i=>(i.zero,i.size,i.bytes))=some (some (.slice none 0 0),1,24):=by kernel_rfl
def FrmsR(w:World)(sz n:Nat)(Z:Nat->Smp)(e:Ending)(w':World):Prop:=
 ∃q c fp fc Q C,e = .returned (.tuple #[.slice q n c,.slice fp (offTo (frD (mtsD Z)) n) fc])/\MtsS w' q n (mtsD Z)/\RwU w' fp (offTo (frD (mtsD Z)) n) Q (fun _=>sz) C (BTo sz Z n)/\Old w w'
set_option maxHeartbeats 16000000 in
theorem frmsC:FrmsC:=by
 intro sz n p cap Z w h24 h96 hn hs hv hm
 show Calls Tryz.prog 10 #[.int .i64 sz,.slice p n cap] w (FrmsR w sz n Z)
 have HNw:=zH (CNew_yes (sz:Int) w (by omega) (by omega))
 obtain⟨ir,hir,hr0,hr1,hr2⟩:=info_parts Tryz.infoM
 obtain⟨jr,hjr,hj0,hj1,hj2⟩:=info_parts Tryz.info_fl
 obtain⟨br,hbr,hb0,hb1,hb2⟩:=info_parts Tryz.info_bs
 have HS:=zH hs
 have HV:=zH hv
 have HM:=zH hm
 have HZ:=zH (And.intro h24 h96)
 have Hs29:Hid ((Tryz.prog.info? 75).map (·.size)=some 29):=zH (by kernel_rfl)
 clear hs hv hm h24 h96
 go_enter Tryz.func10,Tryz.ntmps10
 go_wp2_with fail
 refine HNw.out.mono ?_
 rintro e w1 ⟨b,rfl,hb,hbg,ho⟩
 have HCo:=zH (fun V (o:Old w1 V)=>CoB.old hb o)
 have HL0:Hid (LF w1 sz (mtsD Z) 0 (.slice none 0 0) (.slice none 0 0) (.slice none 0 0) (offTo (frD (mtsD Z)) 0) [] (BTo sz Z 0) 0 0 [] (fun _ _=>zeroFr) w1):=zH ⟨ownS.nil _ _ _ _,ownS.nil _ _ _ _,ownS.nil _ _ _ _,fun j hj=>absurd hj (Nat.not_lt_zero _),fun j hj=>absurd hj (Nat.not_lt_zero _),Old.refl _⟩
 have HS1:=zH (HS.out.old ho)
 have HO1:=zH ho
 clear hb hbg ho HNw HS
 go_wp2_with fail
 go_loopw [8,9,10] (fun dv ov iv wr=>∃(k:Nat) (vs:List Value),k<=n/\iv = .int .i64 k/\Hid (LF w1 sz (mtsD Z) k dv ov (.slice none 0 0) (offTo (frD (mtsD Z)) k) vs (BTo sz Z k) 0 0 [] (fun _ _=>zeroFr) wr)) (fun _ _ i _=>n-(intOf i).toNat)
 case atStart=>exact⟨0,_,Nat.zero_le _,by go_num,HL0⟩
 case round=>
  clear HL0
  obtain⟨k,vs,hk,rfl,HL⟩:=hrel
  by_cases hkn:k<n
  ·obtain⟨gs,o,rfl,hgs,hcs⟩:=HS1.out.cell (by omega)
   obtain⟨S,hS⟩:∃S,S=Z k:=⟨_,rfl⟩
   have hck:=hcs k hkn
   rw [←hS] at hck
   have c0:wr.cell? ⟨gs,o+k*6,none⟩=some (.string S.s):=(HL.out.old.cell (a:=⟨gs,o+k*6,none⟩) hgs).trans (hck 0 _ rfl)
   have c1:wr.cell? ⟨gs,o+k*6+1,none⟩=some (.int .i64 S.r):=(HL.out.old.cell (a:=⟨gs,o+k*6+1,none⟩) hgs).trans (hck 1 _ rfl)
   have c2:wr.cell? ⟨gs,o+k*6+2,none⟩=some (.bool S.lp):=(HL.out.old.cell (a:=⟨gs,o+k*6+2,none⟩) hgs).trans (hck 2 _ rfl)
   have c3:wr.cell? ⟨gs,o+k*6+3,none⟩=some (.int .i64 S.a):=(HL.out.old.cell (a:=⟨gs,o+k*6+3,none⟩) hgs).trans (hck 3 _ rfl)
   have c4:wr.cell? ⟨gs,o+k*6+4,none⟩=some (.int .i64 S.b):=(HL.out.old.cell (a:=⟨gs,o+k*6+4,none⟩) hgs).trans (hck 4 _ rfl)
   have c5:wr.cell? ⟨gs,o+k*6+5,none⟩=some (.slice S.p S.n S.c):=(HL.out.old.cell (a:=⟨gs,o+k*6+5,none⟩) hgs).trans (hck 5 _ rfl)
   have hok:SmOk w1 S:=by rw [hS];exact HS1.out.ok k hkn
   have hvl:SmpV S:=by rw [hS];exact HV.out k hkn
   have HMe:=zH (Meta_any S wr (hok.old HL.out.old))
   unfold Smp.val Smp.cells at HMe
   unfold metaC at HMe
   have HOk:=zH hok
   have HVl:=zH hvl
   have HSk:=zH hS
   have HGs:Hid (∀V,Old w1 V->V.cell? ⟨gs,o+k*6+5,none⟩=some (.slice S.p S.n S.c)):=zH fun V o2=>(o2.cell (a:=⟨gs,o+k*6+5,none⟩) hgs).trans (hck 5 _ rfl)
   have i0:(0:Int)<=k:=by omega
   have i1:(k:Int)<n:=by omega
   clear hcs hck hok hvl hS hgs
   go_wp2_with fail
   refine HMe.out.mono ?_
   rintro e w2 ⟨rfl,o2⟩
   have HO2:=zH o2
   obtain⟨W3,hW3⟩:∃V,V=w2.alloc (.cells #[.string S.s,.int .i64 S.len,.int .i64 S.r,.int .i64 S.n,.bool S.lp,.int .i64 S.a,.int .i64 S.b,.int .i64 0,.int .i64 0] 45):=⟨_,rfl⟩
   obtain⟨b3,hb3⟩:∃b,b=w2.heap.size:=⟨_,rfl⟩
   have HB3:Hid (W3.heap[b3]?=some (.cells #[.string S.s,.int .i64 S.len,.int .i64 S.r,.int .i64 S.n,.bool S.lp,.int .i64 S.a,.int .i64 S.b,.int .i64 0,.int .i64 0] 45 (0,0))):=zH (by rw [hW3,hb3];exact heap_alloc_new _ _)
   have HO3:=zH (show Old wr W3 by rw [hW3];exact o2.alloc' _)
   clear o2 HMe c0 c1 c2 c3 c4 c5
   go_upto_region 10 with fail
   rw [←hW3,←hb3]
   have z0:W3.cell? ⟨b3,0,none⟩=some (.string S.s):=(cell_of_row _ _ _ _ _ _ HB3.out).trans rfl
   have z1:W3.cell? ⟨b3,1,none⟩=some (.int .i64 S.len):=(cell_of_row _ _ _ _ _ _ HB3.out).trans rfl
   have z2:W3.cell? ⟨b3,2,none⟩=some (.int .i64 S.r):=(cell_of_row _ _ _ _ _ _ HB3.out).trans rfl
   have z3:W3.cell? ⟨b3,3,none⟩=some (.int .i64 S.n):=(cell_of_row _ _ _ _ _ _ HB3.out).trans rfl
   have z4:W3.cell? ⟨b3,4,none⟩=some (.bool S.lp):=(cell_of_row _ _ _ _ _ _ HB3.out).trans rfl
   have z5:W3.cell? ⟨b3,5,none⟩=some (.int .i64 S.a):=(cell_of_row _ _ _ _ _ _ HB3.out).trans rfl
   have z6:W3.cell? ⟨b3,6,none⟩=some (.int .i64 S.b):=(cell_of_row _ _ _ _ _ _ HB3.out).trans rfl
   have z7:W3.cell? ⟨b3,7,none⟩=some (.int .i64 0):=(cell_of_row _ _ _ _ _ _ HB3.out).trans rfl
   have z8:W3.cell? ⟨b3,8,none⟩=some (.int .i64 0):=(cell_of_row _ _ _ _ _ _ HB3.out).trans rfl
   obtain⟨v8,rfl⟩:∃v,v=u8:=⟨_,rfl⟩
   obtain⟨v9,rfl⟩:∃v,v=u9:=⟨_,rfl⟩
   have HO4:=zH (HO3.out.trans (Old.alloc W3 (.cells #[.string S.s,.int .i64 S.len,.int .i64 S.r,.int .i64 S.n,.bool S.lp,.int .i64 S.a,.int .i64 S.b,.int .i64 0,.int .i64 0] 45)))
   have HON:=zH ((HL.out.d.old HO4.out).mono (Y:=but (W3.alloc (.cells #[.string S.s,.int .i64 S.len,.int .i64 S.r,.int .i64 S.n,.bool S.lp,.int .i64 S.a,.int .i64 S.b,.int .i64 0,.int .i64 0] 45)) v8) fun z hz hh=>hh.2 hz)
   have hnw:=news_nine W3 (smM S) 45
   have h1c:∀u∈(smM S).cells.toList,u.oneCell'=true:=by
    intro u hu
    have h1:=(smM S).one
    rw [Array.all_eq_true] at h1
    obtain⟨i,hi,rfl⟩:=List.getElem_of_mem hu
    simpa using h1 i (by simpa using hi)
   have eC:(smM S).cells=#[.string S.s,.int .i64 S.len,.int .i64 S.r,.int .i64 S.n,.bool S.lp,.int .i64 S.a,.int .i64 S.b,.int .i64 0,.int .i64 0]:=rfl
   have eL:(smM S).cells.toList = [.string S.s,.int .i64 S.len,.int .i64 S.r,.int .i64 S.n,.bool S.lp,.int .i64 S.a,.int .i64 S.b,.int .i64 0,.int .i64 0]:=rfl
   rw [eL] at h1c hnw
   rw [eC] at hnw
   have HNW:=zH hnw
   have H1C:=zH h1c
   have HLi:Hid ((mtsD Z k).cells.toList = [.string S.s,.int .i64 S.len,.int .i64 S.r,.int .i64 S.n,.bool S.lp,.int .i64 S.a,.int .i64 S.b,.int .i64 0,.int .i64 0]):=zH (by
    show (smM (Z k)).cells.toList=_
    rw [←HSk.out]
    rfl)
   have HB3l:=zH (And.intro (lt_of_block HB3.out) (show ¬own3 v8 v9 (.slice none 0 0) b3 from fun h=>by
    have h1:=HL.out.old3 b3 h
    have h2:=HO2.out.size
    omega))
   clear eC eL hnw h1c hW3 hb3
   go_wp2_with (at_builtin;refine append_S _ rfl _ _ 30 rfl (but (W3.alloc (.cells #[.string S.s,.int .i64 S.len,.int .i64 S.r,.int .i64 S.n,.bool S.lp,.int .i64 S.a,.int .i64 S.b,.int .i64 0,.int .i64 0] 45)) v8) 45 ir (.agg #[.string ⟨#[]⟩,.int .i64 0,.int .i64 0,.int .i64 0,.bool false,.int .i64 0,.int .i64 0,.int .i64 0,.int .i64 0]) 9 80 Tryz.underlying30 hir hr0 hr1 hr2 rfl (by decide) v8 k (metL (mtsD Z) k) rfl HON.out ⟨W3.heap.size,0,none⟩ 1 1 [.string S.s,.int .i64 S.len,.int .i64 S.r,.int .i64 S.n,.bool S.lp,.int .i64 S.a,.int .i64 S.b,.int .i64 0,.int .i64 0] rfl rfl HNW.out H1C.out (by unfold maxLen;omega) (by omega) (fun z hz=>hz.1) ?_;intro d8 w4 h4 hk4 hb4;have HL4:=zH (HL.out.addD HO4.out (by rw [HLi.out];exact h4) hk4 hb4);have HK4:=zH (And.intro hk4 hb4);clear h4 hk4 hb4 HON)
   obtain⟨NF,hNF⟩:∃N,N=cnt (S.M 0):=⟨_,rfl⟩
   obtain⟨N0,hN0⟩:∃N,N=offTo (frD (mtsD Z)) k:=⟨_,rfl⟩
   have HNF:=zH hNF
   have HN0:=zH hN0
   have HB1:Hid (∀q,q<N0->BTo sz Z k q=BTo sz Z (k+1) q):=zH fun q hq=>by
    rw [hN0] at hq
    show _=(if q<offTo (frD (mtsD Z)) k then BTo sz Z k q else frB sz (Z k) (q-offTo (frD (mtsD Z)) k))
    rw [if_pos hq]
   rw [←hN0] at HL4
   have HL5:=zH ((HL4.out.reB HB1.out).fresh NF (fun _ _=>zeroFr))
   have HX5:Hid (BxR (own3 d8 v9 (.slice none 0 0)) w4 b3 S):=zH ((BxR.mk (X:=own3 v8 v9 (.slice none 0 0)) HB3l.out.1 HB3l.out.2 HB3.out).old (Old.alloc W3 _) |>.step HK4.out.1 (fun q hq hx=>⟨hq,fun e=>hx (.inl e)⟩) (own3_8 HK4.out.2))
   have HF5:Hid (∀i,i<0->FmX sz (chL S i) NF ((fun _ _=>zeroFr:Nat->Nat->Fr) i)):=zH fun i hi=>absurd hi (Nat.not_lt_zero _)
   obtain⟨gd,od,hSp,hgd,hcd⟩:=HOk.out.rows.cell (by have:=HVl.out.n1;omega)
   have HSp:=zH hSp
   have HGd:=zH (And.intro hgd hcd)
   have hn1:=HVl.out.n1
   have hn2:=HVl.out.n2
   clear hNF hN0 HL4 HK4 HNW H1C HB3 HB3l HLi HO2 HO3 HO4 z0 z1 z2 z3 z4 z5 z6 z7 z8 hSp hgd hcd HL HB1
   go_loopw [12,13] (fun av jv wr=>∃(j:Nat) (al:List Value) (Ls:Nat->Nat->Fr),j<=S.n/\jv = .int .i64 j/\Hid (LF w1 sz (mtsD Z) (k+1) d8 v9 av N0 vs (BTo sz Z (k+1)) j NF al Ls wr)/\Hid (∀i,i<j->FmX sz (chL S i) NF (Ls i))/\Hid (BxR (own3 d8 v9 av) wr b3 S)) (fun _ jv _=>S.n-(intOf jv).toNat)
   case atStart=>exact⟨0,_,_,Nat.zero_le _,by go_num,HL5,HF5,HX5⟩
   case round=>
    clear HL5 HF5 HX5
    obtain⟨j,al,Ls,hj,rfl,HL,HFm,HX⟩:=hrel
    have hc5:=HGs.out _ HL.out.old
    rw [HSp.out] at hc5
    by_cases hjn:j<S.n
    ·obtain⟨v12,rfl⟩:∃v,v=u12:=⟨_,rfl⟩
     have hMc:=HVl.out.m j hjn
     have hm2:=HVl.out.m2
     have hcnt:cnt (S.M j)=NF:=by rw [hMc];exact HNF.out.symm
     have hCF:=CFrames_any2 b sz (S.Q j) (S.M j) (S.C j) (chL S j) wr (HCo.out wr HL.out.old) (by have:=HZ.out;omega) (by have:=HZ.out;omega) ((ch_slI HOk.out j hjn).old HL.out.old) (ch_samP HVl.out j hjn) (by omega)
     have hlen:(chL S j).length=S.M j:=chL_len S j
     rw [hcnt] at hCF
     have HCF:=zH hCF
     have HFx:Hid (∀L,FmG sz (decide (55<=(sz:Int))) (fun q=>(chL S j).getD q 0) (spC (decide (55<=(sz:Int))) NF fun q=>(chL S j).getD q 0) NF L->FmX sz (chL S j) NF L):=zH fun L h=>by
      unfold FmX
      rw [hlen,hcnt]
      exact h
     have ct:wr.cell? ⟨gd,od+j,none⟩=some (.slice (S.Q j) (S.M j) (S.C j)):=(HL.out.old.cell (a:=⟨gd,od+j,none⟩) HGd.out.1).trans (HGd.out.2 j hjn)
     obtain⟨Qj,hQ⟩:∃Q,Q=S.Q j:=⟨_,rfl⟩
     obtain⟨Mj,hMj⟩:∃M,M=S.M j:=⟨_,rfl⟩
     obtain⟨Cj,hC⟩:∃C,C=S.C j:=⟨_,rfl⟩
     rw [←hQ,←hMj,←hC] at ct HCF
     have j0:(0:Int)<=j:=by omega
     have j1:(j:Int)<S.n:=by omega
     clear hMc hm2 hcnt hCF hlen hQ hMj hC
     go_wp2_with fail
     refine HCF.out.mono ?_
     rintro e V ⟨fb,L,rfl,hge,hfs,hfm,ho⟩
     have HFn:=zH (HFx.out L hfm)
     have hoA:Old wr (V.alloc (.cells #[.slice (some ⟨fb,0,none⟩) NF NF] 104)):=ho.alloc' _
     have hlt:∀q,own3 d8 v9 v12 q->q<wr.heap.size:=HL.out.old3
     have hfA:¬own3 d8 v9 v12 fb:=fun h=>by have:=hlt fb h;omega
     have HoA:=zH hoA
     have HfA:=zH hfA
     have hNF1:0<NF:=by rw [HNF.out];unfold cnt;have:=HVl.out.m1;omega
     have hfb:fb<V.heap.size:=by
      obtain⟨g',o',eg,hg',_⟩:=hfs.1 hNF1
      injection eg with eg
      injection eg with eg _
      rw [eg];exact hg'
     have HfB:=zH (Nat.lt_of_lt_of_le hfb (Old.alloc V (.cells #[.slice (some ⟨fb,0,none⟩) NF NF] 104)).size)
     have HfS:=zH (show FrsS (fun q=>own3 d8 v9 v12 q/\q<(V.alloc (.cells #[.slice (some ⟨fb,0,none⟩) NF NF] 104)).heap.size) (V.alloc (.cells #[.slice (some ⟨fb,0,none⟩) NF NF] 104)) (some ⟨fb,0,none⟩) NF L from⟨(FrsS.old hfs (Old.alloc V _)).1,fun i hi=>((FrsS.old hfs (Old.alloc V _)).2 i hi).mono fun q _ hq=>hlt q hq.1⟩)
     have HON:=zH ((HL.out.a.old hoA).mono (Y:=but (V.alloc (.cells #[.slice (some ⟨fb,0,none⟩) NF NF] 104)) v12) fun z hz hh=>hh.2 hz)
     have HNw:Hid (∀(i:Nat) (u:Value),([.slice (some ⟨fb,0,none⟩) NF NF]:List Value)[i]?=some u->(V.alloc (.cells #[.slice (some ⟨fb,0,none⟩) NF NF] 104)).cell? ((⟨V.heap.size,0,none⟩:Addr).add i)=some u):=zH fun i u hu=>by
      rw [add_plain,Nat.zero_add,cell_of_row _ _ _ _ _ _ (heap_alloc_new _ _)]
      simpa using hu
     have HN1:Hid (∀u∈([.slice (some ⟨fb,0,none⟩) NF NF]:List Value),u.oneCell'=true):=zH fun u hu=>by
      simp only [List.mem_singleton] at hu
      rw [hu];rfl
     have HF6:Hid (∀i,i<j+1->FmX sz (chL S i) NF ((fun i=>if i=j then L else Ls i) i)):=zH fun i hi=>by
      dsimp only
      by_cases e:i=j
      ·rw [if_pos e,e];exact HFn.out
      ·rw [if_neg e];exact HFm.out i (by omega)
     clear hfs hfm ho hoA hlt hfA hge HCF HFx ct hc5 hNF1 hfb HFn HFm
     go_wp2_with (at_builtin;refine append_X _ rfl _ _ 103 rfl (but (V.alloc (.cells #[.slice (some ⟨fb,0,none⟩) NF NF] 104)) v12) 104 jr (.slice none 0 0) 24 Tryz.underlying103 hjr hj0 hj1 hj2 rfl _ _ _ rfl HON.out ⟨V.heap.size,0,none⟩ 1 1 [.slice (some ⟨fb,0,none⟩) NF NF] rfl rfl HNw.out HN1.out (by unfold maxLen;omega) (by omega) (fun q hq=>hq.1) ?_;intro a12 W6 h6 hk6 hb6;have HL6:=zH (HL.out.addA HoA.out HfA.out HfB.out HfS.out h6 hk6 hb6);have HX6:=zH ((HX.out.old HoA.out).step hk6 (fun q hq hx=>⟨hq,fun e=>hx (.inr (.inr e))⟩) (own3_12 hb6));clear h6 hk6 hb6 HON HL HX HfS HNw HN1)
     go_wp2_with fail
     go_roundw
     case rel=>exact⟨j+1,_,_,by omega,by go_num,HL6,HF6,HX6⟩
     case measure=>simp [intOf];omega
    ·obtain rfl:j=S.n:=by omega
     obtain⟨v12,rfl⟩:∃v,v=u12:=⟨_,rfl⟩
     rcases HL.out.a.shape with ⟨_,h0⟩ | ⟨g12,cap12,rfl,_,_,hc1,hc2,_⟩
     ·exfalso;omega
     have hm1:=HVl.out.m1
     have hm2:=HVl.out.m2
     have hlen:S.len=S.M 0:=by unfold Smp.len;rw [if_neg (by omega)]
     have hNFb:1<=NF/\NF<=65536:=by rw [HNF.out];unfold cnt;omega
     have qq2:(S.len+15)/16=(NF:Int):=by rw [hlen,HNF.out];unfold cnt;omega
     have qq1:wrap64 ((S.len+15).tdiv 16)=(NF:Int):=by rw [tdiv_pos _ _ (by omega),qq2,IntWalk.wrap64_in _ (by omega)]
     have hl1:1<=S.len/\S.len<=1048576:=by omega
     have HL6:Hid (LF w1 sz (mtsD Z) (k+1) d8 v9 (.slice (some ⟨g12,0,none⟩) S.n cap12) (N0+0*S.n) vs (BTo sz Z (k+1)) S.n NF al Ls wr):=zH (by rw [Nat.zero_mul,Nat.add_zero];exact HL.out)
     have HQ:=zH (And.intro qq1 qq2)
     have hend:¬((S.n:Int)<(S.n:Int)):=by omega
     clear hlen hm1 hm2 HL qq1 qq2
     go_wp2_with fail
     clear hend hc5
     go_loopw [9,16] (fun ov nv wr=>∃(bl:Nat) (vs:List Value),bl<=NF/\nv = .int .i64 bl/\Hid (LF w1 sz (mtsD Z) (k+1) d8 ov (.slice (some ⟨g12,0,none⟩) S.n cap12) (N0+bl*S.n) vs (BTo sz Z (k+1)) S.n NF al Ls wr)/\Hid (BxR (own3 d8 ov (.slice (some ⟨g12,0,none⟩) S.n cap12)) wr b3 S)) (fun _ nv _=>NF-(intOf nv).toNat)
     case atStart=>exact⟨0,_,Nat.zero_le _,by go_num,HL6,HX⟩
     case round=>
      clear HL6 HX
      obtain⟨bl,vs,hbl,rfl,HL,HX⟩:=hrel
      have z1:wr.cell? ⟨b3,1,none⟩=some (.int .i64 S.len):=(cell_of_row _ _ _ _ _ _ HX.out.blk).trans rfl
      obtain⟨qq1,qq2⟩:=HQ.out
      by_cases hbn:bl<NF
      ·have hb1:(bl:Int)<NF:=by omega
       have HL7:Hid (LF w1 sz (mtsD Z) (k+1) d8 u9 (.slice (some ⟨g12,0,none⟩) S.n cap12) (N0+bl*S.n+0) vs (BTo sz Z (k+1)) S.n NF al Ls wr):=zH HL.out
       clear HL
       go_wp2_with fail
       clear qq1 qq2 z1 hb1
       go_loopw [9,17] (fun ov cv wr=>∃(c:Nat) (vs:List Value),c<=S.n/\cv = .int .i64 c/\Hid (LF w1 sz (mtsD Z) (k+1) d8 ov (.slice (some ⟨g12,0,none⟩) S.n cap12) (N0+bl*S.n+c) vs (BTo sz Z (k+1)) S.n NF al Ls wr)/\Hid (BxR (own3 d8 ov (.slice (some ⟨g12,0,none⟩) S.n cap12)) wr b3 S)) (fun _ cv _=>S.n-(intOf cv).toNat)
       case atStart=>exact⟨0,_,Nat.zero_le _,by go_num,HL7,HX⟩
       case round=>
        clear HL7 HX
        obtain⟨c,vs,hc,rfl,HL,HX⟩:=hrel
        by_cases hcn:c<S.n
        ·obtain⟨fb,ha,hfo,hfb,hfs⟩:=HL.out.fr c hcn
         have ct:wr.cell? ⟨g12,c,none⟩=some (.slice (some ⟨fb,0,none⟩) NF NF):=by
          have:=HL.out.a.1.cells (g:=g12) rfl c _ ha
          rwa [add_plain,Nat.zero_add] at this
         obtain⟨g',o',eg,_,hrow⟩:=hfs.row bl hbn
         injection eg with eg
         injection eg with eg eo
         subst eg eo
         obtain⟨x,hx⟩:∃x,x=Ls c bl:=⟨_,rfl⟩
         rw [←hx] at hrow
         have HRow:Hid (∀q,q<29->wr.cell? ⟨fb,bl*29+q,none⟩=some (frC x.F x.s q)):=zH fun q hq=>by have:=hrow q hq;rwa [Nat.zero_add] at this
         have ht:=hfs.2 bl hbn
         rw [←hx] at ht
         have HT:=zH ht
         have HXe:=zH hx
         have c0:(0:Int)<=c:=by omega
         have c1:(c:Int)<S.n:=by omega
         have b0:(0:Int)<=bl:=by omega
         have b1:(bl:Int)<NF:=by omega
         clear ha hfo hfb hfs hrow ht hx
         have hoA:=Old.alloc wr (.cells (rowN 29 (frC x.F x.s)) 75)
         have hfr1:FrsS (fun _=>False) (wr.alloc (.cells (rowN 29 (frC x.F x.s)) 75)) (some ⟨wr.heap.size,0,none⟩) 1 (fun _=>x):=by
          refine⟨fun _=>⟨wr.heap.size,0,rfl,by simp,fun q hq=>?_⟩,fun i hi=>(HT.out.old hoA).mono fun _ _ h=>h.elim⟩
          have h1:=frsC_at (fun _=>x) 0 q (show q<29 by omega)
          rw [Nat.zero_mul,Nat.zero_add] at h1
          rw [Nat.zero_add,h1]
          exact(cell_of_row _ _ _ _ _ _ (heap_alloc_new _ _)).trans (rowN_at 29 _ q (by omega))
         have hg:=HFm.out c hcn
         have hfl:=frmL_is hg bl hbn
         unfold FmX at hg
         rw [chL_len,HVl.out.m c hcn,←HNF.out] at hg
         have hSa:∀q,-32768<=(chL S c).getD q 0/\(chL S c).getD q 0<=32768:=fun q=>by have:=samP_at (ch_samP HVl.out c hcn) q;omega
         obtain⟨m1,m2,m3⟩:=fmG_may hSa (by have:=HZ.out;omega) hg bl hbn
         rw [←HXe.out] at m1 m2 m3 hfl
         have HCB:=zH (CBytes_any b sz (some ⟨wr.heap.size,0,none⟩) 1 1 (fun _=>x) (fun _=>False) (wr.alloc (.cells (rowN 29 (frC x.F x.s)) 75)) (HCo.out _ (HL.out.old.trans hoA)) HZ.out.1 HZ.out.2 hfr1 (fun _ _=>m1) (fun _ _=>m2) (fun _ _=>m3) (by omega))
         have HFl:=zH hfl
         have HoA:=zH hoA
         have hbd:=fun w=>fr_build1 x.F x.s w
         have hbf:=fr_fold1 x.F x.s
         obtain⟨R,hR⟩:∃R,R=rowN 29 (frC x.F x.s):=⟨_,rfl⟩
         have hRs:R.size=29:=by rw [hR,rowN_size]
         rw [←hR] at hbd hbf HCB HoA
         have HR:=zH hR
         clear hoA hfr1 hg hSa m1 m2 m3 hfl hR
         go_wp2_with (with_reducible refine wpList_load_fr rfl (frC x.F x.s) 75 _ rfl fb (bl*29) rfl _ HRow.out Tryz.underlying75 rfl Hs29.out ?_;rw [←HR.out])
         refine HCB.out.mono ?_
         rintro e V ⟨v,rfl,hown,ho⟩
         have hsz:(cbytes sz (fun _=>x) 1).length=sz:=by rw [cbytes_len,Nat.one_mul]
         have hz24:=HZ.out.1
         obtain⟨gb,C,rfl,hge,hgl,hC1,hC2,hcl⟩:∃gb C,v = .slice (some ⟨gb,0,none⟩) sz C/\¬gb<(wr.alloc (.cells R 75)).heap.size/\gb<V.heap.size/\sz<=C/\C<=maxLen/\∀i,i<sz->V.cell? ⟨gb,i,none⟩=some (.int .u8 ((cbytes sz (fun _=>x) 1).getD i 0)):=by
          unfold OwnL at hown
          rcases hown.shape with ⟨_,h0⟩ | ⟨g,cap,e1,e2,e3,e4,e5,e6⟩
          ·exfalso;omega
          ·rw [hsz] at e1 e4
           refine⟨g,cap,e1,e2,e3,e4,e5,fun i hi=>e6 i _ ?_⟩
           rw [List.getElem?_map,List.getD_eq_getElem?_getD,List.getElem?_eq_getElem (by omega)]
           rfl
         have hBt:∀i,i<sz->BTo sz Z (k+1) (N0+bl*S.n+c) i=(cbytes sz (fun _=>x) 1).getD i 0:=fun i hi=>by
          have h1:=cb_at sz (fun _=>x) 1 0 i (by omega) hi
          rw [Nat.zero_mul,Nat.zero_add] at h1
          rw [h1,←HFl.out]
          show (if N0+bl*S.n+c<offTo (frD (mtsD Z)) k then BTo sz Z k (N0+bl*S.n+c) else frB sz (Z k) (N0+bl*S.n+c-offTo (frD (mtsD Z)) k)) i=_
          rw [←HN0.out,if_neg (by omega),←HSk.out,show N0+bl*S.n+c-N0=bl*S.n+c by omega]
          unfold frB
          rw [(mod_mul_add bl S.n c hcn).1,(mod_mul_add bl S.n c hcn).2]
         have o8:Old wr (V.alloc (.cells #[.slice (some ⟨gb,0,none⟩) sz C] 24)):=(HoA.out.trans ho).alloc' _
         have HO8:=zH o8
         have HON:=zH ((HL.out.o.old o8).mono (Y:=but (V.alloc (.cells #[.slice (some ⟨gb,0,none⟩) sz C] 24)) u9) fun z hz hh=>hh.2 hz)
         have HNw:Hid (∀(i:Nat) (u:Value),([.slice (some ⟨gb,0,none⟩) sz C]:List Value)[i]?=some u->(V.alloc (.cells #[.slice (some ⟨gb,0,none⟩) sz C] 24)).cell? ((⟨V.heap.size,0,none⟩:Addr).add i)=some u):=zH fun i u hu=>by
          rw [add_plain,Nat.zero_add,cell_of_row _ _ _ _ _ _ (heap_alloc_new _ _)]
          simpa using hu
         have HN1:Hid (∀u∈([.slice (some ⟨gb,0,none⟩) sz C]:List Value),u.oneCell'=true):=zH fun u hu=>by
          simp only [List.mem_singleton] at hu
          rw [hu];rfl
         have hgn:¬own3 d8 u9 (.slice (some ⟨g12,0,none⟩) S.n cap12) gb:=fun h=>by
          have h1:=HL.out.old3 gb h
          have h2:=HoA.out.size
          omega
         have HAdd:=zH (fun w3 v' hown3 hk3 hv3=>HL.out.addO (w3:=w3) (v':=v') o8 hC1 hC2 hgn (Nat.lt_of_lt_of_le hgl (Old.alloc V _).size) (fun i hi=>by rw [Nat.zero_add,hBt i hi];exact((Old.alloc V _).cell (a:=⟨gb,i,none⟩) hgl).trans (hcl i hi)) hown3 hk3 hv3)
         have hbd2:N0+bl*S.n+c+1<=16777216:=by
          have h1:bl*S.n<=65536*2:=Nat.mul_le_mul (by omega) (by omega)
          have h2:N0<=8388608:=by
           rw [HN0.out]
           exact off_bd (n:=n) (fun i hi=>(HV.out i hi).ok.fr_le.2) k hk (by omega)
          omega
         clear hown ho hge hgl hcl hBt o8 hgn hbd hbf HCB HoA hC1 hC2 hsz
         go_wp2_with (at_builtin;refine append_X _ rfl _ _ 31 rfl (but (V.alloc (.cells #[.slice (some ⟨gb,0,none⟩) sz C] 24)) u9) 24 br (.slice none 0 0) 24 Tryz.underlying31 hbr hb0 hb1 hb2 rfl _ _ _ rfl HON.out ⟨V.heap.size,0,none⟩ 1 1 [.slice (some ⟨gb,0,none⟩) sz C] rfl rfl HNw.out HN1.out (by unfold maxLen;omega) (by omega) (fun q hq=>hq.1) ?_;intro a9 W9 h9 hk9 hb9;have HL9:=zH (HAdd.out W9 a9 h9 hk9 hb9);have HX9:=zH ((HX.out.old HO8.out).step hk9 (fun q hq hx=>⟨hq,fun e=>hx (.inr (.inl e))⟩) (own3_9 hb9));clear h9 hk9 hb9 HON HL HX HNw HN1 HAdd)
         go_wp2_with fail
         go_roundw
         case rel=>exact⟨c+1,_,by omega,by go_num,HL9,HX9⟩
         case measure=>simp [intOf];omega
        ·obtain rfl:c=S.n:=by omega
         have c1:¬((S.n:Int)<(S.n:Int)):=by omega
         have e:N0+bl*S.n+S.n=N0+(bl+1)*S.n:=by rw [Nat.add_mul,Nat.one_mul];omega
         have HE:Hid (LF w1 sz (mtsD Z) (k+1) d8 u9 (.slice (some ⟨g12,0,none⟩) S.n cap12) (N0+(bl+1)*S.n) vs (BTo sz Z (k+1)) S.n NF al Ls wr):=zH (by rw [←e];exact HL.out)
         clear HL e
         go_wp2_with fail
         go_roundw
         case rel=>exact⟨bl+1,_,by omega,by go_num,HE,HX⟩
         case measure=>simp [intOf];omega
      ·obtain rfl:bl=NF:=by omega
       have hb1:¬((bl:Int)<(bl:Int)):=by omega
       have HE:Hid (LF w1 sz (mtsD Z) (k+1) d8 u9 (.slice none 0 0) (offTo (frD (mtsD Z)) (k+1)) vs (BTo sz Z (k+1)) 0 0 [] (fun _ _=>zeroFr) wr):=zH (by
        have h1:=HL.out.fresh 0 (fun _ _=>zeroFr)
        have h2:offTo (frD (mtsD Z)) (k+1)=N0+bl*S.n:=by
         show offTo (frD (mtsD Z)) k+frD (mtsD Z) k=_
         rw [←HN0.out]
         congr 1
         show (smM (Z k)).fr=_
         rw [←HSk.out,smM_fr HVl.out,←HNF.out]
        rw [h2]
        exact h1)
       clear HL HX
       go_wp2_with fail
       go_roundw
       case rel=>exact⟨k+1,_,by omega,by go_num,HE⟩
       case measure=>simp [intOf];omega
  ·obtain rfl:k=n:=by omega
   obtain⟨v8,rfl⟩:∃v,v=u8:=⟨_,rfl⟩
   obtain⟨v9,rfl⟩:∃v,v=u9:=⟨_,rfl⟩
   obtain⟨q8,c8,rfl,_,hms⟩:=ownS_mts HL.out.d (fun i hi=>by
    have:=(HV.out i hi).ok.name.1.2
    show (smM (Z i)).s.size<=_
    omega)
   obtain⟨fp,fc,Q,C,rfl,hrw⟩:=pkRows (HL.out.pk.pkV (v:=v9) fun q hq=>.inr (.inl hq)) HL.out.o (fun j _=>BTo_byt sz Z k j)
   have HE:=zH (And.intro hms (And.intro hrw (HO1.out.trans HL.out.old)))
   have hend:¬((k:Int)<(k:Int)):=by omega
   clear hms hrw HL
   go_wp2_with fail
   go_ret2
   exact⟨_,_,_,_,_,_,rfl,HE.out.1,HE.out.2.1,HE.out.2.2⟩
end Go.Proofs.YtjakgghbdojlbaaGreatDoor
