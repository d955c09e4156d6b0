/- Texts joined: RowK, WaveC, WaveD, SampK, LapD, LapE, GainU, LapF, LapH, FewS. -/
import Derived.Deep.RegionHeld
import Derived.Test.YtgefdmfcddpaiaaGreatDoorPkAB
import Derived.Test.YtgefdmfcddpaiaaGreatDoorPkAC
import Derived.Test.YtgefdmfcddpaiaaGreatDoorPkAD
import Derived.Test.YtgefdmfcddpaiaaGreatDoorTk
namespace Go.Proofs.YtgefdmfcddpaiaaGreatDoor
set_option linter.unusedVariables false
set_option maxRecDepth 100000
open Go.RowKit Go.ChangeShapes Go.WideShapes
theorem row_ret{t:TypeId}{w W:World}{b:Nat}{z:Array Value}(h:W.heap[b]?=some (.cells z t (0,0)))(ho:Old w W)(hb:w.heap.size<=b)(cs:Array Value):(W.setRow b cs).heap[b]?=some (.cells cs t (0,0))/\Old w (W.setRow b cs):=
 ⟨setRow_heap _ _ _ _ _ _ h,ho.after (X:=fun k=>k<w.heap.size) ⟨rfl,rfl,by simp,fun k hk=>setRow_other _ _ _ _ (by omega)⟩ fun _ h=>h⟩
theorem yieldsIf_build{P:Program}{ops:Array Oper}{S:World->Prop}{op:Oper}{a:Act}(hw:Region.wanted op (yielded ops a.tmps)=true)(t:TypeId)(parts:Array (Nat × Operand))(ho:op.op = .build t parts)(ps:List (Nat × Value))(cells:Array Value)
  (hp:(parts.map fun x=>(x.1,a.eval x.2)).toList=ps) (hr:P.built t ps=some cells):YieldsIf P ops S op (.agg cells) a:=
 .inl ⟨hw,fun w _=>by
  unfold execOp
  simp only [ho,Sem.run_bind,run_build w t _ cells (by rw [hp];exact hr),Result.andThen_ok,Sem.run_pure]⟩
theorem wpList_build_w{P:Program}{ops:Array Oper}{rest:List Oper}{o:Oper}{a:Act}{w:World}{Q:Exit->Act->World->Prop}(hw:Region.wanted o (yielded ops a.tmps)=true)(t:TypeId)(parts:Array (Nat × Operand))(ho:o.op = .build t parts)(ps:List (Nat × Value))(cells:Array Value)
  (hp:(parts.map fun x=>(x.1,a.eval x.2)).toList=ps) (hr:P.built t ps=some cells) (h:wpList P ops Q rest (a.put o.dst (.agg cells)) w):wpList P ops Q (o :: rest) a w:=
 wpList_step fun K hK=>by
  rw [if_pos hw]
  unfold Oper.wp execOp
  simp only [ho,Sem.run_bind,run_build w t _ cells (by rw [hp];exact hr),Result.andThen_ok]
  exact hK _ _ h
theorem results_row_tmp{P:Program}{fn:Func}{p u:Tmp}{ty:TypeId}(h:fn.results=#[.cell p ty,.tmp u])(tmps:Array Value)(w:World)(g:Nat)(t:TypeId)(cs:Array Value)(fr:Nat × Nat)(d:TypeDesc)
  (hp:tmps.getD p undef = .pointer (some ⟨g,0,none⟩)) (hg:w.heap[g]?=some (.cells cs t fr))
  (hu:P.underlying ty=some d) (hd:(match d with | .struct _ | .array _ _=>true | _=>false)=true) (hi:(P.info? ty).map (·.size)=some cs.size):
  (results fn tmps).run P w = .ok (.tuple #[.agg cs,tmps.getD u undef]) w:=by
 rw [results_cell_tmp h,hp]
 simp [asAddr,run_loadVar_row w g t ty cs fr d hg hu hd hi]
set_option linter.unusedSimpArgs false
def metaC(s:ByteArray)(n r c:Int)(lp:Bool)(a b:Int):Array Value:=#[.string s,.int .i64 n,.int .i64 r,.int .i64 c,.bool lp,.int .i64 a,.int .i64 b,.int .i64 0,.int .i64 0]
theorem meta_built(s:ByteArray)(n r c:Int)(lp:Bool)(a b:Int):Tryz.prog.built 85 [(0,.string s),(1,.int .i64 n),(2,.int .i64 r),(3,.int .i64 c),(4,.bool lp),(5,.int .i64 a),(6,.int .i64 b)]=some (metaC s n r c lp a b):=by kernel_rfl
theorem Smp.size(S:Smp):S.cells.size=6:=rfl
theorem metaC_size(s:ByteArray)(n r c:Int)(lp:Bool)(a b:Int):(metaC s n r c lp a b).size=9:=rfl
theorem metaC_one(s:ByteArray)(n r c:Int)(lp:Bool)(a b:Int):(metaC s n r c lp a b).all (·.oneCell')=true:=by kernel_rfl
set_option maxHeartbeats 2000000 in
theorem Meta_any(S:Smp)(w:World)(hs:SmOk w S):
  Calls Tryz.prog 33 #[S.val] w fun e w'=>e = .returned (.agg (metaC S.s S.len S.r S.n S.lp S.a S.b))/\Old w w':=by
 have Hs6:Hid ((Tryz.prog.info? 90).map (·.size)=some 6):=zH (by kernel_rfl)
 have Hs9:Hid ((Tryz.prog.info? 85).map (·.size)=some 9):=zH (by kernel_rfl)
 obtain⟨W0,hW0⟩:∃W0,W0=((w.alloc (.cells S.cells 90)).alloc (.cells (metaC ⟨#[]⟩ 0 0 0 false 0 0) 85)):=⟨_,rfl⟩
 have ho:Old w W0:=by rw [hW0];exact(Old.alloc w _).alloc' _
 have hb:SmB W0 w.heap.size S:=by rw [hW0];exact(SmB.new w S).old (Old.alloc _ _)
 have hr:W0.heap[w.heap.size+1]?=some (.cells (metaC ⟨#[]⟩ 0 0 0 false 0 0) 85 (0,0)):=by rw [hW0];exact heap_alloc2_new w _ _
 have HO:=zH ho
 have HB:=zH hb
 have HR:=zH hr
 unfold metaC at hW0
 have HW:=zH hW0
 have HL:=zH (fun W (k:Old w W)=>Length_any S W (hs.old k))
 have HBd:=zH (meta_built S.s S.len S.r S.n S.lp S.a S.b)
 have HK:Hid (∀W,Old W0 W->(W.heap[w.heap.size]?=some (.cells S.cells 90 (0,0))/\W.cell? ⟨w.heap.size,0,none⟩=some (.string S.s)/\W.cell? ⟨w.heap.size,1,none⟩=some (.int .i64 S.r)/\W.cell? ⟨w.heap.size,2,none⟩=some (.bool S.lp)/\W.cell? ⟨w.heap.size,3,none⟩=some (.int .i64 S.a)/\W.cell? ⟨w.heap.size,4,none⟩=some (.int .i64 S.b)/\W.cell? ⟨w.heap.size,5,none⟩=some (.slice S.p S.n S.c))):=zH fun W k=>⟨hb.old k,(hb.old k).at⟩
 obtain⟨M,hM⟩:∃M,M=metaC S.s S.len S.r S.n S.lp S.a S.b:=⟨_,rfl⟩
 have H9:Hid (M.all (·.oneCell')=true):=zH (by rw [hM];exact metaC_one _ _ _ _ _ _ _)
 have HM9:Hid (M.size=9):=zH (by rw [hM];rfl)
 rw [←hM] at HBd ⊢
 unfold Smp.val
 clear hM ho hb hr hW0 hs
 go_enter Tryz.func33,Tryz.ntmps33
 go_wp2_with fail
 rw [←HW.out]
 clear HW
 refine wp_region_held_drew (S:=(fun W=>W.heap[w.heap.size]?=some (.cells S.cells 90 (0,0))/\W.cell? ⟨w.heap.size,0,none⟩=some (.string S.s)/\W.cell? ⟨w.heap.size,1,none⟩=some (.int .i64 S.r)/\W.cell? ⟨w.heap.size,2,none⟩=some (.bool S.lp)/\W.cell? ⟨w.heap.size,3,none⟩=some (.int .i64 S.a)/\W.cell? ⟨w.heap.size,4,none⟩=some (.int .i64 S.b)/\W.cell? ⟨w.heap.size,5,none⟩=some (.slice S.p S.n S.c))) (by kernel_rfl) ?_ (fun hHeld=>?_)
 ·(try dsimp only);exact HK.out _ ((Old.refl W0).drew)
 refine wpU 0 rfl ?_;try simp only [Act.put,sA,sZ,sS]
 refine wpU 1 rfl ?_;try simp only [Act.put,sA,sZ,sS]
 refine wpT 2 (v:=.agg S.cells) rfl (yieldsIf_load_row (by kernel_rfl) 90 (.tmp 1) rfl w.heap.size rfl 90 S.cells (0,0) _ (fun _ h=>h.1) Tryz.underlying90 rfl (by rw [S.size];exact Hs6.out)) (by assumption) ?_;try simp only [Act.put,sA,sZ,sS]
 refine wpU 4 rfl ?_;try simp only [Act.put,sA,sZ,sS]
 refine wpU 5 rfl ?_;try simp only [Act.put,sA,sZ,sS]
 refine wpU 6 rfl ?_;try simp only [Act.put,sA,sZ,sS]
 refine wpU 7 rfl ?_;try simp only [Act.put,sA,sZ,sS]
 refine wpU 8 rfl ?_;try simp only [Act.put,sA,sZ,sS]
 refine wpU 9 rfl ?_;try simp only [Act.put,sA,sZ,sS]
 refine wpU 10 rfl ?_;try simp only [Act.put,sA,sZ,sS]
 refine wpU 11 rfl ?_;try simp only [Act.put,sA,sZ,sS]
 refine wpU 12 rfl ?_;try simp only [Act.put,sA,sZ,sS]
 refine wpU 13 rfl ?_;try simp only [Act.put,sA,sZ,sS]
 refine wpU 14 rfl ?_;try simp only [Act.put,sA,sZ,sS]
 refine wpR 3 rfl (fun K hK=>?_)
 go_simp
 refine(HL.out _ (HO.out.drew)).mono ?_
 rintro e V1 ⟨rfl,o1'⟩
 have o1:=((Old.refl W0).drew).trans o1'
 clear o1'
 have HK1:=zH (HK.out _ o1)
 have HO1:=zH (HO.out.trans o1)
 have HR1:=zH ((o1.block _ (lt_of_block HR.out)).trans HR.out)
 clear HO HR HK HL o1
 go_wp2_with fail
 refine hK.out _ _ ?_ (fun hHeld=>?_)
 ·(try dsimp only);exact HK1.out
 clear hK K
 try simp only [Act.put,sA,sZ,sS]
 refine wpT 15 (v:=.agg M) rfl (yieldsIf_build (by kernel_rfl) 85 _ rfl [(0,.string S.s),(1,.int .i64 S.len),(2,.int .i64 S.r),(3,.int .i64 S.n),(4,.bool S.lp),(5,.int .i64 S.a),(6,.int .i64 S.b)] _ (by kernel_rfl) HBd.out) (by assumption) ?_;try simp only [Act.put,sA,sZ,sS]
 have hr:=row_ret HR1.out HO1.out (by omega) M
 have HRt:=zH hr
 have HK2:Hid ((V1.setRow (w.heap.size+1) M).heap[w.heap.size]?=some (.cells S.cells 90 (0,0))/\(V1.setRow (w.heap.size+1) M).cell? ⟨w.heap.size,0,none⟩=some (.string S.s)/\(V1.setRow (w.heap.size+1) M).cell? ⟨w.heap.size,1,none⟩=some (.int .i64 S.r)/\(V1.setRow (w.heap.size+1) M).cell? ⟨w.heap.size,2,none⟩=some (.bool S.lp)/\(V1.setRow (w.heap.size+1) M).cell? ⟨w.heap.size,3,none⟩=some (.int .i64 S.a)/\(V1.setRow (w.heap.size+1) M).cell? ⟨w.heap.size,4,none⟩=some (.int .i64 S.b)/\(V1.setRow (w.heap.size+1) M).cell? ⟨w.heap.size,5,none⟩=some (.slice S.p S.n S.c)):=zH (by
  have hb:SmB (V1.setRow (w.heap.size+1) M) w.heap.size S:=(setRow_other _ _ _ _ (by omega)).trans HK1.out.1
  exact⟨hb,hb.at⟩)
 clear hr
 refine wpR 16 rfl (fun K hK=>?_)
 rw [if_pos (by kernel_rfl)]
 with_reducible refine wp_store_row 85 _ _ rfl (w.heap.size+1) M rfl rfl 85 _ HR1.out (by rw [HM9.out];exact Hs9.out) (by rw [HM9.out,metaC_size]) H9.out ?_
 refine hK.out _ _ ?_ (fun hHeld=>?_)
 ·(try dsimp only);exact HK2.out
 clear hK K
 try simp only [Act.put,sA,sZ,sS]
 refine wpAnyH_done (by kernel_rfl) ?_ _
 go_wp2_with fail
 exact bodyPost_ret (results_cell_row rfl _ _ (w.heap.size+1) 85 M (0,0) _ rfl HRt.out.1 Tryz.underlying85 rfl (by rw [HM9.out];exact Hs9.out)) rfl ⟨rfl,HRt.out.2⟩
def beyB(v:Int):Bool:=decide (v < -32768\/32767<v)
theorem farP_iff(n:Nat)(F:Nat->Int):farP n F↔∃i,i<n/\beyB (F i)=true:=by unfold farP beyB;simp only [decide_eq_true_eq]
def RdRow(w:World)(p:Option Addr)(n:Nat)(X:Nat->Int):Prop:=0<n->∃g o,p=some ⟨g,o,none⟩/\g<w.heap.size/\∀j,j<n->w.cell? ⟨g,o+j,none⟩=some (.int .i64 (X j))
theorem RdRow.old{w w':World}{p:Option Addr}{n:Nat}{X:Nat->Int}(h:RdRow w p n X)(k:Old w w'):RdRow w' p n X:=fun hn=>by
 obtain⟨g,o,h1,h2,h3⟩:=h hn
 exact⟨g,o,h1,Nat.lt_of_lt_of_le h2 k.size,fun j hj=>(k.cell (a:=⟨g,o+j,none⟩) h2).trans (h3 j hj)⟩
theorem isBeyond_any(v:Int)(w:World):Calls Tryz.prog 146 #[.int .i64 v] w fun e w'=>e = .returned (.bool (beyB v))/\w=w':=by
 have HE:=zH (show (decide (v < -32768) || decide (32767<v))=beyB v by unfold beyB;simp)
 go_enter Tryz.func146,Tryz.ntmps146
 go_wp2_with fail
 all_goals
  go_ret
  refine⟨ret_bool (Eq.trans ?_ HE.out),rfl⟩
  first | (have c1:decide (v < -32768)=true:=decide_eq_true (by assumption);simp [c1]) | (have c1:decide (v < -32768)=false:=decide_eq_false (by omega);simp [c1])
set_option maxHeartbeats 1000000 in
theorem IndexBeyond_any(p:Option Addr)(n cap:Nat)(X:Nat->Int)(w:World)(h:RdRow w p n X)(hn:n<=9223372036854775807):
  Calls Tryz.prog 182 #[.slice p n cap,.func (.func 146) #[] #[]] w fun e w'=>(∃i:Int,e = .returned (.int .i64 i)/\((0<=i/\farP n X)\/(i = -1/\¬farP n X)))/\w=w':=by
 have HB:=zH (fun v w=>isBeyond_any v w)
 have HP:=zH (farP_iff n X)
 have H:=zH h
 clear h
 go_enter Tryz.func182,Tryz.ntmps182
 go_wp2_with fail
 go_loop [8] (fun i=>∃k:Nat,k<=n/\i = .int .i64 k/\Hid (∀j,j<k->beyB (X j)=false)) (fun i=>n-(intOf i).toNat)
 case atStart=>exact⟨0,by omega,rfl,zH fun j hj=>by omega⟩
 case round=>
  obtain⟨k,hk,rfl,HJ⟩:=hrel
  by_cases hkn:k<n
  ·obtain⟨g,o,rfl,hg,hc⟩:=H.out (by omega)
   have ck:=hc k hkn
   clear hc hg
   go_wp2_with fail
   refine(HB.out _ _).mono ?_
   rintro e w1 ⟨rfl,rfl⟩
   cases hb:beyB (X k)
   ·have HJ2:=zH (show ∀j,j<k+1->beyB (X j)=false from fun j hj=>by
     by_cases e:j=k
     ·subst e;exact hb
     ·exact HJ.out j (by omega))
    clear HJ hb ck
    go_wp2_with fail
    go_round
    case rel=>exact⟨k+1,by omega,by go_num,HJ2⟩
    case measure=>simp [intOf];omega
   ·have hf:=HP.out.2 ⟨k,hkn,hb⟩
    have HF:=zH hf
    clear HJ hb ck hf
    go_wp2_with fail
    go_ret
    exact⟨⟨k,rfl,.inl ⟨by omega,HF.out⟩⟩,rfl⟩
  ·have hf:¬farP n X:=fun h=>by
    obtain⟨j,h1,h2⟩:=HP.out.1 h
    rw [HJ.out j (by omega)] at h2
    cases h2
   have HF:=zH hf
   clear HJ hf
   go_wp2_with fail
   go_ret
   exact⟨⟨-1,rfl,.inr ⟨rfl,HF.out⟩⟩,rfl⟩
theorem ContainsBeyond_any(p:Option Addr)(n cap:Nat)(X:Nat->Int)(w:World)(h:RdRow w p n X)(hn:n<=9223372036854775807):
  Calls Tryz.prog 145 #[.slice p n cap,.func (.func 146) #[] #[]] w fun e w'=>(∃b,e = .returned (.bool b)/\(b=true↔farP n X))/\w=w':=by
 have HI:=zH (IndexBeyond_any p n cap X w h hn)
 clear h
 go_enter Tryz.func145,Tryz.ntmps145
 go_wp2_with fail
 refine HI.out.mono ?_
 rintro e w1 ⟨⟨i,rfl,hi⟩,rfl⟩
 have H:=zH hi
 rcases hi with ⟨hi,hf⟩ | ⟨hi,hf⟩
 ·have d:decide (0<=i)=true:=decide_eq_true hi
  have Hhi:=zH hi
  clear hi hf HI
  go_wp2_with fail
  go_ret
  have hi:=Hhi.out
  refine⟨⟨true,rfl,?_⟩,rfl⟩
  rcases H.out with h | h
  ·simp [h.2]
  ·omega
 ·subst hi
  clear hf HI
  go_wp2_with fail
  go_ret
  refine⟨⟨false,rfl,?_⟩,rfl⟩
  rcases H.out with h | h
  ·omega
  ·simp [h.2]
theorem SmOk.row{w:World}{S:Smp}(h:SmOk w S)(i:Nat)(hi:i<S.n):RdRow w (S.Q i) (S.M i) (S.X i):=(h.rows.row i hi).2.2
theorem wrongI_ok{s:ByteArray}{n r c:Int}{lp:Bool}{a b:Int}(h:wrongI s n r c lp a b=0):nameB s=true/\(1<=r/\r<=192000)/\(1<=c/\c<=2)/\(1<=n/\n<=1048576)/\loopP lp a b n:=by
 unfold wrongI at h
 cases hn:nameB s
 ·rw [hn,if_pos rfl] at h;omega
 rw [hn,if_neg (by simp)] at h
 by_cases h1:r<1\/192000<r
 ·rw [if_pos h1] at h;omega
 rw [if_neg h1] at h
 by_cases h2:(c<1\/2<c)\/n<1\/1048576<n
 ·rw [if_pos h2] at h;omega
 rw [if_neg h2] at h
 by_cases h3:loopP lp a b n
 ·exact⟨rfl,by omega,by omega,by omega,h3⟩
 ·rw [if_neg h3] at h;omega
theorem Smp.check_wrong{S:Smp}(h:wrongI S.s S.len S.r S.n S.lp S.a S.b≠0):S.check=wrongI S.s S.len S.r S.n S.lp S.a S.b:=by unfold Smp.check;rw [if_pos h]
theorem Smp.check_odd{S:Smp}(h:wrongI S.s S.len S.r S.n S.lp S.a S.b=0)(h2:S.odd):S.check=12:=by unfold Smp.check;rw [if_neg (by omega),if_pos h2]
theorem Smp.check_far{S:Smp}(h:wrongI S.s S.len S.r S.n S.lp S.a S.b=0)(h2:¬S.odd)(h3:S.far):S.check=5:=by unfold Smp.check;rw [if_neg (by omega),if_neg h2,if_pos h3]
theorem Smp.check_ok{S:Smp}(h:wrongI S.s S.len S.r S.n S.lp S.a S.b=0)(h2:¬S.odd)(h3:¬S.far):S.check=0:=by unfold Smp.check;rw [if_neg (by omega),if_neg h2,if_neg h3]
set_option maxHeartbeats 4000000 in
theorem Check_any(S:Smp)(w:World)(hs:SmOk w S):
  Calls Tryz.prog 105 #[S.val] w fun e w'=>e = .returned (.int .i64 S.check)/\Old w w':=by
 have HO:=zH (Old.alloc w (.cells S.cells 90))
 have HB:=zH (SmB.new w S)
 obtain⟨c0,c1,c2,c3,c4,c5⟩:=(SmB.new w S).at
 have HOK:=zH hs
 have HM:=zH (Meta_any S (w.alloc (.cells S.cells 90)) (hs.old (Old.alloc _ _)))
 have HWr:Hid (∀w,Calls Tryz.prog 144 #[.agg (metaC S.s S.len S.r S.n S.lp S.a S.b)] w fun e w'=>e = .returned (.int .i64 (wrongI S.s S.len S.r S.n S.lp S.a S.b))/\Old w w'):=zH (fun w=>wrong_any S.s S.len S.r S.n S.lp S.a S.b 0 0 w hs.size)
 unfold Smp.val
 clear hs
 go_enter Tryz.func105,Tryz.ntmps105
 go_wp2_with fail
 refine HM.out.mono ?_
 rintro e w1 ⟨rfl,ho1⟩
 have HO1:=zH (HO.out.trans ho1)
 have HB1:=zH (HB.out.old ho1)
 clear HO HB HM ho1 c0 c1 c2 c3 c4 c5
 unfold metaC at *
 go_wp2_with fail
 refine(HWr.out _).mono ?_
 rintro e w2 ⟨rfl,ho2⟩
 obtain⟨M,hM⟩:∃M:Array Value,M=#[.string S.s,.int .i64 S.len,.int .i64 S.r,.int .i64 S.n,.bool S.lp,.int .i64 S.a,.int .i64 S.b,.int .i64 0,.int .i64 0]:=⟨_,rfl⟩
 have HM1:Hid (M[1]?=some (.int .i64 S.len)):=zH (by rw [hM];rfl)
 rw [←hM] at ho2
 clear hM
 have hg:=lt_of_block HB1.out
 have cl:w2.cell? ⟨w1.heap.size,1,none⟩=some (.int .i64 S.len):=by
  have h1:(w1.alloc (.cells M 85)).heap[w1.heap.size]?=some (.cells M 85 (0,0)):=heap_alloc_new _ _
  exact(cell_of_row _ _ _ _ _ _ ((ho2.block _ (lt_of_block h1)).trans h1)).trans HM1.out
 have o12:=(Old.alloc w1 (.cells M 85)).trans ho2
 have HO2:=zH (HO1.out.trans o12)
 obtain⟨_,_,_,_,_,c5⟩:=(HB1.out.old o12).at
 have HOK2:=zH (HOK.out.old HO2.out)
 clear HO1 HB1 HWr ho2 o12 HM1 hg HOK
 obtain⟨v,hv⟩:∃v,v=wrongI S.s S.len S.r S.n S.lp S.a S.b:=⟨_,rfl⟩
 rw [←hv]
 generalize w1.heap.size=mb at *
 by_cases h0:v=0
 case neg=>
  have hc:=Smp.check_wrong (S:=S) (by rw [←hv];exact h0)
  rw [←hv] at hc
  have q:(v != 0)=true:=by simpa using h0
  have HC:=zH hc
  clear hc hv h0 HOK2 cl c5
  go_wp2_with fail
  go_ret
  exact⟨ret_int HC.out.symm,HO2.out⟩
 rw [h0] at hv
 subst h0
 have HV:=zH hv.symm
 have hok:=wrongI_ok hv.symm
 have hn1:1<=S.n:=by have:=hok.2.2.1;omega
 have hn2:S.n<=2:=by have:=hok.2.2.1;omega
 have hl:S.len=(S.M 0:Int):=by unfold Smp.len;rw [if_neg (by omega)]
 obtain⟨g,o,hp,hg,hc⟩:=HOK2.out.rows.cell (by omega)
 obtain⟨n,hn⟩:∃n,n=S.n:=⟨_,rfl⟩
 have HC:Hid (∀i,i<n->w2.cell? ⟨g,o+i,none⟩=some (.slice (S.Q i) (S.M i) (S.C i))):=zH (by rw [hn];exact hc)
 rw [hp,←hn] at c5
 rw [←hn] at hn1 hn2
 have HN:=zH hn
 clear hn
 rw [hl] at cl
 clear hv hok hl hc hp
 generalize S.c=cap at *
 go_wp2_with fail
 go_loop [19] (fun i=>∃k:Nat,k<=n/\i = .int .i64 k/\Hid (∀j,j<k->S.M j=S.M 0)) (fun i=>n-(intOf i).toNat)
 case atStart=>exact⟨0,by omega,rfl,zH fun j hj=>by omega⟩
 case round=>
  obtain⟨k,hk,rfl,HJ⟩:=hrel
  by_cases hkn:k<n
  ·have ck:=HC.out k hkn
   by_cases hm:S.M k=S.M 0
   ·have HJ2:=zH (show ∀j,j<k+1->S.M j=S.M 0 from fun j hj=>by
     by_cases e:j=k
     ·subst e;exact hm
     ·exact HJ.out j (by omega))
    have q:((S.M k:Int) != (S.M 0:Int))=false:=by rw [hm];simp
    clear HJ hm
    go_wp2_with fail
    go_round
    case rel=>exact⟨k+1,by omega,by go_num,HJ2⟩
    case measure=>simp [intOf];omega
   ·have q:((S.M k:Int) != (S.M 0:Int))=true:=by simp only [bne_iff_ne,ne_eq];omega
    have hck:=Smp.check_odd HV.out ⟨k,by have:=HN.out;omega,hm⟩
    have HCK:=zH hck
    clear HJ hm hck
    go_wp2_with fail
    go_ret
    exact⟨ret_int HCK.out.symm,HO2.out⟩
  ·have hodd:¬S.odd:=fun⟨j,h1,h2⟩=>h2 (HJ.out j (by have:=HN.out;omega))
   have HODD:=zH hodd
   obtain rfl:k=n:=by omega
   clear HJ hodd cl hkn hk
   go_wp2_with fail
   go_loop [32] (fun i=>∃j:Nat,j<=k/\i = .int .i64 j/\Hid (∀m,m<j->¬farP (S.M m) (S.X m))) (fun i=>k-(intOf i).toNat)
   case atStart=>exact⟨0,by omega,rfl,zH fun j hj=>by omega⟩
   case round=>
    obtain⟨j,hj,rfl,HJ⟩:=hrel
    by_cases hjn:j<k
    ·have ck:=HC.out j hjn
     have hr:=HOK2.out.row j (by have:=HN.out;omega)
     have hrr:=HOK2.out.rows.row j (by have:=HN.out;omega)
     have HF:=zH (ContainsBeyond_any (S.Q j) (S.M j) (S.C j) (S.X j) w2 hr (by have:=hrr.1;have:=hrr.2.1;unfold maxLen at *;omega))
     clear hr hrr
     go_wp2_with fail
     refine HF.out.mono ?_
     rintro e w3 ⟨⟨b,rfl,hbf⟩,rfl⟩
     clear HF
     cases b
     ·have HJ2:=zH (show ∀m,m<j+1->¬farP (S.M m) (S.X m) from fun m hm=>by
       by_cases e:m=j
       ·subst e;exact fun h=>by have:=hbf.2 h;cases this
       ·exact HJ.out m (by omega))
      clear HJ hbf
      go_wp2_with fail
      go_round
      case rel=>exact⟨j+1,by omega,by go_num,HJ2⟩
      case measure=>simp [intOf];omega
     ·have hck:=Smp.check_far HV.out HODD.out ⟨j,by have:=HN.out;omega,hbf.1 rfl⟩
      have HCK:=zH hck
      clear HJ hbf hck
      go_wp2_with fail
      go_ret
      exact⟨ret_int HCK.out.symm,HO2.out⟩
    ·have hck:=Smp.check_ok HV.out HODD.out fun⟨m,h1,h2⟩=>HJ.out m (by have:=HN.out;omega) h2
     have HCK:=zH hck
     clear HJ hck
     go_wp2_with fail
     go_ret
     exact⟨ret_int HCK.out.symm,HO2.out⟩
def Smp.named(S:Smp)(s:ByteArray):Smp:={ S with s:=s }
def Smp.rowed(S:Smp)(p:Option Addr)(n c:Nat)(M:Nat->Nat):Smp:={ S with p:=p,n:=n,c:=c,M:=M }
def Smp.celled(S:Smp)(p:Option Addr)(c:Nat)(Q:Nat->Option Addr)(C:Nat->Nat):Smp:={ S with p:=p,c:=c,Q:=Q,C:=C }
structure FewSt(w W:World)(S:Smp)(z:Array Value):Prop where
 b:SmB W w.heap.size S
 r:W.heap[w.heap.size+1]?=some (.cells z 90 (0,0))
 old:Old w W
theorem FewSt.kept{w W W':World}{S:Smp}{z:Array Value}(h:FewSt w W S z)(k:Kept (fun q=>q<w.heap.size+2) W W'):FewSt w W' S z:=
 ⟨(k.block _ (by omega)).trans h.b,(k.block _ (by omega)).trans h.r,h.old.after k (fun _ _=>by omega)⟩
theorem FewSt.lt{w W:World}{S:Smp}{z:Array Value}(h:FewSt w W S z):w.heap.size+2<=W.heap.size:=lt_of_block h.r
theorem FewSt.named{w W:World}{S:Smp}{z:Array Value}(h:FewSt w W S z)(s:ByteArray):FewSt w (W.setCell ⟨w.heap.size,0,none⟩ (.string s)) (S.named s) z:=
 ⟨heap_setCell_same _ _ _ _ _ _ h.b,(heap_setCell_other _ _ _ _ (by simp)).trans h.r,h.old.after (X:=fun k=>k<w.heap.size) (Kept.setCell _ (a:=⟨w.heap.size,0,none⟩) (by simp) _) fun _ h=>h⟩
theorem FewSt.rowed{w W:World}{S:Smp}{z:Array Value}(h:FewSt w W S z)(p:Option Addr)(n c:Nat)(M:Nat->Nat):FewSt w (W.setCell ⟨w.heap.size,5,none⟩ (.slice p n c)) (S.rowed p n c M) z:=
 ⟨heap_setCell_same _ _ _ _ _ _ h.b,(heap_setCell_other _ _ _ _ (by simp)).trans h.r,h.old.after (X:=fun k=>k<w.heap.size) (Kept.setCell _ (a:=⟨w.heap.size,5,none⟩) (by simp) _) fun _ h=>h⟩
theorem FewSt.celled{w W:World}{S:Smp}{z:Array Value}(h:FewSt w W S z)(p:Option Addr)(c:Nat)(Q:Nat->Option Addr)(C:Nat->Nat):FewSt w (W.setCell ⟨w.heap.size,5,none⟩ (.slice p S.n c)) (S.celled p c Q C) z:=
 ⟨heap_setCell_same _ _ _ _ _ _ h.b,(heap_setCell_other _ _ _ _ (by simp)).trans h.r,h.old.after (X:=fun k=>k<w.heap.size) (Kept.setCell _ (a:=⟨w.heap.size,5,none⟩) (by simp) _) fun _ h=>h⟩
def metA(wa:Int->Int->Int->Int->Int)(fa fb:Nat->Int):Nat->Int:=fun k=>wa (fa k) (fb k) (turnP k) (turnU k)
def upto(n:Nat)(f g:Nat->Int):Nat->Int:=fun k=>if k<n then f k else g k
def from_(n:Nat)(f g:Nat->Int):Nat->Int:=fun k=>if k<n then g k else f k
theorem upto_zero(f g:Nat->Int):upto 0 f g=g:=by funext k;unfold upto;rw [if_neg (by omega)]
theorem from_eight(f g:Nat->Int)(k:Nat)(h:k<8):from_ 8 f g k=g k:=by unfold from_;rw [if_pos h]
structure PT(X:Nat->Prop)(w:World)(bt tt ga gb m ob:Nat)(F fa' fb':Nat->Int)(W:World):Prop where
 a:CellsAt W ga 8 fa'
 b:CellsAt W gb m (patch F ob 8 fb')
 t:W.heap[bt]?=some (.cells T8 tt (0,0))
 k:Kept X w W
theorem PT.ext{X:Nat->Prop}{w:World}{bt tt ga gb m ob:Nat}{F fa fa' fb fb':Nat->Int}{W:World}(h:PT X w bt tt ga gb m ob F fa fb W)(ha:∀j,j<8->fa j=fa' j)(hb:∀j,j<8->fb j=fb' j):PT X w bt tt ga gb m ob F fa' fb' W:=
 ⟨h.a.ext ha,h.b.ext fun j _=>by unfold patch;split <;> first | rfl | exact hb _ (by omega),h.t,h.k⟩
theorem PT.step{X:Nat->Prop}{w W V:World}{bt tt ga gb m ob k:Nat}{F fa fb:Nat->Int}(h:PT X w bt tt ga gb m ob F fa fb W)(ho:Old W V)(hX:∀q,X q->q<w.heap.size)(hk:k<8)(hm:ob+8<=m)(h1:ga≠gb)(h2:bt≠ga)(h3:bt≠gb)(xa:¬X ga)(xb:¬X gb)(va vb:Int):
  PT X w bt tt ga gb m ob F (fun j=>if j=k then va else fa j) (fun j=>if j=k then vb else fb j) ((V.setCell ⟨ga,k,none⟩ (.int .i64 va)).setCell ⟨gb,ob+k,none⟩ (.int .i64 vb)):=by
 have a1:=(h.a.old ho).set k hk va
 have b1:=(h.b.old ho)
 refine⟨a1.setOther (a:=⟨gb,ob+k,none⟩) (fun e=>h1 e.symm) _,?_,?_,((h.k.trans (Kept.mono ho fun q hq=>Nat.lt_of_lt_of_le (hX q hq) h.k.size)).trans (Kept.setCell _ (a:=⟨ga,k,none⟩) xa _)).trans (Kept.setCell _ (a:=⟨gb,ob+k,none⟩) xb _)⟩
 ·refine((b1.setOther (a:=⟨ga,k,none⟩) h1 _).set (ob+k) (by omega) vb).ext fun j _=>?_
  unfold patch
  dsimp only
  by_cases e:j=ob+k
  ·subst e;rw [if_pos rfl,if_pos ⟨by omega,by omega⟩,if_pos (by omega)]
  ·rw [if_neg e]
   split
   ·rw [if_neg (by omega)]
   ·rfl
 ·rw [Below.heap_setCell _ _ _ _ h3,Below.heap_setCell _ _ _ _ h2]
  exact(ho.block bt (lt_of_block h.t)).trans h.t
set_option maxHeartbeats 4000000 in
theorem PTurn_any(X:Nat->Prop)(ga gb m ob ca cb:Nat)(fa F:Nat->Int)(w:World)(ha:CellsAt w ga 8 fa)(hb:CellsAt w gb m F)(hm:ob+8<=m)(hne:ga≠gb)(xa:¬X ga)(xb:¬X gb)(hX:∀q,X q->q<w.heap.size):
  Calls Tryz.prog 197 #[.agg T8,.slice (some ⟨ga,0,none⟩) 8 ca,.slice (some ⟨gb,ob,none⟩) 8 cb] w fun e w'=>e = .returned (.tuple #[]) /\
   CellsAt w' ga 8 (metA turnWA fa (fun k=>F (ob+k)))/\CellsAt w' gb m (patch F ob 8 (metA turnWB fa (fun k=>F (ob+k))))/\Kept X w w':=by
 have hs:=T8_size
 have HT:=zH T8_at
 have HZ:Hid ((Tryz.prog.info? 53).map (·.size)=some 16):=zH (by kernel_rfl)
 have hC:=zH (fun w=>count_any (some ⟨ga,0,none⟩) (some ⟨gb,ob,none⟩) ca cb w)
 have H0:Hid (∀W,Old (w.alloc (.cells T8 53)) W->PT X w w.heap.size 53 ga gb m ob F fa (fun k=>F (ob+k)) W):=fun W hW=>by
  have h1:=(Old.alloc w (.cells T8 53)).trans hW
  refine⟨ha.old h1,(hb.old h1).ext fun j hj=>?_,(hW.block _ (by simp)).trans (heap_alloc_new _ _),Kept.mono h1 hX⟩
  unfold patch
  dsimp only
  split
  ·rw [show ob+(j-ob)=j by omega]
  ·rfl
 have hga:=ha.lt
 have hgb:=hb.lt
 have HP:Hid (PT X w w.heap.size 53 ga gb m ob F=PT X w w.heap.size 53 ga gb m ob F):=rfl
 clear ha hb HP
 generalize hR:T8=R at hs hC ⊢
 have HR:=zH hR
 clear hR
 go_enter Tryz.func197,Tryz.ntmps197
 go_wp2_with (with_reducible refine wpList_load_row rfl 53 _ rfl w.heap.size rfl 53 R (0,0) _ (heap_alloc_new _ _) Tryz.underlying53 rfl (by rw [hs];exact HZ.out) ?_)
 refine(hC.out _).mono ?_
 rintro e w1 ⟨rfl,ho1⟩
 have H1:Hid (PT X w w.heap.size 53 ga gb m ob F fa (fun k=>F (ob+k)) w1):=H0.out w1 (by rw [HR.out];exact ho1)
 clear H0 ho1 hC
 go_wp2_with fail
 go_loopw [11] (fun i wr=>∃k:Nat,k<=8/\i = .int .i64 k/\Hid (PT X w w.heap.size 53 ga gb m ob F (upto k (metA turnWA fa (fun k=>F (ob+k))) fa) (upto k (metA turnWB fa (fun k=>F (ob+k))) (fun k=>F (ob+k))) wr)) (fun i _=>8-(intOf i).toNat)
 case atStart=>exact⟨0,by omega,rfl,by rw [upto_zero,upto_zero];exact H1⟩
 case round=>
  obtain⟨k,hk,rfl,HS⟩:=hrel
  clear H1
  by_cases hlt:k<8
  ·have i1:(0:Int)<=k:=by omega
   have i2:(k:Int)<8:=by omega
   have hk8:k<8:=by omega
   obtain⟨ga',hga'⟩:∃f,f=upto k (metA turnWA fa (fun k=>F (ob+k))) fa:=⟨_,rfl⟩
   obtain⟨gb',hgb'⟩:∃f,f=upto k (metA turnWB fa (fun k=>F (ob+k))) (fun k=>F (ob+k)):=⟨_,rfl⟩
   have ea:ga' k=fa k:=by rw [hga'];unfold upto;rw [if_neg (by omega)]
   have eb:gb' k=F (ob+k):=by rw [hgb'];unfold upto;rw [if_neg (by omega)]
   rw [←hga',←hgb'] at HS
   have hcT:=fun w=>Turn_all (fa k) (F (ob+k)) (turnP k) (turnU k) w
   have na:∀j,j<8->(if j=k then turnWA (fa k) (F (ob+k)) (turnP k) (turnU k) else ga' j)=upto (k+1) (metA turnWA fa (fun k=>F (ob+k))) fa j:=fun j hj=>by
    rw [hga'];unfold upto metA
    by_cases e:j=k
    ·subst e;rw [if_pos rfl,if_pos (by omega)]
    ·rw [if_neg e]
     by_cases c:j<k
     ·rw [if_pos c,if_pos (by omega)]
     ·rw [if_neg c,if_neg (by omega)]
   have nb:∀j,j<8->(if j=k then turnWB (fa k) (F (ob+k)) (turnP k) (turnU k) else gb' j)=upto (k+1) (metA turnWB fa (fun k=>F (ob+k))) (fun k=>F (ob+k)) j:=fun j hj=>by
    rw [hgb'];unfold upto metA
    by_cases e:j=k
    ·subst e;rw [if_pos rfl,if_pos (by omega)]
    ·rw [if_neg e]
     by_cases c:j<k
     ·rw [if_pos c,if_pos (by omega)]
     ·rw [if_neg c,if_neg (by omega)]
   obtain⟨x,hx⟩:∃x,x=fa k:=⟨_,rfl⟩
   obtain⟨y,hy⟩:∃y,y=F (ob+k):=⟨_,rfl⟩
   rw [←hx,←hy] at hcT na nb
   rw [←hx] at ea
   rw [←hy] at eb
   have hT8:=HT.out k hk8
   rw [HR.out] at hT8
   have ht:=HS.out.t
   rw [HR.out] at ht
   generalize turnP k=pv at *
   generalize turnU k=uv at *
   generalize hva:turnWA x y pv uv=va at *
   generalize hvb:turnWB x y pv uv=vb at *
   have NX:Hid (∀V,Old wr.drew V->PT X w w.heap.size 53 ga gb m ob F (upto (k+1) (metA turnWA fa (fun k=>F (ob+k))) fa) (upto (k+1) (metA turnWB fa (fun k=>F (ob+k))) (fun k=>F (ob+k))) ((V.setCell ⟨ga,k,none⟩ (.int .i64 va)).setCell ⟨gb,ob+k,none⟩ (.int .i64 vb))):=fun V hV=>
    (HS.out.step (Old.drew (Old.refl _) |>.trans hV) hX hk8 hm hne (by omega) (by omega) xa xb va vb).ext na nb
   have keep1:∀V:World,Old wr.drew V->V.cell? ⟨w.heap.size,k*2,none⟩=some (.int .i64 pv)/\V.cell? ⟨w.heap.size,k*2+1,none⟩=some (.int .i64 uv):=fun V hV=>by
    have e:V.heap[w.heap.size]?=some (.cells R 53 (0,0)):=(hV.block _ (lt_of_block ht)).trans ht
    exact⟨(cell_of_row _ _ _ _ _ _ e).trans hT8.1,(cell_of_row _ _ _ _ _ _ e).trans hT8.2⟩
   have keep2:∀(V:World) (g j:Nat) (v:Value),w.heap.size≠g->(V.cell? ⟨w.heap.size,k*2,none⟩=some (.int .i64 pv)/\V.cell? ⟨w.heap.size,k*2+1,none⟩=some (.int .i64 uv))->(V.setCell ⟨g,j,none⟩ v).cell? ⟨w.heap.size,k*2,none⟩=some (.int .i64 pv)/\(V.setCell ⟨g,j,none⟩ v).cell? ⟨w.heap.size,k*2+1,none⟩=some (.int .i64 uv):=fun V g j v hg hV=>
    ⟨(World.cell?_setCell_far _ _ _ _ (fun e=>hg e.symm)).trans hV.1,(World.cell?_setCell_far _ _ _ _ (fun e=>hg e.symm)).trans hV.2⟩
   have cells:∀V:World,Old wr.drew V->V.cell? ⟨ga,k,none⟩=some (.int .i64 x)/\V.cell? ⟨gb,ob+k,none⟩=some (.int .i64 y)/\V.frozen? ⟨ga,k,none⟩=false/\V.frozen? ⟨gb,ob+k,none⟩=false /\
     (V.setCell ⟨ga,k,none⟩ (.int .i64 va)).cell? ⟨gb,ob+k,none⟩=some (.int .i64 y)/\(V.setCell ⟨ga,k,none⟩ (.int .i64 va)).frozen? ⟨gb,ob+k,none⟩=false:=fun V hV=>by
    have a1:=(HS.out.a.drew.old hV).cell k hk8
    have a2:=(HS.out.a.drew.old hV).frz k hk8
    have b1:=(HS.out.b.drew.old hV).cell (ob+k) (by omega)
    have b2:=(HS.out.b.drew.old hV).frz (ob+k) (by omega)
    unfold patch at b1
    rw [if_pos ⟨by omega,by omega⟩,show ob+k-ob=k by omega,eb] at b1
    rw [ea] at a1
    refine⟨a1,b1,a2,b2,?_,?_⟩
    ·rw [World.cell?_setCell_far _ _ _ _ (by exact hne)];exact b1
    ·rw [World.frozen?_setCell];exact b2
   have HK1:=zH keep1
   have HK2:=zH keep2
   have HCl:=zH cells
   have HcT:=zH hcT
   have nga:w.heap.size≠ga:=by omega
   have ngb:w.heap.size≠gb:=by omega
   obtain⟨c1,c2,c3,c4,c5,c6⟩:=cells wr.drew (Old.refl _)
   clear keep1 keep2 cells hcT na nb hx hy hga' hgb' ea eb hT8 ht HS HT HR hva hvb HZ
   go_wp2_with fail
   refine wp_region_held_drew (S:=(fun w'=>w'.cell? ⟨w.heap.size,k*2,none⟩=some (.int .i64 pv)/\w'.cell? ⟨w.heap.size,k*2+1,none⟩=some (.int .i64 uv))) (by kernel_rfl) ?_ (fun hHeld=>?_)
   ·(try dsimp only);exact HK1.out _ (Old.refl _)
   refine wpU 0 rfl ?_;try simp only [Act.put,sA,sZ,sS]
   refine wpU 1 rfl ?_;try simp only [Act.put,sA,sZ,sS]
   refine wpU 2 rfl ?_;try simp only [Act.put,sA,sZ,sS]
   refine wpU 3 rfl ?_;try simp only [Act.put,sA,sZ,sS]
   refine wpU 4 rfl ?_;try simp only [Act.put,sA,sZ,sS]
   refine wpU 5 rfl ?_;try simp only [Act.put,sA,sZ,sS]
   refine wpU 6 rfl ?_;try simp only [Act.put,sA,sZ,sS]
   refine wpU 8 rfl ?_;try simp only [Act.put,sA,sZ,sS]
   refine wpU 9 rfl ?_;try simp only [Act.put,sA,sZ,sS]
   refine wpU 10 rfl ?_;try simp only [Act.put,sA,sZ,sS]
   refine wpU 12 rfl ?_;try simp only [Act.put,sA,sZ,sS]
   refine wpU 13 rfl ?_;try simp only [Act.put,sA,sZ,sS]
   refine wpU 14 rfl ?_;try simp only [Act.put,sA,sZ,sS]
   refine wpU 15 rfl ?_;try simp only [Act.put,sA,sZ,sS]
   refine wpAnyH_ready (rs:=[7,11]) (by kernel_rfl) (by simp) ?_
   refine AllReadyH.cons (o:=⟨_,_,_,_,_,_⟩) rfl (fun K hK=>?_) (AllReadyH.cons (o:=⟨_,_,_,_,_,_⟩) rfl (fun K hK=>?_) AllReadyH.nil)
   ·go_simp
    refine hK.out _ _ ?_ (fun hHeld=>?_)
    ·(try dsimp only);exact hHeld
    clear hK K
    try simp only [Act.put,sA,sZ,sS]
    refine wpR 11 rfl (fun K hK=>?_)
    go_simp
    refine hK.out _ _ ?_ (fun hHeld=>?_)
    ·(try dsimp only);exact hHeld
    clear hK K
    try simp only [Act.put,sA,sZ,sS]
    refine wpR 16 rfl (fun K hK=>?_)
    go_simp
    refine(HcT.out _).mono ?_
    rintro e V1 ⟨rfl,o1⟩
    go_wp2_with fail
    refine hK.out _ _ ?_ (fun hHeld=>?_)
    ·(try dsimp only);exact HK1.out _ o1
    clear hK K
    try simp only [Act.put,sA,sZ,sS]
    refine wpU 17 rfl ?_;try simp only [Act.put,sA,sZ,sS]
    refine wpU 18 rfl ?_;try simp only [Act.put,sA,sZ,sS]
    refine wpU 19 rfl ?_;try simp only [Act.put,sA,sZ,sS]
    refine wpU 20 rfl ?_;try simp only [Act.put,sA,sZ,sS]
    obtain⟨-,-,d3,d4,d5,d6⟩:=HCl.out V1 o1
    have dc:=(HCl.out V1 o1).1
    refine wpR 21 rfl (fun K hK=>?_)
    go_simp
    refine hK.out _ _ ?_ (fun hHeld=>?_)
    ·(try dsimp only);exact HK2.out _ _ _ _ nga (HK1.out _ o1)
    clear hK K
    try simp only [Act.put,sA,sZ,sS]
    refine wpU 22 rfl ?_;try simp only [Act.put,sA,sZ,sS]
    refine wpR 23 rfl (fun K hK=>?_)
    go_simp
    refine hK.out _ _ ?_ (fun hHeld=>?_)
    ·(try dsimp only);exact HK2.out _ _ _ _ ngb (HK2.out _ _ _ _ nga (HK1.out _ o1))
    clear hK K
    try simp only [Act.put,sA,sZ,sS]
    refine wpAnyH_done (by kernel_rfl) ?_ _
    have HN:=zH (NX.out V1 o1)
    clear HK1 HK2 HCl NX HcT o1 c1 c2 c3 c4 c5 c6 d3 d4 d5 d6 dc
    go_wp2_with fail
    go_roundw
    case rel=>exact⟨k+1,by omega,by go_num,HN⟩
    case measure=>(simp [intOf];try omega)
   ·go_simp
    refine hK.out _ _ ?_ (fun hHeld=>?_)
    ·(try dsimp only);exact hHeld
    clear hK K
    try simp only [Act.put,sA,sZ,sS]
    refine wpR 7 rfl (fun K hK=>?_)
    go_simp
    refine hK.out _ _ ?_ (fun hHeld=>?_)
    ·(try dsimp only);exact hHeld
    clear hK K
    try simp only [Act.put,sA,sZ,sS]
    refine wpR 16 rfl (fun K hK=>?_)
    go_simp
    refine(HcT.out _).mono ?_
    rintro e V1 ⟨rfl,o1⟩
    go_wp2_with fail
    refine hK.out _ _ ?_ (fun hHeld=>?_)
    ·(try dsimp only);exact HK1.out _ o1
    clear hK K
    try simp only [Act.put,sA,sZ,sS]
    refine wpU 17 rfl ?_;try simp only [Act.put,sA,sZ,sS]
    refine wpU 18 rfl ?_;try simp only [Act.put,sA,sZ,sS]
    refine wpU 19 rfl ?_;try simp only [Act.put,sA,sZ,sS]
    refine wpU 20 rfl ?_;try simp only [Act.put,sA,sZ,sS]
    obtain⟨-,-,d3,d4,d5,d6⟩:=HCl.out V1 o1
    have dc:=(HCl.out V1 o1).1
    refine wpR 21 rfl (fun K hK=>?_)
    go_simp
    refine hK.out _ _ ?_ (fun hHeld=>?_)
    ·(try dsimp only);exact HK2.out _ _ _ _ nga (HK1.out _ o1)
    clear hK K
    try simp only [Act.put,sA,sZ,sS]
    refine wpU 22 rfl ?_;try simp only [Act.put,sA,sZ,sS]
    refine wpR 23 rfl (fun K hK=>?_)
    go_simp
    refine hK.out _ _ ?_ (fun hHeld=>?_)
    ·(try dsimp only);exact HK2.out _ _ _ _ ngb (HK2.out _ _ _ _ nga (HK1.out _ o1))
    clear hK K
    try simp only [Act.put,sA,sZ,sS]
    refine wpAnyH_done (by kernel_rfl) ?_ _
    have HN:=zH (NX.out V1 o1)
    clear HK1 HK2 HCl NX HcT o1 c1 c2 c3 c4 c5 c6 d3 d4 d5 d6 dc
    go_wp2_with fail
    go_roundw
    case rel=>exact⟨k+1,by omega,by go_num,HN⟩
    case measure=>(simp [intOf];try omega)
  ·obtain rfl:k=8:=by omega
   have HE:Hid (CellsAt wr ga 8 (metA turnWA fa (fun k=>F (ob+k)))/\CellsAt wr gb m (patch F ob 8 (metA turnWB fa (fun k=>F (ob+k))))/\Kept X w wr):=by
    have h:=HS.out.ext (fa':=(metA turnWA fa (fun k=>F (ob+k)))) (fb':=(metA turnWB fa (fun k=>F (ob+k)))) (fun j hj=>by unfold upto;rw [if_pos hj]) (fun j hj=>by unfold upto;rw [if_pos hj])
    exact⟨h.a,h.b,h.k⟩
   clear HS HT HR
   go_wp2_with fail
   go_end0
   exact⟨rfl,HE.out⟩
set_option maxHeartbeats 4000000 in
theorem PBack_any(X:Nat->Prop)(ga gb m ob ca cb:Nat)(fa F:Nat->Int)(w:World)(ha:CellsAt w ga 8 fa)(hb:CellsAt w gb m F)(hm:ob+8<=m)(hne:ga≠gb)(xa:¬X ga)(xb:¬X gb)(hX:∀q,X q->q<w.heap.size):
  Calls Tryz.prog 131 #[.agg T8,.slice (some ⟨ga,0,none⟩) 8 ca,.slice (some ⟨gb,ob,none⟩) 8 cb] w fun e w'=>e = .returned (.tuple #[]) /\
   CellsAt w' ga 8 (metA backWA fa (fun k=>F (ob+k)))/\CellsAt w' gb m (patch F ob 8 (metA backWB fa (fun k=>F (ob+k))))/\Kept X w w':=by
 have hs:=T8_size
 have HT:=zH T8_at
 have HZ:Hid ((Tryz.prog.info? 53).map (·.size)=some 16):=zH (by kernel_rfl)
 have hC:=zH (fun w=>count_any (some ⟨ga,0,none⟩) (some ⟨gb,ob,none⟩) ca cb w)
 have H0:Hid (∀W,Old (w.alloc (.cells T8 53)) W->PT X w w.heap.size 53 ga gb m ob F fa (fun k=>F (ob+k)) W):=fun W hW=>by
  have h1:=(Old.alloc w (.cells T8 53)).trans hW
  refine⟨ha.old h1,(hb.old h1).ext fun j hj=>?_,(hW.block _ (by simp)).trans (heap_alloc_new _ _),Kept.mono h1 hX⟩
  unfold patch
  dsimp only
  split
  ·rw [show ob+(j-ob)=j by omega]
  ·rfl
 have hga:=ha.lt
 have hgb:=hb.lt
 have HP:Hid (PT X w w.heap.size 53 ga gb m ob F=PT X w w.heap.size 53 ga gb m ob F):=rfl
 clear ha hb HP
 generalize hR:T8=R at hs hC ⊢
 have HR:=zH hR
 clear hR
 go_enter Tryz.func131,Tryz.ntmps131
 go_wp2_with (with_reducible refine wpList_load_row rfl 53 _ rfl w.heap.size rfl 53 R (0,0) _ (heap_alloc_new _ _) Tryz.underlying53 rfl (by rw [hs];exact HZ.out) ?_)
 refine(hC.out _).mono ?_
 rintro e w1 ⟨rfl,ho1⟩
 have H1:Hid (PT X w w.heap.size 53 ga gb m ob F fa (fun k=>F (ob+k)) w1):=H0.out w1 (by rw [HR.out];exact ho1)
 clear H0 ho1 hC
 go_wp2_with fail
 go_loopw [6] (fun i wr=>∃k:Nat,k<=8/\i = .int .i64 ((k:Int)-1)/\Hid (PT X w w.heap.size 53 ga gb m ob F (from_ k (metA backWA fa (fun k=>F (ob+k))) fa) (from_ k (metA backWB fa (fun k=>F (ob+k))) (fun k=>F (ob+k))) wr)) (fun i _=>(intOf i+1).toNat)
 case atStart=>exact⟨8,by omega,rfl,H1.out.ext (fun j hj=>(from_eight (metA backWA fa (fun k=>F (ob+k))) fa j hj).symm) (fun j hj=>(from_eight (metA backWB fa (fun k=>F (ob+k))) (fun k=>F (ob+k)) j hj).symm)⟩
 case round=>
  obtain⟨k1,hk,rfl,HS⟩:=hrel
  clear H1
  by_cases hlt:0<k1
  ·obtain⟨k,rfl⟩:∃k,k1=k+1:=⟨k1-1,by omega⟩
   rw [show ((k+1:Nat):Int)-1=(k:Int) by omega]
   have i1:(0:Int)<=k:=by omega
   have i2:(k:Int)<8:=by omega
   have hk8:k<8:=by omega
   obtain⟨ga',hga'⟩:∃f,f=from_ (k+1) (metA backWA fa (fun k=>F (ob+k))) fa:=⟨_,rfl⟩
   obtain⟨gb',hgb'⟩:∃f,f=from_ (k+1) (metA backWB fa (fun k=>F (ob+k))) (fun k=>F (ob+k)):=⟨_,rfl⟩
   have ea:ga' k=fa k:=by rw [hga'];unfold from_;rw [if_pos (by omega)]
   have eb:gb' k=F (ob+k):=by rw [hgb'];unfold from_;rw [if_pos (by omega)]
   rw [←hga',←hgb'] at HS
   have hcT:=fun w=>Back_all (fa k) (F (ob+k)) (turnP k) (turnU k) w
   have na:∀j,j<8->(if j=k then backWA (fa k) (F (ob+k)) (turnP k) (turnU k) else ga' j)=from_ k (metA backWA fa (fun k=>F (ob+k))) fa j:=fun j hj=>by
    rw [hga'];unfold from_ metA
    by_cases e:j=k
    ·subst e;rw [if_pos rfl,if_neg (by omega)]
    ·rw [if_neg e]
     by_cases c:j<k
     ·rw [if_pos (by omega),if_pos (by omega)]
     ·rw [if_neg (by omega),if_neg (by omega)]
   have nb:∀j,j<8->(if j=k then backWB (fa k) (F (ob+k)) (turnP k) (turnU k) else gb' j)=from_ k (metA backWB fa (fun k=>F (ob+k))) (fun k=>F (ob+k)) j:=fun j hj=>by
    rw [hgb'];unfold from_ metA
    by_cases e:j=k
    ·subst e;rw [if_pos rfl,if_neg (by omega)]
    ·rw [if_neg e]
     by_cases c:j<k
     ·rw [if_pos (by omega),if_pos (by omega)]
     ·rw [if_neg (by omega),if_neg (by omega)]
   obtain⟨x,hx⟩:∃x,x=fa k:=⟨_,rfl⟩
   obtain⟨y,hy⟩:∃y,y=F (ob+k):=⟨_,rfl⟩
   rw [←hx,←hy] at hcT na nb
   rw [←hx] at ea
   rw [←hy] at eb
   have hT8:=HT.out k hk8
   rw [HR.out] at hT8
   have ht:=HS.out.t
   rw [HR.out] at ht
   generalize turnP k=pv at *
   generalize turnU k=uv at *
   generalize hva:backWA x y pv uv=va at *
   generalize hvb:backWB x y pv uv=vb at *
   have NX:Hid (∀V,Old wr.drew V->PT X w w.heap.size 53 ga gb m ob F (from_ k (metA backWA fa (fun k=>F (ob+k))) fa) (from_ k (metA backWB fa (fun k=>F (ob+k))) (fun k=>F (ob+k))) ((V.setCell ⟨ga,k,none⟩ (.int .i64 va)).setCell ⟨gb,ob+k,none⟩ (.int .i64 vb))):=fun V hV=>
    (HS.out.step (Old.drew (Old.refl _) |>.trans hV) hX hk8 hm hne (by omega) (by omega) xa xb va vb).ext na nb
   have keep1:∀V:World,Old wr.drew V->V.cell? ⟨w.heap.size,k*2,none⟩=some (.int .i64 pv)/\V.cell? ⟨w.heap.size,k*2+1,none⟩=some (.int .i64 uv):=fun V hV=>by
    have e:V.heap[w.heap.size]?=some (.cells R 53 (0,0)):=(hV.block _ (lt_of_block ht)).trans ht
    exact⟨(cell_of_row _ _ _ _ _ _ e).trans hT8.1,(cell_of_row _ _ _ _ _ _ e).trans hT8.2⟩
   have keep2:∀(V:World) (g j:Nat) (v:Value),w.heap.size≠g->(V.cell? ⟨w.heap.size,k*2,none⟩=some (.int .i64 pv)/\V.cell? ⟨w.heap.size,k*2+1,none⟩=some (.int .i64 uv))->(V.setCell ⟨g,j,none⟩ v).cell? ⟨w.heap.size,k*2,none⟩=some (.int .i64 pv)/\(V.setCell ⟨g,j,none⟩ v).cell? ⟨w.heap.size,k*2+1,none⟩=some (.int .i64 uv):=fun V g j v hg hV=>
    ⟨(World.cell?_setCell_far _ _ _ _ (fun e=>hg e.symm)).trans hV.1,(World.cell?_setCell_far _ _ _ _ (fun e=>hg e.symm)).trans hV.2⟩
   have cells:∀V:World,Old wr.drew V->V.cell? ⟨ga,k,none⟩=some (.int .i64 x)/\V.cell? ⟨gb,ob+k,none⟩=some (.int .i64 y)/\V.frozen? ⟨ga,k,none⟩=false/\V.frozen? ⟨gb,ob+k,none⟩=false /\
     (V.setCell ⟨ga,k,none⟩ (.int .i64 va)).cell? ⟨gb,ob+k,none⟩=some (.int .i64 y)/\(V.setCell ⟨ga,k,none⟩ (.int .i64 va)).frozen? ⟨gb,ob+k,none⟩=false:=fun V hV=>by
    have a1:=(HS.out.a.drew.old hV).cell k hk8
    have a2:=(HS.out.a.drew.old hV).frz k hk8
    have b1:=(HS.out.b.drew.old hV).cell (ob+k) (by omega)
    have b2:=(HS.out.b.drew.old hV).frz (ob+k) (by omega)
    unfold patch at b1
    rw [if_pos ⟨by omega,by omega⟩,show ob+k-ob=k by omega,eb] at b1
    rw [ea] at a1
    refine⟨a1,b1,a2,b2,?_,?_⟩
    ·rw [World.cell?_setCell_far _ _ _ _ (by exact hne)];exact b1
    ·rw [World.frozen?_setCell];exact b2
   have HK1:=zH keep1
   have HK2:=zH keep2
   have HCl:=zH cells
   have HcT:=zH hcT
   have nga:w.heap.size≠ga:=by omega
   have ngb:w.heap.size≠gb:=by omega
   obtain⟨c1,c2,c3,c4,c5,c6⟩:=cells wr.drew (Old.refl _)
   clear keep1 keep2 cells hcT na nb hx hy hga' hgb' ea eb hT8 ht HS HT HR hva hvb HZ
   go_wp2_with fail
   refine wp_region_held_drew (S:=(fun w'=>w'.cell? ⟨w.heap.size,k*2,none⟩=some (.int .i64 pv)/\w'.cell? ⟨w.heap.size,k*2+1,none⟩=some (.int .i64 uv))) (by kernel_rfl) ?_ (fun hHeld=>?_)
   ·(try dsimp only);exact HK1.out _ (Old.refl _)
   refine wpU 0 rfl ?_;try simp only [Act.put,sA,sZ,sS]
   refine wpU 1 rfl ?_;try simp only [Act.put,sA,sZ,sS]
   refine wpU 2 rfl ?_;try simp only [Act.put,sA,sZ,sS]
   refine wpU 3 rfl ?_;try simp only [Act.put,sA,sZ,sS]
   refine wpU 4 rfl ?_;try simp only [Act.put,sA,sZ,sS]
   refine wpU 5 rfl ?_;try simp only [Act.put,sA,sZ,sS]
   refine wpU 6 rfl ?_;try simp only [Act.put,sA,sZ,sS]
   refine wpU 8 rfl ?_;try simp only [Act.put,sA,sZ,sS]
   refine wpU 9 rfl ?_;try simp only [Act.put,sA,sZ,sS]
   refine wpU 10 rfl ?_;try simp only [Act.put,sA,sZ,sS]
   refine wpU 12 rfl ?_;try simp only [Act.put,sA,sZ,sS]
   refine wpU 13 rfl ?_;try simp only [Act.put,sA,sZ,sS]
   refine wpU 14 rfl ?_;try simp only [Act.put,sA,sZ,sS]
   refine wpU 15 rfl ?_;try simp only [Act.put,sA,sZ,sS]
   refine wpAnyH_ready (rs:=[7,11]) (by kernel_rfl) (by simp) ?_
   refine AllReadyH.cons (o:=⟨_,_,_,_,_,_⟩) rfl (fun K hK=>?_) (AllReadyH.cons (o:=⟨_,_,_,_,_,_⟩) rfl (fun K hK=>?_) AllReadyH.nil)
   ·go_simp
    refine hK.out _ _ ?_ (fun hHeld=>?_)
    ·(try dsimp only);exact hHeld
    clear hK K
    try simp only [Act.put,sA,sZ,sS]
    refine wpR 11 rfl (fun K hK=>?_)
    go_simp
    refine hK.out _ _ ?_ (fun hHeld=>?_)
    ·(try dsimp only);exact hHeld
    clear hK K
    try simp only [Act.put,sA,sZ,sS]
    refine wpR 16 rfl (fun K hK=>?_)
    go_simp
    refine(HcT.out _).mono ?_
    rintro e V1 ⟨rfl,o1⟩
    go_wp2_with fail
    refine hK.out _ _ ?_ (fun hHeld=>?_)
    ·(try dsimp only);exact HK1.out _ o1
    clear hK K
    try simp only [Act.put,sA,sZ,sS]
    refine wpU 17 rfl ?_;try simp only [Act.put,sA,sZ,sS]
    refine wpU 18 rfl ?_;try simp only [Act.put,sA,sZ,sS]
    refine wpU 19 rfl ?_;try simp only [Act.put,sA,sZ,sS]
    refine wpU 20 rfl ?_;try simp only [Act.put,sA,sZ,sS]
    obtain⟨-,-,d3,d4,d5,d6⟩:=HCl.out V1 o1
    have dc:=(HCl.out V1 o1).1
    refine wpR 21 rfl (fun K hK=>?_)
    go_simp
    refine hK.out _ _ ?_ (fun hHeld=>?_)
    ·(try dsimp only);exact HK2.out _ _ _ _ nga (HK1.out _ o1)
    clear hK K
    try simp only [Act.put,sA,sZ,sS]
    refine wpU 22 rfl ?_;try simp only [Act.put,sA,sZ,sS]
    refine wpR 23 rfl (fun K hK=>?_)
    go_simp
    refine hK.out _ _ ?_ (fun hHeld=>?_)
    ·(try dsimp only);exact HK2.out _ _ _ _ ngb (HK2.out _ _ _ _ nga (HK1.out _ o1))
    clear hK K
    try simp only [Act.put,sA,sZ,sS]
    refine wpAnyH_done (by kernel_rfl) ?_ _
    have HN:=zH (NX.out V1 o1)
    clear HK1 HK2 HCl NX HcT o1 c1 c2 c3 c4 c5 c6 d3 d4 d5 d6 dc
    go_wp2_with fail
    go_roundw
    case rel=>exact⟨k,by omega,by go_num,HN⟩
    case measure=>(simp [intOf];try omega)
   ·go_simp
    refine hK.out _ _ ?_ (fun hHeld=>?_)
    ·(try dsimp only);exact hHeld
    clear hK K
    try simp only [Act.put,sA,sZ,sS]
    refine wpR 7 rfl (fun K hK=>?_)
    go_simp
    refine hK.out _ _ ?_ (fun hHeld=>?_)
    ·(try dsimp only);exact hHeld
    clear hK K
    try simp only [Act.put,sA,sZ,sS]
    refine wpR 16 rfl (fun K hK=>?_)
    go_simp
    refine(HcT.out _).mono ?_
    rintro e V1 ⟨rfl,o1⟩
    go_wp2_with fail
    refine hK.out _ _ ?_ (fun hHeld=>?_)
    ·(try dsimp only);exact HK1.out _ o1
    clear hK K
    try simp only [Act.put,sA,sZ,sS]
    refine wpU 17 rfl ?_;try simp only [Act.put,sA,sZ,sS]
    refine wpU 18 rfl ?_;try simp only [Act.put,sA,sZ,sS]
    refine wpU 19 rfl ?_;try simp only [Act.put,sA,sZ,sS]
    refine wpU 20 rfl ?_;try simp only [Act.put,sA,sZ,sS]
    obtain⟨-,-,d3,d4,d5,d6⟩:=HCl.out V1 o1
    have dc:=(HCl.out V1 o1).1
    refine wpR 21 rfl (fun K hK=>?_)
    go_simp
    refine hK.out _ _ ?_ (fun hHeld=>?_)
    ·(try dsimp only);exact HK2.out _ _ _ _ nga (HK1.out _ o1)
    clear hK K
    try simp only [Act.put,sA,sZ,sS]
    refine wpU 22 rfl ?_;try simp only [Act.put,sA,sZ,sS]
    refine wpR 23 rfl (fun K hK=>?_)
    go_simp
    refine hK.out _ _ ?_ (fun hHeld=>?_)
    ·(try dsimp only);exact HK2.out _ _ _ _ ngb (HK2.out _ _ _ _ nga (HK1.out _ o1))
    clear hK K
    try simp only [Act.put,sA,sZ,sS]
    refine wpAnyH_done (by kernel_rfl) ?_ _
    have HN:=zH (NX.out V1 o1)
    clear HK1 HK2 HCl NX HcT o1 c1 c2 c3 c4 c5 c6 d3 d4 d5 d6 dc
    go_wp2_with fail
    go_roundw
    case rel=>exact⟨k,by omega,by go_num,HN⟩
    case measure=>(simp [intOf];try omega)
  ·obtain rfl:k1=0:=by omega
   have HE:Hid (CellsAt wr ga 8 (metA backWA fa (fun k=>F (ob+k)))/\CellsAt wr gb m (patch F ob 8 (metA backWB fa (fun k=>F (ob+k))))/\Kept X w wr):=by
    have h:=HS.out.ext (fa':=(metA backWA fa (fun k=>F (ob+k)))) (fb':=(metA backWB fa (fun k=>F (ob+k)))) (fun j hj=>by unfold from_;rw [if_neg (by omega)]) (fun j hj=>by unfold from_;rw [if_neg (by omega)])
    exact⟨h.a,h.b,h.k⟩
   clear HS HT HR
   rw [show ((0:Nat):Int)-1 = -1 from rfl]
   go_wp2_with fail
   go_end0
   exact⟨rfl,HE.out⟩
theorem part_rev(f:Nat->Int)(a j:Nat)(h:j<8):(part f a 8).reverse.getD j 0=f (a+(7-j)):=by
 rw [List.getD_eq_getElem?_getD,List.getElem?_reverse (by rw [part_len];exact h),part_len,←List.getD_eq_getElem?_getD,show 8-1-j=7-j by omega]
 exact part_getD f a 8 (7-j) (by omega)
def MeetR(wa wb:Way)(X:Nat->Prop)(w:World)(pt:Option Addr)(n:Nat)(F:Nat->Int)(k:Nat)(wr:World):Prop:=
 OwnR 16 X wr pt n (meetTo wa wb k F)/\Kept X w wr
set_option maxHeartbeats 4000000 in
theorem meetTurn_any(X:Nat->Prop)(pt:Option Addr)(n cap:Nat)(F:Nat->Int)(w:World)(h:OwnR 16 X w pt n F)(hX:∀q,X q->q<w.heap.size)(hn:n<=17179869184):
  Calls Tryz.prog 130 #[.slice pt n cap,.func (.func 197) #[.agg T8] #[]] w fun e w'=>e = .returned (.tuple #[])/\OwnR 16 X w' pt n (meetTo turnWA turnWB n F)/\Kept X w w':=by
 have H0:Hid (MeetR turnWA turnWB X w pt n F 1 w):=⟨by rw [meetTo_one];exact h,Kept.refl _ _⟩
 have HE0:Hid (n<=1->meetTo turnWA turnWB n F=F):=fun hn=>by
  rcases(by omega:n=0\/n=1) with rfl | rfl
  ·funext q
   obtain⟨b,r,rfl,hr,_,_⟩:=split16 q
   by_cases h8:8<=r
   ·rw [meetTo_hi _ _ _ _ _ _ hr h8,if_neg (by omega)]
   ·rw [meetTo_lo _ _ _ _ _ _ (by omega),if_neg (by omega)]
  ·exact meetTo_one _ _ _
 have HX:=zH hX
 have hR:(Value.agg T8) = .agg T8:=rfl
 clear h hR hX
 generalize hT:T8=R
 have HR:=zH hT
 clear hT
 go_enter Tryz.func130,Tryz.ntmps130
 go_wp2_with fail
 go_loopw [4] (fun i wr=>∃k:Nat,1<=k/\(k<=n\/k=1)/\i = .int .i64 k/\Hid (MeetR turnWA turnWB X w pt n F k wr)) (fun i _=>n-(intOf i).toNat)
 case atStart=>exact⟨1,by omega,by omega,rfl,H0⟩
 case round=>
  obtain⟨k,hk1,hk,rfl,HS⟩:=hrel
  clear H0
  by_cases hlt:k<n
  ·obtain⟨j,rfl⟩:∃j,k=j+1:=⟨k-1,by omega⟩
   obtain⟨g,rfl,xg,hc⟩:=HS.out.1 (by omega)
   obtain⟨M,hM⟩:∃M,M=meetTo turnWA turnWB (j+1) F:=⟨_,rfl⟩
   rw [←hM] at hc
   have hstep:=meetTo_step turnWA turnWB F j
   rw [←hM] at hstep
   have HStep:=zH hstep
   have HC:=zH hc
   have HK:=zH HS.out.2
   have hgl:=hc.lt
   have e1:(((j+1:Nat):Int))=(j:Int)+1:=by omega
   have q1:wrap64 ((j:Int)+1-1)=j:=by rw [show (j:Int)+1-1=j by omega];exact IntWalk.wrap64_in _ (by omega)
   have hS1:=fun o w=>slice_arr_lo (P:=Tryz.prog) (t:=43) 16 8 Tryz.block_under Tryz.block_len Tryz.block_elem (by omega) g o w
   have hS2:=fun o w=>slice_arr_hi (P:=Tryz.prog) (t:=43) 16 8 Tryz.block_under Tryz.block_len Tryz.block_elem (by omega) (by omega) g o w
   rw [show ((8:Nat):Int)=8 from rfl] at hS1 hS2
   have HF1:=zH (Flip_any (some ⟨g,j*16+8,none⟩) 8 8 (part M (j*16+8) 8) wr (hc.sl (j*16+8) 8 8 (by omega) (by omega) (by unfold maxLen;omega)) (by omega))
   clear hstep hc HS hM
   go_wp2_with fail
   refine HF1.out.mono ?_
   rintro e w1 ⟨v1,rfl,hv1,ho1⟩
   obtain⟨ga,ca,rfl,xga,hca1,hca2,hA⟩:=hv1.cells (by rw [List.length_reverse,part_len];omega)
   rw [List.length_reverse,part_len] at hA hca1 ⊢
   have xga':¬X ga:=fun e=>xga (Nat.lt_of_lt_of_le (HX.out _ e) HK.out.size)
   have hne:ga≠g:=fun e=>xga (by rw [e];exact hgl)
   have HP:=zH (PTurn_any X ga g (16*n) ((j+1)*16) ca 16 (fun i=>(part M (j*16+8) 8).reverse.getD i 0) M w1 hA (HC.out.old ho1) (by omega) hne xga' xg (fun q hq=>Nat.lt_of_lt_of_le (HX.out q hq) (Nat.le_trans HK.out.size ho1.size)))
   rw [HR.out] at HP
   have HK1:Hid (Kept X w w1):=HK.out.trans (ho1.kept fun q hq=>Nat.lt_of_lt_of_le (HX.out q hq) HK.out.size)
   clear HF1 hv1 ho1 hA HK HC
   go_wp2_with fail
   refine HP.out.mono ?_
   rintro e w2 ⟨rfl,hA2,hC2,hK2⟩
   have hfA:metA turnWA (fun i=>(part M (j*16+8) 8).reverse.getD i 0) (fun k=>M ((j+1)*16+k))=fun i=>turnWA ((part M (j*16+8) 8).reverse.getD i 0) (M ((j+1)*16+i)) (turnP i) (turnU i):=rfl
   obtain⟨fA,hfA⟩:∃f,f=metA turnWA (fun i=>(part M (j*16+8) 8).reverse.getD i 0) (fun k=>M ((j+1)*16+k)):=⟨_,rfl⟩
   rw [←hfA] at hA2
   have HFA:Hid (∀i,i<8->fA i=turnWA (M (j*16+8+(7-i))) (M ((j+1)*16+i)) (turnP i) (turnU i)):=fun i hi=>by rw [hfA];unfold metA;dsimp only;rw [part_rev _ _ _ hi]
   have HF2:=zH (Flip_any (some ⟨ga,0,none⟩) 8 ca (part fA 0 8) w2 (hA2.sl 0 8 ca (by omega) hca1 hca2) (by omega))
   have HC2:=zH hC2
   have HK2:Hid (Kept X w w2):=HK1.out.trans hK2
   clear hfA HP hA2 hC2 hK2 HK1
   go_wp2_with fail
   refine HF2.out.mono ?_
   rintro e w3 ⟨v3,rfl,hv3,ho3⟩
   obtain⟨gc,cc,rfl,_,_,_,hG⟩:=hv3.cells (by rw [List.length_reverse,part_len];omega)
   rw [List.length_reverse,part_len] at hG ⊢
   have HC3:=zH (HC2.out.old ho3)
   have HSrc:Hid (∀i,i<8->w3.cell? ⟨gc,0+i,none⟩=some (.int .i64 (fA (7-i)))):=fun i hi=>by
    rw [Nat.zero_add,hG.cell i hi,part_rev _ _ _ hi,Nat.zero_add]
   have HT:Hid (w3.there g (j*16+8) 8):=HC3.out.there _ _ (by omega)
   have HN:Hid (MeetR turnWA turnWB X w (some ⟨g,0,none⟩) n F (j+1+1) (w3.setCells g (j*16+8) (rowL 8 fun i=>fA (7-i)))):=by
    refine⟨fun _=>⟨g,rfl,xg,?_⟩,(HK2.out.trans (ho3.kept fun q hq=>Nat.lt_of_lt_of_le (HX.out q hq) HK2.out.size)).trans (Kept.setCells _ xg _ _)⟩
    refine(HC3.out.setCells (j*16+8) 8 (by omega) _).ext fun q hq=>?_
    rw [←HStep.out]
    unfold patch
    dsimp only
    split
    ·rw [HFA.out _ (by omega)]
    ·split
     ·unfold metA
      dsimp only
      rw [part_rev _ _ _ (by omega)]
     ·rfl
   clear HF2 hv3 ho3 hG HC2 HC3 HK2 HFA HStep HX
   go_wp2_with (with_reducible refine wpList_copy_blk rfl _ _ 186 186 rfl 2 Tryz.underlying186 Tryz.int64_cells 8 (fun i=>fA (7-i)) g (j*16+8) 8 8 gc 0 8 cc rfl rfl (by decide) HSrc.out HT.out ?_)
   go_roundw
   case rel=>exact⟨j+1+1,by omega,by omega,by go_num,HN⟩
   case measure=>simp [intOf];omega
  ·have HE:Hid (OwnR 16 X wr pt n (meetTo turnWA turnWB n F)/\Kept X w wr):=by
    refine⟨?_,HS.out.2⟩
    by_cases h1:n<=1
    ·rw [HE0.out h1]
     have:=HS.out.1
     rcases hk with h | rfl
     ·obtain rfl:k=1:=by omega
      rwa [meetTo_one] at this
     ·rwa [meetTo_one] at this
    ·obtain rfl:k=n:=by omega
     exact HS.out.1
   have hlt':n<=k:=by omega
   clear HS HE0 HX HR
   go_wp2_with fail
   go_end0
   exact⟨rfl,HE.out⟩
set_option maxHeartbeats 4000000 in
theorem meetBack_any(X:Nat->Prop)(pt:Option Addr)(n cap:Nat)(F:Nat->Int)(w:World)(h:OwnR 16 X w pt n F)(hX:∀q,X q->q<w.heap.size)(hn:n<=17179869184):
  Calls Tryz.prog 130 #[.slice pt n cap,.func (.func 131) #[.agg T8] #[]] w fun e w'=>e = .returned (.tuple #[])/\OwnR 16 X w' pt n (meetTo backWA backWB n F)/\Kept X w w':=by
 have H0:Hid (MeetR backWA backWB X w pt n F 1 w):=⟨by rw [meetTo_one];exact h,Kept.refl _ _⟩
 have HE0:Hid (n<=1->meetTo backWA backWB n F=F):=fun hn=>by
  rcases(by omega:n=0\/n=1) with rfl | rfl
  ·funext q
   obtain⟨b,r,rfl,hr,_,_⟩:=split16 q
   by_cases h8:8<=r
   ·rw [meetTo_hi _ _ _ _ _ _ hr h8,if_neg (by omega)]
   ·rw [meetTo_lo _ _ _ _ _ _ (by omega),if_neg (by omega)]
  ·exact meetTo_one _ _ _
 have HX:=zH hX
 have hR:(Value.agg T8) = .agg T8:=rfl
 clear h hR hX
 generalize hT:T8=R
 have HR:=zH hT
 clear hT
 go_enter Tryz.func130,Tryz.ntmps130
 go_wp2_with fail
 go_loopw [4] (fun i wr=>∃k:Nat,1<=k/\(k<=n\/k=1)/\i = .int .i64 k/\Hid (MeetR backWA backWB X w pt n F k wr)) (fun i _=>n-(intOf i).toNat)
 case atStart=>exact⟨1,by omega,by omega,rfl,H0⟩
 case round=>
  obtain⟨k,hk1,hk,rfl,HS⟩:=hrel
  clear H0
  by_cases hlt:k<n
  ·obtain⟨j,rfl⟩:∃j,k=j+1:=⟨k-1,by omega⟩
   obtain⟨g,rfl,xg,hc⟩:=HS.out.1 (by omega)
   obtain⟨M,hM⟩:∃M,M=meetTo backWA backWB (j+1) F:=⟨_,rfl⟩
   rw [←hM] at hc
   have hstep:=meetTo_step backWA backWB F j
   rw [←hM] at hstep
   have HStep:=zH hstep
   have HC:=zH hc
   have HK:=zH HS.out.2
   have hgl:=hc.lt
   have e1:(((j+1:Nat):Int))=(j:Int)+1:=by omega
   have q1:wrap64 ((j:Int)+1-1)=j:=by rw [show (j:Int)+1-1=j by omega];exact IntWalk.wrap64_in _ (by omega)
   have hS1:=fun o w=>slice_arr_lo (P:=Tryz.prog) (t:=43) 16 8 Tryz.block_under Tryz.block_len Tryz.block_elem (by omega) g o w
   have hS2:=fun o w=>slice_arr_hi (P:=Tryz.prog) (t:=43) 16 8 Tryz.block_under Tryz.block_len Tryz.block_elem (by omega) (by omega) g o w
   rw [show ((8:Nat):Int)=8 from rfl] at hS1 hS2
   have HF1:=zH (Flip_any (some ⟨g,j*16+8,none⟩) 8 8 (part M (j*16+8) 8) wr (hc.sl (j*16+8) 8 8 (by omega) (by omega) (by unfold maxLen;omega)) (by omega))
   clear hstep hc HS hM
   go_wp2_with fail
   refine HF1.out.mono ?_
   rintro e w1 ⟨v1,rfl,hv1,ho1⟩
   obtain⟨ga,ca,rfl,xga,hca1,hca2,hA⟩:=hv1.cells (by rw [List.length_reverse,part_len];omega)
   rw [List.length_reverse,part_len] at hA hca1 ⊢
   have xga':¬X ga:=fun e=>xga (Nat.lt_of_lt_of_le (HX.out _ e) HK.out.size)
   have hne:ga≠g:=fun e=>xga (by rw [e];exact hgl)
   have HP:=zH (PBack_any X ga g (16*n) ((j+1)*16) ca 16 (fun i=>(part M (j*16+8) 8).reverse.getD i 0) M w1 hA (HC.out.old ho1) (by omega) hne xga' xg (fun q hq=>Nat.lt_of_lt_of_le (HX.out q hq) (Nat.le_trans HK.out.size ho1.size)))
   rw [HR.out] at HP
   have HK1:Hid (Kept X w w1):=HK.out.trans (ho1.kept fun q hq=>Nat.lt_of_lt_of_le (HX.out q hq) HK.out.size)
   clear HF1 hv1 ho1 hA HK HC
   go_wp2_with fail
   refine HP.out.mono ?_
   rintro e w2 ⟨rfl,hA2,hC2,hK2⟩
   have hfA:metA backWA (fun i=>(part M (j*16+8) 8).reverse.getD i 0) (fun k=>M ((j+1)*16+k))=fun i=>backWA ((part M (j*16+8) 8).reverse.getD i 0) (M ((j+1)*16+i)) (turnP i) (turnU i):=rfl
   obtain⟨fA,hfA⟩:∃f,f=metA backWA (fun i=>(part M (j*16+8) 8).reverse.getD i 0) (fun k=>M ((j+1)*16+k)):=⟨_,rfl⟩
   rw [←hfA] at hA2
   have HFA:Hid (∀i,i<8->fA i=backWA (M (j*16+8+(7-i))) (M ((j+1)*16+i)) (turnP i) (turnU i)):=fun i hi=>by rw [hfA];unfold metA;dsimp only;rw [part_rev _ _ _ hi]
   have HF2:=zH (Flip_any (some ⟨ga,0,none⟩) 8 ca (part fA 0 8) w2 (hA2.sl 0 8 ca (by omega) hca1 hca2) (by omega))
   have HC2:=zH hC2
   have HK2:Hid (Kept X w w2):=HK1.out.trans hK2
   clear hfA HP hA2 hC2 hK2 HK1
   go_wp2_with fail
   refine HF2.out.mono ?_
   rintro e w3 ⟨v3,rfl,hv3,ho3⟩
   obtain⟨gc,cc,rfl,_,_,_,hG⟩:=hv3.cells (by rw [List.length_reverse,part_len];omega)
   rw [List.length_reverse,part_len] at hG ⊢
   have HC3:=zH (HC2.out.old ho3)
   have HSrc:Hid (∀i,i<8->w3.cell? ⟨gc,0+i,none⟩=some (.int .i64 (fA (7-i)))):=fun i hi=>by
    rw [Nat.zero_add,hG.cell i hi,part_rev _ _ _ hi,Nat.zero_add]
   have HT:Hid (w3.there g (j*16+8) 8):=HC3.out.there _ _ (by omega)
   have HN:Hid (MeetR backWA backWB X w (some ⟨g,0,none⟩) n F (j+1+1) (w3.setCells g (j*16+8) (rowL 8 fun i=>fA (7-i)))):=by
    refine⟨fun _=>⟨g,rfl,xg,?_⟩,(HK2.out.trans (ho3.kept fun q hq=>Nat.lt_of_lt_of_le (HX.out q hq) HK2.out.size)).trans (Kept.setCells _ xg _ _)⟩
    refine(HC3.out.setCells (j*16+8) 8 (by omega) _).ext fun q hq=>?_
    rw [←HStep.out]
    unfold patch
    dsimp only
    split
    ·rw [HFA.out _ (by omega)]
    ·split
     ·unfold metA
      dsimp only
      rw [part_rev _ _ _ (by omega)]
     ·rfl
   clear HF2 hv3 ho3 hG HC2 HC3 HK2 HFA HStep HX
   go_wp2_with (with_reducible refine wpList_copy_blk rfl _ _ 186 186 rfl 2 Tryz.underlying186 Tryz.int64_cells 8 (fun i=>fA (7-i)) g (j*16+8) 8 8 gc 0 8 cc rfl rfl (by decide) HSrc.out HT.out ?_)
   go_roundw
   case rel=>exact⟨j+1+1,by omega,by omega,by go_num,HN⟩
   case measure=>simp [intOf];omega
  ·have HE:Hid (OwnR 16 X wr pt n (meetTo backWA backWB n F)/\Kept X w wr):=by
    refine⟨?_,HS.out.2⟩
    by_cases h1:n<=1
    ·rw [HE0.out h1]
     have:=HS.out.1
     rcases hk with h | rfl
     ·obtain rfl:k=1:=by omega
      rwa [meetTo_one] at this
     ·rwa [meetTo_one] at this
    ·obtain rfl:k=n:=by omega
     exact HS.out.1
   have hlt':n<=k:=by omega
   clear HS HE0 HX HR
   go_wp2_with fail
   go_end0
   exact⟨rfl,HE.out⟩
theorem atI_bd(g:Nat->Int)(i:Int):0<=atI g i/\atI g i<=3:=by
 unfold atI
 split
 ·rename_i h
  have:=h.2.2 (i/4).toNat (by omega)
  omega
 ·omega
theorem wrap_both(x:Int):IntKind.i64.wrap x=wrap64 x:=by rw [IntKind.wrap_i64];unfold wrap64;omega
def upI(x s:Int):Int:=wrap64 (x*2 ^ s.toNat)
def upB(f g:Nat->Int):Nat->Int:=fun k=>upI (f k) (atI g k)
def downI(x s:Int):Int:=roundI x (pw s.toNat)
def downB(f g:Nat->Int):Nat->Int:=fun k=>downI (f k) (atI g k)
def toB(n:Nat)(f g:Nat->Int):Nat->Int:=fun k=>if k<n then f k else g k
structure UpSt(w:World)(tb tg:TypeId)(z:Array Value)(f g:Nat->Int)(W:World):Prop where
 b:W.heap[w.heap.size]?=some (.cells (rowN 16 (blk f)) tb (0,0))
 g:W.heap[w.heap.size+1]?=some (.cells (rowN 4 (blk g)) tg (0,0))
 r:W.heap[w.heap.size+1+1]?=some (.cells z tb (0,0))
 old:Old w W
namespace UpSt
variable {w W V:World} {tb tg:TypeId} {z:Array Value} {f g:Nat->Int}
theorem keep(h:UpSt w tb tg z f g W)(o:Old W V):UpSt w tb tg z f g V:=
 ⟨(o.block _ (lt_of_block h.b)).trans h.b,(o.block _ (lt_of_block h.g)).trans h.g,(o.block _ (lt_of_block h.r)).trans h.r,h.old.trans o⟩
theorem set(h:UpSt w tb tg z f g W)(j:Nat)(hj:j<16)(v:Int):UpSt w tb tg z (fun k=>if k=j then v else f k) g (W.setCell ⟨w.heap.size,j,none⟩ (.int .i64 v)):=by
 refine⟨?_,(heap_setCell_other _ _ _ _ (by simp)).trans h.g,(heap_setCell_other _ _ _ _ (by simp;omega)).trans h.r,h.old.after (Kept.setCell (X:=fun k=>k<w.heap.size) _ (a:=⟨w.heap.size,j,none⟩) (by show ¬w.heap.size<w.heap.size;omega) _) fun _ hk=>hk⟩
 rw [←blk_upd,←rowN_set _ _ _ _ hj]
 exact heap_setCell_same _ _ _ _ _ _ h.b
theorem cell(h:UpSt w tb tg z f g W)(j:Nat)(hj:j<16):W.cell? ⟨w.heap.size,j,none⟩=some (.int .i64 (f j))/\W.frozen? ⟨w.heap.size,j,none⟩=false:=
 ⟨(cell_of_row _ _ _ _ _ _ h.b).trans (blk_at 16 f j hj),frozen_of_row _ _ _ _ _ h.b⟩
theorem row(h:UpSt w tb tg z f g W)(cs:Array Value):(W.setRow (w.heap.size+1+1) cs).heap[w.heap.size+1+1]?=some (.cells cs tb (0,0))/\Old w (W.setRow (w.heap.size+1+1) cs):=
 ⟨setRow_heap _ _ _ _ _ _ h.r,h.old.after (X:=fun k=>k<w.heap.size) ⟨rfl,rfl,by simp,fun k hk=>setRow_other _ _ _ _ (by omega)⟩ fun _ h=>h⟩
end UpSt
theorem toB_succ(n:Nat)(f g:Nat->Int)(v:Int)(hv:v=f n):(fun k=>if k=n then v else toB n f g k)=toB (n+1) f g:=by
 funext k
 unfold toB
 by_cases h:k=n
 ·subst h;rw [if_pos rfl,if_pos (by omega),hv]
 ·rw [if_neg h]
  by_cases h2:k<n
  ·rw [if_pos h2,if_pos (by omega)]
  ·rw [if_neg h2,if_neg (by omega)]
theorem toB_zero(f g:Nat->Int):toB 0 f g=g:=by funext k;unfold toB;rw [if_neg (by omega)]
theorem upd_start(w:World)(tb tg:TypeId)(z:Array Value)(f g:Nat->Int):UpSt w tb tg z f g (((w.alloc (.cells (rowN 16 (blk f)) tb)).alloc (.cells (rowN 4 (blk g)) tg)).alloc (.cells z tb)):=by
 refine⟨?_,?_,?_,((Old.alloc w _).alloc' _).alloc' _⟩
 ·exact(Below.heap_alloc _ _ _ (by simp;omega)).trans (heap_alloc2_old w _ _)
 ·exact(Below.heap_alloc _ _ _ (by simp)).trans (heap_alloc2_new w _ _)
 ·have:=heap_alloc_new ((w.alloc (.cells (rowN 16 (blk f)) tb)).alloc (.cells (rowN 4 (blk g)) tg)) (.cells z tb)
  rw [World.size_alloc,World.size_alloc] at this
  exact this
set_option maxHeartbeats 4000000 in
theorem Up_any(f g:Nat->Int)(w:World):
  Calls Tryz.prog 196 #[.agg (rowN 16 (blk f)),.agg (rowN 4 (blk g))] w fun e w'=>e = .returned (.agg (rowN 16 (blk (upB f g))))/\Old w w':=by
 obtain⟨z,hz⟩:∃z:Array Value,z=#[.int .i64 0,.int .i64 0,.int .i64 0,.int .i64 0,.int .i64 0,.int .i64 0,.int .i64 0,.int .i64 0,.int .i64 0,.int .i64 0,.int .i64 0,.int .i64 0,.int .i64 0,.int .i64 0,.int .i64 0,.int .i64 0]:=⟨_,rfl⟩
 have hzs:z.size=16:=by rw [hz];rfl
 have hst:=upd_start w 43 44 z f g
 have HAt:=zH (fun(i:Nat) (h:i<16) w=>At_any g i w (by omega) (by omega))
 have Hs4:Hid ((Tryz.prog.info? 44).map (·.size)=some 4):=zH (by kernel_rfl)
 have H0:Hid (UpSt w 43 44 z (toB 0 (upB f g) f) g (((w.alloc (.cells (rowN 16 (blk f)) 43)).alloc (.cells (rowN 4 (blk g)) 44)).alloc (.cells z 43))):=by rw [toB_zero];exact hst
 clear hst
 go_enter Tryz.func196,Tryz.ntmps196
 go_wp2_with fail
 rw [←hz]
 clear hz
 go_loopw [6] (fun i wr=>∃k:Nat,k<=16/\i = .int .i64 k/\Hid (UpSt w 43 44 z (toB k (upB f g) f) g wr)) (fun i _=>16-(intOf i).toNat)
 case atStart=>exact⟨0,by omega,rfl,H0⟩
 case round=>
  obtain⟨k,hk,rfl,HS⟩:=hrel
  clear H0
  by_cases hlt:k<16
  ·have i1:(0:Int)<=k:=by omega
   have i2:(k:Int)<16:=by omega
   have hA:=HAt.out k hlt
   obtain⟨s0,s3⟩:=atI_bd g k
   have NX:Hid (∀V,Old wr.drew V->UpSt w 43 44 z (toB (k+1) (upB f g) f) g (V.setCell ⟨w.heap.size,k,none⟩ (.int .i64 (upI (f k) (atI g k))))):=fun V hV=>by
    have h:=(HS.out.keep (Old.drew (Old.refl _) |>.trans hV)).set k hlt (upI (f k) (atI g k))
    rw [toB_succ k (upB f g) f (upI (f k) (atI g k)) rfl] at h
    exact h
   have cells:Hid (∀V,Old wr.drew V->V.cell? ⟨w.heap.size,k,none⟩=some (.int .i64 (f k))/\V.frozen? ⟨w.heap.size,k,none⟩=false/\V.heap[w.heap.size+1]?=some (.cells (rowN 4 (blk g)) 44 (0,0))):=fun V hV=>by
    have h:=HS.out.keep (Old.drew (Old.refl _) |>.trans hV)
    have c:=h.cell k hlt
    unfold toB at c
    rw [if_neg (by omega)] at c
    exact⟨c.1,c.2,h.g⟩
   have keep2:Hid (∀(V:World) (v:Value),V.heap[w.heap.size+1]?=some (.cells (rowN 4 (blk g)) 44 (0,0))->(V.setCell ⟨w.heap.size,k,none⟩ v).heap[w.heap.size+1]?=some (.cells (rowN 4 (blk g)) 44 (0,0))):=fun V v hV=>(heap_setCell_other _ _ _ _ (by simp)).trans hV
   have HA:=zH hA
   obtain⟨x,hx⟩:∃x,x=f k:=⟨_,rfl⟩
   rw [←hx] at NX cells
   clear hA hx HAt HS
   generalize atI g (k:Int)=s at *
   have q1:IntKind.i64.wrap (x*2 ^ s.toNat)=upI x s:=wrap_both _
   have q2:wrap64 (x*2 ^ s.toNat)=upI x s:=rfl
   generalize upI x s=u at *
   obtain⟨c1,c2,c3⟩:=cells.out wr.drew (Old.refl _)
   go_wp2_with fail
   refine wp_region_held_drew (S:=(fun w'=>w'.heap[w.heap.size+1]?=some (.cells (rowN 4 (blk g)) 44 (0,0)))) (by kernel_rfl) ?_ (fun hHeld=>?_)
   ·(try dsimp only);exact c3
   refine wpU 0 rfl ?_;try simp only [Act.put,sA,sZ,sS]
   refine wpU 1 rfl ?_;try simp only [Act.put,sA,sZ,sS]
   refine wpT 3 (v:=.agg (rowN 4 (blk g))) rfl (yieldsIf_load_row (by kernel_rfl) 44 (.tmp 3) rfl (w.heap.size+1) rfl 44 (rowN 4 (blk g)) (0,0) _ (fun _ h=>h) Tryz.underlying44 rfl (by rw [rowN_size];exact Hs4.out)) (by assumption) ?_;try simp only [Act.put,sA,sZ,sS]
   refine wpU 4 rfl ?_;try simp only [Act.put,sA,sZ,sS]
   refine wpAnyH_ready (rs:=[2,5]) (by kernel_rfl) (by simp) ?_
   refine AllReadyH.cons (o:=⟨_,_,_,_,_,_⟩) rfl (fun K hK=>?_) (AllReadyH.cons (o:=⟨_,_,_,_,_,_⟩) rfl (fun K hK=>?_) AllReadyH.nil)
   ·go_simp
    refine hK.out _ _ ?_ (fun hHeld=>?_)
    ·(try dsimp only);exact c3
    clear hK K
    try simp only [Act.put,sA,sZ,sS]
    refine wpR 5 rfl (fun K hK=>?_)
    go_simp
    refine(HA.out _).mono ?_
    rintro e V1 ⟨rfl,o1⟩
    go_wp2_with fail
    refine hK.out _ _ ?_ (fun hHeld=>?_)
    ·(try dsimp only);exact(cells.out V1 o1).2.2
    clear hK K
    try simp only [Act.put,sA,sZ,sS]
    refine wpU 6 rfl ?_;try simp only [Act.put,sA,sZ,sS]
    refine wpU 7 rfl ?_;try simp only [Act.put,sA,sZ,sS]
    obtain⟨d1,d2,d3⟩:=cells.out V1 o1
    refine wpR 8 rfl (fun K hK=>?_)
    go_simp
    refine hK.out _ _ ?_ (fun hHeld=>?_)
    ·(try dsimp only);exact keep2.out _ _ d3
    clear hK K
    try simp only [Act.put,sA,sZ,sS]
    refine wpAnyH_done (by kernel_rfl) ?_ _
    have HN:=zH (NX.out V1 o1)
    clear cells keep2 NX o1 c1 c2 c3 d1 d2 d3 q1 q2 HA
    go_wp2_with fail
    go_roundw
    case rel=>exact⟨k+1,by omega,by go_num,HN⟩
    case measure=>simp [intOf];omega
   ·go_simp
    refine(HA.out _).mono ?_
    rintro e V1 ⟨rfl,o1⟩
    go_wp2_with fail
    refine hK.out _ _ ?_ (fun hHeld=>?_)
    ·(try dsimp only);exact(cells.out V1 o1).2.2
    clear hK K
    try simp only [Act.put,sA,sZ,sS]
    obtain⟨d1,d2,d3⟩:=cells.out V1 o1
    refine wpR 2 rfl (fun K hK=>?_)
    go_simp
    refine hK.out _ _ ?_ (fun hHeld=>?_)
    ·(try dsimp only);exact d3
    clear hK K
    try simp only [Act.put,sA,sZ,sS]
    refine wpU 6 rfl ?_;try simp only [Act.put,sA,sZ,sS]
    refine wpU 7 rfl ?_;try simp only [Act.put,sA,sZ,sS]
    refine wpR 8 rfl (fun K hK=>?_)
    go_simp
    refine hK.out _ _ ?_ (fun hHeld=>?_)
    ·(try dsimp only);exact keep2.out _ _ d3
    clear hK K
    try simp only [Act.put,sA,sZ,sS]
    refine wpAnyH_done (by kernel_rfl) ?_ _
    have HN:=zH (NX.out V1 o1)
    clear cells keep2 NX o1 c1 c2 c3 d1 d2 d3 q1 q2 HA
    go_wp2_with fail
    go_roundw
    case rel=>exact⟨k+1,by omega,by go_num,HN⟩
    case measure=>simp [intOf];omega
  ·obtain rfl:k=16:=by omega
   have hg:rowN 16 (blk (toB 16 (upB f g) f))=rowN 16 (blk (upB f g)):=rowN_ext _ _ _ fun k hk=>by unfold blk toB;rw [if_pos hk]
   have Hg:=zH HS.out.b
   rw [hg] at Hg
   have Hr:=zH HS.out.r
   have Hd:=zH (HS.out.row (rowN 16 (blk (upB f g))))
   have Hs:Hid ((Tryz.prog.info? 43).map (·.size)=some 16):=zH (by kernel_rfl)
   have H1:Hid ((rowN 16 (blk (upB f g))).all (·.oneCell')=true):=zH (blk_one _ _)
   clear HS hg HAt
   have hsz:=rowN_size 16 (blk (upB f g))
   go_wp2_with (first | (with_reducible refine wpList_load_row rfl 43 _ rfl w.heap.size rfl 43 (rowN 16 (blk (upB f g))) (0,0) _ Hg.out Tryz.underlying43 rfl (by rw [hsz];exact Hs.out) ?_) | (with_reducible refine wpList_store_row rfl 43 _ _ rfl (w.heap.size+1+1) (rowN 16 (blk (upB f g))) rfl rfl 43 _ Hr.out (by rw [hsz];exact Hs.out) (by rw [hsz];exact hzs) H1.out ?_))
   exact bodyPost_ret (results_cell_row rfl _ _ (w.heap.size+1+1) 43 (rowN 16 (blk (upB f g))) (0,0) _ rfl Hd.out.1 Tryz.underlying43 rfl (by rw [hsz];exact Hs.out)) rfl ⟨rfl,Hd.out.2⟩
set_option maxHeartbeats 4000000 in
theorem Down_any(f g:Nat->Int)(hf:∀k,k<16->-9223372036854775808<=f k/\f k<=9223372036854775807)(w:World):
  Calls Tryz.prog 132 #[.agg (rowN 16 (blk f)),.agg (rowN 4 (blk g))] w fun e w'=>e = .returned (.agg (rowN 16 (blk (downB f g))))/\Old w w':=by
 obtain⟨z,hz⟩:∃z:Array Value,z=#[.int .i64 0,.int .i64 0,.int .i64 0,.int .i64 0,.int .i64 0,.int .i64 0,.int .i64 0,.int .i64 0,.int .i64 0,.int .i64 0,.int .i64 0,.int .i64 0,.int .i64 0,.int .i64 0,.int .i64 0,.int .i64 0]:=⟨_,rfl⟩
 have hzs:z.size=16:=by rw [hz];rfl
 have hst:=upd_start w 43 44 z f g
 have HAt:=zH (fun(i:Nat) (h:i<16) w=>At_any g i w (by omega) (by omega))
 have HRd:=zH (fun(i:Nat) (h:i<16) w=>Round_any (f i) (atI g i) w (atI_bd g i).1 (by have:=(atI_bd g i).2;omega) (hf i h).1 (hf i h).2)
 have Hs4:Hid ((Tryz.prog.info? 44).map (·.size)=some 4):=zH (by kernel_rfl)
 have Hs16:Hid ((Tryz.prog.info? 43).map (·.size)=some 16):=zH (by kernel_rfl)
 have HB0:Hid ((((w.alloc (.cells (rowN 16 (blk f)) 43)).alloc (.cells (rowN 4 (blk g)) 44)).alloc (.cells z 43)).heap[w.heap.size]?=some (.cells (rowN 16 (blk f)) 43 (0,0))):=hst.b
 have H0:Hid (UpSt w 43 44 z (toB 0 (downB f g) f) g (((w.alloc (.cells (rowN 16 (blk f)) 43)).alloc (.cells (rowN 4 (blk g)) 44)).alloc (.cells z 43))):=by rw [toB_zero];exact hst
 clear hst hf
 go_enter Tryz.func132,Tryz.ntmps132
 rw [hz] at HB0
 go_wp2_with (with_reducible refine wpList_load_row rfl 43 _ rfl w.heap.size rfl 43 (rowN 16 (blk f)) (0,0) _ HB0.out Tryz.underlying43 rfl (by rw [rowN_size];exact Hs16.out) ?_)
 rw [←hz]
 clear hz HB0
 go_loopw [8] (fun i wr=>∃k:Nat,k<=16/\i = .int .i64 k/\Hid (UpSt w 43 44 z (toB k (downB f g) f) g wr)) (fun i _=>16-(intOf i).toNat)
 case atStart=>exact⟨0,by omega,rfl,H0⟩
 case round=>
  obtain⟨k,hk,rfl,HS⟩:=hrel
  clear H0
  by_cases hlt:k<16
  ·have i1:(0:Int)<=k:=by omega
   have i2:(k:Int)<16:=by omega
   have hA:=HAt.out k hlt
   have hR:=HRd.out k hlt
   have hat:∀w:World,(Instr.index 43 (.agg (rowN 16 (blk f))) (.int .i64 k)).run Tryz.prog w = .ok (.int .i64 (f k)) w:=fun w=>run_index_ints Tryz.underlying43 Tryz.underlying2 (fun _=>by kernel_rfl) f k hlt w
   have NX:Hid (∀V,Old wr V->UpSt w 43 44 z (toB (k+1) (downB f g) f) g (V.setCell ⟨w.heap.size,k,none⟩ (.int .i64 (downI (f k) (atI g k))))):=fun V hV=>by
    have h:=(HS.out.keep hV).set k hlt (downI (f k) (atI g k))
    rw [toB_succ k (downB f g) f (downI (f k) (atI g k)) rfl] at h
    exact h
   have cells:Hid (∀V,Old wr V->V.cell? ⟨w.heap.size,k,none⟩=some (.int .i64 (toB k (downB f g) f k))/\V.frozen? ⟨w.heap.size,k,none⟩=false):=fun V hV=>(HS.out.keep hV).cell k hlt
   have HG:=zH HS.out.g
   rw [show roundI (f k) (pw (atI g k).toNat)=downI (f k) (atI g k) from rfl] at hR
   have HA:=zH hA
   have HR:=zH hR
   clear hA hR HAt HRd HS
   generalize atI g (k:Int)=s at *
   generalize downI (f k) s=u at *
   generalize toB k (downB f g) f k=c at *
   generalize f k=x at *
   go_wp2_with (with_reducible refine wpList_load_row rfl 44 _ rfl (w.heap.size+1) rfl 44 (rowN 4 (blk g)) (0,0) _ HG.out Tryz.underlying44 rfl (by rw [rowN_size];exact Hs4.out) ?_)
   refine(HA.out _).mono ?_
   rintro e V1 ⟨rfl,o1⟩
   go_wp2_with fail
   refine(HR.out _).mono ?_
   rintro e V2 ⟨rfl,n2,rfl⟩
   obtain⟨d1,d2⟩:=cells.out _ (o1.drewN n2)
   have HN:=zH (NX.out _ (o1.drewN n2))
   clear cells NX o1 HA HR HG
   go_wp2_with fail
   go_roundw
   case rel=>exact⟨k+1,by omega,by go_num,HN⟩
   case measure=>simp [intOf];omega
  ·obtain rfl:k=16:=by omega
   have hg:rowN 16 (blk (toB 16 (downB f g) f))=rowN 16 (blk (downB f g)):=rowN_ext _ _ _ fun k hk=>by unfold blk toB;rw [if_pos hk]
   have Hg:=zH HS.out.b
   rw [hg] at Hg
   have Hr:=zH HS.out.r
   have Hd:=zH (HS.out.row (rowN 16 (blk (downB f g))))
   have H1:Hid ((rowN 16 (blk (downB f g))).all (·.oneCell')=true):=zH (blk_one _ _)
   clear HS hg HAt HRd
   have hsz:=rowN_size 16 (blk (downB f g))
   go_wp2_with (first | (with_reducible refine wpList_load_row rfl 43 _ rfl w.heap.size rfl 43 (rowN 16 (blk (downB f g))) (0,0) _ Hg.out Tryz.underlying43 rfl (by rw [hsz];exact Hs16.out) ?_) | (with_reducible refine wpList_store_row rfl 43 _ _ rfl (w.heap.size+1+1) (rowN 16 (blk (downB f g))) rfl rfl 43 _ Hr.out (by rw [hsz];exact Hs16.out) (by rw [hsz];exact hzs) H1.out ?_))
   exact bodyPost_ret (results_cell_row rfl _ _ (w.heap.size+1+1) 43 (rowN 16 (blk (downB f g))) (0,0) _ rfl Hd.out.1 Tryz.underlying43 rfl (by rw [hsz];exact Hs16.out)) rfl ⟨rfl,Hd.out.2⟩
def gainsAt(G:Nat->Int)(ng i:Nat):Nat->Int:=if i<ng then(fun k=>G (i*4+k)) else fun _=>0
theorem gainsOf_any(p:Option Addr)(ng cap i:Nat)(G:Nat->Int)(w:World)(hs:SlF 4 w p ng G)(hi:i<=17179869184):
  Calls Tryz.prog 133 #[.slice p ng cap,.int .i64 i] w fun e w'=>e = .returned (.agg (rowN 4 (blk (gainsAt G ng i))))/\Old w w':=by
 have Hs4:Hid ((Tryz.prog.info? 44).map (·.size)=some 4):=zH (by kernel_rfl)
 have i0:(0:Int)<=i:=by omega
 by_cases h:i<ng
 ·obtain⟨g,o,rfl,hg,hc⟩:=hs (by omega)
  have e:gainsAt G ng i=fun k=>G (i*4+k):=by unfold gainsAt;rw [if_pos h]
  rw [e]
  have HC:Hid (∀j,j<4->(w.alloc (.cells #[.int .i64 0,.int .i64 0,.int .i64 0,.int .i64 0] 44)).cell? ⟨g,o+i*4+j,none⟩=some (.int .i64 (G (i*4+j)))):=fun j hj=>by
   rw [Nat.add_assoc,(Old.alloc w _).cell (a:=⟨g,o+(i*4+j),none⟩) hg]
   exact hc (i*4+j) (by omega)
  have h':(i:Int)<ng:=by omega
  have H1:=zH (blk_one (fun k=>G (i*4+k)) 4)
  clear hs hc e hg
  go_enter Tryz.func133,Tryz.ntmps133
  go_wp2_with (first | (with_reducible refine wpList_load_blk rfl 4 (fun k=>G (i*4+k)) 44 _ rfl g (o+i*4) rfl _ HC.out Tryz.underlying44 rfl Hs4.out ?_) | (with_reducible refine wpList_store_row rfl 44 _ _ rfl w.heap.size (rowN 4 (blk fun k=>G (i*4+k))) rfl rfl 44 _ (heap_alloc_new _ _) (by rw [rowN_size];exact Hs4.out) (by rw [rowN_size];kernel_rfl) H1.out ?_;rw [World.setRow_alloc_new]))
  exact bodyPost_ret (results_cell_row rfl _ _ w.heap.size 44 _ (0,0) _ rfl (heap_alloc_new _ _) Tryz.underlying44 rfl (by rw [rowN_size];exact Hs4.out)) rfl ⟨rfl,Old.alloc _ _⟩
 ·have e:rowN 4 (blk (gainsAt G ng i))=rowN 4 (blk fun _=>0):=by unfold gainsAt;rw [if_neg h]
  have h':(ng:Int)<=i:=by omega
  rw [e,show rowN 4 (blk fun _=>0)=#[.int .i64 0,.int .i64 0,.int .i64 0,.int .i64 0] from rfl]
  clear hs e
  go_enter Tryz.func133,Tryz.ntmps133
  go_wp2_with (with_reducible refine wpList_store_row rfl 44 _ _ rfl w.heap.size #[.int .i64 0,.int .i64 0,.int .i64 0,.int .i64 0] rfl rfl 44 _ (heap_alloc_new _ _) Hs4.out (by kernel_rfl) (by kernel_rfl) ?_;rw [World.setRow_alloc_new])
  exact bodyPost_ret (results_cell_row rfl _ _ w.heap.size 44 _ (0,0) _ rfl (heap_alloc_new _ _) Tryz.underlying44 rfl Hs4.out) rfl ⟨rfl,Old.alloc _ _⟩
theorem ownS.cells{X:Nat->Prop}{w:World}{e:TypeId}{s n:Nat}{v:Value}{F:Nat->Int}(h:ownS X w e s v n (rowL (n*s) F))(h0:0<n):∃g cap,v = .slice (some ⟨g,0,none⟩) n cap/\¬X g/\CellsAt w g (s*n) F:=by
 rcases h.1.2 with ⟨_,h1⟩ | ⟨g,cap,cur,rfl,hb,hg,hn,hc,hs,ht⟩
 ·omega
 ·refine⟨g,cap,rfl,h.2 g rfl,lt_of_block hg,fun j hj=>?_,fun j hj=>frozen_of_row _ _ _ _ _ hg⟩
  rw [cell_of_row _ _ _ _ _ _ hg]
  have h1:=rowL_at (n*s) F j (by rw [Nat.mul_comm];exact hj)
  rw [←ht,List.getElem?_take] at h1
  rw [if_pos (by rw [Nat.mul_comm n s];exact hj)] at h1
  simpa using h1
theorem own_emptyL(w:World)(t:TypeId)(s:Nat):ownS (fun q=>q<w.heap.size) (w.alloc (.cells #[] t)) t s (.slice (some ⟨w.heap.size,0,none⟩) 0 0) 0 []:=by
 refine⟨⟨by simp,.inr ⟨w.heap.size,0,#[],rfl,Nat.zero_le _,heap_alloc_new _ _,Nat.le_refl _,Nat.zero_le _,by simp,by simp⟩⟩,fun k hk=>?_⟩
 have:k=w.heap.size:=by simpa [Value.ownBlock,eq_comm] using hk
 omega
set_option maxHeartbeats 1000000 in
theorem CloneBk_any(p:Option Addr)(n cap:Nat)(F:Nat->Int)(w:World)(hs:SlF 16 w p n F)(hn:n<=17179869184)(hp:n=0->p=none->cap=0):
  Calls Tryz.prog 129 #[.slice p n cap] w fun e w'=>∃q c,e = .returned (.slice q n c)/\OwnR 16 (fun q=>q<w.heap.size) w' q n F/\Old w w':=by
 obtain⟨i0,hi,hz0,hz1,hz2⟩:=info_parts Tryz.info_block
 cases p with
 | none=>
  have h0:n=0:=by
   rcases Nat.eq_zero_or_pos n with h | h
   ·exact h
   ·obtain⟨b,off,hp,_⟩:=hs h
    cases hp
  subst h0
  have hE:=eql_sl_nil 183 43 none 0 cap Tryz.underlying183
  clear hs hp
  go_enter Tryz.func129,Tryz.ntmps129
  go_wp2
  go_ret
  exact⟨_,_,rfl,fun h=>absurd h (by omega),Old.refl w⟩
 | some a=>
  have HN:Hid (∀j u,(rowL (n*16) F)[j]?=some u->(w.alloc (.cells #[] 43)).cell? (a.add j)=some u):=by
   intro j u hj
   obtain⟨hj,rfl⟩:=rowL_get hj
   obtain⟨b,off,hp,hb,hcell⟩:=hs (by omega)
   obtain rfl:a=⟨b,off,none⟩:=by simpa using hp
   rw [add_plain,(Old.alloc w (.cells #[] 43)).cell (a:=⟨b,off+j,none⟩) hb]
   exact hcell j (by omega)
  have HO:Hid (Old w (w.alloc (.cells #[] 43))):=Old.alloc _ _
  have HM:Hid ((rowL (n*16) F).length=n*16):=rowL_len _ _
  have H1:=zH (rowL_one (n*16) F)
  clear hs hp
  have hE:=eql_sl_nil 183 43 (some a) n cap Tryz.underlying183
  go_enter Tryz.func129,Tryz.ntmps129
  go_wp2_with (at_builtin;refine append_S _ rfl _ _ 183 rfl (fun q=>q<w.heap.size) 43 i0 _ 16 128 Tryz.underlying183 hi hz0 hz1 hz2 rfl (by omega) _ _ _ rfl (own_emptyL w 43 16) a n cap (rowL (n*16) F) rfl HM.out HN.out H1.out (by unfold maxLen;omega) (by omega) (fun q hq=>Nat.lt_of_lt_of_le hq HO.out.size) ?_;intro v' w2 hown2 hk2 _;have HR2:=zH (show ownS (fun q=>q<w.heap.size) w2 43 16 v' n (rowL (n*16) F) from(by have:=hown2;rw [Nat.zero_add,List.nil_append] at this;exact this));have HO2:=zH (HO.out.after hk2 (fun _ h=>h));clear hown2 hk2 HO HN HM H1)
  obtain⟨q,c,hv⟩:∃q c,v' = .slice q n c:=by
   rcases HR2.out.1.2 with ⟨rfl,h0⟩ | ⟨g,c,_,rfl,_⟩
   ·exact⟨none,0,by rw [h0]⟩
   ·exact⟨_,c,rfl⟩
  subst hv
  have HF:Hid (OwnR 16 (fun q=>q<w.heap.size) w2 q n F):=fun h0=>by
   obtain⟨g,c',hv,hX,hc⟩:=HR2.out.cells h0
   simp only [Value.slice.injEq] at hv
   exact⟨g,hv.1,hX,hc⟩
  clear HR2
  go_ret
  exact⟨_,_,rfl,HF.out,HO2.out⟩
def fewM(S:Smp)(k:Nat):Nat:=if 150<S.M k then 150 else S.M k
def fewV(S:Smp)(k:Nat):List Value:=(List.range k).map fun i=>.slice (S.Q i) (fewM S i) (S.C i)
theorem fewV_succ(S:Smp)(k:Nat):fewV S (k+1)=fewV S k ++ [.slice (S.Q k) (fewM S k) (S.C k)]:=by unfold fewV;rw [List.range_succ,List.map_append];rfl
theorem fewV_len(S:Smp)(k:Nat):(fewV S k).length=k:=by simp [fewV]
theorem Tryz.infoR:(Tryz.prog.info? 23).map (fun i=>(i.zero,i.size,i.bytes))=some (some (.slice none 0 0),1,24):=by kernel_rfl
def few100(s:ByteArray):ByteArray:=if 100<s.size then s.extract 0 100 else s
structure FewOf(S S':Smp):Prop where
 s:S'.s=few100 S.s
 r:S'.r=S.r
 lp:S'.lp=S.lp
 a:S'.a=S.a
 b:S'.b=S.b
 n:S'.n=min S.n 4
 M:S'.M=fewM S
 X:S'.X=S.X
def FewR(w:World)(S:Smp)(e:Ending)(w':World):Prop:=∃S':Smp,e = .returned (.agg S'.cells)/\SmOk w' S'/\SmFew S'/\Old w w'/\(∀a,0<S'.n->S'.p=some a->w.heap.size<=a.block)/\S'.Q=S.Q/\S'.n<=S.n/\(∀i,S'.M i<=S.M i)/\FewOf S S'
set_option maxHeartbeats 8000000 in
theorem Few_any(S:Smp)(w:World)(hs:SmOk w S):
  Calls Tryz.prog 59 #[S.val] w (FewR w S):=by
 have Hs6:Hid ((Tryz.prog.info? 90).map (·.size)=some 6):=zH (by kernel_rfl)
 obtain⟨ir,hir,hr0,hr1,hr2⟩:=info_parts Tryz.infoR
 obtain⟨z,hz⟩:∃z:Array Value,z=#[.string ⟨#[]⟩,.int .i64 0,.bool false,.int .i64 0,.int .i64 0,.slice none 0 0]:=⟨_,rfl⟩
 have Hz6:Hid (z.size=6):=zH (by rw [hz];rfl)
 obtain⟨W1,hW1⟩:∃W1,W1=(w.alloc (.cells S.cells 90)).alloc (.cells z 90):=⟨_,rfl⟩
 have hst:FewSt w W1 S z:=by
  rw [hW1]
  refine⟨(SmB.new w S).old (Old.alloc _ _),?_,(Old.alloc w _).alloc' _⟩
  exact heap_alloc2_new w _ _
 have HS:=zH hst
 obtain⟨c0,_⟩:=hst.b.at
 have f0:W1.frozen? ⟨w.heap.size,0,none⟩=false:=frozen_of_row _ _ _ _ _ hst.b
 have HOK:=zH hs
 rw [hz] at hW1
 unfold Smp.cells at hW1
 have HW:=zH hW1
 unfold Smp.val Smp.cells
 clear hs hst hW1 hz
 go_enter Tryz.func59,Tryz.ntmps59
 go_upto_region 1 with fail
 rw [←HW.out]
 clear HW
 have h1:(100<S.s.size/\∃s',s'=S.s.extract 0 100/\s'.size<=100)\/(¬100<S.s.size/\∃s',s'=S.s/\s'.size<=100):=by
  by_cases h:100<S.s.size
  ·exact .inl ⟨h,_,rfl,by rw [ByteArray.size_extract];omega⟩
  ·exact .inr ⟨h,_,rfl,by omega⟩
 rcases h1 with ⟨h1,s',hs',hsz⟩ | ⟨h1,s',hs',hsz⟩
 case inl=>
  have d:decide (100<(S.s.size:Int))=true:=decide_eq_true (by omega)
  have HS2:=zH (HS.out.named s')
  have HSZ:=zH hsz
  have HNm:Hid (s'=few100 S.s):=zH (by rw [hs'];unfold few100;first | rw [if_pos h1] | rw [if_neg h1])
  go_wp2_with fail
  clear d h1 c0 f0 HS hsz
  rw [←hs']
  clear hs'
  go_loopw [3,4] (fun v i wr=>∃k:Nat,k<=4/\k<=S.n/\i = .int .i64 k/\Hid (FewSt w wr (S.named s') z)/\Hid (ownX (fun q=>q<w.heap.size+2) wr 23 v k (fewV S k))) (fun _ i _=>4-(intOf i).toNat)
  case atStart=>exact⟨0,by omega,by omega,rfl,HS2,zH (ownX.nil _ _ _)⟩
  case round=>
   clear HS2
   obtain⟨k,hk4,hkn,rfl,HF,HA⟩:=hrel
   obtain⟨b0,b1,b2,b3,b4,b5⟩:=HF.out.b.at
   have hb5:wr.cell? ⟨w.heap.size,5,none⟩=some (.slice S.p S.n S.c):=b5
   clear b5
   have hend:(k=4\/k=S.n)\/(k<4/\k<S.n):=by omega
   rcases hend with hend | ⟨h4,hn⟩
   ·have dd:(decide ((k:Int)<(S.n:Int)) && decide ((k:Int)<4))=false:=by rcases hend with h | h <;> simp <;> omega
    have hsh:=HA.out.shape
    have hst:=HF.out
    obtain⟨p',c',hv,hle,hcm,hcells⟩:∃p' c',u3 = .slice p' k c'/\k<=c'/\c'<=maxLen/\(0<k->∃g o,p'=some ⟨g,o,none⟩/\g<wr.heap.size/\w.heap.size+2<=g/\∀i,i<k->wr.cell? ⟨g,o+i,none⟩=some (.slice (S.Q i) (fewM S i) (S.C i))):=by
     rcases hsh with ⟨hv,h0⟩ | ⟨g,cap,hv,hX,hg,h1,h2,h3⟩
     ·subst h0
      exact⟨none,0,hv,Nat.le_refl _,Nat.zero_le _,fun h=>by omega⟩
     ·refine⟨_,cap,hv,h1,h2,fun h0=>⟨g,0,rfl,hg,by simpa using hX,fun i hi=>?_⟩⟩
      rw [Nat.zero_add]
      refine h3 i _ ?_
      unfold fewV
      rw [List.getElem?_map,List.getElem?_range hi]
      rfl
    subst hv
    have f5:wr.frozen? ⟨w.heap.size,5,none⟩=false:=frozen_of_row _ _ _ _ _ hst.b
    have hst2:=hst.rowed p' k c' (fewM S)
    obtain⟨d0,d1,d2,d3,d4,d5⟩:=hst2.b.at
    have d0:(wr.setCell ⟨w.heap.size,5,none⟩ (.slice p' k c')).cell? ⟨w.heap.size,0,none⟩=some (.string s'):=d0
    have d1:(wr.setCell ⟨w.heap.size,5,none⟩ (.slice p' k c')).cell? ⟨w.heap.size,1,none⟩=some (.int .i64 S.r):=d1
    have d2:(wr.setCell ⟨w.heap.size,5,none⟩ (.slice p' k c')).cell? ⟨w.heap.size,2,none⟩=some (.bool S.lp):=d2
    have d3:(wr.setCell ⟨w.heap.size,5,none⟩ (.slice p' k c')).cell? ⟨w.heap.size,3,none⟩=some (.int .i64 S.a):=d3
    have d4:(wr.setCell ⟨w.heap.size,5,none⟩ (.slice p' k c')).cell? ⟨w.heap.size,4,none⟩=some (.int .i64 S.b):=d4
    have d5:(wr.setCell ⟨w.heap.size,5,none⟩ (.slice p' k c')).cell? ⟨w.heap.size,5,none⟩=some (.slice p' k c'):=d5
    obtain⟨W3,hW3⟩:∃W3,W3=wr.setCell ⟨w.heap.size,5,none⟩ (.slice p' k c'):=⟨_,rfl⟩
    have hfew:SmFew ((S.named s').rowed p' k c' (fewM S)):=⟨HSZ.out,hk4,fun i hi=>by show fewM S i<=150;unfold fewM;split <;> omega⟩
    have HFW:=zH hfew
    have hst3:FewSt w W3 ((S.named s').rowed p' k c' (fewM S)) z:=by rw [hW3];exact hst2
    have HST:=zH hst3
    have HW3:=zH hW3
    rw [←hW3] at d0 d1 d2 d3 d4 d5
    obtain⟨R,hR⟩:∃R:Array Value,R=#[.string s',.int .i64 S.r,.bool S.lp,.int .i64 S.a,.int .i64 S.b,.slice p' k c']:=⟨_,rfl⟩
    have HR:=zH hR
    have hrr:=row_ret hst3.r hst3.old (by omega) R
    have hok:SmOk (W3.setRow (w.heap.size+1) R) ((S.named s').rowed p' k c' (fewM S)):=by
     refine⟨by have:=HSZ.out;exact Nat.le_trans this (by decide),hle,hcm,⟨fun h0=>?_,fun i hi=>?_⟩⟩
     ·obtain⟨g,o,e,h1,h2,h3⟩:=hcells h0
      have hk:Kept (fun q=>w.heap.size+2<=q) wr (W3.setRow (w.heap.size+1) R):=by
       rw [hW3]
       exact(Kept.setCell wr (a:=⟨w.heap.size,5,none⟩) (by simp) _).trans ⟨rfl,rfl,by simp,fun k hk=>setRow_other _ _ _ _ (by omega)⟩
      refine⟨g,o,e,Nat.lt_of_lt_of_le h1 hk.size,fun i hi=>(hk.cell (a:=⟨g,o+i,none⟩) h2).trans (h3 i hi)⟩
     ·have hi':i<S.n:=by
       have:i<k:=hi
       omega
      have hr:=(HOK.out.old hrr.2).rows.row i hi'
      have hm:fewM S i<=S.M i:=by unfold fewM;split <;> omega
      refine⟨Nat.le_trans hm hr.1,hr.2.1,fun h0=>?_⟩
      obtain⟨g,o,e,h1,h2⟩:=hr.2.2 (Nat.lt_of_lt_of_le h0 hm)
      exact⟨g,o,e,h1,fun j hj=>h2 j (Nat.lt_of_lt_of_le hj hm)⟩
    have HOK2:=zH hok
    have HRR:=zH hrr
    have HGP:=zH (show 0<k->∃g o,p'=some ⟨g,o,none⟩/\w.heap.size<=g from fun h0=>by
     obtain⟨g,o,e,_,h2,_⟩:=hcells h0
     exact⟨g,o,e,by omega⟩)
    have HR6:Hid (R.size=6):=zH (by rw [hR];rfl)
    have HR1:Hid (R.all (·.oneCell')=true):=zH (by rw [hR];kernel_rfl)
    clear hrr hok hfew hst hst2 hst3 hsh hcells hle hcm HF HA HOK b0 b1 b2 b3 b4 hW3 hR dd
    rcases hend with h | h
    ·have e4:decide ((k:Int)<4)=false:=decide_eq_false (by omega)
     have HKn:Hid (k=min S.n 4):=zH (by omega)
     clear h
     go_wp2_with (first | (rw [←HW3.out]) | (rw [←HR.out];with_reducible refine wpList_store_row rfl 90 _ _ rfl (w.heap.size+1) R rfl rfl 90 _ HST.out.r (by rw [HR6.out];exact Hs6.out) (by rw [HR6.out,Hz6.out]) HR1.out ?_))
     all_goals
      refine bodyPost_ret (results_cell_row rfl _ _ (w.heap.size+1) 90 R (0,0) _ rfl HRR.out.1 Tryz.underlying90 rfl (by rw [HR6.out];exact Hs6.out)) rfl ?_
      exact⟨_,by rw [HR.out];rfl,HOK2.out,HFW.out,HRR.out.2,fun a h0 ha=>by obtain⟨g,o,e,h⟩:=HGP.out h0;have ha:p'=some a:=ha;rw [e] at ha;cases ha;exact h,rfl,hkn,(fun i=>by show fewM S i<=S.M i;unfold fewM;split <;> omega),⟨HNm.out,rfl,rfl,rfl,rfl,HKn.out,rfl,rfl⟩⟩
    ·have e4:decide ((k:Int)<(S.n:Int))=false:=decide_eq_false (by omega)
     have e5:¬((k:Int)<(S.n:Int)):=by omega
     have HKn:Hid (k=min S.n 4):=zH (by omega)
     clear h
     go_wp2_with (first | (rw [←HW3.out]) | (rw [←HR.out];with_reducible refine wpList_store_row rfl 90 _ _ rfl (w.heap.size+1) R rfl rfl 90 _ HST.out.r (by rw [HR6.out];exact Hs6.out) (by rw [HR6.out,Hz6.out]) HR1.out ?_))
     all_goals
      refine bodyPost_ret (results_cell_row rfl _ _ (w.heap.size+1) 90 R (0,0) _ rfl HRR.out.1 Tryz.underlying90 rfl (by rw [HR6.out];exact Hs6.out)) rfl ?_
      exact⟨_,by rw [HR.out];rfl,HOK2.out,HFW.out,HRR.out.2,fun a h0 ha=>by obtain⟨g,o,e,h⟩:=HGP.out h0;have ha:p'=some a:=ha;rw [e] at ha;cases ha;exact h,rfl,hkn,(fun i=>by show fewM S i<=S.M i;unfold fewM;split <;> omega),⟨HNm.out,rfl,rfl,rfl,rfl,HKn.out,rfl,rfl⟩⟩
   ·obtain⟨g,o,hp,hg,hc⟩:=(HOK.out.old HF.out.old).rows.cell (by omega)
    have ck:=hc k hn
    have hr:=(HOK.out.old HF.out.old).rows.row k hn
    rw [hp] at hb5
    have q1:(k:Int)<S.n:=by omega
    have HLT:=zH HF.out.lt
    have HN:=zH (fewV_succ S k)
    have HLN:=zH (fewV_len S k)
    by_cases hm:150<S.M k
    ·obtain⟨g2,o2,hQ,_,_⟩:=hr.2.2 (by omega)
     have hcl:150<=S.C k:=by have:=hr.1;omega
     rw [hQ] at ck
     have HX:Hid (fewV S (k+1)=fewV S k ++ [.slice (some ⟨g2,o2,none⟩) 150 (S.C k)]):=zH (by rw [HN.out,hQ];unfold fewM;rw [if_pos hm])
     have hcm:S.C k<=9223372036854775807:=by have:=hr.2.1;unfold maxLen at this;omega
     have HA1:=zH (HA.out.old (Old.alloc wr (.cells #[.slice (some ⟨g2,o2,none⟩) 150 (S.C k)] 23)))
     have HF1:=zH (HF.out.kept ((Old.alloc wr (.cells #[.slice (some ⟨g2,o2,none⟩) 150 (S.C k)] 23)).kept (fun q hq=>by have:=HLT.out;omega)))
     clear hc hr hp hQ HA HF HN hg
     go_wp2_with (at_builtin;refine append_X _ rfl _ _ 88 rfl (fun q=>q<w.heap.size+2) 23 ir (.slice none 0 0) 24 Tryz.underlying88 hir hr0 hr1 hr2 rfl _ _ _ rfl HA1.out ⟨wr.heap.size,0,none⟩ 1 1 [.slice (some ⟨g2,o2,none⟩) 150 (S.C k)] rfl rfl (news_one wr _ _) (one_val rfl) (by unfold maxLen;omega) (by omega) (fun q hq=>by have:=HF1.out.lt;omega) ?_;intro v' w2 hown2 hk2 _;have HF2:=zH (HF1.out.kept hk2);have HA2:=zH hown2;clear hown2 hk2 HA1 HF1)
     go_roundw
     case rel=>exact⟨k+1,by omega,by omega,by go_num,HF2,by rw [HX.out];exact HA2⟩
     case measure=>simp [intOf];omega
    ·have HX:Hid (fewV S (k+1)=fewV S k ++ [.slice (S.Q k) (S.M k) (S.C k)]):=zH (by rw [HN.out];unfold fewM;rw [if_neg hm])
     have HA1:=zH (HA.out.old (Old.alloc wr (.cells #[.slice (S.Q k) (S.M k) (S.C k)] 23)))
     have HF1:=zH (HF.out.kept ((Old.alloc wr (.cells #[.slice (S.Q k) (S.M k) (S.C k)] 23)).kept (fun q hq=>by have:=HLT.out;omega)))
     clear hc hr hp HA HF HN hg
     go_wp2_with (at_builtin;refine append_X _ rfl _ _ 88 rfl (fun q=>q<w.heap.size+2) 23 ir (.slice none 0 0) 24 Tryz.underlying88 hir hr0 hr1 hr2 rfl _ _ _ rfl HA1.out ⟨wr.heap.size,0,none⟩ 1 1 [.slice (S.Q k) (S.M k) (S.C k)] rfl rfl (news_one wr _ _) (one_val rfl) (by unfold maxLen;omega) (by omega) (fun q hq=>by have:=HF1.out.lt;omega) ?_;intro v' w2 hown2 hk2 _;have HF2:=zH (HF1.out.kept hk2);have HA2:=zH hown2;clear hown2 hk2 HA1 HF1)
     go_roundw
     case rel=>exact⟨k+1,by omega,by omega,by go_num,HF2,by rw [HX.out];exact HA2⟩
     case measure=>simp [intOf];omega
 case inr=>
  have d:decide (100<(S.s.size:Int))=false:=decide_eq_false (by omega)
  have HS2:=zH (show FewSt w W1 (S.named s') z by rw [hs'];exact HS.out)
  have HSZ:=zH hsz
  have HNm:Hid (s'=few100 S.s):=zH (by rw [hs'];unfold few100;first | rw [if_pos h1] | rw [if_neg h1])
  go_wp2_with fail
  clear d h1 c0 f0 HS hs' hsz
  go_loopw [3,4] (fun v i wr=>∃k:Nat,k<=4/\k<=S.n/\i = .int .i64 k/\Hid (FewSt w wr (S.named s') z)/\Hid (ownX (fun q=>q<w.heap.size+2) wr 23 v k (fewV S k))) (fun _ i _=>4-(intOf i).toNat)
  case atStart=>exact⟨0,by omega,by omega,rfl,HS2,zH (ownX.nil _ _ _)⟩
  case round=>
   clear HS2
   obtain⟨k,hk4,hkn,rfl,HF,HA⟩:=hrel
   obtain⟨b0,b1,b2,b3,b4,b5⟩:=HF.out.b.at
   have hb5:wr.cell? ⟨w.heap.size,5,none⟩=some (.slice S.p S.n S.c):=b5
   clear b5
   have hend:(k=4\/k=S.n)\/(k<4/\k<S.n):=by omega
   rcases hend with hend | ⟨h4,hn⟩
   ·have dd:(decide ((k:Int)<(S.n:Int)) && decide ((k:Int)<4))=false:=by rcases hend with h | h <;> simp <;> omega
    have hsh:=HA.out.shape
    have hst:=HF.out
    obtain⟨p',c',hv,hle,hcm,hcells⟩:∃p' c',u3 = .slice p' k c'/\k<=c'/\c'<=maxLen/\(0<k->∃g o,p'=some ⟨g,o,none⟩/\g<wr.heap.size/\w.heap.size+2<=g/\∀i,i<k->wr.cell? ⟨g,o+i,none⟩=some (.slice (S.Q i) (fewM S i) (S.C i))):=by
     rcases hsh with ⟨hv,h0⟩ | ⟨g,cap,hv,hX,hg,h1,h2,h3⟩
     ·subst h0
      exact⟨none,0,hv,Nat.le_refl _,Nat.zero_le _,fun h=>by omega⟩
     ·refine⟨_,cap,hv,h1,h2,fun h0=>⟨g,0,rfl,hg,by simpa using hX,fun i hi=>?_⟩⟩
      rw [Nat.zero_add]
      refine h3 i _ ?_
      unfold fewV
      rw [List.getElem?_map,List.getElem?_range hi]
      rfl
    subst hv
    have f5:wr.frozen? ⟨w.heap.size,5,none⟩=false:=frozen_of_row _ _ _ _ _ hst.b
    have hst2:=hst.rowed p' k c' (fewM S)
    obtain⟨d0,d1,d2,d3,d4,d5⟩:=hst2.b.at
    have d0:(wr.setCell ⟨w.heap.size,5,none⟩ (.slice p' k c')).cell? ⟨w.heap.size,0,none⟩=some (.string s'):=d0
    have d1:(wr.setCell ⟨w.heap.size,5,none⟩ (.slice p' k c')).cell? ⟨w.heap.size,1,none⟩=some (.int .i64 S.r):=d1
    have d2:(wr.setCell ⟨w.heap.size,5,none⟩ (.slice p' k c')).cell? ⟨w.heap.size,2,none⟩=some (.bool S.lp):=d2
    have d3:(wr.setCell ⟨w.heap.size,5,none⟩ (.slice p' k c')).cell? ⟨w.heap.size,3,none⟩=some (.int .i64 S.a):=d3
    have d4:(wr.setCell ⟨w.heap.size,5,none⟩ (.slice p' k c')).cell? ⟨w.heap.size,4,none⟩=some (.int .i64 S.b):=d4
    have d5:(wr.setCell ⟨w.heap.size,5,none⟩ (.slice p' k c')).cell? ⟨w.heap.size,5,none⟩=some (.slice p' k c'):=d5
    obtain⟨W3,hW3⟩:∃W3,W3=wr.setCell ⟨w.heap.size,5,none⟩ (.slice p' k c'):=⟨_,rfl⟩
    have hfew:SmFew ((S.named s').rowed p' k c' (fewM S)):=⟨HSZ.out,hk4,fun i hi=>by show fewM S i<=150;unfold fewM;split <;> omega⟩
    have HFW:=zH hfew
    have hst3:FewSt w W3 ((S.named s').rowed p' k c' (fewM S)) z:=by rw [hW3];exact hst2
    have HST:=zH hst3
    have HW3:=zH hW3
    rw [←hW3] at d0 d1 d2 d3 d4 d5
    obtain⟨R,hR⟩:∃R:Array Value,R=#[.string s',.int .i64 S.r,.bool S.lp,.int .i64 S.a,.int .i64 S.b,.slice p' k c']:=⟨_,rfl⟩
    have HR:=zH hR
    have hrr:=row_ret hst3.r hst3.old (by omega) R
    have hok:SmOk (W3.setRow (w.heap.size+1) R) ((S.named s').rowed p' k c' (fewM S)):=by
     refine⟨by have:=HSZ.out;exact Nat.le_trans this (by decide),hle,hcm,⟨fun h0=>?_,fun i hi=>?_⟩⟩
     ·obtain⟨g,o,e,h1,h2,h3⟩:=hcells h0
      have hk:Kept (fun q=>w.heap.size+2<=q) wr (W3.setRow (w.heap.size+1) R):=by
       rw [hW3]
       exact(Kept.setCell wr (a:=⟨w.heap.size,5,none⟩) (by simp) _).trans ⟨rfl,rfl,by simp,fun k hk=>setRow_other _ _ _ _ (by omega)⟩
      refine⟨g,o,e,Nat.lt_of_lt_of_le h1 hk.size,fun i hi=>(hk.cell (a:=⟨g,o+i,none⟩) h2).trans (h3 i hi)⟩
     ·have hi':i<S.n:=by
       have:i<k:=hi
       omega
      have hr:=(HOK.out.old hrr.2).rows.row i hi'
      have hm:fewM S i<=S.M i:=by unfold fewM;split <;> omega
      refine⟨Nat.le_trans hm hr.1,hr.2.1,fun h0=>?_⟩
      obtain⟨g,o,e,h1,h2⟩:=hr.2.2 (Nat.lt_of_lt_of_le h0 hm)
      exact⟨g,o,e,h1,fun j hj=>h2 j (Nat.lt_of_lt_of_le hj hm)⟩
    have HOK2:=zH hok
    have HRR:=zH hrr
    have HGP:=zH (show 0<k->∃g o,p'=some ⟨g,o,none⟩/\w.heap.size<=g from fun h0=>by
     obtain⟨g,o,e,_,h2,_⟩:=hcells h0
     exact⟨g,o,e,by omega⟩)
    have HR6:Hid (R.size=6):=zH (by rw [hR];rfl)
    have HR1:Hid (R.all (·.oneCell')=true):=zH (by rw [hR];kernel_rfl)
    clear hrr hok hfew hst hst2 hst3 hsh hcells hle hcm HF HA HOK b0 b1 b2 b3 b4 hW3 hR dd
    rcases hend with h | h
    ·have e4:decide ((k:Int)<4)=false:=decide_eq_false (by omega)
     have HKn:Hid (k=min S.n 4):=zH (by omega)
     clear h
     go_wp2_with (first | (rw [←HW3.out]) | (rw [←HR.out];with_reducible refine wpList_store_row rfl 90 _ _ rfl (w.heap.size+1) R rfl rfl 90 _ HST.out.r (by rw [HR6.out];exact Hs6.out) (by rw [HR6.out,Hz6.out]) HR1.out ?_))
     all_goals
      refine bodyPost_ret (results_cell_row rfl _ _ (w.heap.size+1) 90 R (0,0) _ rfl HRR.out.1 Tryz.underlying90 rfl (by rw [HR6.out];exact Hs6.out)) rfl ?_
      exact⟨_,by rw [HR.out];rfl,HOK2.out,HFW.out,HRR.out.2,fun a h0 ha=>by obtain⟨g,o,e,h⟩:=HGP.out h0;have ha:p'=some a:=ha;rw [e] at ha;cases ha;exact h,rfl,hkn,(fun i=>by show fewM S i<=S.M i;unfold fewM;split <;> omega),⟨HNm.out,rfl,rfl,rfl,rfl,HKn.out,rfl,rfl⟩⟩
    ·have e4:decide ((k:Int)<(S.n:Int))=false:=decide_eq_false (by omega)
     have e5:¬((k:Int)<(S.n:Int)):=by omega
     have HKn:Hid (k=min S.n 4):=zH (by omega)
     clear h
     go_wp2_with (first | (rw [←HW3.out]) | (rw [←HR.out];with_reducible refine wpList_store_row rfl 90 _ _ rfl (w.heap.size+1) R rfl rfl 90 _ HST.out.r (by rw [HR6.out];exact Hs6.out) (by rw [HR6.out,Hz6.out]) HR1.out ?_))
     all_goals
      refine bodyPost_ret (results_cell_row rfl _ _ (w.heap.size+1) 90 R (0,0) _ rfl HRR.out.1 Tryz.underlying90 rfl (by rw [HR6.out];exact Hs6.out)) rfl ?_
      exact⟨_,by rw [HR.out];rfl,HOK2.out,HFW.out,HRR.out.2,fun a h0 ha=>by obtain⟨g,o,e,h⟩:=HGP.out h0;have ha:p'=some a:=ha;rw [e] at ha;cases ha;exact h,rfl,hkn,(fun i=>by show fewM S i<=S.M i;unfold fewM;split <;> omega),⟨HNm.out,rfl,rfl,rfl,rfl,HKn.out,rfl,rfl⟩⟩
   ·obtain⟨g,o,hp,hg,hc⟩:=(HOK.out.old HF.out.old).rows.cell (by omega)
    have ck:=hc k hn
    have hr:=(HOK.out.old HF.out.old).rows.row k hn
    rw [hp] at hb5
    have q1:(k:Int)<S.n:=by omega
    have HLT:=zH HF.out.lt
    have HN:=zH (fewV_succ S k)
    have HLN:=zH (fewV_len S k)
    by_cases hm:150<S.M k
    ·obtain⟨g2,o2,hQ,_,_⟩:=hr.2.2 (by omega)
     have hcl:150<=S.C k:=by have:=hr.1;omega
     rw [hQ] at ck
     have HX:Hid (fewV S (k+1)=fewV S k ++ [.slice (some ⟨g2,o2,none⟩) 150 (S.C k)]):=zH (by rw [HN.out,hQ];unfold fewM;rw [if_pos hm])
     have hcm:S.C k<=9223372036854775807:=by have:=hr.2.1;unfold maxLen at this;omega
     have HA1:=zH (HA.out.old (Old.alloc wr (.cells #[.slice (some ⟨g2,o2,none⟩) 150 (S.C k)] 23)))
     have HF1:=zH (HF.out.kept ((Old.alloc wr (.cells #[.slice (some ⟨g2,o2,none⟩) 150 (S.C k)] 23)).kept (fun q hq=>by have:=HLT.out;omega)))
     clear hc hr hp hQ HA HF HN hg
     go_wp2_with (at_builtin;refine append_X _ rfl _ _ 88 rfl (fun q=>q<w.heap.size+2) 23 ir (.slice none 0 0) 24 Tryz.underlying88 hir hr0 hr1 hr2 rfl _ _ _ rfl HA1.out ⟨wr.heap.size,0,none⟩ 1 1 [.slice (some ⟨g2,o2,none⟩) 150 (S.C k)] rfl rfl (news_one wr _ _) (one_val rfl) (by unfold maxLen;omega) (by omega) (fun q hq=>by have:=HF1.out.lt;omega) ?_;intro v' w2 hown2 hk2 _;have HF2:=zH (HF1.out.kept hk2);have HA2:=zH hown2;clear hown2 hk2 HA1 HF1)
     go_roundw
     case rel=>exact⟨k+1,by omega,by omega,by go_num,HF2,by rw [HX.out];exact HA2⟩
     case measure=>simp [intOf];omega
    ·have HX:Hid (fewV S (k+1)=fewV S k ++ [.slice (S.Q k) (S.M k) (S.C k)]):=zH (by rw [HN.out];unfold fewM;rw [if_neg hm])
     have HA1:=zH (HA.out.old (Old.alloc wr (.cells #[.slice (S.Q k) (S.M k) (S.C k)] 23)))
     have HF1:=zH (HF.out.kept ((Old.alloc wr (.cells #[.slice (S.Q k) (S.M k) (S.C k)] 23)).kept (fun q hq=>by have:=HLT.out;omega)))
     clear hc hr hp HA HF HN hg
     go_wp2_with (at_builtin;refine append_X _ rfl _ _ 88 rfl (fun q=>q<w.heap.size+2) 23 ir (.slice none 0 0) 24 Tryz.underlying88 hir hr0 hr1 hr2 rfl _ _ _ rfl HA1.out ⟨wr.heap.size,0,none⟩ 1 1 [.slice (S.Q k) (S.M k) (S.C k)] rfl rfl (news_one wr _ _) (one_val rfl) (by unfold maxLen;omega) (by omega) (fun q hq=>by have:=HF1.out.lt;omega) ?_;intro v' w2 hown2 hk2 _;have HF2:=zH (HF1.out.kept hk2);have HA2:=zH hown2;clear hown2 hk2 HA1 HF1)
     go_roundw
     case rel=>exact⟨k+1,by omega,by omega,by go_num,HF2,by rw [HX.out];exact HA2⟩
     case measure=>simp [intOf];omega
end Go.Proofs.YtgefdmfcddpaiaaGreatDoor
