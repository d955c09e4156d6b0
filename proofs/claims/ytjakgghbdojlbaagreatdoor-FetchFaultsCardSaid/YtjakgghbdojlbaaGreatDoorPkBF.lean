/- Texts joined: DiskC, DiskD, DiskE, CacheP, CacheA, CacheB, CacheC, CacheD, CacheE, DiskAw. -/
import Derived.Deep.RegionHeld
import Derived.RegionTactic
import Derived.Deep.LoopGhost
import Derived.Deep.MidRow
import Derived.Test.YtjakgghbdojlbaaGreatDoorPkBE
import Derived.Test.YtjakgghbdojlbaaGreatDoorTk
namespace Go.Proofs.YtjakgghbdojlbaaGreatDoor
set_option linter.unusedVariables false
set_option maxRecDepth 100000
open Go.RowKit Go.ChangeShapes Go.WideShapes
theorem refuse_no(v:Value)(i:Int)(w:World)(h:NoDk w v):Calls Tryz.prog 110 #[v,.int .i64 i] w fun e w'=>e = .returned (.int .i64 16)/\w=w':=by
 have H:=zH (isMade_no v w h)
 clear h
 go_enter Tryz.func110,Tryz.ntmps110
 go_wp2_with fail
 refine H.out.mono ?_
 rintro e w' ⟨rfl,rfl⟩
 go_wp2
 go_ret
 exact⟨rfl,rfl⟩
def noPg(d:Dsk)(i:Int):Prop:=i<0\/(d.N:Int)<=i
theorem refuse_out(b m:Nat)(p:Option Addr)(c:Nat)(d:Dsk)(i:Int)(w:World)(h:DkAt w b m p c d)(hi:noPg d i):Calls Tryz.prog 110 #[.pointer (some ⟨b,0,none⟩),.int .i64 i] w fun e w'=>e = .returned (.int .i64 5)/\w=w':=by
 obtain⟨c0,c1,c2,c3,f2,f3⟩:=h.cells
 have hn:=h.num
 have H:=zH (isMade_yes b m w c1)
 obtain⟨N,hN⟩:∃N,N=d.N:=⟨_,rfl⟩
 unfold noPg at hi
 rw [←hN] at c0 hi hn
 clear hN h
 by_cases h0:i<0
 ·clear hi
  go_enter Tryz.func110,Tryz.ntmps110
  go_wp2_with fail
  refine H.out.mono ?_
  rintro e w' ⟨rfl,rfl⟩
  go_wp2
  go_ret
  exact⟨rfl,rfl⟩
 ·have h1:(N:Int)<=i:=by omega
  have h0':0<=i:=by omega
  clear hi
  go_enter Tryz.func110,Tryz.ntmps110
  go_wp2_with fail
  refine H.out.mono ?_
  rintro e w' ⟨rfl,rfl⟩
  go_wp2
  go_ret
  exact⟨rfl,rfl⟩
theorem refuse_ok(b m:Nat)(p:Option Addr)(c:Nat)(d:Dsk)(k:Nat)(w:World)(h:DkAt w b m p c d)(hk:k<d.N):Calls Tryz.prog 110 #[.pointer (some ⟨b,0,none⟩),.int .i64 k] w fun e w'=>e = .returned (.int .i64 0)/\w=w':=by
 obtain⟨c0,c1,c2,c3,f2,f3⟩:=h.cells
 have hn:=h.num
 have H:=zH (isMade_yes b m w c1)
 obtain⟨N,hN⟩:∃N,N=d.N:=⟨_,rfl⟩
 rw [←hN] at c0 hk hn
 have h1:¬(N:Int)<=k:=by omega
 have h0:¬(k:Int)<0:=by omega
 clear hN h
 go_enter Tryz.func110,Tryz.ntmps110
 go_wp2_with fail
 refine H.out.mono ?_
 rintro e w' ⟨rfl,rfl⟩
 go_wp2
 go_ret
 exact⟨rfl,rfl⟩
theorem Pages_at(b m:Nat)(p:Option Addr)(c:Nat)(d:Dsk)(w:World)(h:DkAt w b m p c d):Calls Tryz.prog 75 #[.pointer (some ⟨b,0,none⟩)] w fun e w'=>e = .returned (.int .i64 (d.N:Int))/\w=w':=by
 obtain⟨c0,c1,c2,c3,f2,f3⟩:=h.cells
 have hn:=h.num
 have H:=zH (isMade_yes b m w c1)
 obtain⟨N,hN⟩:∃N,N=d.N:=⟨_,rfl⟩
 rw [←hN] at c0 hn ⊢
 clear hN h
 go_enter Tryz.func75,Tryz.ntmps75
 go_wp2_with fail
 refine H.out.mono ?_
 rintro e w' ⟨rfl,rfl⟩
 go_wp2
 go_ret
 exact⟨rfl,rfl⟩
def Flt.norm(x:Flt):Flt:=if x.f=0/\x.x=0 then Flt.z else x
def Dsk.set(d:Dsk)(k:Nat)(x:Flt):Dsk:={ d with F:=updFl d.F k x }
theorem DkAt.setF{w w':World}{b m c:Nat}{p:Option Addr}{d:Dsk}(h:DkAt w b m p c d)(k:Kept (fun j=>j<w.heap.size/\j≠m) w w'){j:Nat}{x:Flt}(hx:x.ok)(hm:FltAt w' m d.N (updFl d.F j x)):DkAt w' b m p c (d.set j x):=
 ⟨(k.block b ⟨h.ltb,h.ne⟩).trans h.blk,h.row.kept k (fun a hn ha=>⟨h.plt a (by omega) ha,(h.apart a (by omega) ha).2⟩),h.cap,hm,h.ne,h.apart,h.num,fun i hi=>by
  show (updFl d.F j x i).ok
  unfold updFl
  split
  ·exact hx
  ·exact h.ok i hi,h.byt⟩
theorem befall_any(b m:Nat)(p:Option Addr)(c:Nat)(d:Dsk)(k:Nat)(f a x:Int)(w:World)(h:DkAt w b m p c d)(hk:k<d.N)(hx:(Flt.mk f a x).ok):
  Calls Tryz.prog 111 #[.pointer (some ⟨b,0,none⟩),.int .i64 k,.agg #[.int .i64 f,.int .i64 a,.int .u8 x]] w fun e w'=>e = .returned (.tuple #[])/\DkAt w' b m p c (d.set k (Flt.mk f a x).norm)/\Kept (fun j=>j<w.heap.size/\j≠m) w w':=by
 have HO:=zH (Old.alloc w (.cells #[.int .i64 f,.int .i64 a,.int .u8 x] 199))
 have hb:=heap_alloc_new w (.cells #[.int .i64 f,.int .i64 a,.int .u8 x] 199)
 have hA:=h.old HO.out
 obtain⟨_,c1,_,_,_,_⟩:=hA.cells
 have hn:=h.num
 have HK:=zH (And.intro hk (show d.N<=1099511627776 by omega))
 have HA:=zH hA
 have HX:=zH hx
 have HEh:=zH (fun w' x' (h1:FltAt w' m d.N (updFl d.F k x')) (h2:x'.ok) (h3:Kept (fun j=>j<(w.alloc (.cells #[.int .i64 f,.int .i64 a,.int .u8 x] 199)).heap.size/\j≠m) (w.alloc (.cells #[.int .i64 f,.int .i64 a,.int .u8 x] 199)) w')=>
  (show DkAt w' b m p c (d.set k x')/\Kept (fun j=>j<w.heap.size/\j≠m) w w' from⟨HA.out.setF h3 h2 h1,(HO.out.kept (X:=fun j=>j<w.heap.size/\j≠m) fun _ hj=>hj.1).trans (h3.mono fun j hj=>⟨Nat.lt_of_lt_of_le hj.1 HO.out.size,hj.2⟩)⟩))
 by_cases h0:f=0
 ·subst h0
  by_cases h1:x=0
  ·subst h1
   have hz:(Flt.mk 0 a 0).norm=Flt.z:=by unfold Flt.norm;rw [if_pos ⟨rfl,rfl⟩]
   rw [hz]
   clear hb hA hk hx h hn HX HO
   go_enter Tryz.func111,Tryz.ntmps111
   go_wp2_with (at_delete;refine wpList_del_flt _ rfl _ _ rfl m d.N k d.F rfl HA.out.map HK.out.1 HK.out.2 rfl ?_;intro w1 h1 h2;have HF:=zH (HEh.out w1 _ h1 Flt.z_ok h2);clear h1 h2)
   refine bodyPost_ret (results_none rfl _ _ _) rfl ?_
   exact⟨rfl,HF.out⟩
  ·have hz:(Flt.mk 0 a x).norm=⟨0,a,x⟩:=by unfold Flt.norm;rw [if_neg (fun e=>h1 e.2)]
   rw [hz]
   have d1:(x == 0)=false:=by simp [h1]
   clear hb hA hk hx h hn HO h1
   go_enter Tryz.func111,Tryz.ntmps111
   go_wp2_with fail
   have HB3:=zH (heap_alloc_new w (.cells #[.int .i64 0,.int .i64 a,.int .u8 x] 199))
   generalize w.alloc (.cells #[.int .i64 0,.int .i64 a,.int .u8 x] 199)=W at *
   generalize w.heap.size=g at HB3 ⊢
   obtain⟨e0,e1,e2,_,_,_⟩:=cell3 HB3.out
   refine wp_region_still_tail 6 (by kernel_rfl) (by kernel_rfl) ?_
   simp only [List.take_succ_cons,List.take_zero,List.drop_succ_cons,List.drop_zero]
   iterate 6 (with_reducible refine wpStill_step (fun K hK=>?_);go_simp;with_reducible refine hK _ ?_;clear hK K)
   with_reducible refine wpStill_nil ?_
   change wpList _ _ _ _ _ (World.drew _)
   refine wpList_put_flt _ rfl _ _ _ rfl m d.N k d.F ⟨0,a,x⟩ rfl (show FltAt _ m d.N d.F from HA.out.map.kept (Kept.drew (Kept.refl (fun _=>True) _)) trivial) HK.out.1 HK.out.2 rfl rfl ?_
   intro w1 h1 h2
   have HF:=zH (HEh.out w1 _ h1 HX.out ⟨h2.os,h2.output,h2.size,h2.block⟩)
   clear h1 h2
   go_wp2_with fail
   go_end0
   exact⟨rfl,HF.out⟩
 ·have hz:(Flt.mk f a x).norm=⟨f,a,x⟩:=by unfold Flt.norm;rw [if_neg (fun e=>h0 e.1)]
  rw [hz]
  have d1:(f == 0)=false:=by simp [h0]
  clear hb hA hk hx h hn HO h0
  go_enter Tryz.func111,Tryz.ntmps111
  go_wp2_with fail
  have HB3:=zH (heap_alloc_new w (.cells #[.int .i64 f,.int .i64 a,.int .u8 x] 199))
  generalize w.alloc (.cells #[.int .i64 f,.int .i64 a,.int .u8 x] 199)=W at *
  generalize w.heap.size=g at HB3 ⊢
  obtain⟨e0,e1,e2,_,_,_⟩:=cell3 HB3.out
  refine wp_region_still_tail 6 (by kernel_rfl) (by kernel_rfl) ?_
  simp only [List.take_succ_cons,List.take_zero,List.drop_succ_cons,List.drop_zero]
  iterate 6 (with_reducible refine wpStill_step (fun K hK=>?_);go_simp;with_reducible refine hK _ ?_;clear hK K)
  with_reducible refine wpStill_nil ?_
  change wpList _ _ _ _ _ (World.drew _)
  refine wpList_put_flt _ rfl _ _ _ rfl m d.N k d.F ⟨f,a,x⟩ rfl (show FltAt _ m d.N d.F from HA.out.map.kept (Kept.drew (Kept.refl (fun _=>True) _)) trivial) HK.out.1 HK.out.2 rfl rfl ?_
  intro w1 h1 h2
  have HF:=zH (HEh.out w1 _ h1 HX.out ⟨h2.os,h2.output,h2.size,h2.block⟩)
  clear h1 h2
  go_wp2_with fail
  go_end0
  exact⟨rfl,HF.out⟩
def Flt.less(x:Flt):Flt:=⟨x.f-1,x.a,x.x⟩
def Dsk.failK(d:Dsk)(k:Nat):Dsk:=if 0<(d.F k).f then d.set k (d.F k).less.norm else d
theorem Kept.fore{w W w':World}{m:Nat}(o:Old w W)(h:Kept (fun j=>j<W.heap.size/\j≠m) W w'):Kept (fun j=>j<w.heap.size/\j≠m) w w':=
 (o.kept (X:=fun j=>j<w.heap.size/\j≠m) fun _ hj=>hj.1).trans (h.mono fun j hj=>⟨Nat.lt_of_lt_of_le hj.1 o.size,hj.2⟩)
theorem Old.but{w w':World}(o:Old w w')(m:Nat):Kept (fun j=>j<w.heap.size/\j≠m) w w':=o.kept fun _ hj=>hj.1
theorem fails_any(b m:Nat)(p:Option Addr)(c:Nat)(d:Dsk)(k:Nat)(w:World)(h:DkAt w b m p c d)(hk:k<d.N):
  Calls Tryz.prog 210 #[.pointer (some ⟨b,0,none⟩),.int .i64 k] w fun e w'=>e = .returned (.bool (decide ((d.F k).f≠0)))/\DkAt w' b m p c (d.failK k)/\Kept (fun j=>j<w.heap.size/\j≠m) w w':=by
 obtain⟨c0,c1,c2,c3,f2,f3⟩:=h.cells
 have hn:=h.num
 have hl:=h.map.look hk (by omega)
 have hok:=h.ok k hk
 obtain⟨y,hy⟩:∃y,y=d.F k:=⟨_,rfl⟩
 have hF:d.failK k=if 0<y.f then d.set k y.less.norm else d:=by rw [hy];rfl
 rw [hF,←hy]
 rw [←hy] at hl hok
 clear hy hF
 obtain⟨f,a,x⟩:=y
 unfold Flt.v at hl
 dsimp only at hl ⊢
 have HO:=zH (Old.alloc w (.cells #[.int .i64 f,.int .i64 a,.int .u8 x] 199))
 have HD:=zH (h.old HO.out)
 have HB:=zH (heap_alloc_new w (.cells #[.int .i64 f,.int .i64 a,.int .u8 x] 199))
 by_cases h0:f=0
 ·subst h0
  rw [if_neg (by omega)]
  clear h c0 c2 c3 f2 f3 hok
  go_enter Tryz.func210,Tryz.ntmps210
  go_wp2
  go_ret
  exact⟨rfl,HD.out,HO.out.but m⟩
 ·have d0:(f == 0)=false:=by simp [h0]
  have d1:decide (f≠0)=true:=by simp [h0]
  rw [d1]
  by_cases h1:0<f
  ·rw [if_pos h1]
   have hok':(Flt.mk (f-1) a x).ok:=⟨⟨by have:=hok.1.1;dsimp only at this ⊢;omega,by have:=hok.1.2;dsimp only at this ⊢;omega⟩,hok.2⟩
   have HW1:=zH (show IntKind.i64.wrap (f-1)=f-1 from IntWalk.i64_in _ (by have:=hok.1;dsimp only at this;omega))
   have e1:wrap64 (f-1)=f-1:=IntWalk.wrap64_in _ (by have:=hok.1;dsimp only at this;omega)
   have HC:=zH (fun W (ho:Old w W)=>befall_any b m p c d k (f-1) a x W (h.old ho) hk hok')
   have HZ:=zH (fun W (ho:Old w W) w' (hh:Kept (fun j=>j<W.heap.size/\j≠m) W w')=>Kept.fore ho hh)
   have hb:b<w.heap.size:=h.ltb
   clear h c0 c2 c3 f2 f3 hok hok' hk h0 d1
   go_enter Tryz.func210,Tryz.ntmps210
   go_wp2_with fail
   refine(HC.out _ (Old.alloc _ _)).mono ?_
   rintro e w1 ⟨rfl,hd,hk1⟩
   have H1:=zH (And.intro hd (HZ.out _ (Old.alloc _ _) w1 hk1))
   clear hd hk1
   go_wp2_with fail
   go_ret
   exact⟨rfl,H1.out⟩
  ·rw [if_neg h1]
   clear h c0 c2 c3 f2 f3 hok
   go_enter Tryz.func210,Tryz.ntmps210
   go_wp2
   go_ret
   exact⟨rfl,HD.out,HO.out.but m⟩
theorem Fail_out(b m:Nat)(p:Option Addr)(c:Nat)(d:Dsk)(i n:Int)(w:World)(h:DkAt w b m p c d)(hi:noPg d i):Calls Tryz.prog 67 #[.pointer (some ⟨b,0,none⟩),.int .i64 i,.int .i64 n] w fun e w'=>e = .returned (.int .i64 5)/\w=w':=by
 have H:=zH (refuse_out b m p c d i w h hi)
 clear h hi
 go_enter Tryz.func67,Tryz.ntmps67
 go_wp2_with fail
 refine H.out.mono ?_
 rintro e w' ⟨rfl,rfl⟩
 go_wp2
 go_ret
 exact⟨rfl,rfl⟩
theorem Fail_ok(b m:Nat)(p:Option Addr)(c:Nat)(d:Dsk)(k:Nat)(n:Int)(w:World)(h:DkAt w b m p c d)(hk:k<d.N)(h1:-9223372036854775808<=n/\n<=9223372036854775807):
  Calls Tryz.prog 67 #[.pointer (some ⟨b,0,none⟩),.int .i64 k,.int .i64 n] w fun e w'=>e = .returned (.int .i64 0)/\DkAt w' b m p c (d.set k (Flt.mk n (d.F k).a (d.F k).x).norm)/\Kept (fun j=>j<w.heap.size/\j≠m) w w':=by
 have H:=zH (refuse_ok b m p c d k w h hk)
 obtain⟨c0,c1,c2,c3,f2,f3⟩:=h.cells
 have hn:=h.num
 have hl:=h.map.look hk (by omega)
 have hok:=h.ok k hk
 obtain⟨y,hy⟩:∃y,y=d.F k:=⟨_,rfl⟩
 rw [←hy]
 rw [←hy] at hl hok
 clear hy
 obtain⟨f,a,x⟩:=y
 unfold Flt.v at hl
 dsimp only at hl ⊢
 have HC:=zH (fun W (ho:Old w W)=>befall_any b m p c d k n a x W (h.old ho) hk ⟨h1,hok.2⟩)
 have HZ:=zH (fun W (ho:Old w W) w' (hh:Kept (fun j=>j<W.heap.size/\j≠m) W w')=>Kept.fore ho hh)
 clear h c0 c2 c3 f2 f3 hok hk h1 hn
 go_enter Tryz.func67,Tryz.ntmps67
 go_wp2_with fail
 refine H.out.mono ?_
 rintro e w' ⟨rfl,rfl⟩
 clear H
 go_wp2_with fail
 refine(HC.out _ (Old.alloc _ _)).mono ?_
 rintro e w1 ⟨rfl,hd,hk1⟩
 have H1:=zH (And.intro hd (HZ.out _ (Old.alloc _ _) w1 hk1))
 clear hd hk1
 go_wp2_with fail
 go_ret
 exact⟨rfl,H1.out⟩
theorem Spoil_out(b m:Nat)(p:Option Addr)(c:Nat)(d:Dsk)(i n x:Int)(w:World)(h:DkAt w b m p c d)(hi:noPg d i):Calls Tryz.prog 68 #[.pointer (some ⟨b,0,none⟩),.int .i64 i,.int .i64 n,.int .u8 x] w fun e w'=>e = .returned (.int .i64 5)/\w=w':=by
 have H:=zH (refuse_out b m p c d i w h hi)
 clear h hi
 go_enter Tryz.func68,Tryz.ntmps68
 go_wp2_with fail
 refine H.out.mono ?_
 rintro e w' ⟨rfl,rfl⟩
 go_wp2
 go_ret
 exact⟨rfl,rfl⟩
theorem Spoil_arg(b m:Nat)(p:Option Addr)(c:Nat)(d:Dsk)(k:Nat)(n x:Int)(w:World)(h:DkAt w b m p c d)(hk:k<d.N)(h1:n<0\/63<n):Calls Tryz.prog 68 #[.pointer (some ⟨b,0,none⟩),.int .i64 k,.int .i64 n,.int .u8 x] w fun e w'=>e = .returned (.int .i64 1)/\w=w':=by
 have H:=zH (refuse_ok b m p c d k w h hk)
 clear h hk
 by_cases h0:n<0
 ·clear h1
  go_enter Tryz.func68,Tryz.ntmps68
  go_wp2_with fail
  refine H.out.mono ?_
  rintro e w' ⟨rfl,rfl⟩
  go_wp2
  go_ret
  exact⟨rfl,rfl⟩
 ·have h2:(64:Int)<=n:=by omega
  clear h1
  go_enter Tryz.func68,Tryz.ntmps68
  go_wp2_with fail
  refine H.out.mono ?_
  rintro e w' ⟨rfl,rfl⟩
  go_wp2
  go_ret
  exact⟨rfl,rfl⟩
theorem Spoil_ok(b m:Nat)(p:Option Addr)(c:Nat)(d:Dsk)(k:Nat)(n z:Int)(w:World)(h:DkAt w b m p c d)(hk:k<d.N)(h1:0<=n/\n<=63)(h2:0<=z/\z<=255):
  Calls Tryz.prog 68 #[.pointer (some ⟨b,0,none⟩),.int .i64 k,.int .i64 n,.int .u8 z] w fun e w'=>e = .returned (.int .i64 0)/\DkAt w' b m p c (d.set k (Flt.mk (d.F k).f n z).norm)/\Kept (fun j=>j<w.heap.size/\j≠m) w w':=by
 have H:=zH (refuse_ok b m p c d k w h hk)
 obtain⟨c0,c1,c2,c3,f2,f3⟩:=h.cells
 have hn:=h.num
 have hl:=h.map.look hk (by omega)
 have hok:=h.ok k hk
 obtain⟨y,hy⟩:∃y,y=d.F k:=⟨_,rfl⟩
 rw [←hy]
 rw [←hy] at hl hok
 clear hy
 obtain⟨f,a,x⟩:=y
 unfold Flt.v at hl
 dsimp only at hl ⊢
 have HC:=zH (fun W (ho:Old w W)=>befall_any b m p c d k f n z W (h.old ho) hk ⟨hok.1,h1,h2⟩)
 have HZ:=zH (fun W (ho:Old w W) w' (hh:Kept (fun j=>j<W.heap.size/\j≠m) W w')=>Kept.fore ho hh)
 have n0:¬n<0:=by omega
 have n1:¬(64:Int)<=n:=by omega
 clear h c0 c2 c3 f2 f3 hok hk h1 h2 hn
 go_enter Tryz.func68,Tryz.ntmps68
 go_wp2_with fail
 refine H.out.mono ?_
 rintro e w' ⟨rfl,rfl⟩
 clear H
 go_wp2_with fail
 refine(HC.out _ (Old.alloc _ _)).mono ?_
 rintro e w1 ⟨rfl,hd,hk1⟩
 have H1:=zH (And.intro hd (HZ.out _ (Old.alloc _ _) w1 hk1))
 clear hd hk1
 go_wp2_with fail
 go_ret
 exact⟨rfl,H1.out⟩
def dk0(n:Nat)(F:Nat->Int):Dsk:=⟨pgs n,padF n F,fun _=>Flt.z,0,0⟩
theorem DNew_ok(p:Option Addr)(n cap:Nat)(F:Nat->Int)(w:World)(hs:SlU w p n F)(hn:n<=4194304)(h1:n<=cap)(hb:Byt F n):
  Calls Tryz.prog 63 #[.slice p n cap] w fun e w'=>∃b,e = .returned (.tuple #[.pointer (some ⟨b+1,0,none⟩),.int .i64 0])/\w.heap.size<b/\DkAt w' (b+1) b (some ⟨w.heap.size,0,none⟩) (pgs n) (dk0 n F)/\Old w w':=by
 have HC:=zH (cut_any p n cap F w hs (by omega) h1)
 have hp:pgs n<=65536:=by unfold pgs;omega
 have HP:=zH hp
 have HB:=zH hb
 obtain⟨N,hN⟩:∃N,N=pgs n:=⟨_,rfl⟩
 have HN:=zH hN
 rw [←hN] at HC ⊢
 clear hs hb hp hN
 go_enter Tryz.func63,Tryz.ntmps63
 go_wp2_with fail
 refine HC.out.mono ?_
 rintro e V ⟨rfl,ha,ho⟩
 have HA:=zH ha
 have HO:=zH ho
 clear ha ho HC
 have hmm:=@run_makeMap Tryz.prog
 have hg:=HA.out.lt
 have HE:Hid (DkAt ((V.alloc (.map #[] 0)).alloc (.cells #[.slice (some ⟨w.heap.size,0,none⟩) N N,.map (some V.heap.size),.int .i64 0,.int .i64 0] 195)) (V.heap.size+1) V.heap.size (some ⟨w.heap.size,0,none⟩) N (dk0 n F) /\
   Old w ((V.alloc (.map #[] 0)).alloc (.cells #[.slice (some ⟨w.heap.size,0,none⟩) N N,.map (some V.heap.size),.int .i64 0,.int .i64 0] 195))):=by
  have eN:(dk0 n F).N=N:=HN.out.symm
  have o1:=Old.alloc V (.map #[] 0)
  have o2:=o1.alloc' (.cells #[.slice (some ⟨w.heap.size,0,none⟩) N N,.map (some V.heap.size),.int .i64 0,.int .i64 0] 195)
  have hs1:(V.alloc (.map #[] 0)).heap.size=V.heap.size+1:=by simp
  refine⟨⟨?_,?_,⟨by rw [eN];exact Nat.le_refl _,by have:=HP.out;have:=HN.out;unfold maxLen;omega⟩,?_,by omega,fun a _ ha=>by cases ha;exact⟨by show w.heap.size≠_;omega,by show w.heap.size≠_;omega⟩,by rw [eN];have:=HP.out;have:=HN.out;omega,fun k _=>Flt.z_ok,fun j hj=>?_⟩,HO.out.trans o2⟩
  ·rw [eN,←hs1];exact heap_alloc_new _ _
  ·rw [eN]
   have:=((HA.out.old o2).sl 0 (N*64) (by omega)).ext (G:=padF n F) fun j _=>by rw [Nat.zero_add]
   exact this
  ·rw [eN]
   exact(flt_made V N).old (Old.alloc _ _)
  ·show 0<=padF n F j/\padF n F j<=255
   unfold padF
   split
   ·exact HB.out j (by assumption)
   ·omega
 go_wp2_with fail
 go_ret2
 exact⟨V.heap.size,rfl,hg,HE.out⟩
def Dsk.more(d:Dsk):Dsk:={ d with r:=wrap64 (d.r+1) }
def Dsk.moref(d:Dsk):Dsk:={ d with f:=wrap64 (d.f+1) }
theorem DkAt.more{w:World}{b m c:Nat}{p:Option Addr}{d:Dsk}(h:DkAt w b m p c d):DkAt (w.setCell ⟨b,2,none⟩ (.int .i64 (wrap64 (d.r+1)))) b m p c d.more:=by
 have k:Kept (fun j=>j≠b) w (w.setCell ⟨b,2,none⟩ (.int .i64 (wrap64 (d.r+1)))):=Kept.setCell w (a:=⟨b,2,none⟩) (fun e=>e rfl) _
 exact⟨(heap_setCell_at h.blk).trans rfl,h.row.kept k (fun a hn ha=>(h.apart a (by omega) ha).1),h.cap,h.map.kept k (fun e=>h.ne e.symm),h.ne,h.apart,h.num,h.ok,h.byt⟩
theorem DkAt.moref{w:World}{b m c:Nat}{p:Option Addr}{d:Dsk}(h:DkAt w b m p c d):DkAt (w.setCell ⟨b,3,none⟩ (.int .i64 (wrap64 (d.f+1)))) b m p c d.moref:=by
 have k:Kept (fun j=>j≠b) w (w.setCell ⟨b,3,none⟩ (.int .i64 (wrap64 (d.f+1)))):=Kept.setCell w (a:=⟨b,3,none⟩) (fun e=>e rfl) _
 exact⟨(heap_setCell_at h.blk).trans rfl,h.row.kept k (fun a hn ha=>(h.apart a (by omega) ha).1),h.cap,h.map.kept k (fun e=>h.ne e.symm),h.ne,h.apart,h.num,h.ok,h.byt⟩
theorem butD_of{w w1 w2:World}{b m:Nat}(h1:Kept (fun j=>j≠b) w w1)(h2:Kept (fun j=>j<w1.heap.size/\j≠m) w1 w2):Kept (butD w b m) w w2:=
 (h1.mono fun j hj=>hj.2.1).trans (h2.mono fun j hj=>⟨Nat.lt_of_lt_of_le hj.1 h1.size,hj.2.2⟩)
def Dsk.bad(d:Dsk)(k:Nat):Dsk:=((d.more).failK k).moref
theorem Read_bad(b m:Nat)(p:Option Addr)(c:Nat)(d:Dsk)(k:Nat)(w:World)(h:DkAt w b m p c d)(hk:k<d.N)(hf:(d.F k).f≠0):
  Calls Tryz.prog 154 #[.pointer (some ⟨b,0,none⟩),.int .i64 k] w fun e w'=>e = .returned (.tuple #[.slice none 0 0,.int .i64 8])/\DkAt w' b m p c (d.bad k)/\Kept (butD w b m) w w':=by
 have H:=zH (refuse_ok b m p c d k w h hk)
 obtain⟨c0,c1,c2,c3,f2,f3⟩:=h.cells
 have HC:=zH (fails_any b m p c d.more k _ h.more hk)
 obtain⟨r,hr⟩:∃r,r=wrap64 (d.r+1):=⟨_,rfl⟩
 have e1:wrap64 (d.r+1)=r:=hr.symm
 have hdec:decide ((d.more.F k).f≠0)=true:=by simp only [Dsk.more];simp [hf]
 rw [hdec,←hr] at HC
 have HK:=zH (Kept.setCell (X:=fun j=>j≠b) w (a:=⟨b,2,none⟩) (fun e=>e rfl) (.int .i64 r))
 have HB:Hid (d.bad k=((d.more).failK k).moref):=zH rfl
 rw [HB.out]
 obtain⟨y,hy⟩:∃y,y=(d.more).failK k:=⟨_,rfl⟩
 rw [←hy] at HC ⊢
 clear h HB hdec hr hf hk hy
 go_enter Tryz.func154,Tryz.ntmps154
 go_wp2_with fail
 refine H.out.mono ?_
 rintro e w' ⟨rfl,rfl⟩
 clear H
 go_wp2_with fail
 refine HC.out.mono ?_
 rintro e w2 ⟨rfl,hd,hk⟩
 obtain⟨_,_,_,c3',_,f3'⟩:=hd.cells
 obtain⟨q,hq⟩:∃q,q=wrap64 (y.f+1):=⟨_,rfl⟩
 have e2:wrap64 (y.f+1)=q:=hq.symm
 have HE:Hid (DkAt (w2.setCell ⟨b,3,none⟩ (.int .i64 q)) b m p c y.moref/\Kept (butD w b m) w (w2.setCell ⟨b,3,none⟩ (.int .i64 q))):=zH ⟨by rw [hq];exact hd.moref,(butD_of HK.out hk).trans (Kept.setCell (X:=butD w b m) w2 (a:=⟨b,3,none⟩) (fun e=>e.2.1 rfl) _)⟩
 clear hd hk hq HC
 go_wp2_with fail
 go_ret2
 exact⟨rfl,HE.out⟩
def xorB(u v:Int):Int:=bits .xor .u8 u v
def pageF(d:Dsk)(k:Nat):Nat->Int:=fun j=>d.G (k*64+j)
def readF(d:Dsk)(k:Nat):Nat->Int:=fun j=>if j=(d.F k).a.toNat then xorB (pageF d k j) (d.F k).x else pageF d k j
set_option maxHeartbeats 1000000 in
theorem Read_ok(b m:Nat)(p:Option Addr)(c:Nat)(d:Dsk)(k:Nat)(w:World)(h:DkAt w b m p c d)(hk:k<d.N)(hf:(d.F k).f=0):
  Calls Tryz.prog 154 #[.pointer (some ⟨b,0,none⟩),.int .i64 k] w fun e w'=>∃g,e = .returned (.tuple #[.slice (some ⟨g,0,none⟩) 64 64,.int .i64 0])/\w.heap.size<=g/\UAt w' g 64 (readF d k)/\DkAt w' b m p c d.more/\Kept (butD w b m) w w':=by
 have H:=zH (refuse_ok b m p c d k w h hk)
 obtain⟨c0,c1,c2,c3,f2,f3⟩:=h.cells
 have HC:=zH (fails_any b m p c d.more k _ h.more hk)
 obtain⟨r,hr⟩:∃r,r=wrap64 (d.r+1):=⟨_,rfl⟩
 have e1:wrap64 (d.r+1)=r:=hr.symm
 have hdec:decide ((d.more.F k).f≠0)=false:=by simp only [Dsk.more];simp [hf]
 have hfk:d.more.failK k=d.more:=by unfold Dsk.failK;rw [if_neg (by show ¬0<(d.F k).f;omega)]
 rw [hdec,hfk,←hr] at HC
 have HK:=zH (Kept.setCell (X:=fun j=>j≠b) w (a:=⟨b,2,none⟩) (fun e=>e rfl) (.int .i64 r))
 have hn:=h.num
 have HN:=zH h.num
 have HKn:=zH hk
 have hok:=h.ok k hk
 have hN:d.more.N=d.N:=rfl
 have HR:Hid (readF d k=fun j=>if j=(d.F k).a.toNat then xorB (pageF d k j) (d.F k).x else pageF d k j):=zH rfl
 obtain⟨y,hy⟩:∃y,y=d.F k:=⟨_,rfl⟩
 have HY:Hid (d.more.F k=y):=zH hy.symm
 rw [HR.out]
 rw [←hy] at hok ⊢
 clear hy HR hfk hdec hf h
 obtain⟨f,a,x⟩:=y
 obtain⟨⟨hf1,hf2⟩,⟨ha0,ha1⟩,hx0,hx1⟩:=hok
 dsimp only at hf1 hf2 ha0 ha1 hx0 hx1 ⊢
 obtain⟨an,rfl⟩:∃n:Nat,a=n:=⟨a.toNat,by omega⟩
 rw [Int.toNat_natCast]
 obtain⟨N,hNe⟩:∃N,N=d.N:=⟨_,rfl⟩
 obtain⟨R,hR⟩:∃R,R=rowN 64 (bU (pageF d k)):=⟨_,rfl⟩
 have HRs:=zH (show R.size=64 by rw [hR];exact rowN_size _ _)
 have HRe:=zH hR
 have HR1:Hid (R.all (·.oneCell')=true):=zH (by rw [hR];simp [rowN,bU,Value.oneCell'])
 clear hr hR
 rw [←hNe] at c0
 go_enter Tryz.func154,Tryz.ntmps154
 go_wp2_with fail
 refine H.out.mono ?_
 rintro e w' ⟨rfl,rfl⟩
 clear H
 go_wp2_with fail
 refine HC.out.mono ?_
 rintro e w2 ⟨rfl,hd,hk2⟩
 obtain⟨bp,o,hpe,hlt,hcell⟩:=hd.row (by rw [hN];omega)
 subst hpe
 have HL:=zH (show ∀j,j<64->w2.cell? ⟨bp,o+k*64+j,none⟩=some (.int .u8 (pageF d k j)) from fun j hj=>by
  rw [show o+k*64+j=o+(k*64+j) by omega]
  exact hcell (k*64+j) (by rw [hN];omega))
 have hd3:=hd.old (Old.alloc w2 (.cells R 187))
 have hl3:=hd3.map.look hk (by omega)
 rw [HY.out] at hl3
 unfold Flt.v at hl3
 dsimp only at hl3
 obtain⟨c0',_,_,_,_,_⟩:=hd.cells
 obtain⟨_,c1',_,_,_,_⟩:=hd3.cells
 rw [hN,←hNe] at c0'
 have HD:=zH (And.intro (hd3.old (Old.alloc _ (.cells #[.int .i64 f,.int .i64 an,.int .u8 x] 199))) (And.intro (butD_of HK.out hk2) (((Old.alloc w2 (.cells R 187))).alloc' (.cells #[.int .i64 f,.int .i64 an,.int .u8 x] 199))))
 have Hp:=zH (heap_alloc_new w2 (.cells R 187))
 have hge:w.heap.size<=w2.heap.size:=(butD_of HK.out hk2).size
 have HGe:=zH hge
 have HDk:=zH hd
 have HS0:Hid ((Tryz.prog.info? 187).map (·.size)=some 64):=zH Tryz.page_size
 have hkN:(k:Int)<N:=by omega
 clear hcell hd hd3 hk2 hn hge hlt HC hNe HK hN hk c1 c2 c3 f2 f3 c0 e1
 go_wp2_with (first
  | (with_reducible refine wpList_load_u8 rfl 64 (pageF d k) 187 _ rfl bp (o+k*64) rfl _ HL.out Tryz.underlying187 rfl HS0.out ?_;rw [←HRe.out])
  | (with_reducible refine wpList_store_row rfl 187 _ _ rfl w2.heap.size R rfl rfl 187 _ (heap_alloc_new _ _) (by rw [HRs.out];exact HS0.out) (by rw [HRs.out];kernel_rfl) HR1.out ?_;rw [World.setRow_alloc_new]))
 have hp1:((w2.alloc (.cells R 187)).alloc (.cells #[.int .i64 f,.int .i64 an,.int .u8 x] 199)).heap[w2.heap.size]?=some (.cells R 187 (0,0)):=
  ((Old.alloc (w2.alloc (.cells R 187)) _).block _ (lt_of_block Hp.out)).trans Hp.out
 have hf1:=heap_alloc_new (w2.alloc (.cells R 187)) (.cells #[.int .i64 f,.int .i64 an,.int .u8 x] 199)
 rw [show (w2.alloc (.cells R 187)).heap.size=w2.heap.size+1 by simp] at hf1
 have HD1:=HD.out
 generalize (w2.alloc (.cells R 187)).alloc (.cells #[.int .i64 f,.int .i64 an,.int .u8 x] 199)=W at *
 obtain⟨e0,e1,e2,_,_,_⟩:=cell3 hf1
 rw [HRe.out] at hp1
 have hU:=uAt_of hp1
 have ca:W.cell? ⟨w2.heap.size,an,none⟩=some (.int .u8 (pageF d k an)):=hU.at_ an (by omega)
 have fa:W.frozen? ⟨w2.heap.size,an,none⟩=false:=hU.fz an (by omega)
 obtain⟨u,hu⟩:∃u,u=pageF d k an:=⟨_,rfl⟩
 obtain⟨q,hq⟩:∃q,q=xorB u x:=⟨_,rfl⟩
 have hq':bits .xor .u8 u x=q:=hq.symm
 have HEnd:Hid (UAt (W.drew.setCell ⟨w2.heap.size,an,none⟩ (.int .u8 q)) w2.heap.size 64 (fun j=>if j=an then xorB (pageF d k j) x else pageF d k j)/\DkAt (W.drew.setCell ⟨w2.heap.size,an,none⟩ (.int .u8 q)) b m (some ⟨bp,o,none⟩) c d.more/\Kept (butD w b m) w (W.drew.setCell ⟨w2.heap.size,an,none⟩ (.int .u8 q))):=by
  have o1:Old w2 (W.drew.setCell ⟨w2.heap.size,an,none⟩ (.int .u8 q)):=HD1.2.2.drew.after (Kept.setCell (X:=fun j=>j<w2.heap.size) _ (a:=⟨w2.heap.size,an,none⟩) (fun e=>by have:w2.heap.size<w2.heap.size:=e;omega) _) fun _ h=>h
  refine⟨UAt.ext (UAt.set hU.drew an (by omega) q) fun j hj=>?_,?_,HD1.2.1.trans (o1.kept fun j hj=>Nat.lt_of_lt_of_le hj.1 HGe.out)⟩
  ·by_cases e:j=an
   ·rw [if_pos e,if_pos e,hq,hu,e]
   ·rw [if_neg e,if_neg e]
  ·exact HDk.out.old o1
 rw [←hu] at ca
 have an0:(0:Int)<=an:=by omega
 have an1:(an:Int)<64:=by omega
 obtain⟨g,hg⟩:∃g,g=w2.heap.size:=⟨_,rfl⟩
 rw [←hg] at e0 e1 e2 ca fa HEnd HGe ⊢
 have HQ:=zH hq'
 have hxo:∀V,(binOp .xor 5 (.int .u8 u) (.int .u8 x)).run Tryz.prog V = .ok (.int .u8 q) V:=fun V=>by rw [←hq'];kernel_rfl
 clear hU hp1 hf1 HD1 HD hq hq' hu hg HL Hp
 refine wp_region_still_tail 8 (by kernel_rfl) (by kernel_rfl) ?_
 simp only [List.take_succ_cons,List.take_zero,List.drop_succ_cons,List.drop_zero]
 iterate 8 (with_reducible refine wpStill_step (fun K hK=>?_);go_simp;with_reducible refine hK _ ?_;clear hK K)
 with_reducible refine wpStill_nil ?_
 change wpList _ _ _ _ _ W.drew
 rw [←HQ.out] at HEnd
 go_wp2_with fail
 go_ret2
 exact⟨g,rfl,HGe.out,HEnd.out⟩
structure Slt where
 p:Nat
 m:Bool
 G:Nat->Int
structure Cch where
 n:Nat
 rt:Nat
 h:Int
 m:Int
 t:Int
 l:Int
 hand:Nat
 S:Nat->Option Slt
def updS(S:Nat->Option Slt)(i:Nat)(s:Option Slt):Nat->Option Slt:=fun j=>if j=i then s else S j
def mkS(S:Nat->Option Slt)(i:Nat):Bool:=match S i with | some s=>s.m | none=>false
def Slt.mark(s:Slt)(b:Bool):Slt:={ s with m:=b }
def hasS(S:Nat->Option Slt)(k i:Nat):Bool:=match S i with | some s=>decide (s.p=k) | none=>false
def fnd(S:Nat->Option Slt)(k:Nat):Nat->Option Nat
 | 0=>none
 | n+1=>match fnd S k n with
  | some i=>some i
  | none=>if hasS S k n then some n else none
theorem hasS_iff{S:Nat->Option Slt}{k i:Nat} : hasS S k i=true↔∃s,S i=some s/\s.p=k:=by
 unfold hasS
 cases S i with
 | none=>simp
 | some s=>simp
theorem fnd_some{S:Nat->Option Slt}{k:Nat} : ∀{n i:Nat},fnd S k n=some i->i<n/\hasS S k i=true
 | 0,i,h=>by simp [fnd] at h
 | n+1,i,h=>by
  unfold fnd at h
  cases hf:fnd S k n with
  | some j=>
   rw [hf] at h
   cases h
   have:=fnd_some hf
   exact⟨by omega,this.2⟩
  | none=>
   rw [hf] at h
   dsimp only at h
   split at h
   ·cases h;exact⟨by omega,by assumption⟩
   ·cases h
theorem fnd_none{S:Nat->Option Slt}{k:Nat} : ∀{n:Nat},fnd S k n=none->∀i,i<n->hasS S k i=false
 | 0,h,i,hi=>by omega
 | n+1,h,i,hi=>by
  unfold fnd at h
  cases hf:fnd S k n with
  | some j=>rw [hf] at h;cases h
  | none=>
   rw [hf] at h
   dsimp only at h
   split at h
   ·cases h
   ·rename_i hn
    by_cases e:i=n
    ·subst e;simpa using hn
    ·exact fnd_none hf i (by omega)
def uniq(n:Nat)(S:Nat->Option Slt):Prop:=∀i j s t,i<n->j<n->S i=some s->S j=some t->s.p=t.p->i=j
theorem fnd_of{S:Nat->Option Slt}{n i:Nat}{s:Slt}(hu:uniq n S)(hi:i<n)(hs:S i=some s):fnd S s.p n=some i:=by
 cases hf:fnd S s.p n with
 | none=>
  have:=fnd_none hf i hi
  rw [hasS_iff.2 ⟨s,hs,rfl⟩] at this
  cases this
 | some j=>
  obtain⟨h1,h2⟩:=fnd_some hf
  obtain⟨t,ht,he⟩:=hasS_iff.1 h2
  rw [hu j i t s h1 hi ht hs he]
theorem fnd_eq{S:Nat->Option Slt}{n k i:Nat}(hu:uniq n S):fnd S k n=some i↔i<n/\∃s,S i=some s/\s.p=k:=by
 constructor
 ·intro h
  have:=fnd_some h
  exact⟨this.1,hasS_iff.1 this.2⟩
 ·rintro ⟨h1,s,h2,rfl⟩
  exact fnd_of hu h1 h2
theorem fnd_ext{S T:Nat->Option Slt}{n k:Nat}(hu:uniq n S)(hv:uniq n T)(h:∀i,i<n->((∃s,S i=some s/\s.p=k)↔∃s,T i=some s/\s.p=k)):fnd S k n=fnd T k n:=by
 cases hf:fnd S k n with
 | some i=>
  obtain⟨h1,h2⟩:=(fnd_eq hu).1 hf
  exact((fnd_eq hv).2 ⟨h1,(h i h1).1 h2⟩).symm
 | none=>
  cases hg:fnd T k n with
  | none=>rfl
  | some i=>
   obtain⟨h1,h2⟩:=(fnd_eq hv).1 hg
   rw [(fnd_eq hu).2 ⟨h1,(h i h1).2 h2⟩] at hf
   exact hf.symm
def setM(S:Nat->Option Slt)(i:Nat)(b:Bool):Nat->Option Slt:=updS S i ((S i).map fun s=>s.mark b)
theorem setM_has(S:Nat->Option Slt)(i j k:Nat)(b:Bool):(∃s,setM S i b j=some s/\s.p=k)↔∃s,S j=some s/\s.p=k:=by
 unfold setM updS
 by_cases e:j=i
 ·subst e
  rw [if_pos rfl]
  cases S j with
  | none=>simp
  | some s=>simp [Slt.mark]
 ·rw [if_neg e]
theorem setM_uniq{n:Nat}{S:Nat->Option Slt}(h:uniq n S)(i:Nat)(b:Bool):uniq n (setM S i b):=by
 intro x y s t hx hy hs ht e
 obtain⟨s',h1,h2⟩:=(setM_has S i x s.p b).1 ⟨s,hs,rfl⟩
 obtain⟨t',h3,h4⟩:=(setM_has S i y t.p b).1 ⟨t,ht,rfl⟩
 exact h x y s' t' hx hy h1 h3 (by rw [h2,h4,e])
theorem setM_fnd{n:Nat}{S:Nat->Option Slt}(h:uniq n S)(i:Nat)(b:Bool)(k:Nat):fnd (setM S i b) k n=fnd S k n:=
 fnd_ext (setM_uniq h i b) h fun j _=>setM_has S i j k b
theorem del_uniq{n:Nat}{S:Nat->Option Slt}(h:uniq n S)(i:Nat):uniq n (updS S i none):=by
 intro x y s t hx hy hs ht e
 unfold updS at hs ht
 split at hs
 ·cases hs
 ·split at ht
  ·cases ht
  ·exact h x y s t hx hy hs ht e
theorem del_fnd{n i:Nat}{S:Nat->Option Slt}{s:Slt}(h:uniq n S)(hi:i<n)(hs:S i=some s)(k:Nat):fnd (updS S i none) k n=if k=s.p then none else fnd S k n:=by
 by_cases e:k=s.p
 ·rw [if_pos e]
  cases hf:fnd (updS S i none) k n with
  | none=>rfl
  | some j=>
   obtain⟨h1,t,h2,h3⟩:=(fnd_eq (del_uniq h i)).1 hf
   unfold updS at h2
   split at h2
   ·cases h2
   ·rename_i hn
    exact absurd (h j i t s h1 hi h2 hs (by rw [h3,e])) hn
 ·rw [if_neg e]
  refine fnd_ext (del_uniq h i) h fun j hj=>?_
  unfold updS
  by_cases e2:j=i
  ·subst e2
   rw [if_pos rfl,hs]
   simp
   exact fun h=>e h.symm
  ·rw [if_neg e2]
theorem put_uniq{n i:Nat}{S:Nat->Option Slt}{s:Slt}(h:uniq n S)(hn:fnd S s.p n=none):uniq n (updS S i (some s)):=by
 have hno:∀j t,j<n->S j=some t->t.p≠s.p:=fun j t hj ht e=>by
  have:=fnd_none hn j hj
  rw [hasS_iff.2 ⟨t,ht,e⟩] at this
  cases this
 intro x y u t hx hy hs ht e
 unfold updS at hs ht
 split at hs
 ·split at ht
  ·omega
  ·cases hs;exact absurd e.symm (hno y t hy ht)
 ·split at ht
  ·cases ht;exact absurd e (hno x u hx hs)
  ·exact h x y u t hx hy hs ht e
theorem put_fnd{n i:Nat}{S:Nat->Option Slt}{s:Slt}(h:uniq n S)(hi:i<n)(hn:fnd S s.p n=none)(hi0:S i=none)(k:Nat):fnd (updS S i (some s)) k n=if k=s.p then some i else fnd S k n:=by
 have hu:=put_uniq (i:=i) h hn
 by_cases e:k=s.p
 ·rw [if_pos e]
  exact(fnd_eq hu).2 ⟨hi,s,by unfold updS;rw [if_pos rfl],e.symm⟩
 ·rw [if_neg e]
  refine fnd_ext hu h fun j hj=>?_
  unfold updS
  by_cases e2:j=i
  ·subst e2
   rw [if_pos rfl,hi0]
   simp
   exact fun h=>e h.symm
  ·rw [if_neg e2]
def cntM(f:Nat->Bool):Nat->Nat
 | 0=>0
 | i+1=>cntM f i+if f i then 1 else 0
theorem cntM_ext{f g:Nat->Bool} : ∀{n:Nat},(∀i,i<n->f i=g i)->cntM f n=cntM g n
 | 0,_=>rfl
 | n+1,h=>by
  unfold cntM
  rw [cntM_ext fun i hi=>h i (by omega),h n (by omega)]
theorem cntM_le(f:Nat->Bool):∀n,cntM f n<=n
 | 0=>Nat.le_refl _
 | n+1=>by
  unfold cntM
  have:=cntM_le f n
  split <;> omega
theorem cntM_less{f g:Nat->Bool}{i:Nat} : ∀{n:Nat},i<n->f i=true->g i=false->(∀j,j≠i->g j=f j)->cntM g n+1=cntM f n
 | 0,h,_,_,_=>by omega
 | n+1,h,e,e',ho=>by
  unfold cntM
  by_cases c:i=n
  ·subst c
   rw [if_pos e,if_neg (by rw [e'];simp),cntM_ext (f:=g) (g:=f) fun j hj=>ho j (by omega)]
  ·have:=cntM_less (n:=n) (show i<n by omega) e e' ho
   rw [ho n (fun h=>c h.symm)]
   omega
theorem mkS_setM(S:Nat->Option Slt)(i:Nat)(b:Bool)(j:Nat)(hj:j≠i):mkS (setM S i b) j=mkS S j:=by
 unfold mkS setM updS
 rw [if_neg hj]
theorem mkS_setM_false(S:Nat->Option Slt)(i:Nat):mkS (setM S i false) i=false:=by
 unfold mkS setM updS
 rw [if_pos rfl]
 cases S i <;> rfl
def Cch.next(c:Cch):Cch:={ c with hand:=(c.hand+1)%c.n }
def Cch.by_(c:Cch):Cch:={ c.next with S:=setM c.S c.hand false }
def chs:Nat->Cch->Cch × Nat
 | 0,c=>(c.next,c.hand)
 | f+1,c=>if mkS c.S c.hand then chs f c.by_ else(c.next,c.hand)
theorem chs_no{c:Cch}(h:mkS c.S c.hand=false):∀f,chs f c=(c.next,c.hand)
 | 0=>rfl
 | f+1=>by unfold chs;rw [if_neg (by rw [h];simp)]
theorem chs_yes{c:Cch}(h:mkS c.S c.hand=true)(f:Nat):chs (f+1) c=chs f c.by_:=by
 show (if mkS c.S c.hand then chs f c.by_ else(c.next,c.hand))=_
 rw [if_pos h]
structure Same(c c':Cch):Prop where
 n:c'.n=c.n
 rt:c'.rt=c.rt
 h:c'.h=c.h
 m:c'.m=c.m
 t:c'.t=c.t
 l:c'.l=c.l
 S:∀j k,(∃s,c'.S j=some s/\s.p=k)↔∃s,c.S j=some s/\s.p=k
 G:∀j s,c'.S j=some s->∃t,c.S j=some t/\s.G=t.G/\s.p=t.p
theorem Same.trans{a b c:Cch}(h:Same a b)(k:Same b c):Same a c:=
 ⟨k.n.trans h.n,k.rt.trans h.rt,k.h.trans h.h,k.m.trans h.m,k.t.trans h.t,k.l.trans h.l,fun j q=>(k.S j q).trans (h.S j q),fun j s hs=>by
  obtain⟨t,h1,h2,h3⟩:=k.G j s hs
  obtain⟨u,h4,h5,h6⟩:=h.G j t h1
  exact⟨u,h4,h2.trans h5,h3.trans h6⟩⟩
theorem Same.next(c:Cch):Same c c.next:=⟨rfl,rfl,rfl,rfl,rfl,rfl,fun _ _=>Iff.rfl,fun _ s hs=>⟨s,hs,rfl,rfl⟩⟩
theorem setM_G(S:Nat->Option Slt)(i:Nat)(b:Bool)(j:Nat)(s:Slt)(h:setM S i b j=some s):∃t,S j=some t/\s.G=t.G/\s.p=t.p:=by
 unfold setM updS at h
 split at h
 ·rename_i e
  subst e
  cases hs:S j with
  | none=>rw [hs] at h;cases h
  | some t=>rw [hs] at h;cases h;exact⟨t,rfl,rfl,rfl⟩
 ·exact⟨s,h,rfl,rfl⟩
theorem Same.by_(c:Cch):Same c c.by_:=⟨rfl,rfl,rfl,rfl,rfl,rfl,fun j k=>setM_has c.S c.hand j k false,fun j s hs=>setM_G c.S c.hand false j s hs⟩
theorem chs_same:∀f (c:Cch),Same c (chs f c).1
 | 0,c=>Same.next c
 | f+1,c=>by
  unfold chs
  split
  ·exact(Same.by_ c).trans (chs_same f c.by_)
  ·exact Same.next c
theorem chs_lt:∀f (c:Cch),0<c.n->c.hand<c.n->(chs f c).2<c.n/\(chs f c).1.hand<c.n
 | 0,c,h,h1=>⟨h1,Nat.mod_lt _ h⟩
 | f+1,c,h,h1=>by
  unfold chs
  split
  ·exact chs_lt f c.by_ h (Nat.mod_lt _ h)
  ·exact⟨h1,Nat.mod_lt _ h⟩
def Cch.choose(c:Cch):Cch × Nat:=chs c.n c
def Cch.put(c:Cch)(k:Nat)(G:Nat->Int):Cch:={ c.choose.1 with S:=updS c.choose.1.S c.choose.2 (some ⟨k,true,G⟩) }
def tryN(k:Nat):Nat->Dsk->Int->Option (Nat->Int) × Dsk × Int
 | 0,d,t=>(none,d,t)
 | j+1,d,t=>if (d.F k).f≠0 then tryN k j (d.bad k) (wrap64 (t+1)) else(some (readF d k),d.more,wrap64 (t+1))
structure Tkn where
 r:Option (Nat->Int)
 c:Cch
 d:Dsk
def Cch.hit(c:Cch)(i:Nat):Cch:={ c with h:=wrap64 (c.h+1),S:=setM c.S i true }
def Cch.miss(c:Cch):Cch:={ c with m:=wrap64 (c.m+1) }
def Cch.tried(c:Cch)(t:Int):Cch:={ c with t:=t }
def Cch.lose(c:Cch):Cch:={ c with l:=wrap64 (c.l+1) }
def takeR(c:Cch)(d:Dsk)(k:Nat):Tkn:=
 match fnd c.S k c.n with
 | some i=>⟨(c.S i).map Slt.G,c.hit i,d⟩
 | none=>match tryN k (c.rt+1) d c.t with
  | (none,d',t')=>⟨none,(c.miss.tried t').lose,d'⟩
  | (some G,d',t')=>⟨some G,(c.miss.tried t').put k G,d'⟩
def cellS(s:Option Slt)(g:Nat):Nat->Value
 | 0=>match s with | some s=>.int .i64 (s.p:Int) | none=>.int .i64 0
 | 1=>match s with | some _=>.slice (some ⟨g,0,none⟩) 64 64 | none=>.slice none 0 0
 | _=>match s with | some s=>.bool s.m | none=>.bool false
def slV(S:Nat->Option Slt)(gs:Nat->Nat):Nat->Value:=fun j=>cellS (S (j/3)) (gs (j/3)) (j%3)
def SlotsAt(w:World)(sb n z av:Nat)(S:Nat->Option Slt):Prop:=
 ∃gs:Nat->Nat,CellsV w sb (3*n) (slV S gs)/\∀i,i<n->∀s,S i=some s->(z<=gs i/\gs i≠av)/\SlU w (some ⟨gs i,0,none⟩) 64 s.G
namespace SlotsAt
variable {w w':World} {sb n z av:Nat} {S:Nat->Option Slt}
theorem lt(h:SlotsAt w sb n z av S):sb<w.heap.size:=by obtain⟨gs,h1,_⟩:=h;exact h1.lt
theorem kept{X:Nat->Prop}(h:SlotsAt w sb n z av S)(k:Kept X w w')(hb:X sb)(hz:∀g,z<=g->g≠av->g<w.heap.size->X g):SlotsAt w' sb n z av S:=by
 obtain⟨gs,h1,h2⟩:=h
 refine⟨gs,h1.kept k hb,fun i hi s hs=>?_⟩
 obtain⟨h3,h4⟩:=h2 i hi s hs
 refine⟨h3,h4.kept k fun a _ ha=>?_⟩
 cases ha
 obtain⟨g,o,e1,e2,_⟩:=h4 (by omega)
 cases e1
 exact hz _ h3.1 h3.2 e2
theorem old(h:SlotsAt w sb n z av S)(k:Old w w'):SlotsAt w' sb n z av S:=h.kept k h.lt fun _ _ _ h=>h
theorem cells(h:SlotsAt w sb n z av S){i:Nat}(hi:i<n):∃g,w.cell? ⟨sb,i*3,none⟩=some (cellS (S i) g 0)/\w.cell? ⟨sb,i*3+1,none⟩=some (cellS (S i) g 1)/\w.cell? ⟨sb,i*3+2,none⟩=some (cellS (S i) g 2) /\
  w.frozen? ⟨sb,i*3,none⟩=false/\w.frozen? ⟨sb,i*3+1,none⟩=false/\w.frozen? ⟨sb,i*3+2,none⟩=false/\∀s,S i=some s->z<=g/\g<w.heap.size/\SlU w (some ⟨g,0,none⟩) 64 s.G:=by
 obtain⟨gs,h1,h2⟩:=h
 refine⟨gs i,?_,?_,?_,h1.frz _ (by omega),h1.frz _ (by omega),h1.frz _ (by omega),fun s hs=>?_⟩
 ·rw [h1.cell (i*3) (by omega)]
  unfold slV
  rw [show i*3/3=i by omega,show i*3%3=0 by omega]
 ·rw [h1.cell (i*3+1) (by omega)]
  unfold slV
  rw [show (i*3+1)/3=i by omega,show (i*3+1)%3=1 by omega]
 ·rw [h1.cell (i*3+2) (by omega)]
  unfold slV
  rw [show (i*3+2)/3=i by omega,show (i*3+2)%3=2 by omega]
 ·obtain⟨h3,h4⟩:=h2 i hi s hs
  obtain⟨g,o,e1,e2,_⟩:=h4 (by omega)
  cases e1
  exact⟨h3.1,e2,h4⟩
theorem mark(h:SlotsAt w sb n z av S){i:Nat}(hi:i<n){s:Slt}(hs:S i=some s)(hz:sb<z)(b:Bool):SlotsAt (w.setCell ⟨sb,i*3+2,none⟩ (.bool b)) sb n z av (setM S i b):=by
 obtain⟨gs,h1,h2⟩:=h
 have hk:Kept (fun q=>q≠sb) w (w.setCell ⟨sb,i*3+2,none⟩ (.bool b)):=Kept.setCell w (a:=⟨sb,i*3+2,none⟩) (fun e=>e rfl) _
 refine⟨gs,⟨by have:=h1.lt;simpa [World.setCell] using this,fun j hj=>?_,fun j hj=>by rw [World.frozen?_setCell];exact h1.frz j hj⟩,fun j hj t ht=>?_⟩
 ·by_cases e:j=i*3+2
  ·subst e
   rw [World.cell?_setCell_same _ _ _ (h1.cell _ hj)]
   unfold slV
   rw [show (i*3+2)/3=i by omega,show (i*3+2)%3=2 by omega]
   unfold setM updS
   rw [if_pos rfl,hs]
   rfl
  ·rw [World.cell?_setCell_other _ _ _ _ (fun e'=>e (by injection e' with _ e2;exact e2.symm)),h1.cell j hj]
   unfold slV setM updS
   by_cases e2:j/3=i
   ·rw [if_pos e2,e2,hs]
    have h3:j%3=0\/j%3=1:=by omega
    rcases h3 with h3 | h3 <;> rw [h3] <;> rfl
   ·rw [if_neg e2]
 ·obtain⟨u,hu,e1,e2⟩:=setM_G S i b j t ht
  obtain⟨h3,h4⟩:=h2 j hj u hu
  refine⟨h3,?_⟩
  rw [e1]
  exact h4.kept hk fun a _ ha=>by cases ha;show gs j≠sb;omega
theorem setS(h:SlotsAt w sb n z av S){i:Nat}(hi:i<n)(hz:sb<z)(s:Option Slt)(g:Nat)(hg:∀t,s=some t->(z<=g/\g≠av)/\SlU w (some ⟨g,0,none⟩) 64 t.G):
  SlotsAt (w.setCells sb (i*3) [cellS s g 0,cellS s g 1,cellS s g 2]) sb n z av (updS S i s):=by
 obtain⟨gs,h1,h2⟩:=h
 have e0:[cellS s g 0,cellS s g 1,cellS s g 2]=(rowN 3 (cellS s g)).toList:=rfl
 rw [e0]
 have hk:Kept (fun q=>q≠sb) w (w.setCells sb (i*3) (rowN 3 (cellS s g)).toList):=Kept.setCells _ (fun e=>e rfl) _ _
 refine⟨fun j=>if j=i then g else gs j,CellsV.ext (h1.setCells (i*3) 3 (by omega) (cellS s g)) fun j hj=>?_,fun j hj t ht=>?_⟩
 ·unfold patchV slV updS
  by_cases e:j/3=i
  ·rw [if_pos (show i*3<=j/\j<i*3+3 by omega)]
   simp only [if_pos e]
   rw [show j-i*3=j%3 by omega]
  ·rw [if_neg (show ¬(i*3<=j/\j<i*3+3) by omega)]
   simp only [if_neg e]
 ·unfold updS at ht
  by_cases e:j=i
  ·rw [if_pos e] at ht
   simp only [if_pos e]
   obtain⟨h3,h4⟩:=hg t ht
   exact⟨h3,h4.kept hk fun a _ ha=>by cases ha;show g≠sb;omega⟩
  ·rw [if_neg e] at ht
   simp only [if_neg e]
   obtain⟨h3,h4⟩:=h2 j hj t ht
   exact⟨h3,h4.kept hk fun a _ ha=>by cases ha;show gs j≠sb;omega⟩
theorem reav(h:SlotsAt w sb n z av S){q:Nat}(hq:w.heap.size<=q\/q<z):SlotsAt w sb n z q S:=by
 obtain⟨gs,h1,h2⟩:=h
 refine⟨gs,h1,fun i hi s hs=>?_⟩
 obtain⟨h3,h4⟩:=h2 i hi s hs
 obtain⟨g,o,e1,e2,_⟩:=h4 (by omega)
 cases e1
 exact⟨⟨h3.1,by omega⟩,h4⟩
end SlotsAt
structure CcAt(w:World)(z0 z av b sb hm db N:Nat)(c:Cch):Prop where
 blk:w.heap[b]?=some (.cells #[.int .i64 c.h,.int .i64 c.m,.int .i64 c.t,.int .i64 c.l,.pointer (some ⟨db,0,none⟩),.int .i64 (c.rt:Int),.slice (some ⟨sb,0,none⟩) c.n c.n,.map (some hm),.int .i64 (c.hand:Int)] 146 (0,0))
 num:0<c.n/\c.n<=1024/\c.rt<=8/\c.hand<c.n/\N<=65536
 slots:SlotsAt w sb c.n z av c.S
 map:HldAt w hm N (fun k=>fnd c.S k c.n)
 pgs:∀i,i<c.n->∀s,c.S i=some s->s.p<N
 uq:uniq c.n c.S
 rng:(z0<=b/\b<z)/\(z0<=sb/\sb<z)/\(z0<=hm/\hm<z)/\b≠sb/\b≠hm/\sb≠hm
namespace CcAt
variable {w w':World} {z0 z av b sb hm db N:Nat} {c:Cch}
theorem ltb(h:CcAt w z0 z av b sb hm db N c):b<w.heap.size:=lt_of_block h.blk
theorem kept{X:Nat->Prop}(h:CcAt w z0 z av b sb hm db N c)(k:Kept X w w')(hb:X b)(hs:X sb)(hh:X hm)(hz:∀g,z<=g->g≠av->g<w.heap.size->X g):CcAt w' z0 z av b sb hm db N c:=
 ⟨(k.block b hb).trans h.blk,h.num,h.slots.kept k hs hz,h.map.kept k hh,h.pgs,h.uq,h.rng⟩
theorem old(h:CcAt w z0 z av b sb hm db N c)(k:Old w w'):CcAt w' z0 z av b sb hm db N c:=h.kept k h.ltb h.slots.lt h.map.lt fun _ _ _ h=>h
theorem cells(h:CcAt w z0 z av b sb hm db N c):w.cell? ⟨b,0,none⟩=some (.int .i64 c.h)/\w.cell? ⟨b,1,none⟩=some (.int .i64 c.m)/\w.cell? ⟨b,2,none⟩=some (.int .i64 c.t)/\w.cell? ⟨b,3,none⟩=some (.int .i64 c.l) /\
  w.cell? ⟨b,4,none⟩=some (.pointer (some ⟨db,0,none⟩))/\w.cell? ⟨b,5,none⟩=some (.int .i64 (c.rt:Int))/\w.cell? ⟨b,6,none⟩=some (.slice (some ⟨sb,0,none⟩) c.n c.n)/\w.cell? ⟨b,7,none⟩=some (.map (some hm))/\w.cell? ⟨b,8,none⟩=some (.int .i64 (c.hand:Int)):=by
 have:=h.blk
 simp [World.cell?,this]
theorem frz(h:CcAt w z0 z av b sb hm db N c)(o:Nat):w.frozen? ⟨b,o,none⟩=false:=by
 have:=h.blk
 simp [World.frozen?,this]
theorem reav(h:CcAt w z0 z av b sb hm db N c){q:Nat}(hq:w.heap.size<=q\/q<z):CcAt w z0 z q b sb hm db N c:=⟨h.blk,h.num,h.slots.reav hq,h.map,h.pgs,h.uq,h.rng⟩
end CcAt
theorem cMade_yes(b db:Nat)(w:World)(hc:w.cell? ⟨b,4,none⟩=some (.pointer (some ⟨db,0,none⟩))):Calls Tryz.prog 74 #[.pointer (some ⟨b,0,none⟩)] w fun e w'=>e = .returned (.bool true)/\w=w':=by
 go_enter Tryz.func74,Tryz.ntmps74
 go_wp2
 go_ret
 exact⟨rfl,rfl⟩
def statV(c:Cch):Value:=.agg #[.int .i64 c.h,.int .i64 c.m,.int .i64 c.t,.int .i64 c.l]
theorem cTold_at(z0 z av b sb hm db N:Nat)(c:Cch)(w:World)(h:CcAt w z0 z av b sb hm db N c):Calls Tryz.prog 32 #[.pointer (some ⟨b,0,none⟩)] w fun e w'=>e = .returned (statV c)/\Old w w':=by
 have HO:=zH (Old.alloc w (.cells #[.int .i64 0,.int .i64 0,.int .i64 0,.int .i64 0] 85))
 obtain⟨c0,c1,c2,c3,c4,_,_,_,_⟩:=(h.old HO.out).cells
 have H:=zH (cMade_yes b db _ c4)
 have HO2:=zH (Old.alloc w (.cells #[.int .i64 c.h,.int .i64 c.m,.int .i64 c.t,.int .i64 c.l] 85))
 unfold statV
 clear h
 go_enter Tryz.func32,Tryz.ntmps32
 go_wp2_with fail
 refine H.out.mono ?_
 rintro e w' ⟨rfl,rfl⟩
 go_wp2_with fail
 refine bodyPost_ret (results_cell_row rfl _ _ w.heap.size 85 _ (0,0) _ rfl (heap_alloc_new _ _) Tryz.underlying85 rfl (by kernel_rfl)) rfl ?_
 exact⟨rfl,HO2.out⟩
theorem cNew_bad(db:Nat)(n rt:Int)(w:World)(h:n<1\/1024<n\/rt<0\/8<rt):Calls Tryz.prog 64 #[.pointer (some ⟨db,0,none⟩),.int .i64 n,.int .i64 rt] w fun e w'=>e = .returned (.tuple #[.pointer none,.int .i64 1])/\w=w':=by
 by_cases h0:n<1
 ·clear h
  go_enter Tryz.func64,Tryz.ntmps64
  go_wp2
  go_ret2
  exact⟨rfl,rfl⟩
 ·by_cases h1:1024<n
  ·clear h
   go_enter Tryz.func64,Tryz.ntmps64
   go_wp2
   go_ret2
   exact⟨rfl,rfl⟩
  ·by_cases h2:rt<0
   ·clear h
    go_enter Tryz.func64,Tryz.ntmps64
    go_wp2
    go_ret2
    exact⟨rfl,rfl⟩
   ·have h3:8<rt:=by omega
    clear h
    go_enter Tryz.func64,Tryz.ntmps64
    go_wp2
    go_ret2
    exact⟨rfl,rfl⟩
def cc0(n rt:Nat):Cch:=⟨n,rt,0,0,0,0,0,fun _=>none⟩
theorem slV_none(gs:Nat->Nat)(j:Nat):slV (fun _=>none) gs j=cellS none 0 (j%3):=by
 unfold slV
 have h3:j%3=0\/j%3=1\/j%3=2:=by omega
 rcases h3 with h3 | h3 | h3 <;> rw [h3] <;> rfl
def zSl:Array Value:=#[.int .i64 0,.slice none 0 0,.bool false]
theorem made_slots(n:Nat):madeCells zSl (3*n)=rowN (3*n) (slV (fun _=>none) fun _=>0):=by
 apply Array.ext_getElem?
 intro i
 have hz:zSl.size=3:=rfl
 by_cases hi:i<3*n
 ·rw [rowN_at (3*n) _ i hi,slV_none]
  have h3:i%3=0\/i%3=1\/i%3=2:=by omega
  rcases h3 with h3 | h3 | h3 <;> simp [madeCells,hi,hz,h3] <;> rfl
 ·rw [Array.getElem?_eq_none (by rw [size_madeCells];omega),Array.getElem?_eq_none (by rw [rowN_size];omega)]
theorem Tryz.info_slot:(Tryz.prog.info? 202).map (fun i=>(i.zero,i.size,i.bytes))=some (some (.agg zSl),3,40):=by kernel_rfl
theorem make_slots(n:Nat)(hn:n<=1024)(w:World):(Instr.makeSlice 143 (.int .i64 n) (.int .i64 n)).run Tryz.prog w = .ok (.slice (some ⟨w.heap.size,0,none⟩) n n) (w.alloc (.cells (rowN (3*n) (slV (fun _=>none) fun _=>0)) 202)):=by
 obtain⟨i,hi,hz0,hz1,hz2⟩:=info_parts Tryz.info_slot
 rw [run_make w _ _ i _ Tryz.underlying143 hi hz0 .i64 .i64 n n (by omega) (by omega) (by rw [hz2];omega) (by omega),Int.toNat_natCast]
 rw [hz1,show (Value.agg zSl).cells=zSl from rfl,Nat.mul_comm n 3,←made_slots]
theorem cNew_ok(db n rt N:Nat)(w:World)(h1:1<=n)(h2:n<=1024)(h3:rt<=8)(hN:N<=65536):Calls Tryz.prog 64 #[.pointer (some ⟨db,0,none⟩),.int .i64 (n:Int),.int .i64 (rt:Int)] w fun e w'=>
  e = .returned (.tuple #[.pointer (some ⟨w.heap.size+2,0,none⟩),.int .i64 0])/\w'.heap.size=w.heap.size+3/\CcAt w' w.heap.size (w.heap.size+3) (w.heap.size+2) (w.heap.size+2) w.heap.size (w.heap.size+1) db N (cc0 n rt)/\Old w w':=by
 have hM:=make_slots n h2 w
 have hmm:=@run_makeMap Tryz.prog
 obtain⟨W1,hW1⟩:∃W1,W1=w.alloc (.cells (rowN (3*n) (slV (fun _=>none) fun _=>0)) 202):=⟨_,rfl⟩
 rw [←hW1] at hM
 have hS1:W1.heap.size=w.heap.size+1:=by rw [hW1];simp
 have HE:Hid (((W1.alloc (.map #[] 0)).alloc (.cells #[.int .i64 0,.int .i64 0,.int .i64 0,.int .i64 0,.pointer (some ⟨db,0,none⟩),.int .i64 (rt:Int),.slice (some ⟨w.heap.size,0,none⟩) n n,.map (some (w.heap.size+1)),.int .i64 0] 146)).heap.size=w.heap.size+3 /\
   CcAt ((W1.alloc (.map #[] 0)).alloc (.cells #[.int .i64 0,.int .i64 0,.int .i64 0,.int .i64 0,.pointer (some ⟨db,0,none⟩),.int .i64 (rt:Int),.slice (some ⟨w.heap.size,0,none⟩) n n,.map (some (w.heap.size+1)),.int .i64 0] 146)) w.heap.size (w.heap.size+3) (w.heap.size+2) (w.heap.size+2) w.heap.size (w.heap.size+1) db N (cc0 n rt) /\
   Old w ((W1.alloc (.map #[] 0)).alloc (.cells #[.int .i64 0,.int .i64 0,.int .i64 0,.int .i64 0,.pointer (some ⟨db,0,none⟩),.int .i64 (rt:Int),.slice (some ⟨w.heap.size,0,none⟩) n n,.map (some (w.heap.size+1)),.int .i64 0] 146))):=by
  have hs2:(W1.alloc (.map #[] 0)).heap.size=w.heap.size+2:=by simp [hS1]
  have o0:Old w W1:=by rw [hW1];exact Old.alloc _ _
  have o1:=Old.alloc W1 (.map #[] 0)
  have o2:=Old.alloc (W1.alloc (.map #[] 0)) (.cells #[.int .i64 0,.int .i64 0,.int .i64 0,.int .i64 0,.pointer (some ⟨db,0,none⟩),.int .i64 (rt:Int),.slice (some ⟨w.heap.size,0,none⟩) n n,.map (some (w.heap.size+1)),.int .i64 0] 146)
  have hb:=heap_alloc_new (W1.alloc (.map #[] 0)) (.cells #[.int .i64 0,.int .i64 0,.int .i64 0,.int .i64 0,.pointer (some ⟨db,0,none⟩),.int .i64 (rt:Int),.slice (some ⟨w.heap.size,0,none⟩) n n,.map (some (w.heap.size+1)),.int .i64 0] 146)
  rw [hs2] at hb
  have hsl:CellsV W1 w.heap.size (3*n) (slV (fun _=>none) fun _=>0):=by rw [hW1];exact cellsV_of (heap_alloc_new _ _)
  refine⟨by simp [hS1],⟨?_,⟨h1,h2,h3,h1,hN⟩,⟨fun _=>0,(hsl.old o1).old o2,fun i _ s hs=>by cases hs⟩,?_,fun i _ s hs=>(by(have h0:(none:Option Slt)=some s:=hs);cases h0),fun i j s t _ _ hs=>(by(have h0:(none:Option Slt)=some s:=hs);cases h0),by omega⟩,(o0.trans o1).trans o2⟩
  ·exact hb
  ·have hm:=((hld_made W1 N).old o2).ext (G:=fun k=>fnd (cc0 n rt).S k (cc0 n rt).n) fun k _=>by
    show none=fnd (fun _=>none) k n
    cases hf:fnd (fun _=>none) k n with
    | none=>rfl
    | some i=>have:=(fnd_some hf).2;unfold hasS at this;cases this
   rw [hS1] at hm
   exact hm
 clear hW1
 go_enter Tryz.func64,Tryz.ntmps64
 go_wp2_with fail
 go_ret2
 exact⟨rfl,HE.out⟩
theorem CcAt.next{w:World}{z0 z av b sb hm db N:Nat}{c:Cch}(h:CcAt w z0 z av b sb hm db N c):CcAt (w.setCell ⟨b,8,none⟩ (.int .i64 (((c.hand+1)%c.n:Nat):Int))) z0 z av b sb hm db N c.next:=by
 have k:Kept (fun j=>j≠b) w (w.setCell ⟨b,8,none⟩ (.int .i64 (((c.hand+1)%c.n:Nat):Int))):=Kept.setCell w (a:=⟨b,8,none⟩) (fun e=>e rfl) _
 have hr:=h.rng
 exact⟨(heap_setCell_at h.blk).trans rfl,⟨h.num.1,h.num.2.1,h.num.2.2.1,Nat.mod_lt _ h.num.1,h.num.2.2.2.2⟩,h.slots.kept k (by omega) fun g hg _ _=>by omega,h.map.kept k (by omega),h.pgs,h.uq,hr⟩
theorem CcAt.markd{w:World}{z0 z av b sb hm db N:Nat}{c:Cch}(h:CcAt w z0 z av b sb hm db N c){i:Nat}(hi:i<c.n){s:Slt}(hs:c.S i=some s)(m:Bool):CcAt (w.setCell ⟨sb,i*3+2,none⟩ (.bool m)) z0 z av b sb hm db N { c with S:=setM c.S i m }:=by
 have hr:=h.rng
 have k:Kept (fun j=>j≠sb) w (w.setCell ⟨sb,i*3+2,none⟩ (.bool m)):=Kept.setCell w (a:=⟨sb,i*3+2,none⟩) (fun e=>e rfl) _
 refine⟨(k.block b (by omega)).trans h.blk,h.num,h.slots.mark hi hs (by omega) m,(h.map.kept k (by omega)).ext fun k _=>(setM_fnd h.uq i m k).symm,fun j hj t ht=>?_,setM_uniq h.uq i m,hr⟩
 obtain⟨u,hu,_,e2⟩:=setM_G c.S i m j t ht
 rw [e2]
 exact h.pgs j hj u hu
theorem mkS_some{S:Nat->Option Slt}{i:Nat}(h:mkS S i=true):∃s,S i=some s/\s.m=true:=by
 unfold mkS at h
 cases hs:S i with
 | none=>rw [hs] at h;cases h
 | some s=>rw [hs] at h;exact⟨s,rfl,h⟩
theorem cellS_mark(S:Nat->Option Slt)(i g:Nat):cellS (S i) g 2 = .bool (mkS S i):=by
 unfold mkS
 cases S i <;> rfl
structure ChR(w0:World)(z0 z av b sb hm db N:Nat)(c:Cch)(g:Nat)(wr:World):Prop where
 ex:∃cur:Cch,cntM (mkS cur.S) cur.n<=g/\chs g cur=c.choose/\CcAt wr z0 z av b sb hm db N cur
 kp:Kept (fun q=>q≠b/\q≠sb) w0 wr
set_option maxHeartbeats 1000000 in
theorem choose_any(z0 z av b sb hm db N:Nat)(c:Cch)(w:World)(h:CcAt w z0 z av b sb hm db N c):Calls Tryz.prog 155 #[.pointer (some ⟨b,0,none⟩)] w fun e w'=>
  e = .returned (.int .i64 (c.choose.2:Int))/\CcAt w' z0 z av b sb hm db N c.choose.1/\Kept (fun q=>q≠b/\q≠sb) w w':=by
 have H0:Hid (ChR w z0 z av b sb hm db N c c.n w):=⟨⟨c,cntM_le _ _,rfl,h⟩,Kept.refl _ _⟩
 obtain⟨cc,hcc⟩:∃cc,cc=c.choose:=⟨_,rfl⟩
 obtain⟨n0,hn0⟩:∃n0,n0=c.n:=⟨_,rfl⟩
 have HC:=zH hcc
 rw [←hcc]
 rw [←hn0] at H0
 clear h hcc hn0
 go_enter Tryz.func155,Tryz.ntmps155
 go_wp2_with fail
 go_loopg [] n0 (fun g wr=>Hid (ChR w z0 z av b sb hm db N c g wr))
 case atStart=>exact H0
 case round=>
  obtain⟨cur,hcnt,hch,hat⟩:=hrel.out.ex
  have HK:=zH hrel.out.kp
  obtain⟨_,_,_,_,c4,_,c6,_,c8⟩:=hat.cells
  have f8:=hat.frz 8
  obtain⟨hn1,hn2,_,hh,_⟩:=hat.num
  have hr:=hat.rng
  obtain⟨n,hn⟩:∃n,n=cur.n:=⟨_,rfl⟩
  obtain⟨hd,hhd⟩:∃hd,hd=cur.hand:=⟨_,rfl⟩
  obtain⟨nx,hnx⟩:∃nx,nx=(hd+1)%n:=⟨_,rfl⟩
  rw [←hn] at c6 hn1 hn2 hh
  rw [←hhd] at c8 hh
  have hnxn:nx<n:=by rw [hnx];exact Nat.mod_lt _ hn1
  have t1:wrap64 (((hd:Int)+1).tmod (n:Int))=nx:=by
   rw [Int.tmod_eq_emod_of_nonneg (by omega),hnx]
   have:(((hd+1)%n:Nat):Int)=((hd:Int)+1)%(n:Int):=by rw [Int.natCast_emod];rfl
   have h5:(hd+1)%n<n:=Nat.mod_lt _ hn1
   rw [←this,IntWalk.wrap64_in _ (by omega)]
  have t2:((hd:Int)+1)%(n:Int)=nx:=by rw [hnx,Int.natCast_emod];rfl
  have hat2:CcAt ((wr.setCell ⟨b,8,none⟩ (.int .i64 (nx:Int))).drew) z0 z av b sb hm db N cur.next:=by rw [hnx,hn,hhd];exact hat.next.old (Old.refl _).drew
  have hK2:Kept (fun q=>q≠b/\q≠sb) w ((wr.setCell ⟨b,8,none⟩ (.int .i64 (nx:Int))).drew):=(HK.out.trans (Kept.setCell _ (a:=⟨b,8,none⟩) (fun e=>e.1 rfl) _)).drew
  obtain⟨_,_,_,_,_,_,d6,_,_⟩:=hat2.cells
  obtain⟨g,_,_,g2,_,_,k2,_⟩:=hat2.slots.cells (i:=hd) (by rw [hhd];exact hat.num.2.2.2.1)
  rw [cellS_mark] at g2
  obtain⟨mk,hmk⟩:∃mk,mk=mkS cur.S hd:=⟨_,rfl⟩
  rw [show cur.next.S=cur.S from rfl,←hmk] at g2
  rw [show cur.next.n=cur.n from rfl,←hn] at d6
  have HD:=zH (And.intro hcnt (And.intro hch (And.intro hn (And.intro hhd (And.intro hmk (And.intro hat2 hK2))))))
  clear hrel H0 hat hat2 hK2 hcnt hch hn hhd hnx hr hmk
  have hz0:¬n=0:=by omega
  have tw0:IntKind.i64.wrap ((hd:Int)+1)=(hd:Int)+1:=IntWalk.i64_in _ (by omega)
  have tw1:((hd:Int)+1).tmod (n:Int)=nx:=by rw [Int.tmod_eq_emod_of_nonneg (by omega)];exact t2
  have tw2:IntKind.i64.wrap (nx:Int)=nx:=IntWalk.i64_in _ (by omega)
  go_wp2_with fail
  refine wp_region_still_tail 14 (by kernel_rfl) (by kernel_rfl) ?_
  simp only [List.take_succ_cons,List.take_zero,List.drop_succ_cons,List.drop_zero]
  iterate 14 (with_reducible refine wpStill_step (fun K hK=>?_);go_simp;with_reducible refine hK _ ?_;clear hK K)
  with_reducible refine wpStill_nil ?_
  change wpList _ _ _ _ _ (World.drew _)
  cases mk with
  | false=>
   have HF:Hid (cc=(cur.next,hd)):=by
    obtain⟨_,e2,_,e4,e5,_,_⟩:=HD.out
    rw [HC.out,←e2,chs_no (by rw [←e4];exact e5.symm),e4]
    exact zH rfl
   go_wp2_with fail
   rw [HF.out]
   go_ret
   exact⟨rfl,HD.out.2.2.2.2.2⟩
  | true=>
   have HF:Hid (∃k,k<gk/\ChR w z0 z av b sb hm db N c k (((wr.setCell ⟨b,8,none⟩ (.int .i64 (nx:Int))).drew).setCell ⟨sb,hd*3+2,none⟩ (.bool false))):=by
    obtain⟨e1,e2,e3,e4,e5,e6,e7⟩:=HD.out
    have hm:mkS cur.S cur.hand=true:=by rw [←e4];exact e5.symm
    have hlt:cur.hand<cur.n:=by rw [←e4,←e3];exact hh
    obtain⟨s,hs,_⟩:=mkS_some hm
    have hc1:=cntM_less (f:=mkS cur.S) (g:=mkS (setM cur.S cur.hand false)) hlt hm (mkS_setM_false _ _) fun j hj=>mkS_setM _ _ _ j hj
    obtain⟨g',rfl⟩:∃g',gk=g'+1:=⟨gk-1,by omega⟩
    refine⟨g',by omega,⟨⟨cur.by_,?_,?_,?_⟩,e7.trans (Kept.setCell _ (a:=⟨sb,hd*3+2,none⟩) (fun e=>e.2 rfl) _)⟩⟩
    ·show cntM (mkS (setM cur.S cur.hand false)) cur.n<=g'
     omega
    ·rw [←e2,chs_yes hm]
    ·rw [e4]
     exact e6.markd hlt hs false
   go_wp2_with fail
   obtain⟨k,hk,hF⟩:=HF.out
   go_roundg k
   case measure=>exact hk
   case rel=>exact hF
theorem CcAt.stat{w:World}{z0 z av b sb hm db N:Nat}{c:Cch}(h:CcAt w z0 z av b sb hm db N c)(o:Nat)(v:Value)(h' m' t' l':Int)
  (e:(#[.int .i64 c.h,.int .i64 c.m,.int .i64 c.t,.int .i64 c.l,.pointer (some ⟨db,0,none⟩),.int .i64 (c.rt:Int),.slice (some ⟨sb,0,none⟩) c.n c.n,.map (some hm),.int .i64 (c.hand:Int)]:Array Value).setIfInBounds o v =
   #[.int .i64 h',.int .i64 m',.int .i64 t',.int .i64 l',.pointer (some ⟨db,0,none⟩),.int .i64 (c.rt:Int),.slice (some ⟨sb,0,none⟩) c.n c.n,.map (some hm),.int .i64 (c.hand:Int)]):
  CcAt (w.setCell ⟨b,o,none⟩ v) z0 z av b sb hm db N { c with h:=h',m:=m',t:=t',l:=l' }:=by
 have k:Kept (fun j=>j≠b) w (w.setCell ⟨b,o,none⟩ v):=Kept.setCell w (a:=⟨b,o,none⟩) (fun e=>e rfl) _
 have hr:=h.rng
 exact⟨by rw [heap_setCell_at h.blk,e],h.num,h.slots.kept k (by omega) fun g hg _ _=>by omega,h.map.kept k (by omega),h.pgs,h.uq,hr⟩
structure CkAt(w:World)(z0 z av b sb hm db dm:Nat)(p:Option Addr)(cd N:Nat)(c:Cch)(d:Dsk):Prop where
 cc:CcAt w z0 z av b sb hm db N c
 dk:DkAt w db dm p cd d
 nN:d.N=N
 lo:db<z0/\dm<z0/\∀a,0<N->p=some a->a.block<z0
 hi:z<=w.heap.size
def butK(w:World)(b sb hm db dm:Nat):Nat->Prop:=fun q=>q<w.heap.size/\q≠b/\q≠sb/\q≠hm/\q≠db/\q≠dm
namespace CkAt
variable {w w':World} {z0 z av b sb hm db dm cd N:Nat} {p:Option Addr} {c:Cch} {d:Dsk}
theorem kept{X:Nat->Prop}(h:CkAt w z0 z av b sb hm db dm p cd N c d)(k:Kept X w w')(hX:∀q,q<w.heap.size->q=b\/q=sb\/q=hm\/q=db\/q=dm\/q<z0\/(z<=q/\q≠av)->X q):CkAt w' z0 z av b sb hm db dm p cd N c d:=by
 refine⟨h.cc.kept k (hX _ h.cc.ltb (by simp)) (hX _ h.cc.slots.lt (by simp)) (hX _ h.cc.map.lt (by simp)) fun g h1 h1' h2=>hX g h2 (by simp [h1,h1']),h.dk.kept k (hX _ h.dk.ltb (by simp)) (hX _ h.dk.map.lt (by simp)) fun a hn ha=>hX _ (h.dk.plt a hn ha) ?_,h.nN,h.lo,Nat.le_trans h.hi k.size⟩
 have:=h.lo.2.2 a (by rw [←h.nN];exact hn) ha
 simp [this]
theorem old(h:CkAt w z0 z av b sb hm db dm p cd N c d)(k:Old w w'):CkAt w' z0 z av b sb hm db dm p cd N c d:=h.kept k fun _ hq _=>hq
theorem stat(h:CkAt w z0 z av b sb hm db dm p cd N c d)(o:Nat)(v:Value)(h' m' t' l':Int)
  (e:(#[.int .i64 c.h,.int .i64 c.m,.int .i64 c.t,.int .i64 c.l,.pointer (some ⟨db,0,none⟩),.int .i64 (c.rt:Int),.slice (some ⟨sb,0,none⟩) c.n c.n,.map (some hm),.int .i64 (c.hand:Int)]:Array Value).setIfInBounds o v =
   #[.int .i64 h',.int .i64 m',.int .i64 t',.int .i64 l',.pointer (some ⟨db,0,none⟩),.int .i64 (c.rt:Int),.slice (some ⟨sb,0,none⟩) c.n c.n,.map (some hm),.int .i64 (c.hand:Int)]):
  CkAt (w.setCell ⟨b,o,none⟩ v) z0 z av b sb hm db dm p cd N { c with h:=h',m:=m',t:=t',l:=l' } d:=by
 have k:Kept (fun j=>j≠b) w (w.setCell ⟨b,o,none⟩ v):=Kept.setCell w (a:=⟨b,o,none⟩) (fun e=>e rfl) _
 have hr:=h.cc.rng
 have hl:=h.lo
 exact⟨h.cc.stat o v h' m' t' l' e,h.dk.kept k (by omega) (by omega) (fun a hn ha=>by have:=hl.2.2 a (by rw [←h.nN];exact hn) ha;omega),h.nN,hl,Nat.le_trans h.hi k.size⟩
theorem disk(h:CkAt w z0 z av b sb hm db dm p cd N c d){d':Dsk}(k:Kept (butD w db dm) w w')(hd:DkAt w' db dm p cd d')(hN:d'.N=N):CkAt w' z0 z av b sb hm db dm p cd N c d':=by
 have hr:=h.cc.rng
 have hl:=h.lo
 exact⟨h.cc.kept k ⟨h.cc.ltb,by omega,by omega⟩ ⟨h.cc.slots.lt,by omega,by omega⟩ ⟨h.cc.map.lt,by omega,by omega⟩ fun g h1 _ h2=>⟨h2,by omega,by omega⟩,hd,hN,hl,Nat.le_trans h.hi k.size⟩
theorem reav(h:CkAt w z0 z av b sb hm db dm p cd N c d){q:Nat}(hq:w.heap.size<=q\/q<z):CkAt w z0 z q b sb hm db dm p cd N c d:=⟨h.cc.reav hq,h.dk,h.nN,h.lo,h.hi⟩
end CkAt
theorem bad_N(d:Dsk)(k:Nat):(d.bad k).N=d.N:=by
 unfold Dsk.bad Dsk.failK
 split <;> rfl
theorem tryN_bad{k:Nat}{d:Dsk}(h:(d.F k).f≠0)(j:Nat)(t:Int):tryN k (j+1) d t=tryN k j (d.bad k) (wrap64 (t+1)):=by
 show (if (d.F k).f≠0 then _ else _)=_
 rw [if_pos h]
theorem tryN_ok{k:Nat}{d:Dsk}(h:(d.F k).f=0)(j:Nat)(t:Int):tryN k (j+1) d t=(some (readF d k),d.more,wrap64 (t+1)):=by
 show (if (d.F k).f≠0 then _ else _)=_
 rw [if_neg (by rw [h];simp)]
def ReadRes(w w':World)(r:Option (Nat->Int))(e:Ending):Prop:=
 match r with
 | none=>e = .returned (.tuple #[.slice none 0 0,.int .i64 8])
 | some G=>∃g,e = .returned (.tuple #[.slice (some ⟨g,0,none⟩) 64 64,.int .i64 0])/\w.heap.size<=g/\UAt w' g 64 G
def butR(w:World)(b db dm:Nat):Nat->Prop:=fun q=>q<w.heap.size/\q≠b/\q≠db/\q≠dm
theorem butR_step{w wr w1 w2:World}{b db dm:Nat}(h:Kept (butR w b db dm) w wr)(h1:Kept (fun q=>q≠b) wr w1)(h2:Kept (butD w1 db dm) w1 w2):Kept (butR w b db dm) w w2:=
 (h.trans (h1.mono fun q hq=>hq.2.1)).trans (h2.mono fun q hq=>⟨Nat.lt_of_lt_of_le hq.1 (Nat.le_trans h.size h1.size),hq.2.2.1,hq.2.2.2⟩)
def errV:Nat->Value
 | 0=>.int .i64 0
 | _+1=>.int .i64 8
structure RdR(w:World)(z0 z av b sb hm db dm:Nat)(p:Option Addr)(cd N k:Nat)(c:Cch)(d:Dsk)(i:Nat)(wr:World):Prop where
 ex:∃d' t',tryN k (c.rt+1) d c.t=tryN k (c.rt+1-i) d' t'/\CkAt wr z0 z av b sb hm db dm p cd N (c.tried t') d'
 kp:Kept (butR w b db dm) w wr
set_option maxHeartbeats 1000000 in
theorem cRead_any(z0 z av b sb hm db dm:Nat)(p:Option Addr)(cd N k:Nat)(c:Cch)(d:Dsk)(w:World)(h:CkAt w z0 z av b sb hm db dm p cd N c d)(hk:k<N):Calls Tryz.prog 113 #[.pointer (some ⟨b,0,none⟩),.int .i64 (k:Int)] w fun e w'=>
  ReadRes w w' (tryN k (c.rt+1) d c.t).1 e/\CkAt w' z0 z av b sb hm db dm p cd N (c.tried (tryN k (c.rt+1) d c.t).2.2) (tryN k (c.rt+1) d c.t).2.1/\Kept (butR w b db dm) w w':=by
 obtain⟨R,hR⟩:∃R,R=tryN k (c.rt+1) d c.t:=⟨_,rfl⟩
 have H0:Hid (RdR w z0 z av b sb hm db dm p cd N k c d 0 w):=⟨⟨d,c.t,rfl,h⟩,Kept.refl _ _⟩
 have HR:=zH hR
 have HK:=zH hk
 obtain⟨_,_,_,_,_,c5,_,_,_⟩:=h.cc.cells
 have hrt:=h.cc.num.2.2.1
 obtain⟨rt,hrt2⟩:∃rt,rt=c.rt:=⟨_,rfl⟩
 have HT:=zH hrt2
 rw [←hrt2] at c5 hrt
 have t0:wrap64 (1+(rt:Int))=((rt+1:Nat):Int):=by rw [IntWalk.wrap64_in _ (by omega)];omega
 obtain⟨m,hm2⟩:∃m,m=rt+1:=⟨_,rfl⟩
 have HM:=zH hm2
 rw [←hm2] at t0
 have hm9:m<=9:=by omega
 have hm1:1<=m:=by omega
 rw [←hR]
 clear h hR hk hrt2 hm2 hrt
 go_enter Tryz.func113,Tryz.ntmps113
 go_wp2_with fail
 rw [t0]
 clear t0 c5
 go_loopw [4,5,11] (fun s4 s5 s11 wr=>∃i:Nat,i<=m/\s4 = .slice none 0 0/\s5=errV i/\s11 = .int .i64 i/\Hid (RdR w z0 z av b sb hm db dm p cd N k c d i wr)) (fun _ _ s11 _=>m-(intOf s11).toNat)
 case atStart=>exact⟨0,by omega,rfl,rfl,rfl,H0⟩
 case round=>
  obtain⟨i,hi,rfl,rfl,rfl,HI⟩:=hrel
  clear H0
  by_cases hlt:i<m
  ·obtain⟨d',t',htr,hat⟩:=HI.out.ex
   obtain⟨_,_,c2,_,_,_,_,_,_⟩:=hat.cc.cells
   have f2:=hat.cc.frz 2
   obtain⟨t1,ht1⟩:∃t1,t1=wrap64 (t'+1):=⟨_,rfl⟩
   have e1:wrap64 (t'+1)=t1:=ht1.symm
   have hat1:=hat.stat 2 (.int .i64 t1) c.h c.m t1 c.l rfl
   obtain⟨_,_,_,_,c4',_,_,_,_⟩:=hat1.cc.cells
   have hkd:k<d'.N:=by rw [hat.nN];exact HK.out
   have hK1:Kept (fun q=>q≠b) wr (wr.setCell ⟨b,2,none⟩ (.int .i64 t1)):=Kept.setCell _ (a:=⟨b,2,none⟩) (fun e=>e rfl) _
   have c2':wr.cell? ⟨b,2,none⟩=some (.int .i64 t'):=c2
   have hstep:tryN k (c.rt+1-i) d' t'=tryN k (c.rt+1-(i+1)+1) d' t':=by
    have:=HM.out;have:=HT.out
    rw [show c.rt+1-i=c.rt+1-(i+1)+1 by omega]
   by_cases hf:(d'.F k).f=0
   ·have HC:=zH (Read_ok db dm p cd d' k _ hat1.dk hkd hf)
    have HE:Hid (∀g w2,(wr.setCell ⟨b,2,none⟩ (.int .i64 t1)).heap.size<=g->UAt w2 g 64 (readF d' k)->DkAt w2 db dm p cd d'.more->Kept (butD (wr.setCell ⟨b,2,none⟩ (.int .i64 t1)) db dm) (wr.setCell ⟨b,2,none⟩ (.int .i64 t1)) w2 ->
      ReadRes w w2 R.1 (.returned (.tuple #[.slice (some ⟨g,0,none⟩) 64 64,.int .i64 0]))/\CkAt w2 z0 z av b sb hm db dm p cd N (c.tried R.2.2) R.2.1/\Kept (butR w b db dm) w w2):=by
     intro g w2 hg hu hd hkk
     have hRe:R=(some (readF d' k),d'.more,t1):=by rw [HR.out,htr,hstep,tryN_ok hf,e1]
     rw [hRe]
     exact⟨⟨g,rfl,Nat.le_trans (Nat.le_trans HI.out.kp.size hK1.size) hg,hu⟩,hat1.disk hkk hd hat.nN,butR_step HI.out.kp hK1 hkk⟩
    clear hat hat1 htr hstep hkd ht1 hf c2 hK1 HI
    go_wp2_with fail
    refine HC.out.mono ?_
    rintro e w2 ⟨g,rfl,hg,hu,hd,hkk⟩
    have HZ:=zH (HE.out g w2 hg hu hd hkk)
    clear HE hg hu hd hkk
    go_wp2_with fail
    go_ret2
    exact HZ.out
   ·have HC:=zH (Read_bad db dm p cd d' k _ hat1.dk hkd hf)
    have HE:Hid (∀w2,DkAt w2 db dm p cd (d'.bad k)->Kept (butD (wr.setCell ⟨b,2,none⟩ (.int .i64 t1)) db dm) (wr.setCell ⟨b,2,none⟩ (.int .i64 t1)) w2 ->
      RdR w z0 z av b sb hm db dm p cd N k c d (i+1) w2):=by
     intro w2 hd hkk
     exact⟨⟨d'.bad k,t1,by rw [htr,hstep,tryN_bad hf,e1],hat1.disk hkk hd (by rw [bad_N];exact hat.nN)⟩,butR_step HI.out.kp hK1 hkk⟩
    clear hat hat1 htr hstep hkd ht1 hf c2 hK1 HI
    go_wp2_with fail
    refine HC.out.mono ?_
    rintro e w2 ⟨rfl,hd,hkk⟩
    have HZ:=zH (HE.out w2 hd hkk)
    clear HE hd hkk
    go_wp2_with fail
    go_roundw
    case rel=>exact⟨i+1,by omega,rfl,rfl,by go_num,HZ⟩
    case measure=>simp [intOf];omega
  ·obtain rfl:i=m:=by omega
   obtain⟨i',rfl⟩:∃i',i=i'+1:=⟨i-1,by omega⟩
   have h5:errV (i'+1) = .int .i64 8:=rfl
   rw [h5]
   have HE:Hid (ReadRes w wr R.1 (.returned (.tuple #[.slice none 0 0,.int .i64 8]))/\CkAt wr z0 z av b sb hm db dm p cd N (c.tried R.2.2) R.2.1/\Kept (butR w b db dm) w wr):=by
    obtain⟨d',t',htr,hat⟩:=HI.out.ex
    have hRe:R=(none,d',t'):=by
     rw [HR.out,htr,show c.rt+1-(i'+1)=0 by have:=HM.out;have:=HT.out;omega]
     rfl
    rw [hRe]
    exact⟨rfl,hat,HI.out.kp⟩
   clear HI HM
   go_wp2_with fail
   go_ret2
   exact HE.out
theorem cellS_all(s:Option Slt)(g:Nat):(#[cellS s g 0,cellS s g 1,cellS s g 2]:Array Value).all (·.oneCell')=true:=by
 cases s <;> simp [cellS,Value.oneCell']
theorem there_slot{w:World}{sb n z av:Nat}{S:Nat->Option Slt}(h:SlotsAt w sb n z av S){i:Nat}(hi:i<n):w.there sb (i*3) 3:=by
 obtain⟨gs,h1,_⟩:=h
 exact h1.there (i*3) 3 (by omega)
theorem updS_none{S:Nat->Option Slt}{i:Nat}(h:S i=none):updS S i none=S:=by
 funext j
 unfold updS
 split
 ·rename_i e;rw [e,h]
 ·rfl
theorem updS_upd(S:Nat->Option Slt)(i:Nat)(x y:Option Slt):updS (updS S i x) i y=updS S i y:=by
 funext j
 unfold updS
 split <;> rfl
theorem updS_at(S:Nat->Option Slt)(i:Nat)(x:Option Slt):updS S i x i=x:=by unfold updS;rw [if_pos rfl]
structure CcMid(w:World)(z0 z av b sb hm db N:Nat)(c:Cch)(i:Nat):Prop where
 blk:w.heap[b]?=some (.cells #[.int .i64 c.h,.int .i64 c.m,.int .i64 c.t,.int .i64 c.l,.pointer (some ⟨db,0,none⟩),.int .i64 (c.rt:Int),.slice (some ⟨sb,0,none⟩) c.n c.n,.map (some hm),.int .i64 (c.hand:Int)] 146 (0,0))
 num:0<c.n/\c.n<=1024/\c.rt<=8/\c.hand<c.n/\N<=65536
 slots:SlotsAt w sb c.n z av c.S
 map:HldAt w hm N (fun k=>fnd (updS c.S i none) k c.n)
 pgs:∀i,i<c.n->∀s,c.S i=some s->s.p<N
 uq:uniq c.n c.S
 rng:(z0<=b/\b<z)/\(z0<=sb/\sb<z)/\(z0<=hm/\hm<z)/\b≠sb/\b≠hm/\sb≠hm
theorem CcAt.mid{w:World}{z0 z av b sb hm db N:Nat}{c:Cch}(h:CcAt w z0 z av b sb hm db N c){i:Nat}(hi:c.S i=none):CcMid w z0 z av b sb hm db N c i:=
 ⟨h.blk,h.num,h.slots,by rw [updS_none hi];exact h.map,h.pgs,h.uq,h.rng⟩
theorem CcAt.midD{w w':World}{z0 z av b sb hm db N:Nat}{c:Cch}(h:CcAt w z0 z av b sb hm db N c){i:Nat}{s:Slt}(hi:i<c.n)(hs:c.S i=some s)(k:Kept (fun j=>j<w.heap.size/\j≠hm) w w')(hm':HldAt w' hm N (updO (fun k=>fnd c.S k c.n) s.p none)):CcMid w' z0 z av b sb hm db N c i:=by
 have hr:=h.rng
 refine⟨(k.block b ⟨h.ltb,by omega⟩).trans h.blk,h.num,h.slots.kept k ⟨h.slots.lt,by omega⟩ fun g h1 _ h2=>⟨h2,by omega⟩,hm'.ext fun q _=>?_,h.pgs,h.uq,h.rng⟩
 unfold updO
 rw [del_fnd h.uq hi hs]
theorem CcMid.old{w w':World}{z0 z av b sb hm db N:Nat}{c:Cch}{i:Nat}(h:CcMid w z0 z av b sb hm db N c i)(k:Old w w'):CcMid w' z0 z av b sb hm db N c i:=
 ⟨(k.block b (lt_of_block h.blk)).trans h.blk,h.num,h.slots.old k,h.map.old k,h.pgs,h.uq,h.rng⟩
theorem CcMid.cells{w:World}{z0 z av b sb hm db N:Nat}{c:Cch}{i:Nat}(h:CcMid w z0 z av b sb hm db N c i):w.cell? ⟨b,6,none⟩=some (.slice (some ⟨sb,0,none⟩) c.n c.n)/\w.cell? ⟨b,7,none⟩=some (.map (some hm)):=by
 have:=h.blk
 simp [World.cell?,this]
theorem CcMid.lay{w:World}{z0 z av b sb hm db N:Nat}{c:Cch}{i:Nat}(h:CcMid w z0 z av b sb hm db N c i)(hi:i<c.n)(s:Option Slt)(g:Nat)(hs:∀t,s=some t->t.p<N/\fnd c.S t.p c.n=none/\(z<=g/\g≠av)/\SlU w (some ⟨g,0,none⟩) 64 t.G):
  w.cell? ⟨b,7,none⟩=some (.map (some hm))/\(w.setCells sb (i*3) [cellS s g 0,cellS s g 1,cellS s g 2]).cell? ⟨b,7,none⟩=some (.map (some hm))/\HldAt (w.setCells sb (i*3) [cellS s g 0,cellS s g 1,cellS s g 2]) hm N (fun k=>fnd (updS c.S i none) k c.n) /\
  (s=none->CcAt (w.setCells sb (i*3) [cellS s g 0,cellS s g 1,cellS s g 2]) z0 z av b sb hm db N { c with S:=updS c.S i none }) /\
  ∀t,s=some t->∀w',HldAt w' hm N (updO (fun k=>fnd (updS c.S i none) k c.n) t.p (some i))->Kept (fun j=>j<(w.setCells sb (i*3) [cellS s g 0,cellS s g 1,cellS s g 2]).heap.size/\j≠hm) (w.setCells sb (i*3) [cellS s g 0,cellS s g 1,cellS s g 2]) w'->CcAt w' z0 z av b sb hm db N { c with S:=updS c.S i (some t) }:=by
 have hr:=h.rng
 have hk:Kept (fun q=>q≠sb) w (w.setCells sb (i*3) [cellS s g 0,cellS s g 1,cellS s g 2]):=Kept.setCells _ (fun e=>e rfl) _ _
 have hS:=h.slots.setS hi (by omega) s g fun t ht=>(hs t ht).2.2
 have hmap:=h.map.kept hk (show hm≠sb by omega)
 have hblk:=(hk.block b (show b≠sb by omega)).trans h.blk
 have hdu:=del_uniq h.uq i
 refine⟨h.cells.2,(hk.cell (a:=⟨b,7,none⟩) (show b≠sb by omega)).trans h.cells.2,hmap,fun e=>?_,fun t ht w' hm' hk'=>?_⟩
 ·subst e
  refine⟨hblk,h.num,hS,hmap,fun j hj t ht=>?_,hdu,hr⟩
  have ht':updS c.S i none j=some t:=ht
  unfold updS at ht'
  split at ht'
  ·cases ht'
  ·exact h.pgs j hj t ht'
 ·subst ht
  obtain⟨h1,h2,h3,h4⟩:=hs t rfl
  have hnone:fnd (updS c.S i none) t.p c.n=none:=by
   cases hf:fnd (updS c.S i none) t.p c.n with
   | none=>rfl
   | some j=>
    obtain⟨q1,u,q2,q3⟩:=(fnd_eq hdu).1 hf
    unfold updS at q2
    split at q2
    ·cases q2
    ·have:=(fnd_eq h.uq).2 ⟨q1,u,q2,q3⟩
     rw [h2] at this
     cases this
  have hS':=hS.kept hk' ⟨hS.lt,by omega⟩ fun q h1 _ h2=>⟨h2,by omega⟩
  refine⟨(hk'.block b ⟨Nat.lt_of_lt_of_le (lt_of_block h.blk) hk.size,by omega⟩).trans hblk,h.num,hS',hm'.ext fun q _=>?_,fun j hj u hu=>?_,?_,hr⟩
  ·have e1:=put_fnd (S:=updS c.S i none) (s:=t) hdu hi hnone (updS_at _ _ _) q
   rw [updS_upd] at e1
   show _=fnd (updS c.S i (some t)) q c.n
   rw [e1]
   unfold updO
   rfl
  ·have hu':updS c.S i (some t) j=some u:=hu
   unfold updS at hu'
   split at hu'
   ·cases hu';exact h1
   ·exact h.pgs j hj u hu'
  ·show uniq c.n (updS c.S i (some t))
   rw [←updS_upd c.S i none (some t)]
   exact put_uniq hdu hnone
theorem choose_fnd{w:World}{z0 z av b sb hm db N:Nat}{c:Cch}(h:CcAt w z0 z av b sb hm db N c)(k:Nat)(hc:uniq c.choose.1.n c.choose.1.S):fnd c.choose.1.S k c.choose.1.n=fnd c.S k c.n:=by
 have hs:=chs_same c.n c
 have en:c.choose.1.n=c.n:=hs.n
 rw [en] at hc ⊢
 exact fnd_ext hc h.uq fun i _=>hs.S i k
set_option maxHeartbeats 1000000 in
theorem cPut_any(z0 z av b sb hm db N k g:Nat)(G:Nat->Int)(c:Cch)(w:World)(h:CcAt w z0 z av b sb hm db N c)(hk:k<N)(hf:fnd c.S k c.n=none)(hg:z<=g)(hga:g≠av)(hG:SlU w (some ⟨g,0,none⟩) 64 G):
  Calls Tryz.prog 114 #[.pointer (some ⟨b,0,none⟩),.int .i64 (k:Int),.slice (some ⟨g,0,none⟩) 64 64] w fun e w'=>e = .returned (.tuple #[])/\CcAt w' z0 z av b sb hm db N (c.put k G)/\Kept (fun q=>q<w.heap.size/\q≠b/\q≠sb/\q≠hm) w w':=by
 have HC:=zH (choose_any z0 z av b sb hm db N c w h)
 have hlt:=(chs_lt c.n c h.num.1 h.num.2.2.2.1).1
 have hen:c.choose.1.n=c.n:=(chs_same c.n c).n
 have HFN:=zH (fun hc=>(choose_fnd h k hc).trans hf)
 have HP:Hid (c.put k G = { c.choose.1 with S:=updS c.choose.1.S c.choose.2 (some ⟨k,true,G⟩) }):=zH rfl
 rw [HP.out]
 have hrn:=h.rng
 have HGa:=zH hga
 have HG:=zH (And.intro hg (And.intro hG (And.intro hk (And.intro hrn h.num))))
 obtain⟨c1,hc1⟩:∃c1,c1=c.choose.1:=⟨_,rfl⟩
 obtain⟨i,hi⟩:∃i,i=c.choose.2:=⟨_,rfl⟩
 rw [←hc1,←hi] at HC ⊢
 rw [←hc1] at HFN hen
 have hi2:i<c1.n:=by rw [hi,hen];exact hlt
 clear h hf hg hga hG hk HP hc1 hi hlt hen hrn
 go_enter Tryz.func114,Tryz.ntmps114
 go_wp2_with fail
 refine HC.out.mono ?_
 rintro e w1 ⟨rfl,hat,hk1⟩
 clear HC
 have hn1:=hat.num.2.1
 obtain⟨_,_,_,_,_,_,c6,c7,_⟩:=hat.cells
 obtain⟨gi,g0,g1,g2,_,_,_,_⟩:=hat.slots.cells hi2
 obtain⟨n,hn⟩:∃n,n=c1.n:=⟨_,rfl⟩
 have hr:=hat.rng
 have hun:=hat.uq
 have hnone:=HFN.out hun
 have HI:=zH hi2
 rw [←hn] at c6 hn1
 have hi3:i<n:=by rw [hn];exact hi2
 have HN:=zH hn
 have HGd:Hid (∀W,Old w1 W->SlU W (some ⟨g,0,none⟩) 64 G):=zH fun W ho=>by
  obtain⟨p1,p2,p3,p4,p5⟩:=HG.out
  refine(p2.kept hk1 fun a _ ha=>?_).old ho
  cases ha
  exact⟨by show g≠b;omega,by show g≠sb;omega⟩
 have HK1:=zH hk1
 cases hs:c1.S i with
 | none=>
  rw [hs] at g0 g1 g2
  have g0':w1.cell? ⟨sb,i*3,none⟩=some (.int .i64 0):=g0
  have g1':w1.cell? ⟨sb,i*3+1,none⟩=some (.slice none 0 0):=g1
  have g2':w1.cell? ⟨sb,i*3+2,none⟩=some (.bool false):=g2
  have HM:=zH (fun W (ho:Old w1 W)=>(hat.mid hs).old ho)
  obtain⟨W2,hW2⟩:∃W2,W2=w1.alloc (.cells #[.int .i64 0,.slice none 0 0,.bool false] 202):=⟨_,rfl⟩
  have ho2:Old w1 W2:=by rw [hW2];exact Old.alloc _ _
  have hm2:=HM.out W2 ho2
  have HO2:=zH ho2
  have HW2:=zH hW2
  have hb2:W2.heap[w1.heap.size]?=some (.cells #[.int .i64 0,.slice none 0 0,.bool false] 202 (0,0)):=by rw [hW2];exact heap_alloc_new _ _
  obtain⟨e0,e1,e2,_,_,_⟩:=cell3 hb2
  obtain⟨d6,d7⟩:=hm2.cells
  rw [←HN.out] at d6
  have hL:=hm2.lay HI.out (some ⟨k,true,G⟩) g fun t ht=>by
   cases ht
   exact⟨HG.out.2.2.1,hnone,⟨HG.out.1,HGa.out⟩,HGd.out W2 ho2⟩
  obtain⟨_,d7',hmap,_,hfin⟩:=hL
  have d7'':(W2.setCells sb (i*3) [.int .i64 (k:Int),.slice (some ⟨g,0,none⟩) 64 64,.bool true]).cell? ⟨b,7,none⟩=some (.map (some hm)):=d7'
  have HMap:Hid (HldAt (W2.setCells sb (i*3) [.int .i64 (k:Int),.slice (some ⟨g,0,none⟩) 64 64,.bool true]) hm N (fun k=>fnd (updS c1.S i none) k c1.n)):=zH hmap
  have HNb:Hid (k<N/\N<=1099511627776):=zH ⟨HG.out.2.2.1,by have:=HG.out.2.2.2.2.2.2.2.2;omega⟩
  have HFin:Hid (∀w',HldAt w' hm N (updO (fun k=>fnd (updS c1.S i none) k c1.n) k (some i))->Kept (fun j=>j<(W2.setCells sb (i*3) [.int .i64 (k:Int),.slice (some ⟨g,0,none⟩) 64 64,.bool true]).heap.size/\j≠hm) (W2.setCells sb (i*3) [.int .i64 (k:Int),.slice (some ⟨g,0,none⟩) 64 64,.bool true]) w' ->
    CcAt w' z0 z av b sb hm db N { c1 with S:=updS c1.S i (some ⟨k,true,G⟩) }/\Kept (fun q=>q<w.heap.size/\q≠b/\q≠sb/\q≠hm) w w'):=zH fun w' q1 q2=>⟨hfin _ rfl w' q1 q2,
     (HK1.out.mono fun q hq=>⟨hq.2.1,hq.2.2.1⟩).trans ((ho2.kept fun q hq=>Nat.lt_of_lt_of_le hq.1 HK1.out.size).trans (((Kept.setCells (X:=fun q=>q≠sb) _ (fun e=>e rfl) _ _).mono fun q hq=>hq.2.2.1).trans (q2.mono fun q hq=>⟨by rw [setCells_size];exact Nat.lt_of_lt_of_le hq.1 (Nat.le_trans HK1.out.size ho2.size),hq.2.2.2⟩)))⟩
  have HTh:Hid (W2.there sb (i*3) (#[.int .i64 (k:Int),.slice (some ⟨g,0,none⟩) 64 64,.bool true]:Array Value).size):=zH (there_slot hm2.slots HI.out)
  have HAll:Hid ((#[.int .i64 (k:Int),.slice (some ⟨g,0,none⟩) 64 64,.bool true]:Array Value).all (·.oneCell')=true):=zH (cellS_all (some ⟨k,true,G⟩) g)
  have hE:=eql_sl_nil 24 5 none 0 0 Tryz.underlying24
  have HS3:Hid ((Tryz.prog.info? 202).map (·.size)=some (#[.int .i64 (k:Int),.slice (some ⟨g,0,none⟩) 64 64,.bool true]:Array Value).size):=zH (by kernel_rfl)
  clear hat hs hr hun hi2 hn hk1 HFN hm2 hb2 ho2 hmap hfin hnone g0 g1 g2 d7'
  subst hW2
  go_wp2_with (first
   | (with_reducible refine wpList_store_mid rfl 202 _ _ rfl sb (i*3) #[.int .i64 (k:Int),.slice (some ⟨g,0,none⟩) 64 64,.bool true] rfl rfl HTh.out HS3.out HAll.out ?_)
   | (with_reducible refine wpList_put_hld _ rfl _ _ _ rfl hm N k i _ rfl HMap.out HNb.out.1 HNb.out.2 rfl rfl ?_;intro w9 h1 h2;have HF:=zH (HFin.out w9 h1 h2);clear h1 h2))
  go_end0
  exact⟨rfl,HF.out⟩
 | some s=>
  rw [hs] at g0 g1 g2
  have g0':w1.cell? ⟨sb,i*3,none⟩=some (.int .i64 (s.p:Int)):=g0
  have g1':w1.cell? ⟨sb,i*3+1,none⟩=some (.slice (some ⟨gi,0,none⟩) 64 64):=g1
  have g2':w1.cell? ⟨sb,i*3+2,none⟩=some (.bool s.m):=g2
  obtain⟨sp,hsp⟩:∃sp,sp=s.p:=⟨_,rfl⟩
  obtain⟨sm,hsm⟩:∃sm,sm=s.m:=⟨_,rfl⟩
  rw [←hsp] at g0'
  rw [←hsm] at g2'
  have ho2:=Old.alloc w1 (.cells #[.int .i64 (sp:Int),.slice (some ⟨gi,0,none⟩) 64 64,.bool sm] 202)
  have hb2:=heap_alloc_new w1 (.cells #[.int .i64 (sp:Int),.slice (some ⟨gi,0,none⟩) 64 64,.bool sm] 202)
  have hat2:=hat.old ho2
  obtain⟨_,_,_,_,_,_,d6,d7,_⟩:=hat2.cells
  rw [←HN.out] at d6
  have HNb:Hid (k<N/\N<=1099511627776/\sp<N):=zH ⟨HG.out.2.2.1,by have:=HG.out.2.2.2.2.2.2.2.2;omega,by rw [hsp];exact hat.pgs i HI.out s hs⟩
  have HAt:=zH (And.intro hat2 (And.intro hs (And.intro ho2 hnone)))
  have HSp:=zH hsp
  have hE:=eql_sl_nil 24 5 (some ⟨gi,0,none⟩) 64 64 Tryz.underlying24
  have HS3:Hid ((Tryz.prog.info? 202).map (·.size)=some (#[.int .i64 (k:Int),.slice (some ⟨g,0,none⟩) 64 64,.bool true]:Array Value).size):=zH (by kernel_rfl)
  have HAll:Hid ((#[.int .i64 (k:Int),.slice (some ⟨g,0,none⟩) 64 64,.bool true]:Array Value).all (·.oneCell')=true):=zH (cellS_all (some ⟨k,true,G⟩) g)
  clear hat hat2 hs hr hun hi2 hn hk1 HFN ho2 hnone g0 g1 g2 hsp hsm
  go_wp2_with fail
  generalize w1.alloc (.cells #[.int .i64 (sp:Int),.slice (some ⟨gi,0,none⟩) 64 64,.bool sm] 202)=W2 at *
  generalize hg1:w1.heap.size=g1 at hb2 ⊢
  obtain⟨e0,e1,e2,_,_,_⟩:=cell3 hb2
  clear hg1
  refine wp_region_still_tail 6 (by kernel_rfl) (by kernel_rfl) ?_
  simp only [List.take_succ_cons,List.take_zero,List.drop_succ_cons,List.drop_zero]
  iterate 6 (with_reducible refine wpStill_step (fun K hK=>?_);go_simp;with_reducible refine hK _ ?_;clear hK K)
  with_reducible refine wpStill_nil ?_
  change wpList _ _ _ _ _ (World.drew _)
  refine wpList_del_hld _ rfl _ _ rfl hm N sp (fun k=>fnd c1.S k c1.n) rfl (show HldAt _ hm N (fun k=>fnd c1.S k c1.n) from(HAt.out.1.old (Old.refl _).drew).map) HNb.out.2.2 HNb.out.2.1 rfl ?_
  intro w3 h1 h2
  obtain⟨hat2,hs,ho2,hnone⟩:=HAt.out
  have hm3:CcMid w3 z0 z av b sb hm db N c1 i:=(hat2.old (Old.refl _).drew).midD HI.out hs h2 (by rw [←HSp.out];exact h1)
  obtain⟨x6,x7⟩:=hm3.cells
  rw [←HN.out] at x6
  have hrr:=hm3.rng
  have hk3:Kept (fun q=>q<w1.heap.size/\q≠hm) w1 w3:=(ho2.kept fun q hq=>hq.1).trans ((((Kept.refl (fun q=>q<W2.heap.size/\q≠hm) W2).drew).trans (h2.mono fun q hq=>hq)).mono fun q hq=>⟨Nat.lt_of_lt_of_le hq.1 ho2.size,hq.2⟩)
  obtain⟨_,x7',hmap,_,hfin⟩:=hm3.lay HI.out (some ⟨k,true,G⟩) g fun t ht=>(by
   cases ht
   refine⟨HG.out.2.2.1,hnone,⟨HG.out.1,HGa.out⟩,?_⟩
   have:=HGd.out w1 (Old.refl w1)
   refine this.kept hk3 fun a _ ha=>?_
   cases ha
   obtain⟨_,_,e1,e2,_⟩:=this (by omega)
   cases e1
   have:=HG.out.1
   exact⟨e2,by show g≠hm;omega⟩)
  have x7'':(w3.setCells sb (i*3) [.int .i64 (k:Int),.slice (some ⟨g,0,none⟩) 64 64,.bool true]).cell? ⟨b,7,none⟩=some (.map (some hm)):=x7'
  have HMap:Hid (HldAt (w3.setCells sb (i*3) [.int .i64 (k:Int),.slice (some ⟨g,0,none⟩) 64 64,.bool true]) hm N (fun k=>fnd (updS c1.S i none) k c1.n)):=zH hmap
  have HFin:Hid (∀w',HldAt w' hm N (updO (fun k=>fnd (updS c1.S i none) k c1.n) k (some i))->Kept (fun j=>j<(w3.setCells sb (i*3) [.int .i64 (k:Int),.slice (some ⟨g,0,none⟩) 64 64,.bool true]).heap.size/\j≠hm) (w3.setCells sb (i*3) [.int .i64 (k:Int),.slice (some ⟨g,0,none⟩) 64 64,.bool true]) w' ->
    CcAt w' z0 z av b sb hm db N { c1 with S:=updS c1.S i (some ⟨k,true,G⟩) }/\Kept (fun q=>q<w.heap.size/\q≠b/\q≠sb/\q≠hm) w w'):=zH fun w' q1 q2=>⟨hfin _ rfl w' q1 q2,
     (HK1.out.mono fun q hq=>⟨hq.2.1,hq.2.2.1⟩).trans ((hk3.mono fun q hq=>⟨Nat.lt_of_lt_of_le hq.1 HK1.out.size,hq.2.2.2⟩).trans (((Kept.setCells (X:=fun q=>q≠sb) _ (fun e=>e rfl) _ _).mono fun q hq=>hq.2.2.1).trans (q2.mono fun q hq=>⟨by rw [setCells_size];exact Nat.lt_of_lt_of_le hq.1 (Nat.le_trans HK1.out.size hk3.size),hq.2.2.2⟩)))⟩
  have HTh:Hid (w3.there sb (i*3) (#[.int .i64 (k:Int),.slice (some ⟨g,0,none⟩) 64 64,.bool true]:Array Value).size):=zH (there_slot hm3.slots HI.out)
  clear h1 h2 hat2 hs ho2 hnone hm3 hrr hk3 x7' hmap hfin d6 d7 e0 e1 e2 hb2 HAt c6 c7 g0' g1' g2'
  go_wp2_with (first
   | (with_reducible refine wpList_store_mid rfl 202 _ _ rfl sb (i*3) #[.int .i64 (k:Int),.slice (some ⟨g,0,none⟩) 64 64,.bool true] rfl rfl HTh.out HS3.out HAll.out ?_)
   | (with_reducible refine wpList_put_hld _ rfl _ _ _ rfl hm N k i _ rfl HMap.out HNb.out.1 HNb.out.2.1 rfl rfl ?_;intro w9 h1 h2;have HF:=zH (HFin.out w9 h1 h2);clear h1 h2))
  go_end0
  exact⟨rfl,HF.out⟩
def TakeRes(w':World)(z:Nat)(r:Option (Nat->Int))(e:Ending):Prop:=
 match r with
 | none=>e = .returned (.tuple #[.slice none 0 0,.int .i64 8])
 | some G=>∃g,e = .returned (.tuple #[.slice (some ⟨g,0,none⟩) 64 64,.int .i64 0])/\z<=g/\g<w'.heap.size/\SlU w' (some ⟨g,0,none⟩) 64 G
theorem takeR_hit{c:Cch}{d:Dsk}{k i:Nat}{s:Slt}(h:fnd c.S k c.n=some i)(hs:c.S i=some s):takeR c d k=⟨some s.G,c.hit i,d⟩:=by
 unfold takeR
 rw [h]
 dsimp only
 rw [hs]
 rfl
theorem takeR_lost{c:Cch}{d d':Dsk}{k:Nat}{t':Int}(h:fnd c.S k c.n=none)(ht:tryN k (c.rt+1) d c.t=(none,d',t')):takeR c d k=⟨none,(c.miss.tried t').lose,d'⟩:=by
 unfold takeR
 rw [h]
 dsimp only
 rw [ht]
theorem takeR_had{c:Cch}{d d':Dsk}{k:Nat}{t':Int}{G:Nat->Int}(h:fnd c.S k c.n=none)(ht:tryN k (c.rt+1) d c.t=(some G,d',t')):takeR c d k=⟨some G,(c.miss.tried t').put k G,d'⟩:=by
 unfold takeR
 rw [h]
 dsimp only
 rw [ht]
theorem CkAt.cacheT{w w':World}{z0 z av b sb hm db dm cd N:Nat}{p:Option Addr}{c c':Cch}{d:Dsk}(h:CkAt w z0 z av b sb hm db dm p cd N c d){X:Nat->Prop}(k:Kept X w w')(hX:∀q,q<z0->q<w.heap.size->X q)(hc:CcAt w' z0 z av b sb hm db N c'):CkAt w' z0 z av b sb hm db dm p cd N c' d:=by
 refine⟨hc,h.dk.kept k (hX _ h.lo.1 h.dk.ltb) (hX _ h.lo.2.1 h.dk.map.lt) fun a hn ha=>hX _ (h.lo.2.2 a (by rw [←h.nN];exact hn) ha) (h.dk.plt a hn ha),h.nN,h.lo,Nat.le_trans h.hi k.size⟩
set_option maxHeartbeats 1000000 in
theorem cTake_any(z0 z av b sb hm db dm:Nat)(p:Option Addr)(cd N k:Nat)(c:Cch)(d:Dsk)(w:World)(h:CkAt w z0 z av b sb hm db dm p cd N c d)(hk:k<N)(hav:av<w.heap.size):Calls Tryz.prog 76 #[.pointer (some ⟨b,0,none⟩),.int .i64 (k:Int)] w fun e w'=>
  TakeRes w' z (takeR c d k).r e/\CkAt w' z0 z av b sb hm db dm p cd N (takeR c d k).c (takeR c d k).d/\Kept (butK w b sb hm db dm) w w':=by
 have hN:N<=65536:=h.cc.num.2.2.2.2
 obtain⟨c0,c1,c2,c3,c4,c5,c6,c7,c8⟩:=h.cc.cells
 have f0:=h.cc.frz 0
 have f1:=h.cc.frz 1
 have hr:=h.cc.rng
 have hlo:=h.lo
 cases hf:fnd c.S k c.n with
 | some i=>
  obtain⟨hi,s,hs,hp⟩:=(fnd_eq h.cc.uq).1 hf
  rw [takeR_hit hf hs]
  have hl:=h.cc.map.look_some hk (by omega) hf
  obtain⟨q,hq⟩:∃q,q=wrap64 (c.h+1):=⟨_,rfl⟩
  have e1:wrap64 (c.h+1)=q:=hq.symm
  have h2:=h.stat 0 (.int .i64 q) q c.m c.t c.l rfl
  obtain⟨_,_,_,_,_,_,d6,_,_⟩:=h2.cc.cells
  obtain⟨n,hn⟩:∃n,n=c.n:=⟨_,rfl⟩
  have d6':(w.setCell ⟨b,0,none⟩ (.int .i64 q)).cell? ⟨b,6,none⟩=some (.slice (some ⟨sb,0,none⟩) n n):=by rw [hn];exact d6
  have hi2:i<n:=by rw [hn];exact hi
  have hn2:n<=1024:=by rw [hn];exact h.cc.num.2.1
  obtain⟨g,g0,g1,g2,_,_,k2,hg⟩:=h2.cc.slots.cells hi
  have hs':(show Cch from { c with h:=q,m:=c.m,t:=c.t,l:=c.l }).S i=some s:=hs
  have h3:=h2.cc.markd hi hs true
  obtain⟨_,_,_,_,_,_,x6,_,_⟩:=h3.cells
  obtain⟨g',y0,y1,y2,_,_,_,hg'⟩:=h3.slots.cells hi
  have hsm:setM c.S i true i=some (s.mark true):=by unfold setM;rw [updS_at,hs];rfl
  obtain⟨p1,p2,p3⟩:=hg' (s.mark true) hsm
  have g2':(w.setCell ⟨b,0,none⟩ (.int .i64 q)).cell? ⟨sb,i*3+2,none⟩=some (.bool s.m):=by
   rw [g2]
   show some (cellS (c.S i) g 2)=_
   rw [hs]
   rfl
  have y1':((w.setCell ⟨b,0,none⟩ (.int .i64 q)).setCell ⟨sb,i*3+2,none⟩ (.bool true)).cell? ⟨sb,i*3+1,none⟩=some (.slice (some ⟨g',0,none⟩) 64 64):=by
   rw [y1]
   show some (cellS (setM c.S i true i) g' 1)=_
   rw [hsm]
   rfl
  have x6':((w.setCell ⟨b,0,none⟩ (.int .i64 q)).setCell ⟨sb,i*3+2,none⟩ (.bool true)).cell? ⟨b,6,none⟩=some (.slice (some ⟨sb,0,none⟩) n n):=by rw [hn];exact x6
  have hkk:Kept (fun q=>q≠b/\q≠sb) w ((w.setCell ⟨b,0,none⟩ (.int .i64 q)).setCell ⟨sb,i*3+2,none⟩ (.bool true)):=
   ((Kept.setCell (X:=fun q=>q≠b) w (a:=⟨b,0,none⟩) (fun e=>e rfl) _).mono fun q hq=>hq.1).trans ((Kept.setCell (X:=fun q=>q≠sb) _ (a:=⟨sb,i*3+2,none⟩) (fun e=>e rfl) _).mono fun q hq=>hq.2)
  have HE:Hid (z<=g'/\g'<((w.setCell ⟨b,0,none⟩ (.int .i64 q)).setCell ⟨sb,i*3+2,none⟩ (.bool true)).heap.size/\SlU ((w.setCell ⟨b,0,none⟩ (.int .i64 q)).setCell ⟨sb,i*3+2,none⟩ (.bool true)) (some ⟨g',0,none⟩) 64 s.G):=⟨p1,p2,p3⟩
  have HF:Hid (CkAt ((w.setCell ⟨b,0,none⟩ (.int .i64 q)).setCell ⟨sb,i*3+2,none⟩ (.bool true)) z0 z av b sb hm db dm p cd N (c.hit i) d/\Kept (butK w b sb hm db dm) w ((w.setCell ⟨b,0,none⟩ (.int .i64 q)).setCell ⟨sb,i*3+2,none⟩ (.bool true))):=by
   refine⟨h.cacheT hkk (fun q hq _=>⟨by omega,by omega⟩) ?_,hkk.mono fun q hq=>⟨hq.2.1,hq.2.2.1⟩⟩
   have e9:c.hit i = { (show Cch from { c with h:=q,m:=c.m,t:=c.t,l:=c.l }) with S:=setM c.S i true }:=by unfold Cch.hit;rw [hq]
   rw [e9]
   exact h3
  clear h h2 h3 hf hs hs' hp hr hlo hkk p1 p2 p3 hg hg' hsm g0 g1 g2 y0 y1 y2 x6 d6 hn hi hq c1 c2 c3 c4 c5 c8
  go_enter Tryz.func76,Tryz.ntmps76
  go_wp2_with fail
  go_ret2
  exact⟨⟨g',rfl,HE.out⟩,HF.out⟩
 | none=>
  have hl:=h.cc.map.look_none (z:=(k:Int)) (by omega) (by omega) fun j _ e=>by
   have:k=j:=by omega
   rw [←this];exact hf
  obtain⟨q,hq⟩:∃q,q=wrap64 (c.m+1):=⟨_,rfl⟩
  have e1:wrap64 (c.m+1)=q:=hq.symm
  have h2:CkAt (w.setCell ⟨b,1,none⟩ (.int .i64 q)) z0 z av b sb hm db dm p cd N c.miss d:=by
   have:=h.stat 1 (.int .i64 q) c.h q c.t c.l rfl
   have e9:c.miss = { c with h:=c.h,m:=q,t:=c.t,l:=c.l }:=by unfold Cch.miss;rw [hq]
   rw [e9]
   exact this
  have HC:=zH (cRead_any z0 z av b sb hm db dm p cd N k c.miss d _ h2 hk)
  have HK1:Hid (Kept (fun x=>x≠b) w (w.setCell ⟨b,1,none⟩ (.int .i64 q))):=zH (Kept.setCell (X:=fun q=>q≠b) w (a:=⟨b,1,none⟩) (fun e=>e rfl) _)
  have hme:c.miss.rt=c.rt/\c.miss.t=c.t:=⟨rfl,rfl⟩
  rw [hme.1,hme.2] at HC
  have HHi:=zH h2.hi
  have HF:=zH hf
  have HKn:=zH hk
  have HAv:=zH hav
  clear hav
  obtain⟨T,hT⟩:∃T,T=takeR c d k:=⟨_,rfl⟩
  rw [←hT]
  have HT:=zH hT
  obtain⟨R,hR⟩:∃R,R=tryN k (c.rt+1) d c.t:=⟨_,rfl⟩
  rw [←hR] at HC
  have HR:=zH hR.symm
  obtain⟨r,d',t'⟩:=R
  dsimp only at HC
  clear h h2 hf hk hr hlo hT hR hq c0 c2 c3 c4 c5 c6 c8 hme
  go_enter Tryz.func76,Tryz.ntmps76
  go_wp2_with fail
  refine HC.out.mono ?_
  intro e w2 hh
  cases r with
  | none=>
   obtain⟨he,hat,hkk⟩:=hh
   have he':e = .returned (.tuple #[.slice none 0 0,.int .i64 8]):=he
   subst he'
   obtain⟨_,_,_,x3,_,_,_,_,_⟩:=hat.cc.cells
   have x3':w2.cell? ⟨b,3,none⟩=some (.int .i64 c.l):=x3
   have fz3:=hat.cc.frz 3
   obtain⟨u,hu⟩:∃u,u=wrap64 (c.l+1):=⟨_,rfl⟩
   have e2:wrap64 (c.l+1)=u:=hu.symm
   have HE:Hid (TakeRes (w2.setCell ⟨b,3,none⟩ (.int .i64 u)) z T.r (.returned (.tuple #[.slice none 0 0,.int .i64 8]))/\CkAt (w2.setCell ⟨b,3,none⟩ (.int .i64 u)) z0 z av b sb hm db dm p cd N T.c T.d/\Kept (butK w b sb hm db dm) w (w2.setCell ⟨b,3,none⟩ (.int .i64 u))):=by
    rw [HT.out,takeR_lost HF.out HR.out]
    have:=hat.stat 3 (.int .i64 u) c.h (wrap64 (c.m+1)) t' u rfl
    have e9:(c.miss.tried t').lose = { c.miss.tried t' with h:=c.h,m:=wrap64 (c.m+1),t:=t',l:=u }:=by unfold Cch.lose;rw [hu];rfl
    rw [e9]
    exact⟨rfl,this,(HK1.out.mono fun q hq=>hq.2.1).trans ((hkk.mono fun q hq=>⟨Nat.lt_of_lt_of_le hq.1 HK1.out.size,hq.2.1,hq.2.2.2.2.1,hq.2.2.2.2.2⟩).trans ((Kept.setCell (X:=fun q=>q≠b) _ (a:=⟨b,3,none⟩) (fun e=>e rfl) _).mono fun q hq=>hq.2.1))⟩
   clear hat hkk hu x3 HC he
   go_wp2_with fail
   go_ret2
   exact HE.out
  | some G=>
   obtain⟨he,hat,hkk⟩:=hh
   have he':∃g,e = .returned (.tuple #[.slice (some ⟨g,0,none⟩) 64 64,.int .i64 0])/\(w.setCell ⟨b,1,none⟩ (.int .i64 q)).heap.size<=g/\UAt w2 g 64 G:=he
   obtain⟨g,rfl,hg,hu⟩:=he'
   have hgz:z<=g:=Nat.le_trans HHi.out hg
   have hsl:SlU w2 (some ⟨g,0,none⟩) 64 G:=(hu.sl 0 64 (by omega)).ext fun j _=>by rw [Nat.zero_add]
   have hglt:=hu.lt
   have HP:=zH (cPut_any z0 z av b sb hm db N k g G (c.miss.tried t') w2 hat.cc HKn.out HF.out hgz (by have h9:=HAv.out;have h8:=Nat.le_trans HK1.out.size hg;omega) hsl)
   have HE:Hid (∀w3,CcAt w3 z0 z av b sb hm db N ((c.miss.tried t').put k G)->Kept (fun q=>q<w2.heap.size/\q≠b/\q≠sb/\q≠hm) w2 w3 ->
     TakeRes w3 z T.r (.returned (.tuple #[.slice (some ⟨g,0,none⟩) 64 64,.int .i64 0]))/\CkAt w3 z0 z av b sb hm db dm p cd N T.c T.d/\Kept (butK w b sb hm db dm) w w3):=by
    intro w3 hc3 hk3
    rw [HT.out,takeR_had HF.out HR.out]
    have hr:=hat.cc.rng
    refine⟨⟨g,rfl,hgz,Nat.lt_of_lt_of_le hglt hk3.size,hsl.kept hk3 fun a _ ha=>?_⟩,hat.cacheT hk3 (fun q hq hq2=>⟨hq2,by omega,by omega,by omega⟩) hc3,(HK1.out.mono fun q hq=>hq.2.1).trans ((hkk.mono fun q hq=>⟨Nat.lt_of_lt_of_le hq.1 HK1.out.size,hq.2.1,hq.2.2.2.2.1,hq.2.2.2.2.2⟩).trans (hk3.mono fun q hq=>⟨Nat.lt_of_lt_of_le hq.1 (Nat.le_trans HK1.out.size hkk.size),hq.2.1,hq.2.2.1,hq.2.2.2.1⟩))⟩
    cases ha
    exact⟨hglt,by show g≠b;omega,by show g≠sb;omega,by show g≠hm;omega⟩
   clear hat hkk hu hg hgz hsl hglt HC he
   go_wp2_with fail
   refine HP.out.mono ?_
   rintro e w3 ⟨rfl,hc3,hk3⟩
   have HF3:=zH (HE.out w3 hc3 hk3)
   clear HE hc3 hk3 HP
   go_wp2_with fail
   go_ret2
   exact HF3.out
theorem xorB_zero{v:Int}(h:0<=v/\v<=255):xorB v 0=v:=by
 obtain⟨n,rfl⟩:∃n:Nat,v=n:=⟨v.toNat,by omega⟩
 have ea:(BitVec.ofInt 8 (n:Int)).toNat=n:=by rw [BitVec.ofInt_natCast,BitVec.toNat_ofNat];exact Nat.mod_eq_of_lt (by omega)
 have e0:BitVec.ofInt 8 (0:Int)=0#8:=by decide
 show IntKind.u8.wrap ((BitVec.ofInt 8 (n:Int) ^^^ BitVec.ofInt 8 0).toNat:Int)=_
 rw [e0,BitVec.xor_zero,ea,IntKind.wrap_u8]
 omega
theorem readF_z{d:Dsk}{k:Nat}(hk:k<d.N)(hb:Byt d.G (d.N*64))(hz:d.F k=Flt.z)(j:Nat)(hj:j<64):readF d k j=d.G (k*64+j):=by
 unfold readF pageF
 rw [hz]
 split
 ·exact xorB_zero (hb _ (by omega))
 ·rfl
end Go.Proofs.YtjakgghbdojlbaaGreatDoor
