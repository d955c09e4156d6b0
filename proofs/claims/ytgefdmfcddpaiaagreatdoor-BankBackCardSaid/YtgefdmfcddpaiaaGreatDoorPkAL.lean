/- Texts joined: CrcTab, CrcSum. -/
import Derived.Laws.Rows
import Derived.Deep.WholeRow
import Derived.StillTailTactics
import Derived.RegionTactic
import Derived.BigRegion
import Derived.Test.YtgefdmfcddpaiaaGreatDoorPkAK
import Derived.Test.YtgefdmfcddpaiaaGreatDoorTk
namespace Go.Proofs.YtgefdmfcddpaiaaGreatDoor.Crc
set_option linter.unusedVariables false
set_option maxRecDepth 100000
open Go.RowKit
def row(f:Nat->Nat):Array Value:=((List.range 256).map fun k=>Value.int .u32 (f k:Nat)).toArray
def upd(f:Nat->Nat)(j v:Nat):Nat->Nat:=fun k=>if k=j then v else f k
theorem row_size(f:Nat->Nat):(row f).size=256:=by simp [row]
theorem row_at(f:Nat->Nat)(k:Nat)(h:k<256):(row f)[k]?=some (.int .u32 (f k:Nat)):=by simp [row,h]
theorem row_one(f:Nat->Nat):(row f).all (·.oneCell')=true:=by simp [row,Value.oneCell']
theorem row_set(f:Nat->Nat)(j v:Nat)(hj:j<256):(row f).setIfInBounds j (.int .u32 (v:Nat))=row (upd f j v):=by
 apply Array.ext_getElem?
 intro i
 rw [Array.getElem?_setIfInBounds]
 by_cases hi:i<256
 ·rw [row_at _ i hi,row_size]
  by_cases h:j=i
  ·subst h;rw [if_pos rfl,if_pos hj,row_at _ _ hi];simp [upd]
  ·rw [if_neg h,row_at _ i hi];simp [upd,show ¬i=j from fun e=>h e.symm]
 ·have h1:(row (upd f j v))[i]?=none:=by rw [Array.getElem?_eq_none (by rw [row_size];omega)]
  have h2:(row f)[i]?=none:=by rw [Array.getElem?_eq_none (by rw [row_size];omega)]
  rw [h1,h2,row_size,if_neg (by omega)]
theorem row_ext(f g:Nat->Nat)(h:∀k,k<256->f k=g k):row f=row g:=by
 unfold row
 congr 1
 apply List.map_congr_left
 intro k hk
 rw [h k (List.mem_range.1 hk)]
def fA:Nat->Nat->Nat
 | 0=>fun _=>0
 | n+1=>upd (fA n) (2 ^ n) (push (2 ^ n))
def fB:Nat->Nat->Nat
 | 0=>fA 8
 | n+1=>upd (fB n) n (push n)
theorem fB_is:∀n k,fB n k=if k<n then push k else fA 8 k
 | 0,k=>by simp [fB]
 | n+1,k=>by
  show upd (fB n) n (push n) k=_
  unfold upd
  by_cases h:k=n
  ·subst h;simp
  ·rw [if_neg h,fB_is n k]
   by_cases h2:k<n
   ·rw [if_pos h2,if_pos (by omega)]
   ·rw [if_neg h2,if_neg (by omega)]
def low(b:Nat):Nat:=b &&& (256-b)
theorem low_int:(List.range 256).all (fun b=>decide (bits .and .i64 (b:Int) (-(b:Int))=(low b:Nat)))=true:=by decide +kernel
theorem low_fact:(List.range 256).all (fun b=>decide (low b<256) && decide (b ^^^ low b<256) && decide (low b ^^^ (b ^^^ low b)=b) && (decide (low b<b) && decide (b ^^^ low b<b) || decide (b=0/\low b=0) || decide (low b=b) && decide (b ^^^ low b=0) && decide (0<b) && decide (fA 8 b=push b)))=true:=by decide +kernel
theorem low_all(b:Nat)(hb:b<256):bits .and .i64 (b:Int) (-(b:Int))=(low b:Nat)/\low b<256/\b ^^^ low b<256/\fB b (low b) ^^^ fB b (b ^^^ low b)=push b:=by
 have h1:=List.all_eq_true.1 low_int b (List.mem_range.2 hb)
 have h2:=List.all_eq_true.1 low_fact b (List.mem_range.2 hb)
 simp only [Bool.and_eq_true,Bool.or_eq_true,decide_eq_true_eq] at h1 h2
 obtain⟨⟨⟨h3,h4⟩,h5⟩,h6⟩:=h2
 refine⟨h1,h3,h4,?_⟩
 rcases h6 with (⟨h7,h8⟩ | ⟨rfl,h8⟩) | ⟨⟨⟨h7,h8⟩,h9⟩,h10⟩
 ·rw [fB_is,fB_is,if_pos h7,if_pos h8]
  unfold push
  rw [←steps_xor,h5]
 ·rw [h8];decide +kernel
 ·rw [h8,h7,fB_is,fB_is,if_neg (by omega),if_pos h9,h10]
  have:push 0=0:=by decide +kernel
  rw [this,Nat.xor_zero]
theorem i64_xor(a b:Nat)(ha:a<256)(hb:b<256):bits .xor .i64 (a:Int) (b:Int)=((a ^^^ b:Nat):Int):=by
 have hx:a ^^^ b<2 ^ 8:=Nat.xor_lt_two_pow (n:=8) ha hb
 have ea:(BitVec.ofInt 64 (a:Int)).toNat=a:=by rw [BitVec.ofInt_natCast,BitVec.toNat_ofNat];exact Nat.mod_eq_of_lt (by omega)
 have eb:(BitVec.ofInt 64 (b:Int)).toNat=b:=by rw [BitVec.ofInt_natCast,BitVec.toNat_ofNat];exact Nat.mod_eq_of_lt (by omega)
 show IntKind.i64.wrap ((BitVec.ofInt 64 (a:Int) ^^^ BitVec.ofInt 64 (b:Int)).toNat:Int)=_
 rw [BitVec.toNat_xor,ea,eb]
 exact IntWalk.i64_in _ (by omega)
theorem Tryz.array:Tryz.prog.underlying 262=some (.array 256 151):=Tryz.underlying262
theorem Tryz.zero:(∀w,(zeroValue 262).run Tryz.prog w = .ok (.agg (row fun _=>0)) w)/\(Tryz.prog.info? 262).map (·.size)=some 256:=zero_of_info (by kernel_rfl)
structure Tb(w:World)(f:Nat->Nat)(wr:World):Prop where
 blk:wr.heap[w.heap.size+1]?=some (.cells (row f) 262 (0,0))
 res:wr.heap[w.heap.size]?=some (.cells (row fun _=>0) 262 (0,0))
 old:Old w wr
theorem Tb.start(w:World):Tb w (fA 0) ((w.alloc (.cells (row fun _=>0) 262)).alloc (.cells (row fun _=>0) 262)):=
 ⟨heap_alloc2_new w _ _,heap_alloc2_old w _ _,(Old.alloc _ _).alloc' _⟩
theorem Tb.set{w wr:World}{f:Nat->Nat}(h:Tb w f wr)(j v:Nat)(hj:j<256):Tb w (upd f j v) (wr.setCell ⟨w.heap.size+1,j,none⟩ (.int .u32 (v:Nat))):=by
 refine⟨?_,?_,h.old.after (Kept.setCell (X:=fun k=>k<w.heap.size) _ (a:=⟨w.heap.size+1,j,none⟩) (by simp) _) fun _ hk=>hk⟩
 ·rw [←row_set f j v hj];exact heap_setCell_same _ _ _ _ _ _ h.blk
 ·rw [heap_setCell_other _ _ _ _ (by simp)];exact h.res
theorem Tb.drew{w wr:World}{f:Nat->Nat}(h:Tb w f wr):Tb w f wr.drew:=⟨h.blk,h.res,h.old.drew⟩
theorem Tb.cell{w wr:World}{f:Nat->Nat}(h:Tb w f wr)(j:Nat)(hj:j<256):wr.cell? ⟨w.heap.size+1,j,none⟩=some (.int .u32 (f j:Nat))/\wr.frozen? ⟨w.heap.size+1,j,none⟩=false:=
 ⟨(cell_of_row _ _ _ _ _ _ h.blk).trans (row_at f j hj),frozen_of_row _ _ _ _ _ h.blk⟩
set_option maxHeartbeats 1000000 in
theorem Table_any(w:World):
  Calls Tryz.prog 160 #[] w fun e w'=>e = .returned (.agg (row push))/\Old w w':=by
 have hz:=Tryz.zero.1
 have hst:=zH (Tb.start w)
 go_enter Tryz.func160,Tryz.ntmps160
 go_wp2
 clear hz
 go_loopw [5] (fun i wr=>∃k:Nat,k<=8/\i = .int .i64 k/\Hid (Tb w (fA k) wr)) (fun i _=>8-(intOf i).toNat)
 case atStart=>exact⟨0,by omega,rfl,hst⟩
 case round=>
  obtain⟨k,hk,rfl,ht⟩:=hrel
  by_cases hlt:k<8
  ·rcases(show k=0\/k=1\/k=2\/k=3\/k=4\/k=5\/k=6\/k=7 by omega) with rfl | rfl | rfl | rfl | rfl | rfl | rfl | rfl
   ·have hp:∀W:World,Calls Tryz.prog 208 #[.int .u32 1] W fun e w'=>e = .returned (.int .u32 (push 1:Nat))/\W=w':=fun W=>push_any 1 W (by omega)
    have hp':=zH hp
    have hnx:Hid (Tb w (fA 1) (wr.drew.setCell ⟨w.heap.size+1,1,none⟩ (.int .u32 (push 1:Nat)))):=ht.out.drew.set 1 (push 1) (by omega)
    obtain⟨hc,hf⟩:=ht.out.drew.cell 1 (by omega)
    have y1:IntKind.u32.wrap 1=1:=IntWalk.u32_in _ (by omega)
    have y2:IntKind.i64.wrap 1=1:=IntWalk.i64_in _ (by omega)
    clear hp
    go_wp2_with fail
    go_still_tail 6,(by kernel_rfl)
    still_call ((hp'.out _).mono fun _ _ hh=>⟨hh.1,hh.2.symm⟩)
    repeat still_step
    refine wpStill_nil ?_
    change wpList _ _ _ _ _ wr.drew
    go_wp2
    go_roundw
    case rel=>exact⟨1,by omega,rfl,hnx⟩
    case measure=>simp [intOf]
   ·have hp:∀W:World,Calls Tryz.prog 208 #[.int .u32 2] W fun e w'=>e = .returned (.int .u32 (push 2:Nat))/\W=w':=fun W=>push_any 2 W (by omega)
    have hp':=zH hp
    have hnx:Hid (Tb w (fA 2) (wr.drew.setCell ⟨w.heap.size+1,2,none⟩ (.int .u32 (push 2:Nat)))):=ht.out.drew.set 2 (push 2) (by omega)
    obtain⟨hc,hf⟩:=ht.out.drew.cell 2 (by omega)
    have y1:IntKind.u32.wrap 2=2:=IntWalk.u32_in _ (by omega)
    have y2:IntKind.i64.wrap 2=2:=IntWalk.i64_in _ (by omega)
    clear hp
    go_wp2_with fail
    go_still_tail 6,(by kernel_rfl)
    still_call ((hp'.out _).mono fun _ _ hh=>⟨hh.1,hh.2.symm⟩)
    repeat still_step
    refine wpStill_nil ?_
    change wpList _ _ _ _ _ wr.drew
    go_wp2
    go_roundw
    case rel=>exact⟨2,by omega,rfl,hnx⟩
    case measure=>simp [intOf]
   ·have hp:∀W:World,Calls Tryz.prog 208 #[.int .u32 4] W fun e w'=>e = .returned (.int .u32 (push 4:Nat))/\W=w':=fun W=>push_any 4 W (by omega)
    have hp':=zH hp
    have hnx:Hid (Tb w (fA 3) (wr.drew.setCell ⟨w.heap.size+1,4,none⟩ (.int .u32 (push 4:Nat)))):=ht.out.drew.set 4 (push 4) (by omega)
    obtain⟨hc,hf⟩:=ht.out.drew.cell 4 (by omega)
    have y1:IntKind.u32.wrap 4=4:=IntWalk.u32_in _ (by omega)
    have y2:IntKind.i64.wrap 4=4:=IntWalk.i64_in _ (by omega)
    clear hp
    go_wp2_with fail
    go_still_tail 6,(by kernel_rfl)
    still_call ((hp'.out _).mono fun _ _ hh=>⟨hh.1,hh.2.symm⟩)
    repeat still_step
    refine wpStill_nil ?_
    change wpList _ _ _ _ _ wr.drew
    go_wp2
    go_roundw
    case rel=>exact⟨3,by omega,rfl,hnx⟩
    case measure=>simp [intOf]
   ·have hp:∀W:World,Calls Tryz.prog 208 #[.int .u32 8] W fun e w'=>e = .returned (.int .u32 (push 8:Nat))/\W=w':=fun W=>push_any 8 W (by omega)
    have hp':=zH hp
    have hnx:Hid (Tb w (fA 4) (wr.drew.setCell ⟨w.heap.size+1,8,none⟩ (.int .u32 (push 8:Nat)))):=ht.out.drew.set 8 (push 8) (by omega)
    obtain⟨hc,hf⟩:=ht.out.drew.cell 8 (by omega)
    have y1:IntKind.u32.wrap 8=8:=IntWalk.u32_in _ (by omega)
    have y2:IntKind.i64.wrap 8=8:=IntWalk.i64_in _ (by omega)
    clear hp
    go_wp2_with fail
    go_still_tail 6,(by kernel_rfl)
    still_call ((hp'.out _).mono fun _ _ hh=>⟨hh.1,hh.2.symm⟩)
    repeat still_step
    refine wpStill_nil ?_
    change wpList _ _ _ _ _ wr.drew
    go_wp2
    go_roundw
    case rel=>exact⟨4,by omega,rfl,hnx⟩
    case measure=>simp [intOf]
   ·have hp:∀W:World,Calls Tryz.prog 208 #[.int .u32 16] W fun e w'=>e = .returned (.int .u32 (push 16:Nat))/\W=w':=fun W=>push_any 16 W (by omega)
    have hp':=zH hp
    have hnx:Hid (Tb w (fA 5) (wr.drew.setCell ⟨w.heap.size+1,16,none⟩ (.int .u32 (push 16:Nat)))):=ht.out.drew.set 16 (push 16) (by omega)
    obtain⟨hc,hf⟩:=ht.out.drew.cell 16 (by omega)
    have y1:IntKind.u32.wrap 16=16:=IntWalk.u32_in _ (by omega)
    have y2:IntKind.i64.wrap 16=16:=IntWalk.i64_in _ (by omega)
    clear hp
    go_wp2_with fail
    go_still_tail 6,(by kernel_rfl)
    still_call ((hp'.out _).mono fun _ _ hh=>⟨hh.1,hh.2.symm⟩)
    repeat still_step
    refine wpStill_nil ?_
    change wpList _ _ _ _ _ wr.drew
    go_wp2
    go_roundw
    case rel=>exact⟨5,by omega,rfl,hnx⟩
    case measure=>simp [intOf]
   ·have hp:∀W:World,Calls Tryz.prog 208 #[.int .u32 32] W fun e w'=>e = .returned (.int .u32 (push 32:Nat))/\W=w':=fun W=>push_any 32 W (by omega)
    have hp':=zH hp
    have hnx:Hid (Tb w (fA 6) (wr.drew.setCell ⟨w.heap.size+1,32,none⟩ (.int .u32 (push 32:Nat)))):=ht.out.drew.set 32 (push 32) (by omega)
    obtain⟨hc,hf⟩:=ht.out.drew.cell 32 (by omega)
    have y1:IntKind.u32.wrap 32=32:=IntWalk.u32_in _ (by omega)
    have y2:IntKind.i64.wrap 32=32:=IntWalk.i64_in _ (by omega)
    clear hp
    go_wp2_with fail
    go_still_tail 6,(by kernel_rfl)
    still_call ((hp'.out _).mono fun _ _ hh=>⟨hh.1,hh.2.symm⟩)
    repeat still_step
    refine wpStill_nil ?_
    change wpList _ _ _ _ _ wr.drew
    go_wp2
    go_roundw
    case rel=>exact⟨6,by omega,rfl,hnx⟩
    case measure=>simp [intOf]
   ·have hp:∀W:World,Calls Tryz.prog 208 #[.int .u32 64] W fun e w'=>e = .returned (.int .u32 (push 64:Nat))/\W=w':=fun W=>push_any 64 W (by omega)
    have hp':=zH hp
    have hnx:Hid (Tb w (fA 7) (wr.drew.setCell ⟨w.heap.size+1,64,none⟩ (.int .u32 (push 64:Nat)))):=ht.out.drew.set 64 (push 64) (by omega)
    obtain⟨hc,hf⟩:=ht.out.drew.cell 64 (by omega)
    have y1:IntKind.u32.wrap 64=64:=IntWalk.u32_in _ (by omega)
    have y2:IntKind.i64.wrap 64=64:=IntWalk.i64_in _ (by omega)
    clear hp
    go_wp2_with fail
    go_still_tail 6,(by kernel_rfl)
    still_call ((hp'.out _).mono fun _ _ hh=>⟨hh.1,hh.2.symm⟩)
    repeat still_step
    refine wpStill_nil ?_
    change wpList _ _ _ _ _ wr.drew
    go_wp2
    go_roundw
    case rel=>exact⟨7,by omega,rfl,hnx⟩
    case measure=>simp [intOf]
   ·have hp:∀W:World,Calls Tryz.prog 208 #[.int .u32 128] W fun e w'=>e = .returned (.int .u32 (push 128:Nat))/\W=w':=fun W=>push_any 128 W (by omega)
    have hp':=zH hp
    have hnx:Hid (Tb w (fA 8) (wr.drew.setCell ⟨w.heap.size+1,128,none⟩ (.int .u32 (push 128:Nat)))):=ht.out.drew.set 128 (push 128) (by omega)
    obtain⟨hc,hf⟩:=ht.out.drew.cell 128 (by omega)
    have y1:IntKind.u32.wrap 128=128:=IntWalk.u32_in _ (by omega)
    have y2:IntKind.i64.wrap 128=128:=IntWalk.i64_in _ (by omega)
    clear hp
    go_wp2_with fail
    go_still_tail 6,(by kernel_rfl)
    still_call ((hp'.out _).mono fun _ _ hh=>⟨hh.1,hh.2.symm⟩)
    repeat still_step
    refine wpStill_nil ?_
    change wpList _ _ _ _ _ wr.drew
    go_wp2
    go_roundw
    case rel=>exact⟨8,by omega,rfl,hnx⟩
    case measure=>simp [intOf]
  ·have hst2:Hid (Tb w (fB 0) wr):=by
    have h8:k=8:=by omega
    rw [h8] at ht
    exact ht
   obtain⟨wo,rfl⟩:∃wo:World,wo=wr:=⟨_,rfl⟩
   clear ht hst
   go_wp2
   go_loopw [15] (fun i wr=>∃b:Nat,b<=256/\i = .int .i64 b/\Hid (Tb w (fB b) wr)) (fun i _=>256-(intOf i).toNat)
   case atStart=>exact⟨0,by omega,rfl,hst2⟩
   case round=>
    obtain⟨b,hb,rfl,ht⟩:=hrel
    clear hst2
    by_cases hlt:b<256
    ·obtain⟨z1,z2,z3,z4⟩:=low_all b hlt
     have hnx:=zH (ht.out.drew.set b (push b) hlt)
     have z5:=i64_xor b (low b) hlt z2
     obtain⟨c1,_⟩:=ht.out.drew.cell (low b) z2
     obtain⟨c2,_⟩:=ht.out.drew.cell (b ^^^ low b) z3
     obtain⟨c3,f3⟩:=ht.out.drew.cell b hlt
     have z6:bits .xor .u32 (fB b (low b):Int) (fB b (b ^^^ low b):Int)=(push b:Nat):=by
      rw [←z4]
      have fb:∀k,k<256->fB b k<4294967296:=by
       intro k hk
       rw [fB_is]
       split
       ·exact push_lt (by omega)
       ·exact Nat.lt_of_lt_of_le (List.all_eq_true.1 (show (List.range 256).all (fun k=>decide (fA 8 k<4294967296))=true by decide +kernel) k (List.mem_range.2 hk) |> of_decide_eq_true) (Nat.le_refl _)
      exact u32_xor _ _ (fb _ z2) (fb _ z3)
     generalize low b=l at *
     generalize b ^^^ l=m at *
     generalize fB b l=p at *
     generalize fB b m=q at *
     clear z4
     go_wp2_with fail
     have i1:(l:Int)<256:=by omega
     have i2:0<=(l:Int):=by omega
     have i3:(m:Int)<256:=by omega
     have i4:0<=(m:Int):=by omega
     have i5:(b:Int)<256:=by omega
     have i6:0<=(b:Int):=by omega
     go_still_tail 11,(by kernel_rfl)
     repeat still_step
     change wpList _ _ _ _ _ wr.drew
     go_wp2
     go_roundw
     case rel=>exact⟨b+1,by omega,by go_num,hnx⟩
     case measure=>simp [intOf];omega
    ·obtain rfl:b=256:=by omega
     have hrow:row (fB 256)=row push:=row_ext _ _ fun k hk=>by rw [fB_is,if_pos hk]
     have hblk:=ht.out.blk
     have hres:=ht.out.res
     rw [hrow] at hblk
     have hfin:Hid (Old w (wr.setRow w.heap.size (row push))/\(wr.setRow w.heap.size (row push)).heap[w.heap.size]?=some (.cells (row push) 262 (0,0))):=by
      refine⟨ht.out.old.after (X:=fun k=>k<w.heap.size) ⟨rfl,rfl,by simp,fun k hk=>setRow_other _ _ _ _ (by omega)⟩ fun _ h=>h,setRow_heap _ _ _ _ _ _ hres⟩
     have hsz:=Tryz.zero.2
     have Hb:=zH hblk
     have Hr:=zH hres
     have Hz:=zH hsz
     clear hblk hres hrow hsz
     go_wp2_with (first | (with_reducible refine wpList_load_row rfl 262 _ rfl (w.heap.size+1) rfl 262 (row push) (0,0) _ Hb.out Tryz.array rfl (by rw [row_size];exact Hz.out) ?_) | (with_reducible refine wpList_store_row rfl 262 _ _ rfl w.heap.size (row push) rfl rfl 262 _ Hr.out (by rw [row_size];exact Hz.out) (by rw [row_size,row_size]) (row_one _) ?_))
     refine bodyPost_ret (results_cell_row rfl _ _ w.heap.size 262 (row push) (0,0) _ rfl hfin.out.2 Tryz.array rfl (by rw [row_size];exact Hz.out)) rfl ⟨rfl,hfin.out.1⟩
end Go.Proofs.YtgefdmfcddpaiaaGreatDoor.Crc
namespace Go.Proofs.YtgefdmfcddpaiaaGreatDoor.Crc
set_option linter.unusedVariables false
set_option maxRecDepth 100000
open Go.RowKit
theorem getD_byte{xs:List Int}(hb:∀x∈xs,0<=x/\x<=255)(k:Nat):0<=xs.getD k 0/\xs.getD k 0<=255:=by
 rw [List.getD_eq_getElem?_getD]
 by_cases h:k<xs.length
 ·rw [List.getElem?_eq_getElem h];exact hb _ (List.getElem_mem h)
 ·rw [List.getElem?_eq_none (by omega)];simp
theorem take_byte{xs:List Int}(hb:∀x∈xs,0<=x/\x<=255)(k:Nat):∀x∈xs.take k,0<=x/\x<=255:=fun x hx=>hb x (List.mem_of_mem_take hx)
theorem not_nat(a:Nat)(ha:a<4294967296):bits .xor .u32 IntKind.u32.max (a:Int)=4294967295-(a:Int):=by
 have ea:(BitVec.ofInt 32 (a:Int)).toNat=a:=by rw [BitVec.ofInt_natCast,BitVec.toNat_ofNat];exact Nat.mod_eq_of_lt ha
 have e:BitVec.ofInt 32 IntKind.u32.max=BitVec.allOnes 32:=by decide
 show IntKind.u32.wrap ((BitVec.ofInt 32 IntKind.u32.max ^^^ BitVec.ofInt 32 (a:Int)).toNat:Int)=_
 rw [e,BitVec.allOnes_xor,BitVec.toNat_not,ea,IntKind.wrap_u32]
 omega
theorem not_comp(a:Nat)(ha:a<4294967296):bits .xor .u32 IntKind.u32.max (4294967295-(a:Int))=a:=by
 have h:=not_nat (4294967295-a) (by omega)
 rw [show ((4294967295-a:Nat):Int)=4294967295-(a:Int) by omega] at h
 rw [h];omega
theorem goOn_any(g r:Nat)(p:Option Addr)(n cap:Nat)(xs:List Int)(w:World)(hr:r<4294967296)(hT:w.heap[g]?=some (.cells (row push) 262 (0,0)))(hs:SlI w .u8 (.slice p n cap) xs)(hb:∀x∈xs,0<=x/\x<=255)(hn:n<=9223372036854775807):
  Calls Tryz.prog 161 #[.pointer (some ⟨g,0,none⟩),.int .u32 (4294967295-(r:Int)),.slice p n cap] w fun e w'=>e = .returned (.int .u32 (4294967295-(reg r xs:Int)))/\w=w':=by
 obtain⟨hl,hcell⟩:=hs.cellAt
 have HT:=zH hT
 have HC:=zH hcell
 clear hT hcell hs
 have hnc:=not_comp r hr
 go_enter Tryz.func161,Tryz.ntmps161
 go_wp2
 clear hnc
 go_loop [7,14] (fun t i=>∃k:Nat,k<=n/\i = .int .i64 k/\t = .int .u32 (reg r (xs.take k):Nat)) (fun _ i=>n-(intOf i).toNat)
 case atStart=>exact⟨0,by omega,rfl,rfl⟩
 case round=>
  obtain⟨k,hk,rfl,rfl⟩:=hrel
  have hlt2:=reg_lt hr _ (take_byte hb k)
  have hx:=getD_byte hb k
  have hts:Hid (k<n->reg r (xs.take (k+1))=push (reg r (xs.take k) ^^^ (xs.getD k 0).toNat)):=fun h=>by
   rw [take_succ_getD xs k (by omega),reg_snoc]
  by_cases hlt:k<n
  ·obtain⟨b,off,rfl,_,hnc,hcm,hc⟩:=HC.out (by omega)
   have hc1:=hc k hlt
   have hnx:=hts.out hlt
   clear hc hts HC
   obtain⟨x,hxk⟩:∃x,x=xs.getD k 0:=⟨_,rfl⟩
   obtain⟨R,hR⟩:∃R,R=reg r (xs.take k):=⟨_,rfl⟩
   rw [←hxk] at hc1 hx hnx
   rw [←hR] at hnx hlt2 ⊢
   clear hxk hR
   obtain⟨v,rfl⟩:=Int.eq_ofNat_of_zero_le hx.1
   rw [Int.toNat_natCast,push_table R v (by omega)] at hnx
   have hm:(R%256) ^^^ v<256:=Nat.xor_lt_two_pow (n:=8) (by omega) (by omega)
   have e1:bits .xor .u8 ((R:Int)%256) (v:Int)=(((R%256) ^^^ v:Nat):Int):=by
    have:=u8_xor (R%256) v (by omega) (by omega)
    rwa [Int.natCast_emod] at this
   have e2:bits .xor .u32 ((R:Int)/256) (push ((R%256) ^^^ v):Nat)=(((R/256) ^^^ push ((R%256) ^^^ v):Nat):Int):=by
    have:=u32_xor (R/256) (push ((R%256) ^^^ v)) (by omega) (push_lt (by omega))
    rwa [Int.natCast_ediv] at this
   obtain⟨m,hmv⟩:∃m,m=(R%256) ^^^ v:=⟨_,rfl⟩
   rw [←hmv] at hm e1 e2 hnx
   rw [←hnx] at e2
   have e3:w.cell? ⟨g,m,none⟩=some (.int .u32 (push m:Nat)):=(cell_of_row _ _ _ _ _ _ HT.out).trans (row_at push m hm)
   have Hn:=zH hnx
   clear hnx hmv
   have i1:(m:Int)<256:=by omega
   have i2:0<=(m:Int):=by omega
   go_wp2
   go_round
   case rel=>exact⟨k+1,by omega,by go_num,by rw [Hn.out]⟩
   case measure=>simp [intOf];omega
  ·have hend:reg r (xs.take k)=reg r xs:=by rw [List.take_of_length_le (by omega)]
   rw [hend] at hlt2 ⊢
   have hnn:=not_nat _ hlt2
   clear hend HC hts
   obtain⟨R,hR⟩:∃R,R=reg r xs:=⟨_,rfl⟩
   have HR:=zH hR
   rw [←hR] at hnn hlt2 ⊢
   clear hR
   go_wp2
   go_ret
   exact⟨by rw [←HR.out];rfl,rfl⟩
def BytesR(xss:List (List Int)):Prop:=∀xs∈xss,∀x∈xs,0<=x/\x<=255
theorem BytesR.getD{xss:List (List Int)}(h:BytesR xss)(i:Nat):∀x∈xss.getD i [],0<=x/\x<=255:=by
 rw [List.getD_eq_getElem?_getD]
 by_cases hi:i<xss.length
 ·rw [List.getElem?_eq_getElem hi];exact h _ (List.getElem_mem hi)
 ·rw [List.getElem?_eq_none (by omega)];simp
theorem take_succ_rows(xss:List (List Int))(k:Nat)(h:k<xss.length):(xss.take (k+1)).flatten=(xss.take k).flatten ++ xss.getD k []:=by
 rw [List.take_succ_eq_append_getElem h,List.flatten_append,List.flatten_singleton]
 simp [List.getD,h]
theorem BytesR.flat{xss:List (List Int)}(h:BytesR xss)(k:Nat):∀x∈(xss.take k).flatten,0<=x/\x<=255:=by
 intro x hx
 obtain⟨l,hl,hx⟩:=List.mem_flatten.1 hx
 exact h l (List.mem_of_mem_take hl) x hx
theorem Parts_any(v:Value)(xss:List (List Int))(w:World)(hs:SlR w v xss)(hb:BytesR xss):
  Calls Tryz.prog 117 #[v] w fun e w'=>e = .returned (.int .u32 (sumOf xss.flatten))/\Old w w':=by
 obtain⟨p,n,cap,rfl,hl,hn,_⟩:=hs.shape
 have HS:=zH hs
 clear hs
 unfold sumOf
 go_enter Tryz.func117,Tryz.ntmps117
 go_wp2_with fail
 refine(Table_any w).mono ?_
 rintro e w1 ⟨rfl,ho1⟩
 have hT:Hid ((w1.alloc (.cells (row push) 262)).heap[w1.heap.size]?=some (.cells (row push) 262 (0,0))):=heap_alloc_new _ _
 have HO:Hid (Old w (w1.alloc (.cells (row push) 262))):=ho1.alloc' _
 have hs2:=HS.out.old HO.out
 obtain⟨p2,n2,cap2,he2,_,_,hc2⟩:=hs2.shape
 simp only [Value.slice.injEq] at he2
 obtain⟨rfl,rfl,rfl⟩:=he2
 have HC:=zH hc2
 have Hz:=zH Tryz.zero.2
 have Hr:=zH (heap_alloc_new w1 (.cells (row fun _=>0) 262))
 have hz:=Tryz.zero.1
 clear ho1 hs2 HS hc2
 go_wp2_with (with_reducible refine wpList_store_row rfl 262 _ _ rfl w1.heap.size (row push) rfl rfl 262 _ Hr.out (by rw [row_size];exact Hz.out) (by rw [row_size,row_size]) (row_one _) ?_;rw [World.setRow_alloc_new];clear hz)
 clear Hr Hz
 generalize w1.alloc (.cells (row push) 262)=w2 at *
 go_loop [4,10] (fun t i=>∃k:Nat,k<=n/\i = .int .i64 k/\t = .int .u32 (4294967295-(reg 4294967295 (xss.take k).flatten:Int))) (fun _ i=>n-(intOf i).toNat)
 case atStart=>exact⟨0,by omega,rfl,rfl⟩
 case round=>
  obtain⟨k,hk,rfl,rfl⟩:=hrel
  have hlt2:=reg_lt (r:=4294967295) (by omega) _ (hb.flat k)
  have hts:Hid (k<n->reg 4294967295 (xss.take (k+1)).flatten=reg (reg 4294967295 (xss.take k).flatten) (xss.getD k [])):=fun h=>by
   rw [take_succ_rows xss k (by omega),reg_append]
  by_cases hlt:k<n
  ·obtain⟨b,off,rfl,_,hc⟩:=HC.out (by omega)
   obtain⟨q,m,c,hc1,hsi,hm⟩:=hc k hlt
   have hgo:=zH (goOn_any w1.heap.size _ q m c _ w2 hlt2 hT.out hsi (hb.getD k) (by omega))
   have hnx:=hts.out hlt
   rw [←hnx] at hgo
   clear hc hts HC hsi hnx hlt2
   go_wp2_with fail
   refine hgo.out.mono ?_
   rintro e w' ⟨rfl,rfl⟩
   go_wp2
   go_round
   case rel=>exact⟨k+1,by omega,by go_num,rfl⟩
   case measure=>simp [intOf];omega
  ·have hend:Hid (xss.take k=xss):=by unfold Hid;rw [List.take_of_length_le (by omega)]
   clear HC hts
   go_wp2
   go_ret
   exact⟨by rw [hend.out];rfl,HO.out⟩
theorem Sum_any(v:Value)(xs:List Int)(w:World)(hs:SlI w .u8 v xs)(hb:∀x∈xs,0<=x/\x<=255):
  Calls Tryz.prog 68 #[v] w fun e w'=>e = .returned (.int .u32 (sumOf xs))/\Old w w':=by
 have ho:Old w (w.alloc (.cells #[v] 34)):=Old.alloc _ _
 have hr:SlR (w.alloc (.cells #[v] 34)) (.slice (some ⟨w.heap.size,0,none⟩) 1 1) [xs]:=by
  refine⟨[v],⟨some ⟨w.heap.size,0,none⟩,1,rfl,fun _=>⟨w.heap.size,0,rfl,by simp,Nat.le_refl _,by unfold maxLen;simp,fun i u hi=>?_⟩⟩,rfl,fun i u hi=>?_⟩
  ·match i,hi with
   | 0,hi=>
    simp only [List.getElem?_cons_zero,Option.some.injEq] at hi
    subst hi
    rw [World.cell?_alloc_at _ _ _ _ rfl];rfl
   | i+1,hi=>simp at hi
  ·match i,hi with
   | 0,hi=>
    simp only [List.getElem?_cons_zero,Option.some.injEq] at hi
    subst hi
    exact hs.old ho
   | i+1,hi=>simp at hi
 have hp:=zH (Parts_any _ _ _ hr (fun l hl=>by simp at hl;subst hl;exact hb))
 have HO:=zH ho
 clear hr ho
 obtain⟨p,n,cap,rfl,hl,hn⟩:=hs.shape
 clear hs hl
 go_enter Tryz.func68,Tryz.ntmps68
 go_wp2_with fail
 refine hp.out.mono ?_
 rintro e w1 ⟨rfl,ho1⟩
 have H1:=zH ho1
 clear ho1
 go_wp2
 go_ret
 exact⟨by simp,HO.out.trans H1.out⟩
end Go.Proofs.YtgefdmfcddpaiaaGreatDoor.Crc
