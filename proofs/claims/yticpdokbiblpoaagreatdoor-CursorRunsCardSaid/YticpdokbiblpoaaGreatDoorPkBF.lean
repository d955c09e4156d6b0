/- Texts joined: FltM, DiskB, HeldM. -/
import Derived.Test.YticpdokbiblpoaaGreatDoorChecked
import Derived.Maps.OwnSet
import Derived.Maps.Ext
import Derived.Test.YticpdokbiblpoaaGreatDoorPkAP
import Derived.Test.YticpdokbiblpoaaGreatDoorTk
set_option linter.unusedVariables false
namespace Go.Proofs.YticpdokbiblpoaaGreatDoor
open Go.Proofs.Tryz
open Go.Proofs.Tryz renaming prog → zP
open Go.Value renaming int → vI
open Go.IntKind renaming i64 → iJ
open Go.Ending renaming returned → rJ
set_option maxRecDepth 100000
open Go.RowKit Go.ChangeShapes Go.WideShapes
open Go.Maps (Keyed IsMap Tidy)
structure iP where
 f:Int
 a:Int
 x:Int
def iP.z:iP:=⟨0,0,0⟩
def iP.v(d:iP):Value:=.agg #[.int .i64 d.f,.int .i64 d.a,.int .u8 d.x]
def iP.dt(d:iP):DataW Unit:=.agg [.lit (.int .i64 d.f),.lit (.int .i64 d.a),.lit (.int .u8 d.x)]
def iP.ok(d:iP):Prop:=(-9223372036854775808<=d.f/\d.f<=9223372036854775807)/\(0<=d.a/\d.a<=63)/\0<=d.x/\d.x<=255
theorem iP.z_ok:iP.z.ok:=by unfold iP.ok iP.z;simp
theorem iP.dt_inj{d e:iP}(h:d.dt=e.dt):d=e:=by
 cases d;cases e;simp[iP.dt]at h;simp[h]
def YG:Value->Option (DataW Unit × List MemPlace)
 | .agg cs=>match cs.toList with
  | [.int .i64 f,.int .i64 a,.int .u8 x]=>some (iP.dt ⟨f,a,x⟩,[])
  | _=>none
 | _=>none
theorem aCz(d:iP):YG d.v=some (d.dt,[]):=rfl
theorem aCA{v:Value}{z:DataW Unit × List MemPlace}(h:YG v=some z):∃d:iP,v=d.v/\z=(d.dt,[]):=by
 unfold YG at h;split at h
 ·rename_i cs
  split at h
  ·rename_i f a x he
   cases h;refine⟨⟨f,a,x⟩,?_,rfl⟩;unfold iP.v;rw[<-Array.toArray_toList (xs:=cs),he]
  ·cases h
 ·cases h
theorem MG(a:Nat):∀l:List Nat,l.Pairwise (·≠·)->l.length<=(l.filter (fun x=>decide (x≠a))).length+1
 | [],_=>zS
 | x :: r,h=>by
  obtain⟨h1,h2⟩:=List.pairwise_cons.1 h;by_cases e:x=a
  ·subst e;have:r.filter (fun y=>decide (y≠x))=r:=List.filter_eq_self.2 fun y hy=>by simpa using (h1 y hy).symm
   rw[List.filter_cons_of_neg zS,this];simp
  ·rw[List.filter_cons_of_pos (by simpa using e)];have:=MG a r h2;simp only[List.length_cons];omega
theorem vN:∀(P:Nat) (l:List Nat),l.Pairwise (·≠·)->(∀x∈l,x<P)->l.length<=P
 | 0,l,_,h=>by
  cases l with
  | nil=>simp
  | cons x r=>exact absurd (h x zS) zO
 | P+1,l,hp,h=>by
  have h1:=MG P l hp;have h2:=vN P (l.filter (fun x=>decide (x≠P))) (hp.filter _) fun x hx=>by
   obtain⟨m1,m2⟩:=List.mem_filter.1 hx;have:=h x m1;have:x≠P:=by simpa using m2
   omega
  omega
theorem GX{P:Program}{k:TypeId}{R:Value->Option (DataW Unit × List MemPlace)}{w:World}{b n:Nat}{D:DataW Unit}(h:w.ownsMap P k R b n D):w.ownsMap P k R b (Maps.size D) D:=by
 obtain⟨es,clock,hb,F,hs,hD⟩:=h;refine⟨es,clock,hb,F,?_,hD⟩;rw[hD];simp[Maps.size,length_sorted]
theorem iV:Keyed zP 3:=Maps.int_keyed underlying3
theorem aDN(w:World):(zeroValue 177).run zP w=.ok iP.z.v w:=zK
theorem yA{k:Nat}(hk:k<=9223372036854775807):keyOf zP 3 (.int .i64 (k:Int))=some (.int .i64 (k:Int)):=Maps.keyOf_int_mk underlying3 (WalkArith.wf_i64 zO)
def FltAt(w:World)(b n:Nat)(F:Nat->iP):Prop:=
 ∃D:DataW Unit,w.ownsMap zP 3 YG b n D/\(∀kl,Maps.has D kl=true->∃k:Nat,k<n/\kl=.int .i64 (k:Int))/\∀k:Nat,k<n->D.atKey (.int .i64 (k:Int)) iP.z.dt=(F k).dt
def pE(F:Nat->iP)(k:Nat)(d:iP):Nat->iP:=fun j=>if j=k then d else F j
theorem uZ{j k:Nat}(h:j≠k):(Lit.int .i64 (j:Int))≠Lit.int .i64 (k:Int):=fun e=>h (by injection e with _ e2;omega)
theorem aEg(w:World)(n:Nat):FltAt (w.alloc (.map #[] 0)) w.heap.size n (fun _=>iP.z):=
 ⟨.map [],(World.ownsMap_made _ _ _ _).mono (Nat.zero_le _),fun kl h=>by simp[Maps.has]at h,fun k _=>rfl⟩
namespace FltAt
variable {w w':World} {b n:Nat} {F:Nat->iP}
theorem lt(h:FltAt w b n F):b<w.heap.size:=by obtain⟨D,h1,_⟩:=h;exact h1.lt
theorem kept{X:Nat->Prop}(h:FltAt w b n F)(k:Kept X w w')(hb:X b):FltAt w' b n F:=by
 obtain⟨D,⟨es,clock,h1,h2⟩,r⟩:=h;exact⟨D,⟨es,clock,(k.block b hb).trans h1,h2⟩,r⟩
theorem old(h:FltAt w b n F)(k:Old w w'):FltAt w' b n F:=h.kept k h.lt
theorem OS{D:DataW Unit}{m:Nat}(h:w.ownsMap zP 3 YG b m D)(hk:∀kl,Maps.has D kl=true->∃k:Nat,k<n/\kl=.int .i64 (k:Int)):w.ownsMap zP 3 YG b n D:=by
 refine(GX h).mono ?_;obtain⟨es,rfl,hr,hkl⟩:=h.canon iV;have hp:=Maps.apart_of_rising hr;show es.length<=n;have hkey:∀p∈es,∃k:Nat,k<n/\p.1=.int .i64 (k:Int):=fun p hp'=>
  hk p.1 (by simp only[Maps.has,List.any_eq_true];exact⟨p,hp',WideAt.sameKey_self (hkl p hp')⟩)
 have hl:(es.map fun p=>match p.1 with | .int _ z=>z.toNat | _=>0).length<=n:=by
  refine vN n _ ?_ ?_
  ·rw[List.pairwise_map];refine List.Pairwise.imp_of_mem ?_ hp;intro p q hp' hq' hne e;obtain⟨k1,_,e1⟩:=hkey p hp';obtain⟨k2,_,e2⟩:=hkey q hq';rw[e1,e2]at e;simp only[Int.toNat_natCast]at e;exact hne (by rw[e1,e2,e])
  ·intro x hx;obtain⟨p,hp',rfl⟩:=List.mem_map.1 hx;obtain⟨k,hk',e⟩:=hkey p hp';rw[e];simpa using hk'
 simpa using hl
theorem look(h:FltAt w b n F){k:Nat}(hk:k<n)(h63:k<=9223372036854775807):(Instr.lookup 148 (.map (some b)) (.int .i64 (k:Int)) false).run zP w=.ok (F k).v w:=by
 obtain⟨D,h1,_,h3⟩:=h;obtain⟨v,ps,hr,hv⟩:=h1.lookup iV underlying148 (aDN w) (aCz iP.z) (yA h63);obtain⟨d,rfl,hd⟩:=aCA hv;rw[h3 k hk]at hd;have e:=iP.dt_inj (congrArg Prod.fst hd);rw[hr,e]
theorem put(h:FltAt w b n F){k:Nat}(hk:k<n)(h63:n<=1099511627776)(d:iP):∃w',(Instr.mapUpdate 148 (.map (some b)) (.int .i64 (k:Int)) d.v).run zP w=.ok () w'/\FltAt w' b n (pE F k d)/\Kept (fun j=>j<w.heap.size/\j≠b) w w':=by
 obtain⟨D,h1,h2,h3⟩:=h;obtain⟨w',hr,ho,hm⟩:=h1.store iV underlying148 (by unfold maxLen;omega) (yA (k:=k) zO) (aCz d);have hkl:WideAt.IsKeyLit (Lit.int .i64 (k:Int)):=iV.key (yA (k:=k) zO);have hk':∀kl,Maps.has (D.put (.int .i64 (k:Int)) d.dt) kl=true->∃k:Nat,k<n/\kl=.int .i64 (k:Int):=fun kl hkl'=>by
  by_cases e:kl=.int .i64 (k:Int)
  ·exact⟨k,hk,e⟩
  ·rw[Maps.has_put_other e]at hkl';exact h2 kl hkl'
 refine⟨w',hr,⟨_,OS ho hk',hk',fun j hj=>?_⟩,Kept.grown hm.grown (fun _ h=>h.1) (fun j e hj=>by cases e;exact hj.2 rfl)⟩;unfold pE;by_cases e:j=k
 ·rw[if_pos e,e,Maps.atKey_put_same h1.isMap hkl]
 ·rw[if_neg e,Maps.atKey_put_other (uZ e),h3 j hj]
theorem del(h:FltAt w b n F){k:Nat}(hk:k<n)(h63:n<=1099511627776)(ty:TypeId):∃w',(Builtin.delete_ #[148,3] ty #[.map (some b),.int .i64 (k:Int)]).run zP w=.ok (.tuple #[]) w'/\FltAt w' b n (pE F k iP.z)/\Kept (fun j=>j<w.heap.size/\j≠b) w w':=by
 obtain⟨D,h1,h2,h3⟩:=h;obtain⟨w',hr,ho,hm⟩:=h1.drop iV underlying148 (yA (k:=k) zO) ty;have hk':∀kl,Maps.has (D.del (.int .i64 (k:Int))) kl=true->∃k:Nat,k<n/\kl=.int .i64 (k:Int):=fun kl hkl'=>by
  by_cases e:kl=.int .i64 (k:Int)
  ·exact⟨k,hk,e⟩
  ·rw[Maps.has_del_other e]at hkl';exact h2 kl hkl'
 refine⟨w',hr,⟨_,OS ho hk',hk',fun j hj=>?_⟩,Kept.grown hm.grown (fun _ h=>h.1) (fun j e hj=>by cases e;exact hj.2 rfl)⟩;unfold pE;by_cases e:j=k
 ·rw[if_pos e,e,Maps.atKey_del_same]
 ·rw[if_neg e,Maps.atKey_del_other (uZ e),h3 j hj]
end FltAt
theorem pZ(w:World){ops:Array Oper}{rest:List Oper}{o:Oper}{a:Act}{Q:Exit->Act->World->Prop}(hg:o.guard=none)(m x v:Operand)(hop:o.op=Op.mapUpdate 148 m x v)
  (b n k:Nat) (F:Nat->iP) (d:iP) (hm:a.eval m=.map (some b)) (h:FltAt w b n F) (hk:k<n) (h63:n<=1099511627776) (hx:a.eval x=.int .i64 (k:Int)) (hv:a.eval v=d.v)
  (hK:∀w',FltAt w' b n (pE F k d)->Kept (fun j=>j<w.heap.size/\j≠b) w w'->wpList zP ops Q rest (a.put o.dst undef) w'):wpList zP ops Q (o :: rest) a w:=by
 refine wpList_plain hg fun K' hK'=>?_;obtain⟨w',hrun,r1,r2⟩:=h.put hk h63 d;unfold Oper.wp;simp[execOp,hop,hm,hx,hv,hrun,Result.andThen];exact hK' _ _ (hK w' r1 r2)
theorem yN(w:World){ops:Array Oper}{rest:List Oper}{o:Oper}{a:Act}{Q:Exit->Act->World->Prop}(hg:o.guard=none)(m x:Operand)(hop:o.op=Op.call { callee:=Callee.builtin Builtin.delete,args:=#[m,x],argTypes:=#[148,3] })
  (b n k:Nat) (F:Nat->iP) (hm:a.eval m=.map (some b)) (h:FltAt w b n F) (hk:k<n) (h63:n<=1099511627776) (hx:a.eval x=.int .i64 (k:Int))
  (hK:∀w',FltAt w' b n (pE F k iP.z)->Kept (fun j=>j<w.heap.size/\j≠b) w w'->wpList zP ops Q rest (a.put o.dst (.tuple #[])) w'):wpList zP ops Q (o :: rest) a w:=by
 refine wpList_plain hg fun K' hK'=>?_;obtain⟨w',hrun,r1,r2⟩:=h.del hk h63 o.type;unfold Oper.wp;simp[execOp,hop,resolve,invoke,builtin,hm,hx,hrun,Result.andThen];exact hK' _ _ (hK w' r1 r2)
structure eF where
 N:Nat
 G:nI
 F:Nat->iP
 r:Int
 f:Int
structure DkAt(w:World)(b m:Nat)(p:Option Addr)(c:Nat)(d:eF):Prop where
 blk:w.heap[b]?=some (.cells #[.slice p d.N c,.map (some m),.int .i64 d.r,.int .i64 d.f] 150 (0,0))
 row:SlU w p (d.N*64) d.G
 cap:d.N<=c/\c<=maxLen
 map:FltAt w m d.N d.F
 ne:b≠m
 apart:∀a,0<d.N->p=some a->a.block≠b/\a.block≠m
 num:d.N<=65536
 ok:∀k,k<d.N->(d.F k).ok
 byt:lS d.G (d.N*64)
def EK(w:World)(b m:Nat):Nat->Prop:=fun k=>k<w.heap.size/\k≠b/\k≠m
namespace DkAt
variable {w w':World} {b m c:Nat} {p:Option Addr} {d:eF}
theorem ltb(h:DkAt w b m p c d):b<w.heap.size:=lt_of_block h.blk
theorem kept{X:Nat->Prop}(h:DkAt w b m p c d)(k:Kept X w w')(hb:X b)(hm:X m)(hp:∀a,0<d.N->p=some a->X a.block):DkAt w' b m p c d:=
 ⟨(k.block b hb).trans h.blk,h.row.kept k fun a hn ha=>hp a zO ha,h.cap,h.map.kept k hm,h.ne,h.apart,h.num,h.ok,h.byt⟩
theorem plt(h:DkAt w b m p c d):∀a,0<d.N->p=some a->a.block<w.heap.size:=fun a hn ha=>by
 obtain⟨g,o,e1,e2,_⟩:=h.row zO;rw[e1]at ha;cases ha;exact e2
theorem old(h:DkAt w b m p c d)(k:Old w w'):DkAt w' b m p c d:=h.kept k h.ltb h.map.lt h.plt
theorem cells(h:DkAt w b m p c d):w.cell? ⟨b,0,none⟩=some (.slice p d.N c)/\w.cell? ⟨b,1,none⟩=some (.map (some m))/\w.cell? ⟨b,2,none⟩=some (.int .i64 d.r)/\w.cell? ⟨b,3,none⟩=some (.int .i64 d.f) /\
  w.frozen? ⟨b,2,none⟩=false/\w.frozen? ⟨b,3,none⟩=false:=by
 have:=h.blk;simp[World.cell?,World.frozen?,this]
end DkAt
def aIm(w:World)(v:Value):Prop:=v=.pointer none\/∃b,v=.pointer (some ⟨b,0,none⟩)/\b<w.heap.size/\w.cell? ⟨b,1,none⟩=some (.map none)
theorem wU(b:Option Nat)(w:World):(binOp .neq 148 (.map b) (.map none)).run zP w=.ok (.bool b.isSome) w:=by
 cases b <;> kernel_rfl
theorem ZN(v:Value)(w:World)(h:aIm w v):Calls zP 80 #[v] w fun e w'=>e=rJ (.bool false)/\w=w':=by
 rcases h with rfl | ⟨b,rfl,hb,hc⟩
 ·go_enter func80,ntmps80;go_wp2;go_ret;exact⟨rfl,rfl⟩
 ·have hr:=wU none w;go_enter func80,ntmps80;go_wp2;go_ret;exact⟨rfl,rfl⟩
theorem CU(b m:Nat)(w:World)(hc:w.cell? ⟨b,1,none⟩=some (.map (some m))):Calls zP 80 #[.pointer (some ⟨b,0,none⟩)] w fun e w'=>e=rJ (.bool true)/\w=w':=by
 have hr:=wU (some m) w;go_enter func80,ntmps80;go_wp2;go_ret;exact⟨rfl,rfl⟩
open Go.ChangeMaps Go.MapKept
def aAd:Value->Option (DataW Unit × List MemPlace)
 | .int .i64 f=>some (.lit (.int .i64 f),[])
 | _=>none
theorem SD(i:Int):aAd (.int .i64 i)=some (.lit (.int .i64 i),[]):=rfl
theorem MK{v:Value}{z:DataW Unit × List MemPlace}(h:aAd v=some z):∃i,v=.int .i64 i/\z=(.lit (.int .i64 i),[]):=by
 unfold aAd at h;split at h
 ·cases h;exact⟨_,rfl,rfl⟩
 ·cases h
theorem OV(w:World):(zeroValue 3).run zP w=.ok (.int .i64 0) w:=zK
theorem tL{k:Int}(h:-9223372036854775808<=k/\k<=9223372036854775807):keyOf zP 3 (.int .i64 k)=some (.int .i64 k):=Maps.keyOf_int_mk underlying3 (WalkArith.wf_i64 zO)
def HldAt(w:World)(b n:Nat)(F:Nat->Option Nat):Prop:=
 ∃D:DataW Unit,w.ownsMap zP 3 aAd b n D/\(∀kl,Maps.has D kl=true->∃k:Nat,k<n/\kl=.int .i64 (k:Int)) /\
  ∀k:Nat,k<n->(F k=none->Maps.has D (.int .i64 (k:Int))=false)/\∀i,F k=some i->Maps.has D (.int .i64 (k:Int))=true/\D.atKey (.int .i64 (k:Int)) (.lit (.int .i64 0))=.lit (.int .i64 (i:Int))
def xG(F:Nat->Option Nat)(k:Nat)(d:Option Nat):Nat->Option Nat:=fun j=>if j=k then d else F j
theorem aCu(w:World)(n:Nat):HldAt (w.alloc (.map #[] 0)) w.heap.size n (fun _=>none):=
 ⟨.map [],(World.ownsMap_made _ _ _ _).mono (Nat.zero_le _),fun kl h=>by simp[Maps.has]at h,fun k _=>⟨fun _=>by simp[Maps.has],fun i h=>by cases h⟩⟩
namespace HldAt
variable {w w':World} {b n:Nat} {F:Nat->Option Nat}
theorem lt(h:HldAt w b n F):b<w.heap.size:=by obtain⟨D,h1,_⟩:=h;exact h1.lt
theorem kept{X:Nat->Prop}(h:HldAt w b n F)(k:Kept X w w')(hb:X b):HldAt w' b n F:=by
 obtain⟨D,⟨es,clock,h1,h2⟩,r⟩:=h;exact⟨D,⟨es,clock,(k.block b hb).trans h1,h2⟩,r⟩
theorem old(h:HldAt w b n F)(k:Old w w'):HldAt w' b n F:=h.kept k h.lt
theorem ext{G:Nat->Option Nat}(h:HldAt w b n F)(e:∀k,k<n->F k=G k):HldAt w b n G:=by
 obtain⟨D,h1,h2,h3⟩:=h;exact⟨D,h1,h2,fun k hk=>by rw[<-e k hk];exact h3 k hk⟩
theorem OS{D:DataW Unit}{m:Nat}(h:w.ownsMap zP 3 aAd b m D)(hk:∀kl,Maps.has D kl=true->∃k:Nat,k<n/\kl=.int .i64 (k:Int)):w.ownsMap zP 3 aAd b n D:=by
 refine(GX h).mono ?_;obtain⟨es,rfl,hr,hkl⟩:=h.canon iV;have hp:=Maps.apart_of_rising hr;show es.length<=n;have hkey:∀p∈es,∃k:Nat,k<n/\p.1=.int .i64 (k:Int):=fun p hp'=>
  hk p.1 (by simp only[Maps.has,List.any_eq_true];exact⟨p,hp',WideAt.sameKey_self (hkl p hp')⟩)
 have hl:(es.map fun p=>match p.1 with | .int _ z=>z.toNat | _=>0).length<=n:=by
  refine vN n _ ?_ ?_
  ·rw[List.pairwise_map];refine List.Pairwise.imp_of_mem ?_ hp;intro p q hp' hq' hne e;obtain⟨k1,_,e1⟩:=hkey p hp';obtain⟨k2,_,e2⟩:=hkey q hq';rw[e1,e2]at e;simp only[Int.toNat_natCast]at e;exact hne (by rw[e1,e2,e])
  ·intro x hx;obtain⟨p,hp',rfl⟩:=List.mem_map.1 hx;obtain⟨k,hk',e⟩:=hkey p hp';rw[e];simpa using hk'
 simpa using hl
theorem look_some(h:HldAt w b n F){k i:Nat}(hk:k<n)(h63:n<=1099511627776)(hF:F k=some i):(Instr.lookup 152 (.map (some b)) (.int .i64 (k:Int)) true).run zP w=.ok (.tuple #[.int .i64 (i:Int),.bool true]) w:=by
 obtain⟨D,h1,_,h3⟩:=h;obtain⟨v,ps,hr,hv⟩:=h1.look_ok iV underlying152 (OV w) (SD 0) (tL (k:=(k:Int)) zO);obtain⟨e1,e2⟩:=(h3 k hk).2 i hF;obtain⟨d,rfl,hd⟩:=MK hv;rw[e2]at hd;have e:=congrArg Prod.fst hd;simp at e;rw[hr,e1,<-e]
theorem look_none(h:HldAt w b n F){z:Int}(h63:n<=1099511627776)(hz:-9223372036854775808<=z/\z<=9223372036854775807)(hF:∀k:Nat,k<n->z=(k:Int)->F k=none):(Instr.lookup 152 (.map (some b)) (.int .i64 z) true).run zP w=.ok (.tuple #[.int .i64 0,.bool false]) w:=by
 obtain⟨D,h1,h2,h3⟩:=h;obtain⟨v,ps,hr,hv⟩:=h1.look_ok iV underlying152 (OV w) (SD 0) (tL hz);have hno:Maps.has D (.int .i64 z)=false:=by
  cases hb:Maps.has D (.int .i64 z) with
  | false=>rfl
  | true=>
   obtain⟨k,hk,e⟩:=h2 _ hb;injection e with _ e2
   have:=(h3 k hk).1 (hF k hk e2);rw[<-e2,hb]at this;exact this
 obtain⟨d,rfl,hd⟩:=MK hv;rw[Maps.atKey_of_not_has hno]at hd;have e:=congrArg Prod.fst hd;simp at e;rw[hr,hno,<-e]
theorem put(h:HldAt w b n F){k:Nat}(hk:k<n)(h63:n<=1099511627776)(i:Nat):∃w',(Instr.mapUpdate 152 (.map (some b)) (.int .i64 (k:Int)) (.int .i64 (i:Int))).run zP w=.ok () w'/\HldAt w' b n (xG F k (some i))/\Kept (fun j=>j<w.heap.size/\j≠b) w w':=by
 obtain⟨D,h1,h2,h3⟩:=h;obtain⟨w',hr,ho,hm⟩:=h1.store iV underlying152 (by unfold maxLen;omega) (tL (k:=(k:Int)) zO) (SD i);have hkl:WideAt.IsKeyLit (Lit.int .i64 (k:Int)):=iV.key (tL (k:=(k:Int)) zO);have hk':∀kl,Maps.has (D.put (.int .i64 (k:Int)) (.lit (.int .i64 (i:Int)))) kl=true->∃k:Nat,k<n/\kl=.int .i64 (k:Int):=fun kl hkl'=>by
  by_cases e:kl=.int .i64 (k:Int)
  ·exact⟨k,hk,e⟩
  ·rw[Maps.has_put_other e]at hkl';exact h2 kl hkl'
 refine⟨w',hr,⟨_,OS ho hk',hk',fun j hj=>?_⟩,Kept.grown hm.grown (fun _ h=>h.1) (fun j e hj=>by cases e;exact hj.2 rfl)⟩;unfold xG;by_cases e:j=k
 ·rw[if_pos e,e,Maps.has_put_same h1.isMap hkl,Maps.atKey_put_same h1.isMap hkl];exact⟨fun h=>(nomatch h),fun i' h=>by cases h;exact⟨rfl,rfl⟩⟩
 ·rw[if_neg e,Maps.has_put_other (uZ e),Maps.atKey_put_other (uZ e)];exact h3 j hj
theorem del(h:HldAt w b n F){k:Nat}(hk:k<n)(h63:n<=1099511627776)(ty:TypeId):∃w',(Builtin.delete_ #[152,3] ty #[.map (some b),.int .i64 (k:Int)]).run zP w=.ok (.tuple #[]) w'/\HldAt w' b n (xG F k none)/\Kept (fun j=>j<w.heap.size/\j≠b) w w':=by
 obtain⟨D,h1,h2,h3⟩:=h;obtain⟨w',hr,ho,hm⟩:=h1.drop iV underlying152 (tL (k:=(k:Int)) zO) ty;have hk':∀kl,Maps.has (D.del (.int .i64 (k:Int))) kl=true->∃k:Nat,k<n/\kl=.int .i64 (k:Int):=fun kl hkl'=>by
  by_cases e:kl=.int .i64 (k:Int)
  ·exact⟨k,hk,e⟩
  ·rw[Maps.has_del_other e]at hkl';exact h2 kl hkl'
 refine⟨w',hr,⟨_,OS ho hk',hk',fun j hj=>?_⟩,Kept.grown hm.grown (fun _ h=>h.1) (fun j e hj=>by cases e;exact hj.2 rfl)⟩;unfold xG;by_cases e:j=k
 ·rw[if_pos e,e,Maps.has_del_same];exact⟨fun _=>rfl,fun i h=>by cases h⟩
 ·rw[if_neg e,Maps.has_del_other (uZ e),Maps.atKey_del_other (uZ e)];exact h3 j hj
end HldAt
theorem pJ(w:World){ops:Array Oper}{rest:List Oper}{o:Oper}{a:Act}{Q:Exit->Act->World->Prop}(hg:o.guard=none)(m x v:Operand)(hop:o.op=Op.mapUpdate 152 m x v)
  (b n k i:Nat) (F:Nat->Option Nat) (hm:a.eval m=.map (some b)) (h:HldAt w b n F) (hk:k<n) (h63:n<=1099511627776) (hx:a.eval x=.int .i64 (k:Int)) (hv:a.eval v=.int .i64 (i:Int))
  (hK:∀w',HldAt w' b n (xG F k (some i))->Kept (fun j=>j<w.heap.size/\j≠b) w w'->wpList zP ops Q rest (a.put o.dst undef) w'):wpList zP ops Q (o :: rest) a w:=by
 refine wpList_plain hg fun K' hK'=>?_;obtain⟨w',hrun,r1,r2⟩:=h.put hk h63 i;unfold Oper.wp;simp[execOp,hop,hm,hx,hv,hrun,Result.andThen];exact hK' _ _ (hK w' r1 r2)
theorem DD(w:World){ops:Array Oper}{rest:List Oper}{o:Oper}{a:Act}{Q:Exit->Act->World->Prop}(hg:o.guard=none)(m x:Operand)(hop:o.op=Op.call { callee:=Callee.builtin Builtin.delete,args:=#[m,x],argTypes:=#[152,3] })
  (b n k:Nat) (F:Nat->Option Nat) (hm:a.eval m=.map (some b)) (h:HldAt w b n F) (hk:k<n) (h63:n<=1099511627776) (hx:a.eval x=.int .i64 (k:Int))
  (hK:∀w',HldAt w' b n (xG F k none)->Kept (fun j=>j<w.heap.size/\j≠b) w w'->wpList zP ops Q rest (a.put o.dst (.tuple #[])) w'):wpList zP ops Q (o :: rest) a w:=by
 refine wpList_plain hg fun K' hK'=>?_;obtain⟨w',hrun,r1,r2⟩:=h.del hk h63 o.type;unfold Oper.wp;simp[execOp,hop,resolve,invoke,builtin,hm,hx,hrun,Result.andThen];exact hK' _ _ (hK w' r1 r2)
end Go.Proofs.YticpdokbiblpoaaGreatDoor
