/- Package fit's contracts, third part: Search. -/
import Derived.Test.YtcepfbflgngmjaaFitP
import Derived.Test.YtcepfbflgngmjaaToneF
import Derived.Deep.CutBlock
namespace Go.Proofs.Ytcepfbflgngmjaa
set_option linter.unusedVariables false
set_option maxRecDepth 100000
set_option linter.unusedSimpArgs false
open Go.RowKit Go.ChangeShapes Go.WideShapes

theorem row4_zero : rowN 4 (blk fun _ => 0) = #[.int .i64 0, .int .i64 0, .int .i64 0, .int .i64 0] := rfl
/-- A frame's gains are written. -/
theorem FrB.gains {t : TypeId} {w : World} {b : Nat} {F : Nat → Int} {s : Value} (h : FrB t w b F s) (g : Nat → Int) : FrB t (w.setCells b 0 (rowL 4 g)) b (fun k => if k < 4 then g k else F k) s := by
  have h4 := (((h.set 0 (by omega) (by omega) (g 0)).set 1 (by omega) (by omega) (g 1)).set 2 (by omega) (by omega) (g 2)).set 3 (by omega) (by omega) (g 3)
  have e : (fun k => if k = 3 then g 3 else (fun k => if k = 2 then g 2 else (fun k => if k = 1 then g 1 else (fun k => if k = 0 then g 0 else F k) k) k) k) = fun k => if k < 4 then g k else F k := by
    funext k
    dsimp only
    by_cases h0 : k = 0
    · subst h0; simp
    by_cases h1 : k = 1
    · subst h1; simp
    by_cases h2 : k = 2
    · subst h2; simp
    by_cases h3 : k = 3
    · subst h3; simp
    rw [if_neg h3, if_neg h2, if_neg h1, if_neg h0, if_neg (by omega)]
  rw [e] at h4
  exact h4
theorem FrB.there {t : TypeId} {w : World} {b : Nat} {F : Nat → Int} {s : Value} (h : FrB t w b F s) (o n : Nat) (ho : o + n ≤ 4 ∨ (4 < o ∧ o + n ≤ 29)) : w.there b o n := fun j hj => ⟨by rw [(h.cell (o + j) (by omega) (by omega)).1]; rfl, (h.cell (o + j) (by omega) (by omega)).2⟩
theorem FrB.ext {t : TypeId} {w : World} {b : Nat} {F G : Nat → Int} {s : Value} (h : FrB t w b F s) (e : ∀ k, k < 29 → k ≠ 4 → F k = G k) : FrB t w b G s := by
  unfold FrB
  rw [← frC_ext s e]
  exact h
theorem FrB.cells {t : TypeId} {w : World} {b : Nat} {F : Nat → Int} {s : Value} (h : FrB t w b F s) : w.heap[b]? = some (.cells (rowN 29 (frC F s)) t (0, 0)) := h
/-- The boxes of a spectrum, gains, and a result. -/
theorem results_row_tmp2 {P : Program} {fn : Func} {p u : Tmp} {ty : TypeId} (h : fn.results = #[.cell p ty, .tmp u]) (tmps : Array Value) (w : World) (g : Nat) (t : TypeId) (cs : Array Value) (fr : Nat × Nat) (d : TypeDesc)
    (hp : tmps.getD p undef = .pointer (some ⟨g, 0, none⟩)) (hg : w.heap[g]? = some (.cells cs t fr))
    (hu : P.underlying ty = some d) (hd : (match d with | .struct _ | .array _ _ => true | _ => false) = true) (hi : (P.info? ty).map (·.size) = some cs.size) :
    (results fn tmps).run P w = .ok (.tuple #[.agg cs, tmps.getD u undef]) w := by
  rw [results_cell_tmp h, hp]
  simp [asAddr, run_loadVar_row w g t ty cs fr d hg hu hd hi]
structure SeSt (w : World) (z : Array Value) (f g : Nat → Int) (W : World) : Prop where
  b : W.heap[w.heap.size]? = some (.cells (rowN 16 (blk f)) 23 (0, 0))
  g : W.heap[w.heap.size + 1]? = some (.cells (rowN 4 (blk g)) 24 (0, 0))
  r : W.heap[w.heap.size + 1 + 1]? = some (.cells z 29 (0, 0))
  old : Old w W
namespace SeSt
variable {w W W' : World} {z : Array Value} {f g : Nat → Int}
theorem keep (h : SeSt w z f g W) (k : Old W W') : SeSt w z f g W' := ⟨(k.block _ (lt_of_block h.b)).trans h.b, (k.block _ (lt_of_block h.g)).trans h.g, (k.block _ (lt_of_block h.r)).trans h.r, h.old.trans k⟩
theorem start (w : World) (z : Array Value) (f g : Nat → Int) : SeSt w z f g (((w.alloc (.cells (rowN 16 (blk f)) 23)).alloc (.cells (rowN 4 (blk g)) 24)).alloc (.cells z 29)) := by
  refine ⟨?_, ?_, ?_, ((Old.alloc w _).alloc' _).alloc' _⟩
  · exact (Below.heap_alloc _ _ _ (by simp; omega)).trans (heap_alloc2_old w _ _)
  · exact (Below.heap_alloc _ _ _ (by simp)).trans (heap_alloc2_new w _ _)
  · have := heap_alloc_new ((w.alloc (.cells (rowN 16 (blk f)) 23)).alloc (.cells (rowN 4 (blk g)) 24)) (.cells z 29)
    rw [World.size_alloc, World.size_alloc] at this
    exact this
end SeSt
/-- What the rounds of the search keep; s are the scales. -/
structure RoSt (ty : TypeId) (V4 : World) (X : Nat → Int) (t : Nat) (room : Int) (n : Nat) (W : World) : Prop where
  no : ∀ j, j < n → ¬ stopN X t room j
  s : W.heap[V4.heap.size]? = some (.cells (rowN 4 (blk (sclN X n))) ty (0, 0))
  old : Old V4 W
theorem RoSt.next {ty : TypeId} {V4 W W' : World} {X : Nat → Int} {t n : Nat} {room : Int} (h : RoSt ty V4 X t room n W) (hs : ¬ stopN X t room n) (k : Old W W') (b : Nat) (hb : (bestOf X (sclN X n)).toNat = b) (hb4 : b < 4) :
    RoSt ty V4 X t room (n + 1) (W'.setCell ⟨V4.heap.size, b, none⟩ (.int .i64 (sclN X n b + 1))) := by
  refine ⟨fun j hj => ?_, ?_, (h.old.trans k).after (Kept.setCell (X := fun k => k < V4.heap.size) _ (a := ⟨V4.heap.size, b, none⟩) (by show ¬ V4.heap.size < V4.heap.size; omega) _) fun _ h => h⟩
  · by_cases e : j = n
    · subst e; exact hs
    · exact h.no j (by omega)
  · have e : blk (sclN X (n + 1)) = updN (blk (sclN X n)) b (.int .i64 (sclN X n b + 1)) := by
      rw [blk_upd]
      congr 1
      funext k
      show (if k = (bestOf X (sclN X n)).toNat then sclN X n k + 1 else sclN X n k) = _
      rw [hb]
      by_cases e : k = b
      · subst e; simp
      · rw [if_neg e, if_neg e]
    rw [e, ← rowN_set _ _ _ _ hb4]
    exact heap_setCell_same _ _ _ _ _ _ ((k.block _ (lt_of_block h.s)).trans h.s)
set_option maxHeartbeats 16000000 in
theorem Search_any (f g : Nat → Int) (room : Int) (tones : Bool) (w : World) (hf : Fits64 f) :
    Calls Try.prog 8 #[.agg (rowN 16 (blk f)), .agg (rowN 4 (blk g)), .int .i64 room, .bool tones] w fun e w' => ∃ n p cap, e = .returned (.tuple #[.agg (rowN 29 (frC (tolN g (sclN (restF2 f tones) n) (restF2 f tones)) (.slice p (tnN f tones) cap))), .int .i64 (n : Int)]) ∧ StopAt (restF2 f tones) (tnN f tones) room n ∧ tnN f tones ≤ 2 ∧ tnN f tones ≤ cap ∧ cap ≤ maxLen ∧ SlF 2 w' p (tnN f tones) (toneF f) ∧ (∀ q, (Value.slice p (tnN f tones) cap).ownBlock = some q → w.heap.size ≤ q) ∧ Old w w' := by
  have Hs4 : Hid ((Try.prog.info? 24).map (·.size) = some 4) := Lib.hid (by kernel_rfl)
  have HsC : Hid ((Try.prog.info? 51).map (·.size) = some 4) := Lib.hid (by kernel_rfl)
  have Hs16 : Hid ((Try.prog.info? 23).map (·.size) = some 16) := Lib.hid (by kernel_rfl)
  have Hs29 : Hid ((Try.prog.info? 29).map (·.size) = some 29) := Lib.hid (by kernel_rfl)
  obtain ⟨z, hz⟩ : ∃ z : Array Value, z = rowN 29 (frC (fun _ => 0) (.slice none 0 0)) := ⟨_, rfl⟩
  have hzs : z.size = 29 := by rw [hz, rowN_size]
  rw [frC_zero] at hz
  obtain ⟨W0, hW0⟩ : ∃ W0, W0 = (((w.alloc (.cells (rowN 16 (blk f)) 23)).alloc (.cells (rowN 4 (blk g)) 24)).alloc (.cells z 29)) := ⟨_, rfl⟩
  have h0 : SeSt w z f g W0 := by rw [hW0]; exact SeSt.start w z f g
  have H0 := Lib.hid h0
  have HF := Lib.hid (fun w => Find_any f hf w)
  have Hf := Lib.hid hf
  have Hzs := Lib.hid hzs
  have hX := restF2_fits hf tones
  obtain ⟨X, hXd⟩ : ∃ X, restF2 f tones = X := ⟨_, rfl⟩
  obtain ⟨t, htd⟩ : ∃ t, tnN f tones = t := ⟨_, rfl⟩
  have hOut0 : Hid (addTo (-1) f (toneF f) t = X) := by unfold Hid; rw [← htd]; exact hXd
  rw [hXd] at hX ⊢
  rw [htd]
  have Ht := Lib.hid htd
  have HX := Lib.hid hX
  clear h0 hf hzs hXd htd hX
  go_enter Try.func8, Try.ntmps8
  go_upto_if 18 with (fail)
  rw [← hz, ← hW0]
  clear hz hW0
  go_cut [10] (fun v wx => ∃ p cap, v = .slice p t cap ∧ t ≤ 2 ∧ t ≤ cap ∧ cap ≤ maxLen ∧ SlF 2 wx p t (toneF f) ∧ (∀ q, (Value.slice p t cap).ownBlock = some q → W0.heap.size ≤ q) ∧ Old W0 wx)
  case first =>
    cases tones
    · go_wp2_with fail
      go_meet
      have h0 : t = 0 := by rw [← Ht.out]; rfl
      rw [h0]
      exact ⟨none, 0, rfl, by omega, by omega, Nat.zero_le _, fun h => absurd h (by omega), fun q hq => (by cases hq), Old.refl _⟩
    · go_wp2_with (with_reducible refine wpList_load_row rfl 23 _ rfl w.heap.size rfl 23 (rowN 16 (blk f)) (0, 0) _ H0.out.b Try.underlying23 rfl (by rw [rowN_size]; exact Hs16.out) ?_)
      refine (HF.out _).mono ?_
      rintro e w1 ⟨v, rfl, hl, hown, ho⟩
      obtain ⟨p, cap, rfl, hnc, hcm, hsl⟩ := own2_slice hown
      have hq := fun q h => Nat.le_of_not_lt (hown.2 q h)
      clear hown
      go_wp2_with fail
      go_meet
      rw [show (findL f).length = t from Ht.out] at hl hnc hsl hq ⊢
      exact ⟨p, cap, rfl, hl, hnc, hcm, hsl, hq, ho⟩
  case rest =>
    obtain ⟨p, cap, rfl, t2, tc, cm, hsl, hq, ho⟩ := hcut
    have hrb := lt_of_block H0.out.r
    have Hq : Hid (∀ q, (Value.slice p t cap).ownBlock = some q → w.heap.size + 1 + 1 < q) := Lib.hid fun q h => Nat.lt_of_lt_of_le hrb (hq q h)
    clear hq hrb
    obtain ⟨V1, rfl⟩ : ∃ V, V = wc := ⟨_, rfl⟩
    have hOut := Out_any f p t cap (toneF f) V1 hsl (by omega)
    rw [hOut0.out] at hOut
    have H1 := Lib.hid (H0.out.keep ho)
    have HSl := Lib.hid hsl
    have HOut := Lib.hid hOut
    have HMk := Lib.hid (fun w => Mask_any X w HX.out)
    have Hcm := Lib.hid cm
    clear hOut hOut0 hsl ho H0 HF cm Ht
    go_wp2_with (with_reducible refine wpList_load_row rfl 23 _ rfl w.heap.size rfl 23 (rowN 16 (blk f)) (0, 0) _ H1.out.b Try.underlying23 rfl (by rw [rowN_size]; exact Hs16.out) ?_)
    refine HOut.out.mono ?_
    rintro e V2 ⟨rfl, o2⟩
    have H1X : Hid ((rowN 16 (blk X)).all (·.oneCell') = true) := Lib.hid (blk_one _ _)
    have HV2 : Hid (Old V1 (V2.alloc (.cells (rowN 16 (blk X)) 23))) := Lib.hid (o2.alloc' _)
    clear o2 HOut
    go_wp2_with (first | (with_reducible refine wpList_store_row rfl 23 _ _ rfl V2.heap.size (rowN 16 (blk X)) rfl rfl 23 _ (heap_alloc_new _ _) (by rw [rowN_size]; exact Hs16.out) (by rw [rowN_size]; kernel_rfl) H1X.out ?_; rw [World.setRow_alloc_new]) | (with_reducible refine wpList_load_row rfl 23 _ rfl V2.heap.size rfl 23 (rowN 16 (blk X)) (0, 0) _ (heap_alloc_new _ _) Try.underlying23 rfl (by rw [rowN_size]; exact Hs16.out) ?_))
    refine (HMk.out _).mono ?_
    rintro e V3 ⟨rfl, o3⟩
    have H1M : Hid ((rowN 4 (blk (maskI X))).all (·.oneCell') = true) := Lib.hid (blk_one _ _)
    have o3' := o3.alloc' (.cells (rowN 4 (blk (maskI X))) 24)
    have HXb := Lib.hid ((o3'.block _ (by simp)).trans (heap_alloc_new V2 (.cells (rowN 16 (blk X)) 23)))
    have HMb := Lib.hid (heap_alloc_new V3 (.cells (rowN 4 (blk (maskI X))) 24))
    have HO4 := Lib.hid (HV2.out.trans o3')
    clear o3 o3' HMk HV2
    go_wp2_with (with_reducible refine wpList_store_row rfl 24 _ _ rfl V3.heap.size (rowN 4 (blk (maskI X))) rfl rfl 24 _ (heap_alloc_new _ _) (by rw [rowN_size]; exact Hs4.out) (by rw [rowN_size]; kernel_rfl) H1M.out ?_; rw [World.setRow_alloc_new])
    rw [← row4_zero]
    obtain ⟨V4, hV4⟩ : ∃ V4, V4 = V3.alloc (.cells (rowN 4 (blk (maskI X))) 24) := ⟨_, rfl⟩
    obtain ⟨xb, hxb⟩ : ∃ xb, xb = V2.heap.size := ⟨_, rfl⟩
    obtain ⟨mb, hmb⟩ : ∃ mb, mb = V3.heap.size := ⟨_, rfl⟩
    rw [← hV4, ← hxb] at HXb
    rw [← hV4, ← hmb] at HMb
    rw [← hV4] at HO4
    rw [← hV4, ← hxb, ← hmb]
    have hsz : mb + 1 = V4.heap.size := by rw [hV4, hmb]; simp
    rw [hsz]
    clear hV4 hxb hmb hsz H1X H1M
    have HSe := Lib.hid (H1.out.keep HO4.out)
    have HSl4 := Lib.hid (HSl.out.old HO4.out)
    have HR0 : Hid (RoSt 51 V4 X t room 0 (V4.alloc (.cells (rowN 4 (blk fun _ => 0)) 51))) := Lib.hid ⟨fun j hj => by omega, heap_alloc_new _ _, Old.alloc _ _⟩
    clear H1 HO4 HSl Hf
    go_loopw [14] (fun i wr => ∃ n : Nat, i = .int .i64 (n : Int) ∧ n ≤ 92 ∧ Hid (RoSt 51 V4 X t room n wr)) (fun i _ => 92 - (intOf i).toNat)
    case atStart => exact ⟨0, rfl, by omega, HR0⟩
    case round =>
      obtain ⟨n, rfl, hn92, hr⟩ := hrel
      obtain ⟨wo, rfl⟩ : ∃ V, V = wr := ⟨_, rfl⟩
      clear HR0
      obtain ⟨hsb, hsum⟩ := scl_inv X t room n hr.out.no
      have HSB := Lib.hid hsb
      have HT := Lib.hid (fun w => Told_any X (sclN X n) w HX.out)
      have HXo := Lib.hid ((hr.out.old.block _ (lt_of_block HXb.out)).trans HXb.out)
      have HSo := Lib.hid hr.out.s
      clear hsb hsum
      go_wp2_with (first | (with_reducible refine wpList_load_row rfl 23 _ rfl xb rfl 23 (rowN 16 (blk X)) (0, 0) _ HXo.out Try.underlying23 rfl (by rw [rowN_size]; exact Hs16.out) ?_) | (with_reducible refine wpList_load_row rfl 51 _ rfl V4.heap.size rfl 51 (rowN 4 (blk (sclN X n))) (0, 0) _ HSo.out Try.underlying51 rfl (by rw [rowN_size]; exact HsC.out) ?_))
      refine (HT.out _).mono ?_
      rintro e W1 ⟨rfl, o1⟩
      obtain ⟨F0, hF0⟩ : ∃ F0, tolN (fun _ => 0) (sclN X n) X = F0 := ⟨_, rfl⟩
      obtain ⟨F, hF⟩ : ∃ F, tolN g (sclN X n) X = F := ⟨_, rfl⟩
      have hFF : ∀ k, k < 29 → k ≠ 4 → (if k < 4 then g k else F0 k) = F k := by rw [← hF0, ← hF]; exact tolN_gains g _ _
      have hFs : ∀ k, k < 4 → F (5 + k) = sclN X n k := by rw [← hF]; exact fun k hk => frN_s _ _ _ _ k hk
      have hFu : ∀ k, k < 4 → F (9 + k) = wideF (toldR stepI X (sclN X n)) k := by rw [← hF]; exact fun k hk => frN_u _ _ _ _ k hk
      rw [hF0]
      have H1F : Hid ((rowN 29 (frC F0 (.slice none 0 0))).all (·.oneCell') = true) := Lib.hid (frC_one _ _ rfl)
      obtain ⟨V5, hV5⟩ : ∃ V5, V5 = W1.alloc (.cells (rowN 29 (frC F0 (.slice none 0 0))) 29) := ⟨_, rfl⟩
      obtain ⟨fb, hfb⟩ : ∃ fb, fb = W1.heap.size := ⟨_, rfl⟩
      have o5 : Old wo V5 := by rw [hV5]; exact o1.alloc' _
      have hfr : FrB 29 V5 fb F0 (.slice none 0 0) := by rw [hV5, hfb]; exact FrB.new _ _ _
      have hge : wo.heap.size ≤ fb := by rw [hfb]; exact o1.size
      have hg5 := ((hr.out.old.trans o5).block _ (lt_of_block HSe.out.g)).trans HSe.out.g
      have HG5 := Lib.hid hg5
      have HTh := Lib.hid (hfr.there 0 4 (by omega))
      obtain ⟨V6, hV6⟩ : ∃ V6, V6 = V5.setCells fb 0 (rowL 4 g) := ⟨_, rfl⟩
      have hfr6 : FrB 29 V6 fb F (.slice none 0 0) := by rw [hV6]; exact (hfr.gains g).ext hFF
      have ho6 : Old wo V6 := by rw [hV6]; exact o5.after (Kept.setCells (X := fun k => k < wo.heap.size) _ (by show ¬ fb < wo.heap.size; omega) _ _) fun _ h => h
      have c61 := hfr6.cell4.1
      have c62 := hfr6.cell4.2
      have hfr7 : FrB 29 (V6.setCell ⟨fb, 4, none⟩ (.slice p t cap)) fb F (.slice p t cap) := hfr6.set4 _
      have ho7 : Old wo (V6.setCell ⟨fb, 4, none⟩ (.slice p t cap)) := ho6.after (Kept.setCell (X := fun k => k < wo.heap.size) _ (a := ⟨fb, 4, none⟩) (by show ¬ fb < wo.heap.size; omega) _) fun _ h => h
      have HM7 := Lib.hid (((hr.out.old.trans ho7).block _ (lt_of_block HMb.out)).trans HMb.out)
      have HF7 := Lib.hid hfr7
      have HO7 := Lib.hid ho7
      have HCo := Lib.hid (fun w => Coarser_any (maskI X) F p t cap w (fun k hk => by have := maskI_bd X k; omega) (fun k hk => by rw [hFs k hk]; exact HSB.out k hk) (fun k hk => by rw [hFu k hk]; have := wideF_bd (toldR stepI X (sclN X n)) k; omega))
      have hbe : bestTo (maskI X) (fun k => F (5 + k)) (fun k => F (9 + k)) 4 = bestOf X (sclN X n) := bestTo_congr (fun _ _ => rfl) hFs hFu 4 (by omega)
      rw [hbe] at HCo
      have hcost : costI F t = costN X t n := by
        unfold costI costN
        rw [sum_four, sum_four, hFu 0 (by omega), hFu 1 (by omega), hFu 2 (by omega), hFu 3 (by omega)]
      have HBi := Lib.hid (fun w => Bits_wide F p t cap w (fun k hk => by rw [hFu k hk]; have := wideF_bd (toldR stepI X (sclN X n)) k; omega) (by omega))
      rw [hcost] at HBi
      have HV5 := Lib.hid hV5
      have Hfb := Lib.hid hfb
      have HV6 := Lib.hid hV6
      have HFn := Lib.hid hF
      clear hF0 hF hFF hFs hFu o1 o5 hfr hg5 hV5 hfb hV6 hfr6 ho6 hfr7 ho7 hbe hcost HT HXo
      go_wp2_with (first | (with_reducible refine wpList_store_row rfl 29 _ _ rfl W1.heap.size (rowN 29 (frC F0 (.slice none 0 0))) rfl rfl 29 _ (heap_alloc_new _ _) (by rw [rowN_size]; exact Hs29.out) (by rw [rowN_size]; kernel_rfl) H1F.out ?_; rw [World.setRow_alloc_new, ← HV5.out, ← Hfb.out]) | (with_reducible refine wpList_load_row rfl 24 _ rfl (w.heap.size + 1) rfl 24 (rowN 4 (blk g)) (0, 0) _ HG5.out Try.underlying24 rfl (by rw [rowN_size]; exact Hs4.out) ?_) | (with_reducible refine wpList_store_blk rfl 4 g 24 _ _ rfl fb 0 rfl rfl HTh.out Hs4.out ?_; rw [← HV6.out]) | (with_reducible refine wpList_load_row rfl 24 _ rfl mb rfl 24 (rowN 4 (blk (maskI X))) (0, 0) _ HM7.out Try.underlying24 rfl (by rw [rowN_size]; exact Hs4.out) ?_) | (with_reducible refine wpList_load_row rfl 29 _ rfl fb rfl 29 (rowN 29 (frC F (.slice p t cap))) (0, 0) _ HF7.out.cells Try.underlying29 rfl (by rw [rowN_size]; exact Hs29.out) ?_))
      refine (HCo.out _).mono ?_
      rintro e W2 ⟨rfl, o2⟩
      have HF8 := Lib.hid (HF7.out.old o2)
      have HO8 := Lib.hid (HO7.out.trans o2)
      clear o2 HF7 HO7 HM7 HTh HG5 c61 c62 HV5 HV6 Hfb H1F HCo
      obtain ⟨b, hb⟩ : ∃ b, bestOf X (sclN X n) = b := ⟨_, rfl⟩
      have hbb := bestOf_bd X (sclN X n)
      rw [hb] at hbb ⊢
      have Hb := Lib.hid hb
      have H1r : Hid ((rowN 29 (frC F (.slice p t cap))).all (·.oneCell') = true) := Lib.hid (frC_one _ _ rfl)
      have HNo := Lib.hid hr.out.no
      clear hb
      have Hend : Hid (∀ W9, Old wo W9 → stopN X t room n → (W9.setRow (w.heap.size + 1 + 1) (rowN 29 (frC F (.slice p t cap)))).heap[w.heap.size + 1 + 1]? = some (.cells (rowN 29 (frC F (.slice p t cap))) 29 (0, 0)) ∧ StopAt X t room n ∧ t ≤ 2 ∧ t ≤ cap ∧ cap ≤ maxLen ∧ SlF 2 (W9.setRow (w.heap.size + 1 + 1) (rowN 29 (frC F (.slice p t cap)))) p t (toneF f) ∧ (∀ q, (Value.slice p t cap).ownBlock = some q → w.heap.size ≤ q) ∧ Old w (W9.setRow (w.heap.size + 1 + 1) (rowN 29 (frC F (.slice p t cap))))) := Lib.hid fun W9 k hs => by
        have hse := HSe.out.keep (hr.out.old.trans k)
        have hrr := row_ret hse.r hse.old (by omega) (rowN 29 (frC F (.slice p t cap)))
        refine ⟨hrr.1, ⟨hs, HNo.out⟩, t2, tc, Hcm.out, fun h0 => ?_, fun q h => by have := Hq.out q h; omega, hrr.2⟩
        obtain ⟨gg, oo, e1, e2, e3⟩ := HSl4.out h0
        have hne : gg ≠ w.heap.size + 1 + 1 := by have := Hq.out gg (by rw [e1]; rfl); omega
        refine ⟨gg, oo, e1, Nat.lt_of_lt_of_le e2 (Nat.le_trans (hr.out.old.trans k).size (by simp)), fun j hj => ?_⟩
        refine (World.cell?_of_block (setRow_other _ _ _ _ hne)).trans ?_
        exact (World.cell?_of_block ((hr.out.old.trans k).block gg e2)).trans (e3 j hj)
      by_cases hb0 : 0 ≤ b
      · obtain ⟨bn, hbn⟩ : ∃ bn : Nat, b.toNat = bn := ⟨_, rfl⟩
        have hbn4 : bn < 4 := by omega
        rw [decide_eq_true hb0, hbn]
        have Hbn : Hid ((bestOf X (sclN X n)).toNat = bn) := by unfold Hid; rw [Hb.out, hbn]
        have Hb0 := Lib.hid hb0
        clear hbn hb0 hbb
        go_wp2_with (with_reducible refine wpList_load_row_w (by kernel_rfl) 29 _ rfl fb rfl 29 (rowN 29 (frC F (.slice p t cap))) (0, 0) _ HF8.out.cells Try.underlying29 rfl (by rw [rowN_size]; exact Hs29.out) ?_)
        refine (HBi.out _).mono ?_
        rintro e W9 ⟨rfl, o9⟩
        have HF9 := Lib.hid (HF8.out.old o9)
        have HO9 := Lib.hid (HO8.out.trans o9)
        clear o9 HF8 HO8 HBi
        by_cases hc : costN X t n ≤ room
        · have hE := Hend.out W9 HO9.out (.inr hc)
          have HE := Lib.hid hE
          have Hr9 := Lib.hid (HSe.out.keep (hr.out.old.trans HO9.out)).r
          clear hE Hend
          generalize costN X t n = c at *
          go_wp2_with (first | (with_reducible refine wpList_load_row rfl 29 _ rfl fb rfl 29 (rowN 29 (frC F (.slice p t cap))) (0, 0) _ HF9.out.cells Try.underlying29 rfl (by rw [rowN_size]; exact Hs29.out) ?_) | (with_reducible refine wpList_store_row rfl 29 _ _ rfl (w.heap.size + 1 + 1) (rowN 29 (frC F (.slice p t cap))) rfl rfl 29 _ Hr9.out (by rw [rowN_size]; exact Hs29.out) (by rw [rowN_size]; exact Hzs.out) H1r.out ?_))
          exact bodyPost_ret (results_row_tmp2 rfl _ _ (w.heap.size + 1 + 1) 29 (rowN 29 (frC F (.slice p t cap))) (0, 0) _ rfl HE.out.1 Try.underlying29 rfl (by rw [rowN_size]; exact Hs29.out)) rfl ⟨n, p, cap, by rw [HFn.out]; rfl, HE.out.2⟩
        · have hns : ¬ stopN X t room n := fun h => by
            rcases h with h | h
            · rw [Hb.out] at h; have := Hb0.out; omega
            · exact hc h
          have hn1 := scl_le X t room (n + 1) fun j hj => by
            by_cases e : j = n
            · subst e; exact hns
            · exact hr.out.no j (by omega)
          have hnx := hr.out.next hns HO9.out bn Hbn.out hbn4
          have HNx := Lib.hid hnx
          obtain ⟨s0, s1⟩ := HSB.out bn hbn4
          have hsc := (HO9.out.block _ (lt_of_block hr.out.s)).trans hr.out.s
          have c1 := (cell_of_row _ _ _ _ _ _ hsc).trans (blk_at 4 (sclN X n) bn hbn4)
          have c2 : W9.frozen? ⟨V4.heap.size, bn, none⟩ = false := frozen_of_row _ _ _ _ _ hsc
          have b0 : (0 : Int) ≤ bn := by omega
          have b1 : (bn : Int) < 4 := by omega
          clear hns hnx hsc hr Hend
          generalize costN X t n = c at *
          generalize sclN X n bn = sc at *
          go_wp2_with fail
          go_roundw
          case rel => exact ⟨n + 1, by go_num, by omega, HNx⟩
          case measure => simp [intOf]; omega
      · rw [decide_eq_false hb0]
        have hE := Hend.out W2 HO8.out (.inl (by rw [Hb.out]; omega))
        have HE := Lib.hid hE
        have Hr9 := Lib.hid (HSe.out.keep (hr.out.old.trans HO8.out)).r
        clear hE Hend
        go_wp2_with (first | (with_reducible refine wpList_load_row rfl 29 _ rfl fb rfl 29 (rowN 29 (frC F (.slice p t cap))) (0, 0) _ HF8.out.cells Try.underlying29 rfl (by rw [rowN_size]; exact Hs29.out) ?_) | (with_reducible refine wpList_store_row rfl 29 _ _ rfl (w.heap.size + 1 + 1) (rowN 29 (frC F (.slice p t cap))) rfl rfl 29 _ Hr9.out (by rw [rowN_size]; exact Hs29.out) (by rw [rowN_size]; exact Hzs.out) H1r.out ?_))
        exact bodyPost_ret (results_row_tmp2 rfl _ _ (w.heap.size + 1 + 1) 29 (rowN 29 (frC F (.slice p t cap))) (0, 0) _ rfl HE.out.1 Try.underlying29 rfl (by rw [rowN_size]; exact Hs29.out)) rfl ⟨n, p, cap, by rw [HFn.out]; rfl, HE.out.2⟩
end Go.Proofs.Ytcepfbflgngmjaa
