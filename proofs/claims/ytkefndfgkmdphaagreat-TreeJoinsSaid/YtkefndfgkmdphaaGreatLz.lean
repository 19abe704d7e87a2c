import Derived.Test.YtkefndfgkmdphaaGreatFi
import Derived.Test.YtkefndfgkmdphaaGreatLx

namespace Go.Proofs.YtkefndfgkmdphaaGreat
set_option maxHeartbeats 6400000
set_option maxRecDepth 100000
open Go.RowKit Tnr Tnt

attribute [local go_sem] Oper.semAt_some

def evP (ks : List Int) (xs : List NV) : List Int := (ev ks 0 xs).map fun x => ((x.1 : Nat) : Int)
def plI (pre : List (Nat × NV)) : List Int := pre.map fun x => ((x.1 : Nat) : Int)
theorem plI_snoc (pre : List (Nat × NV)) (x : Nat × NV) : plI (pre ++ [x]) = plI pre ++ [((x.1 : Nat) : Int)] := by simp [plI]
theorem plI_snoc_map (pre : List (Nat × NV)) (x : Nat × NV) : List.map (Value.int .i64) (plI pre ++ [((x.1 : Nat) : Int)]) = List.map (Value.int .i64) (plI pre) ++ [Value.int .i64 ((x.1 : Nat) : Int)] := by simp
theorem ev_range (ks : List Int) : ∀ (xs : List NV) (k : Nat), ∀ x ∈ ev ks k xs, k ≤ x.1 ∧ x.1 < k + xs.length
 | [], _, x, h => by simp [ev] at h
 | y :: ys, k, x, h => by
  unfold ev at h
  split at h
  ·rcases List.mem_cons.1 h with rfl | h
   ·exact ⟨Nat.le_refl _, by simp⟩
   ·have := ev_range ks ys (k + 1) x h; simp only [List.length_cons]; omega
  ·have := ev_range ks ys (k + 1) x h; simp only [List.length_cons]; omega

theorem begun_any (p : Option Addr) (m c : Nat) (xs : List NV) (pf : Option Addr) (cf : Nat) (vd : Value) (fs : List Int) (kd : Int) (w : World) (hm : m = xs.length) (h1m : 1 ≤ m) (hld : m ≤ 1000000) (hL : SlN w p xs) (hfs : m = fs.length) (hF : SlZ w pf fs) :
  Calls Tryz.prog 175 #[.agg #[.slice p m c, .slice pf m cf, vd], .int .u8 kd] w fun e w' => ∃ r k cr, e = .returned (.slice r k cr) ∧ k = (evP [kd] xs).length ∧ OwnZ w' w.heap.size (.slice r k cr) (begL fs (evP [kd] xs)) ∧ Below w.heap.size w w' := by
 obtain ⟨i0, hinf, hz0, hz1, hz2⟩ := info_parts info_intz
 refine (callsIn_wide (n := 8)).1 ?_
 have hro : Fence.wide.round = none := rfl
 obtain ⟨b0, hb0⟩ : ∃ b, b = w.heap.size := ⟨_, rfl⟩
 obtain ⟨W3, hW3⟩ : ∃ W, W = ((w.alloc (.cells #[.slice p m c, .slice pf m cf, vd] 66)).alloc (.cells #[.slice none 0 0] 24)).alloc (.cells #[.int .u8 kd] 22) := ⟨_, rfl⟩
 have hB3 : Below w.heap.size w W3 := by rw [hW3]; exact bl_trans (bl_trans (bl_alloc _ _) (bl_alloc _ _)) (bl_alloc _ _)
 have bG : Boxed W3 (b0 + 1) 24 (.slice none 0 0) := by
  have h := (Bx.new (w.alloc (.cells #[.slice p m c, .slice pf m cf, vd] 66)) 24 #[.slice none 0 0]).below (bl_alloc _ (.cells #[.int .u8 kd] 22))
  rw [World.size_alloc, ← hb0] at h; rw [hW3]; exact h
 have hs3 : W3.heap.size = b0 + 1 + 1 + 1 := by rw [hW3, hb0]; simp
 have hU : SlU W3 (some ⟨b0 + 1 + 1, 0, none⟩) [kd] := by
  have h := slu_new ((w.alloc (.cells #[.slice p m c, .slice pf m cf, vd] 66)).alloc (.cells #[.slice none 0 0] 24)) [kd] 22 #[.int .u8 kd] rfl
  rw [World.size_alloc, World.size_alloc, ← hb0] at h; rw [hW3]; exact h
 have HW3 := lh hW3
 have HB3 := lh hB3
 have HS3 := lh hs3
 have HG3 := lh (And.intro bG hU)
 have HB0 := lh hb0
 have bT : Bx W3 b0 66 #[.slice p m c, .slice pf m cf, vd] := by rw [hW3, hb0]; exact (Bx.new w _ _).below (bl_trans (bl_alloc _ _) (bl_alloc _ _))
 have HTF := lh (And.intro bT (And.intro hF (And.intro hfs h1m)))
 have HL := lh hL
 have HM := lh (And.intro hm hld)
 clear hL hm hld hW3 hB3 hs3 bG hU hb0 bT hF hfs h1m
 refine callsIn_of_wp_marks Tryz.func175 rfl trivial ?_ hro
 simp only [Tryz.ntmps175, List.size_toArray, List.length_cons, List.length_nil, Nat.reduceAdd, Nat.reduceSub, Array.replicate_succ, Array.replicate_zero, List.push_toArray, List.append_toArray, List.nil_append, List.cons_append]
 gi_wp2_with ((refine ⟨trivial, ?_⟩; gi_at_call 67; refine (callsIn_wide.2 (each_any _ _ _ _ _ _ _)).mono ?_; rintro e w' ⟨rfl, rfl⟩))
 rw [← HW3.out, ← HB0.out]
 obtain ⟨W5, hW5⟩ : ∃ W, W = (W3.alloc (.cells #[.slice p m c] 60)).alloc (.cells #[.slice (some ⟨b0 + 1 + 1, 0, none⟩) 1 1] 154) := ⟨_, rfl⟩
 rw [← hW5]
 have hb35 : Below W3.heap.size W3 W5 := by rw [hW5]; exact bl_trans (bl_alloc _ _) (bl_alloc _ _)
 have bS : Bx W5 (b0 + 1 + 1 + 1) 60 #[.slice p m c] := by rw [hW5, ← HS3.out]; exact (Bx.new W3 _ _).below (bl_alloc _ _)
 have bK : Bx W5 (b0 + 1 + 1 + 1 + 1) 154 #[.slice (some ⟨b0 + 1 + 1, 0, none⟩) 1 1] := by
  have h := Bx.new (W3.alloc (.cells #[.slice p m c] 60)) 154 #[.slice (some ⟨b0 + 1 + 1, 0, none⟩) 1 1]
  rw [World.size_alloc, HS3.out] at h; rw [hW5]; exact h
 have hB5 : Below w.heap.size w W5 := bl_trans HB3.out hb35
 have hst := each_stops (8 - 1) (b0 + 1 + 1 + 1) (b0 + 1 + 1 + 1 + 1) p m c xs (some ⟨b0 + 1 + 1, 0, none⟩) 1 1 [kd] HM.out.1 HM.out.2 rfl (by omega) (by omega) W5 bS bK (HL.out.below hB5) (HG3.out.2.below hb35)
 have bG5 : Boxed W5 (b0 + 1) 24 (.slice none 0 0) := (show Bx W3 (b0 + 1) _ #[_] from HG3.out.1).below hb35
 have HG5 := lh bG5
 have HS5 : Hid (W5.heap.size = b0 + 1 + 1 + 1 + 1 + 1) := by show _ = _; rw [hW5, World.size_alloc, World.size_alloc, HS3.out]
 have HB5 := lh hB5
 have HBK := lh bK
 have hlen := ev_length [kd] xs 0
 have HML : Hid ((ev [kd] 0 xs).length ≤ 1000000) := by show _ ≤ _; have := HM.out.1; have := HM.out.2; omega
 have HT5 : Hid (Bx W5 b0 66 #[.slice p m c, .slice pf m cf, vd]) := HTF.out.1.below hb35
 clear hW5 hb35 bS bK hB5 bG5 hlen
 refine wpIn_rangeFunc_ownH hro (by omega) (gf := 117) (lb := #[.pointer (some ⟨b0 + 1 + 1 + 1, 0, none⟩), .pointer (some ⟨b0 + 1 + 1 + 1 + 1, 0, none⟩)]) rfl trivial (enters_of Tryz.func117 (by kernel_rfl) rfl)
  hst (fun h k => h.trans k) kpn_b (Below.refl _ _) (fun _ => rfl)
  (fun pre W => (∃ r cr, Boxed W (b0 + 1) 24 (.slice r pre.length cr) ∧ OwnZ W (b0 + 1 + 1 + 1 + 1 + 1) (.slice r pre.length cr) (plI pre)) ∧ Bx W (b0 + 1 + 1 + 1 + 1) 154 #[.slice (some ⟨b0 + 1 + 1, 0, none⟩) 1 1] ∧ Bx W b0 66 #[.slice p m c, .slice pf m cf, vd] ∧ Below w.heap.size w W)
  (fun _ _ _ => False)
  (OwnFrom.and (Own.from (fun pre X Y row hs hg hr => by
   obtain ⟨r, cr, h1, h2⟩ := hs
   refine ⟨r, cr, bx_own _ _ (fun (_ : Unit) => #[Value.slice r pre.length cr]) () X Y row h1 hg hr, World.ownsRow.kept h2 hg ?_⟩
   rcases h2.2 with ⟨e, _⟩ | ⟨g, cap, cur, e, _, hh, _⟩
   ·rw [e]; exact .inl rfl
   ·refine .inr fun e2 => ?_
    rw [e] at e2
    simp only [Value.ownBlock] at e2
    obtain ⟨o, ho, hc⟩ := hr g e2.symm
    rw [hh] at ho; cases ho; cases hc) _) (OwnFrom.and (Own.from (bx_own _ _ (fun _ => #[.slice (some ⟨b0 + 1 + 1, 0, none⟩) 1 1])) _) (OwnFrom.and (Own.from (bx_own _ _ (fun _ => #[.slice p m c, .slice pf m cf, vd])) _) (ownFrom_below (Nat.le_refl _) (by have := HS5.out; have := HB0.out; omega)))))
  (fun _ _ _ _ _ hs _ _ => hs)
  ⟨⟨none, 0, HG5.out, ownZ_nil _ _⟩, HBK.out, HT5.out, HB5.out⟩
  (fun x a' _ => a' = { tmps := #[.agg #[.slice p m c, .slice pf m cf, vd], .int .u8 kd, .pointer (some ⟨b0, 0, none⟩), undef, .slice none 0 0, .pointer (some ⟨b0 + 1, 0, none⟩), .int .i64 (x.1 : Nat), .pointer (some ⟨b0, 0, none⟩), .slice p m c, .int .u8 kd, .slice (some ⟨b0 + 1 + 1, 0, none⟩) 1 1, .func (.func 117) #[] #[.pointer (some ⟨b0 + 1 + 1 + 1, 0, none⟩), .pointer (some ⟨b0 + 1 + 1 + 1 + 1, 0, none⟩)], .int .i64 (x.1 : Nat), .agg (encN x.2).toArray, undef, undef, undef, undef, undef, undef, undef, undef], defers := [] })
  (fun x a' _ X Y row hs hg hr => hs)
  ?assign ?body ?done ?stop
 case assign =>
  rintro l pre x W K ⟨⟨r, cr, hG1, hO1⟩, hK1, hT1, hB1⟩ hK
  have HAS := lh (hK _ W ⟨Nat.le_refl _, fun _ _ _ h _ => h⟩ ⟨fun h => h, fun h => h, fun _ _ _ _ h => h⟩ ⟨⟨r, cr, hG1, hO1⟩, hK1, hT1, hB1⟩ rfl)
  clear hK hG1 hO1 hK1 hT1 hB1
  gi_wp2
  exact HAS.out
 case body =>
  rintro l pre x a' W hl ⟨lp, hr⟩ ⟨⟨r, cr, hG1, hO1⟩, hK1, hT1, hB1⟩ rfl hlt
  have cG := hG1.cell
  have hlg : pre.length = (plI pre).length := by simp [plI]
  have hrow := ownZ_row hO1 hlg
  have HROW := lh hrow
  have HGX := lh hG1
  have HWS := lh (show b0 + 1 + 1 + 1 + 1 + 1 ≤ W.heap.size by have := hK1.lt; omega)
  have HLT := lh hlt
  have HKB := lh (And.intro hK1 hB1)
  have HKT := lh hT1
  have HLG := lh hlg
  clear hr hT1 hG1 hO1 hK1 hB1 hlt hrow hlg
  gi_wp2_with (gi_at_builtin; refine wpListIn_append_own _ rfl _ _ 24 rfl (b0 + 1 + 1 + 1 + 1 + 1) 3 i0 (.int .i64 0) 1 8 Tryz.underlying24 hinf hz0 hz1 hz2 rfl (by decide) (.slice r pre.length cr) pre.length _ rfl (HROW.out.alloc _) ⟨W.heap.size, 0, none⟩ 1 1 [.int .i64 (x.1 : Nat)] rfl rfl (cells_one_z _ _ _) (by simp [Value.oneCell']) (by have := HML.out; have := HLT.out; simp only [maxLen]; omega) (by have := HML.out; have := HLT.out; omega) (by have := HWS.out; simp; omega) ?_; intro v' w1 hown' hgrow _; obtain ⟨g', cap', rfl⟩ := ownsRow_succ hown'; obtain ⟨hv1, hv2, hr2, hk2, hb2, hs2⟩ := boxed_app (n₀ := b0) HGX.out (by decide) HROW.out (by omega) HWS.out (by omega) hown' hgrow; have hc1 := hv1.cell; have hf1 := hv1.frozen; have HV1 := lh hv1; have HV2 := lh hv2; have HR2 := lh hr2; have HK2 := lh hk2; have HB2 := lh hb2; have HSM := lh hs2; clear hv1 hv2 hr2 hk2 hb2 hs2 hown' hgrow)
  have hbk : Bx (w1.setCell ⟨b0 + 1, 0, none⟩ (Value.slice (some ⟨g', 0, none⟩) (pre.length + 1) cap')) (b0 + 1 + 1 + 1 + 1) 154 #[.slice (some ⟨b0 + 1 + 1, 0, none⟩) 1 1] := (HSM.out _ (by omega) (by omega)).trans HKB.out.1
  have hbw := HKB.out.2.trans (HB2.out.mono (Nat.le_of_eq HB0.out.symm))
  refine ⟨HK2.out.from _, ⟨fun _ => HL.out.below hbw, fun h => h.same (HSM.out _ (by omega) (by omega)), fun b T cs hb h => (HSM.out b (by rcases hb with rfl | rfl <;> omega) (by rcases hb with rfl | rfl <;> omega)).trans h⟩, ⟨some ⟨g', 0, none⟩, cap', ?_, ?_⟩, hbk, (HSM.out _ (by omega) (by omega)).trans HKT.out, hbw⟩
  ·rw [List.length_append]; exact HV2.out
  ·have h := HR2.out
   rw [← plI_snoc_map] at h
   rw [List.length_append]
   unfold OwnZ
   rw [plI_snoc]
   rw [show (plI pre ++ [((x.1 : Nat) : Int)]).length = pre.length + 1 by rw [List.length_append, ← HLG.out]; rfl]
   exact h
 case done =>
  rintro D ys W hD rfl ⟨⟨r, cr, hG1, hO1⟩, hK1, hT1, hB1⟩ hK
  obtain ⟨n, hn⟩ : ∃ n, n = (ev [kd] 0 xs).length := ⟨_, rfl⟩
  have hgn : n = (plI (ev [kd] 0 xs)).length := by rw [hn]; simp [plI]
  have hn1 : n ≤ 1000000 := by have := HML.out; omega
  rw [← hn] at hG1 hO1
  obtain ⟨k, hk⟩ : ∃ k, m = k + 1 := ⟨m - 1, by have := HTF.out.2.2.2; omega⟩
  have hrange : ∀ p ∈ plI (ev [kd] 0 xs), 0 ≤ p ∧ p ≤ (k : Int) := by
   intro p hp
   obtain ⟨x, hx, rfl⟩ := List.mem_map.1 hp
   have := ev_range [kd] xs 0 x hx
   have := HM.out.1
   omega
  have hF := HTF.out.2.1
  have hfl := HTF.out.2.2.1
  have h1k : (#[Value.slice p m c, .slice pf m cf, vd] : Array Value)[1]? = some (.slice pf (k + 1) cf) := by rw [← hk]; rfl
  have HSO := lh (sortOwn_any fs (plI (ev [kd] 0 xs)) b0 k n _ pf cf (b0 + 1 + 1 + 1 + 1 + 1) r cr W hT1 h1k (by rw [← hk]; exact hfl) (hF.below hB1) (by have := HM.out.2; omega) hrange hgn hn1
   (fun b o e => by
    rcases hF with h0 | ⟨b', o', h2, h3⟩
    ·rw [h0] at hfl; simp at hfl; omega
    ·rw [e] at h2; cases h2
     have := World.block_lt_of_cell? w _ (h3 0 (by rw [← hfl]; omega))
     have h4 : b < w.heap.size := this
     have := HB0.out
     omega) hO1)
  have HR := lh hO1
  have HX := lh (And.intro hB1 hK)
  have HBG := lh hG1
  have cG := hG1.cell
  have HD := lh hD
  have HN := lh hgn
  clear hK1 hG1 hO1 hB1 hK hD hgn hn hT1 hrange hF hfl h1k hk
  gi_wp2_with ((refine ⟨trivial, ?_⟩; gi_at_call 212; refine (callsIn_wide.2 HSO.out).mono ?_; rintro e w5 ⟨rfl, hOw, hgr⟩; have hbx5 : Bx w5 (b0 + 1) 24 #[.slice r n cr] := Bx.kept HBG.out hgr (fun e => row_ne HR.out (show W.heap[b0 + 1]? = _ from HBG.out) (by decide) e.symm); have c5 : w5.cell? ⟨b0 + 1, 0, none⟩ = some (.slice r n cr) := hbx5.cell rfl; have HOW := lh hOw; have HGR := lh hgr; clear hOw hgr hbx5))
  have hKq : w5.heap[D]? = some (.deferred (some [])) := by
   refine (HGR.out.block D (lt_of_block HX.out.2) (fun e => ?_)).trans HX.out.2
   rcases HR.out.2 with ⟨e1, _⟩ | ⟨g, cap, cur, e1, _, hh, _⟩
   ·rw [e1] at e; simp [Value.ownBlock] at e
   ·rw [e1] at e
    simp only [Value.ownBlock, Option.some.injEq] at e
    rw [← e, HX.out.2] at hh
    cases hh
  refine ⟨by simp, .inl ⟨_, _, rfl, run_takeDeferred hKq, ?_⟩⟩
  have hB6 : Below w.heap.size w w5 := HX.out.1.grown HGR.out HX.out.1.size (fun j ej => by
   have := (World.ownsRow.lt HR.out j ej).1
   have := HB0.out
   omega)
  refine ⟨_, by simp [results, Tryz.f175], r, n, cr, rfl, ?_, ?_, hB6.trans (belowK_b (w := w) (Nat.le_refl _) _ D _ _ (by have := HS5.out; have := HB0.out; have := HD.out; omega) hKq rfl rfl)⟩
  ·exact HN.out
  ·exact ownZ_down (ownsRow_putObj HOW.out (.deferred none) hKq rfl) (by have := HB0.out; omega)
 case stop =>
  rintro D c' pre W _ _ h _
  exact h.elim
end Go.Proofs.YtkefndfgkmdphaaGreat


namespace Go.Proofs.YtkefndfgkmdphaaGreat
set_option maxHeartbeats 1600000
set_option maxRecDepth 100000
open Go.RowKit Tnr Tnt

def countOk (xs : List NV) (ps : List Int) : Bool := (List.range ps.length).all fun i => (gn xs (gz ps i).toNat).nd.group == (i : Int) + 1
def begG (xs : List NV) (fs : List Int) : List Int := begL fs (evP [5] xs)
def countB (xs : List NV) (fs : List Int) (nm : Nat) : Bool := countOk xs (begG xs fs) && (begG xs fs).length == nm
theorem countOk_of {xs : List NV} {ps : List Int} (h : ∀ i, i < ps.length → (gn xs (gz ps i).toNat).nd.group = (i : Int) + 1) : countOk xs ps = true := by
 unfold countOk; rw [List.all_eq_true]; intro i hi; simpa using h i (List.mem_range.1 hi)
theorem countOk_bad {xs : List NV} {ps : List Int} {i : Nat} (hi : i < ps.length) (h : (gn xs (gz ps i).toNat).nd.group ≠ (i : Int) + 1) : countOk xs ps = false := by
 unfold countOk; rw [List.all_eq_false]; exact ⟨i, List.mem_range.2 hi, by simpa using h⟩
theorem begG_in {xs : List NV} {fs : List Int} {i : Nat} (hi : i < (begG xs fs).length) : 0 ≤ gz (begG xs fs) i ∧ gz (begG xs fs) i < xs.length := by
 rw [gz_get hi]
 have h := (begL_perm fs (evP [5] xs)).subset (List.getElem_mem (l := begG xs fs) hi)
 obtain ⟨x, hx, e⟩ := List.mem_map.1 h
 have := ev_range [5] xs 0 x hx
 rw [← e]; omega
theorem counted_any (p : Option Addr) (m c : Nat) (xs : List NV) (pf pd : Option Addr) (cf cd nm : Nat) (fs : List Int) (w : World) (hm : m = xs.length) (h1m : 1 ≤ m) (hld : m ≤ 1000000) (hL : SlN w p xs) (hfs : m = fs.length) (hF : SlZ w pf fs) :
  Calls Tryz.prog 123 #[.agg #[.slice p m c, .slice pf m cf, .slice pd m cd], .int .i64 (nm : Nat)] w fun e w' => e = .returned (.bool (countB xs fs nm)) ∧ Below w.heap.size w w' := by
 have hb1 := bl_alloc w (.cells #[.slice p m c, .slice pf m cf, .slice pd m cd] 66)
 have HBG := lh (begun_any p m c xs pf cf (.slice pd m cd) fs 5 (w.alloc (.cells #[.slice p m c, .slice pf m cf, .slice pd m cd] 66)) hm h1m hld (hL.below hb1) hfs (hF.below hb1))
 have HT := lh (Bx.new w 66 #[.slice p m c, .slice pf m cf, .slice pd m cd])
 have HB1 := lh hb1
 have HL := lh (hL.below hb1)
 have HM := lh (And.intro hm hld)
 have hmI : (m : Int) ≤ 1000000 := by omega
 clear hm hld hL hfs hF h1m hb1
 go_enter Tryz.func123, Tryz.ntmps123
 go_wp2_with (go_at_call 175; refine (HBG.out).mono ?_; rintro e w5 ⟨r, n, cr, rfl, hn, hO, hb5⟩; have hT5 := HT.out.below hb5; have cT := hT5.cell (i := 0) (v := .slice p m c) rfl; have HO := lh hO; have HN := lh hn; have HB5 := lh hb5; have HL5 := lh (HL.out.below hb5); clear hn hO hb5 hT5)
 have hlen : n = (begG xs fs).length := by rw [HN.out]; exact ((begL_perm fs (evP [5] xs)).length_eq).symm
 have HLN := lh hlen
 have hnI : (n : Int) ≤ 1000000 := by have := HN.out; have := ev_length [5] xs 0; have := HM.out; unfold evP at *; simp only [List.length_map] at *; omega
 clear hlen
 go_loopw [12] (fun iv wr => ∃ k : Nat, k ≤ n ∧ iv = .int .i64 (k : Nat) ∧ Hid (∀ j, j < k → (gn xs (gz (begG xs fs) j).toNat).nd.group = (j : Int) + 1) ∧ wr = w5) (fun iv _ => n - (intOf iv).toNat)
 case atStart => exact ⟨0, Nat.zero_le _, rfl, fun j hj => absurd hj (by omega), rfl⟩
 case round =>
  obtain ⟨k, hk, rfl, HE, rfl⟩ := hrel
  by_cases hkn : k < n
  ·have hkI : (k : Int) < n := by omega
   obtain ⟨g, rfl, _, cg, _, _⟩ := ownZ_at HO.out HLN.out hkn
   obtain ⟨ai, hai⟩ : ∃ z, z = gz (begG xs fs) k := ⟨_, rfl⟩
   have hin := begG_in (xs := xs) (fs := fs) (i := k) (by rw [← HLN.out]; exact hkn)
   rw [← hai] at hin
   obtain ⟨a, ha⟩ : ∃ a : Nat, ai = (a : Int) := ⟨ai.toNat, by omega⟩
   have hax : a < xs.length := by omega
   have haI : (a : Int) < m := by have := HM.out.1; omega
   have cg' : wr.cell? ⟨g, k, none⟩ = some (.int .i64 (a : Nat)) := by rw [cg]; show some (Value.int .i64 (gz (begG xs fs) k)) = _; rw [← hai, ha]
   obtain ⟨b, o, rfl, hcells, _⟩ := HL5.out.at hax
   have c3 := hcells.2.2.2.1
   obtain ⟨gr, hgr⟩ : ∃ z, z = (gn xs a).nd.group := ⟨_, rfl⟩
   rw [← hgr] at c3
   have hta : (gz (begG xs fs) k).toNat = a := by rw [← hai, ha]; simp
   have HGR : Hid (gr = (gn xs (gz (begG xs fs) k).toNat).nd.group) := by show _ = _; rw [hta]; exact hgr
   have hwr : IntKind.i64.wrap ((k : Nat) + 1 : Int) = (k : Nat) + 1 := by rw [IntKind.wrap_i64]; omega
   clear cg hai hin ha hcells hgr hta hax
   by_cases hgk : gr = (k : Int) + 1
   ·have e1 : (gr != (k : Int) + 1) = false := by simpa using hgk
    have HX := lh hgk
    clear hgk
    go_wp2
    go_roundw
    case rel =>
     refine ⟨k + 1, by omega, by go_num, fun j hj => ?_, by first | rfl | trivial⟩
     by_cases hjk : j < k
     ·exact HE.out j hjk
     ·obtain rfl : j = k := by omega
      rw [← HGR.out]; exact HX.out
    case measure => simp [intOf]; omega
   ·have e1 : (gr != (k : Int) + 1) = true := by simpa using hgk
    have HX := lh hgk
    clear hgk
    go_wp2
    go_ret
    refine ⟨?_, HB1.out.trans (HB5.out.mono (HB1.out.size))⟩
    unfold countB
    rw [countOk_bad (i := k) (by rw [← HLN.out]; exact hkn) (by rw [← HGR.out]; exact HX.out)]
    rfl
  ·have hkI : (n : Int) ≤ k := by omega
   have HT2 : Hid (countOk xs (begG xs fs) = true) := countOk_of fun i hi => HE.out i (by rw [← HLN.out] at hi; omega)
   by_cases hnn : n = nm
   ·have e2 : ((n : Int) == (nm : Nat)) = true := by simp [hnn]
    have HX := lh hnn
    clear hnn
    go_wp2
    go_ret
    refine ⟨?_, HB1.out.trans (HB5.out.mono (HB1.out.size))⟩
    unfold countB
    rw [HT2.out, show ((begG xs fs).length == nm) = true by rw [← HLN.out, HX.out]; simp]
    rfl
   ·have e2 : ((n : Int) == (nm : Nat)) = false := by simp; omega
    have HX := lh hnn
    clear hnn
    go_wp2
    go_ret
    refine ⟨?_, HB1.out.trans (HB5.out.mono (HB1.out.size))⟩
    unfold countB
    rw [HT2.out, show ((begG xs fs).length == nm) = false by rw [← HLN.out]; simpa using HX.out]
    rfl
end Go.Proofs.YtkefndfgkmdphaaGreat

