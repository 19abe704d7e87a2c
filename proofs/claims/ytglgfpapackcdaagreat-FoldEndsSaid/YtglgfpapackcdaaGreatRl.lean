/- The walk of others: what a set has not. -/
/- The walks of Many, Least, slices.AppendSeq, slices.Collect. -/
/- The walks of slices.AppendSeq, slices.Collect, Join, Not, Meet. -/
import Derived.Test.YtglgfpapackcdaaGreatRh

namespace Go.Proofs.YtglgfpapackcdaaGreat
open Go.RowKit Tnr

attribute [local go_sem] Oper.semAt_some

theorem boxR_own {β : Type} (b B : Nat) (T : TypeId) (f : β → List R) : Own (fun s W => BoxR W b B T (f s)) := by
  rintro s X Y row ⟨p, c, h1, h2⟩ hg hrow
  refine ⟨p, c, h1.kept hg (fun e => ?_), World.ownsRow.kept h2 hg ?_⟩
  · obtain ⟨o, ho, hc⟩ := hrow b e.symm
    rw [show X.heap[b]? = _ from h1] at ho; cases ho; cases hc
  · rcases h2.2 with ⟨e, _⟩ | ⟨g, cap, cur, e, _, hh, _⟩
    · rw [e]; exact .inl rfl
    · refine .inr fun e2 => ?_
      rw [e] at e2
      simp only [Value.ownBlock] at e2
      obtain ⟨o, ho, hc⟩ := hrow g e2.symm
      rw [hh] at ho; cases ho; cases hc
def LoopVar (W : World) (b : Nat) (T : TypeId) (Bx : Nat) (x : R) : Prop :=
  W.heap[Bx]? = some (.cells #[.int .i64 x.1, .int .i64 x.2] 24 (0, 0)) ∧ ∃ p n c, Boxed W b T (.slice p n c) ∧ (Value.slice p n c).ownBlock ≠ some Bx
theorem loopVar_from {W W' : World} {b : Nat} {T : TypeId} {Bx : Nat} {x : R} {row : Option Nat} (h : LoopVar W b T Bx x) (hg : W.grownBy W' row) (hr : ∀ r, row = some r → ∃ o : Obj, W.heap[r]? = some o ∧ o.isCells = false) : LoopVar W' b T Bx x := by
  obtain ⟨h1, p, n, c, h2, h3⟩ := h
  refine ⟨(hg.block Bx (lt_of_block h1) fun e => ?_).trans h1, p, n, c, h2.kept hg fun e => ?_, h3⟩
  · obtain ⟨o, ho, hc⟩ := hr Bx e.symm
    rw [h1] at ho; cases ho; cases hc
  · obtain ⟨o, ho, hc⟩ := hr b e.symm
    rw [show W.heap[b]? = _ from h2] at ho; cases ho; cases hc
theorem boxR_fresh {W : World} {b B : Nat} {T : TypeId} {l : List R} (h : BoxR W b B T l) (x : R) : LoopVar (W.alloc (.cells #[.int .i64 x.1, .int .i64 x.2] 24)) b T W.heap.size x := by
  obtain ⟨p, c, h1, h2⟩ := h
  refine ⟨heap_alloc_new W _, p, _, c, h1.alloc _, fun e => ?_⟩
  have := (h2.lt _ e).2
  omega

end Go.Proofs.YtglgfpapackcdaaGreat


namespace Go.Proofs.YtglgfpapackcdaaGreat
open Go.RowKit Tnr

attribute [local go_sem] Oper.semAt_some

def svV (x : SV) : Value := .slice x.1 x.2.2.length x.2.1
theorem sls_new {w : World} {xs : List SV} {cs : Array Value} {T : TypeId} (h : ∀ x ∈ xs, SlR w x.1 x.2.2) (hcs : cs = (xs.map svV).toArray) : SlS (w.alloc (.cells cs T)) (some ⟨w.heap.size, 0, none⟩) xs := by
  refine ⟨fun x hx => (h x hx).below (bl_alloc _ _), .inr ⟨w.heap.size, 0, rfl, fun i hi => ?_⟩⟩
  rw [Nat.zero_add, World.cell?_alloc_at _ _ _ _ rfl, hcs, gs_get hi]
  simp [svV, hi]
theorem flat_one (p : Option Addr) (c : Nat) (l : List R) : flat [(p, c, l)] = l := by simp [flat]

end Go.Proofs.YtglgfpapackcdaaGreat


namespace Go.Proofs.YtglgfpapackcdaaGreat
open Go.RowKit Tnr

attribute [local go_sem] Oper.semAt_some

set_option maxHeartbeats 1600000 in
set_option maxRecDepth 100000 in
theorem append_any (Bs : Nat) (q : Option Addr) (cq : Nat) (d : List R) (w : World) (hin : In d) (hld : d.length ≤ 100000000) (hbx : Boxed w Bs 134 (.slice q d.length cq)) (hq : SlR w q d) :
    Calls Tryz.prog 120 #[.slice none 0 0, .func (.func 123) #[] #[.pointer (some ⟨Bs, 0, none⟩)]] w fun e W' => ∃ p c, e = .returned (.slice p (merge d).length c) ∧ OwnR W' w.heap.size (.slice p (merge d).length c) (merge d) ∧ Below w.heap.size w W' := by
  refine (callsIn_wide (n := 8)).1 ?_
  have hro : Fence.wide.round = none := rfl
  obtain ⟨i0, hinf, hz0, hz1, hz2⟩ := info_parts info_range
  have HML := Lib.hid (Nat.le_trans (merge_length d) hld)
  have hst := fun (W0 : World) (h3 : Below w.heap.size w W0) => all_stops (8 - 1) Bs q cq d hin (by omega) (by omega) W0 ((h3.block Bs hbx.lt).trans hbx) (hq.below h3)
  have HST := Lib.hid hst
  have HQ := Lib.hid hq
  have HBX := Lib.hid hbx
  have hbl := hbx.lt
  obtain ⟨md, hmd⟩ : ∃ md, md = d.length := ⟨_, rfl⟩
  rw [← hmd] at HBX
  clear hst hin hld hbx hq hmd
  refine callsIn_of_wp_marks Tryz.func120 rfl trivial ?_ hro
  simp only [Tryz.ntmps120, List.size_toArray, List.length_cons, List.length_nil, Nat.reduceAdd, Nat.reduceSub, Array.replicate_succ, Array.replicate_zero, List.push_toArray, List.append_toArray, List.nil_append, List.cons_append]
  gi_wp2
  have bO := Boxed.new w 25 (.slice none 0 0)
  have bS := HBX.out.alloc (.cells #[.slice none 0 0] 25)
  have hB0 : Below w.heap.size w (w.alloc (.cells #[.slice none 0 0] 25)) := bl_alloc _ _
  obtain ⟨B, hB⟩ : ∃ B, B = w.heap.size := ⟨_, rfl⟩
  rw [← hB] at bO hbl ⊢
  have hsz : (w.alloc (.cells #[.slice none 0 0] 25)).heap.size = B + 1 := by rw [hB]; simp
  obtain ⟨W0, hW0⟩ : ∃ W0, w.alloc (.cells #[.slice none 0 0] 25) = W0 := ⟨_, rfl⟩
  rw [hW0] at bO bS hB0 hsz ⊢
  clear hW0
  refine wpIn_rangeFunc_ownH hro (by omega) (gf := 123) (lb := #[.pointer (some ⟨Bs, 0, none⟩)]) rfl trivial (enters_of Tryz.func123 (by kernel_rfl) rfl)
    (HST.out W0 hB0) (fun h k => h.trans k) kpb_b (Below.refl _ _) (fun _ => rfl)
    (fun pre W => BoxR W B B 25 pre ∧ Boxed W Bs 134 (.slice q md cq) ∧ Below w.heap.size w W)
    (fun _ _ _ => False)
    (OwnFrom.and (Own.from (boxR_own _ _ _ _) _) (OwnFrom.and (Own.from (boxed_own _ _ _) _) (ownFrom_below (Nat.le_refl _) (by omega))))
    (fun _ _ _ _ _ hs _ _ => hs)
    ⟨⟨none, 0, bO, ownR_nil _ _⟩, bS, hB0⟩
    (fun x a' W => ∃ Bx, B < Bx ∧ LoopVar W B 25 Bx x ∧ a' = { tmps := #[.slice none 0 0, .func (.func 123) #[] #[.pointer (some ⟨Bs, 0, none⟩)], .pointer (some ⟨B, 0, none⟩), undef, .slice none 0 0, .pointer (some ⟨Bx, 0, none⟩), .func (.func 123) #[] #[.pointer (some ⟨Bs, 0, none⟩)], .agg #[.int .i64 x.1, .int .i64 x.2], undef, undef, undef, undef, undef], defers := [] })
    (fun x a' _ X Y row hs hg hr => by obtain ⟨Bx, h1, h2, h3⟩ := hs; exact ⟨Bx, h1, loopVar_from h2 hg (fun r e => (hr r e).2), h3⟩)
    ?assign ?body ?done ?stop
  case assign =>
    rintro l pre x W K ⟨hL1, hS1, hB1⟩ hK
    have hlt : B < W.heap.size := by obtain ⟨_, _, h, _⟩ := hL1; exact h.lt
    clear hB
    gi_wp2
    exact hK _ _ ((KeepsOthers.alloc _ _).from _) ⟨fun h => h.below (bl_alloc _ _), fun v hv => hv.alloc _⟩ ⟨hL1.below (bl_alloc _ _), hS1.alloc _, hB1.alloc hB1.size _⟩ ⟨W.heap.size, hlt, boxR_fresh hL1 x, rfl⟩
  case body =>
    rintro l pre x a' W hl ⟨r, hr⟩ ⟨⟨p1, c1, hL1, ho1⟩, hS1, hB1⟩ ⟨Bx, hBx, hX1, rfl⟩ hlt
    have cL := hL1.cell
    have cX0 := two_cell0 hX1.1
    have cX1 := two_cell1 hX1.1
    have HLX := Lib.hid hL1
    have HXX := Lib.hid hX1
    have HSX := Lib.hid hS1
    have HBB := Lib.hid hB1
    have HHB := Lib.hid hB
    have HLT := Lib.hid hlt
    have hrow := ho1
    unfold OwnR at hrow
    have HRO := Lib.hid hrow
    have HBL := Lib.hid hbl
    have HWS := Lib.hid (show B ≤ W.heap.size by have := hL1.lt; omega)
    clear hX1 hS1 hB1 hB hr hlt ho1 hrow hbl hL1
    gi_wp2_with (gi_at_builtin; refine wpListIn_append_own _ rfl _ _ 25 rfl B 24 i0 (.agg #[.int .i64 0, .int .i64 0]) 2 16 Tryz.underlying25 hinf hz0 hz1 hz2 rfl (by decide) (.slice p1 pre.length c1) pre.length _ rfl (HRO.out.alloc _) ⟨W.heap.size, 0, none⟩ 1 1 [.int .i64 x.1, .int .i64 x.2] rfl rfl (cells_two_new _ _ _ _) (by simp [Value.oneCell']) (by have := HML.out; have := HLT.out; simp only [maxLen]; omega) (by have := HML.out; have := HLT.out; omega) (by have := HWS.out; simp; omega) ?_; intro v' w1 hown' hgrow _; obtain ⟨g', cap', rfl⟩ := ownsRow_succ hown'; obtain ⟨hv1, hv2, hr2, hk2, hb2⟩ := HLX.out.appended (by decide) HRO.out HWS.out (Nat.le_refl _) hown' hgrow; have hc1 := hv1.cell; have hf1 := hv1.frozen; have HV1 := Lib.hid hv1; have HV2 := Lib.hid hv2; have HR2 := Lib.hid hr2; have HK2 := Lib.hid hk2; have HB2 := Lib.hid hb2; have HGR := Lib.hid hgrow; clear hv1 hv2 hr2 hk2 hb2 hown' hgrow)
    have hbe := HHB.out
    refine ⟨HK2.out.from _, ⟨slr_keep HQ.out (by rw [← hbe]; exact HB2.out), fun v hv => (HB2.out.block Bs HBL.out).trans hv⟩, ⟨some ⟨g', 0, none⟩, cap', ?_, ?_⟩, (HB2.out.block Bs HBL.out).trans HSX.out, ?_⟩
    · rw [List.length_append, List.length_singleton]; exact HV2.out
    · rw [List.length_append, List.length_singleton]; exact ownR_appended rfl HR2.out
    · have hb1 := HBB.out
      rw [← hbe] at hb1 ⊢
      exact hb1.trans HB2.out
  case done =>
    rintro D ys W hD rfl ⟨⟨p1, c1, hL1, ho1⟩, hS1, hB1⟩ hK
    have cL := hL1.cell
    have HHB := Lib.hid hB
    clear hB
    gi_wp2
    refine ⟨by simp, .inl ⟨_, _, rfl, run_takeDeferred hK, ?_⟩⟩
    have hbe := HHB.out
    exact ⟨_, results_tmp rfl _ _ _, p1, c1, rfl, by rw [← hbe]; exact ownsRow_putObj ho1 _ hK rfl, hB1.trans (belowK_b (w := w) (Nat.le_refl _) W D _ _ (by omega) hK rfl rfl)⟩
  case stop =>
    rintro D c pre W _ _ h _
    exact h.elim

theorem collect_any (Bs : Nat) (q : Option Addr) (cq : Nat) (d : List R) (w : World) (hin : In d) (hld : d.length ≤ 100000000) (hbx : Boxed w Bs 134 (.slice q d.length cq)) (hq : SlR w q d) :
    Calls Tryz.prog 78 #[.func (.func 123) #[] #[.pointer (some ⟨Bs, 0, none⟩)]] w fun e W' => ∃ p c, e = .returned (.slice p (merge d).length c) ∧ OwnR W' w.heap.size (.slice p (merge d).length c) (merge d) ∧ Below w.heap.size w W' := by
  have HA := Lib.hid (append_any Bs q cq d w hin hld hbx hq)
  clear hin hld hbx hq
  go_enter Tryz.func78, Tryz.ntmps78
  go_wp2_with (go_at_call 120; refine HA.out.mono ?_; rintro e w5 ⟨p, c, rfl, ho, hb⟩; have HO := Lib.hid ho; have HB := Lib.hid hb; clear ho hb)
  go_ret
  exact ⟨p, c, rfl, HO.out, HB.out⟩

def Tells (w : World) (l : List R) (e : Ending) (w' : World) : Prop := ∃ p c, e = .returned (.slice p l.length c) ∧ OwnR w' w.heap.size (.slice p l.length c) l ∧ Below w.heap.size w w'

theorem merge_le {l d : List R} (h : (puts [] l).Perm d) : d.length ≤ l.length := by
  have h1 := puts_length l []
  have h2 := h.length_eq
  rw [List.length_nil] at h1
  omega

set_option maxHeartbeats 1600000 in
set_option maxRecDepth 100000 in
theorem join_any (p : Option Addr) (c n : Nat) (xs : List SV) (l : List R) (w : World) (hl : l = cn (flat xs)) (hnn : n = xs.length) (hx : SlS w p xs) (hf : (flat xs).length ≤ 50000000) (hn : xs.length ≤ 50000000) :
    Calls Tryz.prog 47 #[.slice p n c] w (Tells w l) := by
  have HJ := Lib.hid (joined_any p c xs w hx (by omega) (by omega))
  rw [← hnn] at HJ
  have HL := Lib.hid hl
  have HF := Lib.hid hf
  clear hl hnn hx hf hn
  go_enter Tryz.func47, Tryz.ntmps47
  go_wp2_with fail
  refine HJ.out.mono ?_
  rintro e w5 ⟨q, cq, d, rfl, ho5, hp5, hs5, hb5⟩
  obtain ⟨q', cq', e5, _, _, _, hsl5, _⟩ := ownR_form ho5
  simp only [Value.slice.injEq, true_and] at e5
  obtain ⟨rfl, rfl⟩ := e5
  have HC := Lib.hid (collect_any w5.heap.size q cq d (w5.alloc (.cells #[.slice q d.length cq] 134)) (in_perm hp5 (puts_in in_nil)) (by have := merge_le hp5; have := HF.out; omega) (Boxed.new w5 _ _) (hsl5.below (bl_alloc _ _)))
  have HE : Hid (merge d = l) := by show merge d = l; rw [HL.out]; exact cn_of hp5 hs5
  rw [HE.out] at HC
  have HB5 := Lib.hid hb5
  obtain ⟨md, hmd⟩ : ∃ md, md = d.length := ⟨_, rfl⟩
  rw [← hmd] at HC ⊢
  clear ho5 hp5 hs5 hb5 hsl5 HJ hmd
  go_wp2_with (first | (go_at_call 80; refine (all_any _ _ _ _).mono ?_; rintro e w' ⟨rfl, rfl⟩) | (go_at_call 78; refine HC.out.mono ?_; rintro e w7 ⟨p7, c7, rfl, ho7, hb7⟩; have HO7 := Lib.hid ho7; have HB7 := Lib.hid hb7; clear ho7 hb7))
  go_ret
  exact ⟨p7, c7, rfl, ownR_down HO7.out (by have := HB5.out.size; simp; omega), bl_trans HB5.out (bl_trans (bl_alloc _ _) HB7.out)⟩

end Go.Proofs.YtglgfpapackcdaaGreat

