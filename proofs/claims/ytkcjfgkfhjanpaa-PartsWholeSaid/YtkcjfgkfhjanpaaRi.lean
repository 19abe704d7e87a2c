/- The walk of others: what a set has not. -/
import Derived.Test.YtkcjfgkfhjanpaaRh
namespace Go.Proofs.Ytkcjfgkfhjanpaa
open Go.RowKit Tnr

attribute [local go_sem] Oper.semAt_some

/-- what the rounds of others leave: the ranges so far, and where the next one may begin. -/
def stepG (s : List R × Int) (r : R) : List R × Int := (put s.1 (s.2, wrap64 (r.1 - 1)), wrap64 (r.2 + 1))
def accG (pre : List R) : List R × Int := pre.foldl stepG ([], 0)
theorem accG_snoc (pre : List R) (r : R) : accG (pre ++ [r]) = stepG (accG pre) r := by simp [accG]
theorem put_out (l : List R) (r : R) : put l r = l ++ put [] r := by
  unfold put; split <;> simp
theorem fold_gaps : ∀ (d : List R) (m : List R) (next last : Int), 0 ≤ next → next ≤ 1114112 → RF last d → -2 ≤ last → put (d.foldl stepG (m, next)).1 ((d.foldl stepG (m, next)).2, 1114111) = m ++ gaps next d
  | [], m, next, _, _, _, _, _ => by rw [List.foldl_nil, put_out]; rfl
  | r :: d, m, next, last, h1, h2, h3, h4 => by
    obtain ⟨a1, a2, a3, a4⟩ := h3
    have e1 : wrap64 (r.1 - 1) = r.1 - 1 := by unfold wrap64; omega
    have e2 : wrap64 (r.2 + 1) = r.2 + 1 := by unfold wrap64; omega
    rw [List.foldl_cons]
    have es : stepG (m, next) r = (put m (next, r.1 - 1), r.2 + 1) := by unfold stepG; rw [e1, e2]
    rw [es, fold_gaps d _ (r.2 + 1) r.2 (by omega) (by omega) a4 (by omega), put_out, List.append_assoc]
    rfl
theorem accG_end {d : List R} (h : Rt d) : put (accG d).1 ((accG d).2, 1114111) = gaps 0 d := by
  have := fold_gaps d [] 0 (-2) (by omega) (by omega) h (by omega)
  simpa [accG] using this
theorem accG_length (pre : List R) : (accG pre).1.length ≤ pre.length := by
  have key : ∀ (d : List R) (s : List R × Int), (d.foldl stepG s).1.length ≤ s.1.length + d.length := by
    intro d
    induction d with
    | nil => intro s; simp
    | cons r d ih =>
      intro s
      have h := ih (stepG s r)
      have h2 := put_length s.1 (s.2, wrap64 (r.1 - 1))
      have h3 : (stepG s r).1.length ≤ s.1.length + 1 := h2
      rw [List.foldl_cons, List.length_cons]; omega
  simpa [accG] using key pre ([], 0)

theorem boxR_own {β : Type} (b B : Nat) (T : TypeId) (f : β → List R) : Own (fun s W => BoxR W b B T (f s)) := by
  rintro s X Y row ⟨p, c, h1, h2⟩ hg hrow
  refine ⟨p, c, h1.kept hg (fun e => ?_), World.ownsRow.kept h2 hg ?_⟩
  · obtain ⟨o, ho, hc⟩ := hrow b e.symm
    rw [show X.heap[b]? = _ from h1] at ho; cases ho; cases hc
  · rcases h2.2 with ⟨e, _⟩ | ⟨g, cap, cur, e, _, hh, _⟩
    · rw [e]; exact .inl rfl
    · refine .inr fun e2 => ?_
      rw [e] at e2
      simp only [Value.ownBlock] at e2
      obtain ⟨o, ho, hc⟩ := hrow g e2.symm
      rw [hh] at ho; cases ho; cases hc
/-- a loop's variable, beside the row's own block. -/
def LoopVar (W : World) (b : Nat) (T : TypeId) (Bx : Nat) (x : R) : Prop :=
  W.heap[Bx]? = some (.cells #[.int .i64 x.1, .int .i64 x.2] 43 (0, 0)) ∧ ∃ p n c, Boxed W b T (.slice p n c) ∧ (Value.slice p n c).ownBlock ≠ some Bx
theorem loopVar_from {W W' : World} {b : Nat} {T : TypeId} {Bx : Nat} {x : R} {row : Option Nat} (h : LoopVar W b T Bx x) (hg : W.grownBy W' row) (hr : ∀ r, row = some r → ∃ o : Obj, W.heap[r]? = some o ∧ o.isCells = false) : LoopVar W' b T Bx x := by
  obtain ⟨h1, p, n, c, h2, h3⟩ := h
  refine ⟨(hg.block Bx (lt_of_block h1) fun e => ?_).trans h1, p, n, c, h2.kept hg fun e => ?_, h3⟩
  · obtain ⟨o, ho, hc⟩ := hr Bx e.symm
    rw [h1] at ho; cases ho; cases hc
  · obtain ⟨o, ho, hc⟩ := hr b e.symm
    rw [show W.heap[b]? = _ from h2] at ho; cases ho; cases hc
theorem LoopVar.ne {W : World} {b : Nat} {T : TypeId} {Bx : Nat} {x : R} (h : LoopVar W b T Bx x) (p : Option Addr) (n c : Nat) (hb : Boxed W b T (.slice p n c)) : (Value.slice p n c).ownBlock ≠ some Bx := by
  obtain ⟨_, p', n', c', h2, h3⟩ := h
  have e := (show _ = _ from h2).symm.trans hb
  simp only [Option.some.injEq, Obj.cells.injEq, Array.mk.injEq, List.cons.injEq, and_true] at e
  rw [← e]
  exact h3
theorem BoxR.set {w : World} {b B k : Nat} {T t : TypeId} {l : List R} {v : Value} (h : BoxR w b B T l) (hk : Boxed w k t v) (ht : t ≠ 43) (hne : b ≠ k) (u : Value) : BoxR (w.setCell ⟨k, 0, none⟩ u) b B T l := by
  obtain ⟨p, c, h1, h2⟩ := h
  exact ⟨p, c, h1.other hne u, ownsRow_setCell_other (a := ⟨k, 0, none⟩) h2 (ownR_ne h2 (show w.heap[k]? = _ from hk) ht) u⟩
theorem Boxed.same {w : World} {b : Nat} {t t' : TypeId} {u v : Value} (h : Boxed w b t u) (k : Boxed w b t' v) : u = v := by
  have e := (show _ = _ from h).symm.trans k
  simp only [Option.some.injEq, Obj.cells.injEq, Array.mk.injEq, List.cons.injEq, and_true] at e
  exact e.1
theorem boxR_fresh {W : World} {b B : Nat} {T : TypeId} {l : List R} (h : BoxR W b B T l) (x : R) : LoopVar (W.alloc (.cells #[.int .i64 x.1, .int .i64 x.2] 43)) b T W.heap.size x := by
  obtain ⟨p, c, h1, h2⟩ := h
  refine ⟨heap_alloc_new W _, p, _, c, h1.alloc _, fun e => ?_⟩
  have := (h2.lt _ e).2
  omega

set_option maxHeartbeats 6400000 in
set_option maxRecDepth 100000 in
theorem others_any (q : Option Addr) (cq : Nat) (d : List R) (w : World) (hin : In d) (hso : Sorted d) (hld : d.length ≤ 300000) (hq : SlR w q d) :
    Calls Try.prog 30 #[.agg #[.slice q d.length cq]] w fun e W' => ∃ p c, e = .returned (.slice p (gaps 0 (merge d)).length c) ∧ OwnR W' w.heap.size (.slice p (gaps 0 (merge d)).length c) (gaps 0 (merge d)) ∧ Below w.heap.size w W' := by
  refine (callsIn_wide (n := 8)).1 ?_
  have hro : Fence.wide.round = none := rfl
  have HRT := Lib.hid (merge_right hin hso)
  have HML := Lib.hid (Nat.le_trans (merge_length d) hld)
  obtain ⟨m, hm⟩ : ∃ m, m = d.length := ⟨_, rfl⟩
  have hst := fun (W0 : World) (Bs : Nat) (h1 : Boxed W0 Bs 58 (.slice q m cq)) (h3 : Below w.heap.size w W0) => all_stops (8 - 1) Bs q cq d hin (by omega) (by omega) W0 (by rw [← hm]; exact h1) (hq.below h3)
  rw [← hm]
  have HST := Lib.hid hst
  have HQ := Lib.hid hq
  clear hst hin hso hld hq hm
  refine callsIn_of_wp_marks Try.func30 rfl trivial ?_ hro
  simp only [Try.ntmps30, List.size_toArray, List.length_cons, List.length_nil, Nat.reduceAdd, Nat.reduceSub, Array.replicate_succ, Array.replicate_zero, List.push_toArray, List.append_toArray, List.nil_append, List.cons_append]
  gi_wp2_with ((refine ⟨trivial, ?_⟩; gi_at_call 24; refine (callsIn_wide.2 (all_any _ _ _ _)).mono ?_; rintro e w' ⟨rfl, rfl⟩))
  have bL := ((Boxed.new (w.alloc (.cells #[.slice q m cq] 58)) 56 (.slice none 0 0)).alloc (.cells #[.int .i64 0] 3)).alloc (.cells #[.slice q m cq] 58)
  have bN := (Boxed.new ((w.alloc (.cells #[.slice q m cq] 58)).alloc (.cells #[.slice none 0 0] 56)) 3 (.int .i64 0)).alloc (.cells #[.slice q m cq] 58)
  have bS := Boxed.new (((w.alloc (.cells #[.slice q m cq] 58)).alloc (.cells #[.slice none 0 0] 56)).alloc (.cells #[.int .i64 0] 3)) 58 (.slice q m cq)
  simp only [World.size_alloc] at bL bN bS
  have hB0 : Below w.heap.size w ((((w.alloc (.cells #[.slice q m cq] 58)).alloc (.cells #[.slice none 0 0] 56)).alloc (.cells #[.int .i64 0] 3)).alloc (.cells #[.slice q m cq] 58)) := bl_trans (bl_trans (bl_trans (bl_alloc _ _) (bl_alloc _ _)) (bl_alloc _ _)) (bl_alloc _ _)
  have hsz : ((((w.alloc (.cells #[.slice q m cq] 58)).alloc (.cells #[.slice none 0 0] 56)).alloc (.cells #[.int .i64 0] 3)).alloc (.cells #[.slice q m cq] 58)).heap.size = w.heap.size + 4 := by simp
  obtain ⟨W0, hW0⟩ : ∃ W0, ((((w.alloc (.cells #[.slice q m cq] 58)).alloc (.cells #[.slice none 0 0] 56)).alloc (.cells #[.int .i64 0] 3)).alloc (.cells #[.slice q m cq] 58)) = W0 := ⟨_, rfl⟩
  rw [hW0] at bL bN bS hB0 hsz ⊢
  clear hW0
  obtain ⟨B, hB⟩ : ∃ B, B = w.heap.size := ⟨_, rfl⟩
  rw [← hB] at bL bN bS hsz ⊢
  refine wpIn_rangeFunc_ownH hro (by omega) (gf := 36) (lb := #[.pointer (some ⟨B + 1 + 1 + 1, 0, none⟩)]) rfl trivial (enters_of Try.func36 (by kernel_rfl) rfl)
    (HST.out W0 (B + 1 + 1 + 1) bS hB0) (fun h k => h.trans k) kpb_b (Below.refl _ _) (fun _ => rfl)
    (fun pre W => (BoxR W (B + 1) B 56 (accG pre).1 ∧ Boxed W (B + 1 + 1) 3 (.int .i64 (accG pre).2)) ∧ Boxed W (B + 1 + 1 + 1) 58 (.slice q m cq) ∧ Below w.heap.size w W)
    (fun _ _ _ => False)
    (OwnFrom.and (OwnFrom.and (Own.from (boxR_own _ _ _ _) _) (Own.from (boxed_own _ _ _) _)) (OwnFrom.and (Own.from (boxed_own _ _ _) _) (ownFrom_below (Nat.le_refl _) (by omega))))
    (fun _ _ _ _ _ hs _ _ => hs)
    ⟨⟨⟨none, 0, bL, ownR_nil _ _⟩, bN⟩, bS, hB0⟩
    (fun x a' W => ∃ Bx, B + 1 + 1 + 1 < Bx ∧ LoopVar W (B + 1) 56 Bx x ∧ a' = { tmps := #[.agg #[.slice q m cq], .pointer (some ⟨B, 0, none⟩), .slice none 0 0, .pointer (some ⟨B + 1, 0, none⟩), .pointer (some ⟨B + 1 + 1, 0, none⟩), .pointer (some ⟨Bx, 0, none⟩), .agg #[.slice q m cq], .func (.func 36) #[] #[.pointer (some ⟨B + 1 + 1 + 1, 0, none⟩)], .agg #[.int .i64 x.1, .int .i64 x.2], undef, undef, undef, undef, undef, undef, undef, undef, undef, undef, undef, undef, undef], defers := [] })
    (fun x a' _ X Y row hs hg hr => by obtain ⟨Bx, h1, h2, h3⟩ := hs; exact ⟨Bx, h1, loopVar_from h2 hg (fun r e => (hr r e).2), h3⟩)
    ?assign ?body ?done ?stop
  case assign =>
    rintro l pre x W K ⟨⟨hL1, hN1⟩, hS1, hB1⟩ hK
    clear hB
    gi_wp2
    exact hK _ _ ((KeepsOthers.alloc _ _).from _) ⟨fun h => h.below (bl_alloc _ _), fun v hv => hv.alloc _⟩ ⟨⟨hL1.below (bl_alloc _ _), hN1.alloc _⟩, hS1.alloc _, hB1.alloc hB1.size _⟩ ⟨W.heap.size, hS1.lt, boxR_fresh hL1 x, rfl⟩
  case body =>
    rintro l pre x a' W hl ⟨r, hr⟩ ⟨⟨hL1, hN1⟩, hS1, hB1⟩ ⟨Bx, hBx, hX1, rfl⟩ hlt
    have cN := hN1.cell
    have cX0 := two_cell0 hX1.1
    have cX1 := two_cell1 hX1.1
    have h1' : 1 ≤ 8 - 1 - 1 := by omega
    have HNX := Lib.hid hN1
    have HXX := Lib.hid hX1
    have HSX := Lib.hid hS1
    have HLX := Lib.hid hL1
    have HBB := Lib.hid hB1
    have HHB := Lib.hid hB
    have HPUT := Lib.hid (put_any (B + 1) B 56 (accG pre).1 ((accG pre).2, wrap64 (x.1 - 1)) W (by decide) hL1 (by omega) (by have := accG_length pre; have := HML.out; omega))
    clear hN1 hX1 hS1 hL1 hB1 hB hr
    gi_wp2_with ((refine ⟨trivial, ?_⟩; gi_at_call 34; refine (CallsIn.inRound l (callsIn_wide.2 HPUT.out)).mono ?_; rintro e w5 ⟨rfl, hx5, hk5, hb5, hs5⟩; have bX5 : w5.heap[Bx]? = some (.cells #[.int .i64 x.1, .int .i64 x.2] 43 (0, 0)) := (hs5 Bx (lt_of_block HXX.out.1) (by omega) HXX.out.ne).trans HXX.out.1; have bN5 : Boxed w5 (B + 1 + 1) 3 (.int .i64 (accG pre).2) := (hs5 (B + 1 + 1) HNX.out.lt (by omega) (BoxR.ne HLX.out (show _ = _ from HNX.out) (by decide))).trans HNX.out; have bS5 : Boxed w5 (B + 1 + 1 + 1) 58 (.slice q m cq) := (hs5 (B + 1 + 1 + 1) HSX.out.lt (by omega) (BoxR.ne HLX.out (show _ = _ from HSX.out) (by decide))).trans HSX.out; have cX5 := two_cell1 bX5; have cN5 := bN5.cell; have fN5 := bN5.frozen; have HN5 := Lib.hid bN5; have HS5 := Lib.hid bS5; have HX5 := Lib.hid hx5; have HK5 := Lib.hid hk5; have HB5 := Lib.hid hb5; clear bX5 bN5 bS5 hx5 hk5 hb5 hs5))
    have hbe := HHB.out
    refine ⟨(HK5.out.trans (KeepsOthers.setCell _ _ _)).from _, ⟨slr_keep HQ.out (by rw [← hbe]; exact HB5.out.setCell (p := ⟨B + 1 + 1, 0, none⟩) (by simp; omega) _), fun v hv => ?_⟩, ⟨?_, ?_⟩, HS5.out.other (by omega) _, ?_⟩
    · rw [← Boxed.same HSX.out hv]
      exact HS5.out.other (by omega) _
    · rw [accG_snoc]
      exact BoxR.set HX5.out HN5.out (by decide) (by omega) _
    · rw [accG_snoc]
      exact HN5.out.set _
    · rw [← hbe] at HBB ⊢
      exact (HBB.out.trans HB5.out).setCell (p := ⟨B + 1 + 1, 0, none⟩) (by simp; omega) _
  case done =>
    rintro D ys W hD rfl ⟨⟨hL1, hN1⟩, hS1, hB1⟩ hK
    have cN := hN1.cell
    have HE := Lib.hid (accG_end HRT.out)
    have HPUT := Lib.hid (put_any (B + 1) B 56 (accG (merge d)).1 ((accG (merge d)).2, 1114111) W (by decide) hL1 (by omega) (by have := accG_length (merge d); have := HML.out; omega))
    rw [HE.out] at HPUT
    have HHB := Lib.hid hB
    have HB1 := Lib.hid hB1
    have HKD := Lib.hid hK
    have HDD := Lib.hid hD
    clear hL1 hN1 hS1 hB1 hB hK hD
    gi_wp2_with ((refine ⟨trivial, ?_⟩; gi_at_call 34; refine (callsIn_wide.2 HPUT.out).mono ?_; rintro e w5 ⟨rfl, ⟨p5, c5, hx5, ho5⟩, hk5, hb5, hs5⟩; have cX5 := hx5.cell; have HX5 := Lib.hid hx5; have HO5 := Lib.hid ho5; have HK5 := Lib.hid (hk5.same D _ HKD.out rfl); have HB5 := Lib.hid hb5; clear hx5 ho5 hk5 hb5 hs5))
    refine ⟨by simp, .inl ⟨_, _, rfl, run_takeDeferred HK5.out, ?_⟩⟩
    have hbe := HHB.out
    refine ⟨_, results_tmp rfl _ _ _, p5, c5, rfl, ?_, ?_⟩
    · rw [← hbe]
      exact ownsRow_putObj HO5.out _ HK5.out rfl
    · have hb2 := HB1.out
      rw [← hbe] at hb2 ⊢
      exact (hb2.trans HB5.out).trans (belowK_b (w := w) (by omega) w5 D _ _ (by have := HDD.out; omega) HK5.out rfl rfl)
  case stop =>
    rintro D c pre W _ _ h _
    exact h.elim
end Go.Proofs.Ytkcjfgkfhjanpaa
