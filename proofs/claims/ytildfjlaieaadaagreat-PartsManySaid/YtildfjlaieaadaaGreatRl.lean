/- The walk of others: what a set has not. -/
/- The walks of Many, Least, slices.AppendSeq, slices.Collect. -/
/- The walk of Least. -/
/- The walks of slices.AppendSeq, slices.Collect, Join, Not, Meet. -/
import Derived.Test.YtildfjlaieaadaaGreatRh

namespace Go.Proofs.YtildfjlaieaadaaGreat
open Go.RowKit Tnr

attribute [local go_sem] Oper.semAt_some

/-- what the rounds of others leave: the ranges so far, and where the next one may begin. -/
def stepG (s : List R × Int) (r : R) : List R × Int := (put s.1 (s.2, wrap64 (r.1 - 1)), wrap64 (r.2 + 1))
def accG (pre : List R) : List R × Int := pre.foldl stepG ([], 0)
theorem accG_snoc (pre : List R) (r : R) : accG (pre ++ [r]) = stepG (accG pre) r := by simp [accG]
theorem put_out (l : List R) (r : R) : put l r = l ++ put [] r := by
  unfold put; split <;> simp
theorem fold_gaps : ∀ (d : List R) (m : List R) (next last : Int), 0 ≤ next → next ≤ 1114112 → RF last d → -2 ≤ last → put (d.foldl stepG (m, next)).1 ((d.foldl stepG (m, next)).2, 1114111) = m ++ gaps next d
  | [], m, next, _, _, _, _, _ => by rw [List.foldl_nil, put_out]; rfl
  | r :: d, m, next, last, h1, h2, h3, h4 => by
    obtain ⟨a1, a2, a3, a4⟩ := h3
    have e1 : wrap64 (r.1 - 1) = r.1 - 1 := by unfold wrap64; omega
    have e2 : wrap64 (r.2 + 1) = r.2 + 1 := by unfold wrap64; omega
    rw [List.foldl_cons]
    have es : stepG (m, next) r = (put m (next, r.1 - 1), r.2 + 1) := by unfold stepG; rw [e1, e2]
    rw [es, fold_gaps d _ (r.2 + 1) r.2 (by omega) (by omega) a4 (by omega), put_out, List.append_assoc]
    rfl
theorem accG_end {d : List R} (h : Rt d) : put (accG d).1 ((accG d).2, 1114111) = gaps 0 d := by
  have := fold_gaps d [] 0 (-2) (by omega) (by omega) h (by omega)
  simpa [accG] using this
theorem accG_length (pre : List R) : (accG pre).1.length ≤ pre.length := by
  have key : ∀ (d : List R) (s : List R × Int), (d.foldl stepG s).1.length ≤ s.1.length + d.length := by
    intro d
    induction d with
    | nil => intro s; simp
    | cons r d ih =>
      intro s
      have h := ih (stepG s r)
      have h2 := put_length s.1 (s.2, wrap64 (r.1 - 1))
      have h3 : (stepG s r).1.length ≤ s.1.length + 1 := h2
      rw [List.foldl_cons, List.length_cons]; omega
  simpa [accG] using key pre ([], 0)

theorem boxR_own {β : Type} (b B : Nat) (T : TypeId) (f : β → List R) : Own (fun s W => BoxR W b B T (f s)) := by
  rintro s X Y row ⟨p, c, h1, h2⟩ hg hrow
  refine ⟨p, c, h1.kept hg (fun e => ?_), World.ownsRow.kept h2 hg ?_⟩
  · obtain ⟨o, ho, hc⟩ := hrow b e.symm
    rw [show X.heap[b]? = _ from h1] at ho; cases ho; cases hc
  · rcases h2.2 with ⟨e, _⟩ | ⟨g, cap, cur, e, _, hh, _⟩
    · rw [e]; exact .inl rfl
    · refine .inr fun e2 => ?_
      rw [e] at e2
      simp only [Value.ownBlock] at e2
      obtain ⟨o, ho, hc⟩ := hrow g e2.symm
      rw [hh] at ho; cases ho; cases hc
/-- a loop's variable, beside the row's own block. -/
def LoopVar (W : World) (b : Nat) (T : TypeId) (Bx : Nat) (x : R) : Prop :=
  W.heap[Bx]? = some (.cells #[.int .i64 x.1, .int .i64 x.2] 28 (0, 0)) ∧ ∃ p n c, Boxed W b T (.slice p n c) ∧ (Value.slice p n c).ownBlock ≠ some Bx
theorem loopVar_from {W W' : World} {b : Nat} {T : TypeId} {Bx : Nat} {x : R} {row : Option Nat} (h : LoopVar W b T Bx x) (hg : W.grownBy W' row) (hr : ∀ r, row = some r → ∃ o : Obj, W.heap[r]? = some o ∧ o.isCells = false) : LoopVar W' b T Bx x := by
  obtain ⟨h1, p, n, c, h2, h3⟩ := h
  refine ⟨(hg.block Bx (lt_of_block h1) fun e => ?_).trans h1, p, n, c, h2.kept hg fun e => ?_, h3⟩
  · obtain ⟨o, ho, hc⟩ := hr Bx e.symm
    rw [h1] at ho; cases ho; cases hc
  · obtain ⟨o, ho, hc⟩ := hr b e.symm
    rw [show W.heap[b]? = _ from h2] at ho; cases ho; cases hc
theorem LoopVar.ne {W : World} {b : Nat} {T : TypeId} {Bx : Nat} {x : R} (h : LoopVar W b T Bx x) (p : Option Addr) (n c : Nat) (hb : Boxed W b T (.slice p n c)) : (Value.slice p n c).ownBlock ≠ some Bx := by
  obtain ⟨_, p', n', c', h2, h3⟩ := h
  have e := (show _ = _ from h2).symm.trans hb
  simp only [Option.some.injEq, Obj.cells.injEq, Array.mk.injEq, List.cons.injEq, and_true] at e
  rw [← e]
  exact h3
theorem BoxR.set {w : World} {b B k : Nat} {T t : TypeId} {l : List R} {v : Value} (h : BoxR w b B T l) (hk : Boxed w k t v) (ht : t ≠ 28) (hne : b ≠ k) (u : Value) : BoxR (w.setCell ⟨k, 0, none⟩ u) b B T l := by
  obtain ⟨p, c, h1, h2⟩ := h
  exact ⟨p, c, h1.other hne u, ownsRow_setCell_other (a := ⟨k, 0, none⟩) h2 (ownR_ne h2 (show w.heap[k]? = _ from hk) ht) u⟩
theorem Boxed.same {w : World} {b : Nat} {t t' : TypeId} {u v : Value} (h : Boxed w b t u) (k : Boxed w b t' v) : u = v := by
  have e := (show _ = _ from h).symm.trans k
  simp only [Option.some.injEq, Obj.cells.injEq, Array.mk.injEq, List.cons.injEq, and_true] at e
  exact e.1
theorem boxR_fresh {W : World} {b B : Nat} {T : TypeId} {l : List R} (h : BoxR W b B T l) (x : R) : LoopVar (W.alloc (.cells #[.int .i64 x.1, .int .i64 x.2] 28)) b T W.heap.size x := by
  obtain ⟨p, c, h1, h2⟩ := h
  refine ⟨heap_alloc_new W _, p, _, c, h1.alloc _, fun e => ?_⟩
  have := (h2.lt _ e).2
  omega

end Go.Proofs.YtildfjlaieaadaaGreat


namespace Go.Proofs.YtildfjlaieaadaaGreat
open Go.RowKit Tnr

attribute [local go_sem] Oper.semAt_some

def svV (x : SV) : Value := .slice x.1 x.2.2.length x.2.1
theorem sls_new {w : World} {xs : List SV} {cs : Array Value} {T : TypeId} (h : ∀ x ∈ xs, SlR w x.1 x.2.2) (hcs : cs = (xs.map svV).toArray) : SlS (w.alloc (.cells cs T)) (some ⟨w.heap.size, 0, none⟩) xs := by
  refine ⟨fun x hx => (h x hx).below (bl_alloc _ _), .inr ⟨w.heap.size, 0, rfl, fun i hi => ?_⟩⟩
  rw [Nat.zero_add, World.cell?_alloc_at _ _ _ _ rfl, hcs, gs_get hi]
  simp [svV, hi]
theorem flat_one (p : Option Addr) (c : Nat) (l : List R) : flat [(p, c, l)] = l := by simp [flat]

theorem joined_one (p : Option Addr) (c m : Nat) (l : List R) (W : World) (hm : m = l.length) (hp : SlR W p l) (hl : l.length ≤ 50000) :
    Calls Tryz.prog 52 #[.slice (some ⟨W.heap.size, 0, none⟩) 1 1] (W.alloc (.cells #[.slice p m c] 29)) fun e w' => ∃ q cq d, e = .returned (.agg #[.slice q d.length cq]) ∧ OwnR w' W.heap.size (.slice q d.length cq) d ∧ (puts [] l).Perm d ∧ Sorted d ∧ Below W.heap.size W w' := by
  subst hm
  have h := joined_any (some ⟨W.heap.size, 0, none⟩) 1 [(p, c, l)] (W.alloc (.cells #[.slice p l.length c] 29)) (sls_new (fun x hx => by simp only [List.mem_singleton] at hx; subst hx; exact hp) rfl) (by rw [flat_one]; omega) (by simp)
  refine Calls.mono h ?_
  rintro e w' ⟨q, cq, d, h1, h2, h3, h4, h5⟩
  rw [flat_one] at h3
  exact ⟨q, cq, d, h1, ownR_down h2 (by simp), h3, h4, bl_trans (bl_alloc _ _) h5⟩

/-- what the rounds of Many leave. -/
def stepM (n : Int) (r : R) : Int := wrap64 (n + wrap64 (wrap64 (r.2 - r.1) + 1))
def sumW (pre : List R) : Int := pre.foldl stepM 0
theorem sumW_snoc (pre : List R) (r : R) : sumW (pre ++ [r]) = stepM (sumW pre) r := by simp [sumW]
theorem fold_sum : ∀ (d : List R) (n last : Int), RF last d → -2 ≤ last → 0 ≤ n → n ≤ last + 2 → d.foldl stepM n = n + sum d
  | [], n, _, _, _, _, _ => by simp [sum]
  | r :: d, n, last, h, h1, h2, h3 => by
    obtain ⟨a1, a2, a3, a4⟩ := h
    have e : stepM n r = n + (r.2 - r.1 + 1) := by unfold stepM wrap64; omega
    rw [List.foldl_cons, e, fold_sum d _ r.2 a4 (by omega) (by omega) (by omega), sum_cons]; omega
theorem sumW_end {d : List R} (h : Rt d) : sumW d = sum d := by
  have := fold_sum d 0 (-2) h (by omega) (by omega) (by omega)
  rw [Int.zero_add] at this
  exact this

end Go.Proofs.YtildfjlaieaadaaGreat


namespace Go.Proofs.YtildfjlaieaadaaGreat
open Go.RowKit Tnr

attribute [local go_sem] Oper.semAt_some

theorem lst_nil {l d : List R} (h : merge d = cn l) (h0 : merge d = []) : lst l = (0, false) := by unfold lst; rw [← h, h0]
theorem lst_cons {l d r : List R} {x : R} (h : merge d = cn l) (h0 : merge d = x :: r) : lst l = (x.1, true) := by unfold lst; rw [← h, h0]

set_option maxHeartbeats 800000 in
set_option maxRecDepth 100000 in
theorem least_any (p : Option Addr) (c : Nat) (l : List R) (w : World) (hp : SlR w p l) (hl : l.length ≤ 50000) :
    Calls Tryz.prog 38 #[.slice p l.length c] w fun e W' => e = .returned (.tuple #[.int .i64 (lst l).1, .bool (lst l).2]) ∧ Below w.heap.size w W' := by
  refine (callsIn_wide (n := 8)).1 ?_
  have hro : Fence.wide.round = none := rfl
  obtain ⟨m, hm⟩ : ∃ m, m = l.length := ⟨_, rfl⟩
  have HLE := Lib.hid hl
  have HJ := Lib.hid (joined_one p c m l ((w.alloc (.cells #[.int .i64 0] 3)).alloc (.cells #[.bool false] 4)) hm (hp.below (bl_trans (bl_alloc _ _) (bl_alloc _ _))) hl)
  rw [World.size_alloc, World.size_alloc] at HJ
  rw [← hm]
  clear hp hm hl
  refine callsIn_of_wp_marks Tryz.func38 rfl trivial ?_ hro
  simp only [Tryz.ntmps38, List.size_toArray, List.length_cons, List.length_nil, Nat.reduceAdd, Nat.reduceSub, Array.replicate_succ, Array.replicate_zero, List.push_toArray, List.append_toArray, List.nil_append, List.cons_append]
  gi_wp2_with (first | (refine ⟨trivial, ?_⟩; gi_at_call 52; refine (callsIn_wide.2 HJ.out).mono ?_; rintro e w5 ⟨q, cq, d, rfl, ho5, hp5, hs5, hb5⟩; have HO5 := Lib.hid ho5; have HP5 := Lib.hid hp5; have HS5 := Lib.hid hs5; have HB5 := Lib.hid hb5; clear ho5 hp5 hs5 hb5) | (refine ⟨trivial, ?_⟩; gi_at_call 53; refine (callsIn_wide.2 (all_any _ _ _ _)).mono ?_; rintro e w' ⟨rfl, rfl⟩))
  obtain ⟨B, hB⟩ : ∃ B, B = w.heap.size := ⟨_, rfl⟩
  rw [← hB] at HO5 HB5 ⊢
  have hin5 := in_perm HP5.out (puts_in in_nil)
  have hdl : d.length ≤ 50000 := by
    have hmr := HLE.out
    have h1 := puts_length l []
    have h2 := HP5.out.length_eq
    rw [List.length_nil] at h1
    omega
  obtain ⟨q', cq', e5, _, _, _, hsl5, hob5⟩ := ownR_form HO5.out
  simp only [Value.slice.injEq, true_and] at e5
  obtain ⟨rfl, rfl⟩ := e5
  have HEN := Lib.hid (cn_of HP5.out HS5.out)
  have bN0 : Boxed w5 B 3 (.int .i64 0) := by
    have h := (Boxed.new w 3 (.int .i64 0)).alloc (.cells #[.bool false] 4)
    rw [← hB] at h
    exact (HB5.out.block B (by omega)).trans h
  have bT0 : Boxed w5 (B + 1) 4 (.bool false) := by
    have h := Boxed.new (w.alloc (.cells #[.int .i64 0] 3)) 4 (.bool false)
    rw [World.size_alloc, ← hB] at h
    exact (HB5.out.block (B + 1) (by omega)).trans h
  have bN := bN0.alloc (.cells #[.slice q d.length cq] 104)
  have bT := bT0.alloc (.cells #[.slice q d.length cq] 104)
  have bS := Boxed.new w5 104 (.slice q d.length cq)
  have hsl0 := hsl5.below (bl_alloc w5 (.cells #[.slice q d.length cq] 104))
  have hB0 : Below w.heap.size w (w5.alloc (.cells #[.slice q d.length cq] 104)) := by
    have h1 := bl_trans (bl_alloc w (.cells #[.int .i64 0] 3)) (bl_alloc (w.alloc (.cells #[.int .i64 0] 3)) (.cells #[.bool false] 4))
    have h2 := h1.trans (HB5.out.mono (by omega))
    exact h2.alloc h2.size _
  obtain ⟨Bs, hBs⟩ : ∃ Bs, Bs = w5.heap.size := ⟨_, rfl⟩
  rw [← hBs] at bS ⊢
  have hsz : (w5.alloc (.cells #[.slice q d.length cq] 104)).heap.size = Bs + 1 := by rw [hBs]; simp
  have hBBs : B + 1 < Bs := by rw [hBs]; exact bT0.lt
  obtain ⟨W0, hW0⟩ : ∃ W0, w5.alloc (.cells #[.slice q d.length cq] 104) = W0 := ⟨_, rfl⟩
  rw [hW0] at bN bT bS hsl0 hB0 hsz ⊢
  have hst := all_stops (8 - 1) Bs q cq d hin5 (by omega) (by omega) W0 bS hsl0
  obtain ⟨md, hmd⟩ : ∃ md, md = d.length := ⟨_, rfl⟩
  rw [← hmd] at bS ⊢
  clear hmd hW0 hBs hob5 hsl5 bN0 bT0 hin5 hsl0
  refine wpIn_rangeFunc_ownH hro (by omega) (gf := 83) (lb := #[.pointer (some ⟨Bs, 0, none⟩)]) rfl trivial (enters_of Tryz.func83 (by kernel_rfl) rfl)
    hst (fun h k => h.trans k) kpb_b (Below.refl _ _) (fun _ => rfl)
    (fun pre W => pre = [] ∧ (Boxed W B 3 (.int .i64 0) ∧ Boxed W (B + 1) 4 (.bool false)) ∧ Boxed W Bs 104 (.slice q md cq) ∧ Below w.heap.size w W)
    (fun c pre W => (c = .ret ∧ ∃ x, pre = [x] ∧ Boxed W B 3 (.int .i64 x.1) ∧ Boxed W (B + 1) 4 (.bool true)) ∧ Below w.heap.size w W)
    (OwnFrom.and (fun _ _ _ _ hs _ _ => hs) (OwnFrom.and (OwnFrom.and (Own.from (boxed_own _ _ _) _) (Own.from (boxed_own _ _ _) _)) (OwnFrom.and (Own.from (boxed_own _ _ _) _) (ownFrom_below (Nat.le_refl _) (by omega)))))
    (fun c => OwnFrom.and (Own.from (fun s X Y row hs hg hr => by
      obtain ⟨h1, x, h2, h3, h4⟩ := hs
      exact ⟨h1, x, h2, boxed_own _ _ (fun (_ : Unit) => Value.int .i64 x.1) () X Y row h3 hg hr, boxed_own _ _ (fun (_ : Unit) => Value.bool true) () X Y row h4 hg hr⟩) _) (ownFrom_below (Nat.le_refl _) (by omega)))
    ⟨rfl, ⟨bN, bT⟩, bS, hB0⟩
    (fun x a' W => ∃ Bx, Bs < Bx ∧ W.heap[Bx]? = some (.cells #[.int .i64 x.1, .int .i64 x.2] 28 (0, 0)) ∧ a' = { tmps := #[.slice p m c, undef, .pointer (some ⟨B, 0, none⟩), .pointer (some ⟨B + 1, 0, none⟩), .pointer (some ⟨Bx, 0, none⟩), .slice p m c, .slice (some ⟨B + 1 + 1, 0, none⟩) 1 1, .agg #[.slice q md cq], .func (.func 83) #[] #[.pointer (some ⟨Bs, 0, none⟩)], .agg #[.int .i64 x.1, .int .i64 x.2], undef, undef], defers := [] })
    (fun x a' _ X Y row hs hg hr => by
      obtain ⟨Bx, h1, h2, h3⟩ := hs
      refine ⟨Bx, h1, (hg.block Bx (lt_of_block h2) fun e => ?_).trans h2, h3⟩
      obtain ⟨o, ho, hc⟩ := (hr Bx e.symm).2
      rw [h2] at ho; cases ho; cases hc)
    ?assign ?body ?done ?stop
  case assign =>
    rintro l pre x W K ⟨hpr, ⟨hN1, hT1⟩, hS1, hB1⟩ hK
    clear hB
    gi_wp2
    exact hK _ _ ((KeepsOthers.alloc _ _).from _) ⟨fun h => h.below (bl_alloc _ _), fun v hv => hv.alloc _⟩ ⟨hpr, ⟨hN1.alloc _, hT1.alloc _⟩, hS1.alloc _, hB1.alloc hB1.size _⟩ ⟨W.heap.size, hS1.lt, heap_alloc_new W _, rfl⟩
  case body =>
    rintro l pre x a' W hl ⟨r, hr⟩ ⟨hpr, ⟨hN1, hT1⟩, hS1, hB1⟩ ⟨Bx, hBx, hX1, rfl⟩ hlt
    subst hpr
    have cN := hN1.cell
    have fN := hN1.frozen
    have cT := hT1.cell
    have fT := hT1.frozen
    have cX0 := two_cell0 hX1
    have hne : B ≠ B + 1 := by omega
    have HNX := Lib.hid hN1
    have HTX := Lib.hid hT1
    have HBB := Lib.hid hB1
    have HHB := Lib.hid hB
    clear hN1 hX1 hS1 hT1 hB1 hB hr hlt
    gi_wp2
    have hbe := HHB.out
    refine ⟨((KeepsOthers.setCell _ _ _).trans (KeepsOthers.setCell _ _ _)).from _, ⟨rfl, x, rfl, (HNX.out.set _).other (by omega) _, (HTX.out.other (by omega) _).set _⟩, (HBB.out.setCell (p := ⟨B, 0, none⟩) (by simp; omega) _).setCell (p := ⟨B + 1, 0, none⟩) (by simp; omega) _⟩
  case done =>
    rintro D ys W hD rfl ⟨hpr, ⟨hN1, hT1⟩, hS1, hB1⟩ hK
    have cN := hN1.cell
    have fN := hN1.frozen
    have cT := hT1.cell
    have fT := hT1.frozen
    have HHB := Lib.hid hB
    have hne : B ≠ B + 1 := by omega
    have HNX := Lib.hid hN1
    have HTX := Lib.hid hT1
    have HKK := Lib.hid hK
    have HPR := Lib.hid hpr
    clear hB hN1 hT1 hS1 hK hpr
    gi_wp2
    have hK' := ((KeepsOthers.setCell W ⟨B, 0, none⟩ (.int .i64 0)).trans (KeepsOthers.setCell _ ⟨B + 1, 0, none⟩ (.bool false))).same D _ HKK.out rfl
    refine ⟨by simp, .inl ⟨_, _, rfl, run_takeDeferred hK', ?_⟩⟩
    have hc5 := cell_kept ((HNX.out.set (.int .i64 0)).other (B' := B + 1) (by omega) (.bool false)).cell (grownBy_putObj' _ D (.deferred none)) (fun r e => by cases e; exact ⟨_, hK', rfl⟩)
    have hc6 := cell_kept ((HTX.out.other (B' := B) (by omega) (.int .i64 0)).set (.bool false)).cell (grownBy_putObj' _ D (.deferred none)) (fun r e => by cases e; exact ⟨_, hK', rfl⟩)
    have hbe := HHB.out
    refine ⟨.tuple #[.int .i64 0, .bool false], ?_, by rw [lst_nil HEN.out HPR.out], (((hB1.setCell (p := ⟨B, 0, none⟩) (by simp; omega) _).setCell (p := ⟨B + 1, 0, none⟩) (by simp; omega) _)).trans (belowK_b (w := w) (Nat.le_refl _) _ D _ _ (by omega) hK' rfl rfl)⟩
    simp [results, Tryz.f38, go_sem, hc5, hc6]
  case stop =>
    rintro D c' pre W hD hSp ⟨⟨rfl, x, hpr, hN1, hT1⟩, hB1⟩ hK
    have HKK := Lib.hid hK
    have HHB := Lib.hid hB
    clear hB hK
    gi_wp2
    refine ⟨by simp, .inl ⟨_, _, rfl, run_takeDeferred HKK.out, ?_⟩⟩
    have hc5 := cell_kept hN1.cell (grownBy_putObj' _ D (.deferred none)) (fun r e => by cases e; exact ⟨_, HKK.out, rfl⟩)
    have hc6 := cell_kept hT1.cell (grownBy_putObj' _ D (.deferred none)) (fun r e => by cases e; exact ⟨_, HKK.out, rfl⟩)
    obtain ⟨t, ht⟩ := hSp
    rw [hpr] at ht
    have hbe := HHB.out
    refine ⟨.tuple #[.int .i64 x.1, .bool true], ?_, by rw [lst_cons HEN.out ht.symm], hB1.trans (belowK_b (w := w) (Nat.le_refl _) _ D _ _ (by omega) HKK.out rfl rfl)⟩
    simp [results, Tryz.f38, go_sem, hc5, hc6]
end Go.Proofs.YtildfjlaieaadaaGreat


namespace Go.Proofs.YtildfjlaieaadaaGreat
open Go.RowKit Tnr

attribute [local go_sem] Oper.semAt_some

set_option maxHeartbeats 1600000 in
set_option maxRecDepth 100000 in
theorem append_any (Bs : Nat) (q : Option Addr) (cq : Nat) (d : List R) (w : World) (hin : In d) (hld : d.length ≤ 100000) (hbx : Boxed w Bs 104 (.slice q d.length cq)) (hq : SlR w q d) :
    Calls Tryz.prog 84 #[.slice none 0 0, .func (.func 83) #[] #[.pointer (some ⟨Bs, 0, none⟩)]] w fun e W' => ∃ p c, e = .returned (.slice p (merge d).length c) ∧ OwnR W' w.heap.size (.slice p (merge d).length c) (merge d) ∧ Below w.heap.size w W' := by
  refine (callsIn_wide (n := 8)).1 ?_
  have hro : Fence.wide.round = none := rfl
  obtain ⟨i0, hinf, hz0, hz1, hz2⟩ := info_parts info_range
  have HML := Lib.hid (Nat.le_trans (merge_length d) hld)
  have hst := fun (W0 : World) (h3 : Below w.heap.size w W0) => all_stops (8 - 1) Bs q cq d hin (by omega) (by omega) W0 ((h3.block Bs hbx.lt).trans hbx) (hq.below h3)
  have HST := Lib.hid hst
  have HQ := Lib.hid hq
  have HBX := Lib.hid hbx
  have hbl := hbx.lt
  obtain ⟨md, hmd⟩ : ∃ md, md = d.length := ⟨_, rfl⟩
  rw [← hmd] at HBX
  clear hst hin hld hbx hq hmd
  refine callsIn_of_wp_marks Tryz.func84 rfl trivial ?_ hro
  simp only [Tryz.ntmps84, List.size_toArray, List.length_cons, List.length_nil, Nat.reduceAdd, Nat.reduceSub, Array.replicate_succ, Array.replicate_zero, List.push_toArray, List.append_toArray, List.nil_append, List.cons_append]
  gi_wp2
  have bO := Boxed.new w 29 (.slice none 0 0)
  have bS := HBX.out.alloc (.cells #[.slice none 0 0] 29)
  have hB0 : Below w.heap.size w (w.alloc (.cells #[.slice none 0 0] 29)) := bl_alloc _ _
  obtain ⟨B, hB⟩ : ∃ B, B = w.heap.size := ⟨_, rfl⟩
  rw [← hB] at bO hbl ⊢
  have hsz : (w.alloc (.cells #[.slice none 0 0] 29)).heap.size = B + 1 := by rw [hB]; simp
  obtain ⟨W0, hW0⟩ : ∃ W0, w.alloc (.cells #[.slice none 0 0] 29) = W0 := ⟨_, rfl⟩
  rw [hW0] at bO bS hB0 hsz ⊢
  clear hW0
  refine wpIn_rangeFunc_ownH hro (by omega) (gf := 83) (lb := #[.pointer (some ⟨Bs, 0, none⟩)]) rfl trivial (enters_of Tryz.func83 (by kernel_rfl) rfl)
    (HST.out W0 hB0) (fun h k => h.trans k) kpb_b (Below.refl _ _) (fun _ => rfl)
    (fun pre W => BoxR W B B 29 pre ∧ Boxed W Bs 104 (.slice q md cq) ∧ Below w.heap.size w W)
    (fun _ _ _ => False)
    (OwnFrom.and (Own.from (boxR_own _ _ _ _) _) (OwnFrom.and (Own.from (boxed_own _ _ _) _) (ownFrom_below (Nat.le_refl _) (by omega))))
    (fun _ _ _ _ _ hs _ _ => hs)
    ⟨⟨none, 0, bO, ownR_nil _ _⟩, bS, hB0⟩
    (fun x a' W => ∃ Bx, B < Bx ∧ LoopVar W B 29 Bx x ∧ a' = { tmps := #[.slice none 0 0, .func (.func 83) #[] #[.pointer (some ⟨Bs, 0, none⟩)], .pointer (some ⟨B, 0, none⟩), undef, .slice none 0 0, .pointer (some ⟨Bx, 0, none⟩), .func (.func 83) #[] #[.pointer (some ⟨Bs, 0, none⟩)], .agg #[.int .i64 x.1, .int .i64 x.2], undef, undef, undef, undef, undef], defers := [] })
    (fun x a' _ X Y row hs hg hr => by obtain ⟨Bx, h1, h2, h3⟩ := hs; exact ⟨Bx, h1, loopVar_from h2 hg (fun r e => (hr r e).2), h3⟩)
    ?assign ?body ?done ?stop
  case assign =>
    rintro l pre x W K ⟨hL1, hS1, hB1⟩ hK
    have hlt : B < W.heap.size := by obtain ⟨_, _, h, _⟩ := hL1; exact h.lt
    clear hB
    gi_wp2
    exact hK _ _ ((KeepsOthers.alloc _ _).from _) ⟨fun h => h.below (bl_alloc _ _), fun v hv => hv.alloc _⟩ ⟨hL1.below (bl_alloc _ _), hS1.alloc _, hB1.alloc hB1.size _⟩ ⟨W.heap.size, hlt, boxR_fresh hL1 x, rfl⟩
  case body =>
    rintro l pre x a' W hl ⟨r, hr⟩ ⟨⟨p1, c1, hL1, ho1⟩, hS1, hB1⟩ ⟨Bx, hBx, hX1, rfl⟩ hlt
    have cL := hL1.cell
    have cX0 := two_cell0 hX1.1
    have cX1 := two_cell1 hX1.1
    have HLX := Lib.hid hL1
    have HXX := Lib.hid hX1
    have HSX := Lib.hid hS1
    have HBB := Lib.hid hB1
    have HHB := Lib.hid hB
    have HLT := Lib.hid hlt
    have hrow := ho1
    unfold OwnR at hrow
    have HRO := Lib.hid hrow
    have HBL := Lib.hid hbl
    have HWS := Lib.hid (show B ≤ W.heap.size by have := hL1.lt; omega)
    clear hX1 hS1 hB1 hB hr hlt ho1 hrow hbl hL1
    gi_wp2_with (gi_at_builtin; refine wpListIn_append_own _ rfl _ _ 29 rfl B 28 i0 (.agg #[.int .i64 0, .int .i64 0]) 2 16 Tryz.underlying29 hinf hz0 hz1 hz2 rfl (by decide) (.slice p1 pre.length c1) pre.length _ rfl (HRO.out.alloc _) ⟨W.heap.size, 0, none⟩ 1 1 [.int .i64 x.1, .int .i64 x.2] rfl rfl (cells_two_new _ _ _ _) (by simp [Value.oneCell']) (by have := HML.out; have := HLT.out; simp only [maxLen]; omega) (by have := HML.out; have := HLT.out; omega) (by have := HWS.out; simp; omega) ?_; intro v' w1 hown' hgrow _; obtain ⟨g', cap', rfl⟩ := ownsRow_succ hown'; obtain ⟨hv1, hv2, hr2, hk2, hb2⟩ := HLX.out.appended (by decide) HRO.out HWS.out (Nat.le_refl _) hown' hgrow; have hc1 := hv1.cell; have hf1 := hv1.frozen; have HV1 := Lib.hid hv1; have HV2 := Lib.hid hv2; have HR2 := Lib.hid hr2; have HK2 := Lib.hid hk2; have HB2 := Lib.hid hb2; have HGR := Lib.hid hgrow; clear hv1 hv2 hr2 hk2 hb2 hown' hgrow)
    have hbe := HHB.out
    refine ⟨HK2.out.from _, ⟨slr_keep HQ.out (by rw [← hbe]; exact HB2.out), fun v hv => (HB2.out.block Bs HBL.out).trans hv⟩, ⟨some ⟨g', 0, none⟩, cap', ?_, ?_⟩, (HB2.out.block Bs HBL.out).trans HSX.out, ?_⟩
    · rw [List.length_append, List.length_singleton]; exact HV2.out
    · rw [List.length_append, List.length_singleton]; exact ownR_appended rfl HR2.out
    · have hb1 := HBB.out
      rw [← hbe] at hb1 ⊢
      exact hb1.trans HB2.out
  case done =>
    rintro D ys W hD rfl ⟨⟨p1, c1, hL1, ho1⟩, hS1, hB1⟩ hK
    have cL := hL1.cell
    have HHB := Lib.hid hB
    clear hB
    gi_wp2
    refine ⟨by simp, .inl ⟨_, _, rfl, run_takeDeferred hK, ?_⟩⟩
    have hbe := HHB.out
    exact ⟨_, results_tmp rfl _ _ _, p1, c1, rfl, by rw [← hbe]; exact ownsRow_putObj ho1 _ hK rfl, hB1.trans (belowK_b (w := w) (Nat.le_refl _) W D _ _ (by omega) hK rfl rfl)⟩
  case stop =>
    rintro D c pre W _ _ h _
    exact h.elim

theorem collect_any (Bs : Nat) (q : Option Addr) (cq : Nat) (d : List R) (w : World) (hin : In d) (hld : d.length ≤ 100000) (hbx : Boxed w Bs 104 (.slice q d.length cq)) (hq : SlR w q d) :
    Calls Tryz.prog 54 #[.func (.func 83) #[] #[.pointer (some ⟨Bs, 0, none⟩)]] w fun e W' => ∃ p c, e = .returned (.slice p (merge d).length c) ∧ OwnR W' w.heap.size (.slice p (merge d).length c) (merge d) ∧ Below w.heap.size w W' := by
  have HA := Lib.hid (append_any Bs q cq d w hin hld hbx hq)
  clear hin hld hbx hq
  go_enter Tryz.func54, Tryz.ntmps54
  go_wp2_with (go_at_call 84; refine HA.out.mono ?_; rintro e w5 ⟨p, c, rfl, ho, hb⟩; have HO := Lib.hid ho; have HB := Lib.hid hb; clear ho hb)
  go_ret
  exact ⟨p, c, rfl, HO.out, HB.out⟩

/-- what a call tells that is a row of its own. -/
def Tells (w : World) (l : List R) (e : Ending) (w' : World) : Prop := ∃ p c, e = .returned (.slice p l.length c) ∧ OwnR w' w.heap.size (.slice p l.length c) l ∧ Below w.heap.size w w'

theorem merge_le {l d : List R} (h : (puts [] l).Perm d) : d.length ≤ l.length := by
  have h1 := puts_length l []
  have h2 := h.length_eq
  rw [List.length_nil] at h1
  omega

set_option maxHeartbeats 1600000 in
set_option maxRecDepth 100000 in
theorem join_any (p : Option Addr) (c n : Nat) (xs : List SV) (l : List R) (w : World) (hl : l = cn (flat xs)) (hnn : n = xs.length) (hx : SlS w p xs) (hf : (flat xs).length ≤ 50000) (hn : xs.length ≤ 50000) :
    Calls Tryz.prog 39 #[.slice p n c] w (Tells w l) := by
  have HJ := Lib.hid (joined_any p c xs w hx (by omega) (by omega))
  rw [← hnn] at HJ
  have HL := Lib.hid hl
  have HF := Lib.hid hf
  clear hl hnn hx hf hn
  go_enter Tryz.func39, Tryz.ntmps39
  go_wp2_with fail
  refine HJ.out.mono ?_
  rintro e w5 ⟨q, cq, d, rfl, ho5, hp5, hs5, hb5⟩
  obtain ⟨q', cq', e5, _, _, _, hsl5, _⟩ := ownR_form ho5
  simp only [Value.slice.injEq, true_and] at e5
  obtain ⟨rfl, rfl⟩ := e5
  have HC := Lib.hid (collect_any w5.heap.size q cq d (w5.alloc (.cells #[.slice q d.length cq] 104)) (in_perm hp5 (puts_in in_nil)) (by have := merge_le hp5; have := HF.out; omega) (Boxed.new w5 _ _) (hsl5.below (bl_alloc _ _)))
  have HE : Hid (merge d = l) := by show merge d = l; rw [HL.out]; exact cn_of hp5 hs5
  rw [HE.out] at HC
  have HB5 := Lib.hid hb5
  obtain ⟨md, hmd⟩ : ∃ md, md = d.length := ⟨_, rfl⟩
  rw [← hmd] at HC ⊢
  clear ho5 hp5 hs5 hb5 hsl5 HJ hmd
  go_wp2_with (first | (go_at_call 53; refine (all_any _ _ _ _).mono ?_; rintro e w' ⟨rfl, rfl⟩) | (go_at_call 54; refine HC.out.mono ?_; rintro e w7 ⟨p7, c7, rfl, ho7, hb7⟩; have HO7 := Lib.hid ho7; have HB7 := Lib.hid hb7; clear ho7 hb7))
  go_ret
  exact ⟨p7, c7, rfl, ownR_down HO7.out (by have := HB5.out.size; simp; omega), bl_trans HB5.out (bl_trans (bl_alloc _ _) HB7.out)⟩

end Go.Proofs.YtildfjlaieaadaaGreat

