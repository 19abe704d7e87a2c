/- The walk of others: what a set has not. -/
/- The walks of Many, Least, slices.AppendSeq, slices.Collect. -/
/- The walk of Least. -/
import Derived.Test.YtgcgclmfjlecaaaGreatRh

namespace Go.Proofs.YtgcgclmfjlecaaaGreat
open Go.RowKit Tnr

attribute [local go_sem] Oper.semAt_some

/-- what the rounds of others leave: the ranges so far, and where the next one may begin. -/
def stepG (s : List R × Int) (r : R) : List R × Int := (put s.1 (s.2, wrap64 (r.1 - 1)), wrap64 (r.2 + 1))
def accG (pre : List R) : List R × Int := pre.foldl stepG ([], 0)
theorem accG_snoc (pre : List R) (r : R) : accG (pre ++ [r]) = stepG (accG pre) r := by simp [accG]
theorem put_out (l : List R) (r : R) : put l r = l ++ put [] r := by
  unfold put; split <;> simp
theorem fold_gaps : ∀ (d : List R) (m : List R) (next last : Int), 0 ≤ next → next ≤ 1114112 → RF last d → -2 ≤ last → put (d.foldl stepG (m, next)).1 ((d.foldl stepG (m, next)).2, 1114111) = m ++ gaps next d
  | [], m, next, _, _, _, _, _ => by rw [List.foldl_nil, put_out]; rfl
  | r :: d, m, next, last, h1, h2, h3, h4 => by
    obtain ⟨a1, a2, a3, a4⟩ := h3
    have e1 : wrap64 (r.1 - 1) = r.1 - 1 := by unfold wrap64; omega
    have e2 : wrap64 (r.2 + 1) = r.2 + 1 := by unfold wrap64; omega
    rw [List.foldl_cons]
    have es : stepG (m, next) r = (put m (next, r.1 - 1), r.2 + 1) := by unfold stepG; rw [e1, e2]
    rw [es, fold_gaps d _ (r.2 + 1) r.2 (by omega) (by omega) a4 (by omega), put_out, List.append_assoc]
    rfl
theorem accG_end {d : List R} (h : Rt d) : put (accG d).1 ((accG d).2, 1114111) = gaps 0 d := by
  have := fold_gaps d [] 0 (-2) (by omega) (by omega) h (by omega)
  simpa [accG] using this
theorem accG_length (pre : List R) : (accG pre).1.length ≤ pre.length := by
  have key : ∀ (d : List R) (s : List R × Int), (d.foldl stepG s).1.length ≤ s.1.length + d.length := by
    intro d
    induction d with
    | nil => intro s; simp
    | cons r d ih =>
      intro s
      have h := ih (stepG s r)
      have h2 := put_length s.1 (s.2, wrap64 (r.1 - 1))
      have h3 : (stepG s r).1.length ≤ s.1.length + 1 := h2
      rw [List.foldl_cons, List.length_cons]; omega
  simpa [accG] using key pre ([], 0)

theorem boxR_own {β : Type} (b B : Nat) (T : TypeId) (f : β → List R) : Own (fun s W => BoxR W b B T (f s)) := by
  rintro s X Y row ⟨p, c, h1, h2⟩ hg hrow
  refine ⟨p, c, h1.kept hg (fun e => ?_), World.ownsRow.kept h2 hg ?_⟩
  · obtain ⟨o, ho, hc⟩ := hrow b e.symm
    rw [show X.heap[b]? = _ from h1] at ho; cases ho; cases hc
  · rcases h2.2 with ⟨e, _⟩ | ⟨g, cap, cur, e, _, hh, _⟩
    · rw [e]; exact .inl rfl
    · refine .inr fun e2 => ?_
      rw [e] at e2
      simp only [Value.ownBlock] at e2
      obtain ⟨o, ho, hc⟩ := hrow g e2.symm
      rw [hh] at ho; cases ho; cases hc
/-- a loop's variable, beside the row's own block. -/
def LoopVar (W : World) (b : Nat) (T : TypeId) (Bx : Nat) (x : R) : Prop :=
  W.heap[Bx]? = some (.cells #[.int .i64 x.1, .int .i64 x.2] 41 (0, 0)) ∧ ∃ p n c, Boxed W b T (.slice p n c) ∧ (Value.slice p n c).ownBlock ≠ some Bx
theorem loopVar_from {W W' : World} {b : Nat} {T : TypeId} {Bx : Nat} {x : R} {row : Option Nat} (h : LoopVar W b T Bx x) (hg : W.grownBy W' row) (hr : ∀ r, row = some r → ∃ o : Obj, W.heap[r]? = some o ∧ o.isCells = false) : LoopVar W' b T Bx x := by
  obtain ⟨h1, p, n, c, h2, h3⟩ := h
  refine ⟨(hg.block Bx (lt_of_block h1) fun e => ?_).trans h1, p, n, c, h2.kept hg fun e => ?_, h3⟩
  · obtain ⟨o, ho, hc⟩ := hr Bx e.symm
    rw [h1] at ho; cases ho; cases hc
  · obtain ⟨o, ho, hc⟩ := hr b e.symm
    rw [show W.heap[b]? = _ from h2] at ho; cases ho; cases hc
theorem LoopVar.ne {W : World} {b : Nat} {T : TypeId} {Bx : Nat} {x : R} (h : LoopVar W b T Bx x) (p : Option Addr) (n c : Nat) (hb : Boxed W b T (.slice p n c)) : (Value.slice p n c).ownBlock ≠ some Bx := by
  obtain ⟨_, p', n', c', h2, h3⟩ := h
  have e := (show _ = _ from h2).symm.trans hb
  simp only [Option.some.injEq, Obj.cells.injEq, Array.mk.injEq, List.cons.injEq, and_true] at e
  rw [← e]
  exact h3
theorem BoxR.set {w : World} {b B k : Nat} {T t : TypeId} {l : List R} {v : Value} (h : BoxR w b B T l) (hk : Boxed w k t v) (ht : t ≠ 41) (hne : b ≠ k) (u : Value) : BoxR (w.setCell ⟨k, 0, none⟩ u) b B T l := by
  obtain ⟨p, c, h1, h2⟩ := h
  exact ⟨p, c, h1.other hne u, ownsRow_setCell_other (a := ⟨k, 0, none⟩) h2 (ownR_ne h2 (show w.heap[k]? = _ from hk) ht) u⟩
theorem Boxed.same {w : World} {b : Nat} {t t' : TypeId} {u v : Value} (h : Boxed w b t u) (k : Boxed w b t' v) : u = v := by
  have e := (show _ = _ from h).symm.trans k
  simp only [Option.some.injEq, Obj.cells.injEq, Array.mk.injEq, List.cons.injEq, and_true] at e
  exact e.1
theorem boxR_fresh {W : World} {b B : Nat} {T : TypeId} {l : List R} (h : BoxR W b B T l) (x : R) : LoopVar (W.alloc (.cells #[.int .i64 x.1, .int .i64 x.2] 41)) b T W.heap.size x := by
  obtain ⟨p, c, h1, h2⟩ := h
  refine ⟨heap_alloc_new W _, p, _, c, h1.alloc _, fun e => ?_⟩
  have := (h2.lt _ e).2
  omega

end Go.Proofs.YtgcgclmfjlecaaaGreat


namespace Go.Proofs.YtgcgclmfjlecaaaGreat
open Go.RowKit Tnr

attribute [local go_sem] Oper.semAt_some

def svV (x : SV) : Value := .slice x.1 x.2.2.length x.2.1
theorem sls_new {w : World} {xs : List SV} {cs : Array Value} {T : TypeId} (h : ∀ x ∈ xs, SlR w x.1 x.2.2) (hcs : cs = (xs.map svV).toArray) : SlS (w.alloc (.cells cs T)) (some ⟨w.heap.size, 0, none⟩) xs := by
  refine ⟨fun x hx => (h x hx).below (bl_alloc _ _), .inr ⟨w.heap.size, 0, rfl, fun i hi => ?_⟩⟩
  rw [Nat.zero_add, World.cell?_alloc_at _ _ _ _ rfl, hcs, gs_get hi]
  simp [svV, hi]
theorem flat_one (p : Option Addr) (c : Nat) (l : List R) : flat [(p, c, l)] = l := by simp [flat]

theorem joined_one (p : Option Addr) (c m : Nat) (l : List R) (W : World) (hm : m = l.length) (hp : SlR W p l) (hl : l.length ≤ 50000000) :
    Calls Tryz.prog 57 #[.slice (some ⟨W.heap.size, 0, none⟩) 1 1] (W.alloc (.cells #[.slice p m c] 28)) fun e w' => ∃ q cq d, e = .returned (.agg #[.slice q d.length cq]) ∧ OwnR w' W.heap.size (.slice q d.length cq) d ∧ (puts [] l).Perm d ∧ Sorted d ∧ Below W.heap.size W w' := by
  subst hm
  have h := joined_any (some ⟨W.heap.size, 0, none⟩) 1 [(p, c, l)] (W.alloc (.cells #[.slice p l.length c] 28)) (sls_new (fun x hx => by simp only [List.mem_singleton] at hx; subst hx; exact hp) rfl) (by rw [flat_one]; omega) (by simp)
  refine Calls.mono h ?_
  rintro e w' ⟨q, cq, d, h1, h2, h3, h4, h5⟩
  rw [flat_one] at h3
  exact ⟨q, cq, d, h1, ownR_down h2 (by simp), h3, h4, bl_trans (bl_alloc _ _) h5⟩

/-- what the rounds of Many leave. -/
def stepM (n : Int) (r : R) : Int := wrap64 (n + wrap64 (wrap64 (r.2 - r.1) + 1))
def sumW (pre : List R) : Int := pre.foldl stepM 0
theorem sumW_snoc (pre : List R) (r : R) : sumW (pre ++ [r]) = stepM (sumW pre) r := by simp [sumW]
theorem fold_sum : ∀ (d : List R) (n last : Int), RF last d → -2 ≤ last → 0 ≤ n → n ≤ last + 2 → d.foldl stepM n = n + sum d
  | [], n, _, _, _, _, _ => by simp [sum]
  | r :: d, n, last, h, h1, h2, h3 => by
    obtain ⟨a1, a2, a3, a4⟩ := h
    have e : stepM n r = n + (r.2 - r.1 + 1) := by unfold stepM wrap64; omega
    rw [List.foldl_cons, e, fold_sum d _ r.2 a4 (by omega) (by omega) (by omega), sum_cons]; omega
theorem sumW_end {d : List R} (h : Rt d) : sumW d = sum d := by
  have := fold_sum d 0 (-2) h (by omega) (by omega) (by omega)
  rw [Int.zero_add] at this
  exact this

end Go.Proofs.YtgcgclmfjlecaaaGreat


namespace Go.Proofs.YtgcgclmfjlecaaaGreat
open Go.RowKit Tnr

attribute [local go_sem] Oper.semAt_some

theorem lst_nil {l d : List R} (h : merge d = cn l) (h0 : merge d = []) : lst l = (0, false) := by unfold lst; rw [← h, h0]
theorem lst_cons {l d r : List R} {x : R} (h : merge d = cn l) (h0 : merge d = x :: r) : lst l = (x.1, true) := by unfold lst; rw [← h, h0]

end Go.Proofs.YtgcgclmfjlecaaaGreat

