/- The walks of LentInts and KeptInts: a list handed in with marks behind its end; that it is still as it was. -/
import Derived.Test.YtildfjlaieaadaaGreatSx
import Derived.Laws.MakeOwn

namespace Go.Proofs.YtildfjlaieaadaaGreat
open Go.RowKit Tnr

theorem wpList_append_run {P : Program} {w w' : World} {ops : Array Oper} {rest : List Oper} {o : Oper} {a : Act} {Q : Exit → Act → World → Prop} (hw : Region.wanted o (yielded ops a.tmps) = true) (s x : Operand) (t : TypeId)
    (ho : o.op = .call { callee := .builtin .append, args := #[s, x], argTypes := #[t, t] }) (v u v' : Value) (hs : a.eval s = v) (hx : a.eval x = u)
    (hrun : (Builtin.append_ #[t, t] o.type #[v, u]).run P w = .ok v' w') (h : wpList P ops Q rest (a.put o.dst v') w') : wpList P ops Q (o :: rest) a w := by
  refine wpList_step fun K hK => ?_
  simp only [hw, if_true]
  unfold Oper.wp
  simp [execOp, ho, resolve, invoke, builtin, hs, hx, hrun, Result.andThen]
  exact hK _ _ h

theorem mark_any (i : Int) (w : World) (h0 : 0 ≤ i) (h1 : i ≤ 100) : Calls Tryz.prog 51 #[.int .i64 1, .int .i64 i] w fun e w' => e = .returned (.int .i64 (8000024 + i)) ∧ w' = w := by
  go_enter Tryz.func51, Tryz.ntmps51
  go_wp2
  go_ret
  exact ⟨rfl, rfl⟩

def marks (k : Nat) : List Int := (List.range k).map fun (i : Nat) => 8000024 + (i : Int)
theorem marks_succ (k : Nat) : marks (k + 1) = marks k ++ [8000024 + (k : Int)] := by unfold marks; rw [List.range_succ, List.map_append]; rfl
theorem marks_length (k : Nat) : (marks k).length = k := by simp [marks]
theorem gi_front {l m : List Int} {i : Nat} (h : i < l.length) : gi (l ++ m) i = gi l i := by
  unfold gi
  rw [List.getD_eq_getElem?_getD, List.getD_eq_getElem?_getD, List.getElem?_append_left h]
theorem gi_marks {l : List Int} {k i : Nat} (h1 : l.length ≤ i) (h2 : i < l.length + k) : gi (l ++ marks k) i = 8000024 + ((i : Int) - l.length) := by
  unfold gi
  rw [List.getD_eq_getElem?_getD, List.getElem?_append_right h1]
  unfold marks
  rw [List.getElem?_map, List.getElem?_range (by omega)]
  simp; omega

theorem newsI_at {w : World} {b off : Nat} {a : List Int} (h : ∀ i, i < a.length → w.cell? ⟨b, off + i, none⟩ = some (.int .i64 (gi a i))) : ∀ j u, (a.map (Value.int .i64))[j]? = some u → w.cell? ((⟨b, off, none⟩ : Addr).add j) = some u := by
  intro j u hu
  rw [List.getElem?_map] at hu
  obtain ⟨d, hd, rfl⟩ := Option.map_eq_some_iff.1 hu
  have hj := (List.getElem?_eq_some_iff.1 hd).1
  have e2 : (⟨b, off, none⟩ : Addr).add j = ⟨b, off + j, none⟩ := by simp [Addr.add]
  rw [e2, h j hj]
  unfold gi
  rw [List.getD_eq_getElem?_getD, hd]; rfl
theorem run_joinI {w : World} {B : Nat} {v : Value} {N : List Int} {q : Option Addr} {cq : Nat} {a : List Int} (T : TypeId) (ho : OwnI w B v N) (hs : SlI w q a) (hq : q = none → cq = 0) (hl : N.length + a.length ≤ 1000000) (hB : B ≤ w.heap.size) :
    ∃ v' w', (Builtin.append_ #[32, 32] T #[v, .slice q a.length cq]).run Tryz.prog w = .ok v' w' ∧ OwnI w' B v' (N ++ a) ∧ w.grownBy w' v.ownBlock := by
  obtain ⟨i0, hinf, hz0, hz1, hz2⟩ := info_parts info_int
  unfold OwnI at ho
  cases q with
  | none =>
    have := hq rfl
    subst this
    have ha : a = [] := by
      rcases hs with h | ⟨b, off, h, _⟩
      · exact h
      · cases h
    subst ha
    have hrun := run_append_owned_none (P := Tryz.prog) (w := w) B 32 T 3 i0 1 Tryz.underlying32 hinf v N.length _ ho
    refine ⟨v, w, hrun, ?_, World.grownBy.refl _ _⟩
    unfold OwnI
    rw [List.append_nil]; exact ho
  | some ad =>
    have hn : ∀ j u, (a.map (Value.int .i64))[j]? = some u → w.cell? (ad.add j) = some u := by
      rcases hs with h | ⟨b, off, h, hc⟩
      · subst h; intro j u hu; simp at hu
      · simp only [Option.some.injEq] at h
        subst h
        exact newsI_at hc
    obtain ⟨v', w', h1, h2, h3, _⟩ := run_append_own (P := Tryz.prog) (w := w) B 32 T 3 i0 (.int .i64 0) 1 8 Tryz.underlying32 hinf hz0 hz1 hz2 rfl (by decide) v N.length _ ho ad a.length cq (a.map (Value.int .i64)) (by simp) hn (by intro u hu; rw [List.mem_map] at hu; obtain ⟨d, _, rfl⟩ := hu; rfl) (by simp only [maxLen]; omega) (by omega) hB
    refine ⟨v', w', h1, ?_, h3⟩
    unfold OwnI
    rw [List.length_append, List.map_append]
    exact h2

end Go.Proofs.YtildfjlaieaadaaGreat
