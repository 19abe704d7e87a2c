/- Plain lemmas: what is written is read again, and what is read is written; texts one behind the other. The walk of CopyInts. -/
import Derived.Test.YtalnfbbggmhbfaaDoorPs
import Derived.Test.YtalnfbbggmhbfaaDoorPm
import Derived.Laws.AppendOwnNone
namespace Go.Proofs.YtalnfbbggmhbfaaDoor
open Go.RowKit Tnd

theorem encI_encs (l : List Int) : (encI l).map UInt8.ofNat = encs (l.map Int.toNat) := by
  induction l with
  | nil => rfl
  | cons c l ih =>
    have e1 : encI (c :: l) = encN c.toNat ++ encI l := by simp [encI]
    have e2 : encs ((c :: l).map Int.toNat) = enc c.toNat ++ encs (l.map Int.toNat) := by simp [encs]
    rw [e1, e2, List.map_append, ih]; rfl
theorem ints_toNat {l : List Int} (h : l.all wrB = true) : ints (l.map Int.toNat) = l := by
  unfold ints
  rw [List.map_map]
  apply List.ext_getElem
  · simp
  · intro i h1 h2
    simp only [List.getElem_map, Function.comp_apply]
    have := (wrB_iff.1 (List.all_eq_true.1 h _ (List.getElem_mem h2))).1
    show ((l[i].toNat : Nat) : Int) = l[i]
    omega
theorem textR_kind (l : List Int) : (∃ x, textR l = (x, true) ∧ x.length ≤ 65536 ∧ ofR x = (l.map Int.toNat, 0, 0) ∧ ints (l.map Int.toNat) = l) ∨ textR l = ([], false) := by
  by_cases h : l.all wrB = true ∧ (encI l).length ≤ 65536
  · left
    refine ⟨(encI l).map UInt8.ofNat, by unfold textR; rw [if_pos h], by simp; exact h.2, ?_, ints_toNat h.1⟩
    rw [encI_encs]
    refine ofR_ok ?_ (ofm_encs _ ?_)
    · rw [← encI_encs]; simp; exact h.2
    · intro c hc
      rw [List.mem_map] at hc
      obtain ⟨z, hz, rfl⟩ := hc
      exact (wrB_iff.1 (List.all_eq_true.1 h.1 z hz)).2
  · right
    unfold textR; rw [if_neg h]
theorem ofR_inv {s : List UInt8} {a : List Nat} {n : Nat} (h : ofR s = (a, n, 0)) : s.length ≤ 65536 ∧ ofm s = (a, none) ∧ n = 0 := by
  by_cases hl : 65536 < s.length
  · rw [ofR_long hl] at h; simp at h
  · rcases ho : ofm s with ⟨m, _ | r⟩
    · rw [ofR_ok hl ho] at h
      simp only [Prod.mk.injEq, and_true] at h
      exact ⟨by omega, by rw [h.1], h.2.symm⟩
    · rw [ofR_bad hl ho] at h; simp at h
theorem text_back {s : List UInt8} {a : List Nat} (h : ofR s = (a, 0, 0)) : textR (ints a) = (s, true) := by
  obtain ⟨h1, h2, _⟩ := ofR_inv h
  obtain ⟨h3, h4⟩ := ofm_text _ _ _ (Nat.le_refl _) h2
  have e : (ints a).map Int.toNat = a := by unfold ints; rw [List.map_map]; exact (List.map_congr_left (fun x _ => rfl)).trans (List.map_id a)
  have hb : (encI (ints a)).map UInt8.ofNat = s := by rw [encI_encs, e, ← h3]
  have hall : (ints a).all wrB = true := by
    rw [List.all_eq_true]
    intro c hc
    unfold ints at hc
    rw [List.mem_map] at hc
    obtain ⟨n, hn, rfl⟩ := hc
    exact wrB_iff.2 ⟨by simp, h4 n hn⟩
  unfold textR
  rw [if_pos ⟨hall, by rw [← hb] at h1; simpa using h1⟩, hb]
theorem both_right {s t : List UInt8} {a b : List Nat} (h1 : ofR s = (a, 0, 0)) (h2 : ofR t = (b, 0, 0)) (hl : s.length + t.length ≤ 65536) : ofR (s ++ t) = (a ++ b, 0, 0) := by
  obtain ⟨_, e1, _⟩ := ofR_inv h1
  obtain ⟨_, e2, _⟩ := ofR_inv h2
  have e3 := ofm_append _ s t a (Nat.le_refl _) e1
  rw [e2] at e3
  exact ofR_ok (by simp; omega) e3
theorem second_wrong {s t : List UInt8} {a : List Nat} {n : Nat} (h1 : ofR s = (a, 0, 0)) (h2 : ofR t = ([], n, 4)) (hl : s.length + t.length ≤ 65536) : ofR (s ++ t) = ([], s.length + n, 4) := by
  obtain ⟨_, e1, _⟩ := ofR_inv h1
  rcases ho : ofm t with ⟨m, _ | r⟩
  · rw [ofR_ok (by omega) ho] at h2; simp at h2
  · rw [ofR_bad (by omega) ho] at h2
    simp only [Prod.mk.injEq, true_and, and_true] at h2
    have e3 := ofm_append _ s t a (Nat.le_refl _) e1
    rw [ho] at e3
    have := ofm_left ho
    rw [ofR_bad (by simp; omega) e3]
    simp only [List.length_append, Prod.mk.injEq, true_and, and_true]
    omega

theorem news_at {w : World} {b off : Nat} {a : List Nat} (h : ∀ i, i < a.length → w.cell? ⟨b, off + i, none⟩ = some (.int .i64 (gd a i : Nat))) : ∀ j u, (a.map fun d => Value.int .i64 (d : Nat))[j]? = some u → w.cell? ((⟨b, off, none⟩ : Addr).add j) = some u := by
  intro j u hu
  rw [List.getElem?_map] at hu
  obtain ⟨d, hd, rfl⟩ := Option.map_eq_some_iff.1 hu
  have hj := (List.getElem?_eq_some_iff.1 hd).1
  have e2 : (⟨b, off, none⟩ : Addr).add j = ⟨b, off + j, none⟩ := by simp [Addr.add]
  rw [e2, h j hj]
  unfold gd
  rw [List.getD_eq_getElem?_getD, hd]; rfl
/-- append of a row of numbers onto one of the call's own. -/
theorem run_join {w : World} {B : Nat} {v : Value} {N : List Nat} {q : Option Addr} {cq : Nat} {a : List Nat} (T : TypeId) (ho : Own w B 3 .i64 v N) (hs : Sl w .i64 q a) (hq : q = none → cq = 0) (hl : N.length + a.length ≤ 1000000) (hB : B ≤ w.heap.size) :
    ∃ v' w', (Builtin.append_ #[24, 24] T #[v, .slice q a.length cq]).run Tryd.prog w = .ok v' w' ∧ Own w' B 3 .i64 v' (N ++ a) ∧ w.grownBy w' v.ownBlock := by
  obtain ⟨i0, hinf, hz0, hz1, hz2⟩ := info_parts info_int
  unfold Own at ho
  cases q with
  | none =>
    have := hq rfl
    subst this
    have ha : a = [] := by
      rcases hs with h | ⟨b, off, h, _⟩
      · exact h
      · cases h
    subst ha
    have hrun := run_append_owned_none (P := Tryd.prog) (w := w) B 24 T 3 i0 1 Tryd.underlying24 hinf v N.length _ ho
    refine ⟨v, w, hrun, ?_, World.grownBy.refl _ _⟩
    unfold Own
    rw [List.append_nil]; exact ho
  | some ad =>
    have hn : ∀ j u, (a.map fun d => Value.int .i64 (d : Nat))[j]? = some u → w.cell? (ad.add j) = some u := by
      rcases hs with h | ⟨b, off, h, hc⟩
      · subst h; intro j u hu; simp at hu
      · simp only [Option.some.injEq] at h
        subst h
        exact news_at hc
    obtain ⟨v', w', h1, h2, h3, _⟩ := run_append_own (P := Tryd.prog) (w := w) B 24 T 3 i0 (.int .i64 0) 1 8 Tryd.underlying24 hinf hz0 hz1 hz2 rfl (by decide) v N.length _ ho ad a.length cq (a.map fun d => Value.int .i64 (d : Nat)) (by simp) hn (by intro u hu; rw [List.mem_map] at hu; obtain ⟨d, _, rfl⟩ := hu; rfl) (by simp only [maxLen]; omega) (by omega) hB
    refine ⟨v', w', h1, ?_, h3⟩
    unfold Own
    rw [List.length_append, List.map_append]
    exact h2

/-- an append, guarded or not, whose run is known. -/
theorem wpList_append_run {P : Program} {w w' : World} {ops : Array Oper} {rest : List Oper} {o : Oper} {a : Act} {Q : Exit → Act → World → Prop} (hw : Region.wanted o (yielded ops a.tmps) = true) (s x : Operand) (t : TypeId)
    (ho : o.op = .call { callee := .builtin .append, args := #[s, x], argTypes := #[t, t] }) (v u v' : Value) (hs : a.eval s = v) (hx : a.eval x = u)
    (hrun : (Builtin.append_ #[t, t] o.type #[v, u]).run P w = .ok v' w') (h : wpList P ops Q rest (a.put o.dst v') w') : wpList P ops Q (o :: rest) a w := by
  refine wpList_step fun K hK => ?_
  simp only [hw, if_true]
  unfold Oper.wp
  simp [execOp, ho, resolve, invoke, builtin, hs, hx, hrun, Result.andThen]
  exact hK _ _ h

end Go.Proofs.YtalnfbbggmhbfaaDoor
