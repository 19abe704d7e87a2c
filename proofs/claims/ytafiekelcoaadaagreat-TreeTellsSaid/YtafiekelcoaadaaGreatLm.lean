/- Trees in order, plain: what each node's kids are. -/
import Derived.Test.YtafiekelcoaadaaGreatLh

namespace Go.Proofs.YtafiekelcoaadaaGreat
open Go.RowKit Tnr Tnt

theorem rk_cons (F : Nat → Nat × Nat) (k : Int) (ks : List Int) (f d : Nat) : rk F (k :: ks) f d = if f = 0 ∨ k ≠ (f : Int) - 1 then none else rk F ks (F (f - 1)).1 (max d (F (f - 1)).2) := rfl
theorem rk_congr {F G : Nat → Nat × Nat} : ∀ {ks : List Int} {f d : Nat}, (∀ j, j < f → F j = G j) → (∀ j, j < f → (F j).1 ≤ j) → rk F ks f d = rk G ks f d
  | [], _, _, _, _ => rfl
  | k :: ks, f, d, h, hl => by
    rw [rk_cons, rk_cons]
    by_cases hc : f = 0 ∨ k ≠ (f : Int) - 1
    · rw [if_pos hc, if_pos hc]
    · rw [if_neg hc, if_neg hc, h (f - 1) (by omega)]
      have h1 := hl (f - 1) (by omega)
      rw [h (f - 1) (by omega)] at h1
      exact rk_congr (fun j hj => h j (by omega)) (fun j hj => hl j (by omega))
theorem rk_mem {F : Nat → Nat × Nat} : ∀ {ks : List Int} {f d f1 d1 : Nat}, (∀ j, j < f → (F j).1 ≤ j) → rk F ks f d = some (f1, d1) → ∀ k ∈ ks, 0 ≤ k ∧ k < (f : Int)
  | [], _, _, _, _, _, _ => fun k h => by simp at h
  | x :: ks, f, d, f1, d1, hl, h => by
    rw [rk_cons] at h
    by_cases hc : f = 0 ∨ x ≠ (f : Int) - 1
    · rw [if_pos hc] at h; cases h
    · rw [if_neg hc] at h
      have h1 := hl (f - 1) (by omega)
      intro k hk
      rcases List.mem_cons.1 hk with rfl | hk
      · omega
      · have := rk_mem (fun j hj => hl j (by omega)) h k hk
        omega
/-- the nodes' kids, of nodes in order. -/
def OrdOk (ns : List Nd) (l : List (Nat × Nat)) : Prop :=
  l.length = ns.length ∧ FOk (gf l) ns.length ∧ ∀ i (h : i < ns.length), ∃ d, rk (gf l) ns[i].kids.reverse i 0 = some ((gf l i).1, d) ∧ (gf l i).2 = d + 1
theorem gf_append_lt {l m : List (Nat × Nat)} {i : Nat} (h : i < l.length) : gf (l ++ m) i = gf l i := by
  unfold gf
  rw [List.getD_eq_getElem?_getD, List.getD_eq_getElem?_getD, List.getElem?_append_left h]
theorem ordG_spec : ∀ (ns : List Nd) (acc l : List (Nat × Nat)), FOk (gf acc) acc.length → ordG ns acc = some l →
    (∃ m, l = acc ++ m) ∧ l.length = acc.length + ns.length ∧ FOk (gf l) l.length ∧ ∀ i (h : i < ns.length), ∃ d, rk (gf l) ns[i].kids.reverse (acc.length + i) 0 = some ((gf l (acc.length + i)).1, d) ∧ (gf l (acc.length + i)).2 = d + 1
  | [], acc, l, hF, h => by
    simp only [ordG, Option.some.injEq] at h
    subst h
    exact ⟨⟨[], by simp⟩, by simp, hF, fun i h => by simp at h⟩
  | n :: ns, acc, l, hF, h => by
    cases hr : rk (gf acc) n.kids.reverse acc.length 0 with
    | none => rw [ordG_none hr] at h; cases h
    | some x =>
      obtain ⟨f, d⟩ := x
      rw [ordG_cons hr] at h
      obtain ⟨h1, h2⟩ := rk_le hF (Nat.le_refl _) (Nat.zero_le _) hr
      have hF2 := fok_snoc rfl hF h1 h2
      obtain ⟨⟨m, hm⟩, hlen, hF3, hall⟩ := ordG_spec ns (acc ++ [(f, d + 1)]) l (by rw [List.length_append]; exact hF2) h
      have hlt : ∀ j, j < acc.length → gf l j = gf acc j := fun j hj => by rw [hm, List.append_assoc, gf_append_lt hj]
      have heq : gf l acc.length = (f, d + 1) := by
        rw [hm, gf_append_lt (by rw [List.length_append]; simp), gf_snoc_eq]
      refine ⟨⟨(f, d + 1) :: m, by rw [hm, List.append_assoc]; rfl⟩, by rw [hlen, List.length_append]; simp; omega, hF3, fun i hi => ?_⟩
      cases i with
      | zero =>
        refine ⟨d, ?_, by rw [Nat.add_zero, heq]⟩
        rw [Nat.add_zero, heq]
        rw [← hr]
        exact (rk_congr (fun j hj => (hlt j hj).symm) (fun j hj => (hF j hj).1)).symm
      | succ i =>
        obtain ⟨d2, h3, h4⟩ := hall i (by simpa using hi)
        rw [List.length_append, show acc.length + [(f, d + 1)].length + i = acc.length + (i + 1) by simp; omega] at h3 h4
        exact ⟨d2, h3, h4⟩
theorem ordT_ok {ns : List Nd} {l : List (Nat × Nat)} (h : ordT ns = some l) : OrdOk ns l ∧ (gf l (ns.length - 1)).1 = 0 ∧ 1 ≤ ns.length ∧ ns.length ≤ 4000 := by
  have hlen := ordT_len h
  unfold ordT at h
  rw [if_neg (by omega)] at h
  cases hg : ordG ns [] with
  | none => rw [hg] at h; cases h
  | some m =>
    rw [hg] at h
    simp only at h
    by_cases h0 : (gf m (ns.length - 1)).1 = 0
    · rw [if_pos h0] at h
      simp only [Option.some.injEq] at h
      subst h
      obtain ⟨_, h2, h3, h4⟩ := ordG_spec ns [] m (fun j hj => absurd hj (Nat.not_lt_zero _)) hg
      rw [List.length_nil, Nat.zero_add] at h2
      refine ⟨⟨h2, by rw [h2] at h3; exact h3, fun i hi => ?_⟩, h0, hlen⟩
      obtain ⟨d, h5, h6⟩ := h4 i hi
      rw [List.length_nil, Nat.zero_add] at h5 h6
      exact ⟨d, h5, h6⟩
    · rw [if_neg h0] at h; cases h
theorem ordOk_kid {ns : List Nd} {l : List (Nat × Nat)} (h : OrdOk ns l) {i : Nat} (hi : i < ns.length) : ∀ k ∈ ns[i].kids, 0 ≤ k ∧ k < (i : Int) := by
  obtain ⟨d, h1, _⟩ := h.2.2 i hi
  have := rk_mem (fun j hj => (h.2.1 j (by omega)).1) h1
  intro k hk
  exact this k (by simpa using hk)
end Go.Proofs.YtafiekelcoaadaaGreat
