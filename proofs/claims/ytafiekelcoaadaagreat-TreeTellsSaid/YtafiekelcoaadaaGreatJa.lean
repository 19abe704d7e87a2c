/- Plain: groups in the order in which they begin, told by going down the kids; the same as by sorting places. -/
import Derived.Test.YtafiekelcoaadaaGreatMt

namespace Go.Proofs.YtafiekelcoaadaaGreat
open Go.RowKit Tnr Tnt

/-- the groups' places of what a node covers, a node ahead of its kids. -/
def begP (L : List Nd) : Nat → Nat → List Nat
  | 0, _ => []
  | f + 1, k => (if (nN L k).kind = 5 then [k] else []) ++ (nN L k).kids.flatMap fun j => begP L f j.toNat
def preP (L : List Nd) (k : Nat) : List Nat := begP L (k + 1) k
def begB (L : List Nd) (k : Nat) : List Int := (preP L k).map fun p => (nN L p).group
theorem nN_at {L : List Nd} {k : Nat} (h : k < L.length) : nN L k = L[k] := by
  unfold nN; rw [List.getD_eq_getElem?_getD, List.getElem?_eq_getElem h]; rfl
theorem flatMap_congr6 {α β : Type} {f g : α → List β} : ∀ {l : List α}, (∀ x ∈ l, f x = g x) → l.flatMap f = l.flatMap g
  | [], _ => rfl
  | a :: l, h => by rw [List.flatMap_cons, List.flatMap_cons, h a (by simp), flatMap_congr6 fun x hx => h x (List.mem_cons_of_mem _ hx)]
theorem begP_fuel {L : List Nd} {l : List (Nat × Nat)} (h : OrdOk L l) : ∀ k, k < L.length → ∀ f, k < f → begP L f k = preP L k := by
  intro k
  induction k using Nat.strongRecOn with
  | _ k ih =>
    intro hk f hf
    obtain ⟨g, rfl⟩ : ∃ g, f = g + 1 := ⟨f - 1, by omega⟩
    have hkids : ∀ j ∈ (nN L k).kids, 0 ≤ j ∧ j < (k : Int) := by rw [nN_at hk]; exact ordOk_kid h hk
    unfold preP
    show (if (nN L k).kind = 5 then [k] else []) ++ _ = (if (nN L k).kind = 5 then [k] else []) ++ _
    congr 1
    refine flatMap_congr6 fun j hj => ?_
    have := hkids j hj
    rw [ih j.toNat (by omega) (by omega) g (by omega), ih j.toNat (by omega) (by omega) k (by omega)]
theorem preP_eq {L : List Nd} {l : List (Nat × Nat)} (h : OrdOk L l) {k : Nat} (hk : k < L.length) : preP L k = (if (nN L k).kind = 5 then [k] else []) ++ (nN L k).kids.flatMap fun j => preP L j.toNat := by
  have hkids : ∀ j ∈ (nN L k).kids, 0 ≤ j ∧ j < (k : Int) := by rw [nN_at hk]; exact ordOk_kid h hk
  show (if (nN L k).kind = 5 then [k] else []) ++ _ = (if (nN L k).kind = 5 then [k] else []) ++ _
  congr 1
  refine flatMap_congr6 fun j hj => ?_
  have := hkids j hj
  exact begP_fuel h j.toNat (by omega) k (by omega)
theorem begB_eq {L : List Nd} {l : List (Nat × Nat)} (h : OrdOk L l) {k : Nat} (hk : k < L.length) : begB L k = (if (nN L k).kind = 5 then [(nN L k).group] else []) ++ (nN L k).kids.flatMap fun j => begB L j.toNat := by
  unfold begB
  rw [preP_eq h hk, List.map_append, List.map_flatMap]
  congr 1
  split <;> rfl
def ltP (F : Nat → Nat × Nat) (a b : Nat) : Prop := (F a).1 < (F b).1 ∨ ((F a).1 = (F b).1 ∧ b < a)
def PreOk (L : List Nd) (F : Nat → Nat × Nat) (k : Nat) : Prop := (∀ x, x ∈ preP L k ↔ (F k).1 ≤ x ∧ x ≤ k ∧ (nN L x).kind = 5) ∧ (preP L k).Pairwise (ltP F)
theorem rk_pre {L : List Nd} {F : Nat → Nat × Nat} : ∀ {ks : List Int} {c d a e : Nat}, (∀ j, j < c → (F j).1 ≤ j) → (∀ j, j < c → Lam F j) → (∀ j, j < c → PreOk L F j) → rk F ks c d = some (a, e) →
    (∀ x, x ∈ ks.reverse.flatMap (fun j => preP L j.toNat) ↔ a ≤ x ∧ x < c ∧ (nN L x).kind = 5) ∧ (ks.reverse.flatMap fun j => preP L j.toNat).Pairwise (ltP F)
  | [], c, d, a, e, _, _, _, h => by
    simp only [rk, Option.some.injEq, Prod.mk.injEq] at h
    refine ⟨fun x => ?_, by simp⟩
    simp only [List.reverse_nil, List.flatMap_nil, List.not_mem_nil, false_iff]
    omega
  | k :: ks, c, d, a, e, hl, hL, hS, h => by
    rw [rk_cons] at h
    by_cases hc : c = 0 ∨ k ≠ (c : Int) - 1
    · rw [if_pos hc] at h; cases h
    · rw [if_neg hc] at h
      have h3 := hl (c - 1) (by omega)
      have hlow := rk_low (fun j hj => hl j (by omega)) h
      obtain ⟨ih1, ih2⟩ := rk_pre (ks := ks) (fun j hj => hl j (by omega)) (fun j hj => hL j (by omega)) (fun j hj => hS j (by omega)) h
      obtain ⟨s1, s2⟩ := hS (c - 1) (by omega)
      have hlam := hL (c - 1) (by omega)
      rw [List.reverse_cons, List.flatMap_append, List.flatMap_cons, List.flatMap_nil, List.append_nil, show k.toNat = c - 1 by omega]
      refine ⟨fun x => ?_, ?_⟩
      · rw [List.mem_append, ih1, s1]
        constructor
        · rintro (⟨g1, g2, g3⟩ | ⟨g1, g2, g3⟩)
          · exact ⟨g1, by omega, g3⟩
          · exact ⟨by omega, by omega, g3⟩
        · rintro ⟨g1, g2, g3⟩
          by_cases hx : x < (F (c - 1)).1
          · exact .inl ⟨g1, hx, g3⟩
          · exact .inr ⟨by omega, by omega, g3⟩
      · rw [List.pairwise_append]
        refine ⟨ih2, s2, fun x hx y hy => ?_⟩
        have hx2 := (ih1 x).1 hx
        have hy2 := (s1 y).1 hy
        have hyl := (hlam y hy2.1 hy2.2.1).1
        have hxl := hl x (by omega)
        exact .inl (by omega)
theorem pre_ok {L : List Nd} {l : List (Nat × Nat)} (h : OrdOk L l) : ∀ k, k < L.length → PreOk L (gf l) k := by
  intro k
  induction k using Nat.strongRecOn with
  | _ k ih =>
    intro hk
    obtain ⟨d, h3, _⟩ := h.2.2 k hk
    have hlow := (h.2.1 k hk).1
    obtain ⟨g1, g2⟩ := rk_pre (L := L) (fun j hj => (h.2.1 j (by omega)).1) (fun j hj => lam_ok h j (by omega)) (fun j hj => ih j hj (by omega)) h3
    rw [List.reverse_reverse, ← nN_at hk] at g1 g2
    have hlam := lam_ok h k hk
    unfold PreOk
    rw [preP_eq h hk]
    by_cases h5 : (nN L k).kind = 5
    · rw [if_pos h5]
      refine ⟨fun x => ?_, ?_⟩
      · rw [List.mem_append, g1, List.mem_singleton]
        constructor
        · rintro (rfl | ⟨e1, e2, e3⟩)
          · exact ⟨hlow, Nat.le_refl _, h5⟩
          · exact ⟨e1, by omega, e3⟩
        · rintro ⟨e1, e2, e3⟩
          by_cases hx : x = k
          · exact .inl hx
          · exact .inr ⟨e1, by omega, e3⟩
      · rw [List.pairwise_append]
        refine ⟨List.pairwise_singleton _ _, g2, fun x hx y hy => ?_⟩
        rw [List.mem_singleton] at hx
        subst hx
        have hy2 := (g1 y).1 hy
        have := (hlam y hy2.1 (by omega)).1
        unfold ltP
        omega
    · rw [if_neg h5, List.nil_append]
      refine ⟨fun x => ?_, g2⟩
      rw [g1]
      constructor
      · rintro ⟨e1, e2, e3⟩; exact ⟨e1, by omega, e3⟩
      · rintro ⟨e1, e2, e3⟩
        refine ⟨e1, ?_, e3⟩
        by_cases hx : x = k
        · subst hx; exact absurd e3 h5
        · omega
theorem sorted_eq {α : Type} {lt : α → α → Prop} (irr : ∀ a, ¬ lt a a) (tr : ∀ a b c, lt a b → lt b c → lt a c) : ∀ {l m : List α}, l.Pairwise lt → m.Pairwise lt → (∀ x, x ∈ l ↔ x ∈ m) → l = m
  | [], [], _, _, _ => rfl
  | [], b :: m, _, _, h => absurd ((h b).2 (by simp)) (by simp)
  | a :: l, [], _, _, h => absurd ((h a).1 (by simp)) (by simp)
  | a :: l, b :: m, hl, hm, h => by
    rw [List.pairwise_cons] at hl hm
    have e : a = b := by
      rcases List.mem_cons.1 ((h a).1 (by simp)) with h1 | h1
      · exact h1
      · rcases List.mem_cons.1 ((h b).2 (by simp)) with h2 | h2
        · exact h2.symm
        · exact absurd (tr _ _ _ (hl.1 b h2) (hm.1 a h1)) (irr a)
    subst e
    rw [sorted_eq irr tr hl.2 hm.2 fun x => ?_]
    constructor
    · intro hx
      rcases List.mem_cons.1 ((h x).1 (List.mem_cons_of_mem _ hx)) with rfl | h1
      · exact absurd (hl.1 x hx) (irr x)
      · exact h1
    · intro hx
      rcases List.mem_cons.1 ((h x).2 (List.mem_cons_of_mem _ hx)) with rfl | h1
      · exact absurd (hm.1 x hx) (irr x)
      · exact h1
theorem pl_mem {L : List Nd} {p : Int} : p ∈ plN [5] L ↔ ∃ j : Nat, p = (j : Int) ∧ j < L.length ∧ (nN L j).kind = 5 := by
  unfold plN
  rw [List.mem_map]
  constructor
  · rintro ⟨x, hx, rfl⟩
    obtain ⟨j, h1, h2, h3⟩ := (evN_mem [5] L 0 x).1 hx
    have hj := (List.getElem?_eq_some_iff.1 h2).1
    refine ⟨j, by rw [h1]; simp, hj, ?_⟩
    rw [nN_get h2]; simpa using h3
  · rintro ⟨j, rfl, hj, h5⟩
    exact ⟨(j, nN L j), (evN_mem [5] L 0 _).2 ⟨j, by simp, by rw [nN_at hj, List.getElem?_eq_getElem hj], by simpa using h5⟩, rfl⟩
theorem ev_ge (ks : List Int) : ∀ (L : List Nd) (k : Nat), ∀ x ∈ evN ks k L, k ≤ x.1
  | L, k, x, hx => by
    obtain ⟨j, h1, _⟩ := (evN_mem ks L k x).1 hx
    omega
theorem ev_nodup (ks : List Int) : ∀ (L : List Nd) (k : Nat), ((evN ks k L).map fun x => ((x.1 : Nat) : Int)).Pairwise (fun a b => a ≠ b)
  | [], _ => List.Pairwise.nil
  | d :: L, k => by
    have ih := ev_nodup ks L (k + 1)
    rw [show evN ks k (d :: L) = if d.kind ∈ ks then (k, d) :: evN ks (k + 1) L else evN ks (k + 1) L from rfl]
    by_cases h : d.kind ∈ ks
    · rw [if_pos h, List.map_cons, List.pairwise_cons]
      refine ⟨fun y hy => ?_, ih⟩
      obtain ⟨x, hx, rfl⟩ := List.mem_map.1 hy
      have := ev_ge ks L (k + 1) x hx
      show ((k : Nat) : Int) ≠ _
      omega
    · rw [if_neg h]; exact ih
end Go.Proofs.YtafiekelcoaadaaGreat
