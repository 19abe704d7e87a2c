/- Plain lemmas on classes: numbers of code points as they are met; the rows of these; one list of rows is right; the rows of pieces. Of no program. -/
import Derived.Test.YtaeodgeefjmamaaGreatQb
namespace Tnr

/-- numbers of code points, as they are met. -/
structure Numb (S : List (List R)) (num : Int → Nat) : Prop where
  tell : ∀ a b, Pt a → Pt b → (num a = num b ↔ alike S a b)
  met : ∀ c, Pt c → ∀ k, k < num c → ∃ d, Pt d ∧ d < c ∧ num d = k
theorem Numb.step {S : List (List R)} {f g : Int → Nat} (hf : Numb S f) (hg : Numb S g) {c : Int} (hc : Pt c) (ih : ∀ d, Pt d → d < c → f d = g d) : ¬ f c < g c := by
  intro h
  obtain ⟨d, hd, hlt, e⟩ := hg.met c hc _ h
  have h1 := ih d hd hlt
  have h2 := (hf.tell d c hd hc).1 (by omega)
  have h3 := (hg.tell d c hd hc).2 h2
  omega
theorem Numb.one {S : List (List R)} {f g : Int → Nat} (hf : Numb S f) (hg : Numb S g) : ∀ (n : Nat) (c : Int), Pt c → c < n → f c = g c
  | 0, c, hc, h => by have := hc.1; omega
  | n + 1, c, hc, h => by
    have ih : ∀ d, Pt d → d < c → f d = g d := fun d hd hlt => Numb.one hf hg n d hd (by omega)
    have h1 := Numb.step hf hg hc ih
    have h2 := Numb.step hg hf hc fun d hd hlt => (ih d hd hlt).symm
    omega
theorem Numb.same {S : List (List R)} {f g : Int → Nat} (hf : Numb S f) (hg : Numb S g) (c : Int) (hc : Pt c) : f c = g c := Numb.one hf hg (c.toNat + 1) c hc (by have := hc.1; omega)
theorem Numb.cong {S T : List (List R)} {f : Int → Nat} (h : Numb S f) (e : ∀ a b, Pt a → Pt b → (alike S a b ↔ alike T a b)) : Numb T f := ⟨fun a b ha hb => (h.tell a b ha hb).trans (e a b ha hb), h.met⟩

def gl (L : List (List R)) (i : Nat) : List R := L.getD i []
theorem gl_get {L : List (List R)} {i : Nat} (h : i < L.length) : gl L i = L[i] := by
  unfold gl; rw [List.getD_eq_getElem?_getD, List.getElem?_eq_getElem h]; rfl
/-- L are the classes, by these numbers. -/
structure RowsOf (num : Int → Nat) (L : List (List R)) : Prop where
  lt : ∀ c, Pt c → num c < L.length
  all : ∀ i, i < L.length → ∃ c, Pt c ∧ num c = i
  right : ∀ i, i < L.length → Rt (gl L i)
  has : ∀ i, i < L.length → ∀ c, Has (gl L i) c ↔ Pt c ∧ num c = i
/-- L are the classes by S. -/
def Parts (S L : List (List R)) : Prop := ∃ num, Numb S num ∧ RowsOf num L
theorem RowsOf.pos {num : Int → Nat} {L : List (List R)} (h : RowsOf num L) : 0 < L.length := Nat.lt_of_le_of_lt (Nat.zero_le _) (h.lt 0 ⟨Int.le_refl _, by omega⟩)
theorem rowsOf_le {f g : Int → Nat} {L M : List (List R)} (hf : RowsOf f L) (hg : RowsOf g M) (e : ∀ c, Pt c → f c = g c) : L.length ≤ M.length := by
  have hp := hf.pos
  obtain ⟨c, hc, h⟩ := hf.all (L.length - 1) (by omega)
  have := hg.lt c hc
  have := e c hc
  omega
theorem rowsOf_one {f g : Int → Nat} {L M : List (List R)} (hf : RowsOf f L) (hg : RowsOf g M) (e : ∀ c, Pt c → f c = g c) : L = M := by
  have hl : L.length = M.length := Nat.le_antisymm (rowsOf_le hf hg e) (rowsOf_le hg hf fun c hc => (e c hc).symm)
  refine List.ext_getElem hl fun i h1 h2 => ?_
  rw [← gl_get h1, ← gl_get h2]
  refine (hf.right i h1).one (hg.right i h2) fun c => ?_
  rw [hf.has i h1, hg.has i h2]
  constructor
  · rintro ⟨a, b⟩; exact ⟨a, (e c a).symm.trans b⟩
  · rintro ⟨a, b⟩; exact ⟨a, (e c a).trans b⟩
theorem Parts.one {S L M : List (List R)} (h : Parts S L) (k : Parts S M) : L = M := by
  obtain ⟨f, hf, hL⟩ := h
  obtain ⟨g, hg, hM⟩ := k
  exact rowsOf_one hL hM (hf.same hg)
theorem Parts.cong {S T L : List (List R)} (h : Parts S L) (e : ∀ a b, Pt a → Pt b → (alike S a b ↔ alike T a b)) : Parts T L := by
  obtain ⟨f, hf, hL⟩ := h
  exact ⟨f, hf.cong e, hL⟩
theorem More.cong {S T : List (List R)} (h : More S) (e : ∀ a b, Pt a → Pt b → (alike S a b ↔ alike T a b)) : More T := by
  obtain ⟨P, h1, h2, h3⟩ := h
  exact ⟨P, h1, h2, List.Pairwise.imp_of_mem (fun {a b} ha hb hn hal => hn ((e a b (h2 a ha) (h2 b hb)).2 hal)) h3⟩
theorem nodup_le : ∀ (n : Nat) (l : List Nat), l.Nodup → (∀ x ∈ l, x < n) → l.length ≤ n
  | 0, l, _, h => by
    cases l with
    | nil => exact Nat.le_refl _
    | cons x l => exact absurd (h x (by simp)) (by omega)
  | n + 1, l, hd, h => by
    by_cases hm : n ∈ l
    · have h1 := List.length_erase_of_mem hm
      have h2 := nodup_le n (l.erase n) (hd.erase n) fun x hx => by
        have := (hd.mem_erase_iff).1 hx
        have := h x this.2
        omega
      omega
    · have := nodup_le n l hd fun x hx => by
        have := h x hx
        have : x ≠ n := fun e => hm (e ▸ hx)
        omega
      omega
theorem More.not {S L : List (List R)} (h : More S) (k : Parts S L) : 60 < L.length := by
  obtain ⟨P, h1, h2, h3⟩ := h
  obtain ⟨f, hf, hL⟩ := k
  have hd : (P.map f).Nodup := by
    unfold List.Nodup
    rw [List.pairwise_map]
    exact List.Pairwise.imp_of_mem (fun {a b} ha hb hn e => hn ((hf.tell a b (h2 a ha) (h2 b hb)).1 e)) h3
  have := nodup_le L.length _ hd fun x hx => by
    obtain ⟨c, hc, rfl⟩ := List.mem_map.1 hx
    exact hL.lt c (h2 c hc)
  rw [List.length_map] at this
  omega

/-! ### numbers of pieces -/
theorem nm_le : ∀ {l : List Nat} {n m : Nat}, Nm n l m → n ≤ m
  | [], n, m, h => Nat.le_of_eq h
  | k :: l, n, m, h => by have := nm_le h.2; split at this <;> omega
theorem nm_lt : ∀ {l : List Nat} {n m : Nat}, Nm n l m → ∀ x ∈ l, x < m
  | [], _, _, _, x, hx => by simp at hx
  | k :: l, n, m, h, x, hx => by
    rcases List.mem_cons.1 hx with rfl | hx
    · have := nm_le h.2
      have := h.1
      split at * <;> omega
    · exact nm_lt h.2 x hx
theorem nm_all : ∀ {l : List Nat} {n m : Nat}, Nm n l m → ∀ k, n ≤ k → k < m → k ∈ l
  | [], n, m, h, k, h1, h2 => by have e : n = m := h; omega
  | x :: l, n, m, h, k, h1, h2 => by
    by_cases e : k = x
    · exact e ▸ List.mem_cons_self
    · refine List.mem_cons_of_mem _ (nm_all h.2 k ?_ h2)
      have := h.1
      split <;> omega
theorem nm_met : ∀ {l : List (Int × Nat)} {p : Int × Nat} {n m : Nat}, Wf (p :: l) → Nm n ((p :: l).map Prod.snd) m → ∀ c, p.1 ≤ c → ∀ k, n ≤ k → k < cls (p :: l) c → ∃ d, p.1 ≤ d ∧ d < c ∧ cls (p :: l) d = k
  | [], p, n, m, _, h, c, _, k, h1, h2 => by
    have := h.1
    have e : cls [p] c = p.2 := rfl
    omega
  | q :: l, p, n, m, hw, h, c, hc, k, h1, h2 => by
    have hlt := hw.1
    by_cases hq : c < q.1
    · have e : cls (p :: q :: l) c = p.2 := by rw [cls, if_pos hq]
      have := h.1
      omega
    · have e : cls (p :: q :: l) c = cls (q :: l) c := cls_next (by omega)
      rw [e] at h2
      by_cases hk : (if p.2 = n then n + 1 else n) ≤ k
      · obtain ⟨d, a1, a2, a3⟩ := nm_met hw.2.2 h.2 c (by omega) k hk h2
        exact ⟨d, by omega, a2, by rw [cls_next a1]; exact a3⟩
      · refine ⟨p.1, Int.le_refl _, by omega, ?_⟩
        rw [cls, if_pos hlt]
        split at hk <;> omega
theorem Good.numb {S : List (List R)} {ps : List (Int × Nat)} {n : Nat} (h : Good S ps n) : Numb S (cls ps) := by
  refine ⟨h.tell, fun c hc k hk => ?_⟩
  obtain ⟨a, l, rfl⟩ := h.start
  obtain ⟨d, h1, h2, h3⟩ := nm_met h.wf h.nm c hc.1 k (Nat.zero_le _) hk
  exact ⟨d, ⟨h1, by have := hc.2; omega⟩, h2, h3⟩

/-! ### rows of pieces -/
/-- each piece as a range, with its class. -/
def rng : List (Int × Nat) → List (R × Nat)
  | [] => []
  | p :: l => ((p.1, ends (p :: l)), p.2) :: rng l
theorem rng_length : ∀ l, (rng l).length = l.length
  | [] => rfl
  | p :: l => by rw [rng, List.length_cons, rng_length l, List.length_cons]
def rowOf (q : List (R × Nat)) (i : Nat) : List R := (q.filter fun x => x.2 == i).map Prod.fst
theorem rowOf_nil (i : Nat) : rowOf [] i = [] := rfl
theorem rowOf_cons (x : R × Nat) (q : List (R × Nat)) (i : Nat) : rowOf (x :: q) i = if x.2 = i then x.1 :: rowOf q i else rowOf q i := by
  unfold rowOf
  rw [List.filter_cons]
  by_cases h : x.2 = i
  · rw [if_pos h, if_pos (by simpa using h), List.map_cons]
  · rw [if_neg h, if_neg (by simpa using h)]
theorem rowOf_snoc (x : R × Nat) (q : List (R × Nat)) (i : Nat) : rowOf (q ++ [x]) i = if x.2 = i then rowOf q i ++ [x.1] else rowOf q i := by
  unfold rowOf
  rw [List.filter_append, List.map_append]
  by_cases h : x.2 = i
  · rw [if_pos h]; simp [h]
  · rw [if_neg h]; simp [h]
theorem rowOf_length (q : List (R × Nat)) (i : Nat) : (rowOf q i).length ≤ q.length := by
  unfold rowOf; rw [List.length_map]; exact List.length_filter_le _ _
theorem rowOf_right (i : Nat) : ∀ (l : List (Int × Nat)) (p : Int × Nat) (last : Int), Wf (p :: l) → (last + 1 < p.1 ∨ (last < p.1 ∧ p.2 ≠ i)) → RF last (rowOf (rng (p :: l)) i)
  | [], p, last, h, hl => by
    rw [rng, rowOf_cons]
    have h' : p.1 ≤ 1114111 := h
    simp only
    split
    · exact ⟨by show last + 1 < p.1; omega, h', Int.le_refl _, trivial⟩
    · trivial
  | q :: l, p, last, h, hl => by
    have hlt := h.1
    have hne := h.2.1
    rw [rng, rowOf_cons]
    simp only
    have he : ends (p :: q :: l) = q.1 - 1 := rfl
    have hq := Wf.head_le h.2.2
    split
    · rename_i e
      refine ⟨by show last + 1 < p.1; omega, by rw [he]; show p.1 ≤ q.1 - 1; omega, by rw [he]; show q.1 - 1 ≤ _; omega, ?_⟩
      exact rowOf_right i l q _ h.2.2 (.inr ⟨by rw [he]; show q.1 - 1 < q.1; omega, fun e2 => hne (e.trans e2.symm)⟩)
    · exact rowOf_right i l q _ h.2.2 (.inl (by omega))
theorem rowOf_cov (i : Nat) : ∀ (l : List (Int × Nat)) (p : Int × Nat), Wf (p :: l) → ∀ c, Cov (rowOf (rng (p :: l)) i) c ↔ p.1 ≤ c ∧ c ≤ 1114111 ∧ cls (p :: l) c = i
  | [], p, h, c => by
    rw [rng, rowOf_cons]
    simp only
    have e : cls [p] c = p.2 := rfl
    rw [e]
    split
    · rename_i h2
      rw [cov_cons]
      show (p.1 ≤ c ∧ c ≤ 1114111) ∨ Cov (rowOf [] i) c ↔ _
      simp [rowOf_nil, cov_nil, h2]
    · rename_i h2
      show Cov (rowOf [] i) c ↔ _
      simp [rowOf_nil, cov_nil, h2]
  | q :: l, p, h, c => by
    have hlt := h.1
    have hq := Wf.head_le h.2.2
    have ih := rowOf_cov i l q h.2.2 c
    rw [rng, rowOf_cons]
    simp only
    have he : ends (p :: q :: l) = q.1 - 1 := rfl
    by_cases hc : c < q.1
    · have e : cls (p :: q :: l) c = p.2 := by rw [cls, if_pos hc]
      rw [e]
      split
      · rename_i h2
        rw [cov_cons, ih, he]
        constructor
        · rintro (⟨a, b⟩ | ⟨a, b, d⟩)
          · exact ⟨a, by simp only at b; omega, h2⟩
          · omega
        · rintro ⟨a, b, d⟩
          exact .inl ⟨a, by show c ≤ q.1 - 1; omega⟩
      · rename_i h2
        rw [ih]
        constructor
        · rintro ⟨a, b, d⟩; omega
        · rintro ⟨a, b, d⟩; exact absurd d h2
    · have e : cls (p :: q :: l) c = cls (q :: l) c := cls_next (by omega)
      rw [e]
      split
      · rw [cov_cons, ih, he]
        constructor
        · rintro (⟨a, b⟩ | ⟨a, b, d⟩)
          · simp only at b; omega
          · exact ⟨by omega, b, d⟩
        · rintro ⟨a, b, d⟩
          exact .inr ⟨by omega, b, d⟩
      · rw [ih]
        constructor
        · rintro ⟨a, b, d⟩; exact ⟨by omega, b, d⟩
        · rintro ⟨a, b, d⟩; exact ⟨by omega, b, d⟩
/-- the rows of pieces. -/
def setsOf (ps : List (Int × Nat)) (n : Nat) : List (List R) := (List.range n).map (rowOf (rng ps))
theorem setsOf_length (ps : List (Int × Nat)) (n : Nat) : (setsOf ps n).length = n := by simp [setsOf]
theorem setsOf_get (ps : List (Int × Nat)) {n i : Nat} (h : i < n) : gl (setsOf ps n) i = rowOf (rng ps) i := by
  rw [gl_get (by rw [setsOf_length]; exact h)]
  simp [setsOf]
theorem Good.rows {S : List (List R)} {ps : List (Int × Nat)} {n : Nat} (h : Good S ps n) : RowsOf (cls ps) (setsOf ps n) := by
  obtain ⟨a, l, rfl⟩ := h.start
  refine ⟨fun c hc => ?_, fun i hi => ?_, fun i hi => ?_, fun i hi c => ?_⟩
  · rw [setsOf_length]
    obtain ⟨x, hx, e⟩ := cls_mem l (0, a) c
    rw [← e]
    exact nm_lt h.nm x.2 (List.mem_map_of_mem hx)
  · rw [setsOf_length] at hi
    obtain ⟨x, hx, e⟩ := List.mem_map.1 (nm_all h.nm i (Nat.zero_le _) hi)
    have h1 := Wf.above h.wf x hx
    exact ⟨x.1, h1, (cls_at h.wf x hx).trans e⟩
  · rw [setsOf_length] at hi
    rw [setsOf_get _ hi]
    exact rowOf_right i l (0, a) (-2) h.wf (.inl (by show (-2 : Int) + 1 < 0; omega))
  · rw [setsOf_length] at hi
    rw [setsOf_get _ hi, Rt.has (rowOf_right i l (0, a) (-2) h.wf (.inl (by show (-2 : Int) + 1 < 0; omega))), rowOf_cov i l (0, a) h.wf]
    constructor
    · rintro ⟨h1, h2, h3⟩; exact ⟨⟨h1, h2⟩, h3⟩
    · rintro ⟨⟨h1, h2⟩, h3⟩; exact ⟨h1, h2, h3⟩
theorem Good.parts {S : List (List R)} {ps : List (Int × Nat)} {n : Nat} (h : Good S ps n) : Parts S (setsOf ps n) := ⟨_, h.numb, h.rows⟩
end Tnr
