/- Plain lemmas on rows of ranges: the set of code points that a row has; the one right row of a set; what is joined, met, turned round; how many. Of no program. -/
namespace Tnr

theorem sb0 {α : Type _} {i : Nat} {a : α} (l : List α) : l.toArray.setIfInBounds i a = (l.set i a).toArray := by simp
theorem sb1 {α : Type _} {a b : α} (l : List α) : (a :: l).set 0 b = b :: l := rfl
theorem sb2 {α : Type _} {n : Nat} {a b : α} (l : List α) : (a :: l).set (n + 1) b = a :: l.set n b := rfl
abbrev R := Int × Int

def Cov (l : List R) (c : Int) : Prop := ∃ r ∈ l, r.1 ≤ c ∧ c ≤ r.2
def Has (l : List R) (c : Int) : Prop := 0 ≤ c ∧ c ≤ 1114111 ∧ Cov l c
def RF : Int → List R → Prop
  | _, [] => True
  | last, r :: l => last + 1 < r.1 ∧ r.1 ≤ r.2 ∧ r.2 ≤ 1114111 ∧ RF r.2 l
def rfB : Int → List R → Bool
  | _, [] => true
  | last, r :: l => decide (last + 1 < r.1) && decide (r.1 ≤ r.2) && decide (r.2 ≤ 1114111) && rfB r.2 l
theorem rfB_iff : ∀ (l : List R) (last : Int), rfB last l = true ↔ RF last l
  | [], _ => by simp [rfB, RF]
  | r :: l, last => by simp only [rfB, RF, Bool.and_eq_true, decide_eq_true_eq, rfB_iff l r.2, and_assoc]
def Rt (l : List R) : Prop := RF (-2) l
def rightB (l : List R) : Bool := rfB (-2) l

theorem cov_nil (c : Int) : ¬ Cov [] c := by simp [Cov]
theorem cov_cons (r : R) (l : List R) (c : Int) : Cov (r :: l) c ↔ (r.1 ≤ c ∧ c ≤ r.2) ∨ Cov l c := by simp [Cov]
theorem cov_append (l m : List R) (c : Int) : Cov (l ++ m) c ↔ Cov l c ∨ Cov m c := by
  simp only [Cov, List.mem_append, or_and_right, exists_or]
theorem cov_perm {l m : List R} (h : l.Perm m) (c : Int) : Cov l c ↔ Cov m c := by
  simp only [Cov, h.mem_iff]
instance (l : List R) (c : Int) : Decidable (Cov l c) := by unfold Cov; infer_instance
instance (l : List R) (c : Int) : Decidable (Has l c) := by unfold Has; infer_instance

theorem RF.mono : ∀ {l : List R} {a b : Int}, RF a l → b ≤ a → RF b l
  | [], _, _, _, _ => trivial
  | _ :: _, _, _, h, hb => ⟨by have := h.1; omega, h.2⟩
theorem RF.above : ∀ {l : List R} {a c : Int}, RF a l → Cov l c → a + 1 < c
  | [], _, _, _, h => absurd h (cov_nil _)
  | r :: l, a, c, h, hc => by
    obtain ⟨h1, h2, h3, h4⟩ := h
    rcases (cov_cons r l c).1 hc with h | h
    · omega
    · have := RF.above h4 h; omega
theorem RF.under : ∀ {l : List R} {a c : Int}, RF a l → Cov l c → c ≤ 1114111
  | [], _, _, _, h => absurd h (cov_nil _)
  | r :: l, a, c, h, hc => by
    obtain ⟨h1, h2, h3, h4⟩ := h
    rcases (cov_cons r l c).1 hc with h | h
    · omega
    · exact RF.under h4 h
theorem Rt.has {l : List R} (h : Rt l) (c : Int) : Has l c ↔ Cov l c :=
  ⟨fun h => h.2.2, fun hc => ⟨by have := RF.above h hc; omega, RF.under h hc, hc⟩⟩
theorem RF.one : ∀ {l m : List R} {a b : Int}, RF a l → RF b m → (∀ c, Cov l c ↔ Cov m c) → l = m
  | [], [], _, _, _, _, _ => rfl
  | [], s :: m, _, _, _, h2, h => by
    have := (h s.1).2 ((cov_cons s m s.1).2 (.inl ⟨Int.le_refl _, h2.2.1⟩))
    exact absurd this (cov_nil _)
  | r :: l, [], _, _, h1, _, h => by
    have := (h r.1).1 ((cov_cons r l r.1).2 (.inl ⟨Int.le_refl _, h1.2.1⟩))
    exact absurd this (cov_nil _)
  | r :: l, s :: m, _, _, h1, h2, h => by
    obtain ⟨a1, a2, a3, a4⟩ := h1
    obtain ⟨b1, b2, b3, b4⟩ := h2
    have e1 : r.1 = s.1 := by
      have k1 := (cov_cons s m r.1).1 ((h r.1).1 ((cov_cons r l r.1).2 (.inl ⟨Int.le_refl _, a2⟩)))
      have k2 := (cov_cons r l s.1).1 ((h s.1).2 ((cov_cons s m s.1).2 (.inl ⟨Int.le_refl _, b2⟩)))
      have k3 : s.1 ≤ r.1 := by
        rcases k1 with k | k
        · omega
        · have := RF.above b4 k; omega
      have k4 : r.1 ≤ s.1 := by
        rcases k2 with k | k
        · omega
        · have := RF.above a4 k; omega
      omega
    have e2 : r.2 = s.2 := by
      rcases Int.lt_trichotomy r.2 s.2 with k | k | k
      · have k2 := (cov_cons r l (r.2 + 1)).1 ((h (r.2 + 1)).2 ((cov_cons s m (r.2 + 1)).2 (.inl ⟨by omega, by omega⟩)))
        rcases k2 with k2 | k2
        · omega
        · have := RF.above a4 k2; omega
      · exact k
      · have k2 := (cov_cons s m (s.2 + 1)).1 ((h (s.2 + 1)).1 ((cov_cons r l (s.2 + 1)).2 (.inl ⟨by omega, by omega⟩)))
        rcases k2 with k2 | k2
        · omega
        · have := RF.above b4 k2; omega
    have e3 : l = m := RF.one a4 b4 fun c => by
      have hc := h c
      rw [cov_cons, cov_cons, e1, e2] at hc
      constructor
      · intro k
        have k1 := RF.above a4 k
        rcases hc.1 (.inr k) with k2 | k2
        · omega
        · exact k2
      · intro k
        have k1 := RF.above b4 k
        rcases hc.2 (.inr k) with k2 | k2
        · omega
        · exact k2
    rw [e3, show r = s from Prod.ext e1 e2]
theorem Rt.one {l m : List R} (h1 : Rt l) (h2 : Rt m) (h : ∀ c, Has l c ↔ Has m c) : l = m :=
  RF.one h1 h2 fun c => by rw [← h1.has, ← h2.has]; exact h c

def put (l : List R) (r : R) : List R := if max r.1 0 ≤ min r.2 1114111 then l ++ [(max r.1 0, min r.2 1114111)] else l
def puts (m : List R) (l : List R) : List R := l.foldl put m
theorem puts_nil (m : List R) : puts m [] = m := rfl
theorem puts_cons (m : List R) (r : R) (l : List R) : puts m (r :: l) = puts (put m r) l := rfl
theorem puts_append (m a b : List R) : puts m (a ++ b) = puts (puts m a) b := by simp [puts]
def In (l : List R) : Prop := ∀ r ∈ l, 0 ≤ r.1 ∧ r.1 ≤ r.2 ∧ r.2 ≤ 1114111
theorem in_nil : In [] := by simp [In]
theorem put_in {l : List R} (r : R) (h : In l) : In (put l r) := by
  unfold put
  split
  · intro s hs
    rw [List.mem_append, List.mem_singleton] at hs
    rcases hs with hs | hs
    · exact h s hs
    · subst hs; simp only; omega
  · exact h
theorem puts_in : ∀ {l m : List R}, In m → In (puts m l)
  | [], _, h => h
  | r :: l, _, h => puts_in (l := l) (put_in r h)
theorem put_cov (l : List R) (r : R) (c : Int) : Cov (put l r) c ↔ Cov l c ∨ (0 ≤ c ∧ c ≤ 1114111 ∧ r.1 ≤ c ∧ c ≤ r.2) := by
  unfold put
  split
  · rw [cov_append, cov_cons]
    simp only [cov_nil, or_false]
    constructor
    · rintro (h | h)
      · exact .inl h
      · exact .inr (by omega)
    · rintro (h | h)
      · exact .inl h
      · exact .inr (by omega)
  · constructor
    · exact .inl
    · rintro (h | h)
      · exact h
      · omega
theorem puts_cov : ∀ (l m : List R) (c : Int), Cov (puts m l) c ↔ Cov m c ∨ Has l c
  | [], m, c => by simp [puts_nil, Has, cov_nil]
  | r :: l, m, c => by
    rw [puts_cons, puts_cov l, put_cov]
    unfold Has
    rw [cov_cons]
    constructor
    · rintro ((h | h) | h)
      · exact .inl h
      · exact .inr ⟨h.1, h.2.1, .inl h.2.2⟩
      · exact .inr ⟨h.1, h.2.1, .inr h.2.2⟩
    · rintro (h | ⟨h1, h2, h3 | h3⟩)
      · exact .inl (.inl h)
      · exact .inl (.inr ⟨h1, h2, h3⟩)
      · exact .inr ⟨h1, h2, h3⟩
theorem put_length (l : List R) (r : R) : (put l r).length ≤ l.length + 1 := by
  unfold put; split <;> simp
theorem puts_length : ∀ (l m : List R), (puts m l).length ≤ m.length + l.length
  | [], m => by simp [puts_nil]
  | r :: l, m => by
    rw [puts_cons]
    have h1 := puts_length l (put m r)
    have h2 := put_length m r
    rw [List.length_cons]; omega

def mergeFrom : R → List R → List R
  | one, [] => [one]
  | one, r :: l => if r.1 ≤ one.2 + 1 then mergeFrom (one.1, max one.2 r.2) l else one :: mergeFrom r l
def merge : List R → List R
  | [] => []
  | r :: l => mergeFrom r l
def Sorted (l : List R) : Prop := l.Pairwise fun a b => a.1 ≤ b.1
theorem mergeFrom_right : ∀ (l : List R) (one : R) (last : Int), last + 1 < one.1 → one.1 ≤ one.2 → one.2 ≤ 1114111 → In l → Sorted (one :: l) → RF last (mergeFrom one l)
  | [], one, last, h1, h2, h3, _, _ => ⟨h1, h2, h3, trivial⟩
  | r :: l, one, last, h1, h2, h3, h4, h5 => by
    have hr := h4 r (by simp)
    have h4' : In l := fun s hs => h4 s (by simp [hs])
    unfold Sorted at h5
    rw [List.pairwise_cons, List.pairwise_cons] at h5
    obtain ⟨s1, s2, s3⟩ := h5
    unfold mergeFrom
    split
    · refine mergeFrom_right l _ last h1 (by simp only; omega) (by simp only; omega) h4' ?_
      unfold Sorted
      rw [List.pairwise_cons]
      exact ⟨fun x hx => s1 x (by simp [hx]), s3⟩
    · refine ⟨h1, h2, h3, mergeFrom_right l r one.2 (by omega) hr.2.1 hr.2.2 h4' ?_⟩
      unfold Sorted
      rw [List.pairwise_cons]
      exact ⟨s2, s3⟩
theorem mergeFrom_cov : ∀ (l : List R) (one : R) (c : Int), one.1 ≤ one.2 → In l → Sorted (one :: l) → (Cov (mergeFrom one l) c ↔ Cov (one :: l) c)
  | [], one, c, _, _, _ => by simp [mergeFrom]
  | r :: l, one, c, h2, h4, h5 => by
    have hr := h4 r (by simp)
    have h4' : In l := fun s hs => h4 s (by simp [hs])
    unfold Sorted at h5
    rw [List.pairwise_cons, List.pairwise_cons] at h5
    obtain ⟨s1, s2, s3⟩ := h5
    have s0 := s1 r (by simp)
    unfold mergeFrom
    split
    · rw [mergeFrom_cov l _ c (by simp only; omega) h4' (by
        unfold Sorted
        rw [List.pairwise_cons]
        exact ⟨fun x hx => s1 x (by simp [hx]), s3⟩)]
      rw [cov_cons, cov_cons, cov_cons]
      simp only
      constructor
      · rintro (h | h)
        · by_cases k : c ≤ one.2
          · exact .inl ⟨h.1, k⟩
          · exact .inr (.inl (by omega))
        · exact .inr (.inr h)
      · rintro (h | h | h)
        · exact .inl (by omega)
        · exact .inl (by omega)
        · exact .inr h
    · rw [cov_cons, mergeFrom_cov l r c hr.2.1 h4' (by
        unfold Sorted
        rw [List.pairwise_cons]
        exact ⟨s2, s3⟩), cov_cons one]
theorem merge_right {l : List R} (h1 : In l) (h2 : Sorted l) : Rt (merge l) := by
  match l with
  | [] => trivial
  | r :: l =>
    have hr := h1 r (by simp)
    exact mergeFrom_right l r (-2) (by omega) hr.2.1 hr.2.2 (fun s hs => h1 s (by simp [hs])) h2
theorem merge_cov {l : List R} (h1 : In l) (h2 : Sorted l) (c : Int) : Cov (merge l) c ↔ Cov l c := by
  match l with
  | [] => simp [merge]
  | r :: l => exact mergeFrom_cov l r c (h1 r (by simp)).2.1 (fun s hs => h1 s (by simp [hs])) h2
theorem mergeFrom_length : ∀ (l : List R) (one : R), (mergeFrom one l).length ≤ l.length + 1
  | [], _ => by simp [mergeFrom]
  | r :: l, one => by
    unfold mergeFrom
    split
    · have := mergeFrom_length l (one.1, max one.2 r.2); rw [List.length_cons]; omega
    · have := mergeFrom_length l r; rw [List.length_cons, List.length_cons]; omega
theorem merge_length (l : List R) : (merge l).length ≤ l.length := by
  match l with
  | [] => simp [merge]
  | r :: l => exact mergeFrom_length l r

def cn (l : List R) : List R := merge ((puts [] l).mergeSort fun a b => decide (a.1 ≤ b.1))
theorem in_perm {l m : List R} (h : l.Perm m) (hi : In l) : In m := fun r hr => hi r (h.mem_iff.2 hr)
theorem cn_of {l d : List R} (h1 : (puts [] l).Perm d) (h2 : Sorted d) : merge d = cn l := by
  have i1 : In (puts [] l) := puts_in in_nil
  have p2 : ((puts [] l).mergeSort fun a b => decide (a.1 ≤ b.1)).Perm (puts [] l) := List.mergeSort_perm _ _
  have s2 : Sorted ((puts [] l).mergeSort fun a b => decide (a.1 ≤ b.1)) := by
    have := List.pairwise_mergeSort (le := fun a b : R => decide (a.1 ≤ b.1)) (by intro a b c h1 h2; simp at *; omega) (by intro a b; simp; omega) (puts [] l)
    unfold Sorted
    exact this.imp fun h => by simpa using h
  refine RF.one (merge_right (in_perm h1 i1) h2) (merge_right (in_perm p2.symm i1) s2) fun c => ?_
  show Cov (merge d) c ↔ Cov (merge _) c
  rw [merge_cov (in_perm h1 i1) h2, merge_cov (in_perm p2.symm i1) s2, ← cov_perm h1, cov_perm p2]
theorem cn_right (l : List R) : Rt (cn l) := by
  have i1 : In (puts [] l) := puts_in in_nil
  have p2 : ((puts [] l).mergeSort fun a b => decide (a.1 ≤ b.1)).Perm (puts [] l) := List.mergeSort_perm _ _
  have s2 : Sorted ((puts [] l).mergeSort fun a b => decide (a.1 ≤ b.1)) := by
    have := List.pairwise_mergeSort (le := fun a b : R => decide (a.1 ≤ b.1)) (by intro a b c h1 h2; simp at *; omega) (by intro a b; simp; omega) (puts [] l)
    unfold Sorted
    exact this.imp fun h => by simpa using h
  exact merge_right (in_perm p2.symm i1) s2
theorem cn_cov (l : List R) (c : Int) : Cov (cn l) c ↔ Has l c := by
  have i1 : In (puts [] l) := puts_in in_nil
  have p2 : ((puts [] l).mergeSort fun a b => decide (a.1 ≤ b.1)).Perm (puts [] l) := List.mergeSort_perm _ _
  have s2 : Sorted ((puts [] l).mergeSort fun a b => decide (a.1 ≤ b.1)) := by
    have := List.pairwise_mergeSort (le := fun a b : R => decide (a.1 ≤ b.1)) (by intro a b c h1 h2; simp at *; omega) (by intro a b; simp; omega) (puts [] l)
    unfold Sorted
    exact this.imp fun h => by simpa using h
  show Cov (merge _) c ↔ _
  rw [merge_cov (in_perm p2.symm i1) s2, cov_perm p2, puts_cov]
  simp [cov_nil]
theorem cn_has (l : List R) (c : Int) : Has (cn l) c ↔ Has l c := by rw [(cn_right l).has, cn_cov]
theorem cn_length (l : List R) : (cn l).length ≤ l.length := by
  unfold cn
  refine Nat.le_trans (merge_length _) ?_
  rw [List.length_mergeSort]
  simpa using puts_length l []
theorem cn_eq {l m : List R} : cn l = cn m ↔ ∀ c, Has l c ↔ Has m c := by
  constructor
  · intro h c; rw [← cn_has l, h, cn_has]
  · intro h
    exact (cn_right l).one (cn_right m) fun c => by rw [cn_has, cn_has]; exact h c
theorem cn_self {l : List R} (h : Rt l) : cn l = l := (cn_right l).one h (cn_has l)

def gaps : Int → List R → List R
  | next, [] => put [] (next, 1114111)
  | next, r :: l => put [] (next, r.1 - 1) ++ gaps (r.2 + 1) l
theorem put_one (next hi : Int) (h0 : 0 ≤ next) (h1 : hi ≤ 1114111) : put [] (next, hi) = if next ≤ hi then [(next, hi)] else [] := by
  unfold put
  simp only [List.nil_append]
  rw [show max next 0 = next by omega, show min hi 1114111 = hi by omega]
theorem gaps_right : ∀ (l : List R) (next last : Int), 0 ≤ next → last + 1 < next → RF (next - 2) l → RF last (gaps next l)
  | [], next, last, h0, h1, _ => by
    unfold gaps
    rw [put_one next 1114111 h0 (Int.le_refl _)]
    split
    · exact ⟨h1, by assumption, Int.le_refl _, trivial⟩
    · trivial
  | r :: l, next, last, h0, h1, h2 => by
    obtain ⟨a1, a2, a3, a4⟩ := h2
    unfold gaps
    rw [put_one next (r.1 - 1) h0 (by omega)]
    split
    · refine ⟨h1, by assumption, by simp only; omega, ?_⟩
      exact gaps_right l (r.2 + 1) (r.1 - 1) (by omega) (by omega) (a4.mono (by omega))
    · exact gaps_right l (r.2 + 1) last (by omega) (by omega) (a4.mono (by omega))
theorem gaps_cov : ∀ (l : List R) (next c : Int), 0 ≤ next → RF (next - 2) l → (Cov (gaps next l) c ↔ next ≤ c ∧ c ≤ 1114111 ∧ ¬ Cov l c)
  | [], next, c, h0, _ => by
    unfold gaps
    rw [put_one next 1114111 h0 (Int.le_refl _)]
    split
    · rw [cov_cons]; simp only [cov_nil, or_false, not_false_eq_true, and_true]
    · simp only [cov_nil, not_false_eq_true, and_true, false_iff]; omega
  | r :: l, next, c, h0, h2 => by
    obtain ⟨a1, a2, a3, a4⟩ := h2
    unfold gaps
    rw [cov_append, gaps_cov l (r.2 + 1) c (by omega) (a4.mono (by omega)), cov_cons, put_one next (r.1 - 1) h0 (by omega)]
    have hab : Cov l c → r.2 + 1 < c := fun h => RF.above a4 h
    have e : Cov (if next ≤ r.1 - 1 then [(next, r.1 - 1)] else []) c ↔ next ≤ c ∧ c ≤ r.1 - 1 := by
      split
      · rw [cov_cons]; simp only [cov_nil, or_false]
      · simp only [cov_nil, false_iff]; omega
    rw [e]
    by_cases hc : Cov l c
    · have := hab hc
      simp only [hc, not_true_eq_false, and_false, or_false, or_true, iff_false]
      omega
    · simp only [hc, not_false_eq_true, and_true, or_false]
      omega
theorem gaps_length : ∀ (l : List R) (next : Int), (gaps next l).length ≤ l.length + 1
  | [], next => by unfold gaps; simpa using put_length [] (next, 1114111)
  | r :: l, next => by
    unfold gaps
    have h1 := gaps_length l (r.2 + 1)
    have h2 := put_length [] (next, r.1 - 1)
    rw [List.length_append, List.length_cons]
    simp only [List.length_nil] at h2
    omega
def ng (l : List R) : List R := gaps 0 (cn l)
theorem ng_right (l : List R) : Rt (ng l) := gaps_right _ 0 (-2) (Int.le_refl _) (by omega) (cn_right l)
theorem ng_has (l : List R) (c : Int) : Has (ng l) c ↔ 0 ≤ c ∧ c ≤ 1114111 ∧ ¬ Has l c := by
  rw [(ng_right l).has]
  unfold ng
  rw [gaps_cov (cn l) 0 c (Int.le_refl _) (cn_right l), cn_cov]
theorem ng_length (l : List R) : (ng l).length ≤ l.length + 1 := Nat.le_trans (gaps_length _ _) (by have := cn_length l; omega)
def mt (a b : List R) : List R := ng (ng a ++ ng b)
theorem has_append (a b : List R) (c : Int) : Has (a ++ b) c ↔ Has a c ∨ Has b c := by
  unfold Has
  rw [cov_append]
  constructor
  · rintro ⟨h1, h2, h | h⟩
    · exact .inl ⟨h1, h2, h⟩
    · exact .inr ⟨h1, h2, h⟩
  · rintro (⟨h1, h2, h⟩ | ⟨h1, h2, h⟩)
    · exact ⟨h1, h2, .inl h⟩
    · exact ⟨h1, h2, .inr h⟩
theorem mt_right (a b : List R) : Rt (mt a b) := ng_right _
theorem mt_has (a b : List R) (c : Int) : Has (mt a b) c ↔ Has a c ∧ Has b c := by
  unfold mt
  rw [ng_has, has_append, ng_has, ng_has]
  by_cases ha : Has a c <;> by_cases hb : Has b c <;> simp only [ha, hb, not_true_eq_false, not_false_eq_true, and_false, and_true, or_false, false_or, or_self, iff_false, iff_true] <;> first | exact ⟨ha.1, ha.2.1⟩ | (intro h; exact h.2.2 ⟨h.1, h.2.1⟩) | skip
theorem mt_length (a b : List R) : (mt a b).length ≤ a.length + b.length + 3 := by
  unfold mt
  have h1 := ng_length (ng a ++ ng b)
  have h2 := ng_length a
  have h3 := ng_length b
  rw [List.length_append] at h1
  omega

def cnt (l : List R) : Nat → Nat
  | 0 => 0
  | n + 1 => cnt l n + if Has l n then 1 else 0
def sum (l : List R) : Int := l.foldl (fun n r => n + (r.2 - r.1 + 1)) 0
theorem foldl_add (f : R → Int) : ∀ (l : List R) (a : Int), l.foldl (fun n r => n + f r) a = a + l.foldl (fun n r => n + f r) 0
  | [], a => by simp
  | r :: l, a => by
    rw [List.foldl_cons, List.foldl_cons, foldl_add f l (a + f r), foldl_add f l (0 + f r)]; omega
theorem sum_cons (r : R) (l : List R) : sum (r :: l) = (r.2 - r.1 + 1) + sum l := by
  unfold sum
  rw [List.foldl_cons, foldl_add (fun r => r.2 - r.1 + 1)]; omega
theorem sum_snoc (l : List R) (r : R) : sum (l ++ [r]) = sum l + (r.2 - r.1 + 1) := by
  unfold sum
  rw [List.foldl_append]; rfl
theorem cnt_congr {l m : List R} : ∀ (n : Nat), (∀ c : Nat, c < n → (Has l c ↔ Has m c)) → cnt l n = cnt m n
  | 0, _ => rfl
  | n + 1, h => by
    unfold cnt
    rw [cnt_congr n fun c hc => h c (by omega)]
    have := h n (by omega)
    by_cases k : Has l n
    · rw [if_pos k, if_pos (this.1 k)]
    · rw [if_neg k, if_neg fun q => k (this.2 q)]
theorem cnt_nil : ∀ (n : Nat), cnt [] n = 0
  | 0 => rfl
  | n + 1 => by
    unfold cnt
    rw [cnt_nil n, if_neg (by unfold Has; simp [cov_nil])]
theorem cnt_low {r : R} {l : List R} (h : RF (r.1 - 2) (r :: l)) : ∀ (n : Nat), (n : Int) ≤ r.1 → cnt (r :: l) n = 0
  | 0, _ => rfl
  | n + 1, hn => by
    unfold cnt
    rw [cnt_low h n (by omega), if_neg]
    rintro ⟨_, _, hc⟩
    have := RF.above h hc
    omega
theorem cnt_mid {r : R} {l : List R} (h : RF (-2) (r :: l)) : ∀ (n : Nat), r.1 ≤ (n : Int) → (n : Int) ≤ r.2 + 1 → (cnt (r :: l) n : Int) = n - r.1
  | 0, h1, h2 => by have := h.1; show ((0 : Nat) : Int) = _; omega
  | n + 1, h1, h2 => by
    unfold cnt
    have h0 := h.1
    by_cases k : r.1 ≤ (n : Int)
    · have := cnt_mid h n k (by omega)
      rw [if_pos ⟨by omega, by have := h.2.2.1; omega, (cov_cons r l n).2 (.inl ⟨k, by omega⟩)⟩]
      omega
    · rw [cnt_low (show RF (r.1 - 2) (r :: l) from ⟨by omega, h.2⟩) n (by omega), if_neg]
      · omega
      · rintro ⟨_, _, hc⟩
        have := RF.above (show RF (r.1 - 2) (r :: l) from ⟨by omega, h.2⟩) hc
        omega
theorem cnt_high {r : R} {l : List R} (h : RF (-2) (r :: l)) : ∀ (n : Nat), r.2 + 1 ≤ (n : Int) → (cnt (r :: l) n : Int) = (r.2 - r.1 + 1) + cnt l n
  | 0, h1 => by have := h.1; have := h.2.1; omega
  | n + 1, h1 => by
    have h0 := h.1
    have h2 := h.2.1
    by_cases k : r.2 + 1 ≤ (n : Int)
    · have := cnt_high h n k
      unfold cnt
      have e : Has (r :: l) n ↔ Has l n := by
        unfold Has
        rw [cov_cons]
        constructor
        · rintro ⟨a, b, c | c⟩
          · omega
          · exact ⟨a, b, c⟩
        · rintro ⟨a, b, c⟩; exact ⟨a, b, .inr c⟩
      by_cases q : Has l n
      · rw [if_pos q, if_pos (e.2 q)]; omega
      · rw [if_neg q, if_neg fun x => q (e.1 x)]; omega
    · have e1 := cnt_mid h (n + 1) (by omega) (by omega)
      have e2 : cnt l (n + 1) = 0 := by
        match l, h.2.2.2 with
        | [], _ => exact cnt_nil _
        | s :: l, hs => exact cnt_low (show RF (s.1 - 2) (s :: l) from ⟨by omega, hs.2⟩) (n + 1) (by have := hs.1; omega)
      rw [e1, e2]; omega
theorem sum_cnt : ∀ {l : List R}, Rt l → sum l = (cnt l 1114112 : Nat)
  | [], _ => by rw [cnt_nil]; rfl
  | r :: l, h => by
    rw [sum_cons, cnt_high h 1114112 (by have := h.2.2.1; show r.2 + 1 ≤ (1114112 : Int); omega), sum_cnt (h.2.2.2.mono (by have := h.1; have := h.2.1; omega))]
theorem cnt_sum {j m a b : List R} (hj : ∀ c, Has j c ↔ Has a c ∨ Has b c) (hm : ∀ c, Has m c ↔ Has a c ∧ Has b c) : ∀ (n : Nat), cnt j n + cnt m n = cnt a n + cnt b n
  | 0 => rfl
  | n + 1 => by
    have := cnt_sum hj hm n
    unfold cnt
    have e1 := hj n
    have e2 := hm n
    by_cases ka : Has a n <;> by_cases kb : Has b n <;> simp only [ka, kb, or_true, true_or, or_self, and_true, and_self, and_false, iff_true, iff_false] at e1 e2 <;> simp only [ka, kb, e1, e2, if_true, if_false] <;> omega
theorem cnt_all {n a : List R} (hn : ∀ c, Has n c ↔ 0 ≤ c ∧ c ≤ 1114111 ∧ ¬ Has a c) : ∀ (k : Nat), k ≤ 1114112 → cnt n k + cnt a k = k
  | 0, _ => rfl
  | k + 1, hk => by
    have := cnt_all hn k (by omega)
    unfold cnt
    have e := hn k
    by_cases ka : Has a k
    · have : ¬ Has n k := fun q => (e.1 q).2.2 ka
      rw [if_neg this, if_pos ka]; omega
    · have : Has n k := e.2 ⟨by omega, by omega, ka⟩
      rw [if_pos this, if_neg ka]; omega

def mny (l : List R) : Int := sum (cn l)
theorem mny_cnt (l : List R) : mny l = (cnt l 1114112 : Nat) := by
  unfold mny
  rw [sum_cnt (cn_right l), cnt_congr 1114112 fun c _ => cn_has l c]
theorem cnt_le (l : List R) : ∀ n, cnt l n ≤ n
  | 0 => Nat.le_refl _
  | n + 1 => by have := cnt_le l n; unfold cnt; split <;> omega
theorem mny_range (l : List R) : 0 ≤ mny l ∧ mny l ≤ 1114112 := by
  rw [mny_cnt]
  have := cnt_le l 1114112
  omega
def lst (l : List R) : Int × Bool := match cn l with
  | [] => (0, false)
  | r :: _ => (r.1, true)
theorem lst_no {l : List R} (h : (lst l).2 = false) (c : Int) : ¬ Has l c := by
  unfold lst at h
  rw [← cn_cov]
  rcases hc : cn l with _ | ⟨r, m⟩
  · exact cov_nil c
  · rw [hc] at h; simp at h
theorem lst_yes {l : List R} (h : (lst l).2 = true) : Has l (lst l).1 ∧ ∀ c, Has l c → (lst l).1 ≤ c := by
  unfold lst at h ⊢
  rcases hc : cn l with _ | ⟨r, m⟩
  · rw [hc] at h; simp at h
  · have hr := cn_right l
    rw [hc] at hr
    refine ⟨?_, fun c hq => ?_⟩
    · rw [← cn_cov, hc, cov_cons]; exact .inl ⟨Int.le_refl _, hr.2.1⟩
    · rw [← cn_cov, hc, cov_cons] at hq
      show r.1 ≤ c
      rcases hq with hq | hq
      · exact hq.1
      · have := RF.above hr.2.2.2 hq; have := hr.2.1; omega
theorem mny_pos (l : List R) : (lst l).2 = decide (0 < mny l) := by
  unfold lst mny
  rcases hc : cn l with _ | ⟨r, m⟩
  · rfl
  · have hr := cn_right l
    rw [hc] at hr
    have h1 : 0 ≤ sum m := by rw [sum_cnt (hr.2.2.2.mono (by have := hr.1; have := hr.2.1; omega))]; omega
    rw [sum_cons]
    have := hr.2.1
    symm
    rw [decide_eq_true_iff]
    omega
def pts (l : List Int) : List R := l.map fun c => (c, c)
theorem pts_has (l : List Int) (c : Int) : Has (pts l) c ↔ 0 ≤ c ∧ c ≤ 1114111 ∧ c ∈ l := by
  unfold Has Cov pts
  constructor
  · rintro ⟨h1, h2, r, hr, h3, h4⟩
    rw [List.mem_map] at hr
    obtain ⟨d, hd, rfl⟩ := hr
    simp only at h3 h4
    rw [show c = d by omega]
    rw [show c = d by omega] at h1 h2
    exact ⟨h1, h2, hd⟩
  · rintro ⟨h1, h2, h3⟩
    exact ⟨h1, h2, (c, c), List.mem_map.2 ⟨c, h3, rfl⟩, Int.le_refl _, Int.le_refl _⟩
theorem cnt_pts_le : ∀ (l : List Int) (n : Nat), cnt (pts l) n ≤ l.length
  | [], n => by show cnt [] n ≤ _; rw [cnt_nil]; exact Nat.zero_le _
  | x :: l, n => by
    have h1 := cnt_pts_le l n
    have h2 : cnt (pts (x :: l)) n ≤ cnt (pts l) n + 1 := by
      clear h1
      have key : ∀ k : Nat, cnt (pts (x :: l)) k ≤ cnt (pts l) k + if x < (k : Int) then 1 else 0 := by
        intro k
        induction k with
        | zero => simp [cnt]
        | succ k ih =>
          unfold cnt
          by_cases kx : x = (k : Int)
          · rw [if_neg (by omega)] at ih
            rw [if_pos (show x < ((k + 1 : Nat) : Int) by omega)]
            split <;> split <;> omega
          · have e : Has (pts (x :: l)) k ↔ Has (pts l) k := by
              rw [pts_has, pts_has, List.mem_cons]
              constructor
              · rintro ⟨a, b, c | c⟩
                · exact absurd c.symm kx
                · exact ⟨a, b, c⟩
              · rintro ⟨a, b, c⟩; exact ⟨a, b, .inr c⟩
            by_cases q : Has (pts l) k
            · rw [if_pos q, if_pos (e.2 q)]
              split at ih <;> split <;> omega
            · rw [if_neg q, if_neg fun z => q (e.1 z)]
              split at ih <;> split <;> omega
      have := key n
      split at this <;> omega
    rw [List.length_cons]; omega
theorem mny_pts (l : List Int) : mny (pts l) ≤ l.length := by
  rw [mny_cnt]
  have := cnt_pts_le l 1114112
  omega

def hasB (l : List R) (c : Int) : Bool := decide (Has l c)
theorem hasB_eq {l m : List R} {c d : Int} (h : Has l c ↔ Has m d) : hasB l c = hasB m d := by
  unfold hasB
  by_cases k : Has l c
  · rw [decide_eq_true k, decide_eq_true (h.1 k)]
  · rw [decide_eq_false k, decide_eq_false fun q => k (h.2 q)]
end Tnr
