/- Plain lemmas on the document's own way to a set: the places at which what is had may change, rising; the set of what so many rows have. Of no program. -/
import Derived.Test.YtglgfpapackcdaaGreatRa

namespace Tnr

def endsOf (r : R) : List Int := if r.1 > r.2 ∨ r.2 < 0 ∨ r.1 > 1114111 then [] else max r.1 0 :: (if r.2 < 1114111 then [r.2 + 1] else [])
def endsR (l : List R) : List Int := l.flatMap endsOf
def many (rows : List (List R)) (c : Int) : Nat := rows.foldl (fun n l => if hasB' l c then n + 1 else n) 0
where hasB' (l : List R) (c : Int) : Bool := decide (Has l c)
def Rising (ts : List Int) : Prop := ts.Pairwise (· < ·)
def addR (out : List R) (lo hi : Int) : List R := match out.getLast? with
  | some r => if r.2 + 1 = lo then out.dropLast ++ [(r.1, hi)] else out ++ [(lo, hi)]
  | none => out ++ [(lo, hi)]
def upTo : List Int → Int
  | [] => 1114111
  | t :: _ => t - 1
def wh (f : Int → Bool) : List R → List Int → List R
  | out, [] => out
  | out, t :: ts => wh f (if f t then addR out t (upTo ts) else out) ts

theorem addR_nil (lo hi : Int) : addR [] lo hi = [(lo, hi)] := rfl
theorem addR_snoc (out : List R) (r : R) (lo hi : Int) : addR (out ++ [r]) lo hi = if r.2 + 1 = lo then out ++ [(r.1, hi)] else out ++ [r] ++ [(lo, hi)] := by
  unfold addR
  simp
def Under (out : List R) (b : Int) : Prop := Rt out ∧ ∀ c, Cov out c → c < b
theorem rf_snoc : ∀ (out : List R) (r : R) (last : Int), RF last (out ++ [r]) ↔ RF last out ∧ (∀ c, Cov out c → c + 1 < r.1) ∧ last + 1 < r.1 ∧ r.1 ≤ r.2 ∧ r.2 ≤ 1114111
  | [], r, last => by simp [RF, cov_nil]
  | s :: out, r, last => by
    rw [List.cons_append]
    show (last + 1 < s.1 ∧ s.1 ≤ s.2 ∧ s.2 ≤ 1114111 ∧ RF s.2 (out ++ [r])) ↔ (last + 1 < s.1 ∧ s.1 ≤ s.2 ∧ s.2 ≤ 1114111 ∧ RF s.2 out) ∧ _
    rw [rf_snoc out r s.2]
    constructor
    · rintro ⟨h1, h2, h3, h4, h5, h6, h7, h8⟩
      refine ⟨⟨h1, h2, h3, h4⟩, fun c hc => ?_, by omega, h7, h8⟩
      rcases (cov_cons s out c).1 hc with h | h
      · omega
      · exact h5 c h
    · rintro ⟨⟨h1, h2, h3, h4⟩, h5, h6, h7, h8⟩
      exact ⟨h1, h2, h3, h4, fun c hc => h5 c ((cov_cons s out c).2 (.inr hc)), by have := h5 s.2 ((cov_cons s out s.2).2 (.inl ⟨h2, Int.le_refl _⟩)); omega, h7, h8⟩
theorem snoc_or (l : List R) : l = [] ∨ ∃ i x, l = i ++ [x] := by
  rcases List.eq_nil_or_concat l with h | ⟨i, x, h⟩
  · exact .inl h
  · exact .inr ⟨i, x, by rw [h, List.concat_eq_append]⟩
theorem addR_under {out : List R} {lo hi : Int} (h : Under out lo) (h0 : 0 ≤ lo) (h1 : lo ≤ hi) (h2 : hi ≤ 1114111) : Under (addR out lo hi) (hi + 1) ∧ ∀ c, Cov (addR out lo hi) c ↔ Cov out c ∨ (lo ≤ c ∧ c ≤ hi) := by
  obtain ⟨hr, hu⟩ := h
  rcases snoc_or out with rfl | ⟨i, x, rfl⟩
  · rw [addR_nil]
    refine ⟨⟨⟨by omega, h1, h2, trivial⟩, fun c hc => ?_⟩, fun c => ?_⟩
    · rw [cov_cons] at hc; simp only [cov_nil, or_false] at hc; omega
    · rw [cov_cons]; simp only [cov_nil, or_false, false_or]
  · have hx : x.2 < lo := by
      have h3 := (rf_snoc i x (-2)).1 hr
      refine hu x.2 ?_
      rw [cov_append, cov_cons]; exact .inr (.inl ⟨h3.2.2.2.1, Int.le_refl _⟩)
    obtain ⟨a1, a2, a3, a4, a5⟩ := (rf_snoc i x (-2)).1 hr
    rw [addR_snoc]
    split
    · refine ⟨⟨(rf_snoc i (x.1, hi) (-2)).2 ⟨a1, a2, a3, by simp only; omega, h2⟩, fun c hc => ?_⟩, fun c => ?_⟩
      · rw [cov_append, cov_cons] at hc
        simp only [cov_nil, or_false] at hc
        rcases hc with hc | hc
        · have := a2 c hc; omega
        · omega
      · rw [cov_append, cov_cons, cov_append, cov_cons]
        simp only [cov_nil, or_false]
        constructor
        · rintro (h | h)
          · exact .inl (.inl h)
          · by_cases k : c ≤ x.2
            · exact .inl (.inr ⟨h.1, k⟩)
            · exact .inr (by omega)
        · rintro ((h | h) | h)
          · exact .inl h
          · exact .inr (by omega)
          · exact .inr (by omega)
    · refine ⟨⟨(rf_snoc (i ++ [x]) (lo, hi) (-2)).2 ⟨hr, fun c hc => ?_, by simp only; omega, h1, h2⟩, fun c hc => ?_⟩, fun c => ?_⟩
      · rw [cov_append, cov_cons] at hc
        simp only [cov_nil, or_false] at hc
        simp only
        rcases hc with hc | hc
        · have := a2 c hc; omega
        · omega
      · rw [cov_append, cov_cons] at hc
        simp only [cov_nil, or_false] at hc
        rcases hc with hc | hc
        · have := hu c hc; omega
        · omega
      · rw [cov_append, cov_cons]; simp only [cov_nil, or_false]
theorem wh_cov (f : Int → Bool) (g : Int → Prop) : ∀ (ts : List Int) (out : List R) (b : Int), Under out b → 0 ≤ b → (∀ t ts', ts = t :: ts' → t = b) → (ts = [] → b = 1114112) → Rising ts → (∀ t ∈ ts, 0 ≤ t ∧ t ≤ 1114111) →
    (∀ t ts' pre, ts = pre ++ t :: ts' → ∀ c, t ≤ c → c ≤ upTo ts' → (g c ↔ f t = true)) → Rt (wh f out ts) ∧ ∀ c, Cov (wh f out ts) c ↔ Cov out c ∨ (b ≤ c ∧ c ≤ 1114111 ∧ g c)
  | [], out, b, h1, h2, _, h4, _, _, _ => ⟨h1.1, fun c => by have := h4 rfl; constructor
                                                             · exact .inl
                                                             · rintro (h | h)
                                                               · exact h
                                                               · omega⟩
  | t :: ts, out, b, h1, h2, h3, _, h5, h6, h7 => by
    obtain rfl := h3 t ts rfl
    have ht := h6 t (by simp)
    unfold Rising at h5
    rw [List.pairwise_cons] at h5
    have hup : t ≤ upTo ts ∧ upTo ts ≤ 1114111 := by
      cases ts with
      | nil => exact ⟨ht.2, Int.le_refl _⟩
      | cons u us =>
        have a := h5.1 u (by simp)
        have b := h6 u (by simp)
        exact ⟨by show t ≤ u - 1; omega, by show u - 1 ≤ _; omega⟩
    have hg := h7 t ts [] rfl
    have hnext : ∀ u us, ts = u :: us → u = upTo ts + 1 := fun u us e => by subst e; show u = u - 1 + 1; omega
    have hend : ts = [] → upTo ts + 1 = 1114112 := fun e => by subst e; rfl
    have hcs : ∀ u us pre, ts = pre ++ u :: us → ∀ c, u ≤ c → c ≤ upTo us → (g c ↔ f u = true) := fun u us pre e => h7 u us (t :: pre) (by rw [e]; rfl)
    have h6' : ∀ u ∈ ts, 0 ≤ u ∧ u ≤ 1114111 := fun u hu => h6 u (by simp [hu])
    unfold wh
    rcases hf : f t with _ | _
    · have hu : Under out (upTo ts + 1) := ⟨h1.1, fun c hc => by have := h1.2 c hc; omega⟩
      obtain ⟨k1, k2⟩ := wh_cov f g ts out (upTo ts + 1) hu (by omega) hnext hend h5.2 h6' hcs
      simp only [Bool.false_eq_true, if_false]
      refine ⟨k1, fun c => (k2 c).trans ⟨?_, ?_⟩⟩
      · rintro (h | h)
        · exact .inl h
        · exact .inr ⟨by omega, h.2⟩
      · rintro (h | h)
        · exact .inl h
        · by_cases hc : c ≤ upTo ts
          · have := (hg c h.1 hc).1 h.2.2
            rw [hf] at this; simp at this
          · exact .inr ⟨by omega, h.2⟩
    · obtain ⟨hu, hcv⟩ := addR_under h1 h2 hup.1 hup.2
      obtain ⟨k1, k2⟩ := wh_cov f g ts (addR out t (upTo ts)) (upTo ts + 1) hu (by omega) hnext hend h5.2 h6' hcs
      simp only [if_true]
      refine ⟨k1, fun c => (k2 c).trans ?_⟩
      rw [hcv]
      constructor
      · rintro ((h | h) | h)
        · exact .inl h
        · exact .inr ⟨h.1, by omega, (hg c h.1 h.2).2 hf⟩
        · exact .inr ⟨by omega, h.2⟩
      · rintro (h | h)
        · exact .inl (.inl h)
        · by_cases hc : c ≤ upTo ts
          · exact .inl (.inr ⟨h.1, hc⟩)
          · exact .inr ⟨by omega, h.2⟩

theorem has_same {l : List R} {ts : List Int} {t c : Int} (hts : ∀ r ∈ l, ∀ u ∈ endsOf r, u ∈ ts) (h0 : 0 ≤ t) (h1 : t ≤ c) (h2 : c ≤ 1114111) (hno : ∀ u ∈ ts, ¬ (t < u ∧ u ≤ c)) : Has l c ↔ Has l t := by
  have key : ∀ r ∈ l, (r.1 ≤ c ∧ c ≤ r.2 ↔ r.1 ≤ t ∧ t ≤ r.2) := by
    intro r hr
    by_cases hv : r.1 > r.2 ∨ r.2 < 0 ∨ r.1 > 1114111
    · constructor <;> intro h <;> omega
    · have he : ∀ u ∈ endsOf r, ¬ (t < u ∧ u ≤ c) := fun u hu => hno u (hts r hr u hu)
      unfold endsOf at he
      rw [if_neg hv] at he
      have e1 := he (max r.1 0) (by simp)
      by_cases hm : r.2 < 1114111
      · rw [if_pos hm] at he
        have e2 := he (r.2 + 1) (by simp)
        constructor <;> intro h <;> omega
      · constructor <;> intro h <;> omega
  constructor
  · rintro ⟨_, _, r, hr, h⟩
    exact ⟨h0, by omega, r, hr, (key r hr).1 h⟩
  · rintro ⟨_, _, r, hr, h⟩
    exact ⟨by omega, h2, r, hr, (key r hr).2 h⟩
theorem many_nil (c : Int) : many [] c = 0 := rfl
theorem many_fold (rows : List (List R)) (c : Int) : ∀ n : Nat, rows.foldl (fun n l => if many.hasB' l c then n + 1 else n) n = n + many rows c := by
  induction rows with
  | nil => intro n; rfl
  | cons l rows ih =>
    intro n
    have e : many (l :: rows) c = rows.foldl (fun n l => if many.hasB' l c then n + 1 else n) (if many.hasB' l c then 0 + 1 else 0) := rfl
    rw [e, List.foldl_cons, ih, ih]
    split <;> omega
theorem many_cons (l : List R) (rows : List (List R)) (c : Int) : many (l :: rows) c = (if Has l c then 1 else 0) + many rows c := by
  have e : many (l :: rows) c = rows.foldl (fun n l => if many.hasB' l c then n + 1 else n) (if many.hasB' l c then 0 + 1 else 0) := rfl
  rw [e, many_fold]
  unfold many.hasB'
  by_cases h : Has l c
  · rw [if_pos h]; simp [h]
  · rw [if_neg h]; simp [h]
theorem many_snoc (rows : List (List R)) (l : List R) (c : Int) : many (rows ++ [l]) c = many rows c + if Has l c then 1 else 0 := by
  induction rows with
  | nil => rw [List.nil_append, many_cons, many_nil]; omega
  | cons r rows ih => rw [List.cons_append, many_cons, many_cons, ih]; omega
theorem many_same {rows : List (List R)} {ts : List Int} {t c : Int} (hts : ∀ l ∈ rows, ∀ r ∈ l, ∀ u ∈ endsOf r, u ∈ ts) (h0 : 0 ≤ t) (h1 : t ≤ c) (h2 : c ≤ 1114111) (hno : ∀ u ∈ ts, ¬ (t < u ∧ u ≤ c)) : many rows c = many rows t := by
  induction rows with
  | nil => rfl
  | cons l rows ih =>
    rw [many_cons, many_cons, ih fun l hl => hts l (by simp [hl])]
    have := has_same (hts l (by simp)) h0 h1 h2 hno
    by_cases h : Has l t
    · rw [if_pos h, if_pos (this.2 h)]
    · rw [if_neg h, if_neg fun k => h (this.1 k)]
theorem many_le (rows : List (List R)) (c : Int) : many rows c ≤ rows.length := by
  induction rows with
  | nil => exact Nat.le_refl _
  | cons l rows ih => rw [many_cons, List.length_cons]; split <;> omega
theorem many_pos (rows : List (List R)) (c : Int) : 1 ≤ many rows c ↔ Has rows.flatten c := by
  induction rows with
  | nil => simp [many_nil, Has, cov_nil]
  | cons l rows ih =>
    rw [many_cons, List.flatten_cons, has_append, ← ih]
    by_cases h : Has l c
    · simp [h]
    · simp only [h, if_false, false_or]; omega
def Places (rows : List (List R)) (ts : List Int) : Prop := Rising ts ∧ ∀ u, u ∈ ts ↔ u = 0 ∨ ∃ l ∈ rows, ∃ r ∈ l, u ∈ endsOf r
theorem endsOf_range {r : R} {u : Int} (h : u ∈ endsOf r) : 0 ≤ u ∧ u ≤ 1114111 := by
  unfold endsOf at h
  split at h
  · simp at h
  · rename_i hv
    rw [List.mem_cons] at h
    rcases h with rfl | h
    · omega
    · split at h
      · simp only [List.mem_cons, List.not_mem_nil, or_false] at h; omega
      · simp at h
theorem where_eq {rows : List (List R)} {ts : List Int} (hp : Places rows ts) (least most : Nat) {s : List R} (hs : Rt s) (h : ∀ c, 0 ≤ c → c ≤ 1114111 → (Has s c ↔ least ≤ many rows c ∧ many rows c ≤ most)) :
    wh (fun t => decide (least ≤ many rows t) && decide (many rows t ≤ most)) [] ts = s := by
  obtain ⟨hr, hm⟩ := hp
  have hrange : ∀ t ∈ ts, 0 ≤ t ∧ t ≤ 1114111 := by
    intro t ht
    rcases (hm t).1 ht with rfl | ⟨l, _, r, _, h⟩
    · omega
    · exact endsOf_range h
  have h0 : (0 : Int) ∈ ts := (hm 0).2 (.inl rfl)
  have hfirst : ∀ t ts', ts = t :: ts' → t = 0 := by
    intro t ts' e
    subst e
    unfold Rising at hr
    rw [List.pairwise_cons] at hr
    rcases List.mem_cons.1 h0 with h | h
    · exact h.symm
    · have := hr.1 0 h
      have := (hrange t (by simp)).1
      omega
  have hends : ∀ l ∈ rows, ∀ r ∈ l, ∀ u ∈ endsOf r, u ∈ ts := fun l hl r hr u hu => (hm u).2 (.inr ⟨l, hl, r, hr, hu⟩)
  obtain ⟨k1, k2⟩ := wh_cov (fun t => decide (least ≤ many rows t) && decide (many rows t ≤ most)) (fun c => least ≤ many rows c ∧ many rows c ≤ most) ts [] 0 ⟨trivial, fun c hc => absurd hc (cov_nil c)⟩ (Int.le_refl _) hfirst (fun e => by rw [e] at h0; simp at h0) hr hrange (by
    intro t ts' pre e c h1 h2
    have ht : t ∈ ts := by rw [e]; simp
    have hc : c ≤ 1114111 := by
      cases ts' with
      | nil => exact h2
      | cons u us =>
        have := (hrange u (by rw [e]; simp)).2
        have h3 : c ≤ u - 1 := h2
        omega
    have hno : ∀ u ∈ ts, ¬ (t < u ∧ u ≤ c) := by
      intro u hu
      rw [e] at hu hr
      unfold Rising at hr
      rw [List.pairwise_append, List.pairwise_cons] at hr
      rw [List.mem_append, List.mem_cons] at hu
      rcases hu with hu | hu | hu
      · have := hr.2.2 u hu t (by simp); omega
      · omega
      · cases ts' with
        | nil => simp at hu
        | cons v vs =>
          have h3 : c ≤ v - 1 := h2
          rcases List.mem_cons.1 hu with rfl | hu
          · omega
          · have := (List.pairwise_cons.1 hr.2.1.2).1 u hu; omega
    rw [many_same hends (hrange t ht).1 h1 hc hno]
    simp)
  refine k1.one hs fun c => ?_
  rw [k1.has, k2]
  constructor
  · rintro (h1 | h1)
    · exact absurd h1 (cov_nil c)
    · exact (h c h1.1 h1.2.1).2 h1.2.2
  · intro h1
    exact .inr ⟨h1.1, h1.2.1, (h c h1.1 h1.2.1).1 h1⟩
end Tnr
