/- Plain lemmas on classes, for the laws: the least code points rise; together they have all; those that meet a set make it; which one a code point is of. Of no program. -/
import Derived.Test.YtaeodgeefjmamaaGreatQe
namespace Tnr

/-- of a row its least code point, or -1. -/
def fst1 (l : List R) : Int := if (lst l).2 then (lst l).1 else -1
/-- have two rows a code point in common? -/
def Meets (a s : List R) : Prop := ∃ c, Has a c ∧ Has s c
noncomputable def meetB (a s : List R) : Bool := @decide (Meets a s) (Classical.propDecidable _)
theorem meetB_iff (a s : List R) : meetB a s = true ↔ Meets a s := by unfold meetB; simp
noncomputable def witN (L : List (List R)) (s : List R) : List Nat := (List.range L.length).filter fun k => meetB (gl L k) s
noncomputable def wit (L : List (List R)) (s : List R) : List Int := (witN L s).map fun k => Int.ofNat k
theorem wit_length (L : List (List R)) (s : List R) : (wit L s).length ≤ L.length := by
  unfold wit witN
  rw [List.length_map]
  exact Nat.le_trans (List.length_filter_le _ _) (by simp)
/-- which row has a number first. -/
def ClsR (L : List (List R)) (c : Int) (k : Nat) (b : Bool) : Prop :=
  (b = true ∧ k < L.length ∧ Has (gl L k) c ∧ ∀ i, i < k → ¬ Has (gl L i) c) ∨ (b = false ∧ k = 0 ∧ ∀ i, i < L.length → ¬ Has (gl L i) c)
theorem ClsR.one {L : List (List R)} {c : Int} {k m : Nat} {b d : Bool} (h : ClsR L c k b) (g : ClsR L c m d) : k = m ∧ b = d := by
  rcases h with ⟨h1, h2, h3, h4⟩ | ⟨h1, h2, h3⟩ <;> rcases g with ⟨g1, g2, g3, g4⟩ | ⟨g1, g2, g3⟩
  · refine ⟨?_, h1.trans g1.symm⟩
    rcases Nat.lt_trichotomy k m with h | h | h
    · exact absurd h3 (g4 k h)
    · exact h
    · exact absurd g3 (h4 m h)
  · exact absurd h3 (g3 k h2)
  · exact absurd g3 (h3 m g2)
  · exact ⟨h2.trans g2.symm, h1.trans g1.symm⟩
theorem RowsOf.cls {num : Int → Nat} {L : List (List R)} (h : RowsOf num L) {c : Int} {k : Nat} {b : Bool} (g : ClsR L c k b) : (b = true ∧ Pt c ∧ k = num c) ∨ (b = false ∧ ¬ Pt c) := by
  rcases g with ⟨g1, g2, g3, _⟩ | ⟨g1, _, g3⟩
  · have := (h.has k g2 c).1 g3
    exact .inl ⟨g1, this.1, this.2.symm⟩
  · refine .inr ⟨g1, fun hp => ?_⟩
    exact g3 _ (h.lt c hp) ((h.has _ (h.lt c hp) c).2 ⟨hp, rfl⟩)
theorem RowsOf.some {num : Int → Nat} {L : List (List R)} (h : RowsOf num L) {i : Nat} (hi : i < L.length) : (lst (gl L i)).2 = true := by
  obtain ⟨c, hc, e⟩ := h.all i hi
  by_cases hl : (lst (gl L i)).2 = true
  · exact hl
  · exact absurd ((h.has i hi c).2 ⟨hc, e⟩) (lst_no (by simpa using hl) c)
theorem RowsOf.ne {num : Int → Nat} {L : List (List R)} (h : RowsOf num L) {i : Nat} (hi : i < L.length) : gl L i ≠ [] := by
  intro e
  obtain ⟨c, hc, e2⟩ := h.all i hi
  have := (h.has i hi c).2 ⟨hc, e2⟩
  rw [e] at this
  exact cov_nil c this.2.2
theorem RowsOf.fst {num : Int → Nat} {L : List (List R)} (h : RowsOf num L) {i : Nat} (hi : i < L.length) : Pt (fst1 (gl L i)) ∧ num (fst1 (gl L i)) = i ∧ ∀ c, Pt c → num c = i → fst1 (gl L i) ≤ c := by
  have hs := h.some hi
  have hy := lst_yes hs
  have e : fst1 (gl L i) = (lst (gl L i)).1 := by unfold fst1; rw [if_pos hs]
  rw [e]
  have h1 := (h.has i hi _).1 hy.1
  exact ⟨h1.1, h1.2, fun c hc e2 => hy.2 c ((h.has i hi c).2 ⟨hc, e2⟩)⟩
theorem RowsOf.rise {S : List (List R)} {num : Int → Nat} {L : List (List R)} (hn : Numb S num) (h : RowsOf num L) {i : Nat} (hi : i + 1 < L.length) : fst1 (gl L i) < fst1 (gl L (i + 1)) := by
  obtain ⟨h1, h2, _⟩ := h.fst hi
  obtain ⟨_, _, g3⟩ := h.fst (show i < L.length by omega)
  obtain ⟨d, hd, hlt, e⟩ := hn.met _ h1 i (by omega)
  have := g3 d hd e
  omega
theorem RowsOf.zero {S : List (List R)} {num : Int → Nat} {L : List (List R)} (hn : Numb S num) (h : RowsOf num L) : fst1 (gl L 0) = 0 := by
  obtain ⟨h1, h2, h3⟩ := h.fst h.pos
  have h0 : num 0 = 0 := by
    by_cases h0 : num 0 = 0
    · exact h0
    · obtain ⟨d, hd, hlt, _⟩ := hn.met 0 ⟨by omega, by omega⟩ 0 (by omega)
      have := hd.1; omega
  have := h3 0 ⟨by omega, by omega⟩ h0
  have := h1.1
  omega

/-! ### how many -/
theorem cnt_none {l : List R} (h : ∀ c, ¬ Has l c) : ∀ n, cnt l n = 0
  | 0 => rfl
  | n + 1 => by unfold cnt; rw [cnt_none h n, if_neg (h _)]
theorem has_flatten (L : List (List R)) (c : Int) : Has L.flatten c ↔ ∃ l ∈ L, Has l c := by
  induction L with
  | nil => simp [Has, Cov]
  | cons l L ih => rw [List.flatten_cons, has_append, ih]; simp
theorem has_take {num : Int → Nat} {L : List (List R)} (h : RowsOf num L) (k : Nat) (hk : k ≤ L.length) (c : Int) : Has (L.take k).flatten c ↔ Pt c ∧ num c < k := by
  rw [has_flatten]
  constructor
  · rintro ⟨l, hl, hc⟩
    obtain ⟨i, hi, e⟩ := List.mem_iff_getElem.1 hl
    rw [List.length_take] at hi
    rw [List.getElem_take, ← gl_get (by omega)] at e
    subst e
    have := (h.has i (by omega) c).1 hc
    exact ⟨this.1, by omega⟩
  · rintro ⟨hp, hn⟩
    refine ⟨gl L (num c), ?_, (h.has _ (by omega) c).2 ⟨hp, rfl⟩⟩
    rw [List.mem_iff_getElem]
    refine ⟨num c, by rw [List.length_take]; omega, ?_⟩
    rw [List.getElem_take, gl_get (by omega)]
/-- the sum of the first ones. -/
theorem RowsOf.sums {num : Int → Nat} {L : List (List R)} (h : RowsOf num L) {k : Nat} (hk : k < L.length) : mny (L.take (k + 1)).flatten = mny (L.take k).flatten + mny (gl L k) := by
  rw [mny_cnt, mny_cnt, mny_cnt]
  have e := cnt_sum (j := (L.take (k + 1)).flatten) (m := []) (a := (L.take k).flatten) (b := gl L k) (fun c => by
    rw [has_take h _ (by omega), has_take h _ (by omega), h.has k hk]
    constructor
    · rintro ⟨a, b⟩
      by_cases e : num c = k
      · exact .inr ⟨a, e⟩
      · exact .inl ⟨a, by omega⟩
    · rintro (⟨a, b⟩ | ⟨a, b⟩)
      · exact ⟨a, by omega⟩
      · exact ⟨a, by omega⟩) (fun c => by
    rw [has_take h _ (by omega), h.has k hk]
    constructor
    · intro q; exact absurd q.2.2 (cov_nil c)
    · rintro ⟨⟨_, a⟩, _, b⟩; omega) 1114112
  rw [cnt_nil] at e
  omega
theorem RowsOf.whole {num : Int → Nat} {L : List (List R)} (h : RowsOf num L) : mny L.flatten = 1114112 := by
  have e := cnt_all (n := []) (a := L.flatten) (fun c => by
    have := has_take h L.length (Nat.le_refl _) c
    rw [List.take_length] at this
    rw [this]
    constructor
    · intro q; exact absurd q.2.2 (cov_nil c)
    · rintro ⟨a, b, d⟩; exact absurd ⟨⟨a, b⟩, h.lt c ⟨a, b⟩⟩ d) 1114112 (Nat.le_refl _)
  rw [cnt_nil] at e
  rw [mny_cnt]
  omega

/-! ### those that meet a set make it -/
theorem mem_witN {L : List (List R)} {s : List R} {k : Nat} : k ∈ witN L s ↔ k < L.length ∧ Meets (gl L k) s := by
  unfold witN
  rw [List.mem_filter, List.mem_range, meetB_iff]
theorem RowsOf.made {S : List (List R)} {num : Int → Nat} {L : List (List R)} (hn : Numb S num) (h : RowsOf num L) {s : List R} (hs : s ∈ S) : cn ((witN L s).map fun k => gl L k).flatten = cn s := by
  rw [cn_eq]
  intro c
  rw [has_flatten]
  constructor
  · rintro ⟨l, hl, hc⟩
    obtain ⟨k, hk, rfl⟩ := List.mem_map.1 hl
    obtain ⟨hk1, d, hd1, hd2⟩ := mem_witN.1 hk
    have a := (h.has k hk1 c).1 hc
    have b := (h.has k hk1 d).1 hd1
    exact ((hn.tell c d a.1 b.1).1 (a.2.trans b.2.symm) s hs).2 hd2
  · intro hc
    have hp : Pt c := ⟨hc.1, hc.2.1⟩
    have hl := h.lt c hp
    have hh := (h.has _ hl c).2 ⟨hp, rfl⟩
    exact ⟨_, List.mem_map.2 ⟨num c, mem_witN.2 ⟨hl, c, hh, hc⟩, rfl⟩, hh⟩

/-! ### other sets that tell the same apart -/
theorem gl_mem {L : List (List R)} {i : Nat} (h : i < L.length) : gl L i ∈ L := by rw [gl_get h]; exact List.getElem_mem h
theorem RowsOf.alike {num : Int → Nat} {L : List (List R)} (h : RowsOf num L) {a b : Int} (ha : Pt a) (hb : Pt b) : alike L a b ↔ num a = num b := by
  constructor
  · intro q
    have := (q _ (gl_mem (h.lt a ha))).1 ((h.has _ (h.lt a ha) a).2 ⟨ha, rfl⟩)
    exact ((h.has _ (h.lt a ha) b).1 this).2.symm
  · intro e l hl
    obtain ⟨i, hi, rfl⟩ := List.mem_iff_getElem.1 hl
    rw [← gl_get hi, h.has i hi, h.has i hi]
    constructor
    · rintro ⟨_, q⟩; exact ⟨hb, e.symm.trans q⟩
    · rintro ⟨_, q⟩; exact ⟨ha, e.trans q⟩
theorem Parts.alike {S L : List (List R)} (h : Parts S L) {a b : Int} (ha : Pt a) (hb : Pt b) : alike L a b ↔ alike S a b := by
  obtain ⟨num, hn, hr⟩ := h
  rw [hr.alike ha hb, hn.tell a b ha hb]
theorem Parts.again {S L M : List (List R)} (h : Parts S L) (g : Parts L M) : M = L := Parts.one (g.cong fun _ _ ha hb => h.alike ha hb) h
theorem Parts.few {S L : List (List R)} (h : Parts S L) (hl : L.length ≤ 60) : ¬ More L := by
  intro hm
  have := More.not (hm.cong fun _ _ ha hb => h.alike ha hb) h
  omega
/-- turned about, and the complements too. -/
theorem alike_other (S : List (List R)) (k : Nat) (a b : Int) (ha : Pt a) (hb : Pt b) : alike ((S.drop k ++ S.take k) ++ S.map ng) a b ↔ alike S a b := by
  constructor
  · intro h s hs
    refine h s (List.mem_append_left _ ?_)
    rw [← List.take_append_drop k S, List.mem_append] at hs
    exact List.mem_append.2 hs.symm
  · intro h s hs
    rcases List.mem_append.1 hs with hs | hs
    · refine h s ?_
      rw [← List.take_append_drop k S, List.mem_append]
      exact (List.mem_append.1 hs).symm
    · obtain ⟨t, ht, rfl⟩ := List.mem_map.1 hs
      rw [ng_has, ng_has]
      have := h t ht
      have a1 := ha.1
      have a2 := ha.2
      have b1 := hb.1
      have b2 := hb.2
      constructor
      · rintro ⟨_, _, q⟩; exact ⟨b1, b2, fun r => q (this.2 r)⟩
      · rintro ⟨_, _, q⟩; exact ⟨a1, a2, fun r => q (this.1 r)⟩
end Tnr
