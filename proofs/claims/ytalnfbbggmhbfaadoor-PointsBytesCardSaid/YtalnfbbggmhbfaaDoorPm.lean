/- Plain lemmas: what is told where a text is not right, and what stands ahead of that place. Of no program. -/
import Derived.Test.YtalnfbbggmhbfaaDoorPh
namespace Go.Proofs.YtalnfbbggmhbfaaDoor
open Tnd

/-- where a text of few bytes is not right. -/
theorem place_bad {s : List UInt8} {at_ : Nat} {l : List Nat} (hs : s.length ≤ 65536) (h : ofR s = (l, at_, 4)) :
    ∃ m q p r, s = q ++ (p ++ r) ∧ ofm q = (m, none) ∧ p ++ r ≠ [] ∧ pt (p ++ r) = (none, r) ∧ at_ = q.length + p.length ∧ l = [] ∧
      (∀ b r', r = b :: r' → ∀ more, pt (p ++ b :: more) = (none, b :: more)) ∧ (p = [] ∨ ∃ e ∈ ends, ∃ x, pt (p ++ e) = (some x, [])) := by
  rcases ho : ofm s with ⟨m, _ | r⟩
  · rw [ofR_ok (by omega) ho] at h
    simp at h
  · rw [ofR_bad (by omega) ho] at h
    obtain ⟨q, u, e1, e2, e3, e4⟩ := ofm_err _ _ _ _ (Nat.le_refl _) ho
    obtain ⟨p, e5, e6, e7⟩ := pt_none e4
    subst e5 e1
    refine ⟨m, q, p, r, rfl, e2, e3, e4, ?_, ?_, e6, e7⟩
    · simp only [Prod.mk.injEq, List.length_append] at h; omega
    · simp only [Prod.mk.injEq] at h; exact h.1.symm
theorem ofR_kind (s : List UInt8) : (∃ l, ofR s = (l, 0, 0)) ∨ (∃ a, ofR s = ([], a, 4)) ∨ (65536 < s.length ∧ ofR s = ([], 0, 3)) := by
  by_cases h : 65536 < s.length
  · exact .inr (.inr ⟨h, ofR_long h⟩)
  · rcases ho : ofm s with ⟨m, _ | r⟩
    · exact .inl ⟨m, ofR_ok h ho⟩
    · exact .inr (.inl ⟨_, ofR_bad h ho⟩)
theorem place_le {s : List UInt8} {at_ : Nat} {l : List Nat} (hs : s.length ≤ 65536) (h : ofR s = (l, at_, 4)) : at_ ≤ s.length := by
  obtain ⟨m, q, p, r, rfl, _, _, _, rfl, _⟩ := place_bad hs h
  simp
/-- with the byte there it is not right, whatever stands behind. -/
theorem place_byte {s : List UInt8} {at_ : Nat} {l : List Nat} (hs : s.length ≤ 3000) (h : ofR s = (l, at_, 4)) (hlt : at_ < s.length) (more : List UInt8) (hm : more.length ≤ 3000) :
    ofR (s.take (at_ + 1) ++ more) = ([], at_, 4) := by
  obtain ⟨m, q, p, r, rfl, e2, e3, e4, rfl, _, e6, _⟩ := place_bad (by omega) h
  match r, e6, hlt with
  | [], _, hlt => simp at hlt
  | b :: r, e6, hlt =>
    have e5 := e6 b r rfl more
    have ht : (q ++ (p ++ b :: r)).take (q.length + p.length + 1) ++ more = q ++ (p ++ b :: more) := by
      rw [List.take_append, List.take_of_length_le (by omega), show q.length + p.length + 1 - q.length = p.length + 1 by omega, List.take_append, List.take_of_length_le (by omega), show p.length + 1 - p.length = 1 by omega]
      simp
    rw [ht]
    have e7 := ofm_append _ q (p ++ b :: more) m (Nat.le_refl _) e2
    rw [ofm_bad (by simp) e5] at e7
    simp only [List.length_append, List.length_cons] at hs
    rw [ofR_bad (by simp only [List.length_append, List.length_cons]; omega) e7]
    simp only [List.length_append, List.length_cons, Prod.mk.injEq, true_and, and_true]
    omega
/-- what stands ahead of the place is the beginning of a right text. -/
theorem place_ends {s : List UInt8} {at_ : Nat} {l : List Nat} (hs : s.length ≤ 3000) (h : ofR s = (l, at_, 4)) : ∃ e ∈ ends, ∃ m, ofR (s.take at_ ++ e) = (m, 0, 0) := by
  obtain ⟨m, q, p, r, rfl, e2, e3, e4, rfl, _, _, e7⟩ := place_bad (by omega) h
  have ht : (q ++ (p ++ r)).take (q.length + p.length) = q ++ p := by
    rw [List.take_append, List.take_of_length_le (by omega), show q.length + p.length - q.length = p.length by omega, List.take_left]
  rw [ht]
  simp only [List.length_append] at hs
  rcases e7 with rfl | ⟨e, he, x, hx⟩
  · refine ⟨[], by decide, m, ?_⟩
    rw [List.append_nil, List.append_nil]
    exact ofR_ok (by omega) e2
  · refine ⟨e, he, m ++ [x], ?_⟩
    have hel : e.length ≤ 3 := by
      simp only [ends, List.mem_cons, List.not_mem_nil, or_false] at he
      rcases he with rfl | rfl | rfl | rfl | rfl | rfl | rfl <;> decide
    have e8 := ofm_append _ q (p ++ e) m (Nat.le_refl _) e2
    rw [ofm_ok hx, ofm_nil] at e8
    rw [List.append_assoc]
    exact ofR_ok (by simp only [List.length_append]; omega) e8
def endAt (i : Nat) : List UInt8 := ends.getD i []
theorem end_at {e : List UInt8} (h : e ∈ ends) : ∃ i, i < 7 ∧ e = endAt i := by
  obtain ⟨i, hi, rfl⟩ := List.mem_iff_getElem.1 h
  refine ⟨i, hi, ?_⟩
  unfold endAt
  rw [List.getD_eq_getElem?_getD, List.getElem?_eq_getElem hi]; rfl
end Go.Proofs.YtalnfbbggmhbfaaDoor
