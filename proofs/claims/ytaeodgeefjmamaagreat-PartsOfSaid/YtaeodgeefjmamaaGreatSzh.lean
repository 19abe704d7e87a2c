/- The walks of the document's Right, Many, Least, Meet, Not. -/
import Derived.Test.YtaeodgeefjmamaaGreatSzd
namespace Go.Proofs.YtaeodgeefjmamaaGreat
open Go.RowKit Tnr

theorem rt_mem : ∀ {l : List R} {a : Int}, RF a l → -2 ≤ a → ∀ r ∈ l, 0 ≤ r.1 ∧ r.1 ≤ r.2 ∧ r.2 ≤ 1114111
  | [], _, _, _, r, hr => by simp at hr
  | x :: l, a, h, ha, r, hr => by
    obtain ⟨h1, h2, h3, h4⟩ := h
    rcases List.mem_cons.1 hr with e | e
    · subst e; exact ⟨by omega, h2, h3⟩
    · exact rt_mem h4 (by omega) r e

end Go.Proofs.YtaeodgeefjmamaaGreat
