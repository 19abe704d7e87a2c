/- Plain lemmas on rows of ranges: the set of code points that a row has; the one right row of a set; what is joined, met, turned round; how many. Of no program. -/
namespace Tnr

theorem sb0 {α : Type _} {i : Nat} {a : α} (l : List α) : l.toArray.setIfInBounds i a = (l.set i a).toArray := by simp
theorem sb1 {α : Type _} {a b : α} (l : List α) : (a :: l).set 0 b = b :: l := rfl
theorem sb2 {α : Type _} {n : Nat} {a b : α} (l : List α) : (a :: l).set (n + 1) b = a :: l.set n b := rfl
abbrev R := Int × Int

def RF : Int → List R → Prop
  | _, [] => True
  | last, r :: l => last + 1 < r.1 ∧ r.1 ≤ r.2 ∧ r.2 ≤ 1114111 ∧ RF r.2 l
def rfB : Int → List R → Bool
  | _, [] => true
  | last, r :: l => decide (last + 1 < r.1) && decide (r.1 ≤ r.2) && decide (r.2 ≤ 1114111) && rfB r.2 l
def rightB (l : List R) : Bool := rfB (-2) l

end Tnr
