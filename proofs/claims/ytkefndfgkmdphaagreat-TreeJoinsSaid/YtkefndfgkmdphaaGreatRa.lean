namespace Tnr

abbrev R := Int × Int

def RF : Int → List R → Prop
 | _, [] => True
 | last, r :: l => last + 1 < r.1 ∧ r.1 ≤ r.2 ∧ r.2 ≤ 1114111 ∧ RF r.2 l
def rfB : Int → List R → Bool
 | _, [] => true
 | last, r :: l => decide (last + 1 < r.1) && decide (r.1 ≤ r.2) && decide (r.2 ≤ 1114111) && rfB r.2 l
def rightB (l : List R) : Bool := rfB (-2) l

end Tnr
