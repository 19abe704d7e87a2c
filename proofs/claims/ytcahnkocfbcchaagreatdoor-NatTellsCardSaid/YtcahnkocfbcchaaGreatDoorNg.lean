/- The walk of the document's Sum: two rows of decimal digits, added. -/
import Derived.Test.YtcahnkocfbcchaaGreatDoorNc

namespace Go.Proofs.YtcahnkocfbcchaaGreatDoor
open Go.RowKit Tnd

theorem nv_take_gd (K : Nat) (l : List Nat) (k : Nat) : nv K (l.take (k + 1)) = nv K (l.take k) + K ^ k * gd l k := by
  rcases Nat.lt_or_ge k l.length with h | h
  · exact nv_take_succ K l k h
  · have h1 : l.take (k + 1) = l := List.take_of_length_le (by omega)
    have h2 : l.take k = l := List.take_of_length_le h
    have h3 : gd l k = 0 := getD_off h
    rw [h1, h2, h3]; simp
end Go.Proofs.YtcahnkocfbcchaaGreatDoor
