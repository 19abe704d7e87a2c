/- The walks of the document's Add and Mul. -/
import Derived.Test.YtcahnkocfbcchaaGreatDoorNg
import Derived.Test.YtcahnkocfbcchaaGreatDoorWh
import Derived.BigRegion
import Derived.StillTailTactics

namespace Go.Proofs.YtcahnkocfbcchaaGreatDoor
open Go.RowKit Tnd

theorem nv_lt32 (l : List Nat) (h : Digs 4294967296 l) : nv 4294967296 l < 2 ^ (32 * l.length) := by
  have h1 := nv_lt 4294967296 l h
  rw [Nat.pow_mul]; exact h1
end Go.Proofs.YtcahnkocfbcchaaGreatDoor
