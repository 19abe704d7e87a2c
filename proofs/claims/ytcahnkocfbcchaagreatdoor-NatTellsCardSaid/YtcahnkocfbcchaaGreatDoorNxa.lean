/- The walk of the document's Pow at small numbers and powers. -/
import Derived.Test.YtcahnkocfbcchaaGreatDoorNi
import Derived.Test.YtcahnkocfbcchaaGreatDoorWn
import Derived.BigQuiet

namespace Go.Proofs.YtcahnkocfbcchaaGreatDoor
open Go.RowKit Tnd

def kbits : Nat := 4000
theorem kbits_eq : kbits = 4000 := rfl
end Go.Proofs.YtcahnkocfbcchaaGreatDoor
