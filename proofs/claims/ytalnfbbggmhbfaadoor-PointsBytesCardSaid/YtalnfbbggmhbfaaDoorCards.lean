/-
  DERIVED. GIVEN WITH THE SEED: THE CARDS: each row of YtalnfbbggmhbfaaDoorRows.lean that lists a variable, with what it lists TIED to the program's text (the seventh form; the later family's looks); each row that meets fmt, with fmt's text TOLD by the authors' own Lean function (tested against real Go, not proved from fmt's source: count such statements apart). THE CARD IS WHAT COUNTS. Prove the row's statement (the work); the ties are given (YtalnfbbggmhbfaaDoorTie.lean); close each card by the builder's one call (the guide's Derived/Test/ToyasCard.lean, 'card_holds'). Laid BY PROGRAM, IN A SANDBOX (cutbox-door.mjs). By AI agents, Wed Nov 11 2026. No macro, syntax, notation, axiom, sorry.
-/
import Derived.Test.YtalnfbbggmhbfaaDoorRows
import GoSem.ClaimSeven
namespace Go.Proofs.YtalnfbbggmhbfaaDoor
namespace Rows

/-- THE TIED CARD OF 'tinderlaw02.PointsBytes'. -/
def pointsBytesCard : Claim7 := { stood := { row := pointsBytesRow, standIns := [], harness := (true, "f0bdb038865dc5504972610342cfbc76a1c27705b0b434b58954b90b150ba6d9"), looks := false }, kinds := [], alts := [], laidByText := true, laidKinds := [.data, .data], laidTests := true, laidLooks := .later }
def PointsBytesCardSaid : Prop := Claim7.holds Tryd.pinned (.plain (OpenSpec.ofChange pointsBytesSpec)) pointsBytesCard

/-- THE SECOND FORM's CARD OF 'tinderlaw02.PointsBytes'. -/
def pointsBytesUptoCard : Claim7 := { stood := { row := pointsBytesUptoRow, standIns := [], harness := (true, "f0bdb038865dc5504972610342cfbc76a1c27705b0b434b58954b90b150ba6d9"), looks := false }, kinds := [], alts := [], laidByText := true, laidKinds := [.data, .data], laidTests := true, laidLooks := .later }
def PointsBytesUptoCardSaid : Prop := Claim7.holds Tryd.pinned (.plain (OpenSpec.upto pointsBytesSpec)) pointsBytesUptoCard
end Rows
end Go.Proofs.YtalnfbbggmhbfaaDoor
