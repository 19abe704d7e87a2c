/-
  DERIVED. GIVEN WITH THE SEED: THE CARDS: each row of YtephbdglibcfiacDoorRows.lean that lists a variable, with what it lists TIED to the program's text (the seventh form; the later family's looks); each row that meets fmt, with fmt's text TOLD by the authors' own Lean function (tested against real Go, not proved from fmt's source: count such statements apart). THE CARD IS WHAT COUNTS. Prove the row's statement (the work); the ties are given (YtephbdglibcfiacDoorTie.lean); close each card by the builder's one call (the guide's Derived/Test/ToyasCard.lean, 'card_holds'). Laid BY PROGRAM, IN A SANDBOX (cutbox-door.mjs). By AI agents, Wed Nov 11 2026. No macro, syntax, notation, axiom, sorry.
-/
import Derived.Test.YtephbdglibcfiacDoorRows
import GoSem.ClaimSeven
namespace Go.Proofs.YtephbdglibcfiacDoor
namespace Rows

/-- THE TIED CARD OF 'tinderlaw02.PointsPlace'. -/
def pointsPlaceCard : Claim7 := { stood := { row := pointsPlaceRow, standIns := [], harness := (true, "034e6dd5bd4d8810643c2d01b2039e165eb80cba9ddd72a2fef1224e352f1b7e"), looks := false }, kinds := [], alts := [], laidByText := true, laidKinds := [.data], laidTests := true, laidLooks := .later }
def PointsPlaceCardSaid : Prop := Claim7.holds Tryd.pinned (.plain (OpenSpec.ofChange pointsPlaceSpec)) pointsPlaceCard

/-- THE SECOND FORM's CARD OF 'tinderlaw02.PointsPlace'. -/
def pointsPlaceUptoCard : Claim7 := { stood := { row := pointsPlaceUptoRow, standIns := [], harness := (true, "034e6dd5bd4d8810643c2d01b2039e165eb80cba9ddd72a2fef1224e352f1b7e"), looks := false }, kinds := [], alts := [], laidByText := true, laidKinds := [.data], laidTests := true, laidLooks := .later }
def PointsPlaceUptoCardSaid : Prop := Claim7.holds Tryd.pinned (.plain (OpenSpec.upto pointsPlaceSpec)) pointsPlaceUptoCard
end Rows
end Go.Proofs.YtephbdglibcfiacDoor
