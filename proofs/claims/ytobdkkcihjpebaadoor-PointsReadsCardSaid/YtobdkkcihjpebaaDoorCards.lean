/-
  DERIVED. GIVEN WITH THE SEED: THE CARDS: each row of YtobdkkcihjpebaaDoorRows.lean that lists a variable, with what it lists TIED to the program's text (the seventh form; the later family's looks); each row that meets fmt, with fmt's text TOLD by the authors' own Lean function (tested against real Go, not proved from fmt's source: count such statements apart). THE CARD IS WHAT COUNTS. Prove the row's statement (the work); the ties are given (YtobdkkcihjpebaaDoorTie.lean); close each card by the builder's one call (the guide's Derived/Test/ToyasCard.lean, 'card_holds'). Laid BY PROGRAM, IN A SANDBOX (cutbox-door.mjs). By AI agents, Wed Nov 11 2026. No macro, syntax, notation, axiom, sorry.
-/
import Derived.Test.YtobdkkcihjpebaaDoorRows
import GoSem.ClaimSeven
namespace Go.Proofs.YtobdkkcihjpebaaDoor
namespace Rows

/-- THE TIED CARD OF 'tinderlaw02.PointsReads'. -/
def pointsReadsCard : Claim7 := { stood := { row := pointsReadsRow, standIns := [], harness := (true, "f21ca0d548a8a8bc1d45b24db4b5c5066693fc68407b51c3aae5c1594e14d31c"), looks := false }, kinds := [], alts := [], laidByText := true, laidKinds := [.data], laidTests := true, laidLooks := .later }
def PointsReadsCardSaid : Prop := Claim7.holds Tryd.pinned (.plain (OpenSpec.ofChange pointsReadsSpec)) pointsReadsCard

/-- THE TIED CARD OF 'tinderlaw02.PointsBytes'. -/
def pointsBytesCard : Claim7 := { stood := { row := pointsBytesRow, standIns := [], harness := (true, "f21ca0d548a8a8bc1d45b24db4b5c5066693fc68407b51c3aae5c1594e14d31c"), looks := false }, kinds := [], alts := [], laidByText := true, laidKinds := [.data, .data], laidTests := true, laidLooks := .later }
def PointsBytesCardSaid : Prop := Claim7.holds Tryd.pinned (.plain (OpenSpec.ofChange pointsBytesSpec)) pointsBytesCard

/-- THE SECOND FORM's CARD OF 'tinderlaw02.PointsReads'. -/
def pointsReadsUptoCard : Claim7 := { stood := { row := pointsReadsUptoRow, standIns := [], harness := (true, "f21ca0d548a8a8bc1d45b24db4b5c5066693fc68407b51c3aae5c1594e14d31c"), looks := false }, kinds := [], alts := [], laidByText := true, laidKinds := [.data], laidTests := true, laidLooks := .later }
def PointsReadsUptoCardSaid : Prop := Claim7.holds Tryd.pinned (.plain (OpenSpec.upto pointsReadsSpec)) pointsReadsUptoCard

/-- THE SECOND FORM's CARD OF 'tinderlaw02.PointsBytes'. -/
def pointsBytesUptoCard : Claim7 := { stood := { row := pointsBytesUptoRow, standIns := [], harness := (true, "f21ca0d548a8a8bc1d45b24db4b5c5066693fc68407b51c3aae5c1594e14d31c"), looks := false }, kinds := [], alts := [], laidByText := true, laidKinds := [.data, .data], laidTests := true, laidLooks := .later }
def PointsBytesUptoCardSaid : Prop := Claim7.holds Tryd.pinned (.plain (OpenSpec.upto pointsBytesSpec)) pointsBytesUptoCard
end Rows
end Go.Proofs.YtobdkkcihjpebaaDoor
