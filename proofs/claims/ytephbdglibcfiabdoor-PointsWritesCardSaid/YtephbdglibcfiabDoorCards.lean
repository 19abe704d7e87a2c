/-
  DERIVED. GIVEN WITH THE SEED: THE CARDS: each row of YtephbdglibcfiabDoorRows.lean that lists a variable, with what it lists TIED to the program's text (the seventh form; the later family's looks); each row that meets fmt, with fmt's text TOLD by the authors' own Lean function (tested against real Go, not proved from fmt's source: count such statements apart). THE CARD IS WHAT COUNTS. Prove the row's statement (the work); the ties are given (YtephbdglibcfiabDoorTie.lean); close each card by the builder's one call (the guide's Derived/Test/ToyasCard.lean, 'card_holds'). Laid BY PROGRAM, IN A SANDBOX (cutbox-door.mjs). By AI agents, Wed Nov 11 2026. No macro, syntax, notation, axiom, sorry.
-/
import Derived.Test.YtephbdglibcfiabDoorRows
import GoSem.ClaimSeven
namespace Go.Proofs.YtephbdglibcfiabDoor
namespace Rows

/-- THE TIED CARD OF 'tinderlaw01.NatSteps'. -/
def natStepsCard : Claim7 := { stood := { row := natStepsRow, standIns := [], harness := (true, "ca2a67eafe7c1e56d657e8f27e8d6ea70f105374da247345cf6096d3d4338278"), looks := true }, kinds := [], alts := [], laidByText := true, laidKinds := [.data, .data, .data, .sentinel, .sentinel], laidTests := true, laidLooks := .later }
def NatStepsCardSaid : Prop := Claim7.holds Tryd.pinned (.plain (OpenSpec.ofChange natStepsSpec)) natStepsCard

/-- THE TIED CARD OF 'tinderlaw02.PointsReads'. -/
def pointsReadsCard : Claim7 := { stood := { row := pointsReadsRow, standIns := [], harness := (true, "ca2a67eafe7c1e56d657e8f27e8d6ea70f105374da247345cf6096d3d4338278"), looks := true }, kinds := [], alts := [], laidByText := true, laidKinds := [.data], laidTests := true, laidLooks := .later }
def PointsReadsCardSaid : Prop := Claim7.holds Tryd.pinned (.plain (OpenSpec.ofChange pointsReadsSpec)) pointsReadsCard

/-- THE TIED CARD OF 'tinderlaw02.PointsWrites'. -/
def pointsWritesCard : Claim7 := { stood := { row := pointsWritesRow, standIns := [], harness := (true, "ca2a67eafe7c1e56d657e8f27e8d6ea70f105374da247345cf6096d3d4338278"), looks := true }, kinds := [], alts := [], laidByText := true, laidKinds := [.data, .data], laidTests := true, laidLooks := .later }
def PointsWritesCardSaid : Prop := Claim7.holds Tryd.pinned (.plain (OpenSpec.ofChange pointsWritesSpec)) pointsWritesCard

/-- THE TIED CARD OF 'tinderlaw02.PointsPairs'. -/
def pointsPairsCard : Claim7 := { stood := { row := pointsPairsRow, standIns := [], harness := (true, "ca2a67eafe7c1e56d657e8f27e8d6ea70f105374da247345cf6096d3d4338278"), looks := true }, kinds := [], alts := [], laidByText := true, laidKinds := [.data], laidTests := true, laidLooks := .later }
def PointsPairsCardSaid : Prop := Claim7.holds Tryd.pinned (.plain (OpenSpec.ofChange pointsPairsSpec)) pointsPairsCard

/-- THE TIED CARD OF 'tinderlaw02.PointsBytes'. -/
def pointsBytesCard : Claim7 := { stood := { row := pointsBytesRow, standIns := [], harness := (true, "ca2a67eafe7c1e56d657e8f27e8d6ea70f105374da247345cf6096d3d4338278"), looks := true }, kinds := [], alts := [], laidByText := true, laidKinds := [.data, .data], laidTests := true, laidLooks := .later }
def PointsBytesCardSaid : Prop := Claim7.holds Tryd.pinned (.plain (OpenSpec.ofChange pointsBytesSpec)) pointsBytesCard

/-- THE TIED CARD OF 'tinderlaw02.PointsRound'. -/
def pointsRoundCard : Claim7 := { stood := { row := pointsRoundRow, standIns := [], harness := (true, "ca2a67eafe7c1e56d657e8f27e8d6ea70f105374da247345cf6096d3d4338278"), looks := true }, kinds := [], alts := [], laidByText := true, laidKinds := [.data, .data], laidTests := true, laidLooks := .later }
def PointsRoundCardSaid : Prop := Claim7.holds Tryd.pinned (.plain (OpenSpec.ofChange pointsRoundSpec)) pointsRoundCard

/-- THE SECOND FORM's CARD OF 'tinderlaw01.NatSteps'. -/
def natStepsUptoCard : Claim7 := { stood := { row := natStepsUptoRow, standIns := [], harness := (true, "ca2a67eafe7c1e56d657e8f27e8d6ea70f105374da247345cf6096d3d4338278"), looks := true }, kinds := [], alts := [], laidByText := true, laidKinds := [.data, .data, .data, .sentinel, .sentinel], laidTests := true, laidLooks := .later }
def NatStepsUptoCardSaid : Prop := Claim7.holds Tryd.pinned (.plain (OpenSpec.upto natStepsSpec)) natStepsUptoCard

/-- THE SECOND FORM's CARD OF 'tinderlaw02.PointsReads'. -/
def pointsReadsUptoCard : Claim7 := { stood := { row := pointsReadsUptoRow, standIns := [], harness := (true, "ca2a67eafe7c1e56d657e8f27e8d6ea70f105374da247345cf6096d3d4338278"), looks := true }, kinds := [], alts := [], laidByText := true, laidKinds := [.data], laidTests := true, laidLooks := .later }
def PointsReadsUptoCardSaid : Prop := Claim7.holds Tryd.pinned (.plain (OpenSpec.upto pointsReadsSpec)) pointsReadsUptoCard

/-- THE SECOND FORM's CARD OF 'tinderlaw02.PointsWrites'. -/
def pointsWritesUptoCard : Claim7 := { stood := { row := pointsWritesUptoRow, standIns := [], harness := (true, "ca2a67eafe7c1e56d657e8f27e8d6ea70f105374da247345cf6096d3d4338278"), looks := true }, kinds := [], alts := [], laidByText := true, laidKinds := [.data, .data], laidTests := true, laidLooks := .later }
def PointsWritesUptoCardSaid : Prop := Claim7.holds Tryd.pinned (.plain (OpenSpec.upto pointsWritesSpec)) pointsWritesUptoCard

/-- THE SECOND FORM's CARD OF 'tinderlaw02.PointsPairs'. -/
def pointsPairsUptoCard : Claim7 := { stood := { row := pointsPairsUptoRow, standIns := [], harness := (true, "ca2a67eafe7c1e56d657e8f27e8d6ea70f105374da247345cf6096d3d4338278"), looks := true }, kinds := [], alts := [], laidByText := true, laidKinds := [.data], laidTests := true, laidLooks := .later }
def PointsPairsUptoCardSaid : Prop := Claim7.holds Tryd.pinned (.plain (OpenSpec.upto pointsPairsSpec)) pointsPairsUptoCard

/-- THE SECOND FORM's CARD OF 'tinderlaw02.PointsBytes'. -/
def pointsBytesUptoCard : Claim7 := { stood := { row := pointsBytesUptoRow, standIns := [], harness := (true, "ca2a67eafe7c1e56d657e8f27e8d6ea70f105374da247345cf6096d3d4338278"), looks := true }, kinds := [], alts := [], laidByText := true, laidKinds := [.data, .data], laidTests := true, laidLooks := .later }
def PointsBytesUptoCardSaid : Prop := Claim7.holds Tryd.pinned (.plain (OpenSpec.upto pointsBytesSpec)) pointsBytesUptoCard

/-- THE SECOND FORM's CARD OF 'tinderlaw02.PointsRound'. -/
def pointsRoundUptoCard : Claim7 := { stood := { row := pointsRoundUptoRow, standIns := [], harness := (true, "ca2a67eafe7c1e56d657e8f27e8d6ea70f105374da247345cf6096d3d4338278"), looks := true }, kinds := [], alts := [], laidByText := true, laidKinds := [.data, .data], laidTests := true, laidLooks := .later }
def PointsRoundUptoCardSaid : Prop := Claim7.holds Tryd.pinned (.plain (OpenSpec.upto pointsRoundSpec)) pointsRoundUptoCard
end Rows
end Go.Proofs.YtephbdglibcfiabDoor
