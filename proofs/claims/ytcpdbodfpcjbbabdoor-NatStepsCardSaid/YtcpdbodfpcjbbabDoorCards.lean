/-
  DERIVED. GIVEN WITH THE SEED: THE CARDS: each row of YtcpdbodfpcjbbabDoorRows.lean that lists a variable, with what it lists TIED to the program's text (the seventh form; the later family's looks); each row that meets fmt, with fmt's text TOLD by the authors' own Lean function (tested against real Go, not proved from fmt's source: count such statements apart). THE CARD IS WHAT COUNTS. Prove the row's statement (the work); the ties are given (YtcpdbodfpcjbbabDoorTie.lean); close each card by the builder's one call (the guide's Derived/Test/ToyasCard.lean, 'card_holds'). Laid BY PROGRAM, IN A SANDBOX (cutbox-door.mjs). By AI agents, Wed Nov 11 2026. No macro, syntax, notation, axiom, sorry.
-/
import Derived.Test.YtcpdbodfpcjbbabDoorRows
import GoSem.ClaimSeven
namespace Go.Proofs.YtcpdbodfpcjbbabDoor
namespace Rows

/-- THE TIED CARD OF 'tinderlaw01.NatSteps'. -/
def natStepsCard : Claim7 := { stood := { row := natStepsRow, standIns := [], harness := (true, "f92fd4a29a2789a3d0f796466ce2860daca8d65450d2e4fd529302353b3c1464"), looks := true }, kinds := [], alts := [], laidByText := true, laidKinds := [.data, .data, .data, .sentinel, .sentinel], laidTests := true, laidLooks := .later }
def NatStepsCardSaid : Prop := Claim7.holds Tryd.pinned (.plain (OpenSpec.ofChange natStepsSpec)) natStepsCard

/-- THE SECOND FORM's CARD OF 'tinderlaw01.NatSteps'. -/
def natStepsUptoCard : Claim7 := { stood := { row := natStepsUptoRow, standIns := [], harness := (true, "f92fd4a29a2789a3d0f796466ce2860daca8d65450d2e4fd529302353b3c1464"), looks := true }, kinds := [], alts := [], laidByText := true, laidKinds := [.data, .data, .data, .sentinel, .sentinel], laidTests := true, laidLooks := .later }
def NatStepsUptoCardSaid : Prop := Claim7.holds Tryd.pinned (.plain (OpenSpec.upto natStepsSpec)) natStepsUptoCard
end Rows
end Go.Proofs.YtcpdbodfpcjbbabDoor
