/-
  No cell of these rows narrows 'for every input' (looked for: loops, veiled, ifaces, maps, wideKeys, modest, calm, conditions, laid).
  DERIVED. THE GIVEN ROWS OF THIS SEAT. 4 by the template 'for every input the law returns true; each argument reads behind the call as it read before'; 0 by the template 'total and deterministic' (their statements: YtobdkkcihjpebaaGreatTotals.lean).
  GIVEN WITH THE SEED: the statements are not yours to turn. If you find one false, say at which input.
  Laid BY PROGRAM, IN A SANDBOX (cutbox-rows.mjs): the forced cells as the released guide's own fill.sh prints them over the translation d3964f1d8cb70b93… (all of the seat's roots in one cut). By AI agents, Wed Nov 11 2026. No macro, syntax, notation, axiom, sorry.
-/
import Derived.Test.YtobdkkcihjpebaaGreatChecked
import GoSem.Claim
import GoSem.ClaimJoined
import GoSem.ClaimMapViews
import Derived.JoinedTies
import Derived.KernelRfl
namespace Go.Proofs.YtobdkkcihjpebaaGreat
/- THE CELL 'sum', in the pinned program and in every row, IS THE sha256 OF THE DUMP (.gsa) THAT YtobdkkcihjpebaaGreatProg.lean LOADS. Nothing in Lean hashes anything: it is a label: what it is worth is what the hold of that sum in a sandbox is worth. -/
noncomputable def Tryz.pinned : Pinned := { name := "ytobdkkcihjpebaagreat", sum := "d3964f1d8cb70b93d26a77f9dc45d20b552489e75ddbf6b464cb93a074ace184", checked := Tryz.checked }
namespace Rows
def none {H : Type} : Left H := { results := [], args := [] }

/-- 'tinderlaw03.RangesTells': WHATEVER THE INPUT: true; the input reads as it did. -/
def rangesTellsSpec : ChangeSpec := { name := "rangesTells", fn := fun _ => fun
  | [d1, d2, d3] => { results := [.lit (.bool true)], args := [d1, d2, d3] }
  | _ => none }
def rangesTellsRow : OpenClaim := { program := "ytobdkkcihjpebaagreat", sum := "d3964f1d8cb70b93d26a77f9dc45d20b552489e75ddbf6b464cb93a074ace184", func := "tinder/tinderlaw03.RangesTells", spec := "rangesTells", unfollowed := true, recurses := true, apart := false }
def RangesTellsSaid : Prop := rangesTellsRow.holds Tryz.pinned (OpenSpec.ofChange rangesTellsSpec)

/-- ITS FALSE NEIGHBOUR: 'it returns false'. Refute it at one input. -/
def rangesTellsWrong : ChangeSpec := { name := "rangesTells", fn := fun _ => fun
  | [d1, d2, d3] => { results := [.lit (.bool false)], args := [d1, d2, d3] }
  | _ => none }
def RangesTellsWrongFalsely : Prop := rangesTellsRow.holds Tryz.pinned (OpenSpec.ofChange rangesTellsWrong)

/-- 'tinderlaw03.RangesEnds': WHATEVER THE INPUT: true; the input reads as it did. -/
def rangesEndsSpec : ChangeSpec := { name := "rangesEnds", fn := fun _ => fun
  | [] => { results := [.lit (.bool true)], args := [] }
  | _ => none }
def rangesEndsRow : OpenClaim := { program := "ytobdkkcihjpebaagreat", sum := "d3964f1d8cb70b93d26a77f9dc45d20b552489e75ddbf6b464cb93a074ace184", func := "tinder/tinderlaw03.RangesEnds", spec := "rangesEnds", unfollowed := true, recurses := true, apart := false }
def RangesEndsSaid : Prop := rangesEndsRow.holds Tryz.pinned (OpenSpec.ofChange rangesEndsSpec)

/-- ITS FALSE NEIGHBOUR: 'it returns false'. Refute it at one input. -/
def rangesEndsWrong : ChangeSpec := { name := "rangesEnds", fn := fun _ => fun
  | [] => { results := [.lit (.bool false)], args := [] }
  | _ => none }
def RangesEndsWrongFalsely : Prop := rangesEndsRow.holds Tryz.pinned (OpenSpec.ofChange rangesEndsWrong)

/-- 'tinderlaw04.FoldSets': WHATEVER THE INPUT: true; the input reads as it did. -/
def foldSetsSpec : ChangeSpec := { name := "foldSets", fn := fun _ => fun
  | [d1, d2] => { results := [.lit (.bool true)], args := [d1, d2] }
  | _ => none }
def foldSetsRow : OpenClaim := { program := "ytobdkkcihjpebaagreat", sum := "d3964f1d8cb70b93d26a77f9dc45d20b552489e75ddbf6b464cb93a074ace184", func := "tinder/tinderlaw04.FoldSets", spec := "foldSets", unfollowed := true, recurses := true, apart := false }
def FoldSetsSaid : Prop := foldSetsRow.holds Tryz.pinned (OpenSpec.ofChange foldSetsSpec)

/-- ITS FALSE NEIGHBOUR: 'it returns false'. Refute it at one input. -/
def foldSetsWrong : ChangeSpec := { name := "foldSets", fn := fun _ => fun
  | [d1, d2] => { results := [.lit (.bool false)], args := [d1, d2] }
  | _ => none }
def FoldSetsWrongFalsely : Prop := foldSetsRow.holds Tryz.pinned (OpenSpec.ofChange foldSetsWrong)

/-- 'tinderlaw04.FoldEnds': WHATEVER THE INPUT: true; the input reads as it did. -/
def foldEndsSpec : ChangeSpec := { name := "foldEnds", fn := fun _ => fun
  | [] => { results := [.lit (.bool true)], args := [] }
  | _ => none }
def foldEndsRow : OpenClaim := { program := "ytobdkkcihjpebaagreat", sum := "d3964f1d8cb70b93d26a77f9dc45d20b552489e75ddbf6b464cb93a074ace184", func := "tinder/tinderlaw04.FoldEnds", spec := "foldEnds", inPlace := ["internal/bytealg.abigen_runtime_cmpstring", "internal/abi.NoEscape", "internal/bytealg.MakeNoZero"], unfollowed := true, recurses := true, apart := false }
def FoldEndsSaid : Prop := foldEndsRow.holds Tryz.pinned (OpenSpec.ofChange foldEndsSpec)

/-- ITS FALSE NEIGHBOUR: 'it returns false'. Refute it at one input. -/
def foldEndsWrong : ChangeSpec := { name := "foldEnds", fn := fun _ => fun
  | [] => { results := [.lit (.bool false)], args := [] }
  | _ => none }
def FoldEndsWrongFalsely : Prop := foldEndsRow.holds Tryz.pinned (OpenSpec.ofChange foldEndsWrong)

/- THE SECOND FORM. 'bulk': how many values and letters a reading holds, each counted each time it is reached (what is shared counts as often as it is met; a slice's spare places count too). A statement '..UptoSaid' is the law's where the arguments, and the package variables that the reading takes, are together of bulk at most 1048576: NARROWER than '..Said'. Prove '..Said' where nothing that the law and all that it calls make is longer than what came in: it says more and counts as full. Else prove '..UptoSaid'. A law counts once. -/
mutual
def uptoBulk {H : Type} : DataW H → Nat
  | .lit (.string bytes) => bytes.length + 1
  | .lit _ => 1
  | .nil => 1
  | .ptr d => uptoBulk d + 1
  | .slice elems spare => uptoBulkAll elems + uptoBulkAll spare + 1
  | .agg parts => uptoBulkAll parts + 1
  | .iface _ d => uptoBulk d + 1
  | .map entries => uptoBulkEntries entries + 1
  | .held _ => 1
def uptoBulkAll {H : Type} : List (DataW H) → Nat
  | [] => 0
  | d :: r => uptoBulk d + uptoBulkAll r
def uptoBulkEntries {H : Type} : List (Lit × DataW H) → Nat
  | [] => 0
  | x :: r => uptoBulkEntry x + uptoBulkEntries r
def uptoBulkEntry {H : Type} : Lit × DataW H → Nat
  | (.string bytes, d) => bytes.length + uptoBulk d + 1
  | (_, d) => uptoBulk d + 1
 end
def uptoSmall : (H : Type) → List (DataW H) → Bool := fun _ ds => decide (uptoBulkAll ds ≤ 1048576)
def OpenSpec.upto (s : _root_.Go.ChangeSpec) : _root_.Go.OpenSpec := { _root_.Go.OpenSpec.ofChange s with cond := some uptoSmall }

/-- 'tinderlaw03.RangesTells', WHERE WHAT IT READS IS OF BULK AT MOST 1048576: true; the input reads as it did. -/
def rangesTellsUptoRow : OpenClaim := { program := "ytobdkkcihjpebaagreat", sum := "d3964f1d8cb70b93d26a77f9dc45d20b552489e75ddbf6b464cb93a074ace184", func := "tinder/tinderlaw03.RangesTells", spec := "rangesTells", unfollowed := true, recurses := true, apart := false, narrowed := true }
def RangesTellsUptoSaid : Prop := rangesTellsUptoRow.holds Tryz.pinned (OpenSpec.upto rangesTellsSpec)

/-- 'tinderlaw03.RangesEnds', WHERE WHAT IT READS IS OF BULK AT MOST 1048576: true; the input reads as it did. -/
def rangesEndsUptoRow : OpenClaim := { program := "ytobdkkcihjpebaagreat", sum := "d3964f1d8cb70b93d26a77f9dc45d20b552489e75ddbf6b464cb93a074ace184", func := "tinder/tinderlaw03.RangesEnds", spec := "rangesEnds", unfollowed := true, recurses := true, apart := false, narrowed := true }
def RangesEndsUptoSaid : Prop := rangesEndsUptoRow.holds Tryz.pinned (OpenSpec.upto rangesEndsSpec)

/-- 'tinderlaw04.FoldSets', WHERE WHAT IT READS IS OF BULK AT MOST 1048576: true; the input reads as it did. -/
def foldSetsUptoRow : OpenClaim := { program := "ytobdkkcihjpebaagreat", sum := "d3964f1d8cb70b93d26a77f9dc45d20b552489e75ddbf6b464cb93a074ace184", func := "tinder/tinderlaw04.FoldSets", spec := "foldSets", unfollowed := true, recurses := true, apart := false, narrowed := true }
def FoldSetsUptoSaid : Prop := foldSetsUptoRow.holds Tryz.pinned (OpenSpec.upto foldSetsSpec)

/-- 'tinderlaw04.FoldEnds', WHERE WHAT IT READS IS OF BULK AT MOST 1048576: true; the input reads as it did. -/
def foldEndsUptoRow : OpenClaim := { program := "ytobdkkcihjpebaagreat", sum := "d3964f1d8cb70b93d26a77f9dc45d20b552489e75ddbf6b464cb93a074ace184", func := "tinder/tinderlaw04.FoldEnds", spec := "foldEnds", inPlace := ["internal/bytealg.abigen_runtime_cmpstring", "internal/abi.NoEscape", "internal/bytealg.MakeNoZero"], unfollowed := true, recurses := true, apart := false, narrowed := true }
def FoldEndsUptoSaid : Prop := foldEndsUptoRow.holds Tryz.pinned (OpenSpec.upto foldEndsSpec)

end Rows
end Go.Proofs.YtobdkkcihjpebaaGreat
