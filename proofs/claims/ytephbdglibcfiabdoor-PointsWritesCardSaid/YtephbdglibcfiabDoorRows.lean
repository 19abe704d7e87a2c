/-
  NARROWER THAN 'FOR EVERY INPUT', by the rows' own cells (each row's printed sentence says how): NatSteps: laid · PointsReads: laid · PointsWrites: laid · PointsPairs: laid · PointsBytes: laid · PointsRound: laid.
  DERIVED. THE GIVEN ROWS OF THIS SEAT. 6 by the template 'for every input the law returns true; each argument reads behind the call as it read before'; 0 by the template 'total and deterministic' (their statements: YtephbdglibcfiabDoorTotals.lean).
  GIVEN WITH THE SEED: the statements are not yours to turn. If you find one false, say at which input.
  Laid BY PROGRAM, IN A SANDBOX (cutbox-rows.mjs): the forced cells as the released guide's own fill.sh prints them over the translation 83143b6c335d9bf3… (all of the seat's roots in one cut). By AI agents, Wed Nov 11 2026. No macro, syntax, notation, axiom, sorry.
-/
import Derived.Test.YtephbdglibcfiabDoorChecked
import GoSem.Claim
import GoSem.ClaimJoined
import GoSem.ClaimMapViews
import Derived.JoinedTies
import Derived.KernelRfl
namespace Go.Proofs.YtephbdglibcfiabDoor
/- THE CELL 'sum', in the pinned program and in every row, IS THE sha256 OF THE DUMP (.gsa) THAT YtephbdglibcfiabDoorProg.lean LOADS. Nothing in Lean hashes anything: it is a label: what it is worth is what the hold of that sum in a sandbox is worth. -/
noncomputable def Tryd.pinned : Pinned := { name := "ytephbdglibcfiabdoor", sum := "83143b6c335d9bf32ab0985d351955115370ec81b6e863eb552e6d4b43d60fbb", checked := Tryd.checked }
namespace Rows
def none {H : Type} : Left H := { results := [], args := [] }

/- WHAT THE LISTED PACKAGE-LEVEL VARIABLES READ AS WHEN THE CALL BEGINS. Each datum BY PROGRAM (the guide's laid-datum.mjs) off the statement by which the dump's own 'gosem.cut.vars' lays the variable. In a bare row this is a premise. The card (YtephbdglibcfiabDoorCards.lean) ties it to the program's text. -/
def laid_math_bits_deBruijn32tab {H : Type} : DataW H := .agg [.lit (.int .u8 0), .lit (.int .u8 1), .lit (.int .u8 28), .lit (.int .u8 2), .lit (.int .u8 29), .lit (.int .u8 14), .lit (.int .u8 24), .lit (.int .u8 3), .lit (.int .u8 30), .lit (.int .u8 22), .lit (.int .u8 20), .lit (.int .u8 15), .lit (.int .u8 25), .lit (.int .u8 17), .lit (.int .u8 4), .lit (.int .u8 8), .lit (.int .u8 31), .lit (.int .u8 27), .lit (.int .u8 13), .lit (.int .u8 23), .lit (.int .u8 21), .lit (.int .u8 19), .lit (.int .u8 16), .lit (.int .u8 7), .lit (.int .u8 26), .lit (.int .u8 12), .lit (.int .u8 18), .lit (.int .u8 6), .lit (.int .u8 11), .lit (.int .u8 5), .lit (.int .u8 10), .lit (.int .u8 9)]
def laid_math_bits_deBruijn64tab {H : Type} : DataW H := .agg [.lit (.int .u8 0), .lit (.int .u8 1), .lit (.int .u8 56), .lit (.int .u8 2), .lit (.int .u8 57), .lit (.int .u8 49), .lit (.int .u8 28), .lit (.int .u8 3), .lit (.int .u8 61), .lit (.int .u8 58), .lit (.int .u8 42), .lit (.int .u8 50), .lit (.int .u8 38), .lit (.int .u8 29), .lit (.int .u8 17), .lit (.int .u8 4), .lit (.int .u8 62), .lit (.int .u8 47), .lit (.int .u8 59), .lit (.int .u8 36), .lit (.int .u8 45), .lit (.int .u8 43), .lit (.int .u8 51), .lit (.int .u8 22), .lit (.int .u8 53), .lit (.int .u8 39), .lit (.int .u8 33), .lit (.int .u8 30), .lit (.int .u8 24), .lit (.int .u8 18), .lit (.int .u8 12), .lit (.int .u8 5), .lit (.int .u8 63), .lit (.int .u8 55), .lit (.int .u8 48), .lit (.int .u8 27), .lit (.int .u8 60), .lit (.int .u8 41), .lit (.int .u8 37), .lit (.int .u8 16), .lit (.int .u8 46), .lit (.int .u8 35), .lit (.int .u8 44), .lit (.int .u8 21), .lit (.int .u8 52), .lit (.int .u8 32), .lit (.int .u8 23), .lit (.int .u8 11), .lit (.int .u8 54), .lit (.int .u8 26), .lit (.int .u8 40), .lit (.int .u8 15), .lit (.int .u8 34), .lit (.int .u8 20), .lit (.int .u8 31), .lit (.int .u8 10), .lit (.int .u8 25), .lit (.int .u8 14), .lit (.int .u8 19), .lit (.int .u8 9), .lit (.int .u8 13), .lit (.int .u8 8), .lit (.int .u8 7), .lit (.int .u8 6)]
def laid_internal_strconv_uint64pow10 {H : Type} : DataW H := .agg [.lit (.int .u64 1), .lit (.int .u64 10), .lit (.int .u64 100), .lit (.int .u64 1000), .lit (.int .u64 10000), .lit (.int .u64 100000), .lit (.int .u64 1000000), .lit (.int .u64 10000000), .lit (.int .u64 100000000), .lit (.int .u64 1000000000), .lit (.int .u64 10000000000), .lit (.int .u64 100000000000), .lit (.int .u64 1000000000000), .lit (.int .u64 10000000000000), .lit (.int .u64 100000000000000), .lit (.int .u64 1000000000000000), .lit (.int .u64 10000000000000000), .lit (.int .u64 100000000000000000), .lit (.int .u64 1000000000000000000), .lit (.int .u64 10000000000000000000)]
def laid_strconv_ErrRange {H : Type} : DataW H := .iface "*errors.errorString" (.ptr (.agg [.lit (.string [118, 97, 108, 117, 101, 32, 111, 117, 116, 32, 111, 102, 32, 114, 97, 110, 103, 101])]))
def laid_strconv_ErrSyntax {H : Type} : DataW H := .iface "*errors.errorString" (.ptr (.agg [.lit (.string [105, 110, 118, 97, 108, 105, 100, 32, 115, 121, 110, 116, 97, 120])]))
def laid_tinder_points_leads {H : Type} : DataW H := .agg [.agg [.lit (.int .u8 0), .lit (.int .u8 127), .lit (.int .u8 0), .lit (.int .i64 0), .lit (.int .u8 0), .lit (.int .u8 0)], .agg [.lit (.int .u8 194), .lit (.int .u8 223), .lit (.int .u8 192), .lit (.int .i64 1), .lit (.int .u8 128), .lit (.int .u8 191)], .agg [.lit (.int .u8 224), .lit (.int .u8 224), .lit (.int .u8 224), .lit (.int .i64 2), .lit (.int .u8 160), .lit (.int .u8 191)], .agg [.lit (.int .u8 225), .lit (.int .u8 236), .lit (.int .u8 224), .lit (.int .i64 2), .lit (.int .u8 128), .lit (.int .u8 191)], .agg [.lit (.int .u8 237), .lit (.int .u8 237), .lit (.int .u8 224), .lit (.int .i64 2), .lit (.int .u8 128), .lit (.int .u8 159)], .agg [.lit (.int .u8 238), .lit (.int .u8 239), .lit (.int .u8 224), .lit (.int .i64 2), .lit (.int .u8 128), .lit (.int .u8 191)], .agg [.lit (.int .u8 240), .lit (.int .u8 240), .lit (.int .u8 240), .lit (.int .i64 3), .lit (.int .u8 144), .lit (.int .u8 191)], .agg [.lit (.int .u8 241), .lit (.int .u8 243), .lit (.int .u8 240), .lit (.int .i64 3), .lit (.int .u8 128), .lit (.int .u8 191)], .agg [.lit (.int .u8 244), .lit (.int .u8 244), .lit (.int .u8 240), .lit (.int .i64 3), .lit (.int .u8 128), .lit (.int .u8 143)]]
def laid_tinder_points_sizes {H : Type} : DataW H := .agg [.agg [.lit (.int .i64 127), .lit (.int .u8 0)], .agg [.lit (.int .i64 2047), .lit (.int .u8 192)], .agg [.lit (.int .i64 65535), .lit (.int .u8 224)], .agg [.lit (.int .i64 1114111), .lit (.int .u8 240)]]

/-- 'tinderlaw01.NatSteps': WHATEVER THE INPUT: true; the input reads as it did. -/
def natStepsSpec : ChangeSpec := { name := "natSteps", fn := fun _ => fun
  | [d1, d2, d3] => { results := [.lit (.bool true)], args := [d1, d2, d3] }
  | _ => none }
def natStepsRow : OpenClaim := { program := "ytephbdglibcfiabdoor", sum := "83143b6c335d9bf32ab0985d351955115370ec81b6e863eb552e6d4b43d60fbb", func := "tinder/tinderlaw01.NatSteps", spec := "natSteps", inPlace := ["internal/abi.NoEscape", "internal/bytealg.MakeNoZero"], unfollowed := true, recurses := true, named := ["strconv.ErrSyntax", "strconv.ErrRange", "internal/strconv.uint64pow10", "math/bits.deBruijn32tab", "math/bits.deBruijn64tab"], apart := false, laid := [("math/bits.deBruijn32tab", laid_math_bits_deBruijn32tab), ("math/bits.deBruijn64tab", laid_math_bits_deBruijn64tab), ("internal/strconv.uint64pow10", laid_internal_strconv_uint64pow10), ("strconv.ErrRange", laid_strconv_ErrRange), ("strconv.ErrSyntax", laid_strconv_ErrSyntax)] }
def NatStepsSaid : Prop := natStepsRow.holds Tryd.pinned (OpenSpec.ofChange natStepsSpec)

/-- ITS FALSE NEIGHBOUR: 'it returns false'. Refute it at one input. -/
def natStepsWrong : ChangeSpec := { name := "natSteps", fn := fun _ => fun
  | [d1, d2, d3] => { results := [.lit (.bool false)], args := [d1, d2, d3] }
  | _ => none }
def NatStepsWrongFalsely : Prop := natStepsRow.holds Tryd.pinned (OpenSpec.ofChange natStepsWrong)

/-- 'tinderlaw02.PointsReads': WHATEVER THE INPUT: true; the input reads as it did. -/
def pointsReadsSpec : ChangeSpec := { name := "pointsReads", fn := fun _ => fun
  | [d] => { results := [.lit (.bool true)], args := [d] }
  | _ => none }
def pointsReadsRow : OpenClaim := { program := "ytephbdglibcfiabdoor", sum := "83143b6c335d9bf32ab0985d351955115370ec81b6e863eb552e6d4b43d60fbb", func := "tinder/tinderlaw02.PointsReads", spec := "pointsReads", recurses := true, named := ["tinder/points.leads"], apart := false, laid := [("tinder/points.leads", laid_tinder_points_leads)] }
def PointsReadsSaid : Prop := pointsReadsRow.holds Tryd.pinned (OpenSpec.ofChange pointsReadsSpec)

/-- ITS FALSE NEIGHBOUR: 'it returns false'. Refute it at one input. -/
def pointsReadsWrong : ChangeSpec := { name := "pointsReads", fn := fun _ => fun
  | [d] => { results := [.lit (.bool false)], args := [d] }
  | _ => none }
def PointsReadsWrongFalsely : Prop := pointsReadsRow.holds Tryd.pinned (OpenSpec.ofChange pointsReadsWrong)

/-- 'tinderlaw02.PointsWrites': WHATEVER THE INPUT: true; the input reads as it did. -/
def pointsWritesSpec : ChangeSpec := { name := "pointsWrites", fn := fun _ => fun
  | [d] => { results := [.lit (.bool true)], args := [d] }
  | _ => none }
def pointsWritesRow : OpenClaim := { program := "ytephbdglibcfiabdoor", sum := "83143b6c335d9bf32ab0985d351955115370ec81b6e863eb552e6d4b43d60fbb", func := "tinder/tinderlaw02.PointsWrites", spec := "pointsWrites", named := ["tinder/points.leads", "tinder/points.sizes"], apart := false, laid := [("tinder/points.leads", laid_tinder_points_leads), ("tinder/points.sizes", laid_tinder_points_sizes)] }
def PointsWritesSaid : Prop := pointsWritesRow.holds Tryd.pinned (OpenSpec.ofChange pointsWritesSpec)

/-- ITS FALSE NEIGHBOUR: 'it returns false'. Refute it at one input. -/
def pointsWritesWrong : ChangeSpec := { name := "pointsWrites", fn := fun _ => fun
  | [d] => { results := [.lit (.bool false)], args := [d] }
  | _ => none }
def PointsWritesWrongFalsely : Prop := pointsWritesRow.holds Tryd.pinned (OpenSpec.ofChange pointsWritesWrong)

/-- 'tinderlaw02.PointsPairs': WHATEVER THE INPUT: true; the input reads as it did. -/
def pointsPairsSpec : ChangeSpec := { name := "pointsPairs", fn := fun _ => fun
  | [d1, d2] => { results := [.lit (.bool true)], args := [d1, d2] }
  | _ => none }
def pointsPairsRow : OpenClaim := { program := "ytephbdglibcfiabdoor", sum := "83143b6c335d9bf32ab0985d351955115370ec81b6e863eb552e6d4b43d60fbb", func := "tinder/tinderlaw02.PointsPairs", spec := "pointsPairs", named := ["tinder/points.leads"], apart := false, laid := [("tinder/points.leads", laid_tinder_points_leads)] }
def PointsPairsSaid : Prop := pointsPairsRow.holds Tryd.pinned (OpenSpec.ofChange pointsPairsSpec)

/-- ITS FALSE NEIGHBOUR: 'it returns false'. Refute it at one input. -/
def pointsPairsWrong : ChangeSpec := { name := "pointsPairs", fn := fun _ => fun
  | [d1, d2] => { results := [.lit (.bool false)], args := [d1, d2] }
  | _ => none }
def PointsPairsWrongFalsely : Prop := pointsPairsRow.holds Tryd.pinned (OpenSpec.ofChange pointsPairsWrong)

/-- 'tinderlaw02.PointsBytes': WHATEVER THE INPUT: true; the input reads as it did. -/
def pointsBytesSpec : ChangeSpec := { name := "pointsBytes", fn := fun _ => fun
  | [] => { results := [.lit (.bool true)], args := [] }
  | _ => none }
def pointsBytesRow : OpenClaim := { program := "ytephbdglibcfiabdoor", sum := "83143b6c335d9bf32ab0985d351955115370ec81b6e863eb552e6d4b43d60fbb", func := "tinder/tinderlaw02.PointsBytes", spec := "pointsBytes", inPlace := ["internal/abi.NoEscape", "internal/bytealg.MakeNoZero"], recurses := true, named := ["tinder/points.leads", "tinder/points.sizes"], apart := false, laid := [("tinder/points.leads", laid_tinder_points_leads), ("tinder/points.sizes", laid_tinder_points_sizes)] }
def PointsBytesSaid : Prop := pointsBytesRow.holds Tryd.pinned (OpenSpec.ofChange pointsBytesSpec)

/-- ITS FALSE NEIGHBOUR: 'it returns false'. Refute it at one input. -/
def pointsBytesWrong : ChangeSpec := { name := "pointsBytes", fn := fun _ => fun
  | [] => { results := [.lit (.bool false)], args := [] }
  | _ => none }
def PointsBytesWrongFalsely : Prop := pointsBytesRow.holds Tryd.pinned (OpenSpec.ofChange pointsBytesWrong)

/-- 'tinderlaw02.PointsRound': WHATEVER THE INPUT: true; the input reads as it did. -/
def pointsRoundSpec : ChangeSpec := { name := "pointsRound", fn := fun _ => fun
  | [d1, d2, d3] => { results := [.lit (.bool true)], args := [d1, d2, d3] }
  | _ => none }
def pointsRoundRow : OpenClaim := { program := "ytephbdglibcfiabdoor", sum := "83143b6c335d9bf32ab0985d351955115370ec81b6e863eb552e6d4b43d60fbb", func := "tinder/tinderlaw02.PointsRound", spec := "pointsRound", named := ["tinder/points.leads", "tinder/points.sizes"], apart := false, laid := [("tinder/points.leads", laid_tinder_points_leads), ("tinder/points.sizes", laid_tinder_points_sizes)] }
def PointsRoundSaid : Prop := pointsRoundRow.holds Tryd.pinned (OpenSpec.ofChange pointsRoundSpec)

/-- ITS FALSE NEIGHBOUR: 'it returns false'. Refute it at one input. -/
def pointsRoundWrong : ChangeSpec := { name := "pointsRound", fn := fun _ => fun
  | [d1, d2, d3] => { results := [.lit (.bool false)], args := [d1, d2, d3] }
  | _ => none }
def PointsRoundWrongFalsely : Prop := pointsRoundRow.holds Tryd.pinned (OpenSpec.ofChange pointsRoundWrong)

/- THE SECOND FORM. 'bulk': how many values and letters a reading holds, each counted each time it is reached (what is shared counts as often as it is met; a slice's spare places count too). A statement '..UptoSaid' is the law's where the arguments, and the package variables that the reading takes, are together of bulk at most 1048576: NARROWER than '..Said'. Prove '..Said' where nothing that the law and all that it calls make is longer than what came in: it says more and counts as full. Else prove '..UptoSaid'. A law counts once. -/
mutual
def uptoBulk {H : Type} : DataW H → Nat
  | .lit (.string bytes) => bytes.length + 1
  | .lit _ => 1
  | .nil => 1
  | .ptr d => uptoBulk d + 1
  | .slice elems spare => uptoBulkAll elems + uptoBulkAll spare + 1
  | .agg parts => uptoBulkAll parts + 1
  | .iface _ d => uptoBulk d + 1
  | .map entries => uptoBulkEntries entries + 1
  | .held _ => 1
def uptoBulkAll {H : Type} : List (DataW H) → Nat
  | [] => 0
  | d :: r => uptoBulk d + uptoBulkAll r
def uptoBulkEntries {H : Type} : List (Lit × DataW H) → Nat
  | [] => 0
  | x :: r => uptoBulkEntry x + uptoBulkEntries r
def uptoBulkEntry {H : Type} : Lit × DataW H → Nat
  | (.string bytes, d) => bytes.length + uptoBulk d + 1
  | (_, d) => uptoBulk d + 1
 end
def uptoSmall : (H : Type) → List (DataW H) → Bool := fun _ ds => decide (uptoBulkAll ds ≤ 1048576)
def OpenSpec.upto (s : _root_.Go.ChangeSpec) : _root_.Go.OpenSpec := { _root_.Go.OpenSpec.ofChange s with cond := some uptoSmall }

/-- 'tinderlaw01.NatSteps', WHERE WHAT IT READS IS OF BULK AT MOST 1048576: true; the input reads as it did. -/
def natStepsUptoRow : OpenClaim := { program := "ytephbdglibcfiabdoor", sum := "83143b6c335d9bf32ab0985d351955115370ec81b6e863eb552e6d4b43d60fbb", func := "tinder/tinderlaw01.NatSteps", spec := "natSteps", inPlace := ["internal/abi.NoEscape", "internal/bytealg.MakeNoZero"], unfollowed := true, recurses := true, named := ["strconv.ErrSyntax", "strconv.ErrRange", "internal/strconv.uint64pow10", "math/bits.deBruijn32tab", "math/bits.deBruijn64tab"], apart := false, laid := [("math/bits.deBruijn32tab", laid_math_bits_deBruijn32tab), ("math/bits.deBruijn64tab", laid_math_bits_deBruijn64tab), ("internal/strconv.uint64pow10", laid_internal_strconv_uint64pow10), ("strconv.ErrRange", laid_strconv_ErrRange), ("strconv.ErrSyntax", laid_strconv_ErrSyntax)], narrowed := true }
def NatStepsUptoSaid : Prop := natStepsUptoRow.holds Tryd.pinned (OpenSpec.upto natStepsSpec)

/-- 'tinderlaw02.PointsReads', WHERE WHAT IT READS IS OF BULK AT MOST 1048576: true; the input reads as it did. -/
def pointsReadsUptoRow : OpenClaim := { program := "ytephbdglibcfiabdoor", sum := "83143b6c335d9bf32ab0985d351955115370ec81b6e863eb552e6d4b43d60fbb", func := "tinder/tinderlaw02.PointsReads", spec := "pointsReads", recurses := true, named := ["tinder/points.leads"], apart := false, laid := [("tinder/points.leads", laid_tinder_points_leads)], narrowed := true }
def PointsReadsUptoSaid : Prop := pointsReadsUptoRow.holds Tryd.pinned (OpenSpec.upto pointsReadsSpec)

/-- 'tinderlaw02.PointsWrites', WHERE WHAT IT READS IS OF BULK AT MOST 1048576: true; the input reads as it did. -/
def pointsWritesUptoRow : OpenClaim := { program := "ytephbdglibcfiabdoor", sum := "83143b6c335d9bf32ab0985d351955115370ec81b6e863eb552e6d4b43d60fbb", func := "tinder/tinderlaw02.PointsWrites", spec := "pointsWrites", named := ["tinder/points.leads", "tinder/points.sizes"], apart := false, laid := [("tinder/points.leads", laid_tinder_points_leads), ("tinder/points.sizes", laid_tinder_points_sizes)], narrowed := true }
def PointsWritesUptoSaid : Prop := pointsWritesUptoRow.holds Tryd.pinned (OpenSpec.upto pointsWritesSpec)

/-- 'tinderlaw02.PointsPairs', WHERE WHAT IT READS IS OF BULK AT MOST 1048576: true; the input reads as it did. -/
def pointsPairsUptoRow : OpenClaim := { program := "ytephbdglibcfiabdoor", sum := "83143b6c335d9bf32ab0985d351955115370ec81b6e863eb552e6d4b43d60fbb", func := "tinder/tinderlaw02.PointsPairs", spec := "pointsPairs", named := ["tinder/points.leads"], apart := false, laid := [("tinder/points.leads", laid_tinder_points_leads)], narrowed := true }
def PointsPairsUptoSaid : Prop := pointsPairsUptoRow.holds Tryd.pinned (OpenSpec.upto pointsPairsSpec)

/-- 'tinderlaw02.PointsBytes', WHERE WHAT IT READS IS OF BULK AT MOST 1048576: true; the input reads as it did. -/
def pointsBytesUptoRow : OpenClaim := { program := "ytephbdglibcfiabdoor", sum := "83143b6c335d9bf32ab0985d351955115370ec81b6e863eb552e6d4b43d60fbb", func := "tinder/tinderlaw02.PointsBytes", spec := "pointsBytes", inPlace := ["internal/abi.NoEscape", "internal/bytealg.MakeNoZero"], recurses := true, named := ["tinder/points.leads", "tinder/points.sizes"], apart := false, laid := [("tinder/points.leads", laid_tinder_points_leads), ("tinder/points.sizes", laid_tinder_points_sizes)], narrowed := true }
def PointsBytesUptoSaid : Prop := pointsBytesUptoRow.holds Tryd.pinned (OpenSpec.upto pointsBytesSpec)

/-- 'tinderlaw02.PointsRound', WHERE WHAT IT READS IS OF BULK AT MOST 1048576: true; the input reads as it did. -/
def pointsRoundUptoRow : OpenClaim := { program := "ytephbdglibcfiabdoor", sum := "83143b6c335d9bf32ab0985d351955115370ec81b6e863eb552e6d4b43d60fbb", func := "tinder/tinderlaw02.PointsRound", spec := "pointsRound", named := ["tinder/points.leads", "tinder/points.sizes"], apart := false, laid := [("tinder/points.leads", laid_tinder_points_leads), ("tinder/points.sizes", laid_tinder_points_sizes)], narrowed := true }
def PointsRoundUptoSaid : Prop := pointsRoundUptoRow.holds Tryd.pinned (OpenSpec.upto pointsRoundSpec)

end Rows
end Go.Proofs.YtephbdglibcfiabDoor
