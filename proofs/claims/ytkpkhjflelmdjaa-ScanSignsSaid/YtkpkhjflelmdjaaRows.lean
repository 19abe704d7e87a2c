/-
  No cell of these rows narrows 'for every input' (looked for: loops, veiled, ifaces, maps, wideKeys, modest, calm, conditions, laid).
  DERIVED. THE GIVEN ROWS OF THIS SEAT. 5 by the template 'for every input the law returns true; each argument reads behind the call as it read before'; 0 by the template 'total and deterministic' (their statements: YtkpkhjflelmdjaaTotals.lean).
  GIVEN WITH THE SEED: the statements are not yours to turn. If you find one false, say at which input.
  Laid BY PROGRAM, IN A SANDBOX (cutbox-rows.mjs): the forced cells as the released guide's own fill.sh prints them over the translation c3bb9fa3410a0596… (all of the seat's roots in one cut). By AI agents, Wed Nov 11 2026. No macro, syntax, notation, axiom, sorry.
-/
import Derived.Test.YtkpkhjflelmdjaaChecked
import GoSem.Claim
import GoSem.ClaimJoined
import GoSem.ClaimMapViews
import Derived.JoinedTies
import Derived.KernelRfl
namespace Go.Proofs.Ytkpkhjflelmdjaa
/- THE CELL 'sum', in the pinned program and in every row, IS THE sha256 OF THE DUMP (.gsa) THAT YtkpkhjflelmdjaaProg.lean LOADS. Nothing in Lean hashes anything: it is a label: what it is worth is what the hold of that sum in a sandbox is worth. -/
noncomputable def Try.pinned : Pinned := { name := "ytkpkhjflelmdjaa", sum := "c3bb9fa3410a05965ab5b15e449c68786e624a77fcccb1d429a56b2a049e9d37", checked := Try.checked }
namespace Rows
def none {H : Type} : Left H := { results := [], args := [] }

/-- 'tinderlaw07.ScanReads': WHATEVER THE INPUT: true; the input reads as it did. -/
def scanReadsSpec : ChangeSpec := { name := "scanReads", fn := fun _ => fun
  | [d1, d2] => { results := [.lit (.bool true)], args := [d1, d2] }
  | _ => none }
def scanReadsRow : OpenClaim := { program := "ytkpkhjflelmdjaa", sum := "c3bb9fa3410a05965ab5b15e449c68786e624a77fcccb1d429a56b2a049e9d37", func := "tinder/tinderlaw07.ScanReads", spec := "scanReads", unfollowed := true, recurses := true, apart := false }
def ScanReadsSaid : Prop := scanReadsRow.holds Try.pinned (OpenSpec.ofChange scanReadsSpec)

/-- ITS FALSE NEIGHBOUR: 'it returns false'. Refute it at one input. -/
def scanReadsWrong : ChangeSpec := { name := "scanReads", fn := fun _ => fun
  | [d1, d2] => { results := [.lit (.bool false)], args := [d1, d2] }
  | _ => none }
def ScanReadsWrongFalsely : Prop := scanReadsRow.holds Try.pinned (OpenSpec.ofChange scanReadsWrong)

/-- 'tinderlaw07.ScanNil': WHATEVER THE INPUT: true; the input reads as it did. -/
def scanNilSpec : ChangeSpec := { name := "scanNil", fn := fun _ => fun
  | [d] => { results := [.lit (.bool true)], args := [d] }
  | _ => none }
def scanNilRow : OpenClaim := { program := "ytkpkhjflelmdjaa", sum := "c3bb9fa3410a05965ab5b15e449c68786e624a77fcccb1d429a56b2a049e9d37", func := "tinder/tinderlaw07.ScanNil", spec := "scanNil", unfollowed := true, recurses := true, apart := false }
def ScanNilSaid : Prop := scanNilRow.holds Try.pinned (OpenSpec.ofChange scanNilSpec)

/-- ITS FALSE NEIGHBOUR: 'it returns false'. Refute it at one input. -/
def scanNilWrong : ChangeSpec := { name := "scanNil", fn := fun _ => fun
  | [d] => { results := [.lit (.bool false)], args := [d] }
  | _ => none }
def ScanNilWrongFalsely : Prop := scanNilRow.holds Try.pinned (OpenSpec.ofChange scanNilWrong)

/-- 'tinderlaw07.ScanSigns': WHATEVER THE INPUT: true; the input reads as it did. -/
def scanSignsSpec : ChangeSpec := { name := "scanSigns", fn := fun _ => fun
  | [] => { results := [.lit (.bool true)], args := [] }
  | _ => none }
def scanSignsRow : OpenClaim := { program := "ytkpkhjflelmdjaa", sum := "c3bb9fa3410a05965ab5b15e449c68786e624a77fcccb1d429a56b2a049e9d37", func := "tinder/tinderlaw07.ScanSigns", spec := "scanSigns", unfollowed := true, recurses := true, apart := false }
def ScanSignsSaid : Prop := scanSignsRow.holds Try.pinned (OpenSpec.ofChange scanSignsSpec)

/-- ITS FALSE NEIGHBOUR: 'it returns false'. Refute it at one input. -/
def scanSignsWrong : ChangeSpec := { name := "scanSigns", fn := fun _ => fun
  | [] => { results := [.lit (.bool false)], args := [] }
  | _ => none }
def ScanSignsWrongFalsely : Prop := scanSignsRow.holds Try.pinned (OpenSpec.ofChange scanSignsWrong)

/-- 'tinderlaw07.ScanTail': WHATEVER THE INPUT: true; the input reads as it did. -/
def scanTailSpec : ChangeSpec := { name := "scanTail", fn := fun _ => fun
  | [d1, d2] => { results := [.lit (.bool true)], args := [d1, d2] }
  | _ => none }
def scanTailRow : OpenClaim := { program := "ytkpkhjflelmdjaa", sum := "c3bb9fa3410a05965ab5b15e449c68786e624a77fcccb1d429a56b2a049e9d37", func := "tinder/tinderlaw07.ScanTail", spec := "scanTail", unfollowed := true, recurses := true, apart := false }
def ScanTailSaid : Prop := scanTailRow.holds Try.pinned (OpenSpec.ofChange scanTailSpec)

/-- ITS FALSE NEIGHBOUR: 'it returns false'. Refute it at one input. -/
def scanTailWrong : ChangeSpec := { name := "scanTail", fn := fun _ => fun
  | [d1, d2] => { results := [.lit (.bool false)], args := [d1, d2] }
  | _ => none }
def ScanTailWrongFalsely : Prop := scanTailRow.holds Try.pinned (OpenSpec.ofChange scanTailWrong)

/-- 'tinderlaw07.ScanWays': WHATEVER THE INPUT: true; the input reads as it did. -/
def scanWaysSpec : ChangeSpec := { name := "scanWays", fn := fun _ => fun
  | [d1, d2, d3] => { results := [.lit (.bool true)], args := [d1, d2, d3] }
  | _ => none }
def scanWaysRow : OpenClaim := { program := "ytkpkhjflelmdjaa", sum := "c3bb9fa3410a05965ab5b15e449c68786e624a77fcccb1d429a56b2a049e9d37", func := "tinder/tinderlaw07.ScanWays", spec := "scanWays", unfollowed := true, recurses := true, apart := false }
def ScanWaysSaid : Prop := scanWaysRow.holds Try.pinned (OpenSpec.ofChange scanWaysSpec)

/-- ITS FALSE NEIGHBOUR: 'it returns false'. Refute it at one input. -/
def scanWaysWrong : ChangeSpec := { name := "scanWays", fn := fun _ => fun
  | [d1, d2, d3] => { results := [.lit (.bool false)], args := [d1, d2, d3] }
  | _ => none }
def ScanWaysWrongFalsely : Prop := scanWaysRow.holds Try.pinned (OpenSpec.ofChange scanWaysWrong)

/- THE SECOND FORM. 'bulk': how many values and letters a reading holds, each counted each time it is reached (what is shared counts as often as it is met; a slice's spare places count too). A statement '..UptoSaid' is the law's where the arguments, and the package variables that the reading takes, are together of bulk at most 1048576: NARROWER than '..Said'. Prove '..Said' where nothing that the law and all that it calls make is longer than what came in: it says more and counts as full. Else prove '..UptoSaid'. A law counts once. -/
mutual
def uptoBulk {H : Type} : DataW H → Nat
  | .lit (.string bytes) => bytes.length + 1
  | .lit _ => 1
  | .nil => 1
  | .ptr d => uptoBulk d + 1
  | .slice elems spare => uptoBulkAll elems + uptoBulkAll spare + 1
  | .agg parts => uptoBulkAll parts + 1
  | .iface _ d => uptoBulk d + 1
  | .map entries => uptoBulkEntries entries + 1
  | .held _ => 1
def uptoBulkAll {H : Type} : List (DataW H) → Nat
  | [] => 0
  | d :: r => uptoBulk d + uptoBulkAll r
def uptoBulkEntries {H : Type} : List (Lit × DataW H) → Nat
  | [] => 0
  | x :: r => uptoBulkEntry x + uptoBulkEntries r
def uptoBulkEntry {H : Type} : Lit × DataW H → Nat
  | (.string bytes, d) => bytes.length + uptoBulk d + 1
  | (_, d) => uptoBulk d + 1
 end
def uptoSmall : (H : Type) → List (DataW H) → Bool := fun _ ds => decide (uptoBulkAll ds ≤ 1048576)
def OpenSpec.upto (s : _root_.Go.ChangeSpec) : _root_.Go.OpenSpec := { _root_.Go.OpenSpec.ofChange s with cond := some uptoSmall }

/-- 'tinderlaw07.ScanReads', WHERE WHAT IT READS IS OF BULK AT MOST 1048576: true; the input reads as it did. -/
def scanReadsUptoRow : OpenClaim := { program := "ytkpkhjflelmdjaa", sum := "c3bb9fa3410a05965ab5b15e449c68786e624a77fcccb1d429a56b2a049e9d37", func := "tinder/tinderlaw07.ScanReads", spec := "scanReads", unfollowed := true, recurses := true, apart := false, narrowed := true }
def ScanReadsUptoSaid : Prop := scanReadsUptoRow.holds Try.pinned (OpenSpec.upto scanReadsSpec)

/-- 'tinderlaw07.ScanNil', WHERE WHAT IT READS IS OF BULK AT MOST 1048576: true; the input reads as it did. -/
def scanNilUptoRow : OpenClaim := { program := "ytkpkhjflelmdjaa", sum := "c3bb9fa3410a05965ab5b15e449c68786e624a77fcccb1d429a56b2a049e9d37", func := "tinder/tinderlaw07.ScanNil", spec := "scanNil", unfollowed := true, recurses := true, apart := false, narrowed := true }
def ScanNilUptoSaid : Prop := scanNilUptoRow.holds Try.pinned (OpenSpec.upto scanNilSpec)

/-- 'tinderlaw07.ScanSigns', WHERE WHAT IT READS IS OF BULK AT MOST 1048576: true; the input reads as it did. -/
def scanSignsUptoRow : OpenClaim := { program := "ytkpkhjflelmdjaa", sum := "c3bb9fa3410a05965ab5b15e449c68786e624a77fcccb1d429a56b2a049e9d37", func := "tinder/tinderlaw07.ScanSigns", spec := "scanSigns", unfollowed := true, recurses := true, apart := false, narrowed := true }
def ScanSignsUptoSaid : Prop := scanSignsUptoRow.holds Try.pinned (OpenSpec.upto scanSignsSpec)

/-- 'tinderlaw07.ScanTail', WHERE WHAT IT READS IS OF BULK AT MOST 1048576: true; the input reads as it did. -/
def scanTailUptoRow : OpenClaim := { program := "ytkpkhjflelmdjaa", sum := "c3bb9fa3410a05965ab5b15e449c68786e624a77fcccb1d429a56b2a049e9d37", func := "tinder/tinderlaw07.ScanTail", spec := "scanTail", unfollowed := true, recurses := true, apart := false, narrowed := true }
def ScanTailUptoSaid : Prop := scanTailUptoRow.holds Try.pinned (OpenSpec.upto scanTailSpec)

/-- 'tinderlaw07.ScanWays', WHERE WHAT IT READS IS OF BULK AT MOST 1048576: true; the input reads as it did. -/
def scanWaysUptoRow : OpenClaim := { program := "ytkpkhjflelmdjaa", sum := "c3bb9fa3410a05965ab5b15e449c68786e624a77fcccb1d429a56b2a049e9d37", func := "tinder/tinderlaw07.ScanWays", spec := "scanWays", unfollowed := true, recurses := true, apart := false, narrowed := true }
def ScanWaysUptoSaid : Prop := scanWaysUptoRow.holds Try.pinned (OpenSpec.upto scanWaysSpec)

end Rows
end Go.Proofs.Ytkpkhjflelmdjaa
