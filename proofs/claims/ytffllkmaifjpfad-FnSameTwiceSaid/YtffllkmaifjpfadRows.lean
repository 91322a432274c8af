/-
  No cell of these rows narrows 'for every input' (looked for: loops, veiled, ifaces, maps, wideKeys, modest, calm, conditions, laid).
  DERIVED. THE GIVEN ROWS OF THIS SEAT. 5 by the template 'for every input the law returns true; each argument reads behind the call as it read before'; 0 by the template 'total and deterministic' (their statements: YtffllkmaifjpfadTotals.lean).
  GIVEN WITH THE SEED: the statements are not yours to turn. If you find one false, say at which input.
  Laid BY PROGRAM, IN A SANDBOX (cutbox-rows.mjs): the forced cells as the released guide's own fill.sh prints them over the translation c4cdaef897e4a12a… (all of the seat's roots in one cut). By AI agents, Wed Nov 11 2026. No macro, syntax, notation, axiom, sorry.
-/
import Derived.Test.YtffllkmaifjpfadChecked
import GoSem.Claim
import GoSem.ClaimJoined
import GoSem.ClaimMapViews
import Derived.JoinedTies
import Derived.KernelRfl
namespace Go.Proofs.Ytffllkmaifjpfad
/- THE CELL 'sum', in the pinned program and in every row, IS THE sha256 OF THE DUMP (.gsa) THAT YtffllkmaifjpfadProg.lean LOADS. Nothing in Lean hashes anything: it is a label: what it is worth is what the hold of that sum in a sandbox is worth. -/
noncomputable def Try.pinned : Pinned := { name := "ytffllkmaifjpfad", sum := "c4cdaef897e4a12acd581e34829aa70f5d056cab03e8524c985a7e7ed0b55094", checked := Try.checked }
namespace Rows
def none {H : Type} : Left H := { results := [], args := [] }

/-- 'laws.FnSameCounts': WHATEVER THE INPUT: true; the input reads as it did. -/
def fnSameCountsSpec : ChangeSpec := { name := "fnSameCounts", fn := fun _ => fun
  | [d] => { results := [.lit (.bool true)], args := [d] }
  | _ => none }
def fnSameCountsRow : OpenClaim := { program := "ytffllkmaifjpfad", sum := "c4cdaef897e4a12acd581e34829aa70f5d056cab03e8524c985a7e7ed0b55094", func := "loop.example/urnsandballs/laws.FnSameCounts", spec := "fnSameCounts", unfollowed := true, recurses := true, apart := false }
def FnSameCountsSaid : Prop := fnSameCountsRow.holds Try.pinned (OpenSpec.ofChange fnSameCountsSpec)

/-- ITS FALSE NEIGHBOUR: 'it returns false'. Refute it at one input. -/
def fnSameCountsWrong : ChangeSpec := { name := "fnSameCounts", fn := fun _ => fun
  | [d] => { results := [.lit (.bool false)], args := [d] }
  | _ => none }
def FnSameCountsWrongFalsely : Prop := fnSameCountsRow.holds Try.pinned (OpenSpec.ofChange fnSameCountsWrong)

/-- 'laws.FnSameSteps': WHATEVER THE INPUT: true; the input reads as it did. -/
def fnSameStepsSpec : ChangeSpec := { name := "fnSameSteps", fn := fun _ => fun
  | [d] => { results := [.lit (.bool true)], args := [d] }
  | _ => none }
def fnSameStepsRow : OpenClaim := { program := "ytffllkmaifjpfad", sum := "c4cdaef897e4a12acd581e34829aa70f5d056cab03e8524c985a7e7ed0b55094", func := "loop.example/urnsandballs/laws.FnSameSteps", spec := "fnSameSteps", unfollowed := true, recurses := true, apart := false }
def FnSameStepsSaid : Prop := fnSameStepsRow.holds Try.pinned (OpenSpec.ofChange fnSameStepsSpec)

/-- ITS FALSE NEIGHBOUR: 'it returns false'. Refute it at one input. -/
def fnSameStepsWrong : ChangeSpec := { name := "fnSameSteps", fn := fun _ => fun
  | [d] => { results := [.lit (.bool false)], args := [d] }
  | _ => none }
def FnSameStepsWrongFalsely : Prop := fnSameStepsRow.holds Try.pinned (OpenSpec.ofChange fnSameStepsWrong)

/-- 'laws.FnSameTwice': WHATEVER THE INPUT: true; the input reads as it did. -/
def fnSameTwiceSpec : ChangeSpec := { name := "fnSameTwice", fn := fun _ => fun
  | [d] => { results := [.lit (.bool true)], args := [d] }
  | _ => none }
def fnSameTwiceRow : OpenClaim := { program := "ytffllkmaifjpfad", sum := "c4cdaef897e4a12acd581e34829aa70f5d056cab03e8524c985a7e7ed0b55094", func := "loop.example/urnsandballs/laws.FnSameTwice", spec := "fnSameTwice", unfollowed := true, recurses := true, apart := false }
def FnSameTwiceSaid : Prop := fnSameTwiceRow.holds Try.pinned (OpenSpec.ofChange fnSameTwiceSpec)

/-- ITS FALSE NEIGHBOUR: 'it returns false'. Refute it at one input. -/
def fnSameTwiceWrong : ChangeSpec := { name := "fnSameTwice", fn := fun _ => fun
  | [d] => { results := [.lit (.bool false)], args := [d] }
  | _ => none }
def FnSameTwiceWrongFalsely : Prop := fnSameTwiceRow.holds Try.pinned (OpenSpec.ofChange fnSameTwiceWrong)

/-- 'laws.FnWordWays': WHATEVER THE INPUT: true; the input reads as it did. -/
def fnWordWaysSpec : ChangeSpec := { name := "fnWordWays", fn := fun _ => fun
  | [d] => { results := [.lit (.bool true)], args := [d] }
  | _ => none }
def fnWordWaysRow : OpenClaim := { program := "ytffllkmaifjpfad", sum := "c4cdaef897e4a12acd581e34829aa70f5d056cab03e8524c985a7e7ed0b55094", func := "loop.example/urnsandballs/laws.FnWordWays", spec := "fnWordWays", unfollowed := true, recurses := true, apart := false }
def FnWordWaysSaid : Prop := fnWordWaysRow.holds Try.pinned (OpenSpec.ofChange fnWordWaysSpec)

/-- ITS FALSE NEIGHBOUR: 'it returns false'. Refute it at one input. -/
def fnWordWaysWrong : ChangeSpec := { name := "fnWordWays", fn := fun _ => fun
  | [d] => { results := [.lit (.bool false)], args := [d] }
  | _ => none }
def FnWordWaysWrongFalsely : Prop := fnWordWaysRow.holds Try.pinned (OpenSpec.ofChange fnWordWaysWrong)

/-- 'laws.FnWordsWith': WHATEVER THE INPUT: true; the input reads as it did. -/
def fnWordsWithSpec : ChangeSpec := { name := "fnWordsWith", fn := fun _ => fun
  | [d] => { results := [.lit (.bool true)], args := [d] }
  | _ => none }
def fnWordsWithRow : OpenClaim := { program := "ytffllkmaifjpfad", sum := "c4cdaef897e4a12acd581e34829aa70f5d056cab03e8524c985a7e7ed0b55094", func := "loop.example/urnsandballs/laws.FnWordsWith", spec := "fnWordsWith", unfollowed := true, recurses := true, apart := false }
def FnWordsWithSaid : Prop := fnWordsWithRow.holds Try.pinned (OpenSpec.ofChange fnWordsWithSpec)

/-- ITS FALSE NEIGHBOUR: 'it returns false'. Refute it at one input. -/
def fnWordsWithWrong : ChangeSpec := { name := "fnWordsWith", fn := fun _ => fun
  | [d] => { results := [.lit (.bool false)], args := [d] }
  | _ => none }
def FnWordsWithWrongFalsely : Prop := fnWordsWithRow.holds Try.pinned (OpenSpec.ofChange fnWordsWithWrong)

/- THE SECOND FORM. 'bulk': how many values and letters a reading holds, each counted each time it is reached (what is shared counts as often as it is met; a slice's spare places count too). A statement '..UptoSaid' is the law's where the arguments, and the package variables that the reading takes, are together of bulk at most 1048576: NARROWER than '..Said'. Prove '..Said' where nothing that the law and all that it calls make is longer than what came in: it says more and counts as full. Else prove '..UptoSaid'. A law counts once. -/
mutual
def uptoBulk {H : Type} : DataW H → Nat
  | .lit (.string bytes) => bytes.length + 1
  | .lit _ => 1
  | .nil => 1
  | .ptr d => uptoBulk d + 1
  | .slice elems spare => uptoBulkAll elems + uptoBulkAll spare + 1
  | .agg parts => uptoBulkAll parts + 1
  | .iface _ d => uptoBulk d + 1
  | .map entries => uptoBulkEntries entries + 1
  | .held _ => 1
def uptoBulkAll {H : Type} : List (DataW H) → Nat
  | [] => 0
  | d :: r => uptoBulk d + uptoBulkAll r
def uptoBulkEntries {H : Type} : List (Lit × DataW H) → Nat
  | [] => 0
  | x :: r => uptoBulkEntry x + uptoBulkEntries r
def uptoBulkEntry {H : Type} : Lit × DataW H → Nat
  | (.string bytes, d) => bytes.length + uptoBulk d + 1
  | (_, d) => uptoBulk d + 1
 end
def uptoSmall : (H : Type) → List (DataW H) → Bool := fun _ ds => decide (uptoBulkAll ds ≤ 1048576)
def OpenSpec.upto (s : _root_.Go.ChangeSpec) : _root_.Go.OpenSpec := { _root_.Go.OpenSpec.ofChange s with cond := some uptoSmall }

/-- 'laws.FnSameCounts', WHERE WHAT IT READS IS OF BULK AT MOST 1048576: true; the input reads as it did. -/
def fnSameCountsUptoRow : OpenClaim := { program := "ytffllkmaifjpfad", sum := "c4cdaef897e4a12acd581e34829aa70f5d056cab03e8524c985a7e7ed0b55094", func := "loop.example/urnsandballs/laws.FnSameCounts", spec := "fnSameCounts", unfollowed := true, recurses := true, apart := false, narrowed := true }
def FnSameCountsUptoSaid : Prop := fnSameCountsUptoRow.holds Try.pinned (OpenSpec.upto fnSameCountsSpec)

/-- 'laws.FnSameSteps', WHERE WHAT IT READS IS OF BULK AT MOST 1048576: true; the input reads as it did. -/
def fnSameStepsUptoRow : OpenClaim := { program := "ytffllkmaifjpfad", sum := "c4cdaef897e4a12acd581e34829aa70f5d056cab03e8524c985a7e7ed0b55094", func := "loop.example/urnsandballs/laws.FnSameSteps", spec := "fnSameSteps", unfollowed := true, recurses := true, apart := false, narrowed := true }
def FnSameStepsUptoSaid : Prop := fnSameStepsUptoRow.holds Try.pinned (OpenSpec.upto fnSameStepsSpec)

/-- 'laws.FnSameTwice', WHERE WHAT IT READS IS OF BULK AT MOST 1048576: true; the input reads as it did. -/
def fnSameTwiceUptoRow : OpenClaim := { program := "ytffllkmaifjpfad", sum := "c4cdaef897e4a12acd581e34829aa70f5d056cab03e8524c985a7e7ed0b55094", func := "loop.example/urnsandballs/laws.FnSameTwice", spec := "fnSameTwice", unfollowed := true, recurses := true, apart := false, narrowed := true }
def FnSameTwiceUptoSaid : Prop := fnSameTwiceUptoRow.holds Try.pinned (OpenSpec.upto fnSameTwiceSpec)

/-- 'laws.FnWordWays', WHERE WHAT IT READS IS OF BULK AT MOST 1048576: true; the input reads as it did. -/
def fnWordWaysUptoRow : OpenClaim := { program := "ytffllkmaifjpfad", sum := "c4cdaef897e4a12acd581e34829aa70f5d056cab03e8524c985a7e7ed0b55094", func := "loop.example/urnsandballs/laws.FnWordWays", spec := "fnWordWays", unfollowed := true, recurses := true, apart := false, narrowed := true }
def FnWordWaysUptoSaid : Prop := fnWordWaysUptoRow.holds Try.pinned (OpenSpec.upto fnWordWaysSpec)

/-- 'laws.FnWordsWith', WHERE WHAT IT READS IS OF BULK AT MOST 1048576: true; the input reads as it did. -/
def fnWordsWithUptoRow : OpenClaim := { program := "ytffllkmaifjpfad", sum := "c4cdaef897e4a12acd581e34829aa70f5d056cab03e8524c985a7e7ed0b55094", func := "loop.example/urnsandballs/laws.FnWordsWith", spec := "fnWordsWith", unfollowed := true, recurses := true, apart := false, narrowed := true }
def FnWordsWithUptoSaid : Prop := fnWordsWithUptoRow.holds Try.pinned (OpenSpec.upto fnWordsWithSpec)

end Rows
end Go.Proofs.Ytffllkmaifjpfad
