/-
  No cell of these rows narrows 'for every input' (looked for: loops, veiled, ifaces, maps, wideKeys, modest, calm, conditions, laid).
  DERIVED. THE GIVEN ROWS OF THIS SEAT. 8 by the template 'for every input the law returns true; each argument reads behind the call as it read before'; 0 by the template 'total and deterministic' (their statements: YtdnnobkkilffbaaTotals.lean).
  GIVEN WITH THE SEED: the statements are not yours to turn. If you find one false, say at which input.
  Laid BY PROGRAM, IN A SANDBOX (cutbox-rows.mjs): the forced cells as the released guide's own fill.sh prints them over the translation 16527e99773f90f6… (all of the seat's roots in one cut). By AI agents, Wed Nov 11 2026. No macro, syntax, notation, axiom, sorry.
-/
import Derived.Test.YtdnnobkkilffbaaChecked
import GoSem.Claim
import GoSem.ClaimJoined
import GoSem.ClaimMapViews
import Derived.JoinedTies
import Derived.KernelRfl
namespace Go.Proofs.Ytdnnobkkilffbaa
/- THE CELL 'sum', in the pinned program and in every row, IS THE sha256 OF THE DUMP (.gsa) THAT YtdnnobkkilffbaaProg.lean LOADS. Nothing in Lean hashes anything: it is a label: what it is worth is what the hold of that sum in a sandbox is worth. -/
noncomputable def Try.pinned : Pinned := { name := "ytdnnobkkilffbaa", sum := "16527e99773f90f63103a0d2edcce03862d63413b878eedac1e0eebcd769c522", checked := Try.checked }
namespace Rows
def none {H : Type} : Left H := { results := [], args := [] }

/-- 'laws.FnAllWays': WHATEVER THE INPUT: true; the input reads as it did. -/
def fnAllWaysSpec : ChangeSpec := { name := "fnAllWays", fn := fun _ => fun
  | [d] => { results := [.lit (.bool true)], args := [d] }
  | _ => none }
def fnAllWaysRow : OpenClaim := { program := "ytdnnobkkilffbaa", sum := "16527e99773f90f63103a0d2edcce03862d63413b878eedac1e0eebcd769c522", func := "loop.example/urnsandballs/laws.FnAllWays", spec := "fnAllWays", unfollowed := true, recurses := true, apart := false }
def FnAllWaysSaid : Prop := fnAllWaysRow.holds Try.pinned (OpenSpec.ofChange fnAllWaysSpec)

/-- ITS FALSE NEIGHBOUR: 'it returns false'. Refute it at one input. -/
def fnAllWaysWrong : ChangeSpec := { name := "fnAllWays", fn := fun _ => fun
  | [d] => { results := [.lit (.bool false)], args := [d] }
  | _ => none }
def FnAllWaysWrongFalsely : Prop := fnAllWaysRow.holds Try.pinned (OpenSpec.ofChange fnAllWaysWrong)

/-- 'laws.FnSameApart': WHATEVER THE INPUT: true; the input reads as it did. -/
def fnSameApartSpec : ChangeSpec := { name := "fnSameApart", fn := fun _ => fun
  | [d] => { results := [.lit (.bool true)], args := [d] }
  | _ => none }
def fnSameApartRow : OpenClaim := { program := "ytdnnobkkilffbaa", sum := "16527e99773f90f63103a0d2edcce03862d63413b878eedac1e0eebcd769c522", func := "loop.example/urnsandballs/laws.FnSameApart", spec := "fnSameApart", apart := false }
def FnSameApartSaid : Prop := fnSameApartRow.holds Try.pinned (OpenSpec.ofChange fnSameApartSpec)

/-- ITS FALSE NEIGHBOUR: 'it returns false'. Refute it at one input. -/
def fnSameApartWrong : ChangeSpec := { name := "fnSameApart", fn := fun _ => fun
  | [d] => { results := [.lit (.bool false)], args := [d] }
  | _ => none }
def FnSameApartWrongFalsely : Prop := fnSameApartRow.holds Try.pinned (OpenSpec.ofChange fnSameApartWrong)

/-- 'laws.FnBackAll': WHATEVER THE INPUT: true; the input reads as it did. -/
def fnBackAllSpec : ChangeSpec := { name := "fnBackAll", fn := fun _ => fun
  | [d] => { results := [.lit (.bool true)], args := [d] }
  | _ => none }
def fnBackAllRow : OpenClaim := { program := "ytdnnobkkilffbaa", sum := "16527e99773f90f63103a0d2edcce03862d63413b878eedac1e0eebcd769c522", func := "loop.example/urnsandballs/laws.FnBackAll", spec := "fnBackAll", apart := false }
def FnBackAllSaid : Prop := fnBackAllRow.holds Try.pinned (OpenSpec.ofChange fnBackAllSpec)

/-- ITS FALSE NEIGHBOUR: 'it returns false'. Refute it at one input. -/
def fnBackAllWrong : ChangeSpec := { name := "fnBackAll", fn := fun _ => fun
  | [d] => { results := [.lit (.bool false)], args := [d] }
  | _ => none }
def FnBackAllWrongFalsely : Prop := fnBackAllRow.holds Try.pinned (OpenSpec.ofChange fnBackAllWrong)

/-- 'laws.FnBackCounts': WHATEVER THE INPUT: true; the input reads as it did. -/
def fnBackCountsSpec : ChangeSpec := { name := "fnBackCounts", fn := fun _ => fun
  | [d] => { results := [.lit (.bool true)], args := [d] }
  | _ => none }
def fnBackCountsRow : OpenClaim := { program := "ytdnnobkkilffbaa", sum := "16527e99773f90f63103a0d2edcce03862d63413b878eedac1e0eebcd769c522", func := "loop.example/urnsandballs/laws.FnBackCounts", spec := "fnBackCounts", unfollowed := true, recurses := true, apart := false }
def FnBackCountsSaid : Prop := fnBackCountsRow.holds Try.pinned (OpenSpec.ofChange fnBackCountsSpec)

/-- ITS FALSE NEIGHBOUR: 'it returns false'. Refute it at one input. -/
def fnBackCountsWrong : ChangeSpec := { name := "fnBackCounts", fn := fun _ => fun
  | [d] => { results := [.lit (.bool false)], args := [d] }
  | _ => none }
def FnBackCountsWrongFalsely : Prop := fnBackCountsRow.holds Try.pinned (OpenSpec.ofChange fnBackCountsWrong)

/-- 'laws.FnSameRule': WHATEVER THE INPUT: true; the input reads as it did. -/
def fnSameRuleSpec : ChangeSpec := { name := "fnSameRule", fn := fun _ => fun
  | [d] => { results := [.lit (.bool true)], args := [d] }
  | _ => none }
def fnSameRuleRow : OpenClaim := { program := "ytdnnobkkilffbaa", sum := "16527e99773f90f63103a0d2edcce03862d63413b878eedac1e0eebcd769c522", func := "loop.example/urnsandballs/laws.FnSameRule", spec := "fnSameRule", apart := false }
def FnSameRuleSaid : Prop := fnSameRuleRow.holds Try.pinned (OpenSpec.ofChange fnSameRuleSpec)

/-- ITS FALSE NEIGHBOUR: 'it returns false'. Refute it at one input. -/
def fnSameRuleWrong : ChangeSpec := { name := "fnSameRule", fn := fun _ => fun
  | [d] => { results := [.lit (.bool false)], args := [d] }
  | _ => none }
def FnSameRuleWrongFalsely : Prop := fnSameRuleRow.holds Try.pinned (OpenSpec.ofChange fnSameRuleWrong)

/-- 'laws.FnRisingOf': WHATEVER THE INPUT: true; the input reads as it did. -/
def fnRisingOfSpec : ChangeSpec := { name := "fnRisingOf", fn := fun _ => fun
  | [d] => { results := [.lit (.bool true)], args := [d] }
  | _ => none }
def fnRisingOfRow : OpenClaim := { program := "ytdnnobkkilffbaa", sum := "16527e99773f90f63103a0d2edcce03862d63413b878eedac1e0eebcd769c522", func := "loop.example/urnsandballs/laws.FnRisingOf", spec := "fnRisingOf", apart := false }
def FnRisingOfSaid : Prop := fnRisingOfRow.holds Try.pinned (OpenSpec.ofChange fnRisingOfSpec)

/-- ITS FALSE NEIGHBOUR: 'it returns false'. Refute it at one input. -/
def fnRisingOfWrong : ChangeSpec := { name := "fnRisingOf", fn := fun _ => fun
  | [d] => { results := [.lit (.bool false)], args := [d] }
  | _ => none }
def FnRisingOfWrongFalsely : Prop := fnRisingOfRow.holds Try.pinned (OpenSpec.ofChange fnRisingOfWrong)

/-- 'laws.FnSameCounts': WHATEVER THE INPUT: true; the input reads as it did. -/
def fnSameCountsSpec : ChangeSpec := { name := "fnSameCounts", fn := fun _ => fun
  | [d] => { results := [.lit (.bool true)], args := [d] }
  | _ => none }
def fnSameCountsRow : OpenClaim := { program := "ytdnnobkkilffbaa", sum := "16527e99773f90f63103a0d2edcce03862d63413b878eedac1e0eebcd769c522", func := "loop.example/urnsandballs/laws.FnSameCounts", spec := "fnSameCounts", unfollowed := true, recurses := true, apart := false }
def FnSameCountsSaid : Prop := fnSameCountsRow.holds Try.pinned (OpenSpec.ofChange fnSameCountsSpec)

/-- ITS FALSE NEIGHBOUR: 'it returns false'. Refute it at one input. -/
def fnSameCountsWrong : ChangeSpec := { name := "fnSameCounts", fn := fun _ => fun
  | [d] => { results := [.lit (.bool false)], args := [d] }
  | _ => none }
def FnSameCountsWrongFalsely : Prop := fnSameCountsRow.holds Try.pinned (OpenSpec.ofChange fnSameCountsWrong)

/-- 'laws.FnShareSum': WHATEVER THE INPUT: true; the input reads as it did. -/
def fnShareSumSpec : ChangeSpec := { name := "fnShareSum", fn := fun _ => fun
  | [d] => { results := [.lit (.bool true)], args := [d] }
  | _ => none }
def fnShareSumRow : OpenClaim := { program := "ytdnnobkkilffbaa", sum := "16527e99773f90f63103a0d2edcce03862d63413b878eedac1e0eebcd769c522", func := "loop.example/urnsandballs/laws.FnShareSum", spec := "fnShareSum", unfollowed := true, recurses := true, apart := false }
def FnShareSumSaid : Prop := fnShareSumRow.holds Try.pinned (OpenSpec.ofChange fnShareSumSpec)

/-- ITS FALSE NEIGHBOUR: 'it returns false'. Refute it at one input. -/
def fnShareSumWrong : ChangeSpec := { name := "fnShareSum", fn := fun _ => fun
  | [d] => { results := [.lit (.bool false)], args := [d] }
  | _ => none }
def FnShareSumWrongFalsely : Prop := fnShareSumRow.holds Try.pinned (OpenSpec.ofChange fnShareSumWrong)

/- THE SECOND FORM. 'bulk': how many values and letters a reading holds, each counted each time it is reached (what is shared counts as often as it is met; a slice's spare places count too). A statement '..UptoSaid' is the law's where the arguments, and the package variables that the reading takes, are together of bulk at most 1048576: NARROWER than '..Said'. Prove '..Said' where nothing that the law and all that it calls make is longer than what came in: it says more and counts as full. Else prove '..UptoSaid'. A law counts once. -/
mutual
def uptoBulk {H : Type} : DataW H → Nat
  | .lit (.string bytes) => bytes.length + 1
  | .lit _ => 1
  | .nil => 1
  | .ptr d => uptoBulk d + 1
  | .slice elems spare => uptoBulkAll elems + uptoBulkAll spare + 1
  | .agg parts => uptoBulkAll parts + 1
  | .iface _ d => uptoBulk d + 1
  | .map entries => uptoBulkEntries entries + 1
  | .held _ => 1
def uptoBulkAll {H : Type} : List (DataW H) → Nat
  | [] => 0
  | d :: r => uptoBulk d + uptoBulkAll r
def uptoBulkEntries {H : Type} : List (Lit × DataW H) → Nat
  | [] => 0
  | x :: r => uptoBulkEntry x + uptoBulkEntries r
def uptoBulkEntry {H : Type} : Lit × DataW H → Nat
  | (.string bytes, d) => bytes.length + uptoBulk d + 1
  | (_, d) => uptoBulk d + 1
 end
def uptoSmall : (H : Type) → List (DataW H) → Bool := fun _ ds => decide (uptoBulkAll ds ≤ 1048576)
def OpenSpec.upto (s : _root_.Go.ChangeSpec) : _root_.Go.OpenSpec := { _root_.Go.OpenSpec.ofChange s with cond := some uptoSmall }

/-- 'laws.FnAllWays', WHERE WHAT IT READS IS OF BULK AT MOST 1048576: true; the input reads as it did. -/
def fnAllWaysUptoRow : OpenClaim := { program := "ytdnnobkkilffbaa", sum := "16527e99773f90f63103a0d2edcce03862d63413b878eedac1e0eebcd769c522", func := "loop.example/urnsandballs/laws.FnAllWays", spec := "fnAllWays", unfollowed := true, recurses := true, apart := false, narrowed := true }
def FnAllWaysUptoSaid : Prop := fnAllWaysUptoRow.holds Try.pinned (OpenSpec.upto fnAllWaysSpec)

/-- 'laws.FnSameApart', WHERE WHAT IT READS IS OF BULK AT MOST 1048576: true; the input reads as it did. -/
def fnSameApartUptoRow : OpenClaim := { program := "ytdnnobkkilffbaa", sum := "16527e99773f90f63103a0d2edcce03862d63413b878eedac1e0eebcd769c522", func := "loop.example/urnsandballs/laws.FnSameApart", spec := "fnSameApart", apart := false, narrowed := true }
def FnSameApartUptoSaid : Prop := fnSameApartUptoRow.holds Try.pinned (OpenSpec.upto fnSameApartSpec)

/-- 'laws.FnBackAll', WHERE WHAT IT READS IS OF BULK AT MOST 1048576: true; the input reads as it did. -/
def fnBackAllUptoRow : OpenClaim := { program := "ytdnnobkkilffbaa", sum := "16527e99773f90f63103a0d2edcce03862d63413b878eedac1e0eebcd769c522", func := "loop.example/urnsandballs/laws.FnBackAll", spec := "fnBackAll", apart := false, narrowed := true }
def FnBackAllUptoSaid : Prop := fnBackAllUptoRow.holds Try.pinned (OpenSpec.upto fnBackAllSpec)

/-- 'laws.FnBackCounts', WHERE WHAT IT READS IS OF BULK AT MOST 1048576: true; the input reads as it did. -/
def fnBackCountsUptoRow : OpenClaim := { program := "ytdnnobkkilffbaa", sum := "16527e99773f90f63103a0d2edcce03862d63413b878eedac1e0eebcd769c522", func := "loop.example/urnsandballs/laws.FnBackCounts", spec := "fnBackCounts", unfollowed := true, recurses := true, apart := false, narrowed := true }
def FnBackCountsUptoSaid : Prop := fnBackCountsUptoRow.holds Try.pinned (OpenSpec.upto fnBackCountsSpec)

/-- 'laws.FnSameRule', WHERE WHAT IT READS IS OF BULK AT MOST 1048576: true; the input reads as it did. -/
def fnSameRuleUptoRow : OpenClaim := { program := "ytdnnobkkilffbaa", sum := "16527e99773f90f63103a0d2edcce03862d63413b878eedac1e0eebcd769c522", func := "loop.example/urnsandballs/laws.FnSameRule", spec := "fnSameRule", apart := false, narrowed := true }
def FnSameRuleUptoSaid : Prop := fnSameRuleUptoRow.holds Try.pinned (OpenSpec.upto fnSameRuleSpec)

/-- 'laws.FnRisingOf', WHERE WHAT IT READS IS OF BULK AT MOST 1048576: true; the input reads as it did. -/
def fnRisingOfUptoRow : OpenClaim := { program := "ytdnnobkkilffbaa", sum := "16527e99773f90f63103a0d2edcce03862d63413b878eedac1e0eebcd769c522", func := "loop.example/urnsandballs/laws.FnRisingOf", spec := "fnRisingOf", apart := false, narrowed := true }
def FnRisingOfUptoSaid : Prop := fnRisingOfUptoRow.holds Try.pinned (OpenSpec.upto fnRisingOfSpec)

/-- 'laws.FnSameCounts', WHERE WHAT IT READS IS OF BULK AT MOST 1048576: true; the input reads as it did. -/
def fnSameCountsUptoRow : OpenClaim := { program := "ytdnnobkkilffbaa", sum := "16527e99773f90f63103a0d2edcce03862d63413b878eedac1e0eebcd769c522", func := "loop.example/urnsandballs/laws.FnSameCounts", spec := "fnSameCounts", unfollowed := true, recurses := true, apart := false, narrowed := true }
def FnSameCountsUptoSaid : Prop := fnSameCountsUptoRow.holds Try.pinned (OpenSpec.upto fnSameCountsSpec)

/-- 'laws.FnShareSum', WHERE WHAT IT READS IS OF BULK AT MOST 1048576: true; the input reads as it did. -/
def fnShareSumUptoRow : OpenClaim := { program := "ytdnnobkkilffbaa", sum := "16527e99773f90f63103a0d2edcce03862d63413b878eedac1e0eebcd769c522", func := "loop.example/urnsandballs/laws.FnShareSum", spec := "fnShareSum", unfollowed := true, recurses := true, apart := false, narrowed := true }
def FnShareSumUptoSaid : Prop := fnShareSumUptoRow.holds Try.pinned (OpenSpec.upto fnShareSumSpec)

end Rows
end Go.Proofs.Ytdnnobkkilffbaa
