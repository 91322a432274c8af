/-
  No cell of these rows narrows 'for every input' (looked for: loops, veiled, ifaces, maps, wideKeys, modest, calm, conditions, laid).
  DERIVED. THE GIVEN ROWS OF THIS SEAT. 8 by the template 'for every input the law returns true; each argument reads behind the call as it read before'; 0 by the template 'total and deterministic' (their statements: YtdnnobkkilffbabTotals.lean).
  GIVEN WITH THE SEED: the statements are not yours to turn. If you find one false, say at which input.
  Laid BY PROGRAM, IN A SANDBOX (cutbox-rows.mjs): the forced cells as the released guide's own fill.sh prints them over the translation c76f843625fae8da… (all of the seat's roots in one cut). By AI agents, Wed Nov 11 2026. No macro, syntax, notation, axiom, sorry.
-/
import Derived.Test.YtdnnobkkilffbabChecked
import GoSem.Claim
import GoSem.ClaimJoined
import GoSem.ClaimMapViews
import Derived.JoinedTies
import Derived.KernelRfl
namespace Go.Proofs.Ytdnnobkkilffbab
/- THE CELL 'sum', in the pinned program and in every row, IS THE sha256 OF THE DUMP (.gsa) THAT YtdnnobkkilffbabProg.lean LOADS. Nothing in Lean hashes anything: it is a label: what it is worth is what the hold of that sum in a sandbox is worth. -/
noncomputable def Try.pinned : Pinned := { name := "ytdnnobkkilffbab", sum := "c76f843625fae8daacdca41660a9cfb6ef92f8de6f111d61de9b6bd781493443", checked := Try.checked }
namespace Rows
def none {H : Type} : Left H := { results := [], args := [] }

/-- 'laws.FnSameAll': WHATEVER THE INPUT: true; the input reads as it did. -/
def fnSameAllSpec : ChangeSpec := { name := "fnSameAll", fn := fun _ => fun
  | [d] => { results := [.lit (.bool true)], args := [d] }
  | _ => none }
def fnSameAllRow : OpenClaim := { program := "ytdnnobkkilffbab", sum := "c76f843625fae8daacdca41660a9cfb6ef92f8de6f111d61de9b6bd781493443", func := "loop.example/urnsandballs/laws.FnSameAll", spec := "fnSameAll", unfollowed := true, recurses := true, apart := false }
def FnSameAllSaid : Prop := fnSameAllRow.holds Try.pinned (OpenSpec.ofChange fnSameAllSpec)

/-- ITS FALSE NEIGHBOUR: 'it returns false'. Refute it at one input. -/
def fnSameAllWrong : ChangeSpec := { name := "fnSameAll", fn := fun _ => fun
  | [d] => { results := [.lit (.bool false)], args := [d] }
  | _ => none }
def FnSameAllWrongFalsely : Prop := fnSameAllRow.holds Try.pinned (OpenSpec.ofChange fnSameAllWrong)

/-- 'laws.FnSameSteps': WHATEVER THE INPUT: true; the input reads as it did. -/
def fnSameStepsSpec : ChangeSpec := { name := "fnSameSteps", fn := fun _ => fun
  | [d] => { results := [.lit (.bool true)], args := [d] }
  | _ => none }
def fnSameStepsRow : OpenClaim := { program := "ytdnnobkkilffbab", sum := "c76f843625fae8daacdca41660a9cfb6ef92f8de6f111d61de9b6bd781493443", func := "loop.example/urnsandballs/laws.FnSameSteps", spec := "fnSameSteps", unfollowed := true, recurses := true, apart := false }
def FnSameStepsSaid : Prop := fnSameStepsRow.holds Try.pinned (OpenSpec.ofChange fnSameStepsSpec)

/-- ITS FALSE NEIGHBOUR: 'it returns false'. Refute it at one input. -/
def fnSameStepsWrong : ChangeSpec := { name := "fnSameSteps", fn := fun _ => fun
  | [d] => { results := [.lit (.bool false)], args := [d] }
  | _ => none }
def FnSameStepsWrongFalsely : Prop := fnSameStepsRow.holds Try.pinned (OpenSpec.ofChange fnSameStepsWrong)

/-- 'laws.FnExactAllWays': WHATEVER THE INPUT: true; the input reads as it did. -/
def fnExactAllWaysSpec : ChangeSpec := { name := "fnExactAllWays", fn := fun _ => fun
  | [d1, d2] => { results := [.lit (.bool true)], args := [d1, d2] }
  | _ => none }
def fnExactAllWaysRow : OpenClaim := { program := "ytdnnobkkilffbab", sum := "c76f843625fae8daacdca41660a9cfb6ef92f8de6f111d61de9b6bd781493443", func := "loop.example/urnsandballs/laws.FnExactAllWays", spec := "fnExactAllWays", apart := false }
def FnExactAllWaysSaid : Prop := fnExactAllWaysRow.holds Try.pinned (OpenSpec.ofChange fnExactAllWaysSpec)

/-- ITS FALSE NEIGHBOUR: 'it returns false'. Refute it at one input. -/
def fnExactAllWaysWrong : ChangeSpec := { name := "fnExactAllWays", fn := fun _ => fun
  | [d1, d2] => { results := [.lit (.bool false)], args := [d1, d2] }
  | _ => none }
def FnExactAllWaysWrongFalsely : Prop := fnExactAllWaysRow.holds Try.pinned (OpenSpec.ofChange fnExactAllWaysWrong)

/-- 'laws.FnExactSameApart': WHATEVER THE INPUT: true; the input reads as it did. -/
def fnExactSameApartSpec : ChangeSpec := { name := "fnExactSameApart", fn := fun _ => fun
  | [d] => { results := [.lit (.bool true)], args := [d] }
  | _ => none }
def fnExactSameApartRow : OpenClaim := { program := "ytdnnobkkilffbab", sum := "c76f843625fae8daacdca41660a9cfb6ef92f8de6f111d61de9b6bd781493443", func := "loop.example/urnsandballs/laws.FnExactSameApart", spec := "fnExactSameApart", apart := false }
def FnExactSameApartSaid : Prop := fnExactSameApartRow.holds Try.pinned (OpenSpec.ofChange fnExactSameApartSpec)

/-- ITS FALSE NEIGHBOUR: 'it returns false'. Refute it at one input. -/
def fnExactSameApartWrong : ChangeSpec := { name := "fnExactSameApart", fn := fun _ => fun
  | [d] => { results := [.lit (.bool false)], args := [d] }
  | _ => none }
def FnExactSameApartWrongFalsely : Prop := fnExactSameApartRow.holds Try.pinned (OpenSpec.ofChange fnExactSameApartWrong)

/-- 'laws.FnExactBackCounts': WHATEVER THE INPUT: true; the input reads as it did. -/
def fnExactBackCountsSpec : ChangeSpec := { name := "fnExactBackCounts", fn := fun _ => fun
  | [d1, d2] => { results := [.lit (.bool true)], args := [d1, d2] }
  | _ => none }
def fnExactBackCountsRow : OpenClaim := { program := "ytdnnobkkilffbab", sum := "c76f843625fae8daacdca41660a9cfb6ef92f8de6f111d61de9b6bd781493443", func := "loop.example/urnsandballs/laws.FnExactBackCounts", spec := "fnExactBackCounts", unfollowed := true, recurses := true, apart := false }
def FnExactBackCountsSaid : Prop := fnExactBackCountsRow.holds Try.pinned (OpenSpec.ofChange fnExactBackCountsSpec)

/-- ITS FALSE NEIGHBOUR: 'it returns false'. Refute it at one input. -/
def fnExactBackCountsWrong : ChangeSpec := { name := "fnExactBackCounts", fn := fun _ => fun
  | [d1, d2] => { results := [.lit (.bool false)], args := [d1, d2] }
  | _ => none }
def FnExactBackCountsWrongFalsely : Prop := fnExactBackCountsRow.holds Try.pinned (OpenSpec.ofChange fnExactBackCountsWrong)

/-- 'laws.FnExactSameRule': WHATEVER THE INPUT: true; the input reads as it did. -/
def fnExactSameRuleSpec : ChangeSpec := { name := "fnExactSameRule", fn := fun _ => fun
  | [d1, d2] => { results := [.lit (.bool true)], args := [d1, d2] }
  | _ => none }
def fnExactSameRuleRow : OpenClaim := { program := "ytdnnobkkilffbab", sum := "c76f843625fae8daacdca41660a9cfb6ef92f8de6f111d61de9b6bd781493443", func := "loop.example/urnsandballs/laws.FnExactSameRule", spec := "fnExactSameRule", apart := false }
def FnExactSameRuleSaid : Prop := fnExactSameRuleRow.holds Try.pinned (OpenSpec.ofChange fnExactSameRuleSpec)

/-- ITS FALSE NEIGHBOUR: 'it returns false'. Refute it at one input. -/
def fnExactSameRuleWrong : ChangeSpec := { name := "fnExactSameRule", fn := fun _ => fun
  | [d1, d2] => { results := [.lit (.bool false)], args := [d1, d2] }
  | _ => none }
def FnExactSameRuleWrongFalsely : Prop := fnExactSameRuleRow.holds Try.pinned (OpenSpec.ofChange fnExactSameRuleWrong)

/-- 'laws.FnExactRisingOf': WHATEVER THE INPUT: true; the input reads as it did. -/
def fnExactRisingOfSpec : ChangeSpec := { name := "fnExactRisingOf", fn := fun _ => fun
  | [d1, d2, d3] => { results := [.lit (.bool true)], args := [d1, d2, d3] }
  | _ => none }
def fnExactRisingOfRow : OpenClaim := { program := "ytdnnobkkilffbab", sum := "c76f843625fae8daacdca41660a9cfb6ef92f8de6f111d61de9b6bd781493443", func := "loop.example/urnsandballs/laws.FnExactRisingOf", spec := "fnExactRisingOf", apart := false }
def FnExactRisingOfSaid : Prop := fnExactRisingOfRow.holds Try.pinned (OpenSpec.ofChange fnExactRisingOfSpec)

/-- ITS FALSE NEIGHBOUR: 'it returns false'. Refute it at one input. -/
def fnExactRisingOfWrong : ChangeSpec := { name := "fnExactRisingOf", fn := fun _ => fun
  | [d1, d2, d3] => { results := [.lit (.bool false)], args := [d1, d2, d3] }
  | _ => none }
def FnExactRisingOfWrongFalsely : Prop := fnExactRisingOfRow.holds Try.pinned (OpenSpec.ofChange fnExactRisingOfWrong)

/-- 'laws.FnExactSameCounts': WHATEVER THE INPUT: true; the input reads as it did. -/
def fnExactSameCountsSpec : ChangeSpec := { name := "fnExactSameCounts", fn := fun _ => fun
  | [d1, d2, d3] => { results := [.lit (.bool true)], args := [d1, d2, d3] }
  | _ => none }
def fnExactSameCountsRow : OpenClaim := { program := "ytdnnobkkilffbab", sum := "c76f843625fae8daacdca41660a9cfb6ef92f8de6f111d61de9b6bd781493443", func := "loop.example/urnsandballs/laws.FnExactSameCounts", spec := "fnExactSameCounts", unfollowed := true, recurses := true, apart := false }
def FnExactSameCountsSaid : Prop := fnExactSameCountsRow.holds Try.pinned (OpenSpec.ofChange fnExactSameCountsSpec)

/-- ITS FALSE NEIGHBOUR: 'it returns false'. Refute it at one input. -/
def fnExactSameCountsWrong : ChangeSpec := { name := "fnExactSameCounts", fn := fun _ => fun
  | [d1, d2, d3] => { results := [.lit (.bool false)], args := [d1, d2, d3] }
  | _ => none }
def FnExactSameCountsWrongFalsely : Prop := fnExactSameCountsRow.holds Try.pinned (OpenSpec.ofChange fnExactSameCountsWrong)

/- THE SECOND FORM. 'bulk': how many values and letters a reading holds, each counted each time it is reached (what is shared counts as often as it is met; a slice's spare places count too). A statement '..UptoSaid' is the law's where the arguments, and the package variables that the reading takes, are together of bulk at most 1048576: NARROWER than '..Said'. Prove '..Said' where nothing that the law and all that it calls make is longer than what came in: it says more and counts as full. Else prove '..UptoSaid'. A law counts once. -/
mutual
def uptoBulk {H : Type} : DataW H → Nat
  | .lit (.string bytes) => bytes.length + 1
  | .lit _ => 1
  | .nil => 1
  | .ptr d => uptoBulk d + 1
  | .slice elems spare => uptoBulkAll elems + uptoBulkAll spare + 1
  | .agg parts => uptoBulkAll parts + 1
  | .iface _ d => uptoBulk d + 1
  | .map entries => uptoBulkEntries entries + 1
  | .held _ => 1
def uptoBulkAll {H : Type} : List (DataW H) → Nat
  | [] => 0
  | d :: r => uptoBulk d + uptoBulkAll r
def uptoBulkEntries {H : Type} : List (Lit × DataW H) → Nat
  | [] => 0
  | x :: r => uptoBulkEntry x + uptoBulkEntries r
def uptoBulkEntry {H : Type} : Lit × DataW H → Nat
  | (.string bytes, d) => bytes.length + uptoBulk d + 1
  | (_, d) => uptoBulk d + 1
 end
def uptoSmall : (H : Type) → List (DataW H) → Bool := fun _ ds => decide (uptoBulkAll ds ≤ 1048576)
def OpenSpec.upto (s : _root_.Go.ChangeSpec) : _root_.Go.OpenSpec := { _root_.Go.OpenSpec.ofChange s with cond := some uptoSmall }

/-- 'laws.FnSameAll', WHERE WHAT IT READS IS OF BULK AT MOST 1048576: true; the input reads as it did. -/
def fnSameAllUptoRow : OpenClaim := { program := "ytdnnobkkilffbab", sum := "c76f843625fae8daacdca41660a9cfb6ef92f8de6f111d61de9b6bd781493443", func := "loop.example/urnsandballs/laws.FnSameAll", spec := "fnSameAll", unfollowed := true, recurses := true, apart := false, narrowed := true }
def FnSameAllUptoSaid : Prop := fnSameAllUptoRow.holds Try.pinned (OpenSpec.upto fnSameAllSpec)

/-- 'laws.FnSameSteps', WHERE WHAT IT READS IS OF BULK AT MOST 1048576: true; the input reads as it did. -/
def fnSameStepsUptoRow : OpenClaim := { program := "ytdnnobkkilffbab", sum := "c76f843625fae8daacdca41660a9cfb6ef92f8de6f111d61de9b6bd781493443", func := "loop.example/urnsandballs/laws.FnSameSteps", spec := "fnSameSteps", unfollowed := true, recurses := true, apart := false, narrowed := true }
def FnSameStepsUptoSaid : Prop := fnSameStepsUptoRow.holds Try.pinned (OpenSpec.upto fnSameStepsSpec)

/-- 'laws.FnExactAllWays', WHERE WHAT IT READS IS OF BULK AT MOST 1048576: true; the input reads as it did. -/
def fnExactAllWaysUptoRow : OpenClaim := { program := "ytdnnobkkilffbab", sum := "c76f843625fae8daacdca41660a9cfb6ef92f8de6f111d61de9b6bd781493443", func := "loop.example/urnsandballs/laws.FnExactAllWays", spec := "fnExactAllWays", apart := false, narrowed := true }
def FnExactAllWaysUptoSaid : Prop := fnExactAllWaysUptoRow.holds Try.pinned (OpenSpec.upto fnExactAllWaysSpec)

/-- 'laws.FnExactSameApart', WHERE WHAT IT READS IS OF BULK AT MOST 1048576: true; the input reads as it did. -/
def fnExactSameApartUptoRow : OpenClaim := { program := "ytdnnobkkilffbab", sum := "c76f843625fae8daacdca41660a9cfb6ef92f8de6f111d61de9b6bd781493443", func := "loop.example/urnsandballs/laws.FnExactSameApart", spec := "fnExactSameApart", apart := false, narrowed := true }
def FnExactSameApartUptoSaid : Prop := fnExactSameApartUptoRow.holds Try.pinned (OpenSpec.upto fnExactSameApartSpec)

/-- 'laws.FnExactBackCounts', WHERE WHAT IT READS IS OF BULK AT MOST 1048576: true; the input reads as it did. -/
def fnExactBackCountsUptoRow : OpenClaim := { program := "ytdnnobkkilffbab", sum := "c76f843625fae8daacdca41660a9cfb6ef92f8de6f111d61de9b6bd781493443", func := "loop.example/urnsandballs/laws.FnExactBackCounts", spec := "fnExactBackCounts", unfollowed := true, recurses := true, apart := false, narrowed := true }
def FnExactBackCountsUptoSaid : Prop := fnExactBackCountsUptoRow.holds Try.pinned (OpenSpec.upto fnExactBackCountsSpec)

/-- 'laws.FnExactSameRule', WHERE WHAT IT READS IS OF BULK AT MOST 1048576: true; the input reads as it did. -/
def fnExactSameRuleUptoRow : OpenClaim := { program := "ytdnnobkkilffbab", sum := "c76f843625fae8daacdca41660a9cfb6ef92f8de6f111d61de9b6bd781493443", func := "loop.example/urnsandballs/laws.FnExactSameRule", spec := "fnExactSameRule", apart := false, narrowed := true }
def FnExactSameRuleUptoSaid : Prop := fnExactSameRuleUptoRow.holds Try.pinned (OpenSpec.upto fnExactSameRuleSpec)

/-- 'laws.FnExactRisingOf', WHERE WHAT IT READS IS OF BULK AT MOST 1048576: true; the input reads as it did. -/
def fnExactRisingOfUptoRow : OpenClaim := { program := "ytdnnobkkilffbab", sum := "c76f843625fae8daacdca41660a9cfb6ef92f8de6f111d61de9b6bd781493443", func := "loop.example/urnsandballs/laws.FnExactRisingOf", spec := "fnExactRisingOf", apart := false, narrowed := true }
def FnExactRisingOfUptoSaid : Prop := fnExactRisingOfUptoRow.holds Try.pinned (OpenSpec.upto fnExactRisingOfSpec)

/-- 'laws.FnExactSameCounts', WHERE WHAT IT READS IS OF BULK AT MOST 1048576: true; the input reads as it did. -/
def fnExactSameCountsUptoRow : OpenClaim := { program := "ytdnnobkkilffbab", sum := "c76f843625fae8daacdca41660a9cfb6ef92f8de6f111d61de9b6bd781493443", func := "loop.example/urnsandballs/laws.FnExactSameCounts", spec := "fnExactSameCounts", unfollowed := true, recurses := true, apart := false, narrowed := true }
def FnExactSameCountsUptoSaid : Prop := fnExactSameCountsUptoRow.holds Try.pinned (OpenSpec.upto fnExactSameCountsSpec)

end Rows
end Go.Proofs.Ytdnnobkkilffbab
