/-
  No cell of these rows narrows 'for every input' (looked for: loops, veiled, ifaces, maps, wideKeys, modest, calm, conditions, laid).
  DERIVED. THE GIVEN ROWS OF THIS SEAT. 8 by the template 'for every input the law returns true; each argument reads behind the call as it read before'; 0 by the template 'total and deterministic' (their statements: YthdelfhfglnhfabTotals.lean).
  GIVEN WITH THE SEED: the statements are not yours to turn. If you find one false, say at which input.
  Laid BY PROGRAM, IN A SANDBOX (cutbox-rows.mjs): the forced cells as the released guide's own fill.sh prints them over the translation 5bc66619fabb06f9… (all of the seat's roots in one cut). By AI agents, Wed Nov 11 2026. No macro, syntax, notation, axiom, sorry.
-/
import Derived.Test.YthdelfhfglnhfabChecked
import GoSem.Claim
import GoSem.ClaimJoined
import GoSem.ClaimMapViews
import Derived.JoinedTies
import Derived.KernelRfl
namespace Go.Proofs.Ythdelfhfglnhfab
/- THE CELL 'sum', in the pinned program and in every row, IS THE sha256 OF THE DUMP (.gsa) THAT YthdelfhfglnhfabProg.lean LOADS. Nothing in Lean hashes anything: it is a label: what it is worth is what the hold of that sum in a sandbox is worth. -/
noncomputable def Try.pinned : Pinned := { name := "ythdelfhfglnhfab", sum := "5bc66619fabb06f94229bda3fe37ad9aa364009fd8a1ff95ef4fcbbd60d0cfb1", checked := Try.checked }
namespace Rows
def none {H : Type} : Left H := { results := [], args := [] }

/-- 'laws.FnExactRuleOk': WHATEVER THE INPUT: true; the input reads as it did. -/
def fnExactRuleOkSpec : ChangeSpec := { name := "fnExactRuleOk", fn := fun _ => fun
  | [d1, d2] => { results := [.lit (.bool true)], args := [d1, d2] }
  | _ => none }
def fnExactRuleOkRow : OpenClaim := { program := "ythdelfhfglnhfab", sum := "5bc66619fabb06f94229bda3fe37ad9aa364009fd8a1ff95ef4fcbbd60d0cfb1", func := "loop.example/urnsandballs/laws.FnExactRuleOk", spec := "fnExactRuleOk", apart := false }
def FnExactRuleOkSaid : Prop := fnExactRuleOkRow.holds Try.pinned (OpenSpec.ofChange fnExactRuleOkSpec)

/-- ITS FALSE NEIGHBOUR: 'it returns false'. Refute it at one input. -/
def fnExactRuleOkWrong : ChangeSpec := { name := "fnExactRuleOk", fn := fun _ => fun
  | [d1, d2] => { results := [.lit (.bool false)], args := [d1, d2] }
  | _ => none }
def FnExactRuleOkWrongFalsely : Prop := fnExactRuleOkRow.holds Try.pinned (OpenSpec.ofChange fnExactRuleOkWrong)

/-- 'laws.FnExactStartOk': WHATEVER THE INPUT: true; the input reads as it did. -/
def fnExactStartOkSpec : ChangeSpec := { name := "fnExactStartOk", fn := fun _ => fun
  | [d] => { results := [.lit (.bool true)], args := [d] }
  | _ => none }
def fnExactStartOkRow : OpenClaim := { program := "ythdelfhfglnhfab", sum := "5bc66619fabb06f94229bda3fe37ad9aa364009fd8a1ff95ef4fcbbd60d0cfb1", func := "loop.example/urnsandballs/laws.FnExactStartOk", spec := "fnExactStartOk", apart := false }
def FnExactStartOkSaid : Prop := fnExactStartOkRow.holds Try.pinned (OpenSpec.ofChange fnExactStartOkSpec)

/-- ITS FALSE NEIGHBOUR: 'it returns false'. Refute it at one input. -/
def fnExactStartOkWrong : ChangeSpec := { name := "fnExactStartOk", fn := fun _ => fun
  | [d] => { results := [.lit (.bool false)], args := [d] }
  | _ => none }
def FnExactStartOkWrongFalsely : Prop := fnExactStartOkRow.holds Try.pinned (OpenSpec.ofChange fnExactStartOkWrong)

/-- 'laws.FnExactAfterWord': WHATEVER THE INPUT: true; the input reads as it did. -/
def fnExactAfterWordSpec : ChangeSpec := { name := "fnExactAfterWord", fn := fun _ => fun
  | [d1, d2, d3] => { results := [.lit (.bool true)], args := [d1, d2, d3] }
  | _ => none }
def fnExactAfterWordRow : OpenClaim := { program := "ythdelfhfglnhfab", sum := "5bc66619fabb06f94229bda3fe37ad9aa364009fd8a1ff95ef4fcbbd60d0cfb1", func := "loop.example/urnsandballs/laws.FnExactAfterWord", spec := "fnExactAfterWord", unfollowed := true, recurses := true, apart := false }
def FnExactAfterWordSaid : Prop := fnExactAfterWordRow.holds Try.pinned (OpenSpec.ofChange fnExactAfterWordSpec)

/-- ITS FALSE NEIGHBOUR: 'it returns false'. Refute it at one input. -/
def fnExactAfterWordWrong : ChangeSpec := { name := "fnExactAfterWord", fn := fun _ => fun
  | [d1, d2, d3] => { results := [.lit (.bool false)], args := [d1, d2, d3] }
  | _ => none }
def FnExactAfterWordWrongFalsely : Prop := fnExactAfterWordRow.holds Try.pinned (OpenSpec.ofChange fnExactAfterWordWrong)

/-- 'laws.FnExactRuleWays': WHATEVER THE INPUT: true; the input reads as it did. -/
def fnExactRuleWaysSpec : ChangeSpec := { name := "fnExactRuleWays", fn := fun _ => fun
  | [d1, d2, d3] => { results := [.lit (.bool true)], args := [d1, d2, d3] }
  | _ => none }
def fnExactRuleWaysRow : OpenClaim := { program := "ythdelfhfglnhfab", sum := "5bc66619fabb06f94229bda3fe37ad9aa364009fd8a1ff95ef4fcbbd60d0cfb1", func := "loop.example/urnsandballs/laws.FnExactRuleWays", spec := "fnExactRuleWays", unfollowed := true, recurses := true, apart := false }
def FnExactRuleWaysSaid : Prop := fnExactRuleWaysRow.holds Try.pinned (OpenSpec.ofChange fnExactRuleWaysSpec)

/-- ITS FALSE NEIGHBOUR: 'it returns false'. Refute it at one input. -/
def fnExactRuleWaysWrong : ChangeSpec := { name := "fnExactRuleWays", fn := fun _ => fun
  | [d1, d2, d3] => { results := [.lit (.bool false)], args := [d1, d2, d3] }
  | _ => none }
def FnExactRuleWaysWrongFalsely : Prop := fnExactRuleWaysRow.holds Try.pinned (OpenSpec.ofChange fnExactRuleWaysWrong)

/-- 'laws.FnExactRuleAll': WHATEVER THE INPUT: true; the input reads as it did. -/
def fnExactRuleAllSpec : ChangeSpec := { name := "fnExactRuleAll", fn := fun _ => fun
  | [d1, d2, d3] => { results := [.lit (.bool true)], args := [d1, d2, d3] }
  | _ => none }
def fnExactRuleAllRow : OpenClaim := { program := "ythdelfhfglnhfab", sum := "5bc66619fabb06f94229bda3fe37ad9aa364009fd8a1ff95ef4fcbbd60d0cfb1", func := "loop.example/urnsandballs/laws.FnExactRuleAll", spec := "fnExactRuleAll", unfollowed := true, recurses := true, apart := false }
def FnExactRuleAllSaid : Prop := fnExactRuleAllRow.holds Try.pinned (OpenSpec.ofChange fnExactRuleAllSpec)

/-- ITS FALSE NEIGHBOUR: 'it returns false'. Refute it at one input. -/
def fnExactRuleAllWrong : ChangeSpec := { name := "fnExactRuleAll", fn := fun _ => fun
  | [d1, d2, d3] => { results := [.lit (.bool false)], args := [d1, d2, d3] }
  | _ => none }
def FnExactRuleAllWrongFalsely : Prop := fnExactRuleAllRow.holds Try.pinned (OpenSpec.ofChange fnExactRuleAllWrong)

/-- 'laws.FnExactEvenRule': WHATEVER THE INPUT: true; the input reads as it did. -/
def fnExactEvenRuleSpec : ChangeSpec := { name := "fnExactEvenRule", fn := fun _ => fun
  | [d1, d2] => { results := [.lit (.bool true)], args := [d1, d2] }
  | _ => none }
def fnExactEvenRuleRow : OpenClaim := { program := "ythdelfhfglnhfab", sum := "5bc66619fabb06f94229bda3fe37ad9aa364009fd8a1ff95ef4fcbbd60d0cfb1", func := "loop.example/urnsandballs/laws.FnExactEvenRule", spec := "fnExactEvenRule", apart := false }
def FnExactEvenRuleSaid : Prop := fnExactEvenRuleRow.holds Try.pinned (OpenSpec.ofChange fnExactEvenRuleSpec)

/-- ITS FALSE NEIGHBOUR: 'it returns false'. Refute it at one input. -/
def fnExactEvenRuleWrong : ChangeSpec := { name := "fnExactEvenRule", fn := fun _ => fun
  | [d1, d2] => { results := [.lit (.bool false)], args := [d1, d2] }
  | _ => none }
def FnExactEvenRuleWrongFalsely : Prop := fnExactEvenRuleRow.holds Try.pinned (OpenSpec.ofChange fnExactEvenRuleWrong)

/-- 'laws.FnExactBallSum': WHATEVER THE INPUT: true; the input reads as it did. -/
def fnExactBallSumSpec : ChangeSpec := { name := "fnExactBallSum", fn := fun _ => fun
  | [d1, d2, d3, d4] => { results := [.lit (.bool true)], args := [d1, d2, d3, d4] }
  | _ => none }
def fnExactBallSumRow : OpenClaim := { program := "ythdelfhfglnhfab", sum := "5bc66619fabb06f94229bda3fe37ad9aa364009fd8a1ff95ef4fcbbd60d0cfb1", func := "loop.example/urnsandballs/laws.FnExactBallSum", spec := "fnExactBallSum", unfollowed := true, recurses := true, apart := false }
def FnExactBallSumSaid : Prop := fnExactBallSumRow.holds Try.pinned (OpenSpec.ofChange fnExactBallSumSpec)

/-- ITS FALSE NEIGHBOUR: 'it returns false'. Refute it at one input. -/
def fnExactBallSumWrong : ChangeSpec := { name := "fnExactBallSum", fn := fun _ => fun
  | [d1, d2, d3, d4] => { results := [.lit (.bool false)], args := [d1, d2, d3, d4] }
  | _ => none }
def FnExactBallSumWrongFalsely : Prop := fnExactBallSumRow.holds Try.pinned (OpenSpec.ofChange fnExactBallSumWrong)

/-- 'laws.FnExactPouredUrn': WHATEVER THE INPUT: true; the input reads as it did. -/
def fnExactPouredUrnSpec : ChangeSpec := { name := "fnExactPouredUrn", fn := fun _ => fun
  | [d1, d2] => { results := [.lit (.bool true)], args := [d1, d2] }
  | _ => none }
def fnExactPouredUrnRow : OpenClaim := { program := "ythdelfhfglnhfab", sum := "5bc66619fabb06f94229bda3fe37ad9aa364009fd8a1ff95ef4fcbbd60d0cfb1", func := "loop.example/urnsandballs/laws.FnExactPouredUrn", spec := "fnExactPouredUrn", unfollowed := true, recurses := true, apart := false }
def FnExactPouredUrnSaid : Prop := fnExactPouredUrnRow.holds Try.pinned (OpenSpec.ofChange fnExactPouredUrnSpec)

/-- ITS FALSE NEIGHBOUR: 'it returns false'. Refute it at one input. -/
def fnExactPouredUrnWrong : ChangeSpec := { name := "fnExactPouredUrn", fn := fun _ => fun
  | [d1, d2] => { results := [.lit (.bool false)], args := [d1, d2] }
  | _ => none }
def FnExactPouredUrnWrongFalsely : Prop := fnExactPouredUrnRow.holds Try.pinned (OpenSpec.ofChange fnExactPouredUrnWrong)

/- THE SECOND FORM. 'bulk': how many values and letters a reading holds, each counted each time it is reached (what is shared counts as often as it is met; a slice's spare places count too). A statement '..UptoSaid' is the law's where the arguments, and the package variables that the reading takes, are together of bulk at most 1048576: NARROWER than '..Said'. Prove '..Said' where nothing that the law and all that it calls make is longer than what came in: it says more and counts as full. Else prove '..UptoSaid'. A law counts once. -/
mutual
def uptoBulk {H : Type} : DataW H → Nat
  | .lit (.string bytes) => bytes.length + 1
  | .lit _ => 1
  | .nil => 1
  | .ptr d => uptoBulk d + 1
  | .slice elems spare => uptoBulkAll elems + uptoBulkAll spare + 1
  | .agg parts => uptoBulkAll parts + 1
  | .iface _ d => uptoBulk d + 1
  | .map entries => uptoBulkEntries entries + 1
  | .held _ => 1
def uptoBulkAll {H : Type} : List (DataW H) → Nat
  | [] => 0
  | d :: r => uptoBulk d + uptoBulkAll r
def uptoBulkEntries {H : Type} : List (Lit × DataW H) → Nat
  | [] => 0
  | x :: r => uptoBulkEntry x + uptoBulkEntries r
def uptoBulkEntry {H : Type} : Lit × DataW H → Nat
  | (.string bytes, d) => bytes.length + uptoBulk d + 1
  | (_, d) => uptoBulk d + 1
 end
def uptoSmall : (H : Type) → List (DataW H) → Bool := fun _ ds => decide (uptoBulkAll ds ≤ 1048576)
def OpenSpec.upto (s : _root_.Go.ChangeSpec) : _root_.Go.OpenSpec := { _root_.Go.OpenSpec.ofChange s with cond := some uptoSmall }

/-- 'laws.FnExactRuleOk', WHERE WHAT IT READS IS OF BULK AT MOST 1048576: true; the input reads as it did. -/
def fnExactRuleOkUptoRow : OpenClaim := { program := "ythdelfhfglnhfab", sum := "5bc66619fabb06f94229bda3fe37ad9aa364009fd8a1ff95ef4fcbbd60d0cfb1", func := "loop.example/urnsandballs/laws.FnExactRuleOk", spec := "fnExactRuleOk", apart := false, narrowed := true }
def FnExactRuleOkUptoSaid : Prop := fnExactRuleOkUptoRow.holds Try.pinned (OpenSpec.upto fnExactRuleOkSpec)

/-- 'laws.FnExactStartOk', WHERE WHAT IT READS IS OF BULK AT MOST 1048576: true; the input reads as it did. -/
def fnExactStartOkUptoRow : OpenClaim := { program := "ythdelfhfglnhfab", sum := "5bc66619fabb06f94229bda3fe37ad9aa364009fd8a1ff95ef4fcbbd60d0cfb1", func := "loop.example/urnsandballs/laws.FnExactStartOk", spec := "fnExactStartOk", apart := false, narrowed := true }
def FnExactStartOkUptoSaid : Prop := fnExactStartOkUptoRow.holds Try.pinned (OpenSpec.upto fnExactStartOkSpec)

/-- 'laws.FnExactAfterWord', WHERE WHAT IT READS IS OF BULK AT MOST 1048576: true; the input reads as it did. -/
def fnExactAfterWordUptoRow : OpenClaim := { program := "ythdelfhfglnhfab", sum := "5bc66619fabb06f94229bda3fe37ad9aa364009fd8a1ff95ef4fcbbd60d0cfb1", func := "loop.example/urnsandballs/laws.FnExactAfterWord", spec := "fnExactAfterWord", unfollowed := true, recurses := true, apart := false, narrowed := true }
def FnExactAfterWordUptoSaid : Prop := fnExactAfterWordUptoRow.holds Try.pinned (OpenSpec.upto fnExactAfterWordSpec)

/-- 'laws.FnExactRuleWays', WHERE WHAT IT READS IS OF BULK AT MOST 1048576: true; the input reads as it did. -/
def fnExactRuleWaysUptoRow : OpenClaim := { program := "ythdelfhfglnhfab", sum := "5bc66619fabb06f94229bda3fe37ad9aa364009fd8a1ff95ef4fcbbd60d0cfb1", func := "loop.example/urnsandballs/laws.FnExactRuleWays", spec := "fnExactRuleWays", unfollowed := true, recurses := true, apart := false, narrowed := true }
def FnExactRuleWaysUptoSaid : Prop := fnExactRuleWaysUptoRow.holds Try.pinned (OpenSpec.upto fnExactRuleWaysSpec)

/-- 'laws.FnExactRuleAll', WHERE WHAT IT READS IS OF BULK AT MOST 1048576: true; the input reads as it did. -/
def fnExactRuleAllUptoRow : OpenClaim := { program := "ythdelfhfglnhfab", sum := "5bc66619fabb06f94229bda3fe37ad9aa364009fd8a1ff95ef4fcbbd60d0cfb1", func := "loop.example/urnsandballs/laws.FnExactRuleAll", spec := "fnExactRuleAll", unfollowed := true, recurses := true, apart := false, narrowed := true }
def FnExactRuleAllUptoSaid : Prop := fnExactRuleAllUptoRow.holds Try.pinned (OpenSpec.upto fnExactRuleAllSpec)

/-- 'laws.FnExactEvenRule', WHERE WHAT IT READS IS OF BULK AT MOST 1048576: true; the input reads as it did. -/
def fnExactEvenRuleUptoRow : OpenClaim := { program := "ythdelfhfglnhfab", sum := "5bc66619fabb06f94229bda3fe37ad9aa364009fd8a1ff95ef4fcbbd60d0cfb1", func := "loop.example/urnsandballs/laws.FnExactEvenRule", spec := "fnExactEvenRule", apart := false, narrowed := true }
def FnExactEvenRuleUptoSaid : Prop := fnExactEvenRuleUptoRow.holds Try.pinned (OpenSpec.upto fnExactEvenRuleSpec)

/-- 'laws.FnExactBallSum', WHERE WHAT IT READS IS OF BULK AT MOST 1048576: true; the input reads as it did. -/
def fnExactBallSumUptoRow : OpenClaim := { program := "ythdelfhfglnhfab", sum := "5bc66619fabb06f94229bda3fe37ad9aa364009fd8a1ff95ef4fcbbd60d0cfb1", func := "loop.example/urnsandballs/laws.FnExactBallSum", spec := "fnExactBallSum", unfollowed := true, recurses := true, apart := false, narrowed := true }
def FnExactBallSumUptoSaid : Prop := fnExactBallSumUptoRow.holds Try.pinned (OpenSpec.upto fnExactBallSumSpec)

/-- 'laws.FnExactPouredUrn', WHERE WHAT IT READS IS OF BULK AT MOST 1048576: true; the input reads as it did. -/
def fnExactPouredUrnUptoRow : OpenClaim := { program := "ythdelfhfglnhfab", sum := "5bc66619fabb06f94229bda3fe37ad9aa364009fd8a1ff95ef4fcbbd60d0cfb1", func := "loop.example/urnsandballs/laws.FnExactPouredUrn", spec := "fnExactPouredUrn", unfollowed := true, recurses := true, apart := false, narrowed := true }
def FnExactPouredUrnUptoSaid : Prop := fnExactPouredUrnUptoRow.holds Try.pinned (OpenSpec.upto fnExactPouredUrnSpec)

end Rows
end Go.Proofs.Ythdelfhfglnhfab
