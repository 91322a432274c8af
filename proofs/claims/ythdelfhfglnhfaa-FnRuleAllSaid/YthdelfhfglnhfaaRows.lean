/-
  No cell of these rows narrows 'for every input' (looked for: loops, veiled, ifaces, maps, wideKeys, modest, calm, conditions, laid).
  DERIVED. THE GIVEN ROWS OF THIS SEAT. 8 by the template 'for every input the law returns true; each argument reads behind the call as it read before'; 0 by the template 'total and deterministic' (their statements: YthdelfhfglnhfaaTotals.lean).
  GIVEN WITH THE SEED: the statements are not yours to turn. If you find one false, say at which input.
  Laid BY PROGRAM, IN A SANDBOX (cutbox-rows.mjs): the forced cells as the released guide's own fill.sh prints them over the translation ad1a6423f96d9b58… (all of the seat's roots in one cut). By AI agents, Wed Nov 11 2026. No macro, syntax, notation, axiom, sorry.
-/
import Derived.Test.YthdelfhfglnhfaaChecked
import GoSem.Claim
import GoSem.ClaimJoined
import GoSem.ClaimMapViews
import Derived.JoinedTies
import Derived.KernelRfl
namespace Go.Proofs.Ythdelfhfglnhfaa
/- THE CELL 'sum', in the pinned program and in every row, IS THE sha256 OF THE DUMP (.gsa) THAT YthdelfhfglnhfaaProg.lean LOADS. Nothing in Lean hashes anything: it is a label: what it is worth is what the hold of that sum in a sandbox is worth. -/
noncomputable def Try.pinned : Pinned := { name := "ythdelfhfglnhfaa", sum := "ad1a6423f96d9b580e4101b0c9242f9e997e7d09c68d3022bc69225ab1e91d1f", checked := Try.checked }
namespace Rows
def none {H : Type} : Left H := { results := [], args := [] }

/-- 'laws.FnRuleOk': WHATEVER THE INPUT: true; the input reads as it did. -/
def fnRuleOkSpec : ChangeSpec := { name := "fnRuleOk", fn := fun _ => fun
  | [d] => { results := [.lit (.bool true)], args := [d] }
  | _ => none }
def fnRuleOkRow : OpenClaim := { program := "ythdelfhfglnhfaa", sum := "ad1a6423f96d9b580e4101b0c9242f9e997e7d09c68d3022bc69225ab1e91d1f", func := "loop.example/urnsandballs/laws.FnRuleOk", spec := "fnRuleOk", apart := false }
def FnRuleOkSaid : Prop := fnRuleOkRow.holds Try.pinned (OpenSpec.ofChange fnRuleOkSpec)

/-- ITS FALSE NEIGHBOUR: 'it returns false'. Refute it at one input. -/
def fnRuleOkWrong : ChangeSpec := { name := "fnRuleOk", fn := fun _ => fun
  | [d] => { results := [.lit (.bool false)], args := [d] }
  | _ => none }
def FnRuleOkWrongFalsely : Prop := fnRuleOkRow.holds Try.pinned (OpenSpec.ofChange fnRuleOkWrong)

/-- 'laws.FnStartOk': WHATEVER THE INPUT: true; the input reads as it did. -/
def fnStartOkSpec : ChangeSpec := { name := "fnStartOk", fn := fun _ => fun
  | [d] => { results := [.lit (.bool true)], args := [d] }
  | _ => none }
def fnStartOkRow : OpenClaim := { program := "ythdelfhfglnhfaa", sum := "ad1a6423f96d9b580e4101b0c9242f9e997e7d09c68d3022bc69225ab1e91d1f", func := "loop.example/urnsandballs/laws.FnStartOk", spec := "fnStartOk", apart := false }
def FnStartOkSaid : Prop := fnStartOkRow.holds Try.pinned (OpenSpec.ofChange fnStartOkSpec)

/-- ITS FALSE NEIGHBOUR: 'it returns false'. Refute it at one input. -/
def fnStartOkWrong : ChangeSpec := { name := "fnStartOk", fn := fun _ => fun
  | [d] => { results := [.lit (.bool false)], args := [d] }
  | _ => none }
def FnStartOkWrongFalsely : Prop := fnStartOkRow.holds Try.pinned (OpenSpec.ofChange fnStartOkWrong)

/-- 'laws.FnAfterWord': WHATEVER THE INPUT: true; the input reads as it did. -/
def fnAfterWordSpec : ChangeSpec := { name := "fnAfterWord", fn := fun _ => fun
  | [d] => { results := [.lit (.bool true)], args := [d] }
  | _ => none }
def fnAfterWordRow : OpenClaim := { program := "ythdelfhfglnhfaa", sum := "ad1a6423f96d9b580e4101b0c9242f9e997e7d09c68d3022bc69225ab1e91d1f", func := "loop.example/urnsandballs/laws.FnAfterWord", spec := "fnAfterWord", unfollowed := true, recurses := true, apart := false }
def FnAfterWordSaid : Prop := fnAfterWordRow.holds Try.pinned (OpenSpec.ofChange fnAfterWordSpec)

/-- ITS FALSE NEIGHBOUR: 'it returns false'. Refute it at one input. -/
def fnAfterWordWrong : ChangeSpec := { name := "fnAfterWord", fn := fun _ => fun
  | [d] => { results := [.lit (.bool false)], args := [d] }
  | _ => none }
def FnAfterWordWrongFalsely : Prop := fnAfterWordRow.holds Try.pinned (OpenSpec.ofChange fnAfterWordWrong)

/-- 'laws.FnRuleWays': WHATEVER THE INPUT: true; the input reads as it did. -/
def fnRuleWaysSpec : ChangeSpec := { name := "fnRuleWays", fn := fun _ => fun
  | [d] => { results := [.lit (.bool true)], args := [d] }
  | _ => none }
def fnRuleWaysRow : OpenClaim := { program := "ythdelfhfglnhfaa", sum := "ad1a6423f96d9b580e4101b0c9242f9e997e7d09c68d3022bc69225ab1e91d1f", func := "loop.example/urnsandballs/laws.FnRuleWays", spec := "fnRuleWays", unfollowed := true, recurses := true, apart := false }
def FnRuleWaysSaid : Prop := fnRuleWaysRow.holds Try.pinned (OpenSpec.ofChange fnRuleWaysSpec)

/-- ITS FALSE NEIGHBOUR: 'it returns false'. Refute it at one input. -/
def fnRuleWaysWrong : ChangeSpec := { name := "fnRuleWays", fn := fun _ => fun
  | [d] => { results := [.lit (.bool false)], args := [d] }
  | _ => none }
def FnRuleWaysWrongFalsely : Prop := fnRuleWaysRow.holds Try.pinned (OpenSpec.ofChange fnRuleWaysWrong)

/-- 'laws.FnRuleAll': WHATEVER THE INPUT: true; the input reads as it did. -/
def fnRuleAllSpec : ChangeSpec := { name := "fnRuleAll", fn := fun _ => fun
  | [d] => { results := [.lit (.bool true)], args := [d] }
  | _ => none }
def fnRuleAllRow : OpenClaim := { program := "ythdelfhfglnhfaa", sum := "ad1a6423f96d9b580e4101b0c9242f9e997e7d09c68d3022bc69225ab1e91d1f", func := "loop.example/urnsandballs/laws.FnRuleAll", spec := "fnRuleAll", unfollowed := true, recurses := true, apart := false }
def FnRuleAllSaid : Prop := fnRuleAllRow.holds Try.pinned (OpenSpec.ofChange fnRuleAllSpec)

/-- ITS FALSE NEIGHBOUR: 'it returns false'. Refute it at one input. -/
def fnRuleAllWrong : ChangeSpec := { name := "fnRuleAll", fn := fun _ => fun
  | [d] => { results := [.lit (.bool false)], args := [d] }
  | _ => none }
def FnRuleAllWrongFalsely : Prop := fnRuleAllRow.holds Try.pinned (OpenSpec.ofChange fnRuleAllWrong)

/-- 'laws.FnEvenRule': WHATEVER THE INPUT: true; the input reads as it did. -/
def fnEvenRuleSpec : ChangeSpec := { name := "fnEvenRule", fn := fun _ => fun
  | [d] => { results := [.lit (.bool true)], args := [d] }
  | _ => none }
def fnEvenRuleRow : OpenClaim := { program := "ythdelfhfglnhfaa", sum := "ad1a6423f96d9b580e4101b0c9242f9e997e7d09c68d3022bc69225ab1e91d1f", func := "loop.example/urnsandballs/laws.FnEvenRule", spec := "fnEvenRule", apart := false }
def FnEvenRuleSaid : Prop := fnEvenRuleRow.holds Try.pinned (OpenSpec.ofChange fnEvenRuleSpec)

/-- ITS FALSE NEIGHBOUR: 'it returns false'. Refute it at one input. -/
def fnEvenRuleWrong : ChangeSpec := { name := "fnEvenRule", fn := fun _ => fun
  | [d] => { results := [.lit (.bool false)], args := [d] }
  | _ => none }
def FnEvenRuleWrongFalsely : Prop := fnEvenRuleRow.holds Try.pinned (OpenSpec.ofChange fnEvenRuleWrong)

/-- 'laws.FnBallSum': WHATEVER THE INPUT: true; the input reads as it did. -/
def fnBallSumSpec : ChangeSpec := { name := "fnBallSum", fn := fun _ => fun
  | [d] => { results := [.lit (.bool true)], args := [d] }
  | _ => none }
def fnBallSumRow : OpenClaim := { program := "ythdelfhfglnhfaa", sum := "ad1a6423f96d9b580e4101b0c9242f9e997e7d09c68d3022bc69225ab1e91d1f", func := "loop.example/urnsandballs/laws.FnBallSum", spec := "fnBallSum", unfollowed := true, recurses := true, apart := false }
def FnBallSumSaid : Prop := fnBallSumRow.holds Try.pinned (OpenSpec.ofChange fnBallSumSpec)

/-- ITS FALSE NEIGHBOUR: 'it returns false'. Refute it at one input. -/
def fnBallSumWrong : ChangeSpec := { name := "fnBallSum", fn := fun _ => fun
  | [d] => { results := [.lit (.bool false)], args := [d] }
  | _ => none }
def FnBallSumWrongFalsely : Prop := fnBallSumRow.holds Try.pinned (OpenSpec.ofChange fnBallSumWrong)

/-- 'laws.FnRuleNext': WHATEVER THE INPUT: true; the input reads as it did. -/
def fnRuleNextSpec : ChangeSpec := { name := "fnRuleNext", fn := fun _ => fun
  | [d] => { results := [.lit (.bool true)], args := [d] }
  | _ => none }
def fnRuleNextRow : OpenClaim := { program := "ythdelfhfglnhfaa", sum := "ad1a6423f96d9b580e4101b0c9242f9e997e7d09c68d3022bc69225ab1e91d1f", func := "loop.example/urnsandballs/laws.FnRuleNext", spec := "fnRuleNext", unfollowed := true, recurses := true, apart := false }
def FnRuleNextSaid : Prop := fnRuleNextRow.holds Try.pinned (OpenSpec.ofChange fnRuleNextSpec)

/-- ITS FALSE NEIGHBOUR: 'it returns false'. Refute it at one input. -/
def fnRuleNextWrong : ChangeSpec := { name := "fnRuleNext", fn := fun _ => fun
  | [d] => { results := [.lit (.bool false)], args := [d] }
  | _ => none }
def FnRuleNextWrongFalsely : Prop := fnRuleNextRow.holds Try.pinned (OpenSpec.ofChange fnRuleNextWrong)

/- THE SECOND FORM. 'bulk': how many values and letters a reading holds, each counted each time it is reached (what is shared counts as often as it is met; a slice's spare places count too). A statement '..UptoSaid' is the law's where the arguments, and the package variables that the reading takes, are together of bulk at most 1048576: NARROWER than '..Said'. Prove '..Said' where nothing that the law and all that it calls make is longer than what came in: it says more and counts as full. Else prove '..UptoSaid'. A law counts once. -/
mutual
def uptoBulk {H : Type} : DataW H → Nat
  | .lit (.string bytes) => bytes.length + 1
  | .lit _ => 1
  | .nil => 1
  | .ptr d => uptoBulk d + 1
  | .slice elems spare => uptoBulkAll elems + uptoBulkAll spare + 1
  | .agg parts => uptoBulkAll parts + 1
  | .iface _ d => uptoBulk d + 1
  | .map entries => uptoBulkEntries entries + 1
  | .held _ => 1
def uptoBulkAll {H : Type} : List (DataW H) → Nat
  | [] => 0
  | d :: r => uptoBulk d + uptoBulkAll r
def uptoBulkEntries {H : Type} : List (Lit × DataW H) → Nat
  | [] => 0
  | x :: r => uptoBulkEntry x + uptoBulkEntries r
def uptoBulkEntry {H : Type} : Lit × DataW H → Nat
  | (.string bytes, d) => bytes.length + uptoBulk d + 1
  | (_, d) => uptoBulk d + 1
 end
def uptoSmall : (H : Type) → List (DataW H) → Bool := fun _ ds => decide (uptoBulkAll ds ≤ 1048576)
def OpenSpec.upto (s : _root_.Go.ChangeSpec) : _root_.Go.OpenSpec := { _root_.Go.OpenSpec.ofChange s with cond := some uptoSmall }

/-- 'laws.FnRuleOk', WHERE WHAT IT READS IS OF BULK AT MOST 1048576: true; the input reads as it did. -/
def fnRuleOkUptoRow : OpenClaim := { program := "ythdelfhfglnhfaa", sum := "ad1a6423f96d9b580e4101b0c9242f9e997e7d09c68d3022bc69225ab1e91d1f", func := "loop.example/urnsandballs/laws.FnRuleOk", spec := "fnRuleOk", apart := false, narrowed := true }
def FnRuleOkUptoSaid : Prop := fnRuleOkUptoRow.holds Try.pinned (OpenSpec.upto fnRuleOkSpec)

/-- 'laws.FnStartOk', WHERE WHAT IT READS IS OF BULK AT MOST 1048576: true; the input reads as it did. -/
def fnStartOkUptoRow : OpenClaim := { program := "ythdelfhfglnhfaa", sum := "ad1a6423f96d9b580e4101b0c9242f9e997e7d09c68d3022bc69225ab1e91d1f", func := "loop.example/urnsandballs/laws.FnStartOk", spec := "fnStartOk", apart := false, narrowed := true }
def FnStartOkUptoSaid : Prop := fnStartOkUptoRow.holds Try.pinned (OpenSpec.upto fnStartOkSpec)

/-- 'laws.FnAfterWord', WHERE WHAT IT READS IS OF BULK AT MOST 1048576: true; the input reads as it did. -/
def fnAfterWordUptoRow : OpenClaim := { program := "ythdelfhfglnhfaa", sum := "ad1a6423f96d9b580e4101b0c9242f9e997e7d09c68d3022bc69225ab1e91d1f", func := "loop.example/urnsandballs/laws.FnAfterWord", spec := "fnAfterWord", unfollowed := true, recurses := true, apart := false, narrowed := true }
def FnAfterWordUptoSaid : Prop := fnAfterWordUptoRow.holds Try.pinned (OpenSpec.upto fnAfterWordSpec)

/-- 'laws.FnRuleWays', WHERE WHAT IT READS IS OF BULK AT MOST 1048576: true; the input reads as it did. -/
def fnRuleWaysUptoRow : OpenClaim := { program := "ythdelfhfglnhfaa", sum := "ad1a6423f96d9b580e4101b0c9242f9e997e7d09c68d3022bc69225ab1e91d1f", func := "loop.example/urnsandballs/laws.FnRuleWays", spec := "fnRuleWays", unfollowed := true, recurses := true, apart := false, narrowed := true }
def FnRuleWaysUptoSaid : Prop := fnRuleWaysUptoRow.holds Try.pinned (OpenSpec.upto fnRuleWaysSpec)

/-- 'laws.FnRuleAll', WHERE WHAT IT READS IS OF BULK AT MOST 1048576: true; the input reads as it did. -/
def fnRuleAllUptoRow : OpenClaim := { program := "ythdelfhfglnhfaa", sum := "ad1a6423f96d9b580e4101b0c9242f9e997e7d09c68d3022bc69225ab1e91d1f", func := "loop.example/urnsandballs/laws.FnRuleAll", spec := "fnRuleAll", unfollowed := true, recurses := true, apart := false, narrowed := true }
def FnRuleAllUptoSaid : Prop := fnRuleAllUptoRow.holds Try.pinned (OpenSpec.upto fnRuleAllSpec)

/-- 'laws.FnEvenRule', WHERE WHAT IT READS IS OF BULK AT MOST 1048576: true; the input reads as it did. -/
def fnEvenRuleUptoRow : OpenClaim := { program := "ythdelfhfglnhfaa", sum := "ad1a6423f96d9b580e4101b0c9242f9e997e7d09c68d3022bc69225ab1e91d1f", func := "loop.example/urnsandballs/laws.FnEvenRule", spec := "fnEvenRule", apart := false, narrowed := true }
def FnEvenRuleUptoSaid : Prop := fnEvenRuleUptoRow.holds Try.pinned (OpenSpec.upto fnEvenRuleSpec)

/-- 'laws.FnBallSum', WHERE WHAT IT READS IS OF BULK AT MOST 1048576: true; the input reads as it did. -/
def fnBallSumUptoRow : OpenClaim := { program := "ythdelfhfglnhfaa", sum := "ad1a6423f96d9b580e4101b0c9242f9e997e7d09c68d3022bc69225ab1e91d1f", func := "loop.example/urnsandballs/laws.FnBallSum", spec := "fnBallSum", unfollowed := true, recurses := true, apart := false, narrowed := true }
def FnBallSumUptoSaid : Prop := fnBallSumUptoRow.holds Try.pinned (OpenSpec.upto fnBallSumSpec)

/-- 'laws.FnRuleNext', WHERE WHAT IT READS IS OF BULK AT MOST 1048576: true; the input reads as it did. -/
def fnRuleNextUptoRow : OpenClaim := { program := "ythdelfhfglnhfaa", sum := "ad1a6423f96d9b580e4101b0c9242f9e997e7d09c68d3022bc69225ab1e91d1f", func := "loop.example/urnsandballs/laws.FnRuleNext", spec := "fnRuleNext", unfollowed := true, recurses := true, apart := false, narrowed := true }
def FnRuleNextUptoSaid : Prop := fnRuleNextUptoRow.holds Try.pinned (OpenSpec.upto fnRuleNextSpec)

end Rows
end Go.Proofs.Ythdelfhfglnhfaa
