/-
  No cell of these rows narrows 'for every input' (looked for: loops, veiled, ifaces, maps, wideKeys, modest, calm, conditions, laid).
  DERIVED. THE GIVEN ROWS OF THIS SEAT. 8 by the template 'for every input the law returns true; each argument reads behind the call as it read before'; 0 by the template 'total and deterministic' (their statements: YtaocbiocpklbmaaTotals.lean).
  GIVEN WITH THE SEED: the statements are not yours to turn. If you find one false, say at which input.
  Laid BY PROGRAM, IN A SANDBOX (cutbox-rows.mjs): the forced cells as the released guide's own fill.sh prints them over the translation 7eadf618ea2f873c… (all of the seat's roots in one cut). By AI agents, Wed Nov 11 2026. No macro, syntax, notation, axiom, sorry.
-/
import Derived.Test.YtaocbiocpklbmaaChecked
import GoSem.Claim
import GoSem.ClaimJoined
import GoSem.ClaimMapViews
import Derived.JoinedTies
import Derived.KernelRfl
namespace Go.Proofs.Ytaocbiocpklbmaa
/- THE CELL 'sum', in the pinned program and in every row, IS THE sha256 OF THE DUMP (.gsa) THAT YtaocbiocpklbmaaProg.lean LOADS. Nothing in Lean hashes anything: it is a label: what it is worth is what the hold of that sum in a sandbox is worth. -/
noncomputable def Try.pinned : Pinned := { name := "ytaocbiocpklbmaa", sum := "7eadf618ea2f873cd244c475ae602add113eb1aa4bb77c6773b00f21c57950b2", checked := Try.checked }
namespace Rows
def none {H : Type} : Left H := { results := [], args := [] }

/-- 'laws.FnBackWays': WHATEVER THE INPUT: true; the input reads as it did. -/
def fnBackWaysSpec : ChangeSpec := { name := "fnBackWays", fn := fun _ => fun
  | [d] => { results := [.lit (.bool true)], args := [d] }
  | _ => none }
def fnBackWaysRow : OpenClaim := { program := "ytaocbiocpklbmaa", sum := "7eadf618ea2f873cd244c475ae602add113eb1aa4bb77c6773b00f21c57950b2", func := "loop.example/urnsandballs/laws.FnBackWays", spec := "fnBackWays", apart := false }
def FnBackWaysSaid : Prop := fnBackWaysRow.holds Try.pinned (OpenSpec.ofChange fnBackWaysSpec)

/-- ITS FALSE NEIGHBOUR: 'it returns false'. Refute it at one input. -/
def fnBackWaysWrong : ChangeSpec := { name := "fnBackWays", fn := fun _ => fun
  | [d] => { results := [.lit (.bool false)], args := [d] }
  | _ => none }
def FnBackWaysWrongFalsely : Prop := fnBackWaysRow.holds Try.pinned (OpenSpec.ofChange fnBackWaysWrong)

/-- 'laws.FnBackAll': WHATEVER THE INPUT: true; the input reads as it did. -/
def fnBackAllSpec : ChangeSpec := { name := "fnBackAll", fn := fun _ => fun
  | [d] => { results := [.lit (.bool true)], args := [d] }
  | _ => none }
def fnBackAllRow : OpenClaim := { program := "ytaocbiocpklbmaa", sum := "7eadf618ea2f873cd244c475ae602add113eb1aa4bb77c6773b00f21c57950b2", func := "loop.example/urnsandballs/laws.FnBackAll", spec := "fnBackAll", apart := false }
def FnBackAllSaid : Prop := fnBackAllRow.holds Try.pinned (OpenSpec.ofChange fnBackAllSpec)

/-- ITS FALSE NEIGHBOUR: 'it returns false'. Refute it at one input. -/
def fnBackAllWrong : ChangeSpec := { name := "fnBackAll", fn := fun _ => fun
  | [d] => { results := [.lit (.bool false)], args := [d] }
  | _ => none }
def FnBackAllWrongFalsely : Prop := fnBackAllRow.holds Try.pinned (OpenSpec.ofChange fnBackAllWrong)

/-- 'laws.FnBackCounts': WHATEVER THE INPUT: true; the input reads as it did. -/
def fnBackCountsSpec : ChangeSpec := { name := "fnBackCounts", fn := fun _ => fun
  | [d] => { results := [.lit (.bool true)], args := [d] }
  | _ => none }
def fnBackCountsRow : OpenClaim := { program := "ytaocbiocpklbmaa", sum := "7eadf618ea2f873cd244c475ae602add113eb1aa4bb77c6773b00f21c57950b2", func := "loop.example/urnsandballs/laws.FnBackCounts", spec := "fnBackCounts", unfollowed := true, recurses := true, apart := false }
def FnBackCountsSaid : Prop := fnBackCountsRow.holds Try.pinned (OpenSpec.ofChange fnBackCountsSpec)

/-- ITS FALSE NEIGHBOUR: 'it returns false'. Refute it at one input. -/
def fnBackCountsWrong : ChangeSpec := { name := "fnBackCounts", fn := fun _ => fun
  | [d] => { results := [.lit (.bool false)], args := [d] }
  | _ => none }
def FnBackCountsWrongFalsely : Prop := fnBackCountsRow.holds Try.pinned (OpenSpec.ofChange fnBackCountsWrong)

/-- 'laws.FnSameTwice': WHATEVER THE INPUT: true; the input reads as it did. -/
def fnSameTwiceSpec : ChangeSpec := { name := "fnSameTwice", fn := fun _ => fun
  | [d] => { results := [.lit (.bool true)], args := [d] }
  | _ => none }
def fnSameTwiceRow : OpenClaim := { program := "ytaocbiocpklbmaa", sum := "7eadf618ea2f873cd244c475ae602add113eb1aa4bb77c6773b00f21c57950b2", func := "loop.example/urnsandballs/laws.FnSameTwice", spec := "fnSameTwice", unfollowed := true, recurses := true, apart := false }
def FnSameTwiceSaid : Prop := fnSameTwiceRow.holds Try.pinned (OpenSpec.ofChange fnSameTwiceSpec)

/-- ITS FALSE NEIGHBOUR: 'it returns false'. Refute it at one input. -/
def fnSameTwiceWrong : ChangeSpec := { name := "fnSameTwice", fn := fun _ => fun
  | [d] => { results := [.lit (.bool false)], args := [d] }
  | _ => none }
def FnSameTwiceWrongFalsely : Prop := fnSameTwiceRow.holds Try.pinned (OpenSpec.ofChange fnSameTwiceWrong)

/-- 'laws.FnExactBackWays': WHATEVER THE INPUT: true; the input reads as it did. -/
def fnExactBackWaysSpec : ChangeSpec := { name := "fnExactBackWays", fn := fun _ => fun
  | [d1, d2] => { results := [.lit (.bool true)], args := [d1, d2] }
  | _ => none }
def fnExactBackWaysRow : OpenClaim := { program := "ytaocbiocpklbmaa", sum := "7eadf618ea2f873cd244c475ae602add113eb1aa4bb77c6773b00f21c57950b2", func := "loop.example/urnsandballs/laws.FnExactBackWays", spec := "fnExactBackWays", apart := false }
def FnExactBackWaysSaid : Prop := fnExactBackWaysRow.holds Try.pinned (OpenSpec.ofChange fnExactBackWaysSpec)

/-- ITS FALSE NEIGHBOUR: 'it returns false'. Refute it at one input. -/
def fnExactBackWaysWrong : ChangeSpec := { name := "fnExactBackWays", fn := fun _ => fun
  | [d1, d2] => { results := [.lit (.bool false)], args := [d1, d2] }
  | _ => none }
def FnExactBackWaysWrongFalsely : Prop := fnExactBackWaysRow.holds Try.pinned (OpenSpec.ofChange fnExactBackWaysWrong)

/-- 'laws.FnExactBackAll': WHATEVER THE INPUT: true; the input reads as it did. -/
def fnExactBackAllSpec : ChangeSpec := { name := "fnExactBackAll", fn := fun _ => fun
  | [d1, d2] => { results := [.lit (.bool true)], args := [d1, d2] }
  | _ => none }
def fnExactBackAllRow : OpenClaim := { program := "ytaocbiocpklbmaa", sum := "7eadf618ea2f873cd244c475ae602add113eb1aa4bb77c6773b00f21c57950b2", func := "loop.example/urnsandballs/laws.FnExactBackAll", spec := "fnExactBackAll", apart := false }
def FnExactBackAllSaid : Prop := fnExactBackAllRow.holds Try.pinned (OpenSpec.ofChange fnExactBackAllSpec)

/-- ITS FALSE NEIGHBOUR: 'it returns false'. Refute it at one input. -/
def fnExactBackAllWrong : ChangeSpec := { name := "fnExactBackAll", fn := fun _ => fun
  | [d1, d2] => { results := [.lit (.bool false)], args := [d1, d2] }
  | _ => none }
def FnExactBackAllWrongFalsely : Prop := fnExactBackAllRow.holds Try.pinned (OpenSpec.ofChange fnExactBackAllWrong)

/-- 'laws.FnExactBackCounts': WHATEVER THE INPUT: true; the input reads as it did. -/
def fnExactBackCountsSpec : ChangeSpec := { name := "fnExactBackCounts", fn := fun _ => fun
  | [d1, d2] => { results := [.lit (.bool true)], args := [d1, d2] }
  | _ => none }
def fnExactBackCountsRow : OpenClaim := { program := "ytaocbiocpklbmaa", sum := "7eadf618ea2f873cd244c475ae602add113eb1aa4bb77c6773b00f21c57950b2", func := "loop.example/urnsandballs/laws.FnExactBackCounts", spec := "fnExactBackCounts", unfollowed := true, recurses := true, apart := false }
def FnExactBackCountsSaid : Prop := fnExactBackCountsRow.holds Try.pinned (OpenSpec.ofChange fnExactBackCountsSpec)

/-- ITS FALSE NEIGHBOUR: 'it returns false'. Refute it at one input. -/
def fnExactBackCountsWrong : ChangeSpec := { name := "fnExactBackCounts", fn := fun _ => fun
  | [d1, d2] => { results := [.lit (.bool false)], args := [d1, d2] }
  | _ => none }
def FnExactBackCountsWrongFalsely : Prop := fnExactBackCountsRow.holds Try.pinned (OpenSpec.ofChange fnExactBackCountsWrong)

/-- 'laws.FnExactSameTwice': WHATEVER THE INPUT: true; the input reads as it did. -/
def fnExactSameTwiceSpec : ChangeSpec := { name := "fnExactSameTwice", fn := fun _ => fun
  | [d] => { results := [.lit (.bool true)], args := [d] }
  | _ => none }
def fnExactSameTwiceRow : OpenClaim := { program := "ytaocbiocpklbmaa", sum := "7eadf618ea2f873cd244c475ae602add113eb1aa4bb77c6773b00f21c57950b2", func := "loop.example/urnsandballs/laws.FnExactSameTwice", spec := "fnExactSameTwice", unfollowed := true, recurses := true, apart := false }
def FnExactSameTwiceSaid : Prop := fnExactSameTwiceRow.holds Try.pinned (OpenSpec.ofChange fnExactSameTwiceSpec)

/-- ITS FALSE NEIGHBOUR: 'it returns false'. Refute it at one input. -/
def fnExactSameTwiceWrong : ChangeSpec := { name := "fnExactSameTwice", fn := fun _ => fun
  | [d] => { results := [.lit (.bool false)], args := [d] }
  | _ => none }
def FnExactSameTwiceWrongFalsely : Prop := fnExactSameTwiceRow.holds Try.pinned (OpenSpec.ofChange fnExactSameTwiceWrong)

/- THE SECOND FORM. 'bulk': how many values and letters a reading holds, each counted each time it is reached (what is shared counts as often as it is met; a slice's spare places count too). A statement '..UptoSaid' is the law's where the arguments, and the package variables that the reading takes, are together of bulk at most 1048576: NARROWER than '..Said'. Prove '..Said' where nothing that the law and all that it calls make is longer than what came in: it says more and counts as full. Else prove '..UptoSaid'. A law counts once. -/
mutual
def uptoBulk {H : Type} : DataW H → Nat
  | .lit (.string bytes) => bytes.length + 1
  | .lit _ => 1
  | .nil => 1
  | .ptr d => uptoBulk d + 1
  | .slice elems spare => uptoBulkAll elems + uptoBulkAll spare + 1
  | .agg parts => uptoBulkAll parts + 1
  | .iface _ d => uptoBulk d + 1
  | .map entries => uptoBulkEntries entries + 1
  | .held _ => 1
def uptoBulkAll {H : Type} : List (DataW H) → Nat
  | [] => 0
  | d :: r => uptoBulk d + uptoBulkAll r
def uptoBulkEntries {H : Type} : List (Lit × DataW H) → Nat
  | [] => 0
  | x :: r => uptoBulkEntry x + uptoBulkEntries r
def uptoBulkEntry {H : Type} : Lit × DataW H → Nat
  | (.string bytes, d) => bytes.length + uptoBulk d + 1
  | (_, d) => uptoBulk d + 1
 end
def uptoSmall : (H : Type) → List (DataW H) → Bool := fun _ ds => decide (uptoBulkAll ds ≤ 1048576)
def OpenSpec.upto (s : _root_.Go.ChangeSpec) : _root_.Go.OpenSpec := { _root_.Go.OpenSpec.ofChange s with cond := some uptoSmall }

/-- 'laws.FnBackWays', WHERE WHAT IT READS IS OF BULK AT MOST 1048576: true; the input reads as it did. -/
def fnBackWaysUptoRow : OpenClaim := { program := "ytaocbiocpklbmaa", sum := "7eadf618ea2f873cd244c475ae602add113eb1aa4bb77c6773b00f21c57950b2", func := "loop.example/urnsandballs/laws.FnBackWays", spec := "fnBackWays", apart := false, narrowed := true }
def FnBackWaysUptoSaid : Prop := fnBackWaysUptoRow.holds Try.pinned (OpenSpec.upto fnBackWaysSpec)

/-- 'laws.FnBackAll', WHERE WHAT IT READS IS OF BULK AT MOST 1048576: true; the input reads as it did. -/
def fnBackAllUptoRow : OpenClaim := { program := "ytaocbiocpklbmaa", sum := "7eadf618ea2f873cd244c475ae602add113eb1aa4bb77c6773b00f21c57950b2", func := "loop.example/urnsandballs/laws.FnBackAll", spec := "fnBackAll", apart := false, narrowed := true }
def FnBackAllUptoSaid : Prop := fnBackAllUptoRow.holds Try.pinned (OpenSpec.upto fnBackAllSpec)

/-- 'laws.FnBackCounts', WHERE WHAT IT READS IS OF BULK AT MOST 1048576: true; the input reads as it did. -/
def fnBackCountsUptoRow : OpenClaim := { program := "ytaocbiocpklbmaa", sum := "7eadf618ea2f873cd244c475ae602add113eb1aa4bb77c6773b00f21c57950b2", func := "loop.example/urnsandballs/laws.FnBackCounts", spec := "fnBackCounts", unfollowed := true, recurses := true, apart := false, narrowed := true }
def FnBackCountsUptoSaid : Prop := fnBackCountsUptoRow.holds Try.pinned (OpenSpec.upto fnBackCountsSpec)

/-- 'laws.FnSameTwice', WHERE WHAT IT READS IS OF BULK AT MOST 1048576: true; the input reads as it did. -/
def fnSameTwiceUptoRow : OpenClaim := { program := "ytaocbiocpklbmaa", sum := "7eadf618ea2f873cd244c475ae602add113eb1aa4bb77c6773b00f21c57950b2", func := "loop.example/urnsandballs/laws.FnSameTwice", spec := "fnSameTwice", unfollowed := true, recurses := true, apart := false, narrowed := true }
def FnSameTwiceUptoSaid : Prop := fnSameTwiceUptoRow.holds Try.pinned (OpenSpec.upto fnSameTwiceSpec)

/-- 'laws.FnExactBackWays', WHERE WHAT IT READS IS OF BULK AT MOST 1048576: true; the input reads as it did. -/
def fnExactBackWaysUptoRow : OpenClaim := { program := "ytaocbiocpklbmaa", sum := "7eadf618ea2f873cd244c475ae602add113eb1aa4bb77c6773b00f21c57950b2", func := "loop.example/urnsandballs/laws.FnExactBackWays", spec := "fnExactBackWays", apart := false, narrowed := true }
def FnExactBackWaysUptoSaid : Prop := fnExactBackWaysUptoRow.holds Try.pinned (OpenSpec.upto fnExactBackWaysSpec)

/-- 'laws.FnExactBackAll', WHERE WHAT IT READS IS OF BULK AT MOST 1048576: true; the input reads as it did. -/
def fnExactBackAllUptoRow : OpenClaim := { program := "ytaocbiocpklbmaa", sum := "7eadf618ea2f873cd244c475ae602add113eb1aa4bb77c6773b00f21c57950b2", func := "loop.example/urnsandballs/laws.FnExactBackAll", spec := "fnExactBackAll", apart := false, narrowed := true }
def FnExactBackAllUptoSaid : Prop := fnExactBackAllUptoRow.holds Try.pinned (OpenSpec.upto fnExactBackAllSpec)

/-- 'laws.FnExactBackCounts', WHERE WHAT IT READS IS OF BULK AT MOST 1048576: true; the input reads as it did. -/
def fnExactBackCountsUptoRow : OpenClaim := { program := "ytaocbiocpklbmaa", sum := "7eadf618ea2f873cd244c475ae602add113eb1aa4bb77c6773b00f21c57950b2", func := "loop.example/urnsandballs/laws.FnExactBackCounts", spec := "fnExactBackCounts", unfollowed := true, recurses := true, apart := false, narrowed := true }
def FnExactBackCountsUptoSaid : Prop := fnExactBackCountsUptoRow.holds Try.pinned (OpenSpec.upto fnExactBackCountsSpec)

/-- 'laws.FnExactSameTwice', WHERE WHAT IT READS IS OF BULK AT MOST 1048576: true; the input reads as it did. -/
def fnExactSameTwiceUptoRow : OpenClaim := { program := "ytaocbiocpklbmaa", sum := "7eadf618ea2f873cd244c475ae602add113eb1aa4bb77c6773b00f21c57950b2", func := "loop.example/urnsandballs/laws.FnExactSameTwice", spec := "fnExactSameTwice", unfollowed := true, recurses := true, apart := false, narrowed := true }
def FnExactSameTwiceUptoSaid : Prop := fnExactSameTwiceUptoRow.holds Try.pinned (OpenSpec.upto fnExactSameTwiceSpec)

end Rows
end Go.Proofs.Ytaocbiocpklbmaa
