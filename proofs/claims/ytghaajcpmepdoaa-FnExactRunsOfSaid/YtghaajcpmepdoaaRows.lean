/-
  No cell of these rows narrows 'for every input' (looked for: loops, veiled, ifaces, maps, wideKeys, modest, calm, conditions, laid).
  DERIVED. THE GIVEN ROWS OF THIS SEAT. 8 by the template 'for every input the law returns true; each argument reads behind the call as it read before'; 0 by the template 'total and deterministic' (their statements: YtghaajcpmepdoaaTotals.lean).
  GIVEN WITH THE SEED: the statements are not yours to turn. If you find one false, say at which input.
  Laid BY PROGRAM, IN A SANDBOX (cutbox-rows.mjs): the forced cells as the released guide's own fill.sh prints them over the translation 7ac2330bc8d497f4… (all of the seat's roots in one cut). By AI agents, Wed Nov 11 2026. No macro, syntax, notation, axiom, sorry.
-/
import Derived.Test.YtghaajcpmepdoaaChecked
import GoSem.Claim
import GoSem.ClaimJoined
import GoSem.ClaimMapViews
import Derived.JoinedTies
import Derived.KernelRfl
namespace Go.Proofs.Ytghaajcpmepdoaa
/- THE CELL 'sum', in the pinned program and in every row, IS THE sha256 OF THE DUMP (.gsa) THAT YtghaajcpmepdoaaProg.lean LOADS. Nothing in Lean hashes anything: it is a label: what it is worth is what the hold of that sum in a sandbox is worth. -/
noncomputable def Try.pinned : Pinned := { name := "ytghaajcpmepdoaa", sum := "7ac2330bc8d497f41082cdb87082c7e3310c327c9b611414385c801efdbf12e2", checked := Try.checked }
namespace Rows
def none {H : Type} : Left H := { results := [], args := [] }

/-- 'laws.FnRunsOf': WHATEVER THE INPUT: true; the input reads as it did. -/
def fnRunsOfSpec : ChangeSpec := { name := "fnRunsOf", fn := fun _ => fun
  | [d] => { results := [.lit (.bool true)], args := [d] }
  | _ => none }
def fnRunsOfRow : OpenClaim := { program := "ytghaajcpmepdoaa", sum := "7ac2330bc8d497f41082cdb87082c7e3310c327c9b611414385c801efdbf12e2", func := "loop.example/urnsandballs/laws.FnRunsOf", spec := "fnRunsOf", unfollowed := true, recurses := true, apart := false }
def FnRunsOfSaid : Prop := fnRunsOfRow.holds Try.pinned (OpenSpec.ofChange fnRunsOfSpec)

/-- ITS FALSE NEIGHBOUR: 'it returns false'. Refute it at one input. -/
def fnRunsOfWrong : ChangeSpec := { name := "fnRunsOf", fn := fun _ => fun
  | [d] => { results := [.lit (.bool false)], args := [d] }
  | _ => none }
def FnRunsOfWrongFalsely : Prop := fnRunsOfRow.holds Try.pinned (OpenSpec.ofChange fnRunsOfWrong)

/-- 'laws.FnExactRunsOf': WHATEVER THE INPUT: true; the input reads as it did. -/
def fnExactRunsOfSpec : ChangeSpec := { name := "fnExactRunsOf", fn := fun _ => fun
  | [d1, d2] => { results := [.lit (.bool true)], args := [d1, d2] }
  | _ => none }
def fnExactRunsOfRow : OpenClaim := { program := "ytghaajcpmepdoaa", sum := "7ac2330bc8d497f41082cdb87082c7e3310c327c9b611414385c801efdbf12e2", func := "loop.example/urnsandballs/laws.FnExactRunsOf", spec := "fnExactRunsOf", unfollowed := true, recurses := true, apart := false }
def FnExactRunsOfSaid : Prop := fnExactRunsOfRow.holds Try.pinned (OpenSpec.ofChange fnExactRunsOfSpec)

/-- ITS FALSE NEIGHBOUR: 'it returns false'. Refute it at one input. -/
def fnExactRunsOfWrong : ChangeSpec := { name := "fnExactRunsOf", fn := fun _ => fun
  | [d1, d2] => { results := [.lit (.bool false)], args := [d1, d2] }
  | _ => none }
def FnExactRunsOfWrongFalsely : Prop := fnExactRunsOfRow.holds Try.pinned (OpenSpec.ofChange fnExactRunsOfWrong)

/-- 'laws.FnLongestRun': WHATEVER THE INPUT: true; the input reads as it did. -/
def fnLongestRunSpec : ChangeSpec := { name := "fnLongestRun", fn := fun _ => fun
  | [d] => { results := [.lit (.bool true)], args := [d] }
  | _ => none }
def fnLongestRunRow : OpenClaim := { program := "ytghaajcpmepdoaa", sum := "7ac2330bc8d497f41082cdb87082c7e3310c327c9b611414385c801efdbf12e2", func := "loop.example/urnsandballs/laws.FnLongestRun", spec := "fnLongestRun", unfollowed := true, recurses := true, apart := false }
def FnLongestRunSaid : Prop := fnLongestRunRow.holds Try.pinned (OpenSpec.ofChange fnLongestRunSpec)

/-- ITS FALSE NEIGHBOUR: 'it returns false'. Refute it at one input. -/
def fnLongestRunWrong : ChangeSpec := { name := "fnLongestRun", fn := fun _ => fun
  | [d] => { results := [.lit (.bool false)], args := [d] }
  | _ => none }
def FnLongestRunWrongFalsely : Prop := fnLongestRunRow.holds Try.pinned (OpenSpec.ofChange fnLongestRunWrong)

/-- 'laws.FnExactLongestRun': WHATEVER THE INPUT: true; the input reads as it did. -/
def fnExactLongestRunSpec : ChangeSpec := { name := "fnExactLongestRun", fn := fun _ => fun
  | [d1, d2] => { results := [.lit (.bool true)], args := [d1, d2] }
  | _ => none }
def fnExactLongestRunRow : OpenClaim := { program := "ytghaajcpmepdoaa", sum := "7ac2330bc8d497f41082cdb87082c7e3310c327c9b611414385c801efdbf12e2", func := "loop.example/urnsandballs/laws.FnExactLongestRun", spec := "fnExactLongestRun", unfollowed := true, recurses := true, apart := false }
def FnExactLongestRunSaid : Prop := fnExactLongestRunRow.holds Try.pinned (OpenSpec.ofChange fnExactLongestRunSpec)

/-- ITS FALSE NEIGHBOUR: 'it returns false'. Refute it at one input. -/
def fnExactLongestRunWrong : ChangeSpec := { name := "fnExactLongestRun", fn := fun _ => fun
  | [d1, d2] => { results := [.lit (.bool false)], args := [d1, d2] }
  | _ => none }
def FnExactLongestRunWrongFalsely : Prop := fnExactLongestRunRow.holds Try.pinned (OpenSpec.ofChange fnExactLongestRunWrong)

/-- 'laws.FnRunWords': WHATEVER THE INPUT: true; the input reads as it did. -/
def fnRunWordsSpec : ChangeSpec := { name := "fnRunWords", fn := fun _ => fun
  | [d] => { results := [.lit (.bool true)], args := [d] }
  | _ => none }
def fnRunWordsRow : OpenClaim := { program := "ytghaajcpmepdoaa", sum := "7ac2330bc8d497f41082cdb87082c7e3310c327c9b611414385c801efdbf12e2", func := "loop.example/urnsandballs/laws.FnRunWords", spec := "fnRunWords", unfollowed := true, recurses := true, apart := false }
def FnRunWordsSaid : Prop := fnRunWordsRow.holds Try.pinned (OpenSpec.ofChange fnRunWordsSpec)

/-- ITS FALSE NEIGHBOUR: 'it returns false'. Refute it at one input. -/
def fnRunWordsWrong : ChangeSpec := { name := "fnRunWords", fn := fun _ => fun
  | [d] => { results := [.lit (.bool false)], args := [d] }
  | _ => none }
def FnRunWordsWrongFalsely : Prop := fnRunWordsRow.holds Try.pinned (OpenSpec.ofChange fnRunWordsWrong)

/-- 'laws.FnExactRunWords': WHATEVER THE INPUT: true; the input reads as it did. -/
def fnExactRunWordsSpec : ChangeSpec := { name := "fnExactRunWords", fn := fun _ => fun
  | [d1, d2, d3] => { results := [.lit (.bool true)], args := [d1, d2, d3] }
  | _ => none }
def fnExactRunWordsRow : OpenClaim := { program := "ytghaajcpmepdoaa", sum := "7ac2330bc8d497f41082cdb87082c7e3310c327c9b611414385c801efdbf12e2", func := "loop.example/urnsandballs/laws.FnExactRunWords", spec := "fnExactRunWords", unfollowed := true, recurses := true, apart := false }
def FnExactRunWordsSaid : Prop := fnExactRunWordsRow.holds Try.pinned (OpenSpec.ofChange fnExactRunWordsSpec)

/-- ITS FALSE NEIGHBOUR: 'it returns false'. Refute it at one input. -/
def fnExactRunWordsWrong : ChangeSpec := { name := "fnExactRunWords", fn := fun _ => fun
  | [d1, d2, d3] => { results := [.lit (.bool false)], args := [d1, d2, d3] }
  | _ => none }
def FnExactRunWordsWrongFalsely : Prop := fnExactRunWordsRow.holds Try.pinned (OpenSpec.ofChange fnExactRunWordsWrong)

/-- 'laws.FnRunSum': WHATEVER THE INPUT: true; the input reads as it did. -/
def fnRunSumSpec : ChangeSpec := { name := "fnRunSum", fn := fun _ => fun
  | [d] => { results := [.lit (.bool true)], args := [d] }
  | _ => none }
def fnRunSumRow : OpenClaim := { program := "ytghaajcpmepdoaa", sum := "7ac2330bc8d497f41082cdb87082c7e3310c327c9b611414385c801efdbf12e2", func := "loop.example/urnsandballs/laws.FnRunSum", spec := "fnRunSum", unfollowed := true, recurses := true, apart := false }
def FnRunSumSaid : Prop := fnRunSumRow.holds Try.pinned (OpenSpec.ofChange fnRunSumSpec)

/-- ITS FALSE NEIGHBOUR: 'it returns false'. Refute it at one input. -/
def fnRunSumWrong : ChangeSpec := { name := "fnRunSum", fn := fun _ => fun
  | [d] => { results := [.lit (.bool false)], args := [d] }
  | _ => none }
def FnRunSumWrongFalsely : Prop := fnRunSumRow.holds Try.pinned (OpenSpec.ofChange fnRunSumWrong)

/-- 'laws.FnExactRunSum': WHATEVER THE INPUT: true; the input reads as it did. -/
def fnExactRunSumSpec : ChangeSpec := { name := "fnExactRunSum", fn := fun _ => fun
  | [d1, d2] => { results := [.lit (.bool true)], args := [d1, d2] }
  | _ => none }
def fnExactRunSumRow : OpenClaim := { program := "ytghaajcpmepdoaa", sum := "7ac2330bc8d497f41082cdb87082c7e3310c327c9b611414385c801efdbf12e2", func := "loop.example/urnsandballs/laws.FnExactRunSum", spec := "fnExactRunSum", unfollowed := true, recurses := true, apart := false }
def FnExactRunSumSaid : Prop := fnExactRunSumRow.holds Try.pinned (OpenSpec.ofChange fnExactRunSumSpec)

/-- ITS FALSE NEIGHBOUR: 'it returns false'. Refute it at one input. -/
def fnExactRunSumWrong : ChangeSpec := { name := "fnExactRunSum", fn := fun _ => fun
  | [d1, d2] => { results := [.lit (.bool false)], args := [d1, d2] }
  | _ => none }
def FnExactRunSumWrongFalsely : Prop := fnExactRunSumRow.holds Try.pinned (OpenSpec.ofChange fnExactRunSumWrong)

/- THE SECOND FORM. 'bulk': how many values and letters a reading holds, each counted each time it is reached (what is shared counts as often as it is met; a slice's spare places count too). A statement '..UptoSaid' is the law's where the arguments, and the package variables that the reading takes, are together of bulk at most 1048576: NARROWER than '..Said'. Prove '..Said' where nothing that the law and all that it calls make is longer than what came in: it says more and counts as full. Else prove '..UptoSaid'. A law counts once. -/
mutual
def uptoBulk {H : Type} : DataW H → Nat
  | .lit (.string bytes) => bytes.length + 1
  | .lit _ => 1
  | .nil => 1
  | .ptr d => uptoBulk d + 1
  | .slice elems spare => uptoBulkAll elems + uptoBulkAll spare + 1
  | .agg parts => uptoBulkAll parts + 1
  | .iface _ d => uptoBulk d + 1
  | .map entries => uptoBulkEntries entries + 1
  | .held _ => 1
def uptoBulkAll {H : Type} : List (DataW H) → Nat
  | [] => 0
  | d :: r => uptoBulk d + uptoBulkAll r
def uptoBulkEntries {H : Type} : List (Lit × DataW H) → Nat
  | [] => 0
  | x :: r => uptoBulkEntry x + uptoBulkEntries r
def uptoBulkEntry {H : Type} : Lit × DataW H → Nat
  | (.string bytes, d) => bytes.length + uptoBulk d + 1
  | (_, d) => uptoBulk d + 1
 end
def uptoSmall : (H : Type) → List (DataW H) → Bool := fun _ ds => decide (uptoBulkAll ds ≤ 1048576)
def OpenSpec.upto (s : _root_.Go.ChangeSpec) : _root_.Go.OpenSpec := { _root_.Go.OpenSpec.ofChange s with cond := some uptoSmall }

/-- 'laws.FnRunsOf', WHERE WHAT IT READS IS OF BULK AT MOST 1048576: true; the input reads as it did. -/
def fnRunsOfUptoRow : OpenClaim := { program := "ytghaajcpmepdoaa", sum := "7ac2330bc8d497f41082cdb87082c7e3310c327c9b611414385c801efdbf12e2", func := "loop.example/urnsandballs/laws.FnRunsOf", spec := "fnRunsOf", unfollowed := true, recurses := true, apart := false, narrowed := true }
def FnRunsOfUptoSaid : Prop := fnRunsOfUptoRow.holds Try.pinned (OpenSpec.upto fnRunsOfSpec)

/-- 'laws.FnExactRunsOf', WHERE WHAT IT READS IS OF BULK AT MOST 1048576: true; the input reads as it did. -/
def fnExactRunsOfUptoRow : OpenClaim := { program := "ytghaajcpmepdoaa", sum := "7ac2330bc8d497f41082cdb87082c7e3310c327c9b611414385c801efdbf12e2", func := "loop.example/urnsandballs/laws.FnExactRunsOf", spec := "fnExactRunsOf", unfollowed := true, recurses := true, apart := false, narrowed := true }
def FnExactRunsOfUptoSaid : Prop := fnExactRunsOfUptoRow.holds Try.pinned (OpenSpec.upto fnExactRunsOfSpec)

/-- 'laws.FnLongestRun', WHERE WHAT IT READS IS OF BULK AT MOST 1048576: true; the input reads as it did. -/
def fnLongestRunUptoRow : OpenClaim := { program := "ytghaajcpmepdoaa", sum := "7ac2330bc8d497f41082cdb87082c7e3310c327c9b611414385c801efdbf12e2", func := "loop.example/urnsandballs/laws.FnLongestRun", spec := "fnLongestRun", unfollowed := true, recurses := true, apart := false, narrowed := true }
def FnLongestRunUptoSaid : Prop := fnLongestRunUptoRow.holds Try.pinned (OpenSpec.upto fnLongestRunSpec)

/-- 'laws.FnExactLongestRun', WHERE WHAT IT READS IS OF BULK AT MOST 1048576: true; the input reads as it did. -/
def fnExactLongestRunUptoRow : OpenClaim := { program := "ytghaajcpmepdoaa", sum := "7ac2330bc8d497f41082cdb87082c7e3310c327c9b611414385c801efdbf12e2", func := "loop.example/urnsandballs/laws.FnExactLongestRun", spec := "fnExactLongestRun", unfollowed := true, recurses := true, apart := false, narrowed := true }
def FnExactLongestRunUptoSaid : Prop := fnExactLongestRunUptoRow.holds Try.pinned (OpenSpec.upto fnExactLongestRunSpec)

/-- 'laws.FnRunWords', WHERE WHAT IT READS IS OF BULK AT MOST 1048576: true; the input reads as it did. -/
def fnRunWordsUptoRow : OpenClaim := { program := "ytghaajcpmepdoaa", sum := "7ac2330bc8d497f41082cdb87082c7e3310c327c9b611414385c801efdbf12e2", func := "loop.example/urnsandballs/laws.FnRunWords", spec := "fnRunWords", unfollowed := true, recurses := true, apart := false, narrowed := true }
def FnRunWordsUptoSaid : Prop := fnRunWordsUptoRow.holds Try.pinned (OpenSpec.upto fnRunWordsSpec)

/-- 'laws.FnExactRunWords', WHERE WHAT IT READS IS OF BULK AT MOST 1048576: true; the input reads as it did. -/
def fnExactRunWordsUptoRow : OpenClaim := { program := "ytghaajcpmepdoaa", sum := "7ac2330bc8d497f41082cdb87082c7e3310c327c9b611414385c801efdbf12e2", func := "loop.example/urnsandballs/laws.FnExactRunWords", spec := "fnExactRunWords", unfollowed := true, recurses := true, apart := false, narrowed := true }
def FnExactRunWordsUptoSaid : Prop := fnExactRunWordsUptoRow.holds Try.pinned (OpenSpec.upto fnExactRunWordsSpec)

/-- 'laws.FnRunSum', WHERE WHAT IT READS IS OF BULK AT MOST 1048576: true; the input reads as it did. -/
def fnRunSumUptoRow : OpenClaim := { program := "ytghaajcpmepdoaa", sum := "7ac2330bc8d497f41082cdb87082c7e3310c327c9b611414385c801efdbf12e2", func := "loop.example/urnsandballs/laws.FnRunSum", spec := "fnRunSum", unfollowed := true, recurses := true, apart := false, narrowed := true }
def FnRunSumUptoSaid : Prop := fnRunSumUptoRow.holds Try.pinned (OpenSpec.upto fnRunSumSpec)

/-- 'laws.FnExactRunSum', WHERE WHAT IT READS IS OF BULK AT MOST 1048576: true; the input reads as it did. -/
def fnExactRunSumUptoRow : OpenClaim := { program := "ytghaajcpmepdoaa", sum := "7ac2330bc8d497f41082cdb87082c7e3310c327c9b611414385c801efdbf12e2", func := "loop.example/urnsandballs/laws.FnExactRunSum", spec := "fnExactRunSum", unfollowed := true, recurses := true, apart := false, narrowed := true }
def FnExactRunSumUptoSaid : Prop := fnExactRunSumUptoRow.holds Try.pinned (OpenSpec.upto fnExactRunSumSpec)

end Rows
end Go.Proofs.Ytghaajcpmepdoaa
