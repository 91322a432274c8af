/-
  No cell of these rows narrows 'for every input' (looked for: loops, veiled, ifaces, maps, wideKeys, modest, calm, conditions, laid).
  DERIVED. THE GIVEN ROWS OF THIS SEAT. 9 by the template 'for every input the law returns true; each argument reads behind the call as it read before'; 0 by the template 'total and deterministic' (their statements: YtfencbfjnifmjaaTotals.lean).
  GIVEN WITH THE SEED: the statements are not yours to turn. If you find one false, say at which input.
  Laid BY PROGRAM, IN A SANDBOX (cutbox-rows.mjs): the forced cells as the released guide's own fill.sh prints them over the translation 86b95030078fadf4… (all of the seat's roots in one cut). By AI agents, Wed Nov 11 2026. No macro, syntax, notation, axiom, sorry.
-/
import Derived.Test.YtfencbfjnifmjaaChecked
import GoSem.Claim
import GoSem.ClaimJoined
import GoSem.ClaimMapViews
import Derived.JoinedTies
import Derived.KernelRfl
namespace Go.Proofs.Ytfencbfjnifmjaa
/- THE CELL 'sum', in the pinned program and in every row, IS THE sha256 OF THE DUMP (.gsa) THAT YtfencbfjnifmjaaProg.lean LOADS. Nothing in Lean hashes anything: it is a label: what it is worth is what the hold of that sum in a sandbox is worth. -/
noncomputable def Try.pinned : Pinned := { name := "ytfencbfjnifmjaa", sum := "86b95030078fadf40c413f25ccc4452ab162951820a7b85d1e295c01c9be923d", checked := Try.checked }
namespace Rows
def none {H : Type} : Left H := { results := [], args := [] }

/-- 'laws.FnFullWays': WHATEVER THE INPUT: true; the input reads as it did. -/
def fnFullWaysSpec : ChangeSpec := { name := "fnFullWays", fn := fun _ => fun
  | [d] => { results := [.lit (.bool true)], args := [d] }
  | _ => none }
def fnFullWaysRow : OpenClaim := { program := "ytfencbfjnifmjaa", sum := "86b95030078fadf40c413f25ccc4452ab162951820a7b85d1e295c01c9be923d", func := "loop.example/urnsandballs/laws.FnFullWays", spec := "fnFullWays", unfollowed := true, recurses := true, apart := false }
def FnFullWaysSaid : Prop := fnFullWaysRow.holds Try.pinned (OpenSpec.ofChange fnFullWaysSpec)

/-- ITS FALSE NEIGHBOUR: 'it returns false'. Refute it at one input. -/
def fnFullWaysWrong : ChangeSpec := { name := "fnFullWays", fn := fun _ => fun
  | [d] => { results := [.lit (.bool false)], args := [d] }
  | _ => none }
def FnFullWaysWrongFalsely : Prop := fnFullWaysRow.holds Try.pinned (OpenSpec.ofChange fnFullWaysWrong)

/-- 'laws.FnEmptyWays': WHATEVER THE INPUT: true; the input reads as it did. -/
def fnEmptyWaysSpec : ChangeSpec := { name := "fnEmptyWays", fn := fun _ => fun
  | [d] => { results := [.lit (.bool true)], args := [d] }
  | _ => none }
def fnEmptyWaysRow : OpenClaim := { program := "ytfencbfjnifmjaa", sum := "86b95030078fadf40c413f25ccc4452ab162951820a7b85d1e295c01c9be923d", func := "loop.example/urnsandballs/laws.FnEmptyWays", spec := "fnEmptyWays", unfollowed := true, recurses := true, apart := false }
def FnEmptyWaysSaid : Prop := fnEmptyWaysRow.holds Try.pinned (OpenSpec.ofChange fnEmptyWaysSpec)

/-- ITS FALSE NEIGHBOUR: 'it returns false'. Refute it at one input. -/
def fnEmptyWaysWrong : ChangeSpec := { name := "fnEmptyWays", fn := fun _ => fun
  | [d] => { results := [.lit (.bool false)], args := [d] }
  | _ => none }
def FnEmptyWaysWrongFalsely : Prop := fnEmptyWaysRow.holds Try.pinned (OpenSpec.ofChange fnEmptyWaysWrong)

/-- 'laws.FnApartWays': WHATEVER THE INPUT: true; the input reads as it did. -/
def fnApartWaysSpec : ChangeSpec := { name := "fnApartWays", fn := fun _ => fun
  | [d] => { results := [.lit (.bool true)], args := [d] }
  | _ => none }
def fnApartWaysRow : OpenClaim := { program := "ytfencbfjnifmjaa", sum := "86b95030078fadf40c413f25ccc4452ab162951820a7b85d1e295c01c9be923d", func := "loop.example/urnsandballs/laws.FnApartWays", spec := "fnApartWays", unfollowed := true, recurses := true, apart := false }
def FnApartWaysSaid : Prop := fnApartWaysRow.holds Try.pinned (OpenSpec.ofChange fnApartWaysSpec)

/-- ITS FALSE NEIGHBOUR: 'it returns false'. Refute it at one input. -/
def fnApartWaysWrong : ChangeSpec := { name := "fnApartWays", fn := fun _ => fun
  | [d] => { results := [.lit (.bool false)], args := [d] }
  | _ => none }
def FnApartWaysWrongFalsely : Prop := fnApartWaysRow.holds Try.pinned (OpenSpec.ofChange fnApartWaysWrong)

/-- 'laws.FnGroupsOf': WHATEVER THE INPUT: true; the input reads as it did. -/
def fnGroupsOfSpec : ChangeSpec := { name := "fnGroupsOf", fn := fun _ => fun
  | [d] => { results := [.lit (.bool true)], args := [d] }
  | _ => none }
def fnGroupsOfRow : OpenClaim := { program := "ytfencbfjnifmjaa", sum := "86b95030078fadf40c413f25ccc4452ab162951820a7b85d1e295c01c9be923d", func := "loop.example/urnsandballs/laws.FnGroupsOf", spec := "fnGroupsOf", recurses := true, apart := false }
def FnGroupsOfSaid : Prop := fnGroupsOfRow.holds Try.pinned (OpenSpec.ofChange fnGroupsOfSpec)

/-- ITS FALSE NEIGHBOUR: 'it returns false'. Refute it at one input. -/
def fnGroupsOfWrong : ChangeSpec := { name := "fnGroupsOf", fn := fun _ => fun
  | [d] => { results := [.lit (.bool false)], args := [d] }
  | _ => none }
def FnGroupsOfWrongFalsely : Prop := fnGroupsOfRow.holds Try.pinned (OpenSpec.ofChange fnGroupsOfWrong)

/-- 'laws.FnWaitWays': WHATEVER THE INPUT: true; the input reads as it did. -/
def fnWaitWaysSpec : ChangeSpec := { name := "fnWaitWays", fn := fun _ => fun
  | [d] => { results := [.lit (.bool true)], args := [d] }
  | _ => none }
def fnWaitWaysRow : OpenClaim := { program := "ytfencbfjnifmjaa", sum := "86b95030078fadf40c413f25ccc4452ab162951820a7b85d1e295c01c9be923d", func := "loop.example/urnsandballs/laws.FnWaitWays", spec := "fnWaitWays", unfollowed := true, recurses := true, apart := false }
def FnWaitWaysSaid : Prop := fnWaitWaysRow.holds Try.pinned (OpenSpec.ofChange fnWaitWaysSpec)

/-- ITS FALSE NEIGHBOUR: 'it returns false'. Refute it at one input. -/
def fnWaitWaysWrong : ChangeSpec := { name := "fnWaitWays", fn := fun _ => fun
  | [d] => { results := [.lit (.bool false)], args := [d] }
  | _ => none }
def FnWaitWaysWrongFalsely : Prop := fnWaitWaysRow.holds Try.pinned (OpenSpec.ofChange fnWaitWaysWrong)

/-- 'laws.FnWaitSum': WHATEVER THE INPUT: true; the input reads as it did. -/
def fnWaitSumSpec : ChangeSpec := { name := "fnWaitSum", fn := fun _ => fun
  | [d] => { results := [.lit (.bool true)], args := [d] }
  | _ => none }
def fnWaitSumRow : OpenClaim := { program := "ytfencbfjnifmjaa", sum := "86b95030078fadf40c413f25ccc4452ab162951820a7b85d1e295c01c9be923d", func := "loop.example/urnsandballs/laws.FnWaitSum", spec := "fnWaitSum", unfollowed := true, recurses := true, apart := false }
def FnWaitSumSaid : Prop := fnWaitSumRow.holds Try.pinned (OpenSpec.ofChange fnWaitSumSpec)

/-- ITS FALSE NEIGHBOUR: 'it returns false'. Refute it at one input. -/
def fnWaitSumWrong : ChangeSpec := { name := "fnWaitSum", fn := fun _ => fun
  | [d] => { results := [.lit (.bool false)], args := [d] }
  | _ => none }
def FnWaitSumWrongFalsely : Prop := fnWaitSumRow.holds Try.pinned (OpenSpec.ofChange fnWaitSumWrong)

/-- 'laws.FnGroupsPower': WHATEVER THE INPUT: true; the input reads as it did. -/
def fnGroupsPowerSpec : ChangeSpec := { name := "fnGroupsPower", fn := fun _ => fun
  | [d] => { results := [.lit (.bool true)], args := [d] }
  | _ => none }
def fnGroupsPowerRow : OpenClaim := { program := "ytfencbfjnifmjaa", sum := "86b95030078fadf40c413f25ccc4452ab162951820a7b85d1e295c01c9be923d", func := "loop.example/urnsandballs/laws.FnGroupsPower", spec := "fnGroupsPower", recurses := true, apart := false }
def FnGroupsPowerSaid : Prop := fnGroupsPowerRow.holds Try.pinned (OpenSpec.ofChange fnGroupsPowerSpec)

/-- ITS FALSE NEIGHBOUR: 'it returns false'. Refute it at one input. -/
def fnGroupsPowerWrong : ChangeSpec := { name := "fnGroupsPower", fn := fun _ => fun
  | [d] => { results := [.lit (.bool false)], args := [d] }
  | _ => none }
def FnGroupsPowerWrongFalsely : Prop := fnGroupsPowerRow.holds Try.pinned (OpenSpec.ofChange fnGroupsPowerWrong)

/-- 'laws.FnPairWays': WHATEVER THE INPUT: true; the input reads as it did. -/
def fnPairWaysSpec : ChangeSpec := { name := "fnPairWays", fn := fun _ => fun
  | [d] => { results := [.lit (.bool true)], args := [d] }
  | _ => none }
def fnPairWaysRow : OpenClaim := { program := "ytfencbfjnifmjaa", sum := "86b95030078fadf40c413f25ccc4452ab162951820a7b85d1e295c01c9be923d", func := "loop.example/urnsandballs/laws.FnPairWays", spec := "fnPairWays", apart := false }
def FnPairWaysSaid : Prop := fnPairWaysRow.holds Try.pinned (OpenSpec.ofChange fnPairWaysSpec)

/-- ITS FALSE NEIGHBOUR: 'it returns false'. Refute it at one input. -/
def fnPairWaysWrong : ChangeSpec := { name := "fnPairWays", fn := fun _ => fun
  | [d] => { results := [.lit (.bool false)], args := [d] }
  | _ => none }
def FnPairWaysWrongFalsely : Prop := fnPairWaysRow.holds Try.pinned (OpenSpec.ofChange fnPairWaysWrong)

/-- 'laws.FnExactFullWays': WHATEVER THE INPUT: true; the input reads as it did. -/
def fnExactFullWaysSpec : ChangeSpec := { name := "fnExactFullWays", fn := fun _ => fun
  | [d1, d2] => { results := [.lit (.bool true)], args := [d1, d2] }
  | _ => none }
def fnExactFullWaysRow : OpenClaim := { program := "ytfencbfjnifmjaa", sum := "86b95030078fadf40c413f25ccc4452ab162951820a7b85d1e295c01c9be923d", func := "loop.example/urnsandballs/laws.FnExactFullWays", spec := "fnExactFullWays", unfollowed := true, recurses := true, apart := false }
def FnExactFullWaysSaid : Prop := fnExactFullWaysRow.holds Try.pinned (OpenSpec.ofChange fnExactFullWaysSpec)

/-- ITS FALSE NEIGHBOUR: 'it returns false'. Refute it at one input. -/
def fnExactFullWaysWrong : ChangeSpec := { name := "fnExactFullWays", fn := fun _ => fun
  | [d1, d2] => { results := [.lit (.bool false)], args := [d1, d2] }
  | _ => none }
def FnExactFullWaysWrongFalsely : Prop := fnExactFullWaysRow.holds Try.pinned (OpenSpec.ofChange fnExactFullWaysWrong)

/- THE SECOND FORM. 'bulk': how many values and letters a reading holds, each counted each time it is reached (what is shared counts as often as it is met; a slice's spare places count too). A statement '..UptoSaid' is the law's where the arguments, and the package variables that the reading takes, are together of bulk at most 1048576: NARROWER than '..Said'. Prove '..Said' where nothing that the law and all that it calls make is longer than what came in: it says more and counts as full. Else prove '..UptoSaid'. A law counts once. -/
mutual
def uptoBulk {H : Type} : DataW H → Nat
  | .lit (.string bytes) => bytes.length + 1
  | .lit _ => 1
  | .nil => 1
  | .ptr d => uptoBulk d + 1
  | .slice elems spare => uptoBulkAll elems + uptoBulkAll spare + 1
  | .agg parts => uptoBulkAll parts + 1
  | .iface _ d => uptoBulk d + 1
  | .map entries => uptoBulkEntries entries + 1
  | .held _ => 1
def uptoBulkAll {H : Type} : List (DataW H) → Nat
  | [] => 0
  | d :: r => uptoBulk d + uptoBulkAll r
def uptoBulkEntries {H : Type} : List (Lit × DataW H) → Nat
  | [] => 0
  | x :: r => uptoBulkEntry x + uptoBulkEntries r
def uptoBulkEntry {H : Type} : Lit × DataW H → Nat
  | (.string bytes, d) => bytes.length + uptoBulk d + 1
  | (_, d) => uptoBulk d + 1
 end
def uptoSmall : (H : Type) → List (DataW H) → Bool := fun _ ds => decide (uptoBulkAll ds ≤ 1048576)
def OpenSpec.upto (s : _root_.Go.ChangeSpec) : _root_.Go.OpenSpec := { _root_.Go.OpenSpec.ofChange s with cond := some uptoSmall }

/-- 'laws.FnFullWays', WHERE WHAT IT READS IS OF BULK AT MOST 1048576: true; the input reads as it did. -/
def fnFullWaysUptoRow : OpenClaim := { program := "ytfencbfjnifmjaa", sum := "86b95030078fadf40c413f25ccc4452ab162951820a7b85d1e295c01c9be923d", func := "loop.example/urnsandballs/laws.FnFullWays", spec := "fnFullWays", unfollowed := true, recurses := true, apart := false, narrowed := true }
def FnFullWaysUptoSaid : Prop := fnFullWaysUptoRow.holds Try.pinned (OpenSpec.upto fnFullWaysSpec)

/-- 'laws.FnEmptyWays', WHERE WHAT IT READS IS OF BULK AT MOST 1048576: true; the input reads as it did. -/
def fnEmptyWaysUptoRow : OpenClaim := { program := "ytfencbfjnifmjaa", sum := "86b95030078fadf40c413f25ccc4452ab162951820a7b85d1e295c01c9be923d", func := "loop.example/urnsandballs/laws.FnEmptyWays", spec := "fnEmptyWays", unfollowed := true, recurses := true, apart := false, narrowed := true }
def FnEmptyWaysUptoSaid : Prop := fnEmptyWaysUptoRow.holds Try.pinned (OpenSpec.upto fnEmptyWaysSpec)

/-- 'laws.FnApartWays', WHERE WHAT IT READS IS OF BULK AT MOST 1048576: true; the input reads as it did. -/
def fnApartWaysUptoRow : OpenClaim := { program := "ytfencbfjnifmjaa", sum := "86b95030078fadf40c413f25ccc4452ab162951820a7b85d1e295c01c9be923d", func := "loop.example/urnsandballs/laws.FnApartWays", spec := "fnApartWays", unfollowed := true, recurses := true, apart := false, narrowed := true }
def FnApartWaysUptoSaid : Prop := fnApartWaysUptoRow.holds Try.pinned (OpenSpec.upto fnApartWaysSpec)

/-- 'laws.FnGroupsOf', WHERE WHAT IT READS IS OF BULK AT MOST 1048576: true; the input reads as it did. -/
def fnGroupsOfUptoRow : OpenClaim := { program := "ytfencbfjnifmjaa", sum := "86b95030078fadf40c413f25ccc4452ab162951820a7b85d1e295c01c9be923d", func := "loop.example/urnsandballs/laws.FnGroupsOf", spec := "fnGroupsOf", recurses := true, apart := false, narrowed := true }
def FnGroupsOfUptoSaid : Prop := fnGroupsOfUptoRow.holds Try.pinned (OpenSpec.upto fnGroupsOfSpec)

/-- 'laws.FnWaitWays', WHERE WHAT IT READS IS OF BULK AT MOST 1048576: true; the input reads as it did. -/
def fnWaitWaysUptoRow : OpenClaim := { program := "ytfencbfjnifmjaa", sum := "86b95030078fadf40c413f25ccc4452ab162951820a7b85d1e295c01c9be923d", func := "loop.example/urnsandballs/laws.FnWaitWays", spec := "fnWaitWays", unfollowed := true, recurses := true, apart := false, narrowed := true }
def FnWaitWaysUptoSaid : Prop := fnWaitWaysUptoRow.holds Try.pinned (OpenSpec.upto fnWaitWaysSpec)

/-- 'laws.FnWaitSum', WHERE WHAT IT READS IS OF BULK AT MOST 1048576: true; the input reads as it did. -/
def fnWaitSumUptoRow : OpenClaim := { program := "ytfencbfjnifmjaa", sum := "86b95030078fadf40c413f25ccc4452ab162951820a7b85d1e295c01c9be923d", func := "loop.example/urnsandballs/laws.FnWaitSum", spec := "fnWaitSum", unfollowed := true, recurses := true, apart := false, narrowed := true }
def FnWaitSumUptoSaid : Prop := fnWaitSumUptoRow.holds Try.pinned (OpenSpec.upto fnWaitSumSpec)

/-- 'laws.FnGroupsPower', WHERE WHAT IT READS IS OF BULK AT MOST 1048576: true; the input reads as it did. -/
def fnGroupsPowerUptoRow : OpenClaim := { program := "ytfencbfjnifmjaa", sum := "86b95030078fadf40c413f25ccc4452ab162951820a7b85d1e295c01c9be923d", func := "loop.example/urnsandballs/laws.FnGroupsPower", spec := "fnGroupsPower", recurses := true, apart := false, narrowed := true }
def FnGroupsPowerUptoSaid : Prop := fnGroupsPowerUptoRow.holds Try.pinned (OpenSpec.upto fnGroupsPowerSpec)

/-- 'laws.FnPairWays', WHERE WHAT IT READS IS OF BULK AT MOST 1048576: true; the input reads as it did. -/
def fnPairWaysUptoRow : OpenClaim := { program := "ytfencbfjnifmjaa", sum := "86b95030078fadf40c413f25ccc4452ab162951820a7b85d1e295c01c9be923d", func := "loop.example/urnsandballs/laws.FnPairWays", spec := "fnPairWays", apart := false, narrowed := true }
def FnPairWaysUptoSaid : Prop := fnPairWaysUptoRow.holds Try.pinned (OpenSpec.upto fnPairWaysSpec)

/-- 'laws.FnExactFullWays', WHERE WHAT IT READS IS OF BULK AT MOST 1048576: true; the input reads as it did. -/
def fnExactFullWaysUptoRow : OpenClaim := { program := "ytfencbfjnifmjaa", sum := "86b95030078fadf40c413f25ccc4452ab162951820a7b85d1e295c01c9be923d", func := "loop.example/urnsandballs/laws.FnExactFullWays", spec := "fnExactFullWays", unfollowed := true, recurses := true, apart := false, narrowed := true }
def FnExactFullWaysUptoSaid : Prop := fnExactFullWaysUptoRow.holds Try.pinned (OpenSpec.upto fnExactFullWaysSpec)

end Rows
end Go.Proofs.Ytfencbfjnifmjaa
