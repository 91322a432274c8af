/-
  No cell of these rows narrows 'for every input' (looked for: loops, veiled, ifaces, maps, wideKeys, modest, calm, conditions, laid).
  DERIVED. THE GIVEN ROWS OF THIS SEAT. 8 by the template 'for every input the law returns true; each argument reads behind the call as it read before'; 0 by the template 'total and deterministic' (their statements: YtffllkmaifjpfacTotals.lean).
  GIVEN WITH THE SEED: the statements are not yours to turn. If you find one false, say at which input.
  Laid BY PROGRAM, IN A SANDBOX (cutbox-rows.mjs): the forced cells as the released guide's own fill.sh prints them over the translation cea052e89aed6dc9… (all of the seat's roots in one cut). By AI agents, Wed Nov 11 2026. No macro, syntax, notation, axiom, sorry.
-/
import Derived.Test.YtffllkmaifjpfacChecked
import GoSem.Claim
import GoSem.ClaimJoined
import GoSem.ClaimMapViews
import Derived.JoinedTies
import Derived.KernelRfl
namespace Go.Proofs.Ytffllkmaifjpfac
/- THE CELL 'sum', in the pinned program and in every row, IS THE sha256 OF THE DUMP (.gsa) THAT YtffllkmaifjpfacProg.lean LOADS. Nothing in Lean hashes anything: it is a label: what it is worth is what the hold of that sum in a sandbox is worth. -/
noncomputable def Try.pinned : Pinned := { name := "ytffllkmaifjpfac", sum := "cea052e89aed6dc9f54b86724b683c3397ce6ff567c530b907a45c6bead04ad6", checked := Try.checked }
namespace Rows
def none {H : Type} : Left H := { results := [], args := [] }

/-- 'laws.FnBackCounts': WHATEVER THE INPUT: true; the input reads as it did. -/
def fnBackCountsSpec : ChangeSpec := { name := "fnBackCounts", fn := fun _ => fun
  | [d] => { results := [.lit (.bool true)], args := [d] }
  | _ => none }
def fnBackCountsRow : OpenClaim := { program := "ytffllkmaifjpfac", sum := "cea052e89aed6dc9f54b86724b683c3397ce6ff567c530b907a45c6bead04ad6", func := "loop.example/urnsandballs/laws.FnBackCounts", spec := "fnBackCounts", unfollowed := true, recurses := true, apart := false }
def FnBackCountsSaid : Prop := fnBackCountsRow.holds Try.pinned (OpenSpec.ofChange fnBackCountsSpec)

/-- ITS FALSE NEIGHBOUR: 'it returns false'. Refute it at one input. -/
def fnBackCountsWrong : ChangeSpec := { name := "fnBackCounts", fn := fun _ => fun
  | [d] => { results := [.lit (.bool false)], args := [d] }
  | _ => none }
def FnBackCountsWrongFalsely : Prop := fnBackCountsRow.holds Try.pinned (OpenSpec.ofChange fnBackCountsWrong)

/-- 'laws.FnCountWays': WHATEVER THE INPUT: true; the input reads as it did. -/
def fnCountWaysSpec : ChangeSpec := { name := "fnCountWays", fn := fun _ => fun
  | [d] => { results := [.lit (.bool true)], args := [d] }
  | _ => none }
def fnCountWaysRow : OpenClaim := { program := "ytffllkmaifjpfac", sum := "cea052e89aed6dc9f54b86724b683c3397ce6ff567c530b907a45c6bead04ad6", func := "loop.example/urnsandballs/laws.FnCountWays", spec := "fnCountWays", unfollowed := true, recurses := true, apart := false }
def FnCountWaysSaid : Prop := fnCountWaysRow.holds Try.pinned (OpenSpec.ofChange fnCountWaysSpec)

/-- ITS FALSE NEIGHBOUR: 'it returns false'. Refute it at one input. -/
def fnCountWaysWrong : ChangeSpec := { name := "fnCountWays", fn := fun _ => fun
  | [d] => { results := [.lit (.bool false)], args := [d] }
  | _ => none }
def FnCountWaysWrongFalsely : Prop := fnCountWaysRow.holds Try.pinned (OpenSpec.ofChange fnCountWaysWrong)

/-- 'laws.FnCountsOf': WHATEVER THE INPUT: true; the input reads as it did. -/
def fnCountsOfSpec : ChangeSpec := { name := "fnCountsOf", fn := fun _ => fun
  | [d] => { results := [.lit (.bool true)], args := [d] }
  | _ => none }
def fnCountsOfRow : OpenClaim := { program := "ytffllkmaifjpfac", sum := "cea052e89aed6dc9f54b86724b683c3397ce6ff567c530b907a45c6bead04ad6", func := "loop.example/urnsandballs/laws.FnCountsOf", spec := "fnCountsOf", unfollowed := true, recurses := true, apart := false }
def FnCountsOfSaid : Prop := fnCountsOfRow.holds Try.pinned (OpenSpec.ofChange fnCountsOfSpec)

/-- ITS FALSE NEIGHBOUR: 'it returns false'. Refute it at one input. -/
def fnCountsOfWrong : ChangeSpec := { name := "fnCountsOf", fn := fun _ => fun
  | [d] => { results := [.lit (.bool false)], args := [d] }
  | _ => none }
def FnCountsOfWrongFalsely : Prop := fnCountsOfRow.holds Try.pinned (OpenSpec.ofChange fnCountsOfWrong)

/-- 'laws.FnExactBackCounts': WHATEVER THE INPUT: true; the input reads as it did. -/
def fnExactBackCountsSpec : ChangeSpec := { name := "fnExactBackCounts", fn := fun _ => fun
  | [d1, d2] => { results := [.lit (.bool true)], args := [d1, d2] }
  | _ => none }
def fnExactBackCountsRow : OpenClaim := { program := "ytffllkmaifjpfac", sum := "cea052e89aed6dc9f54b86724b683c3397ce6ff567c530b907a45c6bead04ad6", func := "loop.example/urnsandballs/laws.FnExactBackCounts", spec := "fnExactBackCounts", unfollowed := true, recurses := true, apart := false }
def FnExactBackCountsSaid : Prop := fnExactBackCountsRow.holds Try.pinned (OpenSpec.ofChange fnExactBackCountsSpec)

/-- ITS FALSE NEIGHBOUR: 'it returns false'. Refute it at one input. -/
def fnExactBackCountsWrong : ChangeSpec := { name := "fnExactBackCounts", fn := fun _ => fun
  | [d1, d2] => { results := [.lit (.bool false)], args := [d1, d2] }
  | _ => none }
def FnExactBackCountsWrongFalsely : Prop := fnExactBackCountsRow.holds Try.pinned (OpenSpec.ofChange fnExactBackCountsWrong)

/-- 'laws.FnExactCountWays': WHATEVER THE INPUT: true; the input reads as it did. -/
def fnExactCountWaysSpec : ChangeSpec := { name := "fnExactCountWays", fn := fun _ => fun
  | [d1, d2] => { results := [.lit (.bool true)], args := [d1, d2] }
  | _ => none }
def fnExactCountWaysRow : OpenClaim := { program := "ytffllkmaifjpfac", sum := "cea052e89aed6dc9f54b86724b683c3397ce6ff567c530b907a45c6bead04ad6", func := "loop.example/urnsandballs/laws.FnExactCountWays", spec := "fnExactCountWays", unfollowed := true, recurses := true, apart := false }
def FnExactCountWaysSaid : Prop := fnExactCountWaysRow.holds Try.pinned (OpenSpec.ofChange fnExactCountWaysSpec)

/-- ITS FALSE NEIGHBOUR: 'it returns false'. Refute it at one input. -/
def fnExactCountWaysWrong : ChangeSpec := { name := "fnExactCountWays", fn := fun _ => fun
  | [d1, d2] => { results := [.lit (.bool false)], args := [d1, d2] }
  | _ => none }
def FnExactCountWaysWrongFalsely : Prop := fnExactCountWaysRow.holds Try.pinned (OpenSpec.ofChange fnExactCountWaysWrong)

/-- 'laws.FnExactSameCounts': WHATEVER THE INPUT: true; the input reads as it did. -/
def fnExactSameCountsSpec : ChangeSpec := { name := "fnExactSameCounts", fn := fun _ => fun
  | [d1, d2, d3] => { results := [.lit (.bool true)], args := [d1, d2, d3] }
  | _ => none }
def fnExactSameCountsRow : OpenClaim := { program := "ytffllkmaifjpfac", sum := "cea052e89aed6dc9f54b86724b683c3397ce6ff567c530b907a45c6bead04ad6", func := "loop.example/urnsandballs/laws.FnExactSameCounts", spec := "fnExactSameCounts", unfollowed := true, recurses := true, apart := false }
def FnExactSameCountsSaid : Prop := fnExactSameCountsRow.holds Try.pinned (OpenSpec.ofChange fnExactSameCountsSpec)

/-- ITS FALSE NEIGHBOUR: 'it returns false'. Refute it at one input. -/
def fnExactSameCountsWrong : ChangeSpec := { name := "fnExactSameCounts", fn := fun _ => fun
  | [d1, d2, d3] => { results := [.lit (.bool false)], args := [d1, d2, d3] }
  | _ => none }
def FnExactSameCountsWrongFalsely : Prop := fnExactSameCountsRow.holds Try.pinned (OpenSpec.ofChange fnExactSameCountsWrong)

/-- 'laws.FnExactWordsWith': WHATEVER THE INPUT: true; the input reads as it did. -/
def fnExactWordsWithSpec : ChangeSpec := { name := "fnExactWordsWith", fn := fun _ => fun
  | [d1, d2] => { results := [.lit (.bool true)], args := [d1, d2] }
  | _ => none }
def fnExactWordsWithRow : OpenClaim := { program := "ytffllkmaifjpfac", sum := "cea052e89aed6dc9f54b86724b683c3397ce6ff567c530b907a45c6bead04ad6", func := "loop.example/urnsandballs/laws.FnExactWordsWith", spec := "fnExactWordsWith", unfollowed := true, recurses := true, apart := false }
def FnExactWordsWithSaid : Prop := fnExactWordsWithRow.holds Try.pinned (OpenSpec.ofChange fnExactWordsWithSpec)

/-- ITS FALSE NEIGHBOUR: 'it returns false'. Refute it at one input. -/
def fnExactWordsWithWrong : ChangeSpec := { name := "fnExactWordsWith", fn := fun _ => fun
  | [d1, d2] => { results := [.lit (.bool false)], args := [d1, d2] }
  | _ => none }
def FnExactWordsWithWrongFalsely : Prop := fnExactWordsWithRow.holds Try.pinned (OpenSpec.ofChange fnExactWordsWithWrong)

/-- 'laws.FnSameAll': WHATEVER THE INPUT: true; the input reads as it did. -/
def fnSameAllSpec : ChangeSpec := { name := "fnSameAll", fn := fun _ => fun
  | [d] => { results := [.lit (.bool true)], args := [d] }
  | _ => none }
def fnSameAllRow : OpenClaim := { program := "ytffllkmaifjpfac", sum := "cea052e89aed6dc9f54b86724b683c3397ce6ff567c530b907a45c6bead04ad6", func := "loop.example/urnsandballs/laws.FnSameAll", spec := "fnSameAll", unfollowed := true, recurses := true, apart := false }
def FnSameAllSaid : Prop := fnSameAllRow.holds Try.pinned (OpenSpec.ofChange fnSameAllSpec)

/-- ITS FALSE NEIGHBOUR: 'it returns false'. Refute it at one input. -/
def fnSameAllWrong : ChangeSpec := { name := "fnSameAll", fn := fun _ => fun
  | [d] => { results := [.lit (.bool false)], args := [d] }
  | _ => none }
def FnSameAllWrongFalsely : Prop := fnSameAllRow.holds Try.pinned (OpenSpec.ofChange fnSameAllWrong)

/- THE SECOND FORM. 'bulk': how many values and letters a reading holds, each counted each time it is reached (what is shared counts as often as it is met; a slice's spare places count too). A statement '..UptoSaid' is the law's where the arguments, and the package variables that the reading takes, are together of bulk at most 1048576: NARROWER than '..Said'. Prove '..Said' where nothing that the law and all that it calls make is longer than what came in: it says more and counts as full. Else prove '..UptoSaid'. A law counts once. -/
mutual
def uptoBulk {H : Type} : DataW H → Nat
  | .lit (.string bytes) => bytes.length + 1
  | .lit _ => 1
  | .nil => 1
  | .ptr d => uptoBulk d + 1
  | .slice elems spare => uptoBulkAll elems + uptoBulkAll spare + 1
  | .agg parts => uptoBulkAll parts + 1
  | .iface _ d => uptoBulk d + 1
  | .map entries => uptoBulkEntries entries + 1
  | .held _ => 1
def uptoBulkAll {H : Type} : List (DataW H) → Nat
  | [] => 0
  | d :: r => uptoBulk d + uptoBulkAll r
def uptoBulkEntries {H : Type} : List (Lit × DataW H) → Nat
  | [] => 0
  | x :: r => uptoBulkEntry x + uptoBulkEntries r
def uptoBulkEntry {H : Type} : Lit × DataW H → Nat
  | (.string bytes, d) => bytes.length + uptoBulk d + 1
  | (_, d) => uptoBulk d + 1
 end
def uptoSmall : (H : Type) → List (DataW H) → Bool := fun _ ds => decide (uptoBulkAll ds ≤ 1048576)
def OpenSpec.upto (s : _root_.Go.ChangeSpec) : _root_.Go.OpenSpec := { _root_.Go.OpenSpec.ofChange s with cond := some uptoSmall }

/-- 'laws.FnBackCounts', WHERE WHAT IT READS IS OF BULK AT MOST 1048576: true; the input reads as it did. -/
def fnBackCountsUptoRow : OpenClaim := { program := "ytffllkmaifjpfac", sum := "cea052e89aed6dc9f54b86724b683c3397ce6ff567c530b907a45c6bead04ad6", func := "loop.example/urnsandballs/laws.FnBackCounts", spec := "fnBackCounts", unfollowed := true, recurses := true, apart := false, narrowed := true }
def FnBackCountsUptoSaid : Prop := fnBackCountsUptoRow.holds Try.pinned (OpenSpec.upto fnBackCountsSpec)

/-- 'laws.FnCountWays', WHERE WHAT IT READS IS OF BULK AT MOST 1048576: true; the input reads as it did. -/
def fnCountWaysUptoRow : OpenClaim := { program := "ytffllkmaifjpfac", sum := "cea052e89aed6dc9f54b86724b683c3397ce6ff567c530b907a45c6bead04ad6", func := "loop.example/urnsandballs/laws.FnCountWays", spec := "fnCountWays", unfollowed := true, recurses := true, apart := false, narrowed := true }
def FnCountWaysUptoSaid : Prop := fnCountWaysUptoRow.holds Try.pinned (OpenSpec.upto fnCountWaysSpec)

/-- 'laws.FnCountsOf', WHERE WHAT IT READS IS OF BULK AT MOST 1048576: true; the input reads as it did. -/
def fnCountsOfUptoRow : OpenClaim := { program := "ytffllkmaifjpfac", sum := "cea052e89aed6dc9f54b86724b683c3397ce6ff567c530b907a45c6bead04ad6", func := "loop.example/urnsandballs/laws.FnCountsOf", spec := "fnCountsOf", unfollowed := true, recurses := true, apart := false, narrowed := true }
def FnCountsOfUptoSaid : Prop := fnCountsOfUptoRow.holds Try.pinned (OpenSpec.upto fnCountsOfSpec)

/-- 'laws.FnExactBackCounts', WHERE WHAT IT READS IS OF BULK AT MOST 1048576: true; the input reads as it did. -/
def fnExactBackCountsUptoRow : OpenClaim := { program := "ytffllkmaifjpfac", sum := "cea052e89aed6dc9f54b86724b683c3397ce6ff567c530b907a45c6bead04ad6", func := "loop.example/urnsandballs/laws.FnExactBackCounts", spec := "fnExactBackCounts", unfollowed := true, recurses := true, apart := false, narrowed := true }
def FnExactBackCountsUptoSaid : Prop := fnExactBackCountsUptoRow.holds Try.pinned (OpenSpec.upto fnExactBackCountsSpec)

/-- 'laws.FnExactCountWays', WHERE WHAT IT READS IS OF BULK AT MOST 1048576: true; the input reads as it did. -/
def fnExactCountWaysUptoRow : OpenClaim := { program := "ytffllkmaifjpfac", sum := "cea052e89aed6dc9f54b86724b683c3397ce6ff567c530b907a45c6bead04ad6", func := "loop.example/urnsandballs/laws.FnExactCountWays", spec := "fnExactCountWays", unfollowed := true, recurses := true, apart := false, narrowed := true }
def FnExactCountWaysUptoSaid : Prop := fnExactCountWaysUptoRow.holds Try.pinned (OpenSpec.upto fnExactCountWaysSpec)

/-- 'laws.FnExactSameCounts', WHERE WHAT IT READS IS OF BULK AT MOST 1048576: true; the input reads as it did. -/
def fnExactSameCountsUptoRow : OpenClaim := { program := "ytffllkmaifjpfac", sum := "cea052e89aed6dc9f54b86724b683c3397ce6ff567c530b907a45c6bead04ad6", func := "loop.example/urnsandballs/laws.FnExactSameCounts", spec := "fnExactSameCounts", unfollowed := true, recurses := true, apart := false, narrowed := true }
def FnExactSameCountsUptoSaid : Prop := fnExactSameCountsUptoRow.holds Try.pinned (OpenSpec.upto fnExactSameCountsSpec)

/-- 'laws.FnExactWordsWith', WHERE WHAT IT READS IS OF BULK AT MOST 1048576: true; the input reads as it did. -/
def fnExactWordsWithUptoRow : OpenClaim := { program := "ytffllkmaifjpfac", sum := "cea052e89aed6dc9f54b86724b683c3397ce6ff567c530b907a45c6bead04ad6", func := "loop.example/urnsandballs/laws.FnExactWordsWith", spec := "fnExactWordsWith", unfollowed := true, recurses := true, apart := false, narrowed := true }
def FnExactWordsWithUptoSaid : Prop := fnExactWordsWithUptoRow.holds Try.pinned (OpenSpec.upto fnExactWordsWithSpec)

/-- 'laws.FnSameAll', WHERE WHAT IT READS IS OF BULK AT MOST 1048576: true; the input reads as it did. -/
def fnSameAllUptoRow : OpenClaim := { program := "ytffllkmaifjpfac", sum := "cea052e89aed6dc9f54b86724b683c3397ce6ff567c530b907a45c6bead04ad6", func := "loop.example/urnsandballs/laws.FnSameAll", spec := "fnSameAll", unfollowed := true, recurses := true, apart := false, narrowed := true }
def FnSameAllUptoSaid : Prop := fnSameAllUptoRow.holds Try.pinned (OpenSpec.upto fnSameAllSpec)

end Rows
end Go.Proofs.Ytffllkmaifjpfac
