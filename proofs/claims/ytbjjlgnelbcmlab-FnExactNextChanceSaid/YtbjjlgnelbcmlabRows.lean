/-
  No cell of these rows narrows 'for every input' (looked for: loops, veiled, ifaces, maps, wideKeys, modest, calm, conditions, laid).
  DERIVED. THE GIVEN ROWS OF THIS SEAT. 5 by the template 'for every input the law returns true; each argument reads behind the call as it read before'; 0 by the template 'total and deterministic' (their statements: YtbjjlgnelbcmlabTotals.lean).
  GIVEN WITH THE SEED: the statements are not yours to turn. If you find one false, say at which input.
  Laid BY PROGRAM, IN A SANDBOX (cutbox-rows.mjs): the forced cells as the released guide's own fill.sh prints them over the translation 928fad91fcbbf0e3… (all of the seat's roots in one cut). By AI agents, Wed Nov 11 2026. No macro, syntax, notation, axiom, sorry.
-/
import Derived.Test.YtbjjlgnelbcmlabChecked
import GoSem.Claim
import GoSem.ClaimJoined
import GoSem.ClaimMapViews
import Derived.JoinedTies
import Derived.KernelRfl
namespace Go.Proofs.Ytbjjlgnelbcmlab
/- THE CELL 'sum', in the pinned program and in every row, IS THE sha256 OF THE DUMP (.gsa) THAT YtbjjlgnelbcmlabProg.lean LOADS. Nothing in Lean hashes anything: it is a label: what it is worth is what the hold of that sum in a sandbox is worth. -/
noncomputable def Try.pinned : Pinned := { name := "ytbjjlgnelbcmlab", sum := "928fad91fcbbf0e36bb5b8cdd6407bcc0a9e2b90e73afff78e8aad6aaf983073", checked := Try.checked }
namespace Rows
def none {H : Type} : Left H := { results := [], args := [] }

/-- 'laws.FnExactBoxWeights': WHATEVER THE INPUT: true; the input reads as it did. -/
def fnExactBoxWeightsSpec : ChangeSpec := { name := "fnExactBoxWeights", fn := fun _ => fun
  | [d1, d2, d3] => { results := [.lit (.bool true)], args := [d1, d2, d3] }
  | _ => none }
def fnExactBoxWeightsRow : OpenClaim := { program := "ytbjjlgnelbcmlab", sum := "928fad91fcbbf0e36bb5b8cdd6407bcc0a9e2b90e73afff78e8aad6aaf983073", func := "loop.example/urnsandballs/laws.FnExactBoxWeights", spec := "fnExactBoxWeights", apart := false }
def FnExactBoxWeightsSaid : Prop := fnExactBoxWeightsRow.holds Try.pinned (OpenSpec.ofChange fnExactBoxWeightsSpec)

/-- ITS FALSE NEIGHBOUR: 'it returns false'. Refute it at one input. -/
def fnExactBoxWeightsWrong : ChangeSpec := { name := "fnExactBoxWeights", fn := fun _ => fun
  | [d1, d2, d3] => { results := [.lit (.bool false)], args := [d1, d2, d3] }
  | _ => none }
def FnExactBoxWeightsWrongFalsely : Prop := fnExactBoxWeightsRow.holds Try.pinned (OpenSpec.ofChange fnExactBoxWeightsWrong)

/-- 'laws.FnExactBoxSum': WHATEVER THE INPUT: true; the input reads as it did. -/
def fnExactBoxSumSpec : ChangeSpec := { name := "fnExactBoxSum", fn := fun _ => fun
  | [d1, d2, d3] => { results := [.lit (.bool true)], args := [d1, d2, d3] }
  | _ => none }
def fnExactBoxSumRow : OpenClaim := { program := "ytbjjlgnelbcmlab", sum := "928fad91fcbbf0e36bb5b8cdd6407bcc0a9e2b90e73afff78e8aad6aaf983073", func := "loop.example/urnsandballs/laws.FnExactBoxSum", spec := "fnExactBoxSum", apart := false }
def FnExactBoxSumSaid : Prop := fnExactBoxSumRow.holds Try.pinned (OpenSpec.ofChange fnExactBoxSumSpec)

/-- ITS FALSE NEIGHBOUR: 'it returns false'. Refute it at one input. -/
def fnExactBoxSumWrong : ChangeSpec := { name := "fnExactBoxSum", fn := fun _ => fun
  | [d1, d2, d3] => { results := [.lit (.bool false)], args := [d1, d2, d3] }
  | _ => none }
def FnExactBoxSumWrongFalsely : Prop := fnExactBoxSumRow.holds Try.pinned (OpenSpec.ofChange fnExactBoxSumWrong)

/-- 'laws.FnExactNextChance': WHATEVER THE INPUT: true; the input reads as it did. -/
def fnExactNextChanceSpec : ChangeSpec := { name := "fnExactNextChance", fn := fun _ => fun
  | [d1, d2, d3] => { results := [.lit (.bool true)], args := [d1, d2, d3] }
  | _ => none }
def fnExactNextChanceRow : OpenClaim := { program := "ytbjjlgnelbcmlab", sum := "928fad91fcbbf0e36bb5b8cdd6407bcc0a9e2b90e73afff78e8aad6aaf983073", func := "loop.example/urnsandballs/laws.FnExactNextChance", spec := "fnExactNextChance", unfollowed := true, recurses := true, apart := false }
def FnExactNextChanceSaid : Prop := fnExactNextChanceRow.holds Try.pinned (OpenSpec.ofChange fnExactNextChanceSpec)

/-- ITS FALSE NEIGHBOUR: 'it returns false'. Refute it at one input. -/
def fnExactNextChanceWrong : ChangeSpec := { name := "fnExactNextChance", fn := fun _ => fun
  | [d1, d2, d3] => { results := [.lit (.bool false)], args := [d1, d2, d3] }
  | _ => none }
def FnExactNextChanceWrongFalsely : Prop := fnExactNextChanceRow.holds Try.pinned (OpenSpec.ofChange fnExactNextChanceWrong)

/-- 'laws.FnExactLikeliestBox': WHATEVER THE INPUT: true; the input reads as it did. -/
def fnExactLikeliestBoxSpec : ChangeSpec := { name := "fnExactLikeliestBox", fn := fun _ => fun
  | [d1, d2, d3] => { results := [.lit (.bool true)], args := [d1, d2, d3] }
  | _ => none }
def fnExactLikeliestBoxRow : OpenClaim := { program := "ytbjjlgnelbcmlab", sum := "928fad91fcbbf0e36bb5b8cdd6407bcc0a9e2b90e73afff78e8aad6aaf983073", func := "loop.example/urnsandballs/laws.FnExactLikeliestBox", spec := "fnExactLikeliestBox", apart := false }
def FnExactLikeliestBoxSaid : Prop := fnExactLikeliestBoxRow.holds Try.pinned (OpenSpec.ofChange fnExactLikeliestBoxSpec)

/-- ITS FALSE NEIGHBOUR: 'it returns false'. Refute it at one input. -/
def fnExactLikeliestBoxWrong : ChangeSpec := { name := "fnExactLikeliestBox", fn := fun _ => fun
  | [d1, d2, d3] => { results := [.lit (.bool false)], args := [d1, d2, d3] }
  | _ => none }
def FnExactLikeliestBoxWrongFalsely : Prop := fnExactLikeliestBoxRow.holds Try.pinned (OpenSpec.ofChange fnExactLikeliestBoxWrong)

/-- 'laws.FnExactBoxMean': WHATEVER THE INPUT: true; the input reads as it did. -/
def fnExactBoxMeanSpec : ChangeSpec := { name := "fnExactBoxMean", fn := fun _ => fun
  | [d1, d2, d3] => { results := [.lit (.bool true)], args := [d1, d2, d3] }
  | _ => none }
def fnExactBoxMeanRow : OpenClaim := { program := "ytbjjlgnelbcmlab", sum := "928fad91fcbbf0e36bb5b8cdd6407bcc0a9e2b90e73afff78e8aad6aaf983073", func := "loop.example/urnsandballs/laws.FnExactBoxMean", spec := "fnExactBoxMean", unfollowed := true, recurses := true, apart := false }
def FnExactBoxMeanSaid : Prop := fnExactBoxMeanRow.holds Try.pinned (OpenSpec.ofChange fnExactBoxMeanSpec)

/-- ITS FALSE NEIGHBOUR: 'it returns false'. Refute it at one input. -/
def fnExactBoxMeanWrong : ChangeSpec := { name := "fnExactBoxMean", fn := fun _ => fun
  | [d1, d2, d3] => { results := [.lit (.bool false)], args := [d1, d2, d3] }
  | _ => none }
def FnExactBoxMeanWrongFalsely : Prop := fnExactBoxMeanRow.holds Try.pinned (OpenSpec.ofChange fnExactBoxMeanWrong)

/- THE SECOND FORM. 'bulk': how many values and letters a reading holds, each counted each time it is reached (what is shared counts as often as it is met; a slice's spare places count too). A statement '..UptoSaid' is the law's where the arguments, and the package variables that the reading takes, are together of bulk at most 1048576: NARROWER than '..Said'. Prove '..Said' where nothing that the law and all that it calls make is longer than what came in: it says more and counts as full. Else prove '..UptoSaid'. A law counts once. -/
mutual
def uptoBulk {H : Type} : DataW H → Nat
  | .lit (.string bytes) => bytes.length + 1
  | .lit _ => 1
  | .nil => 1
  | .ptr d => uptoBulk d + 1
  | .slice elems spare => uptoBulkAll elems + uptoBulkAll spare + 1
  | .agg parts => uptoBulkAll parts + 1
  | .iface _ d => uptoBulk d + 1
  | .map entries => uptoBulkEntries entries + 1
  | .held _ => 1
def uptoBulkAll {H : Type} : List (DataW H) → Nat
  | [] => 0
  | d :: r => uptoBulk d + uptoBulkAll r
def uptoBulkEntries {H : Type} : List (Lit × DataW H) → Nat
  | [] => 0
  | x :: r => uptoBulkEntry x + uptoBulkEntries r
def uptoBulkEntry {H : Type} : Lit × DataW H → Nat
  | (.string bytes, d) => bytes.length + uptoBulk d + 1
  | (_, d) => uptoBulk d + 1
 end
def uptoSmall : (H : Type) → List (DataW H) → Bool := fun _ ds => decide (uptoBulkAll ds ≤ 1048576)
def OpenSpec.upto (s : _root_.Go.ChangeSpec) : _root_.Go.OpenSpec := { _root_.Go.OpenSpec.ofChange s with cond := some uptoSmall }

/-- 'laws.FnExactBoxWeights', WHERE WHAT IT READS IS OF BULK AT MOST 1048576: true; the input reads as it did. -/
def fnExactBoxWeightsUptoRow : OpenClaim := { program := "ytbjjlgnelbcmlab", sum := "928fad91fcbbf0e36bb5b8cdd6407bcc0a9e2b90e73afff78e8aad6aaf983073", func := "loop.example/urnsandballs/laws.FnExactBoxWeights", spec := "fnExactBoxWeights", apart := false, narrowed := true }
def FnExactBoxWeightsUptoSaid : Prop := fnExactBoxWeightsUptoRow.holds Try.pinned (OpenSpec.upto fnExactBoxWeightsSpec)

/-- 'laws.FnExactBoxSum', WHERE WHAT IT READS IS OF BULK AT MOST 1048576: true; the input reads as it did. -/
def fnExactBoxSumUptoRow : OpenClaim := { program := "ytbjjlgnelbcmlab", sum := "928fad91fcbbf0e36bb5b8cdd6407bcc0a9e2b90e73afff78e8aad6aaf983073", func := "loop.example/urnsandballs/laws.FnExactBoxSum", spec := "fnExactBoxSum", apart := false, narrowed := true }
def FnExactBoxSumUptoSaid : Prop := fnExactBoxSumUptoRow.holds Try.pinned (OpenSpec.upto fnExactBoxSumSpec)

/-- 'laws.FnExactNextChance', WHERE WHAT IT READS IS OF BULK AT MOST 1048576: true; the input reads as it did. -/
def fnExactNextChanceUptoRow : OpenClaim := { program := "ytbjjlgnelbcmlab", sum := "928fad91fcbbf0e36bb5b8cdd6407bcc0a9e2b90e73afff78e8aad6aaf983073", func := "loop.example/urnsandballs/laws.FnExactNextChance", spec := "fnExactNextChance", unfollowed := true, recurses := true, apart := false, narrowed := true }
def FnExactNextChanceUptoSaid : Prop := fnExactNextChanceUptoRow.holds Try.pinned (OpenSpec.upto fnExactNextChanceSpec)

/-- 'laws.FnExactLikeliestBox', WHERE WHAT IT READS IS OF BULK AT MOST 1048576: true; the input reads as it did. -/
def fnExactLikeliestBoxUptoRow : OpenClaim := { program := "ytbjjlgnelbcmlab", sum := "928fad91fcbbf0e36bb5b8cdd6407bcc0a9e2b90e73afff78e8aad6aaf983073", func := "loop.example/urnsandballs/laws.FnExactLikeliestBox", spec := "fnExactLikeliestBox", apart := false, narrowed := true }
def FnExactLikeliestBoxUptoSaid : Prop := fnExactLikeliestBoxUptoRow.holds Try.pinned (OpenSpec.upto fnExactLikeliestBoxSpec)

/-- 'laws.FnExactBoxMean', WHERE WHAT IT READS IS OF BULK AT MOST 1048576: true; the input reads as it did. -/
def fnExactBoxMeanUptoRow : OpenClaim := { program := "ytbjjlgnelbcmlab", sum := "928fad91fcbbf0e36bb5b8cdd6407bcc0a9e2b90e73afff78e8aad6aaf983073", func := "loop.example/urnsandballs/laws.FnExactBoxMean", spec := "fnExactBoxMean", unfollowed := true, recurses := true, apart := false, narrowed := true }
def FnExactBoxMeanUptoSaid : Prop := fnExactBoxMeanUptoRow.holds Try.pinned (OpenSpec.upto fnExactBoxMeanSpec)

end Rows
end Go.Proofs.Ytbjjlgnelbcmlab
