/-
  No cell of these rows narrows 'for every input' (looked for: loops, veiled, ifaces, maps, wideKeys, modest, calm, conditions, laid).
  DERIVED. THE GIVEN ROWS OF THIS SEAT. 11 by the template 'for every input the law returns true; each argument reads behind the call as it read before'; 0 by the template 'total and deterministic' (their statements: YtjkccfnbepbmbaaTotals.lean).
  GIVEN WITH THE SEED: the statements are not yours to turn. If you find one false, say at which input.
  Laid BY PROGRAM, IN A SANDBOX (cutbox-rows.mjs): the forced cells as the released guide's own fill.sh prints them over the translation c0de9fa13b437bb7… (all of the seat's roots in one cut). By AI agents, Wed Nov 11 2026. No macro, syntax, notation, axiom, sorry.
-/
import Derived.Test.YtjkccfnbepbmbaaChecked
import GoSem.Claim
import GoSem.ClaimJoined
import GoSem.ClaimMapViews
import Derived.JoinedTies
import Derived.KernelRfl
namespace Go.Proofs.Ytjkccfnbepbmbaa
/- THE CELL 'sum', in the pinned program and in every row, IS THE sha256 OF THE DUMP (.gsa) THAT YtjkccfnbepbmbaaProg.lean LOADS. Nothing in Lean hashes anything: it is a label: what it is worth is what the hold of that sum in a sandbox is worth. -/
noncomputable def Try.pinned : Pinned := { name := "ytjkccfnbepbmbaa", sum := "c0de9fa13b437bb7e7403eae9a6967a0d72addc59f1f929b7877cef9a0e13da6", checked := Try.checked }
namespace Rows
def none {H : Type} : Left H := { results := [], args := [] }

/-- 'laws.FnPickWays': WHATEVER THE INPUT: true; the input reads as it did. -/
def fnPickWaysSpec : ChangeSpec := { name := "fnPickWays", fn := fun _ => fun
  | [d] => { results := [.lit (.bool true)], args := [d] }
  | _ => none }
def fnPickWaysRow : OpenClaim := { program := "ytjkccfnbepbmbaa", sum := "c0de9fa13b437bb7e7403eae9a6967a0d72addc59f1f929b7877cef9a0e13da6", func := "loop.example/urnsandballs/laws.FnPickWays", spec := "fnPickWays", apart := false }
def FnPickWaysSaid : Prop := fnPickWaysRow.holds Try.pinned (OpenSpec.ofChange fnPickWaysSpec)

/-- ITS FALSE NEIGHBOUR: 'it returns false'. Refute it at one input. -/
def fnPickWaysWrong : ChangeSpec := { name := "fnPickWays", fn := fun _ => fun
  | [d] => { results := [.lit (.bool false)], args := [d] }
  | _ => none }
def FnPickWaysWrongFalsely : Prop := fnPickWaysRow.holds Try.pinned (OpenSpec.ofChange fnPickWaysWrong)

/-- 'laws.FnSampleOk': WHATEVER THE INPUT: true; the input reads as it did. -/
def fnSampleOkSpec : ChangeSpec := { name := "fnSampleOk", fn := fun _ => fun
  | [d] => { results := [.lit (.bool true)], args := [d] }
  | _ => none }
def fnSampleOkRow : OpenClaim := { program := "ytjkccfnbepbmbaa", sum := "c0de9fa13b437bb7e7403eae9a6967a0d72addc59f1f929b7877cef9a0e13da6", func := "loop.example/urnsandballs/laws.FnSampleOk", spec := "fnSampleOk", apart := false }
def FnSampleOkSaid : Prop := fnSampleOkRow.holds Try.pinned (OpenSpec.ofChange fnSampleOkSpec)

/-- ITS FALSE NEIGHBOUR: 'it returns false'. Refute it at one input. -/
def fnSampleOkWrong : ChangeSpec := { name := "fnSampleOk", fn := fun _ => fun
  | [d] => { results := [.lit (.bool false)], args := [d] }
  | _ => none }
def FnSampleOkWrongFalsely : Prop := fnSampleOkRow.holds Try.pinned (OpenSpec.ofChange fnSampleOkWrong)

/-- 'laws.FnMarkedWays': WHATEVER THE INPUT: true; the input reads as it did. -/
def fnMarkedWaysSpec : ChangeSpec := { name := "fnMarkedWays", fn := fun _ => fun
  | [d] => { results := [.lit (.bool true)], args := [d] }
  | _ => none }
def fnMarkedWaysRow : OpenClaim := { program := "ytjkccfnbepbmbaa", sum := "c0de9fa13b437bb7e7403eae9a6967a0d72addc59f1f929b7877cef9a0e13da6", func := "loop.example/urnsandballs/laws.FnMarkedWays", spec := "fnMarkedWays", apart := false }
def FnMarkedWaysSaid : Prop := fnMarkedWaysRow.holds Try.pinned (OpenSpec.ofChange fnMarkedWaysSpec)

/-- ITS FALSE NEIGHBOUR: 'it returns false'. Refute it at one input. -/
def fnMarkedWaysWrong : ChangeSpec := { name := "fnMarkedWays", fn := fun _ => fun
  | [d] => { results := [.lit (.bool false)], args := [d] }
  | _ => none }
def FnMarkedWaysWrongFalsely : Prop := fnMarkedWaysRow.holds Try.pinned (OpenSpec.ofChange fnMarkedWaysWrong)

/-- 'laws.FnTailWays': WHATEVER THE INPUT: true; the input reads as it did. -/
def fnTailWaysSpec : ChangeSpec := { name := "fnTailWays", fn := fun _ => fun
  | [d] => { results := [.lit (.bool true)], args := [d] }
  | _ => none }
def fnTailWaysRow : OpenClaim := { program := "ytjkccfnbepbmbaa", sum := "c0de9fa13b437bb7e7403eae9a6967a0d72addc59f1f929b7877cef9a0e13da6", func := "loop.example/urnsandballs/laws.FnTailWays", spec := "fnTailWays", apart := false }
def FnTailWaysSaid : Prop := fnTailWaysRow.holds Try.pinned (OpenSpec.ofChange fnTailWaysSpec)

/-- ITS FALSE NEIGHBOUR: 'it returns false'. Refute it at one input. -/
def fnTailWaysWrong : ChangeSpec := { name := "fnTailWays", fn := fun _ => fun
  | [d] => { results := [.lit (.bool false)], args := [d] }
  | _ => none }
def FnTailWaysWrongFalsely : Prop := fnTailWaysRow.holds Try.pinned (OpenSpec.ofChange fnTailWaysWrong)

/-- 'laws.FnLikeliestThings': WHATEVER THE INPUT: true; the input reads as it did. -/
def fnLikeliestThingsSpec : ChangeSpec := { name := "fnLikeliestThings", fn := fun _ => fun
  | [d] => { results := [.lit (.bool true)], args := [d] }
  | _ => none }
def fnLikeliestThingsRow : OpenClaim := { program := "ytjkccfnbepbmbaa", sum := "c0de9fa13b437bb7e7403eae9a6967a0d72addc59f1f929b7877cef9a0e13da6", func := "loop.example/urnsandballs/laws.FnLikeliestThings", spec := "fnLikeliestThings", apart := false }
def FnLikeliestThingsSaid : Prop := fnLikeliestThingsRow.holds Try.pinned (OpenSpec.ofChange fnLikeliestThingsSpec)

/-- ITS FALSE NEIGHBOUR: 'it returns false'. Refute it at one input. -/
def fnLikeliestThingsWrong : ChangeSpec := { name := "fnLikeliestThings", fn := fun _ => fun
  | [d] => { results := [.lit (.bool false)], args := [d] }
  | _ => none }
def FnLikeliestThingsWrongFalsely : Prop := fnLikeliestThingsRow.holds Try.pinned (OpenSpec.ofChange fnLikeliestThingsWrong)

/-- 'laws.FnPickTwice': WHATEVER THE INPUT: true; the input reads as it did. -/
def fnPickTwiceSpec : ChangeSpec := { name := "fnPickTwice", fn := fun _ => fun
  | [d] => { results := [.lit (.bool true)], args := [d] }
  | _ => none }
def fnPickTwiceRow : OpenClaim := { program := "ytjkccfnbepbmbaa", sum := "c0de9fa13b437bb7e7403eae9a6967a0d72addc59f1f929b7877cef9a0e13da6", func := "loop.example/urnsandballs/laws.FnPickTwice", spec := "fnPickTwice", apart := false }
def FnPickTwiceSaid : Prop := fnPickTwiceRow.holds Try.pinned (OpenSpec.ofChange fnPickTwiceSpec)

/-- ITS FALSE NEIGHBOUR: 'it returns false'. Refute it at one input. -/
def fnPickTwiceWrong : ChangeSpec := { name := "fnPickTwice", fn := fun _ => fun
  | [d] => { results := [.lit (.bool false)], args := [d] }
  | _ => none }
def FnPickTwiceWrongFalsely : Prop := fnPickTwiceRow.holds Try.pinned (OpenSpec.ofChange fnPickTwiceWrong)

/-- 'laws.FnExactPickWays': WHATEVER THE INPUT: true; the input reads as it did. -/
def fnExactPickWaysSpec : ChangeSpec := { name := "fnExactPickWays", fn := fun _ => fun
  | [d1, d2] => { results := [.lit (.bool true)], args := [d1, d2] }
  | _ => none }
def fnExactPickWaysRow : OpenClaim := { program := "ytjkccfnbepbmbaa", sum := "c0de9fa13b437bb7e7403eae9a6967a0d72addc59f1f929b7877cef9a0e13da6", func := "loop.example/urnsandballs/laws.FnExactPickWays", spec := "fnExactPickWays", apart := false }
def FnExactPickWaysSaid : Prop := fnExactPickWaysRow.holds Try.pinned (OpenSpec.ofChange fnExactPickWaysSpec)

/-- ITS FALSE NEIGHBOUR: 'it returns false'. Refute it at one input. -/
def fnExactPickWaysWrong : ChangeSpec := { name := "fnExactPickWays", fn := fun _ => fun
  | [d1, d2] => { results := [.lit (.bool false)], args := [d1, d2] }
  | _ => none }
def FnExactPickWaysWrongFalsely : Prop := fnExactPickWaysRow.holds Try.pinned (OpenSpec.ofChange fnExactPickWaysWrong)

/-- 'laws.FnExactSampleOk': WHATEVER THE INPUT: true; the input reads as it did. -/
def fnExactSampleOkSpec : ChangeSpec := { name := "fnExactSampleOk", fn := fun _ => fun
  | [d1, d2, d3] => { results := [.lit (.bool true)], args := [d1, d2, d3] }
  | _ => none }
def fnExactSampleOkRow : OpenClaim := { program := "ytjkccfnbepbmbaa", sum := "c0de9fa13b437bb7e7403eae9a6967a0d72addc59f1f929b7877cef9a0e13da6", func := "loop.example/urnsandballs/laws.FnExactSampleOk", spec := "fnExactSampleOk", apart := false }
def FnExactSampleOkSaid : Prop := fnExactSampleOkRow.holds Try.pinned (OpenSpec.ofChange fnExactSampleOkSpec)

/-- ITS FALSE NEIGHBOUR: 'it returns false'. Refute it at one input. -/
def fnExactSampleOkWrong : ChangeSpec := { name := "fnExactSampleOk", fn := fun _ => fun
  | [d1, d2, d3] => { results := [.lit (.bool false)], args := [d1, d2, d3] }
  | _ => none }
def FnExactSampleOkWrongFalsely : Prop := fnExactSampleOkRow.holds Try.pinned (OpenSpec.ofChange fnExactSampleOkWrong)

/-- 'laws.FnExactMarkedWays': WHATEVER THE INPUT: true; the input reads as it did. -/
def fnExactMarkedWaysSpec : ChangeSpec := { name := "fnExactMarkedWays", fn := fun _ => fun
  | [d1, d2, d3, d4] => { results := [.lit (.bool true)], args := [d1, d2, d3, d4] }
  | _ => none }
def fnExactMarkedWaysRow : OpenClaim := { program := "ytjkccfnbepbmbaa", sum := "c0de9fa13b437bb7e7403eae9a6967a0d72addc59f1f929b7877cef9a0e13da6", func := "loop.example/urnsandballs/laws.FnExactMarkedWays", spec := "fnExactMarkedWays", apart := false }
def FnExactMarkedWaysSaid : Prop := fnExactMarkedWaysRow.holds Try.pinned (OpenSpec.ofChange fnExactMarkedWaysSpec)

/-- ITS FALSE NEIGHBOUR: 'it returns false'. Refute it at one input. -/
def fnExactMarkedWaysWrong : ChangeSpec := { name := "fnExactMarkedWays", fn := fun _ => fun
  | [d1, d2, d3, d4] => { results := [.lit (.bool false)], args := [d1, d2, d3, d4] }
  | _ => none }
def FnExactMarkedWaysWrongFalsely : Prop := fnExactMarkedWaysRow.holds Try.pinned (OpenSpec.ofChange fnExactMarkedWaysWrong)

/-- 'laws.FnExactTailWays': WHATEVER THE INPUT: true; the input reads as it did. -/
def fnExactTailWaysSpec : ChangeSpec := { name := "fnExactTailWays", fn := fun _ => fun
  | [d1, d2, d3, d4] => { results := [.lit (.bool true)], args := [d1, d2, d3, d4] }
  | _ => none }
def fnExactTailWaysRow : OpenClaim := { program := "ytjkccfnbepbmbaa", sum := "c0de9fa13b437bb7e7403eae9a6967a0d72addc59f1f929b7877cef9a0e13da6", func := "loop.example/urnsandballs/laws.FnExactTailWays", spec := "fnExactTailWays", apart := false }
def FnExactTailWaysSaid : Prop := fnExactTailWaysRow.holds Try.pinned (OpenSpec.ofChange fnExactTailWaysSpec)

/-- ITS FALSE NEIGHBOUR: 'it returns false'. Refute it at one input. -/
def fnExactTailWaysWrong : ChangeSpec := { name := "fnExactTailWays", fn := fun _ => fun
  | [d1, d2, d3, d4] => { results := [.lit (.bool false)], args := [d1, d2, d3, d4] }
  | _ => none }
def FnExactTailWaysWrongFalsely : Prop := fnExactTailWaysRow.holds Try.pinned (OpenSpec.ofChange fnExactTailWaysWrong)

/-- 'laws.FnExactLikeliestThings': WHATEVER THE INPUT: true; the input reads as it did. -/
def fnExactLikeliestThingsSpec : ChangeSpec := { name := "fnExactLikeliestThings", fn := fun _ => fun
  | [d1, d2, d3] => { results := [.lit (.bool true)], args := [d1, d2, d3] }
  | _ => none }
def fnExactLikeliestThingsRow : OpenClaim := { program := "ytjkccfnbepbmbaa", sum := "c0de9fa13b437bb7e7403eae9a6967a0d72addc59f1f929b7877cef9a0e13da6", func := "loop.example/urnsandballs/laws.FnExactLikeliestThings", spec := "fnExactLikeliestThings", apart := false }
def FnExactLikeliestThingsSaid : Prop := fnExactLikeliestThingsRow.holds Try.pinned (OpenSpec.ofChange fnExactLikeliestThingsSpec)

/-- ITS FALSE NEIGHBOUR: 'it returns false'. Refute it at one input. -/
def fnExactLikeliestThingsWrong : ChangeSpec := { name := "fnExactLikeliestThings", fn := fun _ => fun
  | [d1, d2, d3] => { results := [.lit (.bool false)], args := [d1, d2, d3] }
  | _ => none }
def FnExactLikeliestThingsWrongFalsely : Prop := fnExactLikeliestThingsRow.holds Try.pinned (OpenSpec.ofChange fnExactLikeliestThingsWrong)

/- THE SECOND FORM. 'bulk': how many values and letters a reading holds, each counted each time it is reached (what is shared counts as often as it is met; a slice's spare places count too). A statement '..UptoSaid' is the law's where the arguments, and the package variables that the reading takes, are together of bulk at most 1048576: NARROWER than '..Said'. Prove '..Said' where nothing that the law and all that it calls make is longer than what came in: it says more and counts as full. Else prove '..UptoSaid'. A law counts once. -/
mutual
def uptoBulk {H : Type} : DataW H → Nat
  | .lit (.string bytes) => bytes.length + 1
  | .lit _ => 1
  | .nil => 1
  | .ptr d => uptoBulk d + 1
  | .slice elems spare => uptoBulkAll elems + uptoBulkAll spare + 1
  | .agg parts => uptoBulkAll parts + 1
  | .iface _ d => uptoBulk d + 1
  | .map entries => uptoBulkEntries entries + 1
  | .held _ => 1
def uptoBulkAll {H : Type} : List (DataW H) → Nat
  | [] => 0
  | d :: r => uptoBulk d + uptoBulkAll r
def uptoBulkEntries {H : Type} : List (Lit × DataW H) → Nat
  | [] => 0
  | x :: r => uptoBulkEntry x + uptoBulkEntries r
def uptoBulkEntry {H : Type} : Lit × DataW H → Nat
  | (.string bytes, d) => bytes.length + uptoBulk d + 1
  | (_, d) => uptoBulk d + 1
 end
def uptoSmall : (H : Type) → List (DataW H) → Bool := fun _ ds => decide (uptoBulkAll ds ≤ 1048576)
def OpenSpec.upto (s : _root_.Go.ChangeSpec) : _root_.Go.OpenSpec := { _root_.Go.OpenSpec.ofChange s with cond := some uptoSmall }

/-- 'laws.FnPickWays', WHERE WHAT IT READS IS OF BULK AT MOST 1048576: true; the input reads as it did. -/
def fnPickWaysUptoRow : OpenClaim := { program := "ytjkccfnbepbmbaa", sum := "c0de9fa13b437bb7e7403eae9a6967a0d72addc59f1f929b7877cef9a0e13da6", func := "loop.example/urnsandballs/laws.FnPickWays", spec := "fnPickWays", apart := false, narrowed := true }
def FnPickWaysUptoSaid : Prop := fnPickWaysUptoRow.holds Try.pinned (OpenSpec.upto fnPickWaysSpec)

/-- 'laws.FnSampleOk', WHERE WHAT IT READS IS OF BULK AT MOST 1048576: true; the input reads as it did. -/
def fnSampleOkUptoRow : OpenClaim := { program := "ytjkccfnbepbmbaa", sum := "c0de9fa13b437bb7e7403eae9a6967a0d72addc59f1f929b7877cef9a0e13da6", func := "loop.example/urnsandballs/laws.FnSampleOk", spec := "fnSampleOk", apart := false, narrowed := true }
def FnSampleOkUptoSaid : Prop := fnSampleOkUptoRow.holds Try.pinned (OpenSpec.upto fnSampleOkSpec)

/-- 'laws.FnMarkedWays', WHERE WHAT IT READS IS OF BULK AT MOST 1048576: true; the input reads as it did. -/
def fnMarkedWaysUptoRow : OpenClaim := { program := "ytjkccfnbepbmbaa", sum := "c0de9fa13b437bb7e7403eae9a6967a0d72addc59f1f929b7877cef9a0e13da6", func := "loop.example/urnsandballs/laws.FnMarkedWays", spec := "fnMarkedWays", apart := false, narrowed := true }
def FnMarkedWaysUptoSaid : Prop := fnMarkedWaysUptoRow.holds Try.pinned (OpenSpec.upto fnMarkedWaysSpec)

/-- 'laws.FnTailWays', WHERE WHAT IT READS IS OF BULK AT MOST 1048576: true; the input reads as it did. -/
def fnTailWaysUptoRow : OpenClaim := { program := "ytjkccfnbepbmbaa", sum := "c0de9fa13b437bb7e7403eae9a6967a0d72addc59f1f929b7877cef9a0e13da6", func := "loop.example/urnsandballs/laws.FnTailWays", spec := "fnTailWays", apart := false, narrowed := true }
def FnTailWaysUptoSaid : Prop := fnTailWaysUptoRow.holds Try.pinned (OpenSpec.upto fnTailWaysSpec)

/-- 'laws.FnLikeliestThings', WHERE WHAT IT READS IS OF BULK AT MOST 1048576: true; the input reads as it did. -/
def fnLikeliestThingsUptoRow : OpenClaim := { program := "ytjkccfnbepbmbaa", sum := "c0de9fa13b437bb7e7403eae9a6967a0d72addc59f1f929b7877cef9a0e13da6", func := "loop.example/urnsandballs/laws.FnLikeliestThings", spec := "fnLikeliestThings", apart := false, narrowed := true }
def FnLikeliestThingsUptoSaid : Prop := fnLikeliestThingsUptoRow.holds Try.pinned (OpenSpec.upto fnLikeliestThingsSpec)

/-- 'laws.FnPickTwice', WHERE WHAT IT READS IS OF BULK AT MOST 1048576: true; the input reads as it did. -/
def fnPickTwiceUptoRow : OpenClaim := { program := "ytjkccfnbepbmbaa", sum := "c0de9fa13b437bb7e7403eae9a6967a0d72addc59f1f929b7877cef9a0e13da6", func := "loop.example/urnsandballs/laws.FnPickTwice", spec := "fnPickTwice", apart := false, narrowed := true }
def FnPickTwiceUptoSaid : Prop := fnPickTwiceUptoRow.holds Try.pinned (OpenSpec.upto fnPickTwiceSpec)

/-- 'laws.FnExactPickWays', WHERE WHAT IT READS IS OF BULK AT MOST 1048576: true; the input reads as it did. -/
def fnExactPickWaysUptoRow : OpenClaim := { program := "ytjkccfnbepbmbaa", sum := "c0de9fa13b437bb7e7403eae9a6967a0d72addc59f1f929b7877cef9a0e13da6", func := "loop.example/urnsandballs/laws.FnExactPickWays", spec := "fnExactPickWays", apart := false, narrowed := true }
def FnExactPickWaysUptoSaid : Prop := fnExactPickWaysUptoRow.holds Try.pinned (OpenSpec.upto fnExactPickWaysSpec)

/-- 'laws.FnExactSampleOk', WHERE WHAT IT READS IS OF BULK AT MOST 1048576: true; the input reads as it did. -/
def fnExactSampleOkUptoRow : OpenClaim := { program := "ytjkccfnbepbmbaa", sum := "c0de9fa13b437bb7e7403eae9a6967a0d72addc59f1f929b7877cef9a0e13da6", func := "loop.example/urnsandballs/laws.FnExactSampleOk", spec := "fnExactSampleOk", apart := false, narrowed := true }
def FnExactSampleOkUptoSaid : Prop := fnExactSampleOkUptoRow.holds Try.pinned (OpenSpec.upto fnExactSampleOkSpec)

/-- 'laws.FnExactMarkedWays', WHERE WHAT IT READS IS OF BULK AT MOST 1048576: true; the input reads as it did. -/
def fnExactMarkedWaysUptoRow : OpenClaim := { program := "ytjkccfnbepbmbaa", sum := "c0de9fa13b437bb7e7403eae9a6967a0d72addc59f1f929b7877cef9a0e13da6", func := "loop.example/urnsandballs/laws.FnExactMarkedWays", spec := "fnExactMarkedWays", apart := false, narrowed := true }
def FnExactMarkedWaysUptoSaid : Prop := fnExactMarkedWaysUptoRow.holds Try.pinned (OpenSpec.upto fnExactMarkedWaysSpec)

/-- 'laws.FnExactTailWays', WHERE WHAT IT READS IS OF BULK AT MOST 1048576: true; the input reads as it did. -/
def fnExactTailWaysUptoRow : OpenClaim := { program := "ytjkccfnbepbmbaa", sum := "c0de9fa13b437bb7e7403eae9a6967a0d72addc59f1f929b7877cef9a0e13da6", func := "loop.example/urnsandballs/laws.FnExactTailWays", spec := "fnExactTailWays", apart := false, narrowed := true }
def FnExactTailWaysUptoSaid : Prop := fnExactTailWaysUptoRow.holds Try.pinned (OpenSpec.upto fnExactTailWaysSpec)

/-- 'laws.FnExactLikeliestThings', WHERE WHAT IT READS IS OF BULK AT MOST 1048576: true; the input reads as it did. -/
def fnExactLikeliestThingsUptoRow : OpenClaim := { program := "ytjkccfnbepbmbaa", sum := "c0de9fa13b437bb7e7403eae9a6967a0d72addc59f1f929b7877cef9a0e13da6", func := "loop.example/urnsandballs/laws.FnExactLikeliestThings", spec := "fnExactLikeliestThings", apart := false, narrowed := true }
def FnExactLikeliestThingsUptoSaid : Prop := fnExactLikeliestThingsUptoRow.holds Try.pinned (OpenSpec.upto fnExactLikeliestThingsSpec)

end Rows
end Go.Proofs.Ytjkccfnbepbmbaa
