/-
  No cell of these rows narrows 'for every input' (looked for: loops, veiled, ifaces, maps, wideKeys, modest, calm, conditions, laid).
  DERIVED. THE GIVEN ROWS OF THIS SEAT. 8 by the template 'for every input the law returns true; each argument reads behind the call as it read before'; 0 by the template 'total and deterministic' (their statements: YtbjjlgnelbcmlaaTotals.lean).
  GIVEN WITH THE SEED: the statements are not yours to turn. If you find one false, say at which input.
  Laid BY PROGRAM, IN A SANDBOX (cutbox-rows.mjs): the forced cells as the released guide's own fill.sh prints them over the translation d523df124528d503… (all of the seat's roots in one cut). By AI agents, Wed Nov 11 2026. No macro, syntax, notation, axiom, sorry.
-/
import Derived.Test.YtbjjlgnelbcmlaaChecked
import GoSem.Claim
import GoSem.ClaimJoined
import GoSem.ClaimMapViews
import Derived.JoinedTies
import Derived.KernelRfl
namespace Go.Proofs.Ytbjjlgnelbcmlaa
/- THE CELL 'sum', in the pinned program and in every row, IS THE sha256 OF THE DUMP (.gsa) THAT YtbjjlgnelbcmlaaProg.lean LOADS. Nothing in Lean hashes anything: it is a label: what it is worth is what the hold of that sum in a sandbox is worth. -/
noncomputable def Try.pinned : Pinned := { name := "ytbjjlgnelbcmlaa", sum := "d523df124528d503cbf92e7b776378fa6049ee603bc56dfa77129b21d6adcf72", checked := Try.checked }
namespace Rows
def none {H : Type} : Left H := { results := [], args := [] }

/-- 'laws.FnBoxOk': WHATEVER THE INPUT: true; the input reads as it did. -/
def fnBoxOkSpec : ChangeSpec := { name := "fnBoxOk", fn := fun _ => fun
  | [d] => { results := [.lit (.bool true)], args := [d] }
  | _ => none }
def fnBoxOkRow : OpenClaim := { program := "ytbjjlgnelbcmlaa", sum := "d523df124528d503cbf92e7b776378fa6049ee603bc56dfa77129b21d6adcf72", func := "loop.example/urnsandballs/laws.FnBoxOk", spec := "fnBoxOk", apart := false }
def FnBoxOkSaid : Prop := fnBoxOkRow.holds Try.pinned (OpenSpec.ofChange fnBoxOkSpec)

/-- ITS FALSE NEIGHBOUR: 'it returns false'. Refute it at one input. -/
def fnBoxOkWrong : ChangeSpec := { name := "fnBoxOk", fn := fun _ => fun
  | [d] => { results := [.lit (.bool false)], args := [d] }
  | _ => none }
def FnBoxOkWrongFalsely : Prop := fnBoxOkRow.holds Try.pinned (OpenSpec.ofChange fnBoxOkWrong)

/-- 'laws.FnBoxSum': WHATEVER THE INPUT: true; the input reads as it did. -/
def fnBoxSumSpec : ChangeSpec := { name := "fnBoxSum", fn := fun _ => fun
  | [d] => { results := [.lit (.bool true)], args := [d] }
  | _ => none }
def fnBoxSumRow : OpenClaim := { program := "ytbjjlgnelbcmlaa", sum := "d523df124528d503cbf92e7b776378fa6049ee603bc56dfa77129b21d6adcf72", func := "loop.example/urnsandballs/laws.FnBoxSum", spec := "fnBoxSum", apart := false }
def FnBoxSumSaid : Prop := fnBoxSumRow.holds Try.pinned (OpenSpec.ofChange fnBoxSumSpec)

/-- ITS FALSE NEIGHBOUR: 'it returns false'. Refute it at one input. -/
def fnBoxSumWrong : ChangeSpec := { name := "fnBoxSum", fn := fun _ => fun
  | [d] => { results := [.lit (.bool false)], args := [d] }
  | _ => none }
def FnBoxSumWrongFalsely : Prop := fnBoxSumRow.holds Try.pinned (OpenSpec.ofChange fnBoxSumWrong)

/-- 'laws.FnNextChance': WHATEVER THE INPUT: true; the input reads as it did. -/
def fnNextChanceSpec : ChangeSpec := { name := "fnNextChance", fn := fun _ => fun
  | [d] => { results := [.lit (.bool true)], args := [d] }
  | _ => none }
def fnNextChanceRow : OpenClaim := { program := "ytbjjlgnelbcmlaa", sum := "d523df124528d503cbf92e7b776378fa6049ee603bc56dfa77129b21d6adcf72", func := "loop.example/urnsandballs/laws.FnNextChance", spec := "fnNextChance", unfollowed := true, recurses := true, apart := false }
def FnNextChanceSaid : Prop := fnNextChanceRow.holds Try.pinned (OpenSpec.ofChange fnNextChanceSpec)

/-- ITS FALSE NEIGHBOUR: 'it returns false'. Refute it at one input. -/
def fnNextChanceWrong : ChangeSpec := { name := "fnNextChance", fn := fun _ => fun
  | [d] => { results := [.lit (.bool false)], args := [d] }
  | _ => none }
def FnNextChanceWrongFalsely : Prop := fnNextChanceRow.holds Try.pinned (OpenSpec.ofChange fnNextChanceWrong)

/-- 'laws.FnBoxMean': WHATEVER THE INPUT: true; the input reads as it did. -/
def fnBoxMeanSpec : ChangeSpec := { name := "fnBoxMean", fn := fun _ => fun
  | [d] => { results := [.lit (.bool true)], args := [d] }
  | _ => none }
def fnBoxMeanRow : OpenClaim := { program := "ytbjjlgnelbcmlaa", sum := "d523df124528d503cbf92e7b776378fa6049ee603bc56dfa77129b21d6adcf72", func := "loop.example/urnsandballs/laws.FnBoxMean", spec := "fnBoxMean", unfollowed := true, recurses := true, apart := false }
def FnBoxMeanSaid : Prop := fnBoxMeanRow.holds Try.pinned (OpenSpec.ofChange fnBoxMeanSpec)

/-- ITS FALSE NEIGHBOUR: 'it returns false'. Refute it at one input. -/
def fnBoxMeanWrong : ChangeSpec := { name := "fnBoxMean", fn := fun _ => fun
  | [d] => { results := [.lit (.bool false)], args := [d] }
  | _ => none }
def FnBoxMeanWrongFalsely : Prop := fnBoxMeanRow.holds Try.pinned (OpenSpec.ofChange fnBoxMeanWrong)

/-- 'laws.FnLikeliestBox': WHATEVER THE INPUT: true; the input reads as it did. -/
def fnLikeliestBoxSpec : ChangeSpec := { name := "fnLikeliestBox", fn := fun _ => fun
  | [d] => { results := [.lit (.bool true)], args := [d] }
  | _ => none }
def fnLikeliestBoxRow : OpenClaim := { program := "ytbjjlgnelbcmlaa", sum := "d523df124528d503cbf92e7b776378fa6049ee603bc56dfa77129b21d6adcf72", func := "loop.example/urnsandballs/laws.FnLikeliestBox", spec := "fnLikeliestBox", apart := false }
def FnLikeliestBoxSaid : Prop := fnLikeliestBoxRow.holds Try.pinned (OpenSpec.ofChange fnLikeliestBoxSpec)

/-- ITS FALSE NEIGHBOUR: 'it returns false'. Refute it at one input. -/
def fnLikeliestBoxWrong : ChangeSpec := { name := "fnLikeliestBox", fn := fun _ => fun
  | [d] => { results := [.lit (.bool false)], args := [d] }
  | _ => none }
def FnLikeliestBoxWrongFalsely : Prop := fnLikeliestBoxRow.holds Try.pinned (OpenSpec.ofChange fnLikeliestBoxWrong)

/-- 'laws.FnBoxWeights': WHATEVER THE INPUT: true; the input reads as it did. -/
def fnBoxWeightsSpec : ChangeSpec := { name := "fnBoxWeights", fn := fun _ => fun
  | [d] => { results := [.lit (.bool true)], args := [d] }
  | _ => none }
def fnBoxWeightsRow : OpenClaim := { program := "ytbjjlgnelbcmlaa", sum := "d523df124528d503cbf92e7b776378fa6049ee603bc56dfa77129b21d6adcf72", func := "loop.example/urnsandballs/laws.FnBoxWeights", spec := "fnBoxWeights", apart := false }
def FnBoxWeightsSaid : Prop := fnBoxWeightsRow.holds Try.pinned (OpenSpec.ofChange fnBoxWeightsSpec)

/-- ITS FALSE NEIGHBOUR: 'it returns false'. Refute it at one input. -/
def fnBoxWeightsWrong : ChangeSpec := { name := "fnBoxWeights", fn := fun _ => fun
  | [d] => { results := [.lit (.bool false)], args := [d] }
  | _ => none }
def FnBoxWeightsWrongFalsely : Prop := fnBoxWeightsRow.holds Try.pinned (OpenSpec.ofChange fnBoxWeightsWrong)

/-- 'laws.FnUnknownUrn': WHATEVER THE INPUT: true; the input reads as it did. -/
def fnUnknownUrnSpec : ChangeSpec := { name := "fnUnknownUrn", fn := fun _ => fun
  | [d] => { results := [.lit (.bool true)], args := [d] }
  | _ => none }
def fnUnknownUrnRow : OpenClaim := { program := "ytbjjlgnelbcmlaa", sum := "d523df124528d503cbf92e7b776378fa6049ee603bc56dfa77129b21d6adcf72", func := "loop.example/urnsandballs/laws.FnUnknownUrn", spec := "fnUnknownUrn", unfollowed := true, recurses := true, apart := false }
def FnUnknownUrnSaid : Prop := fnUnknownUrnRow.holds Try.pinned (OpenSpec.ofChange fnUnknownUrnSpec)

/-- ITS FALSE NEIGHBOUR: 'it returns false'. Refute it at one input. -/
def fnUnknownUrnWrong : ChangeSpec := { name := "fnUnknownUrn", fn := fun _ => fun
  | [d] => { results := [.lit (.bool false)], args := [d] }
  | _ => none }
def FnUnknownUrnWrongFalsely : Prop := fnUnknownUrnRow.holds Try.pinned (OpenSpec.ofChange fnUnknownUrnWrong)

/-- 'laws.FnExactBoxOk': WHATEVER THE INPUT: true; the input reads as it did. -/
def fnExactBoxOkSpec : ChangeSpec := { name := "fnExactBoxOk", fn := fun _ => fun
  | [d1, d2, d3] => { results := [.lit (.bool true)], args := [d1, d2, d3] }
  | _ => none }
def fnExactBoxOkRow : OpenClaim := { program := "ytbjjlgnelbcmlaa", sum := "d523df124528d503cbf92e7b776378fa6049ee603bc56dfa77129b21d6adcf72", func := "loop.example/urnsandballs/laws.FnExactBoxOk", spec := "fnExactBoxOk", apart := false }
def FnExactBoxOkSaid : Prop := fnExactBoxOkRow.holds Try.pinned (OpenSpec.ofChange fnExactBoxOkSpec)

/-- ITS FALSE NEIGHBOUR: 'it returns false'. Refute it at one input. -/
def fnExactBoxOkWrong : ChangeSpec := { name := "fnExactBoxOk", fn := fun _ => fun
  | [d1, d2, d3] => { results := [.lit (.bool false)], args := [d1, d2, d3] }
  | _ => none }
def FnExactBoxOkWrongFalsely : Prop := fnExactBoxOkRow.holds Try.pinned (OpenSpec.ofChange fnExactBoxOkWrong)

/- THE SECOND FORM. 'bulk': how many values and letters a reading holds, each counted each time it is reached (what is shared counts as often as it is met; a slice's spare places count too). A statement '..UptoSaid' is the law's where the arguments, and the package variables that the reading takes, are together of bulk at most 1048576: NARROWER than '..Said'. Prove '..Said' where nothing that the law and all that it calls make is longer than what came in: it says more and counts as full. Else prove '..UptoSaid'. A law counts once. -/
mutual
def uptoBulk {H : Type} : DataW H → Nat
  | .lit (.string bytes) => bytes.length + 1
  | .lit _ => 1
  | .nil => 1
  | .ptr d => uptoBulk d + 1
  | .slice elems spare => uptoBulkAll elems + uptoBulkAll spare + 1
  | .agg parts => uptoBulkAll parts + 1
  | .iface _ d => uptoBulk d + 1
  | .map entries => uptoBulkEntries entries + 1
  | .held _ => 1
def uptoBulkAll {H : Type} : List (DataW H) → Nat
  | [] => 0
  | d :: r => uptoBulk d + uptoBulkAll r
def uptoBulkEntries {H : Type} : List (Lit × DataW H) → Nat
  | [] => 0
  | x :: r => uptoBulkEntry x + uptoBulkEntries r
def uptoBulkEntry {H : Type} : Lit × DataW H → Nat
  | (.string bytes, d) => bytes.length + uptoBulk d + 1
  | (_, d) => uptoBulk d + 1
 end
def uptoSmall : (H : Type) → List (DataW H) → Bool := fun _ ds => decide (uptoBulkAll ds ≤ 1048576)
def OpenSpec.upto (s : _root_.Go.ChangeSpec) : _root_.Go.OpenSpec := { _root_.Go.OpenSpec.ofChange s with cond := some uptoSmall }

/-- 'laws.FnBoxOk', WHERE WHAT IT READS IS OF BULK AT MOST 1048576: true; the input reads as it did. -/
def fnBoxOkUptoRow : OpenClaim := { program := "ytbjjlgnelbcmlaa", sum := "d523df124528d503cbf92e7b776378fa6049ee603bc56dfa77129b21d6adcf72", func := "loop.example/urnsandballs/laws.FnBoxOk", spec := "fnBoxOk", apart := false, narrowed := true }
def FnBoxOkUptoSaid : Prop := fnBoxOkUptoRow.holds Try.pinned (OpenSpec.upto fnBoxOkSpec)

/-- 'laws.FnBoxSum', WHERE WHAT IT READS IS OF BULK AT MOST 1048576: true; the input reads as it did. -/
def fnBoxSumUptoRow : OpenClaim := { program := "ytbjjlgnelbcmlaa", sum := "d523df124528d503cbf92e7b776378fa6049ee603bc56dfa77129b21d6adcf72", func := "loop.example/urnsandballs/laws.FnBoxSum", spec := "fnBoxSum", apart := false, narrowed := true }
def FnBoxSumUptoSaid : Prop := fnBoxSumUptoRow.holds Try.pinned (OpenSpec.upto fnBoxSumSpec)

/-- 'laws.FnNextChance', WHERE WHAT IT READS IS OF BULK AT MOST 1048576: true; the input reads as it did. -/
def fnNextChanceUptoRow : OpenClaim := { program := "ytbjjlgnelbcmlaa", sum := "d523df124528d503cbf92e7b776378fa6049ee603bc56dfa77129b21d6adcf72", func := "loop.example/urnsandballs/laws.FnNextChance", spec := "fnNextChance", unfollowed := true, recurses := true, apart := false, narrowed := true }
def FnNextChanceUptoSaid : Prop := fnNextChanceUptoRow.holds Try.pinned (OpenSpec.upto fnNextChanceSpec)

/-- 'laws.FnBoxMean', WHERE WHAT IT READS IS OF BULK AT MOST 1048576: true; the input reads as it did. -/
def fnBoxMeanUptoRow : OpenClaim := { program := "ytbjjlgnelbcmlaa", sum := "d523df124528d503cbf92e7b776378fa6049ee603bc56dfa77129b21d6adcf72", func := "loop.example/urnsandballs/laws.FnBoxMean", spec := "fnBoxMean", unfollowed := true, recurses := true, apart := false, narrowed := true }
def FnBoxMeanUptoSaid : Prop := fnBoxMeanUptoRow.holds Try.pinned (OpenSpec.upto fnBoxMeanSpec)

/-- 'laws.FnLikeliestBox', WHERE WHAT IT READS IS OF BULK AT MOST 1048576: true; the input reads as it did. -/
def fnLikeliestBoxUptoRow : OpenClaim := { program := "ytbjjlgnelbcmlaa", sum := "d523df124528d503cbf92e7b776378fa6049ee603bc56dfa77129b21d6adcf72", func := "loop.example/urnsandballs/laws.FnLikeliestBox", spec := "fnLikeliestBox", apart := false, narrowed := true }
def FnLikeliestBoxUptoSaid : Prop := fnLikeliestBoxUptoRow.holds Try.pinned (OpenSpec.upto fnLikeliestBoxSpec)

/-- 'laws.FnBoxWeights', WHERE WHAT IT READS IS OF BULK AT MOST 1048576: true; the input reads as it did. -/
def fnBoxWeightsUptoRow : OpenClaim := { program := "ytbjjlgnelbcmlaa", sum := "d523df124528d503cbf92e7b776378fa6049ee603bc56dfa77129b21d6adcf72", func := "loop.example/urnsandballs/laws.FnBoxWeights", spec := "fnBoxWeights", apart := false, narrowed := true }
def FnBoxWeightsUptoSaid : Prop := fnBoxWeightsUptoRow.holds Try.pinned (OpenSpec.upto fnBoxWeightsSpec)

/-- 'laws.FnUnknownUrn', WHERE WHAT IT READS IS OF BULK AT MOST 1048576: true; the input reads as it did. -/
def fnUnknownUrnUptoRow : OpenClaim := { program := "ytbjjlgnelbcmlaa", sum := "d523df124528d503cbf92e7b776378fa6049ee603bc56dfa77129b21d6adcf72", func := "loop.example/urnsandballs/laws.FnUnknownUrn", spec := "fnUnknownUrn", unfollowed := true, recurses := true, apart := false, narrowed := true }
def FnUnknownUrnUptoSaid : Prop := fnUnknownUrnUptoRow.holds Try.pinned (OpenSpec.upto fnUnknownUrnSpec)

/-- 'laws.FnExactBoxOk', WHERE WHAT IT READS IS OF BULK AT MOST 1048576: true; the input reads as it did. -/
def fnExactBoxOkUptoRow : OpenClaim := { program := "ytbjjlgnelbcmlaa", sum := "d523df124528d503cbf92e7b776378fa6049ee603bc56dfa77129b21d6adcf72", func := "loop.example/urnsandballs/laws.FnExactBoxOk", spec := "fnExactBoxOk", apart := false, narrowed := true }
def FnExactBoxOkUptoSaid : Prop := fnExactBoxOkUptoRow.holds Try.pinned (OpenSpec.upto fnExactBoxOkSpec)

end Rows
end Go.Proofs.Ytbjjlgnelbcmlaa
