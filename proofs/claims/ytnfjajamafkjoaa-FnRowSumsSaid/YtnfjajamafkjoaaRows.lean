/-
  No cell of these rows narrows 'for every input' (looked for: loops, veiled, ifaces, maps, wideKeys, modest, calm, conditions, laid).
  DERIVED. THE GIVEN ROWS OF THIS SEAT. 11 by the template 'for every input the law returns true; each argument reads behind the call as it read before'; 0 by the template 'total and deterministic' (their statements: YtnfjajamafkjoaaTotals.lean).
  GIVEN WITH THE SEED: the statements are not yours to turn. If you find one false, say at which input.
  Laid BY PROGRAM, IN A SANDBOX (cutbox-rows.mjs): the forced cells as the released guide's own fill.sh prints them over the translation 5c336b3176284a68… (all of the seat's roots in one cut). By AI agents, Wed Nov 11 2026. No macro, syntax, notation, axiom, sorry.
-/
import Derived.Test.YtnfjajamafkjoaaChecked
import GoSem.Claim
import GoSem.ClaimJoined
import GoSem.ClaimMapViews
import Derived.JoinedTies
import Derived.KernelRfl
namespace Go.Proofs.Ytnfjajamafkjoaa
/- THE CELL 'sum', in the pinned program and in every row, IS THE sha256 OF THE DUMP (.gsa) THAT YtnfjajamafkjoaaProg.lean LOADS. Nothing in Lean hashes anything: it is a label: what it is worth is what the hold of that sum in a sandbox is worth. -/
noncomputable def Try.pinned : Pinned := { name := "ytnfjajamafkjoaa", sum := "5c336b3176284a6846606534cde25171d41128d2d6cc5c495c1ebb685b917edb", checked := Try.checked }
namespace Rows
def none {H : Type} : Left H := { results := [], args := [] }

/-- 'laws.FnExactMixOk': WHATEVER THE INPUT: true; the input reads as it did. -/
def fnExactMixOkSpec : ChangeSpec := { name := "fnExactMixOk", fn := fun _ => fun
  | [d] => { results := [.lit (.bool true)], args := [d] }
  | _ => none }
def fnExactMixOkRow : OpenClaim := { program := "ytnfjajamafkjoaa", sum := "5c336b3176284a6846606534cde25171d41128d2d6cc5c495c1ebb685b917edb", func := "loop.example/urnsandballs/laws.FnExactMixOk", spec := "fnExactMixOk", apart := false }
def FnExactMixOkSaid : Prop := fnExactMixOkRow.holds Try.pinned (OpenSpec.ofChange fnExactMixOkSpec)

/-- ITS FALSE NEIGHBOUR: 'it returns false'. Refute it at one input. -/
def fnExactMixOkWrong : ChangeSpec := { name := "fnExactMixOk", fn := fun _ => fun
  | [d] => { results := [.lit (.bool false)], args := [d] }
  | _ => none }
def FnExactMixOkWrongFalsely : Prop := fnExactMixOkRow.holds Try.pinned (OpenSpec.ofChange fnExactMixOkWrong)

/-- 'laws.FnExactMixedRow': WHATEVER THE INPUT: true; the input reads as it did. -/
def fnExactMixedRowSpec : ChangeSpec := { name := "fnExactMixedRow", fn := fun _ => fun
  | [d1, d2, d3, d4] => { results := [.lit (.bool true)], args := [d1, d2, d3, d4] }
  | _ => none }
def fnExactMixedRowRow : OpenClaim := { program := "ytnfjajamafkjoaa", sum := "5c336b3176284a6846606534cde25171d41128d2d6cc5c495c1ebb685b917edb", func := "loop.example/urnsandballs/laws.FnExactMixedRow", spec := "fnExactMixedRow", unfollowed := true, recurses := true, apart := false }
def FnExactMixedRowSaid : Prop := fnExactMixedRowRow.holds Try.pinned (OpenSpec.ofChange fnExactMixedRowSpec)

/-- ITS FALSE NEIGHBOUR: 'it returns false'. Refute it at one input. -/
def fnExactMixedRowWrong : ChangeSpec := { name := "fnExactMixedRow", fn := fun _ => fun
  | [d1, d2, d3, d4] => { results := [.lit (.bool false)], args := [d1, d2, d3, d4] }
  | _ => none }
def FnExactMixedRowWrongFalsely : Prop := fnExactMixedRowRow.holds Try.pinned (OpenSpec.ofChange fnExactMixedRowWrong)

/-- 'laws.FnExactRowSums': WHATEVER THE INPUT: true; the input reads as it did. -/
def fnExactRowSumsSpec : ChangeSpec := { name := "fnExactRowSums", fn := fun _ => fun
  | [d] => { results := [.lit (.bool true)], args := [d] }
  | _ => none }
def fnExactRowSumsRow : OpenClaim := { program := "ytnfjajamafkjoaa", sum := "5c336b3176284a6846606534cde25171d41128d2d6cc5c495c1ebb685b917edb", func := "loop.example/urnsandballs/laws.FnExactRowSums", spec := "fnExactRowSums", unfollowed := true, recurses := true, apart := false }
def FnExactRowSumsSaid : Prop := fnExactRowSumsRow.holds Try.pinned (OpenSpec.ofChange fnExactRowSumsSpec)

/-- ITS FALSE NEIGHBOUR: 'it returns false'. Refute it at one input. -/
def fnExactRowSumsWrong : ChangeSpec := { name := "fnExactRowSums", fn := fun _ => fun
  | [d] => { results := [.lit (.bool false)], args := [d] }
  | _ => none }
def FnExactRowSumsWrongFalsely : Prop := fnExactRowSumsRow.holds Try.pinned (OpenSpec.ofChange fnExactRowSumsWrong)

/-- 'laws.FnExactSampleRow': WHATEVER THE INPUT: true; the input reads as it did. -/
def fnExactSampleRowSpec : ChangeSpec := { name := "fnExactSampleRow", fn := fun _ => fun
  | [d1, d2, d3] => { results := [.lit (.bool true)], args := [d1, d2, d3] }
  | _ => none }
def fnExactSampleRowRow : OpenClaim := { program := "ytnfjajamafkjoaa", sum := "5c336b3176284a6846606534cde25171d41128d2d6cc5c495c1ebb685b917edb", func := "loop.example/urnsandballs/laws.FnExactSampleRow", spec := "fnExactSampleRow", apart := false }
def FnExactSampleRowSaid : Prop := fnExactSampleRowRow.holds Try.pinned (OpenSpec.ofChange fnExactSampleRowSpec)

/-- ITS FALSE NEIGHBOUR: 'it returns false'. Refute it at one input. -/
def fnExactSampleRowWrong : ChangeSpec := { name := "fnExactSampleRow", fn := fun _ => fun
  | [d1, d2, d3] => { results := [.lit (.bool false)], args := [d1, d2, d3] }
  | _ => none }
def FnExactSampleRowWrongFalsely : Prop := fnExactSampleRowRow.holds Try.pinned (OpenSpec.ofChange fnExactSampleRowWrong)

/-- 'laws.FnExactShorterRow': WHATEVER THE INPUT: true; the input reads as it did. -/
def fnExactShorterRowSpec : ChangeSpec := { name := "fnExactShorterRow", fn := fun _ => fun
  | [d] => { results := [.lit (.bool true)], args := [d] }
  | _ => none }
def fnExactShorterRowRow : OpenClaim := { program := "ytnfjajamafkjoaa", sum := "5c336b3176284a6846606534cde25171d41128d2d6cc5c495c1ebb685b917edb", func := "loop.example/urnsandballs/laws.FnExactShorterRow", spec := "fnExactShorterRow", apart := false }
def FnExactShorterRowSaid : Prop := fnExactShorterRowRow.holds Try.pinned (OpenSpec.ofChange fnExactShorterRowSpec)

/-- ITS FALSE NEIGHBOUR: 'it returns false'. Refute it at one input. -/
def fnExactShorterRowWrong : ChangeSpec := { name := "fnExactShorterRow", fn := fun _ => fun
  | [d] => { results := [.lit (.bool false)], args := [d] }
  | _ => none }
def FnExactShorterRowWrongFalsely : Prop := fnExactShorterRowRow.holds Try.pinned (OpenSpec.ofChange fnExactShorterRowWrong)

/-- 'laws.FnMixOk': WHATEVER THE INPUT: true; the input reads as it did. -/
def fnMixOkSpec : ChangeSpec := { name := "fnMixOk", fn := fun _ => fun
  | [d] => { results := [.lit (.bool true)], args := [d] }
  | _ => none }
def fnMixOkRow : OpenClaim := { program := "ytnfjajamafkjoaa", sum := "5c336b3176284a6846606534cde25171d41128d2d6cc5c495c1ebb685b917edb", func := "loop.example/urnsandballs/laws.FnMixOk", spec := "fnMixOk", apart := false }
def FnMixOkSaid : Prop := fnMixOkRow.holds Try.pinned (OpenSpec.ofChange fnMixOkSpec)

/-- ITS FALSE NEIGHBOUR: 'it returns false'. Refute it at one input. -/
def fnMixOkWrong : ChangeSpec := { name := "fnMixOk", fn := fun _ => fun
  | [d] => { results := [.lit (.bool false)], args := [d] }
  | _ => none }
def FnMixOkWrongFalsely : Prop := fnMixOkRow.holds Try.pinned (OpenSpec.ofChange fnMixOkWrong)

/-- 'laws.FnMixedRow': WHATEVER THE INPUT: true; the input reads as it did. -/
def fnMixedRowSpec : ChangeSpec := { name := "fnMixedRow", fn := fun _ => fun
  | [d] => { results := [.lit (.bool true)], args := [d] }
  | _ => none }
def fnMixedRowRow : OpenClaim := { program := "ytnfjajamafkjoaa", sum := "5c336b3176284a6846606534cde25171d41128d2d6cc5c495c1ebb685b917edb", func := "loop.example/urnsandballs/laws.FnMixedRow", spec := "fnMixedRow", unfollowed := true, recurses := true, apart := false }
def FnMixedRowSaid : Prop := fnMixedRowRow.holds Try.pinned (OpenSpec.ofChange fnMixedRowSpec)

/-- ITS FALSE NEIGHBOUR: 'it returns false'. Refute it at one input. -/
def fnMixedRowWrong : ChangeSpec := { name := "fnMixedRow", fn := fun _ => fun
  | [d] => { results := [.lit (.bool false)], args := [d] }
  | _ => none }
def FnMixedRowWrongFalsely : Prop := fnMixedRowRow.holds Try.pinned (OpenSpec.ofChange fnMixedRowWrong)

/-- 'laws.FnRowSums': WHATEVER THE INPUT: true; the input reads as it did. -/
def fnRowSumsSpec : ChangeSpec := { name := "fnRowSums", fn := fun _ => fun
  | [d] => { results := [.lit (.bool true)], args := [d] }
  | _ => none }
def fnRowSumsRow : OpenClaim := { program := "ytnfjajamafkjoaa", sum := "5c336b3176284a6846606534cde25171d41128d2d6cc5c495c1ebb685b917edb", func := "loop.example/urnsandballs/laws.FnRowSums", spec := "fnRowSums", unfollowed := true, recurses := true, apart := false }
def FnRowSumsSaid : Prop := fnRowSumsRow.holds Try.pinned (OpenSpec.ofChange fnRowSumsSpec)

/-- ITS FALSE NEIGHBOUR: 'it returns false'. Refute it at one input. -/
def fnRowSumsWrong : ChangeSpec := { name := "fnRowSums", fn := fun _ => fun
  | [d] => { results := [.lit (.bool false)], args := [d] }
  | _ => none }
def FnRowSumsWrongFalsely : Prop := fnRowSumsRow.holds Try.pinned (OpenSpec.ofChange fnRowSumsWrong)

/-- 'laws.FnSampleMean': WHATEVER THE INPUT: true; the input reads as it did. -/
def fnSampleMeanSpec : ChangeSpec := { name := "fnSampleMean", fn := fun _ => fun
  | [d] => { results := [.lit (.bool true)], args := [d] }
  | _ => none }
def fnSampleMeanRow : OpenClaim := { program := "ytnfjajamafkjoaa", sum := "5c336b3176284a6846606534cde25171d41128d2d6cc5c495c1ebb685b917edb", func := "loop.example/urnsandballs/laws.FnSampleMean", spec := "fnSampleMean", unfollowed := true, recurses := true, apart := false }
def FnSampleMeanSaid : Prop := fnSampleMeanRow.holds Try.pinned (OpenSpec.ofChange fnSampleMeanSpec)

/-- ITS FALSE NEIGHBOUR: 'it returns false'. Refute it at one input. -/
def fnSampleMeanWrong : ChangeSpec := { name := "fnSampleMean", fn := fun _ => fun
  | [d] => { results := [.lit (.bool false)], args := [d] }
  | _ => none }
def FnSampleMeanWrongFalsely : Prop := fnSampleMeanRow.holds Try.pinned (OpenSpec.ofChange fnSampleMeanWrong)

/-- 'laws.FnSampleRow': WHATEVER THE INPUT: true; the input reads as it did. -/
def fnSampleRowSpec : ChangeSpec := { name := "fnSampleRow", fn := fun _ => fun
  | [d] => { results := [.lit (.bool true)], args := [d] }
  | _ => none }
def fnSampleRowRow : OpenClaim := { program := "ytnfjajamafkjoaa", sum := "5c336b3176284a6846606534cde25171d41128d2d6cc5c495c1ebb685b917edb", func := "loop.example/urnsandballs/laws.FnSampleRow", spec := "fnSampleRow", unfollowed := true, recurses := true, apart := false }
def FnSampleRowSaid : Prop := fnSampleRowRow.holds Try.pinned (OpenSpec.ofChange fnSampleRowSpec)

/-- ITS FALSE NEIGHBOUR: 'it returns false'. Refute it at one input. -/
def fnSampleRowWrong : ChangeSpec := { name := "fnSampleRow", fn := fun _ => fun
  | [d] => { results := [.lit (.bool false)], args := [d] }
  | _ => none }
def FnSampleRowWrongFalsely : Prop := fnSampleRowRow.holds Try.pinned (OpenSpec.ofChange fnSampleRowWrong)

/-- 'laws.FnShorterRow': WHATEVER THE INPUT: true; the input reads as it did. -/
def fnShorterRowSpec : ChangeSpec := { name := "fnShorterRow", fn := fun _ => fun
  | [d] => { results := [.lit (.bool true)], args := [d] }
  | _ => none }
def fnShorterRowRow : OpenClaim := { program := "ytnfjajamafkjoaa", sum := "5c336b3176284a6846606534cde25171d41128d2d6cc5c495c1ebb685b917edb", func := "loop.example/urnsandballs/laws.FnShorterRow", spec := "fnShorterRow", unfollowed := true, recurses := true, apart := false }
def FnShorterRowSaid : Prop := fnShorterRowRow.holds Try.pinned (OpenSpec.ofChange fnShorterRowSpec)

/-- ITS FALSE NEIGHBOUR: 'it returns false'. Refute it at one input. -/
def fnShorterRowWrong : ChangeSpec := { name := "fnShorterRow", fn := fun _ => fun
  | [d] => { results := [.lit (.bool false)], args := [d] }
  | _ => none }
def FnShorterRowWrongFalsely : Prop := fnShorterRowRow.holds Try.pinned (OpenSpec.ofChange fnShorterRowWrong)

/- THE SECOND FORM. 'bulk': how many values and letters a reading holds, each counted each time it is reached (what is shared counts as often as it is met; a slice's spare places count too). A statement '..UptoSaid' is the law's where the arguments, and the package variables that the reading takes, are together of bulk at most 1048576: NARROWER than '..Said'. Prove '..Said' where nothing that the law and all that it calls make is longer than what came in: it says more and counts as full. Else prove '..UptoSaid'. A law counts once. -/
mutual
def uptoBulk {H : Type} : DataW H → Nat
  | .lit (.string bytes) => bytes.length + 1
  | .lit _ => 1
  | .nil => 1
  | .ptr d => uptoBulk d + 1
  | .slice elems spare => uptoBulkAll elems + uptoBulkAll spare + 1
  | .agg parts => uptoBulkAll parts + 1
  | .iface _ d => uptoBulk d + 1
  | .map entries => uptoBulkEntries entries + 1
  | .held _ => 1
def uptoBulkAll {H : Type} : List (DataW H) → Nat
  | [] => 0
  | d :: r => uptoBulk d + uptoBulkAll r
def uptoBulkEntries {H : Type} : List (Lit × DataW H) → Nat
  | [] => 0
  | x :: r => uptoBulkEntry x + uptoBulkEntries r
def uptoBulkEntry {H : Type} : Lit × DataW H → Nat
  | (.string bytes, d) => bytes.length + uptoBulk d + 1
  | (_, d) => uptoBulk d + 1
 end
def uptoSmall : (H : Type) → List (DataW H) → Bool := fun _ ds => decide (uptoBulkAll ds ≤ 1048576)
def OpenSpec.upto (s : _root_.Go.ChangeSpec) : _root_.Go.OpenSpec := { _root_.Go.OpenSpec.ofChange s with cond := some uptoSmall }

/-- 'laws.FnExactMixOk', WHERE WHAT IT READS IS OF BULK AT MOST 1048576: true; the input reads as it did. -/
def fnExactMixOkUptoRow : OpenClaim := { program := "ytnfjajamafkjoaa", sum := "5c336b3176284a6846606534cde25171d41128d2d6cc5c495c1ebb685b917edb", func := "loop.example/urnsandballs/laws.FnExactMixOk", spec := "fnExactMixOk", apart := false, narrowed := true }
def FnExactMixOkUptoSaid : Prop := fnExactMixOkUptoRow.holds Try.pinned (OpenSpec.upto fnExactMixOkSpec)

/-- 'laws.FnExactMixedRow', WHERE WHAT IT READS IS OF BULK AT MOST 1048576: true; the input reads as it did. -/
def fnExactMixedRowUptoRow : OpenClaim := { program := "ytnfjajamafkjoaa", sum := "5c336b3176284a6846606534cde25171d41128d2d6cc5c495c1ebb685b917edb", func := "loop.example/urnsandballs/laws.FnExactMixedRow", spec := "fnExactMixedRow", unfollowed := true, recurses := true, apart := false, narrowed := true }
def FnExactMixedRowUptoSaid : Prop := fnExactMixedRowUptoRow.holds Try.pinned (OpenSpec.upto fnExactMixedRowSpec)

/-- 'laws.FnExactRowSums', WHERE WHAT IT READS IS OF BULK AT MOST 1048576: true; the input reads as it did. -/
def fnExactRowSumsUptoRow : OpenClaim := { program := "ytnfjajamafkjoaa", sum := "5c336b3176284a6846606534cde25171d41128d2d6cc5c495c1ebb685b917edb", func := "loop.example/urnsandballs/laws.FnExactRowSums", spec := "fnExactRowSums", unfollowed := true, recurses := true, apart := false, narrowed := true }
def FnExactRowSumsUptoSaid : Prop := fnExactRowSumsUptoRow.holds Try.pinned (OpenSpec.upto fnExactRowSumsSpec)

/-- 'laws.FnExactSampleRow', WHERE WHAT IT READS IS OF BULK AT MOST 1048576: true; the input reads as it did. -/
def fnExactSampleRowUptoRow : OpenClaim := { program := "ytnfjajamafkjoaa", sum := "5c336b3176284a6846606534cde25171d41128d2d6cc5c495c1ebb685b917edb", func := "loop.example/urnsandballs/laws.FnExactSampleRow", spec := "fnExactSampleRow", apart := false, narrowed := true }
def FnExactSampleRowUptoSaid : Prop := fnExactSampleRowUptoRow.holds Try.pinned (OpenSpec.upto fnExactSampleRowSpec)

/-- 'laws.FnExactShorterRow', WHERE WHAT IT READS IS OF BULK AT MOST 1048576: true; the input reads as it did. -/
def fnExactShorterRowUptoRow : OpenClaim := { program := "ytnfjajamafkjoaa", sum := "5c336b3176284a6846606534cde25171d41128d2d6cc5c495c1ebb685b917edb", func := "loop.example/urnsandballs/laws.FnExactShorterRow", spec := "fnExactShorterRow", apart := false, narrowed := true }
def FnExactShorterRowUptoSaid : Prop := fnExactShorterRowUptoRow.holds Try.pinned (OpenSpec.upto fnExactShorterRowSpec)

/-- 'laws.FnMixOk', WHERE WHAT IT READS IS OF BULK AT MOST 1048576: true; the input reads as it did. -/
def fnMixOkUptoRow : OpenClaim := { program := "ytnfjajamafkjoaa", sum := "5c336b3176284a6846606534cde25171d41128d2d6cc5c495c1ebb685b917edb", func := "loop.example/urnsandballs/laws.FnMixOk", spec := "fnMixOk", apart := false, narrowed := true }
def FnMixOkUptoSaid : Prop := fnMixOkUptoRow.holds Try.pinned (OpenSpec.upto fnMixOkSpec)

/-- 'laws.FnMixedRow', WHERE WHAT IT READS IS OF BULK AT MOST 1048576: true; the input reads as it did. -/
def fnMixedRowUptoRow : OpenClaim := { program := "ytnfjajamafkjoaa", sum := "5c336b3176284a6846606534cde25171d41128d2d6cc5c495c1ebb685b917edb", func := "loop.example/urnsandballs/laws.FnMixedRow", spec := "fnMixedRow", unfollowed := true, recurses := true, apart := false, narrowed := true }
def FnMixedRowUptoSaid : Prop := fnMixedRowUptoRow.holds Try.pinned (OpenSpec.upto fnMixedRowSpec)

/-- 'laws.FnRowSums', WHERE WHAT IT READS IS OF BULK AT MOST 1048576: true; the input reads as it did. -/
def fnRowSumsUptoRow : OpenClaim := { program := "ytnfjajamafkjoaa", sum := "5c336b3176284a6846606534cde25171d41128d2d6cc5c495c1ebb685b917edb", func := "loop.example/urnsandballs/laws.FnRowSums", spec := "fnRowSums", unfollowed := true, recurses := true, apart := false, narrowed := true }
def FnRowSumsUptoSaid : Prop := fnRowSumsUptoRow.holds Try.pinned (OpenSpec.upto fnRowSumsSpec)

/-- 'laws.FnSampleMean', WHERE WHAT IT READS IS OF BULK AT MOST 1048576: true; the input reads as it did. -/
def fnSampleMeanUptoRow : OpenClaim := { program := "ytnfjajamafkjoaa", sum := "5c336b3176284a6846606534cde25171d41128d2d6cc5c495c1ebb685b917edb", func := "loop.example/urnsandballs/laws.FnSampleMean", spec := "fnSampleMean", unfollowed := true, recurses := true, apart := false, narrowed := true }
def FnSampleMeanUptoSaid : Prop := fnSampleMeanUptoRow.holds Try.pinned (OpenSpec.upto fnSampleMeanSpec)

/-- 'laws.FnSampleRow', WHERE WHAT IT READS IS OF BULK AT MOST 1048576: true; the input reads as it did. -/
def fnSampleRowUptoRow : OpenClaim := { program := "ytnfjajamafkjoaa", sum := "5c336b3176284a6846606534cde25171d41128d2d6cc5c495c1ebb685b917edb", func := "loop.example/urnsandballs/laws.FnSampleRow", spec := "fnSampleRow", unfollowed := true, recurses := true, apart := false, narrowed := true }
def FnSampleRowUptoSaid : Prop := fnSampleRowUptoRow.holds Try.pinned (OpenSpec.upto fnSampleRowSpec)

/-- 'laws.FnShorterRow', WHERE WHAT IT READS IS OF BULK AT MOST 1048576: true; the input reads as it did. -/
def fnShorterRowUptoRow : OpenClaim := { program := "ytnfjajamafkjoaa", sum := "5c336b3176284a6846606534cde25171d41128d2d6cc5c495c1ebb685b917edb", func := "loop.example/urnsandballs/laws.FnShorterRow", spec := "fnShorterRow", unfollowed := true, recurses := true, apart := false, narrowed := true }
def FnShorterRowUptoSaid : Prop := fnShorterRowUptoRow.holds Try.pinned (OpenSpec.upto fnShorterRowSpec)

end Rows
end Go.Proofs.Ytnfjajamafkjoaa
