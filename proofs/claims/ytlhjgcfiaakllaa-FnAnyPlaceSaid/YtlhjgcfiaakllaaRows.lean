/-
  No cell of these rows narrows 'for every input' (looked for: loops, veiled, ifaces, maps, wideKeys, modest, calm, conditions, laid).
  DERIVED. THE GIVEN ROWS OF THIS SEAT. 17 by the template 'for every input the law returns true; each argument reads behind the call as it read before'; 0 by the template 'total and deterministic' (their statements: YtlhjgcfiaakllaaTotals.lean).
  GIVEN WITH THE SEED: the statements are not yours to turn. If you find one false, say at which input.
  Laid BY PROGRAM, IN A SANDBOX (cutbox-rows.mjs): the forced cells as the released guide's own fill.sh prints them over the translation 0be23a418eb1c6eb… (all of the seat's roots in one cut). By AI agents, Wed Nov 11 2026. No macro, syntax, notation, axiom, sorry.
-/
import Derived.Test.YtlhjgcfiaakllaaChecked
import GoSem.Claim
import GoSem.ClaimJoined
import GoSem.ClaimMapViews
import Derived.JoinedTies
import Derived.KernelRfl
namespace Go.Proofs.Ytlhjgcfiaakllaa
/- THE CELL 'sum', in the pinned program and in every row, IS THE sha256 OF THE DUMP (.gsa) THAT YtlhjgcfiaakllaaProg.lean LOADS. Nothing in Lean hashes anything: it is a label: what it is worth is what the hold of that sum in a sandbox is worth. -/
noncomputable def Try.pinned : Pinned := { name := "ytlhjgcfiaakllaa", sum := "0be23a418eb1c6eb7096494fd194c28f698d5bbba1085ead7135202d0655429e", checked := Try.checked }
namespace Rows
def none {H : Type} : Left H := { results := [], args := [] }

/-- 'laws.FnWordOk': WHATEVER THE INPUT: true; the input reads as it did. -/
def fnWordOkSpec : ChangeSpec := { name := "fnWordOk", fn := fun _ => fun
  | [d] => { results := [.lit (.bool true)], args := [d] }
  | _ => none }
def fnWordOkRow : OpenClaim := { program := "ytlhjgcfiaakllaa", sum := "0be23a418eb1c6eb7096494fd194c28f698d5bbba1085ead7135202d0655429e", func := "loop.example/urnsandballs/laws.FnWordOk", spec := "fnWordOk", apart := false }
def FnWordOkSaid : Prop := fnWordOkRow.holds Try.pinned (OpenSpec.ofChange fnWordOkSpec)

/-- ITS FALSE NEIGHBOUR: 'it returns false'. Refute it at one input. -/
def fnWordOkWrong : ChangeSpec := { name := "fnWordOk", fn := fun _ => fun
  | [d] => { results := [.lit (.bool false)], args := [d] }
  | _ => none }
def FnWordOkWrongFalsely : Prop := fnWordOkRow.holds Try.pinned (OpenSpec.ofChange fnWordOkWrong)

/-- 'laws.FnCountsOf': WHATEVER THE INPUT: true; the input reads as it did. -/
def fnCountsOfSpec : ChangeSpec := { name := "fnCountsOf", fn := fun _ => fun
  | [d] => { results := [.lit (.bool true)], args := [d] }
  | _ => none }
def fnCountsOfRow : OpenClaim := { program := "ytlhjgcfiaakllaa", sum := "0be23a418eb1c6eb7096494fd194c28f698d5bbba1085ead7135202d0655429e", func := "loop.example/urnsandballs/laws.FnCountsOf", spec := "fnCountsOf", unfollowed := true, recurses := true, apart := false }
def FnCountsOfSaid : Prop := fnCountsOfRow.holds Try.pinned (OpenSpec.ofChange fnCountsOfSpec)

/-- ITS FALSE NEIGHBOUR: 'it returns false'. Refute it at one input. -/
def fnCountsOfWrong : ChangeSpec := { name := "fnCountsOf", fn := fun _ => fun
  | [d] => { results := [.lit (.bool false)], args := [d] }
  | _ => none }
def FnCountsOfWrongFalsely : Prop := fnCountsOfRow.holds Try.pinned (OpenSpec.ofChange fnCountsOfWrong)

/-- 'laws.FnWordWays': WHATEVER THE INPUT: true; the input reads as it did. -/
def fnWordWaysSpec : ChangeSpec := { name := "fnWordWays", fn := fun _ => fun
  | [d] => { results := [.lit (.bool true)], args := [d] }
  | _ => none }
def fnWordWaysRow : OpenClaim := { program := "ytlhjgcfiaakllaa", sum := "0be23a418eb1c6eb7096494fd194c28f698d5bbba1085ead7135202d0655429e", func := "loop.example/urnsandballs/laws.FnWordWays", spec := "fnWordWays", unfollowed := true, recurses := true, apart := false }
def FnWordWaysSaid : Prop := fnWordWaysRow.holds Try.pinned (OpenSpec.ofChange fnWordWaysSpec)

/-- ITS FALSE NEIGHBOUR: 'it returns false'. Refute it at one input. -/
def fnWordWaysWrong : ChangeSpec := { name := "fnWordWays", fn := fun _ => fun
  | [d] => { results := [.lit (.bool false)], args := [d] }
  | _ => none }
def FnWordWaysWrongFalsely : Prop := fnWordWaysRow.holds Try.pinned (OpenSpec.ofChange fnWordWaysWrong)

/-- 'laws.FnAllWays': WHATEVER THE INPUT: true; the input reads as it did. -/
def fnAllWaysSpec : ChangeSpec := { name := "fnAllWays", fn := fun _ => fun
  | [d] => { results := [.lit (.bool true)], args := [d] }
  | _ => none }
def fnAllWaysRow : OpenClaim := { program := "ytlhjgcfiaakllaa", sum := "0be23a418eb1c6eb7096494fd194c28f698d5bbba1085ead7135202d0655429e", func := "loop.example/urnsandballs/laws.FnAllWays", spec := "fnAllWays", unfollowed := true, recurses := true, apart := false }
def FnAllWaysSaid : Prop := fnAllWaysRow.holds Try.pinned (OpenSpec.ofChange fnAllWaysSpec)

/-- ITS FALSE NEIGHBOUR: 'it returns false'. Refute it at one input. -/
def fnAllWaysWrong : ChangeSpec := { name := "fnAllWays", fn := fun _ => fun
  | [d] => { results := [.lit (.bool false)], args := [d] }
  | _ => none }
def FnAllWaysWrongFalsely : Prop := fnAllWaysRow.holds Try.pinned (OpenSpec.ofChange fnAllWaysWrong)

/-- 'laws.FnCountRowOk': WHATEVER THE INPUT: true; the input reads as it did. -/
def fnCountRowOkSpec : ChangeSpec := { name := "fnCountRowOk", fn := fun _ => fun
  | [d] => { results := [.lit (.bool true)], args := [d] }
  | _ => none }
def fnCountRowOkRow : OpenClaim := { program := "ytlhjgcfiaakllaa", sum := "0be23a418eb1c6eb7096494fd194c28f698d5bbba1085ead7135202d0655429e", func := "loop.example/urnsandballs/laws.FnCountRowOk", spec := "fnCountRowOk", apart := false }
def FnCountRowOkSaid : Prop := fnCountRowOkRow.holds Try.pinned (OpenSpec.ofChange fnCountRowOkSpec)

/-- ITS FALSE NEIGHBOUR: 'it returns false'. Refute it at one input. -/
def fnCountRowOkWrong : ChangeSpec := { name := "fnCountRowOk", fn := fun _ => fun
  | [d] => { results := [.lit (.bool false)], args := [d] }
  | _ => none }
def FnCountRowOkWrongFalsely : Prop := fnCountRowOkRow.holds Try.pinned (OpenSpec.ofChange fnCountRowOkWrong)

/-- 'laws.FnWordsWith': WHATEVER THE INPUT: true; the input reads as it did. -/
def fnWordsWithSpec : ChangeSpec := { name := "fnWordsWith", fn := fun _ => fun
  | [d] => { results := [.lit (.bool true)], args := [d] }
  | _ => none }
def fnWordsWithRow : OpenClaim := { program := "ytlhjgcfiaakllaa", sum := "0be23a418eb1c6eb7096494fd194c28f698d5bbba1085ead7135202d0655429e", func := "loop.example/urnsandballs/laws.FnWordsWith", spec := "fnWordsWith", unfollowed := true, recurses := true, apart := false }
def FnWordsWithSaid : Prop := fnWordsWithRow.holds Try.pinned (OpenSpec.ofChange fnWordsWithSpec)

/-- ITS FALSE NEIGHBOUR: 'it returns false'. Refute it at one input. -/
def fnWordsWithWrong : ChangeSpec := { name := "fnWordsWith", fn := fun _ => fun
  | [d] => { results := [.lit (.bool false)], args := [d] }
  | _ => none }
def FnWordsWithWrongFalsely : Prop := fnWordsWithRow.holds Try.pinned (OpenSpec.ofChange fnWordsWithWrong)

/-- 'laws.FnCountWays': WHATEVER THE INPUT: true; the input reads as it did. -/
def fnCountWaysSpec : ChangeSpec := { name := "fnCountWays", fn := fun _ => fun
  | [d] => { results := [.lit (.bool true)], args := [d] }
  | _ => none }
def fnCountWaysRow : OpenClaim := { program := "ytlhjgcfiaakllaa", sum := "0be23a418eb1c6eb7096494fd194c28f698d5bbba1085ead7135202d0655429e", func := "loop.example/urnsandballs/laws.FnCountWays", spec := "fnCountWays", unfollowed := true, recurses := true, apart := false }
def FnCountWaysSaid : Prop := fnCountWaysRow.holds Try.pinned (OpenSpec.ofChange fnCountWaysSpec)

/-- ITS FALSE NEIGHBOUR: 'it returns false'. Refute it at one input. -/
def fnCountWaysWrong : ChangeSpec := { name := "fnCountWays", fn := fun _ => fun
  | [d] => { results := [.lit (.bool false)], args := [d] }
  | _ => none }
def FnCountWaysWrongFalsely : Prop := fnCountWaysRow.holds Try.pinned (OpenSpec.ofChange fnCountWaysWrong)

/-- 'laws.FnAnyPlace': WHATEVER THE INPUT: true; the input reads as it did. -/
def fnAnyPlaceSpec : ChangeSpec := { name := "fnAnyPlace", fn := fun _ => fun
  | [d] => { results := [.lit (.bool true)], args := [d] }
  | _ => none }
def fnAnyPlaceRow : OpenClaim := { program := "ytlhjgcfiaakllaa", sum := "0be23a418eb1c6eb7096494fd194c28f698d5bbba1085ead7135202d0655429e", func := "loop.example/urnsandballs/laws.FnAnyPlace", spec := "fnAnyPlace", apart := false }
def FnAnyPlaceSaid : Prop := fnAnyPlaceRow.holds Try.pinned (OpenSpec.ofChange fnAnyPlaceSpec)

/-- ITS FALSE NEIGHBOUR: 'it returns false'. Refute it at one input. -/
def fnAnyPlaceWrong : ChangeSpec := { name := "fnAnyPlace", fn := fun _ => fun
  | [d] => { results := [.lit (.bool false)], args := [d] }
  | _ => none }
def FnAnyPlaceWrongFalsely : Prop := fnAnyPlaceRow.holds Try.pinned (OpenSpec.ofChange fnAnyPlaceWrong)

/-- 'laws.FnSameApart': WHATEVER THE INPUT: true; the input reads as it did. -/
def fnSameApartSpec : ChangeSpec := { name := "fnSameApart", fn := fun _ => fun
  | [d] => { results := [.lit (.bool true)], args := [d] }
  | _ => none }
def fnSameApartRow : OpenClaim := { program := "ytlhjgcfiaakllaa", sum := "0be23a418eb1c6eb7096494fd194c28f698d5bbba1085ead7135202d0655429e", func := "loop.example/urnsandballs/laws.FnSameApart", spec := "fnSameApart", apart := false }
def FnSameApartSaid : Prop := fnSameApartRow.holds Try.pinned (OpenSpec.ofChange fnSameApartSpec)

/-- ITS FALSE NEIGHBOUR: 'it returns false'. Refute it at one input. -/
def fnSameApartWrong : ChangeSpec := { name := "fnSameApart", fn := fun _ => fun
  | [d] => { results := [.lit (.bool false)], args := [d] }
  | _ => none }
def FnSameApartWrongFalsely : Prop := fnSameApartRow.holds Try.pinned (OpenSpec.ofChange fnSameApartWrong)

/-- 'laws.FnExactWordOk': WHATEVER THE INPUT: true; the input reads as it did. -/
def fnExactWordOkSpec : ChangeSpec := { name := "fnExactWordOk", fn := fun _ => fun
  | [d1, d2] => { results := [.lit (.bool true)], args := [d1, d2] }
  | _ => none }
def fnExactWordOkRow : OpenClaim := { program := "ytlhjgcfiaakllaa", sum := "0be23a418eb1c6eb7096494fd194c28f698d5bbba1085ead7135202d0655429e", func := "loop.example/urnsandballs/laws.FnExactWordOk", spec := "fnExactWordOk", apart := false }
def FnExactWordOkSaid : Prop := fnExactWordOkRow.holds Try.pinned (OpenSpec.ofChange fnExactWordOkSpec)

/-- ITS FALSE NEIGHBOUR: 'it returns false'. Refute it at one input. -/
def fnExactWordOkWrong : ChangeSpec := { name := "fnExactWordOk", fn := fun _ => fun
  | [d1, d2] => { results := [.lit (.bool false)], args := [d1, d2] }
  | _ => none }
def FnExactWordOkWrongFalsely : Prop := fnExactWordOkRow.holds Try.pinned (OpenSpec.ofChange fnExactWordOkWrong)

/-- 'laws.FnExactCountsOf': WHATEVER THE INPUT: true; the input reads as it did. -/
def fnExactCountsOfSpec : ChangeSpec := { name := "fnExactCountsOf", fn := fun _ => fun
  | [d1, d2] => { results := [.lit (.bool true)], args := [d1, d2] }
  | _ => none }
def fnExactCountsOfRow : OpenClaim := { program := "ytlhjgcfiaakllaa", sum := "0be23a418eb1c6eb7096494fd194c28f698d5bbba1085ead7135202d0655429e", func := "loop.example/urnsandballs/laws.FnExactCountsOf", spec := "fnExactCountsOf", apart := false }
def FnExactCountsOfSaid : Prop := fnExactCountsOfRow.holds Try.pinned (OpenSpec.ofChange fnExactCountsOfSpec)

/-- ITS FALSE NEIGHBOUR: 'it returns false'. Refute it at one input. -/
def fnExactCountsOfWrong : ChangeSpec := { name := "fnExactCountsOf", fn := fun _ => fun
  | [d1, d2] => { results := [.lit (.bool false)], args := [d1, d2] }
  | _ => none }
def FnExactCountsOfWrongFalsely : Prop := fnExactCountsOfRow.holds Try.pinned (OpenSpec.ofChange fnExactCountsOfWrong)

/-- 'laws.FnExactWordWays': WHATEVER THE INPUT: true; the input reads as it did. -/
def fnExactWordWaysSpec : ChangeSpec := { name := "fnExactWordWays", fn := fun _ => fun
  | [d1, d2] => { results := [.lit (.bool true)], args := [d1, d2] }
  | _ => none }
def fnExactWordWaysRow : OpenClaim := { program := "ytlhjgcfiaakllaa", sum := "0be23a418eb1c6eb7096494fd194c28f698d5bbba1085ead7135202d0655429e", func := "loop.example/urnsandballs/laws.FnExactWordWays", spec := "fnExactWordWays", apart := false }
def FnExactWordWaysSaid : Prop := fnExactWordWaysRow.holds Try.pinned (OpenSpec.ofChange fnExactWordWaysSpec)

/-- ITS FALSE NEIGHBOUR: 'it returns false'. Refute it at one input. -/
def fnExactWordWaysWrong : ChangeSpec := { name := "fnExactWordWays", fn := fun _ => fun
  | [d1, d2] => { results := [.lit (.bool false)], args := [d1, d2] }
  | _ => none }
def FnExactWordWaysWrongFalsely : Prop := fnExactWordWaysRow.holds Try.pinned (OpenSpec.ofChange fnExactWordWaysWrong)

/-- 'laws.FnExactAllWays': WHATEVER THE INPUT: true; the input reads as it did. -/
def fnExactAllWaysSpec : ChangeSpec := { name := "fnExactAllWays", fn := fun _ => fun
  | [d1, d2] => { results := [.lit (.bool true)], args := [d1, d2] }
  | _ => none }
def fnExactAllWaysRow : OpenClaim := { program := "ytlhjgcfiaakllaa", sum := "0be23a418eb1c6eb7096494fd194c28f698d5bbba1085ead7135202d0655429e", func := "loop.example/urnsandballs/laws.FnExactAllWays", spec := "fnExactAllWays", apart := false }
def FnExactAllWaysSaid : Prop := fnExactAllWaysRow.holds Try.pinned (OpenSpec.ofChange fnExactAllWaysSpec)

/-- ITS FALSE NEIGHBOUR: 'it returns false'. Refute it at one input. -/
def fnExactAllWaysWrong : ChangeSpec := { name := "fnExactAllWays", fn := fun _ => fun
  | [d1, d2] => { results := [.lit (.bool false)], args := [d1, d2] }
  | _ => none }
def FnExactAllWaysWrongFalsely : Prop := fnExactAllWaysRow.holds Try.pinned (OpenSpec.ofChange fnExactAllWaysWrong)

/-- 'laws.FnExactCountRowOk': WHATEVER THE INPUT: true; the input reads as it did. -/
def fnExactCountRowOkSpec : ChangeSpec := { name := "fnExactCountRowOk", fn := fun _ => fun
  | [d1, d2] => { results := [.lit (.bool true)], args := [d1, d2] }
  | _ => none }
def fnExactCountRowOkRow : OpenClaim := { program := "ytlhjgcfiaakllaa", sum := "0be23a418eb1c6eb7096494fd194c28f698d5bbba1085ead7135202d0655429e", func := "loop.example/urnsandballs/laws.FnExactCountRowOk", spec := "fnExactCountRowOk", apart := false }
def FnExactCountRowOkSaid : Prop := fnExactCountRowOkRow.holds Try.pinned (OpenSpec.ofChange fnExactCountRowOkSpec)

/-- ITS FALSE NEIGHBOUR: 'it returns false'. Refute it at one input. -/
def fnExactCountRowOkWrong : ChangeSpec := { name := "fnExactCountRowOk", fn := fun _ => fun
  | [d1, d2] => { results := [.lit (.bool false)], args := [d1, d2] }
  | _ => none }
def FnExactCountRowOkWrongFalsely : Prop := fnExactCountRowOkRow.holds Try.pinned (OpenSpec.ofChange fnExactCountRowOkWrong)

/-- 'laws.FnExactWordsWith': WHATEVER THE INPUT: true; the input reads as it did. -/
def fnExactWordsWithSpec : ChangeSpec := { name := "fnExactWordsWith", fn := fun _ => fun
  | [d1, d2] => { results := [.lit (.bool true)], args := [d1, d2] }
  | _ => none }
def fnExactWordsWithRow : OpenClaim := { program := "ytlhjgcfiaakllaa", sum := "0be23a418eb1c6eb7096494fd194c28f698d5bbba1085ead7135202d0655429e", func := "loop.example/urnsandballs/laws.FnExactWordsWith", spec := "fnExactWordsWith", unfollowed := true, recurses := true, apart := false }
def FnExactWordsWithSaid : Prop := fnExactWordsWithRow.holds Try.pinned (OpenSpec.ofChange fnExactWordsWithSpec)

/-- ITS FALSE NEIGHBOUR: 'it returns false'. Refute it at one input. -/
def fnExactWordsWithWrong : ChangeSpec := { name := "fnExactWordsWith", fn := fun _ => fun
  | [d1, d2] => { results := [.lit (.bool false)], args := [d1, d2] }
  | _ => none }
def FnExactWordsWithWrongFalsely : Prop := fnExactWordsWithRow.holds Try.pinned (OpenSpec.ofChange fnExactWordsWithWrong)

/-- 'laws.FnExactCountWays': WHATEVER THE INPUT: true; the input reads as it did. -/
def fnExactCountWaysSpec : ChangeSpec := { name := "fnExactCountWays", fn := fun _ => fun
  | [d1, d2] => { results := [.lit (.bool true)], args := [d1, d2] }
  | _ => none }
def fnExactCountWaysRow : OpenClaim := { program := "ytlhjgcfiaakllaa", sum := "0be23a418eb1c6eb7096494fd194c28f698d5bbba1085ead7135202d0655429e", func := "loop.example/urnsandballs/laws.FnExactCountWays", spec := "fnExactCountWays", unfollowed := true, recurses := true, apart := false }
def FnExactCountWaysSaid : Prop := fnExactCountWaysRow.holds Try.pinned (OpenSpec.ofChange fnExactCountWaysSpec)

/-- ITS FALSE NEIGHBOUR: 'it returns false'. Refute it at one input. -/
def fnExactCountWaysWrong : ChangeSpec := { name := "fnExactCountWays", fn := fun _ => fun
  | [d1, d2] => { results := [.lit (.bool false)], args := [d1, d2] }
  | _ => none }
def FnExactCountWaysWrongFalsely : Prop := fnExactCountWaysRow.holds Try.pinned (OpenSpec.ofChange fnExactCountWaysWrong)

/-- 'laws.FnExactSameApart': WHATEVER THE INPUT: true; the input reads as it did. -/
def fnExactSameApartSpec : ChangeSpec := { name := "fnExactSameApart", fn := fun _ => fun
  | [d] => { results := [.lit (.bool true)], args := [d] }
  | _ => none }
def fnExactSameApartRow : OpenClaim := { program := "ytlhjgcfiaakllaa", sum := "0be23a418eb1c6eb7096494fd194c28f698d5bbba1085ead7135202d0655429e", func := "loop.example/urnsandballs/laws.FnExactSameApart", spec := "fnExactSameApart", apart := false }
def FnExactSameApartSaid : Prop := fnExactSameApartRow.holds Try.pinned (OpenSpec.ofChange fnExactSameApartSpec)

/-- ITS FALSE NEIGHBOUR: 'it returns false'. Refute it at one input. -/
def fnExactSameApartWrong : ChangeSpec := { name := "fnExactSameApart", fn := fun _ => fun
  | [d] => { results := [.lit (.bool false)], args := [d] }
  | _ => none }
def FnExactSameApartWrongFalsely : Prop := fnExactSameApartRow.holds Try.pinned (OpenSpec.ofChange fnExactSameApartWrong)

/- THE SECOND FORM. 'bulk': how many values and letters a reading holds, each counted each time it is reached (what is shared counts as often as it is met; a slice's spare places count too). A statement '..UptoSaid' is the law's where the arguments, and the package variables that the reading takes, are together of bulk at most 1048576: NARROWER than '..Said'. Prove '..Said' where nothing that the law and all that it calls make is longer than what came in: it says more and counts as full. Else prove '..UptoSaid'. A law counts once. -/
mutual
def uptoBulk {H : Type} : DataW H → Nat
  | .lit (.string bytes) => bytes.length + 1
  | .lit _ => 1
  | .nil => 1
  | .ptr d => uptoBulk d + 1
  | .slice elems spare => uptoBulkAll elems + uptoBulkAll spare + 1
  | .agg parts => uptoBulkAll parts + 1
  | .iface _ d => uptoBulk d + 1
  | .map entries => uptoBulkEntries entries + 1
  | .held _ => 1
def uptoBulkAll {H : Type} : List (DataW H) → Nat
  | [] => 0
  | d :: r => uptoBulk d + uptoBulkAll r
def uptoBulkEntries {H : Type} : List (Lit × DataW H) → Nat
  | [] => 0
  | x :: r => uptoBulkEntry x + uptoBulkEntries r
def uptoBulkEntry {H : Type} : Lit × DataW H → Nat
  | (.string bytes, d) => bytes.length + uptoBulk d + 1
  | (_, d) => uptoBulk d + 1
 end
def uptoSmall : (H : Type) → List (DataW H) → Bool := fun _ ds => decide (uptoBulkAll ds ≤ 1048576)
def OpenSpec.upto (s : _root_.Go.ChangeSpec) : _root_.Go.OpenSpec := { _root_.Go.OpenSpec.ofChange s with cond := some uptoSmall }

/-- 'laws.FnWordOk', WHERE WHAT IT READS IS OF BULK AT MOST 1048576: true; the input reads as it did. -/
def fnWordOkUptoRow : OpenClaim := { program := "ytlhjgcfiaakllaa", sum := "0be23a418eb1c6eb7096494fd194c28f698d5bbba1085ead7135202d0655429e", func := "loop.example/urnsandballs/laws.FnWordOk", spec := "fnWordOk", apart := false, narrowed := true }
def FnWordOkUptoSaid : Prop := fnWordOkUptoRow.holds Try.pinned (OpenSpec.upto fnWordOkSpec)

/-- 'laws.FnCountsOf', WHERE WHAT IT READS IS OF BULK AT MOST 1048576: true; the input reads as it did. -/
def fnCountsOfUptoRow : OpenClaim := { program := "ytlhjgcfiaakllaa", sum := "0be23a418eb1c6eb7096494fd194c28f698d5bbba1085ead7135202d0655429e", func := "loop.example/urnsandballs/laws.FnCountsOf", spec := "fnCountsOf", unfollowed := true, recurses := true, apart := false, narrowed := true }
def FnCountsOfUptoSaid : Prop := fnCountsOfUptoRow.holds Try.pinned (OpenSpec.upto fnCountsOfSpec)

/-- 'laws.FnWordWays', WHERE WHAT IT READS IS OF BULK AT MOST 1048576: true; the input reads as it did. -/
def fnWordWaysUptoRow : OpenClaim := { program := "ytlhjgcfiaakllaa", sum := "0be23a418eb1c6eb7096494fd194c28f698d5bbba1085ead7135202d0655429e", func := "loop.example/urnsandballs/laws.FnWordWays", spec := "fnWordWays", unfollowed := true, recurses := true, apart := false, narrowed := true }
def FnWordWaysUptoSaid : Prop := fnWordWaysUptoRow.holds Try.pinned (OpenSpec.upto fnWordWaysSpec)

/-- 'laws.FnAllWays', WHERE WHAT IT READS IS OF BULK AT MOST 1048576: true; the input reads as it did. -/
def fnAllWaysUptoRow : OpenClaim := { program := "ytlhjgcfiaakllaa", sum := "0be23a418eb1c6eb7096494fd194c28f698d5bbba1085ead7135202d0655429e", func := "loop.example/urnsandballs/laws.FnAllWays", spec := "fnAllWays", unfollowed := true, recurses := true, apart := false, narrowed := true }
def FnAllWaysUptoSaid : Prop := fnAllWaysUptoRow.holds Try.pinned (OpenSpec.upto fnAllWaysSpec)

/-- 'laws.FnCountRowOk', WHERE WHAT IT READS IS OF BULK AT MOST 1048576: true; the input reads as it did. -/
def fnCountRowOkUptoRow : OpenClaim := { program := "ytlhjgcfiaakllaa", sum := "0be23a418eb1c6eb7096494fd194c28f698d5bbba1085ead7135202d0655429e", func := "loop.example/urnsandballs/laws.FnCountRowOk", spec := "fnCountRowOk", apart := false, narrowed := true }
def FnCountRowOkUptoSaid : Prop := fnCountRowOkUptoRow.holds Try.pinned (OpenSpec.upto fnCountRowOkSpec)

/-- 'laws.FnWordsWith', WHERE WHAT IT READS IS OF BULK AT MOST 1048576: true; the input reads as it did. -/
def fnWordsWithUptoRow : OpenClaim := { program := "ytlhjgcfiaakllaa", sum := "0be23a418eb1c6eb7096494fd194c28f698d5bbba1085ead7135202d0655429e", func := "loop.example/urnsandballs/laws.FnWordsWith", spec := "fnWordsWith", unfollowed := true, recurses := true, apart := false, narrowed := true }
def FnWordsWithUptoSaid : Prop := fnWordsWithUptoRow.holds Try.pinned (OpenSpec.upto fnWordsWithSpec)

/-- 'laws.FnCountWays', WHERE WHAT IT READS IS OF BULK AT MOST 1048576: true; the input reads as it did. -/
def fnCountWaysUptoRow : OpenClaim := { program := "ytlhjgcfiaakllaa", sum := "0be23a418eb1c6eb7096494fd194c28f698d5bbba1085ead7135202d0655429e", func := "loop.example/urnsandballs/laws.FnCountWays", spec := "fnCountWays", unfollowed := true, recurses := true, apart := false, narrowed := true }
def FnCountWaysUptoSaid : Prop := fnCountWaysUptoRow.holds Try.pinned (OpenSpec.upto fnCountWaysSpec)

/-- 'laws.FnAnyPlace', WHERE WHAT IT READS IS OF BULK AT MOST 1048576: true; the input reads as it did. -/
def fnAnyPlaceUptoRow : OpenClaim := { program := "ytlhjgcfiaakllaa", sum := "0be23a418eb1c6eb7096494fd194c28f698d5bbba1085ead7135202d0655429e", func := "loop.example/urnsandballs/laws.FnAnyPlace", spec := "fnAnyPlace", apart := false, narrowed := true }
def FnAnyPlaceUptoSaid : Prop := fnAnyPlaceUptoRow.holds Try.pinned (OpenSpec.upto fnAnyPlaceSpec)

/-- 'laws.FnSameApart', WHERE WHAT IT READS IS OF BULK AT MOST 1048576: true; the input reads as it did. -/
def fnSameApartUptoRow : OpenClaim := { program := "ytlhjgcfiaakllaa", sum := "0be23a418eb1c6eb7096494fd194c28f698d5bbba1085ead7135202d0655429e", func := "loop.example/urnsandballs/laws.FnSameApart", spec := "fnSameApart", apart := false, narrowed := true }
def FnSameApartUptoSaid : Prop := fnSameApartUptoRow.holds Try.pinned (OpenSpec.upto fnSameApartSpec)

/-- 'laws.FnExactWordOk', WHERE WHAT IT READS IS OF BULK AT MOST 1048576: true; the input reads as it did. -/
def fnExactWordOkUptoRow : OpenClaim := { program := "ytlhjgcfiaakllaa", sum := "0be23a418eb1c6eb7096494fd194c28f698d5bbba1085ead7135202d0655429e", func := "loop.example/urnsandballs/laws.FnExactWordOk", spec := "fnExactWordOk", apart := false, narrowed := true }
def FnExactWordOkUptoSaid : Prop := fnExactWordOkUptoRow.holds Try.pinned (OpenSpec.upto fnExactWordOkSpec)

/-- 'laws.FnExactCountsOf', WHERE WHAT IT READS IS OF BULK AT MOST 1048576: true; the input reads as it did. -/
def fnExactCountsOfUptoRow : OpenClaim := { program := "ytlhjgcfiaakllaa", sum := "0be23a418eb1c6eb7096494fd194c28f698d5bbba1085ead7135202d0655429e", func := "loop.example/urnsandballs/laws.FnExactCountsOf", spec := "fnExactCountsOf", apart := false, narrowed := true }
def FnExactCountsOfUptoSaid : Prop := fnExactCountsOfUptoRow.holds Try.pinned (OpenSpec.upto fnExactCountsOfSpec)

/-- 'laws.FnExactWordWays', WHERE WHAT IT READS IS OF BULK AT MOST 1048576: true; the input reads as it did. -/
def fnExactWordWaysUptoRow : OpenClaim := { program := "ytlhjgcfiaakllaa", sum := "0be23a418eb1c6eb7096494fd194c28f698d5bbba1085ead7135202d0655429e", func := "loop.example/urnsandballs/laws.FnExactWordWays", spec := "fnExactWordWays", apart := false, narrowed := true }
def FnExactWordWaysUptoSaid : Prop := fnExactWordWaysUptoRow.holds Try.pinned (OpenSpec.upto fnExactWordWaysSpec)

/-- 'laws.FnExactAllWays', WHERE WHAT IT READS IS OF BULK AT MOST 1048576: true; the input reads as it did. -/
def fnExactAllWaysUptoRow : OpenClaim := { program := "ytlhjgcfiaakllaa", sum := "0be23a418eb1c6eb7096494fd194c28f698d5bbba1085ead7135202d0655429e", func := "loop.example/urnsandballs/laws.FnExactAllWays", spec := "fnExactAllWays", apart := false, narrowed := true }
def FnExactAllWaysUptoSaid : Prop := fnExactAllWaysUptoRow.holds Try.pinned (OpenSpec.upto fnExactAllWaysSpec)

/-- 'laws.FnExactCountRowOk', WHERE WHAT IT READS IS OF BULK AT MOST 1048576: true; the input reads as it did. -/
def fnExactCountRowOkUptoRow : OpenClaim := { program := "ytlhjgcfiaakllaa", sum := "0be23a418eb1c6eb7096494fd194c28f698d5bbba1085ead7135202d0655429e", func := "loop.example/urnsandballs/laws.FnExactCountRowOk", spec := "fnExactCountRowOk", apart := false, narrowed := true }
def FnExactCountRowOkUptoSaid : Prop := fnExactCountRowOkUptoRow.holds Try.pinned (OpenSpec.upto fnExactCountRowOkSpec)

/-- 'laws.FnExactWordsWith', WHERE WHAT IT READS IS OF BULK AT MOST 1048576: true; the input reads as it did. -/
def fnExactWordsWithUptoRow : OpenClaim := { program := "ytlhjgcfiaakllaa", sum := "0be23a418eb1c6eb7096494fd194c28f698d5bbba1085ead7135202d0655429e", func := "loop.example/urnsandballs/laws.FnExactWordsWith", spec := "fnExactWordsWith", unfollowed := true, recurses := true, apart := false, narrowed := true }
def FnExactWordsWithUptoSaid : Prop := fnExactWordsWithUptoRow.holds Try.pinned (OpenSpec.upto fnExactWordsWithSpec)

/-- 'laws.FnExactCountWays', WHERE WHAT IT READS IS OF BULK AT MOST 1048576: true; the input reads as it did. -/
def fnExactCountWaysUptoRow : OpenClaim := { program := "ytlhjgcfiaakllaa", sum := "0be23a418eb1c6eb7096494fd194c28f698d5bbba1085ead7135202d0655429e", func := "loop.example/urnsandballs/laws.FnExactCountWays", spec := "fnExactCountWays", unfollowed := true, recurses := true, apart := false, narrowed := true }
def FnExactCountWaysUptoSaid : Prop := fnExactCountWaysUptoRow.holds Try.pinned (OpenSpec.upto fnExactCountWaysSpec)

/-- 'laws.FnExactSameApart', WHERE WHAT IT READS IS OF BULK AT MOST 1048576: true; the input reads as it did. -/
def fnExactSameApartUptoRow : OpenClaim := { program := "ytlhjgcfiaakllaa", sum := "0be23a418eb1c6eb7096494fd194c28f698d5bbba1085ead7135202d0655429e", func := "loop.example/urnsandballs/laws.FnExactSameApart", spec := "fnExactSameApart", apart := false, narrowed := true }
def FnExactSameApartUptoSaid : Prop := fnExactSameApartUptoRow.holds Try.pinned (OpenSpec.upto fnExactSameApartSpec)

end Rows
end Go.Proofs.Ytlhjgcfiaakllaa
