/-
  No cell of these rows narrows 'for every input' (looked for: loops, veiled, ifaces, maps, wideKeys, modest, calm, conditions, laid).
  DERIVED. THE GIVEN ROWS OF THIS SEAT. 8 by the template 'for every input the law returns true; each argument reads behind the call as it read before'; 0 by the template 'total and deterministic' (their statements: YtffllkmaifjpfabTotals.lean).
  GIVEN WITH THE SEED: the statements are not yours to turn. If you find one false, say at which input.
  Laid BY PROGRAM, IN A SANDBOX (cutbox-rows.mjs): the forced cells as the released guide's own fill.sh prints them over the translation 11e2511b7a8a2110… (all of the seat's roots in one cut). By AI agents, Wed Nov 11 2026. No macro, syntax, notation, axiom, sorry.
-/
import Derived.Test.YtffllkmaifjpfabChecked
import GoSem.Claim
import GoSem.ClaimJoined
import GoSem.ClaimMapViews
import Derived.JoinedTies
import Derived.KernelRfl
namespace Go.Proofs.Ytffllkmaifjpfab
/- THE CELL 'sum', in the pinned program and in every row, IS THE sha256 OF THE DUMP (.gsa) THAT YtffllkmaifjpfabProg.lean LOADS. Nothing in Lean hashes anything: it is a label: what it is worth is what the hold of that sum in a sandbox is worth. -/
noncomputable def Try.pinned : Pinned := { name := "ytffllkmaifjpfab", sum := "11e2511b7a8a21105c82c0c6e474ca800c5092f6ee447417456f3317c558f63e", checked := Try.checked }
namespace Rows
def none {H : Type} : Left H := { results := [], args := [] }

/-- 'laws.FnExactTermOk': WHATEVER THE INPUT: true; the input reads as it did. -/
def fnExactTermOkSpec : ChangeSpec := { name := "fnExactTermOk", fn := fun _ => fun
  | [d1, d2] => { results := [.lit (.bool true)], args := [d1, d2] }
  | _ => none }
def fnExactTermOkRow : OpenClaim := { program := "ytffllkmaifjpfab", sum := "11e2511b7a8a21105c82c0c6e474ca800c5092f6ee447417456f3317c558f63e", func := "loop.example/urnsandballs/laws.FnExactTermOk", spec := "fnExactTermOk", apart := false }
def FnExactTermOkSaid : Prop := fnExactTermOkRow.holds Try.pinned (OpenSpec.ofChange fnExactTermOkSpec)

/-- ITS FALSE NEIGHBOUR: 'it returns false'. Refute it at one input. -/
def fnExactTermOkWrong : ChangeSpec := { name := "fnExactTermOk", fn := fun _ => fun
  | [d1, d2] => { results := [.lit (.bool false)], args := [d1, d2] }
  | _ => none }
def FnExactTermOkWrongFalsely : Prop := fnExactTermOkRow.holds Try.pinned (OpenSpec.ofChange fnExactTermOkWrong)

/-- 'laws.FnExactLengthOf': WHATEVER THE INPUT: true; the input reads as it did. -/
def fnExactLengthOfSpec : ChangeSpec := { name := "fnExactLengthOf", fn := fun _ => fun
  | [d1, d2] => { results := [.lit (.bool true)], args := [d1, d2] }
  | _ => none }
def fnExactLengthOfRow : OpenClaim := { program := "ytffllkmaifjpfab", sum := "11e2511b7a8a21105c82c0c6e474ca800c5092f6ee447417456f3317c558f63e", func := "loop.example/urnsandballs/laws.FnExactLengthOf", spec := "fnExactLengthOf", recurses := true, apart := false }
def FnExactLengthOfSaid : Prop := fnExactLengthOfRow.holds Try.pinned (OpenSpec.ofChange fnExactLengthOfSpec)

/-- ITS FALSE NEIGHBOUR: 'it returns false'. Refute it at one input. -/
def fnExactLengthOfWrong : ChangeSpec := { name := "fnExactLengthOf", fn := fun _ => fun
  | [d1, d2] => { results := [.lit (.bool false)], args := [d1, d2] }
  | _ => none }
def FnExactLengthOfWrongFalsely : Prop := fnExactLengthOfRow.holds Try.pinned (OpenSpec.ofChange fnExactLengthOfWrong)

/-- 'laws.FnExactTermText': WHATEVER THE INPUT: true; the input reads as it did. -/
def fnExactTermTextSpec : ChangeSpec := { name := "fnExactTermText", fn := fun _ => fun
  | [d1, d2] => { results := [.lit (.bool true)], args := [d1, d2] }
  | _ => none }
def fnExactTermTextRow : OpenClaim := { program := "ytffllkmaifjpfab", sum := "11e2511b7a8a21105c82c0c6e474ca800c5092f6ee447417456f3317c558f63e", func := "loop.example/urnsandballs/laws.FnExactTermText", spec := "fnExactTermText", recurses := true, apart := false }
def FnExactTermTextSaid : Prop := fnExactTermTextRow.holds Try.pinned (OpenSpec.ofChange fnExactTermTextSpec)

/-- ITS FALSE NEIGHBOUR: 'it returns false'. Refute it at one input. -/
def fnExactTermTextWrong : ChangeSpec := { name := "fnExactTermText", fn := fun _ => fun
  | [d1, d2] => { results := [.lit (.bool false)], args := [d1, d2] }
  | _ => none }
def FnExactTermTextWrongFalsely : Prop := fnExactTermTextRow.holds Try.pinned (OpenSpec.ofChange fnExactTermTextWrong)

/-- 'laws.FnExactReadTerm': WHATEVER THE INPUT: true; the input reads as it did. -/
def fnExactReadTermSpec : ChangeSpec := { name := "fnExactReadTerm", fn := fun _ => fun
  | [d1, d2] => { results := [.lit (.bool true)], args := [d1, d2] }
  | _ => none }
def fnExactReadTermRow : OpenClaim := { program := "ytffllkmaifjpfab", sum := "11e2511b7a8a21105c82c0c6e474ca800c5092f6ee447417456f3317c558f63e", func := "loop.example/urnsandballs/laws.FnExactReadTerm", spec := "fnExactReadTerm", inPlace := ["internal/bytealg.IndexByteString"], recurses := true, apart := false }
def FnExactReadTermSaid : Prop := fnExactReadTermRow.holds Try.pinned (OpenSpec.ofChange fnExactReadTermSpec)

/-- ITS FALSE NEIGHBOUR: 'it returns false'. Refute it at one input. -/
def fnExactReadTermWrong : ChangeSpec := { name := "fnExactReadTerm", fn := fun _ => fun
  | [d1, d2] => { results := [.lit (.bool false)], args := [d1, d2] }
  | _ => none }
def FnExactReadTermWrongFalsely : Prop := fnExactReadTermRow.holds Try.pinned (OpenSpec.ofChange fnExactReadTermWrong)

/-- 'laws.FnExactFitsOk': WHATEVER THE INPUT: true; the input reads as it did. -/
def fnExactFitsOkSpec : ChangeSpec := { name := "fnExactFitsOk", fn := fun _ => fun
  | [d1, d2, d3] => { results := [.lit (.bool true)], args := [d1, d2, d3] }
  | _ => none }
def fnExactFitsOkRow : OpenClaim := { program := "ytffllkmaifjpfab", sum := "11e2511b7a8a21105c82c0c6e474ca800c5092f6ee447417456f3317c558f63e", func := "loop.example/urnsandballs/laws.FnExactFitsOk", spec := "fnExactFitsOk", recurses := true, apart := false }
def FnExactFitsOkSaid : Prop := fnExactFitsOkRow.holds Try.pinned (OpenSpec.ofChange fnExactFitsOkSpec)

/-- ITS FALSE NEIGHBOUR: 'it returns false'. Refute it at one input. -/
def fnExactFitsOkWrong : ChangeSpec := { name := "fnExactFitsOk", fn := fun _ => fun
  | [d1, d2, d3] => { results := [.lit (.bool false)], args := [d1, d2, d3] }
  | _ => none }
def FnExactFitsOkWrongFalsely : Prop := fnExactFitsOkRow.holds Try.pinned (OpenSpec.ofChange fnExactFitsOkWrong)

/-- 'laws.FnExactTermWays': WHATEVER THE INPUT: true; the input reads as it did. -/
def fnExactTermWaysSpec : ChangeSpec := { name := "fnExactTermWays", fn := fun _ => fun
  | [d1, d2, d3] => { results := [.lit (.bool true)], args := [d1, d2, d3] }
  | _ => none }
def fnExactTermWaysRow : OpenClaim := { program := "ytffllkmaifjpfab", sum := "11e2511b7a8a21105c82c0c6e474ca800c5092f6ee447417456f3317c558f63e", func := "loop.example/urnsandballs/laws.FnExactTermWays", spec := "fnExactTermWays", unfollowed := true, recurses := true, apart := false }
def FnExactTermWaysSaid : Prop := fnExactTermWaysRow.holds Try.pinned (OpenSpec.ofChange fnExactTermWaysSpec)

/-- ITS FALSE NEIGHBOUR: 'it returns false'. Refute it at one input. -/
def fnExactTermWaysWrong : ChangeSpec := { name := "fnExactTermWays", fn := fun _ => fun
  | [d1, d2, d3] => { results := [.lit (.bool false)], args := [d1, d2, d3] }
  | _ => none }
def FnExactTermWaysWrongFalsely : Prop := fnExactTermWaysRow.holds Try.pinned (OpenSpec.ofChange fnExactTermWaysWrong)

/-- 'laws.FnExactBackTerm': WHATEVER THE INPUT: true; the input reads as it did. -/
def fnExactBackTermSpec : ChangeSpec := { name := "fnExactBackTerm", fn := fun _ => fun
  | [d1, d2] => { results := [.lit (.bool true)], args := [d1, d2] }
  | _ => none }
def fnExactBackTermRow : OpenClaim := { program := "ytffllkmaifjpfab", sum := "11e2511b7a8a21105c82c0c6e474ca800c5092f6ee447417456f3317c558f63e", func := "loop.example/urnsandballs/laws.FnExactBackTerm", spec := "fnExactBackTerm", recurses := true, apart := false }
def FnExactBackTermSaid : Prop := fnExactBackTermRow.holds Try.pinned (OpenSpec.ofChange fnExactBackTermSpec)

/-- ITS FALSE NEIGHBOUR: 'it returns false'. Refute it at one input. -/
def fnExactBackTermWrong : ChangeSpec := { name := "fnExactBackTerm", fn := fun _ => fun
  | [d1, d2] => { results := [.lit (.bool false)], args := [d1, d2] }
  | _ => none }
def FnExactBackTermWrongFalsely : Prop := fnExactBackTermRow.holds Try.pinned (OpenSpec.ofChange fnExactBackTermWrong)

/-- 'laws.FnAllWays': WHATEVER THE INPUT: true; the input reads as it did. -/
def fnAllWaysSpec : ChangeSpec := { name := "fnAllWays", fn := fun _ => fun
  | [d] => { results := [.lit (.bool true)], args := [d] }
  | _ => none }
def fnAllWaysRow : OpenClaim := { program := "ytffllkmaifjpfab", sum := "11e2511b7a8a21105c82c0c6e474ca800c5092f6ee447417456f3317c558f63e", func := "loop.example/urnsandballs/laws.FnAllWays", spec := "fnAllWays", unfollowed := true, recurses := true, apart := false }
def FnAllWaysSaid : Prop := fnAllWaysRow.holds Try.pinned (OpenSpec.ofChange fnAllWaysSpec)

/-- ITS FALSE NEIGHBOUR: 'it returns false'. Refute it at one input. -/
def fnAllWaysWrong : ChangeSpec := { name := "fnAllWays", fn := fun _ => fun
  | [d] => { results := [.lit (.bool false)], args := [d] }
  | _ => none }
def FnAllWaysWrongFalsely : Prop := fnAllWaysRow.holds Try.pinned (OpenSpec.ofChange fnAllWaysWrong)

/- THE SECOND FORM. 'bulk': how many values and letters a reading holds, each counted each time it is reached (what is shared counts as often as it is met; a slice's spare places count too). A statement '..UptoSaid' is the law's where the arguments, and the package variables that the reading takes, are together of bulk at most 1048576: NARROWER than '..Said'. Prove '..Said' where nothing that the law and all that it calls make is longer than what came in: it says more and counts as full. Else prove '..UptoSaid'. A law counts once. -/
mutual
def uptoBulk {H : Type} : DataW H → Nat
  | .lit (.string bytes) => bytes.length + 1
  | .lit _ => 1
  | .nil => 1
  | .ptr d => uptoBulk d + 1
  | .slice elems spare => uptoBulkAll elems + uptoBulkAll spare + 1
  | .agg parts => uptoBulkAll parts + 1
  | .iface _ d => uptoBulk d + 1
  | .map entries => uptoBulkEntries entries + 1
  | .held _ => 1
def uptoBulkAll {H : Type} : List (DataW H) → Nat
  | [] => 0
  | d :: r => uptoBulk d + uptoBulkAll r
def uptoBulkEntries {H : Type} : List (Lit × DataW H) → Nat
  | [] => 0
  | x :: r => uptoBulkEntry x + uptoBulkEntries r
def uptoBulkEntry {H : Type} : Lit × DataW H → Nat
  | (.string bytes, d) => bytes.length + uptoBulk d + 1
  | (_, d) => uptoBulk d + 1
 end
def uptoSmall : (H : Type) → List (DataW H) → Bool := fun _ ds => decide (uptoBulkAll ds ≤ 1048576)
def OpenSpec.upto (s : _root_.Go.ChangeSpec) : _root_.Go.OpenSpec := { _root_.Go.OpenSpec.ofChange s with cond := some uptoSmall }

/-- 'laws.FnExactTermOk', WHERE WHAT IT READS IS OF BULK AT MOST 1048576: true; the input reads as it did. -/
def fnExactTermOkUptoRow : OpenClaim := { program := "ytffllkmaifjpfab", sum := "11e2511b7a8a21105c82c0c6e474ca800c5092f6ee447417456f3317c558f63e", func := "loop.example/urnsandballs/laws.FnExactTermOk", spec := "fnExactTermOk", apart := false, narrowed := true }
def FnExactTermOkUptoSaid : Prop := fnExactTermOkUptoRow.holds Try.pinned (OpenSpec.upto fnExactTermOkSpec)

/-- 'laws.FnExactLengthOf', WHERE WHAT IT READS IS OF BULK AT MOST 1048576: true; the input reads as it did. -/
def fnExactLengthOfUptoRow : OpenClaim := { program := "ytffllkmaifjpfab", sum := "11e2511b7a8a21105c82c0c6e474ca800c5092f6ee447417456f3317c558f63e", func := "loop.example/urnsandballs/laws.FnExactLengthOf", spec := "fnExactLengthOf", recurses := true, apart := false, narrowed := true }
def FnExactLengthOfUptoSaid : Prop := fnExactLengthOfUptoRow.holds Try.pinned (OpenSpec.upto fnExactLengthOfSpec)

/-- 'laws.FnExactTermText', WHERE WHAT IT READS IS OF BULK AT MOST 1048576: true; the input reads as it did. -/
def fnExactTermTextUptoRow : OpenClaim := { program := "ytffllkmaifjpfab", sum := "11e2511b7a8a21105c82c0c6e474ca800c5092f6ee447417456f3317c558f63e", func := "loop.example/urnsandballs/laws.FnExactTermText", spec := "fnExactTermText", recurses := true, apart := false, narrowed := true }
def FnExactTermTextUptoSaid : Prop := fnExactTermTextUptoRow.holds Try.pinned (OpenSpec.upto fnExactTermTextSpec)

/-- 'laws.FnExactReadTerm', WHERE WHAT IT READS IS OF BULK AT MOST 1048576: true; the input reads as it did. -/
def fnExactReadTermUptoRow : OpenClaim := { program := "ytffllkmaifjpfab", sum := "11e2511b7a8a21105c82c0c6e474ca800c5092f6ee447417456f3317c558f63e", func := "loop.example/urnsandballs/laws.FnExactReadTerm", spec := "fnExactReadTerm", inPlace := ["internal/bytealg.IndexByteString"], recurses := true, apart := false, narrowed := true }
def FnExactReadTermUptoSaid : Prop := fnExactReadTermUptoRow.holds Try.pinned (OpenSpec.upto fnExactReadTermSpec)

/-- 'laws.FnExactFitsOk', WHERE WHAT IT READS IS OF BULK AT MOST 1048576: true; the input reads as it did. -/
def fnExactFitsOkUptoRow : OpenClaim := { program := "ytffllkmaifjpfab", sum := "11e2511b7a8a21105c82c0c6e474ca800c5092f6ee447417456f3317c558f63e", func := "loop.example/urnsandballs/laws.FnExactFitsOk", spec := "fnExactFitsOk", recurses := true, apart := false, narrowed := true }
def FnExactFitsOkUptoSaid : Prop := fnExactFitsOkUptoRow.holds Try.pinned (OpenSpec.upto fnExactFitsOkSpec)

/-- 'laws.FnExactTermWays', WHERE WHAT IT READS IS OF BULK AT MOST 1048576: true; the input reads as it did. -/
def fnExactTermWaysUptoRow : OpenClaim := { program := "ytffllkmaifjpfab", sum := "11e2511b7a8a21105c82c0c6e474ca800c5092f6ee447417456f3317c558f63e", func := "loop.example/urnsandballs/laws.FnExactTermWays", spec := "fnExactTermWays", unfollowed := true, recurses := true, apart := false, narrowed := true }
def FnExactTermWaysUptoSaid : Prop := fnExactTermWaysUptoRow.holds Try.pinned (OpenSpec.upto fnExactTermWaysSpec)

/-- 'laws.FnExactBackTerm', WHERE WHAT IT READS IS OF BULK AT MOST 1048576: true; the input reads as it did. -/
def fnExactBackTermUptoRow : OpenClaim := { program := "ytffllkmaifjpfab", sum := "11e2511b7a8a21105c82c0c6e474ca800c5092f6ee447417456f3317c558f63e", func := "loop.example/urnsandballs/laws.FnExactBackTerm", spec := "fnExactBackTerm", recurses := true, apart := false, narrowed := true }
def FnExactBackTermUptoSaid : Prop := fnExactBackTermUptoRow.holds Try.pinned (OpenSpec.upto fnExactBackTermSpec)

/-- 'laws.FnAllWays', WHERE WHAT IT READS IS OF BULK AT MOST 1048576: true; the input reads as it did. -/
def fnAllWaysUptoRow : OpenClaim := { program := "ytffllkmaifjpfab", sum := "11e2511b7a8a21105c82c0c6e474ca800c5092f6ee447417456f3317c558f63e", func := "loop.example/urnsandballs/laws.FnAllWays", spec := "fnAllWays", unfollowed := true, recurses := true, apart := false, narrowed := true }
def FnAllWaysUptoSaid : Prop := fnAllWaysUptoRow.holds Try.pinned (OpenSpec.upto fnAllWaysSpec)

end Rows
end Go.Proofs.Ytffllkmaifjpfab
