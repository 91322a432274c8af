/-
  No cell of these rows narrows 'for every input' (looked for: loops, veiled, ifaces, maps, wideKeys, modest, calm, conditions, laid).
  DERIVED. THE GIVEN ROWS OF THIS SEAT. 8 by the template 'for every input the law returns true; each argument reads behind the call as it read before'; 0 by the template 'total and deterministic' (their statements: YtffllkmaifjpfaaTotals.lean).
  GIVEN WITH THE SEED: the statements are not yours to turn. If you find one false, say at which input.
  Laid BY PROGRAM, IN A SANDBOX (cutbox-rows.mjs): the forced cells as the released guide's own fill.sh prints them over the translation 6753072985962fe5… (all of the seat's roots in one cut). By AI agents, Wed Nov 11 2026. No macro, syntax, notation, axiom, sorry.
-/
import Derived.Test.YtffllkmaifjpfaaChecked
import GoSem.Claim
import GoSem.ClaimJoined
import GoSem.ClaimMapViews
import Derived.JoinedTies
import Derived.KernelRfl
namespace Go.Proofs.Ytffllkmaifjpfaa
/- THE CELL 'sum', in the pinned program and in every row, IS THE sha256 OF THE DUMP (.gsa) THAT YtffllkmaifjpfaaProg.lean LOADS. Nothing in Lean hashes anything: it is a label: what it is worth is what the hold of that sum in a sandbox is worth. -/
noncomputable def Try.pinned : Pinned := { name := "ytffllkmaifjpfaa", sum := "6753072985962fe5dfbfadd534d5381cad73b366680bcfc466b1b7dc6c923009", checked := Try.checked }
namespace Rows
def none {H : Type} : Left H := { results := [], args := [] }

/-- 'laws.FnTermOk': WHATEVER THE INPUT: true; the input reads as it did. -/
def fnTermOkSpec : ChangeSpec := { name := "fnTermOk", fn := fun _ => fun
  | [d] => { results := [.lit (.bool true)], args := [d] }
  | _ => none }
def fnTermOkRow : OpenClaim := { program := "ytffllkmaifjpfaa", sum := "6753072985962fe5dfbfadd534d5381cad73b366680bcfc466b1b7dc6c923009", func := "loop.example/urnsandballs/laws.FnTermOk", spec := "fnTermOk", recurses := true, apart := false }
def FnTermOkSaid : Prop := fnTermOkRow.holds Try.pinned (OpenSpec.ofChange fnTermOkSpec)

/-- ITS FALSE NEIGHBOUR: 'it returns false'. Refute it at one input. -/
def fnTermOkWrong : ChangeSpec := { name := "fnTermOk", fn := fun _ => fun
  | [d] => { results := [.lit (.bool false)], args := [d] }
  | _ => none }
def FnTermOkWrongFalsely : Prop := fnTermOkRow.holds Try.pinned (OpenSpec.ofChange fnTermOkWrong)

/-- 'laws.FnLengthOf': WHATEVER THE INPUT: true; the input reads as it did. -/
def fnLengthOfSpec : ChangeSpec := { name := "fnLengthOf", fn := fun _ => fun
  | [d] => { results := [.lit (.bool true)], args := [d] }
  | _ => none }
def fnLengthOfRow : OpenClaim := { program := "ytffllkmaifjpfaa", sum := "6753072985962fe5dfbfadd534d5381cad73b366680bcfc466b1b7dc6c923009", func := "loop.example/urnsandballs/laws.FnLengthOf", spec := "fnLengthOf", recurses := true, apart := false }
def FnLengthOfSaid : Prop := fnLengthOfRow.holds Try.pinned (OpenSpec.ofChange fnLengthOfSpec)

/-- ITS FALSE NEIGHBOUR: 'it returns false'. Refute it at one input. -/
def fnLengthOfWrong : ChangeSpec := { name := "fnLengthOf", fn := fun _ => fun
  | [d] => { results := [.lit (.bool false)], args := [d] }
  | _ => none }
def FnLengthOfWrongFalsely : Prop := fnLengthOfRow.holds Try.pinned (OpenSpec.ofChange fnLengthOfWrong)

/-- 'laws.FnTermText': WHATEVER THE INPUT: true; the input reads as it did. -/
def fnTermTextSpec : ChangeSpec := { name := "fnTermText", fn := fun _ => fun
  | [d] => { results := [.lit (.bool true)], args := [d] }
  | _ => none }
def fnTermTextRow : OpenClaim := { program := "ytffllkmaifjpfaa", sum := "6753072985962fe5dfbfadd534d5381cad73b366680bcfc466b1b7dc6c923009", func := "loop.example/urnsandballs/laws.FnTermText", spec := "fnTermText", inPlace := ["internal/bytealg.IndexByteString"], recurses := true, apart := false }
def FnTermTextSaid : Prop := fnTermTextRow.holds Try.pinned (OpenSpec.ofChange fnTermTextSpec)

/-- ITS FALSE NEIGHBOUR: 'it returns false'. Refute it at one input. -/
def fnTermTextWrong : ChangeSpec := { name := "fnTermText", fn := fun _ => fun
  | [d] => { results := [.lit (.bool false)], args := [d] }
  | _ => none }
def FnTermTextWrongFalsely : Prop := fnTermTextRow.holds Try.pinned (OpenSpec.ofChange fnTermTextWrong)

/-- 'laws.FnReadTerm': WHATEVER THE INPUT: true; the input reads as it did. -/
def fnReadTermSpec : ChangeSpec := { name := "fnReadTerm", fn := fun _ => fun
  | [d] => { results := [.lit (.bool true)], args := [d] }
  | _ => none }
def fnReadTermRow : OpenClaim := { program := "ytffllkmaifjpfaa", sum := "6753072985962fe5dfbfadd534d5381cad73b366680bcfc466b1b7dc6c923009", func := "loop.example/urnsandballs/laws.FnReadTerm", spec := "fnReadTerm", inPlace := ["internal/bytealg.IndexByteString"], recurses := true, apart := false }
def FnReadTermSaid : Prop := fnReadTermRow.holds Try.pinned (OpenSpec.ofChange fnReadTermSpec)

/-- ITS FALSE NEIGHBOUR: 'it returns false'. Refute it at one input. -/
def fnReadTermWrong : ChangeSpec := { name := "fnReadTerm", fn := fun _ => fun
  | [d] => { results := [.lit (.bool false)], args := [d] }
  | _ => none }
def FnReadTermWrongFalsely : Prop := fnReadTermRow.holds Try.pinned (OpenSpec.ofChange fnReadTermWrong)

/-- 'laws.FnFitsOk': WHATEVER THE INPUT: true; the input reads as it did. -/
def fnFitsOkSpec : ChangeSpec := { name := "fnFitsOk", fn := fun _ => fun
  | [d] => { results := [.lit (.bool true)], args := [d] }
  | _ => none }
def fnFitsOkRow : OpenClaim := { program := "ytffllkmaifjpfaa", sum := "6753072985962fe5dfbfadd534d5381cad73b366680bcfc466b1b7dc6c923009", func := "loop.example/urnsandballs/laws.FnFitsOk", spec := "fnFitsOk", recurses := true, apart := false }
def FnFitsOkSaid : Prop := fnFitsOkRow.holds Try.pinned (OpenSpec.ofChange fnFitsOkSpec)

/-- ITS FALSE NEIGHBOUR: 'it returns false'. Refute it at one input. -/
def fnFitsOkWrong : ChangeSpec := { name := "fnFitsOk", fn := fun _ => fun
  | [d] => { results := [.lit (.bool false)], args := [d] }
  | _ => none }
def FnFitsOkWrongFalsely : Prop := fnFitsOkRow.holds Try.pinned (OpenSpec.ofChange fnFitsOkWrong)

/-- 'laws.FnTermWays': WHATEVER THE INPUT: true; the input reads as it did. -/
def fnTermWaysSpec : ChangeSpec := { name := "fnTermWays", fn := fun _ => fun
  | [d1, d2] => { results := [.lit (.bool true)], args := [d1, d2] }
  | _ => none }
def fnTermWaysRow : OpenClaim := { program := "ytffllkmaifjpfaa", sum := "6753072985962fe5dfbfadd534d5381cad73b366680bcfc466b1b7dc6c923009", func := "loop.example/urnsandballs/laws.FnTermWays", spec := "fnTermWays", unfollowed := true, recurses := true, apart := false }
def FnTermWaysSaid : Prop := fnTermWaysRow.holds Try.pinned (OpenSpec.ofChange fnTermWaysSpec)

/-- ITS FALSE NEIGHBOUR: 'it returns false'. Refute it at one input. -/
def fnTermWaysWrong : ChangeSpec := { name := "fnTermWays", fn := fun _ => fun
  | [d1, d2] => { results := [.lit (.bool false)], args := [d1, d2] }
  | _ => none }
def FnTermWaysWrongFalsely : Prop := fnTermWaysRow.holds Try.pinned (OpenSpec.ofChange fnTermWaysWrong)

/-- 'laws.FnBackTerm': WHATEVER THE INPUT: true; the input reads as it did. -/
def fnBackTermSpec : ChangeSpec := { name := "fnBackTerm", fn := fun _ => fun
  | [d] => { results := [.lit (.bool true)], args := [d] }
  | _ => none }
def fnBackTermRow : OpenClaim := { program := "ytffllkmaifjpfaa", sum := "6753072985962fe5dfbfadd534d5381cad73b366680bcfc466b1b7dc6c923009", func := "loop.example/urnsandballs/laws.FnBackTerm", spec := "fnBackTerm", recurses := true, apart := false }
def FnBackTermSaid : Prop := fnBackTermRow.holds Try.pinned (OpenSpec.ofChange fnBackTermSpec)

/-- ITS FALSE NEIGHBOUR: 'it returns false'. Refute it at one input. -/
def fnBackTermWrong : ChangeSpec := { name := "fnBackTerm", fn := fun _ => fun
  | [d] => { results := [.lit (.bool false)], args := [d] }
  | _ => none }
def FnBackTermWrongFalsely : Prop := fnBackTermRow.holds Try.pinned (OpenSpec.ofChange fnBackTermWrong)

/-- 'laws.FnTermAny': WHATEVER THE INPUT: true; the input reads as it did. -/
def fnTermAnySpec : ChangeSpec := { name := "fnTermAny", fn := fun _ => fun
  | [d] => { results := [.lit (.bool true)], args := [d] }
  | _ => none }
def fnTermAnyRow : OpenClaim := { program := "ytffllkmaifjpfaa", sum := "6753072985962fe5dfbfadd534d5381cad73b366680bcfc466b1b7dc6c923009", func := "loop.example/urnsandballs/laws.FnTermAny", spec := "fnTermAny", unfollowed := true, recurses := true, apart := false }
def FnTermAnySaid : Prop := fnTermAnyRow.holds Try.pinned (OpenSpec.ofChange fnTermAnySpec)

/-- ITS FALSE NEIGHBOUR: 'it returns false'. Refute it at one input. -/
def fnTermAnyWrong : ChangeSpec := { name := "fnTermAny", fn := fun _ => fun
  | [d] => { results := [.lit (.bool false)], args := [d] }
  | _ => none }
def FnTermAnyWrongFalsely : Prop := fnTermAnyRow.holds Try.pinned (OpenSpec.ofChange fnTermAnyWrong)

/- THE SECOND FORM. 'bulk': how many values and letters a reading holds, each counted each time it is reached (what is shared counts as often as it is met; a slice's spare places count too). A statement '..UptoSaid' is the law's where the arguments, and the package variables that the reading takes, are together of bulk at most 1048576: NARROWER than '..Said'. Prove '..Said' where nothing that the law and all that it calls make is longer than what came in: it says more and counts as full. Else prove '..UptoSaid'. A law counts once. -/
mutual
def uptoBulk {H : Type} : DataW H → Nat
  | .lit (.string bytes) => bytes.length + 1
  | .lit _ => 1
  | .nil => 1
  | .ptr d => uptoBulk d + 1
  | .slice elems spare => uptoBulkAll elems + uptoBulkAll spare + 1
  | .agg parts => uptoBulkAll parts + 1
  | .iface _ d => uptoBulk d + 1
  | .map entries => uptoBulkEntries entries + 1
  | .held _ => 1
def uptoBulkAll {H : Type} : List (DataW H) → Nat
  | [] => 0
  | d :: r => uptoBulk d + uptoBulkAll r
def uptoBulkEntries {H : Type} : List (Lit × DataW H) → Nat
  | [] => 0
  | x :: r => uptoBulkEntry x + uptoBulkEntries r
def uptoBulkEntry {H : Type} : Lit × DataW H → Nat
  | (.string bytes, d) => bytes.length + uptoBulk d + 1
  | (_, d) => uptoBulk d + 1
 end
def uptoSmall : (H : Type) → List (DataW H) → Bool := fun _ ds => decide (uptoBulkAll ds ≤ 1048576)
def OpenSpec.upto (s : _root_.Go.ChangeSpec) : _root_.Go.OpenSpec := { _root_.Go.OpenSpec.ofChange s with cond := some uptoSmall }

/-- 'laws.FnTermOk', WHERE WHAT IT READS IS OF BULK AT MOST 1048576: true; the input reads as it did. -/
def fnTermOkUptoRow : OpenClaim := { program := "ytffllkmaifjpfaa", sum := "6753072985962fe5dfbfadd534d5381cad73b366680bcfc466b1b7dc6c923009", func := "loop.example/urnsandballs/laws.FnTermOk", spec := "fnTermOk", recurses := true, apart := false, narrowed := true }
def FnTermOkUptoSaid : Prop := fnTermOkUptoRow.holds Try.pinned (OpenSpec.upto fnTermOkSpec)

/-- 'laws.FnLengthOf', WHERE WHAT IT READS IS OF BULK AT MOST 1048576: true; the input reads as it did. -/
def fnLengthOfUptoRow : OpenClaim := { program := "ytffllkmaifjpfaa", sum := "6753072985962fe5dfbfadd534d5381cad73b366680bcfc466b1b7dc6c923009", func := "loop.example/urnsandballs/laws.FnLengthOf", spec := "fnLengthOf", recurses := true, apart := false, narrowed := true }
def FnLengthOfUptoSaid : Prop := fnLengthOfUptoRow.holds Try.pinned (OpenSpec.upto fnLengthOfSpec)

/-- 'laws.FnTermText', WHERE WHAT IT READS IS OF BULK AT MOST 1048576: true; the input reads as it did. -/
def fnTermTextUptoRow : OpenClaim := { program := "ytffllkmaifjpfaa", sum := "6753072985962fe5dfbfadd534d5381cad73b366680bcfc466b1b7dc6c923009", func := "loop.example/urnsandballs/laws.FnTermText", spec := "fnTermText", inPlace := ["internal/bytealg.IndexByteString"], recurses := true, apart := false, narrowed := true }
def FnTermTextUptoSaid : Prop := fnTermTextUptoRow.holds Try.pinned (OpenSpec.upto fnTermTextSpec)

/-- 'laws.FnReadTerm', WHERE WHAT IT READS IS OF BULK AT MOST 1048576: true; the input reads as it did. -/
def fnReadTermUptoRow : OpenClaim := { program := "ytffllkmaifjpfaa", sum := "6753072985962fe5dfbfadd534d5381cad73b366680bcfc466b1b7dc6c923009", func := "loop.example/urnsandballs/laws.FnReadTerm", spec := "fnReadTerm", inPlace := ["internal/bytealg.IndexByteString"], recurses := true, apart := false, narrowed := true }
def FnReadTermUptoSaid : Prop := fnReadTermUptoRow.holds Try.pinned (OpenSpec.upto fnReadTermSpec)

/-- 'laws.FnFitsOk', WHERE WHAT IT READS IS OF BULK AT MOST 1048576: true; the input reads as it did. -/
def fnFitsOkUptoRow : OpenClaim := { program := "ytffllkmaifjpfaa", sum := "6753072985962fe5dfbfadd534d5381cad73b366680bcfc466b1b7dc6c923009", func := "loop.example/urnsandballs/laws.FnFitsOk", spec := "fnFitsOk", recurses := true, apart := false, narrowed := true }
def FnFitsOkUptoSaid : Prop := fnFitsOkUptoRow.holds Try.pinned (OpenSpec.upto fnFitsOkSpec)

/-- 'laws.FnTermWays', WHERE WHAT IT READS IS OF BULK AT MOST 1048576: true; the input reads as it did. -/
def fnTermWaysUptoRow : OpenClaim := { program := "ytffllkmaifjpfaa", sum := "6753072985962fe5dfbfadd534d5381cad73b366680bcfc466b1b7dc6c923009", func := "loop.example/urnsandballs/laws.FnTermWays", spec := "fnTermWays", unfollowed := true, recurses := true, apart := false, narrowed := true }
def FnTermWaysUptoSaid : Prop := fnTermWaysUptoRow.holds Try.pinned (OpenSpec.upto fnTermWaysSpec)

/-- 'laws.FnBackTerm', WHERE WHAT IT READS IS OF BULK AT MOST 1048576: true; the input reads as it did. -/
def fnBackTermUptoRow : OpenClaim := { program := "ytffllkmaifjpfaa", sum := "6753072985962fe5dfbfadd534d5381cad73b366680bcfc466b1b7dc6c923009", func := "loop.example/urnsandballs/laws.FnBackTerm", spec := "fnBackTerm", recurses := true, apart := false, narrowed := true }
def FnBackTermUptoSaid : Prop := fnBackTermUptoRow.holds Try.pinned (OpenSpec.upto fnBackTermSpec)

/-- 'laws.FnTermAny', WHERE WHAT IT READS IS OF BULK AT MOST 1048576: true; the input reads as it did. -/
def fnTermAnyUptoRow : OpenClaim := { program := "ytffllkmaifjpfaa", sum := "6753072985962fe5dfbfadd534d5381cad73b366680bcfc466b1b7dc6c923009", func := "loop.example/urnsandballs/laws.FnTermAny", spec := "fnTermAny", unfollowed := true, recurses := true, apart := false, narrowed := true }
def FnTermAnyUptoSaid : Prop := fnTermAnyUptoRow.holds Try.pinned (OpenSpec.upto fnTermAnySpec)

end Rows
end Go.Proofs.Ytffllkmaifjpfaa
