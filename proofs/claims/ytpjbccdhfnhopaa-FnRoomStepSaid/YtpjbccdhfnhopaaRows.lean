/-
  No cell of these rows narrows 'for every input' (looked for: loops, veiled, ifaces, maps, wideKeys, modest, calm, conditions, laid).
  DERIVED. THE GIVEN ROWS OF THIS SEAT. 8 by the template 'for every input the law returns true; each argument reads behind the call as it read before'; 0 by the template 'total and deterministic' (their statements: YtpjbccdhfnhopaaTotals.lean).
  GIVEN WITH THE SEED: the statements are not yours to turn. If you find one false, say at which input.
  Laid BY PROGRAM, IN A SANDBOX (cutbox-rows.mjs): the forced cells as the released guide's own fill.sh prints them over the translation 4482d236ce155dd6… (all of the seat's roots in one cut). By AI agents, Wed Nov 11 2026. No macro, syntax, notation, axiom, sorry.
-/
import Derived.Test.YtpjbccdhfnhopaaChecked
import GoSem.Claim
import GoSem.ClaimJoined
import GoSem.ClaimMapViews
import Derived.JoinedTies
import Derived.KernelRfl
namespace Go.Proofs.Ytpjbccdhfnhopaa
/- THE CELL 'sum', in the pinned program and in every row, IS THE sha256 OF THE DUMP (.gsa) THAT YtpjbccdhfnhopaaProg.lean LOADS. Nothing in Lean hashes anything: it is a label: what it is worth is what the hold of that sum in a sandbox is worth. -/
noncomputable def Try.pinned : Pinned := { name := "ytpjbccdhfnhopaa", sum := "4482d236ce155dd64b4f06f8fb3f963cd711b083944e263a4d70a0bbad934309", checked := Try.checked }
namespace Rows
def none {H : Type} : Left H := { results := [], args := [] }

/-- 'laws.FnRoomRowOk': WHATEVER THE INPUT: true; the input reads as it did. -/
def fnRoomRowOkSpec : ChangeSpec := { name := "fnRoomRowOk", fn := fun _ => fun
  | [d] => { results := [.lit (.bool true)], args := [d] }
  | _ => none }
def fnRoomRowOkRow : OpenClaim := { program := "ytpjbccdhfnhopaa", sum := "4482d236ce155dd64b4f06f8fb3f963cd711b083944e263a4d70a0bbad934309", func := "loop.example/urnsandballs/laws.FnRoomRowOk", spec := "fnRoomRowOk", apart := false }
def FnRoomRowOkSaid : Prop := fnRoomRowOkRow.holds Try.pinned (OpenSpec.ofChange fnRoomRowOkSpec)

/-- ITS FALSE NEIGHBOUR: 'it returns false'. Refute it at one input. -/
def fnRoomRowOkWrong : ChangeSpec := { name := "fnRoomRowOk", fn := fun _ => fun
  | [d] => { results := [.lit (.bool false)], args := [d] }
  | _ => none }
def FnRoomRowOkWrongFalsely : Prop := fnRoomRowOkRow.holds Try.pinned (OpenSpec.ofChange fnRoomRowOkWrong)

/-- 'laws.FnRoomStep': WHATEVER THE INPUT: true; the input reads as it did. -/
def fnRoomStepSpec : ChangeSpec := { name := "fnRoomStep", fn := fun _ => fun
  | [d] => { results := [.lit (.bool true)], args := [d] }
  | _ => none }
def fnRoomStepRow : OpenClaim := { program := "ytpjbccdhfnhopaa", sum := "4482d236ce155dd64b4f06f8fb3f963cd711b083944e263a4d70a0bbad934309", func := "loop.example/urnsandballs/laws.FnRoomStep", spec := "fnRoomStep", apart := false }
def FnRoomStepSaid : Prop := fnRoomStepRow.holds Try.pinned (OpenSpec.ofChange fnRoomStepSpec)

/-- ITS FALSE NEIGHBOUR: 'it returns false'. Refute it at one input. -/
def fnRoomStepWrong : ChangeSpec := { name := "fnRoomStep", fn := fun _ => fun
  | [d] => { results := [.lit (.bool false)], args := [d] }
  | _ => none }
def FnRoomStepWrongFalsely : Prop := fnRoomStepRow.holds Try.pinned (OpenSpec.ofChange fnRoomStepWrong)

/-- 'laws.FnRoomAfter': WHATEVER THE INPUT: true; the input reads as it did. -/
def fnRoomAfterSpec : ChangeSpec := { name := "fnRoomAfter", fn := fun _ => fun
  | [d] => { results := [.lit (.bool true)], args := [d] }
  | _ => none }
def fnRoomAfterRow : OpenClaim := { program := "ytpjbccdhfnhopaa", sum := "4482d236ce155dd64b4f06f8fb3f963cd711b083944e263a4d70a0bbad934309", func := "loop.example/urnsandballs/laws.FnRoomAfter", spec := "fnRoomAfter", unfollowed := true, recurses := true, apart := false }
def FnRoomAfterSaid : Prop := fnRoomAfterRow.holds Try.pinned (OpenSpec.ofChange fnRoomAfterSpec)

/-- ITS FALSE NEIGHBOUR: 'it returns false'. Refute it at one input. -/
def fnRoomAfterWrong : ChangeSpec := { name := "fnRoomAfter", fn := fun _ => fun
  | [d] => { results := [.lit (.bool false)], args := [d] }
  | _ => none }
def FnRoomAfterWrongFalsely : Prop := fnRoomAfterRow.holds Try.pinned (OpenSpec.ofChange fnRoomAfterWrong)

/-- 'laws.FnRestRow': WHATEVER THE INPUT: true; the input reads as it did. -/
def fnRestRowSpec : ChangeSpec := { name := "fnRestRow", fn := fun _ => fun
  | [d] => { results := [.lit (.bool true)], args := [d] }
  | _ => none }
def fnRestRowRow : OpenClaim := { program := "ytpjbccdhfnhopaa", sum := "4482d236ce155dd64b4f06f8fb3f963cd711b083944e263a4d70a0bbad934309", func := "loop.example/urnsandballs/laws.FnRestRow", spec := "fnRestRow", unfollowed := true, recurses := true, apart := false }
def FnRestRowSaid : Prop := fnRestRowRow.holds Try.pinned (OpenSpec.ofChange fnRestRowSpec)

/-- ITS FALSE NEIGHBOUR: 'it returns false'. Refute it at one input. -/
def fnRestRowWrong : ChangeSpec := { name := "fnRestRow", fn := fun _ => fun
  | [d] => { results := [.lit (.bool false)], args := [d] }
  | _ => none }
def FnRestRowWrongFalsely : Prop := fnRestRowRow.holds Try.pinned (OpenSpec.ofChange fnRestRowWrong)

/-- 'laws.FnLeanAfter': WHATEVER THE INPUT: true; the input reads as it did. -/
def fnLeanAfterSpec : ChangeSpec := { name := "fnLeanAfter", fn := fun _ => fun
  | [d] => { results := [.lit (.bool true)], args := [d] }
  | _ => none }
def fnLeanAfterRow : OpenClaim := { program := "ytpjbccdhfnhopaa", sum := "4482d236ce155dd64b4f06f8fb3f963cd711b083944e263a4d70a0bbad934309", func := "loop.example/urnsandballs/laws.FnLeanAfter", spec := "fnLeanAfter", unfollowed := true, recurses := true, apart := false }
def FnLeanAfterSaid : Prop := fnLeanAfterRow.holds Try.pinned (OpenSpec.ofChange fnLeanAfterSpec)

/-- ITS FALSE NEIGHBOUR: 'it returns false'. Refute it at one input. -/
def fnLeanAfterWrong : ChangeSpec := { name := "fnLeanAfter", fn := fun _ => fun
  | [d] => { results := [.lit (.bool false)], args := [d] }
  | _ => none }
def FnLeanAfterWrongFalsely : Prop := fnLeanAfterRow.holds Try.pinned (OpenSpec.ofChange fnLeanAfterWrong)

/-- 'laws.FnRoomTwice': WHATEVER THE INPUT: true; the input reads as it did. -/
def fnRoomTwiceSpec : ChangeSpec := { name := "fnRoomTwice", fn := fun _ => fun
  | [d] => { results := [.lit (.bool true)], args := [d] }
  | _ => none }
def fnRoomTwiceRow : OpenClaim := { program := "ytpjbccdhfnhopaa", sum := "4482d236ce155dd64b4f06f8fb3f963cd711b083944e263a4d70a0bbad934309", func := "loop.example/urnsandballs/laws.FnRoomTwice", spec := "fnRoomTwice", unfollowed := true, recurses := true, apart := false }
def FnRoomTwiceSaid : Prop := fnRoomTwiceRow.holds Try.pinned (OpenSpec.ofChange fnRoomTwiceSpec)

/-- ITS FALSE NEIGHBOUR: 'it returns false'. Refute it at one input. -/
def fnRoomTwiceWrong : ChangeSpec := { name := "fnRoomTwice", fn := fun _ => fun
  | [d] => { results := [.lit (.bool false)], args := [d] }
  | _ => none }
def FnRoomTwiceWrongFalsely : Prop := fnRoomTwiceRow.holds Try.pinned (OpenSpec.ofChange fnRoomTwiceWrong)

/-- 'laws.FnRestSquares': WHATEVER THE INPUT: true; the input reads as it did. -/
def fnRestSquaresSpec : ChangeSpec := { name := "fnRestSquares", fn := fun _ => fun
  | [d] => { results := [.lit (.bool true)], args := [d] }
  | _ => none }
def fnRestSquaresRow : OpenClaim := { program := "ytpjbccdhfnhopaa", sum := "4482d236ce155dd64b4f06f8fb3f963cd711b083944e263a4d70a0bbad934309", func := "loop.example/urnsandballs/laws.FnRestSquares", spec := "fnRestSquares", unfollowed := true, recurses := true, apart := false }
def FnRestSquaresSaid : Prop := fnRestSquaresRow.holds Try.pinned (OpenSpec.ofChange fnRestSquaresSpec)

/-- ITS FALSE NEIGHBOUR: 'it returns false'. Refute it at one input. -/
def fnRestSquaresWrong : ChangeSpec := { name := "fnRestSquares", fn := fun _ => fun
  | [d] => { results := [.lit (.bool false)], args := [d] }
  | _ => none }
def FnRestSquaresWrongFalsely : Prop := fnRestSquaresRow.holds Try.pinned (OpenSpec.ofChange fnRestSquaresWrong)

/-- 'laws.FnExactRoomRowOk': WHATEVER THE INPUT: true; the input reads as it did. -/
def fnExactRoomRowOkSpec : ChangeSpec := { name := "fnExactRoomRowOk", fn := fun _ => fun
  | [d1, d2] => { results := [.lit (.bool true)], args := [d1, d2] }
  | _ => none }
def fnExactRoomRowOkRow : OpenClaim := { program := "ytpjbccdhfnhopaa", sum := "4482d236ce155dd64b4f06f8fb3f963cd711b083944e263a4d70a0bbad934309", func := "loop.example/urnsandballs/laws.FnExactRoomRowOk", spec := "fnExactRoomRowOk", apart := false }
def FnExactRoomRowOkSaid : Prop := fnExactRoomRowOkRow.holds Try.pinned (OpenSpec.ofChange fnExactRoomRowOkSpec)

/-- ITS FALSE NEIGHBOUR: 'it returns false'. Refute it at one input. -/
def fnExactRoomRowOkWrong : ChangeSpec := { name := "fnExactRoomRowOk", fn := fun _ => fun
  | [d1, d2] => { results := [.lit (.bool false)], args := [d1, d2] }
  | _ => none }
def FnExactRoomRowOkWrongFalsely : Prop := fnExactRoomRowOkRow.holds Try.pinned (OpenSpec.ofChange fnExactRoomRowOkWrong)

/- THE SECOND FORM. 'bulk': how many values and letters a reading holds, each counted each time it is reached (what is shared counts as often as it is met; a slice's spare places count too). A statement '..UptoSaid' is the law's where the arguments, and the package variables that the reading takes, are together of bulk at most 1048576: NARROWER than '..Said'. Prove '..Said' where nothing that the law and all that it calls make is longer than what came in: it says more and counts as full. Else prove '..UptoSaid'. A law counts once. -/
mutual
def uptoBulk {H : Type} : DataW H → Nat
  | .lit (.string bytes) => bytes.length + 1
  | .lit _ => 1
  | .nil => 1
  | .ptr d => uptoBulk d + 1
  | .slice elems spare => uptoBulkAll elems + uptoBulkAll spare + 1
  | .agg parts => uptoBulkAll parts + 1
  | .iface _ d => uptoBulk d + 1
  | .map entries => uptoBulkEntries entries + 1
  | .held _ => 1
def uptoBulkAll {H : Type} : List (DataW H) → Nat
  | [] => 0
  | d :: r => uptoBulk d + uptoBulkAll r
def uptoBulkEntries {H : Type} : List (Lit × DataW H) → Nat
  | [] => 0
  | x :: r => uptoBulkEntry x + uptoBulkEntries r
def uptoBulkEntry {H : Type} : Lit × DataW H → Nat
  | (.string bytes, d) => bytes.length + uptoBulk d + 1
  | (_, d) => uptoBulk d + 1
 end
def uptoSmall : (H : Type) → List (DataW H) → Bool := fun _ ds => decide (uptoBulkAll ds ≤ 1048576)
def OpenSpec.upto (s : _root_.Go.ChangeSpec) : _root_.Go.OpenSpec := { _root_.Go.OpenSpec.ofChange s with cond := some uptoSmall }

/-- 'laws.FnRoomRowOk', WHERE WHAT IT READS IS OF BULK AT MOST 1048576: true; the input reads as it did. -/
def fnRoomRowOkUptoRow : OpenClaim := { program := "ytpjbccdhfnhopaa", sum := "4482d236ce155dd64b4f06f8fb3f963cd711b083944e263a4d70a0bbad934309", func := "loop.example/urnsandballs/laws.FnRoomRowOk", spec := "fnRoomRowOk", apart := false, narrowed := true }
def FnRoomRowOkUptoSaid : Prop := fnRoomRowOkUptoRow.holds Try.pinned (OpenSpec.upto fnRoomRowOkSpec)

/-- 'laws.FnRoomStep', WHERE WHAT IT READS IS OF BULK AT MOST 1048576: true; the input reads as it did. -/
def fnRoomStepUptoRow : OpenClaim := { program := "ytpjbccdhfnhopaa", sum := "4482d236ce155dd64b4f06f8fb3f963cd711b083944e263a4d70a0bbad934309", func := "loop.example/urnsandballs/laws.FnRoomStep", spec := "fnRoomStep", apart := false, narrowed := true }
def FnRoomStepUptoSaid : Prop := fnRoomStepUptoRow.holds Try.pinned (OpenSpec.upto fnRoomStepSpec)

/-- 'laws.FnRoomAfter', WHERE WHAT IT READS IS OF BULK AT MOST 1048576: true; the input reads as it did. -/
def fnRoomAfterUptoRow : OpenClaim := { program := "ytpjbccdhfnhopaa", sum := "4482d236ce155dd64b4f06f8fb3f963cd711b083944e263a4d70a0bbad934309", func := "loop.example/urnsandballs/laws.FnRoomAfter", spec := "fnRoomAfter", unfollowed := true, recurses := true, apart := false, narrowed := true }
def FnRoomAfterUptoSaid : Prop := fnRoomAfterUptoRow.holds Try.pinned (OpenSpec.upto fnRoomAfterSpec)

/-- 'laws.FnRestRow', WHERE WHAT IT READS IS OF BULK AT MOST 1048576: true; the input reads as it did. -/
def fnRestRowUptoRow : OpenClaim := { program := "ytpjbccdhfnhopaa", sum := "4482d236ce155dd64b4f06f8fb3f963cd711b083944e263a4d70a0bbad934309", func := "loop.example/urnsandballs/laws.FnRestRow", spec := "fnRestRow", unfollowed := true, recurses := true, apart := false, narrowed := true }
def FnRestRowUptoSaid : Prop := fnRestRowUptoRow.holds Try.pinned (OpenSpec.upto fnRestRowSpec)

/-- 'laws.FnLeanAfter', WHERE WHAT IT READS IS OF BULK AT MOST 1048576: true; the input reads as it did. -/
def fnLeanAfterUptoRow : OpenClaim := { program := "ytpjbccdhfnhopaa", sum := "4482d236ce155dd64b4f06f8fb3f963cd711b083944e263a4d70a0bbad934309", func := "loop.example/urnsandballs/laws.FnLeanAfter", spec := "fnLeanAfter", unfollowed := true, recurses := true, apart := false, narrowed := true }
def FnLeanAfterUptoSaid : Prop := fnLeanAfterUptoRow.holds Try.pinned (OpenSpec.upto fnLeanAfterSpec)

/-- 'laws.FnRoomTwice', WHERE WHAT IT READS IS OF BULK AT MOST 1048576: true; the input reads as it did. -/
def fnRoomTwiceUptoRow : OpenClaim := { program := "ytpjbccdhfnhopaa", sum := "4482d236ce155dd64b4f06f8fb3f963cd711b083944e263a4d70a0bbad934309", func := "loop.example/urnsandballs/laws.FnRoomTwice", spec := "fnRoomTwice", unfollowed := true, recurses := true, apart := false, narrowed := true }
def FnRoomTwiceUptoSaid : Prop := fnRoomTwiceUptoRow.holds Try.pinned (OpenSpec.upto fnRoomTwiceSpec)

/-- 'laws.FnRestSquares', WHERE WHAT IT READS IS OF BULK AT MOST 1048576: true; the input reads as it did. -/
def fnRestSquaresUptoRow : OpenClaim := { program := "ytpjbccdhfnhopaa", sum := "4482d236ce155dd64b4f06f8fb3f963cd711b083944e263a4d70a0bbad934309", func := "loop.example/urnsandballs/laws.FnRestSquares", spec := "fnRestSquares", unfollowed := true, recurses := true, apart := false, narrowed := true }
def FnRestSquaresUptoSaid : Prop := fnRestSquaresUptoRow.holds Try.pinned (OpenSpec.upto fnRestSquaresSpec)

/-- 'laws.FnExactRoomRowOk', WHERE WHAT IT READS IS OF BULK AT MOST 1048576: true; the input reads as it did. -/
def fnExactRoomRowOkUptoRow : OpenClaim := { program := "ytpjbccdhfnhopaa", sum := "4482d236ce155dd64b4f06f8fb3f963cd711b083944e263a4d70a0bbad934309", func := "loop.example/urnsandballs/laws.FnExactRoomRowOk", spec := "fnExactRoomRowOk", apart := false, narrowed := true }
def FnExactRoomRowOkUptoSaid : Prop := fnExactRoomRowOkUptoRow.holds Try.pinned (OpenSpec.upto fnExactRoomRowOkSpec)

end Rows
end Go.Proofs.Ytpjbccdhfnhopaa
