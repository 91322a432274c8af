/-
  No cell of these rows narrows 'for every input' (looked for: loops, veiled, ifaces, maps, wideKeys, modest, calm, conditions, laid).
  DERIVED. THE GIVEN ROWS OF THIS SEAT. 9 by the template 'for every input the law returns true; each argument reads behind the call as it read before'; 0 by the template 'total and deterministic' (their statements: YtfencbfjnifmjabTotals.lean).
  GIVEN WITH THE SEED: the statements are not yours to turn. If you find one false, say at which input.
  Laid BY PROGRAM, IN A SANDBOX (cutbox-rows.mjs): the forced cells as the released guide's own fill.sh prints them over the translation 92bb3807b33cc0dc… (all of the seat's roots in one cut). By AI agents, Wed Nov 11 2026. No macro, syntax, notation, axiom, sorry.
-/
import Derived.Test.YtfencbfjnifmjabChecked
import GoSem.Claim
import GoSem.ClaimJoined
import GoSem.ClaimMapViews
import Derived.JoinedTies
import Derived.KernelRfl
namespace Go.Proofs.Ytfencbfjnifmjab
/- THE CELL 'sum', in the pinned program and in every row, IS THE sha256 OF THE DUMP (.gsa) THAT YtfencbfjnifmjabProg.lean LOADS. Nothing in Lean hashes anything: it is a label: what it is worth is what the hold of that sum in a sandbox is worth. -/
noncomputable def Try.pinned : Pinned := { name := "ytfencbfjnifmjab", sum := "92bb3807b33cc0dc5a66cb60efa8099ec7fedde3845ad459f511a51ca05b441a", checked := Try.checked }
namespace Rows
def none {H : Type} : Left H := { results := [], args := [] }

/-- 'laws.FnExactEmptyWays': WHATEVER THE INPUT: true; the input reads as it did. -/
def fnExactEmptyWaysSpec : ChangeSpec := { name := "fnExactEmptyWays", fn := fun _ => fun
  | [d1, d2, d3] => { results := [.lit (.bool true)], args := [d1, d2, d3] }
  | _ => none }
def fnExactEmptyWaysRow : OpenClaim := { program := "ytfencbfjnifmjab", sum := "92bb3807b33cc0dc5a66cb60efa8099ec7fedde3845ad459f511a51ca05b441a", func := "loop.example/urnsandballs/laws.FnExactEmptyWays", spec := "fnExactEmptyWays", unfollowed := true, recurses := true, apart := false }
def FnExactEmptyWaysSaid : Prop := fnExactEmptyWaysRow.holds Try.pinned (OpenSpec.ofChange fnExactEmptyWaysSpec)

/-- ITS FALSE NEIGHBOUR: 'it returns false'. Refute it at one input. -/
def fnExactEmptyWaysWrong : ChangeSpec := { name := "fnExactEmptyWays", fn := fun _ => fun
  | [d1, d2, d3] => { results := [.lit (.bool false)], args := [d1, d2, d3] }
  | _ => none }
def FnExactEmptyWaysWrongFalsely : Prop := fnExactEmptyWaysRow.holds Try.pinned (OpenSpec.ofChange fnExactEmptyWaysWrong)

/-- 'laws.FnExactApartWays': WHATEVER THE INPUT: true; the input reads as it did. -/
def fnExactApartWaysSpec : ChangeSpec := { name := "fnExactApartWays", fn := fun _ => fun
  | [d1, d2] => { results := [.lit (.bool true)], args := [d1, d2] }
  | _ => none }
def fnExactApartWaysRow : OpenClaim := { program := "ytfencbfjnifmjab", sum := "92bb3807b33cc0dc5a66cb60efa8099ec7fedde3845ad459f511a51ca05b441a", func := "loop.example/urnsandballs/laws.FnExactApartWays", spec := "fnExactApartWays", apart := false }
def FnExactApartWaysSaid : Prop := fnExactApartWaysRow.holds Try.pinned (OpenSpec.ofChange fnExactApartWaysSpec)

/-- ITS FALSE NEIGHBOUR: 'it returns false'. Refute it at one input. -/
def fnExactApartWaysWrong : ChangeSpec := { name := "fnExactApartWays", fn := fun _ => fun
  | [d1, d2] => { results := [.lit (.bool false)], args := [d1, d2] }
  | _ => none }
def FnExactApartWaysWrongFalsely : Prop := fnExactApartWaysRow.holds Try.pinned (OpenSpec.ofChange fnExactApartWaysWrong)

/-- 'laws.FnExactGroupsOf': WHATEVER THE INPUT: true; the input reads as it did. -/
def fnExactGroupsOfSpec : ChangeSpec := { name := "fnExactGroupsOf", fn := fun _ => fun
  | [d1, d2] => { results := [.lit (.bool true)], args := [d1, d2] }
  | _ => none }
def fnExactGroupsOfRow : OpenClaim := { program := "ytfencbfjnifmjab", sum := "92bb3807b33cc0dc5a66cb60efa8099ec7fedde3845ad459f511a51ca05b441a", func := "loop.example/urnsandballs/laws.FnExactGroupsOf", spec := "fnExactGroupsOf", recurses := true, apart := false }
def FnExactGroupsOfSaid : Prop := fnExactGroupsOfRow.holds Try.pinned (OpenSpec.ofChange fnExactGroupsOfSpec)

/-- ITS FALSE NEIGHBOUR: 'it returns false'. Refute it at one input. -/
def fnExactGroupsOfWrong : ChangeSpec := { name := "fnExactGroupsOf", fn := fun _ => fun
  | [d1, d2] => { results := [.lit (.bool false)], args := [d1, d2] }
  | _ => none }
def FnExactGroupsOfWrongFalsely : Prop := fnExactGroupsOfRow.holds Try.pinned (OpenSpec.ofChange fnExactGroupsOfWrong)

/-- 'laws.FnExactWaitWays': WHATEVER THE INPUT: true; the input reads as it did. -/
def fnExactWaitWaysSpec : ChangeSpec := { name := "fnExactWaitWays", fn := fun _ => fun
  | [d1, d2] => { results := [.lit (.bool true)], args := [d1, d2] }
  | _ => none }
def fnExactWaitWaysRow : OpenClaim := { program := "ytfencbfjnifmjab", sum := "92bb3807b33cc0dc5a66cb60efa8099ec7fedde3845ad459f511a51ca05b441a", func := "loop.example/urnsandballs/laws.FnExactWaitWays", spec := "fnExactWaitWays", unfollowed := true, recurses := true, apart := false }
def FnExactWaitWaysSaid : Prop := fnExactWaitWaysRow.holds Try.pinned (OpenSpec.ofChange fnExactWaitWaysSpec)

/-- ITS FALSE NEIGHBOUR: 'it returns false'. Refute it at one input. -/
def fnExactWaitWaysWrong : ChangeSpec := { name := "fnExactWaitWays", fn := fun _ => fun
  | [d1, d2] => { results := [.lit (.bool false)], args := [d1, d2] }
  | _ => none }
def FnExactWaitWaysWrongFalsely : Prop := fnExactWaitWaysRow.holds Try.pinned (OpenSpec.ofChange fnExactWaitWaysWrong)

/-- 'laws.FnExactPairWays': WHATEVER THE INPUT: true; the input reads as it did. -/
def fnExactPairWaysSpec : ChangeSpec := { name := "fnExactPairWays", fn := fun _ => fun
  | [d1, d2] => { results := [.lit (.bool true)], args := [d1, d2] }
  | _ => none }
def fnExactPairWaysRow : OpenClaim := { program := "ytfencbfjnifmjab", sum := "92bb3807b33cc0dc5a66cb60efa8099ec7fedde3845ad459f511a51ca05b441a", func := "loop.example/urnsandballs/laws.FnExactPairWays", spec := "fnExactPairWays", apart := false }
def FnExactPairWaysSaid : Prop := fnExactPairWaysRow.holds Try.pinned (OpenSpec.ofChange fnExactPairWaysSpec)

/-- ITS FALSE NEIGHBOUR: 'it returns false'. Refute it at one input. -/
def fnExactPairWaysWrong : ChangeSpec := { name := "fnExactPairWays", fn := fun _ => fun
  | [d1, d2] => { results := [.lit (.bool false)], args := [d1, d2] }
  | _ => none }
def FnExactPairWaysWrongFalsely : Prop := fnExactPairWaysRow.holds Try.pinned (OpenSpec.ofChange fnExactPairWaysWrong)

/-- 'laws.FnExactRestRow': WHATEVER THE INPUT: true; the input reads as it did. -/
def fnExactRestRowSpec : ChangeSpec := { name := "fnExactRestRow", fn := fun _ => fun
  | [d] => { results := [.lit (.bool true)], args := [d] }
  | _ => none }
def fnExactRestRowRow : OpenClaim := { program := "ytfencbfjnifmjab", sum := "92bb3807b33cc0dc5a66cb60efa8099ec7fedde3845ad459f511a51ca05b441a", func := "loop.example/urnsandballs/laws.FnExactRestRow", spec := "fnExactRestRow", unfollowed := true, recurses := true, apart := false }
def FnExactRestRowSaid : Prop := fnExactRestRowRow.holds Try.pinned (OpenSpec.ofChange fnExactRestRowSpec)

/-- ITS FALSE NEIGHBOUR: 'it returns false'. Refute it at one input. -/
def fnExactRestRowWrong : ChangeSpec := { name := "fnExactRestRow", fn := fun _ => fun
  | [d] => { results := [.lit (.bool false)], args := [d] }
  | _ => none }
def FnExactRestRowWrongFalsely : Prop := fnExactRestRowRow.holds Try.pinned (OpenSpec.ofChange fnExactRestRowWrong)

/-- 'laws.FnRestRow': WHATEVER THE INPUT: true; the input reads as it did. -/
def fnRestRowSpec : ChangeSpec := { name := "fnRestRow", fn := fun _ => fun
  | [d] => { results := [.lit (.bool true)], args := [d] }
  | _ => none }
def fnRestRowRow : OpenClaim := { program := "ytfencbfjnifmjab", sum := "92bb3807b33cc0dc5a66cb60efa8099ec7fedde3845ad459f511a51ca05b441a", func := "loop.example/urnsandballs/laws.FnRestRow", spec := "fnRestRow", unfollowed := true, recurses := true, apart := false }
def FnRestRowSaid : Prop := fnRestRowRow.holds Try.pinned (OpenSpec.ofChange fnRestRowSpec)

/-- ITS FALSE NEIGHBOUR: 'it returns false'. Refute it at one input. -/
def fnRestRowWrong : ChangeSpec := { name := "fnRestRow", fn := fun _ => fun
  | [d] => { results := [.lit (.bool false)], args := [d] }
  | _ => none }
def FnRestRowWrongFalsely : Prop := fnRestRowRow.holds Try.pinned (OpenSpec.ofChange fnRestRowWrong)

/-- 'laws.FnRestSquares': WHATEVER THE INPUT: true; the input reads as it did. -/
def fnRestSquaresSpec : ChangeSpec := { name := "fnRestSquares", fn := fun _ => fun
  | [d] => { results := [.lit (.bool true)], args := [d] }
  | _ => none }
def fnRestSquaresRow : OpenClaim := { program := "ytfencbfjnifmjab", sum := "92bb3807b33cc0dc5a66cb60efa8099ec7fedde3845ad459f511a51ca05b441a", func := "loop.example/urnsandballs/laws.FnRestSquares", spec := "fnRestSquares", unfollowed := true, recurses := true, apart := false }
def FnRestSquaresSaid : Prop := fnRestSquaresRow.holds Try.pinned (OpenSpec.ofChange fnRestSquaresSpec)

/-- ITS FALSE NEIGHBOUR: 'it returns false'. Refute it at one input. -/
def fnRestSquaresWrong : ChangeSpec := { name := "fnRestSquares", fn := fun _ => fun
  | [d] => { results := [.lit (.bool false)], args := [d] }
  | _ => none }
def FnRestSquaresWrongFalsely : Prop := fnRestSquaresRow.holds Try.pinned (OpenSpec.ofChange fnRestSquaresWrong)

/-- 'laws.FnRoomAfter': WHATEVER THE INPUT: true; the input reads as it did. -/
def fnRoomAfterSpec : ChangeSpec := { name := "fnRoomAfter", fn := fun _ => fun
  | [d] => { results := [.lit (.bool true)], args := [d] }
  | _ => none }
def fnRoomAfterRow : OpenClaim := { program := "ytfencbfjnifmjab", sum := "92bb3807b33cc0dc5a66cb60efa8099ec7fedde3845ad459f511a51ca05b441a", func := "loop.example/urnsandballs/laws.FnRoomAfter", spec := "fnRoomAfter", unfollowed := true, recurses := true, apart := false }
def FnRoomAfterSaid : Prop := fnRoomAfterRow.holds Try.pinned (OpenSpec.ofChange fnRoomAfterSpec)

/-- ITS FALSE NEIGHBOUR: 'it returns false'. Refute it at one input. -/
def fnRoomAfterWrong : ChangeSpec := { name := "fnRoomAfter", fn := fun _ => fun
  | [d] => { results := [.lit (.bool false)], args := [d] }
  | _ => none }
def FnRoomAfterWrongFalsely : Prop := fnRoomAfterRow.holds Try.pinned (OpenSpec.ofChange fnRoomAfterWrong)

/- THE SECOND FORM. 'bulk': how many values and letters a reading holds, each counted each time it is reached (what is shared counts as often as it is met; a slice's spare places count too). A statement '..UptoSaid' is the law's where the arguments, and the package variables that the reading takes, are together of bulk at most 1048576: NARROWER than '..Said'. Prove '..Said' where nothing that the law and all that it calls make is longer than what came in: it says more and counts as full. Else prove '..UptoSaid'. A law counts once. -/
mutual
def uptoBulk {H : Type} : DataW H → Nat
  | .lit (.string bytes) => bytes.length + 1
  | .lit _ => 1
  | .nil => 1
  | .ptr d => uptoBulk d + 1
  | .slice elems spare => uptoBulkAll elems + uptoBulkAll spare + 1
  | .agg parts => uptoBulkAll parts + 1
  | .iface _ d => uptoBulk d + 1
  | .map entries => uptoBulkEntries entries + 1
  | .held _ => 1
def uptoBulkAll {H : Type} : List (DataW H) → Nat
  | [] => 0
  | d :: r => uptoBulk d + uptoBulkAll r
def uptoBulkEntries {H : Type} : List (Lit × DataW H) → Nat
  | [] => 0
  | x :: r => uptoBulkEntry x + uptoBulkEntries r
def uptoBulkEntry {H : Type} : Lit × DataW H → Nat
  | (.string bytes, d) => bytes.length + uptoBulk d + 1
  | (_, d) => uptoBulk d + 1
 end
def uptoSmall : (H : Type) → List (DataW H) → Bool := fun _ ds => decide (uptoBulkAll ds ≤ 1048576)
def OpenSpec.upto (s : _root_.Go.ChangeSpec) : _root_.Go.OpenSpec := { _root_.Go.OpenSpec.ofChange s with cond := some uptoSmall }

/-- 'laws.FnExactEmptyWays', WHERE WHAT IT READS IS OF BULK AT MOST 1048576: true; the input reads as it did. -/
def fnExactEmptyWaysUptoRow : OpenClaim := { program := "ytfencbfjnifmjab", sum := "92bb3807b33cc0dc5a66cb60efa8099ec7fedde3845ad459f511a51ca05b441a", func := "loop.example/urnsandballs/laws.FnExactEmptyWays", spec := "fnExactEmptyWays", unfollowed := true, recurses := true, apart := false, narrowed := true }
def FnExactEmptyWaysUptoSaid : Prop := fnExactEmptyWaysUptoRow.holds Try.pinned (OpenSpec.upto fnExactEmptyWaysSpec)

/-- 'laws.FnExactApartWays', WHERE WHAT IT READS IS OF BULK AT MOST 1048576: true; the input reads as it did. -/
def fnExactApartWaysUptoRow : OpenClaim := { program := "ytfencbfjnifmjab", sum := "92bb3807b33cc0dc5a66cb60efa8099ec7fedde3845ad459f511a51ca05b441a", func := "loop.example/urnsandballs/laws.FnExactApartWays", spec := "fnExactApartWays", apart := false, narrowed := true }
def FnExactApartWaysUptoSaid : Prop := fnExactApartWaysUptoRow.holds Try.pinned (OpenSpec.upto fnExactApartWaysSpec)

/-- 'laws.FnExactGroupsOf', WHERE WHAT IT READS IS OF BULK AT MOST 1048576: true; the input reads as it did. -/
def fnExactGroupsOfUptoRow : OpenClaim := { program := "ytfencbfjnifmjab", sum := "92bb3807b33cc0dc5a66cb60efa8099ec7fedde3845ad459f511a51ca05b441a", func := "loop.example/urnsandballs/laws.FnExactGroupsOf", spec := "fnExactGroupsOf", recurses := true, apart := false, narrowed := true }
def FnExactGroupsOfUptoSaid : Prop := fnExactGroupsOfUptoRow.holds Try.pinned (OpenSpec.upto fnExactGroupsOfSpec)

/-- 'laws.FnExactWaitWays', WHERE WHAT IT READS IS OF BULK AT MOST 1048576: true; the input reads as it did. -/
def fnExactWaitWaysUptoRow : OpenClaim := { program := "ytfencbfjnifmjab", sum := "92bb3807b33cc0dc5a66cb60efa8099ec7fedde3845ad459f511a51ca05b441a", func := "loop.example/urnsandballs/laws.FnExactWaitWays", spec := "fnExactWaitWays", unfollowed := true, recurses := true, apart := false, narrowed := true }
def FnExactWaitWaysUptoSaid : Prop := fnExactWaitWaysUptoRow.holds Try.pinned (OpenSpec.upto fnExactWaitWaysSpec)

/-- 'laws.FnExactPairWays', WHERE WHAT IT READS IS OF BULK AT MOST 1048576: true; the input reads as it did. -/
def fnExactPairWaysUptoRow : OpenClaim := { program := "ytfencbfjnifmjab", sum := "92bb3807b33cc0dc5a66cb60efa8099ec7fedde3845ad459f511a51ca05b441a", func := "loop.example/urnsandballs/laws.FnExactPairWays", spec := "fnExactPairWays", apart := false, narrowed := true }
def FnExactPairWaysUptoSaid : Prop := fnExactPairWaysUptoRow.holds Try.pinned (OpenSpec.upto fnExactPairWaysSpec)

/-- 'laws.FnExactRestRow', WHERE WHAT IT READS IS OF BULK AT MOST 1048576: true; the input reads as it did. -/
def fnExactRestRowUptoRow : OpenClaim := { program := "ytfencbfjnifmjab", sum := "92bb3807b33cc0dc5a66cb60efa8099ec7fedde3845ad459f511a51ca05b441a", func := "loop.example/urnsandballs/laws.FnExactRestRow", spec := "fnExactRestRow", unfollowed := true, recurses := true, apart := false, narrowed := true }
def FnExactRestRowUptoSaid : Prop := fnExactRestRowUptoRow.holds Try.pinned (OpenSpec.upto fnExactRestRowSpec)

/-- 'laws.FnRestRow', WHERE WHAT IT READS IS OF BULK AT MOST 1048576: true; the input reads as it did. -/
def fnRestRowUptoRow : OpenClaim := { program := "ytfencbfjnifmjab", sum := "92bb3807b33cc0dc5a66cb60efa8099ec7fedde3845ad459f511a51ca05b441a", func := "loop.example/urnsandballs/laws.FnRestRow", spec := "fnRestRow", unfollowed := true, recurses := true, apart := false, narrowed := true }
def FnRestRowUptoSaid : Prop := fnRestRowUptoRow.holds Try.pinned (OpenSpec.upto fnRestRowSpec)

/-- 'laws.FnRestSquares', WHERE WHAT IT READS IS OF BULK AT MOST 1048576: true; the input reads as it did. -/
def fnRestSquaresUptoRow : OpenClaim := { program := "ytfencbfjnifmjab", sum := "92bb3807b33cc0dc5a66cb60efa8099ec7fedde3845ad459f511a51ca05b441a", func := "loop.example/urnsandballs/laws.FnRestSquares", spec := "fnRestSquares", unfollowed := true, recurses := true, apart := false, narrowed := true }
def FnRestSquaresUptoSaid : Prop := fnRestSquaresUptoRow.holds Try.pinned (OpenSpec.upto fnRestSquaresSpec)

/-- 'laws.FnRoomAfter', WHERE WHAT IT READS IS OF BULK AT MOST 1048576: true; the input reads as it did. -/
def fnRoomAfterUptoRow : OpenClaim := { program := "ytfencbfjnifmjab", sum := "92bb3807b33cc0dc5a66cb60efa8099ec7fedde3845ad459f511a51ca05b441a", func := "loop.example/urnsandballs/laws.FnRoomAfter", spec := "fnRoomAfter", unfollowed := true, recurses := true, apart := false, narrowed := true }
def FnRoomAfterUptoSaid : Prop := fnRoomAfterUptoRow.holds Try.pinned (OpenSpec.upto fnRoomAfterSpec)

end Rows
end Go.Proofs.Ytfencbfjnifmjab
