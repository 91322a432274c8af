/-
  No cell of these rows narrows 'for every input' (looked for: loops, veiled, ifaces, maps, wideKeys, modest, calm, conditions, laid).
  DERIVED. THE GIVEN ROWS OF THIS SEAT. 4 by the template 'for every input the law returns true; each argument reads behind the call as it read before'; 0 by the template 'total and deterministic' (their statements: YtpjbccdhfnhopabTotals.lean).
  GIVEN WITH THE SEED: the statements are not yours to turn. If you find one false, say at which input.
  Laid BY PROGRAM, IN A SANDBOX (cutbox-rows.mjs): the forced cells as the released guide's own fill.sh prints them over the translation da15b313bcb60e8c… (all of the seat's roots in one cut). By AI agents, Wed Nov 11 2026. No macro, syntax, notation, axiom, sorry.
-/
import Derived.Test.YtpjbccdhfnhopabChecked
import GoSem.Claim
import GoSem.ClaimJoined
import GoSem.ClaimMapViews
import Derived.JoinedTies
import Derived.KernelRfl
namespace Go.Proofs.Ytpjbccdhfnhopab
/- THE CELL 'sum', in the pinned program and in every row, IS THE sha256 OF THE DUMP (.gsa) THAT YtpjbccdhfnhopabProg.lean LOADS. Nothing in Lean hashes anything: it is a label: what it is worth is what the hold of that sum in a sandbox is worth. -/
noncomputable def Try.pinned : Pinned := { name := "ytpjbccdhfnhopab", sum := "da15b313bcb60e8c9da0fa3f7663dafc5e712e1a9d3055b2269d732b0f102959", checked := Try.checked }
namespace Rows
def none {H : Type} : Left H := { results := [], args := [] }

/-- 'laws.FnExactRoomStep': WHATEVER THE INPUT: true; the input reads as it did. -/
def fnExactRoomStepSpec : ChangeSpec := { name := "fnExactRoomStep", fn := fun _ => fun
  | [d1, d2] => { results := [.lit (.bool true)], args := [d1, d2] }
  | _ => none }
def fnExactRoomStepRow : OpenClaim := { program := "ytpjbccdhfnhopab", sum := "da15b313bcb60e8c9da0fa3f7663dafc5e712e1a9d3055b2269d732b0f102959", func := "loop.example/urnsandballs/laws.FnExactRoomStep", spec := "fnExactRoomStep", apart := false }
def FnExactRoomStepSaid : Prop := fnExactRoomStepRow.holds Try.pinned (OpenSpec.ofChange fnExactRoomStepSpec)

/-- ITS FALSE NEIGHBOUR: 'it returns false'. Refute it at one input. -/
def fnExactRoomStepWrong : ChangeSpec := { name := "fnExactRoomStep", fn := fun _ => fun
  | [d1, d2] => { results := [.lit (.bool false)], args := [d1, d2] }
  | _ => none }
def FnExactRoomStepWrongFalsely : Prop := fnExactRoomStepRow.holds Try.pinned (OpenSpec.ofChange fnExactRoomStepWrong)

/-- 'laws.FnExactRoomAfter': WHATEVER THE INPUT: true; the input reads as it did. -/
def fnExactRoomAfterSpec : ChangeSpec := { name := "fnExactRoomAfter", fn := fun _ => fun
  | [d1, d2, d3] => { results := [.lit (.bool true)], args := [d1, d2, d3] }
  | _ => none }
def fnExactRoomAfterRow : OpenClaim := { program := "ytpjbccdhfnhopab", sum := "da15b313bcb60e8c9da0fa3f7663dafc5e712e1a9d3055b2269d732b0f102959", func := "loop.example/urnsandballs/laws.FnExactRoomAfter", spec := "fnExactRoomAfter", unfollowed := true, recurses := true, apart := false }
def FnExactRoomAfterSaid : Prop := fnExactRoomAfterRow.holds Try.pinned (OpenSpec.ofChange fnExactRoomAfterSpec)

/-- ITS FALSE NEIGHBOUR: 'it returns false'. Refute it at one input. -/
def fnExactRoomAfterWrong : ChangeSpec := { name := "fnExactRoomAfter", fn := fun _ => fun
  | [d1, d2, d3] => { results := [.lit (.bool false)], args := [d1, d2, d3] }
  | _ => none }
def FnExactRoomAfterWrongFalsely : Prop := fnExactRoomAfterRow.holds Try.pinned (OpenSpec.ofChange fnExactRoomAfterWrong)

/-- 'laws.FnExactRestRow': WHATEVER THE INPUT: true; the input reads as it did. -/
def fnExactRestRowSpec : ChangeSpec := { name := "fnExactRestRow", fn := fun _ => fun
  | [d] => { results := [.lit (.bool true)], args := [d] }
  | _ => none }
def fnExactRestRowRow : OpenClaim := { program := "ytpjbccdhfnhopab", sum := "da15b313bcb60e8c9da0fa3f7663dafc5e712e1a9d3055b2269d732b0f102959", func := "loop.example/urnsandballs/laws.FnExactRestRow", spec := "fnExactRestRow", unfollowed := true, recurses := true, apart := false }
def FnExactRestRowSaid : Prop := fnExactRestRowRow.holds Try.pinned (OpenSpec.ofChange fnExactRestRowSpec)

/-- ITS FALSE NEIGHBOUR: 'it returns false'. Refute it at one input. -/
def fnExactRestRowWrong : ChangeSpec := { name := "fnExactRestRow", fn := fun _ => fun
  | [d] => { results := [.lit (.bool false)], args := [d] }
  | _ => none }
def FnExactRestRowWrongFalsely : Prop := fnExactRestRowRow.holds Try.pinned (OpenSpec.ofChange fnExactRestRowWrong)

/-- 'laws.FnExactLeanAfter': WHATEVER THE INPUT: true; the input reads as it did. -/
def fnExactLeanAfterSpec : ChangeSpec := { name := "fnExactLeanAfter", fn := fun _ => fun
  | [d1, d2, d3] => { results := [.lit (.bool true)], args := [d1, d2, d3] }
  | _ => none }
def fnExactLeanAfterRow : OpenClaim := { program := "ytpjbccdhfnhopab", sum := "da15b313bcb60e8c9da0fa3f7663dafc5e712e1a9d3055b2269d732b0f102959", func := "loop.example/urnsandballs/laws.FnExactLeanAfter", spec := "fnExactLeanAfter", unfollowed := true, recurses := true, apart := false }
def FnExactLeanAfterSaid : Prop := fnExactLeanAfterRow.holds Try.pinned (OpenSpec.ofChange fnExactLeanAfterSpec)

/-- ITS FALSE NEIGHBOUR: 'it returns false'. Refute it at one input. -/
def fnExactLeanAfterWrong : ChangeSpec := { name := "fnExactLeanAfter", fn := fun _ => fun
  | [d1, d2, d3] => { results := [.lit (.bool false)], args := [d1, d2, d3] }
  | _ => none }
def FnExactLeanAfterWrongFalsely : Prop := fnExactLeanAfterRow.holds Try.pinned (OpenSpec.ofChange fnExactLeanAfterWrong)

/- THE SECOND FORM. 'bulk': how many values and letters a reading holds, each counted each time it is reached (what is shared counts as often as it is met; a slice's spare places count too). A statement '..UptoSaid' is the law's where the arguments, and the package variables that the reading takes, are together of bulk at most 1048576: NARROWER than '..Said'. Prove '..Said' where nothing that the law and all that it calls make is longer than what came in: it says more and counts as full. Else prove '..UptoSaid'. A law counts once. -/
mutual
def uptoBulk {H : Type} : DataW H → Nat
  | .lit (.string bytes) => bytes.length + 1
  | .lit _ => 1
  | .nil => 1
  | .ptr d => uptoBulk d + 1
  | .slice elems spare => uptoBulkAll elems + uptoBulkAll spare + 1
  | .agg parts => uptoBulkAll parts + 1
  | .iface _ d => uptoBulk d + 1
  | .map entries => uptoBulkEntries entries + 1
  | .held _ => 1
def uptoBulkAll {H : Type} : List (DataW H) → Nat
  | [] => 0
  | d :: r => uptoBulk d + uptoBulkAll r
def uptoBulkEntries {H : Type} : List (Lit × DataW H) → Nat
  | [] => 0
  | x :: r => uptoBulkEntry x + uptoBulkEntries r
def uptoBulkEntry {H : Type} : Lit × DataW H → Nat
  | (.string bytes, d) => bytes.length + uptoBulk d + 1
  | (_, d) => uptoBulk d + 1
 end
def uptoSmall : (H : Type) → List (DataW H) → Bool := fun _ ds => decide (uptoBulkAll ds ≤ 1048576)
def OpenSpec.upto (s : _root_.Go.ChangeSpec) : _root_.Go.OpenSpec := { _root_.Go.OpenSpec.ofChange s with cond := some uptoSmall }

/-- 'laws.FnExactRoomStep', WHERE WHAT IT READS IS OF BULK AT MOST 1048576: true; the input reads as it did. -/
def fnExactRoomStepUptoRow : OpenClaim := { program := "ytpjbccdhfnhopab", sum := "da15b313bcb60e8c9da0fa3f7663dafc5e712e1a9d3055b2269d732b0f102959", func := "loop.example/urnsandballs/laws.FnExactRoomStep", spec := "fnExactRoomStep", apart := false, narrowed := true }
def FnExactRoomStepUptoSaid : Prop := fnExactRoomStepUptoRow.holds Try.pinned (OpenSpec.upto fnExactRoomStepSpec)

/-- 'laws.FnExactRoomAfter', WHERE WHAT IT READS IS OF BULK AT MOST 1048576: true; the input reads as it did. -/
def fnExactRoomAfterUptoRow : OpenClaim := { program := "ytpjbccdhfnhopab", sum := "da15b313bcb60e8c9da0fa3f7663dafc5e712e1a9d3055b2269d732b0f102959", func := "loop.example/urnsandballs/laws.FnExactRoomAfter", spec := "fnExactRoomAfter", unfollowed := true, recurses := true, apart := false, narrowed := true }
def FnExactRoomAfterUptoSaid : Prop := fnExactRoomAfterUptoRow.holds Try.pinned (OpenSpec.upto fnExactRoomAfterSpec)

/-- 'laws.FnExactRestRow', WHERE WHAT IT READS IS OF BULK AT MOST 1048576: true; the input reads as it did. -/
def fnExactRestRowUptoRow : OpenClaim := { program := "ytpjbccdhfnhopab", sum := "da15b313bcb60e8c9da0fa3f7663dafc5e712e1a9d3055b2269d732b0f102959", func := "loop.example/urnsandballs/laws.FnExactRestRow", spec := "fnExactRestRow", unfollowed := true, recurses := true, apart := false, narrowed := true }
def FnExactRestRowUptoSaid : Prop := fnExactRestRowUptoRow.holds Try.pinned (OpenSpec.upto fnExactRestRowSpec)

/-- 'laws.FnExactLeanAfter', WHERE WHAT IT READS IS OF BULK AT MOST 1048576: true; the input reads as it did. -/
def fnExactLeanAfterUptoRow : OpenClaim := { program := "ytpjbccdhfnhopab", sum := "da15b313bcb60e8c9da0fa3f7663dafc5e712e1a9d3055b2269d732b0f102959", func := "loop.example/urnsandballs/laws.FnExactLeanAfter", spec := "fnExactLeanAfter", unfollowed := true, recurses := true, apart := false, narrowed := true }
def FnExactLeanAfterUptoSaid : Prop := fnExactLeanAfterUptoRow.holds Try.pinned (OpenSpec.upto fnExactLeanAfterSpec)

end Rows
end Go.Proofs.Ytpjbccdhfnhopab
