/-
  No cell of these rows narrows 'for every input' (looked for: loops, veiled, ifaces, maps, wideKeys, modest, calm, conditions, laid).
  DERIVED. THE GIVEN ROWS OF THIS SEAT. 11 by the template 'for every input the law returns true; each argument reads behind the call as it read before'; 0 by the template 'total and deterministic' (their statements: YtdejlalodjhlbaaTotals.lean).
  GIVEN WITH THE SEED: the statements are not yours to turn. If you find one false, say at which input.
  Laid BY PROGRAM, IN A SANDBOX (cutbox-rows.mjs): the forced cells as the released guide's own fill.sh prints them over the translation 349085237788508d… (all of the seat's roots in one cut). By AI agents, Wed Nov 11 2026. No macro, syntax, notation, axiom, sorry.
-/
import Derived.Test.YtdejlalodjhlbaaChecked
import GoSem.Claim
import GoSem.ClaimJoined
import GoSem.ClaimMapViews
import Derived.JoinedTies
import Derived.KernelRfl
namespace Go.Proofs.Ytdejlalodjhlbaa
/- THE CELL 'sum', in the pinned program and in every row, IS THE sha256 OF THE DUMP (.gsa) THAT YtdejlalodjhlbaaProg.lean LOADS. Nothing in Lean hashes anything: it is a label: what it is worth is what the hold of that sum in a sandbox is worth. -/
noncomputable def Try.pinned : Pinned := { name := "ytdejlalodjhlbaa", sum := "349085237788508df63da98f62b7ff3b561630f67542d5b1a4ff6f6fb537d976", checked := Try.checked }
namespace Rows
def none {H : Type} : Left H := { results := [], args := [] }

/-- 'laws.FnHatsOk': WHATEVER THE INPUT: true; the input reads as it did. -/
def fnHatsOkSpec : ChangeSpec := { name := "fnHatsOk", fn := fun _ => fun
  | [d] => { results := [.lit (.bool true)], args := [d] }
  | _ => none }
def fnHatsOkRow : OpenClaim := { program := "ytdejlalodjhlbaa", sum := "349085237788508df63da98f62b7ff3b561630f67542d5b1a4ff6f6fb537d976", func := "loop.example/urnsandballs/laws.FnHatsOk", spec := "fnHatsOk", apart := false }
def FnHatsOkSaid : Prop := fnHatsOkRow.holds Try.pinned (OpenSpec.ofChange fnHatsOkSpec)

/-- ITS FALSE NEIGHBOUR: 'it returns false'. Refute it at one input. -/
def fnHatsOkWrong : ChangeSpec := { name := "fnHatsOk", fn := fun _ => fun
  | [d] => { results := [.lit (.bool false)], args := [d] }
  | _ => none }
def FnHatsOkWrongFalsely : Prop := fnHatsOkRow.holds Try.pinned (OpenSpec.ofChange fnHatsOkWrong)

/-- 'laws.FnMatchesOf': WHATEVER THE INPUT: true; the input reads as it did. -/
def fnMatchesOfSpec : ChangeSpec := { name := "fnMatchesOf", fn := fun _ => fun
  | [d] => { results := [.lit (.bool true)], args := [d] }
  | _ => none }
def fnMatchesOfRow : OpenClaim := { program := "ytdejlalodjhlbaa", sum := "349085237788508df63da98f62b7ff3b561630f67542d5b1a4ff6f6fb537d976", func := "loop.example/urnsandballs/laws.FnMatchesOf", spec := "fnMatchesOf", apart := false }
def FnMatchesOfSaid : Prop := fnMatchesOfRow.holds Try.pinned (OpenSpec.ofChange fnMatchesOfSpec)

/-- ITS FALSE NEIGHBOUR: 'it returns false'. Refute it at one input. -/
def fnMatchesOfWrong : ChangeSpec := { name := "fnMatchesOf", fn := fun _ => fun
  | [d] => { results := [.lit (.bool false)], args := [d] }
  | _ => none }
def FnMatchesOfWrongFalsely : Prop := fnMatchesOfRow.holds Try.pinned (OpenSpec.ofChange fnMatchesOfWrong)

/-- 'laws.FnUnmatchedOrders': WHATEVER THE INPUT: true; the input reads as it did. -/
def fnUnmatchedOrdersSpec : ChangeSpec := { name := "fnUnmatchedOrders", fn := fun _ => fun
  | [d] => { results := [.lit (.bool true)], args := [d] }
  | _ => none }
def fnUnmatchedOrdersRow : OpenClaim := { program := "ytdejlalodjhlbaa", sum := "349085237788508df63da98f62b7ff3b561630f67542d5b1a4ff6f6fb537d976", func := "loop.example/urnsandballs/laws.FnUnmatchedOrders", spec := "fnUnmatchedOrders", recurses := true, apart := false }
def FnUnmatchedOrdersSaid : Prop := fnUnmatchedOrdersRow.holds Try.pinned (OpenSpec.ofChange fnUnmatchedOrdersSpec)

/-- ITS FALSE NEIGHBOUR: 'it returns false'. Refute it at one input. -/
def fnUnmatchedOrdersWrong : ChangeSpec := { name := "fnUnmatchedOrders", fn := fun _ => fun
  | [d] => { results := [.lit (.bool false)], args := [d] }
  | _ => none }
def FnUnmatchedOrdersWrongFalsely : Prop := fnUnmatchedOrdersRow.holds Try.pinned (OpenSpec.ofChange fnUnmatchedOrdersWrong)

/-- 'laws.FnMatchOrders': WHATEVER THE INPUT: true; the input reads as it did. -/
def fnMatchOrdersSpec : ChangeSpec := { name := "fnMatchOrders", fn := fun _ => fun
  | [d] => { results := [.lit (.bool true)], args := [d] }
  | _ => none }
def fnMatchOrdersRow : OpenClaim := { program := "ytdejlalodjhlbaa", sum := "349085237788508df63da98f62b7ff3b561630f67542d5b1a4ff6f6fb537d976", func := "loop.example/urnsandballs/laws.FnMatchOrders", spec := "fnMatchOrders", recurses := true, apart := false }
def FnMatchOrdersSaid : Prop := fnMatchOrdersRow.holds Try.pinned (OpenSpec.ofChange fnMatchOrdersSpec)

/-- ITS FALSE NEIGHBOUR: 'it returns false'. Refute it at one input. -/
def fnMatchOrdersWrong : ChangeSpec := { name := "fnMatchOrders", fn := fun _ => fun
  | [d] => { results := [.lit (.bool false)], args := [d] }
  | _ => none }
def FnMatchOrdersWrongFalsely : Prop := fnMatchOrdersRow.holds Try.pinned (OpenSpec.ofChange fnMatchOrdersWrong)

/-- 'laws.FnOneRound': WHATEVER THE INPUT: true; the input reads as it did. -/
def fnOneRoundSpec : ChangeSpec := { name := "fnOneRound", fn := fun _ => fun
  | [d] => { results := [.lit (.bool true)], args := [d] }
  | _ => none }
def fnOneRoundRow : OpenClaim := { program := "ytdejlalodjhlbaa", sum := "349085237788508df63da98f62b7ff3b561630f67542d5b1a4ff6f6fb537d976", func := "loop.example/urnsandballs/laws.FnOneRound", spec := "fnOneRound", recurses := true, apart := false }
def FnOneRoundSaid : Prop := fnOneRoundRow.holds Try.pinned (OpenSpec.ofChange fnOneRoundSpec)

/-- ITS FALSE NEIGHBOUR: 'it returns false'. Refute it at one input. -/
def fnOneRoundWrong : ChangeSpec := { name := "fnOneRound", fn := fun _ => fun
  | [d] => { results := [.lit (.bool false)], args := [d] }
  | _ => none }
def FnOneRoundWrongFalsely : Prop := fnOneRoundRow.holds Try.pinned (OpenSpec.ofChange fnOneRoundWrong)

/-- 'laws.FnMatchPairs': WHATEVER THE INPUT: true; the input reads as it did. -/
def fnMatchPairsSpec : ChangeSpec := { name := "fnMatchPairs", fn := fun _ => fun
  | [d] => { results := [.lit (.bool true)], args := [d] }
  | _ => none }
def fnMatchPairsRow : OpenClaim := { program := "ytdejlalodjhlbaa", sum := "349085237788508df63da98f62b7ff3b561630f67542d5b1a4ff6f6fb537d976", func := "loop.example/urnsandballs/laws.FnMatchPairs", spec := "fnMatchPairs", recurses := true, apart := false }
def FnMatchPairsSaid : Prop := fnMatchPairsRow.holds Try.pinned (OpenSpec.ofChange fnMatchPairsSpec)

/-- ITS FALSE NEIGHBOUR: 'it returns false'. Refute it at one input. -/
def fnMatchPairsWrong : ChangeSpec := { name := "fnMatchPairs", fn := fun _ => fun
  | [d] => { results := [.lit (.bool false)], args := [d] }
  | _ => none }
def FnMatchPairsWrongFalsely : Prop := fnMatchPairsRow.holds Try.pinned (OpenSpec.ofChange fnMatchPairsWrong)

/-- 'laws.FnExactHatsOk': WHATEVER THE INPUT: true; the input reads as it did. -/
def fnExactHatsOkSpec : ChangeSpec := { name := "fnExactHatsOk", fn := fun _ => fun
  | [d] => { results := [.lit (.bool true)], args := [d] }
  | _ => none }
def fnExactHatsOkRow : OpenClaim := { program := "ytdejlalodjhlbaa", sum := "349085237788508df63da98f62b7ff3b561630f67542d5b1a4ff6f6fb537d976", func := "loop.example/urnsandballs/laws.FnExactHatsOk", spec := "fnExactHatsOk", apart := false }
def FnExactHatsOkSaid : Prop := fnExactHatsOkRow.holds Try.pinned (OpenSpec.ofChange fnExactHatsOkSpec)

/-- ITS FALSE NEIGHBOUR: 'it returns false'. Refute it at one input. -/
def fnExactHatsOkWrong : ChangeSpec := { name := "fnExactHatsOk", fn := fun _ => fun
  | [d] => { results := [.lit (.bool false)], args := [d] }
  | _ => none }
def FnExactHatsOkWrongFalsely : Prop := fnExactHatsOkRow.holds Try.pinned (OpenSpec.ofChange fnExactHatsOkWrong)

/-- 'laws.FnExactMatchesOf': WHATEVER THE INPUT: true; the input reads as it did. -/
def fnExactMatchesOfSpec : ChangeSpec := { name := "fnExactMatchesOf", fn := fun _ => fun
  | [d] => { results := [.lit (.bool true)], args := [d] }
  | _ => none }
def fnExactMatchesOfRow : OpenClaim := { program := "ytdejlalodjhlbaa", sum := "349085237788508df63da98f62b7ff3b561630f67542d5b1a4ff6f6fb537d976", func := "loop.example/urnsandballs/laws.FnExactMatchesOf", spec := "fnExactMatchesOf", apart := false }
def FnExactMatchesOfSaid : Prop := fnExactMatchesOfRow.holds Try.pinned (OpenSpec.ofChange fnExactMatchesOfSpec)

/-- ITS FALSE NEIGHBOUR: 'it returns false'. Refute it at one input. -/
def fnExactMatchesOfWrong : ChangeSpec := { name := "fnExactMatchesOf", fn := fun _ => fun
  | [d] => { results := [.lit (.bool false)], args := [d] }
  | _ => none }
def FnExactMatchesOfWrongFalsely : Prop := fnExactMatchesOfRow.holds Try.pinned (OpenSpec.ofChange fnExactMatchesOfWrong)

/-- 'laws.FnExactUnmatchedOrders': WHATEVER THE INPUT: true; the input reads as it did. -/
def fnExactUnmatchedOrdersSpec : ChangeSpec := { name := "fnExactUnmatchedOrders", fn := fun _ => fun
  | [d] => { results := [.lit (.bool true)], args := [d] }
  | _ => none }
def fnExactUnmatchedOrdersRow : OpenClaim := { program := "ytdejlalodjhlbaa", sum := "349085237788508df63da98f62b7ff3b561630f67542d5b1a4ff6f6fb537d976", func := "loop.example/urnsandballs/laws.FnExactUnmatchedOrders", spec := "fnExactUnmatchedOrders", recurses := true, apart := false }
def FnExactUnmatchedOrdersSaid : Prop := fnExactUnmatchedOrdersRow.holds Try.pinned (OpenSpec.ofChange fnExactUnmatchedOrdersSpec)

/-- ITS FALSE NEIGHBOUR: 'it returns false'. Refute it at one input. -/
def fnExactUnmatchedOrdersWrong : ChangeSpec := { name := "fnExactUnmatchedOrders", fn := fun _ => fun
  | [d] => { results := [.lit (.bool false)], args := [d] }
  | _ => none }
def FnExactUnmatchedOrdersWrongFalsely : Prop := fnExactUnmatchedOrdersRow.holds Try.pinned (OpenSpec.ofChange fnExactUnmatchedOrdersWrong)

/-- 'laws.FnExactMatchOrders': WHATEVER THE INPUT: true; the input reads as it did. -/
def fnExactMatchOrdersSpec : ChangeSpec := { name := "fnExactMatchOrders", fn := fun _ => fun
  | [d1, d2] => { results := [.lit (.bool true)], args := [d1, d2] }
  | _ => none }
def fnExactMatchOrdersRow : OpenClaim := { program := "ytdejlalodjhlbaa", sum := "349085237788508df63da98f62b7ff3b561630f67542d5b1a4ff6f6fb537d976", func := "loop.example/urnsandballs/laws.FnExactMatchOrders", spec := "fnExactMatchOrders", recurses := true, apart := false }
def FnExactMatchOrdersSaid : Prop := fnExactMatchOrdersRow.holds Try.pinned (OpenSpec.ofChange fnExactMatchOrdersSpec)

/-- ITS FALSE NEIGHBOUR: 'it returns false'. Refute it at one input. -/
def fnExactMatchOrdersWrong : ChangeSpec := { name := "fnExactMatchOrders", fn := fun _ => fun
  | [d1, d2] => { results := [.lit (.bool false)], args := [d1, d2] }
  | _ => none }
def FnExactMatchOrdersWrongFalsely : Prop := fnExactMatchOrdersRow.holds Try.pinned (OpenSpec.ofChange fnExactMatchOrdersWrong)

/-- 'laws.FnExactOneRound': WHATEVER THE INPUT: true; the input reads as it did. -/
def fnExactOneRoundSpec : ChangeSpec := { name := "fnExactOneRound", fn := fun _ => fun
  | [d] => { results := [.lit (.bool true)], args := [d] }
  | _ => none }
def fnExactOneRoundRow : OpenClaim := { program := "ytdejlalodjhlbaa", sum := "349085237788508df63da98f62b7ff3b561630f67542d5b1a4ff6f6fb537d976", func := "loop.example/urnsandballs/laws.FnExactOneRound", spec := "fnExactOneRound", recurses := true, apart := false }
def FnExactOneRoundSaid : Prop := fnExactOneRoundRow.holds Try.pinned (OpenSpec.ofChange fnExactOneRoundSpec)

/-- ITS FALSE NEIGHBOUR: 'it returns false'. Refute it at one input. -/
def fnExactOneRoundWrong : ChangeSpec := { name := "fnExactOneRound", fn := fun _ => fun
  | [d] => { results := [.lit (.bool false)], args := [d] }
  | _ => none }
def FnExactOneRoundWrongFalsely : Prop := fnExactOneRoundRow.holds Try.pinned (OpenSpec.ofChange fnExactOneRoundWrong)

/- THE SECOND FORM. 'bulk': how many values and letters a reading holds, each counted each time it is reached (what is shared counts as often as it is met; a slice's spare places count too). A statement '..UptoSaid' is the law's where the arguments, and the package variables that the reading takes, are together of bulk at most 1048576: NARROWER than '..Said'. Prove '..Said' where nothing that the law and all that it calls make is longer than what came in: it says more and counts as full. Else prove '..UptoSaid'. A law counts once. -/
mutual
def uptoBulk {H : Type} : DataW H → Nat
  | .lit (.string bytes) => bytes.length + 1
  | .lit _ => 1
  | .nil => 1
  | .ptr d => uptoBulk d + 1
  | .slice elems spare => uptoBulkAll elems + uptoBulkAll spare + 1
  | .agg parts => uptoBulkAll parts + 1
  | .iface _ d => uptoBulk d + 1
  | .map entries => uptoBulkEntries entries + 1
  | .held _ => 1
def uptoBulkAll {H : Type} : List (DataW H) → Nat
  | [] => 0
  | d :: r => uptoBulk d + uptoBulkAll r
def uptoBulkEntries {H : Type} : List (Lit × DataW H) → Nat
  | [] => 0
  | x :: r => uptoBulkEntry x + uptoBulkEntries r
def uptoBulkEntry {H : Type} : Lit × DataW H → Nat
  | (.string bytes, d) => bytes.length + uptoBulk d + 1
  | (_, d) => uptoBulk d + 1
 end
def uptoSmall : (H : Type) → List (DataW H) → Bool := fun _ ds => decide (uptoBulkAll ds ≤ 1048576)
def OpenSpec.upto (s : _root_.Go.ChangeSpec) : _root_.Go.OpenSpec := { _root_.Go.OpenSpec.ofChange s with cond := some uptoSmall }

/-- 'laws.FnHatsOk', WHERE WHAT IT READS IS OF BULK AT MOST 1048576: true; the input reads as it did. -/
def fnHatsOkUptoRow : OpenClaim := { program := "ytdejlalodjhlbaa", sum := "349085237788508df63da98f62b7ff3b561630f67542d5b1a4ff6f6fb537d976", func := "loop.example/urnsandballs/laws.FnHatsOk", spec := "fnHatsOk", apart := false, narrowed := true }
def FnHatsOkUptoSaid : Prop := fnHatsOkUptoRow.holds Try.pinned (OpenSpec.upto fnHatsOkSpec)

/-- 'laws.FnMatchesOf', WHERE WHAT IT READS IS OF BULK AT MOST 1048576: true; the input reads as it did. -/
def fnMatchesOfUptoRow : OpenClaim := { program := "ytdejlalodjhlbaa", sum := "349085237788508df63da98f62b7ff3b561630f67542d5b1a4ff6f6fb537d976", func := "loop.example/urnsandballs/laws.FnMatchesOf", spec := "fnMatchesOf", apart := false, narrowed := true }
def FnMatchesOfUptoSaid : Prop := fnMatchesOfUptoRow.holds Try.pinned (OpenSpec.upto fnMatchesOfSpec)

/-- 'laws.FnUnmatchedOrders', WHERE WHAT IT READS IS OF BULK AT MOST 1048576: true; the input reads as it did. -/
def fnUnmatchedOrdersUptoRow : OpenClaim := { program := "ytdejlalodjhlbaa", sum := "349085237788508df63da98f62b7ff3b561630f67542d5b1a4ff6f6fb537d976", func := "loop.example/urnsandballs/laws.FnUnmatchedOrders", spec := "fnUnmatchedOrders", recurses := true, apart := false, narrowed := true }
def FnUnmatchedOrdersUptoSaid : Prop := fnUnmatchedOrdersUptoRow.holds Try.pinned (OpenSpec.upto fnUnmatchedOrdersSpec)

/-- 'laws.FnMatchOrders', WHERE WHAT IT READS IS OF BULK AT MOST 1048576: true; the input reads as it did. -/
def fnMatchOrdersUptoRow : OpenClaim := { program := "ytdejlalodjhlbaa", sum := "349085237788508df63da98f62b7ff3b561630f67542d5b1a4ff6f6fb537d976", func := "loop.example/urnsandballs/laws.FnMatchOrders", spec := "fnMatchOrders", recurses := true, apart := false, narrowed := true }
def FnMatchOrdersUptoSaid : Prop := fnMatchOrdersUptoRow.holds Try.pinned (OpenSpec.upto fnMatchOrdersSpec)

/-- 'laws.FnOneRound', WHERE WHAT IT READS IS OF BULK AT MOST 1048576: true; the input reads as it did. -/
def fnOneRoundUptoRow : OpenClaim := { program := "ytdejlalodjhlbaa", sum := "349085237788508df63da98f62b7ff3b561630f67542d5b1a4ff6f6fb537d976", func := "loop.example/urnsandballs/laws.FnOneRound", spec := "fnOneRound", recurses := true, apart := false, narrowed := true }
def FnOneRoundUptoSaid : Prop := fnOneRoundUptoRow.holds Try.pinned (OpenSpec.upto fnOneRoundSpec)

/-- 'laws.FnMatchPairs', WHERE WHAT IT READS IS OF BULK AT MOST 1048576: true; the input reads as it did. -/
def fnMatchPairsUptoRow : OpenClaim := { program := "ytdejlalodjhlbaa", sum := "349085237788508df63da98f62b7ff3b561630f67542d5b1a4ff6f6fb537d976", func := "loop.example/urnsandballs/laws.FnMatchPairs", spec := "fnMatchPairs", recurses := true, apart := false, narrowed := true }
def FnMatchPairsUptoSaid : Prop := fnMatchPairsUptoRow.holds Try.pinned (OpenSpec.upto fnMatchPairsSpec)

/-- 'laws.FnExactHatsOk', WHERE WHAT IT READS IS OF BULK AT MOST 1048576: true; the input reads as it did. -/
def fnExactHatsOkUptoRow : OpenClaim := { program := "ytdejlalodjhlbaa", sum := "349085237788508df63da98f62b7ff3b561630f67542d5b1a4ff6f6fb537d976", func := "loop.example/urnsandballs/laws.FnExactHatsOk", spec := "fnExactHatsOk", apart := false, narrowed := true }
def FnExactHatsOkUptoSaid : Prop := fnExactHatsOkUptoRow.holds Try.pinned (OpenSpec.upto fnExactHatsOkSpec)

/-- 'laws.FnExactMatchesOf', WHERE WHAT IT READS IS OF BULK AT MOST 1048576: true; the input reads as it did. -/
def fnExactMatchesOfUptoRow : OpenClaim := { program := "ytdejlalodjhlbaa", sum := "349085237788508df63da98f62b7ff3b561630f67542d5b1a4ff6f6fb537d976", func := "loop.example/urnsandballs/laws.FnExactMatchesOf", spec := "fnExactMatchesOf", apart := false, narrowed := true }
def FnExactMatchesOfUptoSaid : Prop := fnExactMatchesOfUptoRow.holds Try.pinned (OpenSpec.upto fnExactMatchesOfSpec)

/-- 'laws.FnExactUnmatchedOrders', WHERE WHAT IT READS IS OF BULK AT MOST 1048576: true; the input reads as it did. -/
def fnExactUnmatchedOrdersUptoRow : OpenClaim := { program := "ytdejlalodjhlbaa", sum := "349085237788508df63da98f62b7ff3b561630f67542d5b1a4ff6f6fb537d976", func := "loop.example/urnsandballs/laws.FnExactUnmatchedOrders", spec := "fnExactUnmatchedOrders", recurses := true, apart := false, narrowed := true }
def FnExactUnmatchedOrdersUptoSaid : Prop := fnExactUnmatchedOrdersUptoRow.holds Try.pinned (OpenSpec.upto fnExactUnmatchedOrdersSpec)

/-- 'laws.FnExactMatchOrders', WHERE WHAT IT READS IS OF BULK AT MOST 1048576: true; the input reads as it did. -/
def fnExactMatchOrdersUptoRow : OpenClaim := { program := "ytdejlalodjhlbaa", sum := "349085237788508df63da98f62b7ff3b561630f67542d5b1a4ff6f6fb537d976", func := "loop.example/urnsandballs/laws.FnExactMatchOrders", spec := "fnExactMatchOrders", recurses := true, apart := false, narrowed := true }
def FnExactMatchOrdersUptoSaid : Prop := fnExactMatchOrdersUptoRow.holds Try.pinned (OpenSpec.upto fnExactMatchOrdersSpec)

/-- 'laws.FnExactOneRound', WHERE WHAT IT READS IS OF BULK AT MOST 1048576: true; the input reads as it did. -/
def fnExactOneRoundUptoRow : OpenClaim := { program := "ytdejlalodjhlbaa", sum := "349085237788508df63da98f62b7ff3b561630f67542d5b1a4ff6f6fb537d976", func := "loop.example/urnsandballs/laws.FnExactOneRound", spec := "fnExactOneRound", recurses := true, apart := false, narrowed := true }
def FnExactOneRoundUptoSaid : Prop := fnExactOneRoundUptoRow.holds Try.pinned (OpenSpec.upto fnExactOneRoundSpec)

end Rows
end Go.Proofs.Ytdejlalodjhlbaa
