/-
  No cell of these rows narrows 'for every input' (looked for: loops, veiled, ifaces, maps, wideKeys, modest, calm, conditions, laid).
  DERIVED. THE GIVEN ROWS OF THIS SEAT. 3 by the template 'for every input the law returns true; each argument reads behind the call as it read before'; 0 by the template 'total and deterministic' (their statements: YthdelfhfglnhfacTotals.lean).
  GIVEN WITH THE SEED: the statements are not yours to turn. If you find one false, say at which input.
  Laid BY PROGRAM, IN A SANDBOX (cutbox-rows.mjs): the forced cells as the released guide's own fill.sh prints them over the translation bab8f50be08245e7… (all of the seat's roots in one cut). By AI agents, Wed Nov 11 2026. No macro, syntax, notation, axiom, sorry.
-/
import Derived.Test.YthdelfhfglnhfacChecked
import GoSem.Claim
import GoSem.ClaimJoined
import GoSem.ClaimMapViews
import Derived.JoinedTies
import Derived.KernelRfl
namespace Go.Proofs.Ythdelfhfglnhfac
/- THE CELL 'sum', in the pinned program and in every row, IS THE sha256 OF THE DUMP (.gsa) THAT YthdelfhfglnhfacProg.lean LOADS. Nothing in Lean hashes anything: it is a label: what it is worth is what the hold of that sum in a sandbox is worth. -/
noncomputable def Try.pinned : Pinned := { name := "ythdelfhfglnhfac", sum := "bab8f50be08245e774a220ac91a0b4d5c6df1aac0142c8ee80016eb6c9e741cd", checked := Try.checked }
namespace Rows
def none {H : Type} : Left H := { results := [], args := [] }

/-- 'laws.FnChanceOf': WHATEVER THE INPUT: true; the input reads as it did. -/
def fnChanceOfSpec : ChangeSpec := { name := "fnChanceOf", fn := fun _ => fun
  | [d] => { results := [.lit (.bool true)], args := [d] }
  | _ => none }
def fnChanceOfRow : OpenClaim := { program := "ythdelfhfglnhfac", sum := "bab8f50be08245e774a220ac91a0b4d5c6df1aac0142c8ee80016eb6c9e741cd", func := "loop.example/urnsandballs/laws.FnChanceOf", spec := "fnChanceOf", unfollowed := true, recurses := true, apart := false }
def FnChanceOfSaid : Prop := fnChanceOfRow.holds Try.pinned (OpenSpec.ofChange fnChanceOfSpec)

/-- ITS FALSE NEIGHBOUR: 'it returns false'. Refute it at one input. -/
def fnChanceOfWrong : ChangeSpec := { name := "fnChanceOf", fn := fun _ => fun
  | [d] => { results := [.lit (.bool false)], args := [d] }
  | _ => none }
def FnChanceOfWrongFalsely : Prop := fnChanceOfRow.holds Try.pinned (OpenSpec.ofChange fnChanceOfWrong)

/-- 'laws.FnPouredUrn': WHATEVER THE INPUT: true; the input reads as it did. -/
def fnPouredUrnSpec : ChangeSpec := { name := "fnPouredUrn", fn := fun _ => fun
  | [d] => { results := [.lit (.bool true)], args := [d] }
  | _ => none }
def fnPouredUrnRow : OpenClaim := { program := "ythdelfhfglnhfac", sum := "bab8f50be08245e774a220ac91a0b4d5c6df1aac0142c8ee80016eb6c9e741cd", func := "loop.example/urnsandballs/laws.FnPouredUrn", spec := "fnPouredUrn", unfollowed := true, recurses := true, apart := false }
def FnPouredUrnSaid : Prop := fnPouredUrnRow.holds Try.pinned (OpenSpec.ofChange fnPouredUrnSpec)

/-- ITS FALSE NEIGHBOUR: 'it returns false'. Refute it at one input. -/
def fnPouredUrnWrong : ChangeSpec := { name := "fnPouredUrn", fn := fun _ => fun
  | [d] => { results := [.lit (.bool false)], args := [d] }
  | _ => none }
def FnPouredUrnWrongFalsely : Prop := fnPouredUrnRow.holds Try.pinned (OpenSpec.ofChange fnPouredUrnWrong)

/-- 'laws.FnPoured': WHATEVER THE INPUT: true; the input reads as it did. -/
def fnPouredSpec : ChangeSpec := { name := "fnPoured", fn := fun _ => fun
  | [d] => { results := [.lit (.bool true)], args := [d] }
  | _ => none }
def fnPouredRow : OpenClaim := { program := "ythdelfhfglnhfac", sum := "bab8f50be08245e774a220ac91a0b4d5c6df1aac0142c8ee80016eb6c9e741cd", func := "loop.example/urnsandballs/laws.FnPoured", spec := "fnPoured", unfollowed := true, recurses := true, apart := false }
def FnPouredSaid : Prop := fnPouredRow.holds Try.pinned (OpenSpec.ofChange fnPouredSpec)

/-- ITS FALSE NEIGHBOUR: 'it returns false'. Refute it at one input. -/
def fnPouredWrong : ChangeSpec := { name := "fnPoured", fn := fun _ => fun
  | [d] => { results := [.lit (.bool false)], args := [d] }
  | _ => none }
def FnPouredWrongFalsely : Prop := fnPouredRow.holds Try.pinned (OpenSpec.ofChange fnPouredWrong)

/- THE SECOND FORM. 'bulk': how many values and letters a reading holds, each counted each time it is reached (what is shared counts as often as it is met; a slice's spare places count too). A statement '..UptoSaid' is the law's where the arguments, and the package variables that the reading takes, are together of bulk at most 1048576: NARROWER than '..Said'. Prove '..Said' where nothing that the law and all that it calls make is longer than what came in: it says more and counts as full. Else prove '..UptoSaid'. A law counts once. -/
mutual
def uptoBulk {H : Type} : DataW H → Nat
  | .lit (.string bytes) => bytes.length + 1
  | .lit _ => 1
  | .nil => 1
  | .ptr d => uptoBulk d + 1
  | .slice elems spare => uptoBulkAll elems + uptoBulkAll spare + 1
  | .agg parts => uptoBulkAll parts + 1
  | .iface _ d => uptoBulk d + 1
  | .map entries => uptoBulkEntries entries + 1
  | .held _ => 1
def uptoBulkAll {H : Type} : List (DataW H) → Nat
  | [] => 0
  | d :: r => uptoBulk d + uptoBulkAll r
def uptoBulkEntries {H : Type} : List (Lit × DataW H) → Nat
  | [] => 0
  | x :: r => uptoBulkEntry x + uptoBulkEntries r
def uptoBulkEntry {H : Type} : Lit × DataW H → Nat
  | (.string bytes, d) => bytes.length + uptoBulk d + 1
  | (_, d) => uptoBulk d + 1
 end
def uptoSmall : (H : Type) → List (DataW H) → Bool := fun _ ds => decide (uptoBulkAll ds ≤ 1048576)
def OpenSpec.upto (s : _root_.Go.ChangeSpec) : _root_.Go.OpenSpec := { _root_.Go.OpenSpec.ofChange s with cond := some uptoSmall }

/-- 'laws.FnChanceOf', WHERE WHAT IT READS IS OF BULK AT MOST 1048576: true; the input reads as it did. -/
def fnChanceOfUptoRow : OpenClaim := { program := "ythdelfhfglnhfac", sum := "bab8f50be08245e774a220ac91a0b4d5c6df1aac0142c8ee80016eb6c9e741cd", func := "loop.example/urnsandballs/laws.FnChanceOf", spec := "fnChanceOf", unfollowed := true, recurses := true, apart := false, narrowed := true }
def FnChanceOfUptoSaid : Prop := fnChanceOfUptoRow.holds Try.pinned (OpenSpec.upto fnChanceOfSpec)

/-- 'laws.FnPouredUrn', WHERE WHAT IT READS IS OF BULK AT MOST 1048576: true; the input reads as it did. -/
def fnPouredUrnUptoRow : OpenClaim := { program := "ythdelfhfglnhfac", sum := "bab8f50be08245e774a220ac91a0b4d5c6df1aac0142c8ee80016eb6c9e741cd", func := "loop.example/urnsandballs/laws.FnPouredUrn", spec := "fnPouredUrn", unfollowed := true, recurses := true, apart := false, narrowed := true }
def FnPouredUrnUptoSaid : Prop := fnPouredUrnUptoRow.holds Try.pinned (OpenSpec.upto fnPouredUrnSpec)

/-- 'laws.FnPoured', WHERE WHAT IT READS IS OF BULK AT MOST 1048576: true; the input reads as it did. -/
def fnPouredUptoRow : OpenClaim := { program := "ythdelfhfglnhfac", sum := "bab8f50be08245e774a220ac91a0b4d5c6df1aac0142c8ee80016eb6c9e741cd", func := "loop.example/urnsandballs/laws.FnPoured", spec := "fnPoured", unfollowed := true, recurses := true, apart := false, narrowed := true }
def FnPouredUptoSaid : Prop := fnPouredUptoRow.holds Try.pinned (OpenSpec.upto fnPouredSpec)

end Rows
end Go.Proofs.Ythdelfhfglnhfac
