/-
  The walks of exact laws (chapter 6): written by wip/exgen.py.
-/
import Derived.Test.YtbjjlgnelbcmlaaBoxI
import Derived.Test.YtbjjlgnelbcmlaaZbox
import Derived.Test.YtbjjlgnelbcmlaaZdraw
namespace Go.Proofs.Ytbjjlgnelbcmlaa
open Go.RowKit
set_option linter.unusedVariables false

set_option maxHeartbeats 1600000 in
theorem exBoxOk {a0 : Int} {a1 : Int} {a2 : Int} {w : World} (wf0 : (Lit.int .i64 a0).wf = true) (wf1 : (Lit.int .i64 a1).wf = true) (wf2 : (Lit.int .i64 a2).wf = true) :
    Calls Try.prog 10 #[.int .i64 a0, .int .i64 a1, .int .i64 a2] w fun e w' => e = .returned (.bool true) ∧ Below w.heap.size w w' := by
  have hb0 := Below.refl w.heap.size w
  go_enter Try.func10, Try.ntmps10
  go_wp2_with fail
  refine (sameB (boxOk_spec a0 a1 a2 _)).mono ?_
  rintro e w1 ⟨rfl, hq1⟩
  have hb1 := hb0.trans (hq1.mono hb0.size)
  have hs1 := hq1.size
  clear hq1
  go_wp2_with fail
  refine (boxOk_impl a0 a1 a2 _ wf0 wf1 wf2).mono ?_
  rintro e w2 ⟨rfl, hq2⟩
  have hb2 := hb1.trans (hq2.mono hb1.size)
  have hs2 := hq2.size
  clear hq2
  go_wp2_with fail
  go_ret
  exact ⟨rfl, hb2⟩

end Go.Proofs.Ytbjjlgnelbcmlaa
