/-
  Exact laws of chapter 14 walked: DeedText, ReadDeed.
-/
import Derived.Test.YtokokbfcnjkcoaaDoorDeedK
import Derived.Test.YtokokbfcnjkcoaaDoorReadD
import Derived.Test.YtokokbfcnjkcoaaDoorDeedX
namespace Go.Proofs.YtokokbfcnjkcoaaDoor
open Go.RowKit
set_option linter.unusedVariables false

set_option maxRecDepth 100000 in
set_option maxHeartbeats 1600000 in
theorem exDeedText (k a b : Int) (w : World) (wk : (Lit.int .i64 k).wf = true) (wa : (Lit.int .i64 a).wf = true) (wb : (Lit.int .i64 b).wf = true) (hL : LaidT w) (hD : LaidD w) :
    Calls Tryd.prog 5 #[.agg #[.int .i64 k, .int .i64 a, .int .i64 b]] w fun e w' => e = .returned (.bool true) ∧ Below w.heap.size w w' := by
  have ht := hide (TriW.made w (.int .i64 k) (.int .i64 a) (.int .i64 b) 40)
  have hq0 := hide (al w (.cells #[.int .i64 k, .int .i64 a, .int .i64 b] 40))
  have HT := hide (fun W => toDeed_c k a b W)
  have HS := hide (fun W => deedText_spec ⟨k, a, b⟩ W)
  have HI := hide (fun (W : World) (hq : Below w.heap.size w W) => deedText_impl ⟨k, a, b⟩ W (hL.up hq) (hD.up hq))
  obtain ⟨S, hS⟩ : ∃ S, Hid (strB (deedT ⟨k, a, b⟩) = S) := ⟨_, hide rfl⟩
  rw [hS.out] at HS HI
  go_enter Tryd.func5, Tryd.ntmps5
  go_wp2_with fail
  refine (HT.out _).mono ?_
  rintro e w1 ⟨rfl, hq1⟩
  have ht1 := hide (ht.out.up hq1)
  have hb1 := hide (upB hq0.out hq1)
  go_wp2_with fail
  refine (HS.out _).mono ?_
  rintro e w2 ⟨rfl, hq2⟩
  have ht2 := hide (ht1.out.up hq2)
  have hb2 := hide (upB hb1.out hq2)
  obtain ⟨c0, c1, c2, _⟩ := ht2.out
  go_wp2_with fail
  refine (HT.out _).mono ?_
  rintro e w3 ⟨rfl, hq3⟩
  have hb3 := hide (upB hb2.out hq3)
  go_wp2_with fail
  refine (HI.out _ hb3.out).mono ?_
  rintro e w4 ⟨rfl, hq4⟩
  have hb4 := hide (upB hb3.out hq4)
  go_wp2_with fail
  go_ret
  exact ⟨rfl, hb4.out⟩
end Go.Proofs.YtokokbfcnjkcoaaDoor
