/-
  Exact laws of chapter 14 walked: DeedText, ReadDeed.
-/
import Derived.Test.YtokokbfcnjkcoabDoorDeedK
import Derived.Test.YtokokbfcnjkcoabDoorReadD
import Derived.Test.YtokokbfcnjkcoabDoorDeedX
namespace Go.Proofs.YtokokbfcnjkcoabDoor
open Go.RowKit
set_option linter.unusedVariables false

set_option maxRecDepth 100000 in
set_option maxHeartbeats 1600000 in
theorem exReadDeed (s : ByteArray) (w : World) (hs : s.size ≤ maxLen) (hL : LaidN w) (hD : LaidD w) :
    Calls Tryd.prog 4 #[.string s] w fun e w' => e = .returned (.bool true) ∧ Below w.heap.size w w' := by
  unfold maxLen at hs
  by_cases hn : 1048576 < s.size
  · go_enter Tryd.func4, Tryd.ntmps4
    go_wp2
    go_ret
    exact ⟨rfl, Below.refl _ _⟩
  · have hn2 : s.size ≤ 1048576 := by omega
    have HS := hide (fun W => readDeed_spec s W hn2)
    have HI := hide (fun (W : World) (hq : Below w.heap.size w W) => readDeed_impl s W (hL.up hq) (hD.up hq) (by omega))
    obtain ⟨d, hd⟩ : ∃ d, Hid (readDQ (bts s) = d) := ⟨_, hide rfl⟩
    obtain ⟨b, hb⟩ : ∃ b, Hid (readDB (bts s) = b) := ⟨_, hide rfl⟩
    rw [hd.out, hb.out] at HS HI
    have HE := hide (fun W => eqDeed_c d.k d.a d.b W)
    go_enter Tryd.func4, Tryd.ntmps4
    go_wp2_with fail
    refine (HS.out _).mono ?_
    rintro e w1 ⟨rfl, hq1⟩
    have ht1 := hide (TriW.made w1 (.int .i64 d.k) (.int .i64 d.a) (.int .i64 d.b) 25)
    have hb1 := hide (hq1.alloc hq1.size (.cells #[.int .i64 d.k, .int .i64 d.a, .int .i64 d.b] 25))
    clear hq1
    go_wp2_with fail
    refine (HI.out _ hb1.out).mono ?_
    rintro e w2 ⟨rfl, hq2⟩
    have ht2 := hide ((ht1.out.up hq2).alloc (.cells #[.int .i64 d.k, .int .i64 d.a, .int .i64 d.b] 25))
    have hu2 := hide (TriW.made w2 (.int .i64 d.k) (.int .i64 d.a) (.int .i64 d.b) 25)
    have hb2 := hide ((upB hb1.out hq2).alloc (upB hb1.out hq2).size (.cells #[.int .i64 d.k, .int .i64 d.a, .int .i64 d.b] 25))
    obtain ⟨c0, c1, c2, _⟩ := ht2.out
    clear hq2
    go_wp2_with (go_at_call 14; refine (HE.out _).mono ?_; rintro e w3 ⟨rfl, hq3⟩; have hb3 := hide (upB hb2.out hq3))
    go_ret
    exact ⟨rfl, hb3.out⟩
end Go.Proofs.YtokokbfcnjkcoabDoor
