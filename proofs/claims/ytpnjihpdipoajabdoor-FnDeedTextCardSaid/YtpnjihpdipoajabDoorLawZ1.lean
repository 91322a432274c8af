/-
  Laws of chapter 14 walked: FnDeedText.
-/
import Derived.Test.YtpnjihpdipoajabDoorDrawDt
import Derived.Test.YtpnjihpdipoajabDoorDeedK
import Derived.Test.YtpnjihpdipoajabDoorDeedS
import Derived.Test.YtpnjihpdipoajabDoorZdraw
import Derived.Test.YtpnjihpdipoajabDoorStrE
namespace Go.Proofs.YtpnjihpdipoajabDoor
open Go.RowKit
set_option linter.unusedVariables false

theorem readDQ_back {d : Ded} (h : deedB d = true) : readDQ (deedT d) = d ∧ readDB (deedT d) = true := by
  unfold readDQ readDB
  rw [deedT_back h]
  exact ⟨rfl, rfl⟩
set_option maxRecDepth 100000 in
set_option maxHeartbeats 3200000 in
theorem lawDeedText {A : Option Addr} {n c : Nat} {bs : List Int} {w : World} (h : Bts w w.heap.size A n c bs) (hL : LaidN w) (hD : LaidD w) :
    Calls Tryd.prog 3 #[.slice A n c] w fun e w' => e = .returned (.bool true) ∧ Below w.heap.size w w' := by
  have hbig := h.big
  have hle := h.le
  unfold maxLen at hbig
  by_cases hn : 1048576 < n
  · go_enter Tryd.func3, Tryd.ntmps3
    go_wp2
    go_ret
    exact ⟨rfl, Below.refl _ _⟩
  · have hDr := hide (DrawDeedText_c A n c bs w h)
    go_enter Tryd.func3, Tryd.ntmps3
    go_wp2_with fail
    refine hDr.out.mono ?_
    rintro e w1 ⟨d, rfl, hwf, hb1⟩
    have hwf := hide hwf
    have hb1 := hide hb1
    clear hDr
    have hq1 := hide (al w1 (.cells #[.int .i64 d.k, .int .i64 d.a, .int .i64 d.b] 24))
    have ht1 := hide (TriW.made w1 (.int .i64 d.k) (.int .i64 d.a) (.int .i64 d.b) 24)
    have hb1 := hide (upB hb1.out hq1.out)
    obtain ⟨s0, s1, s2, t0, t1, t2, _⟩ := ht1.out
    have HT := hide (deedText_impl d _ (hL.up hb1.out).t (hD.up hb1.out))
    have HS := hide (fun W => deedText_spec d W)
    obtain ⟨T, hT⟩ : ∃ T, Hid (strB (deedT d) = T) := ⟨_, hide rfl⟩
    rw [hT.out] at HT HS
    go_wp2_with fail
    refine HT.out.mono ?_
    rintro e w2 ⟨rfl, hq2⟩
    have ht2 := hide (ht1.out.up hq2)
    have hb2 := hide (upB hb1.out hq2)
    clear HT hq2 ht1 hq1 hb1
    obtain ⟨a0, a1, a2, _, _, _, _⟩ := ht2.out
    go_wp2_with fail
    refine (HS.out _).mono ?_
    rintro e w3 ⟨rfl, hq3⟩
    have ht3 := hide (ht2.out.up hq3)
    have hb3 := hide (upB hb2.out hq3)
    clear HS hq3 ht2 hb2
    by_cases he : T = ⟨#[]⟩
    · have HA := hide (alive_c w3)
      subst he
      go_wp2_with fail
      refine HA.out.mono ?_
      rintro e w4 ⟨rfl, hq4⟩
      have hb4 := hide (upB hb3.out hq4)
      go_wp2_with fail
      go_ret
      exact ⟨rfl, hb4.out⟩
    · obtain ⟨hT0, hT1⟩ := str_ne he
      have hdB : deedB d = true := by
        rw [← deedT_ne]
        intro e
        rw [e] at hT
        exact he hT.out.symm
      obtain ⟨r1, r2⟩ := readDQ_back hdB
      have HR := hide (readDeed_impl T w3 (hL.up hb3.out) (hD.up hb3.out) (by rw [← hT.out, strB_size]; have := deedT_len d; omega))
      rw [← hT.out, bts_strB, r1, r2, hT.out] at HR
      clear hdB r1 r2
      obtain ⟨b0, b1, b2, _, _, _, _⟩ := ht3.out
      go_wp2_with fail
      refine HR.out.mono ?_
      rintro e w4 ⟨rfl, hq4⟩
      have ht4 := hide (ht3.out.up hq4)
      have hb4 := hide (upB hb3.out hq4)
      clear HR hq4
      have hq5 := hide (al w4 (.cells #[.int .i64 d.k, .int .i64 d.a, .int .i64 d.b] 24))
      have ht5 := hide (ht4.out.up hq5.out)
      have hu5 := hide (TriW.made w4 (.int .i64 d.k) (.int .i64 d.a) (.int .i64 d.b) 24)
      have hb5 := hide (upB hb4.out hq5.out)
      obtain ⟨c0, c1, c2, _, _, _, _⟩ := ht5.out
      obtain ⟨d0, d1, d2, _, _, _, _⟩ := hu5.out
      go_wp2_with fail
      go_ret
      exact ⟨by simp, hb5.out⟩
end Go.Proofs.YtpnjihpdipoajabDoor
