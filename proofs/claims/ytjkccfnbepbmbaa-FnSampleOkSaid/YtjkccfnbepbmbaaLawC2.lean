/-
  Laws of chapter 11 walked: FnSampleOk (written by wip/gen_a4.py).
-/
import Derived.Test.YtjkccfnbepbmbaaSampI
import Derived.Test.YtjkccfnbepbmbaaDrawCh11
import Derived.Test.YtjkccfnbepbmbaaZdraw
namespace Go.Proofs.Ytjkccfnbepbmbaa
open Go.RowKit
set_option linter.unusedVariables false

set_option maxRecDepth 100000 in
set_option maxHeartbeats 3200000 in
theorem lawSampleOk {A : Option Addr} {n c : Nat} {bs : List Int} {w : World} (h : Bts w w.heap.size A n c bs) :
    Calls Try.prog 4 #[.slice A n c] w fun e w' => e = .returned (.bool true) ∧ Below w.heap.size w w' := by
  have hbig := h.big
  have hle := h.le
  unfold maxLen at hbig
  by_cases hn : 1048576 < n
  · go_enter Try.func4, Try.ntmps4
    go_wp2
    go_ret
    exact ⟨rfl, Below.refl _ _⟩
  · have hD := hide (DrawSampleOk_c A n c bs w h)
    obtain ⟨i0, hi, hz0, hz1, hz2⟩ := info_parts infoInt
    go_enter Try.func4, Try.ntmps4
    go_wp2_with fail
    refine hD.out.mono ?_
    rintro e w0 ⟨t, m, p, rfl, hlot, hhit, hlom, hhim, hlop, hhip, hb⟩
    replace hb := hide hb
    clear hD
    have hwt := wf_i64 (z := t) (by omega)
    have hwm := wf_i64 (z := m) (by omega)
    have hwp := wf_i64 (z := p) (by omega)
    have HS := hide (show sampleB t p m = sampleB t m p by unfold sampleB; rw [Bool.eq_iff_iff]; simp; omega)
    have HZ := hide (show sampleB t m p = true → sampleB t 0 p = true from fun h => by have := of_decide_eq_true h; exact decide_eq_true (by omega))
    have H0 := hide (show sampleB 0 0 0 = true from rfl)
    have H1 := hide (show sampleB (-1) 0 0 = false from rfl)
    obtain ⟨b, hb2⟩ : ∃ b, Hid (sampleB t m p = b) := ⟨_, hide rfl⟩
    rw [hb2.out] at HS HZ
    go_wp2_with fail
    refine (sampleOk_impl (t) (m) (p) _ (wf_i64 (by omega)) (wf_i64 (by omega)) (wf_i64 (by omega))).mono ?_
    rw [hb2.out]
    rintro e w1 ⟨rfl, hq⟩
    replace hb := hide (upB hb.out (hq))
    clear hq
    go_wp2_with fail
    refine (sameB (sampleOk_spec t m p _)).mono ?_
    rw [hb2.out]
    rintro e w2 ⟨rfl, hq⟩
    replace hb := hide (upB hb.out (hq))
    clear hq
    go_wp2_with fail
    refine (sampleOk_impl (t) (p) (m) _ (wf_i64 (by omega)) (wf_i64 (by omega)) (wf_i64 (by omega))).mono ?_
    rw [HS.out]
    rintro e w3 ⟨rfl, hq⟩
    replace hb := hide (upB hb.out (hq))
    clear hq
    cases b with
    | true =>
      go_wp2_with fail
      refine (sampleOk_impl (t) (0) (p) _ (wf_i64 (by omega)) (wf_i64 (by omega)) (wf_i64 (by omega))).mono ?_
      rw [HZ.out (by simp)]
      rintro e w4 ⟨rfl, hq⟩
      replace hb := hide (upB hb.out (hq))
      clear hq
      go_wp2_with fail
      refine (sampleOk_impl (0) (0) (0) _ (wf_i64 (by omega)) (wf_i64 (by omega)) (wf_i64 (by omega))).mono ?_
      rw [H0.out]
      rintro e w5 ⟨rfl, hq⟩
      replace hb := hide (upB hb.out (hq))
      clear hq
      go_wp2_with fail
      refine (sampleOk_impl (-1) (0) (0) _ (wf_i64 (by omega)) (wf_i64 (by omega)) (wf_i64 (by omega))).mono ?_
      rw [H1.out]
      rintro e w6 ⟨rfl, hq⟩
      replace hb := hide (upB hb.out (hq))
      clear hq
      go_wp2_with fail
      go_ret
      exact ⟨by simp, hb.out⟩
    | false =>
      go_wp2_with fail
      refine (sampleOk_impl (0) (0) (0) _ (wf_i64 (by omega)) (wf_i64 (by omega)) (wf_i64 (by omega))).mono ?_
      rw [H0.out]
      rintro e w7 ⟨rfl, hq⟩
      replace hb := hide (upB hb.out (hq))
      clear hq
      go_wp2_with fail
      refine (sampleOk_impl (-1) (0) (0) _ (wf_i64 (by omega)) (wf_i64 (by omega)) (wf_i64 (by omega))).mono ?_
      rw [H1.out]
      rintro e w8 ⟨rfl, hq⟩
      replace hb := hide (upB hb.out (hq))
      clear hq
      go_wp2_with fail
      go_ret
      exact ⟨by simp, hb.out⟩
end Go.Proofs.Ytjkccfnbepbmbaa
