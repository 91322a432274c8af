/-
  Laws of chapter 12 walked: FnSampleMean (written by wip/gen_a8.py).
-/
import Derived.Test.YtnfjajamafkjoaaMixI
import Derived.Test.YtnfjajamafkjoaaPlainAD
import Derived.Test.YtnfjajamafkjoaaDrawMix
import Derived.Test.YtnfjajamafkjoaaZdraw
namespace Go.Proofs.Ytnfjajamafkjoaa
open Go.RowKit
set_option linter.unusedVariables false

set_option maxRecDepth 100000 in
set_option maxHeartbeats 3200000 in
theorem lawSampleMean {A : Option Addr} {n c : Nat} {bs : List Int} {w : World} (h : Bts w w.heap.size A n c bs) :
    Calls Try.prog 11 #[.slice A n c] w fun e w' => e = .returned (.bool true) ∧ Below w.heap.size w w' := by
  have hbig := h.big
  have hle := h.le
  unfold maxLen at hbig
  by_cases hn : 1048576 < n
  · go_enter Try.func11, Try.ntmps11
    go_wp2
    go_ret
    exact ⟨rfl, Below.refl _ _⟩
  · have hD := hide (DrawSampleRow_c A n c bs w h)
    obtain ⟨i0, hi, hz0, hz1, hz2⟩ := info_parts infoInt
    go_enter Try.func11, Try.ntmps11
    go_wp2_with fail
    refine hD.out.mono ?_
    rintro e w0 ⟨t, m, p, rfl, hlot, hhit, hlom, hhim, hlop, hhip, hb⟩
    replace hb := hide hb
    clear hD
    have hwt := wf_i64 (z := t) (by omega)
    have hwm := wf_i64 (z := m) (by omega)
    have hwp := wf_i64 (z := p) (by omega)
    go_wp2_with fail
    refine (sampleRow_impl t m p _ hwt hwm hwp).mono ?_
    rintro e w1 ⟨Als, nls, cls, rfl, ho, hq⟩
    replace hb := hide (upB hb.out (hq))
    have hols := hide (ho.down (Nat.zero_le _))
    clear hq ho
    cases hok : sampOk t m p with
    | false =>
      have e0 : sampR t m p = [] := by unfold sampR; rw [hok]; rfl
      rw [e0] at hols
      have hlen : nls = 0 := hols.out.len
      subst hlen
      clear e0
      go_wp2_with fail
      refine (alive_c _).mono ?_
      rintro e wz ⟨rfl, hq⟩
      go_wp2_with fail
      go_ret
      exact ⟨by simp, upB hb.out hq⟩
    | true =>
      obtain ⟨t0, t1, m0, m1, p0, p1, p2, f1, f2, f3, f4⟩ := samp_facts hok (by omega)
      have e0 : sampR t m p = sampL t m p := by unfold sampR; rw [hok]; rfl
      rw [e0] at hols
      have hlen := hols.out.len
      rw [sampL_len] at hlen
      have bS := sum_bound9 f1 (sampL t m p).length
      have bC := cnts_bound9 f1 (k := (p + 1).toNat) (by omega)
      rw [List.take_length] at bS
      have eS := hide (show sumR (sampL t m p) = isum (sampL t m p) by unfold sumR; rw [f1]; rfl)
      have eC := hide (show cntsR (sampL t m p) = cntsTo (sampL t m p) (p + 1).toNat by unfold cntsR; rw [f1, if_pos rfl, sampL_len])
      obtain ⟨S, hS⟩ : ∃ S, Hid (isum (sampL t m p) = S) := ⟨_, hide rfl⟩
      obtain ⟨C, hC⟩ : ∃ C, Hid (cntsTo (sampL t m p) (p + 1).toNat = C) := ⟨_, hide rfl⟩
      rw [hS.out] at eS bS f3
      rw [hC.out] at eC bC f3
      obtain ⟨s0, s1⟩ := bS
      obtain ⟨c0, c1⟩ := bC
      obtain ⟨u0, u1⟩ := mul_bound s0 s1 m0 (show m ≤ 30 by omega)
      obtain ⟨v0, v1⟩ := mul_bound u0 u1 p0 p1
      have hCt := hide (show C * t = S * m * p from f3)
      have hfin := hide (show (C * t == S * m * p) = true by rw [f3]; simp)
      have hx0 : 0 ≤ C * t := by rw [f3]; omega
      have hx1 : C * t ≤ 300000000 := by rw [f3]; omega
      replace f1 := hide f1
      clear f2 f3 f4 hok e0 hlen
      go_wp2_with fail
      refine (rowSums_impl _ _ _ _ (sampL t m p) _ hols.out.ints (Nat.le_refl _)).mono ?_
      rw [eS.out, eC.out, f1.out]
      rintro e w2 ⟨rfl, hq⟩
      replace hols := hide (hols.out.up hq)
      replace hb := hide (upB hb.out (hq))
      clear hq
      go_wp2_with fail
      refine (alive_c _).mono ?_
      rintro e wz ⟨rfl, hq⟩
      go_wp2_with fail
      go_ret
      exact ⟨by first | rfl | exact hfin.out | (rw [hCt.out]; simp) | simp [hCt.out], upB hb.out hq⟩
end Go.Proofs.Ytnfjajamafkjoaa
