/-
  Laws of chapter 11 walked: FnTailWays (written by wip/gen_a4.py).
-/
import Derived.Test.YtjkccfnbepbmbaaSampI
import Derived.Test.YtjkccfnbepbmbaaDrawCh11
import Derived.Test.YtjkccfnbepbmbaaZdraw
namespace Go.Proofs.Ytjkccfnbepbmbaa
open Go.RowKit
set_option linter.unusedVariables false

set_option maxRecDepth 100000 in
set_option maxHeartbeats 6400000 in
theorem lawTailWays {A : Option Addr} {n c : Nat} {bs : List Int} {w : World} (h : Bts w w.heap.size A n c bs) :
    Calls Try.prog 6 #[.slice A n c] w fun e w' => e = .returned (.bool true) ∧ Below w.heap.size w w' := by
  have hbig := h.big
  have hle := h.le
  unfold maxLen at hbig
  by_cases hn : 1048576 < n
  · go_enter Try.func6, Try.ntmps6
    go_wp2
    go_ret
    exact ⟨rfl, Below.refl _ _⟩
  · have hD := hide (DrawTailWays_c A n c bs w h)
    obtain ⟨i0, hi, hz0, hz1, hz2⟩ := info_parts infoInt
    go_enter Try.func6, Try.ntmps6
    go_wp2_with fail
    refine hD.out.mono ?_
    rintro e w0 ⟨t, m, p, b, rfl, hlot, hhit, hlom, hhim, hlop, hhip, hlob, hhib, hb⟩
    replace hb := hide hb
    clear hD
    have hwt := wf_i64 (z := t) (by omega)
    have hwm := wf_i64 (z := m) (by omega)
    have hwp := wf_i64 (z := p) (by omega)
    have hwb := wf_i64 (z := b) (by omega)
    go_wp2_with fail
    refine (tailWays_impl (t) (m) (p) (b) _ (wf_i64 (by omega)) (wf_i64 (by omega)) (wf_i64 (by omega)) (wf_i64 (by omega))).mono ?_
    rintro e w1 ⟨rfl, hq⟩
    replace hb := hide (upB hb.out (hq))
    clear hq
    go_wp2_with fail
    refine (sameB (tailWays_spec t m p b _)).mono ?_
    rintro e w2 ⟨rfl, hq⟩
    replace hb := hide (upB hb.out (hq))
    clear hq
    cases hok : markB t m p b with
    | false =>
      rw [show tailW t m p b = -1 by unfold tailW; rw [hok]; rfl]
      clear hok
      go_wp2_with fail
      refine (alive_c _).mono ?_
      rintro e wz ⟨rfl, hq⟩
      go_wp2_with fail
      go_ret
      exact ⟨by simp, upB hb.out hq⟩
    | true =>
      obtain ⟨hsm, t0, t1, m0, m1, p0, p1, b0, b1⟩ := markB_yes hok
      obtain ⟨e1, e2⟩ := mark_facts t0 t1 m0 (show m ≤ 12 by omega) m1 p0 (show p ≤ 11 by omega) p1
      obtain ⟨J, hJ⟩ : ∃ J : Nat, p - b = (J : Int) := ⟨(p - b).toNat, by omega⟩
      have hJ12 : J ≤ 12 := by omega
      have ev : tailW t m p b = markN t m p b + tailTo t m p (b + 1) J := by unfold tailW; rw [hok, show (p - b + 1).toNat = J + 1 by omega, ← tailTo_front]; rfl
      have HL := hide (fun (h : b + 1 ≤ p) => show tailW t m p (b + 1) = tailTo t m p (b + 1) J by unfold tailW markB; rw [hsm, decide_eq_true (by omega), show (p - (b + 1) + 1).toNat = J by omega]; rfl)
      have HL2 := hide (fun (h : ¬ b + 1 ≤ p) => show tailW t m p (b + 1) = -1 by unfold tailW markB; rw [hsm, decide_eq_false (by omega)]; rfl)
      have HL3 := hide (fun (h : ¬ b + 1 ≤ p) => show tailTo t m p (b + 1) J = 0 by rw [show J = 0 by omega]; rfl)
      have HZ := hide (show tailW t m p 0 = chooseI t p by unfold tailW markB; rw [hsm, decide_eq_true (by omega), Int.sub_zero, e1]; rfl)
      have HPp := hide (show pickW t p = chooseI t p by unfold pickW; rw [if_pos (by omega)])
      have HM := hide (show markW t m p b = markN t m p b by unfold markW; rw [hok]; rfl)
      have bT := tailTo_bound (p := p) (b := b + 1) m0 m1 t1 J
      have bV := markN_bound (p := p) (b := b) m0 m1 t1
      rw [ev]
      obtain ⟨V, hV⟩ : ∃ V, Hid (markN t m p b = V) := ⟨_, hide rfl⟩
      obtain ⟨T, hT⟩ : ∃ T, Hid (tailTo t m p (b + 1) J = T) := ⟨_, hide rfl⟩
      obtain ⟨Y, hY⟩ : ∃ Y, Hid (chooseI t p = Y) := ⟨_, hide rfl⟩
      rw [hV.out] at HM bV ⊢
      rw [hT.out] at HL HL3 bT ⊢
      rw [hY.out] at HZ HPp
      obtain ⟨v0, v1⟩ := bV
      obtain ⟨u0, u1⟩ := bT
      clear hok e1 e2 hsm ev
      by_cases hbp : b + 1 ≤ p
      · have hc1 : (V + T == T + V) = true := by simp; omega
        have hc2 : ¬ (T < 0) := by omega
        have hc3 : T ≥ 0 := by omega
        go_wp2_with fail
        refine (tailWays_impl (t) (m) (p) (b + 1) _ (wf_i64 (by omega)) (wf_i64 (by omega)) (wf_i64 (by omega)) (wf_i64 (by omega))).mono ?_
        rw [HL.out hbp]
        rintro e w3 ⟨rfl, hq⟩
        replace hb := hide (upB hb.out (hq))
        clear hq
        go_wp2_with fail
        refine (tailWays_impl (t) (m) (p) (0) _ (wf_i64 (by omega)) (wf_i64 (by omega)) (wf_i64 (by omega)) (wf_i64 (by omega))).mono ?_
        rw [HZ.out]
        rintro e w4 ⟨rfl, hq⟩
        replace hb := hide (upB hb.out (hq))
        clear hq
        go_wp2_with fail
        refine (pickWays_impl t p _ hwt hwp).mono ?_
        rw [HPp.out]
        rintro e w5 ⟨rfl, hq⟩
        replace hb := hide (upB hb.out (hq))
        clear hq
        go_wp2_with fail
        refine (markedWays_impl (t) (m) (p) (b) _ (wf_i64 (by omega)) (wf_i64 (by omega)) (wf_i64 (by omega)) (wf_i64 (by omega))).mono ?_
        rw [HM.out]
        rintro e w6 ⟨rfl, hq⟩
        replace hb := hide (upB hb.out (hq))
        clear hq
        go_wp2_with fail
        go_ret
        exact ⟨by simp <;> omega, hb.out⟩
      · have hT0 := HL3.out hbp
        subst hT0
        rw [Int.add_zero]
        go_wp2_with fail
        refine (tailWays_impl (t) (m) (p) (b + 1) _ (wf_i64 (by omega)) (wf_i64 (by omega)) (wf_i64 (by omega)) (wf_i64 (by omega))).mono ?_
        rw [HL2.out hbp]
        rintro e w7 ⟨rfl, hq⟩
        replace hb := hide (upB hb.out (hq))
        clear hq
        go_wp2_with fail
        refine (tailWays_impl (t) (m) (p) (0) _ (wf_i64 (by omega)) (wf_i64 (by omega)) (wf_i64 (by omega)) (wf_i64 (by omega))).mono ?_
        rw [HZ.out]
        rintro e w8 ⟨rfl, hq⟩
        replace hb := hide (upB hb.out (hq))
        clear hq
        go_wp2_with fail
        refine (pickWays_impl t p _ hwt hwp).mono ?_
        rw [HPp.out]
        rintro e w9 ⟨rfl, hq⟩
        replace hb := hide (upB hb.out (hq))
        clear hq
        go_wp2_with fail
        refine (markedWays_impl (t) (m) (p) (b) _ (wf_i64 (by omega)) (wf_i64 (by omega)) (wf_i64 (by omega)) (wf_i64 (by omega))).mono ?_
        rw [HM.out]
        rintro e w10 ⟨rfl, hq⟩
        replace hb := hide (upB hb.out (hq))
        clear hq
        go_wp2_with fail
        go_ret
        exact ⟨by simp, hb.out⟩
end Go.Proofs.Ytjkccfnbepbmbaa
