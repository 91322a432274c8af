/-
  Laws of chapter 5 walked: FnSameSteps (written by wip/gen_s2.py).
-/
import Derived.Test.YtffllkmaifjpfadZdraw
import Derived.Test.YtffllkmaifjpfadZruled
import Derived.Test.YtffllkmaifjpfadSameI
import Derived.Test.YtffllkmaifjpfadZsame
import Derived.Test.YtffllkmaifjpfadZrows
import Derived.Test.YtffllkmaifjpfadRuleI
import Derived.Test.YtffllkmaifjpfadZback
import Derived.Test.YtffllkmaifjpfadZimp
import Derived.Test.YtffllkmaifjpfadZoks
namespace Go.Proofs.Ytffllkmaifjpfad
open Go.RowKit
set_option linter.unusedVariables false

set_option maxHeartbeats 3200000 in
theorem lawSameSteps {A : Option Addr} {n c : Nat} {bs : List Int} {w : World} (h : Bts w w.heap.size A n c bs) :
    Calls Try.prog 4 #[.slice A n c] w fun e w' => e = .returned (.bool true) ∧ Below w.heap.size w w' := by
  have hbig := h.big
  have hle := h.le
  unfold maxLen at hbig
  by_cases hn : 1048576 < n
  · go_enter Try.func4, Try.ntmps4
    go_wp2
    go_ret
    exact ⟨rfl, Below.refl _ _⟩
  · have hD := hide (DrawSameCounts_c A n c bs w h)
    obtain ⟨i0, hi, hz0, hz1, hz2⟩ := info_parts infoInt
    go_enter Try.func4, Try.ntmps4
    go_wp2_with fail
    refine hD.out.mono ?_
    rintro e w0 ⟨Azs, nzs, czs, zs, Acs, ncs, ccs, cs, s, rfl, hzzs, hnzs, hzcs, hncs, hlos, hhis, hb⟩
    have hlzs := hide hzzs.len
    replace hzzs := hide hzzs
    have hlcs := hide hzcs.len
    replace hzcs := hide hzcs
    replace hb := hide hb
    clear hD
    have hws := wf_i64 (z := s) (by omega)
    have hw0 := wf_i64 (z := 0) (by omega)
    have hw1 := wf_i64 (z := -1) (by omega)
    go_wp2_with fail
    refine (sameCounts_impl _ _ _ _ _ _ _ _ zs cs 0 _ hzzs.out hzcs.out (Nat.le_refl _) (Nat.le_refl _) hw0).mono ?_
    rintro e w1 ⟨rfl, hq⟩
    replace hzzs := hide (hzzs.out.up hq)
    replace hzcs := hide (hzcs.out.up hq)
    replace hb := hide (upB hb.out (hq))
    clear hq
    by_cases hok : (startOk zs && countRowOk (zs.length : Int) cs) = true
    · obtain ⟨hst, hr⟩ := Bool.and_eq_true_iff.1 hok
      obtain ⟨hu, hz10⟩ := startOk_yes hst
      have m1 := (mult_bound hr).1
      have hp0 := risK_nonneg 0 zs cs cs.length
      have e0 : sameCounts zs 0 cs = mult cs * powK zs cs cs.length := by
        unfold sameCounts
        rw [hst, hr, stepB_mk (show -1 ≤ (0 : Int) ∧ (0 : Int) ≤ 3 by omega), risK_pow (fun z hz => (hz10 z hz).1)]; rfl
      have e1 : sameCounts zs (-1) cs = mult cs * prodC zs cs := by
        unfold sameCounts
        rw [hst, hr, stepB_mk (show -1 ≤ (-1 : Int) ∧ (-1 : Int) ≤ 3 by omega), risK_fall]; rfl
      rw [risK_pow (fun z hz => (hz10 z hz).1)] at hp0
      have hV0 : 0 ≤ mult cs * powK zs cs cs.length := Int.mul_nonneg m1 hp0
      have hB := hide (show backCounts zs cs = mult cs * powK zs cs cs.length by unfold backCounts; rw [hu, hr]; rfl)
      have hC := hide (show countWays zs cs = mult cs * prodC zs cs by unfold countWays; rw [hu, hr]; rfl)
      have e1 := hide e1
      rw [e0]
      obtain ⟨V, hV⟩ : ∃ V, Hid (mult cs * powK zs cs cs.length = V) := ⟨_, hide rfl⟩
      obtain ⟨U, hU⟩ : ∃ U, Hid (mult cs * prodC zs cs = U) := ⟨_, hide rfl⟩
      rw [hV.out] at hV0 hB ⊢
      rw [hU.out] at e1 hC
      clear hok hst hr hu hz10 hp0 m1 e0
      go_wp2_with fail
      refine (alive_c _).mono ?_
      rintro e w2 ⟨rfl, hq⟩
      replace hzzs := hide (hzzs.out.up hq)
      replace hzcs := hide (hzcs.out.up hq)
      replace hb := hide (upB hb.out (hq))
      clear hq
      go_wp2_with fail
      refine (backCounts_impl _ _ _ _ _ _ _ _ zs cs _ hzzs.out hzcs.out (Nat.le_refl _) (Nat.le_refl _)).mono ?_
      rw [hB.out]
      rintro e w3 ⟨rfl, hq⟩
      replace hzzs := hide (hzzs.out.up hq)
      replace hzcs := hide (hzcs.out.up hq)
      replace hb := hide (upB hb.out (hq))
      clear hq
      go_wp2_with fail
      refine (sameCounts_impl _ _ _ _ _ _ _ _ zs cs (-1) _ hzzs.out hzcs.out (Nat.le_refl _) (Nat.le_refl _) hw1).mono ?_
      rw [e1.out]
      rintro e w4 ⟨rfl, hq⟩
      replace hzzs := hide (hzzs.out.up hq)
      replace hzcs := hide (hzcs.out.up hq)
      replace hb := hide (upB hb.out (hq))
      clear hq
      go_wp2_with fail
      refine (countWays_impl _ _ _ _ _ _ _ _ zs cs _ hzzs.out hzcs.out (Nat.le_refl _) (Nat.le_refl _)).mono ?_
      rw [hC.out]
      rintro e w5 ⟨rfl, hq⟩
      replace hzzs := hide (hzzs.out.up hq)
      replace hzcs := hide (hzcs.out.up hq)
      replace hb := hide (upB hb.out (hq))
      clear hq
      go_wp2_with fail
      go_ret
      exact ⟨by simp, hb.out⟩
    · have hno := hide (fun s => show sameCounts zs s cs = -1 by
        unfold sameCounts
        rw [show (startOk zs && countRowOk (zs.length : Int) cs) = false by simpa using hok]; rfl)
      rw [hno.out 0]
      clear hok
      go_wp2_with fail
      refine (quietB (sameCounts_spec _ _ _ _ _ _ _ _ zs cs 0 _ hzzs.out hzcs.out)).mono ?_
      rw [hno.out 0]
      rintro e w6 ⟨rfl, hq⟩
      replace hzzs := hide (hzzs.out.up hq)
      replace hzcs := hide (hzcs.out.up hq)
      replace hb := hide (upB hb.out (hq))
      clear hq
      go_wp2_with fail
      refine (sameCounts_impl _ _ _ _ _ _ _ _ zs cs s _ hzzs.out hzcs.out (Nat.le_refl _) (Nat.le_refl _) hws).mono ?_
      rw [hno.out s]
      rintro e w7 ⟨rfl, hq⟩
      replace hzzs := hide (hzzs.out.up hq)
      replace hzcs := hide (hzcs.out.up hq)
      replace hb := hide (upB hb.out (hq))
      clear hq
      go_wp2_with fail
      refine (alive_c _).mono ?_
      rintro e wz ⟨rfl, hq⟩
      go_wp2_with fail
      go_ret
      exact ⟨by simp, upB hb.out hq⟩
end Go.Proofs.Ytffllkmaifjpfad
