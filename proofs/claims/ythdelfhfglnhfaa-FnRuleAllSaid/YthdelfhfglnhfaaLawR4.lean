/-
  Laws of chapter 4 walked: FnRuleAll (written by wip/gen_r3.py).
-/
import Derived.Test.YthdelfhfglnhfaaLawAid
import Derived.Test.YthdelfhfglnhfaaDrawCh4
import Derived.Test.YthdelfhfglnhfaaRuleI
import Derived.Test.YthdelfhfglnhfaaRuleX
import Derived.Test.YthdelfhfglnhfaaAidW
import Derived.Test.YthdelfhfglnhfaaRowsC
import Derived.Test.YthdelfhfglnhfaaPlainV
import Derived.Test.YthdelfhfglnhfaaTotalI
import Derived.Test.YthdelfhfglnhfaaImpD
namespace Go.Proofs.Ythdelfhfglnhfaa
open Go.RowKit
set_option linter.unusedVariables false

set_option maxHeartbeats 6400000 in
theorem lawRuleAll {A : Option Addr} {n c : Nat} {bs : List Int} {w : World} (h : Bts w w.heap.size A n c bs) :
    Calls Try.prog 7 #[.slice A n c] w fun e w' => e = .returned (.bool true) ∧ Below w.heap.size w w' := by
  have hbig := h.big
  have hle := h.le
  unfold maxLen at hbig
  by_cases hn : 1048576 < n
  · go_enter Try.func7, Try.ntmps7
    go_wp2
    go_ret
    exact ⟨rfl, Below.refl _ _⟩
  · have hD := hide (DrawRuleAll_c A n c bs w h)
    obtain ⟨i0, hi, hz0, hz1, hz2⟩ := info_parts infoInt
    go_enter Try.func7, Try.ntmps7
    go_wp2_with fail
    refine hD.out.mono ?_
    rintro e w0 ⟨Azs, nzs, czs, zs, Ars, nrs, crs, rs, m, rfl, hzzs, hnzs, hzrs, hnrs, hlom, hhim, hb⟩
    have hlzs := hide hzzs.len
    replace hzzs := hide hzzs
    have hlrs := hide hzrs.len
    replace hzrs := hide hzrs
    replace hb := hide hb
    clear hD
    go_wp2_with fail
    refine (ruleAll_impl _ _ _ _ _ _ _ _ zs rs m _ hzzs.out hzrs.out (Nat.le_refl _) (Nat.le_refl _)).mono ?_
    rintro e w1 ⟨rfl, hq⟩
    replace hzzs := hide (hzzs.out.up hq)
    replace hzrs := hide (hzrs.out.up hq)
    replace hb := hide (upB hb.out (hq))
    clear hq
    go_wp2_with fail
    refine (ruleAll_spec _ _ _ _ _ _ _ _ zs rs m _ hzzs.out hzrs.out (Nat.le_refl _) (Nat.le_refl _)).mono ?_
    rintro e w2 ⟨rfl, hq⟩
    replace hzzs := hide (hzzs.out.up hq)
    replace hzrs := hide (hzrs.out.up hq)
    replace hb := hide (upB hb.out (hq))
    clear hq
    by_cases hok : (begun zs rs && decide (0 ≤ m ∧ m ≤ 6)) = true
    · have he : ruleAll zs rs m = rall rs m.toNat zs := by unfold ruleAll; rw [if_pos hok]
      obtain ⟨hbg, hm⟩ := Bool.and_eq_true_iff.1 hok
      obtain ⟨hm0, hm6⟩ := of_decide_eq_true hm
      obtain ⟨mm, rfl⟩ : ∃ mm : Nat, m = (mm : Int) := ⟨m.toNat, by omega⟩
      obtain ⟨hu, hz10, hR⟩ := begun_yes hbg
      rw [hlzs.out] at hR
      have hn1 := hR.pos
      have hn3 := hR.le
      have hst : startOk zs = true := by unfold begun at hbg; exact (Bool.and_eq_true_iff.1 hbg).1
      have hrk : ruleOk (nzs : Int) rs = true := by unfold begun at hbg; rw [hlzs.out] at hbg; exact (Bool.and_eq_true_iff.1 hbg).2
      obtain ⟨t0, t1⟩ := start_sum hst
      have hTo := hide (totalF_ok hu)
      have hV0 := rall_nonneg rs mm zs
      obtain ⟨M0, M1⟩ := evenN_bounds (nzs : Int) rs
      have hEv := hide (fun (h : evenOk (nzs : Int) rs = true) => rall_even hR (even_at h) mm zs 10 hlzs.out hz10)
      have hWs := (nsum_digs (C := nzs) (by omega) mm (rways rs zs)).trans (wsum_rways hR mm zs hlzs.out)
      have hwo := hide (fun q => show ruleWays zs rs (digs nzs mm q) = rways rs zs (digs nzs mm q) from ruleWays_yes (afterC_all hlzs.out hst hrk (digs_word hn1 hn3 (by omega))))
      have hFb := hide (fun q => show 0 ≤ rways rs zs (digs nzs mm q) ∧ rways rs zs (digs nzs mm q) ≤ 481890304 from ⟨rways_nonneg _ _ _, Int.le_trans (rways_bound (M := 10) hR hlzs.out hz10 (digs_mem (by omega) mm q) (by rw [digs_len]; omega)) (pow28 _ (by rw [digs_len]; omega))⟩)
      rw [Int.toNat_natCast] at he
      rw [he]
      obtain ⟨V, hV⟩ : ∃ V, Hid (rall rs mm zs = V) := ⟨_, hide rfl⟩
      obtain ⟨T, hT⟩ : ∃ T, Hid (isum zs = T) := ⟨_, hide rfl⟩
      obtain ⟨M, hM⟩ : ∃ M, Hid (evenN (nzs : Int) rs = M) := ⟨_, hide rfl⟩
      obtain ⟨E, hE⟩ : ∃ E, Hid (evenOk (nzs : Int) rs = E) := ⟨_, hide rfl⟩
      rw [hV.out] at hV0 hEv hWs ⊢
      rw [hT.out] at hTo t0 t1 hEv
      rw [hM.out] at M0 M1 hEv
      rw [hE.out] at hEv
      have hRP := hide (fun (k : Nat) (hk : k ≤ mm) => show 0 ≤ rprod M k T ∧ rprod M k T ≤ 351298031616 from by
        obtain ⟨b0, b1⟩ := rprod_bound M k T (fun j hj => (step_bound t0 t1 M0 M1 (by omega)).2.2)
        exact ⟨b0, Int.le_trans b1 (pow84 k (by omega))⟩)
      have hRS := hide (fun (k : Nat) => rprod_snoc M k T)
      have hSB := hide (fun (k : Nat) (hk : k ≤ 6) => step_bound t0 t1 M0 M1 hk)
      clear hok hbg hm hu hz10 hR hst hrk he hm0
      go_wp2_with fail
      refine (evenRule_impl (nzs : Int) _ _ _ _ rs _ hzrs.out (Nat.le_refl _)).mono ?_
      rw [hM.out, hE.out]
      rintro e w3 ⟨rfl, hq⟩
      replace hzzs := hide (hzzs.out.up hq)
      replace hzrs := hide (hzrs.out.up hq)
      replace hb := hide (upB hb.out (hq))
      clear hq
      have hTc := hide (totalOf_impl _ _ _ _ zs _ hzzs.out)
      rw [hTo.out] at hTc
      go_wp2_with fail
      go_loop [9, 10] (fun t i => ∃ k : Nat, k ≤ mm ∧ i = .int .i64 k ∧ t = .int .i64 (rprod M k T)) (fun _ i => mm - (intOf i).toNat)
      case atStart => exact ⟨0, Nat.zero_le _, rfl, rfl⟩
      case round =>
        obtain ⟨k, hk, rfl, rfl⟩ := hrel
        by_cases hlt : k < mm
        · obtain ⟨r0, r1⟩ := hRP.out k hk
          obtain ⟨q0, q1⟩ := hRP.out (k + 1) hlt
          obtain ⟨s0, s1, s2⟩ := hSB.out k (by omega)
          have hst := hide (hRS.out k)
          rw [hst.out] at q0 q1
          obtain ⟨Q, hQ⟩ : ∃ Q, Hid ((k : Int) * M = Q) := ⟨_, hide rfl⟩
          obtain ⟨R, hR⟩ : ∃ R, Hid (rprod M k T = R) := ⟨_, hide rfl⟩
          rw [hQ.out] at q0 q1 s0 s1 s2 hst
          rw [hR.out] at r0 r1 q0 q1 hst ⊢
          have hQe : (k : Int) * M = Q := hQ.out
          by_cases hng : T + Q < 0
          · have hmx := hide (show max (T + Q) 0 = 0 by omega)
            rw [hmx.out, Int.mul_zero] at hst
            clear q0 q1
            go_wp2_with (go_at_call 27; refine (hTc.out).mono ?_; rintro e w' ⟨rfl, rfl⟩)
            go_round
            case rel => exact ⟨k + 1, by omega, by go_num, by rw [hst.out]⟩
            case measure => simp [intOf]; omega
          · have hmx := hide (show max (T + Q) 0 = T + Q by omega)
            rw [hmx.out] at hst q0 q1
            go_wp2_with (go_at_call 27; refine (hTc.out).mono ?_; rintro e w' ⟨rfl, rfl⟩)
            go_round
            case rel => exact ⟨k + 1, by omega, by go_num, by rw [hst.out]⟩
            case measure => simp [intOf]; omega
        · obtain rfl : k = mm := by omega
          obtain ⟨mm, hk0⟩ : ∃ m, m = k := ⟨_, rfl⟩
          subst hk0
          have hPe := hide (fun (h : E = true) => hEv.out h)
          obtain ⟨R, hR⟩ : ∃ R, Hid (rprod M mm T = R) := ⟨_, hide rfl⟩
          rw [hR.out] at hPe ⊢
          have hEV : (!E || (V == R)) = true := by
            cases E with
            | false => rfl
            | true => rw [hPe.out rfl]; simp
          clear hlt hk
          have hP5 : nzs ^ mm ≤ 729 := (pow_le_729 nzs mm hn1 hn3 (by omega)).2
          have hWP := hide (fun w => lawPow_c nzs mm w hn1 (by omega) (by omega) (by omega))
          obtain ⟨P, hP⟩ : ∃ P, Hid (nzs ^ mm = P) := ⟨_, hide rfl⟩
          rw [hP.out] at hP5 hWs hWP
          obtain ⟨F, hF⟩ : ∃ F : Nat → Int, Hid ((fun q => rways rs zs (digs nzs mm q)) = F) := ⟨_, hide rfl⟩
          have hFe := hide (fun q => show rways rs zs (digs nzs mm q) = F q by rw [← hF.out])
          rw [hF.out] at hWs
          have hwo := hide (fun q => (hwo.out q).trans (hFe.out q))
          have hFb := hide (fun q => show 0 ≤ F q ∧ F q ≤ 481890304 by rw [← hFe.out q]; exact hFb.out q)
          have hSF := hide (fun k => nsum_bounds (n := k) (f := F) (M := 481890304) (fun q _ => hFb.out q))
          have hO1 := hide (fun (q : Nat) w (hq : q ≤ 729) => wordOf_c nzs mm q w hn1 (by omega) (by omega) (by omega))
          have hWs := hide hWs
          by_cases h3 : 3 < mm
          · have h3i : (3 : Int) < (mm : Int) := by omega
            have hd3 : decide ((mm : Int) ≤ 3) = false := decide_eq_false (by omega)
            have hd4 : decide ((3 : Int) < (mm : Int)) = true := decide_eq_true h3i
            go_wp2_with fail
            go_loopw [11, 12] (fun t i wr => ∃ k : Nat, k = 0 ∧ i = .int .i64 k ∧ t = .int .i64 0 ∧ Hid (Ints wr wr.heap.size Azs nzs czs zs) ∧ Hid (Mat wr wr.heap.size Ars nrs crs rs) ∧ Hid (Below w.heap.size w wr)) (fun _ i _ => 1 - (intOf i).toNat)
            case atStart => exact ⟨0, rfl, rfl, rfl, hzzs, hzrs, hb⟩
            case round =>
              clear hzzs hzrs hb
              obtain ⟨k, rfl, rfl, rfl, hzzs, hzrs, hb⟩ := hrel
              cases E with
              | false =>
                clear hEV
                go_wp2_with (go_at_call 35; refine (hWP.out _).mono ?_; rintro e w' ⟨rfl, rfl⟩)
                all_goals
                  go_ret
                  exact ⟨by simp <;> omega, hb.out⟩
              | true =>
                have hd : (V == R) = true := by simpa using hEV
                clear hEV
                go_wp2_with (go_at_call 35; refine (hWP.out _).mono ?_; rintro e w' ⟨rfl, rfl⟩)
                all_goals
                  go_ret
                  exact ⟨by simp <;> omega, hb.out⟩
          · have h3 : mm ≤ 3 := by omega
            go_wp2_with fail
            go_loopw [11, 12] (fun t i wr => ∃ k : Nat, k ≤ P ∧ i = .int .i64 k ∧ t = .int .i64 (nsum k F) ∧ Hid (Ints wr wr.heap.size Azs nzs czs zs) ∧ Hid (Mat wr wr.heap.size Ars nrs crs rs) ∧ Hid (Below w.heap.size w wr)) (fun _ i _ => P - (intOf i).toNat)
            case atStart => exact ⟨0, Nat.zero_le _, rfl, rfl, hzzs, hzrs, hb⟩
            case round =>
              clear hzzs hzrs hb
              obtain ⟨k, hk, rfl, rfl, hzzs, hzrs, hb⟩ := hrel
              obtain ⟨s0, s1⟩ := hSF.out k
              by_cases hlt : k < P
              · have hst := hide (show nsum (k + 1) F = nsum k F + F k from rfl)
                obtain ⟨f0, f1⟩ := hFb.out k
                go_wp2_with (go_at_call 35; refine (hWP.out _).mono ?_; rintro e w' ⟨rfl, rfl⟩)
                refine (hO1.out k _ (by omega)).mono ?_
                rintro e w4 ⟨Awd, nwd, cwd, rfl, ho, hq⟩
                replace hzzs := hide (hzzs.out.up hq)
                replace hzrs := hide (hzrs.out.up hq)
                replace hb := hide (upB hb.out (hq))
                have howd := hide (ho.down (Nat.zero_le _))
                clear hq ho
                go_wp2_with fail
                refine (ruleWays_impl _ _ _ _ _ _ _ _ _ _ _ _ zs rs (digs nzs mm k) _ hzzs.out hzrs.out howd.out.ints (Nat.le_refl _) (Nat.le_refl _) (Nat.le_refl _)).mono ?_
                rw [hwo.out k]
                rintro e w5 ⟨rfl, hq⟩
                replace hzzs := hide (hzzs.out.up hq)
                replace hzrs := hide (hzrs.out.up hq)
                replace howd := hide (howd.out.up hq)
                replace hb := hide (upB hb.out (hq))
                clear hq
                clear howd
                go_wp2_with fail
                go_roundw
                case rel => exact ⟨k + 1, by omega, by go_num, by rw [hst.out], hzzs, hzrs, hb⟩
                case measure => simp [intOf]; omega
              · obtain rfl : k = P := by omega
                rw [hWs.out]
                clear s0 s1 hlt hk
                cases E with
                | false =>
                  clear hEV
                  go_wp2_with (go_at_call 35; refine (hWP.out _).mono ?_; rintro e w' ⟨rfl, rfl⟩)
                  go_ret
                  exact ⟨by first | rfl | (simp; done) | (simp; omega), hb.out⟩
                | true =>
                  have hd : (V == R) = true := by simpa using hEV
                  clear hEV
                  go_wp2_with (go_at_call 35; refine (hWP.out _).mono ?_; rintro e w' ⟨rfl, rfl⟩)
                  go_ret
                  exact ⟨by first | rfl | (simp; done) | (simp; omega), hb.out⟩
    · have he : ruleAll zs rs m = -1 := by unfold ruleAll; rw [if_neg hok]
      rw [he]
      clear hok
      go_wp2_with fail
      refine (alive_c _).mono ?_
      rintro e wz ⟨rfl, hq⟩
      go_wp2_with fail
      go_ret
      exact ⟨by simp, upB hb.out hq⟩
end Go.Proofs.Ythdelfhfglnhfaa
