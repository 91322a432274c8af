/-
  Laws of chapter 5 walked: FnShareSum (written by wip/gen_s2.py).
-/
import Derived.Test.YtdnnobkkilffbaaZdraw
import Derived.Test.YtdnnobkkilffbaaZruled
import Derived.Test.YtdnnobkkilffbaaSameI
import Derived.Test.YtdnnobkkilffbaaZsame
import Derived.Test.YtdnnobkkilffbaaZrows
import Derived.Test.YtdnnobkkilffbaaRuleI
import Derived.Test.YtdnnobkkilffbaaZback
import Derived.Test.YtdnnobkkilffbaaZimp
import Derived.Test.YtdnnobkkilffbaaZoks
namespace Go.Proofs.Ytdnnobkkilffbaa
open Go.RowKit
set_option linter.unusedVariables false

set_option maxHeartbeats 3200000 in
theorem lawShareSum {A : Option Addr} {n c : Nat} {bs : List Int} {w : World} (h : Bts w w.heap.size A n c bs) :
    Calls Try.prog 10 #[.slice A n c] w fun e w' => e = .returned (.bool true) ∧ Below w.heap.size w w' := by
  have hbig := h.big
  have hle := h.le
  unfold maxLen at hbig
  by_cases hn : 1048576 < n
  · go_enter Try.func10, Try.ntmps10
    go_wp2
    go_ret
    exact ⟨rfl, Below.refl _ _⟩
  · have hD := hide (DrawShareSum_c A n c bs w h)
    obtain ⟨i0, hi, hz0, hz1, hz2⟩ := info_parts infoInt
    go_enter Try.func10, Try.ntmps10
    go_wp2_with fail
    refine hD.out.mono ?_
    rintro e w0 ⟨Azs, nzs, czs, zs, s, m, col, rfl, hzzs, hnzs, hlos, hhis, hlom, hhim, hlocol, hhicol, hb⟩
    have hlzs := hide hzzs.len
    replace hzzs := hide hzzs
    replace hb := hide hb
    clear hD
    have hws := wf_i64 (z := s) (by omega)
    have hwm := wf_i64 (z := m) (by omega)
    have hwc := wf_i64 (z := col) (by omega)
    go_wp2_with fail
    refine (shareSum_impl _ _ _ _ zs s m col _ hzzs.out (Nat.le_refl _) hws hwm hwc).mono ?_
    rintro e w1 ⟨rfl, hq⟩
    replace hzzs := hide (hzzs.out.up hq)
    replace hb := hide (upB hb.out (hq))
    clear hq
    go_wp2_with fail
    refine (shareSum_spec _ _ _ _ zs s m col _ hzzs.out (Nat.le_refl _)).mono ?_
    rintro e w2 ⟨rfl, hq⟩
    replace hzzs := hide (hzzs.out.up hq)
    replace hb := hide (upB hb.out (hq))
    clear hq
    by_cases hok : (startOk zs && stepB s && decide (0 ≤ m ∧ m ≤ 6) && decide (0 ≤ col ∧ col < (zs.length : Int))) = true
    · have he : shareSum zs s m col = bsum (sameR zs.length s) col.toNat m.toNat zs := by unfold shareSum; rw [if_pos hok]
      obtain ⟨hok2, hcol⟩ := Bool.and_eq_true_iff.1 hok
      obtain ⟨hok3, hm⟩ := Bool.and_eq_true_iff.1 hok2
      obtain ⟨hst, hsB⟩ := Bool.and_eq_true_iff.1 hok3
      obtain ⟨hm0, hm6⟩ := of_decide_eq_true hm
      obtain ⟨hc0, hc1⟩ := of_decide_eq_true hcol
      obtain ⟨s0, s1⟩ := stepB_yes hsB
      obtain ⟨mm, rfl⟩ : ∃ mm : Nat, m = (mm : Int) := ⟨m.toNat, by omega⟩
      obtain ⟨cc, rfl⟩ : ∃ cc : Nat, col = (cc : Int) := ⟨col.toNat, by omega⟩
      obtain ⟨hu, hz10⟩ := startOk_yes hst
      have hn3 := urnOk_size hu
      rw [hlzs.out] at hn3 hc1
      obtain ⟨hn1, hn3⟩ := hn3
      have hR := sameR_rule (C := nzs) (s := s) hn1 hn3 ⟨s0, s1⟩
      have hmb : (10 : Int) + 3 * (mm : Int) ≤ 28 := by omega
      have hVB := hide (fun (c : Nat) => show 0 ≤ bsum (sameR nzs s) c mm zs ∧ bsum (sameR nzs s) c mm zs ≤ 9836344885248 from by
        have h1 := bsum_bound hR c mm hlzs.out hz10 hmb
        have h2 := pow84 mm (by omega)
        omega)
      have hBS := hide (fun (c : Nat) (hc : c < nzs) => show shareSum zs s (mm : Int) (c : Int) = bsum (sameR nzs s) c mm zs from by
        unfold shareSum
        rw [hst, hsB, hm, hlzs.out, decide_eq_true (show (0 : Int) ≤ (c : Int) ∧ (c : Int) < (nzs : Int) by omega)]; rfl)
      have hRA := hide (show ruleAll zs (sameR nzs s) (mm : Int) = rall (sameR nzs s) mm zs from by
        unfold ruleAll begun
        rw [hst, hm, hlzs.out, ruleOk_mk hR]; rfl)
      have hSR := hide (sameRule_yes (C := nzs) (s := s) ⟨hn1, hn3⟩ ⟨s0, s1⟩)
      have hA0 := (rall_bound hR mm hlzs.out hz10 hmb).1
      have hA1 : rall (sameR nzs s) mm zs ≤ 351298031616 := Int.le_trans (rall_bound hR mm hlzs.out hz10 hmb).2 (pow84 mm (by omega))
      have hST := share_total hn1 hn3 ⟨s0, s1⟩ (show cc < nzs by omega) mm zs 10 hlzs.out hz10
      have hSA := share_all hn1 hn3 ⟨s0, s1⟩ mm zs 10 hlzs.out hz10
      obtain ⟨z, hz⟩ : ∃ z, zs[cc]? = some z := ⟨_, List.getElem?_eq_getElem (by have := hlzs.out; omega)⟩
      rw [hz, Option.getD_some] at hST
      obtain ⟨z0, z1⟩ := hz10 z (List.mem_of_getElem? hz)
      obtain ⟨b, off, x, hA, hbB, hx, hcell⟩ := hzzs.out.look (show cc < nzs by omega)
      subst hA
      obtain rfl : x = z := by have e := hx.out; rw [hz] at e; injection e with e; exact e.symm
      have hTe := hide (totalF_ok hu)
      have hms : -6 ≤ (mm : Int) * s ∧ (mm : Int) * s ≤ 24 := by
        have a := mul_bound (a := (mm : Int)) (M := 6) (by omega) (by omega) (b := s + 1) (N := 4) (by omega) (by omega)
        rw [Int.mul_add] at a
        omega
      have ht30 : 0 ≤ isum zs ∧ isum zs ≤ 120 := urnOk_sum hu
      rw [Int.toNat_natCast, Int.toNat_natCast, hlzs.out] at he
      rw [he]
      obtain ⟨T, hT⟩ : ∃ T, Hid (isum zs = T) := ⟨_, hide rfl⟩
      rw [hT.out] at hST hSA hTe ht30
      obtain ⟨A, hA⟩ : ∃ A, Hid (rall (sameR nzs s) mm zs = A) := ⟨_, hide rfl⟩
      rw [hA.out] at hST hSA hRA hA0 hA1
      obtain ⟨F, hF⟩ : ∃ F : Nat → Int, Hid ((fun c => bsum (sameR nzs s) c mm zs) = F) := ⟨_, hide rfl⟩
      have hFe := hide (fun c => show bsum (sameR nzs s) c mm zs = F c by rw [← hF.out])
      rw [hF.out] at hSA
      rw [hFe.out cc] at hST ⊢
      have hBF := hide (fun (c : Nat) (hc : c < nzs) => (hBS.out c hc).trans (hFe.out c))
      have hFb := hide (fun (c : Nat) => show 0 ≤ F c ∧ F c ≤ 9836344885248 by rw [← hFe.out c]; exact hVB.out c)
      have hSF := hide (fun k => nsum_bounds (n := k) (f := F) (M := 9836344885248) (fun q _ => hFb.out q))
      obtain ⟨v0, v1⟩ := hFb.out cc
      obtain ⟨t0, t1⟩ := ht30
      obtain ⟨p0, p1⟩ := mul_bound v0 v1 t0 t1
      have hSA := hide hSA
      have hST := hide hST
      have hcol0 : ((cc : Int)) < (nzs : Int) := by omega
      clear he hok hok2 hok3 hst hsB hm hcol hu hz10 hR hz
      go_wp2_with fail
      refine (sameRule_impl (nzs : Int) s _ hws).mono ?_
      rintro e w3 ⟨Ars, nrs, crs, rfl, ho, hq⟩
      replace hzzs := hide (hzzs.out.up hq)
      replace hb := hide (upB hb.out (hq))
      have hzrs := hide ho.mat
      have hlrs := hide hzrs.out.len
      clear hq ho
      rw [hSR.out] at hzrs hlrs
      go_wp2_with fail
      refine (ruleAll_impl _ _ _ _ _ _ _ _ zs (sameR nzs s) (mm : Int) _ hzzs.out hzrs.out (Nat.le_refl _) (Nat.le_refl _)).mono ?_
      rw [hRA.out]
      rintro e w4 ⟨rfl, hq⟩
      replace hzzs := hide (hzzs.out.up hq)
      replace hzrs := hide (hzrs.out.up hq)
      replace hb := hide (upB hb.out (hq))
      clear hq
      clear hzrs
      go_wp2_with fail
      refine (sameB (totalOf_impl _ _ _ _ zs _ hzzs.out)).mono ?_
      rw [hTe.out]
      rintro e w5 ⟨rfl, hq⟩
      replace hzzs := hide (hzzs.out.up hq)
      replace hb := hide (upB hb.out (hq))
      clear hq
      go_wp2_with fail
      go_loopw [10, 11] (fun t i wr => ∃ k : Nat, k ≤ nzs ∧ i = .int .i64 k ∧ t = .int .i64 (nsum k F) ∧ Hid (Ints wr wr.heap.size (some ⟨b, off, none⟩) nzs czs zs) ∧ Hid (Below w.heap.size w wr)) (fun _ i _ => nzs - (intOf i).toNat)
      case atStart => exact ⟨0, Nat.zero_le _, rfl, rfl, hzzs, hb⟩
      case round =>
        clear hzzs hb
        obtain ⟨k, hk, rfl, rfl, hzzs, hb⟩ := hrel
        obtain ⟨s0, s1⟩ := hSF.out k
        by_cases hlt : k < nzs
        · have hst := hide (show nsum (k + 1) F = nsum k F + F k from rfl)
          obtain ⟨f0, f1⟩ := hFb.out k
          have hwk := wf_i64 (z := (k : Int)) (by omega)
          go_wp2_with fail
          refine (shareSum_impl _ _ _ _ zs s (mm : Int) (k : Int) _ hzzs.out (Nat.le_refl _) hws hwm hwk).mono ?_
          rw [hBF.out k hlt]
          rintro e w6 ⟨rfl, hq⟩
          replace hzzs := hide (hzzs.out.up hq)
          replace hb := hide (upB hb.out (hq))
          clear hq
          go_wp2_with fail
          go_roundw
          case rel => exact ⟨k + 1, by omega, by go_num, by rw [hst.out], hzzs, hb⟩
          case measure => simp [intOf]; omega
        · obtain rfl : k = nzs := by omega
          rw [hSA.out]
          obtain ⟨b', off', x', hA', _, hx', hcell'⟩ := hzzs.out.look (show cc < k by omega)
          injection hA' with hA'
          injection hA' with a1 a2 _
          subst a1; subst a2
          obtain rfl : x' = x := by have e := hx'.out; rw [hx.out] at e; injection e with e; exact e.symm
          obtain ⟨ms0, ms1⟩ := hms
          have hgb := mul_bound z0 z1 (show 0 ≤ T + (mm : Int) * s + 6 by omega) (show T + (mm : Int) * s + 6 ≤ 150 by omega)
          rw [Int.mul_add] at hgb
          have e1 : -60 ≤ x' * (T + (mm : Int) * s) ∧ x' * (T + (mm : Int) * s) ≤ 1500 := by omega
          have e2 : 0 ≤ x' * (T + (mm : Int) * s) * A ∧ x' * (T + (mm : Int) * s) * A ≤ 1180361386229760 := by
            rw [← hST.out]; omega
          have e3 : 0 ≤ (T + (mm : Int) * s) * A ∧ (T + (mm : Int) * s) * A ≤ 29509034655744 := by
            rw [← hSA.out]
            have := hSF.out k
            have h3 : (k : Int) ≤ 3 := by omega
            constructor
            · exact this.1
            · omega
          obtain ⟨e10, e11⟩ := e1
          obtain ⟨e20, e21⟩ := e2
          obtain ⟨e30, e31⟩ := e3
          have hd : (F cc * T == x' * (T + (mm : Int) * s) * A) = true := by rw [hST.out]; simp
          clear hgb s0 s1 hlt hk hcell
          go_wp2_with fail
          go_ret
          exact ⟨by simp, hb.out⟩
    · have he : shareSum zs s m col = -1 := by unfold shareSum; rw [if_neg hok]
      rw [he]
      clear he hok
      go_wp2_with fail
      refine (alive_c _).mono ?_
      rintro e wz ⟨rfl, hq⟩
      go_wp2_with fail
      go_ret
      exact ⟨by simp, upB hb.out hq⟩
end Go.Proofs.Ytdnnobkkilffbaa
