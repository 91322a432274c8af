/-
  Laws of chapter 4 walked: FnEvenRule, FnRuleNext (written by wip/gen_r4.py).
-/
import Derived.Test.YthdelfhfglnhfaaLawAid
import Derived.Test.YthdelfhfglnhfaaDrawCh4
import Derived.Test.YthdelfhfglnhfaaRuleI
import Derived.Test.YthdelfhfglnhfaaRuleX
import Derived.Test.YthdelfhfglnhfaaAidW
import Derived.Test.YthdelfhfglnhfaaRowsC
import Derived.Test.YthdelfhfglnhfaaPlainV
import Derived.Test.YthdelfhfglnhfaaTotalI
namespace Go.Proofs.Ythdelfhfglnhfaa
open Go.RowKit
set_option linter.unusedVariables false

set_option maxHeartbeats 3200000 in
theorem lawEvenRule {A : Option Addr} {n c : Nat} {bs : List Int} {w : World} (h : Bts w w.heap.size A n c bs) :
    Calls Try.prog 8 #[.slice A n c] w fun e w' => e = .returned (.bool true) ∧ Below w.heap.size w w' := by
  have hbig := h.big
  have hle := h.le
  unfold maxLen at hbig
  by_cases hn : 1048576 < n
  · go_enter Try.func8, Try.ntmps8
    go_wp2
    go_ret
    exact ⟨rfl, Below.refl _ _⟩
  · have hD := hide (DrawEvenRule_c A n c bs w h)
    obtain ⟨i0, hi, hz0, hz1, hz2⟩ := info_parts infoInt
    go_enter Try.func8, Try.ntmps8
    go_wp2_with fail
    refine hD.out.mono ?_
    rintro e w0 ⟨Ars, nrs, crs, rs, cl, rfl, hzrs, hnrs, hlocl, hhicl, hb⟩
    have hlrs := hide hzrs.len
    replace hzrs := hide hzrs
    replace hb := hide hb
    clear hD
    go_wp2_with fail
    refine (evenRule_impl cl _ _ _ _ rs _ hzrs.out (Nat.le_refl _)).mono ?_
    rintro e w1 ⟨rfl, hq⟩
    replace hzrs := hide (hzrs.out.up hq)
    replace hb := hide (upB hb.out (hq))
    clear hq
    go_wp2_with fail
    refine (quietB (evenRule_spec cl _ _ _ _ rs _ hzrs.out)).mono ?_
    rintro e w2 ⟨rfl, hq⟩
    replace hzrs := hide (hzrs.out.up hq)
    replace hb := hide (upB hb.out (hq))
    clear hq
    by_cases hok : evenOk cl rs = true
    · have hrk : ruleOk cl rs = true := by unfold evenOk at hok; exact (Bool.and_eq_true_iff.1 hok).1
      obtain ⟨hc, hR⟩ := ruleOk_yes hrk
      obtain ⟨C, hCe⟩ : ∃ C, cl.toNat = C := ⟨_, rfl⟩
      rw [hCe] at hR hc
      subst hc
      have hC1 := hR.pos
      have hC3 := hR.le
      have hRow := hide (fun (k : Nat) l (hl : rs[k]? = some l) => row_sum hR hl)
      have hEv := hide (fun (k : Nat) l (hl : rs[k]? = some l) => show isum l = evenN (C : Int) rs from by
        have h1 := even_at hok k (by have := (List.getElem?_eq_some_iff.1 hl).1; have := hR.len; omega)
        unfold rowOf at h1
        rwa [hl] at h1)
      obtain ⟨M0, M1⟩ := evenN_bounds (C : Int) rs
      have hnC : nrs = C := by have := hlrs.out; have := hR.len; omega
      obtain ⟨M, hM⟩ : ∃ M, Hid (evenN (C : Int) rs = M) := ⟨_, hide rfl⟩
      rw [hM.out] at M0 M1 hEv
      rw [hok, hM.out]
      subst hnC
      clear hok hrk hR hCe
      go_wp2_with fail
      go_loop [9] (fun i => ∃ k : Nat, k ≤ nrs ∧ i = .int .i64 k) (fun i => nrs - (intOf i).toNat)
      case atStart => exact ⟨0, Nat.zero_le _, rfl⟩
      case round =>
        obtain ⟨k, hk, rfl⟩ := hrel
        by_cases hlt : k < nrs
        · obtain ⟨b, off, l, A', n', c', rfl, hbB, hx, hcell, hrow⟩ := hzrs.out.look hlt
          obtain ⟨r1, r2, _, _⟩ := hRow.out k l hx.out
          have hn' : n' = nrs := by have := hrow.out.len; omega
          subst hn'
          have hsum := hide (hEv.out k l hx.out)
          have hEl := hide (fun (j : Nat) x (hx : l[j]? = some x) => r2 x (List.mem_of_getElem? hx))
          have hTk := hide (fun (j : Nat) => show -1000 ≤ isum (l.take j) ∧ isum (l.take j) ≤ 1000 by
            have h1 := sum_small (zs := l.take j) (M := 100) (by decide) (fun x hx => by have := r2 x (List.mem_of_mem_take hx); omega)
            have h2 : (l.take j).length ≤ l.length := List.length_take_le' _ _
            omega)
          have hll := hide r1
          clear r1 r2
          go_wp2_with fail
          go_loop [10, 11] (fun t i => ∃ j : Nat, j ≤ n' ∧ i = .int .i64 j ∧ t = .int .i64 (isum (l.take j))) (fun _ i => n' - (intOf i).toNat)
          case atStart => exact ⟨0, Nat.zero_le _, rfl, rfl⟩
          case round =>
            obtain ⟨j, hj, rfl, rfl⟩ := hrel
            obtain ⟨s0, s1⟩ := hTk.out j
            by_cases hjt : j < n'
            · obtain ⟨b', off', x, rfl, hb', hy, hcell'⟩ := hrow.out.look hjt
              obtain ⟨x0, x1⟩ := hEl.out j x hy.out
              have hst := hide (isum_take_succ hy.out)
              go_wp2_with fail
              go_round
              case rel => exact ⟨j + 1, by omega, by go_num, by rw [hst.out]⟩
              case measure => simp [intOf]; omega
            · have hall := hide (show isum (l.take j) = M by rw [List.take_of_length_le (by have := hll.out; omega)]; exact hsum.out)
              rw [hall.out]
              go_wp2_with fail
              go_round
              case rel => exact ⟨k + 1, by omega, by go_num⟩
              case measure => simp [intOf]; omega
        · have hd : decide (-1 ≤ M) = true := decide_eq_true M0
          go_wp2_with fail
          refine (alive_c _).mono ?_
          rintro e wz ⟨rfl, hq⟩
          go_wp2_with fail
          go_ret
          exact ⟨by simp <;> omega, upB hb.out hq⟩
    · have hok : evenOk cl rs = false := by simpa using hok
      rw [hok, evenN_no hok]
      clear hok
      go_wp2_with fail
      refine (alive_c _).mono ?_
      rintro e wz ⟨rfl, hq⟩
      go_wp2_with fail
      go_ret
      exact ⟨by simp, upB hb.out hq⟩

set_option maxHeartbeats 3200000 in
theorem lawRuleNext {A : Option Addr} {n c : Nat} {bs : List Int} {w : World} (h : Bts w w.heap.size A n c bs) :
    Calls Try.prog 10 #[.slice A n c] w fun e w' => e = .returned (.bool true) ∧ Below w.heap.size w w' := by
  have hbig := h.big
  have hle := h.le
  unfold maxLen at hbig
  by_cases hn : 1048576 < n
  · go_enter Try.func10, Try.ntmps10
    go_wp2
    go_ret
    exact ⟨rfl, Below.refl _ _⟩
  · have hD := hide (DrawBallSum_c A n c bs w h)
    obtain ⟨i0, hi, hz0, hz1, hz2⟩ := info_parts infoInt
    go_enter Try.func10, Try.ntmps10
    go_wp2_with fail
    refine hD.out.mono ?_
    rintro e w0 ⟨Azs, nzs, czs, zs, Ars, nrs, crs, rs, m, col, rfl, hzzs, hnzs, hzrs, hnrs, hlom, hhim, hlocol, hhicol, hb⟩
    have hlzs := hide hzzs.len
    replace hzzs := hide hzzs
    have hlrs := hide hzrs.len
    replace hzrs := hide hzrs
    replace hb := hide hb
    clear hD
    go_wp2_with fail
    refine (ballSum_spec _ _ _ _ _ _ _ _ zs rs m col _ hzzs.out hzrs.out (Nat.le_refl _) (Nat.le_refl _)).mono ?_
    rintro e w1 ⟨rfl, hq⟩
    replace hzzs := hide (hzzs.out.up hq)
    replace hzrs := hide (hzrs.out.up hq)
    replace hb := hide (upB hb.out (hq))
    clear hq
    by_cases hok : (begun zs rs && decide (0 ≤ m ∧ m ≤ 6) && decide (0 ≤ col ∧ col < (zs.length : Int))) = true
    · have he : ballSum zs rs m col = bsum rs col.toNat m.toNat zs := by unfold ballSum; rw [if_pos hok]
      obtain ⟨hok2, hcol⟩ := Bool.and_eq_true_iff.1 hok
      obtain ⟨hbg, hm⟩ := Bool.and_eq_true_iff.1 hok2
      obtain ⟨hm0, hm6⟩ := of_decide_eq_true hm
      obtain ⟨hc0, hc1⟩ := of_decide_eq_true hcol
      obtain ⟨mm, rfl⟩ : ∃ mm : Nat, m = (mm : Int) := ⟨m.toNat, by omega⟩
      obtain ⟨hu, hz10, hR⟩ := begun_yes hbg
      rw [hlzs.out] at hR hc1
      have hn1 := hR.pos
      have hn3 := hR.le
      have hmb : (10 : Int) + 3 * (mm : Int) ≤ 28 := by omega
      have hVB := hide (fun (c : Nat) => show 0 ≤ bsum rs c mm zs ∧ bsum rs c mm zs ≤ 9836344885248 from by
        have h1 := bsum_bound hR c mm hlzs.out hz10 hmb
        have h2 := pow84 mm (by omega)
        omega)
      have hBS := hide (fun (c : Nat) (hc : c < nzs) => show ballSum zs rs (mm : Int) (c : Int) = bsum rs c mm zs from by
        unfold ballSum
        rw [hbg, decide_eq_true (show (0 : Int) ≤ (mm : Int) ∧ (mm : Int) ≤ 6 by omega), decide_eq_true (show (0 : Int) ≤ (c : Int) ∧ (c : Int) < (zs.length : Int) by have := hlzs.out; omega)]; rfl)
      rw [Int.toNat_natCast] at he
      rw [he]
      obtain ⟨V, hV⟩ : ∃ V, Hid (bsum rs col.toNat mm zs = V) := ⟨_, hide rfl⟩
      obtain ⟨V0, V1⟩ := hVB.out col.toNat
      have hBc := hide (show ballSum zs rs (mm : Int) col = V from by rw [he, hV.out])
      rw [hV.out] at V0 V1 ⊢
      by_cases h6 : 6 ≤ (mm : Int)
      · have hd : decide (-1 ≤ V) = true := decide_eq_true (by omega)
        clear hok hok2 hbg hm hcol he hu hz10 hR
        go_wp2_with fail
        refine (ballSum_impl _ _ _ _ _ _ _ _ zs rs (mm : Int) col _ hzzs.out hzrs.out (Nat.le_refl _) (Nat.le_refl _)).mono ?_
        rw [hBc.out]
        rintro e w2 ⟨rfl, hq⟩
        replace hzzs := hide (hzzs.out.up hq)
        replace hzrs := hide (hzrs.out.up hq)
        replace hb := hide (upB hb.out (hq))
        clear hq
        go_wp2_with fail
        refine (alive_c _).mono ?_
        rintro e wz ⟨rfl, hq⟩
        go_wp2_with fail
        go_ret
        exact ⟨by simp <;> omega, upB hb.out hq⟩
      have hRA := hide (show ruleAll zs rs ((mm : Int) + 1) = rall rs (mm + 1) zs from by
        unfold ruleAll
        rw [hbg, decide_eq_true (show (0 : Int) ≤ (mm : Int) + 1 ∧ (mm : Int) + 1 ≤ 6 by omega)]; rfl)
      have hNx := bsum_next hR mm zs 10 hlzs.out hz10
      rw [← hRA.out] at hNx
      obtain ⟨A, hA⟩ : ∃ A, Hid (ruleAll zs rs ((mm : Int) + 1) = A) := ⟨_, hide rfl⟩
      rw [hA.out] at hNx
      obtain ⟨F, hF⟩ : ∃ F : Nat → Int, Hid ((fun c => bsum rs c mm zs) = F) := ⟨_, hide rfl⟩
      have hFe := hide (fun c => show bsum rs c mm zs = F c by rw [← hF.out])
      rw [hF.out] at hNx
      have hBF := hide (fun (c : Nat) (hc : c < nzs) => (hBS.out c hc).trans (hFe.out c))
      have hFb := hide (fun (c : Nat) => show 0 ≤ F c ∧ F c ≤ 9836344885248 by rw [← hFe.out c]; exact hVB.out c)
      have hSF := hide (fun k => nsum_bounds (n := k) (f := F) (M := 9836344885248) (fun q _ => hFb.out q))
      have hNx := hide hNx
      clear hok hok2 hbg hm hcol he hu hz10 hR
      go_wp2_with fail
      go_loopw [7, 8] (fun t i wr => ∃ k : Nat, k ≤ nzs ∧ i = .int .i64 k ∧ t = .int .i64 (nsum k F) ∧ Hid (Ints wr wr.heap.size Azs nzs czs zs) ∧ Hid (Mat wr wr.heap.size Ars nrs crs rs) ∧ Hid (Below w.heap.size w wr)) (fun _ i _ => nzs - (intOf i).toNat)
      case atStart => exact ⟨0, Nat.zero_le _, rfl, rfl, hzzs, hzrs, hb⟩
      case round =>
        clear hzzs hzrs hb
        obtain ⟨k, hk, rfl, rfl, hzzs, hzrs, hb⟩ := hrel
        obtain ⟨s0, s1⟩ := hSF.out k
        by_cases hlt : k < nzs
        · have hst := hide (show nsum (k + 1) F = nsum k F + F k from rfl)
          obtain ⟨f0, f1⟩ := hFb.out k
          go_wp2_with fail
          refine (ballSum_impl _ _ _ _ _ _ _ _ zs rs (mm : Int) (k : Int) _ hzzs.out hzrs.out (Nat.le_refl _) (Nat.le_refl _)).mono ?_
          rw [hBF.out k hlt]
          rintro e w3 ⟨rfl, hq⟩
          replace hzzs := hide (hzzs.out.up hq)
          replace hzrs := hide (hzrs.out.up hq)
          replace hb := hide (upB hb.out (hq))
          clear hq
          go_wp2_with fail
          go_roundw
          case rel => exact ⟨k + 1, by omega, by go_num, by rw [hst.out], hzzs, hzrs, hb⟩
          case measure => simp [intOf]; omega
        · obtain rfl : k = nzs := by omega
          rw [hNx.out]
          clear s0 s1 hlt hk
          go_wp2_with fail
          refine (alive_c _).mono ?_
          rintro e w4 ⟨rfl, hq⟩
          replace hzzs := hide (hzzs.out.up hq)
          replace hzrs := hide (hzrs.out.up hq)
          replace hb := hide (upB hb.out (hq))
          clear hq
          go_wp2_with fail
          refine (ruleAll_impl _ _ _ _ _ _ _ _ zs rs ((mm : Int) + 1) _ hzzs.out hzrs.out (Nat.le_refl _) (Nat.le_refl _)).mono ?_
          rw [hA.out]
          rintro e w5 ⟨rfl, hq⟩
          replace hzzs := hide (hzzs.out.up hq)
          replace hzrs := hide (hzrs.out.up hq)
          replace hb := hide (upB hb.out (hq))
          clear hq
          go_wp2_with fail
          go_ret
          exact ⟨by simp, hb.out⟩
    · have he : ballSum zs rs m col = -1 := by unfold ballSum; rw [if_neg hok]
      rw [he]
      replace he := hide he
      clear hok
      go_wp2_with fail
      refine (ballSum_impl _ _ _ _ _ _ _ _ zs rs m col _ hzzs.out hzrs.out (Nat.le_refl _) (Nat.le_refl _)).mono ?_
      rw [he.out]
      rintro e w6 ⟨rfl, hq⟩
      replace hzzs := hide (hzzs.out.up hq)
      replace hzrs := hide (hzrs.out.up hq)
      replace hb := hide (upB hb.out (hq))
      clear hq
      go_wp2_with fail
      refine (alive_c _).mono ?_
      rintro e wz ⟨rfl, hq⟩
      go_wp2_with fail
      go_ret
      exact ⟨by simp, upB hb.out hq⟩
end Go.Proofs.Ythdelfhfglnhfaa
