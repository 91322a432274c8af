/-
  Laws of chapter 9 walked: FnTermWays (written by wip/gen_z5.py).
-/
import Derived.Test.YtffllkmaifjpfaaTermI
import Derived.Test.YtffllkmaifjpfaaDrawTermW
import Derived.Test.YtffllkmaifjpfaaZmark
import Derived.Test.YtffllkmaifjpfaaSameI
namespace Go.Proofs.Ytffllkmaifjpfaa
open Go.RowKit
set_option linter.unusedVariables false

theorem termW_cases (zs : List Int) (rs : List (List Int)) (ts : List Mk) : termW zs rs ts = -1 ∨ ∃ x, begun zs rs = true ∧ termOk (zs.length : Int) ts = true ∧ Is (zs.length : Int) ts x ∧ termW zs rs ts = termN zs.length x rs zs := by
  by_cases hb : begun zs rs = true
  · by_cases hok : termOk (zs.length : Int) ts = true
    · obtain ⟨_, _, _, x, hx⟩ := termOk_yes hok
      exact .inr ⟨x, hb, hok, hx, termW_in hb hok hx⟩
    · exact .inl (termW_out (.inr (by simpa using hok)))
  · exact .inl (termW_out (.inl (by simpa using hb)))
theorem termW_on {C : Nat} {zs : List Int} {rs : List (List Int)} {ts : List Mk} {x : Tr} (hl : zs.length = C) (hs : startOk zs = true) (hr : Rule C rs) (hok : termOk (C : Int) ts = true) (hx : Is (C : Int) ts x) : termW zs rs ts = termN C x rs zs := by
  have hb : begun zs rs = true := by unfold begun; rw [hs, hl, ruleOk_mk hr]; rfl
  rw [termW_in hb (by rw [hl]; exact hok) (by rw [hl]; exact hx), hl]
set_option maxRecDepth 100000 in
set_option maxHeartbeats 3200000 in
theorem lawTermWays {A : Option Addr} {n c : Nat} {bs : List Int} {Ao : Option Addr} {no co : Nat} {os : List Int} {w : World} (h : Bts w w.heap.size A n c bs) (h2 : Bts w w.heap.size Ao no co os) :
    Calls Try.prog 8 #[.slice A n c, .slice Ao no co] w fun e w' => e = .returned (.bool true) ∧ Below w.heap.size w w' := by
  have hbig := h.big
  have hle := h.le
  unfold maxLen at hbig
  by_cases hn : 1048576 < n
  · go_enter Try.func8, Try.ntmps8
    go_wp2
    go_ret
    exact ⟨rfl, Below.refl _ _⟩
  · have hle2 := h2.le
    have hbig2 := h2.big
    unfold maxLen at hbig2
    by_cases hn2 : 1048576 < no
    · go_enter Try.func8, Try.ntmps8
      go_wp2
      go_ret
      exact ⟨rfl, Below.refl _ _⟩
    · have hD := hide (DrawTermWays_c A n c bs w h)
      obtain ⟨i0, hi, hz0, hz1, hz2⟩ := info_parts infoInt
      go_enter Try.func8, Try.ntmps8
      go_wp2_with fail
      refine hD.out.mono ?_
      rintro e w0 ⟨Azs, nzs, czs, zs, Ars, nrs, crs, rs, Ats, nts, cts, ts, rfl, hzzs, hnzs, hzrs, hnrs, hzts, hnts, hb⟩
      have hlzs := hide hzzs.len
      replace hzzs := hide hzzs
      have hlrs := hide hzrs.len
      replace hzrs := hide hzrs
      have hlts := hide hzts.len
      replace hzts := hide hzts
      replace hb := hide hb
      clear hD
      have hn20 : nts ≤ 1048576 := by omega
      replace h2 := hide h2
      obtain ⟨v, hv⟩ : ∃ v, Hid (termW zs rs ts = v) := ⟨_, hide rfl⟩
      go_wp2_with fail
      refine (termWays_impl _ _ _ _ _ _ _ _ _ _ _ _ zs rs ts _ hzzs.out hzrs.out hzts.out (Nat.le_refl _) (Nat.le_refl _) (Nat.le_refl _) hn20).mono ?_
      rw [hv.out]
      rintro e w1 ⟨rfl, hq⟩
      replace hzzs := hide (hzzs.out.up hq)
      replace hzrs := hide (hzrs.out.up hq)
      replace hzts := hide (hzts.out.up hq)
      replace hb := hide (upB hb.out (hq))
      clear hq
      go_wp2_with fail
      refine (termWays_spec _ _ _ _ _ _ _ _ _ _ _ _ zs rs ts _ hzzs.out hzrs.out hzts.out (Nat.le_refl _) (Nat.le_refl _) (Nat.le_refl _) hn20).mono ?_
      rw [hv.out]
      rintro e w2 ⟨rfl, hq⟩
      replace hzzs := hide (hzzs.out.up hq)
      replace hzrs := hide (hzrs.out.up hq)
      replace hzts := hide (hzts.out.up hq)
      replace hb := hide (upB hb.out (hq))
      clear hq
      rcases termW_cases zs rs ts with hbad | ⟨x, hbg, hok, hx, hgood⟩
      · rw [hv.out] at hbad
        subst hbad
        go_wp2_with fail
        refine (alive_c _).mono ?_
        rintro e wz ⟨rfl, hq⟩
        go_wp2_with fail
        go_ret
        exact ⟨by simp, upB hb.out hq⟩
      ·
        obtain ⟨hC1, hC3, h15, -⟩ := termOk_yes hok
        obtain ⟨-, hz10, hru⟩ := begun_yes hbg
        have hlz := hlzs.out
        rw [hlz] at hru hC1 hC3 hok hx
        have hgd := hx.1
        have hL6 := ln_le x hgd
        have hL1 := ln_pos x
        have hle := termN_le hru x hlz
        rw [hlz] at hgood
        rw [hv.out] at hgood
        rw [← hgood] at hle
        have hv0 : 0 ≤ v := hle.1
        have hvl : v ≤ rall rs (ln x) zs := hle.2
        have el := hide (lenT_in hok hx)
        have eb := hide (backL_in hok hx)
        have era := hide (show ruleAll zs rs (ln x : Int) = rall rs (ln x) zs by unfold ruleAll; rw [hbg, decide_eq_true (show 0 ≤ (ln x : Int) ∧ (ln x : Int) ≤ 6 by omega), Int.toNat_natCast]; rfl)
        obtain ⟨R, hR⟩ : ∃ R, Hid (rall rs (ln x) zs = R) := ⟨_, hide rfl⟩
        rw [hR.out] at era hvl
        have hst : startOk zs = true := by unfold begun at hbg; exact (Bool.and_eq_true_iff.1 hbg).1
        have HS := hide (fun (s : Int) (h1 : -1 ≤ s ∧ s ≤ 3) => sameRule_yes (C := nzs) (s := s) (by omega) h1)
        have HT := hide (fun (s : Int) (h1 : -1 ≤ s ∧ s ≤ 3) => termW_on hlz hst (sameR_rule (C := nzs) (s := s) (by omega) (by omega) h1) hok hx)
        have hlen15 : (flat (back x)).length ≤ 15 := by rw [back_len, hx.2]; exact h15
        have hokb := termOk_mk (C := (nzs : Int)) (by omega) (by omega) hlen15 (back_is hx)
        have HTb := hide (fun (s : Int) (h1 : -1 ≤ s ∧ s ≤ 3) => (termW_on hlz hst (sameR_rule (C := nzs) (s := s) (by omega) (by omega) h1) hokb (back_is hx)).trans (termN_back hgd hlz))
        have hwx := wf_i64 (z := (nzs : Int)) (by omega)
        obtain ⟨LL, hLL⟩ : ∃ LL, Hid (ln x = LL) := ⟨_, hide rfl⟩
        rw [hLL.out] at el era hL6 hL1
        replace hlen15 := hide hlen15
        clear hok hx hru h15 hbg hst hgood hle hokb hlz hn hgd hlzs hz10
        have hb0 := hb.out
        have hstep : ∃ s : Int, -1 ≤ s ∧ s ≤ 3 ∧ ∀ (W : World), True := ⟨0, by omega, by omega, fun _ => trivial⟩
        clear hb0 hstep
        rcases Nat.eq_zero_or_pos no with hn0 | hn0
        · subst hn0
          go_wp2_with fail
          refine (sameRule_impl (nzs : Int) (1) _ (wf_i64 (by omega))).mono ?_
          rintro e w3 ⟨Asame, nsame, csame, rfl, ho, hq⟩
          replace hzzs := hide (hzzs.out.up hq)
          replace hzrs := hide (hzrs.out.up hq)
          replace hzts := hide (hzts.out.up hq)
          replace hb := hide (upB hb.out (hq))
          have hzsame := hide ho.mat
          have hlsame := hide hzsame.out.len
          clear hq ho
          rw [HS.out (1) (by omega)] at hzsame
          go_wp2_with fail
          refine (lengthOf_impl (nzs : Int) _ _ _ _ ts _ hzts.out (Nat.le_refl _) hn20 hwx).mono ?_
          rw [el.out]
          rintro e w4 ⟨rfl, hq⟩
          replace hzzs := hide (hzzs.out.up hq)
          replace hzrs := hide (hzrs.out.up hq)
          replace hzts := hide (hzts.out.up hq)
          replace hzsame := hide (hzsame.out.up hq)
          replace hb := hide (upB hb.out (hq))
          clear hq
          go_wp2_with fail
          refine (ruleAll_impl _ _ _ _ _ _ _ _ zs rs _ _ hzzs.out hzrs.out (Nat.le_refl _) (Nat.le_refl _)).mono ?_
          rw [era.out]
          rintro e w5 ⟨rfl, hq⟩
          replace hzzs := hide (hzzs.out.up hq)
          replace hzrs := hide (hzrs.out.up hq)
          replace hzts := hide (hzts.out.up hq)
          replace hzsame := hide (hzsame.out.up hq)
          replace hb := hide (upB hb.out (hq))
          clear hq
          obtain ⟨tn, htn⟩ : ∃ tn, Hid (termN nzs x (sameR nzs (1)) zs = tn) := ⟨_, hide rfl⟩
          go_wp2_with fail
          refine (termWays_impl _ _ _ _ _ _ _ _ _ _ _ _ zs (sameR nzs (1)) ts _ hzzs.out hzsame.out hzts.out (Nat.le_refl _) (Nat.le_refl _) (Nat.le_refl _) hn20).mono ?_
          rw [HT.out (1) (by omega), htn.out]
          rintro e w6 ⟨rfl, hq⟩
          replace hzzs := hide (hzzs.out.up hq)
          replace hzrs := hide (hzrs.out.up hq)
          replace hzts := hide (hzts.out.up hq)
          replace hzsame := hide (hzsame.out.up hq)
          replace hb := hide (upB hb.out (hq))
          clear hq
          go_wp2_with fail
          refine (backTerm_impl (nzs : Int) _ _ _ _ ts _ hzts.out (Nat.le_refl _) hn20 hwx).mono ?_
          rw [eb.out]
          rintro e w7 ⟨Abb, nbb, cbb, rfl, ho, hq⟩
          replace hzzs := hide (hzzs.out.up hq)
          replace hzrs := hide (hzrs.out.up hq)
          replace hzts := hide (hzts.out.up hq)
          replace hzsame := hide (hzsame.out.up hq)
          replace hb := hide (upB hb.out (hq))
          have hzbb := hide ho.marks
          have hlbb := hide hzbb.out.len
          clear hq ho
          have hnb20 : nbb ≤ 1048576 := by have := hlbb.out; have := hlen15.out; omega
          go_wp2_with fail
          refine (termWays_impl _ _ _ _ _ _ _ _ _ _ _ _ zs (sameR nzs (1)) (flat (back x)) _ hzzs.out hzsame.out hzbb.out (Nat.le_refl _) (Nat.le_refl _) (Nat.le_refl _) hnb20).mono ?_
          rw [HTb.out (1) (by omega), htn.out]
          rintro e w8 ⟨rfl, hq⟩
          replace hzzs := hide (hzzs.out.up hq)
          replace hzrs := hide (hzrs.out.up hq)
          replace hzts := hide (hzts.out.up hq)
          replace hzsame := hide (hzsame.out.up hq)
          replace hzbb := hide (hzbb.out.up hq)
          replace hb := hide (upB hb.out (hq))
          clear hq
          go_wp2_with fail
          go_ret
          exact ⟨by simp <;> omega, hb.out⟩
        · obtain ⟨bo, oo, xo, rfl, hbo, hx0, hx1, hco⟩ := (h2.out.below hb.out).look (show 0 < no by omega)
          have hmo : 0 ≤ xo % 5 ∧ xo % 5 < 5 := ⟨Int.emod_nonneg _ (by omega), Int.emod_lt_of_pos _ (by omega)⟩
          obtain ⟨ho0, ho1⟩ := hmo
          rw [Nat.add_zero] at hco
          have hnoi : (no : Int) > 0 := by omega
          go_wp2_with fail
          refine (sameRule_impl (nzs : Int) (xo % 5 - 1) _ (wf_i64 (by omega))).mono ?_
          rintro e w9 ⟨Asame, nsame, csame, rfl, ho, hq⟩
          replace hzzs := hide (hzzs.out.up hq)
          replace hzrs := hide (hzrs.out.up hq)
          replace hzts := hide (hzts.out.up hq)
          replace hb := hide (upB hb.out (hq))
          have hzsame := hide ho.mat
          have hlsame := hide hzsame.out.len
          clear hq ho
          rw [HS.out (xo % 5 - 1) (by omega)] at hzsame
          go_wp2_with fail
          refine (lengthOf_impl (nzs : Int) _ _ _ _ ts _ hzts.out (Nat.le_refl _) hn20 hwx).mono ?_
          rw [el.out]
          rintro e w10 ⟨rfl, hq⟩
          replace hzzs := hide (hzzs.out.up hq)
          replace hzrs := hide (hzrs.out.up hq)
          replace hzts := hide (hzts.out.up hq)
          replace hzsame := hide (hzsame.out.up hq)
          replace hb := hide (upB hb.out (hq))
          clear hq
          go_wp2_with fail
          refine (ruleAll_impl _ _ _ _ _ _ _ _ zs rs _ _ hzzs.out hzrs.out (Nat.le_refl _) (Nat.le_refl _)).mono ?_
          rw [era.out]
          rintro e w11 ⟨rfl, hq⟩
          replace hzzs := hide (hzzs.out.up hq)
          replace hzrs := hide (hzrs.out.up hq)
          replace hzts := hide (hzts.out.up hq)
          replace hzsame := hide (hzsame.out.up hq)
          replace hb := hide (upB hb.out (hq))
          clear hq
          obtain ⟨tn, htn⟩ : ∃ tn, Hid (termN nzs x (sameR nzs (xo % 5 - 1)) zs = tn) := ⟨_, hide rfl⟩
          go_wp2_with fail
          refine (termWays_impl _ _ _ _ _ _ _ _ _ _ _ _ zs (sameR nzs (xo % 5 - 1)) ts _ hzzs.out hzsame.out hzts.out (Nat.le_refl _) (Nat.le_refl _) (Nat.le_refl _) hn20).mono ?_
          rw [HT.out (xo % 5 - 1) (by omega), htn.out]
          rintro e w12 ⟨rfl, hq⟩
          replace hzzs := hide (hzzs.out.up hq)
          replace hzrs := hide (hzrs.out.up hq)
          replace hzts := hide (hzts.out.up hq)
          replace hzsame := hide (hzsame.out.up hq)
          replace hb := hide (upB hb.out (hq))
          clear hq
          go_wp2_with fail
          refine (backTerm_impl (nzs : Int) _ _ _ _ ts _ hzts.out (Nat.le_refl _) hn20 hwx).mono ?_
          rw [eb.out]
          rintro e w13 ⟨Abb, nbb, cbb, rfl, ho, hq⟩
          replace hzzs := hide (hzzs.out.up hq)
          replace hzrs := hide (hzrs.out.up hq)
          replace hzts := hide (hzts.out.up hq)
          replace hzsame := hide (hzsame.out.up hq)
          replace hb := hide (upB hb.out (hq))
          have hzbb := hide ho.marks
          have hlbb := hide hzbb.out.len
          clear hq ho
          have hnb20 : nbb ≤ 1048576 := by have := hlbb.out; have := hlen15.out; omega
          go_wp2_with fail
          refine (termWays_impl _ _ _ _ _ _ _ _ _ _ _ _ zs (sameR nzs (xo % 5 - 1)) (flat (back x)) _ hzzs.out hzsame.out hzbb.out (Nat.le_refl _) (Nat.le_refl _) (Nat.le_refl _) hnb20).mono ?_
          rw [HTb.out (xo % 5 - 1) (by omega), htn.out]
          rintro e w14 ⟨rfl, hq⟩
          replace hzzs := hide (hzzs.out.up hq)
          replace hzrs := hide (hzrs.out.up hq)
          replace hzts := hide (hzts.out.up hq)
          replace hzsame := hide (hzsame.out.up hq)
          replace hzbb := hide (hzbb.out.up hq)
          replace hb := hide (upB hb.out (hq))
          clear hq
          go_wp2_with fail
          go_ret
          exact ⟨by simp <;> omega, hb.out⟩
end Go.Proofs.Ytffllkmaifjpfaa
