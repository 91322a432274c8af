/-
  Laws of chapter 4 walked: FnStartOk, FnAfterWord (written by wip/gen_r2.py).
-/
import Derived.Test.YthdelfhfglnhfaaLawAid
import Derived.Test.YthdelfhfglnhfaaDrawCh4
import Derived.Test.YthdelfhfglnhfaaRuleI
import Derived.Test.YthdelfhfglnhfaaRuleX
import Derived.Test.YthdelfhfglnhfaaAidW
import Derived.Test.YthdelfhfglnhfaaRowsC
import Derived.Test.YthdelfhfglnhfaaPut
namespace Go.Proofs.Ythdelfhfglnhfaa
open Go.RowKit
set_option linter.unusedVariables false

theorem afterOk_yes {zs : List Int} {rs : List (List Int)} {ws : List Int} (h : afterOk zs rs ws = true) : ∃ us, afterC zs rs ws = true ∧ afterW rs zs ws = some us := by
  unfold afterOk at h
  simp only [Bool.and_eq_true] at h
  obtain ⟨us, hu⟩ := Option.isSome_iff_exists.1 h.2
  exact ⟨us, h.1, hu⟩
theorem afterOk_no {zs : List Int} {rs : List (List Int)} {ws : List Int} (h : afterOk zs rs ws = false) : afterL zs rs ws = [] ∧ ruleWays zs rs ws ≤ 0 := by
  by_cases hc : afterC zs rs ws = true
  · cases ha : afterW rs zs ws with
    | none => exact ⟨(afterL_no ha).1, by rw [ruleWays_yes hc, rways_none ha]; decide⟩
    | some us => rw [(afterL_yes hc ha).2] at h; cases h
  · have hc : afterC zs rs ws = false := by simpa using hc
    exact ⟨(afterL_not hc).1, by rw [ruleWays_no hc]; decide⟩

set_option maxHeartbeats 1600000 in
theorem lawStartOk {A : Option Addr} {n c : Nat} {bs : List Int} {w : World} (h : Bts w w.heap.size A n c bs) :
    Calls Try.prog 4 #[.slice A n c] w fun e w' => e = .returned (.bool true) ∧ Below w.heap.size w w' := by
  have hbig := h.big
  have hle := h.le
  unfold maxLen at hbig
  by_cases hn : 1048576 < n
  · go_enter Try.func4, Try.ntmps4
    go_wp2
    go_ret
    exact ⟨rfl, Below.refl _ _⟩
  · have hD := hide (DrawStartOk_c A n c bs w h)
    obtain ⟨i0, hi, hz0, hz1, hz2⟩ := info_parts infoInt
    go_enter Try.func4, Try.ntmps4
    go_wp2_with fail
    refine hD.out.mono ?_
    rintro e w0 ⟨Azs, nzs, czs, zs, rfl, hzzs, hnzs, hb⟩
    have hlzs := hide hzzs.len
    replace hzzs := hide hzzs
    replace hb := hide hb
    clear hD
    go_wp2_with fail
    refine (startOk_impl _ _ _ _ zs _ hzzs.out (Nat.le_refl _)).mono ?_
    rintro e w1 ⟨rfl, hq⟩
    replace hzzs := hide (hzzs.out.up hq)
    replace hb := hide (upB hb.out (hq))
    clear hq
    go_wp2_with fail
    refine (sameB (startOk_spec _ _ _ _ zs _ hzzs.out)).mono ?_
    rintro e w2 ⟨rfl, hq⟩
    replace hzzs := hide (hzzs.out.up hq)
    replace hb := hide (upB hb.out (hq))
    clear hq
    by_cases hok : startOk zs = true
    · obtain ⟨hu, hz10⟩ := startOk_yes hok
      have hn3 := urnOk_size hu
      rw [hlzs.out] at hn3
      obtain ⟨b, off, z, hA, hbB, hz, hcell⟩ := hzzs.out.look (show 0 < nzs by omega)
      subst hA
      rw [Nat.add_zero] at hcell
      obtain ⟨z0, z1⟩ := hz10 z (List.mem_of_getElem? hz.out)
      have hbl : ballsAt zs 0 = z := ballsAt_eq (by simpa using hz.out)
      have hPk := putOk_mk (k := 0) (m := -z) hu ⟨by omega, by have := hlzs.out; omega⟩ (by rw [hbl]; omega)
      have hPl : putL zs 0 (-z) = zs.set 0 0 := by rw [putL_yes hPk, hbl, Int.add_right_neg]; rfl
      have hS2 : startOk (zs.set 0 0) = true := startOk_mk (urnOk_good (by rw [List.length_set]; have := hlzs.out; omega) (fun j x _ hx => by
          rcases List.mem_or_eq_of_mem_set (List.mem_of_getElem? hx) with h1 | h1
          · have := hz10 x h1; omega
          · omega)) (fun x hx => by
          rcases List.mem_or_eq_of_mem_set hx with h1 | h1
          · have := hz10 x h1; omega
          · omega)
      have hPk := hide hPk
      have hPl := hide hPl
      have hS2 := hide hS2
      have hu := hide hu
      rw [hok]
      clear hbl hz10 hok
      have hw0 := hide (wf_i64 (z := -z) (by omega))
      go_wp2_with fail
      refine (putIn_impl _ _ _ _ zs 0 (-z) _ hzzs.out (Nat.le_refl _) hw0.out).mono ?_
      rw [hPk.out, hPl.out]
      rintro e w3 ⟨Al, nl, cl, rfl, ho, hq⟩
      replace hzzs := hide (hzzs.out.up hq)
      replace hb := hide (upB hb.out (hq))
      have hol := hide (ho.down (Nat.zero_le _))
      clear hq ho
      go_wp2_with fail
      refine (sameB (urnOk_impl _ _ _ _ zs _ hzzs.out)).mono ?_
      rw [hu.out]
      rintro e w4 ⟨rfl, hq⟩
      replace hzzs := hide (hzzs.out.up hq)
      replace hol := hide (hol.out.up hq)
      replace hb := hide (upB hb.out (hq))
      clear hq
      go_wp2_with fail
      refine (startOk_impl _ _ _ _ (zs.set 0 0) _ hol.out.ints (Nat.le_refl _)).mono ?_
      rw [hS2.out]
      rintro e w5 ⟨rfl, hq⟩
      replace hzzs := hide (hzzs.out.up hq)
      replace hol := hide (hol.out.up hq)
      replace hb := hide (upB hb.out (hq))
      clear hq
      go_wp2_with fail
      go_ret
      exact ⟨rfl, hb.out⟩
    · have hok : startOk zs = false := by simpa using hok
      rw [hok]
      clear hok
      go_wp2_with fail
      refine (alive_c _).mono ?_
      rintro e wz ⟨rfl, hq⟩
      go_wp2_with fail
      go_ret
      exact ⟨by simp, upB hb.out hq⟩

set_option maxHeartbeats 1600000 in
theorem lawAfterWord {A : Option Addr} {n c : Nat} {bs : List Int} {w : World} (h : Bts w w.heap.size A n c bs) :
    Calls Try.prog 5 #[.slice A n c] w fun e w' => e = .returned (.bool true) ∧ Below w.heap.size w w' := by
  have hbig := h.big
  have hle := h.le
  unfold maxLen at hbig
  by_cases hn : 1048576 < n
  · go_enter Try.func5, Try.ntmps5
    go_wp2
    go_ret
    exact ⟨rfl, Below.refl _ _⟩
  · have hD := hide (DrawAfterWord_c A n c bs w h)
    obtain ⟨i0, hi, hz0, hz1, hz2⟩ := info_parts infoInt
    go_enter Try.func5, Try.ntmps5
    go_wp2_with fail
    refine hD.out.mono ?_
    rintro e w0 ⟨Azs, nzs, czs, zs, Ars, nrs, crs, rs, Aws, nws, cws, ws, rfl, hzzs, hnzs, hzrs, hnrs, hzws, hnws, hb⟩
    have hlzs := hide hzzs.len
    replace hzzs := hide hzzs
    have hlrs := hide hzrs.len
    replace hzrs := hide hzrs
    have hlws := hide hzws.len
    replace hzws := hide hzws
    replace hb := hide hb
    clear hD
    go_wp2_with fail
    refine (afterWord_impl _ _ _ _ _ _ _ _ _ _ _ _ zs rs ws _ hzzs.out hzrs.out hzws.out (Nat.le_refl _) (Nat.le_refl _) (Nat.le_refl _)).mono ?_
    rintro e w1 ⟨Axs, nxs, cxs, rfl, ho, hq⟩
    replace hzzs := hide (hzzs.out.up hq)
    replace hzrs := hide (hzrs.out.up hq)
    replace hzws := hide (hzws.out.up hq)
    replace hb := hide (upB hb.out (hq))
    have hoxs := hide (ho.down (Nat.zero_le _))
    clear hq ho
    have hlxs := hide hoxs.out.len
    go_wp2_with fail
    refine (afterWord_spec _ _ _ _ _ _ _ _ _ _ _ _ zs rs ws _ hzzs.out hzrs.out hzws.out (Nat.le_refl _) (Nat.le_refl _) (Nat.le_refl _)).mono ?_
    rintro e w2 ⟨Ays, nys, cys, rfl, ho, hq⟩
    replace hzzs := hide (hzzs.out.up hq)
    replace hzrs := hide (hzrs.out.up hq)
    replace hzws := hide (hzws.out.up hq)
    replace hoxs := hide (hoxs.out.up hq)
    replace hb := hide (upB hb.out (hq))
    have hoys := hide (ho.down (Nat.zero_le _))
    clear hq ho
    have hsame := hide (sameL_refl (afterL zs rs ws))
    go_wp2_with fail
    refine (quietB (sameInts_c _ _ _ _ _ _ _ _ (afterL zs rs ws) (afterL zs rs ws) _ hoxs.out.ints hoys.out.ints)).mono ?_
    rw [hsame.out]
    rintro e w3 ⟨rfl, hq⟩
    replace hzzs := hide (hzzs.out.up hq)
    replace hzrs := hide (hzrs.out.up hq)
    replace hzws := hide (hzws.out.up hq)
    replace hoxs := hide (hoxs.out.up hq)
    replace hoys := hide (hoys.out.up hq)
    replace hb := hide (upB hb.out (hq))
    clear hq
    clear hoys
    clear hsame
    by_cases hok : afterOk zs rs ws = true
    · obtain ⟨us, hC, ha⟩ := afterOk_yes hok
      obtain ⟨hu, hz10, hR, hw6, hwm⟩ := afterC_yes hC
      obtain ⟨g1, g2, g3⟩ := afterW_good hR rfl hz10 hwm ha
      have hL := (afterL_yes hC ha).1
      rw [hL] at hlxs hoxs
      have hW := hide (show ruleWays zs rs ws = rways rs zs ws from ruleWays_yes hC)
      have hpos := rways_some ha
      have hu2 := urnOk_size hu
      have huu : urnOk us = true := urnOk_good (by rw [g1]; exact hu2) (fun j x _ hx => by have := g2 x (List.mem_of_getElem? hx); omega)
      have hn3 : nzs ≤ 3 := by have := hlzs.out; omega
      have hn6 : nws ≤ 6 := by have := hlws.out; omega
      have hTu := hide (totalF_ok huu)
      have hTz := hide (totalF_ok hu)
      obtain ⟨t0, t1⟩ := urnOk_sum huu
      obtain ⟨s0, s1⟩ := urnOk_sum hu
      have hev := hide (fun (h : evenOk (nzs : Int) rs = true) => show isum us = isum zs + evenN (nzs : Int) rs * (nws : Int) ∧ -1 ≤ evenN (nzs : Int) rs ∧ evenN (nzs : Int) rs ≤ 9 from by
        obtain ⟨l, hl⟩ : ∃ l, rs[0]? = some l := ⟨_, List.getElem?_eq_getElem (by have := hR.len; have := hR.pos; omega)⟩
        have hE := even_of h
        rw [Int.toNat_natCast, ← hlzs.out] at hE
        have he := evenN_yes h hl
        have hr := row_sum hR hl
        have g4 := g3 _ hE
        unfold rowOf at g4
        rw [hl, Option.getD_some] at g4
        rw [he, g4, hlws.out]
        exact ⟨rfl, hr.2.2⟩)
      rw [hok]
      have huu := hide huu
      clear hok hC ha hu hz10 hR hw6 hwm g1 g2 g3 hL hu2
      go_wp2_with fail
      refine (ruleWays_impl _ _ _ _ _ _ _ _ _ _ _ _ zs rs ws _ hzzs.out hzrs.out hzws.out (Nat.le_refl _) (Nat.le_refl _) (Nat.le_refl _)).mono ?_
      rw [hW.out]
      rintro e w4 ⟨rfl, hq⟩
      replace hzzs := hide (hzzs.out.up hq)
      replace hzrs := hide (hzrs.out.up hq)
      replace hzws := hide (hzws.out.up hq)
      replace hoxs := hide (hoxs.out.up hq)
      replace hb := hide (upB hb.out (hq))
      clear hq
      obtain ⟨V, hV⟩ : ∃ V, Hid (rways rs zs ws = V) := ⟨_, hide rfl⟩
      rw [hV.out] at hpos ⊢
      go_wp2_with fail
      refine (evenRule_impl (nzs : Int) _ _ _ _ rs _ hzrs.out (Nat.le_refl _)).mono ?_
      rintro e w5 ⟨rfl, hq⟩
      replace hzzs := hide (hzzs.out.up hq)
      replace hzrs := hide (hzrs.out.up hq)
      replace hzws := hide (hzws.out.up hq)
      replace hoxs := hide (hoxs.out.up hq)
      replace hb := hide (upB hb.out (hq))
      clear hq
      obtain ⟨T, hT⟩ : ∃ T, Hid (isum zs = T) := ⟨_, hide rfl⟩
      obtain ⟨U, hU⟩ : ∃ U, Hid (isum us = U) := ⟨_, hide rfl⟩
      rw [hT.out] at hev hTz s0 s1
      rw [hU.out] at hev hTu t0 t1
      obtain ⟨M, hM⟩ : ∃ M, Hid (evenN (nzs : Int) rs = M) := ⟨_, hide rfl⟩
      rw [hM.out] at hev ⊢
      by_cases hee : evenOk (nzs : Int) rs = true
      · obtain ⟨e1, e2, e3⟩ := hev.out hee
        rw [hee]
        have hpr : -6 ≤ M * (nws : Int) ∧ M * (nws : Int) ≤ 54 := by
          rcases (show nws = 0 ∨ nws = 1 ∨ nws = 2 ∨ nws = 3 ∨ nws = 4 ∨ nws = 5 ∨ nws = 6 by omega) with h | h | h | h | h | h | h <;> subst h <;> simp <;> omega
        obtain ⟨q0, q1⟩ := hpr
        have hd : (U == T + M * (nws : Int)) = true := by rw [← e1]; simp
        clear hee e1
        go_wp2_with fail
        refine (sameB (urnOk_impl _ _ _ _ us _ hoxs.out.ints)).mono ?_
        rw [huu.out]
        rintro e w6 ⟨rfl, hq⟩
        replace hzzs := hide (hzzs.out.up hq)
        replace hzrs := hide (hzrs.out.up hq)
        replace hzws := hide (hzws.out.up hq)
        replace hoxs := hide (hoxs.out.up hq)
        replace hb := hide (upB hb.out (hq))
        clear hq
        go_wp2_with fail
        refine (sameB (totalOf_impl _ _ _ _ us _ hoxs.out.ints)).mono ?_
        rw [hTu.out]
        rintro e w7 ⟨rfl, hq⟩
        replace hzzs := hide (hzzs.out.up hq)
        replace hzrs := hide (hzrs.out.up hq)
        replace hzws := hide (hzws.out.up hq)
        replace hoxs := hide (hoxs.out.up hq)
        replace hb := hide (upB hb.out (hq))
        clear hq
        go_wp2_with fail
        refine (sameB (totalOf_impl _ _ _ _ zs _ hzzs.out)).mono ?_
        rw [hTz.out]
        rintro e w8 ⟨rfl, hq⟩
        replace hzzs := hide (hzzs.out.up hq)
        replace hzrs := hide (hzrs.out.up hq)
        replace hzws := hide (hzws.out.up hq)
        replace hoxs := hide (hoxs.out.up hq)
        replace hb := hide (upB hb.out (hq))
        clear hq
        go_wp2_with fail
        go_ret
        exact ⟨rfl, hb.out⟩
      · have hee : evenOk (nzs : Int) rs = false := by simpa using hee
        rw [hee]
        clear hee
        go_wp2_with fail
        refine (sameB (urnOk_impl _ _ _ _ us _ hoxs.out.ints)).mono ?_
        rw [huu.out]
        rintro e w9 ⟨rfl, hq⟩
        replace hzzs := hide (hzzs.out.up hq)
        replace hzrs := hide (hzrs.out.up hq)
        replace hzws := hide (hzws.out.up hq)
        replace hoxs := hide (hoxs.out.up hq)
        replace hb := hide (upB hb.out (hq))
        clear hq
        go_wp2_with fail
        go_ret
        exact ⟨rfl, hb.out⟩
    · have hok : afterOk zs rs ws = false := by simpa using hok
      obtain ⟨hL, hle⟩ := afterOk_no hok
      rw [hL] at hlxs hoxs
      obtain rfl : nxs = 0 := hlxs.out
      rw [hok]
      clear hL hok hlxs
      go_wp2_with fail
      refine (ruleWays_impl _ _ _ _ _ _ _ _ _ _ _ _ zs rs ws _ hzzs.out hzrs.out hzws.out (Nat.le_refl _) (Nat.le_refl _) (Nat.le_refl _)).mono ?_
      rintro e w10 ⟨rfl, hq⟩
      replace hzzs := hide (hzzs.out.up hq)
      replace hzrs := hide (hzrs.out.up hq)
      replace hzws := hide (hzws.out.up hq)
      replace hoxs := hide (hoxs.out.up hq)
      replace hb := hide (upB hb.out (hq))
      clear hq
      obtain ⟨V, hV⟩ : ∃ V, Hid (ruleWays zs rs ws = V) := ⟨_, hide rfl⟩
      rw [hV.out] at hle ⊢
      go_wp2_with fail
      refine (alive_c _).mono ?_
      rintro e wz ⟨rfl, hq⟩
      go_wp2_with fail
      go_ret
      exact ⟨by simp, upB hb.out hq⟩
end Go.Proofs.Ythdelfhfglnhfaa
