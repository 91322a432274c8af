/-
  Laws of chapter 9 walked: FnTermAny (written by wip/gen_z6.py).
-/
import Derived.Test.YtffllkmaifjpfaaLawY6
namespace Go.Proofs.Ytffllkmaifjpfaa
open Go.RowKit
set_option linter.unusedVariables false

theorem ownK_empty' {w : World} {base g : Nat} (hg : g = w.heap.size) (hb : base ≤ w.heap.size) : OwnK (w.alloc (.cells #[] 29)) base (.slice (some ⟨g, 0, none⟩) 0 0) [] := by
  subst hg; exact ownK_empty hb
set_option maxRecDepth 100000 in
set_option maxHeartbeats 6400000 in
theorem lawTermAny {A : Option Addr} {n c : Nat} {bs : List Int} {w : World} (h : Bts w w.heap.size A n c bs) :
    Calls Try.prog 10 #[.slice A n c] w fun e w' => e = .returned (.bool true) ∧ Below w.heap.size w w' := by
  have hbig := h.big
  have hle := h.le
  unfold maxLen at hbig
  by_cases hn : 1048576 < n
  · go_enter Try.func10, Try.ntmps10
    go_wp2
    go_ret
    exact ⟨rfl, Below.refl _ _⟩
  · have hD := hide (DrawTermWays_c A n c bs w h)
    obtain ⟨i0, hi, hz0, hz1, hz2⟩ := info_parts infoInt
    go_enter Try.func10, Try.ntmps10
    go_wp2_with fail
    refine hD.out.mono ?_
    rintro e w0 ⟨Azs, nzs, czs, zs, Ars, nrs, crs, rs, Ats, nts, cts, ts, rfl, hzzs, hnzs, hzrs, hnrs, hzts, hnts, hb⟩
    have hlzs := hide hzzs.len
    replace hzzs := hide hzzs
    have hlrs := hide hzrs.len
    replace hzrs := hide hzrs
    have hlts := hide hzts.len
    replace hzts := hide hzts
    replace hb := hide hb
    clear hD
    have hn20 : nts ≤ 1048576 := by omega
    obtain ⟨i1, hi1, hy0, hy1, hy2⟩ := infoMark_parts
    have hw0 := wf_i64 (z := 0) (by omega)
    have hw1 := wf_i64 (z := 1) (by omega)
    have hw2 := wf_i64 (z := 2) (by omega)
    obtain ⟨v, hv⟩ : ∃ v, Hid (termW zs rs ts = v) := ⟨_, hide rfl⟩
    go_wp2_with fail
    refine (termWays_spec _ _ _ _ _ _ _ _ _ _ _ _ zs rs ts _ hzzs.out hzrs.out hzts.out (Nat.le_refl _) (Nat.le_refl _) (Nat.le_refl _) hn20).mono ?_
    rw [hv.out]
    rintro e w1 ⟨rfl, hq⟩
    replace hzzs := hide (hzzs.out.up hq)
    replace hzrs := hide (hzrs.out.up hq)
    replace hzts := hide (hzts.out.up hq)
    replace hb := hide (upB hb.out (hq))
    clear hq
    rcases termW_cases zs rs ts with hbad | ⟨x, hbg, hok, hx, hgood⟩
    · rw [hv.out] at hbad
      subst hbad
      go_wp2_with fail
      refine (termWays_impl _ _ _ _ _ _ _ _ _ _ _ _ zs rs ts _ hzzs.out hzrs.out hzts.out (Nat.le_refl _) (Nat.le_refl _) (Nat.le_refl _) hn20).mono ?_
      rw [hv.out]
      rintro e w2 ⟨rfl, hq⟩
      replace hzzs := hide (hzzs.out.up hq)
      replace hzrs := hide (hzrs.out.up hq)
      replace hzts := hide (hzts.out.up hq)
      replace hb := hide (upB hb.out (hq))
      clear hq
      go_wp2_with fail
      refine (alive_c _).mono ?_
      rintro e wz ⟨rfl, hq⟩
      go_wp2_with fail
      go_ret
      exact ⟨by simp, upB hb.out hq⟩
    ·
      obtain ⟨hC1, hC3, h15, -⟩ := termOk_yes hok
      obtain ⟨-, hz10, hru⟩ := begun_yes hbg
      have hlz := hlzs.out
      rw [hlz] at hru hC1 hC3 hok hx
      have hL6 := ln_le x hx.1
      have hL1 := ln_pos x
      have hle := termN_le hru x hlz
      rw [hlz] at hgood
      rw [hv.out] at hgood
      rw [← hgood] at hle
      have hv0 : 0 ≤ v := hle.1
      have el := hide (lenT_in hok hx)
      have hst : startOk zs = true := by unfold begun at hbg; exact (Bool.and_eq_true_iff.1 hbg).1
      obtain ⟨m, hm⟩ : ∃ m, ln x = m + 1 := ⟨ln x - 1, by omega⟩
      rw [hm] at el
      have hm5 : m ≤ 5 := by omega
      have era := hide (show ruleAll zs rs ((m : Int) + 1) = rall rs (m + 1) zs by unfold ruleAll; rw [hbg, decide_eq_true (show 0 ≤ (m : Int) + 1 ∧ (m : Int) + 1 ≤ 6 by omega), show ((m : Int) + 1).toNat = m + 1 by omega]; rfl)
      have hRB := rall_bound hru (m + 1) hlz hz10 (by omega)
      have hp84 := pow84 (m + 1) (by omega)
      obtain ⟨R, hR⟩ : ∃ R, Hid (rall rs (m + 1) zs = R) := ⟨_, hide rfl⟩
      rw [hR.out] at era hRB
      obtain ⟨R0, R1⟩ := hRB
      have HA := hide (show termW zs rs (flat (anyT m)) = R from (termW_on hlz hst hru (termOk_mk (C := (nzs : Int)) (by omega) (by omega) (by rw [anyT_size]; omega) ⟨anyT_good _ m hm5, rfl⟩) ⟨anyT_good _ m hm5, rfl⟩).trans ((termN_any hru m hlz).trans hR.out))
      have HC := hide (fun (c : Nat) (hc : c < nzs) => termW_on hlz hst hru (termOk_mk (C := (nzs : Int)) (by omega) (by omega) (by rw [lastT_size c m]; omega) ⟨lastT_good _ c m hm5 (by omega), rfl⟩) ⟨lastT_good _ c m hm5 (by omega), rfl⟩)
      have HS := hide ((termN_last hru m hlz).trans hR.out)
      have HB := hide (fun (c : Nat) => (show 0 ≤ termN nzs (lastT c m) rs zs ∧ termN nzs (lastT c m) rs zs ≤ R by have := termN_le hru (lastT c m) hlz; rw [lastT_ln, hR.out] at this; exact this))
      have HN := hide (fun (k : Nat) => nsum_bounds (n := k) (f := fun c => termN nzs (lastT c m) rs zs) (M := R) (fun c _ => HB.out c))
      have hAS := hide (fun (j : Nat) => anyT_flat j)
      have hAZ := hide (fun (j : Nat) => anyT_size j)
      have hLF := hide (fun (c j : Nat) => lastT_flat c j)
      have hwx := wf_i64 (z := (nzs : Int)) (by omega)
      have hC3n : nzs ≤ 3 := by omega
      have R2 : R ≤ 351298031616 := Int.le_trans R1 hp84
      clear hok hx hru h15 hbg hst hgood hle hlz hn hlzs hz10 hm hR hL6 hL1 R1 hp84 hC1 hC3
      go_wp2_with fail
      refine (lengthOf_impl (nzs : Int) _ _ _ _ ts _ hzts.out (Nat.le_refl _) hn20 hwx).mono ?_
      rw [el.out]
      rintro e w3 ⟨rfl, hq⟩
      replace hzzs := hide (hzzs.out.up hq)
      replace hzrs := hide (hzrs.out.up hq)
      replace hzts := hide (hzts.out.up hq)
      replace hb := hide (upB hb.out (hq))
      clear hq
      clear el
      clear hzts
      clear hlts hn20 hnts
      have hoany := hide (show OwnK (w3.alloc (.cells #[.int .i64 1, .int .i64 0] 29)) w3.heap.size (.slice (some ⟨w3.heap.size, 0, none⟩) 1 1) (flat (anyT 0)) from ownK_lit1 hw1 hw0)
      have hbq := hide (al w3 (.cells #[.int .i64 1, .int .i64 0] 29))
      go_wp2_with fail
      go_loopw [7, 8] (fun v i wr => ∃ k d : Nat, ∃ B f, k ≤ m ∧ d = 2 * k + 1 ∧ i = .int .i64 ((k : Int) + 1) ∧ v = .slice B d f ∧ Hid (OwnK wr w3.heap.size (.slice B d f) (flat (anyT k))) ∧ Hid (Below w3.heap.size w3 wr)) (fun _ i _ => m + 1 - (intOf i).toNat)
      case atStart => exact ⟨0, 1, _, _, Nat.zero_le _, rfl, rfl, rfl, hoany, hbq⟩
      case round =>
        clear hoany hbq
        obtain ⟨k, d, B, f, hk, hd, rfl, rfl, hoany, hbq⟩ := hrel
        have hbs := hbq.out.size
        by_cases hlt : k < m
        · have hd2 := hide hd
          clear hd
          have hol := hide hoany.out.len
          go_wp2_with (at_builtin; refine wpList_appK _ rfl _ _ 23 rfl i1 Try.underlying23 hi1 hy0 hy1 hy2 _ (flat (anyT k)) rfl (hoany.out.alloc _) _ 2 2 _ [(1, 0), (2, 0)] rfl (marks_lit2 hw1 hw0 hw2 hw0).marks (by simp <;> omega) (by have := hol.out; have := hd2.out; omega) ?_; intro A₃ n₃ c₃ wq3 ho3 hg3; have hb3 := hide ((hbq.out.alloc hbs _).grown hg3 (by simp <;> omega) (fun j hj => (hoany.out.row.lt j hj).1)); have ho3 := hide (show OwnK wq3 w3.heap.size (.slice A₃ n₃ c₃) (flat (anyT (k + 1))) by rw [hAS.out]; exact ho3); clear hg3)
          have hn3 := hide (show n₃ = 2 * (k + 1) + 1 by rw [ho3.out.len, hAZ.out])
          go_roundw
          case rel => exact ⟨k + 1, n₃, _, _, by omega, hn3.out, by go_num, rfl, ho3, hb3⟩
          case measure => simp [intOf]; omega
        · obtain rfl : m = k := by omega
          replace hd := hide hd
          replace hzzs := hide (hzzs.out.up hbq.out)
          replace hzrs := hide (hzrs.out.up hbq.out)
          replace hb := hide (upB hb.out (hbq.out))
          have hzany := hide hoany.out.marks
          clear hoany hbq
          have hsum0 := hide (show (0 : Int) = nsum 0 (fun c => termN nzs (lastT c m) rs zs) from rfl)
          go_wp2_with fail
          go_loopw [9, 10] (fun t i wr => ∃ k : Nat, ∃ Z : Int, k ≤ nzs ∧ i = .int .i64 (k : Int) ∧ t = .int .i64 Z ∧ Hid (Z = nsum k (fun c => termN nzs (lastT c m) rs zs)) ∧ Hid (Ints wr wr.heap.size Azs nzs czs zs) ∧ Hid (Mat wr wr.heap.size Ars nrs crs rs) ∧ Hid (Marks wr wr.heap.size B d f (flat (anyT m))) ∧ Hid (Below w.heap.size w wr)) (fun _ i _ => nzs - (intOf i).toNat)
          case atStart => exact ⟨0, 0, Nat.zero_le _, rfl, rfl, hsum0, hzzs, hzrs, hzany, hb⟩
          case round =>
            clear hsum0 hzzs hzrs hzany hb
            obtain ⟨k, Z, hk, rfl, rfl, hZ, hzzs, hzrs, hzany, hb⟩ := hrel
            have hZB := HN.out k
            rw [← hZ.out] at hZB
            obtain ⟨Z0, Z1⟩ := hZB
            have hZ2 : Z ≤ 2000000000000 := by
              have h1 : R * (k : Int) ≤ R * 3 := Int.mul_le_mul_of_nonneg_left (by omega) R0
              omega
            by_cases hlt : k < nzs
            · have hwk := wf_i64 (z := (k : Int)) (by omega)
              have hTk := hide (HC.out k hlt)
              have hTB := HB.out k
              have hZn := hide (show Z + termN nzs (lastT k m) rs zs = nsum (k + 1) (fun c => termN nzs (lastT c m) rs zs) by rw [hZ.out]; rfl)
              obtain ⟨T, hT⟩ : ∃ T, Hid (termN nzs (lastT k m) rs zs = T) := ⟨_, hide rfl⟩
              rw [hT.out] at hTk hTB hZn
              obtain ⟨T0, T1⟩ := hTB
              clear Z1
              rcases Nat.eq_zero_or_pos m with hm0 | hm0
              · have hl0 := hide (show [((0 : Int), (k : Int))] = flat (lastT k m) by rw [hm0]; rfl)
                have hmi : (m : Int) ≤ 0 := by omega
                clear hm0
                have holast := hide (show Marks (wr.alloc (.cells #[.int .i64 0, .int .i64 (k : Int)] 29)) (wr.heap.size + 1) (some ⟨wr.heap.size, 0, none⟩) 1 1 (flat (lastT k m)) from hl0.out ▸ marks_lit1 hw0 hwk)
                replace hzzs := hide (hzzs.out.up (al wr (.cells #[.int .i64 0, .int .i64 (k : Int)] 29)))
                replace hzrs := hide (hzrs.out.up (al wr (.cells #[.int .i64 0, .int .i64 (k : Int)] 29)))
                replace hzany := hide (hzany.out.up (al wr (.cells #[.int .i64 0, .int .i64 (k : Int)] 29)))
                replace hb := hide (upB hb.out ((al wr (.cells #[.int .i64 0, .int .i64 (k : Int)] 29))))
                have hzlast := hide (show Marks (wr.alloc (.cells #[.int .i64 0, .int .i64 (k : Int)] 29)) (wr.alloc (.cells #[.int .i64 0, .int .i64 (k : Int)] 29)).heap.size (some ⟨wr.heap.size, 0, none⟩) 1 1 (flat (lastT k m)) from holast.out.more (by simp))
                clear holast
                go_wp2_with fail
                refine (termWays_impl _ _ _ _ _ _ _ _ _ _ _ _ zs rs (flat (lastT k m)) _ hzzs.out hzrs.out hzlast.out (Nat.le_refl _) (Nat.le_refl _) (Nat.le_refl _) (by omega)).mono ?_
                rw [hTk.out]
                rintro e w4 ⟨rfl, hq⟩
                replace hzzs := hide (hzzs.out.up hq)
                replace hzrs := hide (hzrs.out.up hq)
                replace hzany := hide (hzany.out.up hq)
                replace hzlast := hide (hzlast.out.up hq)
                replace hb := hide (upB hb.out (hq))
                clear hq
                clear hzlast
                have hnz5 := hide hZn.out
                go_wp2_with fail
                go_roundw
                case rel => exact ⟨k + 1, Z + T, by omega, by go_num, by go_num, hZn, hzzs, hzrs, hzany, hb⟩
                case measure => simp [intOf]; omega
              ·
                obtain ⟨q, hqm⟩ : ∃ q, m = q + 1 := ⟨m - 1, by omega⟩
                have hmi : 1 < (m : Int) + 1 := by omega
                have hq2 : (d : Int) - 2 = ((2 * q + 1 : Nat) : Int) := by have := hd.out; omega
                have hdq : 2 * q + 1 ≤ d := by have := hd.out; omega
                have hdl := hide hzany.out.len
                have hle1 := hzany.out.le
                have htk := hide (show (flat (anyT m)).take (2 * q + 1) = flat (anyT q) by rw [hqm, hAS.out, List.take_left' (hAZ.out q)])
                have hlf := hide (show flat (lastT k m) = flat (anyT q) ++ [(0, (k : Int)), (2, 0)] by rw [hqm, hLF.out])
                have hq5 : q ≤ 5 := by omega
                clear hqm hm0
                obtain ⟨bA, oA, x1, y1, rfl, hbA, hxA, hcA, hcB⟩ := hzany.out.look (show 0 < d by omega)
                clear hcA hcB hxA
                have hzsrc := hide ((((hzany.out.alloc (Nat.le_refl _) (.cells #[.int .i64 0, .int .i64 (k : Int)] 29)).alloc (by simp) (.cells #[] 29))).takeS hdq)
                rw [htk.out] at hzsrc
                go_wp2_with (first
                  | (at_builtin; refine wpList_appK _ rfl _ _ 23 rfl i1 Try.underlying23 hi1 hy0 hy1 hy2 _ [] rfl (ownK_empty' (w := wr.alloc (.cells #[.int .i64 0, .int .i64 (k : Int)] 29)) (base := wr.heap.size) (g := wr.heap.size + 1) (by simp) (by simp)) _ (2 * q + 1) f wr.heap.size (flat (anyT q)) rfl hzsrc.out (by simp <;> omega) (by simp <;> omega) ?_; intro A₃ n₃ c₃ wq3 ho3 hg3; have hb3 := hide (((al wr (.cells #[.int .i64 0, .int .i64 (k : Int)] 29)).alloc (by simp) (.cells #[] 29)).grown hg3 (by simp <;> omega) (fun j hj => ((ownK_empty' (w := wr.alloc (.cells #[.int .i64 0, .int .i64 (k : Int)] 29)) (base := wr.heap.size) (g := wr.heap.size + 1) (by simp) (by simp)).row.lt j hj).1)); replace ho3 := hide ho3; rw [List.nil_append] at ho3; have hs3 := hb3.out.size; clear hg3)
                  | (at_builtin; refine wpList_appK _ rfl _ _ 23 rfl i1 Try.underlying23 hi1 hy0 hy1 hy2 _ _ rfl (ho3.out.alloc _) _ 2 2 _ [(0, (k : Int)), (2, 0)] rfl (marks_lit2 hw0 hwk hw2 hw0).marks (by simp <;> omega) (by rw [hAZ.out]; omega) ?_; intro A₄ n₄ c₄ wq4 ho4 hg4; have hb4 := hide ((hb3.out.alloc hs3 _).grown hg4 (by simp <;> omega) (fun j hj => (ho3.out.row.lt j hj).1)); have ho4 := hide (show OwnK wq4 wr.heap.size (.slice A₄ n₄ c₄) (flat (lastT k m)) by rw [hlf.out]; exact ho4); clear hg4 ho3 hb3))
                replace hzzs := hide (hzzs.out.up hb4.out)
                replace hzrs := hide (hzrs.out.up hb4.out)
                replace hzany := hide (hzany.out.up hb4.out)
                replace hb := hide (upB hb.out (hb4.out))
                have hzlast := hide ho4.out.marks
                have hnlast : n₄ ≤ 1048576 := by have := ho4.out.len; rw [lastT_size] at this; omega
                clear ho4 hb4 hzsrc
                refine (termWays_impl _ _ _ _ _ _ _ _ _ _ _ _ zs rs (flat (lastT k m)) _ hzzs.out hzrs.out hzlast.out (Nat.le_refl _) (Nat.le_refl _) (Nat.le_refl _) hnlast).mono ?_
                rw [hTk.out]
                rintro e w5 ⟨rfl, hq⟩
                replace hzzs := hide (hzzs.out.up hq)
                replace hzrs := hide (hzrs.out.up hq)
                replace hzany := hide (hzany.out.up hq)
                replace hzlast := hide (hzlast.out.up hq)
                replace hb := hide (upB hb.out (hq))
                clear hq
                clear hzlast
                have hnz5 := hide hZn.out
                go_wp2_with fail
                go_roundw
                case rel => exact ⟨k + 1, Z + T, by omega, by go_num, by go_num, hZn, hzzs, hzrs, hzany, hb⟩
                case measure => simp [intOf]; omega
            · obtain rfl : k = nzs := by omega
              have hZR : Z = R := hZ.out.trans HS.out
              subst hZR
              go_wp2_with fail
              obtain ⟨nzs, hk0⟩ : ∃ m, m = k := ⟨_, rfl⟩
              subst hk0
              have hnany : d ≤ 1048576 := by have := hd.out; omega
              refine (ruleAll_impl _ _ _ _ _ _ _ _ zs rs _ _ hzzs.out hzrs.out (Nat.le_refl _) (Nat.le_refl _)).mono ?_
              rw [era.out]
              rintro e w6 ⟨rfl, hq⟩
              replace hzzs := hide (hzzs.out.up hq)
              replace hzrs := hide (hzrs.out.up hq)
              replace hzany := hide (hzany.out.up hq)
              replace hb := hide (upB hb.out (hq))
              clear hq
              go_wp2_with fail
              refine (alive_c _).mono ?_
              rintro e wy ⟨rfl, hq⟩
              replace hzzs := hide (hzzs.out.up hq)
              replace hzrs := hide (hzrs.out.up hq)
              replace hzany := hide (hzany.out.up hq)
              replace hb := hide (upB hb.out (hq))
              clear hq
              go_wp2_with fail
              refine (termWays_impl _ _ _ _ _ _ _ _ _ _ _ _ zs rs (flat (anyT m)) _ hzzs.out hzrs.out hzany.out (Nat.le_refl _) (Nat.le_refl _) (Nat.le_refl _) hnany).mono ?_
              rw [HA.out]
              rintro e w7 ⟨rfl, hq⟩
              replace hzzs := hide (hzzs.out.up hq)
              replace hzrs := hide (hzrs.out.up hq)
              replace hzany := hide (hzany.out.up hq)
              replace hb := hide (upB hb.out (hq))
              clear hq
              go_wp2_with fail
              go_ret
              exact ⟨by simp, hb.out⟩
end Go.Proofs.Ytffllkmaifjpfaa
