/-
  Laws of chapter 2 walked: FnCountWays (written by wip/gen_w5.py).
-/
import Derived.Test.YtffllkmaifjpfacZdraw
import Derived.Test.YtffllkmaifjpfacZimp
import Derived.Test.YtffllkmaifjpfacZword
namespace Go.Proofs.Ytffllkmaifjpfac
open Go.RowKit
set_option linter.unusedVariables false

set_option maxHeartbeats 3200000 in
theorem lawCountWays {A : Option Addr} {n c : Nat} {bs : List Int} {w : World} (h : Bts w w.heap.size A n c bs) :
    Calls Try.prog 4 #[.slice A n c] w fun e w' => e = .returned (.bool true) ∧ Below w.heap.size w w' := by
  have hbig := h.big
  have hle := h.le
  unfold maxLen at hbig
  by_cases hn : 1048576 < n
  · go_enter Try.func4, Try.ntmps4
    go_wp2
    go_ret
    exact ⟨rfl, Below.refl _ _⟩
  · have hD := hide (DrawCountWays_c A n c bs w h)
    obtain ⟨i0, hi, hz0, hz1, hz2⟩ := info_parts infoInt
    go_enter Try.func4, Try.ntmps4
    go_wp2_with fail
    refine hD.out.mono ?_
    rintro e w0 ⟨Azs, nzs, czs, zs, Acs, ncs, ccs, cs, rfl, hzzs, hnzs, hzcs, hncs, hb⟩
    have hlzs := hide hzzs.len
    replace hzzs := hide hzzs
    have hlcs := hide hzcs.len
    replace hzcs := hide hzcs
    replace hb := hide hb
    clear hD
    go_wp2_with fail
    refine (countWays_impl _ _ _ _ _ _ _ _ zs cs _ hzzs.out hzcs.out (Nat.le_refl _) (Nat.le_refl _)).mono ?_
    rintro e w1 ⟨rfl, hq⟩
    replace hzzs := hide (hzzs.out.up hq)
    replace hzcs := hide (hzcs.out.up hq)
    replace hb := hide (upB hb.out (hq))
    clear hq
    go_wp2_with fail
    refine (sameB (countWays_spec _ _ _ _ _ _ _ _ zs cs _ hzzs.out hzcs.out)).mono ?_
    rintro e w2 ⟨rfl, hq⟩
    replace hzzs := hide (hzzs.out.up hq)
    replace hzcs := hide (hzcs.out.up hq)
    replace hb := hide (upB hb.out (hq))
    clear hq
    by_cases hok : (urnOk zs && countRowOk (zs.length : Int) cs) = true
    · have he : countWays zs cs = mult cs * prodC zs cs := by unfold countWays; rw [if_pos hok]
      rw [he]
      obtain ⟨hu, hr⟩ := Bool.and_eq_true_iff.1 hok
      obtain ⟨m1, _, _, _⟩ := row_fine hr
      obtain ⟨k1, k2, k3, k4, k5⟩ := countRowOk_yes hr
      have m2b := (mult_bound hr).2
      have hnn : ncs = nzs := by have := hlcs.out; have := hlzs.out; omega
      subst hnn
      have hn3 : 1 ≤ ncs ∧ ncs ≤ 3 := by have := hlcs.out; omega
      have hzm := urnOk_mem hu
      have hEz := hide (fun (k : Nat) z (hx : zs[k]? = some z) => urnOk_elem hu hx)
      have hEc := hide (fun (k : Nat) x (hx : cs[k]? = some x) => k4 x (List.mem_of_getElem? hx))
      have hP0 : 0 ≤ prodC zs cs := prodK_nonneg _ _ _
      have hPz := hide (show prodC zs cs = 0 ↔ ∃ j, j < ncs ∧ zs[j]?.getD 0 < cs[j]?.getD 0 by
        have := prodK_zero (zs := zs) (cs := cs) (fun z hz => (hzm z hz).1) (fun x hx => (k4 x hx).1) (by have := hlcs.out; have := hlzs.out; omega) cs.length (Nat.le_refl _)
        rw [hlcs.out] at this
        unfold prodC
        rw [hlcs.out]; exact this)
      have hPb : mult cs * prodC zs cs ≤ 720 * 4096000000 := by
        refine Int.mul_le_mul m2b ?_ hP0 (by decide)
        unfold prodC
        have h1 := prodK_le hzm k4 cs.length
        rw [List.take_length] at h1
        exact Int.le_trans h1 (pow40_6 _ (by omega))
      have hWW := hide (show wordsWith (ncs : Int) cs = mult cs by unfold wordsWith; rw [show (ncs : Int) = (zs.length : Int) by rw [hlzs.out], if_pos hr])
      obtain ⟨M, hM⟩ : ∃ M, Hid (mult cs = M) := ⟨_, rfl⟩
      obtain ⟨P, hP⟩ : ∃ P, Hid (prodC zs cs = P) := ⟨_, rfl⟩
      rw [hM.out] at m1 m2b hPb hWW ⊢
      rw [hP.out] at hP0 hPz hPb ⊢
      obtain ⟨V, hV⟩ : ∃ V, Hid (M * P = V) := ⟨_, rfl⟩
      have hV0 : 0 ≤ V := by rw [← hV.out]; exact Int.mul_nonneg (by omega) hP0
      have hVz := hide (show V = 0 ↔ ∃ j, j < ncs ∧ zs[j]?.getD 0 < cs[j]?.getD 0 by
        rw [← hPz.out, ← hV.out, Int.mul_eq_zero]
        exact ⟨fun h => h.resolve_left (by omega), .inr⟩)
      have hVm := hide (show V % M = 0 by rw [← hV.out, Int.mul_comm]; exact Int.mul_emod_left _ _)
      rw [hV.out] at hPb ⊢
      clear he hok hu hr k1 k2 k3 k4 k5 hzm hP0
      go_wp2_with fail
      go_loopw [6, 7] (fun y i wr => ∃ k : Nat, ∃ sh : Bool, k ≤ ncs ∧ i = .int .i64 k ∧ y = .bool sh ∧ Hid (sh = true ↔ ∃ j, j < k ∧ zs[j]?.getD 0 < cs[j]?.getD 0) ∧ Hid (Ints wr wr.heap.size Azs ncs czs zs) ∧ Hid (Ints wr wr.heap.size Acs ncs ccs cs) ∧ Hid (Below w.heap.size w wr)) (fun _ i _ => ncs - (intOf i).toNat)
      case atStart => exact ⟨0, false, Nat.zero_le _, rfl, rfl, hide ⟨fun h => (by cases h), fun ⟨j, hj, _⟩ => absurd hj (by omega)⟩, hzzs, hzcs, hb⟩
      case round =>
        clear hzzs hzcs hb
        obtain ⟨k, sh, hk, rfl, rfl, hsh, hzzs, hzcs, hb⟩ := hrel
        by_cases hlt : k < ncs
        · obtain ⟨b, off, x, rfl, hbB, hx, hcell⟩ := hzcs.out.look hlt
          obtain ⟨b', off', z, rfl, hbB', hz, hcell'⟩ := hzzs.out.look hlt
          have hstep := hide (show ∀ sh' : Bool, (sh' = true ↔ sh = true ∨ z < x) → (sh' = true ↔ ∃ j, j < k + 1 ∧ zs[j]?.getD 0 < cs[j]?.getD 0) from fun sh' h => by
            rw [h, hsh.out]
            constructor
            · rintro (⟨j, hj, h1⟩ | h1)
              · exact ⟨j, by omega, h1⟩
              · exact ⟨k, by omega, by rw [hx.out, hz.out]; exact h1⟩
            · rintro ⟨j, hj, h1⟩
              rcases Nat.lt_or_ge j k with hjk | hjk
              · exact .inl ⟨j, hjk, h1⟩
              · obtain rfl : j = k := by omega
                rw [hx.out, hz.out] at h1
                exact .inr h1)
          cases sh with
          | true =>
            have hn1 := hide (hstep.out true (by simp))
            go_wp2_with fail
            go_quiet (fail)
            go_wp2_with fail
            go_roundw
            case rel => exact ⟨k + 1, true, by omega, by go_num, rfl, hide (by have := hn1.out; simpa using this), hide (hzzs.out.drewN _), hide (hzcs.out.drewN _), hide (below_drewN hb.out _)⟩
            case measure => simp [intOf]; omega
          | false =>
            by_cases hzx : z < x
            · have hn1 := hide (hstep.out true (by simp [hzx]))
              have hd : decide (z < x) = true := decide_eq_true hzx
              go_wp2_with fail
              go_quiet (fail)
              go_wp2_with fail
              go_roundw
              case rel => exact ⟨k + 1, true, by omega, by go_num, rfl, hide (by have := hn1.out; simpa using this), hide (hzzs.out.drewN _), hide (hzcs.out.drewN _), hide (below_drewN hb.out _)⟩
              case measure => simp [intOf]; omega
            · have hn1 := hide (hstep.out false (by simp; omega))
              have hd : decide (z < x) = false := decide_eq_false hzx
              go_wp2_with fail
              go_quiet (fail)
              go_wp2_with fail
              go_roundw
              case rel => exact ⟨k + 1, false, by omega, by go_num, rfl, hn1, hide (hzzs.out.drewN _), hide (hzcs.out.drewN _), hide (below_drewN hb.out _)⟩
              case measure => simp [intOf]; omega
        · obtain rfl : k = ncs := by omega
          obtain ⟨ncs, hk0⟩ : ∃ m, m = k := ⟨_, rfl⟩
          subst hk0
          have hsV := (show (V == 0) = sh by
            rw [Bool.eq_iff_iff, hsh.out, ← hVz.out]; simp)
          have hmx : max M 1 = M := by omega
          have hne : (M == 0) = false := by simp; omega
          have hne2 : (M = 0) = False := by simp; omega
          clear hsh
          go_wp2_with fail
          refine (wordsWith_impl (ncs : Int) _ _ _ _ cs _ hzcs.out (Nat.le_refl _)).mono ?_
          rw [hWW.out]
          rintro e w3 ⟨rfl, hq⟩
          replace hzzs := hide (hzzs.out.up hq)
          replace hzcs := hide (hzcs.out.up hq)
          replace hb := hide (upB hb.out (hq))
          clear hq
          go_wp2_with fail
          go_ret
          exact ⟨ret_bool (by rw [hVm.out]; rfl), hb.out⟩
    · have he : countWays zs cs = -1 := by unfold countWays; rw [if_neg hok]
      rw [he]
      clear hok
      go_wp2_with fail
      refine (alive_c _).mono ?_
      rintro e wz ⟨rfl, hq⟩
      go_wp2_with fail
      go_ret
      exact ⟨by simp, upB hb.out hq⟩
end Go.Proofs.Ytffllkmaifjpfac
