/-
  Laws of chapter 2 walked: FnAllWays (written by wip/gen_w7.py).
-/
import Derived.Test.YtffllkmaifjpfabZdraw
import Derived.Test.YtffllkmaifjpfabZimp
import Derived.Test.YtffllkmaifjpfabZword
namespace Go.Proofs.Ytffllkmaifjpfab
open Go.RowKit
set_option linter.unusedVariables false

set_option maxRecDepth 100000 in
set_option maxHeartbeats 3200000 in
theorem lawAllWays {A : Option Addr} {n c : Nat} {bs : List Int} {w : World} (h : Bts w w.heap.size A n c bs) :
    Calls Try.prog 10 #[.slice A n c] w fun e w' => e = .returned (.bool true) ∧ Below w.heap.size w w' := by
  have hbig := h.big
  have hle := h.le
  unfold maxLen at hbig
  by_cases hn : 1048576 < n
  · go_enter Try.func10, Try.ntmps10
    go_wp2
    go_ret
    exact ⟨rfl, Below.refl _ _⟩
  · have hD := hide (DrawAllWays_c A n c bs w h)
    obtain ⟨i0, hi, hz0, hz1, hz2⟩ := info_parts infoInt
    go_enter Try.func10, Try.ntmps10
    go_wp2_with fail
    refine hD.out.mono ?_
    rintro e w0 ⟨Azs, nzs, czs, zs, m, rfl, hzzs, hnzs, hlom, hhim, hb⟩
    have hlzs := hide hzzs.len
    replace hzzs := hide hzzs
    replace hb := hide hb
    clear hD
    go_wp2_with fail
    refine (allWays_impl _ _ _ _ zs m _ hzzs.out (Nat.le_refl _)).mono ?_
    rintro e w1 ⟨rfl, hq⟩
    replace hzzs := hide (hzzs.out.up hq)
    replace hb := hide (upB hb.out (hq))
    clear hq
    go_wp2_with fail
    refine (sameB (allWays_spec _ _ _ _ zs m _ hzzs.out)).mono ?_
    rintro e w2 ⟨rfl, hq⟩
    replace hzzs := hide (hzzs.out.up hq)
    replace hb := hide (upB hb.out (hq))
    clear hq
    by_cases hok : (urnOk zs && decide (0 ≤ m ∧ m ≤ 6)) = true
    · have he : allWays zs m = fall (isum zs) m.toNat := by unfold allWays; rw [if_pos hok]
      obtain ⟨hu, hm⟩ := Bool.and_eq_true_iff.1 hok
      obtain ⟨hm0, hm6⟩ := of_decide_eq_true hm
      obtain ⟨mm, rfl⟩ : ∃ mm : Nat, m = (mm : Int) := ⟨m.toNat, by omega⟩
      have hzm := urnOk_mem hu
      have hn3 := urnOk_size hu
      rw [hlzs.out] at hn3
      obtain ⟨hn1, hn3⟩ := hn3
      have hW1 := words_ways mm hlzs.out hn1 (fun z hz => (hzm z hz).1)
      have hW2 := rows_ways mm hlzs.out hn1 hn3 (by omega) (fun z hz => (hzm z hz).1)
      have hV0 := fall_nonneg (isum zs) mm
      rw [Int.toNat_natCast] at he
      rw [he]
      obtain ⟨V, hV⟩ : ∃ V, Hid (fall (isum zs) mm = V) := ⟨_, rfl⟩
      rw [hV.out] at hW1 hW2 hV0 ⊢
      by_cases h4 : 4 < mm
      · have hd1 : decide ((4 : Int) < (mm : Int)) = true := decide_eq_true (by omega)
        clear he hok hu hm hzm hW1 hW2
        go_wp2_with fail
        refine (alive_c _).mono ?_
        rintro e wz ⟨rfl, hq⟩
        go_wp2_with fail
        go_ret
        exact ⟨by simp <;> omega, upB hb.out hq⟩
      · have h4 : mm ≤ 4 := by omega
        have hP5 : nzs ^ mm ≤ 729 := (pow_le_729 nzs mm hn1 hn3 (by omega)).2
        have hQ5 : (mm + 1) ^ nzs ≤ 125 := Nat.le_trans (Nat.pow_le_pow_left (show mm + 1 ≤ 5 by omega) nzs) (Nat.le_trans (Nat.pow_le_pow_right (by omega) hn3) (by decide))
        have hWP := hide (fun w => lawPow_c nzs mm w hn1 (by omega) (by omega) (by omega))
        have hWQ := hide (fun w => lawPow_c (mm + 1) nzs w (by omega) (by omega) (by omega) (by omega))
        obtain ⟨P, hP⟩ : ∃ P, Hid (nzs ^ mm = P) := ⟨_, rfl⟩
        obtain ⟨Q, hQ⟩ : ∃ Q, Hid ((mm + 1) ^ nzs = Q) := ⟨_, rfl⟩
        rw [hP.out] at hP5 hW1 hWP
        rw [hQ.out] at hQ5 hW2 hWQ
        rw [Int.natCast_add, Int.natCast_one] at hWQ
        have hO1 := hide (fun (q : Nat) w (hq : q ≤ 729) => wordOf_c nzs mm q w hn1 (by omega) (by omega) (by omega))
        have hO2 := hide (fun (q : Nat) w (hq : q ≤ 729) => wordOf_c (mm + 1) nzs q w (by omega) (by omega) (by omega) (by omega))
        rw [Int.natCast_add, Int.natCast_one] at hO2
        have hwo := hide (fun q => show wordWays zs (digs nzs mm q) = ways zs (digs nzs mm q) by
          unfold wordWays; rw [hu, hlzs.out, digs_word hn1 hn3 (by omega)]; rfl)
        have hFb := hide (fun q => show 0 ≤ ways zs (digs nzs mm q) ∧ ways zs (digs nzs mm q) ≤ 4096000000 from ⟨ways_nonneg _ _, by have h1 := ways_le zs (digs nzs mm q) (fun z hz => (hzm z hz).2); rw [digs_len] at h1; exact Int.le_trans h1 (pow40_6 mm (by omega))⟩)
        obtain ⟨F, hF⟩ : ∃ F : Nat → Int, Hid ((fun q => ways zs (digs nzs mm q)) = F) := ⟨_, rfl⟩
        have hFe := hide (fun q => show ways zs (digs nzs mm q) = F q by rw [← hF.out])
        rw [hF.out] at hW1
        have hwo := hide (fun q => (hwo.out q).trans (hFe.out q))
        have hFb := hide (fun q => show 0 ≤ F q ∧ F q ≤ 4096000000 by rw [← hFe.out q]; exact hFb.out q)
        have hSF := hide (fun k => nsum_bounds (n := k) (f := F) (M := 4096000000) (fun q _ => hFb.out q))
        obtain ⟨G, hG⟩ : ∃ G : Nat → Int, Hid ((fun k => if isum (digs (mm + 1) nzs k) = mm then mult (digs (mm + 1) nzs k) * prodC zs (digs (mm + 1) nzs k) else 0) = G) := ⟨_, rfl⟩
        have hGe := hide (fun k => show G k = if isum (digs (mm + 1) nzs k) = mm then mult (digs (mm + 1) nzs k) * prodC zs (digs (mm + 1) nzs k) else 0 by rw [← hG.out])
        rw [hG.out] at hW2
        have hcw := hide (fun k (hs : isum (digs (mm + 1) nzs k) = mm) => show countWays zs (digs (mm + 1) nzs k) = G k by
          rw [hGe.out k, if_pos hs]; unfold countWays; rw [hu, hlzs.out, digs_row hn1 hn3 (by omega) hs]; rfl)
        have hGb := hide (fun k => show 0 ≤ G k ∧ G k ≤ 2949120000000 by
          rw [hGe.out k]
          split
          · next hs =>
            have hr := digs_row (k := k) hn1 hn3 (by omega) hs
            obtain ⟨_, _, _, k4, k5⟩ := countRowOk_yes hr
            obtain ⟨m1, m2⟩ := mult_bound hr
            have hp0 : 0 ≤ prodC zs (digs (mm + 1) nzs k) := prodK_nonneg _ _ _
            have hp1 : prodC zs (digs (mm + 1) nzs k) ≤ 4096000000 := by
              unfold prodC
              have h1 := prodK_le hzm k4 (digs (mm + 1) nzs k).length
              rw [List.take_length] at h1
              exact Int.le_trans h1 (pow40_6 _ (by omega))
            have := mul_bound m1 m2 hp0 hp1
            omega
          · decide)
        have hSG := hide (fun k => nsum_bounds (n := k) (f := G) (M := 2949120000000) (fun q _ => hGb.out q))
        have hdl := hide (fun k => digs_len (mm + 1) nzs k)
        have hdb := hide (fun k j => isum_bounds 4 ((digs (mm + 1) nzs k).take j) (fun x hx => by have := digs_mem (C := mm + 1) (by omega) nzs k x (List.mem_of_mem_take hx); omega))
        have hde := hide (fun (k j : Nat) (x : Int) (hx : (digs (mm + 1) nzs k)[j]? = some x) => show 0 ≤ x ∧ x ≤ 4 by have := digs_mem (C := mm + 1) (by omega) nzs k x (List.mem_of_getElem? hx); omega)
        have hW1 := hide hW1
        have hW2 := hide hW2
        clear he hok hu hm hzm hm0 hm6
        go_wp2_with fail
        go_loopw [6, 7] (fun t i wr => ∃ k : Nat, k ≤ P ∧ i = .int .i64 k ∧ t = .int .i64 (nsum k F) ∧ Hid (Ints wr wr.heap.size Azs nzs czs zs) ∧ Hid (Below w.heap.size w wr)) (fun _ i _ => P - (intOf i).toNat)
        case atStart => exact ⟨0, Nat.zero_le _, rfl, rfl, hzzs, hb⟩
        case round =>
          clear hzzs hb
          obtain ⟨k, hk, rfl, rfl, hzzs, hb⟩ := hrel
          obtain ⟨s0, s1⟩ := hSF.out k
          by_cases hlt : k < P
          · have hst := hide (show nsum (k + 1) F = nsum k F + F k from rfl)
            obtain ⟨f0, f1⟩ := hFb.out k
            go_wp2_with (go_at_call 39; refine (hWP.out _).mono ?_; rintro e w' ⟨rfl, rfl⟩)
            refine (hO1.out k _ (by omega)).mono ?_
            rintro e w3 ⟨Awd, nwd, cwd, rfl, ho, hq⟩
            replace hzzs := hide (hzzs.out.up hq)
            replace hb := hide (upB hb.out (hq))
            have howd := hide (ho.down (Nat.zero_le _))
            clear hq ho
            go_wp2_with fail
            refine (wordWays_impl _ _ _ _ _ _ _ _ zs (digs nzs mm k) _ hzzs.out howd.out.ints (Nat.le_refl _) (Nat.le_refl _)).mono ?_
            rw [hwo.out k]
            rintro e w4 ⟨rfl, hq⟩
            replace hzzs := hide (hzzs.out.up hq)
            replace howd := hide (howd.out.up hq)
            replace hb := hide (upB hb.out (hq))
            clear hq
            clear howd
            go_wp2_with fail
            go_roundw
            case rel => exact ⟨k + 1, by omega, by go_num, by rw [hst.out], hzzs, hb⟩
            case measure => simp [intOf]; omega
          · obtain rfl : k = P := by omega
            rw [hW1.out]
            clear s0 s1 hlt hk
            go_wp2_with (go_at_call 39; refine (hWP.out _).mono ?_; rintro e w' ⟨rfl, rfl⟩)
            go_loopw [8, 9] (fun t i wr => ∃ k : Nat, k ≤ Q ∧ i = .int .i64 k ∧ t = .int .i64 (nsum k G) ∧ Hid (Ints wr wr.heap.size Azs nzs czs zs) ∧ Hid (Below w.heap.size w wr)) (fun _ i _ => Q - (intOf i).toNat)
            case atStart => exact ⟨0, Nat.zero_le _, rfl, rfl, hzzs, hb⟩
            case round =>
              clear hzzs hb
              obtain ⟨q, hq, rfl, rfl, hzzs, hb⟩ := hrel
              obtain ⟨s0, s1⟩ := hSG.out q
              by_cases hlt : q < Q
              · have hst := hide (show nsum (q + 1) G = nsum q G + G q from rfl)
                obtain ⟨g0, g1⟩ := hGb.out q
                go_wp2_with (go_at_call 39; refine (hWQ.out _).mono ?_; rintro e w' ⟨rfl, rfl⟩)
                refine (hO2.out q _ (by omega)).mono ?_
                rintro e w5 ⟨Act, nct, cct, rfl, ho, hq⟩
                replace hzzs := hide (hzzs.out.up hq)
                replace hb := hide (upB hb.out (hq))
                have hoct := hide (ho.down (Nat.zero_le _))
                clear hq ho
                have hlct := hide (hoct.out.len.trans (hdl.out q))
                have hnct : nzs = nct := hlct.out.symm
                subst hnct
                go_wp2_with fail
                go_loopw [11, 12] (fun t i wr => ∃ j : Nat, j ≤ nzs ∧ i = .int .i64 j ∧ t = .int .i64 (isum ((digs (mm + 1) nzs q).take j)) ∧ Hid (Ints wr wr.heap.size Azs nzs czs zs) ∧ Hid (Own wr 0 (.slice Act nzs cct) (digs (mm + 1) nzs q)) ∧ Hid (Below w.heap.size w wr)) (fun _ i _ => nzs - (intOf i).toNat)
                case atStart => exact ⟨0, Nat.zero_le _, rfl, rfl, hzzs, hoct, hb⟩
                case round =>
                  clear hzzs hoct hb
                  obtain ⟨j, hj, rfl, rfl, hzzs, hoct, hb⟩ := hrel
                  obtain ⟨t0, t1⟩ := hdb.out q j
                  rw [List.length_take] at t1
                  by_cases hjt : j < nzs
                  · obtain ⟨b, off, x, rfl, hbB, hx, hcell⟩ := hoct.out.ints.look hjt
                    obtain ⟨x0, x4⟩ := hde.out q j x hx.out
                    have hsj := hide (isum_take_succ hx.out)
                    have hld := hide (hdl.out q)
                    have t2 : isum ((digs (mm + 1) nzs q).take j) ≤ 4000 := by have := hld.out; omega
                    go_wp2_with fail
                    go_roundw
                    case rel => exact ⟨j + 1, by omega, by go_num, by rw [hsj.out], hzzs, hoct, hb⟩
                    case measure => simp [intOf]; omega
                  · obtain rfl : j = nzs := by omega
                    have eT : isum ((digs (mm + 1) j q).take j) = isum (digs (mm + 1) j q) := by rw [List.take_of_length_le (by have := hdl.out q; omega)]
                    rw [eT] at t0 t1 ⊢
                    clear eT
                    by_cases hs : isum (digs (mm + 1) j q) = (mm : Int)
                    · have hcq := hide (hcw.out q hs)
                      rw [hs] at t0 t1 ⊢
                      clear hs
                      go_wp2_with fail
                      refine (countWays_impl _ _ _ _ _ _ _ _ zs (digs (mm + 1) j q) _ hzzs.out hoct.out.ints (Nat.le_refl _) (Nat.le_refl _)).mono ?_
                      rw [hcq.out]
                      rintro e w6 ⟨rfl, hq⟩
                      replace hzzs := hide (hzzs.out.up hq)
                      replace hoct := hide (hoct.out.up hq)
                      replace hb := hide (upB hb.out (hq))
                      clear hq
                      clear hoct
                      go_wp2_with fail
                      go_roundw
                      case rel => exact ⟨q + 1, by omega, by go_num, by rw [hst.out], hzzs, hb⟩
                      case measure => simp [intOf]; omega
                    · have hGz := hide (show G q = 0 by rw [hGe.out q, if_neg hs])
                      rw [hGz.out, Int.add_zero] at hst
                      have hd : (isum (digs (mm + 1) j q) == (mm : Int)) = false := by simpa using hs
                      clear hs
                      go_wp2_with fail
                      go_roundw
                      case rel => exact ⟨q + 1, by omega, by go_num, by rw [hst.out], hzzs, hb⟩
                      case measure => simp [intOf]; omega
              · obtain rfl : q = Q := by omega
                rw [hW2.out]
                clear s0 s1 hlt hq
                go_wp2_with (go_at_call 39; refine (hWQ.out _).mono ?_; rintro e w' ⟨rfl, rfl⟩)
                go_ret
                exact ⟨by simp, hb.out⟩
    · have he : allWays zs m = -1 := by unfold allWays; rw [if_neg hok]
      rw [he]
      clear hok
      go_wp2_with fail
      refine (alive_c _).mono ?_
      rintro e wz ⟨rfl, hq⟩
      go_wp2_with fail
      go_ret
      exact ⟨by simp, upB hb.out hq⟩
end Go.Proofs.Ytffllkmaifjpfab
