/-
  Laws of chapter 5 walked: FnSameAll (written by wip/gen_s3.py).
-/
import Derived.Test.YtffllkmaifjpfacZdraw
import Derived.Test.YtffllkmaifjpfacZruled
import Derived.Test.YtffllkmaifjpfacSameI
import Derived.Test.YtffllkmaifjpfacZsame
import Derived.Test.YtffllkmaifjpfacZrows
import Derived.Test.YtffllkmaifjpfacRuleI
import Derived.Test.YtffllkmaifjpfacZback
import Derived.Test.YtffllkmaifjpfacZimp
import Derived.Test.YtffllkmaifjpfacZoks
namespace Go.Proofs.Ytffllkmaifjpfac
open Go.RowKit
set_option linter.unusedVariables false

set_option maxHeartbeats 6400000 in
theorem lawSameAll {A : Option Addr} {n c : Nat} {bs : List Int} {w : World} (h : Bts w w.heap.size A n c bs) :
    Calls Try.prog 10 #[.slice A n c] w fun e w' => e = .returned (.bool true) ∧ Below w.heap.size w w' := by
  have hbig := h.big
  have hle := h.le
  unfold maxLen at hbig
  by_cases hn : 1048576 < n
  · go_enter Try.func10, Try.ntmps10
    go_wp2
    go_ret
    exact ⟨rfl, Below.refl _ _⟩
  · have hD := hide (DrawSameCounts_c A n c bs w h)
    obtain ⟨i0, hi, hz0, hz1, hz2⟩ := info_parts infoInt
    go_enter Try.func10, Try.ntmps10
    go_wp2_with fail
    refine hD.out.mono ?_
    rintro e w0 ⟨Azs, nzs, czs, zs, Acs, ncs, ccs, cs, s, rfl, hzzs, hnzs, hzcs, hncs, hlos, hhis, hb⟩
    have hlzs := hide hzzs.len
    replace hzzs := hide hzzs
    have hlcs := hide hzcs.len
    replace hzcs := hide hzcs
    replace hb := hide hb
    clear hD
    have hws := wf_i64 (z := s) (by omega)
    go_wp2_with fail
    refine (quietB (sameCounts_spec _ _ _ _ _ _ _ _ zs cs s _ hzzs.out hzcs.out)).mono ?_
    rintro e w1 ⟨rfl, hq⟩
    replace hzzs := hide (hzzs.out.up hq)
    replace hzcs := hide (hzcs.out.up hq)
    replace hb := hide (upB hb.out (hq))
    clear hq
    by_cases hok : (startOk zs && countRowOk (zs.length : Int) cs && stepB s) = true
    · have he : sameCounts zs s cs = mult cs * risK s zs cs cs.length := by unfold sameCounts; rw [if_pos hok]
      obtain ⟨hok2, hsB⟩ := Bool.and_eq_true_iff.1 hok
      obtain ⟨hst, hr⟩ := Bool.and_eq_true_iff.1 hok2
      obtain ⟨s0, s1⟩ := stepB_yes hsB
      obtain ⟨hu, hz10⟩ := startOk_yes hst
      obtain ⟨m1, m2b⟩ := mult_bound hr
      obtain ⟨k1, k2, k3, k4, k5⟩ := countRowOk_yes hr
      have hnn : nzs = ncs := by have := hlcs.out; have := hlzs.out; omega
      subst hnn
      have hn1 : 1 ≤ nzs := by have := hlcs.out; omega
      have hn3 : nzs ≤ 3 := by have := hlcs.out; omega
      have hR := sameR_rule (C := nzs) (s := s) hn1 hn3 ⟨s0, s1⟩
      have hEc := hide (fun (k : Nat) x (hx : cs[k]? = some x) => k4 x (List.mem_of_getElem? hx))
      have hTk := hide (fun k => isum_bounds 6 (cs.take k) (fun x hx => k4 x (List.mem_of_mem_take hx)))
      have hTl := hide (fun k => show (cs.take k).length ≤ 3 from Nat.le_trans (List.length_take_le' _ _) (by have := hlcs.out; omega))
      obtain ⟨p0, p1⟩ := risK_bound s1 hz10 hr cs.length
      obtain ⟨mm, hmm⟩ : ∃ mm : Nat, isum cs = (mm : Int) := ⟨(isum cs).toNat, by have := (isum_bounds 6 cs k4).1; omega⟩
      have hm6 : mm ≤ 6 := by omega
      have hmc := hide hmm
      have hW2 := rows_same (s := s) mm hlzs.out hn1 hn3 ⟨s0, s1⟩ hm6
      have hRA := hide (show ruleAll zs (sameR nzs s) (mm : Int) = rall (sameR nzs s) mm zs from by
        unfold ruleAll begun
        rw [hst, hlzs.out, ruleOk_mk hR, decide_eq_true (show 0 ≤ (mm : Int) ∧ (mm : Int) ≤ 6 by omega)]; rfl)
      have hSR := hide (sameRule_yes (C := nzs) (s := s) ⟨hn1, hn3⟩ ⟨s0, s1⟩)
      have hV0 : 0 ≤ mult cs * risK s zs cs cs.length := Int.mul_nonneg m1 p0
      rw [he]
      obtain ⟨V, hV⟩ : ∃ V, Hid (mult cs * risK s zs cs cs.length = V) := ⟨_, hide rfl⟩
      rw [hV.out] at hV0 ⊢
      obtain ⟨A, hA⟩ : ∃ A, Hid (rall (sameR nzs s) mm zs = A) := ⟨_, hide rfl⟩
      rw [hA.out] at hW2 hRA
      have hQ5 : (mm + 1) ^ nzs ≤ 343 := Nat.le_trans (Nat.pow_le_pow_left (show mm + 1 ≤ 7 by omega) nzs) (Nat.le_trans (Nat.pow_le_pow_right (by omega) hn3) (by decide))
      have hWQ := hide (fun w => lawPow_c (mm + 1) nzs w (by omega) (by omega) (by omega) (by omega))
      obtain ⟨Q, hQ⟩ : ∃ Q, Hid ((mm + 1) ^ nzs = Q) := ⟨_, hide rfl⟩
      rw [hQ.out] at hQ5 hW2 hWQ
      rw [Int.natCast_add, Int.natCast_one] at hWQ
      have hO2 := hide (fun (q : Nat) w (hq : q ≤ 729) => wordOf_c (mm + 1) nzs q w (by omega) (by omega) (by omega) (by omega))
      rw [Int.natCast_add, Int.natCast_one] at hO2
      obtain ⟨G, hG⟩ : ∃ G : Nat → Int, Hid ((fun k => if isum (digs (mm + 1) nzs k) = mm then mult (digs (mm + 1) nzs k) * risK s zs (digs (mm + 1) nzs k) (digs (mm + 1) nzs k).length else 0) = G) := ⟨_, hide rfl⟩
      have hGe := hide (fun k => show G k = if isum (digs (mm + 1) nzs k) = mm then mult (digs (mm + 1) nzs k) * risK s zs (digs (mm + 1) nzs k) (digs (mm + 1) nzs k).length else 0 by rw [← hG.out])
      rw [hG.out] at hW2
      have hcw := hide (fun k (hs : isum (digs (mm + 1) nzs k) = mm) => show sameCounts zs s (digs (mm + 1) nzs k) = G k by
        rw [hGe.out k, if_pos hs]; unfold sameCounts; rw [hst, hsB, hlzs.out, digs_row hn1 hn3 hm6 hs]; rfl)
      have hGb := hide (fun k => show 0 ≤ G k ∧ G k ≤ 346961018880 by
        rw [hGe.out k]
        split
        · next hs =>
          have hr := digs_row (k := k) hn1 hn3 hm6 hs
          obtain ⟨m1, m2⟩ := mult_bound hr
          exact sameCounts_bound s1 hz10 hr m1 m2 _
        · decide)
      have hSG := hide (fun k => nsum_bounds (n := k) (f := G) (M := 346961018880) (fun q _ => hGb.out q))
      have hdl := hide (fun k => digs_len (mm + 1) nzs k)
      have hdb := hide (fun k j => isum_bounds 6 ((digs (mm + 1) nzs k).take j) (fun x hx => by have := digs_mem (C := mm + 1) (by omega) nzs k x (List.mem_of_mem_take hx); omega))
      have hde := hide (fun (k j : Nat) (x : Int) (hx : (digs (mm + 1) nzs k)[j]? = some x) => show 0 ≤ x ∧ x ≤ 6 by have := digs_mem (C := mm + 1) (by omega) nzs k x (List.mem_of_getElem? hx); omega)
      have hW2 := hide hW2
      clear he hok hok2 hsB hst hr hu hz10 k1 k2 k3 k4 k5 hR hmm p0 p1 m1 m2b
      go_wp2_with fail
      go_loop [6, 7] (fun t i => ∃ k : Nat, k ≤ nzs ∧ i = .int .i64 k ∧ t = .int .i64 (isum (cs.take k))) (fun _ i => nzs - (intOf i).toNat)
      case atStart => exact ⟨0, Nat.zero_le _, rfl, rfl⟩
      case round =>
        obtain ⟨k, hk, rfl, rfl⟩ := hrel
        obtain ⟨t0, t1⟩ := hTk.out k
        have t2 := hTl.out k
        by_cases hlt : k < nzs
        · obtain ⟨b, off, x, hA0, hbB, hx, hcell⟩ := hzcs.out.look hlt
          subst hA0
          obtain ⟨x0, x6⟩ := hEc.out k x hx.out
          have hsk := hide (isum_take_succ hx.out)
          go_wp2_with fail
          go_round
          case rel => exact ⟨k + 1, by omega, by go_num, by rw [hsk.out]⟩
          case measure => simp [intOf]; omega
        · obtain ⟨kk, hkk⟩ : ∃ kk, kk = k := ⟨_, rfl⟩
          have eC : isum (cs.take k) = (mm : Int) := by rw [List.take_of_length_le (by have := hlcs.out; omega)]; exact hmc.out
          rw [eC]
          have hkn : k = nzs := by omega
          subst hkn
          clear hkk eC t0 t1 t2 hlt hk
          obtain ⟨nzs, hk0⟩ : ∃ m, m = k := ⟨_, rfl⟩
          subst hk0
          go_wp2_with fail
          go_loopw [8, 9] (fun t i wr => ∃ k : Nat, k ≤ Q ∧ i = .int .i64 k ∧ t = .int .i64 (nsum k G) ∧ Hid (Ints wr wr.heap.size Azs nzs czs zs) ∧ Hid (Ints wr wr.heap.size Acs nzs ccs cs) ∧ Hid (Below w.heap.size w wr)) (fun _ i _ => Q - (intOf i).toNat)
          case atStart => exact ⟨0, Nat.zero_le _, rfl, rfl, hzzs, hzcs, hb⟩
          case round =>
            clear hzzs hzcs hb
            obtain ⟨q, hq, rfl, rfl, hzzs, hzcs, hb⟩ := hrel
            obtain ⟨s0, s1⟩ := hSG.out q
            by_cases hlt : q < Q
            · have hst := hide (show nsum (q + 1) G = nsum q G + G q from rfl)
              obtain ⟨g0, g1⟩ := hGb.out q
              go_wp2_with (go_at_call 32; refine (hWQ.out _).mono ?_; rintro e w' ⟨rfl, rfl⟩)
              refine (hO2.out q _ (by omega)).mono ?_
              rintro e w2 ⟨Act, nct, cct, rfl, ho, hq⟩
              replace hzzs := hide (hzzs.out.up hq)
              replace hzcs := hide (hzcs.out.up hq)
              replace hb := hide (upB hb.out (hq))
              have hoct := hide (ho.down (Nat.zero_le _))
              clear hq ho
              have hlct := hide (hoct.out.len.trans (hdl.out q))
              have hnct : nzs = nct := hlct.out.symm
              subst hnct
              go_wp2_with fail
              go_loopw [11, 12] (fun t i wr => ∃ j : Nat, j ≤ nzs ∧ i = .int .i64 j ∧ t = .int .i64 (isum ((digs (mm + 1) nzs q).take j)) ∧ Hid (Ints wr wr.heap.size Azs nzs czs zs) ∧ Hid (Ints wr wr.heap.size Acs nzs ccs cs) ∧ Hid (Own wr 0 (.slice Act nzs cct) (digs (mm + 1) nzs q)) ∧ Hid (Below w.heap.size w wr)) (fun _ i _ => nzs - (intOf i).toNat)
              case atStart => exact ⟨0, Nat.zero_le _, rfl, rfl, hzzs, hzcs, hoct, hb⟩
              case round =>
                clear hzzs hzcs hoct hb
                obtain ⟨j, hj, rfl, rfl, hzzs, hzcs, hoct, hb⟩ := hrel
                obtain ⟨t0, t1⟩ := hdb.out q j
                rw [List.length_take] at t1
                by_cases hjt : j < nzs
                · obtain ⟨b, off, x, rfl, hbB, hx, hcell⟩ := hoct.out.ints.look hjt
                  obtain ⟨x0, x4⟩ := hde.out q j x hx.out
                  have hsj := hide (isum_take_succ hx.out)
                  have hld := hide (hdl.out q)
                  have t2 : isum ((digs (mm + 1) nzs q).take j) ≤ 4000 := by have := hld.out; omega
                  go_wp2_with fail
                  go_roundw
                  case rel => exact ⟨j + 1, by omega, by go_num, by rw [hsj.out], hzzs, hzcs, hoct, hb⟩
                  case measure => simp [intOf]; omega
                · obtain rfl : j = nzs := by omega
                  have eT : isum ((digs (mm + 1) j q).take j) = isum (digs (mm + 1) j q) := by rw [List.take_of_length_le (by have := hdl.out q; omega)]
                  rw [eT] at t0 t1 ⊢
                  clear eT
                  by_cases hs : isum (digs (mm + 1) j q) = (mm : Int)
                  · have hcq := hide (hcw.out q hs)
                    rw [hs] at t0 t1 ⊢
                    clear hs
                    go_wp2_with fail
                    refine (sameCounts_impl _ _ _ _ _ _ _ _ zs (digs (mm + 1) j q) s _ hzzs.out hoct.out.ints (Nat.le_refl _) (Nat.le_refl _) hws).mono ?_
                    rw [hcq.out]
                    rintro e w3 ⟨rfl, hq⟩
                    replace hzzs := hide (hzzs.out.up hq)
                    replace hzcs := hide (hzcs.out.up hq)
                    replace hoct := hide (hoct.out.up hq)
                    replace hb := hide (upB hb.out (hq))
                    clear hq
                    clear hoct
                    go_wp2_with fail
                    go_roundw
                    case rel => exact ⟨q + 1, by omega, by go_num, by rw [hst.out], hzzs, hzcs, hb⟩
                    case measure => simp [intOf]; omega
                  · have hGz := hide (show G q = 0 by rw [hGe.out q, if_neg hs])
                    rw [hGz.out, Int.add_zero] at hst
                    have hd : (isum (digs (mm + 1) j q) == (mm : Int)) = false := by simpa using hs
                    clear hs
                    go_wp2_with fail
                    go_roundw
                    case rel => exact ⟨q + 1, by omega, by go_num, by rw [hst.out], hzzs, hzcs, hb⟩
                    case measure => simp [intOf]; omega
            · obtain rfl : q = Q := by omega
              rw [hW2.out]
              clear s0 s1 hlt hq
              go_wp2_with (go_at_call 32; refine (hWQ.out _).mono ?_; rintro e w' ⟨rfl, rfl⟩)
              refine (alive_c _).mono ?_
              rintro e w4 ⟨rfl, hq⟩
              replace hzzs := hide (hzzs.out.up hq)
              replace hzcs := hide (hzcs.out.up hq)
              replace hb := hide (upB hb.out (hq))
              clear hq
              go_wp2_with fail
              refine (sameRule_impl (nzs : Int) s _ hws).mono ?_
              rintro e w5 ⟨Ars, nrs, crs, rfl, ho, hq⟩
              replace hzzs := hide (hzzs.out.up hq)
              replace hzcs := hide (hzcs.out.up hq)
              replace hb := hide (upB hb.out (hq))
              have hzrs := hide ho.mat
              have hlrs := hide hzrs.out.len
              clear hq ho
              rw [hSR.out] at hzrs hlrs
              go_wp2_with fail
              refine (ruleAll_impl _ _ _ _ _ _ _ _ zs (sameR nzs s) (mm : Int) _ hzzs.out hzrs.out (Nat.le_refl _) (Nat.le_refl _)).mono ?_
              rw [hRA.out]
              rintro e w6 ⟨rfl, hq⟩
              replace hzzs := hide (hzzs.out.up hq)
              replace hzcs := hide (hzcs.out.up hq)
              replace hzrs := hide (hzrs.out.up hq)
              replace hb := hide (upB hb.out (hq))
              clear hq
              go_wp2_with fail
              go_ret
              exact ⟨by simp, hb.out⟩
    · have he : sameCounts zs s cs = -1 := by unfold sameCounts; rw [if_neg hok]
      rw [he]
      replace he := hide he
      clear hok
      go_wp2_with fail
      refine (sameCounts_impl _ _ _ _ _ _ _ _ zs cs s _ hzzs.out hzcs.out (Nat.le_refl _) (Nat.le_refl _) hws).mono ?_
      rw [he.out]
      rintro e w7 ⟨rfl, hq⟩
      replace hzzs := hide (hzzs.out.up hq)
      replace hzcs := hide (hzcs.out.up hq)
      replace hb := hide (upB hb.out (hq))
      clear hq
      go_wp2_with fail
      refine (alive_c _).mono ?_
      rintro e wz ⟨rfl, hq⟩
      go_wp2_with fail
      go_ret
      exact ⟨by simp, upB hb.out hq⟩
end Go.Proofs.Ytffllkmaifjpfac
