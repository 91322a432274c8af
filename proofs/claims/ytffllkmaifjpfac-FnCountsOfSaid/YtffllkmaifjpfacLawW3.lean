/-
  Laws of chapter 2 walked: FnCountsOf, FnCountRowOk (written by wip/gen_w3.py).
-/
import Derived.Test.YtffllkmaifjpfacZdraw
import Derived.Test.YtffllkmaifjpfacZimp
import Derived.Test.YtffllkmaifjpfacZword
namespace Go.Proofs.Ytffllkmaifjpfac
open Go.RowKit
set_option linter.unusedVariables false

set_option maxHeartbeats 1600000 in
theorem lawCountsOf {A : Option Addr} {n c : Nat} {bs : List Int} {w : World} (h : Bts w w.heap.size A n c bs) :
    Calls Try.prog 5 #[.slice A n c] w fun e w' => e = .returned (.bool true) ∧ Below w.heap.size w w' := by
  have hbig := h.big
  have hle := h.le
  unfold maxLen at hbig
  by_cases hn : 1048576 < n
  · go_enter Try.func5, Try.ntmps5
    go_wp2
    go_ret
    exact ⟨rfl, Below.refl _ _⟩
  · have hD := hide (DrawCountsOf_c A n c bs w h)
    obtain ⟨i0, hi, hz0, hz1, hz2⟩ := info_parts infoInt
    go_enter Try.func5, Try.ntmps5
    go_wp2_with fail
    refine hD.out.mono ?_
    rintro e w0 ⟨Aws, nws, cws, ws, cl, rfl, hzws, hnws, hlocl, hhicl, hb⟩
    have hlws := hide hzws.len
    replace hzws := hide hzws
    replace hb := hide hb
    clear hD
    go_wp2_with fail
    refine (countsOf_impl cl _ _ _ _ ws _ hzws.out (Nat.le_refl _)).mono ?_
    rintro e w1 ⟨Acs, ncs, ccs, rfl, ho, hq⟩
    replace hzws := hide (hzws.out.up hq)
    replace hb := hide (upB hb.out (hq))
    have hocs := hide (ho.down (Nat.zero_le _))
    clear hq ho
    go_wp2_with fail
    refine (countsOf_spec cl _ _ _ _ ws _ hzws.out (Nat.le_refl _)).mono ?_
    rintro e w2 ⟨Asp, nsp, csp, rfl, ho, hq⟩
    replace hzws := hide (hzws.out.up hq)
    replace hocs := hide (hocs.out.up hq)
    replace hb := hide (upB hb.out (hq))
    have hosp := hide (ho.down (Nat.zero_le _))
    clear hq ho
    go_wp2_with fail
    refine (quietB (sameInts_c _ _ _ _ _ _ _ _ _ _ _ hocs.out.ints hosp.out.ints)).mono ?_
    rw [sameL_refl]
    rintro e w3 ⟨rfl, hq⟩
    replace hzws := hide (hzws.out.up hq)
    replace hocs := hide (hocs.out.up hq)
    replace hosp := hide (hosp.out.up hq)
    replace hb := hide (upB hb.out (hq))
    clear hq
    clear hosp
    have hlc := hide hocs.out.len
    by_cases hok : wordOk cl ws = true
    · have he : countsOf cl ws = cntL cl.toNat ws := by unfold countsOf; rw [if_pos hok]
      rw [he] at hocs hlc
      obtain ⟨k1, k2, k3, k4⟩ := wordOk_yes hok
      have hrow := hide (cntL_row hok)
      have hww : 1 ≤ wordsWith cl (cntL cl.toNat ws) := by unfold wordsWith; rw [if_pos hrow.out]; exact (row_fine hrow.out).1
      have hsm := hide (isum_cntL (C := cl.toNat) ws (fun x hx => by have := k4 x hx; omega))
      have hce := hide (cntL_mem (C := cl.toNat) (ws := ws))
      have hct := hide (take_sum (countRowOk_urn hrow.out))
      have hcu := hide (fun (k : Nat) z (hx : (cntL cl.toNat ws)[k]? = some z) => urnOk_elem (countRowOk_urn hrow.out) hx)
      have hn0 : 1 ≤ ncs ∧ ncs ≤ 3 := by have := hlc.out; rw [cntL_len] at this; omega
      have hn6 : nws ≤ 6 := by have := hlws.out; omega
      obtain ⟨cs, hcs⟩ : ∃ cs, Hid (cntL cl.toNat ws = cs) := ⟨_, rfl⟩
      rw [hcs.out] at hocs hlc hrow hww hsm hce hct hcu
      obtain ⟨V, hV⟩ : ∃ V, Hid (wordsWith cl cs = V) := ⟨_, rfl⟩
      rw [hV.out] at hww
      clear he hok k1 k2 k3 k4
      go_wp2_with fail
      go_loopw [6, 7] (fun t i wr => ∃ k : Nat, k ≤ ncs ∧ i = .int .i64 k ∧ t = .int .i64 (isum (cs.take k)) ∧ Hid (Ints wr wr.heap.size Aws nws cws ws) ∧ Hid (Own wr 0 (.slice Acs ncs ccs) (cs)) ∧ Hid (Below w.heap.size w wr)) (fun _ i _ => ncs - (intOf i).toNat)
      case atStart => exact ⟨0, Nat.zero_le _, rfl, rfl, hzws, hocs, hb⟩
      case round =>
        clear hzws hocs hb
        obtain ⟨k, hk, rfl, rfl, hzws, hocs, hb⟩ := hrel
        obtain ⟨s1, s2⟩ := hct.out k
        by_cases hlt : k < ncs
        · obtain ⟨b, off, x, rfl, hbB, hx, hcell⟩ := hocs.out.ints.look hlt
          obtain ⟨x0, x1⟩ := hcu.out k x hx.out
          have hst := hide (isum_take_succ hx.out)
          go_wp2_with fail
          go_roundw
          case rel => exact ⟨k + 1, by omega, by go_num, by rw [hst.out], hzws, hocs, hb⟩
          case measure => simp [intOf]; omega
        · obtain rfl : k = ncs := by omega
          have eS : isum (cs.take k) = nws := by rw [List.take_of_length_le (by have := hlc.out; omega), hsm.out, hlws.out]
          rw [eS]
          clear eS s1 s2
          obtain ⟨ncs, hk0⟩ : ∃ m, m = k := ⟨_, rfl⟩
          subst hk0
          go_wp2_with fail
          refine (countRowOk_impl cl _ _ _ _ cs _ hocs.out.ints (Nat.le_refl _)).mono ?_
          rw [hrow.out]
          rintro e w4 ⟨rfl, hq⟩
          replace hzws := hide (hzws.out.up hq)
          replace hocs := hide (hocs.out.up hq)
          replace hb := hide (upB hb.out (hq))
          clear hq
          go_wp2_with fail
          refine (wordsWith_impl cl _ _ _ _ cs _ hocs.out.ints (Nat.le_refl _)).mono ?_
          rw [hV.out]
          rintro e w5 ⟨rfl, hq⟩
          replace hzws := hide (hzws.out.up hq)
          replace hocs := hide (hocs.out.up hq)
          replace hb := hide (upB hb.out (hq))
          clear hq
          go_wp2_with fail
          go_ret
          exact ⟨by simp, hb.out⟩
    · have hok : wordOk cl ws = false := by simpa using hok
      have he : countsOf cl ws = [] := by unfold countsOf; rw [hok]; rfl
      rw [he] at hocs hlc
      have hlc := hlc.out
      simp only [List.length_nil] at hlc
      subst hlc
      go_wp2_with fail
      refine (wordOk_impl cl _ _ _ _ ws _ hzws.out (Nat.le_refl _)).mono ?_
      rw [hok]
      rintro e w6 ⟨rfl, hq⟩
      replace hzws := hide (hzws.out.up hq)
      replace hocs := hide (hocs.out.up hq)
      replace hb := hide (upB hb.out (hq))
      clear hq
      go_wp2_with fail
      refine (alive_c _).mono ?_
      rintro e wz ⟨rfl, hq⟩
      go_wp2_with fail
      go_ret
      exact ⟨rfl, upB hb.out hq⟩

end Go.Proofs.Ytffllkmaifjpfac
