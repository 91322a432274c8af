/-
  Laws of chapter 12 walked: FnSampleRow (written by wip/gen_a8.py).
-/
import Derived.Test.YtnfjajamafkjoaaSampI
import Derived.Test.YtnfjajamafkjoaaMixI
import Derived.Test.YtnfjajamafkjoaaPlainAD
import Derived.Test.YtnfjajamafkjoaaDrawMix
import Derived.Test.YtnfjajamafkjoaaZdraw
namespace Go.Proofs.Ytnfjajamafkjoaa
open Go.RowKit
set_option linter.unusedVariables false

set_option maxRecDepth 100000 in
set_option maxHeartbeats 6400000 in
theorem lawSampleRow {A : Option Addr} {n c : Nat} {bs : List Int} {w : World} (h : Bts w w.heap.size A n c bs) :
    Calls Try.prog 12 #[.slice A n c] w fun e w' => e = .returned (.bool true) ∧ Below w.heap.size w w' := by
  have hbig := h.big
  have hle := h.le
  unfold maxLen at hbig
  by_cases hn : 1048576 < n
  · go_enter Try.func12, Try.ntmps12
    go_wp2
    go_ret
    exact ⟨rfl, Below.refl _ _⟩
  · have hD := hide (DrawSampleRow_c A n c bs w h)
    obtain ⟨i0, hi, hz0, hz1, hz2⟩ := info_parts infoInt
    go_enter Try.func12, Try.ntmps12
    go_wp2_with fail
    refine hD.out.mono ?_
    rintro e w0 ⟨t, m, p, rfl, hlot, hhit, hlom, hhim, hlop, hhip, hb⟩
    replace hb := hide hb
    clear hD
    have hwt := wf_i64 (z := t) (by omega)
    have hwm := wf_i64 (z := m) (by omega)
    have hwp := wf_i64 (z := p) (by omega)
    go_wp2_with fail
    refine (sampleRow_impl t m p _ hwt hwm hwp).mono ?_
    rintro e w1 ⟨Als, nls, cls, rfl, ho, hq⟩
    replace hb := hide (upB hb.out (hq))
    have hols := hide (ho.down (Nat.zero_le _))
    clear hq ho
    go_wp2_with fail
    refine (sampleRow_spec t m p _).mono ?_
    rintro e w2 ⟨Asp, nsp, csp, rfl, ho, hq⟩
    replace hols := hide (hols.out.up hq)
    replace hb := hide (upB hb.out (hq))
    have hosp := hide (ho.down (Nat.zero_le _))
    clear hq ho
    have hsame := hide (sameL_refl (sampR t m p))
    go_wp2_with fail
    refine (quietB (sameInts_c _ _ _ _ _ _ _ _ (sampR t m p) (sampR t m p) _ hols.out.ints hosp.out.ints)).mono ?_
    rw [hsame.out]
    rintro e w3 ⟨rfl, hq⟩
    replace hols := hide (hols.out.up hq)
    replace hosp := hide (hosp.out.up hq)
    replace hb := hide (upB hb.out (hq))
    clear hq
    clear hosp
    clear hsame
    cases hok : sampOk t m p with
    | false =>
      have e0 : sampR t m p = [] := by unfold sampR; rw [hok]; rfl
      rw [e0] at hols
      have hlen : nls = 0 := hols.out.len
      subst hlen
      clear e0
      go_wp2_with fail
      refine (alive_c _).mono ?_
      rintro e wz ⟨rfl, hq⟩
      go_wp2_with fail
      go_ret
      exact ⟨by simp, upB hb.out hq⟩
    | true =>
      obtain ⟨t0, t1, m0, m1, p0, p1, p2, f1, f2, f3, f4⟩ := samp_facts hok (by omega)
      have e0 : sampR t m p = sampL t m p := by unfold sampR; rw [hok]; rfl
      rw [e0] at hols
      have hlen := hols.out.len
      rw [sampL_len] at hlen
      have bS := sum_bound9 f1 (sampL t m p).length
      have bC := cnts_bound9 f1 (k := (p + 1).toNat) (by omega)
      rw [List.take_length] at bS
      have eS := hide (show sumR (sampL t m p) = isum (sampL t m p) by unfold sumR; rw [f1]; rfl)
      have eC := hide (show cntsR (sampL t m p) = cntsTo (sampL t m p) (p + 1).toNat by unfold cntsR; rw [f1, if_pos rfl, sampL_len])
      have hP := hide (show pickW t p = isum (sampL t m p) by rw [f2]; unfold pickW; rw [if_pos (by omega)])
      obtain ⟨S, hS⟩ : ∃ S, Hid (isum (sampL t m p) = S) := ⟨_, hide rfl⟩
      rw [hS.out] at eS bS hP
      obtain ⟨s0, s1⟩ := bS
      replace f1 := hide f1
      replace f4 := hide f4
      clear f2 f3 hok e0 hlen bC
      go_wp2_with fail
      refine (rowSums_impl _ _ _ _ (sampL t m p) _ hols.out.ints (Nat.le_refl _)).mono ?_
      rw [eS.out, f1.out]
      rintro e w4 ⟨rfl, hq⟩
      replace hols := hide (hols.out.up hq)
      replace hb := hide (upB hb.out (hq))
      clear hq
      go_wp2_with fail
      refine (shorterRow_impl _ _ _ _ (sampL t m p) _ hols.out.ints (Nat.le_refl _)).mono ?_
      rintro e w5 ⟨Au, nu, cu, rfl, ho, hq⟩
      replace hols := hide (hols.out.up hq)
      replace hb := hide (upB hb.out (hq))
      have hou := hide (ho.down (Nat.zero_le _))
      clear hq ho
      have hwp1 := wf_i64 (z := p - 1) (by omega)
      go_wp2_with fail
      refine (sampleRow_impl t m (p - 1) _ hwt hwm hwp1).mono ?_
      rintro e w6 ⟨Av, nv, cv, rfl, ho, hq⟩
      replace hols := hide (hols.out.up hq)
      replace hou := hide (hou.out.up hq)
      replace hb := hide (upB hb.out (hq))
      have hov := hide (ho.down (Nat.zero_le _))
      clear hq ho
      cases b1 : shortOk (sampL t m p) with
      | false =>
        have e0 : shortR (sampL t m p) = [] := by unfold shortR; rw [b1]; rfl
        rw [e0] at hou
        have hlen : nu = 0 := hou.out.len
        subst hlen
        clear e0
        go_wp2_with fail
        go_loopw [17] (fun i wr => i = .int .i64 0 ∧ Hid (Own wr 0 (.slice Als nls cls) (sampL t m p)) ∧ Hid (Own wr 0 (.slice Au 0 cu) ([])) ∧ Hid (Own wr 0 (.slice Av nv cv) (sampR t m (p - 1))) ∧ Hid (Below w.heap.size w wr)) (fun _ _ => 0)
        case atStart => exact ⟨rfl, hols, hou, hov, hb⟩
        case round =>
          clear hols hou hov hb
          obtain ⟨rfl, hols, hou, hov, hb⟩ := hrel
          go_wp2_with fail
          refine (pickWays_impl t p _ hwt hwp).mono ?_
          rw [hP.out]
          rintro e w7 ⟨rfl, hq⟩
          replace hols := hide (hols.out.up hq)
          replace hou := hide (hou.out.up hq)
          replace hov := hide (hov.out.up hq)
          replace hb := hide (upB hb.out (hq))
          clear hq
          go_wp2_with fail
          go_ret
          exact ⟨by simp, hb.out⟩
      | true =>
        cases b2 : sampOk t m (p - 1) with
        | false =>
          go_wp2_with fail
          go_loopw [17] (fun i wr => i = .int .i64 0 ∧ Hid (Own wr 0 (.slice Als nls cls) (sampL t m p)) ∧ Hid (Own wr 0 (.slice Au nu cu) (shortR (sampL t m p))) ∧ Hid (Own wr 0 (.slice Av nv cv) (sampR t m (p - 1))) ∧ Hid (Below w.heap.size w wr)) (fun _ _ => 0)
          case atStart => exact ⟨rfl, hols, hou, hov, hb⟩
          case round =>
            clear hols hou hov hb
            obtain ⟨rfl, hols, hou, hov, hb⟩ := hrel
            by_cases hu0 : nu = 0
            · subst hu0
              go_wp2_with fail
              refine (pickWays_impl t p _ hwt hwp).mono ?_
              rw [hP.out]
              rintro e w8 ⟨rfl, hq⟩
              replace hols := hide (hols.out.up hq)
              replace hou := hide (hou.out.up hq)
              replace hov := hide (hov.out.up hq)
              replace hb := hide (upB hb.out (hq))
              clear hq
              go_wp2_with fail
              go_ret
              exact ⟨by simp, hb.out⟩
            · have hup : 0 < nu := by omega
              go_wp2_with fail
              refine (pickWays_impl t p _ hwt hwp).mono ?_
              rw [hP.out]
              rintro e w9 ⟨rfl, hq⟩
              replace hols := hide (hols.out.up hq)
              replace hou := hide (hou.out.up hq)
              replace hov := hide (hov.out.up hq)
              replace hb := hide (upB hb.out (hq))
              clear hq
              go_wp2_with fail
              go_ret
              exact ⟨by simp, hb.out⟩
        | true =>
          have e1 : shortR (sampL t m p) = shortL (sampL t m p) := by unfold shortR; rw [b1]; rfl
          have e2 : sampR t m (p - 1) = sampL t m (p - 1) := by unfold sampR; rw [b2]; rfl
          rw [e1] at hou
          rw [e2] at hov
          have g0 := (of_decide_eq_true (Bool.and_eq_true_iff.1 (Bool.and_eq_true_iff.1 b2).1).1).2.2.2.2.1
          have g1 := hide (mixOk_yes (Bool.and_eq_true_iff.1 b2).2).1
          have hlu := hou.out.len
          rw [shortL_len, sampL_len] at hlu
          have hlv := hov.out.len
          rw [sampL_len] at hlv
          obtain rfl : nu = nv := by omega
          have hnp : p = (nu : Int) := by omega
          replace hnp := hide hnp
          have HE := hide (fun (k : Nat) (hk : k < nu) (x y : Int) (hx : (shortL (sampL t m p))[k]? = some x) (hy : (sampL t m (p - 1))[k]? = some y) => show x = y * (t - p + 1) by
            have h1 := hnp.out
            have h2 := f4.out k (by omega)
            rw [shortL_at (by rw [sampL_len]; omega)] at hx
            rw [sampL_at (by omega)] at hy
            injection hx with hx
            injection hy with hy
            rw [← hx, ← hy]
            exact h2)
          have hnn : nu ≤ 9 := by omega
          clear b1 b2 e1 e2 hlu hlv f4
          have hzu := hide hou.out.ints
          have hzv := hide hov.out.ints
          clear hou hov hols
          go_wp2_with fail
          go_loopw [17] (fun i wr => ∃ k q : Nat, k ≤ nu ∧ i = .int .i64 (k : Int) ∧ wr = w6.drewN q) (fun i _ => nu - (intOf i).toNat)
          case atStart => exact ⟨0, 0, Nat.zero_le _, rfl, rfl⟩
          case round =>
            obtain ⟨k, q, hk, rfl, rfl⟩ := hrel
            by_cases hlt : k < nu
            · obtain ⟨g, off, x, rfl, hgB, hx, hcellx⟩ := hzu.out.look hlt
              obtain ⟨g', off', y, rfl, hgB', hy, hcelly⟩ := hzv.out.look hlt
              obtain ⟨y0, y1⟩ := g1.out y (List.mem_of_getElem? hy.out)
              obtain ⟨z0, z1⟩ := mul_bound y0 y1 (b := t - p + 1) (N := 31) (by omega) (by omega)
              obtain rfl : x = y * (t - p + 1) := HE.out k hlt x y hx.out hy.out
              have hXX : (y * (t - p + 1) != y * (t - p + 1)) = false := by simp
              clear hx hy
              go_wp2_with fail
              go_quiet (fail)
              go_wp2_with fail
              go_roundw
              case rel => exact ⟨k + 1, _, by omega, by go_num, rfl⟩
              case measure => simp [intOf]; omega
            · obtain rfl : k = nu := by omega
              go_wp2_with fail
              refine (pickWays_impl t p _ hwt hwp).mono ?_
              rw [hP.out]
              rintro e wz ⟨rfl, hq⟩
              go_wp2_with fail
              go_ret
              exact ⟨by simp, upB (below_drewN hb.out _) hq⟩
end Go.Proofs.Ytnfjajamafkjoaa
