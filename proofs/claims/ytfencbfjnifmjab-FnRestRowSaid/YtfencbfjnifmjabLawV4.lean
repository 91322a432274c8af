/-
  Laws of chapter 7 walked: FnRestRow (written by wip/gen_v2.py).
-/
import Derived.Test.YtfencbfjnifmjabLawV1
import Derived.Test.YtfencbfjnifmjabPowI
namespace Go.Proofs.Ytfencbfjnifmjab
open Go.RowKit
set_option linter.unusedVariables false

set_option maxHeartbeats 3200000 in
theorem lawRestRow {A : Option Addr} {n c : Nat} {bs : List Int} {w : World} (h : Bts w w.heap.size A n c bs) :
    Calls Try.prog 9 #[.slice A n c] w fun e w' => e = .returned (.bool true) ∧ Below w.heap.size w w' := by
  have hbig := h.big
  have hle := h.le
  unfold maxLen at hbig
  by_cases hn : 1048576 < n
  · go_enter Try.func9, Try.ntmps9
    go_wp2
    go_ret
    exact ⟨rfl, Below.refl _ _⟩
  · have hD := hide (DrawRestRow_c A n c bs w h)
    obtain ⟨i0, hi, hz0, hz1, hz2⟩ := info_parts infoInt
    go_enter Try.func9, Try.ntmps9
    go_wp2_with fail
    refine hD.out.mono ?_
    rintro e w0 ⟨m, rfl, hlom, hhim, hb⟩
    replace hb := hide hb
    clear hD
    have hwm := wf_i64 (z := m) (by omega)
    go_wp2_with fail
    refine (restRow_impl m _ hwm).mono ?_
    rintro e w1 ⟨Als, nls, cls, rfl, ho, hq⟩
    replace hb := hide (upB hb.out (hq))
    have hols := hide (ho.down (Nat.zero_le _))
    clear hq ho
    go_wp2_with fail
    refine (restRow_spec m _).mono ?_
    rintro e w2 ⟨Asp, nsp, csp, rfl, ho, hq⟩
    replace hols := hide (hols.out.up hq)
    replace hb := hide (upB hb.out (hq))
    have hosp := hide (ho.down (Nat.zero_le _))
    clear hq ho
    have hsame := hide (sameL_refl (restR m))
    go_wp2_with fail
    refine (quietB (sameInts_c _ _ _ _ _ _ _ _ (restR m) (restR m) _ hols.out.ints hosp.out.ints)).mono ?_
    rw [hsame.out]
    rintro e w3 ⟨rfl, hq⟩
    replace hols := hide (hols.out.up hq)
    replace hosp := hide (hosp.out.up hq)
    replace hb := hide (upB hb.out (hq))
    clear hq
    clear hosp
    clear hsame
    by_cases hok : 1 ≤ m ∧ m ≤ 6
    · obtain ⟨M, rfl⟩ : ∃ M : Nat, m = (M : Int) := ⟨m.toNat, by omega⟩
      have h1 : 1 ≤ M := by omega
      have h6 : M ≤ 6 := by omega
      have eR : restR (M : Int) = restL M := by unfold restR; rw [if_pos hok, Int.toNat_natCast]
      rw [eR] at hols
      have hlen := hols.out.len
      rw [restL_len] at hlen
      subst hlen
      have HF := hide (rest_facts h1 h6)
      have hne0 : ((M : Int) + 1 == 0) = false := by simp; omega
      clear hok eR
      go_wp2_with fail
      refine (roomStep_impl (M : Int) _ _ _ _ (restL M) _ hols.out.ints (Nat.le_refl _) hwm).mono ?_
      rw [HF.out.ok]
      rintro e w4 ⟨Ane, nne, cne, rfl, ho, hq⟩
      replace hols := hide (hols.out.up hq)
      replace hb := hide (upB hb.out (hq))
      have hone := hide (ho.down (Nat.zero_le _))
      clear hq ho
      have hlen := hone.out.len
      rw [stepL_len] at hlen
      subst hlen
      have hzls := hide hols.out.ints
      have hzne := hide hone.out.ints
      clear hols hone
      go_wp2_with fail
      go_loopw [6, 7] (fun t i wr => ∃ k q : Nat, k ≤ M + 1 ∧ i = .int .i64 k ∧ t = .int .i64 (isum ((restL M).take k)) ∧ wr = w4.drewN q) (fun _ i _ => M + 1 - (intOf i).toNat)
      case atStart => exact ⟨0, 0, Nat.zero_le _, rfl, rfl, rfl⟩
      case round =>
        obtain ⟨k, q, hk, rfl, rfl, rfl⟩ := hrel
        obtain ⟨s0, s1⟩ := part_bound (zs := restL M) (k := k) (by rw [restL_len]; omega) (fun j x hx => by have := HF.out.elem j x hx; omega)
        by_cases hlt : k < M + 1
        · obtain ⟨g, off, x, rfl, hgB, hx, hcellx⟩ := hzls.out.look hlt
          obtain ⟨g', off', y, rfl, hgB', hy, hcelly⟩ := hzne.out.look hlt
          obtain ⟨x0, x1⟩ := HF.out.elem k x hx.out
          have hxy : y = x * (M : Int) := by
            have := HF.out.step k (by omega)
            rwa [atI_some hy.out, atI_some hx.out] at this
          clear hy
          subst hxy
          have hst := hide (isum_take_succ hx.out)
          obtain ⟨p0, p1⟩ := mul_bound (a := x) (M := 20) (by omega) x1 (b := (M : Int)) (N := 6) (by omega) (by omega)
          have hMM : (x * (M : Int) != x * (M : Int)) = false := by simp
          by_cases hkM : k < M
          · have hk1 : k + 1 < M + 1 := by omega
            obtain ⟨g2, off2, z, hA2, hgB2, hz, hcellz⟩ := hzls.out.look hk1
            injection hA2 with hA2
            injection hA2 with e1 e2 _
            subst e1; subst e2
            obtain ⟨z0, z1⟩ := HF.out.elem (k + 1) z hz.out
            obtain ⟨q0, q1⟩ := mul_bound (a := x) (M := 20) (by omega) x1 (b := (M : Int) - (k : Int)) (N := 6) (by omega) (by omega)
            obtain ⟨r0, r1⟩ := mul_bound (a := z) (M := 20) (by omega) z1 (b := (k : Int) + 1) (N := 7) (by omega) (by omega)
            have hfl : (x * ((M : Int) - (k : Int)) != z * ((k : Int) + 1)) = false := by
              have := HF.out.flow k hkM
              rw [atI_some hx.out, atI_some hz.out] at this
              simp [this]
            have hkd : decide ((k : Int) < (M : Int)) = true := decide_eq_true (by omega)
            go_wp2_with fail
            go_quiet (fail)
            go_wp2_with fail
            go_roundw
            case rel => exact ⟨k + 1, _, by omega, by go_num, by rw [hst.out], rfl⟩
            case measure => simp [intOf]; omega
          · have hkd : decide ((k : Int) < (M : Int)) = false := decide_eq_false (by omega)
            go_wp2_with fail
            go_quiet (fail)
            go_wp2_with fail
            go_roundw
            case rel => exact ⟨k + 1, _, by omega, by go_num, by rw [hst.out], rfl⟩
            case measure => simp [intOf]; omega
        · have e1 := hide (show isum ((restL M).take k) = ((2 ^ M : Nat) : Int) by rw [List.take_of_length_le (by rw [restL_len]; omega), HF.out.sum])
          rw [e1.out]
          clear s0 s1
          rcases (show M = 1 ∨ M = 2 ∨ M = 3 ∨ M = 4 ∨ M = 5 ∨ M = 6 by omega) with rfl | rfl | rfl | rfl | rfl | rfl <;>
          · obtain rfl : k = _ := Nat.le_antisymm hk (Nat.le_of_not_lt hlt)
            go_wp2_with fail
            go_ret
            exact ⟨by simp, below_drewN hb.out _⟩
    ·
      have e0 : restR m = [] := by unfold restR; rw [if_neg hok]
      rw [e0] at hols
      have hlen : nls = 0 := hols.out.len
      subst hlen
      clear e0
      clear hok
      go_wp2_with fail
      refine (alive_c _).mono ?_
      rintro e wz ⟨rfl, hq⟩
      go_wp2_with fail
      go_ret
      exact ⟨by simp, upB hb.out hq⟩
end Go.Proofs.Ytfencbfjnifmjab
