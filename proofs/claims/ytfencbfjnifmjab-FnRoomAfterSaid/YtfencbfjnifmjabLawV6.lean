/-
  Laws of chapter 7 walked: FnRoomAfter (written by wip/gen_v3.py).
-/
import Derived.Test.YtfencbfjnifmjabLawV1
import Derived.Test.YtfencbfjnifmjabPowI
namespace Go.Proofs.Ytfencbfjnifmjab
open Go.RowKit
set_option linter.unusedVariables false

set_option maxRecDepth 100000 in
set_option maxHeartbeats 3200000 in
theorem lawRoomAfter {A : Option Addr} {n c : Nat} {bs : List Int} {w : World} (h : Bts w w.heap.size A n c bs) :
    Calls Try.prog 11 #[.slice A n c] w fun e w' => e = .returned (.bool true) ∧ Below w.heap.size w w' := by
  have hbig := h.big
  have hle := h.le
  unfold maxLen at hbig
  by_cases hn : 1048576 < n
  · go_enter Try.func11, Try.ntmps11
    go_wp2
    go_ret
    exact ⟨rfl, Below.refl _ _⟩
  · have hD := hide (DrawRoomAfter_c A n c bs w h)
    obtain ⟨i0, hi, hz0, hz1, hz2⟩ := info_parts infoInt
    go_enter Try.func11, Try.ntmps11
    go_wp2_with fail
    refine hD.out.mono ?_
    rintro e w0 ⟨m, f, s, rfl, hlom, hhim, hlof, hhif, hlos, hhis, hb⟩
    replace hb := hide hb
    clear hD
    have hwm := wf_i64 (z := m) (by omega)
    have hwf := wf_i64 (z := f) (by omega)
    have hws := wf_i64 (z := s) (by omega)
    go_wp2_with fail
    refine (roomAfter_impl m f s _ hwm hwf hws).mono ?_
    rintro e w1 ⟨Als, nls, cls, rfl, ho, hq⟩
    replace hb := hide (upB hb.out (hq))
    have hols := hide (ho.down (Nat.zero_le _))
    clear hq ho
    go_wp2_with fail
    refine (roomAfter_spec m f s _).mono ?_
    rintro e w2 ⟨Asp, nsp, csp, rfl, ho, hq⟩
    replace hols := hide (hols.out.up hq)
    replace hb := hide (upB hb.out (hq))
    have hosp := hide (ho.down (Nat.zero_le _))
    clear hq ho
    have hsame := hide (sameL_refl (roomA m f s))
    go_wp2_with fail
    refine (quietB (sameInts_c _ _ _ _ _ _ _ _ (roomA m f s) (roomA m f s) _ hols.out.ints hosp.out.ints)).mono ?_
    rw [hsame.out]
    rintro e w3 ⟨rfl, hq⟩
    replace hols := hide (hols.out.up hq)
    replace hosp := hide (hosp.out.up hq)
    replace hb := hide (upB hb.out (hq))
    clear hq
    clear hosp
    clear hsame
    by_cases hok : roomArgs m f s = true
    · obtain ⟨M, F, S, rfl, rfl, rfl, h1, h6, hF, hS⟩ := roomArgs_yes hok
      have e0 : roomA (M : Int) (F : Int) (S : Int) = roomL M F S := by unfold roomA; rw [if_pos hok, Int.toNat_natCast, Int.toNat_natCast, Int.toNat_natCast]
      rw [e0] at hols
      have hlen := hols.out.len
      rw [roomL_len] at hlen
      subst hlen
      have hne0 : ((M : Int) + 1 == 0) = false := by simp; omega
      have hzls := hide hols.out.ints
      have hlls := hide (roomL_len M F S)
      clear e0 hok hols
      go_wp2_with fail
      refine (restRow_impl (M : Int) _ hwm).mono ?_
      rw [show restR (M : Int) = restL M by unfold restR; rw [if_pos (by omega), Int.toNat_natCast]]
      rintro e w4 ⟨Ars, nrs, crs, rfl, ho, hq⟩
      replace hzls := hide (hzls.out.up hq)
      replace hb := hide (upB hb.out (hq))
      have hors := hide (ho.down (Nat.zero_le _))
      clear hq ho
      have hlen := hors.out.len
      rw [restL_len] at hlen
      subst hlen
      have hzrs := hide hors.out.ints
      have HF := hide (rest_facts h1 h6)
      have HE := hide (fun (K : Nat) (hK : K ≤ M) (k : Nat) (x : Int) (hx : (roomL M K S)[k]? = some x) => room_elem h1 h6 hK hS hx)
      have HT := hide (fun (k : Nat) => part_bound (zs := roomL M F S) (k := k) (by rw [roomL_len]; omega) (fun j x hx => by have := HE.out F hF j x hx; omega))
      have HA := hide (fun (k : Nat) (hk : k ≤ M) => show roomA (M : Int) (k : Int) (S : Int) = roomL M k S by unfold roomA; rw [if_pos (roomArgs_mk h1 h6 hk hS), Int.toNat_natCast, Int.toNat_natCast, Int.toNat_natCast])
      have HL := hide (fun (k : Nat) => roomL_len M k S)
      have hP6 : M ^ S ≤ 46656 := Nat.le_trans (Nat.pow_le_pow_left h6 S) (Nat.pow_le_pow_right (n := 6) (by omega) hS)
      have hsum := hide (room_sum h1 h6 hF hS)
      have hFM : F < M + 1 := by omega
      clear hors
      go_wp2_with fail
      go_loopw [8, 9] (fun t i wr => ∃ k : Nat, k ≤ M + 1 ∧ i = .int .i64 k ∧ t = .int .i64 (isum ((roomL M F S).take k)) ∧ Hid (Ints wr wr.heap.size Als (M + 1) cls (roomL M F S)) ∧ Hid (Ints wr wr.heap.size Ars (M + 1) crs (restL M)) ∧ Hid (Below w.heap.size w wr)) (fun _ i _ => M + 1 - (intOf i).toNat)
      case atStart => exact ⟨0, Nat.zero_le _, rfl, rfl, hzls, hzrs, hb⟩
      case round =>
        clear hzls hzrs hb
        obtain ⟨k, hk, rfl, rfl, hzls, hzrs, hb⟩ := hrel
        obtain ⟨s0, s1⟩ := HT.out k
        by_cases hlt : k < M + 1
        · have hwk := wf_i64 (z := (k : Int)) (by omega)
          go_wp2_with fail
          refine (roomAfter_impl (M : Int) (k : Int) (S : Int) _ hwm hwk hws).mono ?_
          rw [HA.out k (by omega)]
          rintro e w5 ⟨Abk, nbk, cbk, rfl, ho, hq⟩
          replace hzls := hide (hzls.out.up hq)
          replace hzrs := hide (hzrs.out.up hq)
          replace hb := hide (upB hb.out (hq))
          have hobk := hide (ho.down (Nat.zero_le _))
          clear hq ho
          have hlen := hobk.out.len
          rw [HL.out] at hlen
          subst hlen
          have hzbk := hide hobk.out.ints
          clear hobk
          obtain ⟨b1, o1, x, rfl, hB1, hx, hc1⟩ := hzls.out.look hlt
          obtain ⟨b2, o2, rk, rfl, hB2, hrk, hc2⟩ := hzrs.out.look hlt
          obtain ⟨b3, o3, rF, hA3, hB3, hrF, hc3⟩ := hzrs.out.look hFM
          injection hA3 with hA3
          injection hA3 with e1 e2 _
          subst e1; subst e2
          obtain ⟨b4, o4, bF, rfl, hB4, hbF, hc4⟩ := hzbk.out.look hFM
          obtain ⟨x0, x1⟩ := HE.out F hF k x hx.out
          obtain ⟨y0, y1⟩ := HE.out k (by omega) F bF hbF.out
          obtain ⟨u0, u1⟩ := HF.out.elem k rk hrk.out
          obtain ⟨v0, v1⟩ := HF.out.elem F rF hrF.out
          obtain ⟨p0, p1⟩ := mul_bound (a := rF) (M := 20) (by omega) v1 (b := x) (N := 46656) x0 x1
          obtain ⟨q0, q1⟩ := mul_bound (a := rk) (M := 20) (by omega) u1 (b := bF) (N := 46656) y0 y1
          have hbal : (rF * x != rk * bF) = false := by
            have := bal_at h1 h6 hF hS (k := k) (by omega)
            rw [atI_some hx.out, atI_some hrk.out, atI_some hrF.out, atI_some hbF.out] at this
            simp [this]
          have hst := hide (isum_take_succ hx.out)
          have hpx := hide (par_at h1 h6 hF hS (k := k) (by omega))
          rw [atI_some hx.out] at hpx
          by_cases hx0 : 0 < x
          · have hxd : decide (0 < x) = true := decide_eq_true hx0
            have hpar : (((k : Int) + (F : Int) + (S : Int)) % 2 != 0) = false := by
              rcases hpx.out with h | h
              · simp; omega
              · omega
            go_wp2_with fail
            go_quiet (fail)
            go_wp2_with fail
            go_roundw
            case rel => exact ⟨k + 1, by omega, by go_num, by rw [hst.out], hide (hzls.out.up (below_drewN (Below.refl _ _) _)), hide (hzrs.out.up (below_drewN (Below.refl _ _) _)), hide (below_drewN hb.out _)⟩
            case measure => simp [intOf]; omega
          · have hxd : decide (0 < x) = false := decide_eq_false hx0
            go_wp2_with fail
            go_quiet (fail)
            go_wp2_with fail
            go_roundw
            case rel => exact ⟨k + 1, by omega, by go_num, by rw [hst.out], hide (hzls.out.up (below_drewN (Below.refl _ _) _)), hide (hzrs.out.up (below_drewN (Below.refl _ _) _)), hide (below_drewN hb.out _)⟩
            case measure => simp [intOf]; omega
        · have e1 := hide (show isum ((roomL M F S).take k) = ((M ^ S : Nat) : Int) by rw [List.take_of_length_le (by rw [hlls.out]; omega), hsum.out])
          rw [e1.out]
          clear s0 s1
          go_wp2_with fail
          refine (sameB (lawPow_c M S _ h1 (by omega) (by omega) (by omega))).mono ?_
          rintro e w6 ⟨rfl, hq⟩
          replace hzls := hide (hzls.out.up hq)
          replace hzrs := hide (hzrs.out.up hq)
          replace hb := hide (upB hb.out (hq))
          clear hq
          go_wp2_with fail
          go_ret
          exact ⟨by simp, hb.out⟩
    ·
      have e0 : roomA m f s = [] := by unfold roomA; rw [if_neg hok]
      rw [e0] at hols
      have hlen : nls = 0 := hols.out.len
      subst hlen
      clear e0
      clear hok
      go_wp2_with fail
      refine (alive_c _).mono ?_
      rintro e wz ⟨rfl, hq⟩
      go_wp2_with fail
      go_ret
      exact ⟨by simp, upB hb.out hq⟩
end Go.Proofs.Ytfencbfjnifmjab
