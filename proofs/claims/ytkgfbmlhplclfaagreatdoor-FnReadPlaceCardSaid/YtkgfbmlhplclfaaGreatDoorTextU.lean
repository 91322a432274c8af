/-
  Contracts of chapter 14, the specification's side: l1Digits, l15Signed.
-/
import Derived.Test.YtkgfbmlhplclfaaGreatDoorTextT
namespace Go.Proofs.YtkgfbmlhplclfaaGreatDoor
open Go.RowKit
set_option linter.unusedVariables false

theorem digA_step {m : Nat} {c : UInt8} {r : Bs} (h0 : 48 ≤ c.toNat) (h1 : c.toNat ≤ 57) : digA m (c :: r) = digA (10 * m + (c.toNat - 48)) r := by
  show (if 48 ≤ c ∧ c ≤ 57 then _ else _) = _
  rw [if_pos ⟨UInt8.le_iff_toNat_le.2 h0, UInt8.le_iff_toNat_le.2 h1⟩]
theorem digA_bad {m : Nat} {c : UInt8} {r : Bs} (h : c.toNat < 48 ∨ 57 < c.toNat) : digA m (c :: r) = -1 := by
  show (if 48 ≤ c ∧ c ≤ 57 then _ else _) = _
  rw [if_neg (fun hh => by
    have a := UInt8.le_iff_toNat_le.1 hh.1
    have b := UInt8.le_iff_toNat_le.1 hh.2
    simp at a b
    omega)]
set_option maxRecDepth 100000 in
set_option maxHeartbeats 800000 in
theorem l1Digits_c (s : ByteArray) (w : World) :
    Calls Tryz.prog 29 #[.string s] w fun e w' => e = .returned (.int .i64 (digP (bts s))) ∧ w = w' := by
  have hlen := hide (bts_len s)
  by_cases h16 : 1 ≤ s.size ∧ s.size ≤ 6
  · have HI := hide (inY (s.size : Int) 1 6 w (by omega))
    by_cases hz : 1 < s.size ∧ (s[0]'(by omega)).toNat = 48
    · have hv := hide (show digP (bts s) = -1 by
        unfold digP
        rw [if_neg (fun hh => hh.2.2 ⟨by rw [hlen.out]; exact hz.1, by rw [List.head?_eq_getElem?, bts_at s 0 (by omega), show (s[0]'(by omega)) = 48 from UInt8.toNat_inj.1 hz.2]⟩)])
      obtain ⟨g1, g6⟩ := h16
      obtain ⟨hz1, hz0⟩ := hz
      go_enter Tryz.func29, Tryz.ntmps29
      go_wp2_with (go_at_call 51; refine HI.out.mono ?_; rintro e w' ⟨rfl, rfl⟩)
      go_ret
      exact ⟨ret_int hv.out.symm, rfl⟩
    · have he := hide (show digP (bts s) = digA 0 (bts s) by
        unfold digP
        rw [if_pos ⟨by rw [hlen.out]; exact h16.1, by rw [hlen.out]; exact h16.2, fun hh => hz ⟨by rw [hlen.out] at hh; exact hh.1, by
          have := hh.2
          rw [List.head?_eq_getElem?, bts_at s 0 (by omega)] at this
          injection this with this
          rw [this]; rfl⟩⟩])
      by_cases h1 : 1 < s.size
      · have hc : (s[0]'(by omega)).toNat ≠ 48 := fun e => hz ⟨h1, e⟩
        obtain ⟨g1, g6⟩ := h16
        clear hz
        go_enter Tryz.func29, Tryz.ntmps29
        go_wp2_with (go_at_call 51; refine HI.out.mono ?_; rintro e w' ⟨rfl, rfl⟩)
        go_loop [3, 4] (fun v i => ∃ k m : Nat, k ≤ s.size ∧ i = .int .i64 k ∧ v = .int .i64 m ∧ Hid (digA 0 (bts s) = digA m ((bts s).drop k)) ∧ m < 10 ^ k) (fun _ i => s.size - (intOf i).toNat)
        case atStart => exact ⟨0, 0, Nat.zero_le _, rfl, rfl, hide rfl, by decide⟩
        case round =>
          obtain ⟨k, m, hk, rfl, rfl, hD, hm⟩ := hrel
          have hm6 : m < 1000000 := Nat.lt_of_lt_of_le hm (Nat.pow_le_pow_right (n := 10) (by omega) (show k ≤ 6 by omega))
          have hp := hide (Nat.pow_succ (n := 10) (m := k))
          by_cases hlt : k < s.size
          · have hdr := hide (bts_drop s k hlt)
            by_cases hc0 : (s[k]'hlt).toNat < 48
            · have hv := hide (show digP (bts s) = -1 by rw [he.out, hD.out, hdr.out]; exact digA_bad (.inl hc0))
              have hm := hide hm
              go_wp2
              go_ret
              exact ⟨ret_int hv.out.symm, rfl⟩
            · by_cases hc1 : 57 < (s[k]'hlt).toNat
              · have hv := hide (show digP (bts s) = -1 by rw [he.out, hD.out, hdr.out]; exact digA_bad (.inr hc1))
                have hm := hide hm
                go_wp2
                go_ret
                exact ⟨ret_int hv.out.symm, rfl⟩
              · have hD2 := hide (show digA 0 (bts s) = digA (10 * m + ((s[k]'hlt).toNat - 48)) ((bts s).drop (k + 1)) by rw [hD.out, hdr.out]; exact digA_step (by omega) (by omega))
                have hm2 : 10 * m + ((s[k]'hlt).toNat - 48) < 10 ^ (k + 1) := by rw [hp.out]; omega
                have hm2 := hide hm2
                have hw : IntKind.u8.wrap (((s[k]'hlt).toNat : Int) - 48) = ((s[k]'hlt).toNat : Int) - 48 := by
                  show (((s[k]'hlt).toNat : Int) - 48) % 256 = _
                  omega
                have hnum : 10 * (m : Int) + (((s[k]'hlt).toNat : Int) - 48) = ((10 * m + ((s[k]'hlt).toNat - 48) : Nat) : Int) := by omega
                have hnum := hide hnum
                have hm := hide hm
                go_wp2
                go_round
                case rel => first
                  | exact ⟨k + 1, 10 * m + ((s[k]'hlt).toNat - 48), by omega, by go_num, congrArg (Value.int .i64) (by omega), hD2, hm2.out⟩
                  | exact ⟨_, _, _, ⟨k + 1, by omega, rfl, 10 * m + ((s[k]'hlt).toNat - 48), rfl, hD2, hm2.out⟩, rfl, congrArg (Value.int .i64) (by omega), congrArg (Value.int .i64) (by omega)⟩
                case measure => simp [intOf]; omega
          · have hv := hide (show digP (bts s) = (m : Int) by rw [he.out, hD.out, bts_end s k (by omega)]; rfl)
            have hm := hide hm
            go_wp2
            go_ret
            exact ⟨ret_int hv.out.symm, rfl⟩
      · obtain ⟨g1, g6⟩ := h16
        clear hz
        go_enter Tryz.func29, Tryz.ntmps29
        go_wp2_with (go_at_call 51; refine HI.out.mono ?_; rintro e w' ⟨rfl, rfl⟩)
        go_loop [3, 4] (fun v i => ∃ k m : Nat, k ≤ s.size ∧ i = .int .i64 k ∧ v = .int .i64 m ∧ Hid (digA 0 (bts s) = digA m ((bts s).drop k)) ∧ m < 10 ^ k) (fun _ i => s.size - (intOf i).toNat)
        case atStart => exact ⟨0, 0, Nat.zero_le _, rfl, rfl, hide rfl, by decide⟩
        case round =>
          obtain ⟨k, m, hk, rfl, rfl, hD, hm⟩ := hrel
          have hm6 : m < 1000000 := Nat.lt_of_lt_of_le hm (Nat.pow_le_pow_right (n := 10) (by omega) (show k ≤ 6 by omega))
          have hp := hide (Nat.pow_succ (n := 10) (m := k))
          by_cases hlt : k < s.size
          · have hdr := hide (bts_drop s k hlt)
            by_cases hc0 : (s[k]'hlt).toNat < 48
            · have hv := hide (show digP (bts s) = -1 by rw [he.out, hD.out, hdr.out]; exact digA_bad (.inl hc0))
              have hm := hide hm
              go_wp2
              go_ret
              exact ⟨ret_int hv.out.symm, rfl⟩
            · by_cases hc1 : 57 < (s[k]'hlt).toNat
              · have hv := hide (show digP (bts s) = -1 by rw [he.out, hD.out, hdr.out]; exact digA_bad (.inr hc1))
                have hm := hide hm
                go_wp2
                go_ret
                exact ⟨ret_int hv.out.symm, rfl⟩
              · have hD2 := hide (show digA 0 (bts s) = digA (10 * m + ((s[k]'hlt).toNat - 48)) ((bts s).drop (k + 1)) by rw [hD.out, hdr.out]; exact digA_step (by omega) (by omega))
                have hm2 : 10 * m + ((s[k]'hlt).toNat - 48) < 10 ^ (k + 1) := by rw [hp.out]; omega
                have hm2 := hide hm2
                have hw : IntKind.u8.wrap (((s[k]'hlt).toNat : Int) - 48) = ((s[k]'hlt).toNat : Int) - 48 := by
                  show (((s[k]'hlt).toNat : Int) - 48) % 256 = _
                  omega
                have hnum : 10 * (m : Int) + (((s[k]'hlt).toNat : Int) - 48) = ((10 * m + ((s[k]'hlt).toNat - 48) : Nat) : Int) := by omega
                have hnum := hide hnum
                have hm := hide hm
                go_wp2
                go_round
                case rel => first
                  | exact ⟨k + 1, 10 * m + ((s[k]'hlt).toNat - 48), by omega, by go_num, congrArg (Value.int .i64) (by omega), hD2, hm2.out⟩
                  | exact ⟨_, _, _, ⟨k + 1, by omega, rfl, 10 * m + ((s[k]'hlt).toNat - 48), rfl, hD2, hm2.out⟩, rfl, congrArg (Value.int .i64) (by omega), congrArg (Value.int .i64) (by omega)⟩
                case measure => simp [intOf]; omega
          · have hv := hide (show digP (bts s) = (m : Int) by rw [he.out, hD.out, bts_end s k (by omega)]; rfl)
            have hm := hide hm
            go_wp2
            go_ret
            exact ⟨ret_int hv.out.symm, rfl⟩
  · have HI := hide (inN (s.size : Int) 1 6 w (by omega))
    have hv := hide (show digP (bts s) = -1 by
      unfold digP
      rw [if_neg (fun hh => h16 ⟨by rw [hlen.out] at hh; exact hh.1, by rw [hlen.out] at hh; exact hh.2.1⟩)])
    clear h16
    go_enter Tryz.func29, Tryz.ntmps29
    go_wp2_with (go_at_call 51; refine HI.out.mono ?_; rintro e w' ⟨rfl, rfl⟩)
    go_ret
    exact ⟨ret_int hv.out.symm, rfl⟩
end Go.Proofs.YtkgfbmlhplclfaaGreatDoor
