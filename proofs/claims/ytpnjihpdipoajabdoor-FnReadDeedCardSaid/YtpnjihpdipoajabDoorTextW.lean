/-
  Contracts of chapter 14, the specification's side: l15Signed, l1Cut.
-/
import Derived.Test.YtpnjihpdipoajabDoorTextU
namespace Go.Proofs.YtpnjihpdipoajabDoor
open Go.RowKit
set_option linter.unusedVariables false

theorem bts_extract (s : ByteArray) (j k : Nat) : bts (s.extract j k) = ((bts s).take k).drop j := by rw [strB_take, bts_strB]
theorem bts_tail (s : ByteArray) : bts (s.extract 1 s.size) = (bts s).tail := by
  rw [bts_extract, List.take_of_length_le (by rw [bts_len]; exact Nat.le_refl _), List.drop_one]
theorem signP_minus {l : Bs} (h : 1 < l.length ∧ l.head? = some 45) (h2 : 0 < digP l.tail) : signP l = -digP l.tail := by
  unfold signP; rw [if_pos ⟨h.1, h.2, h2⟩]
theorem signP_plain {l : Bs} (h : ¬(1 < l.length ∧ l.head? = some 45 ∧ 0 < digP l.tail)) : signP l = if digP l < 0 then -100 else digP l := by
  unfold signP; rw [if_neg h]
set_option maxRecDepth 100000 in
set_option maxHeartbeats 800000 in
theorem l15Signed_c (s : ByteArray) (w : World) :
    Calls Tryd.prog 39 #[.string s] w fun e w' => e = .returned (.int .i64 (signP (bts s))) ∧ w = w' := by
  have hlen := hide (bts_len s)
  have HD := hide (l1Digits_c s w)
  have HT := hide (l1Digits_c (s.extract 1 s.size) w)
  rw [bts_tail] at HT
  obtain ⟨d0, d1⟩ := digP_bound (bts s)
  obtain ⟨e0, e1⟩ := digP_bound (bts s).tail
  have hP := hide (signP_plain (l := bts s))
  have hM := hide (signP_minus (l := bts s))
  obtain ⟨D, hD⟩ : ∃ D, Hid (digP (bts s) = D) := ⟨_, hide rfl⟩
  obtain ⟨E, hE⟩ : ∃ E, Hid (digP (bts s).tail = E) := ⟨_, hide rfl⟩
  rw [hD.out] at HD hP d0 d1
  rw [hE.out] at HT hP hM e0 e1
  by_cases h1 : 1 < s.size
  · by_cases hc : (s[0]'(by omega)).toNat = 45
    · by_cases hp : 0 < E
      · have he := hide (hM.out ⟨by rw [hlen.out]; exact h1, by rw [List.head?_eq_getElem?, bts_at s 0 (by omega), show (s[0]'(by omega)) = 45 from UInt8.toNat_inj.1 hc]⟩ hp)
        go_enter Tryd.func39, Tryd.ntmps39
        go_wp2_with (go_at_call 57; (with_reducible refine HT.out.mono ?_); rintro e w' ⟨rfl, rfl⟩)
        go_ret
        exact ⟨ret_int he.out.symm, rfl⟩
      · have he := hide (hP.out (fun hh => hp hh.2.2))
        by_cases hd : D < 0
        · rw [if_pos hd] at he
          go_enter Tryd.func39, Tryd.ntmps39
          go_wp2_with (go_at_call 57; (first | (with_reducible refine HT.out.mono ?_) | (with_reducible refine HD.out.mono ?_)); rintro e w' ⟨rfl, rfl⟩)
          go_ret
          exact ⟨ret_int he.out.symm, rfl⟩
        · rw [if_neg hd] at he
          go_enter Tryd.func39, Tryd.ntmps39
          go_wp2_with (go_at_call 57; (first | (with_reducible refine HT.out.mono ?_) | (with_reducible refine HD.out.mono ?_)); rintro e w' ⟨rfl, rfl⟩)
          go_ret
          exact ⟨ret_int he.out.symm, rfl⟩
    · have he := hide (hP.out (fun hh => hc (by
        have := hh.2.1
        rw [List.head?_eq_getElem?, bts_at s 0 (by omega)] at this
        injection this with this
        rw [this]; rfl)))
      have hcb : (((s[0]'(by omega)).toNat : Int) == 45) = false := by simp; omega
      by_cases hd : D < 0
      · rw [if_pos hd] at he
        go_enter Tryd.func39, Tryd.ntmps39
        go_wp2_with (go_at_call 57; (with_reducible refine HD.out.mono ?_); rintro e w' ⟨rfl, rfl⟩)
        go_ret
        exact ⟨ret_int he.out.symm, rfl⟩
      · rw [if_neg hd] at he
        go_enter Tryd.func39, Tryd.ntmps39
        go_wp2_with (go_at_call 57; (with_reducible refine HD.out.mono ?_); rintro e w' ⟨rfl, rfl⟩)
        go_ret
        exact ⟨ret_int he.out.symm, rfl⟩
  · have he := hide (hP.out (fun hh => h1 (by rw [← hlen.out]; exact hh.1)))
    by_cases hd : D < 0
    · rw [if_pos hd] at he
      go_enter Tryd.func39, Tryd.ntmps39
      go_wp2_with (go_at_call 57; (with_reducible refine HD.out.mono ?_); rintro e w' ⟨rfl, rfl⟩)
      go_ret
      exact ⟨ret_int he.out.symm, rfl⟩
    · rw [if_neg hd] at he
      go_enter Tryd.func39, Tryd.ntmps39
      go_wp2_with (go_at_call 57; (with_reducible refine HD.out.mono ?_); rintro e w' ⟨rfl, rfl⟩)
      go_ret
      exact ⟨ret_int he.out.symm, rfl⟩
end Go.Proofs.YtpnjihpdipoajabDoor
