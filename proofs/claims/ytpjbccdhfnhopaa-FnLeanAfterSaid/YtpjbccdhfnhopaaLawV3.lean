/-
  Laws of chapter 7 walked: FnLeanAfter (written by wip/gen_v2.py).
-/
import Derived.Test.YtpjbccdhfnhopaaLawV1
import Derived.Test.YtpjbccdhfnhopaaPowI
namespace Go.Proofs.Ytpjbccdhfnhopaa
open Go.RowKit
set_option linter.unusedVariables false

set_option maxHeartbeats 3200000 in
theorem lawLeanAfter {A : Option Addr} {n c : Nat} {bs : List Int} {w : World} (h : Bts w w.heap.size A n c bs) :
    Calls Try.prog 7 #[.slice A n c] w fun e w' => e = .returned (.bool true) ∧ Below w.heap.size w w' := by
  have hbig := h.big
  have hle := h.le
  unfold maxLen at hbig
  by_cases hn : 1048576 < n
  · go_enter Try.func7, Try.ntmps7
    go_wp2
    go_ret
    exact ⟨rfl, Below.refl _ _⟩
  · have hD := hide (DrawLeanAfter_c A n c bs w h)
    obtain ⟨i0, hi, hz0, hz1, hz2⟩ := info_parts infoInt
    go_enter Try.func7, Try.ntmps7
    go_wp2_with fail
    refine hD.out.mono ?_
    rintro e w0 ⟨m, f, s, rfl, hlom, hhim, hlof, hhif, hlos, hhis, hb⟩
    replace hb := hide hb
    clear hD
    have hwm := wf_i64 (z := m) (by omega)
    have hwf := wf_i64 (z := f) (by omega)
    have hws := wf_i64 (z := s) (by omega)
    go_wp2_with fail
    refine (leanAfter_impl m f s _ hwm hwf hws).mono ?_
    rintro e w1 ⟨rfl, hq⟩
    replace hb := hide (upB hb.out (hq))
    clear hq
    go_wp2_with fail
    refine (leanAfter_spec m f s _).mono ?_
    rintro e w2 ⟨rfl, hq⟩
    replace hb := hide (upB hb.out (hq))
    clear hq
    go_wp2_with fail
    refine (roomAfter_spec m f s _).mono ?_
    rintro e w3 ⟨Als, nls, cls, rfl, ho, hq⟩
    replace hb := hide (upB hb.out (hq))
    have hols := hide (ho.down (Nat.zero_le _))
    clear hq ho
    by_cases hok : roomArgs m f s = true
    · obtain ⟨M, F, S, rfl, rfl, rfl, h1, h6, hF, hS⟩ := roomArgs_yes hok
      have e0 : roomA (M : Int) (F : Int) (S : Int) = roomL M F S := by unfold roomA; rw [if_pos hok, Int.toNat_natCast, Int.toNat_natCast, Int.toNat_natCast]
      have eL : leanA (M : Int) (F : Int) (S : Int) = leanTo M (roomL M F S) (M + 1) := by unfold leanA; rw [if_pos hok, Int.toNat_natCast, Int.toNat_natCast, Int.toNat_natCast]
      rw [e0] at hols
      have hlen := hols.out.len
      rw [roomL_len] at hlen
      subst hlen
      have hne0 : ((M : Int) + 1 == 0) = false := by simp; omega
      rw [eL, room_lean h1 h6 hF hS]
      obtain ⟨b0, b1⟩ := lean_bound h1 h6 hF hS (Nat.le_refl _)
      rw [room_lean h1 h6 hF hS] at b0 b1
      have HP := hide (fun (k : Nat) (hk : k ≤ S) => pow_bound (k := k) h1 h6 (by omega))
      obtain ⟨x0, x1⟩ := pow_bound (k := S) h1 h6 hS
      unfold leanF at *
      obtain ⟨X, hX⟩ : ∃ X : Int, Hid (((M : Int) - 2) ^ S = X) := ⟨_, hide rfl⟩
      rw [hX.out] at b0 b1 x0 x1 ⊢
      clear e0 eL hok
      clear hols
      go_wp2_with fail
      refine (sameB (lawPowI_c ((M : Int) - 2) S _ (by omega) (by omega) (by omega) (fun k hk => by have := HP.out k hk; omega))).mono ?_
      rw [hX.out]
      rintro e w4 ⟨rfl, hq⟩
      replace hb := hide (upB hb.out (hq))
      clear hq
      go_wp2_with fail
      refine (alive_c _).mono ?_
      rintro e wz ⟨rfl, hq⟩
      go_wp2_with fail
      go_ret
      exact ⟨by simp, upB hb.out hq⟩
    · have eL : leanA m f s = 0 := by unfold leanA; rw [if_neg hok]
      rw [eL]
      have e0 : roomA m f s = [] := by unfold roomA; rw [if_neg hok]
      rw [e0] at hols
      have hlen : nls = 0 := hols.out.len
      subst hlen
      clear e0
      clear eL hok
      go_wp2_with fail
      refine (alive_c _).mono ?_
      rintro e wz ⟨rfl, hq⟩
      go_wp2_with fail
      go_ret
      exact ⟨by simp, upB hb.out hq⟩
end Go.Proofs.Ytpjbccdhfnhopaa
