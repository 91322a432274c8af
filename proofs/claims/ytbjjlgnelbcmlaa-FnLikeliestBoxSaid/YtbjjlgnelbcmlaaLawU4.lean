/-
  Laws of chapter 6 walked: FnLikeliestBox (written by wip/gen_u2.py).
-/
import Derived.Test.YtbjjlgnelbcmlaaLawU1
namespace Go.Proofs.Ytbjjlgnelbcmlaa
open Go.RowKit
set_option linter.unusedVariables false

set_option maxHeartbeats 3200000 in
theorem lawLikeliestBox {A : Option Addr} {n c : Nat} {bs : List Int} {w : World} (h : Bts w w.heap.size A n c bs) :
    Calls Try.prog 7 #[.slice A n c] w fun e w' => e = .returned (.bool true) ∧ Below w.heap.size w w' := by
  have hbig := h.big
  have hle := h.le
  unfold maxLen at hbig
  by_cases hn : 1048576 < n
  · go_enter Try.func7, Try.ntmps7
    go_wp2
    go_ret
    exact ⟨rfl, Below.refl _ _⟩
  · have hD := hide (DrawLikeliestBox_c A n c bs w h)
    obtain ⟨i0, hi, hz0, hz1, hz2⟩ := info_parts infoInt
    go_enter Try.func7, Try.ntmps7
    go_wp2_with fail
    refine hD.out.mono ?_
    rintro e w0 ⟨m, f, s, rfl, hlom, hhim, hlof, hhif, hlos, hhis, hb⟩
    replace hb := hide hb
    clear hD
    have hwm := wf_i64 (z := m) (by omega)
    have hwf := wf_i64 (z := f) (by omega)
    have hws := wf_i64 (z := s) (by omega)
    go_wp2_with fail
    refine (likeliestBox_impl m f s _ hwm hwf hws).mono ?_
    rintro e w1 ⟨rfl, hq⟩
    replace hb := hide (upB hb.out (hq))
    clear hq
    go_wp2_with fail
    refine (likeliestBox_spec m f s _).mono ?_
    rintro e w2 ⟨rfl, hq⟩
    replace hb := hide (upB hb.out (hq))
    clear hq
    by_cases hok : boxOk m f s = true
    · obtain ⟨M, F, S, rfl, rfl, rfl, h1, h8, hs⟩ := boxOk_yes hok
      have e0 : likeliB (M : Int) (F : Int) (S : Int) = (bestTo (bwN M F S) (M + 1) : Int) := by unfold likeliB; rw [if_pos hok, Int.toNat_natCast, Int.toNat_natCast, Int.toNat_natCast]
      have eW : boxW (M : Int) (F : Int) (S : Int) = boxL M F S := by unfold boxW; rw [if_pos hok, Int.toNat_natCast, Int.toNat_natCast, Int.toNat_natCast]
      obtain ⟨K, hK, b1, b2, b3, b4, b5⟩ := best_facts h1 h8 hs
      rw [e0, hK]
      replace b4 := hide b4
      replace b5 := hide b5
      replace b3 := hide b3
      clear e0 hK hok
      go_wp2_with fail
      refine (boxWeights_impl (M : Int) (F : Int) (S : Int) _ hwm hwf hws).mono ?_
      rintro e w3 ⟨Als, nls, cls, rfl, ho, hq⟩
      replace hb := hide (upB hb.out (hq))
      have hols := hide (ho.down (Nat.zero_le _))
      clear hq ho
      rw [eW] at hols
      have hlen := hols.out.len
      rw [boxL_len] at hlen
      subst hlen
      have hzls := hide hols.out.ints
      clear hols eW
      have hKM : K < M + 1 := by omega
      obtain ⟨g, off, y, rfl, hgB, hy, hcelly⟩ := hzls.out.look hKM
      obtain ⟨_, ey, y0, y1⟩ := boxL_elem h1 h8 hs hy.out
      replace ey := hide ey
      go_wp2_with fail
      go_loopw [8] (fun i wr => ∃ k q : Nat, k ≤ M + 1 ∧ i = .int .i64 k ∧ wr = w3.drewN q) (fun i _ => M + 1 - (intOf i).toNat)
      case atStart => exact ⟨0, 0, Nat.zero_le _, rfl, rfl⟩
      case round =>
        obtain ⟨k, q, hk, rfl, rfl⟩ := hrel
        by_cases hlt : k < M + 1
        · obtain ⟨g', off', x, hA', hgB', hx, hcellx⟩ := hzls.out.look hlt
          injection hA' with hA'
          injection hA' with e1 e2 _
          subst e1; subst e2
          obtain ⟨_, ex, x0, x1⟩ := boxL_elem h1 h8 hs hx.out
          have hxy : x ≤ y := by have := b4.out k (by omega); have := ey.out; omega
          have hxd : decide (y < x) = false := decide_eq_false (by omega)
          by_cases hkK : k < K
          · have hkd : decide ((k : Int) < (K : Int)) = true := decide_eq_true (by omega)
            have hne : (x == y) = false := by have := b5.out k hkK; have := ey.out; simp; omega
            clear ex
            go_wp2_with fail
            go_quiet (fail)
            go_wp2_with fail
            go_roundw
            case rel => exact ⟨k + 1, _, by omega, by go_num, rfl⟩
            case measure => simp [intOf]; omega
          · have hkd : decide ((k : Int) < (K : Int)) = false := decide_eq_false (by omega)
            clear ex
            go_wp2_with fail
            go_quiet (fail)
            go_wp2_with fail
            go_roundw
            case rel => exact ⟨k + 1, _, by omega, by go_num, rfl⟩
            case measure => simp [intOf]; omega
        · have hMS : (K : Int) ≤ (M : Int) - (S : Int) := by omega
          by_cases hz : F + S = 0
          · have hK0 : K = 0 := by have := b3.out; omega
            have hF0 : F = 0 := by omega
            have hS0 : S = 0 := by omega
            clear b3 b4 b5 ey hy hzls
            subst hK0; subst hF0; subst hS0
            go_wp2_with fail
            go_ret
            exact ⟨by simp, below_drewN hb.out _⟩
          · have hpos : 0 < (F : Int) + (S : Int) := by omega
            go_wp2_with fail
            go_ret
            exact ⟨by simp, below_drewN hb.out _⟩
    · have hok : boxOk m f s = false := by simpa using hok
      have e0 : likeliB m f s = -1 := by unfold likeliB; rw [hok]; rfl
      rw [e0]
      clear e0
      go_wp2_with fail
      refine (boxOk_impl m f s _ hwm hwf hws).mono ?_
      rw [hok]
      rintro e w4 ⟨rfl, hq⟩
      replace hb := hide (upB hb.out (hq))
      clear hq
      go_wp2_with fail
      refine (alive_c _).mono ?_
      rintro e wz ⟨rfl, hq⟩
      go_wp2_with fail
      go_ret
      exact ⟨by simp, upB hb.out hq⟩
end Go.Proofs.Ytbjjlgnelbcmlaa
