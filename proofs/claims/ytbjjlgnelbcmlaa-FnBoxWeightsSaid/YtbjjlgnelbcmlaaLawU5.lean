/-
  Laws of chapter 6 walked: FnBoxWeights (written by wip/gen_u2.py).
-/
import Derived.Test.YtbjjlgnelbcmlaaLawU1
namespace Go.Proofs.Ytbjjlgnelbcmlaa
open Go.RowKit
set_option linter.unusedVariables false

set_option maxHeartbeats 3200000 in
theorem lawBoxWeights {A : Option Addr} {n c : Nat} {bs : List Int} {w : World} (h : Bts w w.heap.size A n c bs) :
    Calls Try.prog 8 #[.slice A n c] w fun e w' => e = .returned (.bool true) ∧ Below w.heap.size w w' := by
  have hbig := h.big
  have hle := h.le
  unfold maxLen at hbig
  by_cases hn : 1048576 < n
  · go_enter Try.func8, Try.ntmps8
    go_wp2
    go_ret
    exact ⟨rfl, Below.refl _ _⟩
  · have hD := hide (DrawBoxWeights_c A n c bs w h)
    obtain ⟨i0, hi, hz0, hz1, hz2⟩ := info_parts infoInt
    go_enter Try.func8, Try.ntmps8
    go_wp2_with fail
    refine hD.out.mono ?_
    rintro e w0 ⟨m, f, s, rfl, hlom, hhim, hlof, hhif, hlos, hhis, hb⟩
    replace hb := hide hb
    clear hD
    have hwm := wf_i64 (z := m) (by omega)
    have hwf := wf_i64 (z := f) (by omega)
    have hws := wf_i64 (z := s) (by omega)
    go_wp2_with fail
    refine (boxWeights_impl m f s _ hwm hwf hws).mono ?_
    rintro e w1 ⟨Als, nls, cls, rfl, ho, hq⟩
    replace hb := hide (upB hb.out (hq))
    have hols := hide (ho.down (Nat.zero_le _))
    clear hq ho
    go_wp2_with fail
    refine (boxWeights_spec m f s _).mono ?_
    rintro e w2 ⟨Ass, nss, css, rfl, ho, hq⟩
    replace hols := hide (hols.out.up hq)
    replace hb := hide (upB hb.out (hq))
    have hoss := hide (ho.down (Nat.zero_le _))
    clear hq ho
    have hsame := hide (sameL_refl (boxW m f s))
    go_wp2_with fail
    refine (quietB (sameInts_c _ _ _ _ _ _ _ _ (boxW m f s) (boxW m f s) _ hols.out.ints hoss.out.ints)).mono ?_
    rw [hsame.out]
    rintro e w3 ⟨rfl, hq⟩
    replace hols := hide (hols.out.up hq)
    replace hoss := hide (hoss.out.up hq)
    replace hb := hide (upB hb.out (hq))
    clear hq
    clear hoss
    clear hsame
    by_cases hok : boxOk m f s = true
    · obtain ⟨M, F, S, rfl, rfl, rfl, h1, h8, hs⟩ := boxOk_yes hok
      have eW : boxW (M : Int) (F : Int) (S : Int) = boxL M F S := by unfold boxW; rw [if_pos hok, Int.toNat_natCast, Int.toNat_natCast, Int.toNat_natCast]
      have eO : boxW (M : Int) (S : Int) (F : Int) = boxL M S F := by unfold boxW; rw [if_pos (boxOk_mk h1 h8 (by omega)), Int.toNat_natCast, Int.toNat_natCast, Int.toNat_natCast]
      rw [eW] at hols
      have hlen := hols.out.len
      rw [boxL_len] at hlen
      subst hlen
      have hne0 : ((M : Int) + 1 == 0) = false := by simp; omega
      clear eW hok
      go_wp2_with fail
      refine (boxWeights_impl (M : Int) (S : Int) (F : Int) _ hwm hws hwf).mono ?_
      rintro e w4 ⟨Aoo, noo, coo, rfl, ho, hq⟩
      replace hols := hide (hols.out.up hq)
      replace hb := hide (upB hb.out (hq))
      have hooo := hide (ho.down (Nat.zero_le _))
      clear hq ho
      rw [eO] at hooo
      have hlen := hooo.out.len
      rw [boxL_len] at hlen
      subst hlen
      have hzls := hide hols.out.ints
      have hzoo := hide hooo.out.ints
      clear hols hooo eO
      go_wp2_with fail
      go_loopw [8] (fun i wr => ∃ k q : Nat, k ≤ M + 1 ∧ i = .int .i64 k ∧ wr = w4.drewN q) (fun i _ => M + 1 - (intOf i).toNat)
      case atStart => exact ⟨0, 0, Nat.zero_le _, rfl, rfl⟩
      case round =>
        obtain ⟨k, q, hk, rfl, rfl⟩ := hrel
        by_cases hlt : k < M + 1
        · obtain ⟨g, off, x, rfl, hgB, hx, hcellx⟩ := hzls.out.look hlt
          obtain ⟨j, hjM, hjk⟩ : ∃ j : Nat, (M : Int) - (k : Int) = (j : Int) ∧ j = M - k := ⟨M - k, by omega, rfl⟩
          have hj1 : j < M + 1 := by omega
          obtain ⟨g', off', y, rfl, hgB', hy, hcelly⟩ := hzoo.out.look hj1
          obtain ⟨_, ex, x0, x1⟩ := boxL_elem h1 h8 hs hx.out
          obtain ⟨_, ey, y0, y1⟩ := boxL_elem (F := S) (S := F) h1 h8 (by omega) hy.out
          have hxy : y = x := by
            rw [ex, ey, hjk, bw_mirror M F S k (by omega)]
          clear hjk
          subst hxy
          have hbz := bw_zero h1 h8 hs (w := k) (by omega)
          by_cases c1 : k < F
          · have hx0 : y = 0 := by rw [ex, hbz.2 (.inl c1)]; rfl
            subst hx0
            clear ex ey hbz
            go_wp2_with fail
            go_quiet (fail)
            go_wp2_with fail
            go_roundw
            case rel => exact ⟨k + 1, _, by omega, by go_num, rfl⟩
            case measure => simp [intOf]; omega
          · by_cases c2 : (M : Int) - (S : Int) < (k : Int)
            · have hx0 : y = 0 := by rw [ex, hbz.2 (.inr (by omega))]; rfl
              subst hx0
              clear ex ey hbz
              go_wp2_with fail
              go_quiet (fail)
              go_wp2_with fail
              go_roundw
              case rel => exact ⟨k + 1, _, by omega, by go_num, rfl⟩
              case measure => simp [intOf]; omega
            · have hx0 : (y == 0) = false := by
                have : bwN M F S k ≠ 0 := fun e => by have := hbz.1 e; omega
                simp; omega
              clear ex ey hbz
              go_wp2_with fail
              go_quiet (fail)
              go_wp2_with fail
              go_roundw
              case rel => exact ⟨k + 1, _, by omega, by go_num, rfl⟩
              case measure => simp [intOf]; omega
        · go_wp2_with fail
          go_ret
          exact ⟨by simp, below_drewN hb.out _⟩
    · have hok : boxOk m f s = false := by simpa using hok
      have eW : boxW m f s = [] := by unfold boxW; rw [hok]; rfl
      rw [eW] at hols
      have hlen : nls = 0 := hols.out.len
      subst hlen
      clear eW
      go_wp2_with fail
      refine (boxOk_impl m f s _ hwm hwf hws).mono ?_
      rw [hok]
      rintro e w5 ⟨rfl, hq⟩
      replace hols := hide (hols.out.up hq)
      replace hb := hide (upB hb.out (hq))
      clear hq
      go_wp2_with fail
      refine (alive_c _).mono ?_
      rintro e wz ⟨rfl, hq⟩
      go_wp2_with fail
      go_ret
      exact ⟨by simp, upB hb.out hq⟩
end Go.Proofs.Ytbjjlgnelbcmlaa
