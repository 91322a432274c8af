/-
  Laws of chapter 8 walked: FnFullWays, and what the laws of this chapter share (written by wip/gen_x1.py).
-/
import Derived.Test.YtfencbfjnifmjaaFallI
import Derived.Test.YtfencbfjnifmjaaDrawCh8
import Derived.Test.YtfencbfjnifmjaaZdraw
import Derived.Test.YtfencbfjnifmjaaPowI
namespace Go.Proofs.Ytfencbfjnifmjaa
open Go.RowKit
set_option linter.unusedVariables false

theorem lawFact_c (B : Nat) (w : World) (hB : B ≤ 6) :
    Calls Try.prog 17 #[.int .i64 (B : Int)] w fun e w' => e = .returned (.int .i64 (factN B : Int)) ∧ w = w' := by
  have HS := hide (fun j => show factN (j + 1) = (j + 1) * factN j from rfl)
  have HB := hide (fun k (hk : k ≤ 7) => fact_bound hk)
  have h01 : factN 0 = 1 := rfl
  have h11 : factN 1 = 1 := rfl
  go_enter Try.func17, Try.ntmps17
  go_wp2
  go_loop [3, 4] (fun t i => ∃ j : Nat, ∃ P : Int, (j + 1 ≤ B ∨ j = 0) ∧ i = .int .i64 ((j : Int) + 2) ∧ t = .int .i64 P ∧ Hid (P = (factN (j + 1) : Int))) (fun _ i => B + 2 - (intOf i).toNat)
  case atStart => exact ⟨0, 1, .inr rfl, rfl, rfl, hide rfl⟩
  case round =>
    obtain ⟨j, P, hj, rfl, rfl, hP⟩ := hrel
    by_cases hlt : j + 2 ≤ B
    · have hst := hide (show P * ((j : Int) + 2) = (factN (j + 2) : Int) by rw [hP.out, HS.out (j + 1), Int.natCast_mul, Int.mul_comm]; rfl)
      have b1 := HB.out (j + 1) (by omega)
      have hP0 : 0 ≤ P ∧ P ≤ 5040 := by rw [hP.out]; omega
      obtain ⟨p0, p1⟩ := hP0
      obtain ⟨q0, q1⟩ := mul_bound p0 p1 (b := (j : Int) + 2) (N := 6) (by omega) (by omega)
      clear b1
      go_wp2
      go_round
      case rel => exact ⟨j + 1, _, .inl (by omega), by go_num, rfl, hide hst.out⟩
      case measure => simp [intOf]; omega
    · have hfin := hide (show P = (factN B : Int) by
        rw [hP.out]
        rcases hj with h | h
        · rw [show j + 1 = B by omega]
        · subst h
          rcases Nat.lt_or_ge 0 B with hB0 | hB0
          · rw [show B = 1 by omega]
          · rw [show B = 0 by omega, h01, h11])
      have hlt : (B : Int) < (j : Int) + 2 := by omega
      go_wp2
      go_ret
      exact ⟨ret_int hfin.out, rfl⟩
theorem lawPowN_c (b m : Nat) (w : World) (h3 : b ≤ 6) (hm : m ≤ 7) :
    Calls Try.prog 21 #[.int .i64 (b : Int), .int .i64 (m : Int)] w fun e w' => e = .returned (.int .i64 ((b ^ m : Nat) : Int)) ∧ w = w' := by
  have := lawPowI_c (b : Int) m w (by omega) (by omega) (by omega) (fun k hk => by
    have h := pow_box (b := b) (m := k) h3 (by omega)
    rw [← Int.natCast_pow]
    omega)
  rwa [← Int.natCast_pow] at this

set_option maxRecDepth 100000 in
set_option maxHeartbeats 3200000 in
theorem lawFullWays {A : Option Addr} {n c : Nat} {bs : List Int} {w : World} (h : Bts w w.heap.size A n c bs) :
    Calls Try.prog 3 #[.slice A n c] w fun e w' => e = .returned (.bool true) ∧ Below w.heap.size w w' := by
  have hbig := h.big
  have hle := h.le
  unfold maxLen at hbig
  by_cases hn : 1048576 < n
  · go_enter Try.func3, Try.ntmps3
    go_wp2
    go_ret
    exact ⟨rfl, Below.refl _ _⟩
  · have hD := hide (DrawFullWays_c A n c bs w h)
    obtain ⟨i0, hi, hz0, hz1, hz2⟩ := info_parts infoInt
    go_enter Try.func3, Try.ntmps3
    go_wp2_with fail
    refine hD.out.mono ?_
    rintro e w0 ⟨x, y, rfl, hlox, hhix, hloy, hhiy, hb⟩
    replace hb := hide hb
    clear hD
    have hwx := wf_i64 (z := x) (by omega)
    have hwy := wf_i64 (z := y) (by omega)
    go_wp2_with fail
    refine (fullWays_impl x y _ hwx hwy).mono ?_
    rintro e w1 ⟨rfl, hq⟩
    replace hb := hide (upB hb.out (hq))
    clear hq
    go_wp2_with fail
    refine (sameB (fullWays_spec x y _)).mono ?_
    rintro e w2 ⟨rfl, hq⟩
    replace hb := hide (upB hb.out (hq))
    clear hq
    by_cases hok : fallOk x y = true
    · obtain ⟨N, B, rfl, rfl, h7, h1, h6⟩ := fallOk_yes hok
      have F := fall_facts h7 h1 h6
      replace F := hide F
      have hfb := full_bound h7 h6
      obtain ⟨u0, u1, u2, u3, u4⟩ := hfb
      rw [fullW_in h7 h1 h6]
      have hg := hide (groupsW_in h7 h6)
      have hful := F.out.full
      have hzer := F.out.zero
      have hfac := F.out.fac
      have HF := hide (lawFact_c B)
      clear F hok
      obtain ⟨Z, hZ⟩ : ∃ Z : Int, Hid (fullN N B = Z) := ⟨_, hide rfl⟩
      obtain ⟨G, hG⟩ : ∃ G : Nat, Hid (groupsN N B = G) := ⟨_, hide rfl⟩
      obtain ⟨K, hK⟩ : ∃ K : Nat, Hid (factN B = K) := ⟨_, hide rfl⟩
      rw [hZ.out] at hful hzer u0 u1 ⊢
      rw [hG.out] at hful u3 hg
      rw [hK.out] at hful hfac HF
      obtain ⟨p0, p1⟩ := mul_bound (a := (G : Int)) (M := 2000) (by omega) (by omega) (b := (K : Int)) (N := 720) (by omega) (by omega)
      have hfin : ((G : Int) * (K : Int) == Z) = true := by simpa using hful
      replace hful := hide hful
      by_cases hlt : N < B
      · obtain rfl : Z = 0 := hzer.2 hlt
        have hG0 : G = 0 := by rw [← hG.out]; exact groupsN_over N B hlt
        subst hG0
        clear hzer
        go_wp2_with fail
        refine (groupsOf_impl (N : Int) (B : Int) _ hwx hwy).mono ?_
        rw [hg.out]
        rintro e w3 ⟨rfl, hq⟩
        replace hb := hide (upB hb.out (hq))
        clear hq
        go_wp2_with fail
        refine (sameB (HF.out _ (by omega))).mono ?_
        rintro e w4 ⟨rfl, hq⟩
        replace hb := hide (upB hb.out (hq))
        clear hq
        go_wp2_with fail
        refine (alive_c _).mono ?_
        rintro e w5 ⟨rfl, hq⟩
        replace hb := hide (upB hb.out (hq))
        clear hq
        go_wp2_with fail
        go_ret
        exact ⟨by first | rfl | exact ret_bool hfin | simp, hb.out⟩
      · have hz0 : (Z == 0) = false := by simpa using fun e => hlt (hzer.1 e)
        clear hzer
        go_wp2_with fail
        refine (groupsOf_impl (N : Int) (B : Int) _ hwx hwy).mono ?_
        rw [hg.out]
        rintro e w6 ⟨rfl, hq⟩
        replace hb := hide (upB hb.out (hq))
        clear hq
        go_wp2_with fail
        refine (sameB (HF.out _ (by omega))).mono ?_
        rintro e w7 ⟨rfl, hq⟩
        replace hb := hide (upB hb.out (hq))
        clear hq
        go_wp2_with fail
        refine (alive_c _).mono ?_
        rintro e w8 ⟨rfl, hq⟩
        replace hb := hide (upB hb.out (hq))
        clear hq
        go_wp2_with fail
        go_ret
        exact ⟨by first | rfl | exact ret_bool hfin | simp, hb.out⟩
    · have hok : fallOk x y = false := by simpa using hok
      rw [fullW_out hok]
      clear hok
      go_wp2_with fail
      refine (alive_c _).mono ?_
      rintro e wz ⟨rfl, hq⟩
      go_wp2_with fail
      go_ret
      exact ⟨by simp, upB hb.out hq⟩
end Go.Proofs.Ytfencbfjnifmjaa
