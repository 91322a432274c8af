/-
  Laws of chapter 6 walked: FnNextChance (written by wip/gen_u1.py).
-/
import Derived.Test.YtbjjlgnelbcmlaaLawU1
namespace Go.Proofs.Ytbjjlgnelbcmlaa
open Go.RowKit
set_option linter.unusedVariables false

set_option maxHeartbeats 3200000 in
theorem lawNextChance {A : Option Addr} {n c : Nat} {bs : List Int} {w : World} (h : Bts w w.heap.size A n c bs) :
    Calls Try.prog 5 #[.slice A n c] w fun e w' => e = .returned (.bool true) ∧ Below w.heap.size w w' := by
  have hbig := h.big
  have hle := h.le
  unfold maxLen at hbig
  by_cases hn : 1048576 < n
  · go_enter Try.func5, Try.ntmps5
    go_wp2
    go_ret
    exact ⟨rfl, Below.refl _ _⟩
  · have hD := hide (DrawNextChance_c A n c bs w h)
    obtain ⟨i0, hi, hz0, hz1, hz2⟩ := info_parts infoInt
    go_enter Try.func5, Try.ntmps5
    go_wp2_with fail
    refine hD.out.mono ?_
    rintro e w0 ⟨m, f, s, rfl, hlom, hhim, hlof, hhif, hlos, hhis, hb⟩
    replace hb := hide hb
    clear hD
    have hwm := wf_i64 (z := m) (by omega)
    have hwf := wf_i64 (z := f) (by omega)
    have hws := wf_i64 (z := s) (by omega)
    go_wp2_with fail
    refine (nextChance_impl m f s _ hwm hwf hws).mono ?_
    rintro e w1 ⟨rfl, hq⟩
    replace hb := hide (upB hb.out (hq))
    clear hq
    go_wp2_with fail
    refine (nextChance_spec m f s _).mono ?_
    rintro e w2 ⟨rfl, hq⟩
    replace hb := hide (upB hb.out (hq))
    clear hq
    by_cases hlf : leftOk m f s = true
    · obtain ⟨hok, hlt⟩ := Bool.and_eq_true_iff.1 hlf
      have hlt := of_decide_eq_true hlt
      obtain ⟨M, F, S, rfl, rfl, rfl, h1, h8, hs⟩ := boxOk_yes hok
      have eN : nextN (M : Int) (F : Int) (S : Int) = (overN (nextA M F S) (nextC M F S) : Int) := by unfold nextN; rw [if_pos hlf, Int.toNat_natCast, Int.toNat_natCast, Int.toNat_natCast]
      have eD : nextD (M : Int) (F : Int) (S : Int) = (overN (nextC M F S) (nextA M F S) : Int) := by unfold nextD; rw [if_pos hlf, Int.toNat_natCast, Int.toNat_natCast, Int.toNat_natCast]
      obtain ⟨f1, f2, f3, f4, f5⟩ := next_facts h1 h8 (show F + S < M by omega)
      have hur : urnOk [(F : Int) + 1, (S : Int) + 1] = true := urnOk_two (by omega) (by omega)
      have hsm : isum [(F : Int) + 1, (S : Int) + 1] = ((F + S + 2 : Nat) : Int) := by simp [isum]; omega
      have hba : ballsAt [(F : Int) + 1, (S : Int) + 1] 0 = ((F + 1 : Nat) : Int) := by simp [ballsAt]
      have hhf : hasF [(F : Int) + 1, (S : Int) + 1] 0 = true := by
        unfold hasF
        rw [hur, hsm]
        simp; omega
      have cN : chN [(F : Int) + 1, (S : Int) + 1] 0 = (overN (nextA M F S) (nextC M F S) : Int) := by
        unfold chN
        rw [if_pos hhf, hba, hsm, overN_int, f1]
      have cD : chD [(F : Int) + 1, (S : Int) + 1] 0 = (overN (nextC M F S) (nextA M F S) : Int) := by
        unfold chD
        rw [if_pos hhf, hba, hsm, overN_int2, f2]
      rw [eN, eD, hlf]
      obtain ⟨N, hN⟩ : ∃ N : Nat, Hid (overN (nextA M F S) (nextC M F S) = N) := ⟨_, hide rfl⟩
      obtain ⟨D, hD⟩ : ∃ D : Nat, Hid (overN (nextC M F S) (nextA M F S) = D) := ⟨_, hide rfl⟩
      rw [hN.out, hD.out] at f3
      rw [hN.out] at f4 cN ⊢
      rw [hD.out] at f5 cD ⊢
      have hF8 : F ≤ 8 := by omega
      have hS8 : S ≤ 8 := by omega
      obtain ⟨p0, p1⟩ := mul_bound (a := (N : Int)) (M := 10) (by omega) (by omega) (b := (F : Int) + (S : Int) + 2) (N := 10) (by omega) (by omega)
      obtain ⟨p2, p3⟩ := mul_bound (a := (D : Int)) (M := 10) (by omega) (by omega) (b := (F : Int) + 1) (N := 9) (by omega) (by omega)
      have hfin : ((N : Int) * ((F : Int) + (S : Int) + 2) == (D : Int) * ((F : Int) + 1)) = true := by
        have e : ((N * (F + S + 2) : Nat) : Int) = ((D * (F + 1) : Nat) : Int) := by rw [f3]
        rw [Int.natCast_mul, Int.natCast_mul, Int.natCast_add, Int.natCast_add, Int.natCast_add] at e
        simpa using e
      have hw2 := ints_lit2 (x := (F : Int) + 1) (y := (S : Int) + 1) (wf_i64 (z := (F : Int) + 1) (by omega)) (wf_i64 (z := (S : Int) + 1) (by omega))
      clear hlf hok hlt eN eD f1 f2 f3 hur hsm hba
      replace cN := hide cN
      replace cD := hide cD
      replace hhf := hide hhf
      go_wp2_with fail
      refine (chanceOf_impl _ _ _ _ _ 0 _ (hw2 _)).mono ?_
      rintro e w3 ⟨rfl, q, rfl⟩
      rw [cN.out, cD.out, hhf.out]
      go_wp2_with fail
      go_ret
      exact ⟨by simp, below_drewN (upB hb.out (al _ _)) _⟩
    · have hlf : leftOk m f s = false := by simpa using hlf
      have eN : nextN m f s = 0 := by unfold nextN; rw [hlf]; rfl
      have eD : nextD m f s = 0 := by unfold nextD; rw [hlf]; rfl
      rw [eN, eD, hlf]
      clear eN eD hlf
      go_wp2_with fail
      refine (alive_c _).mono ?_
      rintro e wz ⟨rfl, hq⟩
      go_wp2_with fail
      go_ret
      exact ⟨by simp, upB hb.out hq⟩
end Go.Proofs.Ytbjjlgnelbcmlaa
