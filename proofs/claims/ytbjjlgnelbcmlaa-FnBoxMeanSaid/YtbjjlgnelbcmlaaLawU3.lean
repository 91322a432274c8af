/-
  Laws of chapter 6 walked: FnBoxMean (written by wip/gen_u1.py).
-/
import Derived.Test.YtbjjlgnelbcmlaaLawU1
namespace Go.Proofs.Ytbjjlgnelbcmlaa
open Go.RowKit
set_option linter.unusedVariables false

set_option maxHeartbeats 3200000 in
theorem lawBoxMean {A : Option Addr} {n c : Nat} {bs : List Int} {w : World} (h : Bts w w.heap.size A n c bs) :
    Calls Try.prog 6 #[.slice A n c] w fun e w' => e = .returned (.bool true) ∧ Below w.heap.size w w' := by
  have hbig := h.big
  have hle := h.le
  unfold maxLen at hbig
  by_cases hn : 1048576 < n
  · go_enter Try.func6, Try.ntmps6
    go_wp2
    go_ret
    exact ⟨rfl, Below.refl _ _⟩
  · have hD := hide (DrawBoxMean_c A n c bs w h)
    obtain ⟨i0, hi, hz0, hz1, hz2⟩ := info_parts infoInt
    go_enter Try.func6, Try.ntmps6
    go_wp2_with fail
    refine hD.out.mono ?_
    rintro e w0 ⟨m, f, s, rfl, hlom, hhim, hlof, hhif, hlos, hhis, hb⟩
    replace hb := hide hb
    clear hD
    have hwm := wf_i64 (z := m) (by omega)
    have hwf := wf_i64 (z := f) (by omega)
    have hws := wf_i64 (z := s) (by omega)
    go_wp2_with fail
    refine (boxMean_impl m f s _ hwm hwf hws).mono ?_
    rintro e w1 ⟨rfl, hq⟩
    replace hb := hide (upB hb.out (hq))
    clear hq
    go_wp2_with fail
    refine (boxMean_spec m f s _).mono ?_
    rintro e w2 ⟨rfl, hq⟩
    replace hb := hide (upB hb.out (hq))
    clear hq
    by_cases hok : boxOk m f s = true
    · have hok2 : boxOk m s f = true := by have := of_decide_eq_true hok; exact decide_eq_true (by omega)
      rw [hok]
      obtain ⟨M, F, S, rfl, rfl, rfl, h1, h8, hs⟩ := boxOk_yes hok
      have eN : meanN (M : Int) (F : Int) (S : Int) = (overN (meanA M F S) (meanC M F S) : Int) := by unfold meanN; rw [if_pos hok, Int.toNat_natCast, Int.toNat_natCast, Int.toNat_natCast]
      have eD : meanD (M : Int) (F : Int) (S : Int) = (overN (meanC M F S) (meanA M F S) : Int) := by unfold meanD; rw [if_pos hok, Int.toNat_natCast, Int.toNat_natCast, Int.toNat_natCast]
      have eU : meanN (M : Int) (S : Int) (F : Int) = (overN (meanA M S F) (meanC M S F) : Int) := by unfold meanN; rw [if_pos hok2, Int.toNat_natCast, Int.toNat_natCast, Int.toNat_natCast]
      have eV : meanD (M : Int) (S : Int) (F : Int) = (overN (meanC M S F) (meanA M S F) : Int) := by unfold meanD; rw [if_pos hok2, Int.toNat_natCast, Int.toNat_natCast, Int.toNat_natCast]
      obtain ⟨g1, g2, g3, g4, g5, g6⟩ := mean_facts h1 h8 hs
      obtain ⟨k1, k2, k3, _, _, _⟩ := mean_facts (F := S) (S := F) h1 h8 (by omega)
      have hnx : F + S < M → overN (nextA M F S) (nextC M F S) ≤ 10 ∧ overN (nextC M F S) (nextA M F S) ≤ 10 := fun h => ⟨(next_facts h1 h8 h).2.2.2.1, (next_facts h1 h8 h).2.2.2.2⟩
      have hnxN : F + S < M → nextN (M : Int) (F : Int) (S : Int) = (overN (nextA M F S) (nextC M F S) : Int) ∧ nextD (M : Int) (F : Int) (S : Int) = (overN (nextC M F S) (nextA M F S) : Int) ∧ leftOk (M : Int) (F : Int) (S : Int) = true := fun h => by
        have hlf : leftOk (M : Int) (F : Int) (S : Int) = true := by unfold leftOk; rw [hok, decide_eq_true (by omega)]; rfl
        refine ⟨?_, ?_, hlf⟩
        · unfold nextN; rw [if_pos hlf, Int.toNat_natCast, Int.toNat_natCast, Int.toNat_natCast]
        · unfold nextD; rw [if_pos hlf, Int.toNat_natCast, Int.toNat_natCast, Int.toNat_natCast]
      have hnx0 : F + S = M → nextN (M : Int) (F : Int) (S : Int) = 0 ∧ nextD (M : Int) (F : Int) (S : Int) = 0 ∧ leftOk (M : Int) (F : Int) (S : Int) = false := fun h => by
        have hlf : leftOk (M : Int) (F : Int) (S : Int) = false := by unfold leftOk; rw [decide_eq_false (by omega), Bool.and_false]
        exact ⟨by unfold nextN; rw [hlf]; rfl, by unfold nextD; rw [hlf]; rfl, hlf⟩
      rw [eN, eD]
      obtain ⟨N, hN⟩ : ∃ N : Nat, Hid (overN (meanA M F S) (meanC M F S) = N) := ⟨_, hide rfl⟩
      obtain ⟨D, hD⟩ : ∃ D : Nat, Hid (overN (meanC M F S) (meanA M F S) = D) := ⟨_, hide rfl⟩
      obtain ⟨U, hU⟩ : ∃ U : Nat, Hid (overN (meanA M S F) (meanC M S F) = U) := ⟨_, hide rfl⟩
      obtain ⟨V, hV⟩ : ∃ V : Nat, Hid (overN (meanC M S F) (meanA M S F) = V) := ⟨_, hide rfl⟩
      rw [hN.out, hD.out, hU.out, hV.out] at g4
      rw [hN.out] at g3 g5 g6 ⊢
      rw [hD.out] at g1 g2 g5 g6 ⊢
      rw [hU.out] at k3 eU
      rw [hV.out] at k1 k2 eV
      obtain ⟨P, hP⟩ : ∃ P : Nat, Hid (overN (nextA M F S) (nextC M F S) = P) := ⟨_, hide rfl⟩
      obtain ⟨Q, hQ⟩ : ∃ Q : Nat, Hid (overN (nextC M F S) (nextA M F S) = Q) := ⟨_, hide rfl⟩
      rw [hP.out, hQ.out] at g6 hnx hnxN
      have hF8 : F ≤ 8 := by omega
      have hS8 : S ≤ 8 := by omega
      obtain ⟨p0, p1⟩ := mul_bound (a := (N : Int)) (M := 1000) (by omega) (by omega) (b := (V : Int)) (N := 100) (by omega) (by omega)
      obtain ⟨p2, p3⟩ := mul_bound (a := (U : Int)) (M := 1000) (by omega) (by omega) (b := (D : Int)) (N := 100) (by omega) (by omega)
      obtain ⟨p4, p5⟩ := mul_bound (a := (M : Int)) (M := 8) (by omega) (by omega) (b := (D : Int)) (N := 100) (by omega) (by omega)
      obtain ⟨p6, p7⟩ := mul_bound p4 p5 (b := (V : Int)) (N := 100) (by omega) (by omega)
      obtain ⟨p8, p9⟩ := mul_bound (a := (F : Int)) (M := 8) (by omega) (by omega) (b := (D : Int)) (N := 100) (by omega) (by omega)
      have hfin1 : ((N : Int) * (V : Int) + (U : Int) * (D : Int) == (M : Int) * (D : Int) * (V : Int)) = true := by
        have e : ((N * V + U * D : Nat) : Int) = ((M * D * V : Nat) : Int) := by rw [g4]
        rw [Int.natCast_add, Int.natCast_mul, Int.natCast_mul, Int.natCast_mul, Int.natCast_mul] at e
        simpa using e
      have hD1 : decide ((D : Int) ≥ 1) = true := decide_eq_true (by omega)
      clear hok eN eD g4
      have eU := hide eU
      have eV := hide eV
      have hok2 := hide hok2
      rcases Nat.lt_or_ge (F + S) M with hlt | hge
      · obtain ⟨n1, n2, n3⟩ := hnxN hlt
        have n1 := hide n1
        have n2 := hide n2
        have n3 := hide n3
        obtain ⟨b1, b2⟩ := hnx hlt
        replace g6 := g6 hlt
        obtain ⟨r0, r1⟩ := mul_bound (a := (N : Int)) (M := 1000) (by omega) (by omega) (b := (Q : Int)) (N := 10) (by omega) (by omega)
        obtain ⟨r2, r3⟩ := mul_bound (a := (F : Int)) (M := 8) (by omega) (by omega) (b := (Q : Int)) (N := 10) (by omega) (by omega)
        obtain ⟨r4, r5⟩ := mul_bound (a := (M : Int) - (F : Int) - (S : Int)) (M := 8) (by omega) (by omega) (b := (P : Int)) (N := 10) (by omega) (by omega)
        obtain ⟨r6, r7⟩ := mul_bound (a := (D : Int)) (M := 100) (by omega) (by omega) (b := (F : Int) * (Q : Int) + ((M : Int) - (F : Int) - (S : Int)) * (P : Int)) (N := 160) (by omega) (by omega)
        have hfin2 : ((N : Int) * (Q : Int) == (D : Int) * ((F : Int) * (Q : Int) + ((M : Int) - (F : Int) - (S : Int)) * (P : Int))) = true := by
          have e : ((N * Q : Nat) : Int) = ((D * (F * Q + (M - F - S) * P) : Nat) : Int) := by rw [g6]
          rw [Int.natCast_mul, Int.natCast_mul, Int.natCast_add, Int.natCast_mul, Int.natCast_mul, Int.natCast_sub (by omega), Int.natCast_sub (by omega)] at e
          simpa using e
        clear hnx hnxN hnx0 g5 g6
        go_wp2_with fail
        refine (nextChance_impl (M : Int) (F : Int) (S : Int) _ hwm hwf hws).mono ?_
        rw [n1.out, n2.out, n3.out]
        rintro e w3 ⟨rfl, hq⟩
        replace hb := hide (upB hb.out (hq))
        clear hq
        go_wp2_with fail
        refine (boxMean_impl (M : Int) (S : Int) (F : Int) _ hwm hws hwf).mono ?_
        rw [eU.out, eV.out, hok2.out]
        rintro e w4 ⟨rfl, hq⟩
        replace hb := hide (upB hb.out (hq))
        clear hq
        go_wp2_with fail
        go_ret
        exact ⟨by simp, hb.out⟩
      · have hge2 : F + S = M := by omega
        obtain ⟨n1, n2, n3⟩ := hnx0 hge2
        have n1 := hide n1
        have n2 := hide n2
        have n3 := hide n3
        replace g5 := g5 hge2
        have hfin2 : ((N : Int) == (F : Int) * (D : Int)) = true := by
          have e : ((N : Nat) : Int) = ((F * D : Nat) : Int) := by rw [g5]
          rw [Int.natCast_mul] at e
          simpa using e
        replace hfin2 := hide hfin2
        clear hnx hnxN hnx0 g5 g6
        go_wp2_with fail
        refine (nextChance_impl (M : Int) (F : Int) (S : Int) _ hwm hwf hws).mono ?_
        rw [n1.out, n2.out, n3.out]
        rintro e w5 ⟨rfl, hq⟩
        replace hb := hide (upB hb.out (hq))
        clear hq
        go_wp2_with fail
        refine (boxMean_impl (M : Int) (S : Int) (F : Int) _ hwm hws hwf).mono ?_
        rw [eU.out, eV.out, hok2.out]
        rintro e w6 ⟨rfl, hq⟩
        replace hb := hide (upB hb.out (hq))
        clear hq
        go_wp2_with fail
        go_ret
        exact ⟨ret_bool hfin2.out, hb.out⟩
    · have hok : boxOk m f s = false := by simpa using hok
      have eN : meanN m f s = 0 := by unfold meanN; rw [hok]; rfl
      have eD : meanD m f s = 0 := by unfold meanD; rw [hok]; rfl
      rw [eN, eD, hok]
      clear eN eD hok
      go_wp2_with fail
      refine (alive_c _).mono ?_
      rintro e wz ⟨rfl, hq⟩
      go_wp2_with fail
      go_ret
      exact ⟨by simp, upB hb.out hq⟩
end Go.Proofs.Ytbjjlgnelbcmlaa
