/-
  Laws of chapter 6 walked: FnBoxOk, FnBoxSum (written by wip/gen_u1.py).
-/
import Derived.Test.YtbjjlgnelbcmlaaZdraw
import Derived.Test.YtbjjlgnelbcmlaaDrawCh6
import Derived.Test.YtbjjlgnelbcmlaaBoxI
import Derived.Test.YtbjjlgnelbcmlaaZbox
import Derived.Test.YtbjjlgnelbcmlaaZoks
namespace Go.Proofs.Ytbjjlgnelbcmlaa
open Go.RowKit
set_option linter.unusedVariables false

theorem urnOk_two {x y : Int} (hx : 0 ≤ x ∧ x ≤ 40) (hy : 0 ≤ y ∧ y ≤ 40) : urnOk [x, y] = true := by
  simp [urnOk, ballsOk, hx, hy]
theorem ints_lit2 {x y : Int} (hx : (Lit.int .i64 x).wf = true) (hy : (Lit.int .i64 y).wf = true) (w : World) : Ints (w.alloc (.cells #[.int .i64 x, .int .i64 y] 3)) (w.alloc (.cells #[.int .i64 x, .int .i64 y] 3)).heap.size (some ⟨w.heap.size, 0, none⟩) 2 2 [x, y] :=
  (ints_lit (w := w) [x, y] (by intro z hz; simp at hz; rcases hz with rfl | rfl <;> assumption) (by simp) rfl).ints

set_option maxHeartbeats 3200000 in
theorem lawBoxOk {A : Option Addr} {n c : Nat} {bs : List Int} {w : World} (h : Bts w w.heap.size A n c bs) :
    Calls Try.prog 3 #[.slice A n c] w fun e w' => e = .returned (.bool true) ∧ Below w.heap.size w w' := by
  have hbig := h.big
  have hle := h.le
  unfold maxLen at hbig
  by_cases hn : 1048576 < n
  · go_enter Try.func3, Try.ntmps3
    go_wp2
    go_ret
    exact ⟨rfl, Below.refl _ _⟩
  · have hD := hide (DrawBoxOk_c A n c bs w h)
    obtain ⟨i0, hi, hz0, hz1, hz2⟩ := info_parts infoInt
    go_enter Try.func3, Try.ntmps3
    go_wp2_with fail
    refine hD.out.mono ?_
    rintro e w0 ⟨m, f, s, rfl, hlom, hhim, hlof, hhif, hlos, hhis, hb⟩
    replace hb := hide hb
    clear hD
    have hwm := wf_i64 (z := m) (by omega)
    have hwf := wf_i64 (z := f) (by omega)
    have hws := wf_i64 (z := s) (by omega)
    go_wp2_with fail
    refine (boxOk_impl m f s _ hwm hwf hws).mono ?_
    rintro e w1 ⟨rfl, hq⟩
    replace hb := hide (upB hb.out (hq))
    clear hq
    go_wp2_with fail
    refine (sameB (boxOk_spec m f s _)).mono ?_
    rintro e w2 ⟨rfl, hq⟩
    replace hb := hide (upB hb.out (hq))
    clear hq
    have hw0 := wf_i64 (z := 0) (by omega)
    have hw1 := wf_i64 (z := 1) (by omega)
    have e3 : boxOk 1 0 1 = true := by decide
    have e4 : boxOk 0 0 0 = false := by decide
    by_cases hok : boxOk m f s = true
    · have e1 : boxOk m s f = true := by have := of_decide_eq_true hok; exact decide_eq_true (by omega)
      rw [hok]
      by_cases hf0 : f = 0
      · subst hf0
        clear hok
        go_wp2_with fail
        refine (boxOk_impl m s 0 _ hwm hws hw0).mono ?_
        rw [e1]
        rintro e w3 ⟨rfl, hq⟩
        replace hb := hide (upB hb.out (hq))
        clear hq
        go_wp2_with fail
        refine (boxOk_impl 1 0 1 _ hw1 hw0 hw1).mono ?_
        rw [e3]
        rintro e w4 ⟨rfl, hq⟩
        replace hb := hide (upB hb.out (hq))
        clear hq
        go_wp2_with fail
        refine (boxOk_impl 0 0 0 _ hw0 hw0 hw0).mono ?_
        rw [e4]
        rintro e w5 ⟨rfl, hq⟩
        replace hb := hide (upB hb.out (hq))
        clear hq
        go_wp2_with fail
        go_ret
        exact ⟨by simp, hb.out⟩
      · have e2 : boxOk m (f - 1) s = true := by have := of_decide_eq_true hok; exact decide_eq_true (by omega)
        have hf1 : 1 ≤ f := by have := of_decide_eq_true hok; omega
        have hwf1 := wf_i64 (z := f - 1) (by omega)
        have hfb : (f == 0) = false := by simpa using hf0
        clear hok hf0
        go_wp2_with fail
        refine (boxOk_impl m s f _ hwm hws hwf).mono ?_
        rw [e1]
        rintro e w6 ⟨rfl, hq⟩
        replace hb := hide (upB hb.out (hq))
        clear hq
        go_wp2_with fail
        refine (boxOk_impl m (f - 1) s _ hwm hwf1 hws).mono ?_
        rw [e2]
        rintro e w7 ⟨rfl, hq⟩
        replace hb := hide (upB hb.out (hq))
        clear hq
        go_wp2_with fail
        refine (boxOk_impl 1 0 1 _ hw1 hw0 hw1).mono ?_
        rw [e3]
        rintro e w8 ⟨rfl, hq⟩
        replace hb := hide (upB hb.out (hq))
        clear hq
        go_wp2_with fail
        refine (boxOk_impl 0 0 0 _ hw0 hw0 hw0).mono ?_
        rw [e4]
        rintro e w9 ⟨rfl, hq⟩
        replace hb := hide (upB hb.out (hq))
        clear hq
        go_wp2_with fail
        go_ret
        exact ⟨by simp, hb.out⟩
    · have hok : boxOk m f s = false := by simpa using hok
      have e1 : boxOk m s f = false := by have := of_decide_eq_false hok; exact decide_eq_false (by omega)
      rw [hok]
      clear hok
      go_wp2_with fail
      refine (boxOk_impl m s f _ hwm hws hwf).mono ?_
      rw [e1]
      rintro e w10 ⟨rfl, hq⟩
      replace hb := hide (upB hb.out (hq))
      clear hq
      go_wp2_with fail
      refine (boxOk_impl 1 0 1 _ hw1 hw0 hw1).mono ?_
      rw [e3]
      rintro e w11 ⟨rfl, hq⟩
      replace hb := hide (upB hb.out (hq))
      clear hq
      go_wp2_with fail
      refine (boxOk_impl 0 0 0 _ hw0 hw0 hw0).mono ?_
      rw [e4]
      rintro e w12 ⟨rfl, hq⟩
      replace hb := hide (upB hb.out (hq))
      clear hq
      go_wp2_with fail
      go_ret
      exact ⟨by simp, hb.out⟩

set_option maxHeartbeats 3200000 in
theorem lawBoxSum {A : Option Addr} {n c : Nat} {bs : List Int} {w : World} (h : Bts w w.heap.size A n c bs) :
    Calls Try.prog 4 #[.slice A n c] w fun e w' => e = .returned (.bool true) ∧ Below w.heap.size w w' := by
  have hbig := h.big
  have hle := h.le
  unfold maxLen at hbig
  by_cases hn : 1048576 < n
  · go_enter Try.func4, Try.ntmps4
    go_wp2
    go_ret
    exact ⟨rfl, Below.refl _ _⟩
  · have hD := hide (DrawBoxSum_c A n c bs w h)
    obtain ⟨i0, hi, hz0, hz1, hz2⟩ := info_parts infoInt
    go_enter Try.func4, Try.ntmps4
    go_wp2_with fail
    refine hD.out.mono ?_
    rintro e w0 ⟨m, f, s, rfl, hlom, hhim, hlof, hhif, hlos, hhis, hb⟩
    replace hb := hide hb
    clear hD
    have hwm := wf_i64 (z := m) (by omega)
    have hwf := wf_i64 (z := f) (by omega)
    have hws := wf_i64 (z := s) (by omega)
    go_wp2_with fail
    refine (boxSum_impl m f s _ hwm hwf hws).mono ?_
    rintro e w1 ⟨rfl, hq⟩
    replace hb := hide (upB hb.out (hq))
    clear hq
    go_wp2_with fail
    refine (boxSum_spec m f s _).mono ?_
    rintro e w2 ⟨rfl, hq⟩
    replace hb := hide (upB hb.out (hq))
    clear hq
    by_cases hok : boxOk m f s = true
    · obtain ⟨M, F, S, rfl, rfl, rfl, h1, h8, hs⟩ := boxOk_yes hok
      have e0 : boxSum (M : Int) (F : Int) (S : Int) = (boxT M F S (M + 1) : Int) := by unfold boxSum; rw [if_pos hok, Int.toNat_natCast, Int.toNat_natCast, Int.toNat_natCast]
      obtain ⟨t0, t1, _, _⟩ := sum_bound h1 h8 hs
      have hw0 := wf_i64 (z := 0) (by omega)
      rw [e0]
      by_cases hF0 : F = 0
      · subst hF0
        have e1 : boxSum (M : Int) 0 0 = (M : Int) + 1 := by
          have hbn := box_none h1 h8
          unfold boxSum
          rw [if_pos (show boxOk (M : Int) 0 0 = true from boxOk_mk (F := 0) (S := 0) h1 h8 (by omega)), Int.toNat_natCast]
          simp only [Int.toNat_zero]
          omega
        generalize boxT M 0 S (M + 1) = T at t0 t1 ⊢
        clear hok e0
        go_wp2_with fail
        refine (boxSum_impl (M : Int) 0 0 _ hwm hw0 hw0).mono ?_
        rw [e1]
        rintro e w3 ⟨rfl, hq⟩
        replace hb := hide (upB hb.out (hq))
        clear hq
        go_wp2_with fail
        go_ret
        exact ⟨by simp, hb.out⟩
      · have hbs := box_step h1 h8 hs hF0
        obtain ⟨t2, t3, _, _⟩ := sum_bound (F := F - 1) (S := S) h1 h8 (by omega)
        have e1 : boxSum (M : Int) ((F : Int) - 1) (S : Int) = (boxT M (F - 1) S (M + 1) : Int) := by
          rw [show (F : Int) - 1 = ((F - 1 : Nat) : Int) by omega]
          unfold boxSum
          rw [if_pos (boxOk_mk h1 h8 (by omega)), Int.toNat_natCast, Int.toNat_natCast, Int.toNat_natCast]
        have hwf1 := wf_i64 (z := (F : Int) - 1) (by omega)
        obtain ⟨T, hT⟩ : ∃ T : Nat, Hid (boxT M F S (M + 1) = T) := ⟨_, hide rfl⟩
        obtain ⟨U, hU⟩ : ∃ U : Nat, Hid (boxT M (F - 1) S (M + 1) = U) := ⟨_, hide rfl⟩
        rw [hT.out] at hbs t0 t1 ⊢
        rw [hU.out] at hbs t2 t3 e1
        have hfb : ((F : Int) == 0) = false := by simp; omega
        have hF8 : F ≤ 8 := by omega
        have hS8 : S ≤ 8 := by omega
        obtain ⟨p0, p1⟩ := mul_bound (a := (T : Int)) (M := 1000000) (by omega) (by omega) (b := (F : Int) + (S : Int) + 1) (N := 9) (by omega) (by omega)
        obtain ⟨p2, p3⟩ := mul_bound (a := (U : Int)) (M := 1000000) (by omega) (by omega) (b := (F : Int)) (N := 8) (by omega) (by omega)
        obtain ⟨p4, p5⟩ := mul_bound p2 p3 (b := (M : Int) - (F : Int) - (S : Int) + 1) (N := 9) (by omega) (by omega)
        have hfin : ((T : Int) * ((F : Int) + (S : Int) + 1) == (U : Int) * (F : Int) * ((M : Int) - (F : Int) - (S : Int) + 1)) = true := by
          have e : ((T * (F + S + 1) : Nat) : Int) = ((U * F * (M - F - S + 1) : Nat) : Int) := by rw [hbs]
          rw [Int.natCast_mul, Int.natCast_mul, Int.natCast_mul, Int.natCast_add, Int.natCast_add, Int.natCast_add, Int.natCast_sub (by omega), Int.natCast_sub (by omega)] at e
          simpa using e
        clear hok e0 hF0 hbs
        go_wp2_with fail
        refine (boxSum_impl (M : Int) ((F : Int) - 1) (S : Int) _ hwm hwf1 hws).mono ?_
        rw [e1]
        rintro e w4 ⟨rfl, hq⟩
        replace hb := hide (upB hb.out (hq))
        clear hq
        go_wp2_with fail
        go_ret
        exact ⟨by first | rfl | exact ret_bool hfin | simp, hb.out⟩
    · have e0 : boxSum m f s = -1 := by unfold boxSum; rw [if_neg hok]
      rw [e0]
      clear e0 hok
      go_wp2_with fail
      refine (alive_c _).mono ?_
      rintro e wz ⟨rfl, hq⟩
      go_wp2_with fail
      go_ret
      exact ⟨by simp, upB hb.out hq⟩
end Go.Proofs.Ytbjjlgnelbcmlaa
