/-
  Laws of chapter 10 walked: FnRunSum (written by wip/gen_a2.py).
-/
import Derived.Test.YtghaajcpmepdoaaRunI
import Derived.Test.YtghaajcpmepdoaaDrawCh10
import Derived.Test.YtghaajcpmepdoaaZdraw
import Derived.Test.YtghaajcpmepdoaaZimp
namespace Go.Proofs.Ytghaajcpmepdoaa
open Go.RowKit
set_option linter.unusedVariables false

set_option maxRecDepth 100000 in
set_option maxHeartbeats 6400000 in
theorem lawRunSum {A : Option Addr} {n c : Nat} {bs : List Int} {w : World} (h : Bts w w.heap.size A n c bs) :
    Calls Try.prog 9 #[.slice A n c] w fun e w' => e = .returned (.bool true) ∧ Below w.heap.size w w' := by
  have hbig := h.big
  have hle := h.le
  unfold maxLen at hbig
  by_cases hn : 1048576 < n
  · go_enter Try.func9, Try.ntmps9
    go_wp2
    go_ret
    exact ⟨rfl, Below.refl _ _⟩
  · have hD := hide (DrawRunSum_c A n c bs w h)
    obtain ⟨i0, hi, hz0, hz1, hz2⟩ := info_parts infoInt
    go_enter Try.func9, Try.ntmps9
    go_wp2_with fail
    refine hD.out.mono ?_
    rintro e w0 ⟨f, s, rfl, hlof, hhif, hlos, hhis, hb⟩
    replace hb := hide hb
    clear hD
    have hwf := wf_i64 (z := f) (by omega)
    have hws := wf_i64 (z := s) (by omega)
    go_wp2_with fail
    refine (runSum_impl f s _ hwf hws).mono ?_
    rintro e w1 ⟨rfl, hq⟩
    replace hb := hide (upB hb.out (hq))
    clear hq
    go_wp2_with fail
    refine (runSum_spec f s _ hwf hws).mono ?_
    rintro e w2 ⟨rfl, hq⟩
    replace hb := hide (upB hb.out (hq))
    clear hq
    cases hp : pairOk f s with
    | false =>
      rw [show runS f s = -1 by unfold runS; rw [hp]; rfl]
      clear hp
      go_wp2_with fail
      refine (alive_c _).mono ?_
      rintro e wz ⟨rfl, hq⟩
      go_wp2_with fail
      go_ret
      exact ⟨by simp, upB hb.out hq⟩
    | true =>
      have hfs := of_decide_eq_true hp
      obtain ⟨F, rfl⟩ : ∃ F : Nat, f = (F : Int) := ⟨f.toNat, by omega⟩
      obtain ⟨S, rfl⟩ : ∃ S : Nat, s = (S : Int) := ⟨s.toNat, by omega⟩
      have hFS : F + S ≤ 6 := by omega
      have hs1 := run_sum hFS
      have HA := hide (show wordsWith 2 [(F : Int), (S : Int)] = mult [(F : Int), (S : Int)] by unfold wordsWith; rw [pairOk_row, hp]; rfl)
      have hmb := mult_bound (c := 2) (cs := [(F : Int), (S : Int)]) (by rw [pairOk_row]; exact hp)
      rw [show runS (F : Int) (S : Int) = runSumTo F S (F + S + 1) by unfold runS; rw [hp, Int.toNat_natCast, Int.toNat_natCast]; rfl, hs1]
      obtain ⟨W1, hW1⟩ : ∃ W, Hid (mult [(F : Int), (S : Int)] = W) := ⟨_, hide rfl⟩
      rw [hW1.out] at HA hmb ⊢
      obtain ⟨m0, m1⟩ := hmb
      clear hp hfs hs1
      rcases Nat.eq_zero_or_pos (F + S) with h0 | h0
      · obtain rfl : F = 0 := by omega
        obtain rfl : S = 0 := by omega
        rw [if_neg (by omega), if_neg (by omega)]
        go_wp2_with fail
        refine (alive_c _).mono ?_
        rintro e wz ⟨rfl, hq⟩
        go_wp2_with fail
        go_ret
        exact ⟨by simp, upB hb.out hq⟩
      · have hpos : 0 < (F : Int) + (S : Int) := by omega
        rw [if_pos h0]
        by_cases hb2 : 0 < F ∧ 0 < S
        · rw [if_pos hb2]
          obtain ⟨hF0, hS0⟩ := hb2
          have hpl : pairOk ((F : Int) - 1) ((S : Int) - 1) = true := decide_eq_true (by omega)
          have HB := hide (show wordsWith 2 [(F : Int) - 1, (S : Int) - 1] = mult [(F : Int) - 1, (S : Int) - 1] by unfold wordsWith; rw [pairOk_row, hpl]; rfl)
          have hmc := mult_bound (c := 2) (cs := [(F : Int) - 1, (S : Int) - 1]) (by rw [pairOk_row]; exact hpl)
          obtain ⟨W2, hW2⟩ : ∃ W, Hid (mult [(F : Int) - 1, (S : Int) - 1] = W) := ⟨_, hide rfl⟩
          rw [hW2.out] at HB hmc ⊢
          obtain ⟨n0, n1⟩ := hmc
          have hFp : 0 < (F : Int) := by omega
          have hSp : 0 < (S : Int) := by omega
          have hwf1 := wf_i64 (z := (F : Int) - 1) (by omega)
          have hws1 := wf_i64 (z := (S : Int) - 1) (by omega)
          obtain ⟨q0, q1⟩ := mul_bound (a := 2 * ((F : Int) + (S : Int) - 1)) (M := 10) (by omega) (by omega) n0 n1
          clear hpl hF0 hS0 h0
          have hlit := hide (ints_lit2 (w := w2) (x := (F : Int)) (y := (S : Int)) hwf hws)
          replace hb := hide (upB hb.out ((al w2 (.cells #[.int .i64 ((F : Int)), .int .i64 ((S : Int))] 3))))
          go_wp2_with fail
          refine (wordsWith_impl 2 _ _ _ _ [(F : Int), (S : Int)] _ hlit.out (by simp)).mono ?_
          rw [HA.out]
          rintro e wb1 ⟨rfl, hq2⟩
          replace hb := hide (upB hb.out (hq2))
          clear hq2 hlit
          have hlit := hide (ints_lit2 (w := wb1) (x := (F : Int) - 1) (y := (S : Int) - 1) hwf1 hws1)
          replace hb := hide (upB hb.out ((al wb1 (.cells #[.int .i64 ((F : Int) - 1), .int .i64 ((S : Int) - 1)] 3))))
          go_wp2_with fail
          refine (wordsWith_impl 2 _ _ _ _ [(F : Int) - 1, (S : Int) - 1] _ hlit.out (by simp)).mono ?_
          rw [HB.out]
          rintro e wb2 ⟨rfl, hq2⟩
          replace hb := hide (upB hb.out (hq2))
          clear hq2 hlit
          go_wp2_with fail
          refine (alive_c _).mono ?_
          rintro e wz ⟨rfl, hq⟩
          go_wp2_with fail
          go_ret
          exact ⟨by simp, upB hb.out hq⟩
        · rw [if_neg hb2]
          have hSF : F = 0 ∨ S = 0 := by omega
          clear hb2
          rcases hSF with rfl | rfl
          · have hSp : 0 < (S : Int) := by omega
            clear h0
            have hlit := hide (ints_lit2 (w := w2) (x := ((0 : Nat) : Int)) (y := (S : Int)) hwf hws)
            replace hb := hide (upB hb.out ((al w2 (.cells #[.int .i64 (((0 : Nat) : Int)), .int .i64 ((S : Int))] 3))))
            go_wp2_with fail
            refine (wordsWith_impl 2 _ _ _ _ [((0 : Nat) : Int), (S : Int)] _ hlit.out (by simp)).mono ?_
            rw [HA.out]
            rintro e wb3 ⟨rfl, hq2⟩
            replace hb := hide (upB hb.out (hq2))
            clear hq2 hlit
            go_wp2_with fail
            refine (alive_c _).mono ?_
            rintro e wz ⟨rfl, hq⟩
            go_wp2_with fail
            go_ret
            exact ⟨by simp, upB hb.out hq⟩
          · have hFp : 0 < (F : Int) := by omega
            clear h0
            have hlit := hide (ints_lit2 (w := w2) (x := (F : Int)) (y := ((0 : Nat) : Int)) hwf hws)
            replace hb := hide (upB hb.out ((al w2 (.cells #[.int .i64 ((F : Int)), .int .i64 (((0 : Nat) : Int))] 3))))
            go_wp2_with fail
            refine (wordsWith_impl 2 _ _ _ _ [(F : Int), ((0 : Nat) : Int)] _ hlit.out (by simp)).mono ?_
            rw [HA.out]
            rintro e wb4 ⟨rfl, hq2⟩
            replace hb := hide (upB hb.out (hq2))
            clear hq2 hlit
            go_wp2_with fail
            refine (alive_c _).mono ?_
            rintro e wz ⟨rfl, hq⟩
            go_wp2_with fail
            go_ret
            exact ⟨by simp, upB hb.out hq⟩
end Go.Proofs.Ytghaajcpmepdoaa
