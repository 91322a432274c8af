/-
  Laws of chapter 10 walked: FnLongestRun (written by wip/gen_a1.py).
-/
import Derived.Test.YtghaajcpmepdoaaRunI
import Derived.Test.YtghaajcpmepdoaaDrawCh10
import Derived.Test.YtghaajcpmepdoaaZdraw
import Derived.Test.YtghaajcpmepdoaaZimp
namespace Go.Proofs.Ytghaajcpmepdoaa
open Go.RowKit
set_option linter.unusedVariables false

set_option maxRecDepth 100000 in
set_option maxHeartbeats 6400000 in
theorem lawLongestRun {A : Option Addr} {n c : Nat} {bs : List Int} {w : World} (h : Bts w w.heap.size A n c bs) :
    Calls Try.prog 5 #[.slice A n c] w fun e w' => e = .returned (.bool true) ∧ Below w.heap.size w w' := by
  have hbig := h.big
  have hle := h.le
  unfold maxLen at hbig
  by_cases hn : 1048576 < n
  · go_enter Try.func5, Try.ntmps5
    go_wp2
    go_ret
    exact ⟨rfl, Below.refl _ _⟩
  · have hD := hide (DrawLongestRun_c A n c bs w h)
    obtain ⟨i0, hi, hz0, hz1, hz2⟩ := info_parts infoInt
    go_enter Try.func5, Try.ntmps5
    go_wp2_with fail
    refine hD.out.mono ?_
    rintro e w0 ⟨Aws, nws, cws, ws, cl, rfl, hzws, hnws, hlocl, hhicl, hb⟩
    have hlws := hide hzws.len
    replace hzws := hide hzws
    replace hb := hide hb
    clear hD
    go_wp2_with fail
    refine (longestRun_impl cl _ _ _ _ ws _ hzws.out (Nat.le_refl _)).mono ?_
    rintro e w1 ⟨rfl, hq⟩
    replace hzws := hide (hzws.out.up hq)
    replace hb := hide (upB hb.out (hq))
    clear hq
    go_wp2_with fail
    refine (quietB (longestRun_spec cl _ _ _ _ ws _ hzws.out)).mono ?_
    rintro e w2 ⟨rfl, hq⟩
    replace hzws := hide (hzws.out.up hq)
    replace hb := hide (upB hb.out (hq))
    clear hq
    cases hok : wordOk cl ws with
    | false =>
      have he : longF cl ws = -1 := by unfold longF; rw [hok]; rfl
      rw [he]
      replace hok := hide hok
      clear he
      have HW := hide (fun W (h : Ints W W.heap.size Aws nws cws ws) => wordOk_impl cl _ _ _ _ ws W h (Nat.le_refl _))
      rw [hok.out] at HW
      go_wp2_with fail
      refine (HW.out _ hzws.out).mono ?_
      rintro e wa ⟨rfl, hq⟩
      replace hzws := hide (hzws.out.up hq)
      replace hb := hide (upB hb.out (hq))
      clear hq
      go_wp2_with fail
      refine (alive_c _).mono ?_
      rintro e wz ⟨rfl, hq⟩
      go_wp2_with fail
      go_ret
      exact ⟨by simp, upB hb.out hq⟩
    | true =>
      obtain ⟨k1, k2, k3, k4⟩ := wordOk_yes hok
      have hf := word_fine hok
      have hn6 : nws ≤ 6 := by have := hlws.out; omega
      have he : longF cl ws = (streakTo ws nws : Int) := by unfold longF; rw [hok, hlws.out]; rfl
      have hRV := hide (show longF cl ws.reverse = (streakTo ws nws : Int) by unfold longF; rw [wordOk_reverse, hok, List.length_reverse, hf.backB, hlws.out]; rfl)
      rw [he]
      clear he
      have hall := hf.all
      have hmost := hf.most
      have hnone := hf.none_
      have hSle := streakTo_le ws nws
      have hTle := runsTo_le ws nws
      rw [hlws.out] at hall hmost hnone
      have hRF := hide (show runsF cl ws = (runsTo ws nws : Int) by unfold runsF; rw [hok, hlws.out]; rfl)
      obtain ⟨T, hT⟩ : ∃ T, Hid (runsTo ws nws = T) := ⟨_, hide rfl⟩
      obtain ⟨S, hS⟩ : ∃ S, Hid (streakTo ws nws = S) := ⟨_, hide rfl⟩
      rw [hS.out] at hall hmost hnone hRV hSle ⊢
      rw [hT.out] at hall hmost hRF hTle
      have hge := hide (show (nws : Int) ≤ (S : Int) * (T : Int) by rw [← Int.natCast_mul]; omega)
      obtain ⟨q0, q1⟩ := mul_bound (a := (S : Int)) (M := 6) (by omega) (by omega) (b := (T : Int)) (N := 6) (by omega) (by omega)
      clear hok hf k1 k2 k3 k4 hall
      have hobk := hide (own_empty (w := w2) (base := 0) (Nat.zero_le _))
      replace hzws := hide (hzws.out.up (al _ (.cells #[] 3)))
      replace hb := hide (upB hb.out ((al _ (.cells #[] 3))))
      go_wp2_with fail
      go_loopw [6, 7] (fun v i wr => ∃ k : Nat, ∃ B d f, k ≤ nws ∧ i = .int .i64 k ∧ v = .slice B d f ∧ Hid (Own wr 0 (.slice B d f) (ws.take k).reverse) ∧ Hid (Ints wr wr.heap.size Aws nws cws ws) ∧ Hid (Below w.heap.size w wr)) (fun _ i _ => nws - (intOf i).toNat)
      case atStart => exact ⟨0, _, _, _, Nat.zero_le _, rfl, rfl, hobk, hzws, hb⟩
      case round =>
        clear hobk hzws hb
        obtain ⟨k, B, d, f, hk, rfl, rfl, hobk, hzws, hb⟩ := hrel
        by_cases hlt : k < nws
        · obtain ⟨b, off, x, rfl, hbB, hx, hcell⟩ := hzws.out.look hlt
          have hwx := hide (hzws.out.wf_at hx.out)
          have hld := hide hobk.out.len
          go_wp2_with (at_builtin; refine wpList_app _ rfl _ _ 23 rfl i0 Try.underlying23 hi hz0 hz1 hz2 _ [x] rfl (ints_lit [x] (by intro y hy; simp at hy; subst hy; exact hwx.out) (by simp) rfl) _ d f _ (ws.take k).reverse rfl (hobk.out.alloc _).ints (by simp) (by have := hld.out; rw [List.length_reverse, List.length_take] at this; simp; omega) ?_; intro A₃ n₃ c₃ w3 ho3 hg3)
          have hq := al_grown hg3 (Nat.le_refl _)
          have ho3 := hide (show Own w3 0 (.slice A₃ n₃ c₃) (ws.take (k + 1)).reverse by
            rw [take_succ hx.out, List.reverse_append]
            exact ho3.down (Nat.zero_le _))
          clear hg3 hcell
          replace hzws := hide (hzws.out.up hq)
          replace hb := hide (upB hb.out (hq))
          clear hq hobk
          go_wp2
          go_roundw
          case rel => exact ⟨k + 1, _, _, _, by omega, by go_num, rfl, ho3, hzws, hb⟩
          case measure => simp [intOf]; omega
        · obtain rfl : k = nws := by omega
          obtain ⟨nws, hk0⟩ : ∃ m, m = k := ⟨_, rfl⟩
          subst hk0
          replace hobk := hide (show Own wr 0 (.slice B d f) ws.reverse by
            have := hobk.out
            rwa [List.take_of_length_le (by have := hlws.out; omega)] at this)
          go_wp2_with fail
          refine (runsOf_impl cl _ _ _ _ ws _ hzws.out (Nat.le_refl _)).mono ?_
          rw [hRF.out]
          rintro e w3 ⟨rfl, hq⟩
          replace hzws := hide (hzws.out.up hq)
          replace hobk := hide (hobk.out.up hq)
          replace hb := hide (upB hb.out (hq))
          clear hq
          go_wp2_with fail
          refine (longestRun_impl cl _ _ _ _ ws.reverse _ hobk.out.ints (Nat.le_refl _)).mono ?_
          rw [hRV.out]
          rintro e w4 ⟨rfl, hq⟩
          replace hzws := hide (hzws.out.up hq)
          replace hobk := hide (hobk.out.up hq)
          replace hb := hide (upB hb.out (hq))
          clear hq
          have hge2 := hge.out
          obtain ⟨P, hP⟩ : ∃ P, Hid ((S : Int) * (T : Int) = P) := ⟨_, hide rfl⟩
          rcases Nat.eq_zero_or_pos nws with hn0 | hn0
          · obtain rfl : S = 0 := by omega
            obtain rfl : nws = 0 := hn0
            obtain rfl : T = 0 := by omega
            go_wp2_with fail
            refine (alive_c _).mono ?_
            rintro e wz ⟨rfl, hq⟩
            go_wp2_with fail
            go_ret
            exact ⟨by simp, upB hb.out hq⟩
          · have hm1 : (S : Int) + (T : Int) - 1 ≤ (nws : Int) := by omega
            have hn1 : 0 < (nws : Int) := by omega
            have hn2 : ((nws : Int) == 0) = false := by simp; omega
            go_wp2_with fail
            refine (alive_c _).mono ?_
            rintro e wz ⟨rfl, hq⟩
            go_wp2_with fail
            go_ret
            exact ⟨by simp <;> omega, upB hb.out hq⟩
end Go.Proofs.Ytghaajcpmepdoaa
