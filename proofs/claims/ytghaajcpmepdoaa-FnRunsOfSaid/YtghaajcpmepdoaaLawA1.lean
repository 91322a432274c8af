/-
  Laws of chapter 10 walked: FnRunsOf (written by wip/gen_a1.py).
-/
import Derived.Test.YtghaajcpmepdoaaRunI
import Derived.Test.YtghaajcpmepdoaaDrawCh10
import Derived.Test.YtghaajcpmepdoaaZdraw
import Derived.Test.YtghaajcpmepdoaaZimp
namespace Go.Proofs.Ytghaajcpmepdoaa
open Go.RowKit
set_option linter.unusedVariables false

set_option maxRecDepth 100000 in
set_option maxHeartbeats 6400000 in
theorem lawRunsOf {A : Option Addr} {n c : Nat} {bs : List Int} {w : World} (h : Bts w w.heap.size A n c bs) :
    Calls Try.prog 3 #[.slice A n c] w fun e w' => e = .returned (.bool true) ∧ Below w.heap.size w w' := by
  have hbig := h.big
  have hle := h.le
  unfold maxLen at hbig
  by_cases hn : 1048576 < n
  · go_enter Try.func3, Try.ntmps3
    go_wp2
    go_ret
    exact ⟨rfl, Below.refl _ _⟩
  · have hD := hide (DrawRunsOf_c A n c bs w h)
    obtain ⟨i0, hi, hz0, hz1, hz2⟩ := info_parts infoInt
    go_enter Try.func3, Try.ntmps3
    go_wp2_with fail
    refine hD.out.mono ?_
    rintro e w0 ⟨Aws, nws, cws, ws, cl, rfl, hzws, hnws, hlocl, hhicl, hb⟩
    have hlws := hide hzws.len
    replace hzws := hide hzws
    replace hb := hide hb
    clear hD
    go_wp2_with fail
    refine (runsOf_impl cl _ _ _ _ ws _ hzws.out (Nat.le_refl _)).mono ?_
    rintro e w1 ⟨rfl, hq⟩
    replace hzws := hide (hzws.out.up hq)
    replace hb := hide (upB hb.out (hq))
    clear hq
    go_wp2_with fail
    refine (quietB (runsOf_spec cl _ _ _ _ ws _ hzws.out)).mono ?_
    rintro e w2 ⟨rfl, hq⟩
    replace hzws := hide (hzws.out.up hq)
    replace hb := hide (upB hb.out (hq))
    clear hq
    cases hok : wordOk cl ws with
    | false =>
      have he : runsF cl ws = -1 := by unfold runsF; rw [hok]; rfl
      rw [he]
      replace hok := hide hok
      clear he
      have HW := hide (fun W (h : Ints W W.heap.size Aws nws cws ws) => wordOk_impl cl _ _ _ _ ws W h (Nat.le_refl _))
      rw [hok.out] at HW
      go_wp2_with fail
      refine (HW.out _ hzws.out).mono ?_
      rintro e wa ⟨rfl, hq⟩
      replace hzws := hide (hzws.out.up hq)
      replace hb := hide (upB hb.out (hq))
      clear hq
      go_wp2_with fail
      refine (alive_c _).mono ?_
      rintro e wz ⟨rfl, hq⟩
      go_wp2_with fail
      go_ret
      exact ⟨by simp, upB hb.out hq⟩
    | true =>
      obtain ⟨k1, k2, k3, k4⟩ := wordOk_yes hok
      have hf := word_fine hok
      have hn6 : nws ≤ 6 := by have := hlws.out; omega
      have he : runsF cl ws = (runsTo ws nws : Int) := by unfold runsF; rw [hok, hlws.out]; rfl
      have hRV := hide (show runsF cl ws.reverse = (runsTo ws nws : Int) by unfold runsF; rw [wordOk_reverse, hok, List.length_reverse, hf.back, hlws.out]; rfl)
      rw [he]
      clear he
      have hP := hide (fun (k : Nat) (hk : k ≤ nws) => show runsF cl (ws.take k) = (runsTo (ws.take k) k : Int) by
        unfold runsF; rw [wordOk_mk k1 k2 (by rw [List.length_take]; omega) (fun j x _ hx => k4 x (List.mem_of_mem_take (List.mem_of_getElem? hx))), List.length_take, Nat.min_eq_left (by have := hlws.out; omega)]; rfl)
      have hD := hide (fun (k : Nat) (hk : k ≤ nws) => show runsF cl (ws.drop k) = (runsTo (ws.drop k) (nws - k) : Int) by
        unfold runsF; rw [wordOk_mk k1 k2 (by rw [List.length_drop]; omega) (fun j x _ hx => k4 x (List.mem_of_mem_drop (List.mem_of_getElem? hx))), List.length_drop, hlws.out]; rfl)
      have htwo := hf.two
      rw [hlws.out] at htwo
      have hTle := runsTo_le ws nws
      have hEm := hide (show runsF cl [] = 0 by unfold runsF; rw [wordOk_mk k1 k2 (by simp) (fun j x hj => by simp at hj)]; rfl)
      obtain ⟨T, hT⟩ : ∃ T, Hid (runsTo ws nws = T) := ⟨_, hide rfl⟩
      rw [hT.out] at htwo hRV hTle ⊢
      replace htwo := hide htwo
      clear hok hf k1 k2 k3 k4
      have hobk := hide (own_empty (w := w2) (base := 0) (Nat.zero_le _))
      replace hzws := hide (hzws.out.up (al _ (.cells #[] 3)))
      replace hb := hide (upB hb.out ((al _ (.cells #[] 3))))
      go_wp2_with fail
      go_loopw [6, 7] (fun v i wr => ∃ k : Nat, ∃ B d f, k ≤ nws ∧ i = .int .i64 k ∧ v = .slice B d f ∧ Hid (Own wr 0 (.slice B d f) (ws.take k).reverse) ∧ Hid (Ints wr wr.heap.size Aws nws cws ws) ∧ Hid (Below w.heap.size w wr)) (fun _ i _ => nws - (intOf i).toNat)
      case atStart => exact ⟨0, _, _, _, Nat.zero_le _, rfl, rfl, hobk, hzws, hb⟩
      case round =>
        clear hobk hzws hb
        obtain ⟨k, B, d, f, hk, rfl, rfl, hobk, hzws, hb⟩ := hrel
        by_cases hlt : k < nws
        · obtain ⟨b, off, x, rfl, hbB, hx, hcell⟩ := hzws.out.look hlt
          have hwx := hide (hzws.out.wf_at hx.out)
          have hld := hide hobk.out.len
          go_wp2_with (at_builtin; refine wpList_app _ rfl _ _ 23 rfl i0 Try.underlying23 hi hz0 hz1 hz2 _ [x] rfl (ints_lit [x] (by intro y hy; simp at hy; subst hy; exact hwx.out) (by simp) rfl) _ d f _ (ws.take k).reverse rfl (hobk.out.alloc _).ints (by simp) (by have := hld.out; rw [List.length_reverse, List.length_take] at this; simp; omega) ?_; intro A₃ n₃ c₃ w3 ho3 hg3)
          have hq := al_grown hg3 (Nat.le_refl _)
          have ho3 := hide (show Own w3 0 (.slice A₃ n₃ c₃) (ws.take (k + 1)).reverse by
            rw [take_succ hx.out, List.reverse_append]
            exact ho3.down (Nat.zero_le _))
          clear hg3 hcell
          replace hzws := hide (hzws.out.up hq)
          replace hb := hide (upB hb.out (hq))
          clear hq hobk
          go_wp2
          go_roundw
          case rel => exact ⟨k + 1, _, _, _, by omega, by go_num, rfl, ho3, hzws, hb⟩
          case measure => simp [intOf]; omega
        · obtain rfl : k = nws := by omega
          obtain ⟨nws, hk0⟩ : ∃ m, m = k := ⟨_, rfl⟩
          subst hk0
          replace hobk := hide (show Own wr 0 (.slice B d f) ws.reverse by
            have := hobk.out
            rwa [List.take_of_length_le (by have := hlws.out; omega)] at this)
          by_cases hn0 : 0 < nws
          · obtain ⟨b, off, x, rfl, hbB, hx, hcell⟩ := hzws.out.look hn0
            obtain ⟨H, hH⟩ : ∃ H : Nat, Hid (nws / 2 = H) := ⟨_, hide rfl⟩
            have hH2 : H ≤ nws := by have := hH.out; omega
            have hdiv : (nws : Int) / 2 = (H : Int) := by have := hH.out; omega
            have H1 := hide (fun W (hq : Below wr.heap.size wr W) => runsOf_impl cl _ _ _ _ (ws.take H) W ((hzws.out.up hq).takeS hH2) (Nat.le_refl _))
            have H2 := hide (fun W (hq : Below wr.heap.size wr W) => runsOf_impl cl _ _ _ _ (ws.drop H) W ((hzws.out.up hq).dropS hH2) (Nat.le_refl _))
            have H3 := hide (fun W (hq : Below wr.heap.size wr W) => runsOf_impl cl _ _ _ _ ws.reverse W (hobk.out.up hq).ints (Nat.le_refl _))
            rw [hP.out H hH2] at H1
            rw [hD.out H hH2] at H2
            rw [hRV.out] at H3
            have htw := htwo.out
            rw [hH.out] at htw
            have hXle := runsTo_le (ws.take H) H
            have hYle := runsTo_le (ws.drop H) (nws - H)
            obtain ⟨X, hX⟩ : ∃ X, Hid (runsTo (ws.take H) H = X) := ⟨_, hide rfl⟩
            obtain ⟨Y, hY⟩ : ∃ Y, Hid (runsTo (ws.drop H) (nws - H) = Y) := ⟨_, hide rfl⟩
            rw [hX.out] at H1 htw hXle
            rw [hY.out] at H2 htw hYle
            clear hcell
            have hcap := hzws.out.le
            have hcb := hzws.out.big
            unfold maxLen at hcb
            have hcap2 : H ≤ cws := by omega
            have hwv : IntKind.i64.wrap ((X : Int) + (Y : Int)) = (X : Int) + (Y : Int) := IntWalk.i64_in _ (by omega)
            rcases htw with htw | htw
            · have hd1 : ((X : Int) + (Y : Int) == (T : Int)) = true := by simp; omega
              clear htw
              go_wp2_with fail
              go_region_with (first | (go_at_call 12; (with_reducible refine (H1.out _ ?_).mono ?_); (focus (repeat (first | assumption | exact Below.refl _ _ | refine Below.drew ?_ | refine upB ?_ (by assumption))); done); rintro e w' ⟨rfl, hq⟩) | (go_at_call 12; (with_reducible refine (H2.out _ ?_).mono ?_); (focus (repeat (first | assumption | exact Below.refl _ _ | refine Below.drew ?_ | refine upB ?_ (by assumption))); done); rintro e w' ⟨rfl, hq⟩))
              all_goals
                go_wp2_with (first | (go_at_call 12; (with_reducible refine (H3.out _ ?_).mono ?_); (focus (repeat (first | assumption | exact Below.refl _ _ | refine Below.drew ?_ | refine upB ?_ (by assumption))); done); rintro e w' ⟨rfl, hq⟩) | (go_at_call 15; refine (alive_c _).mono ?_; rintro e w' ⟨rfl, hq⟩))
                go_ret
                exact ⟨by simp, by repeat (first | exact hb.out | exact Below.refl _ _ | refine Below.drew ?_ | refine upB ?_ (by assumption))⟩
            · have hd1 : ((X : Int) + (Y : Int) == (T : Int)) = false := by simp; omega
              have hd2 : ((X : Int) + (Y : Int) == (T : Int) + 1) = true := by simp; omega
              clear htw
              go_wp2_with fail
              go_region_with (first | (go_at_call 12; (with_reducible refine (H1.out _ ?_).mono ?_); (focus (repeat (first | assumption | exact Below.refl _ _ | refine Below.drew ?_ | refine upB ?_ (by assumption))); done); rintro e w' ⟨rfl, hq⟩) | (go_at_call 12; (with_reducible refine (H2.out _ ?_).mono ?_); (focus (repeat (first | assumption | exact Below.refl _ _ | refine Below.drew ?_ | refine upB ?_ (by assumption))); done); rintro e w' ⟨rfl, hq⟩))
              all_goals
                go_wp2_with (first | (go_at_call 12; (with_reducible refine (H3.out _ ?_).mono ?_); (focus (repeat (first | assumption | exact Below.refl _ _ | refine Below.drew ?_ | refine upB ?_ (by assumption))); done); rintro e w' ⟨rfl, hq⟩) | (go_at_call 15; refine (alive_c _).mono ?_; rintro e w' ⟨rfl, hq⟩))
                go_ret
                exact ⟨by simp, by repeat (first | exact hb.out | exact Below.refl _ _ | refine Below.drew ?_ | refine upB ?_ (by assumption))⟩
          · obtain rfl : nws = 0 := by omega
            obtain rfl : ws = [] := List.eq_nil_of_length_eq_zero hlws.out
            have hcb := hzws.out.big
            have hnil := hide hzws.out.nil0
            have HE := hide (fun W (A : Option Addr) (h0 : A = none → cws = 0) => (Ints.emptyS hcb h0 : Ints W W.heap.size A 0 cws []))
            have H1 := hide (fun W A h0 (hq : Below wr.heap.size wr W) => runsOf_impl cl _ _ _ _ [] W (HE.out W A h0) (Nat.le_refl _))
            have H3 := hide (fun W (hq : Below wr.heap.size wr W) => runsOf_impl cl _ _ _ _ [] W (hobk.out.up hq).ints (Nat.le_refl _))
            rw [hEm.out] at H1 H3
            obtain rfl : 0 = T := hT.out
            unfold maxLen at hcb
            cases Aws with
            | none =>
              have hc0 : cws = 0 := hnil.out rfl
              subst hc0
              go_wp2_with fail
              go_region_with (first | (go_at_call 12; (with_reducible refine (H1.out _ none (by intros; first | trivial | rfl) ?_).mono ?_); (focus (repeat (first | assumption | exact Below.refl _ _ | refine Below.drew ?_ | refine upB ?_ (by assumption))); done); rintro e w' ⟨rfl, hq⟩))
              all_goals
                go_wp2_with (first | (go_at_call 12; (with_reducible refine (H3.out _ ?_).mono ?_); (focus (repeat (first | assumption | exact Below.refl _ _ | refine Below.drew ?_ | refine upB ?_ (by assumption))); done); rintro e w' ⟨rfl, hq⟩) | (go_at_call 15; refine (alive_c _).mono ?_; rintro e w' ⟨rfl, hq⟩))
                go_ret
                exact ⟨by simp, by repeat (first | exact hb.out | exact Below.refl _ _ | refine Below.drew ?_ | refine upB ?_ (by assumption))⟩
            | some x =>
              go_wp2_with fail
              go_region_with (first | (go_at_call 12; (with_reducible refine (H1.out _ (some _) (fun e => by cases e) ?_).mono ?_); (focus (repeat (first | assumption | exact Below.refl _ _ | refine Below.drew ?_ | refine upB ?_ (by assumption))); done); rintro e w' ⟨rfl, hq⟩))
              all_goals
                go_wp2_with (first | (go_at_call 12; (with_reducible refine (H3.out _ ?_).mono ?_); (focus (repeat (first | assumption | exact Below.refl _ _ | refine Below.drew ?_ | refine upB ?_ (by assumption))); done); rintro e w' ⟨rfl, hq⟩) | (go_at_call 15; refine (alive_c _).mono ?_; rintro e w' ⟨rfl, hq⟩))
                go_ret
                exact ⟨by simp, by repeat (first | exact hb.out | exact Below.refl _ _ | refine Below.drew ?_ | refine upB ?_ (by assumption))⟩
end Go.Proofs.Ytghaajcpmepdoaa
