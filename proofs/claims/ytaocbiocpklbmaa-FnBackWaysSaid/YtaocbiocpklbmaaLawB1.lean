/-
  Laws of chapter 3 walked: FnBackWays (written by wip/gen_b1.py).
-/
import Derived.Test.YtaocbiocpklbmaaLawAid
import Derived.Test.YtaocbiocpklbmaaDrawBack
import Derived.Test.YtaocbiocpklbmaaBackK
import Derived.Test.YtaocbiocpklbmaaBackS
import Derived.Test.YtaocbiocpklbmaaAidW
import Derived.Deep.RegionWith
namespace Go.Proofs.Ytaocbiocpklbmaa
open Go.RowKit
set_option linter.unusedVariables false

set_option maxHeartbeats 3200000 in
theorem lawBackWays {A : Option Addr} {n c : Nat} {bs : List Int} {w : World} (h : Bts w w.heap.size A n c bs) :
    Calls Try.prog 3 #[.slice A n c] w fun e w' => e = .returned (.bool true) ∧ Below w.heap.size w w' := by
  have hbig := h.big
  have hle := h.le
  unfold maxLen at hbig
  by_cases hn : 1048576 < n
  · go_enter Try.func3, Try.ntmps3
    go_wp2
    go_ret
    exact ⟨rfl, Below.refl _ _⟩
  · have hD := hide (DrawBackWays_c A n c bs w h)
    obtain ⟨i0, hi, hz0, hz1, hz2⟩ := info_parts infoInt
    go_enter Try.func3, Try.ntmps3
    go_wp2_with fail
    refine hD.out.mono ?_
    rintro e w0 ⟨Azs, nzs, czs, zs, Aws, nws, cws, ws, rfl, hzzs, hnzs, hzws, hnws, hb⟩
    have hlzs := hide hzzs.len
    replace hzzs := hide hzzs
    have hlws := hide hzws.len
    replace hzws := hide hzws
    replace hb := hide hb
    clear hD
    go_wp2_with fail
    refine (backWays_impl _ _ _ _ _ _ _ _ zs ws _ hzzs.out hzws.out (Nat.le_refl _) (Nat.le_refl _)).mono ?_
    rintro e w1 ⟨rfl, hq⟩
    replace hzzs := hide (hzzs.out.up hq)
    replace hzws := hide (hzws.out.up hq)
    replace hb := hide (upB hb.out (hq))
    clear hq
    go_wp2_with fail
    refine (sameB (backWays_spec _ _ _ _ _ _ _ _ zs ws _ hzzs.out hzws.out)).mono ?_
    rintro e w2 ⟨rfl, hq⟩
    replace hzzs := hide (hzzs.out.up hq)
    replace hzws := hide (hzws.out.up hq)
    replace hb := hide (upB hb.out (hq))
    clear hq
    by_cases hok : (urnOk zs && wordOk (zs.length : Int) ws) = true
    · have he : backWays zs ws = bw zs ws := by unfold backWays; rw [if_pos hok]
      obtain ⟨hu, hwk⟩ := Bool.and_eq_true_iff.1 hok
      obtain ⟨k1, k2, k3, k4⟩ := wordOk_yes hwk
      have hn6 : nws ≤ 6 := by have := hlws.out; omega
      have hzm := urnOk_mem hu
      have hRV := hide (show backWays zs ws.reverse = bw zs ws by unfold backWays; rw [hu, wordOk_reverse, hwk, bw_reverse]; rfl)
      have hP := hide (fun (k : Nat) => show backWays zs (ws.take k) = bw zs (ws.take k) by
        unfold backWays; rw [hu, wordOk_mk k1 k2 (by rw [List.length_take]; omega) (fun j x _ hx => k4 x (List.mem_of_mem_take (List.mem_of_getElem? hx)))]; rfl)
      have hD := hide (fun (k : Nat) => show backWays zs (ws.drop k) = bw zs (ws.drop k) by
        unfold backWays; rw [hu, wordOk_mk k1 k2 (by rw [List.length_drop]; omega) (fun j x _ hx => k4 x (List.mem_of_mem_drop (List.mem_of_getElem? hx)))]; rfl)
      have hPD := hide (fun (k : Nat) => show bw zs (ws.take k) * bw zs (ws.drop k) = bw zs ws by rw [← bw_append, List.take_append_drop])
      have hWW := hide (show wordWays zs ws = ways zs ws by unfold wordWays; rw [if_pos hok])
      have hge := hide (bw_ge (ws := ws) hzm)
      obtain ⟨b0, b1⟩ := bw_bounds hzm ws
      have b1 := Int.le_trans b1 (pow40_6 _ (by omega))
      rw [he]
      obtain ⟨V, hV⟩ : ∃ V, Hid (bw zs ws = V) := ⟨_, hide rfl⟩
      rw [hV.out] at hRV hPD hge b0 b1 ⊢
      clear he hok hu hwk k1 k2 k3 k4 hzm
      have hobk := hide (own_empty (w := w2) (base := 0) (Nat.zero_le _))
      replace hzzs := hide (hzzs.out.up (al _ (.cells #[] 3)))
      replace hzws := hide (hzws.out.up (al _ (.cells #[] 3)))
      replace hb := hide (upB hb.out ((al _ (.cells #[] 3))))
      go_wp2_with fail
      go_loopw [6, 7] (fun v i wr => ∃ k : Nat, ∃ B d f, k ≤ nws ∧ i = .int .i64 k ∧ v = .slice B d f ∧ Hid (Own wr 0 (.slice B d f) (ws.take k).reverse) ∧ Hid (Ints wr wr.heap.size Azs nzs czs zs) ∧ Hid (Ints wr wr.heap.size Aws nws cws ws) ∧ Hid (Below w.heap.size w wr)) (fun _ i _ => nws - (intOf i).toNat)
      case atStart => exact ⟨0, _, _, _, Nat.zero_le _, rfl, rfl, hobk, hzzs, hzws, hb⟩
      case round =>
        clear hobk hzzs hzws hb
        obtain ⟨k, B, d, f, hk, rfl, rfl, hobk, hzzs, hzws, hb⟩ := hrel
        by_cases hlt : k < nws
        · obtain ⟨b, off, x, rfl, hbB, hx, hcell⟩ := hzws.out.look hlt
          have hwx := hide (hzws.out.wf_at hx.out)
          have hld := hide hobk.out.len
          go_wp2_with (at_builtin; refine wpList_app _ rfl _ _ 23 rfl i0 Try.underlying23 hi hz0 hz1 hz2 _ [x] rfl (ints_lit [x] (by intro y hy; simp at hy; subst hy; exact hwx.out) (by simp) rfl) _ d f _ (ws.take k).reverse rfl (hobk.out.alloc _).ints (by simp) (by have := hld.out; rw [List.length_reverse, List.length_take] at this; simp; omega) ?_; intro A₃ n₃ c₃ w3 ho3 hg3)
          have hq := al_grown hg3 (Nat.le_refl _)
          have ho3 := hide (show Own w3 0 (.slice A₃ n₃ c₃) (ws.take (k + 1)).reverse by
            rw [take_succ hx.out, List.reverse_append]
            exact ho3.down (Nat.zero_le _))
          clear hg3 hcell
          replace hzzs := hide (hzzs.out.up hq)
          replace hzws := hide (hzws.out.up hq)
          replace hb := hide (upB hb.out (hq))
          clear hq hobk
          go_wp2
          go_roundw
          case rel => exact ⟨k + 1, _, _, _, by omega, by go_num, rfl, ho3, hzzs, hzws, hb⟩
          case measure => simp [intOf]; omega
        · obtain rfl : k = nws := by omega
          obtain ⟨nws, hk0⟩ : ∃ m, m = k := ⟨_, rfl⟩
          subst hk0
          replace hobk := hide (show Own wr 0 (.slice B d f) ws.reverse by
            have := hobk.out
            rwa [List.take_of_length_le (by have := hlws.out; omega)] at this)
          by_cases hn0 : 0 < nws
          · obtain ⟨b, off, x, rfl, hbB, hx, hcell⟩ := hzws.out.look hn0
            obtain ⟨H, hH⟩ : ∃ H : Nat, Hid (nws / 2 = H) := ⟨_, hide rfl⟩
            have hH2 : H ≤ nws := by have := hH.out; omega
            have hdiv : (nws : Int) / 2 = (H : Int) := by have := hH.out; omega
            have H1 := hide (fun W (hq : Below wr.heap.size wr W) => backWays_impl _ _ _ _ _ _ _ _ zs (ws.take H) W (hzzs.out.up hq) ((hzws.out.up hq).takeS hH2) (Nat.le_refl _) (Nat.le_refl _))
            have H2 := hide (fun W (hq : Below wr.heap.size wr W) => backWays_impl _ _ _ _ _ _ _ _ zs (ws.drop H) W (hzzs.out.up hq) ((hzws.out.up hq).dropS hH2) (Nat.le_refl _) (Nat.le_refl _))
            have H3 := hide (fun W (hq : Below wr.heap.size wr W) => backWays_impl _ _ _ _ _ _ _ _ zs ws.reverse W (hzzs.out.up hq) (hobk.out.up hq).ints (Nat.le_refl _) (Nat.le_refl _))
            have H4 := hide (fun W (hq : Below wr.heap.size wr W) => wordWays_impl _ _ _ _ _ _ _ _ zs ws W (hzzs.out.up hq) (hzws.out.up hq) (Nat.le_refl _) (Nat.le_refl _))
            rw [hP.out H] at H1
            rw [hD.out H] at H2
            rw [hRV.out] at H3
            rw [hWW.out] at H4
            have hpd := hPD.out H
            obtain ⟨X, hX⟩ : ∃ X, Hid (bw zs (ws.take H) = X) := ⟨_, hide rfl⟩
            obtain ⟨Y, hY⟩ : ∃ Y, Hid (bw zs (ws.drop H) = Y) := ⟨_, hide rfl⟩
            obtain ⟨U, hU⟩ : ∃ U, Hid (ways zs ws = U) := ⟨_, hide rfl⟩
            rw [hX.out] at H1 hpd
            rw [hY.out] at H2 hpd
            rw [hU.out] at H4 hge
            have hwv : IntKind.i64.wrap V = V := IntWalk.i64_in _ (by omega)
            have hd : decide (U ≤ V) = true := decide_eq_true hge.out
            clear hcell
            have hcap := hzws.out.le
            have hcb := hzws.out.big
            unfold maxLen at hcb
            have hcap2 : H ≤ cws := by omega
            go_wp2_with fail
            go_region_with (first | (go_at_call 12; (with_reducible refine (H1.out _ ?_).mono ?_); (focus (repeat (first | assumption | exact Below.refl _ _ | refine Below.drew ?_ | refine upB ?_ (by assumption))); done); rintro e w' ⟨rfl, hq⟩) | (go_at_call 12; (with_reducible refine (H2.out _ ?_).mono ?_); (focus (repeat (first | assumption | exact Below.refl _ _ | refine Below.drew ?_ | refine upB ?_ (by assumption))); done); rintro e w' ⟨rfl, hq⟩) | (go_at_call 12; (with_reducible refine (H3.out _ ?_).mono ?_); (focus (repeat (first | assumption | exact Below.refl _ _ | refine Below.drew ?_ | refine upB ?_ (by assumption))); done); rintro e w' ⟨rfl, hq⟩) | (go_at_call 15; (with_reducible refine (H4.out _ ?_).mono ?_); (focus (repeat (first | assumption | exact Below.refl _ _ | refine Below.drew ?_ | refine upB ?_ (by assumption))); done); rintro e w' ⟨rfl, hq⟩))
            all_goals
              go_wp2
              go_ret
              exact ⟨rfl, by repeat (first | exact hb.out | exact Below.refl _ _ | refine Below.drew ?_ | refine upB ?_ (by assumption))⟩
          · obtain rfl : nws = 0 := by omega
            obtain rfl : ws = [] := List.eq_nil_of_length_eq_zero hlws.out
            have hcb := hzws.out.big
            have hnil := hide hzws.out.nil0
            have HE := hide (fun W (A : Option Addr) (h0 : A = none → cws = 0) => (Ints.emptyS hcb h0 : Ints W W.heap.size A 0 cws []))
            have H1 := hide (fun W A h0 (hq : Below wr.heap.size wr W) => backWays_impl _ _ _ _ _ _ _ _ zs [] W (hzzs.out.up hq) (HE.out W A h0) (Nat.le_refl _) (Nat.le_refl _))
            have H3 := hide (fun W (hq : Below wr.heap.size wr W) => backWays_impl _ _ _ _ _ _ _ _ zs [] W (hzzs.out.up hq) (hobk.out.up hq).ints (Nat.le_refl _) (Nat.le_refl _))
            have H4 := hide (fun W (hq : Below wr.heap.size wr W) => wordWays_impl _ _ _ _ _ _ _ _ zs [] W (hzzs.out.up hq) (hzws.out.up hq) (Nat.le_refl _) (Nat.le_refl _))
            have hv1 : (1 : Int) = V := hV.out
            subst hv1
            have e1 := hRV.out
            rw [List.reverse_nil] at e1
            rw [e1] at H1 H3
            rw [hWW.out, show ways zs [] = 1 from rfl] at H4
            unfold maxLen at hcb
            cases Aws with
            | none =>
              have hc0 : cws = 0 := hnil.out rfl
              subst hc0
              go_wp2_with fail
              go_region_with (first | (go_at_call 12; (with_reducible refine (H1.out _ none (by intros; first | trivial | rfl) ?_).mono ?_); (focus (repeat (first | assumption | exact Below.refl _ _ | refine Below.drew ?_ | refine upB ?_ (by assumption))); done); rintro e w' ⟨rfl, hq⟩) | (go_at_call 12; (with_reducible refine (H3.out _ ?_).mono ?_); (focus (repeat (first | assumption | exact Below.refl _ _ | refine Below.drew ?_ | refine upB ?_ (by assumption))); done); rintro e w' ⟨rfl, hq⟩) | (go_at_call 15; (with_reducible refine (H4.out _ ?_).mono ?_); (focus (repeat (first | assumption | exact Below.refl _ _ | refine Below.drew ?_ | refine upB ?_ (by assumption))); done); rintro e w' ⟨rfl, hq⟩))
              all_goals
                go_wp2
                go_ret
                exact ⟨rfl, by repeat (first | exact hb.out | exact Below.refl _ _ | refine Below.drew ?_ | refine upB ?_ (by assumption))⟩
            | some x =>
              go_wp2_with fail
              go_region_with (first | (go_at_call 12; (with_reducible refine (H1.out _ (some _) (fun e => by cases e) ?_).mono ?_); (focus (repeat (first | assumption | exact Below.refl _ _ | refine Below.drew ?_ | refine upB ?_ (by assumption))); done); rintro e w' ⟨rfl, hq⟩) | (go_at_call 12; (with_reducible refine (H3.out _ ?_).mono ?_); (focus (repeat (first | assumption | exact Below.refl _ _ | refine Below.drew ?_ | refine upB ?_ (by assumption))); done); rintro e w' ⟨rfl, hq⟩) | (go_at_call 15; (with_reducible refine (H4.out _ ?_).mono ?_); (focus (repeat (first | assumption | exact Below.refl _ _ | refine Below.drew ?_ | refine upB ?_ (by assumption))); done); rintro e w' ⟨rfl, hq⟩))
              all_goals
                go_wp2
                go_ret
                exact ⟨rfl, by repeat (first | exact hb.out | exact Below.refl _ _ | refine Below.drew ?_ | refine upB ?_ (by assumption))⟩
    · have he : backWays zs ws = -1 := by unfold backWays; rw [if_neg hok]
      rw [he]
      clear hok
      go_wp2_with fail
      refine (alive_c _).mono ?_
      rintro e wz ⟨rfl, hq⟩
      go_wp2_with fail
      go_ret
      exact ⟨by simp, upB hb.out hq⟩
end Go.Proofs.Ytaocbiocpklbmaa
