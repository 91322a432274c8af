/-
  Laws of chapter 2 walked: FnWordWays (written by wip/gen_w6.py).
-/
import Derived.Test.YtffllkmaifjpfadZdraw
import Derived.Test.YtffllkmaifjpfadZimp
import Derived.Test.YtffllkmaifjpfadZword
namespace Go.Proofs.Ytffllkmaifjpfad
open Go.RowKit
set_option linter.unusedVariables false

set_option maxHeartbeats 3200000 in
theorem lawWordWays {A : Option Addr} {n c : Nat} {bs : List Int} {w : World} (h : Bts w w.heap.size A n c bs) :
    Calls Try.prog 6 #[.slice A n c] w fun e w' => e = .returned (.bool true) ∧ Below w.heap.size w w' := by
  have hbig := h.big
  have hle := h.le
  unfold maxLen at hbig
  by_cases hn : 1048576 < n
  · go_enter Try.func6, Try.ntmps6
    go_wp2
    go_ret
    exact ⟨rfl, Below.refl _ _⟩
  · have hD := hide (DrawWordWays_c A n c bs w h)
    obtain ⟨i0, hi, hz0, hz1, hz2⟩ := info_parts infoInt
    go_enter Try.func6, Try.ntmps6
    go_wp2_with fail
    refine hD.out.mono ?_
    rintro e w0 ⟨Azs, nzs, czs, zs, Aws, nws, cws, ws, rfl, hzzs, hnzs, hzws, hnws, hb⟩
    have hlzs := hide hzzs.len
    replace hzzs := hide hzzs
    have hlws := hide hzws.len
    replace hzws := hide hzws
    replace hb := hide hb
    clear hD
    go_wp2_with fail
    refine (wordWays_impl _ _ _ _ _ _ _ _ zs ws _ hzzs.out hzws.out (Nat.le_refl _) (Nat.le_refl _)).mono ?_
    rintro e w1 ⟨rfl, hq⟩
    replace hzzs := hide (hzzs.out.up hq)
    replace hzws := hide (hzws.out.up hq)
    replace hb := hide (upB hb.out (hq))
    clear hq
    go_wp2_with fail
    refine (wordWays_spec _ _ _ _ _ _ _ _ zs ws _ hzzs.out hzws.out (Nat.le_refl _) (Nat.le_refl _)).mono ?_
    rintro e w2 ⟨rfl, hq⟩
    replace hzzs := hide (hzzs.out.up hq)
    replace hzws := hide (hzws.out.up hq)
    replace hb := hide (upB hb.out (hq))
    clear hq
    by_cases hok : (urnOk zs && wordOk (zs.length : Int) ws) = true
    · have he : wordWays zs ws = ways zs ws := by unfold wordWays; rw [if_pos hok]
      obtain ⟨hu, hwk⟩ := Bool.and_eq_true_iff.1 hok
      obtain ⟨k1, k2, k3, k4⟩ := wordOk_yes hwk
      have hn6 : nws ≤ 6 := by have := hlws.out; omega
      have hn3 : 1 ≤ nzs ∧ nzs ≤ 3 := by have := hlzs.out; omega
      have hrow := cntL_row hwk
      have hwp := ways_prod (zs := zs) (ws := ws) (C := zs.length) rfl k4
      have hSW := hide (fun (k : Nat) x y (hx : ws[k]? = some x) (hy : ws[k + 1]? = some y) => wordWays_swap (zs := zs) hx hy)
      have hRV := hide (wordWays_reverse zs ws)
      have hCO := hide (show countsOf (nzs : Int) ws = cntL zs.length ws by unfold countsOf; rw [show (nzs : Int) = (zs.length : Int) by rw [hlzs.out], if_pos hwk]; rfl)
      have hrow2 : countRowOk (zs.length : Int) (cntL zs.length ws) = true := by simpa using hrow
      have hWW := hide (show wordsWith (nzs : Int) (cntL zs.length ws) = mult (cntL zs.length ws) by unfold wordsWith; rw [show (nzs : Int) = (zs.length : Int) by rw [hlzs.out], if_pos hrow2])
      have hCW := hide (show countWays zs (cntL zs.length ws) = ways zs ws * mult (cntL zs.length ws) by unfold countWays; rw [hu, hrow2, hwp, Int.mul_comm]; rfl)
      have hm0 := (row_fine hrow2).1
      have hm1 := (mult_bound hrow2).2
      have hV0 := ways_nonneg zs ws
      have hV1 := ways_le zs ws (fun z hz => (urnOk_mem hu z hz).2)
      have hV1 := Int.le_trans hV1 (pow40_6 _ k3)
      rw [he] at hSW hRV ⊢
      obtain ⟨M, hM⟩ : ∃ M, Hid (mult (cntL zs.length ws) = M) := ⟨_, rfl⟩
      obtain ⟨V, hV⟩ : ∃ V, Hid (ways zs ws = V) := ⟨_, rfl⟩
      obtain ⟨cs, hcs⟩ : ∃ cs, Hid (cntL zs.length ws = cs) := ⟨_, rfl⟩
      rw [hM.out] at hWW hCW hm0 hm1
      rw [hcs.out] at hWW hCW hCO
      rw [hV.out] at hSW hRV hCW hV0 hV1 ⊢
      have hwf := hide (fun (k : Nat) x (hx : ws[k]? = some x) => hzws.out.wf_at hx)
      clear he hok hu hwk k1 k2 k3 k4 hrow hrow2 hwp
      have hobk := hide (own_empty (w := w2) (base := 0) (Nat.zero_le _))
      replace hzzs := hide (hzzs.out.up (al _ (.cells #[] 3)))
      replace hzws := hide (hzws.out.up (al _ (.cells #[] 3)))
      replace hb := hide (upB hb.out ((al _ (.cells #[] 3))))
      go_wp2_with fail
      go_loopw [6, 7] (fun v i wr => ∃ k : Nat, ∃ B d f, k ≤ nws ∧ i = .int .i64 k ∧ v = .slice B d f ∧ Hid (Own wr 0 (.slice B d f) (ws.take k).reverse) ∧ Hid (Ints wr wr.heap.size Azs nzs czs zs) ∧ Hid (Ints wr wr.heap.size Aws nws cws ws) ∧ Hid (Below w.heap.size w wr)) (fun _ i _ => nws - (intOf i).toNat)
      case atStart => exact ⟨0, _, _, _, Nat.zero_le _, rfl, rfl, hobk, hzzs, hzws, hb⟩
      case round =>
        clear hobk hzzs hzws hb
        obtain ⟨k, B, d, f, hk, rfl, rfl, hobk, hzzs, hzws, hb⟩ := hrel
        by_cases hlt : k < nws
        · obtain ⟨b, off, x, rfl, hbB, hx, hcell⟩ := hzws.out.look hlt
          have hwx := hide (hzws.out.wf_at hx.out)
          have hld := hide hobk.out.len
          go_wp2_with (at_builtin; refine wpList_app _ rfl _ _ 23 rfl i0 Try.underlying23 hi hz0 hz1 hz2 _ [x] rfl (ints_lit [x] (by intro y hy; simp at hy; subst hy; exact hwx.out) (by simp) rfl) _ d f _ (ws.take k).reverse rfl (hobk.out.alloc _).ints (by simp) (by have := hld.out; rw [List.length_reverse, List.length_take] at this; simp; omega) ?_; intro A₃ n₃ c₃ w3 ho3 hg3)
          have hq := al_grown hg3 (Nat.le_refl _)
          have ho3 := hide (show Own w3 0 (.slice A₃ n₃ c₃) (ws.take (k + 1)).reverse by
            rw [take_succ hx.out, List.reverse_append]
            exact ho3.down (Nat.zero_le _))
          clear hg3 hcell
          replace hzzs := hide (hzzs.out.up hq)
          replace hzws := hide (hzws.out.up hq)
          replace hb := hide (upB hb.out (hq))
          clear hq hobk
          go_wp2
          go_roundw
          case rel => exact ⟨k + 1, _, _, _, by omega, by go_num, rfl, ho3, hzzs, hzws, hb⟩
          case measure => simp [intOf]; omega
        · obtain rfl : k = nws := by omega
          obtain ⟨nws, hk0⟩ : ∃ m, m = k := ⟨_, rfl⟩
          subst hk0
          replace hobk := hide (show Own wr 0 (.slice B d f) ws.reverse by
            have := hobk.out
            rwa [List.take_of_length_le (by have := hlws.out; omega)] at this)
          go_wp2_with fail
          go_loopw [8] (fun i wr => ∃ k : Nat, k ≤ nws ∧ i = .int .i64 k ∧ Hid (Ints wr wr.heap.size Azs nzs czs zs) ∧ Hid (Ints wr wr.heap.size Aws nws cws ws) ∧ Hid (Own wr 0 (.slice B d f) (ws.reverse)) ∧ Hid (Below w.heap.size w wr)) (fun i _ => nws - (intOf i).toNat)
          case atStart => exact ⟨0, Nat.zero_le _, rfl, hzzs, hzws, hobk, hb⟩
          case round =>
            clear hzzs hzws hobk hb
            obtain ⟨k, hk, rfl, hzzs, hzws, hobk, hb⟩ := hrel
            by_cases hlt : k + 1 < nws
            · obtain ⟨b, off, x, rfl, hbB, hx, hcell⟩ := hzws.out.look (show k < nws by omega)
              obtain ⟨b', off', y, hA', _, hy, hcell'⟩ := hzws.out.look hlt
              injection hA' with hA'
              injection hA' with hb' ho' _
              subst hb'; subst ho'
              have hsw := hide (hSW.out k x y hx.out hy.out)
              have hwfx := hwf.out k x hx.out
              have hwfy := hwf.out (k + 1) y hy.out
              go_wp2_with (at_builtin; refine wpList_app _ rfl _ _ 23 rfl i0 Try.underlying23 hi hz0 hz1 hz2 _ _ rfl (own_empty (base := wr.heap.size) (Nat.le_refl _)) _ nws _ _ ws rfl (hzws.out.alloc (Nat.le_refl _) _) (by simp) (by have := hlws.out; simp; omega) ?_; intro A₄ n₄ c₄ w4 ho4 hg4; have hqa := al_grown hg4 (Nat.le_refl _); obtain ⟨g, hA4, hkn4, hcx4, hfx4, hcy5, hfy5, hqb, ho6, hqc⟩ := swap_facts ho4 hqa hx.out hy.out hwfx hwfy; subst hA4; have hcx2 := (hqb.cell hbB).trans hcell; have hcy4 := (hqa.cell hbB).trans hcell'; have hqa := hide hqa; have hqb := hide hqb; have hqc := hide hqc; have hg4 := hide hg4; have ho4 := hide ho4; have ho6 := hide ho6)
              clear hcell hcell'
              replace hzzs := hide (hzzs.out.up hqc.out)
              replace hzws := hide (hzws.out.up hqc.out)
              replace hobk := hide (hobk.out.up hqc.out)
              replace hb := hide (upB hb.out (hqc.out))
              refine (wordWays_impl _ _ _ _ _ _ _ _ zs ((ws.set k y).set (k + 1) x) _ hzzs.out ho6.out.ints (Nat.le_refl _) (Nat.le_refl _)).mono ?_
              rw [hsw.out]
              rintro e w3 ⟨rfl, hq⟩
              replace hzzs := hide (hzzs.out.up hq)
              replace hzws := hide (hzws.out.up hq)
              replace hobk := hide (hobk.out.up hq)
              replace hb := hide (upB hb.out (hq))
              clear hq
              clear ho6 ho4 hg4 hqa hqb hqc
              go_wp2_with fail
              go_roundw
              case rel => exact ⟨k + 1, by omega, by go_num, hzzs, hzws, hobk, hb⟩
              case measure => simp [intOf]; omega
            · obtain ⟨q1, q2⟩ := mul_bound hV0 hV1 (show 0 ≤ M by omega) hm1
              go_wp2_with fail
              refine (countsOf_impl (nzs : Int) _ _ _ _ ws _ hzws.out (Nat.le_refl _)).mono ?_
              rw [hCO.out]
              rintro e w4 ⟨Acs, ncs, ccs, rfl, ho, hq⟩
              replace hzzs := hide (hzzs.out.up hq)
              replace hzws := hide (hzws.out.up hq)
              replace hobk := hide (hobk.out.up hq)
              replace hb := hide (upB hb.out (hq))
              have hocs := hide (ho.down (Nat.zero_le _))
              clear hq ho
              go_wp2_with fail
              refine (wordWays_impl _ _ _ _ _ _ _ _ zs ws.reverse _ hzzs.out hobk.out.ints (Nat.le_refl _) (Nat.le_refl _)).mono ?_
              rw [hRV.out]
              rintro e w5 ⟨rfl, hq⟩
              replace hzzs := hide (hzzs.out.up hq)
              replace hzws := hide (hzws.out.up hq)
              replace hobk := hide (hobk.out.up hq)
              replace hocs := hide (hocs.out.up hq)
              replace hb := hide (upB hb.out (hq))
              clear hq
              go_wp2_with fail
              refine (countWays_impl _ _ _ _ _ _ _ _ zs cs _ hzzs.out hocs.out.ints (Nat.le_refl _) (Nat.le_refl _)).mono ?_
              rw [hCW.out]
              rintro e w6 ⟨rfl, hq⟩
              replace hzzs := hide (hzzs.out.up hq)
              replace hzws := hide (hzws.out.up hq)
              replace hobk := hide (hobk.out.up hq)
              replace hocs := hide (hocs.out.up hq)
              replace hb := hide (upB hb.out (hq))
              clear hq
              go_wp2_with fail
              refine (wordsWith_impl (nzs : Int) _ _ _ _ cs _ hocs.out.ints (Nat.le_refl _)).mono ?_
              rw [hWW.out]
              rintro e w7 ⟨rfl, hq⟩
              replace hzzs := hide (hzzs.out.up hq)
              replace hzws := hide (hzws.out.up hq)
              replace hobk := hide (hobk.out.up hq)
              replace hocs := hide (hocs.out.up hq)
              replace hb := hide (upB hb.out (hq))
              clear hq
              go_wp2_with fail
              go_ret
              exact ⟨by simp, hb.out⟩
    · have he : wordWays zs ws = -1 := by unfold wordWays; rw [if_neg hok]
      rw [he]
      clear hok
      go_wp2_with fail
      refine (alive_c _).mono ?_
      rintro e wz ⟨rfl, hq⟩
      go_wp2_with fail
      go_ret
      exact ⟨by simp, upB hb.out hq⟩
end Go.Proofs.Ytffllkmaifjpfad
