/-
  Laws of chapter 2 walked: FnWordsWith (written by wip/gen_w4.py).
-/
import Derived.Test.YtffllkmaifjpfadZdraw
import Derived.Test.YtffllkmaifjpfadZimp
import Derived.Test.YtffllkmaifjpfadZword
namespace Go.Proofs.Ytffllkmaifjpfad
open Go.RowKit
set_option linter.unusedVariables false

set_option maxHeartbeats 3200000 in
theorem lawWordsWith {A : Option Addr} {n c : Nat} {bs : List Int} {w : World} (h : Bts w w.heap.size A n c bs) :
    Calls Try.prog 7 #[.slice A n c] w fun e w' => e = .returned (.bool true) ∧ Below w.heap.size w w' := by
  have hbig := h.big
  have hle := h.le
  unfold maxLen at hbig
  by_cases hn : 1048576 < n
  · go_enter Try.func7, Try.ntmps7
    go_wp2
    go_ret
    exact ⟨rfl, Below.refl _ _⟩
  · have hD := hide (DrawWordsWith_c A n c bs w h)
    obtain ⟨i0, hi, hz0, hz1, hz2⟩ := info_parts infoInt
    go_enter Try.func7, Try.ntmps7
    go_wp2_with fail
    refine hD.out.mono ?_
    rintro e w0 ⟨Acs, ncs, ccs, cs, cl, rfl, hzcs, hncs, hlocl, hhicl, hb⟩
    have hlcs := hide hzcs.len
    replace hzcs := hide hzcs
    replace hb := hide hb
    clear hD
    go_wp2_with fail
    refine (wordsWith_impl cl _ _ _ _ cs _ hzcs.out (Nat.le_refl _)).mono ?_
    rintro e w1 ⟨rfl, hq⟩
    replace hzcs := hide (hzcs.out.up hq)
    replace hb := hide (upB hb.out (hq))
    clear hq
    go_wp2_with fail
    refine (sameB (wordsWith_spec cl _ _ _ _ cs _ hzcs.out)).mono ?_
    rintro e w2 ⟨rfl, hq⟩
    replace hzcs := hide (hzcs.out.up hq)
    replace hb := hide (upB hb.out (hq))
    clear hq
    by_cases hok : countRowOk cl cs = true
    · obtain rfl : cl = (ncs : Int) := by have := (countRowOk_yes hok).2.2.1; have := hlcs.out; omega
      have he : wordsWith (ncs : Int) cs = mult cs := by unfold wordsWith; rw [if_pos hok]
      rw [he]
      obtain ⟨m1, m2, m3, m4⟩ := row_fine hok
      obtain ⟨k1, k2, k3, k4, k5⟩ := countRowOk_yes hok
      have m2b := (mult_bound hok).2
      have hn3 : 1 ≤ ncs ∧ ncs ≤ 3 := by omega
      have hLR := hide (fun (k : Nat) x (hx : cs[k]? = some x) h0 => less_row hok hx h0)
      have hBK := hide (show wordsWith (ncs : Int) cs.reverse = mult cs by unfold wordsWith; rw [countRowOk_reverse, if_pos hok, m2])
      have hEl := hide (fun (k : Nat) x (hx : cs[k]? = some x) => k4 x (List.mem_of_getElem? hx))
      obtain ⟨F, hF⟩ : ∃ F : Nat → Int, Hid (F = fun c => if 0 < cs[c]?.getD 0 then mult (less cs c) else 0) := ⟨_, rfl⟩
      have hFk := hide (fun (k : Nat) x (hx : cs[k]? = some x) => show F k = if 0 < x then mult (less cs k) else 0 by rw [hF.out]; dsimp only; rw [hx]; rfl)
      have hFb := hide (fun (k : Nat) x (hx : cs[k]? = some x) => show 0 ≤ F k ∧ F k ≤ 720 by
        rw [hFk.out k x hx]
        split
        · next h0 => exact mult_bound (less_row hok hx h0).1
        · decide)
      have hSb := hide (fun k (hk : k ≤ ncs) => nsum_bounds (n := k) (f := F) (M := 720) (fun j hj => hFb.out j _ (List.getElem?_eq_getElem (by have := hlcs.out; omega))))
      have hrec := hide (show nsum ncs F = recSum cs by unfold recSum; rw [hlcs.out, hF.out])
      have hTk := hide (fun k => (isum_bounds 6 (cs.take k) (fun x hx => k4 x (List.mem_of_mem_take hx))).1)
      have m3 := hide m3
      have m4 := hide m4
      obtain ⟨M, hM⟩ : ∃ M, Hid (mult cs = M) := ⟨_, rfl⟩
      rw [hM.out] at m1 m2b m3 m4 hBK ⊢
      clear he m2 k1 k2 k3 k4 k5
      have hobk := hide (own_empty (w := w2) (base := 0) (Nat.zero_le _))
      replace hzcs := hide (hzcs.out.up (al _ (.cells #[] 3)))
      replace hb := hide (upB hb.out ((al _ (.cells #[] 3))))
      go_wp2_with fail
      go_loopw [6, 7, 8, 9] (fun t y v i wr => ∃ k : Nat, ∃ B d f, k ≤ ncs ∧ i = .int .i64 k ∧ t = .int .i64 (nsum k F) ∧ y = .bool (decide (0 < isum (cs.take k))) ∧ v = .slice B d f ∧ Hid (Own wr 0 (.slice B d f) (cs.take k).reverse) ∧ Hid (Ints wr wr.heap.size Acs ncs ccs cs) ∧ Hid (Below w.heap.size w wr)) (fun _ _ _ i _ => ncs - (intOf i).toNat)
      case atStart => exact ⟨0, _, _, _, Nat.zero_le _, rfl, rfl, rfl, rfl, hobk, hzcs, hb⟩
      case round =>
        clear hobk hzcs hb
        obtain ⟨k, B, d, f, hk, rfl, rfl, rfl, rfl, hobk, hzcs, hb⟩ := hrel
        obtain ⟨s1, s2⟩ := hSb.out k hk
        by_cases hlt : k < ncs
        · obtain ⟨b, off, x, rfl, hbB, hx, hcell⟩ := hzcs.out.look hlt
          have hwx := hide (hzcs.out.wf_at hx.out)
          have hld := hide hobk.out.len
          obtain ⟨x0, x6⟩ := hEl.out k x hx.out
          have hst := hide (show nsum (k + 1) F = nsum k F + F k from rfl)
          have htk := hide (isum_take_succ hx.out)
          have ht0 := hTk.out k
          by_cases hx0 : 0 < x
          · obtain ⟨r1, r2⟩ := hLR.out k x hx.out hx0
            have hles := hide (show wordsWith (ncs : Int) (cs.set k (x - 1)) = F k by
              rw [hFk.out k x hx.out, if_pos hx0]
              have e : less cs k = cs.set k (x - 1) := by unfold less; rw [hx.out]; rfl
              unfold wordsWith
              rw [← e, if_pos r1])
            have hdec := hide (show decide (0 < isum (cs.take (k + 1))) = true from decide_eq_true (by rw [htk.out]; omega))
            obtain ⟨f0, f1⟩ := hFb.out k x hx.out
            have hwd : IntKind.i64.wrap (x - 1) = x - 1 := IntWalk.i64_in _ (by omega)
            go_wp2_with (first | (at_builtin; refine wpList_app _ rfl _ _ 23 rfl i0 Try.underlying23 hi hz0 hz1 hz2 _ [x] rfl (ints_lit [x] (by intro y hy; simp at hy; subst hy; exact hwx.out) (by simp) rfl) _ d f _ (cs.take k).reverse rfl (hobk.out.alloc _).ints (by simp) (by have := hld.out; rw [List.length_reverse, List.length_take] at this; simp; omega) ?_; intro A₃ n₃ c₃ w3 ho3 hg3; have hq := al_grown hg3 (Nat.le_refl _); have hcell3 := (hq.cell hbB).trans hcell; have hg3 := hide hg3; have ho3 := hide ho3) | (at_builtin; refine wpList_app _ rfl _ _ 23 rfl i0 Try.underlying23 hi hz0 hz1 hz2 _ _ rfl (own_empty (base := w3.heap.size) (Nat.le_refl _)) _ ncs _ _ cs rfl ((hzcs.out.up hq).alloc (Nat.le_refl _) _) (by simp) (by have := hlcs.out; simp; omega) ?_; intro A₄ n₄ c₄ w4 ho4 hg4; obtain ⟨g, hA4, hg, hgl, hcy, hfy⟩ := ho4.at2 hx.out; subst hA4; have ho4 := hide ho4; have hg4 := hide hg4; have hn4 := hide ho4.out.len; have hkn4 : (k : Int) < (n₄ : Int) := by (have := hn4.out; rw [List.nil_append, hlcs.out] at this; omega)))
            replace hobk := hide (show Own w3 0 (.slice A₃ n₃ c₃) (cs.take (k + 1)).reverse by
              rw [take_succ hx.out, List.reverse_append]
              exact ho3.out.down (Nat.zero_le _))
            clear hg3 ho3 hcell
            replace hzcs := hide (hzcs.out.up hq)
            replace hb := hide (upB hb.out (hq))
            clear hq
            have ho5 := hide (show Own (w4.setCell ⟨g, k, none⟩ (.int .i64 (x - 1))) w3.heap.size (.slice (some ⟨g, 0, none⟩) n₄ c₄) (cs.set k (x - 1)) from ho4.out.set_ _ (wf_i64 (by omega)))
            have hq5 := hide ((al_grown hg4.out (Nat.le_refl _)).setCell (p := ⟨g, k, none⟩) hg (.int .i64 (x - 1)))
            clear ho4 hg4 hn4
            replace hzcs := hide (hzcs.out.up hq5.out)
            replace hobk := hide (hobk.out.up hq5.out)
            replace hb := hide (upB hb.out (hq5.out))
            clear hq5
            refine (wordsWith_impl (ncs : Int) _ _ _ _ (cs.set k (x - 1)) _ ho5.out.ints (Nat.le_refl _)).mono ?_
            rw [hles.out]
            rintro e w3 ⟨rfl, hq⟩
            replace hzcs := hide (hzcs.out.up hq)
            replace hobk := hide (hobk.out.up hq)
            replace hb := hide (upB hb.out (hq))
            clear hq
            clear ho5
            go_wp2_with fail
            go_roundw
            case rel => exact ⟨k + 1, _, _, _, by omega, by go_num, by rw [hst.out], by rw [hdec.out], rfl, hobk, hzcs, hb⟩
            case measure => simp [intOf]; omega
          · have hFz := hide (show F k = 0 by rw [hFk.out k x hx.out, if_neg hx0])
            have hdec := hide (show decide (0 < isum (cs.take (k + 1))) = decide (0 < isum (cs.take k)) by rw [htk.out, show x = 0 by omega, Int.add_zero])
            rw [hFz.out, Int.add_zero] at hst
            go_wp2_with (at_builtin; refine wpList_app _ rfl _ _ 23 rfl i0 Try.underlying23 hi hz0 hz1 hz2 _ [x] rfl (ints_lit [x] (by intro y hy; simp at hy; subst hy; exact hwx.out) (by simp) rfl) _ d f _ (cs.take k).reverse rfl (hobk.out.alloc _).ints (by simp) (by have := hld.out; rw [List.length_reverse, List.length_take] at this; simp; omega) ?_; intro A₃ n₃ c₃ w3 ho3 hg3; have hq := al_grown hg3 (Nat.le_refl _); have hcell3 := (hq.cell hbB).trans hcell; have hg3 := hide hg3; have ho3 := hide ho3)
            replace hobk := hide (show Own w3 0 (.slice A₃ n₃ c₃) (cs.take (k + 1)).reverse by
              rw [take_succ hx.out, List.reverse_append]
              exact ho3.out.down (Nat.zero_le _))
            clear hg3 ho3 hcell
            replace hzcs := hide (hzcs.out.up hq)
            replace hb := hide (upB hb.out (hq))
            clear hq
            go_wp2_with fail
            go_roundw
            case rel => exact ⟨k + 1, _, _, _, by omega, by go_num, by rw [hst.out], by rw [hdec.out], rfl, hobk, hzcs, hb⟩
            case measure => simp [intOf]; omega
        · obtain rfl : k = ncs := by omega
          replace hobk := hide (show Own wr 0 (.slice B d f) cs.reverse by
            have := hobk.out
            rwa [List.take_of_length_le (by have := hlcs.out; omega)] at this)
          have eT : isum (cs.take k) = isum cs := by rw [List.take_of_length_le (by have := hlcs.out; omega)]
          rw [hrec.out, eT]
          clear eT s1 s2
          by_cases hs0 : isum cs = 0
          · have hM1 : M = 1 := m4.out hs0
            have hd0 : decide (0 < isum cs) = false := decide_eq_false (by omega)
            subst hM1
            rw [hd0]
            clear hd0 hs0
            go_wp2_with fail
            refine (wordsWith_impl (k : Int) _ _ _ _ _ _ hobk.out.ints (Nat.le_refl _)).mono ?_
            rw [hBK.out]
            rintro e w4 ⟨rfl, hq⟩
            replace hzcs := hide (hzcs.out.up hq)
            replace hobk := hide (hobk.out.up hq)
            replace hb := hide (upB hb.out (hq))
            clear hq
            go_wp2_with fail
            go_ret
            exact ⟨by simp, hb.out⟩
          · have hM1 : recSum cs = M := m3.out hs0
            have hd0 : decide (0 < isum cs) = true := decide_eq_true (by have := hTk.out k; rw [List.take_of_length_le (by have := hlcs.out; omega)] at this; omega)
            rw [hd0, hM1]
            clear hd0 hs0 hM1
            go_wp2_with fail
            refine (wordsWith_impl (k : Int) _ _ _ _ _ _ hobk.out.ints (Nat.le_refl _)).mono ?_
            rw [hBK.out]
            rintro e w5 ⟨rfl, hq⟩
            replace hzcs := hide (hzcs.out.up hq)
            replace hobk := hide (hobk.out.up hq)
            replace hb := hide (upB hb.out (hq))
            clear hq
            go_wp2_with fail
            go_ret
            exact ⟨by simp, hb.out⟩
    · have hok : countRowOk cl cs = false := by simpa using hok
      have he : wordsWith cl cs = -1 := by unfold wordsWith; rw [hok]; rfl
      rw [he]
      go_wp2_with fail
      refine (countRowOk_impl cl _ _ _ _ cs _ hzcs.out (Nat.le_refl _)).mono ?_
      rw [hok]
      rintro e w6 ⟨rfl, hq⟩
      replace hzcs := hide (hzcs.out.up hq)
      replace hb := hide (upB hb.out (hq))
      clear hq
      go_wp2_with fail
      refine (alive_c _).mono ?_
      rintro e wz ⟨rfl, hq⟩
      go_wp2_with fail
      go_ret
      exact ⟨by simp, upB hb.out hq⟩
end Go.Proofs.Ytffllkmaifjpfad
