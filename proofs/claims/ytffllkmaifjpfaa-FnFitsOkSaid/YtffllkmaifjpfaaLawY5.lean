/-
  Laws of chapter 9 walked: FnFitsOk (written by wip/gen_z4.py).
-/
import Derived.Test.YtffllkmaifjpfaaTermI
import Derived.Test.YtffllkmaifjpfaaDrawFits
import Derived.Test.YtffllkmaifjpfaaZmark
namespace Go.Proofs.Ytffllkmaifjpfaa
open Go.RowKit
set_option linter.unusedVariables false

set_option maxRecDepth 100000 in
set_option maxHeartbeats 3200000 in
theorem lawFitsOk {A : Option Addr} {n c : Nat} {bs : List Int} {w : World} (h : Bts w w.heap.size A n c bs) :
    Calls Try.prog 7 #[.slice A n c] w fun e w' => e = .returned (.bool true) ∧ Below w.heap.size w w' := by
  have hbig := h.big
  have hle := h.le
  unfold maxLen at hbig
  by_cases hn : 1048576 < n
  · go_enter Try.func7, Try.ntmps7
    go_wp2
    go_ret
    exact ⟨rfl, Below.refl _ _⟩
  · have hD := hide (DrawFitsOk_c A n c bs w h)
    obtain ⟨i0, hi, hz0, hz1, hz2⟩ := info_parts infoInt
    go_enter Try.func7, Try.ntmps7
    go_wp2_with fail
    refine hD.out.mono ?_
    rintro e w0 ⟨Ats, nts, cts, ts, Aws, nws, cws, ws, x, rfl, hzts, hnts, hzws, hnws, hlox, hhix, hb⟩
    have hlts := hide hzts.len
    replace hzts := hide hzts
    have hlws := hide hzws.len
    replace hzws := hide hzws
    replace hb := hide hb
    clear hD
    have hwx := wf_i64 (z := x) (by omega)
    have hn20 : nts ≤ 1048576 := by omega
    obtain ⟨v, hv⟩ : ∃ v, Hid (fitsW x ts ws = v) := ⟨_, hide rfl⟩
    go_wp2_with fail
    refine (fitsOk_impl x _ _ _ _ _ _ _ _ _ _ _ hzts.out hzws.out (Nat.le_refl _) (Nat.le_refl _) hn20 hwx).mono ?_
    rw [hv.out]
    rintro e w1 ⟨rfl, hq⟩
    replace hzts := hide (hzts.out.up hq)
    replace hzws := hide (hzws.out.up hq)
    replace hb := hide (upB hb.out (hq))
    clear hq
    go_wp2_with fail
    refine (fitsOk_spec x _ _ _ _ _ _ _ _ _ _ _ hzts.out hzws.out (Nat.le_refl _) (Nat.le_refl _) hn20).mono ?_
    rw [hv.out]
    rintro e w2 ⟨rfl, hq⟩
    replace hzts := hide (hzts.out.up hq)
    replace hzws := hide (hzws.out.up hq)
    replace hb := hide (upB hb.out (hq))
    clear hq
    obtain ⟨p, hok⟩ : ∃ p, Hid (termOk x ts = p) := ⟨_, hide rfl⟩
    obtain ⟨r, hwk⟩ : ∃ r, Hid (wordOk x ws = r) := ⟨_, hide rfl⟩
    cases p with
    | false =>
      have hvf := fitsW_out ws hok.out
      rw [hv.out] at hvf
      subst hvf
      go_wp2_with fail
      refine (termOk_spec x _ _ _ _ _ _ hzts.out (Nat.le_refl _) hn20).mono ?_
      rw [hok.out]
      rintro e w3 ⟨rfl, hq⟩
      replace hzts := hide (hzts.out.up hq)
      replace hzws := hide (hzws.out.up hq)
      replace hb := hide (upB hb.out (hq))
      clear hq
      go_wp2_with fail
      refine (alive_c _).mono ?_
      rintro e wz ⟨rfl, hq⟩
      go_wp2_with fail
      go_ret
      exact ⟨by simp, upB hb.out hq⟩
    | true =>
      go_wp2_with fail
      refine (termOk_spec x _ _ _ _ _ _ hzts.out (Nat.le_refl _) hn20).mono ?_
      rw [hok.out]
      rintro e w4 ⟨rfl, hq⟩
      replace hzts := hide (hzts.out.up hq)
      replace hzws := hide (hzws.out.up hq)
      replace hb := hide (upB hb.out (hq))
      clear hq
      go_wp2_with fail
      refine (sameB (wordOk_spec x _ _ _ _ ws _ hzws.out)).mono ?_
      rw [hwk.out]
      rintro e w5 ⟨rfl, hq⟩
      replace hzts := hide (hzts.out.up hq)
      replace hzws := hide (hzws.out.up hq)
      replace hb := hide (upB hb.out (hq))
      clear hq
      obtain ⟨hC1, hC3, h15, t, ht⟩ := termOk_yes hok.out
      have hvv := fitsW_in (ws := ws) hok.out ht
      rw [hv.out, hwk.out] at hvv
      cases r with
      | false =>
        subst hvv
        clear h15
        go_wp2_with fail
        refine (alive_c _).mono ?_
        rintro e wz ⟨rfl, hq⟩
        go_wp2_with fail
        go_ret
        exact ⟨by simp, upB hb.out hq⟩
      | true =>
        rw [Bool.true_and] at hvv
        have eb := hide (backL_in hok.out ht)
        have hlen15 : (flat (back t)).length ≤ 15 := by rw [back_len, ht.2]; exact h15
        have hokb := termOk_mk hC1 hC3 hlen15 (back_is ht)
        have efb := hide (show fitsW x (flat (back t)) ws.reverse = v by
          rw [fitsW_in hokb (back_is ht), wordOk_reverse, hwk.out, Bool.true_and, fits_back t ws ht.1, hvv])
        have efl := hide (show v = true → (nws : Int) = lenT x ts from fun e => by
          rw [lenT_in hok.out ht, ← fits_len t ws ht.1 (by rw [← hvv]; exact e), hlws.out])
        have hln := ln_le t ht.1
        have hll := hide (lenT_in hok.out ht)
        replace hlen15 := hide hlen15
        clear h15 hokb hvv
        have hobk := hide (own_empty (w := w5) (base := 0) (Nat.zero_le _))
        replace hzts := hide (hzts.out.up (al _ (.cells #[] 3)))
        replace hzws := hide (hzws.out.up (al _ (.cells #[] 3)))
        replace hb := hide (upB hb.out ((al _ (.cells #[] 3))))
        go_wp2_with fail
        go_loopw [7, 8] (fun v i wr => ∃ k : Nat, ∃ B d f, k ≤ nws ∧ i = .int .i64 k ∧ v = .slice B d f ∧ Hid (Own wr 0 (.slice B d f) (ws.take k).reverse) ∧ Hid (Marks wr wr.heap.size Ats nts cts ts) ∧ Hid (Ints wr wr.heap.size Aws nws cws ws) ∧ Hid (Below w.heap.size w wr)) (fun _ i _ => nws - (intOf i).toNat)
        case atStart => exact ⟨0, _, _, _, Nat.zero_le _, rfl, rfl, hobk, hzts, hzws, hb⟩
        case round =>
          clear hobk hzts hzws hb
          obtain ⟨k, B, d, f, hk, rfl, rfl, hobk, hzts, hzws, hb⟩ := hrel
          by_cases hlt : k < nws
          · obtain ⟨b, off, x, rfl, hbB, hx, hcell⟩ := hzws.out.look hlt
            have hwx := hide (hzws.out.wf_at hx.out)
            have hld := hide hobk.out.len
            go_wp2_with (at_builtin; refine wpList_app _ rfl _ _ 39 rfl i0 Try.underlying39 hi hz0 hz1 hz2 _ [x] rfl (ints_lit [x] (by intro y hy; simp at hy; subst hy; exact hwx.out) (by simp) rfl) _ d f _ (ws.take k).reverse rfl (hobk.out.alloc _).ints (by simp) (by have := hld.out; rw [List.length_reverse, List.length_take] at this; simp; omega) ?_; intro A₃ n₃ c₃ w3 ho3 hg3)
            have hq := al_grown hg3 (Nat.le_refl _)
            have ho3 := hide (show Own w3 0 (.slice A₃ n₃ c₃) (ws.take (k + 1)).reverse by
              rw [take_succ hx.out, List.reverse_append]
              exact ho3.down (Nat.zero_le _))
            clear hg3 hcell
            replace hzts := hide (hzts.out.up hq)
            replace hzws := hide (hzws.out.up hq)
            replace hb := hide (upB hb.out (hq))
            clear hq hobk
            go_wp2
            go_roundw
            case rel => exact ⟨k + 1, _, _, _, by omega, by go_num, rfl, ho3, hzts, hzws, hb⟩
            case measure => simp [intOf]; omega
          · obtain rfl : k = nws := by omega
            obtain ⟨nws, hk0⟩ : ∃ m, m = k := ⟨_, rfl⟩
            subst hk0
            replace hobk := hide (show Own wr 0 (.slice B d f) ws.reverse by
              have := hobk.out
              rwa [List.take_of_length_le (by have := hlws.out; omega)] at this)
            replace efl := hide efl.out
            go_wp2_with fail
            refine (backTerm_impl x _ _ _ _ _ _ hzts.out (Nat.le_refl _) hn20 hwx).mono ?_
            rw [eb.out]
            rintro e w6 ⟨Abb, nbb, cbb, rfl, ho, hq⟩
            replace hzts := hide (hzts.out.up hq)
            replace hzws := hide (hzws.out.up hq)
            replace hobk := hide (hobk.out.up hq)
            replace hb := hide (upB hb.out (hq))
            have hzbb := hide ho.marks
            have hlbb := hide hzbb.out.len
            clear hq ho
            have hnb20 : nbb ≤ 1048576 := by have := hlbb.out; have := hlen15.out; omega
            go_wp2_with fail
            refine (fitsOk_impl x _ _ _ _ _ _ _ _ _ _ _ hzbb.out hobk.out.ints (Nat.le_refl _) (Nat.le_refl _) hnb20 hwx).mono ?_
            rw [efb.out]
            rintro e w7 ⟨rfl, hq⟩
            replace hzts := hide (hzts.out.up hq)
            replace hzws := hide (hzws.out.up hq)
            replace hzbb := hide (hzbb.out.up hq)
            replace hobk := hide (hobk.out.up hq)
            replace hb := hide (upB hb.out (hq))
            clear hq
            cases v with
            | false =>
              go_wp2_with fail
              refine (alive_c _).mono ?_
              rintro e wz ⟨rfl, hq⟩
              go_wp2_with fail
              go_ret
              exact ⟨by simp, upB hb.out hq⟩
            | true =>
              obtain ⟨LI, hLI⟩ : ∃ LI, Hid (lenT x ts = LI) := ⟨_, hide rfl⟩
              have hnl := efl.out rfl
              rw [hLI.out] at hnl
              go_wp2_with fail
              refine (lengthOf_impl x _ _ _ _ _ _ hzts.out (Nat.le_refl _) hn20 hwx).mono ?_
              rw [hLI.out]
              rintro e w8 ⟨rfl, hq⟩
              replace hzts := hide (hzts.out.up hq)
              replace hzws := hide (hzws.out.up hq)
              replace hzbb := hide (hzbb.out.up hq)
              replace hobk := hide (hobk.out.up hq)
              replace hb := hide (upB hb.out (hq))
              clear hq
              subst hnl
              go_wp2_with fail
              refine (alive_c _).mono ?_
              rintro e wz ⟨rfl, hq⟩
              go_wp2_with fail
              go_ret
              exact ⟨by simp, upB hb.out hq⟩
end Go.Proofs.Ytffllkmaifjpfaa
