/-
  Laws of chapter 9 walked: FnLengthOf (written by wip/gen_z1.py).
-/
import Derived.Test.YtffllkmaifjpfaaTermI
import Derived.Test.YtffllkmaifjpfaaDrawTerm
import Derived.Test.YtffllkmaifjpfaaZmark
namespace Go.Proofs.Ytffllkmaifjpfaa
open Go.RowKit
set_option linter.unusedVariables false

set_option maxRecDepth 100000 in
set_option maxHeartbeats 3200000 in
theorem lawLengthOf {A : Option Addr} {n c : Nat} {bs : List Int} {w : World} (h : Bts w w.heap.size A n c bs) :
    Calls Try.prog 4 #[.slice A n c] w fun e w' => e = .returned (.bool true) ∧ Below w.heap.size w w' := by
  have hbig := h.big
  have hle := h.le
  unfold maxLen at hbig
  by_cases hn : 1048576 < n
  · go_enter Try.func4, Try.ntmps4
    go_wp2
    go_ret
    exact ⟨rfl, Below.refl _ _⟩
  · have hD := hide (DrawLengthOf_c A n c bs w h)
    obtain ⟨i0, hi, hz0, hz1, hz2⟩ := info_parts infoInt
    go_enter Try.func4, Try.ntmps4
    go_wp2_with fail
    refine hD.out.mono ?_
    rintro e w0 ⟨Ats, nts, cts, ts, x, rfl, hzts, hnts, hlox, hhix, hb⟩
    have hlts := hide hzts.len
    replace hzts := hide hzts
    replace hb := hide hb
    clear hD
    have hwx := wf_i64 (z := x) (by omega)
    have hn20 : nts ≤ 1048576 := by omega
    go_wp2_with fail
    refine (lengthOf_impl x _ _ _ _ _ _ hzts.out (Nat.le_refl _) hn20 hwx).mono ?_
    rintro e w1 ⟨rfl, hq⟩
    replace hzts := hide (hzts.out.up hq)
    replace hb := hide (upB hb.out (hq))
    clear hq
    go_wp2_with fail
    refine (lengthOf_spec x _ _ _ _ _ _ hzts.out (Nat.le_refl _) hn20).mono ?_
    rintro e w2 ⟨rfl, hq⟩
    replace hzts := hide (hzts.out.up hq)
    replace hb := hide (upB hb.out (hq))
    clear hq
    obtain ⟨p, hok⟩ : ∃ p, termOk x ts = p := ⟨_, rfl⟩
    cases p with
    | true =>
      obtain ⟨hC1, hC3, h15, t, ht⟩ := termOk_yes hok
      have hlnp := ln_pos t
      have hln6 := ln_le t ht.1
      have eb := hide (backL_in hok ht)
      have el := hide (lenT_in (termOk_mk hC1 hC3 (by rw [back_len, ht.2]; exact h15) (back_is ht)) (back_is ht))
      rw [back_ln] at el
      rw [lenT_in hok ht]
      have hfl := hide (show (flat (back t)).length ≤ 15 by rw [back_len, ht.2]; exact h15)
      obtain ⟨L, hL⟩ : ∃ L, Hid (ln t = L) := ⟨_, hide rfl⟩
      rw [hL.out] at el hlnp hln6 ⊢
      clear hok ht h15
      go_wp2_with fail
      refine (backTerm_impl x _ _ _ _ _ _ hzts.out (Nat.le_refl _) hn20 hwx).mono ?_
      rw [eb.out]
      rintro e w3 ⟨Abb, nbb, cbb, rfl, ho, hq⟩
      replace hzts := hide (hzts.out.up hq)
      replace hb := hide (upB hb.out (hq))
      have hzbb := hide ho.marks
      have hlbb := hide hzbb.out.len
      clear hq ho
      have hnb20 : nbb ≤ 1048576 := by have := hlbb.out; have := hfl.out; omega
      go_wp2_with fail
      refine (lengthOf_impl x _ _ _ _ (flat (back t)) _ hzbb.out (Nat.le_refl _) hnb20 hwx).mono ?_
      rw [el.out]
      rintro e w4 ⟨rfl, hq⟩
      replace hzts := hide (hzts.out.up hq)
      replace hzbb := hide (hzbb.out.up hq)
      replace hb := hide (upB hb.out (hq))
      clear hq
      go_wp2_with fail
      go_ret
      exact ⟨by first | rfl | simp, hb.out⟩
    | false =>
      rw [lenT_out hok]
      have hok := hide hok
      go_wp2_with fail
      refine (termOk_impl x _ _ _ _ _ _ hzts.out (Nat.le_refl _) hn20 hwx).mono ?_
      rw [hok.out]
      rintro e w5 ⟨rfl, hq⟩
      replace hzts := hide (hzts.out.up hq)
      replace hb := hide (upB hb.out (hq))
      clear hq
      go_wp2_with fail
      refine (alive_c _).mono ?_
      rintro e wz ⟨rfl, hq⟩
      go_wp2_with fail
      go_ret
      exact ⟨by simp, upB hb.out hq⟩
end Go.Proofs.Ytffllkmaifjpfaa
