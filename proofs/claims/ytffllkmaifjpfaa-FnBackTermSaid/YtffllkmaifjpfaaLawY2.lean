/-
  Laws of chapter 9 walked: FnBackTerm (written by wip/gen_z1.py).
-/
import Derived.Test.YtffllkmaifjpfaaTermI
import Derived.Test.YtffllkmaifjpfaaDrawTerm
import Derived.Test.YtffllkmaifjpfaaZmark
namespace Go.Proofs.Ytffllkmaifjpfaa
open Go.RowKit
set_option linter.unusedVariables false

set_option maxRecDepth 100000 in
set_option maxHeartbeats 3200000 in
theorem lawBackTerm {A : Option Addr} {n c : Nat} {bs : List Int} {w : World} (h : Bts w w.heap.size A n c bs) :
    Calls Try.prog 9 #[.slice A n c] w fun e w' => e = .returned (.bool true) ∧ Below w.heap.size w w' := by
  have hbig := h.big
  have hle := h.le
  unfold maxLen at hbig
  by_cases hn : 1048576 < n
  · go_enter Try.func9, Try.ntmps9
    go_wp2
    go_ret
    exact ⟨rfl, Below.refl _ _⟩
  · have hD := hide (DrawBackTerm_c A n c bs w h)
    obtain ⟨i0, hi, hz0, hz1, hz2⟩ := info_parts infoInt
    go_enter Try.func9, Try.ntmps9
    go_wp2_with fail
    refine hD.out.mono ?_
    rintro e w0 ⟨Ats, nts, cts, ts, x, rfl, hzts, hnts, hlox, hhix, hb⟩
    have hlts := hide hzts.len
    replace hzts := hide hzts
    replace hb := hide hb
    clear hD
    have hwx := wf_i64 (z := x) (by omega)
    have hn20 : nts ≤ 1048576 := by omega
    go_wp2_with fail
    refine (backTerm_impl x _ _ _ _ _ _ hzts.out (Nat.le_refl _) hn20 hwx).mono ?_
    rintro e w1 ⟨Abb, nbb, cbb, rfl, ho, hq⟩
    replace hzts := hide (hzts.out.up hq)
    replace hb := hide (upB hb.out (hq))
    have hzbb := hide ho.marks
    have hlbb := hide hzbb.out.len
    clear hq ho
    go_wp2_with fail
    refine (backTerm_spec x _ _ _ _ _ _ hzts.out (Nat.le_refl _) hn20).mono ?_
    rintro e w2 ⟨Ass, nss, css, rfl, ho, hq⟩
    replace hzts := hide (hzts.out.up hq)
    replace hzbb := hide (hzbb.out.up hq)
    replace hb := hide (upB hb.out (hq))
    have hzss := hide ho.marks
    have hlss := hide hzss.out.len
    clear hq ho
    go_wp2_with fail
    refine (quietB (sameMarks_c _ _ _ _ _ _ _ _ (backL x ts) _ hzbb.out hzss.out)).mono ?_
    rintro e w3 ⟨rfl, hq⟩
    replace hzts := hide (hzts.out.up hq)
    replace hzbb := hide (hzbb.out.up hq)
    replace hzss := hide (hzss.out.up hq)
    replace hb := hide (upB hb.out (hq))
    clear hq
    clear hzss
    obtain ⟨p, hok⟩ : ∃ p, termOk x ts = p := ⟨_, rfl⟩
    cases p with
    | true =>
      obtain ⟨hC1, hC3, h15, t, ht⟩ := termOk_yes hok
      have ebo := backL_in hok ht
      rw [ebo] at hzbb hlbb
      have hlen15 : (flat (back t)).length ≤ 15 := by rw [back_len, ht.2]; exact h15
      have hpos := flat_pos (back t)
      have hbn : 1 ≤ nbb ∧ nbb ≤ 15 := by have := hlbb.out; omega
      obtain ⟨hb1, hb15⟩ := hbn
      have hnb20 : nbb ≤ 1048576 := by omega
      have hbz : ((nbb : Int) == 0) = false := by simp; omega
      have hokb := termOk_mk hC1 hC3 hlen15 (back_is ht)
      have e2 := hide ((backL_in hokb (back_is ht)).trans (by rw [back_back, ht.2]))
      replace hokb := hide hokb
      clear hok ebo hlen15 hpos h15
      go_wp2_with fail
      refine (termOk_impl x _ _ _ _ (flat (back t)) _ hzbb.out (Nat.le_refl _) hnb20 hwx).mono ?_
      rw [hokb.out]
      rintro e w4 ⟨rfl, hq⟩
      replace hzts := hide (hzts.out.up hq)
      replace hzbb := hide (hzbb.out.up hq)
      replace hb := hide (upB hb.out (hq))
      clear hq
      go_wp2_with fail
      refine (backTerm_impl x _ _ _ _ (flat (back t)) _ hzbb.out (Nat.le_refl _) hnb20 hwx).mono ?_
      rw [e2.out]
      rintro e w5 ⟨Acc, ncc, ccc, rfl, ho, hq⟩
      replace hzts := hide (hzts.out.up hq)
      replace hzbb := hide (hzbb.out.up hq)
      replace hb := hide (upB hb.out (hq))
      have hzcc := hide ho.marks
      have hlcc := hide hzcc.out.len
      clear hq ho
      go_wp2_with fail
      refine (quietB (sameMarks_c _ _ _ _ _ _ _ _ ts _ hzcc.out hzts.out)).mono ?_
      rintro e w6 ⟨rfl, hq⟩
      replace hzts := hide (hzts.out.up hq)
      replace hzbb := hide (hzbb.out.up hq)
      replace hzcc := hide (hzcc.out.up hq)
      replace hb := hide (upB hb.out (hq))
      clear hq
      go_wp2_with fail
      go_ret
      exact ⟨by first | rfl | simp, hb.out⟩
    | false =>
      have ebo := backL_out hok
      rw [ebo] at hzbb hlbb
      have hok := hide hok
      obtain rfl : 0 = nbb := hlbb.out
      clear ebo
      go_wp2_with fail
      refine (termOk_impl x _ _ _ _ _ _ hzts.out (Nat.le_refl _) hn20 hwx).mono ?_
      rw [hok.out]
      rintro e w7 ⟨rfl, hq⟩
      replace hzts := hide (hzts.out.up hq)
      replace hzbb := hide (hzbb.out.up hq)
      replace hb := hide (upB hb.out (hq))
      clear hq
      go_wp2_with fail
      refine (alive_c _).mono ?_
      rintro e wz ⟨rfl, hq⟩
      go_wp2_with fail
      go_ret
      exact ⟨by simp, upB hb.out hq⟩
end Go.Proofs.Ytffllkmaifjpfaa
