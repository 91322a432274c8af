/-
  Laws of chapter 9 walked: FnTermOk (written by wip/gen_z2.py).
-/
import Derived.Test.YtffllkmaifjpfaaTermI
import Derived.Test.YtffllkmaifjpfaaDrawTerm
import Derived.Test.YtffllkmaifjpfaaZmark
namespace Go.Proofs.Ytffllkmaifjpfaa
open Go.RowKit
set_option linter.unusedVariables false

theorem one_any {C : Int} (h1 : 1 ≤ C) (h3 : C ≤ 3) : termOk C [(1, 0)] = true := termOk_mk h1 h3 (by simp) (x := .any) ⟨rfl, rfl⟩
theorem one_col {C z : Int} (h1 : 1 ≤ C) (h3 : C ≤ 3) (hz0 : 0 ≤ z) (hzC : z < C) : termOk C [(0, z)] = true := termOk_mk h1 h3 (by simp) (x := .col z.toNat) ⟨decide_eq_true (by omega), by simp only [flat]; rw [Int.toNat_of_nonneg hz0]⟩
theorem one_none {C : Int} : termOk C [(0, C)] = false := by
  unfold termOk
  rw [show runT C [] [(0, C)] = none by simp [runT, stepT]]
  simp [isOne]
theorem more_ok {C : Int} {ts : List Mk} {t : Tr} (h1 : 1 ≤ C) (h3 : C ≤ 3) (hl : ts.length + 2 ≤ 15) (ht : Is C ts t) (hn : ln t + 1 ≤ 6) : termOk C (ts ++ [(1, 0), (2, 0)]) = true := by
  refine termOk_mk h1 h3 (by simp; omega) (x := .thn t .any) ⟨?_, ?_⟩
  · simp only [good, Bool.and_eq_true]
    exact ⟨⟨ht.1, trivial⟩, decide_eq_true hn⟩
  · simp only [flat, ht.2]; rfl

set_option maxRecDepth 100000 in
set_option maxHeartbeats 3200000 in
theorem lawTermOk {A : Option Addr} {n c : Nat} {bs : List Int} {w : World} (h : Bts w w.heap.size A n c bs) :
    Calls Try.prog 3 #[.slice A n c] w fun e w' => e = .returned (.bool true) ∧ Below w.heap.size w w' := by
  have hbig := h.big
  have hle := h.le
  unfold maxLen at hbig
  by_cases hn : 1048576 < n
  · go_enter Try.func3, Try.ntmps3
    go_wp2
    go_ret
    exact ⟨rfl, Below.refl _ _⟩
  · have hD := hide (DrawTermOk_c A n c bs w h)
    obtain ⟨i0, hi, hz0, hz1, hz2⟩ := info_parts infoInt
    go_enter Try.func3, Try.ntmps3
    go_wp2_with fail
    refine hD.out.mono ?_
    rintro e w0 ⟨Ats, nts, cts, ts, x, rfl, hzts, hnts, hlox, hhix, hb⟩
    have hlts := hide hzts.len
    replace hzts := hide hzts
    replace hb := hide hb
    clear hD
    have hwx := wf_i64 (z := x) (by omega)
    have hn20 : nts ≤ 1048576 := by omega
    go_wp2_with fail
    refine (termOk_impl x _ _ _ _ _ _ hzts.out (Nat.le_refl _) hn20 hwx).mono ?_
    rintro e w1 ⟨rfl, hq⟩
    replace hzts := hide (hzts.out.up hq)
    replace hb := hide (upB hb.out (hq))
    clear hq
    go_wp2_with fail
    refine (termOk_spec x _ _ _ _ _ _ hzts.out (Nat.le_refl _) hn20).mono ?_
    rintro e w2 ⟨rfl, hq⟩
    replace hzts := hide (hzts.out.up hq)
    replace hb := hide (upB hb.out (hq))
    clear hq
    by_cases hx3 : x ≤ 3
    · have hx0 : 1 ≤ x := by omega
      have hw0 := wf_i64 (z := 0) (by omega)
      have hw1 := wf_i64 (z := 1) (by omega)
      have hw2 := wf_i64 (z := 2) (by omega)
      have hwx1 := wf_i64 (z := x - 1) (by omega)
      have t1 := hide (one_any hx0 hx3)
      have t2 := hide (one_col (C := x) (z := x - 1) hx0 hx3 (by omega) (by omega))
      have t3 := hide (one_none (C := x))
      obtain ⟨i1, hi1, hy0, hy1, hy2⟩ := infoMark_parts
      obtain ⟨p, hok⟩ : ∃ p, Hid (termOk x ts = p) := ⟨_, hide rfl⟩
      rw [hok.out]
      have hE := hide (ownK_empty (w := w2) (base := w2.heap.size) (Nat.le_refl _))
      have hzt2 := hide (hzts.out.alloc (Nat.le_refl _) (.cells #[] 29))
      go_wp2_with (first
        | (at_builtin; refine wpList_appK _ rfl _ _ 23 rfl i1 Try.underlying23 hi1 hy0 hy1 hy2 _ [] rfl hE.out _ nts cts _ ts rfl hzt2.out (by simp) (by simp; omega) ?_; intro A₃ n₃ c₃ w3 ho3 hg3; have hb3 := hide ((al w2 (.cells #[] 29)).grown hg3 (by simp) (fun j hj => (hE.out.row.lt j hj).1)); replace ho3 := hide (show OwnK w3 w2.heap.size (.slice A₃ n₃ c₃) ts from ho3); have hs3 := hb3.out.size; clear hg3)
        | (at_builtin; refine wpList_appK _ rfl _ _ 23 rfl i1 Try.underlying23 hi1 hy0 hy1 hy2 _ ts rfl (ho3.out.alloc _) _ 2 2 _ [(1, 0), (2, 0)] rfl (marks_lit2 hw1 hw0 hw2 hw0).marks (by simp; omega) (by have := hlts.out; omega) ?_; intro A₄ n₄ c₄ wm ho4 hg4; have hb4 := hide ((hb3.out.alloc hs3 (.cells #[.int .i64 1, .int .i64 0, .int .i64 2, .int .i64 0] 29)).grown hg4 (by simp; omega) (fun j hj => (ho3.out.row.lt j hj).1)); replace ho4 := hide ho4; clear hg4))
      have hzmm := hide ho4.out.marks
      have hlmm := hide ho4.out.len
      clear ho4 ho3 hb3 hE hzt2
      replace hzts := hide (hzts.out.up hb4.out)
      replace hb := hide (upB hb.out (hb4.out))
      clear hb4
      replace hzts := hide (hzts.out.up (al _ (.cells #[.int .i64 1, .int .i64 0] 29)))
      replace hzmm := hide (hzmm.out.up (al _ (.cells #[.int .i64 1, .int .i64 0] 29)))
      replace hb := hide (upB hb.out ((al _ (.cells #[.int .i64 1, .int .i64 0] 29))))
      have hzua := hide ((marks_lit1 (w := wm) hw1 hw0).more (show wm.heap.size + 1 ≤ (wm.alloc (.cells #[.int .i64 1, .int .i64 0] 29)).heap.size by simp))
      go_wp2_with fail
      refine (termOk_impl x _ _ _ _ _ _ hzua.out (Nat.le_refl _) (by omega) hwx).mono ?_
      rw [t1.out]
      rintro e w3 ⟨rfl, hq⟩
      replace hzts := hide (hzts.out.up hq)
      replace hzmm := hide (hzmm.out.up hq)
      replace hb := hide (upB hb.out (hq))
      clear hq
      clear hzua
      replace hzts := hide (hzts.out.up (al _ (.cells #[.int .i64 0, .int .i64 (x - 1)] 29)))
      replace hzmm := hide (hzmm.out.up (al _ (.cells #[.int .i64 0, .int .i64 (x - 1)] 29)))
      replace hb := hide (upB hb.out ((al _ (.cells #[.int .i64 0, .int .i64 (x - 1)] 29))))
      have hzub := hide ((marks_lit1 (w := w3) hw0 hwx1).more (show w3.heap.size + 1 ≤ (w3.alloc (.cells #[.int .i64 0, .int .i64 (x - 1)] 29)).heap.size by simp))
      go_wp2_with fail
      refine (termOk_impl x _ _ _ _ _ _ hzub.out (Nat.le_refl _) (by omega) hwx).mono ?_
      rw [t2.out]
      rintro e w4 ⟨rfl, hq⟩
      replace hzts := hide (hzts.out.up hq)
      replace hzmm := hide (hzmm.out.up hq)
      replace hb := hide (upB hb.out (hq))
      clear hq
      clear hzub
      replace hzts := hide (hzts.out.up (al _ (.cells #[.int .i64 0, .int .i64 x] 29)))
      replace hzmm := hide (hzmm.out.up (al _ (.cells #[.int .i64 0, .int .i64 x] 29)))
      replace hb := hide (upB hb.out ((al _ (.cells #[.int .i64 0, .int .i64 x] 29))))
      have hzuc := hide ((marks_lit1 (w := w4) hw0 hwx).more (show w4.heap.size + 1 ≤ (w4.alloc (.cells #[.int .i64 0, .int .i64 x] 29)).heap.size by simp))
      go_wp2_with fail
      refine (termOk_impl x _ _ _ _ _ _ hzuc.out (Nat.le_refl _) (by omega) hwx).mono ?_
      rw [t3.out]
      rintro e w5 ⟨rfl, hq⟩
      replace hzts := hide (hzts.out.up hq)
      replace hzmm := hide (hzmm.out.up hq)
      replace hb := hide (upB hb.out (hq))
      clear hq
      clear hzuc
      cases p with
      | false =>
        go_wp2_with fail
        go_ret
        exact ⟨by first | rfl | simp, hb.out⟩
      | true =>
        obtain ⟨hC1, hC3, h15, t, ht⟩ := termOk_yes hok.out
        by_cases hn13 : 13 < nts
        · go_wp2_with fail
          go_ret
          exact ⟨by first | rfl | simp, hb.out⟩
        · have el := hide (lenT_in hok.out ht)
          have hln := ln_pos t
          have hln6 := ln_le t ht.1
          obtain ⟨L, hL⟩ : ∃ L, Hid (ln t = L) := ⟨_, hide rfl⟩
          rw [hL.out] at el hln hln6
          go_wp2_with fail
          refine (lengthOf_impl x _ _ _ _ _ _ hzts.out (Nat.le_refl _) hn20 hwx).mono ?_
          rw [el.out]
          rintro e w6 ⟨rfl, hq⟩
          replace hzts := hide (hzts.out.up hq)
          replace hzmm := hide (hzmm.out.up hq)
          replace hb := hide (upB hb.out (hq))
          clear hq
          by_cases hL6 : 6 ≤ L
          · go_wp2_with fail
            go_ret
            exact ⟨by first | rfl | simp, hb.out⟩
          · have hmore := hide (more_ok hC1 hC3 (show ts.length + 2 ≤ 15 by have := hlts.out; omega) ht (show ln t + 1 ≤ 6 by have := hL.out; omega))
            have hnm : n₄ ≤ 1048576 := by have := hlmm.out; have := hlts.out; simp at *; omega
            go_wp2_with fail
            refine (termOk_impl x _ _ _ _ _ _ hzmm.out (Nat.le_refl _) hnm hwx).mono ?_
            rw [hmore.out]
            rintro e w7 ⟨rfl, hq⟩
            replace hzts := hide (hzts.out.up hq)
            replace hzmm := hide (hzmm.out.up hq)
            replace hb := hide (upB hb.out (hq))
            clear hq
            go_wp2_with fail
            go_ret
            exact ⟨by first | rfl | simp, hb.out⟩
    · have hok : termOk x ts = false := by
        unfold termOk
        rw [decide_eq_false (by omega)]; rfl
      rw [hok]
      have hx4 : 3 < x := by omega
      clear hok
      go_wp2_with fail
      refine (alive_c _).mono ?_
      rintro e wz ⟨rfl, hq⟩
      go_wp2_with fail
      go_ret
      exact ⟨by simp, upB hb.out hq⟩
end Go.Proofs.Ytffllkmaifjpfaa
