/-
  Laws of chapter 9 walked: FnReadTerm (written by wip/gen_z8.py).
-/
import Derived.Test.YtffllkmaifjpfaaTermI
import Derived.Test.YtffllkmaifjpfaaDrawRead
import Derived.Test.YtffllkmaifjpfaaZmark
namespace Go.Proofs.Ytffllkmaifjpfaa
open Go.RowKit
set_option linter.unusedVariables false

set_option maxRecDepth 100000 in
set_option maxHeartbeats 3200000 in
theorem lawReadTerm {A : Option Addr} {n c : Nat} {bs : List Int} {w : World} (h : Bts w w.heap.size A n c bs) :
    Calls Try.prog 6 #[.slice A n c] w fun e w' => e = .returned (.bool true) ∧ Below w.heap.size w w' := by
  have hbig := h.big
  have hle := h.le
  unfold maxLen at hbig
  by_cases hn : 1048576 < n
  · go_enter Try.func6, Try.ntmps6
    go_wp2
    go_ret
    exact ⟨rfl, Below.refl _ _⟩
  · have hD := hide (DrawReadTerm_c A n c bs w h)
    obtain ⟨i0, hi, hz0, hz1, hz2⟩ := info_parts infoInt
    go_enter Try.func6, Try.ntmps6
    go_wp2_with fail
    refine hD.out.mono ?_
    rintro e w0 ⟨x, SA, rfl, hlox, hhix, hsz, hb⟩
    replace hb := hide hb
    clear hD
    have hwx := wf_i64 (z := x) (by omega)
    obtain ⟨p, hp⟩ : ∃ p, readT x (bts SA) = p := ⟨_, rfl⟩
    cases p with
    | none =>
      have er1 := hide (readL_none hp).1
      have er2 := hide (readL_none hp).2
      clear hp
      have HH := readTerm_impl x SA w0 hwx
      rw [er1.out, er2.out] at HH
      replace HH := hide HH
      go_wp2_with fail
      refine HH.out.mono ?_
      clear HH
      rintro e w1 ⟨Att, ntt, ctt, rfl, ho, hq⟩
      replace hb := hide (upB hb.out (hq))
      have hztt := hide ho.marks
      have hltt := hide hztt.out.len
      clear hq ho
      have HH := readTerm_spec x SA w1
      rw [er1.out, er2.out] at HH
      replace HH := hide HH
      go_wp2_with fail
      refine HH.out.mono ?_
      clear HH
      rintro e w2 ⟨Ass, nss, css, rfl, ho, hq⟩
      replace hztt := hide (hztt.out.up hq)
      replace hb := hide (upB hb.out (hq))
      have hzss := hide ho.marks
      have hlss := hide hzss.out.len
      clear hq ho
      go_wp2_with fail
      refine (quietB (sameMarks_c _ _ _ _ _ _ _ _ [] _ hztt.out hzss.out)).mono ?_
      rintro e w3 ⟨rfl, hq⟩
      replace hztt := hide (hztt.out.up hq)
      replace hzss := hide (hzss.out.up hq)
      replace hb := hide (upB hb.out (hq))
      clear hq
      obtain rfl : 0 = ntt := hltt.out
      go_wp2_with fail
      refine (alive_c _).mono ?_
      rintro e wz ⟨rfl, hq⟩
      go_wp2_with fail
      go_ret
      exact ⟨by simp, upB hb.out hq⟩
    | some t =>
      obtain ⟨h60, hok, hix, htx⟩ := readT_yes hp
      rw [bts_len] at h60
      have hSt : strB (txt t) = SA := txt_str.1 htx
      have er1 := hide (readL_some hp).1
      have er2 := hide (readL_some hp).2
      have hpr : bts (⟨#[40]⟩ ++ SA ++ ⟨#[41]⟩) = par (txt t) := by rw [← hSt, ← strB_par, bts_strB]
      have er3 := hide (readL_none (hpr ▸ readT_par hok)).1
      have er4 := hide (readL_none (hpr ▸ readT_par hok)).2
      have etx := hide ((congrArg strB (txtT_in hok hix)).trans hSt)
      have hl15 := (termOk_yes hok).2.2.1
      replace hok := hide hok
      clear hp hSt hpr htx hix
      have HH := readTerm_impl x SA w0 hwx
      rw [er1.out, er2.out] at HH
      replace HH := hide HH
      go_wp2_with fail
      refine HH.out.mono ?_
      clear HH
      rintro e w4 ⟨Att, ntt, ctt, rfl, ho, hq⟩
      replace hb := hide (upB hb.out (hq))
      have hztt := hide ho.marks
      have hltt := hide hztt.out.len
      clear hq ho
      have hn20 : ntt ≤ 1048576 := by have := hltt.out; omega
      clear hl15
      have HH := readTerm_spec x SA w4
      rw [er1.out, er2.out] at HH
      replace HH := hide HH
      go_wp2_with fail
      refine HH.out.mono ?_
      clear HH
      rintro e w5 ⟨Ass, nss, css, rfl, ho, hq⟩
      replace hztt := hide (hztt.out.up hq)
      replace hb := hide (upB hb.out (hq))
      have hzss := hide ho.marks
      have hlss := hide hzss.out.len
      clear hq ho
      go_wp2_with fail
      refine (quietB (sameMarks_c _ _ _ _ _ _ _ _ (flat t) _ hztt.out hzss.out)).mono ?_
      rintro e w6 ⟨rfl, hq⟩
      replace hztt := hide (hztt.out.up hq)
      replace hzss := hide (hzss.out.up hq)
      replace hb := hide (upB hb.out (hq))
      clear hq
      clear hzss
      have HH := readTerm_impl x (⟨#[40]⟩ ++ SA ++ ⟨#[41]⟩) w6 hwx
      rw [er3.out, er4.out] at HH
      replace HH := hide HH
      go_wp2_with fail
      refine HH.out.mono ?_
      clear HH
      rintro e w7 ⟨Auu, nuu, cuu, rfl, ho, hq⟩
      replace hztt := hide (hztt.out.up hq)
      replace hb := hide (upB hb.out (hq))
      have hzuu := hide ho.marks
      have hluu := hide hzuu.out.len
      clear hq ho
      clear hzuu
      go_wp2_with fail
      refine (termText_impl x _ _ _ _ (flat t) _ hztt.out (Nat.le_refl _) hn20 hwx).mono ?_
      rw [etx.out]
      rintro e w8 ⟨rfl, hq⟩
      replace hztt := hide (hztt.out.up hq)
      replace hb := hide (upB hb.out (hq))
      clear hq
      go_wp2_with fail
      refine (termOk_impl x _ _ _ _ (flat t) _ hztt.out (Nat.le_refl _) hn20 hwx).mono ?_
      rw [hok.out]
      rintro e w9 ⟨rfl, hq⟩
      replace hztt := hide (hztt.out.up hq)
      replace hb := hide (upB hb.out (hq))
      clear hq
      go_wp2_with fail
      go_ret
      exact ⟨by simp, hb.out⟩
end Go.Proofs.Ytffllkmaifjpfaa
