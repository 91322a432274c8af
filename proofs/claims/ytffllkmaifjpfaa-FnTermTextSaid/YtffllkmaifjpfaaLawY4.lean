/-
  Laws of chapter 9 walked: FnTermText (written by wip/gen_z3.py).
-/
import Derived.Test.YtffllkmaifjpfaaTermI
import Derived.Test.YtffllkmaifjpfaaDrawTerm
import Derived.Test.YtffllkmaifjpfaaZmark
namespace Go.Proofs.Ytffllkmaifjpfaa
open Go.RowKit
set_option linter.unusedVariables false

set_option maxRecDepth 100000 in
set_option maxHeartbeats 3200000 in
theorem lawTermText {A : Option Addr} {n c : Nat} {bs : List Int} {w : World} (h : Bts w w.heap.size A n c bs) :
    Calls Try.prog 5 #[.slice A n c] w fun e w' => e = .returned (.bool true) ∧ Below w.heap.size w w' := by
  have hbig := h.big
  have hle := h.le
  unfold maxLen at hbig
  by_cases hn : 1048576 < n
  · go_enter Try.func5, Try.ntmps5
    go_wp2
    go_ret
    exact ⟨rfl, Below.refl _ _⟩
  · have hD := hide (DrawTermText_c A n c bs w h)
    obtain ⟨i0, hi, hz0, hz1, hz2⟩ := info_parts infoInt
    go_enter Try.func5, Try.ntmps5
    go_wp2_with fail
    refine hD.out.mono ?_
    rintro e w0 ⟨Ats, nts, cts, ts, x, rfl, hzts, hnts, hlox, hhix, hb⟩
    have hlts := hide hzts.len
    replace hzts := hide hzts
    replace hb := hide hb
    clear hD
    have hwx := wf_i64 (z := x) (by omega)
    have hn20 : nts ≤ 1048576 := by omega
    have hTX := hide (strB_size (txtT x ts))
    obtain ⟨SA, hSA⟩ : ∃ SA, Hid (strB (txtT x ts) = SA) := ⟨_, hide rfl⟩
    go_wp2_with fail
    refine (termText_impl x _ _ _ _ _ _ hzts.out (Nat.le_refl _) hn20 hwx).mono ?_
    rw [hSA.out]
    rintro e w1 ⟨rfl, hq⟩
    replace hzts := hide (hzts.out.up hq)
    replace hb := hide (upB hb.out (hq))
    clear hq
    go_wp2_with fail
    refine (termText_spec x _ _ _ _ _ _ hzts.out (Nat.le_refl _) hn20).mono ?_
    rw [hSA.out]
    rintro e w2 ⟨rfl, hq⟩
    replace hzts := hide (hzts.out.up hq)
    replace hb := hide (upB hb.out (hq))
    clear hq
    obtain ⟨p, hok⟩ : ∃ p, termOk x ts = p := ⟨_, rfl⟩
    cases p with
    | true =>
      obtain ⟨hC1, hC3, h15, t, ht⟩ := termOk_yes hok
      have etx := txtT_in hok ht
      have hbt := bts_strB (txtT x ts)
      rw [hSA.out, etx] at hbt
      have hrt := readT_mk (C := x) (x := t) (by rw [ht.2]; exact hok)
      have er := readL_some hrt
      rw [← hbt, ht.2] at er
      have er1 := hide er.1
      have er2 := hide er.2
      have hpos : SA.toList ≠ [] := fun e => by
        rw [ByteArray.toList_eq] at e
        have h1 := txt_pos t
        rw [← hbt] at h1
        unfold bts at h1
        rw [e] at h1
        simp at h1
      have hps : 0 < SA.size := by
        have h1 := txt_pos t
        rw [← hbt, bts_len] at h1
        omega
      have hne : (SA.toList == []) = false := by simpa using hpos
      clear hok h15 etx hbt hrt er hTX hpos
      go_wp2_with fail
      refine (readTerm_impl x SA _ hwx).mono ?_
      rw [er1.out, er2.out]
      rintro e w3 ⟨Arr, nrr, crr, rfl, ho, hq⟩
      replace hzts := hide (hzts.out.up hq)
      replace hb := hide (upB hb.out (hq))
      have hzrr := hide ho.marks
      have hlrr := hide hzrr.out.len
      clear hq ho
      go_wp2_with fail
      refine (quietB (sameMarks_c _ _ _ _ _ _ _ _ ts _ hzrr.out hzts.out)).mono ?_
      rintro e w4 ⟨rfl, hq⟩
      replace hzts := hide (hzts.out.up hq)
      replace hzrr := hide (hzrr.out.up hq)
      replace hb := hide (upB hb.out (hq))
      clear hq
      go_wp2_with fail
      go_ret
      exact ⟨by first | rfl | simp, hb.out⟩
    | false =>
      have etx := txtT_out hok
      rw [etx] at hSA
      have hok := hide hok
      obtain rfl : (⟨#[]⟩ : ByteArray) = SA := hSA.out
      clear etx hTX
      go_wp2_with fail
      refine (termOk_impl x _ _ _ _ _ _ hzts.out (Nat.le_refl _) hn20 hwx).mono ?_
      rw [hok.out]
      rintro e w5 ⟨rfl, hq⟩
      replace hzts := hide (hzts.out.up hq)
      replace hb := hide (upB hb.out (hq))
      clear hq
      go_wp2_with fail
      refine (alive_c _).mono ?_
      rintro e wz ⟨rfl, hq⟩
      go_wp2_with fail
      go_ret
      exact ⟨by simp, upB hb.out hq⟩
end Go.Proofs.Ytffllkmaifjpfaa
