/-
  Laws of chapter 13 walked: FnMatchesOf (written by wip/gen_b7.py).
-/
import Derived.Test.YtdejlalodjhlbaaHatI
import Derived.Test.YtdejlalodjhlbaaPlainAG
import Derived.Test.YtdejlalodjhlbaaDrawHat
import Derived.Test.YtdejlalodjhlbaaLawX1
import Derived.Test.YtdejlalodjhlbaaZdraw
namespace Go.Proofs.Ytdejlalodjhlbaa
open Go.RowKit
set_option linter.unusedVariables false

theorem inv_len (l : List Int) (k : Nat) : (invTo l k).length = l.length := by
  induction k with
  | zero => simp [invTo]
  | succ k ih => simp [invTo, ih]
theorem inv_facts {l : List Int} (h : hatsB l = true) : matTo l l.length ≠ (l.length : Int) - 1 ∧ matW (invTo l l.length) = matTo l l.length := by
  have hp := hat_all hat_cnt h
  unfold hatP at hp
  simp only [Bool.and_eq_true] at hp
  obtain ⟨⟨⟨⟨a, b⟩, c⟩, _⟩, _⟩ := hp
  refine ⟨fun e => ?_, ?_⟩
  · rw [decide_eq_true e] at a
    exact absurd a (by decide)
  · unfold matW
    rw [if_pos b, inv_len]
    exact of_decide_eq_true c

set_option maxRecDepth 100000 in
set_option maxHeartbeats 6400000 in
theorem lawMatchesOf {A : Option Addr} {n c : Nat} {bs : List Int} {w : World} (h : Bts w w.heap.size A n c bs) :
    Calls Try.prog 4 #[.slice A n c] w fun e w' => e = .returned (.bool true) ∧ Below w.heap.size w w' := by
  have hbig := h.big
  have hle := h.le
  unfold maxLen at hbig
  by_cases hn : 1048576 < n
  · go_enter Try.func4, Try.ntmps4
    go_wp2
    go_ret
    exact ⟨rfl, Below.refl _ _⟩
  · have hD := hide (DrawMatchesOf_c A n c bs w h)
    obtain ⟨i0, hi, hz0, hz1, hz2⟩ := info_parts infoInt
    go_enter Try.func4, Try.ntmps4
    go_wp2_with fail
    refine hD.out.mono ?_
    rintro e w0 ⟨Arow, nrow, crow, row, rfl, hzrow, hnrow, hb⟩
    have hlrow := hide hzrow.len
    replace hzrow := hide hzrow
    replace hb := hide hb
    clear hD
    go_wp2_with fail
    refine (matchesOf_impl _ _ _ _ row _ hzrow.out (Nat.le_refl _)).mono ?_
    rintro e w1 ⟨rfl, hq⟩
    replace hzrow := hide (hzrow.out.up hq)
    replace hb := hide (upB hb.out (hq))
    clear hq
    go_wp2_with fail
    refine (sameB (matchesOf_spec _ _ _ _ row _ hzrow.out)).mono ?_
    rintro e w2 ⟨rfl, hq⟩
    replace hzrow := hide (hzrow.out.up hq)
    replace hb := hide (upB hb.out (hq))
    clear hq
    cases hok : hatsB row with
    | false =>
      rw [show matW row = -1 by unfold matW; rw [hok]; rfl]
      replace hok := hide hok
      go_wp2_with fail
      refine (hatsOk_impl _ _ _ _ row _ hzrow.out (Nat.le_refl _)).mono ?_
      rw [hok.out]
      rintro e w3 ⟨rfl, hq⟩
      replace hzrow := hide (hzrow.out.up hq)
      replace hb := hide (upB hb.out (hq))
      clear hq
      go_wp2_with fail
      refine (alive_c _).mono ?_
      rintro e wz ⟨rfl, hq⟩
      go_wp2_with fail
      go_ret
      exact ⟨by simp, upB hb.out hq⟩
    | true =>
      obtain ⟨p1, p2⟩ := inv_facts hok
      obtain ⟨p3, p4⟩ := mat_bound row nrow
      have hin := hide (hats_yes hok).1
      have hn6 : nrow ≤ 6 := by have := (hats_yes hok).2.2; have := hlrow.out; omega
      have hl := hlrow.out
      rw [hl] at p1 p2 hin
      rw [show matW row = matTo row nrow by unfold matW; rw [hok, if_pos rfl, hl]]
      obtain ⟨V, hV⟩ : ∃ V, Hid (matTo row nrow = V) := ⟨_, hide rfl⟩
      rw [hV.out] at p1 p2 p3 p4 ⊢
      have hL := hide (fun k => (inv_len row k).trans hl)
      have hd1 : (V != (nrow : Int) - 1) = true := by simp; exact p1
      have hd2 : decide (V ≤ (nrow : Int)) = true := decide_eq_true p4
      have hI0 := hide (show invTo row 0 = List.replicate nrow 0 by rw [← hl]; rfl)
      have hIS := hide (fun k => show invTo row (k + 1) = (invTo row k).set (atI row k).toNat (k : Int) from rfl)
      replace p2 := hide p2
      clear p1 hl hok
      go_wp2_with (at_make; refine wpList_make_full _ rfl _ _ 23 rfl w2.heap.size 3 i0 (.int .i64 0) 1 Try.underlying23 hi hz0 hz1 .i64 .i64 _ _ nrow rfl rfl rfl rfl (by rw [hz2]; omega) (by unfold maxLen; omega) (Nat.le_refl _) ?_; intro wa hown2 hgrow2; have hoA := hide (own_made hown2); have hbA := hide ((Below.refl _ _).grown hgrow2 (Nat.le_refl _) (fun _ e => by cases e)); clear hown2 hgrow2)
      rw [← hI0.out] at hoA
      go_loopw [6] (fun i wr => ∃ k : Nat, k ≤ nrow ∧ i = .int .i64 (k : Int) ∧ Hid (Own wr w2.heap.size (.slice (some ⟨w2.heap.size, 0, none⟩) nrow nrow) (invTo row k)) ∧ Hid (Below w2.heap.size w2 wr)) (fun i _ => nrow - (intOf i).toNat)
      case atStart => exact ⟨0, Nat.zero_le _, rfl, hoA, hbA⟩
      case round =>
        clear hoA hbA
        obtain ⟨k, hk, rfl, hoA, hbA⟩ := hrel
        by_cases hlt : k < nrow
        · obtain ⟨b, off, x, rfl, hbB, hx, hcell⟩ := (hzrow.out.up hbA.out).look hlt
          obtain ⟨x0, x1⟩ := hin.out x (List.mem_of_getElem? hx.out)
          obtain ⟨X, rfl⟩ : ∃ X : Nat, x = (X : Int) := ⟨x.toNat, by omega⟩
          obtain ⟨y, hy⟩ : ∃ y, (invTo row k)[X]? = some y := ⟨_, List.getElem?_eq_getElem (by have := hL.out k; omega)⟩
          obtain ⟨g1, hA, hg0, hgl, hcy, hfy⟩ := hoA.out.at2 hy
          injection hA with hA
          injection hA with e1 _ _
          subst e1
          have hst := hide (show invTo row (k + 1) = (invTo row k).set X (k : Int) by rw [hIS.out, atI_some hx.out, Int.toNat_natCast])
          have hoB := hoA.out.set_ (k := X) (k : Int) (wf_i64 (by omega))
          rw [← hst.out] at hoB
          replace hoB := hide hoB
          have hbB2 := hide (hbA.out.setCell (p := ⟨w2.heap.size, X, none⟩) (Nat.le_refl _) (.int .i64 (k : Int)))
          clear hy hst
          go_wp2_with fail
          go_roundw
          case rel => exact ⟨k + 1, by omega, by go_num, hoB, hbB2⟩
          case measure => simp [intOf] <;> omega
        · obtain ⟨kk, hkk⟩ : ∃ m, m = k := ⟨_, rfl⟩
          have hkC := hide (show k = nrow by omega)
          rw [hkC.out] at hoA
          replace hzrow := hide (hzrow.out.up hbA.out)
          replace hb := hide (upB hb.out (hbA.out))
          have hoback := hide (hoA.out.down (Nat.zero_le _))
          clear hoA hbA
          go_wp2_with fail
          refine (matchesOf_impl _ _ _ _ (invTo row nrow) _ hoback.out.ints (Nat.le_refl _)).mono ?_
          rw [p2.out]
          rintro e w4 ⟨rfl, hq⟩
          replace hzrow := hide (hzrow.out.up hq)
          replace hoback := hide (hoback.out.up hq)
          replace hb := hide (upB hb.out (hq))
          clear hq
          go_wp2_with fail
          refine (alive_c _).mono ?_
          rintro e wz ⟨rfl, hq⟩
          go_wp2_with fail
          go_ret
          exact ⟨by simp, upB hb.out hq⟩
end Go.Proofs.Ytdejlalodjhlbaa
