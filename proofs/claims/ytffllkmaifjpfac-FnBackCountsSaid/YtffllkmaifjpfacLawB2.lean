/-
  Laws of chapter 3 walked: FnBackAll, FnBackCounts (written by wip/gen_b2.py).
-/
import Derived.Test.YtffllkmaifjpfacZdraw
import Derived.Test.YtffllkmaifjpfacZback
namespace Go.Proofs.Ytffllkmaifjpfac
open Go.RowKit
set_option linter.unusedVariables false

set_option maxHeartbeats 3200000 in
theorem lawBackCounts {A : Option Addr} {n c : Nat} {bs : List Int} {w : World} (h : Bts w w.heap.size A n c bs) :
    Calls Try.prog 3 #[.slice A n c] w fun e w' => e = .returned (.bool true) ∧ Below w.heap.size w w' := by
  have hbig := h.big
  have hle := h.le
  unfold maxLen at hbig
  by_cases hn : 1048576 < n
  · go_enter Try.func3, Try.ntmps3
    go_wp2
    go_ret
    exact ⟨rfl, Below.refl _ _⟩
  · have hD := hide (DrawBackCounts_c A n c bs w h)
    obtain ⟨i0, hi, hz0, hz1, hz2⟩ := info_parts infoInt
    go_enter Try.func3, Try.ntmps3
    go_wp2_with fail
    refine hD.out.mono ?_
    rintro e w0 ⟨Azs, nzs, czs, zs, Acs, ncs, ccs, cs, rfl, hzzs, hnzs, hzcs, hncs, hb⟩
    have hlzs := hide hzzs.len
    replace hzzs := hide hzzs
    have hlcs := hide hzcs.len
    replace hzcs := hide hzcs
    replace hb := hide hb
    clear hD
    go_wp2_with fail
    refine (backCounts_impl _ _ _ _ _ _ _ _ zs cs _ hzzs.out hzcs.out (Nat.le_refl _) (Nat.le_refl _)).mono ?_
    rintro e w1 ⟨rfl, hq⟩
    replace hzzs := hide (hzzs.out.up hq)
    replace hzcs := hide (hzcs.out.up hq)
    replace hb := hide (upB hb.out (hq))
    clear hq
    go_wp2_with fail
    refine (quietB (backCounts_spec _ _ _ _ _ _ _ _ zs cs _ hzzs.out hzcs.out)).mono ?_
    rintro e w2 ⟨rfl, hq⟩
    replace hzzs := hide (hzzs.out.up hq)
    replace hzcs := hide (hzcs.out.up hq)
    replace hb := hide (upB hb.out (hq))
    clear hq
    by_cases hok : (urnOk zs && countRowOk (zs.length : Int) cs) = true
    · have he : backCounts zs cs = mult cs * powK zs cs cs.length := by unfold backCounts; rw [if_pos hok]
      obtain ⟨hu, hr⟩ := Bool.and_eq_true_iff.1 hok
      obtain ⟨m1, _, _, _⟩ := row_fine hr
      obtain ⟨k1, k2, k3, k4, k5⟩ := countRowOk_yes hr
      have m2b := (mult_bound hr).2
      have hnn : nzs = ncs := by have := hlcs.out; have := hlzs.out; omega
      subst hnn
      have hn3 : 1 ≤ nzs ∧ nzs ≤ 3 := by have := hlcs.out; omega
      have hzm := urnOk_mem hu
      have hEc := hide (fun (k : Nat) x (hx : cs[k]? = some x) => k4 x (List.mem_of_getElem? hx))
      obtain ⟨p0, p1⟩ := powK_bounds hzm k4 cs.length
      rw [List.take_length] at p1
      have p1 := Int.le_trans p1 (pow40_6 _ (by omega))
      have hsw := sorted_word hr
      have hBW := hide (show backWays zs (sorted cs nzs) = powK zs cs cs.length by unfold backWays; rw [hu, ← hlcs.out, hsw, bw_sorted]; rfl)
      have hWW := hide (show wordsWith (nzs : Int) cs = mult cs by unfold wordsWith; rw [show (nzs : Int) = (zs.length : Int) by rw [hlzs.out], if_pos hr])
      have hCW := hide (show countWays zs cs = mult cs * prodC zs cs by unfold countWays; rw [if_pos hok])
      have hPK := (prodK_le_powK (zs := zs) (cs := cs) (fun z hz => (hzm z hz).1) cs.length).1
      have hSL := hide (fun (k : Nat) (j : Nat) x (hx : cs[k]? = some x) (hj : (j : Int) ≤ x) => show (sorted cs k ++ List.replicate j (k : Int)).length ≤ 6 by
        have h1 := sorted_len k4 k
        have h2 := isum_take_succ hx
        have h3 := (isum_bounds 6 (cs.drop (k + 1)) (fun x hx => k4 x (List.mem_of_mem_drop hx))).1
        have e := isum_append (cs.take (k + 1)) (cs.drop (k + 1))
        rw [List.take_append_drop] at e
        rw [List.length_append, List.length_replicate]; omega)
      have hSS := hide (fun (k : Nat) x (hx : cs[k]? = some x) => show sorted cs k ++ List.replicate x.toNat (k : Int) = sorted cs (k + 1) by simp only [sorted]; rw [hx]; rfl)
      rw [he]
      obtain ⟨M, hM⟩ : ∃ M, Hid (mult cs = M) := ⟨_, hide rfl⟩
      obtain ⟨P, hP⟩ : ∃ P, Hid (powK zs cs cs.length = P) := ⟨_, hide rfl⟩
      obtain ⟨Q, hQ⟩ : ∃ Q, Hid (prodC zs cs = Q) := ⟨_, hide rfl⟩
      have hPK : Q ≤ P := by rw [← hQ.out, ← hP.out]; exact hPK
      rw [hM.out] at m1 m2b hWW hCW ⊢
      rw [hP.out] at p0 p1 hBW ⊢
      rw [hQ.out] at hCW
      obtain ⟨v0, v1⟩ := mul_bound (show 0 ≤ M by omega) m2b p0 p1
      have hmc : P * M = M * P := Int.mul_comm _ _
      have hge : M * Q ≤ M * P := Int.mul_le_mul_of_nonneg_left hPK (by omega)
      obtain ⟨V, hV⟩ : ∃ V, Hid (M * P = V) := ⟨_, hide rfl⟩
      obtain ⟨U, hU⟩ : ∃ U, Hid (M * Q = U) := ⟨_, hide rfl⟩
      rw [hV.out] at v0 v1 hmc hge ⊢
      rw [hU.out] at hCW hge
      have hn0 : ¬ V < 0 := by omega
      have hge := hide hge
      have hmc := hide hmc
      clear he hok hu hr k1 k2 k3 k4 k5 hzm hsw hPK
      have how := hide (own_empty (w := w2) (base := w2.heap.size) (Nat.le_refl _))
      have hq := hide (al w2 (.cells #[] 3))
      go_wp2_with fail
      go_loopw [6, 7] (fun v i wr => ∃ k : Nat, ∃ B d f, k ≤ nzs ∧ i = .int .i64 k ∧ v = .slice B d f ∧ Hid (Own wr w2.heap.size (.slice B d f) (sorted cs k)) ∧ Hid (Below w2.heap.size w2 wr)) (fun _ i _ => nzs - (intOf i).toNat)
      case atStart => exact ⟨0, _, _, _, Nat.zero_le _, rfl, rfl, how, hq⟩
      case round =>
        clear how hq
        obtain ⟨k, B, d, f, hk, rfl, rfl, how, hq⟩ := hrel
        by_cases hlt : k < nzs
        · obtain ⟨b, off, x, rfl, hbB, hx, hcell⟩ := (hzcs.out.up hq.out).look hlt
          obtain ⟨x0, x6⟩ := hEc.out k x hx.out
          have how := hide (show Own wr w2.heap.size (.slice B d f) (sorted cs k ++ List.replicate 0 (k : Int)) by simpa using how.out)
          clear hcell
          go_wp2_with fail
          go_loopw [6, 8] (fun v i wr => ∃ j : Nat, ∃ B d f, (j : Int) ≤ x ∧ i = .int .i64 j ∧ v = .slice B d f ∧ Hid (Own wr w2.heap.size (.slice B d f) (sorted cs k ++ List.replicate j (k : Int))) ∧ Hid (Below w2.heap.size w2 wr)) (fun _ i _ => (x - intOf i).toNat)
          case atStart => exact ⟨0, _, _, _, x0, rfl, rfl, how, hq⟩
          case round =>
            clear how hq
            obtain ⟨j, B, d, f, hj, rfl, rfl, how, hq⟩ := hrel
            obtain ⟨b2, off2, x2, hA2, hbB2, hx2, hcell⟩ := (hzcs.out.up hq.out).look hlt
            injection hA2 with hA2
            injection hA2 with e1 e2 _
            subst e1; subst e2
            obtain rfl : x2 = x := by have h1 := hx.out; have h2 := hx2.out; rw [h1] at h2; injection h2 with h2; exact h2.symm
            by_cases hjx : (j : Int) < x2
            · have hs := hq.out.size
              have hlen := hide (hSL.out k j x2 hx.out hj)
              have hkw := hide (wf_i64 (z := (k : Int)) (by omega))
              go_wp2_with (at_builtin; refine wpList_app _ rfl _ _ 23 rfl i0 Try.underlying23 hi hz0 hz1 hz2 _ (sorted cs k ++ List.replicate j (k : Int)) rfl (how.out.alloc _) _ 1 1 _ [(k : Int)] rfl (ints_lit1 hkw.out) (by simp; omega) (by have := hlen.out; simp only [List.length_append] at this ⊢; omega) ?_; intro A₃ n₃ c₃ w3 ho3 hg3)
              have hq3 := hide ((hq.out.alloc hs (.cells #[.int .i64 (k : Int)] 3)).grown hg3 (by simp; omega) (fun i hi => (how.out.row.lt i hi).1))
              have ho3 := hide (show Own w3 w2.heap.size (.slice A₃ n₃ c₃) (sorted cs k ++ List.replicate (j + 1) (k : Int)) by
                rw [List.replicate_succ', ← List.append_assoc]; exact ho3)
              clear hg3 how hq hcell
              go_wp2
              go_roundw
              case rel => exact ⟨j + 1, _, _, _, by omega, by go_num, rfl, ho3, hq3⟩
              case measure => simp [intOf]; omega
            · have hjn : j = x2.toNat := by omega
              have how := hide (show Own wr w2.heap.size (.slice B d f) (sorted cs (k + 1)) by
                rw [← hSS.out k x2 hx.out, ← hjn]; exact how.out)
              go_wp2_with fail
              go_roundw
              case rel => exact ⟨k + 1, _, _, _, by omega, by go_num, rfl, how, hq⟩
              case measure => simp [intOf]; omega
        · obtain rfl : k = nzs := by omega
          replace hzzs := hide (hzzs.out.up hq.out)
          replace hzcs := hide (hzcs.out.up hq.out)
          replace hb := hide (upB hb.out hq.out)
          have howd := hide (how.out.down (Nat.zero_le _))
          clear how hq
          go_wp2_with fail
          refine (backWays_impl _ _ _ _ _ _ _ _ zs (sorted cs k) _ hzzs.out howd.out.ints (Nat.le_refl _) (Nat.le_refl _)).mono ?_
          rw [hBW.out]
          rintro e w3 ⟨rfl, hq⟩
          replace hzzs := hide (hzzs.out.up hq)
          replace hzcs := hide (hzcs.out.up hq)
          replace howd := hide (howd.out.up hq)
          replace hb := hide (upB hb.out (hq))
          clear hq
          go_wp2_with fail
          refine (wordsWith_impl (k : Int) _ _ _ _ cs _ hzcs.out (Nat.le_refl _)).mono ?_
          rw [hWW.out]
          rintro e w4 ⟨rfl, hq⟩
          replace hzzs := hide (hzzs.out.up hq)
          replace hzcs := hide (hzcs.out.up hq)
          replace howd := hide (howd.out.up hq)
          replace hb := hide (upB hb.out (hq))
          clear hq
          have hmc := hmc.out
          go_wp2_with fail
          refine (countWays_impl _ _ _ _ _ _ _ _ zs cs _ hzzs.out hzcs.out (Nat.le_refl _) (Nat.le_refl _)).mono ?_
          rw [hCW.out]
          rintro e w5 ⟨rfl, hq⟩
          replace hzzs := hide (hzzs.out.up hq)
          replace hzcs := hide (hzcs.out.up hq)
          replace howd := hide (howd.out.up hq)
          replace hb := hide (upB hb.out (hq))
          clear hq
          have hge := hge.out
          go_wp2_with fail
          go_ret
          exact ⟨by simp, hb.out⟩
    · have he : backCounts zs cs = -1 := by unfold backCounts; rw [if_neg hok]
      rw [he]
      clear hok
      go_wp2_with fail
      refine (alive_c _).mono ?_
      rintro e wz ⟨rfl, hq⟩
      go_wp2_with fail
      go_ret
      exact ⟨by simp, upB hb.out hq⟩
end Go.Proofs.Ytffllkmaifjpfac
