/-
  Laws of chapter 3 walked: FnBackAll, FnBackCounts (written by wip/gen_b2.py).
-/
import Derived.Test.YtdnnobkkilffbaaZdraw
import Derived.Test.YtdnnobkkilffbaaZback
namespace Go.Proofs.Ytdnnobkkilffbaa
open Go.RowKit
set_option linter.unusedVariables false

set_option maxHeartbeats 3200000 in
theorem lawBackAll {A : Option Addr} {n c : Nat} {bs : List Int} {w : World} (h : Bts w w.heap.size A n c bs) :
    Calls Try.prog 5 #[.slice A n c] w fun e w' => e = .returned (.bool true) ∧ Below w.heap.size w w' := by
  have hbig := h.big
  have hle := h.le
  unfold maxLen at hbig
  by_cases hn : 1048576 < n
  · go_enter Try.func5, Try.ntmps5
    go_wp2
    go_ret
    exact ⟨rfl, Below.refl _ _⟩
  · have hD := hide (DrawBackAll_c A n c bs w h)
    obtain ⟨i0, hi, hz0, hz1, hz2⟩ := info_parts infoInt
    go_enter Try.func5, Try.ntmps5
    go_wp2_with fail
    refine hD.out.mono ?_
    rintro e w0 ⟨Azs, nzs, czs, zs, m, rfl, hzzs, hnzs, hlom, hhim, hb⟩
    have hlzs := hide hzzs.len
    replace hzzs := hide hzzs
    replace hb := hide hb
    clear hD
    go_wp2_with fail
    refine (backAll_impl _ _ _ _ zs m _ hzzs.out (Nat.le_refl _)).mono ?_
    rintro e w1 ⟨rfl, hq⟩
    replace hzzs := hide (hzzs.out.up hq)
    replace hb := hide (upB hb.out (hq))
    clear hq
    go_wp2_with fail
    refine (sameB (backAll_spec _ _ _ _ zs m _ hzzs.out)).mono ?_
    rintro e w2 ⟨rfl, hq⟩
    replace hzzs := hide (hzzs.out.up hq)
    replace hb := hide (upB hb.out (hq))
    clear hq
    by_cases hok : (urnOk zs && decide (0 ≤ m ∧ m ≤ 6)) = true
    · have he : backAll zs m = isum zs ^ m.toNat := by unfold backAll; rw [if_pos hok]
      obtain ⟨hu, hm⟩ := Bool.and_eq_true_iff.1 hok
      obtain ⟨hm0, hm6⟩ := of_decide_eq_true hm
      obtain ⟨mm, rfl⟩ : ∃ mm : Nat, m = (mm : Int) := ⟨m.toNat, by omega⟩
      have hzm := urnOk_mem hu
      have hn3 := urnOk_size hu
      rw [hlzs.out] at hn3
      obtain ⟨hn1, hn3⟩ := hn3
      obtain ⟨t0, t1⟩ := urnOk_sum hu
      have hW1 := words_back mm hlzs.out hn1
      have hV0 := (pow_bounds t0 t1 mm).1
      have hAW := hide (show allWays zs (mm : Int) = fall (isum zs) mm by unfold allWays; rw [if_pos hok]; rfl)
      have hfp := hide (fall_le_pow t0 mm)
      rw [Int.toNat_natCast] at he
      rw [he]
      obtain ⟨V, hV⟩ : ∃ V, Hid (isum zs ^ mm = V) := ⟨_, hide rfl⟩
      obtain ⟨U, hU⟩ : ∃ U, Hid (fall (isum zs) mm = U) := ⟨_, hide rfl⟩
      rw [hV.out] at hW1 hV0 hfp ⊢
      rw [hU.out] at hfp hAW
      by_cases h4 : 4 < mm
      · have hd1 : decide ((4 : Int) < (mm : Int)) = true := decide_eq_true (by omega)
        clear he hok hu hm hzm hW1
        go_wp2_with fail
        refine (alive_c _).mono ?_
        rintro e wz ⟨rfl, hq⟩
        go_wp2_with fail
        go_ret
        exact ⟨by simp <;> omega, upB hb.out hq⟩
      · have h4 : mm ≤ 4 := by omega
        have hP5 : nzs ^ mm ≤ 729 := (pow_le_729 nzs mm hn1 hn3 (by omega)).2
        have hWP := hide (fun w => lawPow_c nzs mm w hn1 (by omega) (by omega) (by omega))
        obtain ⟨P, hP⟩ : ∃ P, Hid (nzs ^ mm = P) := ⟨_, hide rfl⟩
        rw [hP.out] at hP5 hW1 hWP
        have hO1 := hide (fun (q : Nat) w (hq : q ≤ 729) => wordOf_c nzs mm q w hn1 (by omega) (by omega) (by omega))
        have hwo := hide (fun q => show backWays zs (digs nzs mm q) = bw zs (digs nzs mm q) by
          unfold backWays; rw [hu, hlzs.out, digs_word hn1 hn3 (by omega)]; rfl)
        have hFb := hide (fun q => show 0 ≤ bw zs (digs nzs mm q) ∧ bw zs (digs nzs mm q) ≤ 4096000000 from by obtain ⟨b0, b1⟩ := bw_bounds hzm (digs nzs mm q); rw [digs_len] at b1; exact ⟨b0, Int.le_trans b1 (pow40_6 mm (by omega))⟩)
        obtain ⟨F, hF⟩ : ∃ F : Nat → Int, Hid ((fun q => bw zs (digs nzs mm q)) = F) := ⟨_, hide rfl⟩
        have hFe := hide (fun q => show bw zs (digs nzs mm q) = F q by rw [← hF.out])
        rw [hF.out] at hW1
        have hwo := hide (fun q => (hwo.out q).trans (hFe.out q))
        have hFb := hide (fun q => show 0 ≤ F q ∧ F q ≤ 4096000000 by rw [← hFe.out q]; exact hFb.out q)
        have hSF := hide (fun k => nsum_bounds (n := k) (f := F) (M := 4096000000) (fun q _ => hFb.out q))
        have hW1 := hide hW1
        clear he hok hu hm hzm hm0 hm6
        go_wp2_with fail
        go_loopw [6, 7] (fun t i wr => ∃ k : Nat, k ≤ P ∧ i = .int .i64 k ∧ t = .int .i64 (nsum k F) ∧ Hid (Ints wr wr.heap.size Azs nzs czs zs) ∧ Hid (Below w.heap.size w wr)) (fun _ i _ => P - (intOf i).toNat)
        case atStart => exact ⟨0, Nat.zero_le _, rfl, rfl, hzzs, hb⟩
        case round =>
          clear hzzs hb
          obtain ⟨k, hk, rfl, rfl, hzzs, hb⟩ := hrel
          obtain ⟨s0, s1⟩ := hSF.out k
          by_cases hlt : k < P
          · have hst := hide (show nsum (k + 1) F = nsum k F + F k from rfl)
            obtain ⟨f0, f1⟩ := hFb.out k
            go_wp2_with (go_at_call 15; refine (hWP.out _).mono ?_; rintro e w' ⟨rfl, rfl⟩)
            refine (hO1.out k _ (by omega)).mono ?_
            rintro e w3 ⟨Awd, nwd, cwd, rfl, ho, hq⟩
            replace hzzs := hide (hzzs.out.up hq)
            replace hb := hide (upB hb.out (hq))
            have howd := hide (ho.down (Nat.zero_le _))
            clear hq ho
            go_wp2_with fail
            refine (backWays_impl _ _ _ _ _ _ _ _ zs (digs nzs mm k) _ hzzs.out howd.out.ints (Nat.le_refl _) (Nat.le_refl _)).mono ?_
            rw [hwo.out k]
            rintro e w4 ⟨rfl, hq⟩
            replace hzzs := hide (hzzs.out.up hq)
            replace howd := hide (howd.out.up hq)
            replace hb := hide (upB hb.out (hq))
            clear hq
            clear howd
            go_wp2_with fail
            go_roundw
            case rel => exact ⟨k + 1, by omega, by go_num, by rw [hst.out], hzzs, hb⟩
            case measure => simp [intOf]; omega
          · obtain rfl : k = P := by omega
            rw [hW1.out]
            clear s0 s1 hlt hk
            go_wp2_with (go_at_call 15; refine (hWP.out _).mono ?_; rintro e w' ⟨rfl, rfl⟩)
            refine (allWays_impl _ _ _ _ zs (mm : Int) _ hzzs.out (Nat.le_refl _)).mono ?_
            rw [hAW.out]
            rintro e w5 ⟨rfl, hq⟩
            replace hzzs := hide (hzzs.out.up hq)
            replace hb := hide (upB hb.out (hq))
            clear hq
            have hfp := hfp.out
            go_wp2_with fail
            go_ret
            exact ⟨by simp, hb.out⟩
    · have he : backAll zs m = -1 := by unfold backAll; rw [if_neg hok]
      rw [he]
      clear hok
      go_wp2_with fail
      refine (alive_c _).mono ?_
      rintro e wz ⟨rfl, hq⟩
      go_wp2_with fail
      go_ret
      exact ⟨by simp, upB hb.out hq⟩

set_option maxHeartbeats 3200000 in
theorem lawBackCounts {A : Option Addr} {n c : Nat} {bs : List Int} {w : World} (h : Bts w w.heap.size A n c bs) :
    Calls Try.prog 6 #[.slice A n c] w fun e w' => e = .returned (.bool true) ∧ Below w.heap.size w w' := by
  have hbig := h.big
  have hle := h.le
  unfold maxLen at hbig
  by_cases hn : 1048576 < n
  · go_enter Try.func6, Try.ntmps6
    go_wp2
    go_ret
    exact ⟨rfl, Below.refl _ _⟩
  · have hD := hide (DrawBackCounts_c A n c bs w h)
    obtain ⟨i0, hi, hz0, hz1, hz2⟩ := info_parts infoInt
    go_enter Try.func6, Try.ntmps6
    go_wp2_with fail
    refine hD.out.mono ?_
    rintro e w0 ⟨Azs, nzs, czs, zs, Acs, ncs, ccs, cs, rfl, hzzs, hnzs, hzcs, hncs, hb⟩
    have hlzs := hide hzzs.len
    replace hzzs := hide hzzs
    have hlcs := hide hzcs.len
    replace hzcs := hide hzcs
    replace hb := hide hb
    clear hD
    go_wp2_with fail
    refine (backCounts_impl _ _ _ _ _ _ _ _ zs cs _ hzzs.out hzcs.out (Nat.le_refl _) (Nat.le_refl _)).mono ?_
    rintro e w1 ⟨rfl, hq⟩
    replace hzzs := hide (hzzs.out.up hq)
    replace hzcs := hide (hzcs.out.up hq)
    replace hb := hide (upB hb.out (hq))
    clear hq
    go_wp2_with fail
    refine (quietB (backCounts_spec _ _ _ _ _ _ _ _ zs cs _ hzzs.out hzcs.out)).mono ?_
    rintro e w2 ⟨rfl, hq⟩
    replace hzzs := hide (hzzs.out.up hq)
    replace hzcs := hide (hzcs.out.up hq)
    replace hb := hide (upB hb.out (hq))
    clear hq
    by_cases hok : (urnOk zs && countRowOk (zs.length : Int) cs) = true
    · have he : backCounts zs cs = mult cs * powK zs cs cs.length := by unfold backCounts; rw [if_pos hok]
      obtain ⟨hu, hr⟩ := Bool.and_eq_true_iff.1 hok
      obtain ⟨m1, _, _, _⟩ := row_fine hr
      obtain ⟨k1, k2, k3, k4, k5⟩ := countRowOk_yes hr
      have m2b := (mult_bound hr).2
      have hnn : nzs = ncs := by have := hlcs.out; have := hlzs.out; omega
      subst hnn
      have hn3 : 1 ≤ nzs ∧ nzs ≤ 3 := by have := hlcs.out; omega
      have hzm := urnOk_mem hu
      have hEc := hide (fun (k : Nat) x (hx : cs[k]? = some x) => k4 x (List.mem_of_getElem? hx))
      obtain ⟨p0, p1⟩ := powK_bounds hzm k4 cs.length
      rw [List.take_length] at p1
      have p1 := Int.le_trans p1 (pow40_6 _ (by omega))
      have hsw := sorted_word hr
      have hBW := hide (show backWays zs (sorted cs nzs) = powK zs cs cs.length by unfold backWays; rw [hu, ← hlcs.out, hsw, bw_sorted]; rfl)
      have hWW := hide (show wordsWith (nzs : Int) cs = mult cs by unfold wordsWith; rw [show (nzs : Int) = (zs.length : Int) by rw [hlzs.out], if_pos hr])
      have hCW := hide (show countWays zs cs = mult cs * prodC zs cs by unfold countWays; rw [if_pos hok])
      have hPK := (prodK_le_powK (zs := zs) (cs := cs) (fun z hz => (hzm z hz).1) cs.length).1
      have hSL := hide (fun (k : Nat) (j : Nat) x (hx : cs[k]? = some x) (hj : (j : Int) ≤ x) => show (sorted cs k ++ List.replicate j (k : Int)).length ≤ 6 by
        have h1 := sorted_len k4 k
        have h2 := isum_take_succ hx
        have h3 := (isum_bounds 6 (cs.drop (k + 1)) (fun x hx => k4 x (List.mem_of_mem_drop hx))).1
        have e := isum_append (cs.take (k + 1)) (cs.drop (k + 1))
        rw [List.take_append_drop] at e
        rw [List.length_append, List.length_replicate]; omega)
      have hSS := hide (fun (k : Nat) x (hx : cs[k]? = some x) => show sorted cs k ++ List.replicate x.toNat (k : Int) = sorted cs (k + 1) by simp only [sorted]; rw [hx]; rfl)
      rw [he]
      obtain ⟨M, hM⟩ : ∃ M, Hid (mult cs = M) := ⟨_, hide rfl⟩
      obtain ⟨P, hP⟩ : ∃ P, Hid (powK zs cs cs.length = P) := ⟨_, hide rfl⟩
      obtain ⟨Q, hQ⟩ : ∃ Q, Hid (prodC zs cs = Q) := ⟨_, hide rfl⟩
      have hPK : Q ≤ P := by rw [← hQ.out, ← hP.out]; exact hPK
      rw [hM.out] at m1 m2b hWW hCW ⊢
      rw [hP.out] at p0 p1 hBW ⊢
      rw [hQ.out] at hCW
      obtain ⟨v0, v1⟩ := mul_bound (show 0 ≤ M by omega) m2b p0 p1
      have hmc : P * M = M * P := Int.mul_comm _ _
      have hge : M * Q ≤ M * P := Int.mul_le_mul_of_nonneg_left hPK (by omega)
      obtain ⟨V, hV⟩ : ∃ V, Hid (M * P = V) := ⟨_, hide rfl⟩
      obtain ⟨U, hU⟩ : ∃ U, Hid (M * Q = U) := ⟨_, hide rfl⟩
      rw [hV.out] at v0 v1 hmc hge ⊢
      rw [hU.out] at hCW hge
      have hn0 : ¬ V < 0 := by omega
      have hge := hide hge
      have hmc := hide hmc
      clear he hok hu hr k1 k2 k3 k4 k5 hzm hsw hPK
      have how := hide (own_empty (w := w2) (base := w2.heap.size) (Nat.le_refl _))
      have hq := hide (al w2 (.cells #[] 3))
      go_wp2_with fail
      go_loopw [6, 7] (fun v i wr => ∃ k : Nat, ∃ B d f, k ≤ nzs ∧ i = .int .i64 k ∧ v = .slice B d f ∧ Hid (Own wr w2.heap.size (.slice B d f) (sorted cs k)) ∧ Hid (Below w2.heap.size w2 wr)) (fun _ i _ => nzs - (intOf i).toNat)
      case atStart => exact ⟨0, _, _, _, Nat.zero_le _, rfl, rfl, how, hq⟩
      case round =>
        clear how hq
        obtain ⟨k, B, d, f, hk, rfl, rfl, how, hq⟩ := hrel
        by_cases hlt : k < nzs
        · obtain ⟨b, off, x, rfl, hbB, hx, hcell⟩ := (hzcs.out.up hq.out).look hlt
          obtain ⟨x0, x6⟩ := hEc.out k x hx.out
          have how := hide (show Own wr w2.heap.size (.slice B d f) (sorted cs k ++ List.replicate 0 (k : Int)) by simpa using how.out)
          clear hcell
          go_wp2_with fail
          go_loopw [6, 8] (fun v i wr => ∃ j : Nat, ∃ B d f, (j : Int) ≤ x ∧ i = .int .i64 j ∧ v = .slice B d f ∧ Hid (Own wr w2.heap.size (.slice B d f) (sorted cs k ++ List.replicate j (k : Int))) ∧ Hid (Below w2.heap.size w2 wr)) (fun _ i _ => (x - intOf i).toNat)
          case atStart => exact ⟨0, _, _, _, x0, rfl, rfl, how, hq⟩
          case round =>
            clear how hq
            obtain ⟨j, B, d, f, hj, rfl, rfl, how, hq⟩ := hrel
            obtain ⟨b2, off2, x2, hA2, hbB2, hx2, hcell⟩ := (hzcs.out.up hq.out).look hlt
            injection hA2 with hA2
            injection hA2 with e1 e2 _
            subst e1; subst e2
            obtain rfl : x2 = x := by have h1 := hx.out; have h2 := hx2.out; rw [h1] at h2; injection h2 with h2; exact h2.symm
            by_cases hjx : (j : Int) < x2
            · have hs := hq.out.size
              have hlen := hide (hSL.out k j x2 hx.out hj)
              have hkw := hide (wf_i64 (z := (k : Int)) (by omega))
              go_wp2_with (at_builtin; refine wpList_app _ rfl _ _ 23 rfl i0 Try.underlying23 hi hz0 hz1 hz2 _ (sorted cs k ++ List.replicate j (k : Int)) rfl (how.out.alloc _) _ 1 1 _ [(k : Int)] rfl (ints_lit1 hkw.out) (by simp; omega) (by have := hlen.out; simp only [List.length_append] at this ⊢; omega) ?_; intro A₃ n₃ c₃ w3 ho3 hg3)
              have hq3 := hide ((hq.out.alloc hs (.cells #[.int .i64 (k : Int)] 3)).grown hg3 (by simp; omega) (fun i hi => (how.out.row.lt i hi).1))
              have ho3 := hide (show Own w3 w2.heap.size (.slice A₃ n₃ c₃) (sorted cs k ++ List.replicate (j + 1) (k : Int)) by
                rw [List.replicate_succ', ← List.append_assoc]; exact ho3)
              clear hg3 how hq hcell
              go_wp2
              go_roundw
              case rel => exact ⟨j + 1, _, _, _, by omega, by go_num, rfl, ho3, hq3⟩
              case measure => simp [intOf]; omega
            · have hjn : j = x2.toNat := by omega
              have how := hide (show Own wr w2.heap.size (.slice B d f) (sorted cs (k + 1)) by
                rw [← hSS.out k x2 hx.out, ← hjn]; exact how.out)
              go_wp2_with fail
              go_roundw
              case rel => exact ⟨k + 1, _, _, _, by omega, by go_num, rfl, how, hq⟩
              case measure => simp [intOf]; omega
        · obtain rfl : k = nzs := by omega
          replace hzzs := hide (hzzs.out.up hq.out)
          replace hzcs := hide (hzcs.out.up hq.out)
          replace hb := hide (upB hb.out hq.out)
          have howd := hide (how.out.down (Nat.zero_le _))
          clear how hq
          go_wp2_with fail
          refine (backWays_impl _ _ _ _ _ _ _ _ zs (sorted cs k) _ hzzs.out howd.out.ints (Nat.le_refl _) (Nat.le_refl _)).mono ?_
          rw [hBW.out]
          rintro e w3 ⟨rfl, hq⟩
          replace hzzs := hide (hzzs.out.up hq)
          replace hzcs := hide (hzcs.out.up hq)
          replace howd := hide (howd.out.up hq)
          replace hb := hide (upB hb.out (hq))
          clear hq
          go_wp2_with fail
          refine (wordsWith_impl (k : Int) _ _ _ _ cs _ hzcs.out (Nat.le_refl _)).mono ?_
          rw [hWW.out]
          rintro e w4 ⟨rfl, hq⟩
          replace hzzs := hide (hzzs.out.up hq)
          replace hzcs := hide (hzcs.out.up hq)
          replace howd := hide (howd.out.up hq)
          replace hb := hide (upB hb.out (hq))
          clear hq
          have hmc := hmc.out
          go_wp2_with fail
          refine (countWays_impl _ _ _ _ _ _ _ _ zs cs _ hzzs.out hzcs.out (Nat.le_refl _) (Nat.le_refl _)).mono ?_
          rw [hCW.out]
          rintro e w5 ⟨rfl, hq⟩
          replace hzzs := hide (hzzs.out.up hq)
          replace hzcs := hide (hzcs.out.up hq)
          replace howd := hide (howd.out.up hq)
          replace hb := hide (upB hb.out (hq))
          clear hq
          have hge := hge.out
          go_wp2_with fail
          go_ret
          exact ⟨by simp, hb.out⟩
    · have he : backCounts zs cs = -1 := by unfold backCounts; rw [if_neg hok]
      rw [he]
      clear hok
      go_wp2_with fail
      refine (alive_c _).mono ?_
      rintro e wz ⟨rfl, hq⟩
      go_wp2_with fail
      go_ret
      exact ⟨by simp, upB hb.out hq⟩
end Go.Proofs.Ytdnnobkkilffbaa
