/-
  Laws of chapter 7 walked: FnRoomStep (written by wip/gen_v1.py).
-/
import Derived.Test.YtpjbccdhfnhopaaLawV1
namespace Go.Proofs.Ytpjbccdhfnhopaa
open Go.RowKit
set_option linter.unusedVariables false

set_option maxHeartbeats 3200000 in
theorem lawRoomStep {A : Option Addr} {n c : Nat} {bs : List Int} {w : World} (h : Bts w w.heap.size A n c bs) :
    Calls Try.prog 4 #[.slice A n c] w fun e w' => e = .returned (.bool true) ∧ Below w.heap.size w w' := by
  have hbig := h.big
  have hle := h.le
  unfold maxLen at hbig
  by_cases hn : 1048576 < n
  · go_enter Try.func4, Try.ntmps4
    go_wp2
    go_ret
    exact ⟨rfl, Below.refl _ _⟩
  · have hD := hide (DrawRoomStep_c A n c bs w h)
    obtain ⟨i0, hi, hz0, hz1, hz2⟩ := info_parts infoInt
    go_enter Try.func4, Try.ntmps4
    go_wp2_with fail
    refine hD.out.mono ?_
    rintro e w0 ⟨Azs, nzs, czs, zs, m, rfl, hzzs, hnzs, hlom, hhim, hb⟩
    have hlzs := hide hzzs.len
    replace hzzs := hide hzzs
    replace hb := hide hb
    clear hD
    have hwm := wf_i64 (z := m) (by omega)
    go_wp2_with fail
    refine (roomStep_impl m _ _ _ _ zs _ hzzs.out (Nat.le_refl _) hwm).mono ?_
    rintro e w1 ⟨Ane, nne, cne, rfl, ho, hq⟩
    replace hzzs := hide (hzzs.out.up hq)
    replace hb := hide (upB hb.out (hq))
    have hone := hide (ho.down (Nat.zero_le _))
    clear hq ho
    go_wp2_with fail
    refine (roomStep_spec m _ _ _ _ zs _ hzzs.out (Nat.le_refl _)).mono ?_
    rintro e w2 ⟨Asp, nsp, csp, rfl, ho, hq⟩
    replace hzzs := hide (hzzs.out.up hq)
    replace hone := hide (hone.out.up hq)
    replace hb := hide (upB hb.out (hq))
    have hosp := hide (ho.down (Nat.zero_le _))
    clear hq ho
    have hsame := hide (sameL_refl (roomStep m zs))
    go_wp2_with fail
    refine (quietB (sameInts_c _ _ _ _ _ _ _ _ (roomStep m zs) (roomStep m zs) _ hone.out.ints hosp.out.ints)).mono ?_
    rw [hsame.out]
    rintro e w3 ⟨rfl, hq⟩
    replace hzzs := hide (hzzs.out.up hq)
    replace hone := hide (hone.out.up hq)
    replace hosp := hide (hosp.out.up hq)
    replace hb := hide (upB hb.out (hq))
    clear hq
    clear hosp
    clear hsame
    by_cases hnx : roomStep m zs = []
    · rw [hnx] at hone
      have hlen : nne = 0 := hone.out.len
      subst hlen
      clear hnx
      go_wp2_with fail
      refine (alive_c _).mono ?_
      rintro e wz ⟨rfl, hq⟩
      go_wp2_with fail
      go_ret
      exact ⟨by simp, upB hb.out hq⟩
    · obtain ⟨M, rfl, h1, h6, hl, hzb, hne, hnb⟩ := roomStep_yes hnx
      have hturn := hide (roomStep_turn (M : Int) zs)
      rw [hne] at hone hturn
      have hlen := hone.out.len
      rw [stepL_len] at hlen
      subst hlen
      have hlzs2 := hlzs.out
      have hnzs : nzs = M + 1 := by omega
      subst hnzs
      have hsum := hide (stepL_sum h1 h6 hl)
      have hzt := hide (fun (k : Nat) => part_bound (k := k) (by omega : zs.length ≤ 7) hzb)
      have hnt := hide (fun (k : Nat) => part_bound (k := k) (show (stepL M zs).length ≤ 7 by rw [stepL_len]; omega) hnb)
      have hzzb := hide hzb
      have hnnb := hide hnb
      have hzne := hide hone.out.ints
      have hlne := hide (stepL_len M zs)
      have hne0 : ((M : Int) + 1 == 0) = false := by simp; omega
      clear hone hzb hnb hlzs2 hnx hne
      go_wp2_with fail
      have hobk := hide (own_empty (w := w3) (base := 0) (Nat.zero_le _))
      replace hzzs := hide (hzzs.out.up (al _ (.cells #[] 3)))
      replace hzne := hide (hzne.out.up (al _ (.cells #[] 3)))
      replace hb := hide (upB hb.out ((al _ (.cells #[] 3))))
      have hotn := hide (own_empty' (w := (w3.alloc (.cells #[] 3))) (base := 0) (g := w3.heap.size + 1) (by simp) (Nat.zero_le _))
      replace hzzs := hide (hzzs.out.up (al _ (.cells #[] 3)))
      replace hzne := hide (hzne.out.up (al _ (.cells #[] 3)))
      replace hobk := hide (hobk.out.up (al _ (.cells #[] 3)))
      replace hb := hide (upB hb.out ((al _ (.cells #[] 3))))
      go_loopw [6, 7, 8, 9, 10] (fun s t v u i wr => ∃ k : Nat, ∃ B1 d1 f1 B2 d2 f2, k ≤ M + 1 ∧ i = .int .i64 k ∧ s = .int .i64 (isum ((stepL M zs).take k)) ∧ t = .int .i64 (isum (zs.take k)) ∧ v = .slice B1 d1 f1 ∧ u = .slice B2 d2 f2 ∧ Hid (Own wr 0 (.slice B1 d1 f1) (zs.take k).reverse) ∧ Hid (Own wr 0 (.slice B2 d2 f2) ((stepL M zs).take k).reverse) ∧ Hid (Ints wr wr.heap.size Azs (M + 1) czs zs) ∧ Hid (Ints wr wr.heap.size Ane (M + 1) cne (stepL M zs)) ∧ Hid (Below w.heap.size w wr)) (fun _ _ _ _ i _ => M + 1 - (intOf i).toNat)
      case atStart => exact ⟨0, _, _, _, _, _, _, Nat.zero_le _, rfl, rfl, rfl, rfl, rfl, hobk, hotn, hzzs, hzne, hb⟩
      case round =>
        clear hobk hotn hzzs hzne hb
        obtain ⟨k, B1, d1, f1, B2, d2, f2, hk, rfl, rfl, rfl, rfl, rfl, hobk, hotn, hzzs, hzne, hb⟩ := hrel
        obtain ⟨s0, s1⟩ := hnt.out k
        obtain ⟨t0, t1⟩ := hzt.out k
        by_cases hlt : k < M + 1
        · obtain ⟨b, off, x, rfl, hbB, hx, hcell⟩ := hzzs.out.look hlt
          obtain ⟨b', off', y, rfl, hbB', hy, hcelly⟩ := hzne.out.look hlt
          have hwx := hide (hzzs.out.wf_at hx.out)
          have hwy := hide (hzne.out.wf_at hy.out)
          obtain ⟨x0, x1⟩ := hzzb.out k x hx.out
          obtain ⟨y0, y1⟩ := hnnb.out k y hy.out
          have hsx := hide (isum_take_succ hx.out)
          have hsy := hide (isum_take_succ hy.out)
          have hl1 := hide hobk.out.len
          have hl2 := hide hotn.out.len
          go_wp2_with (first
            | (at_builtin; refine wpList_app _ rfl _ _ 23 rfl i0 Try.underlying23 hi hz0 hz1 hz2 _ [x] rfl (ints_lit [x] (by intro y hy; simp at hy; subst hy; exact hwx.out) (by simp) rfl) _ d1 f1 _ (zs.take k).reverse rfl (hobk.out.alloc _).ints (by simp) (by have := hl1.out; rw [List.length_reverse, List.length_take] at this; simp; omega) ?_; intro A₃ n₃ c₃ wa ho3 hg3; have hqa := hide (al_grown hg3 (Nat.le_refl _)); have hcelly := (hqa.out.cell hbB').trans hcelly; have hon3 := hide (hotn.out.up hqa.out); have hob3 := hide (show Own wa 0 (.slice A₃ n₃ c₃) (zs.take (k + 1)).reverse by (rw [take_succ hx.out, List.reverse_append]; exact ho3.down (Nat.zero_le _))); clear hg3 ho3)
            | (at_builtin; refine wpList_app _ rfl _ _ 23 rfl i0 Try.underlying23 hi hz0 hz1 hz2 _ [y] rfl (ints_lit [y] (by intro y hy; simp at hy; subst hy; exact hwy.out) (by simp) rfl) _ d2 f2 _ ((stepL M zs).take k).reverse rfl (hon3.out.alloc _).ints (by simp) (by have := hl2.out; rw [List.length_reverse, List.length_take] at this; simp; omega) ?_; intro A₄ n₄ c₄ wb ho4 hg4; have hqb := hide (al_grown hg4 (Nat.le_refl _)); have hob4 := hide (hob3.out.up hqb.out); have hon4 := hide (show Own wb 0 (.slice A₄ n₄ c₄) ((stepL M zs).take (k + 1)).reverse by (rw [take_succ hy.out, List.reverse_append]; exact ho4.down (Nat.zero_le _))); clear hg4 ho4))
          have hq := hide (upB hqa.out hqb.out)
          replace hzzs := hide (hzzs.out.up hq.out)
          replace hzne := hide (hzne.out.up hq.out)
          replace hb := hide (upB hb.out hq.out)
          clear hqa hqb hq hcell hcelly hob3 hon3 hobk hotn
          go_wp2
          go_roundw
          case rel => exact ⟨k + 1, _, _, _, _, _, _, by omega, by go_num, by rw [hsy.out], by rw [hsx.out], rfl, rfl, hob4, hon4, hzzs, hzne, hb⟩
          case measure => simp [intOf]; omega
        · obtain ⟨kk, hkk⟩ : ∃ m, m = M + 1 := ⟨_, rfl⟩
          have hkc := hide (show k = M + 1 by omega)
          clear hkk kk
          have e1 := hide (show isum ((stepL M zs).take k) = isum (stepL M zs) by rw [List.take_of_length_le (by rw [hlne.out, hkc.out]; exact Nat.le_refl _)])
          have e2 := hide (show isum (zs.take k) = isum zs by rw [List.take_of_length_le (by have := hlzs.out; have := hkc.out; omega)])
          have hobk := hide (show Own wr 0 (.slice B1 d1 f1) zs.reverse by
            have := hobk.out
            rwa [List.take_of_length_le (by have := hlzs.out; have := hkc.out; omega)] at this)
          have hotn := hide (show Own wr 0 (.slice B2 d2 f2) (stepL M zs).reverse by
            have := hotn.out
            rwa [List.take_of_length_le (by rw [hlne.out, hkc.out]; exact Nat.le_refl _)] at this)
          obtain ⟨p0, p1⟩ : 0 ≤ isum zs ∧ isum zs ≤ 70000000 := by rw [← e2.out]; exact ⟨t0, t1⟩
          obtain ⟨r0, r1⟩ := mul_bound p0 p1 (b := (M : Int)) (N := 6) (by omega) (by omega)
          rw [e1.out, hsum.out, e2.out]
          have hsame := hide (sameL_refl (stepL M zs).reverse)
          clear s0 s1 t0 t1
          go_wp2_with fail
          refine (roomStep_impl (M : Int) _ _ _ _ zs.reverse _ hobk.out.ints (Nat.le_refl _) hwm).mono ?_
          rw [hturn.out]
          rintro e w4 ⟨Ars, nrs, crs, rfl, ho, hq⟩
          replace hzzs := hide (hzzs.out.up hq)
          replace hzne := hide (hzne.out.up hq)
          replace hobk := hide (hobk.out.up hq)
          replace hotn := hide (hotn.out.up hq)
          replace hb := hide (upB hb.out (hq))
          have hors := hide (ho.down (Nat.zero_le _))
          clear hq ho
          go_wp2_with fail
          refine (quietB (sameInts_c _ _ _ _ _ _ _ _ (stepL M zs).reverse (stepL M zs).reverse _ hors.out.ints hotn.out.ints)).mono ?_
          rw [hsame.out]
          rintro e w5 ⟨rfl, hq⟩
          replace hzzs := hide (hzzs.out.up hq)
          replace hzne := hide (hzne.out.up hq)
          replace hobk := hide (hobk.out.up hq)
          replace hotn := hide (hotn.out.up hq)
          replace hors := hide (hors.out.up hq)
          replace hb := hide (upB hb.out (hq))
          clear hq
          go_wp2_with fail
          go_ret
          exact ⟨by first | rfl | simp, hb.out⟩
end Go.Proofs.Ytpjbccdhfnhopaa
