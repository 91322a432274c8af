/-
  Laws of chapter 7 walked: FnRoomTwice (written by wip/gen_v3.py).
-/
import Derived.Test.YtpjbccdhfnhopaaLawV1
import Derived.Test.YtpjbccdhfnhopaaZrows
namespace Go.Proofs.Ytpjbccdhfnhopaa
open Go.RowKit
set_option linter.unusedVariables false

set_option maxRecDepth 100000 in
set_option maxHeartbeats 3200000 in
theorem lawRoomTwice {A : Option Addr} {n c : Nat} {bs : List Int} {w : World} (h : Bts w w.heap.size A n c bs) :
    Calls Try.prog 8 #[.slice A n c] w fun e w' => e = .returned (.bool true) ∧ Below w.heap.size w w' := by
  have hbig := h.big
  have hle := h.le
  unfold maxLen at hbig
  by_cases hn : 1048576 < n
  · go_enter Try.func8, Try.ntmps8
    go_wp2
    go_ret
    exact ⟨rfl, Below.refl _ _⟩
  · have hD := hide (DrawRoomAfter_c A n c bs w h)
    obtain ⟨i0, hi, hz0, hz1, hz2⟩ := info_parts infoInt
    go_enter Try.func8, Try.ntmps8
    go_wp2_with fail
    refine hD.out.mono ?_
    rintro e w0 ⟨m, f, s, rfl, hlom, hhim, hlof, hhif, hlos, hhis, hb⟩
    replace hb := hide hb
    clear hD
    have hwm := wf_i64 (z := m) (by omega)
    have hwf := wf_i64 (z := f) (by omega)
    have hws := wf_i64 (z := s) (by omega)
    go_wp2_with fail
    refine (roomAfter_impl m f s _ hwm hwf hws).mono ?_
    rintro e w1 ⟨Als, nls, cls, rfl, ho, hq⟩
    replace hb := hide (upB hb.out (hq))
    have hols := hide (ho.down (Nat.zero_le _))
    clear hq ho
    by_cases hok : roomArgs m f s = true
    · obtain ⟨M, F, S, rfl, rfl, rfl, h1, h6, hF, hS⟩ := roomArgs_yes hok
      have e0 : roomA (M : Int) (F : Int) (S : Int) = roomL M F S := by unfold roomA; rw [if_pos hok, Int.toNat_natCast, Int.toNat_natCast, Int.toNat_natCast]
      rw [e0] at hols
      have hlen := hols.out.len
      rw [roomL_len] at hlen
      subst hlen
      have hne0 : ((M : Int) + 1 == 0) = false := by simp; omega
      have hzls := hide hols.out.ints
      have hlls := hide (roomL_len M F S)
      clear hols
      rcases Nat.eq_zero_or_pos S with hS0 | hS0
      · subst hS0
        have hneq : ((M : Int) + 1 == (M : Int) + 1) = true := by simp
        go_wp2_with fail
        refine (roomAfter_spec (M : Int) (F : Int) (((0 : Nat) : Int)) _).mono ?_
        rw [e0]
        rintro e w2 ⟨Asp, nsp, csp, rfl, ho, hq⟩
        replace hzls := hide (hzls.out.up hq)
        replace hb := hide (upB hb.out (hq))
        have hosp := hide (ho.down (Nat.zero_le _))
        clear hq ho
        have hlen := hosp.out.len
        rw [roomL_len] at hlen
        subst hlen
        clear e0 hok
        go_wp2_with fail
        refine (alive_c _).mono ?_
        rintro e wz ⟨rfl, hq⟩
        go_wp2_with fail
        go_ret
        exact ⟨by simp, upB hb.out hq⟩
      · obtain ⟨T, hTS⟩ : ∃ T, Hid (T + 1 = S) := ⟨S - 1, hide (by omega)⟩
        have hT6 : T ≤ 5 := by have := hTS.out; omega
        have hw1 := wf_i64 (z := 1) (by omega)
        have hwT := wf_i64 (z := (T : Int)) (by omega)
        have hT := hide (show (S : Int) - 1 = (T : Int) by have := hTS.out; omega)
        have HA1 := hide (show roomA (M : Int) (F : Int) 1 = roomL M F 1 by
          have := roomArgs_mk (S := 1) h1 h6 hF (by omega)
          rw [show ((1 : Nat) : Int) = 1 from rfl] at this
          unfold roomA; rw [if_pos this, Int.toNat_natCast, Int.toNat_natCast]; rfl)
        have HA := hide (fun (k : Nat) (hk : k ≤ M) => show roomA (M : Int) (k : Int) (T : Int) = roomL M k T by unfold roomA; rw [if_pos (roomArgs_mk h1 h6 hk (by omega)), Int.toNat_natCast, Int.toNat_natCast, Int.toNat_natCast])
        have HE1 := hide (fun (k : Nat) (x : Int) (hx : (roomL M F 1)[k]? = some x) => room_elem h1 h6 hF (by omega) hx)
        have HE := hide (fun (K : Nat) (hK : K ≤ M) (k : Nat) (x : Int) (hx : (roomL M K T)[k]? = some x) => room_elem h1 h6 hK (by omega) hx)
        have HL := hide (fun (k : Nat) => roomL_len M k T)
        have HB := hide (fun (k j : Nat) (hk : k ≤ M + 1) (hj : j ≤ M) => two_bound (S := T) h1 h6 hF (by omega) hk hj)
        have hend := hide (show twoL M F T (M + 1) = roomL M F S by rw [twoL_end (S := T) h1 h6 hF (by omega), hTS.out])
        have hneq : ((M : Int) + 1 == (M : Int) + 1) = true := by simp
        have hnen : ((M : Int) + 1 != (M : Int) + 1) = false := by simp
        clear e0 hok
        go_wp2_with fail
        refine (roomAfter_impl (M : Int) (F : Int) 1 _ hwm hwf hw1).mono ?_
        rw [HA1.out]
        rintro e w3 ⟨Aon, non, con, rfl, ho, hq⟩
        replace hzls := hide (hzls.out.up hq)
        replace hb := hide (upB hb.out (hq))
        have hoon := hide (ho.down (Nat.zero_le _))
        clear hq ho
        have hlen := hoon.out.len
        rw [roomL_len] at hlen
        subst hlen
        have hzon := hide hoon.out.ints
        clear hoon
        go_wp2_with (at_make; refine wpList_make_full _ rfl _ _ 23 rfl w3.heap.size 3 i0 (.int .i64 0) 1 Try.underlying23 hi hz0 hz1 .i64 .i64 _ _ (M + 1) rfl rfl (by simp) (by simp) (by rw [hz2]; omega) (by unfold maxLen; omega) (Nat.le_refl _) ?_; intro w9 hown0 hgrow0; have hgrow0 := hide hgrow0; have hown0 := hide hown0)
        have hq0 := hide (show Below w3.heap.size w3 w9 from (Below.refl _ _).grown hgrow0.out (Nat.le_refl _) (fun k hk => by cases hk))
        have hosm := hide (show Own w9 w.heap.size (.slice (some ⟨w3.heap.size, 0, none⟩) (M + 1) (M + 1)) (twoL M F T 0) by rw [twoL_zero]; exact (own_made hown0.out).down hb.out.size)
        replace hzls := hide (hzls.out.below hq0.out)
        replace hzon := hide (hzon.out.below hq0.out)
        obtain ⟨G, hG⟩ : ∃ G, Hid (G = w3.heap.size) := ⟨_, hide rfl⟩
        have hGw : w.heap.size ≤ G := by rw [hG.out]; exact hb.out.size
        have hG9 := hide (show G < w9.heap.size by
          rw [hG.out]
          obtain ⟨g, hA, _, hgl, _⟩ := hosm.out.at2 (show (twoL M F T 0)[0]? = some 0 by rw [twoL_zero]; simp)
          injection hA with hA
          injection hA with hA _ _
          omega)
        replace hb := hide (upB hb.out hq0.out)
        rw [← hG.out] at hosm hzls hzon ⊢
        clear hown0 hgrow0 hG hq0
        go_wp2_with fail
        go_loopw [9] (fun i wr => ∃ k : Nat, k ≤ M + 1 ∧ i = .int .i64 k ∧ Hid (Own wr w.heap.size (.slice (some ⟨G, 0, none⟩) (M + 1) (M + 1)) (twoL M F T k)) ∧ Hid (Ints wr G Als (M + 1) cls (roomL M F S)) ∧ Hid (Ints wr G Aon (M + 1) con (roomL M F 1)) ∧ Hid (G < wr.heap.size) ∧ Hid (Below w.heap.size w wr)) (fun i _ => M + 1 - (intOf i).toNat)
        case atStart => exact ⟨0, Nat.zero_le _, rfl, hosm, hzls, hzon, hG9, hb⟩
        case round =>
          clear hosm hzls hzon hG9 hb
          obtain ⟨k, hk, rfl, hosm, hzls, hzon, hG9, hb⟩ := hrel
          by_cases hlt : k < M + 1
          · have hwk := wf_i64 (z := (k : Int)) (by omega)
            go_wp2_with fail
            rw [hT.out]
            refine (roomAfter_impl (M : Int) (k : Int) (T : Int) _ hwm hwk hwT).mono ?_
            rw [HA.out k (by omega)]
            rintro e w10 ⟨Abk, nbk, cbk, rfl, hobk, hq⟩
            have hlen := hobk.len
            rw [HL.out] at hlen
            subst hlen
            have hGl := hG9.out
            have hB0 := hq.size
            replace hosm := hide (show Own w10 w.heap.size (.slice (some ⟨G, 0, none⟩) (M + 1) (M + 1)) (mixL M F T k 0) by rw [mixL_zero]; exact hosm.out.up hq)
            replace hzls := hide (hzls.out.below (hq.mono (by omega)))
            replace hzon := hide (hzon.out.below (hq.mono (by omega)))
            replace hb := hide (upB hb.out hq)
            obtain ⟨H, hH⟩ : ∃ H, Hid (H = wr.heap.size) := ⟨_, hide rfl⟩
            have hobk := hide (show Own w10 H (.slice Abk (M + 1) cbk) (roomL M k T) by rw [hH.out]; exact hobk)
            have hGH : G < H := by rw [hH.out]; exact hGl
            clear hq hG9 hH
            go_wp2_with fail
            go_loopw [11] (fun i wr => ∃ j : Nat, j ≤ M + 1 ∧ i = .int .i64 j ∧ Hid (Own wr w.heap.size (.slice (some ⟨G, 0, none⟩) (M + 1) (M + 1)) (mixL M F T k j)) ∧ Hid (Ints wr G Als (M + 1) cls (roomL M F S)) ∧ Hid (Ints wr G Aon (M + 1) con (roomL M F 1)) ∧ Hid (Own wr H (.slice Abk (M + 1) cbk) (roomL M k T)) ∧ Hid (G < wr.heap.size) ∧ Hid (Below w.heap.size w wr)) (fun i _ => M + 1 - (intOf i).toNat)
            case atStart => exact ⟨0, Nat.zero_le _, rfl, hosm, hzls, hzon, hobk, hide (by omega), hb⟩
            case round =>
              clear hosm hzls hzon hobk hb
              obtain ⟨j, hj, rfl, hosm, hzls, hzon, hobk, hGv, hb⟩ := hrel
              by_cases hjt : j < M + 1
              · obtain ⟨b1, o1, x, rfl, hB1, hx, hc1⟩ := hzon.out.look hlt
                obtain ⟨b2, o2, y, rfl, hB2, hy, hc2⟩ := hobk.out.ints.look hjt
                have hat := mixL_at (M := M) (F := F) (S := T) (k := k) (j := j) hjt
                rw [show mixAt M F T k j j = twoAt M F T k j by unfold mixAt; rw [if_neg (by omega)]] at hat
                obtain ⟨g, hA2, hg, hgl, hcy, hfy⟩ := hosm.out.at2 hat
                injection hA2 with hA2
                injection hA2 with hA2 _ _
                subst hA2
                obtain ⟨x0, x1⟩ := HE1.out k x hx.out
                obtain ⟨y0, y1⟩ := HE.out k (by omega) j y hy.out
                obtain ⟨t0, t1⟩ := HB.out k j (by omega) (by omega)
                obtain ⟨p0, p1⟩ := mul_bound x0 x1 y0 y1
                have hms := hide (mixL_step (M := M) (F := F) (S := T) (k := k) (j := j) hjt)
                rw [atI_some hx.out, atI_some hy.out] at hms
                obtain ⟨Z, hZ⟩ : ∃ Z, Hid (Z = twoAt M F T k j) := ⟨_, hide rfl⟩
                rw [← hZ.out] at t0 t1 hcy hms
                have hosm2 := hide (show Own (wr.setCell ⟨G, j, none⟩ (.int .i64 (Z + x * y))) w.heap.size (.slice (some ⟨G, 0, none⟩) (M + 1) (M + 1)) (mixL M F T k (j + 1)) by
                  rw [← hms.out]; exact hosm.out.set_ (k := j) (Z + x * y) (wf_i64 (by omega))).drew
                have hb2 := hide (hb.out.setCell (p := ⟨G, j, none⟩) hGw (.int .i64 (Z + x * y))).drew
                have hzls2 := hide ((hzls.out.setCell (p := ⟨G, j, none⟩) (Nat.le_refl _) (.int .i64 (Z + x * y))).drew)
                have hzon2 := hide ((hzon.out.setCell (p := ⟨G, j, none⟩) (Nat.le_refl _) (.int .i64 (Z + x * y))).drew)
                have hobk2 := hide ((hobk.out.past (grown_set wr G j (.int .i64 (Z + x * y))) hGH).drew)
                have hGv2 := hide (show G < (wr.setCell ⟨G, j, none⟩ (.int .i64 (Z + x * y))).drew.heap.size by simpa using hGv.out)
                clear hat hms hZ
                go_wp2_with fail
                go_region
                go_wp2_with fail
                go_roundw
                case rel => exact ⟨j + 1, by omega, by go_num, hosm2, hzls2, hzon2, hobk2, hGv2, hb2⟩
                case measure => simp [intOf]; omega
              · have hjM := hide (show j = M + 1 by omega)
                replace hosm := hide (show Own wr w.heap.size (.slice (some ⟨G, 0, none⟩) (M + 1) (M + 1)) (twoL M F T (k + 1)) by have := hosm.out; rw [hjM.out, mixL_end] at this; exact this)
                clear hobk
                go_wp2_with fail
                go_roundw
                case rel => exact ⟨k + 1, by omega, by go_num, hosm, hzls, hzon, hGv, hb⟩
                case measure => simp [intOf]; omega
          · have hkM := hide (show k = M + 1 by omega)
            replace hosm := hide (show Own wr w.heap.size (.slice (some ⟨G, 0, none⟩) (M + 1) (M + 1)) (roomL M F S) by have := hosm.out; rw [hkM.out, hend.out] at this; exact this)
            have hGl := hG9.out
            have hsame := hide (sameL_refl (roomL M F S))
            clear hzon
            go_wp2_with fail
            refine (alive_c _).mono ?_
            rintro e wz ⟨rfl, hq⟩
            replace hosm := hide (hosm.out.up hq)
            replace hzls := hide (hzls.out.below (hq.mono (by omega)))
            replace hb := hide (upB hb.out hq)
            clear hq
            go_wp2_with fail
            refine (quietB (sameInts_c _ _ _ _ _ _ _ _ (roomL M F S) (roomL M F S) _ hosm.out.ints hzls.out)).mono ?_
            rw [hsame.out]
            rintro e wy ⟨rfl, hq⟩
            replace hb := hide (upB hb.out hq)
            clear hq
            go_wp2_with fail
            go_ret
            exact ⟨by first | rfl | simp, hb.out⟩
    ·
      have e0 : roomA m f s = [] := by unfold roomA; rw [if_neg hok]
      rw [e0] at hols
      have hlen : nls = 0 := hols.out.len
      subst hlen
      clear e0
      go_wp2_with fail
      refine (roomAfter_spec m f s _).mono ?_
      rintro e w4 ⟨Asp, nsp, csp, rfl, ho, hq⟩
      replace hols := hide (hols.out.up hq)
      replace hb := hide (upB hb.out (hq))
      have hosp := hide (ho.down (Nat.zero_le _))
      clear hq ho
      have e0 : roomA m f s = [] := by unfold roomA; rw [if_neg hok]
      rw [e0] at hosp
      have hlen : nsp = 0 := hosp.out.len
      subst hlen
      clear e0
      clear hok
      go_wp2_with fail
      refine (alive_c _).mono ?_
      rintro e wz ⟨rfl, hq⟩
      go_wp2_with fail
      go_ret
      exact ⟨by simp, upB hb.out hq⟩
end Go.Proofs.Ytpjbccdhfnhopaa
