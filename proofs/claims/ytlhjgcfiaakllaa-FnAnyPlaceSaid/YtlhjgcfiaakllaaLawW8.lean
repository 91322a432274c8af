/-
  Laws of chapter 2 walked: FnAnyPlace (written by wip/gen_w8.py).
-/
import Derived.Test.YtlhjgcfiaakllaaLawAid
import Derived.Test.YtlhjgcfiaakllaaDrawWord
import Derived.Test.YtlhjgcfiaakllaaImpD
import Derived.Test.YtlhjgcfiaakllaaAidW
namespace Go.Proofs.Ytlhjgcfiaakllaa
open Go.RowKit
set_option linter.unusedVariables false

set_option maxHeartbeats 3200000 in
theorem lawAnyPlace {A : Option Addr} {n c : Nat} {bs : List Int} {w : World} (h : Bts w w.heap.size A n c bs) :
    Calls Try.prog 10 #[.slice A n c] w fun e w' => e = .returned (.bool true) ∧ Below w.heap.size w w' := by
  have hbig := h.big
  have hle := h.le
  unfold maxLen at hbig
  by_cases hn : 1048576 < n
  · go_enter Try.func10, Try.ntmps10
    go_wp2
    go_ret
    exact ⟨rfl, Below.refl _ _⟩
  · have hD := hide (DrawWordWays_c A n c bs w h)
    obtain ⟨i0, hi, hz0, hz1, hz2⟩ := info_parts infoInt
    go_enter Try.func10, Try.ntmps10
    go_wp2_with fail
    refine hD.out.mono ?_
    rintro e w0 ⟨Azs, nzs, czs, zs, Aws, nws, cws, ws, rfl, hzzs, hnzs, hzws, hnws, hb⟩
    have hlzs := hide hzzs.len
    replace hzzs := hide hzzs
    have hlws := hide hzws.len
    replace hzws := hide hzws
    replace hb := hide hb
    clear hD
    clear hzws
    go_wp2_with fail
    refine (sameB (urnOk_spec _ _ _ _ zs _ hzzs.out)).mono ?_
    rintro e w1 ⟨rfl, hq⟩
    replace hzzs := hide (hzzs.out.up hq)
    replace hb := hide (upB hb.out (hq))
    clear hq
    by_cases hok : urnOk zs = true
    · rw [hok]
      have hzm := urnOk_mem hok
      have hn3 := urnOk_size hok
      rw [hlzs.out] at hn3
      obtain ⟨hn1, hn3⟩ := hn3
      have hAP := hide (fun c => any_place (zs := zs) hlzs.out hn1 c)
      have hP5 : nzs ^ 3 ≤ 729 := (pow_le_729 nzs 3 hn1 hn3 (by omega)).2
      have hWP := hide (fun w => lawPow_c nzs 3 w hn1 (by omega) (by omega) (by omega))
      obtain ⟨P, hP⟩ : ∃ P, Hid (nzs ^ 3 = P) := ⟨_, hide rfl⟩
      rw [hP.out] at hP5 hWP hAP
      rw [show ((3 : Nat) : Int) = 3 from rfl] at hWP
      have hO1 := hide (fun (q : Nat) w (hq : q ≤ 729) => wordOf_c nzs 3 q w hn1 (by omega) (by omega) (by omega))
      rw [show ((3 : Nat) : Int) = 3 from rfl] at hO1
      have hwo := hide (fun q => show wordWays zs (digs nzs 3 q) = ways zs (digs nzs 3 q) by
        unfold wordWays; rw [hok, hlzs.out, digs_word hn1 hn3 (by omega)]; rfl)
      have hFb := hide (fun q => show 0 ≤ ways zs (digs nzs 3 q) ∧ ways zs (digs nzs 3 q) ≤ 64000 from ⟨ways_nonneg _ _, by have h1 := ways_le zs (digs nzs 3 q) (fun z hz => (hzm z hz).2); rw [digs_len] at h1; exact h1⟩)
      have hB1 := hide (fun (c : Int) k => nsum_bounds (n := k) (f := fun q => if (digs nzs 3 q)[0]? = some c then ways zs (digs nzs 3 q) else 0) (M := 64000) (fun q _ => by split; (· exact hFb.out q); (· decide)))
      have hB2 := hide (fun (c : Int) k => nsum_bounds (n := k) (f := fun q => if (digs nzs 3 q)[2]? = some c then ways zs (digs nzs 3 q) else 0) (M := 64000) (fun q _ => by split; (· exact hFb.out q); (· decide)))
      have hu0 := hide (fun q => show ∃ u, (digs nzs 3 q)[0]? = some u from ⟨_, digs_at 3 q 0 (by omega)⟩)
      have hu2 := hide (fun q => show ∃ u, (digs nzs 3 q)[2]? = some u from ⟨_, digs_at 3 q 2 (by omega)⟩)
      have hdl := hide (fun k => digs_len nzs 3 k)
      clear hok hzm
      go_wp2_with fail
      go_loopw [5] (fun i wr => ∃ k : Nat, k ≤ nzs ∧ i = .int .i64 k ∧ Hid (Ints wr wr.heap.size Azs nzs czs zs) ∧ Hid (Below w.heap.size w wr)) (fun i _ => nzs - (intOf i).toNat)
      case atStart => exact ⟨0, Nat.zero_le _, rfl, hzzs, hb⟩
      case round =>
        clear hzzs hb
        obtain ⟨k, hk, rfl, hzzs, hb⟩ := hrel
        by_cases hlt : k < nzs
        · have hap := hide (hAP.out (k : Int))
          obtain ⟨F, hF⟩ : ∃ F : Nat → Int, Hid ((fun q => if (digs nzs 3 q)[0]? = some (k : Int) then ways zs (digs nzs 3 q) else 0) = F) := ⟨_, hide rfl⟩
          obtain ⟨G, hG⟩ : ∃ G : Nat → Int, Hid ((fun q => if (digs nzs 3 q)[2]? = some (k : Int) then ways zs (digs nzs 3 q) else 0) = G) := ⟨_, hide rfl⟩
          have hFe := hide (fun q => show F q = if (digs nzs 3 q)[0]? = some (k : Int) then ways zs (digs nzs 3 q) else 0 by rw [← hF.out])
          have hGe := hide (fun q => show G q = if (digs nzs 3 q)[2]? = some (k : Int) then ways zs (digs nzs 3 q) else 0 by rw [← hG.out])
          have hb1 := hide (hB1.out (k : Int))
          have hb2 := hide (hB2.out (k : Int))
          rw [hF.out, hG.out] at hap
          rw [hF.out] at hb1
          rw [hG.out] at hb2
          go_wp2_with fail
          go_loopw [6, 7, 8] (fun s t i wr => ∃ q : Nat, q ≤ P ∧ i = .int .i64 q ∧ s = .int .i64 (nsum q F) ∧ t = .int .i64 (nsum q G) ∧ Hid (Ints wr wr.heap.size Azs nzs czs zs) ∧ Hid (Below w.heap.size w wr)) (fun _ _ i _ => P - (intOf i).toNat)
          case atStart => exact ⟨0, Nat.zero_le _, rfl, rfl, rfl, hzzs, hb⟩
          case round =>
            clear hzzs hb
            obtain ⟨q, hq, rfl, rfl, rfl, hzzs, hb⟩ := hrel
            obtain ⟨s0, s1⟩ := hb1.out q
            obtain ⟨t0, t1⟩ := hb2.out q
            by_cases hqt : q < P
            · have hs1 := hide (show nsum (q + 1) F = nsum q F + F q from rfl)
              have hs2 := hide (show nsum (q + 1) G = nsum q G + G q from rfl)
              obtain ⟨f0, f1⟩ := hFb.out q
              obtain ⟨u0, hu0⟩ := hu0.out q
              obtain ⟨u2, hu2⟩ := hu2.out q
              have hFq := hFe.out q
              have hGq := hGe.out q
              rw [hu0] at hFq
              rw [hu2] at hGq
              have hu0 := hide hu0
              have hu2 := hide hu2
              have hwq := hide (hwo.out q)
              go_wp2_with (go_at_call 37; refine (hWP.out _).mono ?_; rintro e w' ⟨rfl, rfl⟩)
              refine (hO1.out q _ (by omega)).mono ?_
              rintro e w2 ⟨Awd, nwd, cwd, rfl, ho, hq⟩
              replace hzzs := hide (hzzs.out.up hq)
              replace hb := hide (upB hb.out (hq))
              have howd := hide (ho.down (Nat.zero_le _))
              clear hq ho
              go_wp2_with fail
              refine (wordWays_impl _ _ _ _ _ _ _ _ zs (digs nzs 3 q) _ hzzs.out howd.out.ints (Nat.le_refl _) (Nat.le_refl _)).mono ?_
              rw [hwq.out]
              rintro e w3 ⟨rfl, hq⟩
              replace hzzs := hide (hzzs.out.up hq)
              replace howd := hide (howd.out.up hq)
              replace hb := hide (upB hb.out (hq))
              clear hq
              have hnwd : nwd = 3 := howd.out.len.trans (hdl.out q)
              subst hnwd
              obtain ⟨g, hA1, hg1, hgl1, hcell0, hfz0⟩ := howd.out.at2 hu0.out
              subst hA1
              obtain ⟨g2, hA2, hg2, hgl2, hcell2, hfz2⟩ := howd.out.at2 hu2.out
              injection hA2 with hA2
              injection hA2 with hA2 _ _
              subst hA2
              obtain ⟨V, hV⟩ : ∃ V, Hid (ways zs (digs nzs 3 q) = V) := ⟨_, hide rfl⟩
              rw [hV.out] at f0 f1 hFq hGq ⊢
              by_cases h0 : u0 = (k : Int)
              clear howd
              · subst h0
                rw [if_pos rfl] at hFq
                have hFq := hide hFq
                by_cases h2 : u2 = (k : Int)
                · subst h2
                  rw [if_pos rfl] at hGq
                  have hGq := hide hGq
                  go_wp2_with fail
                  go_roundw
                  case rel => exact ⟨q + 1, by omega, by go_num, by rw [hs1.out, hFq.out]; try rw [Int.add_zero], by rw [hs2.out, hGq.out]; try rw [Int.add_zero], hzzs, hb⟩
                  case measure => simp [intOf]; omega
                · have hd2 : (u2 == (k : Int)) = false := by simpa using h2
                  rw [if_neg (by simpa using h2)] at hGq
                  clear h2
                  have hGq := hide hGq
                  go_wp2_with fail
                  go_roundw
                  case rel => exact ⟨q + 1, by omega, by go_num, by rw [hs1.out, hFq.out]; try rw [Int.add_zero], by rw [hs2.out, hGq.out]; try rw [Int.add_zero], hzzs, hb⟩
                  case measure => simp [intOf]; omega
              · have hd0 : (u0 == (k : Int)) = false := by simpa using h0
                rw [if_neg (by simpa using h0)] at hFq
                have hFq := hide hFq
                by_cases h2 : u2 = (k : Int)
                · subst h2
                  rw [if_pos rfl] at hGq
                  clear h0
                  have hGq := hide hGq
                  go_wp2_with fail
                  go_roundw
                  case rel => exact ⟨q + 1, by omega, by go_num, by rw [hs1.out, hFq.out]; try rw [Int.add_zero], by rw [hs2.out, hGq.out]; try rw [Int.add_zero], hzzs, hb⟩
                  case measure => simp [intOf]; omega
                · have hd2 : (u2 == (k : Int)) = false := by simpa using h2
                  rw [if_neg (by simpa using h2)] at hGq
                  clear h2
                  clear h0
                  have hGq := hide hGq
                  go_wp2_with fail
                  go_roundw
                  case rel => exact ⟨q + 1, by omega, by go_num, by rw [hs1.out, hFq.out]; try rw [Int.add_zero], by rw [hs2.out, hGq.out]; try rw [Int.add_zero], hzzs, hb⟩
                  case measure => simp [intOf]; omega
            · obtain rfl : q = P := by omega
              rw [hap.out]
              go_wp2_with (go_at_call 37; refine (hWP.out _).mono ?_; rintro e w' ⟨rfl, rfl⟩)
              go_roundw
              case rel => exact ⟨k + 1, by omega, by go_num, hzzs, hb⟩
              case measure => simp [intOf]; omega
        · obtain rfl : k = nzs := by omega
          go_wp2_with fail
          refine (alive_c _).mono ?_
          rintro e wz ⟨rfl, hq⟩
          go_wp2_with fail
          go_ret
          exact ⟨rfl, upB hb.out hq⟩
    · have hok : urnOk zs = false := by simpa using hok
      rw [hok]
      go_wp2_with fail
      refine (sameB (urnOk_impl _ _ _ _ zs _ hzzs.out)).mono ?_
      rw [hok]
      rintro e w4 ⟨rfl, hq⟩
      replace hzzs := hide (hzzs.out.up hq)
      replace hb := hide (upB hb.out (hq))
      clear hq
      go_wp2_with fail
      refine (alive_c _).mono ?_
      rintro e wz ⟨rfl, hq⟩
      go_wp2_with fail
      go_ret
      exact ⟨by simp, upB hb.out hq⟩
end Go.Proofs.Ytlhjgcfiaakllaa
