/-
  Laws of chapter 12 walked: FnMixedRow (written by wip/gen_a8.py).
-/
import Derived.Test.YtnfjajamafkjoaaMixI
import Derived.Test.YtnfjajamafkjoaaPlainAD
import Derived.Test.YtnfjajamafkjoaaDrawMix
import Derived.Test.YtnfjajamafkjoaaZdraw
namespace Go.Proofs.Ytnfjajamafkjoaa
open Go.RowKit
set_option linter.unusedVariables false

set_option maxRecDepth 100000 in
set_option maxHeartbeats 6400000 in
theorem lawMixedRow {A : Option Addr} {n c : Nat} {bs : List Int} {w : World} (h : Bts w w.heap.size A n c bs) :
    Calls Try.prog 9 #[.slice A n c] w fun e w' => e = .returned (.bool true) ∧ Below w.heap.size w w' := by
  have hbig := h.big
  have hle := h.le
  unfold maxLen at hbig
  by_cases hn : 1048576 < n
  · go_enter Try.func9, Try.ntmps9
    go_wp2
    go_ret
    exact ⟨rfl, Below.refl _ _⟩
  · have hD := hide (DrawMixedRow_c A n c bs w h)
    obtain ⟨i0, hi, hz0, hz1, hz2⟩ := info_parts infoInt
    go_enter Try.func9, Try.ntmps9
    go_wp2_with fail
    refine hD.out.mono ?_
    rintro e w0 ⟨Axs, nxs, cxs, xs, Ays, nys, cys, ys, p, q, rfl, hzxs, hnxs, hzys, hnys, hlop, hhip, hloq, hhiq, hb⟩
    have hlxs := hide hzxs.len
    replace hzxs := hide hzxs
    have hlys := hide hzys.len
    replace hzys := hide hzys
    replace hb := hide hb
    clear hD
    have hwp := wf_i64 (z := p) (by omega)
    have hwq := wf_i64 (z := q) (by omega)
    go_wp2_with fail
    refine (mixedRow_impl _ _ _ _ _ _ _ _ xs ys p q _ hzxs.out hzys.out (Nat.le_refl _) (Nat.le_refl _) hwp hwq).mono ?_
    rintro e w1 ⟨Als, nls, cls, rfl, ho, hq⟩
    replace hzxs := hide (hzxs.out.up hq)
    replace hzys := hide (hzys.out.up hq)
    replace hb := hide (upB hb.out (hq))
    have hols := hide (ho.down (Nat.zero_le _))
    clear hq ho
    go_wp2_with fail
    refine (mixedRow_spec _ _ _ _ _ _ _ _ xs ys p q _ hzxs.out hzys.out (Nat.le_refl _) (Nat.le_refl _)).mono ?_
    rintro e w2 ⟨Asp, nsp, csp, rfl, ho, hq⟩
    replace hzxs := hide (hzxs.out.up hq)
    replace hzys := hide (hzys.out.up hq)
    replace hols := hide (hols.out.up hq)
    replace hb := hide (upB hb.out (hq))
    have hosp := hide (ho.down (Nat.zero_le _))
    clear hq ho
    have hsame := hide (sameL_refl (mixedR xs p ys q))
    go_wp2_with fail
    refine (quietB (sameInts_c _ _ _ _ _ _ _ _ (mixedR xs p ys q) (mixedR xs p ys q) _ hols.out.ints hosp.out.ints)).mono ?_
    rw [hsame.out]
    rintro e w3 ⟨rfl, hq⟩
    replace hzxs := hide (hzxs.out.up hq)
    replace hzys := hide (hzys.out.up hq)
    replace hols := hide (hols.out.up hq)
    replace hosp := hide (hosp.out.up hq)
    replace hb := hide (upB hb.out (hq))
    clear hq
    clear hosp
    clear hsame
    cases hok : mixedOk xs p ys q with
    | false =>
      have e0 : mixedR xs p ys q = [] := by unfold mixedR; rw [hok]; rfl
      rw [e0] at hols
      have hlen : nls = 0 := hols.out.len
      subst hlen
      clear e0
      go_wp2_with fail
      refine (alive_c _).mono ?_
      rintro e wz ⟨rfl, hq⟩
      go_wp2_with fail
      go_ret
      exact ⟨by simp, upB hb.out hq⟩
    | true =>
      have HT := hide (fun h1 h2 h3 => mixed_short (a := xs) (b := ys) (p := p) (q := q) hok h1 h2 h3)
      have e0 : mixedR xs p ys q = mixW xs p ys q := by unfold mixedR; rw [hok]; rfl
      rw [e0] at hols
      have HA := hide (fun (r : List Int) (h : shortOk r = true) => show shortR r = shortL r by unfold shortR; rw [h]; rfl)
      clear hok e0
      go_wp2_with fail
      refine (shorterRow_impl _ _ _ _ xs _ hzxs.out (Nat.le_refl _)).mono ?_
      rintro e w4 ⟨Au, nu, cu, rfl, ho, hq⟩
      replace hzxs := hide (hzxs.out.up hq)
      replace hzys := hide (hzys.out.up hq)
      replace hols := hide (hols.out.up hq)
      replace hb := hide (upB hb.out (hq))
      have hou := hide (ho.down (Nat.zero_le _))
      clear hq ho
      go_wp2_with fail
      refine (shorterRow_impl _ _ _ _ ys _ hzys.out (Nat.le_refl _)).mono ?_
      rintro e w5 ⟨Av, nv, cv, rfl, ho, hq⟩
      replace hzxs := hide (hzxs.out.up hq)
      replace hzys := hide (hzys.out.up hq)
      replace hols := hide (hols.out.up hq)
      replace hou := hide (hou.out.up hq)
      replace hb := hide (upB hb.out (hq))
      have hov := hide (ho.down (Nat.zero_le _))
      clear hq ho
      go_wp2_with fail
      refine (shorterRow_impl _ _ _ _ (mixW xs p ys q) _ hols.out.ints (Nat.le_refl _)).mono ?_
      rintro e w6 ⟨Ax, nx, cx, rfl, ho, hq⟩
      replace hzxs := hide (hzxs.out.up hq)
      replace hzys := hide (hzys.out.up hq)
      replace hols := hide (hols.out.up hq)
      replace hou := hide (hou.out.up hq)
      replace hov := hide (hov.out.up hq)
      replace hb := hide (upB hb.out (hq))
      have hox := hide (ho.down (Nat.zero_le _))
      clear hq ho
      go_wp2_with fail
      refine (mixedRow_impl _ _ _ _ _ _ _ _ (shortR xs) (shortR ys) p q _ hou.out.ints hov.out.ints (Nat.le_refl _) (Nat.le_refl _) hwp hwq).mono ?_
      rintro e w7 ⟨Az, nz, cz, rfl, ho, hq⟩
      replace hzxs := hide (hzxs.out.up hq)
      replace hzys := hide (hzys.out.up hq)
      replace hols := hide (hols.out.up hq)
      replace hou := hide (hou.out.up hq)
      replace hov := hide (hov.out.up hq)
      replace hox := hide (hox.out.up hq)
      replace hb := hide (upB hb.out (hq))
      have hoz := hide (ho.down (Nat.zero_le _))
      clear hq ho
      cases b1 : shortOk xs with
      | false =>
        go_wp2_with fail
        go_ret
        exact ⟨by simp, hb.out⟩
      | true =>
        cases b2 : shortOk ys with
        | false =>
          go_wp2_with fail
          go_ret
          exact ⟨by simp, hb.out⟩
        | true =>
          cases b3 : shortOk (mixW xs p ys q) with
          | false =>
            go_wp2_with fail
            go_ret
            exact ⟨by simp, hb.out⟩
          | true =>
            obtain ⟨k1, k2⟩ := HT.out b1 b2 b3
            rw [HA.out _ b1, HA.out _ b2] at hoz
            rw [HA.out _ b3] at hox
            rw [k2] at hoz
            rw [show mixedOk (shortR xs) p (shortR ys) q = true by rw [HA.out _ b1, HA.out _ b2]; exact k1]
            clear HT HA k1 k2 b1 b2 b3
            have hsame := hide (sameL_refl (shortL (mixW xs p ys q)))
            go_wp2_with fail
            refine (quietB (sameInts_c _ _ _ _ _ _ _ _ (shortL (mixW xs p ys q)) (shortL (mixW xs p ys q)) _ hoz.out.ints hox.out.ints)).mono ?_
            rw [hsame.out]
            rintro e w8 ⟨rfl, hq⟩
            replace hzxs := hide (hzxs.out.up hq)
            replace hzys := hide (hzys.out.up hq)
            replace hols := hide (hols.out.up hq)
            replace hou := hide (hou.out.up hq)
            replace hov := hide (hov.out.up hq)
            replace hox := hide (hox.out.up hq)
            replace hoz := hide (hoz.out.up hq)
            replace hb := hide (upB hb.out (hq))
            clear hq
            go_wp2_with fail
            go_ret
            exact ⟨by simp, hb.out⟩
end Go.Proofs.Ytnfjajamafkjoaa
