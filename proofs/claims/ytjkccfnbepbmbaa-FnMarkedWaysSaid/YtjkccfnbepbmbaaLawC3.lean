/-
  Laws of chapter 11 walked: FnMarkedWays (written by wip/gen_a4.py).
-/
import Derived.Test.YtjkccfnbepbmbaaSampI
import Derived.Test.YtjkccfnbepbmbaaDrawCh11
import Derived.Test.YtjkccfnbepbmbaaZdraw
namespace Go.Proofs.Ytjkccfnbepbmbaa
open Go.RowKit
set_option linter.unusedVariables false

set_option maxRecDepth 100000 in
set_option maxHeartbeats 6400000 in
theorem lawMarkedWays {A : Option Addr} {n c : Nat} {bs : List Int} {w : World} (h : Bts w w.heap.size A n c bs) :
    Calls Try.prog 5 #[.slice A n c] w fun e w' => e = .returned (.bool true) ∧ Below w.heap.size w w' := by
  have hbig := h.big
  have hle := h.le
  unfold maxLen at hbig
  by_cases hn : 1048576 < n
  · go_enter Try.func5, Try.ntmps5
    go_wp2
    go_ret
    exact ⟨rfl, Below.refl _ _⟩
  · have hD := hide (DrawMarkedWays_c A n c bs w h)
    obtain ⟨i0, hi, hz0, hz1, hz2⟩ := info_parts infoInt
    go_enter Try.func5, Try.ntmps5
    go_wp2_with fail
    refine hD.out.mono ?_
    rintro e w0 ⟨t, m, p, b, rfl, hlot, hhit, hlom, hhim, hlop, hhip, hlob, hhib, hb⟩
    replace hb := hide hb
    clear hD
    have hwt := wf_i64 (z := t) (by omega)
    have hwm := wf_i64 (z := m) (by omega)
    have hwp := wf_i64 (z := p) (by omega)
    have hwb := wf_i64 (z := b) (by omega)
    go_wp2_with fail
    refine (markedWays_impl (t) (m) (p) (b) _ (wf_i64 (by omega)) (wf_i64 (by omega)) (wf_i64 (by omega)) (wf_i64 (by omega))).mono ?_
    rintro e w1 ⟨rfl, hq⟩
    replace hb := hide (upB hb.out (hq))
    clear hq
    go_wp2_with fail
    refine (sameB (markedWays_spec t m p b _)).mono ?_
    rintro e w2 ⟨rfl, hq⟩
    replace hb := hide (upB hb.out (hq))
    clear hq
    cases hok : markB t m p b with
    | false =>
      rw [show markW t m p b = -1 by unfold markW; rw [hok]; rfl]
      clear hok
      go_wp2_with fail
      refine (alive_c _).mono ?_
      rintro e wz ⟨rfl, hq⟩
      go_wp2_with fail
      go_ret
      exact ⟨by simp, upB hb.out hq⟩
    | true =>
      rw [show markW t m p b = markN t m p b by unfold markW; rw [hok]; rfl]
      obtain ⟨hsm, t0, t1, m0, m1, p0, p1, b0, b1⟩ := markB_yes hok
      obtain ⟨e1, e2⟩ := mark_facts t0 t1 m0 (show m ≤ 12 by omega) m1 p0 (show p ≤ 11 by omega) p1
      have HPm := hide (show pickW t m = chooseI t m by unfold pickW; rw [if_pos (by omega)])
      have HPp := hide (show pickW t p = chooseI t p by unfold pickW; rw [if_pos (by omega)])
      have hss : sampleB t p m = true := decide_eq_true (by omega)
      have HO := hide (fun (h : b ≤ m) => show markW t p m b = markN t p m b by unfold markW markB; rw [hss, decide_eq_true ⟨b0, h⟩]; rfl)
      have HO2 := hide (fun (h : ¬ b ≤ m) => show markW t p m b = -1 by unfold markW markB; rw [hss, decide_eq_false (by omega)]; rfl)
      have HK := hide (fun (k : Nat) (h : (k : Int) ≤ p) => show markW t m p (k : Int) = markN t m p (k : Int) by unfold markW markB; rw [hsm, decide_eq_true (by omega)]; rfl)
      have HB := hide (fun (j : Nat) => tailTo_bound (p := p) (b := 0) m0 m1 t1 j)
      have HN := hide (fun (c : Int) => markN_bound (p := p) (b := c) m0 m1 t1)
      obtain ⟨g1, g2⟩ := e2 b b0 b1
      have bV := markN_bound (p := p) (b := b) m0 m1 t1
      have bO := markN_bound (p := m) (b := b) p0 p1 t1
      have bm := chooseI_bound (n := t) (k := m) (by omega)
      have bp := chooseI_bound (n := t) (k := p) (by omega)
      obtain ⟨V, hV⟩ : ∃ V, Hid (markN t m p b = V) := ⟨_, hide rfl⟩
      obtain ⟨O, hO⟩ : ∃ O, Hid (markN t p m b = O) := ⟨_, hide rfl⟩
      obtain ⟨X, hX⟩ : ∃ X, Hid (chooseI t m = X) := ⟨_, hide rfl⟩
      obtain ⟨Y, hY⟩ : ∃ Y, Hid (chooseI t p = Y) := ⟨_, hide rfl⟩
      rw [hV.out] at g1 g2 bV ⊢
      rw [hO.out] at g2 HO bO
      rw [hX.out] at g2 HPm bm
      rw [hY.out] at e1 g2 HPp bp
      obtain ⟨v0, _⟩ := bV
      obtain ⟨o0, _⟩ := bO
      obtain ⟨x0, x1⟩ := bm
      obtain ⟨y0, y1⟩ := bp
      have g2 := hide g2
      obtain ⟨a1, a2⟩ := mul_bound v0 g1 x0 x1
      obtain ⟨J, hJ⟩ : ∃ J : Nat, p + 1 = (J : Int) := ⟨(p + 1).toNat, by omega⟩
      have hJ12 : J ≤ 12 := by omega
      have he1 := hide (show tailTo t m p 0 J = Y by rw [← e1, hJ, Int.toNat_natCast])
      have hz0 := hide (show (0 : Int) = tailTo t m p 0 0 from rfl)
      clear hok e1 e2 hsm hss
      by_cases hbm : b ≤ m
      · obtain ⟨g3, g4⟩ := g2.out hbm
        obtain ⟨a3, a4⟩ := mul_bound o0 g4 y0 y1
        have hon : ¬ (O < 0) := by omega
        have hg3 : (V * X == O * Y) = true := by simp [g3]
        clear g3
        go_wp2_with fail
        refine (markedWays_impl (t) (p) (m) (b) _ (wf_i64 (by omega)) (wf_i64 (by omega)) (wf_i64 (by omega)) (wf_i64 (by omega))).mono ?_
        rw [HO.out hbm]
        rintro e w3 ⟨rfl, hq⟩
        replace hb := hide (upB hb.out (hq))
        clear hq
        go_wp2_with fail
        go_loopw [9, 10] (fun s i wr => ∃ k : Nat, ∃ Z : Int, k ≤ J ∧ i = .int .i64 (k : Int) ∧ s = .int .i64 Z ∧ Hid (Z = tailTo t m p 0 k) ∧ Hid (Below w.heap.size w wr)) (fun _ i _ => J - (intOf i).toNat)
        case atStart => exact ⟨0, 0, Nat.zero_le _, rfl, rfl, hz0, hb⟩
        case round =>
          clear hz0 hb
          obtain ⟨k, Z, hk, rfl, rfl, hZ, hb⟩ := hrel
          by_cases hlt : k < J
          · obtain ⟨z0, z1⟩ := HB.out k
            obtain ⟨c0, c1⟩ := HN.out (k : Int)
            rw [← hZ.out] at z0 z1
            have hZn := hide (show Z + markN t m p (k : Int) = tailTo t m p 0 (k + 1) by rw [hZ.out, show tailTo t m p 0 (k + 1) = tailTo t m p 0 k + markN t m p (0 + (k : Int)) from rfl, Int.zero_add])
            have hkp : (k : Int) ≤ p := by omega
            have hMk := hide (HK.out k hkp)
            obtain ⟨T, hT⟩ : ∃ T, Hid (markN t m p (k : Int) = T) := ⟨_, hide rfl⟩
            rw [hT.out] at hZn hMk c0 c1
            go_wp2_with fail
            refine (markedWays_impl (t) (m) (p) ((k : Int)) _ (wf_i64 (by omega)) (wf_i64 (by omega)) (wf_i64 (by omega)) (wf_i64 (by omega))).mono ?_
            rw [hMk.out]
            rintro e w4 ⟨rfl, hq⟩
            replace hb := hide (upB hb.out (hq))
            clear hq
            go_wp2_with fail
            go_roundw
            case rel => exact ⟨k + 1, _, by omega, by go_num, rfl, hZn, hb⟩
            case measure => simp [intOf]; omega
          · have hkJ : k = J := by omega
            have hZY := hide (show Z = Y by rw [hZ.out, hkJ, he1.out])
            have hkp : ¬ ((k : Int) ≤ p) := by omega
            clear hkJ
            go_wp2_with fail
            refine (pickWays_impl t m _ hwt hwm).mono ?_
            rw [HPm.out]
            rintro e w5 ⟨rfl, hq⟩
            replace hb := hide (upB hb.out (hq))
            clear hq
            go_wp2_with fail
            refine (pickWays_impl t p _ hwt hwp).mono ?_
            rw [HPp.out]
            rintro e w6 ⟨rfl, hq⟩
            replace hb := hide (upB hb.out (hq))
            clear hq
            go_wp2_with fail
            refine (pickWays_impl t p _ hwt hwp).mono ?_
            rw [HPp.out, ← hZY.out]
            rintro e w7 ⟨rfl, hq⟩
            replace hb := hide (upB hb.out (hq))
            clear hq
            go_wp2_with fail
            go_ret
            exact ⟨by simp, hb.out⟩
      · skip
        go_wp2_with fail
        refine (markedWays_impl (t) (p) (m) (b) _ (wf_i64 (by omega)) (wf_i64 (by omega)) (wf_i64 (by omega)) (wf_i64 (by omega))).mono ?_
        rw [HO2.out hbm]
        rintro e w8 ⟨rfl, hq⟩
        replace hb := hide (upB hb.out (hq))
        clear hq
        go_wp2_with fail
        go_loopw [9, 10] (fun s i wr => ∃ k : Nat, ∃ Z : Int, k ≤ J ∧ i = .int .i64 (k : Int) ∧ s = .int .i64 Z ∧ Hid (Z = tailTo t m p 0 k) ∧ Hid (Below w.heap.size w wr)) (fun _ i _ => J - (intOf i).toNat)
        case atStart => exact ⟨0, 0, Nat.zero_le _, rfl, rfl, hz0, hb⟩
        case round =>
          clear hz0 hb
          obtain ⟨k, Z, hk, rfl, rfl, hZ, hb⟩ := hrel
          by_cases hlt : k < J
          · obtain ⟨z0, z1⟩ := HB.out k
            obtain ⟨c0, c1⟩ := HN.out (k : Int)
            rw [← hZ.out] at z0 z1
            have hZn := hide (show Z + markN t m p (k : Int) = tailTo t m p 0 (k + 1) by rw [hZ.out, show tailTo t m p 0 (k + 1) = tailTo t m p 0 k + markN t m p (0 + (k : Int)) from rfl, Int.zero_add])
            have hkp : (k : Int) ≤ p := by omega
            have hMk := hide (HK.out k hkp)
            obtain ⟨T, hT⟩ : ∃ T, Hid (markN t m p (k : Int) = T) := ⟨_, hide rfl⟩
            rw [hT.out] at hZn hMk c0 c1
            go_wp2_with fail
            refine (markedWays_impl (t) (m) (p) ((k : Int)) _ (wf_i64 (by omega)) (wf_i64 (by omega)) (wf_i64 (by omega)) (wf_i64 (by omega))).mono ?_
            rw [hMk.out]
            rintro e w9 ⟨rfl, hq⟩
            replace hb := hide (upB hb.out (hq))
            clear hq
            go_wp2_with fail
            go_roundw
            case rel => exact ⟨k + 1, _, by omega, by go_num, rfl, hZn, hb⟩
            case measure => simp [intOf]; omega
          · have hkJ : k = J := by omega
            have hZY := hide (show Z = Y by rw [hZ.out, hkJ, he1.out])
            have hkp : ¬ ((k : Int) ≤ p) := by omega
            clear hkJ
            go_wp2_with fail
            refine (pickWays_impl t p _ hwt hwp).mono ?_
            rw [HPp.out, ← hZY.out]
            rintro e w10 ⟨rfl, hq⟩
            replace hb := hide (upB hb.out (hq))
            clear hq
            go_wp2_with fail
            go_ret
            exact ⟨by simp, hb.out⟩
end Go.Proofs.Ytjkccfnbepbmbaa
