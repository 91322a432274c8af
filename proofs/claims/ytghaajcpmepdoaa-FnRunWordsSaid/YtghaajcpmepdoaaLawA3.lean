/-
  Laws of chapter 10 walked: FnRunWords (written by wip/gen_a2.py).
-/
import Derived.Test.YtghaajcpmepdoaaRunI
import Derived.Test.YtghaajcpmepdoaaDrawCh10
import Derived.Test.YtghaajcpmepdoaaZdraw
import Derived.Test.YtghaajcpmepdoaaZimp
namespace Go.Proofs.Ytghaajcpmepdoaa
open Go.RowKit
set_option linter.unusedVariables false

theorem digs_ok2 {m q : Nat} (h6 : m ≤ 6) : wordOk 2 (digs 2 m q) = true :=
  wordOk_mk (by omega) (by omega) (by rw [digs_len]; exact h6) (fun j x _ hx => digs_mem (C := 2) (by omega) m q x (List.mem_of_getElem? hx))
theorem runW_out {f s r : Int} (h : ¬(pairOk f s = true ∧ 0 ≤ r)) : runW f s r = -1 := by
  unfold runW
  rw [if_neg]
  simp only [Bool.and_eq_true, decide_eq_true_eq]
  exact h
theorem runW_in {F S R : Nat} (h : F + S ≤ 6) : runW (F : Int) (S : Int) (R : Int) = runN F S R := by
  unfold runW
  rw [show pairOk (F : Int) (S : Int) = true from decide_eq_true (by omega), decide_eq_true (show (0 : Int) ≤ (R : Int) by omega), Int.toNat_natCast, Int.toNat_natCast, Int.toNat_natCast]; rfl
theorem hitTo_le (f s r q : Nat) : hitTo f s r q ≤ q := by
  induction q with
  | zero => exact Nat.le_refl _
  | succ q ih => unfold hitTo; split <;> omega
theorem pow2_6 {m : Nat} (h : m ≤ 6) : 1 ≤ 2 ^ m ∧ 2 ^ m ≤ 64 := ⟨Nat.pos_of_ne_zero (by simp), Nat.pow_le_pow_right (by omega) h⟩

set_option maxRecDepth 100000 in
set_option maxHeartbeats 6400000 in
theorem lawRunWords {A : Option Addr} {n c : Nat} {bs : List Int} {w : World} (h : Bts w w.heap.size A n c bs) :
    Calls Try.prog 7 #[.slice A n c] w fun e w' => e = .returned (.bool true) ∧ Below w.heap.size w w' := by
  have hbig := h.big
  have hle := h.le
  unfold maxLen at hbig
  by_cases hn : 1048576 < n
  · go_enter Try.func7, Try.ntmps7
    go_wp2
    go_ret
    exact ⟨rfl, Below.refl _ _⟩
  · have hD := hide (DrawRunWords_c A n c bs w h)
    obtain ⟨i0, hi, hz0, hz1, hz2⟩ := info_parts infoInt
    go_enter Try.func7, Try.ntmps7
    go_wp2_with fail
    refine hD.out.mono ?_
    rintro e w0 ⟨f, s, r, rfl, hlof, hhif, hlos, hhis, hlor, hhir, hb⟩
    replace hb := hide hb
    clear hD
    have hwf := wf_i64 (z := f) (by omega)
    have hws := wf_i64 (z := s) (by omega)
    have hwr := wf_i64 (z := r) (by omega)
    go_wp2_with fail
    refine (runWords_impl f s r _ hwf hws hwr).mono ?_
    rintro e w1 ⟨rfl, hq⟩
    replace hb := hide (upB hb.out (hq))
    clear hq
    go_wp2_with fail
    refine (runWords_spec f s r _ hwf hws).mono ?_
    rintro e w2 ⟨rfl, hq⟩
    replace hb := hide (upB hb.out (hq))
    clear hq
    by_cases hok : pairOk f s = true ∧ 0 ≤ r
    ·
      obtain ⟨hp, hr0⟩ := hok
      have hfs := of_decide_eq_true hp
      obtain ⟨F, rfl⟩ : ∃ F : Nat, f = (F : Int) := ⟨f.toNat, by omega⟩
      obtain ⟨S, rfl⟩ : ∃ S : Nat, s = (S : Int) := ⟨s.toNat, by omega⟩
      obtain ⟨R, rfl⟩ : ∃ R : Nat, r = (R : Int) := ⟨r.toNat, by omega⟩
      have hFS : F + S ≤ 6 := by omega
      have hR8 : R ≤ 8 := by omega
      rw [runW_in hFS]
      obtain ⟨e1, e2, e3⟩ := run_swap hFS hR8
      have hSW := hide (show runW (S : Int) (F : Int) (R : Int) = runN F S R by rw [runW_in (show S + F ≤ 6 by omega), e1])
      have HW := hide (fun (k : Nat) => show runW (F : Int) (S : Int) (k : Int) = runN F S k from runW_in hFS)
      have HF := hide (fun (k : Nat) (hk : k ≤ 6) => run_facts hFS hk)
      have HA := hide (show wordsWith 2 [(F : Int), (S : Int)] = runAllTo F S (F + S + 1) by unfold wordsWith; rw [pairOk_row, hp, run_all hFS]; rfl)
      have HE := hide (fun (q : Nat) => show hitTo F S R (q + 1) = hitTo F S R q + (if hitAt F S R q then 1 else 0) from rfl)
      have HL := hide (fun (q : Nat) => hitTo_le F S R q)
      obtain ⟨N, hN⟩ : ∃ N : Nat, F + S = N := ⟨_, rfl⟩
      have hNi : (F : Int) + (S : Int) = (N : Int) := by omega
      have hN6 : N ≤ 6 := by omega
      rw [hN] at e2 HA
      have HT := hide (fun (q : Nat) => show hitAt F S R q = (decide (cntL 2 (digs 2 N q) = [(F : Int), (S : Int)]) && Nat.beq (runsTo (digs 2 N q) N) R) by unfold hitAt; rw [hN])
      have HCo := hide (fun (q : Nat) => show countsOf 2 (digs 2 N q) = cntL 2 (digs 2 N q) by unfold countsOf; rw [digs_ok2 hN6]; rfl)
      have HRo := hide (fun (q : Nat) => show runsF 2 (digs 2 N q) = (runsTo (digs 2 N q) N : Int) by unfold runsF; rw [digs_ok2 hN6, digs_len]; rfl)
      have hpp := pow2_6 hN6
      have hPW := hide (fun w => lawPow_c 2 N w (by omega) (by omega) (by omega) (by omega))
      have hWO := hide (fun (q : Nat) (hq : q ≤ 64) w => wordOf_c 2 N q w (by omega) (by omega) (by omega) (by omega))
      obtain ⟨P, hP⟩ : ∃ P : Nat, Hid (2 ^ N = P) := ⟨_, hide rfl⟩
      rw [hP.out] at hPW hpp e2
      obtain ⟨P1, P2⟩ := hpp
      obtain ⟨V, hV⟩ : ∃ V, Hid (runN F S R = V) := ⟨_, hide rfl⟩
      rw [hV.out] at e2 e3 hSW ⊢
      have e2 := hide e2
      have hVge : 0 ≤ V := e3
      replace hN := hide hN
      clear hfs hp hr0 e1 e3
      have hz0 := hide (show (0 : Int) = runAllTo F S 0 from rfl)
      have hh0 := hide (show 0 = hitTo F S R 0 from rfl)
      go_wp2_with fail
      go_loopw [8, 9] (fun t i wr => ∃ k : Nat, ∃ Z : Int, k ≤ N + 1 ∧ i = .int .i64 k ∧ t = .int .i64 Z ∧ Hid (Z = runAllTo F S k) ∧ Hid (Below w.heap.size w wr)) (fun _ i _ => N + 1 - (intOf i).toNat)
      case atStart => exact ⟨0, 0, Nat.zero_le _, rfl, rfl, hz0, hb⟩
      case round =>
        clear hz0 hb
        obtain ⟨k, Z, hk, rfl, rfl, hZ, hb⟩ := hrel
        by_cases hlt : k < N + 1
        · obtain ⟨r0, r1, _, _, z0, z1⟩ := HF.out k (by omega)
          rw [← hZ.out] at z0 z1
          have hZn := hide (show Z + runN F S k = runAllTo F S (k + 1) by rw [hZ.out]; rfl)
          obtain ⟨T, hT⟩ : ∃ T, Hid (runN F S k = T) := ⟨_, hide rfl⟩
          have hWk := hide ((HW.out k).trans hT.out)
          rw [hT.out] at hZn r0 r1
          have hcond : (k : Int) ≤ (N : Int) := by omega
          have hwk := wf_i64 (z := (k : Int)) (by omega)
          go_wp2_with fail
          refine (runWords_impl (F : Int) (S : Int) (k : Int) _ hwf hws hwk).mono ?_
          rw [hWk.out]
          rintro e w3 ⟨rfl, hq⟩
          replace hb := hide (upB hb.out (hq))
          clear hq
          go_wp2_with fail
          go_roundw
          case rel => exact ⟨k + 1, _, by omega, by go_num, rfl, hZn, hb⟩
          case measure => simp [intOf]; omega
        · have hkN : k = N + 1 := by omega
          have hsum := hide (show Z = wordsWith 2 [(F : Int), (S : Int)] by rw [hZ.out, hkN, HA.out])
          have hcond : ¬ ((k : Int) ≤ (N : Int)) := by omega
          clear hkN hk hlt
          go_wp2_with fail
          go_loopw [10, 11, 12] (fun t i u wr => ∃ q M : Nat, q ≤ P ∧ M ≤ q ∧ i = .int .i64 q ∧ t = .int .i64 (M : Int) ∧ Hid (M = hitTo F S R q) ∧ Hid (Below w.heap.size w wr)) (fun _ i _ _ => P - (intOf i).toNat)
          case atStart => exact ⟨0, 0, Nat.zero_le _, Nat.le_refl _, rfl, rfl, hh0, hb⟩
          case round =>
            clear hh0 hb
            obtain ⟨q, M, hq, hMq, rfl, rfl, hM, hb⟩ := hrel
            go_wp2_with fail
            refine (hPW.out _).mono ?_
            rintro e w' ⟨rfl, rfl⟩
            by_cases hqP : q < P
            · have hHT := hide (HT.out q)
              have hMn := hide (HE.out q)
              rw [← hM.out] at hMn
              go_wp2_with fail
              refine (hWO.out q (by omega) _).mono ?_
              rintro e wa ⟨Aw, nw, cw, rfl, ho, hq2⟩
              replace hb := hide (upB hb.out (hq2))
              have how := hide (ho.down (Nat.zero_le _))
              clear hq2 ho
              go_wp2_with fail
              refine (countsOf_impl 2 _ _ _ _ (digs 2 N q) _ how.out.ints (Nat.le_refl _)).mono ?_
              rintro e w4 ⟨Ac, nc, cc, rfl, ho, hq⟩
              replace how := hide (how.out.up hq)
              replace hb := hide (upB hb.out (hq))
              have hoc := hide (ho.down (Nat.zero_le _))
              clear hq ho
              rw [HCo.out] at hoc
              have hlit := hide (ints_lit2 (w := w4) hwf hws)
              replace how := hide (how.out.up (al w4 (.cells #[.int .i64 (F : Int), .int .i64 (S : Int)] 3)))
              replace hoc := hide (hoc.out.up (al w4 (.cells #[.int .i64 (F : Int), .int .i64 (S : Int)] 3)))
              replace hb := hide (upB hb.out ((al w4 (.cells #[.int .i64 (F : Int), .int .i64 (S : Int)] 3))))
              go_wp2_with fail
              refine (quietB (sameInts_c _ _ _ _ _ _ _ _ (cntL 2 (digs 2 N q)) [(F : Int), (S : Int)] _ hoc.out.ints hlit.out)).mono ?_
              rintro e wb ⟨rfl, hq2⟩
              replace how := hide (how.out.up hq2)
              replace hoc := hide (hoc.out.up hq2)
              replace hb := hide (upB hb.out (hq2))
              clear hq2 hlit
              by_cases hcc : cntL 2 (digs 2 N q) = [(F : Int), (S : Int)]
              · rw [show sameL (cntL 2 (digs 2 N q)) [(F : Int), (S : Int)] = true from decide_eq_true hcc]
                have hcc := hide hcc
                go_wp2_with fail
                refine (runsOf_impl 2 _ _ _ _ (digs 2 N q) _ how.out.ints (Nat.le_refl _)).mono ?_
                rw [HRo.out]
                rintro e w5 ⟨rfl, hq⟩
                replace how := hide (how.out.up hq)
                replace hoc := hide (hoc.out.up hq)
                replace hb := hide (upB hb.out (hq))
                clear hq
                have hTb := runsTo_le (digs 2 N q) N
                obtain ⟨X, hX⟩ : ∃ X, Hid (runsTo (digs 2 N q) N = X) := ⟨_, hide rfl⟩
                rw [hX.out] at hTb ⊢
                clear how hoc
                by_cases hXR : X = R
                · have hd : ((X : Int) == (R : Int)) = true := by simp; omega
                  have hm1 := hide (show M + 1 = hitTo F S R (q + 1) by rw [hMn.out, hHT.out, decide_eq_true hcc.out, hX.out, hXR, Nat.beq_refl]; rfl)
                  clear hXR
                  go_wp2_with fail
                  go_roundw
                  case rel => exact ⟨q + 1, M + 1, by omega, by omega, by go_num, by go_num, hm1, hb⟩
                  case measure => simp [intOf]; omega
                · have hd : ((X : Int) == (R : Int)) = false := by simp; omega
                  have hm1 := hide (show M = hitTo F S R (q + 1) by rw [hMn.out, hHT.out, decide_eq_true hcc.out, hX.out, show Nat.beq X R = false from by cases hb : Nat.beq X R with | false => rfl | true => exact absurd (Nat.eq_of_beq_eq_true hb) hXR]; rfl)
                  clear hXR
                  go_wp2_with fail
                  go_roundw
                  case rel => exact ⟨q + 1, M, by omega, by omega, by go_num, rfl, hm1, hb⟩
                  case measure => simp [intOf]; omega
              · rw [show sameL (cntL 2 (digs 2 N q)) [(F : Int), (S : Int)] = false from decide_eq_false hcc]
                have hm1 := hide (show M = hitTo F S R (q + 1) by rw [hMn.out, hHT.out, decide_eq_false hcc]; rfl)
                replace hcc := hide hcc
                clear how hoc
                go_wp2_with fail
                go_roundw
                case rel => exact ⟨q + 1, M, by omega, by omega, by go_num, rfl, hm1, hb⟩
                case measure => simp [intOf]; omega
            · obtain rfl : q = P := by omega
              have hMV : (M : Int) = V := by rw [hM.out]; exact e2.out
              have hlit := hide (ints_lit2 (w := wr) hwf hws)
              replace hb := hide (upB hb.out ((al wr (.cells #[.int .i64 (F : Int), .int .i64 (S : Int)] 3))))
              go_wp2_with fail
              refine (wordsWith_impl 2 _ _ _ _ [(F : Int), (S : Int)] _ hlit.out (by simp)).mono ?_
              rw [← hsum.out]
              rintro e wb ⟨rfl, hq2⟩
              replace hb := hide (upB hb.out (hq2))
              clear hq2 hlit
              go_wp2_with fail
              refine (runWords_impl (S : Int) (F : Int) (R : Int) _ hws hwf hwr).mono ?_
              rw [hSW.out]
              rintro e w6 ⟨rfl, hq⟩
              replace hb := hide (upB hb.out (hq))
              clear hq
              go_wp2_with fail
              go_ret
              exact ⟨by simp, hb.out⟩
    · rw [runW_out hok]
      clear hok
      go_wp2_with fail
      refine (alive_c _).mono ?_
      rintro e wz ⟨rfl, hq⟩
      go_wp2_with fail
      go_ret
      exact ⟨by simp, upB hb.out hq⟩
end Go.Proofs.Ytghaajcpmepdoaa
