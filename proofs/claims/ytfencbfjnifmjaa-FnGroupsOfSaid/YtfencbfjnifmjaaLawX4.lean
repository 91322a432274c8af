/-
  Laws of chapter 8 walked: FnGroupsOf (written by wip/gen_x2.py).
-/
import Derived.Test.YtfencbfjnifmjaaLawX1
namespace Go.Proofs.Ytfencbfjnifmjaa
open Go.RowKit
set_option linter.unusedVariables false

theorem grp_cnt : ((List.range 8).all fun n => (List.range 7).all fun k => Nat.ble (groupsN n k) 2000 && Nat.ble (groupsN (n + 1) k) 8000 && (Nat.beq k 0 || Nat.beq (groupsN (n + 1) k) (k * groupsN n k + groupsN n (k - 1))) && (!(Nat.beq n k) || Nat.beq (groupsN n k) 1)) = true := by kernel_rfl
theorem group_facts {N K : Nat} (hN : N ≤ 7) (hK : K ≤ 6) : groupsN N K ≤ 2000 ∧ (N < 7 → groupsN (N + 1) K ≤ 8000 ∧ (1 ≤ K → groupsN (N + 1) K = K * groupsN N K + groupsN N (K - 1))) ∧ (1 ≤ K → groupsN N (K - 1) ≤ 2000) ∧ (K = N → groupsN N K = 1) := by
  have h := all_range (all_range grp_cnt (k := N) (by omega)) (k := K) (by omega)
  simp only [Bool.and_eq_true] at h
  obtain ⟨⟨⟨a, b⟩, c⟩, d⟩ := h
  refine ⟨Nat.le_of_ble_eq_true a, fun _ => ⟨Nat.le_of_ble_eq_true b, fun hk => Nat.eq_of_beq_eq_true (or_beq c (by omega))⟩, fun hk => ?_, fun e => ?_⟩
  · have h2 := all_range (all_range grp_cnt (k := N) (by omega)) (k := K - 1) (by omega)
    simp only [Bool.and_eq_true] at h2
    exact Nat.le_of_ble_eq_true h2.1.1.1
  · subst e
    rcases Bool.or_eq_true_iff.1 d with d | d
    · simp at d
    · exact Nat.eq_of_beq_eq_true d

theorem group_next {N K : Nat} (hN : N ≤ 7) (hK : K ≤ 6) : (groupsW ((N : Int) + 1) (K : Int) < 0 ∨ groupsW (N : Int) ((K : Int) - 1) < 0 ∨ groupsW ((N : Int) + 1) (K : Int) = (K : Int) * (groupsN N K : Int) + groupsW (N : Int) ((K : Int) - 1)) ∧ -1 ≤ groupsW ((N : Int) + 1) (K : Int) ∧ groupsW ((N : Int) + 1) (K : Int) ≤ 8000 ∧ -1 ≤ groupsW (N : Int) ((K : Int) - 1) ∧ groupsW (N : Int) ((K : Int) - 1) ≤ 2000 := by
  obtain ⟨g1, g2, g3, g4⟩ := group_facts hN hK
  have hl : (K = 0 ∧ groupsW (N : Int) ((K : Int) - 1) = -1) ∨ (1 ≤ K ∧ groupsW (N : Int) ((K : Int) - 1) = (groupsN N (K - 1) : Int)) := by
    rcases Nat.lt_or_ge 0 K with h | h
    · refine .inr ⟨h, ?_⟩
      rw [show (K : Int) - 1 = ((K - 1 : Nat) : Int) by omega]
      exact groupsW_in hN (by omega)
    · exact .inl ⟨by omega, groupsW_out (decide_eq_false (by omega))⟩
  have hm : (N = 7 ∧ groupsW ((N : Int) + 1) (K : Int) = -1) ∨ (N < 7 ∧ groupsW ((N : Int) + 1) (K : Int) = (groupsN (N + 1) K : Int)) := by
    rcases Nat.lt_or_ge N 7 with h | h
    · refine .inr ⟨h, ?_⟩
      rw [show (N : Int) + 1 = ((N + 1 : Nat) : Int) by omega]
      exact groupsW_in (by omega) hK
    · exact .inl ⟨by omega, groupsW_out (decide_eq_false (by omega))⟩
  rcases hl with ⟨h0, el⟩ | ⟨h1, el⟩
  · rw [el]
    rcases hm with ⟨_, em⟩ | ⟨h7, em⟩
    · rw [em]; exact ⟨.inl (by decide), by decide, by decide, by decide, by decide⟩
    · rw [em]
      have := (g2 h7).1
      exact ⟨.inr (.inl (by decide)), by omega, by omega, by decide, by decide⟩
  · rw [el]
    have l1 := g3 h1
    rcases hm with ⟨_, em⟩ | ⟨h7, em⟩
    · rw [em]; exact ⟨.inl (by decide), by decide, by decide, by omega, by omega⟩
    · rw [em]
      obtain ⟨m1, m2⟩ := g2 h7
      refine ⟨.inr (.inr ?_), by omega, by omega, by omega, by omega⟩
      rw [m2 h1, Int.natCast_add, Int.natCast_mul]

set_option maxRecDepth 100000 in
set_option maxHeartbeats 3200000 in
theorem lawGroupsOf {A : Option Addr} {n c : Nat} {bs : List Int} {w : World} (h : Bts w w.heap.size A n c bs) :
    Calls Try.prog 6 #[.slice A n c] w fun e w' => e = .returned (.bool true) ∧ Below w.heap.size w w' := by
  have hbig := h.big
  have hle := h.le
  unfold maxLen at hbig
  by_cases hn : 1048576 < n
  · go_enter Try.func6, Try.ntmps6
    go_wp2
    go_ret
    exact ⟨rfl, Below.refl _ _⟩
  · have hD := hide (DrawGroupsOf_c A n c bs w h)
    obtain ⟨i0, hi, hz0, hz1, hz2⟩ := info_parts infoInt
    go_enter Try.func6, Try.ntmps6
    go_wp2_with fail
    refine hD.out.mono ?_
    rintro e w0 ⟨x, y, rfl, hlox, hhix, hloy, hhiy, hb⟩
    replace hb := hide hb
    clear hD
    have hwx := wf_i64 (z := x) (by omega)
    have hwy := wf_i64 (z := y) (by omega)
    go_wp2_with fail
    refine (groupsOf_impl x y _ hwx hwy).mono ?_
    rintro e w1 ⟨rfl, hq⟩
    replace hb := hide (upB hb.out (hq))
    clear hq
    go_wp2_with fail
    refine (sameB (groupsOf_spec x y _)).mono ?_
    rintro e w2 ⟨rfl, hq⟩
    replace hb := hide (upB hb.out (hq))
    clear hq
    by_cases hok : groupsOk x y = true
    · obtain ⟨N, K, rfl, rfl, h7, h6⟩ := groupsOk_yes hok
      rw [groupsW_in h7 h6]
      obtain ⟨g1, g2, g3, g4⟩ := group_facts h7 h6
      obtain ⟨hd, mv0, mv1, lv0, lv1⟩ := group_next h7 h6
      replace g4 := hide g4
      clear hok g2 g3
      obtain ⟨M, hM⟩ : ∃ M : Int, Hid (groupsW ((N : Int) + 1) (K : Int) = M) := ⟨_, hide rfl⟩
      obtain ⟨L, hL⟩ : ∃ L : Int, Hid (groupsW (N : Int) ((K : Int) - 1) = L) := ⟨_, hide rfl⟩
      obtain ⟨G, hG⟩ : ∃ G : Nat, Hid (groupsN N K = G) := ⟨_, hide rfl⟩
      rw [hM.out] at hd mv0 mv1
      rw [hL.out] at hd lv0 lv1
      rw [hG.out] at hd g1 g4 ⊢
      obtain ⟨p0, p1⟩ := mul_bound (a := (K : Int)) (M := 6) (by omega) (by omega) (b := (G : Int)) (N := 2000) (by omega) (by omega)
      have heq : K = N ∨ K ≠ N := by omega
      have hE : (K = N ∧ G = 1) ∨ (K ≠ N) := heq.elim (fun e => .inl ⟨e, g4.out e⟩) .inr
      clear heq g4
      rcases hE with ⟨hKN, hG1⟩ | hKN
      · obtain rfl : K = N := hKN
        subst hG1
        by_cases hm : M < 0
        · clear hd
          go_wp2_with fail
          refine (groupsOf_impl ((K : Int) + 1) (K : Int) _ (wf_i64 (by omega)) hwy).mono ?_
          rw [hM.out]
          rintro e w3 ⟨rfl, hq⟩
          replace hb := hide (upB hb.out (hq))
          clear hq
          go_wp2_with fail
          refine (groupsOf_impl (K : Int) ((K : Int) - 1) _ hwx (wf_i64 (by omega))).mono ?_
          rw [hL.out]
          rintro e w4 ⟨rfl, hq⟩
          replace hb := hide (upB hb.out (hq))
          clear hq
          go_wp2_with fail
          refine (alive_c _).mono ?_
          rintro e wz ⟨rfl, hq⟩
          go_wp2_with fail
          go_ret
          exact ⟨by first | rfl | simp, upB hb.out hq⟩
        · by_cases hl : L < 0
          · clear hd
            go_wp2_with fail
            refine (groupsOf_impl ((K : Int) + 1) (K : Int) _ (wf_i64 (by omega)) hwy).mono ?_
            rw [hM.out]
            rintro e w5 ⟨rfl, hq⟩
            replace hb := hide (upB hb.out (hq))
            clear hq
            go_wp2_with fail
            refine (groupsOf_impl (K : Int) ((K : Int) - 1) _ hwx (wf_i64 (by omega))).mono ?_
            rw [hL.out]
            rintro e w6 ⟨rfl, hq⟩
            replace hb := hide (upB hb.out (hq))
            clear hq
            go_wp2_with fail
            refine (alive_c _).mono ?_
            rintro e wz ⟨rfl, hq⟩
            go_wp2_with fail
            go_ret
            exact ⟨by first | rfl | simp, upB hb.out hq⟩
          · have he := (hd.resolve_left hm).resolve_left hl
            clear hd
            rw [show ((1 : Nat) : Int) = 1 from rfl, Int.mul_one] at he
            subst he
            go_wp2_with fail
            refine (groupsOf_impl ((K : Int) + 1) (K : Int) _ (wf_i64 (by omega)) hwy).mono ?_
            rw [hM.out]
            rintro e w7 ⟨rfl, hq⟩
            replace hb := hide (upB hb.out (hq))
            clear hq
            go_wp2_with fail
            refine (groupsOf_impl (K : Int) ((K : Int) - 1) _ hwx (wf_i64 (by omega))).mono ?_
            rw [hL.out]
            rintro e w8 ⟨rfl, hq⟩
            replace hb := hide (upB hb.out (hq))
            clear hq
            go_wp2_with fail
            refine (alive_c _).mono ?_
            rintro e wz ⟨rfl, hq⟩
            go_wp2_with fail
            go_ret
            exact ⟨by first | rfl | simp, upB hb.out hq⟩
      · skip
        by_cases hm : M < 0
        · clear hd
          go_wp2_with fail
          refine (groupsOf_impl ((N : Int) + 1) (K : Int) _ (wf_i64 (by omega)) hwy).mono ?_
          rw [hM.out]
          rintro e w9 ⟨rfl, hq⟩
          replace hb := hide (upB hb.out (hq))
          clear hq
          go_wp2_with fail
          refine (groupsOf_impl (N : Int) ((K : Int) - 1) _ hwx (wf_i64 (by omega))).mono ?_
          rw [hL.out]
          rintro e w10 ⟨rfl, hq⟩
          replace hb := hide (upB hb.out (hq))
          clear hq
          go_wp2_with fail
          refine (alive_c _).mono ?_
          rintro e wz ⟨rfl, hq⟩
          go_wp2_with fail
          go_ret
          exact ⟨by first | rfl | simp, upB hb.out hq⟩
        · by_cases hl : L < 0
          · clear hd
            go_wp2_with fail
            refine (groupsOf_impl ((N : Int) + 1) (K : Int) _ (wf_i64 (by omega)) hwy).mono ?_
            rw [hM.out]
            rintro e w11 ⟨rfl, hq⟩
            replace hb := hide (upB hb.out (hq))
            clear hq
            go_wp2_with fail
            refine (groupsOf_impl (N : Int) ((K : Int) - 1) _ hwx (wf_i64 (by omega))).mono ?_
            rw [hL.out]
            rintro e w12 ⟨rfl, hq⟩
            replace hb := hide (upB hb.out (hq))
            clear hq
            go_wp2_with fail
            refine (alive_c _).mono ?_
            rintro e wz ⟨rfl, hq⟩
            go_wp2_with fail
            go_ret
            exact ⟨by first | rfl | simp, upB hb.out hq⟩
          · have he := (hd.resolve_left hm).resolve_left hl
            clear hd
            subst he
            go_wp2_with fail
            refine (groupsOf_impl ((N : Int) + 1) (K : Int) _ (wf_i64 (by omega)) hwy).mono ?_
            rw [hM.out]
            rintro e w13 ⟨rfl, hq⟩
            replace hb := hide (upB hb.out (hq))
            clear hq
            go_wp2_with fail
            refine (groupsOf_impl (N : Int) ((K : Int) - 1) _ hwx (wf_i64 (by omega))).mono ?_
            rw [hL.out]
            rintro e w14 ⟨rfl, hq⟩
            replace hb := hide (upB hb.out (hq))
            clear hq
            go_wp2_with fail
            refine (alive_c _).mono ?_
            rintro e wz ⟨rfl, hq⟩
            go_wp2_with fail
            go_ret
            exact ⟨by first | rfl | simp, upB hb.out hq⟩
    · have hok : groupsOk x y = false := by simpa using hok
      rw [groupsW_out hok]
      clear hok
      go_wp2_with fail
      refine (alive_c _).mono ?_
      rintro e wz ⟨rfl, hq⟩
      go_wp2_with fail
      go_ret
      exact ⟨by simp, upB hb.out hq⟩
end Go.Proofs.Ytfencbfjnifmjaa
