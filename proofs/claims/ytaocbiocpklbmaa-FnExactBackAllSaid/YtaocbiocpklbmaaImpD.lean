/-
  Contracts of chapter 2, the program's side: sumOverWords, WordsWith, CountWays (written by wip/gen_impd.py).
-/
import Derived.Test.YtaocbiocpklbmaaImpC
namespace Go.Proofs.Ytaocbiocpklbmaa
open Go.RowKit

set_option maxHeartbeats 800000 in
theorem equal_c (A A' : Option Addr) (n c B n' c' B' : Nat) (zs zs' : List Int) (w : World) (h : Ints w B A n c zs) (h' : Ints w B' A' n' c' zs') :
    Calls Try.prog 64 #[.slice A n c, .slice A' n' c'] w fun e w' => e = .returned (.bool (sameL zs zs')) ∧ ∃ q, w' = w.drewN q := by
  have hl := hide h.len
  have hl' := hide h'.len
  have hn := h.nb
  have hn' := h'.nb
  by_cases hnn : n = n'
  · subst hnn
    go_enter Try.func64, Try.ntmps64
    go_wp2
    go_loopw [13] (fun i wr => ∃ k q : Nat, k ≤ n ∧ i = .int .i64 k ∧ wr = w.drewN q ∧ Hid (∀ j, j < k → zs[j]? = zs'[j]?)) (fun i _ => n - (intOf i).toNat)
    case atStart => exact ⟨0, 0, Nat.zero_le _, rfl, rfl, fun j hj => absurd hj (by omega)⟩
    case round =>
      obtain ⟨k, q, hk, rfl, rfl, hall⟩ := hrel
      by_cases hlt : k < n
      · obtain ⟨b, off, x, rfl, hb, hx, hcell⟩ := h.look hlt
        obtain ⟨b', off', x', rfl, hb', hx', hcell'⟩ := h'.look hlt
        by_cases hxx : x = x'
        · have hd : (x != x') = false := by simpa using hxx
          go_wp2
          go_quiet (fail)
          go_wp2
          go_roundw
          case rel => exact ⟨k + 1, _, by omega, by go_num, rfl, fun j hj => by
            rcases Nat.lt_or_ge j k with hjk | hjk
            · exact hall.out j hjk
            · obtain rfl : j = k := by omega
              rw [hx.out, hx'.out, hxx]⟩
          case measure => simp [intOf]; omega
        · have hd : (x != x') = true := by simpa using hxx
          go_wp2
          go_quiet (fail)
          go_wp2
          go_ret
          exact ⟨ret_bool (sameL_bad hx.out hx'.out hxx).symm, _, World.drewN_drewN _ _ _⟩
      · go_wp2
        go_ret
        exact ⟨ret_bool (sameL_good (hl.out.trans hl'.out.symm) (fun j hj => hall.out j (by have := hl.out; omega))).symm, _, rfl⟩
  · have hne : ((n : Int) != (n' : Int)) = true := by simp; omega
    have hy := hide (sameL_len (xs := zs) (ys := zs') (by have := hl.out; have := hl'.out; omega))
    clear hnn
    go_enter Try.func64, Try.ntmps64
    go_wp2
    go_ret
    exact ⟨ret_bool hy.out.symm, 0, rfl⟩

theorem digs_word {C m q : Nat} (h1 : 1 ≤ C) (h3 : C ≤ 3) (h6 : m ≤ 6) : wordOk (C : Int) (digs C m q) = true :=
  wordOk_mk (by omega) (by omega) (by rw [digs_len]; exact h6) (fun j x _ hx => digs_mem (by omega) m q x (List.mem_of_getElem? hx))
theorem countsOf_digs {C m q : Nat} (h1 : 1 ≤ C) (h3 : C ≤ 3) (h6 : m ≤ 6) : countsOf (C : Int) (digs C m q) = cntL C (digs C m q) := by
  unfold countsOf; rw [if_pos (digs_word h1 h3 h6)]; rfl

theorem ways_le (zs ws : List Int) (h : ∀ z ∈ zs, z ≤ 40) : ways zs ws ≤ 40 ^ ws.length := by
  induction ws generalizing zs with
  | nil => simp [ways]
  | cons x r ih =>
    have hb : ballsAt zs x ≤ 40 := by
      unfold ballsAt
      rcases Nat.lt_or_ge x.toNat zs.length with hk | hk
      · rw [List.getElem?_eq_getElem hk]; exact h _ (List.getElem_mem hk)
      · rw [List.getElem?_eq_none hk]; decide
    have h2 := ih (zs.set x.toNat (ballsAt zs x - 1)) (fun z hz => by
      rcases List.mem_or_eq_of_mem_set hz with h3 | h3
      · exact h z h3
      · omega)
    simp only [ways, List.length_cons]
    rw [Int.pow_succ, Int.mul_comm (40 ^ r.length)]
    exact Int.mul_le_mul (by omega) h2 (ways_nonneg _ _) (by omega)
theorem one_c (v : Value) (w : World) : Calls Try.prog 52 #[v] w fun e w' => e = .returned (.int .i64 1) ∧ Below w.heap.size w w' := by
  go_enter Try.func52, Try.ntmps52
  go_wp2
  go_ret
  exact ⟨rfl, Below.refl _ _⟩
theorem told_c (A A' : Option Addr) (n c B n' c' B' g : Nat) (zs ws : List Int) (w : World) (h : Ints w B A n c zs) (h' : Ints w B' A' n' c' ws) (hB : B ≤ w.heap.size) (hB' : B' ≤ w.heap.size) (hg : w.cell? ⟨g, 0, none⟩ = some (.slice A n c)) :
    Calls Try.prog 53 #[.slice A' n' c', .pointer (some ⟨g, 0, none⟩)] w fun e w' => e = .returned (.int .i64 (wordWays zs ws)) ∧ Below w.heap.size w w' := by
  have HW := hide (wordWays_impl _ _ _ _ _ _ _ _ _ _ w h h' hB hB')
  go_enter Try.func53, Try.ntmps53
  go_wp2_with fail
  refine HW.out.mono ?_
  rintro e w1 ⟨rfl, hb⟩
  go_wp2_with fail
  go_ret
  exact ⟨rfl, hb⟩

set_option maxHeartbeats 1600000 in
theorem sumWords_ww (A : Option Addr) (n c B : Nat) (cs : List Int) (w : World) (h : Ints w B A n c cs) (hB : B ≤ w.heap.size) (hok : countRowOk (n : Int) cs = true) :
    Calls Try.prog 51 #[.slice A n c, .func (.func 52) #[] #[]] w fun e w' => e = .returned (.int .i64 (mult cs)) ∧ Below w.heap.size w w' := by
  have hl := hide h.len
  obtain ⟨k1, k2, k3, k4, k5⟩ := countRowOk_yes hok
  have HT := hide (sumOf_c _ _ _ _ _ w h (countRowOk_urn hok))
  obtain ⟨m, hm⟩ : ∃ m : Nat, Hid (isum cs = (m : Int)) := ⟨(isum cs).toNat, hide (by have := (urnOk_sum (countRowOk_urn hok)).1; omega)⟩
  rw [hm.out] at HT k5
  have hm6 : m ≤ 6 := by omega
  have hp729 := hide (pow_le_729 n m (by omega) (by omega) hm6)
  have HP := hide (fun w => powerOf_impl n m w (by omega) (by omega) hm6)
  obtain ⟨P, hP⟩ : ∃ P : Nat, Hid (n ^ m = P) := ⟨_, rfl⟩
  rw [hP.out] at hp729 HP
  obtain ⟨hP1, hP2⟩ := hp729.out
  obtain ⟨i0, hi, hz0, hz1, hz2⟩ := info_parts infoInt
  have hn1 : 1 ≤ n := by omega
  have hn3 : n ≤ 3 := by omega
  have hok := hide hok
  clear k1 k2 k3 k4 k5
  go_enter Try.func51, Try.ntmps51
  go_wp2_with (first | (go_at_call 57; refine (HT.out).mono ?_; rintro e w' ⟨rfl, rfl⟩) | (go_at_call 42; refine (HP.out _).mono ?_; rintro e w' ⟨rfl, rfl⟩) | (at_make; refine wpList_make_full _ rfl _ _ 23 rfl w.heap.size 3 i0 (.int .i64 0) 1 Try.underlying23 hi hz0 hz1 .i64 .i64 _ _ m rfl rfl rfl rfl (by rw [hz2]; omega) (by unfold maxLen; omega) (Nat.le_refl _) ?_; intro w1 hown0 hgrow0; have hgrow0 := hide hgrow0; have hown0 := hide hown0))
  have hb0 := hide (show Below w.heap.size w w1 from (Below.refl _ _).grown hgrow0.out (Nat.le_refl _) (fun k hk => by cases hk))
  have ho0 := hide (show Own w1 w.heap.size (.slice (some ⟨w.heap.size, 0, none⟩) m m) (List.replicate m 0) from ⟨by
    have e1 : (madeCells (Value.int .i64 0).cells (m * 1)).toList = (List.replicate m (0 : Int)).map (Value.int .i64) := by
      simp [Value.cells, toList_madeCells_one]
    rw [List.length_replicate, ← e1]; exact hown0.out, fun z hz => by
      have := List.eq_of_mem_replicate hz
      subst this; decide⟩)
  clear hown0 hgrow0
  obtain ⟨F, hF⟩ : ∃ F : Nat → Int, Hid (F = fun q => if cntL n (digs n m q) = cs then 1 else 0) := ⟨_, rfl⟩
  have HS := hide (show nsum P F = mult cs by
    rw [hF.out, ← hP.out, nsum_digs hn1 m (fun ws => if cntL n ws = cs then 1 else 0)]
    exact wsum_count m cs hok.out hm.out)
  have HB := hide (fun k => nsum_bounds (n := k) (f := F) (M := 1) (fun q _ => by rw [hF.out]; dsimp only; split; (· exact ⟨by decide, by decide⟩); (· decide)))
  go_loopw [8, 19] (fun t i wr => ∃ k : Nat, ∃ L : List Int, k ≤ P ∧ i = .int .i64 k ∧ t = .int .i64 (nsum k F) ∧ Hid (Own wr w.heap.size (.slice (some ⟨w.heap.size, 0, none⟩) m m) L) ∧ Hid (Below w.heap.size w wr)) (fun _ i _ => P - (intOf i).toNat)
  case atStart => exact ⟨0, _, Nat.zero_le _, rfl, rfl, ho0, hb0⟩
  case round =>
    clear ho0 hb0
    obtain ⟨k, L, hk, rfl, rfl, ho, hb⟩ := hrel
    obtain ⟨s0, s1⟩ := HB.out k
    have hst := hide (show nsum (k + 1) F = nsum k F + F k from rfl)
    obtain ⟨S, hS⟩ : ∃ S, Hid (nsum k F = S) := ⟨_, rfl⟩
    rw [hS.out] at s0 s1 hst ⊢
    by_cases hlt : k < P
    · go_wp2_with fail
      refine (write_c _ _ _ _ n k L w wr ho.out hb.out hn1 hn3 hm6 (by omega)).mono ?_
      rintro e w2 ⟨rfl, ho2, hb2⟩
      have ho2 := hide ho2
      have hb2 := hide hb2
      clear ho hb
      go_wp2_with fail
      refine (countsOf_impl (n : Int) _ _ _ _ _ w2 ho2.out.ints (Nat.le_refl _)).mono ?_
      rw [countsOf_digs hn1 hn3 hm6]
      rintro e w3 ⟨A3, n3, c3, rfl, ho3, hb3⟩
      have ho4 := hide (ho2.out.below hb3 (Nat.le_refl _))
      have hb4 := hide (hb2.out.trans (hb3.mono hb2.out.size))
      have ho3 := hide ho3
      have hcs := hide (h.below (hb4.out.mono hB))
      clear ho2 hb2 hb3
      go_wp2_with fail
      refine (equal_c _ _ _ _ _ _ _ _ _ _ w3 ho3.out.ints hcs.out).mono ?_
      by_cases hy : cntL n (digs n m k) = cs
      · rw [show sameL (cntL n (digs n m k)) cs = true from decide_eq_true hy]
        rintro e w5 ⟨rfl, q5, rfl⟩
        have ho5 := hide (ho4.out.drewN q5)
        have hb5 := hide (below_drewN hb4.out q5)
        clear ho4 hb4 hcs ho3
        have hFk := hide (show F k = 1 by rw [hF.out]; exact if_pos hy)
        rw [hFk.out] at hst
        have hsn := HB.out (k + 1)
        rw [hst.out] at hsn
        go_wp2_with fail
        refine (one_c _ _).mono ?_
        rintro e w6 ⟨rfl, hb6⟩
        have ho7 := hide (ho5.out.below hb6 (Nat.le_refl _))
        have hb7 := hide (hb5.out.trans (hb6.mono hb5.out.size))
        clear ho5 hb5 hb6
        obtain ⟨sn1, sn2⟩ := hsn
        go_wp2_with fail
        go_roundw
        case rel => exact ⟨k + 1, _, by omega, by go_num, by rw [hst.out], ho7, hb7⟩
        case measure => simp [intOf]; omega
      · rw [show sameL (cntL n (digs n m k)) cs = false from decide_eq_false hy]
        rintro e w5 ⟨rfl, q5, rfl⟩
        have hFk := hide (show F k = 0 by rw [hF.out]; exact if_neg hy)
        rw [hFk.out, Int.add_zero] at hst
        go_wp2_with fail
        go_roundw
        case rel => exact ⟨k + 1, _, by omega, by go_num, by rw [hst.out], hide (ho4.out.drewN _), hide (below_drewN hb4.out _)⟩
        case measure => simp [intOf]; omega
    · obtain rfl : k = P := by omega
      go_wp2
      go_ret
      exact ⟨ret_int (by rw [← HS.out, hS.out]), hb.out⟩

set_option maxHeartbeats 1600000 in
theorem sumWords_cw (A : Option Addr) (n c B : Nat) (cs : List Int) (w : World) (h : Ints w B A n c cs) (hB : B ≤ w.heap.size) (hok : countRowOk (n : Int) cs = true) (A₀ : Option Addr) (c₀ B₀ g : Nat) (zs : List Int) (hz : Ints w B₀ A₀ n c₀ zs) (hB₀ : B₀ ≤ w.heap.size) (hu : urnOk zs = true) (hg : w.cell? ⟨g, 0, none⟩ = some (.slice A₀ n c₀)) (hgs : g < w.heap.size) :
    Calls Try.prog 51 #[.slice A n c, .func (.func 53) #[] #[.pointer (some ⟨g, 0, none⟩)]] w fun e w' => e = .returned (.int .i64 (mult cs * prodC zs cs)) ∧ Below w.heap.size w w' := by
  have hl := hide h.len
  obtain ⟨k1, k2, k3, k4, k5⟩ := countRowOk_yes hok
  have HT := hide (sumOf_c _ _ _ _ _ w h (countRowOk_urn hok))
  obtain ⟨m, hm⟩ : ∃ m : Nat, Hid (isum cs = (m : Int)) := ⟨(isum cs).toNat, hide (by have := (urnOk_sum (countRowOk_urn hok)).1; omega)⟩
  rw [hm.out] at HT k5
  have hm6 : m ≤ 6 := by omega
  have hp729 := hide (pow_le_729 n m (by omega) (by omega) hm6)
  have HP := hide (fun w => powerOf_impl n m w (by omega) (by omega) hm6)
  obtain ⟨P, hP⟩ : ∃ P : Nat, Hid (n ^ m = P) := ⟨_, rfl⟩
  rw [hP.out] at hp729 HP
  obtain ⟨hP1, hP2⟩ := hp729.out
  obtain ⟨i0, hi, hz0, hz1, hz2⟩ := info_parts infoInt
  have hn1 : 1 ≤ n := by omega
  have hn3 : n ≤ 3 := by omega
  have hok := hide hok
  have hzl := hide hz.len
  have hum := hide (urnOk_mem hu)
  have hWW := hide (fun q => show wordWays zs (digs n m q) = ways zs (digs n m q) by unfold wordWays; rw [hu, hzl.out, digs_word hn1 hn3 hm6]; rfl)
  have hWL := hide (fun q => show 0 ≤ ways zs (digs n m q) ∧ ways zs (digs n m q) ≤ 4096000000 from ⟨ways_nonneg _ _, by have h1 := ways_le zs (digs n m q) (fun z hz => (hum.out z hz).2); rw [digs_len] at h1; exact Int.le_trans h1 (pow40_6 m hm6)⟩)
  clear hu
  clear k1 k2 k3 k4 k5
  go_enter Try.func51, Try.ntmps51
  go_wp2_with (first | (go_at_call 57; refine (HT.out).mono ?_; rintro e w' ⟨rfl, rfl⟩) | (go_at_call 42; refine (HP.out _).mono ?_; rintro e w' ⟨rfl, rfl⟩) | (at_make; refine wpList_make_full _ rfl _ _ 23 rfl w.heap.size 3 i0 (.int .i64 0) 1 Try.underlying23 hi hz0 hz1 .i64 .i64 _ _ m rfl rfl rfl rfl (by rw [hz2]; omega) (by unfold maxLen; omega) (Nat.le_refl _) ?_; intro w1 hown0 hgrow0; have hgrow0 := hide hgrow0; have hown0 := hide hown0))
  have hb0 := hide (show Below w.heap.size w w1 from (Below.refl _ _).grown hgrow0.out (Nat.le_refl _) (fun k hk => by cases hk))
  have ho0 := hide (show Own w1 w.heap.size (.slice (some ⟨w.heap.size, 0, none⟩) m m) (List.replicate m 0) from ⟨by
    have e1 : (madeCells (Value.int .i64 0).cells (m * 1)).toList = (List.replicate m (0 : Int)).map (Value.int .i64) := by
      simp [Value.cells, toList_madeCells_one]
    rw [List.length_replicate, ← e1]; exact hown0.out, fun z hz => by
      have := List.eq_of_mem_replicate hz
      subst this; decide⟩)
  clear hown0 hgrow0
  obtain ⟨F, hF⟩ : ∃ F : Nat → Int, Hid (F = fun q => if cntL n (digs n m q) = cs then ways zs (digs n m q) else 0) := ⟨_, rfl⟩
  have HS := hide (show nsum P F = mult cs * prodC zs cs by
    rw [hF.out, ← hP.out, nsum_digs hn1 m (fun ws => if cntL n ws = cs then ways zs ws else 0)]
    exact wsum_countWays m hzl.out hok.out hm.out)
  have HB := hide (fun k => nsum_bounds (n := k) (f := F) (M := 4096000000) (fun q _ => by rw [hF.out]; dsimp only; split; (· exact hWL.out q); (· decide)))
  go_loopw [8, 19] (fun t i wr => ∃ k : Nat, ∃ L : List Int, k ≤ P ∧ i = .int .i64 k ∧ t = .int .i64 (nsum k F) ∧ Hid (Own wr w.heap.size (.slice (some ⟨w.heap.size, 0, none⟩) m m) L) ∧ Hid (Below w.heap.size w wr)) (fun _ i _ => P - (intOf i).toNat)
  case atStart => exact ⟨0, _, Nat.zero_le _, rfl, rfl, ho0, hb0⟩
  case round =>
    clear ho0 hb0
    obtain ⟨k, L, hk, rfl, rfl, ho, hb⟩ := hrel
    obtain ⟨s0, s1⟩ := HB.out k
    have hst := hide (show nsum (k + 1) F = nsum k F + F k from rfl)
    obtain ⟨S, hS⟩ : ∃ S, Hid (nsum k F = S) := ⟨_, rfl⟩
    rw [hS.out] at s0 s1 hst ⊢
    by_cases hlt : k < P
    · go_wp2_with fail
      refine (write_c _ _ _ _ n k L w wr ho.out hb.out hn1 hn3 hm6 (by omega)).mono ?_
      rintro e w2 ⟨rfl, ho2, hb2⟩
      have ho2 := hide ho2
      have hb2 := hide hb2
      clear ho hb
      go_wp2_with fail
      refine (countsOf_impl (n : Int) _ _ _ _ _ w2 ho2.out.ints (Nat.le_refl _)).mono ?_
      rw [countsOf_digs hn1 hn3 hm6]
      rintro e w3 ⟨A3, n3, c3, rfl, ho3, hb3⟩
      have ho4 := hide (ho2.out.below hb3 (Nat.le_refl _))
      have hb4 := hide (hb2.out.trans (hb3.mono hb2.out.size))
      have ho3 := hide ho3
      have hcs := hide (h.below (hb4.out.mono hB))
      clear ho2 hb2 hb3
      go_wp2_with fail
      refine (equal_c _ _ _ _ _ _ _ _ _ _ w3 ho3.out.ints hcs.out).mono ?_
      by_cases hy : cntL n (digs n m k) = cs
      · rw [show sameL (cntL n (digs n m k)) cs = true from decide_eq_true hy]
        rintro e w5 ⟨rfl, q5, rfl⟩
        have ho5 := hide (ho4.out.drewN q5)
        have hb5 := hide (below_drewN hb4.out q5)
        clear ho4 hb4 hcs ho3
        have hFk := hide (show F k = ways zs (digs n m k) by rw [hF.out]; exact if_pos hy)
        rw [hFk.out] at hst
        have hsn := HB.out (k + 1)
        rw [hst.out] at hsn
        go_wp2_with fail
        refine (told_c _ _ _ _ _ _ _ _ g zs _ _ (hz.below (hb5.out.mono hB₀)) ho5.out.ints (Nat.le_trans hB₀ hb5.out.size) (Nat.le_refl _) ((hb5.out.cell hgs).trans hg)).mono ?_
        rw [hWW.out]
        rintro e w6 ⟨rfl, hb6⟩
        have ho7 := hide (ho5.out.below hb6 (Nat.le_refl _))
        have hb7 := hide (hb5.out.trans (hb6.mono hb5.out.size))
        clear ho5 hb5 hb6
        obtain ⟨V, hV⟩ : ∃ V, Hid (ways zs (digs n m k) = V) := ⟨_, rfl⟩
        rw [hV.out] at hst hsn ⊢
        obtain ⟨sn1, sn2⟩ := hsn
        go_wp2_with fail
        go_roundw
        case rel => exact ⟨k + 1, _, by omega, by go_num, by rw [hst.out], ho7, hb7⟩
        case measure => simp [intOf]; omega
      · rw [show sameL (cntL n (digs n m k)) cs = false from decide_eq_false hy]
        rintro e w5 ⟨rfl, q5, rfl⟩
        have hFk := hide (show F k = 0 by rw [hF.out]; exact if_neg hy)
        rw [hFk.out, Int.add_zero] at hst
        go_wp2_with fail
        go_roundw
        case rel => exact ⟨k + 1, _, by omega, by go_num, by rw [hst.out], hide (ho4.out.drewN _), hide (below_drewN hb4.out _)⟩
        case measure => simp [intOf]; omega
    · obtain rfl : k = P := by omega
      go_wp2
      go_ret
      exact ⟨ret_int (by rw [← HS.out, hS.out]), hb.out⟩

theorem wordsWith_impl (cl : Int) (A : Option Addr) (n c B : Nat) (cs : List Int) (w : World) (h : Ints w B A n c cs) (hB : B ≤ w.heap.size) :
    Calls Try.prog 25 #[.int .i64 cl, .slice A n c] w fun e w' => e = .returned (.int .i64 (wordsWith cl cs)) ∧ Below w.heap.size w w' := by
  have HR := hide (countRowOk_impl0 cl _ _ _ _ _ w h)
  by_cases hok : countRowOk cl cs = true
  · have he := hide (show wordsWith cl cs = mult cs by unfold wordsWith; rw [if_pos hok])
    have hnc : (n : Int) = cl := by have := (countRowOk_yes hok).2.2.1; have := h.len; omega
    have HS := hide (sumWords_ww _ _ _ _ _ w h hB (by rw [hnc]; exact hok))
    rw [hok] at HR
    clear hok hnc
    go_enter Try.func25, Try.ntmps25
    go_wp2_with (go_at_call 48; refine (HR.out).mono ?_; rintro e w' ⟨rfl, rfl⟩)
    refine HS.out.mono ?_
    rintro e w1 ⟨rfl, hb⟩
    go_wp2_with fail
    go_ret
    exact ⟨ret_int he.out.symm, hb⟩
  · have hok : countRowOk cl cs = false := by simpa using hok
    have he := hide (show wordsWith cl cs = -1 by unfold wordsWith; rw [hok]; rfl)
    rw [hok] at HR
    clear hok
    go_enter Try.func25, Try.ntmps25
    go_wp2_with (go_at_call 48; refine (HR.out).mono ?_; rintro e w' ⟨rfl, rfl⟩)
    go_ret
    exact ⟨ret_int he.out.symm, Below.refl _ _⟩

set_option maxHeartbeats 800000 in
theorem countWays_impl (A A' : Option Addr) (n c B n' c' B' : Nat) (zs cs : List Int) (w : World) (h : Ints w B A n c zs) (h' : Ints w B' A' n' c' cs) (hB : B ≤ w.heap.size) (hB' : B' ≤ w.heap.size) :
    Calls Try.prog 26 #[.slice A n c, .slice A' n' c'] w fun e w' => e = .returned (.int .i64 (countWays zs cs)) ∧ Below w.heap.size w w' := by
  have hl := hide h.len
  have hl' := hide h'.len
  have HI := hide (fun o => urnOk_impl _ _ _ _ _ (w.alloc o) (h.alloc hB o))
  have HR := hide (fun o => countRowOk_impl0 (n : Int) _ _ _ _ _ (w.alloc o) (h'.alloc hB' o))
  by_cases hok : urnOk zs = true
  · by_cases hrk : countRowOk (n : Int) cs = true
    · have hnn : n' = n := by have := (countRowOk_yes hrk).2.2.1; have := hl'.out; omega
      have hnn := hnn.symm
      subst hnn
      have he := hide (show countWays zs cs = mult cs * prodC zs cs by unfold countWays; rw [hok, hl.out, hrk]; rfl)
      have HS := hide (sumWords_cw A' n c' w.heap.size cs (w.alloc (.cells #[.slice A n c] 23)) ((h'.alloc hB' _).more hB') (by simp) hrk A c w.heap.size w.heap.size zs ((h.alloc hB _).more hB) (by simp) hok (by simp) (by simp))
      rw [hok] at HI
      rw [hrk] at HR
      clear hok hrk
      go_enter Try.func26, Try.ntmps26
      go_wp2_with (first | (go_at_call 30; refine (HI.out _).mono ?_; rintro e w' ⟨rfl, rfl⟩) | (go_at_call 48; refine (HR.out _).mono ?_; rintro e w' ⟨rfl, rfl⟩))
      refine HS.out.mono ?_
      rintro e w1 ⟨rfl, hb⟩
      go_wp2_with fail
      go_ret
      exact ⟨ret_int he.out.symm, (below_empty (Below.refl _ _) _).trans (hb.mono (below_empty (Below.refl _ _) _).size)⟩
    · have hrk : countRowOk (n : Int) cs = false := by simpa using hrk
      have he := hide (show countWays zs cs = -1 by unfold countWays; rw [hl.out, hrk, Bool.and_false]; rfl)
      rw [hok] at HI
      rw [hrk] at HR
      clear hok hrk
      go_enter Try.func26, Try.ntmps26
      go_wp2_with (first | (go_at_call 30; refine (HI.out _).mono ?_; rintro e w' ⟨rfl, rfl⟩) | (go_at_call 48; refine (HR.out _).mono ?_; rintro e w' ⟨rfl, rfl⟩))
      go_ret
      exact ⟨ret_int he.out.symm, below_empty (Below.refl _ _) _⟩
  · have hok : urnOk zs = false := by simpa using hok
    rw [hok] at HI
    have he := hide (show countWays zs cs = -1 by unfold countWays; rw [hok]; rfl)
    clear hok
    go_enter Try.func26, Try.ntmps26
    go_wp2_with (first | (go_at_call 30; refine (HI.out _).mono ?_; rintro e w' ⟨rfl, rfl⟩))
    go_ret
    exact ⟨ret_int he.out.symm, below_empty (Below.refl _ _) _⟩

theorem wordOk_impl (cl : Int) (A : Option Addr) (n c B : Nat) (ws : List Int) (w : World) (h : Ints w B A n c ws) (_hB : B ≤ w.heap.size) :
    Calls Try.prog 36 #[.int .i64 cl, .slice A n c] w fun e w' => e = .returned (.bool (wordOk cl ws)) ∧ Below w.heap.size w w' := sameB (wordOk_impl0 cl A n c B ws w h)
theorem allWays_impl (A : Option Addr) (n c B : Nat) (zs : List Int) (m : Int) (w : World) (h : Ints w B A n c zs) (_hB : B ≤ w.heap.size) :
    Calls Try.prog 21 #[.slice A n c, .int .i64 m] w fun e w' => e = .returned (.int .i64 (allWays zs m)) ∧ Below w.heap.size w w' := sameB (allWays_impl0 A n c B zs m w h)
theorem countRowOk_impl (cl : Int) (A : Option Addr) (n c B : Nat) (cs : List Int) (w : World) (h : Ints w B A n c cs) (_hB : B ≤ w.heap.size) :
    Calls Try.prog 48 #[.int .i64 cl, .slice A n c] w fun e w' => e = .returned (.bool (countRowOk cl cs)) ∧ Below w.heap.size w w' := sameB (countRowOk_impl0 cl A n c B cs w h)
end Go.Proofs.Ytaocbiocpklbmaa
