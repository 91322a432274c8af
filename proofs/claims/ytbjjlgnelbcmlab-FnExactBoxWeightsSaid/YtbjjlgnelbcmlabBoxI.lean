/-
  Contracts of chapter 6, the program's side: BoxOk, BoxWeights, BoxSum, NextChance, LikeliestBox, BoxMean.
-/
import Derived.Test.YtbjjlgnelbcmlabZbox
import Derived.Test.YtbjjlgnelbcmlabRuleA
namespace Go.Proofs.Ytbjjlgnelbcmlab
open Go.RowKit

set_option maxHeartbeats 1600000 in
theorem boxOk_impl0 (m f s : Int) (w : World) :
    Calls Try.prog 22 #[.int .i64 m, .int .i64 f, .int .i64 s] w fun e w' => e = .returned (.bool (boxOk m f s)) ∧ w = w' := by
  by_cases hm1 : 1 ≤ m
  · by_cases hm8 : m ≤ 8
    · by_cases hf0 : 0 ≤ f
      · by_cases hfm : f ≤ m
        · by_cases hs0 : 0 ≤ s
          · by_cases hsm : s ≤ m - f
            · have he := hide (boxOk_all (m := m) (f := f) (s := s) ⟨hm1, hm8⟩ ⟨hf0, hfm⟩ ⟨hs0, by omega⟩ (by omega))
              go_enter Try.func22, Try.ntmps22
              go_wp2
              go_ret
              exact ⟨ret_bool (by rw [he.out]), rfl⟩
            · have he := hide (boxOk_no (m := m) (f := f) (s := s) (.inr (.inr (.inr (by omega)))))
              go_enter Try.func22, Try.ntmps22
              go_wp2
              go_ret
              exact ⟨ret_bool (by rw [he.out]), rfl⟩
          · have he := hide (boxOk_no (m := m) (f := f) (s := s) (.inr (.inr (.inl (by omega)))))
            go_enter Try.func22, Try.ntmps22
            go_wp2
            go_ret
            exact ⟨ret_bool (by rw [he.out]), rfl⟩
        · have he := hide (boxOk_no (m := m) (f := f) (s := s) (.inr (.inl (by omega))))
          go_enter Try.func22, Try.ntmps22
          go_wp2
          go_ret
          exact ⟨ret_bool (by rw [he.out]), rfl⟩
      · have he := hide (boxOk_no (m := m) (f := f) (s := s) (.inr (.inl (by omega))))
        go_enter Try.func22, Try.ntmps22
        go_wp2
        go_ret
        exact ⟨ret_bool (by rw [he.out]), rfl⟩
    · have he := hide (boxOk_no (m := m) (f := f) (s := s) (.inl (by omega)))
      go_enter Try.func22, Try.ntmps22
      go_wp2
      go_ret
      exact ⟨ret_bool (by rw [he.out]), rfl⟩
  · have he := hide (boxOk_no (m := m) (f := f) (s := s) (.inl (by omega)))
    go_enter Try.func22, Try.ntmps22
    go_wp2
    go_ret
    exact ⟨ret_bool (by rw [he.out]), rfl⟩
theorem boxOk_impl (m f s : Int) (w : World) (_wf0 : (Lit.int .i64 m).wf = true) (_wf1 : (Lit.int .i64 f).wf = true) (_wf2 : (Lit.int .i64 s).wf = true) :
    Calls Try.prog 22 #[.int .i64 m, .int .i64 f, .int .i64 s] w fun e w' => e = .returned (.bool (boxOk m f s)) ∧ Below w.heap.size w w' := sameB (boxOk_impl0 m f s w)

/-- steppedProduct with any row of products on the way. -/
theorem stepK_c (z s : Int) (m : Nat) (K : Nat → Int) (w : World) (h0 : -1000 ≤ z) (h1 : z ≤ 1000) (hm : m ≤ 20) (s0 : -1 ≤ s) (s1 : s ≤ 3) (hK0 : K 0 = 1) (hK : ∀ k : Nat, k < m → K k * (z + (k : Int) * s) = K (k + 1)) (hB : ∀ k, k ≤ m → -1000000000000000 ≤ K k ∧ K k ≤ 1000000000000000) :
    Calls Try.prog 23 #[.int .i64 z, .int .i64 m, .int .i64 s] w fun e w' => e = .returned (.int .i64 (K m)) ∧ w = w' := by
  have HK := hide hK
  have HB := hide hB
  have HM := hide (fun (k : Nat) (hk : k ≤ 20) => show -20 ≤ (k : Int) * s ∧ (k : Int) * s ≤ 80 from by
    have a := mul_bound (a := (k : Int)) (M := 20) (by omega) (by omega) (b := s + 1) (N := 4) (by omega) (by omega)
    rw [Int.mul_add] at a
    omega)
  have HK0 := hide hK0
  clear hK hB hK0
  go_enter Try.func23, Try.ntmps23
  go_wp2
  go_loop [7, 10] (fun t i => ∃ k : Nat, ∃ P : Int, k ≤ m ∧ i = .int .i64 k ∧ t = .int .i64 P ∧ Hid (P = K k)) (fun _ i => m - (intOf i).toNat)
  case atStart => exact ⟨0, 1, Nat.zero_le _, rfl, rfl, hide HK0.out.symm⟩
  case round =>
    obtain ⟨k, P, hk, rfl, rfl, hP⟩ := hrel
    by_cases hlt : k < m
    · obtain ⟨c0, c1⟩ := HB.out (k + 1) (by omega)
      obtain ⟨d0, d1⟩ := HM.out k (by omega)
      have hst := hide (HK.out k hlt)
      rw [← hP.out] at hst
      rw [← hst.out] at c0 c1
      go_wp2
      go_round
      case rel => exact ⟨k + 1, P * (z + (k : Int) * s), by omega, by go_num, rfl, hide hst.out⟩
      case measure => simp [intOf]; omega
    · obtain rfl : k = m := by omega
      go_wp2
      go_ret
      exact ⟨ret_int hP.out, rfl⟩

theorem fallN_big {n k : Nat} (h : n < k) : fallN n k = 0 := by
  cases k with
  | zero => omega
  | succ k => rw [fallN_snoc, show n - k = 0 by omega, Nat.mul_zero]
theorem fallN_next (n k : Nat) : (fallN n k : Int) * ((n : Int) + (k : Int) * -1) = (fallN n (k + 1) : Int) := by
  rcases Nat.lt_or_ge n k with h | h
  · rw [fallN_big h, fallN_big (show n < k + 1 by omega)]; simp
  · rw [fallN_snoc, Int.natCast_mul, Int.natCast_sub h, Int.mul_neg, Int.mul_one, Int.sub_eq_add_neg]
theorem stepB_c (z k : Nat) (w : World) (hz : z ≤ 8) (hk : k ≤ 8) :
    Calls Try.prog 23 #[.int .i64 (z : Int), .int .i64 (k : Int), .int .i64 (-1)] w fun e w' => e = .returned (.int .i64 (fallN z k : Int)) ∧ w = w' :=
  stepK_c (z : Int) (-1) k (fun j => (fallN z j : Int)) w (by omega) (by omega) (by omega) (by decide) (by decide) (by simp [fallN]) (fun j _ => fallN_next z j) (fun j hj => by
    have := fallN_bound hz (show j ≤ 8 by omega)
    omega)

/-- sumOf of any row whose sums on the way are small. -/
theorem sumOfK_c (A : Option Addr) (n c B : Nat) (zs : List Int) (w : World) (h : Ints w B A n c zs) (hb : ∀ k, -1000000000000000 ≤ isum (zs.take k) ∧ isum (zs.take k) ≤ 1000000000000000) (he : ∀ x ∈ zs, -1000000000000000 ≤ x ∧ x ≤ 1000000000000000) :
    Calls Try.prog 25 #[.slice A n c] w fun e w' => e = .returned (.int .i64 (isum zs)) ∧ w = w' := by
  have hl := hide h.len
  have hn := h.nb
  have HT := hide hb
  have HZ := hide (fun (k : Nat) x (hx : zs[k]? = some x) => he x (List.mem_of_getElem? hx))
  clear hb he
  go_enter Try.func25, Try.ntmps25
  go_wp2
  go_loop [3, 8] (fun t i => ∃ k : Nat, k ≤ n ∧ i = .int .i64 k ∧ t = .int .i64 (isum (zs.take k))) (fun _ i => n - (intOf i).toNat)
  case atStart => exact ⟨0, Nat.zero_le _, rfl, rfl⟩
  case round =>
    obtain ⟨k, hk, rfl, rfl⟩ := hrel
    obtain ⟨hs1, hs2⟩ := HT.out k
    by_cases hlt : k < n
    · obtain ⟨b, off, x, rfl, hb, hx, hcell⟩ := h.look hlt
      obtain ⟨hx1, hx2⟩ := HZ.out k x hx.out
      have hst := hide (isum_take_succ hx.out)
      go_wp2
      go_round
      case rel => exact ⟨k + 1, by omega, by go_num, by rw [hst.out]⟩
      case measure => simp [intOf]; omega
    · go_wp2
      go_ret
      exact ⟨ret_int (by rw [List.take_of_length_le (by have := hl.out; omega)]), rfl⟩

theorem boxTotalI_c {M F S : Nat} (h1 : 1 ≤ M) (h8 : M ≤ 8) (hs : F + S ≤ M) (A : Option Addr) (n c B : Nat) (w : World) (h : Ints w B A n c (boxL M F S)) :
    Calls Try.prog 25 #[.slice A n c] w fun e w' => e = .returned (.int .i64 (boxT M F S (M + 1) : Int)) ∧ w = w' := by
  have := sumOfK_c A n c B _ w h (fun k => by have := boxL_part h1 h8 hs k; omega) (fun x hx => by
    obtain ⟨k, hk, rfl⟩ := List.getElem_of_mem hx
    have := boxL_elem h1 h8 hs (List.getElem?_eq_getElem hk)
    omega)
  rwa [boxL_sum] at this

set_option maxHeartbeats 1600000 in
theorem boxWeights_impl0 (m f s : Int) (w : World) :
    Calls Try.prog 9 #[.int .i64 m, .int .i64 f, .int .i64 s] w fun e w' => ∃ A n c, e = .returned (.slice A n c) ∧ Own w' w.heap.size (.slice A n c) (boxW m f s) ∧ Below w.heap.size w w' := by
  obtain ⟨i0, hi, hz0, hz1, hz2⟩ := info_parts infoInt
  have HO := hide (boxOk_impl0 m f s w)
  by_cases hok : boxOk m f s = true
  · have he := hide (show boxW m f s = boxL m.toNat f.toNat s.toNat by unfold boxW; rw [if_pos hok])
    rw [hok] at HO
    obtain ⟨M, F, S, rfl, rfl, rfl, h1, h8, hs⟩ := boxOk_yes hok
    clear hok
    rw [Int.toNat_natCast, Int.toNat_natCast, Int.toNat_natCast] at he
    rw [he.out]
    have hL := hide (boxL_len M F S)
    have HA := hide (fun (k : Nat) (h : k < M + 1) => boxL_at (M := M) (F := F) (S := S) h)
    clear he
    obtain ⟨N, hN⟩ : ∃ N : Nat, Hid (M + 1 = N) := ⟨_, hide rfl⟩
    rw [hN.out] at hL HA
    obtain ⟨hN1, hN9, hMN⟩ : 2 ≤ N ∧ N ≤ 9 ∧ (M : Int) + 1 = (N : Int) := by have := hN.out; omega
    go_enter Try.func9, Try.ntmps9
    go_wp2_with (first | (go_at_call 22; refine (HO.out).mono ?_; rintro e w' ⟨rfl, rfl⟩) | (at_make; refine wpList_make_full _ rfl _ _ 22 rfl w.heap.size 3 i0 (.int .i64 0) 1 Try.underlying22 hi hz0 hz1 .i64 .i64 _ _ N rfl rfl rfl rfl (by rw [hz2]; omega) (by unfold maxLen; omega) (Nat.le_refl _) ?_; intro w1 hown0 hgrow0; have hgrow0 := hide hgrow0; have hown0 := hide hown0))
    have hb0 := hide (show Below w.heap.size w w1 from (Below.refl _ _).grown hgrow0.out (Nat.le_refl _) (fun k hk => by cases hk))
    have ho0 := hide (show Own w1 w.heap.size (.slice (some ⟨w.heap.size, 0, none⟩) N N) (List.replicate N 0) from ⟨by
      have e1 : (madeCells (Value.int .i64 0).cells (N * 1)).toList = (List.replicate N (0 : Int)).map (Value.int .i64) := by
        simp [Value.cells, toList_madeCells_one]
      rw [List.length_replicate, ← e1]; exact hown0.out, fun z hz => by
        have := List.eq_of_mem_replicate hz
        subst this; decide⟩)
    clear hown0 hgrow0
    go_loopw [19] (fun i wr => ∃ k : Nat, ∃ L : List Int, k ≤ N ∧ i = .int .i64 k ∧ Hid (Own wr w.heap.size (.slice (some ⟨w.heap.size, 0, none⟩) N N) L) ∧ Hid (Below w.heap.size w wr) ∧ Hid (∀ j, j < k → L[j]? = (boxL M F S)[j]?)) (fun i _ => N - (intOf i).toNat)
    case atStart => exact ⟨0, _, Nat.zero_le _, rfl, ho0, hb0, hide (fun j hj => absurd hj (by omega))⟩
    case round =>
      clear ho0 hb0
      obtain ⟨k, L, hk, rfl, ho, hb, hL2⟩ := hrel
      have hll := hide ho.out.len
      by_cases hlt : k < N
      · obtain ⟨y, hy⟩ : ∃ y, Hid (L[k]? = some y) := ⟨_, hide (List.getElem?_eq_getElem (by have := hll.out; omega))⟩
        obtain ⟨g, hA2, hg, hgl, hcy, hfy⟩ := ho.out.at2 hy.out
        injection hA2 with hA2
        injection hA2 with e1 _ _
        subst e1
        obtain ⟨j, hj⟩ : ∃ j : Nat, (M : Int) - (k : Int) = (j : Int) := ⟨M - k, by omega⟩
        have hjM : j = M - k := by omega
        have HA1 := hide (stepB_c k F wr (by omega) (by omega))
        have HA2 := hide (stepB_c j S wr (by omega) (by omega))
        have hb1 := fallN_bound (n := k) (k := F) (by omega) (by omega)
        have hb2 := fallN_bound (n := j) (k := S) (by omega) (by omega)
        have hbw := hide (show (fallN k F : Int) * (fallN j S : Int) = (bwN M F S k : Int) by rw [hjM]; unfold bwN; rw [Int.natCast_mul])
        obtain ⟨P, hP⟩ : ∃ P : Nat, Hid (fallN k F = P) := ⟨_, hide rfl⟩
        obtain ⟨Q, hQ⟩ : ∃ Q : Nat, Hid (fallN j S = Q) := ⟨_, hide rfl⟩
        rw [hP.out] at HA1 hb1 hbw
        rw [hQ.out] at HA2 hb2 hbw
        obtain ⟨p0, p1⟩ := mul_bound (a := (P : Int)) (M := 40320) (by omega) (by omega) (b := (Q : Int)) (N := 40320) (by omega) (by omega)
        have ho2 := hide (show Own (wr.setCell ⟨w.heap.size, k, none⟩ (.int .i64 ((P : Int) * (Q : Int)))) w.heap.size (.slice (some ⟨w.heap.size, 0, none⟩) N N) (L.set k ((P : Int) * (Q : Int))) from ho.out.set_ _ (wf_i64 (by omega)))
        have hb2 := hide (hb.out.setCell (p := ⟨w.heap.size, k, none⟩) hg (.int .i64 ((P : Int) * (Q : Int))))
        have hL2 := hide (show ∀ j, j < k + 1 → (L.set k ((P : Int) * (Q : Int)))[j]? = (boxL M F S)[j]? from fun j hj => by
          by_cases hjk : j = k
          · subst hjk
            rw [List.getElem?_set_self (by have := hll.out; omega), HA.out _ hlt, hbw.out]
          · rw [List.getElem?_set_ne (by omega)]; exact hL2.out j (by omega))
        clear hbw hy hll hjM
        go_wp2_with (first | (go_at_call 23; (with_reducible refine (HA1.out).mono ?_); rintro e w' ⟨rfl, rfl⟩) | (go_at_call 23; (with_reducible refine (HA2.out).mono ?_); rintro e w' ⟨rfl, rfl⟩))
        go_roundw
        case rel => exact ⟨k + 1, _, by omega, by go_num, ho2, hb2, hL2⟩
        case measure => simp [intOf]; omega
      · obtain rfl : k = N := by omega
        have hLe : L = boxL M F S := List.ext_getElem? fun j => by
          rcases Nat.lt_or_ge j k with hj | hj
          · exact hL2.out j hj
          · rw [List.getElem?_eq_none (by have := hll.out; omega), List.getElem?_eq_none (by have := hL.out; omega)]
        subst hLe
        go_wp2
        go_ret
        exact ⟨_, _, _, rfl, ho.out, hb.out⟩
  · have he := hide (show boxW m f s = [] by unfold boxW; rw [if_neg hok])
    have hok : boxOk m f s = false := by simpa using hok
    rw [hok] at HO
    rw [he.out]
    clear he hok
    go_enter Try.func9, Try.ntmps9
    go_wp2_with (go_at_call 22; refine (HO.out).mono ?_; rintro e w' ⟨rfl, rfl⟩)
    go_ret
    exact ⟨_, _, _, rfl, Own.none_, Below.refl _ _⟩
theorem boxWeights_impl (m f s : Int) (w : World) (_wf0 : (Lit.int .i64 m).wf = true) (_wf1 : (Lit.int .i64 f).wf = true) (_wf2 : (Lit.int .i64 s).wf = true) :
    Calls Try.prog 9 #[.int .i64 m, .int .i64 f, .int .i64 s] w fun e w' => ∃ A n c, e = .returned (.slice A n c) ∧ Own w' w.heap.size (.slice A n c) (boxW m f s) ∧ Below w.heap.size w w' := boxWeights_impl0 m f s w

set_option maxHeartbeats 800000 in
theorem boxSum_impl (m f s : Int) (w : World) (_wf0 : (Lit.int .i64 m).wf = true) (_wf1 : (Lit.int .i64 f).wf = true) (_wf2 : (Lit.int .i64 s).wf = true) :
    Calls Try.prog 14 #[.int .i64 m, .int .i64 f, .int .i64 s] w fun e w' => e = .returned (.int .i64 (boxSum m f s)) ∧ Below w.heap.size w w' := by
  clear _wf0 _wf1 _wf2
  have HO := hide (boxOk_impl0 m f s w)
  by_cases hok : boxOk m f s = true
  · have hW := hide (show boxW m f s = boxL m.toNat f.toNat s.toNat by unfold boxW; rw [if_pos hok])
    have he := hide (show boxSum m f s = (boxT m.toNat f.toNat s.toNat (m.toNat + 1) : Int) by unfold boxSum; rw [if_pos hok])
    have HB := hide (boxWeights_impl0 m f s w)
    rw [hW.out] at HB
    rw [hok] at HO
    obtain ⟨M, F, S, rfl, rfl, rfl, h1, h8, hs⟩ := boxOk_yes hok
    clear hok hW
    rw [Int.toNat_natCast, Int.toNat_natCast, Int.toNat_natCast] at he HB
    go_enter Try.func14, Try.ntmps14
    go_wp2_with (go_at_call 22; refine (HO.out).mono ?_; rintro e w' ⟨rfl, rfl⟩)
    refine HB.out.mono ?_
    rintro e w1 ⟨A, n, c, rfl, ho, hq⟩
    have HT := hide (boxTotalI_c h1 h8 hs A n c _ w1 ho.ints)
    clear ho
    go_wp2_with (go_at_call 25; refine (HT.out).mono ?_; rintro e w' ⟨rfl, rfl⟩)
    go_ret
    exact ⟨ret_int he.out.symm, hq⟩
  · have he := hide (show boxSum m f s = -1 by unfold boxSum; rw [if_neg hok])
    have hok : boxOk m f s = false := by simpa using hok
    rw [hok] at HO
    clear hok
    go_enter Try.func14, Try.ntmps14
    go_wp2_with (go_at_call 22; refine (HO.out).mono ?_; rintro e w' ⟨rfl, rfl⟩)
    go_ret
    exact ⟨ret_int he.out.symm, Below.refl _ _⟩

/-- slices.Index where the first place is known. -/
theorem index_c (A : Option Addr) (n c B : Nat) (zs : List Int) (v : Int) (b : Nat) (w : World) (h : Ints w B A n c zs) (hb : b < n) (hv : zs[b]? = some v) (hne : ∀ (j : Nat) x, j < b → zs[j]? = some x → x ≠ v) :
    Calls Try.prog 30 #[.slice A n c, .int .i64 v] w fun e w' => e = .returned (.int .i64 (b : Int)) ∧ w = w' := by
  have hn := h.nb
  have HN := hide hne
  have HV := hide hv
  clear hne hv
  go_enter Try.func30, Try.ntmps30
  go_wp2
  go_loop [8] (fun i => ∃ k : Nat, k ≤ b ∧ i = .int .i64 k) (fun i => n - (intOf i).toNat)
  case atStart => exact ⟨0, Nat.zero_le _, rfl⟩
  case round =>
    obtain ⟨k, hk, rfl⟩ := hrel
    have hlt : k < n := by omega
    obtain ⟨b', off, x, rfl, hb', hx, hcell⟩ := h.look hlt
    by_cases hkb : k < b
    · have hxv := HN.out k x hkb hx.out
      have hd : (v == x) = false := by simpa using fun e => hxv e.symm
      clear hxv
      go_wp2
      go_round
      case rel => exact ⟨k + 1, by omega, by go_num⟩
      case measure => simp [intOf]; omega
    · obtain rfl : k = b := by omega
      have hxv : v = x := by have := HV.out.symm.trans hx.out; injection this
      subst hxv
      go_wp2
      go_ret
      exact ⟨rfl, rfl⟩

theorem box_max {M F S : Nat} (h1 : 1 ≤ M) (h8 : M ≤ 8) (hs : F + S ≤ M) : mxN (boxL M F S) (M + 1) = (bwN M F S (bestTo (bwN M F S) (M + 1)) : Int) := by
  obtain ⟨b, hb, _, hbM, _, hle, _⟩ := best_facts h1 h8 hs
  rw [hb]
  have e1 : mxN (boxL M F S) (M + 1) ≤ (bwN M F S b : Int) := mxN_le (fun z hz => by
    obtain ⟨k, hk, rfl⟩ := List.getElem_of_mem hz
    obtain ⟨k1, k2, _, _⟩ := boxL_elem h1 h8 hs (List.getElem?_eq_getElem hk)
    rw [k2]
    have := hle k k1
    omega) (by rw [boxL_len]; omega) (by rw [boxL_len]; omega)
  have e2 := mxN_ge (k := M + 1) (boxL_at (M := M) (F := F) (S := S) (show b < M + 1 by omega)) (by omega)
  omega

set_option maxHeartbeats 800000 in
theorem likeliestBox_impl (m f s : Int) (w : World) (_wf0 : (Lit.int .i64 m).wf = true) (_wf1 : (Lit.int .i64 f).wf = true) (_wf2 : (Lit.int .i64 s).wf = true) :
    Calls Try.prog 18 #[.int .i64 m, .int .i64 f, .int .i64 s] w fun e w' => e = .returned (.int .i64 (likeliB m f s)) ∧ Below w.heap.size w w' := by
  clear _wf0 _wf1 _wf2
  have HO := hide (boxOk_impl0 m f s w)
  by_cases hok : boxOk m f s = true
  · have HB := hide (boxWeights_impl0 m f s w)
    rw [show boxW m f s = boxL m.toNat f.toNat s.toNat by unfold boxW; rw [if_pos hok]] at HB
    have he := hide (show likeliB m f s = (bestTo (bwN m.toNat f.toNat s.toNat) (m.toNat + 1) : Int) by unfold likeliB; rw [if_pos hok])
    rw [hok] at HO
    obtain ⟨M, F, S, rfl, rfl, rfl, h1, h8, hs⟩ := boxOk_yes hok
    clear hok
    rw [Int.toNat_natCast, Int.toNat_natCast, Int.toNat_natCast] at he HB
    have hmx := hide (box_max h1 h8 hs)
    obtain ⟨b, hb, _, hbM, _, _, hlt⟩ := best_facts h1 h8 hs
    have hb := hide hb
    rw [hb.out] at he hmx
    obtain ⟨V, hV⟩ : ∃ V : Int, Hid ((bwN M F S b : Int) = V) := ⟨_, hide rfl⟩
    rw [hV.out] at hmx
    have hvb := hide (show (boxL M F S)[b]? = some V by rw [boxL_at (by omega), hV.out])
    have hnx := hide (show ∀ (j : Nat) x, j < b → (boxL M F S)[j]? = some x → x ≠ V from fun j x hj hx e => by
      obtain ⟨_, ex, _, _⟩ := boxL_elem h1 h8 hs hx
      have := hlt j hj
      have := hV.out
      omega)
    clear hlt hb
    go_enter Try.func18, Try.ntmps18
    go_wp2_with (go_at_call 22; refine (HO.out).mono ?_; rintro e w' ⟨rfl, rfl⟩)
    refine HB.out.mono ?_
    rintro e w1 ⟨A, n, c, rfl, ho, hq⟩
    have hn : n = M + 1 := by rw [ho.len, boxL_len]
    have HX := hide (max_c A n c _ _ w1 ho.ints (by omega))
    have HI := hide (index_c A n c _ _ V b w1 ho.ints (by omega) hvb.out hnx.out)
    rw [hn, hmx.out, ← hn] at HX
    clear ho hn HB HO hmx hnx hvb
    go_wp2_with (first | (go_at_call 31; refine (HX.out).mono ?_; rintro e w' ⟨rfl, rfl⟩) | (go_at_call 30; refine (HI.out).mono ?_; rintro e w' ⟨rfl, rfl⟩))
    go_ret
    exact ⟨ret_int he.out.symm, hq⟩
  · have he := hide (show likeliB m f s = -1 by unfold likeliB; rw [if_neg hok])
    have hok : boxOk m f s = false := by simpa using hok
    rw [hok] at HO
    clear hok
    go_enter Try.func18, Try.ntmps18
    go_wp2_with (go_at_call 22; refine (HO.out).mono ?_; rintro e w' ⟨rfl, rfl⟩)
    go_ret
    exact ⟨ret_int he.out.symm, Below.refl _ _⟩
theorem left_c (k f : Int) (g : Nat) (w : World) (hg : w.cell? ⟨g, 0, none⟩ = some (.int .i64 f)) (h0 : 0 ≤ k) (h1 : k ≤ 1000) (f0 : 0 ≤ f) (f1 : f ≤ 1000) :
    Calls Try.prog 27 #[.int .i64 k, .pointer (some ⟨g, 0, none⟩)] w fun e w' => e = .returned (.int .i64 (k - f)) ∧ w = w' := by
  go_enter Try.func27, Try.ntmps27
  go_wp2
  go_ret
  exact ⟨rfl, rfl⟩
theorem self_c (k : Int) (w : World) :
    Calls Try.prog 32 #[.int .i64 k] w fun e w' => e = .returned (.int .i64 k) ∧ w = w' := by
  go_enter Try.func32, Try.ntmps32
  go_wp2
  go_ret
  exact ⟨rfl, rfl⟩

set_option maxHeartbeats 1600000 in
theorem weighedL_c (A : Option Addr) (n c B : Nat) (zs : List Int) (V : Nat → Int) (w : World) (f : Int) (g : Nat) (hg : w.cell? ⟨g, 0, none⟩ = some (.int .i64 f)) (f0 : 0 ≤ f) (f1 : f ≤ 1000) (h : Ints w B A n c zs) (hn8 : n ≤ 1000) (hV0 : V 0 = 0) (hV : ∀ (k : Nat) x, zs[k]? = some x → V k + x * ((k : Int) - f) = V (k + 1)) (hB : ∀ k, k ≤ n → -1000000000000000 ≤ V k ∧ V k ≤ 1000000000000000) (hE : ∀ x ∈ zs, 0 ≤ x ∧ x ≤ 1000000000) :
    Calls Try.prog 29 #[.slice A n c, .func (.func 27) #[] #[.pointer (some ⟨g, 0, none⟩)]] w fun e w' => e = .returned (.int .i64 (V n)) ∧ w = w' := by
  have hn := h.nb
  have HV := hide hV
  have HB := hide hB
  have HZ := hide (fun (k : Nat) x (hx : zs[k]? = some x) => hE x (List.mem_of_getElem? hx))
  have HV0 := hide hV0
  clear hV hB hE hV0
  go_enter Try.func29, Try.ntmps29
  go_wp2
  go_loop [5, 10] (fun t i => ∃ k : Nat, ∃ P : Int, k ≤ n ∧ i = .int .i64 k ∧ t = .int .i64 P ∧ Hid (P = V k)) (fun _ i => n - (intOf i).toNat)
  case atStart => exact ⟨0, 0, Nat.zero_le _, rfl, rfl, hide HV0.out.symm⟩
  case round =>
    obtain ⟨k, P, hk, rfl, rfl, hP⟩ := hrel
    by_cases hlt : k < n
    · obtain ⟨b, off, x, rfl, hb, hx, hcell⟩ := h.look hlt
      obtain ⟨x0, x1⟩ := HZ.out k x hx.out
      have hst := hide (HV.out k x hx.out)
      rw [← hP.out] at hst
      obtain ⟨b0, b1⟩ := HB.out k hk
      rw [← hP.out] at b0 b1
      obtain ⟨c0, c1⟩ := HB.out (k + 1) (by omega)
      rw [← hst.out] at c0 c1
      have HC := hide (left_c (k : Int) f g w hg (by omega) (by omega) f0 f1)
      go_wp2_with fail
      refine (HC.out).mono ?_
      rintro e w' ⟨rfl, rfl⟩
      
      go_wp2_with fail
      go_round
      case rel => exact ⟨k + 1, _, by omega, by go_num, rfl, hide hst.out⟩
      case measure => simp [intOf]; omega
    · obtain rfl : k = n := by omega
      go_wp2
      go_ret
      exact ⟨ret_int hP.out, rfl⟩

set_option maxHeartbeats 1600000 in
theorem weighedS_c (A : Option Addr) (n c B : Nat) (zs : List Int) (V : Nat → Int) (w : World) (h : Ints w B A n c zs) (hn8 : n ≤ 1000) (hV0 : V 0 = 0) (hV : ∀ (k : Nat) x, zs[k]? = some x → V k + x * (k : Int) = V (k + 1)) (hB : ∀ k, k ≤ n → -1000000000000000 ≤ V k ∧ V k ≤ 1000000000000000) (hE : ∀ x ∈ zs, 0 ≤ x ∧ x ≤ 1000000000) :
    Calls Try.prog 29 #[.slice A n c, .func (.func 32) #[] #[]] w fun e w' => e = .returned (.int .i64 (V n)) ∧ w = w' := by
  have hn := h.nb
  have HV := hide hV
  have HB := hide hB
  have HZ := hide (fun (k : Nat) x (hx : zs[k]? = some x) => hE x (List.mem_of_getElem? hx))
  have HV0 := hide hV0
  clear hV hB hE hV0
  go_enter Try.func29, Try.ntmps29
  go_wp2
  go_loop [5, 10] (fun t i => ∃ k : Nat, ∃ P : Int, k ≤ n ∧ i = .int .i64 k ∧ t = .int .i64 P ∧ Hid (P = V k)) (fun _ i => n - (intOf i).toNat)
  case atStart => exact ⟨0, 0, Nat.zero_le _, rfl, rfl, hide HV0.out.symm⟩
  case round =>
    obtain ⟨k, P, hk, rfl, rfl, hP⟩ := hrel
    by_cases hlt : k < n
    · obtain ⟨b, off, x, rfl, hb, hx, hcell⟩ := h.look hlt
      obtain ⟨x0, x1⟩ := HZ.out k x hx.out
      have hst := hide (HV.out k x hx.out)
      rw [← hP.out] at hst
      obtain ⟨b0, b1⟩ := HB.out k hk
      rw [← hP.out] at b0 b1
      obtain ⟨c0, c1⟩ := HB.out (k + 1) (by omega)
      rw [← hst.out] at c0 c1
      have HC := hide (self_c (k : Int) w)
      go_wp2_with fail
      refine (HC.out).mono ?_
      rintro e w' ⟨rfl, rfl⟩
      
      go_wp2_with fail
      go_round
      case rel => exact ⟨k + 1, _, by omega, by go_num, rfl, hide hst.out⟩
      case measure => simp [intOf]; omega
    · obtain rfl : k = n := by omega
      go_wp2
      go_ret
      exact ⟨ret_int hP.out, rfl⟩

set_option maxHeartbeats 1600000 in
theorem boxMean_impl (m f s : Int) (w : World) (_wf0 : (Lit.int .i64 m).wf = true) (_wf1 : (Lit.int .i64 f).wf = true) (_wf2 : (Lit.int .i64 s).wf = true) :
    Calls Try.prog 20 #[.int .i64 m, .int .i64 f, .int .i64 s] w fun e w' => e = .returned (.tuple #[.int .i64 (meanN m f s), .int .i64 (meanD m f s), .bool (boxOk m f s)]) ∧ Below w.heap.size w w' := by
  clear _wf0 _wf1 _wf2
  have HO := hide (boxOk_impl0 m f s w)
  by_cases hok : boxOk m f s = true
  · obtain ⟨M, F, S, rfl, rfl, rfl, h1, h8, hs⟩ := boxOk_yes hok
    rw [hok] at HO ⊢
    have HB := hide (boxWeights_impl0 (M : Int) (F : Int) (S : Int) w)
    rw [show boxW (M : Int) (F : Int) (S : Int) = boxL M F S by unfold boxW; rw [if_pos hok, Int.toNat_natCast, Int.toNat_natCast, Int.toNat_natCast]] at HB
    have eN := hide (show meanN (M : Int) (F : Int) (S : Int) = (overN (meanA M F S) (meanC M F S) : Int) by unfold meanN; rw [if_pos hok, Int.toNat_natCast, Int.toNat_natCast, Int.toNat_natCast])
    have eD := hide (show meanD (M : Int) (F : Int) (S : Int) = (overN (meanC M F S) (meanA M F S) : Int) by unfold meanD; rw [if_pos hok, Int.toNat_natCast, Int.toNat_natCast, Int.toNat_natCast])
    have HUB := hide (fun (k : Nat) (hk : k ≤ M + 1) => boxMe_bound h1 h8 hs hk)
    obtain ⟨t0, t1, _, _⟩ := sum_bound h1 h8 hs
    have hab := HUB.out (M + 1) (Nat.le_refl _)
    have HLT := hide (fun w => leastTerms_c (meanA M F S : Int) (meanC M F S : Int) w (by omega) (by unfold meanA; omega) (by unfold meanC; omega) (by unfold meanC; omega))
    have h6 := hide (overN_int (meanA M F S) (meanC M F S))
    have h7 := hide (overN_int2 (meanA M F S) (meanC M F S))
    clear hok t0 t1 hab
    go_enter Try.func20, Try.ntmps20
    go_wp2_with (go_at_call 22; refine (HO.out).mono ?_; rintro e w' ⟨rfl, rfl⟩)
    refine HB.out.mono ?_
    rintro e w1 ⟨A, n, c, rfl, ho, hq⟩
    have hn : n = M + 1 := by rw [ho.len, boxL_len]
    subst hn
    have HW := hide (weighedS_c A (M + 1) c _ (boxL M F S) (fun k => (boxMe M F S k : Int)) w1 ho.ints (by omega) rfl (fun k x hx => by
      obtain ⟨_, ex, _, _⟩ := boxL_elem h1 h8 hs hx
      rw [ex]; exact boxMe_step M F S k) (fun k hk => by have := HUB.out k hk; omega) (fun x hx => by
      obtain ⟨k, hk, rfl⟩ := List.getElem_of_mem hx
      have := boxL_elem h1 h8 hs (List.getElem?_eq_getElem hk)
      omega))
    have HT := hide (boxTotalI_c h1 h8 hs A (M + 1) c _ w1 ho.ints)
    have hq := hide hq
    clear ho HB HO HUB
    rw [show (boxT M F S (M + 1) : Int) = (meanC M F S : Int) from rfl] at HT
    rw [show (boxMe M F S (M + 1) : Int) = (meanA M F S : Int) from rfl] at HW
    go_wp2_with (first | (go_at_call 29; refine (HW.out).mono ?_; rintro e w' ⟨rfl, rfl⟩) | (go_at_call 25; refine (HT.out).mono ?_; rintro e w' ⟨rfl, rfl⟩) | (go_at_call 28; refine (HLT.out _).mono ?_; rintro e w' ⟨rfl, q, rfl⟩))
    go_ret3
    exact ⟨by rw [eN.out, eD.out, h6.out, h7.out]; rfl, below_drewN hq.out _⟩
  · have hok : boxOk m f s = false := by simpa using hok
    have eN := hide (show meanN m f s = 0 by unfold meanN; rw [hok]; rfl)
    have eD := hide (show meanD m f s = 0 by unfold meanD; rw [hok]; rfl)
    rw [hok] at HO ⊢
    clear hok
    go_enter Try.func20, Try.ntmps20
    go_wp2_with (go_at_call 22; refine (HO.out).mono ?_; rintro e w' ⟨rfl, rfl⟩)
    go_ret3
    exact ⟨by rw [eN.out, eD.out]; rfl, Below.refl _ _⟩

set_option maxHeartbeats 1600000 in
theorem nextChance_impl (m f s : Int) (w : World) (_wf0 : (Lit.int .i64 m).wf = true) (_wf1 : (Lit.int .i64 f).wf = true) (_wf2 : (Lit.int .i64 s).wf = true) :
    Calls Try.prog 16 #[.int .i64 m, .int .i64 f, .int .i64 s] w fun e w' => e = .returned (.tuple #[.int .i64 (nextN m f s), .int .i64 (nextD m f s), .bool (leftOk m f s)]) ∧ Below w.heap.size w w' := by
  clear _wf0 _wf1 _wf2
  have HO := hide (fun o => boxOk_impl0 m f s (w.alloc o))
  by_cases hok : boxOk m f s = true
  · obtain ⟨M, F, S, rfl, rfl, rfl, h1, h8, hs⟩ := boxOk_yes hok
    rw [hok] at HO
    by_cases hlt : F + S < M
    · have hl := hide (show leftOk (M : Int) (F : Int) (S : Int) = true by unfold leftOk; rw [hok, decide_eq_true (by omega)]; rfl)
      have HB := hide (boxWeights_impl0 (M : Int) (F : Int) (S : Int) (w.alloc (.cells #[.int .i64 (F : Int)] 3)))
      rw [show boxW (M : Int) (F : Int) (S : Int) = boxL M F S by unfold boxW; rw [if_pos hok, Int.toNat_natCast, Int.toNat_natCast, Int.toNat_natCast]] at HB
      have eN := hide (show nextN (M : Int) (F : Int) (S : Int) = (overN (nextA M F S) (nextC M F S) : Int) by unfold nextN; rw [if_pos hl.out, Int.toNat_natCast, Int.toNat_natCast, Int.toNat_natCast])
      have eD := hide (show nextD (M : Int) (F : Int) (S : Int) = (overN (nextC M F S) (nextA M F S) : Int) by unfold nextD; rw [if_pos hl.out, Int.toNat_natCast, Int.toNat_natCast, Int.toNat_natCast])
      have hne : ((F : Int) + (S : Int) == (M : Int)) = false := by simp; omega
      have HUB := hide (fun (k : Nat) (hk : k ≤ M + 1) => boxUp_bound h1 h8 hs hk)
      obtain ⟨t0, t1, _, _⟩ := sum_bound h1 h8 hs
      have hab := HUB.out (M + 1) (Nat.le_refl _)
      obtain ⟨q0, q1⟩ := mul_bound (a := (boxT M F S (M + 1) : Int)) (M := 1000000) (by omega) (by omega) (b := (M : Int) - (F : Int) - (S : Int)) (N := 8) (by omega) (by omega)
      have hcC := hide (show (boxT M F S (M + 1) : Int) * ((M : Int) - (F : Int) - (S : Int)) = (nextC M F S : Int) by
        unfold nextC; rw [Int.natCast_mul, Int.natCast_sub (by omega), Int.natCast_sub (by omega)])
      have hcp : 0 < nextC M F S := Nat.mul_pos t0 (by omega)
      have hcb : nextC M F S ≤ 8000000 := by have := hcC.out; omega
      have HLT := hide (fun w => leastTerms_c (nextA M F S : Int) (nextC M F S : Int) w (by omega) (by unfold nextA; omega) (by omega) (by omega))
      have h6 := hide (overN_int (nextA M F S) (nextC M F S))
      have h7 := hide (overN_int2 (nextA M F S) (nextC M F S))
      obtain ⟨j, hj⟩ : ∃ j : Nat, Hid (M - F - S = j) := ⟨_, hide rfl⟩
      clear hok hab hcp hcb
      go_enter Try.func16, Try.ntmps16
      go_wp2_with (go_at_call 22; refine (HO.out _).mono ?_; rintro e w' ⟨rfl, rfl⟩)
      clear hne
      refine HB.out.mono ?_
      rintro e w1 ⟨A, n, c, rfl, ho, hq⟩
      have hn : n = M + 1 := by rw [ho.len, boxL_len]
      subst hn
      have hg1 : w1.cell? ⟨w.heap.size, 0, none⟩ = some (.int .i64 (F : Int)) := (hq.cell (p := ⟨w.heap.size, 0, none⟩) (by simp)).trans (by simp)
      have HW := hide (weighedL_c A (M + 1) c _ (boxL M F S) (fun k => if k ≤ M + 1 then (boxUp M F S k : Int) else 0) w1 (F : Int) w.heap.size hg1 (by omega) (by omega) ho.ints (by omega) rfl (fun k x hx => by
        obtain ⟨hk, ex, _, _⟩ := boxL_elem h1 h8 hs hx
        rw [ex, if_pos (by omega), if_pos (by omega)]; exact boxUp_step h1 h8 hs hk) (fun k hk => by rw [if_pos hk]; have := HUB.out k hk; omega) (fun x hx => by
        obtain ⟨k, hk, rfl⟩ := List.getElem_of_mem hx
        have := boxL_elem h1 h8 hs (List.getElem?_eq_getElem hk)
        omega))
      have HT := hide (boxTotalI_c h1 h8 hs A (M + 1) c _ w1 ho.ints)
      have hq := hide hq
      clear ho HB HO HUB
      rw [if_pos (Nat.le_refl _), show (boxUp M F S (M + 1) : Int) = (nextA M F S : Int) from rfl] at HW
      obtain ⟨T, hT⟩ : ∃ T : Nat, Hid (boxT M F S (M + 1) = T) := ⟨_, hide rfl⟩
      rw [hT.out] at HT hcC q0 q1 t0 t1
      go_wp2_with (first | (go_at_call 29; refine (HW.out).mono ?_; rintro e w' ⟨rfl, rfl⟩) | (go_at_call 25; refine (HT.out).mono ?_; rintro e w' ⟨rfl, rfl⟩) | (go_at_call 28; rw [hcC.out]; refine (HLT.out _).mono ?_; rintro e w' ⟨rfl, q, rfl⟩))
      go_ret3
      exact ⟨by rw [eN.out, eD.out, hl.out, h6.out, h7.out]; rfl, below_drewN ((below_empty (Below.refl _ _) _).trans (hq.out.mono (below_empty (Below.refl _ _) _).size)) _⟩
    · have hl := hide (show leftOk (M : Int) (F : Int) (S : Int) = false by unfold leftOk; rw [decide_eq_false (by omega), Bool.and_false])
      have eN := hide (show nextN (M : Int) (F : Int) (S : Int) = 0 by unfold nextN; rw [hl.out]; rfl)
      have eD := hide (show nextD (M : Int) (F : Int) (S : Int) = 0 by unfold nextD; rw [hl.out]; rfl)
      have hne : ((F : Int) + (S : Int) == (M : Int)) = true := by simp; omega
      clear hok
      go_enter Try.func16, Try.ntmps16
      go_wp2_with (go_at_call 22; refine (HO.out _).mono ?_; rintro e w' ⟨rfl, rfl⟩)
      go_ret3
      exact ⟨by rw [eN.out, eD.out, hl.out]; rfl, below_empty (Below.refl _ _) _⟩
  · have hl := hide (show leftOk m f s = false by unfold leftOk; rw [show boxOk m f s = false by simpa using hok]; rfl)
    have eN := hide (show nextN m f s = 0 by unfold nextN; rw [hl.out]; rfl)
    have eD := hide (show nextD m f s = 0 by unfold nextD; rw [hl.out]; rfl)
    have hok : boxOk m f s = false := by simpa using hok
    rw [hok] at HO
    clear hok
    go_enter Try.func16, Try.ntmps16
    go_wp2_with (go_at_call 22; refine (HO.out _).mono ?_; rintro e w' ⟨rfl, rfl⟩)
    go_ret3
    exact ⟨by rw [eN.out, eD.out, hl.out]; rfl, below_empty (Below.refl _ _) _⟩
end Go.Proofs.Ytbjjlgnelbcmlab
