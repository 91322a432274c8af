/-
  Contracts of chapter 12, the program's side: MixOk, onlyMix, timesOk, ShorterRow, SampleRow, joinedRows at MixedRow's closure, MixedRow, weighedSum at RowSums' closure, RowSums (written by wip/gen_d1.py).
-/
import Derived.Test.YtnfjajamafkjoaaMixS
import Derived.Test.YtnfjajamafkjoaaSampI
import Derived.Test.YtnfjajamafkjoaaZoks
namespace Go.Proofs.Ytnfjajamafkjoaa
open Go.RowKit
set_option linter.unusedVariables false

set_option maxHeartbeats 800000 in
theorem mixOk_impl0 (A : Option Addr) (n c B : Nat) (row : List Int) (w : World) (h : Ints w B A n c row) :
    Calls Try.prog 16 #[.slice A n c] w fun e w' => e = .returned (.bool (mixOk row)) ∧ w = w' := by
  have hl := hide h.len
  have hn := h.nb
  by_cases h1 : 1 ≤ n
  · by_cases h9 : n ≤ 9
    · go_enter Try.func16, Try.ntmps16
      go_wp2
      go_loop [15] (fun i => ∃ k : Nat, k ≤ n ∧ i = .int .i64 k ∧ Hid (∀ (j : Nat) x, j < k → row[j]? = some x → 0 ≤ x ∧ x ≤ 100000)) (fun i => n - (intOf i).toNat)
      case atStart => exact ⟨0, Nat.zero_le _, rfl, fun j x hj _ => absurd hj (by omega)⟩
      case round =>
        obtain ⟨k, hk, rfl, hall⟩ := hrel
        by_cases hlt : k < n
        · obtain ⟨b, off, x, rfl, hb, hx, hcell⟩ := h.look hlt
          by_cases hx0 : 0 ≤ x
          · by_cases hx1 : x ≤ 100000
            · go_wp2
              go_round
              case rel => exact ⟨k + 1, by omega, by go_num, fun j y hj hy => by
                rcases Nat.lt_or_ge j k with hjk | hjk
                · exact hall.out j y hjk hy
                · obtain rfl : j = k := by omega
                  rw [hx.out] at hy; injection hy with hy; omega⟩
              case measure => simp [intOf]; omega
            · have hbad := hide (mixOk_bad hx.out (by omega))
              go_wp2
              go_ret
              exact ⟨ret_bool hbad.out.symm, rfl⟩
          · have hbad := hide (mixOk_bad hx.out (by omega))
            go_wp2
            go_ret
            exact ⟨ret_bool hbad.out.symm, rfl⟩
        · obtain rfl : k = n := by omega
          have he := hide (mixOk_end (row := row) (fun j x hx => hall.out j x (by have := hl.out; have := (List.getElem?_eq_some_iff.1 hx).1; omega) hx))
          have hres := hide (show mixOk row = true by rw [he.out, decide_eq_true (by have := hl.out; omega)])
          go_wp2
          go_ret
          exact ⟨ret_bool hres.out.symm, rfl⟩
    · have he := hide (show mixOk row = false by unfold mixOk; rw [decide_eq_false (by have := hl.out; omega), Bool.and_false])
      go_enter Try.func16, Try.ntmps16
      go_wp2
      go_ret
      exact ⟨ret_bool he.out.symm, rfl⟩
  · have he := hide (show mixOk row = false by unfold mixOk; rw [decide_eq_false (by have := hl.out; omega), Bool.and_false])
    go_enter Try.func16, Try.ntmps16
    go_wp2
    go_ret
    exact ⟨ret_bool he.out.symm, rfl⟩
theorem mixOk_impl (A : Option Addr) (n c B : Nat) (row : List Int) (w : World) (h : Ints w B A n c row) (hB : B ≤ w.heap.size) :
    Calls Try.prog 16 #[.slice A n c] w fun e w' => e = .returned (.bool (mixOk row)) ∧ Below w.heap.size w w' := sameB (mixOk_impl0 A n c B row w h)

theorem onlyMix_yes (A : Option Addr) (n c B : Nat) (row : List Int) (w : World) (h : Ints w B A n c row) (hok : mixOk row = true) :
    Calls Try.prog 38 #[.slice A n c] w fun e w' => e = .returned (.tuple #[.slice A n c, .bool true]) ∧ w = w' := by
  have HO := hide (mixOk_impl0 A n c B row w h)
  rw [hok] at HO
  clear hok
  go_enter Try.func38, Try.ntmps38
  go_wp2_with (go_at_call 16; (with_reducible refine (HO.out).mono ?_); rintro e w' ⟨rfl, rfl⟩)
  go_ret2
  exact ⟨rfl, rfl⟩
theorem onlyMix_no (A : Option Addr) (n c B : Nat) (row : List Int) (w : World) (h : Ints w B A n c row) (hok : mixOk row = false) :
    Calls Try.prog 38 #[.slice A n c] w fun e w' => e = .returned (.tuple #[.slice none 0 0, .bool false]) ∧ w = w' := by
  have HO := hide (mixOk_impl0 A n c B row w h)
  rw [hok] at HO
  clear hok
  go_enter Try.func38, Try.ntmps38
  go_wp2_with (go_at_call 16; (with_reducible refine (HO.out).mono ?_); rintro e w' ⟨rfl, rfl⟩)
  go_ret2
  exact ⟨rfl, rfl⟩
/-- A row that is owned by the call, handed on if it is one of weights. -/
theorem onlyMix_c {base : Nat} {A : Option Addr} {n c : Nat} {row : List Int} {w : World} (h : Own w base (.slice A n c) row) :
    Calls Try.prog 38 #[.slice A n c] w fun e w' => ∃ A' n' c', e = .returned (.tuple #[.slice A' n' c', .bool (mixOk row)]) ∧ Own w base (.slice A' n' c') (if mixOk row then row else []) ∧ w = w' := by
  cases hok : mixOk row with
  | true => exact (onlyMix_yes A n c _ row w h.ints hok).mono (by rintro e w' ⟨rfl, rfl⟩; exact ⟨_, _, _, rfl, h, rfl⟩)
  | false => exact (onlyMix_no A n c _ row w h.ints hok).mono (by rintro e w' ⟨rfl, rfl⟩; exact ⟨_, _, _, rfl, Own.none_, rfl⟩)

theorem timesOk_yes (t : Int) (w : World) (h : 0 ≤ t ∧ t ≤ 9) : Calls Try.prog 37 #[.int .i64 t] w fun e w' => e = .returned (.bool true) ∧ w = w' := by
  obtain ⟨h0, h1⟩ := h
  go_enter Try.func37, Try.ntmps37
  go_wp2
  go_ret
  exact ⟨ret_bool (by simp <;> omega), rfl⟩
theorem timesOk_no (t : Int) (w : World) (h : ¬(0 ≤ t ∧ t ≤ 9)) : Calls Try.prog 37 #[.int .i64 t] w fun e w' => e = .returned (.bool false) ∧ w = w' := by
  by_cases h0 : 0 ≤ t
  · have h1 : ¬ t ≤ 9 := by omega
    clear h
    go_enter Try.func37, Try.ntmps37
    go_wp2
    go_ret
    exact ⟨ret_bool (by simp <;> omega), rfl⟩
  · clear h
    go_enter Try.func37, Try.ntmps37
    go_wp2
    go_ret
    exact ⟨ret_bool (by simp <;> omega), rfl⟩

set_option maxRecDepth 100000 in
set_option maxHeartbeats 3200000 in
theorem shorterRow_impl (A : Option Addr) (n c B : Nat) (row : List Int) (w : World) (h : Ints w B A n c row) (hB : B ≤ w.heap.size) :
    Calls Try.prog 27 #[.slice A n c] w fun e w' => ∃ A' n' c', e = .returned (.tuple #[.slice A' n' c', .bool (shortOk row)]) ∧ Own w' w.heap.size (.slice A' n' c') (shortR row) ∧ Below w.heap.size w w' := by
  have HO := hide (mixOk_impl0 A n c B row w h)
  have hl := h.len
  cases hok : mixOk row with
  | false =>
    have he := hide (show shortOk row = false by unfold shortOk; rw [hok]; rfl)
    have he2 := hide (show shortR row = [] by unfold shortR; rw [he.out]; rfl)
    rw [hok] at HO
    clear hok
    go_enter Try.func27, Try.ntmps27
    go_wp2_with (go_at_call 16; (with_reducible refine (HO.out).mono ?_); rintro e w' ⟨rfl, rfl⟩)
    go_ret2
    rw [he.out, he2.out]
    exact ⟨_, _, _, rfl, Own.none_, Below.refl _ _⟩
  | true =>
    rw [hok] at HO
    have hn9 := (mixOk_yes hok).2
    by_cases hn2 : n < 2
    · have he := hide (show shortOk row = false by unfold shortOk; rw [decide_eq_false (by omega), Bool.and_false]; rfl)
      have he2 := hide (show shortR row = [] by unfold shortR; rw [he.out]; rfl)
      obtain rfl : n = 1 := by omega
      clear hok
      go_enter Try.func27, Try.ntmps27
      go_wp2_with (go_at_call 16; (with_reducible refine (HO.out).mono ?_); rintro e w' ⟨rfl, rfl⟩)
      go_ret2
      rw [he.out, he2.out]
      exact ⟨_, _, _, rfl, Own.none_, Below.refl _ _⟩
    · obtain ⟨N, hN⟩ : ∃ N : Nat, (n : Int) - 1 = (N : Int) := ⟨n - 1, by omega⟩
      have hN1 : 1 ≤ N := by omega
      have hN8 : N ≤ 8 := by omega
      have hnN := hide (show n = N + 1 by omega)
      have hne : ((n : Int) == 1) = false := by simp; omega
      have hfin := hide (show shortOk row = mixOk (shortL row) by unfold shortOk; rw [hok, decide_eq_true (by omega)]; rfl)
      have hsl := hide (show (shortL row).length = N by rw [shortL_len, hl]; omega)
      have hfin2 := hide (show shortR row = if mixOk (shortL row) then shortL row else [] by unfold shortR; rw [hfin.out])
      have HS := hide (fun (k : Nat) (hk : k < N) => shortL_at (row := row) (k := k) (by omega))
      have HX := hide (fun (k : Nat) x (hx : row[k]? = some x) => (mixOk_yes hok).1 x (List.mem_of_getElem? hx))
      have HD := hide (fun (k s : Nat) (x y : Int) (hx : row[k]? = some x) (hy : row[k + 1]? = some y) (hs : s + k = N) => show shortAt row k = x * (s : Int) + y * ((k : Int) + 1) by
        unfold shortAt
        rw [atI_some hx, atI_some hy, hl, show (n : Int) - 1 - (k : Int) = (s : Int) by omega])
      obtain ⟨i0, hi, hz0, hz1, hz2⟩ := info_parts infoInt
      replace hl := hide hl
      clear hok hn2 hn9
      go_enter Try.func27, Try.ntmps27
      go_wp2_with (first | (go_at_call 16; (with_reducible refine (HO.out).mono ?_); rintro e w' ⟨rfl, rfl⟩) | (at_make; refine wpList_make_full _ rfl _ _ 22 rfl w.heap.size 3 i0 (.int .i64 0) 1 Try.underlying22 hi hz0 hz1 .i64 .i64 _ _ N rfl rfl (by first | rfl | (simp <;> omega)) (by first | rfl | (simp <;> omega)) (by rw [hz2]; omega) (by unfold maxLen; omega) (Nat.le_refl _) ?_; intro w1 hown0 hgrow0; have hgrow0 := hide hgrow0; have hown0 := hide hown0))
      have hb0 := hide (show Below w.heap.size w w1 from (Below.refl _ _).grown hgrow0.out (Nat.le_refl _) (fun k hk => by cases hk))
      have ho0 := hide (show Own w1 w.heap.size (.slice (some ⟨w.heap.size, 0, none⟩) N N) (cpy (shortL row) 0) by rw [cpy_zero, hsl.out]; exact own_made hown0.out)
      clear hown0 hgrow0
      go_loopw [22] (fun i wr => ∃ k : Nat, k ≤ N ∧ i = .int .i64 k ∧ Hid (Own wr w.heap.size (.slice (some ⟨w.heap.size, 0, none⟩) N N) (cpy (shortL row) k)) ∧ Hid (Below w.heap.size w wr)) (fun i _ => N - (intOf i).toNat)
      case atStart => exact ⟨0, Nat.zero_le _, rfl, ho0, hb0⟩
      case round =>
        clear ho0 hb0
        obtain ⟨k, hk, rfl, ho, hb⟩ := hrel
        have hst := hb.out.size
        by_cases hlt : k < N
        · obtain ⟨b, off, x, rfl, hbB, hx, hcell⟩ := (h.below (hb.out.mono hB)).look (show k < n by have := hnN.out; omega)
          obtain ⟨j, hjk⟩ : ∃ j, j = k + 1 := ⟨_, rfl⟩
          obtain ⟨b', off', y, hA, hbB', hy, hcell2⟩ := (h.below (hb.out.mono hB)).look (show j < n by have := hnN.out; omega)
          injection hA with hA
          injection hA with e1 e2 _
          subst e1; subst e2
          obtain ⟨s, hs⟩ : ∃ s, s + k = N := ⟨N - k, by omega⟩
          have hj : (k : Int) + 1 = (j : Int) := by omega
          have hD := HD.out k s x y hx.out (hjk ▸ hy.out) hs
          rw [hj] at hD
          obtain ⟨x0, x1⟩ := HX.out k x hx.out
          obtain ⟨y0, y1⟩ := HX.out j y hy.out
          obtain ⟨q0, q1⟩ := mul_bound x0 x1 (b := (s : Int)) (N := 8) (by omega) (by omega)
          obtain ⟨q2, q3⟩ := mul_bound y0 y1 (b := (j : Int)) (N := 9) (by omega) (by omega)
          have hw1 : IntKind.i64.wrap ((k : Int) + 1) = (j : Int) := by rw [hj]; exact IntWalk.i64_in _ (by omega)
          have hw3 : IntKind.i64.wrap ((N : Int) - (k : Int)) = (s : Int) := by rw [show (N : Int) - (k : Int) = (s : Int) by omega]; exact IntWalk.i64_in _ (by omega)
          have hw4 : IntKind.i64.wrap (x * (s : Int)) = x * (s : Int) := IntWalk.i64_in _ (by omega)
          have hw5 : IntKind.i64.wrap (y * (j : Int)) = y * (j : Int) := IntWalk.i64_in _ (by omega)
          have hw6 : IntKind.i64.wrap (x * (s : Int) + y * (j : Int)) = x * (s : Int) + y * (j : Int) := IntWalk.i64_in _ (by omega)
          have hjN : (j : Int) < (n : Int) := by have := hnN.out; omega
          have hkN : (k : Int) < (n : Int) := by have := hnN.out; omega
          have hset := hide (show (cpy (shortL row) k).set k (x * (s : Int) + y * (j : Int)) = cpy (shortL row) (k + 1) from cpy_set _ _ _ (by rw [← hD]; exact HS.out k hlt))
          have hkl : k < (cpy (shortL row) k).length := by rw [cpy_len, hsl.out]; exact hlt
          obtain ⟨g, hA2, hg, hgl, hcz, hfz⟩ := ho.out.at2 (List.getElem?_eq_getElem hkl)
          injection hA2 with hA2
          injection hA2 with hA2 _ _
          subst hA2
          obtain ⟨u, hu⟩ : ∃ u, (cpy (shortL row) k)[k] = u := ⟨_, rfl⟩
          rw [hu] at hcz
          clear hu
          have ho2 := hide (show Own (wr.setCell ⟨w.heap.size, k, none⟩ (.int .i64 (x * (s : Int) + y * (j : Int)))) w.heap.size (.slice (some ⟨w.heap.size, 0, none⟩) N N) (cpy (shortL row) (k + 1)) by
            rw [← hset.out]; exact ho.out.set_ _ (wf_i64 (by omega)))
          have hb2 := hide (hb.out.setCell (p := ⟨w.heap.size, k, none⟩) (Nat.le_refl _) (.int .i64 (x * (s : Int) + y * (j : Int))))
          replace hjk := hide hjk
          replace hs := hide hs
          replace hj := hide hj
          clear hD
          go_wp2
          refine wp_region_still_tail 20 (by kernel_rfl) (by kernel_rfl) ?_
          simp only [List.take_succ_cons, List.take_zero, List.drop_succ_cons, List.drop_zero]
          repeat still_step
          refine wpStill_nil ?_
          clear hw1 hw3 hw4 hw5 hw6
          go_wp2
          go_roundw
          case rel => exact ⟨k + 1, by omega, by go_num, hide ho2.out.drew, hide hb2.out.drew⟩
          case measure => simp [intOf]; omega
        · obtain rfl : k = N := by omega
          have ho2 := ho.out
          rw [← hsl.out, cpy_all, hsl.out] at ho2
          have HM := hide (onlyMix_c ho2)
          clear ho2
          go_wp2_with fail
          refine HM.out.mono ?_
          rintro e w' ⟨A', n', c', rfl, ho3, rfl⟩
          go_wp2_with fail
          go_ret2
          rw [hfin.out, hfin2.out]
          exact ⟨_, _, _, rfl, ho3, hb.out⟩

set_option maxRecDepth 100000 in
set_option maxHeartbeats 3200000 in
theorem sampleRow_impl (t m p : Int) (w : World) (wf0 : (Lit.int .i64 t).wf = true) (wf1 : (Lit.int .i64 m).wf = true) (wf2 : (Lit.int .i64 p).wf = true) :
    Calls Try.prog 25 #[.int .i64 t, .int .i64 m, .int .i64 p] w fun e w' => ∃ A' n' c', e = .returned (.tuple #[.slice A' n' c', .bool (sampOk t m p)]) ∧ Own w' w.heap.size (.slice A' n' c') (sampR t m p) ∧ Below w.heap.size w w' := by
  obtain ⟨i0, hi, hz0, hz1, hz2⟩ := info_parts infoInt
  have HO := hide (sampleOk_impl0 t m p w)
  clear wf0 wf1 wf2
  cases hs : sampleB t m p with
  | false =>
    have he := hide (show sampOk t m p = false by unfold sampOk sampB; rw [hs]; rfl)
    have he2 := hide (show sampR t m p = [] by unfold sampR; rw [he.out]; rfl)
    rw [hs] at HO
    clear hs
    go_enter Try.func25, Try.ntmps25
    go_wp2_with (go_at_call 46; (with_reducible refine (HO.out).mono ?_); rintro e w' ⟨rfl, rfl⟩)
    go_ret2
    rw [he.out, he2.out]
    exact ⟨_, _, _, rfl, Own.none_, Below.refl _ _⟩
  | true =>
    rw [hs] at HO
    by_cases h8 : p ≤ 8
    · obtain ⟨t0, t30, m0, m1, p0, p1⟩ := of_decide_eq_true hs
      obtain ⟨J, hJ⟩ : ∃ J : Nat, p + 1 = (J : Int) := ⟨(p + 1).toNat, by omega⟩
      have hJ9 : J ≤ 9 := by omega
      have hsl := hide (show (sampL t m p).length = J by rw [sampL_len, hJ, Int.toNat_natCast])
      have hfin := hide (show sampOk t m p = mixOk (sampL t m p) by unfold sampOk sampB; rw [hs, decide_eq_true h8]; rfl)
      have hfin2 := hide (show sampR t m p = if mixOk (sampL t m p) then sampL t m p else [] by unfold sampR; rw [hfin.out])
      have HMW := hide (fun (k : Nat) (W : World) => markedWays_impl0 t m p (k : Int) W)
      have HK := hide (fun (k : Nat) (h : (k : Int) ≤ p) => show markW t m p (k : Int) = markN t m p (k : Int) by unfold markW markB; rw [hs, decide_eq_true (by omega)]; rfl)
      have HB := hide (fun (c : Int) => markN_bound (p := p) (b := c) m0 m1 t30)
      have HT := hide (fun (k : Nat) (h : (k : Int) ≤ p) => sampL_at (t := t) (m := m) h)
      clear hs
      go_enter Try.func25, Try.ntmps25
      go_wp2_with (first | (go_at_call 46; (with_reducible refine (HO.out).mono ?_); rintro e w' ⟨rfl, rfl⟩) | (at_make; refine wpList_make_full _ rfl _ _ 22 rfl w.heap.size 3 i0 (.int .i64 0) 1 Try.underlying22 hi hz0 hz1 .i64 .i64 _ _ J rfl rfl (by first | rfl | (simp <;> omega)) (by first | rfl | (simp <;> omega)) (by rw [hz2]; omega) (by unfold maxLen; omega) (Nat.le_refl _) ?_; intro w1 hown0 hgrow0; have hgrow0 := hide hgrow0; have hown0 := hide hown0))
      have hb0 := hide (show Below w.heap.size w w1 from (Below.refl _ _).grown hgrow0.out (Nat.le_refl _) (fun k hk => by cases hk))
      have ho0 := hide (show Own w1 w.heap.size (.slice (some ⟨w.heap.size, 0, none⟩) J J) (cpy (sampL t m p) 0) by rw [cpy_zero, hsl.out]; exact own_made hown0.out)
      clear hown0 hgrow0
      go_loopw [24] (fun i wr => ∃ k : Nat, k ≤ J ∧ i = .int .i64 k ∧ Hid (Own wr w.heap.size (.slice (some ⟨w.heap.size, 0, none⟩) J J) (cpy (sampL t m p) k)) ∧ Hid (Below w.heap.size w wr)) (fun i _ => J - (intOf i).toNat)
      case atStart => exact ⟨0, Nat.zero_le _, rfl, ho0, hb0⟩
      case round =>
        clear ho0 hb0
        obtain ⟨k, hk, rfl, ho, hb⟩ := hrel
        have hst := hb.out.size
        by_cases hlt : k < J
        · have hkp : (k : Int) ≤ p := by omega
          have HW := HMW.out k wr
          rw [HK.out k hkp] at HW
          have htk := hide (HT.out k hkp)
          obtain ⟨x0, x1⟩ := HB.out (k : Int)
          obtain ⟨X, hX⟩ : ∃ X, Hid (markN t m p (k : Int) = X) := ⟨_, hide rfl⟩
          rw [hX.out] at HW htk x0 x1
          replace HW := hide HW
          have hset := hide (show (cpy (sampL t m p) k).set k X = cpy (sampL t m p) (k + 1) from cpy_set _ _ _ htk.out)
          have hkl : k < (cpy (sampL t m p) k).length := by rw [cpy_len, hsl.out]; exact hlt
          obtain ⟨g, hA2, hg, hgl, hcz, hfz⟩ := ho.out.at2 (List.getElem?_eq_getElem hkl)
          injection hA2 with hA2
          injection hA2 with hA2 _ _
          subst hA2
          obtain ⟨u, hu⟩ : ∃ u, (cpy (sampL t m p) k)[k] = u := ⟨_, rfl⟩
          rw [hu] at hcz
          clear hu
          have ho2 := hide (show Own (wr.setCell ⟨w.heap.size, k, none⟩ (.int .i64 X)) w.heap.size (.slice (some ⟨w.heap.size, 0, none⟩) J J) (cpy (sampL t m p) (k + 1)) by
            rw [← hset.out]; exact ho.out.set_ _ (wf_i64 (by omega)))
          have hb2 := hide (hb.out.setCell (p := ⟨w.heap.size, k, none⟩) (Nat.le_refl _) (.int .i64 X))
          clear htk
          go_wp2_with (go_at_call 47; (with_reducible refine (HW.out).mono ?_); rintro e w' ⟨rfl, rfl⟩)
          go_roundw
          case rel => exact ⟨k + 1, by omega, by go_num, ho2, hb2⟩
          case measure => simp [intOf]; omega
        · obtain rfl : k = J := by omega
          have ho2 := ho.out
          rw [← hsl.out, cpy_all, hsl.out] at ho2
          have HM := hide (onlyMix_c ho2)
          clear ho2
          go_wp2_with fail
          refine HM.out.mono ?_
          rintro e w' ⟨A', n', c', rfl, ho3, rfl⟩
          go_wp2_with fail
          go_ret2
          rw [hfin.out, hfin2.out]
          exact ⟨_, _, _, rfl, ho3, hb.out⟩
    · have he := hide (show sampOk t m p = false by unfold sampOk sampB; rw [hs, decide_eq_false h8]; rfl)
      have he2 := hide (show sampR t m p = [] by unfold sampR; rw [he.out]; rfl)
      clear hs
      go_enter Try.func25, Try.ntmps25
      go_wp2_with (go_at_call 46; (with_reducible refine (HO.out).mono ?_); rintro e w' ⟨rfl, rfl⟩)
      go_ret2
      rw [he.out, he2.out]
      exact ⟨_, _, _, rfl, Own.none_, Below.refl _ _⟩

theorem mixClo_c (x y p q : Int) (g g2 : Nat) (w : World) (hg : w.cell? ⟨g, 0, none⟩ = some (.int .i64 p)) (hg2 : w.cell? ⟨g2, 0, none⟩ = some (.int .i64 q)) (hx : 0 ≤ x ∧ x ≤ 100000) (hy : 0 ≤ y ∧ y ≤ 100000) (hp : 0 ≤ p ∧ p ≤ 9) (hq : 0 ≤ q ∧ q ≤ 9) :
    Calls Try.prog 40 #[.int .i64 x, .int .i64 y, .pointer (some ⟨g, 0, none⟩), .pointer (some ⟨g2, 0, none⟩)] w fun e w' => e = .returned (.int .i64 (x * p + y * q)) ∧ w' = w := by
  obtain ⟨p0, p1⟩ := mul_bound hx.1 hx.2 hp.1 hp.2
  obtain ⟨q0, q1⟩ := mul_bound hy.1 hy.2 hq.1 hq.2
  go_enter Try.func40, Try.ntmps40
  go_wp2
  go_ret
  exact ⟨rfl, rfl⟩

set_option maxRecDepth 100000 in
set_option maxHeartbeats 1600000 in
theorem joinedMix_c (A A2 : Option Addr) (n c B c2 B2 : Nat) (a b : List Int) (p q : Int) (g g2 : Nat) (w : World) (h : Ints w B A n c a) (h2 : Ints w B2 A2 n c2 b) (hB : B ≤ w.heap.size) (hB2 : B2 ≤ w.heap.size) (hn9 : n ≤ 9)
    (hgl : g < w.heap.size) (hgl2 : g2 < w.heap.size) (hg : w.cell? ⟨g, 0, none⟩ = some (.int .i64 p)) (hg2 : w.cell? ⟨g2, 0, none⟩ = some (.int .i64 q)) (hp : 0 ≤ p ∧ p ≤ 9) (hq : 0 ≤ q ∧ q ≤ 9) (ha : ∀ x ∈ a, 0 ≤ x ∧ x ≤ 100000) (hb : ∀ x ∈ b, 0 ≤ x ∧ x ≤ 100000) :
    Calls Try.prog 39 #[.slice A n c, .slice A2 n c2, .func (.func 40) #[] #[.pointer (some ⟨g, 0, none⟩), .pointer (some ⟨g2, 0, none⟩)]] w fun e w' => ∃ A' n' c', e = .returned (.slice A' n' c') ∧ Own w' w.heap.size (.slice A' n' c') (mixW a p b q) ∧ Below w.heap.size w w' := by
  have hl := hide h.len
  have hl2 := hide h2.len
  have hz := hide (show (mixW a p b q).length = n by rw [mixW_len, hl.out])
  have hE := hide (fun (k : Nat) x (hx : a[k]? = some x) => ha x (List.mem_of_getElem? hx))
  have hE2 := hide (fun (k : Nat) x (hx : b[k]? = some x) => hb x (List.mem_of_getElem? hx))
  have HM := hide (fun (k : Nat) (x y : Int) (hx : a[k]? = some x) (hy : b[k]? = some y) => show (mixW a p b q)[k]? = some (x * p + y * q) by
    rw [mixW_at (List.getElem?_eq_some_iff.1 hx).1]; unfold mixAtW; rw [atI_some hx, atI_some hy])
  replace hp := hide hp
  replace hq := hide hq
  clear ha hb
  obtain ⟨i0, hi, hz0, hz1, hz2⟩ := info_parts infoInt
  go_enter Try.func39, Try.ntmps39
  go_wp2_with (at_make; refine wpList_make_full _ rfl _ _ 22 rfl w.heap.size 3 i0 (.int .i64 0) 1 Try.underlying22 hi hz0 hz1 .i64 .i64 _ _ n rfl rfl (by first | rfl | (simp <;> omega)) (by first | rfl | (simp <;> omega)) (by rw [hz2]; omega) (by unfold maxLen; omega) (Nat.le_refl _) ?_; intro w1 hown0 hgrow0; have hgrow0 := hide hgrow0; have hown0 := hide hown0)
  have hb0 := hide (show Below w.heap.size w w1 from (Below.refl _ _).grown hgrow0.out (Nat.le_refl _) (fun k hk => by cases hk))
  have ho0 := hide (show Own w1 w.heap.size (.slice (some ⟨w.heap.size, 0, none⟩) n n) (cpy (mixW a p b q) 0) by rw [cpy_zero, hz.out]; exact own_made hown0.out)
  clear hown0 hgrow0
  go_loopw [8, 14] (fun _ i wr => ∃ k : Nat, k ≤ n ∧ i = .int .i64 k ∧ Hid (Own wr w.heap.size (.slice (some ⟨w.heap.size, 0, none⟩) n n) (cpy (mixW a p b q) k)) ∧ Hid (Below w.heap.size w wr)) (fun _ i _ => n - (intOf i).toNat)
  case atStart => exact ⟨0, Nat.zero_le _, rfl, ho0, hb0⟩
  case round =>
    clear ho0 hb0
    obtain ⟨k, hk, rfl, ho, hb⟩ := hrel
    by_cases hlt : k < n
    · obtain ⟨b1, off, x, rfl, hbB, hx, hcell⟩ := (h.below (hb.out.mono hB)).look hlt
      obtain ⟨b2, off2, x', rfl, hbB', hx', hcell'⟩ := (h2.below (hb.out.mono hB2)).look hlt
      have hxx := hE.out k x hx.out
      have hxx' := hE2.out k x' hx'.out
      have hgr : wr.cell? ⟨g, 0, none⟩ = some (.int .i64 p) := (hb.out.cell (p := ⟨g, 0, none⟩) hgl).trans hg
      have hgr2 : wr.cell? ⟨g2, 0, none⟩ = some (.int .i64 q) := (hb.out.cell (p := ⟨g2, 0, none⟩) hgl2).trans hg2
      have hJ := hide (fun (W : World) (e1 : W.cell? ⟨g, 0, none⟩ = some (.int .i64 p)) (e2 : W.cell? ⟨g2, 0, none⟩ = some (.int .i64 q)) => mixClo_c x x' p q g g2 W e1 e2 hxx hxx' hp.out hq.out)
      have hset := hide (show (cpy (mixW a p b q) k).set k (x * p + x' * q) = cpy (mixW a p b q) (k + 1) from cpy_set _ _ _ (HM.out k x x' hx.out hx'.out))
      have hkl : k < (cpy (mixW a p b q) k).length := by rw [cpy_len, hz.out]; exact hlt
      obtain ⟨g3, hA2, hg3, hgl3, hcz, hfz⟩ := ho.out.at2 (List.getElem?_eq_getElem hkl)
      injection hA2 with hA2
      injection hA2 with hA2 _ _
      subst hA2
      obtain ⟨u, hu⟩ : ∃ u, (cpy (mixW a p b q) k)[k] = u := ⟨_, rfl⟩
      rw [hu] at hcz
      clear hu
      obtain ⟨q0, q1⟩ := mul_bound hxx.1 hxx.2 hp.out.1 hp.out.2
      obtain ⟨q2, q3⟩ := mul_bound hxx'.1 hxx'.2 hq.out.1 hq.out.2
      obtain ⟨X, hX⟩ : ∃ X, Hid (x * p + x' * q = X) := ⟨_, hide rfl⟩
      have hXw := hide (show (Lit.int .i64 X).wf = true from by rw [← hX.out]; exact wf_i64 (by omega))
      rw [hX.out] at hJ hset
      have ho2 := hide (show Own (wr.setCell ⟨w.heap.size, k, none⟩ (.int .i64 X)) w.heap.size (.slice (some ⟨w.heap.size, 0, none⟩) n n) (cpy (mixW a p b q) (k + 1)) by
        rw [← hset.out]; exact ho.out.set_ _ hXw.out)
      have hb2 := hide (hb.out.setCell (p := ⟨w.heap.size, k, none⟩) (Nat.le_refl _) (.int .i64 X))
      clear q0 q1 q2 q3 hxx hxx'
      go_wp2
      refine wp_region_still_tail 13 (by kernel_rfl) (by kernel_rfl) ?_
      simp only [List.take_succ_cons, List.take_zero, List.drop_succ_cons, List.drop_zero]
      repeat still_step
      still_call (hJ.out _ hgr hgr2)
      repeat still_step
      refine wpStill_nil ?_
      go_wp2
      go_roundw
      case rel => exact ⟨k + 1, by omega, by go_num, hide ho2.out.drew, hide hb2.out.drew⟩
      case measure => simp [intOf]; omega
    · obtain rfl : k = n := by omega
      have ho2 := ho.out
      rw [← hz.out, cpy_all, hz.out] at ho2
      replace ho2 := hide ho2
      go_wp2
      go_ret
      exact ⟨_, _, _, rfl, ho2.out, hb.out⟩

set_option maxRecDepth 100000 in
set_option maxHeartbeats 6400000 in
theorem mixedRow_impl (A : Option Addr) (n c B : Nat) (A2 : Option Addr) (n2 c2 B2 : Nat) (a b : List Int) (p q : Int) (w : World) (h : Ints w B A n c a) (h2 : Ints w B2 A2 n2 c2 b) (hB : B ≤ w.heap.size) (hB2 : B2 ≤ w.heap.size) (wf0 : (Lit.int .i64 p).wf = true) (wf1 : (Lit.int .i64 q).wf = true) :
    Calls Try.prog 19 #[.slice A n c, .int .i64 p, .slice A2 n2 c2, .int .i64 q] w fun e w' => ∃ A' n' c', e = .returned (.tuple #[.slice A' n' c', .bool (mixedOk a p b q)]) ∧ Own w' w.heap.size (.slice A' n' c') (mixedR a p b q) ∧ Below w.heap.size w w' := by
  clear wf0 wf1
  obtain ⟨V, hV⟩ : ∃ V, Hid ((w.alloc (.cells #[.int .i64 p] 3)).alloc (.cells #[.int .i64 q] 3) = V) := ⟨_, hide rfl⟩
  have hwV := hide (show Below w.heap.size w V by rw [← hV.out]; exact (al w _).trans ((al _ _).mono (by simp)))
  have hVs := hide (show w.heap.size + 2 = V.heap.size by rw [← hV.out]; simp)
  have hg1 : V.cell? ⟨w.heap.size, 0, none⟩ = some (.int .i64 p) := by rw [← hV.out]; simp
  have hg2 : V.cell? ⟨w.heap.size + 1, 0, none⟩ = some (.int .i64 q) := by rw [← hV.out]; simp
  have h := h.below (hwV.out.mono hB)
  have h2 := h2.below (hwV.out.mono hB2)
  have HO := mixOk_impl0 A n c B a V h
  have HO2 := mixOk_impl0 A2 n2 c2 B2 b V h2
  have hl := h.len
  have hl2 := h2.len
  cases hab : mixB a p b q with
  | false =>
    obtain ⟨he, he2⟩ := mixB_no hab
    rw [he, he2]
    clear he he2
    unfold mixB at hab
    cases ha : mixOk a with
    | false =>
      rw [ha] at HO
      replace HO := hide HO
      clear hab HO2
      go_enter Try.func19, Try.ntmps19
      go_wp2_with fail
      rw [hV.out]
      go_wp2_with (go_at_call 16; (with_reducible refine (HO.out).mono ?_); rintro e w' ⟨rfl, rfl⟩)
      go_ret2
      exact ⟨_, _, _, rfl, Own.none_, hwV.out⟩
    | true =>
      rw [ha] at HO hab
      cases hb : mixOk b with
      | false =>
        rw [hb] at HO2
        replace HO := hide HO
        replace HO2 := hide HO2
        clear hab
        go_enter Try.func19, Try.ntmps19
        go_wp2_with fail
        rw [hV.out]
        go_wp2_with (go_at_call 16; (with_reducible refine (HO.out).mono ?_); rintro e w' ⟨rfl, rfl⟩)
        go_wp2_with (go_at_call 16; (with_reducible refine (HO2.out).mono ?_); rintro e w' ⟨rfl, rfl⟩)
        go_ret2
        exact ⟨_, _, _, rfl, Own.none_, hwV.out⟩
      | true =>
        rw [hb] at HO2 hab
        replace HO := hide HO
        replace HO2 := hide HO2
        by_cases hn : n = n2
        · have hne : ((n : Int) != (n2 : Int)) = false := by simp; omega
          by_cases hp : 0 ≤ p ∧ p ≤ 9
          · have hq : ¬(0 ≤ q ∧ q ≤ 9) := fun hq => by
              rw [decide_eq_true hp, decide_eq_true hq, decide_eq_true (by omega)] at hab
              simp at hab
            have HT := hide (timesOk_yes p V hp)
            have HT2 := hide (timesOk_no q V hq)
            clear hab hp hq hn ha hb
            go_enter Try.func19, Try.ntmps19
            go_wp2_with fail
            rw [hV.out]
            go_wp2_with (go_at_call 16; (with_reducible refine (HO.out).mono ?_); rintro e w' ⟨rfl, rfl⟩)
            go_wp2_with (go_at_call 16; (with_reducible refine (HO2.out).mono ?_); rintro e w' ⟨rfl, rfl⟩)
            go_wp2_with (go_at_call 37; (with_reducible refine (HT.out).mono ?_); rintro e w' ⟨rfl, rfl⟩)
            go_wp2_with (go_at_call 37; (with_reducible refine (HT2.out).mono ?_); rintro e w' ⟨rfl, rfl⟩)
            go_ret2
            exact ⟨_, _, _, rfl, Own.none_, hwV.out⟩
          · have HT := hide (timesOk_no p V hp)
            clear hab hp hn ha hb
            go_enter Try.func19, Try.ntmps19
            go_wp2_with fail
            rw [hV.out]
            go_wp2_with (go_at_call 16; (with_reducible refine (HO.out).mono ?_); rintro e w' ⟨rfl, rfl⟩)
            go_wp2_with (go_at_call 16; (with_reducible refine (HO2.out).mono ?_); rintro e w' ⟨rfl, rfl⟩)
            go_wp2_with (go_at_call 37; (with_reducible refine (HT.out).mono ?_); rintro e w' ⟨rfl, rfl⟩)
            go_ret2
            exact ⟨_, _, _, rfl, Own.none_, hwV.out⟩
        · have hne : ((n : Int) != (n2 : Int)) = true := by simp; omega
          clear hab hn ha hb
          go_enter Try.func19, Try.ntmps19
          go_wp2_with fail
          rw [hV.out]
          go_wp2_with (go_at_call 16; (with_reducible refine (HO.out).mono ?_); rintro e w' ⟨rfl, rfl⟩)
          go_wp2_with (go_at_call 16; (with_reducible refine (HO2.out).mono ?_); rintro e w' ⟨rfl, rfl⟩)
          go_ret2
          exact ⟨_, _, _, rfl, Own.none_, hwV.out⟩
  | true =>
    have hfin := hide (show mixedOk a p b q = mixOk (mixW a p b q) by unfold mixedOk; rw [hab]; rfl)
    have hfin2 := hide (show mixedR a p b q = if mixOk (mixW a p b q) then mixW a p b q else [] by unfold mixedR; rw [hfin.out])
    unfold mixB at hab
    simp only [Bool.and_eq_true] at hab
    obtain ⟨⟨⟨⟨ha, hb⟩, hlab⟩, hp⟩, hq⟩ := hab
    have hp := of_decide_eq_true hp
    have hq := of_decide_eq_true hq
    have hlab := of_decide_eq_true hlab
    rw [ha] at HO
    rw [hb] at HO2
    obtain rfl : n = n2 := by omega
    have hne : ((n : Int) != (n : Int)) = false := by simp
    have HT := hide (timesOk_yes p V hp)
    have HT2 := hide (timesOk_yes q V hq)
    have hVs2 := hVs.out
    have HJ := hide (joinedMix_c A A2 n c B c2 B2 a b p q w.heap.size (w.heap.size + 1) V h h2 (by omega) (by omega) (by have := (mixOk_yes ha).2.2; omega) (by omega) (by omega) hg1 hg2 hp hq (mixOk_yes ha).1 (mixOk_yes hb).1)
    replace HO := hide HO
    replace HO2 := hide HO2
    clear ha hb hp hq hlab hl hl2 hVs2
    go_enter Try.func19, Try.ntmps19
    go_wp2_with fail
    rw [hV.out]
    go_wp2_with (go_at_call 16; (with_reducible refine (HO.out).mono ?_); rintro e w' ⟨rfl, rfl⟩)
    go_wp2_with (go_at_call 16; (with_reducible refine (HO2.out).mono ?_); rintro e w' ⟨rfl, rfl⟩)
    go_wp2_with (go_at_call 37; (with_reducible refine (HT.out).mono ?_); rintro e w' ⟨rfl, rfl⟩)
    go_wp2_with (go_at_call 37; (with_reducible refine (HT2.out).mono ?_); rintro e w' ⟨rfl, rfl⟩)
    go_wp2_with fail
    refine HJ.out.mono ?_
    rintro e w' ⟨A', n', c', rfl, ho, hq1⟩
    have HM := hide (onlyMix_c ho)
    have hq1 := hide hq1
    clear ho
    go_wp2_with fail
    refine HM.out.mono ?_
    rintro e w3 ⟨A3, n3, c3, rfl, ho3, rfl⟩
    go_wp2_with fail
    go_ret2
    rw [hfin.out, hfin2.out]
    exact ⟨_, _, _, rfl, ho3.down (by have := hVs.out; omega), upB hwV.out hq1.out⟩

theorem rowClo_c (k : Int) (w : World) :
    Calls Try.prog 43 #[.int .i64 k] w fun e w' => e = .returned (.int .i64 k) ∧ w = w' := by
  go_enter Try.func43, Try.ntmps43
  go_wp2
  go_ret
  exact ⟨rfl, rfl⟩

set_option maxHeartbeats 1600000 in
theorem weighedMix_c (A : Option Addr) (n c B : Nat) (row : List Int) (w : World) (h : Ints w B A n c row) (hok : mixOk row = true) :
    Calls Try.prog 42 #[.slice A n c, .func (.func 43) #[] #[]] w fun e w' => e = .returned (.int .i64 (cntsTo row n)) ∧ w = w' := by
  have hn9 := (mixOk_yes hok).2
  have hl := h.len
  have HX := hide (fun (k : Nat) x (hx : row[k]? = some x) => (mixOk_yes hok).1 x (List.mem_of_getElem? hx))
  have HC := hide (fun (k : Nat) (hk : k ≤ 9) => cnts_bound9 hok hk)
  obtain ⟨_, hn9⟩ := hn9
  rw [hl] at hn9
  replace hl := hide hl
  clear hok
  go_enter Try.func42, Try.ntmps42
  go_wp2
  go_loop [5, 10] (fun t i => ∃ k : Nat, ∃ P : Int, k ≤ n ∧ i = .int .i64 k ∧ t = .int .i64 P ∧ Hid (P = cntsTo row k)) (fun _ i => n - (intOf i).toNat)
  case atStart => exact ⟨0, 0, Nat.zero_le _, rfl, rfl, hide rfl⟩
  case round =>
    obtain ⟨k, P, hk, rfl, rfl, hP⟩ := hrel
    by_cases hlt : k < n
    · obtain ⟨b, off, x, rfl, hb, hx, hcell⟩ := h.look hlt
      obtain ⟨x0, x1⟩ := HX.out k x hx.out
      obtain ⟨b0, b1⟩ := HC.out k (by omega)
      rw [← hP.out] at b0 b1
      obtain ⟨q0, q1⟩ := mul_bound x0 x1 (b := (k : Int)) (N := 9) (by omega) (by omega)
      have hTn := hide (show P + x * (k : Int) = cntsTo row (k + 1) by rw [show cntsTo row (k + 1) = cntsTo row k + (k : Int) * atI row k from rfl, atI_some hx.out, ← hP.out, Int.mul_comm x])
      have HC := hide (rowClo_c (k : Int) w)
      go_wp2_with fail
      refine (HC.out).mono ?_
      rintro e w' ⟨rfl, rfl⟩
      go_wp2_with fail
      go_round
      case rel => exact ⟨k + 1, _, by omega, by go_num, rfl, hTn⟩
      case measure => simp [intOf]; omega
    · obtain rfl : k = n := by omega
      go_wp2
      go_ret
      exact ⟨ret_int hP.out, rfl⟩

set_option maxHeartbeats 800000 in
theorem sumMix_c (A : Option Addr) (n c B : Nat) (row : List Int) (w : World) (h : Ints w B A n c row) (hok : mixOk row = true) :
    Calls Try.prog 41 #[.slice A n c] w fun e w' => e = .returned (.int .i64 (isum row)) ∧ w = w' := by
  have hl := hide h.len
  have hn9 := (mixOk_yes hok).2
  have HT := hide (fun (k : Nat) => sum_bound9 hok k)
  have HZ := hide (fun (k : Nat) x (hx : row[k]? = some x) => (mixOk_yes hok).1 x (List.mem_of_getElem? hx))
  have hn : n ≤ 9 := by have := hl.out; omega
  clear hok hn9
  go_enter Try.func41, Try.ntmps41
  go_wp2
  go_loop [3, 8] (fun t i => ∃ k : Nat, k ≤ n ∧ i = .int .i64 k ∧ t = .int .i64 (isum (row.take k))) (fun _ i => n - (intOf i).toNat)
  case atStart => exact ⟨0, Nat.zero_le _, rfl, rfl⟩
  case round =>
    obtain ⟨k, hk, rfl, rfl⟩ := hrel
    obtain ⟨hs1, hs2⟩ := HT.out k
    by_cases hlt : k < n
    · obtain ⟨b, off, x, rfl, hb, hx, hcell⟩ := h.look hlt
      obtain ⟨hx1, hx2⟩ := HZ.out k x hx.out
      have hst := hide (isum_take_succ hx.out)
      go_wp2
      go_round
      case rel => exact ⟨k + 1, by omega, by go_num, by rw [hst.out]⟩
      case measure => simp [intOf]; omega
    · go_wp2
      go_ret
      exact ⟨ret_int (by rw [List.take_of_length_le (by have := hl.out; omega)]), rfl⟩

theorem rowSums_impl (A : Option Addr) (n c B : Nat) (row : List Int) (w : World) (h : Ints w B A n c row) (hB : B ≤ w.heap.size) :
    Calls Try.prog 23 #[.slice A n c] w fun e w' => e = .returned (.tuple #[.int .i64 (sumR row), .int .i64 (cntsR row), .bool (mixOk row)]) ∧ Below w.heap.size w w' := by
  have HO := hide (mixOk_impl0 A n c B row w h)
  have hl := h.len
  cases hok : mixOk row with
  | false =>
    have e1 := hide (show sumR row = 0 by unfold sumR; rw [hok]; rfl)
    have e2 := hide (show cntsR row = 0 by unfold cntsR; rw [hok]; rfl)
    rw [hok] at HO
    clear hok
    go_enter Try.func23, Try.ntmps23
    go_wp2_with (go_at_call 16; (with_reducible refine (HO.out).mono ?_); rintro e w' ⟨rfl, rfl⟩)
    go_ret3
    exact ⟨by rw [e1.out, e2.out]; rfl, Below.refl _ _⟩
  | true =>
    have e1 := hide (show sumR row = isum row by unfold sumR; rw [hok]; rfl)
    have e2 := hide (show cntsR row = cntsTo row n by unfold cntsR; rw [hok, hl]; rfl)
    have HS := hide (sumMix_c A n c B row w h hok)
    have HW := hide (weighedMix_c A n c B row w h hok)
    rw [hok] at HO
    clear hok
    go_enter Try.func23, Try.ntmps23
    go_wp2_with (first | (go_at_call 16; (with_reducible refine (HO.out).mono ?_); rintro e w' ⟨rfl, rfl⟩) | (go_at_call 41; (with_reducible refine (HS.out).mono ?_); rintro e w' ⟨rfl, rfl⟩) | (go_at_call 42; (with_reducible refine (HW.out).mono ?_); rintro e w' ⟨rfl, rfl⟩))
    go_ret3
    exact ⟨by rw [e1.out, e2.out]; rfl, Below.refl _ _⟩
end Go.Proofs.Ytnfjajamafkjoaa
