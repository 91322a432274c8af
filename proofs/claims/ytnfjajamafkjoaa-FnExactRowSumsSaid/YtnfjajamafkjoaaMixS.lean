/-
  Contracts of chapter 12, the specification's side: MixOk, ShorterRow, SampleRow, MixedRow, RowSums (written by wip/gen_a6.py).
-/
import Derived.Test.YtnfjajamafkjoaaPlainAC
import Derived.Test.YtnfjajamafkjoaaSampS
namespace Go.Proofs.Ytnfjajamafkjoaa
open Go.RowKit
set_option linter.unusedVariables false

set_option maxHeartbeats 800000 in
theorem mixOk_spec (A : Option Addr) (n c B : Nat) (row : List Int) (w : World) (h : Ints w B A n c row) :
    Calls Try.prog 14 #[.slice A n c] w fun e w' => e = .returned (.bool (mixOk row)) ∧ w = w' := by
  have hl := hide h.len
  have hn := h.nb
  go_enter Try.func14, Try.ntmps14
  go_wp2
  go_loop [3] (fun i => ∃ k : Nat, k ≤ n ∧ i = .int .i64 k ∧ Hid (∀ (j : Nat) x, j < k → row[j]? = some x → 0 ≤ x ∧ x ≤ 100000)) (fun i => n - (intOf i).toNat)
  case atStart => exact ⟨0, Nat.zero_le _, rfl, fun j x hj _ => absurd hj (by omega)⟩
  case round =>
    obtain ⟨k, hk, rfl, hall⟩ := hrel
    by_cases hlt : k < n
    · obtain ⟨b, off, x, rfl, hb, hx, hcell⟩ := h.look hlt
      by_cases hx0 : 0 ≤ x ∧ x ≤ 100000
      · obtain ⟨hx1, hx2⟩ := hx0
        go_wp2_with (go_at_call 36; (with_reducible refine (l1In_yes _ _ _ _ (by omega)).mono ?_); rintro e w' ⟨rfl, rfl⟩)
        go_round
        case rel => exact ⟨k + 1, by omega, by go_num, fun j y hj hy => by
          rcases Nat.lt_or_ge j k with hjk | hjk
          · exact hall.out j y hjk hy
          · obtain rfl : j = k := by omega
            rw [hx.out] at hy; injection hy with hy; omega⟩
        case measure => simp [intOf]; omega
      · have hbad := hide (mixOk_bad hx.out hx0)
        go_wp2_with (go_at_call 36; (with_reducible refine (l1In_no _ _ _ _ (by omega)).mono ?_); rintro e w' ⟨rfl, rfl⟩)
        go_ret
        exact ⟨ret_bool hbad.out.symm, rfl⟩
    · obtain rfl : k = n := by omega
      have he := hide (mixOk_end (row := row) (fun j x hx => hall.out j x (by have := hl.out; have := (List.getElem?_eq_some_iff.1 hx).1; omega) hx))
      by_cases hn9 : 1 ≤ k ∧ k ≤ 9
      · have hres := hide (show mixOk row = true by rw [he.out, decide_eq_true (by have := hl.out; omega)])
        obtain ⟨h1, h9⟩ := hn9
        go_wp2_with (go_at_call 36; (with_reducible refine (l1In_yes _ _ _ _ (by omega)).mono ?_); rintro e w' ⟨rfl, rfl⟩)
        go_ret
        exact ⟨ret_bool hres.out.symm, rfl⟩
      · have hres := hide (show mixOk row = false by rw [he.out, decide_eq_false (by have := hl.out; omega)])
        go_wp2_with (go_at_call 36; (with_reducible refine (l1In_no _ _ _ _ (by omega)).mono ?_); rintro e w' ⟨rfl, rfl⟩)
        go_ret
        exact ⟨ret_bool hres.out.symm, rfl⟩

theorem sum_bound9 {row : List Int} (h : mixOk row = true) (k : Nat) : 0 ≤ isum (row.take k) ∧ isum (row.take k) ≤ 900000 := by
  have hx := (mixOk_yes h).1
  have hl := (mixOk_yes h).2.2
  have : ∀ (l : List Int), (∀ x ∈ l, 0 ≤ x ∧ x ≤ 100000) → 0 ≤ isum l ∧ isum l ≤ 100000 * (l.length : Int) := fun l => by
    induction l with
    | nil => intro _; simp [isum]
    | cons a r ih =>
      intro hh
      have h1 := hh a List.mem_cons_self
      have h2 := ih (fun x hx => hh x (List.mem_cons_of_mem _ hx))
      have e : isum (a :: r) = a + isum r := by simp [isum]
      rw [e, List.length_cons]
      omega
  have h3 := this (row.take k) (fun x hm => hx x (List.mem_of_mem_take hm))
  have h4 : (row.take k).length ≤ 9 := by rw [List.length_take]; omega
  omega
theorem cnts_bound9 {row : List Int} (h : mixOk row = true) {k : Nat} (hk : k ≤ 9) : 0 ≤ cntsTo row k ∧ cntsTo row k ≤ 900000 * (k : Int) := by
  induction k with
  | zero => simp [cntsTo]
  | succ k ih =>
    have a := atI_bound h k
    have b := mul_bound (a := (k : Int)) (M := 9) (by omega) (by omega) a.1 a.2
    have c := ih (by omega)
    rw [show cntsTo row (k + 1) = cntsTo row k + (k : Int) * atI row k from rfl]
    omega
theorem take_list {row : List Int} {k : Nat} {x : Int} (h : row[k]? = some x) : row.take (k + 1) = row.take k ++ [x] := take_succ h

set_option maxRecDepth 100000 in
set_option maxHeartbeats 3200000 in
theorem shorterRow_spec (A : Option Addr) (n c B : Nat) (row : List Int) (w : World) (h : Ints w B A n c row) (hB : B ≤ w.heap.size) :
    Calls Try.prog 26 #[.slice A n c] w fun e w' => ∃ A' n' c', e = .returned (.tuple #[.slice A' n' c', .bool (shortOk row)]) ∧ Own w' w.heap.size (.slice A' n' c') (shortR row) ∧ Below w.heap.size w w' := by
  have HO := hide (mixOk_spec A n c B row w h)
  have hl := h.len
  cases hok : mixOk row with
  | false =>
    have he := hide (show shortOk row = false by unfold shortOk; rw [hok]; rfl)
    have he2 := hide (show shortR row = [] by unfold shortR; rw [he.out]; rfl)
    rw [hok] at HO
    clear hok
    go_enter Try.func26, Try.ntmps26
    go_wp2_with (go_at_call 14; (with_reducible refine (HO.out).mono ?_); rintro e w' ⟨rfl, rfl⟩)
    go_ret2
    rw [he.out, he2.out]
    exact ⟨_, _, _, rfl, own_empty (Nat.le_refl _), al w _⟩
  | true =>
    rw [hok] at HO
    have hn9 := (mixOk_yes hok).2
    by_cases hn2 : n < 2
    · have he := hide (show shortOk row = false by unfold shortOk; rw [decide_eq_false (by omega), Bool.and_false]; rfl)
      have he2 := hide (show shortR row = [] by unfold shortR; rw [he.out]; rfl)
      clear hok
      go_enter Try.func26, Try.ntmps26
      go_wp2_with (go_at_call 14; (with_reducible refine (HO.out).mono ?_); rintro e w' ⟨rfl, rfl⟩)
      go_ret2
      rw [he.out, he2.out]
      exact ⟨_, _, _, rfl, own_empty (Nat.le_refl _), al w _⟩
    · obtain ⟨N, rfl⟩ : ∃ N, n = N + 1 := ⟨n - 1, by omega⟩
      have hN1 : 1 ≤ N := by omega
      have hN8 : N ≤ 8 := by omega
      have hfin := hide (show shortOk row = mixOk (shortL row) by unfold shortOk; rw [hok, decide_eq_true (by omega)]; rfl)
      have hsl := hide (show (shortL row).length = N by rw [shortL_len, hl]; rfl)
      have HS := hide (fun (k : Nat) (hk : k < N) => shortL_at (row := row) (k := k) (by omega))
      have HB := hide (fun (k : Nat) (hk : k < N) => shortAt_bound hok (k := k) (by omega))
      have HX := hide (fun (k : Nat) x (hx : row[k]? = some x) => (mixOk_yes hok).1 x (List.mem_of_getElem? hx))
      have HD := hide (fun (k s : Nat) (x y : Int) (hx : row[k]? = some x) (hy : row[k + 1]? = some y) (hs : s + k = N) => show shortAt row k = x * (s : Int) + y * ((k : Int) + 1) by
        unfold shortAt
        rw [atI_some hx, atI_some hy, hl, show ((N + 1 : Nat) : Int) - 1 - (k : Int) = (s : Int) by omega])
      obtain ⟨i0, hi, hz0, hz1, hz2⟩ := info_parts infoInt
      clear hok hn2 hn9
      go_enter Try.func26, Try.ntmps26
      go_wp2_with (go_at_call 14; (with_reducible refine (HO.out).mono ?_); rintro e w' ⟨rfl, rfl⟩)
      have ho0 := hide (own_empty (w := w) (base := w.heap.size) (Nat.le_refl _))
      have hb0 := hide (al w (.cells #[] 3))
      go_loopw [4, 5] (fun v i wr => ∃ k : Nat, ∃ A c, k ≤ N ∧ i = .int .i64 k ∧ v = .slice A k c ∧ Hid (Own wr w.heap.size (.slice A k c) ((shortL row).take k)) ∧ Hid (Below w.heap.size w wr)) (fun _ i _ => N - (intOf i).toNat)
      case atStart => exact ⟨0, _, _, Nat.zero_le _, rfl, rfl, ho0, hb0⟩
      case round =>
        clear ho0 hb0
        obtain ⟨k, Ar, cr, hk, rfl, rfl, ho, hb⟩ := hrel
        have hst := hb.out.size
        by_cases hlt : k < N
        · obtain ⟨b, off, x, rfl, hbB, hx, hcell⟩ := (h.below (hb.out.mono hB)).look (show k < N + 1 by omega)
          obtain ⟨j, hjk⟩ : ∃ j, j = k + 1 := ⟨_, rfl⟩
          obtain ⟨b', off', y, hA, hbB', hy, hcell2⟩ := (h.below (hb.out.mono hB)).look (show j < N + 1 by omega)
          injection hA with hA
          injection hA with e1 e2 _
          subst e1; subst e2
          obtain ⟨s, hs⟩ : ∃ s, s + k = N := ⟨N - k, by omega⟩
          have hj : (k : Int) + 1 = (j : Int) := by omega
          have hD := HD.out k s x y hx.out (hjk ▸ hy.out) hs
          rw [hj] at hD
          obtain ⟨x0, x1⟩ := HX.out k x hx.out
          obtain ⟨y0, y1⟩ := HX.out j y hy.out
          obtain ⟨q0, q1⟩ := mul_bound x0 x1 (b := (s : Int)) (N := 8) (by omega) (by omega)
          obtain ⟨q2, q3⟩ := mul_bound y0 y1 (b := (j : Int)) (N := 9) (by omega) (by omega)
          have hw1 : IntKind.i64.wrap ((k : Int) + 1) = (j : Int) := by rw [hj]; exact IntWalk.i64_in _ (by omega)
          have hw2 : IntKind.i64.wrap (((N + 1 : Nat) : Int) - 1) = (N : Int) := by rw [show ((N + 1 : Nat) : Int) - 1 = (N : Int) by omega]; exact IntWalk.i64_in _ (by omega)
          have hw2' : IntKind.i64.wrap ((N : Int) + 1 - 1) = (N : Int) := by rw [show (N : Int) + 1 - 1 = (N : Int) by omega]; exact IntWalk.i64_in _ (by omega)
          have hw3 : IntKind.i64.wrap ((N : Int) - (k : Int)) = (s : Int) := by rw [show (N : Int) - (k : Int) = (s : Int) by omega]; exact IntWalk.i64_in _ (by omega)
          have hw4 : IntKind.i64.wrap (x * (s : Int)) = x * (s : Int) := IntWalk.i64_in _ (by omega)
          have hw5 : IntKind.i64.wrap (y * (j : Int)) = y * (j : Int) := IntWalk.i64_in _ (by omega)
          have hw6 : IntKind.i64.wrap (x * (s : Int) + y * (j : Int)) = x * (s : Int) + y * (j : Int) := IntWalk.i64_in _ (by omega)
          have hjN : (j : Int) < (N : Int) + 1 := by omega
          have hkN : (k : Int) < (N : Int) + 1 := by omega
          have hwN : IntKind.i64.wrap (N : Int) = (N : Int) := IntWalk.i64_in _ (by omega)
          have hlen2 : ((shortL row).take k).length + 1 ≤ 1048576000 := by have := hsl.out; rw [List.length_take]; omega
          have htk := hide (take_succ (HS.out k hlt))
          rw [hD] at htk
          replace hjk := hide hjk
          replace hs := hide hs
          replace hj := hide hj
          clear hD
          go_wp2
          go_region_law (refine step_app _ rfl _ _ 22 rfl i0 Try.underlying22 hi hz0 hz1 hz2 _ _ rfl (ho.out.alloc _).drew _ 1 1 _ [x * (s : Int) + y * (j : Int)] rfl (ints_lit1 (wf_i64 (by omega))).drew (by simp; omega) hlen2 ?_; intro A₃ n₃ c₃ w3 ho3 hg3)
          all_goals
            clear hcell hcell2
            have hn3 : n₃ = k + 1 := by have e := ho3.len; rw [List.length_append, ← ho.out.len] at e; simpa using e
            subst hn3
            have ho4 := hide (show Own w3 w.heap.size (.slice A₃ (k + 1) c₃) ((shortL row).take (k + 1)) by rw [htk.out]; exact ho3)
            have hb4 := hide ((hb.out.alloc hst (.cells #[.int .i64 (x * (s : Int) + y * (j : Int))] 3)).drew.grown hg3 (by simp; omega) (fun q hq => (ho.out.row.lt q hq).1))
            clear ho3 hg3 hlen2 hw1 hw2 hw2' hw3 hw4 hw5 hw6
            go_wp2
            go_roundw
            case rel => exact ⟨k + 1, _, _, by omega, by go_num, rfl, ho4, hb4⟩
            case measure => simp [intOf]; omega
        · obtain rfl : k = N := by omega
          have ho2 := hide (show Own wr w.heap.size (.slice Ar k cr) (shortL row) by
            have := ho.out
            rwa [List.take_of_length_le (by rw [hsl.out]; exact Nat.le_refl _)] at this)
          have HO2 := hide (mixOk_spec _ _ _ _ (shortL row) wr ho2.out.ints)
          cases hok2 : mixOk (shortL row) with
          | true =>
            have he := hide (show shortOk row = true by rw [hfin.out, hok2])
            have he2 := hide (show shortR row = shortL row by unfold shortR; rw [he.out]; rfl)
            rw [hok2] at HO2
            clear hok2 hfin
            go_wp2_with fail
            refine HO2.out.mono ?_
            rintro e w' ⟨rfl, rfl⟩
            go_wp2_with fail
            go_ret2
            rw [he.out, he2.out]
            exact ⟨_, _, _, rfl, ho2.out, hb.out⟩
          | false =>
            have he := hide (show shortOk row = false by rw [hfin.out, hok2])
            have he2 := hide (show shortR row = [] by unfold shortR; rw [he.out]; rfl)
            rw [hok2] at HO2
            clear hok2 hfin
            go_wp2_with fail
            refine HO2.out.mono ?_
            rintro e w' ⟨rfl, rfl⟩
            go_wp2_with fail
            go_ret2
            rw [he.out, he2.out]
            exact ⟨_, _, _, rfl, own_empty hst, upB hb.out (al _ _)⟩

set_option maxRecDepth 100000 in
set_option maxHeartbeats 3200000 in
theorem sampleRow_spec (t m p : Int) (w : World) :
    Calls Try.prog 24 #[.int .i64 t, .int .i64 m, .int .i64 p] w fun e w' => ∃ A' n' c', e = .returned (.tuple #[.slice A' n' c', .bool (sampOk t m p)]) ∧ Own w' w.heap.size (.slice A' n' c') (sampR t m p) ∧ Below w.heap.size w w' := by
  obtain ⟨i0, hi, hz0, hz1, hz2⟩ := info_parts infoInt
  have HO := hide (fun (W : World) => sampleOk_spec t m p W)
  cases hok : sampB t m p with
  | false =>
    have he := hide (show sampOk t m p = false by unfold sampOk; rw [hok]; rfl)
    have he2 := hide (show sampR t m p = [] by unfold sampR; rw [he.out]; rfl)
    have ho0 := hide (own_empty (w := w) (base := w.heap.size) (Nat.le_refl _))
    have hb0 := hide (al w (.cells #[] 3))
    have HM := hide (fun (W : World) (A : Option Addr) (c : Nat) (h : Own W w.heap.size (.slice A 0 c) []) => mixOk_spec A 0 c _ [] W h.ints)
    have hm0 : mixOk [] = false := rfl
    rw [hm0] at HM
    clear hm0
    rw [he.out, he2.out]
    clear he he2
    have hcs : p < 0 ∨ (0 ≤ p ∧ sampleB t m p = false) ∨ (0 ≤ p ∧ sampleB t m p = true ∧ 8 < p) := by
      by_cases h0 : p < 0
      · exact .inl h0
      · cases hs : sampleB t m p with
        | false => exact .inr (.inl ⟨by omega, rfl⟩)
        | true =>
          have : ¬ p ≤ 8 := fun h => by unfold sampB at hok; rw [hs, decide_eq_true h] at hok; simp at hok
          exact .inr (.inr ⟨by omega, rfl, by omega⟩)
    clear hok
    rcases hcs with h0 | ⟨h0, hs⟩ | ⟨h0, hs, h8⟩
    · go_enter Try.func24, Try.ntmps24
      go_wp2_with fail
      go_loopw [8, 9] (fun v i wr => i = .int .i64 0 ∧ v = .slice (some ⟨w.heap.size, 0, none⟩) 0 0 ∧ Hid (Own wr w.heap.size (.slice (some ⟨w.heap.size, 0, none⟩) 0 0) []) ∧ Hid (Below w.heap.size w wr)) (fun _ _ _ => 0)
      case atStart => exact ⟨rfl, rfl, ho0, hb0⟩
      case round =>
        clear ho0 hb0
        obtain ⟨rfl, rfl, ho, hb⟩ := hrel
        go_wp2_with (go_at_call 14; refine (HM.out _ _ _ ho.out).mono ?_; rintro e w' ⟨rfl, rfl⟩)
        go_ret2
        exact ⟨_, _, _, rfl, own_empty hb.out.size, upB hb.out (al _ _)⟩
    · rw [hs] at HO
      clear hs
      go_enter Try.func24, Try.ntmps24
      go_wp2_with fail
      go_loopw [8, 9] (fun v i wr => i = .int .i64 0 ∧ v = .slice (some ⟨w.heap.size, 0, none⟩) 0 0 ∧ Hid (Own wr w.heap.size (.slice (some ⟨w.heap.size, 0, none⟩) 0 0) []) ∧ Hid (Below w.heap.size w wr)) (fun _ _ _ => 0)
      case atStart => exact ⟨rfl, rfl, ho0, hb0⟩
      case round =>
        clear ho0 hb0
        obtain ⟨rfl, rfl, ho, hb⟩ := hrel
        go_wp2_with (first | (go_at_call 44; refine (HO.out _).mono ?_; rintro e w' ⟨rfl, rfl⟩) | (go_at_call 14; refine (HM.out _ _ _ ho.out).mono ?_; rintro e w' ⟨rfl, rfl⟩))
        go_ret2
        exact ⟨_, _, _, rfl, own_empty hb.out.size, upB hb.out (al _ _)⟩
    · rw [hs] at HO
      clear hs
      go_enter Try.func24, Try.ntmps24
      go_wp2_with fail
      go_loopw [8, 9] (fun v i wr => i = .int .i64 0 ∧ v = .slice (some ⟨w.heap.size, 0, none⟩) 0 0 ∧ Hid (Own wr w.heap.size (.slice (some ⟨w.heap.size, 0, none⟩) 0 0) []) ∧ Hid (Below w.heap.size w wr)) (fun _ _ _ => 0)
      case atStart => exact ⟨rfl, rfl, ho0, hb0⟩
      case round =>
        clear ho0 hb0
        obtain ⟨rfl, rfl, ho, hb⟩ := hrel
        go_wp2_with (first | (go_at_call 44; refine (HO.out _).mono ?_; rintro e w' ⟨rfl, rfl⟩) | (go_at_call 14; refine (HM.out _ _ _ ho.out).mono ?_; rintro e w' ⟨rfl, rfl⟩))
        go_ret2
        exact ⟨_, _, _, rfl, own_empty hb.out.size, upB hb.out (al _ _)⟩
  | true =>
    obtain ⟨hs, h8⟩ := Bool.and_eq_true_iff.1 hok
    have h8 := of_decide_eq_true h8
    obtain ⟨t0, t30, m0, m1, p0, p1⟩ := of_decide_eq_true hs
    rw [hs] at HO
    obtain ⟨J, hJ⟩ : ∃ J : Nat, p + 1 = (J : Int) := ⟨(p + 1).toNat, by omega⟩
    have hJ9 : J ≤ 9 := by omega
    have hsl := hide (show (sampL t m p).length = J by rw [sampL_len, hJ, Int.toNat_natCast])
    have hfin := hide (show sampOk t m p = mixOk (sampL t m p) by unfold sampOk; rw [hok]; rfl)
    have HMW := hide (fun (k : Nat) (W : World) => markedWays_spec t m p (k : Int) W)
    have HK := hide (fun (k : Nat) (h : (k : Int) ≤ p) => show markW t m p (k : Int) = markN t m p (k : Int) by unfold markW markB; rw [hs, decide_eq_true (by omega)]; rfl)
    have HB := hide (fun (c : Int) => markN_bound (p := p) (b := c) m0 m1 t30)
    have HT := hide (fun (k : Nat) (h : (k : Int) ≤ p) => take_succ (sampL_at (t := t) (m := m) h))
    have ho0 := hide (own_empty (w := w) (base := w.heap.size) (Nat.le_refl _))
    have hb0 := hide (al w (.cells #[] 3))
    clear hok hs
    go_enter Try.func24, Try.ntmps24
    go_wp2_with fail
    go_loopw [8, 9] (fun v i wr => ∃ k : Nat, ∃ A c, k ≤ J ∧ i = .int .i64 (k : Int) ∧ v = .slice A k c ∧ Hid (Own wr w.heap.size (.slice A k c) ((sampL t m p).take k)) ∧ Hid (Below w.heap.size w wr)) (fun _ i _ => J - (intOf i).toNat)
    case atStart => exact ⟨0, _, _, Nat.zero_le _, rfl, rfl, ho0, hb0⟩
    case round =>
      clear ho0 hb0
      obtain ⟨k, Ar, cr, hk, rfl, rfl, ho, hb⟩ := hrel
      have hst := hb.out.size
      by_cases hlt : k < J
      · have hkp : (k : Int) ≤ p := by omega
        have HW := HMW.out k wr
        rw [HK.out k hkp] at HW
        have htk := hide (HT.out k hkp)
        obtain ⟨x0, x1⟩ := HB.out (k : Int)
        obtain ⟨X, hX⟩ : ∃ X, Hid (markN t m p (k : Int) = X) := ⟨_, hide rfl⟩
        rw [hX.out] at HW htk x0 x1
        replace HW := hide HW
        have hlen2 : ((sampL t m p).take k).length + 1 ≤ 1048576000 := by have := hsl.out; rw [List.length_take]; omega
        go_wp2_with (first | (go_at_call 44; refine (HO.out _).mono ?_; rintro e w' ⟨rfl, rfl⟩) | (go_at_call 45; refine HW.out.mono ?_; rintro e w' ⟨rfl, rfl⟩) | (at_builtin; refine wpList_app _ rfl _ _ 22 rfl i0 Try.underlying22 hi hz0 hz1 hz2 _ _ rfl (ho.out.alloc _) _ 1 1 _ [X] rfl (ints_lit1 (wf_i64 (by omega))) (by simp <;> omega) hlen2 ?_; intro A₃ n₃ c₃ w3 ho3 hg3))
        have hn3 : n₃ = k + 1 := by have e := ho3.len; rw [List.length_append, ← ho.out.len] at e; simpa using e
        subst hn3
        have ho4 := hide (show Own w3 w.heap.size (.slice A₃ (k + 1) c₃) ((sampL t m p).take (k + 1)) by rw [htk.out]; exact ho3)
        have hb4 := hide ((hb.out.alloc hst (.cells #[.int .i64 X] 3)).grown hg3 (by simp; omega) (fun q hq => (ho.out.row.lt q hq).1))
        clear ho3 hg3 hlen2
        go_wp2_with fail
        go_roundw
        case rel => exact ⟨k + 1, _, _, by omega, by go_num, rfl, ho4, hb4⟩
        case measure => simp [intOf]; omega
      · obtain rfl : k = J := by omega
        have hkp : ¬ ((k : Int) ≤ p) := by omega
        have ho2 := hide (show Own wr w.heap.size (.slice Ar k cr) (sampL t m p) by
          have := ho.out
          rwa [List.take_of_length_le (by rw [hsl.out]; exact Nat.le_refl _)] at this)
        have HO2 := hide (mixOk_spec _ _ _ _ (sampL t m p) wr ho2.out.ints)
        cases hok2 : mixOk (sampL t m p) with
        | true =>
          have he := hide (show sampOk t m p = true by rw [hfin.out, hok2])
          have he2 := hide (show sampR t m p = sampL t m p by unfold sampR; rw [he.out]; rfl)
          rw [hok2] at HO2
          clear hok2 hfin
          go_wp2_with fail
          refine HO2.out.mono ?_
          rintro e w' ⟨rfl, rfl⟩
          go_wp2_with fail
          go_ret2
          rw [he.out, he2.out]
          exact ⟨_, _, _, rfl, ho2.out, hb.out⟩
        | false =>
          have he := hide (show sampOk t m p = false by rw [hfin.out, hok2])
          have he2 := hide (show sampR t m p = [] by unfold sampR; rw [he.out]; rfl)
          rw [hok2] at HO2
          clear hok2 hfin
          go_wp2_with fail
          refine HO2.out.mono ?_
          rintro e w' ⟨rfl, rfl⟩
          go_wp2_with fail
          go_ret2
          rw [he.out, he2.out]
          exact ⟨_, _, _, rfl, own_empty hst, upB hb.out (al _ _)⟩

set_option maxHeartbeats 1600000 in
theorem rowSums_spec (A : Option Addr) (n c B : Nat) (row : List Int) (w : World) (h : Ints w B A n c row) :
    Calls Try.prog 22 #[.slice A n c] w fun e w' => e = .returned (.tuple #[.int .i64 (sumR row), .int .i64 (cntsR row), .bool (mixOk row)]) ∧ w = w' := by
  have HO := hide (mixOk_spec A n c B row w h)
  have hl := h.len
  cases hok : mixOk row with
  | false =>
    have e1 := hide (show sumR row = 0 by unfold sumR; rw [hok]; rfl)
    have e2 := hide (show cntsR row = 0 by unfold cntsR; rw [hok]; rfl)
    rw [hok] at HO
    clear hok
    go_enter Try.func22, Try.ntmps22
    go_wp2_with (go_at_call 14; (with_reducible refine (HO.out).mono ?_); rintro e w' ⟨rfl, rfl⟩)
    go_ret3
    exact ⟨by rw [e1.out, e2.out]; rfl, rfl⟩
  | true =>
    have e1 := hide (show sumR row = isum row by unfold sumR; rw [hok]; rfl)
    have e2 := hide (show cntsR row = cntsTo row n by unfold cntsR; rw [hok, hl]; rfl)
    have hn9 := (mixOk_yes hok).2
    have HX := hide (fun (k : Nat) x (hx : row[k]? = some x) => (mixOk_yes hok).1 x (List.mem_of_getElem? hx))
    have HS := hide (fun (k : Nat) => sum_bound9 hok k)
    have HC := hide (fun (k : Nat) (hk : k ≤ 9) => cnts_bound9 hok hk)
    have hall := hide (show row.take n = row from List.take_of_length_le (by omega))
    rw [hok] at HO
    clear hok
    go_enter Try.func22, Try.ntmps22
    go_wp2_with (go_at_call 14; (with_reducible refine (HO.out).mono ?_); rintro e w' ⟨rfl, rfl⟩)
    go_loop [5, 6, 7] (fun s t i => ∃ k : Nat, ∃ S T : Int, k ≤ n ∧ i = .int .i64 k ∧ s = .int .i64 S ∧ t = .int .i64 T ∧ Hid (S = isum (row.take k)) ∧ Hid (T = cntsTo row k)) (fun _ _ i => n - (intOf i).toNat)
    case atStart => exact ⟨0, 0, 0, Nat.zero_le _, rfl, rfl, rfl, hide rfl, hide rfl⟩
    case round =>
      obtain ⟨k, S, T, hk, rfl, rfl, rfl, hS, hT⟩ := hrel
      by_cases hlt : k < n
      · obtain ⟨b, off, x, rfl, hb, hx, hcell⟩ := h.look hlt
        obtain ⟨x0, x1⟩ := HX.out k x hx.out
        obtain ⟨s0, s1⟩ := HS.out k
        rw [← hS.out] at s0 s1
        obtain ⟨t0, t1⟩ := HC.out k (by omega)
        rw [← hT.out] at t0 t1
        obtain ⟨q0, q1⟩ := mul_bound (a := (k : Int)) (M := 9) (by omega) (by omega) x0 x1
        have hSn := hide (show S + x = isum (row.take (k + 1)) by rw [take_succ hx.out, isum_append, ← hS.out]; simp [isum])
        have hTn := hide (show T + (k : Int) * x = cntsTo row (k + 1) by rw [show cntsTo row (k + 1) = cntsTo row k + (k : Int) * atI row k from rfl, atI_some hx.out, ← hT.out])
        go_wp2
        go_round
        case rel => exact ⟨k + 1, S + x, T + (k : Int) * x, by omega, by go_num, rfl, rfl, hSn, hTn⟩
        case measure => simp [intOf]; omega
      · obtain rfl : k = n := by omega
        go_wp2
        go_ret3
        exact ⟨by rw [e1.out, e2.out, ← hT.out, hS.out, hall.out]; rfl, rfl⟩

theorem mixB_no {a b : List Int} {p q : Int} (h : mixB a p b q = false) : mixedOk a p b q = false ∧ mixedR a p b q = [] := by
  have e : mixedOk a p b q = false := by unfold mixedOk; rw [h]; rfl
  exact ⟨e, by unfold mixedR; rw [e]; rfl⟩
set_option maxRecDepth 100000 in
set_option maxHeartbeats 6400000 in
theorem mixedRow_spec (A : Option Addr) (n c B : Nat) (A2 : Option Addr) (n2 c2 B2 : Nat) (a b : List Int) (p q : Int) (w : World) (h : Ints w B A n c a) (h2 : Ints w B2 A2 n2 c2 b) (hB : B ≤ w.heap.size) (hB2 : B2 ≤ w.heap.size) :
    Calls Try.prog 18 #[.slice A n c, .int .i64 p, .slice A2 n2 c2, .int .i64 q] w fun e w' => ∃ A' n' c', e = .returned (.tuple #[.slice A' n' c', .bool (mixedOk a p b q)]) ∧ Own w' w.heap.size (.slice A' n' c') (mixedR a p b q) ∧ Below w.heap.size w w' := by
  have HO := mixOk_spec A n c B a w h
  have HO2 := mixOk_spec A2 n2 c2 B2 b w h2
  have hl := h.len
  have hl2 := h2.len
  cases hab : mixB a p b q with
  | false =>
    obtain ⟨he, he2⟩ := mixB_no hab
    rw [he, he2]
    clear he he2
    unfold mixB at hab
    cases ha : mixOk a with
    | false =>
      rw [ha] at HO
      replace HO := hide HO
      clear hab HO2
      go_enter Try.func18, Try.ntmps18
      go_wp2_with (go_at_call 14; (with_reducible refine (HO.out).mono ?_); rintro e w' ⟨rfl, rfl⟩)
      go_ret2
      exact ⟨_, _, _, rfl, own_empty (Nat.le_refl _), al w _⟩
    | true =>
      rw [ha] at HO hab
      replace HO := hide HO
      cases hb : mixOk b with
      | false =>
        rw [hb] at HO2
        replace HO2 := hide HO2
        clear hab
        go_enter Try.func18, Try.ntmps18
        go_wp2_with (first | (go_at_call 14; (with_reducible refine (HO.out).mono ?_); rintro e w' ⟨rfl, rfl⟩) | (go_at_call 14; (with_reducible refine (HO2.out).mono ?_); rintro e w' ⟨rfl, rfl⟩))
        go_ret2
        exact ⟨_, _, _, rfl, own_empty (Nat.le_refl _), al w _⟩
      | true =>
        rw [hb] at HO2 hab
        replace HO2 := hide HO2
        by_cases hn : n = n2
        · rw [decide_eq_true (show a.length = b.length by omega)] at hab
          subst hn
          by_cases hp : 0 ≤ p ∧ p ≤ 9
          · rw [decide_eq_true hp] at hab
            have hq : ¬(0 ≤ q ∧ q ≤ 9) := fun hq => by rw [decide_eq_true hq] at hab; simp at hab
            clear hab
            go_enter Try.func18, Try.ntmps18
            go_wp2_with (first | (go_at_call 14; (with_reducible refine (HO.out).mono ?_); rintro e w' ⟨rfl, rfl⟩) | (go_at_call 14; (with_reducible refine (HO2.out).mono ?_); rintro e w' ⟨rfl, rfl⟩) | (go_at_call 36; (with_reducible refine (l1In_yes _ _ _ _ (by omega)).mono ?_); rintro e w' ⟨rfl, rfl⟩) | (go_at_call 36; (with_reducible refine (l1In_no _ _ _ _ (by omega)).mono ?_); rintro e w' ⟨rfl, rfl⟩))
            go_ret2
            exact ⟨_, _, _, rfl, own_empty (Nat.le_refl _), al w _⟩
          · clear hab
            go_enter Try.func18, Try.ntmps18
            go_wp2_with (first | (go_at_call 14; (with_reducible refine (HO.out).mono ?_); rintro e w' ⟨rfl, rfl⟩) | (go_at_call 14; (with_reducible refine (HO2.out).mono ?_); rintro e w' ⟨rfl, rfl⟩) | (go_at_call 36; (with_reducible refine (l1In_yes _ _ _ _ (by omega)).mono ?_); rintro e w' ⟨rfl, rfl⟩) | (go_at_call 36; (with_reducible refine (l1In_no _ _ _ _ (by omega)).mono ?_); rintro e w' ⟨rfl, rfl⟩))
            go_ret2
            exact ⟨_, _, _, rfl, own_empty (Nat.le_refl _), al w _⟩
        · have hnb : ((n : Int) != (n2 : Int)) = true := by simp; omega
          clear hab
          go_enter Try.func18, Try.ntmps18
          go_wp2_with (first | (go_at_call 14; (with_reducible refine (HO.out).mono ?_); rintro e w' ⟨rfl, rfl⟩) | (go_at_call 14; (with_reducible refine (HO2.out).mono ?_); rintro e w' ⟨rfl, rfl⟩) | (go_at_call 36; (with_reducible refine (l1In_yes _ _ _ _ (by omega)).mono ?_); rintro e w' ⟨rfl, rfl⟩) | (go_at_call 36; (with_reducible refine (l1In_no _ _ _ _ (by omega)).mono ?_); rintro e w' ⟨rfl, rfl⟩))
          go_ret2
          exact ⟨_, _, _, rfl, own_empty (Nat.le_refl _), al w _⟩
  | true =>
    have hfin := hide (show mixedOk a p b q = mixOk (mixW a p b q) by unfold mixedOk; rw [hab]; rfl)
    have HBd := hide (fun (k : Nat) => mixAtW_bound hab k)
    have hsl := hide (show (mixW a p b q).length = n by rw [mixW_len, hl])
    have HS := hide (fun (k : Nat) (hk : k < n) => mixW_at (a := a) (p := p) (b := b) (q := q) (k := k) (by omega))
    have hcp := hab
    unfold mixB at hcp
    simp only [Bool.and_eq_true] at hcp
    obtain ⟨⟨⟨⟨ha, hb⟩, hlen⟩, hp⟩, hq⟩ := hcp
    have hp := of_decide_eq_true hp
    have hq := of_decide_eq_true hq
    have hlen := of_decide_eq_true hlen
    obtain rfl : n = n2 := by omega
    rw [ha] at HO
    rw [hb] at HO2
    replace HO := hide HO
    replace HO2 := hide HO2
    have hn9 := (mixOk_yes ha).2
    have HX := hide (fun (k : Nat) x (hx : a[k]? = some x) => (mixOk_yes ha).1 x (List.mem_of_getElem? hx))
    have HY := hide (fun (k : Nat) x (hx : b[k]? = some x) => (mixOk_yes hb).1 x (List.mem_of_getElem? hx))
    have HD := hide (fun (k : Nat) (x y : Int) (hx : a[k]? = some x) (hy : b[k]? = some y) => show mixAtW a p b q k = x * p + y * q by unfold mixAtW; rw [atI_some hx, atI_some hy])
    obtain ⟨i0, hi, hz0, hz1, hz2⟩ := info_parts infoInt
    obtain ⟨p0, p9⟩ := hp
    obtain ⟨q0, q9⟩ := hq
    have hn9' : n ≤ 9 := by omega
    clear hab ha hb hlen hn9
    go_enter Try.func18, Try.ntmps18
    go_wp2_with (first | (go_at_call 14; (with_reducible refine (HO.out).mono ?_); rintro e w' ⟨rfl, rfl⟩) | (go_at_call 14; (with_reducible refine (HO2.out).mono ?_); rintro e w' ⟨rfl, rfl⟩) | (go_at_call 36; (with_reducible refine (l1In_yes _ _ _ _ (by omega)).mono ?_); rintro e w' ⟨rfl, rfl⟩) | (go_at_call 36; (with_reducible refine (l1In_no _ _ _ _ (by omega)).mono ?_); rintro e w' ⟨rfl, rfl⟩))
    have ho0 := hide (own_empty (w := w) (base := w.heap.size) (Nat.le_refl _))
    have hb0 := hide (al w (.cells #[] 3))
    go_loopw [10, 11] (fun v i wr => ∃ k : Nat, ∃ A c, k ≤ n ∧ i = .int .i64 k ∧ v = .slice A k c ∧ Hid (Own wr w.heap.size (.slice A k c) ((mixW a p b q).take k)) ∧ Hid (Below w.heap.size w wr)) (fun _ i _ => n - (intOf i).toNat)
    case atStart => exact ⟨0, _, _, Nat.zero_le _, rfl, rfl, ho0, hb0⟩
    case round =>
      clear ho0 hb0
      obtain ⟨k, Ar, cr, hk, rfl, rfl, ho, hbw⟩ := hrel
      have hst := hbw.out.size
      by_cases hlt : k < n
      · obtain ⟨b1, off1, x, rfl, hbB, hx, hcell⟩ := (h.below (hbw.out.mono hB)).look hlt
        obtain ⟨b2, off2, y, rfl, hbB', hy, hcell2⟩ := (h2.below (hbw.out.mono hB2)).look hlt
        have hD := HD.out k x y hx.out hy.out
        obtain ⟨x0, x1⟩ := HX.out k x hx.out
        obtain ⟨y0, y1⟩ := HY.out k y hy.out
        obtain ⟨m0, m1⟩ := mul_bound x0 x1 p0 p9
        obtain ⟨m2, m3⟩ := mul_bound y0 y1 q0 q9
        have hw4 : IntKind.i64.wrap (x * p) = x * p := IntWalk.i64_in _ (by omega)
        have hw5 : IntKind.i64.wrap (y * q) = y * q := IntWalk.i64_in _ (by omega)
        have hw6 : IntKind.i64.wrap (x * p + y * q) = x * p + y * q := IntWalk.i64_in _ (by omega)
        have hlen2 : ((mixW a p b q).take k).length + 1 ≤ 1048576000 := by have := hsl.out; rw [List.length_take]; omega
        have htk := hide (take_succ (HS.out k hlt))
        rw [hD] at htk
        clear hD
        go_wp2
        go_region_law (refine step_app _ rfl _ _ 22 rfl i0 Try.underlying22 hi hz0 hz1 hz2 _ _ rfl (ho.out.alloc _).drew _ 1 1 _ [x * p + y * q] rfl (ints_lit1 (wf_i64 (by omega))).drew (by simp; omega) hlen2 ?_; intro A₃ n₃ c₃ w3 ho3 hg3)
        all_goals
          clear hcell hcell2
          have hn3 : n₃ = k + 1 := by have e := ho3.len; rw [List.length_append, ← ho.out.len] at e; simpa using e
          subst hn3
          have ho4 := hide (show Own w3 w.heap.size (.slice A₃ (k + 1) c₃) ((mixW a p b q).take (k + 1)) by rw [htk.out]; exact ho3)
          have hb4 := hide ((hbw.out.alloc hst (.cells #[.int .i64 (x * p + y * q)] 3)).drew.grown hg3 (by simp; omega) (fun q hq => (ho.out.row.lt q hq).1))
          clear ho3 hg3 hlen2 hw4 hw5 hw6
          go_wp2
          go_roundw
          case rel => exact ⟨k + 1, _, _, by omega, by go_num, rfl, ho4, hb4⟩
          case measure => simp [intOf]; omega
      · obtain rfl : k = n := by omega
        have ho2 := hide (show Own wr w.heap.size (.slice Ar k cr) (mixW a p b q) by
          have := ho.out
          rwa [List.take_of_length_le (by rw [hsl.out]; exact Nat.le_refl _)] at this)
        have HO3 := hide (mixOk_spec _ _ _ _ (mixW a p b q) wr ho2.out.ints)
        cases hok2 : mixOk (mixW a p b q) with
        | true =>
          have he := hide (show mixedOk a p b q = true by rw [hfin.out, hok2])
          have he2 := hide (show mixedR a p b q = mixW a p b q by unfold mixedR; rw [he.out]; rfl)
          rw [hok2] at HO3
          clear hok2 hfin
          go_wp2_with fail
          refine HO3.out.mono ?_
          rintro e w' ⟨rfl, rfl⟩
          go_wp2_with fail
          go_ret2
          rw [he.out, he2.out]
          exact ⟨_, _, _, rfl, ho2.out, hbw.out⟩
        | false =>
          have he := hide (show mixedOk a p b q = false by rw [hfin.out, hok2])
          have he2 := hide (show mixedR a p b q = [] by unfold mixedR; rw [he.out]; rfl)
          rw [hok2] at HO3
          clear hok2 hfin
          go_wp2_with fail
          refine HO3.out.mono ?_
          rintro e w' ⟨rfl, rfl⟩
          go_wp2_with fail
          go_ret2
          rw [he.out, he2.out]
          exact ⟨_, _, _, rfl, own_empty hst, upB hbw.out (al _ _)⟩
end Go.Proofs.Ytnfjajamafkjoaa
