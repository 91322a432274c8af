/-
  Contracts of chapter 13, the program's side: HatsOk, MatchesOf, manyHatsOk, UnmatchedOrders, MatchOrders, stepsBack, OneRound (written by wip/gen_d2.py).
-/
import Derived.Test.YtdejlalodjhlbaaHatS
import Derived.Test.YtdejlalodjhlbaaSampI
namespace Go.Proofs.Ytdejlalodjhlbaa
open Go.RowKit
set_option linter.unusedVariables false

/-- A block of six bools that may be written: those of the numbers of a row are true. -/
structure SixW (w : World) (g : Nat) (l : List Int) : Prop where
  cell : ∀ j : Nat, j < 6 → w.cell? ⟨g, j, none⟩ = some (.bool (decide ((j : Int) ∈ l)))
  frz : ∀ j : Nat, j < 6 → w.frozen? ⟨g, j, none⟩ = false
  lt : g < w.heap.size
theorem SixW.made (w : World) (T : TypeId) : SixW (w.alloc (.cells #[.bool false, .bool false, .bool false, .bool false, .bool false, .bool false] T)) w.heap.size [] :=
  ⟨fun j hj => by
    rw [World.cell?_alloc_new]
    rcases (show j = 0 ∨ j = 1 ∨ j = 2 ∨ j = 3 ∨ j = 4 ∨ j = 5 by omega) with rfl | rfl | rfl | rfl | rfl | rfl <;> rfl,
   fun j hj => World.frozen?_alloc_new w _ _ _, by simp⟩
theorem SixW.set_ {w : World} {g : Nat} {l : List Int} (h : SixW w g l) {x : Nat} (hx : x < 6) : SixW (w.setCell ⟨g, x, none⟩ (.bool true)) g (l ++ [(x : Int)]) :=
  ⟨fun j hj => by
    by_cases e : j = x
    · subst e
      rw [World.cell?_setCell_same _ _ _ (h.cell j hj)]
      simp
    · rw [World.cell?_setCell_other _ _ _ _ (by simp <;> omega), h.cell j hj]
      have : decide ((j : Int) ∈ l ++ [(x : Int)]) = decide ((j : Int) ∈ l) := by
        rw [decide_eq_decide]; simp <;> omega
      rw [this],
   fun j hj => by simp [h.frz j hj], by simpa using h.lt⟩

set_option maxHeartbeats 1600000 in
theorem hatsOk_impl (A : Option Addr) (n c B : Nat) (row : List Int) (w : World) (h : Ints w B A n c row) (hB : B ≤ w.heap.size) :
    Calls Try.prog 15 #[.slice A n c] w fun e w' => e = .returned (.bool (hatsB row)) ∧ Below w.heap.size w w' := by
  have hl := hide h.len
  have hn := h.nb
  by_cases h6 : n ≤ 6
  · go_enter Try.func15, Try.ntmps15
    go_wp2
    go_loopw [11] (fun i wr => ∃ k : Nat, k ≤ n ∧ i = .int .i64 (k : Int) ∧ Hid (SixW wr w.heap.size (row.take k)) ∧ Hid (Below w.heap.size w wr) ∧ Hid (∀ x ∈ row.take k, 0 ≤ x ∧ x < (row.length : Int)) ∧ Hid (row.take k).Nodup) (fun i _ => n - (intOf i).toNat)
    case atStart => exact ⟨0, Nat.zero_le _, rfl, hide (SixW.made w _), hide ((Below.refl _ _).alloc (Nat.le_refl _) _), hide (by simp), hide (by simp)⟩
    case round =>
      obtain ⟨k, hk, rfl, hs, hb, hall, hnd⟩ := hrel
      by_cases hlt : k < n
      · obtain ⟨b, off, x, rfl, hbB, hx, hcell⟩ := (h.below (hb.out.mono hB)).look hlt
        by_cases hx0 : x < 0
        · have hbad := hide (hats_out hx.out (by omega))
          have d0 : decide (x < 0) = true := decide_eq_true hx0
          go_wp2
          go_ret
          exact ⟨ret_bool hbad.out.symm, hb.out⟩
        · have d0 : decide (x < 0) = false := decide_eq_false hx0
          by_cases hx1 : (n : Int) ≤ x
          · have hbad := hide (hats_out hx.out (by have := hl.out; omega))
            have d1 : decide ((n : Int) ≤ x) = true := decide_eq_true hx1
            go_wp2
            go_ret
            exact ⟨ret_bool hbad.out.symm, hb.out⟩
          · have d1 : decide ((n : Int) ≤ x) = false := decide_eq_false hx1
            obtain ⟨X, rfl⟩ : ∃ X : Nat, x = (X : Int) := ⟨x.toNat, by omega⟩
            have hX6 : X < 6 := by omega
            have hc := hs.out.cell X hX6
            have hf := hs.out.frz X hX6
            by_cases hin : (X : Int) ∈ row.take k
            · have hbad := hide (hats_twice hx.out hin)
              rw [decide_eq_true hin] at hc
              go_wp2
              go_ret
              exact ⟨ret_bool hbad.out.symm, hb.out⟩
            · rw [decide_eq_false hin] at hc
              have hnd2 := hide (hats_next hx.out hnd.out hin)
              have htk := take_succ hx.out
              have hs2 := hide (show SixW (wr.setCell ⟨w.heap.size, X, none⟩ (.bool true)) w.heap.size (row.take (k + 1)) by rw [htk]; exact hs.out.set_ hX6)
              have hb2 := hide (hb.out.setCell (p := ⟨w.heap.size, X, none⟩) (Nat.le_refl _) (.bool true))
              have hall2 := hide (show ∀ y ∈ row.take (k + 1), 0 ≤ y ∧ y < (row.length : Int) by
                intro y hy
                rw [htk, List.mem_append] at hy
                rcases hy with hy | hy
                · exact hall.out y hy
                · simp at hy; subst hy; have := hl.out; omega)
              clear htk hin
              go_wp2
              go_roundw
              case rel => exact ⟨k + 1, by omega, by go_num, hs2, hb2, hall2, hnd2⟩
              case measure => simp [intOf] <;> omega
      · obtain rfl : k = n := by omega
        have he := hide (show hatsB row = true by
          have ht : row.take k = row := by rw [← hl.out]; exact List.take_length
          have hall := hall.out
          have hnd := hnd.out
          rw [ht] at hall hnd
          rw [hats_mk hall hnd, decide_eq_true (by have := hl.out; omega)])
        go_wp2
        go_ret
        exact ⟨ret_bool he.out.symm, hb.out⟩
  · have he := hide (show hatsB row = false by unfold hatsB; rw [decide_eq_false (p := row.length ≤ 6) (by have := hl.out; omega), Bool.and_false])
    go_enter Try.func15, Try.ntmps15
    go_wp2
    go_ret
    exact ⟨ret_bool he.out.symm, Below.refl _ _⟩

theorem manyHatsOk_c (n : Int) (w : World) :
    Calls Try.prog 38 #[.int .i64 n] w fun e w' => e = .returned (.bool (decide (0 ≤ n ∧ n ≤ 6))) ∧ w = w' := by
  by_cases h1 : 0 ≤ n
  · by_cases h6 : n ≤ 6
    · have hd := hide (decide_eq_true (show 0 ≤ n ∧ n ≤ 6 from ⟨h1, h6⟩))
      go_enter Try.func38, Try.ntmps38
      go_wp2
      go_ret
      exact ⟨ret_bool hd.out.symm, rfl⟩
    · have hd := hide (decide_eq_false (show ¬(0 ≤ n ∧ n ≤ 6) by omega))
      go_enter Try.func38, Try.ntmps38
      go_wp2
      go_ret
      exact ⟨ret_bool (by simp <;> omega), rfl⟩
  · have hd := hide (decide_eq_false (show ¬(0 ≤ n ∧ n ≤ 6) by omega))
    go_enter Try.func38, Try.ntmps38
    go_wp2
    go_ret
    exact ⟨ret_bool (by simp <;> omega), rfl⟩
theorem manyHatsOk_yes (n : Int) (w : World) (h : 0 ≤ n ∧ n ≤ 6) : Calls Try.prog 38 #[.int .i64 n] w fun e w' => e = .returned (.bool true) ∧ w = w' := by
  have := manyHatsOk_c n w
  rwa [decide_eq_true h] at this
theorem manyHatsOk_no (n : Int) (w : World) (h : ¬(0 ≤ n ∧ n ≤ 6)) : Calls Try.prog 38 #[.int .i64 n] w fun e w' => e = .returned (.bool false) ∧ w = w' := by
  have := manyHatsOk_c n w
  rwa [decide_eq_false h] at this

theorem noneF_le7 {k : Nat} (h : k ≤ 7) : noneF k ≤ 1854 := by
  rcases (show k = 0 ∨ k = 1 ∨ k = 2 ∨ k = 3 ∨ k = 4 ∨ k = 5 ∨ k = 6 ∨ k = 7 by omega) with rfl | rfl | rfl | rfl | rfl | rfl | rfl | rfl <;> decide
set_option maxHeartbeats 800000 in
theorem unmatched_impl0 (h : Int) (w : World) :
    Calls Try.prog 22 #[.int .i64 h] w fun e w' => e = .returned (.int .i64 (unmW h)) ∧ w = w' := by
  by_cases hh : 0 ≤ h ∧ h ≤ 6
  · have HT := hide (manyHatsOk_yes h w hh)
    obtain ⟨h0, h6⟩ := hh
    obtain ⟨N, rfl⟩ : ∃ N : Nat, h = (N : Int) := ⟨h.toNat, by omega⟩
    have hN : N ≤ 6 := by omega
    have he := hide (show unmW (N : Int) = (noneF N : Int) by unfold unmW; rw [if_pos ⟨h0, h6⟩, Int.toNat_natCast])
    clear h0 h6
    go_enter Try.func22, Try.ntmps22
    go_wp2_with (go_at_call 38; (with_reducible refine (HT.out).mono ?_); rintro e w' ⟨rfl, rfl⟩)
    go_loop [3, 4, 10] (fun a b i => ∃ k P Q : Nat, k ≤ N ∧ i = .int .i64 (k : Int) ∧ a = .int .i64 (P : Int) ∧ b = .int .i64 (Q : Int) ∧ Hid (P = noneF k) ∧ Hid (Q = noneF (k + 1))) (fun _ _ i => N - (intOf i).toNat)
    case atStart => exact ⟨0, 1, 0, Nat.zero_le _, rfl, rfl, rfl, hide rfl, hide rfl⟩
    case round =>
      obtain ⟨k, P, Q, hk, rfl, rfl, rfl, hP, hQ⟩ := hrel
      by_cases hlt : k < N
      · have hPb : P ≤ 1854 := by rw [hP.out]; exact noneF_le7 (by omega)
        have hQb : Q ≤ 1854 := by rw [hQ.out]; exact noneF_le7 (by omega)
        obtain ⟨R, hR⟩ : ∃ R, R = (k + 1) * (P + Q) := ⟨_, rfl⟩
        have hRn := hide (show R = noneF (k + 2) by rw [hR, hP.out, hQ.out]; show _ = (k + 1) * (noneF (k + 1) + noneF k); rw [Nat.add_comm (noneF k)])
        have hRb : R ≤ 1854 := by rw [hRn.out]; exact noneF_le7 (by omega)
        have hm := hide (show ((k : Int) + 1) * ((P : Int) + (Q : Int)) = (R : Int) by rw [hR]; simp)
        replace hR := hide hR
        go_wp2
        go_round
        case rel => exact ⟨k + 1, Q, R, by omega, by go_num, rfl, by rw [IntWalk.wrap64_in _ (by rw [hm.out]; omega), hm.out], hQ, hRn⟩
        case measure => simp [intOf] <;> omega
      · obtain rfl : k = N := by omega
        go_wp2
        go_ret
        exact ⟨ret_int (by rw [he.out, hP.out]), rfl⟩
  · have he := hide (show unmW h = -1 by unfold unmW; rw [if_neg hh])
    have HT := hide (manyHatsOk_no h w hh)
    clear hh
    go_enter Try.func22, Try.ntmps22
    go_wp2_with (go_at_call 38; (with_reducible refine (HT.out).mono ?_); rintro e w' ⟨rfl, rfl⟩)
    go_ret
    exact ⟨ret_int he.out.symm, rfl⟩
theorem unmatched_impl (h : Int) (w : World) (wf0 : (Lit.int .i64 h).wf = true) :
    Calls Try.prog 22 #[.int .i64 h] w fun e w' => e = .returned (.int .i64 (unmW h)) ∧ Below w.heap.size w w' := sameB (unmatched_impl0 h w)

set_option maxHeartbeats 800000 in
theorem matchOrders_impl0 (h m : Int) (w : World) :
    Calls Try.prog 27 #[.int .i64 h, .int .i64 m] w fun e w' => e = .returned (.int .i64 (matOrd h m)) ∧ w = w' := by
  by_cases hh : 0 ≤ h ∧ h ≤ 6
  · have HT := hide (manyHatsOk_yes h w hh)
    by_cases hm0 : m < 0
    · have he := hide (show matOrd h m = -1 by unfold matOrd; rw [if_neg (by omega)])
      clear hh
      go_enter Try.func27, Try.ntmps27
      go_wp2_with (go_at_call 38; (with_reducible refine (HT.out).mono ?_); rintro e w' ⟨rfl, rfl⟩)
      go_ret
      exact ⟨ret_int he.out.symm, rfl⟩
    · by_cases hm1 : h < m
      · have he := hide (show matOrd h m = -1 by unfold matOrd; rw [if_neg (by omega)])
        clear hh
        go_enter Try.func27, Try.ntmps27
        go_wp2_with (go_at_call 38; (with_reducible refine (HT.out).mono ?_); rintro e w' ⟨rfl, rfl⟩)
        go_ret
        exact ⟨ret_int he.out.symm, rfl⟩
      · have he := hide (show matOrd h m = chooseI h m * (noneF (h - m).toNat : Int) by unfold matOrd; rw [if_pos (by omega)])
        have HN := hide (unmatched_impl0 (h - m) w)
        have HC := hide (pickWays_impl0 h m w)
        rw [show unmW (h - m) = (noneF (h - m).toNat : Int) by unfold unmW; rw [if_pos (by omega)]] at HN
        rw [show pickW h m = chooseI h m by unfold pickW; rw [if_pos (by omega)]] at HC
        have bC := chooseI_bound (n := h) (k := m) (by omega)
        have bN := noneF_le (h - m) (by omega)
        obtain ⟨C, hC⟩ : ∃ C, Hid (chooseI h m = C) := ⟨_, hide rfl⟩
        obtain ⟨N, hN⟩ : ∃ N : Nat, Hid (noneF (h - m).toNat = N) := ⟨_, hide rfl⟩
        rw [hC.out] at HC bC he
        rw [hN.out] at HN bN he
        obtain ⟨c0, c1⟩ := bC
        obtain ⟨q0, q1⟩ := mul_bound c0 c1 (b := (N : Int)) (N := 265) (by omega) bN
        obtain ⟨hh0, hh1⟩ := hh
        go_enter Try.func27, Try.ntmps27
        go_wp2_with (first | (go_at_call 38; (with_reducible refine (HT.out).mono ?_); rintro e w' ⟨rfl, rfl⟩) | (go_at_call 41; (with_reducible refine (HC.out).mono ?_); rintro e w' ⟨rfl, rfl⟩) | (go_at_call 22; (with_reducible refine (HN.out).mono ?_); rintro e w' ⟨rfl, rfl⟩))
        go_ret
        exact ⟨ret_int he.out.symm, rfl⟩
  · have he := hide (show matOrd h m = -1 by unfold matOrd; rw [if_neg (by omega)])
    have HT := hide (manyHatsOk_no h w hh)
    clear hh
    go_enter Try.func27, Try.ntmps27
    go_wp2_with (go_at_call 38; (with_reducible refine (HT.out).mono ?_); rintro e w' ⟨rfl, rfl⟩)
    go_ret
    exact ⟨ret_int he.out.symm, rfl⟩
theorem matchOrders_impl (h m : Int) (w : World) (wf0 : (Lit.int .i64 h).wf = true) (wf1 : (Lit.int .i64 m).wf = true) :
    Calls Try.prog 27 #[.int .i64 h, .int .i64 m] w fun e w' => e = .returned (.int .i64 (matOrd h m)) ∧ Below w.heap.size w w' := sameB (matchOrders_impl0 h m w)

set_option maxHeartbeats 1600000 in
theorem matchesOf_impl (A : Option Addr) (n c B : Nat) (row : List Int) (w : World) (h : Ints w B A n c row) (hB : B ≤ w.heap.size) :
    Calls Try.prog 18 #[.slice A n c] w fun e w' => e = .returned (.int .i64 (matW row)) ∧ Below w.heap.size w w' := by
  have HO := hatsOk_impl A n c B row w h hB
  have hl := h.len
  cases hok : hatsB row with
  | false =>
    have he := hide (show matW row = -1 by unfold matW; rw [hok]; rfl)
    rw [hok] at HO
    replace HO := hide HO
    go_enter Try.func18, Try.ntmps18
    go_wp2_with fail
    refine HO.out.mono ?_
    rintro e w1 ⟨rfl, hb⟩
    replace hb := hide hb
    go_wp2_with fail
    go_ret
    exact ⟨ret_int he.out.symm, hb.out⟩
  | true =>
    have he := hide (show matW row = matTo row n by unfold matW; rw [hok, if_pos rfl, hl])
    rw [hok] at HO
    replace HO := hide HO
    have hn6 : n ≤ 6 := by have := (hats_yes hok).2.2; omega
    clear hok hl
    go_enter Try.func18, Try.ntmps18
    go_wp2_with fail
    refine HO.out.mono ?_
    rintro e w1 ⟨rfl, hb⟩
    replace hb := hide hb
    have h1 := h.below (hb.out.mono hB)
    clear HO h
    go_wp2_with fail
    go_loop [3, 11] (fun t i => ∃ k T : Nat, k ≤ n ∧ T ≤ k ∧ i = .int .i64 k ∧ t = .int .i64 (T : Int) ∧ Hid ((T : Int) = matTo row k)) (fun _ i => n - (intOf i).toNat)
    case atStart => exact ⟨0, 0, Nat.zero_le _, Nat.le_refl _, rfl, rfl, hide rfl⟩
    case round =>
      obtain ⟨k, T, hk, hT, rfl, rfl, hTe⟩ := hrel
      by_cases hlt : k < n
      · obtain ⟨b, off, x, rfl, hb2, hx, hcell⟩ := h1.look hlt
        have hst : matTo row (k + 1) = matTo row k + if x = (k : Int) then 1 else 0 := by rw [← atI_some hx.out]; rfl
        by_cases hxk : x = (k : Int)
        · have hTn := hide (show ((T + 1 : Nat) : Int) = matTo row (k + 1) by rw [hst, if_pos hxk, ← hTe.out]; rfl)
          have hd : (x == (k : Int)) = true := by simpa using hxk
          replace hxk := hide hxk
          clear hst
          go_wp2_with fail
          go_round
          case rel => exact ⟨k + 1, T + 1, by omega, by omega, by go_num, by go_num, hTn⟩
          case measure => simp [intOf] <;> omega
        · have hTn := hide (show (T : Int) = matTo row (k + 1) by rw [hst, if_neg hxk, ← hTe.out]; omega)
          have hd : (x == (k : Int)) = false := by simpa using hxk
          clear hst
          go_wp2_with fail
          go_round
          case rel => exact ⟨k + 1, T, by omega, by omega, by go_num, rfl, hTn⟩
          case measure => simp [intOf] <;> omega
      · obtain rfl : k = n := by omega
        go_wp2_with fail
        go_ret
        exact ⟨ret_int (by rw [he.out, hTe.out]), hb.out⟩

theorem stepsBack_c (A : Option Addr) (n c B : Nat) (row : List Int) (w : World) (h : Ints w B A n c row) (hok : hatsB row = true) (h1 : 1 ≤ n) :
    ∀ (d k : Nat) (x : Int), k + d + 1 = backAt row → placeAt row k = x →
    Calls Try.prog 43 #[.slice A n c, .int .i64 x] w fun e w' => e = .returned (.int .i64 ((d : Int) + 1)) ∧ w = w' := by
  have hl := h.len
  obtain ⟨r1, r2, r3, r4, r5⟩ := round_facts hok (by omega)
  have hn6 : n ≤ 6 := by have := (hats_yes hok).2.2; omega
  have hin := hide (fun j => place_in hok (by omega) j)
  rw [hl] at r2 hin
  replace r3 := hide r3
  replace r4 := hide r4
  clear r1 r5 hok
  intro d
  induction d with
  | zero =>
    intro k x hk hx
    obtain ⟨x1, x2⟩ := hin.out k
    rw [hx] at x1 x2
    obtain ⟨X, rfl⟩ : ∃ X : Nat, x = (X : Int) := ⟨x.toNat, by omega⟩
    obtain ⟨b, off, y, rfl, hb, hy, hcell⟩ := h.look (show X < n by omega)
    have hpy : placeAt row (k + 1) = y := by
      show atI row (placeAt row k).toNat = y
      rw [hx, Int.toNat_natCast]
      exact atI_some hy.out
    obtain rfl : y = 0 := by rw [← hpy, show k + 1 = backAt row by omega]; exact r3.out
    clear hpy hk hx hl
    go_enter Try.func43, Try.ntmps43
    go_wp2_with fail
    go_ret
    exact ⟨rfl, rfl⟩
  | succ d ih =>
    intro k x hk hx
    obtain ⟨x1, x2⟩ := hin.out k
    rw [hx] at x1 x2
    obtain ⟨X, rfl⟩ : ∃ X : Nat, x = (X : Int) := ⟨x.toNat, by omega⟩
    obtain ⟨b, off, y, rfl, hb, hy, hcell⟩ := h.look (show X < n by omega)
    have hpy : placeAt row (k + 1) = y := by
      show atI row (placeAt row k).toNat = y
      rw [hx, Int.toNat_natCast]
      exact atI_some hy.out
    have hne : ¬ y = 0 := by rw [← hpy]; exact r4.out (k + 1) (by omega) (by omega)
    have hd : (y == 0) = false := by simpa using hne
    have HI := hide (ih (k + 1) y (by omega) hpy)
    have hdb : d ≤ 6 := by omega
    clear hpy hk hx hl ih hne
    go_enter Try.func43, Try.ntmps43
    go_wp2_with fail
    refine HI.out.mono ?_
    rintro e w' ⟨rfl, rfl⟩
    go_wp2_with fail
    go_ret
    exact ⟨ret_int (by first | rfl | (simp <;> omega)), rfl⟩

set_option maxHeartbeats 1600000 in
theorem oneRound_impl (A : Option Addr) (n c B : Nat) (row : List Int) (w : World) (h : Ints w B A n c row) (hB : B ≤ w.heap.size) :
    Calls Try.prog 30 #[.slice A n c] w fun e w' => e = .returned (.bool (roundB row)) ∧ Below w.heap.size w w' := by
  have HO := hatsOk_impl A n c B row w h hB
  have hl := h.len
  cases hok : hatsB row with
  | false =>
    have he := hide (show roundB row = false by unfold roundB; rw [hok]; rfl)
    rw [hok] at HO
    replace HO := hide HO
    go_enter Try.func30, Try.ntmps30
    go_wp2_with fail
    refine HO.out.mono ?_
    rintro e w1 ⟨rfl, hb⟩
    replace hb := hide hb
    go_wp2_with fail
    go_ret
    exact ⟨ret_bool he.out.symm, hb.out⟩
  | true =>
    by_cases h0 : n = 0
    · have he := hide (show roundB row = false by unfold roundB; rw [hok, decide_eq_false (by omega)]; rfl)
      subst h0
      rw [hok] at HO
      replace HO := hide HO
      go_enter Try.func30, Try.ntmps30
      go_wp2_with fail
      refine HO.out.mono ?_
      rintro e w1 ⟨rfl, hb⟩
      replace hb := hide hb
      go_wp2_with fail
      go_ret
      exact ⟨ret_bool he.out.symm, hb.out⟩
    · obtain ⟨r1, r2, r3, r4, r5⟩ := round_facts hok (by omega)
      have hnd : ((n : Int) == 0) = false := by simp; omega
      have HS := hide (fun (W : World) (hW : Ints W B A n c row) => stepsBack_c A n c B row W hW hok (by omega) (backAt row - 1) 0 0 (by omega) rfl)
      obtain ⟨R, hR⟩ : ∃ R, Hid (backAt row = R) := ⟨_, hide rfl⟩
      rw [hR.out] at r1 r5 HS
      have hRI := hide (show ((R - 1 : Nat) : Int) + 1 = (R : Int) by omega)
      rw [hRI.out] at HS
      rw [hl] at r5
      have hfin := hide (show ((R : Int) == (n : Int)) = roundB row by rw [r5, Bool.eq_iff_iff, beq_iff_eq, decide_eq_true_iff]; omega)
      rw [hok] at HO
      replace HO := hide HO
      clear r1 r2 r3 r4 r5 hok hl
      go_enter Try.func30, Try.ntmps30
      go_wp2_with fail
      refine HO.out.mono ?_
      rintro e w1 ⟨rfl, hb⟩
      replace hb := hide hb
      have HS1 := hide (HS.out w1 (h.below (hb.out.mono hB)))
      clear HO HS
      go_wp2_with fail
      refine HS1.out.mono ?_
      rintro e w' ⟨rfl, rfl⟩
      go_wp2_with fail
      go_ret
      exact ⟨ret_bool hfin.out, hb.out⟩
end Go.Proofs.Ytdejlalodjhlbaa
