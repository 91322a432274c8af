/-
  Contracts of chapter 13, the specification's side: HatsOk, MatchesOf, UnmatchedOrders, MatchOrders, OneRound.
-/
import Derived.Test.YtdejlalodjhlbaaPlainAF
import Derived.Test.YtdejlalodjhlbaaRoomS
import Derived.Test.YtdejlalodjhlbaaSampS
namespace Go.Proofs.Ytdejlalodjhlbaa
open Go.RowKit
set_option linter.unusedVariables false

theorem bit_or (S : Nat) (x : Int) (hS : S < 64) (h0 : 0 ≤ x) (h6 : x < 6) : bits BinOp.or IntKind.i64 (S : Int) (wrap64 (2 ^ x.toNat)) = ((S ||| 2 ^ x.toNat : Nat) : Int) := by
  have hw : wrap64 ((2 : Int) ^ x.toNat) = ((2 ^ x.toNat : Nat) : Int) := by
    have h2 : 2 ^ x.toNat < 2 ^ 6 := Nat.pow_lt_pow_right (by decide) (by omega)
    have e : (2 : Int) ^ x.toNat = ((2 ^ x.toNat : Nat) : Int) := by simp
    rw [e]
    generalize 2 ^ x.toNat = P at h2 ⊢
    exact IntWalk.wrap64_in _ (by omega)
  rw [hw]
  exact (bits_nat .i64 6 (by decide) (fun n h0 h1 => by rw [IntKind.wrap_i64]; omega) S (2 ^ x.toNat) hS (Nat.pow_lt_pow_right (n := 6) (by decide) (by omega))).2
theorem bit_mod (S : Nat) (x : Int) : ((S : Int) / 2 ^ x.toNat).tmod 2 = ((S / 2 ^ x.toNat % 2 : Nat) : Int) := by
  have e : (2 : Int) ^ x.toNat = ((2 ^ x.toNat : Nat) : Int) := by simp
  rw [e, ← Int.natCast_ediv, Int.tmod_eq_emod_of_nonneg (Int.natCast_nonneg _)]
  rfl
set_option maxHeartbeats 3200000 in
theorem hatsOk_spec (A : Option Addr) (n c B : Nat) (row : List Int) (w : World) (h : Ints w B A n c row) :
    Calls Try.prog 16 #[.slice A n c] w fun e w' => e = .returned (.bool (hatsB row)) ∧ w = w' := by
  have hl := hide h.len
  have hn := h.nb
  go_enter Try.func16, Try.ntmps16
  go_wp2
  go_loop [3, 4] (fun s i => ∃ k S : Nat, k ≤ n ∧ S < 64 ∧ i = .int .i64 k ∧ s = .int .i64 (S : Int) ∧ Hid (S = seenL (row.take k)) ∧ Hid (∀ x ∈ row.take k, 0 ≤ x ∧ x < (row.length : Int) ∧ x < 6) ∧ Hid (row.take k).Nodup) (fun _ i => n - (intOf i).toNat)
  case atStart => exact ⟨0, 0, Nat.zero_le _, by decide, rfl, rfl, hide rfl, hide (by simp), hide (by simp)⟩
  case round =>
    obtain ⟨k, S, hk, hS, rfl, rfl, hSe, hall, hnd⟩ := hrel
    by_cases hlt : k < n
    · obtain ⟨b, off, x, rfl, hb, hx, hcell⟩ := h.look hlt
      by_cases hx0 : x < 0
      · have hbad := hide (hats_out hx.out (by omega))
        have d0 : decide (x < 0) = true := decide_eq_true hx0
        go_wp2
        go_ret
        exact ⟨ret_bool hbad.out.symm, rfl⟩
      · have d0 : decide (x < 0) = false := decide_eq_false hx0
        by_cases hx1 : (n : Int) ≤ x
        · have hbad := hide (hats_out hx.out (by have := hl.out; omega))
          have d1 : decide ((n : Int) ≤ x) = true := decide_eq_true hx1
          go_wp2
          go_ret
          exact ⟨ret_bool hbad.out.symm, rfl⟩
        · have d1 : decide ((n : Int) ≤ x) = false := decide_eq_false hx1
          by_cases hx6 : 6 ≤ x
          · have hbad := hide (hats_big hx.out hx6)
            have d2 : decide (6 ≤ x) = true := decide_eq_true hx6
            go_wp2
            go_ret
            exact ⟨ret_bool hbad.out.symm, rfl⟩
          · have d2 : decide (6 ≤ x) = false := decide_eq_false hx6
            have hbit := seen_bit (l := row.take k) (fun y hy => (hall.out y hy).1) (x := x) (by omega)
            rw [← hSe.out] at hbit
            have hsm := bit_mod S x
            have hor := hide (bit_or S x hS (by omega) (by omega))
            by_cases hm : x ∈ row.take k
            · have hbad := hide (hats_twice hx.out hm)
              have hbt : ((((S : Int) / 2 ^ x.toNat).tmod 2) == 1) = true := by rw [hsm, hbit.2 hm]; rfl
              clear hsm hbit
              go_wp2
              go_ret
              exact ⟨ret_bool hbad.out.symm, rfl⟩
            · have hbt : ((((S : Int) / 2 ^ x.toNat).tmod 2) == 1) = false := by
                rw [hsm]
                have : ¬ S / 2 ^ x.toNat % 2 = 1 := fun e => hm (hbit.1 e)
                generalize S / 2 ^ x.toNat % 2 = r at this ⊢
                rw [beq_eq_false_iff_ne]
                omega
              clear hsm hbit
              have hS2 := hide (show S ||| 2 ^ x.toNat < 64 from Nat.or_lt_two_pow (n := 6) hS (Nat.pow_lt_pow_right (n := 6) (by decide) (by omega)))
              have hSn := hide (show S ||| 2 ^ x.toNat = seenL (row.take (k + 1)) by rw [take_succ hx.out, seenL_add, ← hSe.out])
              have hnd2 := hide (hats_next hx.out hnd.out hm)
              have hall2 := hide (show ∀ y ∈ row.take (k + 1), 0 ≤ y ∧ y < (row.length : Int) ∧ y < 6 by
                intro y hy
                rw [take_succ hx.out, List.mem_append] at hy
                rcases hy with hy | hy
                · exact hall.out y hy
                · simp at hy
                  subst hy
                  have := hl.out
                  omega)
              go_wp2
              go_round
              case rel => exact ⟨k + 1, S ||| 2 ^ x.toNat, by omega, hS2.out, by go_num, by rw [hor.out], hSn, hall2, hnd2⟩
              case measure => simp [intOf] <;> omega
    · obtain rfl : k = n := by omega
      have hfull : row.take k = row := List.take_of_length_le (by have := hl.out; omega)
      rw [hfull] at hall hnd
      have he := hide (hats_mk (fun x hx => ⟨(hall.out x hx).1, (hall.out x hx).2.1⟩) hnd.out)
      have hl6 := hide (show hatsB row = decide ((k : Int) ≤ 6) by rw [he.out, hl.out]; simp; omega)
      go_wp2
      go_ret
      exact ⟨ret_bool hl6.out.symm, rfl⟩
/-! Behind it: written by wip/gen_a9.py. -/
theorem none0_c (w : World) : Calls Try.prog 40 #[.int .i64 0] w fun e w' => e = .returned (.int .i64 1) ∧ w = w' := by
  go_enter Try.func40, Try.ntmps40
  go_wp2
  go_ret
  exact ⟨rfl, rfl⟩
theorem none1_c (w : World) : Calls Try.prog 40 #[.int .i64 1] w fun e w' => e = .returned (.int .i64 0) ∧ w = w' := by
  go_enter Try.func40, Try.ntmps40
  go_wp2
  go_ret
  exact ⟨rfl, rfl⟩
theorem none2_c (w : World) : Calls Try.prog 40 #[.int .i64 2] w fun e w' => e = .returned (.int .i64 1) ∧ w = w' := by
  go_enter Try.func40, Try.ntmps40
  go_wp2_with (go_at_call 40; (first | (with_reducible refine (none1_c _).mono ?_) | (with_reducible refine (none0_c _).mono ?_)); rintro e w' ⟨rfl, rfl⟩)
  go_ret
  exact ⟨rfl, rfl⟩
theorem none3_c (w : World) : Calls Try.prog 40 #[.int .i64 3] w fun e w' => e = .returned (.int .i64 2) ∧ w = w' := by
  go_enter Try.func40, Try.ntmps40
  go_wp2_with (go_at_call 40; (first | (with_reducible refine (none2_c _).mono ?_) | (with_reducible refine (none1_c _).mono ?_)); rintro e w' ⟨rfl, rfl⟩)
  go_ret
  exact ⟨rfl, rfl⟩
theorem none4_c (w : World) : Calls Try.prog 40 #[.int .i64 4] w fun e w' => e = .returned (.int .i64 9) ∧ w = w' := by
  go_enter Try.func40, Try.ntmps40
  go_wp2_with (go_at_call 40; (first | (with_reducible refine (none3_c _).mono ?_) | (with_reducible refine (none2_c _).mono ?_)); rintro e w' ⟨rfl, rfl⟩)
  go_ret
  exact ⟨rfl, rfl⟩
theorem none5_c (w : World) : Calls Try.prog 40 #[.int .i64 5] w fun e w' => e = .returned (.int .i64 44) ∧ w = w' := by
  go_enter Try.func40, Try.ntmps40
  go_wp2_with (go_at_call 40; (first | (with_reducible refine (none4_c _).mono ?_) | (with_reducible refine (none3_c _).mono ?_)); rintro e w' ⟨rfl, rfl⟩)
  go_ret
  exact ⟨rfl, rfl⟩
theorem none6_c (w : World) : Calls Try.prog 40 #[.int .i64 6] w fun e w' => e = .returned (.int .i64 265) ∧ w = w' := by
  go_enter Try.func40, Try.ntmps40
  go_wp2_with (go_at_call 40; (first | (with_reducible refine (none5_c _).mono ?_) | (with_reducible refine (none4_c _).mono ?_)); rintro e w' ⟨rfl, rfl⟩)
  go_ret
  exact ⟨rfl, rfl⟩
theorem l13None_c (h : Int) (w : World) (h0 : 0 ≤ h) (h6 : h ≤ 6) : Calls Try.prog 40 #[.int .i64 h] w fun e w' => e = .returned (.int .i64 (noneF h.toNat : Int)) ∧ w = w' := by
  rcases (show h = 0 ∨ h = 1 ∨ h = 2 ∨ h = 3 ∨ h = 4 ∨ h = 5 ∨ h = 6 by omega) with rfl | rfl | rfl | rfl | rfl | rfl | rfl
  · exact none0_c w
  · exact none1_c w
  · exact none2_c w
  · exact none3_c w
  · exact none4_c w
  · exact none5_c w
  · exact none6_c w
theorem noneF_le (h : Int) (h6 : h ≤ 6) : (noneF h.toNat : Int) ≤ 265 := by
  obtain ⟨n, hn, hn6⟩ : ∃ n : Nat, h.toNat = n ∧ n ≤ 6 := ⟨h.toNat, rfl, by omega⟩
  rw [hn]
  rcases (show n = 0 ∨ n = 1 ∨ n = 2 ∨ n = 3 ∨ n = 4 ∨ n = 5 ∨ n = 6 by omega) with rfl | rfl | rfl | rfl | rfl | rfl | rfl <;> decide

set_option maxHeartbeats 800000 in
theorem unmatched_spec (h : Int) (w : World) :
    Calls Try.prog 23 #[.int .i64 h] w fun e w' => e = .returned (.int .i64 (unmW h)) ∧ w = w' := by
  by_cases hh : 0 ≤ h ∧ h ≤ 6
  · have he := hide (show unmW h = (noneF h.toNat : Int) by unfold unmW; rw [if_pos hh])
    have HN := hide (l13None_c h w hh.1 hh.2)
    have hh := hide hh
    go_enter Try.func23, Try.ntmps23
    go_wp2_with (first | (go_at_call 39; (with_reducible refine (l1In_yes _ _ _ _ hh.out).mono ?_); rintro e w' ⟨rfl, rfl⟩) | (go_at_call 40; (with_reducible refine HN.out.mono ?_); rintro e w' ⟨rfl, rfl⟩))
    go_ret
    exact ⟨ret_int he.out.symm, rfl⟩
  · have he := hide (show unmW h = -1 by unfold unmW; rw [if_neg hh])
    have hh := hide hh
    go_enter Try.func23, Try.ntmps23
    go_wp2_with (go_at_call 39; (with_reducible refine (l1In_no _ _ _ _ hh.out).mono ?_); rintro e w' ⟨rfl, rfl⟩)
    go_ret
    exact ⟨ret_int he.out.symm, rfl⟩

set_option maxHeartbeats 800000 in
theorem matchOrders_spec (h m : Int) (w : World) :
    Calls Try.prog 28 #[.int .i64 h, .int .i64 m] w fun e w' => e = .returned (.int .i64 (matOrd h m)) ∧ w = w' := by
  by_cases hh : 0 ≤ h ∧ h ≤ 6
  · by_cases hm : 0 ≤ m ∧ m ≤ h
    · have he := hide (show matOrd h m = chooseI h m * (noneF (h - m).toNat : Int) by unfold matOrd; rw [if_pos (by omega)])
      have HN := hide (l13None_c (h - m) w (by omega) (by omega))
      have HC := hide (l7Choose_c h m w (by omega))
      have bC := chooseI_bound (n := h) (k := m) (by omega)
      have bN := noneF_le (h - m) (by omega)
      obtain ⟨C, hC⟩ : ∃ C, Hid (chooseI h m = C) := ⟨_, hide rfl⟩
      obtain ⟨N, hN⟩ : ∃ N : Nat, Hid (noneF (h - m).toNat = N) := ⟨_, hide rfl⟩
      rw [hC.out] at HC bC he
      rw [hN.out] at HN bN he
      obtain ⟨c0, c1⟩ := bC
      obtain ⟨q0, q1⟩ := mul_bound c0 c1 (b := (N : Int)) (N := 265) (by omega) bN
      obtain ⟨hh0, hh1⟩ := hh
      obtain ⟨hm0, hm1⟩ := hm
      have hh := hide (show 0 ≤ h ∧ h ≤ 6 from ⟨hh0, hh1⟩)
      have hm := hide (show 0 ≤ m ∧ m ≤ h from ⟨hm0, hm1⟩)
      go_enter Try.func28, Try.ntmps28
      go_wp2_with (first | (go_at_call 39; (first | (with_reducible refine (l1In_yes _ _ _ _ hh.out).mono ?_) | (with_reducible refine (l1In_yes _ _ _ _ hm.out).mono ?_)); rintro e w' ⟨rfl, rfl⟩) | (go_at_call 40; (with_reducible refine HN.out.mono ?_); rintro e w' ⟨rfl, rfl⟩) | (go_at_call 42; (with_reducible refine HC.out.mono ?_); rintro e w' ⟨rfl, rfl⟩))
      go_ret
      exact ⟨ret_int he.out.symm, rfl⟩
    · have he := hide (show matOrd h m = -1 by unfold matOrd; rw [if_neg (by omega)])
      have hh := hide hh
      have hm := hide hm
      go_enter Try.func28, Try.ntmps28
      go_wp2_with (first | (go_at_call 39; (with_reducible refine (l1In_yes _ _ _ _ hh.out).mono ?_); rintro e w' ⟨rfl, rfl⟩) | (go_at_call 39; (with_reducible refine (l1In_no _ _ _ _ hm.out).mono ?_); rintro e w' ⟨rfl, rfl⟩))
      go_ret
      exact ⟨ret_int he.out.symm, rfl⟩
  · have he := hide (show matOrd h m = -1 by unfold matOrd; rw [if_neg (by omega)])
    have hh := hide hh
    go_enter Try.func28, Try.ntmps28
    go_wp2_with (go_at_call 39; (with_reducible refine (l1In_no _ _ _ _ hh.out).mono ?_); rintro e w' ⟨rfl, rfl⟩)
    go_ret
    exact ⟨ret_int he.out.symm, rfl⟩

set_option maxHeartbeats 1600000 in
theorem matchesOf_spec (A : Option Addr) (n c B : Nat) (row : List Int) (w : World) (h : Ints w B A n c row) :
    Calls Try.prog 19 #[.slice A n c] w fun e w' => e = .returned (.int .i64 (matW row)) ∧ w = w' := by
  have HO := hatsOk_spec A n c B row w h
  have hl := h.len
  cases hok : hatsB row with
  | false =>
    have he := hide (show matW row = -1 by unfold matW; rw [hok]; rfl)
    rw [hok] at HO
    replace HO := hide HO
    go_enter Try.func19, Try.ntmps19
    go_wp2_with fail
    refine HO.out.mono ?_
    rintro e w' ⟨rfl, rfl⟩
    go_wp2_with fail
    go_ret
    exact ⟨ret_int he.out.symm, rfl⟩
  | true =>
    have he := hide (show matW row = matTo row n by unfold matW; rw [hok, if_pos rfl, hl])
    rw [hok] at HO
    replace HO := hide HO
    have hn6 : n ≤ 6 := by have := (hats_yes hok).2.2; omega
    clear hok hl
    go_enter Try.func19, Try.ntmps19
    go_wp2_with fail
    refine HO.out.mono ?_
    rintro e w' ⟨rfl, rfl⟩
    clear HO
    go_wp2_with fail
    go_loop [3, 4] (fun t i => ∃ k T : Nat, k ≤ n ∧ T ≤ k ∧ i = .int .i64 k ∧ t = .int .i64 (T : Int) ∧ Hid ((T : Int) = matTo row k)) (fun _ i => n - (intOf i).toNat)
    case atStart => exact ⟨0, 0, Nat.zero_le _, Nat.le_refl _, rfl, rfl, hide rfl⟩
    case round =>
      obtain ⟨k, T, hk, hT, rfl, rfl, hTe⟩ := hrel
      by_cases hlt : k < n
      · obtain ⟨b, off, x, rfl, hb, hx, hcell⟩ := h.look hlt
        have hst : matTo row (k + 1) = matTo row k + if x = (k : Int) then 1 else 0 := by rw [← atI_some hx.out]; rfl
        by_cases hxk : x = (k : Int)
        · have hTn := hide (show ((T + 1 : Nat) : Int) = matTo row (k + 1) by rw [hst, if_pos hxk, ← hTe.out]; rfl)
          have hd : (x == (k : Int)) = true := by simpa using hxk
          replace hxk := hide hxk
          clear hst
          go_wp2_with fail
          go_round
          case rel => exact ⟨k + 1, T + 1, by omega, by omega, by go_num, by go_num, hTn⟩
          case measure => simp [intOf] <;> omega
        · have hTn := hide (show (T : Int) = matTo row (k + 1) by rw [hst, if_neg hxk, ← hTe.out]; omega)
          have hd : (x == (k : Int)) = false := by simpa using hxk
          clear hst
          go_wp2_with fail
          go_round
          case rel => exact ⟨k + 1, T, by omega, by omega, by go_num, rfl, hTn⟩
          case measure => simp [intOf] <;> omega
      · obtain rfl : k = n := by omega
        go_wp2_with fail
        go_ret
        exact ⟨ret_int (by rw [he.out, hTe.out]), rfl⟩

theorem round_facts {row : List Int} (h : hatsB row = true) (h1 : 1 ≤ row.length) : 1 ≤ backAt row ∧ backAt row ≤ row.length ∧ placeAt row (backAt row) = 0 ∧ (∀ j, 1 ≤ j → j < backAt row → placeAt row j ≠ 0) ∧ roundB row = decide (backAt row = row.length) := by
  have hp := hat_all hat_cnt h
  unfold hatP at hp
  rw [Bool.and_eq_true] at hp
  have hp := hp.2
  rw [show Nat.beq row.length 0 = false by cases e : row.length with | zero => omega | succ k => rfl, Bool.false_or] at hp
  simp only [Bool.and_eq_true] at hp
  obtain ⟨⟨⟨⟨a, b⟩, c⟩, d⟩, e⟩ := hp
  refine ⟨by unfold backAt; omega, Nat.le_of_ble_eq_true b, of_decide_eq_true c, fun j j1 j2 => ?_, ?_⟩
  · have := of_decide_eq_true (List.all_eq_true.1 d (j - 1) (List.mem_range.2 (by omega)))
    rwa [show j - 1 + 1 = j by omega] at this
  · rw [eq_of_beq e]
    cases hb : Nat.beq (backAt row) row.length with
    | true => rw [decide_eq_true (Nat.eq_of_beq_eq_true hb)]
    | false => rw [decide_eq_false (Nat.ne_of_beq_eq_false hb)]
theorem place_in {row : List Int} (h : hatsB row = true) (h1 : 1 ≤ row.length) (j : Nat) : 0 ≤ placeAt row j ∧ placeAt row j < (row.length : Int) := by
  induction j with
  | zero => exact ⟨Int.le_refl _, by show (0 : Int) < _; omega⟩
  | succ j ih =>
    have hlt : (placeAt row j).toNat < row.length := by omega
    have e : placeAt row (j + 1) = row[(placeAt row j).toNat] := by
      show atI row (placeAt row j).toNat = _
      exact atI_some (List.getElem?_eq_getElem hlt)
    rw [e]
    exact (hats_yes h).1 _ (List.getElem_mem hlt)
set_option maxHeartbeats 1600000 in
theorem oneRound_spec (A : Option Addr) (n c B : Nat) (row : List Int) (w : World) (h : Ints w B A n c row) :
    Calls Try.prog 31 #[.slice A n c] w fun e w' => e = .returned (.bool (roundB row)) ∧ w = w' := by
  have HO := hatsOk_spec A n c B row w h
  have hl := h.len
  cases hok : hatsB row with
  | false =>
    have he := hide (show roundB row = false by unfold roundB; rw [hok]; rfl)
    rw [hok] at HO
    replace HO := hide HO
    go_enter Try.func31, Try.ntmps31
    go_wp2_with fail
    refine HO.out.mono ?_
    rintro e w' ⟨rfl, rfl⟩
    go_wp2_with fail
    go_ret
    exact ⟨ret_bool he.out.symm, rfl⟩
  | true =>
    by_cases h0 : n = 0
    · have he := hide (show roundB row = false by unfold roundB; rw [hok, decide_eq_false (by omega)]; rfl)
      subst h0
      rw [hok] at HO
      replace HO := hide HO
      go_enter Try.func31, Try.ntmps31
      go_wp2_with fail
      refine HO.out.mono ?_
      rintro e w' ⟨rfl, rfl⟩
      go_wp2_with fail
      go_ret
      exact ⟨ret_bool he.out.symm, rfl⟩
    · obtain ⟨r1, r2, r3, r4, r5⟩ := round_facts hok (by omega)
      have hin := hide (fun j => place_in hok (by omega) j)
      have hn6 : n ≤ 6 := by have := (hats_yes hok).2.2; omega
      rw [hok] at HO
      replace HO := hide HO
      rw [hl] at r2 r5
      rw [hl] at hin
      obtain ⟨R, hR⟩ : ∃ R, Hid (backAt row = R) := ⟨_, hide rfl⟩
      rw [hR.out] at r1 r2 r3 r4 r5
      have he := hide r5
      have r3 := hide r3
      have r4 := hide r4
      clear r5 hok hl
      obtain ⟨b0, off0, x0, hA0, hb0, hx0, hcell0⟩ := h.look (show 0 < n by omega)
      subst hA0
      have hp1 := hide (show placeAt row 1 = x0 from atI_some hx0.out)
      rw [Nat.add_zero] at hcell0
      have hnd : ((n : Int) == 0) = false := by simp; omega
      go_enter Try.func31, Try.ntmps31
      go_wp2_with fail
      refine HO.out.mono ?_
      rintro e w' ⟨rfl, rfl⟩
      clear HO
      go_wp2_with fail
      go_loop [3, 4] (fun t i => ∃ k : Nat, ∃ x : Int, 1 ≤ k ∧ k ≤ R ∧ t = .int .i64 (k : Int) ∧ i = .int .i64 x ∧ Hid (placeAt row k = x)) (fun t _ => R - (intOf t).toNat)
      case atStart => exact ⟨1, x0, Nat.le_refl _, r1, rfl, rfl, hp1⟩
      case round =>
        obtain ⟨k, x, hk1, hkR, rfl, rfl, hpx⟩ := hrel
        obtain ⟨x1, x2⟩ := hin.out k
        rw [hpx.out] at x1 x2
        by_cases hlt : k < R
        · have hne : ¬ x = 0 := by have := r4.out k hk1 hlt; rwa [hpx.out] at this
          have hd : (x != 0) = true := by simpa using hne
          obtain ⟨X, rfl⟩ : ∃ X : Nat, x = (X : Int) := ⟨x.toNat, by omega⟩
          obtain ⟨b, off, y, hA, hb, hy, hcell⟩ := h.look (show X < n by omega)
          injection hA with hA
          injection hA with e1 e2 _
          subst e1; subst e2
          have hpy := hide (show placeAt row (k + 1) = y by
            show atI row (placeAt row k).toNat = y
            rw [hpx.out, Int.toNat_natCast]
            exact atI_some hy.out)
          go_wp2_with fail
          go_round
          case rel => exact ⟨k + 1, y, by omega, by omega, by go_num, rfl, hpy⟩
          case measure => simp [intOf] <;> omega
        · obtain rfl : k = R := by omega
          obtain rfl : x = 0 := by rw [← hpx.out]; exact r3.out
          have hfin := hide (show ((k : Int) == (n : Int)) = roundB row by rw [he.out, Bool.eq_iff_iff, beq_iff_eq, decide_eq_true_iff]; omega)
          go_wp2_with fail
          go_ret
          exact ⟨ret_bool hfin.out, rfl⟩
end Go.Proofs.Ytdejlalodjhlbaa
