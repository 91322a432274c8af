/-
  Contracts of chapter 10, the specification's side: RunsOf, LongestRun, RunWords, RunSum.
-/
import Derived.Test.YtghaajcpmepdoaaPlainAA
import Derived.Test.YtghaajcpmepdoaaRoomS
import Derived.Test.YtghaajcpmepdoaaZword
namespace Go.Proofs.Ytghaajcpmepdoaa
open Go.RowKit
set_option linter.unusedVariables false

set_option maxHeartbeats 1600000 in
theorem runsOf_spec (c : Int) (A : Option Addr) (n cc B : Nat) (ws : List Int) (w : World) (h : Ints w B A n cc ws) :
    Calls Try.prog 13 #[.int .i64 c, .slice A n cc] w fun e w' => e = .returned (.int .i64 (runsF c ws)) ∧ ∃ q, w' = w.drewN q := by
  have HO := hide (wordOk_spec c A n cc B ws w h)
  cases hok : wordOk c ws with
  | false =>
    have he := hide (show runsF c ws = -1 by unfold runsF; rw [hok]; rfl)
    rw [hok] at HO
    go_enter Try.func13, Try.ntmps13
    go_wp2_with fail
    refine HO.out.mono ?_
    rintro e w' ⟨rfl, rfl⟩
    go_wp2_with fail
    go_ret
    exact ⟨ret_int he.out.symm, 0, rfl⟩
  | true =>
    have hl := h.len
    have he := hide (show runsF c ws = (runsTo ws n : Int) by unfold runsF; rw [hok, hl]; rfl)
    rw [hok] at HO
    have hn6 : n ≤ 6 := by have := (wordOk_yes hok).2.2.1; omega
    clear hok hl
    go_enter Try.func13, Try.ntmps13
    go_wp2_with fail
    refine HO.out.mono ?_
    rintro e w' ⟨rfl, rfl⟩
    clear HO
    go_wp2_with fail
    go_loopw [5, 6] (fun t i wr => ∃ k T q : Nat, k ≤ n ∧ T ≤ k ∧ i = .int .i64 k ∧ t = .int .i64 (T : Int) ∧ Hid (T = runsTo ws k) ∧ wr = w.drewN q) (fun _ i _ => n - (intOf i).toNat)
    case atStart => exact ⟨0, 0, 0, Nat.zero_le _, Nat.le_refl _, rfl, rfl, hide rfl, rfl⟩
    case round =>
      obtain ⟨k, T, q, hk, hT, rfl, rfl, hTe, rfl⟩ := hrel
      by_cases hlt : k < n
      · obtain ⟨b, off, x, rfl, hb, hx, hcell⟩ := h.look hlt
        rcases Nat.eq_zero_or_pos k with hk0 | hk0
        · subst hk0
          have hTn := hide (show T + 1 = runsTo ws 1 by rw [hTe.out]; rfl)
          rw [Nat.add_zero] at hcell
          go_wp2
          go_quiet (fail)
          go_wp2
          go_roundw
          case rel => exact ⟨1, T + 1, _, by omega, by omega, by go_num, by go_num, hTn, rfl⟩
          case measure => simp [intOf] <;> omega
        · obtain ⟨j, hj, hjk⟩ : ∃ j : Nat, (k : Int) - 1 = (j : Int) ∧ j = k - 1 := ⟨k - 1, by omega, rfl⟩
          obtain ⟨b', off', y, hA, hb', hy, hcell2⟩ := h.look (show j < n by omega)
          injection hA with hA
          injection hA with e1 e2 _
          subst e1; subst e2
          have hkb : ((k : Int) == 0) = false := by simp; omega
          by_cases hxy : x = y
          · have hd : (x != y) = false := by simpa using hxy
            have hTn := hide (show T = runsTo ws (k + 1) by
              have : runsTo ws (k + 1) = runsTo ws k + (if newAt ws k then 1 else 0) := rfl
              rw [this, newAt_no hk0 hx.out (hjk ▸ hy.out) hxy, ← hTe.out]; rfl)
            clear hxy
            replace hjk := hide hjk
            go_wp2
            go_quiet (fail)
            go_wp2
            go_roundw
            case rel => exact ⟨k + 1, T, _, by omega, by omega, by go_num, rfl, hTn, rfl⟩
            case measure => simp [intOf]; omega
          · have hd : (x != y) = true := by simpa using hxy
            have hTn := hide (show T + 1 = runsTo ws (k + 1) by
              have : runsTo ws (k + 1) = runsTo ws k + (if newAt ws k then 1 else 0) := rfl
              rw [this, newAt_yes hk0 hx.out (hjk ▸ hy.out) hxy, ← hTe.out]; rfl)
            clear hxy
            replace hjk := hide hjk
            go_wp2
            go_quiet (fail)
            go_wp2
            go_roundw
            case rel => exact ⟨k + 1, T + 1, _, by omega, by omega, by go_num, by go_num, hTn, rfl⟩
            case measure => simp [intOf]; omega
      · obtain rfl : k = n := by omega
        go_wp2
        go_ret
        exact ⟨ret_int (by rw [he.out, hTe.out]), _, rfl⟩

set_option maxHeartbeats 1600000 in
theorem longestRun_spec (c : Int) (A : Option Addr) (n cc B : Nat) (ws : List Int) (w : World) (h : Ints w B A n cc ws) :
    Calls Try.prog 20 #[.int .i64 c, .slice A n cc] w fun e w' => e = .returned (.int .i64 (longF c ws)) ∧ ∃ q, w' = w.drewN q := by
  have HO := hide (wordOk_spec c A n cc B ws w h)
  cases hok : wordOk c ws with
  | false =>
    have he := hide (show longF c ws = -1 by unfold longF; rw [hok]; rfl)
    rw [hok] at HO
    go_enter Try.func20, Try.ntmps20
    go_wp2_with fail
    refine HO.out.mono ?_
    rintro e w' ⟨rfl, rfl⟩
    go_wp2_with fail
    go_ret
    exact ⟨ret_int he.out.symm, 0, rfl⟩
  | true =>
    have hl := h.len
    have he := hide (show longF c ws = (streakTo ws n : Int) by unfold longF; rw [hok, hl]; rfl)
    rw [hok] at HO
    have hn6 : n ≤ 6 := by have := (wordOk_yes hok).2.2.1; omega
    clear hok hl
    have HS := hide (fun (k N : Nat) (b : Bool) (hb : newAt ws k = b) => show nowTo ws (k + 1) = (if b then 0 else nowTo ws k) + 1 by rw [← hb]; rfl)
    have HB := hide (fun (k : Nat) => show streakTo ws (k + 1) = max (streakTo ws k) (nowTo ws (k + 1)) from rfl)
    go_enter Try.func20, Try.ntmps20
    go_wp2_with fail
    refine HO.out.mono ?_
    rintro e w' ⟨rfl, rfl⟩
    clear HO
    go_wp2_with fail
    go_loopw [5, 6, 7] (fun s t i wr => ∃ k S T q : Nat, k ≤ n ∧ T ≤ k ∧ S ≤ k ∧ i = .int .i64 k ∧ s = .int .i64 (S : Int) ∧ t = .int .i64 (T : Int) ∧ Hid (T = nowTo ws k) ∧ Hid (S = streakTo ws k) ∧ wr = w.drewN q) (fun _ _ i _ => n - (intOf i).toNat)
    case atStart => exact ⟨0, 0, 0, 0, Nat.zero_le _, Nat.le_refl _, Nat.le_refl _, rfl, rfl, rfl, hide rfl, hide rfl, rfl⟩
    case round =>
      obtain ⟨k, S, T, q, hk, hT, hS, rfl, rfl, rfl, hTe, hSe, rfl⟩ := hrel
      by_cases hlt : k < n
      · obtain ⟨b, off, x, rfl, hb, hx, hcell⟩ := h.look hlt
        rcases Nat.eq_zero_or_pos k with hk0 | hk0
        · subst hk0
          obtain rfl : T = 0 := by omega
          obtain rfl : S = 0 := by omega
          have hTn := hide (show 1 = nowTo ws 1 from rfl)
          have hSn := hide (show 1 = streakTo ws 1 from rfl)
          rw [Nat.add_zero] at hcell
          go_wp2
          go_quiet (fail)
          go_wp2
          go_roundw
          case rel => exact ⟨1, 1, 1, _, by omega, by omega, by omega, by go_num, rfl, rfl, hTn, hSn, rfl⟩
          case measure => simp [intOf] <;> omega
        · obtain ⟨j, hj, hjk⟩ : ∃ j : Nat, (k : Int) - 1 = (j : Int) ∧ j = k - 1 := ⟨k - 1, by omega, rfl⟩
          obtain ⟨b', off', y, hA, hb', hy, hcell2⟩ := h.look (show j < n by omega)
          injection hA with hA
          injection hA with e1 e2 _
          subst e1; subst e2
          by_cases hxy : x = y
          · have hd : (x != y) = false := by simpa using hxy
            have hTn := hide (show T + 1 = nowTo ws (k + 1) by rw [HS.out k 0 false (newAt_no hk0 hx.out (hjk ▸ hy.out) hxy), ← hTe.out]; rfl)
            have hkp : (k : Int) > 0 := by omega
            clear hxy
            replace hjk := hide hjk
            by_cases hST : S < T + 1
            · have hSn := hide (show T + 1 = streakTo ws (k + 1) by rw [HB.out, ← hTn.out, ← hSe.out]; omega)
              go_wp2
              go_quiet (fail)
              go_wp2
              go_roundw
              case rel => exact ⟨k + 1, T + 1, T + 1, _, by omega, by omega, by omega, by go_num, by first | go_num | (simp; omega), by go_num, hTn, hSn, rfl⟩
              case measure => simp [intOf]; omega
            · have hSn := hide (show S = streakTo ws (k + 1) by rw [HB.out, ← hTn.out, ← hSe.out]; omega)
              go_wp2
              go_quiet (fail)
              go_wp2
              go_roundw
              case rel => exact ⟨k + 1, S, T + 1, _, by omega, by omega, by omega, by go_num, by first | rfl | go_num | (simp; omega), by go_num, hTn, hSn, rfl⟩
              case measure => simp [intOf]; omega
          · have hd : (x != y) = true := by simpa using hxy
            have hTn := hide (show 1 = nowTo ws (k + 1) by rw [HS.out k 0 true (newAt_yes hk0 hx.out (hjk ▸ hy.out) hxy)]; rfl)
            have hkp : (k : Int) > 0 := by omega
            clear hxy
            replace hjk := hide hjk
            by_cases hST : S < 1
            · have hSn := hide (show 1 = streakTo ws (k + 1) by rw [HB.out, ← hTn.out, ← hSe.out]; omega)
              go_wp2
              go_quiet (fail)
              go_wp2
              go_roundw
              case rel => exact ⟨k + 1, 1, 1, _, by omega, by omega, by omega, by go_num, by first | rfl | go_num | (simp; omega), rfl, hTn, hSn, rfl⟩
              case measure => simp [intOf]; omega
            · have hSn := hide (show S = streakTo ws (k + 1) by rw [HB.out, ← hTn.out, ← hSe.out]; omega)
              go_wp2
              go_quiet (fail)
              go_wp2
              go_roundw
              case rel => exact ⟨k + 1, S, 1, _, by omega, by omega, by omega, by go_num, by first | rfl | go_num | (simp; omega), rfl, hTn, hSn, rfl⟩
              case measure => simp [intOf]; omega
      · obtain rfl : k = n := by omega
        go_wp2
        go_ret
        exact ⟨ret_int (by rw [he.out, hSe.out]), _, rfl⟩

theorem chooseI_bound {n k : Int} (hn : n ≤ 30) : 0 ≤ chooseI n k ∧ chooseI n k ≤ 200000000 := by
  by_cases h : k < 0 ∨ k > n
  · rw [chooseI_out h]; omega
  · obtain ⟨N, rfl⟩ : ∃ N : Nat, n = (N : Int) := ⟨n.toNat, by omega⟩
    obtain ⟨K, rfl⟩ : ∃ K : Nat, k = (K : Int) := ⟨k.toNat, by omega⟩
    rw [chooseI_in (by omega)]
    have := choose_bound (n := N) (k := K) (j := K) (by omega) (by omega) (Nat.le_refl _)
    unfold chooseN
    omega
theorem ints_lit2 {w : World} {x y : Int} (hx : (Lit.int .i64 x).wf = true) (hy : (Lit.int .i64 y).wf = true) : Ints (w.alloc (.cells #[.int .i64 x, .int .i64 y] 3)) (w.heap.size + 1) (some ⟨w.heap.size, 0, none⟩) 2 2 [x, y] :=
  ((ints_lit (w := w) [x, y] (by intro z hz; simp at hz; rcases hz with rfl | rfl; exact hx; exact hy) (by simp) rfl).ints).more (by simp)

set_option maxHeartbeats 1600000 in
theorem runWords_spec (f s r : Int) (w : World) (wf0 : (Lit.int .i64 f).wf = true) (wf1 : (Lit.int .i64 s).wf = true) :
    Calls Try.prog 23 #[.int .i64 f, .int .i64 s, .int .i64 r] w fun e w' => e = .returned (.int .i64 (runW f s r)) ∧ Below w.heap.size w w' := by
  have HO := hide (countRowOk_spec 2 _ 2 2 _ [f, s] (w.alloc (.cells #[.int .i64 f, .int .i64 s] 3)) (ints_lit2 wf0 wf1))
  rw [pairOk_row] at HO
  cases hok : pairOk f s with
  | false =>
    have he := hide (show runW f s r = -1 by unfold runW; rw [hok]; rfl)
    rw [hok] at HO
    go_enter Try.func23, Try.ntmps23
    go_wp2_with fail
    refine HO.out.mono ?_
    rintro e w' ⟨rfl, rfl⟩
    go_wp2_with fail
    go_ret
    exact ⟨ret_int he.out.symm, al w _⟩
  | true =>
    rw [hok] at HO
    by_cases hr : r < 0
    · have he := hide (show runW f s r = -1 by unfold runW; rw [hok, decide_eq_false (by omega)]; rfl)
      clear hok
      go_enter Try.func23, Try.ntmps23
      go_wp2_with (go_at_call 41; refine HO.out.mono ?_; rintro e w' ⟨rfl, rfl⟩)
      go_ret
      exact ⟨ret_int he.out.symm, al w _⟩
    · have hfs := of_decide_eq_true hok
      obtain ⟨F, rfl⟩ : ∃ F : Nat, f = (F : Int) := ⟨f.toNat, by omega⟩
      obtain ⟨S, rfl⟩ : ∃ S : Nat, s = (S : Int) := ⟨s.toNat, by omega⟩
      obtain ⟨R, rfl⟩ : ∃ R : Nat, r = (R : Int) := ⟨r.toNat, by omega⟩
      have he := hide (show runW (F : Int) (S : Int) (R : Int) = runN F S R by unfold runW; rw [hok, decide_eq_true (by omega), Int.toNat_natCast, Int.toNat_natCast, Int.toNat_natCast]; rfl)
      have hFS : F + S ≤ 6 := by omega
      rw [he.out]
      clear hok hfs he hr
      by_cases h0 : F = 0 ∨ S = 0
      · have hrn : runN F S R = if R = min (F + S) 1 then 1 else 0 := by unfold runN; rw [if_pos h0]
        by_cases hs0 : F + S = 0
        · obtain rfl : F = 0 := by omega
          obtain rfl : S = 0 := by omega
          by_cases hR : R = 0
          · subst hR
            have hres := hide (show runN 0 0 0 = 1 from rfl)
            clear hrn h0 hs0
            go_enter Try.func23, Try.ntmps23
            go_wp2_with (go_at_call 41; refine HO.out.mono ?_; rintro e w' ⟨rfl, rfl⟩)
            go_ret
            exact ⟨ret_int hres.out.symm, al w _⟩
          · have hRb : ((R : Int) == 0) = false := by simp; omega
            have hres := hide (show runN 0 0 R = 0 by rw [hrn, if_neg (by omega)])
            clear hrn h0 hs0 hR
            go_enter Try.func23, Try.ntmps23
            go_wp2_with (go_at_call 41; refine HO.out.mono ?_; rintro e w' ⟨rfl, rfl⟩)
            go_ret
            exact ⟨ret_int hres.out.symm, al w _⟩
        · have hmin : min (F + S) 1 = 1 := by omega
          rw [hmin] at hrn
          clear hmin
          by_cases hF : F = 0
          · subst hF
            have hlt0 : 0 < S := by omega
            rcases (show S = 1 ∨ 2 ≤ S by omega) with hS | hS
            · subst hS
              by_cases hR : R = 1
              · subst hR
                have hres := hide (show runN 0 1 1 = 1 by rw [hrn, if_pos rfl])
                clear hrn h0 hs0 hlt0
                go_enter Try.func23, Try.ntmps23
                go_wp2_with (go_at_call 41; refine HO.out.mono ?_; rintro e w' ⟨rfl, rfl⟩)
                go_ret
                exact ⟨ret_int hres.out.symm, al w _⟩
              · have hRb : ((R : Int) == 1) = false := by simp; omega
                have hres := hide (show runN 0 1 R = 0 by rw [hrn, if_neg hR])
                clear hrn h0 hs0 hR hlt0
                go_enter Try.func23, Try.ntmps23
                go_wp2_with (go_at_call 41; refine HO.out.mono ?_; rintro e w' ⟨rfl, rfl⟩)
                go_ret
                exact ⟨ret_int hres.out.symm, al w _⟩
            · have hS1 : 1 < (S : Int) := by omega
              clear hS
              by_cases hR : R = 1
              · subst hR
                have hres := hide (show runN 0 S 1 = 1 by rw [hrn, if_pos rfl])
                clear hrn h0 hs0 hlt0
                go_enter Try.func23, Try.ntmps23
                go_wp2_with (go_at_call 41; refine HO.out.mono ?_; rintro e w' ⟨rfl, rfl⟩)
                go_ret
                exact ⟨ret_int hres.out.symm, al w _⟩
              · have hRb : ((R : Int) == 1) = false := by simp; omega
                have hres := hide (show runN 0 S R = 0 by rw [hrn, if_neg hR])
                clear hrn h0 hs0 hR hlt0
                go_enter Try.func23, Try.ntmps23
                go_wp2_with (go_at_call 41; refine HO.out.mono ?_; rintro e w' ⟨rfl, rfl⟩)
                go_ret
                exact ⟨ret_int hres.out.symm, al w _⟩
          · obtain rfl : S = 0 := by omega
            have hFb : ((F : Int) == 0) = false := by simp; omega
            have hlt0 : 0 < F := by omega
            clear hF
            rcases (show F = 1 ∨ 2 ≤ F by omega) with hS | hS
            · subst hS
              clear hFb
              by_cases hR : R = 1
              · subst hR
                have hres := hide (show runN 1 0 1 = 1 by rw [hrn, if_pos rfl])
                clear hrn h0 hs0 hlt0
                go_enter Try.func23, Try.ntmps23
                go_wp2_with (go_at_call 41; refine HO.out.mono ?_; rintro e w' ⟨rfl, rfl⟩)
                go_ret
                exact ⟨ret_int hres.out.symm, al w _⟩
              · have hRb : ((R : Int) == 1) = false := by simp; omega
                have hres := hide (show runN 1 0 R = 0 by rw [hrn, if_neg hR])
                clear hrn h0 hs0 hR hlt0
                go_enter Try.func23, Try.ntmps23
                go_wp2_with (go_at_call 41; refine HO.out.mono ?_; rintro e w' ⟨rfl, rfl⟩)
                go_ret
                exact ⟨ret_int hres.out.symm, al w _⟩
            · have hS1 : 1 < (F : Int) := by omega
              clear hS
              by_cases hR : R = 1
              · subst hR
                have hres := hide (show runN F 0 1 = 1 by rw [hrn, if_pos rfl])
                clear hrn h0 hs0 hlt0
                go_enter Try.func23, Try.ntmps23
                go_wp2_with (go_at_call 41; refine HO.out.mono ?_; rintro e w' ⟨rfl, rfl⟩)
                go_ret
                exact ⟨ret_int hres.out.symm, al w _⟩
              · have hRb : ((R : Int) == 1) = false := by simp; omega
                have hres := hide (show runN F 0 R = 0 by rw [hrn, if_neg hR])
                clear hrn h0 hs0 hR hlt0
                go_enter Try.func23, Try.ntmps23
                go_wp2_with (go_at_call 41; refine HO.out.mono ?_; rintro e w' ⟨rfl, rfl⟩)
                go_ret
                exact ⟨ret_int hres.out.symm, al w _⟩
      · have hFb : ((F : Int) == 0) = false := by simp; omega
        have hSb : ((S : Int) == 0) = false := by simp; omega
        by_cases hR6 : 6 < R
        · have hres := hide (show runN F S R = 0 by unfold runN; rw [if_neg h0, if_pos hR6])
          clear h0
          go_enter Try.func23, Try.ntmps23
          go_wp2_with (go_at_call 41; refine HO.out.mono ?_; rintro e w' ⟨rfl, rfl⟩)
          go_ret
          exact ⟨ret_int hres.out.symm, al w _⟩
        · have hrn := hide (show runN F S R = if R % 2 = 0 then 2 * chooseI ((F : Int) - 1) ((R / 2 : Nat) - 1 : Int) * chooseI ((S : Int) - 1) ((R / 2 : Nat) - 1 : Int) else chooseI ((F : Int) - 1) ((R / 2 : Nat) : Int) * chooseI ((S : Int) - 1) ((R / 2 : Nat) - 1 : Int) + chooseI ((F : Int) - 1) ((R / 2 : Nat) - 1 : Int) * chooseI ((S : Int) - 1) ((R / 2 : Nat) : Int) by unfold runN; rw [if_neg h0, if_neg hR6])
          have HB := hide (fun (a b : Int) (ha : a ≤ 30) => chooseI_bound (n := a) (k := b) ha)
          clear h0
          have hFs := HB.out ((F : Int) - 1) ((R / 2 : Nat) - 1 : Int) (by omega)
          have hFh := HB.out ((F : Int) - 1) ((R / 2 : Nat) : Int) (by omega)
          have hSs := HB.out ((S : Int) - 1) ((R / 2 : Nat) - 1 : Int) (by omega)
          have hSh := HB.out ((S : Int) - 1) ((R / 2 : Nat) : Int) (by omega)
          have HC1 := hide (fun (W : World) => l7Choose_c ((F : Int) - 1) ((R / 2 : Nat) - 1 : Int) W (by omega))
          have HC2 := hide (fun (W : World) => l7Choose_c ((F : Int) - 1) ((R / 2 : Nat) : Int) W (by omega))
          have HC3 := hide (fun (W : World) => l7Choose_c ((S : Int) - 1) ((R / 2 : Nat) - 1 : Int) W (by omega))
          have HC4 := hide (fun (W : World) => l7Choose_c ((S : Int) - 1) ((R / 2 : Nat) : Int) W (by omega))
          obtain ⟨cFs, e1⟩ : ∃ v, Hid (chooseI ((F : Int) - 1) ((R / 2 : Nat) - 1 : Int) = v) := ⟨_, hide rfl⟩
          obtain ⟨cFh, e2⟩ : ∃ v, Hid (chooseI ((F : Int) - 1) ((R / 2 : Nat) : Int) = v) := ⟨_, hide rfl⟩
          obtain ⟨cSs, e3⟩ : ∃ v, Hid (chooseI ((S : Int) - 1) ((R / 2 : Nat) - 1 : Int) = v) := ⟨_, hide rfl⟩
          obtain ⟨cSh, e4⟩ : ∃ v, Hid (chooseI ((S : Int) - 1) ((R / 2 : Nat) : Int) = v) := ⟨_, hide rfl⟩
          rw [e1.out] at hrn hFs HC1
          rw [e2.out] at hrn hFh HC2
          rw [e3.out] at hrn hSs HC3
          rw [e4.out] at hrn hSh HC4
          obtain ⟨H, hH⟩ : ∃ H : Nat, Hid (R / 2 = H) := ⟨_, hide rfl⟩
          rw [hH.out] at HC1 HC2 HC3 HC4
          have hdv := hide (show (R : Int) / 2 = (H : Int) by rw [← hH.out]; rfl)
          have hH3 : H ≤ 3 := by have := hH.out; omega
          obtain ⟨p1, p2⟩ := mul_bound hFs.1 hFs.2 hSs.1 hSs.2
          obtain ⟨p3, p4⟩ := mul_bound hFh.1 hFh.2 hSs.1 hSs.2
          obtain ⟨p5, p6⟩ := mul_bound hFs.1 hFs.2 hSh.1 hSh.2
          obtain ⟨a1, a2⟩ := hFs
          obtain ⟨b1, b2⟩ := hFh
          obtain ⟨c1, c2⟩ := hSs
          obtain ⟨d1, d2⟩ := hSh
          have p7 : 2 * cFs * cSs = 2 * (cFs * cSs) := Int.mul_assoc _ _ _
          clear HB
          by_cases hev : R % 2 = 0
          · have hres := hide (show runN F S R = 2 * cFs * cSs by rw [hrn.out, if_pos hev])
            have hmd : (R : Int) % 2 = 0 := by omega
            clear hev hrn
            go_enter Try.func23, Try.ntmps23
            go_wp2_with (go_at_call 41; refine HO.out.mono ?_; rintro e w' ⟨rfl, rfl⟩)
            rw [hdv.out]
            refine (HC1.out _).mono ?_
            rintro e w' ⟨rfl, rfl⟩
            go_wp2_with fail
            refine (HC3.out _).mono ?_
            rintro e w' ⟨rfl, rfl⟩
            go_wp2_with fail
            go_ret
            exact ⟨ret_int (p7.symm.trans hres.out.symm), al w _⟩
          · have hres := hide (show runN F S R = cFh * cSs + cFs * cSh by rw [hrn.out, if_neg hev])
            have hmd : (R : Int) % 2 = 1 := by omega
            clear hev hrn
            go_enter Try.func23, Try.ntmps23
            go_wp2_with (go_at_call 41; refine HO.out.mono ?_; rintro e w' ⟨rfl, rfl⟩)
            rw [hdv.out]
            refine (HC2.out _).mono ?_
            rintro e w' ⟨rfl, rfl⟩
            go_wp2_with fail
            refine (HC3.out _).mono ?_
            rintro e w' ⟨rfl, rfl⟩
            go_wp2_with fail
            refine (HC1.out _).mono ?_
            rintro e w' ⟨rfl, rfl⟩
            go_wp2_with fail
            refine (HC4.out _).mono ?_
            rintro e w' ⟨rfl, rfl⟩
            go_wp2_with fail
            go_ret
            exact ⟨ret_int hres.out.symm, al w _⟩

set_option maxHeartbeats 1600000 in
theorem runSum_spec (f s : Int) (w : World) (wf0 : (Lit.int .i64 f).wf = true) (wf1 : (Lit.int .i64 s).wf = true) :
    Calls Try.prog 31 #[.int .i64 f, .int .i64 s] w fun e w' => e = .returned (.int .i64 (runS f s)) ∧ Below w.heap.size w w' := by
  have HO := hide (countRowOk_spec 2 _ 2 2 _ [f, s] (w.alloc (.cells #[.int .i64 f, .int .i64 s] 3)) (ints_lit2 wf0 wf1))
  rw [pairOk_row] at HO
  cases hok : pairOk f s with
  | false =>
    have he := hide (show runS f s = -1 by unfold runS; rw [hok]; rfl)
    rw [hok] at HO
    go_enter Try.func31, Try.ntmps31
    go_wp2_with fail
    refine HO.out.mono ?_
    rintro e w' ⟨rfl, rfl⟩
    go_wp2_with fail
    go_ret
    exact ⟨ret_int he.out.symm, al w _⟩
  | true =>
    rw [hok] at HO
    have hfs := of_decide_eq_true hok
    obtain ⟨F, rfl⟩ : ∃ F : Nat, f = (F : Int) := ⟨f.toNat, by omega⟩
    obtain ⟨S, rfl⟩ : ∃ S : Nat, s = (S : Int) := ⟨s.toNat, by omega⟩
    have hFS : F + S ≤ 6 := by omega
    have he := hide (show runS (F : Int) (S : Int) = runSumTo F S (F + S + 1) by unfold runS; rw [hok, Int.toNat_natCast, Int.toNat_natCast]; rfl)
    have HR := hide (fun (k : Nat) (W : World) => runWords_spec (F : Int) (S : Int) (k : Int) W wf0 wf1)
    have HE := hide (fun (k : Nat) => show runW (F : Int) (S : Int) (k : Int) = runN F S k by unfold runW; rw [hok, decide_eq_true (by omega), Int.toNat_natCast, Int.toNat_natCast, Int.toNat_natCast]; rfl)
    have HF := hide (fun (k : Nat) (hk : k ≤ 6) => run_facts hFS hk)
    rw [he.out]
    obtain ⟨N, hN⟩ : ∃ N : Nat, F + S = N := ⟨_, rfl⟩
    have hNi : (F : Int) + (S : Int) = (N : Int) := by omega
    rw [hN]
    clear hok hfs he
    have hN6 : N ≤ 6 := by omega
    replace hN := hide hN
    go_enter Try.func31, Try.ntmps31
    go_wp2_with fail
    refine HO.out.mono ?_
    rintro e w' ⟨rfl, rfl⟩
    have hb0 := hide (al w (.cells #[.int .i64 (F : Int), .int .i64 (S : Int)] 3))
    clear HO
    go_wp2_with fail
    go_loopw [5, 6] (fun t i wr => ∃ k : Nat, ∃ Z : Int, k ≤ N + 1 ∧ i = .int .i64 k ∧ t = .int .i64 Z ∧ Hid (Z = runSumTo F S k) ∧ Hid (Below w.heap.size w wr)) (fun _ i _ => N + 1 - (intOf i).toNat)
    case atStart => exact ⟨0, 0, Nat.zero_le _, rfl, rfl, hide rfl, hb0⟩
    case round =>
      clear hb0
      obtain ⟨k, Z, hk, rfl, rfl, hZ, hb⟩ := hrel
      by_cases hlt : k < N + 1
      · obtain ⟨r0, r1, z0, z1, _, _⟩ := HF.out k (by omega)
        have HRk := HR.out k wr
        rw [HE.out] at HRk
        rw [← hZ.out] at z0 z1
        have hZn := hide (show Z + (k : Int) * runN F S k = runSumTo F S (k + 1) by rw [hZ.out]; rfl)
        obtain ⟨T, hT⟩ : ∃ T, Hid (runN F S k = T) := ⟨_, hide rfl⟩
        rw [hT.out] at HRk hZn r0 r1
        obtain ⟨m0, m1⟩ := mul_bound (a := (k : Int)) (M := 6) (by omega) (by omega) r0 r1
        replace HRk := hide HRk
        have hcond : (k : Int) ≤ (N : Int) := by omega
        go_wp2_with fail
        refine HRk.out.mono ?_
        rintro e w2 ⟨rfl, hq⟩
        have hb2 := hide (upB hb.out hq)
        clear hq
        go_wp2_with fail
        go_roundw
        case rel => exact ⟨k + 1, _, by omega, by go_num, rfl, hZn, hb2⟩
        case measure => simp [intOf]; omega
      · obtain rfl : k = N + 1 := by omega
        go_wp2
        go_ret
        exact ⟨ret_int hZ.out, hb.out⟩
end Go.Proofs.Ytghaajcpmepdoaa
