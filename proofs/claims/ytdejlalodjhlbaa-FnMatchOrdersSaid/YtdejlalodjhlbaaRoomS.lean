/-
  Contracts of chapter 7, the specification's side: l7Choose, RoomRowOk, l7Step, RoomStep, RoomAfter, RestRow, LeanAfter.
-/
import Derived.Test.YtdejlalodjhlbaaPlainY
import Derived.Test.YtdejlalodjhlbaaZoks
import Derived.Test.YtdejlalodjhlbaaZpl
import Derived.Test.YtdejlalodjhlbaaZdraw
import Derived.BigQuiet
import Derived.RegionTactic
namespace Go.Proofs.Ytdejlalodjhlbaa
open Go.RowKit
set_option linter.unusedVariables false

theorem l1In_yes (a lo hi : Int) (w : World) (h : lo ≤ a ∧ a ≤ hi) : Calls Try.prog 39 #[.int .i64 a, .int .i64 lo, .int .i64 hi] w fun e w' => e = .returned (.bool true) ∧ w = w' := by
  have := l1In_c a lo hi w
  rwa [decide_eq_true h] at this
theorem l1In_no (a lo hi : Int) (w : World) (h : ¬(lo ≤ a ∧ a ≤ hi)) : Calls Try.prog 39 #[.int .i64 a, .int .i64 lo, .int .i64 hi] w fun e w' => e = .returned (.bool false) ∧ w = w' := by
  have := l1In_c a lo hi w
  rwa [decide_eq_false h] at this
theorem roomOk_bad {m : Int} {row : List Int} {k : Nat} {x : Int} (hx : row[k]? = some x) (h : ¬(0 ≤ x ∧ x ≤ 10000000)) : roomOk m row = false := by
  unfold roomOk
  have : row.all okX = false := List.all_eq_false.2 ⟨x, List.mem_of_getElem? hx, by simpa [okX] using h⟩
  rw [this, Bool.and_false]
theorem roomOk_end {m : Int} {row : List Int} (h : ∀ (k : Nat) x, row[k]? = some x → 0 ≤ x ∧ x ≤ 10000000) : roomOk m row = decide (1 ≤ m ∧ m ≤ 6 ∧ (row.length : Int) = m + 1) := by
  unfold roomOk
  have : row.all okX = true := List.all_eq_true.2 fun x hx => by
    obtain ⟨k, hk, rfl⟩ := List.getElem_of_mem hx
    exact decide_eq_true (h k _ (List.getElem?_eq_getElem hk))
  rw [this, Bool.and_true]

set_option maxHeartbeats 800000 in
theorem l7Choose_c (n k : Int) (w : World) (hn : n ≤ 30) :
    Calls Try.prog 42 #[.int .i64 n, .int .i64 k] w fun e w' => e = .returned (.int .i64 (chooseI n k)) ∧ w = w' := by
  by_cases h0 : k < 0
  · have he := hide (chooseI_out (n := n) (.inl h0))
    go_enter Try.func42, Try.ntmps42
    go_wp2
    go_ret
    exact ⟨ret_int he.out.symm, rfl⟩
  · by_cases h1 : k > n
    · have he := hide (chooseI_out (n := n) (.inr h1))
      go_enter Try.func42, Try.ntmps42
      go_wp2
      go_ret
      exact ⟨ret_int he.out.symm, rfl⟩
    · obtain ⟨N, rfl⟩ : ∃ N : Nat, n = (N : Int) := ⟨n.toNat, by omega⟩
      obtain ⟨K, rfl⟩ : ∃ K : Nat, k = (K : Int) := ⟨k.toNat, by omega⟩
      have hKN : K ≤ N := by omega
      have hN30 : N ≤ 30 := by omega
      have he := hide (chooseI_in hKN)
      have HB := hide (fun (j : Nat) (hj : j ≤ K) => choose_bound hN30 hKN hj)
      have HS := hide (fun (j : Nat) => show chooseTo N K (j + 1) = chooseTo N K j * (N - K + (j + 1)) / (j + 1) from rfl)
      clear hn
      go_enter Try.func42, Try.ntmps42
      go_wp2
      go_loop [5, 6] (fun t i => ∃ j P : Nat, j ≤ K ∧ i = .int .i64 ((j : Int) + 1) ∧ t = .int .i64 (P : Int) ∧ Hid (P = chooseTo N K j)) (fun _ i => K + 1 - (intOf i).toNat)
      case atStart => exact ⟨0, 1, Nat.zero_le _, rfl, rfl, hide rfl⟩
      case round =>
        obtain ⟨j, P, hj, rfl, rfl, hP⟩ := hrel
        by_cases hlt : j < K
        · have hPb := HB.out j hj
          have hQb := HB.out (j + 1) hlt
          rw [HS.out, ← hP.out] at hQb
          rw [← hP.out] at hPb
          obtain ⟨Q, hQ⟩ : ∃ Q : Nat, Hid (P * (N - K + (j + 1)) / (j + 1) = Q) := ⟨_, hide rfl⟩
          rw [hQ.out] at hQb
          have hne : ((j : Int) + 1 == 0) = false := by simp; omega
          have hm := mul_bound (a := (P : Int)) (M := 200000000) (by omega) (by omega) (b := (N : Int) - (K : Int) + ((j : Int) + 1)) (N := 40) (by omega) (by omega)
          obtain ⟨q0, q1⟩ := hm
          have hw1 := hide (show (P : Int) * ((N : Int) - (K : Int) + ((j : Int) + 1)) / ((j : Int) + 1) = (Q : Int) by
            rw [← hQ.out, Int.natCast_ediv, Int.natCast_mul, Int.natCast_add (N - K), Int.natCast_sub hKN]
            rfl)
          have hQ2 := hide (show Q = chooseTo N K (j + 1) by rw [HS.out, ← hP.out, hQ.out])
          clear hQ
          go_wp2
          rw [hw1.out]
          go_round
          case rel => exact ⟨j + 1, Q, by omega, by go_num, rfl, hQ2⟩
          case measure => simp [intOf]; omega
        · obtain rfl : j = K := by omega
          go_wp2
          go_ret
          exact ⟨ret_int (by rw [he.out, hP.out]; rfl), rfl⟩

end Go.Proofs.Ytdejlalodjhlbaa
