/-
  Contracts of chapter 2, the program's side: WordOk, CountRowOk, AllWays, SameApart.
-/
import Derived.Test.YtfencbfjnifmjabZoks
import Derived.Test.YtfencbfjnifmjabZpl
namespace Go.Proofs.Ytfencbfjnifmjab
open Go.RowKit

theorem isum_take_le {cs : List Int} (h : ∀ x ∈ cs, 0 ≤ x ∧ x ≤ 6) (k : Nat) : isum (cs.take k) ≤ isum cs := by
  have e := isum_append (cs.take k) (cs.drop k)
  rw [List.take_append_drop] at e
  have := (isum_bounds 6 (cs.drop k) (fun x hx => h x (List.mem_of_mem_drop hx))).1
  omega
theorem countRowOk_far {c : Int} {cs : List Int} {k : Nat} {x : Int} (hx : cs[k]? = some x) (h : 6 - isum (cs.take k) < x) : countRowOk c cs = false := by
  rw [Bool.eq_false_iff]
  intro hh
  obtain ⟨_, _, _, h4, h5⟩ := countRowOk_yes hh
  have h1 := isum_take_le h4 (k + 1)
  rw [isum_take_succ hx] at h1
  omega

theorem fall_next {s : Int} (h : 0 ≤ s) (k : Nat) : fall s (k + 1) = fall s k * (s - (k : Int)) := by
  rw [fall_snoc]
  rcases Int.lt_or_le s (k : Int) with h1 | h1
  · rw [(fall_zero h).2 h1, Int.zero_mul, Int.zero_mul]
  · rw [Int.max_eq_left (by omega)]

set_option maxHeartbeats 800000 in
theorem stepP_c (z s : Int) (m : Nat) (w : World) (h0 : 0 ≤ z) (h1 : z ≤ 120) (hm : m ≤ 6) (s0 : -1 ≤ s) (s1 : s ≤ 3) :
    Calls Try.prog 42 #[.int .i64 z, .int .i64 m, .int .i64 s] w fun e w' => e = .returned (.int .i64 (ris s z m)) ∧ w = w' := by
  have HN := hide (ris_next h0 s0)
  have HB := hide (fun k (hk : k ≤ 6) => ris_bound120 (s := s) (z := z) (m := k) s1 h1 hk)
  have HM := hide (fun (k : Nat) (hk : k ≤ 6) => show -6 ≤ (k : Int) * s ∧ (k : Int) * s ≤ 24 from by
    have a := mul_bound (a := (k : Int)) (M := 6) (by omega) (by omega) (b := s + 1) (N := 4) (by omega) (by omega)
    rw [Int.mul_add] at a
    omega)
  go_enter Try.func42, Try.ntmps42
  go_wp2
  go_loop [7, 10] (fun t i => ∃ k : Nat, ∃ P : Int, k ≤ m ∧ i = .int .i64 k ∧ t = .int .i64 P ∧ Hid (P = ris s z k)) (fun _ i => m - (intOf i).toNat)
  case atStart => exact ⟨0, 1, Nat.zero_le _, rfl, rfl, hide rfl⟩
  case round =>
    obtain ⟨k, P, hk, rfl, rfl, hP⟩ := hrel
    by_cases hlt : k < m
    · obtain ⟨c0, c1⟩ := HB.out (k + 1) (by omega)
      obtain ⟨d0, d1⟩ := HM.out k (by omega)
      have hst := hide (HN.out k)
      rw [← hP.out] at hst
      rw [hst.out] at c0 c1
      go_wp2
      go_round
      case rel => exact ⟨k + 1, P * (z + (k : Int) * s), by omega, by go_num, rfl, hide hst.out.symm⟩
      case measure => simp [intOf]; omega
    · obtain rfl : k = m := by omega
      go_wp2
      go_ret
      exact ⟨ret_int hP.out, rfl⟩
theorem fallP_c (s : Int) (m : Nat) (w : World) (h0 : 0 ≤ s) (h1 : s ≤ 120) (hm : m ≤ 6) :
    Calls Try.prog 42 #[.int .i64 s, .int .i64 m, .int .i64 (-1)] w fun e w' => e = .returned (.int .i64 (fall s m)) ∧ w = w' := by
  have := stepP_c s (-1) m w h0 h1 hm (by decide) (by decide)
  rwa [ris_fall] at this

end Go.Proofs.Ytfencbfjnifmjab
