/-
  Words, plain lemmas and contracts that belong together, joined into one file.
-/
import Derived.Test.YtdnnobkkilffbacZoks
import Derived.Test.YtdnnobkkilffbacZpl
import Derived.StillTailTactics
namespace Go.Proofs.Ytdnnobkkilffbac
open Go.RowKit

theorem coloursOk_c (a : Int) (w : World) : Calls Try.prog 19 #[.int .i64 a] w fun e w' => e = .returned (.bool (decide (1 ≤ a ∧ a ≤ 3))) ∧ w = w' := by
  by_cases h1 : 1 ≤ a
  · by_cases h2 : a ≤ 3
    · go_enter Try.func19, Try.ntmps19
      go_wp2
      go_ret
      exact ⟨ret_bool (by simp; omega), rfl⟩
    · go_enter Try.func19, Try.ntmps19
      go_wp2
      go_ret
      exact ⟨ret_bool (by simp; omega), rfl⟩
  · go_enter Try.func19, Try.ntmps19
    go_wp2
    go_ret
    exact ⟨ret_bool (by simp; omega), rfl⟩

theorem drawsOk_c (a : Int) (w : World) : Calls Try.prog 15 #[.int .i64 a] w fun e w' => e = .returned (.bool (decide (0 ≤ a ∧ a ≤ 6))) ∧ w = w' := by
  by_cases h1 : 0 ≤ a
  · by_cases h2 : a ≤ 6
    · go_enter Try.func15, Try.ntmps15
      go_wp2
      go_ret
      exact ⟨ret_bool (by simp; omega), rfl⟩
    · go_enter Try.func15, Try.ntmps15
      go_wp2
      go_ret
      exact ⟨ret_bool (by simp; omega), rfl⟩
  · go_enter Try.func15, Try.ntmps15
    go_wp2
    go_ret
    exact ⟨ret_bool (by simp; omega), rfl⟩

theorem isum_take_le {cs : List Int} (h : ∀ x ∈ cs, 0 ≤ x ∧ x ≤ 6) (k : Nat) : isum (cs.take k) ≤ isum cs := by
  have e := isum_append (cs.take k) (cs.drop k)
  rw [List.take_append_drop] at e
  have := (isum_bounds 6 (cs.drop k) (fun x hx => h x (List.mem_of_mem_drop hx))).1
  omega
theorem countRowOk_far {c : Int} {cs : List Int} {k : Nat} {x : Int} (hx : cs[k]? = some x) (h : 6 - isum (cs.take k) < x) : countRowOk c cs = false := by
  rw [Bool.eq_false_iff]
  intro hh
  obtain ⟨_, _, _, h4, h5⟩ := countRowOk_yes hh
  have h1 := isum_take_le h4 (k + 1)
  rw [isum_take_succ hx] at h1
  omega

theorem fall_next {s : Int} (h : 0 ≤ s) (k : Nat) : fall s (k + 1) = fall s k * (s - (k : Int)) := by
  rw [fall_snoc]
  rcases Int.lt_or_le s (k : Int) with h1 | h1
  · rw [(fall_zero h).2 h1, Int.zero_mul, Int.zero_mul]
  · rw [Int.max_eq_left (by omega)]

end Go.Proofs.Ytdnnobkkilffbac

namespace Go.Proofs.Ytdnnobkkilffbac
open Go.RowKit

theorem pow_le_729 (C m : Nat) (h1 : 1 ≤ C) (h3 : C ≤ 3) (h6 : m ≤ 6) : 1 ≤ C ^ m ∧ C ^ m ≤ 729 := by
  have h1 : 1 ^ m ≤ C ^ m := Nat.pow_le_pow_left h1 m
  have h2 : C ^ m ≤ 3 ^ m := Nat.pow_le_pow_left h3 m
  have h4 : 3 ^ m ≤ 3 ^ 6 := Nat.pow_le_pow_right (by omega) h6
  rw [Nat.one_pow] at h1
  exact ⟨h1, Nat.le_trans h2 h4⟩

end Go.Proofs.Ytdnnobkkilffbac

namespace Go.Proofs.Ytdnnobkkilffbac
open Go.RowKit

end Go.Proofs.Ytdnnobkkilffbac

namespace Go.Proofs.Ytdnnobkkilffbac
open Go.RowKit

theorem digs_word {C m q : Nat} (h1 : 1 ≤ C) (h3 : C ≤ 3) (h6 : m ≤ 6) : wordOk (C : Int) (digs C m q) = true :=
  wordOk_mk (by omega) (by omega) (by rw [digs_len]; exact h6) (fun j x _ hx => digs_mem (by omega) m q x (List.mem_of_getElem? hx))
theorem countsOf_digs {C m q : Nat} (h1 : 1 ≤ C) (h3 : C ≤ 3) (h6 : m ≤ 6) : countsOf (C : Int) (digs C m q) = cntL C (digs C m q) := by
  unfold countsOf; rw [if_pos (digs_word h1 h3 h6)]; rfl

theorem ways_le (zs ws : List Int) (h : ∀ z ∈ zs, z ≤ 40) : ways zs ws ≤ 40 ^ ws.length := by
  induction ws generalizing zs with
  | nil => simp [ways]
  | cons x r ih =>
    have hb : ballsAt zs x ≤ 40 := by
      unfold ballsAt
      rcases Nat.lt_or_ge x.toNat zs.length with hk | hk
      · rw [List.getElem?_eq_getElem hk]; exact h _ (List.getElem_mem hk)
      · rw [List.getElem?_eq_none hk]; decide
    have h2 := ih (zs.set x.toNat (ballsAt zs x - 1)) (fun z hz => by
      rcases List.mem_or_eq_of_mem_set hz with h3 | h3
      · exact h z h3
      · omega)
    simp only [ways, List.length_cons]
    rw [Int.pow_succ, Int.mul_comm (40 ^ r.length)]
    exact Int.mul_le_mul (by omega) h2 (ways_nonneg _ _) (by omega)
end Go.Proofs.Ytdnnobkkilffbac
