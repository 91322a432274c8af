/-
  Contracts of chapter 2, the program's side: sumOverWords, WordsWith, CountWays (written by wip/gen_impd.py).
-/
import Derived.Test.YthdelfhfglnhfaaImpC
namespace Go.Proofs.Ythdelfhfglnhfaa
open Go.RowKit

theorem digs_word {C m q : Nat} (h1 : 1 ≤ C) (h3 : C ≤ 3) (h6 : m ≤ 6) : wordOk (C : Int) (digs C m q) = true :=
  wordOk_mk (by omega) (by omega) (by rw [digs_len]; exact h6) (fun j x _ hx => digs_mem (by omega) m q x (List.mem_of_getElem? hx))
theorem countsOf_digs {C m q : Nat} (h1 : 1 ≤ C) (h3 : C ≤ 3) (h6 : m ≤ 6) : countsOf (C : Int) (digs C m q) = cntL C (digs C m q) := by
  unfold countsOf; rw [if_pos (digs_word h1 h3 h6)]; rfl

theorem ways_le (zs ws : List Int) (h : ∀ z ∈ zs, z ≤ 40) : ways zs ws ≤ 40 ^ ws.length := by
  induction ws generalizing zs with
  | nil => simp [ways]
  | cons x r ih =>
    have hb : ballsAt zs x ≤ 40 := by
      unfold ballsAt
      rcases Nat.lt_or_ge x.toNat zs.length with hk | hk
      · rw [List.getElem?_eq_getElem hk]; exact h _ (List.getElem_mem hk)
      · rw [List.getElem?_eq_none hk]; decide
    have h2 := ih (zs.set x.toNat (ballsAt zs x - 1)) (fun z hz => by
      rcases List.mem_or_eq_of_mem_set hz with h3 | h3
      · exact h z h3
      · omega)
    simp only [ways, List.length_cons]
    rw [Int.pow_succ, Int.mul_comm (40 ^ r.length)]
    exact Int.mul_le_mul (by omega) h2 (ways_nonneg _ _) (by omega)
theorem wordOk_impl (cl : Int) (A : Option Addr) (n c B : Nat) (ws : List Int) (w : World) (h : Ints w B A n c ws) (_hB : B ≤ w.heap.size) :
    Calls Try.prog 56 #[.int .i64 cl, .slice A n c] w fun e w' => e = .returned (.bool (wordOk cl ws)) ∧ Below w.heap.size w w' := sameB (wordOk_impl0 cl A n c B ws w h)
end Go.Proofs.Ythdelfhfglnhfaa
