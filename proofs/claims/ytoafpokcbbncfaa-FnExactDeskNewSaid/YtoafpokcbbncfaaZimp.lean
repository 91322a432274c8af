/-
  Words, plain lemmas and contracts that belong together, joined into one file.
-/
import Derived.Test.YtoafpokcbbncfaaZoks
import Derived.Test.YtoafpokcbbncfaaZpl
import Derived.StillTailTactics
namespace Go.Proofs.Ytoafpokcbbncfaa
open Go.RowKit

theorem coloursOk_c (a : Int) (w : World) : Calls Try.prog 40 #[.int .i64 a] w fun e w' => e = .returned (.bool (decide (1 ≤ a ∧ a ≤ 3))) ∧ w = w' := by
  by_cases h1 : 1 ≤ a
  · by_cases h2 : a ≤ 3
    · go_enter Try.func40, Try.ntmps40
      go_wp2
      go_ret
      exact ⟨ret_bool (by simp; omega), rfl⟩
    · go_enter Try.func40, Try.ntmps40
      go_wp2
      go_ret
      exact ⟨ret_bool (by simp; omega), rfl⟩
  · go_enter Try.func40, Try.ntmps40
    go_wp2
    go_ret
    exact ⟨ret_bool (by simp; omega), rfl⟩

set_option maxHeartbeats 800000 in
theorem wordOk_impl0 (cl : Int) (A : Option Addr) (n c B : Nat) (ws : List Int) (w : World) (h : Ints w B A n c ws) :
    Calls Try.prog 38 #[.int .i64 cl, .slice A n c] w fun e w' => e = .returned (.bool (wordOk cl ws)) ∧ w = w' := by
  have hl := hide h.len
  have hn := h.nb
  have HC := hide (fun w => coloursOk_c cl w)
  by_cases hc : 1 ≤ cl ∧ cl ≤ 3
  · have hd := decide_eq_true hc
    rw [hd] at HC
    have hc := hide hc
    by_cases h6 : 6 < n
    · have hy := hide (wordOk_size (c := cl) (ws := ws) (.inr (.inr (by have := hl.out; omega))))
      go_enter Try.func38, Try.ntmps38
      go_wp2_with (go_at_call 40; refine (HC.out _).mono ?_; rintro e w' ⟨rfl, rfl⟩)
      go_ret
      exact ⟨ret_bool hy.out.symm, rfl⟩
    · go_enter Try.func38, Try.ntmps38
      go_wp2_with (go_at_call 40; refine (HC.out _).mono ?_; rintro e w' ⟨rfl, rfl⟩)
      go_loop [17] (fun i => ∃ k : Nat, k ≤ n ∧ i = .int .i64 k ∧ Hid (∀ j x, j < k → ws[j]? = some x → 0 ≤ x ∧ x < cl)) (fun i => n - (intOf i).toNat)
      case atStart => exact ⟨0, Nat.zero_le _, rfl, fun j x hj _ => absurd hj (by omega)⟩
      case round =>
        obtain ⟨k, hk, rfl, hall⟩ := hrel
        by_cases hlt : k < n
        · obtain ⟨b, off, x, rfl, hb, hx, hcell⟩ := h.look hlt
          by_cases hx0 : x < 0
          · go_wp2
            go_ret
            exact ⟨ret_bool (wordOk_bad hx.out (.inl hx0)).symm, rfl⟩
          · by_cases hx1 : cl ≤ x
            · go_wp2
              go_ret
              exact ⟨ret_bool (wordOk_bad hx.out (.inr hx1)).symm, rfl⟩
            · go_wp2
              go_round
              case rel => exact ⟨k + 1, by omega, by go_num, fun j y hj hy => by
                rcases Nat.lt_or_ge j k with hjk | hjk
                · exact hall.out j y hjk hy
                · obtain rfl : j = k := by omega
                  rw [hx.out] at hy; injection hy with hy; omega⟩
              case measure => simp [intOf]; omega
        · have hy := hide (wordOk_mk hc.out.1 hc.out.2 (by have := hl.out; omega) (fun j x (hj : j < ws.length) hx => hall.out j x (by have := hl.out; omega) hx))
          go_wp2
          go_ret
          exact ⟨ret_bool hy.out.symm, rfl⟩
  · have hd := decide_eq_false hc
    have hy := hide (wordOk_size (c := cl) (ws := ws) (by omega))
    rw [hd] at HC
    clear hc
    go_enter Try.func38, Try.ntmps38
    go_wp2_with (go_at_call 40; refine (HC.out _).mono ?_; rintro e w' ⟨rfl, rfl⟩)
    go_ret
    exact ⟨ret_bool hy.out.symm, rfl⟩

theorem isum_take_le {cs : List Int} (h : ∀ x ∈ cs, 0 ≤ x ∧ x ≤ 6) (k : Nat) : isum (cs.take k) ≤ isum cs := by
  have e := isum_append (cs.take k) (cs.drop k)
  rw [List.take_append_drop] at e
  have := (isum_bounds 6 (cs.drop k) (fun x hx => h x (List.mem_of_mem_drop hx))).1
  omega
theorem countRowOk_far {c : Int} {cs : List Int} {k : Nat} {x : Int} (hx : cs[k]? = some x) (h : 6 - isum (cs.take k) < x) : countRowOk c cs = false := by
  rw [Bool.eq_false_iff]
  intro hh
  obtain ⟨_, _, _, h4, h5⟩ := countRowOk_yes hh
  have h1 := isum_take_le h4 (k + 1)
  rw [isum_take_succ hx] at h1
  omega

theorem fall_next {s : Int} (h : 0 ≤ s) (k : Nat) : fall s (k + 1) = fall s k * (s - (k : Int)) := by
  rw [fall_snoc]
  rcases Int.lt_or_le s (k : Int) with h1 | h1
  · rw [(fall_zero h).2 h1, Int.zero_mul, Int.zero_mul]
  · rw [Int.max_eq_left (by omega)]

end Go.Proofs.Ytoafpokcbbncfaa

namespace Go.Proofs.Ytoafpokcbbncfaa
open Go.RowKit

theorem pow_le_729 (C m : Nat) (h1 : 1 ≤ C) (h3 : C ≤ 3) (h6 : m ≤ 6) : 1 ≤ C ^ m ∧ C ^ m ≤ 729 := by
  have h1 : 1 ^ m ≤ C ^ m := Nat.pow_le_pow_left h1 m
  have h2 : C ^ m ≤ 3 ^ m := Nat.pow_le_pow_left h3 m
  have h4 : 3 ^ m ≤ 3 ^ 6 := Nat.pow_le_pow_right (by omega) h6
  rw [Nat.one_pow] at h1
  exact ⟨h1, Nat.le_trans h2 h4⟩

end Go.Proofs.Ytoafpokcbbncfaa

namespace Go.Proofs.Ytoafpokcbbncfaa
open Go.RowKit

end Go.Proofs.Ytoafpokcbbncfaa

namespace Go.Proofs.Ytoafpokcbbncfaa
open Go.RowKit

theorem digs_word {C m q : Nat} (h1 : 1 ≤ C) (h3 : C ≤ 3) (h6 : m ≤ 6) : wordOk (C : Int) (digs C m q) = true :=
  wordOk_mk (by omega) (by omega) (by rw [digs_len]; exact h6) (fun j x _ hx => digs_mem (by omega) m q x (List.mem_of_getElem? hx))
theorem countsOf_digs {C m q : Nat} (h1 : 1 ≤ C) (h3 : C ≤ 3) (h6 : m ≤ 6) : countsOf (C : Int) (digs C m q) = cntL C (digs C m q) := by
  unfold countsOf; rw [if_pos (digs_word h1 h3 h6)]; rfl

theorem ways_le (zs ws : List Int) (h : ∀ z ∈ zs, z ≤ 40) : ways zs ws ≤ 40 ^ ws.length := by
  induction ws generalizing zs with
  | nil => simp [ways]
  | cons x r ih =>
    have hb : ballsAt zs x ≤ 40 := by
      unfold ballsAt
      rcases Nat.lt_or_ge x.toNat zs.length with hk | hk
      · rw [List.getElem?_eq_getElem hk]; exact h _ (List.getElem_mem hk)
      · rw [List.getElem?_eq_none hk]; decide
    have h2 := ih (zs.set x.toNat (ballsAt zs x - 1)) (fun z hz => by
      rcases List.mem_or_eq_of_mem_set hz with h3 | h3
      · exact h z h3
      · omega)
    simp only [ways, List.length_cons]
    rw [Int.pow_succ, Int.mul_comm (40 ^ r.length)]
    exact Int.mul_le_mul (by omega) h2 (ways_nonneg _ _) (by omega)
theorem upI {w0 w w' : World} (hb : Below w0.heap.size w0 w) (hq : Below w.heap.size w w') : Below w0.heap.size w0 w' := hb.trans (hq.mono hb.size)
theorem wordOk_impl (cl : Int) (A : Option Addr) (n c B : Nat) (ws : List Int) (w : World) (h : Ints w B A n c ws) (_hB : B ≤ w.heap.size) :
    Calls Try.prog 38 #[.int .i64 cl, .slice A n c] w fun e w' => e = .returned (.bool (wordOk cl ws)) ∧ Below w.heap.size w w' := sameB (wordOk_impl0 cl A n c B ws w h)
end Go.Proofs.Ytoafpokcbbncfaa
