/-
  Words, plain lemmas and contracts that belong together, joined into one file.
-/
import Derived.Test.YtdnnobkkilffbaaProg
import Derived.Test.YtdnnobkkilffbaaZpl
import Derived.Deep.QuietTactic
import Derived.BigQuiet
import Derived.RegionTactic
import Derived.Lib.SliceRun
namespace Go.Proofs.Ytdnnobkkilffbaa
open Go.RowKit

theorem infoInt : (Try.prog.info? 3).map (fun i => (i.zero, i.size, i.bytes)) = some (some (.int .i64 0), 1, 8) := by kernel_rfl

theorem l1In_c (a lo hi : Int) (w : World) : Calls Try.prog 55 #[.int .i64 a, .int .i64 lo, .int .i64 hi] w fun e w' => e = .returned (.bool (decide (lo ≤ a ∧ a ≤ hi))) ∧ w = w' := by
  by_cases h1 : lo ≤ a
  · by_cases h2 : a ≤ hi
    · go_enter Try.func55, Try.ntmps55
      go_wp2
      go_ret
      exact ⟨ret_bool (by simp; omega), rfl⟩
    · go_enter Try.func55, Try.ntmps55
      go_wp2
      go_ret
      exact ⟨ret_bool (by simp; omega), rfl⟩
  · go_enter Try.func55, Try.ntmps55
    go_wp2
    go_ret
    exact ⟨ret_bool (by simp; omega), rfl⟩

set_option maxHeartbeats 400000 in
theorem urnOk_impl (A : Option Addr) (n c B : Nat) (zs : List Int) (w : World) (h : Ints w B A n c zs) :
    Calls Try.prog 22 #[.slice A n c] w fun e w' => e = .returned (.bool (urnOk zs)) ∧ w = w' := by
  have hl := hide h.len
  have hn := h.nb
  by_cases h1 : n < 1
  · go_enter Try.func22, Try.ntmps22
    go_wp2
    go_ret
    exact ⟨ret_bool (urnOk_len (by have := hl.out; omega)).symm, rfl⟩
  · by_cases h3 : 3 < n
    · go_enter Try.func22, Try.ntmps22
      go_wp2
      go_ret
      exact ⟨ret_bool (urnOk_len (by have := hl.out; omega)).symm, rfl⟩
    · go_enter Try.func22, Try.ntmps22
      go_wp2
      go_loop [15] (fun i => ∃ k : Nat, k ≤ n ∧ i = .int .i64 k ∧ Hid (∀ j x, j < k → zs[j]? = some x → 0 ≤ x ∧ x ≤ 40)) (fun i => n - (intOf i).toNat)
      case atStart => exact ⟨0, Nat.zero_le _, rfl, fun j x hj _ => absurd hj (by omega)⟩
      case round =>
        obtain ⟨k, hk, rfl, hall⟩ := hrel
        by_cases hlt : k < n
        · obtain ⟨b, off, x, rfl, hb, hx, hcell⟩ := h.look hlt
          by_cases hx0 : x < 0
          · go_wp2
            go_ret
            exact ⟨ret_bool (urnOk_bad hx.out (.inl hx0)).symm, rfl⟩
          · by_cases hx1 : 40 < x
            · go_wp2
              go_ret
              exact ⟨ret_bool (urnOk_bad hx.out (.inr hx1)).symm, rfl⟩
            · go_wp2
              go_round
              case rel => exact ⟨k + 1, by omega, by go_num, fun j y hj hy => by
                rcases Nat.lt_or_ge j k with hjk | hjk
                · exact hall.out j y hjk hy
                · obtain rfl : j = k := by omega
                  rw [hx.out] at hy; injection hy with hy; omega⟩
              case measure => simp [intOf]; omega
        · go_wp2
          go_ret
          exact ⟨ret_bool (urnOk_good (by have := hl.out; omega) (fun j x hj hx => hall.out j x (by have := hl.out; omega) hx)).symm, rfl⟩

set_option maxHeartbeats 400000 in
theorem urnOk_spec (A : Option Addr) (n c B : Nat) (zs : List Int) (w : World) (h : Ints w B A n c zs) :
    Calls Try.prog 54 #[.slice A n c] w fun e w' => e = .returned (.bool (urnOk zs)) ∧ w = w' := by
  have hl := hide h.len
  have hn := h.nb
  go_enter Try.func54, Try.ntmps54
  go_wp2
  go_loop [3] (fun i => ∃ k : Nat, k ≤ n ∧ i = .int .i64 k ∧ Hid (∀ j x, j < k → zs[j]? = some x → 0 ≤ x ∧ x ≤ 40)) (fun i => n - (intOf i).toNat)
  case atStart => exact ⟨0, Nat.zero_le _, rfl, fun j x hj _ => absurd hj (by omega)⟩
  case round =>
    obtain ⟨k, hk, rfl, hall⟩ := hrel
    by_cases hlt : k < n
    · obtain ⟨b, off, x, rfl, hb, hx, hcell⟩ := h.look hlt
      by_cases hx0 : 0 ≤ x ∧ x ≤ 40
      · have hd : decide (0 ≤ x ∧ x ≤ 40) = true := decide_eq_true hx0
        obtain ⟨hx1, hx2⟩ := hx0
        go_wp2_with (go_at_call 55; refine (l1In_c _ _ _ _).mono ?_; rintro e w' ⟨rfl, rfl⟩)
        go_round
        case rel => exact ⟨k + 1, by omega, by go_num, fun j y hj hy => by
          rcases Nat.lt_or_ge j k with hjk | hjk
          · exact hall.out j y hjk hy
          · obtain rfl : j = k := by omega
            rw [hx.out] at hy; injection hy with hy; omega⟩
        case measure => simp [intOf]; omega
      · have hd : decide (0 ≤ x ∧ x ≤ 40) = false := decide_eq_false hx0
        have hx1 := hide hx0
        clear hx0
        go_wp2_with (go_at_call 55; refine (l1In_c _ _ _ _).mono ?_; rintro e w' ⟨rfl, rfl⟩)
        go_ret
        exact ⟨ret_bool (urnOk_bad hx.out (by have := hx1.out; omega)).symm, rfl⟩
    · go_wp2_with (go_at_call 55; refine (l1In_c _ _ _ _).mono ?_; rintro e w' ⟨rfl, rfl⟩)
      go_ret
      refine ⟨ret_bool ?_, rfl⟩
      by_cases h1 : 1 ≤ n ∧ n ≤ 3
      · rw [urnOk_good (by have := hl.out; omega) (fun j x hj hx => hall.out j x (by have := hl.out; omega) hx)]
        simp; omega
      · rw [urnOk_len (by have := hl.out; omega)]
        simp; omega

end Go.Proofs.Ytdnnobkkilffbaa

namespace Go.Proofs.Ytdnnobkkilffbaa
open Go.RowKit

set_option maxHeartbeats 400000 in
theorem l1Total_c (A : Option Addr) (n c B : Nat) (zs : List Int) (w : World) (h : Ints w B A n c zs) (hok : urnOk zs = true) :
    Calls Try.prog 56 #[.slice A n c] w fun e w' => e = .returned (.int .i64 (isum zs)) ∧ w = w' := by
  have hl := hide h.len
  have hn := h.nb
  have HT := hide (take_sum hok)
  have hok := hide hok
  go_enter Try.func56, Try.ntmps56
  go_wp2
  go_loop [3, 4] (fun t i => ∃ k : Nat, k ≤ n ∧ i = .int .i64 k ∧ t = .int .i64 (isum (zs.take k))) (fun _ i => n - (intOf i).toNat)
  case atStart => exact ⟨0, Nat.zero_le _, rfl, rfl⟩
  case round =>
    obtain ⟨k, hk, rfl, rfl⟩ := hrel
    obtain ⟨hs1, hs2⟩ := HT.out k
    by_cases hlt : k < n
    · obtain ⟨b, off, x, rfl, hb, hx, hcell⟩ := h.look hlt
      obtain ⟨hx1, hx2⟩ := urnOk_elem hok.out hx.out
      have hst := hide (isum_take_succ hx.out)
      go_wp2
      go_round
      case rel => exact ⟨k + 1, by omega, by go_num, by rw [hst.out]⟩
      case measure => simp [intOf]; omega
    · go_wp2
      go_ret
      exact ⟨ret_int (by rw [List.take_of_length_le (by have := hl.out; omega)]), rfl⟩

end Go.Proofs.Ytdnnobkkilffbaa

namespace Go.Proofs.Ytdnnobkkilffbaa
open Go.RowKit

set_option maxHeartbeats 400000 in
theorem sumOf_c (A : Option Addr) (n c B : Nat) (zs : List Int) (w : World) (h : Ints w B A n c zs) (hok : urnOk zs = true) :
    Calls Try.prog 72 #[.slice A n c] w fun e w' => e = .returned (.int .i64 (isum zs)) ∧ w = w' := by
  have hl := hide h.len
  have hn := h.nb
  have HT := hide (take_sum hok)
  have hok := hide hok
  go_enter Try.func72, Try.ntmps72
  go_wp2
  go_loop [3, 8] (fun t i => ∃ k : Nat, k ≤ n ∧ i = .int .i64 k ∧ t = .int .i64 (isum (zs.take k))) (fun _ i => n - (intOf i).toNat)
  case atStart => exact ⟨0, Nat.zero_le _, rfl, rfl⟩
  case round =>
    obtain ⟨k, hk, rfl, rfl⟩ := hrel
    obtain ⟨hs1, hs2⟩ := HT.out k
    by_cases hlt : k < n
    · obtain ⟨b, off, x, rfl, hb, hx, hcell⟩ := h.look hlt
      obtain ⟨hx1, hx2⟩ := urnOk_elem hok.out hx.out
      have hst := hide (isum_take_succ hx.out)
      go_wp2
      go_round
      case rel => exact ⟨k + 1, by omega, by go_num, by rw [hst.out]⟩
      case measure => simp [intOf]; omega
    · go_wp2
      go_ret
      exact ⟨ret_int (by rw [List.take_of_length_le (by have := hl.out; omega)]), rfl⟩

theorem totalOf_impl (A : Option Addr) (n c B : Nat) (zs : List Int) (w : World) (h : Ints w B A n c zs) :
    Calls Try.prog 48 #[.slice A n c] w fun e w' => e = .returned (.int .i64 (totalF zs)) ∧ w = w' := by
  have HI := hide (urnOk_impl _ _ _ _ _ w h)
  by_cases hok : urnOk zs = true
  · have HT := hide (sumOf_c _ _ _ _ _ w h hok)
    have he := hide (totalF_ok hok)
    rw [hok] at HI
    clear hok
    go_enter Try.func48, Try.ntmps48
    go_wp2_with (first | (go_at_call 22; refine (HI.out).mono ?_; rintro e w' ⟨rfl, rfl⟩) | (go_at_call 72; refine (HT.out).mono ?_; rintro e w' ⟨rfl, rfl⟩))
    go_ret
    exact ⟨ret_int he.out.symm, rfl⟩
  · have hok : urnOk zs = false := by simpa using hok
    have he := hide (totalF_no hok)
    rw [hok] at HI
    clear hok
    go_enter Try.func48, Try.ntmps48
    go_wp2_with (go_at_call 22; refine (HI.out).mono ?_; rintro e w' ⟨rfl, rfl⟩)
    go_ret
    exact ⟨ret_int he.out.symm, rfl⟩
end Go.Proofs.Ytdnnobkkilffbaa

namespace Go.Proofs.Ytdnnobkkilffbaa
open Go.RowKit

set_option maxHeartbeats 400000 in
theorem clone_c (A : Option Addr) (n c B : Nat) (zs : List Int) (w : World) (h : Ints w B A n c zs) (h0 : 0 < n) (hn : n ≤ 1048576) (hB : B ≤ w.heap.size) :
    Calls Try.prog 58 #[.slice A n c] w fun e w' => ∃ A' n' c', e = .returned (.slice A' n' c') ∧ Own w' w.heap.size (.slice A' n' c') zs ∧ Below w.heap.size w w' := by
  obtain ⟨b, off, x, rfl, hbB, _, _⟩ := h.look h0
  obtain ⟨i0, hi, hz0, hz1, hz2⟩ := info_parts infoInt
  have hnil := fun w => Lib.run_eql_slice_nil (P := Try.prog) w 23 3 (some ⟨b, off, none⟩) n c 0 0 Try.underlying23
  go_enter Try.func58, Try.ntmps58
  go_wp2_with (at_builtin; refine wpList_app _ rfl _ _ 23 rfl i0 Try.underlying23 hi hz0 hz1 hz2 _ _ rfl (own_empty (base := w.heap.size) (Nat.le_refl _)) _ n c _ zs rfl (h.alloc hB _) (by simp) (by simp; omega) ?_; intro A' n' c' w1 ho hg)
  go_ret
  exact ⟨A', n', c', rfl, ho, (below_empty (Below.refl _ _) _).grown hg (by simp) (fun k hk => Nat.le_of_eq (Option.some.inj hk))⟩
end Go.Proofs.Ytdnnobkkilffbaa
