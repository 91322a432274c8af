/-
  Contracts of chapter 7, the specification's side: RestRow, LeanAfter.
-/
import Derived.Test.YtfencbfjnifmjabRoomS
namespace Go.Proofs.Ytfencbfjnifmjab
open Go.RowKit
set_option linter.unusedVariables false

set_option maxHeartbeats 1600000 in
theorem restRow_spec (m : Int) (w : World) :
    Calls Try.prog 22 #[.int .i64 m] w fun e w' => ∃ A' n' c', e = .returned (.slice A' n' c') ∧ Own w' w.heap.size (.slice A' n' c') (restR m) ∧ Below w.heap.size w w' := by
  obtain ⟨i0, hi, hz0, hz1, hz2⟩ := info_parts infoInt
  by_cases hm : 1 ≤ m ∧ m ≤ 6
  · have he := hide (show restR m = restL m.toNat by unfold restR; rw [if_pos hm])
    obtain ⟨M, rfl⟩ : ∃ M : Nat, m = (M : Int) := ⟨m.toNat, by omega⟩
    have h1 : 1 ≤ M := by omega
    have h6 : M ≤ 6 := by omega
    clear hm
    rw [Int.toNat_natCast] at he
    rw [he.out]
    have hL := hide (restL_len M)
    have HT := hide (fun (k : Nat) (h : k < M + 1) => take_succ (restL_at (M := M) h))
    have HC := hide (fun (k : Nat) (h : k ≤ M) => chooseI_in h)
    have HB := hide (fun (k : Nat) (h : k ≤ M) => choose_bound (n := M) (by omega) h (Nat.le_refl k))
    clear he
    go_enter Try.func22, Try.ntmps22
    go_wp2_with fail
    go_loopw [3, 4] (fun v i wr => ∃ k : Nat, ∃ A c, k ≤ M + 1 ∧ i = .int .i64 k ∧ v = .slice A k c ∧ Hid (Own wr w.heap.size (.slice A k c) ((restL M).take k)) ∧ Hid (Below w.heap.size w wr)) (fun _ i _ => M + 1 - (intOf i).toNat)
    case atStart => exact ⟨0, _, _, Nat.zero_le _, rfl, rfl, own_empty (Nat.le_refl _), al w _⟩
    case round =>
      obtain ⟨k, A, c, hk, rfl, rfl, ho, hb⟩ := hrel
      have hst := hb.out.size
      by_cases hlt : k < M + 1
      · have htk := hide (HT.out k hlt)
        have hol := hide ho.out.len
        have hch := hide (HC.out k (by omega))
        have hcb := HB.out k (by omega)
        obtain ⟨R, hR⟩ : ∃ R : Nat, Hid (chooseN M k = R) := ⟨_, hide rfl⟩
        rw [hR.out] at hch htk
        rw [show chooseTo M k k = R from hR.out] at hcb
        have hRw := wf_i64 (z := (R : Int)) (by omega)
        go_wp2_with (first | (go_at_call 36; (with_reducible refine (l1In_yes _ _ _ _ (by omega)).mono ?_); rintro e w' ⟨rfl, rfl⟩) | (go_at_call 37; (with_reducible refine (l7Choose_c _ _ _ (by omega)).mono ?_); rw [hch.out]; rintro e w' ⟨rfl, rfl⟩) | (at_builtin; refine wpList_app _ rfl _ _ 26 rfl i0 Try.underlying26 hi hz0 hz1 hz2 _ _ rfl (ho.out.alloc _) _ 1 1 _ [(R : Int)] rfl (ints_lit1 hRw) (by simp; omega) (by have := hol.out; omega) ?_; intro A₃ n₃ c₃ w3 ho3 hg3))
        have hn3 : n₃ = k + 1 := by have e := ho3.len; rw [List.length_append, ← hol.out] at e; simpa using e
        subst hn3
        have ho3 := hide (show Own w3 w.heap.size (.slice A₃ (k + 1) c₃) ((restL M).take (k + 1)) by rw [htk.out]; exact ho3)
        have hb3 := hide ((hb.out.alloc hst (.cells #[.int .i64 (R : Int)] 3)).grown hg3 (by simp; omega) (fun j hj => (ho.out.row.lt j hj).1))
        clear hg3 hRw
        go_wp2_with fail
        go_roundw
        case rel => exact ⟨k + 1, _, _, by omega, by go_num, rfl, ho3, hb3⟩
        case measure => simp [intOf]; omega
      · obtain rfl : k = M + 1 := by omega
        have ho2 := hide (show Own wr w.heap.size (.slice A (M + 1) c) (restL M) by
          have := ho.out
          rwa [List.take_of_length_le (by rw [hL.out]; exact Nat.le_refl _)] at this)
        go_wp2_with fail
        go_ret
        exact ⟨_, _, _, rfl, ho2.out, hb.out⟩
  · have he := hide (show restR m = [] by unfold restR; rw [if_neg hm])
    rw [he.out]
    clear he
    have hm2 := hide hm
    by_cases h0 : 0 ≤ m
    · clear hm
      go_enter Try.func22, Try.ntmps22
      go_wp2_with fail
      go_loop [3, 4] (fun v i => v = .slice (some ⟨w.heap.size, 0, none⟩) 0 0 ∧ i = .int .i64 0) (fun _ _ => 0)
      case atStart => exact ⟨rfl, rfl⟩
      case round =>
        obtain ⟨rfl, rfl⟩ := hrel
        go_wp2_with (go_at_call 36; (with_reducible refine (l1In_no _ _ _ _ hm2.out).mono ?_); rintro e w' ⟨rfl, rfl⟩)
        go_ret
        exact ⟨_, _, _, rfl, own_empty (Nat.le_refl _), al w _⟩
    · clear hm
      go_enter Try.func22, Try.ntmps22
      go_wp2_with fail
      go_loop [3, 4] (fun v i => v = .slice (some ⟨w.heap.size, 0, none⟩) 0 0 ∧ i = .int .i64 0) (fun _ _ => 0)
      case atStart => exact ⟨rfl, rfl⟩
      case round =>
        obtain ⟨rfl, rfl⟩ := hrel
        go_wp2_with fail
        go_ret
        exact ⟨_, _, _, rfl, own_empty (Nat.le_refl _), al w _⟩

end Go.Proofs.Ytfencbfjnifmjab
