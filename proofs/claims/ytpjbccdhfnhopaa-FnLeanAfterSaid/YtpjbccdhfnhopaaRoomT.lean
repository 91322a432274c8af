/-
  Contracts of chapter 7, the specification's side: RestRow, LeanAfter.
-/
import Derived.Test.YtpjbccdhfnhopaaRoomS
namespace Go.Proofs.Ytpjbccdhfnhopaa
open Go.RowKit
set_option linter.unusedVariables false

set_option maxHeartbeats 1600000 in
theorem restRow_spec (m : Int) (w : World) :
    Calls Try.prog 25 #[.int .i64 m] w fun e w' => ∃ A' n' c', e = .returned (.slice A' n' c') ∧ Own w' w.heap.size (.slice A' n' c') (restR m) ∧ Below w.heap.size w w' := by
  obtain ⟨i0, hi, hz0, hz1, hz2⟩ := info_parts infoInt
  by_cases hm : 1 ≤ m ∧ m ≤ 6
  · have he := hide (show restR m = restL m.toNat by unfold restR; rw [if_pos hm])
    obtain ⟨M, rfl⟩ : ∃ M : Nat, m = (M : Int) := ⟨m.toNat, by omega⟩
    have h1 : 1 ≤ M := by omega
    have h6 : M ≤ 6 := by omega
    clear hm
    rw [Int.toNat_natCast] at he
    rw [he.out]
    have hL := hide (restL_len M)
    have HT := hide (fun (k : Nat) (h : k < M + 1) => take_succ (restL_at (M := M) h))
    have HC := hide (fun (k : Nat) (h : k ≤ M) => chooseI_in h)
    have HB := hide (fun (k : Nat) (h : k ≤ M) => choose_bound (n := M) (by omega) h (Nat.le_refl k))
    clear he
    go_enter Try.func25, Try.ntmps25
    go_wp2_with fail
    go_loopw [3, 4] (fun v i wr => ∃ k : Nat, ∃ A c, k ≤ M + 1 ∧ i = .int .i64 k ∧ v = .slice A k c ∧ Hid (Own wr w.heap.size (.slice A k c) ((restL M).take k)) ∧ Hid (Below w.heap.size w wr)) (fun _ i _ => M + 1 - (intOf i).toNat)
    case atStart => exact ⟨0, _, _, Nat.zero_le _, rfl, rfl, own_empty (Nat.le_refl _), al w _⟩
    case round =>
      obtain ⟨k, A, c, hk, rfl, rfl, ho, hb⟩ := hrel
      have hst := hb.out.size
      by_cases hlt : k < M + 1
      · have htk := hide (HT.out k hlt)
        have hol := hide ho.out.len
        have hch := hide (HC.out k (by omega))
        have hcb := HB.out k (by omega)
        obtain ⟨R, hR⟩ : ∃ R : Nat, Hid (chooseN M k = R) := ⟨_, hide rfl⟩
        rw [hR.out] at hch htk
        rw [show chooseTo M k k = R from hR.out] at hcb
        have hRw := wf_i64 (z := (R : Int)) (by omega)
        go_wp2_with (first | (go_at_call 34; (with_reducible refine (l1In_yes _ _ _ _ (by omega)).mono ?_); rintro e w' ⟨rfl, rfl⟩) | (go_at_call 42; (with_reducible refine (l7Choose_c _ _ _ (by omega)).mono ?_); rw [hch.out]; rintro e w' ⟨rfl, rfl⟩) | (at_builtin; refine wpList_app _ rfl _ _ 23 rfl i0 Try.underlying23 hi hz0 hz1 hz2 _ _ rfl (ho.out.alloc _) _ 1 1 _ [(R : Int)] rfl (ints_lit1 hRw) (by simp; omega) (by have := hol.out; omega) ?_; intro A₃ n₃ c₃ w3 ho3 hg3))
        have hn3 : n₃ = k + 1 := by have e := ho3.len; rw [List.length_append, ← hol.out] at e; simpa using e
        subst hn3
        have ho3 := hide (show Own w3 w.heap.size (.slice A₃ (k + 1) c₃) ((restL M).take (k + 1)) by rw [htk.out]; exact ho3)
        have hb3 := hide ((hb.out.alloc hst (.cells #[.int .i64 (R : Int)] 3)).grown hg3 (by simp; omega) (fun j hj => (ho.out.row.lt j hj).1))
        clear hg3 hRw
        go_wp2_with fail
        go_roundw
        case rel => exact ⟨k + 1, _, _, by omega, by go_num, rfl, ho3, hb3⟩
        case measure => simp [intOf]; omega
      · obtain rfl : k = M + 1 := by omega
        have ho2 := hide (show Own wr w.heap.size (.slice A (M + 1) c) (restL M) by
          have := ho.out
          rwa [List.take_of_length_le (by rw [hL.out]; exact Nat.le_refl _)] at this)
        go_wp2_with fail
        go_ret
        exact ⟨_, _, _, rfl, ho2.out, hb.out⟩
  · have he := hide (show restR m = [] by unfold restR; rw [if_neg hm])
    rw [he.out]
    clear he
    have hm2 := hide hm
    by_cases h0 : 0 ≤ m
    · clear hm
      go_enter Try.func25, Try.ntmps25
      go_wp2_with fail
      go_loop [3, 4] (fun v i => v = .slice (some ⟨w.heap.size, 0, none⟩) 0 0 ∧ i = .int .i64 0) (fun _ _ => 0)
      case atStart => exact ⟨rfl, rfl⟩
      case round =>
        obtain ⟨rfl, rfl⟩ := hrel
        go_wp2_with (go_at_call 34; (with_reducible refine (l1In_no _ _ _ _ hm2.out).mono ?_); rintro e w' ⟨rfl, rfl⟩)
        go_ret
        exact ⟨_, _, _, rfl, own_empty (Nat.le_refl _), al w _⟩
    · clear hm
      go_enter Try.func25, Try.ntmps25
      go_wp2_with fail
      go_loop [3, 4] (fun v i => v = .slice (some ⟨w.heap.size, 0, none⟩) 0 0 ∧ i = .int .i64 0) (fun _ _ => 0)
      case atStart => exact ⟨rfl, rfl⟩
      case round =>
        obtain ⟨rfl, rfl⟩ := hrel
        go_wp2_with fail
        go_ret
        exact ⟨_, _, _, rfl, own_empty (Nat.le_refl _), al w _⟩

set_option maxHeartbeats 1600000 in
theorem leanAfter_spec (m f s : Int) (w : World) :
    Calls Try.prog 28 #[.int .i64 m, .int .i64 f, .int .i64 s] w fun e w' => e = .returned (.int .i64 (leanA m f s)) ∧ Below w.heap.size w w' := by
  have HA := hide (roomAfter_spec m f s w)
  by_cases hok : roomArgs m f s = true
  · have he := hide (show leanA m f s = leanTo m.toNat (roomL m.toNat f.toNat s.toNat) (m.toNat + 1) by unfold leanA; rw [if_pos hok])
    have he2 := hide (show roomA m f s = roomL m.toNat f.toNat s.toNat by unfold roomA; rw [if_pos hok])
    rw [he2.out] at HA
    obtain ⟨M, F, S, rfl, rfl, rfl, h1, h6, hF, hS⟩ := roomArgs_yes hok
    clear hok he2
    rw [Int.toNat_natCast, Int.toNat_natCast, Int.toNat_natCast] at he HA
    rw [he.out]
    have HE := hide (fun (k : Nat) (x : Int) (hx : (roomL M F S)[k]? = some x) => room_elem h1 h6 hF hS hx)
    have HB := hide (fun (k : Nat) (hk : k ≤ M + 1) => lean_bound h1 h6 hF hS hk)
    have HS := hide (fun (k : Nat) => show leanTo M (roomL M F S) (k + 1) = leanTo M (roomL M F S) k + atI (roomL M F S) k * (2 * (k : Int) - (M : Int)) from rfl)
    have hL := hide (roomL_len M F S)
    clear he
    go_enter Try.func28, Try.ntmps28
    go_wp2_with fail
    refine HA.out.mono ?_
    rintro e w1 ⟨A, n, c, rfl, ho, hq⟩
    have hn : n = M + 1 := by have := ho.len; rw [hL.out] at this; exact this
    subst hn
    have hi1 := hide ho.ints
    have hq := hide hq
    clear ho HA
    go_wp2_with fail
    go_loop [8, 9] (fun t i => ∃ k : Nat, ∃ Z : Int, k ≤ M + 1 ∧ i = .int .i64 k ∧ t = .int .i64 Z ∧ Hid (Z = leanTo M (roomL M F S) k)) (fun _ i => M + 1 - (intOf i).toNat)
    case atStart => exact ⟨0, 0, Nat.zero_le _, rfl, rfl, hide rfl⟩
    case round =>
      obtain ⟨k, Z, hk, rfl, rfl, hZ⟩ := hrel
      by_cases hlt : k < M + 1
      · obtain ⟨b, off, x, rfl, hbB, hx, hcell⟩ := hi1.out.look hlt
        obtain ⟨x0, x1⟩ := HE.out k x hx.out
        obtain ⟨z0, z1⟩ := HB.out k hk
        rw [← hZ.out] at z0 z1
        obtain ⟨p0, p1⟩ := mul_two x0 x1 (b := 2 * (k : Int) - (M : Int)) (N := 10) (by omega) (by omega)
        have hnx := hide (show Z + x * (2 * (k : Int) - (M : Int)) = leanTo M (roomL M F S) (k + 1) by rw [HS.out, ← hZ.out, atI_some hx.out])
        go_wp2
        go_round
        case rel => exact ⟨k + 1, _, by omega, by go_num, rfl, hnx⟩
        case measure => simp [intOf]; omega
      · obtain rfl : k = M + 1 := by omega
        go_wp2
        go_ret
        exact ⟨ret_int hZ.out, hq.out⟩
  · have he := hide (show leanA m f s = 0 by unfold leanA; rw [if_neg hok])
    have he2 := hide (show roomA m f s = [] by unfold roomA; rw [if_neg hok])
    rw [he2.out] at HA
    rw [he.out]
    clear hok he he2
    go_enter Try.func28, Try.ntmps28
    go_wp2_with fail
    refine HA.out.mono ?_
    rintro e w1 ⟨A, n, c, rfl, ho, hq⟩
    have hn : n = 0 := ho.len
    subst hn
    clear ho HA
    go_wp2_with fail
    go_loop [8, 9] (fun t i => t = .int .i64 0 ∧ i = .int .i64 0) (fun _ _ => 0)
    case atStart => exact ⟨rfl, rfl⟩
    case round =>
      obtain ⟨rfl, rfl⟩ := hrel
      go_wp2
      go_ret
      exact ⟨rfl, hq⟩
end Go.Proofs.Ytpjbccdhfnhopaa
