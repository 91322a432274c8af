/-
  Contract of chapter 3, the program's side: BackWays.
-/
import Derived.Test.YthdelfhfglnhfaaImpD
import Derived.Test.YthdelfhfglnhfaaPlainB
namespace Go.Proofs.Ythdelfhfglnhfaa
open Go.RowKit

set_option maxHeartbeats 800000 in
theorem backWays_impl0 (A A' : Option Addr) (n c B n' c' B' : Nat) (zs ws : List Int) (w : World) (h : Ints w B A n c zs) (h' : Ints w B' A' n' c' ws) :
    Calls Try.prog 30 #[.slice A n c, .slice A' n' c'] w fun e w' => e = .returned (.int .i64 (backWays zs ws)) ∧ w = w' := by
  have hl := hide h.len
  have hl' := hide h'.len
  have HI := hide (urnOk_impl _ _ _ _ _ w h)
  have HW := hide (wordOk_impl0 (n : Int) _ _ _ _ _ w h')
  by_cases hok : urnOk zs = true
  · rw [hok] at HI
    by_cases hwk : wordOk (n : Int) ws = true
    · rw [hwk] at HW
      obtain ⟨k1, k2, k3, k4⟩ := wordOk_yes hwk
      have HC := hide (fun j x (hx : ws[j]? = some x) => k4 x (List.mem_of_getElem? hx))
      have he := hide (show backWays zs ws = bw zs ws by unfold backWays; rw [hok, hl.out, hwk]; rfl)
      have HB := hide (fun k (hk : k ≤ 6) => show 0 ≤ bw zs (ws.take k) ∧ bw zs (ws.take k) ≤ 4096000000 by
        obtain ⟨b0, b1⟩ := bw_bounds (urnOk_mem hok) (ws.take k)
        exact ⟨b0, Int.le_trans b1 (pow40_6 _ (by rw [List.length_take]; omega))⟩)
      have HZ := hide (fun k z (hz : zs[k]? = some z) => urnOk_elem hok hz)
      have hn6 : n' ≤ 6 := by have := hl'.out; omega
      have hn3 : n ≤ 3 := by omega
      have HS := hide (fun k x (hx : ws[k]? = some x) => bw_snoc zs hx)
      clear hok hwk k1 k2 k3 k4
      go_enter Try.func30, Try.ntmps30
      go_wp2_with (first | (go_at_call 20; refine (HI.out).mono ?_; rintro e w' ⟨rfl, rfl⟩) | (go_at_call 56; refine (HW.out).mono ?_; rintro e w' ⟨rfl, rfl⟩))
      go_loop [5, 20] (fun t i => ∃ k : Nat, k ≤ n' ∧ i = .int .i64 k ∧ t = .int .i64 (bw zs (ws.take k))) (fun _ i => n' - (intOf i).toNat)
      case atStart => exact ⟨0, Nat.zero_le _, rfl, rfl⟩
      case round =>
        obtain ⟨k, hk, rfl, rfl⟩ := hrel
        obtain ⟨s0, s1⟩ := HB.out k (by omega)
        by_cases hlt : k < n'
        · obtain ⟨b', off', x, rfl, hbB', hx, hcell'⟩ := h'.look hlt
          obtain ⟨x0, x1⟩ := HC.out k x hx.out
          obtain ⟨b, off, z, rfl, hbB, hz, hcell⟩ := h.look (show x.toNat < n by omega)
          obtain ⟨z0, z1⟩ := HZ.out _ z hz.out
          have hst := hide (HS.out k x hx.out)
          have hb := ballsAt_eq hz.out
          rw [hb] at hst
          obtain ⟨S, hS⟩ : ∃ S, Hid (bw zs (ws.take k) = S) := ⟨_, hide rfl⟩
          rw [hS.out] at s0 s1 hst ⊢
          obtain ⟨p0, p1⟩ := mul_bound s0 s1 z0 z1
          clear hb
          go_wp2
          go_round
          case rel => exact ⟨k + 1, by omega, by go_num, by rw [hst.out]⟩
          case measure => simp [intOf]; omega
        · obtain rfl : k = n' := by omega
          go_wp2
          go_ret
          exact ⟨ret_int (by rw [he.out, List.take_of_length_le (by have := hl'.out; omega)]), rfl⟩
    · have hwk : wordOk (n : Int) ws = false := by simpa using hwk
      rw [hwk] at HW
      have he := hide (show backWays zs ws = -1 by unfold backWays; rw [hl.out, hwk, Bool.and_false]; rfl)
      clear hok hwk
      go_enter Try.func30, Try.ntmps30
      go_wp2_with (first | (go_at_call 20; refine (HI.out).mono ?_; rintro e w' ⟨rfl, rfl⟩) | (go_at_call 56; refine (HW.out).mono ?_; rintro e w' ⟨rfl, rfl⟩))
      go_ret
      exact ⟨ret_int he.out.symm, rfl⟩
  · have hok : urnOk zs = false := by simpa using hok
    rw [hok] at HI
    have he := hide (show backWays zs ws = -1 by unfold backWays; rw [hok]; rfl)
    clear hok
    go_enter Try.func30, Try.ntmps30
    go_wp2_with (first | (go_at_call 20; refine (HI.out).mono ?_; rintro e w' ⟨rfl, rfl⟩))
    go_ret
    exact ⟨ret_int he.out.symm, rfl⟩
theorem backWays_impl (A A' : Option Addr) (n c B n' c' B' : Nat) (zs ws : List Int) (w : World) (h : Ints w B A n c zs) (h' : Ints w B' A' n' c' ws) (_hB : B ≤ w.heap.size) (_hB' : B' ≤ w.heap.size) :
    Calls Try.prog 30 #[.slice A n c, .slice A' n' c'] w fun e w' => e = .returned (.int .i64 (backWays zs ws)) ∧ Below w.heap.size w w' := sameB (backWays_impl0 _ _ _ _ _ _ _ _ zs ws w h h')
end Go.Proofs.Ythdelfhfglnhfaa
