/-
  Contract of chapter 2, the specification's side: CountWays.
-/
import Derived.Test.YtlhjgcfiaakllaaWordE
namespace Go.Proofs.Ytlhjgcfiaakllaa
open Go.RowKit

set_option maxHeartbeats 3200000 in
theorem countWays_spec (A A' : Option Addr) (n c B n' c' B' : Nat) (zs cs : List Int) (w : World) (h : Ints w B A n c zs) (h' : Ints w B' A' n' c' cs) :
    Calls Try.prog 44 #[.slice A n c, .slice A' n' c'] w fun e w' => e = .returned (.int .i64 (countWays zs cs)) ∧ w = w' := by
  have hl := hide h.len
  have hl' := hide h'.len
  have HI := hide (urnOk_spec _ _ _ _ _ w h)
  have HR := hide (countRowOk_spec (n : Int) _ _ _ _ _ w h')
  have HW := hide (wordsWith_spec (n : Int) _ _ _ _ _ w h')
  by_cases hok : urnOk zs = true
  · rw [hok] at HI
    by_cases hrk : countRowOk (n : Int) cs = true
    · rw [hrk] at HR
      have hrk2 : countRowOk (zs.length : Int) cs = true := by rw [hl.out]; exact hrk
      have he := hide (countWays_end hok hrk2)
      have hwe := hide (show wordsWith (n : Int) cs = mult cs by unfold wordsWith; rw [if_pos hrk])
      rw [hwe.out] at HW
      obtain ⟨m0, m1⟩ := mult_bound hrk
      obtain ⟨_, _, hln, h4, _⟩ := countRowOk_yes hrk
      have hnn : n' = n := by have := hl'.out; omega
      have hnn := hnn.symm
      subst hnn
      have hn3 : n ≤ 3 := by have := (urnOk_size hok).2; have := hl.out; omega
      obtain ⟨W, hW⟩ : ∃ W, Hid (mult cs = W) := ⟨_, rfl⟩
      rw [hW.out] at HW m0 m1 he
      have HV := hide (fun k x z (hx : cs[k]? = some x) (hz : zs[k]? = some z) => countWays_bound hok hrk2 hx hz m0 m1)
      have HC := hide (fun k x (hx : cs[k]? = some x) => h4 x (List.mem_of_getElem? hx))
      have HE := hide (fun k x (hx : zs[k]? = some x) => urnOk_elem hok hx)
      clear hok hrk hrk2 h4 hln
      go_enter Try.func44, Try.ntmps44
      go_wp2_with (first | (go_at_call 45; refine (HI.out).mono ?_; rintro e w' ⟨rfl, rfl⟩) | (go_at_call 40; refine (HR.out).mono ?_; rintro e w' ⟨rfl, rfl⟩) | (go_at_call 42; refine (HW.out).mono ?_; rintro e w' ⟨rfl, rfl⟩))
      clear HI HR HW
      go_loop [5, 6, 7] (fun t i _ => ∃ k : Nat, k ≤ n ∧ i = .int .i64 k ∧ t = .int .i64 (W * prodK zs cs k)) (fun _ i _ => n - (intOf i).toNat)
      case atStart => exact ⟨0, Nat.zero_le _, rfl, by simp [prodK]⟩
      case round =>
        obtain ⟨k, hk, rfl, rfl⟩ := hrel
        by_cases hlt : k < n
        · obtain ⟨b, off, z, rfl, hb, hz, hcell⟩ := h.look hlt
          obtain ⟨b', off', x, rfl, hb', hx, hcell'⟩ := h'.look hlt
          obtain ⟨x0, x6⟩ := HC.out k x hx.out
          obtain ⟨z0, z40⟩ := HE.out k z hz.out
          have hV := hide (HV.out k x z hx.out hz.out)
          have hpk := hide (show prodK zs cs (k + 1) = prodK zs cs k * fall z x.toNat by simp only [prodK]; rw [hz.out, hx.out]; rfl)
          obtain ⟨P, hP⟩ : ∃ P, Hid (prodK zs cs k = P) := ⟨_, rfl⟩
          rw [hP.out] at hV hpk ⊢
          have hsn := hide (fun j => fall_snoc z j)
          go_wp2
          go_loop [5, 7] (fun t i => ∃ j : Nat, (j : Int) ≤ x ∧ i = .int .i64 j ∧ t = .int .i64 (W * (P * fall z j))) (fun _ i => (x - intOf i).toNat)
          case atStart => exact ⟨0, by omega, rfl, by simp [fall]⟩
          case round =>
            obtain ⟨j, hj, rfl, rfl⟩ := hrel
            by_cases hjx : (j : Int) < x
            · obtain ⟨v0, v1⟩ := hV.out j hj
              obtain ⟨V, hVe⟩ : ∃ V, Hid (W * (P * fall z j) = V) := ⟨_, rfl⟩
              rw [hVe.out] at v0 v1 ⊢
              by_cases hmx : 0 ≤ z - (j : Int)
              · obtain ⟨p1, p2⟩ := mul_bound v0 v1 hmx (show z - (j : Int) ≤ 40 by omega)
                have hnx := hide (show W * (P * fall z (j + 1)) = V * (z - (j : Int)) by rw [hsn.out, Int.max_eq_left hmx, ← hVe.out]; simp only [Int.mul_assoc])
                go_wp2
                go_round
                case rel => exact ⟨j + 1, by omega, by go_num, by rw [hnx.out]⟩
                case measure => simp [intOf]; omega
              · have hnx := hide (show W * (P * fall z (j + 1)) = 0 by rw [hsn.out, show max (z - (j : Int)) 0 = 0 by omega]; simp)
                go_wp2
                go_round
                case rel => exact ⟨j + 1, by omega, by go_num, by rw [hnx.out]; try simp⟩
                case measure => simp [intOf]; omega
            · have hjn := hide (show x.toNat = j by omega)
              go_wp2
              go_round
              case rel => exact ⟨k + 1, by omega, by go_num, by rw [hpk.out, hjn.out]⟩
              case measure => simp [intOf]; omega
        · obtain rfl : k = n := by omega
          go_wp2
          go_ret
          exact ⟨ret_int (by rw [he.out, hl'.out]), rfl⟩
    · have hrk : countRowOk (n : Int) cs = false := by simpa using hrk
      rw [hrk] at HR
      have he := hide (show countWays zs cs = -1 by unfold countWays; rw [hl.out, hrk, Bool.and_false]; rfl)
      clear hok hrk
      go_enter Try.func44, Try.ntmps44
      go_wp2_with (first | (go_at_call 45; refine (HI.out).mono ?_; rintro e w' ⟨rfl, rfl⟩) | (go_at_call 40; refine (HR.out).mono ?_; rintro e w' ⟨rfl, rfl⟩))
      go_ret
      exact ⟨ret_int he.out.symm, rfl⟩
  · have hok : urnOk zs = false := by simpa using hok
    rw [hok] at HI
    have he := hide (show countWays zs cs = -1 by unfold countWays; rw [hok]; rfl)
    clear hok
    go_enter Try.func44, Try.ntmps44
    go_wp2_with (first | (go_at_call 45; refine (HI.out).mono ?_; rintro e w' ⟨rfl, rfl⟩))
    go_ret
    exact ⟨ret_int he.out.symm, rfl⟩
end Go.Proofs.Ytlhjgcfiaakllaa
