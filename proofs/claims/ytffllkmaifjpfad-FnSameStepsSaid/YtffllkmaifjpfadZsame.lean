/-
  Words, plain lemmas and contracts that belong together, joined into one file.
-/
import Derived.Test.YtffllkmaifjpfadZrule
import Derived.Test.YtffllkmaifjpfadZpl
import Derived.Test.YtffllkmaifjpfadZword
import Derived.Test.YtffllkmaifjpfadZrows
import Derived.Test.YtffllkmaifjpfadRuleW
namespace Go.Proofs.Ytffllkmaifjpfad
open Go.RowKit

theorem sameRule_no {c s : Int} (h : ¬(1 ≤ c ∧ c ≤ 3) ∨ ¬(-1 ≤ s ∧ s ≤ 3)) : sameRule c s = [] := by
  unfold sameRule
  rcases h with h | h
  · rw [decide_eq_false h]; rfl
  · rw [stepB_no h, Bool.and_false]; rfl
theorem sameRule_yes {C : Nat} {s : Int} (h : 1 ≤ C ∧ C ≤ 3) (hs : -1 ≤ s ∧ s ≤ 3) : sameRule (C : Int) s = sameR C s := by
  unfold sameRule
  rw [stepB_mk hs, decide_eq_true (show 1 ≤ (C : Int) ∧ (C : Int) ≤ 3 by omega)]; rfl

set_option maxHeartbeats 800000 in
theorem l5Rising_c (z s : Int) (m : Nat) (w : World) (h0 : 0 ≤ z) (h1 : z ≤ 40) (hm : m ≤ 6) (s0 : -1 ≤ s) (s1 : s ≤ 3) :
    Calls Try.prog 41 #[.int .i64 z, .int .i64 m, .int .i64 s] w fun e w' => e = .returned (.int .i64 (ris s z m)) ∧ w = w' := by
  have HB := hide (fun k (hk : k ≤ 6) => ris_bound (s := s) (z := z) (m := k) s1 h1 hk)
  have HS := hide (fun k => ris_snoc s z k)
  have HM := hide (fun (k : Nat) (hk : k ≤ 6) => show -6 ≤ (k : Int) * s ∧ (k : Int) * s ≤ 24 from by
    have a := mul_bound (a := (k : Int)) (M := 6) (by omega) (by omega) (b := s + 1) (N := 4) (by omega) (by omega)
    rw [Int.mul_add] at a
    omega)
  go_enter Try.func41, Try.ntmps41
  go_wp2
  go_loop [7, 8] (fun t i => ∃ k : Nat, ∃ P : Int, k ≤ m ∧ i = .int .i64 k ∧ t = .int .i64 P ∧ Hid (P = ris s z k)) (fun _ i => m - (intOf i).toNat)
  case atStart => exact ⟨0, 1, Nat.zero_le _, rfl, rfl, hide rfl⟩
  case round =>
    obtain ⟨k, P, hk, rfl, rfl, hP⟩ := hrel
    by_cases hlt : k < m
    · obtain ⟨b0, b1⟩ := HB.out k (by omega)
      obtain ⟨c0, c1⟩ := HB.out (k + 1) (by omega)
      obtain ⟨d0, d1⟩ := HM.out k (by omega)
      have hst := hide (HS.out k)
      rw [← hP.out] at b0 b1 hst
      rw [hst.out] at c0 c1
      obtain ⟨e0, e1⟩ : 0 ≤ max (z + (k : Int) * s) 0 ∧ max (z + (k : Int) * s) 0 ≤ 100 := by omega
      have hmx := hide (show max (z + (k : Int) * s) 0 = if z + (k : Int) * s < 0 then 0 else z + (k : Int) * s by split <;> omega)
      rw [hmx.out] at c0 c1
      by_cases hneg : z + (k : Int) * s < 0
      · rw [if_pos hneg] at c0 c1
        have hnx := hide (show P * 0 = ris s z (k + 1) by rw [hst.out, hmx.out, if_pos hneg])
        clear e0 e1
        go_wp2
        go_round
        case rel => exact ⟨k + 1, P * 0, by omega, by go_num, by simp, hnx⟩
        case measure => simp [intOf]; omega
      · rw [if_neg hneg] at c0 c1
        have hnx := hide (show P * (z + (k : Int) * s) = ris s z (k + 1) by rw [hst.out, hmx.out, if_neg hneg])
        clear e0 e1
        go_wp2
        go_round
        case rel => exact ⟨k + 1, P * (z + (k : Int) * s), by omega, by go_num, rfl, hnx⟩
        case measure => simp [intOf]; omega
    · obtain rfl : k = m := by omega
      go_wp2
      go_ret
      exact ⟨ret_int hP.out, rfl⟩
end Go.Proofs.Ytffllkmaifjpfad

namespace Go.Proofs.Ytffllkmaifjpfad
open Go.RowKit

theorem stepB_eq {s : Int} {b : Bool} (h : decide (-1 ≤ s ∧ s ≤ 3) = b) : stepB s = b := h
theorem risingOf_def (z m s : Int) : risingOf z m s = if decide (0 ≤ z ∧ z ≤ 40) && decide (0 ≤ m ∧ m ≤ 6) && stepB s then ris s z m.toNat else -1 := rfl

theorem sameCounts_def {zs cs : List Int} {s : Int} {n : Nat} (hl : zs.length = n) : sameCounts zs s cs = if startOk zs && countRowOk (n : Int) cs && stepB s then mult cs * risK s zs cs cs.length else -1 := by unfold sameCounts; rw [hl]
theorem sameCounts_bound {c s : Int} {zs cs : List Int} {W : Int} (hs : s ≤ 3) (hz : ∀ z ∈ zs, 0 ≤ z ∧ z ≤ 10) (h : countRowOk c cs = true) (h0 : 0 ≤ W) (h1 : W ≤ 720) (k : Nat) : 0 ≤ W * risK s zs cs k ∧ W * risK s zs cs k ≤ 346961018880 := by
  obtain ⟨p0, p1⟩ := risK_bound hs hz h k
  have := mul_bound h0 h1 p0 p1
  omega

set_option maxHeartbeats 1600000 in
theorem sameCounts_spec (A A' : Option Addr) (n c B n' c' B' : Nat) (zs cs : List Int) (s : Int) (w : World) (h : Ints w B A n c zs) (h' : Ints w B' A' n' c' cs) :
    Calls Try.prog 10 #[.slice A n c, .int .i64 s, .slice A' n' c'] w fun e w' => e = .returned (.int .i64 (sameCounts zs s cs)) ∧ ∃ q, w' = w.drewN q := by
  have hl := hide h.len
  have hl' := hide h'.len
  have HI := hide (startOk_spec _ _ _ _ _ w h)
  have HR := hide (countRowOk_spec (n : Int) _ _ _ _ _ w h')
  have HW := hide (wordsWith_spec (n : Int) _ _ _ _ _ w h')
  have hd0 := hide (sameCounts_def (cs := cs) (s := s) hl.out)
  by_cases hok : startOk zs = true
  · rw [hok] at HI
    by_cases hrk : countRowOk (n : Int) cs = true
    · rw [hrk] at HR
      by_cases hs : -1 ≤ s ∧ s ≤ 3
      · have hds := decide_eq_true hs
        have he := hide (show sameCounts zs s cs = mult cs * risK s zs cs cs.length by rw [hd0.out, hok, hrk, stepB_eq hds]; rfl)
        have hwe := hide (show wordsWith (n : Int) cs = mult cs by unfold wordsWith; rw [if_pos hrk])
        rw [hwe.out] at HW
        obtain ⟨m0, m1⟩ := mult_bound hrk
        obtain ⟨_, _, hln, h4, h5⟩ := countRowOk_yes hrk
        have hnn : n' = n := by have := hl'.out; omega
        have hnn := hnn.symm
        subst hnn
        have hzm := (startOk_yes hok).2
        obtain ⟨W, hW⟩ : ∃ W, Hid (mult cs = W) := ⟨_, hide rfl⟩
        rw [hW.out] at HW m0 m1 he
        have HV := hide (fun k => sameCounts_bound hs.2 hzm hrk m0 m1 k)
        have HC := hide (fun k x (hx : cs[k]? = some x) => h4 x (List.mem_of_getElem? hx))
        have HE := hide (fun k x (hx : zs[k]? = some x) => hzm x (List.mem_of_getElem? hx))
        have HL := hide (fun (z : Int) (m : Nat) w (h0 : 0 ≤ z) (h1 : z ≤ 40) (hm : m ≤ 6) => l5Rising_c z s m w h0 h1 hm hs.1 hs.2)
        have HRB := hide (fun (z : Int) (m : Nat) (h1 : z ≤ 40) (hm : m ≤ 6) => ris_bound (s := s) (z := z) (m := m) hs.2 h1 hm)
        clear hok hrk h4 h5 hln hzm hs
        go_enter Try.func10, Try.ntmps10
        go_wp2_with (first | (go_at_call 38; refine (HI.out).mono ?_; rintro e w' ⟨rfl, rfl⟩) | (go_at_call 39; refine (HR.out).mono ?_; rintro e w' ⟨rfl, rfl⟩) | (go_at_call 40; refine (l1In_c _ _ _ _).mono ?_; rintro e w' ⟨rfl, rfl⟩) | (go_at_call 27; refine (HW.out).mono ?_; rintro e w' ⟨rfl, rfl⟩))
        clear HI HR HW
        go_loopw [7, 8] (fun t i wr => ∃ k q : Nat, k ≤ n ∧ i = .int .i64 k ∧ t = .int .i64 (W * risK s zs cs k) ∧ wr = w.drewN q) (fun _ i _ => n - (intOf i).toNat)
        case atStart => exact ⟨0, 0, Nat.zero_le _, rfl, by simp [risK], rfl⟩
        case round =>
          obtain ⟨k, q, hk, rfl, rfl, rfl⟩ := hrel
          by_cases hlt : k < n
          · obtain ⟨b, off, z, rfl, hb, hz, hcell⟩ := h.look hlt
            obtain ⟨b', off', x, rfl, hb', hx, hcell'⟩ := h'.look hlt
            obtain ⟨x0, x6⟩ := HC.out k x hx.out
            obtain ⟨z0, z10⟩ := HE.out k z hz.out
            obtain ⟨m, rfl⟩ : ∃ m : Nat, x = (m : Int) := ⟨x.toNat, by omega⟩
            have hpk := hide (show W * risK s zs cs (k + 1) = W * risK s zs cs k * ris s z m by simp only [risK]; rw [hz.out, hx.out, Int.mul_assoc]; rfl)
            obtain ⟨v0, v1⟩ := HV.out (k + 1)
            rw [hpk.out] at v0 v1
            have HP := hide (fun w => HL.out z m w z0 (by omega) (by omega))
            obtain ⟨T, hT⟩ : ∃ T, Hid (ris s z m = T) := ⟨_, hide rfl⟩
            rw [hT.out] at hpk v0 v1 HP
            obtain ⟨V, hV⟩ : ∃ V, Hid (W * risK s zs cs k = V) := ⟨_, hide rfl⟩
            rw [hV.out] at hpk v0 v1 ⊢
            go_wp2
            go_quiet (first | (go_at_call 41; exact qs1 (HP.out _)) | (go_at_call 41; exact qs2 (HP.out _)) | (go_at_call 41; exact qs0 (HP.out _)))
            go_wp2
            go_roundw
            case rel => exact ⟨k + 1, _, by omega, by go_num, by rw [hpk.out], rfl⟩
            case measure => simp [intOf]; omega
          · obtain rfl : k = n := by omega
            go_wp2
            go_ret
            exact ⟨ret_int (by rw [he.out, hl'.out]), _, rfl⟩
      · have hds := decide_eq_false hs
        have he := hide (show sameCounts zs s cs = -1 by rw [hd0.out, stepB_eq hds, Bool.and_false]; rfl)
        clear hok hrk hs
        go_enter Try.func10, Try.ntmps10
        go_wp2_with (first | (go_at_call 38; refine (HI.out).mono ?_; rintro e w' ⟨rfl, rfl⟩) | (go_at_call 39; refine (HR.out).mono ?_; rintro e w' ⟨rfl, rfl⟩) | (go_at_call 40; refine (l1In_c _ _ _ _).mono ?_; rintro e w' ⟨rfl, rfl⟩))
        go_ret
        exact ⟨ret_int he.out.symm, 0, rfl⟩
    · have hrk : countRowOk (n : Int) cs = false := by simpa using hrk
      rw [hrk] at HR
      have he := hide (show sameCounts zs s cs = -1 by rw [hd0.out, hrk, Bool.and_false]; rfl)
      clear hok hrk
      go_enter Try.func10, Try.ntmps10
      go_wp2_with (first | (go_at_call 38; refine (HI.out).mono ?_; rintro e w' ⟨rfl, rfl⟩) | (go_at_call 39; refine (HR.out).mono ?_; rintro e w' ⟨rfl, rfl⟩))
      go_ret
      exact ⟨ret_int he.out.symm, 0, rfl⟩
  · have hok : startOk zs = false := by simpa using hok
    rw [hok] at HI
    have he := hide (show sameCounts zs s cs = -1 by rw [hd0.out, hok]; rfl)
    clear hok
    go_enter Try.func10, Try.ntmps10
    go_wp2_with (first | (go_at_call 38; refine (HI.out).mono ?_; rintro e w' ⟨rfl, rfl⟩))
    go_ret
    exact ⟨ret_int he.out.symm, 0, rfl⟩

theorem shareSum_def {zs : List Int} {s m col : Int} {n : Nat} (hl : zs.length = n) : shareSum zs s m col = if startOk zs && stepB s && decide (0 ≤ m ∧ m ≤ 6) && decide (0 ≤ col ∧ col ≤ (n : Int) - 1) then bsum (sameR n s) col.toNat m.toNat zs else -1 := by
  unfold shareSum
  rw [hl, show decide (0 ≤ col ∧ col < (n : Int)) = decide (0 ≤ col ∧ col ≤ (n : Int) - 1) from by simp only [decide_eq_decide]; omega]

end Go.Proofs.Ytffllkmaifjpfad
