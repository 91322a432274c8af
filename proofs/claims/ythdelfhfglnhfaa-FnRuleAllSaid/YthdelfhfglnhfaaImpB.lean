/-
  Contracts of chapter 2, the program's side: SameApart, powerOf, CountsOf, WordWays.
-/
import Derived.Test.YthdelfhfglnhfaaImpA
import Derived.Test.YthdelfhfglnhfaaClone
import Derived.StillTailTactics
namespace Go.Proofs.Ythdelfhfglnhfaa
open Go.RowKit

theorem pow_le_729 (C m : Nat) (h1 : 1 ≤ C) (h3 : C ≤ 3) (h6 : m ≤ 6) : 1 ≤ C ^ m ∧ C ^ m ≤ 729 := by
  have h1 : 1 ^ m ≤ C ^ m := Nat.pow_le_pow_left h1 m
  have h2 : C ^ m ≤ 3 ^ m := Nat.pow_le_pow_left h3 m
  have h4 : 3 ^ m ≤ 3 ^ 6 := Nat.pow_le_pow_right (by omega) h6
  rw [Nat.one_pow] at h1
  exact ⟨h1, Nat.le_trans h2 h4⟩

set_option maxHeartbeats 1600000 in
theorem wordWays_impl (A A' : Option Addr) (n c B n' c' B' : Nat) (zs ws : List Int) (w : World) (h : Ints w B A n c zs) (h' : Ints w B' A' n' c' ws) (hB : B ≤ w.heap.size) (hB' : B' ≤ w.heap.size) :
    Calls Try.prog 31 #[.slice A n c, .slice A' n' c'] w fun e w' => e = .returned (.int .i64 (wordWays zs ws)) ∧ Below w.heap.size w w' := by
  have hl := hide h.len
  have hl' := hide h'.len
  have HI := hide (urnOk_impl _ _ _ _ _ w h)
  have HW := hide (wordOk_impl0 (n : Int) _ _ _ _ _ w h')
  by_cases hok : urnOk zs = true
  · rw [hok] at HI
    by_cases hwk : wordOk (n : Int) ws = true
    · rw [hwk] at HW
      obtain ⟨k1, k2, k3, k4⟩ := wordOk_yes hwk
      have HC := hide (fun j x (hx : ws[j]? = some x) => k4 x (List.mem_of_getElem? hx))
      have HE := hide (urnOk_mem hok)
      have he := hide (show wordWays zs ws = 1 * ways zs (ws.drop 0) by unfold wordWays; rw [hok, hl.out, hwk, Int.one_mul]; rfl)
      have hn6 : n' ≤ 6 := by have := hl'.out; omega
      have hn3 : n ≤ 3 := by omega
      have hHC := hide (clone_c _ _ _ _ _ w h (by omega) (by omega) hB)
      clear hok hwk k1 k2 k3 k4
      go_enter Try.func31, Try.ntmps31
      go_wp2_with (first | (go_at_call 20; refine (HI.out).mono ?_; rintro e w' ⟨rfl, rfl⟩) | (go_at_call 56; refine (HW.out).mono ?_; rintro e w' ⟨rfl, rfl⟩) | (go_at_call 53; refine (hHC.out).mono ?_; rintro e w1 ⟨A₂, n₂, c₂, rfl, ho, hb⟩; have ho := hide ho; have hb := hide hb))
      have hn2 := ho.out.len
      rw [hl.out] at hn2
      have hn2 := hn2.symm
      subst hn2
      go_loopw [6, 23] (fun t i wr => ∃ k : Nat, ∃ (a : Int) (left : List Int), k ≤ n' ∧ 0 ≤ a ∧ a ≤ 40 ^ k ∧ i = .int .i64 k ∧ t = .int .i64 a ∧ Hid (Own wr w.heap.size (.slice A₂ n c₂) left) ∧ Hid (wordWays zs ws = a * ways left (ws.drop k)) ∧ Hid (∀ z ∈ left, -(k : Int) ≤ z ∧ z ≤ 40) ∧ Hid ((∀ z ∈ left, 0 ≤ z) ∨ a = 0) ∧ Hid (Below w.heap.size w wr)) (fun _ i _ => n' - (intOf i).toNat)
      case atStart => exact ⟨0, 1, zs, Nat.zero_le _, by omega, by decide, rfl, rfl, ho, he, fun z hz => by have := HE.out z hz; omega, .inl fun z hz => (HE.out z hz).1, hb⟩
      case round =>
        clear ho he hb HE
        obtain ⟨k, a, left, hk, ha0, ha1, rfl, rfl, ho, he, hE, hP, hb⟩ := hrel
        have hs := hb.out.size
        by_cases hlt : k < n'
        · obtain ⟨b, off, x, hA, hbB, hx, hcell⟩ := (h'.below (hb.out.mono hB')).look hlt
          obtain ⟨x0, x1⟩ := HC.out k x hx.out
          have hll := ho.out.len
          obtain ⟨y, hy⟩ : ∃ y, Hid (left[x.toNat]? = some y) := ⟨_, hide (List.getElem?_eq_getElem (by omega))⟩
          obtain ⟨g, hA2, hg, hgl, hcy, hfy⟩ := ho.out.at2 hy.out
          obtain ⟨y0, y1⟩ := hE.out y (List.mem_of_getElem? hy.out)
          have hby := ballsAt_eq hy.out
          have hst := hide (ways_step (left := left) (acc := a) hx.out)
          rw [hby] at hst
          have ha2 : a ≤ 40 ^ 5 := Int.le_trans ha1 (pow40 k (by omega))
          have ha3 : a ≤ 102400000 := ha2
          have ho2 := hide (show Own (wr.setCell ⟨g, x.toNat, none⟩ (.int .i64 (y - 1))) w.heap.size (.slice (some ⟨g, 0, none⟩) n c₂) (left.set x.toNat (y - 1)) from (hA2 ▸ ho.out).set_ (y - 1) (wf_i64 (by omega)))
          have hb2 := hide (hb.out.setCell (p := ⟨g, x.toNat, none⟩) hg (.int .i64 (y - 1)))
          have hE2 := hide (show ∀ z ∈ left.set x.toNat (y - 1), -((k + 1 : Nat) : Int) ≤ z ∧ z ≤ 40 from fun z hz => by
            rcases List.mem_or_eq_of_mem_set hz with h1 | h1
            · have := hE.out z h1; omega
            · omega)
          have hP2 := hide (show (∀ z ∈ left.set x.toNat (y - 1), 0 ≤ z) ∨ a * y = 0 by
            rcases hP.out with h1 | h1
            · have h2 := h1 y (List.mem_of_getElem? hy.out)
              rcases Int.lt_or_le 0 y with h3 | h3
              · exact .inl fun z hz => by
                  rcases List.mem_or_eq_of_mem_set hz with h4 | h4
                  · exact h1 z h4
                  · omega
              · obtain rfl : y = 0 := by omega
                exact .inr (Int.mul_zero _)
            · exact .inr (by rw [h1, Int.zero_mul]))
          have hmx := hide (show a * max y 0 = a * y by
            rcases Int.lt_or_le y 0 with h3 | h3
            · rcases hP.out with h1 | h1
              · have := h1 y (List.mem_of_getElem? hy.out); omega
              · rw [h1, Int.zero_mul, Int.zero_mul]
            · rw [Int.max_eq_left h3])
          rw [hmx.out] at hst
          have hpw := hide (show 0 ≤ a * y ∧ a * y ≤ 40 ^ (k + 1) ∧ a * y ≤ 4096000000 by
            rw [← hmx.out]
            obtain ⟨p1, p2⟩ := mul_bound ha0 ha1 (b := max y 0) (by omega) (show max y 0 ≤ 40 by omega)
            obtain ⟨p3, p4⟩ := mul_bound ha0 ha3 (b := max y 0) (by omega) (show max y 0 ≤ 40 by omega)
            exact ⟨p1, by rw [Int.pow_succ]; exact p2, by omega⟩)
          obtain ⟨p1, p2, p3⟩ := hpw.out
          clear hll hby ha2 hmx hP p2
          subst hA; subst hA2
          have r1 : IntKind.i64.wrap (y - 1) = y - 1 := IntWalk.i64_in _ (by omega)
          have r2 : IntKind.i64.wrap (a * y) = a * y := IntWalk.i64_in _ (by omega)
          have hkn' : x < (n : Int) := x1
          go_wp2
          go_roundw
          case rel => exact ⟨k + 1, _, _, by omega, p1, hpw.out.2.1, by go_num, rfl, ho2, he.out.trans hst.out, hE2, hP2, hb2⟩
          case measure => simp [intOf]; omega
        · go_wp2
          go_ret
          exact ⟨ret_int (by rw [he.out, ways_end _ _ (by have := hl'.out; omega)]), hb.out⟩
    · have hwk : wordOk (n : Int) ws = false := by simpa using hwk
      rw [hwk] at HW
      have he := hide (show wordWays zs ws = -1 by unfold wordWays; rw [hl.out, hwk, Bool.and_false]; rfl)
      clear hok hwk
      go_enter Try.func31, Try.ntmps31
      go_wp2_with (first | (go_at_call 20; refine (HI.out).mono ?_; rintro e w' ⟨rfl, rfl⟩) | (go_at_call 56; refine (HW.out).mono ?_; rintro e w' ⟨rfl, rfl⟩))
      go_ret
      exact ⟨ret_int he.out.symm, Below.refl _ _⟩
  · have hok : urnOk zs = false := by simpa using hok
    rw [hok] at HI
    have he := hide (show wordWays zs ws = -1 by unfold wordWays; rw [hok]; rfl)
    clear hok
    go_enter Try.func31, Try.ntmps31
    go_wp2_with (first | (go_at_call 20; refine (HI.out).mono ?_; rintro e w' ⟨rfl, rfl⟩))
    go_ret
    exact ⟨ret_int he.out.symm, Below.refl _ _⟩
end Go.Proofs.Ythdelfhfglnhfaa
