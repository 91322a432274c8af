/-
  Contracts of chapter 1: TotalOf, ChanceOf (impl and spec).
-/
import Derived.Test.YthdelfhfglnhfacOks
import Derived.Test.YthdelfhfglnhfacTotalI
namespace Go.Proofs.Ythdelfhfglnhfac
open Go.RowKit

set_option maxHeartbeats 400000 in
theorem gcd_impl (a b : Int) (w : World) (ha : 0 ≤ a) (ha' : a ≤ 1000000000) (hb : 0 ≤ b) (hb' : b ≤ 1000000000) :
    Calls Try.prog 28 #[.int .i64 a, .int .i64 b] w fun e w' => e = .returned (.int .i64 (gcdI a b)) ∧ ∃ q, w' = w.drewN q := by
  go_enter Try.func28, Try.ntmps28
  go_wp2
  go_loopw [0, 1] (fun s t wr => ∃ x y : Int, ∃ q : Nat, 0 ≤ x ∧ x ≤ 1000000000 ∧ 0 ≤ y ∧ y ≤ 1000000000 ∧ s = .int .i64 x ∧ t = .int .i64 y ∧ wr = w.drewN q ∧ Hid (gcdI x y = gcdI a b)) (fun _ t _ => (intOf t).toNat)
  case atStart => exact ⟨a, b, 0, ha, ha', hb, hb', rfl, rfl, rfl, rfl⟩
  case round =>
    obtain ⟨x, y, q, hx, hx', hy, hy', rfl, rfl, rfl, hg⟩ := hrel
    by_cases hy0 : 0 < y
    · have hne : (y != 0) = true := by simp; omega
      have hne2 : (y == 0) = false := by simp; omega
      have hm1 : 0 ≤ x % y := Int.emod_nonneg _ (by omega)
      have hm2 : x % y < y := Int.emod_lt_of_pos _ hy0
      go_wp2
      go_quiet (fail)
      go_wp2
      go_roundw
      case rel => exact ⟨y, x % y, _, hy, hy', hm1, by omega, rfl, rfl, World.drewN_drewN _ _ _, (gcdI_step hx hy0).trans hg.out⟩
      case measure => simp [intOf]; omega
    · obtain rfl : y = 0 := by omega
      go_wp2
      go_ret
      exact ⟨ret_int (by rw [← hg.out, gcdI_zero hx]), _, rfl⟩

set_option maxHeartbeats 400000 in
theorem l1Common_c (a b : Int) (w : World) (ha : 0 ≤ a) (ha' : a ≤ 1000000000) (hb : 0 < b) (hb' : b ≤ 1000000000) :
    Calls Try.prog 24 #[.int .i64 a, .int .i64 b] w fun e w' => e = .returned (.int .i64 (gcdI a b)) ∧ w = w' := by
  go_enter Try.func24, Try.ntmps24
  go_wp2
  go_loop [0, 1] (fun s t => ∃ x y : Int, 0 ≤ x ∧ x ≤ 1000000000 ∧ 0 ≤ y ∧ y ≤ 1000000000 ∧ s = .int .i64 x ∧ t = .int .i64 y ∧ Hid (gcdI x y = gcdI a b)) (fun _ t => (intOf t).toNat)
  case atStart => exact ⟨a, b, ha, ha', by omega, hb', rfl, rfl, rfl⟩
  case round =>
    obtain ⟨x, y, hx, hx', hy, hy', rfl, rfl, hg⟩ := hrel
    by_cases hy0 : 0 < y
    · have hne2 : (y == 0) = false := by simp; omega
      have hm1 : 0 ≤ x % y := Int.emod_nonneg _ (by omega)
      have hm2 : x % y < y := Int.emod_lt_of_pos _ hy0
      go_wp2
      go_round
      case rel => exact ⟨y, x % y, hy, hy', hm1, by omega, rfl, rfl, (gcdI_step hx hy0).trans hg.out⟩
      case measure => simp [intOf]; omega
    · obtain rfl : y = 0 := by omega
      have hp : 0 < x := by
        have h1 := gcdI_pos (a := a) hb
        rw [← hg.out, gcdI_zero hx] at h1
        exact h1
      go_wp2
      all_goals
        go_ret
        exact ⟨ret_int (by rw [← hg.out, gcdI_zero hx]; try omega), rfl⟩

set_option maxHeartbeats 400000 in
theorem leastTerms_c (a b : Int) (w : World) (ha : 0 ≤ a) (ha' : a ≤ 1000000000) (hb : 0 < b) (hb' : b ≤ 1000000000) :
    Calls Try.prog 20 #[.int .i64 a, .int .i64 b] w fun e w' => e = .returned (.tuple #[.int .i64 (a / gcdI a b), .int .i64 (b / gcdI a b)]) ∧ ∃ q, w' = w.drewN q := by
  have hp := gcdI_pos (a := a) hb
  have hle := gcdI_le (a := a) hb
  obtain ⟨g, hg⟩ : ∃ g, Hid (g = gcdI a b) := ⟨_, rfl⟩
  have HG := hide (gcd_impl a b w ha ha' (by omega) hb')
  rw [← hg.out] at hp hle HG ⊢
  have hne : (g == 0) = false := by simp; omega
  go_enter Try.func20, Try.ntmps20
  go_wp2_with (go_at_call 28; refine (HG.out).mono ?_; rintro e w' ⟨rfl, q, rfl⟩)
  go_quiet (fail)
  go_wp2
  go_ret2
  exact ⟨rfl, _, World.drewN_drewN _ _ _⟩

theorem hasColour_c (A : Option Addr) (n c : Nat) (k : Int) (w : World) :
    Calls Try.prog 19 #[.slice A n c, .int .i64 k] w fun e w' => e = .returned (.bool (decide (0 ≤ k ∧ k < n))) ∧ w = w' := by
  by_cases h1 : 0 ≤ k
  · by_cases h2 : k < n
    · go_enter Try.func19, Try.ntmps19
      go_wp2
      go_ret
      exact ⟨ret_bool (by simp; omega), rfl⟩
    · go_enter Try.func19, Try.ntmps19
      go_wp2
      go_ret
      exact ⟨ret_bool (by simp; omega), rfl⟩
  · go_enter Try.func19, Try.ntmps19
    go_wp2
    go_ret
    exact ⟨ret_bool (by simp; omega), rfl⟩

/-- The element that a colour's index names. -/
theorem Ints.lookI {w : World} {B n c : Nat} {A : Option Addr} {zs : List Int} {k : Int} (h : Ints w B A n c zs) (h0 : 0 ≤ k) (hk : k < n) :
    ∃ b off x, A = some ⟨b, off, none⟩ ∧ b < B ∧ Hid (zs[k.toNat]? = some x) ∧ w.cell? ⟨b, off + k.toNat, none⟩ = some (.int .i64 x) := h.look (by omega)

set_option maxHeartbeats 1000000 in
theorem chanceOf_impl (A : Option Addr) (n c B : Nat) (zs : List Int) (k : Int) (w : World) (h : Ints w B A n c zs) :
    Calls Try.prog 7 #[.slice A n c, .int .i64 k] w fun e w' => e = .returned (.tuple #[.int .i64 (chN zs k), .int .i64 (chD zs k), .bool (hasF zs k)]) ∧ ∃ q, w' = w.drewN q := by
  have hl := hide h.len
  have hn := h.nb
  have HT := hide (totalOf_impl _ _ _ _ _ w h)
  by_cases hf : hasF zs k = true
  · obtain ⟨hok, h0, hk, hs⟩ := hasF_yes hf
    have hkn : k < n := by have := hl.out; omega
    obtain ⟨b, off, x, rfl, hbB, hx, hcell⟩ := h.lookI h0 hkn
    have hx1 := urnOk_elem hok hx.out
    have hs2 := urnOk_sum hok
    have HL := hide (leastTerms_c x (isum zs) w (by omega) (by omega) hs (by omega))
    have e1 : ballsAt zs k = x := by unfold ballsAt; rw [hx.out]; rfl
    have eN := hide (show chN zs k = x / gcdI x (isum zs) by unfold chN; rw [if_pos hf, e1])
    have eD := hide (show chD zs k = isum zs / gcdI x (isum zs) by unfold chD; rw [if_pos hf, e1])
    have eT : totalF zs = isum zs := totalF_ok hok
    have hd1 : decide (0 ≤ k ∧ k < n) = true := decide_eq_true ⟨h0, hkn⟩
    obtain ⟨s, hse⟩ : ∃ s, Hid (s = isum zs) := ⟨_, rfl⟩
    rw [← hse.out] at hs HL eN eD eT
    clear hs2 hok e1 hk
    rw [eT] at HT
    clear eT
    have hf := hide hf
    go_enter Try.func7, Try.ntmps7
    go_wp2_with (first | (go_at_call 10; refine (HT.out).mono ?_; rintro e w' ⟨rfl, rfl⟩) | (go_at_call 19; refine (hasColour_c _ _ _ _ _).mono ?_; rintro e w' ⟨rfl, rfl⟩) | (go_at_call 20; refine (HL.out).mono ?_; rintro e w' ⟨rfl, q, rfl⟩))
    go_ret3
    rw [eN.out, eD.out, hf.out]
    exact ⟨rfl, _, rfl⟩
  · have hf0 : hasF zs k = false := by simpa using hf
    have eN := hide (show chN zs k = 0 by unfold chN; rw [if_neg hf])
    have eD := hide (show chD zs k = 0 by unfold chD; rw [if_neg hf])
    have hno : totalF zs ≤ 0 ∨ (0 < totalF zs ∧ ¬ (0 ≤ k ∧ k < n)) := by
      by_cases hok : urnOk zs = true
      · rw [totalF_ok hok]
        by_cases hs : 0 < isum zs
        · exact .inr ⟨hs, fun hh => hf (hasF_mk hok hh.1 (by have := hl.out; omega) hs)⟩
        · exact .inl (by omega)
      · rw [totalF_no (by simpa using hok)]; exact .inl (by omega)
    have hf0 := hide hf0
    clear hf
    obtain ⟨s, hse⟩ : ∃ s, Hid (s = totalF zs) := ⟨_, rfl⟩
    rw [← hse.out] at hno HT
    rcases hno with hs | ⟨hs, hc⟩
    · go_enter Try.func7, Try.ntmps7
      go_wp2_with (first | (go_at_call 10; refine (HT.out).mono ?_; rintro e w' ⟨rfl, rfl⟩))
      go_ret3
      rw [eN.out, eD.out, hf0.out]
      exact ⟨rfl, 0, rfl⟩
    · have hd1 : decide (0 ≤ k ∧ k < n) = false := decide_eq_false hc
      clear hc
      go_enter Try.func7, Try.ntmps7
      go_wp2_with (first | (go_at_call 10; refine (HT.out).mono ?_; rintro e w' ⟨rfl, rfl⟩) | (go_at_call 19; refine (hasColour_c _ _ _ _ _).mono ?_; rintro e w' ⟨rfl, rfl⟩))
      go_ret3
      rw [eN.out, eD.out, hf0.out]
      exact ⟨rfl, 0, rfl⟩

set_option maxHeartbeats 1000000 in
theorem chanceOf_spec (A : Option Addr) (n c B : Nat) (zs : List Int) (k : Int) (w : World) (h : Ints w B A n c zs) :
    Calls Try.prog 8 #[.slice A n c, .int .i64 k] w fun e w' => e = .returned (.tuple #[.int .i64 (chN zs k), .int .i64 (chD zs k), .bool (hasF zs k)]) ∧ ∃ q, w' = w.drewN q := by
  have hl := hide h.len
  have hn := h.nb
  by_cases hf : hasF zs k = true
  · obtain ⟨hok, h0, hk, hs⟩ := hasF_yes hf
    have hkn : k < n := by have := hl.out; omega
    have hin : decide (0 ≤ k ∧ k ≤ (n : Int) - 1) = true := decide_eq_true ⟨h0, by omega⟩
    have HT := hide (fun W (hW : Ints W B A n c zs) => l1Total_c _ _ _ _ _ W hW hok)
    have HI := hide (fun W (hW : Ints W B A n c zs) => urnOk_spec _ _ _ _ _ W hW)
    rw [hok] at HI
    have hq := hide (fun q => h.drewN q)
    obtain ⟨b, off, x, rfl, hbB, hx, hcell⟩ := h.lookI h0 hkn
    have hx1 := urnOk_elem hok hx.out
    have hs2 := urnOk_sum hok
    have hp := gcdI_pos (a := x) hs
    have HL := hide (fun W => l1Common_c x (isum zs) W (by omega) (by omega) hs (by omega))
    have e1 : ballsAt zs k = x := by unfold ballsAt; rw [hx.out]; rfl
    have eN := hide (show chN zs k = x / gcdI x (isum zs) by unfold chN; rw [if_pos hf, e1])
    have eD := hide (show chD zs k = isum zs / gcdI x (isum zs) by unfold chD; rw [if_pos hf, e1])
    obtain ⟨g, hg⟩ : ∃ g, Hid (g = gcdI x (isum zs)) := ⟨_, rfl⟩
    rw [← hg.out] at HL eN eD hp
    obtain ⟨s, hse⟩ : ∃ s, Hid (s = isum zs) := ⟨_, rfl⟩
    rw [← hse.out] at hs HT HL eD hs2
    have hne : (g == 0) = false := by simp; omega
    have hne2 : (s == 0) = false := by simp; omega
    obtain ⟨hx2, hx3⟩ := hx1
    obtain ⟨_, hs3⟩ := hs2
    clear hok e1 hk
    have hf := hide hf
    go_enter Try.func8, Try.ntmps8
    go_wp2_with (first | (go_at_call 21; refine (HI.out _ h).mono ?_; rintro e w' ⟨rfl, rfl⟩) | (go_at_call 22; refine (l1In_c _ _ _ _).mono ?_; rintro e w' ⟨rfl, rfl⟩) | (go_at_call 23; refine (HT.out _ h).mono ?_; rintro e w' ⟨rfl, rfl⟩))
    go_quiet (first | (go_at_call 23; exact qs1 (HT.out _ (hq.out _))) | (go_at_call 24; exact qs1 (HL.out _)))
    go_wp2
    go_quiet (first | (go_at_call 23; exact qs2 (HT.out _ (hq.out _))))
    go_wp2
    go_ret3
    rw [eN.out, eD.out, hf.out]
    exact ⟨rfl, _, World.drewN_drewN _ _ _⟩
  · have hf0 := hide (show hasF zs k = false by simpa using hf)
    have eN := hide (show chN zs k = 0 by unfold chN; rw [if_neg hf])
    have eD := hide (show chD zs k = 0 by unfold chD; rw [if_neg hf])
    have hf := hide hf
    by_cases hok : urnOk zs = true
    · have HT := hide (l1Total_c _ _ _ _ _ w h hok)
      have HI := hide (urnOk_spec _ _ _ _ _ w h)
      rw [hok] at HI
      by_cases hk : 0 ≤ k ∧ k < n
      · have hin : decide (0 ≤ k ∧ k ≤ (n : Int) - 1) = true := decide_eq_true (by omega)
        have hs : isum zs = 0 := by
          have h1 := urnOk_sum hok
          rcases Int.lt_or_le 0 (isum zs) with h2 | h2
          · exact absurd (hasF_mk hok hk.1 (by have := hl.out; omega) h2) hf.out
          · omega
        rw [hs] at HT
        clear hs hok
        obtain ⟨hk0, hk1⟩ := hk
        go_enter Try.func8, Try.ntmps8
        go_wp2_with (first | (go_at_call 21; refine (HI.out).mono ?_; rintro e w' ⟨rfl, rfl⟩) | (go_at_call 22; refine (l1In_c _ _ _ _).mono ?_; rintro e w' ⟨rfl, rfl⟩) | (go_at_call 23; refine (HT.out).mono ?_; rintro e w' ⟨rfl, rfl⟩))
        go_ret3
        rw [eN.out, eD.out, hf0.out]
        exact ⟨rfl, 0, rfl⟩
      · have hin : decide (0 ≤ k ∧ k ≤ (n : Int) - 1) = false := decide_eq_false (by omega)
        clear hok hk
        go_enter Try.func8, Try.ntmps8
        go_wp2_with (first | (go_at_call 21; refine (HI.out).mono ?_; rintro e w' ⟨rfl, rfl⟩) | (go_at_call 22; refine (l1In_c _ _ _ _).mono ?_; rintro e w' ⟨rfl, rfl⟩))
        go_ret3
        rw [eN.out, eD.out, hf0.out]
        exact ⟨rfl, 0, rfl⟩
    · have hok : urnOk zs = false := by simpa using hok
      have HI := hide (urnOk_spec _ _ _ _ _ w h)
      rw [hok] at HI
      clear hok
      go_enter Try.func8, Try.ntmps8
      go_wp2_with (first | (go_at_call 21; refine (HI.out).mono ?_; rintro e w' ⟨rfl, rfl⟩))
      go_ret3
      rw [eN.out, eD.out, hf0.out]
      exact ⟨rfl, 0, rfl⟩
end Go.Proofs.Ythdelfhfglnhfac
