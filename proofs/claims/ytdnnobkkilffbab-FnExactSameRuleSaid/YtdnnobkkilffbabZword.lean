/-
  Words, plain lemmas and contracts that belong together, joined into one file.
-/
import Derived.Test.YtdnnobkkilffbabZoks
import Derived.Test.YtdnnobkkilffbabZpl
import Derived.StillTailTactics
namespace Go.Proofs.Ytdnnobkkilffbab
open Go.RowKit

set_option maxHeartbeats 800000 in
theorem allWays_spec (A : Option Addr) (n c B : Nat) (zs : List Int) (m : Int) (w : World) (h : Ints w B A n c zs) :
    Calls Try.prog 21 #[.slice A n c, .int .i64 m] w fun e w' => e = .returned (.int .i64 (allWays zs m)) ∧ w = w' := by
  have HI := hide (urnOk_spec _ _ _ _ _ w h)
  by_cases hok : urnOk zs = true
  · rw [hok] at HI
    by_cases hm : 0 ≤ m ∧ m ≤ 6
    · have hd : decide (0 ≤ m ∧ m ≤ 6) = true := decide_eq_true hm
      have HT := hide (l1Total_c _ _ _ _ _ w h hok)
      obtain ⟨s1, s2⟩ := urnOk_sum hok
      have he := hide (show allWays zs m = fall (isum zs) m.toNat by unfold allWays; rw [hok, hd]; rfl)
      obtain ⟨S, hS⟩ : ∃ S, Hid (S = isum zs) := ⟨_, rfl⟩
      rw [← hS.out] at HT s1 s2 he
      have hB := hide (fun k => fall_le 120 S k (by omega) (by omega))
      have hP := hide (fun k => fall_nonneg S k)
      obtain ⟨m0, m6⟩ := hm
      clear hok
      go_enter Try.func21, Try.ntmps21
      go_wp2_with (first | (go_at_call 58; refine (HI.out).mono ?_; rintro e w' ⟨rfl, rfl⟩) | (go_at_call 40; refine (l1In_c _ _ _ _).mono ?_; rintro e w' ⟨rfl, rfl⟩))
      go_loop [5, 6] (fun t i => ∃ k : Nat, (k : Int) ≤ m ∧ i = .int .i64 k ∧ t = .int .i64 (fall S k)) (fun _ i => (m - intOf i).toNat)
      case atStart => exact ⟨0, by omega, rfl, rfl⟩
      case round =>
        obtain ⟨k, hk, rfl, rfl⟩ := hrel
        by_cases hlt : (k : Int) < m
        · have hf0 := hP.out k
          have hf1 : fall S k ≤ 1000000000000 := Int.le_trans (hB.out k) (pow_small k (by omega))
          have hst := hide (fall_snoc S k)
          by_cases hmax : 0 ≤ S - (k : Int)
          · have hq := hide (Int.max_eq_left hmax)
            have hp := mul_bound hf0 hf1 hmax (show S - (k : Int) ≤ 120 by omega)
            obtain ⟨hp1, hp2⟩ := hp
            go_wp2_with (go_at_call 59; refine (HT.out).mono ?_; rintro e w' ⟨rfl, rfl⟩)
            go_round
            case rel => exact ⟨k + 1, by omega, by go_num, by rw [hst.out, hq.out]⟩
            case measure => simp [intOf]; omega
          · have hq := hide (show max (S - (k : Int)) 0 = 0 by omega)
            go_wp2_with (go_at_call 59; refine (HT.out).mono ?_; rintro e w' ⟨rfl, rfl⟩)
            go_round
            case rel => exact ⟨k + 1, by omega, by go_num, by rw [hst.out, hq.out]; simp⟩
            case measure => simp [intOf]; omega
        · have hkm := hide (show m.toNat = k by omega)
          go_wp2
          go_ret
          exact ⟨ret_int (by rw [he.out, hkm.out]), rfl⟩
    · have hd : decide (0 ≤ m ∧ m ≤ 6) = false := decide_eq_false hm
      have he := hide (show allWays zs m = -1 by unfold allWays; rw [hd, Bool.and_false]; rfl)
      clear hm hok
      go_enter Try.func21, Try.ntmps21
      go_wp2_with (first | (go_at_call 58; refine (HI.out).mono ?_; rintro e w' ⟨rfl, rfl⟩) | (go_at_call 40; refine (l1In_c _ _ _ _).mono ?_; rintro e w' ⟨rfl, rfl⟩))
      go_ret
      exact ⟨ret_int he.out.symm, rfl⟩
  · have hok : urnOk zs = false := by simpa using hok
    rw [hok] at HI
    have he := hide (show allWays zs m = -1 by unfold allWays; rw [hok]; rfl)
    clear hok
    go_enter Try.func21, Try.ntmps21
    go_wp2_with (first | (go_at_call 58; refine (HI.out).mono ?_; rintro e w' ⟨rfl, rfl⟩))
    go_ret
    exact ⟨ret_int he.out.symm, rfl⟩
end Go.Proofs.Ytdnnobkkilffbab

namespace Go.Proofs.Ytdnnobkkilffbab
open Go.RowKit

set_option maxHeartbeats 800000 in
theorem sameApart_spec (A : Option Addr) (n c B : Nat) (zs : List Int) (w : World) (h : Ints w B A n c zs) :
    Calls Try.prog 25 #[.slice A n c] w fun e w' => e = .returned (.int .i64 (sameApart zs)) ∧ ∃ q, w' = w.drewN q := by
  have hl := hide h.len
  have hn := h.nb
  have HI := hide (urnOk_spec _ _ _ _ _ w h)
  by_cases hok : urnOk zs = true
  · rw [hok] at HI
    have HT := hide (sameSum_take hok)
    have HE := hide (fun k x (hx : zs[k]? = some x) => urnOk_elem hok hx)
    have he := hide (show sameApart zs = sameSum zs by unfold sameApart; rw [if_pos hok])
    clear hok
    go_enter Try.func25, Try.ntmps25
    go_wp2_with (go_at_call 58; refine (HI.out).mono ?_; rintro e w' ⟨rfl, rfl⟩)
    go_loopw [3, 4] (fun t i wr => ∃ k q : Nat, k ≤ n ∧ i = .int .i64 k ∧ t = .int .i64 (sameSum (zs.take k)) ∧ wr = w.drewN q) (fun _ i _ => n - (intOf i).toNat)
    case atStart => exact ⟨0, 0, Nat.zero_le _, rfl, rfl, rfl⟩
    case round =>
      obtain ⟨k, q, hk, rfl, rfl, rfl⟩ := hrel
      obtain ⟨hs1, hs2⟩ := HT.out k
      by_cases hlt : k < n
      · obtain ⟨b, off, x, rfl, hb, hx, hcell⟩ := h.look hlt
        have hx1 := HE.out k x hx.out
        obtain ⟨p1, p2⟩ := same_bound hx1
        have hst := hide (sameSum_take_succ hx.out)
        have r1 : IntKind.i64.wrap (x - 1) = x - 1 := IntWalk.i64_in _ (by omega)
        have r2 : IntKind.i64.wrap (x * (x - 1)) = x * (x - 1) := IntWalk.i64_in _ (by omega)
        have r3 : IntKind.i64.wrap (sameSum (zs.take k) + x * (x - 1)) = sameSum (zs.take k) + x * (x - 1) := IntWalk.i64_in _ (by omega)
        go_wp2
        go_quiet (fail)
        go_wp2
        go_roundw
        case rel => exact ⟨k + 1, _, by omega, by go_num, by rw [hst.out], rfl⟩
        case measure => simp [intOf]; omega
      · go_wp2
        go_ret
        exact ⟨ret_int (by rw [he.out, List.take_of_length_le (by have := hl.out; omega)]), _, rfl⟩
  · have hok : urnOk zs = false := by simpa using hok
    rw [hok] at HI
    have he := hide (show sameApart zs = -1 by unfold sameApart; rw [hok]; rfl)
    clear hok
    go_enter Try.func25, Try.ntmps25
    go_wp2_with (go_at_call 58; refine (HI.out).mono ?_; rintro e w' ⟨rfl, rfl⟩)
    go_ret
    exact ⟨ret_int he.out.symm, 0, rfl⟩

set_option maxHeartbeats 800000 in
theorem countRowOk_spec (cl : Int) (A : Option Addr) (n c B : Nat) (cs : List Int) (w : World) (h : Ints w B A n c cs) :
    Calls Try.prog 39 #[.int .i64 cl, .slice A n c] w fun e w' => e = .returned (.bool (countRowOk cl cs)) ∧ w = w' := by
  have hl := hide h.len
  have hn := h.nb
  go_enter Try.func39, Try.ntmps39
  go_wp2
  go_loop [5] (fun i => ∃ k : Nat, k ≤ n ∧ i = .int .i64 k ∧ Hid (∀ j x, j < k → cs[j]? = some x → 0 ≤ x ∧ x ≤ 6)) (fun i => n - (intOf i).toNat)
  case atStart => exact ⟨0, Nat.zero_le _, rfl, fun j x hj _ => absurd hj (by omega)⟩
  case round =>
    obtain ⟨k, hk, rfl, hall⟩ := hrel
    by_cases hlt : k < n
    · obtain ⟨b, off, x, rfl, hb, hx, hcell⟩ := h.look hlt
      by_cases hx0 : 0 ≤ x ∧ x ≤ 6
      · have hd : decide (0 ≤ x ∧ x ≤ 6) = true := decide_eq_true hx0
        have hx0 := hide hx0
        go_wp2_with (go_at_call 40; refine (l1In_c _ _ _ _).mono ?_; rintro e w' ⟨rfl, rfl⟩)
        go_round
        case rel => exact ⟨k + 1, by omega, by go_num, fun j y hj hy => by
          rcases Nat.lt_or_ge j k with hjk | hjk
          · exact hall.out j y hjk hy
          · obtain rfl : j = k := by omega
            rw [hx.out] at hy; injection hy with hy; have := hx0.out; omega⟩
        case measure => simp [intOf]; omega
      · have hd : decide (0 ≤ x ∧ x ≤ 6) = false := decide_eq_false hx0
        have hx0 := hide hx0
        go_wp2_with (go_at_call 40; refine (l1In_c _ _ _ _).mono ?_; rintro e w' ⟨rfl, rfl⟩)
        go_ret
        exact ⟨ret_bool (countRowOk_no (.inr (.inr (.inr (.inl ⟨k, x, hx.out, by have := hx0.out; omega⟩))))).symm, rfl⟩
    · have hall2 := hide (fun j x (hj : j < cs.length) hx => hall.out j x (by have := hl.out; omega) hx)
      by_cases hc : 1 ≤ cl ∧ cl ≤ 3
      · have hd : decide (1 ≤ cl ∧ cl ≤ 3) = true := decide_eq_true hc
        have hc' := hide hc
        obtain ⟨hc1, hc2⟩ := hc
        by_cases hcn : (n : Int) = cl
        · have hu := row_urn hc1 hc2 (by have := hl.out; omega) hall2.out
          have HT := hide (l1Total_c _ _ _ _ _ w h hu)
          have hdn : ((n : Int) == cl) = true := by simpa using hcn
          have hcn := hide hcn
          by_cases hs : isum cs ≤ 6
          · have hy := hide (countRowOk_mk hc1 hc2 (by have := hl.out; have := hcn.out; omega) hall2.out hs)
            clear hu
            go_wp2_with (first | (go_at_call 40; refine (l1In_c _ _ _ _).mono ?_; rintro e w' ⟨rfl, rfl⟩) | (go_at_call 59; refine (HT.out).mono ?_; rintro e w' ⟨rfl, rfl⟩))
            go_ret
            rw [hy.out]
            exact ⟨ret_bool (by first | rfl | (simp; done) | (simp; omega)), rfl⟩
          · have hy := hide (countRowOk_no (c := cl) (cs := cs) (.inr (.inr (.inr (.inr (by omega))))))
            clear hu
            go_wp2_with (first | (go_at_call 40; refine (l1In_c _ _ _ _).mono ?_; rintro e w' ⟨rfl, rfl⟩) | (go_at_call 59; refine (HT.out).mono ?_; rintro e w' ⟨rfl, rfl⟩))
            go_ret
            rw [hy.out]
            exact ⟨ret_bool (by first | rfl | (simp; done) | (simp; omega)), rfl⟩
        · have hdn : ((n : Int) == cl) = false := by simpa using hcn
          have hy := hide (countRowOk_no (c := cl) (cs := cs) (.inr (.inr (.inl (by have := hl.out; omega)))))
          clear hcn
          go_wp2_with (first | (go_at_call 40; refine (l1In_c _ _ _ _).mono ?_; rintro e w' ⟨rfl, rfl⟩))
          go_ret
          rw [hy.out]
          exact ⟨rfl, rfl⟩
      · have hd : decide (1 ≤ cl ∧ cl ≤ 3) = false := decide_eq_false hc
        have hy := hide (countRowOk_no (c := cl) (cs := cs) (by omega))
        clear hc
        go_wp2_with (go_at_call 40; refine (l1In_c _ _ _ _).mono ?_; rintro e w' ⟨rfl, rfl⟩)
        go_ret
        rw [hy.out]
        exact ⟨rfl, rfl⟩

theorem product_spec (m : Int) (w : World) (h0 : 0 ≤ m) (h6 : m ≤ 6) :
    Calls Try.prog 66 #[.int .i64 m] w fun e w' => e = .returned (.int .i64 (factI m.toNat)) ∧ w = w' := by
  have hF := hide factI_small
  go_enter Try.func66, Try.ntmps66
  go_wp2
  go_loop [3, 4] (fun t i => ∃ k : Nat, 1 ≤ k ∧ (k : Int) ≤ max m 1 ∧ i = .int .i64 ((k : Int) + 1) ∧ t = .int .i64 (factI k)) (fun _ i => (10 - intOf i).toNat)
  case atStart => exact ⟨1, by omega, by omega, rfl, rfl⟩
  case round =>
    obtain ⟨k, hk1, hk2, rfl, rfl⟩ := hrel
    obtain ⟨f1, f2⟩ := hF.out k (by omega)
    by_cases hlt : (k : Int) + 1 ≤ m
    · obtain ⟨p1, p2⟩ := mul_bound (a := factI k) (b := (k : Int) + 1) (by omega) f2 (by omega) (show (k : Int) + 1 ≤ 6 by omega)
      go_wp2
      go_round
      case rel => exact ⟨k + 1, by omega, by omega, by go_num, rfl⟩
      case measure => simp [intOf]; omega
    · have he := hide (show factI m.toNat = factI k by
        by_cases hm : 1 ≤ m
        · rw [show m.toNat = k by omega]
        · obtain rfl : m = 0 := by omega
          obtain rfl : k = 1 := by omega
          rfl)
      go_wp2
      go_ret
      exact ⟨ret_int he.out.symm, rfl⟩
end Go.Proofs.Ytdnnobkkilffbab

namespace Go.Proofs.Ytdnnobkkilffbab
open Go.RowKit

set_option maxHeartbeats 800000 in
theorem wordsWith_spec (cl : Int) (A : Option Addr) (n c B : Nat) (cs : List Int) (w : World) (h : Ints w B A n c cs) :
    Calls Try.prog 41 #[.int .i64 cl, .slice A n c] w fun e w' => e = .returned (.int .i64 (wordsWith cl cs)) ∧ w = w' := by
  have hl := hide h.len
  have hn := h.nb
  have HI := hide (countRowOk_spec cl _ _ _ _ _ w h)
  by_cases hok : countRowOk cl cs = true
  · rw [hok] at HI
    have hu := countRowOk_urn hok
    obtain ⟨_, _, _, h4, h5⟩ := countRowOk_yes hok
    have HT := hide (l1Total_c _ _ _ _ _ w h hu)
    obtain ⟨s1, s2⟩ := urnOk_sum hu
    have HE := hide (fun k x (hx : cs[k]? = some x) => h4 x (List.mem_of_getElem? hx))
    have he := hide (show wordsWith cl cs = mult cs by unfold wordsWith; rw [if_pos hok])
    obtain ⟨S, hS⟩ : ∃ S, Hid (S = isum cs) := ⟨_, rfl⟩
    have hM := hide (show mult cs = multGo (factI S.toNat) (cs.drop 0) by rw [hS.out]; rfl)
    rw [← hS.out] at HT s1 h5
    obtain ⟨f1, f2⟩ := factI_small S.toNat (by omega)
    have hF := hide factI_small
    clear hok hu h4 s2
    go_enter Try.func41, Try.ntmps41
    go_wp2_with (first | (go_at_call 39; refine (HI.out).mono ?_; rintro e w' ⟨rfl, rfl⟩) | (go_at_call 59; refine (HT.out).mono ?_; rintro e w' ⟨rfl, rfl⟩) | (go_at_call 66; refine (product_spec S _ (by omega) (by omega)).mono ?_; rintro e w' ⟨rfl, rfl⟩))
    go_loop [5, 6] (fun t i => ∃ k : Nat, ∃ a : Int, k ≤ n ∧ 0 ≤ a ∧ a ≤ 720 ∧ i = .int .i64 k ∧ t = .int .i64 a ∧ Hid (mult cs = multGo a (cs.drop k))) (fun _ i => n - (intOf i).toNat)
    case atStart => exact ⟨0, _, Nat.zero_le _, by omega, f2, rfl, rfl, hM⟩
    case round =>
      clear hM f1 f2
      obtain ⟨k, a, hk, ha0, ha1, rfl, rfl, hm⟩ := hrel
      by_cases hlt : k < n
      · obtain ⟨b, off, x, rfl, hb, hx, hcell⟩ := h.look hlt
        obtain ⟨x0, x6⟩ := HE.out k x hx.out
        obtain ⟨g1, g2⟩ := hF.out x.toNat (by omega)
        obtain ⟨d1, d2⟩ := div_small ha0 ha1 g1
        have hst := hide (multGo_step hx.out a)
        have hne : (factI x.toNat == 0) = false := by simp; omega
        go_wp2_with (go_at_call 66; refine (product_spec x _ x0 x6).mono ?_; rintro e w' ⟨rfl, rfl⟩)
        go_round
        case rel => exact ⟨k + 1, _, by omega, d1, d2, by go_num, rfl, hm.out.trans hst.out⟩
        case measure => simp [intOf]; omega
      · go_wp2
        go_ret
        exact ⟨ret_int (by rw [he.out, hm.out, List.drop_eq_nil_of_le (by have := hl.out; omega)]; rfl), rfl⟩
  · have hok : countRowOk cl cs = false := by simpa using hok
    rw [hok] at HI
    have he := hide (show wordsWith cl cs = -1 by unfold wordsWith; rw [hok]; rfl)
    clear hok
    go_enter Try.func41, Try.ntmps41
    go_wp2_with (go_at_call 39; refine (HI.out).mono ?_; rintro e w' ⟨rfl, rfl⟩)
    go_ret
    exact ⟨ret_int he.out.symm, rfl⟩

end Go.Proofs.Ytdnnobkkilffbab

namespace Go.Proofs.Ytdnnobkkilffbab
open Go.RowKit

end Go.Proofs.Ytdnnobkkilffbab

namespace Go.Proofs.Ytdnnobkkilffbab
open Go.RowKit

end Go.Proofs.Ytdnnobkkilffbab
