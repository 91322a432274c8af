/-
  Words, plain lemmas and contracts that belong together, joined into one file.
-/
import Derived.Test.YtffllkmaifjpfadZoks
import Derived.Test.YtffllkmaifjpfadZpl
import Derived.StillTailTactics
namespace Go.Proofs.Ytffllkmaifjpfad
open Go.RowKit

set_option maxHeartbeats 800000 in
theorem wordOk_spec (cl : Int) (A : Option Addr) (n c B : Nat) (ws : List Int) (w : World) (h : Ints w B A n c ws) :
    Calls Try.prog 56 #[.int .i64 cl, .slice A n c] w fun e w' => e = .returned (.bool (wordOk cl ws)) ∧ w = w' := by
  have hl := hide h.len
  have hn := h.nb
  go_enter Try.func56, Try.ntmps56
  go_wp2
  go_loop [5] (fun i => ∃ k : Nat, k ≤ n ∧ i = .int .i64 k ∧ Hid (∀ j x, j < k → ws[j]? = some x → 0 ≤ x ∧ x < cl)) (fun i => n - (intOf i).toNat)
  case atStart => exact ⟨0, Nat.zero_le _, rfl, fun j x hj _ => absurd hj (by omega)⟩
  case round =>
    obtain ⟨k, hk, rfl, hall⟩ := hrel
    by_cases hlt : k < n
    · obtain ⟨b, off, x, rfl, hb, hx, hcell⟩ := h.look hlt
      by_cases hx0 : x < 0
      · go_wp2
        go_ret
        exact ⟨ret_bool (wordOk_bad hx.out (.inl hx0)).symm, rfl⟩
      · by_cases hx1 : cl ≤ x
        · go_wp2
          go_ret
          exact ⟨ret_bool (wordOk_bad hx.out (.inr hx1)).symm, rfl⟩
        · go_wp2
          go_round
          case rel => exact ⟨k + 1, by omega, by go_num, fun j y hj hy => by
            rcases Nat.lt_or_ge j k with hjk | hjk
            · exact hall.out j y hjk hy
            · obtain rfl : j = k := by omega
              rw [hx.out] at hy; injection hy with hy; omega⟩
          case measure => simp [intOf]; omega
    · by_cases hc : 1 ≤ cl ∧ cl ≤ 3
      · have hd : decide (1 ≤ cl ∧ cl ≤ 3) = true := decide_eq_true hc
        have hc := hide hc
        by_cases h6 : n ≤ 6
        · go_wp2_with (go_at_call 40; refine (l1In_c _ _ _ _).mono ?_; rintro e w' ⟨rfl, rfl⟩)
          go_ret
          refine ⟨ret_bool ?_, rfl⟩
          rw [wordOk_mk hc.out.1 hc.out.2 (by have := hl.out; omega) (fun j x hj hx => hall.out j x (by have := hl.out; omega) hx)]
          try (simp; done)
          try (simp; omega)
        · go_wp2_with (go_at_call 40; refine (l1In_c _ _ _ _).mono ?_; rintro e w' ⟨rfl, rfl⟩)
          go_ret
          refine ⟨ret_bool ?_, rfl⟩
          rw [wordOk_size (.inr (.inr (by have := hl.out; omega)))]
          try (simp; done)
          try (simp; omega)
      · have hd : decide (1 ≤ cl ∧ cl ≤ 3) = false := decide_eq_false hc
        have hc := hide hc
        go_wp2_with (go_at_call 40; refine (l1In_c _ _ _ _).mono ?_; rintro e w' ⟨rfl, rfl⟩)
        go_ret
        exact ⟨ret_bool (wordOk_size (by have := hc.out; omega)).symm, rfl⟩

end Go.Proofs.Ytffllkmaifjpfad

namespace Go.Proofs.Ytffllkmaifjpfad
open Go.RowKit

set_option maxHeartbeats 800000 in
theorem countRowOk_spec (cl : Int) (A : Option Addr) (n c B : Nat) (cs : List Int) (w : World) (h : Ints w B A n c cs) :
    Calls Try.prog 39 #[.int .i64 cl, .slice A n c] w fun e w' => e = .returned (.bool (countRowOk cl cs)) ∧ w = w' := by
  have hl := hide h.len
  have hn := h.nb
  go_enter Try.func39, Try.ntmps39
  go_wp2
  go_loop [5] (fun i => ∃ k : Nat, k ≤ n ∧ i = .int .i64 k ∧ Hid (∀ j x, j < k → cs[j]? = some x → 0 ≤ x ∧ x ≤ 6)) (fun i => n - (intOf i).toNat)
  case atStart => exact ⟨0, Nat.zero_le _, rfl, fun j x hj _ => absurd hj (by omega)⟩
  case round =>
    obtain ⟨k, hk, rfl, hall⟩ := hrel
    by_cases hlt : k < n
    · obtain ⟨b, off, x, rfl, hb, hx, hcell⟩ := h.look hlt
      by_cases hx0 : 0 ≤ x ∧ x ≤ 6
      · have hd : decide (0 ≤ x ∧ x ≤ 6) = true := decide_eq_true hx0
        have hx0 := hide hx0
        go_wp2_with (go_at_call 40; refine (l1In_c _ _ _ _).mono ?_; rintro e w' ⟨rfl, rfl⟩)
        go_round
        case rel => exact ⟨k + 1, by omega, by go_num, fun j y hj hy => by
          rcases Nat.lt_or_ge j k with hjk | hjk
          · exact hall.out j y hjk hy
          · obtain rfl : j = k := by omega
            rw [hx.out] at hy; injection hy with hy; have := hx0.out; omega⟩
        case measure => simp [intOf]; omega
      · have hd : decide (0 ≤ x ∧ x ≤ 6) = false := decide_eq_false hx0
        have hx0 := hide hx0
        go_wp2_with (go_at_call 40; refine (l1In_c _ _ _ _).mono ?_; rintro e w' ⟨rfl, rfl⟩)
        go_ret
        exact ⟨ret_bool (countRowOk_no (.inr (.inr (.inr (.inl ⟨k, x, hx.out, by have := hx0.out; omega⟩))))).symm, rfl⟩
    · have hall2 := hide (fun j x (hj : j < cs.length) hx => hall.out j x (by have := hl.out; omega) hx)
      by_cases hc : 1 ≤ cl ∧ cl ≤ 3
      · have hd : decide (1 ≤ cl ∧ cl ≤ 3) = true := decide_eq_true hc
        have hc' := hide hc
        obtain ⟨hc1, hc2⟩ := hc
        by_cases hcn : (n : Int) = cl
        · have hu := row_urn hc1 hc2 (by have := hl.out; omega) hall2.out
          have HT := hide (l1Total_c _ _ _ _ _ w h hu)
          have hdn : ((n : Int) == cl) = true := by simpa using hcn
          have hcn := hide hcn
          by_cases hs : isum cs ≤ 6
          · have hy := hide (countRowOk_mk hc1 hc2 (by have := hl.out; have := hcn.out; omega) hall2.out hs)
            clear hu
            go_wp2_with (first | (go_at_call 40; refine (l1In_c _ _ _ _).mono ?_; rintro e w' ⟨rfl, rfl⟩) | (go_at_call 58; refine (HT.out).mono ?_; rintro e w' ⟨rfl, rfl⟩))
            go_ret
            rw [hy.out]
            exact ⟨ret_bool (by first | rfl | (simp; done) | (simp; omega)), rfl⟩
          · have hy := hide (countRowOk_no (c := cl) (cs := cs) (.inr (.inr (.inr (.inr (by omega))))))
            clear hu
            go_wp2_with (first | (go_at_call 40; refine (l1In_c _ _ _ _).mono ?_; rintro e w' ⟨rfl, rfl⟩) | (go_at_call 58; refine (HT.out).mono ?_; rintro e w' ⟨rfl, rfl⟩))
            go_ret
            rw [hy.out]
            exact ⟨ret_bool (by first | rfl | (simp; done) | (simp; omega)), rfl⟩
        · have hdn : ((n : Int) == cl) = false := by simpa using hcn
          have hy := hide (countRowOk_no (c := cl) (cs := cs) (.inr (.inr (.inl (by have := hl.out; omega)))))
          clear hcn
          go_wp2_with (first | (go_at_call 40; refine (l1In_c _ _ _ _).mono ?_; rintro e w' ⟨rfl, rfl⟩))
          go_ret
          rw [hy.out]
          exact ⟨rfl, rfl⟩
      · have hd : decide (1 ≤ cl ∧ cl ≤ 3) = false := decide_eq_false hc
        have hy := hide (countRowOk_no (c := cl) (cs := cs) (by omega))
        clear hc
        go_wp2_with (go_at_call 40; refine (l1In_c _ _ _ _).mono ?_; rintro e w' ⟨rfl, rfl⟩)
        go_ret
        rw [hy.out]
        exact ⟨rfl, rfl⟩

theorem product_spec (m : Int) (w : World) (h0 : 0 ≤ m) (h6 : m ≤ 6) :
    Calls Try.prog 57 #[.int .i64 m] w fun e w' => e = .returned (.int .i64 (factI m.toNat)) ∧ w = w' := by
  have hF := hide factI_small
  go_enter Try.func57, Try.ntmps57
  go_wp2
  go_loop [3, 4] (fun t i => ∃ k : Nat, 1 ≤ k ∧ (k : Int) ≤ max m 1 ∧ i = .int .i64 ((k : Int) + 1) ∧ t = .int .i64 (factI k)) (fun _ i => (10 - intOf i).toNat)
  case atStart => exact ⟨1, by omega, by omega, rfl, rfl⟩
  case round =>
    obtain ⟨k, hk1, hk2, rfl, rfl⟩ := hrel
    obtain ⟨f1, f2⟩ := hF.out k (by omega)
    by_cases hlt : (k : Int) + 1 ≤ m
    · obtain ⟨p1, p2⟩ := mul_bound (a := factI k) (b := (k : Int) + 1) (by omega) f2 (by omega) (show (k : Int) + 1 ≤ 6 by omega)
      go_wp2
      go_round
      case rel => exact ⟨k + 1, by omega, by omega, by go_num, rfl⟩
      case measure => simp [intOf]; omega
    · have he := hide (show factI m.toNat = factI k by
        by_cases hm : 1 ≤ m
        · rw [show m.toNat = k by omega]
        · obtain rfl : m = 0 := by omega
          obtain rfl : k = 1 := by omega
          rfl)
      go_wp2
      go_ret
      exact ⟨ret_int he.out.symm, rfl⟩
end Go.Proofs.Ytffllkmaifjpfad

namespace Go.Proofs.Ytffllkmaifjpfad
open Go.RowKit

set_option maxHeartbeats 800000 in
theorem wordsWith_spec (cl : Int) (A : Option Addr) (n c B : Nat) (cs : List Int) (w : World) (h : Ints w B A n c cs) :
    Calls Try.prog 27 #[.int .i64 cl, .slice A n c] w fun e w' => e = .returned (.int .i64 (wordsWith cl cs)) ∧ w = w' := by
  have hl := hide h.len
  have hn := h.nb
  have HI := hide (countRowOk_spec cl _ _ _ _ _ w h)
  by_cases hok : countRowOk cl cs = true
  · rw [hok] at HI
    have hu := countRowOk_urn hok
    obtain ⟨_, _, _, h4, h5⟩ := countRowOk_yes hok
    have HT := hide (l1Total_c _ _ _ _ _ w h hu)
    obtain ⟨s1, s2⟩ := urnOk_sum hu
    have HE := hide (fun k x (hx : cs[k]? = some x) => h4 x (List.mem_of_getElem? hx))
    have he := hide (show wordsWith cl cs = mult cs by unfold wordsWith; rw [if_pos hok])
    obtain ⟨S, hS⟩ : ∃ S, Hid (S = isum cs) := ⟨_, rfl⟩
    have hM := hide (show mult cs = multGo (factI S.toNat) (cs.drop 0) by rw [hS.out]; rfl)
    rw [← hS.out] at HT s1 h5
    obtain ⟨f1, f2⟩ := factI_small S.toNat (by omega)
    have hF := hide factI_small
    clear hok hu h4 s2
    go_enter Try.func27, Try.ntmps27
    go_wp2_with (first | (go_at_call 39; refine (HI.out).mono ?_; rintro e w' ⟨rfl, rfl⟩) | (go_at_call 58; refine (HT.out).mono ?_; rintro e w' ⟨rfl, rfl⟩) | (go_at_call 57; refine (product_spec S _ (by omega) (by omega)).mono ?_; rintro e w' ⟨rfl, rfl⟩))
    go_loop [5, 6] (fun t i => ∃ k : Nat, ∃ a : Int, k ≤ n ∧ 0 ≤ a ∧ a ≤ 720 ∧ i = .int .i64 k ∧ t = .int .i64 a ∧ Hid (mult cs = multGo a (cs.drop k))) (fun _ i => n - (intOf i).toNat)
    case atStart => exact ⟨0, _, Nat.zero_le _, by omega, f2, rfl, rfl, hM⟩
    case round =>
      clear hM f1 f2
      obtain ⟨k, a, hk, ha0, ha1, rfl, rfl, hm⟩ := hrel
      by_cases hlt : k < n
      · obtain ⟨b, off, x, rfl, hb, hx, hcell⟩ := h.look hlt
        obtain ⟨x0, x6⟩ := HE.out k x hx.out
        obtain ⟨g1, g2⟩ := hF.out x.toNat (by omega)
        obtain ⟨d1, d2⟩ := div_small ha0 ha1 g1
        have hst := hide (multGo_step hx.out a)
        have hne : (factI x.toNat == 0) = false := by simp; omega
        go_wp2_with (go_at_call 57; refine (product_spec x _ x0 x6).mono ?_; rintro e w' ⟨rfl, rfl⟩)
        go_round
        case rel => exact ⟨k + 1, _, by omega, d1, d2, by go_num, rfl, hm.out.trans hst.out⟩
        case measure => simp [intOf]; omega
      · go_wp2
        go_ret
        exact ⟨ret_int (by rw [he.out, hm.out, List.drop_eq_nil_of_le (by have := hl.out; omega)]; rfl), rfl⟩
  · have hok : countRowOk cl cs = false := by simpa using hok
    rw [hok] at HI
    have he := hide (show wordsWith cl cs = -1 by unfold wordsWith; rw [hok]; rfl)
    clear hok
    go_enter Try.func27, Try.ntmps27
    go_wp2_with (go_at_call 39; refine (HI.out).mono ?_; rintro e w' ⟨rfl, rfl⟩)
    go_ret
    exact ⟨ret_int he.out.symm, rfl⟩

set_option maxHeartbeats 1600000 in
theorem wordWays_spec (A A' : Option Addr) (n c B n' c' B' : Nat) (zs ws : List Int) (w : World) (h : Ints w B A n c zs) (h' : Ints w B' A' n' c' ws) (hB : B ≤ w.heap.size) (hB' : B' ≤ w.heap.size) :
    Calls Try.prog 24 #[.slice A n c, .slice A' n' c'] w fun e w' => e = .returned (.int .i64 (wordWays zs ws)) ∧ Below w.heap.size w w' := by
  have hl := hide h.len
  have hl' := hide h'.len
  have HI := hide (urnOk_spec _ _ _ _ _ w h)
  have HW := hide (wordOk_spec (n : Int) _ _ _ _ _ w h')
  by_cases hok : urnOk zs = true
  · rw [hok] at HI
    by_cases hwk : wordOk (n : Int) ws = true
    · rw [hwk] at HW
      obtain ⟨k1, k2, k3, k4⟩ := wordOk_yes hwk
      have HC := hide (fun j x (hx : ws[j]? = some x) => k4 x (List.mem_of_getElem? hx))
      have HE := hide (urnOk_mem hok)
      have he := hide (show wordWays zs ws = 1 * ways zs (ws.drop 0) by unfold wordWays; rw [hok, hl.out, hwk, Int.one_mul]; rfl)
      have hn6 : n' ≤ 6 := by have := hl'.out; omega
      have hn3 : n ≤ 3 := by omega
      obtain ⟨i0, hi, hz0, hz1, hz2⟩ := info_parts infoInt
      clear hok hwk k1 k2 k3 k4
      go_enter Try.func24, Try.ntmps24
      go_wp2_with (first | (go_at_call 52; refine (HI.out).mono ?_; rintro e w' ⟨rfl, rfl⟩) | (go_at_call 56; refine (HW.out).mono ?_; rintro e w' ⟨rfl, rfl⟩) | (at_builtin; refine wpList_app _ rfl _ _ 23 rfl i0 Try.underlying23 hi hz0 hz1 hz2 _ _ rfl (own_empty (base := w.heap.size) (Nat.le_refl _)) _ n c _ zs rfl (h.alloc hB _) (by simp) (by simp; omega) ?_; intro A₂ n₂ c₂ w1 ho hg; have hb := hide ((below_empty (Below.refl _ _) _).grown hg (by simp) (fun k hk => Nat.le_of_eq (Option.some.inj hk))); have ho := hide ho; clear hg))
      have hn2 := ho.out.len
      rw [show ([] ++ zs) = zs from rfl, hl.out] at hn2
      have hn2 := hn2.symm
      subst hn2
      go_loopw [6, 7] (fun t i wr => ∃ k : Nat, ∃ (a : Int) (left : List Int), k ≤ n' ∧ 0 ≤ a ∧ a ≤ 40 ^ k ∧ i = .int .i64 k ∧ t = .int .i64 a ∧ Hid (Own wr w.heap.size (.slice A₂ n c₂) left) ∧ Hid (wordWays zs ws = a * ways left (ws.drop k)) ∧ Hid (∀ z ∈ left, -(k : Int) ≤ z ∧ z ≤ 40) ∧ Hid (Below w.heap.size w wr)) (fun _ i _ => n' - (intOf i).toNat)
      case atStart => exact ⟨0, 1, zs, Nat.zero_le _, by omega, by decide, rfl, rfl, ho, he, fun z hz => by have := HE.out z hz; omega, hb⟩
      case round =>
        clear ho he hb HE
        obtain ⟨k, a, left, hk, ha0, ha1, rfl, rfl, ho, he, hE, hb⟩ := hrel
        have hs := hb.out.size
        by_cases hlt : k < n'
        · obtain ⟨b, off, x, hA, hbB, hx, hcell⟩ := (h'.below (hb.out.mono hB')).look hlt
          obtain ⟨x0, x1⟩ := HC.out k x hx.out
          have hll := ho.out.len
          obtain ⟨y, hy⟩ : ∃ y, Hid (left[x.toNat]? = some y) := ⟨_, hide (List.getElem?_eq_getElem (by omega))⟩
          obtain ⟨g, hA2, hg, hgl, hcy, hfy⟩ := ho.out.at2 hy.out
          obtain ⟨y0, y1⟩ := hE.out y (List.mem_of_getElem? hy.out)
          have hby := ballsAt_eq hy.out
          have hst := hide (ways_step (left := left) (acc := a) hx.out)
          rw [hby] at hst
          have ha2 : a ≤ 40 ^ 5 := Int.le_trans ha1 (pow40 k (by omega))
          have ha3 : a ≤ 102400000 := ha2
          have ho2 := hide (show Own (wr.setCell ⟨g, x.toNat, none⟩ (.int .i64 (y - 1))) w.heap.size (.slice (some ⟨g, 0, none⟩) n c₂) (left.set x.toNat (y - 1)) from (hA2 ▸ ho.out).set_ (y - 1) (wf_i64 (by omega)))
          have hb2 := hide (hb.out.setCell (p := ⟨g, x.toNat, none⟩) hg (.int .i64 (y - 1)))
          have hE2 := hide (show ∀ z ∈ left.set x.toNat (y - 1), -((k + 1 : Nat) : Int) ≤ z ∧ z ≤ 40 from fun z hz => by
            rcases List.mem_or_eq_of_mem_set hz with h1 | h1
            · have := hE.out z h1; omega
            · omega)
          clear hll hby ha2
          subst hA; subst hA2
          have r1 : IntKind.i64.wrap (y - 1) = y - 1 := IntWalk.i64_in _ (by omega)
          have hkn' : x < (n : Int) := x1
          by_cases hy0 : 0 ≤ y
          · obtain ⟨p1, p2⟩ := mul_bound ha0 ha3 hy0 y1
            have hpw := hide (show a * y ≤ 40 ^ (k + 1) by rw [Int.pow_succ]; exact (mul_bound ha0 ha1 hy0 y1).2)
            have hmx := hide (show max y 0 = y by omega)
            rw [hmx.out] at hst
            go_wp2
            refine wp_region_still_tail 14 (by kernel_rfl) (by kernel_rfl) ?_
            simp only [List.take_succ_cons, List.take_zero, List.drop_succ_cons, List.drop_zero]
            repeat still_step
            refine wpStill_nil ?_
            go_wp2
            go_roundw
            case rel => exact ⟨k + 1, _, _, by omega, p1, hpw.out, by go_num, rfl, ho2.out.drew, he.out.trans hst.out, hE2.out, hb2.out.drew⟩
            case measure => simp [intOf]; omega
          · have hmx := hide (show max y 0 = 0 by omega)
            rw [hmx.out, Int.mul_zero] at hst
            go_wp2
            refine wp_region_still_tail 14 (by kernel_rfl) (by kernel_rfl) ?_
            simp only [List.take_succ_cons, List.take_zero, List.drop_succ_cons, List.drop_zero]
            repeat still_step
            refine wpStill_nil ?_
            go_wp2
            go_roundw
            case rel => exact ⟨k + 1, 0, _, by omega, by omega, Int.pow_nonneg (by omega), by go_num, by simp, ho2.out.drew, he.out.trans hst.out, hE2.out, hb2.out.drew⟩
            case measure => simp [intOf]; omega
        · go_wp2
          go_ret
          exact ⟨ret_int (by rw [he.out, ways_end _ _ (by have := hl'.out; omega)]), hb.out⟩
    · have hwk : wordOk (n : Int) ws = false := by simpa using hwk
      rw [hwk] at HW
      have he := hide (show wordWays zs ws = -1 by unfold wordWays; rw [hl.out, hwk, Bool.and_false]; rfl)
      clear hok hwk
      go_enter Try.func24, Try.ntmps24
      go_wp2_with (first | (go_at_call 52; refine (HI.out).mono ?_; rintro e w' ⟨rfl, rfl⟩) | (go_at_call 56; refine (HW.out).mono ?_; rintro e w' ⟨rfl, rfl⟩))
      go_ret
      exact ⟨ret_int he.out.symm, Below.refl _ _⟩
  · have hok : urnOk zs = false := by simpa using hok
    rw [hok] at HI
    have he := hide (show wordWays zs ws = -1 by unfold wordWays; rw [hok]; rfl)
    clear hok
    go_enter Try.func24, Try.ntmps24
    go_wp2_with (first | (go_at_call 52; refine (HI.out).mono ?_; rintro e w' ⟨rfl, rfl⟩))
    go_ret
    exact ⟨ret_int he.out.symm, Below.refl _ _⟩
end Go.Proofs.Ytffllkmaifjpfad
