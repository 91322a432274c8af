/-
  Words, plain lemmas and contracts that belong together, joined into one file.
-/
import Derived.Test.YtffllkmaifjpfacZoks
import Derived.Test.YtffllkmaifjpfacZpl
import Derived.StillTailTactics
namespace Go.Proofs.Ytffllkmaifjpfac
open Go.RowKit

set_option maxHeartbeats 800000 in
theorem wordOk_spec (cl : Int) (A : Option Addr) (n c B : Nat) (ws : List Int) (w : World) (h : Ints w B A n c ws) :
    Calls Try.prog 51 #[.int .i64 cl, .slice A n c] w fun e w' => e = .returned (.bool (wordOk cl ws)) ∧ w = w' := by
  have hl := hide h.len
  have hn := h.nb
  go_enter Try.func51, Try.ntmps51
  go_wp2
  go_loop [5] (fun i => ∃ k : Nat, k ≤ n ∧ i = .int .i64 k ∧ Hid (∀ j x, j < k → ws[j]? = some x → 0 ≤ x ∧ x < cl)) (fun i => n - (intOf i).toNat)
  case atStart => exact ⟨0, Nat.zero_le _, rfl, fun j x hj _ => absurd hj (by omega)⟩
  case round =>
    obtain ⟨k, hk, rfl, hall⟩ := hrel
    by_cases hlt : k < n
    · obtain ⟨b, off, x, rfl, hb, hx, hcell⟩ := h.look hlt
      by_cases hx0 : x < 0
      · go_wp2
        go_ret
        exact ⟨ret_bool (wordOk_bad hx.out (.inl hx0)).symm, rfl⟩
      · by_cases hx1 : cl ≤ x
        · go_wp2
          go_ret
          exact ⟨ret_bool (wordOk_bad hx.out (.inr hx1)).symm, rfl⟩
        · go_wp2
          go_round
          case rel => exact ⟨k + 1, by omega, by go_num, fun j y hj hy => by
            rcases Nat.lt_or_ge j k with hjk | hjk
            · exact hall.out j y hjk hy
            · obtain rfl : j = k := by omega
              rw [hx.out] at hy; injection hy with hy; omega⟩
          case measure => simp [intOf]; omega
    · by_cases hc : 1 ≤ cl ∧ cl ≤ 3
      · have hd : decide (1 ≤ cl ∧ cl ≤ 3) = true := decide_eq_true hc
        have hc := hide hc
        by_cases h6 : n ≤ 6
        · go_wp2_with (go_at_call 55; refine (l1In_c _ _ _ _).mono ?_; rintro e w' ⟨rfl, rfl⟩)
          go_ret
          refine ⟨ret_bool ?_, rfl⟩
          rw [wordOk_mk hc.out.1 hc.out.2 (by have := hl.out; omega) (fun j x hj hx => hall.out j x (by have := hl.out; omega) hx)]
          try (simp; done)
          try (simp; omega)
        · go_wp2_with (go_at_call 55; refine (l1In_c _ _ _ _).mono ?_; rintro e w' ⟨rfl, rfl⟩)
          go_ret
          refine ⟨ret_bool ?_, rfl⟩
          rw [wordOk_size (.inr (.inr (by have := hl.out; omega)))]
          try (simp; done)
          try (simp; omega)
      · have hd : decide (1 ≤ cl ∧ cl ≤ 3) = false := decide_eq_false hc
        have hc := hide hc
        go_wp2_with (go_at_call 55; refine (l1In_c _ _ _ _).mono ?_; rintro e w' ⟨rfl, rfl⟩)
        go_ret
        exact ⟨ret_bool (wordOk_size (by have := hc.out; omega)).symm, rfl⟩

end Go.Proofs.Ytffllkmaifjpfac

namespace Go.Proofs.Ytffllkmaifjpfac
open Go.RowKit

set_option maxHeartbeats 800000 in
theorem countRowOk_spec (cl : Int) (A : Option Addr) (n c B : Nat) (cs : List Int) (w : World) (h : Ints w B A n c cs) :
    Calls Try.prog 40 #[.int .i64 cl, .slice A n c] w fun e w' => e = .returned (.bool (countRowOk cl cs)) ∧ w = w' := by
  have hl := hide h.len
  have hn := h.nb
  go_enter Try.func40, Try.ntmps40
  go_wp2
  go_loop [5] (fun i => ∃ k : Nat, k ≤ n ∧ i = .int .i64 k ∧ Hid (∀ j x, j < k → cs[j]? = some x → 0 ≤ x ∧ x ≤ 6)) (fun i => n - (intOf i).toNat)
  case atStart => exact ⟨0, Nat.zero_le _, rfl, fun j x hj _ => absurd hj (by omega)⟩
  case round =>
    obtain ⟨k, hk, rfl, hall⟩ := hrel
    by_cases hlt : k < n
    · obtain ⟨b, off, x, rfl, hb, hx, hcell⟩ := h.look hlt
      by_cases hx0 : 0 ≤ x ∧ x ≤ 6
      · have hd : decide (0 ≤ x ∧ x ≤ 6) = true := decide_eq_true hx0
        have hx0 := hide hx0
        go_wp2_with (go_at_call 55; refine (l1In_c _ _ _ _).mono ?_; rintro e w' ⟨rfl, rfl⟩)
        go_round
        case rel => exact ⟨k + 1, by omega, by go_num, fun j y hj hy => by
          rcases Nat.lt_or_ge j k with hjk | hjk
          · exact hall.out j y hjk hy
          · obtain rfl : j = k := by omega
            rw [hx.out] at hy; injection hy with hy; have := hx0.out; omega⟩
        case measure => simp [intOf]; omega
      · have hd : decide (0 ≤ x ∧ x ≤ 6) = false := decide_eq_false hx0
        have hx0 := hide hx0
        go_wp2_with (go_at_call 55; refine (l1In_c _ _ _ _).mono ?_; rintro e w' ⟨rfl, rfl⟩)
        go_ret
        exact ⟨ret_bool (countRowOk_no (.inr (.inr (.inr (.inl ⟨k, x, hx.out, by have := hx0.out; omega⟩))))).symm, rfl⟩
    · have hall2 := hide (fun j x (hj : j < cs.length) hx => hall.out j x (by have := hl.out; omega) hx)
      by_cases hc : 1 ≤ cl ∧ cl ≤ 3
      · have hd : decide (1 ≤ cl ∧ cl ≤ 3) = true := decide_eq_true hc
        have hc' := hide hc
        obtain ⟨hc1, hc2⟩ := hc
        by_cases hcn : (n : Int) = cl
        · have hu := row_urn hc1 hc2 (by have := hl.out; omega) hall2.out
          have HT := hide (l1Total_c _ _ _ _ _ w h hu)
          have hdn : ((n : Int) == cl) = true := by simpa using hcn
          have hcn := hide hcn
          by_cases hs : isum cs ≤ 6
          · have hy := hide (countRowOk_mk hc1 hc2 (by have := hl.out; have := hcn.out; omega) hall2.out hs)
            clear hu
            go_wp2_with (first | (go_at_call 55; refine (l1In_c _ _ _ _).mono ?_; rintro e w' ⟨rfl, rfl⟩) | (go_at_call 62; refine (HT.out).mono ?_; rintro e w' ⟨rfl, rfl⟩))
            go_ret
            rw [hy.out]
            exact ⟨ret_bool (by first | rfl | (simp; done) | (simp; omega)), rfl⟩
          · have hy := hide (countRowOk_no (c := cl) (cs := cs) (.inr (.inr (.inr (.inr (by omega))))))
            clear hu
            go_wp2_with (first | (go_at_call 55; refine (l1In_c _ _ _ _).mono ?_; rintro e w' ⟨rfl, rfl⟩) | (go_at_call 62; refine (HT.out).mono ?_; rintro e w' ⟨rfl, rfl⟩))
            go_ret
            rw [hy.out]
            exact ⟨ret_bool (by first | rfl | (simp; done) | (simp; omega)), rfl⟩
        · have hdn : ((n : Int) == cl) = false := by simpa using hcn
          have hy := hide (countRowOk_no (c := cl) (cs := cs) (.inr (.inr (.inl (by have := hl.out; omega)))))
          clear hcn
          go_wp2_with (first | (go_at_call 55; refine (l1In_c _ _ _ _).mono ?_; rintro e w' ⟨rfl, rfl⟩))
          go_ret
          rw [hy.out]
          exact ⟨rfl, rfl⟩
      · have hd : decide (1 ≤ cl ∧ cl ≤ 3) = false := decide_eq_false hc
        have hy := hide (countRowOk_no (c := cl) (cs := cs) (by omega))
        clear hc
        go_wp2_with (go_at_call 55; refine (l1In_c _ _ _ _).mono ?_; rintro e w' ⟨rfl, rfl⟩)
        go_ret
        rw [hy.out]
        exact ⟨rfl, rfl⟩

theorem product_spec (m : Int) (w : World) (h0 : 0 ≤ m) (h6 : m ≤ 6) :
    Calls Try.prog 61 #[.int .i64 m] w fun e w' => e = .returned (.int .i64 (factI m.toNat)) ∧ w = w' := by
  have hF := hide factI_small
  go_enter Try.func61, Try.ntmps61
  go_wp2
  go_loop [3, 4] (fun t i => ∃ k : Nat, 1 ≤ k ∧ (k : Int) ≤ max m 1 ∧ i = .int .i64 ((k : Int) + 1) ∧ t = .int .i64 (factI k)) (fun _ i => (10 - intOf i).toNat)
  case atStart => exact ⟨1, by omega, by omega, rfl, rfl⟩
  case round =>
    obtain ⟨k, hk1, hk2, rfl, rfl⟩ := hrel
    obtain ⟨f1, f2⟩ := hF.out k (by omega)
    by_cases hlt : (k : Int) + 1 ≤ m
    · obtain ⟨p1, p2⟩ := mul_bound (a := factI k) (b := (k : Int) + 1) (by omega) f2 (by omega) (show (k : Int) + 1 ≤ 6 by omega)
      go_wp2
      go_round
      case rel => exact ⟨k + 1, by omega, by omega, by go_num, rfl⟩
      case measure => simp [intOf]; omega
    · have he := hide (show factI m.toNat = factI k by
        by_cases hm : 1 ≤ m
        · rw [show m.toNat = k by omega]
        · obtain rfl : m = 0 := by omega
          obtain rfl : k = 1 := by omega
          rfl)
      go_wp2
      go_ret
      exact ⟨ret_int he.out.symm, rfl⟩
end Go.Proofs.Ytffllkmaifjpfac

namespace Go.Proofs.Ytffllkmaifjpfac
open Go.RowKit

set_option maxHeartbeats 800000 in
theorem wordsWith_spec (cl : Int) (A : Option Addr) (n c B : Nat) (cs : List Int) (w : World) (h : Ints w B A n c cs) :
    Calls Try.prog 30 #[.int .i64 cl, .slice A n c] w fun e w' => e = .returned (.int .i64 (wordsWith cl cs)) ∧ w = w' := by
  have hl := hide h.len
  have hn := h.nb
  have HI := hide (countRowOk_spec cl _ _ _ _ _ w h)
  by_cases hok : countRowOk cl cs = true
  · rw [hok] at HI
    have hu := countRowOk_urn hok
    obtain ⟨_, _, _, h4, h5⟩ := countRowOk_yes hok
    have HT := hide (l1Total_c _ _ _ _ _ w h hu)
    obtain ⟨s1, s2⟩ := urnOk_sum hu
    have HE := hide (fun k x (hx : cs[k]? = some x) => h4 x (List.mem_of_getElem? hx))
    have he := hide (show wordsWith cl cs = mult cs by unfold wordsWith; rw [if_pos hok])
    obtain ⟨S, hS⟩ : ∃ S, Hid (S = isum cs) := ⟨_, rfl⟩
    have hM := hide (show mult cs = multGo (factI S.toNat) (cs.drop 0) by rw [hS.out]; rfl)
    rw [← hS.out] at HT s1 h5
    obtain ⟨f1, f2⟩ := factI_small S.toNat (by omega)
    have hF := hide factI_small
    clear hok hu h4 s2
    go_enter Try.func30, Try.ntmps30
    go_wp2_with (first | (go_at_call 40; refine (HI.out).mono ?_; rintro e w' ⟨rfl, rfl⟩) | (go_at_call 62; refine (HT.out).mono ?_; rintro e w' ⟨rfl, rfl⟩) | (go_at_call 61; refine (product_spec S _ (by omega) (by omega)).mono ?_; rintro e w' ⟨rfl, rfl⟩))
    go_loop [5, 6] (fun t i => ∃ k : Nat, ∃ a : Int, k ≤ n ∧ 0 ≤ a ∧ a ≤ 720 ∧ i = .int .i64 k ∧ t = .int .i64 a ∧ Hid (mult cs = multGo a (cs.drop k))) (fun _ i => n - (intOf i).toNat)
    case atStart => exact ⟨0, _, Nat.zero_le _, by omega, f2, rfl, rfl, hM⟩
    case round =>
      clear hM f1 f2
      obtain ⟨k, a, hk, ha0, ha1, rfl, rfl, hm⟩ := hrel
      by_cases hlt : k < n
      · obtain ⟨b, off, x, rfl, hb, hx, hcell⟩ := h.look hlt
        obtain ⟨x0, x6⟩ := HE.out k x hx.out
        obtain ⟨g1, g2⟩ := hF.out x.toNat (by omega)
        obtain ⟨d1, d2⟩ := div_small ha0 ha1 g1
        have hst := hide (multGo_step hx.out a)
        have hne : (factI x.toNat == 0) = false := by simp; omega
        go_wp2_with (go_at_call 61; refine (product_spec x _ x0 x6).mono ?_; rintro e w' ⟨rfl, rfl⟩)
        go_round
        case rel => exact ⟨k + 1, _, by omega, d1, d2, by go_num, rfl, hm.out.trans hst.out⟩
        case measure => simp [intOf]; omega
      · go_wp2
        go_ret
        exact ⟨ret_int (by rw [he.out, hm.out, List.drop_eq_nil_of_le (by have := hl.out; omega)]; rfl), rfl⟩
  · have hok : countRowOk cl cs = false := by simpa using hok
    rw [hok] at HI
    have he := hide (show wordsWith cl cs = -1 by unfold wordsWith; rw [hok]; rfl)
    clear hok
    go_enter Try.func30, Try.ntmps30
    go_wp2_with (go_at_call 40; refine (HI.out).mono ?_; rintro e w' ⟨rfl, rfl⟩)
    go_ret
    exact ⟨ret_int he.out.symm, rfl⟩

end Go.Proofs.Ytffllkmaifjpfac

namespace Go.Proofs.Ytffllkmaifjpfac
open Go.RowKit

set_option maxHeartbeats 1600000 in
theorem counts_spec (cl : Int) (A : Option Addr) (n c B : Nat) (ws : List Int) (w : World) (h : Ints w B A n c ws) (hB : B ≤ w.heap.size) (hok : wordOk cl ws = true) :
    Calls Try.prog 52 #[.int .i64 cl, .slice A n c] w fun e w' => ∃ A' n' c', e = .returned (.slice A' n' c') ∧ Own w' w.heap.size (.slice A' n' c') (cntL cl.toNat ws) ∧ Below w.heap.size w w' := by
  have hl := hide h.len
  obtain ⟨k1, k2, k3, k4⟩ := wordOk_yes hok
  have HC := hide (fun j x (hx : ws[j]? = some x) => k4 x (List.mem_of_getElem? hx))
  have hn6 : n ≤ 6 := by have := hl.out; omega
  clear hok k4 k3
  obtain ⟨q, hq⟩ : ∃ q : Nat, Hid (cl.toNat = q) := ⟨_, rfl⟩
  have hq3 : q ≤ 3 := by have := hq.out; omega
  have hqc : (q : Int) = cl := by have := hq.out; omega
  rw [hq.out]
  subst hqc
  obtain ⟨i0, hi, hz0, hz1, hz2⟩ := info_parts infoInt
  go_enter Try.func52, Try.ntmps52
  go_wp2_with (at_make; refine wpList_make_full _ rfl _ _ 23 rfl w.heap.size 3 i0 (.int .i64 0) 1 Try.underlying23 hi hz0 hz1 .i64 .i64 _ _ q rfl rfl rfl rfl (by rw [hz2]; omega) (by unfold maxLen; omega) (Nat.le_refl _) ?_; intro w1 hown0 hgrow0)
  have hb0 := hide (show Below w.heap.size w w1 from (Below.refl _ _).grown hgrow0 (Nat.le_refl _) (fun k hk => by cases hk))
  have ho0 := hide (show Own w1 w.heap.size (.slice (some ⟨w.heap.size, 0, none⟩) q q) (cntL q (ws.take 0)) from ⟨by
    have e1 : (madeCells (Value.int .i64 0).cells (q * 1)).toList = (cntL q []).map (Value.int .i64) := by
      rw [cntL_nil]
      simp [Value.cells, toList_madeCells_one]
    have e2 : (cntL q (ws.take 0)).length = q := by simp [cntL]
    rw [e2]
    show w1.ownsRow _ _ _ _ _ ((cntL q []).map _)
    rw [← e1]; exact hown0, fun z hz => by
      rw [List.take_zero, cntL_nil] at hz
      have := List.eq_of_mem_replicate hz
      subst this; decide⟩)
  clear hown0 hgrow0
  go_loopw [6] (fun i wr => ∃ k : Nat, k ≤ n ∧ i = .int .i64 k ∧ Hid (Own wr w.heap.size (.slice (some ⟨w.heap.size, 0, none⟩) q q) (cntL q (ws.take k))) ∧ Hid (Below w.heap.size w wr)) (fun i _ => n - (intOf i).toNat)
  case atStart => exact ⟨0, Nat.zero_le _, rfl, ho0, hb0⟩
  case round =>
    clear ho0 hb0
    obtain ⟨k, hk, rfl, ho, hb⟩ := hrel
    by_cases hlt : k < n
    · obtain ⟨b, off, x, rfl, hbB, hx, hcell⟩ := (h.below (hb.out.mono hB)).look hlt
      obtain ⟨x0, x1⟩ := HC.out k x hx.out
      have hat := cntL_at q (ws.take k) x.toNat (by omega)
      rw [show ((x.toNat : Nat) : Int) = x by omega] at hat
      obtain ⟨g, hA2, hg, hgl, hcy, hfy⟩ := ho.out.at2 hat
      injection hA2 with hA2
      injection hA2 with hA2 _ _
      subst hA2
      have hcl : (ws.take k).count x ≤ 6 := Nat.le_trans List.count_le_length (by rw [List.length_take]; omega)
      have hst := hide (cntL_set (c := q) hx.out x0)
      obtain ⟨y, hy⟩ : ∃ y, Hid (y = (ws.take k).count x) := ⟨_, rfl⟩
      rw [← hy.out] at hcl hst hcy
      have r1 : IntKind.i64.wrap ((y : Int) + 1) = (y : Int) + 1 := IntWalk.i64_in _ (by omega)
      have ho2 := hide (show Own (wr.setCell ⟨w.heap.size, x.toNat, none⟩ (.int .i64 ((y : Int) + 1))) w.heap.size (.slice (some ⟨w.heap.size, 0, none⟩) q q) (cntL q (ws.take (k + 1))) by rw [← hst.out]; exact ho.out.set_ _ (wf_i64 (by omega)))
      have hb2 := hide (hb.out.setCell (p := ⟨w.heap.size, x.toNat, none⟩) (Nat.le_refl _) (.int .i64 ((y : Int) + 1)))
      clear hat hst
      go_wp2
      refine wp_region_still_tail 14 (by kernel_rfl) (by kernel_rfl) ?_
      simp only [List.take_succ_cons, List.take_zero, List.drop_succ_cons, List.drop_zero]
      repeat still_step
      refine wpStill_nil ?_
      go_wp2
      go_roundw
      case rel => exact ⟨k + 1, by omega, by go_num, ho2.out.drew, hb2.out.drew⟩
      case measure => simp [intOf]; omega
    · obtain rfl : k = n := by omega
      go_wp2
      go_ret
      have := ho.out
      rw [List.take_of_length_le (by have := hl.out; omega)] at this
      exact ⟨_, _, _, rfl, this, hb.out⟩

theorem countsOf_spec (cl : Int) (A : Option Addr) (n c B : Nat) (ws : List Int) (w : World) (h : Ints w B A n c ws) (hB : B ≤ w.heap.size) :
    Calls Try.prog 23 #[.int .i64 cl, .slice A n c] w fun e w' => ∃ A' n' c', e = .returned (.slice A' n' c') ∧ Own w' w.heap.size (.slice A' n' c') (countsOf cl ws) ∧ Below w.heap.size w w' := by
  have HW := hide (wordOk_spec cl _ _ _ _ _ w h)
  by_cases hok : wordOk cl ws = true
  · have HT := hide (counts_spec cl _ _ _ _ _ w h hB hok)
    have he := hide (show countsOf cl ws = cntL cl.toNat ws by unfold countsOf; rw [if_pos hok])
    rw [hok] at HW
    clear hok
    go_enter Try.func23, Try.ntmps23
    go_wp2_with (go_at_call 51; refine (HW.out).mono ?_; rintro e w' ⟨rfl, rfl⟩)
    refine HT.out.mono ?_
    rintro e w1 ⟨A', n', c', rfl, ho, hb⟩
    go_wp2_with fail
    go_ret
    rw [he.out]
    exact ⟨_, _, _, rfl, ho, hb⟩
  · have hok : wordOk cl ws = false := by simpa using hok
    have he := hide (show countsOf cl ws = [] by unfold countsOf; rw [hok]; rfl)
    rw [hok] at HW
    clear hok
    go_enter Try.func23, Try.ntmps23
    go_wp2_with (go_at_call 51; refine (HW.out).mono ?_; rintro e w' ⟨rfl, rfl⟩)
    go_ret
    rw [he.out]
    exact ⟨_, _, _, rfl, own_empty (Nat.le_refl _), below_empty (Below.refl _ _) _⟩
end Go.Proofs.Ytffllkmaifjpfac

namespace Go.Proofs.Ytffllkmaifjpfac
open Go.RowKit

set_option maxHeartbeats 3200000 in
theorem countWays_spec (A A' : Option Addr) (n c B n' c' B' : Nat) (zs cs : List Int) (w : World) (h : Ints w B A n c zs) (h' : Ints w B' A' n' c' cs) :
    Calls Try.prog 19 #[.slice A n c, .slice A' n' c'] w fun e w' => e = .returned (.int .i64 (countWays zs cs)) ∧ w = w' := by
  have hl := hide h.len
  have hl' := hide h'.len
  have HI := hide (urnOk_spec _ _ _ _ _ w h)
  have HR := hide (countRowOk_spec (n : Int) _ _ _ _ _ w h')
  have HW := hide (wordsWith_spec (n : Int) _ _ _ _ _ w h')
  by_cases hok : urnOk zs = true
  · rw [hok] at HI
    by_cases hrk : countRowOk (n : Int) cs = true
    · rw [hrk] at HR
      have hrk2 : countRowOk (zs.length : Int) cs = true := by rw [hl.out]; exact hrk
      have he := hide (countWays_end hok hrk2)
      have hwe := hide (show wordsWith (n : Int) cs = mult cs by unfold wordsWith; rw [if_pos hrk])
      rw [hwe.out] at HW
      obtain ⟨m0, m1⟩ := mult_bound hrk
      obtain ⟨_, _, hln, h4, _⟩ := countRowOk_yes hrk
      have hnn : n' = n := by have := hl'.out; omega
      have hnn := hnn.symm
      subst hnn
      have hn3 : n ≤ 3 := by have := (urnOk_size hok).2; have := hl.out; omega
      obtain ⟨W, hW⟩ : ∃ W, Hid (mult cs = W) := ⟨_, rfl⟩
      rw [hW.out] at HW m0 m1 he
      have HV := hide (fun k x z (hx : cs[k]? = some x) (hz : zs[k]? = some z) => countWays_bound hok hrk2 hx hz m0 m1)
      have HC := hide (fun k x (hx : cs[k]? = some x) => h4 x (List.mem_of_getElem? hx))
      have HE := hide (fun k x (hx : zs[k]? = some x) => urnOk_elem hok hx)
      clear hok hrk hrk2 h4 hln
      go_enter Try.func19, Try.ntmps19
      go_wp2_with (first | (go_at_call 39; refine (HI.out).mono ?_; rintro e w' ⟨rfl, rfl⟩) | (go_at_call 40; refine (HR.out).mono ?_; rintro e w' ⟨rfl, rfl⟩) | (go_at_call 30; refine (HW.out).mono ?_; rintro e w' ⟨rfl, rfl⟩))
      clear HI HR HW
      go_loop [5, 6, 7] (fun t i _ => ∃ k : Nat, k ≤ n ∧ i = .int .i64 k ∧ t = .int .i64 (W * prodK zs cs k)) (fun _ i _ => n - (intOf i).toNat)
      case atStart => exact ⟨0, Nat.zero_le _, rfl, by simp [prodK]⟩
      case round =>
        obtain ⟨k, hk, rfl, rfl⟩ := hrel
        by_cases hlt : k < n
        · obtain ⟨b, off, z, rfl, hb, hz, hcell⟩ := h.look hlt
          obtain ⟨b', off', x, rfl, hb', hx, hcell'⟩ := h'.look hlt
          obtain ⟨x0, x6⟩ := HC.out k x hx.out
          obtain ⟨z0, z40⟩ := HE.out k z hz.out
          have hV := hide (HV.out k x z hx.out hz.out)
          have hpk := hide (show prodK zs cs (k + 1) = prodK zs cs k * fall z x.toNat by simp only [prodK]; rw [hz.out, hx.out]; rfl)
          obtain ⟨P, hP⟩ : ∃ P, Hid (prodK zs cs k = P) := ⟨_, rfl⟩
          rw [hP.out] at hV hpk ⊢
          have hsn := hide (fun j => fall_snoc z j)
          go_wp2
          go_loop [5, 7] (fun t i => ∃ j : Nat, (j : Int) ≤ x ∧ i = .int .i64 j ∧ t = .int .i64 (W * (P * fall z j))) (fun _ i => (x - intOf i).toNat)
          case atStart => exact ⟨0, by omega, rfl, by simp [fall]⟩
          case round =>
            obtain ⟨j, hj, rfl, rfl⟩ := hrel
            by_cases hjx : (j : Int) < x
            · obtain ⟨v0, v1⟩ := hV.out j hj
              obtain ⟨V, hVe⟩ : ∃ V, Hid (W * (P * fall z j) = V) := ⟨_, rfl⟩
              rw [hVe.out] at v0 v1 ⊢
              by_cases hmx : 0 ≤ z - (j : Int)
              · obtain ⟨p1, p2⟩ := mul_bound v0 v1 hmx (show z - (j : Int) ≤ 40 by omega)
                have hnx := hide (show W * (P * fall z (j + 1)) = V * (z - (j : Int)) by rw [hsn.out, Int.max_eq_left hmx, ← hVe.out]; simp only [Int.mul_assoc])
                go_wp2
                go_round
                case rel => exact ⟨j + 1, by omega, by go_num, by rw [hnx.out]⟩
                case measure => simp [intOf]; omega
              · have hnx := hide (show W * (P * fall z (j + 1)) = 0 by rw [hsn.out, show max (z - (j : Int)) 0 = 0 by omega]; simp)
                go_wp2
                go_round
                case rel => exact ⟨j + 1, by omega, by go_num, by rw [hnx.out]; try simp⟩
                case measure => simp [intOf]; omega
            · have hjn := hide (show x.toNat = j by omega)
              go_wp2
              go_round
              case rel => exact ⟨k + 1, by omega, by go_num, by rw [hpk.out, hjn.out]⟩
              case measure => simp [intOf]; omega
        · obtain rfl : k = n := by omega
          go_wp2
          go_ret
          exact ⟨ret_int (by rw [he.out, hl'.out]), rfl⟩
    · have hrk : countRowOk (n : Int) cs = false := by simpa using hrk
      rw [hrk] at HR
      have he := hide (show countWays zs cs = -1 by unfold countWays; rw [hl.out, hrk, Bool.and_false]; rfl)
      clear hok hrk
      go_enter Try.func19, Try.ntmps19
      go_wp2_with (first | (go_at_call 39; refine (HI.out).mono ?_; rintro e w' ⟨rfl, rfl⟩) | (go_at_call 40; refine (HR.out).mono ?_; rintro e w' ⟨rfl, rfl⟩))
      go_ret
      exact ⟨ret_int he.out.symm, rfl⟩
  · have hok : urnOk zs = false := by simpa using hok
    rw [hok] at HI
    have he := hide (show countWays zs cs = -1 by unfold countWays; rw [hok]; rfl)
    clear hok
    go_enter Try.func19, Try.ntmps19
    go_wp2_with (first | (go_at_call 39; refine (HI.out).mono ?_; rintro e w' ⟨rfl, rfl⟩))
    go_ret
    exact ⟨ret_int he.out.symm, rfl⟩
end Go.Proofs.Ytffllkmaifjpfac
