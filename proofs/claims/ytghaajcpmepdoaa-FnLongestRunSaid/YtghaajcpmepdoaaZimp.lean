/-
  Words, plain lemmas and contracts that belong together, joined into one file.
-/
import Derived.Test.YtghaajcpmepdoaaZoks
import Derived.Test.YtghaajcpmepdoaaZpl
import Derived.StillTailTactics
namespace Go.Proofs.Ytghaajcpmepdoaa
open Go.RowKit

theorem coloursOk_c (a : Int) (w : World) : Calls Try.prog 35 #[.int .i64 a] w fun e w' => e = .returned (.bool (decide (1 ≤ a ∧ a ≤ 3))) ∧ w = w' := by
  by_cases h1 : 1 ≤ a
  · by_cases h2 : a ≤ 3
    · go_enter Try.func35, Try.ntmps35
      go_wp2
      go_ret
      exact ⟨ret_bool (by simp; omega), rfl⟩
    · go_enter Try.func35, Try.ntmps35
      go_wp2
      go_ret
      exact ⟨ret_bool (by simp; omega), rfl⟩
  · go_enter Try.func35, Try.ntmps35
    go_wp2
    go_ret
    exact ⟨ret_bool (by simp; omega), rfl⟩

set_option maxHeartbeats 800000 in
theorem wordOk_impl0 (cl : Int) (A : Option Addr) (n c B : Nat) (ws : List Int) (w : World) (h : Ints w B A n c ws) :
    Calls Try.prog 14 #[.int .i64 cl, .slice A n c] w fun e w' => e = .returned (.bool (wordOk cl ws)) ∧ w = w' := by
  have hl := hide h.len
  have hn := h.nb
  have HC := hide (fun w => coloursOk_c cl w)
  by_cases hc : 1 ≤ cl ∧ cl ≤ 3
  · have hd := decide_eq_true hc
    rw [hd] at HC
    have hc := hide hc
    by_cases h6 : 6 < n
    · have hy := hide (wordOk_size (c := cl) (ws := ws) (.inr (.inr (by have := hl.out; omega))))
      go_enter Try.func14, Try.ntmps14
      go_wp2_with (go_at_call 35; refine (HC.out _).mono ?_; rintro e w' ⟨rfl, rfl⟩)
      go_ret
      exact ⟨ret_bool hy.out.symm, rfl⟩
    · go_enter Try.func14, Try.ntmps14
      go_wp2_with (go_at_call 35; refine (HC.out _).mono ?_; rintro e w' ⟨rfl, rfl⟩)
      go_loop [17] (fun i => ∃ k : Nat, k ≤ n ∧ i = .int .i64 k ∧ Hid (∀ j x, j < k → ws[j]? = some x → 0 ≤ x ∧ x < cl)) (fun i => n - (intOf i).toNat)
      case atStart => exact ⟨0, Nat.zero_le _, rfl, fun j x hj _ => absurd hj (by omega)⟩
      case round =>
        obtain ⟨k, hk, rfl, hall⟩ := hrel
        by_cases hlt : k < n
        · obtain ⟨b, off, x, rfl, hb, hx, hcell⟩ := h.look hlt
          by_cases hx0 : x < 0
          · go_wp2
            go_ret
            exact ⟨ret_bool (wordOk_bad hx.out (.inl hx0)).symm, rfl⟩
          · by_cases hx1 : cl ≤ x
            · go_wp2
              go_ret
              exact ⟨ret_bool (wordOk_bad hx.out (.inr hx1)).symm, rfl⟩
            · go_wp2
              go_round
              case rel => exact ⟨k + 1, by omega, by go_num, fun j y hj hy => by
                rcases Nat.lt_or_ge j k with hjk | hjk
                · exact hall.out j y hjk hy
                · obtain rfl : j = k := by omega
                  rw [hx.out] at hy; injection hy with hy; omega⟩
              case measure => simp [intOf]; omega
        · have hy := hide (wordOk_mk hc.out.1 hc.out.2 (by have := hl.out; omega) (fun j x (hj : j < ws.length) hx => hall.out j x (by have := hl.out; omega) hx))
          go_wp2
          go_ret
          exact ⟨ret_bool hy.out.symm, rfl⟩
  · have hd := decide_eq_false hc
    have hy := hide (wordOk_size (c := cl) (ws := ws) (by omega))
    rw [hd] at HC
    clear hc
    go_enter Try.func14, Try.ntmps14
    go_wp2_with (go_at_call 35; refine (HC.out _).mono ?_; rintro e w' ⟨rfl, rfl⟩)
    go_ret
    exact ⟨ret_bool hy.out.symm, rfl⟩

theorem isum_take_le {cs : List Int} (h : ∀ x ∈ cs, 0 ≤ x ∧ x ≤ 6) (k : Nat) : isum (cs.take k) ≤ isum cs := by
  have e := isum_append (cs.take k) (cs.drop k)
  rw [List.take_append_drop] at e
  have := (isum_bounds 6 (cs.drop k) (fun x hx => h x (List.mem_of_mem_drop hx))).1
  omega
theorem countRowOk_far {c : Int} {cs : List Int} {k : Nat} {x : Int} (hx : cs[k]? = some x) (h : 6 - isum (cs.take k) < x) : countRowOk c cs = false := by
  rw [Bool.eq_false_iff]
  intro hh
  obtain ⟨_, _, _, h4, h5⟩ := countRowOk_yes hh
  have h1 := isum_take_le h4 (k + 1)
  rw [isum_take_succ hx] at h1
  omega

set_option maxHeartbeats 800000 in
theorem countRowOk_impl0 (cl : Int) (A : Option Addr) (n c B : Nat) (cs : List Int) (w : World) (h : Ints w B A n c cs) :
    Calls Try.prog 43 #[.int .i64 cl, .slice A n c] w fun e w' => e = .returned (.bool (countRowOk cl cs)) ∧ w = w' := by
  have hl := hide h.len
  have hn := h.nb
  have HC := hide (fun w => coloursOk_c cl w)
  by_cases hc : 1 ≤ cl ∧ cl ≤ 3
  · have hd := decide_eq_true hc
    rw [hd] at HC
    by_cases h6 : (n : Int) = cl
    · have hne : ((n : Int) != cl) = false := by simpa using h6
      have h6 := hide h6
      have hc := hide hc
      go_enter Try.func43, Try.ntmps43
      go_wp2_with (go_at_call 35; refine (HC.out _).mono ?_; rintro e w' ⟨rfl, rfl⟩)
      clear hne
      go_loop [5, 19] (fun t i => ∃ k : Nat, ∃ s : Int, k ≤ n ∧ i = .int .i64 k ∧ t = .int .i64 s ∧ 0 ≤ s ∧ s ≤ 6 ∧ Hid (s = 6 - isum (cs.take k)) ∧ Hid (∀ j x, j < k → cs[j]? = some x → 0 ≤ x ∧ x ≤ 6)) (fun _ i => n - (intOf i).toNat)
      case atStart => exact ⟨0, 6, Nat.zero_le _, rfl, rfl, by omega, by omega, by simp [isum, hide], fun j x hj _ => absurd hj (by omega)⟩
      case round =>
        obtain ⟨k, s, hk, rfl, rfl, hs0, hs6, hs, hall⟩ := hrel
        by_cases hlt : k < n
        · obtain ⟨b, off, x, rfl, hb, hx, hcell⟩ := h.look hlt
          by_cases hx0 : x < 0
          · go_wp2
            go_ret
            exact ⟨ret_bool (countRowOk_no (.inr (.inr (.inr (.inl ⟨k, x, hx.out, .inl hx0⟩))))).symm, rfl⟩
          · by_cases hx1 : s < x
            · have hy := hide (countRowOk_far (c := cl) hx.out (by have := hs.out; omega))
              go_wp2
              go_ret
              exact ⟨ret_bool hy.out.symm, rfl⟩
            · have hst := hide (isum_take_succ hx.out)
              go_wp2
              go_round
              case rel => exact ⟨k + 1, s - x, by omega, by go_num, rfl, by omega, by omega, by have h1 := hs.out; have h2 := hst.out; exact hide (by omega), fun j y hj hy => by
                rcases Nat.lt_or_ge j k with hjk | hjk
                · exact hall.out j y hjk hy
                · obtain rfl : j = k := by omega
                  rw [hx.out] at hy; injection hy with hy; omega⟩
              case measure => simp [intOf]; omega
        · have hy := hide (countRowOk_mk hc.out.1 hc.out.2 (by have := hl.out; have := h6.out; omega) (fun j x (hj : j < cs.length) hx => hall.out j x (by have := hl.out; omega) hx) (by have h1 := hs.out; rw [List.take_of_length_le (by have := hl.out; omega)] at h1; omega))
          go_wp2
          go_ret
          exact ⟨ret_bool hy.out.symm, rfl⟩
    · have hne : ((n : Int) != cl) = true := by simpa using h6
      have hy := hide (countRowOk_no (c := cl) (cs := cs) (.inr (.inr (.inl (by have := hl.out; omega)))))
      clear h6 hc
      go_enter Try.func43, Try.ntmps43
      go_wp2_with (go_at_call 35; refine (HC.out _).mono ?_; rintro e w' ⟨rfl, rfl⟩)
      go_ret
      exact ⟨ret_bool hy.out.symm, rfl⟩
  · have hd := decide_eq_false hc
    have hy := hide (countRowOk_no (c := cl) (cs := cs) (by omega))
    rw [hd] at HC
    clear hc
    go_enter Try.func43, Try.ntmps43
    go_wp2_with (go_at_call 35; refine (HC.out _).mono ?_; rintro e w' ⟨rfl, rfl⟩)
    go_ret
    exact ⟨ret_bool hy.out.symm, rfl⟩

theorem fall_next {s : Int} (h : 0 ≤ s) (k : Nat) : fall s (k + 1) = fall s k * (s - (k : Int)) := by
  rw [fall_snoc]
  rcases Int.lt_or_le s (k : Int) with h1 | h1
  · rw [(fall_zero h).2 h1, Int.zero_mul, Int.zero_mul]
  · rw [Int.max_eq_left (by omega)]

end Go.Proofs.Ytghaajcpmepdoaa

namespace Go.Proofs.Ytghaajcpmepdoaa
open Go.RowKit

theorem pow_le_729 (C m : Nat) (h1 : 1 ≤ C) (h3 : C ≤ 3) (h6 : m ≤ 6) : 1 ≤ C ^ m ∧ C ^ m ≤ 729 := by
  have h1 : 1 ^ m ≤ C ^ m := Nat.pow_le_pow_left h1 m
  have h2 : C ^ m ≤ 3 ^ m := Nat.pow_le_pow_left h3 m
  have h4 : 3 ^ m ≤ 3 ^ 6 := Nat.pow_le_pow_right (by omega) h6
  rw [Nat.one_pow] at h1
  exact ⟨h1, Nat.le_trans h2 h4⟩

set_option maxHeartbeats 400000 in
theorem powerOf_impl (C m : Nat) (w : World) (h1 : 1 ≤ C) (h3 : C ≤ 3) (h6 : m ≤ 6) :
    Calls Try.prog 59 #[.int .i64 C, .int .i64 m] w fun e w' => e = .returned (.int .i64 ((C ^ m : Nat) : Int)) ∧ w = w' := by
  have HB := hide (fun k (hk : k ≤ 6) => pow_le_729 C k h1 h3 hk)
  have HS := hide (fun k => Nat.pow_succ (n := C) (m := k))
  go_enter Try.func59, Try.ntmps59
  go_wp2
  go_loop [5, 7] (fun t i => ∃ k P : Nat, k ≤ m ∧ i = .int .i64 k ∧ t = .int .i64 P ∧ Hid (P = C ^ k)) (fun _ i => m - (intOf i).toNat)
  case atStart => exact ⟨0, 1, Nat.zero_le _, rfl, rfl, rfl⟩
  case round =>
    obtain ⟨k, P, hk, rfl, rfl, hP⟩ := hrel
    by_cases hlt : k < m
    · obtain ⟨b0, b1⟩ := HB.out k (by omega)
      have hst := hide (HS.out k)
      rw [← hP.out] at b0 b1 hst
      have hp := mul_bound (a := (P : Int)) (M := 729) (by omega) (by omega) (b := (C : Int)) (by omega) (show (C : Int) ≤ 3 by omega)
      obtain ⟨q1, q2⟩ := hp
      go_wp2
      go_round
      case rel => exact ⟨k + 1, P * C, by omega, by go_num, by rw [Int.natCast_mul], hst.out.symm⟩
      case measure => simp [intOf]; omega
    · obtain rfl : k = m := by omega
      go_wp2
      go_ret
      exact ⟨ret_int (by rw [hP.out]; exact Int.natCast_pow _ _), rfl⟩

set_option maxHeartbeats 1600000 in
theorem countsOf_impl (cl : Int) (A : Option Addr) (n c B : Nat) (ws : List Int) (w : World) (h : Ints w B A n c ws) (hB : B ≤ w.heap.size) :
    Calls Try.prog 27 #[.int .i64 cl, .slice A n c] w fun e w' => ∃ A' n' c', e = .returned (.slice A' n' c') ∧ Own w' w.heap.size (.slice A' n' c') (countsOf cl ws) ∧ Below w.heap.size w w' := by
  have HW := hide (wordOk_impl0 cl _ _ _ _ _ w h)
  by_cases hok : wordOk cl ws = true
  · have he := hide (show countsOf cl ws = cntL cl.toNat ws by unfold countsOf; rw [if_pos hok])
    rw [hok] at HW
    have hl := hide h.len
    obtain ⟨k1, k2, k3, k4⟩ := wordOk_yes hok
    have HC := hide (fun j x (hx : ws[j]? = some x) => k4 x (List.mem_of_getElem? hx))
    have hn6 : n ≤ 6 := by have := hl.out; omega
    clear hok k4 k3
    obtain ⟨q, hq⟩ : ∃ q : Nat, Hid (cl.toNat = q) := ⟨_, rfl⟩
    have hq3 : q ≤ 3 := by have := hq.out; omega
    have hqc : (q : Int) = cl := by have := hq.out; omega
    rw [hq.out] at he
    subst hqc
    obtain ⟨i0, hi, hz0, hz1, hz2⟩ := info_parts infoInt
    go_enter Try.func27, Try.ntmps27
    go_wp2_with (first | (go_at_call 14; refine (HW.out).mono ?_; rintro e w' ⟨rfl, rfl⟩) | (at_make; refine wpList_make_full _ rfl _ _ 23 rfl w.heap.size 3 i0 (.int .i64 0) 1 Try.underlying23 hi hz0 hz1 .i64 .i64 _ _ q rfl rfl rfl rfl (by rw [hz2]; omega) (by unfold maxLen; omega) (Nat.le_refl _) ?_; intro w1 hown0 hgrow0; have hgrow0 := hide hgrow0; have hown0 := hide hown0))
    have hb0 := hide (show Below w.heap.size w w1 from (Below.refl _ _).grown hgrow0.out (Nat.le_refl _) (fun k hk => by cases hk))
    have ho0 := hide (show Own w1 w.heap.size (.slice (some ⟨w.heap.size, 0, none⟩) q q) (cntL q (ws.take 0)) from ⟨by
      have e1 : (madeCells (Value.int .i64 0).cells (q * 1)).toList = (cntL q []).map (Value.int .i64) := by
        rw [cntL_nil]
        simp [Value.cells, toList_madeCells_one]
      have e2 : (cntL q (ws.take 0)).length = q := by simp [cntL]
      rw [e2]
      show w1.ownsRow _ _ _ _ _ ((cntL q []).map _)
      rw [← e1]; exact hown0.out, fun z hz => by
        rw [List.take_zero, cntL_nil] at hz
        have := List.eq_of_mem_replicate hz
        subst this; decide⟩)
    clear hown0 hgrow0
    go_loopw [16] (fun i wr => ∃ k : Nat, k ≤ n ∧ i = .int .i64 k ∧ Hid (Own wr w.heap.size (.slice (some ⟨w.heap.size, 0, none⟩) q q) (cntL q (ws.take k))) ∧ Hid (Below w.heap.size w wr)) (fun i _ => n - (intOf i).toNat)
    case atStart => exact ⟨0, Nat.zero_le _, rfl, ho0, hb0⟩
    case round =>
      clear ho0 hb0
      obtain ⟨k, hk, rfl, ho, hb⟩ := hrel
      by_cases hlt : k < n
      · obtain ⟨b, off, x, rfl, hbB, hx, hcell⟩ := (h.below (hb.out.mono hB)).look hlt
        obtain ⟨x0, x1⟩ := HC.out k x hx.out
        have hat := cntL_at q (ws.take k) x.toNat (by omega)
        rw [show ((x.toNat : Nat) : Int) = x by omega] at hat
        obtain ⟨g, hA2, hg, hgl, hcy, hfy⟩ := ho.out.at2 hat
        injection hA2 with hA2
        injection hA2 with hA2 _ _
        subst hA2
        have hcl : (ws.take k).count x ≤ 6 := Nat.le_trans List.count_le_length (by rw [List.length_take]; omega)
        have hst := hide (cntL_set (c := q) hx.out x0)
        obtain ⟨y, hy⟩ : ∃ y, Hid (y = (ws.take k).count x) := ⟨_, rfl⟩
        rw [← hy.out] at hcl hst hcy
        have r1 : IntKind.i64.wrap ((y : Int) + 1) = (y : Int) + 1 := IntWalk.i64_in _ (by omega)
        have ho2 := hide (show Own (wr.setCell ⟨w.heap.size, x.toNat, none⟩ (.int .i64 ((y : Int) + 1))) w.heap.size (.slice (some ⟨w.heap.size, 0, none⟩) q q) (cntL q (ws.take (k + 1))) by rw [← hst.out]; exact ho.out.set_ _ (wf_i64 (by omega)))
        have hb2 := hide (hb.out.setCell (p := ⟨w.heap.size, x.toNat, none⟩) (Nat.le_refl _) (.int .i64 ((y : Int) + 1)))
        clear hat hst
        go_wp2
        go_roundw
        case rel => exact ⟨k + 1, by omega, by go_num, ho2, hb2⟩
        case measure => simp [intOf]; omega
      · obtain rfl : k = n := by omega
        go_wp2
        go_ret
        have := ho.out
        rw [List.take_of_length_le (by have := hl.out; omega)] at this
        rw [he.out]
        exact ⟨_, _, _, rfl, this, hb.out⟩
  · have hok : wordOk cl ws = false := by simpa using hok
    have he := hide (show countsOf cl ws = [] by unfold countsOf; rw [hok]; rfl)
    rw [hok] at HW
    clear hok
    go_enter Try.func27, Try.ntmps27
    go_wp2_with (go_at_call 14; refine (HW.out).mono ?_; rintro e w' ⟨rfl, rfl⟩)
    go_ret
    rw [he.out]
    exact ⟨_, _, _, rfl, Own.none_, Below.refl _ _⟩

end Go.Proofs.Ytghaajcpmepdoaa

namespace Go.Proofs.Ytghaajcpmepdoaa
open Go.RowKit

set_option maxHeartbeats 800000 in
theorem write_c (A : Option Addr) (n c base C q : Nat) (zs : List Int) (w0 w : World) (h : Own w base (.slice A n c) zs) (hb0 : Below base w0 w) (hC1 : 1 ≤ C) (hC3 : C ≤ 3) (hn : n ≤ 6) (hq : q ≤ 729) :
    Calls Try.prog 60 #[.slice A n c, .int .i64 q, .int .i64 C] w fun e w' => e = .returned (.tuple #[]) ∧ Own w' base (.slice A n c) (digs C n q) ∧ Below base w0 w' := by
  have hD := hide (fun j (hj : j < n) => digs_at (C := C) n q j hj)
  have hDl := hide (digs_len C n q)
  have hne : ((C : Int) == 0) = false := by simp; omega
  have hdv := hide (fun k => show q / C ^ k / C = q / C ^ (k + 1) by rw [Nat.div_div_eq_div_mul, Nat.pow_succ])
  go_enter Try.func60, Try.ntmps60
  go_wp2
  go_loopw [1, 9] (fun t i wr => ∃ k p : Nat, ∃ L : List Int, k ≤ n ∧ p ≤ 729 ∧ i = .int .i64 k ∧ t = .int .i64 p ∧ Hid (p = q / C ^ k) ∧ Hid (Own wr base (.slice A n c) L) ∧ Hid (Below base w0 wr) ∧ Hid (∀ j, j < k → L[j]? = (digs C n q)[j]?)) (fun _ i _ => n - (intOf i).toNat)
  case atStart => exact ⟨0, q, zs, Nat.zero_le _, hq, rfl, rfl, by simp [hide], hide h, hide hb0, fun j hj => absurd hj (by omega)⟩
  case round =>
    clear h hb0
    obtain ⟨k, p, L, hk, hp, rfl, rfl, hpe, ho, hb, hL⟩ := hrel
    have hll := hide ho.out.len
    by_cases hlt : k < n
    · obtain ⟨y, hy⟩ : ∃ y, Hid (L[k]? = some y) := ⟨_, hide (List.getElem?_eq_getElem (by have := hll.out; omega))⟩
      obtain ⟨g, hA2, hg, hgl, hcy, hfy⟩ := ho.out.at2 hy.out
      have hm1 : p % C < C := Nat.mod_lt _ (by omega)
      have hm2 : p / C ≤ p := Nat.div_le_self _ _
      have hd := hide (hD.out k hlt)
      rw [← hpe.out] at hd
      have ho2 := hide (show Own (wr.setCell ⟨g, k, none⟩ (.int .i64 ((p % C : Nat) : Int))) base (.slice (some ⟨g, 0, none⟩) n c) (L.set k ((p % C : Nat) : Int)) from (hA2 ▸ ho.out).set_ _ (wf_i64 (by omega)))
      have hb2 := hide (hb.out.setCell (p := ⟨g, k, none⟩) hg (.int .i64 ((p % C : Nat) : Int)))
      have hL2 := hide (show ∀ j, j < k + 1 → (L.set k ((p % C : Nat) : Int))[j]? = (digs C n q)[j]? from fun j hj => by
        by_cases hjk : j = k
        · subst hjk
          rw [List.getElem?_set_self (by have := hll.out; omega), hd.out]
        · rw [List.getElem?_set_ne (by omega)]; exact hL.out j (by omega))
      have hp2 := hide (show p / C = q / C ^ (k + 1) by rw [hpe.out]; exact hdv.out k)
      clear hd hL hpe hll
      subst hA2
      have hw1 : wrap64 ((p : Int) / (C : Int)) = ((p / C : Nat) : Int) := by
        have e : ((p : Int) / (C : Int)) = ((p / C : Nat) : Int) := (Int.natCast_ediv _ _).symm
        have hz : p / C ≤ 729 := Nat.le_trans hm2 hp
        rw [e]
        generalize p / C = z at hz ⊢
        simp only [wrap64]; omega
      have hw1 := hide hw1
      go_wp2
      rw [hw1.out]
      rw [Int.natCast_emod] at ho2 hb2
      go_roundw
      case rel => exact ⟨k + 1, p / C, _, by omega, Nat.le_trans hm2 hp, by go_num, rfl, hp2, ho2, hb2, hL2⟩
      case measure => simp [intOf]; omega
    · obtain rfl : k = n := by omega
      have hLe : L = digs C k q := List.ext_getElem? fun j => by
        rcases Nat.lt_or_ge j k with hj | hj
        · exact hL.out j hj
        · rw [List.getElem?_eq_none (by have := hll.out; omega), List.getElem?_eq_none (by have := hDl.out; omega)]
      subst hLe
      go_wp2
      go_end0
      exact ⟨rfl, ho.out, hb.out⟩
end Go.Proofs.Ytghaajcpmepdoaa

namespace Go.Proofs.Ytghaajcpmepdoaa
open Go.RowKit

set_option maxHeartbeats 800000 in
theorem equal_c (A A' : Option Addr) (n c B n' c' B' : Nat) (zs zs' : List Int) (w : World) (h : Ints w B A n c zs) (h' : Ints w B' A' n' c' zs') :
    Calls Try.prog 55 #[.slice A n c, .slice A' n' c'] w fun e w' => e = .returned (.bool (sameL zs zs')) ∧ ∃ q, w' = w.drewN q := by
  have hl := hide h.len
  have hl' := hide h'.len
  have hn := h.nb
  have hn' := h'.nb
  by_cases hnn : n = n'
  · subst hnn
    go_enter Try.func55, Try.ntmps55
    go_wp2
    go_loopw [13] (fun i wr => ∃ k q : Nat, k ≤ n ∧ i = .int .i64 k ∧ wr = w.drewN q ∧ Hid (∀ j, j < k → zs[j]? = zs'[j]?)) (fun i _ => n - (intOf i).toNat)
    case atStart => exact ⟨0, 0, Nat.zero_le _, rfl, rfl, fun j hj => absurd hj (by omega)⟩
    case round =>
      obtain ⟨k, q, hk, rfl, rfl, hall⟩ := hrel
      by_cases hlt : k < n
      · obtain ⟨b, off, x, rfl, hb, hx, hcell⟩ := h.look hlt
        obtain ⟨b', off', x', rfl, hb', hx', hcell'⟩ := h'.look hlt
        by_cases hxx : x = x'
        · have hd : (x != x') = false := by simpa using hxx
          go_wp2
          go_quiet (fail)
          go_wp2
          go_roundw
          case rel => exact ⟨k + 1, _, by omega, by go_num, rfl, fun j hj => by
            rcases Nat.lt_or_ge j k with hjk | hjk
            · exact hall.out j hjk
            · obtain rfl : j = k := by omega
              rw [hx.out, hx'.out, hxx]⟩
          case measure => simp [intOf]; omega
        · have hd : (x != x') = true := by simpa using hxx
          go_wp2
          go_quiet (fail)
          go_wp2
          go_ret
          exact ⟨ret_bool (sameL_bad hx.out hx'.out hxx).symm, _, World.drewN_drewN _ _ _⟩
      · go_wp2
        go_ret
        exact ⟨ret_bool (sameL_good (hl.out.trans hl'.out.symm) (fun j hj => hall.out j (by have := hl.out; omega))).symm, _, rfl⟩
  · have hne : ((n : Int) != (n' : Int)) = true := by simp; omega
    have hy := hide (sameL_len (xs := zs) (ys := zs') (by have := hl.out; have := hl'.out; omega))
    clear hnn
    go_enter Try.func55, Try.ntmps55
    go_wp2
    go_ret
    exact ⟨ret_bool hy.out.symm, 0, rfl⟩

theorem digs_word {C m q : Nat} (h1 : 1 ≤ C) (h3 : C ≤ 3) (h6 : m ≤ 6) : wordOk (C : Int) (digs C m q) = true :=
  wordOk_mk (by omega) (by omega) (by rw [digs_len]; exact h6) (fun j x _ hx => digs_mem (by omega) m q x (List.mem_of_getElem? hx))
theorem countsOf_digs {C m q : Nat} (h1 : 1 ≤ C) (h3 : C ≤ 3) (h6 : m ≤ 6) : countsOf (C : Int) (digs C m q) = cntL C (digs C m q) := by
  unfold countsOf; rw [if_pos (digs_word h1 h3 h6)]; rfl

theorem ways_le (zs ws : List Int) (h : ∀ z ∈ zs, z ≤ 40) : ways zs ws ≤ 40 ^ ws.length := by
  induction ws generalizing zs with
  | nil => simp [ways]
  | cons x r ih =>
    have hb : ballsAt zs x ≤ 40 := by
      unfold ballsAt
      rcases Nat.lt_or_ge x.toNat zs.length with hk | hk
      · rw [List.getElem?_eq_getElem hk]; exact h _ (List.getElem_mem hk)
      · rw [List.getElem?_eq_none hk]; decide
    have h2 := ih (zs.set x.toNat (ballsAt zs x - 1)) (fun z hz => by
      rcases List.mem_or_eq_of_mem_set hz with h3 | h3
      · exact h z h3
      · omega)
    simp only [ways, List.length_cons]
    rw [Int.pow_succ, Int.mul_comm (40 ^ r.length)]
    exact Int.mul_le_mul (by omega) h2 (ways_nonneg _ _) (by omega)
theorem one_c (v : Value) (w : World) : Calls Try.prog 45 #[v] w fun e w' => e = .returned (.int .i64 1) ∧ Below w.heap.size w w' := by
  go_enter Try.func45, Try.ntmps45
  go_wp2
  go_ret
  exact ⟨rfl, Below.refl _ _⟩
set_option maxRecDepth 100000 in
set_option maxHeartbeats 1600000 in
/-- The sum over all words, whatever is told of each. -/
theorem sumAll_c (n m : Nat) (fid : FuncId) (caps : Array Value) (F : Nat → Int) (M : Int) (w : World) (hn1 : 1 ≤ n) (hn3 : n ≤ 3) (hm6 : m ≤ 6) (hM : M ≤ 4096000000000) (hE : ∀ (xs : Array Value) (w1 : World), Sem.run Try.prog (callFunc fid xs) w1 = .ok (.enter fid xs) w1) (hF : ∀ q, q < n ^ m → 0 ≤ F q ∧ F q ≤ M)
    (HC : ∀ (q : Nat) (w1 : World), q < n ^ m → Below w.heap.size w w1 → Own w1 w.heap.size (.slice (some ⟨w.heap.size, 0, none⟩) m m) (digs n m q) → Calls Try.prog fid (#[.slice (some ⟨w.heap.size, 0, none⟩) m m] ++ caps) w1 fun e w' => e = .returned (.int .i64 (F q)) ∧ Below w1.heap.size w1 w') :
    Calls Try.prog 52 #[.int .i64 (n : Int), .int .i64 (m : Int), .func (.func fid) #[] caps] w fun e w' => e = .returned (.int .i64 (nsum (n ^ m) F)) ∧ Below w.heap.size w w' := by
  have hp729 := hide (pow_le_729 n m (by omega) (by omega) hm6)
  have HP := hide (fun w => powerOf_impl n m w (by omega) (by omega) hm6)
  obtain ⟨P, hP⟩ : ∃ P : Nat, Hid (n ^ m = P) := ⟨_, hide rfl⟩
  rw [hP.out] at hp729 HP hF HC ⊢
  obtain ⟨hP1, hP2⟩ := hp729.out
  obtain ⟨i0, hi, hz0, hz1, hz2⟩ := info_parts infoInt
  have HB := hide (fun k (hk : k ≤ P) => show 0 ≤ nsum k F ∧ nsum k F ≤ 4096000000000000 from by
    have h1 := nsum_bounds (n := k) (f := F) (M := M) (fun q hq => hF q (by omega))
    have h0 := hF 0 (by omega)
    have h9 : M * (k : Int) ≤ 4096000000000 * 729 := Int.mul_le_mul hM (by omega) (by omega) (by decide)
    omega)
  replace HC := hide HC
  clear hF
  go_enter Try.func52, Try.ntmps52
  go_wp2_with (first | (go_at_call 59; refine (HP.out _).mono ?_; rintro e w' ⟨rfl, rfl⟩) | (at_make; refine wpList_make_full _ rfl _ _ 23 rfl w.heap.size 3 i0 (.int .i64 0) 1 Try.underlying23 hi hz0 hz1 .i64 .i64 _ _ m rfl rfl rfl rfl (by rw [hz2]; omega) (by unfold maxLen; omega) (Nat.le_refl _) ?_; intro w1 hown0 hgrow0; have hgrow0 := hide hgrow0; have hown0 := hide hown0))
  have hb0 := hide (show Below w.heap.size w w1 from (Below.refl _ _).grown hgrow0.out (Nat.le_refl _) (fun k hk => by cases hk))
  have ho0 := hide (show Own w1 w.heap.size (.slice (some ⟨w.heap.size, 0, none⟩) m m) (List.replicate m 0) from ⟨by
    have e1 : (madeCells (Value.int .i64 0).cells (m * 1)).toList = (List.replicate m (0 : Int)).map (Value.int .i64) := by
      simp [Value.cells, toList_madeCells_one]
    rw [List.length_replicate, ← e1]; exact hown0.out, fun z hz => by
      have := List.eq_of_mem_replicate hz
      subst this; decide⟩)
  clear hown0 hgrow0
  go_loopw [8, 15] (fun t i wr => ∃ k : Nat, ∃ L : List Int, k ≤ P ∧ i = .int .i64 k ∧ t = .int .i64 (nsum k F) ∧ Hid (Own wr w.heap.size (.slice (some ⟨w.heap.size, 0, none⟩) m m) L) ∧ Hid (Below w.heap.size w wr)) (fun _ i _ => P - (intOf i).toNat)
  case atStart => exact ⟨0, _, Nat.zero_le _, rfl, rfl, ho0, hb0⟩
  case round =>
    clear ho0 hb0
    obtain ⟨k, L, hk, rfl, rfl, ho, hb⟩ := hrel
    obtain ⟨s0, s1⟩ := HB.out k hk
    have hst := hide (show nsum (k + 1) F = nsum k F + F k from rfl)
    obtain ⟨S, hS⟩ : ∃ S, Hid (nsum k F = S) := ⟨_, hide rfl⟩
    rw [hS.out] at s0 s1 hst ⊢
    by_cases hlt : k < P
    · go_wp2_with fail
      refine (write_c _ _ _ _ n k L w wr ho.out hb.out hn1 hn3 hm6 (by omega)).mono ?_
      rintro e w2 ⟨rfl, ho2, hb2⟩
      have ho2 := hide ho2
      have hb2 := hide hb2
      clear ho hb
      have hsn : 0 ≤ nsum k F + F k ∧ nsum k F + F k ≤ 4096000000000000 := by
        have h1 := HB.out (k + 1) (by omega)
        rw [show nsum (k + 1) F = nsum k F + F k from rfl] at h1
        omega
      rw [hS.out] at hsn
      replace hsn := hide hsn
      go_wp2_with fail
      refine (HC.out k w2 (by omega) hb2.out ho2.out).mono ?_
      rintro e w6 ⟨rfl, hb6⟩
      have ho7 := hide (ho2.out.below hb6 (Nat.le_refl _))
      have hb7 := hide (hb2.out.trans (hb6.mono hb2.out.size))
      clear ho2 hb2 hb6
      obtain ⟨V, hV⟩ : ∃ V, Hid (F k = V) := ⟨_, hide rfl⟩
      rw [hV.out] at hst hsn ⊢
      obtain ⟨sn1, sn2⟩ := hsn.out
      clear hsn
      go_wp2_with fail
      go_roundw
      case rel => exact ⟨k + 1, _, by omega, by go_num, by rw [hst.out], ho7, hb7⟩
      case measure => simp [intOf]; omega
    · obtain rfl : k = P := by omega
      go_wp2
      go_ret
      exact ⟨ret_int (by rw [hS.out]), hb.out⟩

theorem upI {w0 w w' : World} (hb : Below w0.heap.size w0 w) (hq : Below w.heap.size w w') : Below w0.heap.size w0 w' := hb.trans (hq.mono hb.size)
set_option maxHeartbeats 1600000 in
/-- What the closure of sumOverWords tells of a word. -/
theorem sumTold_c (n m q : Nat) (cs : List Int) (A : Option Addr) (c B g1 g2 g3 : Nat) (A' : Option Addr) (fid : FuncId) (caps : Array Value) (V : Int) (w : World) (hn1 : 1 ≤ n) (hn3 : n ≤ 3) (hm6 : m ≤ 6)
    (h1 : w.cell? ⟨g1, 0, none⟩ = some (.int .i64 (n : Int))) (h2 : w.cell? ⟨g2, 0, none⟩ = some (.slice A n c)) (h3 : w.cell? ⟨g3, 0, none⟩ = some (.func (.func fid) #[] caps)) (hg2 : g2 < w.heap.size) (hg3 : g3 < w.heap.size)
    (hcs : Ints w B A n c cs) (hB : B ≤ w.heap.size) (hw : Ints w w.heap.size A' m m (digs n m q))
    (hE : ∀ (xs : Array Value) (w1 : World), Sem.run Try.prog (callFunc fid xs) w1 = .ok (.enter fid xs) w1)
    (HC : ∀ (w1 : World), Below w.heap.size w w1 → Calls Try.prog fid (#[.slice A' m m] ++ caps) w1 fun e w' => e = .returned (.int .i64 V) ∧ Below w1.heap.size w1 w') :
    Calls Try.prog 54 #[.slice A' m m, .pointer (some ⟨g1, 0, none⟩), .pointer (some ⟨g2, 0, none⟩), .pointer (some ⟨g3, 0, none⟩)] w fun e w' => e = .returned (.int .i64 (if cntL n (digs n m q) = cs then V else 0)) ∧ Below w.heap.size w w' := by
  have HO := hide (fun (W : World) (hq : Below w.heap.size w W) => show Calls Try.prog 27 #[.int .i64 (n : Int), .slice A' m m] W (fun e w' => ∃ A2 n2 c2, e = .returned (.slice A2 n2 c2) ∧ Hid (Own w' W.heap.size (.slice A2 n2 c2) (cntL n (digs n m q))) ∧ Hid (Below w.heap.size w w') ∧ w'.cell? ⟨g2, 0, none⟩ = some (.slice A n c)) from by
    have hc := countsOf_impl (n : Int) A' m m _ _ W (hw.below hq) hq.size
    rw [countsOf_digs hn1 hn3 hm6] at hc
    refine hc.mono ?_
    rintro e w' ⟨A2, n2, c2, e1, ho, hb⟩
    have hb2 := hq.trans (hb.mono hq.size)
    exact ⟨A2, n2, c2, e1, ho, hb2, (hb2.cell (p := ⟨g2, 0, none⟩) hg2).trans h2⟩)
  have HQ := hide (fun (W : World) (A2 : Option Addr) (n2 c2 X : Nat) (ho : Hid (Own W X (.slice A2 n2 c2) (cntL n (digs n m q)))) (hq : Hid (Below w.heap.size w W)) => show Calls Try.prog 55 #[.slice A2 n2 c2, .slice A n c] W (fun e w' => e = .returned (.bool (sameL (cntL n (digs n m q)) cs)) ∧ ∃ j, w' = W.drewN j) from
    equal_c _ _ _ _ _ _ _ _ _ _ W ho.out.ints (hcs.below (hq.out.mono hB)))
  have H3 := hide (fun (W : World) (hq : Below w.heap.size w W) => show W.cell? ⟨g3, 0, none⟩ = some (.func (.func fid) #[] caps) from (hq.cell (p := ⟨g3, 0, none⟩) hg3).trans h3)
  replace HC := hide HC
  clear h3
  by_cases hy : cntL n (digs n m q) = cs
  · rw [if_pos hy]
    rw [show sameL (cntL n (digs n m q)) cs = true from decide_eq_true hy] at HQ
    clear hy
    go_enter Try.func54, Try.ntmps54
    go_wp2_with fail
    go_region_with (first | (go_at_call 27; (with_reducible refine (HO.out _ ?_).mono ?_); (focus (repeat (first | assumption | exact Below.refl _ _ | refine Below.drew ?_)); done); rintro e w' ⟨A2, n2, c2, rfl, ho, hq, hg2'⟩) | (go_at_call 55; (with_reducible refine (HQ.out _ _ _ _ _ (by first | exact ho | exact ho.out.drew | exact ho.out.drewN _) (by first | exact hq | exact hq.out.drew)).mono ?_); rintro e w' ⟨rfl, j, rfl⟩))
    all_goals
      have h3' := H3.out _ hq.out
      have hqj := hide (below_drewN hq.out j)
      clear ho hg2'
      go_wp2_with fail
      refine (HC.out _ hqj.out).mono ?_
      rintro e w3 ⟨rfl, hb3⟩
      go_wp2_with fail
      go_ret
      exact ⟨rfl, upI hqj.out hb3⟩
  · rw [if_neg hy]
    rw [show sameL (cntL n (digs n m q)) cs = false from decide_eq_false hy] at HQ
    clear hy
    go_enter Try.func54, Try.ntmps54
    go_wp2_with fail
    go_region_with (first | (go_at_call 27; (with_reducible refine (HO.out _ ?_).mono ?_); (focus (repeat (first | assumption | exact Below.refl _ _ | refine Below.drew ?_)); done); rintro e w' ⟨A2, n2, c2, rfl, ho, hq, hg2'⟩) | (go_at_call 55; (with_reducible refine (HQ.out _ _ _ _ _ (by first | exact ho | exact ho.out.drew | exact ho.out.drewN _) (by first | exact hq | exact hq.out.drew)).mono ?_); rintro e w' ⟨rfl, j, rfl⟩))
    all_goals
      have hqj := hide (below_drewN hq.out j)
      clear ho hg2'
      go_wp2_with fail
      go_ret
      exact ⟨rfl, hqj.out⟩

set_option maxHeartbeats 1600000 in
/-- The sum over the words with just these counts, whatever is told of each. -/
theorem sumWords_c (A : Option Addr) (n c B m : Nat) (cs : List Int) (fid : FuncId) (caps : Array Value) (G : Nat → Int) (M : Int) (w : World) (h : Ints w B A n c cs) (hB : B ≤ w.heap.size) (hok : countRowOk (n : Int) cs = true) (hm : isum cs = (m : Int)) (hM0 : 0 ≤ M) (hM : M ≤ 4096000000000)
    (hE : ∀ (xs : Array Value) (w1 : World), Sem.run Try.prog (callFunc fid xs) w1 = .ok (.enter fid xs) w1)
    (hG : ∀ q, q < n ^ m → 0 ≤ G q ∧ G q ≤ M)
    (HC : ∀ (q : Nat) (A' : Option Addr) (w1 : World), q < n ^ m → Below w.heap.size w w1 → Ints w1 w1.heap.size A' m m (digs n m q) → Calls Try.prog fid (#[.slice A' m m] ++ caps) w1 fun e w' => e = .returned (.int .i64 (G q)) ∧ Below w1.heap.size w1 w') :
    Calls Try.prog 44 #[.slice A n c, .func (.func fid) #[] caps] w fun e w' => e = .returned (.int .i64 (nsum (n ^ m) (fun q => if cntL n (digs n m q) = cs then G q else 0))) ∧ Below w.heap.size w w' := by
  obtain ⟨k1, k2, k3, k4, k5⟩ := countRowOk_yes hok
  have hm6 : m ≤ 6 := by omega
  have hn1 : 1 ≤ n := by omega
  have hn3 : n ≤ 3 := by omega
  have HT := hide (fun (W : World) (hq : Below w.heap.size w W) => show Calls Try.prog 53 #[.slice A n c] W (fun e w' => e = .returned (.int .i64 (m : Int)) ∧ W = w') from by
    have := sumOf_c _ _ _ _ _ W (h.below (hq.mono hB)) (countRowOk_urn hok)
    rwa [hm] at this)
  obtain ⟨W0, hW0⟩ : ∃ W0, Hid (((w.alloc (.cells #[.slice A n c] 23)).alloc (.cells #[.func (.func fid) #[] caps] 51)).alloc (.cells #[.int .i64 (n : Int)] 3) = W0) := ⟨_, hide rfl⟩
  have hz0 := hide (show W0.heap.size = w.heap.size + 1 + 1 + 1 by rw [← hW0.out]; simp)
  have hq0 := hide (show Below w.heap.size w W0 by rw [← hW0.out]; exact (((Below.refl _ _).alloc (Nat.le_refl _) _).alloc (by simp) _).alloc (by simp; omega) _)
  have hc1 := hide (show W0.cell? ⟨w.heap.size + 1 + 1, 0, none⟩ = some (.int .i64 (n : Int)) by rw [← hW0.out, World.cell?_alloc_at _ _ _ _ (by simp)]; rfl)
  have hc2 := hide (show W0.cell? ⟨w.heap.size, 0, none⟩ = some (.slice A n c) by rw [← hW0.out, World.cell?_alloc_lt _ _ _ (by simp; omega), World.cell?_alloc_lt _ _ _ (by simp), World.cell?_alloc_at _ _ _ _ rfl]; rfl)
  have hc3 := hide (show W0.cell? ⟨w.heap.size + 1, 0, none⟩ = some (.func (.func fid) #[] caps) by rw [← hW0.out, World.cell?_alloc_lt _ _ _ (by simp), World.cell?_alloc_at _ _ _ _ (by simp)]; rfl)
  replace HT := hide (fun (W : World) (hq : Below W0.heap.size W0 W) => HT.out W (upI hq0.out hq))
  have HA := hide (fun (W : World) (hq1 : Below W0.heap.size W0 W) =>
    show Calls Try.prog 52 #[.int .i64 (n : Int), .int .i64 (m : Int), .func (.func 54) #[] #[.pointer (some ⟨w.heap.size + 1 + 1, 0, none⟩), .pointer (some ⟨w.heap.size, 0, none⟩), .pointer (some ⟨w.heap.size + 1, 0, none⟩)]] W (fun e w' => e = .returned (.int .i64 (nsum (n ^ m) (fun q => if cntL n (digs n m q) = cs then G q else 0))) ∧ Below w.heap.size w w') from by
    have hq := upI hq0.out hq1
    have z0 := hz0.out
    have z1 := hq1.size
    have h1 := (hq1.cell (p := ⟨w.heap.size + 1 + 1, 0, none⟩) (show w.heap.size + 1 + 1 < W0.heap.size by omega)).trans hc1.out
    have h2 := (hq1.cell (p := ⟨w.heap.size, 0, none⟩) (show w.heap.size < W0.heap.size by omega)).trans hc2.out
    have h3 := (hq1.cell (p := ⟨w.heap.size + 1, 0, none⟩) (show w.heap.size + 1 < W0.heap.size by omega)).trans hc3.out
    refine (sumAll_c n m _ _ (fun q => if cntL n (digs n m q) = cs then G q else 0) M W hn1 hn3 hm6 hM (fun xs w1 => Try.call54 xs w1) (fun q hq => by split; (· exact hG q hq); (· exact ⟨Int.le_refl _, hM0⟩)) (fun q w1 hqn hb ho => ?_)).mono ?_
    · have hqw := hq.trans (hb.mono (by omega))
      exact sumTold_c n m q cs A c B _ _ _ _ fid caps (G q) w1 hn1 hn3 hm6 ((hb.cell (by simp; omega)).trans h1) ((hb.cell (by simp; omega)).trans h2) ((hb.cell (by simp; omega)).trans h3) (by have := hb.size; omega) (by have := hb.size; omega) (h.below (hqw.mono hB)) (by have := hqw.size; omega) ho.ints hE (fun w2 hb2 => HC q _ w2 hqn (upI hqw hb2) ((ho.ints.below hb2).more hb2.size))
    · rintro e w' ⟨e1, hb⟩
      exact ⟨e1, upI hq hb⟩)
  clear hok k1 k2 k3 k4 k5 hG HC hE
  have e0 := hW0.out
  subst e0
  clear hW0 hz0 hc1 hc2 hc3
  go_enter Try.func44, Try.ntmps44
  go_wp2_with fail
  go_region_with (first | (go_at_call 53; (with_reducible refine (HT.out _ ?_).mono ?_); (focus (repeat (first | assumption | exact Below.refl _ _ | refine Below.drew ?_)); done); rintro e w' ⟨rfl, rfl⟩) | (go_at_call 52; (with_reducible refine (HA.out _ ?_).mono ?_); (focus (repeat (first | assumption | exact Below.refl _ _ | refine Below.drew ?_)); done); rintro e w' ⟨rfl, hq⟩))
  all_goals
    go_wp2_with fail
    go_ret
    exact ⟨rfl, hq⟩

theorem sumWords_ww (A : Option Addr) (n c B : Nat) (cs : List Int) (w : World) (h : Ints w B A n c cs) (hB : B ≤ w.heap.size) (hok : countRowOk (n : Int) cs = true) :
    Calls Try.prog 44 #[.slice A n c, .func (.func 45) #[] #[]] w fun e w' => e = .returned (.int .i64 (mult cs)) ∧ Below w.heap.size w w' := by
  obtain ⟨k1, k2, k3, k4, k5⟩ := countRowOk_yes hok
  obtain ⟨m, hm⟩ : ∃ m : Nat, isum cs = (m : Int) := ⟨(isum cs).toNat, by have := (urnOk_sum (countRowOk_urn hok)).1; omega⟩
  have HS : nsum (n ^ m) (fun q => if cntL n (digs n m q) = cs then 1 else 0) = mult cs := by
    rw [nsum_digs (by omega) m (fun ws => if cntL n ws = cs then 1 else 0)]
    exact wsum_count m cs hok hm
  rw [← HS]
  exact sumWords_c A n c B m cs _ _ (fun _ => 1) 1 w h hB hok hm (by decide) (by decide) (fun xs w1 => Try.call45 xs w1) (fun q _ => ⟨by decide, by decide⟩) (fun q A' w1 _ _ _ => one_c _ _)

theorem wordsWith_impl (cl : Int) (A : Option Addr) (n c B : Nat) (cs : List Int) (w : World) (h : Ints w B A n c cs) (hB : B ≤ w.heap.size) :
    Calls Try.prog 28 #[.int .i64 cl, .slice A n c] w fun e w' => e = .returned (.int .i64 (wordsWith cl cs)) ∧ Below w.heap.size w w' := by
  have HR := hide (countRowOk_impl0 cl _ _ _ _ _ w h)
  by_cases hok : countRowOk cl cs = true
  · have he := hide (show wordsWith cl cs = mult cs by unfold wordsWith; rw [if_pos hok])
    have hnc : (n : Int) = cl := by have := (countRowOk_yes hok).2.2.1; have := h.len; omega
    have HS := hide (sumWords_ww _ _ _ _ _ w h hB (by rw [hnc]; exact hok))
    rw [hok] at HR
    clear hok hnc
    go_enter Try.func28, Try.ntmps28
    go_wp2_with (go_at_call 43; refine (HR.out).mono ?_; rintro e w' ⟨rfl, rfl⟩)
    refine HS.out.mono ?_
    rintro e w1 ⟨rfl, hb⟩
    go_wp2_with fail
    go_ret
    exact ⟨ret_int he.out.symm, hb⟩
  · have hok : countRowOk cl cs = false := by simpa using hok
    have he := hide (show wordsWith cl cs = -1 by unfold wordsWith; rw [hok]; rfl)
    rw [hok] at HR
    clear hok
    go_enter Try.func28, Try.ntmps28
    go_wp2_with (go_at_call 43; refine (HR.out).mono ?_; rintro e w' ⟨rfl, rfl⟩)
    go_ret
    exact ⟨ret_int he.out.symm, Below.refl _ _⟩

theorem wordOk_impl (cl : Int) (A : Option Addr) (n c B : Nat) (ws : List Int) (w : World) (h : Ints w B A n c ws) (_hB : B ≤ w.heap.size) :
    Calls Try.prog 14 #[.int .i64 cl, .slice A n c] w fun e w' => e = .returned (.bool (wordOk cl ws)) ∧ Below w.heap.size w w' := sameB (wordOk_impl0 cl A n c B ws w h)
theorem countRowOk_impl (cl : Int) (A : Option Addr) (n c B : Nat) (cs : List Int) (w : World) (h : Ints w B A n c cs) (_hB : B ≤ w.heap.size) :
    Calls Try.prog 43 #[.int .i64 cl, .slice A n c] w fun e w' => e = .returned (.bool (countRowOk cl cs)) ∧ Below w.heap.size w w' := sameB (countRowOk_impl0 cl A n c B cs w h)
end Go.Proofs.Ytghaajcpmepdoaa
