/-
  Contracts of chapter 2, the program's side: SameApart, powerOf, CountsOf, WordWays.
-/
import Derived.Test.YtaocbiocpklbmaaImpA
import Derived.Test.YtaocbiocpklbmaaClone
import Derived.StillTailTactics
namespace Go.Proofs.Ytaocbiocpklbmaa
open Go.RowKit

theorem pow_le_729 (C m : Nat) (h1 : 1 ≤ C) (h3 : C ≤ 3) (h6 : m ≤ 6) : 1 ≤ C ^ m ∧ C ^ m ≤ 729 := by
  have h1 : 1 ^ m ≤ C ^ m := Nat.pow_le_pow_left h1 m
  have h2 : C ^ m ≤ 3 ^ m := Nat.pow_le_pow_left h3 m
  have h4 : 3 ^ m ≤ 3 ^ 6 := Nat.pow_le_pow_right (by omega) h6
  rw [Nat.one_pow] at h1
  exact ⟨h1, Nat.le_trans h2 h4⟩

set_option maxHeartbeats 400000 in
theorem powerOf_impl (C m : Nat) (w : World) (h1 : 1 ≤ C) (h3 : C ≤ 3) (h6 : m ≤ 6) :
    Calls Try.prog 42 #[.int .i64 C, .int .i64 m] w fun e w' => e = .returned (.int .i64 ((C ^ m : Nat) : Int)) ∧ w = w' := by
  have HB := hide (fun k (hk : k ≤ 6) => pow_le_729 C k h1 h3 hk)
  have HS := hide (fun k => Nat.pow_succ (n := C) (m := k))
  go_enter Try.func42, Try.ntmps42
  go_wp2
  go_loop [5, 7] (fun t i => ∃ k P : Nat, k ≤ m ∧ i = .int .i64 k ∧ t = .int .i64 P ∧ Hid (P = C ^ k)) (fun _ i => m - (intOf i).toNat)
  case atStart => exact ⟨0, 1, Nat.zero_le _, rfl, rfl, rfl⟩
  case round =>
    obtain ⟨k, P, hk, rfl, rfl, hP⟩ := hrel
    by_cases hlt : k < m
    · obtain ⟨b0, b1⟩ := HB.out k (by omega)
      have hst := hide (HS.out k)
      rw [← hP.out] at b0 b1 hst
      have hp := mul_bound (a := (P : Int)) (M := 729) (by omega) (by omega) (b := (C : Int)) (by omega) (show (C : Int) ≤ 3 by omega)
      obtain ⟨q1, q2⟩ := hp
      go_wp2
      go_round
      case rel => exact ⟨k + 1, P * C, by omega, by go_num, by rw [Int.natCast_mul], hst.out.symm⟩
      case measure => simp [intOf]; omega
    · obtain rfl : k = m := by omega
      go_wp2
      go_ret
      exact ⟨ret_int (by rw [hP.out]; exact Int.natCast_pow _ _), rfl⟩

set_option maxHeartbeats 1600000 in
theorem countsOf_impl (cl : Int) (A : Option Addr) (n c B : Nat) (ws : List Int) (w : World) (h : Ints w B A n c ws) (hB : B ≤ w.heap.size) :
    Calls Try.prog 65 #[.int .i64 cl, .slice A n c] w fun e w' => ∃ A' n' c', e = .returned (.slice A' n' c') ∧ Own w' w.heap.size (.slice A' n' c') (countsOf cl ws) ∧ Below w.heap.size w w' := by
  have HW := hide (wordOk_impl0 cl _ _ _ _ _ w h)
  by_cases hok : wordOk cl ws = true
  · have he := hide (show countsOf cl ws = cntL cl.toNat ws by unfold countsOf; rw [if_pos hok])
    rw [hok] at HW
    have hl := hide h.len
    obtain ⟨k1, k2, k3, k4⟩ := wordOk_yes hok
    have HC := hide (fun j x (hx : ws[j]? = some x) => k4 x (List.mem_of_getElem? hx))
    have hn6 : n ≤ 6 := by have := hl.out; omega
    clear hok k4 k3
    obtain ⟨q, hq⟩ : ∃ q : Nat, Hid (cl.toNat = q) := ⟨_, rfl⟩
    have hq3 : q ≤ 3 := by have := hq.out; omega
    have hqc : (q : Int) = cl := by have := hq.out; omega
    rw [hq.out] at he
    subst hqc
    obtain ⟨i0, hi, hz0, hz1, hz2⟩ := info_parts infoInt
    go_enter Try.func65, Try.ntmps65
    go_wp2_with (first | (go_at_call 36; refine (HW.out).mono ?_; rintro e w' ⟨rfl, rfl⟩) | (at_make; refine wpList_make_full _ rfl _ _ 23 rfl w.heap.size 3 i0 (.int .i64 0) 1 Try.underlying23 hi hz0 hz1 .i64 .i64 _ _ q rfl rfl rfl rfl (by rw [hz2]; omega) (by unfold maxLen; omega) (Nat.le_refl _) ?_; intro w1 hown0 hgrow0; have hgrow0 := hide hgrow0; have hown0 := hide hown0))
    have hb0 := hide (show Below w.heap.size w w1 from (Below.refl _ _).grown hgrow0.out (Nat.le_refl _) (fun k hk => by cases hk))
    have ho0 := hide (show Own w1 w.heap.size (.slice (some ⟨w.heap.size, 0, none⟩) q q) (cntL q (ws.take 0)) from ⟨by
      have e1 : (madeCells (Value.int .i64 0).cells (q * 1)).toList = (cntL q []).map (Value.int .i64) := by
        rw [cntL_nil]
        simp [Value.cells, toList_madeCells_one]
      have e2 : (cntL q (ws.take 0)).length = q := by simp [cntL]
      rw [e2]
      show w1.ownsRow _ _ _ _ _ ((cntL q []).map _)
      rw [← e1]; exact hown0.out, fun z hz => by
        rw [List.take_zero, cntL_nil] at hz
        have := List.eq_of_mem_replicate hz
        subst this; decide⟩)
    clear hown0 hgrow0
    go_loopw [16] (fun i wr => ∃ k : Nat, k ≤ n ∧ i = .int .i64 k ∧ Hid (Own wr w.heap.size (.slice (some ⟨w.heap.size, 0, none⟩) q q) (cntL q (ws.take k))) ∧ Hid (Below w.heap.size w wr)) (fun i _ => n - (intOf i).toNat)
    case atStart => exact ⟨0, Nat.zero_le _, rfl, ho0, hb0⟩
    case round =>
      clear ho0 hb0
      obtain ⟨k, hk, rfl, ho, hb⟩ := hrel
      by_cases hlt : k < n
      · obtain ⟨b, off, x, rfl, hbB, hx, hcell⟩ := (h.below (hb.out.mono hB)).look hlt
        obtain ⟨x0, x1⟩ := HC.out k x hx.out
        have hat := cntL_at q (ws.take k) x.toNat (by omega)
        rw [show ((x.toNat : Nat) : Int) = x by omega] at hat
        obtain ⟨g, hA2, hg, hgl, hcy, hfy⟩ := ho.out.at2 hat
        injection hA2 with hA2
        injection hA2 with hA2 _ _
        subst hA2
        have hcl : (ws.take k).count x ≤ 6 := Nat.le_trans List.count_le_length (by rw [List.length_take]; omega)
        have hst := hide (cntL_set (c := q) hx.out x0)
        obtain ⟨y, hy⟩ : ∃ y, Hid (y = (ws.take k).count x) := ⟨_, rfl⟩
        rw [← hy.out] at hcl hst hcy
        have r1 : IntKind.i64.wrap ((y : Int) + 1) = (y : Int) + 1 := IntWalk.i64_in _ (by omega)
        have ho2 := hide (show Own (wr.setCell ⟨w.heap.size, x.toNat, none⟩ (.int .i64 ((y : Int) + 1))) w.heap.size (.slice (some ⟨w.heap.size, 0, none⟩) q q) (cntL q (ws.take (k + 1))) by rw [← hst.out]; exact ho.out.set_ _ (wf_i64 (by omega)))
        have hb2 := hide (hb.out.setCell (p := ⟨w.heap.size, x.toNat, none⟩) (Nat.le_refl _) (.int .i64 ((y : Int) + 1)))
        clear hat hst
        go_wp2
        go_roundw
        case rel => exact ⟨k + 1, by omega, by go_num, ho2, hb2⟩
        case measure => simp [intOf]; omega
      · obtain rfl : k = n := by omega
        go_wp2
        go_ret
        have := ho.out
        rw [List.take_of_length_le (by have := hl.out; omega)] at this
        rw [he.out]
        exact ⟨_, _, _, rfl, this, hb.out⟩
  · have hok : wordOk cl ws = false := by simpa using hok
    have he := hide (show countsOf cl ws = [] by unfold countsOf; rw [hok]; rfl)
    rw [hok] at HW
    clear hok
    go_enter Try.func65, Try.ntmps65
    go_wp2_with (go_at_call 36; refine (HW.out).mono ?_; rintro e w' ⟨rfl, rfl⟩)
    go_ret
    rw [he.out]
    exact ⟨_, _, _, rfl, Own.none_, Below.refl _ _⟩

set_option maxHeartbeats 1600000 in
theorem wordWays_impl (A A' : Option Addr) (n c B n' c' B' : Nat) (zs ws : List Int) (w : World) (h : Ints w B A n c zs) (h' : Ints w B' A' n' c' ws) (hB : B ≤ w.heap.size) (hB' : B' ≤ w.heap.size) :
    Calls Try.prog 15 #[.slice A n c, .slice A' n' c'] w fun e w' => e = .returned (.int .i64 (wordWays zs ws)) ∧ Below w.heap.size w w' := by
  have hl := hide h.len
  have hl' := hide h'.len
  have HI := hide (urnOk_impl _ _ _ _ _ w h)
  have HW := hide (wordOk_impl0 (n : Int) _ _ _ _ _ w h')
  by_cases hok : urnOk zs = true
  · rw [hok] at HI
    by_cases hwk : wordOk (n : Int) ws = true
    · rw [hwk] at HW
      obtain ⟨k1, k2, k3, k4⟩ := wordOk_yes hwk
      have HC := hide (fun j x (hx : ws[j]? = some x) => k4 x (List.mem_of_getElem? hx))
      have HE := hide (urnOk_mem hok)
      have he := hide (show wordWays zs ws = 1 * ways zs (ws.drop 0) by unfold wordWays; rw [hok, hl.out, hwk, Int.one_mul]; rfl)
      have hn6 : n' ≤ 6 := by have := hl'.out; omega
      have hn3 : n ≤ 3 := by omega
      have hHC := hide (clone_c _ _ _ _ _ w h (by omega) (by omega) hB)
      clear hok hwk k1 k2 k3 k4
      go_enter Try.func15, Try.ntmps15
      go_wp2_with (first | (go_at_call 30; refine (HI.out).mono ?_; rintro e w' ⟨rfl, rfl⟩) | (go_at_call 36; refine (HW.out).mono ?_; rintro e w' ⟨rfl, rfl⟩) | (go_at_call 39; refine (hHC.out).mono ?_; rintro e w1 ⟨A₂, n₂, c₂, rfl, ho, hb⟩; have ho := hide ho; have hb := hide hb))
      have hn2 := ho.out.len
      rw [hl.out] at hn2
      have hn2 := hn2.symm
      subst hn2
      go_loopw [6, 23] (fun t i wr => ∃ k : Nat, ∃ (a : Int) (left : List Int), k ≤ n' ∧ 0 ≤ a ∧ a ≤ 40 ^ k ∧ i = .int .i64 k ∧ t = .int .i64 a ∧ Hid (Own wr w.heap.size (.slice A₂ n c₂) left) ∧ Hid (wordWays zs ws = a * ways left (ws.drop k)) ∧ Hid (∀ z ∈ left, -(k : Int) ≤ z ∧ z ≤ 40) ∧ Hid ((∀ z ∈ left, 0 ≤ z) ∨ a = 0) ∧ Hid (Below w.heap.size w wr)) (fun _ i _ => n' - (intOf i).toNat)
      case atStart => exact ⟨0, 1, zs, Nat.zero_le _, by omega, by decide, rfl, rfl, ho, he, fun z hz => by have := HE.out z hz; omega, .inl fun z hz => (HE.out z hz).1, hb⟩
      case round =>
        clear ho he hb HE
        obtain ⟨k, a, left, hk, ha0, ha1, rfl, rfl, ho, he, hE, hP, hb⟩ := hrel
        have hs := hb.out.size
        by_cases hlt : k < n'
        · obtain ⟨b, off, x, hA, hbB, hx, hcell⟩ := (h'.below (hb.out.mono hB')).look hlt
          obtain ⟨x0, x1⟩ := HC.out k x hx.out
          have hll := ho.out.len
          obtain ⟨y, hy⟩ : ∃ y, Hid (left[x.toNat]? = some y) := ⟨_, hide (List.getElem?_eq_getElem (by omega))⟩
          obtain ⟨g, hA2, hg, hgl, hcy, hfy⟩ := ho.out.at2 hy.out
          obtain ⟨y0, y1⟩ := hE.out y (List.mem_of_getElem? hy.out)
          have hby := ballsAt_eq hy.out
          have hst := hide (ways_step (left := left) (acc := a) hx.out)
          rw [hby] at hst
          have ha2 : a ≤ 40 ^ 5 := Int.le_trans ha1 (pow40 k (by omega))
          have ha3 : a ≤ 102400000 := ha2
          have ho2 := hide (show Own (wr.setCell ⟨g, x.toNat, none⟩ (.int .i64 (y - 1))) w.heap.size (.slice (some ⟨g, 0, none⟩) n c₂) (left.set x.toNat (y - 1)) from (hA2 ▸ ho.out).set_ (y - 1) (wf_i64 (by omega)))
          have hb2 := hide (hb.out.setCell (p := ⟨g, x.toNat, none⟩) hg (.int .i64 (y - 1)))
          have hE2 := hide (show ∀ z ∈ left.set x.toNat (y - 1), -((k + 1 : Nat) : Int) ≤ z ∧ z ≤ 40 from fun z hz => by
            rcases List.mem_or_eq_of_mem_set hz with h1 | h1
            · have := hE.out z h1; omega
            · omega)
          have hP2 := hide (show (∀ z ∈ left.set x.toNat (y - 1), 0 ≤ z) ∨ a * y = 0 by
            rcases hP.out with h1 | h1
            · have h2 := h1 y (List.mem_of_getElem? hy.out)
              rcases Int.lt_or_le 0 y with h3 | h3
              · exact .inl fun z hz => by
                  rcases List.mem_or_eq_of_mem_set hz with h4 | h4
                  · exact h1 z h4
                  · omega
              · obtain rfl : y = 0 := by omega
                exact .inr (Int.mul_zero _)
            · exact .inr (by rw [h1, Int.zero_mul]))
          have hmx := hide (show a * max y 0 = a * y by
            rcases Int.lt_or_le y 0 with h3 | h3
            · rcases hP.out with h1 | h1
              · have := h1 y (List.mem_of_getElem? hy.out); omega
              · rw [h1, Int.zero_mul, Int.zero_mul]
            · rw [Int.max_eq_left h3])
          rw [hmx.out] at hst
          have hpw := hide (show 0 ≤ a * y ∧ a * y ≤ 40 ^ (k + 1) ∧ a * y ≤ 4096000000 by
            rw [← hmx.out]
            obtain ⟨p1, p2⟩ := mul_bound ha0 ha1 (b := max y 0) (by omega) (show max y 0 ≤ 40 by omega)
            obtain ⟨p3, p4⟩ := mul_bound ha0 ha3 (b := max y 0) (by omega) (show max y 0 ≤ 40 by omega)
            exact ⟨p1, by rw [Int.pow_succ]; exact p2, by omega⟩)
          obtain ⟨p1, p2, p3⟩ := hpw.out
          clear hll hby ha2 hmx hP p2
          subst hA; subst hA2
          have r1 : IntKind.i64.wrap (y - 1) = y - 1 := IntWalk.i64_in _ (by omega)
          have r2 : IntKind.i64.wrap (a * y) = a * y := IntWalk.i64_in _ (by omega)
          have hkn' : x < (n : Int) := x1
          go_wp2
          go_roundw
          case rel => exact ⟨k + 1, _, _, by omega, p1, hpw.out.2.1, by go_num, rfl, ho2, he.out.trans hst.out, hE2, hP2, hb2⟩
          case measure => simp [intOf]; omega
        · go_wp2
          go_ret
          exact ⟨ret_int (by rw [he.out, ways_end _ _ (by have := hl'.out; omega)]), hb.out⟩
    · have hwk : wordOk (n : Int) ws = false := by simpa using hwk
      rw [hwk] at HW
      have he := hide (show wordWays zs ws = -1 by unfold wordWays; rw [hl.out, hwk, Bool.and_false]; rfl)
      clear hok hwk
      go_enter Try.func15, Try.ntmps15
      go_wp2_with (first | (go_at_call 30; refine (HI.out).mono ?_; rintro e w' ⟨rfl, rfl⟩) | (go_at_call 36; refine (HW.out).mono ?_; rintro e w' ⟨rfl, rfl⟩))
      go_ret
      exact ⟨ret_int he.out.symm, Below.refl _ _⟩
  · have hok : urnOk zs = false := by simpa using hok
    rw [hok] at HI
    have he := hide (show wordWays zs ws = -1 by unfold wordWays; rw [hok]; rfl)
    clear hok
    go_enter Try.func15, Try.ntmps15
    go_wp2_with (first | (go_at_call 30; refine (HI.out).mono ?_; rintro e w' ⟨rfl, rfl⟩))
    go_ret
    exact ⟨ret_int he.out.symm, Below.refl _ _⟩
end Go.Proofs.Ytaocbiocpklbmaa
