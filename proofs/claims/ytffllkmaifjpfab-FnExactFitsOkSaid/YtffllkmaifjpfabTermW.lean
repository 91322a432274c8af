/-
  Contracts of chapter 9, the specification's side: l9Word, TermWays.
-/
import Derived.Test.YtffllkmaifjpfabZterm
import Derived.Test.YtffllkmaifjpfabZpm
import Derived.Test.YtffllkmaifjpfabRuleX
import Derived.Test.YtffllkmaifjpfabZback
namespace Go.Proofs.Ytffllkmaifjpfab
open Go.RowKit
set_option linter.unusedVariables false

theorem digs_last (C k q : Nat) : digs C (k + 1) q = digs C k q ++ [((q / C ^ k % C : Nat) : Int)] := by
  apply List.ext_getElem?
  intro j
  rcases Nat.lt_trichotomy j k with h | h | h
  · rw [digs_at _ _ _ (by omega), List.getElem?_append_left (by rw [digs_len]; exact h), digs_at _ _ _ h]
  · subst h
    rw [digs_at _ _ _ (by omega), List.getElem?_append_right (by rw [digs_len]; exact Nat.le_refl _), digs_len, Nat.sub_self]; rfl
  · rw [List.getElem?_eq_none (by rw [digs_len]; omega), List.getElem?_eq_none (by rw [List.length_append, digs_len]; simp; omega)]

set_option maxHeartbeats 1600000 in
theorem l9Word_c (C m q : Nat) (w : World) (hC1 : 1 ≤ C) (hC3 : C ≤ 3) (hm : m ≤ 6) (hq : q ≤ 729) :
    Calls Try.prog 60 #[.int .i64 (C : Int), .int .i64 (m : Int), .int .i64 (q : Int)] w fun e w' => ∃ A n c, e = .returned (.slice A n c) ∧ Own w' w.heap.size (.slice A n c) (digs C m q) ∧ Below w.heap.size w w' := by
  obtain ⟨i0, hi, hz0, hz1, hz2⟩ := info_parts infoInt
  have hne : ((C : Int) == 0) = false := by simp; omega
  have hdv := hide (fun k => show q / C ^ k / C = q / C ^ (k + 1) by rw [Nat.div_div_eq_div_mul, Nat.pow_succ])
  have hsn := hide (fun k => digs_last C k q)
  have hdl := hide (fun k => digs_len C k q)
  go_enter Try.func60, Try.ntmps60
  go_wp2
  go_loopw [2, 7, 8] (fun t v i wr => ∃ k p : Nat, ∃ A n c, k ≤ m ∧ p ≤ 729 ∧ i = .int .i64 k ∧ t = .int .i64 p ∧ v = .slice A n c ∧ Hid (p = q / C ^ k) ∧ Hid (Own wr w.heap.size (.slice A n c) (digs C k q)) ∧ Hid (Below w.heap.size w wr)) (fun _ _ i _ => m - (intOf i).toNat)
  case atStart => exact ⟨0, q, _, _, _, Nat.zero_le _, hq, rfl, rfl, rfl, hide (by simp), own_empty (Nat.le_refl _), al w _⟩
  case round =>
    obtain ⟨k, p, A, n, c, hk, hp, rfl, rfl, rfl, hpe, ho, hb⟩ := hrel
    have hst := hb.out.size
    by_cases hlt : k < m
    · have hm1 : p % C < C := Nat.mod_lt _ (by omega)
      have hm2 : p / C ≤ p := Nat.div_le_self _ _
      have hs := hide (hsn.out k)
      rw [← hpe.out] at hs
      have hp2 := hide (show p / C = q / C ^ (k + 1) by rw [hpe.out]; exact hdv.out k)
      obtain ⟨D, hD⟩ : ∃ D : Nat, Hid (p % C = D) := ⟨_, hide rfl⟩
      rw [hD.out] at hm1 hs
      have hDI := hide (show ((p : Int) % (C : Int)) = (D : Int) by rw [← Int.natCast_emod, hD.out])
      have hwD := wf_i64 (z := (D : Int)) (by omega)
      have hw1 : wrap64 ((p : Int) / (C : Int)) = ((p / C : Nat) : Int) := by
        have e : ((p : Int) / (C : Int)) = ((p / C : Nat) : Int) := (Int.natCast_ediv _ _).symm
        have hz : p / C ≤ 729 := Nat.le_trans hm2 hp
        rw [e]
        generalize p / C = z at hz ⊢
        simp only [wrap64]; omega
      have hw1 := hide hw1
      have hlen := hide ho.out.len
      have hdlk := hide (hdl.out k)
      go_wp2_with (at_builtin; rw [hDI.out]; refine wpList_app _ rfl _ _ 35 rfl i0 Try.underlying35 hi hz0 hz1 hz2 _ (digs C k q) rfl (ho.out.alloc _) _ 1 1 _ [(D : Int)] rfl (ints_lit1 hwD) (by simp; omega) (by rw [hdlk.out]; omega) ?_; intro A₃ n₃ c₃ w3 ho3 hg3)
      have ho3 := hide (show Own w3 w.heap.size (.slice A₃ n₃ c₃) (digs C (k + 1) q) by rw [hs.out]; exact ho3)
      have hb3 := hide ((hb.out.alloc hst (.cells #[.int .i64 (D : Int)] 3)).grown hg3 (by simp; omega) (fun j hj => (ho.out.row.lt j hj).1))
      clear hg3
      go_wp2
      rw [hw1.out]
      go_roundw
      case rel => exact ⟨k + 1, p / C, _, _, _, by omega, Nat.le_trans hm2 hp, by go_num, rfl, rfl, hp2, ho3, hb3⟩
      case measure => simp [intOf]; omega
    · obtain rfl : k = m := by omega
      go_wp2
      go_ret
      exact ⟨_, _, _, rfl, ho.out, hb.out⟩
theorem digs_wordW {C m q : Nat} (h1 : 1 ≤ C) (h3 : C ≤ 3) (h6 : m ≤ 6) : wordOk (C : Int) (digs C m q) = true :=
  wordOk_mk (by omega) (by omega) (by rw [digs_len]; exact h6) (fun j x _ hx => digs_mem (by omega) m q x (List.mem_of_getElem? hx))
theorem pow729_cnt : ((List.range 4).all fun n => (List.range 7).all fun m => Nat.beq n 0 || (Nat.ble 1 (n ^ m) && Nat.ble (n ^ m) 729)) = true := by decide +kernel
theorem pow729W {n m : Nat} (h1 : 1 ≤ n) (h3 : n ≤ 3) (h6 : m ≤ 6) : 1 ≤ n ^ m ∧ n ^ m ≤ 729 := by
  have h := List.all_eq_true.1 (List.all_eq_true.1 pow729_cnt n (by simp; omega)) m (by simp; omega)
  rcases Bool.or_eq_true_iff.1 h with h | h
  · have := Nat.eq_of_beq_eq_true h; omega
  · obtain ⟨a, b⟩ := Bool.and_eq_true_iff.1 h
    exact ⟨Nat.le_of_ble_eq_true a, Nat.le_of_ble_eq_true b⟩
theorem fitW_digs {C L q : Nat} {rs : List (List Int)} {zs : List Int} (x : Tr) (h : Rule C rs) (hl : zs.length = C) (hm : ∀ y ∈ zs, 0 ≤ y ∧ y ≤ 10) (hC : 1 ≤ C) (hL : L ≤ 6) : 0 ≤ fitW x rs zs (digs C L q) ∧ fitW x rs zs (digs C L q) ≤ 481890304 ∧ 0 ≤ rways rs zs (digs C L q) ∧ rways rs zs (digs C L q) ≤ 481890304 := by
  have h1 := fitW_bounds x rs zs (digs C L q)
  have h2 := rways_bound (M := 10) h hl hm (digs_mem (by omega) L q) (by rw [digs_len]; omega)
  rw [digs_len] at h2
  have h3 := pow28 L hL
  have h4 := rways_nonneg rs zs (digs C L q)
  omega
theorem termW_no {zs : List Int} {rs : List (List Int)} {ts : List Mk} (h : startOk zs = false ∨ ruleOk (zs.length : Int) rs = false ∨ termOk (zs.length : Int) ts = false) : termW zs rs ts = -1 := by
  refine termW_out ?_
  rcases h with h | h | h
  · left; unfold begun; rw [h]; rfl
  · left; unfold begun; rw [h, Bool.and_false]
  · exact .inr h

set_option maxRecDepth 100000 in
set_option maxHeartbeats 3200000 in
theorem termWays_spec (A A1 A3 : Option Addr) (n c B n1 c1 B1 n3 c3 B3 : Nat) (zs : List Int) (rs : List (List Int)) (ts : List Mk) (w : World) (h : Ints w B A n c zs) (h1 : Mat w B1 A1 n1 c1 rs) (h3 : Marks w B3 A3 n3 c3 ts) (hB : B ≤ w.heap.size) (hB1 : B1 ≤ w.heap.size) (hB3 : B3 ≤ w.heap.size) (hn20 : n3 ≤ 1048576) :
    Calls Try.prog 29 #[.slice A n c, .slice A1 n1 c1, .slice A3 n3 c3] w fun e w' => e = .returned (.int .i64 (termW zs rs ts)) ∧ Below w.heap.size w w' := by
  have hl := h.len
  have HS := hide (startOk_spec A n c B zs w h)
  have HR := hide (ruleOk_spec (n : Int) A1 n1 c1 B1 rs w h1)
  have HT := hide (termOk_spec (n : Int) A3 n3 c3 B3 ts w h3 hB3 hn20)
  cases hs : startOk zs with
  | false =>
    have he := hide (termW_no (ts := ts) (rs := rs) (.inl hs))
    rw [hs] at HS
    clear hs
    go_enter Try.func29, Try.ntmps29
    go_wp2_with (go_at_call 57; refine (HS.out).mono ?_; rintro e w' ⟨rfl, rfl⟩)
    go_ret
    exact ⟨ret_int he.out.symm, Below.refl _ _⟩
  | true =>
    rw [hs] at HS
    cases hr : ruleOk (n : Int) rs with
    | false =>
      have he := hide (termW_no (zs := zs) (ts := ts) (.inr (.inl (by rw [hl]; exact hr))))
      rw [hr] at HR
      clear hs hr
      go_enter Try.func29, Try.ntmps29
      go_wp2_with (first | (go_at_call 57; refine (HS.out).mono ?_; rintro e w' ⟨rfl, rfl⟩) | (go_at_call 58; refine (HR.out).mono ?_; rintro e w' ⟨rfl, rfl⟩))
      go_ret
      exact ⟨ret_int he.out.symm, Below.refl _ _⟩
    | true =>
      rw [hr] at HR
      cases hok : termOk (n : Int) ts with
      | false =>
        have he := hide (termW_no (zs := zs) (rs := rs) (.inr (.inr (by rw [hl]; exact hok))))
        rw [hok] at HT
        clear hs hr hok
        go_enter Try.func29, Try.ntmps29
        go_wp2_with (first | (go_at_call 57; refine (HS.out).mono ?_; rintro e w' ⟨rfl, rfl⟩) | (go_at_call 58; refine (HR.out).mono ?_; rintro e w' ⟨rfl, rfl⟩))
        refine HT.out.mono ?_
        rintro e w1 ⟨rfl, hq⟩
        have hq := hide hq
        go_wp2_with fail
        go_ret
        exact ⟨ret_int he.out.symm, hq.out⟩
      | true =>
        have hbg : begun zs rs = true := by unfold begun; rw [hs, hl, hr]; rfl
        obtain ⟨hu, hz10, hru⟩ := begun_yes hbg
        obtain ⟨hC1, hC3, _, x, hx⟩ := termOk_yes hok
        have he := hide (termW_in hbg (by rw [hl]; exact hok) (by rw [hl]; exact hx))
        rw [hl] at he hru
        rw [hok] at HT
        have hgd := hx.1
        have hL6 := ln_le x hgd
        have hLN := hide (fun (w1 : World) (hq : Below w.heap.size w w1) => l9Length_c x hgd A3 n3 c3 B3 w1 (by rw [hx.2]; exact h3.below (hq.mono hB3)))
        have hFT := hide (fun (w1 : World) (hq : Below w.heap.size w w1) (A4 : Option Addr) (n4 c4 B4 : Nat) (ws : List Int) (h4 : Ints w1 B4 A4 n4 c4 ws) => l9Fits_c x hgd A3 n3 c3 B3 A4 n4 c4 B4 ws w1 (by rw [hx.2]; exact h3.below (hq.mono hB3)) h4)
        obtain ⟨L, hL⟩ : ∃ L, Hid (ln x = L) := ⟨_, hide rfl⟩
        rw [hL.out] at hL6 hLN
        have hsum := hide (termN_digs (C := n) (by omega) x rs zs)
        rw [hL.out] at hsum
        rw [← hsum.out] at he
        have hF := hide (fun q => fitW_digs (C := n) (L := L) (q := q) x hru hl hz10 (by omega) hL6)
        have hRW := hide (fun q => show ruleWays zs rs (digs n L q) = rways rs zs (digs n L q) by unfold ruleWays afterC; rw [hbg, hl, digs_wordW (by omega) (by omega) hL6]; rfl)
        have hPW := hide (fun w1 => l3Power_c (n : Int) L w1 (by omega) (by omega) hL6)
        have hP729 := pow729W (n := n) (m := L) (by omega) (by omega) hL6
        have hNB := hide (fun k => nsum_bounds (n := k) (f := fun q => fitW x rs zs (digs n L q)) (M := 481890304) (fun q _ => ⟨(hF.out q).1, (hF.out q).2.1⟩))
        have hpc : (n : Int) ^ L = ((n ^ L : Nat) : Int) := (Int.natCast_pow n L).symm
        rw [hpc] at hPW
        obtain ⟨P, hP⟩ : ∃ P : Nat, Hid (n ^ L = P) := ⟨_, hide rfl⟩
        rw [hP.out] at hPW hP729 he
        obtain ⟨P1, P2⟩ := hP729
        have hC1n : 1 ≤ n := by omega
        have hC3n : n ≤ 3 := by omega
        have hwk := hide (fun (q : Nat) (hq : q ≤ 729) (w1 : World) => l9Word_c n L q w1 hC1n hC3n hL6 hq)
        clear hs hr hok hbg hu hz10 hru hC1 hC3 hx hsum hpc
        go_enter Try.func29, Try.ntmps29
        go_wp2_with (first | (go_at_call 57; refine (HS.out).mono ?_; rintro e w' ⟨rfl, rfl⟩) | (go_at_call 58; refine (HR.out).mono ?_; rintro e w' ⟨rfl, rfl⟩))
        refine HT.out.mono ?_
        rintro e w1 ⟨rfl, hq⟩
        have hq := hide hq
        go_wp2_with fail
        refine (hLN.out w1 hq.out).mono ?_
        rintro e w2 ⟨rfl, q0, rfl⟩
        replace hq := hide (below_drewN hq.out q0)
        go_wp2_with fail
        go_loopw [8, 9] (fun t i wr => ∃ k : Nat, ∃ V : Int, k ≤ P ∧ i = .int .i64 k ∧ t = .int .i64 V ∧ Hid (V = nsum k (fun q => fitW x rs zs (digs n L q))) ∧ Hid (Below w.heap.size w wr)) (fun _ i _ => P - (intOf i).toNat)
        case atStart => exact ⟨0, 0, Nat.zero_le _, rfl, rfl, hide rfl, hq⟩
        case round =>
          clear hq
          obtain ⟨k, V, hk, rfl, rfl, hV, hb⟩ := hrel
          have hsz := hb.out.size
          have hbV := hNB.out k
          rw [← hV.out] at hbV
          obtain ⟨V0, V1⟩ := hbV
          have hV2 : V ≤ 351298031616 := by omega
          clear V1
          by_cases hlt : k < P
          · obtain ⟨f0, f1, r0, r1⟩ := hF.out k
            have hst := hide (show nsum (k + 1) (fun q => fitW x rs zs (digs n L q)) = nsum k (fun q => fitW x rs zs (digs n L q)) + fitW x rs zs (digs n L k) from rfl)
            rw [← hV.out] at hst
            have hrw := hide (hRW.out k)
            have HW := hide (hwk.out k (by omega) wr)
            clear f0 f1
            go_wp2_with (go_at_call 59; refine (hPW.out _).mono ?_; rintro e w' ⟨rfl, rfl⟩)
            refine HW.out.mono ?_
            rintro e w3 ⟨A4, n4, c4, rfl, ho, hq3⟩
            have hq3 := hide hq3
            have ho := hide ho
            have hb3 := hide (upB hb.out hq3.out)
            have hs3 := hq3.out.size
            have HX := hide (hFT.out w3 hb3.out A4 n4 c4 _ _ ho.out.ints)
            obtain ⟨p, hp⟩ : ∃ p, Hid (fitsT x (digs n L k) = p) := ⟨_, hide rfl⟩
            rw [hp.out] at HX
            cases p with
            | true =>
              have hfw := hide (show fitW x rs zs (digs n L k) = rways rs zs (digs n L k) by unfold fitW; rw [if_pos hp.out])
              rw [hfw.out] at hst
              go_wp2_with fail
              refine HX.out.mono ?_
              rintro e w4 ⟨rfl, q4, rfl⟩
              have HRW := hide (ruleWays_spec A A1 A4 n c B n1 c1 B1 n4 c4 _ zs rs (digs n L k) (w3.drewN q4) ((h.below (hb3.out.mono hB)).drewN q4) ((h1.below (hb3.out.mono hB1)).drewN q4) (ho.out.drewN q4).ints (Nat.le_trans hB (Nat.le_trans hsz hs3)) (Nat.le_trans hB1 (Nat.le_trans hsz hs3)) (Nat.le_refl _))
              rw [hrw.out] at HRW
              obtain ⟨R, hR⟩ : ∃ R, Hid (rways rs zs (digs n L k) = R) := ⟨_, hide rfl⟩
              rw [hR.out] at HRW hst r0 r1
              replace hb3 := hide (below_drewN hb3.out q4)
              go_wp2_with fail
              refine HRW.out.mono ?_
              rintro e w5 ⟨rfl, hq5⟩
              have hb5 := hide (upB hb3.out hq5)
              clear hq5
              go_wp2_with fail
              go_roundw
              case rel => exact ⟨k + 1, _, by omega, by go_num, rfl, hide hst.out.symm, hb5⟩
              case measure => simp [intOf]; omega
            | false =>
              have hfw := hide (show fitW x rs zs (digs n L k) = 0 by unfold fitW; rw [if_neg (by rw [hp.out]; decide)])
              rw [hfw.out, Int.add_zero] at hst
              go_wp2_with fail
              refine HX.out.mono ?_
              rintro e w4 ⟨rfl, q4, rfl⟩
              replace hb3 := hide (below_drewN hb3.out q4)
              go_wp2_with fail
              go_roundw
              case rel => exact ⟨k + 1, _, by omega, by go_num, rfl, hide hst.out.symm, hb3⟩
              case measure => simp [intOf]; omega
          · obtain rfl : k = P := by omega
            go_wp2_with (go_at_call 59; refine (hPW.out _).mono ?_; rintro e w' ⟨rfl, rfl⟩)
            go_ret
            exact ⟨ret_int (by rw [he.out, hV.out]), hb.out⟩
end Go.Proofs.Ytffllkmaifjpfab
