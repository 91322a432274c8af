/-
  Contracts of chapter 9, the program's side: TermOk, LengthOf, TermText, ReadTerm, FitsOk, TermWays, BackTerm.
-/
import Derived.Test.YtffllkmaifjpfabZterm
import Derived.Test.YtffllkmaifjpfabTermW
import Derived.Test.YtffllkmaifjpfabZpart
import Derived.Test.YtffllkmaifjpfabRuleI
namespace Go.Proofs.Ytffllkmaifjpfab
open Go.RowKit
set_option linter.unusedVariables false

theorem termOk_impl (C : Int) (A : Option Addr) (n c B : Nat) (ts : List Mk) (w : World) (h : Marks w B A n c ts) (hB : B ≤ w.heap.size) (hn20 : n ≤ 1048576) (wf0 : (Lit.int .i64 C).wf = true) :
    Calls Try.prog 14 #[.int .i64 C, .slice A n c] w fun e w' => e = .returned (.bool (termOk C ts)) ∧ Below w.heap.size w w' := by
  have HM := hide (readMarks_c C A n c B ts w h hB wf0)
  go_enter Try.func14, Try.ntmps14
  go_wp2_with fail
  refine HM.out.mono ?_
  rintro e w1 ⟨p, rfl, hq, _⟩
  have hq := hide hq
  go_wp2_with fail
  go_ret
  exact ⟨rfl, hq.out⟩

theorem lengthOf_impl (C : Int) (A : Option Addr) (n c B : Nat) (ts : List Mk) (w : World) (h : Marks w B A n c ts) (hB : B ≤ w.heap.size) (hn20 : n ≤ 1048576) (wf0 : (Lit.int .i64 C).wf = true) :
    Calls Try.prog 17 #[.int .i64 C, .slice A n c] w fun e w' => e = .returned (.int .i64 (lenT C ts)) ∧ Below w.heap.size w w' := by
  have HM := hide (readMarks_c C A n c B ts w h hB wf0)
  cases hok : termOk C ts with
  | true =>
    obtain ⟨_, _, _, x, hx⟩ := termOk_yes hok
    have he := hide (lenT_in hok hx)
    have hx := hide hx
    rw [hok] at HM
    clear hok
    go_enter Try.func17, Try.ntmps17
    go_wp2_with fail
    refine HM.out.mono ?_
    rintro e w1 ⟨p, rfl, hq, hp⟩
    have hq := hide hq
    obtain ⟨g, rfl, hg, _, hl⟩ := (hp x trivial hx.out).lastP
    clear hp
    go_wp2_with fail
    go_ret
    exact ⟨ret_int he.out.symm, hq.out⟩
  | false =>
    have he := hide (lenT_out hok)
    rw [hok] at HM
    clear hok
    go_enter Try.func17, Try.ntmps17
    go_wp2_with fail
    refine HM.out.mono ?_
    rintro e w1 ⟨p, rfl, hq, _⟩
    have hq := hide hq
    go_wp2_with fail
    go_ret
    exact ⟨ret_int he.out.symm, hq.out⟩

theorem termText_impl (C : Int) (A : Option Addr) (n c B : Nat) (ts : List Mk) (w : World) (h : Marks w B A n c ts) (hB : B ≤ w.heap.size) (hn20 : n ≤ 1048576) (wf0 : (Lit.int .i64 C).wf = true) :
    Calls Try.prog 19 #[.int .i64 C, .slice A n c] w fun e w' => e = .returned (.string (strB (txtT C ts))) ∧ Below w.heap.size w w' := by
  have HM := hide (readMarks_c C A n c B ts w h hB wf0)
  cases hok : termOk C ts with
  | true =>
    obtain ⟨_, h3, h15, x, hx⟩ := termOk_yes hok
    have he := hide (txtT_in hok hx)
    have hsm := hide (good_small h3 x hx.1)
    have hl15 := hide (show (flat x).length ≤ 15 by rw [hx.2]; exact h15)
    have hx := hide hx
    rw [hok] at HM
    clear hok h3 h15
    rw [he.out]
    go_enter Try.func19, Try.ntmps19
    go_wp2_with fail
    refine HM.out.mono ?_
    rintro e w1 ⟨p, rfl, hq, hp⟩
    have hq := hide hq
    have HT := hide (textOf_c x hsm.out hl15.out _ _ w1 (hp x trivial hx.out))
    clear hp
    go_wp2_with (go_at_call 49; refine (HT.out).mono ?_; rintro e w' ⟨rfl, q, rfl⟩)
    go_ret
    exact ⟨rfl, below_drewN hq.out _⟩
  | false =>
    have he := hide (txtT_out hok)
    rw [hok] at HM
    clear hok
    rw [he.out]
    go_enter Try.func19, Try.ntmps19
    go_wp2_with fail
    refine HM.out.mono ?_
    rintro e w1 ⟨p, rfl, hq, _⟩
    have hq := hide hq
    go_wp2_with fail
    go_ret
    exact ⟨by rfl, hq.out⟩

set_option maxRecDepth 100000 in
set_option maxRecDepth 100000 in
set_option maxRecDepth 100000 in
set_option maxRecDepth 100000 in
set_option maxRecDepth 100000 in
set_option maxRecDepth 100000 in
set_option maxHeartbeats 800000 in
theorem fitsOk_impl (C : Int) (A : Option Addr) (n c B : Nat) (A2 : Option Addr) (m c2 B2 : Nat) (ts : List Mk) (ws : List Int) (w : World) (h : Marks w B A n c ts) (h2 : Ints w B2 A2 m c2 ws) (hB : B ≤ w.heap.size) (hB2 : B2 ≤ w.heap.size) (hn20 : n ≤ 1048576) (wf0 : (Lit.int .i64 C).wf = true) :
    Calls Try.prog 26 #[.int .i64 C, .slice A n c, .slice A2 m c2] w fun e w' => e = .returned (.bool (fitsW C ts ws)) ∧ Below w.heap.size w w' := by
  have HM := hide (readMarks_c C A n c B ts w h hB wf0)
  have HW := hide (fun (w1 : World) (hq : Below w.heap.size w w1) => wordOk_impl0 C _ _ _ _ ws w1 (h2.below (hq.mono hB2)))
  have hml := h2.len
  have hmb := h2.nb
  cases hok : termOk C ts with
  | true =>
    obtain ⟨_, _, _, x, hx⟩ := termOk_yes hok
    have he := hide (fitsW_in (ws := ws) hok hx)
    have hgd := hide hx.1
    have hx := hide hx
    rw [hok] at HM
    clear hok
    rw [he.out]
    cases hw : wordOk C ws with
    | true =>
      rw [Bool.true_and]
      rw [hw] at HW
      by_cases hlx : m = ln x
      · have HF := hide (fun (w1 : World) (v : Value) (hp : PartAt w1 w1.heap.size x v) (hq : Below w.heap.size w w1) => fits_c x hgd.out v _ A2 m c2 B2 ws w1 hp (h2.below (hq.mono hB2)) hlx)
        obtain ⟨lx, hlx'⟩ : ∃ l, Hid (ln x = l) := ⟨_, hide rfl⟩
        rw [hlx'.out] at hlx
        subst hlx
        clear hml hw
        go_enter Try.func26, Try.ntmps26
        go_wp2_with fail
        refine HM.out.mono ?_
        rintro e w1 ⟨p, rfl, hq, hp⟩
        have hq := hide hq
        have hpx := hide (hp x trivial hx.out)
        have HF1 := hide (HF.out w1 _ hpx.out hq.out)
        obtain ⟨g, rfl, hg, _, hl⟩ := hpx.out.lastP
        rw [hlx'.out] at hl
        clear hp
        have HW1 := hide (HW.out w1 hq.out)
        clear HW HF HM hpx he hx hgd h h2
        go_wp2_with fail
        refine HW1.out.mono ?_
        rintro e w' ⟨rfl, rfl⟩
        go_wp2_with fail
        refine HF1.out.mono ?_
        rintro e w' ⟨rfl, q, rfl⟩
        go_wp2_with fail
        go_ret
        exact ⟨by rfl, below_drewN hq.out _⟩
      · have hF := hide (show fitsT x ws = false by
          cases hf : fitsT x ws with
          | false => rfl
          | true => exact absurd (by rw [← hml]; exact fits_len x ws hgd.out hf) hlx)
        rw [hF.out]
        obtain ⟨lx, hlx'⟩ : ∃ l, Hid (ln x = l) := ⟨_, hide rfl⟩
        rw [hlx'.out] at hlx
        have heq : ((m : Int) == (lx : Int)) = false := by simp; omega
        clear hml hw hlx
        go_enter Try.func26, Try.ntmps26
        go_wp2_with fail
        refine HM.out.mono ?_
        rintro e w1 ⟨p, rfl, hq, hp⟩
        have hq := hide hq
        obtain ⟨g, rfl, hg, _, hl⟩ := (hp x trivial hx.out).lastP
        rw [hlx'.out] at hl
        have HW1 := hide (HW.out w1 hq.out)
        clear hp HW HM he hx hgd h h2
        go_wp2_with fail
        refine HW1.out.mono ?_
        rintro e w' ⟨rfl, rfl⟩
        go_wp2_with fail
        go_ret
        exact ⟨by rfl, hq.out⟩
    | false =>
      rw [Bool.false_and]
      rw [hw] at HW
      clear hml hw
      go_enter Try.func26, Try.ntmps26
      go_wp2_with fail
      refine HM.out.mono ?_
      rintro e w1 ⟨p, rfl, hq, hp⟩
      have hq := hide hq
      clear hp
      go_wp2_with (go_at_call 54; refine (HW.out w1 hq.out).mono ?_; rintro e w' ⟨rfl, rfl⟩)
      go_ret
      exact ⟨by rfl, hq.out⟩
  | false =>
    have he := hide (fitsW_out ws hok)
    rw [hok] at HM
    clear hok hml
    rw [he.out]
    go_enter Try.func26, Try.ntmps26
    go_wp2_with fail
    refine HM.out.mono ?_
    rintro e w1 ⟨p, rfl, hq, _⟩
    have hq := hide hq
    go_wp2_with fail
    go_ret
    exact ⟨by rfl, hq.out⟩

theorem backTerm_impl (C : Int) (A : Option Addr) (n c B : Nat) (ts : List Mk) (w : World) (h : Marks w B A n c ts) (hB : B ≤ w.heap.size) (hn20 : n ≤ 1048576) (wf0 : (Lit.int .i64 C).wf = true) :
    Calls Try.prog 34 #[.int .i64 C, .slice A n c] w fun e w' => ∃ A' n' c', e = .returned (.slice A' n' c') ∧ OwnK w' w.heap.size (.slice A' n' c') (backL C ts) ∧ Below w.heap.size w w' := by
  have HM := hide (readMarks_c C A n c B ts w h hB wf0)
  cases hok : termOk C ts with
  | true =>
    obtain ⟨_, h3, h15, x, hx⟩ := termOk_yes hok
    have he := hide (backL_in hok hx)
    have hsm := hide (good_small h3 x hx.1)
    have hl15 := hide (show (flat x).length ≤ 15 by rw [hx.2]; exact h15)
    have hx := hide hx
    rw [hok] at HM
    clear hok h3 h15
    rw [he.out]
    go_enter Try.func34, Try.ntmps34
    go_wp2_with fail
    refine HM.out.mono ?_
    rintro e w1 ⟨p, rfl, hq, hp⟩
    have hq := hide hq
    have HT := hide (backMarks_c x hsm.out hl15.out _ _ w1 (hp x trivial hx.out) (Nat.le_refl _))
    clear hp
    go_wp2_with (go_at_call 67; refine (HT.out).mono ?_; rintro e w2 ⟨A1, n1, c1, rfl, ho, hq2⟩)
    go_ret
    exact ⟨_, _, _, rfl, ho.down hq.out.size, upB hq.out hq2⟩
  | false =>
    have he := hide (backL_out hok)
    rw [hok] at HM
    clear hok
    rw [he.out]
    go_enter Try.func34, Try.ntmps34
    go_wp2_with fail
    refine HM.out.mono ?_
    rintro e w1 ⟨p, rfl, hq, _⟩
    have hq := hide hq
    go_wp2_with fail
    go_ret
    exact ⟨_, _, _, rfl, OwnK.none_, hq.out⟩

theorem readBars_all : ∀ (m : Nat) (s : ByteArray) (w : World), s.size ≤ 60 → s.size ≤ m →
    Calls Try.prog 51 #[.string s] w fun e w' => Scan (pOr (m + 1)) (bts s) w e w'
  | 0, s, w, hs, hm => readBars_c 0 s w hs fun s1 W h1 => readRow_c 0 s1 W (by omega) fun s2 W2 h2 => readOne_c (pOr 0) s2 W2 (by omega) fun W3 h3 => by omega
  | m + 1, s, w, hs, hm => readBars_c (m + 1) s w hs fun s1 W h1 => readRow_c (m + 1) s1 W (by omega) fun s2 W2 h2 => readOne_c (pOr (m + 1)) s2 W2 (by omega) fun W3 h3 => by
      have h4 := tail_size s2 h3
      exact readBars_all m (s2.extract 1 s2.size) W3 (by omega) (by omega)

theorem readT_stop {C : Int} {s : ByteArray} (h60 : s.size ≤ 60) (h : pOr (s.size + 1) (bts s) = none) : readT C (bts s) = none := readT_fail h60 (by rwa [List.drop_zero])
theorem readT_rest {C : Int} {s s' : ByteArray} {t : Tr} (h60 : s.size ≤ 60) (hp : 0 < s'.size) (h : pOr (s.size + 1) (bts s) = some (t, bts s')) : readT C (bts s) = none := by
  unfold readT
  rw [if_pos (by rw [bts_len]; exact h60), bts_len, h, bts_head s' hp]
theorem readT_full {C : Int} {s s' : ByteArray} {t : Tr} (h60 : s.size ≤ 60) (hp : s'.size = 0) (h : pOr (s.size + 1) (bts s) = some (t, bts s')) : readT C (bts s) = if termOk C (flat t) = true ∧ txt t = bts s then some t else none := by
  unfold readT
  rw [if_pos (by rw [bts_len]; exact h60), bts_len, h, bts_nil hp]
/-- The text of what was read is the text just if the term is read from it. -/
theorem txtT_read {C : Int} {s : ByteArray} {t : Tr} (hs : 0 < s.size) : (if termOk C (flat t) = true ∧ txt t = bts s then some t else none) = (if strB (txtT C (flat t)) = s then some t else none) := by
  by_cases hok : termOk C (flat t) = true
  · rw [txtT_in hok (termOk_flat hok)]
    by_cases h : txt t = bts s
    · rw [if_pos ⟨hok, h⟩, if_pos (by rw [h, strB_bts])]
    · rw [if_neg (fun hh => h hh.2), if_neg (fun hh => h (by rw [← hh, bts_strB]))]
  · have hok' : termOk C (flat t) = false := by simpa using hok
    rw [txtT_out hok', if_neg (fun hh => hok hh.1), if_neg (fun hh => by rw [← hh] at hs; simp [strB, ByteArray.size] at hs)]

set_option maxRecDepth 100000 in
set_option maxHeartbeats 1600000 in
theorem readTerm_impl (C : Int) (s : ByteArray) (w : World) (wf0 : (Lit.int .i64 C).wf = true) :
    Calls Try.prog 21 #[.int .i64 C, .string s] w fun e w' => ∃ A n c, e = .returned (.tuple #[.slice A n c, .bool (readB C (bts s))]) ∧ OwnK w' w.heap.size (.slice A n c) (readL C (bts s)) ∧ Below w.heap.size w w' := by
  by_cases h60 : s.size ≤ 60
  · have HO := hide (readBars_all s.size s w h60 (Nat.le_refl _))
    have hsb := hide (bts_len s)
    go_enter Try.func21, Try.ntmps21
    go_wp2_with fail
    refine HO.out.mono ?_
    rintro e w1 ⟨A, n, c, s', ok, ms, rfl, ho, hq, hn, hsd, hs6⟩
    have ho := hide ho
    have hq := hide hq
    have hn2 : n ≤ 200 := by have := hsb.out; omega
    clear hn
    rcases hsd with ⟨hf, rfl⟩ | ⟨t, hf, rfl, rfl⟩
    · have hr := hide (readL_none (readT_stop (C := C) h60 hf))
      clear hf HO
      go_wp2_with fail
      go_ret2
      exact ⟨_, _, _, by rw [hr.out.2]; rfl, by rw [hr.out.1]; exact OwnK.none_, hq.out⟩
    · by_cases hp : 0 < s'.size
      · have hr := hide (readL_none (readT_rest (C := C) h60 hp hf))
        have hne : (s'.toList == ([] : List UInt8)) = false := by
          rw [ByteArray.toList_eq]
          show (bts s' == []) = false
          rw [bts_head s' hp]; rfl
        clear hf HO
        go_wp2_with fail
        go_ret2
        exact ⟨_, _, _, by rw [hr.out.2]; rfl, by rw [hr.out.1]; exact OwnK.none_, hq.out⟩
      · have hs0 : s'.size = 0 := by omega
        have hrd := readT_full (C := C) h60 hs0 hf
        have hspos : 0 < s.size := by
          obtain ⟨k, k1, k2, _⟩ := pOr_eats _ _ _ _ hf
          rw [bts_len] at k2; omega
        rw [txtT_read hspos] at hrd
        obtain rfl := str_nil hs0
        have HX := hide (termText_impl C A n c w1.heap.size (flat t) w1 ho.out.marks (Nat.le_refl _) (by omega) wf0)
        obtain ⟨SA, hSA⟩ : ∃ SA, Hid (strB (txtT C (flat t)) = SA) := ⟨_, hide rfl⟩
        rw [hSA.out] at HX hrd
        clear hf HO hp hs0
        by_cases hss : SA = s
        · have hr := hide (readL_some (hrd.trans (if_pos hss)))
          subst hss
          clear hrd
          go_wp2_with (go_at_call 19; refine (HX.out).mono ?_; rintro e w2 ⟨rfl, hq2⟩)
          go_ret2
          exact ⟨_, _, _, by rw [hr.out.2]; rfl, by rw [hr.out.1]; exact ho.out.up hq2, upB hq.out hq2⟩
        · have hr := hide (readL_none (hrd.trans (if_neg hss)))
          have hb1 : (SA.toList == s.toList) = false := by
            rw [ByteArray.toList_eq, ByteArray.toList_eq]
            exact beq_eq_false_iff_ne.2 (fun h => hss (bts_inj h))
          clear hrd
          go_wp2_with (go_at_call 19; refine (HX.out).mono ?_; rintro e w2 ⟨rfl, hq2⟩)
          go_ret2
          exact ⟨_, _, _, by rw [hr.out.2]; rfl, by rw [hr.out.1]; exact OwnK.none_, upB hq.out hq2⟩
  · have hr := hide (readL_none (readT_long (C := C) h60))
    have h61 : 60 < s.size := by omega
    go_enter Try.func21, Try.ntmps21
    go_wp2_with fail
    go_ret2
    exact ⟨_, _, _, by rw [hr.out.2]; rfl, by rw [hr.out.1]; exact OwnK.none_, Below.refl _ _⟩

set_option maxRecDepth 100000 in
set_option maxHeartbeats 1600000 in
/-- What is told of a word in TermWays. -/
theorem termTold_c {C : Int} (x : Tr) (hg : good C x = true) (p : Value) (g7 g3 g4 : Nat) (A A1 A4 : Option Addr) (n c B n1 c1 B1 m c4 B4 B5 : Nat) (zs ws : List Int) (rs : List (List Int)) (w : World) (h7 : w.cell? ⟨g7, 0, none⟩ = some p) (h3 : w.cell? ⟨g3, 0, none⟩ = some (.slice A n c)) (h4 : w.cell? ⟨g4, 0, none⟩ = some (.slice A1 n1 c1)) (hp : PartAt w B5 x p) (h : Ints w B A n c zs) (h1 : Mat w B1 A1 n1 c1 rs) (hw : Ints w B4 A4 m c4 ws) (hB : B ≤ w.heap.size) (hB1 : B1 ≤ w.heap.size) (hB4 : B4 ≤ w.heap.size) (hm : m = ln x) :
    Calls Try.prog 64 #[.slice A4 m c4, .pointer (some ⟨g7, 0, none⟩), .pointer (some ⟨g3, 0, none⟩), .pointer (some ⟨g4, 0, none⟩)] w fun e w' => e = .returned (.int .i64 (if fitsT x ws = true then ruleWays zs rs ws else 0)) ∧ Below w.heap.size w w' := by
  have HF := hide (fits_c x hg p B5 A4 m c4 B4 ws w hp hw hm)
  have HR := hide (fun q => ruleWays_impl A A1 A4 n c B n1 c1 B1 m c4 B4 zs rs ws (w.drewN q) (h.drewN q) (h1.drewN q) (hw.drewN q) hB hB1 hB4)
  clear hp hm
  cases hf : fitsT x ws with
  | true =>
    rw [hf] at HF
    rw [if_pos rfl]
    clear hf
    go_enter Try.func64, Try.ntmps64
    go_wp2_with (first | (go_at_call 55; refine (HF.out).mono ?_; rintro e w' ⟨rfl, q, rfl⟩) | (go_at_call 65; refine (HR.out _).mono ?_; rintro e w2 ⟨rfl, hq2⟩))
    go_ret
    exact ⟨rfl, (below_drewN (Below.refl _ _) _).trans hq2⟩
  | false =>
    rw [hf] at HF
    rw [if_neg (by decide)]
    clear hf
    go_enter Try.func64, Try.ntmps64
    go_wp2_with (go_at_call 55; refine (HF.out).mono ?_; rintro e w' ⟨rfl, q, rfl⟩)
    go_ret
    exact ⟨rfl, below_drewN (Below.refl _ _) _⟩

set_option maxRecDepth 100000 in
set_option maxHeartbeats 3200000 in
theorem termWays_impl (A A1 A3 : Option Addr) (n c B n1 c1 B1 n3 c3 B3 : Nat) (zs : List Int) (rs : List (List Int)) (ts : List Mk) (w : World) (h : Ints w B A n c zs) (h1 : Mat w B1 A1 n1 c1 rs) (h3 : Marks w B3 A3 n3 c3 ts) (hB : B ≤ w.heap.size) (hB1 : B1 ≤ w.heap.size) (hB3 : B3 ≤ w.heap.size) (hn20 : n3 ≤ 1048576) :
    Calls Try.prog 31 #[.slice A n c, .slice A1 n1 c1, .slice A3 n3 c3] w fun e w' => e = .returned (.int .i64 (termW zs rs ts)) ∧ Below w.heap.size w w' := by
  have hl := h.len
  have hnb := h.nb
  have hwf : (Lit.int .i64 (n : Int)).wf = true := wf_i64 (by omega)
  obtain ⟨W0, hW0⟩ : ∃ W0, Hid ((w.alloc (.cells #[.slice A n c] 35)).alloc (.cells #[.slice A1 n1 c1] 40) = W0) := ⟨_, hide rfl⟩
  have hz0 := hide (show W0.heap.size = w.heap.size + 1 + 1 by rw [← hW0.out]; simp)
  have hq0 := hide (show Below w.heap.size w W0 by rw [← hW0.out]; exact ((Below.refl _ _).alloc (Nat.le_refl _) _).alloc (by simp) _)
  have hc0 := hide (show W0.cell? ⟨w.heap.size, 0, none⟩ = some (.slice A n c) by rw [← hW0.out, World.cell?_alloc_lt _ _ _ (by simp), World.cell?_alloc_at _ _ _ _ rfl]; rfl)
  have hc1 := hide (show W0.cell? ⟨w.heap.size + 1, 0, none⟩ = some (.slice A1 n1 c1) by rw [← hW0.out, World.cell?_alloc_at _ _ _ _ (by simp)]; rfl)
  have HM := hide (readMarks_c (n : Int) A3 n3 c3 B3 ts W0 (h3.below (hq0.out.mono hB3)) (Nat.le_trans hB3 hq0.out.size) hwf)
  have HBG := hide (fun (W : World) (hq : Below w.heap.size w W) => begins_c A A1 n c B n1 c1 B1 zs rs W (h.below (hq.mono hB)) (h1.below (hq.mono hB1)))
  have hcs := hide (fun (W : World) (hq : Below W0.heap.size W0 W) => show W.cell? ⟨w.heap.size, 0, none⟩ = some (.slice A n c) ∧ W.cell? ⟨w.heap.size + 1, 0, none⟩ = some (.slice A1 n1 c1) from
    ⟨(hq.cell (p := ⟨w.heap.size, 0, none⟩) (show w.heap.size < W0.heap.size by have := hz0.out; omega)).trans hc0.out, (hq.cell (p := ⟨w.heap.size + 1, 0, none⟩) (show w.heap.size + 1 < W0.heap.size by have := hz0.out; omega)).trans hc1.out⟩)
  cases hok : termOk (n : Int) ts with
  | false =>
    have he := hide (termW_no (zs := zs) (rs := rs) (.inr (.inr (by rw [hl]; exact hok))))
    rw [hok] at HM
    clear hok
    have e0 := hW0.out
    subst e0
    clear hW0 hz0 hc0 hc1
    go_enter Try.func31, Try.ntmps31
    go_wp2_with fail
    refine HM.out.mono ?_
    rintro e w1 ⟨p, rfl, hq, _⟩
    have hq1 := hide (upB hq0.out hq)
    go_wp2_with fail
    go_ret
    exact ⟨ret_int he.out.symm, hq1.out.alloc hq1.out.size _⟩
  | true =>
    rw [hok] at HM
    cases hbg : begun zs rs with
    | false =>
      have he := hide (show termW zs rs ts = -1 from termW_out (.inl hbg))
      rw [hbg] at HBG
      clear hok hbg
      have e0 := hW0.out
      subst e0
      clear hW0 hz0 hc0 hc1
      go_enter Try.func31, Try.ntmps31
      go_wp2_with fail
      refine HM.out.mono ?_
      rintro e w1 ⟨p, rfl, hq, hh⟩
      replace hh := hide hh
      have hq1 := hide (upB hq0.out hq)
      have hqa := hide (hq1.out.alloc hq1.out.size (.cells #[.pointer p] 61))
      obtain ⟨k0, k1⟩ := hcs.out (w1.alloc (.cells #[.pointer p] 61)) (upB hq (al w1 _))
      have HB1 := hide (HBG.out (w1.alloc (.cells #[.pointer p] 61)) hqa.out)
      go_wp2_with (go_at_call 62; refine (HB1.out).mono ?_; rintro e w' ⟨rfl, rfl⟩)
      go_ret
      exact ⟨ret_int he.out.symm, hqa.out⟩
    | true =>
      obtain ⟨hu, hz10, hru⟩ := begun_yes hbg
      obtain ⟨hC1, hC3, _, x, hx⟩ := termOk_yes hok
      have he := hide (termW_in hbg (by rw [hl]; exact hok) (by rw [hl]; exact hx))
      rw [hl] at he hru
      have hgd := hx.1
      have hL6 := ln_le x hgd
      have hsum := hide (termN_digs (C := n) (by omega) x rs zs)
      rw [← hsum.out] at he
      have hF := hide (fun q => fitW_digs (C := n) (L := ln x) (q := q) x hru hl hz10 (by omega) hL6)
      have hRW := hide (fun q => show (if fitsT x (digs n (ln x) q) = true then ruleWays zs rs (digs n (ln x) q) else 0) = fitW x rs zs (digs n (ln x) q) by unfold ruleWays afterC fitW; rw [hbg, hl, digs_wordW (by omega) (by omega) hL6]; rfl)
      have HSU := hide (fun (W : World) (p : Value) (gW : Nat) (hq : Below W0.heap.size W0 W) (hp : PartAt W W.heap.size x p) (hcp : W.cell? ⟨gW, 0, none⟩ = some p) (hgW : gW < W.heap.size) =>
        show Calls Try.prog 63 #[.int .i64 (n : Int), .int .i64 (ln x : Int), .func (.func 64) #[] #[.pointer (some ⟨gW, 0, none⟩), .pointer (some ⟨w.heap.size, 0, none⟩), .pointer (some ⟨w.heap.size + 1, 0, none⟩)]] W (fun e w' => e = .returned (.int .i64 (nsum (n ^ ln x) (fun q => fitW x rs zs (digs n (ln x) q)))) ∧ Below W.heap.size W w') from
        sumAll_c n (ln x) _ _ (fun q => fitW x rs zs (digs n (ln x) q)) 481890304 W (by omega) (by omega) hL6 (by decide) (fun xs w1 => Try.call64 xs w1) (fun q _ => ⟨(hF.out q).1, (hF.out q).2.1⟩) (fun q w1 _ hb ho => by
          have hq1 := upB hq hb
          obtain ⟨k0, k1⟩ := hcs.out w1 hq1
          have hw1 := upB hq0.out hq1
          have := termTold_c x hgd p gW w.heap.size (w.heap.size + 1) A A1 (some ⟨W.heap.size, 0, none⟩) n c B n1 c1 B1 (ln x) (ln x) w1.heap.size w1.heap.size zs (digs n (ln x) q) rs w1 ((hb.cell (p := ⟨gW, 0, none⟩) hgW).trans hcp) k0 k1 (hp.up hb) (h.below (hw1.mono hB)) (h1.below (hw1.mono hB1)) ho.ints (Nat.le_trans hB hw1.size) (Nat.le_trans hB1 hw1.size) (Nat.le_refl _) rfl
          rwa [hRW.out q] at this))
      rw [hbg] at HBG
      have hx := hide hx
      replace hF := hF
      clear hok hbg hu hz10 hru hC1 hC3 hgd hL6 hsum hRW hF
      rw [he.out]
      obtain ⟨V, hV⟩ : ∃ V, Hid (nsum (n ^ ln x) (fun q => fitW x rs zs (digs n (ln x) q)) = V) := ⟨_, hide rfl⟩
      rw [hV.out] at HSU ⊢
      have e0 := hW0.out
      subst e0
      clear hW0 hz0 hc0 hc1 he hl
      go_enter Try.func31, Try.ntmps31
      go_wp2_with fail
      refine HM.out.mono ?_
      rintro e w1 ⟨p, rfl, hq, hh⟩
      have hpx := hide (hh x trivial hx.out)
      clear hh
      have hq1 := hide (upB hq0.out hq)
      have hqa := hide (hq1.out.alloc hq1.out.size (.cells #[.pointer p] 61))
      have hqb := hide (upB hq (al w1 (.cells #[.pointer p] 61)))
      have hpa := hide (partAl hpx.out (.cells #[.pointer p] 61))
      obtain ⟨k0, k1⟩ := hcs.out (w1.alloc (.cells #[.pointer p] 61)) hqb.out
      obtain ⟨gp, rfl, hgp, _, hlp⟩ := hpa.out.lastP
      have kp : (w1.alloc (.cells #[.pointer (some ⟨gp, 0, none⟩)] 61)).cell? ⟨w1.heap.size, 0, none⟩ = some (.pointer (some ⟨gp, 0, none⟩)) := by rw [World.cell?_alloc_at _ _ _ _ rfl]; rfl
      have HB1 := hide (HBG.out (w1.alloc (.cells #[.pointer (some ⟨gp, 0, none⟩)] 61)) hqa.out)
      have HS1 := hide (fun k => HSU.out ((w1.alloc (.cells #[.pointer (some ⟨gp, 0, none⟩)] 61)).drewN k) (.pointer (some ⟨gp, 0, none⟩)) w1.heap.size (below_drewN hqb.out k) (hpa.out.drewN k) kp (by simp))
      have HS2 := hide (HSU.out ((w1.alloc (.cells #[.pointer (some ⟨gp, 0, none⟩)] 61)).drew) (.pointer (some ⟨gp, 0, none⟩)) w1.heap.size hqb.out.drew hpa.out.drew kp (by simp))
      obtain ⟨L, hL⟩ : ∃ L, Hid (ln x = L) := ⟨_, hide rfl⟩
      rw [hL.out] at HS1 HS2 hlp
      have hwz : w.heap.size < w1.heap.size := by have := hq.size; simp at this; omega
      have hS3 := hide (fun (w3 : World) (hc : ∀ q : Addr, q.block < w1.heap.size + 1 → w3.cell? q = (w1.alloc (.cells #[.pointer (some ⟨gp, 0, none⟩)] 61)).cell? q) => show w3.cell? ⟨w.heap.size, 0, none⟩ = some (.slice A n c) ∧ w3.cell? ⟨w1.heap.size, 0, none⟩ = some (.pointer (some ⟨gp, 0, none⟩)) ∧ w3.cell? ⟨gp, 2, none⟩ = some (.int .i64 (L : Int)) from
        ⟨(hc ⟨w.heap.size, 0, none⟩ (Nat.lt_succ_of_lt hwz)).trans k0, (hc ⟨w1.heap.size, 0, none⟩ (Nat.lt_succ_self _)).trans kp, (hc ⟨gp, 2, none⟩ (by simpa using hgp)).trans hlp⟩)
      clear HSU HBG hcs hq
      go_wp2_with (go_at_call 62; refine (HB1.out).mono ?_; rintro e w' ⟨rfl, rfl⟩)
      go_region_held3 (fun wX => wX.cell? ⟨w.heap.size, 0, none⟩ = some (.slice A n c) ∧ wX.cell? ⟨w1.heap.size, 0, none⟩ = some (.pointer (some ⟨gp, 0, none⟩)) ∧ wX.cell? ⟨gp, 2, none⟩ = some (.int .i64 (L : Int))) (first | exact ⟨k0, kp, hlp⟩ | exact ⟨s0, s1, s2⟩ | go_keep) (first | (go_at_call 63; (with_reducible refine (HS2.out).mono ?_); rintro e w3 ⟨rfl, hq3⟩; obtain ⟨s0, s1, s2⟩ := hS3.out w3 (fun q hq => hq3.cell (p := q) (by simpa using hq))) | (go_at_call 63; (with_reducible refine (HS1.out _).mono ?_); rintro e w3 ⟨rfl, hq3⟩; obtain ⟨s0, s1, s2⟩ := hS3.out w3 (fun q hq => hq3.cell (p := q) (by simpa using hq))))
      go_wp2_with fail
      go_ret
      exact ⟨rfl, by first | exact hqa.out.trans (hq3.mono hqa.out.size) | exact hqa.out.drew.trans (hq3.mono hqa.out.size)⟩
end Go.Proofs.Ytffllkmaifjpfab
