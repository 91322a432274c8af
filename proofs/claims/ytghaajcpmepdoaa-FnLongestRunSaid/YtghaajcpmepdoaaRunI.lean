/-
  Contracts of chapter 10, the program's side: RunsOf, LongestRun, RunWords, RunSum.
-/
import Derived.Test.YtghaajcpmepdoaaRunS
import Derived.Test.YtghaajcpmepdoaaTri
import Derived.Test.YtghaajcpmepdoaaRoomI
import Derived.Test.YtghaajcpmepdoaaZimp
namespace Go.Proofs.Ytghaajcpmepdoaa
open Go.RowKit
set_option linter.unusedVariables false

/-! What the tally holds. -/
def tallyV (c l m g : Int) : Value := .agg #[.int .i64 c, .int .i64 l, .int .i64 m, .int .i64 g]
def lastOf (ws : List Int) : Nat → Int
  | 0 => -1
  | k + 1 => ws.getD k 0

set_option maxHeartbeats 800000 in
theorem tallied_same (c x : Int) (l m g : Nat) (w : World) (hx : x = c) (hl : l ≤ 100) (hm : m ≤ 100) (hg : g ≤ 100) :
    Calls Try.prog 48 #[.agg #[.int .i64 c, .int .i64 (l : Int), .int .i64 (m : Int), .int .i64 (g : Int)], .int .i64 x] w fun e w' => e = .returned (.agg #[.int .i64 x, .int .i64 ((l + 1 : Nat) : Int), .int .i64 (m : Int), .int .i64 ((max g (l + 1) : Nat) : Int)]) ∧ Below w.heap.size w w' := by
  subst hx
  by_cases hgl : g < l + 1
  · have hmx := hide (show max g (l + 1) = l + 1 by omega)
    have hh : (g : Int) < (l : Int) + 1 := by omega
    rw [hmx.out]
    clear hgl
    go_enter Try.func48, Try.ntmps48
    go_wp2_with fail
    exact bodyPost_ret (v := .agg #[.int .i64 x, .int .i64 ((l : Int) + 1), .int .i64 ((m : Int)), .int .i64 ((l : Int) + 1)]) (by simp [results, Try.results48, go_sem] <;> omega) rfl ⟨by simp <;> omega, by repeat (first | exact (al w _).alloc (by simp) _ | refine Below.drew ?_ | refine below_drewN ?_ _ | refine Below.setCell ?_ (by simp) _)⟩
  · have hmx := hide (show max g (l + 1) = g by omega)
    have hh : ¬ (g : Int) < (l : Int) + 1 := by omega
    rw [hmx.out]
    clear hgl
    go_enter Try.func48, Try.ntmps48
    go_wp2_with fail
    exact bodyPost_ret (v := .agg #[.int .i64 x, .int .i64 ((l : Int) + 1), .int .i64 ((m : Int)), .int .i64 ((g : Int))]) (by simp [results, Try.results48, go_sem] <;> omega) rfl ⟨by simp <;> omega, by repeat (first | exact (al w _).alloc (by simp) _ | refine Below.drew ?_ | refine below_drewN ?_ _ | refine Below.setCell ?_ (by simp) _)⟩

set_option maxHeartbeats 800000 in
theorem tallied_new (c x : Int) (l m g : Nat) (w : World) (hx : x ≠ c) (hl : l ≤ 100) (hm : m ≤ 100) (hg : g ≤ 100) :
    Calls Try.prog 48 #[.agg #[.int .i64 c, .int .i64 (l : Int), .int .i64 (m : Int), .int .i64 (g : Int)], .int .i64 x] w fun e w' => e = .returned (.agg #[.int .i64 x, .int .i64 ((1 : Nat) : Int), .int .i64 ((m + 1 : Nat) : Int), .int .i64 ((max g (1) : Nat) : Int)]) ∧ Below w.heap.size w w' := by
  have hd : (x != c) = true := by simpa using hx
  clear hx
  have hw1 := hide (show wrap64 ((m : Int) + 1) = (m : Int) + 1 from IntWalk.wrap64_in _ (by omega))
  by_cases hgl : g < 1
  · have hmx := hide (show max g (1) = 1 by omega)
    have hh : (g : Int) < 1 := by omega
    rw [hmx.out]
    clear hgl
    go_enter Try.func48, Try.ntmps48
    go_wp2_with fail
    exact bodyPost_ret (v := .agg #[.int .i64 x, .int .i64 (1), .int .i64 ((m : Int) + 1), .int .i64 (1)]) (by simp [results, Try.results48, go_sem] <;> omega) rfl ⟨by simp <;> omega, by repeat (first | exact (al w _).alloc (by simp) _ | refine Below.drew ?_ | refine below_drewN ?_ _ | refine Below.setCell ?_ (by simp) _)⟩
  · have hmx := hide (show max g (1) = g by omega)
    have hh : ¬ (g : Int) < 1 := by omega
    rw [hmx.out]
    clear hgl
    go_enter Try.func48, Try.ntmps48
    go_wp2_with fail
    exact bodyPost_ret (v := .agg #[.int .i64 x, .int .i64 (1), .int .i64 ((m : Int) + 1), .int .i64 ((g : Int))]) (by simp [results, Try.results48, go_sem] <;> omega) rfl ⟨by simp <;> omega, by repeat (first | exact (al w _).alloc (by simp) _ | refine Below.drew ?_ | refine below_drewN ?_ _ | refine Below.setCell ?_ (by simp) _)⟩

theorem lastOf_new {c : Int} {ws : List Int} {k : Nat} {x : Int} (hok : wordOk c ws = true) (hx : ws[k]? = some x) (h : x ≠ lastOf ws k) : newAt ws k = true := by
  cases k with
  | zero => rfl
  | succ k =>
    have hlt := (List.getElem?_eq_some_iff.1 hx).1
    have hy : ws[k]? = some (ws.getD k 0) := by rw [List.getD_eq_getElem?_getD, List.getElem?_eq_getElem (by omega)]; rfl
    exact newAt_yes (by omega) hx hy h
theorem lastOf_old {c : Int} {ws : List Int} {k : Nat} {x : Int} (hok : wordOk c ws = true) (hx : ws[k]? = some x) (h : x = lastOf ws k) : newAt ws k = false := by
  cases k with
  | zero =>
    have := (wordOk_yes hok).2.2.2 x (List.mem_of_getElem? hx)
    have h : x = -1 := h
    omega
  | succ k =>
    have hlt := (List.getElem?_eq_some_iff.1 hx).1
    have hy : ws[k]? = some (ws.getD k 0) := by rw [List.getD_eq_getElem?_getD, List.getElem?_eq_getElem (by omega)]; rfl
    exact newAt_no (by omega) hx hy h
theorem lastOf_next {ws : List Int} {k : Nat} {x : Int} (hx : ws[k]? = some x) : lastOf ws (k + 1) = x := by
  show ws.getD k 0 = x
  rw [List.getD_eq_getElem?_getD, hx]; rfl

set_option maxHeartbeats 1600000 in
theorem foldRuns_c (cl : Int) (A : Option Addr) (n c B : Nat) (ws : List Int) (w : World) (h : Ints w B A n c ws) (hB : B ≤ w.heap.size) (hok : wordOk cl ws = true) :
    Calls Try.prog 47 #[.slice A n c, .agg #[.int .i64 (-1), .int .i64 0, .int .i64 0, .int .i64 0], .func (.func 48) #[] #[]] w fun e w' => ∃ x : Int, e = .returned (.agg #[.int .i64 x, .int .i64 (nowTo ws n : Int), .int .i64 (runsTo ws n : Int), .int .i64 (streakTo ws n : Int)]) ∧ Below w.heap.size w w' := by
  have hl := hide h.len
  have hn6 : n ≤ 6 := by have := (wordOk_yes hok).2.2.1; have := h.len; omega
  have HN := hide (fun (k : Nat) (x : Int) (hx : ws[k]? = some x) (h : x ≠ lastOf ws k) => lastOf_new hok hx h)
  have HO := hide (fun (k : Nat) (x : Int) (hx : ws[k]? = some x) (h : x = lastOf ws k) => lastOf_old hok hx h)
  have HL := hide (fun (k : Nat) => show lastOf ws k = lastOf ws k from rfl)
  have H1 := hide (fun (k : Nat) => And.intro (nowTo_le ws k) (And.intro (runsTo_le ws k) (streakTo_le ws k)))
  clear hok
  obtain ⟨W0, hW0⟩ : ∃ W0, Hid (((w.alloc (.cells #[.int .i64 (-1), .int .i64 0, .int .i64 0, .int .i64 0] 43)).alloc (.cells #[.int .i64 0, .int .i64 0, .int .i64 0, .int .i64 0] 43)).alloc (.cells #[.int .i64 (-1), .int .i64 0, .int .i64 0, .int .i64 0] 43) = W0) := ⟨_, hide rfl⟩
  have hq0 := hide (show Below w.heap.size w W0 by rw [← hW0.out]; exact ((al w _).alloc (by simp) _).alloc (by simp; omega) _)
  have hz2 := hide (show QuaW W0 (w.heap.size + 2) (.int .i64 (-1)) (.int .i64 0) (.int .i64 0) (.int .i64 0) by
    rw [← hW0.out]
    have := QuaW.made ((w.alloc (.cells #[.int .i64 (-1), .int .i64 0, .int .i64 0, .int .i64 0] 43)).alloc (.cells #[.int .i64 0, .int .i64 0, .int .i64 0, .int .i64 0] 43)) (.int .i64 (-1)) (.int .i64 0) (.int .i64 0) (.int .i64 0) 43
    simpa using this)
  have hz1 := hide (show QuaW W0 (w.heap.size + 1) (.int .i64 0) (.int .i64 0) (.int .i64 0) (.int .i64 0) by
    rw [← hW0.out]
    have := (QuaW.made (w.alloc (.cells #[.int .i64 (-1), .int .i64 0, .int .i64 0, .int .i64 0] 43)) (.int .i64 0) (.int .i64 0) (.int .i64 0) (.int .i64 0) 43).alloc (.cells #[.int .i64 (-1), .int .i64 0, .int .i64 0, .int .i64 0] 43)
    simpa using this)
  go_enter Try.func47, Try.ntmps47
  go_wp2_with fail
  rw [hW0.out]
  clear hW0
  go_loopw [13] (fun i wr => ∃ k : Nat, ∃ x : Int, k ≤ n ∧ i = .int .i64 k ∧ Hid (x = lastOf ws k) ∧ Hid (QuaW wr (w.heap.size + 2) (.int .i64 x) (.int .i64 (nowTo ws k : Int)) (.int .i64 (runsTo ws k : Int)) (.int .i64 (streakTo ws k : Int))) ∧ Hid (QuaW wr (w.heap.size + 1) (.int .i64 0) (.int .i64 0) (.int .i64 0) (.int .i64 0)) ∧ Hid (Below w.heap.size w wr)) (fun i _ => n - (intOf i).toNat)
  case atStart => exact ⟨0, -1, Nat.zero_le _, rfl, hide rfl, hz2, hz1, hq0⟩
  case round =>
    clear hz2 hz1 hq0
    obtain ⟨k, x, hk, rfl, hx0, t2, t1, hb⟩ := hrel
    obtain ⟨a0, a1, a2, a3, b0, b1, b2, b3, hzl⟩ := t2.out
    by_cases hlt : k < n
    · obtain ⟨b, off, y, hA, hbB, hy, hcell⟩ := (h.below (hb.out.mono hB)).look hlt
      subst hA
      obtain ⟨m1, m2, m3⟩ := H1.out k
      obtain ⟨L, hL⟩ : ∃ L, Hid (nowTo ws k = L) := ⟨_, hide rfl⟩
      obtain ⟨M, hM⟩ : ∃ M, Hid (runsTo ws k = M) := ⟨_, hide rfl⟩
      obtain ⟨G, hG⟩ : ∃ G, Hid (streakTo ws k = G) := ⟨_, hide rfl⟩
      rw [hL.out] at a1 m1
      rw [hM.out] at a2 m2
      rw [hG.out] at a3 m3
      obtain ⟨L', M', G', hf, HT⟩ : ∃ L' M' G' : Nat, Hid (nowTo ws (k + 1) = L' ∧ runsTo ws (k + 1) = M' ∧ streakTo ws (k + 1) = G') ∧ Hid (Calls Try.prog 48 #[.agg #[.int .i64 x, .int .i64 (L : Int), .int .i64 (M : Int), .int .i64 (G : Int)], .int .i64 y] wr fun e w' => e = .returned (.agg #[.int .i64 y, .int .i64 (L' : Int), .int .i64 (M' : Int), .int .i64 (G' : Int)]) ∧ Below wr.heap.size wr w') := by
        by_cases hxy : y = x
        · have hnw := HO.out k y hy.out (by rw [hxy]; exact hx0.out)
          refine ⟨_, _, _, hide ⟨?_, ?_, ?_⟩, hide (tallied_same x y L M G wr hxy (by omega) (by omega) (by omega))⟩
          · unfold nowTo; rw [hnw, ← hL.out]; rfl
          · unfold runsTo; rw [hnw, ← hM.out]; rfl
          · unfold streakTo nowTo; rw [hnw, ← hG.out, ← hL.out]; rfl
        · have hnw := HN.out k y hy.out (by intro e; exact hxy (e.trans hx0.out.symm))
          refine ⟨_, _, _, hide ⟨?_, ?_, ?_⟩, hide (tallied_new x y L M G wr hxy (by omega) (by omega) (by omega))⟩
          · unfold nowTo; rw [hnw]; rfl
          · unfold runsTo; rw [hnw, ← hM.out]; rfl
          · unfold streakTo nowTo; rw [hnw, ← hG.out]; rfl
      have hnx := hide (lastOf_next hy.out)
      go_wp2_with fail
      refine HT.out.mono ?_
      rintro e w1 ⟨rfl, hq⟩
      have t2c := hide (((((t2.out.up hq).set0 (.int .i64 y)).set1 (.int .i64 (L' : Int))).set2 (.int .i64 (M' : Int))).set3 (.int .i64 (G' : Int)))
      have t1c := hide (((((t1.out.up hq).other (a := ⟨w.heap.size + 2, 0, none⟩) (by simp) (.int .i64 y)).other (a := ⟨w.heap.size + 2, 1, none⟩) (by simp) (.int .i64 (L' : Int))).other (a := ⟨w.heap.size + 2, 2, none⟩) (by simp) (.int .i64 (M' : Int))).other (a := ⟨w.heap.size + 2, 3, none⟩) (by simp) (.int .i64 (G' : Int)))
      have hb3 := hide (((((hb.out.trans (hq.mono hb.out.size)).setCell (p := ⟨w.heap.size + 2, 0, none⟩) (Nat.le_add_right _ _) (.int .i64 y)).setCell (p := ⟨w.heap.size + 2, 1, none⟩) (Nat.le_add_right _ _) (.int .i64 (L' : Int))).setCell (p := ⟨w.heap.size + 2, 2, none⟩) (Nat.le_add_right _ _) (.int .i64 (M' : Int))).setCell (p := ⟨w.heap.size + 2, 3, none⟩) (Nat.le_add_right _ _) (.int .i64 (G' : Int)))
      have t4 := t2.out.up hq
      obtain ⟨c0, c1, c2, c3, d0, d1, d2, d3, hdl⟩ := t4
      clear hq HT hb t2 t1 a0 a1 a2 a3
      go_wp2_with fail
      go_roundw
      case rel => exact ⟨k + 1, y, by omega, by go_num, hide hnx.out.symm, hide (by rw [hf.out.1, hf.out.2.1, hf.out.2.2]; exact t2c.out), t1c, hb3⟩
      case measure => simp [intOf]; omega
    · obtain rfl : k = n := by omega
      obtain ⟨e0, e1, e2, e3, f0, f1, f2, f3, hel⟩ := t1.out
      go_wp2_with fail
      exact bodyPost_ret (v := .agg #[.int .i64 x, .int .i64 (nowTo ws k : Int), .int .i64 (runsTo ws k : Int), .int .i64 (streakTo ws k : Int)]) (by simp [results, Try.results47, go_sem, e0, e1, e2, e3]) rfl ⟨x, rfl, (((hb.out.setCell (Nat.le_succ _) _).setCell (Nat.le_succ _) _).setCell (Nat.le_succ _) _).setCell (Nat.le_succ _) _⟩

set_option maxHeartbeats 800000 in
theorem runsSeen_c (cl : Int) (A : Option Addr) (n c B : Nat) (ws : List Int) (w : World) (h : Ints w B A n c ws) (hB : B ≤ w.heap.size) (hok : wordOk cl ws = true) :
    Calls Try.prog 33 #[.slice A n c] w fun e w' => ∃ x : Int, e = .returned (.agg #[.int .i64 x, .int .i64 (nowTo ws n : Int), .int .i64 (runsTo ws n : Int), .int .i64 (streakTo ws n : Int)]) ∧ Below w.heap.size w w' := by
  have ht := hide (QuaW.made w (.int .i64 0) (.int .i64 0) (.int .i64 0) (.int .i64 0) 43)
  have HF := hide (foldRuns_c cl A n c B ws (w.alloc (.cells #[.int .i64 0, .int .i64 0, .int .i64 0, .int .i64 0] 43)) (h.below ((al w _).mono hB)) (by simp; omega) hok)
  clear hok h
  go_enter Try.func33, Try.ntmps33
  go_wp2_with fail
  refine HF.out.mono ?_
  rintro e w1 ⟨x, rfl, hq⟩
  obtain ⟨c0, c1, c2, c3, d0, d1, d2, d3, hdl⟩ := ht.out.up hq
  have hb := hide (upB (al w _) hq)
  clear hq HF
  go_wp2_with fail
  exact bodyPost_ret (v := .agg #[.int .i64 x, .int .i64 (nowTo ws n : Int), .int .i64 (runsTo ws n : Int), .int .i64 (streakTo ws n : Int)]) (by simp [results, Try.results33, go_sem, c0, c1, c2, c3]) rfl ⟨x, rfl, (((hb.out.setCell (Nat.le_refl _) _).setCell (Nat.le_refl _) _).setCell (Nat.le_refl _) _).setCell (Nat.le_refl _) _⟩

set_option maxHeartbeats 800000 in
theorem runsOf_impl (c : Int) (A : Option Addr) (n cc B : Nat) (ws : List Int) (w : World) (h : Ints w B A n cc ws) (hB : B ≤ w.heap.size) :
    Calls Try.prog 12 #[.int .i64 c, .slice A n cc] w fun e w' => e = .returned (.int .i64 (runsF c ws)) ∧ Below w.heap.size w w' := by
  have HO := hide (wordOk_impl0 c A n cc B ws w h)
  cases hok : wordOk c ws with
  | false =>
    have he := hide (show runsF c ws = -1 by unfold runsF; rw [hok]; rfl)
    rw [hok] at HO
    clear hok
    go_enter Try.func12, Try.ntmps12
    go_wp2_with fail
    refine HO.out.mono ?_
    rintro e w' ⟨rfl, rfl⟩
    go_wp2_with fail
    go_ret
    exact ⟨ret_int he.out.symm, Below.refl _ _⟩
  | true =>
    have he := hide (show runsF c ws = (runsTo ws n : Int) by unfold runsF; rw [hok, h.len]; rfl)
    have HS := hide (runsSeen_c c A n cc B ws w h hB hok)
    rw [hok] at HO
    clear hok
    go_enter Try.func12, Try.ntmps12
    go_wp2_with fail
    refine HO.out.mono ?_
    rintro e w' ⟨rfl, rfl⟩
    go_wp2_with fail
    refine HS.out.mono ?_
    rintro e w1 ⟨x, rfl, hq⟩
    have hfd : ∀ w : World, (Instr.field 43 (.agg #[.int .i64 x, .int .i64 (nowTo ws n : Int), .int .i64 (runsTo ws n : Int), .int .i64 (streakTo ws n : Int)]) 2).run Try.prog w = .ok (.int .i64 (runsTo ws n : Int)) w := fun _ => by kernel_rfl
    go_wp2_with fail
    go_ret
    exact ⟨ret_int he.out.symm, hq⟩

set_option maxHeartbeats 800000 in
theorem longestRun_impl (c : Int) (A : Option Addr) (n cc B : Nat) (ws : List Int) (w : World) (h : Ints w B A n cc ws) (hB : B ≤ w.heap.size) :
    Calls Try.prog 19 #[.int .i64 c, .slice A n cc] w fun e w' => e = .returned (.int .i64 (longF c ws)) ∧ Below w.heap.size w w' := by
  have HO := hide (wordOk_impl0 c A n cc B ws w h)
  cases hok : wordOk c ws with
  | false =>
    have he := hide (show longF c ws = -1 by unfold longF; rw [hok]; rfl)
    rw [hok] at HO
    clear hok
    go_enter Try.func19, Try.ntmps19
    go_wp2_with fail
    refine HO.out.mono ?_
    rintro e w' ⟨rfl, rfl⟩
    go_wp2_with fail
    go_ret
    exact ⟨ret_int he.out.symm, Below.refl _ _⟩
  | true =>
    have he := hide (show longF c ws = (streakTo ws n : Int) by unfold longF; rw [hok, h.len]; rfl)
    have HS := hide (runsSeen_c c A n cc B ws w h hB hok)
    rw [hok] at HO
    clear hok
    go_enter Try.func19, Try.ntmps19
    go_wp2_with fail
    refine HO.out.mono ?_
    rintro e w' ⟨rfl, rfl⟩
    go_wp2_with fail
    refine HS.out.mono ?_
    rintro e w1 ⟨x, rfl, hq⟩
    have hfd : ∀ w : World, (Instr.field 43 (.agg #[.int .i64 x, .int .i64 (nowTo ws n : Int), .int .i64 (runsTo ws n : Int), .int .i64 (streakTo ws n : Int)]) 3).run Try.prog w = .ok (.int .i64 (streakTo ws n : Int)) w := fun _ => by kernel_rfl
    go_wp2_with fail
    go_ret
    exact ⟨ret_int he.out.symm, hq⟩

/-! Words of two colours by their runs: the cuts of each colour. -/
def cutN (d r : Nat) : Int := if d = 0 ∧ r = 0 then 1 else if r = 0 ∨ d < r then 0 else (restL (d - 1)).getD (r - 1) 0
theorem cutN_far {d r : Nat} (h : d < r) : cutN d r = 0 := by
  unfold cutN
  rw [if_neg (by omega), if_pos (.inr h)]
def wordsBy (f s r : Nat) : Int := if r = 0 then cutN f (r - r / 2) * cutN s (r / 2) else cutN f (r - r / 2) * cutN s (r / 2) + cutN s (r - r / 2) * cutN f (r / 2)
theorem wordsBy_cnt : allPair (fun f s => (List.range 14).all fun r => decide (wordsBy f s r = runN f s r)) = true := by kernel_rfl
theorem cutN_cnt : ((List.range 7).all fun d => (List.range 14).all fun r => decide (0 ≤ cutN d r ∧ cutN d r ≤ 20)) = true := by kernel_rfl
theorem cutN_bd {d r : Nat} (h : d ≤ 6) : 0 ≤ cutN d r ∧ cutN d r ≤ 20 := by
  by_cases hr : r < 14
  · exact of_decide_eq_true (all_range (all_range cutN_cnt (k := d) (by omega)) (k := r) hr)
  · rw [cutN_far (by omega)]; decide
theorem wordsBy_eq {f s r : Nat} (h : f + s ≤ 6) : wordsBy f s r = runN f s r := by
  by_cases hr : r < 14
  · exact of_decide_eq_true (all_range (allPair_at wordsBy_cnt h) (k := r) hr)
  · unfold wordsBy
    rw [if_neg (by omega), cutN_far (d := s) (r := r / 2) (by omega), cutN_far (d := f) (r := r / 2) (by omega), Int.mul_zero, Int.mul_zero]
    unfold runN
    split
    · rw [if_neg (by omega)]; rfl
    · rw [if_pos (by omega)]; rfl
theorem mul20 {a b : Int} (ha : 0 ≤ a ∧ a ≤ 20) (hb : 0 ≤ b ∧ b ≤ 20) : 0 ≤ a * b ∧ a * b ≤ 400 :=
  ⟨Int.mul_nonneg ha.1 hb.1, Int.le_trans (Int.mul_le_mul ha.2 hb.2 hb.1 (by decide)) (by decide)⟩

theorem own_lit2 {w : World} {x y : Int} (hx : (Lit.int .i64 x).wf = true) (hy : (Lit.int .i64 y).wf = true) : Own (w.alloc (.cells #[.int .i64 x, .int .i64 y] 3)) w.heap.size (.slice (some ⟨w.heap.size, 0, none⟩) 2 2) [x, y] :=
  ⟨⟨rfl, .inr ⟨w.heap.size, 2, #[.int .i64 x, .int .i64 y], rfl, Nat.le_refl _, heap_alloc_new w _, Nat.le_refl _, by unfold maxLen; omega, rfl, rfl⟩⟩, fun z hz => by simp at hz; rcases hz with rfl | rfl; exact hx; exact hy⟩

set_option maxHeartbeats 800000 in
theorem bothCountsOk_c (f s : Int) (w : World) (wf0 : (Lit.int .i64 f).wf = true) (wf1 : (Lit.int .i64 s).wf = true) :
    Calls Try.prog 39 #[.int .i64 f, .int .i64 s] w fun e w' => e = .returned (.bool (pairOk f s)) ∧ Below w.heap.size w w' := by
  have HC := hide (countRowOk_impl0 2 _ _ _ _ [f, s] _ (own_lit2 (w := w) wf0 wf1).ints)
  have hp := hide (pairOk_row f s)
  rw [hp.out] at HC
  clear hp
  go_enter Try.func39, Try.ntmps39
  go_wp2_with fail
  refine HC.out.mono ?_
  rintro e w1 ⟨rfl, rfl⟩
  go_wp2_with fail
  go_ret
  exact ⟨rfl, al w _⟩

set_option maxHeartbeats 800000 in
theorem cutWays_c (d r : Nat) (w : World) (h6 : d ≤ 6) :
    Calls Try.prog 40 #[.int .i64 (d : Int), .int .i64 (r : Int)] w fun e w' => e = .returned (.int .i64 (cutN d r)) ∧ Below w.heap.size w w' := by
  by_cases hr0 : r = 0
  · subst hr0
    by_cases hd0 : d = 0
    · subst hd0
      go_enter Try.func40, Try.ntmps40
      go_wp2_with fail
      go_ret
      exact ⟨rfl, Below.refl _ _⟩
    · have he := hide (show cutN d 0 = 0 by unfold cutN; rw [if_neg (by omega), if_pos (by omega)])
      have hb : ((d : Int) == 0) = false := by simp; omega
      go_enter Try.func40, Try.ntmps40
      go_wp2_with fail
      go_ret
      exact ⟨ret_int he.out.symm, Below.refl _ _⟩
  · by_cases hdr : d < r
    · have he := hide (cutN_far hdr)
      have hb : ((r : Int) == 0) = false := by simp; omega
      have hdr2 : (d : Int) < (r : Int) := by omega
      by_cases hd0 : d = 0
      · subst hd0
        go_enter Try.func40, Try.ntmps40
        go_wp2_with fail
        go_ret
        exact ⟨ret_int he.out.symm, Below.refl _ _⟩
      · have hbd : ((d : Int) == 0) = false := by simp; omega
        go_enter Try.func40, Try.ntmps40
        go_wp2_with fail
        go_ret
        exact ⟨ret_int he.out.symm, Below.refl _ _⟩
    · have he := hide (show cutN d r = (restL (d - 1)).getD (r - 1) 0 by unfold cutN; rw [if_neg (by omega), if_neg (by omega)])
      obtain ⟨D, rfl⟩ : ∃ D, d = D + 1 := ⟨d - 1, by omega⟩
      obtain ⟨R, rfl⟩ : ∃ R, r = R + 1 := ⟨r - 1, by omega⟩
      obtain ⟨x, hxD⟩ : ∃ x : Int, x = ((D + 1 : Nat) : Int) := ⟨_, rfl⟩
      obtain ⟨y, hyR⟩ : ∃ y : Int, y = ((R + 1 : Nat) : Int) := ⟨_, rfl⟩
      have hx1 : x - 1 = (D : Int) := by omega
      have hy1 : y - 1 = (R : Int) := by omega
      have hbx : (x == 0) = false := by simp; omega
      have hby : (y == 0) = false := by simp; omega
      have hxy : ¬ x < y := by omega
      have hxl : x ≤ 6 ∧ 0 < x := by omega
      have hyl : y ≤ 6 ∧ 0 < y := by omega
      have hRD : R ≤ D := by omega
      rw [← hxD, ← hyR]
      clear hxD hyR hr0 hdr
      have HC := hide (choicesRow_c D w (by omega))
      go_enter Try.func40, Try.ntmps40
      go_wp2_with (go_at_call 50; refine HC.out.mono ?_; rintro e w1 ⟨A', n', c', rfl, ho, hq⟩; have hRn : R < n' := (show R < n' by rw [ho.len]; have := restL_len D; omega); obtain ⟨b, off, z, rfl, hb, hz, hcell⟩ := ho.ints.look hRn)
      go_ret
      exact ⟨ret_int (by rw [he.out]; show z = (restL D).getD R 0; rw [List.getD_eq_getElem?_getD, hz.out]; rfl), hq⟩

set_option maxHeartbeats 1600000 in
theorem runWords_impl (f s r : Int) (w : World) (wf0 : (Lit.int .i64 f).wf = true) (wf1 : (Lit.int .i64 s).wf = true) (wf2 : (Lit.int .i64 r).wf = true) :
    Calls Try.prog 22 #[.int .i64 f, .int .i64 s, .int .i64 r] w fun e w' => e = .returned (.int .i64 (runW f s r)) ∧ Below w.heap.size w w' := by
  have HB := hide (bothCountsOk_c f s w wf0 wf1)
  have hR := i64_wf wf2
  clear wf0 wf1 wf2
  cases hok : pairOk f s with
  | false =>
    have he := hide (show runW f s r = -1 by unfold runW; rw [hok]; rfl)
    rw [hok] at HB
    clear hok
    go_enter Try.func22, Try.ntmps22
    go_wp2_with (first | (go_at_call 39; refine HB.out.mono ?_; rintro e w' ⟨rfl, hq⟩))
    go_ret
    exact ⟨ret_int he.out.symm, hq⟩
  | true =>
    rw [hok] at HB
    by_cases hr : r < 0
    · have he := hide (show runW f s r = -1 by unfold runW; rw [decide_eq_false (show ¬ 0 ≤ r by omega), Bool.and_false]; rfl)
      clear hok
      go_enter Try.func22, Try.ntmps22
      go_wp2_with (first | (go_at_call 39; refine HB.out.mono ?_; rintro e w' ⟨rfl, hq⟩))
      go_ret
      exact ⟨ret_int he.out.symm, hq⟩
    · obtain ⟨p1, p2, p3⟩ : 0 ≤ f ∧ 0 ≤ s ∧ f + s ≤ 6 := of_decide_eq_true hok
      obtain ⟨F, rfl⟩ : ∃ F : Nat, f = (F : Int) := ⟨f.toNat, by omega⟩
      obtain ⟨S, rfl⟩ : ∃ S : Nat, s = (S : Int) := ⟨s.toNat, by omega⟩
      obtain ⟨N, rfl⟩ : ∃ N : Nat, r = (N : Int) := ⟨r.toNat, by omega⟩
      have he := hide (show runW (F : Int) (S : Int) (N : Int) = wordsBy F S N by
        rw [wordsBy_eq (show F + S ≤ 6 by omega)]; unfold runW; rw [hok, decide_eq_true (by omega)]; rfl)
      obtain ⟨H, hH⟩ : ∃ H : Nat, H = N / 2 := ⟨_, rfl⟩
      obtain ⟨M, hM⟩ : ∃ M : Nat, M = N - H := ⟨_, rfl⟩
      have hq2 : (N : Int) / 2 = (H : Int) := by omega
      have hq3 : (N : Int) - (H : Int) = (M : Int) := by omega
      have hF6 : F ≤ 6 := by omega
      have hS6 : S ≤ 6 := by omega
      have C1 := hide (fun (W : World) (q : Below w.heap.size w W) => show Calls Try.prog 40 #[.int .i64 (F : Int), .int .i64 (M : Int)] W (fun e w' => e = .returned (.int .i64 (cutN F M)) ∧ Below w.heap.size w w') from (cutWays_c F M W hF6).mono (fun e w' h => ⟨h.1, q.trans (h.2.mono q.size)⟩))
      have C2 := hide (fun (W : World) (q : Below w.heap.size w W) => show Calls Try.prog 40 #[.int .i64 (S : Int), .int .i64 (H : Int)] W (fun e w' => e = .returned (.int .i64 (cutN S H)) ∧ Below w.heap.size w w') from (cutWays_c S H W hS6).mono (fun e w' h => ⟨h.1, q.trans (h.2.mono q.size)⟩))
      have C3 := hide (fun (W : World) (q : Below w.heap.size w W) => show Calls Try.prog 40 #[.int .i64 (S : Int), .int .i64 (M : Int)] W (fun e w' => e = .returned (.int .i64 (cutN S M)) ∧ Below w.heap.size w w') from (cutWays_c S M W hS6).mono (fun e w' h => ⟨h.1, q.trans (h.2.mono q.size)⟩))
      have C4 := hide (fun (W : World) (q : Below w.heap.size w W) => show Calls Try.prog 40 #[.int .i64 (F : Int), .int .i64 (H : Int)] W (fun e w' => e = .returned (.int .i64 (cutN F H)) ∧ Below w.heap.size w w') from (cutWays_c F H W hF6).mono (fun e w' h => ⟨h.1, q.trans (h.2.mono q.size)⟩))
      have B1 := hide (mul20 (cutN_bd (r := M) hF6) (cutN_bd (r := H) hS6))
      have B2 := hide (mul20 (cutN_bd (r := M) hS6) (cutN_bd (r := H) hF6))
      have W1 := hide (show wrap64 (cutN F M * cutN S H) = cutN F M * cutN S H from IntWalk.wrap64_in _ (by have := B1.out; omega))
      have W2 := hide (show wrap64 (cutN S M * cutN F H) = cutN S M * cutN F H from IntWalk.wrap64_in _ (by have := B2.out; omega))
      have W3 := hide (show wrap64 (cutN F M * cutN S H + cutN S M * cutN F H) = cutN F M * cutN S H + cutN S M * cutN F H from IntWalk.wrap64_in _ (by have := B1.out; have := B2.out; omega))
      have hv := hide (show wordsBy F S N = if N = 0 then cutN F M * cutN S H else cutN F M * cutN S H + cutN S M * cutN F H by unfold wordsBy; rw [hM, hH])
      have HE := hide (he.out.trans hv.out)
      clear hok p1 p2 p3
      clear he hv hM hH
      by_cases hN0 : N = 0
      · subst hN0
        obtain rfl : H = 0 := by omega
        obtain rfl : M = 0 := by omega
        rw [HE.out, if_pos rfl]
        replace C1 := hide (show ∀ W : World, Below w.heap.size w W → Calls Try.prog 40 #[.int .i64 (F : Int), .int .i64 0] W (fun e w' => e = .returned (.int .i64 (cutN F 0)) ∧ Below w.heap.size w w') from C1.out)
        replace C2 := hide (show ∀ W : World, Below w.heap.size w W → Calls Try.prog 40 #[.int .i64 (S : Int), .int .i64 0] W (fun e w' => e = .returned (.int .i64 (cutN S 0)) ∧ Below w.heap.size w w') from C2.out)
        clear C3 C4 HE
        go_enter Try.func22, Try.ntmps22
        go_wp2_with (first | (go_at_call 39; refine HB.out.mono ?_; rintro e w' ⟨rfl, hq⟩) | (go_at_call 40; (first | with_reducible refine (C1.out _ ?_).mono ?_ | with_reducible refine (C2.out _ ?_).mono ?_); (focus (assumption)); rintro e w1 ⟨rfl, hq1⟩))
        rw [W1.out]
        go_ret
        exact ⟨rfl, by assumption⟩
      · have hNb : ((N : Int) == 0) = false := by simp; omega
        rw [HE.out, if_neg hN0]
        go_enter Try.func22, Try.ntmps22
        go_wp2_with (first | (go_at_call 39; refine HB.out.mono ?_; rintro e w' ⟨rfl, hq⟩) | (go_at_call 40; (first | with_reducible refine (C1.out _ ?_).mono ?_ | with_reducible refine (C2.out _ ?_).mono ?_ | with_reducible refine (C3.out _ ?_).mono ?_ | with_reducible refine (C4.out _ ?_).mono ?_); (focus (assumption)); rintro e w1 ⟨rfl, hq1⟩))
        rw [W1.out, W2.out, W3.out]
        go_ret
        exact ⟨rfl, by assumption⟩

theorem run_sum_bd {f s k : Nat} (h : f + s ≤ 6) (hk : k ≤ 7) : 0 ≤ runSumTo f s k ∧ runSumTo f s k ≤ 1000 := by
  have a := allPair_at run_cnt h
  simp only [Bool.and_eq_true] at a
  have b1 := of_decide_eq_true (all_range a.1.1.2 (k := k) (by omega))
  exact ⟨b1.2.2.1, b1.2.2.2⟩

set_option maxHeartbeats 1600000 in
theorem runSum_impl (f s : Int) (w : World) (wf0 : (Lit.int .i64 f).wf = true) (wf1 : (Lit.int .i64 s).wf = true) :
    Calls Try.prog 30 #[.int .i64 f, .int .i64 s] w fun e w' => e = .returned (.int .i64 (runS f s)) ∧ Below w.heap.size w w' := by
  have HB := hide (bothCountsOk_c f s w wf0 wf1)
  cases hok : pairOk f s with
  | false =>
    have he := hide (show runS f s = -1 by unfold runS; rw [hok]; rfl)
    rw [hok] at HB
    clear hok
    go_enter Try.func30, Try.ntmps30
    go_wp2_with (first | (go_at_call 39; refine HB.out.mono ?_; rintro e w' ⟨rfl, hq⟩))
    go_ret
    exact ⟨ret_int he.out.symm, hq⟩
  | true =>
    rw [hok] at HB
    obtain ⟨p1, p2, p3⟩ : 0 ≤ f ∧ 0 ≤ s ∧ f + s ≤ 6 := of_decide_eq_true hok
    obtain ⟨F, rfl⟩ : ∃ F : Nat, f = (F : Int) := ⟨f.toNat, by omega⟩
    obtain ⟨S, rfl⟩ : ∃ S : Nat, s = (S : Int) := ⟨s.toNat, by omega⟩
    have he := hide (show runS (F : Int) (S : Int) = runSumTo F S (F + S + 1) by unfold runS; rw [hok]; rfl)
    have HW := hide (fun (k : Nat) (hk : k ≤ 6) (W : World) => show Calls Try.prog 22 #[.int .i64 (F : Int), .int .i64 (S : Int), .int .i64 (k : Int)] W (fun e w' => e = .returned (.int .i64 (runN F S k)) ∧ Below W.heap.size W w') from by
      have := runWords_impl (F : Int) (S : Int) (k : Int) W (wf_i64 (by omega)) (wf_i64 (by omega)) (wf_i64 (by omega))
      rw [show runW (F : Int) (S : Int) (k : Int) = runN F S k by unfold runW; rw [hok, decide_eq_true (by omega)]; rfl] at this
      exact this)
    have HF := hide (fun (k : Nat) (hk : k ≤ 6) => run_facts (f := F) (s := S) (k := k) (by omega) hk)
    have HB2 := hide (fun (k : Nat) (hk : k ≤ 7) => run_sum_bd (f := F) (s := S) (k := k) (by omega) hk)
    have HS := hide (fun (k : Nat) => show runSumTo F S (k + 1) = runSumTo F S k + (k : Int) * runN F S k from rfl)
    have hFS : F + S ≤ 6 := by omega
    clear hok p1 p2 p3 wf0 wf1
    go_enter Try.func30, Try.ntmps30
    go_wp2_with (first | (go_at_call 39; refine HB.out.mono ?_; rintro e w' ⟨rfl, hq⟩))
    go_loopw [5, 15] (fun t i wr => ∃ k : Nat, ∃ T : Int, k ≤ F + S + 1 ∧ i = .int .i64 k ∧ t = .int .i64 T ∧ Hid (T = runSumTo F S k) ∧ Hid (0 ≤ T ∧ T ≤ 1000) ∧ Hid (Below w.heap.size w wr)) (fun _ i _ => F + S + 1 - (intOf i).toNat)
    case atStart => exact ⟨0, 0, Nat.zero_le _, rfl, rfl, hide rfl, hide (by decide), hide hq⟩
    case round =>
      obtain ⟨k, T, hk, rfl, rfl, hT, hTb, hb⟩ := hrel
      by_cases hlt : k < F + S + 1
      · have hlt2 : (k : Int) < (F : Int) + (S : Int) + 1 := by omega
        have hk6 : k ≤ 6 := by omega
        obtain ⟨f1, f2, f3, f4, _⟩ := HF.out k hk6
        have hTn := hide (show T + (k : Int) * runN F S k = runSumTo F S (k + 1) by rw [HS.out, hT.out])
        obtain ⟨R, hR⟩ : ∃ R, Hid (runN F S k = R) := ⟨_, hide rfl⟩
        have HC := hide (HW.out k hk6 wr)
        rw [hR.out] at HC hTn f1 f2
        obtain ⟨P, hP⟩ : ∃ P, Hid ((k : Int) * R = P) := ⟨_, hide rfl⟩
        have hPb : 0 ≤ P ∧ P ≤ 120 := by
          rw [← hP.out]
          exact ⟨Int.mul_nonneg (by omega) f1, Int.le_trans (Int.mul_le_mul (show (k : Int) ≤ 6 by omega) f2 f1 (by decide)) (by decide)⟩
        have hW1 := hide (show wrap64 ((k : Int) * R) = P by rw [hP.out]; exact IntWalk.wrap64_in _ (by omega))
        rw [hP.out] at hTn
        have hW2 := hide (show wrap64 (T + P) = T + P from IntWalk.wrap64_in _ (by have := hTb.out; omega))
        have hTb2 := hide (show 0 ≤ T + P ∧ T + P ≤ 1000 by rw [hTn.out]; exact HB2.out (k + 1) (by omega))
        go_wp2_with fail
        refine HC.out.mono ?_
        rintro e w1 ⟨rfl, hq1⟩
        have hb2 := hide (hb.out.trans (hq1.mono hb.out.size))
        go_wp2_with fail
        rw [hW1.out, hW2.out]
        go_roundw
        case rel => exact ⟨k + 1, T + P, by omega, by go_num, rfl, hTn, hTb2, hb2⟩
        case measure => simp [intOf]; omega
      · obtain rfl : k = F + S + 1 := by omega
        go_wp2_with fail
        go_ret
        exact ⟨ret_int (by rw [he.out, hT.out]), hb.out⟩
end Go.Proofs.Ytghaajcpmepdoaa
