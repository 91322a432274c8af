/-
  Words, plain lemmas and contracts that belong together, joined into one file.
-/
import Derived.Test.YtoafpokcbbncfaaDoorZdsk
import Derived.Test.YtoafpokcbbncfaaDoorZdd
import Derived.StillTailTactics
import Derived.Test.YtoafpokcbbncfaaDoorZpd
namespace Go.Proofs.YtoafpokcbbncfaaDoor
open Go.RowKit
set_option linter.unusedVariables false

theorem done_kind {d : Dsk} {q : Ded} (h : doneB d q = true) : kindB q = true := by
  obtain ⟨k, a, b⟩ := q
  unfold doneB at h
  rw [Bool.or_eq_true] at h
  rcases h with h | h
  · unfold backB at h
    simp only [Bool.and_eq_true, decide_eq_true_eq] at h
    obtain ⟨⟨rfl, rfl, rfl⟩, _⟩ := h
    rfl
  · unfold newB at h
    rw [Bool.and_eq_true] at h
    have h := h.1
    unfold madeP at h
    unfold kindB
    simp only at h ⊢
    by_cases h0 : k = 0
    · subst h0; simp
    · by_cases h1 : k = 1
      · subst h1
        by_cases hb : b = 0
        · subst hb; simp
        · simp [hb, noPlc_no] at h
      · by_cases h2 : k = 2
        · subst h2
          by_cases hb : b = 0
          · subst hb; simp
          · simp [hb, noPlc_no] at h
        · by_cases h3 : k = 3
          · subst h3
            by_cases ha : a = 0 ∧ b = 0
            · obtain ⟨rfl, rfl⟩ := ha; simp
            · simp [ha, noPlc_no] at h
          · simp [h0, h1, h2, h3, noPlc_no] at h
theorem kind_no {d : Dsk} {q : Ded} (h : kindB q = false) : deskB d q = false := by
  cases hd : doneB d q with
  | false => unfold deskB; rw [hd, Bool.and_false]
  | true => rw [done_kind hd] at h; cases h
theorem kind_nums {q : Ded} (h : kindB q = true) : (0 ≤ q.k ∧ q.k ≤ 4) ∧ (q.k ≠ 0 → q.b = 0) ∧ (q.k = 3 → q.a = 0) ∧ (q.k = 4 → q.a = 0) := by
  obtain ⟨k, a, b⟩ := q
  unfold kindB at h
  simp only at h ⊢
  simp at h
  omega
theorem back_eq {d : Dsk} (hok : deskOk d = true) : deskB d ⟨4, 0, 0⟩ = (!d.past.isEmpty) ∧ deskX d ⟨4, 0, 0⟩ = (if d.past = [] then d else ⟨d.past.getLast?.getD noPlc, d.past.dropLast⟩) := by
  have hn : newB d ⟨4, 0, 0⟩ = false := by
    unfold newB
    rw [show madeP d.now ⟨4, 0, 0⟩ = noPlc by unfold madeP; simp, noPlc_no]
    rfl
  have hb : backB d ⟨4, 0, 0⟩ = (!d.past.isEmpty) := by unfold backB; simp
  refine ⟨by unfold deskB doneB; rw [hok, hn, hb]; simp, ?_⟩
  unfold deskX deskD
  rw [if_pos hok, hb, hn]
  by_cases hp : d.past = []
  · rw [if_pos hp, hp]; rfl
  · rw [if_neg hp]
    have : d.past.isEmpty = false := by
      cases hc : d.past with
      | nil => exact absurd hc hp
      | cons x r => rfl
    rw [this]; rfl
theorem new_eq {d : Dsk} {q : Ded} (hok : deskOk d = true) (hk : kindB q = true) (h3 : q.k ≤ 3) : deskB d q = afterB d.now q ∧ (afterB d.now q = true → deskX d q = ⟨afterP d.now q, pushP d.past d.now⟩) := by
  obtain ⟨⟨h0, _⟩, hb, ha, _⟩ := kind_nums hk
  obtain ⟨e1, e2⟩ := after_new (deskOk_yes hok).2.1 h0 h3 hb ha
  have hn : newB d q = afterB d.now q := by rw [e2]; rfl
  have hbk : backB d q = false := by unfold backB; rw [decide_eq_false (by omega)]; rfl
  refine ⟨by unfold deskB doneB; rw [hok, hbk, hn]; rfl, fun h => ?_⟩
  unfold deskX deskD
  rw [if_pos hok, hbk, hn, h, e1]
  rfl
theorem pushP_drop {ps : List Plc} {p : Plc} {H : Nat} (h : H = ps.length + 1 - 8) (h8 : ps.length ≤ 8) : pushP ps p = (ps ++ [p]).drop H := by
  unfold pushP
  by_cases hc : 8 < (ps ++ [p]).length
  · rw [if_pos hc]
    rw [List.length_append] at hc
    simp only [List.length_cons, List.length_nil] at hc
    rw [show H = 1 by omega]
  · rw [if_neg hc]
    rw [List.length_append] at hc
    simp only [List.length_cons, List.length_nil] at hc
    rw [show H = 0 by omega, List.drop_zero]
theorem GrP.setNew {lo : Nat} {w w1 : World} {a : Addr} (h : GrP lo w w1) (ha : w.heap.size ≤ a.block) (x : Value) : GrP lo w (w1.setCell a x) :=
  ⟨h.os, h.tape, h.output, by rw [World.size_setCell]; exact h.size, fun k hk ho => (Below.heap_setCell w1 a x k (by omega)).trans (h.block k hk ho)⟩
theorem placeAfter_c (v : Value) (p : Plc) (q : Ded) (B : Nat) (w : World) (h : PlM w B v p) (hB : B ≤ w.heap.size) (hs1 : p.start.length ≤ 1048576) (hs2 : p.word.length ≤ 1048576) (hwa : (Lit.int .i64 q.a).wf = true) (hwb : (Lit.int .i64 q.b).wf = true) (h0 : 0 ≤ q.k) (h3 : q.k ≤ 3) :
    Calls Tryd.prog 88 #[v, .agg #[.int .i64 q.k, .int .i64 q.a, .int .i64 q.b]] w fun e w' => ∃ u, e = .returned (.tuple #[u, .bool (afterB p q)]) ∧ PlQ w' w.heap.size u (afterP p q) ∧ Below w.heap.size w w' := by
  obtain ⟨k, a, b⟩ := q
  simp only at h0 h3 hwa hwb ⊢
  rcases (show k = 0 ∨ k = 1 ∨ k = 2 ∨ k = 3 by omega) with rfl | rfl | rfl | rfl
  · exact placeAfter0_c v p a b B w h hB hs1 hs2 hwa hwb
  · exact placeAfter1_c v p a b B w h hB hs1 hs2 hwa hwb
  · exact placeAfter2_c v p a b B w h hB hs1 hs2 hwa hwb
  · exact placeAfter3_c v p a b B w h hB hs1 hs2 hwa hwb

set_option maxRecDepth 100000 in
set_option maxHeartbeats 3200000 in
theorem deskAfter_c (v : Value) (d : Dsk) (q : Ded) (lo : Nat) (w : World) (h : DkR w lo v d) (hlo : lo ≤ w.heap.size) (hok : deskOk d = true) (hwa : (Lit.int .i64 q.a).wf = true) (hwb : (Lit.int .i64 q.b).wf = true) (hD : LaidD w) :
    Calls Tryd.prog 45 #[v, .agg #[.int .i64 q.k, .int .i64 q.a, .int .i64 q.b]] w fun e w' => ∃ u, e = .returned (.tuple #[u, .bool (deskB d q)]) ∧ DkR w' lo u (deskX d q) ∧ GrP lo w w' := by
  obtain ⟨k, a, b⟩ := q
  show Calls Tryd.prog 45 #[v, .agg #[.int .i64 k, .int .i64 a, .int .i64 b]] w _
  simp only at hwa hwb
  obtain ⟨A, n, c, A2, n2, c2, A3, n3, c3, ts, rfl, hps, hn3, hsl, hrw⟩ := h.open_
  have hslk := hide (fun k hk => (hsl.lt k hk).2.1)
  have hrw0 := hide hrw
  obtain ⟨i0, hi, hz0, hz1, hz2⟩ := infoPl_parts
  have hpl := plcs_len ts
  rw [hps, ← hn3] at hpl
  have hp8 := (deskOk_yes hok).2.2
  have hno := (deskOk_yes hok).2.1
  obtain ⟨⟨_, hsm⟩, _, _, hsw, _⟩ := placeOk_yes hno
  have hn8 : n3 ≤ 8 := by omega
  replace hn3 := hide hn3
  replace hps := hide hps
  replace hpl := hide hpl
  replace hno := hide hno
  have hb := hide (show Below w.heap.size w (((w.alloc (.cells #[.slice A n c, .int .i64 d.now.step, .slice A2 n2 c2, .slice A3 n3 c3] 34)).alloc (.cells #[.int .i64 k, .int .i64 a, .int .i64 b] 38)).alloc (.cells #[.slice none 0 0, .int .i64 0, .slice none 0 0, .slice none 0 0] 34)) from ((al w _).alloc (by simp) _).alloc (by simp; omega) _)
  have ta := hide (show QuaW (((w.alloc (.cells #[.slice A n c, .int .i64 d.now.step, .slice A2 n2 c2, .slice A3 n3 c3] 34)).alloc (.cells #[.int .i64 k, .int .i64 a, .int .i64 b] 38)).alloc (.cells #[.slice none 0 0, .int .i64 0, .slice none 0 0, .slice none 0 0] 34)) w.heap.size (.slice A n c) (.int .i64 d.now.step) (.slice A2 n2 c2) (.slice A3 n3 c3) from ((QuaW.made w _ _ _ _ _).alloc _).alloc _)
  have tb := hide (show TriW (((w.alloc (.cells #[.slice A n c, .int .i64 d.now.step, .slice A2 n2 c2, .slice A3 n3 c3] 34)).alloc (.cells #[.int .i64 k, .int .i64 a, .int .i64 b] 38)).alloc (.cells #[.slice none 0 0, .int .i64 0, .slice none 0 0, .slice none 0 0] 34)) (w.heap.size + 1) (.int .i64 k) (.int .i64 a) (.int .i64 b) from by have := (TriW.made (w.alloc (.cells #[.slice A n c, .int .i64 d.now.step, .slice A2 n2 c2, .slice A3 n3 c3] 34)) (.int .i64 k) (.int .i64 a) (.int .i64 b) 38).alloc (.cells #[.slice none 0 0, .int .i64 0, .slice none 0 0, .slice none 0 0] 34); simpa using this)
  have tr := hide (show QuaW (((w.alloc (.cells #[.slice A n c, .int .i64 d.now.step, .slice A2 n2 c2, .slice A3 n3 c3] 34)).alloc (.cells #[.int .i64 k, .int .i64 a, .int .i64 b] 38)).alloc (.cells #[.slice none 0 0, .int .i64 0, .slice none 0 0, .slice none 0 0] 34)) (w.heap.size + 1 + 1) (.slice none 0 0) (.int .i64 0) (.slice none 0 0) (.slice none 0 0) from by have := QuaW.made ((w.alloc (.cells #[.slice A n c, .int .i64 d.now.step, .slice A2 n2 c2, .slice A3 n3 c3] 34)).alloc (.cells #[.int .i64 k, .int .i64 a, .int .i64 b] 38)) (.slice none 0 0) (.int .i64 0) (.slice none 0 0) (.slice none 0 0) 34; simpa using this)
  have gr := hide (show DTag (((w.alloc (.cells #[.slice A n c, .int .i64 d.now.step, .slice A2 n2 c2, .slice A3 n3 c3] 34)).alloc (.cells #[.int .i64 k, .int .i64 a, .int .i64 b] 38)).alloc (.cells #[.slice none 0 0, .int .i64 0, .slice none 0 0, .slice none 0 0] 34)) (w.heap.size + 1 + 1) from by have := DTag.made ((w.alloc (.cells #[.slice A n c, .int .i64 d.now.step, .slice A2 n2 c2, .slice A3 n3 c3] 34)).alloc (.cells #[.int .i64 k, .int .i64 a, .int .i64 b] 38)) #[.slice none 0 0, .int .i64 0, .slice none 0 0, .slice none 0 0]; simpa using this)
  have hdk := hide (h.up hb.out)
  have hsl := hide (hsl.up hb.out)
  have hrw := hide (hrw.up hb.out)
  clear h
  have HF := hide (formOf_c ⟨k, a, b⟩ (((w.alloc (.cells #[.slice A n c, .int .i64 d.now.step, .slice A2 n2 c2, .slice A3 n3 c3] 34)).alloc (.cells #[.int .i64 k, .int .i64 a, .int .i64 b] 38)).alloc (.cells #[.slice none 0 0, .int .i64 0, .slice none 0 0, .slice none 0 0] 34)) (hD.up hb.out))
  obtain ⟨S, hS⟩ : ∃ S, Hid (strB (formW k) = S) := ⟨_, hide rfl⟩
  obtain ⟨N, hN⟩ : ∃ N, Hid (formN k = N) := ⟨_, hide rfl⟩
  simp only at HF
  rw [hS.out, hN.out] at HF
  clear hS hN
  cases hkb : kindB ⟨k, a, b⟩ with
  | false =>
    rw [hkb] at HF
    have e1 := hide (kind_no (d := d) hkb)
    have e2 := hide (deskX_not hok e1.out)
    rw [e1.out, e2.out]
    go_enter Tryd.func45, Tryd.ntmps45
    skip
    obtain ⟨q1c0, q1c1, q1c2, q1c3, q1f0, q1f1, q1f2, q1f3, _⟩ := ta.out
    obtain ⟨q2c0, q2c1, q2c2, q2f0, q2f1, q2f2, _⟩ := tb.out
    obtain ⟨q3c0, q3c1, q3c2, q3c3, q3f0, q3f1, q3f2, q3f3, _⟩ := tr.out
    go_wp2_with fail
    refine (HF.out).mono ?_
    rintro e w1 ⟨rfl, hq⟩
    replace gr := hide (gr.out.up hq)
    replace hdk := hide (hdk.out.up hq)
    replace hsl := hide (hsl.out.up hq)
    replace hrw := hide (hrw.out.up hq)
    replace ta := hide (ta.out.up hq)
    replace tb := hide (tb.out.up hq)
    replace tr := hide (tr.out.up hq)
    replace hb := hide (upB hb.out hq)
    clear hq
    clear q1c0 q1c1 q1c2 q1c3 q1f0 q1f1 q1f2 q1f3 q2c0 q2c1 q2c2 q2f0 q2f1 q2f2 q3c0 q3c1 q3c2 q3c3 q3f0 q3f1 q3f2 q3f3
    have hlt := hide (show w.heap.size + 1 + 1 + 1 ≤ w1.heap.size from by have := tr.out.lt; omega)
    replace gr := hide (gr.out.up (al w1 (.cells #[.string S, .int .i64 N] 116)))
    replace hdk := hide (hdk.out.up (al w1 (.cells #[.string S, .int .i64 N] 116)))
    replace hsl := hide (hsl.out.up (al w1 (.cells #[.string S, .int .i64 N] 116)))
    replace hrw := hide (hrw.out.up (al w1 (.cells #[.string S, .int .i64 N] 116)))
    replace ta := hide (ta.out.up (al w1 (.cells #[.string S, .int .i64 N] 116)))
    replace tb := hide (tb.out.up (al w1 (.cells #[.string S, .int .i64 N] 116)))
    replace tr := hide (tr.out.up (al w1 (.cells #[.string S, .int .i64 N] 116)))
    replace hb := hide (upB hb.out (al w1 (.cells #[.string S, .int .i64 N] 116)))
    obtain ⟨q4c0, q4c1, q4c2, q4c3, q4f0, q4f1, q4f2, q4f3, _⟩ := ta.out
    obtain ⟨q5c0, q5c1, q5c2, q5f0, q5f1, q5f2, _⟩ := tb.out
    obtain ⟨q6c0, q6c1, q6c2, q6c3, q6f0, q6f1, q6f2, q6f3, _⟩ := tr.out
    go_wp2_with fail
    obtain ⟨z0, z1, z2, z3, _⟩ := ((((tr.out.set0 (.slice A n c)).set1 (.int .i64 d.now.step)).set2 (.slice A2 n2 c2)).set3 (.slice A3 n3 c3))
    exact bodyPost_ret (v := .tuple #[.agg #[.slice A n c, .int .i64 d.now.step, .slice A2 n2 c2, .slice A3 n3 c3], .bool false]) (by simp [results, Tryd.results45, go_sem, z0, z1, z2, z3]) rfl ⟨_, rfl, hdk.out.set4 gr.out _ _ _ _, .of_below ((((hb.out.setCell (by simp only; omega) _).setCell (by simp only; omega) _).setCell (by simp only; omega) _).setCell (by simp only; omega) _)⟩
  | true =>
    rw [hkb] at HF
    obtain ⟨⟨hk0, hk4⟩, hkB, hkA, hkA4⟩ := kind_nums hkb
    simp only at hk0 hk4 hkB hkA hkA4
    by_cases hk : k = 4
    ·
      subst hk
      obtain rfl : a = 0 := hkA4 rfl
      obtain rfl : b = 0 := hkB (by decide)
      obtain ⟨e1, e2⟩ := back_eq hok
      rw [e1, e2]
      clear e1 e2 hkA hkB hkA4 hk0 hk4
      obtain ⟨R, hR⟩ : ∃ R, Hid ((if d.past = [] then d else ⟨d.past.getLast?.getD noPlc, d.past.dropLast⟩) = R) := ⟨_, hide rfl⟩
      obtain ⟨K, hK⟩ : ∃ K, Hid ((!d.past.isEmpty) = K) := ⟨_, hide rfl⟩
      have HB := hide (fun (W : World) (hd : DkR W lo (.agg #[.slice A n c, .int .i64 d.now.step, .slice A2 n2 c2, .slice A3 n3 c3]) d) (hl : lo ≤ W.heap.size) => deskBefore_c _ d lo W hd hl (by omega))
      rw [hK.out, hR.out] at HB ⊢
      clear hK hR
      go_enter Tryd.func45, Tryd.ntmps45
      skip
      obtain ⟨q7c0, q7c1, q7c2, q7c3, q7f0, q7f1, q7f2, q7f3, _⟩ := ta.out
      obtain ⟨q8c0, q8c1, q8c2, q8f0, q8f1, q8f2, _⟩ := tb.out
      obtain ⟨q9c0, q9c1, q9c2, q9c3, q9f0, q9f1, q9f2, q9f3, _⟩ := tr.out
      go_wp2_with fail
      refine (HF.out).mono ?_
      rintro e w1 ⟨rfl, hq⟩
      replace gr := hide (gr.out.up hq)
      replace hdk := hide (hdk.out.up hq)
      replace hsl := hide (hsl.out.up hq)
      replace hrw := hide (hrw.out.up hq)
      replace ta := hide (ta.out.up hq)
      replace tb := hide (tb.out.up hq)
      replace tr := hide (tr.out.up hq)
      replace hb := hide (upB hb.out hq)
      clear hq
      clear q7c0 q7c1 q7c2 q7c3 q7f0 q7f1 q7f2 q7f3 q8c0 q8c1 q8c2 q8f0 q8f1 q8f2 q9c0 q9c1 q9c2 q9c3 q9f0 q9f1 q9f2 q9f3
      have hlt := hide (show w.heap.size + 1 + 1 + 1 ≤ w1.heap.size from by have := tr.out.lt; omega)
      replace gr := hide (gr.out.up (al w1 (.cells #[.string S, .int .i64 N] 116)))
      replace hdk := hide (hdk.out.up (al w1 (.cells #[.string S, .int .i64 N] 116)))
      replace hsl := hide (hsl.out.up (al w1 (.cells #[.string S, .int .i64 N] 116)))
      replace hrw := hide (hrw.out.up (al w1 (.cells #[.string S, .int .i64 N] 116)))
      replace ta := hide (ta.out.up (al w1 (.cells #[.string S, .int .i64 N] 116)))
      replace tb := hide (tb.out.up (al w1 (.cells #[.string S, .int .i64 N] 116)))
      replace tr := hide (tr.out.up (al w1 (.cells #[.string S, .int .i64 N] 116)))
      replace hb := hide (upB hb.out (al w1 (.cells #[.string S, .int .i64 N] 116)))
      obtain ⟨q10c0, q10c1, q10c2, q10c3, q10f0, q10f1, q10f2, q10f3, _⟩ := ta.out
      obtain ⟨q11c0, q11c1, q11c2, q11f0, q11f1, q11f2, _⟩ := tb.out
      obtain ⟨q12c0, q12c1, q12c2, q12c3, q12f0, q12f1, q12f2, q12f3, _⟩ := tr.out
      go_wp2_with fail
      refine (HB.out _ hdk.out (by have := hb.out.size; omega)).mono ?_
      rintro e w2 ⟨u, rfl, hu, hq⟩
      replace gr := hide (gr.out.up hq)
      replace hdk := hide (hdk.out.up hq)
      replace hsl := hide (hsl.out.up hq)
      replace hrw := hide (hrw.out.up hq)
      replace ta := hide (ta.out.up hq)
      replace tb := hide (tb.out.up hq)
      replace tr := hide (tr.out.up hq)
      replace hb := hide (upB hb.out hq)
      clear hq
      obtain ⟨B1, m1, e1, B2, m2, e2, B3, m3, e3, ts2, rfl, y1, y2, y3, y4⟩ := hu.open_
      clear y1 y2 y3 y4 ts2
      replace hu := hide hu
      clear q10c0 q10c1 q10c2 q10c3 q10f0 q10f1 q10f2 q10f3 q11c0 q11c1 q11c2 q11f0 q11f1 q11f2 q12c0 q12c1 q12c2 q12c3 q12f0 q12f1 q12f2 q12f3
      obtain ⟨q13c0, q13c1, q13c2, q13c3, q13f0, q13f1, q13f2, q13f3, _⟩ := ta.out
      obtain ⟨q14c0, q14c1, q14c2, q14f0, q14f1, q14f2, _⟩ := tb.out
      obtain ⟨q15c0, q15c1, q15c2, q15c3, q15f0, q15f1, q15f2, q15f3, _⟩ := tr.out
      go_wp2_with fail
      obtain ⟨z0, z1, z2, z3, _⟩ := ((((tr.out.set0 (.slice B1 m1 e1)).set1 (.int .i64 R.now.step)).set2 (.slice B2 m2 e2)).set3 (.slice B3 m3 e3))
      exact bodyPost_ret (v := .tuple #[.agg #[.slice B1 m1 e1, .int .i64 R.now.step, .slice B2 m2 e2, .slice B3 m3 e3], .bool K]) (by simp [results, Tryd.results45, go_sem, z0, z1, z2, z3]) rfl ⟨_, rfl, hu.out.set4 gr.out _ _ _ _, .of_below ((((hb.out.setCell (by simp only; omega) _).setCell (by simp only; omega) _).setCell (by simp only; omega) _).setCell (by simp only; omega) _)⟩
    ·
      have hk3 : k ≤ 3 := by omega
      obtain ⟨e1, e2⟩ := new_eq hok hkb hk3
      rw [e1]
      replace e2 := hide e2
      have e3 := hide (fun hf : deskB d ⟨k, a, b⟩ = false => deskX_not hok hf)
      rw [e1] at e3
      obtain ⟨R, hR⟩ : ∃ R, Hid (afterP d.now ⟨k, a, b⟩ = R) := ⟨_, hide rfl⟩
      obtain ⟨K, hK⟩ : ∃ K, Hid (afterB d.now ⟨k, a, b⟩ = K) := ⟨_, hide rfl⟩
      have HP := hide (fun (W : World) (hp : PlM W W.heap.size (.agg #[.slice A n c, .int .i64 d.now.step, .slice A2 n2 c2]) d.now) => placeAfter_c _ d.now ⟨k, a, b⟩ _ W hp (Nat.le_refl _) (by omega) (by omega) hwa hwb hk0 hk3)
      simp only at HP
      rw [hK.out, hR.out] at HP e2
      rw [hK.out] at e3 ⊢
      have hk4b : (k == 4) = false := by simp; omega
      have hk4c : ¬ (k = 4) := hk
      clear hK hR e1 hkA hkB hkA4
      have hpl0 := hide (show PlM (((w.alloc (.cells #[.slice A n c, .int .i64 d.now.step, .slice A2 n2 c2, .slice A3 n3 c3] 34)).alloc (.cells #[.int .i64 k, .int .i64 a, .int .i64 b] 38)).alloc (.cells #[.slice none 0 0, .int .i64 0, .slice none 0 0, .slice none 0 0] 34)) (((w.alloc (.cells #[.slice A n c, .int .i64 d.now.step, .slice A2 n2 c2, .slice A3 n3 c3] 34)).alloc (.cells #[.int .i64 k, .int .i64 a, .int .i64 b] 38)).alloc (.cells #[.slice none 0 0, .int .i64 0, .slice none 0 0, .slice none 0 0] 34)).heap.size (.agg #[.slice A n c, .int .i64 d.now.step, .slice A2 n2 c2]) d.now from ((hrw.out.one _ List.mem_cons_self).pl).plM)
      go_enter Tryd.func45, Tryd.ntmps45
      skip
      obtain ⟨q16c0, q16c1, q16c2, q16c3, q16f0, q16f1, q16f2, q16f3, _⟩ := ta.out
      obtain ⟨q17c0, q17c1, q17c2, q17f0, q17f1, q17f2, _⟩ := tb.out
      obtain ⟨q18c0, q18c1, q18c2, q18c3, q18f0, q18f1, q18f2, q18f3, _⟩ := tr.out
      go_wp2_with fail
      refine (HF.out).mono ?_
      rintro e w1 ⟨rfl, hq⟩
      replace gr := hide (gr.out.up hq)
      replace hdk := hide (hdk.out.up hq)
      replace hsl := hide (hsl.out.up hq)
      replace hrw := hide (hrw.out.up hq)
      replace hpl0 := hide (hpl0.out.up hq)
      replace ta := hide (ta.out.up hq)
      replace tb := hide (tb.out.up hq)
      replace tr := hide (tr.out.up hq)
      replace hb := hide (upB hb.out hq)
      clear hq
      clear q16c0 q16c1 q16c2 q16c3 q16f0 q16f1 q16f2 q16f3 q17c0 q17c1 q17c2 q17f0 q17f1 q17f2 q18c0 q18c1 q18c2 q18c3 q18f0 q18f1 q18f2 q18f3
      have hlt := hide (show w.heap.size + 1 + 1 + 1 ≤ w1.heap.size from by have := tr.out.lt; omega)
      replace gr := hide (gr.out.up (al w1 (.cells #[.string S, .int .i64 N] 116)))
      replace hdk := hide (hdk.out.up (al w1 (.cells #[.string S, .int .i64 N] 116)))
      replace hsl := hide (hsl.out.up (al w1 (.cells #[.string S, .int .i64 N] 116)))
      replace hrw := hide (hrw.out.up (al w1 (.cells #[.string S, .int .i64 N] 116)))
      replace hpl0 := hide (hpl0.out.up (al w1 (.cells #[.string S, .int .i64 N] 116)))
      replace ta := hide (ta.out.up (al w1 (.cells #[.string S, .int .i64 N] 116)))
      replace tb := hide (tb.out.up (al w1 (.cells #[.string S, .int .i64 N] 116)))
      replace tr := hide (tr.out.up (al w1 (.cells #[.string S, .int .i64 N] 116)))
      replace hb := hide (upB hb.out (al w1 (.cells #[.string S, .int .i64 N] 116)))
      obtain ⟨q19c0, q19c1, q19c2, q19c3, q19f0, q19f1, q19f2, q19f3, _⟩ := ta.out
      obtain ⟨q20c0, q20c1, q20c2, q20f0, q20f1, q20f2, _⟩ := tb.out
      obtain ⟨q21c0, q21c1, q21c2, q21c3, q21f0, q21f1, q21f2, q21f3, _⟩ := tr.out
      go_wp2_with fail
      refine (HP.out _ hpl0.out).mono ?_
      rintro e w2 ⟨u, rfl, hu, hq⟩
      replace gr := hide (gr.out.up hq)
      replace hdk := hide (hdk.out.up hq)
      replace hsl := hide (hsl.out.up hq)
      replace hrw := hide (hrw.out.up hq)
      replace hpl0 := hide (hpl0.out.up hq)
      replace ta := hide (ta.out.up hq)
      replace tb := hide (tb.out.up hq)
      replace tr := hide (tr.out.up hq)
      replace hb := hide (upB hb.out hq)
      clear hq
      obtain ⟨B1, m1, e1, B2, m2, e4, rfl, o1, o2, hne, hwf⟩ := hu.ex
      replace hu := hide hu
      clear o1 o2 hne HP
      have hb0 := hide (show lo ≤ (w1.alloc (.cells #[.string S, .int .i64 N] 116)).heap.size ∧ w.heap.size ≤ (w1.alloc (.cells #[.string S, .int .i64 N] 116)).heap.size from by have := hlt.out; simp; omega)
      have hsz := hide (show w.heap.size ≤ w2.heap.size from hb.out.size)
      skip
      replace gr := hide (gr.out.up (al w2 (.cells #[.slice B1 m1 e1, .int .i64 R.step, .slice B2 m2 e4] 31)))
      replace hdk := hide (hdk.out.up (al w2 (.cells #[.slice B1 m1 e1, .int .i64 R.step, .slice B2 m2 e4] 31)))
      replace hsl := hide (hsl.out.up (al w2 (.cells #[.slice B1 m1 e1, .int .i64 R.step, .slice B2 m2 e4] 31)))
      replace hrw := hide (hrw.out.up (al w2 (.cells #[.slice B1 m1 e1, .int .i64 R.step, .slice B2 m2 e4] 31)))
      replace hpl0 := hide (hpl0.out.up (al w2 (.cells #[.slice B1 m1 e1, .int .i64 R.step, .slice B2 m2 e4] 31)))
      replace hu := hide (hu.out.up (al w2 (.cells #[.slice B1 m1 e1, .int .i64 R.step, .slice B2 m2 e4] 31)))
      replace ta := hide (ta.out.up (al w2 (.cells #[.slice B1 m1 e1, .int .i64 R.step, .slice B2 m2 e4] 31)))
      replace tb := hide (tb.out.up (al w2 (.cells #[.slice B1 m1 e1, .int .i64 R.step, .slice B2 m2 e4] 31)))
      replace tr := hide (tr.out.up (al w2 (.cells #[.slice B1 m1 e1, .int .i64 R.step, .slice B2 m2 e4] 31)))
      replace hb := hide (upB hb.out (al w2 (.cells #[.slice B1 m1 e1, .int .i64 R.step, .slice B2 m2 e4] 31)))
      have t8 := hide (TriW.made w2 (.slice B1 m1 e1) (.int .i64 R.step) (.slice B2 m2 e4) 31)
      cases K with
      | false =>
        clear q19c0 q19c1 q19c2 q19c3 q19f0 q19f1 q19f2 q19f3 q20c0 q20c1 q20c2 q20f0 q20f1 q20f2 q21c0 q21c1 q21c2 q21c3 q21f0 q21f1 q21f2 q21f3
        obtain ⟨q22c0, q22c1, q22c2, q22c3, q22f0, q22f1, q22f2, q22f3, _⟩ := ta.out
        obtain ⟨q23c0, q23c1, q23c2, q23f0, q23f1, q23f2, _⟩ := tb.out
        obtain ⟨q24c0, q24c1, q24c2, q24c3, q24f0, q24f1, q24f2, q24f3, _⟩ := tr.out
        obtain ⟨q25c0, q25c1, q25c2, q25f0, q25f1, q25f2, _⟩ := t8.out
        go_wp2_with fail
        obtain ⟨z0, z1, z2, z3, _⟩ := ((((tr.out.set0 (.slice A n c)).set1 (.int .i64 d.now.step)).set2 (.slice A2 n2 c2)).set3 (.slice A3 n3 c3))
        exact bodyPost_ret (v := .tuple #[.agg #[.slice A n c, .int .i64 d.now.step, .slice A2 n2 c2, .slice A3 n3 c3], .bool false]) (by simp [results, Tryd.results45, go_sem, z0, z1, z2, z3]) rfl ⟨_, rfl, (by rw [e3.out (by simp)]; exact hdk.out.set4 gr.out _ _ _ _), .of_below ((((hb.out.setCell (by simp only; omega) _).setCell (by simp only; omega) _).setCell (by simp only; omega) _).setCell (by simp only; omega) _)⟩
      | true =>
        clear e3
        clear q19c0 q19c1 q19c2 q19c3 q19f0 q19f1 q19f2 q19f3 q20c0 q20c1 q20c2 q20f0 q20f1 q20f2 q21c0 q21c1 q21c2 q21c3 q21f0 q21f1 q21f2 q21f3
        obtain ⟨q26c0, q26c1, q26c2, q26c3, q26f0, q26f1, q26f2, q26f3, _⟩ := ta.out
        obtain ⟨q27c0, q27c1, q27c2, q27f0, q27f1, q27f2, _⟩ := tb.out
        obtain ⟨q28c0, q28c1, q28c2, q28c3, q28f0, q28f1, q28f2, q28f3, _⟩ := tr.out
        obtain ⟨q29c0, q29c1, q29c2, q29f0, q29f1, q29f2, _⟩ := t8.out
        go_wp2_with (at_builtin; refine wpList_pushO _ rfl _ _ 32 rfl i0 (.agg #[.slice none 0 0, .int .i64 0, .slice none 0 0]) Tryd.underlying32 hi hz0 hz1 hz2 rfl lo A3 n3 c3 (cellsT ts) rfl (hsl.out.up (al _ _)) _ 1 (.slice A n c) (.int .i64 d.now.step) (.slice A2 n2 c2) rfl (lit_cellsAt _ [.slice A n c, .int .i64 d.now.step, .slice A2 n2 c2] _ _ (by simp)) (by intro u hu; simp at hu; rcases hu with rfl | rfl | rfl <;> rfl) (by omega) (by have := hsz.out; simp; omega) ?_; intro A9 c9 w7 hO9 hg9; have hgp := hide (GrP.of_grown (lo := lo) hg9 (fun k hk => by have hk2 := SlO.lt (SlO.up hsl.out (al (w2.alloc (.cells #[.slice B1 m1 e1, .int .i64 R.step, .slice B2 m2 e4] 31)) (.cells #[.slice A n c, .int .i64 d.now.step, .slice A2 n2 c2] 31))) k hk; exact ⟨hk2.1, hk2.2.2⟩)); have t87 := hide (TriW.grown (t8.out.up (al _ _)) hg9 (fun q hq => by have := hslk.out q hq; have := hsz.out; omega)); have tr7 := hide (QuaW.grown (tr.out.up (al _ _)) hg9 (fun q hq => by have := hslk.out q hq; omega)); have gr7 := hide ((gr.out.up (al _ _)).gr hgp.out); have hu7 := hide ((hu.out.up (al _ _)).gr hgp.out); have hrw7 := hide ((hrw.out.up (al _ _)).gr hgp.out); have hG7 := hide ((GrP.of_below (upB hb.out (al _ (.cells #[.slice A n c, .int .i64 d.now.step, .slice A2 n2 c2] 31)))).trans hgp.out); obtain ⟨x0, x1, x2, _⟩ := t87.out)
        clear q26c0 q26c1 q26c2 q26c3 q26f0 q26f1 q26f2 q26f3 q27c0 q27c1 q27c2 q27f0 q27f1 q27f2 q28c0 q28c1 q28c2 q28c3 q28f0 q28f1 q28f2 q28f3 q29c0 q29c1 q29c2 q29f0 q29f1 q29f2
        have hn31 : n3 + 1 ≤ c9 := hO9.le
        have hc9 := hO9.big
        unfold maxLen at hc9
        obtain ⟨g9, o9, rfl⟩ : ∃ g o, A9 = some ⟨g, o, none⟩ := by
          rcases hO9.ex with ⟨_, h0⟩ | ⟨g, o, cur, e, _⟩
          · omega
          · exact ⟨g, o, e⟩
        obtain ⟨H, hH⟩ : ∃ H : Nat, Hid (H = n3 + 1 - 8) := ⟨_, hide rfl⟩
        have hH1 : H ≤ n3 + 1 := by have := hH.out; omega
        have hH0 : (H : Int) ≤ (n3 : Int) + 1 := by omega
        have hH2 : H ≤ c9 := by omega
        have hH3 : ¬ (c9 = H) := by have := hH.out; omega
        have hmx := hide (show max 0 (IntKind.i64.wrap ((n3 : Int) + 1 - 8)) = (H : Int) from by
          rw [IntWalk.i64_in _ (by omega)]
          have := hH.out
          by_cases h8 : n3 + 1 ≤ 8
          · rw [show H = 0 by omega]; omega
          · rw [show H = n3 + 1 - 8 by omega]; omega)
        refine wp_region_still_tail 8 (by kernel_rfl) (by kernel_rfl) ?_
        simp only [List.take_succ_cons, List.take_zero, List.drop_succ_cons, List.drop_zero]
        repeat still_step
        rw [hmx.out]
        clear hmx
        repeat still_step
        refine wpStill_nil ?_
        obtain ⟨y0, y1, y2, y3, f0, f1, f2, f3, _⟩ := tr7.out
        go_wp2_with fail
        obtain ⟨tq, ho1, ho2, ho3⟩ := hu7.out.one
        obtain ⟨ta1, tb1, tp1⟩ := tq
        simp only at ho2
        have ho2 := ho2.symm
        subst ho2
        injection ho1 with ho1
        injection ho1 with ho1
        simp only [List.cons.injEq, and_true] at ho1
        obtain ⟨rfl, _, rfl⟩ := ho1
        have hdk7 := hide (show DkR w7 lo (.agg #[.slice B1 m1 e1, .int .i64 R.step, .slice B2 m2 e4, .slice (some ⟨g9, o9 + H * 3, none⟩) (n3 + 1 - H) (c9 - H)]) ⟨R, pushP d.past d.now⟩ from
          dkR_mk (ts := List.drop H (ts ++ [(.slice A n c, .slice A2 n2 c2, d.now)] : List Trp)) (ho3.down (by have := hb0.out; omega)) (by
            rw [pushP_drop (H := H) (by rw [hpl.out]; exact hH.out) (by rw [hpl.out]; exact hn8)]
            unfold plcs
            rw [List.map_drop, List.map_append]
            have := hps.out
            unfold plcs at this
            rw [this]
            rfl) (by rw [List.length_drop, List.length_append, ← hn3.out]; rfl) (by
            rw [cellsT_drop, cellsT_append, cellsT_one]
            exact hO9.drop hH1) (RowsT.cons (hrw0.out.snoc.sub (List.drop_sublist _ _)) (hrw7.out.snoc.sub (List.drop_sublist _ _)) ho3 (by have := hb0.out; omega) (by have := hb0.out; omega)) rfl)
        obtain ⟨z0, z1, z2, z3, _⟩ := ((((tr7.out.set0 (.slice B1 m1 e1)).set1 (.int .i64 R.step)).set2 (.slice B2 m2 e4)).set3 (.slice (some ⟨g9, o9 + H * 3, none⟩) (n3 + 1 - H) (c9 - H))).drew
        exact bodyPost_ret (v := .tuple #[.agg #[.slice B1 m1 e1, .int .i64 R.step, .slice B2 m2 e4, .slice (some ⟨g9, o9 + H * 3, none⟩) (n3 + 1 - H) (c9 - H)], .bool true]) (by simp [results, Tryd.results45, go_sem, z0, z1, z2, z3]) rfl ⟨_, rfl, (by rw [e2.out (by simp)]; exact (hdk7.out.set4 gr7.out _ _ _ _).up (Below.refl _ _).drew), ((((hG7.out.setNew (by simp only; omega) _).setNew (by simp only; omega) _).setNew (by simp only; omega) _).setNew (by simp only; omega) _).up (Below.refl _ _).drew⟩
end Go.Proofs.YtoafpokcbbncfaaDoor

namespace Go.Proofs.YtoafpokcbbncfaaDoor
open Go.RowKit
set_option linter.unusedVariables false

theorem small_ok {d : Dsk} (h : deskOk d = true) : smallP d.now ∧ d.past.length ≤ 1000 ∧ ∀ p ∈ d.past, smallP p := by
  have hs : ∀ p : Plc, placeOk p = true → smallP p := fun p hp => by
    obtain ⟨⟨_, h1⟩, _, _, h2, _⟩ := placeOk_yes hp
    exact ⟨by omega, by omega⟩
  obtain ⟨h1, h2, h3⟩ := deskOk_yes h
  exact ⟨hs _ h2, by omega, fun p hp => hs p (h1 p hp)⟩
end Go.Proofs.YtoafpokcbbncfaaDoor

namespace Go.Proofs.YtoafpokcbbncfaaDoor
open Go.RowKit
set_option linter.unusedVariables false

section
variable {w w' : World} {g lo : Nat} {x y z u : Value}
theorem QuaW.gr (h : QuaW w g x y z u) (ht : DTag w g) (hq : GrP lo w w') : QuaW w' g x y z u := by
  obtain ⟨cs, e⟩ := ht.ob
  have hb := hq.obj e (by decide)
  have hc : ∀ o, w'.cell? ⟨g, o, none⟩ = w.cell? ⟨g, o, none⟩ := fun o => World.cell?_of_block hb
  have hf : ∀ o, w'.frozen? ⟨g, o, none⟩ = w.frozen? ⟨g, o, none⟩ := fun o => World.frozen?_of_block hb
  exact ⟨(hc 0).trans h.c0, (hc 1).trans h.c1, (hc 2).trans h.c2, (hc 3).trans h.c3, (hf 0).trans h.f0, (hf 1).trans h.f1, (hf 2).trans h.f2, (hf 3).trans h.f3, Nat.lt_of_lt_of_le h.lt hq.size⟩
theorem DTag.at {b i : Nat} (h : DTag w g) (x : Value) : DTag (w.setCell ⟨b, i, none⟩ x) g := by
  by_cases hg : g = b
  · subst hg; exact h.set i x
  · obtain ⟨cs, e⟩ := h.ob
    exact ⟨cs, (heap_setCell_other w ⟨b, i, none⟩ g x hg).trans e⟩
end

set_option maxRecDepth 100000 in
set_option maxHeartbeats 3200000 in
theorem deskAfterAll_c (v : Value) (d : Dsk) (ds : List Ded) (Al : Option Addr) (nl cl lo : Nat) (w : World) (h : DkR w lo v d) (hlo : lo ≤ w.heap.size) (hok : deskOk d = true) (hn : nl ≤ 1048576) (hK : ∀ w', GrP lo w w' → LaidD w' ∧ DdM w' w'.heap.size Al nl cl ds) :
    Calls Tryd.prog 54 #[v, .slice Al nl cl] w fun e w' => ∃ u, e = .returned (.tuple #[u, .int .i64 (runN d ds)]) ∧ DkR w' lo u (runD d ds) ∧ GrP lo w w' := by
  obtain ⟨A, n, c, A2, n2, c2, A3, n3, c3, ts, rfl, y1, y2, y3, y4⟩ := h.open_
  clear y1 y2 y3 y4 ts
  have hlen := hide ((hK w (GrP.refl _ _)).2.len)
  replace hK := hide hK
  have hb := hide (show Below w.heap.size w ((w.alloc (.cells #[.slice A n c, .int .i64 d.now.step, .slice A2 n2 c2, .slice A3 n3 c3] 34)).alloc (.cells #[.slice none 0 0, .int .i64 0, .slice none 0 0, .slice none 0 0] 34)) from (al w _).alloc (by simp) _)
  have ta := hide (show QuaW ((w.alloc (.cells #[.slice A n c, .int .i64 d.now.step, .slice A2 n2 c2, .slice A3 n3 c3] 34)).alloc (.cells #[.slice none 0 0, .int .i64 0, .slice none 0 0, .slice none 0 0] 34)) w.heap.size (.slice A n c) (.int .i64 d.now.step) (.slice A2 n2 c2) (.slice A3 n3 c3) from (QuaW.made w _ _ _ _ _).alloc _)
  have tr := hide (show QuaW ((w.alloc (.cells #[.slice A n c, .int .i64 d.now.step, .slice A2 n2 c2, .slice A3 n3 c3] 34)).alloc (.cells #[.slice none 0 0, .int .i64 0, .slice none 0 0, .slice none 0 0] 34)) (w.heap.size + 1) (.slice none 0 0) (.int .i64 0) (.slice none 0 0) (.slice none 0 0) from by have := QuaW.made (w.alloc (.cells #[.slice A n c, .int .i64 d.now.step, .slice A2 n2 c2, .slice A3 n3 c3] 34)) (.slice none 0 0) (.int .i64 0) (.slice none 0 0) (.slice none 0 0) 34; simpa using this)
  have gta := hide (show DTag ((w.alloc (.cells #[.slice A n c, .int .i64 d.now.step, .slice A2 n2 c2, .slice A3 n3 c3] 34)).alloc (.cells #[.slice none 0 0, .int .i64 0, .slice none 0 0, .slice none 0 0] 34)) w.heap.size from (DTag.made w #[.slice A n c, .int .i64 d.now.step, .slice A2 n2 c2, .slice A3 n3 c3]).up (al _ _))
  have gtr := hide (show DTag ((w.alloc (.cells #[.slice A n c, .int .i64 d.now.step, .slice A2 n2 c2, .slice A3 n3 c3] 34)).alloc (.cells #[.slice none 0 0, .int .i64 0, .slice none 0 0, .slice none 0 0] 34)) (w.heap.size + 1) from by have := DTag.made (w.alloc (.cells #[.slice A n c, .int .i64 d.now.step, .slice A2 n2 c2, .slice A3 n3 c3] 34)) #[.slice none 0 0, .int .i64 0, .slice none 0 0, .slice none 0 0]; simpa using this)
  have hdk := hide (h.up hb.out)
  have hG := hide (GrP.of_below (lo := lo) hb.out)
  clear h hb
  go_enter Tryd.func54, Tryd.ntmps54
  go_wp2
  go_loopw [6, 13] (fun m i wr => ∃ k : Nat, ∃ B1 m1 e1 B2 m2 e2 B3 m3 e3, k ≤ nl ∧ i = .int .i64 k ∧ m = .int .i64 (runN d (ds.take k)) ∧ Hid (DkR wr lo (.agg #[.slice B1 m1 e1, .int .i64 (runD d (ds.take k)).now.step, .slice B2 m2 e2, .slice B3 m3 e3]) (runD d (ds.take k))) ∧ Hid (QuaW wr w.heap.size (.slice B1 m1 e1) (.int .i64 (runD d (ds.take k)).now.step) (.slice B2 m2 e2) (.slice B3 m3 e3)) ∧ Hid (QuaW wr (w.heap.size + 1) (.slice none 0 0) (.int .i64 0) (.slice none 0 0) (.slice none 0 0)) ∧ Hid (DTag wr w.heap.size) ∧ Hid (DTag wr (w.heap.size + 1)) ∧ Hid (GrP lo w wr)) (fun _ i _ => nl - (intOf i).toNat)
  case atStart => exact ⟨0, A, n, c, A2, n2, c2, A3, n3, c3, Nat.zero_le _, rfl, rfl, hdk, ta, tr, gta, gtr, hG⟩
  case round =>
    clear hdk ta tr gta gtr hG
    obtain ⟨k, B1, m1, e1, B2, m2, e2, B3, m3, e3, hk, rfl, rfl, hdk, ta, tr, gta, gtr, hG⟩ := hrel
    have hokD := hide (runD_ok hok (ds.take k))
    have hMl := runN_le d (ds.take k)
    rw [List.length_take] at hMl
    by_cases hlt : k < nl
    · have hst := hide (fun x (hx : ds[k]? = some x) => And.intro ((runD_take (d := d) hx).trans (stepD_eq hokD.out)) (runN_take (d := d) hx))
      obtain ⟨D, hD⟩ : ∃ D, Hid (runD d (ds.take k) = D) := ⟨_, hide rfl⟩
      obtain ⟨M, hM⟩ : ∃ M, Hid (runN d (ds.take k) = M) := ⟨_, hide rfl⟩
      rw [hD.out] at hdk ta hokD hst
      rw [hM.out] at hMl hst ⊢
      have hKK := hide (hK.out wr hG.out)
      obtain ⟨b, off, x, rfl, hbB, hx, x0, x1, x2⟩ := hKK.out.2.look hlt
      obtain ⟨hw1, hw2, hw3⟩ := hKK.out.2.wf x (List.mem_of_getElem? hx.out)
      obtain ⟨hst1, hst2⟩ := hst.out x hx.out
      clear hst hKK
      have hb1 := hide (al wr (.cells #[.int .i64 x.k, .int .i64 x.a, .int .i64 x.b] 38))
      have t8 := hide (TriW.made wr (.int .i64 x.k) (.int .i64 x.a) (.int .i64 x.b) 38)
      have HA := hide (deskAfter_c _ D x lo _ (hdk.out.up hb1.out) (by have := hG.out.size; have := hb1.out.size; omega) hokD.out hw2 hw3 ((hK.out _ (hG.out.up hb1.out)).1))
      obtain ⟨R, hR⟩ : ∃ R, Hid (deskX D x = R) := ⟨_, hide rfl⟩
      rw [hR.out] at HA hst1
      have ta1 := hide (ta.out.up hb1.out)
      have tr1 := hide (tr.out.up hb1.out)
      have gta1 := hide (gta.out.up hb1.out)
      have gtr1 := hide (gtr.out.up hb1.out)
      obtain ⟨a0, a1, a2, a3, af0, af1, af2, af3, _⟩ := ta1.out
      obtain ⟨b0, b1, b2, bf0, bf1, bf2, _⟩ := t8.out
      clear ta tr gta gtr hdk hw1 hw2 hw3
      replace hst1 := hide hst1
      replace hst2 := hide hst2
      replace hx := hide hx.out
      go_wp2_with fail
      refine HA.out.mono ?_
      rintro e w1 ⟨u, rfl, hu, hg⟩
      obtain ⟨C1, p1, f1, C2, p2, f2, C3, p3, f3, ts2, rfl, y1, y2, y3, y4⟩ := hu.open_
      clear y1 y2 y3 y4 ts2 a0 a1 a2 a3 af0 af1 af2 af3 b0 b1 b2 bf0 bf1 bf2 HA x0 x1 x2
      have hb9 := hide (al w1 (.cells #[.slice C1 p1 f1, .int .i64 R.now.step, .slice C2 p2 f2, .slice C3 p3 f3] 34))
      have ta := hide ((ta1.out.gr gta1.out hg).up hb9.out)
      have tr := hide ((tr1.out.gr gtr1.out hg).up hb9.out)
      have gta := hide ((gta1.out.gr hg).up hb9.out)
      have gtr := hide ((gtr1.out.gr hg).up hb9.out)
      have t9 := hide (QuaW.made w1 (.slice C1 p1 f1) (.int .i64 R.now.step) (.slice C2 p2 f2) (.slice C3 p3 f3) 34)
      have hG1 := hide (((hG.out.up hb1.out).trans hg).up hb9.out)
      have hdk := hide (hu.up hb9.out)
      have hlt9 := hide (show w.heap.size + 1 < w1.heap.size from by have := (gtr1.out.gr hg).lt; omega)
      clear hu hg ta1 tr1 gta1 gtr1 hb1 t8 hG
      have hfin := hide (show DkR (((((w1.alloc (.cells #[.slice C1 p1 f1, .int .i64 R.now.step, .slice C2 p2 f2, .slice C3 p3 f3] 34)).setCell ⟨w.heap.size, 0, none⟩ (.slice C1 p1 f1)).setCell ⟨w.heap.size, 1, none⟩ (.int .i64 R.now.step)).setCell ⟨w.heap.size, 2, none⟩ (.slice C2 p2 f2)).setCell ⟨w.heap.size, 3, none⟩ (.slice C3 p3 f3)) lo (.agg #[.slice C1 p1 f1, .int .i64 R.now.step, .slice C2 p2 f2, .slice C3 p3 f3]) R ∧ QuaW (((((w1.alloc (.cells #[.slice C1 p1 f1, .int .i64 R.now.step, .slice C2 p2 f2, .slice C3 p3 f3] 34)).setCell ⟨w.heap.size, 0, none⟩ (.slice C1 p1 f1)).setCell ⟨w.heap.size, 1, none⟩ (.int .i64 R.now.step)).setCell ⟨w.heap.size, 2, none⟩ (.slice C2 p2 f2)).setCell ⟨w.heap.size, 3, none⟩ (.slice C3 p3 f3)) w.heap.size (.slice C1 p1 f1) (.int .i64 R.now.step) (.slice C2 p2 f2) (.slice C3 p3 f3) ∧ QuaW (((((w1.alloc (.cells #[.slice C1 p1 f1, .int .i64 R.now.step, .slice C2 p2 f2, .slice C3 p3 f3] 34)).setCell ⟨w.heap.size, 0, none⟩ (.slice C1 p1 f1)).setCell ⟨w.heap.size, 1, none⟩ (.int .i64 R.now.step)).setCell ⟨w.heap.size, 2, none⟩ (.slice C2 p2 f2)).setCell ⟨w.heap.size, 3, none⟩ (.slice C3 p3 f3)) (w.heap.size + 1) (.slice none 0 0) (.int .i64 0) (.slice none 0 0) (.slice none 0 0) ∧ DTag (((((w1.alloc (.cells #[.slice C1 p1 f1, .int .i64 R.now.step, .slice C2 p2 f2, .slice C3 p3 f3] 34)).setCell ⟨w.heap.size, 0, none⟩ (.slice C1 p1 f1)).setCell ⟨w.heap.size, 1, none⟩ (.int .i64 R.now.step)).setCell ⟨w.heap.size, 2, none⟩ (.slice C2 p2 f2)).setCell ⟨w.heap.size, 3, none⟩ (.slice C3 p3 f3)) w.heap.size ∧ DTag (((((w1.alloc (.cells #[.slice C1 p1 f1, .int .i64 R.now.step, .slice C2 p2 f2, .slice C3 p3 f3] 34)).setCell ⟨w.heap.size, 0, none⟩ (.slice C1 p1 f1)).setCell ⟨w.heap.size, 1, none⟩ (.int .i64 R.now.step)).setCell ⟨w.heap.size, 2, none⟩ (.slice C2 p2 f2)).setCell ⟨w.heap.size, 3, none⟩ (.slice C3 p3 f3)) (w.heap.size + 1) ∧ GrP lo w (((((w1.alloc (.cells #[.slice C1 p1 f1, .int .i64 R.now.step, .slice C2 p2 f2, .slice C3 p3 f3] 34)).setCell ⟨w.heap.size, 0, none⟩ (.slice C1 p1 f1)).setCell ⟨w.heap.size, 1, none⟩ (.int .i64 R.now.step)).setCell ⟨w.heap.size, 2, none⟩ (.slice C2 p2 f2)).setCell ⟨w.heap.size, 3, none⟩ (.slice C3 p3 f3)) from
        ⟨hdk.out.set4 gta.out _ _ _ _, (((ta.out.set0 _).set1 _).set2 _).set3 _, (((tr.out.other (by simp) _).other (by simp) _).other (by simp) _).other (by simp) _, (((gta.out.at _).at _).at _).at _, (((gtr.out.at _).at _).at _).at _, (((hG1.out.setNew (Nat.le_refl _) _).setNew (Nat.le_refl _) _).setNew (Nat.le_refl _) _).setNew (Nat.le_refl _) _⟩)
      obtain ⟨a0, a1, a2, a3, af0, af1, af2, af3, _⟩ := ta.out
      obtain ⟨b0, b1, b2, b3, bf0, bf1, bf2, bf3, _⟩ := t9.out
      clear hdk tr gta gtr hG1 ta t9 hb9 hlt9
      obtain ⟨K, hKb⟩ : ∃ K, Hid (deskB D x = K) := ⟨_, hide rfl⟩
      rw [hKb.out] at hst2 ⊢
      cases K with
      | false =>
        have hN := hide (show runN d (ds.take (k + 1)) = M from by have := hst2.out; simpa using this)
        clear hst2
        go_wp2
        go_roundw
        case rel =>
          obtain ⟨z1, z2, z3, z4, z5, z6⟩ := hfin.out
          exact ⟨k + 1, C1, p1, f1, C2, p2, f2, C3, p3, f3, by omega, by go_num, by rw [hN.out], hide (by rw [hst1.out]; exact z1), hide (by rw [hst1.out]; exact z2), hide z3, hide z4, hide z5, hide z6⟩
        case measure => simp [intOf]; omega
      | true =>
        have hN := hide (show runN d (ds.take (k + 1)) = M + 1 from by have := hst2.out; simpa using this)
        clear hst2
        go_wp2
        go_roundw
        case rel =>
          obtain ⟨z1, z2, z3, z4, z5, z6⟩ := hfin.out
          exact ⟨k + 1, C1, p1, f1, C2, p2, f2, C3, p3, f3, by omega, by go_num, by rw [hN.out]; go_num, hide (by rw [hst1.out]; exact z1), hide (by rw [hst1.out]; exact z2), hide z3, hide z4, hide z5, hide z6⟩
        case measure => simp [intOf]; omega
    · obtain rfl : k = nl := by omega
      have htk : ds.take k = ds := List.take_of_length_le (by have := hlen.out; omega)
      rw [htk] at hdk ta ⊢
      clear htk hokD hMl
      have hsz := hide hG.out.size
      obtain ⟨a0, a1, a2, a3, af0, af1, af2, af3, _⟩ := ta.out
      obtain ⟨b0, b1, b2, b3, bf0, bf1, bf2, bf3, _⟩ := tr.out
      go_wp2_with fail
      obtain ⟨z0, z1, z2, z3, _⟩ := (((tr.out.set0 (.slice B1 m1 e1)).set1 (.int .i64 (runD d ds).now.step)).set2 (.slice B2 m2 e2)).set3 (.slice B3 m3 e3)
      exact bodyPost_ret (v := .tuple #[.agg #[.slice B1 m1 e1, .int .i64 (runD d ds).now.step, .slice B2 m2 e2, .slice B3 m3 e3], .int .i64 (runN d ds)]) (by simp [results, Tryd.results54, go_sem, z0, z1, z2, z3]) rfl ⟨_, rfl, hdk.out.set4 gtr.out _ _ _ _, (((hG.out.setNew (Nat.le_succ _) _).setNew (Nat.le_succ _) _).setNew (Nat.le_succ _) _).setNew (Nat.le_succ _) _⟩



set_option maxRecDepth 100000 in
set_option maxHeartbeats 3200000 in
theorem deskRun_impl (v : Value) (d : Dsk) (ds : List Ded) (Al : Option Addr) (nl cl B : Nat) (w : World) (h : DkM w B v d) (hB : B ≤ w.heap.size) (hl : DdM w w.heap.size Al nl cl ds) (hD : LaidD w) :
    Calls Tryd.prog 19 #[v, .slice Al nl cl] w fun e w' => ∃ u, e = .returned (.tuple #[u, .int .i64 (deskN d ds)]) ∧ DkR w' w.heap.size u (deskR d ds) ∧ Below w.heap.size w w' := by
  have hdk := hide (h.more hB)
  have hnb := hl.nb
  have hlen := hide hl.len
  obtain ⟨A, n, c, A2, n2, c2, A3, n3, c3, rfl, i1, i2, hwf, i3⟩ := h.ex
  clear i1 i2 i3 hwf h hB
  replace hl := hide hl
  have hb := hide (show Below w.heap.size w ((w.alloc (.cells #[.slice A n c, .int .i64 d.now.step, .slice A2 n2 c2, .slice A3 n3 c3] 34)).alloc (.cells #[.slice none 0 0, .int .i64 0, .slice none 0 0, .slice none 0 0] 34)) from (al w _).alloc (by simp) _)
  have ta := hide (show QuaW ((w.alloc (.cells #[.slice A n c, .int .i64 d.now.step, .slice A2 n2 c2, .slice A3 n3 c3] 34)).alloc (.cells #[.slice none 0 0, .int .i64 0, .slice none 0 0, .slice none 0 0] 34)) w.heap.size (.slice A n c) (.int .i64 d.now.step) (.slice A2 n2 c2) (.slice A3 n3 c3) from (QuaW.made w _ _ _ _ _).alloc _)
  have tr := hide (show QuaW ((w.alloc (.cells #[.slice A n c, .int .i64 d.now.step, .slice A2 n2 c2, .slice A3 n3 c3] 34)).alloc (.cells #[.slice none 0 0, .int .i64 0, .slice none 0 0, .slice none 0 0] 34)) (w.heap.size + 1) (.slice none 0 0) (.int .i64 0) (.slice none 0 0) (.slice none 0 0) from by have := QuaW.made (w.alloc (.cells #[.slice A n c, .int .i64 d.now.step, .slice A2 n2 c2, .slice A3 n3 c3] 34)) (.slice none 0 0) (.int .i64 0) (.slice none 0 0) (.slice none 0 0) 34; simpa using this)
  have gr := hide (show DTag ((w.alloc (.cells #[.slice A n c, .int .i64 d.now.step, .slice A2 n2 c2, .slice A3 n3 c3] 34)).alloc (.cells #[.slice none 0 0, .int .i64 0, .slice none 0 0, .slice none 0 0] 34)) (w.heap.size + 1) from by have := DTag.made (w.alloc (.cells #[.slice A n c, .int .i64 d.now.step, .slice A2 n2 c2, .slice A3 n3 c3] 34)) #[.slice none 0 0, .int .i64 0, .slice none 0 0, .slice none 0 0]; simpa using this)
  replace hdk := hide (hdk.out.up hb.out)
  replace hD := hide (hD.up hb.out)
  replace hl := hide (hl.out.up hb.out)
  have HO := hide (deskOk_impl _ d _ ((w.alloc (.cells #[.slice A n c, .int .i64 d.now.step, .slice A2 n2 c2, .slice A3 n3 c3] 34)).alloc (.cells #[.slice none 0 0, .int .i64 0, .slice none 0 0, .slice none 0 0] 34)) hdk.out (Nat.le_refl _))
  cases hok : deskOk d with
  | false =>
    rw [hok] at HO
    have hno := hide (show deskN d ds = 0 ∧ deskR d ds = noDsk by unfold deskN deskR runOk; rw [hok]; exact ⟨rfl, rfl⟩)
    go_enter Tryd.func19, Tryd.ntmps19
    obtain ⟨q1c0, q1c1, q1c2, q1c3, q1f0, q1f1, q1f2, q1f3, _⟩ := ta.out
    obtain ⟨q2c0, q2c1, q2c2, q2c3, q2f0, q2f1, q2f2, q2f3, _⟩ := tr.out
    go_wp2_with fail
    refine (HO.out).mono ?_
    rintro e w1 ⟨rfl, hq⟩
    replace gr := hide (gr.out.up hq)
    replace hdk := hide (hdk.out.up hq)
    replace hD := hide (hD.out.up hq)
    replace hl := hide (hl.out.up hq)
    replace ta := hide (ta.out.up hq)
    replace tr := hide (tr.out.up hq)
    replace hb := hide (upB hb.out hq)
    clear hq
    clear q1c0 q1c1 q1c2 q1c3 q1f0 q1f1 q1f2 q1f3 q2c0 q2c1 q2c2 q2c3 q2f0 q2f1 q2f2 q2f3
    obtain ⟨q3c0, q3c1, q3c2, q3c3, q3f0, q3f1, q3f2, q3f3, _⟩ := ta.out
    obtain ⟨q4c0, q4c1, q4c2, q4c3, q4f0, q4f1, q4f2, q4f3, _⟩ := tr.out
    go_wp2_with fail
    obtain ⟨z0, z1, z2, z3, _⟩ := ((((tr.out.set0 (.slice none 0 0)).set1 (.int .i64 0)).set2 (.slice none 0 0)).set3 (.slice none 0 0))
    exact bodyPost_ret (v := .tuple #[.agg #[.slice none 0 0, .int .i64 0, .slice none 0 0, .slice none 0 0], .int .i64 0]) (by simp [results, Tryd.results19, go_sem, z0, z1, z2, z3]) rfl ⟨_, by rw [hno.out.1], by rw [hno.out.2]; exact noDkR, (((hb.out.setCell (by simp only; omega) _).setCell (by simp only; omega) _).setCell (by simp only; omega) _).setCell (by simp only; omega) _⟩
  | true =>
    rw [hok] at HO
    by_cases h40 : 40 < nl
    ·
      have hno := hide (show deskN d ds = 0 ∧ deskR d ds = noDsk by unfold deskN deskR runOk; rw [hok, hlen.out, decide_eq_false (by omega)]; exact ⟨rfl, rfl⟩)
      go_enter Tryd.func19, Tryd.ntmps19
      obtain ⟨q5c0, q5c1, q5c2, q5c3, q5f0, q5f1, q5f2, q5f3, _⟩ := ta.out
      obtain ⟨q6c0, q6c1, q6c2, q6c3, q6f0, q6f1, q6f2, q6f3, _⟩ := tr.out
      go_wp2_with fail
      refine (HO.out).mono ?_
      rintro e w1 ⟨rfl, hq⟩
      replace gr := hide (gr.out.up hq)
      replace hdk := hide (hdk.out.up hq)
      replace hD := hide (hD.out.up hq)
      replace hl := hide (hl.out.up hq)
      replace ta := hide (ta.out.up hq)
      replace tr := hide (tr.out.up hq)
      replace hb := hide (upB hb.out hq)
      clear hq
      clear q5c0 q5c1 q5c2 q5c3 q5f0 q5f1 q5f2 q5f3 q6c0 q6c1 q6c2 q6c3 q6f0 q6f1 q6f2 q6f3
      obtain ⟨q7c0, q7c1, q7c2, q7c3, q7f0, q7f1, q7f2, q7f3, _⟩ := ta.out
      obtain ⟨q8c0, q8c1, q8c2, q8c3, q8f0, q8f1, q8f2, q8f3, _⟩ := tr.out
      go_wp2_with fail
      obtain ⟨z0, z1, z2, z3, _⟩ := ((((tr.out.set0 (.slice none 0 0)).set1 (.int .i64 0)).set2 (.slice none 0 0)).set3 (.slice none 0 0))
      exact bodyPost_ret (v := .tuple #[.agg #[.slice none 0 0, .int .i64 0, .slice none 0 0, .slice none 0 0], .int .i64 0]) (by simp [results, Tryd.results19, go_sem, z0, z1, z2, z3]) rfl ⟨_, by rw [hno.out.1], by rw [hno.out.2]; exact noDkR, (((hb.out.setCell (by simp only; omega) _).setCell (by simp only; omega) _).setCell (by simp only; omega) _).setCell (by simp only; omega) _⟩
    ·
      have hye := hide (show deskN d ds = (runN d ds : Int) ∧ deskR d ds = runD d ds by unfold deskN deskR runOk; rw [hok, hlen.out, decide_eq_true (by omega)]; exact ⟨rfl, rfl⟩)
      obtain ⟨hs1, hs2, hs3⟩ := small_ok hok
      replace hs3 := hide hs3
      go_enter Tryd.func19, Tryd.ntmps19
      obtain ⟨q9c0, q9c1, q9c2, q9c3, q9f0, q9f1, q9f2, q9f3, _⟩ := ta.out
      obtain ⟨q10c0, q10c1, q10c2, q10c3, q10f0, q10f1, q10f2, q10f3, _⟩ := tr.out
      go_wp2_with fail
      refine (HO.out).mono ?_
      rintro e w1 ⟨rfl, hq⟩
      replace gr := hide (gr.out.up hq)
      replace hdk := hide (hdk.out.up hq)
      replace hD := hide (hD.out.up hq)
      replace hl := hide (hl.out.up hq)
      replace ta := hide (ta.out.up hq)
      replace tr := hide (tr.out.up hq)
      replace hb := hide (upB hb.out hq)
      clear hq
      have hlt := hide (show w.heap.size + 1 + 1 ≤ w1.heap.size from by have := tr.out.lt; omega)
      obtain ⟨R, hR⟩ : ∃ R, Hid (deskR d ds = R) := ⟨_, hide rfl⟩
      obtain ⟨M, hM⟩ : ∃ M : Int, Hid (deskN d ds = M) := ⟨_, hide rfl⟩
      have HA := hide (fun (W : World) (hq : Below w1.heap.size w1 W) => show Calls Tryd.prog 46 #[.agg #[.slice A n c, .int .i64 d.now.step, .slice A2 n2 c2, .slice A3 n3 c3]] W (fun e w' => ∃ u, e = .returned u ∧ DkR w' w1.heap.size u d ∧ Below w1.heap.size w1 w') from
        (copiedDesk_c _ d _ W (hdk.out.up hq) (Nat.le_refl _) hs1 hs2 hs3.out).mono fun e w' ⟨u, e1, h1, h2⟩ => ⟨u, e1, h1.down hq.size, upB hq h2⟩)
      have HB := hide (fun (W : World) (u : Value) (hu : DkR W w1.heap.size u d) (hq : Below w1.heap.size w1 W) => show Calls Tryd.prog 54 #[u, .slice Al nl cl] W (fun e w' => ∃ u', e = .returned (.tuple #[u', .int .i64 M]) ∧ DkR w' w1.heap.size u' R ∧ Below w1.heap.size w1 w') from
        (deskAfterAll_c u d ds Al nl cl w1.heap.size W hu hq.size hok (by omega) (fun w2 hg => by
          have hq2 := hg.belowUp hq (Nat.le_refl _) (Nat.le_refl _)
          exact ⟨hD.out.up hq2, hl.out.up hq2⟩)).mono fun e w' ⟨u', e1, h1, h2⟩ => ⟨u', by rw [e1, ← hM.out, hye.out.1], by rw [← hR.out, hye.out.2]; exact h1, h2.belowUp hq (Nat.le_refl _) (Nat.le_refl _)⟩)
      clear q9c0 q9c1 q9c2 q9c3 q9f0 q9f1 q9f2 q9f3 q10c0 q10c1 q10c2 q10c3 q10f0 q10f1 q10f2 q10f3
      obtain ⟨q11c0, q11c1, q11c2, q11c3, q11f0, q11f1, q11f2, q11f3, _⟩ := ta.out
      obtain ⟨q12c0, q12c1, q12c2, q12c3, q12f0, q12f1, q12f2, q12f3, _⟩ := tr.out
      go_wp2_with fail
      clear q11c0 q11c1 q11c2 q11c3 q11f0 q11f1 q11f2 q11f3 q12c0 q12c1 q12c2 q12c3 q12f0 q12f1 q12f2 q12f3
      refine (HA.out _ (Below.refl _ _)).mono ?_
      rintro e w2 ⟨u, rfl, hua, hqa⟩
      go_wp2_with fail
      refine (HB.out _ _ hua hqa).mono ?_
      rintro e w3 ⟨u2, rfl, hub, hqb⟩
      clear hua hqa HA HB
      replace gr := hide (gr.out.up hqb)
      replace hdk := hide (hdk.out.up hqb)
      replace hD := hide (hD.out.up hqb)
      replace hl := hide (hl.out.up hqb)
      replace ta := hide (ta.out.up hqb)
      replace tr := hide (tr.out.up hqb)
      replace hb := hide (upB hb.out hqb)
      obtain ⟨B1, m1, e1, B2, m2, e2, B3, m3, e3, ts2, rfl, y1, y2, y3, y4⟩ := hub.open_
      clear y1 y2 y3 y4 ts2
      replace hub := hide hub
      obtain ⟨q13c0, q13c1, q13c2, q13c3, q13f0, q13f1, q13f2, q13f3, _⟩ := ta.out
      obtain ⟨q14c0, q14c1, q14c2, q14c3, q14f0, q14f1, q14f2, q14f3, _⟩ := tr.out
      go_wp2_with fail
      obtain ⟨z0, z1, z2, z3, _⟩ := ((((tr.out.set0 (.slice B1 m1 e1)).set1 (.int .i64 R.now.step)).set2 (.slice B2 m2 e2)).set3 (.slice B3 m3 e3))
      exact bodyPost_ret (v := .tuple #[.agg #[.slice B1 m1 e1, .int .i64 R.now.step, .slice B2 m2 e2, .slice B3 m3 e3], .int .i64 M]) (by simp [results, Tryd.results19, go_sem, z0, z1, z2, z3]) rfl ⟨_, by rw [hM.out], by rw [hR.out]; exact (hub.out.set4 gr.out _ _ _ _).down (by have := hlt.out; omega), (((hb.out.setCell (by simp only; omega) _).setCell (by simp only; omega) _).setCell (by simp only; omega) _).setCell (by simp only; omega) _⟩
end Go.Proofs.YtoafpokcbbncfaaDoor
