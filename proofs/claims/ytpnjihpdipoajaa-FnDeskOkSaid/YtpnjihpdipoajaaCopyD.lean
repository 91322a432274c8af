/-
  Contracts of chapter 14, the specification's side: l15Copy.
-/
import Derived.Test.YtpnjihpdipoajaaPastZ
namespace Go.Proofs.Ytpnjihpdipoajaa
open Go.RowKit
set_option linter.unusedVariables false

theorem PsZ.pushM {w w' : World} {base m c' : Nat} {v u : Value} {A' : Option Addr} {us : List Value} {ps : List Plc} {p : Plc} (hm : m = ps.length) (h1 : us.length = ps.length) (h2 : w.ownsRow base 25 3 v m (cellsP us)) (h3 : ∀ (j : Nat) u p, us[j]? = some u → ps[j]? = some p → PlZ w base u p)
    (hu : PlZ w base u p) (hr : w'.ownsRow base 25 3 (.slice A' (m + 1) c') (m + 1) (cellsP us ++ u.cells.toList)) (hg : w.grownBy w' v.ownBlock) : PsZ w' base (.slice A' (m + 1) c') (ps ++ [p]) := by
  subst hm
  exact PsZ.push h1 h2 h3 hu hr hg
theorem PsZ.down {w : World} {base base' : Nat} {v : Value} {ps : List Plc} (h : PsZ w base v ps) (hb : base' ≤ base) : PsZ w base' v ps := by
  obtain ⟨us, h1, h2, h3⟩ := h.ex
  exact ⟨us, h1, ownsRow_down h2 hb, fun j u p hu hp => (h3 j u p hu hp).down hb⟩
theorem PlZ.drew {w : World} {base : Nat} {v : Value} {p : Plc} (h : PlZ w base v p) : PlZ w.drew base v p := h.up (Below.refl _ _).drew
theorem PlZ.alloc {w : World} {base : Nat} {v : Value} {p : Plc} (h : PlZ w base v p) (o : Obj) : PlZ (w.alloc o) base v p := h.up (al w o)
theorem drewRow {w : World} {b m : Nat} {e : TypeId} {sz : Nat} {v : Value} {xs : List Value} (h : w.ownsRow b e sz v m xs) : w.drew.ownsRow b e sz v m xs := h
set_option maxRecDepth 100000 in
set_option maxHeartbeats 6400000 in
theorem l15Copy_c (v : Value) (d : Dsk) (B : Nat) (w : World) (h : DkM w B v d) (hB : B ≤ w.heap.size) (hok : deskOk d = true) :
    Calls Try.prog 69 #[v] w fun e w' => ∃ A n c A' n' c' A3 n3 c3, e = .returned (.agg #[.slice A n c, .int .i64 d.now.step, .slice A' n' c', .slice A3 n3 c3]) ∧ PlZ w' w.heap.size (.agg #[.slice A n c, .int .i64 d.now.step, .slice A' n' c']) d.now ∧ PsZ w' w.heap.size (.slice A3 n3 c3) d.past ∧ Below w.heap.size w w' := by
  obtain ⟨i0, hi, hz0, hz1, hz2⟩ := info_parts infoPlace
  obtain ⟨A, n, c, A', n', c', A3, n3, c3, rfl, h1, h2, hwf, hps⟩ := h.ex
  obtain ⟨hpast, hnow, h8⟩ := deskOk_yes hok
  have hl3 := hps.len
  have hn8 : n3 ≤ 8 := by omega
  have hl3 := hide hl3
  have hq0 := hide (show Below w.heap.size w ((w.alloc (.cells #[.slice A n c, .int .i64 d.now.step, .slice A' n' c', .slice A3 n3 c3] 32)).alloc (.cells #[.slice none 0 0, .int .i64 0, .slice none 0 0, .slice none 0 0] 32)) from (al w _).alloc (by simp) _)
  have ht := hide (show Qua ((w.alloc (.cells #[.slice A n c, .int .i64 d.now.step, .slice A' n' c', .slice A3 n3 c3] 32)).alloc (.cells #[.slice none 0 0, .int .i64 0, .slice none 0 0, .slice none 0 0] 32)) w.heap.size (.slice A n c) (.int .i64 d.now.step) (.slice A' n' c') (.slice A3 n3 c3) from (Qua.made w _ _ _ _ _).up (al _ _))
  have hz9 := hide (show QuaW ((w.alloc (.cells #[.slice A n c, .int .i64 d.now.step, .slice A' n' c', .slice A3 n3 c3] 32)).alloc (.cells #[.slice none 0 0, .int .i64 0, .slice none 0 0, .slice none 0 0] 32)) (w.heap.size + 1) (.slice none 0 0) (.int .i64 0) (.slice none 0 0) (.slice none 0 0) from by have := QuaW.made (w.alloc (.cells #[.slice A n c, .int .i64 d.now.step, .slice A' n' c', .slice A3 n3 c3] 32)) (.slice none 0 0) (.int .i64 0) (.slice none 0 0) (.slice none 0 0) 32; simpa using this)
  obtain ⟨⟨g1, g3⟩, _, _, g6, _⟩ := placeOk_yes hnow
  obtain ⟨WX, hWe⟩ : ∃ WX, Hid (((w.alloc (.cells #[.slice A n c, .int .i64 d.now.step, .slice A' n' c', .slice A3 n3 c3] 32)).alloc (.cells #[.slice none 0 0, .int .i64 0, .slice none 0 0, .slice none 0 0] 32)) = WX) := ⟨_, hide rfl⟩
  rw [hWe.out] at hq0 ht hz9
  have HN := hide (l15Place_c _ d.now _ WX (plM_mk ((h1.more hB).up hq0.out) ((h2.more hB).up hq0.out) hwf) (Nat.le_refl _) g1 (by omega) (by omega))
  have hpX := hide ((hps.more hB).up hq0.out)
  obtain ⟨q0, q1, q2, q3, _⟩ := ht.out
  have hpast := hide hpast
  clear hok hnow g1 g3 g6 h8
  have hW1 := hWe.out
  subst hW1
  go_enter Try.func69, Try.ntmps69
  go_wp2_with fail
  refine HN.out.mono ?_
  rintro e w1 ⟨u, rfl, hp1, hq1⟩
  have hp1 := hide hp1
  obtain ⟨A4, n4, c4, A5, n5, c5, rfl, _⟩ := hp1.out.ex
  have ht1 := hide (ht.out.up hq1)
  have hz91 := hide (hz9.out.up hq1)
  have hb1 := hide (upB hq0.out hq1)
  have hpX1 := hide (hpX.out.up hq1)
  have hlw := hz91.out.lt
  clear hq1 HN q0 q1 q2 q3
  go_wp2_with fail
  have hzs := hide (QuaW.made w1 (.slice A4 n4 c4) (.int .i64 d.now.step) (.slice A5 n5 c5) (.slice none 0 0) 32)
  have hbs := hide (al w1 (.cells #[.slice A4 n4 c4, .int .i64 d.now.step, .slice A5 n5 c5, .slice none 0 0] 32))
  go_loopw [4] (fun i wr => ∃ k : Nat, ∃ Ap mp cp, k ≤ n3 ∧ i = .int .i64 k ∧ Hid (PsZ wr (w1.heap.size + 1) (.slice Ap mp cp) (d.past.take k)) ∧ Hid (QuaW wr w1.heap.size (.slice A4 n4 c4) (.int .i64 d.now.step) (.slice A5 n5 c5) (.slice Ap mp cp)) ∧ Hid (Below w1.heap.size w1 wr)) (fun i _ => n3 - (intOf i).toNat)
  case atStart => exact ⟨0, none, 0, 0, Nat.zero_le _, rfl, hide PsZ.none_, hzs, hbs⟩
  case round =>
    clear hzs hbs
    obtain ⟨k, Ap, mp, cp, hk, rfl, hP, hz, hb⟩ := hrel
    have hzlt := hz.out.lt
    obtain ⟨z0, z1, z2, z3, y0, y1, y2, y3, _⟩ := hz.out
    obtain ⟨t0, t1, t2, t3, _⟩ := ht1.out.up hb.out
    by_cases hlt : k < n3
    · obtain ⟨b, off, p, rfl, hbB, hx, hc⟩ := (hpX1.out.below hb.out).look hlt
      obtain ⟨B1, m1, k1, B2, m2, k2, e1, e2, e3, hm⟩ := hc.plM
      obtain ⟨⟨p1, p3⟩, _, _, p6, _⟩ := placeOk_yes (hpast.out p (List.mem_of_getElem? hx.out))
      obtain ⟨us, hus, hrow0, hall⟩ := hP.out.ex
      have hmp := hide hP.out.row.1
      have hmk : mp ≤ 8 := by have := hmp.out; rw [List.length_take] at this; omega
      have hrow := hide (show wr.ownsRow (w1.heap.size + 1) 25 3 (.slice Ap mp cp) mp (cellsP us) by rw [← hmp.out] at hrow0; exact hrow0)
      have hus := hide hus
      have hall := hide hall
      clear hrow0 hc
      have HC := hide (fun (W : World) (hq : Below wr.heap.size wr W) => show Calls Try.prog 38 #[.agg #[.slice B1 m1 k1, .int .i64 p.step, .slice B2 m2 k2]] W (fun e w' => ∃ A7 n7 c7 A8 n8 c8, e = .returned (.agg #[.slice A7 n7 c7, .int .i64 p.step, .slice A8 n8 c8]) ∧ Hid (PlZ w' wr.heap.size (.agg #[.slice A7 n7 c7, .int .i64 p.step, .slice A8 n8 c8]) p) ∧ Below wr.heap.size wr w' ∧ w'.cell? ⟨w.heap.size, 3, none⟩ = some (.slice (some ⟨b, off, none⟩) n3 c3) ∧ w'.cell? ⟨b, off + k * 3, none⟩ = some (.slice B1 m1 k1) ∧ w'.cell? ⟨b, off + k * 3 + 1, none⟩ = some (.int .i64 p.step) ∧ w'.cell? ⟨b, off + k * 3 + 2, none⟩ = some (.slice B2 m2 k2)) from
        (l15Place_c _ p _ W ((hm.more (Nat.le_of_lt hzlt)).up hq) (Nat.le_refl _) p1 (by omega) (by omega)).mono fun e w' ⟨u, e0, hp0, hq0⟩ => by
          obtain ⟨A7, n7, c7, A8, n8, c8, e5, _⟩ := hp0.ex
          subst e5
          have hqq := upB hq hq0
          exact ⟨A7, n7, c7, A8, n8, c8, e0, hide (hp0.down hq.size), hqq, (hqq.cell (p := ⟨w.heap.size, 3, none⟩) (show w.heap.size < wr.heap.size by omega)).trans t3, (hqq.cell (p := ⟨b, off + k * 3, none⟩) (Nat.lt_trans hbB hzlt)).trans e1, (hqq.cell (p := ⟨b, off + k * 3 + 1, none⟩) (Nat.lt_trans hbB hzlt)).trans e2, (hqq.cell (p := ⟨b, off + k * 3 + 2, none⟩) (Nat.lt_trans hbB hzlt)).trans e3⟩)
      go_wp2_with fail
      go_region_law (first | (refine step_push _ rfl _ _ 30 rfl (w1.heap.size + 1) 25 i0 (.agg #[.slice none 0 0, .int .i64 0, .slice none 0 0]) 3 56 Try.underlying30 hi hz0 hz1 hz2 rfl (by decide) (by decide) (.slice Ap mp cp) mp _ rfl hr3.out _ 1 [.slice A7 n7 c7, .int .i64 p.step, .slice A8 n8 c8] rfl rfl (fun j u hu => hlc.out j u hu) (by intro u hu; simp at hu; rcases hu with rfl | rfl | rfl <;> rfl) (by omega) (by simp; omega) ?_; intro A9 c9 w4 hr4 hg4; have hz4 := hide (QuaW.grown hz3.out hg4 (fun q hq => by have := (hrow.out.lt q hq).1; omega)); obtain ⟨x0, x1, x2, x3, y0, y1, y2, y3, _⟩ := hz4.out; have hb4 := hide (Below.grown hb3.out hg4 (by simp; omega) (fun q hq => (hrow.out.lt q hq).1)); have v1 := (hb4.out.cell (p := ⟨w.heap.size, 3, none⟩) (show w.heap.size < w1.heap.size + 1 by omega)).trans t3; have hb5 := hide ((hb4.out.mono (Nat.le_succ w1.heap.size)).setCell (p := ⟨w1.heap.size, 3, none⟩) (Nat.le_refl _) (.slice A9 (mp + 1) c9))) | (refine step_push _ rfl _ _ 30 rfl (w1.heap.size + 1) 25 i0 (.agg #[.slice none 0 0, .int .i64 0, .slice none 0 0]) 3 56 Try.underlying30 hi hz0 hz1 hz2 rfl (by decide) (by decide) (.slice Ap mp cp) mp _ rfl (drewRow hr3.out) _ 1 [.slice A7 n7 c7, .int .i64 p.step, .slice A8 n8 c8] rfl rfl (fun j u hu => hlc.out j u hu) (by intro u hu; simp at hu; rcases hu with rfl | rfl | rfl <;> rfl) (by omega) (by simp; omega) ?_; intro A9 c9 w4 hr4 hg4; have hz4 := hide (QuaW.grown hz3.out.drew hg4 (fun q hq => by have := (hrow.out.lt q hq).1; omega)); obtain ⟨x0, x1, x2, x3, y0, y1, y2, y3, _⟩ := hz4.out; have hb4 := hide (Below.grown hb3.out.drew hg4 (by simp; omega) (fun q hq => (hrow.out.lt q hq).1)); have v1 := (hb4.out.cell (p := ⟨w.heap.size, 3, none⟩) (show w.heap.size < w1.heap.size + 1 by omega)).trans t3; have hb5 := hide ((hb4.out.mono (Nat.le_succ w1.heap.size)).setCell (p := ⟨w1.heap.size, 3, none⟩) (Nat.le_refl _) (.slice A9 (mp + 1) c9))) | (refine step_push _ rfl _ _ 30 rfl (w1.heap.size + 1) 25 i0 (.agg #[.slice none 0 0, .int .i64 0, .slice none 0 0]) 3 56 Try.underlying30 hi hz0 hz1 hz2 rfl (by decide) (by decide) (.slice Ap mp cp) mp _ rfl (drewRow (drewRow hr3.out)) _ 1 [.slice A7 n7 c7, .int .i64 p.step, .slice A8 n8 c8] rfl rfl (fun j u hu => hlc.out j u hu) (by intro u hu; simp at hu; rcases hu with rfl | rfl | rfl <;> rfl) (by omega) (by simp; omega) ?_; intro A9 c9 w4 hr4 hg4; have hz4 := hide (QuaW.grown hz3.out.drew.drew hg4 (fun q hq => by have := (hrow.out.lt q hq).1; omega)); obtain ⟨x0, x1, x2, x3, y0, y1, y2, y3, _⟩ := hz4.out; have hb4 := hide (Below.grown hb3.out.drew.drew hg4 (by simp; omega) (fun q hq => (hrow.out.lt q hq).1)); have v1 := (hb4.out.cell (p := ⟨w.heap.size, 3, none⟩) (show w.heap.size < w1.heap.size + 1 by omega)).trans t3; have hb5 := hide ((hb4.out.mono (Nat.le_succ w1.heap.size)).setCell (p := ⟨w1.heap.size, 3, none⟩) (Nat.le_refl _) (.slice A9 (mp + 1) c9))) | (go_simp; go_at_call 38; (with_reducible refine (HC.out _ ?_).mono ?_); (focus (repeat (first | assumption | exact Below.refl _ _ | refine Below.drew ?_)); done); rintro e w2 ⟨A7, n7, c7, A8, n8, c8, rfl, hp2, hq2, s1, s2, s3, s4⟩; have hq2s := hq2.size; have s5 : w2.cell? ⟨w1.heap.size, 3, none⟩ = some (.slice Ap mp cp) := (hz.out.up hq2).c3; have s6 : ∀ o, (w2.alloc o).cell? ⟨w1.heap.size, 3, none⟩ = some (.slice Ap mp cp) := fun o => (World.cell?_alloc_lt w2 o ⟨w1.heap.size, 3, none⟩ (Nat.lt_of_lt_of_le hzlt hq2s)).trans s5; have hr2 := hide (hrow.out.kept (row := none) ⟨hq2.os, hq2.tape, hq2.output, hq2.size, fun k hk _ => hq2.block k hk⟩ (by cases (Value.slice Ap mp cp).ownBlock <;> simp)); have hlc := hide (show ∀ j u, ([.slice A7 n7 c7, .int .i64 p.step, .slice A8 n8 c8] : List Value)[j]? = some u → (w2.alloc (.cells #[.slice A7 n7 c7, .int .i64 p.step, .slice A8 n8 c8] 25)).cell? ⟨w2.heap.size, j, none⟩ = some u from lit_cellsAt w2 [.slice A7 n7 c7, .int .i64 p.step, .slice A8 n8 c8] _ _ rfl); have hr3 := hide (hr2.out.alloc (.cells #[.slice A7 n7 c7, .int .i64 p.step, .slice A8 n8 c8] 25)); have hz3 := hide ((hz.out.up hq2).alloc (.cells #[.slice A7 n7 c7, .int .i64 p.step, .slice A8 n8 c8] 25)); have hb3 := hide ((hq2.mono (Nat.succ_le_of_lt hzlt)).alloc (by omega) (.cells #[.slice A7 n7 c7, .int .i64 p.step, .slice A8 n8 c8] 25))))
      all_goals
        have hnx := hide (show d.past.take (k + 1) = d.past.take k ++ [p] by rw [List.take_add_one, hx.out]; rfl)
        have hP4 := hide (PsZ.pushM hmp.out hus.out (by first | exact hr3.out | exact drewRow hr3.out | exact drewRow (drewRow hr3.out)) (fun j u q hu hq => by first | exact ((hall.out j u q hu hq).up hq2).alloc _ | exact (((hall.out j u q hu hq).up hq2).alloc _).drew | exact (((hall.out j u q hu hq).up hq2).alloc _).drew.drew) (by first | exact (hp2.out.down (Nat.succ_le_of_lt hzlt)).alloc _ | exact ((hp2.out.down (Nat.succ_le_of_lt hzlt)).alloc _).drew | exact ((hp2.out.down (Nat.succ_le_of_lt hzlt)).alloc _).drew.drew) hr4 hg4)
        rw [← hnx.out] at hP4
        have hP5 := hide (hP4.out.setLow (a := ⟨w1.heap.size, 3, none⟩) (Nat.lt_succ_self _) (.slice A9 (mp + 1) c9))
        have hz5 := hide (hz4.out.set3 (.slice A9 (mp + 1) c9))
        have hb6 := hide (hb.out.trans hb5.out)
        clear hP4 hr4 hg4 hz4 hb4 hb5 hp2 hr2 hr3 hlc hz3 hb3 hall hP hz hb
        go_wp2_with fail
        go_roundw
        case rel => exact ⟨k + 1, _, _, _, by omega, by go_num, hP5, hz5, hb6⟩
        case measure => simp [intOf]; omega
    · obtain rfl : k = n3 := by omega
      have hall := hide (show d.past.take k = d.past from List.take_of_length_le (by have := hl3.out; omega))
      have hP2 := hide hP.out
      rw [hall.out] at hP2
      have hz8 := hide (hz91.out.up hb.out)
      obtain ⟨u0, u1, u2, u3, f0, f1, f2, f3, _⟩ := hz8.out
      have hT := hide ((((hz8.out.set0 (.slice A4 n4 c4)).set1 (.int .i64 d.now.step)).set2 (.slice A5 n5 c5)).set3 (.slice Ap mp cp))
      have hl9 : w.heap.size + 1 < w.heap.size + 2 := Nat.lt_succ_self _
      have hPl := hide (((((hp1.out.down (Nat.le_refl _)).up hb.out).setLow (a := ⟨w.heap.size + 1, 0, none⟩) (by simp) (.slice A4 n4 c4)).setLow (a := ⟨w.heap.size + 1, 1, none⟩) (by simp) (.int .i64 d.now.step)).setLow (a := ⟨w.heap.size + 1, 2, none⟩) (by simp) (.slice A5 n5 c5) |>.setLow (a := ⟨w.heap.size + 1, 3, none⟩) (by simp) (.slice Ap mp cp))
      have hPs := hide ((((hP2.out.setLow (a := ⟨w.heap.size + 1, 0, none⟩) (Nat.lt_succ_of_lt hlw) (.slice A4 n4 c4)).setLow (a := ⟨w.heap.size + 1, 1, none⟩) (Nat.lt_succ_of_lt hlw) (.int .i64 d.now.step)).setLow (a := ⟨w.heap.size + 1, 2, none⟩) (Nat.lt_succ_of_lt hlw) (.slice A5 n5 c5)).setLow (a := ⟨w.heap.size + 1, 3, none⟩) (Nat.lt_succ_of_lt hlw) (.slice Ap mp cp))
      have hBl := hide (((((upB hb1.out hb.out).setCell (p := ⟨w.heap.size + 1, 0, none⟩) (Nat.le_succ _) (.slice A4 n4 c4)).setCell (p := ⟨w.heap.size + 1, 1, none⟩) (Nat.le_succ _) (.int .i64 d.now.step)).setCell (p := ⟨w.heap.size + 1, 2, none⟩) (Nat.le_succ _) (.slice A5 n5 c5)).setCell (p := ⟨w.heap.size + 1, 3, none⟩) (Nat.le_succ _) (.slice Ap mp cp))
      go_wp2_with fail
      obtain ⟨k0, k1', k2', k3, _⟩ := hT.out
      exact bodyPost_ret (v := .agg #[.slice A4 n4 c4, .int .i64 d.now.step, .slice A5 n5 c5, .slice Ap mp cp]) (by simp [results, Try.results69, go_sem, k0, k1', k2', k3]) rfl ⟨_, _, _, _, _, _, _, _, _, rfl, hPl.out.down (by simp; omega), hPs.out.down (by omega), hBl.out⟩
end Go.Proofs.Ytpnjihpdipoajaa
