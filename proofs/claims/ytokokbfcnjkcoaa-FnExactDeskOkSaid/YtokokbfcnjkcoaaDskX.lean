/-
  Contracts of the exact laws' helpers over desks: toDesk, szDesk, eqDesk (written by wip/gen_e10.py).
-/
import Derived.Test.YtokokbfcnjkcoaaPlsX
namespace Go.Proofs.Ytokokbfcnjkcoaa
open Go.RowKit
set_option linter.unusedVariables false

/-- What toDesk hands back: a desk all of whose rows the call made. -/
structure DkO (w : World) (lo hi : Nat) (v : Value) (p : Dsk) : Prop where
  ex : ∃ g m d g' m' d' g3 m3 d3, v = .agg #[.slice (some ⟨g, 0, none⟩) m d, .int .i64 p.now.step, .slice (some ⟨g', 0, none⟩) m' d', .slice (some ⟨g3, 0, none⟩) m3 d3] ∧
    Own w lo (.slice (some ⟨g, 0, none⟩) m d) p.now.start ∧ Own w lo (.slice (some ⟨g', 0, none⟩) m' d') p.now.word ∧ g ≠ g' ∧ (Lit.int .i64 p.now.step).wf = true ∧ g < hi ∧ g' < hi ∧ OwnQ w hi w.heap.size (.slice (some ⟨g3, 0, none⟩) m3 d3) p.past ∧ lo ≤ hi
theorem DkO.up {w w' : World} {lo hi : Nat} {v : Value} {p : Dsk} (h : DkO w lo hi v p) (hq : Below w.heap.size w w') : DkO w' lo hi v p := by
  obtain ⟨g, m, d, g', m', d', g3, m3, d3, e, h1, h2, h3, h4, h5, h6, h7, h8⟩ := h.ex
  exact ⟨g, m, d, g', m', d', g3, m3, d3, e, h1.up hq, h2.up hq, h3, h4, h5, h6, (h7.up hq).wide hq.size, h8⟩
theorem DkO.dkM {w : World} {lo hi : Nat} {v : Value} {p : Dsk} (h : DkO w lo hi v p) : DkM w w.heap.size v p := by
  obtain ⟨g, m, d, g', m', d', g3, m3, d3, rfl, h1, h2, h3, h4, h5, h6, h7, h8⟩ := h.ex
  exact ⟨_, _, _, _, _, _, _, _, _, rfl, h1.ints, h2.ints, h4, h7.psM⟩
def smallD (p : Dsk) : Prop := smallP p.now ∧ p.past.length ≤ 1048576 ∧ ∀ q ∈ p.past, smallP q

set_option maxRecDepth 100000 in
set_option maxHeartbeats 3200000 in
theorem toDesk_c (v : Value) (p : Dsk) (B : Nat) (w : World) (h : DkM w B v p) (hB : B ≤ w.heap.size) (hsm : smallD p) :
    Calls Try.prog 20 #[v] w fun e w' => ∃ u, e = .returned u ∧ (∃ hi, DkO w' w.heap.size hi u p) ∧ Below w.heap.size w w' := by
  obtain ⟨A, n, c, A', n', c', A3, n3, c3, rfl, i1, i2, hwf, i3⟩ := h.ex
  have hl3 := hide i3.len
  obtain ⟨hs1, hs2, hs3⟩ := hsm
  have hs3 := hide hs3
  have hq0 := hide (show Below w.heap.size w (((w.alloc (.cells #[.slice A n c, .int .i64 p.now.step, .slice A' n' c', .slice A3 n3 c3] 42)).alloc (.cells #[.slice none 0 0, .int .i64 0, .slice none 0 0, .slice none 0 0] 37)).alloc (.cells #[.slice none 0 0, .int .i64 0, .slice none 0 0, .slice none 0 0] 37)) from ((al w _).alloc (by simp) _).alloc (by simp; omega) _)
  have ht := hide (show Qua (((w.alloc (.cells #[.slice A n c, .int .i64 p.now.step, .slice A' n' c', .slice A3 n3 c3] 42)).alloc (.cells #[.slice none 0 0, .int .i64 0, .slice none 0 0, .slice none 0 0] 37)).alloc (.cells #[.slice none 0 0, .int .i64 0, .slice none 0 0, .slice none 0 0] 37)) w.heap.size (.slice A n c) (.int .i64 p.now.step) (.slice A' n' c') (.slice A3 n3 c3) from ((Qua.made w _ _ _ _ _).up (al _ _)).up (al _ _))
  have hr := hide (show QuaW (((w.alloc (.cells #[.slice A n c, .int .i64 p.now.step, .slice A' n' c', .slice A3 n3 c3] 42)).alloc (.cells #[.slice none 0 0, .int .i64 0, .slice none 0 0, .slice none 0 0] 37)).alloc (.cells #[.slice none 0 0, .int .i64 0, .slice none 0 0, .slice none 0 0] 37)) (w.heap.size + 1) (.slice none 0 0) (.int .i64 0) (.slice none 0 0) (.slice none 0 0) from by have := (QuaW.made (w.alloc (.cells #[.slice A n c, .int .i64 p.now.step, .slice A' n' c', .slice A3 n3 c3] 42)) (.slice none 0 0) (.int .i64 0) (.slice none 0 0) (.slice none 0 0) 37).alloc (.cells #[.slice none 0 0, .int .i64 0, .slice none 0 0, .slice none 0 0] 37); simpa using this)
  have hz := hide (show QuaW (((w.alloc (.cells #[.slice A n c, .int .i64 p.now.step, .slice A' n' c', .slice A3 n3 c3] 42)).alloc (.cells #[.slice none 0 0, .int .i64 0, .slice none 0 0, .slice none 0 0] 37)).alloc (.cells #[.slice none 0 0, .int .i64 0, .slice none 0 0, .slice none 0 0] 37)) (w.heap.size + 2) (.slice none 0 0) (.int .i64 0) (.slice none 0 0) (.slice none 0 0) from by have := QuaW.made ((w.alloc (.cells #[.slice A n c, .int .i64 p.now.step, .slice A' n' c', .slice A3 n3 c3] 42)).alloc (.cells #[.slice none 0 0, .int .i64 0, .slice none 0 0, .slice none 0 0] 37)) (.slice none 0 0) (.int .i64 0) (.slice none 0 0) (.slice none 0 0) 37; simpa using this)
  obtain ⟨WX, hW0⟩ : ∃ WX, Hid ((((w.alloc (.cells #[.slice A n c, .int .i64 p.now.step, .slice A' n' c', .slice A3 n3 c3] 42)).alloc (.cells #[.slice none 0 0, .int .i64 0, .slice none 0 0, .slice none 0 0] 37)).alloc (.cells #[.slice none 0 0, .int .i64 0, .slice none 0 0, .slice none 0 0] 37)) = WX) := ⟨_, hide rfl⟩
  rw [hW0.out] at hq0 ht hr hz
  have hgs := hide (show w.heap.size + 3 = WX.heap.size by rw [← hW0.out]; simp)
  have HA := hide (toPlace_c _ p.now _ WX ((plM_mk ((i1.more hB).up hq0.out) ((i2.more hB).up hq0.out) hwf)) (Nat.le_refl _) hs1.1 hs1.2)
  obtain ⟨t0, t1, t2, t3, _⟩ := ht.out
  have hW1 := hW0.out
  subst hW1
  go_enter Try.func20, Try.ntmps20
  go_wp2_with fail
  refine HA.out.mono ?_
  rintro e w2 ⟨u, rfl, hou, hq⟩
  obtain ⟨g, m, d, g', m', d', rfl, ho, ho', hne, hwf2⟩ := hou.ex
  have hz2 := hide (hz.out.up hq)
  have hr2 := hide (hr.out.up hq)
  have ht2 := hide (ht.out.up hq)
  have hb2 := hide (upB hq0.out hq)
  have hs2' := hide (show w.heap.size + 3 ≤ w2.heap.size by rw [hgs.out]; exact hq.size)
  have hlo := hide (ho.row.lt g rfl)
  have hlo' := hide (ho'.row.lt g' rfl)
  have hl : ∀ (i : Nat) (j : Nat), i ≤ 2 → (Addr.mk (w.heap.size + i) j none).block < (((w.alloc (.cells #[.slice A n c, .int .i64 p.now.step, .slice A' n' c', .slice A3 n3 c3] 42)).alloc (.cells #[.slice none 0 0, .int .i64 0, .slice none 0 0, .slice none 0 0] 37)).alloc (.cells #[.slice none 0 0, .int .i64 0, .slice none 0 0, .slice none 0 0] 37)).heap.size := fun i j hi => by have := hgs.out; simp only; omega
  have hz3 := hide (((hz2.out.set0 (.slice (some ⟨g, 0, none⟩) m d)).set1 (.int .i64 p.now.step)).set2 (.slice (some ⟨g', 0, none⟩) m' d'))
  have hr3 := hide (((hr2.out.other (a := ⟨w.heap.size + 2, 0, none⟩) (by simp) (.slice (some ⟨g, 0, none⟩) m d)).other (a := ⟨w.heap.size + 2, 1, none⟩) (by simp) (.int .i64 p.now.step)).other (a := ⟨w.heap.size + 2, 2, none⟩) (by simp) (.slice (some ⟨g', 0, none⟩) m' d'))
  have ho3 := hide (((ho.setLow (hl 2 0 (by omega)) (.slice (some ⟨g, 0, none⟩) m d)).setLow (hl 2 1 (by omega)) (.int .i64 p.now.step)).setLow (hl 2 2 (by omega)) (.slice (some ⟨g', 0, none⟩) m' d'))
  have ho3' := hide (((ho'.setLow (hl 2 0 (by omega)) (.slice (some ⟨g, 0, none⟩) m d)).setLow (hl 2 1 (by omega)) (.int .i64 p.now.step)).setLow (hl 2 2 (by omega)) (.slice (some ⟨g', 0, none⟩) m' d'))
  have hb3 := hide (((hb2.out.setCell (p := ⟨w.heap.size + 2, 0, none⟩) (by simp) (.slice (some ⟨g, 0, none⟩) m d)).setCell (p := ⟨w.heap.size + 2, 1, none⟩) (by simp) (.int .i64 p.now.step)).setCell (p := ⟨w.heap.size + 2, 2, none⟩) (by simp) (.slice (some ⟨g', 0, none⟩) m' d'))
  have hI3 := hide (show PsM (((w2.setCell ⟨w.heap.size + 2, 0, none⟩ (.slice (some ⟨g, 0, none⟩) m d)).setCell ⟨w.heap.size + 2, 1, none⟩ (.int .i64 p.now.step)).setCell ⟨w.heap.size + 2, 2, none⟩ (.slice (some ⟨g', 0, none⟩) m' d')) w.heap.size A3 n3 c3 p.past from (i3.more hB).below hb3.out)
  have hs3' := hide (show (((w2.setCell ⟨w.heap.size + 2, 0, none⟩ (.slice (some ⟨g, 0, none⟩) m d)).setCell ⟨w.heap.size + 2, 1, none⟩ (.int .i64 p.now.step)).setCell ⟨w.heap.size + 2, 2, none⟩ (.slice (some ⟨g', 0, none⟩) m' d')).heap.size = w2.heap.size by simp)
  have HB := hide (toPlaceS_c A3 n3 c3 _ p.past (((w2.setCell ⟨w.heap.size + 2, 0, none⟩ (.slice (some ⟨g, 0, none⟩) m d)).setCell ⟨w.heap.size + 2, 1, none⟩ (.int .i64 p.now.step)).setCell ⟨w.heap.size + 2, 2, none⟩ (.slice (some ⟨g', 0, none⟩) m' d')) hI3.out (by rw [hs3'.out]; have := hs2'.out; omega) (by have := hl3.out; omega) hs3.out)
  have ht3 := hide (show Qua (((w2.setCell ⟨w.heap.size + 2, 0, none⟩ (.slice (some ⟨g, 0, none⟩) m d)).setCell ⟨w.heap.size + 2, 1, none⟩ (.int .i64 p.now.step)).setCell ⟨w.heap.size + 2, 2, none⟩ (.slice (some ⟨g', 0, none⟩) m' d')) w.heap.size (.slice A n c) (.int .i64 p.now.step) (.slice A' n' c') (.slice A3 n3 c3) from ⟨by rw [World.cell?_setCell_other _ _ _ _ (by simp), World.cell?_setCell_other _ _ _ _ (by simp), World.cell?_setCell_other _ _ _ _ (by simp)]; exact ht2.out.c0, by rw [World.cell?_setCell_other _ _ _ _ (by simp), World.cell?_setCell_other _ _ _ _ (by simp), World.cell?_setCell_other _ _ _ _ (by simp)]; exact ht2.out.c1, by rw [World.cell?_setCell_other _ _ _ _ (by simp), World.cell?_setCell_other _ _ _ _ (by simp), World.cell?_setCell_other _ _ _ _ (by simp)]; exact ht2.out.c2, by rw [World.cell?_setCell_other _ _ _ _ (by simp), World.cell?_setCell_other _ _ _ _ (by simp), World.cell?_setCell_other _ _ _ _ (by simp)]; exact ht2.out.c3, by rw [hs3'.out]; exact ht2.out.lt⟩)
  clear hq ho ho' hou hl
  obtain ⟨a0, a1, a2, a3, _⟩ := ht2.out
  obtain ⟨x0, x1, x2, x3, y0, y1, y2, y3, _⟩ := hz2.out
  obtain ⟨b0, b1, b2, b3, _⟩ := ht3.out
  go_wp2_with fail
  obtain ⟨w3, hw3⟩ : ∃ W, Hid ((((w2.setCell ⟨w.heap.size + 2, 0, none⟩ (.slice (some ⟨g, 0, none⟩) m d)).setCell ⟨w.heap.size + 2, 1, none⟩ (.int .i64 p.now.step)).setCell ⟨w.heap.size + 2, 2, none⟩ (.slice (some ⟨g', 0, none⟩) m' d')) = W) := ⟨_, hide rfl⟩
  rw [hw3.out] at HB hz3 hr3 ho3 ho3' hb3 hs3' ⊢
  refine HB.out.mono ?_
  rintro e w4 ⟨g3, rfl, hQ, hq'⟩
  have hz4 := hide (hz3.out.up hq')
  have hr4 := hide (hr3.out.up hq')
  have hO4 := hide (ho3.out.up hq')
  have hO4' := hide (ho3'.out.up hq')
  have hb4 := hide (upB hb3.out hq')
  have hs4 := hide hq'.size
  have hl : ∀ (i : Nat) (j : Nat), i ≤ 2 → (Addr.mk (w.heap.size + i) j none).block < (((w.alloc (.cells #[.slice A n c, .int .i64 p.now.step, .slice A' n' c', .slice A3 n3 c3] 42)).alloc (.cells #[.slice none 0 0, .int .i64 0, .slice none 0 0, .slice none 0 0] 37)).alloc (.cells #[.slice none 0 0, .int .i64 0, .slice none 0 0, .slice none 0 0] 37)).heap.size := fun i j hi => by have := hgs.out; simp only; omega
  have hlq : ∀ (i : Nat), i ≤ 2 → w.heap.size + i < w3.heap.size := fun i hi => by have := hs3'.out; have := hs2'.out; omega
  have hgw : ∀ (W : World) (i j : Nat) (u : Value), i ≤ 2 → OwnQ W w3.heap.size w4.heap.size (.slice (some ⟨g3, 0, none⟩) n3 n3) p.past → OwnQ (W.setCell ⟨w.heap.size + i, j, none⟩ u) w3.heap.size w4.heap.size (.slice (some ⟨g3, 0, none⟩) n3 n3) p.past := fun W i j u hi hW => hW.kept (grown_set W (w.heap.size + i) j u) (fun k e => by injection e with e; have := hlq i hi; omega)
  have hP := hide (((((hO4.out.setLow (hl 2 3 (by omega)) (.slice (some ⟨g3, 0, none⟩) n3 n3)).setLow (hl 1 0 (by omega)) (.slice (some ⟨g, 0, none⟩) m d)).setLow (hl 1 1 (by omega)) (.int .i64 p.now.step)).setLow (hl 1 2 (by omega)) (.slice (some ⟨g', 0, none⟩) m' d')).setLow (hl 1 3 (by omega)) (.slice (some ⟨g3, 0, none⟩) n3 n3))
  have hP' := hide (((((hO4'.out.setLow (hl 2 3 (by omega)) (.slice (some ⟨g3, 0, none⟩) n3 n3)).setLow (hl 1 0 (by omega)) (.slice (some ⟨g, 0, none⟩) m d)).setLow (hl 1 1 (by omega)) (.int .i64 p.now.step)).setLow (hl 1 2 (by omega)) (.slice (some ⟨g', 0, none⟩) m' d')).setLow (hl 1 3 (by omega)) (.slice (some ⟨g3, 0, none⟩) n3 n3))
  have hQ5 := hide (hgw _ 1 3 (.slice (some ⟨g3, 0, none⟩) n3 n3) (by omega) (hgw _ 1 2 (.slice (some ⟨g', 0, none⟩) m' d') (by omega) (hgw _ 1 1 (.int .i64 p.now.step) (by omega) (hgw _ 1 0 (.slice (some ⟨g, 0, none⟩) m d) (by omega) (hgw _ 2 3 (.slice (some ⟨g3, 0, none⟩) n3 n3) (by omega) hQ)))))
  have hz5 := hide (hz4.out.set3 (.slice (some ⟨g3, 0, none⟩) n3 n3))
  have hr4b := hide (hr4.out.other (a := ⟨w.heap.size + 2, 3, none⟩) (by simp) (.slice (some ⟨g3, 0, none⟩) n3 n3))
  have hr5 := hide ((((hr4b.out.set0 (.slice (some ⟨g, 0, none⟩) m d)).set1 (.int .i64 p.now.step)).set2 (.slice (some ⟨g', 0, none⟩) m' d')).set3 (.slice (some ⟨g3, 0, none⟩) n3 n3))
  have hbl := hide (((((hb4.out.setCell (p := ⟨w.heap.size + 2, 3, none⟩) (by simp) (.slice (some ⟨g3, 0, none⟩) n3 n3)).setCell (p := ⟨w.heap.size + 1, 0, none⟩) (by simp) (.slice (some ⟨g, 0, none⟩) m d)).setCell (p := ⟨w.heap.size + 1, 1, none⟩) (by simp) (.int .i64 p.now.step)).setCell (p := ⟨w.heap.size + 1, 2, none⟩) (by simp) (.slice (some ⟨g', 0, none⟩) m' d')).setCell (p := ⟨w.heap.size + 1, 3, none⟩) (by simp) (.slice (some ⟨g3, 0, none⟩) n3 n3))
  clear hq' hQ hl hgw hlq
  obtain ⟨c0, c1, c2, c3', d0, d1, d2, d3, _⟩ := hz4.out
  obtain ⟨u0, u1, u2, u3, _, _, _, _, _⟩ := hz5.out
  obtain ⟨v0, v1, v2, v3, z0, z1, z2, z3, _⟩ := hr4b.out
  go_wp2_with fail
  obtain ⟨k0, k1, k2, k3, _, _, _, _, _⟩ := hr5.out
  refine bodyPost_ret (v := .agg #[(.slice (some ⟨g, 0, none⟩) m d), .int .i64 p.now.step, (.slice (some ⟨g', 0, none⟩) m' d'), (.slice (some ⟨g3, 0, none⟩) n3 n3)]) (by simp [results, Try.results20, go_sem, k0, k1, k2, k3]) rfl ⟨_, rfl, ⟨w3.heap.size, g, m, d, g', m', d', g3, n3, n3, rfl, hP.out.down (by have := hgs.out; omega), hP'.out.down (by have := hgs.out; omega), hne, hwf2, by have := hlo.out.2; have := hs3'.out; omega, by have := hlo'.out.2; have := hs3'.out; omega, hQ5.out.wide (by simp), by have := hs3'.out; have := hs2'.out; omega⟩, hbl.out⟩

set_option maxRecDepth 100000 in
theorem szDesk_c (v : Value) (p : Dsk) (B : Nat) (t : Int) (w : World) (h : DkM w B v p) (hB : B ≤ w.heap.size) (h0 : 0 ≤ t) (h1 : t ≤ 1048576) :
    Calls Try.prog 19 #[v, .int .i64 t] w fun e w' => (∃ x : Int, e = .returned (.int .i64 x) ∧ x ≤ 1048576 ∧ -1 ≤ x ∧ Hid (0 ≤ x → smallD p)) ∧ Below w.heap.size w w' := by
  obtain ⟨A, n, c, A', n', c', A3, n3, c3, rfl, i1, i2, hwf, i3⟩ := h.ex
  have hl3 := hide i3.len
  have hq0 := hide (show Below w.heap.size w (w.alloc (.cells #[.slice A n c, .int .i64 p.now.step, .slice A' n' c', .slice A3 n3 c3] 42)) from al w _)
  have ht := hide (show Qua (w.alloc (.cells #[.slice A n c, .int .i64 p.now.step, .slice A' n' c', .slice A3 n3 c3] 42)) w.heap.size (.slice A n c) (.int .i64 p.now.step) (.slice A' n' c') (.slice A3 n3 c3) from Qua.made w _ _ _ _ _)
  obtain ⟨WX, hW0⟩ : ∃ WX, Hid (w.alloc (.cells #[.slice A n c, .int .i64 p.now.step, .slice A' n' c', .slice A3 n3 c3] 42) = WX) := ⟨_, hide rfl⟩
  rw [hW0.out] at hq0 ht
  have j3 := hide (fun (W : World) (hq : Below WX.heap.size WX W) => ((i3.more hB).up hq0.out).up hq)
  have HA := hide (szPlace_c _ p.now _ t WX (plM_mk ((i1.more hB).up hq0.out) ((i2.more hB).up hq0.out) hwf) (Nat.le_refl _) h0 h1)
  have HB := hide (fun (x : Int) (W : World) (hq : Below WX.heap.size WX W) h0 h1 => szPlaceS_c A3 n3 c3 _ p.past x W (j3.out W hq) (Nat.le_refl _) h0 h1)
  obtain ⟨t0, t1, t2, t3, _⟩ := ht.out
  have hW1 := hW0.out
  subst hW1
  go_enter Try.func19, Try.ntmps19
  go_wp2_with fail
  refine HA.out.mono ?_
  rintro e w2 ⟨⟨x, rfl, hx1, hx2, hx3⟩, hq⟩
  have hb2 := hide (upB hq0.out hq)
  have ht2 := hide (ht.out.up hq)
  by_cases hx : x < 0
  · go_wp2_with fail
    go_ret
    exact ⟨⟨-1, rfl, by omega, by omega, hide (fun h => absurd h (by omega))⟩, hb2.out⟩
  have hx4 := hide (hx3.out (by omega))
  clear hx3
  replace HB := hide (HB.out x w2 hq (by omega) hx1)
  clear hq
  obtain ⟨a0, a1, a2, a3, _⟩ := ht2.out
  go_wp2_with fail
  refine HB.out.mono ?_
  rintro e w3 ⟨⟨y, rfl, hy1, hy2, hy3⟩, hq3⟩
  have hb3 := hide (upB hb2.out hq3)
  clear hq3
  by_cases hy : y < 0
  · go_wp2_with fail
    go_ret
    exact ⟨⟨-1, rfl, by omega, by omega, hide (fun h => absurd h (by omega))⟩, hb3.out⟩
  have hy4 := hide (hy3.out (by omega))
  clear hy3
  go_wp2_with fail
  go_ret
  exact ⟨⟨y, rfl, by omega, by omega, hide (fun _ => ⟨by have := hx4.out; unfold smallP; omega, by have := hy4.out.1; have := hl3.out; omega, hy4.out.2⟩)⟩, hb3.out⟩

set_option maxRecDepth 100000 in
theorem eqDesk_c (v v' : Value) (p : Dsk) (B B' : Nat) (w : World) (h : DkM w B v p) (h' : DkM w B' v' p) (hB : B ≤ w.heap.size) (hB' : B' ≤ w.heap.size) :
    Calls Try.prog 21 #[v, v'] w fun e w' => e = .returned (.bool true) ∧ Below w.heap.size w w' := by
  obtain ⟨A, n, c, A', n', c', A3, n3, c3, rfl, i1, i2, hwf, i3⟩ := h.ex
  obtain ⟨D, m, d, D', m', d', D3, m3, d3, rfl, k1, k2, hwf', k3⟩ := h'.ex
  have hq0 := hide (show Below w.heap.size w ((w.alloc (.cells #[.slice A n c, .int .i64 p.now.step, .slice A' n' c', .slice A3 n3 c3] 37)).alloc (.cells #[.slice D m d, .int .i64 p.now.step, .slice D' m' d', .slice D3 m3 d3] 37)) from (al w _).alloc (by simp) _)
  have ht := hide (show Qua ((w.alloc (.cells #[.slice A n c, .int .i64 p.now.step, .slice A' n' c', .slice A3 n3 c3] 37)).alloc (.cells #[.slice D m d, .int .i64 p.now.step, .slice D' m' d', .slice D3 m3 d3] 37)) w.heap.size (.slice A n c) (.int .i64 p.now.step) (.slice A' n' c') (.slice A3 n3 c3) from (Qua.made w _ _ _ _ _).up (al _ _))
  have hu := hide (show Qua ((w.alloc (.cells #[.slice A n c, .int .i64 p.now.step, .slice A' n' c', .slice A3 n3 c3] 37)).alloc (.cells #[.slice D m d, .int .i64 p.now.step, .slice D' m' d', .slice D3 m3 d3] 37)) (w.heap.size + 1) (.slice D m d) (.int .i64 p.now.step) (.slice D' m' d') (.slice D3 m3 d3) from by have := Qua.made (w.alloc (.cells #[.slice A n c, .int .i64 p.now.step, .slice A' n' c', .slice A3 n3 c3] 37)) (.slice D m d) (.int .i64 p.now.step) (.slice D' m' d') (.slice D3 m3 d3) 37; simpa using this)
  obtain ⟨WX, hW0⟩ : ∃ WX, Hid ((w.alloc (.cells #[.slice A n c, .int .i64 p.now.step, .slice A' n' c', .slice A3 n3 c3] 37)).alloc (.cells #[.slice D m d, .int .i64 p.now.step, .slice D' m' d', .slice D3 m3 d3] 37) = WX) := ⟨_, hide rfl⟩
  rw [hW0.out] at hq0 ht hu
  have HA := hide (eqPlace_c _ _ p.now p.now _ _ WX (plM_mk ((i1.more hB).up hq0.out) ((i2.more hB).up hq0.out) hwf) (plM_mk ((k1.more hB').up hq0.out) ((k2.more hB').up hq0.out) hwf) (Nat.le_refl _) (Nat.le_refl _))
  rw [sameP_refl] at HA
  have HB := hide (fun (W : World) (hq : Below WX.heap.size WX W) => eqPlaceS_c A3 D3 n3 c3 m3 d3 _ _ p.past W (((i3.more hB).up hq0.out).up hq) (((k3.more hB').up hq0.out).up hq) (Nat.le_refl _) (Nat.le_refl _))
  obtain ⟨t0, t1, t2, t3, _⟩ := ht.out
  obtain ⟨u0, u1, u2, u3, _⟩ := hu.out
  have hW1 := hW0.out
  subst hW1
  go_enter Try.func21, Try.ntmps21
  go_wp2_with fail
  refine HA.out.mono ?_
  rintro e w2 ⟨rfl, hq⟩
  have hb := hide (upB hq0.out hq)
  replace HB := hide (HB.out _ hq)
  obtain ⟨a0, a1, a2, a3, _⟩ := ht.out.up hq
  obtain ⟨b0, b1, b2, b3, _⟩ := hu.out.up hq
  clear hq
  go_wp2_with fail
  refine HB.out.mono ?_
  rintro e w3 ⟨rfl, hq3⟩
  have hb3 := hide (upB hb.out hq3)
  go_wp2_with fail
  go_ret
  exact ⟨rfl, hb3.out⟩
end Go.Proofs.Ytokokbfcnjkcoaa
