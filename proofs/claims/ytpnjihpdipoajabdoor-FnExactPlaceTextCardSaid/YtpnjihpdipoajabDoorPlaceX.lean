/-
  Contracts of the exact laws' helpers over places: toPlace, szPlace, eqPlace (written by wip/gen_e7.py).
-/
import Derived.Test.YtpnjihpdipoajabDoorPlaceS
import Derived.Test.YtpnjihpdipoajabDoorZrows
import Derived.Test.YtpnjihpdipoajabDoorZpd
import Derived.Test.YtpnjihpdipoajabDoorZpb
import Derived.Deep.RegionHeld3
namespace Go.Proofs.YtpnjihpdipoajabDoor
open Go.RowKit
set_option linter.unusedVariables false

/-- What toPlace hands back: a place whose two rows the call made. -/
structure PlO (w : World) (base : Nat) (v : Value) (p : Plc) : Prop where
  ex : ∃ g n c g' n' c', v = .agg #[.slice (some ⟨g, 0, none⟩) n c, .int .i64 p.step, .slice (some ⟨g', 0, none⟩) n' c'] ∧ Own w base (.slice (some ⟨g, 0, none⟩) n c) p.start ∧ Own w base (.slice (some ⟨g', 0, none⟩) n' c') p.word ∧ g ≠ g' ∧ (Lit.int .i64 p.step).wf = true
theorem PlO.up {w w' : World} {base : Nat} {v : Value} {p : Plc} (h : PlO w base v p) (hq : Below w.heap.size w w') : PlO w' base v p := by
  obtain ⟨g, n, c, g', n', c', e, h1, h2, h3, h4⟩ := h.ex
  exact ⟨g, n, c, g', n', c', e, h1.up hq, h2.up hq, h3, h4⟩
theorem PlO.plM {w : World} {base : Nat} {v : Value} {p : Plc} (h : PlO w base v p) : PlM w w.heap.size v p := by
  obtain ⟨g, n, c, g', n', c', rfl, h1, h2, h3, h4⟩ := h.ex
  exact plM_mk h1.ints h2.ints h4
theorem PlO.down {w : World} {base base' : Nat} {v : Value} {p : Plc} (h : PlO w base v p) (hb : base' ≤ base) : PlO w base' v p := by
  obtain ⟨g, n, c, g', n', c', e, h1, h2, h3, h4⟩ := h.ex
  exact ⟨g, n, c, g', n', c', e, h1.down hb, h2.down hb, h3, h4⟩
theorem PlO.setLow {w : World} {base : Nat} {v : Value} {p : Plc} (h : PlO w base v p) {a : Addr} (ha : a.block < base) (u : Value) : PlO (w.setCell a u) base v p := by
  obtain ⟨g, n, c, g', n', c', e, h1, h2, h3, h4⟩ := h.ex
  exact ⟨g, n, c, g', n', c', e, h1.setLow ha u, h2.setLow ha u, h3, h4⟩

set_option maxRecDepth 100000 in
set_option maxHeartbeats 3200000 in
theorem toPlace_c (v : Value) (p : Plc) (B : Nat) (w : World) (h : PlM w B v p) (hB : B ≤ w.heap.size) (h1 : p.start.length ≤ 1048576) (h2 : p.word.length ≤ 1048576) :
    Calls Tryd.prog 21 #[v] w fun e w' => ∃ u, e = .returned u ∧ PlO w' w.heap.size u p ∧ Below w.heap.size w w' := by
  obtain ⟨A, n, c, A', n', c', rfl, i1, i2, hwf⟩ := h.ex
  have hl1 := i1.len
  have hl2 := i2.len
  have hq0 := hide (show Below w.heap.size w (((w.alloc (.cells #[.slice A n c, .int .i64 p.step, .slice A' n' c'] 40)).alloc (.cells #[.slice none 0 0, .int .i64 0, .slice none 0 0] 43)).alloc (.cells #[.slice none 0 0, .int .i64 0, .slice none 0 0] 43)) from ((al w _).alloc (by simp) _).alloc (by simp; omega) _)
  have ht := hide (show Tri (((w.alloc (.cells #[.slice A n c, .int .i64 p.step, .slice A' n' c'] 40)).alloc (.cells #[.slice none 0 0, .int .i64 0, .slice none 0 0] 43)).alloc (.cells #[.slice none 0 0, .int .i64 0, .slice none 0 0] 43)) w.heap.size (.slice A n c) (.int .i64 p.step) (.slice A' n' c') from ((Tri.made w _ _ _ _).up (al _ _)).up (al _ _))
  have hr := hide (show TriW (((w.alloc (.cells #[.slice A n c, .int .i64 p.step, .slice A' n' c'] 40)).alloc (.cells #[.slice none 0 0, .int .i64 0, .slice none 0 0] 43)).alloc (.cells #[.slice none 0 0, .int .i64 0, .slice none 0 0] 43)) (w.heap.size + 1) (.slice none 0 0) (.int .i64 0) (.slice none 0 0) from by have := (TriW.made (w.alloc (.cells #[.slice A n c, .int .i64 p.step, .slice A' n' c'] 40)) (.slice none 0 0) (.int .i64 0) (.slice none 0 0) 43).alloc (.cells #[.slice none 0 0, .int .i64 0, .slice none 0 0] 43); simpa using this)
  have hz := hide (show TriW (((w.alloc (.cells #[.slice A n c, .int .i64 p.step, .slice A' n' c'] 40)).alloc (.cells #[.slice none 0 0, .int .i64 0, .slice none 0 0] 43)).alloc (.cells #[.slice none 0 0, .int .i64 0, .slice none 0 0] 43)) (w.heap.size + 2) (.slice none 0 0) (.int .i64 0) (.slice none 0 0) from by have := TriW.made ((w.alloc (.cells #[.slice A n c, .int .i64 p.step, .slice A' n' c'] 40)).alloc (.cells #[.slice none 0 0, .int .i64 0, .slice none 0 0] 43)) (.slice none 0 0) (.int .i64 0) (.slice none 0 0) 43; simpa using this)
  obtain ⟨WX, hW0⟩ : ∃ WX, Hid ((((w.alloc (.cells #[.slice A n c, .int .i64 p.step, .slice A' n' c'] 40)).alloc (.cells #[.slice none 0 0, .int .i64 0, .slice none 0 0] 43)).alloc (.cells #[.slice none 0 0, .int .i64 0, .slice none 0 0] 43)) = WX) := ⟨_, hide rfl⟩
  rw [hW0.out] at hq0 ht hr hz
  have hgs := hide (show w.heap.size + 3 = WX.heap.size by rw [← hW0.out]; simp)
  have j1 := hide ((i1.more hB).up hq0.out)
  have j2 := hide (fun (W : World) (hq : Below WX.heap.size WX W) => ((i2.more hB).up hq0.out).up hq)
  have HA := hide (toIntS_c A n c _ p.start WX j1.out (Nat.le_refl _) (by omega))
  obtain ⟨t0, t1, t2, _⟩ := ht.out
  have hW1 := hW0.out
  subst hW1
  go_enter Tryd.func21, Tryd.ntmps21
  go_wp2_with fail
  refine HA.out.mono ?_
  rintro e w2 ⟨g, rfl, ho, hq⟩
  have hz2 := hide (hz.out.up hq)
  have hr2 := hide (hr.out.up hq)
  have ht2 := hide (ht.out.up hq)
  have hb2 := hide (upB hq0.out hq)
  have hs2 := hide (show w.heap.size + 3 ≤ w2.heap.size by rw [hgs.out]; exact hq.size)
  have hlo := hide (ho.row.lt g rfl)
  have hz3 := hide ((hz2.out.set0 (.slice (some ⟨g, 0, none⟩) n n)).set1 (.int .i64 p.step))
  have hr3 := hide ((hr2.out.other (a := ⟨w.heap.size + 2, 0, none⟩) (by simp) (.slice (some ⟨g, 0, none⟩) n n)).other (a := ⟨w.heap.size + 2, 1, none⟩) (by simp) (.int .i64 p.step))
  have hlt3 := hide (show w.heap.size + 2 < (w2).heap.size by have := hs2.out; omega)
  have ho3 := hide ((ho.setLow (a := ⟨w.heap.size + 2, 0, none⟩) (by have := hgs.out; simp only; omega) (.slice (some ⟨g, 0, none⟩) n n)).setLow (a := ⟨w.heap.size + 2, 1, none⟩) (by have := hgs.out; simp only; omega) (.int .i64 p.step))
  have hb3 := hide ((hb2.out.setCell (p := ⟨w.heap.size + 2, 0, none⟩) (by simp) (.slice (some ⟨g, 0, none⟩) n n)).setCell (p := ⟨w.heap.size + 2, 1, none⟩) (by simp) (.int .i64 p.step))
  have hI3 := hide (show Ints ((w2.setCell ⟨w.heap.size + 2, 0, none⟩ (.slice (some ⟨g, 0, none⟩) n n)).setCell ⟨w.heap.size + 2, 1, none⟩ (.int .i64 p.step)) w.heap.size A' n' c' p.word from (i2.more hB).below hb3.out)
  have hs3 := hide (show ((w2.setCell ⟨w.heap.size + 2, 0, none⟩ (.slice (some ⟨g, 0, none⟩) n n)).setCell ⟨w.heap.size + 2, 1, none⟩ (.int .i64 p.step)).heap.size = w2.heap.size by simp)
  have HB := hide (toIntS_c A' n' c' _ p.word ((w2.setCell ⟨w.heap.size + 2, 0, none⟩ (.slice (some ⟨g, 0, none⟩) n n)).setCell ⟨w.heap.size + 2, 1, none⟩ (.int .i64 p.step)) hI3.out (by rw [hs3.out]; have := hs2.out; omega) (by omega))
  have ht3 := hide (show Tri ((w2.setCell ⟨w.heap.size + 2, 0, none⟩ (.slice (some ⟨g, 0, none⟩) n n)).setCell ⟨w.heap.size + 2, 1, none⟩ (.int .i64 p.step)) w.heap.size (.slice A n c) (.int .i64 p.step) (.slice A' n' c') from ⟨by rw [World.cell?_setCell_other _ _ _ _ (by simp), World.cell?_setCell_other _ _ _ _ (by simp)]; exact ht2.out.c0, by rw [World.cell?_setCell_other _ _ _ _ (by simp), World.cell?_setCell_other _ _ _ _ (by simp)]; exact ht2.out.c1, by rw [World.cell?_setCell_other _ _ _ _ (by simp), World.cell?_setCell_other _ _ _ _ (by simp)]; exact ht2.out.c2, by rw [hs3.out]; exact ht2.out.lt⟩)
  clear hq ho
  obtain ⟨a0, a1, a2, _⟩ := ht2.out
  obtain ⟨x0, x1, x2, y0, y1, y2, _⟩ := hz2.out
  obtain ⟨b0, b1, b2, _⟩ := ht3.out
  go_wp2_with fail
  obtain ⟨w3, hw3⟩ : ∃ W, Hid ((w2.setCell ⟨w.heap.size + 2, 0, none⟩ (.slice (some ⟨g, 0, none⟩) n n)).setCell ⟨w.heap.size + 2, 1, none⟩ (.int .i64 p.step) = W) := ⟨_, hide rfl⟩
  rw [hw3.out] at HB hz3 hr3 ho3 hb3 hs3 ⊢
  refine HB.out.mono ?_
  rintro e w4 ⟨g', rfl, ho', hq'⟩
  have hz4 := hide (hz3.out.up hq')
  have hr4 := hide (hr3.out.up hq')
  have hO4 := hide (ho3.out.up hq')
  have hb4 := hide (upB hb3.out hq')
  have hne := hide (show g ≠ g' from by have := (ho'.row.lt g' rfl).1; have := hlo.out; have := hs3.out; omega)
  have hP := hide ((((hO4.out.setLow (a := ⟨w.heap.size + 2, 2, none⟩) (by have := hgs.out; simp only; omega) (.slice (some ⟨g', 0, none⟩) n' n')).setLow (a := ⟨w.heap.size + 1, 0, none⟩) (by have := hgs.out; simp only; omega) (.slice (some ⟨g, 0, none⟩) n n)).setLow (a := ⟨w.heap.size + 1, 1, none⟩) (by have := hgs.out; simp only; omega) (.int .i64 p.step)).setLow (a := ⟨w.heap.size + 1, 2, none⟩) (by have := hgs.out; simp only; omega) (.slice (some ⟨g', 0, none⟩) n' n'))
  have hQ := hide ((((ho'.setLow (a := ⟨w.heap.size + 2, 2, none⟩) (by have := hs3.out; have := hs2.out; simp only; omega) (.slice (some ⟨g', 0, none⟩) n' n')).setLow (a := ⟨w.heap.size + 1, 0, none⟩) (by have := hs3.out; have := hs2.out; simp only; omega) (.slice (some ⟨g, 0, none⟩) n n)).setLow (a := ⟨w.heap.size + 1, 1, none⟩) (by have := hs3.out; have := hs2.out; simp only; omega) (.int .i64 p.step)).setLow (a := ⟨w.heap.size + 1, 2, none⟩) (by have := hs3.out; have := hs2.out; simp only; omega) (.slice (some ⟨g', 0, none⟩) n' n'))
  have hz5 := hide (hz4.out.set2 (.slice (some ⟨g', 0, none⟩) n' n'))
  have hr5 := hide ((((hr4.out.other (a := ⟨w.heap.size + 2, 2, none⟩) (by simp) (.slice (some ⟨g', 0, none⟩) n' n')).set0 (.slice (some ⟨g, 0, none⟩) n n)).set1 (.int .i64 p.step)).set2 (.slice (some ⟨g', 0, none⟩) n' n'))
  have hbl := hide ((((hb4.out.setCell (p := ⟨w.heap.size + 2, 2, none⟩) (by simp) (.slice (some ⟨g', 0, none⟩) n' n')).setCell (p := ⟨w.heap.size + 1, 0, none⟩) (by simp) (.slice (some ⟨g, 0, none⟩) n n)).setCell (p := ⟨w.heap.size + 1, 1, none⟩) (by simp) (.int .i64 p.step)).setCell (p := ⟨w.heap.size + 1, 2, none⟩) (by simp) (.slice (some ⟨g', 0, none⟩) n' n'))
  have hr4b := hide (hr4.out.other (a := ⟨w.heap.size + 2, 2, none⟩) (by simp) (.slice (some ⟨g', 0, none⟩) n' n'))
  clear hq' ho'
  obtain ⟨c0, c1, c2, d0, d1, d2, _⟩ := hz4.out
  obtain ⟨u0, u1, u2, _, _, _, _⟩ := hz5.out
  obtain ⟨v0, v1, v2, z0, z1, z2, _⟩ := hr4b.out
  go_wp2_with fail
  obtain ⟨k0, k1, k2, _, _, _, _⟩ := hr5.out
  refine bodyPost_ret (v := .agg #[.slice (some ⟨g, 0, none⟩) n n, .int .i64 p.step, .slice (some ⟨g', 0, none⟩) n' n']) (by simp [results, Tryd.results21, go_sem, k0, k1, k2]) rfl ⟨_, rfl, ⟨g, n, n, g', n', n', rfl, hP.out.down (by have := hgs.out; omega), hQ.out.down (by have := hs3.out; have := hs2.out; omega), hne.out, hwf⟩, hbl.out⟩

theorem szPlace_c (v : Value) (p : Plc) (B : Nat) (t : Int) (w : World) (h : PlM w B v p) (hB : B ≤ w.heap.size) (h0 : 0 ≤ t) (h1 : t ≤ 1048576) :
    Calls Tryd.prog 19 #[v, .int .i64 t] w fun e w' => (∃ x : Int, e = .returned (.int .i64 x) ∧ x ≤ 1048576 ∧ -1 ≤ x ∧ Hid (0 ≤ x → x = t - (p.start.length : Int) - (p.word.length : Int))) ∧ Below w.heap.size w w' := by
  obtain ⟨A, n, c, A', n', c', rfl, i1, i2, hwf⟩ := h.ex
  have hl1 := hide i1.len
  have hl2 := hide i2.len
  have hq0 := hide (show Below w.heap.size w (w.alloc (.cells #[.slice A n c, .int .i64 p.step, .slice A' n' c'] 40)) from al w _)
  have ht := hide (show Tri (w.alloc (.cells #[.slice A n c, .int .i64 p.step, .slice A' n' c'] 40)) w.heap.size (.slice A n c) (.int .i64 p.step) (.slice A' n' c') from Tri.made w _ _ _ _)
  obtain ⟨WX, hW0⟩ : ∃ WX, Hid (w.alloc (.cells #[.slice A n c, .int .i64 p.step, .slice A' n' c'] 40) = WX) := ⟨_, hide rfl⟩
  rw [hW0.out] at hq0 ht
  have j1 := hide ((i1.more hB).up hq0.out)
  have j2 := hide ((i2.more hB).up hq0.out)
  have HA := hide (szIntS_c A n c _ p.start t WX j1.out h0 h1)
  have HB := hide (fun (x : Int) h0 h1 => szIntS_c A' n' c' _ p.word x WX j2.out h0 h1)
  obtain ⟨t0, t1, t2, _⟩ := ht.out
  have hW1 := hW0.out
  subst hW1
  go_enter Tryd.func19, Tryd.ntmps19
  go_wp2_with fail
  refine HA.out.mono ?_
  rintro e w2 ⟨⟨x, rfl, hx1, hx2, hx3⟩, rfl⟩
  have hx3 := hide hx3
  by_cases hx : x < 0
  · go_wp2_with fail
    go_ret
    exact ⟨⟨-1, rfl, by omega, by omega, hide (fun h => absurd h (by omega))⟩, hq0.out⟩
  have hx4 := hide (hx3.out (by omega))
  go_wp2_with fail
  refine (HB.out x (by omega) hx1).mono ?_
  rintro e w3 ⟨⟨y, rfl, hy1, hy2, hy3⟩, rfl⟩
  have hy3 := hide hy3
  by_cases hy : y < 0
  · go_wp2_with fail
    go_ret
    exact ⟨⟨-1, rfl, by omega, by omega, hide (fun h => absurd h (by omega))⟩, hq0.out⟩
  have hy4 := hide (hy3.out (by omega))
  go_wp2_with fail
  go_ret
  exact ⟨⟨y, rfl, by omega, by omega, hide (fun _ => by have := hx4.out; have := hy4.out; have := hl1.out; have := hl2.out; omega)⟩, hq0.out⟩

/-- Whether two places read alike. -/
def sameP (p q : Plc) : Bool := sameL p.start q.start && decide (p.step = q.step) && sameL p.word q.word
theorem sameP_refl (p : Plc) : sameP p p = true := by simp [sameP, sameL_refl]
theorem eqPlace_c (v v' : Value) (p q : Plc) (B B' : Nat) (w : World) (h : PlM w B v p) (h' : PlM w B' v' q) (hB : B ≤ w.heap.size) (hB' : B' ≤ w.heap.size) :
    Calls Tryd.prog 23 #[v, v'] w fun e w' => e = .returned (.bool (sameP p q)) ∧ Below w.heap.size w w' := by
  obtain ⟨A, n, c, A', n', c', rfl, i1, i2, hwf⟩ := h.ex
  obtain ⟨D, m, d, D', m', d', rfl, k1, k2, hwf'⟩ := h'.ex
  have hq0 := hide (show Below w.heap.size w ((w.alloc (.cells #[.slice A n c, .int .i64 p.step, .slice A' n' c'] 43)).alloc (.cells #[.slice D m d, .int .i64 q.step, .slice D' m' d'] 43)) from (al w _).alloc (by simp) _)
  have ht := hide (show Tri ((w.alloc (.cells #[.slice A n c, .int .i64 p.step, .slice A' n' c'] 43)).alloc (.cells #[.slice D m d, .int .i64 q.step, .slice D' m' d'] 43)) w.heap.size (.slice A n c) (.int .i64 p.step) (.slice A' n' c') from (Tri.made w _ _ _ _).up (al _ _))
  have hu := hide (show Tri ((w.alloc (.cells #[.slice A n c, .int .i64 p.step, .slice A' n' c'] 43)).alloc (.cells #[.slice D m d, .int .i64 q.step, .slice D' m' d'] 43)) (w.heap.size + 1) (.slice D m d) (.int .i64 q.step) (.slice D' m' d') from by have := Tri.made (w.alloc (.cells #[.slice A n c, .int .i64 p.step, .slice A' n' c'] 43)) (.slice D m d) (.int .i64 q.step) (.slice D' m' d') 43; simpa using this)
  obtain ⟨WX, hW0⟩ : ∃ WX, Hid ((w.alloc (.cells #[.slice A n c, .int .i64 p.step, .slice A' n' c'] 43)).alloc (.cells #[.slice D m d, .int .i64 q.step, .slice D' m' d'] 43) = WX) := ⟨_, hide rfl⟩
  rw [hW0.out] at hq0 ht hu
  have j1 := hide ((i1.more hB).up hq0.out)
  have j2 := hide ((i2.more hB).up hq0.out)
  have l1 := hide ((k1.more hB').up hq0.out)
  have l2 := hide ((k2.more hB').up hq0.out)
  have HA := hide (quietB (eqIntS_c A D n c _ m d _ p.start q.start WX j1.out l1.out))
  have HB := hide (fun (W : World) (hq : Below WX.heap.size WX W) => quietB (eqIntS_c A' D' n' c' _ m' d' _ p.word q.word W (j2.out.up hq) (l2.out.up hq)))
  obtain ⟨t0, t1, t2, _⟩ := ht.out
  obtain ⟨u0, u1, u2, _⟩ := hu.out
  have he := hide (show sameP p q = (sameL p.start q.start && decide (p.step = q.step) && sameL p.word q.word) from rfl)
  obtain ⟨X, hX⟩ : ∃ X, Hid (sameL p.start q.start = X) := ⟨_, hide rfl⟩
  obtain ⟨Y, hY⟩ : ∃ Y, Hid (sameL p.word q.word = Y) := ⟨_, hide rfl⟩
  rw [hX.out] at HA he
  rw [hY.out] at HB he
  clear hX hY
  have hW1 := hW0.out
  subst hW1
  cases X with
  | false =>
    have he2 := hide (show sameP p q = false by rw [he.out]; rfl)
    go_enter Tryd.func23, Tryd.ntmps23
    go_wp2_with fail
    refine HA.out.mono ?_
    rintro e w2 ⟨rfl, hq⟩
    have hb := hide (upB hq0.out hq)
    go_wp2_with fail
    go_ret
    exact ⟨ret_bool he2.out.symm, hb.out⟩
  | true =>
    by_cases hst : p.step = q.step
    · have he2 := hide (show sameP p q = Y by rw [he.out, decide_eq_true hst]; rfl)
      replace hst := hide hst
      go_enter Tryd.func23, Tryd.ntmps23
      go_wp2_with fail
      refine HA.out.mono ?_
      rintro e w2 ⟨rfl, hq⟩
      have hb := hide (upB hq0.out hq)
      replace HB := hide (HB.out _ hq)
      obtain ⟨a0, a1, a2, _⟩ := ht.out.up hq
      obtain ⟨b0, b1, b2, _⟩ := hu.out.up hq
      rw [hst.out] at a1
      go_wp2_with fail
      refine HB.out.mono ?_
      rintro e w3 ⟨rfl, hq3⟩
      have hb3 := hide (upB hb.out hq3)
      cases Y with
      | false =>
        go_wp2_with fail
        go_ret
        exact ⟨ret_bool he2.out.symm, hb3.out⟩
      | true =>
        go_wp2_with fail
        go_ret
        exact ⟨ret_bool he2.out.symm, hb3.out⟩
    · have he2 := hide (show sameP p q = false by rw [he.out, decide_eq_false hst]; rfl)
      go_enter Tryd.func23, Tryd.ntmps23
      go_wp2_with fail
      refine HA.out.mono ?_
      rintro e w2 ⟨rfl, hq⟩
      have hb := hide (upB hq0.out hq)
      obtain ⟨a0, a1, a2, _⟩ := ht.out.up hq
      obtain ⟨b0, b1, b2, _⟩ := hu.out.up hq
      go_wp2_with fail
      go_ret
      exact ⟨ret_bool he2.out.symm, hb.out⟩
end Go.Proofs.YtpnjihpdipoajabDoor
