/-
  Contracts of chapter 14, the program's side: DeskNew.
-/
import Derived.Test.YtpkbmmepapgogabGreatDoorPlaceI
import Derived.Test.YtpkbmmepapgogabGreatDoorZdk
import Derived.Test.YtpkbmmepapgogabGreatDoorZcs
namespace Go.Proofs.YtpkbmmepapgogabGreatDoor
open Go.RowKit
set_option linter.unusedVariables false

/-- What DeskNew hands back: a desk whose rows the call made, without places of before. -/
structure DkQ (w : World) (base : Nat) (v : Value) (d : Dsk) : Prop where
  ex : ∃ A n c A' n' c', v = .agg #[.slice A n c, .int .i64 d.now.step, .slice A' n' c', .slice none 0 0] ∧ PlQ w base (.agg #[.slice A n c, .int .i64 d.now.step, .slice A' n' c']) d.now ∧ d.past = []
theorem DkQ.up {w w' : World} {base : Nat} {v : Value} {p : Dsk} (h : DkQ w base v p) (hq : Below w.heap.size w w') : DkQ w' base v p := by
  obtain ⟨A, n, c, A', n', c', e, h1, h2⟩ := h.ex
  exact ⟨A, n, c, A', n', c', e, h1.up hq, h2⟩
theorem DkQ.dkM {w : World} {base : Nat} {v : Value} {p : Dsk} (h : DkQ w base v p) : DkM w w.heap.size v p := by
  obtain ⟨A, n, c, A', n', c', rfl, h1, h2⟩ := h.ex
  obtain ⟨A1, n1, c1, A2, n2, c2, e, h3, h4, h5, h6⟩ := h1.ex
  simp only [Value.agg.injEq, Array.mk.injEq, List.cons.injEq, and_true] at e
  obtain ⟨e1, _, e2⟩ := e
  rw [← e1] at h3
  rw [← e2] at h4
  exact ⟨A, n, c, A', n', c', none, 0, 0, rfl, h3.ints, h4.ints, h6, by rw [h2]; exact PsM.nil⟩
set_option maxRecDepth 100000 in
set_option maxHeartbeats 3200000 in
theorem deskNew_impl (v : Value) (p : Plc) (B : Nat) (w : World) (h : PlM w B v p) (hB : B ≤ w.heap.size) :
    Calls Tryz.prog 17 #[v] w fun e w' => ∃ u, e = .returned (.tuple #[u, .bool (placeOk p)]) ∧ DkQ w' w.heap.size u (newDsk p) ∧ Below w.heap.size w w' := by
  obtain ⟨A, n, c, A', n', c', rfl, h1, h2, hwf⟩ := h.ex
  have hq0 := hide (show Below w.heap.size w ((w.alloc (.cells #[.slice A n c, .int .i64 p.step, .slice A' n' c'] 31)).alloc (.cells #[.slice none 0 0, .int .i64 0, .slice none 0 0, .slice none 0 0] 37)) from (al w _).alloc (by simp) _)
  have ht := hide (show Tri ((w.alloc (.cells #[.slice A n c, .int .i64 p.step, .slice A' n' c'] 31)).alloc (.cells #[.slice none 0 0, .int .i64 0, .slice none 0 0, .slice none 0 0] 37)) w.heap.size (.slice A n c) (.int .i64 p.step) (.slice A' n' c') from (Tri.made w _ _ _ _).up (al _ _))
  have hz := hide (show QuaW ((w.alloc (.cells #[.slice A n c, .int .i64 p.step, .slice A' n' c'] 31)).alloc (.cells #[.slice none 0 0, .int .i64 0, .slice none 0 0, .slice none 0 0] 37)) (w.heap.size + 1) (.slice none 0 0) (.int .i64 0) (.slice none 0 0) (.slice none 0 0) from by have := QuaW.made (w.alloc (.cells #[.slice A n c, .int .i64 p.step, .slice A' n' c'] 31)) (.slice none 0 0) (.int .i64 0) (.slice none 0 0) (.slice none 0 0) 37; simpa using this)
  obtain ⟨WX, hW0⟩ : ∃ W0, Hid (((w.alloc (.cells #[.slice A n c, .int .i64 p.step, .slice A' n' c'] 31)).alloc (.cells #[.slice none 0 0, .int .i64 0, .slice none 0 0, .slice none 0 0] 37)) = W0) := ⟨_, hide rfl⟩
  rw [hW0.out] at hq0 ht hz
  have hgs := hide (show w.heap.size + 2 = WX.heap.size by rw [← hW0.out]; simp)
  have i1 := hide ((h1.more hB).up hq0.out)
  have i2 := hide ((h2.more hB).up hq0.out)
  have HO := hide (placeOk_impl _ p _ WX (plM_mk i1.out i2.out hwf) (Nat.le_refl _))
  obtain ⟨t0, t1, t2, _⟩ := ht.out
  cases hok : placeOk p with
  | false =>
    rw [hok] at HO
    have e2 := hide (show newDsk p = noDsk by unfold newDsk; rw [hok]; rfl)
    clear hok
    have hW1 := hW0.out
    subst hW1
    go_enter Tryz.func17, Tryz.ntmps17
    go_wp2_with fail
    refine HO.out.mono ?_
    rintro e w2 ⟨rfl, hq⟩
    have hz2 := hide (hz.out.up hq)
    have hb := hide (upB hq0.out hq)
    obtain ⟨x0, x1, x2, x3, y0, y1, y2, y3, _⟩ := hz2.out
    clear hq
    go_wp2_with fail
    obtain ⟨k0, k1, k2, k3, _, _, _, _, _⟩ := (((hz2.out.set0 (.slice none 0 0)).set1 (.int .i64 0)).set2 (.slice none 0 0)).set3 (.slice none 0 0)
    exact bodyPost_ret (v := .tuple #[.agg #[.slice none 0 0, .int .i64 0, .slice none 0 0, .slice none 0 0], .bool false]) (by simp [results, Tryz.results17, go_sem, k0, k1, k2, k3]) rfl ⟨_, rfl, by rw [e2.out]; exact ⟨_, _, _, _, _, _, rfl, ⟨_, _, _, _, _, _, rfl, Own.none_, Own.none_, .inl rfl, by decide⟩, rfl⟩, (((hb.out.setCell (Nat.le_succ _) _).setCell (Nat.le_succ _) _).setCell (Nat.le_succ _) _).setCell (Nat.le_succ _) _⟩
  | true =>
    rw [hok] at HO
    have e2 := hide (show newDsk p = ⟨p, []⟩ by unfold newDsk; rw [hok]; rfl)
    obtain ⟨⟨g1, g3⟩, _, _, g6, _⟩ := placeOk_yes hok
    have HC := hide (fun (W : World) (hq : Below WX.heap.size WX W) => copiedPlace_c _ p _ W (plM_mk (i1.out.up hq) (i2.out.up hq) hwf) (Nat.le_refl _) (by omega) (by omega))
    clear hok
    have hW1 := hW0.out
    subst hW1
    go_enter Tryz.func17, Tryz.ntmps17
    go_wp2_with fail
    refine HO.out.mono ?_
    rintro e w2 ⟨rfl, hq⟩
    have hz2 := hide (hz.out.up hq)
    have hb := hide (upB hq0.out hq)
    obtain ⟨a0, a1, a2, _⟩ := ht.out.up hq
    replace HC := hide (HC.out _ hq)
    clear hq
    go_wp2_with fail
    refine HC.out.mono ?_
    rintro e w3 ⟨u, rfl, hp, hq3⟩
    obtain ⟨A3, n3, c3, A4, n4, c4, rfl, ho3, ho4, hne, _⟩ := hp.ex
    have hz3 := hide (hz2.out.up hq3)
    have hb3 := hide (upB hb.out hq3)
    obtain ⟨x0, x1, x2, x3, y0, y1, y2, y3, hlt3⟩ := hz3.out
    have hsz := hide (show w.heap.size + 1 < w2.heap.size from hz2.out.lt)
    have hs2 := hide (show w.heap.size ≤ w2.heap.size from by have := hsz.out; omega)
    have hF3 := hide ((((ho3.setLow (a := ⟨w.heap.size + 1, 0, none⟩) hsz.out (.slice A3 n3 c3)).setLow (a := ⟨w.heap.size + 1, 1, none⟩) hsz.out (.int .i64 p.step)).setLow (a := ⟨w.heap.size + 1, 2, none⟩) hsz.out (.slice A4 n4 c4)).setLow (a := ⟨w.heap.size + 1, 3, none⟩) hsz.out (.slice none 0 0))
    have hF4 := hide ((((ho4.setLow (a := ⟨w.heap.size + 1, 0, none⟩) hsz.out (.slice A3 n3 c3)).setLow (a := ⟨w.heap.size + 1, 1, none⟩) hsz.out (.int .i64 p.step)).setLow (a := ⟨w.heap.size + 1, 2, none⟩) hsz.out (.slice A4 n4 c4)).setLow (a := ⟨w.heap.size + 1, 3, none⟩) hsz.out (.slice none 0 0))
    go_wp2_with fail
    obtain ⟨k0, k1, k2, k3, _, _, _, _, _⟩ := (((hz3.out.set0 (.slice A3 n3 c3)).set1 (.int .i64 p.step)).set2 (.slice A4 n4 c4)).set3 (.slice none 0 0)
    exact bodyPost_ret (v := .tuple #[.agg #[.slice A3 n3 c3, .int .i64 p.step, .slice A4 n4 c4, .slice none 0 0], .bool true]) (by simp [results, Tryz.results17, go_sem, k0, k1, k2, k3]) rfl ⟨_, rfl, by rw [e2.out]; exact ⟨A3, n3, c3, A4, n4, c4, rfl, ⟨A3, n3, c3, A4, n4, c4, rfl, hF3.out.down hs2.out, hF4.out.down hs2.out, hne, hwf⟩, rfl⟩, (((hb3.out.setCell (Nat.le_succ _) _).setCell (Nat.le_succ _) _).setCell (Nat.le_succ _) _).setCell (Nat.le_succ _) _⟩
end Go.Proofs.YtpkbmmepapgogabGreatDoor
