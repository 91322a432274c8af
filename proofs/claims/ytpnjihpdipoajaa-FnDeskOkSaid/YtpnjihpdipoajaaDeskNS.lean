/-
  Contracts of chapter 14, the specification's side: DeskNew, with what it owns (written by wip/gen_f5.py).
-/
import Derived.Test.YtpnjihpdipoajaaDkS
import Derived.Test.YtpnjihpdipoajaaDeskN
namespace Go.Proofs.Ytpnjihpdipoajaa
open Go.RowKit
set_option linter.unusedVariables false

set_option maxRecDepth 100000 in
set_option maxHeartbeats 3200000 in
theorem deskNew_specS (v : Value) (p : Plc) (B : Nat) (w : World) (h : PlM w B v p) (hB : B ≤ w.heap.size) :
    Calls Try.prog 16 #[v] w fun e w' => ∃ u, e = .returned (.tuple #[u, .bool (placeOk p)]) ∧ DkS w' w.heap.size u (newDsk p) ∧ Below w.heap.size w w' := by
  obtain ⟨A, n, c, A', n', c', rfl, h1, h2, hwf⟩ := h.ex
  have hq0 := hide (show Below w.heap.size w ((w.alloc (.cells #[.slice A n c, .int .i64 p.step, .slice A' n' c'] 25)).alloc (.cells #[.slice none 0 0, .int .i64 0, .slice none 0 0, .slice none 0 0] 32)) from (al w _).alloc (by simp) _)
  have ht := hide (show Tri ((w.alloc (.cells #[.slice A n c, .int .i64 p.step, .slice A' n' c'] 25)).alloc (.cells #[.slice none 0 0, .int .i64 0, .slice none 0 0, .slice none 0 0] 32)) w.heap.size (.slice A n c) (.int .i64 p.step) (.slice A' n' c') from (Tri.made w _ _ _ _).up (al _ _))
  have hz := hide (show QuaW ((w.alloc (.cells #[.slice A n c, .int .i64 p.step, .slice A' n' c'] 25)).alloc (.cells #[.slice none 0 0, .int .i64 0, .slice none 0 0, .slice none 0 0] 32)) (w.heap.size + 1) (.slice none 0 0) (.int .i64 0) (.slice none 0 0) (.slice none 0 0) from by have := QuaW.made (w.alloc (.cells #[.slice A n c, .int .i64 p.step, .slice A' n' c'] 25)) (.slice none 0 0) (.int .i64 0) (.slice none 0 0) (.slice none 0 0) 32; simpa using this)
  obtain ⟨W0, hW0⟩ : ∃ W0, Hid ((w.alloc (.cells #[.slice A n c, .int .i64 p.step, .slice A' n' c'] 25)).alloc (.cells #[.slice none 0 0, .int .i64 0, .slice none 0 0, .slice none 0 0] 32) = W0) := ⟨_, hide rfl⟩
  rw [hW0.out] at hq0 ht hz
  have hgs := hide (show w.heap.size + 2 = W0.heap.size by rw [← hW0.out]; simp)
  have i1 := hide ((h1.more hB).up hq0.out)
  have i2 := hide ((h2.more hB).up hq0.out)
  have HO := hide (placeOk_spec _ p _ W0 (plM_mk i1.out i2.out hwf) (Nat.le_refl _))
  cases hok : placeOk p with
  | false =>
    rw [hok] at HO
    have e2 := hide (show newDsk p = noDsk by unfold newDsk; rw [hok]; rfl)
    clear hok
    have hW1 := hW0.out
    subst hW1
    go_enter Try.func16, Try.ntmps16
    go_wp2_with (go_at_call 9; refine HO.out.mono ?_; rintro e w2 ⟨rfl, hq⟩; have hz2 := hide (hz.out.up hq); have hb := hide (upB hq0.out hq); obtain ⟨x0, x1, x2, x3, y0, y1, y2, y3, _⟩ := hz2.out; clear hq)
    obtain ⟨k0, k1, k2, k3, _, _, _, _, _⟩ := (((hz2.out.set0 (.slice none 0 0)).set1 (.int .i64 0)).set2 (.slice none 0 0)).set3 (.slice none 0 0)
    exact bodyPost_ret (v := .tuple #[.agg #[.slice none 0 0, .int .i64 0, .slice none 0 0, .slice none 0 0], .bool false]) (by simp [results, Try.results16, go_sem, k0, k1, k2, k3]) rfl ⟨_, rfl, by rw [e2.out]; exact DkS.none_, (((hb.out.setCell (Nat.le_succ _) _).setCell (Nat.le_succ _) _).setCell (Nat.le_succ _) _).setCell (Nat.le_succ _) _⟩
  | true =>
    rw [hok] at HO
    have e2 := hide (show newDsk p = ⟨p, []⟩ by unfold newDsk; rw [hok]; rfl)
    obtain ⟨⟨g1, g3⟩, _, _, g6, _⟩ := placeOk_yes hok
    have HC := hide (fun (W : World) (hq : Below W0.heap.size W0 W) => l15Place_c _ p _ W (plM_mk (i1.out.up hq) (i2.out.up hq) hwf) (Nat.le_refl _) g1 (by omega) (by omega))
    clear hok
    have hW1 := hW0.out
    subst hW1
    go_enter Try.func16, Try.ntmps16
    go_wp2_with (go_at_call 9; refine HO.out.mono ?_; rintro e w2 ⟨rfl, hq⟩; have hz2 := hide (hz.out.up hq); have hb := hide (upB hq0.out hq); obtain ⟨t0, t1, t2, _⟩ := ht.out.up hq; replace HC := hide (HC.out _ hq))
    refine HC.out.mono ?_
    rintro e w3 ⟨u, rfl, hp, hq3⟩
    obtain ⟨A3, n3, c3, A4, n4, c4, rfl, ho3, ho4, _, _⟩ := hp.ex
    have hz3 := hide (hz2.out.up hq3)
    have hb3 := hide (upB hb.out hq3)
    obtain ⟨x0, x1, x2, x3, y0, y1, y2, y3, hlt3⟩ := hz3.out
    have hsz := hide (show w.heap.size + 1 < w2.heap.size from hz2.out.lt)
    have hs2 := hide (show w.heap.size ≤ w2.heap.size from by have := hsz.out; omega)
    have hF3 := hide ((((ho3.setLow (a := ⟨w.heap.size + 1, 0, none⟩) hsz.out (.slice A3 n3 c3)).setLow (a := ⟨w.heap.size + 1, 1, none⟩) hsz.out (.int .i64 p.step)).setLow (a := ⟨w.heap.size + 1, 2, none⟩) hsz.out (.slice A4 n4 c4)).setLow (a := ⟨w.heap.size + 1, 3, none⟩) hsz.out (.slice none 0 0))
    have hF4 := hide ((((ho4.setLow (a := ⟨w.heap.size + 1, 0, none⟩) hsz.out (.slice A3 n3 c3)).setLow (a := ⟨w.heap.size + 1, 1, none⟩) hsz.out (.int .i64 p.step)).setLow (a := ⟨w.heap.size + 1, 2, none⟩) hsz.out (.slice A4 n4 c4)).setLow (a := ⟨w.heap.size + 1, 3, none⟩) hsz.out (.slice none 0 0))
    go_wp2_with fail
    obtain ⟨k0, k1, k2, k3, _, _, _, _, _⟩ := (((hz3.out.set0 (.slice A3 n3 c3)).set1 (.int .i64 p.step)).set2 (.slice A4 n4 c4)).set3 (.slice none 0 0)
    exact bodyPost_ret (v := .tuple #[.agg #[.slice A3 n3 c3, .int .i64 p.step, .slice A4 n4 c4, .slice none 0 0], .bool true]) (by simp [results, Try.results16, go_sem, k0, k1, k2, k3]) rfl ⟨_, rfl, by rw [e2.out]; exact dkS_mk (p := p) ⟨A3, n3, c3, A4, n4, c4, rfl, hF3.out.down hs2.out, hF4.out.down hs2.out, hwf⟩ (.inl PsZ.none_), (((hb3.out.setCell (Nat.le_succ _) _).setCell (Nat.le_succ _) _).setCell (Nat.le_succ _) _).setCell (Nat.le_succ _) _⟩
end Go.Proofs.Ytpnjihpdipoajaa
