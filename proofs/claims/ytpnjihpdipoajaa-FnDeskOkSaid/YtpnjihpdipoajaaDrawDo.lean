/-
  Draws of chapter 14: DrawDeskOk (written by wip/gen_f7.py).
-/
import Derived.Test.YtpnjihpdipoajaaDrawDk
import Derived.Test.YtpnjihpdipoajaaDrawPo
namespace Go.Proofs.Ytpnjihpdipoajaa
open Go.RowKit
set_option linter.unusedVariables false

theorem dkF_low4 {w : World} {base b : Nat} {v : Value} {d : Dsk} (h : DkF w base v d) (hb : b < base) (x y z u : Value) : DkF ((((w.setCell ⟨b, 0, none⟩ x).setCell ⟨b, 1, none⟩ y).setCell ⟨b, 2, none⟩ z).setCell ⟨b, 3, none⟩ u) base v d := by
  have s : ∀ {X : World} {i : Nat} {a : Value}, DkF X base v d → DkF (X.setCell ⟨b, i, none⟩ a) base v d := fun {X i a} hX => hX.far (grown_at X ⟨b, i, none⟩ a) hb
  exact s (s (s (s h)))
set_option maxRecDepth 100000 in
set_option maxHeartbeats 1600000 in
theorem DrawDeskOk_c (A : Option Addr) (n c : Nat) (bs : List Int) (w : World) (h : Bts w w.heap.size A n c bs) :
    Calls Try.prog 11 #[.slice A n c] w fun e w' => ∃ (u : Value) (d : Dsk), e = .returned u ∧ DkM w' w'.heap.size u d ∧ Below w.heap.size w w' := by
  have hq0 := hide (al w (.cells #[.slice none 0 0, .int .i64 0, .slice none 0 0, .slice none 0 0] 32))
  have hz := hide (QuaW.made w (.slice none 0 0) (.int .i64 0) (.slice none 0 0) (.slice none 0 0) 32)
  have HO := hide (open_c A n c bs _ ((h.below hq0.out).more hq0.out.size))
  go_enter Try.func11, Try.ntmps11
  go_wp2_with fail
  refine HO.out.mono ?_
  rintro e w1 ⟨g, rfl, hr1, hg, hb1⟩
  have hg1 : w.heap.size + 1 ≤ g := by simpa using hg
  have hz1 := hide (hz.out.up hb1)
  have hb1 := hide (upB hq0.out hb1)
  have hr1 := hide hr1
  clear HO hg hz
  go_wp2_with fail
  refine (l20Desk_c g 0 2 _ hr1.out (by omega) (by omega) (by omega)).mono ?_
  rintro e w2 ⟨u, d, rfl, hd, _, _, hg2⟩
  have hb2 := hide (below_ptr hb1.out hg2 (by omega))
  have hz2 := hide (hz1.out.grown hg2 (fun k e => by have := Option.some.inj e; omega))
  have hlt := hide (show w.heap.size < w1.heap.size by have := hz1.out.lt; omega)
  have hd2 := hide hd
  obtain ⟨B1, m1, e1, B2, m2, e2, B3, m3, e3, rfl, _⟩ := hd.ex
  clear hg2 hd
  obtain ⟨s0, s1, s2, s3, t0, t1, t2, t3, _⟩ := hz2.out
  go_wp2_with fail
  obtain ⟨k0, k1, k2, k3, _⟩ := (((hz2.out.set0 (.slice B1 m1 e1)).set1 (.int .i64 d.now.step)).set2 (.slice B2 m2 e2)).set3 (.slice B3 m3 e3)
  exact bodyPost_ret (v := .agg #[.slice B1 m1 e1, .int .i64 d.now.step, .slice B2 m2 e2, .slice B3 m3 e3]) (by simp [results, Try.results11, go_sem, k0, k1, k2, k3]) rfl ⟨_, d, rfl, (dkF_low4 hd2.out hlt.out _ _ _ _).dkM, (((hb2.out.setCell (Nat.le_refl _) _).setCell (Nat.le_refl _) _).setCell (Nat.le_refl _) _).setCell (Nat.le_refl _) _⟩
end Go.Proofs.Ytpnjihpdipoajaa
