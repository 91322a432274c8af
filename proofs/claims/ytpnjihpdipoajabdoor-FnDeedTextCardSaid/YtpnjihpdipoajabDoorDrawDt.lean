/-
  Draws of chapter 14: DrawDeedText.
-/
import Derived.Test.YtpnjihpdipoajabDoorDrawDd
namespace Go.Proofs.YtpnjihpdipoajabDoor
open Go.RowKit
set_option linter.unusedVariables false

theorem bts_alloc {A : Option Addr} {n c : Nat} {bs : List Int} {w : World} (h : Bts w w.heap.size A n c bs) (o : Obj) : Bts (w.alloc o) (w.alloc o).heap.size A n c bs := (h.below (al w o)).more (al w o).size
theorem below_of_new {w W W' : World} {g : Nat} (hb : Below w.heap.size w W) (hg : W.grownBy W' (some g)) (h : w.heap.size ≤ g) : Below w.heap.size w W' := hb.grown hg hb.size (fun k hk => by injection hk with hk; omega)
set_option maxRecDepth 100000 in
set_option maxHeartbeats 1600000 in
theorem DrawDeedText_c (A : Option Addr) (n c : Nat) (bs : List Int) (w : World) (h : Bts w w.heap.size A n c bs) :
    Calls Tryd.prog 7 #[.slice A n c] w fun e w' => ∃ d : Ded, e = .returned (.agg #[.int .i64 d.k, .int .i64 d.a, .int .i64 d.b]) ∧ wfD d ∧ Below w.heap.size w w' := by
  have hq0 := hide (al w (.cells #[.int .i64 0, .int .i64 0, .int .i64 0] 24))
  have hz := hide (TriW.made w (.int .i64 0) (.int .i64 0) (.int .i64 0) 24)
  have HO := hide (open_c A n c bs _ (bts_alloc h (.cells #[.int .i64 0, .int .i64 0, .int .i64 0] 24)))
  go_enter Tryd.func7, Tryd.ntmps7
  go_wp2_with fail
  refine HO.out.mono ?_
  rintro e w1 ⟨g, rfl, hr1, hg, hb1⟩
  have hg1 : w.heap.size + 1 ≤ g := by simpa using hg
  have hz1 := hide (hz.out.up hb1)
  have hb1 := hide (upB hq0.out hb1)
  have hr1 := hide hr1
  clear HO hz hg
  go_wp2_with fail
  refine (l20Place_c g 0 0 _ hr1.out (by omega) (by omega) (by omega)).mono ?_
  rintro e w2 ⟨A1, n1, c1, A2, n2, c2, zs, ws, S, rfl, ho1, ho2, hn1, hn2, hS0, hS1, hr2, hg2⟩
  have hz2 := hide (hz1.out.grown hg2 (fun k e => by have := Option.some.inj e; omega))
  have hb2 := hide (below_of_new hb1.out hg2 (by omega))
  have hr2 := hide hr2
  clear ho1 ho2 hg2 hr1 hb1 hz1
  go_wp2_with fail
  refine (l20Deed_c g _ A1 n1 c1 S A2 n2 c2 _ hr2.out (by omega) (by omega)).mono ?_
  rintro e w3 ⟨k, a, b, rfl, hk, ha, hb, hr3, hg3⟩
  have hz3 := hide (hz2.out.grown hg3 (fun k e => by have := Option.some.inj e; omega))
  have hb3 := hide (below_of_new hb2.out hg3 (by omega))
  clear hg3 hr3 hr2 hb2 hz2
  obtain ⟨s0, s1, s2, t0, t1, t2, _⟩ := hz3.out
  go_wp2_with fail
  obtain ⟨k0, k1, k2, _, _, _, _⟩ := ((hz3.out.set0 (.int .i64 k)).set1 (.int .i64 a)).set2 (.int .i64 b)
  exact bodyPost_ret (v := .agg #[.int .i64 k, .int .i64 a, .int .i64 b]) (by simp [results, Tryd.results7, go_sem, k0, k1, k2]) rfl ⟨⟨k, a, b⟩, rfl, ⟨wf_i64 (z := k) (by omega), wf_i64 (z := a) (by omega), wf_i64 (z := b) (by omega)⟩, ((hb3.out.setCell (Nat.le_refl _) _).setCell (Nat.le_refl _) _).setCell (Nat.le_refl _) _⟩
end Go.Proofs.YtpnjihpdipoajabDoor
