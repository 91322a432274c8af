/-
  Draws of chapter 14: places (written by wip/gen_f1.py).
-/
import Derived.Test.YtpkbmmepapgogabGreatDoorDrawPl
import Derived.Test.YtpkbmmepapgogabGreatDoorZpd
namespace Go.Proofs.YtpkbmmepapgogabGreatDoor
open Go.RowKit
set_option linter.unusedVariables false

theorem below_ptr {w W W' : World} {g : Nat} (hb : Below w.heap.size w W) (hg : W.grownBy W' (some g)) (h : w.heap.size ≤ g) : Below w.heap.size w W' := hb.grown hg hb.size (fun k hk => by injection hk with hk; omega)

set_option maxRecDepth 100000 in
set_option maxHeartbeats 1600000 in
theorem DrawStoreNew_c (A : Option Addr) (n c : Nat) (bs : List Int) (w : World) (h : Bts w w.heap.size A n c bs) :
    Calls Tryz.prog 13 #[.slice A n c] w fun e w' => ∃ (u : Value) (p : Plc), e = .returned u ∧ PlM w' w'.heap.size u p ∧ p.start.length ≤ 8 ∧ p.word.length ≤ 10 ∧ Below w.heap.size w w' := by
  have hq0 := hide (al w (.cells #[.slice none 0 0, .int .i64 0, .slice none 0 0] 31))
  have hz := hide (TriW.made w (.slice none 0 0) (.int .i64 0) (.slice none 0 0) 31)
  have HO := hide (open_c A n c bs _ ((h.below hq0.out).more hq0.out.size))
  go_enter Tryz.func13, Tryz.ntmps13
  go_wp2_with fail
  refine HO.out.mono ?_
  rintro e w1 ⟨g, rfl, hr1, hg, hb1⟩
  have hg1 : w.heap.size + 1 ≤ g := by simpa using hg
  have hz1 := hide (hz.out.up hb1)
  have hb1 := hide (upB hq0.out hb1)
  have hr1 := hide hr1
  clear HO hg hz
  go_wp2_with fail
  refine (l20Place_c g 0 4 _ hr1.out (by omega) (by omega) (by omega)).mono ?_
  rintro e w2 ⟨A1, n1, c1, A2, n2, c2, zs, ws, S, rfl, ho1, ho2, hn1, hn2, hS0, hS1, hr2, hg2⟩
  have hb2 := hide (below_ptr hb1.out hg2 (by omega))
  have hz2 := hide (hz1.out.grown hg2 (fun k e => by have := Option.some.inj e; omega))
  have hlt := hide (show w.heap.size < w1.heap.size by have := hz1.out.lt; omega)
  have hP := hide (fun (u0 u1 u2 : Value) => plM_mk (p := ⟨zs, S, ws⟩) (((ho1.setLow (a := ⟨w.heap.size, 0, none⟩) hlt.out u0).setLow (a := ⟨w.heap.size, 1, none⟩) hlt.out u1).setLow (a := ⟨w.heap.size, 2, none⟩) hlt.out u2).ints (((ho2.setLow (a := ⟨w.heap.size, 0, none⟩) hlt.out u0).setLow (a := ⟨w.heap.size, 1, none⟩) hlt.out u1).setLow (a := ⟨w.heap.size, 2, none⟩) hlt.out u2).ints (show (Lit.int .i64 S).wf = true from wf_i64 (by omega)))
  have hl1 := hide (show zs.length ≤ 8 by have := ho1.len; omega)
  have hl2 := hide (show ws.length ≤ 10 by have := ho2.len; omega)
  clear hg2 hr2 ho1 ho2
  obtain ⟨s0, s1, s2, t0, t1, t2, _⟩ := hz2.out
  go_wp2_with fail
  obtain ⟨k0, k1, k2, _, _, _, _⟩ := ((hz2.out.set0 (.slice A1 n1 c1)).set1 (.int .i64 S)).set2 (.slice A2 n2 c2)
  exact bodyPost_ret (v := .agg #[.slice A1 n1 c1, .int .i64 S, .slice A2 n2 c2]) (by simp [results, Tryz.results13, go_sem, k0, k1, k2]) rfl ⟨_, ⟨zs, S, ws⟩, rfl, hP.out _ _ _, hl1.out, hl2.out, ((hb2.out.setCell (Nat.le_refl _) _).setCell (Nat.le_refl _) _).setCell (Nat.le_refl _) _⟩

end Go.Proofs.YtpkbmmepapgogabGreatDoor
