/-
  Contracts of chapter 14, the specification's side: PlaceOk, DeskOk, DeskNew.
-/
import Derived.Test.YtpkbmmepapgogabGreatDoorPlaceM
import Derived.Test.YtpkbmmepapgogabGreatDoorZsame
import Derived.Test.YtpkbmmepapgogabGreatDoorZrule
import Derived.Deep.RegionWith
import Derived.Deep.RegionHeld3
namespace Go.Proofs.YtpkbmmepapgogabGreatDoor
open Go.RowKit
set_option linter.unusedVariables false

/-- A block of three cells that are only read. -/
structure Tri (w : World) (g : Nat) (x y z : Value) : Prop where
  c0 : w.cell? ⟨g, 0, none⟩ = some x
  c1 : w.cell? ⟨g, 1, none⟩ = some y
  c2 : w.cell? ⟨g, 2, none⟩ = some z
  lt : g < w.heap.size
theorem Tri.made (w : World) (x y z : Value) (T : TypeId) : Tri (w.alloc (.cells #[x, y, z] T)) w.heap.size x y z :=
  ⟨by rw [World.cell?_alloc_new]; rfl, by rw [World.cell?_alloc_new]; rfl, by rw [World.cell?_alloc_new]; rfl, by simp⟩
theorem Tri.up {w w' : World} {g : Nat} {x y z : Value} (h : Tri w g x y z) (hq : Below w.heap.size w w') : Tri w' g x y z :=
  ⟨(hq.cell (p := ⟨g, 0, none⟩) h.lt).trans h.c0, (hq.cell (p := ⟨g, 1, none⟩) h.lt).trans h.c1, (hq.cell (p := ⟨g, 2, none⟩) h.lt).trans h.c2, Nat.lt_of_lt_of_le h.lt hq.size⟩

theorem inY (a lo hi : Int) (w : World) (h : lo ≤ a ∧ a ≤ hi) : Calls Tryz.prog 37 #[.int .i64 a, .int .i64 lo, .int .i64 hi] w fun e w' => e = .returned (.bool true) ∧ w = w' := by
  have := l1In_c a lo hi w
  rwa [decide_eq_true h] at this
theorem inN (a lo hi : Int) (w : World) (h : ¬(lo ≤ a ∧ a ≤ hi)) : Calls Tryz.prog 37 #[.int .i64 a, .int .i64 lo, .int .i64 hi] w fun e w' => e = .returned (.bool false) ∧ w = w' := by
  have := l1In_c a lo hi w
  rwa [decide_eq_false h] at this

set_option maxHeartbeats 1600000 in
theorem placeOk_spec (v : Value) (p : Plc) (B : Nat) (w : World) (h : PlM w B v p) (hB : B ≤ w.heap.size) :
    Calls Tryz.prog 41 #[v] w fun e w' => e = .returned (.bool (placeOk p)) ∧ Below w.heap.size w w' := by
  obtain ⟨A, n, c, A', n', c', rfl, h1, h2, hwf⟩ := h.ex
  obtain ⟨W0, hW0⟩ : ∃ W0, Hid (w.alloc (.cells #[.slice A n c, .int .i64 p.step, .slice A' n' c'] 31) = W0) := ⟨_, hide rfl⟩
  have hq0 := hide (show Below w.heap.size w W0 by rw [← hW0.out]; exact al w _)
  have ht0 := hide (show Tri W0 w.heap.size (.slice A n c) (.int .i64 p.step) (.slice A' n' c') by rw [← hW0.out]; exact Tri.made w _ _ _ _)
  have hl := hide h1.len
  have i1 := hide ((h1.more hB).up hq0.out)
  have i2 := hide ((h2.more hB).up hq0.out)
  have hs := hide hq0.out.size
  have HS := hide (startOk_spec A n c _ p.start W0 i1.out)
  by_cases hst : startOk p.start = true
  · rw [hst] at HS
    by_cases hstep : -1 ≤ p.step ∧ p.step ≤ 3
    · have hd : decide (-1 ≤ p.step ∧ p.step ≤ 3) = true := decide_eq_true hstep
      have HI := hide (inY p.step (-1) 3 W0 hstep)
      have he := hide (show placeOk p = afterOk p.start (sameRule p.start.length p.step) p.word by unfold placeOk; rw [hst, stepB_mk hstep]; rfl)
      have HA := hide (fun (W : World) (hq : Below W0.heap.size W0 W) => show Calls Tryz.prog 72 #[.int .i64 n, .int .i64 p.step] W (fun e w' => ∃ A₂ n₂ c₂, e = .returned (.slice A₂ n₂ c₂) ∧ Hid (Mat w' w'.heap.size A₂ n₂ c₂ (sameRule p.start.length p.step)) ∧ Below W0.heap.size W0 w' ∧ w'.cell? ⟨w.heap.size, 0, none⟩ = some (.slice A n c) ∧ w'.cell? ⟨w.heap.size, 1, none⟩ = some (.int .i64 p.step) ∧ w'.cell? ⟨w.heap.size, 2, none⟩ = some (.slice A' n' c')) from
        (sameRule_spec n p.step W hwf).mono fun e w' ⟨A₂, n₂, c₂, e1, ho, hq'⟩ => by
          have hk := ht0.out.up (upB hq hq')
          exact ⟨A₂, n₂, c₂, e1, hide (by have := ho.mat; rwa [hl.out]), upB hq hq', hk.c0, hk.c1, hk.c2⟩)
      have HB := hide (fun (A₂ : Option Addr) (n₂ c₂ : Nat) (W1 W : World) (hm : Hid (Mat W1 W1.heap.size A₂ n₂ c₂ (sameRule p.start.length p.step))) (hq1 : Below W1.heap.size W1 W) (hq : Below W0.heap.size W0 W) => show Calls Tryz.prog 71 #[.slice A n c, .slice A₂ n₂ c₂, .slice A' n' c'] W (fun e w' => ∃ A₃ n₃ c₃, e = .returned (.tuple #[.slice A₃ n₃ c₃, .bool (afterOk p.start (sameRule p.start.length p.step) p.word)]) ∧ Below W0.heap.size W0 w' ∧ w'.cell? ⟨w.heap.size, 0, none⟩ = some (.slice A n c) ∧ w'.cell? ⟨w.heap.size, 1, none⟩ = some (.int .i64 p.step) ∧ w'.cell? ⟨w.heap.size, 2, none⟩ = some (.slice A' n' c')) from
        (afterWord_spec A A₂ A' n c _ n₂ c₂ _ n' c' _ p.start _ p.word W (i1.out.up hq) (hm.out.up hq1) (i2.out.up hq) (Nat.le_refl _) (Nat.le_refl _) (Nat.le_refl _)).mono fun e w' ⟨A₃, n₃, c₃, e1, ho, hq'⟩ => by
          have hk := ht0.out.up (upB hq hq')
          exact ⟨A₃, n₃, c₃, e1, upB hq hq', hk.c0, hk.c1, hk.c2⟩)
      obtain ⟨V, hV⟩ : ∃ V, Hid (afterOk p.start (sameRule p.start.length p.step) p.word = V) := ⟨_, hide rfl⟩
      rw [hV.out] at HB he
      obtain ⟨f0, f1, f2, f3⟩ := ht0.out
      clear hstep hst
      have hW1 := hW0.out
      subst hW1
      go_enter Tryz.func41, Tryz.ntmps41
      go_wp2_with fail
      refine HS.out.mono ?_
      rintro e w' ⟨rfl, rfl⟩
      go_wp2_with (go_at_call 37; refine HI.out.mono ?_; rintro e w' ⟨rfl, rfl⟩)
      go_region_held3 (fun W => W.cell? ⟨w.heap.size, 0, none⟩ = some (.slice A n c) ∧ W.cell? ⟨w.heap.size, 1, none⟩ = some (.int .i64 p.step) ∧ W.cell? ⟨w.heap.size, 2, none⟩ = some (.slice A' n' c')) (first | exact ⟨f0, f1, f2⟩ | exact ⟨k0, k1, k2⟩ | exact ⟨m0, m1, m2⟩) (first | (go_at_call 72; (with_reducible refine (HA.out _ ?_).mono ?_); (focus (repeat (first | assumption | exact Below.refl _ _ | refine Below.drew ?_)); done); rintro e w' ⟨A₂, n₂, c₂, rfl, hm, hq, k0, k1, k2⟩) | (go_at_call 71; (with_reducible refine (HB.out _ _ _ _ _ hm ?_ ?_).mono ?_); (focus (repeat (first | assumption | exact Below.refl _ _ | refine Below.drew ?_)); done); (focus (repeat (first | assumption | exact Below.refl _ _ | refine Below.drew ?_)); done); rintro e w' ⟨A₃, n₃, c₃, rfl, hq, m0, m1, m2⟩))
      all_goals
        go_wp2_with fail
        go_ret
        exact ⟨ret_bool he.out.symm, upB hq0.out (by assumption)⟩
    · have he := hide (show placeOk p = false by unfold placeOk; rw [stepB_no hstep, Bool.and_false]; rfl)
      have HI := hide (inN p.step (-1) 3 W0 hstep)
      obtain ⟨f0, f1, f2, f3⟩ := ht0.out
      clear hstep hst
      have hW1 := hW0.out
      subst hW1
      go_enter Tryz.func41, Tryz.ntmps41
      go_wp2_with fail
      refine HS.out.mono ?_
      rintro e w' ⟨rfl, rfl⟩
      go_wp2_with (go_at_call 37; refine HI.out.mono ?_; rintro e w' ⟨rfl, rfl⟩)
      go_ret
      exact ⟨ret_bool he.out.symm, hq0.out⟩
  · have hst : startOk p.start = false := by simpa using hst
    rw [hst] at HS
    have he := hide (show placeOk p = false by unfold placeOk; rw [hst]; rfl)
    obtain ⟨f0, f1, f2, f3⟩ := ht0.out
    clear hst
    have hW1 := hW0.out
    subst hW1
    go_enter Tryz.func41, Tryz.ntmps41
    go_wp2_with fail
    refine HS.out.mono ?_
    rintro e w' ⟨rfl, rfl⟩
    go_wp2_with fail
    go_ret
    exact ⟨ret_bool he.out.symm, hq0.out⟩

/-- A block of four cells that are only read. -/
structure Qua (w : World) (g : Nat) (x y z u : Value) : Prop where
  c0 : w.cell? ⟨g, 0, none⟩ = some x
  c1 : w.cell? ⟨g, 1, none⟩ = some y
  c2 : w.cell? ⟨g, 2, none⟩ = some z
  c3 : w.cell? ⟨g, 3, none⟩ = some u
  lt : g < w.heap.size
theorem Qua.made (w : World) (x y z u : Value) (T : TypeId) : Qua (w.alloc (.cells #[x, y, z, u] T)) w.heap.size x y z u :=
  ⟨by rw [World.cell?_alloc_new]; rfl, by rw [World.cell?_alloc_new]; rfl, by rw [World.cell?_alloc_new]; rfl, by rw [World.cell?_alloc_new]; rfl, by simp⟩
theorem Qua.up {w w' : World} {g : Nat} {x y z u : Value} (h : Qua w g x y z u) (hq : Below w.heap.size w w') : Qua w' g x y z u :=
  ⟨(hq.cell (p := ⟨g, 0, none⟩) h.lt).trans h.c0, (hq.cell (p := ⟨g, 1, none⟩) h.lt).trans h.c1, (hq.cell (p := ⟨g, 2, none⟩) h.lt).trans h.c2, (hq.cell (p := ⟨g, 3, none⟩) h.lt).trans h.c3, Nat.lt_of_lt_of_le h.lt hq.size⟩

end Go.Proofs.YtpkbmmepapgogabGreatDoor
