/-
  Contracts of chapter 14, the program: PlaceOk, DeskOk.
-/
import Derived.Test.YtpkbmmepapgogabGreatDoorPlaceS
import Derived.Test.YtpkbmmepapgogabGreatDoorSameI
import Derived.Test.YtpkbmmepapgogabGreatDoorZri
namespace Go.Proofs.YtpkbmmepapgogabGreatDoor
open Go.RowKit
set_option linter.unusedVariables false

theorem placeOk_after (p : Plc) : afterOk p.start (sameRule p.start.length p.step) p.word = placeOk p := by
  unfold placeOk
  by_cases hst : startOk p.start = true
  · by_cases hs : stepB p.step = true
    · rw [hst, hs]; rfl
    · have hs : stepB p.step = false := by simpa using hs
      rw [hst, hs]
      unfold afterOk afterC begun sameRule
      rw [hs, Bool.and_false]
      unfold ruleOk
      by_cases h1 : p.start.length = 0
      · rw [h1, show decide (1 ≤ ((0 : Nat) : Int) ∧ ((0 : Nat) : Int) ≤ 3) = false by decide]
        simp
      · rw [if_neg (by decide), decide_eq_false (p := (([] : List (List Int)).length : Int) = p.start.length) (by simp; omega)]
        simp
  · have hst : startOk p.start = false := by simpa using hst
    unfold afterOk afterC begun
    rw [hst]; rfl

set_option maxHeartbeats 1600000 in
theorem placeOk_impl (v : Value) (p : Plc) (B : Nat) (w : World) (h : PlM w B v p) (hB : B ≤ w.heap.size) :
    Calls Tryz.prog 44 #[v] w fun e w' => e = .returned (.bool (placeOk p)) ∧ Below w.heap.size w w' := by
  obtain ⟨A, n, c, A', n', c', rfl, h1, h2, hwf⟩ := h.ex
  obtain ⟨W0, hW0⟩ : ∃ W0, Hid (w.alloc (.cells #[.slice A n c, .int .i64 p.step, .slice A' n' c'] 31) = W0) := ⟨_, hide rfl⟩
  have hq0 := hide (show Below w.heap.size w W0 by rw [← hW0.out]; exact al w _)
  have ht0 := hide (show Tri W0 w.heap.size (.slice A n c) (.int .i64 p.step) (.slice A' n' c') by rw [← hW0.out]; exact Tri.made w _ _ _ _)
  have hl := hide h1.len
  have i1 := hide ((h1.more hB).up hq0.out)
  have i2 := hide ((h2.more hB).up hq0.out)
  have hs := hide hq0.out.size
  have he := hide (placeOk_after p)
  have HA := hide (fun (W : World) (hq : Below W0.heap.size W0 W) => show Calls Tryz.prog 76 #[.int .i64 n, .int .i64 p.step] W (fun e w' => ∃ A₂ n₂ c₂, e = .returned (.slice A₂ n₂ c₂) ∧ Hid (Mat w' w'.heap.size A₂ n₂ c₂ (sameRule p.start.length p.step)) ∧ Below W0.heap.size W0 w' ∧ w'.cell? ⟨w.heap.size, 0, none⟩ = some (.slice A n c) ∧ w'.cell? ⟨w.heap.size, 1, none⟩ = some (.int .i64 p.step) ∧ w'.cell? ⟨w.heap.size, 2, none⟩ = some (.slice A' n' c')) from
    (sameRule_impl n p.step W hwf).mono fun e w' ⟨A₂, n₂, c₂, e1, ho, hq'⟩ => by
      have hk := ht0.out.up (upB hq hq')
      exact ⟨A₂, n₂, c₂, e1, hide (by have := ho.mat; rwa [hl.out]), upB hq hq', hk.c0, hk.c1, hk.c2⟩)
  have HB := hide (fun (A₂ : Option Addr) (n₂ c₂ : Nat) (W1 W : World) (hm : Hid (Mat W1 W1.heap.size A₂ n₂ c₂ (sameRule p.start.length p.step))) (hq1 : Below W1.heap.size W1 W) (hq : Below W0.heap.size W0 W) => show Calls Tryz.prog 75 #[.slice A n c, .slice A₂ n₂ c₂, .slice A' n' c'] W (fun e w' => ∃ A₃ n₃ c₃, e = .returned (.tuple #[.slice A₃ n₃ c₃, .bool (placeOk p)]) ∧ Below W0.heap.size W0 w' ∧ w'.cell? ⟨w.heap.size, 0, none⟩ = some (.slice A n c) ∧ w'.cell? ⟨w.heap.size, 1, none⟩ = some (.int .i64 p.step) ∧ w'.cell? ⟨w.heap.size, 2, none⟩ = some (.slice A' n' c')) from
    (afterWord_impl A A₂ A' n c _ n₂ c₂ _ n' c' _ p.start _ p.word W (i1.out.up hq) (hm.out.up hq1) (i2.out.up hq) (Nat.le_refl _) (Nat.le_refl _) (Nat.le_refl _)).mono fun e w' ⟨A₃, n₃, c₃, e1, ho, hq'⟩ => by
      have hk := ht0.out.up (upB hq hq')
      rw [he.out] at e1
      exact ⟨A₃, n₃, c₃, e1, upB hq hq', hk.c0, hk.c1, hk.c2⟩)
  clear he
  obtain ⟨V, hV⟩ : ∃ V, Hid (placeOk p = V) := ⟨_, hide rfl⟩
  rw [hV.out] at HB ⊢
  obtain ⟨f0, f1, f2, f3⟩ := ht0.out
  have hW1 := hW0.out
  subst hW1
  go_enter Tryz.func44, Tryz.ntmps44
  go_wp2_with fail
  go_region_held3 (fun W => W.cell? ⟨w.heap.size, 0, none⟩ = some (.slice A n c) ∧ W.cell? ⟨w.heap.size, 1, none⟩ = some (.int .i64 p.step) ∧ W.cell? ⟨w.heap.size, 2, none⟩ = some (.slice A' n' c')) (first | exact ⟨f0, f1, f2⟩ | exact ⟨k0, k1, k2⟩ | exact ⟨m0, m1, m2⟩) (first | (go_at_call 76; (with_reducible refine (HA.out _ ?_).mono ?_); (focus (repeat (first | assumption | exact Below.refl _ _ | refine Below.drew ?_)); done); rintro e w' ⟨A₂, n₂, c₂, rfl, hm, hq, k0, k1, k2⟩) | (go_at_call 75; (with_reducible refine (HB.out _ _ _ _ _ hm ?_ ?_).mono ?_); (focus (repeat (first | assumption | exact Below.refl _ _ | refine Below.drew ?_)); done); (focus (repeat (first | assumption | exact Below.refl _ _ | refine Below.drew ?_)); done); rintro e w' ⟨A₃, n₃, c₃, rfl, hq, m0, m1, m2⟩))
  all_goals
    go_wp2_with fail
    go_ret
    exact ⟨rfl, upB hq0.out (by assumption)⟩

end Go.Proofs.YtpkbmmepapgogabGreatDoor
