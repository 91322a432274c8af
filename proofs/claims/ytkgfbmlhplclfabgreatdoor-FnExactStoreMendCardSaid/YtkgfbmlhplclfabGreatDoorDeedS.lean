/-
  Contracts of chapter 14, the specification's side: DeedText.
-/
import Derived.Test.YtkgfbmlhplclfabGreatDoorZtx
import Derived.Test.YtkgfbmlhplclfabGreatDoorZpb
import Derived.Deep.RegionHeld3
namespace Go.Proofs.YtkgfbmlhplclfabGreatDoor
open Go.RowKit
set_option linter.unusedVariables false

set_option maxRecDepth 100000 in
set_option maxHeartbeats 3200000 in
theorem deedText_spec (d : Ded) (w : World) :
    Calls Tryz.prog 75 #[.agg #[.int .i64 d.k, .int .i64 d.a, .int .i64 d.b]] w fun e w' => e = .returned (.string (strB (deedT d))) ∧ Below w.heap.size w w' := by
  obtain ⟨k, a, b⟩ := d
  show Calls Tryz.prog 75 #[.agg #[.int .i64 k, .int .i64 a, .int .i64 b]] w _
  by_cases ha : -99 ≤ a ∧ a ≤ 99
  · have HA := hide (fun W => inY a (-99) 99 W ha)
    by_cases hb : -99 ≤ b ∧ b ≤ 99
    · have HB := hide (fun W => inY b (-99) 99 W hb)
      by_cases hk0 : k = 0
      · subst hk0
        have hNa := hide (fun W => l15Step_c a W (by omega) (by omega))
        have hNb := hide (fun W => l15Step_c b W (by omega) (by omega))
        have hsa := (step_at ha.1 ha.2).2.2.2
        have hsb := (step_at hb.1 hb.2).2.2.2
        rw [← strB_size] at hsa hsb
        have he := hide (show strB (deedT ⟨0, a, b⟩) = ⟨#[112, 117, 116, 32]⟩ ++ strB (stepT a) ++ ⟨#[32]⟩ ++ strB (stepT b) by
          rw [deedT_ok (by unfold deedB kindB numB; simp; omega)]
          show strB (wPut ++ 32 :: (stepT a ++ 32 :: stepT b)) = strB [112, 117, 116, 32] ++ strB (stepT a) ++ strB [32] ++ strB (stepT b)
          rw [← strB_append, ← strB_append, ← strB_append]
          exact congrArg strB (by simp [wPut]))
        obtain ⟨SA, hSA⟩ : ∃ S, Hid (strB (stepT a) = S) := ⟨_, hide rfl⟩
        obtain ⟨SB, hSB⟩ : ∃ S, Hid (strB (stepT b) = S) := ⟨_, hide rfl⟩
        rw [hSA.out] at hNa hsa he
        rw [hSB.out] at hNb hsb he
        obtain ⟨c0, c1, c2, f0, f1, f2, flt⟩ := TriW.made w (.int .i64 0) (.int .i64 a) (.int .i64 b) 71
        have q1 : ¬ 9223372036854775807 < 4 + SA.size := by omega
        have q2 : ¬ 9223372036854775807 < 4 + SA.size + 1 := by omega
        have q3 : ¬ 9223372036854775807 < 4 + SA.size + 1 + SB.size := by omega
        have ht0 := hide (TriW.made w (.int .i64 0) (.int .i64 a) (.int .i64 b) 71)
        have KA := hide (fun (W : World) (hq : Below (w.alloc (.cells #[.int .i64 0, .int .i64 a, .int .i64 b] 71)).heap.size (w.alloc (.cells #[.int .i64 0, .int .i64 a, .int .i64 b] 71)) W) => show Calls Tryz.prog 69 #[.int .i64 a] W (fun e w' => e = .returned (.string SA) ∧ Below (w.alloc (.cells #[.int .i64 0, .int .i64 a, .int .i64 b] 71)).heap.size (w.alloc (.cells #[.int .i64 0, .int .i64 a, .int .i64 b] 71)) w' ∧ w'.cell? ⟨w.heap.size, 1, none⟩ = some (.int .i64 a) ∧ w'.cell? ⟨w.heap.size, 2, none⟩ = some (.int .i64 b)) from
          (hNa.out W).mono fun e w' ⟨e1, hq'⟩ => by
            have hk := ht0.out.up (upB hq hq')
            exact ⟨e1, upB hq hq', hk.c1, hk.c2⟩)
        have KB := hide (fun (W : World) (hq : Below (w.alloc (.cells #[.int .i64 0, .int .i64 a, .int .i64 b] 71)).heap.size (w.alloc (.cells #[.int .i64 0, .int .i64 a, .int .i64 b] 71)) W) => show Calls Tryz.prog 69 #[.int .i64 b] W (fun e w' => e = .returned (.string SB) ∧ Below (w.alloc (.cells #[.int .i64 0, .int .i64 a, .int .i64 b] 71)).heap.size (w.alloc (.cells #[.int .i64 0, .int .i64 a, .int .i64 b] 71)) w' ∧ w'.cell? ⟨w.heap.size, 1, none⟩ = some (.int .i64 a) ∧ w'.cell? ⟨w.heap.size, 2, none⟩ = some (.int .i64 b)) from
          (hNb.out W).mono fun e w' ⟨e1, hq'⟩ => by
            have hk := ht0.out.up (upB hq hq')
            exact ⟨e1, upB hq hq', hk.c1, hk.c2⟩)
        go_enter Tryz.func75, Tryz.ntmps75
        go_wp2_with (go_at_call 30; (first | (with_reducible refine (HA.out _).mono ?_) | (with_reducible refine (HB.out _).mono ?_)); rintro e w' ⟨rfl, rfl⟩)
        go_region_held3 (fun W => W.cell? ⟨w.heap.size, 1, none⟩ = some (.int .i64 a) ∧ W.cell? ⟨w.heap.size, 2, none⟩ = some (.int .i64 b)) (first | exact ⟨c1, c2⟩ | exact ⟨k1, k2⟩ | exact ⟨m1, m2⟩) (first | (go_at_call 69; (with_reducible refine (KA.out _ ?_).mono ?_); (focus (repeat (first | assumption | exact Below.refl _ _ | refine Below.drew ?_)); done); rintro e w' ⟨rfl, hq, k1, k2⟩) | (go_at_call 69; (with_reducible refine (KB.out _ ?_).mono ?_); (focus (repeat (first | assumption | exact Below.refl _ _ | refine Below.drew ?_)); done); rintro e w' ⟨rfl, hq, m1, m2⟩))
        all_goals
          go_wp2_with fail
          go_ret
          exact ⟨by rw [he.out]; rfl, upB (al w _) (by assumption)⟩
      · by_cases hk1 : k = 1
        · subst hk1
          by_cases hb0 : b = 0
          · subst hb0
            have hN := hide (fun W => l15Step_c a W (by omega) (by omega))
            have hs := (step_at ha.1 ha.2).2.2.2
            rw [← strB_size] at hs
            have he := hide (show strB (deedT ⟨1, a, 0⟩) = ⟨#[115, 116, 101, 112, 32]⟩ ++ strB (stepT a) by
              rw [deedT_ok (by unfold deedB kindB numB; simp; omega)]
              show strB (wStep ++ 32 :: stepT a) = strB [115, 116, 101, 112, 32] ++ strB (stepT a)
              rw [← strB_append]
              exact congrArg strB (by simp [wStep]))
            obtain ⟨S, hS⟩ : ∃ S, Hid (strB (stepT a) = S) := ⟨_, hide rfl⟩
            rw [hS.out] at hN hs he
            go_enter Tryz.func75, Tryz.ntmps75
            go_wp2_with (first | (go_at_call 30; (first | (with_reducible refine (HA.out _).mono ?_) | (with_reducible refine (HB.out _).mono ?_)); rintro e w' ⟨rfl, rfl⟩) | (go_at_call 69; refine (hN.out _).mono ?_; rintro e w2 ⟨rfl, hq⟩))
            go_ret
            exact ⟨by rw [he.out]; rfl, upB (al w _) hq⟩
          · have hbz : (b == 0) = false := by simpa using hb0
            have he := hide (show strB (deedT ⟨1, a, b⟩) = ⟨#[]⟩ by rw [deedT_no (by unfold deedB kindB numB; simp [hb0])]; rfl)
            go_enter Tryz.func75, Tryz.ntmps75
            go_wp2_with (go_at_call 30; (first | (with_reducible refine (HA.out _).mono ?_) | (with_reducible refine (HB.out _).mono ?_)); rintro e w' ⟨rfl, rfl⟩)
            all_goals
              go_ret
              exact ⟨by rw [he.out]; rfl, al w _⟩
        · by_cases hk2 : k = 2
          · subst hk2
            by_cases hb0 : b = 0
            · subst hb0
              have hN := hide (fun W => l15Step_c a W (by omega) (by omega))
              have hs := (step_at ha.1 ha.2).2.2.2
              rw [← strB_size] at hs
              have he := hide (show strB (deedT ⟨2, a, 0⟩) = ⟨#[100, 114, 97, 119, 32]⟩ ++ strB (stepT a) by
                rw [deedT_ok (by unfold deedB kindB numB; simp; omega)]
                show strB (wDraw ++ 32 :: stepT a) = strB [100, 114, 97, 119, 32] ++ strB (stepT a)
                rw [← strB_append]
                exact congrArg strB (by simp [wDraw]))
              obtain ⟨S, hS⟩ : ∃ S, Hid (strB (stepT a) = S) := ⟨_, hide rfl⟩
              rw [hS.out] at hN hs he
              go_enter Tryz.func75, Tryz.ntmps75
              go_wp2_with (first | (go_at_call 30; (first | (with_reducible refine (HA.out _).mono ?_) | (with_reducible refine (HB.out _).mono ?_)); rintro e w' ⟨rfl, rfl⟩) | (go_at_call 69; refine (hN.out _).mono ?_; rintro e w2 ⟨rfl, hq⟩))
              go_ret
              exact ⟨by rw [he.out]; rfl, upB (al w _) hq⟩
            · have hbz : (b == 0) = false := by simpa using hb0
              have he := hide (show strB (deedT ⟨2, a, b⟩) = ⟨#[]⟩ by rw [deedT_no (by unfold deedB kindB numB; simp [hb0])]; rfl)
              go_enter Tryz.func75, Tryz.ntmps75
              go_wp2_with (go_at_call 30; (first | (with_reducible refine (HA.out _).mono ?_) | (with_reducible refine (HB.out _).mono ?_)); rintro e w' ⟨rfl, rfl⟩)
              all_goals
                go_ret
                exact ⟨by rw [he.out]; rfl, al w _⟩
          · by_cases hk3 : k = 3
            · subst hk3
              by_cases hab : a = 0 ∧ b = 0
              · obtain ⟨rfl, rfl⟩ := hab
                have he := hide (show strB (deedT ⟨3, 0, 0⟩) = ⟨#[97, 103, 97, 105, 110]⟩ by
                  rw [deedT_ok (by decide)]; rfl)
                go_enter Tryz.func75, Tryz.ntmps75
                go_wp2_with (go_at_call 30; (first | (with_reducible refine (HA.out _).mono ?_) | (with_reducible refine (HB.out _).mono ?_)); rintro e w' ⟨rfl, rfl⟩)
                go_ret
                exact ⟨by rw [he.out]; rfl, al w _⟩
              · by_cases ha0 : a = 0
                · subst ha0
                  have hbz : (b == 0) = false := by simpa using hab
                  have he := hide (show strB (deedT ⟨3, 0, b⟩) = ⟨#[]⟩ by rw [deedT_no (by unfold deedB kindB numB; simp; omega)]; rfl)
                  go_enter Tryz.func75, Tryz.ntmps75
                  go_wp2_with (go_at_call 30; (first | (with_reducible refine (HA.out _).mono ?_) | (with_reducible refine (HB.out _).mono ?_)); rintro e w' ⟨rfl, rfl⟩)
                  all_goals
                    go_ret
                    exact ⟨by rw [he.out]; rfl, al w _⟩
                · have haz : (a == 0) = false := by simpa using ha0
                  have he := hide (show strB (deedT ⟨3, a, b⟩) = ⟨#[]⟩ by rw [deedT_no (by unfold deedB kindB numB; simp; omega)]; rfl)
                  go_enter Tryz.func75, Tryz.ntmps75
                  go_wp2_with (go_at_call 30; (first | (with_reducible refine (HA.out _).mono ?_) | (with_reducible refine (HB.out _).mono ?_)); rintro e w' ⟨rfl, rfl⟩)
                  all_goals
                    go_ret
                    exact ⟨by rw [he.out]; rfl, al w _⟩
            · by_cases hk4 : k = 4
              · subst hk4
                by_cases hab : a = 0 ∧ b = 0
                · obtain ⟨rfl, rfl⟩ := hab
                  have he := hide (show strB (deedT ⟨4, 0, 0⟩) = ⟨#[98, 97, 99, 107]⟩ by
                    rw [deedT_ok (by decide)]; rfl)
                  go_enter Tryz.func75, Tryz.ntmps75
                  go_wp2_with (go_at_call 30; (first | (with_reducible refine (HA.out _).mono ?_) | (with_reducible refine (HB.out _).mono ?_)); rintro e w' ⟨rfl, rfl⟩)
                  go_ret
                  exact ⟨by rw [he.out]; rfl, al w _⟩
                · by_cases ha0 : a = 0
                  · subst ha0
                    have hbz : (b == 0) = false := by simpa using hab
                    have he := hide (show strB (deedT ⟨4, 0, b⟩) = ⟨#[]⟩ by rw [deedT_no (by unfold deedB kindB numB; simp; omega)]; rfl)
                    go_enter Tryz.func75, Tryz.ntmps75
                    go_wp2_with (go_at_call 30; (first | (with_reducible refine (HA.out _).mono ?_) | (with_reducible refine (HB.out _).mono ?_)); rintro e w' ⟨rfl, rfl⟩)
                    all_goals
                      go_ret
                      exact ⟨by rw [he.out]; rfl, al w _⟩
                  · have haz : (a == 0) = false := by simpa using ha0
                    have he := hide (show strB (deedT ⟨4, a, b⟩) = ⟨#[]⟩ by rw [deedT_no (by unfold deedB kindB numB; simp; omega)]; rfl)
                    go_enter Tryz.func75, Tryz.ntmps75
                    go_wp2_with (go_at_call 30; (first | (with_reducible refine (HA.out _).mono ?_) | (with_reducible refine (HB.out _).mono ?_)); rintro e w' ⟨rfl, rfl⟩)
                    all_goals
                      go_ret
                      exact ⟨by rw [he.out]; rfl, al w _⟩
              · have z0 : (k == 0) = false := by simpa using hk0
                have z1 : (k == 1) = false := by simpa using hk1
                have z2 : (k == 2) = false := by simpa using hk2
                have z3 : (k == 3) = false := by simpa using hk3
                have z4 : (k == 4) = false := by simpa using hk4
                have he := hide (show strB (deedT ⟨k, a, b⟩) = ⟨#[]⟩ by rw [deedT_no (by unfold deedB kindB numB; simp; omega)]; rfl)
                go_enter Tryz.func75, Tryz.ntmps75
                go_wp2_with (go_at_call 30; (first | (with_reducible refine (HA.out _).mono ?_) | (with_reducible refine (HB.out _).mono ?_)); rintro e w' ⟨rfl, rfl⟩)
                all_goals
                  go_ret
                  exact ⟨by rw [he.out]; rfl, al w _⟩
    · have HB := hide (fun W => inN b (-99) 99 W hb)
      have he := hide (show strB (deedT ⟨k, a, b⟩) = ⟨#[]⟩ by rw [deedT_no (by unfold deedB kindB numB; rw [decide_eq_false (show ¬((-99 ≤ a ∧ a ≤ 99) ∧ (-99 ≤ b ∧ b ≤ 99)) by omega)]; rfl)]; rfl)
      go_enter Tryz.func75, Tryz.ntmps75
      go_wp2_with (go_at_call 30; (first | (with_reducible refine (HA.out _).mono ?_) | (with_reducible refine (HB.out _).mono ?_)); rintro e w' ⟨rfl, rfl⟩)
      all_goals
        go_ret
        exact ⟨by rw [he.out]; rfl, al w _⟩
  · have HA := hide (fun W => inN a (-99) 99 W ha)
    have HB := HA
    have he := hide (show strB (deedT ⟨k, a, b⟩) = ⟨#[]⟩ by rw [deedT_no (by unfold deedB kindB numB; rw [decide_eq_false (show ¬((-99 ≤ a ∧ a ≤ 99) ∧ (-99 ≤ b ∧ b ≤ 99)) by omega)]; rfl)]; rfl)
    go_enter Tryz.func75, Tryz.ntmps75
    go_wp2_with (go_at_call 30; (first | (with_reducible refine (HA.out _).mono ?_) | (with_reducible refine (HB.out _).mono ?_)); rintro e w' ⟨rfl, rfl⟩)
    all_goals
      go_ret
      exact ⟨by rw [he.out]; rfl, al w _⟩
end Go.Proofs.YtkgfbmlhplclfabGreatDoor
