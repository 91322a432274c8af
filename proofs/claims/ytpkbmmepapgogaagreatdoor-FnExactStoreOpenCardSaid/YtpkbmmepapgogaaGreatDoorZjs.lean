/-
  Words, plain lemmas and contracts that belong together, joined into one file.
-/
import Derived.Test.YtpkbmmepapgogaaGreatDoorZtx
import Derived.Test.YtpkbmmepapgogaaGreatDoorZpb
import Derived.Deep.RegionHeld3
import Derived.Test.YtpkbmmepapgogaaGreatDoorZpd
import Derived.StillTailTactics
namespace Go.Proofs.YtpkbmmepapgogaaGreatDoor
open Go.RowKit
set_option linter.unusedVariables false

set_option maxRecDepth 100000 in
set_option maxHeartbeats 3200000 in
theorem deedText_spec (d : Ded) (w : World) :
    Calls Tryz.prog 49 #[.agg #[.int .i64 d.k, .int .i64 d.a, .int .i64 d.b]] w fun e w' => e = .returned (.string (strB (deedT d))) ∧ Below w.heap.size w w' := by
  obtain ⟨k, a, b⟩ := d
  show Calls Tryz.prog 49 #[.agg #[.int .i64 k, .int .i64 a, .int .i64 b]] w _
  by_cases ha : -99 ≤ a ∧ a ≤ 99
  · have HA := hide (fun W => inY a (-99) 99 W ha)
    by_cases hb : -99 ≤ b ∧ b ≤ 99
    · have HB := hide (fun W => inY b (-99) 99 W hb)
      by_cases hk0 : k = 0
      · subst hk0
        have hNa := hide (fun W => l15Step_c a W (by omega) (by omega))
        have hNb := hide (fun W => l15Step_c b W (by omega) (by omega))
        have hsa := (step_at ha.1 ha.2).2.2.2
        have hsb := (step_at hb.1 hb.2).2.2.2
        rw [← strB_size] at hsa hsb
        have he := hide (show strB (deedT ⟨0, a, b⟩) = ⟨#[112, 117, 116, 32]⟩ ++ strB (stepT a) ++ ⟨#[32]⟩ ++ strB (stepT b) by
          rw [deedT_ok (by unfold deedB kindB numB; simp; omega)]
          show strB (wPut ++ 32 :: (stepT a ++ 32 :: stepT b)) = strB [112, 117, 116, 32] ++ strB (stepT a) ++ strB [32] ++ strB (stepT b)
          rw [← strB_append, ← strB_append, ← strB_append]
          exact congrArg strB (by simp [wPut]))
        obtain ⟨SA, hSA⟩ : ∃ S, Hid (strB (stepT a) = S) := ⟨_, hide rfl⟩
        obtain ⟨SB, hSB⟩ : ∃ S, Hid (strB (stepT b) = S) := ⟨_, hide rfl⟩
        rw [hSA.out] at hNa hsa he
        rw [hSB.out] at hNb hsb he
        obtain ⟨c0, c1, c2, f0, f1, f2, flt⟩ := TriW.made w (.int .i64 0) (.int .i64 a) (.int .i64 b) 42
        have q1 : ¬ 9223372036854775807 < 4 + SA.size := by omega
        have q2 : ¬ 9223372036854775807 < 4 + SA.size + 1 := by omega
        have q3 : ¬ 9223372036854775807 < 4 + SA.size + 1 + SB.size := by omega
        have ht0 := hide (TriW.made w (.int .i64 0) (.int .i64 a) (.int .i64 b) 42)
        have KA := hide (fun (W : World) (hq : Below (w.alloc (.cells #[.int .i64 0, .int .i64 a, .int .i64 b] 42)).heap.size (w.alloc (.cells #[.int .i64 0, .int .i64 a, .int .i64 b] 42)) W) => show Calls Tryz.prog 79 #[.int .i64 a] W (fun e w' => e = .returned (.string SA) ∧ Below (w.alloc (.cells #[.int .i64 0, .int .i64 a, .int .i64 b] 42)).heap.size (w.alloc (.cells #[.int .i64 0, .int .i64 a, .int .i64 b] 42)) w' ∧ w'.cell? ⟨w.heap.size, 1, none⟩ = some (.int .i64 a) ∧ w'.cell? ⟨w.heap.size, 2, none⟩ = some (.int .i64 b)) from
          (hNa.out W).mono fun e w' ⟨e1, hq'⟩ => by
            have hk := ht0.out.up (upB hq hq')
            exact ⟨e1, upB hq hq', hk.c1, hk.c2⟩)
        have KB := hide (fun (W : World) (hq : Below (w.alloc (.cells #[.int .i64 0, .int .i64 a, .int .i64 b] 42)).heap.size (w.alloc (.cells #[.int .i64 0, .int .i64 a, .int .i64 b] 42)) W) => show Calls Tryz.prog 79 #[.int .i64 b] W (fun e w' => e = .returned (.string SB) ∧ Below (w.alloc (.cells #[.int .i64 0, .int .i64 a, .int .i64 b] 42)).heap.size (w.alloc (.cells #[.int .i64 0, .int .i64 a, .int .i64 b] 42)) w' ∧ w'.cell? ⟨w.heap.size, 1, none⟩ = some (.int .i64 a) ∧ w'.cell? ⟨w.heap.size, 2, none⟩ = some (.int .i64 b)) from
          (hNb.out W).mono fun e w' ⟨e1, hq'⟩ => by
            have hk := ht0.out.up (upB hq hq')
            exact ⟨e1, upB hq hq', hk.c1, hk.c2⟩)
        go_enter Tryz.func49, Tryz.ntmps49
        go_wp2_with (go_at_call 61; (first | (with_reducible refine (HA.out _).mono ?_) | (with_reducible refine (HB.out _).mono ?_)); rintro e w' ⟨rfl, rfl⟩)
        go_region_held3 (fun W => W.cell? ⟨w.heap.size, 1, none⟩ = some (.int .i64 a) ∧ W.cell? ⟨w.heap.size, 2, none⟩ = some (.int .i64 b)) (first | exact ⟨c1, c2⟩ | exact ⟨k1, k2⟩ | exact ⟨m1, m2⟩) (first | (go_at_call 79; (with_reducible refine (KA.out _ ?_).mono ?_); (focus (repeat (first | assumption | exact Below.refl _ _ | refine Below.drew ?_)); done); rintro e w' ⟨rfl, hq, k1, k2⟩) | (go_at_call 79; (with_reducible refine (KB.out _ ?_).mono ?_); (focus (repeat (first | assumption | exact Below.refl _ _ | refine Below.drew ?_)); done); rintro e w' ⟨rfl, hq, m1, m2⟩))
        all_goals
          go_wp2_with fail
          go_ret
          exact ⟨by rw [he.out]; rfl, upB (al w _) (by assumption)⟩
      · by_cases hk1 : k = 1
        · subst hk1
          by_cases hb0 : b = 0
          · subst hb0
            have hN := hide (fun W => l15Step_c a W (by omega) (by omega))
            have hs := (step_at ha.1 ha.2).2.2.2
            rw [← strB_size] at hs
            have he := hide (show strB (deedT ⟨1, a, 0⟩) = ⟨#[115, 116, 101, 112, 32]⟩ ++ strB (stepT a) by
              rw [deedT_ok (by unfold deedB kindB numB; simp; omega)]
              show strB (wStep ++ 32 :: stepT a) = strB [115, 116, 101, 112, 32] ++ strB (stepT a)
              rw [← strB_append]
              exact congrArg strB (by simp [wStep]))
            obtain ⟨S, hS⟩ : ∃ S, Hid (strB (stepT a) = S) := ⟨_, hide rfl⟩
            rw [hS.out] at hN hs he
            go_enter Tryz.func49, Tryz.ntmps49
            go_wp2_with (first | (go_at_call 61; (first | (with_reducible refine (HA.out _).mono ?_) | (with_reducible refine (HB.out _).mono ?_)); rintro e w' ⟨rfl, rfl⟩) | (go_at_call 79; refine (hN.out _).mono ?_; rintro e w2 ⟨rfl, hq⟩))
            go_ret
            exact ⟨by rw [he.out]; rfl, upB (al w _) hq⟩
          · have hbz : (b == 0) = false := by simpa using hb0
            have he := hide (show strB (deedT ⟨1, a, b⟩) = ⟨#[]⟩ by rw [deedT_no (by unfold deedB kindB numB; simp [hb0])]; rfl)
            go_enter Tryz.func49, Tryz.ntmps49
            go_wp2_with (go_at_call 61; (first | (with_reducible refine (HA.out _).mono ?_) | (with_reducible refine (HB.out _).mono ?_)); rintro e w' ⟨rfl, rfl⟩)
            all_goals
              go_ret
              exact ⟨by rw [he.out]; rfl, al w _⟩
        · by_cases hk2 : k = 2
          · subst hk2
            by_cases hb0 : b = 0
            · subst hb0
              have hN := hide (fun W => l15Step_c a W (by omega) (by omega))
              have hs := (step_at ha.1 ha.2).2.2.2
              rw [← strB_size] at hs
              have he := hide (show strB (deedT ⟨2, a, 0⟩) = ⟨#[100, 114, 97, 119, 32]⟩ ++ strB (stepT a) by
                rw [deedT_ok (by unfold deedB kindB numB; simp; omega)]
                show strB (wDraw ++ 32 :: stepT a) = strB [100, 114, 97, 119, 32] ++ strB (stepT a)
                rw [← strB_append]
                exact congrArg strB (by simp [wDraw]))
              obtain ⟨S, hS⟩ : ∃ S, Hid (strB (stepT a) = S) := ⟨_, hide rfl⟩
              rw [hS.out] at hN hs he
              go_enter Tryz.func49, Tryz.ntmps49
              go_wp2_with (first | (go_at_call 61; (first | (with_reducible refine (HA.out _).mono ?_) | (with_reducible refine (HB.out _).mono ?_)); rintro e w' ⟨rfl, rfl⟩) | (go_at_call 79; refine (hN.out _).mono ?_; rintro e w2 ⟨rfl, hq⟩))
              go_ret
              exact ⟨by rw [he.out]; rfl, upB (al w _) hq⟩
            · have hbz : (b == 0) = false := by simpa using hb0
              have he := hide (show strB (deedT ⟨2, a, b⟩) = ⟨#[]⟩ by rw [deedT_no (by unfold deedB kindB numB; simp [hb0])]; rfl)
              go_enter Tryz.func49, Tryz.ntmps49
              go_wp2_with (go_at_call 61; (first | (with_reducible refine (HA.out _).mono ?_) | (with_reducible refine (HB.out _).mono ?_)); rintro e w' ⟨rfl, rfl⟩)
              all_goals
                go_ret
                exact ⟨by rw [he.out]; rfl, al w _⟩
          · by_cases hk3 : k = 3
            · subst hk3
              by_cases hab : a = 0 ∧ b = 0
              · obtain ⟨rfl, rfl⟩ := hab
                have he := hide (show strB (deedT ⟨3, 0, 0⟩) = ⟨#[97, 103, 97, 105, 110]⟩ by
                  rw [deedT_ok (by decide)]; rfl)
                go_enter Tryz.func49, Tryz.ntmps49
                go_wp2_with (go_at_call 61; (first | (with_reducible refine (HA.out _).mono ?_) | (with_reducible refine (HB.out _).mono ?_)); rintro e w' ⟨rfl, rfl⟩)
                go_ret
                exact ⟨by rw [he.out]; rfl, al w _⟩
              · by_cases ha0 : a = 0
                · subst ha0
                  have hbz : (b == 0) = false := by simpa using hab
                  have he := hide (show strB (deedT ⟨3, 0, b⟩) = ⟨#[]⟩ by rw [deedT_no (by unfold deedB kindB numB; simp; omega)]; rfl)
                  go_enter Tryz.func49, Tryz.ntmps49
                  go_wp2_with (go_at_call 61; (first | (with_reducible refine (HA.out _).mono ?_) | (with_reducible refine (HB.out _).mono ?_)); rintro e w' ⟨rfl, rfl⟩)
                  all_goals
                    go_ret
                    exact ⟨by rw [he.out]; rfl, al w _⟩
                · have haz : (a == 0) = false := by simpa using ha0
                  have he := hide (show strB (deedT ⟨3, a, b⟩) = ⟨#[]⟩ by rw [deedT_no (by unfold deedB kindB numB; simp; omega)]; rfl)
                  go_enter Tryz.func49, Tryz.ntmps49
                  go_wp2_with (go_at_call 61; (first | (with_reducible refine (HA.out _).mono ?_) | (with_reducible refine (HB.out _).mono ?_)); rintro e w' ⟨rfl, rfl⟩)
                  all_goals
                    go_ret
                    exact ⟨by rw [he.out]; rfl, al w _⟩
            · by_cases hk4 : k = 4
              · subst hk4
                by_cases hab : a = 0 ∧ b = 0
                · obtain ⟨rfl, rfl⟩ := hab
                  have he := hide (show strB (deedT ⟨4, 0, 0⟩) = ⟨#[98, 97, 99, 107]⟩ by
                    rw [deedT_ok (by decide)]; rfl)
                  go_enter Tryz.func49, Tryz.ntmps49
                  go_wp2_with (go_at_call 61; (first | (with_reducible refine (HA.out _).mono ?_) | (with_reducible refine (HB.out _).mono ?_)); rintro e w' ⟨rfl, rfl⟩)
                  go_ret
                  exact ⟨by rw [he.out]; rfl, al w _⟩
                · by_cases ha0 : a = 0
                  · subst ha0
                    have hbz : (b == 0) = false := by simpa using hab
                    have he := hide (show strB (deedT ⟨4, 0, b⟩) = ⟨#[]⟩ by rw [deedT_no (by unfold deedB kindB numB; simp; omega)]; rfl)
                    go_enter Tryz.func49, Tryz.ntmps49
                    go_wp2_with (go_at_call 61; (first | (with_reducible refine (HA.out _).mono ?_) | (with_reducible refine (HB.out _).mono ?_)); rintro e w' ⟨rfl, rfl⟩)
                    all_goals
                      go_ret
                      exact ⟨by rw [he.out]; rfl, al w _⟩
                  · have haz : (a == 0) = false := by simpa using ha0
                    have he := hide (show strB (deedT ⟨4, a, b⟩) = ⟨#[]⟩ by rw [deedT_no (by unfold deedB kindB numB; simp; omega)]; rfl)
                    go_enter Tryz.func49, Tryz.ntmps49
                    go_wp2_with (go_at_call 61; (first | (with_reducible refine (HA.out _).mono ?_) | (with_reducible refine (HB.out _).mono ?_)); rintro e w' ⟨rfl, rfl⟩)
                    all_goals
                      go_ret
                      exact ⟨by rw [he.out]; rfl, al w _⟩
              · have z0 : (k == 0) = false := by simpa using hk0
                have z1 : (k == 1) = false := by simpa using hk1
                have z2 : (k == 2) = false := by simpa using hk2
                have z3 : (k == 3) = false := by simpa using hk3
                have z4 : (k == 4) = false := by simpa using hk4
                have he := hide (show strB (deedT ⟨k, a, b⟩) = ⟨#[]⟩ by rw [deedT_no (by unfold deedB kindB numB; simp; omega)]; rfl)
                go_enter Tryz.func49, Tryz.ntmps49
                go_wp2_with (go_at_call 61; (first | (with_reducible refine (HA.out _).mono ?_) | (with_reducible refine (HB.out _).mono ?_)); rintro e w' ⟨rfl, rfl⟩)
                all_goals
                  go_ret
                  exact ⟨by rw [he.out]; rfl, al w _⟩
    · have HB := hide (fun W => inN b (-99) 99 W hb)
      have he := hide (show strB (deedT ⟨k, a, b⟩) = ⟨#[]⟩ by rw [deedT_no (by unfold deedB kindB numB; rw [decide_eq_false (show ¬((-99 ≤ a ∧ a ≤ 99) ∧ (-99 ≤ b ∧ b ≤ 99)) by omega)]; rfl)]; rfl)
      go_enter Tryz.func49, Tryz.ntmps49
      go_wp2_with (go_at_call 61; (first | (with_reducible refine (HA.out _).mono ?_) | (with_reducible refine (HB.out _).mono ?_)); rintro e w' ⟨rfl, rfl⟩)
      all_goals
        go_ret
        exact ⟨by rw [he.out]; rfl, al w _⟩
  · have HA := hide (fun W => inN a (-99) 99 W ha)
    have HB := HA
    have he := hide (show strB (deedT ⟨k, a, b⟩) = ⟨#[]⟩ by rw [deedT_no (by unfold deedB kindB numB; rw [decide_eq_false (show ¬((-99 ≤ a ∧ a ≤ 99) ∧ (-99 ≤ b ∧ b ≤ 99)) by omega)]; rfl)]; rfl)
    go_enter Tryz.func49, Tryz.ntmps49
    go_wp2_with (go_at_call 61; (first | (with_reducible refine (HA.out _).mono ?_) | (with_reducible refine (HB.out _).mono ?_)); rintro e w' ⟨rfl, rfl⟩)
    all_goals
      go_ret
      exact ⟨by rw [he.out]; rfl, al w _⟩
end Go.Proofs.YtpkbmmepapgogaaGreatDoor

namespace Go.Proofs.YtpkbmmepapgogaaGreatDoor
open Go.RowKit
set_option linter.unusedVariables false

end Go.Proofs.YtpkbmmepapgogaaGreatDoor

namespace Go.Proofs.YtpkbmmepapgogaaGreatDoor
open Go.RowKit
set_option linter.unusedVariables false

theorem readP_not3 {l : Bs} (h : (cutT 32 l).length ≠ 3) : readPB l = false ∧ readQ l = noPlc := by
  have : readP l = none := by
    unfold readP guessP
    match hc : cutT 32 l with
    | [] => rfl
    | [a] => rfl
    | [a, b] => rfl
    | [a, b, c] => rw [hc] at h; exact absurd rfl h
    | _ :: _ :: _ :: _ :: _ => rfl
  unfold readPB readQ
  rw [this]
  exact ⟨rfl, rfl⟩
theorem cut_piece_len {c : UInt8} {l : Bs} : ∀ p ∈ cutT c l, p.length ≤ l.length := by
  intro p hp
  rw [cutTo_end] at hp
  have : ∀ k, ∀ p ∈ (cutTo c l k).1, p.length ≤ l.length := by
    intro k
    induction k with
    | zero => intro p hp; cases hp
    | succ k ih =>
      intro p hp
      unfold cutTo at hp
      split at hp
      · rcases List.mem_append.1 hp with h | h
        · exact ih p h
        · simp at h; subst h; simp; omega
      · exact ih p hp
  rcases List.mem_append.1 hp with h | h
  · exact this _ p h
  · simp at h; subst h; simp
def plcOf (a b c : Bs) : Plc := ⟨(cutT 44 a).map digP, signP b, wordOf' c⟩
theorem readP_3 {l a b c : Bs} (h : cutT 32 l = [a, b, c]) : readPB l = decide (placeT (plcOf a b c) = l ∧ l ≠ []) ∧ readQ l = if placeT (plcOf a b c) = l ∧ l ≠ [] then plcOf a b c else noPlc := by
  have hr : readP l = if placeT (plcOf a b c) = l ∧ l ≠ [] then some (plcOf a b c) else none := by
    unfold readP guessP
    rw [h]
    rfl
  unfold readPB readQ
  rw [hr]
  by_cases hc : placeT (plcOf a b c) = l ∧ l ≠ []
  · rw [if_pos hc, if_pos hc, decide_eq_true hc]; exact ⟨rfl, rfl⟩
  · rw [if_neg hc, if_neg hc, decide_eq_false hc]; exact ⟨rfl, rfl⟩
theorem StrM.look3 {w : World} {B cc : Nat} {A : Option Addr} {x y z : ByteArray} (h : StrM w B A 3 cc [x, y, z]) : ∃ b off, A = some ⟨b, off, none⟩ ∧ b < B ∧ w.cell? ⟨b, off, none⟩ = some (.string x) ∧ w.cell? ⟨b, off + 1, none⟩ = some (.string y) ∧ w.cell? ⟨b, off + 2, none⟩ = some (.string z) := by
  obtain ⟨b, off, e, hb, hc⟩ := h.cells (by omega)
  exact ⟨b, off, e, hb, hc 0 x rfl, hc 1 y rfl, hc 2 z rfl⟩
set_option maxRecDepth 100000 in
set_option maxHeartbeats 3200000 in
theorem readPlace_spec (s : ByteArray) (w : World) (hs : s.size ≤ 1048576) :
    Calls Tryz.prog 36 #[.string s] w fun e w' => ∃ v, e = .returned (.tuple #[v, .bool (readPB (bts s))]) ∧ PlM w' w'.heap.size v (readQ (bts s)) ∧ Below w.heap.size w w' := by
  obtain ⟨i0, hi, hz0, hz1, hz2⟩ := info_parts infoInt
  have H1 := hide (fun W => l1Cut_c s 32 32 W rfl hs)
  have hlen := hide (bts_len s)
  by_cases h3 : (cutT 32 (bts s)).length = 3
  · obtain ⟨pa, pb, pc, hcut⟩ : ∃ a b c, cutT 32 (bts s) = [a, b, c] := by
      match hc : cutT 32 (bts s) with
      | [] => rw [hc] at h3; cases h3
      | [a] => rw [hc] at h3; cases h3
      | [a, b] => rw [hc] at h3; cases h3
      | [a, b, c] => exact ⟨a, b, c, rfl⟩
      | _ :: _ :: _ :: _ :: _ => rw [hc] at h3; simp at h3
    have hpl := hide (fun p (hp : p ∈ cutT 32 (bts s)) => cut_piece_len p hp)
    rw [hcut] at hpl
    have hla := hide (show (strB pa).size ≤ 1048576 by rw [strB_size]; have := hpl.out pa (by simp); rw [hlen.out] at this; omega)
    have hlp := hide (show pa.length ≤ 1048576 by have := hla.out; rwa [strB_size] at this)
    have hlc := hide (show pc.length ≤ 1048576 by have := hpl.out pc (by simp); rw [hlen.out] at this; omega)
    have hrd := hide (readP_3 hcut)
    rw [hcut] at H1
    have HS := hide (fun W => l15Signed_c (strB pb) W)
    have HC := hide (fun W => l1Cut_c (strB pa) 44 44 W rfl hla.out)
    rw [bts_strB] at HS HC
    obtain ⟨Sa, hSa⟩ : ∃ S, Hid (strB pa = S) := ⟨_, hide rfl⟩
    obtain ⟨Sb, hSb⟩ : ∃ S, Hid (strB pb = S) := ⟨_, hide rfl⟩
    obtain ⟨Sc, hSc⟩ : ∃ S, Hid (strB pc = S) := ⟨_, hide rfl⟩
    obtain ⟨D, hD⟩ : ∃ D, Hid (signP pb = D) := ⟨_, hide rfl⟩
    have hDb := signP_bound pb
    have hSz := hide (show Sc.size = pc.length by rw [← hSc.out, strB_size])
    rw [hD.out] at HS hDb
    rw [hSb.out] at HS
    rw [hSa.out] at HC
    rw [List.map_cons, List.map_cons, List.map_cons, List.map_nil, hSa.out, hSb.out, hSc.out] at H1
    clear h3 hla hpl
    go_enter Tryz.func36, Tryz.ntmps36
    go_wp2_with fail
    refine (H1.out _).mono ?_
    rintro e w1 ⟨A, n, cc, rfl, ho, hq⟩
    have hn : 3 = n := by have := ho.len; simpa using this.symm
    subst hn
    have ht2 := hide ((TriW.made w (.slice none 0 0) (.int .i64 0) (.slice none 0 0) 27).up hq)
    have hst := hide ho.strs
    have hgw : w.heap.size < w1.heap.size := by have := hq.size; simp at this; omega
    have hq := hide (upB (al w _) hq)
    obtain ⟨bw, ow, rfl, hbw, hw0, hw1, hw2⟩ := hst.out.look3
    clear ho
    go_wp2_with (first | (go_at_call 63; refine (HS.out _).mono ?_; rintro e w' ⟨rfl, rfl⟩))
    refine (HC.out _).mono ?_
    rintro e w3 ⟨A6, n6, c6, rfl, ho6, hq3⟩
    have ht3 := hide ((TriW.made w1 (.slice none 0 0) (.int .i64 D) (.slice none 0 0) 27).up hq3)
    have hb3 := hide (upB (al w1 _) hq3)
    have hg3 : w1.heap.size + 1 ≤ w3.heap.size := by have := hq3.size; simpa using this
    have ho6 := hide (show OwnS w3 (w1.heap.size + 1) (.slice A6 n6 c6) ((cutT 44 pa).map strB) from ho6.down (by simp))
    have hlt6 := hide ho6.out.row.lt
    have hn6 := hide (show n6 = (cutT 44 pa).length by have := ho6.out.len; rwa [List.length_map] at this)
    have hn6b : n6 ≤ 1048577 := by rw [hn6.out]; have := cutT_len 44 pa; have := hlp.out; omega
    clear hq3 HC HS H1
    go_wp2_with fail
    go_loopw [7] (fun i wr => ∃ k : Nat, ∃ As ms cs, k ≤ n6 ∧ i = .int .i64 k ∧ w3.heap.size ≤ wr.heap.size ∧ Hid (TriW wr w1.heap.size (.slice As ms cs) (.int .i64 D) (.slice none 0 0)) ∧ Hid (Own wr w3.heap.size (.slice As ms cs) (((cutT 44 pa).take k).map digP)) ∧ Hid (OwnS wr (w1.heap.size + 1) (.slice A6 n6 c6) ((cutT 44 pa).map strB)) ∧ Hid (Below w1.heap.size w1 wr)) (fun i _ => n6 - (intOf i).toNat)
    case atStart => exact ⟨0, _, _, _, Nat.zero_le _, rfl, Nat.le_refl _, ht3, hide Own.none_, ho6, hb3⟩
    case round =>
      clear ht3 ho6 hb3
      obtain ⟨k, As, ms, cs, hk, rfl, hsz, ht, hos, ho6, hb⟩ := hrel
      obtain ⟨t0, t1, t2, f0, f1, f2, tlt⟩ := ht.out
      by_cases hlt : k < n6
      · obtain ⟨b6, o6, X, rfl, hb6, hX, hcell⟩ := ho6.out.strs.look hlt
        obtain ⟨pk, hpk⟩ : ∃ p, Hid ((cutT 44 pa)[k]? = some p) := ⟨_, hide (List.getElem?_eq_getElem (by have := hn6.out; omega))⟩
        have hXe := hide (show bts X = pk by
          have := hX.out
          rw [List.getElem?_map, hpk.out] at this
          injection this with this
          rw [← this, bts_strB])
        have HD := hide (fun W => l1Digits_c X W)
        rw [hXe.out] at HD
        have hdb := digP_bound pk
        have hnx := hide (show ((cutT 44 pa).take k).map digP ++ [digP pk] = ((cutT 44 pa).take (k + 1)).map digP by rw [List.take_add_one, hpk.out, List.map_append]; rfl)
        obtain ⟨E, hE⟩ : ∃ E, Hid (digP pk = E) := ⟨_, hide rfl⟩
        rw [hE.out] at HD hdb hnx
        have hms : (((cutT 44 pa).take k).map digP).length + 1 ≤ 1048576000 := by rw [List.length_map, List.length_take]; omega
        go_wp2_with fail
        go_region_law (first | (refine step_app _ rfl _ _ 25 rfl i0 Tryz.underlying25 hi hz0 hz1 hz2 _ _ rfl (hos.out.alloc _).drew _ 1 1 _ [E] rfl (ints_lit1 (wf_i64 (by omega))).drew (by simp; omega) hms ?_; intro A₃ n₃ c₃ w4 ho4 hg4; have ht4 := hide (((ht.out.alloc (.cells #[.int .i64 E] 3)).drew).grown hg4 (fun q hq => by have := (hos.out.row.lt q hq).1; omega)); obtain ⟨x0, x1, x2, y0, y1, y2, _⟩ := ht4.out) | (go_simp; go_at_call 64; (with_reducible refine (HD.out _).mono ?_); rintro e w' ⟨rfl, rfl⟩))
        all_goals
          have ho5 := hide (ho4.setLow (a := ⟨w1.heap.size, 0, none⟩) (by show w1.heap.size < w3.heap.size; omega) (.slice A₃ n₃ c₃))
          rw [hnx.out] at ho5
          have ho7 := hide ((((ho6.out.alloc (.cells #[.int .i64 E] 3)).drew).kept hg4 (apart hlt6.out hos.out.row.lt (.inl (Nat.le_refl _)))).setBelow (a := ⟨w1.heap.size, 0, none⟩) (Nat.lt_succ_self _) (.slice A₃ n₃ c₃))
          have ht5 := hide (ht4.out.set0 (.slice A₃ n₃ c₃))
          have hb5 := hide (((hb.out.alloc (by omega) (.cells #[.int .i64 E] 3)).drew.grown hg4 (by simp; omega) (fun q hq => by have := (hos.out.row.lt q hq).1; omega)).setCell (p := ⟨w1.heap.size, 0, none⟩) (Nat.le_refl _) (.slice A₃ n₃ c₃))
          have hsz5 : w3.heap.size ≤ (w4.setCell ⟨w1.heap.size, 0, none⟩ (.slice A₃ n₃ c₃)).heap.size := by have := hg4.size; simp at this ⊢; omega
          clear ho4 hg4 ht4 hos ho6 ht hb hcell
          go_wp2_with fail
          go_roundw
          case rel => exact ⟨k + 1, _, _, _, by omega, by go_num, hsz5, ht5, ho5, ho7, hb5⟩
          case measure => simp [intOf]; omega
      · obtain rfl : n6 = k := by omega
        have hall := hide (show ((cutT 44 pa).take n6).map digP = (cutT 44 pa).map digP by rw [List.take_of_length_le (by have := hn6.out; omega)])
        rw [hall.out] at hos
        clear hlt
        -- LOOP2
        obtain ⟨w5, rfl⟩ : ∃ W, W = wr := ⟨wr, rfl⟩
        have hwt := hide (show Own w5 w5.heap.size (.slice none 0 0) (((pc.take 0).map (fun x => (x.toNat : Int) - 97))) from Own.none_)
        have hslt := hide hos.out.row.lt
        go_wp2_with fail
        go_loopw [8] (fun i wv => ∃ k : Nat, ∃ Aw mw cw, k ≤ Sc.size ∧ i = .int .i64 k ∧ w5.heap.size ≤ wv.heap.size ∧ Hid (TriW wv w1.heap.size (.slice As ms cs) (.int .i64 D) (.slice Aw mw cw)) ∧ Hid (Own wv w5.heap.size (.slice Aw mw cw) ((pc.take k).map (fun x => (x.toNat : Int) - 97))) ∧ Hid (Own wv w3.heap.size (.slice As ms cs) ((cutT 44 pa).map digP)) ∧ Hid (Below w1.heap.size w1 wv) ∧ Hid (pc = [46] → k = 0)) (fun i _ => Sc.size - (intOf i).toNat)
        case atStart => exact ⟨0, _, _, _, Nat.zero_le _, rfl, Nat.le_refl _, ht, hwt, hos, hb, hide (fun _ => rfl)⟩
        case round =>
          clear hwt ht hb ho6 t0 t1 t2 f0 f1 f2 tlt hos
          obtain ⟨k, Aw, mw, cw, hk, rfl, hsz2, ht, how, hos, hb, hdotk⟩ := hrel
          obtain ⟨t0, t1, t2, f0, f1, f2, tlt⟩ := ht.out
          obtain ⟨b', off', hAe, hbw', hcw0, hcw1, hcw2⟩ := (hst.out.up hb.out).look3
          injection hAe with hAe
          injection hAe with hA1 hA2
          subst hA1
          subst hA2
          by_cases hdot : pc = [46]
          · have hk0 := hdotk.out hdot
            subst hk0
            have hsc : Sc = ⟨#[46]⟩ := by rw [← hSc.out, hdot]; rfl
            have hd1 : (Sc.toList == [46]) = true := by rw [hsc, ByteArray.toList_eq]; rfl
            have hd2 : (Sc.toList != [46]) = false := by unfold bne; rw [hd1]; rfl
            have hwo := hide (show wordOf' pc = [] by rw [hdot]; rfl)
            have how := hide (show Own wr w5.heap.size (.slice Aw mw cw) (plcOf pa pb pc).word by have := how.out; rw [List.take_zero, List.map_nil] at this; show Own _ _ _ (wordOf' pc); rw [hwo.out]; exact this)
            have hlts : 0 < Sc.size := by rw [hsc]; decide
            have hsc := hide hsc
            have hdot := hide hdot
            have hpm := hide (show PlM wr wr.heap.size (.agg #[.slice As ms cs, .int .i64 D, .slice Aw mw cw]) (plcOf pa pb pc) by
              have := plM_mk (w := wr) (B := wr.heap.size) (p := plcOf pa pb pc) hos.out.ints how.out.ints (by show (Lit.int .i64 (signP pb)).wf = true; rw [hD.out]; exact wf_i64 (by omega))
              rwa [show (plcOf pa pb pc).step = D from hD.out] at this)
            have HT := hide (placeText_spec _ (plcOf pa pb pc) _ wr hpm.out (Nat.le_refl _))
            have hz2 := hide (ht2.out.below hb.out hgw)
            obtain ⟨d1, d2⟩ := hrd.out
            have d1 := hide d1
            have d2 := hide d2
            by_cases hemp : s = ⟨#[]⟩
            · have hbe : bts s = [] := by rw [hemp]; rfl
              subst hemp
              have e1 := hide (show readPB [] = false from rfl)
              have e2 := hide (show readQ [] = noPlc from rfl)
              obtain ⟨v0, v1, v2, g0, g1, g2, _⟩ := hz2.out
              have hfin := hide (((hz2.out.set0 (.slice none 0 0)).set1 (.int .i64 0)).set2 (.slice none 0 0))
              go_wp2_with fail
              obtain ⟨k0, k1, k2, _, _, _, _⟩ := hfin.out
              exact bodyPost_ret (v := .tuple #[.agg #[.slice none 0 0, .int .i64 0, .slice none 0 0], .bool false]) (by simp [results, Tryz.results36, go_sem, k0, k1, k2]) rfl ⟨_, by rw [e1.out], by rw [e2.out]; exact noPlM, (((hq.out.trans (hb.out.mono (by omega))).setCell (Nat.le_refl _) _).setCell (Nat.le_refl _) _).setCell (Nat.le_refl _) _⟩
            · have hbe : bts s ≠ [] := fun e => hemp (by rw [← strB_bts s, e]; rfl)
              have hsz0 : (s.toList == []) = false := by
                rw [ByteArray.toList_eq]
                simpa [bts] using hbe
              obtain ⟨ST, hST⟩ : ∃ S, Hid (strB (placeT (plcOf pa pb pc)) = S) := ⟨_, hide rfl⟩
              rw [hST.out] at HT
              by_cases heq : ST = s
              · have hpe : placeT (plcOf pa pb pc) = bts s := by rw [← bts_strB (placeT (plcOf pa pb pc)), hST.out, heq]
                have e1 := hide (show readPB (bts s) = true by rw [d1.out, decide_eq_true ⟨hpe, hbe⟩])
                have e2 := hide (show readQ (bts s) = plcOf pa pb pc by rw [d2.out, if_pos ⟨hpe, hbe⟩])
                have hc1 : (ST.toList == s.toList) = true := by rw [heq]; simp
                have hc2 : (ST.toList != s.toList) = false := by rw [heq]; simp
                have heq := hide heq
                have hemp := hide hemp
                clear hpe hbe
                go_wp2_with (go_at_call 52; refine HT.out.mono ?_; rintro e w7 ⟨rfl, hq7⟩; have hz7 := hide (hz2.out.up hq7); have ht7 := hide (ht.out.up hq7); have hs7 := hide (hos.out.up hq7); have hw7 := hide (how.out.up hq7); have hb7 := hide (upB (hq.out.trans (hb.out.mono (by omega))) hq7); obtain ⟨z0, z1, z2, z3, z4, z5, _⟩ := hz7.out; obtain ⟨s0, s1, s2, _, _, _, _⟩ := ht7.out; clear hq7)
                have hfin := hide (((hz7.out.set0 (.slice As ms cs)).set1 (.int .i64 D)).set2 (.slice Aw mw cw))
                obtain ⟨k0, k1, k2, _, _, _, _⟩ := hfin.out
                have hbf := hide (((hb7.out.setCell (p := ⟨w.heap.size, 0, none⟩) (Nat.le_refl _) (.slice As ms cs)).setCell (p := ⟨w.heap.size, 1, none⟩) (Nat.le_refl _) (.int .i64 D)).setCell (p := ⟨w.heap.size, 2, none⟩) (Nat.le_refl _) (.slice Aw mw cw))
                have hpf := hide (show PlM _ _ (.agg #[.slice As ms cs, .int .i64 D, .slice Aw mw cw]) (plcOf pa pb pc) by
                  have hg01 : w.heap.size < w3.heap.size := by omega
                  have hg02 : w.heap.size < w5.heap.size := by omega
                  have hF1 := ((hs7.out.setLow (a := ⟨w.heap.size, 0, none⟩) hg01 (.slice As ms cs)).setLow (a := ⟨w.heap.size, 1, none⟩) hg01 (.int .i64 D)).setLow (a := ⟨w.heap.size, 2, none⟩) hg01 (.slice Aw mw cw)
                  have hF2 := ((hw7.out.setLow (a := ⟨w.heap.size, 0, none⟩) hg02 (.slice As ms cs)).setLow (a := ⟨w.heap.size, 1, none⟩) hg02 (.int .i64 D)).setLow (a := ⟨w.heap.size, 2, none⟩) hg02 (.slice Aw mw cw)
                  have := plM_mk (p := plcOf pa pb pc) hF1.ints hF2.ints (by show (Lit.int .i64 (signP pb)).wf = true; rw [hD.out]; exact wf_i64 (by omega))
                  rwa [show (plcOf pa pb pc).step = D from hD.out] at this)
                exact bodyPost_ret (v := .tuple #[.agg #[.slice As ms cs, .int .i64 D, .slice Aw mw cw], .bool true]) (by simp [results, Tryz.results36, go_sem, k0, k1, k2]) rfl ⟨_, by rw [e1.out], by rw [e2.out]; exact hpf.out, hbf.out⟩
              · have hpe : ¬(placeT (plcOf pa pb pc) = bts s ∧ bts s ≠ []) := fun h => heq (by rw [← hST.out, h.1, strB_bts])
                have e1 := hide (show readPB (bts s) = false by rw [d1.out, decide_eq_false hpe])
                have e2 := hide (show readQ (bts s) = noPlc by rw [d2.out, if_neg hpe])
                have hc1 : (ST.toList == s.toList) = false := by
                  rw [ByteArray.toList_eq, ByteArray.toList_eq]
                  simp only [beq_eq_false_iff_ne, ne_eq]
                  exact fun e => heq (bts_inj e)
                have hc2 : (ST.toList != s.toList) = true := by unfold bne; rw [hc1]; rfl
                have heq := hide heq
                have hemp := hide hemp
                clear hpe hbe
                go_wp2_with (go_at_call 52; refine HT.out.mono ?_; rintro e w7 ⟨rfl, hq7⟩; have hz7 := hide (hz2.out.up hq7); have hb7 := hide (upB (hq.out.trans (hb.out.mono (by omega))) hq7); obtain ⟨z0, z1, z2, z3, z4, z5, _⟩ := hz7.out; clear hq7)
                have hfin := hide (((hz7.out.set0 (.slice none 0 0)).set1 (.int .i64 0)).set2 (.slice none 0 0))
                obtain ⟨k0, k1, k2, _, _, _, _⟩ := hfin.out
                exact bodyPost_ret (v := .tuple #[.agg #[.slice none 0 0, .int .i64 0, .slice none 0 0], .bool false]) (by simp [results, Tryz.results36, go_sem, k0, k1, k2]) rfl ⟨_, by rw [e1.out], by rw [e2.out]; exact noPlM, ((hb7.out.setCell (Nat.le_refl _) _).setCell (Nat.le_refl _) _).setCell (Nat.le_refl _) _⟩
          · have hne : Sc.toList ≠ [46] := fun e => hdot (by
              rw [ByteArray.toList_eq] at e
              rw [← bts_strB pc, hSc.out]; exact e)
            have hd1 : (Sc.toList == [46]) = false := by simpa using hne
            have hd2 : (Sc.toList != [46]) = true := by unfold bne; rw [hd1]; rfl
            have hwo := hide (show wordOf' pc = pc.map (fun x => (x.toNat : Int) - 97) by unfold wordOf'; rw [if_neg hdot])
            have hnd := hide (fun (e : pc = [46]) => hdot e)
            clear hne hdot
            have hbtc := hide (show bts Sc = pc by rw [← hSc.out, bts_strB])
            by_cases hlts : k < Sc.size
            · have hlh := hide hlts
              have hSzb : Sc.size ≤ 1048576 := by have := hlc.out; have := hSz.out; omega
              have hpk := hide (show pc[k]? = some (Sc[k]'hlts) by rw [← hbtc.out]; exact bts_at Sc k hlts)
              have hwc : IntKind.i64.wrap ((Sc[k]'hlts).toNat : Int) = ((Sc[k]'hlts).toNat : Int) := IntWalk.i64_in _ (by have := UInt8.toNat_lt (Sc[k]'hlts); omega)
              have hwx : IntKind.i64.wrap (((Sc[k]'hlts).toNat : Int) - 97) = ((Sc[k]'hlts).toNat : Int) - 97 := IntWalk.i64_in _ (by have := UInt8.toNat_lt (Sc[k]'hlts); omega)
              have hwf := hide (show (Lit.int .i64 (((Sc[k]'hlts).toNat : Int) - 97)).wf = true from wf_i64 (by have := UInt8.toNat_lt (Sc[k]'hlts); omega))
              have hnx := hide (show ((pc.take k).map (fun x => (x.toNat : Int) - 97)) ++ [((Sc[k]'hlts).toNat : Int) - 97] = (pc.take (k + 1)).map (fun x => (x.toNat : Int) - 97) by rw [List.take_add_one, hpk.out, List.map_append]; rfl)
              have hms : ((pc.take k).map (fun x => (x.toNat : Int) - 97)).length + 1 ≤ 1048576000 := by have := hlc.out; rw [List.length_map, List.length_take]; omega
              go_wp2_with fail
              go_region_law (first | (refine step_app _ rfl _ _ 25 rfl i0 Tryz.underlying25 hi hz0 hz1 hz2 _ _ rfl (how.out.alloc _).drew _ 1 1 _ [((Sc[k]'hlts).toNat : Int) - 97] rfl (ints_lit1 hwf.out).drew (by simp; omega) hms ?_; intro A₃ n₃ c₃ w4 ho4 hg4; have ht4 := hide (((ht.out.alloc (.cells #[.int .i64 (((Sc[k]'hlts).toNat : Int) - 97)] 3)).drew).grown hg4 (fun q hq => by have := (how.out.row.lt q hq).1; omega)); obtain ⟨x0, x1, x2, y0, y1, y2, _⟩ := ht4.out))
              all_goals
                have ho5 := hide (ho4.setLow (a := ⟨w1.heap.size, 2, none⟩) (by show w1.heap.size < w5.heap.size; omega) (.slice A₃ n₃ c₃))
                rw [hnx.out] at ho5
                have hos5 := hide ((((hos.out.alloc (.cells #[.int .i64 (((Sc[k]'hlts).toNat : Int) - 97)] 3)).drew).kept hg4 (apart hslt.out how.out.row.lt (.inl (Nat.le_refl _)))).setLow (a := ⟨w1.heap.size, 2, none⟩) (by show w1.heap.size < w3.heap.size; omega) (.slice A₃ n₃ c₃))
                have ht5 := hide (ht4.out.set2 (.slice A₃ n₃ c₃))
                have hb5 := hide (((hb.out.alloc (by omega) (.cells #[.int .i64 (((Sc[k]'hlts).toNat : Int) - 97)] 3)).drew.grown hg4 (by simp; omega) (fun q hq => by have := (how.out.row.lt q hq).1; omega)).setCell (p := ⟨w1.heap.size, 2, none⟩) (Nat.le_refl _) (.slice A₃ n₃ c₃))
                have hsz5 : w5.heap.size ≤ (w4.setCell ⟨w1.heap.size, 2, none⟩ (.slice A₃ n₃ c₃)).heap.size := by have := hg4.size; simp at this ⊢; omega
                clear ho4 hg4 ht4 hos how ht hb
                go_wp2_with fail
                go_roundw
                case rel => exact ⟨k + 1, _, _, _, by have := hlh.out; omega, by go_num, hsz5, ht5, ho5, hos5, hb5, hide (fun e => absurd e hnd.out)⟩
                case measure => have := hlh.out; simp [intOf]; omega
            · obtain rfl : k = Sc.size := by omega
              have how := hide (show Own wr w5.heap.size (.slice Aw mw cw) (plcOf pa pb pc).word by
                have := how.out
                rw [List.take_of_length_le (by have := hSz.out; omega)] at this
                show Own _ _ _ (wordOf' pc)
                rw [hwo.out]; exact this)
              have hpm := hide (show PlM wr wr.heap.size (.agg #[.slice As ms cs, .int .i64 D, .slice Aw mw cw]) (plcOf pa pb pc) by
                have := plM_mk (w := wr) (B := wr.heap.size) (p := plcOf pa pb pc) hos.out.ints how.out.ints (by show (Lit.int .i64 (signP pb)).wf = true; rw [hD.out]; exact wf_i64 (by omega))
                rwa [show (plcOf pa pb pc).step = D from hD.out] at this)
              have HT := hide (placeText_spec _ (plcOf pa pb pc) _ wr hpm.out (Nat.le_refl _))
              have hz2 := hide (ht2.out.below hb.out hgw)
              obtain ⟨d1, d2⟩ := hrd.out
              have d1 := hide d1
              have d2 := hide d2
              by_cases hemp : s = ⟨#[]⟩
              · have hbe : bts s = [] := by rw [hemp]; rfl
                subst hemp
                have e1 := hide (show readPB [] = false from rfl)
                have e2 := hide (show readQ [] = noPlc from rfl)
                obtain ⟨v0, v1, v2, g0, g1, g2, _⟩ := hz2.out
                have hfin := hide (((hz2.out.set0 (.slice none 0 0)).set1 (.int .i64 0)).set2 (.slice none 0 0))
                go_wp2_with fail
                obtain ⟨k0, k1, k2, _, _, _, _⟩ := hfin.out
                exact bodyPost_ret (v := .tuple #[.agg #[.slice none 0 0, .int .i64 0, .slice none 0 0], .bool false]) (by simp [results, Tryz.results36, go_sem, k0, k1, k2]) rfl ⟨_, by rw [e1.out], by rw [e2.out]; exact noPlM, (((hq.out.trans (hb.out.mono (by omega))).setCell (Nat.le_refl _) _).setCell (Nat.le_refl _) _).setCell (Nat.le_refl _) _⟩
              · have hbe : bts s ≠ [] := fun e => hemp (by rw [← strB_bts s, e]; rfl)
                have hsz0 : (s.toList == []) = false := by
                  rw [ByteArray.toList_eq]
                  simpa [bts] using hbe
                obtain ⟨ST, hST⟩ : ∃ S, Hid (strB (placeT (plcOf pa pb pc)) = S) := ⟨_, hide rfl⟩
                rw [hST.out] at HT
                by_cases heq : ST = s
                · have hpe : placeT (plcOf pa pb pc) = bts s := by rw [← bts_strB (placeT (plcOf pa pb pc)), hST.out, heq]
                  have e1 := hide (show readPB (bts s) = true by rw [d1.out, decide_eq_true ⟨hpe, hbe⟩])
                  have e2 := hide (show readQ (bts s) = plcOf pa pb pc by rw [d2.out, if_pos ⟨hpe, hbe⟩])
                  have hc1 : (ST.toList == s.toList) = true := by rw [heq]; simp
                  have hc2 : (ST.toList != s.toList) = false := by rw [heq]; simp
                  have heq := hide heq
                  have hemp := hide hemp
                  clear hpe hbe
                  go_wp2_with (go_at_call 52; refine HT.out.mono ?_; rintro e w7 ⟨rfl, hq7⟩; have hz7 := hide (hz2.out.up hq7); have ht7 := hide (ht.out.up hq7); have hs7 := hide (hos.out.up hq7); have hw7 := hide (how.out.up hq7); have hb7 := hide (upB (hq.out.trans (hb.out.mono (by omega))) hq7); obtain ⟨z0, z1, z2, z3, z4, z5, _⟩ := hz7.out; obtain ⟨s0, s1, s2, _, _, _, _⟩ := ht7.out; clear hq7)
                  have hfin := hide (((hz7.out.set0 (.slice As ms cs)).set1 (.int .i64 D)).set2 (.slice Aw mw cw))
                  obtain ⟨k0, k1, k2, _, _, _, _⟩ := hfin.out
                  have hbf := hide (((hb7.out.setCell (p := ⟨w.heap.size, 0, none⟩) (Nat.le_refl _) (.slice As ms cs)).setCell (p := ⟨w.heap.size, 1, none⟩) (Nat.le_refl _) (.int .i64 D)).setCell (p := ⟨w.heap.size, 2, none⟩) (Nat.le_refl _) (.slice Aw mw cw))
                  have hpf := hide (show PlM _ _ (.agg #[.slice As ms cs, .int .i64 D, .slice Aw mw cw]) (plcOf pa pb pc) by
                    have hg01 : w.heap.size < w3.heap.size := by omega
                    have hg02 : w.heap.size < w5.heap.size := by omega
                    have hF1 := ((hs7.out.setLow (a := ⟨w.heap.size, 0, none⟩) hg01 (.slice As ms cs)).setLow (a := ⟨w.heap.size, 1, none⟩) hg01 (.int .i64 D)).setLow (a := ⟨w.heap.size, 2, none⟩) hg01 (.slice Aw mw cw)
                    have hF2 := ((hw7.out.setLow (a := ⟨w.heap.size, 0, none⟩) hg02 (.slice As ms cs)).setLow (a := ⟨w.heap.size, 1, none⟩) hg02 (.int .i64 D)).setLow (a := ⟨w.heap.size, 2, none⟩) hg02 (.slice Aw mw cw)
                    have := plM_mk (p := plcOf pa pb pc) hF1.ints hF2.ints (by show (Lit.int .i64 (signP pb)).wf = true; rw [hD.out]; exact wf_i64 (by omega))
                    rwa [show (plcOf pa pb pc).step = D from hD.out] at this)
                  exact bodyPost_ret (v := .tuple #[.agg #[.slice As ms cs, .int .i64 D, .slice Aw mw cw], .bool true]) (by simp [results, Tryz.results36, go_sem, k0, k1, k2]) rfl ⟨_, by rw [e1.out], by rw [e2.out]; exact hpf.out, hbf.out⟩
                · have hpe : ¬(placeT (plcOf pa pb pc) = bts s ∧ bts s ≠ []) := fun h => heq (by rw [← hST.out, h.1, strB_bts])
                  have e1 := hide (show readPB (bts s) = false by rw [d1.out, decide_eq_false hpe])
                  have e2 := hide (show readQ (bts s) = noPlc by rw [d2.out, if_neg hpe])
                  have hc1 : (ST.toList == s.toList) = false := by
                    rw [ByteArray.toList_eq, ByteArray.toList_eq]
                    simp only [beq_eq_false_iff_ne, ne_eq]
                    exact fun e => heq (bts_inj e)
                  have hc2 : (ST.toList != s.toList) = true := by unfold bne; rw [hc1]; rfl
                  have heq := hide heq
                  have hemp := hide hemp
                  clear hpe hbe
                  go_wp2_with (go_at_call 52; refine HT.out.mono ?_; rintro e w7 ⟨rfl, hq7⟩; have hz7 := hide (hz2.out.up hq7); have hb7 := hide (upB (hq.out.trans (hb.out.mono (by omega))) hq7); obtain ⟨z0, z1, z2, z3, z4, z5, _⟩ := hz7.out; clear hq7)
                  have hfin := hide (((hz7.out.set0 (.slice none 0 0)).set1 (.int .i64 0)).set2 (.slice none 0 0))
                  obtain ⟨k0, k1, k2, _, _, _, _⟩ := hfin.out
                  exact bodyPost_ret (v := .tuple #[.agg #[.slice none 0 0, .int .i64 0, .slice none 0 0], .bool false]) (by simp [results, Tryz.results36, go_sem, k0, k1, k2]) rfl ⟨_, by rw [e1.out], by rw [e2.out]; exact noPlM, ((hb7.out.setCell (Nat.le_refl _) _).setCell (Nat.le_refl _) _).setCell (Nat.le_refl _) _⟩
        -- END2
  · obtain ⟨e1, e2⟩ := readP_not3 h3
    have he1 := hide e1
    have he2 := hide e2
    clear e1 e2
    go_enter Tryz.func36, Tryz.ntmps36
    go_wp2_with fail
    refine (H1.out _).mono ?_
    rintro e w1 ⟨A, n, cc, rfl, ho, hq⟩
    have hn : (n : Int) ≠ 3 := by have := ho.len; rw [List.length_map] at this; omega
    have ht := (TriW.made w (.slice none 0 0) (.int .i64 0) (.slice none 0 0) 27).up hq
    have ht2 := hide (((ht.set0 (.slice none 0 0)).set1 (.int .i64 0)).set2 (.slice none 0 0))
    obtain ⟨c0, c1, c2, f0, f1, f2, flt⟩ := ht
    have hq := hide (upB (al w _) hq)
    clear ho h3
    go_wp2_with fail
    obtain ⟨k0, k1, k2, _, _, _, _⟩ := ht2.out
    exact bodyPost_ret (v := .tuple #[.agg #[.slice none 0 0, .int .i64 0, .slice none 0 0], .bool false]) (by simp [results, Tryz.results36, go_sem, k0, k1, k2]) rfl ⟨_, by rw [he1.out], by rw [he2.out]; exact noPlM, ((hq.out.setCell (Nat.le_refl _) _).setCell (Nat.le_refl _) _).setCell (Nat.le_refl _) _⟩
end Go.Proofs.YtpkbmmepapgogaaGreatDoor

namespace Go.Proofs.YtpkbmmepapgogaaGreatDoor
open Go.RowKit
set_option linter.unusedVariables false

theorem find_hit {α : Type} {p : α → Bool} {l : List α} {k : Nat} {x : α} (hx : l[k]? = some x) (hp : p x = true) (h : ∀ (j : Nat) y, j < k → l[j]? = some y → p y = false) : l.find? p = some x := by
  induction l generalizing k with
  | nil => simp at hx
  | cons a r ih =>
    cases k with
    | zero =>
      simp at hx; subst hx
      rw [List.find?_cons_of_pos hp]
    | succ k =>
      have h0 := h 0 a (by omega) rfl
      rw [List.find?_cons_of_neg (by rw [h0]; decide)]
      exact ih (k := k) (by simpa using hx) (fun j y hj hy => h (j + 1) y (by omega) (by simpa using hy))
theorem wfD_mk {k a b : Int} (h1 : (Lit.int .i64 k).wf = true) (h2 : (Lit.int .i64 a).wf = true) (h3 : (Lit.int .i64 b).wf = true) : wfD ⟨k, a, b⟩ := ⟨h1, h2, h3⟩
theorem wf_lit2 : ∀ x ∈ [(⟨3, 0, 0⟩ : Ded), ⟨4, 0, 0⟩], wfD x := by
  intro x hx
  simp at hx
  rcases hx with rfl | rfl
  · exact ⟨by decide, by decide, by decide⟩
  · exact ⟨by decide, by decide, by decide⟩
theorem StrM.look2 {w : World} {B cc : Nat} {A : Option Addr} {x y : ByteArray} (h : StrM w B A 2 cc [x, y]) : ∃ b off, A = some ⟨b, off, none⟩ ∧ b < B ∧ w.cell? ⟨b, off, none⟩ = some (.string x) ∧ w.cell? ⟨b, off + 1, none⟩ = some (.string y) := by
  obtain ⟨b, off, e, hb, hc⟩ := h.cells (by omega)
  exact ⟨b, off, e, hb, hc 0 x rfl, hc 1 y rfl⟩
theorem cands_2 {l a b : Bs} (h : cutT 32 l = [a, b]) : cands l = [⟨3, 0, 0⟩, ⟨4, 0, 0⟩] ++ [⟨1, signP b, 0⟩, ⟨2, signP b, 0⟩] := by unfold cands; rw [h]
theorem cands_3 {l a b c : Bs} (h : cutT 32 l = [a, b, c]) : cands l = [⟨3, 0, 0⟩, ⟨4, 0, 0⟩] ++ [⟨0, signP b, signP c⟩] := by unfold cands; rw [h]
theorem cands_0 {l : Bs} (h2 : (cutT 32 l).length ≠ 2) (h3 : (cutT 32 l).length ≠ 3) : cands l = [⟨3, 0, 0⟩, ⟨4, 0, 0⟩] := by
  unfold cands
  match hc : cutT 32 l with
  | [] => rfl
  | [a] => rfl
  | [a, b] => rw [hc] at h2; exact absurd rfl h2
  | [a, b, c] => rw [hc] at h3; exact absurd rfl h3
  | _ :: _ :: _ :: _ :: _ => rfl
set_option maxRecDepth 100000 in
set_option maxHeartbeats 6400000 in
theorem readDeed_spec (s : ByteArray) (w : World) (hs : s.size ≤ 1048576) :
    Calls Tryz.prog 65 #[.string s] w fun e w' => e = .returned (.tuple #[.agg #[.int .i64 (readDQ (bts s)).k, .int .i64 (readDQ (bts s)).a, .int .i64 (readDQ (bts s)).b], .bool (readDB (bts s))]) ∧ Below w.heap.size w w' := by
  obtain ⟨i0, hi, hz0, hz1, hz2⟩ := info_parts infoDeed
  have H1 := hide (fun W => l1Cut_c s 32 32 W rfl hs)
  by_cases h2 : (cutT 32 (bts s)).length = 2
  · obtain ⟨pa, pb, hcut⟩ : ∃ a b, cutT 32 (bts s) = [a, b] := by
      match hc : cutT 32 (bts s) with
      | [] => rw [hc] at h2; cases h2
      | [a] => rw [hc] at h2; cases h2
      | [a, b] => exact ⟨a, b, rfl⟩
      | _ :: _ :: _ :: _ => rw [hc] at h2; simp at h2
    have hca := hide (cands_2 hcut)
    rw [hcut] at H1
    have HS := hide (fun W => l15Signed_c (strB pb) W)
    rw [bts_strB] at HS
    obtain ⟨Sa, hSa⟩ : ∃ S, Hid (strB pa = S) := ⟨_, hide rfl⟩
    obtain ⟨Sb, hSb⟩ : ∃ S, Hid (strB pb = S) := ⟨_, hide rfl⟩
    have hDb := signP_bound pb
    obtain ⟨D, hD⟩ : ∃ D, Hid (signP pb = D) := ⟨_, hide rfl⟩
    rw [hD.out] at HS hDb hca
    rw [hSb.out] at HS
    rw [List.map_cons, List.map_cons, List.map_nil, hSa.out, hSb.out] at H1
    have hwe := hide (show ∀ x ∈ [(⟨1, D, 0⟩ : Ded), ⟨2, D, 0⟩], wfD x by
      intro x hx
      simp at hx
      rcases hx with rfl | rfl
      · exact wfD_mk (by decide) (wf_i64 (by omega)) (by decide)
      · exact wfD_mk (by decide) (wf_i64 (by omega)) (by decide))
    clear h2
    go_enter Tryz.func65, Tryz.ntmps65
    go_wp2_with fail
    refine (H1.out _).mono ?_
    rintro e w1 ⟨A, n, cc, rfl, ho, hq⟩
    have hn : 2 = n := by have := ho.len; simpa using this.symm
    subst hn
    have ht2 := hide ((TriW.made w (.int .i64 0) (.int .i64 0) (.int .i64 0) 42).up hq)
    have hst := hide ho.strs
    have hgw : w.heap.size < w1.heap.size := by have := hq.size; simp at this; omega
    have hq0 := hide (upB (al w _) hq)
    obtain ⟨bw, ow, rfl, hbw, hw0, hw1⟩ := hst.out.look2
    have hlit := hide (ownD_lit (w := w1) (base := w1.heap.size) (ds := [⟨3, 0, 0⟩, ⟨4, 0, 0⟩]) (Nat.le_refl _) (by decide) wf_lit2)
    have hlc := hide (show ∀ j u, (ddC [⟨1, D, 0⟩, ⟨2, D, 0⟩])[j]? = some u → ((w1.alloc (.cells #[.int .i64 3, .int .i64 0, .int .i64 0, .int .i64 4, .int .i64 0, .int .i64 0] 42)).alloc (.cells #[.int .i64 1, .int .i64 D, .int .i64 0, .int .i64 2, .int .i64 D, .int .i64 0] 42)).cell? ⟨w1.heap.size + 1, j, none⟩ = some u from lit_cellsAt _ _ _ _ (by simp))
    clear ho hq
    go_wp2_with (first | (go_at_call 63; refine (HS.out _).mono ?_; rintro e w' ⟨rfl, rfl⟩) | (at_builtin; refine wpList_pushN _ rfl _ _ 60 rfl w1.heap.size 42 i0 (.agg #[.int .i64 0, .int .i64 0, .int .i64 0]) 3 24 Tryz.underlying60 hi hz0 hz1 hz2 rfl (by decide) (by decide) _ 2 _ rfl (hlit.out.alloc _).rowN _ 2 _ (ddC [⟨1, D, 0⟩, ⟨2, D, 0⟩]) rfl rfl hlc.out (ddC_one _) (by omega) (by simp; omega) ?_; intro AL cL w3 hr3 hg3; have hoL := hide (OwnD.pushN (n := 2) (ds := [⟨3, 0, 0⟩, ⟨4, 0, 0⟩]) (es := [⟨1, D, 0⟩, ⟨2, D, 0⟩]) rfl rfl hwe.out wf_lit2 hr3); have hbL := hide (((al w1 (.cells (ddC [⟨3, 0, 0⟩, ⟨4, 0, 0⟩]).toArray 42)).alloc (by simp) (.cells (ddC [⟨1, D, 0⟩, ⟨2, D, 0⟩]).toArray 42)).grown hg3 (by simp; omega) (fun j hj => (hlit.out.row.lt j hj).1)); clear hr3 hg3))
    rw [← hca.out] at hoL
    have hoL := hide (show OwnD w3 w1.heap.size (.slice AL 4 cL) (cands (bts s)) from hoL.out)
    go_loopw [7] (fun i wr => ∃ k : Nat, k ≤ 4 ∧ i = .int .i64 k ∧ Hid (∀ (j : Nat) x, j < k → (cands (bts s))[j]? = some x → ¬(bts s ≠ [] ∧ deedT x = bts s)) ∧ Hid (OwnD wr w1.heap.size (.slice AL 4 cL) (cands (bts s))) ∧ Hid (Below w1.heap.size w1 wr)) (fun i _ => 4 - (intOf i).toNat)
    case atStart => exact ⟨0, Nat.zero_le _, rfl, hide (fun j x hj _ => absurd hj (by omega)), hoL, hbL⟩
    case round =>
      clear hoL hbL
      obtain ⟨k, hk, rfl, hall, hoL, hb⟩ := hrel
      have hst := hb.out.size
      have ht2 := hide (ht2.out.below hb.out hgw)
      by_cases hlt : k < 4
      · obtain ⟨b, off, x, rfl, hbB, hx, hc0, hc1, hc2⟩ := hoL.out.deeds.look hlt
        by_cases hemp : s = ⟨#[]⟩
        · have hno := hide (show bts s = [] by rw [hemp]; rfl)
          subst hemp
          go_wp2
          go_roundw
          case rel => exact ⟨k + 1, by omega, by go_num, hide (fun j y hj hy hh => hh.1 hno.out), hoL, hb⟩
          case measure => simp [intOf]; omega
        · have hbe := hide (show bts s ≠ [] from fun e => hemp (by rw [← strB_bts s, e]; rfl))
          have hsz0 : (s.toList == []) = false := by
            rw [ByteArray.toList_eq]
            simpa [bts] using hbe.out
          have hsz1 : (s.toList != []) = true := by unfold bne; rw [hsz0]; rfl
          have HD := hide (deedText_spec x wr)
          obtain ⟨ST, hST⟩ : ∃ S, Hid (strB (deedT x) = S) := ⟨_, hide rfl⟩
          rw [hST.out] at HD
          by_cases heq : ST = s
          · have hpe : deedT x = bts s := by rw [← bts_strB (deedT x), hST.out, heq]
            have e0 := hide (find_hit (p := fun d => decide (bts s ≠ []) && decide (deedT d = bts s)) hx.out (by rw [decide_eq_true hbe.out, decide_eq_true hpe]; rfl) (fun j y hj hy => by
              have := hall.out j y hj hy
              rw [decide_eq_true hbe.out, Bool.true_and]
              exact decide_eq_false (fun e => this ⟨hbe.out, e⟩)))
            have e1 := hide (show readDB (bts s) = true by unfold readDB readD; rw [e0.out]; rfl)
            have e2 := hide (show readDQ (bts s) = x by unfold readDQ readD; rw [e0.out]; rfl)
            have hc1' : (ST.toList == s.toList) = true := by rw [heq]; simp
            subst heq
            clear hpe hemp
            have hbs : b < wr.heap.size := hbB
            go_wp2_with (go_at_call 49; refine HD.out.mono ?_; rintro e w2 ⟨rfl, hq⟩; have hc0 := (hq.cell (p := ⟨b, off + k * 3, none⟩) (by assumption)).trans hc0; have hc1 := (hq.cell (p := ⟨b, off + k * 3 + 1, none⟩) (by assumption)).trans hc1; have hc2 := (hq.cell (p := ⟨b, off + k * 3 + 2, none⟩) (by assumption)).trans hc2; have ht7 := hide (ht2.out.up hq); have hb7 := hide (upB (hq0.out.trans (hb.out.mono (by omega))) hq); obtain ⟨z0, z1, z2, z3, z4, z5, _⟩ := ht7.out; clear hq)
            have hfin := hide (((ht7.out.set0 (.int .i64 x.k)).set1 (.int .i64 x.a)).set2 (.int .i64 x.b))
            obtain ⟨k0, k1, k2, _, _, _, _⟩ := hfin.out
            exact bodyPost_ret (v := .tuple #[.agg #[.int .i64 x.k, .int .i64 x.a, .int .i64 x.b], .bool true]) (by simp [results, Tryz.results65, go_sem, k0, k1, k2]) rfl ⟨by rw [e1.out, e2.out], ((hb7.out.setCell (Nat.le_refl _) _).setCell (Nat.le_refl _) _).setCell (Nat.le_refl _) _⟩
          · have hpe := hide (show deedT x ≠ bts s from fun h => heq (by rw [← hST.out, h, strB_bts]))
            have hc1' : (ST.toList == s.toList) = false := by
              rw [ByteArray.toList_eq, ByteArray.toList_eq]
              simp only [beq_eq_false_iff_ne, ne_eq]
              exact fun e => heq (bts_inj e)
            have heq := hide heq
            have hemp := hide hemp
            have hbs : b < wr.heap.size := hbB
            go_wp2_with (go_at_call 49; refine HD.out.mono ?_; rintro e w2 ⟨rfl, hq⟩; have hoL := hide (hoL.out.up hq); have hb := hide (hb.out.trans (hq.mono (by omega))); clear hq)
            go_roundw
            case rel => exact ⟨k + 1, by omega, by go_num, hide (fun j y hj hy hh => by
              rcases Nat.lt_or_ge j k with hjk | hjk
              · exact hall.out j y hjk hy hh
              · obtain rfl : j = k := by omega
                rw [hx.out] at hy; injection hy with hy; subst hy; exact hpe.out hh.2), hoL, hb⟩
            case measure => simp [intOf]; omega
      · obtain rfl : k = 4 := by omega
        have e0 := hide (show readD (bts s) = none from List.find?_eq_none.2 (fun x hx => by
          obtain ⟨j, hj, rfl⟩ := List.getElem_of_mem hx
          have := hall.out j _ (by have := hoL.out.len; omega) (List.getElem?_eq_getElem hj)
          simp only [Bool.and_eq_true, decide_eq_true_eq]
          exact this))
        have e1 := hide (show readDB (bts s) = false by unfold readDB; rw [e0.out]; rfl)
        have e2 := hide (show readDQ (bts s) = noDed by unfold readDQ; rw [e0.out]; rfl)
        have hb7 := hide (hq0.out.trans (hb.out.mono (by omega)))
        have hfin := hide (((ht2.out.set0 (.int .i64 0)).set1 (.int .i64 0)).set2 (.int .i64 0))
        obtain ⟨z0, z1, z2, z3, z4, z5, _⟩ := ht2.out
        go_wp2_with fail
        obtain ⟨k0, k1, k2, _, _, _, _⟩ := hfin.out
        exact bodyPost_ret (v := .tuple #[.agg #[.int .i64 0, .int .i64 0, .int .i64 0], .bool false]) (by simp [results, Tryz.results65, go_sem, k0, k1, k2]) rfl ⟨by rw [e1.out, e2.out]; rfl, ((hb7.out.setCell (Nat.le_refl _) _).setCell (Nat.le_refl _) _).setCell (Nat.le_refl _) _⟩
  · by_cases h3 : (cutT 32 (bts s)).length = 3
    · obtain ⟨pa, pb, pc, hcut⟩ : ∃ a b c, cutT 32 (bts s) = [a, b, c] := by
        match hc : cutT 32 (bts s) with
        | [] => rw [hc] at h3; cases h3
        | [a] => rw [hc] at h3; cases h3
        | [a, b] => rw [hc] at h3; cases h3
        | [a, b, c] => exact ⟨a, b, c, rfl⟩
        | _ :: _ :: _ :: _ :: _ => rw [hc] at h3; simp at h3
      have hca := hide (cands_3 hcut)
      rw [hcut] at H1
      have HS := hide (fun W => l15Signed_c (strB pb) W)
      have HS2 := hide (fun W => l15Signed_c (strB pc) W)
      rw [bts_strB] at HS HS2
      obtain ⟨Sa, hSa⟩ : ∃ S, Hid (strB pa = S) := ⟨_, hide rfl⟩
      obtain ⟨Sb, hSb⟩ : ∃ S, Hid (strB pb = S) := ⟨_, hide rfl⟩
      obtain ⟨Sc, hSc⟩ : ∃ S, Hid (strB pc = S) := ⟨_, hide rfl⟩
      have hDb := signP_bound pb
      have hEb := signP_bound pc
      obtain ⟨D, hD⟩ : ∃ D, Hid (signP pb = D) := ⟨_, hide rfl⟩
      obtain ⟨E, hE⟩ : ∃ D, Hid (signP pc = D) := ⟨_, hide rfl⟩
      rw [hD.out] at HS hDb hca
      rw [hE.out] at HS2 hEb hca
      rw [hSb.out] at HS
      rw [hSc.out] at HS2
      rw [List.map_cons, List.map_cons, List.map_cons, List.map_nil, hSa.out, hSb.out, hSc.out] at H1
      have hwe := hide (show wfD ⟨0, D, E⟩ from wfD_mk (by decide) (wf_i64 (by omega)) (wf_i64 (by omega)))
      clear h2 h3
      go_enter Tryz.func65, Tryz.ntmps65
      go_wp2_with fail
      refine (H1.out _).mono ?_
      rintro e w1 ⟨A, n, cc, rfl, ho, hq⟩
      have hn : 3 = n := by have := ho.len; simpa using this.symm
      subst hn
      have ht2 := hide ((TriW.made w (.int .i64 0) (.int .i64 0) (.int .i64 0) 42).up hq)
      have hst := hide ho.strs
      have hgw : w.heap.size < w1.heap.size := by have := hq.size; simp at this; omega
      have hq0 := hide (upB (al w _) hq)
      obtain ⟨bw, ow, rfl, hbw, hw0, hw1, hw2⟩ := hst.out.look3
      have hlit := hide (ownD_lit (w := w1) (base := w1.heap.size) (ds := [⟨3, 0, 0⟩, ⟨4, 0, 0⟩]) (Nat.le_refl _) (by decide) wf_lit2)
      have hlc := hide (show ∀ j u, ([.int .i64 0, .int .i64 D, .int .i64 E] : List Value)[j]? = some u → ((w1.alloc (.cells #[.int .i64 3, .int .i64 0, .int .i64 0, .int .i64 4, .int .i64 0, .int .i64 0] 42)).alloc (.cells #[.int .i64 0, .int .i64 D, .int .i64 E] 42)).drew.cell? ⟨w1.heap.size + 1, j, none⟩ = some u from lit_cellsAt (w1.alloc (.cells #[.int .i64 3, .int .i64 0, .int .i64 0, .int .i64 4, .int .i64 0, .int .i64 0] 42)) [.int .i64 0, .int .i64 D, .int .i64 E] _ _ (by simp))
      clear ho hq
      go_wp2_with fail
      go_region_law (first | (refine step_push _ rfl _ _ 60 rfl w1.heap.size 42 i0 (.agg #[.int .i64 0, .int .i64 0, .int .i64 0]) 3 24 Tryz.underlying60 hi hz0 hz1 hz2 rfl (by decide) (by decide) _ 2 _ rfl (hlit.out.alloc _).drew.rowN _ 1 [.int .i64 0, .int .i64 D, .int .i64 E] rfl rfl hlc.out (by intro u hu; simp at hu; rcases hu with rfl | rfl | rfl <;> rfl) (by omega) (by simp; omega) ?_; intro AL cL w3 hr3 hg3) | (go_simp; go_at_call 63; (first | (with_reducible refine (HS.out _).mono ?_) | (with_reducible refine (HS2.out _).mono ?_)); rintro e w' ⟨rfl, rfl⟩))
      all_goals
        have hoL := hide (show OwnD w3 w1.heap.size (.slice AL 3 cL) (cands (bts s)) by rw [hca.out]; exact OwnD.push (n := 2) (ds := [⟨3, 0, 0⟩, ⟨4, 0, 0⟩]) rfl hwe.out wf_lit2 hr3)
        have hbL := hide ((((al w1 (.cells (ddC [⟨3, 0, 0⟩, ⟨4, 0, 0⟩]).toArray 42)).alloc (by simp) (.cells #[.int .i64 0, .int .i64 D, .int .i64 E] 42)).drew).grown hg3 (by simp; omega) (fun j hj => (hlit.out.row.lt j hj).1))
        clear hr3 hg3
        go_wp2_with fail
        go_loopw [7] (fun i wr => ∃ k : Nat, k ≤ 3 ∧ i = .int .i64 k ∧ Hid (∀ (j : Nat) x, j < k → (cands (bts s))[j]? = some x → ¬(bts s ≠ [] ∧ deedT x = bts s)) ∧ Hid (OwnD wr w1.heap.size (.slice AL 3 cL) (cands (bts s))) ∧ Hid (Below w1.heap.size w1 wr)) (fun i _ => 3 - (intOf i).toNat)
        case atStart => exact ⟨0, Nat.zero_le _, rfl, hide (fun j x hj _ => absurd hj (by omega)), hoL, hbL⟩
        case round =>
          clear hoL hbL
          obtain ⟨k, hk, rfl, hall, hoL, hb⟩ := hrel
          have hst := hb.out.size
          have ht2 := hide (ht2.out.below hb.out hgw)
          by_cases hlt : k < 3
          · obtain ⟨b, off, x, rfl, hbB, hx, hc0, hc1, hc2⟩ := hoL.out.deeds.look hlt
            by_cases hemp : s = ⟨#[]⟩
            · have hno := hide (show bts s = [] by rw [hemp]; rfl)
              subst hemp
              go_wp2
              go_roundw
              case rel => exact ⟨k + 1, by omega, by go_num, hide (fun j y hj hy hh => hh.1 hno.out), hoL, hb⟩
              case measure => simp [intOf]; omega
            · have hbe := hide (show bts s ≠ [] from fun e => hemp (by rw [← strB_bts s, e]; rfl))
              have hsz0 : (s.toList == []) = false := by
                rw [ByteArray.toList_eq]
                simpa [bts] using hbe.out
              have hsz1 : (s.toList != []) = true := by unfold bne; rw [hsz0]; rfl
              have HD := hide (deedText_spec x wr)
              obtain ⟨ST, hST⟩ : ∃ S, Hid (strB (deedT x) = S) := ⟨_, hide rfl⟩
              rw [hST.out] at HD
              by_cases heq : ST = s
              · have hpe : deedT x = bts s := by rw [← bts_strB (deedT x), hST.out, heq]
                have e0 := hide (find_hit (p := fun d => decide (bts s ≠ []) && decide (deedT d = bts s)) hx.out (by rw [decide_eq_true hbe.out, decide_eq_true hpe]; rfl) (fun j y hj hy => by
                  have := hall.out j y hj hy
                  rw [decide_eq_true hbe.out, Bool.true_and]
                  exact decide_eq_false (fun e => this ⟨hbe.out, e⟩)))
                have e1 := hide (show readDB (bts s) = true by unfold readDB readD; rw [e0.out]; rfl)
                have e2 := hide (show readDQ (bts s) = x by unfold readDQ readD; rw [e0.out]; rfl)
                have hc1' : (ST.toList == s.toList) = true := by rw [heq]; simp
                subst heq
                clear hpe hemp
                have hbs : b < wr.heap.size := hbB
                go_wp2_with (go_at_call 49; refine HD.out.mono ?_; rintro e w2 ⟨rfl, hq⟩; have hc0 := (hq.cell (p := ⟨b, off + k * 3, none⟩) (by assumption)).trans hc0; have hc1 := (hq.cell (p := ⟨b, off + k * 3 + 1, none⟩) (by assumption)).trans hc1; have hc2 := (hq.cell (p := ⟨b, off + k * 3 + 2, none⟩) (by assumption)).trans hc2; have ht7 := hide (ht2.out.up hq); have hb7 := hide (upB (hq0.out.trans (hb.out.mono (by omega))) hq); obtain ⟨z0, z1, z2, z3, z4, z5, _⟩ := ht7.out; clear hq)
                have hfin := hide (((ht7.out.set0 (.int .i64 x.k)).set1 (.int .i64 x.a)).set2 (.int .i64 x.b))
                obtain ⟨k0, k1, k2, _, _, _, _⟩ := hfin.out
                exact bodyPost_ret (v := .tuple #[.agg #[.int .i64 x.k, .int .i64 x.a, .int .i64 x.b], .bool true]) (by simp [results, Tryz.results65, go_sem, k0, k1, k2]) rfl ⟨by rw [e1.out, e2.out], ((hb7.out.setCell (Nat.le_refl _) _).setCell (Nat.le_refl _) _).setCell (Nat.le_refl _) _⟩
              · have hpe := hide (show deedT x ≠ bts s from fun h => heq (by rw [← hST.out, h, strB_bts]))
                have hc1' : (ST.toList == s.toList) = false := by
                  rw [ByteArray.toList_eq, ByteArray.toList_eq]
                  simp only [beq_eq_false_iff_ne, ne_eq]
                  exact fun e => heq (bts_inj e)
                have heq := hide heq
                have hemp := hide hemp
                have hbs : b < wr.heap.size := hbB
                go_wp2_with (go_at_call 49; refine HD.out.mono ?_; rintro e w2 ⟨rfl, hq⟩; have hoL := hide (hoL.out.up hq); have hb := hide (hb.out.trans (hq.mono (by omega))); clear hq)
                go_roundw
                case rel => exact ⟨k + 1, by omega, by go_num, hide (fun j y hj hy hh => by
                  rcases Nat.lt_or_ge j k with hjk | hjk
                  · exact hall.out j y hjk hy hh
                  · obtain rfl : j = k := by omega
                    rw [hx.out] at hy; injection hy with hy; subst hy; exact hpe.out hh.2), hoL, hb⟩
                case measure => simp [intOf]; omega
          · obtain rfl : k = 3 := by omega
            have e0 := hide (show readD (bts s) = none from List.find?_eq_none.2 (fun x hx => by
              obtain ⟨j, hj, rfl⟩ := List.getElem_of_mem hx
              have := hall.out j _ (by have := hoL.out.len; omega) (List.getElem?_eq_getElem hj)
              simp only [Bool.and_eq_true, decide_eq_true_eq]
              exact this))
            have e1 := hide (show readDB (bts s) = false by unfold readDB; rw [e0.out]; rfl)
            have e2 := hide (show readDQ (bts s) = noDed by unfold readDQ; rw [e0.out]; rfl)
            have hb7 := hide (hq0.out.trans (hb.out.mono (by omega)))
            have hfin := hide (((ht2.out.set0 (.int .i64 0)).set1 (.int .i64 0)).set2 (.int .i64 0))
            obtain ⟨z0, z1, z2, z3, z4, z5, _⟩ := ht2.out
            go_wp2_with fail
            obtain ⟨k0, k1, k2, _, _, _, _⟩ := hfin.out
            exact bodyPost_ret (v := .tuple #[.agg #[.int .i64 0, .int .i64 0, .int .i64 0], .bool false]) (by simp [results, Tryz.results65, go_sem, k0, k1, k2]) rfl ⟨by rw [e1.out, e2.out]; rfl, ((hb7.out.setCell (Nat.le_refl _) _).setCell (Nat.le_refl _) _).setCell (Nat.le_refl _) _⟩
    · have hca := hide (cands_0 h2 h3)
      have hnn := hide (show (cutT 32 (bts s)).length ≠ 2 ∧ (cutT 32 (bts s)).length ≠ 3 from ⟨h2, h3⟩)
      clear h2 h3
      go_enter Tryz.func65, Tryz.ntmps65
      go_wp2_with fail
      refine (H1.out _).mono ?_
      rintro e w1 ⟨A, n, cc, rfl, ho, hq⟩
      have hn2 : n ≠ 2 := by have := ho.len; rw [List.length_map] at this; rw [this]; exact hnn.out.1
      have hn3 : n ≠ 3 := by have := ho.len; rw [List.length_map] at this; rw [this]; exact hnn.out.2
      have ht2 := hide ((TriW.made w (.int .i64 0) (.int .i64 0) (.int .i64 0) 42).up hq)
      have hgw : w.heap.size < w1.heap.size := by have := hq.size; simp at this; omega
      have hq0 := hide (upB (al w _) hq)
      have hoL := hide (show OwnD (w1.alloc (.cells #[.int .i64 3, .int .i64 0, .int .i64 0, .int .i64 4, .int .i64 0, .int .i64 0] 42)) w1.heap.size (.slice (some ⟨w1.heap.size, 0, none⟩) 2 2) (cands (bts s)) by rw [hca.out]; exact ownD_lit (ds := [⟨3, 0, 0⟩, ⟨4, 0, 0⟩]) (Nat.le_refl _) (by decide) wf_lit2)
      have hbL := hide (al w1 (.cells #[.int .i64 3, .int .i64 0, .int .i64 0, .int .i64 4, .int .i64 0, .int .i64 0] 42))
      have hz2 : ((n : Int) == 2) = false := by simp; omega
      have hz3 : ((n : Int) == 3) = false := by simp; omega
      clear ho hq
      go_wp2_with fail
      go_loopw [7] (fun i wr => ∃ k : Nat, k ≤ 2 ∧ i = .int .i64 k ∧ Hid (∀ (j : Nat) x, j < k → (cands (bts s))[j]? = some x → ¬(bts s ≠ [] ∧ deedT x = bts s)) ∧ Hid (OwnD wr w1.heap.size (.slice (some ⟨w1.heap.size, 0, none⟩) 2 2) (cands (bts s))) ∧ Hid (Below w1.heap.size w1 wr)) (fun i _ => 2 - (intOf i).toNat)
      case atStart => exact ⟨0, Nat.zero_le _, rfl, hide (fun j x hj _ => absurd hj (by omega)), hoL, hbL⟩
      case round =>
        clear hoL hbL
        obtain ⟨k, hk, rfl, hall, hoL, hb⟩ := hrel
        have hst := hb.out.size
        have ht2 := hide (ht2.out.below hb.out hgw)
        by_cases hlt : k < 2
        · obtain ⟨b, off, x, hAe, hbB, hx, hc0, hc1, hc2⟩ := hoL.out.deeds.look hlt
          injection hAe with hAe
          injection hAe with hA1 hA2
          subst hA1
          subst hA2
          rw [Nat.zero_add] at hc0 hc1 hc2
          by_cases hemp : s = ⟨#[]⟩
          · have hno := hide (show bts s = [] by rw [hemp]; rfl)
            subst hemp
            go_wp2
            go_roundw
            case rel => exact ⟨k + 1, by omega, by go_num, hide (fun j y hj hy hh => hh.1 hno.out), hoL, hb⟩
            case measure => simp [intOf]; omega
          · have hbe := hide (show bts s ≠ [] from fun e => hemp (by rw [← strB_bts s, e]; rfl))
            have hsz0 : (s.toList == []) = false := by
              rw [ByteArray.toList_eq]
              simpa [bts] using hbe.out
            have hsz1 : (s.toList != []) = true := by unfold bne; rw [hsz0]; rfl
            have HD := hide (deedText_spec x wr)
            obtain ⟨ST, hST⟩ : ∃ S, Hid (strB (deedT x) = S) := ⟨_, hide rfl⟩
            rw [hST.out] at HD
            by_cases heq : ST = s
            · have hpe : deedT x = bts s := by rw [← bts_strB (deedT x), hST.out, heq]
              have e0 := hide (find_hit (p := fun d => decide (bts s ≠ []) && decide (deedT d = bts s)) hx.out (by rw [decide_eq_true hbe.out, decide_eq_true hpe]; rfl) (fun j y hj hy => by
                have := hall.out j y hj hy
                rw [decide_eq_true hbe.out, Bool.true_and]
                exact decide_eq_false (fun e => this ⟨hbe.out, e⟩)))
              have e1 := hide (show readDB (bts s) = true by unfold readDB readD; rw [e0.out]; rfl)
              have e2 := hide (show readDQ (bts s) = x by unfold readDQ readD; rw [e0.out]; rfl)
              have hc1' : (ST.toList == s.toList) = true := by rw [heq]; simp
              subst heq
              clear hpe hemp
              have hbs : w1.heap.size < wr.heap.size := hbB
              go_wp2_with (go_at_call 49; refine HD.out.mono ?_; rintro e w2 ⟨rfl, hq⟩; have hc0 := (hq.cell (p := ⟨w1.heap.size, k * 3, none⟩) (by assumption)).trans hc0; have hc1 := (hq.cell (p := ⟨w1.heap.size, k * 3 + 1, none⟩) (by assumption)).trans hc1; have hc2 := (hq.cell (p := ⟨w1.heap.size, k * 3 + 2, none⟩) (by assumption)).trans hc2; have ht7 := hide (ht2.out.up hq); have hb7 := hide (upB (hq0.out.trans (hb.out.mono (by omega))) hq); obtain ⟨z0, z1, z2, z3, z4, z5, _⟩ := ht7.out; clear hq)
              have hfin := hide (((ht7.out.set0 (.int .i64 x.k)).set1 (.int .i64 x.a)).set2 (.int .i64 x.b))
              obtain ⟨k0, k1, k2, _, _, _, _⟩ := hfin.out
              exact bodyPost_ret (v := .tuple #[.agg #[.int .i64 x.k, .int .i64 x.a, .int .i64 x.b], .bool true]) (by simp [results, Tryz.results65, go_sem, k0, k1, k2]) rfl ⟨by rw [e1.out, e2.out], ((hb7.out.setCell (Nat.le_refl _) _).setCell (Nat.le_refl _) _).setCell (Nat.le_refl _) _⟩
            · have hpe := hide (show deedT x ≠ bts s from fun h => heq (by rw [← hST.out, h, strB_bts]))
              have hc1' : (ST.toList == s.toList) = false := by
                rw [ByteArray.toList_eq, ByteArray.toList_eq]
                simp only [beq_eq_false_iff_ne, ne_eq]
                exact fun e => heq (bts_inj e)
              have heq := hide heq
              have hemp := hide hemp
              have hbs : w1.heap.size < wr.heap.size := hbB
              go_wp2_with (go_at_call 49; refine HD.out.mono ?_; rintro e w2 ⟨rfl, hq⟩; have hoL := hide (hoL.out.up hq); have hb := hide (hb.out.trans (hq.mono (by omega))); clear hq)
              go_roundw
              case rel => exact ⟨k + 1, by omega, by go_num, hide (fun j y hj hy hh => by
                rcases Nat.lt_or_ge j k with hjk | hjk
                · exact hall.out j y hjk hy hh
                · obtain rfl : j = k := by omega
                  rw [hx.out] at hy; injection hy with hy; subst hy; exact hpe.out hh.2), hoL, hb⟩
              case measure => simp [intOf]; omega
        · obtain rfl : k = 2 := by omega
          have e0 := hide (show readD (bts s) = none from List.find?_eq_none.2 (fun x hx => by
            obtain ⟨j, hj, rfl⟩ := List.getElem_of_mem hx
            have := hall.out j _ (by have := hoL.out.len; omega) (List.getElem?_eq_getElem hj)
            simp only [Bool.and_eq_true, decide_eq_true_eq]
            exact this))
          have e1 := hide (show readDB (bts s) = false by unfold readDB; rw [e0.out]; rfl)
          have e2 := hide (show readDQ (bts s) = noDed by unfold readDQ; rw [e0.out]; rfl)
          have hb7 := hide (hq0.out.trans (hb.out.mono (by omega)))
          have hfin := hide (((ht2.out.set0 (.int .i64 0)).set1 (.int .i64 0)).set2 (.int .i64 0))
          obtain ⟨z0, z1, z2, z3, z4, z5, _⟩ := ht2.out
          go_wp2_with fail
          obtain ⟨k0, k1, k2, _, _, _, _⟩ := hfin.out
          exact bodyPost_ret (v := .tuple #[.agg #[.int .i64 0, .int .i64 0, .int .i64 0], .bool false]) (by simp [results, Tryz.results65, go_sem, k0, k1, k2]) rfl ⟨by rw [e1.out, e2.out]; rfl, ((hb7.out.setCell (Nat.le_refl _) _).setCell (Nat.le_refl _) _).setCell (Nat.le_refl _) _⟩
end Go.Proofs.YtpkbmmepapgogaaGreatDoor

namespace Go.Proofs.YtpkbmmepapgogaaGreatDoor
open Go.RowKit
set_option linter.unusedVariables false

theorem jrnL_cons_some {l : Bs} {r : List Bs} {d : Ded} (h : readD l = some d) : jrnL (l :: r) = (d :: (jrnL r).1, l.length + 1 + (jrnL r).2) := by
  show (match readD l with | none => _ | some d => _) = _
  rw [h]
theorem jrnL_cons_none {l : Bs} {r : List Bs} (h : readD l = none) : jrnL (l :: r) = ([], 0) := by
  show (match readD l with | none => _ | some d => _) = _
  rw [h]
/-- All lines of p are read. -/
theorem jrnL_append : ∀ (p q : List Bs), (jrnL p).1.length = p.length → jrnL (p ++ q) = ((jrnL p).1 ++ (jrnL q).1, (jrnL p).2 + (jrnL q).2)
  | [], q, _ => by simp [jrnL]
  | l :: p, q, h => by
    cases hd : readD l with
    | none => rw [jrnL_cons_none hd] at h; simp at h
    | some d =>
      rw [jrnL_cons_some hd] at h ⊢
      have h2 : (jrnL p).1.length = p.length := by simpa using h
      rw [List.cons_append, jrnL_cons_some hd, jrnL_append p q h2]
      simp only [List.cons_append, Nat.add_assoc]
theorem cutTo_more (c : UInt8) (l : Bs) (k : Nat) : ∀ m, k ≤ m → ∃ q, (cutTo c l m).1 = (cutTo c l k).1 ++ q := by
  intro m hm
  induction m with
  | zero =>
    obtain rfl : k = 0 := by omega
    exact ⟨[], by simp⟩
  | succ m ih =>
    rcases Nat.lt_or_ge m k with h | h
    · obtain rfl : k = m + 1 := by omega
      exact ⟨[], by simp⟩
    · obtain ⟨q, hq⟩ := ih h
      by_cases hc : l[m]? = some c
      · rw [cutTo_hit hc, hq]
        exact ⟨q ++ [(l.take m).drop (cutTo c l m).2], by simp⟩
      · rw [cutTo_miss hc]
        exact ⟨q, hq⟩
theorem readJ_lines (l : Bs) : readJ l = jrnL (cutTo 10 l l.length).1 := by
  unfold readJ
  rw [cutTo_end]
  simp
/-- The deeds read as far as byte k, if all its lines are deeds. -/
def JrnTo (l : Bs) (k : Nat) (ds : List Ded) (F : Nat) : Prop := jrnL (cutTo 10 l k).1 = (ds, F) ∧ ds.length = (cutTo 10 l k).1.length ∧ F = (cutTo 10 l k).2
theorem jrnTo_zero (l : Bs) : JrnTo l 0 [] 0 := ⟨rfl, rfl, rfl⟩
theorem jrnTo_hit {l : Bs} {k F : Nat} {ds : List Ded} {d : Ded} (h : JrnTo l k ds F) (hk : l[k]? = some 10) (hd : readD ((l.take k).drop F) = some d) : JrnTo l (k + 1) (ds ++ [d]) (k + 1) := by
  obtain ⟨h1, h2, h3⟩ := h
  have hl := (List.getElem?_eq_some_iff.1 hk).1
  have hle := cutTo_le 10 l k
  unfold JrnTo
  rw [cutTo_hit hk]
  have ha := jrnL_append (cutTo 10 l k).1 [(l.take k).drop (cutTo 10 l k).2] (by rw [h1]; exact h2)
  rw [← h3] at ha ⊢
  refine ⟨?_, by simp [h2], rfl⟩
  rw [ha, h1, jrnL_cons_some hd]
  simp only [jrnL, Nat.add_zero]
  refine Prod.ext rfl ?_
  show F + (((l.take k).drop F).length + 1) = k + 1
  rw [List.length_drop, List.length_take]
  omega
theorem jrnTo_miss {l : Bs} {k F : Nat} {ds : List Ded} (h : JrnTo l k ds F) (hk : l[k]? ≠ some 10) : JrnTo l (k + 1) ds F := by
  unfold JrnTo
  rw [cutTo_miss hk]
  exact h
theorem jrnTo_bad {l : Bs} {k F : Nat} {ds : List Ded} (h : JrnTo l k ds F) (hk : l[k]? = some 10) (hd : readD ((l.take k).drop F) = none) : readJ l = (ds, F) := by
  obtain ⟨h1, h2, h3⟩ := h
  have hl := (List.getElem?_eq_some_iff.1 hk).1
  rw [readJ_lines]
  obtain ⟨q, hq⟩ := cutTo_more 10 l (k + 1) l.length (by omega)
  rw [hq, cutTo_hit hk, List.append_assoc, jrnL_append _ _ (by rw [h1]; exact h2), h1, ← h3]
  show (ds ++ (jrnL ((l.take k).drop F :: q)).1, F + (jrnL ((l.take k).drop F :: q)).2) = _
  rw [jrnL_cons_none hd]
  simp
theorem jrnTo_end {l : Bs} {F : Nat} {ds : List Ded} (h : JrnTo l l.length ds F) : readJ l = (ds, F) := by rw [readJ_lines]; exact h.1
theorem jrnTo_le {l : Bs} {k F : Nat} {ds : List Ded} (h : JrnTo l k ds F) : F ≤ k ∧ ds.length ≤ k := by
  obtain ⟨_, h2, h3⟩ := h
  have := cutTo_le 10 l k
  have := cutTo_len 10 l k
  omega

set_option maxRecDepth 100000 in
set_option maxHeartbeats 3200000 in
theorem readJournal_spec (s : ByteArray) (w : World) (hs : s.size ≤ 1048576) :
    Calls Tryz.prog 37 #[.string s] w fun e w' => ∃ A n c, e = .returned (.tuple #[.slice A n c, .int .i64 ((readJ (bts s)).2 : Int)]) ∧ OwnD w' w.heap.size (.slice A n c) (readJ (bts s)).1 ∧ Below w.heap.size w w' := by
  obtain ⟨i0, hi, hz0, hz1, hz2⟩ := info_parts infoDeed
  have hlen := hide (bts_len s)
  have HX := hide (fun (j k : Nat) => strB_take s j k)
  go_enter Tryz.func37, Tryz.ntmps37
  go_wp2
  have ho0 := hide (show OwnD (w.alloc (.cells #[] 42)) w.heap.size (.slice (some ⟨w.heap.size, 0, none⟩) 0 0) [] from ownD_empty (Nat.le_refl _))
  have hb0 := hide (al w (.cells #[] 42))
  go_loopw [4, 5, 6] (fun v f i wr => ∃ k F : Nat, ∃ A m cc ds, k ≤ s.size ∧ i = .int .i64 k ∧ f = .int .i64 F ∧ v = .slice A m cc ∧ Hid (JrnTo (bts s) k ds F) ∧ Hid (OwnD wr w.heap.size (.slice A m cc) ds) ∧ Hid (Below w.heap.size w wr)) (fun _ _ i _ => s.size - (intOf i).toNat)
  case atStart => exact ⟨0, 0, _, _, _, [], Nat.zero_le _, rfl, rfl, rfl, hide (jrnTo_zero _), ho0, hb0⟩
  case round =>
    clear ho0 hb0
    obtain ⟨k, F, A, m, cc, ds, hk, rfl, rfl, rfl, hJ, ho, hb⟩ := hrel
    have hst := hb.out.size
    obtain ⟨hFk, hdk⟩ := jrnTo_le hJ.out
    have hm := ho.out.len
    have hmk : m ≤ k := by omega
    replace hm := hide hm
    clear hdk
    by_cases hlt : k < s.size
    · have hat := bts_at s k hlt
      by_cases hc : (s[k]'hlt).toNat = 10
      · have hk10 := hide (show (bts s)[k]? = some 10 by rw [hat, show (s[k]'hlt) = 10 from UInt8.toNat_inj.1 hc])
        have hcb : (((s[k]'hlt).toNat : Int) == 10) = true := by simp; omega
        have HR := hide (readDeed_spec (s.extract F k) wr (by rw [HX.out, strB_size, List.length_drop, List.length_take, hlen.out]; omega))
        rw [HX.out, bts_strB, ← HX.out] at HR
        have hkw : IntKind.i64.wrap ((k : Int) + 1) = (k : Int) + 1 := IntWalk.i64_in _ (by omega)
        clear hat
        cases hd : readD (((bts s).take k).drop F) with
        | none =>
          have e1 : readDB (((bts s).take k).drop F) = false := by unfold readDB; rw [hd]; rfl
          have e2 : readDQ (((bts s).take k).drop F) = noDed := by unfold readDQ; rw [hd]; rfl
          rw [e1, e2] at HR
          have hfin := hide (jrnTo_bad hJ.out hk10.out hd)
          clear e1 e2 hd
          go_wp2_with (go_at_call 65; refine HR.out.mono ?_; rintro e w2 ⟨rfl, hq⟩; have ho2 := hide (ho.out.up hq); have hb2 := hide (upB hb.out hq); clear hq)
          go_ret2
          exact ⟨A, m, cc, by rw [hfin.out]; rfl, by rw [hfin.out]; exact ho2.out.alloc _, hb2.out.alloc hb2.out.size _⟩
        | some d =>
          have e1 : readDB (((bts s).take k).drop F) = true := by unfold readDB; rw [hd]; rfl
          have e2 : readDQ (((bts s).take k).drop F) = d := by unfold readDQ; rw [hd]; rfl
          rw [e1, e2] at HR
          have hJ2 := hide (jrnTo_hit hJ.out hk10.out hd)
          have hwd := hide (wfD_small (deedT_ne.1 (by have := (readD_iff.1 hd); rw [this.1]; exact this.2)))
          clear e1 e2 hd
          go_wp2_with (first | (go_at_call 65; refine HR.out.mono ?_; rintro e w2 ⟨rfl, hq⟩; have ho2 := hide (ho.out.up hq); have hb2 := hide (upB hb.out hq); clear hq) | (at_builtin; refine wpList_push _ rfl _ _ 60 rfl w.heap.size 42 i0 (.agg #[.int .i64 0, .int .i64 0, .int .i64 0]) 3 24 Tryz.underlying60 hi hz0 hz1 hz2 rfl (by decide) (by decide) _ m _ rfl ((ho2.out.alloc _).alloc _).rowN _ 1 [.int .i64 d.k, .int .i64 d.a, .int .i64 d.b] rfl rfl (lit_cellsAt _ _ _ _ (by simp)) (by intro u hu; simp at hu; rcases hu with rfl | rfl | rfl <;> rfl) (by omega) (by have := hb2.out.size; simp; omega) ?_; intro A₃ c₃ w3 hr3 hg3; have ho3 := hide (OwnD.push hm.out hwd.out ho2.out.wf hr3); have hb3 := hide (((hb2.out.alloc hb2.out.size _).alloc (by have := hb2.out.size; simp; omega) _).grown hg3 (by have := hb2.out.size; simp; omega) (fun j hj => (ho2.out.row.lt j hj).1)); clear hr3 hg3))
          go_roundw
          case rel => exact ⟨k + 1, k + 1, _, _, _, _, by omega, by go_num, by go_num, rfl, hJ2, ho3, hb3⟩
          case measure => simp [intOf]; omega
      · have hk10 := hide (show (bts s)[k]? ≠ some 10 by
          rw [hat]
          intro e
          injection e with e
          exact hc (by rw [e]; rfl))
        have hcb : (((s[k]'hlt).toNat : Int) == 10) = false := by simp; omega
        have hJ2 := hide (jrnTo_miss hJ.out hk10.out)
        clear hat
        go_wp2
        go_roundw
        case rel => exact ⟨k + 1, F, _, _, _, _, by omega, by go_num, rfl, rfl, hJ2, ho, hb⟩
        case measure => simp [intOf]; omega
    · obtain rfl : k = s.size := by omega
      have hfin := hide (show readJ (bts s) = (ds, F) by
        have := hJ.out
        rw [← hlen.out] at this
        exact jrnTo_end this)
      go_wp2
      go_ret2
      exact ⟨A, m, cc, by rw [hfin.out]; rfl, by rw [hfin.out]; exact ho.out, hb.out⟩
end Go.Proofs.YtpkbmmepapgogaaGreatDoor
