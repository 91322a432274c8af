/-
  Contracts of chapter 14, the program: PlaceOk, DeskOk.
-/
import Derived.Test.YtoafpokcbbncfaaDoorPlaceS
import Derived.Test.YtoafpokcbbncfaaDoorSameI
import Derived.Test.YtoafpokcbbncfaaDoorZri
namespace Go.Proofs.YtoafpokcbbncfaaDoor
open Go.RowKit
set_option linter.unusedVariables false

theorem placeOk_after (p : Plc) : afterOk p.start (sameRule p.start.length p.step) p.word = placeOk p := by
  unfold placeOk
  by_cases hst : startOk p.start = true
  · by_cases hs : stepB p.step = true
    · rw [hst, hs]; rfl
    · have hs : stepB p.step = false := by simpa using hs
      rw [hst, hs]
      unfold afterOk afterC begun sameRule
      rw [hs, Bool.and_false]
      unfold ruleOk
      by_cases h1 : p.start.length = 0
      · rw [h1, show decide (1 ≤ ((0 : Nat) : Int) ∧ ((0 : Nat) : Int) ≤ 3) = false by decide]
        simp
      · rw [if_neg (by decide), decide_eq_false (p := (([] : List (List Int)).length : Int) = p.start.length) (by simp; omega)]
        simp
  · have hst : startOk p.start = false := by simpa using hst
    unfold afterOk afterC begun
    rw [hst]; rfl

set_option maxHeartbeats 1600000 in
theorem placeOk_impl (v : Value) (p : Plc) (B : Nat) (w : World) (h : PlM w B v p) (hB : B ≤ w.heap.size) :
    Calls Tryd.prog 60 #[v] w fun e w' => e = .returned (.bool (placeOk p)) ∧ Below w.heap.size w w' := by
  obtain ⟨A, n, c, A', n', c', rfl, h1, h2, hwf⟩ := h.ex
  obtain ⟨W0, hW0⟩ : ∃ W0, Hid (w.alloc (.cells #[.slice A n c, .int .i64 p.step, .slice A' n' c'] 31) = W0) := ⟨_, hide rfl⟩
  have hq0 := hide (show Below w.heap.size w W0 by rw [← hW0.out]; exact al w _)
  have ht0 := hide (show Tri W0 w.heap.size (.slice A n c) (.int .i64 p.step) (.slice A' n' c') by rw [← hW0.out]; exact Tri.made w _ _ _ _)
  have hl := hide h1.len
  have i1 := hide ((h1.more hB).up hq0.out)
  have i2 := hide ((h2.more hB).up hq0.out)
  have hs := hide hq0.out.size
  have he := hide (placeOk_after p)
  have HA := hide (fun (W : World) (hq : Below W0.heap.size W0 W) => show Calls Tryd.prog 26 #[.int .i64 n, .int .i64 p.step] W (fun e w' => ∃ A₂ n₂ c₂, e = .returned (.slice A₂ n₂ c₂) ∧ Hid (Mat w' w'.heap.size A₂ n₂ c₂ (sameRule p.start.length p.step)) ∧ Below W0.heap.size W0 w' ∧ w'.cell? ⟨w.heap.size, 0, none⟩ = some (.slice A n c) ∧ w'.cell? ⟨w.heap.size, 1, none⟩ = some (.int .i64 p.step) ∧ w'.cell? ⟨w.heap.size, 2, none⟩ = some (.slice A' n' c')) from
    (sameRule_impl n p.step W hwf).mono fun e w' ⟨A₂, n₂, c₂, e1, ho, hq'⟩ => by
      have hk := ht0.out.up (upB hq hq')
      exact ⟨A₂, n₂, c₂, e1, hide (by have := ho.mat; rwa [hl.out]), upB hq hq', hk.c0, hk.c1, hk.c2⟩)
  have HB := hide (fun (A₂ : Option Addr) (n₂ c₂ : Nat) (W1 W : World) (hm : Hid (Mat W1 W1.heap.size A₂ n₂ c₂ (sameRule p.start.length p.step))) (hq1 : Below W1.heap.size W1 W) (hq : Below W0.heap.size W0 W) => show Calls Tryd.prog 27 #[.slice A n c, .slice A₂ n₂ c₂, .slice A' n' c'] W (fun e w' => ∃ A₃ n₃ c₃, e = .returned (.tuple #[.slice A₃ n₃ c₃, .bool (placeOk p)]) ∧ Below W0.heap.size W0 w' ∧ w'.cell? ⟨w.heap.size, 0, none⟩ = some (.slice A n c) ∧ w'.cell? ⟨w.heap.size, 1, none⟩ = some (.int .i64 p.step) ∧ w'.cell? ⟨w.heap.size, 2, none⟩ = some (.slice A' n' c')) from
    (afterWord_impl A A₂ A' n c _ n₂ c₂ _ n' c' _ p.start _ p.word W (i1.out.up hq) (hm.out.up hq1) (i2.out.up hq) (Nat.le_refl _) (Nat.le_refl _) (Nat.le_refl _)).mono fun e w' ⟨A₃, n₃, c₃, e1, ho, hq'⟩ => by
      have hk := ht0.out.up (upB hq hq')
      rw [he.out] at e1
      exact ⟨A₃, n₃, c₃, e1, upB hq hq', hk.c0, hk.c1, hk.c2⟩)
  clear he
  obtain ⟨V, hV⟩ : ∃ V, Hid (placeOk p = V) := ⟨_, hide rfl⟩
  rw [hV.out] at HB ⊢
  obtain ⟨f0, f1, f2, f3⟩ := ht0.out
  have hW1 := hW0.out
  subst hW1
  go_enter Tryd.func60, Tryd.ntmps60
  go_wp2_with fail
  go_region_held3 (fun W => W.cell? ⟨w.heap.size, 0, none⟩ = some (.slice A n c) ∧ W.cell? ⟨w.heap.size, 1, none⟩ = some (.int .i64 p.step) ∧ W.cell? ⟨w.heap.size, 2, none⟩ = some (.slice A' n' c')) (first | exact ⟨f0, f1, f2⟩ | exact ⟨k0, k1, k2⟩ | exact ⟨m0, m1, m2⟩) (first | (go_at_call 26; (with_reducible refine (HA.out _ ?_).mono ?_); (focus (repeat (first | assumption | exact Below.refl _ _ | refine Below.drew ?_)); done); rintro e w' ⟨A₂, n₂, c₂, rfl, hm, hq, k0, k1, k2⟩) | (go_at_call 27; (with_reducible refine (HB.out _ _ _ _ _ hm ?_ ?_).mono ?_); (focus (repeat (first | assumption | exact Below.refl _ _ | refine Below.drew ?_)); done); (focus (repeat (first | assumption | exact Below.refl _ _ | refine Below.drew ?_)); done); rintro e w' ⟨A₃, n₃, c₃, rfl, hq, m0, m1, m2⟩))
  all_goals
    go_wp2_with fail
    go_ret
    exact ⟨rfl, upB hq0.out (by assumption)⟩

theorem deskOk_split2 (d : Dsk) : deskOk d = (decide (d.past.length ≤ 8) && (placeOk d.now && d.past.all placeOk)) := by
  unfold deskOk
  cases d.past.all placeOk <;> cases placeOk d.now <;> simp
set_option maxHeartbeats 1600000 in
theorem deskOk_impl (v : Value) (d : Dsk) (B : Nat) (w : World) (h : DkM w B v d) (hB : B ≤ w.heap.size) :
    Calls Tryd.prog 24 #[v] w fun e w' => e = .returned (.bool (deskOk d)) ∧ Below w.heap.size w w' := by
  obtain ⟨A, n, c, A', n', c', A3, n3, c3, rfl, h1, h2, hwf, hps⟩ := h.ex
  have hp := plM_mk (p := d.now) h1 h2 hwf
  have hl := hide hps.len
  have hnb := hps.nb
  obtain ⟨W0, hW0⟩ : ∃ W0, Hid (w.alloc (.cells #[.slice A n c, .int .i64 d.now.step, .slice A' n' c', .slice A3 n3 c3] 34) = W0) := ⟨_, hide rfl⟩
  have hq0 := hide (show Below w.heap.size w W0 by rw [← hW0.out]; exact al w _)
  have ht0 := hide (show Qua W0 w.heap.size (.slice A n c) (.int .i64 d.now.step) (.slice A' n' c') (.slice A3 n3 c3) by rw [← hW0.out]; exact Qua.made w _ _ _ _ _)
  have i1 := hide ((hp.more hB).up hq0.out)
  have i2 := hide ((hps.more hB).up hq0.out)
  have he := hide (deskOk_split2 d)
  have HP := hide (placeOk_impl _ d.now _ W0 i1.out (Nat.le_refl _))
  obtain ⟨f0, f1, f2, f3, f4⟩ := ht0.out
  have hW1 := hW0.out
  by_cases h8 : n3 ≤ 8
  · have he2 := hide (show deskOk d = (placeOk d.now && d.past.all placeOk) by rw [he.out, decide_eq_true (by rw [hl.out]; exact h8)]; rfl)
    cases hpo : placeOk d.now with
    | false =>
      rw [hpo] at HP he2
      have he3 := hide (show deskOk d = false by rw [he2.out]; rfl)
      clear hpo
      subst hW1
      go_enter Tryd.func24, Tryd.ntmps24
      go_wp2_with (go_at_call 60; refine HP.out.mono ?_; rintro e w2 ⟨rfl, hq2⟩)
      go_ret
      exact ⟨ret_bool he3.out.symm, upB hq0.out hq2⟩
    | true =>
      rw [hpo] at HP he2
      have he3 := hide (show deskOk d = d.past.all placeOk by rw [he2.out]; rfl)
      clear hpo
      subst hW1
      go_enter Tryd.func24, Tryd.ntmps24
      go_wp2_with (go_at_call 60; refine HP.out.mono ?_; rintro e w2 ⟨rfl, hq2⟩; obtain ⟨k0, k1, k2, k3, k4⟩ := ht0.out.up hq2)
      have j2 := hide (i2.out.up hq2)
      have hb2 := hide (upB hq0.out hq2)
      obtain ⟨w5, hw5⟩ : ∃ W, Hid (W = w2) := ⟨_, hide rfl⟩
      go_loopw [18] (fun i wr => ∃ k : Nat, k ≤ n3 ∧ i = .int .i64 k ∧ Hid (∀ (j : Nat) x, j < k → d.past[j]? = some x → placeOk x = true) ∧ Hid (Below w2.heap.size w2 wr)) (fun i _ => n3 - (intOf i).toNat)
      case atStart => exact ⟨0, Nat.zero_le _, rfl, fun j x hj _ => absurd hj (by omega), hide (Below.refl _ _)⟩
      case round =>
        obtain ⟨k, hk, rfl, hall, hb⟩ := hrel
        by_cases hlt : k < n3
        · obtain ⟨b, off, p, rfl, hbB, hx, hc⟩ := (j2.out.up hb.out).look hlt
          obtain ⟨A1, n1, c1, A2, n2, c2, e1, e2, e3, hm⟩ := hc.plM
          have HP2 := hide (fun (W : World) (hq : Below wr.heap.size wr W) => placeOk_impl _ p _ W (hm.up hq) (Nat.le_refl _))
          cases hpo : placeOk p with
          | true =>
            rw [hpo] at HP2
            go_wp2_with (go_at_call 60; refine (HP2.out _ (al _ _)).mono ?_; rintro e w3 ⟨rfl, hq3⟩; have hb3 := hide (upB hb.out (upB (al _ _) hq3)))
            go_roundw
            case rel => exact ⟨k + 1, by omega, by go_num, fun j y hj hy => by
              rcases Nat.lt_or_ge j k with hjk | hjk
              · exact hall.out j y hjk hy
              · obtain rfl : j = k := by omega
                rw [hx.out] at hy; injection hy with hy; rw [← hy]; exact hpo, hb3⟩
            case measure => simp [intOf]; omega
          | false =>
            rw [hpo] at HP2
            have hno := hide (show deskOk d = false by rw [he3.out, all_bad hx.out hpo])
            go_wp2_with (go_at_call 60; refine (HP2.out _ (al _ _)).mono ?_; rintro e w3 ⟨rfl, hq3⟩; have hb3 := hide (upB hb.out (upB (al _ _) hq3)))
            go_ret
            exact ⟨ret_bool hno.out.symm, upB hb2.out hb3.out⟩
        · obtain rfl : k = n3 := by omega
          have hall2 := hide (all_end fun j x hx => hall.out j x (by have := hl.out; have := (List.getElem?_eq_some_iff.1 hx).1; omega) hx)
          go_wp2_with fail
          go_ret
          exact ⟨ret_bool (by rw [he3.out, hall2.out]), upB hb2.out hb.out⟩
  · have hno := hide (show deskOk d = false by rw [he.out, decide_eq_false (by rw [hl.out]; exact h8)]; rfl)
    subst hW1
    go_enter Tryd.func24, Tryd.ntmps24
    go_wp2_with fail
    go_ret
    exact ⟨ret_bool hno.out.symm, hq0.out⟩
end Go.Proofs.YtoafpokcbbncfaaDoor
