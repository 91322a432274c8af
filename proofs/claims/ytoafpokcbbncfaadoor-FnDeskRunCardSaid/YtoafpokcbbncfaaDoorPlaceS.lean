/-
  Contracts of chapter 14, the specification's side: PlaceOk, DeskOk, DeskNew.
-/
import Derived.Test.YtoafpokcbbncfaaDoorPlaceM
import Derived.Test.YtoafpokcbbncfaaDoorZsame
import Derived.Test.YtoafpokcbbncfaaDoorZrule
import Derived.Deep.RegionWith
import Derived.Deep.RegionHeld3
namespace Go.Proofs.YtoafpokcbbncfaaDoor
open Go.RowKit
set_option linter.unusedVariables false

/-- A block of three cells that are only read. -/
structure Tri (w : World) (g : Nat) (x y z : Value) : Prop where
  c0 : w.cell? ⟨g, 0, none⟩ = some x
  c1 : w.cell? ⟨g, 1, none⟩ = some y
  c2 : w.cell? ⟨g, 2, none⟩ = some z
  lt : g < w.heap.size
theorem Tri.made (w : World) (x y z : Value) (T : TypeId) : Tri (w.alloc (.cells #[x, y, z] T)) w.heap.size x y z :=
  ⟨by rw [World.cell?_alloc_new]; rfl, by rw [World.cell?_alloc_new]; rfl, by rw [World.cell?_alloc_new]; rfl, by simp⟩
theorem Tri.up {w w' : World} {g : Nat} {x y z : Value} (h : Tri w g x y z) (hq : Below w.heap.size w w') : Tri w' g x y z :=
  ⟨(hq.cell (p := ⟨g, 0, none⟩) h.lt).trans h.c0, (hq.cell (p := ⟨g, 1, none⟩) h.lt).trans h.c1, (hq.cell (p := ⟨g, 2, none⟩) h.lt).trans h.c2, Nat.lt_of_lt_of_le h.lt hq.size⟩

theorem inY (a lo hi : Int) (w : World) (h : lo ≤ a ∧ a ≤ hi) : Calls Tryd.prog 80 #[.int .i64 a, .int .i64 lo, .int .i64 hi] w fun e w' => e = .returned (.bool true) ∧ w = w' := by
  have := l1In_c a lo hi w
  rwa [decide_eq_true h] at this
theorem inN (a lo hi : Int) (w : World) (h : ¬(lo ≤ a ∧ a ≤ hi)) : Calls Tryd.prog 80 #[.int .i64 a, .int .i64 lo, .int .i64 hi] w fun e w' => e = .returned (.bool false) ∧ w = w' := by
  have := l1In_c a lo hi w
  rwa [decide_eq_false h] at this

set_option maxHeartbeats 1600000 in
theorem placeOk_spec (v : Value) (p : Plc) (B : Nat) (w : World) (h : PlM w B v p) (hB : B ≤ w.heap.size) :
    Calls Tryd.prog 41 #[v] w fun e w' => e = .returned (.bool (placeOk p)) ∧ Below w.heap.size w w' := by
  obtain ⟨A, n, c, A', n', c', rfl, h1, h2, hwf⟩ := h.ex
  obtain ⟨W0, hW0⟩ : ∃ W0, Hid (w.alloc (.cells #[.slice A n c, .int .i64 p.step, .slice A' n' c'] 31) = W0) := ⟨_, hide rfl⟩
  have hq0 := hide (show Below w.heap.size w W0 by rw [← hW0.out]; exact al w _)
  have ht0 := hide (show Tri W0 w.heap.size (.slice A n c) (.int .i64 p.step) (.slice A' n' c') by rw [← hW0.out]; exact Tri.made w _ _ _ _)
  have hl := hide h1.len
  have i1 := hide ((h1.more hB).up hq0.out)
  have i2 := hide ((h2.more hB).up hq0.out)
  have hs := hide hq0.out.size
  have HS := hide (startOk_spec A n c _ p.start W0 i1.out)
  by_cases hst : startOk p.start = true
  · rw [hst] at HS
    by_cases hstep : -1 ≤ p.step ∧ p.step ≤ 3
    · have hd : decide (-1 ≤ p.step ∧ p.step ≤ 3) = true := decide_eq_true hstep
      have HI := hide (inY p.step (-1) 3 W0 hstep)
      have he := hide (show placeOk p = afterOk p.start (sameRule p.start.length p.step) p.word by unfold placeOk; rw [hst, stepB_mk hstep]; rfl)
      have HA := hide (fun (W : World) (hq : Below W0.heap.size W0 W) => show Calls Tryd.prog 82 #[.int .i64 n, .int .i64 p.step] W (fun e w' => ∃ A₂ n₂ c₂, e = .returned (.slice A₂ n₂ c₂) ∧ Hid (Mat w' w'.heap.size A₂ n₂ c₂ (sameRule p.start.length p.step)) ∧ Below W0.heap.size W0 w' ∧ w'.cell? ⟨w.heap.size, 0, none⟩ = some (.slice A n c) ∧ w'.cell? ⟨w.heap.size, 1, none⟩ = some (.int .i64 p.step) ∧ w'.cell? ⟨w.heap.size, 2, none⟩ = some (.slice A' n' c')) from
        (sameRule_spec n p.step W hwf).mono fun e w' ⟨A₂, n₂, c₂, e1, ho, hq'⟩ => by
          have hk := ht0.out.up (upB hq hq')
          exact ⟨A₂, n₂, c₂, e1, hide (by have := ho.mat; rwa [hl.out]), upB hq hq', hk.c0, hk.c1, hk.c2⟩)
      have HB := hide (fun (A₂ : Option Addr) (n₂ c₂ : Nat) (W1 W : World) (hm : Hid (Mat W1 W1.heap.size A₂ n₂ c₂ (sameRule p.start.length p.step))) (hq1 : Below W1.heap.size W1 W) (hq : Below W0.heap.size W0 W) => show Calls Tryd.prog 81 #[.slice A n c, .slice A₂ n₂ c₂, .slice A' n' c'] W (fun e w' => ∃ A₃ n₃ c₃, e = .returned (.tuple #[.slice A₃ n₃ c₃, .bool (afterOk p.start (sameRule p.start.length p.step) p.word)]) ∧ Below W0.heap.size W0 w' ∧ w'.cell? ⟨w.heap.size, 0, none⟩ = some (.slice A n c) ∧ w'.cell? ⟨w.heap.size, 1, none⟩ = some (.int .i64 p.step) ∧ w'.cell? ⟨w.heap.size, 2, none⟩ = some (.slice A' n' c')) from
        (afterWord_spec A A₂ A' n c _ n₂ c₂ _ n' c' _ p.start _ p.word W (i1.out.up hq) (hm.out.up hq1) (i2.out.up hq) (Nat.le_refl _) (Nat.le_refl _) (Nat.le_refl _)).mono fun e w' ⟨A₃, n₃, c₃, e1, ho, hq'⟩ => by
          have hk := ht0.out.up (upB hq hq')
          exact ⟨A₃, n₃, c₃, e1, upB hq hq', hk.c0, hk.c1, hk.c2⟩)
      obtain ⟨V, hV⟩ : ∃ V, Hid (afterOk p.start (sameRule p.start.length p.step) p.word = V) := ⟨_, hide rfl⟩
      rw [hV.out] at HB he
      obtain ⟨f0, f1, f2, f3⟩ := ht0.out
      clear hstep hst
      have hW1 := hW0.out
      subst hW1
      go_enter Tryd.func41, Tryd.ntmps41
      go_wp2_with fail
      refine HS.out.mono ?_
      rintro e w' ⟨rfl, rfl⟩
      go_wp2_with (go_at_call 80; refine HI.out.mono ?_; rintro e w' ⟨rfl, rfl⟩)
      go_region_held3 (fun W => W.cell? ⟨w.heap.size, 0, none⟩ = some (.slice A n c) ∧ W.cell? ⟨w.heap.size, 1, none⟩ = some (.int .i64 p.step) ∧ W.cell? ⟨w.heap.size, 2, none⟩ = some (.slice A' n' c')) (first | exact ⟨f0, f1, f2⟩ | exact ⟨k0, k1, k2⟩ | exact ⟨m0, m1, m2⟩) (first | (go_at_call 82; (with_reducible refine (HA.out _ ?_).mono ?_); (focus (repeat (first | assumption | exact Below.refl _ _ | refine Below.drew ?_)); done); rintro e w' ⟨A₂, n₂, c₂, rfl, hm, hq, k0, k1, k2⟩) | (go_at_call 81; (with_reducible refine (HB.out _ _ _ _ _ hm ?_ ?_).mono ?_); (focus (repeat (first | assumption | exact Below.refl _ _ | refine Below.drew ?_)); done); (focus (repeat (first | assumption | exact Below.refl _ _ | refine Below.drew ?_)); done); rintro e w' ⟨A₃, n₃, c₃, rfl, hq, m0, m1, m2⟩))
      all_goals
        go_wp2_with fail
        go_ret
        exact ⟨ret_bool he.out.symm, upB hq0.out (by assumption)⟩
    · have he := hide (show placeOk p = false by unfold placeOk; rw [stepB_no hstep, Bool.and_false]; rfl)
      have HI := hide (inN p.step (-1) 3 W0 hstep)
      obtain ⟨f0, f1, f2, f3⟩ := ht0.out
      clear hstep hst
      have hW1 := hW0.out
      subst hW1
      go_enter Tryd.func41, Tryd.ntmps41
      go_wp2_with fail
      refine HS.out.mono ?_
      rintro e w' ⟨rfl, rfl⟩
      go_wp2_with (go_at_call 80; refine HI.out.mono ?_; rintro e w' ⟨rfl, rfl⟩)
      go_ret
      exact ⟨ret_bool he.out.symm, hq0.out⟩
  · have hst : startOk p.start = false := by simpa using hst
    rw [hst] at HS
    have he := hide (show placeOk p = false by unfold placeOk; rw [hst]; rfl)
    obtain ⟨f0, f1, f2, f3⟩ := ht0.out
    clear hst
    have hW1 := hW0.out
    subst hW1
    go_enter Tryd.func41, Tryd.ntmps41
    go_wp2_with fail
    refine HS.out.mono ?_
    rintro e w' ⟨rfl, rfl⟩
    go_wp2_with fail
    go_ret
    exact ⟨ret_bool he.out.symm, hq0.out⟩

/-- A block of four cells that are only read. -/
structure Qua (w : World) (g : Nat) (x y z u : Value) : Prop where
  c0 : w.cell? ⟨g, 0, none⟩ = some x
  c1 : w.cell? ⟨g, 1, none⟩ = some y
  c2 : w.cell? ⟨g, 2, none⟩ = some z
  c3 : w.cell? ⟨g, 3, none⟩ = some u
  lt : g < w.heap.size
theorem Qua.made (w : World) (x y z u : Value) (T : TypeId) : Qua (w.alloc (.cells #[x, y, z, u] T)) w.heap.size x y z u :=
  ⟨by rw [World.cell?_alloc_new]; rfl, by rw [World.cell?_alloc_new]; rfl, by rw [World.cell?_alloc_new]; rfl, by rw [World.cell?_alloc_new]; rfl, by simp⟩
theorem Qua.up {w w' : World} {g : Nat} {x y z u : Value} (h : Qua w g x y z u) (hq : Below w.heap.size w w') : Qua w' g x y z u :=
  ⟨(hq.cell (p := ⟨g, 0, none⟩) h.lt).trans h.c0, (hq.cell (p := ⟨g, 1, none⟩) h.lt).trans h.c1, (hq.cell (p := ⟨g, 2, none⟩) h.lt).trans h.c2, (hq.cell (p := ⟨g, 3, none⟩) h.lt).trans h.c3, Nat.lt_of_lt_of_le h.lt hq.size⟩

theorem deskOk_split (d : Dsk) : deskOk d = (d.past.all placeOk && (placeOk d.now && decide (d.past.length ≤ 8))) := by unfold deskOk; rw [Bool.and_assoc]
theorem all_bad {ps : List Plc} {k : Nat} {p : Plc} (h : ps[k]? = some p) (hp : placeOk p = false) : ps.all placeOk = false := List.all_eq_false.2 ⟨p, List.mem_of_getElem? h, by rw [hp]; decide⟩
theorem all_end {ps : List Plc} (h : ∀ (k : Nat) p, ps[k]? = some p → placeOk p = true) : ps.all placeOk = true := List.all_eq_true.2 fun p hp => by
  obtain ⟨k, hk, rfl⟩ := List.getElem_of_mem hp
  exact h k _ (List.getElem?_eq_getElem hk)

set_option maxHeartbeats 1600000 in
theorem deskOk_spec (v : Value) (d : Dsk) (B : Nat) (w : World) (h : DkM w B v d) (hB : B ≤ w.heap.size) :
    Calls Tryd.prog 30 #[v] w fun e w' => e = .returned (.bool (deskOk d)) ∧ Below w.heap.size w w' := by
  obtain ⟨A, n, c, A', n', c', A3, n3, c3, rfl, h1, h2, hwf, hps⟩ := h.ex
  have hp := plM_mk (p := d.now) h1 h2 hwf
  have hl := hide hps.len
  have hnb := hps.nb
  obtain ⟨W0, hW0⟩ : ∃ W0, Hid (w.alloc (.cells #[.slice A n c, .int .i64 d.now.step, .slice A' n' c', .slice A3 n3 c3] 34) = W0) := ⟨_, hide rfl⟩
  have hq0 := hide (show Below w.heap.size w W0 by rw [← hW0.out]; exact al w _)
  have ht0 := hide (show Qua W0 w.heap.size (.slice A n c) (.int .i64 d.now.step) (.slice A' n' c') (.slice A3 n3 c3) by rw [← hW0.out]; exact Qua.made w _ _ _ _ _)
  have i1 := hide ((hp.more hB).up hq0.out)
  have i2 := hide ((hps.more hB).up hq0.out)
  have he := hide (deskOk_split d)
  have hW1 := hW0.out
  subst hW1
  go_enter Tryd.func30, Tryd.ntmps30
  go_wp2
  go_loopw [3] (fun i wr => ∃ k : Nat, k ≤ n3 ∧ i = .int .i64 k ∧ Hid (∀ (j : Nat) x, j < k → d.past[j]? = some x → placeOk x = true) ∧ Hid (Below (w.alloc (.cells #[.slice A n c, .int .i64 d.now.step, .slice A' n' c', .slice A3 n3 c3] 34)).heap.size (w.alloc (.cells #[.slice A n c, .int .i64 d.now.step, .slice A' n' c', .slice A3 n3 c3] 34)) wr)) (fun i _ => n3 - (intOf i).toNat)
  case atStart => exact ⟨0, Nat.zero_le _, rfl, fun j x hj _ => absurd hj (by omega), hide (Below.refl _ _)⟩
  case round =>
    obtain ⟨k, hk, rfl, hall, hb⟩ := hrel
    obtain ⟨f0, f1, f2, f3, f4⟩ := ht0.out.up hb.out
    by_cases hlt : k < n3
    · obtain ⟨b, off, p, rfl, hbB, hx, hc⟩ := (i2.out.up hb.out).look hlt
      obtain ⟨A1, n1, c1, A2, n2, c2, e1, e2, e3, hm⟩ := hc.plM
      have HP := hide (placeOk_spec _ p _ wr hm (Nat.le_refl _))
      by_cases hpo : placeOk p = true
      · rw [hpo] at HP
        go_wp2_with (go_at_call 41; refine HP.out.mono ?_; rintro e w2 ⟨rfl, hq2⟩)
        go_roundw
        case rel => exact ⟨k + 1, by omega, by go_num, fun j y hj hy => by
          rcases Nat.lt_or_ge j k with hjk | hjk
          · exact hall.out j y hjk hy
          · obtain rfl : j = k := by omega
            rw [hx.out] at hy; injection hy with hy; rw [← hy]; exact hpo, upB hb.out hq2⟩
        case measure => simp [intOf]; omega
      · have hpo : placeOk p = false := by simpa using hpo
        rw [hpo] at HP
        have hno := hide (show deskOk d = false by rw [he.out, all_bad hx.out hpo]; rfl)
        go_wp2_with (go_at_call 41; refine HP.out.mono ?_; rintro e w2 ⟨rfl, hq2⟩)
        go_ret
        exact ⟨ret_bool hno.out.symm, upB hq0.out (upB hb.out hq2)⟩
    · obtain rfl : k = n3 := by omega
      have hall2 := hide (all_end fun j x hx => hall.out j x (by have := hl.out; have := (List.getElem?_eq_some_iff.1 hx).1; omega) hx)
      have HP := hide (placeOk_spec _ d.now _ wr (i1.out.up hb.out) (Nat.le_refl _))
      have he2 := hide (show deskOk d = (placeOk d.now && decide (k ≤ 8)) by rw [he.out, hall2.out, hl.out]; rfl)
      by_cases hpo : placeOk d.now = true
      · rw [hpo] at HP he2
        go_wp2_with (go_at_call 41; refine HP.out.mono ?_; rintro e w2 ⟨rfl, hq2⟩; have k3 := (hq2.cell (p := ⟨w.heap.size, 3, none⟩) f4).trans f3)
        go_ret
        exact ⟨ret_bool (by rw [he2.out, Bool.true_and]; exact decide_eq_decide.2 (by omega)), upB hq0.out (upB hb.out hq2)⟩
      · have hpo : placeOk d.now = false := by simpa using hpo
        rw [hpo] at HP he2
        go_wp2_with (go_at_call 41; refine HP.out.mono ?_; rintro e w2 ⟨rfl, hq2⟩)
        go_ret
        exact ⟨ret_bool (by rw [he2.out]; rfl), upB hq0.out (upB hb.out hq2)⟩
end Go.Proofs.YtoafpokcbbncfaaDoor
