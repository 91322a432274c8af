/-
  Contracts of the laws' helpers samePlace, sameDesk and noDesk (written by wip/gen_f2.py).
-/
import Derived.Test.YtkgfbmlhplclfaaGreatDoorPlaceX
import Derived.Test.YtkgfbmlhplclfaaGreatDoorZdraw
import Derived.Deep.RegionHeld3
import Derived.Deep.RegionLaw
namespace Go.Proofs.YtkgfbmlhplclfaaGreatDoor
open Go.RowKit
set_option linter.unusedVariables false

theorem samePlace_c (v v' : Value) (p q : Plc) (B B' : Nat) (w : World) (h : PlM w B v p) (h' : PlM w B' v' q) (hB : B ≤ w.heap.size) (hB' : B' ≤ w.heap.size) :
    Calls Tryz.prog 18 #[v, v'] w fun e w' => e = .returned (.bool (sameP p q)) ∧ Below w.heap.size w w' := by
  obtain ⟨A, n, c, A', n', c', rfl, i1, i2, hwf⟩ := h.ex
  obtain ⟨D, m, d, D', m', d', rfl, k1, k2, hwf'⟩ := h'.ex
  have hq0 := hide (show Below w.heap.size w ((w.alloc (.cells #[.slice A n c, .int .i64 p.step, .slice A' n' c'] 24)).alloc (.cells #[.slice D m d, .int .i64 q.step, .slice D' m' d'] 24)) from (al w _).alloc (by simp) _)
  have ht := hide (show Tri ((w.alloc (.cells #[.slice A n c, .int .i64 p.step, .slice A' n' c'] 24)).alloc (.cells #[.slice D m d, .int .i64 q.step, .slice D' m' d'] 24)) w.heap.size (.slice A n c) (.int .i64 p.step) (.slice A' n' c') from (Tri.made w _ _ _ _).up (al _ _))
  have hu := hide (show Tri ((w.alloc (.cells #[.slice A n c, .int .i64 p.step, .slice A' n' c'] 24)).alloc (.cells #[.slice D m d, .int .i64 q.step, .slice D' m' d'] 24)) (w.heap.size + 1) (.slice D m d) (.int .i64 q.step) (.slice D' m' d') from by have := Tri.made (w.alloc (.cells #[.slice A n c, .int .i64 p.step, .slice A' n' c'] 24)) (.slice D m d) (.int .i64 q.step) (.slice D' m' d') 24; simpa using this)
  obtain ⟨WX, hW0⟩ : ∃ WX, Hid ((w.alloc (.cells #[.slice A n c, .int .i64 p.step, .slice A' n' c'] 24)).alloc (.cells #[.slice D m d, .int .i64 q.step, .slice D' m' d'] 24) = WX) := ⟨_, hide rfl⟩
  rw [hW0.out] at hq0 ht hu
  have j1 := hide ((i1.more hB).up hq0.out)
  have j2 := hide ((i2.more hB).up hq0.out)
  have l1 := hide ((k1.more hB').up hq0.out)
  have l2 := hide ((k2.more hB').up hq0.out)
  have HA := hide (quietB (sameInts_c A D n c _ m d _ p.start q.start WX j1.out l1.out))
  have HB := hide (fun (W : World) (hq : Below WX.heap.size WX W) => quietB (sameInts_c A' D' n' c' _ m' d' _ p.word q.word W (j2.out.up hq) (l2.out.up hq)))
  obtain ⟨t0, t1, t2, _⟩ := ht.out
  obtain ⟨u0, u1, u2, _⟩ := hu.out
  have he := hide (show sameP p q = (sameL p.start q.start && decide (p.step = q.step) && sameL p.word q.word) from rfl)
  obtain ⟨X, hX⟩ : ∃ X, Hid (sameL p.start q.start = X) := ⟨_, hide rfl⟩
  obtain ⟨Y, hY⟩ : ∃ Y, Hid (sameL p.word q.word = Y) := ⟨_, hide rfl⟩
  rw [hX.out] at HA he
  rw [hY.out] at HB he
  clear hX hY
  have hW1 := hW0.out
  subst hW1
  cases X with
  | false =>
    have he2 := hide (show sameP p q = false by rw [he.out]; rfl)
    go_enter Tryz.func18, Tryz.ntmps18
    go_wp2_with fail
    refine HA.out.mono ?_
    rintro e w2 ⟨rfl, hq⟩
    have hb := hide (upB hq0.out hq)
    go_wp2_with fail
    go_ret
    exact ⟨ret_bool he2.out.symm, hb.out⟩
  | true =>
    by_cases hst : p.step = q.step
    · have he2 := hide (show sameP p q = Y by rw [he.out, decide_eq_true hst]; rfl)
      replace hst := hide hst
      go_enter Tryz.func18, Tryz.ntmps18
      go_wp2_with fail
      refine HA.out.mono ?_
      rintro e w2 ⟨rfl, hq⟩
      have hb := hide (upB hq0.out hq)
      replace HB := hide (HB.out _ hq)
      obtain ⟨a0, a1, a2, _⟩ := ht.out.up hq
      obtain ⟨b0, b1, b2, _⟩ := hu.out.up hq
      rw [hst.out] at a1
      go_wp2_with fail
      refine HB.out.mono ?_
      rintro e w3 ⟨rfl, hq3⟩
      have hb3 := hide (upB hb.out hq3)
      cases Y with
      | false =>
        go_wp2_with fail
        go_ret
        exact ⟨ret_bool he2.out.symm, hb3.out⟩
      | true =>
        go_wp2_with fail
        go_ret
        exact ⟨ret_bool he2.out.symm, hb3.out⟩
    · have he2 := hide (show sameP p q = false by rw [he.out, decide_eq_false hst]; rfl)
      go_enter Tryz.func18, Tryz.ntmps18
      go_wp2_with fail
      refine HA.out.mono ?_
      rintro e w2 ⟨rfl, hq⟩
      have hb := hide (upB hq0.out hq)
      obtain ⟨a0, a1, a2, _⟩ := ht.out.up hq
      obtain ⟨b0, b1, b2, _⟩ := hu.out.up hq
      go_wp2_with fail
      go_ret
      exact ⟨ret_bool he2.out.symm, hb.out⟩

/-- Whether two desks read alike. -/
def sameAt (ps qs : List Plc) (j : Nat) : Bool := match ps[j]?, qs[j]? with
  | some p, some q => sameP p q
  | _, _ => true
def samePs (ps qs : List Plc) : Bool := decide (ps.length = qs.length) && (List.range ps.length).all (sameAt ps qs)
def sameK (d e : Dsk) : Bool := sameP d.now e.now && samePs d.past e.past
theorem samePs_len {ps qs : List Plc} (h : ps.length ≠ qs.length) : samePs ps qs = false := by unfold samePs; rw [decide_eq_false h]; rfl
theorem samePs_bad {ps qs : List Plc} {j : Nat} {p q : Plc} (h1 : ps[j]? = some p) (h2 : qs[j]? = some q) (h : sameP p q = false) : samePs ps qs = false := by
  unfold samePs
  rw [Bool.and_eq_false_iff]
  refine .inr (List.all_eq_false.2 ⟨j, List.mem_range.2 (List.getElem?_eq_some_iff.1 h1).1, ?_⟩)
  unfold sameAt
  rw [h1, h2]
  simp [h]
theorem samePs_good {ps qs : List Plc} (hl : ps.length = qs.length) (h : ∀ (j : Nat) p q, ps[j]? = some p → qs[j]? = some q → sameP p q = true) : samePs ps qs = true := by
  unfold samePs
  rw [decide_eq_true hl, Bool.true_and, List.all_eq_true]
  intro j _
  unfold sameAt
  cases h1 : ps[j]? with
  | none => rfl
  | some p =>
    cases h2 : qs[j]? with
    | none => rfl
    | some q => exact h j p q h1 h2
theorem samePs_refl (ps : List Plc) : samePs ps ps = true := samePs_good rfl fun j p q h1 h2 => by
  rw [h1] at h2
  injection h2 with h2
  rw [h2, sameP_refl]
theorem sameK_refl (d : Dsk) : sameK d d = true := by unfold sameK; rw [sameP_refl, samePs_refl]; rfl

end Go.Proofs.YtkgfbmlhplclfaaGreatDoor
