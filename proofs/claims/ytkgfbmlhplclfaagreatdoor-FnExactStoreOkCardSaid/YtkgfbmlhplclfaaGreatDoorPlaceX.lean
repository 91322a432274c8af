/-
  Contracts of the exact laws' helpers over places: toPlace, szPlace, eqPlace (written by wip/gen_e7.py).
-/
import Derived.Test.YtkgfbmlhplclfaaGreatDoorPlaceS
import Derived.Test.YtkgfbmlhplclfaaGreatDoorZrows
import Derived.Test.YtkgfbmlhplclfaaGreatDoorZpd
import Derived.Test.YtkgfbmlhplclfaaGreatDoorZpb
import Derived.Deep.RegionHeld3
namespace Go.Proofs.YtkgfbmlhplclfaaGreatDoor
open Go.RowKit
set_option linter.unusedVariables false

/-- What toPlace hands back: a place whose two rows the call made. -/
structure PlO (w : World) (base : Nat) (v : Value) (p : Plc) : Prop where
  ex : ∃ g n c g' n' c', v = .agg #[.slice (some ⟨g, 0, none⟩) n c, .int .i64 p.step, .slice (some ⟨g', 0, none⟩) n' c'] ∧ Own w base (.slice (some ⟨g, 0, none⟩) n c) p.start ∧ Own w base (.slice (some ⟨g', 0, none⟩) n' c') p.word ∧ g ≠ g' ∧ (Lit.int .i64 p.step).wf = true
theorem PlO.up {w w' : World} {base : Nat} {v : Value} {p : Plc} (h : PlO w base v p) (hq : Below w.heap.size w w') : PlO w' base v p := by
  obtain ⟨g, n, c, g', n', c', e, h1, h2, h3, h4⟩ := h.ex
  exact ⟨g, n, c, g', n', c', e, h1.up hq, h2.up hq, h3, h4⟩
theorem PlO.plM {w : World} {base : Nat} {v : Value} {p : Plc} (h : PlO w base v p) : PlM w w.heap.size v p := by
  obtain ⟨g, n, c, g', n', c', rfl, h1, h2, h3, h4⟩ := h.ex
  exact plM_mk h1.ints h2.ints h4
theorem PlO.down {w : World} {base base' : Nat} {v : Value} {p : Plc} (h : PlO w base v p) (hb : base' ≤ base) : PlO w base' v p := by
  obtain ⟨g, n, c, g', n', c', e, h1, h2, h3, h4⟩ := h.ex
  exact ⟨g, n, c, g', n', c', e, h1.down hb, h2.down hb, h3, h4⟩
theorem PlO.setLow {w : World} {base : Nat} {v : Value} {p : Plc} (h : PlO w base v p) {a : Addr} (ha : a.block < base) (u : Value) : PlO (w.setCell a u) base v p := by
  obtain ⟨g, n, c, g', n', c', e, h1, h2, h3, h4⟩ := h.ex
  exact ⟨g, n, c, g', n', c', e, h1.setLow ha u, h2.setLow ha u, h3, h4⟩

/-- Whether two places read alike. -/
def sameP (p q : Plc) : Bool := sameL p.start q.start && decide (p.step = q.step) && sameL p.word q.word
theorem sameP_refl (p : Plc) : sameP p p = true := by simp [sameP, sameL_refl]
theorem eqPlace_c (v v' : Value) (p q : Plc) (B B' : Nat) (w : World) (h : PlM w B v p) (h' : PlM w B' v' q) (hB : B ≤ w.heap.size) (hB' : B' ≤ w.heap.size) :
    Calls Tryz.prog 10 #[v, v'] w fun e w' => e = .returned (.bool (sameP p q)) ∧ Below w.heap.size w w' := by
  obtain ⟨A, n, c, A', n', c', rfl, i1, i2, hwf⟩ := h.ex
  obtain ⟨D, m, d, D', m', d', rfl, k1, k2, hwf'⟩ := h'.ex
  have hq0 := hide (show Below w.heap.size w ((w.alloc (.cells #[.slice A n c, .int .i64 p.step, .slice A' n' c'] 24)).alloc (.cells #[.slice D m d, .int .i64 q.step, .slice D' m' d'] 24)) from (al w _).alloc (by simp) _)
  have ht := hide (show Tri ((w.alloc (.cells #[.slice A n c, .int .i64 p.step, .slice A' n' c'] 24)).alloc (.cells #[.slice D m d, .int .i64 q.step, .slice D' m' d'] 24)) w.heap.size (.slice A n c) (.int .i64 p.step) (.slice A' n' c') from (Tri.made w _ _ _ _).up (al _ _))
  have hu := hide (show Tri ((w.alloc (.cells #[.slice A n c, .int .i64 p.step, .slice A' n' c'] 24)).alloc (.cells #[.slice D m d, .int .i64 q.step, .slice D' m' d'] 24)) (w.heap.size + 1) (.slice D m d) (.int .i64 q.step) (.slice D' m' d') from by have := Tri.made (w.alloc (.cells #[.slice A n c, .int .i64 p.step, .slice A' n' c'] 24)) (.slice D m d) (.int .i64 q.step) (.slice D' m' d') 24; simpa using this)
  obtain ⟨WX, hW0⟩ : ∃ WX, Hid ((w.alloc (.cells #[.slice A n c, .int .i64 p.step, .slice A' n' c'] 24)).alloc (.cells #[.slice D m d, .int .i64 q.step, .slice D' m' d'] 24) = WX) := ⟨_, hide rfl⟩
  rw [hW0.out] at hq0 ht hu
  have j1 := hide ((i1.more hB).up hq0.out)
  have j2 := hide ((i2.more hB).up hq0.out)
  have l1 := hide ((k1.more hB').up hq0.out)
  have l2 := hide ((k2.more hB').up hq0.out)
  have HA := hide (quietB (eqIntS_c A D n c _ m d _ p.start q.start WX j1.out l1.out))
  have HB := hide (fun (W : World) (hq : Below WX.heap.size WX W) => quietB (eqIntS_c A' D' n' c' _ m' d' _ p.word q.word W (j2.out.up hq) (l2.out.up hq)))
  obtain ⟨t0, t1, t2, _⟩ := ht.out
  obtain ⟨u0, u1, u2, _⟩ := hu.out
  have he := hide (show sameP p q = (sameL p.start q.start && decide (p.step = q.step) && sameL p.word q.word) from rfl)
  obtain ⟨X, hX⟩ : ∃ X, Hid (sameL p.start q.start = X) := ⟨_, hide rfl⟩
  obtain ⟨Y, hY⟩ : ∃ Y, Hid (sameL p.word q.word = Y) := ⟨_, hide rfl⟩
  rw [hX.out] at HA he
  rw [hY.out] at HB he
  clear hX hY
  have hW1 := hW0.out
  subst hW1
  cases X with
  | false =>
    have he2 := hide (show sameP p q = false by rw [he.out]; rfl)
    go_enter Tryz.func10, Tryz.ntmps10
    go_wp2_with fail
    refine HA.out.mono ?_
    rintro e w2 ⟨rfl, hq⟩
    have hb := hide (upB hq0.out hq)
    go_wp2_with fail
    go_ret
    exact ⟨ret_bool he2.out.symm, hb.out⟩
  | true =>
    by_cases hst : p.step = q.step
    · have he2 := hide (show sameP p q = Y by rw [he.out, decide_eq_true hst]; rfl)
      replace hst := hide hst
      go_enter Tryz.func10, Tryz.ntmps10
      go_wp2_with fail
      refine HA.out.mono ?_
      rintro e w2 ⟨rfl, hq⟩
      have hb := hide (upB hq0.out hq)
      replace HB := hide (HB.out _ hq)
      obtain ⟨a0, a1, a2, _⟩ := ht.out.up hq
      obtain ⟨b0, b1, b2, _⟩ := hu.out.up hq
      rw [hst.out] at a1
      go_wp2_with fail
      refine HB.out.mono ?_
      rintro e w3 ⟨rfl, hq3⟩
      have hb3 := hide (upB hb.out hq3)
      cases Y with
      | false =>
        go_wp2_with fail
        go_ret
        exact ⟨ret_bool he2.out.symm, hb3.out⟩
      | true =>
        go_wp2_with fail
        go_ret
        exact ⟨ret_bool he2.out.symm, hb3.out⟩
    · have he2 := hide (show sameP p q = false by rw [he.out, decide_eq_false hst]; rfl)
      go_enter Tryz.func10, Tryz.ntmps10
      go_wp2_with fail
      refine HA.out.mono ?_
      rintro e w2 ⟨rfl, hq⟩
      have hb := hide (upB hq0.out hq)
      obtain ⟨a0, a1, a2, _⟩ := ht.out.up hq
      obtain ⟨b0, b1, b2, _⟩ := hu.out.up hq
      go_wp2_with fail
      go_ret
      exact ⟨ret_bool he2.out.symm, hb.out⟩
end Go.Proofs.YtkgfbmlhplclfaaGreatDoor
